import Derived.Test.YtmloadclmjcbbaaGreatDoorRaf
namespace Go.Proofs.YtmloadclmjcbbaaGreatDoor.Mu
open Go Go.RowKit Go.Shelf
attribute [local go_sem] Oper.semAt_some
set_option linter.unusedVariables false
set_option maxRecDepth 100000
section
variable {P : Program} {Q : Exit -> Act -> World -> Prop}
theorem qee{l:List Oper}(I:Array Bool->Act->World->Prop)(hf:fwdB l.toArray l.length=true)
  (hstep:∀ listed a w i,listed.size=l.length->I listed a w->i<l.length->listed.getD i true=false->i∈Region.ready .any l.toArray listed->wpOp P l.toArray Q i (I (listed.setIfInBounds i true)) a w)
  (hend:∀ listed a w,I listed a w->(∀ i,i<l.length->listed.getD i false=true)->Q .normal a w) :
  ∀ (c:Nat) (listed:Array Bool) (a:Act) (w:World),cntG l.length listed=c->listed.size=l.length->I listed a w->wpAny P .any l.toArray Q c listed a w:=by
 intro c;induction c with
 | zero=>
  intro listed a w hc0 hsz hI;have hall:=qa8 hc0;refine⟨List.eq_nil_iff_forall_not_mem.2 fun i hi=>?_,hend listed a w hI fun i hi=>?_⟩
  ·have h1:=(mem_ready.1 hi).1
   rcases Nat.lt_or_ge i l.length with h | h
   ·rw[hall i h]at h1;cases h1
   ·rw[gDd,Array.getElem?_eq_none (by omega)]at h1
    cases h1
  ·have h1:=hall i hi
   have h2:i<listed.size:=by omega
   simp[h2]at h1 ⊢;exact h1
 | succ c ih=>
  intro listed a w hcc hsz hI;obtain⟨i0,hi0,hu0⟩:=qcF (show 0<cntG l.length listed by omega);refine⟨fun hr=>?_,fun i hi=>?_⟩
  ·exfalso
   have hmin:∃ i,i<l.length/\listed.getD i true=false/\∀ j,j<i->listed.getD j true=true:=by
    have key:∀ m,(∃ i,i<m/\listed.getD i true=false)->∃ i,i<m/\listed.getD i true=false/\∀ j,j<i->listed.getD j true=true:=by
     intro m;induction m with
     | zero=>rintro⟨i,hi,_⟩;omega
     | succ m ihm=>
      rintro⟨i,hi,hu⟩;by_cases hex:∃ i,i<m/\listed.getD i true=false
      ·obtain⟨i,hi,h⟩:=ihm hex
       exact⟨i,by omega,h⟩
      ·obtain rfl:i=m:=by
        by_cases e:i=m
        ·exact e
        ·exact absurd ⟨i,by omega,hu⟩ hex
       refine⟨i,hi,hu,fun j hj=>?_⟩;by_cases hb:listed.getD j true=true
       ·exact hb
       ·exact absurd ⟨j,hj,by simpa using hb⟩ hex
    exact key l.length ⟨i0,hi0,hu0⟩
   obtain⟨i,hi,hu,hless⟩:=hmin;have h:=qbp hf hi hu hless (by omega);rw[hr]at h;cases h
  ·have hun:=(mem_ready.1 hi).1
   have hin:i<l.length:=by
    rcases Nat.lt_or_ge i l.length with h | h
    ·exact h
    ·rw[gDd,Array.getElem?_eq_none (by omega)]at hun
     cases hun
   refine wpOp_mono (fun a' w' h'=>ih _ a' w' ?_ (by simpa using hsz) h') (hstep listed a w i hsz hI hin hun hi);have:=qcG hin (show i<listed.size by omega) hun;omega
theorem J8{id:Nat}{l:List Oper}(a0:Act)(w0:World)(F:Nat->Value->World->Prop)(hm:P.follows .mixedOrders=true)(hf:fwdB l.toArray l.length=true)(hsl:QD l.toArray a0.tmps.size=true)
  (hmono:∀ i v w w',i<l.length->F i v w->Bel w w'->F i v w')
  (hstep:∀ i o,i<l.length->l.toArray[i]?=some o->∀ (a:Act) (w:World) (V:Nat->Value),Bel w0.drew w →
   (∀ e∈o.after,Region.binds .any e=true->F e.on (V e.on) w/\∀ d,(l.toArray[e.on]?).bind (·.dst)=some d->a.eval (.tmp d)=V e.on)->(∀ s,s<a0.tmps.size->zA l.toArray s=none->a.eval (.tmp s)=a0.eval (.tmp s)) →
   ∀ K:Act->World->Prop,(∀ v w',Bel w w'->F i v w'->K (a.put o.dst v) w')->(Region.wanted o (yielded l.toArray a.tmps)=true->Oper.wp P o a w K Q)/\(Region.wanted o (yielded l.toArray a.tmps)=false->F i undef w))
  (hend:∀ (V:Nat->Value) (w:World),Bel w0.drew w->(∀ i,i<l.length->F i (V i) w)->Q .normal (finA l.toArray l.length V a0) w) :
  (Code.region id l.toArray true).wp P Q a0 w0:=by
 refine wp_region_any hm ?_;have key:=qee (P:=P) (Q:=Q) (l:=l) (fun listed a w=>listed.size=l.length/\Bel w0.drew w/\∃ (V:Nat->Value),Filled l.toArray listed V a0 a/\∀ i,i<l.length->listed.getD i false=true->F i (V i) w) hf ?_ ?_ l.length (Array.replicate l.length false) a0 w0.drew (qcE (by omega)) (by simp) ⟨by simp,Bel.refl _,fun _=>undef,⟨rfl,rfl,fun s hs=>by cases zA l.toArray s <;> simp only[getD_replicate_false,Bool.false_eq_true,if_false]⟩,fun i _ hi=>by rw[getD_replicate_false]at hi;cases hi⟩
 ·simpa using key
 ·rintro listed a w i hsz0 ⟨hsz,hbel,V,hfill,hF⟩ hin hun hr
  obtain⟨_,o,ho,hall⟩:=mem_ready.1 hr;have hKK:∀ v w',Bel w w'->F i v w'->(listed.setIfInBounds i true).size=l.length/\Bel w0.drew w'/\∃ (V:Nat->Value),Filled l.toArray (listed.setIfInBounds i true) V a0 (a.put o.dst v)/\∀ j,j<l.length->(listed.setIfInBounds i true).getD j false=true->F j (V j) w':=
   fun v w' hb hFi=>⟨by simpa using hsz,hbel.on hb,fun j=>if j=i then v else V j,hfill.put hsl ho (by omega) v,fun j hj hl=>by
    by_cases e:j=i
    ·subst e;simp only[if_true];exact hFi
    ·simp only[if_neg e]
     rw[getD_set_ne false (fun e'=>e e'.symm)]at hl;exact hmono j _ w w' hj (hF j hj hl) hb⟩
  have hK:=hstep i o hin ho a w V hbel (fun e he hb=>by
   have hl:=hall e he hb;have hen:e.on<l.length:=by
    rcases Nat.lt_or_ge e.on l.length with h | h
    ·exact h
    ·rw[gDd,Array.getElem?_eq_none (by omega)]at hl
     cases hl
   exact⟨hF _ hen hl,fun d hd=>hfill.eval hsl hl hd⟩) (fun s hs hn=>hfill.par hn hs)
   (fun a' w'=>(listed.setIfInBounds i true).size=l.length/\Bel w0.drew w'/\∃ (V:Nat->Value),Filled l.toArray (listed.setIfInBounds i true) V a0 a'/\∀ j,j<l.length->(listed.setIfInBounds i true).getD j false=true->F j (V j) w')
   hKK
  unfold wpOp;simp only[ho];by_cases hw:Region.wanted o (yielded l.toArray a.tmps)=true
  ·rw[if_pos hw]
   exact .inl (hK.1 hw)
  ·rw[if_neg hw]
   exact hKK undef w (Bel.refl _) (hK.2 (by simpa using hw))
 ·rintro listed a w ⟨hsz,hbel,V,hfill,hF⟩ hall
  rw[hfill.fin hall (fun i hi=>by rw[gDd,Array.getElem?_eq_none (by omega)];rfl)];exact hend V w hbel fun i hi=>hF i hi (hall i hi)
theorem JS{id:Nat}{l:List Oper}(n:Nat)(hn:l.length=n)(a0:Act)(w0:World)(F:Nat->Value->World->Prop)(hm:P.follows .mixedOrders=true)(hf:fwdB l.toArray n=true)(hsl:QD l.toArray a0.tmps.size=true)
  (hmono:∀ i v w w',i<n->F i v w->Bel w w'->F i v w')
  (hstep:∀ i o,i<n->l.toArray[i]?=some o->∀ (a:Act) (w:World) (V:Nat->Value),Bel w0.drew w →
   (∀ e∈o.after,Region.binds .any e=true->F e.on (V e.on) w/\∀ d,(l.toArray[e.on]?).bind (·.dst)=some d->a.eval (.tmp d)=V e.on)->(∀ s,s<a0.tmps.size->zA l.toArray s=none->a.eval (.tmp s)=a0.eval (.tmp s)) →
   ∀ K:Act->World->Prop,(∀ v w',Bel w w'->F i v w'->K (a.put o.dst v) w')->(Region.wanted o (yielded l.toArray a.tmps)=true->Oper.wp P o a w K Q)/\(Region.wanted o (yielded l.toArray a.tmps)=false->F i undef w))
  (hend:∀ (V:Nat->Value) (w:World),Bel w0.drew w->(∀ i,i<n->F i (V i) w)->Q .normal (finA l.toArray n V a0) w) :
  (Code.region id l.toArray true).wp P Q a0 w0:=by
 subst hn;exact J8 a0 w0 F hm hf hsl hmono hstep hend
end
end Go.Proofs.YtmloadclmjcbbaaGreatDoor.Mu
