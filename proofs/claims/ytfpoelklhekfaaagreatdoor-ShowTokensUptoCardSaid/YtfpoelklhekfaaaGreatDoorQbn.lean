import Derived.Test.YtfpoelklhekfaaaGreatDoorQah
namespace Go.Proofs.YtfpoelklhekfaaaGreatDoor.Mu
open Go Go.RowKit Go.Shelf
def qgQ(ops:Array Oper)(n s:Nat):Bool:=match qP ops s with
 | some q=>decide (n<=q)
 | none=>true
theorem Filled.late{ops:Array Oper}{listed:Array Bool}{V:Nat->Value}{a0 a:Act}{n:Nat}(h:Filled ops listed V a0 a)(htl:∀ t,n<=t->listed.getD t false=false){s:Nat}(hs:qgQ ops n s=true)(hlt:s<a0.tmps.size):a.eval (.tmp s)=a0.eval (.tmp s):=by
 show a.tmps.getD s undef=a0.tmps.getD s undef
 rw[h.2.2 s hlt];unfold qgQ at hs;cases hq:qP ops s with
 | none=>rfl
 | some q=>
  rw[hq]at hs;have hn:n<=q:=by simpa using hs
  simp only[htl q hn];rfl
section
variable {P : Program} {Q : Exit -> Act -> World -> Prop}
theorem jr{id:Nat}{l:List Oper}(n:Nat)(a0:Act)(w0:World)(F:Nat->Value->World->Prop)(hm:P.follows .mixedOrders=true)(hB:zC .any l.toArray n=true)(hf:fwdB l.toArray n=true)(hsl:qN l.toArray a0.tmps.size=true)
  (hq:Region.seqB .any l.toArray (l.length-n) n (Array.replicate n true++Array.replicate (l.length-n) false)=true)
  (hmono:∀ i v w w',i<n->F i v w->Bel w w'->F i v w')
  (hstep:∀ i o,i<n->l.toArray[i]?=some o->∀ (a:Act) (w:World) (V:Nat->Value),Bel w0.drew w →
   (∀ e∈o.after,Region.binds .any e=true->F e.on (V e.on) w/\∀ d,(l.toArray[e.on]?).bind (·.dst)=some d->a.eval (.tmp d)=V e.on)->(∀ s,s<a0.tmps.size->qgQ l.toArray n s=true->a.eval (.tmp s)=a0.eval (.tmp s)) →
   ∀ K:Act->World->Prop,(∀ v w',Bel w w'->F i v w'->K (a.put o.dst v) w')->(Region.wanted o (yielded l.toArray a.tmps)=true->Oper.wp P o a w K Q)/\(Region.wanted o (yielded l.toArray a.tmps)=false->F i undef w))
  (hend:∀ (V:Nat->Value) (w:World),Bel w0.drew w->(∀ i,i<n->F i (V i) w)->wpList P l.toArray Q (l.drop n) (finA l.toArray n V a0) w) :
  (Code.region id l.toArray true).wp P Q a0 w0:=by
 have hn':n<l.length:=by
  simp only[zC,Bool.and_eq_true,decide_eq_true_eq]at hB;simpa using hB.1.1.2
 refine wp_region_any hm ?_;have inv0:HeadInv .any l.toArray n (Array.replicate l.length false):=
  ⟨by simp,fun j oj _ hl=>(by rw[getD_replicate_false]at hl;cases hl),fun t _ ht=>getD_in (by simpa using ht) (getD_replicate_false _ _)⟩
 have key:=Qe (P:=P) (Q:=Q) (l:=l) (n:=n) (fun listed a w=>listed.size=l.length/\(∀ t,n<=t->listed.getD t false=false)/\Bel w0.drew w/\∃ (V:Nat->Value),Filled l.toArray listed V a0 a/\∀ i,i<n->listed.getD i false=true->F i (V i) w) hB hf hq ?_ ?_ n (Array.replicate l.length false) a0 w0.drew (Qv (by omega)) inv0 ⟨by simp,fun t _=>getD_replicate_false _ _,Bel.refl _,fun _=>undef,⟨rfl,rfl,fun s hs=>by cases qP l.toArray s <;> simp only[getD_replicate_false,Bool.false_eq_true,if_false]⟩,fun i _ hi=>by rw[getD_replicate_false]at hi;cases hi⟩
 ·have e:n+(l.length-n)=l.length:=by omega
  rw[e]at key;simpa using key
 ·rintro listed a w i inv ⟨hsz,htl,hbel,V,hfill,hF⟩ hin hun hr
  obtain⟨_,o,ho,hall⟩:=mem_ready.1 hr;have hKK:∀ v w',Bel w w'->F i v w'->(listed.setIfInBounds i true).size=l.length/\(∀ t,n<=t->(listed.setIfInBounds i true).getD t false=false)/\Bel w0.drew w'/\∃ (V:Nat->Value),Filled l.toArray (listed.setIfInBounds i true) V a0 (a.put o.dst v)/\∀ j,j<n->(listed.setIfInBounds i true).getD j false=true->F j (V j) w':=
   fun v w' hb hFi=>⟨by simpa using hsz,fun t ht=>by rw[getD_set_ne false (by omega)];exact htl t ht,hbel.on hb,fun j=>if j=i then v else V j,hfill.put hsl ho (by omega) v,fun j hj hl=>by
    by_cases e:j=i
    ·subst e;simp only[if_true];exact hFi
    ·simp only[if_neg e]
     rw[getD_set_ne false (fun e'=>e e'.symm)]at hl;exact hmono j _ w w' hj (hF j hj hl) hb⟩
  have hK:=hstep i o hin ho a w V hbel (fun e he hb=>by
   have hl:=hall e he hb;have hen:e.on<n:=by
    rcases Nat.lt_or_ge e.on n with h | h
    ·exact h
    ·rw[htl _ h]at hl;cases hl
   exact⟨hF _ hen hl,fun d hd=>hfill.eval hsl hl hd⟩) (fun s hs hn=>hfill.late htl hn hs)
   (fun a' w'=>(listed.setIfInBounds i true).size=l.length/\(∀ t,n<=t->(listed.setIfInBounds i true).getD t false=false)/\Bel w0.drew w'/\∃ (V:Nat->Value),Filled l.toArray (listed.setIfInBounds i true) V a0 a'/\∀ j,j<n->(listed.setIfInBounds i true).getD j false=true->F j (V j) w')
   hKK
  unfold wpOp;simp only[ho];by_cases hw:Region.wanted o (yielded l.toArray a.tmps)=true
  ·rw[if_pos hw]
   exact .inl (hK.1 hw)
  ·rw[if_neg hw]
   exact hKK undef w (Bel.refl _) (hK.2 (by simpa using hw))
 ·rintro listed a w ⟨hsz,htl,hbel,V,hfill,hF⟩ hall
  rw[hfill.fin hall htl];exact hend V w hbel fun i hi=>hF i hi (hall i hi)
end
end Go.Proofs.YtfpoelklhekfaaaGreatDoor.Mu
