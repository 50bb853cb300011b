import Derived.OrdersHeld
import Derived.Laws.Entries
import Derived.Test.YtlmmaoobembadaaGreatDoorQap
namespace Go.Proofs.YtlmmaoobembadaaGreatDoor.Mu
open Go
section
variable {P : Program} {ops : Array Oper} {Q : Exit -> Act -> World -> Prop} {md : Region.Mode} {S : World -> Prop}
def wpT(P:Program)(md:Region.Mode)(ops:Array Oper)(Q:Exit->Act->World->Prop)(S:World->Prop)(n:Nat)(L:Array Bool->Act->World->Prop):Nat->Array Bool->Act->World->Prop
 | 0,listed,a,w=>L listed a w
 | f+1,listed,a,w=>Region.ready md ops listed≠[]/\∀ i∈Region.ready md ops listed,i<n/\wpOp P ops Q i (fun a' w'=>S w'/\wpT P md ops Q S n L f (listed.setIfInBounds i true) a' w') a w
theorem ZV{n g:Nat}{L:Array Bool->Act->World->Prop}(hL:∀ listed a w,L listed a w->wpAny P md ops Q g listed a w) :
  ∀ (f:Nat) (listed:Array Bool) (a:Act) (w:World),wpT P md ops Q S n L f listed a w->wpAny P md ops Q (f+g) listed a w
 | 0,listed,a,w,h=>by rw[Nat.zero_add];exact hL _ _ _ h
 | f+1,listed,a,w,h=>by
  rw[show f+1+g=(f+g)+1 by omega];exact⟨fun h0=>absurd h0 h.1,fun i hi=>wpOp_mono (fun a' w' h'=>ZV hL f _ a' w' h'.2) (h.2 i hi).2⟩
def zP(md:Region.Mode)(ops:Array Oper)(n:Nat):Bool:=Region.noSelect ops&&decide (n<ops.size)&&Region.sinkB md ops n&&Region.chainB md ops n
def LT(P:Program)(l:List Oper)(Q:Exit->Act->World->Prop)(n:Nat)(listed:Array Bool)(a:Act)(w:World):Prop:=
 Region.seqB .any l.toArray (l.length-n) n listed=true/\wpList P l.toArray Q (l.drop n) a w
theorem qhZ{id:Nat}{a:Act}{w:World}{l:List Oper}(n:Nat)(hm:P.follows .mixedOrders=true)(hB:zP .any l.toArray n=true)
  (h:S w.drew->wpT P .any l.toArray Q S n (LT P l Q n) n (Array.replicate l.length false) a w.drew) (hS:S w.drew):(Code.region id l.toArray true).wp P Q a w:=by
 simp only[zP,Bool.and_eq_true,decide_eq_true_eq]at hB;obtain⟨⟨⟨_,hn⟩,_⟩,_⟩:=hB;have hn':n<l.length:=by simpa using hn
 refine wp_region_any hm ?_;have hdl:(l.drop n).length=l.length-n:=by simp
 have:=ZV (Q:=Q) (g:=l.length-n) (fun listed a' w' hL=>by
  have:=wpAny_of_seq (md:= .any) (Q':=Q) (l.drop n) n listed a' w' (fun j=>by simp[List.getElem?_drop]) (by rw[hdl];exact hL.1) hL.2;rwa [hdl]at this) _ _ _ _ (h hS)
 rw[show n+(l.length-n)=l.length by omega]at this;simpa using this
end
end Go.Proofs.YtlmmaoobembadaaGreatDoor.Mu
namespace Go.Proofs.YtlmmaoobembadaaGreatDoor.Mu
open Go
def cntG:Nat->Array Bool->Nat
 | 0,_=>0
 | n+1,l=>cntG n l+if l.getD n true then 0 else 1
theorem qcX{n i:Nat}{l:Array Bool}(h:n<=i):cntG n (l.setIfInBounds i true)=cntG n l:=by
 induction n with
 | zero=>rfl
 | succ n ih=>simp only[cntG];rw[ih (by omega),getD_set_ne true (by omega)]
theorem qbi{n i:Nat}{l:Array Bool}(h:i<n)(hs:i<l.size)(hu:l.getD i true=false):cntG n (l.setIfInBounds i true)+1=cntG n l:=by
 induction n with
 | zero=>omega
 | succ n ih=>
  simp only[cntG];by_cases e:i=n
  ·subst e
   rw[qcX (Nat.le_refl _),hu];simp[hs]
  ·have:=ih (by omega)
   rw[getD_set_ne true e];omega
theorem JE{n:Nat}{l:Array Bool}(h:cntG n l=0):∀ i,i<n->l.getD i true=true:=by
 induction n with
 | zero=>intro i hi;omega
 | succ n ih=>
  simp only[cntG]at h;intro i hi;by_cases e:i=n
  ·subst e
   by_cases hb:l.getD i true=true
   ·exact hb
   ·rw[if_neg hb]at h;omega
  ·exact ih (by omega) i (by omega)
theorem qbh{n:Nat}{l:Array Bool}(h:0<cntG n l):∃ i,i<n/\l.getD i true=false:=by
 induction n with
 | zero=>simp[cntG]at h
 | succ n ih=>
  simp only[cntG]at h;by_cases hb:l.getD n true=true
  ·rw[if_pos hb]at h
   obtain⟨i,hi,hu⟩:=ih (by omega);exact⟨i,by omega,hu⟩
  ·exact⟨n,by omega,by simpa using hb⟩
theorem Qz{n m:Nat}(h:n<=m):cntG n (Array.replicate m false)=n:=by
 induction n with
 | zero=>rfl
 | succ n ih=>simp only[cntG];rw[ih (by omega),getD_in (by simp;omega) (getD_replicate_false _ _)];simp
def fwdB(ops:Array Oper)(n:Nat):Bool:=(List.range n).all fun i=>((ops[i]?).map fun o=>o.after.all fun e=>!Region.binds .any e || decide (e.on<i)).getD false
theorem JP{ops:Array Oper}{n i:Nat}{listed:Array Bool}(h:fwdB ops n=true)(hi:i<n)(hu:listed.getD i true=false)(hl:∀ j,j<i->listed.getD j true=true)(hsz:n<=listed.size):i∈Region.ready .any ops listed:=by
 have h1:=List.all_eq_true.1 h i (List.mem_range.2 hi);cases ho:ops[i]? with
 | none=>rw[ho]at h1;cases h1
 | some o=>
  rw[ho]at h1;simp only[Option.map_some,Option.getD_some]at h1;refine mem_ready.2 ⟨hu,o,ho,fun e he hb=>?_⟩;have h2:=Array.all_eq_true'.1 h1 e he;rw[hb]at h2;simp only[Bool.not_true,Bool.false_or,decide_eq_true_eq]at h2;have h3:=hl e.on h2;have h4:e.on<listed.size:=by omega
  simp[h4]at h3 ⊢;exact h3
section
variable {P : Program} {Q : Exit -> Act -> World -> Prop}
theorem Qk{l:List Oper}{n:Nat}(I:Array Bool->Act->World->Prop)(hB:zP .any l.toArray n=true)(hf:fwdB l.toArray n=true)(hq:Region.seqB .any l.toArray (l.length-n) n (Array.replicate n true++Array.replicate (l.length-n) false)=true)
  (hstep:∀ listed a w i,HeadInv .any l.toArray n listed->I listed a w->i<n->listed.getD i true=false->i∈Region.ready .any l.toArray listed->wpOp P l.toArray Q i (I (listed.setIfInBounds i true)) a w)
  (hend:∀ listed a w,I listed a w->(∀ i,i<n->listed.getD i false=true)->wpList P l.toArray Q (l.drop n) a w) :
  ∀ (c:Nat) (listed:Array Bool) (a:Act) (w:World),cntG n listed=c->HeadInv .any l.toArray n listed->I listed a w->wpAny P .any l.toArray Q (c+(l.length-n)) listed a w:=by
 simp only[zP,Bool.and_eq_true,decide_eq_true_eq]at hB;obtain⟨⟨⟨_,hn⟩,hs⟩,hc⟩:=hB;have hn':n<l.length:=by simpa using hn
 intro c;induction c with
 | zero=>
  intro listed a w hc0 inv hI;have hall:=JE hc0;have hsz:listed.size=l.length:=by simpa using inv.size
  have e:listed=Array.replicate n true++Array.replicate (l.length-n) false:=by
   apply Array.ext
   ·simp[hsz];omega
   ·intro i h1 h2
    by_cases hi:i<n
    ·have:=hall i hi
     rw[Array.getElem_append_left (by simpa using hi)];simpa [h1] using this
    ·have:=inv.tail i (by omega) (by simpa [hsz] using h1)
     rw[Array.getElem_append_right (by simp;omega)];simpa [h1] using this
  have hdl:(l.drop n).length=l.length-n:=by simp
  have h:=wpAny_of_seq (md:= .any) (Q':=Q) (l.drop n) n listed a w (fun j=>by simp[List.getElem?_drop]) (by rw[hdl,e];exact hq) (hend listed a w hI fun i hi=>by
   have h1:=hall i hi;have h2:i<listed.size:=by omega
   simp[h2]at h1 ⊢;exact h1)
  rw[hdl]at h;rw[Nat.zero_add];exact h
 | succ c ih=>
  intro listed a w hcc inv hI;obtain⟨i0,hi0,hu0⟩:=qbh (show 0<cntG n listed by omega);have hnot:=tail_waits hs hc hn inv _ i0 rfl hi0 hu0;rw[show c+1+(l.length-n)=(c+(l.length-n))+1 by omega];refine⟨fun hr=>?_,fun i hi=>?_⟩
  · --the first that is not listed is ready
   exfalso
   have hmin:∃ i,i<n/\listed.getD i true=false/\∀ j,j<i->listed.getD j true=true:=by
    have key:∀ m,(∃ i,i<m/\listed.getD i true=false)->∃ i,i<m/\listed.getD i true=false/\∀ j,j<i->listed.getD j true=true:=by
     intro m;induction m with
     | zero=>rintro⟨i,hi,_⟩;omega
     | succ m ihm=>
      rintro⟨i,hi,hu⟩;by_cases hex:∃ i,i<m/\listed.getD i true=false
      ·obtain⟨i,hi,h⟩:=ihm hex
       exact⟨i,by omega,h⟩
      ·obtain rfl:i=m:=by
        by_cases e:i=m
        ·exact e
        ·exact absurd ⟨i,by omega,hu⟩ hex
       refine⟨i,hi,hu,fun j hj=>?_⟩;by_cases hb:listed.getD j true=true
       ·exact hb
       ·exact absurd ⟨j,hj,by simpa using hb⟩ hex
    exact key n ⟨i0,hi0,hu0⟩
   obtain⟨i,hi,hu,hless⟩:=hmin;have h:=JP hf hi hu hless (by have:=inv.size;simp at this;omega);rw[hr]at h;cases h
  ·have hin:i<n:=by
    rcases Nat.lt_or_ge i n with h | h
    ·exact h
    ·exact absurd hi (hnot i h)
   have hun:=(mem_ready.1 hi).1;have hsz:i<listed.size:=by have:=inv.size;simp at this;omega
   refine wpOp_mono (fun a' w' h'=>ih _ a' w' ?_ (inv.set hi hin) h') (hstep listed a w i inv hI hin hun hi);have:=qbi hin hsz hun;omega
def qV(ops:Array Oper)(s:Nat):Option Nat:=(List.range ops.size).find? fun i=>((ops[i]?).bind (·.dst))==some s
def qU(ops:Array Oper)(size:Nat):Bool:=(List.range ops.size).all fun i=>match (ops[i]?).bind (·.dst) with
 | some d=>(qV ops d==some i)&&decide (d<size)
 | none=>true
theorem ZO{ops:Array Oper}{size i d:Nat}(h:qU ops size=true)(hd:(ops[i]?).bind (·.dst)=some d):qV ops d=some i/\d<size:=by
 have hi:i<ops.size:=by
  rcases Nat.lt_or_ge i ops.size with h' | h'
  ·exact h'
  ·rw[Array.getElem?_eq_none h']at hd;cases hd
 have:=List.all_eq_true.1 h i (List.mem_range.2 hi);rw[hd]at this;simpa using this
def Filled(ops:Array Oper)(listed:Array Bool)(V:Nat->Value)(a0 a:Act):Prop:=
 a.defers=a0.defers/\a.tmps.size=a0.tmps.size/\∀ s,s<a0.tmps.size->a.tmps.getD s undef=match qV ops s with
  | some i=>if listed.getD i false then V i else a0.tmps.getD s undef
  | none=>a0.tmps.getD s undef
theorem Filled.eval{ops:Array Oper}{listed:Array Bool}{V:Nat->Value}{a0 a:Act}(h:Filled ops listed V a0 a)(hB:qU ops a0.tmps.size=true){i d:Nat}(hi:listed.getD i false=true)(hd:(ops[i]?).bind (·.dst)=some d):a.eval (.tmp d)=V i:=by
 obtain⟨h1,h2⟩:=ZO hB hd;show a.tmps.getD d undef=V i
 rw[h.2.2 d h2,h1];simp only[hi,if_true]
theorem Filled.par{ops:Array Oper}{listed:Array Bool}{V:Nat->Value}{a0 a:Act}(h:Filled ops listed V a0 a){s:Nat}(hs:qV ops s=none)(hlt:s<a0.tmps.size):a.eval (.tmp s)=a0.eval (.tmp s):=by
 show a.tmps.getD s undef=a0.tmps.getD s undef
 rw[h.2.2 s hlt,hs]
theorem Filled.put{ops:Array Oper}{listed:Array Bool}{V:Nat->Value}{a0 a:Act}{i:Nat}{o:Oper}(h:Filled ops listed V a0 a)(hB:qU ops a0.tmps.size=true)(ho:ops[i]?=some o)(hsz:i<listed.size)(v:Value) :
  Filled ops (listed.setIfInBounds i true) (fun j=>if j=i then v else V j) a0 (a.put o.dst v):=by
 have hset:∀ j,(listed.setIfInBounds i true).getD j false=if j=i then true else listed.getD j false:=fun j=>by
  by_cases e:j=i
  ·subst e;simp[hsz]
  ·rw[getD_set_ne false (fun e'=>e e'.symm),if_neg e]
 cases hd:o.dst with
 | none=>
  refine⟨h.1,h.2.1,fun s hs=>?_⟩;show a.tmps.getD s undef=_
  rw[h.2.2 s hs];cases hk:qV ops s with
  | none=>rfl
  | some k=>
   have hne:k≠i:=by
    rintro rfl;have:=List.find?_some hk;simp[ho,hd]at this
   simp only[hset,if_neg hne]
 | some d=>
  obtain⟨h1,h2⟩:=ZO hB (show (ops[i]?).bind (·.dst)=some d by rw[ho];exact hd);refine⟨h.1,by show (a.tmps.setIfInBounds d v).size=_;rw[Array.size_setIfInBounds];exact h.2.1,fun s hs=>?_⟩;show (a.tmps.setIfInBounds d v).getD s undef=_
  by_cases e:s=d
  ·subst e
   rw[h1];have:s<a.tmps.size:=by rw[h.2.1];exact hs
   simp[hset,this]
  ·rw[Array.getD_eq_getD_getElem?,Array.getElem?_setIfInBounds_ne (fun e'=>e e'.symm),<- Array.getD_eq_getD_getElem?,h.2.2 s hs]
   cases hk:qV ops s with
   | none=>rfl
   | some k=>
    have hne:k≠i:=by
     rintro rfl;have:=List.find?_some hk;simp[ho,hd]at this;exact e this.symm
    simp only[hset,if_neg hne]
def finA(ops:Array Oper)(n:Nat)(V:Nat->Value)(a0:Act):Act:=
 { tmps:=((List.range a0.tmps.size).map fun s=>match qV ops s with
   | some i=>if i<n then V i else a0.tmps.getD s undef
   | none=>a0.tmps.getD s undef).toArray,defers:=a0.defers }
theorem Filled.fin{ops:Array Oper}{listed:Array Bool}{V:Nat->Value}{a0 a:Act}{n:Nat}(h:Filled ops listed V a0 a)(hall:∀ i,i<n->listed.getD i false=true)(htail:∀ i,n<=i->listed.getD i false=false):a=finA ops n V a0:=by
 obtain⟨h1,h2,h3⟩:=h;cases a with
 | mk tmps defers=>
  simp only at h1 h2 h3;subst h1;unfold finA;congr 1
  apply Array.ext
  ·simp[h2]
  ·intro s hs1 hs2
   have:=h3 s (by omega);rw[Array.getD_eq_getD_getElem?,Array.getElem?_eq_getElem hs1,Option.getD_some]at this;rw[this];simp only[List.getElem_toArray,List.getElem_map,List.getElem_range];cases hk:qV ops s with
   | none=>rfl
   | some k=>
    by_cases hkn:k<n
    ·simp only[hall k hkn,if_true,if_pos hkn]
    ·simp only[htail k (by omega),Bool.false_eq_true,if_false,if_neg hkn]
def ext(own:Nat->Nat)(w:World)(i:Nat):Nat->Nat:=fun x=>if x<w.heap.size then own x else i
theorem qgc{id:Nat}{l:List Oper}(n:Nat)(a0:Act)(w0:World)(F:Nat->Value->World->(Nat->Nat)->Prop)(hm:P.follows .mixedOrders=true)(hB:zP .any l.toArray n=true)(hf:fwdB l.toArray n=true)(hsl:qU l.toArray a0.tmps.size=true)
  (hq:Region.seqB .any l.toArray (l.length-n) n (Array.replicate n true++Array.replicate (l.length-n) false)=true)
  (hmono:∀ i v w w' own own',i<n->F i v w own->Bel w w'->(∀ x,x<w.heap.size->own' x=own x)->F i v w' own')
  (hstep:∀ i o,i<n->l.toArray[i]?=some o->∀ (a:Act) (w:World) (own:Nat->Nat) (V:Nat->Value),Bel w0.drew w →
   (∀ e∈o.after,Region.binds .any e=true->F e.on (V e.on) w own/\∀ d,(l.toArray[e.on]?).bind (·.dst)=some d->a.eval (.tmp d)=V e.on)->(∀ s,s<a0.tmps.size->qV l.toArray s=none->a.eval (.tmp s)=a0.eval (.tmp s)) →
   ∀ K:Act->World->Prop,(∀ v w',Bel w w'->F i v w' (ext own w i)->K (a.put o.dst v) w')->o.guard=none/\Oper.wp P o a w K Q)
  (hend:∀ (V:Nat->Value) (w:World) (own:Nat->Nat),Bel w0.drew w->(∀ i,i<n->F i (V i) w own)->wpList P l.toArray Q (l.drop n) (finA l.toArray n V a0) w) :
  (Code.region id l.toArray true).wp P Q a0 w0:=by
 have hn':n<l.length:=by
  simp only[zP,Bool.and_eq_true,decide_eq_true_eq]at hB;simpa using hB.1.1.2
 refine wp_region_any hm ?_;have inv0:HeadInv .any l.toArray n (Array.replicate l.length false):=
  ⟨by simp,fun j oj _ hl=>(by rw[getD_replicate_false]at hl;cases hl),fun t _ ht=>getD_in (by simpa using ht) (getD_replicate_false _ _)⟩
 have key:=Qk (P:=P) (Q:=Q) (l:=l) (n:=n) (fun listed a w=>listed.size=l.length/\(∀ t,n<=t->listed.getD t false=false)/\Bel w0.drew w/\∃ (V:Nat->Value) (own:Nat->Nat),Filled l.toArray listed V a0 a/\∀ i,i<n->listed.getD i false=true->F i (V i) w own) hB hf hq ?_ ?_ n (Array.replicate l.length false) a0 w0.drew (Qz (by omega)) inv0 ⟨by simp,fun t _=>getD_replicate_false _ _,Bel.refl _,fun _=>undef,fun _=>0,⟨rfl,rfl,fun s hs=>by cases qV l.toArray s <;> simp only[getD_replicate_false,Bool.false_eq_true,if_false]⟩,fun i _ hi=>by rw[getD_replicate_false]at hi;cases hi⟩
 ·have e:n+(l.length-n)=l.length:=by omega
  rw[e]at key;simpa using key
 ·rintro listed a w i inv ⟨hsz,htl,hbel,V,own,hfill,hF⟩ hin hun hr
  obtain⟨_,o,ho,hall⟩:=mem_ready.1 hr;have hK:=hstep i o hin ho a w own V hbel (fun e he hb=>by
   have hl:=hall e he hb;have hen:e.on<n:=by
    rcases Nat.lt_or_ge e.on n with h | h
    ·exact h
    ·rw[htl _ h]at hl;cases hl
   exact⟨hF _ hen hl,fun d hd=>hfill.eval hsl hl hd⟩) (fun s hs hn=>hfill.par hn hs)
   (fun a' w'=>(listed.setIfInBounds i true).size=l.length/\(∀ t,n<=t->(listed.setIfInBounds i true).getD t false=false)/\Bel w0.drew w'/\∃ (V:Nat->Value) (own:Nat->Nat),Filled l.toArray (listed.setIfInBounds i true) V a0 a'/\∀ j,j<n->(listed.setIfInBounds i true).getD j false=true->F j (V j) w' own)
   (fun v w' hb hFi=>⟨by simpa using hsz,fun t ht=>by rw[getD_set_ne false (by omega)];exact htl t ht,hbel.on hb,fun j=>if j=i then v else V j,ext own w i,hfill.put hsl ho (by omega) v,fun j hj hl=>by
    by_cases e:j=i
    ·subst e;simp only[if_true];exact hFi
    ·simp only[if_neg e]
     rw[getD_set_ne false (fun e'=>e e'.symm)]at hl;exact hmono j _ w w' own _ hj (hF j hj hl) hb (fun x hx=>by simp[ext,hx])⟩)
  unfold wpOp;simp only[ho];rw[if_pos (by simp[Region.wanted,hK.1])];exact .inl hK.2
 ·rintro listed a w ⟨hsz,htl,hbel,V,own,hfill,hF⟩ hall
  rw[hfill.fin hall htl];exact hend V w own hbel fun i hi=>hF i hi (hall i hi)
end
end Go.Proofs.YtlmmaoobembadaaGreatDoor.Mu
namespace Go.Proofs.YtlmmaoobembadaaGreatDoor.Mu
open Go Go.RowKit
theorem zl{P:Program}{o:Oper}{a:Act}{w w':World}{K:Act->World->Prop}{Q:Exit->Act->World->Prop}{v:Value}(h:(execOp a.eval o).run P w=.ok (.value v) w')(hk:K (a.put o.dst v) w'):Oper.wp P o a w K Q:=by
 unfold Oper.wp;rw[h];exact hk
end Go.Proofs.YtlmmaoobembadaaGreatDoor.Mu
namespace Go.Proofs.YtlmmaoobembadaaGreatDoor.Mu
open Go
theorem yields{ops:Array Oper}{tmps:Array Value}{j d:Nat}{b:Bool}(hd:(ops[j]?).bind (·.dst)=some d)(h:tmps.getD d undef=.bool b):yielded ops tmps j=some b:=by
 unfold yielded;rw[hd];rw[Array.getD_eq_getD_getElem?]at h;cases h':tmps[d]? with
 | none=>rw[h']at h;cases h
 | some x=>rw[h']at h;simp only[Option.getD_some]at h;subst h;simp[h']
section
variable {P : Program} {Q : Exit -> Act -> World -> Prop}
theorem qt{id:Nat}{l:List Oper}(n:Nat)(a0:Act)(w0:World)(F:Nat->Value->World->Prop)(hm:P.follows .mixedOrders=true)(hB:zP .any l.toArray n=true)(hf:fwdB l.toArray n=true)(hsl:qU l.toArray a0.tmps.size=true)
  (hq:Region.seqB .any l.toArray (l.length-n) n (Array.replicate n true++Array.replicate (l.length-n) false)=true)
  (hmono:∀ i v w w',i<n->F i v w->Bel w w'->F i v w')
  (hstep:∀ i o,i<n->l.toArray[i]?=some o->∀ (a:Act) (w:World) (V:Nat->Value),Bel w0.drew w →
   (∀ e∈o.after,Region.binds .any e=true->F e.on (V e.on) w/\∀ d,(l.toArray[e.on]?).bind (·.dst)=some d->a.eval (.tmp d)=V e.on)->(∀ s,s<a0.tmps.size->qV l.toArray s=none->a.eval (.tmp s)=a0.eval (.tmp s)) →
   ∀ K:Act->World->Prop,(∀ v w',Bel w w'->F i v w'->K (a.put o.dst v) w')->(Region.wanted o (yielded l.toArray a.tmps)=true->Oper.wp P o a w K Q)/\(Region.wanted o (yielded l.toArray a.tmps)=false->F i undef w))
  (hend:∀ (V:Nat->Value) (w:World),Bel w0.drew w->(∀ i,i<n->F i (V i) w)->wpList P l.toArray Q (l.drop n) (finA l.toArray n V a0) w) :
  (Code.region id l.toArray true).wp P Q a0 w0:=by
 have hn':n<l.length:=by
  simp only[zP,Bool.and_eq_true,decide_eq_true_eq]at hB;simpa using hB.1.1.2
 refine wp_region_any hm ?_;have inv0:HeadInv .any l.toArray n (Array.replicate l.length false):=
  ⟨by simp,fun j oj _ hl=>(by rw[getD_replicate_false]at hl;cases hl),fun t _ ht=>getD_in (by simpa using ht) (getD_replicate_false _ _)⟩
 have key:=Qk (P:=P) (Q:=Q) (l:=l) (n:=n) (fun listed a w=>listed.size=l.length/\(∀ t,n<=t->listed.getD t false=false)/\Bel w0.drew w/\∃ (V:Nat->Value),Filled l.toArray listed V a0 a/\∀ i,i<n->listed.getD i false=true->F i (V i) w) hB hf hq ?_ ?_ n (Array.replicate l.length false) a0 w0.drew (Qz (by omega)) inv0 ⟨by simp,fun t _=>getD_replicate_false _ _,Bel.refl _,fun _=>undef,⟨rfl,rfl,fun s hs=>by cases qV l.toArray s <;> simp only[getD_replicate_false,Bool.false_eq_true,if_false]⟩,fun i _ hi=>by rw[getD_replicate_false]at hi;cases hi⟩
 ·have e:n+(l.length-n)=l.length:=by omega
  rw[e]at key;simpa using key
 ·rintro listed a w i inv ⟨hsz,htl,hbel,V,hfill,hF⟩ hin hun hr
  obtain⟨_,o,ho,hall⟩:=mem_ready.1 hr;have hKK:∀ v w',Bel w w'->F i v w'->(listed.setIfInBounds i true).size=l.length/\(∀ t,n<=t->(listed.setIfInBounds i true).getD t false=false)/\Bel w0.drew w'/\∃ (V:Nat->Value),Filled l.toArray (listed.setIfInBounds i true) V a0 (a.put o.dst v)/\∀ j,j<n->(listed.setIfInBounds i true).getD j false=true->F j (V j) w':=
   fun v w' hb hFi=>⟨by simpa using hsz,fun t ht=>by rw[getD_set_ne false (by omega)];exact htl t ht,hbel.on hb,fun j=>if j=i then v else V j,hfill.put hsl ho (by omega) v,fun j hj hl=>by
    by_cases e:j=i
    ·subst e;simp only[if_true];exact hFi
    ·simp only[if_neg e]
     rw[getD_set_ne false (fun e'=>e e'.symm)]at hl;exact hmono j _ w w' hj (hF j hj hl) hb⟩
  have hK:=hstep i o hin ho a w V hbel (fun e he hb=>by
   have hl:=hall e he hb;have hen:e.on<n:=by
    rcases Nat.lt_or_ge e.on n with h | h
    ·exact h
    ·rw[htl _ h]at hl;cases hl
   exact⟨hF _ hen hl,fun d hd=>hfill.eval hsl hl hd⟩) (fun s hs hn=>hfill.par hn hs)
   (fun a' w'=>(listed.setIfInBounds i true).size=l.length/\(∀ t,n<=t->(listed.setIfInBounds i true).getD t false=false)/\Bel w0.drew w'/\∃ (V:Nat->Value),Filled l.toArray (listed.setIfInBounds i true) V a0 a'/\∀ j,j<n->(listed.setIfInBounds i true).getD j false=true->F j (V j) w')
   hKK
  unfold wpOp;simp only[ho];by_cases hw:Region.wanted o (yielded l.toArray a.tmps)=true
  ·rw[if_pos hw]
   exact .inl (hK.1 hw)
  ·rw[if_neg hw]
   exact hKK undef w (Bel.refl _) (hK.2 (by simpa using hw))
 ·rintro listed a w ⟨hsz,htl,hbel,V,hfill,hF⟩ hall
  rw[hfill.fin hall htl];exact hend V w hbel fun i hi=>hF i hi (hall i hi)
end
theorem qa3{ops:Array Oper}{tmps:Array Value}{o:Oper}(hg:o.guard=none):Region.wanted o (yielded ops tmps)=true:=by
 simp[Region.wanted,hg]
theorem qeZ{ops:Array Oper}{tmps:Array Value}{o:Oper}{j d:Nat}{g b:Bool}(hg:o.guard=some (j,g))(hd:(ops[j]?).bind (·.dst)=some d)(h:tmps.getD d undef=.bool b):Region.wanted o (yielded ops tmps)=(b==g):=by
 have:=yields hd h;cases b <;> cases g <;> simp[Region.wanted,hg,this]
theorem yw_t{ops:Array Oper}{tmps:Array Value}{o:Oper}{j d:Nat}(hg:o.guard=some (j,true))(hd:(ops[j]?).bind (·.dst)=some d)(h:tmps.getD d undef=.bool true)(hw:Region.wanted o (yielded ops tmps)=false):False:=by
 rw[qeZ hg hd h]at hw;cases hw
theorem yw_n{ops:Array Oper}{tmps:Array Value}{o:Oper}(hg:o.guard=none)(hw:Region.wanted o (yielded ops tmps)=false):False:=by
 rw[qa3 hg]at hw;cases hw
theorem qi{P:Program}{o:Oper}{a:Act}{w:World}{K:Act->World->Prop}{Q:Exit->Act->World->Prop}{f:FuncId}{args:Array Value}(hrun:(execOp a.eval o).run P w=.ok (.enter f args) w)
  (h:Calls P f args w fun e w'=>∃ v,e=.returned v/\K (a.put o.dst v) w'):Oper.wp P o a w K Q:=by
 unfold Oper.wp;rw[hrun];refine h.mono ?_;rintro e w' ⟨v,rfl,hk⟩;exact hk
end Go.Proofs.YtlmmaoobembadaaGreatDoor.Mu
namespace Go.Proofs.YtlmmaoobembadaaGreatDoor.Mu
open Go Go.RowKit Go.Shelf
attribute [local go_sem] Oper.semAt_some
set_option linter.unusedVariables false
end Go.Proofs.YtlmmaoobembadaaGreatDoor.Mu
namespace Go.Proofs.YtlmmaoobembadaaGreatDoor.Mu
open Go.RowKit Go.Shelf
set_option maxRecDepth 100000
end Go.Proofs.YtlmmaoobembadaaGreatDoor.Mu
namespace Go.Proofs.YtlmmaoobembadaaGreatDoor.Mu
open Go
theorem gT{α:Type _}{l:List α}{i:Nat}:l.toArray[i]?=l[i]?:=List.getElem?_toArray
theorem gZ{α:Type _}{a:α}{l:List α}:(a::l)[0]?=some a:=List.getElem?_cons_zero
theorem gS{α:Type _}{a:α}{l:List α}{i:Nat}:(a::l)[i+1]?=l[i]?:=List.getElem?_cons_succ
theorem gI{α:Type _}{a b:α}:(some a=some b)=(a=b):=Option.some.injEq a b
theorem tD{a:Act}{t:Nat}{v:Value}(h:a.eval (.tmp t)=v):a.tmps[t]?.getD undef=v:=by
 simp only[Act.eval,Array.getD_eq_getD_getElem?]at h;exact h
theorem tK{a:Act}{t:Nat}{x v:Value}{R:Nat → Prop}(h:(x=v) ∧ ∀ d,R d → a.eval (.tmp d)=x)(r:R t):a.tmps[t]?.getD undef=v:=tD ((h.2 t r).trans h.1)
theorem tE{a:Act}{t:Nat}{x v:Value}{R:Nat → Prop}(h:(x=v) ∧ ∀ d,R d → a.eval (.tmp d)=x)(r:R t):a.eval (.tmp t)=v:=(h.2 t r).trans h.1
theorem nG{ops:Array Oper}{tmps:Array Value}{o:Oper}{A B:Prop}(hg:o.guard=none)(h:A):(Region.wanted o (yielded ops tmps)=true → A) ∧ (Region.wanted o (yielded ops tmps)=false → B):=
 ⟨fun _=>h,fun hw=>(yw_n hg hw).elim⟩
theorem gX{w w1:World}{b o:Nat}{x:Value}(hb:Bel w w1)(h:b<w.heap.size)(f:w.cell? ⟨b,o,none⟩=some x):w1.cell? ⟨b,o,none⟩=some x:=
 (hb.cell (p:=⟨b,o,none⟩) h).trans f
theorem wV{P:Program}{o:Oper}{a:Act}{w:World}{K:Act → World → Prop}{Q:Exit → Act → World → Prop}{v:Value}{S:Value → World → Prop}(h:(execOp a.eval o).run P w=.ok (.value v) w)(hK:∀ (v:Value) (w':World),Bel w w' → S v w' → K (a.put o.dst v) w')(r:S v w):Oper.wp P o a w K Q:=
 zl h (hK v w (Bel.refl w) r)
end Go.Proofs.YtlmmaoobembadaaGreatDoor.Mu
namespace Go.Proofs.YtlmmaoobembadaaGreatDoor.Mu
set_option maxHeartbeats 1000000
open Go Go.RowKit Go.Shelf
attribute [local go_sem] Oper.semAt_some
set_option linter.unusedVariables false
def regKx:List Oper:=[
 ⟨some 51,.move (.tmp 2),67,"walk.go:50",#[],none⟩,
 ⟨some 52,.move (.tmp 10),29,"walk.go:50",#[],none⟩,
 ⟨some 53,.move (.tmp 12),3,"walk.go:50",#[],none⟩,
 ⟨some 54,.indexAddr 29 (.tmp 52) (.tmp 53),0,"walk.go:50",#[⟨1,.data⟩,⟨2,.data⟩],none⟩,
 ⟨some 55,.load 32 (.tmp 54),32,"walk.go:50",#[⟨3,.data⟩],none⟩,
 ⟨some 56,.call ⟨.value (.tmp 51),#[.tmp 55],#[32]⟩,29,"walk.go:50",#[⟨0,.data⟩,⟨4,.data⟩],none⟩,
 ⟨some 57,.move (.tmp 2),67,"walk.go:50",#[],none⟩,
 ⟨some 58,.move (.tmp 11),29,"walk.go:50",#[],none⟩,
 ⟨some 59,.move (.tmp 12),3,"walk.go:50",#[],none⟩,
 ⟨some 60,.indexAddr 29 (.tmp 58) (.tmp 59),0,"walk.go:50",#[⟨7,.data⟩,⟨8,.data⟩],none⟩,
 ⟨some 61,.load 32 (.tmp 60),32,"walk.go:50",#[⟨9,.data⟩],none⟩,
 ⟨some 62,.call ⟨.value (.tmp 57),#[.tmp 61],#[32]⟩,29,"walk.go:50",#[⟨6,.data⟩,⟨10,.data⟩,⟨5,.chain⟩],none⟩,
 ⟨some 13,.assign (.tmp 56),29,"walk.go:50",#[⟨5,.data⟩,⟨11,.chain⟩,⟨0,.phase⟩,⟨1,.phase⟩,⟨2,.phase⟩,⟨3,.phase⟩,⟨4,.phase⟩,⟨5,.phase⟩,{ on:=6,ground:=Ground.textOnly Departure.lateStores },{ on:=7,ground:=Ground.textOnly Departure.lateStores },{ on:=8,ground:=Ground.textOnly Departure.lateStores },{ on:=9,ground:=Ground.textOnly Departure.lateStores },{ on:=10,ground:=Ground.textOnly Departure.lateStores },{ on:=11,ground:=Ground.textOnly Departure.lateStoresUnsure }],none⟩,
 ⟨some 14,.assign (.tmp 62),29,"walk.go:50",#[⟨11,.data⟩,⟨12,.chain⟩,⟨0,.phase⟩,⟨1,.phase⟩,⟨2,.phase⟩,⟨3,.phase⟩,⟨4,.phase⟩,⟨5,.phase⟩,⟨6,.phase⟩,⟨7,.phase⟩,⟨8,.phase⟩,⟨9,.phase⟩,⟨10,.phase⟩,⟨11,.phase⟩,⟨12,.phase⟩],none⟩]
def qeC(b1 o1 b2 o2 m ca cb j:Nat)(k1 n1 x1 l1 c1 k2 n2 x2 l2 c2:Int)(t1 t2:ByteArray)(A1 B1 A2 B2:Option Addr)(m1 d1 M1 D1 m2 d2 M2 D2:Nat)(F1 F2:Tr)(Ok:Nat->Prop)(z:Nat)(i:Nat)(v:Value)(w:World):Prop:=
 match i with
 | 0=>v=.func (.func 28) #[] #[]
 | 1=>v=.slice (some ⟨b1,o1,none⟩) m ca
 | 2=>v=.int .i64 (j:Int)
 | 3=>v=.pointer (some ⟨b1,o1+j*8,none⟩)
 | 4=>v=.agg #[.int .u8 k1,t1,n1,x1,l1,c1,.slice A1 m1 d1,.slice B1 M1 D1]
 | 5=>(∀ j,Ok j->j<w.heap.size)/\∃ (A:Option Addr) (c:Nat),v=.slice A F1.len c/\KidsTr w (fun j=>Ok j∨(z<=j/\j<w.heap.size)) .ex A F1.len c F1
 | 6=>v=.func (.func 28) #[] #[]
 | 7=>v=.slice (some ⟨b2,o2,none⟩) m cb
 | 8=>v=.int .i64 (j:Int)
 | 9=>v=.pointer (some ⟨b2,o2+j*8,none⟩)
 | 10=>v=.agg #[.int .u8 k2,t2,n2,x2,l2,c2,.slice A2 m2 d2,.slice B2 M2 D2]
 | 11=>(∀ j,Ok j->j<w.heap.size)/\∃ (A:Option Addr) (c:Nat),v=.slice A F2.len c/\KidsTr w (fun j=>Ok j∨(z<=j/\j<w.heap.size)) .ex A F2.len c F2
 | _=>True
theorem qaR{b1 o1 b2 o2 m ca cb j:Nat}{k1 n1 x1 l1 c1 k2 n2 x2 l2 c2:Int}{t1 t2:ByteArray}{A1 B1 A2 B2:Option Addr}{m1 d1 M1 D1 m2 d2 M2 D2:Nat}{F1 F2:Tr}{Ok:Nat->Prop}{z:Nat}(i:Nat)(v:Value)(w w':World)(hi:i<12)(h:qeC b1 o1 b2 o2 m ca cb j k1 n1 x1 l1 c1 k2 n2 x2 l2 c2 t1 t2 A1 B1 A2 B2 m1 d1 M1 D1 m2 d2 M2 D2 F1 F2 Ok z i v w)(hb:Bel w w'):qeC b1 o1 b2 o2 m ca cb j k1 n1 x1 l1 c1 k2 n2 x2 l2 c2 t1 t2 A1 B1 A2 B2 m1 d1 M1 D1 m2 d2 M2 D2 F1 F2 Ok z i v w':=by
 match i,hi,h with
 | 0,_,h | 1,_,h | 2,_,h | 3,_,h | 4,_,h=>exact h
 | 5,_,h=>obtain⟨q1,A,c,e,q2⟩:=h;exact⟨fun j hj=>Nat.lt_of_lt_of_le (q1 j hj) hb.size,A,c,e,(q2.keep fun j hj=>hb.block j (by rcases hj with hj | hj;exact q1 j hj;exact hj.2)).wide fun j hj=>by rcases hj with hj | hj;exact .inl hj;exact .inr ⟨hj.1,Nat.lt_of_lt_of_le hj.2 hb.size⟩⟩
 | 6,_,h | 7,_,h | 8,_,h | 9,_,h | 10,_,h=>exact h
 | 11,_,h=>obtain⟨q1,A,c,e,q2⟩:=h;exact⟨fun j hj=>Nat.lt_of_lt_of_le (q1 j hj) hb.size,A,c,e,(q2.keep fun j hj=>hb.block j (by rcases hj with hj | hj;exact q1 j hj;exact hj.2)).wide fun j hj=>by rcases hj with hj | hj;exact .inl hj;exact .inr ⟨hj.1,Nat.lt_of_lt_of_le hj.2 hb.size⟩⟩
 | q+12,hi,_=>exact absurd hi (by omega)
def qid(b1 o1 b2 o2 m ca cb j:Nat)(k1 n1 x1 l1 c1 k2 n2 x2 l2 c2:Int)(t1 t2:ByteArray)(A1 B1 A2 B2:Option Addr)(m1 d1 M1 D1 m2 d2 M2 D2:Nat)(F1 F2:Tr)(Ok:Nat->Prop)(z:Nat)(s0 s1 s3 s4 s5 s6 s7 s8 s9 s13 s14 s15 s16 s17 s18 s19 s20 s21 s22 s23 s24 s25 s26 s27 s28 s29 s30 s31 s32 s33 s34 s35 s36 s37 s38 s39 s40 s41 s42 s43 s44 s45 s46 s47 s48 s49 s50 s51 s52 s53 s54 s55 s56 s57 s58 s59 s60 s61 s62 s63 s64 s65 s66 s67 s68 s69 s70 s71 s72 s73 s74 s75 s76 s77:Value)(df:List Deferred):Act:={ tmps:=#[s0,s1,.func (.func 28) #[] #[],s3,s4,s5,s6,s7,s8,s9,.slice (some ⟨b1,o1,none⟩) m ca,.slice (some ⟨b2,o2,none⟩) m cb,.int .i64 (j:Int),s13,s14,s15,s16,s17,s18,s19,s20,s21,s22,s23,s24,s25,s26,s27,s28,s29,s30,s31,s32,s33,s34,s35,s36,s37,s38,s39,s40,s41,s42,s43,s44,s45,s46,s47,s48,s49,s50,s51,s52,s53,s54,s55,s56,s57,s58,s59,s60,s61,s62,s63,s64,s65,s66,s67,s68,s69,s70,s71,s72,s73,s74,s75,s76,s77],defers:=df }
def qgI(b1 o1 b2 o2 m ca cb j:Nat)(k1 n1 x1 l1 c1 k2 n2 x2 l2 c2:Int)(t1 t2:ByteArray)(A1 B1 A2 B2:Option Addr)(m1 d1 M1 D1 m2 d2 M2 D2:Nat)(F1 F2:Tr)(Ok:Nat->Prop)(z:Nat)(s0 s1 s3 s4 s5 s6 s7 s8 s9 s13 s14 s15 s16 s17 s18 s19 s20 s21 s22 s23 s24 s25 s26 s27 s28 s29 s30 s31 s32 s33 s34 s35 s36 s37 s38 s39 s40 s41 s42 s43 s44 s45 s46 s47 s48 s49 s50 s51 s52 s53 s54 s55 s56 s57 s58 s59 s60 s61 s62 s63 s64 s65 s66 s67 s68 s69 s70 s71 s72 s73 s74 s75 s76 s77:Value)(df:List Deferred)(V:Nat->Value):Act:={ tmps:=#[s0,s1,.func (.func 28) #[] #[],s3,s4,s5,s6,s7,s8,s9,.slice (some ⟨b1,o1,none⟩) m ca,.slice (some ⟨b2,o2,none⟩) m cb,.int .i64 (j:Int),s13,s14,s15,s16,s17,s18,s19,s20,s21,s22,s23,s24,s25,s26,s27,s28,s29,s30,s31,s32,s33,s34,s35,s36,s37,s38,s39,s40,s41,s42,s43,s44,s45,s46,s47,s48,s49,s50,V 0,V 1,V 2,V 3,V 4,V 5,V 6,V 7,V 8,V 9,V 10,V 11,s63,s64,s65,s66,s67,s68,s69,s70,s71,s72,s73,s74,s75,s76,s77],defers:=df }
theorem qcr:zP .any regKx.toArray 12=true:=by kernel_rfl
theorem qd2:fwdB regKx.toArray 12=true:=by kernel_rfl
theorem qaz:qU regKx.toArray 78=true:=by kernel_rfl
theorem qd3:Region.seqB .any regKx.toArray (regKx.length-12) 12 (Array.replicate 12 true++Array.replicate (regKx.length-12) false)=true:=by kernel_rfl
set_option maxRecDepth 100000 in
theorem qd1{id:Nat}(b1 o1 b2 o2 m ca cb j:Nat)(k1 n1 x1 l1 c1 k2 n2 x2 l2 c2:Int)(t1 t2:ByteArray)(A1 B1 A2 B2:Option Addr)(m1 d1 M1 D1 m2 d2 M2 D2:Nat)(F1 F2:Tr)(Ok:Nat->Prop)(z:Nat)(s0 s1 s3 s4 s5 s6 s7 s8 s9 s13 s14 s15 s16 s17 s18 s19 s20 s21 s22 s23 s24 s25 s26 s27 s28 s29 s30 s31 s32 s33 s34 s35 s36 s37 s38 s39 s40 s41 s42 s43 s44 s45 s46 s47 s48 s49 s50 s51 s52 s53 s54 s55 s56 s57 s58 s59 s60 s61 s62 s63 s64 s65 s66 s67 s68 s69 s70 s71 s72 s73 s74 s75 s76 s77:Value)(df:List Deferred)(w:World)(i1:(0:Int)<=(j:Int))(i2:(j:Int)<(m:Int))(hz:z<=w.drew.heap.size)(hok:∀ j,Ok j->j<w.drew.heap.size)(h1:b1<w.drew.heap.size)(h2:b2<w.drew.heap.size)(fa0:w.drew.cell? ⟨b1,o1+j*8,none⟩=some (.int .u8 k1))(fe0:w.drew.cell? ⟨b2,o2+j*8,none⟩=some (.int .u8 k2))(fa1:w.drew.cell? ⟨b1,o1+j*8+1,none⟩=some (.string t1))(fe1:w.drew.cell? ⟨b2,o2+j*8+1,none⟩=some (.string t2))(fa2:w.drew.cell? ⟨b1,o1+j*8+2,none⟩=some (.int .i64 n1))(fe2:w.drew.cell? ⟨b2,o2+j*8+2,none⟩=some (.int .i64 n2))(fa3:w.drew.cell? ⟨b1,o1+j*8+3,none⟩=some (.int .i64 x1))(fe3:w.drew.cell? ⟨b2,o2+j*8+3,none⟩=some (.int .i64 x2))(fa4:w.drew.cell? ⟨b1,o1+j*8+4,none⟩=some (.int .i64 l1))(fe4:w.drew.cell? ⟨b2,o2+j*8+4,none⟩=some (.int .i64 l2))(fa5:w.drew.cell? ⟨b1,o1+j*8+5,none⟩=some (.int .i64 c1))(fe5:w.drew.cell? ⟨b2,o2+j*8+5,none⟩=some (.int .i64 c2))(fa6:w.drew.cell? ⟨b1,o1+j*8+6,none⟩=some (.slice A1 m1 d1))(fe6:w.drew.cell? ⟨b2,o2+j*8+6,none⟩=some (.slice A2 m2 d2))(fa7:w.drew.cell? ⟨b1,o1+j*8+7,none⟩=some (.slice B1 M1 D1))(fe7:w.drew.cell? ⟨b2,o2+j*8+7,none⟩=some (.slice B2 M2 D2))(H1:∀ W,Bel w.drew W->Calls Tryz.prog 28 #[.agg #[.int .u8 k1,t1,n1,x1,l1,c1,.slice A1 m1 d1,.slice B1 M1 D1]] W (jt W Ok .ex F1))(H2:∀ W,Bel w.drew W->Calls Tryz.prog 28 #[.agg #[.int .u8 k2,t2,n2,x2,l2,c2,.slice A2 m2 d2,.slice B2 M2 D2]] W (jt W Ok .ex F2))(Q:Exit->Act->World->Prop)
  (hend:∀ (V:Nat->Value) (w':World),Bel w.drew w'->((∀ j,Ok j->j<w'.heap.size)/\∃ (A:Option Addr) (c:Nat),(V 5)=.slice A F1.len c/\KidsTr w' (fun j=>Ok j∨(z<=j/\j<w'.heap.size)) .ex A F1.len c F1)->((∀ j,Ok j->j<w'.heap.size)/\∃ (A:Option Addr) (c:Nat),(V 11)=.slice A F2.len c/\KidsTr w' (fun j=>Ok j∨(z<=j/\j<w'.heap.size)) .ex A F2.len c F2)->wpList Tryz.prog regKx.toArray Q (regKx.drop 12) (qgI b1 o1 b2 o2 m ca cb j k1 n1 x1 l1 c1 k2 n2 x2 l2 c2 t1 t2 A1 B1 A2 B2 m1 d1 M1 D1 m2 d2 M2 D2 F1 F2 Ok z s0 s1 s3 s4 s5 s6 s7 s8 s9 s13 s14 s15 s16 s17 s18 s19 s20 s21 s22 s23 s24 s25 s26 s27 s28 s29 s30 s31 s32 s33 s34 s35 s36 s37 s38 s39 s40 s41 s42 s43 s44 s45 s46 s47 s48 s49 s50 s51 s52 s53 s54 s55 s56 s57 s58 s59 s60 s61 s62 s63 s64 s65 s66 s67 s68 s69 s70 s71 s72 s73 s74 s75 s76 s77 df V) w') :
  (Code.region id regKx.toArray true).wp Tryz.prog Q (qid b1 o1 b2 o2 m ca cb j k1 n1 x1 l1 c1 k2 n2 x2 l2 c2 t1 t2 A1 B1 A2 B2 m1 d1 M1 D1 m2 d2 M2 D2 F1 F2 Ok z s0 s1 s3 s4 s5 s6 s7 s8 s9 s13 s14 s15 s16 s17 s18 s19 s20 s21 s22 s23 s24 s25 s26 s27 s28 s29 s30 s31 s32 s33 s34 s35 s36 s37 s38 s39 s40 s41 s42 s43 s44 s45 s46 s47 s48 s49 s50 s51 s52 s53 s54 s55 s56 s57 s58 s59 s60 s61 s62 s63 s64 s65 s66 s67 s68 s69 s70 s71 s72 s73 s74 s75 s76 s77 df) w:=by
 refine qt (l:=regKx) 12 _ w (qeC b1 o1 b2 o2 m ca cb j k1 n1 x1 l1 c1 k2 n2 x2 l2 c2 t1 t2 A1 B1 A2 B2 m1 d1 M1 D1 m2 d2 M2 D2 F1 F2 Ok z) (by kernel_rfl) qcr qd2 qaz qd3 (fun i v w w' hi h hb=>qaR i v w w' hi h hb) ?_ ?_
 ·intro i' o hi' ho a w1 V hbel hdep hpar K hK
  have p2:a.eval (.tmp 2)=.func (.func 28) #[] #[]:=hpar 2 (by show 2<78;decide) (by kernel_rfl);have p2':=tD p2;have p10:a.eval (.tmp 10)=.slice (some ⟨b1,o1,none⟩) m ca:=hpar 10 (by show 10<78;decide) (by kernel_rfl);have p10':=tD p10;have p11:a.eval (.tmp 11)=.slice (some ⟨b2,o2,none⟩) m cb:=hpar 11 (by show 11<78;decide) (by kernel_rfl);have p11':=tD p11;have p12:a.eval (.tmp 12)=.int .i64 (j:Int):=hpar 12 (by show 12<78;decide) (by kernel_rfl);have p12':=tD p12;have ga0:=gX hbel h1 fa0;have ga1:=gX hbel h1 fa1;have ga2:=gX hbel h1 fa2;have ga3:=gX hbel h1 fa3;have ga4:=gX hbel h1 fa4;have ga5:=gX hbel h1 fa5;have ga6:=gX hbel h1 fa6;have ga7:=gX hbel h1 fa7;have gb0:=gX hbel h2 fe0;have gb1:=gX hbel h2 fe1;have gb2:=gX hbel h2 fe2;have gb3:=gX hbel h2 fe3;have gb4:=gX hbel h2 fe4;have gb5:=gX hbel h2 fe5;have gb6:=gX hbel h2 fe6;have gb7:=gX hbel h2 fe7;have ek:∀ args w,(callFunc 28 args).run Tryz.prog w=.ok (.enter 28 args) w:=fun args w=>by kernel_rfl
  have hzw:z<=w1.heap.size:=Nat.le_trans hz hbel.size;match i',hi',ho,hdep,hK with
  | 0,_,ho,hdep,hK=>
   simp only[regKx,gT,gZ,gI]at ho;subst ho;exact nG rfl (wV (by simp[execOp,go_sem,p2']) hK rfl)
  | 1,_,ho,hdep,hK=>
   simp only[regKx,gT,gZ,gS,gI]at ho;subst ho;exact nG rfl (wV (by simp[execOp,go_sem,p10']) hK rfl)
  | 2,_,ho,hdep,hK=>
   simp only[regKx,gT,gZ,gS,gI]at ho;subst ho;exact nG rfl (wV (by simp[execOp,go_sem,p12']) hK rfl)
  | 3,_,ho,hdep,hK=>
   simp only[regKx,gT,gZ,gS,gI]at ho;subst ho;refine nG rfl ?_;have e1':=tK (t:=52) (hdep ⟨1,.data⟩ (by simp) rfl) rfl;have e2':=tK (t:=53) (hdep ⟨2,.data⟩ (by simp) rfl) rfl;exact wV (by simp[execOp,go_sem,e1',e2',i1,i2]) hK rfl
  | 4,_,ho,hdep,hK=>
   simp only[regKx,gT,gZ,gS,gI]at ho;subst ho;refine nG rfl ?_;have e3':=tK (t:=54) (hdep ⟨3,.data⟩ (by simp) rfl) rfl;exact wV (by simp[execOp,go_sem,e3',ga0,ga1,ga2,ga3,ga4,ga5,ga6,ga7]) hK rfl
  | 5,_,ho,hdep,hK=>
   simp only[regKx,gT,gZ,gS,gI]at ho;subst ho;refine nG rfl ?_;have e0':=tK (t:=51) (hdep ⟨0,.data⟩ (by simp) rfl) rfl;have e4':=tK (t:=55) (hdep ⟨4,.data⟩ (by simp) rfl) rfl;refine qi (f:=28) (args:=#[.agg #[.int .u8 k1,t1,n1,x1,l1,c1,.slice A1 m1 d1,.slice B1 M1 D1]]) (by simp[execOp,go_sem,e0',e4',ek]) ((H1 w1 hbel).mono ?_);rintro e w' ⟨A,c,rfl,hb,hk⟩;exact⟨_,rfl,hK _ _ hb ⟨fun j hj=>Nat.lt_of_lt_of_le (hok j hj) (Nat.le_trans hbel.size hb.size),A,c,rfl,hk.wide fun j hj=>by rcases hj with hj | hj;exact .inl hj;exact .inr ⟨Nat.le_trans hzw hj.1,hj.2⟩⟩⟩
  | 6,_,ho,hdep,hK=>
   simp only[regKx,gT,gZ,gS,gI]at ho;subst ho;exact nG rfl (wV (by simp[execOp,go_sem,p2']) hK rfl)
  | 7,_,ho,hdep,hK=>
   simp only[regKx,gT,gZ,gS,gI]at ho;subst ho;exact nG rfl (wV (by simp[execOp,go_sem,p11']) hK rfl)
  | 8,_,ho,hdep,hK=>
   simp only[regKx,gT,gZ,gS,gI]at ho;subst ho;exact nG rfl (wV (by simp[execOp,go_sem,p12']) hK rfl)
  | 9,_,ho,hdep,hK=>
   simp only[regKx,gT,gZ,gS,gI]at ho;subst ho;refine nG rfl ?_;have e7':=tK (t:=58) (hdep ⟨7,.data⟩ (by simp) rfl) rfl;have e8':=tK (t:=59) (hdep ⟨8,.data⟩ (by simp) rfl) rfl;exact wV (by simp[execOp,go_sem,e7',e8',i1,i2]) hK rfl
  | 10,_,ho,hdep,hK=>
   simp only[regKx,gT,gZ,gS,gI]at ho;subst ho;refine nG rfl ?_;have e9':=tK (t:=60) (hdep ⟨9,.data⟩ (by simp) rfl) rfl;exact wV (by simp[execOp,go_sem,e9',gb0,gb1,gb2,gb3,gb4,gb5,gb6,gb7]) hK rfl
  | 11,_,ho,hdep,hK=>
   simp only[regKx,gT,gZ,gS,gI]at ho;subst ho;refine nG rfl ?_;have e6':=tK (t:=57) (hdep ⟨6,.data⟩ (by simp) rfl) rfl;have e10':=tK (t:=61) (hdep ⟨10,.data⟩ (by simp) rfl) rfl;refine qi (f:=28) (args:=#[.agg #[.int .u8 k2,t2,n2,x2,l2,c2,.slice A2 m2 d2,.slice B2 M2 D2]]) (by simp[execOp,go_sem,e6',e10',ek]) ((H2 w1 hbel).mono ?_);rintro e w' ⟨A,c,rfl,hb,hk⟩;exact⟨_,rfl,hK _ _ hb ⟨fun j hj=>Nat.lt_of_lt_of_le (hok j hj) (Nat.le_trans hbel.size hb.size),A,c,rfl,hk.wide fun j hj=>by rcases hj with hj | hj;exact .inl hj;exact .inr ⟨Nat.le_trans hzw hj.1,hj.2⟩⟩⟩
  | q+12,hi,_,_,_=>exact absurd hi (by omega)
 ·intro V w' hb hF
  have e:finA regKx.toArray 12 V (qid b1 o1 b2 o2 m ca cb j k1 n1 x1 l1 c1 k2 n2 x2 l2 c2 t1 t2 A1 B1 A2 B2 m1 d1 M1 D1 m2 d2 M2 D2 F1 F2 Ok z s0 s1 s3 s4 s5 s6 s7 s8 s9 s13 s14 s15 s16 s17 s18 s19 s20 s21 s22 s23 s24 s25 s26 s27 s28 s29 s30 s31 s32 s33 s34 s35 s36 s37 s38 s39 s40 s41 s42 s43 s44 s45 s46 s47 s48 s49 s50 s51 s52 s53 s54 s55 s56 s57 s58 s59 s60 s61 s62 s63 s64 s65 s66 s67 s68 s69 s70 s71 s72 s73 s74 s75 s76 s77 df)=qgI b1 o1 b2 o2 m ca cb j k1 n1 x1 l1 c1 k2 n2 x2 l2 c2 t1 t2 A1 B1 A2 B2 m1 d1 M1 D1 m2 d2 M2 D2 F1 F2 Ok z s0 s1 s3 s4 s5 s6 s7 s8 s9 s13 s14 s15 s16 s17 s18 s19 s20 s21 s22 s23 s24 s25 s26 s27 s28 s29 s30 s31 s32 s33 s34 s35 s36 s37 s38 s39 s40 s41 s42 s43 s44 s45 s46 s47 s48 s49 s50 s51 s52 s53 s54 s55 s56 s57 s58 s59 s60 s61 s62 s63 s64 s65 s66 s67 s68 s69 s70 s71 s72 s73 s74 s75 s76 s77 df V:=by kernel_rfl
  rw[e];exact hend V w' hb (hF 5 (by omega)) (hF 11 (by omega))
def regAx:List Oper:=[
 ⟨some 5,.fieldAddr 32 (.tmp 2) 0,0,"alike.go:11",#[],none⟩,
 ⟨some 6,.load 5 (.tmp 5),5,"alike.go:11",#[⟨0,.data⟩],none⟩,
 ⟨some 7,.fieldAddr 32 (.tmp 3) 0,0,"alike.go:11",#[],none⟩,
 ⟨some 8,.load 5 (.tmp 7),5,"alike.go:11",#[⟨2,.data⟩],none⟩,
 ⟨some 9,.binOp .eql 5 (.tmp 6) (.tmp 8) 5,4,"alike.go:11",#[⟨1,.data⟩,⟨3,.data⟩],none⟩,
 ⟨some 10,.move (.tmp 9),4,"alike.go:11",#[⟨4,.data⟩],none⟩,
 ⟨some 11,.fieldAddr 32 (.tmp 2) 1,0,"alike.go:11",#[⟨5,.guard⟩],some (5,true)⟩,
 ⟨some 12,.load 9 (.tmp 11),9,"alike.go:11",#[⟨6,.data⟩,⟨5,.guard⟩],some (5,true)⟩,
 ⟨some 13,.fieldAddr 32 (.tmp 3) 1,0,"alike.go:11",#[⟨5,.guard⟩],some (5,true)⟩,
 ⟨some 14,.load 9 (.tmp 13),9,"alike.go:11",#[⟨8,.data⟩,⟨5,.guard⟩],some (5,true)⟩,
 ⟨some 15,.binOp .eql 9 (.tmp 12) (.tmp 14) 9,4,"alike.go:11",#[⟨7,.data⟩,⟨9,.data⟩,⟨5,.guard⟩],some (5,true)⟩,
 ⟨some 16,.pick (.tmp 10) (.tmp 15) (.const (Value.bool false)),4,"alike.go:11",#[⟨5,.data⟩,⟨10,.data⟩],none⟩,
 ⟨some 17,.move (.tmp 16),4,"alike.go:11",#[⟨11,.data⟩,⟨5,.chain⟩],none⟩,
 ⟨some 18,.fieldAddr 32 (.tmp 2) 2,0,"alike.go:11",#[⟨12,.guard⟩],some (12,true)⟩,
 ⟨some 19,.load 2 (.tmp 18),2,"alike.go:11",#[⟨13,.data⟩,⟨12,.guard⟩],some (12,true)⟩,
 ⟨some 20,.fieldAddr 32 (.tmp 3) 2,0,"alike.go:11",#[⟨12,.guard⟩],some (12,true)⟩,
 ⟨some 21,.load 2 (.tmp 20),2,"alike.go:11",#[⟨15,.data⟩,⟨12,.guard⟩],some (12,true)⟩,
 ⟨some 22,.binOp .eql 2 (.tmp 19) (.tmp 21) 2,4,"alike.go:11",#[⟨14,.data⟩,⟨16,.data⟩,⟨12,.guard⟩],some (12,true)⟩,
 ⟨some 23,.pick (.tmp 17) (.tmp 22) (.const (Value.bool false)),4,"alike.go:11",#[⟨12,.data⟩,⟨17,.data⟩],none⟩,
 ⟨some 24,.move (.tmp 23),4,"alike.go:11",#[⟨18,.data⟩,⟨12,.chain⟩],none⟩,
 ⟨some 25,.load 32 (.tmp 2),32,"alike.go:11",#[⟨19,.guard⟩],some (19,true)⟩,
 ⟨some 26,.call ⟨.value (.func 69),#[.tmp 25],#[32]⟩,76,"alike.go:11",#[⟨20,.data⟩,⟨19,.chain⟩,⟨19,.guard⟩],some (19,true)⟩,
 ⟨some 27,.load 32 (.tmp 3),32,"alike.go:11",#[⟨19,.guard⟩],some (19,true)⟩,
 ⟨some 28,.call ⟨.value (.func 69),#[.tmp 27],#[32]⟩,76,"alike.go:11",#[⟨22,.data⟩,⟨21,.chain⟩,⟨19,.guard⟩],some (19,true)⟩,
 ⟨some 29,.call ⟨.value (.func 75),#[.tmp 26,.tmp 28,.func 70,.func 76],#[76,76,128,75]⟩,4,"alike.go:11",#[⟨21,.data⟩,⟨23,.data⟩,⟨23,.chain⟩,⟨19,.guard⟩],some (19,true)⟩,
 ⟨some 30,.pick (.tmp 24) (.tmp 29) (.const (Value.bool false)),4,"alike.go:11",#[⟨19,.data⟩,⟨24,.data⟩],none⟩,
 ⟨some 4,.assign (.tmp 30),4,"alike.go:11",#[⟨25,.data⟩,⟨24,.chain⟩,⟨0,.phase⟩,⟨1,.phase⟩,⟨2,.phase⟩,⟨3,.phase⟩,⟨4,.phase⟩,⟨5,.phase⟩,⟨6,.phase⟩,⟨7,.phase⟩,⟨8,.phase⟩,⟨9,.phase⟩,⟨10,.phase⟩,⟨11,.phase⟩,⟨12,.phase⟩,⟨13,.phase⟩,⟨14,.phase⟩,⟨15,.phase⟩,⟨16,.phase⟩,⟨17,.phase⟩,⟨18,.phase⟩,⟨19,.phase⟩,⟨20,.phase⟩,⟨21,.phase⟩,⟨22,.phase⟩,⟨23,.phase⟩,⟨24,.phase⟩,⟨25,.phase⟩],none⟩]
def qez(bx yb:Nat)(k1 n1 x1 l1 c1 x2 l2 c2:Int)(t1:ByteArray)(A1 B1 A2 B2:Option Addr)(m1 d1 M1 D1 m2 d2 M2 D2:Nat)(G1 G2:Tr)(q:Bool)(i:Nat)(v:Value)(w:World):Prop:=
 match i with
 | 0=>v=.pointer (some ⟨bx,0,none⟩)
 | 1=>v=.int .u8 k1
 | 2=>v=.pointer (some ⟨yb,0,none⟩)
 | 3=>v=.int .u8 k1
 | 4=>v=.bool true
 | 5=>v=.bool true
 | 6=>v=.pointer (some ⟨bx,1,none⟩)
 | 7=>v=.string t1
 | 8=>v=.pointer (some ⟨yb,1,none⟩)
 | 9=>v=.string t1
 | 10=>v=.bool true
 | 11=>v=.bool true
 | 12=>v=.bool true
 | 13=>v=.pointer (some ⟨bx,2,none⟩)
 | 14=>v=.int .i64 n1
 | 15=>v=.pointer (some ⟨yb,2,none⟩)
 | 16=>v=.int .i64 n1
 | 17=>v=.bool true
 | 18=>v=.bool true
 | 19=>v=.bool true
 | 20=>v=.agg #[.int .u8 k1,t1,n1,x1,l1,c1,.slice A1 m1 d1,.slice B1 M1 D1]
 | 21=>∃ (A:Option Addr) (c:Nat),v=.slice A G1.len c/\KidsTr w (OldT w) .pat A G1.len c G1
 | 22=>v=.agg #[.int .u8 k1,t1,n1,x2,l2,c2,.slice A2 m2 d2,.slice B2 M2 D2]
 | 23=>∃ (A:Option Addr) (c:Nat),v=.slice A G2.len c/\KidsTr w (OldT w) .pat A G2.len c G2
 | 24=>v=.bool q
 | 25=>v=.bool q
 | _=>True
theorem qaO{bx yb:Nat}{k1 n1 x1 l1 c1 x2 l2 c2:Int}{t1:ByteArray}{A1 B1 A2 B2:Option Addr}{m1 d1 M1 D1 m2 d2 M2 D2:Nat}{G1 G2:Tr}{q:Bool}(i:Nat)(v:Value)(w w':World)(hi:i<26)(h:qez bx yb k1 n1 x1 l1 c1 x2 l2 c2 t1 A1 B1 A2 B2 m1 d1 M1 D1 m2 d2 M2 D2 G1 G2 q i v w)(hb:Bel w w'):qez bx yb k1 n1 x1 l1 c1 x2 l2 c2 t1 A1 B1 A2 B2 m1 d1 M1 D1 m2 d2 M2 D2 G1 G2 q i v w':=by
 match i,hi,h with
 | 0,_,h | 1,_,h | 2,_,h | 3,_,h | 4,_,h | 5,_,h | 6,_,h | 7,_,h | 8,_,h | 9,_,h | 10,_,h | 11,_,h | 12,_,h | 13,_,h | 14,_,h | 15,_,h | 16,_,h | 17,_,h | 18,_,h | 19,_,h | 20,_,h=>exact h
 | 21,_,h=>obtain⟨A,c,e,q2⟩:=h;exact⟨A,c,e,q2.bel hb⟩
 | 22,_,h=>exact h
 | 23,_,h=>obtain⟨A,c,e,q2⟩:=h;exact⟨A,c,e,q2.bel hb⟩
 | 24,_,h | 25,_,h=>exact h
 | q+26,hi,_=>exact absurd hi (by omega)
def qib(bx yb:Nat)(k1 n1 x1 l1 c1 x2 l2 c2:Int)(t1:ByteArray)(A1 B1 A2 B2:Option Addr)(m1 d1 M1 D1 m2 d2 M2 D2:Nat)(G1 G2:Tr)(q:Bool)(s0 s1 s4 s5 s6 s7 s8 s9 s10 s11 s12 s13 s14 s15 s16 s17 s18 s19 s20 s21 s22 s23 s24 s25 s26 s27 s28 s29 s30:Value)(df:List Deferred):Act:={ tmps:=#[s0,s1,.pointer (some ⟨bx,0,none⟩),.pointer (some ⟨yb,0,none⟩),s4,s5,s6,s7,s8,s9,s10,s11,s12,s13,s14,s15,s16,s17,s18,s19,s20,s21,s22,s23,s24,s25,s26,s27,s28,s29,s30],defers:=df }
def qgF(bx yb:Nat)(k1 n1 x1 l1 c1 x2 l2 c2:Int)(t1:ByteArray)(A1 B1 A2 B2:Option Addr)(m1 d1 M1 D1 m2 d2 M2 D2:Nat)(G1 G2:Tr)(q:Bool)(s0 s1 s4 s5 s6 s7 s8 s9 s10 s11 s12 s13 s14 s15 s16 s17 s18 s19 s20 s21 s22 s23 s24 s25 s26 s27 s28 s29 s30:Value)(df:List Deferred)(V:Nat->Value):Act:={ tmps:=#[s0,s1,.pointer (some ⟨bx,0,none⟩),.pointer (some ⟨yb,0,none⟩),s4,V 0,V 1,V 2,V 3,V 4,V 5,V 6,V 7,V 8,V 9,V 10,V 11,V 12,V 13,V 14,V 15,V 16,V 17,V 18,V 19,V 20,V 21,V 22,V 23,V 24,V 25],defers:=df }
theorem qcp:zP .any regAx.toArray 26=true:=by kernel_rfl
theorem qdU:fwdB regAx.toArray 26=true:=by kernel_rfl
theorem qaw:qU regAx.toArray 31=true:=by kernel_rfl
theorem qdV:Region.seqB .any regAx.toArray (regAx.length-26) 26 (Array.replicate 26 true++Array.replicate (regAx.length-26) false)=true:=by kernel_rfl
set_option maxRecDepth 100000 in
theorem qdT{id:Nat}(bx yb:Nat)(k1 n1 x1 l1 c1 x2 l2 c2:Int)(t1:ByteArray)(A1 B1 A2 B2:Option Addr)(m1 d1 M1 D1 m2 d2 M2 D2:Nat)(G1 G2:Tr)(q:Bool)(s0 s1 s4 s5 s6 s7 s8 s9 s10 s11 s12 s13 s14 s15 s16 s17 s18 s19 s20 s21 s22 s23 s24 s25 s26 s27 s28 s29 s30:Value)(df:List Deferred)(w:World)(h1:bx<w.drew.heap.size)(h2:yb<w.drew.heap.size)(fa0:w.drew.cell? ⟨bx,0,none⟩=some (.int .u8 k1))(fe0:w.drew.cell? ⟨yb,0,none⟩=some (.int .u8 k1))(fa1:w.drew.cell? ⟨bx,1,none⟩=some (.string t1))(fe1:w.drew.cell? ⟨yb,1,none⟩=some (.string t1))(fa2:w.drew.cell? ⟨bx,2,none⟩=some (.int .i64 n1))(fe2:w.drew.cell? ⟨yb,2,none⟩=some (.int .i64 n1))(fa3:w.drew.cell? ⟨bx,3,none⟩=some (.int .i64 x1))(fe3:w.drew.cell? ⟨yb,3,none⟩=some (.int .i64 x2))(fa4:w.drew.cell? ⟨bx,4,none⟩=some (.int .i64 l1))(fe4:w.drew.cell? ⟨yb,4,none⟩=some (.int .i64 l2))(fa5:w.drew.cell? ⟨bx,5,none⟩=some (.int .i64 c1))(fe5:w.drew.cell? ⟨yb,5,none⟩=some (.int .i64 c2))(fa6:w.drew.cell? ⟨bx,6,none⟩=some (.slice A1 m1 d1))(fe6:w.drew.cell? ⟨yb,6,none⟩=some (.slice A2 m2 d2))(fa7:w.drew.cell? ⟨bx,7,none⟩=some (.slice B1 M1 D1))(fe7:w.drew.cell? ⟨yb,7,none⟩=some (.slice B2 M2 D2))(H1:∀ W,Bel w.drew W->Calls Tryz.prog 69 #[.agg #[.int .u8 k1,t1,n1,x1,l1,c1,.slice A1 m1 d1,.slice B1 M1 D1]] W (jt W (OldT W) .pat G1))(H2:∀ W,Bel w.drew W->Calls Tryz.prog 69 #[.agg #[.int .u8 k1,t1,n1,x2,l2,c2,.slice A2 m2 d2,.slice B2 M2 D2]] W (jt W (OldT W) .pat G2))(HS:∀ (A:Option Addr) (c:Nat) (A':Option Addr) (c':Nat) (W:World),KidsTr W (OldT W) .pat A G1.len c G1->KidsTr W (OldT W) .pat A' G2.len c' G2->Calls Tryz.prog 75 #[.slice A G1.len c,.slice A' G2.len c',.func (.func 70) #[] #[],.func (.func 76) #[] #[]] W (qj q W))(Q:Exit->Act->World->Prop)
  (hend:∀ (V:Nat->Value) (w':World),Bel w.drew w'->((V 25)=.bool q)->wpList Tryz.prog regAx.toArray Q (regAx.drop 26) (qgF bx yb k1 n1 x1 l1 c1 x2 l2 c2 t1 A1 B1 A2 B2 m1 d1 M1 D1 m2 d2 M2 D2 G1 G2 q s0 s1 s4 s5 s6 s7 s8 s9 s10 s11 s12 s13 s14 s15 s16 s17 s18 s19 s20 s21 s22 s23 s24 s25 s26 s27 s28 s29 s30 df V) w') :
  (Code.region id regAx.toArray true).wp Tryz.prog Q (qib bx yb k1 n1 x1 l1 c1 x2 l2 c2 t1 A1 B1 A2 B2 m1 d1 M1 D1 m2 d2 M2 D2 G1 G2 q s0 s1 s4 s5 s6 s7 s8 s9 s10 s11 s12 s13 s14 s15 s16 s17 s18 s19 s20 s21 s22 s23 s24 s25 s26 s27 s28 s29 s30 df) w:=by
 refine qt (l:=regAx) 26 _ w (qez bx yb k1 n1 x1 l1 c1 x2 l2 c2 t1 A1 B1 A2 B2 m1 d1 M1 D1 m2 d2 M2 D2 G1 G2 q) (by kernel_rfl) qcp qdU qaw qdV (fun i v w w' hi h hb=>qaO i v w w' hi h hb) ?_ ?_
 ·intro i' o hi' ho a w1 V hbel hdep hpar K hK
  have p2:a.eval (.tmp 2)=.pointer (some ⟨bx,0,none⟩):=hpar 2 (by show 2<31;decide) (by kernel_rfl);have p2':=tD p2;have p3:a.eval (.tmp 3)=.pointer (some ⟨yb,0,none⟩):=hpar 3 (by show 3<31;decide) (by kernel_rfl);have p3':=tD p3;have ga0:=gX hbel h1 fa0;have ga1:=gX hbel h1 fa1;have ga2:=gX hbel h1 fa2;have ga3:=gX hbel h1 fa3;have ga4:=gX hbel h1 fa4;have ga5:=gX hbel h1 fa5;have ga6:=gX hbel h1 fa6;have ga7:=gX hbel h1 fa7;have gb0:=gX hbel h2 fe0;have gb1:=gX hbel h2 fe1;have gb2:=gX hbel h2 fe2;have gb3:=gX hbel h2 fe3;have gb4:=gX hbel h2 fe4;have gb5:=gX hbel h2 fe5;have gb6:=gX hbel h2 fe6;have gb7:=gX hbel h2 fe7;match i',hi',ho,hdep,hK with
  | 0,_,ho,hdep,hK=>
   simp only[regAx,gT,gZ,gI]at ho;subst ho;exact nG rfl (wV (by simp[execOp,go_sem,p2']) hK rfl)
  | 1,_,ho,hdep,hK=>
   simp only[regAx,gT,gZ,gS,gI]at ho;subst ho;refine nG rfl ?_;have e0':=tK (t:=5) (hdep ⟨0,.data⟩ (by simp) rfl) rfl;exact wV (by simp[execOp,go_sem,e0',ga0]) hK rfl
  | 2,_,ho,hdep,hK=>
   simp only[regAx,gT,gZ,gS,gI]at ho;subst ho;exact nG rfl (wV (by simp[execOp,go_sem,p3']) hK rfl)
  | 3,_,ho,hdep,hK=>
   simp only[regAx,gT,gZ,gS,gI]at ho;subst ho;refine nG rfl ?_;have e2':=tK (t:=7) (hdep ⟨2,.data⟩ (by simp) rfl) rfl;exact wV (by simp[execOp,go_sem,e2',gb0]) hK rfl
  | 4,_,ho,hdep,hK=>
   simp only[regAx,gT,gZ,gS,gI]at ho;subst ho;refine nG rfl ?_;have e1':=tK (t:=6) (hdep ⟨1,.data⟩ (by simp) rfl) rfl;have e3':=tK (t:=8) (hdep ⟨3,.data⟩ (by simp) rfl) rfl;exact wV (by simp[execOp,go_sem,e1',e3']) hK rfl
  | 5,_,ho,hdep,hK=>
   simp only[regAx,gT,gZ,gS,gI]at ho;subst ho;refine nG rfl ?_;have e4':=tK (t:=9) (hdep ⟨4,.data⟩ (by simp) rfl) rfl;exact wV (by simp[execOp,go_sem,e4']) hK rfl
  | 6,_,ho,hdep,hK=>
   simp only[regAx,gT,gZ,gS,gI]at ho;subst ho;obtain⟨fg,dg⟩:=hdep ⟨5,.guard⟩ (by simp) rfl;have eg:a.tmps.getD 10 undef=.bool true:=(dg 10 rfl).trans fg;refine⟨fun _=>?_,fun hw=>(yw_t (d:=10) rfl rfl eg hw).elim⟩;exact wV (by simp[execOp,go_sem,p2']) hK rfl
  | 7,_,ho,hdep,hK=>
   simp only[regAx,gT,gZ,gS,gI]at ho;subst ho;obtain⟨fg,dg⟩:=hdep ⟨5,.guard⟩ (by simp) rfl;have eg:a.tmps.getD 10 undef=.bool true:=(dg 10 rfl).trans fg;refine⟨fun _=>?_,fun hw=>(yw_t (d:=10) rfl rfl eg hw).elim⟩;have e6':=tK (t:=11) (hdep ⟨6,.data⟩ (by simp) rfl) rfl;exact wV (by simp[execOp,go_sem,e6',ga1]) hK rfl
  | 8,_,ho,hdep,hK=>
   simp only[regAx,gT,gZ,gS,gI]at ho;subst ho;obtain⟨fg,dg⟩:=hdep ⟨5,.guard⟩ (by simp) rfl;have eg:a.tmps.getD 10 undef=.bool true:=(dg 10 rfl).trans fg;refine⟨fun _=>?_,fun hw=>(yw_t (d:=10) rfl rfl eg hw).elim⟩;exact wV (by simp[execOp,go_sem,p3']) hK rfl
  | 9,_,ho,hdep,hK=>
   simp only[regAx,gT,gZ,gS,gI]at ho;subst ho;obtain⟨fg,dg⟩:=hdep ⟨5,.guard⟩ (by simp) rfl;have eg:a.tmps.getD 10 undef=.bool true:=(dg 10 rfl).trans fg;refine⟨fun _=>?_,fun hw=>(yw_t (d:=10) rfl rfl eg hw).elim⟩;have e8':=tK (t:=13) (hdep ⟨8,.data⟩ (by simp) rfl) rfl;exact wV (by simp[execOp,go_sem,e8',gb1]) hK rfl
  | 10,_,ho,hdep,hK=>
   simp only[regAx,gT,gZ,gS,gI]at ho;subst ho;obtain⟨fg,dg⟩:=hdep ⟨5,.guard⟩ (by simp) rfl;have eg:a.tmps.getD 10 undef=.bool true:=(dg 10 rfl).trans fg;refine⟨fun _=>?_,fun hw=>(yw_t (d:=10) rfl rfl eg hw).elim⟩;have e7':=tK (t:=12) (hdep ⟨7,.data⟩ (by simp) rfl) rfl;have e9':=tK (t:=14) (hdep ⟨9,.data⟩ (by simp) rfl) rfl;exact wV (by simp[execOp,go_sem,e7',e9']) hK rfl
  | 11,_,ho,hdep,hK=>
   simp only[regAx,gT,gZ,gS,gI]at ho;subst ho;refine nG rfl ?_;have e5':=tK (t:=10) (hdep ⟨5,.data⟩ (by simp) rfl) rfl;have e10':=tK (t:=15) (hdep ⟨10,.data⟩ (by simp) rfl) rfl;exact wV (by simp[execOp,go_sem,e5',e10']) hK rfl
  | 12,_,ho,hdep,hK=>
   simp only[regAx,gT,gZ,gS,gI]at ho;subst ho;refine nG rfl ?_;have e11':=tK (t:=16) (hdep ⟨11,.data⟩ (by simp) rfl) rfl;exact wV (by simp[execOp,go_sem,e11']) hK rfl
  | 13,_,ho,hdep,hK=>
   simp only[regAx,gT,gZ,gS,gI]at ho;subst ho;obtain⟨fg,dg⟩:=hdep ⟨12,.guard⟩ (by simp) rfl;have eg:a.tmps.getD 17 undef=.bool true:=(dg 17 rfl).trans fg;refine⟨fun _=>?_,fun hw=>(yw_t (d:=17) rfl rfl eg hw).elim⟩;exact wV (by simp[execOp,go_sem,p2']) hK rfl
  | 14,_,ho,hdep,hK=>
   simp only[regAx,gT,gZ,gS,gI]at ho;subst ho;obtain⟨fg,dg⟩:=hdep ⟨12,.guard⟩ (by simp) rfl;have eg:a.tmps.getD 17 undef=.bool true:=(dg 17 rfl).trans fg;refine⟨fun _=>?_,fun hw=>(yw_t (d:=17) rfl rfl eg hw).elim⟩;have e13':=tK (t:=18) (hdep ⟨13,.data⟩ (by simp) rfl) rfl;exact wV (by simp[execOp,go_sem,e13',ga2]) hK rfl
  | 15,_,ho,hdep,hK=>
   simp only[regAx,gT,gZ,gS,gI]at ho;subst ho;obtain⟨fg,dg⟩:=hdep ⟨12,.guard⟩ (by simp) rfl;have eg:a.tmps.getD 17 undef=.bool true:=(dg 17 rfl).trans fg;refine⟨fun _=>?_,fun hw=>(yw_t (d:=17) rfl rfl eg hw).elim⟩;exact wV (by simp[execOp,go_sem,p3']) hK rfl
  | 16,_,ho,hdep,hK=>
   simp only[regAx,gT,gZ,gS,gI]at ho;subst ho;obtain⟨fg,dg⟩:=hdep ⟨12,.guard⟩ (by simp) rfl;have eg:a.tmps.getD 17 undef=.bool true:=(dg 17 rfl).trans fg;refine⟨fun _=>?_,fun hw=>(yw_t (d:=17) rfl rfl eg hw).elim⟩;have e15':=tK (t:=20) (hdep ⟨15,.data⟩ (by simp) rfl) rfl;exact wV (by simp[execOp,go_sem,e15',gb2]) hK rfl
  | 17,_,ho,hdep,hK=>
   simp only[regAx,gT,gZ,gS,gI]at ho;subst ho;obtain⟨fg,dg⟩:=hdep ⟨12,.guard⟩ (by simp) rfl;have eg:a.tmps.getD 17 undef=.bool true:=(dg 17 rfl).trans fg;refine⟨fun _=>?_,fun hw=>(yw_t (d:=17) rfl rfl eg hw).elim⟩;have e14':=tK (t:=19) (hdep ⟨14,.data⟩ (by simp) rfl) rfl;have e16':=tK (t:=21) (hdep ⟨16,.data⟩ (by simp) rfl) rfl;exact wV (by simp[execOp,go_sem,e14',e16']) hK rfl
  | 18,_,ho,hdep,hK=>
   simp only[regAx,gT,gZ,gS,gI]at ho;subst ho;refine nG rfl ?_;have e12':=tK (t:=17) (hdep ⟨12,.data⟩ (by simp) rfl) rfl;have e17':=tK (t:=22) (hdep ⟨17,.data⟩ (by simp) rfl) rfl;exact wV (by simp[execOp,go_sem,e12',e17']) hK rfl
  | 19,_,ho,hdep,hK=>
   simp only[regAx,gT,gZ,gS,gI]at ho;subst ho;refine nG rfl ?_;have e18':=tK (t:=23) (hdep ⟨18,.data⟩ (by simp) rfl) rfl;exact wV (by simp[execOp,go_sem,e18']) hK rfl
  | 20,_,ho,hdep,hK=>
   simp only[regAx,gT,gZ,gS,gI]at ho;subst ho;obtain⟨fg,dg⟩:=hdep ⟨19,.guard⟩ (by simp) rfl;have eg:a.tmps.getD 24 undef=.bool true:=(dg 24 rfl).trans fg;refine⟨fun _=>?_,fun hw=>(yw_t (d:=24) rfl rfl eg hw).elim⟩;exact wV (by simp[execOp,go_sem,p2',ga0,ga1,ga2,ga3,ga4,ga5,ga6,ga7]) hK rfl
  | 21,_,ho,hdep,hK=>
   simp only[regAx,gT,gZ,gS,gI]at ho;subst ho;obtain⟨fg,dg⟩:=hdep ⟨19,.guard⟩ (by simp) rfl;have eg:a.tmps.getD 24 undef=.bool true:=(dg 24 rfl).trans fg;refine⟨fun _=>?_,fun hw=>(yw_t (d:=24) rfl rfl eg hw).elim⟩;have e20':=tK (t:=25) (hdep ⟨20,.data⟩ (by simp) rfl) rfl;refine qi (f:=69) (args:=#[.agg #[.int .u8 k1,t1,n1,x1,l1,c1,.slice A1 m1 d1,.slice B1 M1 D1]]) (by simp[go_sem,e20']) ((H1 w1 hbel).mono ?_);rintro e w' ⟨A,c,rfl,hb,hk⟩;exact⟨_,rfl,hK _ _ hb ⟨A,c,rfl,hk.wide fun j hj=>by rcases hj with hj | hj;exact Nat.lt_of_lt_of_le hj hb.size;exact hj.2⟩⟩
  | 22,_,ho,hdep,hK=>
   simp only[regAx,gT,gZ,gS,gI]at ho;subst ho;obtain⟨fg,dg⟩:=hdep ⟨19,.guard⟩ (by simp) rfl;have eg:a.tmps.getD 24 undef=.bool true:=(dg 24 rfl).trans fg;refine⟨fun _=>?_,fun hw=>(yw_t (d:=24) rfl rfl eg hw).elim⟩;exact wV (by simp[execOp,go_sem,p3',gb0,gb1,gb2,gb3,gb4,gb5,gb6,gb7]) hK rfl
  | 23,_,ho,hdep,hK=>
   simp only[regAx,gT,gZ,gS,gI]at ho;subst ho;obtain⟨fg,dg⟩:=hdep ⟨19,.guard⟩ (by simp) rfl;have eg:a.tmps.getD 24 undef=.bool true:=(dg 24 rfl).trans fg;refine⟨fun _=>?_,fun hw=>(yw_t (d:=24) rfl rfl eg hw).elim⟩;have e22':=tK (t:=27) (hdep ⟨22,.data⟩ (by simp) rfl) rfl;refine qi (f:=69) (args:=#[.agg #[.int .u8 k1,t1,n1,x2,l2,c2,.slice A2 m2 d2,.slice B2 M2 D2]]) (by simp[go_sem,e22']) ((H2 w1 hbel).mono ?_);rintro e w' ⟨A,c,rfl,hb,hk⟩;exact⟨_,rfl,hK _ _ hb ⟨A,c,rfl,hk.wide fun j hj=>by rcases hj with hj | hj;exact Nat.lt_of_lt_of_le hj hb.size;exact hj.2⟩⟩
  | 24,_,ho,hdep,hK=>
   simp only[regAx,gT,gZ,gS,gI]at ho;subst ho;obtain⟨fg,dg⟩:=hdep ⟨19,.guard⟩ (by simp) rfl;have eg:a.tmps.getD 24 undef=.bool true:=(dg 24 rfl).trans fg;refine⟨fun _=>?_,fun hw=>(yw_t (d:=24) rfl rfl eg hw).elim⟩;obtain⟨f21,d21⟩:=hdep ⟨21,.data⟩ (by simp) rfl;obtain⟨A_21,c_21,hv21,hq21⟩:=f21;have e21:a.eval (.tmp 26)=.slice A_21 G1.len c_21:=(d21 26 rfl).trans hv21;have e21':=tD e21;obtain⟨f23,d23⟩:=hdep ⟨23,.data⟩ (by simp) rfl;obtain⟨A_23,c_23,hv23,hq23⟩:=f23;have e23:a.eval (.tmp 28)=.slice A_23 G2.len c_23:=(d23 28 rfl).trans hv23;have e23':=tD e23;refine qi (f:=75) (args:=#[.slice A_21 G1.len c_21,.slice A_23 G2.len c_23,.func (.func 70) #[] #[],.func (.func 76) #[] #[]]) (by simp[go_sem,e21',e23']) ((HS A_21 c_21 A_23 c_23 w1 hq21 hq23).mono ?_);rintro e w' ⟨rfl,hb⟩;exact⟨_,rfl,hK _ _ hb rfl⟩
  | 25,_,ho,hdep,hK=>
   simp only[regAx,gT,gZ,gS,gI]at ho;subst ho;refine nG rfl ?_;have e19':=tK (t:=24) (hdep ⟨19,.data⟩ (by simp) rfl) rfl;have e24':=tK (t:=29) (hdep ⟨24,.data⟩ (by simp) rfl) rfl;exact wV (by simp[execOp,go_sem,e19',e24']) hK rfl
  | q+26,hi,_,_,_=>exact absurd hi (by omega)
 ·intro V w' hb hF
  have e:finA regAx.toArray 26 V (qib bx yb k1 n1 x1 l1 c1 x2 l2 c2 t1 A1 B1 A2 B2 m1 d1 M1 D1 m2 d2 M2 D2 G1 G2 q s0 s1 s4 s5 s6 s7 s8 s9 s10 s11 s12 s13 s14 s15 s16 s17 s18 s19 s20 s21 s22 s23 s24 s25 s26 s27 s28 s29 s30 df)=qgF bx yb k1 n1 x1 l1 c1 x2 l2 c2 t1 A1 B1 A2 B2 m1 d1 M1 D1 m2 d2 M2 D2 G1 G2 q s0 s1 s4 s5 s6 s7 s8 s9 s10 s11 s12 s13 s14 s15 s16 s17 s18 s19 s20 s21 s22 s23 s24 s25 s26 s27 s28 s29 s30 df V:=by kernel_rfl
  rw[e];exact hend V w' hb (hF 25 (by omega))
end Go.Proofs.YtlmmaoobembadaaGreatDoor.Mu
