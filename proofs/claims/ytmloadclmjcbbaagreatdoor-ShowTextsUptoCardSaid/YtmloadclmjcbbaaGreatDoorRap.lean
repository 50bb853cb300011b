import Derived.Test.YtmloadclmjcbbaaGreatDoorRao
namespace Go.Proofs.YtmloadclmjcbbaaGreatDoor.Mu
open Go Go.RowKit Go.Shelf
attribute [local go_sem] Oper.semAt_some
set_option linter.unusedVariables false
set_option maxRecDepth 100000
def qj0(l:List Oper)(n N:Nat):Bool:=decide (l.length=n)&&fwdB l.toArray n&&QD l.toArray N
section
variable {P : Program} {Q : Exit -> Act -> World -> Prop}
theorem qje{id:Nat}{l:List Oper}(n N:Nat)(a0:Act)(w0:World)(F:Nat->Value->World->Prop)(hm:P.follows .mixedOrders=true)(hc:qj0 l n N=true)(hN:a0.tmps.size=N)
  (hmono:∀ i v w w',i<n->F i v w->Bel w w'->F i v w')
  (hstep:∀ i o,i<n->l[i]?=some o->∀ (a:Act) (w:World) (V:Nat->Value),Bel w0.drew w →
   (∀ j t,depB l o j t=true->F j (V j) w/\a.tmps[t]?.getD undef=V j)->(∀ s,(decide (s<N)&&qdG l.toArray n s)=true->a.eval (.tmp s)=a0.eval (.tmp s)) →
   ∀ K:Act->World->Prop,(∀ v w',Bel w w'->F i v w'->K (a.put o.dst v) w')->(Region.wanted o (yielded l.toArray a.tmps)=true->Oper.wp P o a w K Q)/\(Region.wanted o (yielded l.toArray a.tmps)=false->F i undef w))
  (hend:∀ (V:Nat->Value) (w:World),Bel w0.drew w->(∀ i,i<n->F i (V i) w)->Q .normal (finP l n V a0) w) :
  (Code.region id l.toArray true).wp P Q a0 w0:=by
 unfold qj0 at hc;simp only[bA,pE]at hc;obtain⟨⟨c1,c2⟩,c3⟩:=hc;subst hN;refine JS n c1 a0 w0 F hm c2 c3 hmono ?_ ?_
 ·intro i o hi ho a w V hb hdep hpar K hK
  refine hstep i o hi (by simpa using ho) a w V hb ?_ ?_ K hK
  ·intro j t hd
   unfold depB at hd;rw[bA,List.any_eq_true]at hd;obtain⟨⟨e,he,hj⟩,ht⟩:=hd;rw[bA,beq_iff_eq]at hj;obtain⟨rfl,hbn⟩:=hj;obtain⟨f1,f2⟩:=hdep e (by simpa using he) hbn;have f3:=f2 t (by simpa using ht);simp only[Act.eval,gDd]at f3;exact⟨f1,f3⟩
  ·intro s hs
   rw[bA,pE]at hs;refine hpar s hs.1 ?_;have h2:=hs.2;unfold qdG at h2;cases hq:zA l.toArray s with
   | none=>rfl
   | some q=>
    exfalso
    rw[hq]at h2;have h3:n<=q:=by simpa using h2
    have h4:=List.mem_of_find?_eq_some hq;simp at h4;omega
 ·intro V w hb hF
  rw[qbl c3 (by omega)];exact hend V w hb hF
end
end Go.Proofs.YtmloadclmjcbbaaGreatDoor.Mu
