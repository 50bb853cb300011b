import Derived.RangeFuncNested
import Derived.RangeFuncBound
import Derived.RangeFuncCalls
import Derived.RangeFuncLeaves
import Derived.RangeFuncBox
import Derived.Deep.LoopGhost
import Derived.Test.YtlmmaoobembadaaGreatDoorQad
open Go.Lib (hid)
namespace Go.Proofs.YtlmmaoobembadaaGreatDoor.Mu
open Go Go.RowKit
structure Mv (Z:Nat->Prop) (W W':World):Prop where
 os:W'.os=W.os
 tape:W'.tape=W.tape
 output:W'.output=W.output
 size:W.heap.size<=W'.heap.size
 block:∀ k,k<W.heap.size->¬ Z k->W'.heap[k]?=W.heap[k]?
section
variable {Z Z' : Nat -> Prop} {A B C : World}
theorem Mv.refl(Z:Nat->Prop)(W:World):Mv Z W W:=⟨rfl,rfl,rfl,Nat.le_refl _,fun _ _ _=>rfl⟩
theorem Mv.more(h:Mv Z A B)(hz:∀ k,k<A.heap.size->Z k->Z' k):Mv Z' A B:=⟨h.os,h.tape,h.output,h.size,fun k hk hn=>h.block k hk (fun hz'=>hn (hz k hk hz'))⟩
theorem Mv.trans(h:Mv Z A B)(k:Mv Z' B C)(hz:∀ j,Z' j->Z j∨A.heap.size<=j):Mv Z A C:=
 ⟨k.os.trans h.os,k.tape.trans h.tape,k.output.trans h.output,Nat.le_trans h.size k.size,fun j hj hn=>
  (k.block j (Nat.lt_of_lt_of_le hj h.size) (fun hz'=>by rcases hz j hz' with e | e;exact hn e;omega)).trans (h.block j hj hn)⟩
theorem Mv.bel(h:Mv (fun _=>False) A B):Bel A B:=⟨h.os,h.tape,h.output,h.size,fun k hk=>h.block k hk (fun f=>f)⟩
theorem Mv.of_bel(h:Bel A B):Mv Z A B:=⟨h.os,h.tape,h.output,h.size,fun k hk _=>h.block k hk⟩
theorem Mv.alloc(h:Mv Z A B)(o:Obj):Mv Z A (B.alloc o):=h.trans (Z':=fun _=>False) (.of_bel ((Bel.refl B).alloc o)) (fun _ f=>f.elim)
theorem Mv.set_(h:Mv Z A B){p:Addr}(hp:Z p.block∨A.heap.size<=p.block)(v:Value):Mv Z A (B.setCell p v):=
 ⟨h.os,h.tape,h.output,by have:=h.size;simpa [World.setCell] using this,fun k hk hn=>(Below.heap_setCell B p v k (by
  rintro rfl;rcases hp with hp | hp
  ·exact hn hp
  ·omega)).trans (h.block k hk hn)⟩
theorem Mv.putObj(h:Mv Z A B){l:Nat}(hp:Z l∨A.heap.size<=l)(o:Obj):Mv Z A (B.putObj l o):=
 ⟨h.os,h.tape,h.output,by have:=h.size;simpa using this,fun k hk hn=>(World.putObj_heap_other (by
  rintro rfl;rcases hp with hp | hp
  ·exact hn hp
  ·omega)).trans (h.block k hk hn)⟩
theorem Mv.grown(h:Mv Z A B){row:Option Nat}(hg:B.grownBy C row)(hr:∀ k,row=some k->Z k∨A.heap.size<=k):Mv Z A C:=
 ⟨hg.os.trans h.os,hg.tape.trans h.tape,hg.output.trans h.output,Nat.le_trans h.size hg.size,fun k hk hn=>
  (hg.block k (Nat.lt_of_lt_of_le hk h.size) (fun e=>by
   rcases hr k e.symm with e | e
   ·exact hn e
   ·omega)).trans (h.block k hk hn)⟩
theorem Mv.drew(h:Mv Z A B):Mv Z A B.drew:=⟨h.os,h.tape,h.output,h.size,h.block⟩
theorem Mv.drewN(h:Mv Z A B)(n:Nat):Mv Z A (B.drewN n):=⟨h.os,h.tape,h.output,h.size,h.block⟩
end
def ZC{α:Type}(J:α->(Nat->Prop)->World->Prop):Prop:=∀ s Y W W',J s Y W->W.heap.size<=W'.heap.size->(∀ k,Y k->W'.heap[k]?=W.heap[k]?)->J s Y W'
def SeqL{α:Type}(P:Program)(g:Nat)(lb:Array Value)(encs:α->Array Value)(Ok:(Nat->Prop)->World->Prop)(Pre:List α->α->(Nat->Prop)->World->Prop)(Fin:List α->Prop):Prop:=
 ∀ (l:Nat) (J Jx:List α->(Nat->Prop)->World->Prop) (Y:Nat->Prop) (W:World),Ok Y W->(∀ k,Y k->k<W.heap.size)->ZC J->ZC Jx →
  (∀ pre x Y1 W1,Pre pre x Y1 W1->Mv Y W W1->J pre Y1 W1->(∀ k,Y1 k->k<W1.heap.size)->YieldAt Fence.wide 5 P l (encs x) W1 fun e W'=>
   Mv Y1 W1 W'/\∃ Y',(∀ k,Y' k->k<W'.heap.size/\(Y1 k∨W1.heap.size<=k))/\((e=.returned (.bool true)/\J (pre++[x]) Y' W')∨(e=.returned (.bool false)/\Jx (pre++[x]) Y' W'))) →
  J [] Y W →
  Calls P g (#[.func (.yield l) #[] #[]]++lb) W fun e W'=>(∃ v,e=.returned v)/\Mv Y W W'/\∃ xs Y',(∀ k,Y' k->k<W'.heap.size/\(Y k∨W.heap.size<=k))/\((Fin xs/\J xs Y' W')∨Jx xs Y' W')
section
variable {P : Program}
def qcP(R Rx:World->Prop):Exit->Act->World->Prop
 | .normal,_,W'=>R W'
 | .ret,_,W'=>Rx W'
 | _,_,_=>False
def mkM(D:Nat):Deferred:={ target:= .collected D,args:=#[] }
theorem zp{α:Type}{g:Operand}{ps:Array Tmp}{assign body:Code}{Q:Exit->Act->World->Prop}{a:Act}{w:World}
  {gf:Nat} {lb:Array Value} (hg:a.eval g=.func (.func gf) #[] lb) (eg:∀ args w,(callFunc gf args).run P w=.ok (.enter gf args) w)
  {encs:α->Array Value} {Ok:(Nat->Prop)->World->Prop} {Pre:List α->α->(Nat->Prop)->World->Prop} {Fin:List α->Prop} (hseq:SeqL P gf lb encs Ok Pre Fin) (hps:∀ x,(encs x).size=ps.size)
  (hPre:∀ pre x Y W W',Pre pre x Y W->W.heap.size<=W'.heap.size->(∀ j,j<W.heap.size->¬ Y j->W'.heap[j]?=W.heap[j]?)->Pre pre x Y W')
  (I Ix:List α->(Nat->Prop)->World->Prop) (hI:ZC I) (hIx:ZC Ix) {Y0:Nat->Prop} (hok:∀ Y W,Bel w W->(∀ k,Y k->Y0 k∨w.heap.size<=k)->Ok Y W) (hY0:∀ k,Y0 k->k<w.heap.size) (h0:I [] Y0 w) (a₁:α->Nat->Act) (ob:α->Obj)
  (hassign:∀ (l:Nat) (x:α) (W:World) (K:Act->World->Prop),K (a₁ x W.heap.size) (W.alloc (ob x))->assign.wpIn (Fence.wide.inRound l) 5 P (Exit.then K (fun _ _ _=>False)) { tmps:=(ps.zip (encs x)).foldl (fun t (p,v)=>t.setIfInBounds p v) a.tmps,defers:=[] } W)
  (hbody:∀ (l bx:Nat) (pre:List α) (x:α) (Y:Nat->Prop) (W:World),w.heap.size<=bx->bx<W.heap.size->W.heap[bx]?=some (ob x)->¬ Y bx->(∃ Y',(∀ k,Y k->Y' k)/\Pre pre x Y' W)->Mv Y0 w W->¬ Y l->I pre Y W->(∀ k,Y k->k<W.heap.size) →
   body.wpIn (Fence.wide.inRound l) 5 P (qcP (fun W'=>Mv Y W W'/\∃ Y',I (pre++[x]) Y' W'/\∀ k,Y' k->k<W'.heap.size/\(Y k∨W.heap.size<=k)) (fun W'=>Mv Y W W'/\∃ Y',Ix (pre++[x]) Y' W'/\∀ k,Y' k->k<W'.heap.size/\(Y k∨W.heap.size<=k))) (a₁ x bx) W)
  (hdone:∀ (D:Nat) (xs:List α) (Y:Nat->Prop) (W:World),w.heap.size<=D->Fin xs->I xs Y W->Mv Y0 w W->(∀ k,Y k->k<W.heap.size/\(Y0 k∨w.heap.size<=k))->W.heap[D]?=some (.deferred (some []))->¬ Y D->Q .normal { a with defers:=mkM D::a.defers } W)
  (hstop:∀ (D:Nat) (xs:List α) (Y:Nat->Prop) (W:World),w.heap.size<=D->Ix xs Y W->Mv Y0 w W->(∀ k,Y k->k<W.heap.size/\(Y0 k∨w.heap.size<=k))->W.heap[D]?=some (.deferred (some []))->¬ Y D->Q .ret { a with defers:=mkM D::a.defers } W) :
  (Code.rangeFunc g ps assign body).wpIn Fence.wide 6 P Q a w:=by
 refine wpIn_rangeFunc ?_;intro fn hfn;obtain⟨l,hl⟩:∃ l,l=w.heap.size+1:=⟨_,rfl⟩
 obtain⟨D,hD⟩:∃ D,D=w.heap.size:=⟨_,rfl⟩
 obtain⟨rec,hrec⟩:∃ rec:LoopState->Option Code->Loop,rec=fun st pe=>{ state:=st,pending:=pe,fn,tmps:=a.tmps,params:=ps,assign,body,defers:=w.heap.size }:=⟨_,rfl⟩
 obtain⟨V,hV⟩:∃ V,(w.alloc (.deferred (some []))).alloc (.loop (rec .ready none))=V:=⟨_,rfl⟩
 have hL':V.heap[l]?=some (.loop (rec .ready none)):=by
  rw[<- hV,hl];have:=World.alloc_heap_new (w.alloc (.deferred (some []))) (.loop (rec .ready none));rwa [World.size_alloc]at this
 have hD':V.heap[D]?=some (.deferred (some [])):=by
  rw[<- hV,hD];exact (Below.heap_alloc _ _ _ (by simp)).trans (World.alloc_heap_new w _)
 have hb:Bel w V:=by rw[<- hV];exact ((Bel.refl w).alloc _).alloc _
 have hDl:D≠l:=by omega
 obtain⟨J,hJ⟩:∃ J:List α->(Nat->Prop)->World->Prop,J=fun pre Y W=>∃ Z:Nat->Prop,(∀ k,Y k↔(Z k∨k=l∨k=D))/\(∀ k,Z k->k≠l/\k≠D)/\I pre Z W/\W.heap[l]?=some (.loop (rec .ready none))/\W.heap[D]?=some (.deferred (some [])):=⟨_,rfl⟩
 obtain⟨Jx,hJx⟩:∃ J:List α->(Nat->Prop)->World->Prop,J=fun pre Y W=>∃ Z:Nat->Prop,(∀ k,Y k↔(Z k∨k=l∨k=D))/\(∀ k,Z k->k≠l/\k≠D)/\Ix pre Z W/\W.heap[l]?=some (.loop (rec .done (some .ret)))/\W.heap[D]?=some (.deferred (some [])):=⟨_,rfl⟩
 refine⟨l,[mkM D],V,{ target:= .fn (.func gf) lb,args:=#[.func (.yield l) #[] #[]] },V,gf,#[.func (.yield l) #[] #[]]++lb,V,?_,?_,?_,?_,(fun h=>by cases h),?_⟩
 ·rw[<- hV,hrec,hl,hD];exact run_enterLoop_outer _ _ _ _ _
 ·simp only[resolve,hg]
  simp[go_sem]
 ·intro f' hf';exact trivial
 ·simp[invoke,go_sem,eg]
 ·have hlV:l<V.heap.size:=(Array.getElem?_eq_some_iff.1 hL').1
  have hDV:D<V.heap.size:=(Array.getElem?_eq_some_iff.1 hD').1;refine callsIn_wide.2 ((hseq l J Jx (fun k=>Y0 k∨k=l∨k=D) V (hok _ _ hb ?_) ?_ ?_ ?_ ?_ ?_).mono ?_)
  ·rintro k (h | h | h)
   ·exact .inl h
   ·exact .inr (by omega)
   ·exact .inr (by omega)
  ·rintro k (h | rfl | rfl)
   ·exact Nat.lt_of_lt_of_le (hY0 k h) hb.size
   ·exact hlV
   ·exact hDV
  ·rw[hJ]
   rintro s Y A B ⟨Z,z1,z2,z3,z4,z5⟩ hsz hk;exact⟨Z,z1,z2,hI s Z A B z3 hsz (fun k hz=>hk k ((z1 k).2 (.inl hz))),(hk l ((z1 l).2 (.inr (.inl rfl)))).trans z4,(hk D ((z1 D).2 (.inr (.inr rfl)))).trans z5⟩
  ·rw[hJx]
   rintro s Y A B ⟨Z,z1,z2,z3,z4,z5⟩ hsz hk;exact⟨Z,z1,z2,hIx s Z A B z3 hsz (fun k hz=>hk k ((z1 k).2 (.inl hz))),(hk l ((z1 l).2 (.inr (.inl rfl)))).trans z4,(hk D ((z1 D).2 (.inr (.inr rfl)))).trans z5⟩
  · --one round
   rw[hJ,hJx];rintro pre x Y W hp hmv0 ⟨Z,z1,z2,z3,z4,z5⟩ hYs;have hlt:l<W.heap.size:=(Array.getElem?_eq_some_iff.1 z4).1;have hDt:D<W.heap.size:=(Array.getElem?_eq_some_iff.1 z5).1;have hy:=run_yield (P:=P) (args:=encs x) z4 (by rw[hrec];exact hps x);rw[hrec]at hy;refine⟨fn,_,assign,body,hy,roundIn_of_wpIn hfn (hassign _ x W _ ?_)⟩;clear hy;obtain⟨Wo,hWo⟩:∃ Wo,Wo=W:=⟨_,rfl⟩
   rw[<- hWo]at hp hmv0 z3 z4 z5 hYs hlt hDt ⊢;clear hWo;clear W;obtain⟨W,hW⟩:∃ W,W=Wo.alloc (ob x):=⟨_,rfl⟩
   rw[<- hW];have bo:Bel Wo W:=by rw[hW];exact (Bel.refl Wo).alloc _
   have so:W.heap.size=Wo.heap.size+1:=by rw[hW];simp
   have z3':I pre Z W:=hI _ _ _ _ z3 bo.size (fun k hz=>bo.block k (hYs k ((z1 k).2 (.inl hz))));have z4':=(bo.block l hlt).trans z4;have z5':=(bo.block D hDt).trans z5;have zb:W.heap[Wo.heap.size]?=some (ob x):=by rw[hW];exact World.alloc_heap_new Wo _
   have hYb:∀ k,Y k->k<Wo.heap.size:=hYs;have hp':Pre pre x Y W:=hPre _ _ _ _ _ hp bo.size (fun j hj _=>bo.block j hj);obtain⟨bx,hbx⟩:∃ bx,bx=Wo.heap.size:=⟨_,rfl⟩
   rw[<- hbx]at hYb so zb ⊢;have hYs':∀ k,Y k->k<W.heap.size:=fun k hk=>by have:=hYb k hk;omega
   clear hp z3 z4 z5 hYs hlt hDt;have hlt:l<W.heap.size:=(Array.getElem?_eq_some_iff.1 z4').1;have hDt:D<W.heap.size:=(Array.getElem?_eq_some_iff.1 z5').1;refine⟨_,run_beginRound z4' (by rw[hrec]),?_⟩;obtain⟨W2,hW2⟩:∃ W2,W2=W.putObj l (.loop { rec .ready none with state:= .busy }):=⟨_,rfl⟩
   rw[<- hW2];have l2:W2.heap[l]?=some (.loop { rec .ready none with state:= .busy }):=by rw[hW2];exact World.putObj_heap_same hlt
   have s2:W2.heap.size=W.heap.size:=by rw[hW2];simp
   have o2:∀ k,k≠l->W2.heap[k]?=W.heap[k]?:=fun k hk=>by rw[hW2];exact World.putObj_heap_other hk
   have hm2:Mv Y0 w W2:=by
    have m1:Mv Y0 w V:= .of_bel hb;have m2:Mv Y0 w Wo:=m1.trans hmv0 (fun k hk=>by
     rcases hk with h | h | h
     ·exact .inl h
     ·exact .inr (by omega)
     ·exact .inr (by omega))
    have m3:Mv Y0 w W:=m2.trans (Mv.of_bel (Z:=fun _=>False) bo) (fun _ h=>h.elim);rw[hW2];exact m3.putObj (.inr (by omega)) _
   refine wpIn_mono (hbody l bx pre x Z W2 (by have:=hYb l ((z1 l).2 (.inr (.inl rfl)));omega) (by rw[s2];omega) ((o2 bx (by have:=hYb l ((z1 l).2 (.inr (.inl rfl)));omega)).trans zb) (fun hz=>by have:=hYb bx ((z1 bx).2 (.inl hz));omega) ⟨Y,fun k hk=>(z1 k).2 (.inl hk),hPre _ _ _ _ _ hp' (by omega) (fun j hj hn=>o2 j (fun e=>hn ((z1 j).2 (.inr (.inl e)))))⟩ hm2 (fun hz=>(z2 l hz).1 rfl) (hI _ _ _ _ z3' (by omega) (fun k hz=>o2 k (z2 k hz).1)) (fun k hz=>by rw[s2];exact hYs' k ((z1 k).2 (.inl hz)))) ?_;have fin:∀ (jump:Option Code) (st:LoopState) (W3:World) (Y':Nat->Prop),st=(if jump.isNone then .ready else .done)->Mv Z W2 W3->(∀ k,Y' k->k<W3.heap.size/\(Z k∨W2.heap.size<=k))->∃ W4,(Instr.endRound l jump).run P W3=.ok (.bool jump.isNone) W4/\Mv Y Wo W4/\W3.heap.size<=W4.heap.size/\(∀ k,k≠l->W4.heap[k]?=W3.heap[k]?)/\W4.heap[l]?=some (.loop (rec st jump))/\W4.heap[D]?=some (.deferred (some []))/\(∀ k,Y' k->k≠l/\k≠D)/\∀ k,(Y' k∨k=l∨k=D)->k<W4.heap.size/\(Y k∨bx<=k):=by
    intro jump st W3 Y' hst hmv hy3;have l3:W3.heap[l]?=some (.loop { rec .ready none with state:= .busy }):=(hmv.block l (by omega) (fun hz=>(z2 l hz).1 rfl)).trans l2;have d3:W3.heap[D]?=some (.deferred (some [])):=(hmv.block D (by omega) (fun hz=>(z2 D hz).2 rfl)).trans ((o2 D hDl).trans z5');have hr:=run_endRound (P:=P) jump l3;rw[hrec]at hr;have hl3:l<W3.heap.size:=(Array.getElem?_eq_some_iff.1 l3).1;have hd3:D<W3.heap.size:=(Array.getElem?_eq_some_iff.1 d3).1;have hnl:∀ k,Y' k->k≠l/\k≠D:=fun k hk=>by
     rcases (hy3 k hk).2 with h | h
     ·exact z2 k h
     ·exact⟨by omega,by omega⟩
    refine⟨W3.putObj l (.loop (rec st jump)),by rw[hrec,hst];exact hr,?_,by simp,fun k hk=>World.putObj_heap_other hk,World.putObj_heap_same hl3,(World.putObj_heap_other hDl).trans d3,hnl,?_⟩
    ·have m1:Mv Y Wo W2:=by rw[hW2];exact (Mv.of_bel (Z:=Y) bo).putObj (.inl ((z1 l).2 (.inr (.inl rfl)))) _
     have m2:Mv Y Wo W3:=m1.trans hmv (fun k hz=> .inl ((z1 k).2 (.inl hz)));exact m2.putObj (.inl ((z1 l).2 (.inr (.inl rfl)))) _
    ·rintro k (h | rfl | rfl)
     ·obtain⟨q1,q2⟩:=hy3 k h
      exact⟨by simpa using q1,q2.imp (fun hz=>(z1 k).2 (.inl hz)) (fun hz=>by omega)⟩
     ·exact⟨by simpa using hl3,.inl ((z1 _).2 (.inr (.inl rfl)))⟩
     ·exact⟨by simpa using hd3,.inl ((z1 _).2 (.inr (.inr rfl)))⟩
   rintro e a3 W3 hp3;cases e with
   | normal=>
    obtain⟨hmv,Y',hi3,hy3⟩:=hp3;obtain⟨W4,q1,q2,q3,q4,q5,q6,q7,q8⟩:=fin none .ready W3 Y' rfl hmv hy3;exact⟨.bool true,W4,q1,q2,fun k=>Y' k∨k=l∨k=D,q8,.inl ⟨rfl,Y',fun k=>Iff.rfl,q7,hI _ _ _ _ hi3 q3 (fun k hk=>q4 k (q7 k hk).1),q5,q6⟩⟩
   | ret=>
    obtain⟨hmv,Y',hi3,hy3⟩:=hp3;obtain⟨W4,q1,q2,q3,q4,q5,q6,q7,q8⟩:=fin (some .ret) .done W3 Y' rfl hmv hy3;exact⟨.bool false,W4,q1,q2,fun k=>Y' k∨k=l∨k=D,q8,.inr ⟨rfl,Y',fun k=>Iff.rfl,q7,hIx _ _ _ _ hi3 q3 (fun k hk=>q4 k (q7 k hk).1),q5,q6⟩⟩
   | exit id=>exact hp3.elim
   | goto t=>exact hp3.elim
   | panic ch=>exact hp3.elim
   | outgrown=>exact hp3.elim
  ·rw[hJ]
   exact⟨Y0,fun k=>Iff.rfl,fun k hk=>⟨fun e=>by have:=hY0 k hk;omega,fun e=>by have:=hY0 k hk;omega⟩,hI _ _ _ _ h0 hb.size (fun k hk=>hb.block k (hY0 k hk)),hL',hD'⟩
  · --behind the iterator
   rw[hJ,hJx];have m0:∀ W2 o,Mv (fun k=>Y0 k∨k=l∨k=D) V W2->Mv Y0 w (W2.putObj l o):=fun W2 o hmv=>by
    refine Mv.putObj ?_ (.inr (by omega)) _;have m1:Mv Y0 w V:= .of_bel hb;refine m1.trans hmv (fun k hk=>?_);rcases hk with h | h | h
    ·exact .inl h
    ·exact .inr (by omega)
    ·exact .inr (by omega)
   have y0:∀ (W2:World) o (Y' Z:Nat->Prop),(∀ k,Y' k->k<W2.heap.size/\((Y0 k∨k=l∨k=D)∨V.heap.size<=k))->(∀ k,Y' k↔(Z k∨k=l∨k=D))->(∀ k,Z k->k≠l/\k≠D)->∀ k,Z k->k<(W2.putObj l o).heap.size/\(Y0 k∨w.heap.size<=k):=fun W2 o Y' Z hY' z1 z2 k hz=>by
    obtain⟨q1,q2⟩:=hY' k ((z1 k).2 (.inl hz));refine⟨by simpa using q1,?_⟩;rcases q2 with (h | h | h) | h
    ·exact .inl h
    ·exact absurd h (z2 k hz).1
    ·exact absurd h (z2 k hz).2
    ·exact .inr (Nat.le_trans hb.size h)
   rintro e W2 ⟨⟨v,rfl⟩,hmv,xs,Y',hY',⟨hs,Z,z1,z2,z3,z4,z5⟩ | ⟨Z,z1,z2,z3,z4,z5⟩⟩
   ·have hr:=run_endLoop (P:=P) z4 (by rw[hrec];simp)
    rw[hrec]at hr;exact⟨none,_,hr,hdone D xs Z _ (by omega) hs (hI _ _ _ _ z3 (by simp) (fun k hz=>World.putObj_heap_other (z2 k hz).1)) (m0 _ _ hmv) (y0 _ _ _ _ hY' z1 z2) ((World.putObj_heap_other hDl).trans z5) (fun hz=>(z2 D hz).2 rfl)⟩
   ·have hr:=run_endLoop (P:=P) z4 (by rw[hrec];simp)
    rw[hrec]at hr;refine⟨some .ret,_,hr,?_⟩;exact wpIn_ret (hstop D xs Z _ (by omega) (hIx _ _ _ _ z3 (by simp) (fun k hz=>World.putObj_heap_other (z2 k hz).1)) (m0 _ _ hmv) (y0 _ _ _ _ hY' z1 z2) ((World.putObj_heap_other hDl).trans z5) (fun hz=>(z2 D hz).2 rfl))
end
theorem qy{F:Fence}{n:Nat}{P:Program}{fn:Func}{tmps:Array Value}{R:Ending->World->Prop}{D:Nat}{w:World}(hD:w.heap[D]?=some (.deferred (some [])))
  (h:∀ w',Mv (fun k=>k=D) w w'->LeavesInM F n P fn tmps R [] .returning w'):LeavesInM F n P fn tmps R [mkM D] .returning w:=
 ⟨by simp,.inl ⟨D,_,rfl,run_takeDeferred hD,h _ (Mv.putObj (Z:=fun k=>k=D) (Mv.refl _ w) (.inl rfl) _)⟩⟩
end Go.Proofs.YtlmmaoobembadaaGreatDoor.Mu
namespace Go.Proofs.YtlmmaoobembadaaGreatDoor.Mu
open Go Go.RowKit Go.Shelf
set_option linter.unusedVariables false
structure Nd where
 v:Vis
 p:Pl
 A:Option Addr
 ca:Nat
 B:Option Addr
 cb:Nat
def Nd.at_(w:World)(Ok:Nat->Prop)(sh:Sh)(x:Nd):Prop:=
 KidsTr w Ok sh x.A x.v.kids.len x.ca x.v.kids/\((sh=.ex/\KidsTr w Ok .arms x.B x.v.arms.len x.cb x.v.arms)∨((sh=.pat∨sh=.ty)/\x.v.arms.len=0))
theorem Nd.at_.keep{w w':World}{Ok Ok':Nat->Prop}{sh:Sh}{x:Nd}(h:x.at_ w Ok sh)(hk:∀ j,Ok j->w'.heap[j]?=w.heap[j]?)(hw:∀ j,Ok j->Ok' j):x.at_ w' Ok' sh:=by
 refine⟨(h.1.keep hk).wide hw,?_⟩;rcases h.2 with ⟨e,h2⟩ | h2
 ·exact .inl ⟨e,(h2.keep hk).wide hw⟩
 ·exact .inr h2
structure It where
 A:Option Addr
 c:Nat
 f:Tr
def It.val(x:It):Value:= .slice x.A x.f.len x.c
def itV(S:List It):List Value:=(S.map It.val).reverse
theorem QD(x:It)(S:List It):itV (x::S)=itV S++[x.val]:=by simp[itV]
theorem jA(S:List It):(itV S).length=S.length:=by simp[itV]
def OkI(w:World)(Y:Nat->Prop)(A:Option Addr)(j:Nat):Prop:=j<w.heap.size/\¬ Y j/\∀ o,A≠some ⟨j,o,none⟩
def WsI(w:World)(Y:Nat->Prop)(A:Option Addr)(sh:Sh)(S:List It):Prop:=∀ x∈S,KidsTr w (OkI w Y A) sh x.A x.f.len x.c x.f
theorem OkI.step{w w':World}{Y Y':Nat->Prop}{A A':Option Addr}(hs:w.heap.size<=w'.heap.size)(hy:∀ j,Y' j->Y j∨w.heap.size<=j)(ha:∀ j o,A'=some ⟨j,o,none⟩->(∃ o',A=some ⟨j,o',none⟩)∨w.heap.size<=j){j:Nat}(h:OkI w Y A j):OkI w' Y' A' j:=by
 obtain⟨h1,h2,h3⟩:=h;refine⟨Nat.lt_of_lt_of_le h1 hs,fun hj=>?_,fun o ho=>?_⟩
 ·rcases hy j hj with h | h
  ·exact h2 h
  ·omega
 ·rcases ha j o ho with ⟨o',h⟩ | h
  ·exact h3 o' h
  ·omega
theorem KidsTr.stepI{w w':World}{Y Y':Nat->Prop}{A A':Option Addr}{sh:Sh}{B:Option Addr}{l c:Nat}{f:Tr}(h:KidsTr w (OkI w Y A) sh B l c f)(hs:w.heap.size<=w'.heap.size)(hk:∀ j,OkI w Y A j->w'.heap[j]?=w.heap[j]?)(hy:∀ j,Y' j->Y j∨w.heap.size<=j)(ha:∀ j o,A'=some ⟨j,o,none⟩->(∃ o',A=some ⟨j,o',none⟩)∨w.heap.size<=j):KidsTr w' (OkI w' Y' A') sh B l c f:=
 (h.keep hk).wide fun j hj=>OkI.step hs hy ha hj
theorem WsI.step{w w':World}{Y Y':Nat->Prop}{A A':Option Addr}{sh:Sh}{S:List It}(h:WsI w Y A sh S)(hs:w.heap.size<=w'.heap.size)(hk:∀ j,OkI w Y A j->w'.heap[j]?=w.heap[j]?)(hy:∀ j,Y' j->Y j∨w.heap.size<=j)(ha:∀ j o,A'=some ⟨j,o,none⟩->(∃ o',A=some ⟨j,o',none⟩)∨w.heap.size<=j):WsI w' Y' A' sh S:=
 fun x hx=>(h x hx).stepI hs hk hy ha
def msS:List It->Nat
 | []=>0
 | x::S=>2*x.f.size+1+msS S
def todo:List It->List Vis
 | []=>[]
 | x::S=>x.f.pre S.length++todo S
structure WSt (T0 TR TK:TypeId) (fk:Nat) (sh:Sh) (f0:Tr) (J:List Nd->(Nat->Prop)->World->Prop) (lb kb base:Nat) (lv:Value) (Y0:Nat->Prop) (W0:World) (A:Option Addr) (cc m:Nat) (S:List It) (pre:List Nd) (Y:Nat->Prop) (w:World):Prop where
 len:m=S.length
 row:w.ownsRow base T0 1 (.slice A m cc) m (itV S)
 ny:∀ j o,A=some ⟨j,o,none⟩->¬ Y j
 bl:w.heap[lb]?=some (.cells #[lv] TR (0,0))
 bk:w.heap[kb]?=some (.cells #[.func (.func fk) #[] #[]] TK (0,0))
 lt:lb<base/\kb<base
 nl:¬ Y lb/\¬ Y kb
 its:WsI w Y A sh S
 j:J pre Y w
 yl:∀ k,Y k->k<w.heap.size/\(Y0 k∨W0.heap.size<=k)
 mv:Mv Y0 W0 w
 bs:base<=w.heap.size
 what:f0.pre 0=pre.map Nd.v++todo S
theorem jH{w:World}{g:Nat}{t:TypeId}{x:Value}(h:w.heap[g]?=some (.cells #[x] t (0,0))):w.cell? ⟨g,0,none⟩=some x:=by simp[World.cell?,h]
theorem qaJ{w:World}{base:Nat}{T0:TypeId}{A:Option Addr}{cc m:Nat}{x:It}{S:List It}(hm:m=S.length)(h:w.ownsRow base T0 1 (.slice A (m+1) cc) (m+1) (itV (x::S))) :
  ∃ g,A=some ⟨g,0,none⟩/\base<=g/\g<w.heap.size/\m+1<=cc/\cc<=maxLen/\w.cell? ⟨g,m,none⟩=some x.val/\w.frozen? ⟨g,m,none⟩=false/\w.ownsRow base T0 1 (.slice (some ⟨g,0,none⟩) m cc) m (itV S):=by
 have h':=h;obtain⟨hl,hr⟩:=h;rcases hr with ⟨_,h0⟩ | ⟨g,cap,cur,hv,hb,hh,hnc,hmx,hcs,ht⟩
 ·omega
 ·cases hv
  refine⟨g,rfl,hb,(Array.getElem?_eq_some_iff.1 hh).1,hnc,hmx,?_,h'.frozenAt m,⟨by rw[jA,hm,Nat.mul_one],.inr ⟨g,cc,cur,rfl,hb,hh,by omega,hmx,hcs,?_⟩⟩⟩
  ·have h5:=h'.cells (g:=g) rfl m x.val (by rw[QD,List.getElem?_append_right (by rw[jA,hm];exact Nat.le_refl _),jA,hm,Nat.sub_self];rfl)
   rwa [Addr.add_lit,Nat.zero_add]at h5
  ·have h4:=congrArg (List.take m) ht
   rw[List.take_take,QD,List.take_append_of_le_length (by rw[jA,hm];exact Nat.le_refl _),List.take_of_length_le (l:=itV S) (by rw[jA,hm];exact Nat.le_refl _)]at h4;rw[<- h4];congr 1
   omega
theorem qew{w w':World}{base e size n:Nat}{u:Value}{xs:List Value}(h:w.ownsRow base e size u n xs)(hk:∀ x,u.ownBlock=some x->w'.heap[x]?=w.heap[x]?):w'.ownsRow base e size u n xs:=by
 obtain⟨hl,hr⟩:=h;refine⟨hl,?_⟩;rcases hr with h0 | ⟨g,cap,cur,hv,hb,hh,rest⟩
 ·exact .inl h0
 ·exact .inr ⟨g,cap,cur,hv,hb,(hk g (by rw[hv];rfl)).trans hh,rest⟩
theorem qhO{w:World}{base:Nat}{T0:TypeId}{g cc m:Nat}{x y:It}{S:List It}(hm:m=S.length)(h:w.ownsRow base T0 1 (.slice (some ⟨g,0,none⟩) (m+1) cc) (m+1) (itV (x::S))) :
  (w.setCell ⟨g,m,none⟩ y.val).ownsRow base T0 1 (.slice (some ⟨g,0,none⟩) (m+1) cc) (m+1) (itV (y::S)):=by
 have h2:=(World.ownsRow.stored h m y.val).1;rw[QD]at h2 ⊢;rw[List.set_append_right _ _ (by rw[jA,hm];exact Nat.le_refl _),jA,hm,Nat.sub_self]at h2;rw[hm];exact h2
section
variable {T0 TR TK : TypeId} {fk : Nat} {sh : Sh} {f0 : Tr} {J : List Nd -> (Nat -> Prop) -> World -> Prop} {lb kb base : Nat} {lv : Value} {Y0 : Nat -> Prop} {W0 : World} {cc mm g : Nat} {S : List It} {pre : List Nd} {Y : Nat -> Prop} {wr : World}
variable {it : It} {k : Int} {s : List UInt8} {n : Int} {p : Pl} {kids arms rest : Tr} {RA : Option Addr} {RC : Nat} {x : Nd} {W2 : World} {ob : Obj}
theorem WSt.sel(h:WSt T0 TR TK fk sh f0 J lb kb base lv Y0 W0 (some ⟨g,0,none⟩) cc (mm+1) (it::S) pre Y wr)(hW2:W2=(wr.setCell ⟨g,mm,none⟩ (.slice RA rest.len RC)).alloc ob) :
  W2.heap.size=wr.heap.size+1/\(∀ j,j<wr.heap.size->j≠g->W2.heap[j]?=wr.heap[j]?)/\W2.heap[wr.heap.size]?=some ob/\Mv (fun j=>j=g) wr W2:=by
 have e:(wr.setCell ⟨g,mm,none⟩ (.slice RA rest.len RC)).heap.size=wr.heap.size:=by simp
 refine⟨by rw[hW2];simp,fun j hj hn=>?_,?_,?_⟩
 ·rw[hW2]
  refine (((Bel.refl _).alloc ob).block j (by rw[e];exact hj)).trans (Below.heap_setCell wr _ _ j hn)
 ·rw[hW2,<- e];exact blk1 _ ob
 ·rw[hW2];exact (Mv.set_ (Z:=fun j=>j=g) (p:=⟨g,mm,none⟩) (Mv.refl _ wr) (.inl rfl) _).alloc ob
theorem WSt.hand(hJ:ZC J)(h:WSt T0 TR TK fk sh f0 J lb kb base lv Y0 W0 (some ⟨g,0,none⟩) cc (mm+1) (it::S) pre Y wr)(hmm:mm=S.length)(hit:it.f=.nod k s n p kids arms rest)(hx:x.v=⟨mm,k,s,n,kids,arms⟩)(hat:x.at_ wr (OkI wr Y (some ⟨g,0,none⟩)) sh)
  (hW2:W2=(wr.setCell ⟨g,mm,none⟩ (.slice RA rest.len RC)).alloc ob) :
  ((∃ suf,f0.pre 0=pre.map Nd.v++x.v::suf)/\x.at_ W2 (fun j=>j<W2.heap.size/\¬ Y j) sh)/\J pre Y W2/\∀ k,Y k->k<W2.heap.size:=by
 obtain⟨s1,s2,s3,s4⟩:=h.sel hW2;have hg:¬ Y g:=h.ny g 0 rfl;refine⟨⟨⟨kids.pre (mm+1)++arms.pre (mm+1)++rest.pre mm++todo S,?_⟩,hat.keep (fun j hj=>s2 j hj.1 (fun e=>hj.2.2 0 (by rw[e]))) (fun j hj=>⟨by have:=hj.1;omega,hj.2.1⟩)⟩,hJ _ _ _ _ h.j (by omega) (fun j hj=>s2 j (h.yl j hj).1 (fun e=>hg (e ▸ hj))),fun j hj=>by have:=(h.yl j hj).1;omega⟩;rw[h.what,hx];simp only[todo,hit,Tr.pre,<- hmm,List.cons_append]
theorem WSt.row3{W3 W4:World}(h:WSt T0 TR TK fk sh f0 J lb kb base lv Y0 W0 (some ⟨g,0,none⟩) cc (mm+1) (it::S) pre Y wr)(hmm:mm=S.length)(hW2:W2=(wr.setCell ⟨g,mm,none⟩ (.slice RA rest.len RC)).alloc ob)(hgl:g<wr.heap.size)(hmv3:Mv Y W2 W3)(hb4:Bel W3 W4) :
  W4.ownsRow base T0 1 (.slice (some ⟨g,0,none⟩) (mm+1) cc) (mm+1) (itV (⟨RA,RC,rest⟩::S)):=by
 obtain⟨s1,s2,s3,s4⟩:=h.sel hW2;have hg:¬ Y g:=h.ny g 0 rfl;have h1:=qhO (y:=⟨RA,RC,rest⟩) hmm h.row;have h2:W2.ownsRow base T0 1 (.slice (some ⟨g,0,none⟩) (mm+1) cc) (mm+1) (itV (⟨RA,RC,rest⟩::S)):=by rw[hW2];exact h1.alloc ob
 refine qk (qew h2 fun j hj=>?_) hb4;cases hj
 exact hmv3.block g (by omega) hg
theorem WSt.next{W3 W4 w5:World}{Y3:Nat->Prop}{K:It}{v':Value}{ob2:Obj}(hJ:ZC J)(h:WSt T0 TR TK fk sh f0 J lb kb base lv Y0 W0 (some ⟨g,0,none⟩) cc (mm+1) (it::S) pre Y wr)(hmm:mm=S.length)(hit:it.f=.nod k s n p kids arms rest)(hx:x.v=⟨mm,k,s,n,kids,arms⟩)
  (hres:KidsTr wr (OkI wr Y (some ⟨g,0,none⟩)) sh RA rest.len RC rest) (hW2:W2=(wr.setCell ⟨g,mm,none⟩ (.slice RA rest.len RC)).alloc ob) (hgl:g<wr.heap.size) (hbg:base<=g)
  (hmv3:Mv Y W2 W3) (hy3:∀ k,Y3 k->k<W3.heap.size/\(Y k∨W2.heap.size<=k)) (hj3:J (pre++[x]) Y3 W3) (hb4:Bel W3 W4) (hK:KidsTr W4 (qae W3 (OkI W3 Y3 (some ⟨g,0,none⟩)) W4) sh K.A K.f.len K.c K.f) (hpre:∀ d,K.f.pre d=kids.pre d++arms.pre d)
  (hbase:W0.heap.size<=base) (hown5:w5.ownsRow base T0 1 v' (mm+1+1) (itV (⟨RA,RC,rest⟩::S)++[K.val])) (hg5:(W4.alloc ob2).grownBy w5 (some g)) (hat5:v'.ownBlock=some g∨v'.ownBlock=some (W4.alloc ob2).heap.size) :
  ∃ g5 c5,v'=.slice (some ⟨g5,0,none⟩) (mm+1+1) c5/\WSt T0 TR TK fk sh f0 J lb kb base lv Y0 W0 (some ⟨g5,0,none⟩) c5 (mm+1+1) (K::⟨RA,RC,rest⟩::S) (pre++[x]) Y3 w5:=by
 obtain⟨g5,c5,rfl⟩:=zO hown5;obtain⟨s1,s2,s3,s4⟩:=h.sel hW2;have hg:¬ Y g:=h.ny g 0 rfl;have b4:Bel W3 (W4.alloc ob2):=hb4.alloc ob2;have z5:W4.heap.size+1<=w5.heap.size:=by have:=hg5.size;simpa using this
 have z3:=hmv3.size;have z4:=hb4.size;have k5:∀ j,j<W3.heap.size->j≠g->w5.heap[j]?=W3.heap[j]?:=fun j hj hn=>(hg5.block j (Nat.lt_of_lt_of_le hj b4.size) (fun e=>hn (by cases e;rfl))).trans (b4.block j hj);have k2:∀ j,j<wr.heap.size->j≠g->¬ Y j->w5.heap[j]?=wr.heap[j]?:=fun j hj hn hy=>(k5 j (by omega) hn).trans ((hmv3.block j (by omega) hy).trans (s2 j hj hn));have hgn:g5=g∨W4.heap.size<=g5:=by
  rcases hat5 with e | e
  ·left;cases e;rfl
  ·right;simp[Value.ownBlock]at e;omega
 have hy5:∀ j,Y3 j->Y j∨wr.heap.size<=j:=fun j hj=>(hy3 j hj).2.imp id (fun h=>by omega);have ha5:∀ j o,(some ⟨g5,0,none⟩:Option Addr)=some ⟨j,o,none⟩->(∃ o',(some ⟨g,0,none⟩:Option Addr)=some ⟨j,o',none⟩)∨wr.heap.size<=j:=fun j o e=>by
  cases e
  rcases hgn with rfl | h
  ·exact .inl ⟨0,rfl⟩
  ·right;omega
 have hno:∀ j,Y3 j->j≠g:=fun j hj e=>by
  rcases (hy3 j hj).2 with h | h
  ·exact hg (e ▸ h)
  ·omega
 refine⟨g5,c5,rfl,by simp[hmm],by rw[QD];exact hown5,fun j o e hj=>?_,?_,?_,h.lt,⟨fun hj=>?_,fun hj=>?_⟩,?_,hJ _ _ _ _ hj3 (by omega) (fun j hj=>k5 j (hy3 j hj).1 (hno j hj)),fun j hj=>⟨by have:=(hy3 j hj).1;omega,?_⟩,?_,by have:=h.bs;omega,?_⟩
 ·cases e
  rcases hgn with rfl | h
  ·exact hno _ hj rfl
  ·have:=(hy3 _ hj).1;omega
 ·exact (k2 lb (by have:=h.lt;have:=h.bs;omega) (by have:=h.lt;omega) h.nl.1).trans h.bl
 ·exact (k2 kb (by have:=h.lt;have:=h.bs;omega) (by have:=h.lt;omega) h.nl.2).trans h.bk
 ·rcases hy5 _ hj with e | e
  ·exact h.nl.1 e
  ·have:=h.lt;have:=h.bs;omega
 ·rcases hy5 _ hj with e | e
  ·exact h.nl.2 e
  ·have:=h.lt;have:=h.bs;omega
 ·intro y hy
  have hkeep:∀ j,OkI wr Y (some ⟨g,0,none⟩) j->w5.heap[j]?=wr.heap[j]?:=fun j hj=>k2 j hj.1 (fun e=>hj.2.2 0 (by rw[e])) hj.2.1;rcases List.mem_cons.1 hy with rfl | hy
  ·refine (hK.keep fun j hj=>?_).wide fun j hj=>?_
   ·have hjl:j<W4.heap.size/\j≠g:=by
     rcases hj with hj | hj
     ·exact⟨by have:=hj.1;omega,fun e=>hj.2.2 0 (by rw[e])⟩
     ·exact⟨hj.2,by omega⟩
    exact (hg5.block j (by simp;omega) (fun e=>hjl.2 (by cases e;rfl))).trans (((Bel.refl W4).alloc ob2).block j hjl.1)
   ·rcases hj with hj | hj
    ·refine⟨by have:=hj.1;omega,hj.2.1,fun o e=>?_⟩
     cases e
     rcases hgn with rfl | h
     ·exact hj.2.2 0 rfl
     ·have:=hj.1;omega
    ·refine⟨by omega,fun e=>by have:=(hy3 j e).1;omega,fun o e=>?_⟩
     cases e
     rcases hgn with h | h
     ·omega
     ·omega
  ·rcases List.mem_cons.1 hy with rfl | hy
   ·exact hres.stepI (by omega) hkeep hy5 ha5
   ·exact (h.its y (List.mem_cons_of_mem _ hy)).stepI (by omega) hkeep hy5 ha5
 ·rcases (hy3 j hj).2 with h' | h'
  ·exact (h.yl j h').2
  ·right;have:=h.bs;omega
 ·have m1:=h.mv.trans s4 (fun j hj=> .inr (by omega))
  have m2:=m1.trans hmv3 (fun j hj=>(h.yl j hj).2);have m3:=m2.trans (Mv.of_bel (Z:=fun _=>False) b4) (fun j hj=>hj.elim);exact m3.grown hg5 (fun j hj=> .inr (by cases hj;omega))
 ·rw[h.what]
  simp only[todo,hit,Tr.pre,<- hmm,List.map_append,List.map_cons,List.map_nil,hx,List.length_cons,hpre,List.append_assoc,List.cons_append,List.nil_append]
end
def Tr.hds(q:Tr->Tr->Bool):Tr->Tr->Bool
 | .nil,.nil=>true
 | .nod k s n _ _ b r,.nod k' s' n' _ _ b' r'=>decide (k=k')&&decide (s=s')&&decide (n=n')&&q b b'&&r.hds q r'
 | _,_=>false
def Tr.kidsSame:Tr->Tr->Bool
 | .nod _ _ _ _ a b r,.nod _ _ _ _ a' b' r'=>(a.app b.exs).same (a'.app b'.exs)&&r.kidsSame r'
 | _,_=>true
theorem Tr.app_same:∀ a a' x x':Tr,x.len=x'.len->((a.app x).same (a'.app x')=(a.same a'&&x.same x'))
 | .nil,.nil,x,x',_=>by simp[Tr.app,Tr.same]
 | .nod k s n p a b r,.nod k' s' n' p' a' b' r',x,x',h=>by
  simp only[Tr.app,Tr.same,Tr.app_same r r' x x' h,Bool.and_assoc]
 | .arm k s n p a b r,.arm k' s' n' p' a' b' r',x,x',h=>by
  simp only[Tr.app,Tr.same,Tr.app_same r r' x x' h,Bool.and_assoc]
 | .nil,.nod k s n p a b r,x,x',h=>by
  have e:(Tr.nil.app x).same ((Tr.nod k s n p a b r).app x')=false:=by
   rw[Bool.eq_false_iff];intro h1;have:=Tr.same_len _ _ h1;simp only[Tr.app,Tr.len,Tr.app_len]at this;omega
  rw[e];simp[Tr.same]
 | .nil,.arm k s n p a b r,x,x',h=>by
  have e:(Tr.nil.app x).same ((Tr.arm k s n p a b r).app x')=false:=by
   rw[Bool.eq_false_iff];intro h1;have:=Tr.same_len _ _ h1;simp only[Tr.app,Tr.len,Tr.app_len]at this;omega
  rw[e];simp[Tr.same]
 | .nod k s n p a b r,.nil,x,x',h=>by
  have e:((Tr.nod k s n p a b r).app x).same (Tr.nil.app x')=false:=by
   rw[Bool.eq_false_iff];intro h1;have:=Tr.same_len _ _ h1;simp only[Tr.app,Tr.len,Tr.app_len]at this;omega
  rw[e];simp[Tr.same]
 | .arm k s n p a b r,.nil,x,x',h=>by
  have e:((Tr.arm k s n p a b r).app x).same (Tr.nil.app x')=false:=by
   rw[Bool.eq_false_iff];intro h1;have:=Tr.same_len _ _ h1;simp only[Tr.app,Tr.len,Tr.app_len]at this;omega
  rw[e];simp[Tr.same]
 | .nod ..,.arm ..,x,x',h=>by simp[Tr.app,Tr.same]
 | .arm ..,.nod ..,x,x',h=>by simp[Tr.app,Tr.same]
theorem Tr.arms_same:∀ b b':Tr,b.isArms->b'.isArms->b.same b'=(b.pats.same b'.pats&&b.exs.same b'.exs)
 | .nil,.nil,_,_=>rfl
 | .nil,.arm ..,_,_=>by simp[Tr.same,Tr.pats]
 | .arm ..,.nil,_,_=>by simp[Tr.same,Tr.pats]
 | .arm k s n p a e r,.arm k' s' n' p' a' e' r',⟨h1,h2⟩,⟨h3,h4⟩=>by
  have ih:=Tr.arms_same r r' h2 h4;simp only[Tr.same,Tr.pats,Tr.exs,ih,Tr.same,Bool.and_true];by_cases hl:r.pats.same r'.pats=true
  ·have hlen:=Tr.same_len _ _ hl
   rw[Tr.pats_len r h2,Tr.pats_len r' h4]at hlen;rw[Tr.app_same e e' r.exs r'.exs (by rw[Tr.exs_len r h2,Tr.exs_len r' h4,hlen]),hl];cases decide (k=k') <;> cases decide (s=s') <;> cases decide (n=n') <;> cases a.same a' <;> cases e.same e' <;> simp
  ·rw[Bool.not_eq_true]at hl
   rw[hl];simp
def patQ(b b':Tr):Bool:=b.pats.same b'.pats
theorem Tr.same_split:∀ f g:Tr,f.isNods->g.isNods->f.ok->g.ok->f.same g=(f.hds patQ g&&f.kidsSame g)
 | .nil,.nil,_,_,_,_=>rfl
 | .nil,.nod ..,_,_,_,_=>by simp[Tr.same,Tr.hds]
 | .nod ..,.nil,_,_,_,_=>by simp[Tr.same,Tr.hds]
 | .arm ..,_,h,_,_,_=>h.elim
 | .nil,.arm ..,_,h,_,_=>h.elim
 | .nod ..,.arm ..,_,h,_,_=>h.elim
 | .nod k s n p a b r,.nod k' s' n' p' a' b' r',h1,h2,⟨_,_,o3,_,o5⟩,⟨_,_,q3,_,q5⟩=>by
  have ih:=Tr.same_split r r' h1 h2 o5 q5;simp only[Tr.same,Tr.hds,Tr.kidsSame,ih,Tr.arms_same b b' o3 q3,patQ];by_cases hl:b.pats.same b'.pats=true
  ·have hlen:=Tr.same_len _ _ hl
   rw[Tr.pats_len b o3,Tr.pats_len b' q3]at hlen;rw[Tr.app_same a a' b.exs b'.exs (by rw[Tr.exs_len b o3,Tr.exs_len b' q3,hlen]),hl];cases decide (k=k') <;> cases decide (s=s') <;> cases decide (n=n') <;> cases a.same a' <;> cases b.exs.same b'.exs <;> cases r.hds patQ r' <;> simp
  ·rw[Bool.not_eq_true]at hl
   rw[hl];simp
theorem Tr.hds_len(q:Tr->Tr->Bool):∀ f g:Tr,f.hds q g=true->f.len=g.len
 | .nil,.nil,_=>rfl
 | .nod _ _ _ _ _ _ r,.nod _ _ _ _ _ _ r',h=>by
  simp only[Tr.hds,Bool.and_eq_true]at h;simp only[Tr.len,Tr.hds_len q r r' h.2]
 | .nil,.nod ..,h=>by cases h
 | .nil,.arm ..,h=>by cases h
 | .nod ..,.nil,h=>by cases h
 | .nod ..,.arm ..,h=>by cases h
 | .arm ..,.nil,h=>by cases h
 | .arm ..,.nod ..,h=>by cases h
 | .arm ..,.arm ..,h=>by cases h
def Tr.drp:Tr->Nat->Tr
 | f,0=>f
 | .nil,_+1=> .nil
 | .nod _ _ _ _ _ _ r,i+1=>r.drp i
 | .arm _ _ _ _ _ _ r,i+1=>r.drp i
theorem Tr.drp_at{k:Int}{s:List UInt8}{n:Int}{p:Pl}{a b:Tr}:∀ (f:Tr) (i:Nat),f.nth i=.nod k s n p a b .nil->f.drp i=.nod k s n p a b (f.drp (i+1))
 | .nil,i,h=>by simp[Tr.nth]at h
 | .nod _ _ _ _ _ _ r,0,h=>by
  simp only[Tr.nth,Tr.nod.injEq]at h;obtain⟨h1,h2,h3,h4,h5,h6,_⟩:=h;subst h1 h2 h3 h4 h5 h6;cases r <;> rfl
 | .arm ..,0,h=>by simp[Tr.nth]at h
 | .nod _ _ _ _ _ _ r,i+1,h=>Tr.drp_at r i h
 | .arm _ _ _ _ _ _ r,i+1,h=>Tr.drp_at r i h
theorem Tr.drp_end:∀ (f:Tr) (i:Nat),f.len<=i->f.drp i=.nil
 | .nil,0,_=>rfl
 | .nil,_+1,_=>rfl
 | .nod ..,0,h=>by simp[Tr.len]at h
 | .arm ..,0,h=>by simp[Tr.len]at h
 | .nod _ _ _ _ _ _ r,i+1,h=>Tr.drp_end r i (by simpa [Tr.len] using h)
 | .arm _ _ _ _ _ _ r,i+1,h=>Tr.drp_end r i (by simpa [Tr.len] using h)
theorem Tr.drp_zero(f:Tr):f.drp 0=f:=by cases f <;> rfl
theorem Tr.drp_size:∀ (f:Tr) (i:Nat),(f.drp i).size<=f.size
 | .nil,0=>Nat.le_refl _
 | .nil,_+1=>Nat.le_refl _
 | .nod ..,0=>Nat.le_refl _
 | .arm ..,0=>Nat.le_refl _
 | .nod _ _ _ _ _ _ r,i+1=>by have:=Tr.drp_size r i;simp only[Tr.drp,Tr.size];omega
 | .arm _ _ _ _ _ _ r,i+1=>by have:=Tr.drp_size r i;simp only[Tr.drp,Tr.size];omega
theorem TrAt.bare{w:World}{Ok:Nat->Prop}{sh:Sh}(hs:sh=.pat∨sh=.ty):∀ (f:Tr) (b o:Nat),TrAt w Ok f sh b o->f.bare
 | .nil,_,_,_=>trivial
 | .nod k s n p kids arms r,b,o,h=>by
  obtain⟨_,⟨A,cap,_,_,a3⟩,h3,h4⟩:=h;refine⟨?_,?_,TrAt.bare hs r b _ h4⟩
  ·rcases h3 with ⟨e,_⟩ | ⟨_,e⟩
   ·subst e;rcases hs with e | e <;> cases e
   ·exact Tr.len_nil _ e
  ·rcases Nat.eq_zero_or_pos kids.len with e | e
   ·rw[Tr.len_nil kids e];trivial
   ·obtain⟨b',o',_,_,h⟩:=a3 e;exact TrAt.bare hs kids b' o' h
 | .arm ..,b,o,h=>by have:=h.1;subst this;rcases hs with e | e <;> cases e
theorem KidsTr.bare{w:World}{Ok:Nat->Prop}{sh:Sh}(hs:sh=.pat∨sh=.ty){A:Option Addr}{l c:Nat}{f:Tr}(h:KidsTr w Ok sh A l c f):f.bare:=by
 rcases Nat.eq_zero_or_pos f.len with e | e
 ·rw[Tr.len_nil f e];trivial
 ·obtain⟨b,o,_,_,h⟩:=h.2.2 (by rw[h.1];exact e)
  exact TrAt.bare hs f b o h
theorem Tr.hds_bare:∀ f g:Tr,f.bare->g.bare->f.hds (fun _ _=>true) g=f.hds patQ g
 | .nil,.nil,_,_=>rfl
 | .nil,.nod ..,_,_=>rfl
 | .nod ..,.nil,_,_=>rfl
 | .arm ..,_,h,_=>h.elim
 | .nil,.arm ..,_,h=>h.elim
 | .nod ..,.arm ..,_,h=>h.elim
 | .nod _ _ _ _ _ b r,.nod _ _ _ _ _ b' r',⟨h1,_,h2⟩,⟨h3,_,h4⟩=>by
  simp only[Tr.hds,Tr.hds_bare r r' h2 h4,h1,h3,patQ,Tr.pats,Tr.same]
theorem Tr.same_bare(f g:Tr)(hf:f.bare)(hg:g.bare)(h1:f.isNods)(h2:g.isNods)(o1:f.ok)(o2:g.ok):f.same g=(f.hds (fun _ _=>true) g&&f.kidsSame g):=by
 rw[Tr.hds_bare f g hf hg];exact Tr.same_split f g h1 h2 o1 o2
structure Pr where
 a:It
 b:It
def Pr.cells(x:Pr):List Value:=[x.a.val,x.b.val]
def prV(S:List Pr):List Value:=S.reverse.flatMap Pr.cells
theorem jT(x:Pr)(S:List Pr):prV (x::S)=prV S++x.cells:=by simp[prV]
theorem je:∀ S:List Pr,(prV S).length=S.length*2
 | []=>rfl
 | x::S=>by rw[jT,List.length_append,je S];simp[Pr.cells];omega
def msP:List Pr->Nat
 | []=>0
 | x::S=>x.a.f.size+1+msP S
theorem Jh:∀ S:List Pr,S.length<=msP S
 | []=>Nat.le_refl _
 | x::S=>by have:=Jh S;simp only[List.length_cons,msP];omega
def allP(S:List Pr):Bool:=S.all fun x=>x.a.f.same x.b.f
def PrI(w:World)(A:Option Addr)(sh:Sh)(S:List Pr):Prop:=∀ x∈S,(KidsTr w (OkI w (fun _=>False) A) sh x.a.A x.a.f.len x.a.c x.a.f/\x.a.f.size<=1000000)/\(KidsTr w (OkI w (fun _=>False) A) sh x.b.A x.b.f.len x.b.c x.b.f/\x.b.f.size<=1000000)
theorem PrI.step{w w':World}{A A':Option Addr}{sh:Sh}{S:List Pr}(h:PrI w A sh S)(hs:w.heap.size<=w'.heap.size)(hk:∀ j,OkI w (fun _=>False) A j->w'.heap[j]?=w.heap[j]?)(ha:∀ j o,A'=some ⟨j,o,none⟩->(∃ o',A=some ⟨j,o',none⟩)∨w.heap.size<=j):PrI w' A' sh S:=
 fun x hx=>⟨⟨(h x hx).1.1.stepI hs hk (fun _ h=>h.elim) ha,(h x hx).1.2⟩,⟨(h x hx).2.1.stepI hs hk (fun _ h=>h.elim) ha,(h x hx).2.2⟩⟩
theorem qdK{w:World}{base:Nat}{T0:TypeId}{A:Option Addr}{cc m:Nat}{x:Pr}{S:List Pr}(hm:m=S.length)(h:w.ownsRow base T0 2 (.slice A (m+1) cc) (m+1) (prV (x::S))) :
  ∃ g,A=some ⟨g,0,none⟩/\base<=g/\g<w.heap.size/\m+1<=cc/\cc<=maxLen/\w.cell? ⟨g,m*2,none⟩=some x.a.val/\w.cell? ⟨g,m*2+1,none⟩=some x.b.val/\w.ownsRow base T0 2 (.slice (some ⟨g,0,none⟩) m cc) m (prV S):=by
 have h':=h;obtain⟨hl,hr⟩:=h;rcases hr with ⟨_,h0⟩ | ⟨g,cap,cur,hv,hb,hh,hnc,hmx,hcs,ht⟩
 ·omega
 ·cases hv
  refine⟨g,rfl,hb,(Array.getElem?_eq_some_iff.1 hh).1,hnc,hmx,?_,?_,⟨by rw[je,hm],.inr ⟨g,cc,cur,rfl,hb,hh,by omega,hmx,hcs,?_⟩⟩⟩
  ·have h5:=h'.cells (g:=g) rfl (m*2) x.a.val (by rw[jT,List.getElem?_append_right (by rw[je,hm];exact Nat.le_refl _),je,hm,Nat.sub_self];rfl)
   rwa [Addr.add_lit,Nat.zero_add]at h5
  ·have h5:=h'.cells (g:=g) rfl (m*2+1) x.b.val (by rw[jT,List.getElem?_append_right (by rw[je,hm];omega),je,hm,show S.length*2+1-S.length*2=1 by omega];rfl)
   rwa [Addr.add_lit,Nat.zero_add]at h5
  ·have h4:=congrArg (List.take (m*2)) ht
   rw[List.take_take,jT,List.take_append_of_le_length (by rw[je,hm];exact Nat.le_refl _),List.take_of_length_le (l:=prV S) (by rw[je,hm];exact Nat.le_refl _)]at h4;rw[<- h4];congr 1
   omega
theorem qdJ{w7:World}{A2:Option Addr}{sh:Sh}{S2:List Pr}{wx:World}(hp:PrI wx A2 sh S2)(hb:Bel wx w7):PrI w7 A2 sh S2:=
 hp.step hb.size (fun j hj=>hb.block j hj.1) (fun j o e=> .inl ⟨o,e⟩)
theorem zc{w7:World}{A2:Option Addr}{sh:Sh}{wx:World}{B:Option Addr}{l c:Nat}{f:Tr}(h:KidsTr wx (OkI wx (fun _=>False) A2) sh B l c f)(hb:Bel wx w7):KidsTr w7 (OkI w7 (fun _=>False) A2) sh B l c f:=
 h.stepI hb.size (fun j hj=>hb.block j hj.1) (fun _ h=>h.elim) (fun j o e=> .inl ⟨o,e⟩)
theorem zN{w0 w7 w8:World}{A2:Option Addr}{c2 m2 base:Nat}{T0:TypeId}{sh:Sh}{S2:List Pr}{K:Pr}{v':Value}{ob:Obj}(hrow:w7.ownsRow base T0 2 (.slice A2 m2 c2) m2 (prV S2))(hp:PrI w7 A2 sh S2)
  (ha:KidsTr w7 (OkI w7 (fun _=>False) A2) sh K.a.A K.a.f.len K.a.c K.a.f) (hb:KidsTr w7 (OkI w7 (fun _=>False) A2) sh K.b.A K.b.f.len K.b.c K.b.f) (hs:K.a.f.size<=1000000/\K.b.f.size<=1000000)
  (hown8:w8.ownsRow base T0 2 v' (m2+1) (prV S2++K.cells)) (hg8:(w7.alloc ob).grownBy w8 (Value.slice A2 m2 c2).ownBlock) (hat8:v'.ownBlock=(Value.slice A2 m2 c2).ownBlock∨v'.ownBlock=some (w7.alloc ob).heap.size) (h07:Bel w0 w7) (h0:w0.heap.size<=base) (hbs:base<=w7.heap.size) :
  ∃ g8 c8,v'=.slice (some ⟨g8,0,none⟩) (m2+1) c8/\w8.ownsRow base T0 2 (.slice (some ⟨g8,0,none⟩) (m2+1) c8) (m2+1) (prV (K::S2))/\PrI w8 (some ⟨g8,0,none⟩) sh (K::S2) ∧
   (∀ (B:Option Addr) (l c:Nat) (f:Tr),KidsTr w7 (OkI w7 (fun _=>False) A2) sh B l c f->KidsTr w8 (OkI w8 (fun _=>False) (some ⟨g8,0,none⟩)) sh B l c f)/\Bel w0 w8/\base<=w8.heap.size:=by
 obtain⟨g8,c8,rfl⟩:=zO hown8;have z8:w7.heap.size+1<=w8.heap.size:=by have:=hg8.size;simpa using this
 have hob:∀ j,(Value.slice A2 m2 c2).ownBlock=some j->base<=j/\∃ o,A2=some ⟨j,o,none⟩:=fun j hj=>by
  refine⟨(hrow.lt j hj).1,?_⟩;rcases hrow.2 with ⟨_,h⟩ | ⟨g,cap,cur,hv,_⟩
  ·cases A2 with
   | none=>simp[Value.ownBlock]at hj
   | some a=>
    obtain⟨ab,ao,ap⟩:=a;rcases hrow.2 with ⟨h2,_⟩ | ⟨g,cap,cur,hv,_⟩
    ·cases h2
    ·cases hv;simp[Value.ownBlock]at hj;exact⟨0,by rw[hj]⟩
  ·cases hv;simp[Value.ownBlock]at hj;exact⟨0,by rw[hj]⟩
 have hk:∀ j,OkI w7 (fun _=>False) A2 j->w8.heap[j]?=w7.heap[j]?:=fun j hj=>
  (hg8.block j (by simp;have:=hj.1;omega) (fun e=>by obtain⟨_,o,ho⟩:=hob j e.symm;exact hj.2.2 o ho)).trans (((Bel.refl w7).alloc ob).block j hj.1)
 have hA:∀ j o,(some ⟨g8,0,none⟩:Option Addr)=some ⟨j,o,none⟩->(∃ o',A2=some ⟨j,o',none⟩)∨w7.heap.size<=j:=fun j o e=>by
  cases e
  rcases hat8 with h | h
  ·exact .inl (hob g8 h.symm).2
  ·right;simp[Value.ownBlock]at h;omega
 refine⟨g8,c8,rfl,by rw[jT];exact hown8,?_,fun B l c f h=>h.stepI (by omega) hk (fun _ h=>h.elim) hA,?_,by omega⟩
 ·intro x hx
  rcases List.mem_cons.1 hx with rfl | hx
  ·exact⟨⟨ha.stepI (by omega) hk (fun _ h=>h.elim) hA,hs.1⟩,⟨hb.stepI (by omega) hk (fun _ h=>h.elim) hA,hs.2⟩⟩
  ·exact (hp.step (by omega) hk hA) x hx
 ·exact Below.grown (h07.alloc ob) hg8 (by have:=h07.size;simp;omega) (fun x hx=>by have:=(hob x hx).1;omega)
end Go.Proofs.YtlmmaoobembadaaGreatDoor.Mu
namespace Go.Proofs.YtlmmaoobembadaaGreatDoor.Mu
set_option maxHeartbeats 4000000
open Go Go.RowKit Go.Shelf
attribute [local go_sem] Oper.semAt_some
set_option linter.unusedVariables false
set_option maxRecDepth 100000
theorem qbT(k:Int)(s:List UInt8)(n:Int)(p:Pl)(A:Option Addr)(l c:Nat)(k2:Int)(s2:List UInt8)(n2:Int)(p2:Pl)(A2:Option Addr)(l2 c2:Nat)(w:World) :
  Calls Tryz.prog 76 #[.agg #[.int .u8 k,.string ⟨s.toArray⟩,n,p.a,p.l,p.c,.slice A l c],.agg #[.int .u8 k2,.string ⟨s2.toArray⟩,n2,p2.a,p2.l,p2.c,.slice A2 l2 c2]] w (qj (decide (k=k2)&&decide (s=s2)&&decide (n=n2)) w):=by
 have hne:s≠s2->(⟨s.toArray⟩:ByteArray).toList≠(⟨s2.toArray⟩:ByteArray).toList:=jV;by_cases dk:k=k2
 case neg=>
  have e:(decide (k=k2)&&decide (s=s2)&&decide (n=n2))=false:=by simp[dk]
  rw[e];have ek:(k==k2)=false:=by simpa using dk
  clear hne e;go_enter Tryz.func76,Tryz.ntmps76
  go_wp2_with fail
  go_ret
  exact⟨rfl,((Bel.refl w).alloc _).alloc _⟩
 subst dk;by_cases ds:s=s2
 case neg=>
  have e:(decide (k=k)&&decide (s=s2)&&decide (n=n2))=false:=by simp[ds]
  rw[e];obtain⟨S,hS⟩:∃ S:ByteArray,S=⟨s.toArray⟩:=⟨_,rfl⟩
  obtain⟨S2,hS2⟩:∃ S:ByteArray,S=⟨s2.toArray⟩:=⟨_,rfl⟩
  have qn:=hne ds;rw[<- hS,<- hS2]at qn;rw[<- hS,<- hS2];have qb:(S.toList==S2.toList)=false:=by simpa using qn
  clear hne e hS hS2 ds;go_enter Tryz.func76,Tryz.ntmps76
  go_wp2_with fail
  go_ret
  exact⟨rfl,((Bel.refl w).alloc _).alloc _⟩
 subst ds;have e:(decide (k=k)&&decide (s=s)&&decide (n=n2))=(n==n2):=by by_cases h:n=n2 <;> simp[h]
 rw[e];obtain⟨S,hS⟩:∃ S:ByteArray,S=⟨s.toArray⟩:=⟨_,rfl⟩
 rw[<- hS];clear hne e hS;go_enter Tryz.func76,Tryz.ntmps76
 go_wp2_with fail
 go_ret
 exact⟨rfl,((Bel.refl w).alloc _).alloc _⟩
theorem qg9(A:Option Addr)(n c:Nat)(B:Option Addr)(m d:Nat)(f g:Tr)(w:World)(hk:KidsTr w (OldT w) .pat A n c f)(hk2:KidsTr w (OldT w) .pat B m d g)(hsz:f.size<=1000000)(hsz2:g.size<=1000000) :
  Calls Tryz.prog 130 #[.slice A n c,.slice B m d,.func (.func 76) #[] #[]] w (qj (f.hds (fun _ _=>true) g) w):=by
 have H:=hid hk;have H2:=hid hk2;have HL:Hid (n=f.len):=hid hk.1;have HL2:Hid (m=g.len):=hid hk2.1;have HSZ:=hid (And.intro hsz hsz2);have hn:n<=1000000:=by have:=hk.1;have:=f.len_le;omega
 have hm:m<=1000000:=by have:=hk2.1;have:=g.len_le;omega
 obtain⟨r,hr⟩:∃ r,r=f.hds (fun _ _=>true) g:=⟨_,rfl⟩
 rw[<- hr];have HR:=hid hr;clear hk hk2 hsz hsz2 hr;have eg:∀ args w,(callFunc 76 args).run Tryz.prog w=.ok (.enter 76 args) w:=fun args w=>by kernel_rfl
 by_cases hnm:n=m
 case neg=>
  obtain rfl:r=false:=by
   rw[HR.out,Bool.eq_false_iff];intro h;have:=Tr.hds_len _ _ _ h;exact hnm (by rw[HL.out,HL2.out,this])
  have e0:((n:Int) != (m:Int))=true:=by simp;omega
  go_enter Tryz.func130,Tryz.ntmps130
  go_wp2_with fail
  go_ret
  exact⟨rfl,Bel.refl _⟩
 subst hnm;go_enter Tryz.func130,Tryz.ntmps130
 go_wp2_with fail
 go_loopw [17] (fun i wr=>∃ j:Nat,j<=n/\i=.int .i64 (j:Int)/\Hid (r=(f.drp j).hds (fun _ _=>true) (g.drp j))/\Hid (Bel w wr)) (fun i _=>n-(intOf i).toNat)
 case atStart=>exact⟨0,Nat.zero_le _,rfl,hid (by rw[Tr.drp_zero,Tr.drp_zero];exact HR.out),hid (Bel.refl _)⟩
 case round=>
  obtain⟨j,hj,rfl,HRJ,HB⟩:=hrel;by_cases hlt:j<n
  ·obtain⟨ub,uo,eA,hob,hfo⟩:=(H.out.bel HB.out).2.2 (by omega)
   obtain⟨ub2,uo2,eA2,hob2,hfo2⟩:=(H2.out.bel HB.out).2.2 (by omega);subst eA eA2;obtain⟨k,s,nn,p,kids,arms,en,hd⟩:=TrAt.nod_at (by intro e;cases e) f j ub uo hfo (by rw[<- HL.out];exact hlt);obtain⟨k2,s2,nn2,p2,kids2,arms2,en2,hd2⟩:=TrAt.nod_at (by intro e;cases e) g j ub2 uo2 hfo2 (by rw[<- HL2.out];exact hlt);obtain⟨A',ca',B',cb',hc,hk',ha',_⟩:=hd.parts;obtain⟨A2',ca2',B2',cb2',hc2,hk2',ha2',_⟩:=hd2.parts;have hsn:=Tr.nth_size f j;have hsn2:=Tr.nth_size g j;rw[en]at hsn;rw[en2]at hsn2;simp only[Tr.size]at hsn hsn2;obtain⟨hb,hhb⟩:∃ hb,hb=(decide (k=k2)&&decide (s=s2)&&decide (nn=nn2)&&(fun _ _=>true:Tr->Tr->Bool) arms arms2):=⟨_,rfl⟩
   have HRN:Hid (r=(hb&&(f.drp (j+1)).hds (fun _ _=>true) (g.drp (j+1)))):=hid (by
    rw[HRJ.out,Tr.drp_at f j en,Tr.drp_at g j en2,hhb];rfl)
   have HC:Hid (∀ W,Bel wr W->Calls Tryz.prog 76 #[.agg #[.int .u8 k,.string ⟨s.toArray⟩,nn,p.a,p.l,p.c,.slice A' kids.len ca'],.agg #[.int .u8 k2,.string ⟨s2.toArray⟩,nn2,p2.a,p2.l,p2.c,.slice A2' kids2.len ca2']] W (qj hb W)):=hid fun W hW=>by
    rw[hhb];rw[Bool.and_true];exact qbT k s nn p A' kids.len ca' k2 s2 nn2 p2 A2' kids2.len ca2' W
   have y0:=hc 0 _ rfl;have y1:=hc 1 _ rfl;have y2:=hc 2 _ rfl;have y3:=hc 3 _ rfl;have y4:=hc 4 _ rfl;have y5:=hc 5 _ rfl;have y6:=hc 6 _ rfl;have z0:=hc2 0 _ rfl;have z1:=hc2 1 _ rfl;have z2:=hc2 2 _ rfl;have z3:=hc2 3 _ rfl;have z4:=hc2 4 _ rfl;have z5:=hc2 5 _ rfl;have z6:=hc2 6 _ rfl;simp only[Nat.add_zero,Sh.kd,Sh.sz]at y0 y1 y2 y3 y4 y5 y6 z0 z1 z2 z3 z4 z5 z6;obtain⟨l1,hl1⟩:∃ l,l=kids.len:=⟨_,rfl⟩
   obtain⟨l2,hl2⟩:∃ l,l=kids2.len:=⟨_,rfl⟩
   obtain⟨l3,hl3⟩:∃ l,l=arms.len:=⟨_,rfl⟩
   obtain⟨l4,hl4⟩:∃ l,l=arms2.len:=⟨_,rfl⟩
   obtain⟨SS,hSS⟩:∃ S:ByteArray,S=⟨s.toArray⟩:=⟨_,rfl⟩
   obtain⟨SS2,hSS2⟩:∃ S:ByteArray,S=⟨s2.toArray⟩:=⟨_,rfl⟩
   rw[<- hSS,<- hSS2,<- hl1,<- hl2]at HC;rw[<- hSS]at y1;rw[<- hSS2]at z1;rw[<- hl1]at y6;rw[<- hl2]at z6;skip
   have i1:(0:Int)<=(j:Int):=by omega
   have i2:(j:Int)<(n:Int):=by omega
   have HLT:=hid hlt;clear hc hc2 hk' hk2' ha' ha2' hsn hsn2 en en2 hd hd2 hfo hfo2 hl1 hl2 hl3 hl4 hSS hSS2 hhb;have hob':ub<wr.heap.size:=hob;have hob2':ub2<wr.heap.size:=hob2;clear hob hob2;go_wp2_with fail
   refine (HC.out _ (((Bel.refl wr).alloc _).alloc _)).mono ?_;rintro e w3 ⟨rfl,hb3⟩;have HB3:=hid (((HB.out.alloc _).alloc _).on hb3);clear hb3 HC y0 y1 y2 y3 y4 y5 y6 z0 z1 z2 z3 z4 z5 z6;cases hb
   ·obtain rfl:r=false:=by rw[HRN.out];rfl
    go_wp2_with fail
    go_ret
    exact⟨rfl,HB3.out⟩
   ·have HR':Hid (r=(f.drp (j+1)).hds (fun _ _=>true) (g.drp (j+1))):=hid (by rw[HRN.out];rfl)
    go_wp2_with fail
    go_roundw
    case rel=>exact⟨j+1,HLT.out,by go_num,HR',HB3⟩
    case measure=>have:=HLT.out;simp[intOf];omega
  ·obtain rfl:j=n:=by omega
   obtain rfl:r=true:=by rw[HRJ.out,Tr.drp_end f j (by rw[<- HL.out];exact Nat.le_refl _),Tr.drp_end g j (by rw[<- HL2.out];exact Nat.le_refl _)];rfl
   go_wp2_with fail
   go_ret
   exact⟨rfl,HB.out⟩
theorem qfx:(Tryz.prog.info? 179).map (fun i=>(i.zero,i.size,i.bytes))=some (some (.agg #[.slice none 0 0,.slice none 0 0]),2,48):=by kernel_rfl
theorem qet(A:Option Addr)(n c:Nat)(B:Option Addr)(m d:Nat)(f g:Tr)(w:World)(hk:KidsTr w (OldT w) .pat A n c f)(hk2:KidsTr w (OldT w) .pat B m d g)(hsz:f.size<=1000000)(hsz2:g.size<=1000000) :
  Calls Tryz.prog 75 #[.slice A n c,.slice B m d,.func (.func 70) #[] #[],.func (.func 76) #[] #[]] w (qj (f.same g) w):=by
 have HK:=hid hk;have HK2:=hid hk2;have HSZ:=hid (And.intro hsz hsz2);obtain⟨r,hr⟩:∃ r,r=f.same g:=⟨_,rfl⟩
 rw[<- hr];have HR:=hid hr;have HN:=hid (And.intro hk.1 hk2.1);clear hk hk2 hsz hsz2 hr;obtain⟨i0,hi0,hz0,hz1,hz2⟩:=info_parts qfx;have eg:∀ args w,(callFunc 76 args).run Tryz.prog w=.ok (.enter 76 args) w:=fun args w=>by kernel_rfl
 have ek:∀ args w,(callFunc 70 args).run Tryz.prog w=.ok (.enter 70 args) w:=fun args w=>by kernel_rfl
 go_enter Tryz.func75,Tryz.ntmps75
 go_wp2_with fail
 obtain⟨base,hbase⟩:∃ base,base=w.heap.size:=⟨_,rfl⟩
 obtain⟨w1,hw1⟩:∃ w1,w1=w.alloc (.cells #[.slice A n c,.slice B m d] 179):=⟨_,rfl⟩
 have hb1:Bel w w1:=by rw[hw1];exact (Bel.refl w).alloc _
 have hq1:w1.heap[base]?=some (.cells #[.slice A n c,.slice B m d] 179 (0,0)):=by rw[hw1,hbase];exact blk1 w _
 have hs1:w1.heap.size=base+1:=by rw[hw1,hbase];simp
 rw[<- hw1,<- hbase];have HBS:=hid hbase;have HB1:=hid hb1;have HB2:Hid (base<=w1.heap.size):=hid (by omega);have HRW:Hid (w1.ownsRow base 179 2 (.slice (some ⟨base,0,none⟩) 1 1) 1 (prV [⟨⟨A,c,f⟩,⟨B,d,g⟩⟩])):=hid ⟨rfl,.inr ⟨base,1,_,rfl,Nat.le_refl _,hq1,Nat.le_refl _,by unfold maxLen;omega,rfl,by simp[prV,Pr.cells,It.val,<- HN.out.1,<- HN.out.2]⟩⟩;have HPI:Hid (PrI w1 (some ⟨base,0,none⟩) .pat [⟨⟨A,c,f⟩,⟨B,d,g⟩⟩]):=hid (by
  intro x hx;simp at hx;subst hx;have hw:∀ j,OldT w j->OkI w1 (fun _=>False) (some ⟨base,0,none⟩) j:=fun j hj=>⟨Nat.lt_of_lt_of_le hj hb1.size,fun h=>h,fun o e=>by cases e;have:base<w.heap.size:=hj;omega⟩
  have k1:=HK.out;have k2:=HK2.out;rw[HN.out.1]at k1;rw[HN.out.2]at k2;exact⟨⟨(k1.keep fun j hj=>hb1.block j hj).wide hw,HSZ.out.1⟩,⟨(k2.keep fun j hj=>hb1.block j hj).wide hw,HSZ.out.2⟩⟩)
 have HRA:Hid (r=allP [⟨⟨A,c,f⟩,⟨B,d,g⟩⟩]):=hid (by rw[HR.out];simp[allP]);have HMP:Hid (msP [⟨⟨A,c,f⟩,⟨B,d,g⟩⟩]<=1000001):=hid (by have:=HSZ.out.1;simp only[msP];omega);clear hb1 hq1 hs1 hw1 hbase HK HK2 HSZ HR HN;go_loopg [9] (msP [⟨⟨A,c,f⟩,⟨B,d,g⟩⟩]) (fun gk v wr=>∃ (S:List Pr) (A:Option Addr) (cc m:Nat),v=.slice A m cc/\Hid (m=S.length)/\Hid (gk=msP S)/\Hid (msP S<=1000001)/\Hid (wr.ownsRow base 179 2 (.slice A m cc) m (prV S))/\Hid (PrI wr A .pat S)/\Hid (r=allP S)/\Hid (Bel w wr)/\Hid (base<=wr.heap.size))
 case atStart=>exact⟨_,_,_,_,rfl,hid rfl,hid rfl,HMP,HRW,HPI,HRA,HB1,HB2⟩
 case round=>
  clear HRW HPI HRA HB1 HB2 HMP;obtain⟨S,A,cc,m,rfl,HM,HGK,HMS,HRW,HPI,HRA,HB,HBL⟩:=hrel;cases S with
  | nil=>
   obtain rfl:m=0:=HM.out;obtain rfl:r=true:=by rw[HRA.out];rfl
   go_wp2_with fail
   go_ret
   exact⟨rfl,HB.out⟩
  | cons x S=>
   obtain⟨mm,hmm⟩:∃ mm,mm=S.length:=⟨_,rfl⟩
   have hm:m=mm+1:=by rw[hmm];exact HM.out
   subst hm;obtain⟨g',eA,hbg,hgl,hcc,hcm,hca,hcb,hrow⟩:=qdK hmm HRW.out;subst eA;obtain⟨⟨xA,xc,xf⟩,⟨yA,yc,yf⟩⟩:=x;obtain⟨⟨kx,sx⟩,⟨ky,sy⟩⟩:=HPI.out _ List.mem_cons_self;simp only at kx ky sx sy;obtain⟨xl,hxl⟩:∃ l,l=xf.len:=⟨_,rfl⟩
   obtain⟨yl,hyl⟩:∃ l,l=yf.len:=⟨_,rfl⟩
   simp only[It.val,<- hxl]at hca;simp only[It.val,<- hyl]at hcb;rw[<- hxl]at kx;rw[<- hyl]at ky;obtain⟨hb,hhb⟩:∃ hb,hb=xf.hds (fun _ _=>true) yf:=⟨_,rfl⟩
   have hOld:∀ j,OkI wr (fun _=>False) (some ⟨g',0,none⟩) j->OldT wr j:=fun j hj=>hj.1;have HE:Hid (∀ W,Bel wr W->Calls Tryz.prog 130 #[.slice xA xl xc,.slice yA yl yc,.func (.func 76) #[] #[]] W (qj hb W)):=hid fun W hW=>by
    rw[hhb];exact qg9 xA xl xc yA yl yc xf yf W ((kx.wide hOld).bel hW) ((ky.wide hOld).bel hW) sx sy
   have HSP:Hid (r=((hb&&xf.kidsSame yf)&&allP S)):=hid (by
    rw[HRA.out];simp only[allP,List.all_cons];rw[hhb,<- Tr.same_bare xf yf (kx.bare (.inl rfl)) (ky.bare (.inl rfl)) (kx.isNods (by intro e;cases e)) (ky.isNods (by intro e;cases e)) kx.ok ky.ok])
   have HKX:=hid kx;have HKY:=hid ky;have HSXY:=hid (And.intro sx sy);have HHB:=hid hhb;have HXL:=hid hxl;have HYL:=hid hyl;have HROW:=hid hrow;have HBG:=hid hbg;have HMM:=hid hmm;have hm63:mm+1<=9223372036854775807:=by unfold maxLen at hcm;omega
   have i0':(0:Int)<=(mm:Int):=by omega
   have i1:(mm:Int)<(mm:Int)+1:=by omega
   have i4:(mm:Int)<=(cc:Int):=by omega
   have z0:=qa hgl hca;have z1:=qa hgl hcb;clear kx ky sx sy hhb hxl hyl hrow hbg hmm hcm hOld HRW HRA;go_wp2_with fail
   go_quiet (fail)
   have HB4:Hid (∀ k,Bel wr (wr.drewN k)):=hid fun k=>(Bel.refl wr).drewN k;go_wp2_with fail
   clear z0 z1 hca hcb;refine (HE.out _ (HB4.out _)).mono ?_;rintro e w5 ⟨rfl,hb5⟩;have HB5:=hid ((HB4.out _).on hb5);have HBW5:=hid (HB.out.on ((HB4.out _).on hb5));clear hb5 HE HB4;cases hb
   ·obtain rfl:r=false:=by rw[HSP.out];rfl
    go_wp2_with fail
    go_ret
    exact⟨rfl,HBW5.out⟩
   ·have hlen:xl=yl:=by rw[HXL.out,HYL.out];exact Tr.hds_len _ _ _ HHB.out.symm
    subst hlen;have hxl2:xl<=1000000:=by rw[HXL.out];have:=xf.len_le;have:=HSXY.out.1;omega
    have hst:∀ j,OkI wr (fun _=>False) (some ⟨g',0,none⟩) j->w5.heap[j]?=wr.heap[j]?:=fun j hj=>HB5.out.block j hj.1;have HIN:Hid (KidsTr w5 (OkI w5 (fun _=>False) (some ⟨g',0,none⟩)) .pat xA xl xc xf/\KidsTr w5 (OkI w5 (fun _=>False) (some ⟨g',0,none⟩)) .pat yA xl yc yf):=hid ⟨HKX.out.stepI HB5.out.size hst (fun _ h=>h.elim) (fun j o e=> .inl ⟨o,e⟩),HKY.out.stepI HB5.out.size hst (fun _ h=>h.elim) (fun j o e=> .inl ⟨o,e⟩)⟩;have HPS:Hid (PrI w5 (some ⟨g',0,none⟩) .pat S):=hid (PrI.step (fun y hy=>HPI.out y (List.mem_cons_of_mem _ hy)) HB5.out.size hst (fun j o e=> .inl ⟨o,e⟩));have HRO:Hid (w5.ownsRow base 179 2 (.slice (some ⟨g',0,none⟩) mm cc) mm (prV S)):=hid (qk HROW.out HB5.out);have HBL5:Hid (base<=w5.heap.size):=hid (Nat.le_trans HBL.out HB5.out.size);have HRI:Hid (r=(allP S&&(xf.drp 0).kidsSame (yf.drp 0))):=hid (by rw[Tr.drp_zero,Tr.drp_zero,HSP.out,Bool.true_and,Bool.and_comm]);have HMI:Hid (msP S+(xf.drp 0).size<=msP S+xf.size):=hid (by rw[Tr.drp_zero];exact Nat.le_refl _);have HMB:Hid (msP S+xf.size<=1000000):=hid (by have:=HMS.out;simp only[msP]at this;omega);have HM':=HMM;clear hst HKX HKY HB5 HPI HROW HSP HHB;go_wp2_with fail
    go_loopw [9,48] (fun v iv wx=>∃ (q:Nat) (S2:List Pr) (A2:Option Addr) (c2 m2:Nat),q<=xl/\iv=.int .i64 (q:Int)/\v=.slice A2 m2 c2/\Hid (m2=S2.length)/\Hid (wx.ownsRow base 179 2 (.slice A2 m2 c2) m2 (prV S2))/\Hid (PrI wx A2 .pat S2)/\Hid (KidsTr wx (OkI wx (fun _=>False) A2) .pat xA xl xc xf/\KidsTr wx (OkI wx (fun _=>False) A2) .pat yA xl yc yf)/\Hid (r=(allP S2&&(xf.drp q).kidsSame (yf.drp q)))/\Hid (msP S2+(xf.drp q).size<=msP S+xf.size)/\Hid (Bel w wx)/\Hid (base<=wx.heap.size)) (fun _ i _=>xl-(intOf i).toNat)
    case atStart=>exact⟨0,S,_,_,_,Nat.zero_le _,rfl,rfl,HMM,HRO,HPS,HIN,HRI,HMI,HBW5,HBL5⟩
    case round=>
     clear HRO HPS HIN HRI HMI HBW5 HBL5;obtain⟨q,S2,A2,c2,m2,hq,rfl,rfl,HM2,HR2,HP2,HI2,HRR,HMM2,HBW,HBLX⟩:=hrel;obtain⟨wx,rfl⟩:∃ wx:World,wx=wr:=⟨_,rfl⟩
     by_cases hlt:q<xl
     ·obtain⟨ub,uo,eA,hob,hfo⟩:=HI2.out.1.2.2 (by omega)
      obtain⟨ub2,uo2,eA2,hob2,hfo2⟩:=HI2.out.2.2.2 (by omega);subst eA eA2;obtain⟨k,s,nn,p,kids,arms,en,hd⟩:=TrAt.nod_at (by intro e;cases e) xf q ub uo hfo (by rw[<- HXL.out];exact hlt);obtain⟨k2,s2,nn2,p2,kids2,arms2,en2,hd2⟩:=TrAt.nod_at (by intro e;cases e) yf q ub2 uo2 hfo2 (by rw[<- HYL.out];exact hlt);obtain⟨A',ca',B',cb',hc,hk',ha',_⟩:=hd.parts;obtain⟨A2',ca2',B2',cb2',hc2,hk2',ha2',_⟩:=hd2.parts;have hdq:=Tr.drp_at xf q en;have hdq2:=Tr.drp_at yf q en2;have hdsz:=Tr.drp_size xf q;have hdsz2:=Tr.drp_size yf q;rw[hdq]at hdsz;rw[hdq2]at hdsz2;simp only[Tr.size]at hdsz hdsz2;have sx1:=HSXY.out.1;have sy1:=HSXY.out.2;obtain⟨F1,hF1⟩:∃ F,F=kids.app arms.exs:=⟨_,rfl⟩
      obtain⟨F2,hF2⟩:∃ F,F=kids2.app arms2.exs:=⟨_,rfl⟩
      have HF:Hid (r=(allP S2&&(F1.same F2&&(xf.drp (q+1)).kidsSame (yf.drp (q+1))))):=hid (by
       rw[HRR.out,hdq,hdq2,hF1,hF2];rfl)
      have hex:=Tr.exs_size arms;have hex2:=Tr.exs_size arms2;have HF1:Hid (F1.size<=kids.size+arms.size/\F2.size<=1000000/\F1.size<=1000000):=hid (by rw[hF1,hF2,Tr.app_size,Tr.app_size];omega);have HMQ:Hid (msP S2+(1+F1.size+(xf.drp (q+1)).size)<=msP S+xf.size):=hid (by
       have h:=HMM2.out;rw[hdq]at h;simp only[Tr.size]at h;have:=HF1.out.1;omega)
      have HC1:Hid (∀ W,Bel wx W->Calls Tryz.prog 70 #[.agg #[.int .u8 k,.string ⟨s.toArray⟩,nn,p.a,p.l,p.c,.slice A' kids.len ca']] W fun e w'=>e=.returned (.slice A' kids.len ca')/\Bel W w'):=hid fun W hW=>zW k s nn p A' kids.len ca' W;have HC2:Hid (∀ W,Bel wx W->Calls Tryz.prog 70 #[.agg #[.int .u8 k2,.string ⟨s2.toArray⟩,nn2,p2.a,p2.l,p2.c,.slice A2' kids2.len ca2']] W fun e w'=>e=.returned (.slice A2' kids2.len ca2')/\Bel W w'):=hid fun W hW=>zW k2 s2 nn2 p2 A2' kids2.len ca2' W;have HKK:Hid ((KidsTr wx (OkI wx (fun _=>False) A2) .pat A' kids.len ca' F1/\KidsTr wx (OkI wx (fun _=>False) A2) .pat A2' kids2.len ca2' F2)/\(kids.len=F1.len/\kids2.len=F2.len)):=hid (by
       obtain rfl:arms=.nil:=by
        rcases ha' with ⟨e,_⟩ | ⟨_,e⟩
        ·cases e
        ·exact Tr.len_nil _ e
       obtain rfl:arms2=.nil:=by
        rcases ha2' with ⟨e,_⟩ | ⟨_,e⟩
        ·cases e
        ·exact Tr.len_nil _ e
       rw[hF1,hF2];simp only[Tr.exs,Tr.app_nil];exact⟨⟨hk',hk2'⟩,by first | rfl | trivial,by first | rfl | trivial⟩)
      have y0:=hc 0 _ rfl;have y1:=hc 1 _ rfl;have y2:=hc 2 _ rfl;have y3:=hc 3 _ rfl;have y4:=hc 4 _ rfl;have y5:=hc 5 _ rfl;have y6:=hc 6 _ rfl;have z0:=hc2 0 _ rfl;have z1:=hc2 1 _ rfl;have z2:=hc2 2 _ rfl;have z3:=hc2 3 _ rfl;have z4:=hc2 4 _ rfl;have z5:=hc2 5 _ rfl;have z6:=hc2 6 _ rfl;simp only[Nat.add_zero,Sh.kd,Sh.sz]at y0 y1 y2 y3 y4 y5 y6 z0 z1 z2 z3 z4 z5 z6;obtain⟨l1,hl1⟩:∃ l,l=kids.len:=⟨_,rfl⟩
      obtain⟨l2,hl2⟩:∃ l,l=kids2.len:=⟨_,rfl⟩
      obtain⟨l3,hl3⟩:∃ l,l=arms.len:=⟨_,rfl⟩
      obtain⟨l4,hl4⟩:∃ l,l=arms2.len:=⟨_,rfl⟩
      obtain⟨SS,hSS⟩:∃ S:ByteArray,S=⟨s.toArray⟩:=⟨_,rfl⟩
      obtain⟨SS2,hSS2⟩:∃ S:ByteArray,S=⟨s2.toArray⟩:=⟨_,rfl⟩
      rw[<- hSS]at y1;rw[<- hSS2]at z1;rw[<- hl1]at y6;rw[<- hl2]at z6;skip
      rw[<- hSS,<- hl1]at HC1;rw[<- hSS2,<- hl2]at HC2;rw[<- hl1,<- hl2]at HKK;have j1:(0:Int)<=(q:Int):=by omega
      have j2:(q:Int)<(xl:Int):=by omega
      have HLT:=hid hlt;have hob':ub<wx.heap.size:=hob.1;have hob2':ub2<wx.heap.size:=hob2.1;clear hc hc2 hk' hk2' ha' ha2' en en2 hd hd2 hfo hfo2 hl1 hl2 hl3 hl4 hSS hSS2 hdq hdq2 hdsz hdsz2 sx1 sy1 hex hex2 hob hob2 hF1 hF2;have Y0:=qa hob' y0;have Y1:=qa hob' y1;have Y2:=qa hob' y2;have Y3:=qa hob' y3;have Y4:=qa hob' y4;have Y5:=qa hob' y5;have Y6:=qa hob' y6;have Z0:=qa hob2' z0;have Z1:=qa hob2' z1;have Z2:=qa hob2' z2;have Z3:=qa hob2' z3;have Z4:=qa hob2' z4;have Z5:=qa hob2' z5;have Z6:=qa hob2' z6;go_wp2_with fail
      refine zk 12 (by kernel_rfl) (by kernel_rfl) ?_;simp only[List.take_succ_cons,List.take_zero,List.drop_succ_cons,List.drop_zero];repeat (go_big_quiet_step (first | exact (HC1.out _ (Abw.bel _)).mono fun e w h=>⟨h.1,⟨_,(Abw.bel _).on h.2⟩,rfl⟩ | exact (HC2.out _ (Abw.bel _)).mono fun e w h=>⟨h.1,⟨_,(Abw.bel _).on h.2⟩,rfl⟩))
      refine wpQuiet_nil ?_;rintro w7 ⟨⟨w7,hb7⟩,rfl⟩;have HB7:=hid hb7;clear hb7 HC1 HC2 y0 y1 y2 y3 y4 y5 y6 z0 z1 z2 z3 z4 z5 z6 Y0 Z0 Y1 Z1 Y2 Z2 Y3 Z3 Y4 Z4 Y5 Z5 Y6 Z6;have HLL:Hid (l1=F1.len/\l2=F2.len):=hid HKK.out.2;obtain⟨U1,hU1⟩:∃ U,U=A':=⟨_,rfl⟩
      obtain⟨U2,hU2⟩:∃ U,U=A2':=⟨_,rfl⟩
      obtain⟨C1,hC1⟩:∃ U,U=ca':=⟨_,rfl⟩
      obtain⟨C2,hC2⟩:∃ U,U=ca2':=⟨_,rfl⟩
      rw[<- hU1,<- hU2,<- hC1,<- hC2]at HKK;have HKK7:=hid (And.intro (zc HKK.out.1.1 HB7.out) (zc HKK.out.1.2 HB7.out));rw[<- hU1,<- hU2,<- hC1,<- hC2];clear hU1 hU2 hC1 hC2 HKK;have HRW7:=hid (qk HR2.out HB7.out);have HPI7:=hid (qdJ HP2.out HB7.out);have HI7:=hid (And.intro (zc HI2.out.1 HB7.out) (zc HI2.out.2 HB7.out));have hbl7:base<=w7.heap.size:=Nat.le_trans HBLX.out HB7.out.size;have hm2b:m2<=1000001:=by
       rw[HM2.out];have:=Jh S2;have:=HMQ.out;have:=HMB.out;omega
      by_cases h1:l1=0
      ·by_cases h2:l2=0
       ·subst h1 h2
        have HR8:Hid (r=(allP S2&&(xf.drp (q+1)).kidsSame (yf.drp (q+1)))):=hid (by
         rw[HF.out,Tr.len_nil F1 HLL.out.1.symm,Tr.len_nil F2 HLL.out.2.symm];simp[Tr.same])
        have HMS8:Hid (msP S2+(xf.drp (q+1)).size<=msP S+xf.size):=hid (by have:=HMQ.out;omega);have HBW8:=hid (HBW.out.on HB7.out);have HBL8:=hid hbl7;go_wp2_with fail
        go_roundw
        case rel=>exact⟨q+1,S2,A2,c2,m2,HLT.out,by go_num,rfl,HM2,HRW7,HPI7,HI7,HR8,HMS8,HBW8,HBL8⟩
        case measure=>have:=HLT.out;simp[intOf];omega
       ·subst h1
        have d2:decide ((0:Int)<(l2:Int))=true:=by simp;omega
        have d3:decide (0<l2)=true:=by simp;omega
        go_wp2_with (at_builtin;refine jj ?_)
        unfold zY;refine wpList_append_own_at _ rfl _ _ 180 rfl base 179 i0 (.agg #[.slice none 0 0,.slice none 0 0]) 2 48 Tryz.underlying180 hi0 hz0 hz1 hz2 rfl (by decide) (.slice A2 m2 c2) m2 _ rfl (HRW7.out.alloc _) ⟨w7.heap.size,0,none⟩ 1 1 [.slice U1 0 C1,.slice U2 l2 C2] rfl rfl (fun j u hu=>by rw[Addr.add_lit,Nat.zero_add];exact zm _ _ _ j u hu) (by simp[Value.oneCell']) (by unfold maxLen;omega) (by omega) (by simp;omega) ?_;intro v' w8 hown8 hg8 _ hat8;obtain⟨g8,c8,rfl,hrow8,hpi8,hki8,hbw8,hbl8⟩:=zN (w0:=w) (K:=⟨⟨U1,C1,F1⟩,⟨U2,C2,F2⟩⟩) HRW7.out HPI7.out (by rw[<- HLL.out.1];exact HKK7.out.1) (by rw[<- HLL.out.2];exact HKK7.out.2) ⟨HF1.out.2.2,HF1.out.2.1⟩ (by have h:=hown8;simp only[Pr.cells,It.val,<- HLL.out.1,<- HLL.out.2];exact h) hg8 hat8 (HBW.out.on HB7.out) (by rw[HBS.out];exact Nat.le_refl _) hbl7;have HRW8:=hid hrow8;have HPI8:=hid hpi8;have HII8:=hid (And.intro (hki8 _ _ _ _ HI7.out.1) (hki8 _ _ _ _ HI7.out.2));have HBW8:=hid hbw8;have HBL8:=hid hbl8;have HR8:Hid (r=(allP (⟨⟨U1,C1,F1⟩,⟨U2,C2,F2⟩⟩::S2)&&(xf.drp (q+1)).kidsSame (yf.drp (q+1)))):=hid (by
         rw[HF.out];simp only[allP,List.all_cons];cases F1.same F2 <;> cases S2.all (fun x=>x.a.f.same x.b.f) <;> simp)
        have HM8:Hid (m2+1=(⟨⟨U1,C1,F1⟩,⟨U2,C2,F2⟩⟩::S2:List Pr).length):=hid (by rw[HM2.out];rfl);have HMS8:Hid (msP (⟨⟨U1,C1,F1⟩,⟨U2,C2,F2⟩⟩::S2)+(xf.drp (q+1)).size<=msP S+xf.size):=hid (by have:=HMQ.out;simp only[msP];omega);clear hown8 hg8 hat8 hrow8 hpi8 hki8 hbw8 hbl8;go_wp2_with fail
        go_roundw
        case rel=>exact⟨q+1,_,_,c8,m2+1,HLT.out,by go_num,rfl,HM8,HRW8,HPI8,HII8,HR8,HMS8,HBW8,HBL8⟩
        case measure=>have:=HLT.out;simp[intOf];omega
      ·have d2:decide ((0:Int)<(l1:Int))=true:=by simp;omega
       have d3:decide (0<l1)=true:=by simp;omega
       go_wp2_with (at_builtin;refine jj ?_)
       unfold zY;refine wpList_append_own_at _ rfl _ _ 180 rfl base 179 i0 (.agg #[.slice none 0 0,.slice none 0 0]) 2 48 Tryz.underlying180 hi0 hz0 hz1 hz2 rfl (by decide) (.slice A2 m2 c2) m2 _ rfl (HRW7.out.alloc _) ⟨w7.heap.size,0,none⟩ 1 1 [.slice U1 l1 C1,.slice U2 l2 C2] rfl rfl (fun j u hu=>by rw[Addr.add_lit,Nat.zero_add];exact zm _ _ _ j u hu) (by simp[Value.oneCell']) (by unfold maxLen;omega) (by omega) (by simp;omega) ?_;intro v' w8 hown8 hg8 _ hat8;obtain⟨g8,c8,rfl,hrow8,hpi8,hki8,hbw8,hbl8⟩:=zN (w0:=w) (K:=⟨⟨U1,C1,F1⟩,⟨U2,C2,F2⟩⟩) HRW7.out HPI7.out (by rw[<- HLL.out.1];exact HKK7.out.1) (by rw[<- HLL.out.2];exact HKK7.out.2) ⟨HF1.out.2.2,HF1.out.2.1⟩ (by have h:=hown8;simp only[Pr.cells,It.val,<- HLL.out.1,<- HLL.out.2];exact h) hg8 hat8 (HBW.out.on HB7.out) (by rw[HBS.out];exact Nat.le_refl _) hbl7;have HRW8:=hid hrow8;have HPI8:=hid hpi8;have HII8:=hid (And.intro (hki8 _ _ _ _ HI7.out.1) (hki8 _ _ _ _ HI7.out.2));have HBW8:=hid hbw8;have HBL8:=hid hbl8;have HR8:Hid (r=(allP (⟨⟨U1,C1,F1⟩,⟨U2,C2,F2⟩⟩::S2)&&(xf.drp (q+1)).kidsSame (yf.drp (q+1)))):=hid (by
        rw[HF.out];simp only[allP,List.all_cons];cases F1.same F2 <;> cases S2.all (fun x=>x.a.f.same x.b.f) <;> simp)
       have HM8:Hid (m2+1=(⟨⟨U1,C1,F1⟩,⟨U2,C2,F2⟩⟩::S2:List Pr).length):=hid (by rw[HM2.out];rfl);have HMS8:Hid (msP (⟨⟨U1,C1,F1⟩,⟨U2,C2,F2⟩⟩::S2)+(xf.drp (q+1)).size<=msP S+xf.size):=hid (by have:=HMQ.out;simp only[msP];omega);clear hown8 hg8 hat8 hrow8 hpi8 hki8 hbw8 hbl8;go_wp2_with fail
       go_roundw
       case rel=>exact⟨q+1,_,_,c8,m2+1,HLT.out,by go_num,rfl,HM8,HRW8,HPI8,HII8,HR8,HMS8,HBW8,HBL8⟩
       case measure=>have:=HLT.out;simp[intOf];omega
     ·obtain rfl:q=xl:=by omega
      have HRE:Hid (r=allP S2):=hid (by rw[HRR.out,Tr.drp_end xf q (by rw[<- HXL.out];exact Nat.le_refl _),Tr.drp_end yf q (by rw[<- HYL.out];exact Nat.le_refl _)];simp[Tr.kidsSame]);have HMS2:Hid (msP S2<=1000001):=hid (by have:=HMM2.out;have:=HMB.out;omega);go_wp2_with fail
      go_roundg (msP S2)
      case rel=>exact⟨S2,A2,c2,m2,rfl,HM2,hid rfl,HMS2,HR2,HP2,HRE,HBW,HBLX⟩
      case measure=>
       rw[HGK.out];have:=HMM2.out;simp only[msP];omega
end Go.Proofs.YtlmmaoobembadaaGreatDoor.Mu
