import Derived.RangeFuncNested
import Derived.RangeFuncBound
import Derived.RangeFuncCalls
import Derived.RangeFuncLeaves
import Derived.RangeFuncBox
import Derived.Test.YtfpoelklhekfaaaGreatDoorQaa
namespace Go.Proofs.YtfpoelklhekfaaaGreatDoor.Mu
open Go Go.RowKit
structure Mv (Z:Nat->Prop) (W W':World):Prop where
 os:W'.os=W.os
 tape:W'.tape=W.tape
 output:W'.output=W.output
 size:W.heap.size<=W'.heap.size
 block:∀ k,k<W.heap.size->¬ Z k->W'.heap[k]?=W.heap[k]?
section
variable {Z Z' : Nat -> Prop} {A B C : World}
theorem Mv.refl(Z:Nat->Prop)(W:World):Mv Z W W:=⟨rfl,rfl,rfl,Nat.le_refl _,fun _ _ _=>rfl⟩
theorem Mv.more(h:Mv Z A B)(hz:∀ k,k<A.heap.size->Z k->Z' k):Mv Z' A B:=⟨h.os,h.tape,h.output,h.size,fun k hk hn=>h.block k hk (fun hz'=>hn (hz k hk hz'))⟩
theorem Mv.trans(h:Mv Z A B)(k:Mv Z' B C)(hz:∀ j,Z' j->Z j∨A.heap.size<=j):Mv Z A C:=
 ⟨k.os.trans h.os,k.tape.trans h.tape,k.output.trans h.output,Nat.le_trans h.size k.size,fun j hj hn=>
  (k.block j (Nat.lt_of_lt_of_le hj h.size) (fun hz'=>by rcases hz j hz' with e | e;exact hn e;omega)).trans (h.block j hj hn)⟩
theorem Mv.bel(h:Mv (fun _=>False) A B):Bel A B:=⟨h.os,h.tape,h.output,h.size,fun k hk=>h.block k hk (fun f=>f)⟩
theorem Mv.of_bel(h:Bel A B):Mv Z A B:=⟨h.os,h.tape,h.output,h.size,fun k hk _=>h.block k hk⟩
theorem Mv.alloc(h:Mv Z A B)(o:Obj):Mv Z A (B.alloc o):=h.trans (Z':=fun _=>False) (.of_bel ((Bel.refl B).alloc o)) (fun _ f=>f.elim)
theorem Mv.set_(h:Mv Z A B){p:Addr}(hp:Z p.block∨A.heap.size<=p.block)(v:Value):Mv Z A (B.setCell p v):=
 ⟨h.os,h.tape,h.output,by have:=h.size;simpa [World.setCell] using this,fun k hk hn=>(Below.heap_setCell B p v k (by
  rintro rfl;rcases hp with hp | hp
  ·exact hn hp
  ·omega)).trans (h.block k hk hn)⟩
theorem Mv.putObj(h:Mv Z A B){l:Nat}(hp:Z l∨A.heap.size<=l)(o:Obj):Mv Z A (B.putObj l o):=
 ⟨h.os,h.tape,h.output,by have:=h.size;simpa using this,fun k hk hn=>(World.putObj_heap_other (by
  rintro rfl;rcases hp with hp | hp
  ·exact hn hp
  ·omega)).trans (h.block k hk hn)⟩
theorem Mv.grown(h:Mv Z A B){row:Option Nat}(hg:B.grownBy C row)(hr:∀ k,row=some k->Z k∨A.heap.size<=k):Mv Z A C:=
 ⟨hg.os.trans h.os,hg.tape.trans h.tape,hg.output.trans h.output,Nat.le_trans h.size hg.size,fun k hk hn=>
  (hg.block k (Nat.lt_of_lt_of_le hk h.size) (fun e=>by
   rcases hr k e.symm with e | e
   ·exact hn e
   ·omega)).trans (h.block k hk hn)⟩
theorem Mv.drew(h:Mv Z A B):Mv Z A B.drew:=⟨h.os,h.tape,h.output,h.size,h.block⟩
theorem Mv.drewN(h:Mv Z A B)(n:Nat):Mv Z A (B.drewN n):=⟨h.os,h.tape,h.output,h.size,h.block⟩
end
def Zv{α:Type}(J:α->(Nat->Prop)->World->Prop):Prop:=∀ s Y W W',J s Y W->W.heap.size<=W'.heap.size->(∀ k,Y k->W'.heap[k]?=W.heap[k]?)->J s Y W'
def SeqL{α:Type}(P:Program)(g:Nat)(lb:Array Value)(encs:α->Array Value)(Ok:(Nat->Prop)->World->Prop)(Pre:List α->α->(Nat->Prop)->World->Prop)(Fin:List α->Prop):Prop:=
 ∀ (l:Nat) (J Jx:List α->(Nat->Prop)->World->Prop) (Y:Nat->Prop) (W:World),Ok Y W->(∀ k,Y k->k<W.heap.size)->Zv J->Zv Jx →
  (∀ pre x Y1 W1,Pre pre x Y1 W1->Mv Y W W1->J pre Y1 W1->(∀ k,Y1 k->k<W1.heap.size)->YieldAt Fence.wide 5 P l (encs x) W1 fun e W'=>
   Mv Y1 W1 W'/\∃ Y',(∀ k,Y' k->k<W'.heap.size/\(Y1 k∨W1.heap.size<=k))/\((e=.returned (.bool true)/\J (pre++[x]) Y' W')∨(e=.returned (.bool false)/\Jx (pre++[x]) Y' W'))) →
  J [] Y W →
  Calls P g (#[.func (.yield l) #[] #[]]++lb) W fun e W'=>(∃ v,e=.returned v)/\Mv Y W W'/\∃ xs Y',(∀ k,Y' k->k<W'.heap.size/\(Y k∨W.heap.size<=k))/\((Fin xs/\J xs Y' W')∨Jx xs Y' W')
section
variable {P : Program}
def qcA(R Rx:World->Prop):Exit->Act->World->Prop
 | .normal,_,W'=>R W'
 | .ret,_,W'=>Rx W'
 | _,_,_=>False
def mkM(D:Nat):Deferred:={ target:= .collected D,args:=#[] }
theorem zg{α:Type}{g:Operand}{ps:Array Tmp}{assign body:Code}{Q:Exit->Act->World->Prop}{a:Act}{w:World}
  {gf:Nat} {lb:Array Value} (hg:a.eval g=.func (.func gf) #[] lb) (eg:∀ args w,(callFunc gf args).run P w=.ok (.enter gf args) w)
  {encs:α->Array Value} {Ok:(Nat->Prop)->World->Prop} {Pre:List α->α->(Nat->Prop)->World->Prop} {Fin:List α->Prop} (hseq:SeqL P gf lb encs Ok Pre Fin) (hps:∀ x,(encs x).size=ps.size)
  (hPre:∀ pre x Y W W',Pre pre x Y W->W.heap.size<=W'.heap.size->(∀ j,j<W.heap.size->¬ Y j->W'.heap[j]?=W.heap[j]?)->Pre pre x Y W')
  (I Ix:List α->(Nat->Prop)->World->Prop) (hI:Zv I) (hIx:Zv Ix) {Y0:Nat->Prop} (hok:∀ Y W,Bel w W->(∀ k,Y k->Y0 k∨w.heap.size<=k)->Ok Y W) (hY0:∀ k,Y0 k->k<w.heap.size) (h0:I [] Y0 w) (a₁:α->Nat->Act) (ob:α->Obj)
  (hassign:∀ (l:Nat) (x:α) (W:World) (K:Act->World->Prop),K (a₁ x W.heap.size) (W.alloc (ob x))->assign.wpIn (Fence.wide.inRound l) 5 P (Exit.then K (fun _ _ _=>False)) { tmps:=(ps.zip (encs x)).foldl (fun t (p,v)=>t.setIfInBounds p v) a.tmps,defers:=[] } W)
  (hbody:∀ (l bx:Nat) (pre:List α) (x:α) (Y:Nat->Prop) (W:World),w.heap.size<=bx->bx<W.heap.size->W.heap[bx]?=some (ob x)->¬ Y bx->(∃ Y',(∀ k,Y k->Y' k)/\Pre pre x Y' W)->Mv Y0 w W->¬ Y l->I pre Y W->(∀ k,Y k->k<W.heap.size) →
   body.wpIn (Fence.wide.inRound l) 5 P (qcA (fun W'=>Mv Y W W'/\∃ Y',I (pre++[x]) Y' W'/\∀ k,Y' k->k<W'.heap.size/\(Y k∨W.heap.size<=k)) (fun W'=>Mv Y W W'/\∃ Y',Ix (pre++[x]) Y' W'/\∀ k,Y' k->k<W'.heap.size/\(Y k∨W.heap.size<=k))) (a₁ x bx) W)
  (hdone:∀ (D:Nat) (xs:List α) (Y:Nat->Prop) (W:World),w.heap.size<=D->Fin xs->I xs Y W->Mv Y0 w W->(∀ k,Y k->k<W.heap.size/\(Y0 k∨w.heap.size<=k))->W.heap[D]?=some (.deferred (some []))->¬ Y D->Q .normal { a with defers:=mkM D::a.defers } W)
  (hstop:∀ (D:Nat) (xs:List α) (Y:Nat->Prop) (W:World),w.heap.size<=D->Ix xs Y W->Mv Y0 w W->(∀ k,Y k->k<W.heap.size/\(Y0 k∨w.heap.size<=k))->W.heap[D]?=some (.deferred (some []))->¬ Y D->Q .ret { a with defers:=mkM D::a.defers } W) :
  (Code.rangeFunc g ps assign body).wpIn Fence.wide 6 P Q a w:=by
 refine wpIn_rangeFunc ?_;intro fn hfn;obtain⟨l,hl⟩:∃ l,l=w.heap.size+1:=⟨_,rfl⟩
 obtain⟨D,hD⟩:∃ D,D=w.heap.size:=⟨_,rfl⟩
 obtain⟨rec,hrec⟩:∃ rec:LoopState->Option Code->Loop,rec=fun st pe=>{ state:=st,pending:=pe,fn,tmps:=a.tmps,params:=ps,assign,body,defers:=w.heap.size }:=⟨_,rfl⟩
 obtain⟨V,hV⟩:∃ V,(w.alloc (.deferred (some []))).alloc (.loop (rec .ready none))=V:=⟨_,rfl⟩
 have hL':V.heap[l]?=some (.loop (rec .ready none)):=by
  rw[<- hV,hl];have:=World.alloc_heap_new (w.alloc (.deferred (some []))) (.loop (rec .ready none));rwa [World.size_alloc]at this
 have hD':V.heap[D]?=some (.deferred (some [])):=by
  rw[<- hV,hD];exact (Below.heap_alloc _ _ _ (by simp)).trans (World.alloc_heap_new w _)
 have hb:Bel w V:=by rw[<- hV];exact ((Bel.refl w).alloc _).alloc _
 have hDl:D≠l:=by omega
 obtain⟨J,hJ⟩:∃ J:List α->(Nat->Prop)->World->Prop,J=fun pre Y W=>∃ Z:Nat->Prop,(∀ k,Y k↔(Z k∨k=l∨k=D))/\(∀ k,Z k->k≠l/\k≠D)/\I pre Z W/\W.heap[l]?=some (.loop (rec .ready none))/\W.heap[D]?=some (.deferred (some [])):=⟨_,rfl⟩
 obtain⟨Jx,hJx⟩:∃ J:List α->(Nat->Prop)->World->Prop,J=fun pre Y W=>∃ Z:Nat->Prop,(∀ k,Y k↔(Z k∨k=l∨k=D))/\(∀ k,Z k->k≠l/\k≠D)/\Ix pre Z W/\W.heap[l]?=some (.loop (rec .done (some .ret)))/\W.heap[D]?=some (.deferred (some [])):=⟨_,rfl⟩
 refine⟨l,[mkM D],V,{ target:= .fn (.func gf) lb,args:=#[.func (.yield l) #[] #[]] },V,gf,#[.func (.yield l) #[] #[]]++lb,V,?_,?_,?_,?_,(fun h=>by cases h),?_⟩
 ·rw[<- hV,hrec,hl,hD];exact run_enterLoop_outer _ _ _ _ _
 ·simp only[resolve,hg]
  simp[go_sem]
 ·intro f' hf';exact trivial
 ·simp[invoke,go_sem,eg]
 ·have hlV:l<V.heap.size:=(Array.getElem?_eq_some_iff.1 hL').1
  have hDV:D<V.heap.size:=(Array.getElem?_eq_some_iff.1 hD').1;refine callsIn_wide.2 ((hseq l J Jx (fun k=>Y0 k∨k=l∨k=D) V (hok _ _ hb ?_) ?_ ?_ ?_ ?_ ?_).mono ?_)
  ·rintro k (h | h | h)
   ·exact .inl h
   ·exact .inr (by omega)
   ·exact .inr (by omega)
  ·rintro k (h | rfl | rfl)
   ·exact Nat.lt_of_lt_of_le (hY0 k h) hb.size
   ·exact hlV
   ·exact hDV
  ·rw[hJ]
   rintro s Y A B ⟨Z,z1,z2,z3,z4,z5⟩ hsz hk;exact⟨Z,z1,z2,hI s Z A B z3 hsz (fun k hz=>hk k ((z1 k).2 (.inl hz))),(hk l ((z1 l).2 (.inr (.inl rfl)))).trans z4,(hk D ((z1 D).2 (.inr (.inr rfl)))).trans z5⟩
  ·rw[hJx]
   rintro s Y A B ⟨Z,z1,z2,z3,z4,z5⟩ hsz hk;exact⟨Z,z1,z2,hIx s Z A B z3 hsz (fun k hz=>hk k ((z1 k).2 (.inl hz))),(hk l ((z1 l).2 (.inr (.inl rfl)))).trans z4,(hk D ((z1 D).2 (.inr (.inr rfl)))).trans z5⟩
  · --one round
   rw[hJ,hJx];rintro pre x Y W hp hmv0 ⟨Z,z1,z2,z3,z4,z5⟩ hYs;have hlt:l<W.heap.size:=(Array.getElem?_eq_some_iff.1 z4).1;have hDt:D<W.heap.size:=(Array.getElem?_eq_some_iff.1 z5).1;have hy:=run_yield (P:=P) (args:=encs x) z4 (by rw[hrec];exact hps x);rw[hrec]at hy;refine⟨fn,_,assign,body,hy,roundIn_of_wpIn hfn (hassign _ x W _ ?_)⟩;clear hy;obtain⟨Wo,hWo⟩:∃ Wo,Wo=W:=⟨_,rfl⟩
   rw[<- hWo]at hp hmv0 z3 z4 z5 hYs hlt hDt ⊢;clear hWo;clear W;obtain⟨W,hW⟩:∃ W,W=Wo.alloc (ob x):=⟨_,rfl⟩
   rw[<- hW];have bo:Bel Wo W:=by rw[hW];exact (Bel.refl Wo).alloc _
   have so:W.heap.size=Wo.heap.size+1:=by rw[hW];simp
   have z3':I pre Z W:=hI _ _ _ _ z3 bo.size (fun k hz=>bo.block k (hYs k ((z1 k).2 (.inl hz))));have z4':=(bo.block l hlt).trans z4;have z5':=(bo.block D hDt).trans z5;have zb:W.heap[Wo.heap.size]?=some (ob x):=by rw[hW];exact World.alloc_heap_new Wo _
   have hYb:∀ k,Y k->k<Wo.heap.size:=hYs;have hp':Pre pre x Y W:=hPre _ _ _ _ _ hp bo.size (fun j hj _=>bo.block j hj);obtain⟨bx,hbx⟩:∃ bx,bx=Wo.heap.size:=⟨_,rfl⟩
   rw[<- hbx]at hYb so zb ⊢;have hYs':∀ k,Y k->k<W.heap.size:=fun k hk=>by have:=hYb k hk;omega
   clear hp z3 z4 z5 hYs hlt hDt;have hlt:l<W.heap.size:=(Array.getElem?_eq_some_iff.1 z4').1;have hDt:D<W.heap.size:=(Array.getElem?_eq_some_iff.1 z5').1;refine⟨_,run_beginRound z4' (by rw[hrec]),?_⟩;obtain⟨W2,hW2⟩:∃ W2,W2=W.putObj l (.loop { rec .ready none with state:= .busy }):=⟨_,rfl⟩
   rw[<- hW2];have l2:W2.heap[l]?=some (.loop { rec .ready none with state:= .busy }):=by rw[hW2];exact World.putObj_heap_same hlt
   have s2:W2.heap.size=W.heap.size:=by rw[hW2];simp
   have o2:∀ k,k≠l->W2.heap[k]?=W.heap[k]?:=fun k hk=>by rw[hW2];exact World.putObj_heap_other hk
   have hm2:Mv Y0 w W2:=by
    have m1:Mv Y0 w V:= .of_bel hb;have m2:Mv Y0 w Wo:=m1.trans hmv0 (fun k hk=>by
     rcases hk with h | h | h
     ·exact .inl h
     ·exact .inr (by omega)
     ·exact .inr (by omega))
    have m3:Mv Y0 w W:=m2.trans (Mv.of_bel (Z:=fun _=>False) bo) (fun _ h=>h.elim);rw[hW2];exact m3.putObj (.inr (by omega)) _
   refine wpIn_mono (hbody l bx pre x Z W2 (by have:=hYb l ((z1 l).2 (.inr (.inl rfl)));omega) (by rw[s2];omega) ((o2 bx (by have:=hYb l ((z1 l).2 (.inr (.inl rfl)));omega)).trans zb) (fun hz=>by have:=hYb bx ((z1 bx).2 (.inl hz));omega) ⟨Y,fun k hk=>(z1 k).2 (.inl hk),hPre _ _ _ _ _ hp' (by omega) (fun j hj hn=>o2 j (fun e=>hn ((z1 j).2 (.inr (.inl e)))))⟩ hm2 (fun hz=>(z2 l hz).1 rfl) (hI _ _ _ _ z3' (by omega) (fun k hz=>o2 k (z2 k hz).1)) (fun k hz=>by rw[s2];exact hYs' k ((z1 k).2 (.inl hz)))) ?_;have fin:∀ (jump:Option Code) (st:LoopState) (W3:World) (Y':Nat->Prop),st=(if jump.isNone then .ready else .done)->Mv Z W2 W3->(∀ k,Y' k->k<W3.heap.size/\(Z k∨W2.heap.size<=k))->∃ W4,(Instr.endRound l jump).run P W3=.ok (.bool jump.isNone) W4/\Mv Y Wo W4/\W3.heap.size<=W4.heap.size/\(∀ k,k≠l->W4.heap[k]?=W3.heap[k]?)/\W4.heap[l]?=some (.loop (rec st jump))/\W4.heap[D]?=some (.deferred (some []))/\(∀ k,Y' k->k≠l/\k≠D)/\∀ k,(Y' k∨k=l∨k=D)->k<W4.heap.size/\(Y k∨bx<=k):=by
    intro jump st W3 Y' hst hmv hy3;have l3:W3.heap[l]?=some (.loop { rec .ready none with state:= .busy }):=(hmv.block l (by omega) (fun hz=>(z2 l hz).1 rfl)).trans l2;have d3:W3.heap[D]?=some (.deferred (some [])):=(hmv.block D (by omega) (fun hz=>(z2 D hz).2 rfl)).trans ((o2 D hDl).trans z5');have hr:=run_endRound (P:=P) jump l3;rw[hrec]at hr;have hl3:l<W3.heap.size:=(Array.getElem?_eq_some_iff.1 l3).1;have hd3:D<W3.heap.size:=(Array.getElem?_eq_some_iff.1 d3).1;have hnl:∀ k,Y' k->k≠l/\k≠D:=fun k hk=>by
     rcases (hy3 k hk).2 with h | h
     ·exact z2 k h
     ·exact⟨by omega,by omega⟩
    refine⟨W3.putObj l (.loop (rec st jump)),by rw[hrec,hst];exact hr,?_,by simp,fun k hk=>World.putObj_heap_other hk,World.putObj_heap_same hl3,(World.putObj_heap_other hDl).trans d3,hnl,?_⟩
    ·have m1:Mv Y Wo W2:=by rw[hW2];exact (Mv.of_bel (Z:=Y) bo).putObj (.inl ((z1 l).2 (.inr (.inl rfl)))) _
     have m2:Mv Y Wo W3:=m1.trans hmv (fun k hz=> .inl ((z1 k).2 (.inl hz)));exact m2.putObj (.inl ((z1 l).2 (.inr (.inl rfl)))) _
    ·rintro k (h | rfl | rfl)
     ·obtain⟨q1,q2⟩:=hy3 k h
      exact⟨by simpa using q1,q2.imp (fun hz=>(z1 k).2 (.inl hz)) (fun hz=>by omega)⟩
     ·exact⟨by simpa using hl3,.inl ((z1 _).2 (.inr (.inl rfl)))⟩
     ·exact⟨by simpa using hd3,.inl ((z1 _).2 (.inr (.inr rfl)))⟩
   rintro e a3 W3 hp3;cases e with
   | normal=>
    obtain⟨hmv,Y',hi3,hy3⟩:=hp3;obtain⟨W4,q1,q2,q3,q4,q5,q6,q7,q8⟩:=fin none .ready W3 Y' rfl hmv hy3;exact⟨.bool true,W4,q1,q2,fun k=>Y' k∨k=l∨k=D,q8,.inl ⟨rfl,Y',fun k=>Iff.rfl,q7,hI _ _ _ _ hi3 q3 (fun k hk=>q4 k (q7 k hk).1),q5,q6⟩⟩
   | ret=>
    obtain⟨hmv,Y',hi3,hy3⟩:=hp3;obtain⟨W4,q1,q2,q3,q4,q5,q6,q7,q8⟩:=fin (some .ret) .done W3 Y' rfl hmv hy3;exact⟨.bool false,W4,q1,q2,fun k=>Y' k∨k=l∨k=D,q8,.inr ⟨rfl,Y',fun k=>Iff.rfl,q7,hIx _ _ _ _ hi3 q3 (fun k hk=>q4 k (q7 k hk).1),q5,q6⟩⟩
   | exit id=>exact hp3.elim
   | goto t=>exact hp3.elim
   | panic ch=>exact hp3.elim
   | outgrown=>exact hp3.elim
  ·rw[hJ]
   exact⟨Y0,fun k=>Iff.rfl,fun k hk=>⟨fun e=>by have:=hY0 k hk;omega,fun e=>by have:=hY0 k hk;omega⟩,hI _ _ _ _ h0 hb.size (fun k hk=>hb.block k (hY0 k hk)),hL',hD'⟩
  · --behind the iterator
   rw[hJ,hJx];have m0:∀ W2 o,Mv (fun k=>Y0 k∨k=l∨k=D) V W2->Mv Y0 w (W2.putObj l o):=fun W2 o hmv=>by
    refine Mv.putObj ?_ (.inr (by omega)) _;have m1:Mv Y0 w V:= .of_bel hb;refine m1.trans hmv (fun k hk=>?_);rcases hk with h | h | h
    ·exact .inl h
    ·exact .inr (by omega)
    ·exact .inr (by omega)
   have y0:∀ (W2:World) o (Y' Z:Nat->Prop),(∀ k,Y' k->k<W2.heap.size/\((Y0 k∨k=l∨k=D)∨V.heap.size<=k))->(∀ k,Y' k↔(Z k∨k=l∨k=D))->(∀ k,Z k->k≠l/\k≠D)->∀ k,Z k->k<(W2.putObj l o).heap.size/\(Y0 k∨w.heap.size<=k):=fun W2 o Y' Z hY' z1 z2 k hz=>by
    obtain⟨q1,q2⟩:=hY' k ((z1 k).2 (.inl hz));refine⟨by simpa using q1,?_⟩;rcases q2 with (h | h | h) | h
    ·exact .inl h
    ·exact absurd h (z2 k hz).1
    ·exact absurd h (z2 k hz).2
    ·exact .inr (Nat.le_trans hb.size h)
   rintro e W2 ⟨⟨v,rfl⟩,hmv,xs,Y',hY',⟨hs,Z,z1,z2,z3,z4,z5⟩ | ⟨Z,z1,z2,z3,z4,z5⟩⟩
   ·have hr:=run_endLoop (P:=P) z4 (by rw[hrec];simp)
    rw[hrec]at hr;exact⟨none,_,hr,hdone D xs Z _ (by omega) hs (hI _ _ _ _ z3 (by simp) (fun k hz=>World.putObj_heap_other (z2 k hz).1)) (m0 _ _ hmv) (y0 _ _ _ _ hY' z1 z2) ((World.putObj_heap_other hDl).trans z5) (fun hz=>(z2 D hz).2 rfl)⟩
   ·have hr:=run_endLoop (P:=P) z4 (by rw[hrec];simp)
    rw[hrec]at hr;refine⟨some .ret,_,hr,?_⟩;exact wpIn_ret (hstop D xs Z _ (by omega) (hIx _ _ _ _ z3 (by simp) (fun k hz=>World.putObj_heap_other (z2 k hz).1)) (m0 _ _ hmv) (y0 _ _ _ _ hY' z1 z2) ((World.putObj_heap_other hDl).trans z5) (fun hz=>(z2 D hz).2 rfl))
end
theorem qw{F:Fence}{n:Nat}{P:Program}{fn:Func}{tmps:Array Value}{R:Ending->World->Prop}{D:Nat}{w:World}(hD:w.heap[D]?=some (.deferred (some [])))
  (h:∀ w',Mv (fun k=>k=D) w w'->LeavesInM F n P fn tmps R [] .returning w'):LeavesInM F n P fn tmps R [mkM D] .returning w:=
 ⟨by simp,.inl ⟨D,_,rfl,run_takeDeferred hD,h _ (Mv.putObj (Z:=fun k=>k=D) (Mv.refl _ w) (.inl rfl) _)⟩⟩
end Go.Proofs.YtfpoelklhekfaaaGreatDoor.Mu
