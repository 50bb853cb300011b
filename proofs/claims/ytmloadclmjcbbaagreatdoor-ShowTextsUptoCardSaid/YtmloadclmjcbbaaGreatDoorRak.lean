import Derived.Test.YtmloadclmjcbbaaGreatDoorRaj
open Go.Lib (hid)
namespace Go.Proofs.YtmloadclmjcbbaaGreatDoor.Mu
set_option maxHeartbeats 8000000
open Go Go.RowKit Go.Shelf
attribute [local go_sem] Oper.semAt_some
set_option linter.unusedVariables false
set_option maxRecDepth 100000
abbrev j8:= "write.go:116"
abbrev Jv:= "write.go:119"
abbrev Zs:= "write.go:121"
def regWl:List Oper:=[
 ⟨some 11,.move (.tmp 0),63,j8,#[],none⟩,
 ⟨some 12,.call ⟨.value (.func 44),#[.const (Value.string { data:=#[92] })],#[9]⟩,85,j8,#[],none⟩,
 ⟨some 13,.fieldAddr 28 (.tmp 3) 1,0,j8,#[],none⟩,
 ⟨some 14,.load 9 (.tmp 13),9,j8,#[⟨2,.data⟩],none⟩,
 ⟨some 15,.call ⟨.value (.func 41),#[.tmp 14],#[9]⟩,85,j8,#[⟨3,.data⟩,⟨1,.chain⟩],none⟩,
 ⟨some 16,.call ⟨.value (.func 44),#[.const (Value.string { data:=#[45,62] })],#[9]⟩,85,j8,#[⟨4,.chain⟩],none⟩,
 ⟨some 17,.buildSlice 64 3 #[(0,.tmp 12),(1,.tmp 15),(2,.tmp 16)],64,j8,#[⟨1,.data⟩,⟨4,.data⟩,⟨5,.data⟩],none⟩,
 ⟨some 18,.call ⟨.value (.func 43),#[.tmp 11,.tmp 17],#[63,64]⟩,0,j8,#[⟨0,.data⟩,⟨6,.data⟩,⟨5,.chain⟩],none⟩]
theorem qfH{id:Nat}(wp bx:Nat)(k:Int)(SS:BA)(n:Int)(p:Pl)(A:OA)(kl c:Nat)(B:OA)(al bc:Nat)(a0:Act)(w:World)(hx:w.drew.heap[bx]?=some (.cells #[.int .u8 k,SS,n,p.a,p.l,p.c,.slice A kl c,.slice B al bc] 28 (0,0)))(Q:Exit->Act->World->Prop)
  (hend:∀ (V:Nat->Value) (w':World),Bel w.drew w'->((V 0)=.pointer (some ⟨wp,0,none⟩))->(∃ g,(V 6)=.slice (some ⟨g,0,none⟩) 3 3/\w'.heap[g]?=some (.cells #[.int .u8 5,.string ⟨#[92]⟩,(0:Int),(0:Int),(0:Int),(0:Int),.int .u8 1,SS,(0:Int),(0:Int),(0:Int),(0:Int),.int .u8 5,.string ⟨#[45,62]⟩,(0:Int),(0:Int),(0:Int),(0:Int)] 85 (0,0)))->wpList Tryz.prog regWl.toArray Q (regWl.drop 7) (finP regWl 7 V a0) w') (hN:a0.tmps.size=65:=by kernel_rfl) (hp0:a0.eval (.tmp 0)=.pointer (some ⟨wp,0,none⟩):=by kernel_rfl) (hp3:a0.eval (.tmp 3)=.pointer (some ⟨bx,0,none⟩):=by kernel_rfl) :
  (Code.region id regWl.toArray true).wp Tryz.prog Q a0 w:=by
 refine qW 7 65 a0 w (fun i v w=>match i with
  | 0=>v=.pointer (some ⟨wp,0,none⟩)
  | 1=>v=.agg #[.int .u8 5,.string ⟨#[92]⟩,(0:Int),(0:Int),(0:Int),(0:Int)]
  | 2=>v=.pointer (some ⟨bx,1,none⟩)
  | 3=>v=.string SS
  | 4=>v=.agg #[.int .u8 1,SS,(0:Int),(0:Int),(0:Int),(0:Int)]
  | 5=>v=.agg #[.int .u8 5,.string ⟨#[45,62]⟩,(0:Int),(0:Int),(0:Int),(0:Int)]
  | 6=>∃ g,v=.slice (some ⟨g,0,none⟩) 3 3/\w.heap[g]?=some (.cells #[.int .u8 5,.string ⟨#[92]⟩,(0:Int),(0:Int),(0:Int),(0:Int),.int .u8 1,SS,(0:Int),(0:Int),(0:Int),(0:Int),.int .u8 5,.string ⟨#[45,62]⟩,(0:Int),(0:Int),(0:Int),(0:Int)] 85 (0,0))
  | _=>True) (by kernel_rfl) (by kernel_rfl) hN (by
   intro i v w w' hi h hb
   match i,hi,h with
   | 6,_,h=>obtain⟨g,e,hc⟩:=h;exact⟨g,e,hb.blk hc⟩
   | 0,_,h | 1,_,h | 2,_,h | 3,_,h | 4,_,h | 5,_,h=>exact h
   | q+7,hi,_=>exact absurd hi (by omega)) ?_ ?_
 ·intro i' o hi' ho a w1 V hbel hd hpar K hK
  have p0':=dP (hpar 0 (by kernel_rfl)) hp0;have p3':=dP (hpar 3 (by kernel_rfl)) hp3;obtain⟨q0,q1,q2,q3,q4,q5,q6,q7⟩:=box8 (hbel.blk hx)
  match i',hi',ho,hd,hK with
  | 0,_,ho,hd,hK=>cases ho;exact oW hK rfl rfl (by simp[execOp,go_sem,p0'])
  | 1,_,ho,hd,hK=>cases ho;exact oK hK rfl (qf ⟨#[92]⟩ w1) (fun _=>rfl) (by simp[go_sem])
  | 2,_,ho,hd,hK=>cases ho;exact oW hK rfl rfl (by simp[execOp,go_sem,p3'])
  | 3,_,ho,hd,hK=>cases ho;exact oW hK rfl rfl (by simp[execOp,go_sem,dE (hd 2 13 rfl),q1])
  | 4,_,ho,hd,hK=>cases ho;exact oK hK rfl (zK SS w1) (fun _=>rfl) (by simp[go_sem,dE (hd 3 14 rfl)])
  | 5,_,ho,hd,hK=>cases ho;exact oK hK rfl (qf ⟨#[45,62]⟩ w1) (fun _=>rfl) (by simp[go_sem])
  | 6,_,ho,hd,hK=>cases ho;refine oN rfl ?_;exact qX (v:= .slice (some ⟨w1.heap.size,0,none⟩) 3 3) (w':=w1.alloc (.cells #[.int .u8 5,.string ⟨#[92]⟩,(0:Int),(0:Int),(0:Int),(0:Int),.int .u8 1,SS,(0:Int),(0:Int),(0:Int),(0:Int),.int .u8 5,.string ⟨#[45,62]⟩,(0:Int),(0:Int),(0:Int),(0:Int)] 85)) (by simp[execOp,go_sem,dE (hd 1 12 rfl),dE (hd 4 15 rfl),dE (hd 5 16 rfl)]) (hK _ _ ((Bel.refl w1).alloc _) ⟨w1.heap.size,rfl,blk1 w1 _⟩)
  | q+7,hi,_,_,_=>exact absurd hi (by omega)
 ·intro V w' hb hF
  exact hend V w' hb (hF 0 (by omega)) (hF 6 (by omega))
def regWb:List Oper:=[
 ⟨some 27,.move (.tmp 0),63,Jv,#[],none⟩,
 ⟨some 28,.load 28 (.tmp 3),28,Jv,#[],none⟩,
 ⟨some 29,.call ⟨.value (.func 44),#[.const (Value.string { data:=#[108,101,116] })],#[9]⟩,85,Jv,#[],none⟩,
 ⟨some 30,.buildSlice 64 1 #[(0,.tmp 29)],64,Jv,#[⟨2,.data⟩],none⟩,
 ⟨some 31,.call ⟨.value (.func 66),#[.tmp 27,.tmp 28,.tmp 30],#[63,28,64]⟩,0,Jv,#[⟨0,.data⟩,⟨1,.data⟩,⟨3,.data⟩,⟨2,.chain⟩],none⟩]
theorem qfE{id:Nat}(wp bx:Nat)(k:Int)(SS:BA)(n:Int)(p:Pl)(A:OA)(kl c:Nat)(B:OA)(al bc:Nat)(a0:Act)(w:World)(hx:w.drew.heap[bx]?=some (.cells #[.int .u8 k,SS,n,p.a,p.l,p.c,.slice A kl c,.slice B al bc] 28 (0,0)))(Q:Exit->Act->World->Prop)
  (hend:∀ (V:Nat->Value) (w':World),Bel w.drew w'->((V 0)=.pointer (some ⟨wp,0,none⟩))->((V 1)=.agg #[.int .u8 k,SS,n,p.a,p.l,p.c,.slice A kl c,.slice B al bc])->(∃ g,(V 3)=.slice (some ⟨g,0,none⟩) 1 1/\w'.heap[g]?=some (.cells #[.int .u8 5,.string ⟨#[108,101,116]⟩,(0:Int),(0:Int),(0:Int),(0:Int)] 85 (0,0)))->wpList Tryz.prog regWb.toArray Q (regWb.drop 4) (finP regWb 4 V a0) w') (hN:a0.tmps.size=65:=by kernel_rfl) (hp0:a0.eval (.tmp 0)=.pointer (some ⟨wp,0,none⟩):=by kernel_rfl) (hp3:a0.eval (.tmp 3)=.pointer (some ⟨bx,0,none⟩):=by kernel_rfl) :
  (Code.region id regWb.toArray true).wp Tryz.prog Q a0 w:=by
 refine qW 4 65 a0 w (fun i v w=>match i with
  | 0=>v=.pointer (some ⟨wp,0,none⟩)
  | 1=>v=.agg #[.int .u8 k,SS,n,p.a,p.l,p.c,.slice A kl c,.slice B al bc]
  | 2=>v=.agg #[.int .u8 5,.string ⟨#[108,101,116]⟩,(0:Int),(0:Int),(0:Int),(0:Int)]
  | 3=>∃ g,v=.slice (some ⟨g,0,none⟩) 1 1/\w.heap[g]?=some (.cells #[.int .u8 5,.string ⟨#[108,101,116]⟩,(0:Int),(0:Int),(0:Int),(0:Int)] 85 (0,0))
  | _=>True) (by kernel_rfl) (by kernel_rfl) hN (by
   intro i v w w' hi h hb
   match i,hi,h with
   | 3,_,h=>obtain⟨g,e,hc⟩:=h;exact⟨g,e,hb.blk hc⟩
   | 0,_,h | 1,_,h | 2,_,h=>exact h
   | q+4,hi,_=>exact absurd hi (by omega)) ?_ ?_
 ·intro i' o hi' ho a w1 V hbel hd hpar K hK
  have p0':=dP (hpar 0 (by kernel_rfl)) hp0;have p3':=dP (hpar 3 (by kernel_rfl)) hp3;obtain⟨q0,q1,q2,q3,q4,q5,q6,q7⟩:=box8 (hbel.blk hx)
  match i',hi',ho,hd,hK with
  | 0,_,ho,hd,hK=>cases ho;exact oW hK rfl rfl (by simp[execOp,go_sem,p0'])
  | 1,_,ho,hd,hK=>cases ho;exact oW hK rfl rfl (by simp[execOp,go_sem,p3',q0,q1,q2,q3,q4,q5,q6,q7])
  | 2,_,ho,hd,hK=>cases ho;exact oK hK rfl (qf ⟨#[108,101,116]⟩ w1) (fun _=>rfl) (by simp[go_sem])
  | 3,_,ho,hd,hK=>cases ho;refine oN rfl ?_;exact qX (v:= .slice (some ⟨w1.heap.size,0,none⟩) 1 1) (w':=w1.alloc (.cells #[.int .u8 5,.string ⟨#[108,101,116]⟩,(0:Int),(0:Int),(0:Int),(0:Int)] 85)) (by simp[execOp,go_sem,dE (hd 2 29 rfl)]) (hK _ _ ((Bel.refl w1).alloc _) ⟨w1.heap.size,rfl,blk1 w1 _⟩)
  | q+4,hi,_,_,_=>exact absurd hi (by omega)
 ·intro V w' hb hF
  exact hend V w' hb (hF 0 (by omega)) (hF 1 (by omega)) (hF 3 (by omega))
def regWr:List Oper:=[
 ⟨some 34,.move (.tmp 0),63,Zs,#[],none⟩,
 ⟨some 35,.load 28 (.tmp 3),28,Zs,#[],none⟩,
 ⟨some 36,.call ⟨.value (.func 44),#[.const (Value.string { data:=#[108,101,116] })],#[9]⟩,85,Zs,#[],none⟩,
 ⟨some 37,.call ⟨.value (.func 44),#[.const (Value.string { data:=#[114,101,99] })],#[9]⟩,85,Zs,#[⟨2,.chain⟩],none⟩,
 ⟨some 38,.buildSlice 64 2 #[(0,.tmp 36),(1,.tmp 37)],64,Zs,#[⟨2,.data⟩,⟨3,.data⟩],none⟩,
 ⟨some 39,.call ⟨.value (.func 66),#[.tmp 34,.tmp 35,.tmp 38],#[63,28,64]⟩,0,Zs,#[⟨0,.data⟩,⟨1,.data⟩,⟨4,.data⟩,⟨3,.chain⟩],none⟩]
theorem qfI{id:Nat}(wp bx:Nat)(k:Int)(SS:BA)(n:Int)(p:Pl)(A:OA)(kl c:Nat)(B:OA)(al bc:Nat)(a0:Act)(w:World)(hx:w.drew.heap[bx]?=some (.cells #[.int .u8 k,SS,n,p.a,p.l,p.c,.slice A kl c,.slice B al bc] 28 (0,0)))(Q:Exit->Act->World->Prop)
  (hend:∀ (V:Nat->Value) (w':World),Bel w.drew w'->((V 0)=.pointer (some ⟨wp,0,none⟩))->((V 1)=.agg #[.int .u8 k,SS,n,p.a,p.l,p.c,.slice A kl c,.slice B al bc])->(∃ g,(V 4)=.slice (some ⟨g,0,none⟩) 2 2/\w'.heap[g]?=some (.cells #[.int .u8 5,.string ⟨#[108,101,116]⟩,(0:Int),(0:Int),(0:Int),(0:Int),.int .u8 5,.string ⟨#[114,101,99]⟩,(0:Int),(0:Int),(0:Int),(0:Int)] 85 (0,0)))->wpList Tryz.prog regWr.toArray Q (regWr.drop 5) (finP regWr 5 V a0) w') (hN:a0.tmps.size=65:=by kernel_rfl) (hp0:a0.eval (.tmp 0)=.pointer (some ⟨wp,0,none⟩):=by kernel_rfl) (hp3:a0.eval (.tmp 3)=.pointer (some ⟨bx,0,none⟩):=by kernel_rfl) :
  (Code.region id regWr.toArray true).wp Tryz.prog Q a0 w:=by
 refine qW 5 65 a0 w (fun i v w=>match i with
  | 0=>v=.pointer (some ⟨wp,0,none⟩)
  | 1=>v=.agg #[.int .u8 k,SS,n,p.a,p.l,p.c,.slice A kl c,.slice B al bc]
  | 2=>v=.agg #[.int .u8 5,.string ⟨#[108,101,116]⟩,(0:Int),(0:Int),(0:Int),(0:Int)]
  | 3=>v=.agg #[.int .u8 5,.string ⟨#[114,101,99]⟩,(0:Int),(0:Int),(0:Int),(0:Int)]
  | 4=>∃ g,v=.slice (some ⟨g,0,none⟩) 2 2/\w.heap[g]?=some (.cells #[.int .u8 5,.string ⟨#[108,101,116]⟩,(0:Int),(0:Int),(0:Int),(0:Int),.int .u8 5,.string ⟨#[114,101,99]⟩,(0:Int),(0:Int),(0:Int),(0:Int)] 85 (0,0))
  | _=>True) (by kernel_rfl) (by kernel_rfl) hN (by
   intro i v w w' hi h hb
   match i,hi,h with
   | 4,_,h=>obtain⟨g,e,hc⟩:=h;exact⟨g,e,hb.blk hc⟩
   | 0,_,h | 1,_,h | 2,_,h | 3,_,h=>exact h
   | q+5,hi,_=>exact absurd hi (by omega)) ?_ ?_
 ·intro i' o hi' ho a w1 V hbel hd hpar K hK
  have p0':=dP (hpar 0 (by kernel_rfl)) hp0;have p3':=dP (hpar 3 (by kernel_rfl)) hp3;obtain⟨q0,q1,q2,q3,q4,q5,q6,q7⟩:=box8 (hbel.blk hx)
  match i',hi',ho,hd,hK with
  | 0,_,ho,hd,hK=>cases ho;exact oW hK rfl rfl (by simp[execOp,go_sem,p0'])
  | 1,_,ho,hd,hK=>cases ho;exact oW hK rfl rfl (by simp[execOp,go_sem,p3',q0,q1,q2,q3,q4,q5,q6,q7])
  | 2,_,ho,hd,hK=>cases ho;exact oK hK rfl (qf ⟨#[108,101,116]⟩ w1) (fun _=>rfl) (by simp[go_sem])
  | 3,_,ho,hd,hK=>cases ho;exact oK hK rfl (qf ⟨#[114,101,99]⟩ w1) (fun _=>rfl) (by simp[go_sem])
  | 4,_,ho,hd,hK=>cases ho;refine oN rfl ?_;exact qX (v:= .slice (some ⟨w1.heap.size,0,none⟩) 2 2) (w':=w1.alloc (.cells #[.int .u8 5,.string ⟨#[108,101,116]⟩,(0:Int),(0:Int),(0:Int),(0:Int),.int .u8 5,.string ⟨#[114,101,99]⟩,(0:Int),(0:Int),(0:Int),(0:Int)] 85)) (by simp[execOp,go_sem,dE (hd 2 36 rfl),dE (hd 3 37 rfl)]) (hK _ _ ((Bel.refl w1).alloc _) ⟨w1.heap.size,rfl,blk1 w1 _⟩)
  | q+5,hi,_,_,_=>exact absurd hi (by omega)
 ·intro V w' hb hF
  exact hend V w' hb (hF 0 (by omega)) (hF 1 (by omega)) (hF 4 (by omega))
theorem qbS(base wp:Nat)(w0:World)(hwp:w0.heap.size<=wp)(M:Nat):M<=1000000->ExC w0 base wp M:=by
 induction M with
 | zero=>intro _ k s n p A c B bc kids arms xs W _ _ h;simp only[Tr.size]at h;omega
 | succ M ih=>
  intro hM k s n p A c B bc kids arms xs W hk ha hsz hsh hW hw hx;have hC:ExC w0 base wp M:=ih (by omega);have hP:PaC w0 base wp 1000000:=qhH base wp w0 hwp 1000000 (lR _);clear ih;obtain⟨hs1,hs2,hs3,hs4,hs5,hs6,_⟩:=hsh;simp only[Tr.size]at hsz;have HS:=hid (Ws.start hW hw hx);obtain⟨kl,hkl⟩:=nW kids.len;obtain⟨al,hal⟩:=nW arms.len;rw[<- hkl]at hk hs1 hs2 hs3 hs4 ⊢;rw[<- hal]at ha ⊢;have HX1:=hid (HS.out.box (.cells #[.int .u8 k,.string ⟨s.toArray⟩,n,p.a,p.l,p.c,.slice A kl c,.slice B al bc] 28));have HS1:=hid (HS.bel ((Bel.refl W).alloc (.cells #[.int .u8 k,.string ⟨s.toArray⟩,n,p.a,p.l,p.c,.slice A kl c,.slice B al bc] 28)));have HB1:Hid (Bel W (W.alloc (.cells #[.int .u8 k,.string ⟨s.toArray⟩,n,p.a,p.l,p.c,.slice A kl c,.slice B al bc] 28))):=hid ((Bel.refl W).alloc _);obtain⟨F,hF⟩:=nW (qe k s n kids arms);rw[<- hF];by_cases k4:k=4
  ·subst k4
   have hl1:=hs1 rfl;obtain⟨b,o,ka,sa,na,pa,kia,ara,A1,c1,B1,d1,rfl,rfl,hlt,hc1,hk1,ha1⟩:=qcT (by intro e;cases e) hk hl1;have ha1':KidsTr w0 (OldT w0) .arms B1 ara.len d1 ara:=by
    rcases ha1 with h | ⟨h | h,_⟩
    ·exact h.2
    ·cases h
    ·cases h
   have HF:Hid (F=Q5::tk0 1 s 0::jn::qe ka sa na kia ara):=hid (by rw[hF,<- jh ka sa na pa kia ara];rfl);simp only[Tr.size]at hsz;have HP1:=hid fun xs' W'=>hC ka sa na pa A1 c1 B1 d1 kia ara xs' W' hk1 ha1' (by simp only[Tr.size];omega) hs5;have HPU:Hid (∀ (pre:List Tn) (w:World) (g:Nat),Ws w0 base wp xs W pre w->w.heap[g]?=some (.cells #[.int .u8 5,.string ⟨#[92]⟩,.int .i64 0,.int .i64 0,.int .i64 0,.int .i64 0,.int .u8 1,.string ⟨s.toArray⟩,.int .i64 0,.int .i64 0,.int .i64 0,.int .i64 0,.int .u8 5,.string ⟨#[45,62]⟩,.int .i64 0,.int .i64 0,.int .i64 0,.int .i64 0] 85 (0,0))->Calls Tryz.prog 43 #[.pointer (some ⟨wp,0,none⟩),.slice (some ⟨g,0,none⟩) 3 3] w (WsQ w0 base wp xs W (pre++[Q5,tk0 1 s 0,jn]) w)):=hid fun pre w g h hg=>
    h.run fun r h1 h2 h3=>qeg base wp r [Q5,tk0 1 s 0,jn] g 3 _ w0 w w h1 hwp h2 (Bel.refl _) h3 (by simp) (by simp) hg (zM _)
   have HCC1:=hid hc1;obtain⟨SS,hSS⟩:=nW (⟨s.toArray⟩:BA);obtain⟨SA,hSA⟩:=nW (⟨sa.toArray⟩:BA);obtain⟨F1,hF1⟩:=nW (qe ka sa na kia ara);obtain⟨T1,hT1⟩:=nW (tk0 1 s 0);obtain⟨l1,hl1'⟩:=nW kia.len;obtain⟨m1,hm1⟩:=nW ara.len;rw[<- hl1',<- hm1]at HCC1;rw[<- hSA,<- hF1,<- hl1',<- hm1]at HP1;rw[<- hF1,<- hT1]at HF;rw[<- hSS,<- hT1]at HPU;rw[<- hSS,hl1]at HX1 HS1;rw[<- hSS,hl1];have HSA:=hid hSA;clear hk ha hsz hs1 hs2 hs3 hs4 hs5 hs6 hC hP hc1 hk1 ha1 ha1' hlt hSS hSA hF1 hT1 hl1 hl1' hm1 hW hw hx hF hkl hal HB1;go_enter Tryz.func27,Tryz.ntmps27;go_wp2_with fail;refine qfH wp W.heap.size 4 SS n p (some ⟨b,o,none⟩) 1 c B al bc _ (W.alloc (.cells #[.int .u8 4,SS,n,p.a,p.l,p.c,.slice (some ⟨b,o,none⟩) 1 c,.slice B al bc] 28)) HX1.1 _ ?_;intro V w2 hb2 hv0 ⟨g,hv6,hg⟩;simp only[finP,zz,Nat.reduceAdd,jA,jB,jC,jD,jE,regWl,jF,jG,hv0,hv6];have HS2:=hid (HS1.bel ((Bel.refl _).drew.on hb2));have HX2:=hid (HS1.out.kp ((Bel.refl _).drew.on hb2) _ _ HX1);have HG2:=hid hg;clear hb2 hv0 hv6 hg;go_wp2_with fail;refine (HPU _ _ g HS2 HG2).mono ?_;rintro e w3 ⟨rfl,hs3,hk3⟩;have HS3:=hid hs3;have HX3:=hid (hk3 _ _ HX2);obtain⟨x0,x1,x2,x3,x4,x5,x6,x7⟩:=box8 HX3.1;have hl3:W.heap.size<w3.heap.size:=(aJ.1 HX3.1).1;have y0:=HCC1.out _ HS3.1 0 _ rfl;have y1:=HCC1.out _ HS3.1 1 _ rfl;have y2:=HCC1.out _ HS3.1 2 _ rfl;have y3:=HCC1.out _ HS3.1 3 _ rfl;have y4:=HCC1.out _ HS3.1 4 _ rfl;have y5:=HCC1.out _ HS3.1 5 _ rfl;have y6:=HCC1.out _ HS3.1 6 _ rfl;have y7:=HCC1.out _ HS3.1 7 _ rfl;simp only[Sh.kd,nZz]at y0 y1 y2 y3 y4 y5 y6 y7;rw[<- HSA.out]at y1;clear hs3 hk3;go_wp2_with fail;refine (HS3.run fun r h1 h2 h3=>HP1 r w3 h1 h2 h3).mono ?_;rintro e w4 ⟨rfl,hs4,hk4⟩;have HQ:=hid (hs4.fin (F:=F) (by rw[HF.out];rfl));clear hs4 hk4 y0 y1 y2 y3 y4 y5 y6 y7 x0 x1 x2 x3 x4 x5 x6 x7;go_wp2_with fail;go_end0;exact HQ
  have d4:(k==4)=false:=by simpa using k4
  by_cases k6:k=6
  ·subst k6
   have hl2:=hs2 (by simp);have HF:Hid (F=[zm]++(tk0 1 s 0::kwEq::kids.exK 0 [kwIn])):=hid (by rw[hF];rfl);obtain⟨G,hG⟩:=nW (tk0 1 s 0::kwEq::kids.exK 0 [kwIn]);have HBD:Hid (∀ (g:Nat) (w:World),Ws w0 base wp xs W [] w->w.heap[g]?=some (.cells #[.int .u8 5,.string ⟨#[108,101,116]⟩,(0:Int),(0:Int),(0:Int),(0:Int)] 85 (0,0))->Calls Tryz.prog 66 #[.pointer (some ⟨wp,0,none⟩),.agg #[.int .u8 6,.string ⟨s.toArray⟩,n,p.a,p.l,p.c,.slice A kl c,.slice B al bc],.slice (some ⟨g,0,none⟩) 1 1] w (WsQ w0 base wp xs W ([]++([zm]++G)) w)):=hid fun g w h hg=>by
    rw[hG];exact qax base wp M w0 hwp hC 6 s n p A kl c B al bc kids arms hk hl2 (by omega) hs5 [zm] 1 rfl (by decide) g _ xs W [] w w h (Bel.refl _) hg
   obtain⟨SS,hSS⟩:=nW (⟨s.toArray⟩:BA);rw[<- hG]at HF;rw[<- hSS]at HBD HX1 HS1;rw[<- hSS];clear hk ha hsz hs1 hs2 hs3 hs4 hs5 hs6 hC hP hW hw hx hF hkl hal HB1 hl2 hSS hG;go_enter Tryz.func27,Tryz.ntmps27;go_wp2_with fail;refine qfE wp W.heap.size 6 SS n p A kl c B al bc _ (W.alloc (.cells #[.int .u8 6,SS,n,p.a,p.l,p.c,.slice A kl c,.slice B al bc] 28)) HX1.1 _ ?_;intro V w2 hb2 hv0 hv1 ⟨g,hv3,hg⟩;simp only[finP,zz,Nat.reduceAdd,jA,jB,jC,jD,jE,regWb,jF,jG,hv0,hv1,hv3];have HS2:=hid (HS1.bel ((Bel.refl _).drew.on hb2));have HG2:=hid hg;clear hb2 hv0 hv1 hv3 hg;go_wp2_with fail;refine (HBD g w2 HS2 HG2).mono ?_;rintro e w3 ⟨rfl,hs3,hk3⟩;have HQ:=hid (hs3.fin (F:=F) (by rw[HF.out];rfl));clear hs3 hk3;go_wp2_with fail;go_end0;exact HQ
  have d6:(k==6)=false:=by simpa using k6
  by_cases k7:k=7
  ·subst k7
   have hl2:=hs2 (by simp);have HF:Hid (F=[zm,zY]++(tk0 1 s 0::kwEq::kids.exK 0 [kwIn])):=hid (by rw[hF];rfl);obtain⟨G,hG⟩:=nW (tk0 1 s 0::kwEq::kids.exK 0 [kwIn]);have HBD:Hid (∀ (g:Nat) (w:World),Ws w0 base wp xs W [] w->w.heap[g]?=some (.cells #[.int .u8 5,.string ⟨#[108,101,116]⟩,(0:Int),(0:Int),(0:Int),(0:Int),.int .u8 5,.string ⟨#[114,101,99]⟩,(0:Int),(0:Int),(0:Int),(0:Int)] 85 (0,0))->Calls Tryz.prog 66 #[.pointer (some ⟨wp,0,none⟩),.agg #[.int .u8 7,.string ⟨s.toArray⟩,n,p.a,p.l,p.c,.slice A kl c,.slice B al bc],.slice (some ⟨g,0,none⟩) 2 2] w (WsQ w0 base wp xs W ([]++([zm,zY]++G)) w)):=hid fun g w h hg=>by
    rw[hG];exact qax base wp M w0 hwp hC 7 s n p A kl c B al bc kids arms hk hl2 (by omega) hs5 [zm,zY] 2 rfl (by decide) g _ xs W [] w w h (Bel.refl _) hg
   obtain⟨SS,hSS⟩:=nW (⟨s.toArray⟩:BA);rw[<- hG]at HF;rw[<- hSS]at HBD HX1 HS1;rw[<- hSS];clear hk ha hsz hs1 hs2 hs3 hs4 hs5 hs6 hC hP hW hw hx hF hkl hal HB1 hl2 hSS hG;go_enter Tryz.func27,Tryz.ntmps27;go_wp2_with fail;refine qfI wp W.heap.size 7 SS n p A kl c B al bc _ (W.alloc (.cells #[.int .u8 7,SS,n,p.a,p.l,p.c,.slice A kl c,.slice B al bc] 28)) HX1.1 _ ?_;intro V w2 hb2 hv0 hv1 ⟨g,hv3,hg⟩;simp only[finP,zz,Nat.reduceAdd,jA,jB,jC,jD,jE,regWr,jF,jG,hv0,hv1,hv3];have HS2:=hid (HS1.bel ((Bel.refl _).drew.on hb2));have HG2:=hid hg;clear hb2 hv0 hv1 hv3 hg;go_wp2_with fail;refine (HBD g w2 HS2 HG2).mono ?_;rintro e w3 ⟨rfl,hs3,hk3⟩;have HQ:=hid (hs3.fin (F:=F) (by rw[HF.out];rfl));clear hs3 hk3;go_wp2_with fail;go_end0;exact HQ
  have d7:(k==7)=false:=by simpa using k7
  by_cases k8:k=8
  ·subst k8
   have hl1:=hs3 rfl;have HF:Hid (F=jK::kids.exK 0 []++[kwOf]++arms.exK 0 [jj]++[zH]):=hid (by rw[hF];rfl);obtain⟨G,hG⟩:=nW (jK::kids.exK 0 []++[kwOf]++arms.exK 0 [jj]++[zH]);have HCS:Hid (∀ (w:World),Ws w0 base wp xs W [] w->Calls Tryz.prog 67 #[.pointer (some ⟨wp,0,none⟩),.agg #[.int .u8 8,.string ⟨s.toArray⟩,n,p.a,p.l,p.c,.slice A kl c,.slice B al bc]] w (WsQ w0 base wp xs W ([]++G) w)):=hid fun w h=>by
    rw[hG];exact h.run fun r h1 h2 h3=>qed base wp M (by omega) w0 hwp hC hP 8 s n p A kl c B al bc kids arms hk ha hl1 (by omega) hs5 hs6 r w h1 h2 h3
   obtain⟨SS,hSS⟩:=nW (⟨s.toArray⟩:BA);rw[<- hG]at HF;rw[<- hSS]at HCS HX1 HS1;rw[<- hSS];clear hk ha hsz hs1 hs2 hs3 hs4 hs5 hs6 hC hP hW hw hx hF hkl hal HB1 hl1 hSS hG;obtain⟨x0,x1,x2,x3,x4,x5,x6,x7⟩:=box8 HX1.1;go_enter Tryz.func27,Tryz.ntmps27;go_wp2_with fail;refine (HCS _ HS1).mono ?_;rintro e w3 ⟨rfl,hs3,hk3⟩;have HQ:=hid (hs3.fin (F:=F) (by rw[HF.out];rfl));clear hs3 hk3;go_wp2_with fail;go_end0;exact HQ
  have d8:(k==8)=false:=by simpa using k8
  by_cases k5:k=5
  ·subst k5
   have hl2:=hs2 (by simp);obtain⟨b,o,ka,sa,na,pa,kia,ara,A1,c1,B1,d1,kb,sb,nb,pb,kib,arb,A2,c2,B2,d2,rfl,rfl,hlt,hc1,hk1,ha1,hc2,hk2,ha2⟩:=Z9 (by intro e;cases e) hk hl2;have ha1':KidsTr w0 (OldT w0) .arms B1 ara.len d1 ara:=by
    rcases ha1 with h | ⟨h | h,_⟩
    ·exact h.2
    ·cases h
    ·cases h
   have ha2':KidsTr w0 (OldT w0) .arms B2 arb.len d2 arb:=by
    rcases ha2 with h | ⟨h | h,_⟩
    ·exact h.2
    ·cases h
    ·cases h
   have HF:Hid (F=brkL (alnF ka kia.len) (qe ka sa na kia ara)++brkL (alnE kb kib.len) (qe kb sb nb kib arb)):=hid (by
    have e:=qgO [] ka sa na pa kia ara kb sb nb pb kib arb;rw[aNn]at e;rw[hF,<- e];rfl)
   simp only[Tr.size]at hsz;have HP1:=hid fun pre w g h hg=>qcA 69 alnF egF qel (xs:=xs) (W:=W) hC (by omega) hwp pre w g ka sa na pa kia ara A1 c1 B1 d1 h hg hk1 ha1' (by omega) ⟨hs5.1,hs5.2.1,hs5.2.2.1,hs5.2.2.2.1,hs5.2.2.2.2.1,hs5.2.2.2.2.2.1,trivial⟩;have HP2:=hid fun pre w g h hg=>qcA 70 alnE egE QM (xs:=xs) (W:=W) hC (by omega) hwp pre w g kb sb nb pb kib arb A2 c2 B2 d2 h hg hk2 ha2' (by omega) hs5.2.2.2.2.2.2;have HCC1:=hid hc1;have HCC2:=hid hc2;obtain⟨SS,hSS⟩:=nW (⟨s.toArray⟩:BA);obtain⟨SA,hSA⟩:=nW (⟨sa.toArray⟩:BA);obtain⟨SB,hSB⟩:=nW (⟨sb.toArray⟩:BA);obtain⟨F1,hF1⟩:=nW (brkL (alnF ka kia.len) (qe ka sa na kia ara));obtain⟨F2,hF2⟩:=nW (brkL (alnE kb kib.len) (qe kb sb nb kib arb));obtain⟨l1,hl1⟩:=nW kia.len;obtain⟨l2,hl2'⟩:=nW kib.len;obtain⟨m1,hm1⟩:=nW ara.len;obtain⟨m2,hm2⟩:=nW arb.len;rw[<- hl1,<- hm1]at HCC1;rw[<- hl2',<- hm2]at HCC2;rw[<- hSA,<- hF1,<- hl1,<- hm1]at HP1;rw[<- hSB,<- hF2,<- hl2',<- hm2]at HP2;rw[<- hF1,<- hF2]at HF;rw[<- hSS,hl2]at HX1 HS1;rw[<- hSS,hl2];have HSA:=hid hSA;have HSB:=hid hSB;clear hk ha hsz hs1 hs2 hs3 hs4 hs5 hs6 hC hP hc1 hc2 hk1 hk2 ha1 ha2 ha1' ha2' hlt hSS hSA hSB hF1 hF2 hl1 hl2' hm1 hm2 hW hw hx hF hkl hal HB1 hl2;have y0:=HCC1.out _ HS1.1 0 _ rfl;have y1:=HCC1.out _ HS1.1 1 _ rfl;have y2:=HCC1.out _ HS1.1 2 _ rfl;have y3:=HCC1.out _ HS1.1 3 _ rfl;have y4:=HCC1.out _ HS1.1 4 _ rfl;have y5:=HCC1.out _ HS1.1 5 _ rfl;have y6:=HCC1.out _ HS1.1 6 _ rfl;have y7:=HCC1.out _ HS1.1 7 _ rfl;simp only[Sh.kd,nZz]at y0 y1 y2 y3 y4 y5 y6 y7;rw[<- HSA.out]at y1;go_enter Tryz.func27,Tryz.ntmps27;go_wp2_with fail;refine (HP1 [] _ (W.heap.size+1) HS1 (by simp)).mono ?_;rintro e w2 ⟨rfl,hs2,hk2⟩;have HS2:=hid hs2;have HX2:=hid (hk2 _ _ HX1);clear y0 y1 y2 y3 y4 y5 y6 y7 hs2 hk2;obtain⟨x0,x1,x2,x3,x4,x5,x6,x7⟩:=box8 HX2.1;have hl2:W.heap.size<w2.heap.size:=(aJ.1 HX2.1).1;have y0:=HCC2.out _ HS2.1 0 _ rfl;have y1:=HCC2.out _ HS2.1 1 _ rfl;have y2:=HCC2.out _ HS2.1 2 _ rfl;have y3:=HCC2.out _ HS2.1 3 _ rfl;have y4:=HCC2.out _ HS2.1 4 _ rfl;have y5:=HCC2.out _ HS2.1 5 _ rfl;have y6:=HCC2.out _ HS2.1 6 _ rfl;have y7:=HCC2.out _ HS2.1 7 _ rfl;simp only[Sh.kd,Sh.sz,nZz]at y0 y1 y2 y3 y4 y5 y6 y7;rw[<- HSB.out]at y1;go_wp2_with fail;refine (HP2 _ _ _ HS2 rfl).mono ?_;rintro e w3 ⟨rfl,hs3,hk3⟩;have HQ:=hid (hs3.fin (F:=F) (by rw[HF.out];rfl));clear hs3 hk3 y0 y1 y2 y3 y4 y5 y6 y7 x0 x1 x2 x3 x4 x5 x6 x7;go_wp2_with fail;go_end0;exact HQ
  have d5:(k==5)=false:=by simpa using k5
  have HF:Hid (F=if (exR k s).1=5 then kids.exK 2 [tk0 5 s n] else tk0 (exR k s).1 s n::kids.exK 2 []):=hid (by rw[hF];simp only[qe,if_neg k4,if_neg k6,if_neg k7,if_neg k8,if_neg k5]);obtain⟨G,hG⟩:=nW (if (exR k s).1=5 then kids.exK 2 [tk0 5 s n] else tk0 (exR k s).1 s n::kids.exK 2 []);have HCS:Hid (∀ (w:World),Ws w0 base wp xs W [] w->Calls Tryz.prog 71 #[.pointer (some ⟨wp,0,none⟩),.agg #[.int .u8 k,.string ⟨s.toArray⟩,n,p.a,p.l,p.c,.slice A kl c,.slice B al bc]] w (WsQ w0 base wp xs W ([]++G) w)):=hid fun w h=>by
   rw[hG];exact qcq base wp M (by omega) w0 hwp hC k s n p A kl c B al bc kids arms hk (by omega) hs5 hs4 xs W [] w w h (Bel.refl _)
  obtain⟨SS,hSS⟩:=nW (⟨s.toArray⟩:BA);rw[<- hG]at HF;rw[<- hSS]at HCS HX1 HS1;rw[<- hSS];clear hk ha hsz hs1 hs2 hs3 hs4 hs5 hs6 hC hP hW hw hx hF hkl hal HB1 hSS hG k4 k5 k6 k7 k8;obtain⟨x0,x1,x2,x3,x4,x5,x6,x7⟩:=box8 HX1.1;go_enter Tryz.func27,Tryz.ntmps27;go_wp2_with fail;refine (HCS _ HS1).mono ?_;rintro e w3 ⟨rfl,hs3,hk3⟩;have HQ:=hid (hs3.fin (F:=F) (by rw[HF.out];rfl));clear hs3 hk3;go_wp2_with fail;go_end0;exact HQ
def dcK(x:Dc):List Tn:=if x.kd=1 then J2 x.nm x.ps x.cs else zm::(if x.rc then [zY] else [])++[tk0 1 x.nm 0,kwEq]++qe x.k x.s x.n x.kids x.arms
def Dc.shw(x:Dc):Prop:=if x.kd=1 then ∀ c∈x.cs,c.shw else x.tr.shp
theorem qgm(base wp:Nat)(w0:World)(hwp:w0.heap.size<=wp)(kd:Int)(nm:LU)(q:Pl)(PA:OA)(pc:Nat)(ps:List LU)(CA:OA)(cc:Nat)(cs:List Cd)(rc:Bool)(k:Int)(s:LU)(n:Int)(p:Pl)(A:OA)(c:Nat)(B:OA)(bc:Nat)(kids arms:Tr)
  (hp:RowOf 1 SAt w0 (OldT w0) PA ps.length pc ps) (hc:RowOf 5 CdAt w0 (OldT w0) CA cs.length cc cs) (hk:KidsTr w0 (OldT w0) .ex A kids.len c kids) (ha:KidsTr w0 (OldT w0) .arms B arms.len bc arms) (hg:cs.length<=1000000/\ps.length<=1100000/\kids.size+arms.size<=900000/\∀ c∈cs,c.good) (hsh:Dc.shw ⟨kd,nm,q,ps,cs,rc,k,s,n,p,kids,arms⟩) (xs:List Tn) (W:World) (hW:Bel w0 W) (hw:Wri W base wp xs) (hx:xs.length<=5000) :
  Calls Tryz.prog 19 #[.pointer (some ⟨wp,0,none⟩),.agg #[.int .u8 kd,.string ⟨nm.toArray⟩,q.a,q.l,q.c,.slice PA ps.length pc,.slice CA cs.length cc,.bool rc,.int .u8 k,.string ⟨s.toArray⟩,n,p.a,p.l,p.c,.slice A kids.len c,.slice B arms.len bc]] W (WrQ w0 base wp xs (dcK ⟨kd,nm,q,ps,cs,rc,k,s,n,p,kids,arms⟩) W):=by
 have HS:=hid (Ws.start hW hw hx);obtain⟨F,hF⟩:=nW (dcK ⟨kd,nm,q,ps,cs,rc,k,s,n,p,kids,arms⟩);rw[<- hF];obtain⟨kl,hkl⟩:=nW kids.len;obtain⟨al,hal⟩:=nW arms.len;obtain⟨pl,hpl⟩:=nW ps.length;obtain⟨cl,hcl⟩:=nW cs.length;obtain⟨SS,hSS⟩:=nW (⟨s.toArray⟩:BA);obtain⟨NM,hNM⟩:=nW (⟨nm.toArray⟩:BA);have HB1:Hid (Bel W (W.alloc (.cells #[.int .u8 kd,NM,q.a,q.l,q.c,.slice PA pl pc,.slice CA cl cc,.bool rc,.int .u8 k,SS,n,p.a,p.l,p.c,.slice A kl c,.slice B al bc] 52))):=hid ((Bel.refl W).alloc _);have HS1:=hid (HS.bel HB1);have HX1:=hid (HS.out.box (.cells #[.int .u8 kd,NM,q.a,q.l,q.c,.slice PA pl pc,.slice CA cl cc,.bool rc,.int .u8 k,SS,n,p.a,p.l,p.c,.slice A kl c,.slice B al bc] 52));by_cases h1:kd=1
 ·subst h1
  have HF:Hid (F=J2 nm ps cs):=hid (by rw[hF];rfl);have hsh1:∀ c∈cs,c.shw:=hsh;have HD:Hid (∀ w,Ws w0 base wp xs W [] w->Calls Tryz.prog 42 #[.pointer (some ⟨wp,0,none⟩),.agg #[.int .u8 1,NM,q.a,q.l,q.c,.slice PA pl pc,.slice CA cl cc,.bool rc,.int .u8 k,SS,n,p.a,p.l,p.c,.slice A kl c,.slice B al bc]] w (WsQ w0 base wp xs W ([]++F) w)):=hid fun w h=>by
   rw[HF.out,hNM];exact h.run fun r q1 q2 q3=>qgl base wp w0 hwp 1 nm q PA pl pc ps CA cl cc cs rc k SS n p A kl c B al bc (by rw[hpl];exact hp) (by rw[hcl];exact hc) (by omega) (by omega) hsh1 r w q1 q2 q3
  rw[<- hkl,<- hal,<- hpl,<- hcl,<- hSS,<- hNM];clear hp hc hk ha hg hsh hsh1 hW hw hx hF hkl hal hpl hcl hSS hNM HB1;go_enter Tryz.func19,Tryz.ntmps19;go_wp2_with fail;refine (HD _ HS1).mono ?_;rintro e w3 ⟨rfl,hs3,hk3⟩;have HQ:=hid (hs3.fin (F:=F) rfl);clear hs3 hk3;go_wp2_with fail;go_end0;exact HQ
 have HF:Hid (F=zm::(if rc then [zY] else [])++[tk0 1 nm 0,kwEq]++qe k s n kids arms):=hid (by rw[hF];unfold dcK;rw[if_neg h1]);have hsh1:(Tr.nod k s n p kids arms .nil).shp:=by
  unfold Dc.shw at hsh;rw[if_neg h1]at hsh;exact hsh
 have k1:(kd==1)=false:=by simpa using h1
 have HE:=hid fun xs' W'=>qbS base wp w0 hwp 1000000 (lR _) k s n p A c B bc kids arms xs' W' hk ha (by have:=hg.2.2.1;simp only[Tr.size];omega) hsh1;have HPU:Hid (∀ (pre:List Tn) (w:World) (g:Nat),Ws w0 base wp xs W pre w->g=w.heap.size->Calls Tryz.prog 43 #[.pointer (some ⟨wp,0,none⟩),.slice (some ⟨g,0,none⟩) 2 2] (w.alloc (.cells #[.int .u8 1,.string ⟨nm.toArray⟩,.int .i64 0,.int .i64 0,.int .i64 0,.int .i64 0,.int .u8 5,.string ⟨#[61]⟩,.int .i64 0,.int .i64 0,.int .i64 0,.int .i64 0] 85)) (WsQ w0 base wp xs W (pre++[tk0 1 nm 0,kwEq]) w)):=hid fun pre w g h hg=>h.put2g hwp 1 nm 0 5 [61] 0 2 g hg;obtain⟨F1,hF1⟩:=nW (qe k s n kids arms);obtain⟨T1,hT1⟩:=nW (tk0 1 nm 0);rw[<- hF1,<- hT1]at HF;rw[<- hkl,<- hal,<- hSS,<- hF1]at HE;rw[<- hNM,<- hT1]at HPU;rw[<- hkl,<- hal,<- hpl,<- hcl,<- hSS,<- hNM];clear hp hc hk ha hg hsh hsh1 hW hw hx hF hkl hal hpl hcl hSS hNM HB1 hF1 hT1 h1;go_enter Tryz.func19,Tryz.ntmps19;go_wp2_with fail;refine (qf _ _).mono ?_;rintro e w2 ⟨rfl,hb2⟩;have HS2:=hid (HS1.bel hb2);have HX2:=hid (HS1.out.kp hb2 _ _ HX1);clear hb2 HS1 HX1;unfold tokV;go_wp2_with fail;refine (HS2.out.put1 hwp 5 [108,101,116] 0 _).mono ?_;rintro e w3 ⟨rfl,hs3,hk3⟩;have HS3:=hid hs3;have HX3:=hid (hk3 _ _ HX2);obtain⟨_,x7,_⟩:=qdv HX3.1;have x1:=(qac HX3.1).1;have hl3:W.heap.size<w3.heap.size:=(aJ.1 HX3.1).1;clear hs3 hk3 HS2 HX2;cases rc
 ·have HF2:Hid (F=zm::([]++[T1,kwEq]++F1)):=hid (by rw[HF.out];simp)
  go_wp2_with fail;refine (zK _ _).mono ?_;rintro e w5 ⟨rfl,hb5⟩;have HS5:=hid (HS3.bel hb5);have HX5:=hid (HS3.out.kp hb5 _ _ HX3);clear hb5 HS3 HX3 x7 x1 hl3;unfold tokV;go_wp2_with fail;refine (qf _ _).mono ?_;rintro e w6 ⟨rfl,hb6⟩;have HS6:=hid (HS5.bel hb6);have HX6:=hid (HS5.out.kp hb6 _ _ HX5);clear hb6 HS5 HX5;unfold tokV;go_wp2_with fail;refine (HPU _ _ _ HS6 rfl).mono ?_;rintro e w7 ⟨rfl,hs7,hk7⟩;have HS7:=hid hs7;have HX7:=hid (hk7 _ _ HX6);obtain⟨x6,x7,x8,x9,x10,x11,x12,x13,x14,x15⟩:=qdv HX7.1;have hl7:W.heap.size<w7.heap.size:=(aJ.1 HX7.1).1;clear hs7 hk7 HS6 HX6;go_wp2_with fail;refine (HS7.run fun r h1 h2 h3=>HE r w7 h1 h2 h3).mono ?_;rintro e w8 ⟨rfl,hs8,hk8⟩;have HQ:=hid (hs8.fin (F:=F) (by rw[HF2.out];simp;rfl));clear hs8 hk8 x6 x7 x8 x9 x10 x11 x12 x13 x14 x15 hl7;go_wp2_with fail;go_end0;exact HQ
 ·have HF2:Hid (F=zm::([zY]++[T1,kwEq]++F1)):=hid (by rw[HF.out];simp)
  go_wp2_with fail;refine (qf _ _).mono ?_;rintro e w4 ⟨rfl,hb4⟩;have HS4':=hid (HS3.bel hb4);have HX4':=hid (HS3.out.kp hb4 _ _ HX3);clear hb4 HS3 HX3 x7 x1 hl3;unfold tokV;go_wp2_with fail;refine (HS4'.out.put1 hwp 5 [114,101,99] 0 _).mono ?_;rintro e w4' ⟨rfl,hs4,hk4⟩;have HS4:=hid hs4;have HX4:=hid (hk4 _ _ HX4');have x1:=(qac HX4.1).1;have hl4:W.heap.size<w4'.heap.size:=(aJ.1 HX4.1).1;clear hs4 hk4 HS4' HX4';go_wp2_with fail;refine (zK _ _).mono ?_;rintro e w5 ⟨rfl,hb5⟩;have HS5:=hid (HS4.bel hb5);have HX5:=hid (HS4.out.kp hb5 _ _ HX4);clear hb5 HS4 HX4 x1 hl4;unfold tokV;go_wp2_with fail;refine (qf _ _).mono ?_;rintro e w6 ⟨rfl,hb6⟩;have HS6:=hid (HS5.bel hb6);have HX6:=hid (HS5.out.kp hb6 _ _ HX5);clear hb6 HS5 HX5;unfold tokV;go_wp2_with fail;refine (HPU _ _ _ HS6 rfl).mono ?_;rintro e w7 ⟨rfl,hs7,hk7⟩;have HS7:=hid hs7;have HX7:=hid (hk7 _ _ HX6);obtain⟨x6,x7,x8,x9,x10,x11,x12,x13,x14,x15⟩:=qdv HX7.1;have hl7:W.heap.size<w7.heap.size:=(aJ.1 HX7.1).1;clear hs7 hk7 HS6 HX6;go_wp2_with fail;refine (HS7.run fun r h1 h2 h3=>HE r w7 h1 h2 h3).mono ?_;rintro e w8 ⟨rfl,hs8,hk8⟩;have HQ:=hid (hs8.fin (F:=F) (by rw[HF2.out];simp;exact⟨rfl,rfl⟩));clear hs8 hk8 x6 x7 x8 x9 x10 x11 x12 x13 x14 x15 hl7;go_wp2_with fail;go_end0;exact HQ
theorem ji{tok kc:Int}{s:LU}{n:Int}{l:Nat}(h:keepB tok kc s n l=true):(kc = -1∨kc=(l:Int))/\(tok=0->s=[]/\n=0)/\(tok≠0->qh (tok,s,n)):=by
 unfold keepB at h;split at h
 ·cases h
 rename_i h1;refine⟨?_,fun h0=>?_,fun h0=>?_⟩
 ·by_cases e:kc = -1
  ·exact .inl e
  ·exact .inr (Classical.byContradiction fun e2=>h1 ⟨e,e2⟩)
 ·rw[if_pos h0]at h
  simpa using h
 ·rw[if_neg h0]at h
  simpa [mtB] using h
theorem qhr{s:LU}(h:s∈qK∨s∈zC):qh (tk0 5 s 0).b:= .inr (.inr (.inr (.inr (.inl ⟨rfl,h,rfl⟩))))
theorem ZJ:∀ t∈[zm,zY,kwIn,jK,kwOf,kwEq,jn,Q5,jj,zH,jq,tk0 5 [95] 0,tk0 5 [40] 0,tk0 5 [41] 0,tk0 5 [63] 0,tk0 5 [42] 0,tk0 5 [45,49,62] 0,tk0 5 [45,63,62] 0,tk0 5 [45,42,62] 0,tk0 5 [124] 0,tk0 5 [100,97,116,97] 0],qh t.b:=by
 intro t ht;simp only[List.mem_cons,List.not_mem_nil,or_false]at ht;rcases ht with rfl | rfl | rfl | rfl | rfl | rfl | rfl | rfl | rfl | rfl | rfl | rfl | rfl | rfl | rfl | rfl | rfl | rfl | rfl | rfl | rfl
 all_goals exact qhr (by decide +kernel)
def AllM(F:List Tn):Prop:=∀ t∈F,qh t.b
theorem AllM.nil:AllM []:=by intro t h;cases h
theorem AllM.cons{t:Tn}{F:List Tn}(h:qh t.b)(k:AllM F):AllM (t::F):=fun u hu=>(List.mem_cons.1 hu).elim (fun e=>e ▸ h) (k u)
theorem AllM.app{F G:List Tn}(h:AllM F)(k:AllM G):AllM (F++G):=fun u hu=>(List.mem_append.1 hu).elim (h u) (k u)
theorem AllM.kw{t:Tn}{F:List Tn}(h:t∈[zm,zY,kwIn,jK,kwOf,kwEq,jn,Q5,jj,zH,jq,tk0 5 [95] 0,tk0 5 [40] 0,tk0 5 [41] 0,tk0 5 [63] 0,tk0 5 [42] 0,tk0 5 [45,49,62] 0,tk0 5 [45,63,62] 0,tk0 5 [45,42,62] 0,tk0 5 [124] 0,tk0 5 [100,97,116,97] 0])(k:AllM F):AllM (t::F):=k.cons (ZJ t h)
theorem AllM.brk{b:Bool}{F:List Tn}(h:AllM F):AllM (brkL b F):=by
 unfold brkL;split
 ·exact h
 ·exact AllM.kw (by simp) (h.app (AllM.kw (by simp) AllM.nil))
theorem AllM.brkM{md:Nat}{k:Int}{l:Nat}{F:List Tn}(h:AllM F):AllM (brkM md k l F):=by
 unfold Mu.brkM;split
 ·exact h
 split
 ·exact h.brk
 ·exact h.brk
theorem qaj{k:Int}{s:LU}{n:Int}{l:Nat}{K:List Tn}(h:hPf k s n l=true)(hK:AllM K):AllM (qr k s n K):=by
 unfold qr;split
 ·exact AllM.kw (by simp) AllM.nil
 ·rename_i h2
  unfold hPf at h;rw[bA]at h;obtain⟨h1,h3⟩:=h;refine AllM.cons ((ji h3).2.2 fun e=>?_) hK;unfold paR at h1 e;simp only[h2,if_false]at h1 e;by_cases k1:k=1
  ·simp[k1]at e
  by_cases k3:k=3
  ·simp[k3]at e
  by_cases k4:k=4
  ·simp[k4]at e
  by_cases k5:k=5
  ·simp[k5]at e
  simp[k1,k3,k4,k5]at h1
theorem qaS:∀ f:Tr,f.mayP hPf=true->AllM f.patK
 | .nil,_=>AllM.nil
 | .arm ..,_=>AllM.nil
 | .nod k s n p kids arms r,h=>by
  simp only[Tr.mayP,bA]at h;exact ((qaj h.1.1 (qaS kids h.1.2)).brk).app (qaS r h.2)
theorem qau{k:Int}{s:LU}{n:Int}{l:Nat}{K K2:List Tn}(h:hTf k s n l=true)(hK:AllM K)(hK2:AllM K2):AllM (if k=3 then K2 else tk0 (tyR k).1 s 0::K):=by
 split
 ·exact hK2
 ·rename_i h3
  unfold hTf at h;rw[if_neg h3,bA,bA]at h;obtain⟨h1,h2,h4⟩:=h;refine AllM.cons ((ji h4).2.2 fun e=>?_) hK;unfold tyR at h2 e;simp only[h3,if_false]at h2 e;split at h2
  ·rw[if_pos (by assumption)]at e;cases e
  ·rename_i h5
   rw[if_neg h5]at e;split at h2
   ·rw[if_pos (by assumption)]at e;cases e
   ·cases h2
theorem qds{n:Int}(h:mltB n=true):qh (zi n).b:=by
 unfold zi;split
 ·exact ZJ _ (by simp)
 split
 ·exact ZJ _ (by simp)
 ·exact ZJ _ (by simp)
theorem qdO{n:Int}:qh (zg n).b:=by
 unfold zg;split
 ·exact .inr (.inr (.inl ⟨rfl,by decide,by decide,rfl⟩))
 split
 ·exact ZJ _ (by simp)
 ·exact ZJ _ (by simp)
theorem JI:∀ (f:Tr) (sep:List Tn),f.mayP hTf=true->AllM sep->AllM (f.tyK sep)
 | .nil,_,_,_=>AllM.nil
 | .arm ..,_,_,_=>AllM.nil
 | .nod k s n p kids arms r,sep,h,hs=>by
  simp only[Tr.mayP,bA]at h;have h1:=JI kids [] h.1.2 AllM.nil;by_cases h3:k=3
  ·have hm:mltB n=true:=by
    have:=h.1.1;unfold hTf at this;rw[if_pos h3,bA]at this;exact this.1
   exact (((qau h.1.1 h1 (JI kids [zi n] h.1.2 (AllM.cons (qds hm) AllM.nil))).brk).app hs).app (JI r [] h.2 AllM.nil)
  ·refine ((AllM.brk ?_).app hs).app (JI r [] h.2 AllM.nil)
   have h2:=qau h.1.1 h1 AllM.nil;rw[if_neg h3]at h2 ⊢;exact h2
theorem qdC{k:Int}{s:LU}{n:Int}{l al:Nat}{K0 K1 K2 KI KS KA:List Tn}(h:hEf k s n l al=true)(h0:AllM K0)(h1:AllM K1)(h2:AllM K2)(hI:AllM KI)(hS:(exR k s).1=5->qh (5,s,n)->AllM KS)(hA:AllM KA) :
  AllM (if k=4 then Q5::tk0 1 s 0::jn::K0
    else if k=6 then zm::tk0 1 s 0::kwEq::KI
    else if k=7 then zm::zY::tk0 1 s 0::kwEq::KI
    else if k=8 then jK::K0++[kwOf]++KA++[zH]
    else if k=5 then K1
    else if (exR k s).1=5 then KS
    else tk0 (exR k s).1 s n::K2):=by
 unfold hEf at h;rw[bA,bA]at h;obtain⟨hr,hk,_⟩:=h;have hp:=ji hk;have name:(exR k s).1=1->qh (tk0 1 s 0).b:=fun e=>by
  have:=hp.2.2 (by rw[e];decide);rw[e]at this;have hn:n=0:=by
   rcases this with h | h | h | h | h | h
   ·exact h.2.2
   ·have h1:=h.1;simp at h1
   ·have h1:=h.1;simp at h1
   ·have h1:=h.1;simp at h1
   ·have h1:=h.1;simp at h1
   ·have h1:=h.1;simp at h1
  rw[hn]at this;exact this
 by_cases k4:k=4
 ·rw[if_pos k4]
  exact AllM.kw (by simp) (AllM.cons (name (by rw[k4];rfl)) (AllM.kw (by simp) h0))
 rw[if_neg k4];by_cases k6:k=6
 ·rw[if_pos k6]
  exact AllM.kw (by simp) (AllM.cons (name (by rw[k6];rfl)) (AllM.kw (by simp) hI))
 rw[if_neg k6];by_cases k7:k=7
 ·rw[if_pos k7]
  exact AllM.kw (by simp) (AllM.kw (by simp) (AllM.cons (name (by rw[k7];rfl)) (AllM.kw (by simp) hI)))
 rw[if_neg k7];by_cases k8:k=8
 ·rw[if_pos k8]
  exact (((AllM.kw (by simp) h0).app (AllM.kw (by simp) AllM.nil)).app hA).app (AllM.kw (by simp) AllM.nil)
 rw[if_neg k8];by_cases k5:k=5
 ·rw[if_pos k5]
  exact h1
 rw[if_neg k5];by_cases e5:(exR k s).1=5
 ·rw[if_pos e5]
  exact hS e5 (by have:=hp.2.2 (by rw[e5];decide);rwa [e5]at this)
 rw[if_neg e5];refine AllM.cons (hp.2.2 fun e=>?_) h2;unfold exR at hr e;simp only[k4,k5,k6,k7,k8,if_false]at hr e;by_cases k1:k=1
 ·simp[k1]at e
 by_cases k2:k=2
 ·simp[k2]at e
 by_cases k3:k=3
 ·simp[k3]at e
 by_cases k9:k=9
 ·simp[k9]at e
 by_cases k10:k=10
 ·simp only[k10]at e
  simp at e;split at e <;> simp at e
 ·simp[k1,k2,k3,k9,k10]at hr
theorem zp:∀ (f:Tr) (md:Nat) (sep:List Tn),f.mayE hEf hPf=true->AllM sep->AllM (f.exK md sep)
 | .nil,_,_,_,_=>AllM.nil
 | .arm k s n p kids e r,md,sep,h,hs=>by
  simp only[Tr.mayE,bA]at h;exact (((hs.app (qaj h.1.1.1 (qaS kids h.1.1.2))).app (AllM.kw (by simp) AllM.nil)).app (zp e 0 [] h.1.2 AllM.nil)).app (zp r 0 [jq] h.2 (AllM.kw (by simp) AllM.nil))
 | .nod k s n p kids arms r,md,sep,h,hs=>by
  simp only[Tr.mayE,bA]at h;exact (((qdC h.1.1.1 (zp kids 0 [] h.1.1.2 AllM.nil) (zp kids 1 [] h.1.1.2 AllM.nil) (zp kids 2 [] h.1.1.2 AllM.nil) (zp kids 0 [kwIn] h.1.1.2 (AllM.kw (by simp) AllM.nil)) (fun _ hm=>zp kids 2 [tk0 5 s n] h.1.1.2 (AllM.cons hm AllM.nil)) (zp arms 0 [jj] h.1.2 (AllM.kw (by simp) AllM.nil))).brkM).app hs).app (zp r (nxM md) [] h.2 AllM.nil)
theorem JC:∀ f:Tr,f.mayE hEf hPf=true->f.shp
 | .nil,_=>trivial
 | .arm k s n p kids e r,h=>by
  simp only[Tr.mayE,bA]at h;exact⟨JC e h.1.2,JC r h.2⟩
 | .nod k s n p kids arms r,h=>by
  simp only[Tr.mayE,bA]at h;have h1:=h.1.1.1;unfold hEf at h1;rw[bA,bA]at h1;have hp:=(ji h1.2.1).1;refine⟨fun e=>?_,fun e=>?_,fun e=>?_,fun e=>?_,JC kids h.1.1.2,JC arms h.1.2,JC r h.2⟩
  ·rw[e]at hp
   have:(exR 4 s).2.1=1:=rfl;rw[this]at hp;omega
  ·rcases e with e | e | e
   all_goals rw[e]at hp
   ·have:(exR 5 s).2.1=2:=rfl
    rw[this]at hp;omega
   ·have:(exR 6 s).2.1=2:=rfl
    rw[this]at hp;omega
   ·have:(exR 7 s).2.1=2:=rfl
    rw[this]at hp;omega
  ·rw[e]at hp
   have:(exR 8 s).2.1=1:=rfl;rw[this]at hp;omega
  ·have h10:k=10/\btwB s=true:=by
    unfold exR at e;by_cases k10:k=10
    ·refine⟨k10,?_⟩
     subst k10;simp at e;split at e
     ·assumption
     ·simp at e
    ·exfalso
     revert e
     simp only[k10,if_false];repeat' split
     all_goals simp
   have:(exR k s).2.1=2:=by rw[h10.1];simp[exR,h10.2]
   rw[this]at hp;omega
theorem qcj:∀ f:Tr,f.mayP hTf=true->f.shpT
 | .nil,_=>trivial
 | .arm ..,_=>trivial
 | .nod k s n p kids arms r,h=>by
  simp only[Tr.mayP,bA]at h;refine⟨fun e=>?_,qcj kids h.1.2,qcj r h.2⟩;have h1:=h.1.1;unfold hTf at h1;rw[bA,bA]at h1;have hp:=(ji h1.2.2).1;rw[e]at hp;have:(tyR 3).2.1=2:=rfl;rw[this]at hp;omega
theorem qfq{t:Int × LU × Int}(h:qh t):1<=(putB t.1 t.2.1 t.2.2).length:=by
 obtain⟨k,s,n⟩:=t;have hs:∀ l:List LU,(∀ x∈l,x≠[])->s∈l->1<=s.length:=fun l hl hm=>List.length_pos_iff.2 (hl s hm);have hw:∀ x∈qK,x≠[]:=by decide +kernel
 have hg:∀ x∈zC,x≠[]:=by decide +kernel
 have hp:∀ x∈qS,x≠[]:=by decide +kernel
 unfold putB;rcases h with ⟨e,h,_⟩ | ⟨e,h,_⟩ | ⟨e,h⟩ | ⟨e,h⟩ | ⟨e,h,_⟩ | ⟨e,h,_⟩
 all_goals simp only at e h
 all_goals subst e
 ·exact List.length_pos_iff.2 h.1
 ·exact List.length_pos_iff.2 h.1
 ·show 1<=(digB n.toNat).length
  unfold digB byt;rw[List.length_map];exact List.length_pos_iff.2 (Zo _)
 ·simp
 ·rcases h with h | h
  ·exact hs _ hw h
  ·exact hs _ hg h
 ·exact hs _ hp h
theorem ZE:∀ ts:List (Int × LU × Int),(∀ t∈ts,qh t)->ts.length<=(qt ts).length
 | [],_=>lR _
 | [t],h=>qfq (h t (by simp))
 | t::u::ts,h=>by
  have h1:=ZE (u::ts) fun x hx=>h x (mCc _ hx);have h2:=qfq (h t (by simp));simp only[qt,lA,lC]at h1 ⊢;omega
theorem qjf{F r:List Tn}(hF:AllM F)(h:WrR [] F r):wrO (r.map Tn.b)=wrO (F.map Tn.b):=by
 obtain⟨h1,h2⟩:=h.from0;rcases h2 with rfl | h2
 ·rfl
 have mF:∀ t∈F.map Tn.b,qh t:=fun t ht=>by
  obtain⟨x,hx,rfl⟩:=List.mem_map.1 ht;exact hF x hx
 have mr:∀ t∈r.map Tn.b,qh t:=fun t ht=>by
  obtain⟨x,hx,rfl⟩:=List.mem_map.1 ht;exact hF x (h1.subset hx)
 have l1:=ZE _ mF;have l2:=ZE _ mr;have l3:=h1.length_le;rw[List.length_map]at l1 l2;unfold wrO;rw[if_pos mF,if_pos mr,if_neg (by omega),if_neg (by omega)]
theorem TrAt.barep{w:World}{Ok:Nat->Prop}:∀ (f:Tr) (sh:Sh) (b o:Nat),(sh=.ex∨sh=.arms)->TrAt w Ok f sh b o->f.barep
 | .nil,_,_,_,_,_=>trivial
 | .nod k s n p kids arms r,sh,b,o,hs,h=>by
  obtain⟨_,⟨A,cap,_,_,a3⟩,h3,h4⟩:=h;rcases h3 with ⟨e,A2,c2,_,_,a4⟩ | ⟨e | e,_⟩
  ·subst e
   refine⟨?_,?_,TrAt.barep r .ex b _ hs h4⟩
   ·rcases zPp kids.len with e | e
    ·rw[Tr.len_nil kids e];trivial
    ·obtain⟨b',o',_,_,h⟩:=a3 e;exact TrAt.barep kids .ex b' o' (.inl rfl) h
   ·rcases zPp arms.len with e | e
    ·rw[Tr.len_nil arms e];trivial
    ·obtain⟨b',o',_,_,h⟩:=a4 e;exact TrAt.barep arms .arms b' o' (.inr rfl) h
  ·subst e;rcases hs with e | e <;> cases e
  ·subst e;rcases hs with e | e <;> cases e
 | .arm k s n p kids e r,sh,b,o,hs,h=>by
  obtain⟨h0,_,⟨A,cap,_,_,a3⟩,_,h4,h5⟩:=h;refine⟨?_,TrAt.barep e .ex b _ (.inl rfl) h4,TrAt.barep r sh b _ hs h5⟩;rcases zPp kids.len with e | e
  ·rw[Tr.len_nil kids e];trivial
  ·obtain⟨b',o',_,_,h⟩:=a3 e;exact TrAt.bare (.inl rfl) kids b' o' h
theorem KidsTr.barep{w:World}{Ok:Nat->Prop}{sh:Sh}(hs:sh=.ex∨sh=.arms){A:OA}{l c:Nat}{f:Tr}(h:KidsTr w Ok sh A l c f):f.barep:=by
 rcases zPp f.len with e | e
 ·rw[Tr.len_nil f e];trivial
 ·obtain⟨b,o,_,_,h⟩:=h.2.2 (by rw[h.1];exact e)
  exact TrAt.barep f sh b o hs h
noncomputable def exMay (x:Tr):Bool:=(x.pre 0).all (zR (hdX hEf hPf) 60)
theorem QV{w:World}{k:Int}{s:LU}{n:Int}{p:Pl}{A:OA}{c:Nat}{B:OA}{bc:Nat}{kids arms:Tr}(hk:KidsTr w (OldT w) .ex A kids.len c kids)(ha:KidsTr w (OldT w) .arms B arms.len bc arms) :
  exMay (.nod k s n p kids arms .nil)=((Tr.nod k s n p kids arms .nil).mayE hEf hPf&&decide ((Tr.nod k s n p kids arms .nil).depth<=60)):=by
 unfold exMay;rw[(Tr.pre_mayE hEf hPf (.nod k s n p kids arms .nil) 60 0 ⟨hk.isNods (by intro e;cases e),hk.ok,ha.isArms,ha.ok,trivial⟩ ⟨hk.barep (.inl rfl),ha.barep (.inr rfl),trivial⟩).1 trivial];unfold zE;congr 1;apply dDd.2;rw[qeI];simp only[Tr.depth];omega
def FitL(F:List Tn):Prop:=∀ t∈F,fitN t.s t.n
theorem FitL.nil:FitL []:=by intro t h;cases h
theorem FitL.cons{t:Tn}{F:List Tn}(h:fitN t.s t.n)(k:FitL F):FitL (t::F):=fun u hu=>(List.mem_cons.1 hu).elim (fun e=>e ▸ h) (k u)
theorem FitL.app{F G:List Tn}(h:FitL F)(k:FitL G):FitL (F++G):=fun u hu=>(List.mem_append.1 hu).elim (h u) (k u)
theorem qiw{k:Int}{s:LU}(h:s.length<=100):fitN (tk0 k s 0).s (tk0 k s 0).n:=⟨by show s.length<=_;omega,(by decide:(-9223372036854775808:Int)<=0),(by decide:(0:Int)<=9223372036854775807)⟩
theorem FitL.kw{k:Int}{s:LU}{F:List Tn}(h:s.length<=100)(kk:FitL F):FitL (tk0 k s 0::F):=FitL.cons (qiw h) kk
theorem FitL.brk{b:Bool}{F:List Tn}(h:FitL F):FitL (brkL b F):=by
 unfold brkL;split
 ·exact h
 ·exact FitL.kw (by simp) (h.app (FitL.kw (by simp) FitL.nil))
theorem FitL.brkM{md:Nat}{k:Int}{l:Nat}{F:List Tn}(h:FitL F):FitL (brkM md k l F):=by
 unfold Mu.brkM;split
 ·exact h
 split
 ·exact h.brk
 ·exact h.brk
theorem qb2{k:Int}{s:LU}{n:Int}(h:fitN s n):fitN (tk0 k s n).s (tk0 k s n).n:=h
theorem ZZ{k:Int}{s:LU}{n:Int}(h:fitN s n):fitN (tk0 k s 0).s (tk0 k s 0).n:=⟨h.1,(by decide:(-9223372036854775808:Int)<=0),(by decide:(0:Int)<=9223372036854775807)⟩
theorem qai{k:Int}{s:LU}{n:Int}{K:List Tn}(h:fitN s n)(hK:FitL K):FitL (qr k s n K):=by
 unfold qr;split
 ·exact FitL.kw (by simp) FitL.nil
 ·exact FitL.cons (qb2 h) hK
theorem qaQ:∀ f:Tr,f.ints->FitL f.patK
 | .nil,_=>FitL.nil
 | .arm ..,_=>FitL.nil
 | .nod k s n p kids arms r,⟨h0,h1,_,h3⟩=>((qai h0 (qaQ kids h1)).brk).app (qaQ r h3)
theorem qdN(n:Int):fitN (zg n).s (zg n).n:=by
 unfold zg;split
 ·exact⟨by decide,by decide,by decide⟩
 split
 ·exact⟨by decide,by decide,by decide⟩
 ·exact⟨by decide,by decide,by decide⟩
theorem qdr(n:Int):fitN (zi n).s (zi n).n:=by
 unfold zi;split
 ·exact⟨by decide,by decide,by decide⟩
 split
 ·exact⟨by decide,by decide,by decide⟩
 ·exact⟨by decide,by decide,by decide⟩
theorem qa1:∀ (f:Tr) (sep:List Tn),f.ints->FitL sep->FitL (f.tyK sep)
 | .nil,_,_,_=>FitL.nil
 | .arm ..,_,_,_=>FitL.nil
 | .nod k s n p kids arms r,sep,⟨h0,h1,_,h3⟩,hs=>by
  rw[jz];refine ((FitL.brk ?_).app hs).app (qa1 r [] h3 FitL.nil);unfold qv;split
  ·exact qa1 kids _ h1 (FitL.cons (qdr n) FitL.nil)
  ·exact FitL.cons (ZZ h0) (qa1 kids [] h1 FitL.nil)
theorem qdB{k:Int}{s:LU}{n:Int}{K0 K1 K2 KI KS KA:List Tn}(hf:fitN s n)(h0:FitL K0)(h1:FitL K1)(h2:FitL K2)(hI:FitL KI)(hS:FitL KS)(hA:FitL KA) :
  FitL (if k=4 then Q5::tk0 1 s 0::jn::K0
    else if k=6 then zm::tk0 1 s 0::kwEq::KI
    else if k=7 then zm::zY::tk0 1 s 0::kwEq::KI
    else if k=8 then jK::K0++[kwOf]++KA++[zH]
    else if k=5 then K1
    else if (exR k s).1=5 then KS
    else tk0 (exR k s).1 s n::K2):=by
 split
 ·exact FitL.kw (by simp) (FitL.cons (ZZ hf) (FitL.kw (by simp) h0))
 split
 ·exact FitL.kw (by simp) (FitL.cons (ZZ hf) (FitL.kw (by simp) hI))
 split
 ·exact FitL.kw (by simp) (FitL.kw (by simp) (FitL.cons (ZZ hf) (FitL.kw (by simp) hI)))
 split
 ·exact (((FitL.kw (by simp) h0).app (FitL.kw (by simp) FitL.nil)).app hA).app (FitL.kw (by simp) FitL.nil)
 split
 ·exact h1
 split
 ·exact hS
 ·exact FitL.cons (qb2 hf) h2
theorem jf:∀ (f:Tr) (md:Nat) (sep:List Tn),f.ints->FitL sep->FitL (f.exK md sep)
 | .nil,_,_,_,_=>FitL.nil
 | .arm k s n p kids e r,md,sep,⟨h0,h1,h2,h3⟩,hs=>
  (((hs.app (qai h0 (qaQ kids h1))).app (FitL.kw (by simp) FitL.nil)).app (jf e 0 [] h2 FitL.nil)).app (jf r 0 [jq] h3 (FitL.kw (by simp) FitL.nil))
 | .nod k s n p kids arms r,md,sep,⟨h0,h1,h2,h3⟩,hs=>
  (((qdB h0 (jf kids 0 [] h1 FitL.nil) (jf kids 1 [] h1 FitL.nil) (jf kids 2 [] h1 FitL.nil) (jf kids 0 [kwIn] h1 (FitL.kw (by simp) FitL.nil)) (jf kids 2 [tk0 5 s n] h1 (FitL.cons (qb2 h0) FitL.nil)) (jf arms 0 [jj] h2 (FitL.kw (by simp) FitL.nil))).brkM).app hs).app (jf r (nxM md) [] h3 FitL.nil)
theorem qbj(k:Int)(s:LU)(n:Int)(p:Pl)(kids arms:Tr):(Tr.nod k s n p kids arms .nil).exK 0 []=qe k s n kids arms:=jh k s n p kids arms
theorem Wri.toks{W:World}{base wp:Nat}{xs:List Tn}(h:Wri W base wp xs):∃ A n c,W.cell? ⟨wp,0,none⟩=some (.slice A n c)/\RTn W W.heap.size A n xs:=by
 obtain⟨_,_,A,n,c,hc,hn,ho⟩:=h;refine⟨A,n,c,by simp[World.cell?,hc],hn,fun h0=>?_⟩;obtain⟨g,cp,hv,_,hgl⟩:=ho.form h0;cases hv;refine⟨g,0,rfl,hgl,fun k x hx=>?_⟩;have hcs:=ho.cells (g:=g) rfl;have key:∀ j v,x.cells[j]?=some v->W.cell? ⟨g,0+k*6+j,none⟩=some v:=fun j v hv=>by
  have:=hcs (k*6+j) v (QX xs k x hx j v hv);rw[Addr.add_lit]at this;rw[<- this];congr 2;omega
 exact⟨key 0 _ rfl,key 1 _ rfl,key 2 _ rfl,key 3 _ rfl,key 4 _ rfl,key 5 _ rfl⟩
theorem Wri.new(w:World):Wri (w.alloc (.cells #[.slice none 0 0] 66)) (w.heap.size+1) w.heap.size []:=
 ⟨by omega,by simp,none,0,0,blk1 w _,rfl,World.ownsRow_nil _ _ _ _⟩
theorem qbV{w0 W:World}{base wp:Nat}{F r:List Tn}(ht:Tbl W)(hw:Wri W base wp r)(hr:WrR [] F r)(hl:r.length<=5000)(hF:FitL F)(hM:AllM F) :
  ∃ A n c,W.cell? ⟨wp,0,none⟩=some (.slice A n c)/\Calls Tryz.prog 20 #[.slice A n c] W (StR (.tuple #[.string ⟨(wrO (F.map Tn.b)).1.toArray⟩,.int .i64 (wrO (F.map Tn.b)).2]) W):=by
 obtain⟨A,n,c,hc,hT⟩:=hw.toks;have hn:=hT.1;refine⟨A,n,c,hc,?_⟩;have h:=JU (cp:=c) W ht hT (by omega) (fun x hx=>hF x (hr.from0.1.subset hx));rw[qjf hM hr]at h;exact h
noncomputable def dcMay (x:Dc):Bool:=if x.kd=1 then daMay x else if x.kd=2 then mtB (1,x.nm,0)&&decide (x.ps.length=0)&&decide (x.cs.length=0)&&(x.tr.pre 0).all (zR (hdX hEf hPf) 60) else false
theorem qb6(kd:Int)(nm:LU)(q:Pl)(PA:OA)(pc:Nat)(ps:List LU)(CA:OA)(cc:Nat)(cs:List Cd)(rc:Bool)(k:Int)(s:LU)(n:Int)(p:Pl)(A:OA)(c:Nat)(B:OA)(bc:Nat)(kids arms:Tr)(w:World)(hp:RowOf 1 SAt w (OldT w) PA ps.length pc ps)(hc:RowOf 5 CdAt w (OldT w) CA cs.length cc cs)(hk:KidsTr w (OldT w) .ex A kids.len c kids)(ha:KidsTr w (OldT w) .arms B arms.len bc arms)(hg:cs.length<=1000000/\ps.length<=1100000/\kids.size+arms.size<=900000/\∀ c∈cs,c.good)(ht:Tbl w)(hi:Dc.ints ⟨kd,nm,q,ps,cs,rc,k,s,n,p,kids,arms⟩) :
  Calls Tryz.prog 18 #[.agg #[.int .u8 kd,.string ⟨nm.toArray⟩,q.a,q.l,q.c,.slice PA ps.length pc,.slice CA cs.length cc,.bool rc,.int .u8 k,.string ⟨s.toArray⟩,n,p.a,p.l,p.c,.slice A kids.len c,.slice B arms.len bc]] w (qu (dcMay ⟨kd,nm,q,ps,cs,rc,k,s,n,p,kids,arms⟩) w):=by
 have HD:Hid (∀ W,Bel w W->Calls Tryz.prog 39 #[.agg #[.int .u8 kd,.string ⟨nm.toArray⟩,q.a,q.l,q.c,.slice PA ps.length pc,.slice CA cs.length cc,.bool rc,.int .u8 k,.string ⟨s.toArray⟩,n,p.a,p.l,p.c,.slice A kids.len c,.slice B arms.len bc]] W (qu (daMay ⟨kd,nm,q,ps,cs,rc,k,s,n,p,kids,arms⟩) W)):=hid fun W hW=>qb5 kd nm q PA pc ps CA cc cs rc k s n p A c B bc kids arms W (hp.bel jx hW) (hc.bel zN hW) (hk.bel hW) (ha.bel hW) hg (ht.bel hW) hi;have HTK:Hid (∀ W,Bel w W->Calls Tryz.prog 40 #[tokV 1 ⟨nm.toArray⟩] W (qu (mtB (1,nm,0)) W)):=hid fun W hW=>Qd 1 nm 0 ⟨0,0,0⟩ W (ht.bel hW) hi.1 (by decide) (by decide);have HX:Hid (∀ (g:Nat) (t:TypeId) (W:World),Bel w W->W.heap[g]?=some (.cells #[.int .u8 k,.string ⟨s.toArray⟩,n,p.a,p.l,p.c,.slice A kids.len c,.slice B arms.len bc] t (0,0)) →
   Calls Tryz.prog 24 #[.int .i64 60,.slice (some ⟨g,0,none⟩) 1 1,.func (.func 25) #[] #[],.func (.func 26) #[] #[]] W (qu (((Tr.nod k s n p kids arms .nil).pre 0).all (zR (hdX hEf hPf) 60)) W)):=hid fun g t W hW h1=>by
  have e1:=QF (sh:= .ex) (by intro e;cases e) hk (.inl ⟨rfl,ha⟩) hW h1;exact qah 60 _ 1 1 _ W e1 (by have:=hg.2.2.1;simp only[Tr.size];omega) (by decide) (ht.bel hW) hi.2.2.2
 obtain⟨r,hr⟩:=nW (dcMay ⟨kd,nm,q,ps,cs,rc,k,s,n,p,kids,arms⟩);rw[<- hr];obtain⟨rd,hrd⟩:=nW (daMay ⟨kd,nm,q,ps,cs,rc,k,s,n,p,kids,arms⟩);obtain⟨rx,hrx⟩:=nW (((Tr.nod k s n p kids arms .nil).pre 0).all (zR (hdX hEf hPf) 60));obtain⟨rt,hrt⟩:=nW (mtB (1,nm,0));have HR:Hid (r=(if kd=1 then rd else if kd=2 then rt&&decide (ps.length=0)&&decide (cs.length=0)&&rx else false)):=hid (by rw[hr,hrd,hrt,hrx];rfl);have hcl:=hg.1;have hpl:=hg.2.1;rw[<- hrd]at HD;rw[<- hrx]at HX;rw[<- hrt]at HTK;obtain⟨kl,hl1⟩:=nW kids.len;obtain⟨al,hl3⟩:=nW arms.len;obtain⟨pl,hl5⟩:=nW ps.length;obtain⟨cl,hl7⟩:=nW cs.length;obtain⟨S,hS⟩:=nW (⟨s.toArray⟩:BA);obtain⟨NM,hNM⟩:=nW (⟨nm.toArray⟩:BA);rw[<- hl5,<- hl7]at HR;rw[<- hl5]at hpl;rw[<- hl7]at hcl;rw[<- hl1,<- hl3,<- hS]at HX;rw[<- hNM]at HTK;rw[<- hl1,<- hl3,<- hl5,<- hl7,<- hS,<- hNM]at HD ⊢;clear hp hc hk ha hg ht hi hr hrd hrx hrt hl1 hl3 hl5 hl7 hS hNM;have HB1:=hid ((Bel.refl w).alloc (.cells #[.int .u8 kd,NM,q.a,q.l,q.c,.slice PA pl pc,.slice CA cl cc,.bool rc,.int .u8 k,S,n,p.a,p.l,p.c,.slice A kl c,.slice B al bc] 52));by_cases h1:kd=1
 ·subst h1
  obtain rfl:r=rd:=by rw[HR.out];rfl
  clear HTK HX HR;go_enter Tryz.func18,Tryz.ntmps18;go_wp2_with fail;refine (HD _ HB1).mono ?_;rintro e w5 ⟨rfl,hb5⟩;have HB5:=hid (HB1.on hb5);clear hb5;go_wp2_with fail;go_ret;exact⟨rfl,HB5⟩
 have k1:(kd==1)=false:=by simpa using h1
 by_cases h2:kd=2
 case neg=>
  obtain rfl:r=false:=by rw[HR.out,if_neg h1,if_neg h2]
  have k2:(kd==2)=false:=by simpa using h2
  clear HTK HX HR HD h1 h2;go_enter Tryz.func18,Tryz.ntmps18;go_wp2_with fail;go_ret;exact⟨rfl,HB1⟩
 subst h2;have HR2:Hid (r=(rt&&decide (pl=0)&&decide (cl=0)&&rx)):=hid (by rw[HR.out,if_neg (by decide),if_pos rfl]);clear HR HD h1 k1;have hq1:=blk1 w (.cells #[.int .u8 2,NM,q.a,q.l,q.c,.slice PA pl pc,.slice CA cl cc,.bool rc,.int .u8 k,S,n,p.a,p.l,p.c,.slice A kl c,.slice B al bc] 52);go_enter Tryz.func18,Tryz.ntmps18;go_wp2_with fail;obtain⟨w1,hw1⟩:=nW (w.alloc (.cells #[.int .u8 2,NM,q.a,q.l,q.c,.slice PA pl pc,.slice CA cl cc,.bool rc,.int .u8 k,S,n,p.a,p.l,p.c,.slice A kl c,.slice B al bc] 52));rw[<- hw1]at HB1 hq1 ⊢;have HQ1:=hid hq1;clear hq1 hw1;refine (zK _ _).mono ?_;rintro e w5 ⟨rfl,hb5⟩;have HB5:=hid hb5;clear hb5;go_wp2_with fail;refine (HTK _ (HB1.on HB5)).mono ?_;rintro e w6 ⟨rfl,hb6⟩;have HB6:=hid (HB5.on hb6);clear hb6 HTK;cases rt
 ·obtain rfl:r=false:=by rw[HR2.out];simp
  go_wp2_with fail;go_ret;exact⟨rfl,HB1.on HB6⟩
 have hq6:=HB6.blk HQ1;obtain⟨x5,x6'⟩:=qac hq6;obtain⟨x6,x7,x8,x9,x10,x11,x12,x13,x14,x15⟩:=qdv hq6;have kb:w.heap.size<w6.heap.size:=(aJ.1 hq6).1;clear hq6 x5;by_cases hp0:pl=0
 case neg=>
  obtain rfl:r=false:=by rw[HR2.out];simp[hp0]
  have e0:((pl:Int)==0)=false:=by simp;omega
  go_wp2_with fail;go_ret;exact⟨rfl,HB1.on HB6⟩
 subst hp0;by_cases hc0:cl=0
 case neg=>
  obtain rfl:r=false:=by rw[HR2.out];simp[hc0]
  have e0:((cl:Int)==0)=false:=by simp;omega
  go_wp2_with fail;go_ret;exact⟨rfl,HB1.on HB6⟩
 subst hc0;obtain rfl:r=rx:=by rw[HR2.out];simp
 have q4:=blk1 w6 (.cells #[.int .u8 k,S,n,p.a,p.l,p.c,.slice A kl c,.slice B al bc] 28);have HC2:=hid (HX w6.heap.size _ _ ((HB1.on HB6).alloc _) q4);have HB7:=hid (HB6.alloc (.cells #[.int .u8 k,S,n,p.a,p.l,p.c,.slice A kl c,.slice B al bc] 28));clear q4 HX;go_wp2_with fail;refine HC2.out.mono ?_;rintro e w7 ⟨rfl,hb7⟩;have HB8:=hid (HB7.on hb7);clear hb7 x6 x6' x7 x8 x9 x10 x11 x12 x13 x14 x15 kb;go_wp2_with fail;go_ret;exact⟨rfl,HB1.on HB8⟩
def Dc.mok(x:Dc):Prop:=(x.tr.isNods/\x.tr.ok/\x.tr.barep)/\∀ c∈x.cs,∀ f∈c.fs,f.tr.bare
theorem RowOf.mem{α:Type}{sz:Nat}{At:World->(Nat->Prop)->Nat->Nat->α->Prop}{w:World}{Ok:Nat->Prop}{A:OA}{n c:Nat}{xs:List α}(h:RowOf sz At w Ok A n c xs){x:α}(hx:x∈xs):∃ b o,At w Ok b o x:=by
 obtain⟨i,hi⟩:=List.getElem?_of_mem hx;have hn:=h.1;have:=(eJ.1 hi).1;obtain⟨b,o,_,_,ha⟩:=h.2.2 (by omega);exact⟨b,_,ha i x hi⟩
theorem DcAt.mok{w:World}{Ok:Nat->Prop}{b o:Nat}{x:Dc}(h:DcAt w Ok b o x):x.mok:=by
 obtain⟨_,_,_,_,_,_,⟨CA,cc,_,hc⟩,_,ht⟩:=h;refine⟨⟨TrAt.isNods (by intro e;cases e) _ _ _ ht,TrAt.ok _ _ _ _ ht,TrAt.barep _ _ _ _ (.inl rfl) ht⟩,fun c hcm f hf=>?_⟩;obtain⟨b2,o2,_,_,_,_,A,c2,_,hfs⟩:=hc.mem hcm;obtain⟨b3,o3,_,ht3⟩:=hfs.mem hf;exact TrAt.bare (.inr rfl) _ _ _ ht3
theorem qaM{t:Int × LU × Int}(h:mtB t=true):qh t:=by simpa [mtB] using h
theorem qhQ{f:Fd}(h:fdMay f=true)(hb:f.tr.bare):f.tr.mayP hTf=true:=by
 unfold fdMay at h;rw[bA,Tr.pre_mayP hTf f.tr 60 0 hb]at h;unfold zE at h;rw[bA]at h;exact h.2.1
theorem qcQ:∀ fs:List Fd,(∀ f∈fs,fdMay f=true/\f.tr.bare)->AllM (fdsK fs)
 | [],_=>AllM.nil
 | f::fs,h=>by
  obtain⟨h1,h2⟩:=h f (List.mem_cons_self ..);have ht:=JI f.tr [] (qhQ h1 h2) AllM.nil;have e:f.tr.tyK []=brkL (alnT f.k f.kids.len) (qv f.k f.s f.n f.kids):=by
   show (Tr.nod f.k f.s f.n f.p f.kids .nil .nil).tyK []=_;rw[jz];simp[Tr.tyK]
  rw[e]at ht;exact (AllM.cons qdO ht).app (qcQ fs fun g hg=>h g (mCc _ hg))
theorem qbb:∀ (cs:List Cd) (ah:LU),qh (tk0 5 ah 0).b->(∀ c∈cs,cdMay c=true/\∀ f∈c.fs,f.tr.bare)->AllM (jH ah cs)
 | [],_,_,_=>AllM.nil
 | c::cs,ah,hah,h=>by
  obtain⟨h1,h2⟩:=h c (List.mem_cons_self ..);unfold cdMay at h1;rw[bA,List.all_eq_true]at h1;exact ((hah |> AllM.cons) ((qaM h1.2 |> AllM.cons (t:=tk0 2 c.nm 0)) (qcQ c.fs fun f hf=>⟨h1.1 f hf,h2 f hf⟩))).app (qbb cs [124] (ZJ _ (by simp)) fun d hd=>h d (mCc _ hd))
theorem qfp:∀ ps:List LU,(∀ s∈ps,mtB (1,s,0)=true)->AllM (psK ps)
 | [],_=>AllM.nil
 | s::ps,h=>AllM.cons (t:=tk0 1 s 0) (qaM (h s (List.mem_cons_self ..))) (qfp ps fun t ht=>h t (mCc _ ht))
theorem qhP{x:Dc}(h:(x.tr.pre 0).all (zR (hdX hEf hPf) 60)=true)(hm:x.mok):x.tr.mayE hEf hPf=true:=by
 rw[(Tr.pre_mayE hEf hPf x.tr 60 0 hm.1.2.1 hm.1.2.2).1 hm.1.1]at h;unfold zE at h;rw[bA]at h;exact h.1
theorem qcH{x:Dc}(h:daMay x=true):(∀ s∈x.ps,mtB (1,s,0)=true)/\(∀ c∈x.cs,cdMay c=true)/\mtB (2,x.nm,0)=true/\0<x.cs.length/\x.rc=false/\x.tr.same JY=true:=by
 unfold daMay at h;simp only[bA,List.all_eq_true,pE,Bool.not_eq_true']at h;exact⟨h.1.1.1.1.1,h.1.1.1.1.2,h.1.1.1.2,h.1.1.2,h.1.2,h.2⟩
theorem qcJ{x:Dc}(h:dcMay x=true):(x.kd=1/\daMay x=true)∨(x.kd=2/\mtB (1,x.nm,0)=true/\x.ps=[]/\x.cs=[]/\(x.tr.pre 0).all (zR (hdX hEf hPf) 60)=true):=by
 unfold dcMay at h;by_cases h1:x.kd=1
 ·rw[if_pos h1]at h
  exact .inl ⟨h1,h⟩
 rw[if_neg h1]at h;by_cases h2:x.kd=2
 ·rw[if_pos h2]at h
  simp only[bA,pE]at h;exact .inr ⟨h2,h.1.1.1,List.length_eq_zero_iff.1 h.1.1.2,List.length_eq_zero_iff.1 h.1.2,h.2⟩
 ·rw[if_neg h2]at h
  cases h
theorem qii{x:Dc}(h:dcMay x=true)(hm:x.mok):AllM (dcK x):=by
 unfold dcK;rcases qcJ h with ⟨e,h⟩ | ⟨e,hn,_,_,h⟩
 ·rw[if_pos e]
  obtain⟨h1,h2,h3,_⟩:=qcH h;exact (AllM.kw (by simp) (AllM.cons (t:=tk0 2 x.nm 0) (qaM h3) (qfp x.ps h1))).app (qbb x.cs [61] (ZJ kwEq (by simp)) fun c hc=>⟨h2 c hc,hm.2 c hc⟩)
 ·rw[if_neg (by rw[e];decide)]
  have h4:=zp x.tr 0 [] (qhP h hm) AllM.nil;have e4:x.tr.exK 0 []=qe x.k x.s x.n x.kids x.arms:=jh x.k x.s x.n x.ep x.kids x.arms;rw[e4]at h4;refine ((AllM.app (F:=zm::(if x.rc then [zY] else [])) (AllM.kw (by simp) ?_) (AllM.cons (t:=tk0 1 x.nm 0) (qaM hn) (AllM.kw (by simp) AllM.nil)))).app h4;split
  ·exact AllM.kw (by simp) AllM.nil
  ·exact AllM.nil
theorem qjy{x:Dc}(h:dcMay x=true)(hm:x.mok)(hg:x.good):x.shw:=by
 unfold Dc.shw;rcases qcJ h with ⟨e,h⟩ | ⟨e,hn,_,_,h⟩
 ·rw[if_pos e]
  obtain⟨_,h2,_⟩:=qcH h;intro c hc;have hgc:=hg.2.2.2 c hc;refine⟨hgc.1,fun f hf=>⟨by have:=hgc.2 f hf;unfold Fd.good at this;omega,?_⟩⟩;have h3:=h2 c hc;unfold cdMay at h3;rw[bA,List.all_eq_true]at h3;exact qcj _ (qhQ (h3.1 f hf) (hm.2 c hc f hf))
 ·rw[if_neg (by rw[e];decide)]
  exact JC _ (qhP h hm)
theorem qcO:∀ fs:List Fd,(∀ f∈fs,f.ints)->FitL (fdsK fs)
 | [],_=>FitL.nil
 | f::fs,h=>by
  have ht:=qa1 f.tr [] (h f (List.mem_cons_self ..)) FitL.nil;have e:f.tr.tyK []=brkL (alnT f.k f.kids.len) (qv f.k f.s f.n f.kids):=by
   show (Tr.nod f.k f.s f.n f.p f.kids .nil .nil).tyK []=_;rw[jz];simp[Tr.tyK]
  rw[e]at ht;exact (FitL.cons (qdN _) ht).app (qcO fs fun g hg=>h g (mCc _ hg))
theorem qcR{k:Int}{s:LU}(h:s.length<=140737488355328):fitN (tk0 k s 0).s (tk0 k s 0).n:=⟨h,(by decide:(-9223372036854775808:Int)<=0),(by decide:(0:Int)<=9223372036854775807)⟩
theorem qa9:∀ (cs:List Cd) (ah:LU),ah.length<=100->(∀ c∈cs,c.nm.length<=140737488355328/\∀ f∈c.fs,f.ints)->FitL (jH ah cs)
 | [],_,_,_=>FitL.nil
 | c::cs,ah,hah,h=>by
  obtain⟨h1,h2⟩:=h c (List.mem_cons_self ..);exact ((FitL.kw hah) ((FitL.cons (qcR h1)) (qcO c.fs h2))).app (qa9 cs [124] (by simp) fun d hd=>h d (mCc _ hd))
theorem qfn:∀ ps:List LU,(∀ s∈ps,s.length<=140737488355328)->FitL (psK ps)
 | [],_=>FitL.nil
 | s::ps,h=>FitL.cons (qcR (h s (List.mem_cons_self ..))) (qfn ps fun t ht=>h t (mCc _ ht))
theorem qih{x:Dc}(h:x.ints):FitL (dcK x):=by
 obtain⟨h1,h2,h3,h4⟩:=h;unfold dcK;split
 ·exact (FitL.kw (by simp) (FitL.cons (qcR h1) (qfn x.ps h2))).app (qa9 x.cs [61] (by simp) h3)
 ·have h5:=jf x.tr 0 [] h4 FitL.nil
  have e5:x.tr.exK 0 []=qe x.k x.s x.n x.kids x.arms:=jh x.k x.s x.n x.ep x.kids x.arms;rw[e5]at h5;refine ((FitL.app (F:=zm::(if x.rc then [zY] else [])) (FitL.kw (by simp) ?_) (FitL.cons (qcR h1) (FitL.kw (by simp) FitL.nil)))).app h5;split
  ·exact FitL.kw (by simp) FitL.nil
  ·exact FitL.nil
def dsK:List Dc->List Tn
 | []=>[]
 | x::xs=>dcK x++dsK xs
theorem qgD{xs:List Dc}{j:Nat}{x:Dc}(h:xs[j]?=some x):dsK (xs.drop j)=dcK x++dsK (xs.drop (j+1)):=by
 obtain⟨h1,h2⟩:=eJ.1 h;rw[List.drop_eq_getElem_cons h1,h2];rfl
theorem qaB:∀ xs:List Dc,(∀ x∈xs,dcMay x=true/\x.mok)->AllM (dsK xs)
 | [],_=>AllM.nil
 | x::xs,h=>(qii (h x (List.mem_cons_self ..)).1 (h x (List.mem_cons_self ..)).2).app (qaB xs fun y hy=>h y (mCc _ hy))
theorem qeN:∀ xs:List Dc,(∀ x∈xs,x.ints)->FitL (dsK xs)
 | [],_=>FitL.nil
 | x::xs,h=>(qih (h x (List.mem_cons_self ..))).app (qeN xs fun y hy=>h y (mCc _ hy))
noncomputable def tlO (xs:List Dc):LU × Int:=if xs.all dcMay then wrO ((dsK xs).map Tn.b) else ([],2)
end Go.Proofs.YtmloadclmjcbbaaGreatDoor.Mu
namespace Go.Proofs.YtmloadclmjcbbaaGreatDoor.Mu
set_option maxHeartbeats 4000000
open Go.RowKit Go.Shelf
set_option maxRecDepth 100000
theorem qfi(w:World)(d:Int)(c:Nat)(hd:c=d.toNat):(convert 89 9 (.slice (some ⟨w.heap.size,0,none⟩) 1 1)).run Tryz.prog (w.alloc (.cells #[.int .u8 d] 5))=.ok (.string ⟨#[UInt8.ofNat c]⟩) (w.alloc (.cells #[.int .u8 d] 5)):=by
 have:=zQ (w:=w.alloc (.cells #[.int .u8 d] 5)) (g:=w.heap.size) (t:=5) [d] (blk1 w _) 1 rfl 1;rw[this,hd];rfl
theorem qbe(n:Int)(h0:0<=n)(hs:n<10)(w:World):Calls Tryz.prog 110 #[.int .i64 n] w (StR (.string ⟨(digB n.toNat).toArray⟩) w):=by
 have hc:=qfi w (48+n) (48+n.toNat) (by omega);obtain⟨S,hS⟩:=nW (⟨#[UInt8.ofNat (48+n.toNat)]⟩:BA);have hw1:IntKind.i64.wrap (48+n)=48+n:=by apply IntWalk.i64_in;omega
 have hw2:IntKind.u8.wrap (48+n)=48+n:=IntWalk.u8_in _ (by omega);have hd:=dT hs;have HR:Hid ((⟨(digB n.toNat).toArray⟩:BA)=S):=hid (by rw[Qm (by omega),hS]);rw[<- hS]at hc;clear hs h0 hS;rw[HR.out];go_enter Tryz.func110,Tryz.ntmps110;go_wp2;go_ret;exact⟨rfl,(Bel.refl w).alloc _⟩
theorem qbf:∀ (m:Nat) (n:Int),n.toNat<=m->0<=n->n<=9223372036854775807->∀ w:World,Calls Tryz.prog 110 #[.int .i64 n] w (StR (.string ⟨(digB n.toNat).toArray⟩) w):=by
 intro m;induction m with
 | zero=>
  intro n hm h0 h1 w;exact qbe n h0 (by omega) w
 | succ m ih=>
  intro n hm h0 h1 w;by_cases hs:n<10
  ·exact qbe n h0 hs w
  ·have hq:n.tdiv 10=((n.toNat / 10:Nat):Int):=by rw[Int.tdiv_eq_ediv_of_nonneg h0];omega
   have hr:n.tmod 10=((n.toNat % 10:Nat):Int):=by rw[Int.tmod_eq_emod_of_nonneg h0];omega
   have hIH:=fun W=>ih (n.tdiv 10) (by omega) (by omega) (by omega) W;have hz:(digB (n.tdiv 10).toNat).length<=19:=QS 18 _ (by omega);obtain⟨T,hT⟩:=nW (⟨(digB (n.tdiv 10).toNat).toArray⟩:BA);have hts:T.size<=19:=by rw[hT];simpa [ByteArray.size] using hz
   obtain⟨S,hS⟩:=nW (⟨#[UInt8.ofNat (48+n.toNat % 10)]⟩:BA);have hss:S.size=1:=by rw[hS];rfl
   have HR:Hid ((⟨(digB n.toNat).toArray⟩:BA)=T++S):=hid (by
    have e1:(n.tdiv 10).toNat=n.toNat / 10:=by omega
    rw[Jl (by omega),hT,hS,e1];apply ByteArray.ext;simp)
   have HC0:Hid (∀ W:World,(convert 89 9 (.slice (some ⟨W.heap.size,0,none⟩) 1 1)).run Tryz.prog (W.alloc (.cells #[.int .u8 (48+n.tmod 10)] 5))=.ok (.string S) (W.alloc (.cells #[.int .u8 (48+n.tmod 10)] 5))):=hid fun W=>by
    rw[hS];exact qfi W _ _ (by omega)
   have HC1:Hid (∀ W:World,Bel (w.alloc (.cells #[.int .u8 (48+n.tmod 10)] 5)) W->(convert 89 9 (.slice (some ⟨w.heap.size,0,none⟩) 1 1)).run Tryz.prog W=.ok (.string S) W):=hid fun W hW=>by
    have:=zQ (w:=W) (g:=w.heap.size) (t:=5) [48+n.tmod 10] (hW.blk (blk1 w _)) 1 rfl 1;have e1:(48+n.tmod 10).toNat=48+n.toNat % 10:=by omega
    rw[this,hS,<- e1];rfl
   rw[<- hT]at hIH;have HIH:=hid hIH;have hw0:IntKind.i64.wrap (n.tdiv 10)=n.tdiv 10:=by apply IntWalk.i64_in;omega
   have hw1:IntKind.i64.wrap (48+n.tmod 10)=48+n.tmod 10:=by apply IntWalk.i64_in;omega
   have hw2:IntKind.u8.wrap (48+n.tmod 10)=48+n.tmod 10:=IntWalk.u8_in _ (by omega);have hcat:¬ (9223372036854775807<T.size+1):=by omega
   have hd:=dF hs;clear hIH ih hq hr hz hT hts hS hs h0 h1 hm;rw[HR.out];have hc0:=HC0.out;have hc3:=HC1.out _ (Bel.refl _).drew;go_enter Tryz.func110,Tryz.ntmps110;go_wp2_with fail;go_region_with (go_at_call 110;refine (HIH _).mono ?_;rintro e w1 ⟨rfl,hb⟩;(have HB:=hid hb);(first | (have hc1:=HC1.out _ hb) | (have hc1:=HC1.out _ ((Bel.refl _).drew.on hb)) | skip);clear hb);all_goals go_wp2
   all_goals go_ret
   all_goals first | exact⟨rfl,((Bel.refl w).drew.on HB).alloc _⟩ | exact⟨rfl,((Bel.refl w).alloc _).drew.on HB⟩
theorem qan(n:Int)(h0:0<=n)(h1:n<=9223372036854775807)(w:World):Calls Tryz.prog 110 #[.int .i64 n] w (StR (.string ⟨(digB n.toNat).toArray⟩) w):=qbf n.toNat n (lR _) h0 h1 w
set_option maxHeartbeats 8000000
theorem qe0{c:Int}(h:isGr c=true):isSm c=false:=by
 unfold isGr at h;unfold isSm;simp only[pE]at h;exact dF (by omega)
theorem jt(u:UInt8):wrap32 (u.toNat:Int)=(u.toNat:Int):=IntWalk.wrap32_in _ (by have:=u.toNat_lt;omega)
theorem qes(S:BA):(⟨S.data.toList.toArray⟩:BA)=S:=by simp
theorem qgu(S:BA)(h:0<S.size):(asc S.data.toList).headD 0=((S[0]'h).toNat:Int):=by
 obtain⟨⟨l⟩⟩:=S
 match l,h with
 | u::t,h=>rfl
theorem qhK{S:BA}{u:UInt8}(h:u∈S.data.toList):∃ (j:Nat) (hj:j<S.size),S[j]'hj=u:=by
 obtain⟨j,hj,e⟩:=List.getElem_of_mem h;exact⟨j,by rw[Array.length_toList]at hj;exact hj,e⟩
theorem qjp{S:BA}{j:Nat}(hj:j<S.size):S[j]'hj∈S.data.toList:=by
 have:j<S.data.toList.length:=by rw[Array.length_toList];exact hj
 have h2:=List.getElem_mem this;exact h2
open Classical in
theorem qaq(S:BA)(big:Bool)(w:World):Calls Tryz.prog 100 #[.string S,.bool big] w (StR (.bool (decide (Qx S.data.toList big))) w):=by
 obtain⟨ans,hans⟩:=nW (decide (Qx S.data.toList big));rw[<- hans];have hlen:S.data.toList.length=S.size:=Array.length_toList;by_cases hz:S.size=0
 ·have:ans=false:=by rw[hans];exact dF fun h=>h.1 (List.eq_nil_of_length_eq_zero (by omega))
  subst this;have d1:((S.size:Int)==0)=true:=by rw[hz];rfl
  go_enter Tryz.func100,Tryz.ntmps100;go_wp2;go_ret;exact⟨rfl,Bel.refl w⟩
 have hS0:0<S.size:=by omega
 have d1:((S.size:Int)==0)=false:=beq_eq_false_iff_ne.2 (by omega);by_cases h24:24<S.size
 ·have:ans=false:=by rw[hans];exact dF fun h=>by have:=h.2.1;omega
  subst this;have d2:decide ((24:Int)<(S.size:Int))=true:=dT (by omega);go_enter Tryz.func100,Tryz.ntmps100;go_wp2;go_ret;exact⟨rfl,Bel.refl w⟩
 have d2:decide ((24:Int)<(S.size:Int))=false:=dF (by omega);have hw32:=jt (S[0]'hS0);have hhd:=qgu S hS0;have HAN:Hid (ans=decide ((∀ u∈S.data.toList,isW (u.toNat:Int)=true)/\(if big=true then isGr ((S[0]'hS0).toNat:Int)=true else isSm ((S[0]'hS0).toNat:Int)=true)/\S.data.toList ∉ qK/\S.data.toList ∉ qS)):=hid (by
  rw[hans];refine dDd.2 ?_;unfold Qx;rw[hhd];constructor
  ·rintro⟨-,-,h⟩;exact h
  ·intro h;exact⟨fun e=>by rw[e]at hlen;have:(0:Nat)=S.size:=hlen;omega,by omega,h⟩)
 have HHAS:Hid (∀ (A:OA) (n c:Nat) (ts:List LU) (W:World),n<=1000000->RL W W.heap.size A n ts->Calls Tryz.prog 131 #[.slice A n c,S] W fun e w'=>e=.returned (.bool (decide (S.data.toList∈ts)))/\W=w'):=hid fun A n c ts W hn hr=>by
  have:=qc2 (c:=c) S.data.toList hn W hr;rw[qes]at this;exact this
 clear hhd hans;have hcase:(big=false/\isGr ((S[0]'hS0).toNat:Int)=true)∨(big=true/\isGr ((S[0]'hS0).toNat:Int)=false)∨(big=false/\isGr ((S[0]'hS0).toNat:Int)=false/\isSm ((S[0]'hS0).toNat:Int)=false)∨(big=true/\isGr ((S[0]'hS0).toNat:Int)=true)∨(big=false/\isGr ((S[0]'hS0).toNat:Int)=false/\isSm ((S[0]'hS0).toNat:Int)=true):=by
  cases big <;> cases isGr ((S[0]'hS0).toNat:Int) <;> cases isSm ((S[0]'hS0).toNat:Int) <;> decide
 rcases hcase with ⟨rfl,hg⟩ | ⟨rfl,hg⟩ | ⟨rfl,hg,hs⟩ | ⟨rfl,hg⟩ | ⟨rfl,hg,hs⟩
 ·have:ans=false:=by rw[HAN.out];exact dF fun h=>by have:=h.2.1;rw[if_neg (by decide),qe0 hg]at this;cases this
  subst this;have HG:Hid (∀ W,Calls Tryz.prog 128 #[.int .i32 (wrap32 ((S[0]'hS0).toNat:Int))] W fun e w'=>e=.returned (.bool true)/\W=w'):=hid fun W=>by rw[jt,<- hg];exact je _ W
  clear hw32;go_enter Tryz.func100,Tryz.ntmps100;go_wp2_with fail;refine (HG _).mono ?_;rintro e w' ⟨rfl,rfl⟩;go_wp2;go_ret;exact⟨rfl,Bel.refl w⟩
 ·have:ans=false:=by rw[HAN.out];exact dF fun h=>by have:=h.2.1;rw[if_pos rfl,hg]at this;cases this
  subst this;have HG:Hid (∀ W,Calls Tryz.prog 128 #[.int .i32 (wrap32 ((S[0]'hS0).toNat:Int))] W fun e w'=>e=.returned (.bool false)/\W=w'):=hid fun W=>by rw[jt,<- hg];exact je _ W
  clear hw32;go_enter Tryz.func100,Tryz.ntmps100;go_wp2_with fail;refine (HG _).mono ?_;rintro e w' ⟨rfl,rfl⟩;go_wp2;go_ret;exact⟨rfl,Bel.refl w⟩
 ·have:ans=false:=by rw[HAN.out];exact dF fun h=>by have:=h.2.1;rw[if_neg (by decide),hs]at this;cases this
  subst this;have HG:Hid (∀ W,Calls Tryz.prog 128 #[.int .i32 (wrap32 ((S[0]'hS0).toNat:Int))] W fun e w'=>e=.returned (.bool false)/\W=w'):=hid fun W=>by rw[jt,<- hg];exact je _ W
  have HS:Hid (∀ W,Calls Tryz.prog 129 #[.int .i32 (wrap32 ((S[0]'hS0).toNat:Int))] W fun e w'=>e=.returned (.bool false)/\W=w'):=hid fun W=>by rw[jt,<- hs];exact Zw _ W
  clear hw32;go_enter Tryz.func100,Tryz.ntmps100;go_wp2_with fail;refine (HG _).mono ?_;rintro e w' ⟨rfl,rfl⟩;go_wp2_with fail;refine (HS _).mono ?_;rintro e w' ⟨rfl,rfl⟩;go_wp2;go_ret;exact⟨rfl,Bel.refl w⟩
 ·have HG:Hid (∀ W,Calls Tryz.prog 128 #[.int .i32 (wrap32 ((S[0]'hS0).toNat:Int))] W fun e w'=>e=.returned (.bool true)/\W=w'):=hid fun W=>by rw[jt,<- hg];exact je _ W
  clear hw32;go_enter Tryz.func100,Tryz.ntmps100;go_wp2_with fail;refine (HG _).mono ?_;rintro e w' ⟨rfl,rfl⟩;have HA2:Hid (ans=decide ((∀ u∈S.data.toList,isW (u.toNat:Int)=true)/\S.data.toList ∉ qK/\S.data.toList ∉ qS)):=hid (by rw[HAN.out];simp only[hg,if_true,true_and]);go_wp2_with fail;go_loopg [5] (S.size+1) (fun gk v wr=>∃ j:Nat,v=.int .i64 (j:Int)/\Hid (j<=S.size/\S.size-j<gk)/\Hid (∀ (i:Nat) (hi:i<S.size),i<j->isW ((S[i]'hi).toNat:Int)=true)/\wr=w)
  case atStart=>exact⟨0,rfl,hid ⟨by omega,by omega⟩,hid (fun i _ h=>absurd h (by omega)),rfl⟩
  case round=>
   obtain⟨j,rfl,HJ,HM,rfl⟩:=hrel;by_cases hj:j<S.size
   ·have hw:=jt (S[j]'hj)
    by_cases hi:isW ((S[j]'hj).toNat:Int)=true
    ·have HI:Hid (∀ W,Calls Tryz.prog 130 #[.int .i32 (wrap32 ((S[j]'hj).toNat:Int))] W fun e w'=>e=.returned (.bool true)/\W=w'):=hid fun W=>by rw[jt,<- hi];exact Zf _ W
     clear hw;go_wp2_with fail;refine (HI _).mono ?_;rintro e w' ⟨rfl,rfl⟩;go_wp2;go_roundg (gk-1)
     case rel=>exact⟨j+1,rfl,hid ⟨by omega,by have:=HJ.out;omega⟩,hid (fun i hi2 h=>by
      rcases Nat.lt_or_ge i j with h1 | h1
      ·exact HM i hi2 h1
      ·obtain rfl:i=j:=by omega
       exact hi),rfl⟩
     case measure=>have:=HJ.out;omega
    ·have hif:=Bool.eq_false_iff.2 hi
     have HI:Hid (∀ W,Calls Tryz.prog 130 #[.int .i32 (wrap32 ((S[j]'hj).toNat:Int))] W fun e w'=>e=.returned (.bool false)/\W=w'):=hid fun W=>by rw[jt,<- hif];exact Zf _ W
     have:ans=false:=by rw[HA2.out];exact dF fun h=>hi (h.1 _ (qjp hj))
     subst this;clear hw;go_wp2_with fail;refine (HI _).mono ?_;rintro e w' ⟨rfl,rfl⟩;go_wp2;go_ret;exact⟨rfl,Bel.refl _⟩
   ·have HALL:Hid (∀ u∈S.data.toList,isW (u.toNat:Int)=true):=hid fun u hu=>by
     obtain⟨i,hi,rfl⟩:=qhK hu;exact HM i hi (by have:=HJ.out;omega)
    go_wp2_with fail;refine (Qs _).mono ?_;rintro e w1 ⟨⟨A1,rfl,hr1⟩,hb1⟩;have HB1:=hid hb1;have HH:=hid (HHAS A1 6 6 qK w1 (by decide) hr1);clear hb1 hr1;by_cases hwd:S.data.toList∈qK
    ·have:ans=false:=by rw[HA2.out];exact dF fun h=>h.2.1 hwd
     subst this;have HH2:=HH.out;rw[dT hwd]at HH2;have HH3:=hid HH2;clear HH2;go_wp2_with fail;refine HH3.out.mono ?_;rintro e w' ⟨rfl,rfl⟩;go_wp2;go_ret;exact⟨rfl,HB1⟩
    ·have HH2:=HH.out
     rw[dF hwd]at HH2;have HH3:=hid HH2;clear HH2;have ha:ans = !decide (S.data.toList∈qS):=by
      rw[HA2.out,Bool.eq_iff_iff,decide_eq_true_iff];simp only[Bool.not_eq_true',decide_eq_false_iff_not];exact⟨fun h=>h.2.2,fun h=>⟨HALL,hwd,h⟩⟩
     have HA3:=hid ha;clear ha;go_wp2_with fail;refine HH3.out.mono ?_;rintro e w' ⟨rfl,rfl⟩;go_wp2_with fail;refine (Zv _).mono ?_;rintro e w2 ⟨⟨A2,rfl,hr2⟩,hb2⟩;have HB2:=hid (HB1.on hb2);have HP:=hid (HHAS A2 10 10 qS w2 (by decide) hr2);clear hb2 hr2;go_wp2_with fail;refine HP.out.mono ?_;rintro e w' ⟨rfl,rfl⟩;go_wp2;go_ret;exact⟨by rw[HA3.out];rfl,HB2⟩
 ·have HG:Hid (∀ W,Calls Tryz.prog 128 #[.int .i32 (wrap32 ((S[0]'hS0).toNat:Int))] W fun e w'=>e=.returned (.bool false)/\W=w'):=hid fun W=>by rw[jt,<- hg];exact je _ W
  have HS:Hid (∀ W,Calls Tryz.prog 129 #[.int .i32 (wrap32 ((S[0]'hS0).toNat:Int))] W fun e w'=>e=.returned (.bool true)/\W=w'):=hid fun W=>by rw[jt,<- hs];exact Zw _ W
  clear hw32;go_enter Tryz.func100,Tryz.ntmps100;go_wp2_with fail;refine (HG _).mono ?_;rintro e w' ⟨rfl,rfl⟩;go_wp2_with fail;refine (HS _).mono ?_;rintro e w' ⟨rfl,rfl⟩;have HA2:Hid (ans=decide ((∀ u∈S.data.toList,isW (u.toNat:Int)=true)/\S.data.toList ∉ qK/\S.data.toList ∉ qS)):=hid (by rw[HAN.out];simp only[hs,if_false,true_and,Bool.false_eq_true]);go_wp2_with fail;go_loopg [5] (S.size+1) (fun gk v wr=>∃ j:Nat,v=.int .i64 (j:Int)/\Hid (j<=S.size/\S.size-j<gk)/\Hid (∀ (i:Nat) (hi:i<S.size),i<j->isW ((S[i]'hi).toNat:Int)=true)/\wr=w)
  case atStart=>exact⟨0,rfl,hid ⟨by omega,by omega⟩,hid (fun i _ h=>absurd h (by omega)),rfl⟩
  case round=>
   obtain⟨j,rfl,HJ,HM,rfl⟩:=hrel;by_cases hj:j<S.size
   ·have hw:=jt (S[j]'hj)
    by_cases hi:isW ((S[j]'hj).toNat:Int)=true
    ·have HI:Hid (∀ W,Calls Tryz.prog 130 #[.int .i32 (wrap32 ((S[j]'hj).toNat:Int))] W fun e w'=>e=.returned (.bool true)/\W=w'):=hid fun W=>by rw[jt,<- hi];exact Zf _ W
     clear hw;go_wp2_with fail;refine (HI _).mono ?_;rintro e w' ⟨rfl,rfl⟩;go_wp2;go_roundg (gk-1)
     case rel=>exact⟨j+1,rfl,hid ⟨by omega,by have:=HJ.out;omega⟩,hid (fun i hi2 h=>by
      rcases Nat.lt_or_ge i j with h1 | h1
      ·exact HM i hi2 h1
      ·obtain rfl:i=j:=by omega
       exact hi),rfl⟩
     case measure=>have:=HJ.out;omega
    ·have hif:=Bool.eq_false_iff.2 hi
     have HI:Hid (∀ W,Calls Tryz.prog 130 #[.int .i32 (wrap32 ((S[j]'hj).toNat:Int))] W fun e w'=>e=.returned (.bool false)/\W=w'):=hid fun W=>by rw[jt,<- hif];exact Zf _ W
     have:ans=false:=by rw[HA2.out];exact dF fun h=>hi (h.1 _ (qjp hj))
     subst this;clear hw;go_wp2_with fail;refine (HI _).mono ?_;rintro e w' ⟨rfl,rfl⟩;go_wp2;go_ret;exact⟨rfl,Bel.refl _⟩
   ·have HALL:Hid (∀ u∈S.data.toList,isW (u.toNat:Int)=true):=hid fun u hu=>by
     obtain⟨i,hi,rfl⟩:=qhK hu;exact HM i hi (by have:=HJ.out;omega)
    go_wp2_with fail;refine (Qs _).mono ?_;rintro e w1 ⟨⟨A1,rfl,hr1⟩,hb1⟩;have HB1:=hid hb1;have HH:=hid (HHAS A1 6 6 qK w1 (by decide) hr1);clear hb1 hr1;by_cases hwd:S.data.toList∈qK
    ·have:ans=false:=by rw[HA2.out];exact dF fun h=>h.2.1 hwd
     subst this;have HH2:=HH.out;rw[dT hwd]at HH2;have HH3:=hid HH2;clear HH2;go_wp2_with fail;refine HH3.out.mono ?_;rintro e w' ⟨rfl,rfl⟩;go_wp2;go_ret;exact⟨rfl,HB1⟩
    ·have HH2:=HH.out
     rw[dF hwd]at HH2;have HH3:=hid HH2;clear HH2;have ha:ans = !decide (S.data.toList∈qS):=by
      rw[HA2.out,Bool.eq_iff_iff,decide_eq_true_iff];simp only[Bool.not_eq_true',decide_eq_false_iff_not];exact⟨fun h=>h.2.2,fun h=>⟨HALL,hwd,h⟩⟩
     have HA3:=hid ha;clear ha;go_wp2_with fail;refine HH3.out.mono ?_;rintro e w' ⟨rfl,rfl⟩;go_wp2_with fail;refine (Zv _).mono ?_;rintro e w2 ⟨⟨A2,rfl,hr2⟩,hb2⟩;have HB2:=hid (HB1.on hb2);have HP:=hid (HHAS A2 10 10 qS w2 (by decide) hr2);clear hb2 hr2;go_wp2_with fail;refine HP.out.mono ?_;rintro e w' ⟨rfl,rfl⟩;go_wp2;go_ret;exact⟨by rw[HA3.out];rfl,HB2⟩
open Classical in
theorem qbE(s:LU)(big:Bool)(w:World):Calls Tryz.prog 100 #[.string ⟨s.toArray⟩,.bool big] w (StR (.bool (decide (Qx s big))) w):=by
 have:=qaq ⟨s.toArray⟩ big w;rw[show (⟨s.toArray⟩:BA).data.toList=s from rfl]at this;exact this
theorem qd6{s:BA}{cs:List Int}{rest:LU}(h:Cps s.data.toList cs rest)(hs:s.size<=4000000)(w:World) :
  Calls Tryz.prog 137 #[.string s] w (StR (.bool (decide (rest=[]))) w):=by
 have hlen:s.data.toList.length=s.size:=by rw[Array.length_toList];rfl
 have hcl:(encs cs).length+rest.length=s.size:=by rw[<- hlen,h.eq,lA]
 have HL:=hid hcl;have H:=hid h;have hs':(s.size:Int)<=4000000:=by omega
 clear h hlen hcl;go_enter Tryz.func137,Tryz.ntmps137;go_wp2;go_loopw [3] (fun v wr=>∃ j:Nat,j<=cs.length/\v=.int .i64 (encs (cs.take j)).length/\Hid (Bel w wr)) (fun v _=>s.size-(intOf v).toNat)
 case atStart=>exact⟨0,zL _,rfl,hid (Bel.refl w)⟩
 case round=>
  obtain⟨j,hj,rfl,HB⟩:=hrel;by_cases hlt:j<cs.length
  ·obtain⟨c,hcj⟩:∃ c,cs[j]?=some c:=⟨_,eG hlt⟩
   obtain⟨hcp,hpre,hnext,hposlt⟩:=H.out.at_ hcj;have hwp:=zn c;have hcb:=(qT c).1 hcp;obtain⟨pos,hpos⟩:=nW ((encs (cs.take j)).length);rw[<- hpos]at hpre hnext hposlt ⊢;have hpos1:(pos:Int)<(s.size:Int):=by omega
   have HCP:=hid hcp;have HPRE:=hid hpre;have HNX:=hid hnext;have hc0:0<=c:=by omega
   clear hcp hpre hnext hpos hcj hcb;go_wp2_with fail;refine (qc3 hposlt hs _).mono ?_;rintro e w2 ⟨n,rfl,hb2,hn⟩;have hnc:n=c:=by
    rcases hn with ⟨h1,h2⟩ | ⟨-,h2⟩
    ·exact qeR h1 HCP h2 HPRE
    ·exact absurd HPRE (h2 c HCP)
   subst hnc;have HB2:=hid (HB.on hb2);clear hb2 hn;go_wp2_with (go_at_call 156;refine (jO _ _).mono ?_;rintro e w' ⟨rfl,rfl⟩);go_roundw
   case rel=>exact⟨j+1,by omega,by rw[HNX.out];go_num,HB2⟩
   case measure=>simp[intOf];omega
  ·obtain rfl:j=cs.length:=by omega
   rw[List.take_length];by_cases hr:rest=[]
   ·have hend:((encs cs).length:Int)=(s.size:Int):=by have:=HL.out;rw[hr]at this;simp at this;omega
    have HR:=hid hr;obtain⟨pos,hpos⟩:=nW ((encs cs).length);rw[<- hpos]at hend ⊢;clear hr hpos;go_wp2;go_ret;exact⟨zr (by simp[HR.out]),HB⟩
   ·have hrl:0<rest.length:=List.length_pos_iff.2 hr
    have hlt2:(encs cs).length<s.size:=by have:=HL.out;omega
    have hno:∀ c,cpB c=true->¬ enc c <+: s.data.toList.drop (encs cs).length:=fun c hc hp=>by
     rw[H.out.eq,List.drop_left]at hp;exact H.out.no c hc hp
    obtain⟨pos,hpos⟩:=nW ((encs cs).length);rw[<- hpos]at hno hlt2 ⊢;have hpos1:(pos:Int)<(s.size:Int):=by omega
    have HNO:=hid hno;have HR:=hid hr;clear hno hr hrl hpos;go_wp2_with fail;refine (qc3 hlt2 hs _).mono ?_;rintro e w2 ⟨n,rfl,hb2,hn⟩;have hn1:n = -1:=by
     rcases hn with ⟨h1,h2⟩ | ⟨h1,-⟩
     ·exact absurd h2 (HNO n h1)
     ·exact h1
    subst hn1;have HB2:=hid (HB.on hb2);clear hb2 hn;go_wp2;go_ret;exact⟨zr (by simp[HR.out]),HB2⟩
theorem qjO{s:LU}{n:Int}:qh (1,s,n)↔Qx s false/\n=0:=by unfold qh;simp
theorem qjP{s:LU}{n:Int}:qh (2,s,n)↔Qx s true/\n=0:=by unfold qh;simp
theorem qjQ{s:LU}{n:Int}:qh (3,s,n)↔0<=n/\n<=1099511627776/\s=[]:=by unfold qh;simp
theorem may_k4{s:LU}{n:Int}:qh (4,s,n)↔(∃ ds,Cps s ds [])/\n=0:=by unfold qh;simp
theorem may_k5{s:LU}{n:Int}:qh (5,s,n)↔(s∈qK∨s∈zC)/\n=0:=by unfold qh;simp
theorem qjR{s:LU}{n:Int}:qh (6,s,n)↔s∈qS/\n=0:=by unfold qh;simp
theorem qjS{k:Int}{s:LU}{n:Int}(h:¬ (k=1∨k=2∨k=3∨k=4∨k=5∨k=6)):¬ qh (k,s,n):=by
 unfold qh;rintro (⟨e,_⟩ | ⟨e,_⟩ | ⟨e,_⟩ | ⟨e,_⟩ | ⟨e,_⟩ | ⟨e,_⟩) <;> exact h (by simp at e;omega)
open Classical in
theorem qbD(k:Int)(big:Bool)(hk:(k=1/\big=false)∨(k=2/\big=true))(S:BA)(n a l c:Int)(w:World) :
  Calls Tryz.prog 109 #[.agg #[.int .u8 k,S,n,a,l,c]] w (StR (.bool (decide (qh (k,S.data.toList,n)))) w):=by
 obtain⟨ans,hans⟩:=nW (decide (qh (k,S.data.toList,n)));rw[<- hans];have ha:ans=decide (Qx S.data.toList big/\n=0):=by
  rw[hans];rcases hk with ⟨rfl,rfl⟩ | ⟨rfl,rfl⟩
  ·exact dDd.2 qjO
  ·exact dDd.2 qjP
 have HA:=hid ha;have hb1:Bel w (w.alloc (.cells #[.int .u8 k,S,n,a,l,c] 85)):=(Bel.refl w).alloc _;have q1:=blk1 w (.cells #[.int .u8 k,S,n,a,l,c] 85);have HB1:=hid hb1;have HQ1:=hid q1;have HNM:Hid (∀ W,Calls Tryz.prog 100 #[.string S,.bool big] W (StR (.bool (decide (Qx S.data.toList big))) W)):=hid fun W=>qaq S big W;clear ha hans hb1 q1;by_cases hp:Qx S.data.toList big
 case' pos=>
  rw[dT hp]at HNM;have HA2:Hid (ans=decide (n=0)):=hid (by rw[HA.out];exact dDd.2 ⟨fun h=>h.2,fun h=>⟨hp,h⟩⟩)
 case' neg=>
  rw[dF hp]at HNM;have HA2:Hid (ans=false):=hid (by rw[HA.out];exact dF fun h=>hp h.1)
 all_goals
  clear HA hp;rcases hk with ⟨rfl,rfl⟩ | ⟨rfl,rfl⟩
 all_goals
  go_enter Tryz.func109,Tryz.ntmps109;go_wp2_with fail;refine (HNM _).mono ?_;rintro e w1 ⟨rfl,hb2⟩;have HB2:=hid (HB1.on hb2);have hq:=hb2.blk HQ1;obtain⟨⟨t0,t1,t2,t3,t4,t5⟩,-⟩:=qq hq;clear hb2 hq;go_wp2;go_ret;exact⟨by rw[HA2.out];first | rfl | (congr 2;rw[Bool.eq_iff_iff];simp),HB2⟩
open Classical in
theorem qfS(S:BA)(hS:S.size<=4000000)(n a l c:Int)(w:World) :
  Calls Tryz.prog 109 #[.agg #[.int .u8 4,S,n,a,l,c]] w (StR (.bool (decide (qh (4,S.data.toList,n)))) w):=by
 obtain⟨ans,hans⟩:=nW (decide (qh (4,S.data.toList,n)));rw[<- hans];obtain⟨cs,rest,hc⟩:=qbc _ S.data.toList (lR _);have ha:ans=decide (rest=[]/\n=0):=by
  rw[hans];refine dDd.2 (may_k4.trans ?_);constructor
  ·rintro⟨⟨ds,hd⟩,h⟩;exact⟨(hc.uniq hd).2,h⟩
  ·rintro⟨rfl,h⟩;exact⟨⟨cs,hc⟩,h⟩
 have HA:=hid ha;have hb1:Bel w (w.alloc (.cells #[.int .u8 4,S,n,a,l,c] 85)):=(Bel.refl w).alloc _;have q1:=blk1 w (.cells #[.int .u8 4,S,n,a,l,c] 85);have HB1:=hid hb1;have HQ1:=hid q1;have HNM:Hid (∀ W,Calls Tryz.prog 137 #[.string S] W (StR (.bool (decide (rest=[]))) W)):=hid fun W=>qd6 hc hS W;clear ha hans hb1 q1 hc;by_cases hp:rest=[]
 case' pos=>
  rw[dT hp]at HNM;have HA2:Hid (ans=decide (n=0)):=hid (by rw[HA.out];exact dDd.2 ⟨fun h=>h.2,fun h=>⟨hp,h⟩⟩)
 case' neg=>
  rw[dF hp]at HNM;have HA2:Hid (ans=false):=hid (by rw[HA.out];exact dF fun h=>hp h.1)
 all_goals
  clear HA hp;go_enter Tryz.func109,Tryz.ntmps109;go_wp2_with fail;refine (HNM _).mono ?_;rintro e w1 ⟨rfl,hb2⟩;have HB2:=hid (HB1.on hb2);have hq:=hb2.blk HQ1;obtain⟨⟨t0,t1,t2,t3,t4,t5⟩,-⟩:=qq hq;clear hb2 hq;go_wp2;go_ret;exact⟨by rw[HA2.out];first | rfl | (congr 2;rw[Bool.eq_iff_iff];simp),HB2⟩
open Classical in
theorem qfO(k:Int)(hk:¬ (k=1∨k=2∨k=3∨k=4∨k=5∨k=6))(S:BA)(n a l c:Int)(w:World) :
  Calls Tryz.prog 109 #[.agg #[.int .u8 k,S,n,a,l,c]] w (StR (.bool (decide (qh (k,S.data.toList,n)))) w):=by
 rw[dF (qjS hk)];have d1:(k==1)=false:=beq_eq_false_iff_ne.2 (by omega);have d2:(k==2)=false:=beq_eq_false_iff_ne.2 (by omega);have d3:(k==3)=false:=beq_eq_false_iff_ne.2 (by omega);have d4:(k==4)=false:=beq_eq_false_iff_ne.2 (by omega);have d5:(k==5)=false:=beq_eq_false_iff_ne.2 (by omega);have d6:(k==6)=false:=beq_eq_false_iff_ne.2 (by omega);clear hk;go_enter Tryz.func109,Tryz.ntmps109;go_wp2;go_ret;exact⟨rfl,(Bel.refl w).alloc _⟩
open Classical in
theorem qhl(S:BA)(n a l c:Int)(w:World) :
  Calls Tryz.prog 109 #[.agg #[.int .u8 3,S,n,a,l,c]] w (StR (.bool (decide (qh (3,S.data.toList,n)))) w):=by
 have ha:decide (qh (3,S.data.toList,n))=(decide (0<=n)&&(decide (n<=1099511627776)&&S.toList.isEmpty)):=by
  rw[Bool.eq_iff_iff,decide_eq_true_iff,qjQ];simp only[bA,pE];refine and_congr Iff.rfl (and_congr Iff.rfl ?_);rw[List.isEmpty_iff,ByteArray.toList_eq]
 rw[ha];clear ha;cases h0:decide (0<=n) <;> cases h1:decide (n<=1099511627776)
 all_goals
  go_enter Tryz.func109,Tryz.ntmps109;go_wp2;go_ret;exact⟨by first | rfl | simp,(Bel.refl w).alloc _⟩
theorem Z7(S:BA)(A:OA)(n c:Nat)(ts:List LU)(W:World)(hn:n<=1000000)(hr:RL W W.heap.size A n ts)(b:Bool)(hb:b=decide (S.data.toList∈ts)):Calls Tryz.prog 131 #[.slice A n c,S] W fun e w'=>e=.returned (.bool b)/\W=w':=by
 have:=qc2 (c:=c) S.data.toList hn W hr;rw[qes]at this;rw[hb];exact this
def u8s(bs:LU):List Value:=bs.map fun u:UInt8=>Value.int .u8 u.toNat
theorem qgg(bs:LU):(u8s bs).length=bs.length:=by simp[u8s]
theorem ZB(a b:LU):u8s (a++b)=u8s a++u8s b:=by simp[u8s]
theorem qeB{w:World}{base n c:Nat}{A:OA}{bs:LU}(h:w.ownsRow base 5 1 (.slice A n c) n (u8s bs))(h0:0<n) :
  (convert 89 9 (.slice A n c)).run Tryz.prog w=.ok (.string ⟨bs.toArray⟩) w:=by
 have hl:n=bs.length:=by have:=h.1;rw[qgg]at this;omega
 obtain⟨g,cap,hv,_,hlt⟩:=h.form h0;have hA:A=some ⟨g,0,none⟩:=by injection hv
 subst hA;rw[run_convert_bytes_string w _ _ 5 _ _ _ Tryz.underlying89 Tryz.underlying5 Tryz.underlying9];rw[run_bytesToString w _ _ _ (bs.map fun u:UInt8=>(u.toNat:Int))]
 ·congr 2
  have:∀ (l:List Int) (r:BA),l.foldl (fun r n=>r.push (UInt8.ofNat n.toNat)) r=⟨r.data++(l.map fun x=>UInt8.ofNat x.toNat).toArray⟩:=by
   intro l;induction l with
   | nil=>intro r;simp
   | cons x l ih=>intro r;simp only[List.foldl_cons,ih];simp[ByteArray.push]
  rw[this,List.map_map];have e:(bs.map ((fun x:Int=>UInt8.ofNat x.toNat) ∘ fun u:UInt8=>(u.toNat:Int)))=bs:=by
   conv=>rhs;rw[<- List.map_id bs]
   refine List.map_congr_left fun x _=>?_;simp
  rw[e];simp
 ·rw[run_loadCells w _ _ (fun j=>(u8s bs).getD j undef)]
  ·congr 1
   apply Array.ext';apply List.ext_getElem
   ·simp[hl]
   ·intro i h1 h2;simp at h1 h2;simp[u8s,h2]
  ·intro j hj
   have hlt2:j<(u8s bs).length:=by rw[qgg];omega
   have:=h.cells (g:=g) rfl j _ (eG hlt2);rw[this,List.getD_eq_getElem?_getD,eG hlt2];rfl
theorem jc{W w5:World}{base b0:Nat}{e:TypeId}{size:Nat}{V:Value}{n:Nat}{xs:List Value}{w:World}(hbel:Below b0 w W)(hown:W.ownsRow base e size V n xs){o:Obj}(hg:(W.alloc o).grownBy w5 V.ownBlock)(hB:base<=W.heap.size)(hb0:b0<=base):Below b0 w w5:=
 Below.grown (hbel.alloc (by omega) o) hg (by simp;omega) (fun j hj=>by have:=(hown.lt _ hj).1;omega)
theorem QP{W w5:World}{base g:Nat}{e:TypeId}{size:Nat}{V:Value}{n:Nat}{xs:List Value}{o B:Obj}(hown:W.ownsRow base e size V n xs)(hg:(W.alloc o).grownBy w5 V.ownBlock)(hlt:g<base)(hbox:W.heap[g]?=some B):w5.heap[g]?=some B:=by
 have h1:=(aJ.1 hbox).1;rw[hg.block g (by simp;omega) (fun e=>by have:=(hown.lt _ e.symm).1;omega)];exact ((Bel.refl W).alloc o).blk hbox
theorem ZA(w:World)(L:List Value)(t:TypeId)(cs:List Value)(h:cs=L):∀ q u,cs[q]?=some u->(w.alloc (.cells L.toArray t)).cell? ⟨w.heap.size,q,none⟩=some u:=by
 subst h;intro j u hu;have hb:=blk1 w (.cells cs.toArray t);unfold World.cell?
 rw[hb];simp[hu]
theorem qea{s:LU}{k:Nat}{x:UInt8}(h:s[k]?=some x):(s.take (k+1)).flatMap escB=(s.take k).flatMap escB++escB x:=by
 obtain⟨hl,e⟩:=eJ.1 h;rw[tSs hl,e];simp
theorem qeW{u:UInt8}(h:u.toNat=10):escB u=[92,110]:=by
 have:u=10:=UInt8.toNat_inj.1 h;subst this;rfl
theorem qgJ{u:UInt8}(h:u.toNat=9):escB u=[92,116]:=by
 have:u=9:=UInt8.toNat_inj.1 h;subst this;rfl
theorem qcL{u:UInt8}(h:u.toNat=34∨u.toNat=92):escB u=[92,u]:=by
 rcases h with h | h
 ·have:u=34:=UInt8.toNat_inj.1 h
  subst this;rfl
 ·have:u=92:=UInt8.toNat_inj.1 h
  subst this;rfl
theorem qgK{u:UInt8}(h1:u.toNat≠10)(h2:u.toNat≠9)(h3:u.toNat≠34)(h4:u.toNat≠92):escB u=[u]:=by
 unfold escB;rw[if_neg (by rintro rfl;exact h1 rfl),if_neg (by rintro rfl;exact h2 rfl),if_neg (by rintro (rfl | rfl);exact h3 rfl;exact h4 rfl)]
open Classical in
theorem qhm(S:BA)(hS:S.size<=4000000)(n a l c:Int)(w:World) :
  Calls Tryz.prog 111 #[.agg #[.int .u8 4,.string S,.int .i64 n,.int .i64 a,.int .i64 l,.int .i64 c]] w (StR (.string ⟨(34::(S.data.toList.flatMap escB++[34])).toArray⟩) w):=by
 obtain⟨ans,hans⟩:=nW (⟨(34::(S.data.toList.flatMap escB++[34])).toArray⟩:BA);rw[<- hans];obtain⟨s,hs⟩:=nW S.data.toList;rw[<- hs]at hans;have hlen:s.length=S.size:=by rw[hs];exact Array.length_toList
 have hby:∀ i (h:i<S.size),s[i]?=some (S[i]'h):=fun i h=>by
  subst hs;rw[eG (by rw[hlen];exact h)];rfl
 have HANS:=hid hans;have HLEN:=hid hlen;have HBY:=hid hby;clear hans hs hlen hby;go_enter Tryz.func111,Tryz.ntmps111;go_wp2_with fail;go_loopg [3,4] (S.size+1) (fun gk v i wr=>∃ (j nn:Nat) (A2:OA) (c2:Nat),v=.slice A2 nn c2/\i=.int .i64 (j:Int)/\Hid (j<=S.size/\S.size-j<gk)/\(0<nn/\nn<=2*j+1)/\Hid (wr.ownsRow (w.heap.size+1) 5 1 (.slice A2 nn c2) nn (u8s (34::(s.take j).flatMap escB)))/\Hid (Bel w wr)/\Hid (wr.heap[w.heap.size]?=some (.cells #[.int .u8 4,S,n,a,l,c] 85 (0,0))))
 case atStart=>
  refine⟨0,1,_,_,rfl,rfl,hid ⟨by omega,by omega⟩,⟨by omega,by omega⟩,hid ?_,hid (((Bel.refl w).alloc _).alloc _),hid (blk2 w _ _).1⟩;have:=World.ownsRow_lit (base:=w.heap.size+1) (size:=1) (e:=5) (w.alloc (.cells #[.int .u8 4,S,n,a,l,c] 85)) #[.int .u8 34] 1 (by simp) (by decide) rfl;simpa [u8s] using this
 case round=>
  obtain⟨j,nn,A2,c2,rfl,rfl,HJ,hnn,HO,HB,HQ⟩:=hrel;obtain⟨⟨t0,t1,t2,t3,t4,t5⟩,-⟩:=qq HQ;have hwz:w.heap.size<wr.heap.size:=(aJ.1 HQ).1;by_cases hj:j<S.size
  ·obtain⟨L,hL⟩:=nW (34::(s.take j).flatMap escB)
   rw[<- hL]at HO;have hnx:34::(s.take (j+1)).flatMap escB=L++escB (S[j]'hj):=by
    rw[hL,qea (HBY.out j hj)];rfl
   have HNX:=hid hnx;have hc8:=(S[j]'hj).toNat_lt;have HJJ:=hid (⟨HJ,hj⟩:(j<=S.size/\S.size-j<gk)/\j<S.size);have hj4:j<4000000:=by omega
   clear hL hnx;have hcase:(S[j]'hj).toNat=10∨(S[j]'hj).toNat=9∨(S[j]'hj).toNat=34∨(S[j]'hj).toNat=92∨((S[j]'hj).toNat≠10/\(S[j]'hj).toNat≠9/\(S[j]'hj).toNat≠34/\(S[j]'hj).toNat≠92):=by omega
   rcases hcase with h | h | h | h | ⟨h1,h2,h3,h4⟩
   ·have he:escB (S[j]'hj)=[92,110]:=qeW h
    have d1:(((S[j]'hj).toNat:Int)==10)=true:=by rw[h];rfl
    clear h;rw[he]at HNX;clear he;go_wp2_with (at_builtin;refine qx rfl _ _ 89 rfl (w.heap.size+1) 5 _ 1 1 Tryz.underlying89 j7 rfl (by decide) (by decide) A2 nn c2 (u8s L) rfl (HO.alloc _) wr.heap.size 0 2 2 (u8s [92,110]) rfl rfl (by intro q u hu;rw[Nat.zero_add];exact ZA wr _ _ _ rfl q u hu) (by simp[u8s,Value.oneCell']) (by omega) (by simp;omega) ?_;intro A5 c5 w5 hown5 hg5;(have HO5:=hid hown5);(have HB5:=hid (jc HB HO hg5 (by omega) (Nat.le_succ _)));(have HQ5:=hid (QP HO hg5 (Nat.lt_succ_self _) HQ));clear hown5 hg5);obtain⟨⟨hj1,hj2⟩,hj3⟩:=HJJ.out;go_roundg (gk-1)
    case rel=>exact⟨j+1,_,A5,c5,rfl,by go_num,hid ⟨by omega,by omega⟩,⟨by omega,by omega⟩,by rw[HNX.out,ZB];exact HO5,HB5,HQ5⟩
    case measure=>omega
   ·have he:escB (S[j]'hj)=[92,116]:=qgJ h
    have d1:(((S[j]'hj).toNat:Int)==10)=false:=by rw[h];rfl
    have d2:(((S[j]'hj).toNat:Int)==9)=true:=by rw[h];rfl
    clear h;rw[he]at HNX;clear he;go_wp2_with (at_builtin;refine qx rfl _ _ 89 rfl (w.heap.size+1) 5 _ 1 1 Tryz.underlying89 j7 rfl (by decide) (by decide) A2 nn c2 (u8s L) rfl (HO.alloc _) wr.heap.size 0 2 2 (u8s [92,116]) rfl rfl (by intro q u hu;rw[Nat.zero_add];exact ZA wr _ _ _ rfl q u hu) (by simp[u8s,Value.oneCell']) (by omega) (by simp;omega) ?_;intro A5 c5 w5 hown5 hg5;(have HO5:=hid hown5);(have HB5:=hid (jc HB HO hg5 (by omega) (Nat.le_succ _)));(have HQ5:=hid (QP HO hg5 (Nat.lt_succ_self _) HQ));clear hown5 hg5);obtain⟨⟨hj1,hj2⟩,hj3⟩:=HJJ.out;go_roundg (gk-1)
    case rel=>exact⟨j+1,_,A5,c5,rfl,by go_num,hid ⟨by omega,by omega⟩,⟨by omega,by omega⟩,by rw[HNX.out,ZB];exact HO5,HB5,HQ5⟩
    case measure=>omega
   ·have he:escB (S[j]'hj)=[92,S[j]'hj]:=qcL (.inl h)
    have d1:(((S[j]'hj).toNat:Int)==10)=false:=by rw[h];rfl
    have d2:(((S[j]'hj).toNat:Int)==9)=false:=by rw[h];rfl
    have d3:(((S[j]'hj).toNat:Int)==34)=true:=by rw[h];rfl
    clear h;rw[he]at HNX;clear he;go_wp2_with (at_builtin;refine qx rfl _ _ 89 rfl (w.heap.size+1) 5 _ 1 1 Tryz.underlying89 j7 rfl (by decide) (by decide) A2 nn c2 (u8s L) rfl (HO.alloc _) wr.heap.size 0 2 2 (u8s [92,S[j]'hj]) rfl rfl (by intro q u hu;rw[Nat.zero_add];exact ZA wr _ _ _ rfl q u hu) (by simp[u8s,Value.oneCell']) (by omega) (by simp;omega) ?_;intro A5 c5 w5 hown5 hg5;(have HO5:=hid hown5);(have HB5:=hid (jc HB HO hg5 (by omega) (Nat.le_succ _)));(have HQ5:=hid (QP HO hg5 (Nat.lt_succ_self _) HQ));clear hown5 hg5);obtain⟨⟨hj1,hj2⟩,hj3⟩:=HJJ.out;go_roundg (gk-1)
    case rel=>exact⟨j+1,_,A5,c5,rfl,by go_num,hid ⟨by omega,by omega⟩,⟨by omega,by omega⟩,by rw[HNX.out,ZB];exact HO5,HB5,HQ5⟩
    case measure=>omega
   ·have he:escB (S[j]'hj)=[92,S[j]'hj]:=qcL (.inr h)
    have d1:(((S[j]'hj).toNat:Int)==10)=false:=by rw[h];rfl
    have d2:(((S[j]'hj).toNat:Int)==9)=false:=by rw[h];rfl
    have d3:(((S[j]'hj).toNat:Int)==34)=false:=by rw[h];rfl
    have d4:(((S[j]'hj).toNat:Int)==92)=true:=by rw[h];rfl
    clear h;rw[he]at HNX;clear he;go_wp2_with (at_builtin;refine qx rfl _ _ 89 rfl (w.heap.size+1) 5 _ 1 1 Tryz.underlying89 j7 rfl (by decide) (by decide) A2 nn c2 (u8s L) rfl (HO.alloc _) wr.heap.size 0 2 2 (u8s [92,S[j]'hj]) rfl rfl (by intro q u hu;rw[Nat.zero_add];exact ZA wr _ _ _ rfl q u hu) (by simp[u8s,Value.oneCell']) (by omega) (by simp;omega) ?_;intro A5 c5 w5 hown5 hg5;(have HO5:=hid hown5);(have HB5:=hid (jc HB HO hg5 (by omega) (Nat.le_succ _)));(have HQ5:=hid (QP HO hg5 (Nat.lt_succ_self _) HQ));clear hown5 hg5);obtain⟨⟨hj1,hj2⟩,hj3⟩:=HJJ.out;go_roundg (gk-1)
    case rel=>exact⟨j+1,_,A5,c5,rfl,by go_num,hid ⟨by omega,by omega⟩,⟨by omega,by omega⟩,by rw[HNX.out,ZB];exact HO5,HB5,HQ5⟩
    case measure=>omega
   ·have he:escB (S[j]'hj)=[S[j]'hj]:=qgK h1 h2 h3 h4
    have d1:(((S[j]'hj).toNat:Int)==10)=false:=beq_eq_false_iff_ne.2 (by omega);have d2:(((S[j]'hj).toNat:Int)==9)=false:=beq_eq_false_iff_ne.2 (by omega);have d3:(((S[j]'hj).toNat:Int)==34)=false:=beq_eq_false_iff_ne.2 (by omega);have d4:(((S[j]'hj).toNat:Int)==92)=false:=beq_eq_false_iff_ne.2 (by omega);clear h1 h2 h3 h4;rw[he]at HNX;clear he;go_wp2_with (at_builtin;refine qx rfl _ _ 89 rfl (w.heap.size+1) 5 _ 1 1 Tryz.underlying89 j7 rfl (by decide) (by decide) A2 nn c2 (u8s L) rfl (HO.alloc _) wr.heap.size 0 1 1 (u8s [S[j]'hj]) rfl rfl (by intro q u hu;rw[Nat.zero_add];exact ZA wr _ _ _ rfl q u hu) (by simp[u8s,Value.oneCell']) (by omega) (by simp;omega) ?_;intro A5 c5 w5 hown5 hg5;(have HO5:=hid hown5);(have HB5:=hid (jc HB HO hg5 (by omega) (Nat.le_succ _)));(have HQ5:=hid (QP HO hg5 (Nat.lt_succ_self _) HQ));clear hown5 hg5);obtain⟨⟨hj1,hj2⟩,hj3⟩:=HJJ.out;go_roundg (gk-1)
    case rel=>exact⟨j+1,_,A5,c5,rfl,by go_num,hid ⟨by omega,by omega⟩,⟨by omega,by omega⟩,by rw[HNX.out,ZB];exact HO5,HB5,HQ5⟩
    case measure=>omega
  ·have hjn:j=S.size:=by have:=HJ.out;omega
   rw[hjn,<- HLEN.out,List.take_length]at HO;obtain⟨L,hL⟩:=nW (34::s.flatMap escB);rw[<- hL]at HO;have HAN2:Hid (ans=⟨(L++[34]).toArray⟩):=hid (by rw[HANS.out,hL];rfl);have hss:=hS;subst hjn;clear hL;go_wp2_with (at_builtin;refine qx rfl _ _ 89 rfl (w.heap.size+1) 5 _ 1 1 Tryz.underlying89 j7 rfl (by decide) (by decide) A2 nn c2 (u8s L) rfl (HO.alloc _) wr.heap.size 0 1 1 (u8s [34]) rfl rfl (by intro q u hu;rw[Nat.zero_add];exact ZA wr _ _ _ rfl q u hu) (by simp[u8s,Value.oneCell']) (by omega) (by simp;omega) ?_;intro A5 c5 w5 hown5 hg5;(have HB5:=hid (jc HB HO hg5 (by omega) (Nat.le_succ _)));(have hcv:=qeB (bs:=L++[34]) (by rw[ZB];exact hown5) (by omega));clear hown5 hg5);go_ret;exact⟨by rw[HAN2.out];first | rfl | simp,HB5⟩
open Classical in
theorem qd3(k:Int)(S:BA)(hS:S.size<=4000000)(n a l c:Int)(h3:k=3->0<=n/\n<=9223372036854775807)(w:World) :
  Calls Tryz.prog 111 #[.agg #[.int .u8 k,S,n,a,l,c]] w (StR (.string ⟨(putB k S.data.toList n).toArray⟩) w):=by
 by_cases k4:k=4
 ·subst k4
  exact (qhm S hS n a l c w).mono fun e w' h=>⟨by rw[h.1];rfl,h.2⟩
 by_cases k3:k=3
 ·subst k3
  obtain⟨b0,b1⟩:=h3 rfl;have HD:Hid (∀ W,Calls Tryz.prog 110 #[.int .i64 n] W (StR (.string ⟨(digB n.toNat).toArray⟩) W)):=hid fun W=>qan n b0 b1 W;have HB:Hid (∀ W,Bel (w.alloc (.cells #[.int .u8 3,S,n,a,l,c] 85)) W->Bel w W):=hid fun W h=>((Bel.refl w).alloc _).on h;clear b0 b1 h3;go_enter Tryz.func111,Tryz.ntmps111;go_wp2_with fail;refine (HD _).mono ?_;rintro e w1 ⟨rfl,hb⟩;have HB1:=hid (HB _ hb);clear hb;go_wp2;go_ret;exact⟨rfl,HB1⟩
 ·have e:(⟨(putB k S.data.toList n).toArray⟩:BA)=S:=by
   unfold putB;rw[if_neg k3,if_neg k4,qes]
  rw[e];have d3:(k==3)=false:=beq_eq_false_iff_ne.2 k3;have d4:(k != 4)=true:=by simpa using k4
  clear e h3 k3 k4;go_enter Tryz.func111,Tryz.ntmps111;go_wp2;go_ret;exact⟨rfl,(Bel.refl w).alloc _⟩
open Classical in
theorem qfP(S:BA)(n a l c:Int)(w:World) :
  Calls Tryz.prog 109 #[.agg #[.int .u8 6,S,n,a,l,c]] w (StR (.bool (decide (qh (6,S.data.toList,n)))) w):=by
 obtain⟨ans,hans⟩:=nW (decide (qh (6,S.data.toList,n)));rw[<- hans];have ha:ans=decide (S.data.toList∈qS/\n=0):=by rw[hans];exact dDd.2 qjR
 obtain⟨p,hp⟩:=nW (decide (S.data.toList∈qS));have ha2:ans=(p&&decide (n=0)):=by rw[ha,hp,Bool.decide_and]
 have HA:=hid ha2;obtain⟨w1,hw1⟩:=nW (w.alloc (.cells #[.int .u8 6,S,n,a,l,c] 85));have HB1:Hid (Bel w w1):=by rw[hw1];exact hid ((Bel.refl w).alloc _)
 have HQ1:Hid (w1.heap[w.heap.size]?=some (.cells #[.int .u8 6,S,n,a,l,c] 85 (0,0))):=by rw[hw1];exact hid (blk1 w _)
 have HP:Hid (∀ (A:OA) (W:World),RL W W.heap.size A 10 qS->Calls Tryz.prog 131 #[.slice A 10 10,S] W fun e w'=>e=.returned (.bool p)/\W=w'):=hid fun A W hr=>Z7 S A 10 10 qS W (by decide) hr p hp;clear ha hans ha2 hp;go_enter Tryz.func109,Tryz.ntmps109;go_upto_region 13 with fail
 rw[<- hw1];clear hw1;obtain⟨⟨t0,t1,t2,t3,t4,t5⟩,-⟩:=qq HQ1;cases p;all_goals
  first | (go_region_with (first | (go_at_call 133;refine (Zv _).mono ?_;rintro e w2 ⟨⟨A2,rfl,hr2⟩,hb2⟩;(have HR2:=hid hr2);(have HB2:=hid (HB1.drew.on hb2));(have hq:=Bel.blk ((Bel.refl w1).drew.on hb2) HQ1);clear hr2 hb2;(obtain⟨⟨s0,s1,s2,s3,s4,s5⟩,-⟩:=qq hq);clear hq) | (go_at_call 131;refine (HP _ _ HR2).mono ?_;rintro e w' ⟨rfl,rfl⟩))) | fail
  all_goals go_wp2
  all_goals go_ret
  all_goals exact⟨by rw[HA.out];first | rfl | (congr 2;rw[Bool.eq_iff_iff];simp),HB2⟩
open Classical in
theorem qfQ(S:BA)(n a l c:Int)(w:World)(hp:S.data.toList∈qK) :
  Calls Tryz.prog 109 #[.agg #[.int .u8 5,S,n,a,l,c]] w (StR (.bool (decide (qh (5,S.data.toList,n)))) w):=by
 obtain⟨ans,hans⟩:=nW (decide (qh (5,S.data.toList,n)));rw[<- hans];have ha:ans=decide (n=0):=by rw[hans];exact dDd.2 (may_k5.trans ⟨fun h=>h.2,fun h=>⟨.inl hp,h⟩⟩)
 have HA:=hid ha;obtain⟨w1,hw1⟩:=nW (w.alloc (.cells #[.int .u8 5,S,n,a,l,c] 85));have HB1:Hid (Bel w w1):=by rw[hw1];exact hid ((Bel.refl w).alloc _)
 have HQ1:Hid (w1.heap[w.heap.size]?=some (.cells #[.int .u8 5,S,n,a,l,c] 85 (0,0))):=by rw[hw1];exact hid (blk1 w _)
 have HP:Hid (∀ (A:OA) (W:World),RL W W.heap.size A 6 qK->Calls Tryz.prog 131 #[.slice A 6 6,S] W fun e w'=>e=.returned (.bool true)/\W=w'):=hid fun A W hr=>Z7 S A 6 6 qK W (by decide) hr true (by rw[dT hp]);clear ha hans hp;go_enter Tryz.func109,Tryz.ntmps109;go_upto_region 11 with fail
 rw[<- hw1];clear hw1;obtain⟨⟨t0,t1,t2,t3,t4,t5⟩,-⟩:=qq HQ1;first | (go_region_with (first | (go_at_call 132;refine (Qs _).mono ?_;rintro e w2 ⟨⟨A2,rfl,hr2⟩,hb2⟩;(have HR2:=hid hr2);(have HB2:=hid (HB1.drew.on hb2));(have hq:=Bel.blk ((Bel.refl w1).drew.on hb2) HQ1);clear hr2 hb2;(obtain⟨⟨s0,s1,s2,s3,s4,s5⟩,-⟩:=qq hq);clear hq) | (go_at_call 131;refine (HP _ _ HR2).mono ?_;rintro e w' ⟨rfl,rfl⟩))) | fail
 all_goals go_wp2
 all_goals go_ret
 all_goals exact⟨by rw[HA.out];first | rfl | (congr 2;rw[Bool.eq_iff_iff];simp),HB2⟩
open Classical in
theorem qfR(S:BA)(n a l c:Int)(w:World)(hp:S.data.toList ∉ qK) :
  Calls Tryz.prog 109 #[.agg #[.int .u8 5,S,n,a,l,c]] w (StR (.bool (decide (qh (5,S.data.toList,n)))) w):=by
 obtain⟨ans,hans⟩:=nW (decide (qh (5,S.data.toList,n)));rw[<- hans];have ha:ans=decide (S.data.toList∈zC/\n=0):=by rw[hans];exact dDd.2 (may_k5.trans ⟨fun h=>⟨h.1.resolve_left hp,h.2⟩,fun h=>⟨.inr h.1,h.2⟩⟩)
 obtain⟨q,hq⟩:=nW (decide (S.data.toList∈zC));have ha2:ans=(q&&decide (n=0)):=by rw[ha,hq,Bool.decide_and]
 have HA:=hid ha2;obtain⟨w1,hw1⟩:=nW (w.alloc (.cells #[.int .u8 5,S,n,a,l,c] 85));have HB1:Hid (Bel w w1):=by rw[hw1];exact hid ((Bel.refl w).alloc _)
 have HQ1:Hid (w1.heap[w.heap.size]?=some (.cells #[.int .u8 5,S,n,a,l,c] 85 (0,0))):=by rw[hw1];exact hid (blk1 w _)
 have HP:Hid (∀ (A:OA) (W:World),RL W W.heap.size A 6 qK->Calls Tryz.prog 131 #[.slice A 6 6,S] W fun e w'=>e=.returned (.bool false)/\W=w'):=hid fun A W hr=>Z7 S A 6 6 qK W (by decide) hr false (by rw[dF hp]);have HS:Hid (∀ (A:OA) (W:World),RL W W.heap.size A 22 zC->Calls Tryz.prog 131 #[.slice A 22 22,S] W fun e w'=>e=.returned (.bool q)/\W=w'):=hid fun A W hr=>Z7 S A 22 22 zC W (by decide) hr q hq;clear ha hans ha2 hp hq;go_enter Tryz.func109,Tryz.ntmps109;go_upto_region 11 with fail
 rw[<- hw1];clear hw1;obtain⟨⟨t0,t1,t2,t3,t4,t5⟩,-⟩:=qq HQ1;cases q;all_goals
  first | (go_region_with (first | (go_at_call 132;refine (Qs _).mono ?_;rintro e w2 ⟨⟨A2,rfl,hr2⟩,hb2⟩;(have HR2:=hid hr2);(have HB2:=hid (HB1.drew.on hb2));(have hq:=Bel.blk ((Bel.refl w1).drew.on hb2) HQ1);clear hr2 hb2;(have HQ2:=hid hq);(obtain⟨⟨s0,s1,s2,s3,s4,s5⟩,-⟩:=qq hq);clear hq) | (go_at_call 138;refine (qd5 _).mono ?_;rintro e w3 ⟨⟨A3,rfl,hr3⟩,hb3⟩;(have HR3:=hid hr3);(have HB3:=hid (HB2.on hb3));(have hq3:=Bel.blk ((Bel.refl w2).on hb3) HQ2);clear hr3 hb3;(obtain⟨⟨r0,r1,r2,r3,r4,r5⟩,-⟩:=qq hq3);clear hq3 s0 s1 s2 s3 s4 s5) | (go_at_call 131;(first | (refine (HS _ _ HR3).mono ?_) | (refine (HP _ _ HR2).mono ?_));rintro e w' ⟨rfl,rfl⟩))) | fail
  all_goals go_wp2
  all_goals go_ret
  all_goals exact⟨by rw[HA.out];first | rfl | (congr 2;rw[Bool.eq_iff_iff];simp),HB3⟩
open Classical in
theorem Zt(k:Int)(S:BA)(hS:S.size<=4000000)(n a l c:Int)(w:World) :
  Calls Tryz.prog 109 #[.agg #[.int .u8 k,S,n,a,l,c]] w (StR (.bool (decide (qh (k,S.data.toList,n)))) w):=by
 by_cases k1:k=1
 ·subst k1;exact qbD 1 false (.inl ⟨rfl,rfl⟩) S n a l c w
 by_cases k2:k=2
 ·subst k2;exact qbD 2 true (.inr ⟨rfl,rfl⟩) S n a l c w
 by_cases k3:k=3
 ·subst k3;exact qhl S n a l c w
 by_cases k4:k=4
 ·subst k4;exact qfS S hS n a l c w
 by_cases k5:k=5
 ·subst k5
  by_cases hp:S.data.toList∈qK
  ·exact qfQ S n a l c w hp
  ·exact qfR S n a l c w hp
 by_cases k6:k=6
 ·subst k6;exact qfP S n a l c w
 ·exact qfO k (by omega) S n a l c w
end Go.Proofs.YtmloadclmjcbbaaGreatDoor.Mu
