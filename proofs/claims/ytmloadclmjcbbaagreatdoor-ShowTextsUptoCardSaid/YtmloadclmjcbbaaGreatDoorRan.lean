import Derived.Test.YtmloadclmjcbbaaGreatDoorRam
open Go.Lib (hid)
set_option linter.unusedSimpArgs false
namespace Go.Proofs.YtmloadclmjcbbaaGreatDoor.Mu
set_option maxHeartbeats 8000000
open Go Go.RowKit Go.Shelf
attribute [local go_sem] Oper.semAt_some
set_option linter.unusedVariables false
set_option maxRecDepth 100000
def oft(m:Int):BA:=if m=1 then ⟨#[49]⟩ else if m=2 then ⟨#[63]⟩ else ⟨#[42]⟩
abbrev ja:= "ref.go:349"
abbrev jb:= "ref.go:351"
abbrev zd:= "ref.go:365"
def regD3:List Oper:=[
 ⟨some 13,.fieldAddr 52 (.tmp 1) 1,0,ja,#[],none⟩,
 ⟨some 14,.load 9 (.tmp 13),9,ja,#[⟨0,.data⟩],none⟩,
 ⟨some 15,.binOp .add 9 (.const (Value.string { data:=#[108,101,116,32,114,101,99,32] })) (.tmp 14) 9,9,ja,#[⟨1,.data⟩],none⟩,
 ⟨some 16,.binOp .add 9 (.tmp 15) (.const (Value.string { data:=#[32,61,32] })) 9,9,ja,#[⟨2,.data⟩],none⟩,
 ⟨some 17,.fieldAddr 52 (.tmp 1) 6,0,ja,#[],none⟩,
 ⟨some 18,.load 28 (.tmp 17),28,ja,#[⟨4,.data⟩],none⟩,
 ⟨some 19,.call ⟨.value (.func 30),#[.tmp 18],#[28]⟩,9,ja,#[⟨5,.data⟩],none⟩,
 ⟨some 20,.binOp .add 9 (.tmp 16) (.tmp 19) 9,9,ja,#[⟨3,.data⟩,⟨6,.data⟩],none⟩,
 ⟨some 2,.assign (.tmp 20),9,ja,#[⟨7,.data⟩,⟨6,.chain⟩,⟨0,.phase⟩,⟨1,.phase⟩,⟨2,.phase⟩,⟨3,.phase⟩,⟨4,.phase⟩,⟨5,.phase⟩,⟨6,.phase⟩,⟨7,.phase⟩],none⟩]
theorem qfw{id:Nat}(b1:Nat)(kd:Int)(NM:BA)(q:Pl)(PA:OA)(pl pc:Nat)(CA:OA)(cl cc:Nat)(rc:Bool)(k:Int)(S:BA)(n:Int)(p:Pl)(A:OA)(kl c:Nat)(B:OA)(al bc:Nat)(P:BA)(a0:Act)(w:World)(hx:w.drew.heap[b1]?=some (.cells #[.int .u8 kd,NM,q.a,q.l,q.c,.slice PA pl pc,.slice CA cl cc,.bool rc,.int .u8 k,S,n,p.a,p.l,p.c,.slice A kl c,.slice B al bc] 52 (0,0)))(hz0:NM.size<=4000000)(hz1:P.size<=4000000)(HC:∀ W,Bel w.drew W->Calls Tryz.prog 30 #[.agg #[.int .u8 k,S,n,p.a,p.l,p.c,.slice A kl c,.slice B al bc]] W (StR (.string P) W))(Q:Exit->Act->World->Prop)
  (hend:∀ (V:Nat->Value) (w':World),Bel w.drew w'->((V 7)=.string ((⟨#[108,101,116,32,114,101,99,32]⟩:BA)++NM++(⟨#[32,61,32]⟩:BA)++P))->wpList Tryz.prog regD3.toArray Q (regD3.drop 8) (finP regD3 8 V a0) w') (hN:a0.tmps.size=104:=by kernel_rfl) (hp1:a0.eval (.tmp 1)=.pointer (some ⟨b1,0,none⟩):=by kernel_rfl) :
  (Code.region id regD3.toArray true).wp Tryz.prog Q a0 w:=by
 refine qW 8 104 a0 w (fun i v w=>match i with
  | 0=>v=.pointer (some ⟨b1,1,none⟩)
  | 1=>v=.string NM
  | 2=>v=.string ((⟨#[108,101,116,32,114,101,99,32]⟩:BA)++NM)
  | 3=>v=.string ((⟨#[108,101,116,32,114,101,99,32]⟩:BA)++NM++(⟨#[32,61,32]⟩:BA))
  | 4=>v=.pointer (some ⟨b1,8,none⟩)
  | 5=>v=.agg #[.int .u8 k,S,n,p.a,p.l,p.c,.slice A kl c,.slice B al bc]
  | 6=>v=.string P
  | 7=>v=.string ((⟨#[108,101,116,32,114,101,99,32]⟩:BA)++NM++(⟨#[32,61,32]⟩:BA)++P)
  | _=>True) (by kernel_rfl) (by kernel_rfl) hN (fun _ _ _ _ _ h _=>h) ?_ ?_
 ·intro i' o hi' ho a w1 V hbel hd hpar K hK
  have p1':=dP (hpar 1 (by kernel_rfl)) hp1;obtain⟨q0,q1,q5,q6,q7,q8,q9,q10,q11,q12,q13,q14,q15⟩:=zW (hbel.blk hx);have y2:¬ (9223372036854775807<8+NM.size):=by omega
  have y3:¬ (9223372036854775807<8+NM.size+3):=by omega
  have y7:¬ (9223372036854775807<8+NM.size+3+P.size):=by omega
  match i',hi',ho,hd,hK with
  | 0,_,ho,hd,hK=>cases ho;exact oW hK rfl rfl (by simp[execOp,go_sem,p1'])
  | 1,_,ho,hd,hK=>cases ho;exact oW hK rfl rfl (by simp[execOp,go_sem,dE (hd 0 13 rfl),q1])
  | 2,_,ho,hd,hK=>cases ho;exact oW hK rfl rfl (by simp[execOp,go_sem,dE (hd 1 14 rfl),y2])
  | 3,_,ho,hd,hK=>cases ho;exact oW hK rfl rfl (by simp[execOp,go_sem,dE (hd 2 15 rfl),y3])
  | 4,_,ho,hd,hK=>cases ho;exact oW hK rfl rfl (by simp[execOp,go_sem,p1'])
  | 5,_,ho,hd,hK=>cases ho;exact oW hK rfl rfl (by simp[execOp,go_sem,dE (hd 4 17 rfl),q8,q9,q10,q11,q12,q13,q14,q15])
  | 6,_,ho,hd,hK=>cases ho;exact oK hK rfl (HC w1 hbel) (fun _=>rfl) (by simp[go_sem,dE (hd 5 18 rfl)])
  | 7,_,ho,hd,hK=>cases ho;exact oW hK rfl rfl (by simp[execOp,go_sem,dE (hd 3 16 rfl),dE (hd 6 19 rfl),y7])
  | q+8,hi,_,_,_=>exact absurd hi (by omega)
 ·intro V w' hb hF
  exact hend V w' hb (hF 7 (by omega))
def regD4:List Oper:=[
 ⟨some 21,.fieldAddr 52 (.tmp 1) 1,0,jb,#[],none⟩,
 ⟨some 22,.load 9 (.tmp 21),9,jb,#[⟨0,.data⟩],none⟩,
 ⟨some 23,.binOp .add 9 (.const (Value.string { data:=#[108,101,116,32] })) (.tmp 22) 9,9,jb,#[⟨1,.data⟩],none⟩,
 ⟨some 24,.binOp .add 9 (.tmp 23) (.const (Value.string { data:=#[32,61,32] })) 9,9,jb,#[⟨2,.data⟩],none⟩,
 ⟨some 25,.fieldAddr 52 (.tmp 1) 6,0,jb,#[],none⟩,
 ⟨some 26,.load 28 (.tmp 25),28,jb,#[⟨4,.data⟩],none⟩,
 ⟨some 27,.call ⟨.value (.func 30),#[.tmp 26],#[28]⟩,9,jb,#[⟨5,.data⟩],none⟩,
 ⟨some 28,.binOp .add 9 (.tmp 24) (.tmp 27) 9,9,jb,#[⟨3,.data⟩,⟨6,.data⟩],none⟩,
 ⟨some 2,.assign (.tmp 28),9,jb,#[⟨7,.data⟩,⟨6,.chain⟩,⟨0,.phase⟩,⟨1,.phase⟩,⟨2,.phase⟩,⟨3,.phase⟩,⟨4,.phase⟩,⟨5,.phase⟩,⟨6,.phase⟩,⟨7,.phase⟩],none⟩]
theorem qfx{id:Nat}(b1:Nat)(kd:Int)(NM:BA)(q:Pl)(PA:OA)(pl pc:Nat)(CA:OA)(cl cc:Nat)(rc:Bool)(k:Int)(S:BA)(n:Int)(p:Pl)(A:OA)(kl c:Nat)(B:OA)(al bc:Nat)(P:BA)(a0:Act)(w:World)(hx:w.drew.heap[b1]?=some (.cells #[.int .u8 kd,NM,q.a,q.l,q.c,.slice PA pl pc,.slice CA cl cc,.bool rc,.int .u8 k,S,n,p.a,p.l,p.c,.slice A kl c,.slice B al bc] 52 (0,0)))(hz0:NM.size<=4000000)(hz1:P.size<=4000000)(HC:∀ W,Bel w.drew W->Calls Tryz.prog 30 #[.agg #[.int .u8 k,S,n,p.a,p.l,p.c,.slice A kl c,.slice B al bc]] W (StR (.string P) W))(Q:Exit->Act->World->Prop)
  (hend:∀ (V:Nat->Value) (w':World),Bel w.drew w'->((V 7)=.string ((⟨#[108,101,116,32]⟩:BA)++NM++(⟨#[32,61,32]⟩:BA)++P))->wpList Tryz.prog regD4.toArray Q (regD4.drop 8) (finP regD4 8 V a0) w') (hN:a0.tmps.size=104:=by kernel_rfl) (hp1:a0.eval (.tmp 1)=.pointer (some ⟨b1,0,none⟩):=by kernel_rfl) :
  (Code.region id regD4.toArray true).wp Tryz.prog Q a0 w:=by
 refine qW 8 104 a0 w (fun i v w=>match i with
  | 0=>v=.pointer (some ⟨b1,1,none⟩)
  | 1=>v=.string NM
  | 2=>v=.string ((⟨#[108,101,116,32]⟩:BA)++NM)
  | 3=>v=.string ((⟨#[108,101,116,32]⟩:BA)++NM++(⟨#[32,61,32]⟩:BA))
  | 4=>v=.pointer (some ⟨b1,8,none⟩)
  | 5=>v=.agg #[.int .u8 k,S,n,p.a,p.l,p.c,.slice A kl c,.slice B al bc]
  | 6=>v=.string P
  | 7=>v=.string ((⟨#[108,101,116,32]⟩:BA)++NM++(⟨#[32,61,32]⟩:BA)++P)
  | _=>True) (by kernel_rfl) (by kernel_rfl) hN (fun _ _ _ _ _ h _=>h) ?_ ?_
 ·intro i' o hi' ho a w1 V hbel hd hpar K hK
  have p1':=dP (hpar 1 (by kernel_rfl)) hp1;obtain⟨q0,q1,q5,q6,q7,q8,q9,q10,q11,q12,q13,q14,q15⟩:=zW (hbel.blk hx);have y2:¬ (9223372036854775807<4+NM.size):=by omega
  have y3:¬ (9223372036854775807<4+NM.size+3):=by omega
  have y7:¬ (9223372036854775807<4+NM.size+3+P.size):=by omega
  match i',hi',ho,hd,hK with
  | 0,_,ho,hd,hK=>cases ho;exact oW hK rfl rfl (by simp[execOp,go_sem,p1'])
  | 1,_,ho,hd,hK=>cases ho;exact oW hK rfl rfl (by simp[execOp,go_sem,dE (hd 0 21 rfl),q1])
  | 2,_,ho,hd,hK=>cases ho;exact oW hK rfl rfl (by simp[execOp,go_sem,dE (hd 1 22 rfl),y2])
  | 3,_,ho,hd,hK=>cases ho;exact oW hK rfl rfl (by simp[execOp,go_sem,dE (hd 2 23 rfl),y3])
  | 4,_,ho,hd,hK=>cases ho;exact oW hK rfl rfl (by simp[execOp,go_sem,p1'])
  | 5,_,ho,hd,hK=>cases ho;exact oW hK rfl rfl (by simp[execOp,go_sem,dE (hd 4 25 rfl),q8,q9,q10,q11,q12,q13,q14,q15])
  | 6,_,ho,hd,hK=>cases ho;exact oK hK rfl (HC w1 hbel) (fun _=>rfl) (by simp[go_sem,dE (hd 5 26 rfl)])
  | 7,_,ho,hd,hK=>cases ho;exact oW hK rfl rfl (by simp[execOp,go_sem,dE (hd 3 24 rfl),dE (hd 6 27 rfl),y7])
  | q+8,hi,_,_,_=>exact absurd hi (by omega)
 ·intro V w' hb hF
  exact hend V w' hb (hF 7 (by omega))
def regD21:List Oper:=[
 ⟨some 89,.move (.tmp 3),9,zd,#[],none⟩,
 ⟨some 90,.binOp .add 9 (.tmp 89) (.const (Value.string { data:=#[32] })) 9,9,zd,#[⟨0,.data⟩],none⟩,
 ⟨some 91,.buildSlice 44 3 #[(0,.const (Value.string { data:=#[49] })),(1,.const (Value.string { data:=#[63] })),(2,.const (Value.string { data:=#[42] }))],44,zd,#[],none⟩,
 ⟨some 92,.fieldAddr 46 (.tmp 7) 0,0,zd,#[],none⟩,
 ⟨some 93,.load 40 (.tmp 92),40,zd,#[⟨3,.data⟩],none⟩,
 ⟨some 94,.binOp .sub 40 (.tmp 93) (.const (Value.int IntKind.u8 1)) 40,40,zd,#[⟨4,.data⟩],none⟩,
 ⟨some 95,.indexAddr 44 (.tmp 91) (.tmp 94),0,zd,#[⟨2,.data⟩,⟨5,.data⟩],none⟩,
 ⟨some 96,.load 9 (.tmp 95),9,zd,#[⟨6,.data⟩],none⟩,
 ⟨some 97,.binOp .add 9 (.tmp 90) (.tmp 96) 9,9,zd,#[⟨1,.data⟩,⟨7,.data⟩],none⟩,
 ⟨some 98,.binOp .add 9 (.tmp 97) (.const (Value.string { data:=#[32] })) 9,9,zd,#[⟨8,.data⟩],none⟩,
 ⟨some 99,.fieldAddr 46 (.tmp 7) 1,0,zd,#[],none⟩,
 ⟨some 100,.load 43 (.tmp 99),43,zd,#[⟨10,.data⟩],none⟩,
 ⟨some 101,.call ⟨.value (.func 57),#[.tmp 100],#[43]⟩,9,zd,#[⟨11,.data⟩],none⟩,
 ⟨some 102,.binOp .add 9 (.tmp 98) (.tmp 101) 9,9,zd,#[⟨9,.data⟩,⟨12,.data⟩],none⟩,
 ⟨some 3,.assign (.tmp 102),9,zd,#[⟨13,.data⟩,⟨12,.chain⟩,⟨0,.phase⟩,⟨1,.phase⟩,⟨2,.phase⟩,⟨3,.phase⟩,⟨4,.phase⟩,⟨5,.phase⟩,⟨6,.phase⟩,⟨7,.phase⟩,⟨8,.phase⟩,⟨9,.phase⟩,⟨10,.phase⟩,⟨11,.phase⟩,⟨12,.phase⟩,⟨13,.phase⟩],none⟩]
theorem qdW{id:Nat}(b2:Nat)(T:BA)(m:Int)(k:Int)(S:BA)(n:Int)(p:Pl)(A:OA)(l c:Nat)(P:BA)(a0:Act)(w:World)(hx:w.drew.heap[b2]?=some (.cells #[.int .u8 m,.int .u8 k,S,.int .u8 n,p.a,p.l,p.c,.slice A l c] 46 (0,0)))(hm:m=1∨m=2∨m=3)(hz0:T.size<=8000000)(hz1:P.size<=4000000)(HC:∀ W,Bel w.drew W->Calls Tryz.prog 57 #[.agg #[.int .u8 k,S,.int .u8 n,p.a,p.l,p.c,.slice A l c]] W (StR (.string P) W))(Q:Exit->Act->World->Prop)
  (hend:∀ (V:Nat->Value) (w':World),Bel w.drew w'->((V 13)=.string (T++(⟨#[32]⟩:BA)++oft m++(⟨#[32]⟩:BA)++P))->wpList Tryz.prog regD21.toArray Q (regD21.drop 14) (finP regD21 14 V a0) w') (hN:a0.tmps.size=104:=by kernel_rfl) (hp3:a0.eval (.tmp 3)=.string T:=by kernel_rfl) (hp7:a0.eval (.tmp 7)=.pointer (some ⟨b2,0,none⟩):=by kernel_rfl) :
  (Code.region id regD21.toArray true).wp Tryz.prog Q a0 w:=by
 refine qW 14 104 a0 w (fun i v w=>match i with
  | 0=>v=.string T
  | 1=>v=.string (T++(⟨#[32]⟩:BA))
  | 2=>∃ g,v=.slice (some ⟨g,0,none⟩) 3 3/\w.heap[g]?=some (.cells #[.string ⟨#[49]⟩,.string ⟨#[63]⟩,.string ⟨#[42]⟩] 9 (0,0))
  | 3=>v=.pointer (some ⟨b2,0,none⟩)
  | 4=>v=.int .u8 m
  | 5=>v=.int .u8 (m-1)
  | 6=>∃ g j,v=.pointer (some ⟨g,j,none⟩)/\w.cell? ⟨g,j,none⟩=some (.string (oft m))/\g<w.heap.size
  | 7=>v=.string (oft m)
  | 8=>v=.string (T++(⟨#[32]⟩:BA)++oft m)
  | 9=>v=.string (T++(⟨#[32]⟩:BA)++oft m++(⟨#[32]⟩:BA))
  | 10=>v=.pointer (some ⟨b2,1,none⟩)
  | 11=>v=.agg #[.int .u8 k,S,.int .u8 n,p.a,p.l,p.c,.slice A l c]
  | 12=>v=.string P
  | 13=>v=.string (T++(⟨#[32]⟩:BA)++oft m++(⟨#[32]⟩:BA)++P)
  | _=>True) (by kernel_rfl) (by kernel_rfl) hN (by
   intro i v w w' hi h hb
   match i,hi,h with
   | 2,_,h=>obtain⟨g,e,hc⟩:=h;exact⟨g,e,hb.blk hc⟩
   | 6,_,h=>obtain⟨g,j,e,hc,hl⟩:=h;exact⟨g,j,e,(hb.cells.1 _ _ hl).trans hc,lT hl hb.size⟩
   | 0,_,h | 1,_,h | 3,_,h | 4,_,h | 5,_,h | 7,_,h | 8,_,h | 9,_,h | 10,_,h | 11,_,h | 12,_,h | 13,_,h=>exact h
   | q+14,hi,_=>exact absurd hi (by omega)) ?_ ?_
 ·intro i' o hi' ho a w1 V hbel hd hpar K hK
  have p3':=dP (hpar 3 (by kernel_rfl)) hp3;have p7':=dP (hpar 7 (by kernel_rfl)) hp7;obtain⟨q0,q1,q2,q3,q4,q5,q6,q7⟩:=box8 (hbel.blk hx);have ya:(oft m).size=1:=by rcases hm with rfl | rfl | rfl <;> rfl
  have y1:¬ (9223372036854775807<T.size+1):=by omega
  have y2:¬ (9223372036854775807<T.size+1+1):=by omega
  have y3:¬ (9223372036854775807<T.size+1+1+1):=by omega
  have y4:¬ (9223372036854775807<T.size+1+1+1+P.size):=by omega
  match i',hi',ho,hd,hK with
  | 0,_,ho,hd,hK=>cases ho;exact oW hK rfl rfl (by simp[execOp,go_sem,p3'])
  | 1,_,ho,hd,hK=>cases ho;exact oW hK rfl rfl (by simp[execOp,go_sem,dE (hd 0 89 rfl),y1])
  | 2,_,ho,hd,hK=>cases ho;refine oN rfl ?_;exact qX (v:= .slice (some ⟨w1.heap.size,0,none⟩) 3 3) (w':=w1.alloc (.cells #[.string ⟨#[49]⟩,.string ⟨#[63]⟩,.string ⟨#[42]⟩] 9)) (by simp[execOp,go_sem]) (hK _ _ ((Bel.refl w1).alloc _) ⟨w1.heap.size,rfl,blk1 w1 _⟩)
  | 3,_,ho,hd,hK=>cases ho;exact oW hK rfl rfl (by simp[execOp,go_sem,p7'])
  | 4,_,ho,hd,hK=>cases ho;exact oW hK rfl rfl (by simp[execOp,go_sem,dE (hd 3 92 rfl),q0])
  | 5,_,ho,hd,hK=>
   cases ho;refine oN rfl ?_;rcases hm with rfl | rfl | rfl
   all_goals exact qX (v:= .int .u8 _) (w':=w1) (by simp[execOp,go_sem,dE (hd 4 93 rfl)];rfl) (hK _ _ (Bel.refl _) rfl)
  | 6,_,ho,hd,hK=>
   cases ho;obtain⟨⟨g2,hv2,hc2⟩,d2⟩:=hd 2 91 rfl;have e2':=d2.trans hv2;refine oN rfl ?_;have hl2:g2<w1.heap.size:=(aJ.1 hc2).1;rcases hm with rfl | rfl | rfl
   ·exact qX (v:= .pointer (some ⟨g2,0,none⟩)) (w':=w1) (by simp[execOp,go_sem,e2',dE (hd 5 94 rfl)]) (hK _ _ (Bel.refl _) ⟨g2,0,rfl,by simp[World.cell?,hc2,oft],hl2⟩)
   ·exact qX (v:= .pointer (some ⟨g2,1,none⟩)) (w':=w1) (by simp[execOp,go_sem,e2',dE (hd 5 94 rfl)]) (hK _ _ (Bel.refl _) ⟨g2,1,rfl,by simp[World.cell?,hc2,oft],hl2⟩)
   ·exact qX (v:= .pointer (some ⟨g2,2,none⟩)) (w':=w1) (by simp[execOp,go_sem,e2',dE (hd 5 94 rfl)]) (hK _ _ (Bel.refl _) ⟨g2,2,rfl,by simp[World.cell?,hc2,oft],hl2⟩)
  | 7,_,ho,hd,hK=>cases ho;obtain⟨⟨g6,j6,hv6,hc6,hl6⟩,d6⟩:=hd 6 95 rfl;have e6':=d6.trans hv6;exact oW hK rfl rfl (by simp[execOp,go_sem,e6',hc6])
  | 8,_,ho,hd,hK=>cases ho;exact oW hK rfl rfl (by simp[execOp,go_sem,dE (hd 1 90 rfl),dE (hd 7 96 rfl),ya,y2])
  | 9,_,ho,hd,hK=>cases ho;exact oW hK rfl rfl (by simp[execOp,go_sem,dE (hd 8 97 rfl),ya,y3])
  | 10,_,ho,hd,hK=>cases ho;exact oW hK rfl rfl (by simp[execOp,go_sem,p7'])
  | 11,_,ho,hd,hK=>cases ho;exact oW hK rfl rfl (by simp[execOp,go_sem,dE (hd 10 99 rfl),q1,q2,q3,q4,q5,q6,q7])
  | 12,_,ho,hd,hK=>cases ho;exact oK hK rfl (HC w1 hbel) (fun _=>rfl) (by simp[go_sem,dE (hd 11 100 rfl)])
  | 13,_,ho,hd,hK=>cases ho;exact oW hK rfl rfl (by simp[execOp,go_sem,dE (hd 9 98 rfl),dE (hd 12 101 rfl),ya,y4])
  | q+14,hi,_,_,_=>exact absurd hi (by omega)
 ·intro V w' hb hF
  exact hend V w' hb (hF 13 (by omega))
set_option maxHeartbeats 16000000
theorem qiN(m:Int)(h:m=1∨m=2∨m=3)(F:List Tn):sfx (zg m::F)=32::(oft m).data.toList++sfx F:=by
 rw[qp];congr 1;rcases h with rfl | rfl | rfl
 ·decide +kernel
 ·rfl
 ·rfl
theorem qkb{T S:BA}(h:32::T.data.toList=32::S.data.toList):T=S:=by
 have h6:T.data.toList=S.data.toList:=by injection h
 cases S;cases T;simp only[Array.toList_inj]at h6;rw[h6]
theorem qd0(kd:Int)(nm:LU)(q:Pl)(PA:OA)(pc:Nat)(ps:List LU)(CA:OA)(cc:Nat)(cs:List Cd)(rc:Bool)(k:Int)(s:LU)(n:Int)(p:Pl)(A:OA)(c:Nat)(B:OA)(bc:Nat)(kids arms:Tr)(w:World)(hp:RowOf 1 SAt w (OldT w) PA ps.length pc ps)(hc:RowOf 5 CdAt w (OldT w) CA cs.length cc cs)(hk:KidsTr w (OldT w) .ex A kids.len c kids)(ha:KidsTr w (OldT w) .arms B arms.len bc arms)(hg:Dc.good ⟨kd,nm,q,ps,cs,rc,k,s,n,p,kids,arms⟩)(hm:dcMR ⟨kd,nm,q,ps,cs,rc,k,s,n,p,kids,arms⟩=true)(hz:(sfx (dcK ⟨kd,nm,q,ps,cs,rc,k,s,n,p,kids,arms⟩)).length<=4000000) :
  Calls Tryz.prog 23 #[.agg #[.int .u8 kd,.string ⟨nm.toArray⟩,q.a,q.l,q.c,.slice PA ps.length pc,.slice CA cs.length cc,.bool rc,.int .u8 k,.string ⟨s.toArray⟩,n,p.a,p.l,p.c,.slice A kids.len c,.slice B arms.len bc]] w (StR (.string (strS (dcK ⟨kd,nm,q,ps,cs,rc,k,s,n,p,kids,arms⟩))) w):=by
 obtain⟨g1,g2,g3,g4⟩:=hg;simp only at g1 g2 g3 g4;unfold dcMR at hm;simp only at hm;have et:Dc.tr ⟨kd,nm,q,ps,cs,rc,k,s,n,p,kids,arms⟩=.nod k s n p kids arms .nil:=rfl;rw[et]at hm;obtain⟨T,hT⟩:=nW (strS (dcK ⟨kd,nm,q,ps,cs,rc,k,s,n,p,kids,arms⟩));rw[<- hT];unfold dcK at hT hz;simp only at hT hz;by_cases h2:kd=2
 ·subst h2
  rw[if_pos rfl]at hm;rw[if_neg (by decide)]at hT hz;simp only[bA,pE,Tr.mayE,and_true]at hm;have hmE:=hm.2;have hne:=ZY (hk.isNods (by intro e;cases e)) hk.ok hmE.1.1 hmE.1.2;have hz1:=hz;rw[zq,zq,zJ]at hz1;simp only[lA,lC]at hz1;have hzx:(sfx (qe k s n kids arms)).length<=4000000:=by omega
  have hnz:nm.length<=4000000:=by omega
  have HX0:=fun W (hW:Bel w W)=>qap (kids.size+arms.size) k s n p A kids.len c kids B arms.len bc arms W rfl (hk.bel hW) (ha.bel hW) (by omega) (qi3 hmE.1.1 hzx) hmE.1.1 hmE.1.2 hmE.2 hzx;obtain⟨P,hP⟩:=nW (strS (qe k s n kids arms));have hPL:32::P.data.toList=sfx (qe k s n kids arms):=by rw[hP];exact qw hne
  have hPz:=zB hPL;rw[<- hP]at HX0;obtain⟨NM,hNM⟩:=nW (⟨nm.toArray⟩:BA);have hnl:NM.data.toList=nm:=by rw[hNM]
  have hns:NM.size=nm.length:=by rw[hNM];simp[ByteArray.size]
  obtain⟨S,hSS⟩:=nW (⟨s.toArray⟩:BA);obtain⟨kl,hkl⟩:=nW kids.len;obtain⟨al,hal⟩:=nW arms.len;obtain⟨pl,hpl⟩:=nW ps.length;obtain⟨cl,hcl⟩:=nW cs.length;rw[<- hSS,<- hkl,<- hal]at HX0;rw[<- hSS,<- hkl,<- hal,<- hpl,<- hcl,<- hNM];have HX:=hid HX0;have HPL:=hid hPL;have HNM:=hid hnl;have HT:=hid hT;have HZZ:Hid (NM.size<=4000000/\P.size<=4000000):=hid ⟨by omega,by omega⟩;clear hp hc hk ha g1 g2 g3 g4 hm et hT hz hmE hne hz1 hzx hnz HX0 hP hPL hPz hnl hns hNM hSS hkl hal hpl hcl;cases rc
  ·have hTT:T=(⟨#[108,101,116,32]⟩:BA)++NM++(⟨#[32,61,32]⟩:BA)++P:=by
    rw[HT.out];symm;apply jy;rw[show (zm::(if false=true then [zY] else [])++[tk0 1 nm 0,kwEq]++qe k s n kids arms)=zm::tk0 1 nm 0::kwEq::qe k s n kids arms from rfl,ZO,zJ,qd8,<- HPL.out,qj,qj,qj,HNM.out];simp
   have hq1:=blk1 w (.cells #[.int .u8 2,NM,q.a,q.l,q.c,.slice PA pl pc,.slice CA cl cc,.bool false,.int .u8 k,S,n,p.a,p.l,p.c,.slice A kl c,.slice B al bc] 52);have HQ:=hid hq1;have HB1:=hid ((Bel.refl w).alloc (.cells #[.int .u8 2,NM,q.a,q.l,q.c,.slice PA pl pc,.slice CA cl cc,.bool false,.int .u8 k,S,n,p.a,p.l,p.c,.slice A kl c,.slice B al bc] 52));obtain⟨x0,x1,x5,x6,x7,x8,x9,x10,x11,x12,x13,x14,x15⟩:=zW hq1;clear hq1 HT HPL HNM;subst hTT;go_enter Tryz.func23,Tryz.ntmps23;go_wp2_with fail;refine qfx w.heap.size 2 NM q PA pl pc CA cl cc false k S n p A kl c B al bc P _ (w.alloc (.cells #[.int .u8 2,NM,q.a,q.l,q.c,.slice PA pl pc,.slice CA cl cc,.bool false,.int .u8 k,S,n,p.a,p.l,p.c,.slice A kl c,.slice B al bc] 52)) HQ HZZ.1 HZZ.2 (fun W hW=>HX W (HB1.on ((Bel.refl _).drew.on hW))) _ ?_;intro V w2 hb2 hv;simp only[finP,zz,Nat.reduceAdd,jA,jB,jC,jD,jE,regD4,jF,jG,hv];have HB2:=hid (HB1.on ((Bel.refl _).drew.on hb2));clear hb2 hv x0 x1 x5 x6 x7 x8 x9 x10 x11 x12 x13 x14 x15;go_wp2_with fail;go_ret;exact⟨rfl,HB2⟩
  ·have hTT:T=(⟨#[108,101,116,32,114,101,99,32]⟩:BA)++NM++(⟨#[32,61,32]⟩:BA)++P:=by
    rw[HT.out];symm;apply jy;rw[show (zm::(if true=true then [zY] else [])++[tk0 1 nm 0,kwEq]++qe k s n kids arms)=zm::zY::tk0 1 nm 0::kwEq::qe k s n kids arms from rfl,ZO,qc8,zJ,qd8,<- HPL.out,qj,qj,qj,HNM.out];simp
   have hq1:=blk1 w (.cells #[.int .u8 2,NM,q.a,q.l,q.c,.slice PA pl pc,.slice CA cl cc,.bool true,.int .u8 k,S,n,p.a,p.l,p.c,.slice A kl c,.slice B al bc] 52);have HQ:=hid hq1;have HB1:=hid ((Bel.refl w).alloc (.cells #[.int .u8 2,NM,q.a,q.l,q.c,.slice PA pl pc,.slice CA cl cc,.bool true,.int .u8 k,S,n,p.a,p.l,p.c,.slice A kl c,.slice B al bc] 52));obtain⟨x0,x1,x5,x6,x7,x8,x9,x10,x11,x12,x13,x14,x15⟩:=zW hq1;clear hq1 HT HPL HNM;subst hTT;go_enter Tryz.func23,Tryz.ntmps23;go_wp2_with fail;refine qfw w.heap.size 2 NM q PA pl pc CA cl cc true k S n p A kl c B al bc P _ (w.alloc (.cells #[.int .u8 2,NM,q.a,q.l,q.c,.slice PA pl pc,.slice CA cl cc,.bool true,.int .u8 k,S,n,p.a,p.l,p.c,.slice A kl c,.slice B al bc] 52)) HQ HZZ.1 HZZ.2 (fun W hW=>HX W (HB1.on ((Bel.refl _).drew.on hW))) _ ?_;intro V w2 hb2 hv;simp only[finP,zz,Nat.reduceAdd,jA,jB,jC,jD,jE,regD3,jF,jG,hv];have HB2:=hid (HB1.on ((Bel.refl _).drew.on hb2));clear hb2 hv x0 x1 x5 x6 x7 x8 x9 x10 x11 x12 x13 x14 x15;go_wp2_with fail;go_ret;exact⟨rfl,HB2⟩
 rw[if_neg h2]at hm;simp only[bA,pE,Bool.not_eq_true']at hm;obtain⟨⟨⟨⟨⟨⟨hk1,hm2⟩,hm3⟩,hm4⟩,hm5⟩,hm6⟩,hm7⟩:=hm;subst hk1;rw[if_pos rfl]at hT hz;have hOwn:sfx (J2 nm ps cs)=[32,100,97,116,97]++(32::nm)++sfx (psK ps)++[32,61]++sfx (jR cs 0):=by
  unfold J2 jR;rw[if_pos rfl,qig hm5,cAa,cAa,qbL,ZU (by decide) (by decide),qz,qbL];simp
 have hTL:32::T.data.toList=sfx (J2 nm ps cs):=by rw[hT];exact qw (by unfold J2;simp)
 have hTz:T.size<=4000000:=by have:=zB hTL;omega
 rw[hOwn]at hTL;have hlen:=congrArg List.length hTL;simp only[lA,lC,lNn,zD]at hlen;have HNF:Hid (∀ x∈cs,x.fs.length<=1000000/\∀ f∈x.fs,f.kids.size<=4000000/\(f.m=1∨f.m=2∨f.m=3)/\hTf f.k f.s f.n f.kids.len=true/\f.kids.mayP hTf=true):=hid fun x hx=>by
  have h1:=List.all_eq_true.1 hm7 x hx;unfold cdMR at h1;rw[bA,List.all_eq_true]at h1;refine⟨(g4 x hx).1,fun f hf=>?_⟩;have h3:=(g4 x hx).2 f hf;unfold Fd.good at h3;have h4:=h1.2 f hf;unfold fdMR at h4;rw[bA,qcU,pE]at h4;have h5:=h4.2;unfold Fd.tr at h5;simp only[Tr.mayP,Bool.and_true,bA]at h5;exact⟨by omega,by omega,h5.1,h5.2⟩
 obtain⟨NM,hNM⟩:=nW (⟨nm.toArray⟩:BA);have hnl:NM.data.toList=nm:=by rw[hNM]
 have hns:NM.size=nm.length:=by rw[hNM];simp[ByteArray.size]
 have HI0:Hid (32::T.data.toList=32::((⟨#[100,97,116,97,32]⟩:BA)++NM).data.toList++sfx (psK (ps.drop 0))++([32,61]++sfx (jR cs 0))):=hid (by rw[hTL,qj,hnl,List.drop_zero];simp);obtain⟨S,hSS⟩:=nW (⟨s.toArray⟩:BA);obtain⟨kl,hkl⟩:=nW kids.len;obtain⟨al,hal⟩:=nW arms.len;obtain⟨pl,hpl⟩:=nW ps.length;obtain⟨cl,hcl⟩:=nW cs.length;have HP:=hid hp;have HC:=hid hc;have HPL:=hid hpl;have HCL:=hid hcl;have HTZ:=hid hTz;have HC0:=hid hm5;rw[<- hpl]at HP g2;rw[<- hcl]at HC g1;rw[<- hSS,<- hkl,<- hal,<- hpl,<- hcl,<- hNM];have k2:((1:Int)==2)=false:=by decide
 have hc0:¬ (9223372036854775807<5+NM.size):=by omega
 have hq1:=blk1 w (.cells #[.int .u8 1,NM,q.a,q.l,q.c,.slice PA pl pc,.slice CA cl cc,.bool rc,.int .u8 k,S,n,p.a,p.l,p.c,.slice A kl c,.slice B al bc] 52);have hb1:Bel w (w.alloc (.cells #[.int .u8 1,NM,q.a,q.l,q.c,.slice PA pl pc,.slice CA cl cc,.bool rc,.int .u8 k,S,n,p.a,p.l,p.c,.slice A kl c,.slice B al bc] 52)):=(Bel.refl w).alloc _;obtain⟨w1,hw1⟩:=nW (w.alloc (.cells #[.int .u8 1,NM,q.a,q.l,q.c,.slice PA pl pc,.slice CA cl cc,.bool rc,.int .u8 k,S,n,p.a,p.l,p.c,.slice A kl c,.slice B al bc] 52));rw[<- hw1]at hq1 hb1;have HW1:=hid hw1;have HQ:=hid hq1;have HB1:=hid hb1;have HS1:Hid (w.heap.size<w1.heap.size):=hid (aJ.1 hq1).1;clear hp hc hk ha g3 g4 h2 hT hz hm2 hm3 hm4 hm5 hm6 hm7 hOwn hTL hTz hlen et hnl hns hNM hSS hkl hal hpl hcl hw1 hq1 hb1;go_enter Tryz.func23,Tryz.ntmps23;go_upto_region 1 with fail
 rw[<- HW1.out];clear HW1;obtain⟨x0,x1,x5,x6,x7,x8,x9,x10,x11,x12,x13,x14,x15⟩:=zW HQ;go_wp2_with fail;clear hc0 x0 x1 x5 x6 x7 x8 x9 x10 x11 x12 x13 x14 x15;go_loopw [3,4] (fun v i wr=>∃ (j:Nat) (Z:BA),j<=pl/\i=.int .i64 (j:Int)/\v=.string Z/\Hid (32::T.data.toList=32::Z.data.toList++sfx (psK (ps.drop j))++([32,61]++sfx (jR cs 0)))/\Hid (Bel w1 wr)) (fun _ i _=>pl-(intOf i).toNat)
 case atStart=>exact⟨0,_,zL _,rfl,rfl,HI0,hid (Bel.refl _)⟩
 case round=>
  obtain⟨j,Z,hj,rfl,rfl,HRJ,HB⟩:=hrel;obtain⟨x0,x1,x5,x6,x7,x8,x9,x10,x11,x12,x13,x14,x15⟩:=zW (HB.blk HQ);have kb:w.heap.size<wr.heap.size:=lT HS1 HB.size;by_cases hlt:j<pl
  ·obtain⟨ub,uo,eA,hob,hfo⟩:=(HP.bel jx (HB1.on HB)).2.2 (by omega)
   subst eA;obtain⟨x,hx⟩:∃ x,ps[j]?=some x:=⟨_,eG (by rw[<- HPL.out];exact hlt)⟩
   have e1:=hfo j x hx;unfold SAt at e1;rw[Nat.mul_one]at e1;have hrj:=HRJ.out;rw[qcW hx,zJ]at hrj;have hlen:=congrArg List.length hrj;simp only[lA,lC,lNn,zD]at hlen;obtain⟨X,hX⟩:=nW (⟨x.toArray⟩:BA);have hXl:X.data.toList=x:=by rw[hX]
   have hXs:X.size=x.length:=by rw[hX];simp[ByteArray.size]
   rw[<- hX]at e1;have hTz:=HTZ.out;have hc1:¬ (9223372036854775807<Z.size+1):=by omega
   have hc2:¬ (9223372036854775807<Z.size+1+X.size):=by omega
   have HN:Hid (32::T.data.toList=32::(Z++⟨#[32]⟩++X).data.toList++sfx (psK (ps.drop (j+1)))++([32,61]++sfx (jR cs 0))):=hid (by rw[hrj,qj,qj,hXl];simp);have i1:(0:Int)<=(j:Int):=by omega
   have i2:(j:Int)<(pl:Int):=by omega
   have kb1:ub<wr.heap.size:=hob;have HLT:=hid hlt;clear hfo hx hob hX hXl hXs hrj hlen hTz hlt;go_wp2_with fail;go_roundw
   case rel=>exact⟨j+1,_,HLT,by go_num,rfl,HN,HB⟩
   case measure=>exact mS HLT
  ·obtain rfl:j=pl:=by omega
   have hrj:=HRJ.out;rw[dNn (by rw[<- HPL.out];exact lR _)]at hrj;have hlen:=congrArg List.length hrj;simp only[lA,lC,lNn,zD]at hlen;have hTz:=HTZ.out;have hc1:¬ (9223372036854775807<Z.size+2):=by omega
   have HI1:Hid (32::T.data.toList=32::(Z++⟨#[32,61]⟩).data.toList++sfx (jR cs 0)):=hid (by rw[hrj,qj];simp[psK,qk]);clear hrj hlen hTz HRJ;go_wp2_with fail;clear hc1 x0 x1 x5 x6 x7 x8 x9 x10 x11 x12 x13 x14 x15 kb;go_loopg [3,5] (cl+1) (fun gk v i wr=>∃ (j:Nat) (Z:BA),Hid (j<=cl/\cl-j<gk)/\i=.int .i64 (j:Int)/\v=.string Z/\Hid (32::T.data.toList=32::Z.data.toList++sfx (jR cs j))/\Hid (Bel w1 wr))
   case atStart=>exact⟨0,_,hid ⟨zL _,by omega⟩,rfl,rfl,HI1,HB⟩
   case round=>
    clear HB HI1 hj;obtain⟨j2,Z,HJ2,rfl,rfl,HRJ,HB⟩:=hrel;obtain⟨x0,x1,x5,x6,x7,x8,x9,x10,x11,x12,x13,x14,x15⟩:=zW (HB.blk HQ);have kb:w.heap.size<wr.heap.size:=lT HS1 HB.size;by_cases hlt:j2<cl
    case neg=>
     have hfin:T=Z:=by
      have h5:=HRJ.out;rw[qeE cs (by rw[<- HCL.out];omega) HC0.out,qk,aNn]at h5;exact qkb h5
     subst hfin;have d1:decide ((j2:Int)<(cl:Int))=false:=dF (by omega);have d2:decide (j2<cl)=false:=dF hlt;clear hlt;go_wp2_with fail;go_ret;exact⟨rfl,HB1.on HB⟩
    obtain⟨ub,uo,eB,hob,hfo⟩:=HC.2.2 (by omega);subst eB;obtain⟨x,hx⟩:∃ x,cs[j2]?=some x:=⟨_,eG (by rw[<- HCL.out];exact hlt)⟩
    have hnx:=HNF.out x (mGg hx);obtain⟨y0,y1,y2,y3,A',ca',y4,hff⟩:=hfo j2 x hx;have hrj:=HRJ.out;rw[qdx hx]at hrj;obtain⟨cn,cp,fs⟩:=x;simp only at y0 y4 hff hnx hrj;have hsx:sfx ((if j2=0 then [] else [tk0 5 [124] 0])++tk0 2 cn 0::fdsK fs++jR cs (j2+1))=sfx (if j2=0 then [] else [tk0 5 [124] 0])++(32::cn++(sfx (fdsK fs)++sfx (jR cs (j2+1)))):=by
     rw[qz,qz,ZU (by decide) (by decide)];simp
    rw[hsx]at hrj;have hlen:=congrArg List.length hrj;simp only[lA,lC,zD]at hlen;have hTz:=HTZ.out;obtain⟨CN,hCN⟩:=nW (⟨cn.toArray⟩:BA);have hCl:CN.data.toList=cn:=by rw[hCN]
    have hCs:CN.size=cn.length:=by rw[hCN];simp[ByteArray.size]
    rw[<- hCN]at y0;obtain⟨fl,hfl⟩:=nW fs.length;have HFN:=hid hfl;have hf8:fl<=1000000:=by have:=hnx.1;omega
    have HWX:=hid hnx.2;rw[<- hfl]at y4 hff;have HF:Hid (RowOf 8 FdAt w (OldT w) A' fl ca' fs):=hid hff;have HY4:=hid y4;have HOB:=hid hob;have hcw0:=(Bel.cells (HB1.on HB)).1;replace y0:=(hcw0 ub _ hob).trans y0;have kb1:ub<wr.heap.size:=lT hob (HB1.on HB).size;have i1:(0:Int)<=(j2:Int):=by omega
    have i2:(j2:Int)<(cl:Int):=by omega
    have HLT:=hid hlt;have HRK:Hid (32::T.data.toList=32::Z.data.toList++(sfx (if j2=0 then [] else [tk0 5 [124] 0])++(32::CN.data.toList++(sfx (fdsK fs)++sfx (jR cs (j2+1)))))):=hid (by rw[hCl];exact hrj);have HZC:Hid (Z.size<=4000000/\CN.size<=4000000):=hid ⟨by omega,by omega⟩;clear hfo hob hx hfl hff y1 y2 y3 y4 hnx hCN hcw0 hrj hlen hTz hCl hCs hlt HRJ hsx;go_upto_if 57 with fail
    obtain⟨b57,hb57⟩:=nW (decide (0<j2));rw[<- hb57];have HB57:=hid hb57;clear hb57;go_cut [3] (fun v wx=>∃ Y:BA,v=.string Y/\Hid (Y.size<=4000002/\32::T.data.toList=32::Y.data.toList++(32::CN.data.toList++(sfx (fdsK fs)++sfx (jR cs (j2+1)))))/\wx=wr)
    case first=>
     by_cases hj0:j2=0
     ·obtain rfl:b57=false:=by rw[HB57.out];exact dF (by omega)
      have HJ0:=hid hj0;clear hj0;go_wp2_with fail;go_meet;refine⟨Z,rfl,hid ⟨by have:=HZC.1;omega,?_⟩,rfl⟩;rw[HRK.out,if_pos HJ0.out,qk,List.nil_append]
     ·obtain rfl:b57=true:=by rw[HB57.out];exact dT (by omega)
      have hc1:¬ (9223372036854775807<Z.size+2):=by have:=HZC.1;omega
      have HJ0:=hid hj0;clear hj0;go_wp2_with fail;go_meet;refine⟨_,rfl,hid ⟨by rw[ByteArray.size_append];have:=HZC.1;show Z.size+2<=4000002;omega,?_⟩,rfl⟩;rw[HRK.out,if_neg HJ0.out,qbL,qk,qj];simp
    case rest=>
     obtain⟨Y,rfl,HY,rfl⟩:=hcut;have hc1:¬ (9223372036854775807<Y.size+1):=by have:=HY.1;omega
     have hc2:¬ (9223372036854775807<Y.size+1+CN.size):=by have:=HY.1;have:=HZC.2;omega
     have HI2:Hid (32::T.data.toList=32::(Y++⟨#[32]⟩++CN).data.toList++sfx (fdsK (fs.drop 0))++sfx (jR cs (j2+1))):=hid (by rw[HY.out.2,List.drop_zero,qj,qj];simp);clear HRK HZC;go_wp2_with fail;clear hc1 hc2 y0 x0 x1 x5 x6 x7 x8 x9 x10 x11 x12 x13 x14 x15 kb kb1 HY;go_loopw [3,6] (fun v i wr=>∃ (h:Nat) (Z:BA),h<=fl/\i=.int .i64 (h:Int)/\v=.string Z/\Hid (32::T.data.toList=32::Z.data.toList++sfx (fdsK (fs.drop h))++sfx (jR cs (j2+1)))/\Hid (Bel w1 wr)) (fun _ i _=>fl-(intOf i).toNat)
     case atStart=>exact⟨0,_,zL _,rfl,rfl,HI2,HB⟩
     case round=>
      clear HB HI2;obtain⟨h,Z,hh,rfl,rfl,HRI,HBI⟩:=hrel;obtain⟨x0,x1,x5,x6,x7,x8,x9,x10,x11,x12,x13,x14,x15⟩:=zW (HBI.blk HQ);have kb:w.heap.size<wr.heap.size:=lT HS1 HBI.size;have hcw:=(Bel.cells (HB1.on HBI)).1;have y4:=(hcw ub _ HOB).trans HY4;have kb1:ub<wr.heap.size:=lT HOB (HB1.on HBI).size;by_cases hlt2:h<fl
      case neg=>
       obtain rfl:h=fl:=by omega
       have HRE:Hid (32::T.data.toList=32::Z.data.toList++sfx (jR cs (j2+1))):=hid (by
        have h5:=HRI.out;rw[dNn (by rw[<- HFN.out];exact lR _),show fdsK []=[] from rfl,qk,aNn]at h5;exact h5)
       clear hcw;go_wp2_with fail;have hjj:=HJ2.out;have hjl:=HLT.out;go_roundg (gk-1)
       case rel=>exact⟨j2+1,Z,hid ⟨by omega,by omega⟩,by go_num,rfl,HRE,HBI⟩
       case measure=>omega
      obtain⟨ub2,uo2,eB2,hob2,hfo2⟩:=HF.2.2 (by omega);subst eB2;obtain⟨y,hy⟩:∃ y,fs[h]?=some y:=⟨_,eG (by rw[<- HFN.out];exact hlt2)⟩
      have hwy:=HWX.out y (mGg hy);obtain⟨A4,c4,hkk,z0,z1,z2,z3,z4,z5,z6,z7⟩:=(hfo2 h y hy).cells;have hrj:=HRI.out;rw[qbk hy]at hrj;obtain⟨fm,fk,fs',fn,fp,fkids⟩:=y;simp only at hkk z0 z1 z2 z3 z4 z5 z6 z7 hwy hrj;obtain⟨w1',w2',w3',w4'⟩:=hwy;have hne:=qa3 (hkk.isNods (by intro e;cases e)) hkk.ok w3' w4';have hsx:sfx (zg fm::brkL (alnT fk fkids.len) (qv fk fs' fn fkids)++fdsK (fs.drop (h+1)))=32::(oft fm).data.toList++(sfx (brkL (alnT fk fkids.len) (qv fk fs' fn fkids))++sfx (fdsK (fs.drop (h+1)))):=by
       rw[cAa,qiN fm w2',qz]
      rw[hsx]at hrj;have hlen:=congrArg List.length hrj;simp only[lA,lC,zD]at hlen;have hTz:=HTZ.out;have hzt:(sfx (qv fk fs' fn fkids)).length<=4000000:=by
       have h8:(sfx (brkL (alnT fk fkids.len) (qv fk fs' fn fkids))).length<=4000000:=by omega
       rw[jX]at h8;split at h8
       ·exact h8
       ·simp only[lA]at h8;omega
      have hkl:=fkids.len_le;have HLW0:=fun W (hW:Bel wr W)=>qby fk ⟨fs'.toArray⟩ fn fp A4 fkids.len c4 (alnT fk fkids.len) (qv fk fs' fn fkids) W hne hzt (qek w3') (by omega) fun W2 hW2=>qhk fkids.size fk fs' fn fp A4 fkids.len c4 fkids W2 rfl (hkk.bel ((HB1.on HBI).on (hW.on hW2))) (by omega) w3' w4' hzt;obtain⟨P,hP⟩:=nW (strS (brkL (alnT fk fkids.len) (qv fk fs' fn fkids)));have hPL:32::P.data.toList=sfx (brkL (alnT fk fkids.len) (qv fk fs' fn fkids)):=by rw[hP];exact qw (zs hne)
      have hPz:P.size<=4000000:=by have:=zB hPL;omega
      rw[<- hP]at HLW0;rw[<- hPL]at hrj;have HLW:=hid HLW0;replace z0:=(hcw ub2 _ hob2).trans z0;replace z1:=(hcw ub2 _ hob2).trans z1;replace z2:=(hcw ub2 _ hob2).trans z2;replace z3:=(hcw ub2 _ hob2).trans z3;replace z4:=(hcw ub2 _ hob2).trans z4;replace z5:=(hcw ub2 _ hob2).trans z5;replace z6:=(hcw ub2 _ hob2).trans z6;replace z7:=(hcw ub2 _ hob2).trans z7;have hob2':ub2<wr.heap.size:=lT hob2 (HB1.on HBI).size;obtain⟨l3,hl3⟩:=nW fkids.len;rw[<- hl3]at z7 HLW;obtain⟨FJ,hFS⟩:=nW (⟨fs'.toArray⟩:BA);rw[<- hFS]at z2 HLW;have j1:(0:Int)<=(h:Int):=by omega
      have j2':(h:Int)<(fl:Int):=by omega
      have HLT2:=hid hlt2;have HRK:=hid hrj;have HM:=hid w2';have HZP:Hid (Z.size<=8000000/\P.size<=4000000):=hid ⟨by omega,hPz⟩;have HBA:Hid (Bel wr (wr.alloc (.cells #[.int .u8 fm,.int .u8 fk,FJ,.int .u8 fn,fp.a,fp.l,fp.c,.slice A4 l3 c4] 46))):=hid ((Bel.refl wr).alloc _);have HQF:=hid (blk1 wr (.cells #[.int .u8 fm,.int .u8 fk,FJ,.int .u8 fn,fp.a,fp.l,fp.c,.slice A4 l3 c4] 46));clear hcw hob2 hfo2 hy hkk hl3 hFS w1' w2' w3' w4' hne hlen hTz hzt hkl hP hPL hPz hrj HLW0 hlt2 hsx;go_wp2_with fail;refine qdW wr.heap.size Z fm fk FJ fn fp A4 l3 c4 P _ (wr.alloc (.cells #[.int .u8 fm,.int .u8 fk,FJ,.int .u8 fn,fp.a,fp.l,fp.c,.slice A4 l3 c4] 46)) HQF HM HZP.1 HZP.2 (fun W hW=>HLW W (HBA.on ((Bel.refl _).drew.on hW))) _ ?_;intro V w3 hb3 hv;simp only[finP,zz,Nat.reduceAdd,jA,jB,jC,jD,jE,regD21,jF,jG,hv];have HB3:=hid (HBI.on (HBA.on ((Bel.refl _).drew.on hb3)));clear hb3 hv x0 x1 x5 x6 x7 x8 x9 x10 x11 x12 x13 x14 x15 y4 z0 z1 z2 z3 z4 z5 z6 z7 kb kb1 hob2';go_wp2_with fail;go_roundw
      case measure=>exact mS HLT2
      refine⟨h+1,_,HLT2,by go_num,rfl,hid ?_,HB3⟩;rw[HRK.out,qj,qj,qj,qj];simp
def okE(k n:Int)(al:Nat):Bool:=(decide (n=0) || decide (k=2))&&(decide (al=0) || decide (k=8))
noncomputable def swE (k:Int) (s:LU) (n:Int) (l al:Nat):Bool:=
 if k=1 then mtB (1,s,0)&&decide (l=0) else if k=2 then decide (s=[])&&mtB (3,[],n)&&decide (l=0) else if k=3 then mtB (4,s,0)&&decide (l=0)
 else if k=4 then mtB (1,s,0)&&decide (l=1) else if k=5 then decide (s=[])&&decide (l=2) else if k=6 then mtB (1,s,0)&&decide (l=2) else if k=7 then mtB (1,s,0)&&decide (l=2)
 else if k=8 then decide (s=[])&&decide (l=1)&&decide (0<al) else if k=9 then mtB (2,s,0) else if k=10 then mtB (6,s,0) || (btwB s&&decide (l=2)) else false
theorem zc(c l:Nat):decide ((c:Int) = -1∨(c:Int)=(l:Int))=decide (l=c):=dDd.2 ⟨fun h=>by omega,fun h=>by omega⟩
theorem aE(al:Nat):(decide (0<al)==false)=decide (al=0):=by by_cases h:al=0 <;> simp[h];omega
theorem aE8(al:Nat):(decide (0<al)==true)=decide (0<al):=by by_cases h:0<al <;> simp[h]
theorem qgV(k:Int)(s:LU)(n:Int)(l al:Nat):hEf k s n l al=(okE k n al&&swE k s n l al):=by
 have B0:∀ t:Int,t≠0->∀ c:Nat,mtB (t,s,n)=(mtB (t,s,0)&&decide (n=0))->(true&&(keepB t c s n l&&(decide (0<al)==false)))=((decide (n=0) || false)&&(decide (al=0) || false)&&(mtB (t,s,0)&&decide (l=c))):=fun t ht c hm=>by
  rw[Jq ht,zc,hm,aE];cases decide (l=c) <;> cases decide (n=0) <;> cases mtB (t,s,0) <;> cases decide (al=0) <;> rfl
 by_cases e1:k=1
 ·subst e1;exact B0 1 (by decide) 0 (mt1 s n)
 by_cases e2:k=2
 ·subst e2
  show (true&&(keepB 3 ((0:Nat):Int) s n l&&(decide (0<al)==false)))=((decide (n=0) || true)&&(decide (al=0) || false)&&(decide (s=[])&&mtB (3,[],n)&&decide (l=0)));rw[Jq (by decide),zc,mt3,aE];cases decide (l=0) <;> cases decide (n=0) <;> cases mtB (3,[],n) <;> cases decide (al=0) <;> cases decide (s=[]) <;> rfl
 by_cases e3:k=3
 ·subst e3;exact B0 4 (by decide) 0 (mt4 s n)
 by_cases e4:k=4
 ·subst e4;exact B0 1 (by decide) 1 (mt1 s n)
 by_cases e5:k=5
 ·subst e5
  show (true&&(keepB 0 ((2:Nat):Int) s n l&&(decide (0<al)==false)))=((decide (n=0) || false)&&(decide (al=0) || false)&&(decide (s=[])&&decide (l=2)));rw[qg4,zc,aE];cases decide (l=2) <;> cases decide (n=0) <;> cases decide (al=0) <;> cases decide (s=[]) <;> rfl
 by_cases e6:k=6
 ·subst e6;exact B0 1 (by decide) 2 (mt1 s n)
 by_cases e7:k=7
 ·subst e7;exact B0 1 (by decide) 2 (mt1 s n)
 by_cases e8:k=8
 ·subst e8
  show (true&&(keepB 0 ((1:Nat):Int) s n l&&(decide (0<al)==true)))=((decide (n=0) || false)&&(decide (al=0) || true)&&(decide (s=[])&&decide (l=1)&&decide (0<al)));rw[qg4,zc,aE8];cases decide (l=1) <;> cases decide (n=0) <;> cases decide (al=0) <;> cases decide (s=[]) <;> cases decide (0<al) <;> rfl
 by_cases e9:k=9
 ·subst e9
  show (true&&(keepB 2 (-1) s n l&&(decide (0<al)==false)))=((decide (n=0) || false)&&(decide (al=0) || false)&&mtB (2,s,0));rw[Jq (by decide),mt2,aE];cases decide (n=0) <;> cases decide (al=0) <;> cases mtB (2,s,0) <;> simp
 by_cases e10:k=10
 ·subst e10
  have hr:swE 10 s n l al=(mtB (6,s,0) || (btwB s&&decide (l=2))):=rfl;have ho:okE 10 n al=((decide (n=0) || false)&&(decide (al=0) || false)):=rfl;by_cases e:btwB s=true
  ·have hx:exR 10 s=(5,2,true):=by simp[exR,e]
   unfold hEf;rw[hx,hr,ho,e,mt65 e];show (true&&(keepB 5 ((2:Nat):Int) s n l&&(decide (0<al)==false)))=_;rw[Jq (by decide),zc,mt5 e,aE];cases decide (n=0) <;> cases decide (al=0) <;> cases decide (l=2) <;> rfl
  ·have e':btwB s=false:=by simpa using e
   have hx:exR 10 s=(6,-1,true):=by simp[exR,e']
   unfold hEf;rw[hx,hr,ho,e'];show (true&&(keepB 6 (-1) s n l&&(decide (0<al)==false)))=_;rw[Jq (by decide),mt6,aE];cases decide (n=0) <;> cases decide (al=0) <;> cases mtB (6,s,0) <;> simp
 ·have hx:exR k s=(0,0,false):=by simp[exR,e1,e2,e3,e4,e5,e6,e7,e8,e9,e10]
  have hr:swE k s n l al=false:=by simp[swE,e1,e2,e3,e4,e5,e6,e7,e8,e9,e10]
  unfold hEf;rw[hx,hr,Bool.and_false];rfl
theorem Jk{w:World}{g:Nat}{t:TypeId}{x0 x1 x2 x3 x4 x5 x6 x7:Value}(h:w.heap[g]?=some (.cells #[x0,x1,x2,x3,x4,x5,x6,x7] t (0,0))) :
  w.cell? ⟨g,0,none⟩=some x0/\w.cell? ⟨g,1,none⟩=some x1/\w.cell? ⟨g,2,none⟩=some x2/\w.cell? ⟨g,6,none⟩=some x6/\w.cell? ⟨g,7,none⟩=some x7:=by
 simp[World.cell?,h]
theorem Zc(N:Nat):∀ (k:Int) (s:LU) (n:Int) (p:Pl) (A:OA) (len cap:Nat) (kids:Tr) (B:OA) (bl bc:Nat) (arms:Tr) (w:World),kids.size+arms.size=N->KidsTr w (OldT w) .ex A len cap kids->KidsTr w (OldT w) .arms B bl bc arms->kids.size+arms.size<=1000000->1+s.length / 64+kids.wt+arms.wt<=60000 →
  Calls Tryz.prog 28 #[.agg #[.int .u8 k,.string ⟨s.toArray⟩,n,p.a,p.l,p.c,.slice A len cap,.slice B bl bc]] w (qu (hEf k s n len bl&&kids.mayE hEf hPf&&arms.mayE hEf hPf) w):=by
 induction N using Nat.strongRecOn with
 | _ N ih=>
  intro k s n p A len cap kids B bl bc arms w hN h hA hsz hwt;have H:=hid h;have HA:=hid hA;have IH:=hid ih;have HL:Hid (len=kids.len):=hid h.1;have HM:Hid (bl=arms.len):=hid hA.1;have HN:=hid hN;have HZ:=hid (And.intro hsz hwt);have hlen:len<=1000000:=by have:=h.1;have:=kids.len_le;omega
  have hbl:bl<=1000000:=by have:=hA.1;have:=arms.len_le;omega
  have hs4:s.length<=4000000:=by omega
  have HF1:=hid fun W=>jN s W;have HF2:=hid fun W=>Qb s W;have HF3:=hid fun W=>qbB s hs4 W;have HF4:=hid fun W=>qbA n W;have HF5:=hid fun W=>qd1 s hs4 W;have HF6:=hid fun W=>ZK s W;have HSP:=hid (qgV k s n len bl);have HSE:Hid ((s=[]/\(⟨s.toArray⟩:BA)=⟨#[]⟩)∨(s≠[]/\(s==[])=false)):=hid (by
   by_cases e:s=[]
   ·exact .inl ⟨e,by rw[e]⟩
   ·exact .inr ⟨e,by simpa using e⟩)
  obtain⟨R,hR⟩:=nW (hEf k s n len bl&&kids.mayE hEf hPf&&arms.mayE hEf hPf);rw[<- hR];have HR:=hid hR;obtain⟨b2,hb2⟩:=nW (hEf k s n len bl);rw[<- hb2]at HR HSP;obtain⟨b,hb⟩:=nW (okE k n bl);rw[<- hb]at HSP;have HBB:=hid hb;clear h hA ih hN hsz hwt hR hb2 hs4 hb;go_enter Tryz.func28,Tryz.ntmps28;go_upto_region 2 with fail
  have q1:=blk1 w (.cells #[.int .u8 k,.string ⟨s.toArray⟩,n,p.a,p.l,p.c,.slice A len cap,.slice B bl bc] 28);have hb1:Bel w (w.alloc (.cells #[.int .u8 k,.string ⟨s.toArray⟩,n,p.a,p.l,p.c,.slice A len cap,.slice B bl bc] 28)):=(Bel.refl w).alloc _;obtain⟨w1,hw1⟩:=nW (w.alloc (.cells #[.int .u8 k,.string ⟨s.toArray⟩,n,p.a,p.l,p.c,.slice A len cap,.slice B bl bc] 28));rw[<- hw1]at q1 hb1 ⊢;have HQ:=hid q1;have HB1:=hid hb1;clear q1 hb1 hw1;obtain⟨x0,x1,x2,x6,x7⟩:=Jk HQ;go_cut [4] (fun v wx=>v=.bool b/\wx=w1)
  case first=>
   by_cases en:n=0
   ·have qn:(n==0)=true:=by simpa using en
    by_cases el:bl=0
    ·have ql:((bl:Int)==0)=true:=by simpa using el
     have EN:=hid (And.intro en el);clear en el;go_wp2_with fail;go_meet;exact⟨by rw[HBB.out];simp[okE,EN.out],rfl⟩
    have ql:((bl:Int)==0)=false:=by simpa using el
    by_cases e5:k=8;all_goals first | have q5:(k==8)=true:=by simpa using e5 | have q5:(k==8)=false:=by simpa using e5
    all_goals have EN:=hid (And.intro en (And.intro el e5))
    all_goals clear en el e5
    all_goals go_wp2_with fail
    all_goals go_meet
    all_goals exact⟨by rw[HBB.out];simp[okE,EN.out],rfl⟩
   have qn:(n==0)=false:=by simpa using en
   by_cases e3:k=2
   case neg=>
    have q3:(k==2)=false:=by simpa using e3
    have EN:=hid (And.intro en e3);clear en e3;go_wp2_with fail;go_meet;exact⟨by rw[HBB.out];simp[okE,EN.out],rfl⟩
   have q3:(k==2)=true:=by simpa using e3
   have q5:(k==8)=false:=by simp;omega
   by_cases el:bl=0;all_goals first | have ql:((bl:Int)==0)=true:=by simpa using el | have ql:((bl:Int)==0)=false:=by simpa using el
   all_goals have EN:=hid (And.intro en (And.intro e3 el))
   all_goals clear en e3 el
   all_goals go_wp2_with fail
   all_goals go_meet
   all_goals exact⟨by rw[HBB.out];simp[okE,EN.out],rfl⟩
  case rest=>
   obtain⟨rfl,hwx⟩:=hcut;rw[hwx];clear hwx;go_upto_region 3 with fail
   rename ∀ (a:Act) (w:World),Code.wp _ (Code.block 0 _) _ a w->_=>hk0
   have HK0:=hid hk0;clear hk0;go_wp2_with fail;refine HK0 _ _ ?_;go_cut [4] (fun v wx=>v=.bool b2/\Hid (Bel w1 wx))
   case first=>
    by_cases e1:k=1
    case pos=>
     as_aux_lemma=>
      subst e1;have HE:Hid (b2=(b&&swE 1 s n len bl)):=HSP;go_upto_region 6 with fail
      cases b
      ·go_wp2_with fail
       go_meet;exact⟨by rw[HE.out];rfl,hid (Bel.refl _)⟩
      go_wp2_with fail;refine (HF1 _).mono ?_;rintro e w2 ⟨rfl,hb2⟩;have HB2:=hid hb2;clear hb2;obtain⟨q,hq⟩:=nW (mtB (1,s,0));rw[<- hq];have HQQ:=hid hq;clear hq;cases q
      ·go_wp2_with fail
       go_meet;exact⟨by rw[HE.out];simp[swE,<- HQQ.out],HB2⟩
      by_cases el:len=0;all_goals first | have ql:((len:Int)==0)=true:=by (have:(len:Int)=0:=by omega);simpa using this | have ql:((len:Int)==0)=false:=by (have:¬ (len:Int)=0:=by omega);simpa using this
      all_goals have EN:=hid el
      all_goals clear el
      all_goals go_wp2_with fail
      all_goals go_meet
      all_goals exact⟨by rw[HE.out];simp[swE,<- HQQ.out,EN.out],HB2⟩
    have d1:(k==1)=false:=by simpa using e1
    by_cases e2:k=2
    case pos=>
     as_aux_lemma=>
      subst e2;have HE:Hid (b2=(b&&swE 2 s n len bl)):=HSP;go_upto_region 8 with fail
      cases b
      ·go_wp2_with fail
       go_meet;exact⟨by rw[HE.out];rfl,hid (Bel.refl _)⟩
      rcases HSE.out with ⟨es,eS⟩ | ⟨es,eS⟩
      case inr=>
       have EV:Hid (swE 2 s n len bl=false):=hid (by simp[swE,es]);clear es;go_wp2_with fail;go_meet;exact⟨by rw[HE.out,EV.out];rfl,hid (Bel.refl _)⟩
      subst es;go_wp2_with fail;refine (HF4 _).mono ?_;rintro e w2 ⟨rfl,hb2⟩;have HB2:=hid hb2;clear hb2;obtain⟨q,hq⟩:=nW (mtB (3,[],n));rw[<- hq];have HQQ:=hid hq;clear hq;cases q
      ·go_wp2_with fail
       go_meet;exact⟨by rw[HE.out];simp[swE,<- HQQ.out],HB2⟩
      by_cases el:len=0;all_goals first | have ql:((len:Int)==0)=true:=by (have:(len:Int)=0:=by omega);simpa using this | have ql:((len:Int)==0)=false:=by (have:¬ (len:Int)=0:=by omega);simpa using this
      all_goals have EN:=hid el
      all_goals clear el
      all_goals go_wp2_with fail
      all_goals go_meet
      all_goals exact⟨by rw[HE.out];simp[swE,<- HQQ.out,EN.out],HB2⟩
    have d2:(k==2)=false:=by simpa using e2
    by_cases e3:k=3
    case pos=>
     as_aux_lemma=>
      subst e3;have HE:Hid (b2=(b&&swE 3 s n len bl)):=HSP;go_upto_region 10 with fail
      cases b
      ·go_wp2_with fail
       go_meet;exact⟨by rw[HE.out];rfl,hid (Bel.refl _)⟩
      go_wp2_with fail;refine (HF3 _).mono ?_;rintro e w2 ⟨rfl,hb2⟩;have HB2:=hid hb2;clear hb2;obtain⟨q,hq⟩:=nW (mtB (4,s,0));rw[<- hq];have HQQ:=hid hq;clear hq;cases q
      ·go_wp2_with fail
       go_meet;exact⟨by rw[HE.out];simp[swE,<- HQQ.out],HB2⟩
      by_cases el:len=0;all_goals first | have ql:((len:Int)==0)=true:=by (have:(len:Int)=0:=by omega);simpa using this | have ql:((len:Int)==0)=false:=by (have:¬ (len:Int)=0:=by omega);simpa using this
      all_goals have EN:=hid el
      all_goals clear el
      all_goals go_wp2_with fail
      all_goals go_meet
      all_goals exact⟨by rw[HE.out];simp[swE,<- HQQ.out,EN.out],HB2⟩
    have d3:(k==3)=false:=by simpa using e3
    by_cases e4:k=4
    case pos=>
     as_aux_lemma=>
      subst e4;have HE:Hid (b2=(b&&swE 4 s n len bl)):=HSP;go_upto_region 12 with fail
      cases b
      ·go_wp2_with fail
       go_meet;exact⟨by rw[HE.out];rfl,hid (Bel.refl _)⟩
      go_wp2_with fail;refine (HF1 _).mono ?_;rintro e w2 ⟨rfl,hb2⟩;have HB2:=hid hb2;clear hb2;obtain⟨q,hq⟩:=nW (mtB (1,s,0));rw[<- hq];have HQQ:=hid hq;clear hq;cases q
      ·go_wp2_with fail
       go_meet;exact⟨by rw[HE.out];simp[swE,<- HQQ.out],HB2⟩
      by_cases el:len=1;all_goals first | have ql:((len:Int)==1)=true:=by (have:(len:Int)=1:=by omega);simpa using this | have ql:((len:Int)==1)=false:=by (have:¬ (len:Int)=1:=by omega);simpa using this
      all_goals have EN:=hid el
      all_goals clear el
      all_goals go_wp2_with fail
      all_goals go_meet
      all_goals exact⟨by rw[HE.out];simp[swE,<- HQQ.out,EN.out],HB2⟩
    have d4:(k==4)=false:=by simpa using e4
    by_cases e5:k=5
    case pos=>
     as_aux_lemma=>
      subst e5;have HE:Hid (b2=(b&&swE 5 s n len bl)):=HSP;go_upto_region 14 with fail
      cases b
      ·go_wp2_with fail
       go_meet;exact⟨by rw[HE.out];rfl,hid (Bel.refl _)⟩
      rcases HSE.out with ⟨es,eS⟩ | ⟨es,eS⟩
      case inr=>
       have EV:Hid (swE 5 s n len bl=false):=hid (by simp[swE,es]);clear es;go_wp2_with fail;go_meet;exact⟨by rw[HE.out,EV.out];rfl,hid (Bel.refl _)⟩
      subst es;by_cases el:len=2;all_goals first | have ql:((len:Int)==2)=true:=by (have:(len:Int)=2:=by omega);simpa using this | have ql:((len:Int)==2)=false:=by (have:¬ (len:Int)=2:=by omega);simpa using this
      all_goals have EN:=hid el
      all_goals clear el
      all_goals go_wp2_with fail
      all_goals go_meet
      all_goals exact⟨by rw[HE.out];simp[swE,EN.out],hid (Bel.refl _)⟩
    have d5:(k==5)=false:=by simpa using e5
    by_cases e6:k=6
    case pos=>
     as_aux_lemma=>
      subst e6;have HE:Hid (b2=(b&&swE 6 s n len bl)):=HSP;go_upto_region 17 with fail
      cases b
      ·go_wp2_with fail
       go_meet;exact⟨by rw[HE.out];rfl,hid (Bel.refl _)⟩
      go_wp2_with fail;refine (HF1 _).mono ?_;rintro e w2 ⟨rfl,hb2⟩;have HB2:=hid hb2;clear hb2;obtain⟨q,hq⟩:=nW (mtB (1,s,0));rw[<- hq];have HQQ:=hid hq;clear hq;cases q
      ·go_wp2_with fail
       go_meet;exact⟨by rw[HE.out];simp[swE,<- HQQ.out],HB2⟩
      by_cases el:len=2;all_goals first | have ql:((len:Int)==2)=true:=by (have:(len:Int)=2:=by omega);simpa using this | have ql:((len:Int)==2)=false:=by (have:¬ (len:Int)=2:=by omega);simpa using this
      all_goals have EN:=hid el
      all_goals clear el
      all_goals go_wp2_with fail
      all_goals go_meet
      all_goals exact⟨by rw[HE.out];simp[swE,<- HQQ.out,EN.out],HB2⟩
    have d6:(k==6)=false:=by simpa using e6
    by_cases e7:k=7
    case pos=>
     as_aux_lemma=>
      subst e7;have HE:Hid (b2=(b&&swE 7 s n len bl)):=HSP;go_upto_region 17 with fail
      cases b
      ·go_wp2_with fail
       go_meet;exact⟨by rw[HE.out];rfl,hid (Bel.refl _)⟩
      go_wp2_with fail;refine (HF1 _).mono ?_;rintro e w2 ⟨rfl,hb2⟩;have HB2:=hid hb2;clear hb2;obtain⟨q,hq⟩:=nW (mtB (1,s,0));rw[<- hq];have HQQ:=hid hq;clear hq;cases q
      ·go_wp2_with fail
       go_meet;exact⟨by rw[HE.out];simp[swE,<- HQQ.out],HB2⟩
      by_cases el:len=2;all_goals first | have ql:((len:Int)==2)=true:=by (have:(len:Int)=2:=by omega);simpa using this | have ql:((len:Int)==2)=false:=by (have:¬ (len:Int)=2:=by omega);simpa using this
      all_goals have EN:=hid el
      all_goals clear el
      all_goals go_wp2_with fail
      all_goals go_meet
      all_goals exact⟨by rw[HE.out];simp[swE,<- HQQ.out,EN.out],HB2⟩
    have d7:(k==7)=false:=by simpa using e7
    by_cases e8:k=8
    case pos=>
     as_aux_lemma=>
      subst e8;have HE:Hid (b2=(b&&swE 8 s n len bl)):=HSP;go_upto_region 19 with fail
      cases b
      ·go_wp2_with fail
       go_meet;exact⟨by rw[HE.out];rfl,hid (Bel.refl _)⟩
      rcases HSE.out with ⟨es,eS⟩ | ⟨es,eS⟩
      case inr=>
       have EV:Hid (swE 8 s n len bl=false):=hid (by simp[swE,es]);clear es;go_wp2_with fail;go_meet;exact⟨by rw[HE.out,EV.out];rfl,hid (Bel.refl _)⟩
      subst es;by_cases el:len=1 <;> by_cases ea:0<bl
      all_goals first | have ql:((len:Int)==1)=true:=by (have:(len:Int)=1:=by omega);simpa using this | have ql:((len:Int)==1)=false:=by (have:¬ (len:Int)=1:=by omega);simpa using this
      all_goals first | have qa:decide ((0:Int)<(bl:Int))=true:=dT (by omega) | have qa:decide ((0:Int)<(bl:Int))=false:=dF (by omega)
      all_goals have EN:=hid (And.intro el ea)
      all_goals clear el ea
      all_goals go_wp2_with fail
      all_goals go_meet
      all_goals exact⟨by rw[HE.out];simp[swE,EN.out],hid (Bel.refl _)⟩
    have d8:(k==8)=false:=by simpa using e8
    by_cases e9:k=9
    case pos=>
     as_aux_lemma=>
      subst e9;have HE:Hid (b2=(b&&swE 9 s n len bl)):=HSP;go_upto_region 21 with fail
      cases b
      ·go_wp2_with fail
       go_meet;exact⟨by rw[HE.out];rfl,hid (Bel.refl _)⟩
      go_wp2_with fail;refine (HF2 _).mono ?_;rintro e w2 ⟨rfl,hb2⟩;have HB2:=hid hb2;clear hb2;obtain⟨q,hq⟩:=nW (mtB (2,s,0));rw[<- hq];have HQQ:=hid hq;clear hq;cases q
      ·go_wp2_with fail
       go_meet;exact⟨by rw[HE.out];simp[swE,<- HQQ.out],HB2⟩
      go_wp2_with fail;go_meet;exact⟨by rw[HE.out];simp[swE,<- HQQ.out],HB2⟩
    have d9:(k==9)=false:=by simpa using e9
    by_cases e10:k=10
    case pos=>
     as_aux_lemma=>
      subst e10;have HE:Hid (b2=(b&&swE 10 s n len bl)):=HSP;go_upto_region 23 with fail
      cases b
      ·go_wp2_with fail
       go_meet;exact⟨by rw[HE.out];rfl,hid (Bel.refl _)⟩
      go_wp2_with fail;refine (HF5 _).mono ?_;rintro e w2 ⟨rfl,hb2⟩;have HB2:=hid hb2;obtain⟨y0,y1,y2,y6⟩:=Jk (hb2.blk HQ);clear hb2 x0 x1 x2 x6;obtain⟨q,hq⟩:=nW (mtB (6,s,0));rw[<- hq];have HQQ:=hid hq;clear hq;cases q;rotate_left
      ·go_wp2_with fail
       go_meet;exact⟨by rw[HE.out];simp[swE,<- HQQ.out],HB2⟩
      go_wp2_with fail;refine (HF6 _).mono ?_;rintro e w3 ⟨rfl,hb3⟩;have HB3:=hid (HB2.on hb3);clear hb3;obtain⟨q,hq⟩:=nW (btwB s);rw[<- hq];have HQ2:=hid hq;clear hq;cases q
      ·go_wp2_with fail
       go_meet;exact⟨by rw[HE.out];simp[swE,<- HQQ.out,<- HQ2.out],HB3⟩
      by_cases el:len=2;all_goals first | have ql:((len:Int)==2)=true:=by (have:(len:Int)=2:=by omega);simpa using this | have ql:((len:Int)==2)=false:=by (have:¬ (len:Int)=2:=by omega);simpa using this
      all_goals have EN:=hid el
      all_goals clear el
      all_goals go_wp2_with fail
      all_goals go_meet
      all_goals exact⟨by rw[HE.out];simp[swE,<- HQQ.out,<- HQ2.out,EN.out],HB3⟩
    have d10:(k==10)=false:=by simpa using e10
    have EV:Hid (b2=false):=hid (by rw[HSP.out];simp[swE,e1,e2,e3,e4,e5,e6,e7,e8,e9,e10]);clear e1 e2 e3 e4 e5 e6 e7 e8 e9 e10;go_wp2_with fail;go_meet;exact⟨by rw[EV.out],hid (Bel.refl _)⟩
   case rest=>
    obtain⟨rfl,HB2⟩:=hcut;have hR:=HR.out;have HR2:Hid (R=(b2&&kids.mayE hEf hPf&&arms.mayE hEf hPf)):=hid hR;clear hR HR HSP HF1 HF2 HF3 HF4 HF5 HF6 HSE x0 x1 x2 x6 x7 HBB;go_wp2_with fail;go_loopw [4,5] (fun v i wr=>∃ (j:Nat) (c:Bool),j<=len/\i=.int .i64 (j:Int)/\v=.bool c/\Hid (R=(c&&(kids.dropN j).mayE hEf hPf&&arms.mayE hEf hPf))/\Hid (Bel w1 wr)) (fun _ i _=>len-(intOf i).toNat)
    case atStart=>exact⟨0,b2,zL _,rfl,rfl,hid (by rw[Tr.dropN_zero];exact HR2),HB2⟩
    case round=>
     obtain⟨j,c,hj,rfl,rfl,HRJ,HB⟩:=hrel;have hbx:=HB.blk HQ;obtain⟨x0,x1,x2,x6,x7⟩:=Jk hbx;clear hbx;by_cases hlt:j<len
     ·as_aux_lemma=>
      cases c
      ·have hR0:R=false:=by rw[HRJ.out];rfl
       have HLT:=hid hlt;go_wp2_with fail;go_roundw
       case rel=>exact⟨j+1,false,HLT,by go_num,rfl,hid (by rw[hR0];rfl),HB⟩
       case measure=>exact mS HLT
      ·obtain⟨ub,uo,k',s',n',p',A',c',B',d',kids',ar',rfl,hub,en,hk',ha',a0,a1,a2,a3,a4,a5,a6,a7⟩:=jI (H.bel (HB1.on HB)) hlt
       have hsn:=Tr.nth_size kids j;have hwn:=Tr.nth_wt kids j;rw[en]at hsn hwn;simp only[Tr.size,Tr.wt]at hsn hwn;have HC:Hid (Calls Tryz.prog 28 #[.agg #[.int .u8 k',.string ⟨s'.toArray⟩,n',p'.a,p'.l,p'.c,.slice A' kids'.len c',.slice B' ar'.len d']] wr (qu (hEf k' s' n' kids'.len ar'.len&&kids'.mayE hEf hPf&&ar'.mayE hEf hPf) wr)):=hid (by
        have hz:=HZ.out;have hn:=HN.out;exact IH.out (kids'.size+ar'.size) (by omega) k' s' n' p' A' kids'.len c' kids' B' ar'.len d' ar' wr rfl hk' ha' (by omega) (by omega))
       have HRN:Hid (R=((hEf k' s' n' kids'.len ar'.len&&kids'.mayE hEf hPf&&ar'.mayE hEf hPf)&&(kids.dropN (j+1)).mayE hEf hPf&&arms.mayE hEf hPf)):=hid (by rw[HRJ.out,Tr.dropN_nod kids j en];rfl);obtain⟨q,hq⟩:=nW (hEf k' s' n' kids'.len ar'.len&&kids'.mayE hEf hPf&&ar'.mayE hEf hPf);rw[<- hq]at HC HRN;obtain⟨l1,hl1⟩:=nW kids'.len;obtain⟨l2,hl2⟩:=nW ar'.len;rw[<- hl1,<- hl2]at HC;rw[<- hl1]at a6;rw[<- hl2]at a7;have i1:(0:Int)<=(j:Int):=by omega
       have i2:(j:Int)<(len:Int):=by omega
       have HLT:=hid hlt;clear hub en hk' ha' hsn hwn hq hl1 hl2;go_wp2_with fail;refine HC.out.mono ?_;rintro e w3 ⟨rfl,hb3⟩;have HB3:=hid (HB.on hb3);clear hb3 a0 a1 a2 a3 a4 a5 a6 a7 x0 x1 x2 x6 x7;go_wp2_with fail;go_roundw
       case rel=>exact⟨j+1,q,HLT,by go_num,rfl,HRN,HB3⟩
       case measure=>exact mS HLT
     ·obtain rfl:j=len:=by omega
      have HRA:Hid (R=(c&&arms.mayE hEf hPf)):=hid (by rw[HRJ.out,Tr.dropN_all kids j (by rw[HL.out];exact lR _)];simp[Tr.mayE]);clear hj HRJ HR2 hlt;as_aux_lemma=>
      go_wp2_with fail;go_loopw [4,6] (fun v i wr=>∃ (j:Nat) (c:Bool),j<=bl/\i=.int .i64 (j:Int)/\v=.bool c/\Hid (R=(c&&(arms.dropN j).mayE hEf hPf))/\Hid (Bel w1 wr)) (fun _ i _=>bl-(intOf i).toNat)
      case atStart=>exact⟨0,c,zL _,rfl,rfl,hid (by rw[Tr.dropN_zero];exact HRA),HB⟩
      case round=>
       clear HB HRA x0 x1 x2 x6 x7;obtain⟨j,c,hj,rfl,rfl,HRJ,HB⟩:=hrel;have hbx:=HB.blk HQ;obtain⟨x0,x1,x2,x6,x7⟩:=Jk hbx;clear hbx;by_cases hlt:j<bl
       ·cases c
        ·have hR0:R=false:=by rw[HRJ.out];rfl
         have HLT:=hid hlt;go_wp2_with fail;go_roundw
         case rel=>exact⟨j+1,false,HLT,by go_num,rfl,hid (by rw[hR0];rfl),HB⟩
         case measure=>exact mS HLT
        ·obtain⟨ub,uo,k',s',n',p',A',c',kids',k2,s2,n2,p2,B',d',E',e',kx,ax,rfl,hub,en,hk',hx',ha',a0,a1,a2,a3,a4,a5,a6,a7,a8,a9,a10,a11,a12,a13,a14⟩:=qeo (HA.bel (HB1.on HB)) hlt
         have hsn:=Tr.nth_size arms j;have hwn:=Tr.nth_wt arms j;rw[en]at hsn hwn;simp only[Tr.size,Tr.wt]at hsn hwn;have HP:Hid (Calls Tryz.prog 76 #[.agg #[.int .u8 k',.string ⟨s'.toArray⟩,n',p'.a,p'.l,p'.c,.slice A' kids'.len c']] wr (qu (hPf k' s' n' kids'.len&&kids'.mayP hPf) wr)):=hid (by
          have hz:=HZ.out;have hn:=HN.out;exact qbz kids'.size k' s' n' p' A' kids'.len c' kids' wr rfl hk' (by omega) (by omega))
         have HC:Hid (∀ W,Bel wr W->Calls Tryz.prog 28 #[.agg #[.int .u8 k2,.string ⟨s2.toArray⟩,n2,p2.a,p2.l,p2.c,.slice B' kx.len d',.slice E' ax.len e']] W (qu (hEf k2 s2 n2 kx.len ax.len&&kx.mayE hEf hPf&&ax.mayE hEf hPf) W)):=hid fun W hW=>by
          have hz:=HZ.out;have hn:=HN.out;exact IH.out (kx.size+ax.size) (by omega) k2 s2 n2 p2 B' kx.len d' kx E' ax.len e' ax W rfl (hx'.bel hW) (ha'.bel hW) (by omega) (by omega)
         have HRN:Hid (R=((hPf k' s' n' kids'.len&&kids'.mayP hPf)&&(hEf k2 s2 n2 kx.len ax.len&&kx.mayE hEf hPf&&ax.mayE hEf hPf)&&(arms.dropN (j+1)).mayE hEf hPf)):=hid (by rw[HRJ.out,Tr.dropN_arm arms j en];simp[Tr.mayE,Bool.and_assoc]);obtain⟨q,hq⟩:=nW (hPf k' s' n' kids'.len&&kids'.mayP hPf);obtain⟨q2,hq2⟩:=nW (hEf k2 s2 n2 kx.len ax.len&&kx.mayE hEf hPf&&ax.mayE hEf hPf);rw[<- hq,<- hq2]at HRN;rw[<- hq]at HP;rw[<- hq2]at HC;obtain⟨l1,hl1⟩:=nW kids'.len;obtain⟨l2,hl2⟩:=nW kx.len;obtain⟨l3,hl3⟩:=nW ax.len;rw[<- hl1]at HP a6;rw[<- hl2,<- hl3]at HC;rw[<- hl2]at a13;rw[<- hl3]at a14;have i1:(0:Int)<=(j:Int):=by omega
         have i2:(j:Int)<(bl:Int):=by omega
         have HLT:=hid hlt;have hW0:wr.heap[w.heap.size]?=_:=HB.blk HQ;have HW0:=hid hW0;have HAR:=HA.bel (HB1.on HB);have HAR2:=hid HAR;clear hW0 HAR en hk' hx' ha' hsn hwn hq hq2 hl1 hl2 hl3;have HUB:=hid hub;clear hub;go_wp2_with fail;refine HP.out.mono ?_;rintro e w3 ⟨rfl,hb3⟩;have y7:w3.cell? ⟨w.heap.size,7,none⟩=_:=(Jk (hb3.blk HW0)).2.2.2.2;have b7:=(hb3.cells.1 _ _ HUB).trans a7;have b8:=(hb3.cells.1 _ _ HUB).trans a8;have b9:=(hb3.cells.1 _ _ HUB).trans a9;have b10:=(hb3.cells.1 _ _ HUB).trans a10;have b11:=(hb3.cells.1 _ _ HUB).trans a11;have b12:=(hb3.cells.1 _ _ HUB).trans a12;have b13:=(hb3.cells.1 _ _ HUB).trans a13;have b14:=(hb3.cells.1 _ _ HUB).trans a14;have HC2:=hid (HC w3 hb3);have HB3:=hid (HB.on hb3);clear hb3 a0 a1 a2 a3 a4 a5 a6 a7 a8 a9 a10 a11 a12 a13 a14 x0 x1 x2 x6 x7;cases q
         ·have hR0:R=false:=by rw[HRN.out];rfl
          go_wp2_with fail;go_roundw
          case rel=>exact⟨j+1,false,HLT,by go_num,rfl,hid (by rw[hR0];rfl),HB3⟩
          case measure=>exact mS HLT
         go_wp2_with fail;refine HC2.out.mono ?_;rintro e w4 ⟨rfl,hb4⟩;have HB4:=hid (HB3.on hb4);clear hb4 b7 b8 b9 b10 b11 b12 b13 b14 y7;go_wp2_with fail;go_roundw
         case rel=>exact⟨j+1,q2,HLT,by go_num,rfl,HRN,HB4⟩
         case measure=>exact mS HLT
       ·obtain rfl:j=bl:=by omega
        have hRc:R=c:=by rw[HRJ.out,Tr.dropN_all arms j (by rw[HM.out];exact lR _)];simp[Tr.mayE]
        go_wp2_with fail;go_ret;exact⟨by rw[hRc];rfl,HB1.on HB⟩
set_option maxHeartbeats 16000000
theorem qfe(n:Int):mltB n=decide (1<=n/\n<=3):=by
 rw[Bool.eq_iff_iff];simp only[mltB,Bool.or_eq_true,pE];omega
theorem qce(N:Nat):∀ (k:Int) (s:LU) (n:Int) (p:Pl) (A:OA) (len cap:Nat) (kids:Tr) (w:World),kids.size=N->KidsTr w (OldT w) .ty A len cap kids->kids.size<=1000000->1+s.length / 64+kids.wt<=60000 →
  Calls Tryz.prog 54 #[.agg #[.int .u8 k,.string ⟨s.toArray⟩,.int .u8 n,p.a,p.l,p.c,.slice A len cap]] w (qu (hTf k s n len&&kids.mayP hTf) w):=by
 induction N using Nat.strongRecOn with
 | _ N ih=>
  intro k s n p A len cap kids w hN h hsz hwt;have H:=hid h;have IH:=hid ih;have HL:Hid (len=kids.len):=hid h.1;have HN:=hid hN;have HZ:=hid (And.intro hsz hwt);have hlen:len<=1000000:=by have:=h.1;have:=kids.len_le;omega
  have HF1:=hid fun W=>jN s W;have HF2:=hid fun W=>Qb s W;have HSP:=hid (qaH k s n len);have HSE:Hid ((s=[]/\(⟨s.toArray⟩:BA)=⟨#[]⟩)∨(s≠[]/\(s==[])=false)):=hid (by
   by_cases e:s=[]
   ·exact .inl ⟨e,by rw[e]⟩
   ·exact .inr ⟨e,by simpa using e⟩)
  obtain⟨R,hR⟩:=nW (hTf k s n len&&kids.mayP hTf);rw[<- hR];have HR:=hid hR;obtain⟨b2,hb2⟩:=nW (hTf k s n len);rw[<- hb2]at HR HSP;clear h ih hN hsz hwt hR hb2;go_enter Tryz.func54,Tryz.ntmps54;go_upto_region 2 with fail
  have q1:=blk1 w (.cells #[.int .u8 k,.string ⟨s.toArray⟩,.int .u8 n,p.a,p.l,p.c,.slice A len cap] 43);have hb1:Bel w (w.alloc (.cells #[.int .u8 k,.string ⟨s.toArray⟩,.int .u8 n,p.a,p.l,p.c,.slice A len cap] 43)):=(Bel.refl w).alloc _;obtain⟨w1,hw1⟩:=nW (w.alloc (.cells #[.int .u8 k,.string ⟨s.toArray⟩,.int .u8 n,p.a,p.l,p.c,.slice A len cap] 43));rw[<- hw1]at q1 hb1 ⊢;have HQ:=hid q1;have HB1:=hid hb1;clear q1 hb1 hw1;obtain⟨x0,x1,x2,x6⟩:=jQ HQ;rename ∀ (a:Act) (w:World),Code.wp _ (Code.block 0 _) _ a w->_=>hk0
  have HK0:=hid hk0;clear hk0;go_wp2_with fail;refine HK0 _ _ ?_;go_cut [3] (fun v wx=>v=.bool b2/\Hid (Bel w1 wx))
  case first=>
   by_cases e1:k=1
   case pos=>
    subst e1;have hE:b2=(mtB (1,s,0)&&decide (n=0)&&decide (len=0)):=HSP.out;obtain⟨q,hq⟩:=nW (mtB (1,s,0));rw[<- hq]at HF1 hE;clear hq;have HE:=hid hE;clear hE;go_wp2_with fail;refine (HF1 _).mono ?_;rintro e w2 ⟨rfl,hb2⟩;have HB2:=hid hb2;obtain⟨y0,y1,y2,y6⟩:=jQ (hb2.blk HQ);clear hb2 x0 x1 x2 x6;cases q
    ·go_wp2_with fail
     go_meet;exact⟨by rw[HE.out];rfl,HB2⟩
    by_cases en:n=0 <;> by_cases el:len=0
    all_goals first | have qn:(n==0)=true:=by simpa using en | have qn:(n==0)=false:=by simpa using en
    all_goals first | have ql:((len:Int)==0)=true:=by simpa using el | have ql:((len:Int)==0)=false:=by simpa using el
    all_goals have EN:=hid (And.intro en el)
    all_goals clear en el
    all_goals go_wp2_with fail
    all_goals go_meet
    all_goals exact⟨by rw[HE.out];simp[EN.out],HB2⟩
   have d1:(k==1)=false:=by simpa using e1
   by_cases e2:k=2
   case pos=>
    subst e2;have hE:b2=(mtB (2,s,0)&&decide (n=0)):=HSP.out;obtain⟨q,hq⟩:=nW (mtB (2,s,0));rw[<- hq]at HF2 hE;clear hq;have HE:=hid hE;clear hE;go_wp2_with fail;refine (HF2 _).mono ?_;rintro e w2 ⟨rfl,hb2⟩;have HB2:=hid hb2;obtain⟨y0,y1,y2,y6⟩:=jQ (hb2.blk HQ);clear hb2 x0 x1 x2 x6;cases q
    ·go_wp2_with fail
     go_meet;exact⟨by rw[HE.out];rfl,HB2⟩
    by_cases en:n=0;all_goals first | have qn:(n==0)=true:=by simpa using en | have qn:(n==0)=false:=by simpa using en
    all_goals have EN:=hid en
    all_goals clear en
    all_goals go_wp2_with fail
    all_goals go_meet
    all_goals exact⟨by rw[HE.out];simp[EN.out],HB2⟩
   have d2:(k==2)=false:=by simpa using e2
   by_cases e3:k=3
   case pos=>
    subst e3;have hE:b2=(decide (s=[])&&mltB n&&decide (len=2)):=HSP.out;have HE:=hid hE;clear hE;rcases HSE.out with ⟨es,eS⟩ | ⟨es,eS⟩
    ·subst es
     by_cases em:1<=n <;> by_cases em2:n<=3 <;> by_cases el:len=2
     all_goals first | have qm:decide (1<=n)=true:=dT em | have qm:decide (1<=n)=false:=dF em
     all_goals first | have qm2:decide (n<=3)=true:=dT em2 | have qm2:decide (n<=3)=false:=dF em2
     all_goals first | have ql:((len:Int)==2)=true:=by (have:(len:Int)=2:=by omega);simpa using this | have ql:((len:Int)==2)=false:=by (have:¬ (len:Int)=2:=by omega);simpa using this
     all_goals have EN:=hid (And.intro em (And.intro em2 el))
     all_goals clear em em2 el
     all_goals go_wp2_with fail
     all_goals go_meet
     all_goals obtain⟨em,em2,el⟩:=EN.out
     all_goals refine⟨congrArg Value.bool ?_,hid (Bel.refl _)⟩
     all_goals rw[HE.out]
     all_goals simp[qfe,em,em2,el]
    ·have eV:(decide (s=[])&&mltB n&&decide (len=2))=false:=by simp[es]
     go_wp2_with fail;go_meet;exact⟨by rw[HE.out,eV],hid (Bel.refl _)⟩
   have d3:(k==3)=false:=by simpa using e3
   have eV:b2=false:=by rw[HSP.out];simp[e1,e2,e3]
   go_wp2_with fail;go_meet;exact⟨by rw[eV],hid (Bel.refl _)⟩
  case rest=>
   obtain⟨rfl,HB2⟩:=hcut;have HR2:=HR;clear HR HSP HF1 HF2 HSE x0 x1 x2 x6;go_wp2_with fail;go_loopw [3,4] (fun v i wr=>∃ (j:Nat) (c:Bool),j<=len/\i=.int .i64 (j:Int)/\v=.bool c/\Hid (R=(c&&(kids.dropN j).mayP hTf))/\Hid (Bel w1 wr)) (fun _ i _=>len-(intOf i).toNat)
   case atStart=>exact⟨0,b2,zL _,rfl,rfl,hid (by rw[Tr.dropN_zero];exact HR2),HB2⟩
   case round=>
    obtain⟨j,c,hj,rfl,rfl,HRJ,HB⟩:=hrel;have hbx:=HB.blk HQ;obtain⟨x0,x1,x2,x6⟩:=jQ hbx;clear hbx;by_cases hlt:j<len
    ·cases c
     ·have hR0:R=false:=by rw[HRJ.out];rfl
      have HLT:=hid hlt;go_wp2_with fail;go_roundw
      case rel=>exact⟨j+1,false,HLT,by go_num,rfl,hid (by rw[hR0];rfl),HB⟩
      case measure=>exact mS HLT
     ·obtain⟨ub,uo,k',s',n',p',A',c',kids',rfl,hub,en,hk',a0,a1,a2,a3,a4,a5,a6⟩:=qal (.inr rfl) (H.bel (HB1.on HB)) hlt
      have hsn:=Tr.nth_size kids j;have hwn:=Tr.nth_wt kids j;rw[en]at hsn hwn;simp only[Tr.size,Tr.wt]at hsn hwn;have HC:Hid (Calls Tryz.prog 54 #[.agg #[.int .u8 k',.string ⟨s'.toArray⟩,.int .u8 n',p'.a,p'.l,p'.c,.slice A' kids'.len c']] wr (qu (hTf k' s' n' kids'.len&&kids'.mayP hTf) wr)):=hid (by
       have hz:=HZ.out;have hn:=HN.out;exact IH.out kids'.size (by omega) k' s' n' p' A' kids'.len c' kids' wr rfl hk' (by omega) (by omega))
      have HRN:Hid (R=((hTf k' s' n' kids'.len&&kids'.mayP hTf)&&(kids.dropN (j+1)).mayP hTf)):=hid (by rw[HRJ.out,Tr.dropN_nod kids j en];rfl);obtain⟨q,hq⟩:=nW (hTf k' s' n' kids'.len&&kids'.mayP hTf);rw[<- hq]at HC HRN;obtain⟨l1,hl1⟩:=nW kids'.len;rw[<- hl1]at HC a6;have i1:(0:Int)<=(j:Int):=by omega
      have i2:(j:Int)<(len:Int):=by omega
      have HLT:=hid hlt;clear hub en hk' hsn hwn hq hl1;go_wp2_with fail;refine HC.out.mono ?_;rintro e w3 ⟨rfl,hb3⟩;have HB3:=hid (HB.on hb3);clear hb3 a0 a1 a2 a3 a4 a5 a6 x0 x1 x2 x6;go_wp2_with fail;go_roundw
      case rel=>exact⟨j+1,q,HLT,by go_num,rfl,HRN,HB3⟩
      case measure=>exact mS HLT
    ·obtain rfl:j=len:=by omega
     have hRc:R=c:=by rw[HRJ.out,Tr.dropN_all kids j (by rw[HL.out];exact lR _)];simp[Tr.mayP]
     go_wp2_with fail;go_ret;exact⟨by rw[hRc];rfl,HB1.on HB⟩
set_option maxHeartbeats 16000000
theorem qd4(k:Int)(s:LU)(n:Int)(p:Pl)(A:OA)(c:Nat)(B:OA)(bc:Nat)(kids arms:Tr)(w:World)(hsz:kids.size+arms.size<=1000000) :
  Calls Tryz.prog 53 #[.agg #[.int .u8 k,.string ⟨s.toArray⟩,n,p.a,p.l,p.c,.slice A kids.len c,.slice B arms.len bc],.agg #[.int .u8 0,.string ⟨#[]⟩,(0:Int),(0:Int),(0:Int),(0:Int),.slice none 0 0,.slice none 0 0]] w (qu ((Tr.nod k s n p kids arms .nil).same JY) w):=by
 obtain⟨r,hr⟩:=nW ((Tr.nod k s n p kids arms .nil).same JY);rw[<- hr];have hn0:∀ f:Tr,f.same .nil=true↔f.len=0:=fun f=>by
  constructor
  ·intro h;exact Tr.same_len _ _ h
  ·intro h;rw[Tr.nil_of_len f h];rfl
 have HR:Hid (r=true↔(k=0/\s=[]/\n=0/\kids.len=0/\arms.len=0)):=hid (by
  rw[hr];unfold JY;simp only[Tr.same,bA,pE,and_true,and_assoc,hn0])
 have hl:=kids.len_le;have hl2:=arms.len_le;obtain⟨kl,hkl⟩:=nW kids.len;obtain⟨al,hal⟩:=nW arms.len;rw[<- hkl]at HR hl;rw[<- hal]at HR hl2;rw[<- hkl,<- hal];have hk6:kl<=1000000:=by omega
 have ha6:al<=1000000:=by omega
 have no:¬ (k=0/\s=[]/\n=0/\kl=0/\al=0)->r=false:=fun hno=>by
  cases r
  ·rfl
  ·exact (hno (HR.1 rfl)).elim
 have NO:=hid no;clear hr hn0 hl hl2 hsz hkl hal no;by_cases dk:k=0
 case neg=>
  obtain rfl:=NO.out (fun h=>dk h.1);have ek:(k==0)=false:=by simpa using dk
  go_enter Tryz.func53,Tryz.ntmps53;go_wp2_with fail;go_ret;exact⟨rfl,((Bel.refl w).alloc _).alloc _⟩
 subst dk;by_cases ds:s=[]
 case neg=>
  obtain rfl:=NO.out (fun h=>ds h.2.1);have qb:(s==[])=false:=by simpa using ds
  go_enter Tryz.func53,Tryz.ntmps53;go_wp2_with fail;go_ret;exact⟨rfl,((Bel.refl w).alloc _).alloc _⟩
 subst ds;by_cases dn:n=0
 case neg=>
  obtain rfl:=NO.out (fun h=>dn h.2.2.1);have en:(n==0)=false:=by simpa using dn
  go_enter Tryz.func53,Tryz.ntmps53;go_wp2_with fail;go_ret;exact⟨rfl,((Bel.refl w).alloc _).alloc _⟩
 subst dn;by_cases dl:kl=0
 case neg=>
  obtain rfl:=NO.out (fun h=>dl h.2.2.2.1);have el:((kl:Int)==0)=false:=by simp;omega
  go_enter Tryz.func53,Tryz.ntmps53;go_wp2_with fail;go_ret;exact⟨rfl,((Bel.refl w).alloc _).alloc _⟩
 subst dl;by_cases dm:al=0
 case neg=>
  obtain rfl:=NO.out (fun h=>dm h.2.2.2.2);have el:((al:Int)==0)=false:=by simp;omega
  go_enter Tryz.func53,Tryz.ntmps53;go_wp2_with fail;go_ret;exact⟨rfl,((Bel.refl w).alloc _).alloc _⟩
 subst dm;obtain rfl:r=true:=HR.2 ⟨rfl,rfl,rfl,rfl,rfl⟩;clear HR NO;have q1:=blk2 w (.cells #[.int .u8 0,.string ⟨#[]⟩,(0:Int),p.a,p.l,p.c,.slice A 0 c,.slice B 0 bc] 28) (.cells #[.int .u8 0,.string ⟨#[]⟩,(0:Int),(0:Int),(0:Int),(0:Int),.slice none 0 0,.slice none 0 0] 28);obtain⟨x0,x1,x2,x3,x4,x5,x6,x7⟩:=box8 q1.1;have HB:=hid (((Bel.refl w).alloc (.cells #[.int .u8 0,.string ⟨#[]⟩,(0:Int),p.a,p.l,p.c,.slice A 0 c,.slice B 0 bc] 28)).alloc (.cells #[.int .u8 0,.string ⟨#[]⟩,(0:Int),(0:Int),(0:Int),(0:Int),.slice none 0 0,.slice none 0 0] 28));obtain⟨w1,hw1⟩:=nW ((w.alloc (.cells #[.int .u8 0,.string ⟨#[]⟩,(0:Int),p.a,p.l,p.c,.slice A 0 c,.slice B 0 bc] 28)).alloc (.cells #[.int .u8 0,.string ⟨#[]⟩,(0:Int),(0:Int),(0:Int),(0:Int),.slice none 0 0,.slice none 0 0] 28));rw[<- hw1]at x0 x1 x2 x3 x4 x5 x6 x7 HB;have kb:w.heap.size<w1.heap.size:=by rw[hw1];simp;omega
 clear q1;go_enter Tryz.func53,Tryz.ntmps53;go_wp2_with fail;rw[<- hw1];clear hw1;go_loopw [5] (fun i wr=>i=.int .i64 0/\wr=w1) (fun _ _=>0)
 case atStart=>exact⟨rfl,rfl⟩
 case round=>
  obtain⟨rfl,rfl⟩:=hrel;go_wp2_with fail;go_loopw [6] (fun i wr2=>i=.int .i64 0/\wr2=wr) (fun _ _=>0)
  case atStart=>exact⟨rfl,rfl⟩
  case round=>
   obtain⟨rfl,rfl⟩:=hrel;go_wp2_with fail;go_ret;exact⟨rfl,HB⟩
set_option maxHeartbeats 16000000
theorem qaW(kd:Int)(nm:LU)(q:Pl)(PA:OA)(pc:Nat)(ps:List LU)(CA:OA)(cc:Nat)(cs:List Cd)(rc:Bool)(k:Int)(s:LU)(n:Int)(p:Pl)(A:OA)(c:Nat)(B:OA)(bc:Nat)(kids arms:Tr)(w:World)(hp:RowOf 1 SAt w (OldT w) PA ps.length pc ps)(hc:RowOf 5 CdAt w (OldT w) CA cs.length cc cs)(hk:KidsTr w (OldT w) .ex A kids.len c kids)(ha:KidsTr w (OldT w) .arms B arms.len bc arms)(hg:Dc.good ⟨kd,nm,q,ps,cs,rc,k,s,n,p,kids,arms⟩)(hwt:Dc.wt ⟨kd,nm,q,ps,cs,rc,k,s,n,p,kids,arms⟩<=20000) :
  Calls Tryz.prog 21 #[.agg #[.int .u8 kd,.string ⟨nm.toArray⟩,q.a,q.l,q.c,.slice PA ps.length pc,.slice CA cs.length cc,.bool rc,.int .u8 k,.string ⟨s.toArray⟩,n,p.a,p.l,p.c,.slice A kids.len c,.slice B arms.len bc]] w (qu (dcMR ⟨kd,nm,q,ps,cs,rc,k,s,n,p,kids,arms⟩) w):=by
 obtain⟨g1,g2,g3,g4⟩:=hg;simp only at g1 g2 g3 g4;have hw0:1+nm.length / 64+ps.length+(1+s.length / 64+kids.wt+arms.wt)+sumW (fun s=>s.length / 64) ps+sumW Cd.wt cs<=20000:=by
  have e:Dc.wt ⟨kd,nm,q,ps,cs,rc,k,s,n,p,kids,arms⟩=1+nm.length / 64+ps.length+(Tr.nod k s n p kids arms .nil).wt+sumW (fun s=>s.length / 64) ps+sumW Cd.wt cs:=rfl;have e2:(Tr.nod k s n p kids arms .nil).wt=1+s.length / 64+kids.wt+arms.wt:=by simp only[Tr.wt];omega
  omega
 have HWC:Hid (∀ x∈cs,x.fs.length<=1000000/\∀ f∈x.fs,f.kids.size<=1000000/\1+f.s.length / 64+f.kids.wt<=60000):=hid fun x hx=>by
  refine⟨(g4 x hx).1,fun f hf=>⟨by have:=(g4 x hx).2 f hf;unfold Fd.good at this;omega,?_⟩⟩;have h1:=qck Cd.wt hx;have h2:=qck Fd.wt hf;have h3:x.wt=1+x.nm.length / 64+sumW Fd.wt x.fs:=rfl;have h4:f.wt=1+f.s.length / 64+f.kids.wt:=by show (Tr.nod f.k f.s f.n f.p f.kids .nil .nil).wt=_;simp only[Tr.wt];omega
  omega
 have HX:Hid (∀ W,Bel w W->Calls Tryz.prog 28 #[.agg #[.int .u8 k,.string ⟨s.toArray⟩,n,p.a,p.l,p.c,.slice A kids.len c,.slice B arms.len bc]] W (qu (Tr.mayE hEf hPf (.nod k s n p kids arms .nil)) W)):=hid fun W hW=>by
  have h:=Zc (kids.size+arms.size) k s n p A kids.len c kids B arms.len bc arms W rfl (hk.bel hW) (ha.bel hW) (by omega) (by omega);have e:Tr.mayE hEf hPf (.nod k s n p kids arms .nil)=(hEf k s n kids.len arms.len&&kids.mayE hEf hPf&&arms.mayE hEf hPf):=by simp only[Tr.mayE,Bool.and_true]
  rw[e];exact h
 have HS:Hid (∀ W,Bel w W->Calls Tryz.prog 53 #[.agg #[.int .u8 k,.string ⟨s.toArray⟩,n,p.a,p.l,p.c,.slice A kids.len c,.slice B arms.len bc],.agg #[.int .u8 0,.string ⟨#[]⟩,(0:Int),(0:Int),(0:Int),(0:Int),.slice none 0 0,.slice none 0 0]] W (qu ((Tr.nod k s n p kids arms .nil).same JY) W)):=hid fun W hW=>
  qd4 k s n p A c B bc kids arms W (by omega)
 have HN1:=hid fun W=>jN nm W;have HN2:=hid fun W=>Qb nm W;have HP:=hid hp;have HC:=hid hc;obtain⟨R,hR⟩:=nW (dcMR ⟨kd,nm,q,ps,cs,rc,k,s,n,p,kids,arms⟩);rw[<- hR];unfold dcMR at hR;simp only at hR;have et:Dc.tr ⟨kd,nm,q,ps,cs,rc,k,s,n,p,kids,arms⟩=.nod k s n p kids arms .nil:=rfl;rw[et]at hR;obtain⟨rx,hrx⟩:=nW (Tr.mayE hEf hPf (.nod k s n p kids arms .nil));obtain⟨rs,hrs⟩:=nW ((Tr.nod k s n p kids arms .nil).same JY);obtain⟨rn1,hn1⟩:=nW (mtB (1,nm,0));obtain⟨rn2,hn2⟩:=nW (mtB (2,nm,0));rw[<- hrx]at HX hR;rw[<- hrs]at HS hR;rw[<- hn1]at HN1 hR;rw[<- hn2]at HN2 hR;obtain⟨kl,hkl⟩:=nW kids.len;obtain⟨al,hal⟩:=nW arms.len;obtain⟨pl,hpl⟩:=nW ps.length;obtain⟨cl,hcl⟩:=nW cs.length;obtain⟨S,hSS⟩:=nW (⟨s.toArray⟩:BA);obtain⟨NM,hNM⟩:=nW (⟨nm.toArray⟩:BA);have HPL:=hid hpl;have HCL:=hid hcl;rw[<- hpl]at HP hR g2;rw[<- hcl]at HC hR g1;rw[<- hkl,<- hal,<- hSS]at HX HS;rw[<- hNM]at HN1 HN2;rw[<- hkl,<- hal,<- hpl,<- hcl,<- hSS,<- hNM];have HR:=hid hR;clear hp hc hk ha hwt hw0 g3 g4 hR et hrx hrs hn1 hn2 hkl hal hpl hcl hSS hNM;have hq1:=blk1 w (.cells #[.int .u8 kd,NM,q.a,q.l,q.c,.slice PA pl pc,.slice CA cl cc,.bool rc,.int .u8 k,S,n,p.a,p.l,p.c,.slice A kl c,.slice B al bc] 52);have hb1:Bel w (w.alloc (.cells #[.int .u8 kd,NM,q.a,q.l,q.c,.slice PA pl pc,.slice CA cl cc,.bool rc,.int .u8 k,S,n,p.a,p.l,p.c,.slice A kl c,.slice B al bc] 52)):=(Bel.refl w).alloc _;by_cases h2:kd=2
 ·subst h2
  have HRR:Hid (R=(rn1&&decide (pl=0)&&decide (cl=0)&&rx)):=hid (by rw[HR.out];rfl);clear HR HS HN2 HP HC HPL HCL HWC;have HQ:=hid hq1;have HB1:=hid hb1;clear hq1 hb1;obtain⟨x0,x1,x5,x6,x7,x8,x9,x10,x11,x12,x13,x14,x15⟩:=zW HQ;go_enter Tryz.func21,Tryz.ntmps21;go_wp2_with fail;refine (HN1 _).mono ?_;rintro e w2 ⟨rfl,hb2⟩;have HB2:=hid (HB1.on hb2);have HQ2:=hid (hb2.blk HQ);clear hb2 x0 x1 x5 x6 x7 x8 x9 x10 x11 x12 x13 x14 x15;obtain⟨x0,x1,x5,x6,x7,x8,x9,x10,x11,x12,x13,x14,x15⟩:=zW HQ2;cases rn1
  ·go_wp2_with fail
   go_ret;exact⟨by rw[HRR.out];rfl,HB2⟩
  by_cases e1:pl=0
  case neg=>
   have d1:((pl:Int)==0)=false:=by simpa using e1
   have HRF:Hid (R=false):=hid (by rw[HRR.out];simp[e1]);clear e1;go_wp2_with fail;go_ret;exact⟨by rw[HRF.out];rfl,HB2⟩
  have d1:((pl:Int)==0)=true:=by simpa using e1
  have E1:=hid e1;clear e1;by_cases e2:cl=0
  case neg=>
   have d2:((cl:Int)==0)=false:=by simpa using e2
   have HRF:Hid (R=false):=hid (by rw[HRR.out];simp[e2]);clear e2;go_wp2_with fail;go_ret;exact⟨by rw[HRF.out];rfl,HB2⟩
  have d2:((cl:Int)==0)=true:=by simpa using e2
  have HRF:Hid (R=rx):=hid (by rw[HRR.out];simp[e2,E1.out]);clear e2;go_wp2_with fail;refine (HX _ HB2).mono ?_;rintro e w3 ⟨rfl,hb3⟩;have HB3:=hid (HB2.on hb3);clear hb3 x0 x1 x5 x6 x7 x8 x9 x10 x11 x12 x13 x14 x15;go_wp2_with fail;go_ret;exact⟨by rw[HRF.out];rfl,HB3⟩
 have k2:(kd==2)=false:=by simpa using h2
 obtain⟨r0,hr0⟩:=nW (decide (kd=1)&&rn2 && !rc&&rs&&decide (0<cl));have HR0:=hid hr0;have HRR:Hid (R=(r0&&(ps.all fun s=>mtB (1,s,0))&&cs.all cdMR)):=hid (by rw[HR.out,if_neg h2,hr0]);clear HR h2 hr0 HX HN1;obtain⟨w1,hw1⟩:=nW (w.alloc (.cells #[.int .u8 kd,NM,q.a,q.l,q.c,.slice PA pl pc,.slice CA cl cc,.bool rc,.int .u8 k,S,n,p.a,p.l,p.c,.slice A kl c,.slice B al bc] 52));rw[<- hw1]at hq1 hb1;have HW1:=hid hw1;have HQ:=hid hq1;have HB1:=hid hb1;have HS1:Hid (w.heap.size<w1.heap.size):=hid (aJ.1 hq1).1;clear hw1 hq1 hb1;go_enter Tryz.func21,Tryz.ntmps21;go_upto_region 1 with fail
 rw[<- HW1.out];clear HW1;obtain⟨x0,x1,x5,x6,x7,x8,x9,x10,x11,x12,x13,x14,x15⟩:=zW HQ;go_upto_region 3 with fail
 go_cut [3] (fun v wx=>v=.bool r0/\Hid (Bel w1 wx))
 case first=>
  by_cases h1:kd=1
  case neg=>
   have k1:(kd==1)=false:=by simpa using h1
   have hr:r0=false:=by rw[HR0.out];simp[h1]
   clear h1;go_wp2_with fail;go_meet;exact⟨by rw[hr],hid (Bel.refl _)⟩
  subst h1;go_wp2_with fail;refine (HN2 _).mono ?_;rintro e w2 ⟨rfl,hb2⟩;have HB2:=hid hb2;have HQ2:=hid (hb2.blk HQ);clear hb2 x0 x1 x5 x6 x7 x8 x9 x10 x11 x12 x13 x14 x15;obtain⟨x0,x1,x5,x6,x7,x8,x9,x10,x11,x12,x13,x14,x15⟩:=zW HQ2;cases rn2
  ·have hr:Hid (r0=false):=hid (by rw[HR0.out];simp)
   go_wp2_with fail;go_meet;exact⟨by rw[hr.out],HB2⟩
  cases rc
  case true=>
   have hr:Hid (r0=false):=hid (by rw[HR0.out];simp);go_wp2_with fail;go_meet;exact⟨by rw[hr.out],HB2⟩
  go_wp2_with fail;refine (HS _ (HB1.on HB2)).mono ?_;rintro e w3 ⟨rfl,hb3⟩;have HB3:=hid (HB2.on hb3);have HQ3:=hid (hb3.blk HQ2);clear hb3 x0 x1 x5 x6 x7 x8 x9 x10 x11 x12 x13 x14 x15;obtain⟨x0,x1,x5,x6,x7,x8,x9,x10,x11,x12,x13,x14,x15⟩:=zW HQ3;cases rs
  ·have hr:Hid (r0=false):=hid (by rw[HR0.out];simp)
   go_wp2_with fail;go_meet;exact⟨by rw[hr.out],HB3⟩
  by_cases hc0:0<cl
  ·have d1:decide ((0:Int)<(cl:Int))=true:=dT (by omega)
   have d2:decide (0<cl)=true:=dT hc0;have hr:Hid (r0=true):=hid (by rw[HR0.out];simp[hc0]);clear hc0;go_wp2_with fail;go_meet;exact⟨by rw[hr.out],HB3⟩
  ·have d1:decide ((0:Int)<(cl:Int))=false:=dF (by omega)
   have d2:decide (0<cl)=false:=dF hc0;have hr:Hid (r0=false):=hid (by rw[HR0.out];simp[hc0]);clear hc0;go_wp2_with fail;go_meet;exact⟨by rw[hr.out],HB3⟩
 case rest=>
  obtain⟨rfl,HB2⟩:=hcut;clear HR0 HS HN2 x0 x1 x5 x6 x7 x8 x9 x10 x11 x12 x13 x14 x15;go_wp2_with fail;go_loopw [3,4] (fun v i wr=>∃ (j:Nat) (z:Bool),j<=pl/\i=.int .i64 (j:Int)/\v=.bool z/\Hid (R=(z&&((ps.drop j).all fun s=>mtB (1,s,0))&&cs.all cdMR))/\Hid (Bel w1 wr)) (fun _ i _=>pl-(intOf i).toNat)
  case atStart=>exact⟨0,r0,zL _,rfl,rfl,hid HRR,HB2⟩
  case round=>
   obtain⟨j,z,hj,rfl,rfl,HRJ,HB⟩:=hrel;obtain⟨x0,x1,x5,x6,x7,x8,x9,x10,x11,x12,x13,x14,x15⟩:=zW (HB.blk HQ);have kb:w.heap.size<wr.heap.size:=lT HS1 HB.size;by_cases hlt:j<pl
   ·obtain⟨ub,uo,eA,hob,hfo⟩:=(HP.bel jx (HB1.on HB)).2.2 (by omega)
    subst eA;obtain⟨x,hx⟩:∃ x,ps[j]?=some x:=⟨_,eG (by rw[<- HPL.out];exact hlt)⟩
    have e1:=hfo j x hx;unfold SAt at e1;rw[Nat.mul_one]at e1;have HJD:Hid (R=(z&&(mtB (1,x,0)&&(ps.drop (j+1)).all fun s=>mtB (1,s,0))&&cs.all cdMR)):=hid (by rw[HRJ.out,ZW hx]);have HTX:=hid fun W=>jN x W;obtain⟨b,hb⟩:=nW (mtB (1,x,0));rw[<- hb]at HJD HTX;obtain⟨X,hX⟩:=nW (⟨x.toArray⟩:BA);rw[<- hX]at e1 HTX;have i1:(0:Int)<=(j:Int):=by omega
    have i2:(j:Int)<(pl:Int):=by omega
    have kb1:ub<wr.heap.size:=hob;have HLT:=hid hlt;clear hfo hx hob hb hX;cases z
    ·have hR0:Hid (R=false):=hid (by rw[HRJ.out];rfl)
     go_wp2_with fail;go_roundw
     case rel=>exact⟨j+1,false,HLT,by go_num,rfl,hid (by rw[hR0.out];rfl),HB⟩
     case measure=>exact mS HLT
    ·go_wp2_with fail
     refine (HTX _).mono ?_;rintro e w5 ⟨rfl,hb5⟩;have HB5:=hid (HB.on hb5);clear hb5 e1 x0 x1 x5 x6 x7 x8 x9 x10 x11 x12 x13 x14 x15 kb kb1;go_wp2_with fail;go_roundw
     case rel=>exact⟨j+1,b,HLT,by go_num,rfl,hid (by rw[HJD.out,Bool.true_and]),HB5⟩
     case measure=>exact mS HLT
   ·obtain rfl:j=pl:=by omega
    have HRC:Hid (R=(z&&cs.all cdMR)):=hid (by rw[HRJ.out,dNn (by rw[<- HPL.out];exact lR _)];simp);clear HRJ;go_wp2_with fail;clear x0 x1 x5 x6 x7 x8 x9 x10 x11 x12 x13 x14 x15 kb;go_loopg [3,5] (cl+1) (fun gk v i wr=>∃ (j:Nat) (z:Bool),Hid (j<=cl/\cl-j<gk)/\i=.int .i64 (j:Int)/\v=.bool z/\Hid (R=(z&&(cs.drop j).all cdMR))/\Hid (Bel w1 wr))
    case atStart=>exact⟨0,z,hid ⟨zL _,by omega⟩,rfl,rfl,hid HRC,HB⟩
    case round=>
     clear HB HRC hj;obtain⟨j2,z,HJ2,rfl,rfl,HRJ,HB⟩:=hrel;obtain⟨x0,x1,x5,x6,x7,x8,x9,x10,x11,x12,x13,x14,x15⟩:=zW (HB.blk HQ);have kb:w.heap.size<wr.heap.size:=lT HS1 HB.size;by_cases hlt:j2<cl
     case neg=>
      obtain rfl:j2=cl:=by have:=HJ2.1;omega
      have HRE:Hid (R=z):=hid (by rw[HRJ.out,dNn (by rw[<- HCL.out];exact lR _)];simp);go_wp2_with fail;go_ret;exact⟨by rw[HRE.out];rfl,HB1.on HB⟩
     obtain⟨ub,uo,eB,hob,hfo⟩:=HC.2.2 (by omega);subst eB;obtain⟨x,hx⟩:∃ x,cs[j2]?=some x:=⟨_,eG (by rw[<- HCL.out];exact hlt)⟩
     have hwx:=HWC.out x (mGg hx);obtain⟨y0,y1,y2,y3,A',ca',y4,hff⟩:=hfo j2 x hx;have HJD:Hid (R=(z&&(cdMR x&&(cs.drop (j2+1)).all cdMR))):=hid (by rw[HRJ.out,ZW hx]);obtain⟨cn,cp,fs⟩:=x;simp only at y0 y4 hff hwx;have HTX:=hid fun W=>Qb cn W;have ecd:cdMR ⟨cn,cp,fs⟩=(mtB (2,cn,0)&&fs.all fdMR):=rfl;rw[ecd]at HJD;obtain⟨b,hb⟩:=nW (mtB (2,cn,0));rw[<- hb]at HJD HTX;obtain⟨CN,hCN⟩:=nW (⟨cn.toArray⟩:BA);rw[<- hCN]at y0 HTX;obtain⟨fl,hfl⟩:=nW fs.length;have HFN:=hid hfl;have hf8:fl<=1000000:=by have:=hwx.1;omega
     have HWX:=hid hwx.2;rw[<- hfl]at y4 hff;have HF:Hid (RowOf 8 FdAt w (OldT w) A' fl ca' fs):=hid hff;have HY4:=hid y4;have HOB:=hid hob;have hcw0:=(Bel.cells (HB1.on HB)).1;replace y0:=(hcw0 ub _ hob).trans y0;have kb1:ub<wr.heap.size:=lT hob (HB1.on HB).size;have i1:(0:Int)<=(j2:Int):=by omega
     have i2:(j2:Int)<(cl:Int):=by omega
     have HLT:=hid hlt;clear hfo hob hx hfl hff y1 y2 y3 y4 hwx hb hCN hcw0 ecd hlt;go_upto_region 11 with fail
     go_cut [3] (fun v wx=>∃ z2:Bool,v=.bool z2/\Hid (R=(z2&&(fs.all fdMR&&(cs.drop (j2+1)).all cdMR)))/\Hid (Bel w1 wx))
     case first=>
      cases z
      ·have hR0:Hid (R=false):=hid (by rw[HRJ.out];rfl)
       go_wp2_with fail;go_meet;exact⟨false,rfl,hid (by rw[hR0.out];rfl),HB⟩
      ·go_wp2_with fail
       refine (HTX _).mono ?_;rintro e w5 ⟨rfl,hb5⟩;have HB5:=hid (HB.on hb5);clear hb5 y0 x0 x1 x5 x6 x7 x8 x9 x10 x11 x12 x13 x14 x15 kb kb1;go_wp2_with fail;go_meet;exact⟨b,rfl,hid (by rw[HJD.out,Bool.true_and,Bool.and_assoc]),HB5⟩
     case rest=>
      obtain⟨z2,rfl,HRF,HBC⟩:=hcut;clear y0 x0 x1 x5 x6 x7 x8 x9 x10 x11 x12 x13 x14 x15 kb kb1 HB HTX HRJ HJD;go_wp2_with fail;go_loopw [3,6] (fun v i wr=>∃ (h:Nat) (z:Bool),h<=fl/\i=.int .i64 (h:Int)/\v=.bool z/\Hid (R=(z&&((fs.drop h).all fdMR&&(cs.drop (j2+1)).all cdMR)))/\Hid (Bel w1 wr)) (fun _ i _=>fl-(intOf i).toNat)
      case atStart=>exact⟨0,z2,zL _,rfl,rfl,hid HRF,HBC⟩
      case round=>
       clear HBC HRF;obtain⟨h,z,hh,rfl,rfl,HRI,HBI⟩:=hrel;obtain⟨x0,x1,x5,x6,x7,x8,x9,x10,x11,x12,x13,x14,x15⟩:=zW (HBI.blk HQ);have kb:w.heap.size<wr.heap.size:=lT HS1 HBI.size;have hcw:=(Bel.cells (HB1.on HBI)).1;have y4:=(hcw ub _ HOB).trans HY4;have kb1:ub<wr.heap.size:=lT HOB (HB1.on HBI).size;by_cases hlt2:h<fl
       case neg=>
        obtain rfl:h=fl:=by omega
        have HRE:Hid (R=(z&&(cs.drop (j2+1)).all cdMR)):=hid (by rw[HRI.out,dNn (by rw[<- HFN.out];exact lR _)];simp);clear hcw;go_wp2_with fail;have hjj:=HJ2.out;have hjl:=HLT.out;go_roundg (gk-1)
        case rel=>exact⟨j2+1,z,hid ⟨by omega,by omega⟩,by go_num,rfl,HRE,HBI⟩
        case measure=>omega
       obtain⟨ub2,uo2,eB2,hob2,hfo2⟩:=HF.2.2 (by omega);subst eB2;obtain⟨y,hy⟩:∃ y,fs[h]?=some y:=⟨_,eG (by rw[<- HFN.out];exact hlt2)⟩
       have hwy:=HWX.out y (mGg hy);obtain⟨A4,c4,hkk,z0,z1,z2,z3,z4,z5,z6,z7⟩:=(hfo2 h y hy).cells;have HJF:Hid (R=(z&&((fdMR y&&(fs.drop (h+1)).all fdMR)&&(cs.drop (j2+1)).all cdMR))):=hid (by rw[HRI.out,ZW hy]);obtain⟨fm,fk,fs',fn,fp,fkids⟩:=y;simp only at hkk z0 z1 z2 z3 z4 z5 z6 z7 hwy;have efd:fdMR ⟨fm,fk,fs',fn,fp,fkids⟩=(decide (1<=fm/\fm<=3)&&(hTf fk fs' fn fkids.len&&fkids.mayP hTf)):=by
        show (mltB fm&&(Tr.nod fk fs' fn fp fkids .nil .nil).mayP hTf)=_;simp only[Tr.mayP,Bool.and_true,qfe]
       rw[efd]at HJF;have HT:Hid (∀ W,Bel wr W->Calls Tryz.prog 54 #[.agg #[.int .u8 fk,.string ⟨fs'.toArray⟩,.int .u8 fn,fp.a,fp.l,fp.c,.slice A4 fkids.len c4]] W (qu (hTf fk fs' fn fkids.len&&fkids.mayP hTf) W)):=hid fun W hW=>
        qce fkids.size fk fs' fn fp A4 fkids.len c4 fkids W rfl (hkk.bel ((HB1.on HBI).on hW)) hwy.1 hwy.2
       obtain⟨bt,hbt⟩:=nW (hTf fk fs' fn fkids.len&&fkids.mayP hTf);rw[<- hbt]at HJF HT;replace z0:=(hcw ub2 _ hob2).trans z0;replace z1:=(hcw ub2 _ hob2).trans z1;replace z2:=(hcw ub2 _ hob2).trans z2;replace z3:=(hcw ub2 _ hob2).trans z3;replace z4:=(hcw ub2 _ hob2).trans z4;replace z5:=(hcw ub2 _ hob2).trans z5;replace z6:=(hcw ub2 _ hob2).trans z6;replace z7:=(hcw ub2 _ hob2).trans z7;have hob2':ub2<wr.heap.size:=lT hob2 (HB1.on HBI).size;obtain⟨l3,hl3⟩:=nW fkids.len;rw[<- hl3]at z7 HT;obtain⟨FJ,hFS⟩:=nW (⟨fs'.toArray⟩:BA);rw[<- hFS]at z2 HT;have j1:(0:Int)<=(h:Int):=by omega
       have j2':(h:Int)<(fl:Int):=by omega
       have HLT2:=hid hlt2;have HBA:Hid (Bel wr (wr.alloc (.cells #[.int .u8 fm,.int .u8 fk,FJ,.int .u8 fn,fp.a,fp.l,fp.c,.slice A4 l3 c4] 46))):=hid ((Bel.refl wr).alloc _);obtain⟨f0,f1,f2,f3,f4,f5,f6,f7⟩:=box8 (blk1 wr (.cells #[.int .u8 fm,.int .u8 fk,FJ,.int .u8 fn,fp.a,fp.l,fp.c,.slice A4 l3 c4] 46));clear hcw hob2 hfo2 hy hkk hl3 hFS hwy hbt efd hlt2;cases z
       ·have hR0:Hid (R=false):=hid (by rw[HRI.out];rfl)
        go_wp2_with fail;go_roundw
        case rel=>exact⟨h+1,false,HLT2,by go_num,rfl,hid (by rw[hR0.out];rfl),hid (HBI.on HBA)⟩
        case measure=>exact mS HLT2
       by_cases m1:1<=fm
       case neg=>
        have qm:decide (1<=fm)=false:=dF m1;have hR0:Hid (R=false):=hid (by rw[HJF.out];simp[m1]);clear m1;go_wp2_with fail;go_roundw
        case rel=>exact⟨h+1,false,HLT2,by go_num,rfl,hid (by rw[hR0.out];rfl),hid (HBI.on HBA)⟩
        case measure=>exact mS HLT2
       have qm:decide (1<=fm)=true:=dT m1;by_cases m3:fm<=3
       case neg=>
        have qm3:decide (fm<=3)=false:=dF m3;have hR0:Hid (R=false):=hid (by rw[HJF.out];simp[m3]);clear m1 m3;go_wp2_with fail;go_roundw
        case rel=>exact⟨h+1,false,HLT2,by go_num,rfl,hid (by rw[hR0.out];rfl),hid (HBI.on HBA)⟩
        case measure=>exact mS HLT2
       have qm3:decide (fm<=3)=true:=dT m3;have HJG:Hid (R=(bt&&((fs.drop (h+1)).all fdMR&&(cs.drop (j2+1)).all cdMR))):=hid (by rw[HJF.out,dT ⟨m1,m3⟩,Bool.true_and,Bool.true_and,Bool.and_assoc]);clear m1 m3;go_wp2_with fail;refine (HT _ HBA).mono ?_;rintro e w4 ⟨rfl,hb4⟩;have HB4:=hid (HBI.on (HBA.on hb4));clear hb4 x0 x1 x5 x6 x7 x8 x9 x10 x11 x12 x13 x14 x15 y4 z0 z1 z2 z3 z4 z5 z6 z7 HT kb kb1 hob2' f0 f1 f2 f3 f4 f5 f6 f7;go_wp2_with fail;go_roundw
       case rel=>exact⟨h+1,bt,HLT2,by go_num,rfl,HJG,HB4⟩
       case measure=>exact mS HLT2
set_option maxHeartbeats 16000000
noncomputable def txO (k:Int) (s:LU) (n:Int) (p:Pl) (kids arms:Tr):LU × Int:=if exMay (.nod k s n p kids arms .nil) then wrO ((qe k s n kids arms).map Tn.b) else ([],2)
theorem Qg(k:Int)(s:LU)(n:Int)(p:Pl)(A:OA)(c:Nat)(B:OA)(bc:Nat)(kids arms:Tr)(w:World)(hk:KidsTr w (OldT w) .ex A kids.len c kids)(ha:KidsTr w (OldT w) .arms B arms.len bc arms)(hsz:kids.size+arms.size<=900000)(ht:Tbl w)(hi:(Tr.nod k s n p kids arms .nil).ints) :
  Calls Tryz.prog 9 #[.agg #[.int .u8 k,.string ⟨s.toArray⟩,n,p.a,p.l,p.c,.slice A kids.len c,.slice B arms.len bc]] w (StR (.tuple #[.string ⟨(txO k s n p kids arms).1.toArray⟩,.int .i64 (txO k s n p kids arms).2]) w):=by
 have HM:Hid (∀ (g:Nat) (t:TypeId) (W:World),Bel w W->W.heap[g]?=some (.cells #[.int .u8 k,.string ⟨s.toArray⟩,n,p.a,p.l,p.c,.slice A kids.len c,.slice B arms.len bc] t (0,0)) →
   Calls Tryz.prog 24 #[.int .i64 60,.slice (some ⟨g,0,none⟩) 1 1,.func (.func 25) #[] #[],.func (.func 26) #[] #[]] W (qu (exMay (.nod k s n p kids arms .nil)) W)):=hid fun g t W hW h1=>by
  have e1:=QF (sh:= .ex) (by intro e;cases e) hk (.inl ⟨rfl,ha⟩) hW h1;exact qah 60 _ 1 1 _ W e1 (by simp only[Tr.size];omega) (by decide) (ht.bel hW) hi
 have hme:=QV (k:=k) (s:=s) (n:=n) (p:=p) hk ha;obtain⟨em,hem⟩:=nW (exMay (.nod k s n p kids arms .nil));have HR:Hid (txO k s n p kids arms=if em then wrO ((qe k s n kids arms).map Tn.b) else ([],2)):=hid (by rw[hem];rfl);have HE:Hid (em=true->∀ (w0 W:World) (base wp:Nat),Bel w w0->w0.heap.size<=wp->Bel w0 W->Wri W base wp []->Calls Tryz.prog 27 #[.pointer (some ⟨wp,0,none⟩),.agg #[.int .u8 k,.string ⟨s.toArray⟩,n,p.a,p.l,p.c,.slice A kids.len c,.slice B arms.len bc]] W (WrQ w0 base wp [] (qe k s n kids arms) W)):=hid fun he w0 W base wp h0 hwp hW hw=>by
  have hmy:(Tr.nod k s n p kids arms .nil).mayE hEf hPf=true:=by
   rw[hem,hme,bA]at he;exact he.1
  exact qbS base wp w0 hwp 1000000 (lR _) k s n p A c B bc kids arms [] W (hk.bel h0) (ha.bel h0) (by simp only[Tr.size];omega) (JC _ hmy) hW hw (by decide)
 have HF:Hid (em=true->FitL (qe k s n kids arms)/\AllM (qe k s n kids arms)):=hid fun he=>by
  have hmy:(Tr.nod k s n p kids arms .nil).mayE hEf hPf=true:=by
   rw[hem,hme,bA]at he;exact he.1
  rw[<- qbj k s n p kids arms];exact⟨jf _ 0 [] hi FitL.nil,zp _ 0 [] hmy AllM.nil⟩
 have HT:=hid ht;obtain⟨R,hR⟩:=nW (txO k s n p kids arms);obtain⟨F,hF⟩:=nW (qe k s n kids arms);obtain⟨kl,hkl⟩:=nW kids.len;obtain⟨al,hal⟩:=nW arms.len;obtain⟨SS,hSS⟩:=nW (⟨s.toArray⟩:BA);rw[<- hR,<- hF]at HR;rw[<- hem,<- hkl,<- hal,<- hSS]at HM;rw[<- hF,<- hkl,<- hal,<- hSS]at HE;rw[<- hF]at HF;rw[<- hR,<- hkl,<- hal,<- hSS];clear hk ha hsz ht hi hme hem hR hF hkl hal hSS;have HB1:Hid (Bel w (w.alloc (.cells #[.int .u8 k,SS,n,p.a,p.l,p.c,.slice A kl c,.slice B al bc] 28))):=hid ((Bel.refl w).alloc _);have HB2:Hid (Bel w ((w.alloc (.cells #[.int .u8 k,SS,n,p.a,p.l,p.c,.slice A kl c,.slice B al bc] 28)).alloc (.cells #[.int .u8 k,SS,n,p.a,p.l,p.c,.slice A kl c,.slice B al bc] 28))):=hid (HB1.alloc _);have q2:=blk2 w (.cells #[.int .u8 k,SS,n,p.a,p.l,p.c,.slice A kl c,.slice B al bc] 28) (.cells #[.int .u8 k,SS,n,p.a,p.l,p.c,.slice A kl c,.slice B al bc] 28);have HQ2:=hid q2.1;have HM2:=hid (HM (w.heap.size+1) _ _ HB2 q2.2);clear q2 HM;go_enter Tryz.func9,Tryz.ntmps9;go_wp2_with fail;refine HM2.out.mono ?_;rintro e w3 ⟨rfl,hb3⟩;have HB3:=hid (HB2.on hb3);have hq3:=hb3.blk HQ2;have HQ3:=hid hq3;obtain⟨x0,x1,x2,x3,x4,x5,x6,x7⟩:=box8 hq3;have kb:w.heap.size<w3.heap.size:=(aJ.1 hq3).1;clear hb3 hq3 HM2 HB1 HB2 HQ2;cases em
 ·have hR:R=([],2):=HR.out
  subst hR;clear HE HF HR;go_wp2_with fail;go_ret2;exact⟨rfl,HB3⟩
 have HF':=hid (HF rfl);clear HF;have HW4:Hid (Wri (w3.alloc (.cells #[.slice none 0 0] 66)) (w3.heap.size+1) w3.heap.size []):=hid (Wri.new w3);have HB4:Hid (Bel w3 (w3.alloc (.cells #[.slice none 0 0] 66))):=hid ((Bel.refl w3).alloc _);have HE4:=hid (HE rfl w3 _ _ _ HB3 (lR _) HB4 HW4);have hq4:=HB4.blk HQ3;clear HE;go_wp2_with fail;refine HE4.out.mono ?_;rintro e w5 ⟨rfl,hb5,⟨r,hw5,hr5,hl5⟩,hk5⟩;obtain⟨A5,n5,c5,hc5,hcall⟩:=qbV (w0:=w3) (HT.bel (HB3.on hb5)) hw5 hr5 hl5 HF'.1 HF'.2;have hR:wrO (F.map Tn.b)=R:=by rw[HR.out];rfl
 rw[hR]at hcall;have HC5:=hid hcall;have HB5:=hid (HB3.on hb5);have hl5':w3.heap.size<w5.heap.size:=World.block_lt_of_cell? w5 _ hc5;clear hb5 hw5 hr5 hl5 hk5 hcall hR hq4 x0 x1 x2 x3 x4 x5 x6 x7 kb HE4 HF';go_wp2_with fail;refine HC5.out.mono ?_;rintro e w6 ⟨rfl,hb6⟩;have HB6:=hid (HB5.on hb6);clear hb6 hc5 hl5';go_wp2_with fail;go_ret2;exact⟨rfl,HB6⟩
set_option maxHeartbeats 16000000
noncomputable def rtxO (k:Int) (s:LU) (n:Int) (p:Pl) (kids arms:Tr):BA × Int:=
 if exMay (.nod k s n p kids arms .nil) then (if (strS (qe k s n kids arms)).size<=4000 then (strS (qe k s n kids arms),0) else (⟨#[]⟩,3)) else (⟨#[]⟩,2)
theorem J6(k:Int)(s:LU)(n:Int)(p:Pl)(A:OA)(len cap:Nat)(B:OA)(bl bc:Nat)(kids arms:Tr)(w:World)(hk:KidsTr w (OldT w) .ex A len cap kids)(ha:KidsTr w (OldT w) .arms B bl bc arms)(hsz:kids.size+arms.size<=900000)(hwt:1+s.length / 64+kids.wt+arms.wt<=20000)(hi:(Tr.nod k s n p kids arms .nil).ints) :
  Calls Tryz.prog 10 #[.agg #[.int .u8 k,.string ⟨s.toArray⟩,n,p.a,p.l,p.c,.slice A len cap,.slice B bl bc]] w (StR (.tuple #[.string (rtxO k s n p kids arms).1,.int .i64 (rtxO k s n p kids arms).2]) w):=by
 have hl1:=hk.1;have hl2:=ha.1;have hEM:exMay (.nod k s n p kids arms .nil)=((hEf k s n len bl&&kids.mayE hEf hPf&&arms.mayE hEf hPf)&&decide (1+max kids.depth arms.depth<=60)):=by
  rw[hl1,hl2,QV (hl1 ▸ hk) (hl2 ▸ ha)];simp only[Tr.mayE,Bool.and_true,Tr.depth];congr 1;apply dDd.2;omega
 have hOz:(sfx (qe k s n kids arms)).length<=4000000:=by
  have h1:=jg (.nod k s n p kids arms .nil) 0 [] hi;rw[zk]at h1;have h2:brkM 0 k kids.len (qe k s n kids arms)++[]++Tr.nil.exK (nxM 0) []=qe k s n kids arms:=by
   show qe k s n kids arms++[]++[]=_;simp
  rw[h2]at h1;simp only[Tr.wt,qk,lNn]at h1;omega
 have HM:=hid fun W (hW:Bel w W)=>Zc (kids.size+arms.size) k s n p A len cap kids B bl bc arms W rfl (hk.bel hW) (ha.bel hW) (by omega) (by omega);have HD:=hid fun W (hW:Bel w W)=>qam (kids.size+arms.size) k s n p A len cap kids B bl bc arms W rfl (hk.bel hW) (ha.bel hW) (by omega);have hdl:max kids.depth arms.depth<=1000000:=by
  have:=kids.depth_le;have:=arms.depth_le;omega
 obtain⟨b,hb⟩:=nW (hEf k s n len bl&&kids.mayE hEf hPf&&arms.mayE hEf hPf);rw[<- hb]at HM hEM;have HX:Hid (b=true->∀ W,Bel w W->Calls Tryz.prog 30 #[.agg #[.int .u8 k,.string ⟨s.toArray⟩,n,p.a,p.l,p.c,.slice A len cap,.slice B bl bc]] W (StR (.string (strS (qe k s n kids arms))) W)):=hid fun e W hW=>by
  rw[hb]at e;simp only[bA]at e;exact qap (kids.size+arms.size) k s n p A len cap kids B bl bc arms W rfl (hk.bel hW) (ha.bel hW) (by omega) (by omega) e.1.1 e.1.2 e.2 hOz
 obtain⟨R,hR⟩:=nW (rtxO k s n p kids arms);rw[<- hR];unfold rtxO at hR;rw[hEM]at hR;obtain⟨O,hO⟩:=nW (strS (qe k s n kids arms));rw[<- hO]at hR HX;obtain⟨z,hz⟩:=nW (((1+max kids.depth arms.depth:Nat):Int):Int);rw[<- hz]at HD;have hzz:decide (1+max kids.depth arms.depth<=60)=decide (z<=60):=dDd.2 (by omega);rw[hzz]at hR;obtain⟨S,hS⟩:=nW (⟨s.toArray⟩:BA);rw[<- hS]at HM HD HX ⊢;have HRR:=hid hR;clear hEM hOz hdl hb hR hO hz hzz hS hk ha hi hl1 hl2 hsz hwt;go_enter Tryz.func10,Tryz.ntmps10;have q1:=blk1 w (.cells #[.int .u8 k,S,n,p.a,p.l,p.c,.slice A len cap,.slice B bl bc] 28);have HQ:=hid q1;have HB1:=hid ((Bel.refl w).alloc (.cells #[.int .u8 k,S,n,p.a,p.l,p.c,.slice A len cap,.slice B bl bc] 28));obtain⟨x0,x1,x2,x3,x4,x5,x6,x7⟩:=box8 q1;clear q1;go_wp2_with fail;refine (HM _ HB1).mono ?_;rintro e w2 ⟨rfl,hb2⟩;have HB2:=hid (HB1.on hb2);have HQ2:=hid (hb2.blk HQ);clear hb2 x0 x1 x2 x3 x4 x5 x6 x7;obtain⟨x0,x1,x2,x3,x4,x5,x6,x7⟩:=box8 HQ2;cases b
 ·go_wp2_with fail
  go_ret2;exact⟨by rw[HRR.out];rfl,HB2⟩
 go_wp2_with fail;refine (HD _ HB2).mono ?_;rintro e w3 ⟨rfl,hb3⟩;have HB3:=hid (HB2.on hb3);have HQ3:=hid (hb3.blk HQ2);clear hb3 x0 x1 x2 x3 x4 x5 x6 x7;obtain⟨x0,x1,x2,x3,x4,x5,x6,x7⟩:=box8 HQ3;by_cases h60:z<=60
 case neg=>
  have q60:decide ((60:Int)<z)=true:=dT (by omega);have HR2:Hid (R=(⟨#[]⟩,2)):=hid (by rw[HRR.out,dF h60];rfl);clear h60;go_wp2_with fail;go_ret2;exact⟨by rw[HR2.out];rfl,HB3⟩
 have q60:decide ((60:Int)<z)=false:=dF (by omega);have HR2:Hid (R=if O.size<=4000 then (O,0) else (⟨#[]⟩,3)):=hid (by rw[HRR.out,dT h60];rfl);clear h60;go_wp2_with fail;refine (HX trivial _ HB3).mono ?_;rintro e w4 ⟨rfl,hb4⟩;have HB4:=hid (HB3.on hb4);clear hb4 x0 x1 x2 x3 x4 x5 x6 x7;by_cases h4:O.size<=4000
 ·have q4:decide ((4000:Int)<(O.size:Int))=false:=dF (by omega)
  have q42:decide (4000<O.size)=false:=dF (by omega);have HR3:Hid (R=(O,0)):=hid (by rw[HR2.out,if_pos h4]);clear h4;go_wp2_with fail;go_ret2;exact⟨by rw[HR3.out];rfl,HB4⟩
 ·have q4:decide ((4000:Int)<(O.size:Int))=true:=dT (by omega)
  have q42:decide (4000<O.size)=true:=dT (by omega);have HR3:Hid (R=(⟨#[]⟩,3)):=hid (by rw[HR2.out,if_neg h4]);clear h4;go_wp2_with fail;go_ret2;exact⟨by rw[HR3.out];rfl,HB4⟩
theorem qdj{F:List Tn}(hne:F≠[])(hm:AllM F):wrO (F.map Tn.b)=if (strS F).size<=4000 then ((strS F).data.toList,0) else ([],3):=by
 have h1:32::(strS F).data.toList=32::qt (F.map Tn.b):=(qw hne).trans (qh1 F hne);have h2:(strS F).data.toList=qt (F.map Tn.b):=by injection h1
 have h3:(strS F).size=(qt (F.map Tn.b)).length:=by rw[<- h2,zD]
 have hall:∀ t∈F.map Tn.b,qh t:=fun t ht=>by
  obtain⟨u,hu,rfl⟩:=List.mem_map.1 ht;exact hm u hu
 unfold wrO;rw[if_pos hall,h2,h3]
theorem qj1{w:World}{k:Int}{s:LU}{n:Int}{p:Pl}{A:OA}{len c:Nat}{B:OA}{bl bc:Nat}{kids arms:Tr}(hk:KidsTr w (OldT w) .ex A len c kids)(ha:KidsTr w (OldT w) .arms B bl bc arms):rtxO k s n p kids arms=(⟨(txO k s n p kids arms).1.toArray⟩,(txO k s n p kids arms).2):=by
 have hl1:=hk.1;have hl2:=ha.1;unfold rtxO txO;by_cases he:exMay (.nod k s n p kids arms .nil)=true
 ·rw[if_pos he,if_pos he]
  have hme:=QV (k:=k) (s:=s) (n:=n) (p:=p) (hl1 ▸ hk) (hl2 ▸ ha);rw[hme,bA]at he;have hmy:=he.1;have h2:=hmy;simp only[Tr.mayE,Bool.and_true,bA]at h2;have hne:=ZY (hk.isNods (by intro e;cases e)) hk.ok h2.1.1 h2.1.2;have hm:AllM (qe k s n kids arms):=by
   rw[<- qbj k s n p kids arms];exact zp _ 0 [] hmy AllM.nil
  rw[qdj hne hm];split <;> rfl
 ·rw[if_neg he,if_neg he]
end Go.Proofs.YtmloadclmjcbbaaGreatDoor.Mu
