import Derived.Test.YtmloadclmjcbbaaGreatDoorRal
open Go.Lib (hid)
set_option linter.unusedSimpArgs false
namespace Go.Proofs.YtmloadclmjcbbaaGreatDoor.Mu
set_option maxHeartbeats 8000000
open Go Go.RowKit Go.Shelf
attribute [local go_sem] Oper.semAt_some
set_option linter.unusedVariables false
set_option maxRecDepth 100000
abbrev zw:= "ref.go:277"
abbrev zo:= "ref.go:279"
abbrev qN:= "ref.go:281"
abbrev qO:= "ref.go:283"
abbrev qH:= "ref.go:290"
abbrev qR:= "ref.go:295"
def regX7:List Oper:=[
 ⟨some 21,.fieldAddr 28 (.tmp 1) 1,0,zw,#[],none⟩,
 ⟨some 22,.load 9 (.tmp 21),9,zw,#[⟨0,.data⟩],none⟩,
 ⟨some 23,.binOp .add 9 (.const (Value.string { data:=#[92,32] })) (.tmp 22) 9,9,zw,#[⟨1,.data⟩],none⟩,
 ⟨some 24,.binOp .add 9 (.tmp 23) (.const (Value.string { data:=#[32,45,62,32] })) 9,9,zw,#[⟨2,.data⟩],none⟩,
 ⟨some 25,.fieldAddr 28 (.tmp 1) 4,0,zw,#[],none⟩,
 ⟨some 26,.load 25 (.tmp 25),25,zw,#[⟨4,.data⟩],none⟩,
 ⟨some 27,.indexAddr 25 (.tmp 26) (.const (Value.int IntKind.i64 0)),0,zw,#[⟨5,.data⟩],none⟩,
 ⟨some 28,.load 28 (.tmp 27),28,zw,#[⟨6,.data⟩],none⟩,
 ⟨some 29,.call ⟨.value (.func 30),#[.tmp 28],#[28]⟩,9,zw,#[⟨7,.data⟩],none⟩,
 ⟨some 30,.binOp .add 9 (.tmp 24) (.tmp 29) 9,9,zw,#[⟨3,.data⟩,⟨8,.data⟩],none⟩,
 ⟨some 2,.assign (.tmp 30),9,zw,#[⟨9,.data⟩,⟨8,.chain⟩,⟨0,.phase⟩,⟨1,.phase⟩,⟨2,.phase⟩,⟨3,.phase⟩,⟨4,.phase⟩,⟨5,.phase⟩,⟨6,.phase⟩,⟨7,.phase⟩,⟨8,.phase⟩,⟨9,.phase⟩],none⟩]
theorem qfJ{id:Nat}(b1:Nat)(S:BA)(n:Int)(p:Pl)(cap ub uo:Nat)(B:OA)(bl bc:Nat)(k1:Int)(S1:BA)(n1:Int)(pa:Pl)(A1:OA)(l1 c1:Nat)(B1:OA)(x1 d1:Nat)(P1:BA)(a0:Act)(w:World)(hx:w.drew.heap[b1]?=some (.cells #[.int .u8 4,S,n,p.a,p.l,p.c,.slice (some ⟨ub,uo,none⟩) 1 cap,.slice B bl bc] 28 (0,0)))(h1:ub<w.drew.heap.size)(hz0:S.size<=4000000)(hz1:P1.size<=4000000)(fa0:w.drew.cell? ⟨ub,uo,none⟩=some (.int .u8 k1))(fa1:w.drew.cell? ⟨ub,uo+1,none⟩=some (.string S1))(fa2:w.drew.cell? ⟨ub,uo+2,none⟩=some (.int .i64 n1))(fa3:w.drew.cell? ⟨ub,uo+3,none⟩=some (.int .i64 pa.a))(fa4:w.drew.cell? ⟨ub,uo+4,none⟩=some (.int .i64 pa.l))(fa5:w.drew.cell? ⟨ub,uo+5,none⟩=some (.int .i64 pa.c))(fa6:w.drew.cell? ⟨ub,uo+6,none⟩=some (.slice A1 l1 c1))(fa7:w.drew.cell? ⟨ub,uo+7,none⟩=some (.slice B1 x1 d1))(HC1:∀ W,Bel w.drew W->Calls Tryz.prog 30 #[.agg #[.int .u8 k1,S1,n1,pa.a,pa.l,pa.c,.slice A1 l1 c1,.slice B1 x1 d1]] W (StR (.string P1) W))(Q:Exit->Act->World->Prop)
  (hend:∀ (V:Nat->Value) (w':World),Bel w.drew w'->((V 9)=.string ((⟨#[92,32]⟩:BA)++S++(⟨#[32,45,62,32]⟩:BA)++P1))->wpList Tryz.prog regX7.toArray Q (regX7.drop 10) (finP regX7 10 V a0) w') (hN:a0.tmps.size=167:=by kernel_rfl) (hp1:a0.eval (.tmp 1)=.pointer (some ⟨b1,0,none⟩):=by kernel_rfl) :
  (Code.region id regX7.toArray true).wp Tryz.prog Q a0 w:=by
 refine qW 10 167 a0 w (fun i v w=>match i with
  | 0=>v=.pointer (some ⟨b1,1,none⟩)
  | 1=>v=.string S
  | 2=>v=.string ((⟨#[92,32]⟩:BA)++S)
  | 3=>v=.string ((⟨#[92,32]⟩:BA)++S++(⟨#[32,45,62,32]⟩:BA))
  | 4=>v=.pointer (some ⟨b1,6,none⟩)
  | 5=>v=.slice (some ⟨ub,uo,none⟩) 1 cap
  | 6=>v=.pointer (some ⟨ub,uo,none⟩)
  | 7=>v=.agg #[.int .u8 k1,S1,n1,pa.a,pa.l,pa.c,.slice A1 l1 c1,.slice B1 x1 d1]
  | 8=>v=.string P1
  | 9=>v=.string ((⟨#[92,32]⟩:BA)++S++(⟨#[32,45,62,32]⟩:BA)++P1)
  | _=>True) (by kernel_rfl) (by kernel_rfl) hN (fun _ _ _ _ _ h _=>h) ?_ ?_
 ·intro i' o hi' ho a w1 V hbel hd hpar K hK
  have p1':=dP (hpar 1 (by kernel_rfl)) hp1;obtain⟨q0,q1,q2,q3,q4,q5,q6,q7⟩:=box8 (hbel.blk hx);have ga0:=gX hbel h1 fa0;have ga1:=gX hbel h1 fa1;have ga2:=gX hbel h1 fa2;have ga3:=gX hbel h1 fa3;have ga4:=gX hbel h1 fa4;have ga5:=gX hbel h1 fa5;have ga6:=gX hbel h1 fa6;have ga7:=gX hbel h1 fa7;have y2:¬ (9223372036854775807<2+S.size):=by omega
  have y3:¬ (9223372036854775807<2+S.size+4):=by omega
  have y9:¬ (9223372036854775807<2+S.size+4+P1.size):=by omega
  match i',hi',ho,hd,hK with
  | 0,_,ho,hd,hK=>cases ho;exact oW hK rfl rfl (by simp[execOp,go_sem,p1'])
  | 1,_,ho,hd,hK=>cases ho;exact oW hK rfl rfl (by simp[execOp,go_sem,dE (hd 0 21 rfl),q1])
  | 2,_,ho,hd,hK=>cases ho;exact oW hK rfl rfl (by simp[execOp,go_sem,dE (hd 1 22 rfl),y2])
  | 3,_,ho,hd,hK=>cases ho;exact oW hK rfl rfl (by simp[execOp,go_sem,dE (hd 2 23 rfl),y3])
  | 4,_,ho,hd,hK=>cases ho;exact oW hK rfl rfl (by simp[execOp,go_sem,p1'])
  | 5,_,ho,hd,hK=>cases ho;exact oW hK rfl rfl (by simp[execOp,go_sem,dE (hd 4 25 rfl),q6])
  | 6,_,ho,hd,hK=>cases ho;exact oW hK rfl rfl (by simp[execOp,go_sem,dE (hd 5 26 rfl)])
  | 7,_,ho,hd,hK=>cases ho;exact oW hK rfl rfl (by simp[execOp,go_sem,dE (hd 6 27 rfl),ga0,ga1,ga2,ga3,ga4,ga5,ga6,ga7])
  | 8,_,ho,hd,hK=>cases ho;exact oK hK rfl (HC1 w1 hbel) (fun _=>rfl) (by simp[go_sem,dE (hd 7 28 rfl)])
  | 9,_,ho,hd,hK=>cases ho;exact oW hK rfl rfl (by simp[execOp,go_sem,dE (hd 3 24 rfl),dE (hd 8 29 rfl),y9])
  | q+10,hi,_,_,_=>exact absurd hi (by omega)
 ·intro V w' hb hF
  exact hend V w' hb (hF 9 (by omega))
def regX9:List Oper:=[
 ⟨some 33,.fieldAddr 28 (.tmp 1) 4,0,zo,#[],none⟩,
 ⟨some 34,.load 25 (.tmp 33),25,zo,#[⟨0,.data⟩],none⟩,
 ⟨some 35,.indexAddr 25 (.tmp 34) (.const (Value.int IntKind.i64 0)),0,zo,#[⟨1,.data⟩],none⟩,
 ⟨some 36,.load 28 (.tmp 35),28,zo,#[⟨2,.data⟩],none⟩,
 ⟨some 37,.call ⟨.value (.func 80),#[.tmp 36,.const (Value.bool true)],#[28,4]⟩,9,zo,#[⟨3,.data⟩],none⟩,
 ⟨some 38,.binOp .add 9 (.tmp 37) (.const (Value.string { data:=#[32] })) 9,9,zo,#[⟨4,.data⟩],none⟩,
 ⟨some 39,.fieldAddr 28 (.tmp 1) 4,0,zo,#[],none⟩,
 ⟨some 40,.load 25 (.tmp 39),25,zo,#[⟨6,.data⟩],none⟩,
 ⟨some 41,.indexAddr 25 (.tmp 40) (.const (Value.int IntKind.i64 1)),0,zo,#[⟨7,.data⟩],none⟩,
 ⟨some 42,.load 28 (.tmp 41),28,zo,#[⟨8,.data⟩],none⟩,
 ⟨some 43,.call ⟨.value (.func 80),#[.tmp 42,.const (Value.bool false)],#[28,4]⟩,9,zo,#[⟨9,.data⟩,⟨4,.chain⟩],none⟩,
 ⟨some 44,.binOp .add 9 (.tmp 38) (.tmp 43) 9,9,zo,#[⟨5,.data⟩,⟨10,.data⟩],none⟩,
 ⟨some 2,.assign (.tmp 44),9,zo,#[⟨11,.data⟩,⟨10,.chain⟩,⟨0,.phase⟩,⟨1,.phase⟩,⟨2,.phase⟩,⟨3,.phase⟩,⟨4,.phase⟩,⟨5,.phase⟩,⟨6,.phase⟩,⟨7,.phase⟩,⟨8,.phase⟩,⟨9,.phase⟩,⟨10,.phase⟩,⟨11,.phase⟩],none⟩]
theorem qfK{id:Nat}(b1:Nat)(S:BA)(n:Int)(p:Pl)(cap ub uo:Nat)(B:OA)(bl bc:Nat)(k1:Int)(S1:BA)(n1:Int)(pa:Pl)(A1:OA)(l1 c1:Nat)(B1:OA)(x1 d1:Nat)(P1:BA)(k2:Int)(S2:BA)(n2:Int)(pb:Pl)(A2:OA)(l2 c2:Nat)(B2:OA)(x2 d2:Nat)(P2:BA)(a0:Act)(w:World)(hx:w.drew.heap[b1]?=some (.cells #[.int .u8 5,S,n,p.a,p.l,p.c,.slice (some ⟨ub,uo,none⟩) 2 cap,.slice B bl bc] 28 (0,0)))(h1:ub<w.drew.heap.size)(hz0:S.size<=4000000)(hz1:P1.size<=4000000)(hz2:P2.size<=4000000)(fa0:w.drew.cell? ⟨ub,uo,none⟩=some (.int .u8 k1))(fa1:w.drew.cell? ⟨ub,uo+1,none⟩=some (.string S1))(fa2:w.drew.cell? ⟨ub,uo+2,none⟩=some (.int .i64 n1))(fa3:w.drew.cell? ⟨ub,uo+3,none⟩=some (.int .i64 pa.a))(fa4:w.drew.cell? ⟨ub,uo+4,none⟩=some (.int .i64 pa.l))(fa5:w.drew.cell? ⟨ub,uo+5,none⟩=some (.int .i64 pa.c))(fa6:w.drew.cell? ⟨ub,uo+6,none⟩=some (.slice A1 l1 c1))(fa7:w.drew.cell? ⟨ub,uo+7,none⟩=some (.slice B1 x1 d1))(fa8:w.drew.cell? ⟨ub,uo+8,none⟩=some (.int .u8 k2))(fa9:w.drew.cell? ⟨ub,uo+9,none⟩=some (.string S2))(fa10:w.drew.cell? ⟨ub,uo+10,none⟩=some (.int .i64 n2))(fa11:w.drew.cell? ⟨ub,uo+11,none⟩=some (.int .i64 pb.a))(fa12:w.drew.cell? ⟨ub,uo+12,none⟩=some (.int .i64 pb.l))(fa13:w.drew.cell? ⟨ub,uo+13,none⟩=some (.int .i64 pb.c))(fa14:w.drew.cell? ⟨ub,uo+14,none⟩=some (.slice A2 l2 c2))(fa15:w.drew.cell? ⟨ub,uo+15,none⟩=some (.slice B2 x2 d2))(HC1:∀ W,Bel w.drew W->Calls Tryz.prog 80 #[.agg #[.int .u8 k1,S1,n1,pa.a,pa.l,pa.c,.slice A1 l1 c1,.slice B1 x1 d1],.bool true] W (StR (.string P1) W))(HC2:∀ W,Bel w.drew W->Calls Tryz.prog 80 #[.agg #[.int .u8 k2,S2,n2,pb.a,pb.l,pb.c,.slice A2 l2 c2,.slice B2 x2 d2],.bool false] W (StR (.string P2) W))(Q:Exit->Act->World->Prop)
  (hend:∀ (V:Nat->Value) (w':World),Bel w.drew w'->((V 11)=.string (P1++(⟨#[32]⟩:BA)++P2))->wpList Tryz.prog regX9.toArray Q (regX9.drop 12) (finP regX9 12 V a0) w') (hN:a0.tmps.size=167:=by kernel_rfl) (hp1:a0.eval (.tmp 1)=.pointer (some ⟨b1,0,none⟩):=by kernel_rfl) :
  (Code.region id regX9.toArray true).wp Tryz.prog Q a0 w:=by
 refine qW 12 167 a0 w (fun i v w=>match i with
  | 0=>v=.pointer (some ⟨b1,6,none⟩)
  | 1=>v=.slice (some ⟨ub,uo,none⟩) 2 cap
  | 2=>v=.pointer (some ⟨ub,uo,none⟩)
  | 3=>v=.agg #[.int .u8 k1,S1,n1,pa.a,pa.l,pa.c,.slice A1 l1 c1,.slice B1 x1 d1]
  | 4=>v=.string P1
  | 5=>v=.string (P1++(⟨#[32]⟩:BA))
  | 6=>v=.pointer (some ⟨b1,6,none⟩)
  | 7=>v=.slice (some ⟨ub,uo,none⟩) 2 cap
  | 8=>v=.pointer (some ⟨ub,uo+8,none⟩)
  | 9=>v=.agg #[.int .u8 k2,S2,n2,pb.a,pb.l,pb.c,.slice A2 l2 c2,.slice B2 x2 d2]
  | 10=>v=.string P2
  | 11=>v=.string (P1++(⟨#[32]⟩:BA)++P2)
  | _=>True) (by kernel_rfl) (by kernel_rfl) hN (fun _ _ _ _ _ h _=>h) ?_ ?_
 ·intro i' o hi' ho a w1 V hbel hd hpar K hK
  have p1':=dP (hpar 1 (by kernel_rfl)) hp1;obtain⟨q0,q1,q2,q3,q4,q5,q6,q7⟩:=box8 (hbel.blk hx);have ga0:=gX hbel h1 fa0;have ga1:=gX hbel h1 fa1;have ga2:=gX hbel h1 fa2;have ga3:=gX hbel h1 fa3;have ga4:=gX hbel h1 fa4;have ga5:=gX hbel h1 fa5;have ga6:=gX hbel h1 fa6;have ga7:=gX hbel h1 fa7;have ga8:=gX hbel h1 fa8;have ga9:=gX hbel h1 fa9;have ga10:=gX hbel h1 fa10;have ga11:=gX hbel h1 fa11;have ga12:=gX hbel h1 fa12;have ga13:=gX hbel h1 fa13;have ga14:=gX hbel h1 fa14;have ga15:=gX hbel h1 fa15;have y5:¬ (9223372036854775807<P1.size+1):=by omega
  have y11:¬ (9223372036854775807<P1.size+1+P2.size):=by omega
  match i',hi',ho,hd,hK with
  | 0,_,ho,hd,hK=>cases ho;exact oW hK rfl rfl (by simp[execOp,go_sem,p1'])
  | 1,_,ho,hd,hK=>cases ho;exact oW hK rfl rfl (by simp[execOp,go_sem,dE (hd 0 33 rfl),q6])
  | 2,_,ho,hd,hK=>cases ho;exact oW hK rfl rfl (by simp[execOp,go_sem,dE (hd 1 34 rfl)])
  | 3,_,ho,hd,hK=>cases ho;exact oW hK rfl rfl (by simp[execOp,go_sem,dE (hd 2 35 rfl),ga0,ga1,ga2,ga3,ga4,ga5,ga6,ga7])
  | 4,_,ho,hd,hK=>cases ho;exact oK hK rfl (HC1 w1 hbel) (fun _=>rfl) (by simp[go_sem,dE (hd 3 36 rfl)])
  | 5,_,ho,hd,hK=>cases ho;exact oW hK rfl rfl (by simp[execOp,go_sem,dE (hd 4 37 rfl),y5])
  | 6,_,ho,hd,hK=>cases ho;exact oW hK rfl rfl (by simp[execOp,go_sem,p1'])
  | 7,_,ho,hd,hK=>cases ho;exact oW hK rfl rfl (by simp[execOp,go_sem,dE (hd 6 39 rfl),q6])
  | 8,_,ho,hd,hK=>cases ho;exact oW hK rfl rfl (by simp[execOp,go_sem,dE (hd 7 40 rfl)])
  | 9,_,ho,hd,hK=>cases ho;exact oW hK rfl rfl (by simp[execOp,go_sem,dE (hd 8 41 rfl),ga8,ga9,ga10,ga11,ga12,ga13,ga14,ga15])
  | 10,_,ho,hd,hK=>cases ho;exact oK hK rfl (HC2 w1 hbel) (fun _=>rfl) (by simp[go_sem,dE (hd 9 42 rfl)])
  | 11,_,ho,hd,hK=>cases ho;exact oW hK rfl rfl (by simp[execOp,go_sem,dE (hd 5 38 rfl),dE (hd 10 43 rfl),y11])
  | q+12,hi,_,_,_=>exact absurd hi (by omega)
 ·intro V w' hb hF
  exact hend V w' hb (hF 11 (by omega))
def regX11:List Oper:=[
 ⟨some 47,.fieldAddr 28 (.tmp 1) 1,0,qN,#[],none⟩,
 ⟨some 48,.load 9 (.tmp 47),9,qN,#[⟨0,.data⟩],none⟩,
 ⟨some 49,.binOp .add 9 (.const (Value.string { data:=#[108,101,116,32] })) (.tmp 48) 9,9,qN,#[⟨1,.data⟩],none⟩,
 ⟨some 50,.binOp .add 9 (.tmp 49) (.const (Value.string { data:=#[32,61,32] })) 9,9,qN,#[⟨2,.data⟩],none⟩,
 ⟨some 51,.fieldAddr 28 (.tmp 1) 4,0,qN,#[],none⟩,
 ⟨some 52,.load 25 (.tmp 51),25,qN,#[⟨4,.data⟩],none⟩,
 ⟨some 53,.indexAddr 25 (.tmp 52) (.const (Value.int IntKind.i64 0)),0,qN,#[⟨5,.data⟩],none⟩,
 ⟨some 54,.load 28 (.tmp 53),28,qN,#[⟨6,.data⟩],none⟩,
 ⟨some 55,.call ⟨.value (.func 30),#[.tmp 54],#[28]⟩,9,qN,#[⟨7,.data⟩],none⟩,
 ⟨some 56,.binOp .add 9 (.tmp 50) (.tmp 55) 9,9,qN,#[⟨3,.data⟩,⟨8,.data⟩],none⟩,
 ⟨some 57,.binOp .add 9 (.tmp 56) (.const (Value.string { data:=#[32,105,110,32] })) 9,9,qN,#[⟨9,.data⟩],none⟩,
 ⟨some 58,.fieldAddr 28 (.tmp 1) 4,0,qN,#[],none⟩,
 ⟨some 59,.load 25 (.tmp 58),25,qN,#[⟨11,.data⟩],none⟩,
 ⟨some 60,.indexAddr 25 (.tmp 59) (.const (Value.int IntKind.i64 1)),0,qN,#[⟨12,.data⟩],none⟩,
 ⟨some 61,.load 28 (.tmp 60),28,qN,#[⟨13,.data⟩],none⟩,
 ⟨some 62,.call ⟨.value (.func 30),#[.tmp 61],#[28]⟩,9,qN,#[⟨14,.data⟩,⟨8,.chain⟩],none⟩,
 ⟨some 63,.binOp .add 9 (.tmp 57) (.tmp 62) 9,9,qN,#[⟨10,.data⟩,⟨15,.data⟩],none⟩,
 ⟨some 2,.assign (.tmp 63),9,qN,#[⟨16,.data⟩,⟨15,.chain⟩,⟨0,.phase⟩,⟨1,.phase⟩,⟨2,.phase⟩,⟨3,.phase⟩,⟨4,.phase⟩,⟨5,.phase⟩,⟨6,.phase⟩,⟨7,.phase⟩,⟨8,.phase⟩,⟨9,.phase⟩,⟨10,.phase⟩,⟨11,.phase⟩,⟨12,.phase⟩,⟨13,.phase⟩,⟨14,.phase⟩,⟨15,.phase⟩,⟨16,.phase⟩],none⟩]
theorem qdX{id:Nat}(b1:Nat)(S:BA)(n:Int)(p:Pl)(cap ub uo:Nat)(B:OA)(bl bc:Nat)(k1:Int)(S1:BA)(n1:Int)(pa:Pl)(A1:OA)(l1 c1:Nat)(B1:OA)(x1 d1:Nat)(P1:BA)(k2:Int)(S2:BA)(n2:Int)(pb:Pl)(A2:OA)(l2 c2:Nat)(B2:OA)(x2 d2:Nat)(P2:BA)(a0:Act)(w:World)(hx:w.drew.heap[b1]?=some (.cells #[.int .u8 6,S,n,p.a,p.l,p.c,.slice (some ⟨ub,uo,none⟩) 2 cap,.slice B bl bc] 28 (0,0)))(h1:ub<w.drew.heap.size)(hz0:S.size<=4000000)(hz1:P1.size<=4000000)(hz2:P2.size<=4000000)(fa0:w.drew.cell? ⟨ub,uo,none⟩=some (.int .u8 k1))(fa1:w.drew.cell? ⟨ub,uo+1,none⟩=some (.string S1))(fa2:w.drew.cell? ⟨ub,uo+2,none⟩=some (.int .i64 n1))(fa3:w.drew.cell? ⟨ub,uo+3,none⟩=some (.int .i64 pa.a))(fa4:w.drew.cell? ⟨ub,uo+4,none⟩=some (.int .i64 pa.l))(fa5:w.drew.cell? ⟨ub,uo+5,none⟩=some (.int .i64 pa.c))(fa6:w.drew.cell? ⟨ub,uo+6,none⟩=some (.slice A1 l1 c1))(fa7:w.drew.cell? ⟨ub,uo+7,none⟩=some (.slice B1 x1 d1))(fa8:w.drew.cell? ⟨ub,uo+8,none⟩=some (.int .u8 k2))(fa9:w.drew.cell? ⟨ub,uo+9,none⟩=some (.string S2))(fa10:w.drew.cell? ⟨ub,uo+10,none⟩=some (.int .i64 n2))(fa11:w.drew.cell? ⟨ub,uo+11,none⟩=some (.int .i64 pb.a))(fa12:w.drew.cell? ⟨ub,uo+12,none⟩=some (.int .i64 pb.l))(fa13:w.drew.cell? ⟨ub,uo+13,none⟩=some (.int .i64 pb.c))(fa14:w.drew.cell? ⟨ub,uo+14,none⟩=some (.slice A2 l2 c2))(fa15:w.drew.cell? ⟨ub,uo+15,none⟩=some (.slice B2 x2 d2))(HC1:∀ W,Bel w.drew W->Calls Tryz.prog 30 #[.agg #[.int .u8 k1,S1,n1,pa.a,pa.l,pa.c,.slice A1 l1 c1,.slice B1 x1 d1]] W (StR (.string P1) W))(HC2:∀ W,Bel w.drew W->Calls Tryz.prog 30 #[.agg #[.int .u8 k2,S2,n2,pb.a,pb.l,pb.c,.slice A2 l2 c2,.slice B2 x2 d2]] W (StR (.string P2) W))(Q:Exit->Act->World->Prop)
  (hend:∀ (V:Nat->Value) (w':World),Bel w.drew w'->((V 16)=.string ((⟨#[108,101,116,32]⟩:BA)++S++(⟨#[32,61,32]⟩:BA)++P1++(⟨#[32,105,110,32]⟩:BA)++P2))->wpList Tryz.prog regX11.toArray Q (regX11.drop 17) (finP regX11 17 V a0) w') (hN:a0.tmps.size=167:=by kernel_rfl) (hp1:a0.eval (.tmp 1)=.pointer (some ⟨b1,0,none⟩):=by kernel_rfl) :
  (Code.region id regX11.toArray true).wp Tryz.prog Q a0 w:=by
 refine qW 17 167 a0 w (fun i v w=>match i with
  | 0=>v=.pointer (some ⟨b1,1,none⟩)
  | 1=>v=.string S
  | 2=>v=.string ((⟨#[108,101,116,32]⟩:BA)++S)
  | 3=>v=.string ((⟨#[108,101,116,32]⟩:BA)++S++(⟨#[32,61,32]⟩:BA))
  | 4=>v=.pointer (some ⟨b1,6,none⟩)
  | 5=>v=.slice (some ⟨ub,uo,none⟩) 2 cap
  | 6=>v=.pointer (some ⟨ub,uo,none⟩)
  | 7=>v=.agg #[.int .u8 k1,S1,n1,pa.a,pa.l,pa.c,.slice A1 l1 c1,.slice B1 x1 d1]
  | 8=>v=.string P1
  | 9=>v=.string ((⟨#[108,101,116,32]⟩:BA)++S++(⟨#[32,61,32]⟩:BA)++P1)
  | 10=>v=.string ((⟨#[108,101,116,32]⟩:BA)++S++(⟨#[32,61,32]⟩:BA)++P1++(⟨#[32,105,110,32]⟩:BA))
  | 11=>v=.pointer (some ⟨b1,6,none⟩)
  | 12=>v=.slice (some ⟨ub,uo,none⟩) 2 cap
  | 13=>v=.pointer (some ⟨ub,uo+8,none⟩)
  | 14=>v=.agg #[.int .u8 k2,S2,n2,pb.a,pb.l,pb.c,.slice A2 l2 c2,.slice B2 x2 d2]
  | 15=>v=.string P2
  | 16=>v=.string ((⟨#[108,101,116,32]⟩:BA)++S++(⟨#[32,61,32]⟩:BA)++P1++(⟨#[32,105,110,32]⟩:BA)++P2)
  | _=>True) (by kernel_rfl) (by kernel_rfl) hN (fun _ _ _ _ _ h _=>h) ?_ ?_
 ·intro i' o hi' ho a w1 V hbel hd hpar K hK
  have p1':=dP (hpar 1 (by kernel_rfl)) hp1;obtain⟨q0,q1,q2,q3,q4,q5,q6,q7⟩:=box8 (hbel.blk hx);have ga0:=gX hbel h1 fa0;have ga1:=gX hbel h1 fa1;have ga2:=gX hbel h1 fa2;have ga3:=gX hbel h1 fa3;have ga4:=gX hbel h1 fa4;have ga5:=gX hbel h1 fa5;have ga6:=gX hbel h1 fa6;have ga7:=gX hbel h1 fa7;have ga8:=gX hbel h1 fa8;have ga9:=gX hbel h1 fa9;have ga10:=gX hbel h1 fa10;have ga11:=gX hbel h1 fa11;have ga12:=gX hbel h1 fa12;have ga13:=gX hbel h1 fa13;have ga14:=gX hbel h1 fa14;have ga15:=gX hbel h1 fa15;have y2:¬ (9223372036854775807<4+S.size):=by omega
  have y3:¬ (9223372036854775807<4+S.size+3):=by omega
  have y9:¬ (9223372036854775807<4+S.size+3+P1.size):=by omega
  have y10:¬ (9223372036854775807<4+S.size+3+P1.size+4):=by omega
  have y16:¬ (9223372036854775807<4+S.size+3+P1.size+4+P2.size):=by omega
  match i',hi',ho,hd,hK with
  | 0,_,ho,hd,hK=>cases ho;exact oW hK rfl rfl (by simp[execOp,go_sem,p1'])
  | 1,_,ho,hd,hK=>cases ho;exact oW hK rfl rfl (by simp[execOp,go_sem,dE (hd 0 47 rfl),q1])
  | 2,_,ho,hd,hK=>cases ho;exact oW hK rfl rfl (by simp[execOp,go_sem,dE (hd 1 48 rfl),y2])
  | 3,_,ho,hd,hK=>cases ho;exact oW hK rfl rfl (by simp[execOp,go_sem,dE (hd 2 49 rfl),y3])
  | 4,_,ho,hd,hK=>cases ho;exact oW hK rfl rfl (by simp[execOp,go_sem,p1'])
  | 5,_,ho,hd,hK=>cases ho;exact oW hK rfl rfl (by simp[execOp,go_sem,dE (hd 4 51 rfl),q6])
  | 6,_,ho,hd,hK=>cases ho;exact oW hK rfl rfl (by simp[execOp,go_sem,dE (hd 5 52 rfl)])
  | 7,_,ho,hd,hK=>cases ho;exact oW hK rfl rfl (by simp[execOp,go_sem,dE (hd 6 53 rfl),ga0,ga1,ga2,ga3,ga4,ga5,ga6,ga7])
  | 8,_,ho,hd,hK=>cases ho;exact oK hK rfl (HC1 w1 hbel) (fun _=>rfl) (by simp[go_sem,dE (hd 7 54 rfl)])
  | 9,_,ho,hd,hK=>cases ho;exact oW hK rfl rfl (by simp[execOp,go_sem,dE (hd 3 50 rfl),dE (hd 8 55 rfl),y9])
  | 10,_,ho,hd,hK=>cases ho;exact oW hK rfl rfl (by simp[execOp,go_sem,dE (hd 9 56 rfl),y10])
  | 11,_,ho,hd,hK=>cases ho;exact oW hK rfl rfl (by simp[execOp,go_sem,p1'])
  | 12,_,ho,hd,hK=>cases ho;exact oW hK rfl rfl (by simp[execOp,go_sem,dE (hd 11 58 rfl),q6])
  | 13,_,ho,hd,hK=>cases ho;exact oW hK rfl rfl (by simp[execOp,go_sem,dE (hd 12 59 rfl)])
  | 14,_,ho,hd,hK=>cases ho;exact oW hK rfl rfl (by simp[execOp,go_sem,dE (hd 13 60 rfl),ga8,ga9,ga10,ga11,ga12,ga13,ga14,ga15])
  | 15,_,ho,hd,hK=>cases ho;exact oK hK rfl (HC2 w1 hbel) (fun _=>rfl) (by simp[go_sem,dE (hd 14 61 rfl)])
  | 16,_,ho,hd,hK=>cases ho;exact oW hK rfl rfl (by simp[execOp,go_sem,dE (hd 10 57 rfl),dE (hd 15 62 rfl),y16])
  | q+17,hi,_,_,_=>exact absurd hi (by omega)
 ·intro V w' hb hF
  exact hend V w' hb (hF 16 (by omega))
def regX13:List Oper:=[
 ⟨some 66,.fieldAddr 28 (.tmp 1) 1,0,qO,#[],none⟩,
 ⟨some 67,.load 9 (.tmp 66),9,qO,#[⟨0,.data⟩],none⟩,
 ⟨some 68,.binOp .add 9 (.const (Value.string { data:=#[108,101,116,32,114,101,99,32] })) (.tmp 67) 9,9,qO,#[⟨1,.data⟩],none⟩,
 ⟨some 69,.binOp .add 9 (.tmp 68) (.const (Value.string { data:=#[32,61,32] })) 9,9,qO,#[⟨2,.data⟩],none⟩,
 ⟨some 70,.fieldAddr 28 (.tmp 1) 4,0,qO,#[],none⟩,
 ⟨some 71,.load 25 (.tmp 70),25,qO,#[⟨4,.data⟩],none⟩,
 ⟨some 72,.indexAddr 25 (.tmp 71) (.const (Value.int IntKind.i64 0)),0,qO,#[⟨5,.data⟩],none⟩,
 ⟨some 73,.load 28 (.tmp 72),28,qO,#[⟨6,.data⟩],none⟩,
 ⟨some 74,.call ⟨.value (.func 30),#[.tmp 73],#[28]⟩,9,qO,#[⟨7,.data⟩],none⟩,
 ⟨some 75,.binOp .add 9 (.tmp 69) (.tmp 74) 9,9,qO,#[⟨3,.data⟩,⟨8,.data⟩],none⟩,
 ⟨some 76,.binOp .add 9 (.tmp 75) (.const (Value.string { data:=#[32,105,110,32] })) 9,9,qO,#[⟨9,.data⟩],none⟩,
 ⟨some 77,.fieldAddr 28 (.tmp 1) 4,0,qO,#[],none⟩,
 ⟨some 78,.load 25 (.tmp 77),25,qO,#[⟨11,.data⟩],none⟩,
 ⟨some 79,.indexAddr 25 (.tmp 78) (.const (Value.int IntKind.i64 1)),0,qO,#[⟨12,.data⟩],none⟩,
 ⟨some 80,.load 28 (.tmp 79),28,qO,#[⟨13,.data⟩],none⟩,
 ⟨some 81,.call ⟨.value (.func 30),#[.tmp 80],#[28]⟩,9,qO,#[⟨14,.data⟩,⟨8,.chain⟩],none⟩,
 ⟨some 82,.binOp .add 9 (.tmp 76) (.tmp 81) 9,9,qO,#[⟨10,.data⟩,⟨15,.data⟩],none⟩,
 ⟨some 2,.assign (.tmp 82),9,qO,#[⟨16,.data⟩,⟨15,.chain⟩,⟨0,.phase⟩,⟨1,.phase⟩,⟨2,.phase⟩,⟨3,.phase⟩,⟨4,.phase⟩,⟨5,.phase⟩,⟨6,.phase⟩,⟨7,.phase⟩,⟨8,.phase⟩,⟨9,.phase⟩,⟨10,.phase⟩,⟨11,.phase⟩,⟨12,.phase⟩,⟨13,.phase⟩,⟨14,.phase⟩,⟨15,.phase⟩,⟨16,.phase⟩],none⟩]
theorem qdY{id:Nat}(b1:Nat)(S:BA)(n:Int)(p:Pl)(cap ub uo:Nat)(B:OA)(bl bc:Nat)(k1:Int)(S1:BA)(n1:Int)(pa:Pl)(A1:OA)(l1 c1:Nat)(B1:OA)(x1 d1:Nat)(P1:BA)(k2:Int)(S2:BA)(n2:Int)(pb:Pl)(A2:OA)(l2 c2:Nat)(B2:OA)(x2 d2:Nat)(P2:BA)(a0:Act)(w:World)(hx:w.drew.heap[b1]?=some (.cells #[.int .u8 7,S,n,p.a,p.l,p.c,.slice (some ⟨ub,uo,none⟩) 2 cap,.slice B bl bc] 28 (0,0)))(h1:ub<w.drew.heap.size)(hz0:S.size<=4000000)(hz1:P1.size<=4000000)(hz2:P2.size<=4000000)(fa0:w.drew.cell? ⟨ub,uo,none⟩=some (.int .u8 k1))(fa1:w.drew.cell? ⟨ub,uo+1,none⟩=some (.string S1))(fa2:w.drew.cell? ⟨ub,uo+2,none⟩=some (.int .i64 n1))(fa3:w.drew.cell? ⟨ub,uo+3,none⟩=some (.int .i64 pa.a))(fa4:w.drew.cell? ⟨ub,uo+4,none⟩=some (.int .i64 pa.l))(fa5:w.drew.cell? ⟨ub,uo+5,none⟩=some (.int .i64 pa.c))(fa6:w.drew.cell? ⟨ub,uo+6,none⟩=some (.slice A1 l1 c1))(fa7:w.drew.cell? ⟨ub,uo+7,none⟩=some (.slice B1 x1 d1))(fa8:w.drew.cell? ⟨ub,uo+8,none⟩=some (.int .u8 k2))(fa9:w.drew.cell? ⟨ub,uo+9,none⟩=some (.string S2))(fa10:w.drew.cell? ⟨ub,uo+10,none⟩=some (.int .i64 n2))(fa11:w.drew.cell? ⟨ub,uo+11,none⟩=some (.int .i64 pb.a))(fa12:w.drew.cell? ⟨ub,uo+12,none⟩=some (.int .i64 pb.l))(fa13:w.drew.cell? ⟨ub,uo+13,none⟩=some (.int .i64 pb.c))(fa14:w.drew.cell? ⟨ub,uo+14,none⟩=some (.slice A2 l2 c2))(fa15:w.drew.cell? ⟨ub,uo+15,none⟩=some (.slice B2 x2 d2))(HC1:∀ W,Bel w.drew W->Calls Tryz.prog 30 #[.agg #[.int .u8 k1,S1,n1,pa.a,pa.l,pa.c,.slice A1 l1 c1,.slice B1 x1 d1]] W (StR (.string P1) W))(HC2:∀ W,Bel w.drew W->Calls Tryz.prog 30 #[.agg #[.int .u8 k2,S2,n2,pb.a,pb.l,pb.c,.slice A2 l2 c2,.slice B2 x2 d2]] W (StR (.string P2) W))(Q:Exit->Act->World->Prop)
  (hend:∀ (V:Nat->Value) (w':World),Bel w.drew w'->((V 16)=.string ((⟨#[108,101,116,32,114,101,99,32]⟩:BA)++S++(⟨#[32,61,32]⟩:BA)++P1++(⟨#[32,105,110,32]⟩:BA)++P2))->wpList Tryz.prog regX13.toArray Q (regX13.drop 17) (finP regX13 17 V a0) w') (hN:a0.tmps.size=167:=by kernel_rfl) (hp1:a0.eval (.tmp 1)=.pointer (some ⟨b1,0,none⟩):=by kernel_rfl) :
  (Code.region id regX13.toArray true).wp Tryz.prog Q a0 w:=by
 refine qW 17 167 a0 w (fun i v w=>match i with
  | 0=>v=.pointer (some ⟨b1,1,none⟩)
  | 1=>v=.string S
  | 2=>v=.string ((⟨#[108,101,116,32,114,101,99,32]⟩:BA)++S)
  | 3=>v=.string ((⟨#[108,101,116,32,114,101,99,32]⟩:BA)++S++(⟨#[32,61,32]⟩:BA))
  | 4=>v=.pointer (some ⟨b1,6,none⟩)
  | 5=>v=.slice (some ⟨ub,uo,none⟩) 2 cap
  | 6=>v=.pointer (some ⟨ub,uo,none⟩)
  | 7=>v=.agg #[.int .u8 k1,S1,n1,pa.a,pa.l,pa.c,.slice A1 l1 c1,.slice B1 x1 d1]
  | 8=>v=.string P1
  | 9=>v=.string ((⟨#[108,101,116,32,114,101,99,32]⟩:BA)++S++(⟨#[32,61,32]⟩:BA)++P1)
  | 10=>v=.string ((⟨#[108,101,116,32,114,101,99,32]⟩:BA)++S++(⟨#[32,61,32]⟩:BA)++P1++(⟨#[32,105,110,32]⟩:BA))
  | 11=>v=.pointer (some ⟨b1,6,none⟩)
  | 12=>v=.slice (some ⟨ub,uo,none⟩) 2 cap
  | 13=>v=.pointer (some ⟨ub,uo+8,none⟩)
  | 14=>v=.agg #[.int .u8 k2,S2,n2,pb.a,pb.l,pb.c,.slice A2 l2 c2,.slice B2 x2 d2]
  | 15=>v=.string P2
  | 16=>v=.string ((⟨#[108,101,116,32,114,101,99,32]⟩:BA)++S++(⟨#[32,61,32]⟩:BA)++P1++(⟨#[32,105,110,32]⟩:BA)++P2)
  | _=>True) (by kernel_rfl) (by kernel_rfl) hN (fun _ _ _ _ _ h _=>h) ?_ ?_
 ·intro i' o hi' ho a w1 V hbel hd hpar K hK
  have p1':=dP (hpar 1 (by kernel_rfl)) hp1;obtain⟨q0,q1,q2,q3,q4,q5,q6,q7⟩:=box8 (hbel.blk hx);have ga0:=gX hbel h1 fa0;have ga1:=gX hbel h1 fa1;have ga2:=gX hbel h1 fa2;have ga3:=gX hbel h1 fa3;have ga4:=gX hbel h1 fa4;have ga5:=gX hbel h1 fa5;have ga6:=gX hbel h1 fa6;have ga7:=gX hbel h1 fa7;have ga8:=gX hbel h1 fa8;have ga9:=gX hbel h1 fa9;have ga10:=gX hbel h1 fa10;have ga11:=gX hbel h1 fa11;have ga12:=gX hbel h1 fa12;have ga13:=gX hbel h1 fa13;have ga14:=gX hbel h1 fa14;have ga15:=gX hbel h1 fa15;have y2:¬ (9223372036854775807<8+S.size):=by omega
  have y3:¬ (9223372036854775807<8+S.size+3):=by omega
  have y9:¬ (9223372036854775807<8+S.size+3+P1.size):=by omega
  have y10:¬ (9223372036854775807<8+S.size+3+P1.size+4):=by omega
  have y16:¬ (9223372036854775807<8+S.size+3+P1.size+4+P2.size):=by omega
  match i',hi',ho,hd,hK with
  | 0,_,ho,hd,hK=>cases ho;exact oW hK rfl rfl (by simp[execOp,go_sem,p1'])
  | 1,_,ho,hd,hK=>cases ho;exact oW hK rfl rfl (by simp[execOp,go_sem,dE (hd 0 66 rfl),q1])
  | 2,_,ho,hd,hK=>cases ho;exact oW hK rfl rfl (by simp[execOp,go_sem,dE (hd 1 67 rfl),y2])
  | 3,_,ho,hd,hK=>cases ho;exact oW hK rfl rfl (by simp[execOp,go_sem,dE (hd 2 68 rfl),y3])
  | 4,_,ho,hd,hK=>cases ho;exact oW hK rfl rfl (by simp[execOp,go_sem,p1'])
  | 5,_,ho,hd,hK=>cases ho;exact oW hK rfl rfl (by simp[execOp,go_sem,dE (hd 4 70 rfl),q6])
  | 6,_,ho,hd,hK=>cases ho;exact oW hK rfl rfl (by simp[execOp,go_sem,dE (hd 5 71 rfl)])
  | 7,_,ho,hd,hK=>cases ho;exact oW hK rfl rfl (by simp[execOp,go_sem,dE (hd 6 72 rfl),ga0,ga1,ga2,ga3,ga4,ga5,ga6,ga7])
  | 8,_,ho,hd,hK=>cases ho;exact oK hK rfl (HC1 w1 hbel) (fun _=>rfl) (by simp[go_sem,dE (hd 7 73 rfl)])
  | 9,_,ho,hd,hK=>cases ho;exact oW hK rfl rfl (by simp[execOp,go_sem,dE (hd 3 69 rfl),dE (hd 8 74 rfl),y9])
  | 10,_,ho,hd,hK=>cases ho;exact oW hK rfl rfl (by simp[execOp,go_sem,dE (hd 9 75 rfl),y10])
  | 11,_,ho,hd,hK=>cases ho;exact oW hK rfl rfl (by simp[execOp,go_sem,p1'])
  | 12,_,ho,hd,hK=>cases ho;exact oW hK rfl rfl (by simp[execOp,go_sem,dE (hd 11 77 rfl),q6])
  | 13,_,ho,hd,hK=>cases ho;exact oW hK rfl rfl (by simp[execOp,go_sem,dE (hd 12 78 rfl)])
  | 14,_,ho,hd,hK=>cases ho;exact oW hK rfl rfl (by simp[execOp,go_sem,dE (hd 13 79 rfl),ga8,ga9,ga10,ga11,ga12,ga13,ga14,ga15])
  | 15,_,ho,hd,hK=>cases ho;exact oK hK rfl (HC2 w1 hbel) (fun _=>rfl) (by simp[go_sem,dE (hd 14 80 rfl)])
  | 16,_,ho,hd,hK=>cases ho;exact oW hK rfl rfl (by simp[execOp,go_sem,dE (hd 10 76 rfl),dE (hd 15 81 rfl),y16])
  | q+17,hi,_,_,_=>exact absurd hi (by omega)
 ·intro V w' hb hF
  exact hend V w' hb (hF 16 (by omega))
def regX24:List Oper:=[
 ⟨some 132,.fieldAddr 28 (.tmp 1) 4,0,qR,#[],none⟩,
 ⟨some 133,.load 25 (.tmp 132),25,qR,#[⟨0,.data⟩],none⟩,
 ⟨some 134,.indexAddr 25 (.tmp 133) (.const (Value.int IntKind.i64 0)),0,qR,#[⟨1,.data⟩],none⟩,
 ⟨some 135,.load 28 (.tmp 134),28,qR,#[⟨2,.data⟩],none⟩,
 ⟨some 136,.call ⟨.value (.func 80),#[.tmp 135,.const (Value.bool false)],#[28,4]⟩,9,qR,#[⟨3,.data⟩],none⟩,
 ⟨some 137,.binOp .add 9 (.tmp 136) (.const (Value.string { data:=#[32] })) 9,9,qR,#[⟨4,.data⟩],none⟩,
 ⟨some 138,.fieldAddr 28 (.tmp 1) 1,0,qR,#[],none⟩,
 ⟨some 139,.load 9 (.tmp 138),9,qR,#[⟨6,.data⟩],none⟩,
 ⟨some 140,.binOp .add 9 (.tmp 137) (.tmp 139) 9,9,qR,#[⟨5,.data⟩,⟨7,.data⟩],none⟩,
 ⟨some 141,.binOp .add 9 (.tmp 140) (.const (Value.string { data:=#[32] })) 9,9,qR,#[⟨8,.data⟩],none⟩,
 ⟨some 142,.fieldAddr 28 (.tmp 1) 4,0,qR,#[],none⟩,
 ⟨some 143,.load 25 (.tmp 142),25,qR,#[⟨10,.data⟩],none⟩,
 ⟨some 144,.indexAddr 25 (.tmp 143) (.const (Value.int IntKind.i64 1)),0,qR,#[⟨11,.data⟩],none⟩,
 ⟨some 145,.load 28 (.tmp 144),28,qR,#[⟨12,.data⟩],none⟩,
 ⟨some 146,.call ⟨.value (.func 80),#[.tmp 145,.const (Value.bool false)],#[28,4]⟩,9,qR,#[⟨13,.data⟩,⟨4,.chain⟩],none⟩,
 ⟨some 147,.binOp .add 9 (.tmp 141) (.tmp 146) 9,9,qR,#[⟨9,.data⟩,⟨14,.data⟩],none⟩,
 ⟨some 2,.assign (.tmp 147),9,qR,#[⟨15,.data⟩,⟨14,.chain⟩,⟨0,.phase⟩,⟨1,.phase⟩,⟨2,.phase⟩,⟨3,.phase⟩,⟨4,.phase⟩,⟨5,.phase⟩,⟨6,.phase⟩,⟨7,.phase⟩,⟨8,.phase⟩,⟨9,.phase⟩,⟨10,.phase⟩,⟨11,.phase⟩,⟨12,.phase⟩,⟨13,.phase⟩,⟨14,.phase⟩,⟨15,.phase⟩],none⟩]
theorem qdZ{id:Nat}(b1:Nat)(S:BA)(n:Int)(p:Pl)(cap ub uo:Nat)(B:OA)(bl bc:Nat)(k1:Int)(S1:BA)(n1:Int)(pa:Pl)(A1:OA)(l1 c1:Nat)(B1:OA)(x1 d1:Nat)(P1:BA)(k2:Int)(S2:BA)(n2:Int)(pb:Pl)(A2:OA)(l2 c2:Nat)(B2:OA)(x2 d2:Nat)(P2:BA)(a0:Act)(w:World)(hx:w.drew.heap[b1]?=some (.cells #[.int .u8 10,S,n,p.a,p.l,p.c,.slice (some ⟨ub,uo,none⟩) 2 cap,.slice B bl bc] 28 (0,0)))(h1:ub<w.drew.heap.size)(hz0:S.size<=4000000)(hz1:P1.size<=4000000)(hz2:P2.size<=4000000)(fa0:w.drew.cell? ⟨ub,uo,none⟩=some (.int .u8 k1))(fa1:w.drew.cell? ⟨ub,uo+1,none⟩=some (.string S1))(fa2:w.drew.cell? ⟨ub,uo+2,none⟩=some (.int .i64 n1))(fa3:w.drew.cell? ⟨ub,uo+3,none⟩=some (.int .i64 pa.a))(fa4:w.drew.cell? ⟨ub,uo+4,none⟩=some (.int .i64 pa.l))(fa5:w.drew.cell? ⟨ub,uo+5,none⟩=some (.int .i64 pa.c))(fa6:w.drew.cell? ⟨ub,uo+6,none⟩=some (.slice A1 l1 c1))(fa7:w.drew.cell? ⟨ub,uo+7,none⟩=some (.slice B1 x1 d1))(fa8:w.drew.cell? ⟨ub,uo+8,none⟩=some (.int .u8 k2))(fa9:w.drew.cell? ⟨ub,uo+9,none⟩=some (.string S2))(fa10:w.drew.cell? ⟨ub,uo+10,none⟩=some (.int .i64 n2))(fa11:w.drew.cell? ⟨ub,uo+11,none⟩=some (.int .i64 pb.a))(fa12:w.drew.cell? ⟨ub,uo+12,none⟩=some (.int .i64 pb.l))(fa13:w.drew.cell? ⟨ub,uo+13,none⟩=some (.int .i64 pb.c))(fa14:w.drew.cell? ⟨ub,uo+14,none⟩=some (.slice A2 l2 c2))(fa15:w.drew.cell? ⟨ub,uo+15,none⟩=some (.slice B2 x2 d2))(HC1:∀ W,Bel w.drew W->Calls Tryz.prog 80 #[.agg #[.int .u8 k1,S1,n1,pa.a,pa.l,pa.c,.slice A1 l1 c1,.slice B1 x1 d1],.bool false] W (StR (.string P1) W))(HC2:∀ W,Bel w.drew W->Calls Tryz.prog 80 #[.agg #[.int .u8 k2,S2,n2,pb.a,pb.l,pb.c,.slice A2 l2 c2,.slice B2 x2 d2],.bool false] W (StR (.string P2) W))(Q:Exit->Act->World->Prop)
  (hend:∀ (V:Nat->Value) (w':World),Bel w.drew w'->((V 15)=.string (P1++(⟨#[32]⟩:BA)++S++(⟨#[32]⟩:BA)++P2))->wpList Tryz.prog regX24.toArray Q (regX24.drop 16) (finP regX24 16 V a0) w') (hN:a0.tmps.size=167:=by kernel_rfl) (hp1:a0.eval (.tmp 1)=.pointer (some ⟨b1,0,none⟩):=by kernel_rfl) :
  (Code.region id regX24.toArray true).wp Tryz.prog Q a0 w:=by
 refine qW 16 167 a0 w (fun i v w=>match i with
  | 0=>v=.pointer (some ⟨b1,6,none⟩)
  | 1=>v=.slice (some ⟨ub,uo,none⟩) 2 cap
  | 2=>v=.pointer (some ⟨ub,uo,none⟩)
  | 3=>v=.agg #[.int .u8 k1,S1,n1,pa.a,pa.l,pa.c,.slice A1 l1 c1,.slice B1 x1 d1]
  | 4=>v=.string P1
  | 5=>v=.string (P1++(⟨#[32]⟩:BA))
  | 6=>v=.pointer (some ⟨b1,1,none⟩)
  | 7=>v=.string S
  | 8=>v=.string (P1++(⟨#[32]⟩:BA)++S)
  | 9=>v=.string (P1++(⟨#[32]⟩:BA)++S++(⟨#[32]⟩:BA))
  | 10=>v=.pointer (some ⟨b1,6,none⟩)
  | 11=>v=.slice (some ⟨ub,uo,none⟩) 2 cap
  | 12=>v=.pointer (some ⟨ub,uo+8,none⟩)
  | 13=>v=.agg #[.int .u8 k2,S2,n2,pb.a,pb.l,pb.c,.slice A2 l2 c2,.slice B2 x2 d2]
  | 14=>v=.string P2
  | 15=>v=.string (P1++(⟨#[32]⟩:BA)++S++(⟨#[32]⟩:BA)++P2)
  | _=>True) (by kernel_rfl) (by kernel_rfl) hN (fun _ _ _ _ _ h _=>h) ?_ ?_
 ·intro i' o hi' ho a w1 V hbel hd hpar K hK
  have p1':=dP (hpar 1 (by kernel_rfl)) hp1;obtain⟨q0,q1,q2,q3,q4,q5,q6,q7⟩:=box8 (hbel.blk hx);have ga0:=gX hbel h1 fa0;have ga1:=gX hbel h1 fa1;have ga2:=gX hbel h1 fa2;have ga3:=gX hbel h1 fa3;have ga4:=gX hbel h1 fa4;have ga5:=gX hbel h1 fa5;have ga6:=gX hbel h1 fa6;have ga7:=gX hbel h1 fa7;have ga8:=gX hbel h1 fa8;have ga9:=gX hbel h1 fa9;have ga10:=gX hbel h1 fa10;have ga11:=gX hbel h1 fa11;have ga12:=gX hbel h1 fa12;have ga13:=gX hbel h1 fa13;have ga14:=gX hbel h1 fa14;have ga15:=gX hbel h1 fa15;have y5:¬ (9223372036854775807<P1.size+1):=by omega
  have y8:¬ (9223372036854775807<P1.size+1+S.size):=by omega
  have y9:¬ (9223372036854775807<P1.size+1+S.size+1):=by omega
  have y15:¬ (9223372036854775807<P1.size+1+S.size+1+P2.size):=by omega
  match i',hi',ho,hd,hK with
  | 0,_,ho,hd,hK=>cases ho;exact oW hK rfl rfl (by simp[execOp,go_sem,p1'])
  | 1,_,ho,hd,hK=>cases ho;exact oW hK rfl rfl (by simp[execOp,go_sem,dE (hd 0 132 rfl),q6])
  | 2,_,ho,hd,hK=>cases ho;exact oW hK rfl rfl (by simp[execOp,go_sem,dE (hd 1 133 rfl)])
  | 3,_,ho,hd,hK=>cases ho;exact oW hK rfl rfl (by simp[execOp,go_sem,dE (hd 2 134 rfl),ga0,ga1,ga2,ga3,ga4,ga5,ga6,ga7])
  | 4,_,ho,hd,hK=>cases ho;exact oK hK rfl (HC1 w1 hbel) (fun _=>rfl) (by simp[go_sem,dE (hd 3 135 rfl)])
  | 5,_,ho,hd,hK=>cases ho;exact oW hK rfl rfl (by simp[execOp,go_sem,dE (hd 4 136 rfl),y5])
  | 6,_,ho,hd,hK=>cases ho;exact oW hK rfl rfl (by simp[execOp,go_sem,p1'])
  | 7,_,ho,hd,hK=>cases ho;exact oW hK rfl rfl (by simp[execOp,go_sem,dE (hd 6 138 rfl),q1])
  | 8,_,ho,hd,hK=>cases ho;exact oW hK rfl rfl (by simp[execOp,go_sem,dE (hd 5 137 rfl),dE (hd 7 139 rfl),y8])
  | 9,_,ho,hd,hK=>cases ho;exact oW hK rfl rfl (by simp[execOp,go_sem,dE (hd 8 140 rfl),y9])
  | 10,_,ho,hd,hK=>cases ho;exact oW hK rfl rfl (by simp[execOp,go_sem,p1'])
  | 11,_,ho,hd,hK=>cases ho;exact oW hK rfl rfl (by simp[execOp,go_sem,dE (hd 10 142 rfl),q6])
  | 12,_,ho,hd,hK=>cases ho;exact oW hK rfl rfl (by simp[execOp,go_sem,dE (hd 11 143 rfl)])
  | 13,_,ho,hd,hK=>cases ho;exact oW hK rfl rfl (by simp[execOp,go_sem,dE (hd 12 144 rfl),ga8,ga9,ga10,ga11,ga12,ga13,ga14,ga15])
  | 14,_,ho,hd,hK=>cases ho;exact oK hK rfl (HC2 w1 hbel) (fun _=>rfl) (by simp[go_sem,dE (hd 13 145 rfl)])
  | 15,_,ho,hd,hK=>cases ho;exact oW hK rfl rfl (by simp[execOp,go_sem,dE (hd 9 141 rfl),dE (hd 14 146 rfl),y15])
  | q+16,hi,_,_,_=>exact absurd hi (by omega)
 ·intro V w' hb hF
  exact hend V w' hb (hF 15 (by omega))
def regX21:List Oper:=[
 ⟨some 103,.move (.tmp 3),9,qH,#[],none⟩,
 ⟨some 104,.binOp .add 9 (.tmp 103) (.const (Value.string { data:=#[32] })) 9,9,qH,#[⟨0,.data⟩],none⟩,
 ⟨some 105,.fieldAddr 28 (.tmp 1) 5,0,qH,#[],none⟩,
 ⟨some 106,.load 26 (.tmp 105),26,qH,#[⟨2,.data⟩],none⟩,
 ⟨some 107,.move (.tmp 4),3,qH,#[],none⟩,
 ⟨some 108,.indexAddr 26 (.tmp 106) (.tmp 107),0,qH,#[⟨3,.data⟩,⟨4,.data⟩],none⟩,
 ⟨some 109,.fieldAddr 61 (.tmp 108) 0,0,qH,#[⟨5,.data⟩],none⟩,
 ⟨some 110,.load 59 (.tmp 109),59,qH,#[⟨6,.data⟩],none⟩,
 ⟨some 111,.call ⟨.value (.func 81),#[.tmp 110],#[59]⟩,9,qH,#[⟨7,.data⟩],none⟩,
 ⟨some 112,.binOp .add 9 (.tmp 104) (.tmp 111) 9,9,qH,#[⟨1,.data⟩,⟨8,.data⟩],none⟩,
 ⟨some 113,.binOp .add 9 (.tmp 112) (.const (Value.string { data:=#[32,45,62,32] })) 9,9,qH,#[⟨9,.data⟩],none⟩,
 ⟨some 114,.fieldAddr 28 (.tmp 1) 5,0,qH,#[],none⟩,
 ⟨some 115,.load 26 (.tmp 114),26,qH,#[⟨11,.data⟩],none⟩,
 ⟨some 116,.move (.tmp 4),3,qH,#[],none⟩,
 ⟨some 117,.indexAddr 26 (.tmp 115) (.tmp 116),0,qH,#[⟨12,.data⟩,⟨13,.data⟩],none⟩,
 ⟨some 118,.fieldAddr 61 (.tmp 117) 1,0,qH,#[⟨14,.data⟩],none⟩,
 ⟨some 119,.load 28 (.tmp 118),28,qH,#[⟨15,.data⟩],none⟩,
 ⟨some 120,.call ⟨.value (.func 30),#[.tmp 119],#[28]⟩,9,qH,#[⟨16,.data⟩,⟨8,.chain⟩],none⟩,
 ⟨some 121,.binOp .add 9 (.tmp 113) (.tmp 120) 9,9,qH,#[⟨10,.data⟩,⟨17,.data⟩],none⟩,
 ⟨some 3,.assign (.tmp 121),9,qH,#[⟨18,.data⟩,⟨17,.chain⟩,⟨0,.phase⟩,⟨1,.phase⟩,⟨2,.phase⟩,⟨3,.phase⟩,⟨4,.phase⟩,⟨5,.phase⟩,⟨6,.phase⟩,⟨7,.phase⟩,⟨8,.phase⟩,⟨9,.phase⟩,⟨10,.phase⟩,⟨11,.phase⟩,⟨12,.phase⟩,⟨13,.phase⟩,⟨14,.phase⟩,⟨15,.phase⟩,⟨16,.phase⟩,⟨17,.phase⟩,⟨18,.phase⟩],none⟩]
theorem qao{id:Nat}(b1:Nat)(S:BA)(n:Int)(p:Pl)(AA:OA)(al ac:Nat)(m cap ub uo j:Nat)(T:BA)(k1:Int)(S1:BA)(n1:Int)(pa:Pl)(A1:OA)(l1 c1:Nat)(P1:BA)(k2:Int)(S2:BA)(n2:Int)(pb:Pl)(A2:OA)(l2 c2:Nat)(B2:OA)(x2 d2:Nat)(P2:BA)(a0:Act)(w:World)(hx:w.drew.heap[b1]?=some (.cells #[.int .u8 8,S,n,p.a,p.l,p.c,.slice AA al ac,.slice (some ⟨ub,uo,none⟩) m cap] 28 (0,0)))(i1:(0:Int)<=(j:Int))(i2:(j:Int)<(m:Int))(h1:ub<w.drew.heap.size)(hz0:T.size<=8000000)(hz1:P1.size<=4000000)(hz2:P2.size<=4000000)(fa0:w.drew.cell? ⟨ub,uo+j*15,none⟩=some (.int .u8 k1))(fa1:w.drew.cell? ⟨ub,uo+j*15+1,none⟩=some (.string S1))(fa2:w.drew.cell? ⟨ub,uo+j*15+2,none⟩=some (.int .i64 n1))(fa3:w.drew.cell? ⟨ub,uo+j*15+3,none⟩=some (.int .i64 pa.a))(fa4:w.drew.cell? ⟨ub,uo+j*15+4,none⟩=some (.int .i64 pa.l))(fa5:w.drew.cell? ⟨ub,uo+j*15+5,none⟩=some (.int .i64 pa.c))(fa6:w.drew.cell? ⟨ub,uo+j*15+6,none⟩=some (.slice A1 l1 c1))(fa7:w.drew.cell? ⟨ub,uo+j*15+7,none⟩=some (.int .u8 k2))(fa8:w.drew.cell? ⟨ub,uo+j*15+8,none⟩=some (.string S2))(fa9:w.drew.cell? ⟨ub,uo+j*15+9,none⟩=some (.int .i64 n2))(fa10:w.drew.cell? ⟨ub,uo+j*15+10,none⟩=some (.int .i64 pb.a))(fa11:w.drew.cell? ⟨ub,uo+j*15+11,none⟩=some (.int .i64 pb.l))(fa12:w.drew.cell? ⟨ub,uo+j*15+12,none⟩=some (.int .i64 pb.c))(fa13:w.drew.cell? ⟨ub,uo+j*15+13,none⟩=some (.slice A2 l2 c2))(fa14:w.drew.cell? ⟨ub,uo+j*15+14,none⟩=some (.slice B2 x2 d2))(HC1:∀ W,Bel w.drew W->Calls Tryz.prog 81 #[.agg #[.int .u8 k1,S1,n1,pa.a,pa.l,pa.c,.slice A1 l1 c1]] W (StR (.string P1) W))(HC2:∀ W,Bel w.drew W->Calls Tryz.prog 30 #[.agg #[.int .u8 k2,S2,n2,pb.a,pb.l,pb.c,.slice A2 l2 c2,.slice B2 x2 d2]] W (StR (.string P2) W))(Q:Exit->Act->World->Prop)
  (hend:∀ (V:Nat->Value) (w':World),Bel w.drew w'->((V 18)=.string (T++(⟨#[32]⟩:BA)++P1++(⟨#[32,45,62,32]⟩:BA)++P2))->wpList Tryz.prog regX21.toArray Q (regX21.drop 19) (finP regX21 19 V a0) w') (hN:a0.tmps.size=167:=by kernel_rfl) (hp1:a0.eval (.tmp 1)=.pointer (some ⟨b1,0,none⟩):=by kernel_rfl) (hp3:a0.eval (.tmp 3)=.string T:=by kernel_rfl) (hp4:a0.eval (.tmp 4)=.int .i64 (j:Int):=by kernel_rfl) :
  (Code.region id regX21.toArray true).wp Tryz.prog Q a0 w:=by
 refine qW 19 167 a0 w (fun i v w=>match i with
  | 0=>v=.string T
  | 1=>v=.string (T++(⟨#[32]⟩:BA))
  | 2=>v=.pointer (some ⟨b1,7,none⟩)
  | 3=>v=.slice (some ⟨ub,uo,none⟩) m cap
  | 4=>v=.int .i64 (j:Int)
  | 5=>v=.pointer (some ⟨ub,uo+j*15,none⟩)
  | 6=>v=.pointer (some ⟨ub,uo+j*15,none⟩)
  | 7=>v=.agg #[.int .u8 k1,S1,n1,pa.a,pa.l,pa.c,.slice A1 l1 c1]
  | 8=>v=.string P1
  | 9=>v=.string (T++(⟨#[32]⟩:BA)++P1)
  | 10=>v=.string (T++(⟨#[32]⟩:BA)++P1++(⟨#[32,45,62,32]⟩:BA))
  | 11=>v=.pointer (some ⟨b1,7,none⟩)
  | 12=>v=.slice (some ⟨ub,uo,none⟩) m cap
  | 13=>v=.int .i64 (j:Int)
  | 14=>v=.pointer (some ⟨ub,uo+j*15,none⟩)
  | 15=>v=.pointer (some ⟨ub,uo+j*15+7,none⟩)
  | 16=>v=.agg #[.int .u8 k2,S2,n2,pb.a,pb.l,pb.c,.slice A2 l2 c2,.slice B2 x2 d2]
  | 17=>v=.string P2
  | 18=>v=.string (T++(⟨#[32]⟩:BA)++P1++(⟨#[32,45,62,32]⟩:BA)++P2)
  | _=>True) (by kernel_rfl) (by kernel_rfl) hN (fun _ _ _ _ _ h _=>h) ?_ ?_
 ·intro i' o hi' ho a w1 V hbel hd hpar K hK
  have p1':=dP (hpar 1 (by kernel_rfl)) hp1;have p3':=dP (hpar 3 (by kernel_rfl)) hp3;have p4':=dP (hpar 4 (by kernel_rfl)) hp4;obtain⟨q0,q1,q2,q3,q4,q5,q6,q7⟩:=box8 (hbel.blk hx);have ga0:=gX hbel h1 fa0;have ga1:=gX hbel h1 fa1;have ga2:=gX hbel h1 fa2;have ga3:=gX hbel h1 fa3;have ga4:=gX hbel h1 fa4;have ga5:=gX hbel h1 fa5;have ga6:=gX hbel h1 fa6;have ga7:=gX hbel h1 fa7;have ga8:=gX hbel h1 fa8;have ga9:=gX hbel h1 fa9;have ga10:=gX hbel h1 fa10;have ga11:=gX hbel h1 fa11;have ga12:=gX hbel h1 fa12;have ga13:=gX hbel h1 fa13;have ga14:=gX hbel h1 fa14;have y1:¬ (9223372036854775807<T.size+1):=by omega
  have y9:¬ (9223372036854775807<T.size+1+P1.size):=by omega
  have y10:¬ (9223372036854775807<T.size+1+P1.size+4):=by omega
  have y18:¬ (9223372036854775807<T.size+1+P1.size+4+P2.size):=by omega
  match i',hi',ho,hd,hK with
  | 0,_,ho,hd,hK=>cases ho;exact oW hK rfl rfl (by simp[execOp,go_sem,p3'])
  | 1,_,ho,hd,hK=>cases ho;exact oW hK rfl rfl (by simp[execOp,go_sem,dE (hd 0 103 rfl),y1])
  | 2,_,ho,hd,hK=>cases ho;exact oW hK rfl rfl (by simp[execOp,go_sem,p1'])
  | 3,_,ho,hd,hK=>cases ho;exact oW hK rfl rfl (by simp[execOp,go_sem,dE (hd 2 105 rfl),q7])
  | 4,_,ho,hd,hK=>cases ho;exact oW hK rfl rfl (by simp[execOp,go_sem,p4'])
  | 5,_,ho,hd,hK=>cases ho;exact oW hK rfl rfl (by simp[execOp,go_sem,dE (hd 3 106 rfl),dE (hd 4 107 rfl),i1,i2])
  | 6,_,ho,hd,hK=>cases ho;exact oW hK rfl rfl (by simp[execOp,go_sem,dE (hd 5 108 rfl)])
  | 7,_,ho,hd,hK=>cases ho;exact oW hK rfl rfl (by simp[execOp,go_sem,dE (hd 6 109 rfl),ga0,ga1,ga2,ga3,ga4,ga5,ga6])
  | 8,_,ho,hd,hK=>cases ho;exact oK hK rfl (HC1 w1 hbel) (fun _=>rfl) (by simp[go_sem,dE (hd 7 110 rfl)])
  | 9,_,ho,hd,hK=>cases ho;exact oW hK rfl rfl (by simp[execOp,go_sem,dE (hd 1 104 rfl),dE (hd 8 111 rfl),y9])
  | 10,_,ho,hd,hK=>cases ho;exact oW hK rfl rfl (by simp[execOp,go_sem,dE (hd 9 112 rfl),y10])
  | 11,_,ho,hd,hK=>cases ho;exact oW hK rfl rfl (by simp[execOp,go_sem,p1'])
  | 12,_,ho,hd,hK=>cases ho;exact oW hK rfl rfl (by simp[execOp,go_sem,dE (hd 11 114 rfl),q7])
  | 13,_,ho,hd,hK=>cases ho;exact oW hK rfl rfl (by simp[execOp,go_sem,p4'])
  | 14,_,ho,hd,hK=>cases ho;exact oW hK rfl rfl (by simp[execOp,go_sem,dE (hd 12 115 rfl),dE (hd 13 116 rfl),i1,i2])
  | 15,_,ho,hd,hK=>cases ho;exact oW hK rfl rfl (by simp[execOp,go_sem,dE (hd 14 117 rfl)])
  | 16,_,ho,hd,hK=>cases ho;exact oW hK rfl rfl (by simp[execOp,go_sem,dE (hd 15 118 rfl),ga7,ga8,ga9,ga10,ga11,ga12,ga13,ga14])
  | 17,_,ho,hd,hK=>cases ho;exact oK hK rfl (HC2 w1 hbel) (fun _=>rfl) (by simp[go_sem,dE (hd 16 119 rfl)])
  | 18,_,ho,hd,hK=>cases ho;exact oW hK rfl rfl (by simp[execOp,go_sem,dE (hd 10 113 rfl),dE (hd 17 120 rfl),y18])
  | q+19,hi,_,_,_=>exact absurd hi (by omega)
 ·intro V w' hb hF
  exact hend V w' hb (hF 18 (by omega))
set_option maxHeartbeats 16000000
theorem qap(N:Nat):∀ (k:Int) (s:LU) (n:Int) (p:Pl) (A:OA) (len cap:Nat) (kids:Tr) (B:OA) (bl bc:Nat) (arms:Tr) (w:World),kids.size+arms.size=N->KidsTr w (OldT w) .ex A len cap kids->KidsTr w (OldT w) .arms B bl bc arms->kids.size+arms.size<=4000000->s.length<=4000000->hEf k s n len bl=true->kids.mayE hEf hPf=true->arms.mayE hEf hPf=true->(sfx (qe k s n kids arms)).length<=4000000 →
  Calls Tryz.prog 30 #[.agg #[.int .u8 k,.string ⟨s.toArray⟩,n,p.a,p.l,p.c,.slice A len cap,.slice B bl bc]] w (StR (.string (strS (qe k s n kids arms))) w):=by
 induction N using Nat.strongRecOn with
 | _ N ih=>
  intro k s n p A len cap kids B bl bc arms w hN h hA hsz hsl hm hmk hma hz;have H:=hid h;have HA:=hid hA;have HL:Hid (len=kids.len):=hid h.1;have HM:Hid (bl=arms.len):=hid hA.1;have HN:=hid hN;have HZ:=hid (And.intro hsz hz);have HSL:=hid hsl;have hlen:len<=4000000:=by have:=h.1;have:=kids.len_le;omega
  have hbl:bl<=4000000:=by have:=hA.1;have:=arms.len_le;omega
  obtain⟨T,hT⟩:=nW (strS (qe k s n kids arms));rw[<- hT];have HT:=hid hT;have HKID:Hid (∀ (w1:World),Bel w w1->∀ j,j<len->∀ (k':Int) (s':LU) (n':Int) (p':Pl) (A':OA) (c':Nat) (B':OA) (d':Nat) (kids' ar':Tr),kids.nth j=.nod k' s' n' p' kids' ar' .nil->KidsTr w1 (OldT w1) .ex A' kids'.len c' kids'->KidsTr w1 (OldT w1) .arms B' ar'.len d' ar'->(sfx (qe k' s' n' kids' ar')).length<=4000000 →
    qe k' s' n' kids' ar'≠[]/\1<=k'/\kids'.len<=4000000/\∀ W,Bel w1 W->Calls Tryz.prog 30 #[.agg #[.int .u8 k',.string ⟨s'.toArray⟩,n',p'.a,p'.l,p'.c,.slice A' kids'.len c',.slice B' ar'.len d']] W (StR (.string (strS (qe k' s' n' kids' ar'))) W)):=hid (by
   intro w1 hb1 j hj k' s' n' p' A' c' B' d' kids' ar' en hk' ha' hz';have hsn:=Tr.nth_size kids j;have hmn:=Tr.nth_mayE kids j (h.isNods (by intro e;cases e)) hmk;rw[en]at hsn hmn;simp only[Tr.size,Tr.mayE,Bool.and_true,bA]at hsn hmn;have hkl:=kids'.len_le;refine⟨ZY (hk'.isNods (by intro e;cases e)) hk'.ok hmn.1.1 hmn.1.2,(qix hmn.1.1).1,by omega,fun W hW=>?_⟩;exact ih (kids'.size+ar'.size) (by omega) k' s' n' p' A' kids'.len c' kids' B' ar'.len d' ar' W rfl (hk'.bel hW) (ha'.bel hW) (by omega) (qi3 hmn.1.1 hz') hmn.1.1 hmn.1.2 hmn.2 hz')
  have HARM:Hid (∀ (w1:World),Bel w w1->∀ j,j<bl->∀ (k':Int) (s':LU) (n':Int) (p':Pl) (A':OA) (c':Nat) (kids':Tr) (k2:Int) (s2:LU) (n2:Int) (p2:Pl) (B':OA) (d':Nat) (E':OA) (e':Nat) (kx ax:Tr),arms.nth j=.arm k' s' n' p' kids' (.nod k2 s2 n2 p2 kx ax .nil) .nil->KidsTr w1 (OldT w1) .pat A' kids'.len c' kids'->KidsTr w1 (OldT w1) .ex B' kx.len d' kx->KidsTr w1 (OldT w1) .arms E' ax.len e' ax->(sfx (qr k' s' n' kids'.patK)).length<=4000000->(sfx (qe k2 s2 n2 kx ax)).length<=4000000 →
    qe k2 s2 n2 kx ax≠[]/\(∀ W,Bel w1 W->Calls Tryz.prog 81 #[.agg #[.int .u8 k',.string ⟨s'.toArray⟩,n',p'.a,p'.l,p'.c,.slice A' kids'.len c']] W (StR (.string (strS (qr k' s' n' kids'.patK))) W))/\∀ W,Bel w1 W->Calls Tryz.prog 30 #[.agg #[.int .u8 k2,.string ⟨s2.toArray⟩,n2,p2.a,p2.l,p2.c,.slice B' kx.len d',.slice E' ax.len e']] W (StR (.string (strS (qe k2 s2 n2 kx ax))) W)):=hid (by
   intro w1 hb1 j hj k' s' n' p' A' c' kids' k2 s2 n2 p2 B' d' E' e' kx ax en hk' hx' ha' hz1' hz2';have hsn:=Tr.nth_size arms j;have hmn:=Tr.nth_mayA arms j hA.isArms hma;rw[en]at hsn hmn;simp only[Tr.size,Tr.mayE,Bool.and_true,bA]at hsn hmn;refine⟨ZY (hx'.isNods (by intro e;cases e)) hx'.ok hmn.2.1.1 hmn.2.1.2,fun W hW=>qfN kids'.size k' s' n' p' A' kids'.len c' kids' W rfl (hk'.bel hW) (by omega) hmn.1.1 hmn.1.2 hz1',fun W hW=>?_⟩;exact ih (kx.size+ax.size) (by omega) k2 s2 n2 p2 B' kx.len d' kx E' ax.len e' ax W rfl (hx'.bel hW) (ha'.bel hW) (by omega) (qi3 hmn.2.1.1 hz2') hmn.2.1.1 hmn.2.1.2 hmn.2.2 hz2')
  have HF6:=hid fun W=>ZK s W;have q1:=blk1 w (.cells #[.int .u8 k,.string ⟨s.toArray⟩,n,p.a,p.l,p.c,.slice A len cap,.slice B bl bc] 28);have hb1:Bel w (w.alloc (.cells #[.int .u8 k,.string ⟨s.toArray⟩,n,p.a,p.l,p.c,.slice A len cap,.slice B bl bc] 28)):=(Bel.refl w).alloc _;clear ih hN hsz hmk hma hT;rcases QY hm with ⟨rfl,rfl,hq⟩ | ⟨rfl,rfl,hq⟩ | ⟨rfl,rfl,hq⟩ | ⟨rfl,rfl,hq⟩ | ⟨rfl,rfl,-,-⟩ | ⟨rfl,rfl,hq⟩ | ⟨rfl,rfl,hq⟩ | ⟨rfl,rfl,-,-⟩ | ⟨rfl,hq⟩ | ⟨rfl,⟨hb,rfl,hq⟩ | ⟨hb,hq⟩⟩
  case inl=>
   as_aux_lemma=>
    have hTs:T=⟨s.toArray⟩:=by
     have h1:32::T.data.toList=32::s++sfx (kids.exK 2 []):=by rw[HT.out,show qe 1 s n kids arms=tk0 1 s n::kids.exK 2 [] from rfl,Zz,ZU (by decide) (by decide)]
     rw[Tr.len_nil kids HL.out.symm,show Tr.nil.exK 2 []=[] from rfl,qk,aNn]at h1;injection h1 with _ h2
     rw[<- h2]
    obtain⟨w1,hw1⟩:=nW (w.alloc (.cells #[.int .u8 1,.string ⟨s.toArray⟩,n,p.a,p.l,p.c,.slice A 0 cap,.slice B bl bc] 28));have HW1:=hid hw1;rw[<- hw1]at q1 hb1;have HQ:=hid q1;have HB1:=hid hb1;rw[hTs];clear HF6 h hA hm hz hq q1 hb1 hw1 HARM HT hTs;go_enter Tryz.func30,Tryz.ntmps30;go_upto_region 1 with fail
    rw[<- HW1.out];clear HW1;obtain⟨x0,x1,x2,x3,x4,x5,x6,x7⟩:=box8 HQ;go_wp2_with fail;go_loopw [5,6] (fun v i wr=>i=.int .i64 0/\v=.string ⟨s.toArray⟩/\wr=w1) (fun _ _ _=>0)
    case atStart=>exact⟨rfl,rfl,rfl⟩
    case round=>
     obtain⟨rfl,rfl,rfl⟩:=hrel;go_wp2_with fail;go_ret;exact⟨rfl,HB1⟩
  case inr.inl=>
   have hnil:kids=.nil:=Tr.len_nil _ (by rw[<- HL.out]);have hn2:0<=n/\n<=9223372036854775807:=by
    have h9:mtB (3,s,n)=true:=by simpa [mtB] using hq
    rw[mt3]at h9;simp only[bA]at h9;have h4:qh (3,[],n):=by simpa [mtB] using h9.1
    have h5:0<=n/\n<=1099511627776:=by
     rcases h4 with h | h | h | h | h | h <;> simp at h
     exact h
    omega
   have hTT:T=⟨(putB 3 [] n).toArray⟩:=by
    rw[HT.out,hnil];show (⟨(sfx [tk0 3 s n]).tail.toArray⟩:BA)=_;rw[qp,qk,aNn];rfl
   have HF:=hid fun W=>ZL n hn2.1 hn2.2 W;rw[<- hTT]at HF;have HB1:=hid hb1;obtain⟨x0,x1,x2,x3,x4,x5,x6,x7⟩:=box8 q1;clear h hA hz hm hq hTT hnil HKID HARM HF6 q1 hb1;go_enter Tryz.func30,Tryz.ntmps30;go_wp2_with fail;refine (HF _).mono ?_;rintro e w2 ⟨rfl,hb2⟩;have HB2:=hid (HB1.on hb2);clear hb2 x0 x1 x2 x3 x4 x5 x6 x7;go_wp2_with fail;go_ret;exact⟨rfl,HB2⟩
  case inr.inr.inl=>
   have hnil:kids=.nil:=Tr.len_nil _ (by rw[<- HL.out]);have hTT:T=⟨(putB 4 s 0).toArray⟩:=by
    rw[HT.out,hnil];show (⟨(sfx [tk0 4 s n]).tail.toArray⟩:BA)=_;rw[qp,qk,aNn];rfl
   have HF:=hid fun W=>ZM s (by have:=HSL.out;omega) W;rw[<- hTT]at HF;have HB1:=hid hb1;obtain⟨x0,x1,x2,x3,x4,x5,x6,x7⟩:=box8 q1;clear h hA hz hm hq hTT hnil HKID HARM HF6 q1 hb1;go_enter Tryz.func30,Tryz.ntmps30;go_wp2_with fail;refine (HF _).mono ?_;rintro e w2 ⟨rfl,hb2⟩;have HB2:=hid (HB1.on hb2);clear hb2 x0 x1 x2 x3 x4 x5 x6 x7;go_wp2_with fail;go_ret;exact⟨rfl,HB2⟩
  case inr.inr.inr.inl=>
   as_aux_lemma=>
    obtain⟨ub,uo,k1,s1,n1,p1,A1,c1,B1,d1,f1,r1,hA1,hub,en1,hk1,ha1,a0,a1,a2,a3,a4,a5,a6,a7⟩:=jI (h.bel hb1) (j:=0) (by decide);have hOwn:qe 4 s n kids arms=Q5::tk0 1 s 0::jn::qe k1 s1 n1 f1 r1:=by
     show Q5::tk0 1 s 0::jn::kids.exK 0 []=_;rw[qcM (by rw[<- HL.out]) en1,aNn];rfl
    have hz2:=hz;rw[hOwn]at hz2;simp only[qf6,zJ,qf5,lA,lC,lNn]at hz2;obtain⟨u1,v1,t1,HE1⟩:=HKID.out _ hb1 0 (by decide) k1 s1 n1 p1 A1 c1 B1 d1 f1 r1 en1 hk1 ha1 (by omega);obtain⟨P1,hP1⟩:=nW (strS (qe k1 s1 n1 f1 r1));have hL1:32::P1.data.toList=sfx (qe k1 s1 n1 f1 r1):=by rw[hP1];exact qw u1
    have hz11:=zB hL1;have HC1:∀ W,Bel (w.alloc (.cells #[.int .u8 4,.string ⟨s.toArray⟩,n,p.a,p.l,p.c,.slice A 1 cap,.slice B bl bc] 28)) W->Calls Tryz.prog 30 #[.agg #[.int .u8 k1,.string ⟨s1.toArray⟩,n1,p1.a,p1.l,p1.c,.slice A1 f1.len c1,.slice B1 r1.len d1]] W (StR (.string P1) W):=by
     rw[hP1];exact fun W hW=>HE1 W hW
    have hSz:(⟨s.toArray⟩:BA).size=s.length:=by show s.toArray.size=_;simp
    have hTT:T=(⟨#[92,32]⟩:BA)++⟨s.toArray⟩++(⟨#[32,45,62,32]⟩:BA)++P1:=by
     rw[HT.out];symm;apply jy;rw[hOwn];simp only[qf6,zJ,qf5,<- hL1,qj];simp
    obtain⟨SS,hSS⟩:=nW (⟨s.toArray⟩:BA);have hSz2:SS.size<=4000000:=by rw[hSS,hSz];omega
    rw[hA1]at q1 hb1 hub a0 a1 a2 a3 a4 a5 a6 a7  HC1  ⊢;simp only[Nat.zero_mul,nZz]at a0 a1 a2 a3 a4 a5 a6 a7;rw[<- hSS]at hTT q1 hb1 hub a0 a1 a2 a3 a4 a5 a6 a7  HC1  ⊢;subst hTT;have HQ:=hid q1;have HB1:=hid hb1;have HD1:=hid HC1;skip
    have HAA:=hid (And.intro a0 (And.intro a1 (And.intro a2 (And.intro a3 (And.intro a4 (And.intro a5 (And.intro a6 a7)))))));skip
    have HUB:=hid hub;have HYV:Hid (SS.size<=4000000/\P1.size<=4000000):=hid (by omega);obtain⟨L1,hl1⟩:=nW f1.len;obtain⟨R1,hr1⟩:=nW r1.len;rw[<- hl1]at HAA HD1;rw[<- hr1]at HAA HD1;clear h hA hz hm hz2 hOwn hSz hSz2 hz11  hL1 hP1 u1 v1 t1 HE1 HC1 en1 hk1 ha1 hl1 hr1 hA1 hub HKID HARM HT hSS HSL a0 a1 a2 a3 a4 a5 a6 a7;obtain⟨x0,x1,x2,x3,x4,x5,x6,x7⟩:=box8 q1;clear q1 hb1;go_enter Tryz.func30,Tryz.ntmps30;go_wp2_with fail;obtain⟨a0,a1,a2,a3,a4,a5,a6,a7⟩:=HAA.out;refine qfJ w.heap.size SS n p cap ub uo B bl bc k1 ⟨s1.toArray⟩ n1 p1 A1 L1 c1 B1 R1 d1 P1 _ (w.alloc (.cells #[.int .u8 4,SS,n,p.a,p.l,p.c,.slice (some ⟨ub,uo,none⟩) 1 cap,.slice B bl bc] 28)) HQ HUB HYV.1 HYV.2 a0 a1 a2 a3 a4 a5 a6 a7 (fun W hW=>HD1 W ((Bel.refl _).drew.on hW))  _ ?_;intro V w3 hb3 hv;simp only[finP,zz,Nat.reduceAdd,jA,jB,jC,jD,jE,regX7,jF,jG,hv];have HB3:=hid (HB1.on ((Bel.refl _).drew.on hb3));clear hb3 hv x0 x1 x2 x3 x4 x5 x6 x7 a0 a1 a2 a3 a4 a5 a6 a7;go_wp2_with fail;go_ret;exact⟨rfl,HB3⟩
  case inr.inr.inr.inr.inl=>
   as_aux_lemma=>
    obtain⟨ub,uo,k1,s1,n1,p1,A1,c1,B1,d1,f1,r1,hA1,hub,en1,hk1,ha1,a0,a1,a2,a3,a4,a5,a6,a7⟩:=jI (h.bel hb1) (j:=0) (by decide);obtain⟨ub2,uo2,k2,s2,n2,p2,A2,c2,B2,d2,f2,r2,hA2,_,en2,hk2,ha2,b0,b1,b2,b3,b4,b5,b6,b7⟩:=jI (h.bel hb1) (j:=1) (by decide);rw[hA1]at hA2;simp only[Option.some.injEq,Addr.mk.injEq,and_true]at hA2;obtain⟨rfl,rfl⟩:=hA2;have hOwn:qe 5 s n kids arms=brkL (alnF k1 f1.len) (qe k1 s1 n1 f1 r1)++[]++brkL (alnE k2 f2.len) (qe k2 s2 n2 f2 r2):=by
     show kids.exK 1 []=_;rw[ZX (by rw[<- HL.out]) en1 en2];rfl
    have hz2:=hz;rw[hOwn]at hz2;simp only[qk,qz,lA,lNn]at hz2;obtain⟨u1,v1,t1,HE1⟩:=HKID.out _ hb1 0 (by decide) k1 s1 n1 p1 A1 c1 B1 d1 f1 r1 en1 hk1 ha1 (by have:=zf (alnF k1 f1.len) (qe k1 s1 n1 f1 r1);omega);obtain⟨P1,hP1⟩:=nW (strS (brkL (alnF k1 f1.len) (qe k1 s1 n1 f1 r1)));have hL1:32::P1.data.toList=sfx (brkL (alnF k1 f1.len) (qe k1 s1 n1 f1 r1)):=by rw[hP1];exact qw (zs u1)
    have hz11:=zB hL1;have HC1:∀ W,Bel (w.alloc (.cells #[.int .u8 5,.string ⟨s.toArray⟩,n,p.a,p.l,p.c,.slice A 2 cap,.slice B bl bc] 28)) W->Calls Tryz.prog 80 #[.agg #[.int .u8 k1,.string ⟨s1.toArray⟩,n1,p1.a,p1.l,p1.c,.slice A1 f1.len c1,.slice B1 r1.len d1],.bool true] W (StR (.string P1) W):=by
     rw[hP1];exact fun W hW=>jM k1 ⟨s1.toArray⟩ n1 p1 A1 f1.len c1 B1 r1.len d1 true (alnF k1 f1.len) (qe k1 s1 n1 f1 r1) W u1 (by have:=zf (alnF k1 f1.len) (qe k1 s1 n1 f1 r1);omega) (qiC v1) t1 fun W2 hW2=>HE1 W2 (hW.on hW2)
    obtain⟨u2,v2,t2,HE2⟩:=HKID.out _ hb1 1 (by decide) k2 s2 n2 p2 A2 c2 B2 d2 f2 r2 en2 hk2 ha2 (by have:=zf (alnE k2 f2.len) (qe k2 s2 n2 f2 r2);omega);obtain⟨P2,hP2⟩:=nW (strS (brkL (alnE k2 f2.len) (qe k2 s2 n2 f2 r2)));have hL2:32::P2.data.toList=sfx (brkL (alnE k2 f2.len) (qe k2 s2 n2 f2 r2)):=by rw[hP2];exact qw (zs u2)
    have hz12:=zB hL2;have HC2:∀ W,Bel (w.alloc (.cells #[.int .u8 5,.string ⟨s.toArray⟩,n,p.a,p.l,p.c,.slice A 2 cap,.slice B bl bc] 28)) W->Calls Tryz.prog 80 #[.agg #[.int .u8 k2,.string ⟨s2.toArray⟩,n2,p2.a,p2.l,p2.c,.slice A2 f2.len c2,.slice B2 r2.len d2],.bool false] W (StR (.string P2) W):=by
     rw[hP2];exact fun W hW=>jM k2 ⟨s2.toArray⟩ n2 p2 A2 f2.len c2 B2 r2.len d2 false (alnE k2 f2.len) (qe k2 s2 n2 f2 r2) W u2 (by have:=zf (alnE k2 f2.len) (qe k2 s2 n2 f2 r2);omega) (Js v2) t2 fun W2 hW2=>HE2 W2 (hW.on hW2)
    have hSz:(⟨s.toArray⟩:BA).size=s.length:=by show s.toArray.size=_;simp
    have hTT:T=P1++(⟨#[32]⟩:BA)++P2:=by
     rw[HT.out];symm;apply jy;rw[hOwn];simp only[qk,qz,<- hL1,<- hL2,qj];simp
    obtain⟨SS,hSS⟩:=nW (⟨s.toArray⟩:BA);have hSz2:SS.size<=4000000:=by rw[hSS,hSz];have:=HSL.out;omega
    rw[hA1]at q1 hb1 hub a0 a1 a2 a3 a4 a5 a6 a7 b0 b1 b2 b3 b4 b5 b6 b7 HC1 HC2 ⊢;simp only[Nat.zero_mul,Nat.one_mul,nZz,Nat.add_assoc,Nat.reduceAdd]at a0 a1 a2 a3 a4 a5 a6 a7 b0 b1 b2 b3 b4 b5 b6 b7;rw[<- hSS]at q1 hb1 hub a0 a1 a2 a3 a4 a5 a6 a7 b0 b1 b2 b3 b4 b5 b6 b7 HC1 HC2 ⊢;subst hTT;have HQ:=hid q1;have HB1:=hid hb1;have HD1:=hid HC1;have HD2:=hid HC2;have HAA:=hid (And.intro a0 (And.intro a1 (And.intro a2 (And.intro a3 (And.intro a4 (And.intro a5 (And.intro a6 a7)))))));have HBB:=hid (And.intro b0 (And.intro b1 (And.intro b2 (And.intro b3 (And.intro b4 (And.intro b5 (And.intro b6 b7)))))));have HUB:=hid hub;have HYV:Hid (SS.size<=4000000/\P1.size<=4000000/\P2.size<=4000000):=hid (by omega);obtain⟨L1,hl1⟩:=nW f1.len;obtain⟨R1,hr1⟩:=nW r1.len;rw[<- hl1]at HAA HD1;rw[<- hr1]at HAA HD1;obtain⟨L2,hl2⟩:=nW f2.len;obtain⟨R2,hr2⟩:=nW r2.len;rw[<- hl2]at HBB HD2;rw[<- hr2]at HBB HD2;clear h hA hz hm hz2 hOwn hSz hSz2 hz11 hz12 hL2 hP2 u2 v2 t2 HE2 HC2 en2 hk2 ha2 hl2 hr2 hL1 hP1 u1 v1 t1 HE1 HC1 en1 hk1 ha1 hl1 hr1 hA1 hub HKID HARM HT hSS HSL a0 a1 a2 a3 a4 a5 a6 a7 b0 b1 b2 b3 b4 b5 b6 b7;obtain⟨x0,x1,x2,x3,x4,x5,x6,x7⟩:=box8 q1;clear q1 hb1;go_enter Tryz.func30,Tryz.ntmps30;go_wp2_with fail;obtain⟨a0,a1,a2,a3,a4,a5,a6,a7⟩:=HAA.out;obtain⟨b0,b1,b2,b3,b4,b5,b6,b7⟩:=HBB.out;refine qfK w.heap.size SS n p cap ub uo B bl bc k1 ⟨s1.toArray⟩ n1 p1 A1 L1 c1 B1 R1 d1 P1 k2 ⟨s2.toArray⟩ n2 p2 A2 L2 c2 B2 R2 d2 P2 _ (w.alloc (.cells #[.int .u8 5,SS,n,p.a,p.l,p.c,.slice (some ⟨ub,uo,none⟩) 2 cap,.slice B bl bc] 28)) HQ HUB HYV.1 HYV.2.1 HYV.2.2 a0 a1 a2 a3 a4 a5 a6 a7 b0 b1 b2 b3 b4 b5 b6 b7 (fun W hW=>HD1 W ((Bel.refl _).drew.on hW)) (fun W hW=>HD2 W ((Bel.refl _).drew.on hW)) _ ?_;intro V w3 hb3 hv;simp only[finP,zz,Nat.reduceAdd,jA,jB,jC,jD,jE,regX9,jF,jG,hv];have HB3:=hid (HB1.on ((Bel.refl _).drew.on hb3));clear hb3 hv x0 x1 x2 x3 x4 x5 x6 x7 a0 a1 a2 a3 a4 a5 a6 a7 b0 b1 b2 b3 b4 b5 b6 b7;go_wp2_with fail;go_ret;exact⟨rfl,HB3⟩
  case inr.inr.inr.inr.inr.inl=>
   as_aux_lemma=>
    obtain⟨ub,uo,k1,s1,n1,p1,A1,c1,B1,d1,f1,r1,hA1,hub,en1,hk1,ha1,a0,a1,a2,a3,a4,a5,a6,a7⟩:=jI (h.bel hb1) (j:=0) (by decide);obtain⟨ub2,uo2,k2,s2,n2,p2,A2,c2,B2,d2,f2,r2,hA2,_,en2,hk2,ha2,b0,b1,b2,b3,b4,b5,b6,b7⟩:=jI (h.bel hb1) (j:=1) (by decide);rw[hA1]at hA2;simp only[Option.some.injEq,Addr.mk.injEq,and_true]at hA2;obtain⟨rfl,rfl⟩:=hA2;have hOwn:qe 6 s n kids arms=zm::tk0 1 s 0::kwEq::(qe k1 s1 n1 f1 r1++[kwIn]++qe k2 s2 n2 f2 r2):=by
     show zm::tk0 1 s 0::kwEq::kids.exK 0 [kwIn]=_;rw[ZX (by rw[<- HL.out]) en1 en2];rfl
    have hz2:=hz;rw[hOwn]at hz2;simp only[ZO,zJ,qd8,qhz,qk,qz,lA,lC,lNn]at hz2;obtain⟨u1,v1,t1,HE1⟩:=HKID.out _ hb1 0 (by decide) k1 s1 n1 p1 A1 c1 B1 d1 f1 r1 en1 hk1 ha1 (by omega);obtain⟨P1,hP1⟩:=nW (strS (qe k1 s1 n1 f1 r1));have hL1:32::P1.data.toList=sfx (qe k1 s1 n1 f1 r1):=by rw[hP1];exact qw u1
    have hz11:=zB hL1;have HC1:∀ W,Bel (w.alloc (.cells #[.int .u8 6,.string ⟨s.toArray⟩,n,p.a,p.l,p.c,.slice A 2 cap,.slice B bl bc] 28)) W->Calls Tryz.prog 30 #[.agg #[.int .u8 k1,.string ⟨s1.toArray⟩,n1,p1.a,p1.l,p1.c,.slice A1 f1.len c1,.slice B1 r1.len d1]] W (StR (.string P1) W):=by
     rw[hP1];exact fun W hW=>HE1 W hW
    obtain⟨u2,v2,t2,HE2⟩:=HKID.out _ hb1 1 (by decide) k2 s2 n2 p2 A2 c2 B2 d2 f2 r2 en2 hk2 ha2 (by omega);obtain⟨P2,hP2⟩:=nW (strS (qe k2 s2 n2 f2 r2));have hL2:32::P2.data.toList=sfx (qe k2 s2 n2 f2 r2):=by rw[hP2];exact qw u2
    have hz12:=zB hL2;have HC2:∀ W,Bel (w.alloc (.cells #[.int .u8 6,.string ⟨s.toArray⟩,n,p.a,p.l,p.c,.slice A 2 cap,.slice B bl bc] 28)) W->Calls Tryz.prog 30 #[.agg #[.int .u8 k2,.string ⟨s2.toArray⟩,n2,p2.a,p2.l,p2.c,.slice A2 f2.len c2,.slice B2 r2.len d2]] W (StR (.string P2) W):=by
     rw[hP2];exact fun W hW=>HE2 W hW
    have hSz:(⟨s.toArray⟩:BA).size=s.length:=by show s.toArray.size=_;simp
    have hTT:T=(⟨#[108,101,116,32]⟩:BA)++⟨s.toArray⟩++(⟨#[32,61,32]⟩:BA)++P1++(⟨#[32,105,110,32]⟩:BA)++P2:=by
     rw[HT.out];symm;apply jy;rw[hOwn];simp only[ZO,zJ,qd8,qhz,qk,qz,<- hL1,<- hL2,qj];simp
    obtain⟨SS,hSS⟩:=nW (⟨s.toArray⟩:BA);have hSz2:SS.size<=4000000:=by rw[hSS,hSz];omega
    rw[hA1]at q1 hb1 hub a0 a1 a2 a3 a4 a5 a6 a7 b0 b1 b2 b3 b4 b5 b6 b7 HC1 HC2 ⊢;simp only[Nat.zero_mul,Nat.one_mul,nZz,Nat.add_assoc,Nat.reduceAdd]at a0 a1 a2 a3 a4 a5 a6 a7 b0 b1 b2 b3 b4 b5 b6 b7;rw[<- hSS]at hTT q1 hb1 hub a0 a1 a2 a3 a4 a5 a6 a7 b0 b1 b2 b3 b4 b5 b6 b7 HC1 HC2 ⊢;subst hTT;have HQ:=hid q1;have HB1:=hid hb1;have HD1:=hid HC1;have HD2:=hid HC2;have HAA:=hid (And.intro a0 (And.intro a1 (And.intro a2 (And.intro a3 (And.intro a4 (And.intro a5 (And.intro a6 a7)))))));have HBB:=hid (And.intro b0 (And.intro b1 (And.intro b2 (And.intro b3 (And.intro b4 (And.intro b5 (And.intro b6 b7)))))));have HUB:=hid hub;have HYV:Hid (SS.size<=4000000/\P1.size<=4000000/\P2.size<=4000000):=hid (by omega);obtain⟨L1,hl1⟩:=nW f1.len;obtain⟨R1,hr1⟩:=nW r1.len;rw[<- hl1]at HAA HD1;rw[<- hr1]at HAA HD1;obtain⟨L2,hl2⟩:=nW f2.len;obtain⟨R2,hr2⟩:=nW r2.len;rw[<- hl2]at HBB HD2;rw[<- hr2]at HBB HD2;clear h hA hz hm hz2 hOwn hSz hSz2 hz11 hz12 hL2 hP2 u2 v2 t2 HE2 HC2 en2 hk2 ha2 hl2 hr2 hL1 hP1 u1 v1 t1 HE1 HC1 en1 hk1 ha1 hl1 hr1 hA1 hub HKID HARM HT hSS HSL a0 a1 a2 a3 a4 a5 a6 a7 b0 b1 b2 b3 b4 b5 b6 b7;obtain⟨x0,x1,x2,x3,x4,x5,x6,x7⟩:=box8 q1;clear q1 hb1;go_enter Tryz.func30,Tryz.ntmps30;go_wp2_with fail;obtain⟨a0,a1,a2,a3,a4,a5,a6,a7⟩:=HAA.out;obtain⟨b0,b1,b2,b3,b4,b5,b6,b7⟩:=HBB.out;refine qdX w.heap.size SS n p cap ub uo B bl bc k1 ⟨s1.toArray⟩ n1 p1 A1 L1 c1 B1 R1 d1 P1 k2 ⟨s2.toArray⟩ n2 p2 A2 L2 c2 B2 R2 d2 P2 _ (w.alloc (.cells #[.int .u8 6,SS,n,p.a,p.l,p.c,.slice (some ⟨ub,uo,none⟩) 2 cap,.slice B bl bc] 28)) HQ HUB HYV.1 HYV.2.1 HYV.2.2 a0 a1 a2 a3 a4 a5 a6 a7 b0 b1 b2 b3 b4 b5 b6 b7 (fun W hW=>HD1 W ((Bel.refl _).drew.on hW)) (fun W hW=>HD2 W ((Bel.refl _).drew.on hW)) _ ?_;intro V w3 hb3 hv;simp only[finP,zz,Nat.reduceAdd,jA,jB,jC,jD,jE,regX11,jF,jG,hv];have HB3:=hid (HB1.on ((Bel.refl _).drew.on hb3));clear hb3 hv x0 x1 x2 x3 x4 x5 x6 x7 a0 a1 a2 a3 a4 a5 a6 a7 b0 b1 b2 b3 b4 b5 b6 b7;go_wp2_with fail;go_ret;exact⟨rfl,HB3⟩
  case inr.inr.inr.inr.inr.inr.inl=>
   as_aux_lemma=>
    obtain⟨ub,uo,k1,s1,n1,p1,A1,c1,B1,d1,f1,r1,hA1,hub,en1,hk1,ha1,a0,a1,a2,a3,a4,a5,a6,a7⟩:=jI (h.bel hb1) (j:=0) (by decide);obtain⟨ub2,uo2,k2,s2,n2,p2,A2,c2,B2,d2,f2,r2,hA2,_,en2,hk2,ha2,b0,b1,b2,b3,b4,b5,b6,b7⟩:=jI (h.bel hb1) (j:=1) (by decide);rw[hA1]at hA2;simp only[Option.some.injEq,Addr.mk.injEq,and_true]at hA2;obtain⟨rfl,rfl⟩:=hA2;have hOwn:qe 7 s n kids arms=zm::zY::tk0 1 s 0::kwEq::(qe k1 s1 n1 f1 r1++[kwIn]++qe k2 s2 n2 f2 r2):=by
     show zm::zY::tk0 1 s 0::kwEq::kids.exK 0 [kwIn]=_;rw[ZX (by rw[<- HL.out]) en1 en2];rfl
    have hz2:=hz;rw[hOwn]at hz2;simp only[ZO,qc8,zJ,qd8,qhz,qk,qz,lA,lC,lNn]at hz2;obtain⟨u1,v1,t1,HE1⟩:=HKID.out _ hb1 0 (by decide) k1 s1 n1 p1 A1 c1 B1 d1 f1 r1 en1 hk1 ha1 (by omega);obtain⟨P1,hP1⟩:=nW (strS (qe k1 s1 n1 f1 r1));have hL1:32::P1.data.toList=sfx (qe k1 s1 n1 f1 r1):=by rw[hP1];exact qw u1
    have hz11:=zB hL1;have HC1:∀ W,Bel (w.alloc (.cells #[.int .u8 7,.string ⟨s.toArray⟩,n,p.a,p.l,p.c,.slice A 2 cap,.slice B bl bc] 28)) W->Calls Tryz.prog 30 #[.agg #[.int .u8 k1,.string ⟨s1.toArray⟩,n1,p1.a,p1.l,p1.c,.slice A1 f1.len c1,.slice B1 r1.len d1]] W (StR (.string P1) W):=by
     rw[hP1];exact fun W hW=>HE1 W hW
    obtain⟨u2,v2,t2,HE2⟩:=HKID.out _ hb1 1 (by decide) k2 s2 n2 p2 A2 c2 B2 d2 f2 r2 en2 hk2 ha2 (by omega);obtain⟨P2,hP2⟩:=nW (strS (qe k2 s2 n2 f2 r2));have hL2:32::P2.data.toList=sfx (qe k2 s2 n2 f2 r2):=by rw[hP2];exact qw u2
    have hz12:=zB hL2;have HC2:∀ W,Bel (w.alloc (.cells #[.int .u8 7,.string ⟨s.toArray⟩,n,p.a,p.l,p.c,.slice A 2 cap,.slice B bl bc] 28)) W->Calls Tryz.prog 30 #[.agg #[.int .u8 k2,.string ⟨s2.toArray⟩,n2,p2.a,p2.l,p2.c,.slice A2 f2.len c2,.slice B2 r2.len d2]] W (StR (.string P2) W):=by
     rw[hP2];exact fun W hW=>HE2 W hW
    have hSz:(⟨s.toArray⟩:BA).size=s.length:=by show s.toArray.size=_;simp
    have hTT:T=(⟨#[108,101,116,32,114,101,99,32]⟩:BA)++⟨s.toArray⟩++(⟨#[32,61,32]⟩:BA)++P1++(⟨#[32,105,110,32]⟩:BA)++P2:=by
     rw[HT.out];symm;apply jy;rw[hOwn];simp only[ZO,qc8,zJ,qd8,qhz,qk,qz,<- hL1,<- hL2,qj];simp
    obtain⟨SS,hSS⟩:=nW (⟨s.toArray⟩:BA);have hSz2:SS.size<=4000000:=by rw[hSS,hSz];omega
    rw[hA1]at q1 hb1 hub a0 a1 a2 a3 a4 a5 a6 a7 b0 b1 b2 b3 b4 b5 b6 b7 HC1 HC2 ⊢;simp only[Nat.zero_mul,Nat.one_mul,nZz,Nat.add_assoc,Nat.reduceAdd]at a0 a1 a2 a3 a4 a5 a6 a7 b0 b1 b2 b3 b4 b5 b6 b7;rw[<- hSS]at hTT q1 hb1 hub a0 a1 a2 a3 a4 a5 a6 a7 b0 b1 b2 b3 b4 b5 b6 b7 HC1 HC2 ⊢;subst hTT;have HQ:=hid q1;have HB1:=hid hb1;have HD1:=hid HC1;have HD2:=hid HC2;have HAA:=hid (And.intro a0 (And.intro a1 (And.intro a2 (And.intro a3 (And.intro a4 (And.intro a5 (And.intro a6 a7)))))));have HBB:=hid (And.intro b0 (And.intro b1 (And.intro b2 (And.intro b3 (And.intro b4 (And.intro b5 (And.intro b6 b7)))))));have HUB:=hid hub;have HYV:Hid (SS.size<=4000000/\P1.size<=4000000/\P2.size<=4000000):=hid (by omega);obtain⟨L1,hl1⟩:=nW f1.len;obtain⟨R1,hr1⟩:=nW r1.len;rw[<- hl1]at HAA HD1;rw[<- hr1]at HAA HD1;obtain⟨L2,hl2⟩:=nW f2.len;obtain⟨R2,hr2⟩:=nW r2.len;rw[<- hl2]at HBB HD2;rw[<- hr2]at HBB HD2;clear h hA hz hm hz2 hOwn hSz hSz2 hz11 hz12 hL2 hP2 u2 v2 t2 HE2 HC2 en2 hk2 ha2 hl2 hr2 hL1 hP1 u1 v1 t1 HE1 HC1 en1 hk1 ha1 hl1 hr1 hA1 hub HKID HARM HT hSS HSL a0 a1 a2 a3 a4 a5 a6 a7 b0 b1 b2 b3 b4 b5 b6 b7;obtain⟨x0,x1,x2,x3,x4,x5,x6,x7⟩:=box8 q1;clear q1 hb1;go_enter Tryz.func30,Tryz.ntmps30;go_wp2_with fail;obtain⟨a0,a1,a2,a3,a4,a5,a6,a7⟩:=HAA.out;obtain⟨b0,b1,b2,b3,b4,b5,b6,b7⟩:=HBB.out;refine qdY w.heap.size SS n p cap ub uo B bl bc k1 ⟨s1.toArray⟩ n1 p1 A1 L1 c1 B1 R1 d1 P1 k2 ⟨s2.toArray⟩ n2 p2 A2 L2 c2 B2 R2 d2 P2 _ (w.alloc (.cells #[.int .u8 7,SS,n,p.a,p.l,p.c,.slice (some ⟨ub,uo,none⟩) 2 cap,.slice B bl bc] 28)) HQ HUB HYV.1 HYV.2.1 HYV.2.2 a0 a1 a2 a3 a4 a5 a6 a7 b0 b1 b2 b3 b4 b5 b6 b7 (fun W hW=>HD1 W ((Bel.refl _).drew.on hW)) (fun W hW=>HD2 W ((Bel.refl _).drew.on hW)) _ ?_;intro V w3 hb3 hv;simp only[finP,zz,Nat.reduceAdd,jA,jB,jC,jD,jE,regX13,jF,jG,hv];have HB3:=hid (HB1.on ((Bel.refl _).drew.on hb3));clear hb3 hv x0 x1 x2 x3 x4 x5 x6 x7 a0 a1 a2 a3 a4 a5 a6 a7 b0 b1 b2 b3 b4 b5 b6 b7;go_wp2_with fail;go_ret;exact⟨rfl,HB3⟩
  case inr.inr.inr.inr.inr.inr.inr.inl=>
   as_aux_lemma=>
    have hbp:=qgU hm;obtain⟨ub,uo,k1,s1,n1,p1,A1,c1,B1,d1,f1,r1,hA1,hub,en1,hk1,ha1,a0,a1,a2,a3,a4,a5,a6,a7⟩:=jI (h.bel hb1) (j:=0) (by decide);have hOwn:sfx (qe 8 s n kids arms)=[32,99,97,115,101]++sfx (qe k1 s1 n1 f1 r1)++[32,111,102]++[32,123]++sfx (arms.exK 0 [])++[32,125]:=by
     rw[show qe 8 s n kids arms=jK::(kids.exK 0 []++[kwOf]++arms.exK 0 [jj]++[zH]) by simp[qe],qcM (by rw[<- HL.out]) en1,qgR hA.isArms (by rw[<- HM.out];exact hbp) [jj]];simp only[qi6,qz,qkz,qi7,qhy,qk,aNn,aAa];rfl
    have hne:qe 8 s n kids arms≠[]:=by simp[qe]
    have hTL0:32::T.data.toList=sfx (qe 8 s n kids arms):=by rw[HT.out];exact qw hne
    have hz2:=hz;rw[hOwn]at hz2 hTL0;simp only[lA,lC,lNn]at hz2;obtain⟨u1,v1,t1,HE1⟩:=HKID.out _ hb1 0 (by decide) k1 s1 n1 p1 A1 c1 B1 d1 f1 r1 en1 hk1 ha1 (by omega);obtain⟨P1,hP1⟩:=nW (strS (qe k1 s1 n1 f1 r1));have hL1:32::P1.data.toList=sfx (qe k1 s1 n1 f1 r1):=by rw[hP1];exact qw u1
    have hz1:=zB hL1;rw[<- hP1]at HE1;have HC1:=hid (HE1 _ (Bel.refl _));have hTz:T.size<=4000000:=by
     have h5:=zB (R:=T) (L:=sfx (qe 8 s n kids arms)) (by rw[hOwn];exact hTL0);omega
    have hTL:32::T.data.toList=32::((⟨#[99,97,115,101,32]⟩:BA)++P1++⟨#[32,111,102,32,123]⟩).data.toList++sfx ((arms.dropN 0).exK 0 (sepJ 0))++[32,125]:=by
     rw[hTL0,<- hL1,Tr.dropN_zero,qj,qj];simp[sepJ]
    have HTL:=hid hTL;have HTZ:=hid hTz;obtain⟨SS,hSS⟩:=nW (⟨s.toArray⟩:BA);rw[<- hSS]at q1 hb1 hub a0 a1 a2 a3 a4 a5 a6 a7 HC1 ⊢;rw[hA1]at q1 hb1 hub a0 a1 a2 a3 a4 a5 a6 a7 HC1 ⊢;simp only[Nat.zero_mul,nZz]at a0 a1 a2 a3 a4 a5 a6 a7;obtain⟨w1,hw1⟩:=nW (w.alloc (.cells #[.int .u8 8,SS,n,p.a,p.l,p.c,.slice (some ⟨ub,uo,none⟩) 1 cap,.slice B bl bc] 28));have HW1:=hid hw1;rw[<- hw1]at q1 hb1 hub a0 a1 a2 a3 a4 a5 a6 a7 HC1;have HQ:=hid q1;have HB1:=hid hb1;have hc1:¬ (9223372036854775807<5+P1.size):=by omega
    have hc2:¬ (9223372036854775807<5+P1.size+5):=by omega
    obtain⟨L1,hl1⟩:=nW f1.len;obtain⟨R1,hr1⟩:=nW r1.len;rw[<- hl1]at HC1 a6;rw[<- hr1]at HC1 a7;have HUB:=hid hub;clear h hA hm hz hz2 hTL hTL0 hTz hOwn hne q1 hb1 hw1 HF6 HKID u1 v1 t1 HE1 hP1 hL1 hz1 en1 hk1 ha1 hub hl1 hr1 hSS hA1 hbp;go_enter Tryz.func30,Tryz.ntmps30;go_upto_region 1 with fail
    rw[<- HW1.out];clear HW1;obtain⟨x0,x1,x2,x3,x4,x5,x6,x7⟩:=box8 HQ;go_wp2_with fail;refine HC1.out.mono ?_;rintro e w2 ⟨rfl,hb2⟩;have HB2:=hid hb2;clear hb2 x0 x1 x2 x3 x4 x5 x6 x7 a0 a1 a2 a3 a4 a5 a6 a7 HC1;go_wp2_with fail;go_loopw [3,4] (fun v i wr=>∃ (j:Nat) (S:BA),j<=bl/\i=.int .i64 (j:Int)/\v=.string S/\Hid (32::T.data.toList=32::S.data.toList++sfx ((arms.dropN j).exK 0 (sepJ j))++[32,125])/\Hid (Bel w1 wr)) (fun _ i _=>bl-(intOf i).toNat)
    case atStart=>exact⟨0,_,zL _,rfl,rfl,HTL,HB2⟩
    case round=>
     clear hc1 hc2;obtain⟨j,S,hj,rfl,rfl,HRJ,HB⟩:=hrel;have hbx:=HB.blk HQ;have HBX:=hid hbx;obtain⟨x0,x1,x2,x3,x4,x5,x6,x7⟩:=box8 hbx;clear hbx;by_cases hlt:j<bl
     ·obtain⟨ab,ao,k',s',n',p',A',c',kids',k2,s2,n2,p2,B',d',E',e',kx,ax,rfl,hub,en,hk',hx',ha',a0,a1,a2,a3,a4,a5,a6,a7,a8,a9,a10,a11,a12,a13,a14⟩:=qeo (HA.bel (HB1.on HB)) hlt
      have hrj:=HRJ.out;rw[qgQ _ en]at hrj;have hlen2:=congrArg List.length hrj;simp only[lA,lC,lNn,zD]at hlen2;have hSz:S.size<=4000000:=by have:=HTZ.out;omega
      obtain⟨hn',HP,HE⟩:=HARM.out wr (HB1.on HB) j hlt k' s' n' p' A' c' kids' k2 s2 n2 p2 B' d' E' e' kx ax en hk' hx' ha' (by have:=HTZ.out;omega) (by have:=HTZ.out;omega);obtain⟨P,hP⟩:=nW (strS (qr k' s' n' kids'.patK));obtain⟨Q,hQ⟩:=nW (strS (qe k2 s2 n2 kx ax));have hPL:32::P.data.toList=sfx (qr k' s' n' kids'.patK):=by rw[hP];exact Jw _ _ _ _
      have hQL:32::Q.data.toList=sfx (qe k2 s2 n2 kx ax):=by rw[hQ];exact qw hn'
      have hPz:P.size<=4000000:=by have:=zB hPL;have:=HTZ.out;omega
      have hQz:Q.size<=4000000:=by have:=zB hQL;have:=HTZ.out;omega
      rw[<- hP]at HP;rw[<- hQ]at HE;rw[<- hPL,<- hQL]at hrj;have HP2:=hid HP;have HE2:=hid HE;obtain⟨l1,hl1⟩:=nW kids'.len;obtain⟨l2,hl2⟩:=nW kx.len;obtain⟨l3,hl3⟩:=nW ax.len;rw[<- hl1]at HP2 a6;rw[<- hl2]at HE2 a13;rw[<- hl3]at HE2 a14;have HRK:=hid hrj;have i1:(0:Int)<=(j:Int):=by omega
      have i2:(j:Int)<(bl:Int):=by omega
      have HLT:=hid hlt;have HUB2:=hid hub;have HPQ:Hid (P.size<=4000000/\Q.size<=4000000/\S.size<=4000000):=hid ⟨hPz,hQz,hSz⟩;have hc1:¬ (9223372036854775807<S.size+2):=by omega
      clear hub en hk' hx' ha' hrj hlen2 hn' HP HE hP hPL hQ hQL hl1 hl2 hl3 hSz hPz hQz;rcases zPp j with hj0 | hj0
      ·have q0:decide ((0:Int)<(j:Int))=false:=dF (by omega)
       have q02:decide (0<j)=false:=dF (by omega);have HJ0:=hid hj0;clear hj0;go_wp2_with fail;refine qao w.heap.size SS n p (some ⟨ub,uo,none⟩) 1 cap bl bc ab ao j (S) k' ⟨s'.toArray⟩ n' p' A' l1 c' P k2 ⟨s2.toArray⟩ n2 p2 B' l2 d' E' l3 e' Q _ wr HBX i1 i2 HUB2 (by have:=HPQ.out;first | omega | (rw[ByteArray.size_append];show S.size+2<=8000000;omega)) HPQ.1 HPQ.2.1 a0 a1 a2 a3 a4 a5 a6 a7 a8 a9 a10 a11 a12 a13 a14 (fun W hW=>HP2 W ((Bel.refl _).drew.on hW)) (fun W hW=>HE2 W ((Bel.refl _).drew.on hW)) _ ?_
       intro V w3 hb3 hv;simp only[finP,zz,Nat.reduceAdd,jA,jB,jC,jD,jE,regX21,jF,jG,hv];have HB3:=hid (HB.on ((Bel.refl _).drew.on hb3));clear hb3 hv x0 x1 x2 x3 x4 x5 x6 x7 a0 a1 a2 a3 a4 a5 a6 a7 a8 a9 a10 a11 a12 a13 a14;go_wp2_with fail;go_roundw
       case measure=>exact mS HLT
       refine⟨j+1,_,HLT,by go_num,rfl,hid ?_,HB3⟩;rw[HRK.out,show sepJ j=[] by rw[HJ0.out];rfl,qk,qj,qj,qj,qj];simp
      ·have q0:decide ((0:Int)<(j:Int))=true:=dT (by omega)
       have q02:decide (0<j)=true:=dT hj0;have HJ0:=hid hj0;clear hj0;go_wp2_with fail;refine qao w.heap.size SS n p (some ⟨ub,uo,none⟩) 1 cap bl bc ab ao j (S++⟨#[32,59]⟩) k' ⟨s'.toArray⟩ n' p' A' l1 c' P k2 ⟨s2.toArray⟩ n2 p2 B' l2 d' E' l3 e' Q _ wr HBX i1 i2 HUB2 (by have:=HPQ.out;first | omega | (rw[ByteArray.size_append];show S.size+2<=8000000;omega)) HPQ.1 HPQ.2.1 a0 a1 a2 a3 a4 a5 a6 a7 a8 a9 a10 a11 a12 a13 a14 (fun W hW=>HP2 W ((Bel.refl _).drew.on hW)) (fun W hW=>HE2 W ((Bel.refl _).drew.on hW)) _ ?_
       intro V w3 hb3 hv;simp only[finP,zz,Nat.reduceAdd,jA,jB,jC,jD,jE,regX21,jF,jG,hv];have HB3:=hid (HB.on ((Bel.refl _).drew.on hb3));clear hb3 hv x0 x1 x2 x3 x4 x5 x6 x7 a0 a1 a2 a3 a4 a5 a6 a7 a8 a9 a10 a11 a12 a13 a14;go_wp2_with fail;go_roundw
       case measure=>exact mS HLT
       refine⟨j+1,_,HLT,by go_num,rfl,hid ?_,HB3⟩;rw[HRK.out,show sepJ j=[jq] by unfold sepJ;rw[if_neg (by have:=HJ0.out;omega)],qi8,qk,qj,qj,qj,qj,qj];simp
     ·obtain rfl:j=bl:=by omega
      have hfin:T=S++⟨#[32,125]⟩:=by
       have h5:=HRJ.out;rw[Tr.dropN_all arms j (by rw[HM.out];exact lR _)]at h5;have h6:T.data.toList=(S++⟨#[32,125]⟩:BA).data.toList:=by
        rw[qj];have h7:(32::T.data.toList)=32::(S.data.toList++[32,125]):=by rw[h5];simp[Tr.exK,qk]
        injection h7
       cases T;simp only[Array.toList_inj]at h6;rw[h6]
      have hc3:¬ (9223372036854775807<S.size+2):=by
       have h8:=HTZ.out;rw[hfin,ByteArray.size_append]at h8;omega
      subst hfin;go_wp2_with fail;go_ret;exact⟨rfl,HB1.on HB⟩
  case inr.inr.inr.inr.inr.inr.inr.inr.inl=>
   as_aux_lemma=>
    have hOwn:qe 9 s n kids arms=tk0 2 s n::kids.exK 2 []:=rfl;have hTL:32::T.data.toList=32::s++sfx (kids.exK 2 []):=by rw[HT.out,hOwn,Zz,ZU (by decide) (by decide)]
    have hTz:T.size<=4000000:=by
     have h5:=zB (R:=T) hTL;have h6:=hz;rw[hOwn,ZU (by decide) (by decide)]at h6;omega
    have HTL:=hid hTL;have HTZ:=hid hTz;obtain⟨w1,hw1⟩:=nW (w.alloc (.cells #[.int .u8 9,.string ⟨s.toArray⟩,n,p.a,p.l,p.c,.slice A len cap,.slice B bl bc] 28));have HW1:=hid hw1;rw[<- hw1]at q1 hb1;have HQ:=hid q1;have HB1:=hid hb1;clear HF6;clear h hA hm hz hTL hTz hOwn hq q1 hb1 hw1 HARM;go_enter Tryz.func30,Tryz.ntmps30;go_upto_region 1 with fail
    rw[<- HW1.out];clear HW1;obtain⟨x0,x1,x2,x3,x4,x5,x6,x7⟩:=box8 HQ;go_wp2_with fail;clear x0 x1 x2 x3 x4 x5 x6 x7;go_loopw [5,6] (fun v i wr=>∃ (j:Nat) (S:BA),j<=len/\i=.int .i64 (j:Int)/\v=.string S/\Hid (32::T.data.toList=32::S.data.toList++sfx ((kids.dropN j).exK 2 []))/\Hid (Bel w1 wr)) (fun _ i _=>len-(intOf i).toNat)
    case atStart=>exact⟨0,⟨s.toArray⟩,zL _,rfl,rfl,hid (by rw[Tr.dropN_zero];exact HTL),hid (Bel.refl _)⟩
    case round=>
     obtain⟨j,S,hj,rfl,rfl,HRJ,HB⟩:=hrel;obtain⟨x0,x1,x2,x3,x4,x5,x6,x7⟩:=box8 (HB.blk HQ);by_cases hlt:j<len
     ·obtain⟨ub,uo,k',s',n',p',A',c',B',d',kids',ar',rfl,hub,en,hk',ha',a0,a1,a2,a3,a4,a5,a6,a7⟩:=jI (H.bel (HB1.on HB)) hlt
      have hpk:sfx ((kids.dropN j).exK 2 [])=sfx (brkL (alnE k' kids'.len) (qe k' s' n' kids' ar'))++sfx ((kids.dropN (j+1)).exK 2 []):=by
       rw[Tr.dropN_nod kids j en,zk,aNn,qz];rfl
      have hrj:=HRJ.out;rw[hpk]at hrj;have hlen2:=congrArg List.length hrj;simp only[lA,lC,zD]at hlen2;have hSz:S.size<=4000000:=by have:=HTZ.out;omega
      have hle:=zf (alnE k' kids'.len) (qe k' s' n' kids' ar');have hOz:(sfx (qe k' s' n' kids' ar')).length<=4000000:=by have:=HTZ.out;omega
      obtain⟨hn',hv',hl',HE⟩:=HKID.out wr (HB1.on HB) j hlt k' s' n' p' A' c' B' d' kids' ar' en hk' ha' hOz;have HC:=jM k' ⟨s'.toArray⟩ n' p' A' kids'.len c' B' ar'.len d' false (alnE k' kids'.len) (qe k' s' n' kids' ar') wr hn' hOz (Js hv') hl' HE;obtain⟨P,hP⟩:=nW (strS (brkL (alnE k' kids'.len) (qe k' s' n' kids' ar')));have hPL:32::P.data.toList=sfx (brkL (alnE k' kids'.len) (qe k' s' n' kids' ar')):=by rw[hP];exact qw (zs hn')
      have hPz:P.size<=4000000:=by have:=zB hPL;have:=HTZ.out;omega
      rw[<- hP]at HC;rw[<- hPL]at hrj;have HC2:=hid HC;obtain⟨l1,hl1⟩:=nW kids'.len;obtain⟨l2,hl2⟩:=nW ar'.len;rw[<- hl1]at HC2 a6;rw[<- hl2]at HC2 a7;have HRK:=hid hrj;have i1:(0:Int)<=(j:Int):=by omega
      have i2:(j:Int)<(len:Int):=by omega
      have HLT:=hid hlt;have hc1:¬ (9223372036854775807<S.size+1):=by omega
      have hc2:¬ (9223372036854775807<S.size+1+P.size):=by omega
      clear hub en hk' ha' hpk hrj hlen2 hle hOz hn' hv' hl' HE HC hP hPL hl1 hl2 hSz hPz;go_wp2_with fail;refine HC2.out.mono ?_;rintro e w3 ⟨rfl,hb3⟩;have HB3:=hid (HB.on hb3);clear hb3 a0 a1 a2 a3 a4 a5 a6 a7 x0 x1 x2 x3 x4 x5 x6 x7 HC2;go_wp2_with fail;go_roundw
      case rel=>
       refine⟨j+1,S++⟨#[32]⟩++P,HLT,by go_num,rfl,hid ?_,HB3⟩;rw[HRK.out,qj,qj];simp
      case measure=>exact mS HLT
     ·obtain rfl:j=len:=by omega
      have hfin:S=T:=by
       have h5:=HRJ.out;rw[Tr.dropN_all kids j (by rw[HL.out];exact lR _)]at h5;have h6:T.data.toList=S.data.toList:=by
        have h7:(32::T.data.toList)=32::S.data.toList:=by rw[h5];exact aNn _
        injection h7
       cases S;cases T;simp only[Array.toList_inj]at h6;simp only[ByteArray.mk.injEq];exact h6.symm
      subst hfin;go_wp2_with fail;go_ret;exact⟨rfl,HB1.on HB⟩
  case inr.inr.inr.inr.inr.inr.inr.inr.inr.inl=>
   as_aux_lemma=>
    obtain⟨ub,uo,k1,s1,n1,p1,A1,c1,B1,d1,f1,r1,hA1,hub,en1,hk1,ha1,a0,a1,a2,a3,a4,a5,a6,a7⟩:=jI (h.bel hb1) (j:=0) (by decide);obtain⟨ub2,uo2,k2,s2,n2,p2,A2,c2,B2,d2,f2,r2,hA2,_,en2,hk2,ha2,b0,b1,b2,b3,b4,b5,b6,b7⟩:=jI (h.bel hb1) (j:=1) (by decide);rw[hA1]at hA2;simp only[Option.some.injEq,Addr.mk.injEq,and_true]at hA2;obtain⟨rfl,rfl⟩:=hA2;have hOwn:qe 10 s n kids arms=brkL (alnE k1 f1.len) (qe k1 s1 n1 f1 r1)++[tk0 5 s n]++brkL (alnE k2 f2.len) (qe k2 s2 n2 f2 r2):=by
     rw[show qe 10 s n kids arms=kids.exK 2 [tk0 5 s n] by simp[qe,exR,hb],ZX (by rw[<- HL.out]) en1 en2];rfl
    have hz2:=hz;rw[hOwn]at hz2;simp only[qbL,qk,qz,lA,lC,lNn]at hz2;obtain⟨u1,v1,t1,HE1⟩:=HKID.out _ hb1 0 (by decide) k1 s1 n1 p1 A1 c1 B1 d1 f1 r1 en1 hk1 ha1 (by have:=zf (alnE k1 f1.len) (qe k1 s1 n1 f1 r1);omega);obtain⟨P1,hP1⟩:=nW (strS (brkL (alnE k1 f1.len) (qe k1 s1 n1 f1 r1)));have hL1:32::P1.data.toList=sfx (brkL (alnE k1 f1.len) (qe k1 s1 n1 f1 r1)):=by rw[hP1];exact qw (zs u1)
    have hz11:=zB hL1;have HC1:∀ W,Bel (w.alloc (.cells #[.int .u8 10,.string ⟨s.toArray⟩,n,p.a,p.l,p.c,.slice A 2 cap,.slice B bl bc] 28)) W->Calls Tryz.prog 80 #[.agg #[.int .u8 k1,.string ⟨s1.toArray⟩,n1,p1.a,p1.l,p1.c,.slice A1 f1.len c1,.slice B1 r1.len d1],.bool false] W (StR (.string P1) W):=by
     rw[hP1];exact fun W hW=>jM k1 ⟨s1.toArray⟩ n1 p1 A1 f1.len c1 B1 r1.len d1 false (alnE k1 f1.len) (qe k1 s1 n1 f1 r1) W u1 (by have:=zf (alnE k1 f1.len) (qe k1 s1 n1 f1 r1);omega) (Js v1) t1 fun W2 hW2=>HE1 W2 (hW.on hW2)
    obtain⟨u2,v2,t2,HE2⟩:=HKID.out _ hb1 1 (by decide) k2 s2 n2 p2 A2 c2 B2 d2 f2 r2 en2 hk2 ha2 (by have:=zf (alnE k2 f2.len) (qe k2 s2 n2 f2 r2);omega);obtain⟨P2,hP2⟩:=nW (strS (brkL (alnE k2 f2.len) (qe k2 s2 n2 f2 r2)));have hL2:32::P2.data.toList=sfx (brkL (alnE k2 f2.len) (qe k2 s2 n2 f2 r2)):=by rw[hP2];exact qw (zs u2)
    have hz12:=zB hL2;have HC2:∀ W,Bel (w.alloc (.cells #[.int .u8 10,.string ⟨s.toArray⟩,n,p.a,p.l,p.c,.slice A 2 cap,.slice B bl bc] 28)) W->Calls Tryz.prog 80 #[.agg #[.int .u8 k2,.string ⟨s2.toArray⟩,n2,p2.a,p2.l,p2.c,.slice A2 f2.len c2,.slice B2 r2.len d2],.bool false] W (StR (.string P2) W):=by
     rw[hP2];exact fun W hW=>jM k2 ⟨s2.toArray⟩ n2 p2 A2 f2.len c2 B2 r2.len d2 false (alnE k2 f2.len) (qe k2 s2 n2 f2 r2) W u2 (by have:=zf (alnE k2 f2.len) (qe k2 s2 n2 f2 r2);omega) (Js v2) t2 fun W2 hW2=>HE2 W2 (hW.on hW2)
    have hSz:(⟨s.toArray⟩:BA).size=s.length:=by show s.toArray.size=_;simp
    have hTT:T=P1++(⟨#[32]⟩:BA)++⟨s.toArray⟩++(⟨#[32]⟩:BA)++P2:=by
     rw[HT.out];symm;apply jy;rw[hOwn];simp only[qbL,qk,qz,<- hL1,<- hL2,qj];simp
    obtain⟨SS,hSS⟩:=nW (⟨s.toArray⟩:BA);have hSz2:SS.size<=4000000:=by rw[hSS,hSz];omega
    rw[hA1]at q1 hb1 hub a0 a1 a2 a3 a4 a5 a6 a7 b0 b1 b2 b3 b4 b5 b6 b7 HC1 HC2 ⊢;simp only[Nat.zero_mul,Nat.one_mul,nZz,Nat.add_assoc,Nat.reduceAdd]at a0 a1 a2 a3 a4 a5 a6 a7 b0 b1 b2 b3 b4 b5 b6 b7;rw[<- hSS]at hTT q1 hb1 hub a0 a1 a2 a3 a4 a5 a6 a7 b0 b1 b2 b3 b4 b5 b6 b7 HC1 HC2 ⊢;rw[<- hSS,hb]at HF6;subst hTT;have HQ:=hid q1;have HB1:=hid hb1;have HD1:=hid HC1;have HD2:=hid HC2;have HAA:=hid (And.intro a0 (And.intro a1 (And.intro a2 (And.intro a3 (And.intro a4 (And.intro a5 (And.intro a6 a7)))))));have HBB:=hid (And.intro b0 (And.intro b1 (And.intro b2 (And.intro b3 (And.intro b4 (And.intro b5 (And.intro b6 b7)))))));have HUB:=hid hub;have HYV:Hid (SS.size<=4000000/\P1.size<=4000000/\P2.size<=4000000):=hid (by omega);obtain⟨L1,hl1⟩:=nW f1.len;obtain⟨R1,hr1⟩:=nW r1.len;rw[<- hl1]at HAA HD1;rw[<- hr1]at HAA HD1;obtain⟨L2,hl2⟩:=nW f2.len;obtain⟨R2,hr2⟩:=nW r2.len;rw[<- hl2]at HBB HD2;rw[<- hr2]at HBB HD2;clear h hA hz hm hz2 hOwn hSz hSz2 hz11 hz12 hL2 hP2 u2 v2 t2 HE2 HC2 en2 hk2 ha2 hl2 hr2 hL1 hP1 u1 v1 t1 HE1 HC1 en1 hk1 ha1 hl1 hr1 hA1 hub HKID HARM HT hSS HSL a0 a1 a2 a3 a4 a5 a6 a7 b0 b1 b2 b3 b4 b5 b6 b7;obtain⟨x0,x1,x2,x3,x4,x5,x6,x7⟩:=box8 q1;clear q1 hb1;go_enter Tryz.func30,Tryz.ntmps30;go_upto_region 24 with (go_at_call 75;refine (HF6 _).mono ?_;rintro e w2 ⟨rfl,hb2⟩)
    have HB2:=hid hb2;clear hb2 x0 x1 x2 x3 x4 x5 x6 x7;obtain⟨y0,y1,y2,y3,y4,y5,y6,y7⟩:=box8 (HB2.blk HQ);obtain⟨a0,a1,a2,a3,a4,a5,a6,a7⟩:=HAA.out;obtain⟨b0,b1,b2,b3,b4,b5,b6,b7⟩:=HBB.out;refine qdZ w.heap.size SS n p cap ub uo B bl bc k1 ⟨s1.toArray⟩ n1 p1 A1 L1 c1 B1 R1 d1 P1 k2 ⟨s2.toArray⟩ n2 p2 A2 L2 c2 B2 R2 d2 P2 _ w2 (HB2.blk HQ) (lT HUB HB2.size) HYV.1 HYV.2.1 HYV.2.2 ((HB2.cells.1 _ _ HUB).trans a0) ((HB2.cells.1 _ _ HUB).trans a1) ((HB2.cells.1 _ _ HUB).trans a2) ((HB2.cells.1 _ _ HUB).trans a3) ((HB2.cells.1 _ _ HUB).trans a4) ((HB2.cells.1 _ _ HUB).trans a5) ((HB2.cells.1 _ _ HUB).trans a6) ((HB2.cells.1 _ _ HUB).trans a7) ((HB2.cells.1 _ _ HUB).trans b0) ((HB2.cells.1 _ _ HUB).trans b1) ((HB2.cells.1 _ _ HUB).trans b2) ((HB2.cells.1 _ _ HUB).trans b3) ((HB2.cells.1 _ _ HUB).trans b4) ((HB2.cells.1 _ _ HUB).trans b5) ((HB2.cells.1 _ _ HUB).trans b6) ((HB2.cells.1 _ _ HUB).trans b7) (fun W hW=>HD1 W (HB2.on ((Bel.refl _).drew.on hW))) (fun W hW=>HD2 W (HB2.on ((Bel.refl _).drew.on hW))) _ ?_;intro V w3 hb3 hv;simp only[finP,zz,Nat.reduceAdd,jA,jB,jC,jD,jE,regX24,jF,jG,hv];have HB3:=hid ((HB1.on HB2).on ((Bel.refl _).drew.on hb3));clear hb3 hv y0 y1 y2 y3 y4 y5 y6 y7 a0 a1 a2 a3 a4 a5 a6 a7 b0 b1 b2 b3 b4 b5 b6 b7;go_wp2_with fail;go_ret;exact⟨rfl,HB3⟩
  case inr.inr.inr.inr.inr.inr.inr.inr.inr.inr=>
   as_aux_lemma=>
    have hOwn:qe 10 s n kids arms=tk0 6 s n::kids.exK 2 []:=by simp[qe,exR,hb]
    have hTL:32::T.data.toList=32::s++sfx (kids.exK 2 []):=by rw[HT.out,hOwn,Zz,ZU (by decide) (by decide)]
    have hTz:T.size<=4000000:=by
     have h5:=zB (R:=T) hTL;have h6:=hz;rw[hOwn,ZU (by decide) (by decide)]at h6;omega
    have HTL:=hid hTL;have HTZ:=hid hTz;obtain⟨w1,hw1⟩:=nW (w.alloc (.cells #[.int .u8 10,.string ⟨s.toArray⟩,n,p.a,p.l,p.c,.slice A len cap,.slice B bl bc] 28));have HW1:=hid hw1;rw[<- hw1]at q1 hb1;have HQ:=hid q1;have HB1:=hid hb1;rw[hb]at HF6;clear h hA hm hz hTL hTz hOwn hq q1 hb1 hw1 HARM;go_enter Tryz.func30,Tryz.ntmps30;go_upto_region 1 with fail
    rw[<- HW1.out];clear HW1;obtain⟨x0,x1,x2,x3,x4,x5,x6,x7⟩:=box8 HQ;go_upto_region 25 with (go_at_call 75;refine (HF6 _).mono ?_;rintro e w2 ⟨rfl,hb2⟩)
    have HB2:=hid hb2;clear hb2 x0 x1 x2 x3 x4 x5 x6 x7;obtain⟨x0,x1,x2,x3,x4,x5,x6,x7⟩:=box8 (HB2.blk HQ);go_wp2_with fail;clear x0 x1 x2 x3 x4 x5 x6 x7;go_loopw [5,6] (fun v i wr=>∃ (j:Nat) (S:BA),j<=len/\i=.int .i64 (j:Int)/\v=.string S/\Hid (32::T.data.toList=32::S.data.toList++sfx ((kids.dropN j).exK 2 []))/\Hid (Bel w1 wr)) (fun _ i _=>len-(intOf i).toNat)
    case atStart=>exact⟨0,⟨s.toArray⟩,zL _,rfl,rfl,hid (by rw[Tr.dropN_zero];exact HTL),HB2⟩
    case round=>
     obtain⟨j,S,hj,rfl,rfl,HRJ,HB⟩:=hrel;obtain⟨x0,x1,x2,x3,x4,x5,x6,x7⟩:=box8 (HB.blk HQ);by_cases hlt:j<len
     ·obtain⟨ub,uo,k',s',n',p',A',c',B',d',kids',ar',rfl,hub,en,hk',ha',a0,a1,a2,a3,a4,a5,a6,a7⟩:=jI (H.bel (HB1.on HB)) hlt
      have hpk:sfx ((kids.dropN j).exK 2 [])=sfx (brkL (alnE k' kids'.len) (qe k' s' n' kids' ar'))++sfx ((kids.dropN (j+1)).exK 2 []):=by
       rw[Tr.dropN_nod kids j en,zk,aNn,qz];rfl
      have hrj:=HRJ.out;rw[hpk]at hrj;have hlen2:=congrArg List.length hrj;simp only[lA,lC,zD]at hlen2;have hSz:S.size<=4000000:=by have:=HTZ.out;omega
      have hle:=zf (alnE k' kids'.len) (qe k' s' n' kids' ar');have hOz:(sfx (qe k' s' n' kids' ar')).length<=4000000:=by have:=HTZ.out;omega
      obtain⟨hn',hv',hl',HE⟩:=HKID.out wr (HB1.on HB) j hlt k' s' n' p' A' c' B' d' kids' ar' en hk' ha' hOz;have HC:=jM k' ⟨s'.toArray⟩ n' p' A' kids'.len c' B' ar'.len d' false (alnE k' kids'.len) (qe k' s' n' kids' ar') wr hn' hOz (Js hv') hl' HE;obtain⟨P,hP⟩:=nW (strS (brkL (alnE k' kids'.len) (qe k' s' n' kids' ar')));have hPL:32::P.data.toList=sfx (brkL (alnE k' kids'.len) (qe k' s' n' kids' ar')):=by rw[hP];exact qw (zs hn')
      have hPz:P.size<=4000000:=by have:=zB hPL;have:=HTZ.out;omega
      rw[<- hP]at HC;rw[<- hPL]at hrj;have HC2:=hid HC;obtain⟨l1,hl1⟩:=nW kids'.len;obtain⟨l2,hl2⟩:=nW ar'.len;rw[<- hl1]at HC2 a6;rw[<- hl2]at HC2 a7;have HRK:=hid hrj;have i1:(0:Int)<=(j:Int):=by omega
      have i2:(j:Int)<(len:Int):=by omega
      have HLT:=hid hlt;have hc1:¬ (9223372036854775807<S.size+1):=by omega
      have hc2:¬ (9223372036854775807<S.size+1+P.size):=by omega
      clear hub en hk' ha' hpk hrj hlen2 hle hOz hn' hv' hl' HE HC hP hPL hl1 hl2 hSz hPz;go_wp2_with fail;refine HC2.out.mono ?_;rintro e w3 ⟨rfl,hb3⟩;have HB3:=hid (HB.on hb3);clear hb3 a0 a1 a2 a3 a4 a5 a6 a7 x0 x1 x2 x3 x4 x5 x6 x7 HC2;go_wp2_with fail;go_roundw
      case rel=>
       refine⟨j+1,S++⟨#[32]⟩++P,HLT,by go_num,rfl,hid ?_,HB3⟩;rw[HRK.out,qj,qj];simp
      case measure=>exact mS HLT
     ·obtain rfl:j=len:=by omega
      have hfin:S=T:=by
       have h5:=HRJ.out;rw[Tr.dropN_all kids j (by rw[HL.out];exact lR _)]at h5;have h6:T.data.toList=S.data.toList:=by
        have h7:(32::T.data.toList)=32::S.data.toList:=by rw[h5];exact aNn _
        injection h7
       cases S;cases T;simp only[Array.toList_inj]at h6;simp only[ByteArray.mk.injEq];exact h6.symm
      subst hfin;go_wp2_with fail;go_ret;exact⟨rfl,HB1.on HB⟩
noncomputable def fdMR (f:Fd):Bool:=mltB f.m&&f.tr.mayP hTf
noncomputable def cdMR (c:Cd):Bool:=mtB (2,c.nm,0)&&c.fs.all fdMR
noncomputable def dcMR (x:Dc):Bool:=if x.kd=2 then mtB (1,x.nm,0)&&decide (x.ps.length=0)&&decide (x.cs.length=0)&&x.tr.mayE hEf hPf else decide (x.kd=1)&&mtB (2,x.nm,0) && !x.rc&&x.tr.same JY&&decide (0<x.cs.length)&&x.ps.all (fun s=>mtB (1,s,0))&&x.cs.all cdMR
theorem qeY{f:Fd}(hb:f.tr.bare):fdMay f=(fdMR f&&decide (f.tr.depth<=60)):=by
 unfold fdMay fdMR;rw[Tr.pre_mayP hTf f.tr 60 0 hb];unfold zE;rw[Bool.and_assoc];congr 2;apply dDd.2;rw[qeI];omega
theorem qaw(f:Fd)(fs:List Fd):(tysL (f::fs)).depth=max f.tr.depth (tysL fs).depth:=by
 simp only[tysL,Fd.tr,Tr.depth];omega
theorem qhR:∀ fs:List Fd,(∀ f∈fs,f.tr.bare)->fs.all fdMay=(fs.all fdMR&&decide ((tysL fs).depth<=60))
 | [],_=>by simp[tysL,Tr.depth]
 | f::fs,h=>by
  rw[List.all_cons,List.all_cons,qeY (h f (List.mem_cons_self ..)),qhR fs fun g hg=>h g (mCc _ hg),qaw,Bool.eq_iff_iff];simp only[bA,pE];constructor
  ·rintro⟨⟨a,b⟩,c,d⟩;exact⟨⟨a,c⟩,by omega⟩
  ·rintro⟨⟨a,c⟩,d⟩;exact⟨⟨a,by omega⟩,c,by omega⟩
theorem qhM:∀ cs:List Cd,(∀ c∈cs,∀ f∈c.fs,f.tr.bare)->cs.all cdMay=(cs.all cdMR&&decide ((tysL (qy cs)).depth<=60))
 | [],_=>by simp[qy,tysL,Tr.depth]
 | c::cs,h=>by
  have h1:=qhR c.fs (h c (List.mem_cons_self ..));have h2:=qhM cs fun d hd=>h d (mCc _ hd);have h3:(tysL (qy (c::cs))).depth=max (tysL c.fs).depth (tysL (qy cs)).depth:=by
   show (tysL (c.fs++qy cs)).depth=_;rw[j0];induction c.fs with
   | nil=>simp[tysL,Tr.app,Tr.depth]
   | cons f fs ih=>
    have e:∀ g,((tysL (f::fs)).app g).depth=max f.tr.depth ((tysL fs).app g).depth:=fun g=>by
     simp only[tysL,Tr.app,Fd.tr,Tr.depth];omega
    rw[e,ih,qaw];omega
  rw[List.all_cons,List.all_cons,h2,h3,Bool.eq_iff_iff];unfold cdMay cdMR;rw[h1];simp only[bA,pE];constructor
  ·rintro⟨⟨⟨a,b⟩,c⟩,d,e⟩;exact⟨⟨⟨c,a⟩,d⟩,by omega⟩
  ·rintro⟨⟨⟨c,a⟩,d⟩,e⟩;exact⟨⟨⟨a,by omega⟩,c⟩,d,by omega⟩
theorem qeH{x:Dc}(hm:x.mok):dcMay x=(dcMR x&&decide (ju x.kd x.tr x.cs<=60)):=by
 unfold dcMay dcMR ju;by_cases h1:x.kd=1
 ·rw[if_pos h1,if_neg (by omega),if_neg (by omega),if_pos h1]
  unfold daMay;rw[qhM x.cs hm.2,Bool.eq_iff_iff];simp only[bA,pE,Bool.not_eq_true'];constructor
  ·rintro⟨⟨⟨⟨⟨a,b,c⟩,d⟩,e⟩,f⟩,g⟩;exact⟨⟨⟨⟨⟨⟨⟨h1,d⟩,f⟩,g⟩,e⟩,a⟩,b⟩,c⟩
  ·rintro⟨⟨⟨⟨⟨⟨⟨_,d⟩,f⟩,g⟩,e⟩,a⟩,b⟩,c⟩;exact⟨⟨⟨⟨⟨a,b,c⟩,d⟩,e⟩,f⟩,g⟩
 rw[if_neg h1];by_cases h2:x.kd=2
 ·rw[if_pos h2,if_pos h2,if_pos h2,(Tr.pre_mayE hEf hPf x.tr 60 0 hm.1.2.1 hm.1.2.2).1 hm.1.1]
  unfold zE;rw[<- Bool.and_assoc];congr 1;apply dDd.2;rw[qeI];omega
 ·rw[if_neg h2,if_neg h2]
  simp[h1]
theorem qcP:∀ fs:List Fd,(∀ f∈fs,f.ints)->(sfx (fdsK fs)).length<=206*sumW Fd.wt fs
 | [],_=>zL _
 | f::fs,h=>by
  have h1:=qa2 f.tr [] (h f (List.mem_cons_self ..));have h2:=qcP fs fun g hg=>h g (mCc _ hg);have e:f.tr.tyK []=brkL (alnT f.k f.kids.len) (qv f.k f.s f.n f.kids):=by
   show (Tr.nod f.k f.s f.n f.p f.kids .nil .nil).tyK []=_;rw[jz];simp[Tr.tyK]
  rw[e,qk]at h1;show (sfx (zg f.m::brkL (alnT f.k f.kids.len) (qv f.k f.s f.n f.kids)++fdsK fs)).length<=206*(f.wt+sumW Fd.wt fs);rw[cAa];have h3:=qhv f.m (brkL (alnT f.k f.kids.len) (qv f.k f.s f.n f.kids)++fdsK fs);rw[zq]at h3;have h4:1<=f.wt:=by show 1<=(Tr.nod f.k f.s f.n f.p f.kids .nil .nil).wt;simp only[Tr.wt];omega
  have h5:f.tr.wt=f.wt:=rfl;rw[h5]at h1;simp only[lNn]at h1;omega
theorem qba:∀ (cs:List Cd) (ah:List UInt8),ah.length<=5->(∀ c∈cs,∀ f∈c.fs,f.ints)->(sfx (jH ah cs)).length<=206*sumW Cd.wt cs
 | [],_,_,_=>zL _
 | c::cs,ah,hah,h=>by
  have h1:=qcP c.fs (h c (List.mem_cons_self ..));have h2:=qba cs [124] (by decide) fun d hd=>h d (mCc _ hd);show (sfx (tk0 5 ah 0::tk0 2 c.nm 0::fdsK c.fs++jH [124] cs)).length<=206*(c.wt+sumW Cd.wt cs);have h3:=ZS (t:=tk0 5 ah 0) (by show (putB 5 ah 0).length<=5;rw[qaV (by decide) (by decide)];exact hah) (tk0 2 c.nm 0::(fdsK c.fs++jH [124] cs));have h4:=jZ (k:=2) (s:=c.nm) (n:=0) (by decide) (fdsK c.fs++jH [124] cs);rw[zq]at h4;rw[cAa,cAa];have h5:c.wt=1+c.nm.length / 64+sumW Fd.wt c.fs:=rfl;omega
theorem qfo:∀ ps:List LU,(sfx (psK ps)).length<=200*(ps.length+sumW (fun s=>s.length / 64) ps)
 | []=>zL _
 | s::ps=>by
  have h1:=qfo ps;have h2:=jZ (k:=1) (s:=s) (n:=0) (by decide) (psK ps);show (sfx (tk0 1 s 0::psK ps)).length<=200*((s::ps).length+(s.length / 64+sumW (fun s=>s.length / 64) ps));rw[lC];omega
theorem qeG{x:Dc}(h:x.ints):(sfx (dcK x)).length<=206*x.wt:=by
 obtain⟨h1,h2,h3,h4⟩:=h;have hw:x.wt=1+x.nm.length / 64+x.ps.length+x.tr.wt+sumW (fun s=>s.length / 64) x.ps+sumW Cd.wt x.cs:=rfl;have ht:1<=x.tr.wt:=by show 1<=(Tr.nod x.k x.s x.n x.ep x.kids x.arms .nil).wt;simp only[Tr.wt];omega
 unfold dcK;split
 ·unfold J2
  have a1:=qfo x.ps;have a2:=qba x.cs [61] (by decide) fun c hc=>(h3 c hc).2;have a3:=ZS (t:=tk0 5 [100,97,116,97] 0) (by decide) (tk0 2 x.nm 0::(psK x.ps++jH [61] x.cs));have a4:=jZ (k:=2) (s:=x.nm) (n:=0) (by decide) (psK x.ps++jH [61] x.cs);rw[zq]at a4;rw[cAa,cAa];omega
 ·have a1:=jg x.tr 0 [] h4
  have e4:x.tr.exK 0 []=qe x.k x.s x.n x.kids x.arms:=jh x.k x.s x.n x.ep x.kids x.arms;rw[e4,qk]at a1;have a2:(sfx (zm::(if x.rc then [zY] else []))).length<=12:=by
   split <;> decide
  have a3:=jZ (k:=1) (s:=x.nm) (n:=0) (by decide) [kwEq];have a4:(sfx [kwEq]).length=2:=by decide
  rw[zq,zq];simp only[lNn]at a1;omega
theorem qeO:∀ xs:List Dc,(∀ x∈xs,x.ints)->(sfx (dsK xs)).length<=206*sumW Dc.wt xs
 | [],_=>zL _
 | x::xs,h=>by
  have h1:=qeG (h x (List.mem_cons_self ..));have h2:=qeO xs fun y hy=>h y (mCc _ hy);show (sfx (dcK x++dsK xs)).length<=206*(x.wt+sumW Dc.wt xs);rw[zq];omega
def qjv:List Cd->List Tn
 | []=>[]
 | c::cs=>tk0 2 c.nm 0::fdsK c.fs++jH [124] cs
theorem qig{cs:List Cd}(h:0<cs.length)(ah:List UInt8):jH ah cs=tk0 5 ah 0::qjv cs:=by
 cases cs with
 | nil=>cases h
 | cons c cs=>rfl
def jR(cs:List Cd)(j:Nat):List Tn:=if j=0 then qjv cs else jH [124] (cs.drop j)
theorem qdx{cs:List Cd}{j:Nat}{c:Cd}(h:cs[j]?=some c):jR cs j=(if j=0 then [] else [tk0 5 [124] 0])++tk0 2 c.nm 0::fdsK c.fs++jR cs (j+1):=by
 unfold jR;rw[if_neg (Nat.succ_ne_zero j)];by_cases hj:j=0
 ·subst hj
  rw[if_pos rfl,if_pos rfl];cases cs with
  | nil=>cases h
  | cons d ds=>
   simp only[List.getElem?_cons_zero,Option.some.injEq]at h;subst h;rfl
 ·rw[if_neg hj,if_neg hj,qad h]
  rfl
theorem qeE(cs:List Cd){j:Nat}(h:cs.length<=j)(hc:0<cs.length):jR cs j=[]:=by
 unfold jR;rw[if_neg (by omega),dNn h];rfl
theorem zW{w:World}{g:Nat}{t:TypeId}{x0 x1 x2 x3 x4 x5 x6 x7 x8 x9 x10 x11 x12 x13 x14 x15:Value}(h:w.heap[g]?=some (.cells #[x0,x1,x2,x3,x4,x5,x6,x7,x8,x9,x10,x11,x12,x13,x14,x15] t (0,0))) :
  w.cell? ⟨g,0,none⟩=some x0/\w.cell? ⟨g,1,none⟩=some x1/\w.cell? ⟨g,5,none⟩=some x5/\w.cell? ⟨g,6,none⟩=some x6/\w.cell? ⟨g,7,none⟩=some x7/\w.cell? ⟨g,8,none⟩=some x8/\w.cell? ⟨g,9,none⟩=some x9/\w.cell? ⟨g,10,none⟩=some x10/\w.cell? ⟨g,11,none⟩=some x11/\w.cell? ⟨g,12,none⟩=some x12/\w.cell? ⟨g,13,none⟩=some x13/\w.cell? ⟨g,14,none⟩=some x14/\w.cell? ⟨g,15,none⟩=some x15:=by
 simp[World.cell?,h]
theorem ZW{α:Type}{f:α->Bool}{xs:List α}{j:Nat}{x:α}(h:xs[j]?=some x):(xs.drop j).all f=(f x&&(xs.drop (j+1)).all f):=by
 obtain⟨h1,h2⟩:=eJ.1 h;rw[List.drop_eq_getElem_cons h1,h2,List.all_cons]
theorem qck{α:Type}(g:α->Nat){xs:List α}{x:α}(h:x∈xs):g x<=sumW g xs:=by
 induction xs with
 | nil=>cases h
 | cons y ys ih=>
  have e:sumW g (y::ys)=g y+sumW g ys:=rfl;rcases List.mem_cons.1 h with rfl | h
  ·omega
  ·have:=ih h
   omega
end Go.Proofs.YtmloadclmjcbbaaGreatDoor.Mu
