import Derived.Test.YtlmmaoobembadaaGreatDoorPae
namespace Go.Proofs.YtlmmaoobembadaaGreatDoor.Mu
set_option maxHeartbeats 8000000
open Go Go.RowKit Go.Shelf
attribute [local go_sem] Oper.semAt_some
set_option linter.unusedVariables false
def regXt:List Oper:=[
 ⟨some 70,.fieldAddr 32 (.tmp 2) 5,0,"ref.go:20",#[],none⟩,
 ⟨some 71,.load 30 (.tmp 70),30,"ref.go:20",#[⟨0,.data⟩],none⟩,
 ⟨some 72,.move (.tmp 6),3,"ref.go:20",#[],none⟩,
 ⟨some 73,.indexAddr 30 (.tmp 71) (.tmp 72),0,"ref.go:20",#[⟨1,.data⟩,⟨2,.data⟩],none⟩,
 ⟨some 74,.fieldAddr 80 (.tmp 73) 0,0,"ref.go:20",#[⟨3,.data⟩],none⟩,
 ⟨some 75,.load 78 (.tmp 74),78,"ref.go:20",#[⟨4,.data⟩],none⟩,
 ⟨some 76,.fieldAddr 32 (.tmp 3) 5,0,"ref.go:20",#[],none⟩,
 ⟨some 77,.load 30 (.tmp 76),30,"ref.go:20",#[⟨6,.data⟩],none⟩,
 ⟨some 78,.move (.tmp 6),3,"ref.go:20",#[],none⟩,
 ⟨some 79,.indexAddr 30 (.tmp 77) (.tmp 78),0,"ref.go:20",#[⟨7,.data⟩,⟨8,.data⟩],none⟩,
 ⟨some 80,.fieldAddr 80 (.tmp 79) 0,0,"ref.go:20",#[⟨9,.data⟩],none⟩,
 ⟨some 81,.load 78 (.tmp 80),78,"ref.go:20",#[⟨10,.data⟩],none⟩,
 ⟨some 82,.call ⟨.value (.func 39),#[.tmp 75,.tmp 81],#[78,78]⟩,4,"ref.go:20",#[⟨5,.data⟩,⟨11,.data⟩],none⟩,
 ⟨some 83,.unOp UnOp.not 4 (.tmp 82),4,"ref.go:20",#[⟨12,.data⟩],none⟩,
 ⟨some 84,.move (.tmp 83),4,"ref.go:20",#[⟨13,.data⟩,⟨12,.chain⟩],none⟩,
 ⟨some 85,.fieldAddr 32 (.tmp 2) 5,0,"ref.go:20",#[⟨14,.guard⟩],some (14,false)⟩,
 ⟨some 86,.load 30 (.tmp 85),30,"ref.go:20",#[⟨15,.data⟩,⟨14,.guard⟩],some (14,false)⟩,
 ⟨some 87,.move (.tmp 6),3,"ref.go:20",#[⟨14,.guard⟩],some (14,false)⟩,
 ⟨some 88,.indexAddr 30 (.tmp 86) (.tmp 87),0,"ref.go:20",#[⟨16,.data⟩,⟨17,.data⟩,⟨14,.guard⟩],some (14,false)⟩,
 ⟨some 89,.fieldAddr 80 (.tmp 88) 1,0,"ref.go:20",#[⟨18,.data⟩,⟨14,.guard⟩],some (14,false)⟩,
 ⟨some 90,.load 32 (.tmp 89),32,"ref.go:20",#[⟨19,.data⟩,⟨14,.guard⟩],some (14,false)⟩,
 ⟨some 91,.fieldAddr 32 (.tmp 3) 5,0,"ref.go:20",#[⟨14,.guard⟩],some (14,false)⟩,
 ⟨some 92,.load 30 (.tmp 91),30,"ref.go:20",#[⟨21,.data⟩,⟨14,.guard⟩],some (14,false)⟩,
 ⟨some 93,.move (.tmp 6),3,"ref.go:20",#[⟨14,.guard⟩],some (14,false)⟩,
 ⟨some 94,.indexAddr 30 (.tmp 92) (.tmp 93),0,"ref.go:20",#[⟨22,.data⟩,⟨23,.data⟩,⟨14,.guard⟩],some (14,false)⟩,
 ⟨some 95,.fieldAddr 80 (.tmp 94) 1,0,"ref.go:20",#[⟨24,.data⟩,⟨14,.guard⟩],some (14,false)⟩,
 ⟨some 96,.load 32 (.tmp 95),32,"ref.go:20",#[⟨25,.data⟩,⟨14,.guard⟩],some (14,false)⟩,
 ⟨some 97,.call ⟨.value (.func 12),#[.tmp 90,.tmp 96],#[32,32]⟩,4,"ref.go:20",#[⟨20,.data⟩,⟨26,.data⟩,⟨14,.chain⟩,⟨14,.guard⟩],some (14,false)⟩,
 ⟨some 98,.unOp UnOp.not 4 (.tmp 97),4,"ref.go:20",#[⟨27,.data⟩,⟨14,.guard⟩],some (14,false)⟩,
 ⟨some 99,.pick (.tmp 84) (.const (Value.bool true)) (.tmp 98),4,"ref.go:20",#[⟨14,.data⟩,⟨28,.data⟩],none⟩]
def qeJ(bx yb b1 o1 b2 o2 m ca cb j:Nat)(k1 n1 x1 l1 c1 k2 n2 x2 l2 c2 K1 N1 U1 V1 W1 K2 N2 U2 V2 W2:Int)(t1 t2 T1 T2:ByteArray)(A1 A2 F1 F2 G1 G2:Option Addr)(m1 d1 m2 d2 M1 D1 M2 D2 R1 E1 R2 E2:Nat)(q:Bool)(i:Nat)(v:Value)(w:World):Prop:=
 match i with
 | 0=>v=.pointer (some ⟨bx,7,none⟩)
 | 1=>v=.slice (some ⟨b1,o1,none⟩) m ca
 | 2=>v=.int .i64 (j:Int)
 | 3=>v=.pointer (some ⟨b1,o1+j*15,none⟩)
 | 4=>v=.pointer (some ⟨b1,o1+j*15,none⟩)
 | 5=>v=.agg #[.int .u8 k1,t1,n1,x1,l1,c1,.slice A1 m1 d1]
 | 6=>v=.pointer (some ⟨yb,7,none⟩)
 | 7=>v=.slice (some ⟨b2,o2,none⟩) m cb
 | 8=>v=.int .i64 (j:Int)
 | 9=>v=.pointer (some ⟨b2,o2+j*15,none⟩)
 | 10=>v=.pointer (some ⟨b2,o2+j*15,none⟩)
 | 11=>v=.agg #[.int .u8 k2,t2,n2,x2,l2,c2,.slice A2 m2 d2]
 | 12=>v=.bool true
 | 13=>v=.bool false
 | 14=>v=.bool false
 | 15=>v=.pointer (some ⟨bx,7,none⟩)
 | 16=>v=.slice (some ⟨b1,o1,none⟩) m ca
 | 17=>v=.int .i64 (j:Int)
 | 18=>v=.pointer (some ⟨b1,o1+j*15,none⟩)
 | 19=>v=.pointer (some ⟨b1,o1+j*15+7,none⟩)
 | 20=>v=.agg #[.int .u8 K1,T1,N1,U1,V1,W1,.slice F1 M1 D1,.slice G1 R1 E1]
 | 21=>v=.pointer (some ⟨yb,7,none⟩)
 | 22=>v=.slice (some ⟨b2,o2,none⟩) m cb
 | 23=>v=.int .i64 (j:Int)
 | 24=>v=.pointer (some ⟨b2,o2+j*15,none⟩)
 | 25=>v=.pointer (some ⟨b2,o2+j*15+7,none⟩)
 | 26=>v=.agg #[.int .u8 K2,T2,N2,U2,V2,W2,.slice F2 M2 D2,.slice G2 R2 E2]
 | 27=>v=.bool q
 | 28=>v=.bool (!q)
 | _=>True
theorem qaU{bx yb b1 o1 b2 o2 m ca cb j:Nat}{k1 n1 x1 l1 c1 k2 n2 x2 l2 c2 K1 N1 U1 V1 W1 K2 N2 U2 V2 W2:Int}{t1 t2 T1 T2:ByteArray}{A1 A2 F1 F2 G1 G2:Option Addr}{m1 d1 m2 d2 M1 D1 M2 D2 R1 E1 R2 E2:Nat}{q:Bool}(i:Nat)(v:Value)(w w':World)(hi:i<29)(h:qeJ bx yb b1 o1 b2 o2 m ca cb j k1 n1 x1 l1 c1 k2 n2 x2 l2 c2 K1 N1 U1 V1 W1 K2 N2 U2 V2 W2 t1 t2 T1 T2 A1 A2 F1 F2 G1 G2 m1 d1 m2 d2 M1 D1 M2 D2 R1 E1 R2 E2 q i v w)(hb:Bel w w'):qeJ bx yb b1 o1 b2 o2 m ca cb j k1 n1 x1 l1 c1 k2 n2 x2 l2 c2 K1 N1 U1 V1 W1 K2 N2 U2 V2 W2 t1 t2 T1 T2 A1 A2 F1 F2 G1 G2 m1 d1 m2 d2 M1 D1 M2 D2 R1 E1 R2 E2 q i v w':=by
 match i,hi,h with
 | 0,_,h | 1,_,h | 2,_,h | 3,_,h | 4,_,h | 5,_,h | 6,_,h | 7,_,h | 8,_,h | 9,_,h | 10,_,h | 11,_,h | 12,_,h | 13,_,h | 14,_,h | 15,_,h | 16,_,h | 17,_,h | 18,_,h | 19,_,h | 20,_,h | 21,_,h | 22,_,h | 23,_,h | 24,_,h | 25,_,h | 26,_,h | 27,_,h | 28,_,h=>exact h
 | q+29,hi,_=>exact absurd hi (by omega)
def qia(bx yb b1 o1 b2 o2 m ca cb j:Nat)(k1 n1 x1 l1 c1 k2 n2 x2 l2 c2 K1 N1 U1 V1 W1 K2 N2 U2 V2 W2:Int)(t1 t2 T1 T2:ByteArray)(A1 A2 F1 F2 G1 G2:Option Addr)(m1 d1 m2 d2 M1 D1 M2 D2 R1 E1 R2 E2:Nat)(q:Bool)(s0 s1 s4 s5 s7 s8 s9 s10 s11 s12 s13 s14 s15 s16 s17 s18 s19 s20 s21 s22 s23 s24 s25 s26 s27 s28 s29 s30 s31 s32 s33 s34 s35 s36 s37 s38 s39 s40 s41 s42 s43 s44 s45 s46 s47 s48 s49 s50 s51 s52 s53 s54 s55 s56 s57 s58 s59 s60 s61 s62 s63 s64 s65 s66 s67 s68 s69 s70 s71 s72 s73 s74 s75 s76 s77 s78 s79 s80 s81 s82 s83 s84 s85 s86 s87 s88 s89 s90 s91 s92 s93 s94 s95 s96 s97 s98 s99:Value)(df:List Deferred):Act:={ tmps:=#[s0,s1,.pointer (some ⟨bx,0,none⟩),.pointer (some ⟨yb,0,none⟩),s4,s5,.int .i64 (j:Int),s7,s8,s9,s10,s11,s12,s13,s14,s15,s16,s17,s18,s19,s20,s21,s22,s23,s24,s25,s26,s27,s28,s29,s30,s31,s32,s33,s34,s35,s36,s37,s38,s39,s40,s41,s42,s43,s44,s45,s46,s47,s48,s49,s50,s51,s52,s53,s54,s55,s56,s57,s58,s59,s60,s61,s62,s63,s64,s65,s66,s67,s68,s69,s70,s71,s72,s73,s74,s75,s76,s77,s78,s79,s80,s81,s82,s83,s84,s85,s86,s87,s88,s89,s90,s91,s92,s93,s94,s95,s96,s97,s98,s99],defers:=df }
def qgG(bx yb b1 o1 b2 o2 m ca cb j:Nat)(k1 n1 x1 l1 c1 k2 n2 x2 l2 c2 K1 N1 U1 V1 W1 K2 N2 U2 V2 W2:Int)(t1 t2 T1 T2:ByteArray)(A1 A2 F1 F2 G1 G2:Option Addr)(m1 d1 m2 d2 M1 D1 M2 D2 R1 E1 R2 E2:Nat)(q:Bool)(s0 s1 s4 s5 s7 s8 s9 s10 s11 s12 s13 s14 s15 s16 s17 s18 s19 s20 s21 s22 s23 s24 s25 s26 s27 s28 s29 s30 s31 s32 s33 s34 s35 s36 s37 s38 s39 s40 s41 s42 s43 s44 s45 s46 s47 s48 s49 s50 s51 s52 s53 s54 s55 s56 s57 s58 s59 s60 s61 s62 s63 s64 s65 s66 s67 s68 s69 s70 s71 s72 s73 s74 s75 s76 s77 s78 s79 s80 s81 s82 s83 s84 s85 s86 s87 s88 s89 s90 s91 s92 s93 s94 s95 s96 s97 s98 s99:Value)(df:List Deferred)(V:Nat->Value):Act:={ tmps:=#[s0,s1,.pointer (some ⟨bx,0,none⟩),.pointer (some ⟨yb,0,none⟩),s4,s5,.int .i64 (j:Int),s7,s8,s9,s10,s11,s12,s13,s14,s15,s16,s17,s18,s19,s20,s21,s22,s23,s24,s25,s26,s27,s28,s29,s30,s31,s32,s33,s34,s35,s36,s37,s38,s39,s40,s41,s42,s43,s44,s45,s46,s47,s48,s49,s50,s51,s52,s53,s54,s55,s56,s57,s58,s59,s60,s61,s62,s63,s64,s65,s66,s67,s68,s69,V 0,V 1,V 2,V 3,V 4,V 5,V 6,V 7,V 8,V 9,V 10,V 11,V 12,V 13,V 14,V 15,V 16,V 17,V 18,V 19,V 20,V 21,V 22,V 23,V 24,V 25,V 26,V 27,V 28,s99],defers:=df }
theorem qcC:zn .any regXt.toArray 29=true:=by kernel_rfl
theorem qel:fwdB regXt.toArray 29=true:=by kernel_rfl
theorem qax:qL regXt.toArray 100=true:=by kernel_rfl
theorem qem:Region.seqB .any regXt.toArray (regXt.length-29) 29 (Array.replicate 29 true++Array.replicate (regXt.length-29) false)=true:=by kernel_rfl
set_option maxRecDepth 100000 in
theorem qek{id:Nat}(bx yb b1 o1 b2 o2 m ca cb j:Nat)(k1 n1 x1 l1 c1 k2 n2 x2 l2 c2 K1 N1 U1 V1 W1 K2 N2 U2 V2 W2:Int)(t1 t2 T1 T2:ByteArray)(A1 A2 F1 F2 G1 G2:Option Addr)(m1 d1 m2 d2 M1 D1 M2 D2 R1 E1 R2 E2:Nat)(q:Bool)(s0 s1 s4 s5 s7 s8 s9 s10 s11 s12 s13 s14 s15 s16 s17 s18 s19 s20 s21 s22 s23 s24 s25 s26 s27 s28 s29 s30 s31 s32 s33 s34 s35 s36 s37 s38 s39 s40 s41 s42 s43 s44 s45 s46 s47 s48 s49 s50 s51 s52 s53 s54 s55 s56 s57 s58 s59 s60 s61 s62 s63 s64 s65 s66 s67 s68 s69 s70 s71 s72 s73 s74 s75 s76 s77 s78 s79 s80 s81 s82 s83 s84 s85 s86 s87 s88 s89 s90 s91 s92 s93 s94 s95 s96 s97 s98 s99:Value)(df:List Deferred)(w:World)(i1:(0:Int)<=(j:Int))(i2:(j:Int)<(m:Int))(h1:b1<w.drew.heap.size)(h2:b2<w.drew.heap.size)(hx:bx<w.drew.heap.size)(hy:yb<w.drew.heap.size)(zx:w.drew.cell? ⟨bx,7,none⟩=some (.slice (some ⟨b1,o1,none⟩) m ca))(zy:w.drew.cell? ⟨yb,7,none⟩=some (.slice (some ⟨b2,o2,none⟩) m cb))(fa0:w.drew.cell? ⟨b1,o1+j*15,none⟩=some (.int .u8 k1))(fe0:w.drew.cell? ⟨b2,o2+j*15,none⟩=some (.int .u8 k2))(fa1:w.drew.cell? ⟨b1,o1+j*15+1,none⟩=some (.string t1))(fe1:w.drew.cell? ⟨b2,o2+j*15+1,none⟩=some (.string t2))(fa2:w.drew.cell? ⟨b1,o1+j*15+2,none⟩=some (.int .i64 n1))(fe2:w.drew.cell? ⟨b2,o2+j*15+2,none⟩=some (.int .i64 n2))(fa3:w.drew.cell? ⟨b1,o1+j*15+3,none⟩=some (.int .i64 x1))(fe3:w.drew.cell? ⟨b2,o2+j*15+3,none⟩=some (.int .i64 x2))(fa4:w.drew.cell? ⟨b1,o1+j*15+4,none⟩=some (.int .i64 l1))(fe4:w.drew.cell? ⟨b2,o2+j*15+4,none⟩=some (.int .i64 l2))(fa5:w.drew.cell? ⟨b1,o1+j*15+5,none⟩=some (.int .i64 c1))(fe5:w.drew.cell? ⟨b2,o2+j*15+5,none⟩=some (.int .i64 c2))(fa6:w.drew.cell? ⟨b1,o1+j*15+6,none⟩=some (.slice A1 m1 d1))(fe6:w.drew.cell? ⟨b2,o2+j*15+6,none⟩=some (.slice A2 m2 d2))(fa7:w.drew.cell? ⟨b1,o1+j*15+7,none⟩=some (.int .u8 K1))(fe7:w.drew.cell? ⟨b2,o2+j*15+7,none⟩=some (.int .u8 K2))(fa8:w.drew.cell? ⟨b1,o1+j*15+8,none⟩=some (.string T1))(fe8:w.drew.cell? ⟨b2,o2+j*15+8,none⟩=some (.string T2))(fa9:w.drew.cell? ⟨b1,o1+j*15+9,none⟩=some (.int .i64 N1))(fe9:w.drew.cell? ⟨b2,o2+j*15+9,none⟩=some (.int .i64 N2))(fa10:w.drew.cell? ⟨b1,o1+j*15+10,none⟩=some (.int .i64 U1))(fe10:w.drew.cell? ⟨b2,o2+j*15+10,none⟩=some (.int .i64 U2))(fa11:w.drew.cell? ⟨b1,o1+j*15+11,none⟩=some (.int .i64 V1))(fe11:w.drew.cell? ⟨b2,o2+j*15+11,none⟩=some (.int .i64 V2))(fa12:w.drew.cell? ⟨b1,o1+j*15+12,none⟩=some (.int .i64 W1))(fe12:w.drew.cell? ⟨b2,o2+j*15+12,none⟩=some (.int .i64 W2))(fa13:w.drew.cell? ⟨b1,o1+j*15+13,none⟩=some (.slice F1 M1 D1))(fe13:w.drew.cell? ⟨b2,o2+j*15+13,none⟩=some (.slice F2 M2 D2))(fa14:w.drew.cell? ⟨b1,o1+j*15+14,none⟩=some (.slice G1 R1 E1))(fe14:w.drew.cell? ⟨b2,o2+j*15+14,none⟩=some (.slice G2 R2 E2))(HP:∀ W,Bel w.drew W->Calls Tryz.prog 39 #[.agg #[.int .u8 k1,t1,n1,x1,l1,c1,.slice A1 m1 d1],.agg #[.int .u8 k2,t2,n2,x2,l2,c2,.slice A2 m2 d2]] W fun e w'=>e=.returned (.bool true)/\Bel W w')(HX:∀ W,Bel w.drew W->Calls Tryz.prog 12 #[.agg #[.int .u8 K1,T1,N1,U1,V1,W1,.slice F1 M1 D1,.slice G1 R1 E1],.agg #[.int .u8 K2,T2,N2,U2,V2,W2,.slice F2 M2 D2,.slice G2 R2 E2]] W fun e w'=>e=.returned (.bool q)/\Bel W w')(Q:Exit->Act->World->Prop)
  (hend:∀ (V:Nat->Value) (w':World),Bel w.drew w'->((V 14)=.bool false)->((V 28)=.bool (!q))->wpList Tryz.prog regXt.toArray Q (regXt.drop 29) (qgG bx yb b1 o1 b2 o2 m ca cb j k1 n1 x1 l1 c1 k2 n2 x2 l2 c2 K1 N1 U1 V1 W1 K2 N2 U2 V2 W2 t1 t2 T1 T2 A1 A2 F1 F2 G1 G2 m1 d1 m2 d2 M1 D1 M2 D2 R1 E1 R2 E2 q s0 s1 s4 s5 s7 s8 s9 s10 s11 s12 s13 s14 s15 s16 s17 s18 s19 s20 s21 s22 s23 s24 s25 s26 s27 s28 s29 s30 s31 s32 s33 s34 s35 s36 s37 s38 s39 s40 s41 s42 s43 s44 s45 s46 s47 s48 s49 s50 s51 s52 s53 s54 s55 s56 s57 s58 s59 s60 s61 s62 s63 s64 s65 s66 s67 s68 s69 s70 s71 s72 s73 s74 s75 s76 s77 s78 s79 s80 s81 s82 s83 s84 s85 s86 s87 s88 s89 s90 s91 s92 s93 s94 s95 s96 s97 s98 s99 df V) w') :
  (Code.region id regXt.toArray true).wp Tryz.prog Q (qia bx yb b1 o1 b2 o2 m ca cb j k1 n1 x1 l1 c1 k2 n2 x2 l2 c2 K1 N1 U1 V1 W1 K2 N2 U2 V2 W2 t1 t2 T1 T2 A1 A2 F1 F2 G1 G2 m1 d1 m2 d2 M1 D1 M2 D2 R1 E1 R2 E2 q s0 s1 s4 s5 s7 s8 s9 s10 s11 s12 s13 s14 s15 s16 s17 s18 s19 s20 s21 s22 s23 s24 s25 s26 s27 s28 s29 s30 s31 s32 s33 s34 s35 s36 s37 s38 s39 s40 s41 s42 s43 s44 s45 s46 s47 s48 s49 s50 s51 s52 s53 s54 s55 s56 s57 s58 s59 s60 s61 s62 s63 s64 s65 s66 s67 s68 s69 s70 s71 s72 s73 s74 s75 s76 s77 s78 s79 s80 s81 s82 s83 s84 s85 s86 s87 s88 s89 s90 s91 s92 s93 s94 s95 s96 s97 s98 s99 df) w:=by
 refine qk (l:=regXt) 29 _ w (qeJ bx yb b1 o1 b2 o2 m ca cb j k1 n1 x1 l1 c1 k2 n2 x2 l2 c2 K1 N1 U1 V1 W1 K2 N2 U2 V2 W2 t1 t2 T1 T2 A1 A2 F1 F2 G1 G2 m1 d1 m2 d2 M1 D1 M2 D2 R1 E1 R2 E2 q) (by kernel_rfl) qcC qel qax qem (fun i v w w' hi h hb=>qaU i v w w' hi h hb) ?_ ?_
 ·intro i' o hi' ho a w1 V hbel hdep hpar K hK
  have p2:a.eval (.tmp 2)=.pointer (some ⟨bx,0,none⟩):=hpar 2 (by show 2<100;decide) (by kernel_rfl);have p2':=tD p2;have p3:a.eval (.tmp 3)=.pointer (some ⟨yb,0,none⟩):=hpar 3 (by show 3<100;decide) (by kernel_rfl);have p3':=tD p3;have p6:a.eval (.tmp 6)=.int .i64 (j:Int):=hpar 6 (by show 6<100;decide) (by kernel_rfl);have p6':=tD p6;have ga0:=gX hbel h1 fa0;have ga1:=gX hbel h1 fa1;have ga2:=gX hbel h1 fa2;have ga3:=gX hbel h1 fa3;have ga4:=gX hbel h1 fa4;have ga5:=gX hbel h1 fa5;have ga6:=gX hbel h1 fa6;have ga7:=gX hbel h1 fa7;have ga8:=gX hbel h1 fa8;have ga9:=gX hbel h1 fa9;have ga10:=gX hbel h1 fa10;have ga11:=gX hbel h1 fa11;have ga12:=gX hbel h1 fa12;have ga13:=gX hbel h1 fa13;have ga14:=gX hbel h1 fa14;have gb0:=gX hbel h2 fe0;have gb1:=gX hbel h2 fe1;have gb2:=gX hbel h2 fe2;have gb3:=gX hbel h2 fe3;have gb4:=gX hbel h2 fe4;have gb5:=gX hbel h2 fe5;have gb6:=gX hbel h2 fe6;have gb7:=gX hbel h2 fe7;have gb8:=gX hbel h2 fe8;have gb9:=gX hbel h2 fe9;have gb10:=gX hbel h2 fe10;have gb11:=gX hbel h2 fe11;have gb12:=gX hbel h2 fe12;have gb13:=gX hbel h2 fe13;have gb14:=gX hbel h2 fe14;have zx':=gX hbel hx zx;have zy':=gX hbel hy zy;match i',hi',ho,hdep,hK with
  | 0,_,ho,hdep,hK=>
   simp only[regXt,gT,gZ,gI]at ho;subst ho;exact nG rfl (wV (by simp[execOp,go_sem,p2']) hK rfl)
  | 1,_,ho,hdep,hK=>
   simp only[regXt,gT,gZ,gS,gI]at ho;subst ho;refine nG rfl ?_;have e0':=tK (t:=70) (hdep ⟨0,.data⟩ (by simp) rfl) rfl;exact wV (by simp[execOp,go_sem,e0',zx']) hK rfl
  | 2,_,ho,hdep,hK=>
   simp only[regXt,gT,gZ,gS,gI]at ho;subst ho;exact nG rfl (wV (by simp[execOp,go_sem,p6']) hK rfl)
  | 3,_,ho,hdep,hK=>
   simp only[regXt,gT,gZ,gS,gI]at ho;subst ho;refine nG rfl ?_;have e1':=tK (t:=71) (hdep ⟨1,.data⟩ (by simp) rfl) rfl;have e2':=tK (t:=72) (hdep ⟨2,.data⟩ (by simp) rfl) rfl;exact wV (by simp[execOp,go_sem,e1',e2',i1,i2]) hK rfl
  | 4,_,ho,hdep,hK=>
   simp only[regXt,gT,gZ,gS,gI]at ho;subst ho;refine nG rfl ?_;have e3':=tK (t:=73) (hdep ⟨3,.data⟩ (by simp) rfl) rfl;exact wV (by simp[execOp,go_sem,e3']) hK rfl
  | 5,_,ho,hdep,hK=>
   simp only[regXt,gT,gZ,gS,gI]at ho;subst ho;refine nG rfl ?_;have e4':=tK (t:=74) (hdep ⟨4,.data⟩ (by simp) rfl) rfl;exact wV (by simp[execOp,go_sem,e4',ga0,ga1,ga2,ga3,ga4,ga5,ga6]) hK rfl
  | 6,_,ho,hdep,hK=>
   simp only[regXt,gT,gZ,gS,gI]at ho;subst ho;exact nG rfl (wV (by simp[execOp,go_sem,p3']) hK rfl)
  | 7,_,ho,hdep,hK=>
   simp only[regXt,gT,gZ,gS,gI]at ho;subst ho;refine nG rfl ?_;have e6':=tK (t:=76) (hdep ⟨6,.data⟩ (by simp) rfl) rfl;exact wV (by simp[execOp,go_sem,e6',zy']) hK rfl
  | 8,_,ho,hdep,hK=>
   simp only[regXt,gT,gZ,gS,gI]at ho;subst ho;exact nG rfl (wV (by simp[execOp,go_sem,p6']) hK rfl)
  | 9,_,ho,hdep,hK=>
   simp only[regXt,gT,gZ,gS,gI]at ho;subst ho;refine nG rfl ?_;have e7':=tK (t:=77) (hdep ⟨7,.data⟩ (by simp) rfl) rfl;have e8':=tK (t:=78) (hdep ⟨8,.data⟩ (by simp) rfl) rfl;exact wV (by simp[execOp,go_sem,e7',e8',i1,i2]) hK rfl
  | 10,_,ho,hdep,hK=>
   simp only[regXt,gT,gZ,gS,gI]at ho;subst ho;refine nG rfl ?_;have e9':=tK (t:=79) (hdep ⟨9,.data⟩ (by simp) rfl) rfl;exact wV (by simp[execOp,go_sem,e9']) hK rfl
  | 11,_,ho,hdep,hK=>
   simp only[regXt,gT,gZ,gS,gI]at ho;subst ho;refine nG rfl ?_;have e10':=tK (t:=80) (hdep ⟨10,.data⟩ (by simp) rfl) rfl;exact wV (by simp[execOp,go_sem,e10',gb0,gb1,gb2,gb3,gb4,gb5,gb6]) hK rfl
  | 12,_,ho,hdep,hK=>
   simp only[regXt,gT,gZ,gS,gI]at ho;subst ho;refine nG rfl ?_;have e5':=tK (t:=75) (hdep ⟨5,.data⟩ (by simp) rfl) rfl;have e11':=tK (t:=81) (hdep ⟨11,.data⟩ (by simp) rfl) rfl;refine qg (f:=39) (args:=#[.agg #[.int .u8 k1,t1,n1,x1,l1,c1,.slice A1 m1 d1],.agg #[.int .u8 k2,t2,n2,x2,l2,c2,.slice A2 m2 d2]]) (by simp[go_sem,e5',e11']) ((HP w1 hbel).mono ?_);rintro e w' ⟨rfl,hb⟩;exact⟨_,rfl,hK _ _ hb rfl⟩
  | 13,_,ho,hdep,hK=>
   simp only[regXt,gT,gZ,gS,gI]at ho;subst ho;refine nG rfl ?_;have e12':=tK (t:=82) (hdep ⟨12,.data⟩ (by simp) rfl) rfl;exact wV (by simp[execOp,go_sem,e12']) hK rfl
  | 14,_,ho,hdep,hK=>
   simp only[regXt,gT,gZ,gS,gI]at ho;subst ho;refine nG rfl ?_;have e13':=tK (t:=83) (hdep ⟨13,.data⟩ (by simp) rfl) rfl;exact wV (by simp[execOp,go_sem,e13']) hK rfl
  | 15,_,ho,hdep,hK=>
   simp only[regXt,gT,gZ,gS,gI]at ho;subst ho;obtain⟨fg,dg⟩:=hdep ⟨14,.guard⟩ (by simp) rfl;have eg:a.tmps.getD 84 undef=.bool false:=(dg 84 rfl).trans fg;refine⟨fun _=>?_,fun hw=>(yw_f (d:=84) rfl rfl eg hw).elim⟩;exact wV (by simp[execOp,go_sem,p2']) hK rfl
  | 16,_,ho,hdep,hK=>
   simp only[regXt,gT,gZ,gS,gI]at ho;subst ho;obtain⟨fg,dg⟩:=hdep ⟨14,.guard⟩ (by simp) rfl;have eg:a.tmps.getD 84 undef=.bool false:=(dg 84 rfl).trans fg;refine⟨fun _=>?_,fun hw=>(yw_f (d:=84) rfl rfl eg hw).elim⟩;have e15':=tK (t:=85) (hdep ⟨15,.data⟩ (by simp) rfl) rfl;exact wV (by simp[execOp,go_sem,e15',zx']) hK rfl
  | 17,_,ho,hdep,hK=>
   simp only[regXt,gT,gZ,gS,gI]at ho;subst ho;obtain⟨fg,dg⟩:=hdep ⟨14,.guard⟩ (by simp) rfl;have eg:a.tmps.getD 84 undef=.bool false:=(dg 84 rfl).trans fg;refine⟨fun _=>?_,fun hw=>(yw_f (d:=84) rfl rfl eg hw).elim⟩;exact wV (by simp[execOp,go_sem,p6']) hK rfl
  | 18,_,ho,hdep,hK=>
   simp only[regXt,gT,gZ,gS,gI]at ho;subst ho;obtain⟨fg,dg⟩:=hdep ⟨14,.guard⟩ (by simp) rfl;have eg:a.tmps.getD 84 undef=.bool false:=(dg 84 rfl).trans fg;refine⟨fun _=>?_,fun hw=>(yw_f (d:=84) rfl rfl eg hw).elim⟩;have e16':=tK (t:=86) (hdep ⟨16,.data⟩ (by simp) rfl) rfl;have e17':=tK (t:=87) (hdep ⟨17,.data⟩ (by simp) rfl) rfl;exact wV (by simp[execOp,go_sem,e16',e17',i1,i2]) hK rfl
  | 19,_,ho,hdep,hK=>
   simp only[regXt,gT,gZ,gS,gI]at ho;subst ho;obtain⟨fg,dg⟩:=hdep ⟨14,.guard⟩ (by simp) rfl;have eg:a.tmps.getD 84 undef=.bool false:=(dg 84 rfl).trans fg;refine⟨fun _=>?_,fun hw=>(yw_f (d:=84) rfl rfl eg hw).elim⟩;have e18':=tK (t:=88) (hdep ⟨18,.data⟩ (by simp) rfl) rfl;exact wV (by simp[execOp,go_sem,e18']) hK rfl
  | 20,_,ho,hdep,hK=>
   simp only[regXt,gT,gZ,gS,gI]at ho;subst ho;obtain⟨fg,dg⟩:=hdep ⟨14,.guard⟩ (by simp) rfl;have eg:a.tmps.getD 84 undef=.bool false:=(dg 84 rfl).trans fg;refine⟨fun _=>?_,fun hw=>(yw_f (d:=84) rfl rfl eg hw).elim⟩;have e19':=tK (t:=89) (hdep ⟨19,.data⟩ (by simp) rfl) rfl;exact wV (by simp[execOp,go_sem,e19',ga7,ga8,ga9,ga10,ga11,ga12,ga13,ga14]) hK rfl
  | 21,_,ho,hdep,hK=>
   simp only[regXt,gT,gZ,gS,gI]at ho;subst ho;obtain⟨fg,dg⟩:=hdep ⟨14,.guard⟩ (by simp) rfl;have eg:a.tmps.getD 84 undef=.bool false:=(dg 84 rfl).trans fg;refine⟨fun _=>?_,fun hw=>(yw_f (d:=84) rfl rfl eg hw).elim⟩;exact wV (by simp[execOp,go_sem,p3']) hK rfl
  | 22,_,ho,hdep,hK=>
   simp only[regXt,gT,gZ,gS,gI]at ho;subst ho;obtain⟨fg,dg⟩:=hdep ⟨14,.guard⟩ (by simp) rfl;have eg:a.tmps.getD 84 undef=.bool false:=(dg 84 rfl).trans fg;refine⟨fun _=>?_,fun hw=>(yw_f (d:=84) rfl rfl eg hw).elim⟩;have e21':=tK (t:=91) (hdep ⟨21,.data⟩ (by simp) rfl) rfl;exact wV (by simp[execOp,go_sem,e21',zy']) hK rfl
  | 23,_,ho,hdep,hK=>
   simp only[regXt,gT,gZ,gS,gI]at ho;subst ho;obtain⟨fg,dg⟩:=hdep ⟨14,.guard⟩ (by simp) rfl;have eg:a.tmps.getD 84 undef=.bool false:=(dg 84 rfl).trans fg;refine⟨fun _=>?_,fun hw=>(yw_f (d:=84) rfl rfl eg hw).elim⟩;exact wV (by simp[execOp,go_sem,p6']) hK rfl
  | 24,_,ho,hdep,hK=>
   simp only[regXt,gT,gZ,gS,gI]at ho;subst ho;obtain⟨fg,dg⟩:=hdep ⟨14,.guard⟩ (by simp) rfl;have eg:a.tmps.getD 84 undef=.bool false:=(dg 84 rfl).trans fg;refine⟨fun _=>?_,fun hw=>(yw_f (d:=84) rfl rfl eg hw).elim⟩;have e22':=tK (t:=92) (hdep ⟨22,.data⟩ (by simp) rfl) rfl;have e23':=tK (t:=93) (hdep ⟨23,.data⟩ (by simp) rfl) rfl;exact wV (by simp[execOp,go_sem,e22',e23',i1,i2]) hK rfl
  | 25,_,ho,hdep,hK=>
   simp only[regXt,gT,gZ,gS,gI]at ho;subst ho;obtain⟨fg,dg⟩:=hdep ⟨14,.guard⟩ (by simp) rfl;have eg:a.tmps.getD 84 undef=.bool false:=(dg 84 rfl).trans fg;refine⟨fun _=>?_,fun hw=>(yw_f (d:=84) rfl rfl eg hw).elim⟩;have e24':=tK (t:=94) (hdep ⟨24,.data⟩ (by simp) rfl) rfl;exact wV (by simp[execOp,go_sem,e24']) hK rfl
  | 26,_,ho,hdep,hK=>
   simp only[regXt,gT,gZ,gS,gI]at ho;subst ho;obtain⟨fg,dg⟩:=hdep ⟨14,.guard⟩ (by simp) rfl;have eg:a.tmps.getD 84 undef=.bool false:=(dg 84 rfl).trans fg;refine⟨fun _=>?_,fun hw=>(yw_f (d:=84) rfl rfl eg hw).elim⟩;have e25':=tK (t:=95) (hdep ⟨25,.data⟩ (by simp) rfl) rfl;exact wV (by simp[execOp,go_sem,e25',gb7,gb8,gb9,gb10,gb11,gb12,gb13,gb14]) hK rfl
  | 27,_,ho,hdep,hK=>
   simp only[regXt,gT,gZ,gS,gI]at ho;subst ho;obtain⟨fg,dg⟩:=hdep ⟨14,.guard⟩ (by simp) rfl;have eg:a.tmps.getD 84 undef=.bool false:=(dg 84 rfl).trans fg;refine⟨fun _=>?_,fun hw=>(yw_f (d:=84) rfl rfl eg hw).elim⟩;have e20':=tK (t:=90) (hdep ⟨20,.data⟩ (by simp) rfl) rfl;have e26':=tK (t:=96) (hdep ⟨26,.data⟩ (by simp) rfl) rfl;refine qg (f:=12) (args:=#[.agg #[.int .u8 K1,T1,N1,U1,V1,W1,.slice F1 M1 D1,.slice G1 R1 E1],.agg #[.int .u8 K2,T2,N2,U2,V2,W2,.slice F2 M2 D2,.slice G2 R2 E2]]) (by simp[go_sem,e20',e26']) ((HX w1 hbel).mono ?_);rintro e w' ⟨rfl,hb⟩;exact⟨_,rfl,hK _ _ hb rfl⟩
  | 28,_,ho,hdep,hK=>
   simp only[regXt,gT,gZ,gS,gI]at ho;subst ho;obtain⟨fg,dg⟩:=hdep ⟨14,.guard⟩ (by simp) rfl;have eg:a.tmps.getD 84 undef=.bool false:=(dg 84 rfl).trans fg;refine⟨fun _=>?_,fun hw=>(yw_f (d:=84) rfl rfl eg hw).elim⟩;have e27':=tK (t:=97) (hdep ⟨27,.data⟩ (by simp) rfl) rfl;exact wV (by simp[execOp,go_sem,e27']) hK rfl
  | q+29,hi,_,_,_=>exact absurd hi (by omega)
 ·intro V w' hb hF
  have e:finA regXt.toArray 29 V (qia bx yb b1 o1 b2 o2 m ca cb j k1 n1 x1 l1 c1 k2 n2 x2 l2 c2 K1 N1 U1 V1 W1 K2 N2 U2 V2 W2 t1 t2 T1 T2 A1 A2 F1 F2 G1 G2 m1 d1 m2 d2 M1 D1 M2 D2 R1 E1 R2 E2 q s0 s1 s4 s5 s7 s8 s9 s10 s11 s12 s13 s14 s15 s16 s17 s18 s19 s20 s21 s22 s23 s24 s25 s26 s27 s28 s29 s30 s31 s32 s33 s34 s35 s36 s37 s38 s39 s40 s41 s42 s43 s44 s45 s46 s47 s48 s49 s50 s51 s52 s53 s54 s55 s56 s57 s58 s59 s60 s61 s62 s63 s64 s65 s66 s67 s68 s69 s70 s71 s72 s73 s74 s75 s76 s77 s78 s79 s80 s81 s82 s83 s84 s85 s86 s87 s88 s89 s90 s91 s92 s93 s94 s95 s96 s97 s98 s99 df)=qgG bx yb b1 o1 b2 o2 m ca cb j k1 n1 x1 l1 c1 k2 n2 x2 l2 c2 K1 N1 U1 V1 W1 K2 N2 U2 V2 W2 t1 t2 T1 T2 A1 A2 F1 F2 G1 G2 m1 d1 m2 d2 M1 D1 M2 D2 R1 E1 R2 E2 q s0 s1 s4 s5 s7 s8 s9 s10 s11 s12 s13 s14 s15 s16 s17 s18 s19 s20 s21 s22 s23 s24 s25 s26 s27 s28 s29 s30 s31 s32 s33 s34 s35 s36 s37 s38 s39 s40 s41 s42 s43 s44 s45 s46 s47 s48 s49 s50 s51 s52 s53 s54 s55 s56 s57 s58 s59 s60 s61 s62 s63 s64 s65 s66 s67 s68 s69 s70 s71 s72 s73 s74 s75 s76 s77 s78 s79 s80 s81 s82 s83 s84 s85 s86 s87 s88 s89 s90 s91 s92 s93 s94 s95 s96 s97 s98 s99 df V:=by kernel_rfl
  rw[e];exact hend V w' hb (hF 14 (by omega)) (hF 28 (by omega))
def regXf:List Oper:=[
 ⟨some 70,.fieldAddr 32 (.tmp 2) 5,0,"ref.go:20",#[],none⟩,
 ⟨some 71,.load 30 (.tmp 70),30,"ref.go:20",#[⟨0,.data⟩],none⟩,
 ⟨some 72,.move (.tmp 6),3,"ref.go:20",#[],none⟩,
 ⟨some 73,.indexAddr 30 (.tmp 71) (.tmp 72),0,"ref.go:20",#[⟨1,.data⟩,⟨2,.data⟩],none⟩,
 ⟨some 74,.fieldAddr 80 (.tmp 73) 0,0,"ref.go:20",#[⟨3,.data⟩],none⟩,
 ⟨some 75,.load 78 (.tmp 74),78,"ref.go:20",#[⟨4,.data⟩],none⟩,
 ⟨some 76,.fieldAddr 32 (.tmp 3) 5,0,"ref.go:20",#[],none⟩,
 ⟨some 77,.load 30 (.tmp 76),30,"ref.go:20",#[⟨6,.data⟩],none⟩,
 ⟨some 78,.move (.tmp 6),3,"ref.go:20",#[],none⟩,
 ⟨some 79,.indexAddr 30 (.tmp 77) (.tmp 78),0,"ref.go:20",#[⟨7,.data⟩,⟨8,.data⟩],none⟩,
 ⟨some 80,.fieldAddr 80 (.tmp 79) 0,0,"ref.go:20",#[⟨9,.data⟩],none⟩,
 ⟨some 81,.load 78 (.tmp 80),78,"ref.go:20",#[⟨10,.data⟩],none⟩,
 ⟨some 82,.call ⟨.value (.func 39),#[.tmp 75,.tmp 81],#[78,78]⟩,4,"ref.go:20",#[⟨5,.data⟩,⟨11,.data⟩],none⟩,
 ⟨some 83,.unOp UnOp.not 4 (.tmp 82),4,"ref.go:20",#[⟨12,.data⟩],none⟩,
 ⟨some 84,.move (.tmp 83),4,"ref.go:20",#[⟨13,.data⟩,⟨12,.chain⟩],none⟩,
 ⟨some 85,.fieldAddr 32 (.tmp 2) 5,0,"ref.go:20",#[⟨14,.guard⟩],some (14,false)⟩,
 ⟨some 86,.load 30 (.tmp 85),30,"ref.go:20",#[⟨15,.data⟩,⟨14,.guard⟩],some (14,false)⟩,
 ⟨some 87,.move (.tmp 6),3,"ref.go:20",#[⟨14,.guard⟩],some (14,false)⟩,
 ⟨some 88,.indexAddr 30 (.tmp 86) (.tmp 87),0,"ref.go:20",#[⟨16,.data⟩,⟨17,.data⟩,⟨14,.guard⟩],some (14,false)⟩,
 ⟨some 89,.fieldAddr 80 (.tmp 88) 1,0,"ref.go:20",#[⟨18,.data⟩,⟨14,.guard⟩],some (14,false)⟩,
 ⟨some 90,.load 32 (.tmp 89),32,"ref.go:20",#[⟨19,.data⟩,⟨14,.guard⟩],some (14,false)⟩,
 ⟨some 91,.fieldAddr 32 (.tmp 3) 5,0,"ref.go:20",#[⟨14,.guard⟩],some (14,false)⟩,
 ⟨some 92,.load 30 (.tmp 91),30,"ref.go:20",#[⟨21,.data⟩,⟨14,.guard⟩],some (14,false)⟩,
 ⟨some 93,.move (.tmp 6),3,"ref.go:20",#[⟨14,.guard⟩],some (14,false)⟩,
 ⟨some 94,.indexAddr 30 (.tmp 92) (.tmp 93),0,"ref.go:20",#[⟨22,.data⟩,⟨23,.data⟩,⟨14,.guard⟩],some (14,false)⟩,
 ⟨some 95,.fieldAddr 80 (.tmp 94) 1,0,"ref.go:20",#[⟨24,.data⟩,⟨14,.guard⟩],some (14,false)⟩,
 ⟨some 96,.load 32 (.tmp 95),32,"ref.go:20",#[⟨25,.data⟩,⟨14,.guard⟩],some (14,false)⟩,
 ⟨some 97,.call ⟨.value (.func 12),#[.tmp 90,.tmp 96],#[32,32]⟩,4,"ref.go:20",#[⟨20,.data⟩,⟨26,.data⟩,⟨14,.chain⟩,⟨14,.guard⟩],some (14,false)⟩,
 ⟨some 98,.unOp UnOp.not 4 (.tmp 97),4,"ref.go:20",#[⟨27,.data⟩,⟨14,.guard⟩],some (14,false)⟩,
 ⟨some 99,.pick (.tmp 84) (.const (Value.bool true)) (.tmp 98),4,"ref.go:20",#[⟨14,.data⟩,⟨28,.data⟩],none⟩]
def qeI(bx yb b1 o1 b2 o2 m ca cb j:Nat)(k1 n1 x1 l1 c1 k2 n2 x2 l2 c2 K1 N1 U1 V1 W1 K2 N2 U2 V2 W2:Int)(t1 t2 T1 T2:ByteArray)(A1 A2 F1 F2 G1 G2:Option Addr)(m1 d1 m2 d2 M1 D1 M2 D2 R1 E1 R2 E2:Nat)(q:Bool)(i:Nat)(v:Value)(w:World):Prop:=
 match i with
 | 0=>v=.pointer (some ⟨bx,7,none⟩)
 | 1=>v=.slice (some ⟨b1,o1,none⟩) m ca
 | 2=>v=.int .i64 (j:Int)
 | 3=>v=.pointer (some ⟨b1,o1+j*15,none⟩)
 | 4=>v=.pointer (some ⟨b1,o1+j*15,none⟩)
 | 5=>v=.agg #[.int .u8 k1,t1,n1,x1,l1,c1,.slice A1 m1 d1]
 | 6=>v=.pointer (some ⟨yb,7,none⟩)
 | 7=>v=.slice (some ⟨b2,o2,none⟩) m cb
 | 8=>v=.int .i64 (j:Int)
 | 9=>v=.pointer (some ⟨b2,o2+j*15,none⟩)
 | 10=>v=.pointer (some ⟨b2,o2+j*15,none⟩)
 | 11=>v=.agg #[.int .u8 k2,t2,n2,x2,l2,c2,.slice A2 m2 d2]
 | 12=>v=.bool false
 | 13=>v=.bool true
 | 14=>v=.bool true
 | 15=>v=undef
 | 16=>v=undef
 | 17=>v=undef
 | 18=>v=undef
 | 19=>v=undef
 | 20=>v=undef
 | 21=>v=undef
 | 22=>v=undef
 | 23=>v=undef
 | 24=>v=undef
 | 25=>v=undef
 | 26=>v=undef
 | 27=>v=undef
 | 28=>v=undef
 | _=>True
theorem qaT{bx yb b1 o1 b2 o2 m ca cb j:Nat}{k1 n1 x1 l1 c1 k2 n2 x2 l2 c2 K1 N1 U1 V1 W1 K2 N2 U2 V2 W2:Int}{t1 t2 T1 T2:ByteArray}{A1 A2 F1 F2 G1 G2:Option Addr}{m1 d1 m2 d2 M1 D1 M2 D2 R1 E1 R2 E2:Nat}{q:Bool}(i:Nat)(v:Value)(w w':World)(hi:i<29)(h:qeI bx yb b1 o1 b2 o2 m ca cb j k1 n1 x1 l1 c1 k2 n2 x2 l2 c2 K1 N1 U1 V1 W1 K2 N2 U2 V2 W2 t1 t2 T1 T2 A1 A2 F1 F2 G1 G2 m1 d1 m2 d2 M1 D1 M2 D2 R1 E1 R2 E2 q i v w)(hb:Bel w w'):qeI bx yb b1 o1 b2 o2 m ca cb j k1 n1 x1 l1 c1 k2 n2 x2 l2 c2 K1 N1 U1 V1 W1 K2 N2 U2 V2 W2 t1 t2 T1 T2 A1 A2 F1 F2 G1 G2 m1 d1 m2 d2 M1 D1 M2 D2 R1 E1 R2 E2 q i v w':=by
 match i,hi,h with
 | 0,_,h | 1,_,h | 2,_,h | 3,_,h | 4,_,h | 5,_,h | 6,_,h | 7,_,h | 8,_,h | 9,_,h | 10,_,h | 11,_,h | 12,_,h | 13,_,h | 14,_,h | 15,_,h | 16,_,h | 17,_,h | 18,_,h | 19,_,h | 20,_,h | 21,_,h | 22,_,h | 23,_,h | 24,_,h | 25,_,h | 26,_,h | 27,_,h | 28,_,h=>exact h
 | q+29,hi,_=>exact absurd hi (by omega)
def qh9(bx yb b1 o1 b2 o2 m ca cb j:Nat)(k1 n1 x1 l1 c1 k2 n2 x2 l2 c2 K1 N1 U1 V1 W1 K2 N2 U2 V2 W2:Int)(t1 t2 T1 T2:ByteArray)(A1 A2 F1 F2 G1 G2:Option Addr)(m1 d1 m2 d2 M1 D1 M2 D2 R1 E1 R2 E2:Nat)(q:Bool)(s0 s1 s4 s5 s7 s8 s9 s10 s11 s12 s13 s14 s15 s16 s17 s18 s19 s20 s21 s22 s23 s24 s25 s26 s27 s28 s29 s30 s31 s32 s33 s34 s35 s36 s37 s38 s39 s40 s41 s42 s43 s44 s45 s46 s47 s48 s49 s50 s51 s52 s53 s54 s55 s56 s57 s58 s59 s60 s61 s62 s63 s64 s65 s66 s67 s68 s69 s70 s71 s72 s73 s74 s75 s76 s77 s78 s79 s80 s81 s82 s83 s84 s85 s86 s87 s88 s89 s90 s91 s92 s93 s94 s95 s96 s97 s98 s99:Value)(df:List Deferred):Act:={ tmps:=#[s0,s1,.pointer (some ⟨bx,0,none⟩),.pointer (some ⟨yb,0,none⟩),s4,s5,.int .i64 (j:Int),s7,s8,s9,s10,s11,s12,s13,s14,s15,s16,s17,s18,s19,s20,s21,s22,s23,s24,s25,s26,s27,s28,s29,s30,s31,s32,s33,s34,s35,s36,s37,s38,s39,s40,s41,s42,s43,s44,s45,s46,s47,s48,s49,s50,s51,s52,s53,s54,s55,s56,s57,s58,s59,s60,s61,s62,s63,s64,s65,s66,s67,s68,s69,s70,s71,s72,s73,s74,s75,s76,s77,s78,s79,s80,s81,s82,s83,s84,s85,s86,s87,s88,s89,s90,s91,s92,s93,s94,s95,s96,s97,s98,s99],defers:=df }
def qgF(bx yb b1 o1 b2 o2 m ca cb j:Nat)(k1 n1 x1 l1 c1 k2 n2 x2 l2 c2 K1 N1 U1 V1 W1 K2 N2 U2 V2 W2:Int)(t1 t2 T1 T2:ByteArray)(A1 A2 F1 F2 G1 G2:Option Addr)(m1 d1 m2 d2 M1 D1 M2 D2 R1 E1 R2 E2:Nat)(q:Bool)(s0 s1 s4 s5 s7 s8 s9 s10 s11 s12 s13 s14 s15 s16 s17 s18 s19 s20 s21 s22 s23 s24 s25 s26 s27 s28 s29 s30 s31 s32 s33 s34 s35 s36 s37 s38 s39 s40 s41 s42 s43 s44 s45 s46 s47 s48 s49 s50 s51 s52 s53 s54 s55 s56 s57 s58 s59 s60 s61 s62 s63 s64 s65 s66 s67 s68 s69 s70 s71 s72 s73 s74 s75 s76 s77 s78 s79 s80 s81 s82 s83 s84 s85 s86 s87 s88 s89 s90 s91 s92 s93 s94 s95 s96 s97 s98 s99:Value)(df:List Deferred)(V:Nat->Value):Act:={ tmps:=#[s0,s1,.pointer (some ⟨bx,0,none⟩),.pointer (some ⟨yb,0,none⟩),s4,s5,.int .i64 (j:Int),s7,s8,s9,s10,s11,s12,s13,s14,s15,s16,s17,s18,s19,s20,s21,s22,s23,s24,s25,s26,s27,s28,s29,s30,s31,s32,s33,s34,s35,s36,s37,s38,s39,s40,s41,s42,s43,s44,s45,s46,s47,s48,s49,s50,s51,s52,s53,s54,s55,s56,s57,s58,s59,s60,s61,s62,s63,s64,s65,s66,s67,s68,s69,V 0,V 1,V 2,V 3,V 4,V 5,V 6,V 7,V 8,V 9,V 10,V 11,V 12,V 13,V 14,V 15,V 16,V 17,V 18,V 19,V 20,V 21,V 22,V 23,V 24,V 25,V 26,V 27,V 28,s99],defers:=df }
theorem qcB:zn .any regXf.toArray 29=true:=by kernel_rfl
theorem qei:fwdB regXf.toArray 29=true:=by kernel_rfl
theorem qaw:qL regXf.toArray 100=true:=by kernel_rfl
theorem qej:Region.seqB .any regXf.toArray (regXf.length-29) 29 (Array.replicate 29 true++Array.replicate (regXf.length-29) false)=true:=by kernel_rfl
set_option maxRecDepth 100000 in
theorem qeh{id:Nat}(bx yb b1 o1 b2 o2 m ca cb j:Nat)(k1 n1 x1 l1 c1 k2 n2 x2 l2 c2 K1 N1 U1 V1 W1 K2 N2 U2 V2 W2:Int)(t1 t2 T1 T2:ByteArray)(A1 A2 F1 F2 G1 G2:Option Addr)(m1 d1 m2 d2 M1 D1 M2 D2 R1 E1 R2 E2:Nat)(q:Bool)(s0 s1 s4 s5 s7 s8 s9 s10 s11 s12 s13 s14 s15 s16 s17 s18 s19 s20 s21 s22 s23 s24 s25 s26 s27 s28 s29 s30 s31 s32 s33 s34 s35 s36 s37 s38 s39 s40 s41 s42 s43 s44 s45 s46 s47 s48 s49 s50 s51 s52 s53 s54 s55 s56 s57 s58 s59 s60 s61 s62 s63 s64 s65 s66 s67 s68 s69 s70 s71 s72 s73 s74 s75 s76 s77 s78 s79 s80 s81 s82 s83 s84 s85 s86 s87 s88 s89 s90 s91 s92 s93 s94 s95 s96 s97 s98 s99:Value)(df:List Deferred)(w:World)(i1:(0:Int)<=(j:Int))(i2:(j:Int)<(m:Int))(h1:b1<w.drew.heap.size)(h2:b2<w.drew.heap.size)(hx:bx<w.drew.heap.size)(hy:yb<w.drew.heap.size)(zx:w.drew.cell? ⟨bx,7,none⟩=some (.slice (some ⟨b1,o1,none⟩) m ca))(zy:w.drew.cell? ⟨yb,7,none⟩=some (.slice (some ⟨b2,o2,none⟩) m cb))(fa0:w.drew.cell? ⟨b1,o1+j*15,none⟩=some (.int .u8 k1))(fe0:w.drew.cell? ⟨b2,o2+j*15,none⟩=some (.int .u8 k2))(fa1:w.drew.cell? ⟨b1,o1+j*15+1,none⟩=some (.string t1))(fe1:w.drew.cell? ⟨b2,o2+j*15+1,none⟩=some (.string t2))(fa2:w.drew.cell? ⟨b1,o1+j*15+2,none⟩=some (.int .i64 n1))(fe2:w.drew.cell? ⟨b2,o2+j*15+2,none⟩=some (.int .i64 n2))(fa3:w.drew.cell? ⟨b1,o1+j*15+3,none⟩=some (.int .i64 x1))(fe3:w.drew.cell? ⟨b2,o2+j*15+3,none⟩=some (.int .i64 x2))(fa4:w.drew.cell? ⟨b1,o1+j*15+4,none⟩=some (.int .i64 l1))(fe4:w.drew.cell? ⟨b2,o2+j*15+4,none⟩=some (.int .i64 l2))(fa5:w.drew.cell? ⟨b1,o1+j*15+5,none⟩=some (.int .i64 c1))(fe5:w.drew.cell? ⟨b2,o2+j*15+5,none⟩=some (.int .i64 c2))(fa6:w.drew.cell? ⟨b1,o1+j*15+6,none⟩=some (.slice A1 m1 d1))(fe6:w.drew.cell? ⟨b2,o2+j*15+6,none⟩=some (.slice A2 m2 d2))(fa7:w.drew.cell? ⟨b1,o1+j*15+7,none⟩=some (.int .u8 K1))(fe7:w.drew.cell? ⟨b2,o2+j*15+7,none⟩=some (.int .u8 K2))(fa8:w.drew.cell? ⟨b1,o1+j*15+8,none⟩=some (.string T1))(fe8:w.drew.cell? ⟨b2,o2+j*15+8,none⟩=some (.string T2))(fa9:w.drew.cell? ⟨b1,o1+j*15+9,none⟩=some (.int .i64 N1))(fe9:w.drew.cell? ⟨b2,o2+j*15+9,none⟩=some (.int .i64 N2))(fa10:w.drew.cell? ⟨b1,o1+j*15+10,none⟩=some (.int .i64 U1))(fe10:w.drew.cell? ⟨b2,o2+j*15+10,none⟩=some (.int .i64 U2))(fa11:w.drew.cell? ⟨b1,o1+j*15+11,none⟩=some (.int .i64 V1))(fe11:w.drew.cell? ⟨b2,o2+j*15+11,none⟩=some (.int .i64 V2))(fa12:w.drew.cell? ⟨b1,o1+j*15+12,none⟩=some (.int .i64 W1))(fe12:w.drew.cell? ⟨b2,o2+j*15+12,none⟩=some (.int .i64 W2))(fa13:w.drew.cell? ⟨b1,o1+j*15+13,none⟩=some (.slice F1 M1 D1))(fe13:w.drew.cell? ⟨b2,o2+j*15+13,none⟩=some (.slice F2 M2 D2))(fa14:w.drew.cell? ⟨b1,o1+j*15+14,none⟩=some (.slice G1 R1 E1))(fe14:w.drew.cell? ⟨b2,o2+j*15+14,none⟩=some (.slice G2 R2 E2))(HP:∀ W,Bel w.drew W->Calls Tryz.prog 39 #[.agg #[.int .u8 k1,t1,n1,x1,l1,c1,.slice A1 m1 d1],.agg #[.int .u8 k2,t2,n2,x2,l2,c2,.slice A2 m2 d2]] W fun e w'=>e=.returned (.bool false)/\Bel W w')(Q:Exit->Act->World->Prop)
  (hend:∀ (V:Nat->Value) (w':World),Bel w.drew w'->(V 14)=.bool true->wpList Tryz.prog regXf.toArray Q (regXf.drop 29) (qgF bx yb b1 o1 b2 o2 m ca cb j k1 n1 x1 l1 c1 k2 n2 x2 l2 c2 K1 N1 U1 V1 W1 K2 N2 U2 V2 W2 t1 t2 T1 T2 A1 A2 F1 F2 G1 G2 m1 d1 m2 d2 M1 D1 M2 D2 R1 E1 R2 E2 q s0 s1 s4 s5 s7 s8 s9 s10 s11 s12 s13 s14 s15 s16 s17 s18 s19 s20 s21 s22 s23 s24 s25 s26 s27 s28 s29 s30 s31 s32 s33 s34 s35 s36 s37 s38 s39 s40 s41 s42 s43 s44 s45 s46 s47 s48 s49 s50 s51 s52 s53 s54 s55 s56 s57 s58 s59 s60 s61 s62 s63 s64 s65 s66 s67 s68 s69 s70 s71 s72 s73 s74 s75 s76 s77 s78 s79 s80 s81 s82 s83 s84 s85 s86 s87 s88 s89 s90 s91 s92 s93 s94 s95 s96 s97 s98 s99 df V) w') :
  (Code.region id regXf.toArray true).wp Tryz.prog Q (qh9 bx yb b1 o1 b2 o2 m ca cb j k1 n1 x1 l1 c1 k2 n2 x2 l2 c2 K1 N1 U1 V1 W1 K2 N2 U2 V2 W2 t1 t2 T1 T2 A1 A2 F1 F2 G1 G2 m1 d1 m2 d2 M1 D1 M2 D2 R1 E1 R2 E2 q s0 s1 s4 s5 s7 s8 s9 s10 s11 s12 s13 s14 s15 s16 s17 s18 s19 s20 s21 s22 s23 s24 s25 s26 s27 s28 s29 s30 s31 s32 s33 s34 s35 s36 s37 s38 s39 s40 s41 s42 s43 s44 s45 s46 s47 s48 s49 s50 s51 s52 s53 s54 s55 s56 s57 s58 s59 s60 s61 s62 s63 s64 s65 s66 s67 s68 s69 s70 s71 s72 s73 s74 s75 s76 s77 s78 s79 s80 s81 s82 s83 s84 s85 s86 s87 s88 s89 s90 s91 s92 s93 s94 s95 s96 s97 s98 s99 df) w:=by
 refine qk (l:=regXf) 29 _ w (qeI bx yb b1 o1 b2 o2 m ca cb j k1 n1 x1 l1 c1 k2 n2 x2 l2 c2 K1 N1 U1 V1 W1 K2 N2 U2 V2 W2 t1 t2 T1 T2 A1 A2 F1 F2 G1 G2 m1 d1 m2 d2 M1 D1 M2 D2 R1 E1 R2 E2 q) (by kernel_rfl) qcB qei qaw qej (fun i v w w' hi h hb=>qaT i v w w' hi h hb) ?_ ?_
 ·intro i' o hi' ho a w1 V hbel hdep hpar K hK
  have p2:a.eval (.tmp 2)=.pointer (some ⟨bx,0,none⟩):=hpar 2 (by show 2<100;decide) (by kernel_rfl);have p2':=tD p2;have p3:a.eval (.tmp 3)=.pointer (some ⟨yb,0,none⟩):=hpar 3 (by show 3<100;decide) (by kernel_rfl);have p3':=tD p3;have p6:a.eval (.tmp 6)=.int .i64 (j:Int):=hpar 6 (by show 6<100;decide) (by kernel_rfl);have p6':=tD p6;have ga0:=gX hbel h1 fa0;have ga1:=gX hbel h1 fa1;have ga2:=gX hbel h1 fa2;have ga3:=gX hbel h1 fa3;have ga4:=gX hbel h1 fa4;have ga5:=gX hbel h1 fa5;have ga6:=gX hbel h1 fa6;have ga7:=gX hbel h1 fa7;have ga8:=gX hbel h1 fa8;have ga9:=gX hbel h1 fa9;have ga10:=gX hbel h1 fa10;have ga11:=gX hbel h1 fa11;have ga12:=gX hbel h1 fa12;have ga13:=gX hbel h1 fa13;have ga14:=gX hbel h1 fa14;have gb0:=gX hbel h2 fe0;have gb1:=gX hbel h2 fe1;have gb2:=gX hbel h2 fe2;have gb3:=gX hbel h2 fe3;have gb4:=gX hbel h2 fe4;have gb5:=gX hbel h2 fe5;have gb6:=gX hbel h2 fe6;have gb7:=gX hbel h2 fe7;have gb8:=gX hbel h2 fe8;have gb9:=gX hbel h2 fe9;have gb10:=gX hbel h2 fe10;have gb11:=gX hbel h2 fe11;have gb12:=gX hbel h2 fe12;have gb13:=gX hbel h2 fe13;have gb14:=gX hbel h2 fe14;have zx':=gX hbel hx zx;have zy':=gX hbel hy zy;match i',hi',ho,hdep,hK with
  | 0,_,ho,hdep,hK=>
   simp only[regXf,gT,gZ,gI]at ho;subst ho;exact nG rfl (wV (by simp[execOp,go_sem,p2']) hK rfl)
  | 1,_,ho,hdep,hK=>
   simp only[regXf,gT,gZ,gS,gI]at ho;subst ho;refine nG rfl ?_;have e0':=tK (t:=70) (hdep ⟨0,.data⟩ (by simp) rfl) rfl;exact wV (by simp[execOp,go_sem,e0',zx']) hK rfl
  | 2,_,ho,hdep,hK=>
   simp only[regXf,gT,gZ,gS,gI]at ho;subst ho;exact nG rfl (wV (by simp[execOp,go_sem,p6']) hK rfl)
  | 3,_,ho,hdep,hK=>
   simp only[regXf,gT,gZ,gS,gI]at ho;subst ho;refine nG rfl ?_;have e1':=tK (t:=71) (hdep ⟨1,.data⟩ (by simp) rfl) rfl;have e2':=tK (t:=72) (hdep ⟨2,.data⟩ (by simp) rfl) rfl;exact wV (by simp[execOp,go_sem,e1',e2',i1,i2]) hK rfl
  | 4,_,ho,hdep,hK=>
   simp only[regXf,gT,gZ,gS,gI]at ho;subst ho;refine nG rfl ?_;have e3':=tK (t:=73) (hdep ⟨3,.data⟩ (by simp) rfl) rfl;exact wV (by simp[execOp,go_sem,e3']) hK rfl
  | 5,_,ho,hdep,hK=>
   simp only[regXf,gT,gZ,gS,gI]at ho;subst ho;refine nG rfl ?_;have e4':=tK (t:=74) (hdep ⟨4,.data⟩ (by simp) rfl) rfl;exact wV (by simp[execOp,go_sem,e4',ga0,ga1,ga2,ga3,ga4,ga5,ga6]) hK rfl
  | 6,_,ho,hdep,hK=>
   simp only[regXf,gT,gZ,gS,gI]at ho;subst ho;exact nG rfl (wV (by simp[execOp,go_sem,p3']) hK rfl)
  | 7,_,ho,hdep,hK=>
   simp only[regXf,gT,gZ,gS,gI]at ho;subst ho;refine nG rfl ?_;have e6':=tK (t:=76) (hdep ⟨6,.data⟩ (by simp) rfl) rfl;exact wV (by simp[execOp,go_sem,e6',zy']) hK rfl
  | 8,_,ho,hdep,hK=>
   simp only[regXf,gT,gZ,gS,gI]at ho;subst ho;exact nG rfl (wV (by simp[execOp,go_sem,p6']) hK rfl)
  | 9,_,ho,hdep,hK=>
   simp only[regXf,gT,gZ,gS,gI]at ho;subst ho;refine nG rfl ?_;have e7':=tK (t:=77) (hdep ⟨7,.data⟩ (by simp) rfl) rfl;have e8':=tK (t:=78) (hdep ⟨8,.data⟩ (by simp) rfl) rfl;exact wV (by simp[execOp,go_sem,e7',e8',i1,i2]) hK rfl
  | 10,_,ho,hdep,hK=>
   simp only[regXf,gT,gZ,gS,gI]at ho;subst ho;refine nG rfl ?_;have e9':=tK (t:=79) (hdep ⟨9,.data⟩ (by simp) rfl) rfl;exact wV (by simp[execOp,go_sem,e9']) hK rfl
  | 11,_,ho,hdep,hK=>
   simp only[regXf,gT,gZ,gS,gI]at ho;subst ho;refine nG rfl ?_;have e10':=tK (t:=80) (hdep ⟨10,.data⟩ (by simp) rfl) rfl;exact wV (by simp[execOp,go_sem,e10',gb0,gb1,gb2,gb3,gb4,gb5,gb6]) hK rfl
  | 12,_,ho,hdep,hK=>
   simp only[regXf,gT,gZ,gS,gI]at ho;subst ho;refine nG rfl ?_;have e5':=tK (t:=75) (hdep ⟨5,.data⟩ (by simp) rfl) rfl;have e11':=tK (t:=81) (hdep ⟨11,.data⟩ (by simp) rfl) rfl;refine qg (f:=39) (args:=#[.agg #[.int .u8 k1,t1,n1,x1,l1,c1,.slice A1 m1 d1],.agg #[.int .u8 k2,t2,n2,x2,l2,c2,.slice A2 m2 d2]]) (by simp[go_sem,e5',e11']) ((HP w1 hbel).mono ?_);rintro e w' ⟨rfl,hb⟩;exact⟨_,rfl,hK _ _ hb rfl⟩
  | 13,_,ho,hdep,hK=>
   simp only[regXf,gT,gZ,gS,gI]at ho;subst ho;refine nG rfl ?_;have e12':=tK (t:=82) (hdep ⟨12,.data⟩ (by simp) rfl) rfl;exact wV (by simp[execOp,go_sem,e12']) hK rfl
  | 14,_,ho,hdep,hK=>
   simp only[regXf,gT,gZ,gS,gI]at ho;subst ho;refine nG rfl ?_;have e13':=tK (t:=83) (hdep ⟨13,.data⟩ (by simp) rfl) rfl;exact wV (by simp[execOp,go_sem,e13']) hK rfl
  | 15,_,ho,hdep,hK=>
   simp only[regXf,gT,gZ,gS,gI]at ho;subst ho;obtain⟨fg,dg⟩:=hdep ⟨14,.guard⟩ (by simp) rfl;have eg:a.tmps.getD 84 undef=.bool true:=(dg 84 rfl).trans fg;exact⟨fun hw=>(nw_f (d:=84) rfl rfl eg hw).elim,fun _=>rfl⟩
  | 16,_,ho,hdep,hK=>
   simp only[regXf,gT,gZ,gS,gI]at ho;subst ho;obtain⟨fg,dg⟩:=hdep ⟨14,.guard⟩ (by simp) rfl;have eg:a.tmps.getD 84 undef=.bool true:=(dg 84 rfl).trans fg;exact⟨fun hw=>(nw_f (d:=84) rfl rfl eg hw).elim,fun _=>rfl⟩
  | 17,_,ho,hdep,hK=>
   simp only[regXf,gT,gZ,gS,gI]at ho;subst ho;obtain⟨fg,dg⟩:=hdep ⟨14,.guard⟩ (by simp) rfl;have eg:a.tmps.getD 84 undef=.bool true:=(dg 84 rfl).trans fg;exact⟨fun hw=>(nw_f (d:=84) rfl rfl eg hw).elim,fun _=>rfl⟩
  | 18,_,ho,hdep,hK=>
   simp only[regXf,gT,gZ,gS,gI]at ho;subst ho;obtain⟨fg,dg⟩:=hdep ⟨14,.guard⟩ (by simp) rfl;have eg:a.tmps.getD 84 undef=.bool true:=(dg 84 rfl).trans fg;exact⟨fun hw=>(nw_f (d:=84) rfl rfl eg hw).elim,fun _=>rfl⟩
  | 19,_,ho,hdep,hK=>
   simp only[regXf,gT,gZ,gS,gI]at ho;subst ho;obtain⟨fg,dg⟩:=hdep ⟨14,.guard⟩ (by simp) rfl;have eg:a.tmps.getD 84 undef=.bool true:=(dg 84 rfl).trans fg;exact⟨fun hw=>(nw_f (d:=84) rfl rfl eg hw).elim,fun _=>rfl⟩
  | 20,_,ho,hdep,hK=>
   simp only[regXf,gT,gZ,gS,gI]at ho;subst ho;obtain⟨fg,dg⟩:=hdep ⟨14,.guard⟩ (by simp) rfl;have eg:a.tmps.getD 84 undef=.bool true:=(dg 84 rfl).trans fg;exact⟨fun hw=>(nw_f (d:=84) rfl rfl eg hw).elim,fun _=>rfl⟩
  | 21,_,ho,hdep,hK=>
   simp only[regXf,gT,gZ,gS,gI]at ho;subst ho;obtain⟨fg,dg⟩:=hdep ⟨14,.guard⟩ (by simp) rfl;have eg:a.tmps.getD 84 undef=.bool true:=(dg 84 rfl).trans fg;exact⟨fun hw=>(nw_f (d:=84) rfl rfl eg hw).elim,fun _=>rfl⟩
  | 22,_,ho,hdep,hK=>
   simp only[regXf,gT,gZ,gS,gI]at ho;subst ho;obtain⟨fg,dg⟩:=hdep ⟨14,.guard⟩ (by simp) rfl;have eg:a.tmps.getD 84 undef=.bool true:=(dg 84 rfl).trans fg;exact⟨fun hw=>(nw_f (d:=84) rfl rfl eg hw).elim,fun _=>rfl⟩
  | 23,_,ho,hdep,hK=>
   simp only[regXf,gT,gZ,gS,gI]at ho;subst ho;obtain⟨fg,dg⟩:=hdep ⟨14,.guard⟩ (by simp) rfl;have eg:a.tmps.getD 84 undef=.bool true:=(dg 84 rfl).trans fg;exact⟨fun hw=>(nw_f (d:=84) rfl rfl eg hw).elim,fun _=>rfl⟩
  | 24,_,ho,hdep,hK=>
   simp only[regXf,gT,gZ,gS,gI]at ho;subst ho;obtain⟨fg,dg⟩:=hdep ⟨14,.guard⟩ (by simp) rfl;have eg:a.tmps.getD 84 undef=.bool true:=(dg 84 rfl).trans fg;exact⟨fun hw=>(nw_f (d:=84) rfl rfl eg hw).elim,fun _=>rfl⟩
  | 25,_,ho,hdep,hK=>
   simp only[regXf,gT,gZ,gS,gI]at ho;subst ho;obtain⟨fg,dg⟩:=hdep ⟨14,.guard⟩ (by simp) rfl;have eg:a.tmps.getD 84 undef=.bool true:=(dg 84 rfl).trans fg;exact⟨fun hw=>(nw_f (d:=84) rfl rfl eg hw).elim,fun _=>rfl⟩
  | 26,_,ho,hdep,hK=>
   simp only[regXf,gT,gZ,gS,gI]at ho;subst ho;obtain⟨fg,dg⟩:=hdep ⟨14,.guard⟩ (by simp) rfl;have eg:a.tmps.getD 84 undef=.bool true:=(dg 84 rfl).trans fg;exact⟨fun hw=>(nw_f (d:=84) rfl rfl eg hw).elim,fun _=>rfl⟩
  | 27,_,ho,hdep,hK=>
   simp only[regXf,gT,gZ,gS,gI]at ho;subst ho;obtain⟨fg,dg⟩:=hdep ⟨14,.guard⟩ (by simp) rfl;have eg:a.tmps.getD 84 undef=.bool true:=(dg 84 rfl).trans fg;exact⟨fun hw=>(nw_f (d:=84) rfl rfl eg hw).elim,fun _=>rfl⟩
  | 28,_,ho,hdep,hK=>
   simp only[regXf,gT,gZ,gS,gI]at ho;subst ho;obtain⟨fg,dg⟩:=hdep ⟨14,.guard⟩ (by simp) rfl;have eg:a.tmps.getD 84 undef=.bool true:=(dg 84 rfl).trans fg;exact⟨fun hw=>(nw_f (d:=84) rfl rfl eg hw).elim,fun _=>rfl⟩
  | q+29,hi,_,_,_=>exact absurd hi (by omega)
 ·intro V w' hb hF
  have e:finA regXf.toArray 29 V (qh9 bx yb b1 o1 b2 o2 m ca cb j k1 n1 x1 l1 c1 k2 n2 x2 l2 c2 K1 N1 U1 V1 W1 K2 N2 U2 V2 W2 t1 t2 T1 T2 A1 A2 F1 F2 G1 G2 m1 d1 m2 d2 M1 D1 M2 D2 R1 E1 R2 E2 q s0 s1 s4 s5 s7 s8 s9 s10 s11 s12 s13 s14 s15 s16 s17 s18 s19 s20 s21 s22 s23 s24 s25 s26 s27 s28 s29 s30 s31 s32 s33 s34 s35 s36 s37 s38 s39 s40 s41 s42 s43 s44 s45 s46 s47 s48 s49 s50 s51 s52 s53 s54 s55 s56 s57 s58 s59 s60 s61 s62 s63 s64 s65 s66 s67 s68 s69 s70 s71 s72 s73 s74 s75 s76 s77 s78 s79 s80 s81 s82 s83 s84 s85 s86 s87 s88 s89 s90 s91 s92 s93 s94 s95 s96 s97 s98 s99 df)=qgF bx yb b1 o1 b2 o2 m ca cb j k1 n1 x1 l1 c1 k2 n2 x2 l2 c2 K1 N1 U1 V1 W1 K2 N2 U2 V2 W2 t1 t2 T1 T2 A1 A2 F1 F2 G1 G2 m1 d1 m2 d2 M1 D1 M2 D2 R1 E1 R2 E2 q s0 s1 s4 s5 s7 s8 s9 s10 s11 s12 s13 s14 s15 s16 s17 s18 s19 s20 s21 s22 s23 s24 s25 s26 s27 s28 s29 s30 s31 s32 s33 s34 s35 s36 s37 s38 s39 s40 s41 s42 s43 s44 s45 s46 s47 s48 s49 s50 s51 s52 s53 s54 s55 s56 s57 s58 s59 s60 s61 s62 s63 s64 s65 s66 s67 s68 s69 s70 s71 s72 s73 s74 s75 s76 s77 s78 s79 s80 s81 s82 s83 s84 s85 s86 s87 s88 s89 s90 s91 s92 s93 s94 s95 s96 s97 s98 s99 df V:=by kernel_rfl
  rw[e];exact hend V w' hb (hF 14 (by omega))
end Go.Proofs.YtlmmaoobembadaaGreatDoor.Mu
