import Derived.Test.YtlmmaoobembadaaGreatDoorPag
namespace Go.Proofs.YtlmmaoobembadaaGreatDoor.Mu
set_option maxHeartbeats 1000000
open Go Go.RowKit Go.Shelf
attribute [local go_sem] Oper.semAt_some
set_option linter.unusedVariables false
def regSd:List Oper:=[
 ⟨some 14,.move (.tmp 3),3,"ref.go:405",#[],none⟩,
 ⟨some 15,.binOp .add 3 (.tmp 14) (.const (Value.int IntKind.i64 1)) 3,3,"ref.go:405",#[⟨0,.data⟩],none⟩,
 ⟨some 16,.move (.tmp 0),22,"ref.go:405",#[],none⟩,
 ⟨some 17,.move (.tmp 4),3,"ref.go:405",#[],none⟩,
 ⟨some 18,.indexAddr 22 (.tmp 16) (.tmp 17),0,"ref.go:405",#[⟨2,.data⟩,⟨3,.data⟩],none⟩,
 ⟨some 19,.fieldAddr 34 (.tmp 18) 1,0,"ref.go:405",#[⟨4,.data⟩],none⟩,
 ⟨some 20,.load 9 (.tmp 19),9,"ref.go:405",#[⟨5,.data⟩],none⟩,
 ⟨some 21,.call ⟨.builtin Builtin.len,#[.tmp 20],#[9]⟩,3,"ref.go:405",#[⟨6,.data⟩],none⟩,
 ⟨some 22,.binOp .quo 3 (.tmp 21) (.const (Value.int IntKind.i64 64)) 3,3,"ref.go:405",#[⟨7,.data⟩],none⟩,
 ⟨some 23,.binOp .add 3 (.tmp 15) (.tmp 22) 3,3,"ref.go:405",#[⟨1,.data⟩,⟨8,.data⟩],none⟩,
 ⟨some 24,.move (.tmp 0),22,"ref.go:405",#[],none⟩,
 ⟨some 25,.move (.tmp 4),3,"ref.go:405",#[],none⟩,
 ⟨some 26,.indexAddr 22 (.tmp 24) (.tmp 25),0,"ref.go:405",#[⟨10,.data⟩,⟨11,.data⟩],none⟩,
 ⟨some 27,.fieldAddr 34 (.tmp 26) 3,0,"ref.go:405",#[⟨12,.data⟩],none⟩,
 ⟨some 28,.load 27 (.tmp 27),27,"ref.go:405",#[⟨13,.data⟩],none⟩,
 ⟨some 29,.call ⟨.builtin Builtin.len,#[.tmp 28],#[27]⟩,3,"ref.go:405",#[⟨14,.data⟩],none⟩,
 ⟨some 30,.binOp .add 3 (.tmp 23) (.tmp 29) 3,3,"ref.go:405",#[⟨9,.data⟩,⟨15,.data⟩],none⟩,
 ⟨some 31,.move (.tmp 0),22,"ref.go:405",#[],none⟩,
 ⟨some 32,.move (.tmp 4),3,"ref.go:405",#[],none⟩,
 ⟨some 33,.indexAddr 22 (.tmp 31) (.tmp 32),0,"ref.go:405",#[⟨17,.data⟩,⟨18,.data⟩],none⟩,
 ⟨some 34,.fieldAddr 34 (.tmp 33) 6,0,"ref.go:405",#[⟨19,.data⟩],none⟩,
 ⟨some 35,.load 32 (.tmp 34),32,"ref.go:405",#[⟨20,.data⟩],none⟩,
 ⟨some 36,.call ⟨.value (.func 15),#[.tmp 35,.const (Value.int IntKind.i64 0)],#[32,3]⟩,3,"ref.go:405",#[⟨21,.data⟩],none⟩,
 ⟨some 37,.binOp .add 3 (.tmp 30) (.tmp 36) 3,3,"ref.go:405",#[⟨16,.data⟩,⟨22,.data⟩],none⟩,
 ⟨some 3,.assign (.tmp 37),3,"ref.go:405",#[⟨23,.data⟩,⟨22,.chain⟩,⟨0,.phase⟩,⟨1,.phase⟩,⟨2,.phase⟩,⟨3,.phase⟩,⟨4,.phase⟩,⟨5,.phase⟩,⟨6,.phase⟩,⟨7,.phase⟩,⟨8,.phase⟩,⟨9,.phase⟩,⟨10,.phase⟩,⟨11,.phase⟩,⟨12,.phase⟩,⟨13,.phase⟩,⟨14,.phase⟩,⟨15,.phase⟩,⟨16,.phase⟩,⟨17,.phase⟩,⟨18,.phase⟩,⟨19,.phase⟩,⟨20,.phase⟩,⟨21,.phase⟩,⟨22,.phase⟩,⟨23,.phase⟩],none⟩]
def qeB(b1 o1 m ca j u pl pc:Nat)(y:Int)(K1 N1 U1 V1 W1:Int)(t1 T1:ByteArray)(PA F1 G1:Option Addr)(M1 D1 R1 E1:Nat)(g2:Tr)(i:Nat)(v:Value)(w:World):Prop:=
 match i with
 | 0=>v=.int .i64 y
 | 1=>v=.int .i64 (y+1)
 | 2=>v=.slice (some ⟨b1,o1,none⟩) m ca
 | 3=>v=.int .i64 (j:Int)
 | 4=>v=.pointer (some ⟨b1,o1+j*16,none⟩)
 | 5=>v=.pointer (some ⟨b1,o1+j*16+1,none⟩)
 | 6=>v=.string t1
 | 7=>v=.int .i64 ((t1.size:Nat):Int)
 | 8=>v=.int .i64 (u:Int)
 | 9=>v=.int .i64 (y+1+(u:Int))
 | 10=>v=.slice (some ⟨b1,o1,none⟩) m ca
 | 11=>v=.int .i64 (j:Int)
 | 12=>v=.pointer (some ⟨b1,o1+j*16,none⟩)
 | 13=>v=.pointer (some ⟨b1,o1+j*16+5,none⟩)
 | 14=>v=.slice PA pl pc
 | 15=>v=.int .i64 (pl:Int)
 | 16=>v=.int .i64 (y+1+(u:Int)+(pl:Int))
 | 17=>v=.slice (some ⟨b1,o1,none⟩) m ca
 | 18=>v=.int .i64 (j:Int)
 | 19=>v=.pointer (some ⟨b1,o1+j*16,none⟩)
 | 20=>v=.pointer (some ⟨b1,o1+j*16+8,none⟩)
 | 21=>v=.agg #[.int .u8 K1,T1,N1,U1,V1,W1,.slice F1 M1 D1,.slice G1 R1 E1]
 | 22=>∃ z:Int,v=.int .i64 z/\ZQ (capX 0) 0 g2 z
 | 23=>∃ z:Int,v=.int .i64 (y+1+(u:Int)+(pl:Int)+z)/\ZQ (capX 0) 0 g2 z
 | _=>True
theorem qaK{b1 o1 m ca j u pl pc:Nat}{y:Int}{K1 N1 U1 V1 W1:Int}{t1 T1:ByteArray}{PA F1 G1:Option Addr}{M1 D1 R1 E1:Nat}{g2:Tr}(i:Nat)(v:Value)(w w':World)(hi:i<24)(h:qeB b1 o1 m ca j u pl pc y K1 N1 U1 V1 W1 t1 T1 PA F1 G1 M1 D1 R1 E1 g2 i v w)(hb:Bel w w'):qeB b1 o1 m ca j u pl pc y K1 N1 U1 V1 W1 t1 T1 PA F1 G1 M1 D1 R1 E1 g2 i v w':=by
 match i,hi,h with
 | 0,_,h | 1,_,h | 2,_,h | 3,_,h | 4,_,h | 5,_,h | 6,_,h | 7,_,h | 8,_,h | 9,_,h | 10,_,h | 11,_,h | 12,_,h | 13,_,h | 14,_,h | 15,_,h | 16,_,h | 17,_,h | 18,_,h | 19,_,h | 20,_,h | 21,_,h | 22,_,h | 23,_,h=>exact h
 | q+24,hi,_=>exact absurd hi (by omega)
def qh2(b1 o1 m ca j u pl pc:Nat)(y:Int)(K1 N1 U1 V1 W1:Int)(t1 T1:ByteArray)(PA F1 G1:Option Addr)(M1 D1 R1 E1:Nat)(g2:Tr)(s1 s2 s5 s6 s7 s8 s9 s10 s11 s12 s13 s14 s15 s16 s17 s18 s19 s20 s21 s22 s23 s24 s25 s26 s27 s28 s29 s30 s31 s32 s33 s34 s35 s36 s37 s38 s39 s40 s41 s42 s43 s44 s45 s46 s47 s48 s49 s50 s51 s52 s53 s54 s55 s56 s57 s58 s59 s60 s61 s62 s63 s64 s65 s66 s67 s68 s69 s70 s71 s72 s73 s74 s75 s76 s77 s78 s79 s80 s81 s82 s83 s84 s85 s86 s87 s88 s89 s90 s91 s92 s93 s94 s95 s96 s97 s98 s99 s100 s101 s102 s103 s104 s105 s106 s107 s108 s109 s110 s111 s112 s113 s114 s115 s116 s117:Value)(df:List Deferred):Act:={ tmps:=#[.slice (some ⟨b1,o1,none⟩) m ca,s1,s2,.int .i64 y,.int .i64 (j:Int),s5,s6,s7,s8,s9,s10,s11,s12,s13,s14,s15,s16,s17,s18,s19,s20,s21,s22,s23,s24,s25,s26,s27,s28,s29,s30,s31,s32,s33,s34,s35,s36,s37,s38,s39,s40,s41,s42,s43,s44,s45,s46,s47,s48,s49,s50,s51,s52,s53,s54,s55,s56,s57,s58,s59,s60,s61,s62,s63,s64,s65,s66,s67,s68,s69,s70,s71,s72,s73,s74,s75,s76,s77,s78,s79,s80,s81,s82,s83,s84,s85,s86,s87,s88,s89,s90,s91,s92,s93,s94,s95,s96,s97,s98,s99,s100,s101,s102,s103,s104,s105,s106,s107,s108,s109,s110,s111,s112,s113,s114,s115,s116,s117],defers:=df }
def qgy(b1 o1 m ca j u pl pc:Nat)(y:Int)(K1 N1 U1 V1 W1:Int)(t1 T1:ByteArray)(PA F1 G1:Option Addr)(M1 D1 R1 E1:Nat)(g2:Tr)(s1 s2 s5 s6 s7 s8 s9 s10 s11 s12 s13 s14 s15 s16 s17 s18 s19 s20 s21 s22 s23 s24 s25 s26 s27 s28 s29 s30 s31 s32 s33 s34 s35 s36 s37 s38 s39 s40 s41 s42 s43 s44 s45 s46 s47 s48 s49 s50 s51 s52 s53 s54 s55 s56 s57 s58 s59 s60 s61 s62 s63 s64 s65 s66 s67 s68 s69 s70 s71 s72 s73 s74 s75 s76 s77 s78 s79 s80 s81 s82 s83 s84 s85 s86 s87 s88 s89 s90 s91 s92 s93 s94 s95 s96 s97 s98 s99 s100 s101 s102 s103 s104 s105 s106 s107 s108 s109 s110 s111 s112 s113 s114 s115 s116 s117:Value)(df:List Deferred)(V:Nat->Value):Act:={ tmps:=#[.slice (some ⟨b1,o1,none⟩) m ca,s1,s2,.int .i64 y,.int .i64 (j:Int),s5,s6,s7,s8,s9,s10,s11,s12,s13,V 0,V 1,V 2,V 3,V 4,V 5,V 6,V 7,V 8,V 9,V 10,V 11,V 12,V 13,V 14,V 15,V 16,V 17,V 18,V 19,V 20,V 21,V 22,V 23,s38,s39,s40,s41,s42,s43,s44,s45,s46,s47,s48,s49,s50,s51,s52,s53,s54,s55,s56,s57,s58,s59,s60,s61,s62,s63,s64,s65,s66,s67,s68,s69,s70,s71,s72,s73,s74,s75,s76,s77,s78,s79,s80,s81,s82,s83,s84,s85,s86,s87,s88,s89,s90,s91,s92,s93,s94,s95,s96,s97,s98,s99,s100,s101,s102,s103,s104,s105,s106,s107,s108,s109,s110,s111,s112,s113,s114,s115,s116,s117],defers:=df }
theorem qco:zn .any regSd.toArray 24=true:=by kernel_rfl
theorem qdX:fwdB regSd.toArray 24=true:=by kernel_rfl
theorem qan:qL regSd.toArray 118=true:=by kernel_rfl
theorem qdY:Region.seqB .any regSd.toArray (regSd.length-24) 24 (Array.replicate 24 true++Array.replicate (regSd.length-24) false)=true:=by kernel_rfl
set_option maxRecDepth 100000 in
theorem qdW{id:Nat}(b1 o1 m ca j u pl pc:Nat)(y:Int)(K1 N1 U1 V1 W1:Int)(t1 T1:ByteArray)(PA F1 G1:Option Addr)(M1 D1 R1 E1:Nat)(g2:Tr)(s1 s2 s5 s6 s7 s8 s9 s10 s11 s12 s13 s14 s15 s16 s17 s18 s19 s20 s21 s22 s23 s24 s25 s26 s27 s28 s29 s30 s31 s32 s33 s34 s35 s36 s37 s38 s39 s40 s41 s42 s43 s44 s45 s46 s47 s48 s49 s50 s51 s52 s53 s54 s55 s56 s57 s58 s59 s60 s61 s62 s63 s64 s65 s66 s67 s68 s69 s70 s71 s72 s73 s74 s75 s76 s77 s78 s79 s80 s81 s82 s83 s84 s85 s86 s87 s88 s89 s90 s91 s92 s93 s94 s95 s96 s97 s98 s99 s100 s101 s102 s103 s104 s105 s106 s107 s108 s109 s110 s111 s112 s113 s114 s115 s116 s117:Value)(df:List Deferred)(w:World)(i1:(0:Int)<=(j:Int))(i2:(j:Int)<(m:Int))(hy1:0<=y)(hy9:y<=9000)(hu:t1.size / 64=u)(hu2:u<=17179869184)(hpl:pl<=1048576)(h1:b1<w.drew.heap.size)(fa1:w.drew.cell? ⟨b1,o1+j*16+1,none⟩=some (.string t1))(fa5:w.drew.cell? ⟨b1,o1+j*16+5,none⟩=some (.slice PA pl pc))(fa8:w.drew.cell? ⟨b1,o1+j*16+8,none⟩=some (.int .u8 K1))(fa9:w.drew.cell? ⟨b1,o1+j*16+9,none⟩=some (.string T1))(fa10:w.drew.cell? ⟨b1,o1+j*16+10,none⟩=some (.int .i64 N1))(fa11:w.drew.cell? ⟨b1,o1+j*16+11,none⟩=some (.int .i64 U1))(fa12:w.drew.cell? ⟨b1,o1+j*16+12,none⟩=some (.int .i64 V1))(fa13:w.drew.cell? ⟨b1,o1+j*16+13,none⟩=some (.int .i64 W1))(fa14:w.drew.cell? ⟨b1,o1+j*16+14,none⟩=some (.slice F1 M1 D1))(fa15:w.drew.cell? ⟨b1,o1+j*16+15,none⟩=some (.slice G1 R1 E1))(HX:∀ W,Bel w.drew W->Calls Tryz.prog 15 #[.agg #[.int .u8 K1,T1,N1,U1,V1,W1,.slice F1 M1 D1,.slice G1 R1 E1],(0:Int)] W (jA (capX 0) 0 g2 W))(Q:Exit->Act->World->Prop)
  (hend:∀ (V:Nat->Value) (w':World),Bel w.drew w'->(∃ z:Int,(V 23)=.int .i64 (y+1+(u:Int)+(pl:Int)+z)/\ZQ (capX 0) 0 g2 z)->wpList Tryz.prog regSd.toArray Q (regSd.drop 24) (qgy b1 o1 m ca j u pl pc y K1 N1 U1 V1 W1 t1 T1 PA F1 G1 M1 D1 R1 E1 g2 s1 s2 s5 s6 s7 s8 s9 s10 s11 s12 s13 s14 s15 s16 s17 s18 s19 s20 s21 s22 s23 s24 s25 s26 s27 s28 s29 s30 s31 s32 s33 s34 s35 s36 s37 s38 s39 s40 s41 s42 s43 s44 s45 s46 s47 s48 s49 s50 s51 s52 s53 s54 s55 s56 s57 s58 s59 s60 s61 s62 s63 s64 s65 s66 s67 s68 s69 s70 s71 s72 s73 s74 s75 s76 s77 s78 s79 s80 s81 s82 s83 s84 s85 s86 s87 s88 s89 s90 s91 s92 s93 s94 s95 s96 s97 s98 s99 s100 s101 s102 s103 s104 s105 s106 s107 s108 s109 s110 s111 s112 s113 s114 s115 s116 s117 df V) w') :
  (Code.region id regSd.toArray true).wp Tryz.prog Q (qh2 b1 o1 m ca j u pl pc y K1 N1 U1 V1 W1 t1 T1 PA F1 G1 M1 D1 R1 E1 g2 s1 s2 s5 s6 s7 s8 s9 s10 s11 s12 s13 s14 s15 s16 s17 s18 s19 s20 s21 s22 s23 s24 s25 s26 s27 s28 s29 s30 s31 s32 s33 s34 s35 s36 s37 s38 s39 s40 s41 s42 s43 s44 s45 s46 s47 s48 s49 s50 s51 s52 s53 s54 s55 s56 s57 s58 s59 s60 s61 s62 s63 s64 s65 s66 s67 s68 s69 s70 s71 s72 s73 s74 s75 s76 s77 s78 s79 s80 s81 s82 s83 s84 s85 s86 s87 s88 s89 s90 s91 s92 s93 s94 s95 s96 s97 s98 s99 s100 s101 s102 s103 s104 s105 s106 s107 s108 s109 s110 s111 s112 s113 s114 s115 s116 s117 df) w:=by
 refine jw (l:=regSd) 24 _ w (qeB b1 o1 m ca j u pl pc y K1 N1 U1 V1 W1 t1 T1 PA F1 G1 M1 D1 R1 E1 g2) (by kernel_rfl) qco qdX qan qdY (fun i v w w' hi h hb=>qaK i v w w' hi h hb) ?_ ?_
 ·intro i' o hi' ho a w1 V hbel hdep hpar K hK
  have p0:a.eval (.tmp 0)=.slice (some ⟨b1,o1,none⟩) m ca:=hpar 0 (by show 0<118;decide) (by kernel_rfl);have p0':=tD p0;have p3:a.eval (.tmp 3)=.int .i64 y:=hpar 3 (by show 3<118;decide) (by kernel_rfl);have p3':=tD p3;have p4:a.eval (.tmp 4)=.int .i64 (j:Int):=hpar 4 (by show 4<118;decide) (by kernel_rfl);have p4':=tD p4;have ga1:=gX hbel h1 fa1;have ga5:=gX hbel h1 fa5;have ga8:=gX hbel h1 fa8;have ga9:=gX hbel h1 fa9;have ga10:=gX hbel h1 fa10;have ga11:=gX hbel h1 fa11;have ga12:=gX hbel h1 fa12;have ga13:=gX hbel h1 fa13;have ga14:=gX hbel h1 fa14;have ga15:=gX hbel h1 fa15;have hw1:IntKind.i64.wrap (y+1)=y+1:=(IntWalk.i64_left _).trans (IntWalk.wrap64_in _ (by omega));have hq8:IntKind.i64.wrap (((t1.size:Nat):Int) / 64)=(u:Int):=by rw[show ((t1.size:Nat):Int) / 64=(u:Int) by omega];exact (IntWalk.i64_left _).trans (IntWalk.wrap64_in _ (by omega))
  have hq8b:IntKind.i64.wrap (Int.tdiv ((t1.size:Nat):Int) 64)=(u:Int):=by rw[Int.tdiv_eq_ediv_of_nonneg (by omega)];exact hq8
  have hw9:IntKind.i64.wrap (y+1+(u:Int))=y+1+(u:Int):=(IntWalk.i64_left _).trans (IntWalk.wrap64_in _ (by omega));have hw16:IntKind.i64.wrap (y+1+(u:Int)+(pl:Int))=y+1+(u:Int)+(pl:Int):=(IntWalk.i64_left _).trans (IntWalk.wrap64_in _ (by omega));match i',hi',ho,hdep,hK with
  | 0,_,ho,hdep,hK=>
   simp only[regSd,gT,gZ,gI]at ho;subst ho;exact nG rfl (wV (by simp[execOp,go_sem,p3']) hK rfl)
  | 1,_,ho,hdep,hK=>
   simp only[regSd,gT,gZ,gS,gI]at ho;subst ho;refine nG rfl ?_;have e0':=tK (t:=14) (hdep ⟨0,.data⟩ (by simp) rfl) rfl;exact wV (by simp[execOp,go_sem,e0',hw1]) hK rfl
  | 2,_,ho,hdep,hK=>
   simp only[regSd,gT,gZ,gS,gI]at ho;subst ho;exact nG rfl (wV (by simp[execOp,go_sem,p0']) hK rfl)
  | 3,_,ho,hdep,hK=>
   simp only[regSd,gT,gZ,gS,gI]at ho;subst ho;exact nG rfl (wV (by simp[execOp,go_sem,p4']) hK rfl)
  | 4,_,ho,hdep,hK=>
   simp only[regSd,gT,gZ,gS,gI]at ho;subst ho;refine nG rfl ?_;have e2':=tK (t:=16) (hdep ⟨2,.data⟩ (by simp) rfl) rfl;have e3':=tK (t:=17) (hdep ⟨3,.data⟩ (by simp) rfl) rfl;exact wV (by simp[execOp,go_sem,e2',e3',i1,i2]) hK rfl
  | 5,_,ho,hdep,hK=>
   simp only[regSd,gT,gZ,gS,gI]at ho;subst ho;refine nG rfl ?_;have e4':=tK (t:=18) (hdep ⟨4,.data⟩ (by simp) rfl) rfl;exact wV (by simp[execOp,go_sem,e4']) hK rfl
  | 6,_,ho,hdep,hK=>
   simp only[regSd,gT,gZ,gS,gI]at ho;subst ho;refine nG rfl ?_;have e5':=tK (t:=19) (hdep ⟨5,.data⟩ (by simp) rfl) rfl;exact wV (by simp[execOp,go_sem,e5',ga1]) hK rfl
  | 7,_,ho,hdep,hK=>
   simp only[regSd,gT,gZ,gS,gI]at ho;subst ho;refine nG rfl ?_;have e6':=tK (t:=20) (hdep ⟨6,.data⟩ (by simp) rfl) rfl;exact wV (by simp[go_sem,e6']) hK rfl
  | 8,_,ho,hdep,hK=>
   simp only[regSd,gT,gZ,gS,gI]at ho;subst ho;refine nG rfl ?_;have e7':=tK (t:=21) (hdep ⟨7,.data⟩ (by simp) rfl) rfl;exact wV (by simp[execOp,go_sem,e7',hq8]) hK rfl
  | 9,_,ho,hdep,hK=>
   simp only[regSd,gT,gZ,gS,gI]at ho;subst ho;refine nG rfl ?_;have e1':=tK (t:=15) (hdep ⟨1,.data⟩ (by simp) rfl) rfl;have e8':=tK (t:=22) (hdep ⟨8,.data⟩ (by simp) rfl) rfl;exact wV (by simp[execOp,go_sem,e1',e8',hw9]) hK rfl
  | 10,_,ho,hdep,hK=>
   simp only[regSd,gT,gZ,gS,gI]at ho;subst ho;exact nG rfl (wV (by simp[execOp,go_sem,p0']) hK rfl)
  | 11,_,ho,hdep,hK=>
   simp only[regSd,gT,gZ,gS,gI]at ho;subst ho;exact nG rfl (wV (by simp[execOp,go_sem,p4']) hK rfl)
  | 12,_,ho,hdep,hK=>
   simp only[regSd,gT,gZ,gS,gI]at ho;subst ho;refine nG rfl ?_;have e10':=tK (t:=24) (hdep ⟨10,.data⟩ (by simp) rfl) rfl;have e11':=tK (t:=25) (hdep ⟨11,.data⟩ (by simp) rfl) rfl;exact wV (by simp[execOp,go_sem,e10',e11',i1,i2]) hK rfl
  | 13,_,ho,hdep,hK=>
   simp only[regSd,gT,gZ,gS,gI]at ho;subst ho;refine nG rfl ?_;have e12':=tK (t:=26) (hdep ⟨12,.data⟩ (by simp) rfl) rfl;exact wV (by simp[execOp,go_sem,e12']) hK rfl
  | 14,_,ho,hdep,hK=>
   simp only[regSd,gT,gZ,gS,gI]at ho;subst ho;refine nG rfl ?_;have e13':=tK (t:=27) (hdep ⟨13,.data⟩ (by simp) rfl) rfl;exact wV (by simp[execOp,go_sem,e13',ga5]) hK rfl
  | 15,_,ho,hdep,hK=>
   simp only[regSd,gT,gZ,gS,gI]at ho;subst ho;refine nG rfl ?_;have e14':=tK (t:=28) (hdep ⟨14,.data⟩ (by simp) rfl) rfl;exact wV (by simp[go_sem,e14']) hK rfl
  | 16,_,ho,hdep,hK=>
   simp only[regSd,gT,gZ,gS,gI]at ho;subst ho;refine nG rfl ?_;have e9':=tK (t:=23) (hdep ⟨9,.data⟩ (by simp) rfl) rfl;have e15':=tK (t:=29) (hdep ⟨15,.data⟩ (by simp) rfl) rfl;exact wV (by simp[execOp,go_sem,e9',e15',hw16]) hK rfl
  | 17,_,ho,hdep,hK=>
   simp only[regSd,gT,gZ,gS,gI]at ho;subst ho;exact nG rfl (wV (by simp[execOp,go_sem,p0']) hK rfl)
  | 18,_,ho,hdep,hK=>
   simp only[regSd,gT,gZ,gS,gI]at ho;subst ho;exact nG rfl (wV (by simp[execOp,go_sem,p4']) hK rfl)
  | 19,_,ho,hdep,hK=>
   simp only[regSd,gT,gZ,gS,gI]at ho;subst ho;refine nG rfl ?_;have e17':=tK (t:=31) (hdep ⟨17,.data⟩ (by simp) rfl) rfl;have e18':=tK (t:=32) (hdep ⟨18,.data⟩ (by simp) rfl) rfl;exact wV (by simp[execOp,go_sem,e17',e18',i1,i2]) hK rfl
  | 20,_,ho,hdep,hK=>
   simp only[regSd,gT,gZ,gS,gI]at ho;subst ho;refine nG rfl ?_;have e19':=tK (t:=33) (hdep ⟨19,.data⟩ (by simp) rfl) rfl;exact wV (by simp[execOp,go_sem,e19']) hK rfl
  | 21,_,ho,hdep,hK=>
   simp only[regSd,gT,gZ,gS,gI]at ho;subst ho;refine nG rfl ?_;have e20':=tK (t:=34) (hdep ⟨20,.data⟩ (by simp) rfl) rfl;exact wV (by simp[execOp,go_sem,e20',ga8,ga9,ga10,ga11,ga12,ga13,ga14,ga15]) hK rfl
  | 22,_,ho,hdep,hK=>
   simp only[regSd,gT,gZ,gS,gI]at ho;subst ho;refine nG rfl ?_;have e21':=tK (t:=35) (hdep ⟨21,.data⟩ (by simp) rfl) rfl;refine qg (f:=15) (args:=#[.agg #[.int .u8 K1,T1,N1,U1,V1,W1,.slice F1 M1 D1,.slice G1 R1 E1],(0:Int)]) (by simp[go_sem,e21']) ((HX w1 hbel).mono ?_);rintro e w' ⟨z,rfl,q1,q2,q3,hb⟩;exact⟨_,rfl,hK _ _ hb ⟨z,rfl,q1,q2,q3⟩⟩
  | 23,_,ho,hdep,hK=>
   simp only[regSd,gT,gZ,gS,gI]at ho;subst ho;refine nG rfl ?_;have e16':=tK (t:=30) (hdep ⟨16,.data⟩ (by simp) rfl) rfl;obtain⟨f22,d22⟩:=hdep ⟨22,.data⟩ (by simp) rfl;obtain⟨z22,hv22,hq22⟩:=f22;have e22:a.eval (.tmp 36)=.int .i64 z22:=(d22 36 rfl).trans hv22;have e22':=tD e22;have hw23:IntKind.i64.wrap (y+1+(u:Int)+(pl:Int)+z22)=y+1+(u:Int)+(pl:Int)+z22:=(IntWalk.i64_left _).trans (IntWalk.wrap64_in _ (by have:=hq22.1;have a:=hq22.2.1;unfold capX at a;omega));exact zj (v:= .int .i64 (y+1+(u:Int)+(pl:Int)+z22)) (w':=w1) (by simp[execOp,go_sem,e16',e22',hw23]) (hK _ _ (Bel.refl _) ⟨z22,rfl,hq22⟩)
  | q+24,hi,_,_,_=>exact absurd hi (by omega)
 ·intro V w' hb hF
  have e:finA regSd.toArray 24 V (qh2 b1 o1 m ca j u pl pc y K1 N1 U1 V1 W1 t1 T1 PA F1 G1 M1 D1 R1 E1 g2 s1 s2 s5 s6 s7 s8 s9 s10 s11 s12 s13 s14 s15 s16 s17 s18 s19 s20 s21 s22 s23 s24 s25 s26 s27 s28 s29 s30 s31 s32 s33 s34 s35 s36 s37 s38 s39 s40 s41 s42 s43 s44 s45 s46 s47 s48 s49 s50 s51 s52 s53 s54 s55 s56 s57 s58 s59 s60 s61 s62 s63 s64 s65 s66 s67 s68 s69 s70 s71 s72 s73 s74 s75 s76 s77 s78 s79 s80 s81 s82 s83 s84 s85 s86 s87 s88 s89 s90 s91 s92 s93 s94 s95 s96 s97 s98 s99 s100 s101 s102 s103 s104 s105 s106 s107 s108 s109 s110 s111 s112 s113 s114 s115 s116 s117 df)=qgy b1 o1 m ca j u pl pc y K1 N1 U1 V1 W1 t1 T1 PA F1 G1 M1 D1 R1 E1 g2 s1 s2 s5 s6 s7 s8 s9 s10 s11 s12 s13 s14 s15 s16 s17 s18 s19 s20 s21 s22 s23 s24 s25 s26 s27 s28 s29 s30 s31 s32 s33 s34 s35 s36 s37 s38 s39 s40 s41 s42 s43 s44 s45 s46 s47 s48 s49 s50 s51 s52 s53 s54 s55 s56 s57 s58 s59 s60 s61 s62 s63 s64 s65 s66 s67 s68 s69 s70 s71 s72 s73 s74 s75 s76 s77 s78 s79 s80 s81 s82 s83 s84 s85 s86 s87 s88 s89 s90 s91 s92 s93 s94 s95 s96 s97 s98 s99 s100 s101 s102 s103 s104 s105 s106 s107 s108 s109 s110 s111 s112 s113 s114 s115 s116 s117 df V:=by kernel_rfl
  rw[e];exact hend V w' hb (hF 23 (by omega))
end Go.Proofs.YtlmmaoobembadaaGreatDoor.Mu
namespace Go.Proofs.YtlmmaoobembadaaGreatDoor.Mu
open Go
set_option linter.unusedVariables false
def Tr.app:Tr->Tr->Tr
 | .nil,g=>g
 | .nod k s n p a b r,g=> .nod k s n p a b (r.app g)
 | .arm k s n p a b r,g=> .arm k s n p a b (r.app g)
def Tr.exs:Tr->Tr
 | .nil=> .nil
 | .nod _ _ _ _ _ _ r=>r.exs
 | .arm _ _ _ _ _ e r=>e.app r.exs
def Tr.pats:Tr->Tr
 | .nil=> .nil
 | .nod _ _ _ _ _ _ r=>r.pats
 | .arm k s n p a _ r=> .nod k s n p a .nil r.pats
theorem Tr.app_len:∀ f g:Tr,(f.app g).len=f.len+g.len
 | .nil,g=>by simp[Tr.app,Tr.len]
 | .nod _ _ _ _ _ _ r,g=>by simp only[Tr.app,Tr.len,Tr.app_len r g];omega
 | .arm _ _ _ _ _ _ r,g=>by simp only[Tr.app,Tr.len,Tr.app_len r g];omega
theorem Tr.app_size:∀ f g:Tr,(f.app g).size=f.size+g.size
 | .nil,g=>by simp[Tr.app,Tr.size]
 | .nod _ _ _ _ _ _ r,g=>by simp only[Tr.app,Tr.size,Tr.app_size r g];omega
 | .arm _ _ _ _ _ _ r,g=>by simp only[Tr.app,Tr.size,Tr.app_size r g];omega
theorem Tr.app_nil:∀ f:Tr,f.app .nil=f
 | .nil=>rfl
 | .nod _ _ _ _ _ _ r=>by simp only[Tr.app,Tr.app_nil r]
 | .arm _ _ _ _ _ _ r=>by simp only[Tr.app,Tr.app_nil r]
theorem Tr.app_assoc:∀ f g h:Tr,(f.app g).app h=f.app (g.app h)
 | .nil,_,_=>rfl
 | .nod _ _ _ _ _ _ r,g,h=>by simp only[Tr.app,Tr.app_assoc r g h]
 | .arm _ _ _ _ _ _ r,g,h=>by simp only[Tr.app,Tr.app_assoc r g h]
theorem Tr.exs_size:∀ f:Tr,f.exs.size<=f.size
 | .nil=>Nat.le_refl _
 | .nod _ _ _ _ k a r=>by have:=Tr.exs_size r;simp only[Tr.exs,Tr.size];omega
 | .arm _ _ _ _ k e r=>by have:=Tr.exs_size r;simp only[Tr.exs,Tr.size,Tr.app_size];omega
theorem Tr.pats_size:∀ f:Tr,f.pats.size<=f.size
 | .nil=>Nat.le_refl _
 | .nod _ _ _ _ k a r=>by have:=Tr.pats_size r;simp only[Tr.pats,Tr.size];omega
 | .arm _ _ _ _ k e r=>by have:=Tr.pats_size r;simp only[Tr.pats,Tr.size];omega
structure Vis where
 d:Nat
 k:Int
 s:List UInt8
 n:Int
 kids:Tr
 arms:Tr
def Tr.pre:Nat->Tr->List Vis
 | _,.nil=>[]
 | d,.nod k s n _ kids arms rest=>⟨d,k,s,n,kids,arms⟩::(kids.pre (d+1)++arms.pre (d+1)++rest.pre d)
 | d,.arm _ _ _ _ _ e rest=>e.pre d++rest.pre d
theorem Tr.pre_app:∀ (f g:Tr) (d:Nat),(f.app g).pre d=f.pre d++g.pre d
 | .nil,_,_=>rfl
 | .nod _ _ _ _ _ _ r,g,d=>by simp only[Tr.app,Tr.pre,Tr.pre_app r g d,List.cons_append,List.append_assoc]
 | .arm _ _ _ _ _ _ r,g,d=>by simp only[Tr.app,Tr.pre,Tr.pre_app r g d,List.append_assoc]
theorem Tr.pre_size:∀ (f:Tr) (d:Nat) (v:Vis),v∈f.pre d->v.kids.size+v.arms.size<=f.size/\v.d<=d+f.size
 | .nil,_,_,h=>by simp[Tr.pre]at h
 | .nod k s n p kids arms r,d,v,h=>by
  simp only[Tr.pre,List.mem_cons,List.mem_append]at h;simp only[Tr.size];rcases h with rfl | (h | h) | h
  ·simp only;omega
  ·have:=Tr.pre_size kids _ v h;omega
  ·have:=Tr.pre_size arms _ v h;omega
  ·have:=Tr.pre_size r _ v h;omega
 | .arm _ _ _ _ k e r,d,v,h=>by
  simp only[Tr.pre,List.mem_append]at h;simp only[Tr.size];rcases h with h | h
  ·have:=Tr.pre_size e _ v h;omega
  ·have:=Tr.pre_size r _ v h;omega
def Tr.isArms:Tr->Prop
 | .nil=>True
 | .nod ..=>False
 | .arm _ _ _ _ _ e r=>e.len=1/\r.isArms
theorem Tr.exs_pre:∀ (f:Tr) (d:Nat),f.isArms->f.exs.pre d=f.pre d
 | .nil,_,_=>rfl
 | .arm _ _ _ _ _ _ r,d,h=>by simp only[Tr.exs,Tr.pre,Tr.pre_app,Tr.exs_pre r d h.2]
theorem Tr.exs_len:∀ f:Tr,f.isArms->f.exs.len=f.len
 | .nil,_=>rfl
 | .arm _ _ _ _ _ _ r,h=>by simp only[Tr.exs,Tr.app_len,Tr.len,Tr.exs_len r h.2,h.1];omega
theorem Tr.pats_len:∀ f:Tr,f.isArms->f.pats.len=f.len
 | .nil,_=>rfl
 | .arm _ _ _ _ _ _ r,h=>by simp only[Tr.pats,Tr.len,Tr.pats_len r h.2]
theorem TrAt.isArms{w:World}{Ok:Nat->Prop}:∀ (f:Tr) (b o:Nat),TrAt w Ok f .arms b o->f.isArms
 | .nil,_,_,_=>trivial
 | .nod ..,_,_,h=>by
  rcases h.2.2.1 with ⟨e,_⟩ | ⟨e | e,_⟩ <;> cases e
 | .arm k s n p kids e rest,b,o,h=>⟨h.2.2.2.1,TrAt.isArms rest b _ h.2.2.2.2.2⟩
def Tr.isNods:Tr->Prop
 | .nil=>True
 | .nod _ _ _ _ _ _ r=>r.isNods
 | .arm ..=>False
theorem TrAt.isNods{w:World}{Ok:Nat->Prop}{sh:Sh}(hsh:sh ≠ .arms):∀ (f:Tr) (b o:Nat),TrAt w Ok f sh b o->f.isNods
 | .nil,_,_,_=>trivial
 | .nod _ _ _ _ _ _ r,b,o,h=>TrAt.isNods hsh r b _ h.2.2.2
 | .arm ..,b,o,h=>absurd h.1 hsh
def Tr.pdepth:Tr->Nat
 | .nil=>0
 | .nod _ _ _ _ _ _ r=>r.pdepth
 | .arm _ _ _ _ k _ r=>max (1+k.depth) r.pdepth
theorem Tr.pats_depth:∀ f:Tr,f.pats.depth=f.pdepth
 | .nil=>rfl
 | .nod _ _ _ _ _ _ r=>Tr.pats_depth r
 | .arm k s n p a _ r=>by simp only[Tr.pats,Tr.depth,Tr.pdepth,Tr.pats_depth r];omega
def Tr.ok:Tr->Prop
 | .nil=>True
 | .nod _ _ _ _ kids arms rest=>kids.isNods/\kids.ok/\arms.isArms/\arms.ok/\rest.ok
 | .arm _ _ _ _ kids e rest=>kids.isNods/\kids.ok/\e.isNods/\e.ok/\rest.ok
theorem Tr.len_nil:∀ f:Tr,f.len=0->f=.nil
 | .nil,_=>rfl
 | .nod ..,h=>by simp[Tr.len]at h
 | .arm ..,h=>by simp[Tr.len]at h
theorem TrAt.ok{w:World}{Ok:Nat->Prop}:∀ (f:Tr) (sh:Sh) (b o:Nat),TrAt w Ok f sh b o->f.ok
 | .nil,_,_,_,_=>trivial
 | .nod k s n p kids arms rest,sh,b,o,h=>by
  obtain⟨_,⟨A,cap,_,_,a3⟩,h3,h4⟩:=h;have hsh:sh ≠ .arms:=by
   rintro rfl;rcases h3 with ⟨e,_⟩ | ⟨e | e,_⟩ <;> cases e
  refine⟨?_,?_,?_,?_,TrAt.ok rest sh b _ h4⟩
  ·rcases Nat.eq_zero_or_pos kids.len with e | e
   ·rw[Tr.len_nil kids e];trivial
   ·obtain⟨b',o',_,_,h⟩:=a3 e;exact TrAt.isNods hsh kids b' o' h
  ·rcases Nat.eq_zero_or_pos kids.len with e | e
   ·rw[Tr.len_nil kids e];trivial
   ·obtain⟨b',o',_,_,h⟩:=a3 e;exact TrAt.ok kids sh b' o' h
  ·rcases h3 with ⟨_,A2,c2,_,_,a4⟩ | ⟨_,e⟩
   ·rcases Nat.eq_zero_or_pos arms.len with e | e
    ·rw[Tr.len_nil arms e];trivial
    ·obtain⟨b',o',_,_,h⟩:=a4 e;exact TrAt.isArms arms b' o' h
   ·rw[Tr.len_nil arms e];trivial
  ·rcases h3 with ⟨_,A2,c2,_,_,a4⟩ | ⟨_,e⟩
   ·rcases Nat.eq_zero_or_pos arms.len with e | e
    ·rw[Tr.len_nil arms e];trivial
    ·obtain⟨b',o',_,_,h⟩:=a4 e;exact TrAt.ok arms .arms b' o' h
   ·rw[Tr.len_nil arms e];trivial
 | .arm k s n p kids e rest,sh,b,o,h=>by
  obtain⟨_,_,⟨A,cap,_,_,a3⟩,_,h4,h5⟩:=h;refine⟨?_,?_,TrAt.isNods (by intro e;cases e) e b _ h4,TrAt.ok e .ex b _ h4,TrAt.ok rest sh b _ h5⟩
  ·rcases Nat.eq_zero_or_pos kids.len with e | e
   ·rw[Tr.len_nil kids e];trivial
   ·obtain⟨b',o',_,_,h⟩:=a3 e;exact TrAt.isNods (by intro e;cases e) kids b' o' h
  ·rcases Nat.eq_zero_or_pos kids.len with e | e
   ·rw[Tr.len_nil kids e];trivial
   ·obtain⟨b',o',_,_,h⟩:=a3 e;exact TrAt.ok kids .pat b' o' h
def vmax(h:Vis->Nat)(m:Nat)(l:List Vis):Nat:=l.foldl (fun m v=>max m (v.d+h v)) m
theorem qbC(h:Vis->Nat)(m:Nat)(a b:List Vis):vmax h m (a++b)=vmax h (vmax h m a) b:=by simp[vmax]
theorem JY(h:Vis->Nat)(m:Nat)(v:Vis)(b:List Vis):vmax h m (v::b)=vmax h (max m (v.d+h v)) b:=by simp[vmax]
theorem Q8(h:Vis->Nat)(m:Nat)(a:List Vis)(v:Vis):vmax h m (a++[v])=max (vmax h m a) (v.d+h v):=by simp[vmax]
theorem qeY(h:Vis->Nat):∀ (l:List Vis) (m:Nat),m<=vmax h m l
 | [],m=>Nat.le_refl _
 | v::l,m=>by rw[JY];exact Nat.le_trans (Nat.le_max_left _ _) (qeY h l _)
def dd(d n:Nat):Nat:=if n=0 then 0 else d+n
theorem Jt(d a b:Nat):dd d (max a b)=max (dd d a) (dd d b):=by
 unfold dd;by_cases ha:a=0 <;> by_cases hb:b=0
 ·subst ha hb;rfl
 ·subst ha
  rw[if_neg hb,if_pos rfl,Nat.zero_max,if_neg hb,Nat.zero_max]
 ·subst hb
  rw[if_neg ha,if_pos rfl,Nat.max_zero,if_neg ha,Nat.max_zero]
 ·rw[if_neg ha,if_neg hb,if_neg (by omega)];omega
theorem qc5(d n:Nat):dd d (1+n)=max (d+1) (dd (d+1) n):=by
 unfold dd;rw[if_neg (by omega)];by_cases h:n=0
 ·rw[if_pos h,h];omega
 ·rw[if_neg h];omega
theorem qgT(d n R:Nat):dd d n<=R↔(n=0∨d+n<=R):=by
 unfold dd;by_cases h:n=0
 ·rw[if_pos h];simp[h]
 ·rw[if_neg h];simp[h]
theorem Tr.pdepth_le:∀ f:Tr,f.pdepth<=f.depth
 | .nil=>Nat.le_refl _
 | .nod _ _ _ _ k a r=>by have:=Tr.pdepth_le r;simp only[Tr.pdepth,Tr.depth];omega
 | .arm _ _ _ _ k e r=>by have:=Tr.pdepth_le r;simp only[Tr.pdepth,Tr.depth];omega
def hdE(v:Vis):Nat:=1+v.arms.pdepth
theorem Tr.pre_depth:∀ (f:Tr) (d m:Nat),f.ok->(f.isNods->vmax hdE m (f.pre d)=max m (dd d f.depth))/\(f.isArms->max (vmax hdE m (f.pre d)) (dd d f.pdepth)=max m (dd d f.depth))
 | .nil,d,m,_=>by simp[Tr.pre,vmax,dd,Tr.depth,Tr.pdepth]
 | .nod k s n p kids arms r,d,m,⟨k1,k2,a1,a2,r2⟩=>by
  refine⟨fun hr=>?_,fun h=>h.elim⟩;have h1:=(Tr.pre_depth kids (d+1) (max m (d+(1+arms.pdepth))) k2).1 k1;have h2:=(Tr.pre_depth arms (d+1) (vmax hdE (max m (d+(1+arms.pdepth))) (kids.pre (d+1))) a2).2 a1;have h3:=(Tr.pre_depth r d (vmax hdE (vmax hdE (max m (d+(1+arms.pdepth))) (kids.pre (d+1))) (arms.pre (d+1))) r2).1 hr;have hle:=qeY hdE (arms.pre (d+1)) (vmax hdE (max m (d+(1+arms.pdepth))) (kids.pre (d+1)));have ha1:dd (d+1) arms.pdepth<=d+(1+arms.pdepth):=by unfold dd;split <;> omega
  have ha2:d+(1+arms.pdepth)<=max (d+1) (dd (d+1) arms.depth):=by
   have:=Tr.pdepth_le arms;unfold dd;split <;> omega
  simp only[Tr.pre,JY,qbC,Tr.depth,Jt,qc5];rw[show (hdE ⟨d,k,s,n,kids,arms⟩)=1+arms.pdepth from rfl,h3];omega
 | .arm k s n p kids e r,d,m,⟨k1,k2,e1,e2,r2⟩=>by
  refine⟨fun h=>h.elim,fun ⟨hl,hr⟩=>?_⟩;have h1:=(Tr.pre_depth e d m e2).1 e1;have h2:=(Tr.pre_depth r d (vmax hdE m (e.pre d)) r2).2 hr;simp only[Tr.pre,qbC,Tr.depth,Tr.pdepth,Jt];omega
theorem Tr.depth_pre(f:Tr)(h1:f.isNods)(h2:f.ok):vmax hdE 0 (f.pre 0)=f.depth:=by
 rw[(Tr.pre_depth f 0 0 h2).1 h1];unfold dd;split <;> omega
def zc(self:Nat->Vis->Bool)(room:Nat)(v:Vis):Bool:=decide (v.d<room)&&self (room-v.d) v
def hdP(hP:Int->List UInt8->Int->Nat->Bool)(_:Nat)(v:Vis):Bool:=hP v.k v.s v.n v.kids.len
def hdX(hE:Int->List UInt8->Int->Nat->Nat->Bool)(hP:Int->List UInt8->Int->Nat->Bool)(room:Nat)(v:Vis):Bool:=
 hE v.k v.s v.n v.kids.len v.arms.len&&(v.arms.pats.pre 0).all (zc (hdP hP) (room-1))
section
variable (hE : Int -> List UInt8 -> Int -> Nat -> Nat -> Bool) (hP : Int -> List UInt8 -> Int -> Nat -> Bool)
def Tr.mayP:Tr->Bool
 | .nil=>true
 | .nod k s n _ kids _ r=>hP k s n kids.len&&kids.mayP&&r.mayP
 | .arm ..=>true
def Tr.mayE:Tr->Bool
 | .nil=>true
 | .nod k s n _ kids arms r=>hE k s n kids.len arms.len&&kids.mayE&&arms.mayE&&r.mayE
 | .arm k s n _ kids e r=>hP k s n kids.len&&kids.mayP hP&&e.mayE&&r.mayE
def Tr.bare:Tr->Prop
 | .nil=>True
 | .nod _ _ _ _ kids arms r=>arms=.nil/\kids.bare/\r.bare
 | .arm ..=>False
def zf(R d:Nat)(b:Bool)(n:Nat):Bool:=b&&decide (dd d n<=R)
theorem Tr.pre_mayP:∀ (f:Tr) (R d:Nat),f.bare->(f.pre d).all (zc (hdP hP) R)=zf R d (f.mayP hP) f.depth
 | .nil,R,d,_=>by simp[Tr.pre,Tr.mayP,zf,dd,Tr.depth]
 | .nod k s n p kids arms r,R,d,⟨ha,hk,hr⟩=>by
  have h1:=Tr.pre_mayP kids R (d+1) hk;have h2:=Tr.pre_mayP r R d hr;rw[ha];simp only[Tr.pre,List.all_cons,List.all_append,List.all_nil,h1,h2,Tr.mayP,zc,hdP,zf,Tr.depth,Jt,qc5];have e:(decide (d<R)&&(decide (dd (d+1) kids.depth<=R)&&decide (dd d r.depth<=R)))=decide (max (max (d+1) (max (dd (d+1) kids.depth) (dd (d+1) 0))) (dd d r.depth)<=R):=by
   rw[<- Bool.decide_and,<- Bool.decide_and];apply decide_eq_decide.2;have:dd (d+1) 0=0:=rfl;omega
  rw[<- e];cases hP k s n kids.len <;> cases kids.mayP hP <;> cases r.mayP hP <;> simp
 | .arm ..,_,_,h=>h.elim
def Tr.barep:Tr->Prop
 | .nil=>True
 | .nod _ _ _ _ kids arms r=>kids.barep/\arms.barep/\r.barep
 | .arm _ _ _ _ kids e r=>kids.bare/\e.barep/\r.barep
theorem Tr.pats_bare:∀ f:Tr,f.isArms->f.barep->f.pats.bare
 | .nil,_,_=>trivial
 | .arm _ _ _ _ kids e r,h,hb=>⟨rfl,hb.1,Tr.pats_bare r h.2 hb.2.2⟩
theorem Tr.pre_mayE:∀ (f:Tr) (R d:Nat),f.ok->f.barep->(f.isNods->(f.pre d).all (zc (hdX hE hP) R)=zf R d (f.mayE hE hP) f.depth) ∧
  (f.isArms->((f.pre d).all (zc (hdX hE hP) R)&&zf R d (f.pats.mayP hP) f.pdepth)=zf R d (f.mayE hE hP) f.depth)
 | .nil,R,d,_,_=>by simp[Tr.pre,Tr.mayE,Tr.pats,Tr.mayP,zf,dd,Tr.depth,Tr.pdepth]
 | .nod k s n p kids arms r,R,d,⟨k1,k2,a1,a2,r2⟩,⟨b1,b2,b3⟩=>by
  refine⟨fun hr=>?_,fun h=>h.elim⟩;have h1:=(Tr.pre_mayE kids R (d+1) k2 b1).1 k1;have h2:=(Tr.pre_mayE arms R (d+1) a2 b2).2 a1;have h3:=(Tr.pre_mayE r R d r2 b3).1 hr;have h4:=Tr.pre_mayP hP arms.pats (R-d-1) 0 (Tr.pats_bare arms a1 b2);rw[Tr.pats_depth]at h4;simp only[Tr.pre,List.all_cons,List.all_append,h1,h3,Tr.mayE,zc,hdX,Tr.depth,h4];have e0:(decide (d<R)&&zf (R-d-1) 0 (arms.pats.mayP hP) arms.pdepth)=(decide (d<R)&&zf R (d+1) (arms.pats.mayP hP) arms.pdepth):=by
   by_cases hd:d<R
   ·simp only[zf,dd,hd,decide_true,Bool.true_and]
    congr 1
    apply decide_eq_decide.2;have h1:=qgT 0 arms.pdepth (R-d-1);have h2:=qgT (d+1) arms.pdepth R;unfold dd at h1 h2;rw[h1,h2];omega
   ·simp[hd]
  have e1:(decide (d<R)&&(hE k s n kids.len arms.len&&zf (R-d-1) 0 (arms.pats.mayP hP) arms.pdepth)&&(zf R (d+1) (kids.mayE hE hP) kids.depth&&(arms.pre (d+1)).all (zc (hdX hE hP) R)&&zf R d (r.mayE hE hP) r.depth)) =
    (decide (d<R)&&hE k s n kids.len arms.len&&zf R (d+1) (kids.mayE hE hP) kids.depth&&zf R (d+1) (arms.mayE hE hP) arms.depth&&zf R d (r.mayE hE hP) r.depth):=by
   rw[<- h2];cases hE k s n kids.len arms.len
   ·simp
   ·have e0':=e0
    revert e0'
    generalize zf (R-d-1) 0 (arms.pats.mayP hP) arms.pdepth=x;generalize zf R (d+1) (arms.pats.mayP hP) arms.pdepth=y;generalize (arms.pre (d+1)).all (zc (hdX hE hP) R)=z;generalize zf R (d+1) (kids.mayE hE hP) kids.depth=u;generalize zf R d (r.mayE hE hP) r.depth=v;generalize decide (d<R)=t;cases x <;> cases y <;> cases z <;> cases u <;> cases v <;> cases t <;> simp
  rw[e1];have e:(decide (d<R)&&(decide (dd (d+1) kids.depth<=R)&&(decide (dd (d+1) arms.depth<=R)&&decide (dd d r.depth<=R))))=decide (dd d (max (1+max kids.depth arms.depth) r.depth)<=R):=by
   rw[<- Bool.decide_and,<- Bool.decide_and,<- Bool.decide_and];apply decide_eq_decide.2;simp only[Jt,qc5];omega
  simp only[zf];rw[<- e];cases hE k s n kids.len arms.len <;> cases kids.mayE hE hP <;> cases arms.mayE hE hP <;> cases r.mayE hE hP <;> simp[Bool.and_assoc]
 | .arm k s n p kids ex r,R,d,⟨k1,k2,e1,e2,r2⟩,⟨b1,b2,b3⟩=>by
  refine⟨fun h=>h.elim,fun ⟨hl,hr⟩=>?_⟩;have h1:=(Tr.pre_mayE ex R d e2 b2).1 e1;have h2:=(Tr.pre_mayE r R d r2 b3).2 hr;simp only[Tr.pre,List.all_append,h1,Tr.mayE,Tr.pats,Tr.mayP,Tr.pdepth,Tr.depth];have e0:∀ a b:Nat,decide (dd d (max a b)<=R)=(decide (dd d a<=R)&&decide (dd d b<=R)):=fun a b=>by
   rw[<- Bool.decide_and];apply decide_eq_decide.2;simp only[Jt];omega
  simp only[zf,e0]at h2 ⊢;revert h2
  generalize (r.pre d).all (zc (hdX hE hP) R)=z;generalize hP k s n kids.len=u1;generalize kids.mayP hP=u2;generalize r.pats.mayP hP=u3;generalize r.mayE hE hP=u4;generalize ex.mayE hE hP=u5;generalize decide (dd d (1+kids.depth)<=R)=t1;generalize decide (dd d r.pdepth<=R)=t2;generalize decide (dd d ex.depth<=R)=t3;generalize decide (dd d r.depth<=R)=t4;cases z <;> cases u1 <;> cases u2 <;> cases u3 <;> cases u4 <;> cases u5 <;> cases t1 <;> cases t2 <;> cases t3 <;> cases t4 <;> simp
end
end Go.Proofs.YtlmmaoobembadaaGreatDoor.Mu
namespace Go.Proofs.YtlmmaoobembadaaGreatDoor.Mu
open Go Go.RowKit
set_option linter.unusedVariables false
def Tells(w:World)(Ok:Nat->Prop)(sh:Sh)(f:Tr)(vs:List Value):Prop:=
 vs.length=f.len*sh.sz/\(∀ u∈vs,u.oneCell'=true) ∧
  ∀ (w':World) (b' o':Nat),(∀ j u,vs[j]?=some u->w'.cell? ⟨b',o'+j,none⟩=some u)->(∀ j,Ok j->w'.heap[j]?=w.heap[j]?)->TrAt w' Ok f sh b' o'
theorem Tells.nil{w:World}{Ok:Nat->Prop}{sh:Sh}:Tells w Ok sh .nil []:=⟨by simp[Tr.len],fun u hu=>(by cases hu),fun _ _ _ _ _=>trivial⟩
theorem TrAt.app{w:World}{Ok:Nat->Prop}{sh:Sh}:∀ (f g:Tr) (b o:Nat),TrAt w Ok f sh b o->TrAt w Ok g sh b (o+f.len*sh.sz)->TrAt w Ok (f.app g) sh b o
 | .nil,g,b,o,_,h=>by simpa [Tr.len,Tr.app] using h
 | .nod k s n p a c r,g,b,o,h,hg=>by
  obtain⟨h1,h2,h3,h4⟩:=h;refine⟨h1,h2,h3,TrAt.app r g b _ h4 ?_⟩;rw[show o+sh.sz+r.len*sh.sz=o+(Tr.nod k s n p a c r).len*sh.sz by simp only[Tr.len,Nat.add_mul];omega];exact hg
 | .arm k s n p a c r,g,b,o,h,hg=>by
  obtain⟨h0,h1,h2,h3,h4,h5⟩:=h;subst h0;refine⟨rfl,h1,h2,h3,h4,TrAt.app r g b _ h5 ?_⟩;rw[show o+15+r.len*Sh.arms.sz=o+(Tr.arm k s n p a c r).len*Sh.arms.sz by simp only[Tr.len,Nat.add_mul,Sh.sz];omega];exact hg
theorem Tells.app{w:World}{Ok:Nat->Prop}{sh:Sh}{f g:Tr}{vs ws:List Value}(h:Tells w Ok sh f vs)(k:Tells w Ok sh g ws):Tells w Ok sh (f.app g) (vs++ws):=by
 obtain⟨h1,h2,h3⟩:=h;obtain⟨k1,k2,k3⟩:=k;refine⟨by rw[List.length_append,h1,k1,Tr.app_len,Nat.add_mul],fun u hu=>?_,fun w' b' o' hc hk=>?_⟩
 ·rcases List.mem_append.1 hu with hu | hu
  ·exact h2 u hu
  ·exact k2 u hu
 ·refine TrAt.app f g b' o' (h3 w' b' o' (fun j u hu=>hc j u (by rw[List.getElem?_append_left (by have:=(List.getElem?_eq_some_iff.1 hu).1;exact this)];exact hu)) hk) (k3 w' b' _ (fun j u hu=>?_) hk)
  have:=hc (f.len*sh.sz+j) u (by rw[List.getElem?_append_right (by rw[h1];omega),h1,Nat.add_sub_cancel_left];exact hu);rwa [<- Nat.add_assoc]at this
def Zt(kd:IntKind)(k:Int)(s:List UInt8)(n:Int)(p:Pl):List Value:=[.int .u8 k,.string ⟨s.toArray⟩,.int kd n,.int .i64 p.a,.int .i64 p.l,.int .i64 p.c]
def qeM:Sh->Option Addr->Nat->Nat->List Value
 | .ex,B,bl,bc=>[.slice B bl bc]
 | _,_,_,_=>[]
def nodV(sh:Sh)(k:Int)(s:List UInt8)(n:Int)(p:Pl)(A:Option Addr)(l c:Nat)(B:Option Addr)(bl bc:Nat):List Value:=Zt sh.kd k s n p++(.slice A l c::qeM sh B bl bc)
theorem ZV{w:World}{kd:IntKind}{b o:Nat}{k:Int}{s:List UInt8}{n:Int}{p:Pl}(h:HeadAt w kd b o k s n p):∀ j u,(Zt kd k s n p)[j]?=some u->w.cell? ⟨b,o+j,none⟩=some u:=by
 obtain⟨a0,a1,a2,a3,a4,a5⟩:=h;intro j u hu;match j,hu with
 | 0,hu=>cases hu;exact a0
 | 1,hu=>cases hu;exact a1
 | 2,hu=>cases hu;exact a2
 | 3,hu=>cases hu;exact a3
 | 4,hu=>cases hu;exact a4
 | 5,hu=>cases hu;exact a5
theorem QD(sh:Sh)(hs:sh ≠ .arms)(k:Int)(s:List UInt8)(n:Int)(p:Pl)(A:Option Addr)(l c:Nat)(B:Option Addr)(bl bc:Nat):(nodV sh k s n p A l c B bl bc).length=sh.sz:=by
 cases sh
 ·rfl
 ·rfl
 ·rfl
 ·exact absurd rfl hs
theorem qfH(sh:Sh)(k:Int)(s:List UInt8)(n:Int)(p:Pl)(A:Option Addr)(l c:Nat)(B:Option Addr)(bl bc:Nat):∀ u∈nodV sh k s n p A l c B bl bc,u.oneCell'=true:=by
 intro u hu;unfold nodV Zt qeM at hu;cases sh <;> simp at hu
 all_goals rcases hu with rfl | rfl | rfl | rfl | rfl | rfl | hu
 all_goals first | rfl | (subst hu;rfl) | (rcases hu with rfl | rfl <;> rfl)
theorem Tells.one{w:World}{Ok:Nat->Prop}{sh:Sh}(hs:sh ≠ .arms){k:Int}{s:List UInt8}{n:Int}{p:Pl}{A:Option Addr}{c:Nat}{B:Option Addr}{bc:Nat}{kids arms:Tr}
  (hk:KidsTr w Ok sh A kids.len c kids) (ha:(sh=.ex/\KidsTr w Ok .arms B arms.len bc arms)∨((sh=.pat∨sh=.ty)/\arms.len=0)):Tells w Ok sh (.nod k s n p kids arms .nil) (nodV sh k s n p A kids.len c B arms.len bc):=by
 refine⟨by rw[QD sh hs];simp[Tr.len],qfH _ _ _ _ _ _ _ _ _ _ _,fun w' b' o' hc hkp=>?_⟩;have hh:HeadAt w' sh.kd b' o' k s n p:=⟨hc 0 _ rfl,hc 1 _ rfl,hc 2 _ rfl,hc 3 _ rfl,hc 4 _ rfl,hc 5 _ rfl⟩
 have k':=hk.keep hkp;refine⟨hh,⟨A,c,hc 6 _ rfl,k'.2.1,k'.2.2⟩,?_,trivial⟩;rcases ha with ⟨e,ha⟩ | ha
 ·have a':=ha.keep hkp
  subst e;exact .inl ⟨rfl,B,bc,hc 7 _ rfl,a'.2.1,a'.2.2⟩
 ·exact .inr ha
theorem TrAt.parts{w:World}{Ok:Nat->Prop}{sh:Sh}{k:Int}{s:List UInt8}{n:Int}{p:Pl}{kids arms r:Tr}{b o:Nat}(h:TrAt w Ok (.nod k s n p kids arms r) sh b o) :
  ∃ A c B bc,(∀ j u,(nodV sh k s n p A kids.len c B arms.len bc)[j]?=some u->w.cell? ⟨b,o+j,none⟩=some u)/\KidsTr w Ok sh A kids.len c kids/\((sh=.ex/\KidsTr w Ok .arms B arms.len bc arms)∨((sh=.pat∨sh=.ty)/\arms.len=0))/\TrAt w Ok r sh b (o+sh.sz):=by
 obtain⟨h1,⟨A,c,a1,a2,a3⟩,h3,h4⟩:=h;have hk:KidsTr w Ok sh A kids.len c kids:=⟨rfl,a2,a3⟩
 rcases h3 with ⟨e,B,bc,c1,c2,c3⟩ | ⟨e,e2⟩
 ·subst e
  refine⟨A,c,B,bc,fun j u hu=>?_,hk,.inl ⟨rfl,rfl,c2,c3⟩,h4⟩;rcases Nat.lt_or_ge j 6 with hj | hj
  ·exact ZV h1 j u (by rw[nodV,List.getElem?_append_left (by simpa [Zt] using hj)]at hu;exact hu)
  ·match j,hu with
   | 6,hu=>cases hu;exact a1
   | 7,hu=>cases hu;exact c1
   | j+8,hu=>simp[nodV,Zt,qeM]at hu
 ·refine⟨A,c,none,0,fun j u hu=>?_,hk,.inr ⟨e,e2⟩,h4⟩
  have hne:∀ B bl bc,qeM sh B bl bc=[]:=by rcases e with rfl | rfl <;> exact fun _ _ _=>rfl
  rcases Nat.lt_or_ge j 6 with hj | hj
  ·exact ZV h1 j u (by rw[nodV,List.getElem?_append_left (by simpa [Zt] using hj)]at hu;exact hu)
  ·match j,hu with
   | 6,hu=>
    have:u=.slice A kids.len c:=by simp only[nodV,Zt,hne]at hu;cases hu;rfl
    subst this;exact a1
   | j+7,hu=>simp[nodV,Zt,hne]at hu
theorem TrAt.tells{w:World}{Ok:Nat->Prop}{sh:Sh}(hs:sh ≠ .arms):∀ (f:Tr) (b o:Nat),TrAt w Ok f sh b o->∃ vs,Tells w Ok sh f vs/\∀ j u,vs[j]?=some u->w.cell? ⟨b,o+j,none⟩=some u
 | .nil,_,_,_=>⟨[],Tells.nil,fun j u h=>(by simp at h)⟩
 | .arm ..,_,_,h=>absurd h.1 hs
 | .nod k s n p kids arms r,b,o,h=>by
  obtain⟨A,c,B,bc,h1,h2,h3,h4⟩:=h.parts;obtain⟨vs,t1,t2⟩:=TrAt.tells hs r b _ h4;refine⟨_,(Tells.one hs h2 h3 (k:=k) (s:=s) (n:=n) (p:=p)).app t1,fun j u hu=>?_⟩;rcases Nat.lt_or_ge j sh.sz with hj | hj
  ·exact h1 j u (by rw[List.getElem?_append_left (by rw[QD sh hs];exact hj)]at hu;exact hu)
  ·rw[List.getElem?_append_right (by rw[QD sh hs];exact hj),QD sh hs]at hu
   have:=t2 _ u hu;rwa [show o+sh.sz+(j-sh.sz)=o+j by omega]at this
def J3(w:World)(Ok:Nat->Prop)(w':World)(j:Nat):Prop:=Ok j∨(w.heap.size<=j/\j<w'.heap.size)
def jp(w:World)(Ok:Nat->Prop)(sh:Sh)(f:Tr)(e:Ending)(w':World):Prop:=
 ∃ A c,e=.returned (.slice A f.len c)/\Bel w w'/\KidsTr w' (J3 w Ok w') sh A f.len c f
def Tr.exsN:Tr->Nat->Tr
 | .nil,_=> .nil
 | _,0=> .nil
 | .nod _ _ _ _ _ _ r,i+1=>r.exsN i
 | .arm _ _ _ _ _ e r,i+1=>e.app (r.exsN i)
def Tr.patsN:Tr->Nat->Tr
 | .nil,_=> .nil
 | _,0=> .nil
 | .nod _ _ _ _ _ _ r,i+1=>r.patsN i
 | .arm k s n p a _ r,i+1=> .nod k s n p a .nil (r.patsN i)
theorem Tr.exsN_zero:∀ f:Tr,f.exsN 0=.nil
 | .nil=>rfl
 | .nod ..=>rfl
 | .arm ..=>rfl
theorem Tr.patsN_zero:∀ f:Tr,f.patsN 0=.nil
 | .nil=>rfl
 | .nod ..=>rfl
 | .arm ..=>rfl
theorem Tr.exsN_succ{k:Int}{s:List UInt8}{n:Int}{p:Pl}{a e:Tr}:∀ (f:Tr) (i:Nat),f.isArms->f.nth i=.arm k s n p a e .nil->f.exsN (i+1)=(f.exsN i).app e
 | .nil,i,_,h=>by simp[Tr.nth]at h
 | .arm _ _ _ _ _ e' r,0,h,hn=>by
  simp only[Tr.nth,Tr.arm.injEq]at hn;simp only[Tr.exsN,Tr.exsN_zero,Tr.app,Tr.app_nil,hn.2.2.2.2.2.1]
 | .arm _ _ _ _ _ e' r,i+1,h,hn=>by
  have:=Tr.exsN_succ r i h.2 hn;simp only[Tr.exsN,Tr.app_assoc]at this ⊢;rw[this]
theorem Tr.patsN_succ{k:Int}{s:List UInt8}{n:Int}{p:Pl}{a e:Tr}:∀ (f:Tr) (i:Nat),f.isArms->f.nth i=.arm k s n p a e .nil->f.patsN (i+1)=(f.patsN i).app (.nod k s n p a .nil .nil)
 | .nil,i,_,h=>by simp[Tr.nth]at h
 | .arm _ _ _ _ _ e' r,0,h,hn=>by
  simp only[Tr.nth,Tr.arm.injEq]at hn;obtain⟨h1,h2,h3,h4,h5,h6,h7⟩:=hn;subst h1 h2 h3 h4 h5;simp only[Tr.patsN,Tr.patsN_zero,Tr.app]
 | .arm _ _ _ _ _ e' r,i+1,h,hn=>by
  have:=Tr.patsN_succ r i h.2 hn;simp only[Tr.patsN,Tr.app]at this ⊢;rw[this]
theorem Tr.exsN_all:∀ f:Tr,f.isArms->f.exsN f.len=f.exs
 | .nil,_=>rfl
 | .arm _ _ _ _ _ e r,h=>by simp only[Tr.len,Tr.exsN,Tr.exs,Tr.exsN_all r h.2]
theorem Tr.patsN_all:∀ f:Tr,f.isArms->f.patsN f.len=f.pats
 | .nil,_=>rfl
 | .arm _ _ _ _ _ e r,h=>by simp only[Tr.len,Tr.patsN,Tr.pats,Tr.patsN_all r h.2]
theorem Tr.one_nod:∀ e:Tr,e.len=1->e.isNods->∃ k s n p a b,e=.nod k s n p a b .nil
 | .nil,h,_=>by simp[Tr.len]at h
 | .nod k s n p a b r,h,_=>⟨k,s,n,p,a,b,by rw[Tr.len_nil r (by simpa [Tr.len] using h)]⟩
 | .arm ..,_,h=>h.elim
theorem KidsTr.isArms{w:World}{Ok:Nat->Prop}{A:Option Addr}{l c:Nat}{f:Tr}(h:KidsTr w Ok .arms A l c f):f.isArms:=by
 rcases Nat.eq_zero_or_pos f.len with e | e
 ·rw[Tr.len_nil f e];trivial
 ·obtain⟨b,o,_,_,h⟩:=h.2.2 (by rw[h.1];exact e)
  exact TrAt.isArms f b o h
theorem KidsTr.isNods{w:World}{Ok:Nat->Prop}{sh:Sh}(hs:sh ≠ .arms){A:Option Addr}{l c:Nat}{f:Tr}(h:KidsTr w Ok sh A l c f):f.isNods:=by
 rcases Nat.eq_zero_or_pos f.len with e | e
 ·rw[Tr.len_nil f e];trivial
 ·obtain⟨b,o,_,_,h⟩:=h.2.2 (by rw[h.1];exact e)
  exact TrAt.isNods hs f b o h
theorem KidsTr.ok{w:World}{Ok:Nat->Prop}{sh:Sh}{A:Option Addr}{l c:Nat}{f:Tr}(h:KidsTr w Ok sh A l c f):f.ok:=by
 rcases Nat.eq_zero_or_pos f.len with e | e
 ·rw[Tr.len_nil f e];trivial
 ·obtain⟨b,o,_,_,h⟩:=h.2.2 (by rw[h.1];exact e)
  exact TrAt.ok f sh b o h
theorem zN{w:World}{base e size n:Nat}{v:Value}{xs:List Value}(h:w.ownsRow base e size v (n+1) xs):∃ g c,v=.slice (some ⟨g,0,none⟩) (n+1) c:=by
 obtain⟨g,c,hv,_⟩:=h.form (by omega);exact⟨g,c,hv⟩
theorem Tells.row{w w':World}{Ok:Nat->Prop}{sh:Sh}{f:Tr}{vs:List Value}(h:Tells w Ok sh f vs)(hb:Bel w w')(hOk:∀ j,Ok j->j<w.heap.size){e:TypeId}{A:Option Addr}{c base:Nat}(hbase:w.heap.size<=base)(ho:w'.ownsRow base e sh.sz (.slice A f.len c) f.len vs):KidsTr w' (J3 w Ok w') sh A f.len c f:=by
 refine⟨rfl,?_,fun h0=>?_⟩
 ·rcases ho.2 with ⟨_,h0⟩ | ⟨g,cap,cur,hv,_,_,hnc,_⟩
  ·omega
  ·cases hv;exact hnc
 ·obtain⟨g,cp,hv,hgb,hgl⟩:=ho.form h0
  cases hv
  refine⟨g,0,rfl,.inr ⟨Nat.le_trans hbase hgb,hgl⟩,(h.2.2 w' g 0 (fun j u hu=>?_) (fun j hj=>hb.block j (hOk j hj))).wide (fun j hj=> .inl hj) f sh g 0⟩;have:=ho.cells (g:=g) rfl j u hu;rwa [Addr.add_lit]at this
end Go.Proofs.YtlmmaoobembadaaGreatDoor.Mu
