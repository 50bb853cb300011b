import Derived.Test.YtlmmaoobembadaaGreatDoorPaz
open Go.Lib (hid)
namespace Go.Proofs.YtlmmaoobembadaaGreatDoor.Mu
set_option maxHeartbeats 8000000
open Go Go.RowKit Go.Shelf
attribute [local go_sem] Oper.semAt_some
set_option linter.unusedVariables false
set_option maxRecDepth 100000
def regWl:List Oper:=[
 ⟨some 11,.move (.tmp 0),85,"write.go:116",#[],none⟩,
 ⟨some 12,.call ⟨.value (.func 86),#[.const (Value.string { data:=#[92] })],#[9]⟩,51,"write.go:116",#[],none⟩,
 ⟨some 13,.fieldAddr 32 (.tmp 3) 1,0,"write.go:116",#[],none⟩,
 ⟨some 14,.load 9 (.tmp 13),9,"write.go:116",#[⟨2,.data⟩],none⟩,
 ⟨some 15,.call ⟨.value (.func 83),#[.tmp 14],#[9]⟩,51,"write.go:116",#[⟨3,.data⟩,⟨1,.chain⟩],none⟩,
 ⟨some 16,.call ⟨.value (.func 86),#[.const (Value.string { data:=#[45,62] })],#[9]⟩,51,"write.go:116",#[⟨4,.chain⟩],none⟩,
 ⟨some 17,.buildSlice 44 3 #[(0,.tmp 12),(1,.tmp 15),(2,.tmp 16)],44,"write.go:116",#[⟨1,.data⟩,⟨4,.data⟩,⟨5,.data⟩],none⟩,
 ⟨some 18,.call ⟨.value (.func 85),#[.tmp 11,.tmp 17],#[85,44]⟩,0,"write.go:116",#[⟨0,.data⟩,⟨6,.data⟩,⟨5,.chain⟩],none⟩]
def qeG(wp bx:Nat)(k:Int)(SS:ByteArray)(n:Int)(p:Pl)(A:Option Addr)(kl c:Nat)(B:Option Addr)(al bc:Nat)(i:Nat)(v:Value)(w:World):Prop:=
 match i with
 | 0=>v=.pointer (some ⟨wp,0,none⟩)
 | 1=>v=.agg #[.int .u8 5,.string ⟨#[92]⟩,(0:Int),(0:Int),(0:Int),(0:Int)]
 | 2=>v=.pointer (some ⟨bx,1,none⟩)
 | 3=>v=.string SS
 | 4=>v=.agg #[.int .u8 1,SS,(0:Int),(0:Int),(0:Int),(0:Int)]
 | 5=>v=.agg #[.int .u8 5,.string ⟨#[45,62]⟩,(0:Int),(0:Int),(0:Int),(0:Int)]
 | 6=>∃ g,v=.slice (some ⟨g,0,none⟩) 3 3/\w.heap[g]?=some (.cells #[.int .u8 5,.string ⟨#[92]⟩,(0:Int),(0:Int),(0:Int),(0:Int),.int .u8 1,SS,(0:Int),(0:Int),(0:Int),(0:Int),.int .u8 5,.string ⟨#[45,62]⟩,(0:Int),(0:Int),(0:Int),(0:Int)] 51 (0,0))
 | _=>True
theorem qaR{wp bx:Nat}{k:Int}{SS:ByteArray}{n:Int}{p:Pl}{A:Option Addr}{kl c:Nat}{B:Option Addr}{al bc:Nat}(i:Nat)(v:Value)(w w':World)(hi:i<7)(h:qeG wp bx k SS n p A kl c B al bc i v w)(hb:Bel w w'):qeG wp bx k SS n p A kl c B al bc i v w':=by
 match i,hi,h with
 | 0,_,h | 1,_,h | 2,_,h | 3,_,h | 4,_,h | 5,_,h=>exact h
 | 6,_,h=>obtain⟨g,e,hc⟩:=h;exact⟨g,e,hb.blk hc⟩
 | q+7,hi,_=>exact absurd hi (by omega)
def qh7(wp bx:Nat)(k:Int)(SS:ByteArray)(n:Int)(p:Pl)(A:Option Addr)(kl c:Nat)(B:Option Addr)(al bc:Nat)(s1 s2 s4 s5 s6 s7 s8 s9 s10 s11 s12 s13 s14 s15 s16 s17 s18 s19 s20 s21 s22 s23 s24 s25 s26 s27 s28 s29 s30 s31 s32 s33 s34 s35 s36 s37 s38 s39 s40 s41 s42 s43 s44 s45 s46 s47 s48 s49 s50 s51 s52 s53 s54 s55 s56 s57 s58 s59 s60 s61 s62 s63 s64:Value)(df:List Deferred):Act:={ tmps:=#[.pointer (some ⟨wp,0,none⟩),s1,s2,.pointer (some ⟨bx,0,none⟩),s4,s5,s6,s7,s8,s9,s10,s11,s12,s13,s14,s15,s16,s17,s18,s19,s20,s21,s22,s23,s24,s25,s26,s27,s28,s29,s30,s31,s32,s33,s34,s35,s36,s37,s38,s39,s40,s41,s42,s43,s44,s45,s46,s47,s48,s49,s50,s51,s52,s53,s54,s55,s56,s57,s58,s59,s60,s61,s62,s63,s64],defers:=df }
def qgD(wp bx:Nat)(k:Int)(SS:ByteArray)(n:Int)(p:Pl)(A:Option Addr)(kl c:Nat)(B:Option Addr)(al bc:Nat)(s1 s2 s4 s5 s6 s7 s8 s9 s10 s11 s12 s13 s14 s15 s16 s17 s18 s19 s20 s21 s22 s23 s24 s25 s26 s27 s28 s29 s30 s31 s32 s33 s34 s35 s36 s37 s38 s39 s40 s41 s42 s43 s44 s45 s46 s47 s48 s49 s50 s51 s52 s53 s54 s55 s56 s57 s58 s59 s60 s61 s62 s63 s64:Value)(df:List Deferred)(V:Nat->Value):Act:={ tmps:=#[.pointer (some ⟨wp,0,none⟩),s1,s2,.pointer (some ⟨bx,0,none⟩),s4,s5,s6,s7,s8,s9,s10,V 0,V 1,V 2,V 3,V 4,V 5,V 6,s18,s19,s20,s21,s22,s23,s24,s25,s26,s27,s28,s29,s30,s31,s32,s33,s34,s35,s36,s37,s38,s39,s40,s41,s42,s43,s44,s45,s46,s47,s48,s49,s50,s51,s52,s53,s54,s55,s56,s57,s58,s59,s60,s61,s62,s63,s64],defers:=df }
theorem qcz:zn .any regWl.toArray 7=true:=by kernel_rfl
theorem qec:fwdB regWl.toArray 7=true:=by kernel_rfl
theorem qau:qL regWl.toArray 65=true:=by kernel_rfl
theorem qed:Region.seqB .any regWl.toArray (regWl.length-7) 7 (Array.replicate 7 true++Array.replicate (regWl.length-7) false)=true:=by kernel_rfl
set_option maxRecDepth 100000 in
theorem qeb{id:Nat}(wp bx:Nat)(k:Int)(SS:ByteArray)(n:Int)(p:Pl)(A:Option Addr)(kl c:Nat)(B:Option Addr)(al bc:Nat)(s1 s2 s4 s5 s6 s7 s8 s9 s10 s11 s12 s13 s14 s15 s16 s17 s18 s19 s20 s21 s22 s23 s24 s25 s26 s27 s28 s29 s30 s31 s32 s33 s34 s35 s36 s37 s38 s39 s40 s41 s42 s43 s44 s45 s46 s47 s48 s49 s50 s51 s52 s53 s54 s55 s56 s57 s58 s59 s60 s61 s62 s63 s64:Value)(df:List Deferred)(w:World)(hx:w.drew.heap[bx]?=some (.cells #[.int .u8 k,SS,n,p.a,p.l,p.c,.slice A kl c,.slice B al bc] 32 (0,0)))(Q:Exit->Act->World->Prop)
  (hend:∀ (V:Nat->Value) (w':World),Bel w.drew w'->((V 0)=.pointer (some ⟨wp,0,none⟩))->(∃ g,(V 6)=.slice (some ⟨g,0,none⟩) 3 3/\w'.heap[g]?=some (.cells #[.int .u8 5,.string ⟨#[92]⟩,(0:Int),(0:Int),(0:Int),(0:Int),.int .u8 1,SS,(0:Int),(0:Int),(0:Int),(0:Int),.int .u8 5,.string ⟨#[45,62]⟩,(0:Int),(0:Int),(0:Int),(0:Int)] 51 (0,0)))->wpList Tryz.prog regWl.toArray Q (regWl.drop 7) (qgD wp bx k SS n p A kl c B al bc s1 s2 s4 s5 s6 s7 s8 s9 s10 s11 s12 s13 s14 s15 s16 s17 s18 s19 s20 s21 s22 s23 s24 s25 s26 s27 s28 s29 s30 s31 s32 s33 s34 s35 s36 s37 s38 s39 s40 s41 s42 s43 s44 s45 s46 s47 s48 s49 s50 s51 s52 s53 s54 s55 s56 s57 s58 s59 s60 s61 s62 s63 s64 df V) w') :
  (Code.region id regWl.toArray true).wp Tryz.prog Q (qh7 wp bx k SS n p A kl c B al bc s1 s2 s4 s5 s6 s7 s8 s9 s10 s11 s12 s13 s14 s15 s16 s17 s18 s19 s20 s21 s22 s23 s24 s25 s26 s27 s28 s29 s30 s31 s32 s33 s34 s35 s36 s37 s38 s39 s40 s41 s42 s43 s44 s45 s46 s47 s48 s49 s50 s51 s52 s53 s54 s55 s56 s57 s58 s59 s60 s61 s62 s63 s64 df) w:=by
 refine qk (l:=regWl) 7 _ w (qeG wp bx k SS n p A kl c B al bc) (by kernel_rfl) qcz qec qau qed (fun i v w w' hi h hb=>qaR i v w w' hi h hb) ?_ ?_
 ·intro i' o hi' ho a w1 V hbel hdep hpar K hK
  have p0:a.eval (.tmp 0)=.pointer (some ⟨wp,0,none⟩):=hpar 0 (by show 0<65;decide) (by kernel_rfl);have p0':=tD p0;have p3:a.eval (.tmp 3)=.pointer (some ⟨bx,0,none⟩):=hpar 3 (by show 3<65;decide) (by kernel_rfl);have p3':=tD p3;obtain⟨q0,q1,q2,q3,q4,q5,q6,q7⟩:=box8 (hbel.blk hx);match i',hi',ho,hdep,hK with
  | 0,_,ho,hdep,hK=>
   simp only[regWl,gT,gZ,gI]at ho;subst ho;exact nG rfl (wV (by simp[execOp,go_sem,p0']) hK rfl)
  | 1,_,ho,hdep,hK=>
   simp only[regWl,gT,gZ,gS,gI]at ho;subst ho;refine nG rfl ?_;refine qg (f:=86) (args:=#[.string { data:=#[92] }]) (by simp[go_sem]) ((qd ⟨#[92]⟩ w1).mono ?_);rintro e w' ⟨rfl,hb⟩;exact⟨_,rfl,hK _ _ hb rfl⟩
  | 2,_,ho,hdep,hK=>
   simp only[regWl,gT,gZ,gS,gI]at ho;subst ho;exact nG rfl (wV (by simp[execOp,go_sem,p3']) hK rfl)
  | 3,_,ho,hdep,hK=>
   simp only[regWl,gT,gZ,gS,gI]at ho;subst ho;refine nG rfl ?_;have e2':=tK (t:=13) (hdep ⟨2,.data⟩ (by simp) rfl) rfl;exact wV (by simp[execOp,go_sem,e2',q1]) hK rfl
  | 4,_,ho,hdep,hK=>
   simp only[regWl,gT,gZ,gS,gI]at ho;subst ho;refine nG rfl ?_;have e3':=tK (t:=14) (hdep ⟨3,.data⟩ (by simp) rfl) rfl;refine qg (f:=83) (args:=#[.string SS]) (by simp[go_sem,e3']) ((qW SS w1).mono ?_);rintro e w' ⟨rfl,hb⟩;exact⟨_,rfl,hK _ _ hb rfl⟩
  | 5,_,ho,hdep,hK=>
   simp only[regWl,gT,gZ,gS,gI]at ho;subst ho;refine nG rfl ?_;refine qg (f:=86) (args:=#[.string { data:=#[45,62] }]) (by simp[go_sem]) ((qd ⟨#[45,62]⟩ w1).mono ?_);rintro e w' ⟨rfl,hb⟩;exact⟨_,rfl,hK _ _ hb rfl⟩
  | 6,_,ho,hdep,hK=>
   simp only[regWl,gT,gZ,gS,gI]at ho;subst ho;refine nG rfl ?_;have e1':=tK (t:=12) (hdep ⟨1,.data⟩ (by simp) rfl) rfl;have e4':=tK (t:=15) (hdep ⟨4,.data⟩ (by simp) rfl) rfl;have e5':=tK (t:=16) (hdep ⟨5,.data⟩ (by simp) rfl) rfl;exact zj (v:= .slice (some ⟨w1.heap.size,0,none⟩) 3 3) (w':=w1.alloc (.cells #[.int .u8 5,.string ⟨#[92]⟩,(0:Int),(0:Int),(0:Int),(0:Int),.int .u8 1,SS,(0:Int),(0:Int),(0:Int),(0:Int),.int .u8 5,.string ⟨#[45,62]⟩,(0:Int),(0:Int),(0:Int),(0:Int)] 51)) (by simp[execOp,go_sem,e1',e4',e5']) (hK _ _ ((Bel.refl w1).alloc _) ⟨w1.heap.size,rfl,blk1 w1 _⟩)
  | q+7,hi,_,_,_=>exact absurd hi (by omega)
 ·intro V w' hb hF
  have e:finA regWl.toArray 7 V (qh7 wp bx k SS n p A kl c B al bc s1 s2 s4 s5 s6 s7 s8 s9 s10 s11 s12 s13 s14 s15 s16 s17 s18 s19 s20 s21 s22 s23 s24 s25 s26 s27 s28 s29 s30 s31 s32 s33 s34 s35 s36 s37 s38 s39 s40 s41 s42 s43 s44 s45 s46 s47 s48 s49 s50 s51 s52 s53 s54 s55 s56 s57 s58 s59 s60 s61 s62 s63 s64 df)=qgD wp bx k SS n p A kl c B al bc s1 s2 s4 s5 s6 s7 s8 s9 s10 s11 s12 s13 s14 s15 s16 s17 s18 s19 s20 s21 s22 s23 s24 s25 s26 s27 s28 s29 s30 s31 s32 s33 s34 s35 s36 s37 s38 s39 s40 s41 s42 s43 s44 s45 s46 s47 s48 s49 s50 s51 s52 s53 s54 s55 s56 s57 s58 s59 s60 s61 s62 s63 s64 df V:=by kernel_rfl
  rw[e];exact hend V w' hb (hF 0 (by omega)) (hF 6 (by omega))
def regWb:List Oper:=[
 ⟨some 27,.move (.tmp 0),85,"write.go:119",#[],none⟩,
 ⟨some 28,.load 32 (.tmp 3),32,"write.go:119",#[],none⟩,
 ⟨some 29,.call ⟨.value (.func 86),#[.const (Value.string { data:=#[108,101,116] })],#[9]⟩,51,"write.go:119",#[],none⟩,
 ⟨some 30,.buildSlice 44 1 #[(0,.tmp 29)],44,"write.go:119",#[⟨2,.data⟩],none⟩,
 ⟨some 31,.call ⟨.value (.func 95),#[.tmp 27,.tmp 28,.tmp 30],#[85,32,44]⟩,0,"write.go:119",#[⟨0,.data⟩,⟨1,.data⟩,⟨3,.data⟩,⟨2,.chain⟩],none⟩]
def qeD(wp bx:Nat)(k:Int)(SS:ByteArray)(n:Int)(p:Pl)(A:Option Addr)(kl c:Nat)(B:Option Addr)(al bc:Nat)(i:Nat)(v:Value)(w:World):Prop:=
 match i with
 | 0=>v=.pointer (some ⟨wp,0,none⟩)
 | 1=>v=.agg #[.int .u8 k,SS,n,p.a,p.l,p.c,.slice A kl c,.slice B al bc]
 | 2=>v=.agg #[.int .u8 5,.string ⟨#[108,101,116]⟩,(0:Int),(0:Int),(0:Int),(0:Int)]
 | 3=>∃ g,v=.slice (some ⟨g,0,none⟩) 1 1/\w.heap[g]?=some (.cells #[.int .u8 5,.string ⟨#[108,101,116]⟩,(0:Int),(0:Int),(0:Int),(0:Int)] 51 (0,0))
 | _=>True
theorem qaO{wp bx:Nat}{k:Int}{SS:ByteArray}{n:Int}{p:Pl}{A:Option Addr}{kl c:Nat}{B:Option Addr}{al bc:Nat}(i:Nat)(v:Value)(w w':World)(hi:i<4)(h:qeD wp bx k SS n p A kl c B al bc i v w)(hb:Bel w w'):qeD wp bx k SS n p A kl c B al bc i v w':=by
 match i,hi,h with
 | 0,_,h | 1,_,h | 2,_,h=>exact h
 | 3,_,h=>obtain⟨g,e,hc⟩:=h;exact⟨g,e,hb.blk hc⟩
 | q+4,hi,_=>exact absurd hi (by omega)
def qh4(wp bx:Nat)(k:Int)(SS:ByteArray)(n:Int)(p:Pl)(A:Option Addr)(kl c:Nat)(B:Option Addr)(al bc:Nat)(s1 s2 s4 s5 s6 s7 s8 s9 s10 s11 s12 s13 s14 s15 s16 s17 s18 s19 s20 s21 s22 s23 s24 s25 s26 s27 s28 s29 s30 s31 s32 s33 s34 s35 s36 s37 s38 s39 s40 s41 s42 s43 s44 s45 s46 s47 s48 s49 s50 s51 s52 s53 s54 s55 s56 s57 s58 s59 s60 s61 s62 s63 s64:Value)(df:List Deferred):Act:={ tmps:=#[.pointer (some ⟨wp,0,none⟩),s1,s2,.pointer (some ⟨bx,0,none⟩),s4,s5,s6,s7,s8,s9,s10,s11,s12,s13,s14,s15,s16,s17,s18,s19,s20,s21,s22,s23,s24,s25,s26,s27,s28,s29,s30,s31,s32,s33,s34,s35,s36,s37,s38,s39,s40,s41,s42,s43,s44,s45,s46,s47,s48,s49,s50,s51,s52,s53,s54,s55,s56,s57,s58,s59,s60,s61,s62,s63,s64],defers:=df }
def qgA(wp bx:Nat)(k:Int)(SS:ByteArray)(n:Int)(p:Pl)(A:Option Addr)(kl c:Nat)(B:Option Addr)(al bc:Nat)(s1 s2 s4 s5 s6 s7 s8 s9 s10 s11 s12 s13 s14 s15 s16 s17 s18 s19 s20 s21 s22 s23 s24 s25 s26 s27 s28 s29 s30 s31 s32 s33 s34 s35 s36 s37 s38 s39 s40 s41 s42 s43 s44 s45 s46 s47 s48 s49 s50 s51 s52 s53 s54 s55 s56 s57 s58 s59 s60 s61 s62 s63 s64:Value)(df:List Deferred)(V:Nat->Value):Act:={ tmps:=#[.pointer (some ⟨wp,0,none⟩),s1,s2,.pointer (some ⟨bx,0,none⟩),s4,s5,s6,s7,s8,s9,s10,s11,s12,s13,s14,s15,s16,s17,s18,s19,s20,s21,s22,s23,s24,s25,s26,V 0,V 1,V 2,V 3,s31,s32,s33,s34,s35,s36,s37,s38,s39,s40,s41,s42,s43,s44,s45,s46,s47,s48,s49,s50,s51,s52,s53,s54,s55,s56,s57,s58,s59,s60,s61,s62,s63,s64],defers:=df }
theorem qcw:zn .any regWb.toArray 4=true:=by kernel_rfl
theorem qd3:fwdB regWb.toArray 4=true:=by kernel_rfl
theorem qar:qL regWb.toArray 65=true:=by kernel_rfl
theorem qd4:Region.seqB .any regWb.toArray (regWb.length-4) 4 (Array.replicate 4 true++Array.replicate (regWb.length-4) false)=true:=by kernel_rfl
set_option maxRecDepth 100000 in
theorem qd2{id:Nat}(wp bx:Nat)(k:Int)(SS:ByteArray)(n:Int)(p:Pl)(A:Option Addr)(kl c:Nat)(B:Option Addr)(al bc:Nat)(s1 s2 s4 s5 s6 s7 s8 s9 s10 s11 s12 s13 s14 s15 s16 s17 s18 s19 s20 s21 s22 s23 s24 s25 s26 s27 s28 s29 s30 s31 s32 s33 s34 s35 s36 s37 s38 s39 s40 s41 s42 s43 s44 s45 s46 s47 s48 s49 s50 s51 s52 s53 s54 s55 s56 s57 s58 s59 s60 s61 s62 s63 s64:Value)(df:List Deferred)(w:World)(hx:w.drew.heap[bx]?=some (.cells #[.int .u8 k,SS,n,p.a,p.l,p.c,.slice A kl c,.slice B al bc] 32 (0,0)))(Q:Exit->Act->World->Prop)
  (hend:∀ (V:Nat->Value) (w':World),Bel w.drew w'->((V 0)=.pointer (some ⟨wp,0,none⟩))->((V 1)=.agg #[.int .u8 k,SS,n,p.a,p.l,p.c,.slice A kl c,.slice B al bc])->(∃ g,(V 3)=.slice (some ⟨g,0,none⟩) 1 1/\w'.heap[g]?=some (.cells #[.int .u8 5,.string ⟨#[108,101,116]⟩,(0:Int),(0:Int),(0:Int),(0:Int)] 51 (0,0)))->wpList Tryz.prog regWb.toArray Q (regWb.drop 4) (qgA wp bx k SS n p A kl c B al bc s1 s2 s4 s5 s6 s7 s8 s9 s10 s11 s12 s13 s14 s15 s16 s17 s18 s19 s20 s21 s22 s23 s24 s25 s26 s27 s28 s29 s30 s31 s32 s33 s34 s35 s36 s37 s38 s39 s40 s41 s42 s43 s44 s45 s46 s47 s48 s49 s50 s51 s52 s53 s54 s55 s56 s57 s58 s59 s60 s61 s62 s63 s64 df V) w') :
  (Code.region id regWb.toArray true).wp Tryz.prog Q (qh4 wp bx k SS n p A kl c B al bc s1 s2 s4 s5 s6 s7 s8 s9 s10 s11 s12 s13 s14 s15 s16 s17 s18 s19 s20 s21 s22 s23 s24 s25 s26 s27 s28 s29 s30 s31 s32 s33 s34 s35 s36 s37 s38 s39 s40 s41 s42 s43 s44 s45 s46 s47 s48 s49 s50 s51 s52 s53 s54 s55 s56 s57 s58 s59 s60 s61 s62 s63 s64 df) w:=by
 refine qk (l:=regWb) 4 _ w (qeD wp bx k SS n p A kl c B al bc) (by kernel_rfl) qcw qd3 qar qd4 (fun i v w w' hi h hb=>qaO i v w w' hi h hb) ?_ ?_
 ·intro i' o hi' ho a w1 V hbel hdep hpar K hK
  have p0:a.eval (.tmp 0)=.pointer (some ⟨wp,0,none⟩):=hpar 0 (by show 0<65;decide) (by kernel_rfl);have p0':=tD p0;have p3:a.eval (.tmp 3)=.pointer (some ⟨bx,0,none⟩):=hpar 3 (by show 3<65;decide) (by kernel_rfl);have p3':=tD p3;obtain⟨q0,q1,q2,q3,q4,q5,q6,q7⟩:=box8 (hbel.blk hx);match i',hi',ho,hdep,hK with
  | 0,_,ho,hdep,hK=>
   simp only[regWb,gT,gZ,gI]at ho;subst ho;exact nG rfl (wV (by simp[execOp,go_sem,p0']) hK rfl)
  | 1,_,ho,hdep,hK=>
   simp only[regWb,gT,gZ,gS,gI]at ho;subst ho;exact nG rfl (wV (by simp[execOp,go_sem,p3',q0,q1,q2,q3,q4,q5,q6,q7]) hK rfl)
  | 2,_,ho,hdep,hK=>
   simp only[regWb,gT,gZ,gS,gI]at ho;subst ho;refine nG rfl ?_;refine qg (f:=86) (args:=#[.string { data:=#[108,101,116] }]) (by simp[go_sem]) ((qd ⟨#[108,101,116]⟩ w1).mono ?_);rintro e w' ⟨rfl,hb⟩;exact⟨_,rfl,hK _ _ hb rfl⟩
  | 3,_,ho,hdep,hK=>
   simp only[regWb,gT,gZ,gS,gI]at ho;subst ho;refine nG rfl ?_;have e2':=tK (t:=29) (hdep ⟨2,.data⟩ (by simp) rfl) rfl;exact zj (v:= .slice (some ⟨w1.heap.size,0,none⟩) 1 1) (w':=w1.alloc (.cells #[.int .u8 5,.string ⟨#[108,101,116]⟩,(0:Int),(0:Int),(0:Int),(0:Int)] 51)) (by simp[execOp,go_sem,e2']) (hK _ _ ((Bel.refl w1).alloc _) ⟨w1.heap.size,rfl,blk1 w1 _⟩)
  | q+4,hi,_,_,_=>exact absurd hi (by omega)
 ·intro V w' hb hF
  have e:finA regWb.toArray 4 V (qh4 wp bx k SS n p A kl c B al bc s1 s2 s4 s5 s6 s7 s8 s9 s10 s11 s12 s13 s14 s15 s16 s17 s18 s19 s20 s21 s22 s23 s24 s25 s26 s27 s28 s29 s30 s31 s32 s33 s34 s35 s36 s37 s38 s39 s40 s41 s42 s43 s44 s45 s46 s47 s48 s49 s50 s51 s52 s53 s54 s55 s56 s57 s58 s59 s60 s61 s62 s63 s64 df)=qgA wp bx k SS n p A kl c B al bc s1 s2 s4 s5 s6 s7 s8 s9 s10 s11 s12 s13 s14 s15 s16 s17 s18 s19 s20 s21 s22 s23 s24 s25 s26 s27 s28 s29 s30 s31 s32 s33 s34 s35 s36 s37 s38 s39 s40 s41 s42 s43 s44 s45 s46 s47 s48 s49 s50 s51 s52 s53 s54 s55 s56 s57 s58 s59 s60 s61 s62 s63 s64 df V:=by kernel_rfl
  rw[e];exact hend V w' hb (hF 0 (by omega)) (hF 1 (by omega)) (hF 3 (by omega))
def regWr:List Oper:=[
 ⟨some 34,.move (.tmp 0),85,"write.go:121",#[],none⟩,
 ⟨some 35,.load 32 (.tmp 3),32,"write.go:121",#[],none⟩,
 ⟨some 36,.call ⟨.value (.func 86),#[.const (Value.string { data:=#[108,101,116] })],#[9]⟩,51,"write.go:121",#[],none⟩,
 ⟨some 37,.call ⟨.value (.func 86),#[.const (Value.string { data:=#[114,101,99] })],#[9]⟩,51,"write.go:121",#[⟨2,.chain⟩],none⟩,
 ⟨some 38,.buildSlice 44 2 #[(0,.tmp 36),(1,.tmp 37)],44,"write.go:121",#[⟨2,.data⟩,⟨3,.data⟩],none⟩,
 ⟨some 39,.call ⟨.value (.func 95),#[.tmp 34,.tmp 35,.tmp 38],#[85,32,44]⟩,0,"write.go:121",#[⟨0,.data⟩,⟨1,.data⟩,⟨4,.data⟩,⟨3,.chain⟩],none⟩]
def qeH(wp bx:Nat)(k:Int)(SS:ByteArray)(n:Int)(p:Pl)(A:Option Addr)(kl c:Nat)(B:Option Addr)(al bc:Nat)(i:Nat)(v:Value)(w:World):Prop:=
 match i with
 | 0=>v=.pointer (some ⟨wp,0,none⟩)
 | 1=>v=.agg #[.int .u8 k,SS,n,p.a,p.l,p.c,.slice A kl c,.slice B al bc]
 | 2=>v=.agg #[.int .u8 5,.string ⟨#[108,101,116]⟩,(0:Int),(0:Int),(0:Int),(0:Int)]
 | 3=>v=.agg #[.int .u8 5,.string ⟨#[114,101,99]⟩,(0:Int),(0:Int),(0:Int),(0:Int)]
 | 4=>∃ g,v=.slice (some ⟨g,0,none⟩) 2 2/\w.heap[g]?=some (.cells #[.int .u8 5,.string ⟨#[108,101,116]⟩,(0:Int),(0:Int),(0:Int),(0:Int),.int .u8 5,.string ⟨#[114,101,99]⟩,(0:Int),(0:Int),(0:Int),(0:Int)] 51 (0,0))
 | _=>True
theorem qaS{wp bx:Nat}{k:Int}{SS:ByteArray}{n:Int}{p:Pl}{A:Option Addr}{kl c:Nat}{B:Option Addr}{al bc:Nat}(i:Nat)(v:Value)(w w':World)(hi:i<5)(h:qeH wp bx k SS n p A kl c B al bc i v w)(hb:Bel w w'):qeH wp bx k SS n p A kl c B al bc i v w':=by
 match i,hi,h with
 | 0,_,h | 1,_,h | 2,_,h | 3,_,h=>exact h
 | 4,_,h=>obtain⟨g,e,hc⟩:=h;exact⟨g,e,hb.blk hc⟩
 | q+5,hi,_=>exact absurd hi (by omega)
def qh8(wp bx:Nat)(k:Int)(SS:ByteArray)(n:Int)(p:Pl)(A:Option Addr)(kl c:Nat)(B:Option Addr)(al bc:Nat)(s1 s2 s4 s5 s6 s7 s8 s9 s10 s11 s12 s13 s14 s15 s16 s17 s18 s19 s20 s21 s22 s23 s24 s25 s26 s27 s28 s29 s30 s31 s32 s33 s34 s35 s36 s37 s38 s39 s40 s41 s42 s43 s44 s45 s46 s47 s48 s49 s50 s51 s52 s53 s54 s55 s56 s57 s58 s59 s60 s61 s62 s63 s64:Value)(df:List Deferred):Act:={ tmps:=#[.pointer (some ⟨wp,0,none⟩),s1,s2,.pointer (some ⟨bx,0,none⟩),s4,s5,s6,s7,s8,s9,s10,s11,s12,s13,s14,s15,s16,s17,s18,s19,s20,s21,s22,s23,s24,s25,s26,s27,s28,s29,s30,s31,s32,s33,s34,s35,s36,s37,s38,s39,s40,s41,s42,s43,s44,s45,s46,s47,s48,s49,s50,s51,s52,s53,s54,s55,s56,s57,s58,s59,s60,s61,s62,s63,s64],defers:=df }
def qgE(wp bx:Nat)(k:Int)(SS:ByteArray)(n:Int)(p:Pl)(A:Option Addr)(kl c:Nat)(B:Option Addr)(al bc:Nat)(s1 s2 s4 s5 s6 s7 s8 s9 s10 s11 s12 s13 s14 s15 s16 s17 s18 s19 s20 s21 s22 s23 s24 s25 s26 s27 s28 s29 s30 s31 s32 s33 s34 s35 s36 s37 s38 s39 s40 s41 s42 s43 s44 s45 s46 s47 s48 s49 s50 s51 s52 s53 s54 s55 s56 s57 s58 s59 s60 s61 s62 s63 s64:Value)(df:List Deferred)(V:Nat->Value):Act:={ tmps:=#[.pointer (some ⟨wp,0,none⟩),s1,s2,.pointer (some ⟨bx,0,none⟩),s4,s5,s6,s7,s8,s9,s10,s11,s12,s13,s14,s15,s16,s17,s18,s19,s20,s21,s22,s23,s24,s25,s26,s27,s28,s29,s30,s31,s32,s33,V 0,V 1,V 2,V 3,V 4,s39,s40,s41,s42,s43,s44,s45,s46,s47,s48,s49,s50,s51,s52,s53,s54,s55,s56,s57,s58,s59,s60,s61,s62,s63,s64],defers:=df }
theorem qcA:zn .any regWr.toArray 5=true:=by kernel_rfl
theorem qef:fwdB regWr.toArray 5=true:=by kernel_rfl
theorem qav:qL regWr.toArray 65=true:=by kernel_rfl
theorem qeg:Region.seqB .any regWr.toArray (regWr.length-5) 5 (Array.replicate 5 true++Array.replicate (regWr.length-5) false)=true:=by kernel_rfl
set_option maxRecDepth 100000 in
theorem qee{id:Nat}(wp bx:Nat)(k:Int)(SS:ByteArray)(n:Int)(p:Pl)(A:Option Addr)(kl c:Nat)(B:Option Addr)(al bc:Nat)(s1 s2 s4 s5 s6 s7 s8 s9 s10 s11 s12 s13 s14 s15 s16 s17 s18 s19 s20 s21 s22 s23 s24 s25 s26 s27 s28 s29 s30 s31 s32 s33 s34 s35 s36 s37 s38 s39 s40 s41 s42 s43 s44 s45 s46 s47 s48 s49 s50 s51 s52 s53 s54 s55 s56 s57 s58 s59 s60 s61 s62 s63 s64:Value)(df:List Deferred)(w:World)(hx:w.drew.heap[bx]?=some (.cells #[.int .u8 k,SS,n,p.a,p.l,p.c,.slice A kl c,.slice B al bc] 32 (0,0)))(Q:Exit->Act->World->Prop)
  (hend:∀ (V:Nat->Value) (w':World),Bel w.drew w'->((V 0)=.pointer (some ⟨wp,0,none⟩))->((V 1)=.agg #[.int .u8 k,SS,n,p.a,p.l,p.c,.slice A kl c,.slice B al bc])->(∃ g,(V 4)=.slice (some ⟨g,0,none⟩) 2 2/\w'.heap[g]?=some (.cells #[.int .u8 5,.string ⟨#[108,101,116]⟩,(0:Int),(0:Int),(0:Int),(0:Int),.int .u8 5,.string ⟨#[114,101,99]⟩,(0:Int),(0:Int),(0:Int),(0:Int)] 51 (0,0)))->wpList Tryz.prog regWr.toArray Q (regWr.drop 5) (qgE wp bx k SS n p A kl c B al bc s1 s2 s4 s5 s6 s7 s8 s9 s10 s11 s12 s13 s14 s15 s16 s17 s18 s19 s20 s21 s22 s23 s24 s25 s26 s27 s28 s29 s30 s31 s32 s33 s34 s35 s36 s37 s38 s39 s40 s41 s42 s43 s44 s45 s46 s47 s48 s49 s50 s51 s52 s53 s54 s55 s56 s57 s58 s59 s60 s61 s62 s63 s64 df V) w') :
  (Code.region id regWr.toArray true).wp Tryz.prog Q (qh8 wp bx k SS n p A kl c B al bc s1 s2 s4 s5 s6 s7 s8 s9 s10 s11 s12 s13 s14 s15 s16 s17 s18 s19 s20 s21 s22 s23 s24 s25 s26 s27 s28 s29 s30 s31 s32 s33 s34 s35 s36 s37 s38 s39 s40 s41 s42 s43 s44 s45 s46 s47 s48 s49 s50 s51 s52 s53 s54 s55 s56 s57 s58 s59 s60 s61 s62 s63 s64 df) w:=by
 refine qk (l:=regWr) 5 _ w (qeH wp bx k SS n p A kl c B al bc) (by kernel_rfl) qcA qef qav qeg (fun i v w w' hi h hb=>qaS i v w w' hi h hb) ?_ ?_
 ·intro i' o hi' ho a w1 V hbel hdep hpar K hK
  have p0:a.eval (.tmp 0)=.pointer (some ⟨wp,0,none⟩):=hpar 0 (by show 0<65;decide) (by kernel_rfl);have p0':=tD p0;have p3:a.eval (.tmp 3)=.pointer (some ⟨bx,0,none⟩):=hpar 3 (by show 3<65;decide) (by kernel_rfl);have p3':=tD p3;obtain⟨q0,q1,q2,q3,q4,q5,q6,q7⟩:=box8 (hbel.blk hx);match i',hi',ho,hdep,hK with
  | 0,_,ho,hdep,hK=>
   simp only[regWr,gT,gZ,gI]at ho;subst ho;exact nG rfl (wV (by simp[execOp,go_sem,p0']) hK rfl)
  | 1,_,ho,hdep,hK=>
   simp only[regWr,gT,gZ,gS,gI]at ho;subst ho;exact nG rfl (wV (by simp[execOp,go_sem,p3',q0,q1,q2,q3,q4,q5,q6,q7]) hK rfl)
  | 2,_,ho,hdep,hK=>
   simp only[regWr,gT,gZ,gS,gI]at ho;subst ho;refine nG rfl ?_;refine qg (f:=86) (args:=#[.string { data:=#[108,101,116] }]) (by simp[go_sem]) ((qd ⟨#[108,101,116]⟩ w1).mono ?_);rintro e w' ⟨rfl,hb⟩;exact⟨_,rfl,hK _ _ hb rfl⟩
  | 3,_,ho,hdep,hK=>
   simp only[regWr,gT,gZ,gS,gI]at ho;subst ho;refine nG rfl ?_;refine qg (f:=86) (args:=#[.string { data:=#[114,101,99] }]) (by simp[go_sem]) ((qd ⟨#[114,101,99]⟩ w1).mono ?_);rintro e w' ⟨rfl,hb⟩;exact⟨_,rfl,hK _ _ hb rfl⟩
  | 4,_,ho,hdep,hK=>
   simp only[regWr,gT,gZ,gS,gI]at ho;subst ho;refine nG rfl ?_;have e2':=tK (t:=36) (hdep ⟨2,.data⟩ (by simp) rfl) rfl;have e3':=tK (t:=37) (hdep ⟨3,.data⟩ (by simp) rfl) rfl;exact zj (v:= .slice (some ⟨w1.heap.size,0,none⟩) 2 2) (w':=w1.alloc (.cells #[.int .u8 5,.string ⟨#[108,101,116]⟩,(0:Int),(0:Int),(0:Int),(0:Int),.int .u8 5,.string ⟨#[114,101,99]⟩,(0:Int),(0:Int),(0:Int),(0:Int)] 51)) (by simp[execOp,go_sem,e2',e3']) (hK _ _ ((Bel.refl w1).alloc _) ⟨w1.heap.size,rfl,blk1 w1 _⟩)
  | q+5,hi,_,_,_=>exact absurd hi (by omega)
 ·intro V w' hb hF
  have e:finA regWr.toArray 5 V (qh8 wp bx k SS n p A kl c B al bc s1 s2 s4 s5 s6 s7 s8 s9 s10 s11 s12 s13 s14 s15 s16 s17 s18 s19 s20 s21 s22 s23 s24 s25 s26 s27 s28 s29 s30 s31 s32 s33 s34 s35 s36 s37 s38 s39 s40 s41 s42 s43 s44 s45 s46 s47 s48 s49 s50 s51 s52 s53 s54 s55 s56 s57 s58 s59 s60 s61 s62 s63 s64 df)=qgE wp bx k SS n p A kl c B al bc s1 s2 s4 s5 s6 s7 s8 s9 s10 s11 s12 s13 s14 s15 s16 s17 s18 s19 s20 s21 s22 s23 s24 s25 s26 s27 s28 s29 s30 s31 s32 s33 s34 s35 s36 s37 s38 s39 s40 s41 s42 s43 s44 s45 s46 s47 s48 s49 s50 s51 s52 s53 s54 s55 s56 s57 s58 s59 s60 s61 s62 s63 s64 df V:=by kernel_rfl
  rw[e];exact hend V w' hb (hF 0 (by omega)) (hF 1 (by omega)) (hF 4 (by omega))
theorem JZ(base wp:Nat)(w0:World)(hwp:w0.heap.size<=wp)(M:Nat):M<=1000000->ExC w0 base wp M:=by
 induction M with
 | zero=>intro _ k s n p A c B bc kids arms xs W _ _ h;simp only[Tr.size]at h;omega
 | succ M ih=>
  intro hM k s n p A c B bc kids arms xs W hk ha hsz hsh hW hw hx;have hC:ExC w0 base wp M:=ih (by omega);have hP:PaC w0 base wp 1000000:=qf8 base wp w0 hwp 1000000 (Nat.le_refl _);clear ih;obtain⟨hs1,hs2,hs3,hs4,hs5,hs6,_⟩:=hsh;simp only[Tr.size]at hsz;have HS:=hid (Ws.start hW hw hx);obtain⟨kl,hkl⟩:∃ l,l=kids.len:=⟨_,rfl⟩
  obtain⟨al,hal⟩:∃ l,l=arms.len:=⟨_,rfl⟩
  rw[<- hkl]at hk hs1 hs2 hs3 hs4 ⊢;rw[<- hal]at ha ⊢;have HX1:=hid (HS.out.box (.cells #[.int .u8 k,.string ⟨s.toArray⟩,n,p.a,p.l,p.c,.slice A kl c,.slice B al bc] 32));have HS1:=hid (HS.out.bel ((Bel.refl W).alloc (.cells #[.int .u8 k,.string ⟨s.toArray⟩,n,p.a,p.l,p.c,.slice A kl c,.slice B al bc] 32)));have HB1:Hid (Bel W (W.alloc (.cells #[.int .u8 k,.string ⟨s.toArray⟩,n,p.a,p.l,p.c,.slice A kl c,.slice B al bc] 32))):=hid ((Bel.refl W).alloc _);obtain⟨F,hF⟩:∃ F,F=qu k s n kids arms:=⟨_,rfl⟩
  rw[<- hF];by_cases k4:k=4
  ·subst k4
   have hl1:=hs1 rfl;obtain⟨b,o,ka,sa,na,pa,kia,ara,A1,c1,B1,d1,rfl,rfl,hlt,hc1,hk1,ha1⟩:=qbm (by intro e;cases e) hk hl1;have ha1':KidsTr w0 (OldT w0) .arms B1 ara.len d1 ara:=by
    rcases ha1 with h | ⟨h | h,_⟩
    ·exact h.2
    ·cases h
    ·cases h
   have HF:Hid (F=ZY::tk0 1 s 0::Qq::qu ka sa na kia ara):=hid (by rw[hF,<- zG ka sa na pa kia ara];rfl);simp only[Tr.size]at hsz;have HP1:=hid fun xs' W'=>hC ka sa na pa A1 c1 B1 d1 kia ara xs' W' hk1 ha1' (by simp only[Tr.size];omega) hs5;have HPU:Hid (∀ (pre:List Tn) (w:World) (g:Nat),Ws w0 base wp xs W pre w->w.heap[g]?=some (.cells #[.int .u8 5,.string ⟨#[92]⟩,.int .i64 0,.int .i64 0,.int .i64 0,.int .i64 0,.int .u8 1,.string ⟨s.toArray⟩,.int .i64 0,.int .i64 0,.int .i64 0,.int .i64 0,.int .u8 5,.string ⟨#[45,62]⟩,.int .i64 0,.int .i64 0,.int .i64 0,.int .i64 0] 51 (0,0))->Calls Tryz.prog 85 #[.pointer (some ⟨wp,0,none⟩),.slice (some ⟨g,0,none⟩) 3 3] w (WsQ w0 base wp xs W (pre++[ZY,tk0 1 s 0,Qq]) w)):=hid fun pre w g h hg=>
    h.run fun r h1 h2 h3=>qcI base wp r [ZY,tk0 1 s 0,Qq] g 3 _ w0 w w h1 hwp h2 (Bel.refl _) h3 (by simp) (by simp) hg (qX _)
   have HCC1:=hid hc1;obtain⟨SS,hSS⟩:∃ S:ByteArray,S=⟨s.toArray⟩:=⟨_,rfl⟩
   obtain⟨SA,hSA⟩:∃ S:ByteArray,S=⟨sa.toArray⟩:=⟨_,rfl⟩
   obtain⟨F1,hF1⟩:∃ F,F=qu ka sa na kia ara:=⟨_,rfl⟩
   obtain⟨T1,hT1⟩:∃ T,T=tk0 1 s 0:=⟨_,rfl⟩
   obtain⟨l1,hl1'⟩:∃ l,l=kia.len:=⟨_,rfl⟩
   obtain⟨m1,hm1⟩:∃ l,l=ara.len:=⟨_,rfl⟩
   rw[<- hl1',<- hm1]at HCC1;rw[<- hSA,<- hF1,<- hl1',<- hm1]at HP1;rw[<- hF1,<- hT1]at HF;rw[<- hSS,<- hT1]at HPU;rw[<- hSS,hl1]at HX1 HS1;rw[<- hSS,hl1];have HSA:=hid hSA;clear hk ha hsz hs1 hs2 hs3 hs4 hs5 hs6 hC hP hc1 hk1 ha1 ha1' hlt hSS hSA hF1 hT1 hl1 hl1' hm1 hW hw hx hF hkl hal HB1;go_enter Tryz.func50,Tryz.ntmps50
   go_wp2_with fail
   refine qeb wp W.heap.size 4 SS n p (some ⟨b,o,none⟩) 1 c B al bc _ _ _ _ _ _ _ _ _ _ _ _ _ _ _ _ _ _ _ _ _ _ _ _ _ _ _ _ _ _ _ _ _ _ _ _ _ _ _ _ _ _ _ _ _ _ _ _ _ _ _ _ _ _ _ _ _ _ _ _ _ _ _ _ (W.alloc (.cells #[.int .u8 4,SS,n,p.a,p.l,p.c,.slice (some ⟨b,o,none⟩) 1 c,.slice B al bc] 32)) HX1.out.1 _ ?_;intro V w2 hb2 hv0 ⟨g,hv6,hg⟩;simp only[regWl,List.drop_succ_cons,List.drop_zero,qgD,hv0,hv6];have HS2:=hid (HS1.out.bel ((Bel.refl _).drew.on hb2));have HX2:=hid (HS1.out.kp ((Bel.refl _).drew.on hb2) _ _ HX1.out);have HG2:=hid hg;clear hb2 hv0 hv6 hg;go_wp2_with fail
   refine (HPU.out _ _ g HS2.out HG2.out).mono ?_;rintro e w3 ⟨rfl,hs3,hk3⟩;have HS3:=hid hs3;have HX3:=hid (hk3 _ _ HX2.out);obtain⟨x0,x1,x2,x3,x4,x5,x6,x7⟩:=box8 HX3.out.1;have hl3:W.heap.size<w3.heap.size:=(Array.getElem?_eq_some_iff.1 HX3.out.1).1;have y0:=HCC1.out _ HS3.out.1 0 _ rfl;have y1:=HCC1.out _ HS3.out.1 1 _ rfl;have y2:=HCC1.out _ HS3.out.1 2 _ rfl;have y3:=HCC1.out _ HS3.out.1 3 _ rfl;have y4:=HCC1.out _ HS3.out.1 4 _ rfl;have y5:=HCC1.out _ HS3.out.1 5 _ rfl;have y6:=HCC1.out _ HS3.out.1 6 _ rfl;have y7:=HCC1.out _ HS3.out.1 7 _ rfl;simp only[Sh.kd,Nat.add_zero]at y0 y1 y2 y3 y4 y5 y6 y7;rw[<- HSA.out]at y1;clear hs3 hk3;go_wp2_with fail
   refine (HS3.out.run fun r h1 h2 h3=>HP1.out r w3 h1 h2 h3).mono ?_;rintro e w4 ⟨rfl,hs4,hk4⟩;have HQ:=hid (hs4.fin (F:=F) (by rw[HF.out];rfl));clear hs4 hk4 y0 y1 y2 y3 y4 y5 y6 y7 x0 x1 x2 x3 x4 x5 x6 x7;go_wp2_with fail
   go_end0
   exact HQ.out
  have d4:(k==4)=false:=by simpa using k4
  by_cases k6:k=6
  ·subst k6
   have hl2:=hs2 (by simp);have HF:Hid (F=[zA]++(tk0 1 s 0::kwEq::kids.exK 0 [kwIn])):=hid (by rw[hF];rfl);obtain⟨G,hG⟩:∃ G,G=tk0 1 s 0::kwEq::kids.exK 0 [kwIn]:=⟨_,rfl⟩
   have HBD:Hid (∀ (g:Nat) (w:World),Ws w0 base wp xs W [] w->w.heap[g]?=some (.cells #[.int .u8 5,.string ⟨#[108,101,116]⟩,(0:Int),(0:Int),(0:Int),(0:Int)] 51 (0,0))->Calls Tryz.prog 95 #[.pointer (some ⟨wp,0,none⟩),.agg #[.int .u8 6,.string ⟨s.toArray⟩,n,p.a,p.l,p.c,.slice A kl c,.slice B al bc],.slice (some ⟨g,0,none⟩) 1 1] w (WsQ w0 base wp xs W ([]++([zA]++G)) w)):=hid fun g w h hg=>by
    rw[hG];exact ZN base wp M w0 hwp hC 6 s n p A kl c B al bc kids arms hk hl2 (by omega) hs5 [zA] 1 rfl (by decide) g _ xs W [] w w h (Bel.refl _) hg
   obtain⟨SS,hSS⟩:∃ S:ByteArray,S=⟨s.toArray⟩:=⟨_,rfl⟩
   rw[<- hG]at HF;rw[<- hSS]at HBD HX1 HS1;rw[<- hSS];clear hk ha hsz hs1 hs2 hs3 hs4 hs5 hs6 hC hP hW hw hx hF hkl hal HB1 hl2 hSS hG;go_enter Tryz.func50,Tryz.ntmps50
   go_wp2_with fail
   refine qd2 wp W.heap.size 6 SS n p A kl c B al bc _ _ _ _ _ _ _ _ _ _ _ _ _ _ _ _ _ _ _ _ _ _ _ _ _ _ _ _ _ _ _ _ _ _ _ _ _ _ _ _ _ _ _ _ _ _ _ _ _ _ _ _ _ _ _ _ _ _ _ _ _ _ _ _ (W.alloc (.cells #[.int .u8 6,SS,n,p.a,p.l,p.c,.slice A kl c,.slice B al bc] 32)) HX1.out.1 _ ?_;intro V w2 hb2 hv0 hv1 ⟨g,hv3,hg⟩;simp only[regWb,List.drop_succ_cons,List.drop_zero,qgA,hv0,hv1,hv3];have HS2:=hid (HS1.out.bel ((Bel.refl _).drew.on hb2));have HG2:=hid hg;clear hb2 hv0 hv1 hv3 hg;go_wp2_with fail
   refine (HBD.out g w2 HS2.out HG2.out).mono ?_;rintro e w3 ⟨rfl,hs3,hk3⟩;have HQ:=hid (hs3.fin (F:=F) (by rw[HF.out];rfl));clear hs3 hk3;go_wp2_with fail
   go_end0
   exact HQ.out
  have d6:(k==6)=false:=by simpa using k6
  by_cases k7:k=7
  ·subst k7
   have hl2:=hs2 (by simp);have HF:Hid (F=[zA,jJ]++(tk0 1 s 0::kwEq::kids.exK 0 [kwIn])):=hid (by rw[hF];rfl);obtain⟨G,hG⟩:∃ G,G=tk0 1 s 0::kwEq::kids.exK 0 [kwIn]:=⟨_,rfl⟩
   have HBD:Hid (∀ (g:Nat) (w:World),Ws w0 base wp xs W [] w->w.heap[g]?=some (.cells #[.int .u8 5,.string ⟨#[108,101,116]⟩,(0:Int),(0:Int),(0:Int),(0:Int),.int .u8 5,.string ⟨#[114,101,99]⟩,(0:Int),(0:Int),(0:Int),(0:Int)] 51 (0,0))->Calls Tryz.prog 95 #[.pointer (some ⟨wp,0,none⟩),.agg #[.int .u8 7,.string ⟨s.toArray⟩,n,p.a,p.l,p.c,.slice A kl c,.slice B al bc],.slice (some ⟨g,0,none⟩) 2 2] w (WsQ w0 base wp xs W ([]++([zA,jJ]++G)) w)):=hid fun g w h hg=>by
    rw[hG];exact ZN base wp M w0 hwp hC 7 s n p A kl c B al bc kids arms hk hl2 (by omega) hs5 [zA,jJ] 2 rfl (by decide) g _ xs W [] w w h (Bel.refl _) hg
   obtain⟨SS,hSS⟩:∃ S:ByteArray,S=⟨s.toArray⟩:=⟨_,rfl⟩
   rw[<- hG]at HF;rw[<- hSS]at HBD HX1 HS1;rw[<- hSS];clear hk ha hsz hs1 hs2 hs3 hs4 hs5 hs6 hC hP hW hw hx hF hkl hal HB1 hl2 hSS hG;go_enter Tryz.func50,Tryz.ntmps50
   go_wp2_with fail
   refine qee wp W.heap.size 7 SS n p A kl c B al bc _ _ _ _ _ _ _ _ _ _ _ _ _ _ _ _ _ _ _ _ _ _ _ _ _ _ _ _ _ _ _ _ _ _ _ _ _ _ _ _ _ _ _ _ _ _ _ _ _ _ _ _ _ _ _ _ _ _ _ _ _ _ _ _ (W.alloc (.cells #[.int .u8 7,SS,n,p.a,p.l,p.c,.slice A kl c,.slice B al bc] 32)) HX1.out.1 _ ?_;intro V w2 hb2 hv0 hv1 ⟨g,hv3,hg⟩;simp only[regWr,List.drop_succ_cons,List.drop_zero,qgE,hv0,hv1,hv3];have HS2:=hid (HS1.out.bel ((Bel.refl _).drew.on hb2));have HG2:=hid hg;clear hb2 hv0 hv1 hv3 hg;go_wp2_with fail
   refine (HBD.out g w2 HS2.out HG2.out).mono ?_;rintro e w3 ⟨rfl,hs3,hk3⟩;have HQ:=hid (hs3.fin (F:=F) (by rw[HF.out];rfl));clear hs3 hk3;go_wp2_with fail
   go_end0
   exact HQ.out
  have d7:(k==7)=false:=by simpa using k7
  by_cases k8:k=8
  ·subst k8
   have hl1:=hs3 rfl;have HF:Hid (F=jt::kids.exK 0 []++[kwOf]++arms.exK 0 [ju]++[zH]):=hid (by rw[hF];rfl);obtain⟨G,hG⟩:∃ G,G=jt::kids.exK 0 []++[kwOf]++arms.exK 0 [ju]++[zH]:=⟨_,rfl⟩
   have HCS:Hid (∀ (w:World),Ws w0 base wp xs W [] w->Calls Tryz.prog 96 #[.pointer (some ⟨wp,0,none⟩),.agg #[.int .u8 8,.string ⟨s.toArray⟩,n,p.a,p.l,p.c,.slice A kl c,.slice B al bc]] w (WsQ w0 base wp xs W ([]++G) w)):=hid fun w h=>by
    rw[hG];exact h.run fun r h1 h2 h3=>qcG base wp M (by omega) w0 hwp hC hP 8 s n p A kl c B al bc kids arms hk ha hl1 (by omega) hs5 hs6 r w h1 h2 h3
   obtain⟨SS,hSS⟩:∃ S:ByteArray,S=⟨s.toArray⟩:=⟨_,rfl⟩
   rw[<- hG]at HF;rw[<- hSS]at HCS HX1 HS1;rw[<- hSS];clear hk ha hsz hs1 hs2 hs3 hs4 hs5 hs6 hC hP hW hw hx hF hkl hal HB1 hl1 hSS hG;obtain⟨x0,x1,x2,x3,x4,x5,x6,x7⟩:=box8 HX1.out.1;go_enter Tryz.func50,Tryz.ntmps50
   go_wp2_with fail
   refine (HCS.out _ HS1.out).mono ?_;rintro e w3 ⟨rfl,hs3,hk3⟩;have HQ:=hid (hs3.fin (F:=F) (by rw[HF.out];rfl));clear hs3 hk3;go_wp2_with fail
   go_end0
   exact HQ.out
  have d8:(k==8)=false:=by simpa using k8
  by_cases k5:k=5
  ·subst k5
   have hl2:=hs2 (by simp);obtain⟨b,o,ka,sa,na,pa,kia,ara,A1,c1,B1,d1,kb,sb,nb,pb,kib,arb,A2,c2,B2,d2,rfl,rfl,hlt,hc1,hk1,ha1,hc2,hk2,ha2⟩:=Qx (by intro e;cases e) hk hl2;have ha1':KidsTr w0 (OldT w0) .arms B1 ara.len d1 ara:=by
    rcases ha1 with h | ⟨h | h,_⟩
    ·exact h.2
    ·cases h
    ·cases h
   have ha2':KidsTr w0 (OldT w0) .arms B2 arb.len d2 arb:=by
    rcases ha2 with h | ⟨h | h,_⟩
    ·exact h.2
    ·cases h
    ·cases h
   have HF:Hid (F=brkL (alnF ka kia.len) (qu ka sa na kia ara)++brkL (alnE kb kib.len) (qu kb sb nb kib arb)):=hid (by
    have e:=qfo [] ka sa na pa kia ara kb sb nb pb kib arb;rw[List.append_nil]at e;rw[hF,<- e];rfl)
   simp only[Tr.size]at hsz;have HP1:=hid fun pre w g h hg=>qba 98 alnF egF qcN (xs:=xs) (W:=W) hC (by omega) hwp pre w g ka sa na pa kia ara A1 c1 B1 d1 h hg hk1 ha1' (by omega) ⟨hs5.1,hs5.2.1,hs5.2.2.1,hs5.2.2.2.1,hs5.2.2.2.2.1,hs5.2.2.2.2.2.1,trivial⟩;have HP2:=hid fun pre w g h hg=>qba 99 alnE egE jB (xs:=xs) (W:=W) hC (by omega) hwp pre w g kb sb nb pb kib arb A2 c2 B2 d2 h hg hk2 ha2' (by omega) hs5.2.2.2.2.2.2;have HCC1:=hid hc1;have HCC2:=hid hc2;obtain⟨SS,hSS⟩:∃ S:ByteArray,S=⟨s.toArray⟩:=⟨_,rfl⟩
   obtain⟨SA,hSA⟩:∃ S:ByteArray,S=⟨sa.toArray⟩:=⟨_,rfl⟩
   obtain⟨SB,hSB⟩:∃ S:ByteArray,S=⟨sb.toArray⟩:=⟨_,rfl⟩
   obtain⟨F1,hF1⟩:∃ F,F=brkL (alnF ka kia.len) (qu ka sa na kia ara):=⟨_,rfl⟩
   obtain⟨F2,hF2⟩:∃ F,F=brkL (alnE kb kib.len) (qu kb sb nb kib arb):=⟨_,rfl⟩
   obtain⟨l1,hl1⟩:∃ l,l=kia.len:=⟨_,rfl⟩
   obtain⟨l2,hl2'⟩:∃ l,l=kib.len:=⟨_,rfl⟩
   obtain⟨m1,hm1⟩:∃ l,l=ara.len:=⟨_,rfl⟩
   obtain⟨m2,hm2⟩:∃ l,l=arb.len:=⟨_,rfl⟩
   rw[<- hl1,<- hm1]at HCC1;rw[<- hl2',<- hm2]at HCC2;rw[<- hSA,<- hF1,<- hl1,<- hm1]at HP1;rw[<- hSB,<- hF2,<- hl2',<- hm2]at HP2;rw[<- hF1,<- hF2]at HF;rw[<- hSS,hl2]at HX1 HS1;rw[<- hSS,hl2];have HSA:=hid hSA;have HSB:=hid hSB;clear hk ha hsz hs1 hs2 hs3 hs4 hs5 hs6 hC hP hc1 hc2 hk1 hk2 ha1 ha2 ha1' ha2' hlt hSS hSA hSB hF1 hF2 hl1 hl2' hm1 hm2 hW hw hx hF hkl hal HB1 hl2;have y0:=HCC1.out _ HS1.out.1 0 _ rfl;have y1:=HCC1.out _ HS1.out.1 1 _ rfl;have y2:=HCC1.out _ HS1.out.1 2 _ rfl;have y3:=HCC1.out _ HS1.out.1 3 _ rfl;have y4:=HCC1.out _ HS1.out.1 4 _ rfl;have y5:=HCC1.out _ HS1.out.1 5 _ rfl;have y6:=HCC1.out _ HS1.out.1 6 _ rfl;have y7:=HCC1.out _ HS1.out.1 7 _ rfl;simp only[Sh.kd,Nat.add_zero]at y0 y1 y2 y3 y4 y5 y6 y7;rw[<- HSA.out]at y1;go_enter Tryz.func50,Tryz.ntmps50
   go_wp2_with fail
   refine (HP1.out [] _ (W.heap.size+1) HS1.out (by simp)).mono ?_;rintro e w2 ⟨rfl,hs2,hk2⟩;have HS2:=hid hs2;have HX2:=hid (hk2 _ _ HX1.out);clear y0 y1 y2 y3 y4 y5 y6 y7 hs2 hk2;obtain⟨x0,x1,x2,x3,x4,x5,x6,x7⟩:=box8 HX2.out.1;have hl2:W.heap.size<w2.heap.size:=(Array.getElem?_eq_some_iff.1 HX2.out.1).1;have y0:=HCC2.out _ HS2.out.1 0 _ rfl;have y1:=HCC2.out _ HS2.out.1 1 _ rfl;have y2:=HCC2.out _ HS2.out.1 2 _ rfl;have y3:=HCC2.out _ HS2.out.1 3 _ rfl;have y4:=HCC2.out _ HS2.out.1 4 _ rfl;have y5:=HCC2.out _ HS2.out.1 5 _ rfl;have y6:=HCC2.out _ HS2.out.1 6 _ rfl;have y7:=HCC2.out _ HS2.out.1 7 _ rfl;simp only[Sh.kd,Sh.sz,Nat.add_zero]at y0 y1 y2 y3 y4 y5 y6 y7;rw[<- HSB.out]at y1;go_wp2_with fail
   refine (HP2.out _ _ _ HS2.out rfl).mono ?_;rintro e w3 ⟨rfl,hs3,hk3⟩;have HQ:=hid (hs3.fin (F:=F) (by rw[HF.out];rfl));clear hs3 hk3 y0 y1 y2 y3 y4 y5 y6 y7 x0 x1 x2 x3 x4 x5 x6 x7;go_wp2_with fail
   go_end0
   exact HQ.out
  have d5:(k==5)=false:=by simpa using k5
  have HF:Hid (F=if (exR k s).1=5 then kids.exK 2 [tk0 5 s n] else tk0 (exR k s).1 s n::kids.exK 2 []):=hid (by rw[hF];simp only[qu,if_neg k4,if_neg k6,if_neg k7,if_neg k8,if_neg k5]);obtain⟨G,hG⟩:∃ G,G=(if (exR k s).1=5 then kids.exK 2 [tk0 5 s n] else tk0 (exR k s).1 s n::kids.exK 2 []):=⟨_,rfl⟩
  have HCS:Hid (∀ (w:World),Ws w0 base wp xs W [] w->Calls Tryz.prog 100 #[.pointer (some ⟨wp,0,none⟩),.agg #[.int .u8 k,.string ⟨s.toArray⟩,n,p.a,p.l,p.c,.slice A kl c,.slice B al bc]] w (WsQ w0 base wp xs W ([]++G) w)):=hid fun w h=>by
   rw[hG];exact qa0 base wp M (by omega) w0 hwp hC k s n p A kl c B al bc kids arms hk (by omega) hs5 hs4 xs W [] w w h (Bel.refl _)
  obtain⟨SS,hSS⟩:∃ S:ByteArray,S=⟨s.toArray⟩:=⟨_,rfl⟩
  rw[<- hG]at HF;rw[<- hSS]at HCS HX1 HS1;rw[<- hSS];clear hk ha hsz hs1 hs2 hs3 hs4 hs5 hs6 hC hP hW hw hx hF hkl hal HB1 hSS hG k4 k5 k6 k7 k8;obtain⟨x0,x1,x2,x3,x4,x5,x6,x7⟩:=box8 HX1.out.1;go_enter Tryz.func50,Tryz.ntmps50
  go_wp2_with fail
  refine (HCS.out _ HS1.out).mono ?_;rintro e w3 ⟨rfl,hs3,hk3⟩;have HQ:=hid (hs3.fin (F:=F) (by rw[HF.out];rfl));clear hs3 hk3;go_wp2_with fail
  go_end0
  exact HQ.out
def dcK(x:Dc):List Tn:=if x.kd=1 then qfc x.nm x.ps x.cs else zA::(if x.rc then [jJ] else [])++[tk0 1 x.nm 0,kwEq]++qu x.k x.s x.n x.kids x.arms
def Dc.shw(x:Dc):Prop:=if x.kd=1 then ∀ c∈x.cs,c.shw else x.tr.shp
theorem qe0(base wp:Nat)(w0:World)(hwp:w0.heap.size<=wp)(kd:Int)(nm:List UInt8)(q:Pl)(PA:Option Addr)(pc:Nat)(ps:List (List UInt8))(CA:Option Addr)(cc:Nat)(cs:List Cd)(rc:Bool)(k:Int)(s:List UInt8)(n:Int)(p:Pl)(A:Option Addr)(c:Nat)(B:Option Addr)(bc:Nat)(kids arms:Tr)
  (hp:RowOf 1 SAt w0 (OldT w0) PA ps.length pc ps) (hc:RowOf 5 CdAt w0 (OldT w0) CA cs.length cc cs) (hk:KidsTr w0 (OldT w0) .ex A kids.len c kids) (ha:KidsTr w0 (OldT w0) .arms B arms.len bc arms) (hg:cs.length<=1000000/\ps.length<=1100000/\kids.size+arms.size<=900000/\∀ c∈cs,c.good) (hsh:Dc.shw ⟨kd,nm,q,ps,cs,rc,k,s,n,p,kids,arms⟩) (xs:List Tn) (W:World) (hW:Bel w0 W) (hw:Wri W base wp xs) (hx:xs.length<=5000) :
  Calls Tryz.prog 45 #[.pointer (some ⟨wp,0,none⟩),.agg #[.int .u8 kd,.string ⟨nm.toArray⟩,q.a,q.l,q.c,.slice PA ps.length pc,.slice CA cs.length cc,.bool rc,.int .u8 k,.string ⟨s.toArray⟩,n,p.a,p.l,p.c,.slice A kids.len c,.slice B arms.len bc]] W (WrQ w0 base wp xs (dcK ⟨kd,nm,q,ps,cs,rc,k,s,n,p,kids,arms⟩) W):=by
 have HS:=hid (Ws.start hW hw hx);obtain⟨F,hF⟩:∃ F,F=dcK ⟨kd,nm,q,ps,cs,rc,k,s,n,p,kids,arms⟩:=⟨_,rfl⟩
 rw[<- hF];obtain⟨kl,hkl⟩:∃ l,l=kids.len:=⟨_,rfl⟩
 obtain⟨al,hal⟩:∃ l,l=arms.len:=⟨_,rfl⟩
 obtain⟨pl,hpl⟩:∃ l,l=ps.length:=⟨_,rfl⟩
 obtain⟨cl,hcl⟩:∃ l,l=cs.length:=⟨_,rfl⟩
 obtain⟨SS,hSS⟩:∃ S:ByteArray,S=⟨s.toArray⟩:=⟨_,rfl⟩
 obtain⟨NM,hNM⟩:∃ S:ByteArray,S=⟨nm.toArray⟩:=⟨_,rfl⟩
 have HB1:Hid (Bel W (W.alloc (.cells #[.int .u8 kd,NM,q.a,q.l,q.c,.slice PA pl pc,.slice CA cl cc,.bool rc,.int .u8 k,SS,n,p.a,p.l,p.c,.slice A kl c,.slice B al bc] 34))):=hid ((Bel.refl W).alloc _);have HS1:=hid (HS.out.bel HB1.out);have HX1:=hid (HS.out.box (.cells #[.int .u8 kd,NM,q.a,q.l,q.c,.slice PA pl pc,.slice CA cl cc,.bool rc,.int .u8 k,SS,n,p.a,p.l,p.c,.slice A kl c,.slice B al bc] 34));by_cases h1:kd=1
 ·subst h1
  have HF:Hid (F=qfc nm ps cs):=hid (by rw[hF];rfl);have hsh1:∀ c∈cs,c.shw:=hsh;have HD:Hid (∀ w,Ws w0 base wp xs W [] w->Calls Tryz.prog 84 #[.pointer (some ⟨wp,0,none⟩),.agg #[.int .u8 1,NM,q.a,q.l,q.c,.slice PA pl pc,.slice CA cl cc,.bool rc,.int .u8 k,SS,n,p.a,p.l,p.c,.slice A kl c,.slice B al bc]] w (WsQ w0 base wp xs W ([]++F) w)):=hid fun w h=>by
   rw[HF.out,hNM];exact h.run fun r q1 q2 q3=>qeZ base wp w0 hwp 1 nm q PA pl pc ps CA cl cc cs rc k SS n p A kl c B al bc (by rw[hpl];exact hp) (by rw[hcl];exact hc) (by omega) (by omega) hsh1 r w q1 q2 q3
  rw[<- hkl,<- hal,<- hpl,<- hcl,<- hSS,<- hNM];clear hp hc hk ha hg hsh hsh1 hW hw hx hF hkl hal hpl hcl hSS hNM HB1;go_enter Tryz.func45,Tryz.ntmps45
  go_wp2_with fail
  refine (HD.out _ HS1.out).mono ?_;rintro e w3 ⟨rfl,hs3,hk3⟩;have HQ:=hid (hs3.fin (F:=F) rfl);clear hs3 hk3;go_wp2_with fail
  go_end0
  exact HQ.out
 have HF:Hid (F=zA::(if rc then [jJ] else [])++[tk0 1 nm 0,kwEq]++qu k s n kids arms):=hid (by rw[hF];unfold dcK;rw[if_neg h1]);have hsh1:(Tr.nod k s n p kids arms .nil).shp:=by
  unfold Dc.shw at hsh;rw[if_neg h1]at hsh;exact hsh
 have k1:(kd==1)=false:=by simpa using h1
 have HE:=hid fun xs' W'=>JZ base wp w0 hwp 1000000 (Nat.le_refl _) k s n p A c B bc kids arms xs' W' hk ha (by have:=hg.2.2.1;simp only[Tr.size];omega) hsh1;have HPU:Hid (∀ (pre:List Tn) (w:World) (g:Nat),Ws w0 base wp xs W pre w->g=w.heap.size->Calls Tryz.prog 85 #[.pointer (some ⟨wp,0,none⟩),.slice (some ⟨g,0,none⟩) 2 2] (w.alloc (.cells #[.int .u8 1,.string ⟨nm.toArray⟩,.int .i64 0,.int .i64 0,.int .i64 0,.int .i64 0,.int .u8 5,.string ⟨#[61]⟩,.int .i64 0,.int .i64 0,.int .i64 0,.int .i64 0] 51)) (WsQ w0 base wp xs W (pre++[tk0 1 nm 0,kwEq]) w)):=hid fun pre w g h hg=>h.put2g hwp 1 nm 0 5 [61] 0 2 g hg;obtain⟨F1,hF1⟩:∃ F,F=qu k s n kids arms:=⟨_,rfl⟩
 obtain⟨T1,hT1⟩:∃ T,T=tk0 1 nm 0:=⟨_,rfl⟩
 rw[<- hF1,<- hT1]at HF;rw[<- hkl,<- hal,<- hSS,<- hF1]at HE;rw[<- hNM,<- hT1]at HPU;rw[<- hkl,<- hal,<- hpl,<- hcl,<- hSS,<- hNM];clear hp hc hk ha hg hsh hsh1 hW hw hx hF hkl hal hpl hcl hSS hNM HB1 hF1 hT1 h1;go_enter Tryz.func45,Tryz.ntmps45
 go_wp2_with fail
 refine (qd _ _).mono ?_;rintro e w2 ⟨rfl,hb2⟩;have HS2:=hid (HS1.out.bel hb2);have HX2:=hid (HS1.out.kp hb2 _ _ HX1.out);clear hb2 HS1 HX1;unfold tokV;go_wp2_with fail
 refine (HS2.out.put1 hwp 5 [108,101,116] 0 _).mono ?_;rintro e w3 ⟨rfl,hs3,hk3⟩;have HS3:=hid hs3;have HX3:=hid (hk3 _ _ HX2.out);obtain⟨_,x7,_⟩:=Zr HX3.out.1;have x1:=(Zz HX3.out.1).1;have hl3:W.heap.size<w3.heap.size:=(Array.getElem?_eq_some_iff.1 HX3.out.1).1;clear hs3 hk3 HS2 HX2;cases rc
 ·have HF2:Hid (F=zA::([]++[T1,kwEq]++F1)):=hid (by rw[HF.out];simp)
  go_wp2_with fail
  refine (qW _ _).mono ?_;rintro e w5 ⟨rfl,hb5⟩;have HS5:=hid (HS3.out.bel hb5);have HX5:=hid (HS3.out.kp hb5 _ _ HX3.out);clear hb5 HS3 HX3 x7 x1 hl3;unfold tokV;go_wp2_with fail
  refine (qd _ _).mono ?_;rintro e w6 ⟨rfl,hb6⟩;have HS6:=hid (HS5.out.bel hb6);have HX6:=hid (HS5.out.kp hb6 _ _ HX5.out);clear hb6 HS5 HX5;unfold tokV;go_wp2_with fail
  refine (HPU.out _ _ _ HS6.out rfl).mono ?_;rintro e w7 ⟨rfl,hs7,hk7⟩;have HS7:=hid hs7;have HX7:=hid (hk7 _ _ HX6.out);obtain⟨x6,x7,x8,x9,x10,x11,x12,x13,x14,x15⟩:=Zr HX7.out.1;have hl7:W.heap.size<w7.heap.size:=(Array.getElem?_eq_some_iff.1 HX7.out.1).1;clear hs7 hk7 HS6 HX6;go_wp2_with fail
  refine (HS7.out.run fun r h1 h2 h3=>HE.out r w7 h1 h2 h3).mono ?_;rintro e w8 ⟨rfl,hs8,hk8⟩;have HQ:=hid (hs8.fin (F:=F) (by rw[HF2.out];simp;rfl));clear hs8 hk8 x6 x7 x8 x9 x10 x11 x12 x13 x14 x15 hl7;go_wp2_with fail
  go_end0
  exact HQ.out
 ·have HF2:Hid (F=zA::([jJ]++[T1,kwEq]++F1)):=hid (by rw[HF.out];simp)
  go_wp2_with fail
  refine (qd _ _).mono ?_;rintro e w4 ⟨rfl,hb4⟩;have HS4':=hid (HS3.out.bel hb4);have HX4':=hid (HS3.out.kp hb4 _ _ HX3.out);clear hb4 HS3 HX3 x7 x1 hl3;unfold tokV;go_wp2_with fail
  refine (HS4'.out.put1 hwp 5 [114,101,99] 0 _).mono ?_;rintro e w4' ⟨rfl,hs4,hk4⟩;have HS4:=hid hs4;have HX4:=hid (hk4 _ _ HX4'.out);have x1:=(Zz HX4.out.1).1;have hl4:W.heap.size<w4'.heap.size:=(Array.getElem?_eq_some_iff.1 HX4.out.1).1;clear hs4 hk4 HS4' HX4';go_wp2_with fail
  refine (qW _ _).mono ?_;rintro e w5 ⟨rfl,hb5⟩;have HS5:=hid (HS4.out.bel hb5);have HX5:=hid (HS4.out.kp hb5 _ _ HX4.out);clear hb5 HS4 HX4 x1 hl4;unfold tokV;go_wp2_with fail
  refine (qd _ _).mono ?_;rintro e w6 ⟨rfl,hb6⟩;have HS6:=hid (HS5.out.bel hb6);have HX6:=hid (HS5.out.kp hb6 _ _ HX5.out);clear hb6 HS5 HX5;unfold tokV;go_wp2_with fail
  refine (HPU.out _ _ _ HS6.out rfl).mono ?_;rintro e w7 ⟨rfl,hs7,hk7⟩;have HS7:=hid hs7;have HX7:=hid (hk7 _ _ HX6.out);obtain⟨x6,x7,x8,x9,x10,x11,x12,x13,x14,x15⟩:=Zr HX7.out.1;have hl7:W.heap.size<w7.heap.size:=(Array.getElem?_eq_some_iff.1 HX7.out.1).1;clear hs7 hk7 HS6 HX6;go_wp2_with fail
  refine (HS7.out.run fun r h1 h2 h3=>HE.out r w7 h1 h2 h3).mono ?_;rintro e w8 ⟨rfl,hs8,hk8⟩;have HQ:=hid (hs8.fin (F:=F) (by rw[HF2.out];simp;exact⟨rfl,rfl⟩));clear hs8 hk8 x6 x7 x8 x9 x10 x11 x12 x13 x14 x15 hl7;go_wp2_with fail
  go_end0
  exact HQ.out
end Go.Proofs.YtlmmaoobembadaaGreatDoor.Mu
namespace Go.Proofs.YtlmmaoobembadaaGreatDoor.Mu
open Go Go.RowKit Go.Shelf
set_option linter.unusedVariables false
set_option maxRecDepth 100000
theorem zs{tok kc:Int}{s:List UInt8}{n:Int}{l:Nat}(h:keepB tok kc s n l=true):(kc = -1∨kc=(l:Int))/\(tok=0->s=[]/\n=0)/\(tok≠0->qA (tok,s,n)):=by
 unfold keepB at h;split at h
 ·cases h
 rename_i h1;refine⟨?_,fun h0=>?_,fun h0=>?_⟩
 ·by_cases e:kc = -1
  ·exact .inl e
  ·exact .inr (Classical.byContradiction fun e2=>h1 ⟨e,e2⟩)
 ·rw[if_pos h0]at h
  simpa using h
 ·rw[if_neg h0]at h
  simpa [mtB] using h
theorem qfX{s:List UInt8}(h:s∈zw∨s∈jQ):qA (tk0 5 s 0).b:= .inr (.inr (.inr (.inr (.inl ⟨rfl,h,rfl⟩))))
theorem Ql:∀ t∈[zA,jJ,kwIn,jt,kwOf,kwEq,Qq,ZY,ju,zH,QQ,tk0 5 [95] 0,tk0 5 [40] 0,tk0 5 [41] 0,tk0 5 [63] 0,tk0 5 [42] 0,tk0 5 [45,49,62] 0,tk0 5 [45,63,62] 0,tk0 5 [45,42,62] 0,tk0 5 [124] 0,tk0 5 [100,97,116,97] 0],qA t.b:=by
 intro t ht;simp only[List.mem_cons,List.not_mem_nil,or_false]at ht;rcases ht with rfl | rfl | rfl | rfl | rfl | rfl | rfl | rfl | rfl | rfl | rfl | rfl | rfl | rfl | rfl | rfl | rfl | rfl | rfl | rfl | rfl
 all_goals exact qfX (by decide +kernel)
def AllM(F:List Tn):Prop:=∀ t∈F,qA t.b
theorem AllM.nil:AllM []:=by intro t h;cases h
theorem AllM.cons{t:Tn}{F:List Tn}(h:qA t.b)(k:AllM F):AllM (t::F):=fun u hu=>(List.mem_cons.1 hu).elim (fun e=>e ▸ h) (k u)
theorem AllM.app{F G:List Tn}(h:AllM F)(k:AllM G):AllM (F++G):=fun u hu=>(List.mem_append.1 hu).elim (h u) (k u)
theorem AllM.kw{t:Tn}{F:List Tn}(h:t∈[zA,jJ,kwIn,jt,kwOf,kwEq,Qq,ZY,ju,zH,QQ,tk0 5 [95] 0,tk0 5 [40] 0,tk0 5 [41] 0,tk0 5 [63] 0,tk0 5 [42] 0,tk0 5 [45,49,62] 0,tk0 5 [45,63,62] 0,tk0 5 [45,42,62] 0,tk0 5 [124] 0,tk0 5 [100,97,116,97] 0])(k:AllM F):AllM (t::F):=k.cons (Ql t h)
theorem AllM.brk{b:Bool}{F:List Tn}(h:AllM F):AllM (brkL b F):=by
 unfold brkL;split
 ·exact h
 ·exact AllM.kw (by simp) (h.app (AllM.kw (by simp) AllM.nil))
theorem AllM.brkM{md:Nat}{k:Int}{l:Nat}{F:List Tn}(h:AllM F):AllM (brkM md k l F):=by
 unfold Mu.brkM;split
 ·exact h
 split
 ·exact h.brk
 ·exact h.brk
theorem ZF{k:Int}{s:List UInt8}{n:Int}{l:Nat}{K:List Tn}(h:hPf k s n l=true)(hK:AllM K):AllM (zi k s n K):=by
 unfold zi;split
 ·exact AllM.kw (by simp) AllM.nil
 ·rename_i h2
  unfold hPf at h;rw[Bool.and_eq_true]at h;obtain⟨h1,h3⟩:=h;refine AllM.cons ((zs h3).2.2 fun e=>?_) hK;unfold paR at h1 e;simp only[h2,if_false]at h1 e;by_cases k1:k=1
  ·simp[k1]at e
  by_cases k3:k=3
  ·simp[k3]at e
  by_cases k4:k=4
  ·simp[k4]at e
  by_cases k5:k=5
  ·simp[k5]at e
  simp[k1,k3,k4,k5]at h1
theorem Jc:∀ f:Tr,f.mayP hPf=true->AllM f.patK
 | .nil,_=>AllM.nil
 | .arm ..,_=>AllM.nil
 | .nod k s n p kids arms r,h=>by
  simp only[Tr.mayP,Bool.and_eq_true]at h;exact ((ZF h.1.1 (Jc kids h.1.2)).brk).app (Jc r h.2)
theorem ZL{k:Int}{s:List UInt8}{n:Int}{l:Nat}{K K2:List Tn}(h:hTf k s n l=true)(hK:AllM K)(hK2:AllM K2):AllM (if k=3 then K2 else tk0 (tyR k).1 s 0::K):=by
 split
 ·exact hK2
 ·rename_i h3
  unfold hTf at h;rw[if_neg h3,Bool.and_eq_true,Bool.and_eq_true]at h;obtain⟨h1,h2,h4⟩:=h;refine AllM.cons ((zs h4).2.2 fun e=>?_) hK;unfold tyR at h2 e;simp only[h3,if_false]at h2 e;split at h2
  ·rw[if_pos (by assumption)]at e;cases e
  ·rename_i h5
   rw[if_neg h5]at e;split at h2
   ·rw[if_pos (by assumption)]at e;cases e
   ·cases h2
theorem qbR{n:Int}(h:mltB n=true):qA (zq n).b:=by
 unfold zq;split
 ·exact Ql _ (by simp)
 split
 ·exact Ql _ (by simp)
 ·exact Ql _ (by simp)
theorem qcd{n:Int}:qA (qQ n).b:=by
 unfold qQ;split
 ·exact .inr (.inr (.inl ⟨rfl,by decide,by decide,rfl⟩))
 split
 ·exact Ql _ (by simp)
 ·exact Ql _ (by simp)
theorem Q7:∀ (f:Tr) (sep:List Tn),f.mayP hTf=true->AllM sep->AllM (f.tyK sep)
 | .nil,_,_,_=>AllM.nil
 | .arm ..,_,_,_=>AllM.nil
 | .nod k s n p kids arms r,sep,h,hs=>by
  simp only[Tr.mayP,Bool.and_eq_true]at h;have h1:=Q7 kids [] h.1.2 AllM.nil;by_cases h3:k=3
  ·have hm:mltB n=true:=by
    have:=h.1.1;unfold hTf at this;rw[if_pos h3,Bool.and_eq_true]at this;exact this.1
   exact (((ZL h.1.1 h1 (Q7 kids [zq n] h.1.2 (AllM.cons (qbR hm) AllM.nil))).brk).app hs).app (Q7 r [] h.2 AllM.nil)
  ·refine ((AllM.brk ?_).app hs).app (Q7 r [] h.2 AllM.nil)
   have h2:=ZL h.1.1 h1 AllM.nil;rw[if_neg h3]at h2 ⊢;exact h2
theorem qb1{k:Int}{s:List UInt8}{n:Int}{l al:Nat}{K0 K1 K2 KI KS KA:List Tn}(h:hEf k s n l al=true)(h0:AllM K0)(h1:AllM K1)(h2:AllM K2)(hI:AllM KI)(hS:(exR k s).1=5->qA (5,s,n)->AllM KS)(hA:AllM KA) :
  AllM (if k=4 then ZY::tk0 1 s 0::Qq::K0
    else if k=6 then zA::tk0 1 s 0::kwEq::KI
    else if k=7 then zA::jJ::tk0 1 s 0::kwEq::KI
    else if k=8 then jt::K0++[kwOf]++KA++[zH]
    else if k=5 then K1
    else if (exR k s).1=5 then KS
    else tk0 (exR k s).1 s n::K2):=by
 unfold hEf at h;rw[Bool.and_eq_true,Bool.and_eq_true]at h;obtain⟨hr,hk,_⟩:=h;have hp:=zs hk;have name:(exR k s).1=1->qA (tk0 1 s 0).b:=fun e=>by
  have:=hp.2.2 (by rw[e];decide);rw[e]at this;have hn:n=0:=by
   rcases this with h | h | h | h | h | h
   ·exact h.2.2
   ·have h1:=h.1;simp at h1
   ·have h1:=h.1;simp at h1
   ·have h1:=h.1;simp at h1
   ·have h1:=h.1;simp at h1
   ·have h1:=h.1;simp at h1
  rw[hn]at this;exact this
 by_cases k4:k=4
 ·rw[if_pos k4]
  exact AllM.kw (by simp) (AllM.cons (name (by rw[k4];rfl)) (AllM.kw (by simp) h0))
 rw[if_neg k4];by_cases k6:k=6
 ·rw[if_pos k6]
  exact AllM.kw (by simp) (AllM.cons (name (by rw[k6];rfl)) (AllM.kw (by simp) hI))
 rw[if_neg k6];by_cases k7:k=7
 ·rw[if_pos k7]
  exact AllM.kw (by simp) (AllM.kw (by simp) (AllM.cons (name (by rw[k7];rfl)) (AllM.kw (by simp) hI)))
 rw[if_neg k7];by_cases k8:k=8
 ·rw[if_pos k8]
  exact (((AllM.kw (by simp) h0).app (AllM.kw (by simp) AllM.nil)).app hA).app (AllM.kw (by simp) AllM.nil)
 rw[if_neg k8];by_cases k5:k=5
 ·rw[if_pos k5]
  exact h1
 rw[if_neg k5];by_cases e5:(exR k s).1=5
 ·rw[if_pos e5]
  exact hS e5 (by have:=hp.2.2 (by rw[e5];decide);rwa [e5]at this)
 rw[if_neg e5];refine AllM.cons (hp.2.2 fun e=>?_) h2;unfold exR at hr e;simp only[k4,k5,k6,k7,k8,if_false]at hr e;by_cases k1:k=1
 ·simp[k1]at e
 by_cases k2:k=2
 ·simp[k2]at e
 by_cases k3:k=3
 ·simp[k3]at e
 by_cases k9:k=9
 ·simp[k9]at e
 by_cases k10:k=10
 ·simp only[k10]at e
  simp at e;split at e <;> simp at e
 ·simp[k1,k2,k3,k9,k10]at hr
theorem qM:∀ (f:Tr) (md:Nat) (sep:List Tn),f.mayE hEf hPf=true->AllM sep->AllM (f.exK md sep)
 | .nil,_,_,_,_=>AllM.nil
 | .arm k s n p kids e r,md,sep,h,hs=>by
  simp only[Tr.mayE,Bool.and_eq_true]at h;exact (((hs.app (ZF h.1.1.1 (Jc kids h.1.1.2))).app (AllM.kw (by simp) AllM.nil)).app (qM e 0 [] h.1.2 AllM.nil)).app (qM r 0 [QQ] h.2 (AllM.kw (by simp) AllM.nil))
 | .nod k s n p kids arms r,md,sep,h,hs=>by
  simp only[Tr.mayE,Bool.and_eq_true]at h;exact (((qb1 h.1.1.1 (qM kids 0 [] h.1.1.2 AllM.nil) (qM kids 1 [] h.1.1.2 AllM.nil) (qM kids 2 [] h.1.1.2 AllM.nil) (qM kids 0 [kwIn] h.1.1.2 (AllM.kw (by simp) AllM.nil)) (fun _ hm=>qM kids 2 [tk0 5 s n] h.1.1.2 (AllM.cons hm AllM.nil)) (qM arms 0 [ju] h.1.2 (AllM.kw (by simp) AllM.nil))).brkM).app hs).app (qM r (nxM md) [] h.2 AllM.nil)
theorem QW:∀ f:Tr,f.mayE hEf hPf=true->f.shp
 | .nil,_=>trivial
 | .arm k s n p kids e r,h=>by
  simp only[Tr.mayE,Bool.and_eq_true]at h;exact⟨QW e h.1.2,QW r h.2⟩
 | .nod k s n p kids arms r,h=>by
  simp only[Tr.mayE,Bool.and_eq_true]at h;have h1:=h.1.1.1;unfold hEf at h1;rw[Bool.and_eq_true,Bool.and_eq_true]at h1;have hp:=(zs h1.2.1).1;refine⟨fun e=>?_,fun e=>?_,fun e=>?_,fun e=>?_,QW kids h.1.1.2,QW arms h.1.2,QW r h.2⟩
  ·rw[e]at hp
   have:(exR 4 s).2.1=1:=rfl;rw[this]at hp;omega
  ·rcases e with e | e | e
   all_goals rw[e]at hp
   ·have:(exR 5 s).2.1=2:=rfl
    rw[this]at hp;omega
   ·have:(exR 6 s).2.1=2:=rfl
    rw[this]at hp;omega
   ·have:(exR 7 s).2.1=2:=rfl
    rw[this]at hp;omega
  ·rw[e]at hp
   have:(exR 8 s).2.1=1:=rfl;rw[this]at hp;omega
  ·have h10:k=10/\btwB s=true:=by
    unfold exR at e;by_cases k10:k=10
    ·refine⟨k10,?_⟩
     subst k10;simp at e;split at e
     ·assumption
     ·simp at e
    ·exfalso
     revert e
     simp only[k10,if_false];repeat' split
     all_goals simp
   have:(exR k s).2.1=2:=by rw[h10.1];simp[exR,h10.2]
   rw[this]at hp;omega
theorem qaF:∀ f:Tr,f.mayP hTf=true->f.shpT
 | .nil,_=>trivial
 | .arm ..,_=>trivial
 | .nod k s n p kids arms r,h=>by
  simp only[Tr.mayP,Bool.and_eq_true]at h;refine⟨fun e=>?_,qaF kids h.1.2,qaF r h.2⟩;have h1:=h.1.1;unfold hTf at h1;rw[Bool.and_eq_true,Bool.and_eq_true]at h1;have hp:=(zs h1.2.2).1;rw[e]at hp;have:(tyR 3).2.1=2:=rfl;rw[this]at hp;omega
theorem qdG{t:Int × List UInt8 × Int}(h:qA t):1<=(putB t.1 t.2.1 t.2.2).length:=by
 obtain⟨k,s,n⟩:=t;have hs:∀ l:List (List UInt8),(∀ x∈l,x≠[])->s∈l->1<=s.length:=fun l hl hm=>List.length_pos_iff.2 (hl s hm);have hw:∀ x∈zw,x≠[]:=by decide +kernel
 have hg:∀ x∈jQ,x≠[]:=by decide +kernel
 have hp:∀ x∈zE,x≠[]:=by decide +kernel
 unfold putB;rcases h with ⟨e,h,_⟩ | ⟨e,h,_⟩ | ⟨e,h⟩ | ⟨e,h⟩ | ⟨e,h,_⟩ | ⟨e,h,_⟩
 all_goals simp only at e h
 all_goals subst e
 ·exact List.length_pos_iff.2 h.1
 ·exact List.length_pos_iff.2 h.1
 ·show 1<=(digB n.toNat).length
  unfold digB byt;rw[List.length_map];exact List.length_pos_iff.2 (j4 _)
 ·simp
 ·rcases h with h | h
  ·exact hs _ hw h
  ·exact hs _ hg h
 ·exact hs _ hp h
theorem Qe:∀ ts:List (Int × List UInt8 × Int),(∀ t∈ts,qA t)->ts.length<=(qt ts).length
 | [],_=>Nat.le_refl _
 | [t],h=>qdG (h t (by simp))
 | t::u::ts,h=>by
  have h1:=Qe (u::ts) fun x hx=>h x (List.mem_cons_of_mem _ hx);have h2:=qdG (h t (by simp));simp only[qt,List.length_append,List.length_cons]at h1 ⊢;omega
theorem qhP{F r:List Tn}(hF:AllM F)(h:WrR [] F r):wrO (r.map Tn.b)=wrO (F.map Tn.b):=by
 obtain⟨h1,h2⟩:=h.from0;rcases h2 with rfl | h2
 ·rfl
 have mF:∀ t∈F.map Tn.b,qA t:=fun t ht=>by
  obtain⟨x,hx,rfl⟩:=List.mem_map.1 ht;exact hF x hx
 have mr:∀ t∈r.map Tn.b,qA t:=fun t ht=>by
  obtain⟨x,hx,rfl⟩:=List.mem_map.1 ht;exact hF x (h1.subset hx)
 have l1:=Qe _ mF;have l2:=Qe _ mr;have l3:=h1.length_le;rw[List.length_map]at l1 l2;unfold wrO;rw[if_pos mF,if_pos mr,if_neg (by omega),if_neg (by omega)]
end Go.Proofs.YtlmmaoobembadaaGreatDoor.Mu
