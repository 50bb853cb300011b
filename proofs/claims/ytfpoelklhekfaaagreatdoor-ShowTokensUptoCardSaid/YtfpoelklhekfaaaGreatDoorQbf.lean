import Derived.Test.YtfpoelklhekfaaaGreatDoorQah
import Derived.Test.YtfpoelklhekfaaaGreatDoorQat
namespace Go.Proofs.YtfpoelklhekfaaaGreatDoor.Mu
set_option maxHeartbeats 8000000
open Go Go.RowKit Go.Shelf
attribute [local go_sem] Oper.semAt_some
set_option linter.unusedVariables false
set_option maxRecDepth 100000
def regWl:List Oper:=[
 ⟨some 11,.move (.tmp 0),66,"write.go:116",#[],none⟩,
 ⟨some 12,.call ⟨.value (.func 51),#[.const (Value.string { data:=#[92] })],#[9]⟩,37,"write.go:116",#[],none⟩,
 ⟨some 13,.fieldAddr 43 (.tmp 3) 1,0,"write.go:116",#[],none⟩,
 ⟨some 14,.load 9 (.tmp 13),9,"write.go:116",#[⟨2,.data⟩],none⟩,
 ⟨some 15,.call ⟨.value (.func 48),#[.tmp 14],#[9]⟩,37,"write.go:116",#[⟨3,.data⟩,⟨1,.chain⟩],none⟩,
 ⟨some 16,.call ⟨.value (.func 51),#[.const (Value.string { data:=#[45,62] })],#[9]⟩,37,"write.go:116",#[⟨4,.chain⟩],none⟩,
 ⟨some 17,.buildSlice 28 3 #[(0,.tmp 12),(1,.tmp 15),(2,.tmp 16)],28,"write.go:116",#[⟨1,.data⟩,⟨4,.data⟩,⟨5,.data⟩],none⟩,
 ⟨some 18,.call ⟨.value (.func 50),#[.tmp 11,.tmp 17],#[66,28]⟩,0,"write.go:116",#[⟨0,.data⟩,⟨6,.data⟩,⟨5,.chain⟩],none⟩]
def qee(wp bx:Nat)(k:Int)(SS:ByteArray)(n:Int)(p:Pl)(A:Option Addr)(kl c:Nat)(B:Option Addr)(al bc:Nat)(i:Nat)(v:Value)(w:World):Prop:=
 match i with
 | 0=>v=.pointer (some ⟨wp,0,none⟩)
 | 1=>v=.agg #[.int .u8 5,.string ⟨#[92]⟩,(0:Int),(0:Int),(0:Int),(0:Int)]
 | 2=>v=.pointer (some ⟨bx,1,none⟩)
 | 3=>v=.string SS
 | 4=>v=.agg #[.int .u8 1,SS,(0:Int),(0:Int),(0:Int),(0:Int)]
 | 5=>v=.agg #[.int .u8 5,.string ⟨#[45,62]⟩,(0:Int),(0:Int),(0:Int),(0:Int)]
 | 6=>∃ g,v=.slice (some ⟨g,0,none⟩) 3 3/\w.heap[g]?=some (.cells #[.int .u8 5,.string ⟨#[92]⟩,(0:Int),(0:Int),(0:Int),(0:Int),.int .u8 1,SS,(0:Int),(0:Int),(0:Int),(0:Int),.int .u8 5,.string ⟨#[45,62]⟩,(0:Int),(0:Int),(0:Int),(0:Int)] 37 (0,0))
 | _=>True
theorem qaQ{wp bx:Nat}{k:Int}{SS:ByteArray}{n:Int}{p:Pl}{A:Option Addr}{kl c:Nat}{B:Option Addr}{al bc:Nat}(i:Nat)(v:Value)(w w':World)(hi:i<7)(h:qee wp bx k SS n p A kl c B al bc i v w)(hb:Bel w w'):qee wp bx k SS n p A kl c B al bc i v w':=by
 match i,hi,h with
 | 0,_,h | 1,_,h | 2,_,h | 3,_,h | 4,_,h | 5,_,h=>exact h
 | 6,_,h=>obtain⟨g,e,hc⟩:=h;exact⟨g,e,hb.blk hc⟩
 | q+7,hi,_=>exact absurd hi (by omega)
def qhF(wp bx:Nat)(k:Int)(SS:ByteArray)(n:Int)(p:Pl)(A:Option Addr)(kl c:Nat)(B:Option Addr)(al bc:Nat)(s1 s2 s4 s5 s6 s7 s8 s9 s10 s11 s12 s13 s14 s15 s16 s17 s18 s19 s20 s21 s22 s23 s24 s25 s26 s27 s28 s29 s30 s31 s32 s33 s34 s35 s36 s37 s38 s39 s40 s41 s42 s43 s44 s45 s46 s47 s48 s49 s50 s51 s52 s53 s54 s55 s56 s57 s58 s59 s60 s61 s62 s63 s64:Value)(df:List Deferred):Act:={ tmps:=#[.pointer (some ⟨wp,0,none⟩),s1,s2,.pointer (some ⟨bx,0,none⟩),s4,s5,s6,s7,s8,s9,s10,s11,s12,s13,s14,s15,s16,s17,s18,s19,s20,s21,s22,s23,s24,s25,s26,s27,s28,s29,s30,s31,s32,s33,s34,s35,s36,s37,s38,s39,s40,s41,s42,s43,s44,s45,s46,s47,s48,s49,s50,s51,s52,s53,s54,s55,s56,s57,s58,s59,s60,s61,s62,s63,s64],defers:=df }
def qgf(wp bx:Nat)(k:Int)(SS:ByteArray)(n:Int)(p:Pl)(A:Option Addr)(kl c:Nat)(B:Option Addr)(al bc:Nat)(s1 s2 s4 s5 s6 s7 s8 s9 s10 s11 s12 s13 s14 s15 s16 s17 s18 s19 s20 s21 s22 s23 s24 s25 s26 s27 s28 s29 s30 s31 s32 s33 s34 s35 s36 s37 s38 s39 s40 s41 s42 s43 s44 s45 s46 s47 s48 s49 s50 s51 s52 s53 s54 s55 s56 s57 s58 s59 s60 s61 s62 s63 s64:Value)(df:List Deferred)(V:Nat->Value):Act:={ tmps:=#[.pointer (some ⟨wp,0,none⟩),s1,s2,.pointer (some ⟨bx,0,none⟩),s4,s5,s6,s7,s8,s9,s10,V 0,V 1,V 2,V 3,V 4,V 5,V 6,s18,s19,s20,s21,s22,s23,s24,s25,s26,s27,s28,s29,s30,s31,s32,s33,s34,s35,s36,s37,s38,s39,s40,s41,s42,s43,s44,s45,s46,s47,s48,s49,s50,s51,s52,s53,s54,s55,s56,s57,s58,s59,s60,s61,s62,s63,s64],defers:=df }
theorem qcm:zC .any regWl.toArray 7=true:=by kernel_rfl
theorem qdR:fwdB regWl.toArray 7=true:=by kernel_rfl
theorem qay:qN regWl.toArray 65=true:=by kernel_rfl
theorem qdS:Region.seqB .any regWl.toArray (regWl.length-7) 7 (Array.replicate 7 true++Array.replicate (regWl.length-7) false)=true:=by kernel_rfl
set_option maxRecDepth 100000 in
theorem qdQ{id:Nat}(wp bx:Nat)(k:Int)(SS:ByteArray)(n:Int)(p:Pl)(A:Option Addr)(kl c:Nat)(B:Option Addr)(al bc:Nat)(s1 s2 s4 s5 s6 s7 s8 s9 s10 s11 s12 s13 s14 s15 s16 s17 s18 s19 s20 s21 s22 s23 s24 s25 s26 s27 s28 s29 s30 s31 s32 s33 s34 s35 s36 s37 s38 s39 s40 s41 s42 s43 s44 s45 s46 s47 s48 s49 s50 s51 s52 s53 s54 s55 s56 s57 s58 s59 s60 s61 s62 s63 s64:Value)(df:List Deferred)(w:World)(hx:w.drew.heap[bx]?=some (.cells #[.int .u8 k,SS,n,p.a,p.l,p.c,.slice A kl c,.slice B al bc] 43 (0,0)))(Q:Exit->Act->World->Prop)
  (hend:∀ (V:Nat->Value) (w':World),Bel w.drew w'->((V 0)=.pointer (some ⟨wp,0,none⟩))->(∃ g,(V 6)=.slice (some ⟨g,0,none⟩) 3 3/\w'.heap[g]?=some (.cells #[.int .u8 5,.string ⟨#[92]⟩,(0:Int),(0:Int),(0:Int),(0:Int),.int .u8 1,SS,(0:Int),(0:Int),(0:Int),(0:Int),.int .u8 5,.string ⟨#[45,62]⟩,(0:Int),(0:Int),(0:Int),(0:Int)] 37 (0,0)))->wpList Tryz.prog regWl.toArray Q (regWl.drop 7) (qgf wp bx k SS n p A kl c B al bc s1 s2 s4 s5 s6 s7 s8 s9 s10 s11 s12 s13 s14 s15 s16 s17 s18 s19 s20 s21 s22 s23 s24 s25 s26 s27 s28 s29 s30 s31 s32 s33 s34 s35 s36 s37 s38 s39 s40 s41 s42 s43 s44 s45 s46 s47 s48 s49 s50 s51 s52 s53 s54 s55 s56 s57 s58 s59 s60 s61 s62 s63 s64 df V) w') :
  (Code.region id regWl.toArray true).wp Tryz.prog Q (qhF wp bx k SS n p A kl c B al bc s1 s2 s4 s5 s6 s7 s8 s9 s10 s11 s12 s13 s14 s15 s16 s17 s18 s19 s20 s21 s22 s23 s24 s25 s26 s27 s28 s29 s30 s31 s32 s33 s34 s35 s36 s37 s38 s39 s40 s41 s42 s43 s44 s45 s46 s47 s48 s49 s50 s51 s52 s53 s54 s55 s56 s57 s58 s59 s60 s61 s62 s63 s64 df) w:=by
 refine qq (l:=regWl) 7 _ w (qee wp bx k SS n p A kl c B al bc) (by kernel_rfl) qcm qdR qay qdS (fun i v w w' hi h hb=>qaQ i v w w' hi h hb) ?_ ?_
 ·intro i' o hi' ho a w1 V hbel hdep hpar K hK
  have p0:a.eval (.tmp 0)=.pointer (some ⟨wp,0,none⟩):=hpar 0 (by show 0<65;decide) (by kernel_rfl);have p0':=tD p0;have p3:a.eval (.tmp 3)=.pointer (some ⟨bx,0,none⟩):=hpar 3 (by show 3<65;decide) (by kernel_rfl);have p3':=tD p3;obtain⟨q0,q1,q2,q3,q4,q5,q6,q7⟩:=box8 (hbel.blk hx);match i',hi',ho,hdep,hK with
  | 0,_,ho,hdep,hK=>
   simp only[regWl,gT,gZ,gI]at ho;subst ho;exact nG rfl (wV (by simp[execOp,go_sem,p0']) hK rfl)
  | 1,_,ho,hdep,hK=>
   simp only[regWl,gT,gZ,gS,gI]at ho;subst ho;refine nG rfl ?_;refine qi (f:=51) (args:=#[.string { data:=#[92] }]) (by simp[go_sem]) ((qd ⟨#[92]⟩ w1).mono ?_);rintro e w' ⟨rfl,hb⟩;exact⟨_,rfl,hK _ _ hb rfl⟩
  | 2,_,ho,hdep,hK=>
   simp only[regWl,gT,gZ,gS,gI]at ho;subst ho;exact nG rfl (wV (by simp[execOp,go_sem,p3']) hK rfl)
  | 3,_,ho,hdep,hK=>
   simp only[regWl,gT,gZ,gS,gI]at ho;subst ho;refine nG rfl ?_;have e2':=tK (t:=13) (hdep ⟨2,.data⟩ (by simp) rfl) rfl;exact wV (by simp[execOp,go_sem,e2',q1]) hK rfl
  | 4,_,ho,hdep,hK=>
   simp only[regWl,gT,gZ,gS,gI]at ho;subst ho;refine nG rfl ?_;have e3':=tK (t:=14) (hdep ⟨3,.data⟩ (by simp) rfl) rfl;refine qi (f:=48) (args:=#[.string SS]) (by simp[go_sem,e3']) ((qS SS w1).mono ?_);rintro e w' ⟨rfl,hb⟩;exact⟨_,rfl,hK _ _ hb rfl⟩
  | 5,_,ho,hdep,hK=>
   simp only[regWl,gT,gZ,gS,gI]at ho;subst ho;refine nG rfl ?_;refine qi (f:=51) (args:=#[.string { data:=#[45,62] }]) (by simp[go_sem]) ((qd ⟨#[45,62]⟩ w1).mono ?_);rintro e w' ⟨rfl,hb⟩;exact⟨_,rfl,hK _ _ hb rfl⟩
  | 6,_,ho,hdep,hK=>
   simp only[regWl,gT,gZ,gS,gI]at ho;subst ho;refine nG rfl ?_;have e1':=tK (t:=12) (hdep ⟨1,.data⟩ (by simp) rfl) rfl;have e4':=tK (t:=15) (hdep ⟨4,.data⟩ (by simp) rfl) rfl;have e5':=tK (t:=16) (hdep ⟨5,.data⟩ (by simp) rfl) rfl;exact zc (v:= .slice (some ⟨w1.heap.size,0,none⟩) 3 3) (w':=w1.alloc (.cells #[.int .u8 5,.string ⟨#[92]⟩,(0:Int),(0:Int),(0:Int),(0:Int),.int .u8 1,SS,(0:Int),(0:Int),(0:Int),(0:Int),.int .u8 5,.string ⟨#[45,62]⟩,(0:Int),(0:Int),(0:Int),(0:Int)] 37)) (by simp[execOp,go_sem,e1',e4',e5']) (hK _ _ ((Bel.refl w1).alloc _) ⟨w1.heap.size,rfl,blk1 w1 _⟩)
  | q+7,hi,_,_,_=>exact absurd hi (by omega)
 ·intro V w' hb hF
  have e:finA regWl.toArray 7 V (qhF wp bx k SS n p A kl c B al bc s1 s2 s4 s5 s6 s7 s8 s9 s10 s11 s12 s13 s14 s15 s16 s17 s18 s19 s20 s21 s22 s23 s24 s25 s26 s27 s28 s29 s30 s31 s32 s33 s34 s35 s36 s37 s38 s39 s40 s41 s42 s43 s44 s45 s46 s47 s48 s49 s50 s51 s52 s53 s54 s55 s56 s57 s58 s59 s60 s61 s62 s63 s64 df)=qgf wp bx k SS n p A kl c B al bc s1 s2 s4 s5 s6 s7 s8 s9 s10 s11 s12 s13 s14 s15 s16 s17 s18 s19 s20 s21 s22 s23 s24 s25 s26 s27 s28 s29 s30 s31 s32 s33 s34 s35 s36 s37 s38 s39 s40 s41 s42 s43 s44 s45 s46 s47 s48 s49 s50 s51 s52 s53 s54 s55 s56 s57 s58 s59 s60 s61 s62 s63 s64 df V:=by kernel_rfl
  rw[e];exact hend V w' hb (hF 0 (by omega)) (hF 6 (by omega))
def regWb:List Oper:=[
 ⟨some 27,.move (.tmp 0),66,"write.go:119",#[],none⟩,
 ⟨some 28,.load 43 (.tmp 3),43,"write.go:119",#[],none⟩,
 ⟨some 29,.call ⟨.value (.func 51),#[.const (Value.string { data:=#[108,101,116] })],#[9]⟩,37,"write.go:119",#[],none⟩,
 ⟨some 30,.buildSlice 28 1 #[(0,.tmp 29)],28,"write.go:119",#[⟨2,.data⟩],none⟩,
 ⟨some 31,.call ⟨.value (.func 80),#[.tmp 27,.tmp 28,.tmp 30],#[66,43,28]⟩,0,"write.go:119",#[⟨0,.data⟩,⟨1,.data⟩,⟨3,.data⟩,⟨2,.chain⟩],none⟩]
def qeb(wp bx:Nat)(k:Int)(SS:ByteArray)(n:Int)(p:Pl)(A:Option Addr)(kl c:Nat)(B:Option Addr)(al bc:Nat)(i:Nat)(v:Value)(w:World):Prop:=
 match i with
 | 0=>v=.pointer (some ⟨wp,0,none⟩)
 | 1=>v=.agg #[.int .u8 k,SS,n,p.a,p.l,p.c,.slice A kl c,.slice B al bc]
 | 2=>v=.agg #[.int .u8 5,.string ⟨#[108,101,116]⟩,(0:Int),(0:Int),(0:Int),(0:Int)]
 | 3=>∃ g,v=.slice (some ⟨g,0,none⟩) 1 1/\w.heap[g]?=some (.cells #[.int .u8 5,.string ⟨#[108,101,116]⟩,(0:Int),(0:Int),(0:Int),(0:Int)] 37 (0,0))
 | _=>True
theorem qaN{wp bx:Nat}{k:Int}{SS:ByteArray}{n:Int}{p:Pl}{A:Option Addr}{kl c:Nat}{B:Option Addr}{al bc:Nat}(i:Nat)(v:Value)(w w':World)(hi:i<4)(h:qeb wp bx k SS n p A kl c B al bc i v w)(hb:Bel w w'):qeb wp bx k SS n p A kl c B al bc i v w':=by
 match i,hi,h with
 | 0,_,h | 1,_,h | 2,_,h=>exact h
 | 3,_,h=>obtain⟨g,e,hc⟩:=h;exact⟨g,e,hb.blk hc⟩
 | q+4,hi,_=>exact absurd hi (by omega)
def qhC(wp bx:Nat)(k:Int)(SS:ByteArray)(n:Int)(p:Pl)(A:Option Addr)(kl c:Nat)(B:Option Addr)(al bc:Nat)(s1 s2 s4 s5 s6 s7 s8 s9 s10 s11 s12 s13 s14 s15 s16 s17 s18 s19 s20 s21 s22 s23 s24 s25 s26 s27 s28 s29 s30 s31 s32 s33 s34 s35 s36 s37 s38 s39 s40 s41 s42 s43 s44 s45 s46 s47 s48 s49 s50 s51 s52 s53 s54 s55 s56 s57 s58 s59 s60 s61 s62 s63 s64:Value)(df:List Deferred):Act:={ tmps:=#[.pointer (some ⟨wp,0,none⟩),s1,s2,.pointer (some ⟨bx,0,none⟩),s4,s5,s6,s7,s8,s9,s10,s11,s12,s13,s14,s15,s16,s17,s18,s19,s20,s21,s22,s23,s24,s25,s26,s27,s28,s29,s30,s31,s32,s33,s34,s35,s36,s37,s38,s39,s40,s41,s42,s43,s44,s45,s46,s47,s48,s49,s50,s51,s52,s53,s54,s55,s56,s57,s58,s59,s60,s61,s62,s63,s64],defers:=df }
def qgc(wp bx:Nat)(k:Int)(SS:ByteArray)(n:Int)(p:Pl)(A:Option Addr)(kl c:Nat)(B:Option Addr)(al bc:Nat)(s1 s2 s4 s5 s6 s7 s8 s9 s10 s11 s12 s13 s14 s15 s16 s17 s18 s19 s20 s21 s22 s23 s24 s25 s26 s27 s28 s29 s30 s31 s32 s33 s34 s35 s36 s37 s38 s39 s40 s41 s42 s43 s44 s45 s46 s47 s48 s49 s50 s51 s52 s53 s54 s55 s56 s57 s58 s59 s60 s61 s62 s63 s64:Value)(df:List Deferred)(V:Nat->Value):Act:={ tmps:=#[.pointer (some ⟨wp,0,none⟩),s1,s2,.pointer (some ⟨bx,0,none⟩),s4,s5,s6,s7,s8,s9,s10,s11,s12,s13,s14,s15,s16,s17,s18,s19,s20,s21,s22,s23,s24,s25,s26,V 0,V 1,V 2,V 3,s31,s32,s33,s34,s35,s36,s37,s38,s39,s40,s41,s42,s43,s44,s45,s46,s47,s48,s49,s50,s51,s52,s53,s54,s55,s56,s57,s58,s59,s60,s61,s62,s63,s64],defers:=df }
theorem qcj:zC .any regWb.toArray 4=true:=by kernel_rfl
theorem qdI:fwdB regWb.toArray 4=true:=by kernel_rfl
theorem qav:qN regWb.toArray 65=true:=by kernel_rfl
theorem qdJ:Region.seqB .any regWb.toArray (regWb.length-4) 4 (Array.replicate 4 true++Array.replicate (regWb.length-4) false)=true:=by kernel_rfl
set_option maxRecDepth 100000 in
theorem qdH{id:Nat}(wp bx:Nat)(k:Int)(SS:ByteArray)(n:Int)(p:Pl)(A:Option Addr)(kl c:Nat)(B:Option Addr)(al bc:Nat)(s1 s2 s4 s5 s6 s7 s8 s9 s10 s11 s12 s13 s14 s15 s16 s17 s18 s19 s20 s21 s22 s23 s24 s25 s26 s27 s28 s29 s30 s31 s32 s33 s34 s35 s36 s37 s38 s39 s40 s41 s42 s43 s44 s45 s46 s47 s48 s49 s50 s51 s52 s53 s54 s55 s56 s57 s58 s59 s60 s61 s62 s63 s64:Value)(df:List Deferred)(w:World)(hx:w.drew.heap[bx]?=some (.cells #[.int .u8 k,SS,n,p.a,p.l,p.c,.slice A kl c,.slice B al bc] 43 (0,0)))(Q:Exit->Act->World->Prop)
  (hend:∀ (V:Nat->Value) (w':World),Bel w.drew w'->((V 0)=.pointer (some ⟨wp,0,none⟩))->((V 1)=.agg #[.int .u8 k,SS,n,p.a,p.l,p.c,.slice A kl c,.slice B al bc])->(∃ g,(V 3)=.slice (some ⟨g,0,none⟩) 1 1/\w'.heap[g]?=some (.cells #[.int .u8 5,.string ⟨#[108,101,116]⟩,(0:Int),(0:Int),(0:Int),(0:Int)] 37 (0,0)))->wpList Tryz.prog regWb.toArray Q (regWb.drop 4) (qgc wp bx k SS n p A kl c B al bc s1 s2 s4 s5 s6 s7 s8 s9 s10 s11 s12 s13 s14 s15 s16 s17 s18 s19 s20 s21 s22 s23 s24 s25 s26 s27 s28 s29 s30 s31 s32 s33 s34 s35 s36 s37 s38 s39 s40 s41 s42 s43 s44 s45 s46 s47 s48 s49 s50 s51 s52 s53 s54 s55 s56 s57 s58 s59 s60 s61 s62 s63 s64 df V) w') :
  (Code.region id regWb.toArray true).wp Tryz.prog Q (qhC wp bx k SS n p A kl c B al bc s1 s2 s4 s5 s6 s7 s8 s9 s10 s11 s12 s13 s14 s15 s16 s17 s18 s19 s20 s21 s22 s23 s24 s25 s26 s27 s28 s29 s30 s31 s32 s33 s34 s35 s36 s37 s38 s39 s40 s41 s42 s43 s44 s45 s46 s47 s48 s49 s50 s51 s52 s53 s54 s55 s56 s57 s58 s59 s60 s61 s62 s63 s64 df) w:=by
 refine qq (l:=regWb) 4 _ w (qeb wp bx k SS n p A kl c B al bc) (by kernel_rfl) qcj qdI qav qdJ (fun i v w w' hi h hb=>qaN i v w w' hi h hb) ?_ ?_
 ·intro i' o hi' ho a w1 V hbel hdep hpar K hK
  have p0:a.eval (.tmp 0)=.pointer (some ⟨wp,0,none⟩):=hpar 0 (by show 0<65;decide) (by kernel_rfl);have p0':=tD p0;have p3:a.eval (.tmp 3)=.pointer (some ⟨bx,0,none⟩):=hpar 3 (by show 3<65;decide) (by kernel_rfl);have p3':=tD p3;obtain⟨q0,q1,q2,q3,q4,q5,q6,q7⟩:=box8 (hbel.blk hx);match i',hi',ho,hdep,hK with
  | 0,_,ho,hdep,hK=>
   simp only[regWb,gT,gZ,gI]at ho;subst ho;exact nG rfl (wV (by simp[execOp,go_sem,p0']) hK rfl)
  | 1,_,ho,hdep,hK=>
   simp only[regWb,gT,gZ,gS,gI]at ho;subst ho;exact nG rfl (wV (by simp[execOp,go_sem,p3',q0,q1,q2,q3,q4,q5,q6,q7]) hK rfl)
  | 2,_,ho,hdep,hK=>
   simp only[regWb,gT,gZ,gS,gI]at ho;subst ho;refine nG rfl ?_;refine qi (f:=51) (args:=#[.string { data:=#[108,101,116] }]) (by simp[go_sem]) ((qd ⟨#[108,101,116]⟩ w1).mono ?_);rintro e w' ⟨rfl,hb⟩;exact⟨_,rfl,hK _ _ hb rfl⟩
  | 3,_,ho,hdep,hK=>
   simp only[regWb,gT,gZ,gS,gI]at ho;subst ho;refine nG rfl ?_;have e2':=tK (t:=29) (hdep ⟨2,.data⟩ (by simp) rfl) rfl;exact zc (v:= .slice (some ⟨w1.heap.size,0,none⟩) 1 1) (w':=w1.alloc (.cells #[.int .u8 5,.string ⟨#[108,101,116]⟩,(0:Int),(0:Int),(0:Int),(0:Int)] 37)) (by simp[execOp,go_sem,e2']) (hK _ _ ((Bel.refl w1).alloc _) ⟨w1.heap.size,rfl,blk1 w1 _⟩)
  | q+4,hi,_,_,_=>exact absurd hi (by omega)
 ·intro V w' hb hF
  have e:finA regWb.toArray 4 V (qhC wp bx k SS n p A kl c B al bc s1 s2 s4 s5 s6 s7 s8 s9 s10 s11 s12 s13 s14 s15 s16 s17 s18 s19 s20 s21 s22 s23 s24 s25 s26 s27 s28 s29 s30 s31 s32 s33 s34 s35 s36 s37 s38 s39 s40 s41 s42 s43 s44 s45 s46 s47 s48 s49 s50 s51 s52 s53 s54 s55 s56 s57 s58 s59 s60 s61 s62 s63 s64 df)=qgc wp bx k SS n p A kl c B al bc s1 s2 s4 s5 s6 s7 s8 s9 s10 s11 s12 s13 s14 s15 s16 s17 s18 s19 s20 s21 s22 s23 s24 s25 s26 s27 s28 s29 s30 s31 s32 s33 s34 s35 s36 s37 s38 s39 s40 s41 s42 s43 s44 s45 s46 s47 s48 s49 s50 s51 s52 s53 s54 s55 s56 s57 s58 s59 s60 s61 s62 s63 s64 df V:=by kernel_rfl
  rw[e];exact hend V w' hb (hF 0 (by omega)) (hF 1 (by omega)) (hF 3 (by omega))
def regWr:List Oper:=[
 ⟨some 34,.move (.tmp 0),66,"write.go:121",#[],none⟩,
 ⟨some 35,.load 43 (.tmp 3),43,"write.go:121",#[],none⟩,
 ⟨some 36,.call ⟨.value (.func 51),#[.const (Value.string { data:=#[108,101,116] })],#[9]⟩,37,"write.go:121",#[],none⟩,
 ⟨some 37,.call ⟨.value (.func 51),#[.const (Value.string { data:=#[114,101,99] })],#[9]⟩,37,"write.go:121",#[⟨2,.chain⟩],none⟩,
 ⟨some 38,.buildSlice 28 2 #[(0,.tmp 36),(1,.tmp 37)],28,"write.go:121",#[⟨2,.data⟩,⟨3,.data⟩],none⟩,
 ⟨some 39,.call ⟨.value (.func 80),#[.tmp 34,.tmp 35,.tmp 38],#[66,43,28]⟩,0,"write.go:121",#[⟨0,.data⟩,⟨1,.data⟩,⟨4,.data⟩,⟨3,.chain⟩],none⟩]
def qef(wp bx:Nat)(k:Int)(SS:ByteArray)(n:Int)(p:Pl)(A:Option Addr)(kl c:Nat)(B:Option Addr)(al bc:Nat)(i:Nat)(v:Value)(w:World):Prop:=
 match i with
 | 0=>v=.pointer (some ⟨wp,0,none⟩)
 | 1=>v=.agg #[.int .u8 k,SS,n,p.a,p.l,p.c,.slice A kl c,.slice B al bc]
 | 2=>v=.agg #[.int .u8 5,.string ⟨#[108,101,116]⟩,(0:Int),(0:Int),(0:Int),(0:Int)]
 | 3=>v=.agg #[.int .u8 5,.string ⟨#[114,101,99]⟩,(0:Int),(0:Int),(0:Int),(0:Int)]
 | 4=>∃ g,v=.slice (some ⟨g,0,none⟩) 2 2/\w.heap[g]?=some (.cells #[.int .u8 5,.string ⟨#[108,101,116]⟩,(0:Int),(0:Int),(0:Int),(0:Int),.int .u8 5,.string ⟨#[114,101,99]⟩,(0:Int),(0:Int),(0:Int),(0:Int)] 37 (0,0))
 | _=>True
theorem qaR{wp bx:Nat}{k:Int}{SS:ByteArray}{n:Int}{p:Pl}{A:Option Addr}{kl c:Nat}{B:Option Addr}{al bc:Nat}(i:Nat)(v:Value)(w w':World)(hi:i<5)(h:qef wp bx k SS n p A kl c B al bc i v w)(hb:Bel w w'):qef wp bx k SS n p A kl c B al bc i v w':=by
 match i,hi,h with
 | 0,_,h | 1,_,h | 2,_,h | 3,_,h=>exact h
 | 4,_,h=>obtain⟨g,e,hc⟩:=h;exact⟨g,e,hb.blk hc⟩
 | q+5,hi,_=>exact absurd hi (by omega)
def qhG(wp bx:Nat)(k:Int)(SS:ByteArray)(n:Int)(p:Pl)(A:Option Addr)(kl c:Nat)(B:Option Addr)(al bc:Nat)(s1 s2 s4 s5 s6 s7 s8 s9 s10 s11 s12 s13 s14 s15 s16 s17 s18 s19 s20 s21 s22 s23 s24 s25 s26 s27 s28 s29 s30 s31 s32 s33 s34 s35 s36 s37 s38 s39 s40 s41 s42 s43 s44 s45 s46 s47 s48 s49 s50 s51 s52 s53 s54 s55 s56 s57 s58 s59 s60 s61 s62 s63 s64:Value)(df:List Deferred):Act:={ tmps:=#[.pointer (some ⟨wp,0,none⟩),s1,s2,.pointer (some ⟨bx,0,none⟩),s4,s5,s6,s7,s8,s9,s10,s11,s12,s13,s14,s15,s16,s17,s18,s19,s20,s21,s22,s23,s24,s25,s26,s27,s28,s29,s30,s31,s32,s33,s34,s35,s36,s37,s38,s39,s40,s41,s42,s43,s44,s45,s46,s47,s48,s49,s50,s51,s52,s53,s54,s55,s56,s57,s58,s59,s60,s61,s62,s63,s64],defers:=df }
def qgg(wp bx:Nat)(k:Int)(SS:ByteArray)(n:Int)(p:Pl)(A:Option Addr)(kl c:Nat)(B:Option Addr)(al bc:Nat)(s1 s2 s4 s5 s6 s7 s8 s9 s10 s11 s12 s13 s14 s15 s16 s17 s18 s19 s20 s21 s22 s23 s24 s25 s26 s27 s28 s29 s30 s31 s32 s33 s34 s35 s36 s37 s38 s39 s40 s41 s42 s43 s44 s45 s46 s47 s48 s49 s50 s51 s52 s53 s54 s55 s56 s57 s58 s59 s60 s61 s62 s63 s64:Value)(df:List Deferred)(V:Nat->Value):Act:={ tmps:=#[.pointer (some ⟨wp,0,none⟩),s1,s2,.pointer (some ⟨bx,0,none⟩),s4,s5,s6,s7,s8,s9,s10,s11,s12,s13,s14,s15,s16,s17,s18,s19,s20,s21,s22,s23,s24,s25,s26,s27,s28,s29,s30,s31,s32,s33,V 0,V 1,V 2,V 3,V 4,s39,s40,s41,s42,s43,s44,s45,s46,s47,s48,s49,s50,s51,s52,s53,s54,s55,s56,s57,s58,s59,s60,s61,s62,s63,s64],defers:=df }
theorem qcn:zC .any regWr.toArray 5=true:=by kernel_rfl
theorem qdU:fwdB regWr.toArray 5=true:=by kernel_rfl
theorem qaz:qN regWr.toArray 65=true:=by kernel_rfl
theorem qdV:Region.seqB .any regWr.toArray (regWr.length-5) 5 (Array.replicate 5 true++Array.replicate (regWr.length-5) false)=true:=by kernel_rfl
set_option maxRecDepth 100000 in
theorem qdT{id:Nat}(wp bx:Nat)(k:Int)(SS:ByteArray)(n:Int)(p:Pl)(A:Option Addr)(kl c:Nat)(B:Option Addr)(al bc:Nat)(s1 s2 s4 s5 s6 s7 s8 s9 s10 s11 s12 s13 s14 s15 s16 s17 s18 s19 s20 s21 s22 s23 s24 s25 s26 s27 s28 s29 s30 s31 s32 s33 s34 s35 s36 s37 s38 s39 s40 s41 s42 s43 s44 s45 s46 s47 s48 s49 s50 s51 s52 s53 s54 s55 s56 s57 s58 s59 s60 s61 s62 s63 s64:Value)(df:List Deferred)(w:World)(hx:w.drew.heap[bx]?=some (.cells #[.int .u8 k,SS,n,p.a,p.l,p.c,.slice A kl c,.slice B al bc] 43 (0,0)))(Q:Exit->Act->World->Prop)
  (hend:∀ (V:Nat->Value) (w':World),Bel w.drew w'->((V 0)=.pointer (some ⟨wp,0,none⟩))->((V 1)=.agg #[.int .u8 k,SS,n,p.a,p.l,p.c,.slice A kl c,.slice B al bc])->(∃ g,(V 4)=.slice (some ⟨g,0,none⟩) 2 2/\w'.heap[g]?=some (.cells #[.int .u8 5,.string ⟨#[108,101,116]⟩,(0:Int),(0:Int),(0:Int),(0:Int),.int .u8 5,.string ⟨#[114,101,99]⟩,(0:Int),(0:Int),(0:Int),(0:Int)] 37 (0,0)))->wpList Tryz.prog regWr.toArray Q (regWr.drop 5) (qgg wp bx k SS n p A kl c B al bc s1 s2 s4 s5 s6 s7 s8 s9 s10 s11 s12 s13 s14 s15 s16 s17 s18 s19 s20 s21 s22 s23 s24 s25 s26 s27 s28 s29 s30 s31 s32 s33 s34 s35 s36 s37 s38 s39 s40 s41 s42 s43 s44 s45 s46 s47 s48 s49 s50 s51 s52 s53 s54 s55 s56 s57 s58 s59 s60 s61 s62 s63 s64 df V) w') :
  (Code.region id regWr.toArray true).wp Tryz.prog Q (qhG wp bx k SS n p A kl c B al bc s1 s2 s4 s5 s6 s7 s8 s9 s10 s11 s12 s13 s14 s15 s16 s17 s18 s19 s20 s21 s22 s23 s24 s25 s26 s27 s28 s29 s30 s31 s32 s33 s34 s35 s36 s37 s38 s39 s40 s41 s42 s43 s44 s45 s46 s47 s48 s49 s50 s51 s52 s53 s54 s55 s56 s57 s58 s59 s60 s61 s62 s63 s64 df) w:=by
 refine qq (l:=regWr) 5 _ w (qef wp bx k SS n p A kl c B al bc) (by kernel_rfl) qcn qdU qaz qdV (fun i v w w' hi h hb=>qaR i v w w' hi h hb) ?_ ?_
 ·intro i' o hi' ho a w1 V hbel hdep hpar K hK
  have p0:a.eval (.tmp 0)=.pointer (some ⟨wp,0,none⟩):=hpar 0 (by show 0<65;decide) (by kernel_rfl);have p0':=tD p0;have p3:a.eval (.tmp 3)=.pointer (some ⟨bx,0,none⟩):=hpar 3 (by show 3<65;decide) (by kernel_rfl);have p3':=tD p3;obtain⟨q0,q1,q2,q3,q4,q5,q6,q7⟩:=box8 (hbel.blk hx);match i',hi',ho,hdep,hK with
  | 0,_,ho,hdep,hK=>
   simp only[regWr,gT,gZ,gI]at ho;subst ho;exact nG rfl (wV (by simp[execOp,go_sem,p0']) hK rfl)
  | 1,_,ho,hdep,hK=>
   simp only[regWr,gT,gZ,gS,gI]at ho;subst ho;exact nG rfl (wV (by simp[execOp,go_sem,p3',q0,q1,q2,q3,q4,q5,q6,q7]) hK rfl)
  | 2,_,ho,hdep,hK=>
   simp only[regWr,gT,gZ,gS,gI]at ho;subst ho;refine nG rfl ?_;refine qi (f:=51) (args:=#[.string { data:=#[108,101,116] }]) (by simp[go_sem]) ((qd ⟨#[108,101,116]⟩ w1).mono ?_);rintro e w' ⟨rfl,hb⟩;exact⟨_,rfl,hK _ _ hb rfl⟩
  | 3,_,ho,hdep,hK=>
   simp only[regWr,gT,gZ,gS,gI]at ho;subst ho;refine nG rfl ?_;refine qi (f:=51) (args:=#[.string { data:=#[114,101,99] }]) (by simp[go_sem]) ((qd ⟨#[114,101,99]⟩ w1).mono ?_);rintro e w' ⟨rfl,hb⟩;exact⟨_,rfl,hK _ _ hb rfl⟩
  | 4,_,ho,hdep,hK=>
   simp only[regWr,gT,gZ,gS,gI]at ho;subst ho;refine nG rfl ?_;have e2':=tK (t:=36) (hdep ⟨2,.data⟩ (by simp) rfl) rfl;have e3':=tK (t:=37) (hdep ⟨3,.data⟩ (by simp) rfl) rfl;exact zc (v:= .slice (some ⟨w1.heap.size,0,none⟩) 2 2) (w':=w1.alloc (.cells #[.int .u8 5,.string ⟨#[108,101,116]⟩,(0:Int),(0:Int),(0:Int),(0:Int),.int .u8 5,.string ⟨#[114,101,99]⟩,(0:Int),(0:Int),(0:Int),(0:Int)] 37)) (by simp[execOp,go_sem,e2',e3']) (hK _ _ ((Bel.refl w1).alloc _) ⟨w1.heap.size,rfl,blk1 w1 _⟩)
  | q+5,hi,_,_,_=>exact absurd hi (by omega)
 ·intro V w' hb hF
  have e:finA regWr.toArray 5 V (qhG wp bx k SS n p A kl c B al bc s1 s2 s4 s5 s6 s7 s8 s9 s10 s11 s12 s13 s14 s15 s16 s17 s18 s19 s20 s21 s22 s23 s24 s25 s26 s27 s28 s29 s30 s31 s32 s33 s34 s35 s36 s37 s38 s39 s40 s41 s42 s43 s44 s45 s46 s47 s48 s49 s50 s51 s52 s53 s54 s55 s56 s57 s58 s59 s60 s61 s62 s63 s64 df)=qgg wp bx k SS n p A kl c B al bc s1 s2 s4 s5 s6 s7 s8 s9 s10 s11 s12 s13 s14 s15 s16 s17 s18 s19 s20 s21 s22 s23 s24 s25 s26 s27 s28 s29 s30 s31 s32 s33 s34 s35 s36 s37 s38 s39 s40 s41 s42 s43 s44 s45 s46 s47 s48 s49 s50 s51 s52 s53 s54 s55 s56 s57 s58 s59 s60 s61 s62 s63 s64 df V:=by kernel_rfl
  rw[e];exact hend V w' hb (hF 0 (by omega)) (hF 1 (by omega)) (hF 4 (by omega))
end Go.Proofs.YtfpoelklhekfaaaGreatDoor.Mu
