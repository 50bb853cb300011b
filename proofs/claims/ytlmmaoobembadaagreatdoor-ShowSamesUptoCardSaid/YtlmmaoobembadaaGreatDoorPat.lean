import Derived.Test.YtlmmaoobembadaaGreatDoorPas
open Go.Lib (hid)
namespace Go.Proofs.YtlmmaoobembadaaGreatDoor.Mu
set_option maxHeartbeats 1000000
open Go Go.RowKit Go.Shelf
attribute [local go_sem] Oper.semAt_some
set_option linter.unusedVariables false
set_option maxRecDepth 100000
theorem ZI(P:Program)(a:Addr)(w:World):(asAddr (.pointer (some a))).run P w=.ok a w:=rfl
theorem qe{fn:Func}{t u:Tmp}{ty:TypeId}(h:fn.results=#[.cell t ty,.tmp u])(tmps:Array Value)(P:Program)(w:World){a:Addr}{v:Value}(ha:tmps.getD t undef=.pointer (some a))(hv:(loadVar ty a).run P w=.ok v w) :
  (results fn tmps).run P w=.ok (.tuple #[v,tmps.getD u undef]) w:=by
 have ha':tmps[t]?.getD undef=.pointer (some a):=by rw[<- Array.getD_eq_getD_getElem?];exact ha
 simp[results,h,ha',hv,ZI,Sem.run_bind,Result.andThen]
def btwL:List (List UInt8):=[[60],[61,61],[43,43],[43],[45],[42],[47],[37]]
def btwB(s:List UInt8):Bool:=decide (s∈btwL)
def exR(k:Int)(s:List UInt8):Int × Int × Bool:=
 if k=1 then (1,0,true) else if k=2 then (3,0,true) else if k=3 then (4,0,true) else if k=4 then (1,1,true) else if k=5 then (0,2,true) else if k=6 then (1,2,true) else if k=7 then (1,2,true) else if k=8 then (0,1,true) else if k=9 then (2,-1,true) else if k=10 then (if btwB s then (5,2,true) else (6,-1,true)) else (0,0,false)
def paR(k:Int):Int × Int × Bool:=
 if k=1 then (1,0,true) else if k=2 then (0,0,true) else if k=3 then (3,0,true) else if k=4 then (4,0,true) else if k=5 then (2,-1,true) else (0,0,false)
def tyR(k:Int):Int × Int × Bool:=
 if k=1 then (1,0,true) else if k=2 then (2,-1,true) else if k=3 then (0,2,true) else (0,0,false)
theorem ZW(s:List UInt8)(w:World):Calls Tryz.prog 143 #[.string ⟨s.toArray⟩] w fun e w'=>e=.returned (.bool (btwB s))/\w'=w:=by
 by_cases h:s∈btwL
 ·have e:btwB s=true:=by simp[btwB,h]
  rw[e];clear e;simp only[btwL,List.mem_cons,List.not_mem_nil,or_false]at h;rcases h with rfl | rfl | rfl | rfl | rfl | rfl | rfl | rfl
  all_goals
   go_enter Tryz.func143,Tryz.ntmps143
   go_wp2
   go_ret
   exact⟨rfl,rfl⟩
 ·have e:btwB s=false:=by simp[btwB,h]
  rw[e];clear e;obtain⟨S,hS⟩:∃ S:ByteArray,S=⟨s.toArray⟩:=⟨_,rfl⟩
  have hl:∀ t:List UInt8,t∈btwL->S≠⟨t.toArray⟩/\S.toList≠t:=fun t ht=>by
   have hst:s≠t:=fun e=>h (e ▸ ht);refine⟨fun e=>hst ?_,fun e=>hst ?_⟩
   ·rw[hS]at e
    injection e with e
    simpa using congrArg Array.toList e
   ·rw[hS,ByteArray.toList_eq]at e
    simpa using e
  have n0:=hl [60] (by simp[btwL]);have n1:=hl [61,61] (by simp[btwL]);have n2:=hl [43,43] (by simp[btwL]);have n3:=hl [43] (by simp[btwL]);have n4:=hl [45] (by simp[btwL]);have n5:=hl [42] (by simp[btwL]);have n6:=hl [47] (by simp[btwL]);have n7:=hl [37] (by simp[btwL]);obtain⟨a0,b0⟩:=n0;have c0:(S.toList==[60])=false:=by simpa using b0
  obtain⟨a1,b1⟩:=n1;have c1:(S.toList==[61,61])=false:=by simpa using b1
  obtain⟨a2,b2⟩:=n2;have c2:(S.toList==[43,43])=false:=by simpa using b2
  obtain⟨a3,b3⟩:=n3;have c3:(S.toList==[43])=false:=by simpa using b3
  obtain⟨a4,b4⟩:=n4;have c4:(S.toList==[45])=false:=by simpa using b4
  obtain⟨a5,b5⟩:=n5;have c5:(S.toList==[42])=false:=by simpa using b5
  obtain⟨a6,b6⟩:=n6;have c6:(S.toList==[47])=false:=by simpa using b6
  obtain⟨a7,b7⟩:=n7;have c7:(S.toList==[37])=false:=by simpa using b7
  rw[<- hS];clear hS hl h;go_enter Tryz.func143,Tryz.ntmps143
  go_wp2
  go_ret
  exact⟨rfl,rfl⟩
theorem Qk(k:Int)(s:List UInt8)(n:Int)(p:Pl)(A:Option Addr)(l c:Nat)(B:Option Addr)(bl bc:Nat)(w:World):Calls Tryz.prog 91 #[.agg #[.int .u8 k,.string ⟨s.toArray⟩,.int .i64 n,.int .i64 p.a,.int .i64 p.l,.int .i64 p.c,.slice A l c,.slice B bl bc]] w fun e w'=>e=.returned (.tuple #[.agg #[.int .u8 (exR k s).1,.int .i64 (exR k s).2.1],.bool (exR k s).2.2])/\Bel w w':=by
 by_cases k1:k=1
 ·subst k1
  have er:exR 1 s=(1,0,true):=rfl;rw[er];clear er;go_enter Tryz.func91,Tryz.ntmps91
  go_wp2
  (try simp only[Exit.inBlock,Exit.then])
  refine bodyPost_ret (qe (v:= .agg #[.int .u8 1,.int .i64 (0)]) rfl _ _ _ rfl (by simp[loadVar,go_sem])) rfl ?_;exact⟨rfl,((Bel.refl w).alloc _).alloc _⟩
 by_cases k2:k=2
 ·subst k2
  have er:exR 2 s=(3,0,true):=rfl;rw[er];clear er;go_enter Tryz.func91,Tryz.ntmps91
  go_wp2
  (try simp only[Exit.inBlock,Exit.then])
  refine bodyPost_ret (qe (v:= .agg #[.int .u8 3,.int .i64 (0)]) rfl _ _ _ rfl (by simp[loadVar,go_sem])) rfl ?_;exact⟨rfl,((Bel.refl w).alloc _).alloc _⟩
 by_cases k3:k=3
 ·subst k3
  have er:exR 3 s=(4,0,true):=rfl;rw[er];clear er;go_enter Tryz.func91,Tryz.ntmps91
  go_wp2
  (try simp only[Exit.inBlock,Exit.then])
  refine bodyPost_ret (qe (v:= .agg #[.int .u8 4,.int .i64 (0)]) rfl _ _ _ rfl (by simp[loadVar,go_sem])) rfl ?_;exact⟨rfl,((Bel.refl w).alloc _).alloc _⟩
 by_cases k4:k=4
 ·subst k4
  have er:exR 4 s=(1,1,true):=rfl;rw[er];clear er;go_enter Tryz.func91,Tryz.ntmps91
  go_wp2
  (try simp only[Exit.inBlock,Exit.then])
  refine bodyPost_ret (qe (v:= .agg #[.int .u8 1,.int .i64 (1)]) rfl _ _ _ rfl (by simp[loadVar,go_sem])) rfl ?_;exact⟨rfl,((Bel.refl w).alloc _).alloc _⟩
 by_cases k5:k=5
 ·subst k5
  have er:exR 5 s=(0,2,true):=rfl;rw[er];clear er;go_enter Tryz.func91,Tryz.ntmps91
  go_wp2
  (try simp only[Exit.inBlock,Exit.then])
  refine bodyPost_ret (qe (v:= .agg #[.int .u8 0,.int .i64 (2)]) rfl _ _ _ rfl (by simp[loadVar,go_sem])) rfl ?_;exact⟨rfl,((Bel.refl w).alloc _).alloc _⟩
 by_cases k6:k=6
 ·subst k6
  have er:exR 6 s=(1,2,true):=rfl;rw[er];clear er;go_enter Tryz.func91,Tryz.ntmps91
  go_wp2
  (try simp only[Exit.inBlock,Exit.then])
  refine bodyPost_ret (qe (v:= .agg #[.int .u8 1,.int .i64 (2)]) rfl _ _ _ rfl (by simp[loadVar,go_sem])) rfl ?_;exact⟨rfl,((Bel.refl w).alloc _).alloc _⟩
 by_cases k7:k=7
 ·subst k7
  have er:exR 7 s=(1,2,true):=rfl;rw[er];clear er;go_enter Tryz.func91,Tryz.ntmps91
  go_wp2
  (try simp only[Exit.inBlock,Exit.then])
  refine bodyPost_ret (qe (v:= .agg #[.int .u8 1,.int .i64 (2)]) rfl _ _ _ rfl (by simp[loadVar,go_sem])) rfl ?_;exact⟨rfl,((Bel.refl w).alloc _).alloc _⟩
 by_cases k8:k=8
 ·subst k8
  have er:exR 8 s=(0,1,true):=rfl;rw[er];clear er;go_enter Tryz.func91,Tryz.ntmps91
  go_wp2
  (try simp only[Exit.inBlock,Exit.then])
  refine bodyPost_ret (qe (v:= .agg #[.int .u8 0,.int .i64 (1)]) rfl _ _ _ rfl (by simp[loadVar,go_sem])) rfl ?_;exact⟨rfl,((Bel.refl w).alloc _).alloc _⟩
 by_cases k9:k=9
 ·subst k9
  have er:exR 9 s=(2,-1,true):=rfl;rw[er];clear er;go_enter Tryz.func91,Tryz.ntmps91
  go_wp2
  (try simp only[Exit.inBlock,Exit.then])
  refine bodyPost_ret (qe (v:= .agg #[.int .u8 2,.int .i64 (-1)]) rfl _ _ _ rfl (by simp[loadVar,go_sem])) rfl ?_;exact⟨rfl,((Bel.refl w).alloc _).alloc _⟩
 by_cases k10:k=10
 ·subst k10
  have HI:Hid (∀ W,Calls Tryz.prog 143 #[.string ⟨s.toArray⟩] W fun e w'=>e=.returned (.bool (btwB s))/\w'=W):=hid fun W=>ZW s W;have er:exR 10 s=if btwB s then (5,2,true) else (6,-1,true):=rfl
  rw[er];clear er;obtain⟨b,hb⟩:∃ b,b=btwB s:=⟨_,rfl⟩
  rw[<- hb]at HI ⊢;clear hb;obtain⟨S,hS⟩:∃ S:ByteArray,S=⟨s.toArray⟩:=⟨_,rfl⟩
  rw[<- hS]at HI ⊢;clear hS;go_enter Tryz.func91,Tryz.ntmps91
  go_wp2_with fail
  refine (HI.out _).mono ?_;rintro e w' ⟨rfl,rfl⟩;cases b
  ·go_wp2_with fail
   (try simp only[Exit.inBlock,Exit.then])
   refine bodyPost_ret (qe (v:= .agg #[.int .u8 6,.int .i64 (-1)]) rfl _ _ _ rfl (by simp[loadVar,go_sem])) rfl ?_;exact⟨rfl,((Bel.refl w).alloc _).alloc _⟩
  ·go_wp2_with fail
   (try simp only[Exit.inBlock,Exit.then])
   refine bodyPost_ret (qe (v:= .agg #[.int .u8 5,.int .i64 2]) rfl _ _ _ rfl (by simp[loadVar,go_sem])) rfl ?_;exact⟨rfl,((Bel.refl w).alloc _).alloc _⟩
 have er:exR k s=(0,0,false):=by simp[exR,k1,k2,k3,k4,k5,k6,k7,k8,k9,k10]
 rw[er];clear er;have d1:(k==1)=false:=by simpa using k1
 have d2:(k==2)=false:=by simpa using k2
 have d3:(k==3)=false:=by simpa using k3
 have d4:(k==4)=false:=by simpa using k4
 have d5:(k==5)=false:=by simpa using k5
 have d6:(k==6)=false:=by simpa using k6
 have d7:(k==7)=false:=by simpa using k7
 have d8:(k==8)=false:=by simpa using k8
 have d9:(k==9)=false:=by simpa using k9
 have d10:(k==10)=false:=by simpa using k10
 go_enter Tryz.func91,Tryz.ntmps91
 go_wp2
 (try simp only[Exit.inBlock,Exit.then])
 refine bodyPost_ret (qe (v:= .agg #[.int .u8 0,.int .i64 0]) rfl _ _ _ rfl (by simp[loadVar,go_sem])) rfl ?_;exact⟨rfl,((Bel.refl w).alloc _).alloc _⟩
theorem QT(k:Int)(s:List UInt8)(n:Int)(p:Pl)(A:Option Addr)(l c:Nat)(w:World):Calls Tryz.prog 144 #[.agg #[.int .u8 k,.string ⟨s.toArray⟩,.int .i64 n,.int .i64 p.a,.int .i64 p.l,.int .i64 p.c,.slice A l c]] w fun e w'=>e=.returned (.tuple #[.agg #[.int .u8 (paR k).1,.int .i64 (paR k).2.1],.bool (paR k).2.2])/\Bel w w':=by
 by_cases k1:k=1
 ·subst k1
  have er:paR 1=(1,0,true):=rfl;rw[er];clear er;go_enter Tryz.func144,Tryz.ntmps144
  go_wp2
  (try simp only[Exit.inBlock,Exit.then])
  refine bodyPost_ret (qe (v:= .agg #[.int .u8 1,.int .i64 (0)]) rfl _ _ _ rfl (by simp[loadVar,go_sem])) rfl ?_;exact⟨rfl,((Bel.refl w).alloc _).alloc _⟩
 by_cases k2:k=2
 ·subst k2
  have er:paR 2=(0,0,true):=rfl;rw[er];clear er;go_enter Tryz.func144,Tryz.ntmps144
  go_wp2
  (try simp only[Exit.inBlock,Exit.then])
  refine bodyPost_ret (qe (v:= .agg #[.int .u8 0,.int .i64 (0)]) rfl _ _ _ rfl (by simp[loadVar,go_sem])) rfl ?_;exact⟨rfl,((Bel.refl w).alloc _).alloc _⟩
 by_cases k3:k=3
 ·subst k3
  have er:paR 3=(3,0,true):=rfl;rw[er];clear er;go_enter Tryz.func144,Tryz.ntmps144
  go_wp2
  (try simp only[Exit.inBlock,Exit.then])
  refine bodyPost_ret (qe (v:= .agg #[.int .u8 3,.int .i64 (0)]) rfl _ _ _ rfl (by simp[loadVar,go_sem])) rfl ?_;exact⟨rfl,((Bel.refl w).alloc _).alloc _⟩
 by_cases k4:k=4
 ·subst k4
  have er:paR 4=(4,0,true):=rfl;rw[er];clear er;go_enter Tryz.func144,Tryz.ntmps144
  go_wp2
  (try simp only[Exit.inBlock,Exit.then])
  refine bodyPost_ret (qe (v:= .agg #[.int .u8 4,.int .i64 (0)]) rfl _ _ _ rfl (by simp[loadVar,go_sem])) rfl ?_;exact⟨rfl,((Bel.refl w).alloc _).alloc _⟩
 by_cases k5:k=5
 ·subst k5
  have er:paR 5=(2,-1,true):=rfl;rw[er];clear er;go_enter Tryz.func144,Tryz.ntmps144
  go_wp2
  (try simp only[Exit.inBlock,Exit.then])
  refine bodyPost_ret (qe (v:= .agg #[.int .u8 2,.int .i64 (-1)]) rfl _ _ _ rfl (by simp[loadVar,go_sem])) rfl ?_;exact⟨rfl,((Bel.refl w).alloc _).alloc _⟩
 have er:paR k=(0,0,false):=by simp[paR,k1,k2,k3,k4,k5]
 rw[er];clear er;have d1:(k==1)=false:=by simpa using k1
 have d2:(k==2)=false:=by simpa using k2
 have d3:(k==3)=false:=by simpa using k3
 have d4:(k==4)=false:=by simpa using k4
 have d5:(k==5)=false:=by simpa using k5
 go_enter Tryz.func144,Tryz.ntmps144
 go_wp2
 (try simp only[Exit.inBlock,Exit.then])
 refine bodyPost_ret (qe (v:= .agg #[.int .u8 0,.int .i64 0]) rfl _ _ _ rfl (by simp[loadVar,go_sem])) rfl ?_;exact⟨rfl,((Bel.refl w).alloc _).alloc _⟩
theorem ZM(k:Int)(s:List UInt8)(n:Int)(p:Pl)(A:Option Addr)(l c:Nat)(w:World):Calls Tryz.prog 177 #[.agg #[.int .u8 k,.string ⟨s.toArray⟩,.int .u8 n,.int .i64 p.a,.int .i64 p.l,.int .i64 p.c,.slice A l c]] w fun e w'=>e=.returned (.tuple #[.agg #[.int .u8 (tyR k).1,.int .i64 (tyR k).2.1],.bool (tyR k).2.2])/\Bel w w':=by
 by_cases k1:k=1
 ·subst k1
  have er:tyR 1=(1,0,true):=rfl;rw[er];clear er;go_enter Tryz.func177,Tryz.ntmps177
  go_wp2
  (try simp only[Exit.inBlock,Exit.then])
  refine bodyPost_ret (qe (v:= .agg #[.int .u8 1,.int .i64 (0)]) rfl _ _ _ rfl (by simp[loadVar,go_sem])) rfl ?_;exact⟨rfl,((Bel.refl w).alloc _).alloc _⟩
 by_cases k2:k=2
 ·subst k2
  have er:tyR 2=(2,-1,true):=rfl;rw[er];clear er;go_enter Tryz.func177,Tryz.ntmps177
  go_wp2
  (try simp only[Exit.inBlock,Exit.then])
  refine bodyPost_ret (qe (v:= .agg #[.int .u8 2,.int .i64 (-1)]) rfl _ _ _ rfl (by simp[loadVar,go_sem])) rfl ?_;exact⟨rfl,((Bel.refl w).alloc _).alloc _⟩
 by_cases k3:k=3
 ·subst k3
  have er:tyR 3=(0,2,true):=rfl;rw[er];clear er;go_enter Tryz.func177,Tryz.ntmps177
  go_wp2
  (try simp only[Exit.inBlock,Exit.then])
  refine bodyPost_ret (qe (v:= .agg #[.int .u8 0,.int .i64 (2)]) rfl _ _ _ rfl (by simp[loadVar,go_sem])) rfl ?_;exact⟨rfl,((Bel.refl w).alloc _).alloc _⟩
 have er:tyR k=(0,0,false):=by simp[tyR,k1,k2,k3]
 rw[er];clear er;have d1:(k==1)=false:=by simpa using k1
 have d2:(k==2)=false:=by simpa using k2
 have d3:(k==3)=false:=by simpa using k3
 go_enter Tryz.func177,Tryz.ntmps177
 go_wp2
 (try simp only[Exit.inBlock,Exit.then])
 refine bodyPost_ret (qe (v:= .agg #[.int .u8 0,.int .i64 0]) rfl _ _ _ rfl (by simp[loadVar,go_sem])) rfl ?_;exact⟨rfl,((Bel.refl w).alloc _).alloc _⟩
def mltB(m:Int):Bool:=decide (m=1) || decide (m=2) || decide (m=3)
theorem ZC(m:Int)(w:World):Calls Tryz.prog 173 #[.int .u8 m] w fun e w'=>e=.returned (.bool (mltB m))/\w'=w:=by
 by_cases h1:m=1
 ·subst h1
  go_enter Tryz.func173,Tryz.ntmps173
  go_wp2
  go_ret
  exact⟨rfl,rfl⟩
 by_cases h2:m=2
 ·subst h2
  go_enter Tryz.func173,Tryz.ntmps173
  go_wp2
  go_ret
  exact⟨rfl,rfl⟩
 by_cases h3:m=3
 ·subst h3
  go_enter Tryz.func173,Tryz.ntmps173
  go_wp2
  go_ret
  exact⟨rfl,rfl⟩
 have e:mltB m=false:=by simp[mltB,h1,h2,h3]
 rw[e];have d1:(m==1)=false:=by simpa using h1
 have d2:(m==2)=false:=by simpa using h2
 have d3:(m==3)=false:=by simpa using h3
 go_enter Tryz.func173,Tryz.ntmps173
 go_wp2
 go_ret
 exact⟨rfl,rfl⟩
open Classical in
noncomputable def mtB (t:Int × List UInt8 × Int):Bool:=decide (qA t)
theorem qhQ(t:Int × List UInt8 × Int):((wrO [t]).2 != 2)=mtB t:=by
 unfold wrO mtB;by_cases h:qA t
 ·rw[if_pos (by simpa using h)]
  split <;> simp[h]
 ·rw[if_neg (by simpa using h)]
  simp[h]
theorem ja(k:Int)(s:List UInt8)(n:Int)(p:Pl)(w:World)(ht:Tbl w)(hs:s.length<=140737488355328)(h0:-9223372036854775808<=n)(h1:n<=9223372036854775807) :
  Calls Tryz.prog 82 #[.agg #[.int .u8 k,.string ⟨s.toArray⟩,.int .i64 n,.int .i64 p.a,.int .i64 p.l,.int .i64 p.c]] w fun e w'=>e=.returned (.bool (mtB (k,s,n)))/\Bel w w':=by
 have HW:Hid (∀ (b:Nat) (W:World),b=W.heap.size->Tbl W->Calls Tryz.prog 21 #[.slice (some ⟨b,0,none⟩) 1 1] (W.alloc (.cells #[.int .u8 k,.string ⟨s.toArray⟩,.int .i64 n,.int .i64 p.a,.int .i64 p.l,.int .i64 p.c] 51)) fun r w'=>r=.returned (.tuple #[.string ⟨(wrO [(k,s,n)]).1.toArray⟩,.int .i64 (wrO [(k,s,n)]).2])/\Bel W w'):=hid fun b W hb hT=>by
  subst hb;refine (Zk (xs:=[⟨k,s,n,p⟩]) _ (hT.bel ((Bel.refl W).alloc _)) (RTn.lit [⟨k,s,n,p⟩] _ (by simp[zz,Tn.cells]) 1 rfl 51) (by omega) (fun x hx=>by simp at hx;subst hx;exact⟨hs,h0,h1⟩)).mono ?_;rintro r w' ⟨rfl,hb⟩;exact⟨rfl,((Bel.refl W).alloc _).on hb⟩
 rw[<- qhQ];obtain⟨S1,hS1⟩:∃ S:ByteArray,S=⟨(wrO [(k,s,n)]).1.toArray⟩:=⟨_,rfl⟩
 obtain⟨E1,hE1⟩:∃ E,E=(wrO [(k,s,n)]).2:=⟨_,rfl⟩
 obtain⟨SS,hSS⟩:∃ S:ByteArray,S=⟨s.toArray⟩:=⟨_,rfl⟩
 rw[<- hS1,<- hE1,<- hSS]at HW;rw[<- hE1,<- hSS];have HT:=hid ht;clear ht hs h0 h1 hS1 hE1 hSS;have hb1:Bel w (w.alloc (.cells #[.int .u8 k,.string SS,.int .i64 n,.int .i64 p.a,.int .i64 p.l,.int .i64 p.c] 51)):=(Bel.refl w).alloc _;have HB1:=hid hb1;have HC:=hid (HW.out _ _ rfl (HT.out.bel hb1));clear hb1;go_enter Tryz.func82,Tryz.ntmps82
 go_wp2_with fail
 have hsz:(w.alloc (.cells #[.int .u8 k,.string SS,.int .i64 n,.int .i64 p.a,.int .i64 p.l,.int .i64 p.c] 51)).heap.size=w.heap.size+1:=by simp
 have hc:=HC.out;rw[hsz]at hc;refine hc.mono ?_;rintro e w2 ⟨rfl,hb2⟩;have HB2:=hid (HB1.out.on hb2);clear hb2 hc hsz;go_wp2_with fail
 go_ret
 exact⟨rfl,HB2.out⟩
noncomputable def keepB (tok kc:Int) (s:List UInt8) (n:Int) (l:Nat):Bool:=
 if kc ≠ -1/\kc≠(l:Int) then false else if tok=0 then (decide (s=[])&&decide (n=0)) else mtB (tok,s,n)
theorem QP(tok kc:Int)(s:List UInt8)(n:Int)(l:Nat)(w:World)(ht:Tbl w)(hs:s.length<=140737488355328)(h0:-9223372036854775808<=n)(h1:n<=9223372036854775807) :
  Calls Tryz.prog 92 #[.agg #[.int .u8 tok,.int .i64 kc],.string ⟨s.toArray⟩,.int .i64 n,.int .i64 (l:Int)] w fun e w'=>e=.returned (.bool (keepB tok kc s n l))/\Bel w w':=by
 have HT:Hid (∀ W,Bel w W->Calls Tryz.prog 82 #[.agg #[.int .u8 tok,.string ⟨s.toArray⟩,.int .i64 n,.int .i64 0,.int .i64 0,.int .i64 0]] W fun e w'=>e=.returned (.bool (mtB (tok,s,n)))/\Bel W w'):=hid fun W hW=>ja tok s n ⟨0,0,0⟩ W (ht.bel hW) hs h0 h1;obtain⟨b,hb⟩:∃ b,b=mtB (tok,s,n):=⟨_,rfl⟩
 rw[<- hb]at HT;have hE:s=[]↔(⟨s.toArray⟩:ByteArray)=⟨#[]⟩:=by
  constructor
  ·rintro rfl;rfl
  ·intro e;injection e with e;simpa using congrArg Array.toList e
 have hE2:s=[]↔(⟨s.toArray⟩:ByteArray).toList=[]:=by rw[ByteArray.toList_eq]
 have hb1:Bel w (w.alloc (.cells #[.int .u8 tok,.int .i64 kc] 146)):=(Bel.refl w).alloc _;have HB1:=hid hb1;clear ht hs h0 h1 hb1;by_cases hk:kc ≠ -1/\kc≠(l:Int)
 ·have e:keepB tok kc s n l=false:=by unfold keepB;rw[if_pos hk]
  rw[e];have d1:(kc != -1)=true:=by simpa using hk.1
  have d2:(kc != (l:Int))=true:=by simpa using hk.2
  have d3:=hk.1;have d4:=hk.2;clear hb hE hE2 hk;go_enter Tryz.func92,Tryz.ntmps92
  go_wp2_with fail
  go_ret
  exact⟨rfl,HB1.out⟩
 ·have hkk:kc = -1∨kc=(l:Int):=by
   rcases Classical.em (kc = -1) with h | h
   ·exact .inl h
   ·right
    rcases Classical.em (kc=(l:Int)) with h2 | h2
    ·exact h2
    ·exact absurd ⟨h,h2⟩ hk
  by_cases htk:tok=0
  ·subst htk
   have e:keepB 0 kc s n l=(decide (s=[])&&decide (n=0)):=by unfold keepB;rw[if_neg hk,if_pos rfl]
   rw[e];by_cases hs0:s=[]
   ·subst hs0
    have en:(decide (([]:List UInt8)=[])&&decide (n=0))=(n==0):=by by_cases h:n=0 <;> simp[h]
    rw[en];clear hb hE hE2 hk e en;rcases hkk with rfl | rfl
    ·go_enter Tryz.func92,Tryz.ntmps92
     go_wp2_with fail
     go_ret
     exact⟨rfl,HB1.out⟩
    ·have d5:((l:Int) != -1)=true:=by simp
     have d6:¬ (l:Int) = -1:=by omega
     go_enter Tryz.func92,Tryz.ntmps92
     go_wp2_with fail
     go_ret
     exact⟨rfl,HB1.out⟩
   ·have en:(decide (s=[])&&decide (n=0))=false:=by simp[hs0]
    rw[en];have hq:¬ (⟨s.toArray⟩:ByteArray)=⟨#[]⟩:=fun e=>hs0 (hE.2 e);have hq2:¬ (⟨s.toArray⟩:ByteArray).toList=[]:=fun e=>hs0 (hE2.2 e);obtain⟨SS,hSS⟩:∃ S:ByteArray,S=⟨s.toArray⟩:=⟨_,rfl⟩
    rw[<- hSS]at hq hq2 HT ⊢;have hq3:(SS.toList==[])=false:=by simpa using hq2
    clear hb hE hE2 hk e en hSS;rcases hkk with rfl | rfl
    ·go_enter Tryz.func92,Tryz.ntmps92
     go_wp2_with fail
     go_ret
     exact⟨rfl,HB1.out⟩
    ·have d5:((l:Int) != -1)=true:=by simp
     have d6:¬ (l:Int) = -1:=by omega
     go_enter Tryz.func92,Tryz.ntmps92
     go_wp2_with fail
     go_ret
     exact⟨rfl,HB1.out⟩
  ·have e:keepB tok kc s n l=mtB (tok,s,n):=by unfold keepB;rw[if_neg hk,if_neg htk]
   rw[e,<- hb];have d7:(tok==0)=false:=by simpa using htk
   obtain⟨SS,hSS⟩:∃ S:ByteArray,S=⟨s.toArray⟩:=⟨_,rfl⟩
   rw[<- hSS]at HT ⊢;clear hb hE hE2 hk e hSS;rcases hkk with rfl | rfl
   ·go_enter Tryz.func92,Tryz.ntmps92
    go_wp2_with fail
    refine (HT.out _ HB1.out).mono ?_;rintro e w2 ⟨rfl,hb2⟩;have HB2:=hid (HB1.out.on hb2);clear hb2;go_wp2_with fail
    go_ret
    exact⟨rfl,HB2.out⟩
   ·have d5:((l:Int) != -1)=true:=by simp
    have d6:¬ (l:Int) = -1:=by omega
    go_enter Tryz.func92,Tryz.ntmps92
    go_wp2_with fail
    refine (HT.out _ HB1.out).mono ?_;rintro e w2 ⟨rfl,hb2⟩;have HB2:=hid (HB1.out.on hb2);clear hb2;go_wp2_with fail
    go_ret
    exact⟨rfl,HB2.out⟩
theorem qf{fn:Func}{t:Tmp}{ty:TypeId}(h:fn.results=#[.cell t ty])(tmps:Array Value)(P:Program)(w:World){a:Addr}{v:Value}(ha:tmps.getD t undef=.pointer (some a))(hv:(loadVar ty a).run P w=.ok v w) :
  (results fn tmps).run P w=.ok v w:=by
 have ha':tmps[t]?.getD undef=.pointer (some a):=by rw[<- Array.getD_eq_getD_getElem?];exact ha
 simp[results,h,ha',hv,ZI,Sem.run_bind,Result.andThen]
theorem zL{w:World}{g:Nat}{b:Bool}(h:w.heap[g]?=some (.cells #[.bool b] 4 (0,0))):(loadVar 4 ⟨g,0,none⟩).run Tryz.prog w=.ok (.bool b) w:=by
 have c:w.cell? ⟨g,0,none⟩=some (.bool b):=by simp[World.cell?,h]
 simp[loadVar,go_sem,c]
theorem blk5(w:World)(o o2 o3 o4 o5:Obj):(((((w.alloc o).alloc o2).alloc o3).alloc o4).alloc o5).heap[w.heap.size]?=some o/\(((((w.alloc o).alloc o2).alloc o3).alloc o4).alloc o5).heap[w.heap.size+1]?=some o2/\(((((w.alloc o).alloc o2).alloc o3).alloc o4).alloc o5).heap[w.heap.size+2]?=some o3/\(((((w.alloc o).alloc o2).alloc o3).alloc o4).alloc o5).heap[w.heap.size+3]?=some o4/\(((((w.alloc o).alloc o2).alloc o3).alloc o4).alloc o5).heap[w.heap.size+4]?=some o5:=by
 obtain⟨h1,h2,h3⟩:=blk3 w o o2 o3;have hb3:=(Bel.refl (((w.alloc o).alloc o2).alloc o3)).alloc o4;have hb:=hb3.alloc o5;have h4:=blk1 (((w.alloc o).alloc o2).alloc o3) o4;have h5:=blk1 ((((w.alloc o).alloc o2).alloc o3).alloc o4) o5;have hs:(((w.alloc o).alloc o2).alloc o3).heap.size=w.heap.size+3:=by simp
 have hs2:((((w.alloc o).alloc o2).alloc o3).alloc o4).heap.size=w.heap.size+4:=by simp
 rw[hs]at h4;rw[hs2]at h5;exact⟨hb.blk h1,hb.blk h2,hb.blk h3,((Bel.refl _).alloc o5).blk h4,h5⟩
def fitN(s:List UInt8)(n:Int):Prop:=s.length<=140737488355328/\-9223372036854775808<=n/\n<=9223372036854775807
def Tr.ints:Tr->Prop
 | .nil=>True
 | .nod _ s n _ k a r=>fitN s n/\k.ints/\a.ints/\r.ints
 | .arm _ s n _ k e r=>fitN s n/\k.ints/\e.ints/\r.ints
theorem Tr.pre_ints:∀ (f:Tr) (d:Nat) (v:Vis),v∈f.pre d->f.ints->fitN v.s v.n/\v.kids.ints/\v.arms.ints
 | .nil,_,_,h,_=>by simp[Tr.pre]at h
 | .nod k s n p kids arms r,d,v,h,⟨h0,h1,h2,h3⟩=>by
  simp only[Tr.pre,List.mem_cons,List.mem_append]at h;rcases h with rfl | (h | h) | h
  ·exact⟨h0,h1,h2⟩
  ·exact Tr.pre_ints kids _ v h h1
  ·exact Tr.pre_ints arms _ v h h2
  ·exact Tr.pre_ints r _ v h h3
 | .arm _ _ _ _ k e r,d,v,h,⟨_,_,h2,h3⟩=>by
  simp only[Tr.pre,List.mem_append]at h;rcases h with h | h
  ·exact Tr.pre_ints e _ v h h2
  ·exact Tr.pre_ints r _ v h h3
theorem Tr.pats_ints:∀ f:Tr,f.ints->f.pats.ints
 | .nil,_=>trivial
 | .nod _ _ _ _ _ _ r,h=>Tr.pats_ints r h.2.2.2
 | .arm _ _ _ _ _ _ r,h=>⟨h.1,h.2.1,trivial,Tr.pats_ints r h.2.2.2⟩
noncomputable def hPf (k:Int) (s:List UInt8) (n:Int) (l:Nat):Bool:=(paR k).2.2&&keepB (paR k).1 (paR k).2.1 s n l
noncomputable def hTf (k:Int) (s:List UInt8) (n:Int) (l:Nat):Bool:=(if k=3 then mltB n else decide (n=0))&&((tyR k).2.2&&keepB (tyR k).1 (tyR k).2.1 s 0 l)
noncomputable def hEf (k:Int) (s:List UInt8) (n:Int) (l al:Nat):Bool:=(exR k s).2.2&&(keepB (exR k s).1 (exR k s).2.1 s n l&&(decide (0<al)==decide (k=8)))
theorem qb8(k:Int)(s:List UInt8)(n:Int)(p:Pl)(A:Option Addr)(l c:Nat)(r:Int)(w:World)(ht:Tbl w)(hf:fitN s n) :
  Calls Tryz.prog 94 #[.int .i64 r,.agg #[.int .u8 k,.string ⟨s.toArray⟩,n,p.a,p.l,p.c,.slice A l c]] w fun e w'=>e=.returned (.bool (hPf k s n l))/\Bel w w':=by
 have HR:Hid (∀ W,Calls Tryz.prog 144 #[.agg #[.int .u8 k,.string ⟨s.toArray⟩,n,p.a,p.l,p.c,.slice A l c]] W fun e w'=>e=.returned (.tuple #[.agg #[.int .u8 (paR k).1,.int .i64 (paR k).2.1],.bool (paR k).2.2])/\Bel W w'):=hid fun W=>QT k s n p A l c W;have HKP:Hid (∀ W,Bel w W->Calls Tryz.prog 92 #[.agg #[.int .u8 (paR k).1,.int .i64 (paR k).2.1],.string ⟨s.toArray⟩,n,(l:Int)] W fun e w'=>e=.returned (.bool (keepB (paR k).1 (paR k).2.1 s n l))/\Bel W w'):=hid fun W hW=>QP (paR k).1 (paR k).2.1 s n l W (ht.bel hW) hf.1 hf.2.1 hf.2.2;unfold hPf;obtain⟨tk,htk⟩:∃ t,t=(paR k).1:=⟨_,rfl⟩
 obtain⟨kc,hkc⟩:∃ t,t=(paR k).2.1:=⟨_,rfl⟩
 obtain⟨ok,hok⟩:∃ t,t=(paR k).2.2:=⟨_,rfl⟩
 rw[<- htk,<- hkc,<- hok]at HR;rw[<- htk,<- hkc]at HKP;rw[<- htk,<- hkc,<- hok];obtain⟨kb,hkb⟩:∃ t,t=keepB tk kc s n l:=⟨_,rfl⟩
 obtain⟨SS,hSS⟩:∃ S:ByteArray,S=⟨s.toArray⟩:=⟨_,rfl⟩
 rw[<- hkb,<- hSS]at HKP;rw[<- hSS]at HR;rw[<- hkb,<- hSS];clear ht hf htk hkc hok hkb hSS;have hb1:Bel w (w.alloc (.cells #[.int .u8 k,SS,n,p.a,p.l,p.c,.slice A l c] 78)):=(Bel.refl w).alloc _;have q1:=blk1 w (.cells #[.int .u8 k,SS,n,p.a,p.l,p.c,.slice A l c] 78);have HB1:=hid hb1;have HQ1:=hid q1;clear hb1 q1;go_enter Tryz.func94,Tryz.ntmps94
 go_wp2_with fail
 refine (HR.out _).mono ?_;rintro e w2 ⟨rfl,hb2⟩;have HB2:=hid (HB1.out.on hb2);have q2:=hb2.blk HQ1.out;obtain⟨x0,x1,x2,x3,x4,x5,x6⟩:=box7 q2;have hlt:w.heap.size<w2.heap.size:=(Array.getElem?_eq_some_iff.1 q2).1;clear hb2 q2 HR;cases ok
 ·go_wp2_with fail
  go_ret
  exact⟨rfl,HB2.out.alloc _⟩
 ·go_wp2_with fail
  refine (HKP.out _ (HB2.out.alloc _)).mono ?_;rintro e w3 ⟨rfl,hb3⟩;have HB3:=hid ((HB2.out.alloc _).on hb3);clear hb3 x0 x1 x2 x3 x4 x5 x6;go_wp2_with fail
  go_ret
  exact⟨by simp,HB3.out⟩
theorem qds(k:Int)(s:List UInt8)(n:Int)(p:Pl)(A:Option Addr)(l c:Nat)(r:Int)(w:World)(ht:Tbl w)(hf:s.length<=140737488355328) :
  Calls Tryz.prog 175 #[.int .i64 r,.agg #[.int .u8 k,.string ⟨s.toArray⟩,.int .u8 n,p.a,p.l,p.c,.slice A l c]] w fun e w'=>e=.returned (.bool (hTf k s n l))/\Bel w w':=by
 have HR:Hid (∀ W,Calls Tryz.prog 177 #[.agg #[.int .u8 k,.string ⟨s.toArray⟩,.int .u8 n,p.a,p.l,p.c,.slice A l c]] W fun e w'=>e=.returned (.tuple #[.agg #[.int .u8 (tyR k).1,.int .i64 (tyR k).2.1],.bool (tyR k).2.2])/\Bel W w'):=hid fun W=>ZM k s n p A l c W;have HKP:Hid (∀ W,Bel w W->Calls Tryz.prog 92 #[.agg #[.int .u8 (tyR k).1,.int .i64 (tyR k).2.1],.string ⟨s.toArray⟩,(0:Int),(l:Int)] W fun e w'=>e=.returned (.bool (keepB (tyR k).1 (tyR k).2.1 s 0 l))/\Bel W w'):=hid fun W hW=>QP (tyR k).1 (tyR k).2.1 s 0 l W (ht.bel hW) hf (by omega) (by omega);have HM:Hid (∀ W,Calls Tryz.prog 173 #[.int .u8 n] W fun e w'=>e=.returned (.bool (mltB n))/\w'=W):=hid fun W=>ZC n W;unfold hTf;obtain⟨tk,htk⟩:∃ t,t=(tyR k).1:=⟨_,rfl⟩
 obtain⟨kc,hkc⟩:∃ t,t=(tyR k).2.1:=⟨_,rfl⟩
 obtain⟨ok,hok⟩:∃ t,t=(tyR k).2.2:=⟨_,rfl⟩
 rw[<- htk,<- hkc,<- hok]at HR;rw[<- htk,<- hkc]at HKP;rw[<- htk,<- hkc,<- hok];obtain⟨kb,hkb⟩:∃ t,t=keepB tk kc s 0 l:=⟨_,rfl⟩
 obtain⟨mb,hmb⟩:∃ t,t=mltB n:=⟨_,rfl⟩
 obtain⟨SS,hSS⟩:∃ S:ByteArray,S=⟨s.toArray⟩:=⟨_,rfl⟩
 rw[<- hkb,<- hSS]at HKP;rw[<- hSS]at HR;rw[<- hmb]at HM;rw[<- hkb,<- hSS,<- hmb];clear ht hf htk hkc hok hkb hSS hmb;have hb1:Bel w (w.alloc (.cells #[.int .u8 k,SS,.int .u8 n,p.a,p.l,p.c,.slice A l c] 59)):=(Bel.refl w).alloc _;have q1:=blk1 w (.cells #[.int .u8 k,SS,.int .u8 n,p.a,p.l,p.c,.slice A l c] 59);have HB1:=hid hb1;have HQ1:=hid q1;clear hb1 q1;obtain⟨hd,hhd⟩:∃ b,b=(if k=3 then mb else decide (n=0)):=⟨_,rfl⟩
 rw[<- hhd];have HHD:=hid hhd;clear hhd;have fin:∀ W,Bel w W->W.heap[w.heap.size]?=some (.cells #[.int .u8 k,SS,.int .u8 n,p.a,p.l,p.c,.slice A l c] 59 (0,0))->True:=fun _ _ _=>trivial;clear fin;by_cases k3:k=3
 ·subst k3
  obtain rfl:hd=mb:=by rw[HHD.out,if_pos rfl]
  go_enter Tryz.func175,Tryz.ntmps175
  go_wp2_with fail
  refine (HM.out _).mono ?_;rintro e w1 ⟨rfl,rfl⟩;cases hd
  ·go_wp2_with fail
   go_ret
   exact⟨rfl,HB1.out⟩
  ·go_wp2_with fail
   refine (HR.out _).mono ?_;rintro e w2 ⟨rfl,hb2⟩;have HB2:=hid (HB1.out.on hb2);have q2:=hb2.blk HQ1.out;obtain⟨x0,x1,x2,x3,x4,x5,x6⟩:=box7 q2;have hlt:w.heap.size<w2.heap.size:=(Array.getElem?_eq_some_iff.1 q2).1;clear hb2 q2 HR;cases ok
   ·go_wp2_with fail
    go_ret
    exact⟨rfl,HB2.out.alloc _⟩
   ·go_wp2_with fail
    refine (HKP.out _ (HB2.out.alloc _)).mono ?_;rintro e w3 ⟨rfl,hb3⟩;have HB3:=hid ((HB2.out.alloc _).on hb3);clear hb3 x0 x1 x2 x3 x4 x5 x6;go_wp2_with fail
    go_ret
    exact⟨by simp,HB3.out⟩
 ·have d3:(k==3)=false:=by simpa using k3
  have d4:(k != 3)=true:=by simpa using k3
  by_cases n0:n=0
  ·subst n0
   obtain rfl:hd=true:=by rw[HHD.out,if_neg k3];rfl
   go_enter Tryz.func175,Tryz.ntmps175
   go_wp2_with fail
   refine (HR.out _).mono ?_;rintro e w2 ⟨rfl,hb2⟩;have HB2:=hid (HB1.out.on hb2);have q2:=hb2.blk HQ1.out;obtain⟨x0,x1,x2,x3,x4,x5,x6⟩:=box7 q2;have hlt:w.heap.size<w2.heap.size:=(Array.getElem?_eq_some_iff.1 q2).1;clear hb2 q2 HR;cases ok
   ·go_wp2_with fail
    go_ret
    exact⟨rfl,HB2.out.alloc _⟩
   ·go_wp2_with fail
    refine (HKP.out _ (HB2.out.alloc _)).mono ?_;rintro e w3 ⟨rfl,hb3⟩;have HB3:=hid ((HB2.out.alloc _).on hb3);clear hb3 x0 x1 x2 x3 x4 x5 x6;go_wp2_with fail
    go_ret
    exact⟨by simp,HB3.out⟩
  ·obtain rfl:hd=false:=by rw[HHD.out,if_neg k3];simp[n0]
   have d5:(n != 0)=true:=by simpa using n0
   go_enter Tryz.func175,Tryz.ntmps175
   go_wp2_with fail
   go_ret
   exact⟨rfl,HB1.out⟩
theorem zl{w:World}{g:Nat}{x0 x1 x2 x3 x4 x5:Value}(h:w.heap[g]?=some (.cells #[x0,x1,x2,x3,x4,x5] 51 (0,0))):(loadVar 51 ⟨g,0,none⟩).run Tryz.prog w=.ok (.agg #[x0,x1,x2,x3,x4,x5]) w:=by
 have c0:w.cell? ⟨g,0,none⟩=some x0:=by simp[World.cell?,h]
 have c1:w.cell? ⟨g,1,none⟩=some x1:=by simp[World.cell?,h]
 have c2:w.cell? ⟨g,2,none⟩=some x2:=by simp[World.cell?,h]
 have c3:w.cell? ⟨g,3,none⟩=some x3:=by simp[World.cell?,h]
 have c4:w.cell? ⟨g,4,none⟩=some x4:=by simp[World.cell?,h]
 have c5:w.cell? ⟨g,5,none⟩=some x5:=by simp[World.cell?,h]
 simp[loadVar,go_sem,c0,c1,c2,c3,c4,c5]
def tokV(k:Int)(S:ByteArray):Value:= .agg #[.int .u8 k,.string S,.int .i64 0,.int .i64 0,.int .i64 0,.int .i64 0]
theorem qW(S:ByteArray)(w:World):Calls Tryz.prog 83 #[.string S] w fun e w'=>e=.returned (tokV 1 S)/\Bel w w':=by
 go_enter Tryz.func83,Tryz.ntmps83
 go_wp2_with fail
 have hb:Bel w (w.alloc (.cells #[.int .u8 1,S,(0:Int),(0:Int),(0:Int),(0:Int)] 51)):=(Bel.refl w).alloc _;have hq:=zl (blk1 w (.cells #[.int .u8 1,S,(0:Int),(0:Int),(0:Int),(0:Int)] 51))
 (try simp only[Exit.inBlock,Exit.then])
 refine bodyPost_ret (qf (v:=tokV 1 S) rfl _ _ _ rfl hq) rfl ?_;exact⟨rfl,hb⟩
theorem jU(S:ByteArray)(w:World):Calls Tryz.prog 135 #[.string S] w fun e w'=>e=.returned (tokV 2 S)/\Bel w w':=by
 go_enter Tryz.func135,Tryz.ntmps135
 go_wp2_with fail
 have hb:Bel w (w.alloc (.cells #[.int .u8 2,S,(0:Int),(0:Int),(0:Int),(0:Int)] 51)):=(Bel.refl w).alloc _;have hq:=zl (blk1 w (.cells #[.int .u8 2,S,(0:Int),(0:Int),(0:Int),(0:Int)] 51))
 (try simp only[Exit.inBlock,Exit.then])
 refine bodyPost_ret (qf (v:=tokV 2 S) rfl _ _ _ rfl hq) rfl ?_;exact⟨rfl,hb⟩
theorem qd(S:ByteArray)(w:World):Calls Tryz.prog 86 #[.string S] w fun e w'=>e=.returned (tokV 5 S)/\Bel w w':=by
 go_enter Tryz.func86,Tryz.ntmps86
 go_wp2_with fail
 have hb:Bel w (w.alloc (.cells #[.int .u8 5,S,(0:Int),(0:Int),(0:Int),(0:Int)] 51)):=(Bel.refl w).alloc _;have hq:=zl (blk1 w (.cells #[.int .u8 5,S,(0:Int),(0:Int),(0:Int),(0:Int)] 51))
 (try simp only[Exit.inBlock,Exit.then])
 refine bodyPost_ret (qf (v:=tokV 5 S) rfl _ _ _ rfl hq) rfl ?_;exact⟨rfl,hb⟩
theorem qbL(m k:Int)(s:List UInt8)(n:Int)(p:Pl)(A:Option Addr)(c:Nat)(kids:Tr)(m2 k2:Int)(s2:List UInt8)(n2:Int)(p2:Pl)(A2:Option Addr)(c2:Nat)(kids2:Tr)(w:World)
  (hk:KidsTr w (OldT w) .ty A kids.len c kids) (hk2:KidsTr w (OldT w) .ty A2 kids2.len c2 kids2) (hsz:kids.size<=900000) (hsz2:kids2.size<=900000) :
  Calls Tryz.prog 132 #[.agg #[.int .u8 m,.int .u8 k,.string ⟨s.toArray⟩,.int .u8 n,p.a,p.l,p.c,.slice A kids.len c],.agg #[.int .u8 m2,.int .u8 k2,.string ⟨s2.toArray⟩,.int .u8 n2,p2.a,p2.l,p2.c,.slice A2 kids2.len c2]] w (qi (decide (m=m2)&&Tr.same (.nod k s n p kids .nil .nil) (.nod k2 s2 n2 p2 kids2 .nil .nil)) w):=by
 have HS:Hid (∀ (g g2:Nat) (t t2:TypeId) (W:World),Bel w W->W.heap[g]?=some (.cells #[.int .u8 k,.string ⟨s.toArray⟩,.int .u8 n,p.a,p.l,p.c,.slice A kids.len c] t (0,0))->W.heap[g2]?=some (.cells #[.int .u8 k2,.string ⟨s2.toArray⟩,.int .u8 n2,p2.a,p2.l,p2.c,.slice A2 kids2.len c2] t2 (0,0)) →
   Calls Tryz.prog 171 #[.slice (some ⟨g,0,none⟩) 1 1,.slice (some ⟨g2,0,none⟩) 1 1,.func (.func 32) #[] #[],.func (.func 172) #[] #[]] W (qi (Tr.same (.nod k s n p kids .nil .nil) (.nod k2 s2 n2 p2 kids2 .nil .nil)) W)):=hid fun g g2 t t2 W hW h1 h2=>by
  have e1:=zQ (sh:= .ty) (arms:= .nil) (B:=none) (bc:=0) (by intro e;cases e) hk (.inr ⟨.inr rfl,rfl⟩) hW h1;have e2:=zQ (sh:= .ty) (arms:= .nil) (B:=none) (bc:=0) (by intro e;cases e) hk2 (.inr ⟨.inr rfl,rfl⟩) hW h2;exact qes _ 1 1 _ 1 1 _ _ W e1 e2 (by simp only[Tr.size];omega) (by simp only[Tr.size];omega)
 obtain⟨r,hr⟩:∃ r,r=Tr.same (.nod k s n p kids .nil .nil) (.nod k2 s2 n2 p2 kids2 .nil .nil):=⟨_,rfl⟩
 rw[<- hr]at HS ⊢;obtain⟨l1,hl1⟩:∃ l,l=kids.len:=⟨_,rfl⟩
 obtain⟨l2,hl2⟩:∃ l,l=kids2.len:=⟨_,rfl⟩
 obtain⟨S,hS⟩:∃ S:ByteArray,S=⟨s.toArray⟩:=⟨_,rfl⟩
 obtain⟨S2,hS2⟩:∃ S:ByteArray,S=⟨s2.toArray⟩:=⟨_,rfl⟩
 rw[<- hl1,<- hl2,<- hS,<- hS2]at HS;rw[<- hl1,<- hl2,<- hS,<- hS2];clear hk hk2 hsz hsz2 hr hl1 hl2 hS hS2;by_cases dm:m=m2
 case neg=>
  have e:(decide (m=m2)&&r)=false:=by simp[dm]
  rw[e];have em:(m==m2)=false:=by simpa using dm
  clear e HS;go_enter Tryz.func132,Tryz.ntmps132
  go_wp2_with fail
  go_ret
  exact⟨rfl,((Bel.refl w).alloc _).alloc _⟩
 subst dm;have e:(decide (m=m)&&r)=r:=by simp
 rw[e];clear e;have q4:=blk4 w (.cells #[.int .u8 m,.int .u8 k,S,.int .u8 n,p.a,p.l,p.c,.slice A l1 c] 61) (.cells #[.int .u8 m,.int .u8 k2,S2,.int .u8 n2,p2.a,p2.l,p2.c,.slice A2 l2 c2] 61) (.cells #[.int .u8 k,S,.int .u8 n,p.a,p.l,p.c,.slice A l1 c] 59) (.cells #[.int .u8 k2,S2,.int .u8 n2,p2.a,p2.l,p2.c,.slice A2 l2 c2] 59);have hb4:=((((Bel.refl w).alloc (.cells #[.int .u8 m,.int .u8 k,S,.int .u8 n,p.a,p.l,p.c,.slice A l1 c] 61)).alloc (.cells #[.int .u8 m,.int .u8 k2,S2,.int .u8 n2,p2.a,p2.l,p2.c,.slice A2 l2 c2] 61)).alloc (.cells #[.int .u8 k,S,.int .u8 n,p.a,p.l,p.c,.slice A l1 c] 59)).alloc (.cells #[.int .u8 k2,S2,.int .u8 n2,p2.a,p2.l,p2.c,.slice A2 l2 c2] 59);have HC:=hid (HS.out (w.heap.size+2) (w.heap.size+3) _ _ _ hb4 q4.2.2.1 q4.2.2.2);have HB4:=hid hb4;clear q4 hb4 HS;go_enter Tryz.func132,Tryz.ntmps132
 go_wp2_with fail
 refine HC.out.mono ?_;rintro e w5 ⟨rfl,hb5⟩;have HB5:=hid (HB4.out.on hb5);clear hb5;go_wp2_with fail
 go_ret
 exact⟨rfl,HB5.out⟩
theorem qg0(A:Option Addr)(n c:Nat)(B:Option Addr)(m d:Nat)(f g:List Fd)(w:World)(hk:RowOf 8 FdAt w (OldT w) A n c f)(hk2:RowOf 8 FdAt w (OldT w) B m d g)(hn:n<=1000000)(hm:m<=1000000)(hg:∀ x∈f,x.good)(hg2:∀ x∈g,x.good) :
  Calls Tryz.prog 131 #[.slice A n c,.slice B m d,.func (.func 132) #[] #[]] w (qi (lsame Fd.same f g) w):=by
 have H:=hid hk;have H2:=hid hk2;have HL:Hid (n=f.length):=hid hk.1;have HL2:Hid (m=g.length):=hid hk2.1;have HG:=hid (And.intro hg hg2);obtain⟨r,hr⟩:∃ r,r=lsame Fd.same f g:=⟨_,rfl⟩
 rw[<- hr];have HR:=hid hr;clear hk hk2 hg hg2 hr;have eg:∀ args w,(callFunc 132 args).run Tryz.prog w=.ok (.enter 132 args) w:=fun args w=>by kernel_rfl
 by_cases hnm:n=m
 case neg=>
  obtain rfl:r=false:=by
   rw[HR.out,Bool.eq_false_iff];intro h;have:=zt _ _ _ h;exact hnm (by rw[HL.out,HL2.out,this])
  have e0:((n:Int) != (m:Int))=true:=by simp;omega
  go_enter Tryz.func131,Tryz.ntmps131
  go_wp2_with fail
  go_ret
  exact⟨rfl,Bel.refl _⟩
 subst hnm;go_enter Tryz.func131,Tryz.ntmps131
 go_wp2_with fail
 go_loopw [17] (fun i wr=>∃ j:Nat,j<=n/\i=.int .i64 (j:Int)/\Hid (r=lsame Fd.same (f.drop j) (g.drop j))/\Hid (Bel w wr)) (fun i _=>n-(intOf i).toNat)
 case atStart=>exact⟨0,Nat.zero_le _,rfl,HR,hid (Bel.refl _)⟩
 case round=>
  obtain⟨j,hj,rfl,HRJ,HB⟩:=hrel;by_cases hlt:j<n
  ·obtain⟨ub,uo,eA,hob,hfo⟩:=(H.out.bel qG HB.out).2.2 (by omega)
   obtain⟨ub2,uo2,eA2,hob2,hfo2⟩:=(H2.out.bel qG HB.out).2.2 (by omega);subst eA eA2;obtain⟨x,hx⟩:∃ x,f[j]?=some x:=⟨_,List.getElem?_eq_getElem (by rw[<- HL.out];exact hlt)⟩
   obtain⟨y,hy⟩:∃ y,g[j]?=some y:=⟨_,List.getElem?_eq_getElem (by rw[<- HL2.out];exact hlt)⟩
   have hd:=hfo j x hx;have hd2:=hfo2 j y hy;have hgx:=HG.out.1 x (List.mem_of_getElem? hx);have hgy:=HG.out.2 y (List.mem_of_getElem? hy);obtain⟨hb,hhb⟩:∃ hb,hb=Fd.same x y:=⟨_,rfl⟩
   have HRN:Hid (r=(hb&&lsame Fd.same (f.drop (j+1)) (g.drop (j+1)))):=hid (by rw[HRJ.out,zo _ hx hy,hhb]);clear hfo hfo2;obtain⟨A',ca',hkk,y0,y1,y2,y3,y4,y5,y6,y7⟩:=hd.cells;obtain⟨A2',ca2',hkk2,z0,z1,z2,z3,z4,z5,z6,z7⟩:=hd2.cells;obtain⟨mm,k,s,nn,p,kids⟩:=x;obtain⟨mm2,k2,s2,nn2,p2,kids2⟩:=y;have HC:Hid (∀ W,Bel wr W->Calls Tryz.prog 132 #[.agg #[.int .u8 mm,.int .u8 k,.string ⟨s.toArray⟩,.int .u8 nn,p.a,p.l,p.c,.slice A' kids.len ca'],.agg #[.int .u8 mm2,.int .u8 k2,.string ⟨s2.toArray⟩,.int .u8 nn2,p2.a,p2.l,p2.c,.slice A2' kids2.len ca2']] W (qi hb W)):=hid fun W hW=>by
    rw[hhb];exact qbL mm k s nn p A' ca' kids mm2 k2 s2 nn2 p2 A2' ca2' kids2 W (hkk.bel hW) (hkk2.bel hW) hgx hgy
   simp only[]at y0 y1 y2 y3 y4 y5 y6 y7 z0 z1 z2 z3 z4 z5 z6 z7;obtain⟨l1,hl1⟩:∃ l,l=kids.len:=⟨_,rfl⟩
   obtain⟨l2,hl2⟩:∃ l,l=kids2.len:=⟨_,rfl⟩
   obtain⟨SS,hSS⟩:∃ S:ByteArray,S=⟨s.toArray⟩:=⟨_,rfl⟩
   obtain⟨SS2,hSS2⟩:∃ S:ByteArray,S=⟨s2.toArray⟩:=⟨_,rfl⟩
   rw[<- hSS,<- hSS2,<- hl1,<- hl2]at HC;rw[<- hSS]at y2;rw[<- hSS2]at z2;rw[<- hl1]at y7;rw[<- hl2]at z7;clear hkk hkk2 hgx hgy hhb hl1 hl2 hSS hSS2 hx hy hd hd2;have i1:(0:Int)<=(j:Int):=by omega
   have i2:(j:Int)<(n:Int):=by omega
   have HLT:=hid hlt;have hob':ub<wr.heap.size:=hob;have hob2':ub2<wr.heap.size:=hob2;clear hob hob2;go_wp2_with fail
   refine (HC.out _ (((Bel.refl wr).alloc _).alloc _)).mono ?_;rintro e w3 ⟨rfl,hb3⟩;have HB3:=hid (((HB.out.alloc _).alloc _).on hb3);clear hb3 HC y0 y1 y2 y3 y4 y5 y6 y7 z0 z1 z2 z3 z4 z5 z6 z7;cases hb
   ·obtain rfl:r=false:=by rw[HRN.out];rfl
    go_wp2_with fail
    go_ret
    exact⟨rfl,HB3.out⟩
   ·have HR':Hid (r=lsame Fd.same (f.drop (j+1)) (g.drop (j+1))):=hid (by rw[HRN.out];rfl)
    go_wp2_with fail
    go_roundw
    case rel=>exact⟨j+1,HLT.out,by go_num,HR',HB3⟩
    case measure=>have:=HLT.out;simp[intOf];omega
  ·obtain rfl:j=n:=by omega
   obtain rfl:r=true:=by rw[HRJ.out,List.drop_eq_nil_of_le (by rw[<- HL.out];exact Nat.le_refl _),List.drop_eq_nil_of_le (by rw[<- HL2.out];exact Nat.le_refl _)];rfl
   go_wp2_with fail
   go_ret
   exact⟨rfl,HB.out⟩
theorem qbJ(s:List UInt8)(p:Pl)(A:Option Addr)(c:Nat)(fs:List Fd)(s2:List UInt8)(p2:Pl)(A2:Option Addr)(c2:Nat)(fs2:List Fd)(w:World)
  (hk:RowOf 8 FdAt w (OldT w) A fs.length c fs) (hk2:RowOf 8 FdAt w (OldT w) A2 fs2.length c2 fs2) (hn:fs.length<=1000000) (hn2:fs2.length<=1000000) (hg:∀ x∈fs,x.good) (hg2:∀ x∈fs2,x.good) :
  Calls Tryz.prog 79 #[.agg #[.string ⟨s.toArray⟩,p.a,p.l,p.c,.slice A fs.length c],.agg #[.string ⟨s2.toArray⟩,p2.a,p2.l,p2.c,.slice A2 fs2.length c2]] w (qi (decide (s=s2)&&lsame Fd.same fs fs2) w):=by
 have HS:Hid (∀ W,Bel w W->Calls Tryz.prog 131 #[.slice A fs.length c,.slice A2 fs2.length c2,.func (.func 132) #[] #[]] W (qi (lsame Fd.same fs fs2) W)):=hid fun W hW=>qg0 A _ c A2 _ c2 fs fs2 W (hk.bel qG hW) (hk2.bel qG hW) hn hn2 hg hg2;obtain⟨r,hr⟩:∃ r,r=lsame Fd.same fs fs2:=⟨_,rfl⟩
 rw[<- hr]at HS ⊢;obtain⟨l1,hl1⟩:∃ l,l=fs.length:=⟨_,rfl⟩
 obtain⟨l2,hl2⟩:∃ l,l=fs2.length:=⟨_,rfl⟩
 rw[<- hl1,<- hl2]at HS ⊢;have hne:s≠s2->(⟨s.toArray⟩:ByteArray).toList≠(⟨s2.toArray⟩:ByteArray).toList:=qS;clear hk hk2 hn hn2 hg hg2 hr hl1 hl2;by_cases ds:s=s2
 case neg=>
  have e:(decide (s=s2)&&r)=false:=by simp[ds]
  rw[e];obtain⟨S,hS⟩:∃ S:ByteArray,S=⟨s.toArray⟩:=⟨_,rfl⟩
  obtain⟨S2,hS2⟩:∃ S:ByteArray,S=⟨s2.toArray⟩:=⟨_,rfl⟩
  have qn:=hne ds;rw[<- hS,<- hS2]at qn;rw[<- hS,<- hS2];have qb:(S.toList==S2.toList)=false:=by simpa using qn
  clear hne e hS hS2 ds HS qn;go_enter Tryz.func79,Tryz.ntmps79
  go_wp2_with fail
  go_ret
  exact⟨rfl,((Bel.refl w).alloc _).alloc _⟩
 subst ds;have e:(decide (s=s)&&r)=r:=by simp
 rw[e];obtain⟨S,hS⟩:∃ S:ByteArray,S=⟨s.toArray⟩:=⟨_,rfl⟩
 rw[<- hS];clear e hne hS;go_enter Tryz.func79,Tryz.ntmps79
 go_wp2_with fail
 refine (HS.out _ (((Bel.refl w).alloc _).alloc _)).mono ?_;rintro e w5 ⟨rfl,hb5⟩;have HB5:=hid ((((Bel.refl w).alloc _).alloc _).on hb5);clear hb5 HS;go_wp2_with fail
 go_ret
 exact⟨rfl,HB5.out⟩
theorem qgY(A:Option Addr)(n c:Nat)(B:Option Addr)(m d:Nat)(f g:List Cd)(w:World)(hk:RowOf 5 CdAt w (OldT w) A n c f)(hk2:RowOf 5 CdAt w (OldT w) B m d g)(hn:n<=1000000)(hm:m<=1000000)(hg:∀ x∈f,x.good)(hg2:∀ x∈g,x.good) :
  Calls Tryz.prog 78 #[.slice A n c,.slice B m d,.func (.func 79) #[] #[]] w (qi (lsame Cd.same f g) w):=by
 have H:=hid hk;have H2:=hid hk2;have HL:Hid (n=f.length):=hid hk.1;have HL2:Hid (m=g.length):=hid hk2.1;have HG:=hid (And.intro hg hg2);obtain⟨r,hr⟩:∃ r,r=lsame Cd.same f g:=⟨_,rfl⟩
 rw[<- hr];have HR:=hid hr;clear hk hk2 hg hg2 hr;have eg:∀ args w,(callFunc 79 args).run Tryz.prog w=.ok (.enter 79 args) w:=fun args w=>by kernel_rfl
 by_cases hnm:n=m
 case neg=>
  obtain rfl:r=false:=by
   rw[HR.out,Bool.eq_false_iff];intro h;have:=zt _ _ _ h;exact hnm (by rw[HL.out,HL2.out,this])
  have e0:((n:Int) != (m:Int))=true:=by simp;omega
  go_enter Tryz.func78,Tryz.ntmps78
  go_wp2_with fail
  go_ret
  exact⟨rfl,Bel.refl _⟩
 subst hnm;go_enter Tryz.func78,Tryz.ntmps78
 go_wp2_with fail
 go_loopw [17] (fun i wr=>∃ j:Nat,j<=n/\i=.int .i64 (j:Int)/\Hid (r=lsame Cd.same (f.drop j) (g.drop j))/\Hid (Bel w wr)) (fun i _=>n-(intOf i).toNat)
 case atStart=>exact⟨0,Nat.zero_le _,rfl,HR,hid (Bel.refl _)⟩
 case round=>
  obtain⟨j,hj,rfl,HRJ,HB⟩:=hrel;by_cases hlt:j<n
  ·obtain⟨ub,uo,eA,hob,hfo⟩:=(H.out.bel qv HB.out).2.2 (by omega)
   obtain⟨ub2,uo2,eA2,hob2,hfo2⟩:=(H2.out.bel qv HB.out).2.2 (by omega);subst eA eA2;obtain⟨x,hx⟩:∃ x,f[j]?=some x:=⟨_,List.getElem?_eq_getElem (by rw[<- HL.out];exact hlt)⟩
   obtain⟨y,hy⟩:∃ y,g[j]?=some y:=⟨_,List.getElem?_eq_getElem (by rw[<- HL2.out];exact hlt)⟩
   have hd:=hfo j x hx;have hd2:=hfo2 j y hy;have hgx:=HG.out.1 x (List.mem_of_getElem? hx);have hgy:=HG.out.2 y (List.mem_of_getElem? hy);obtain⟨hb,hhb⟩:∃ hb,hb=Cd.same x y:=⟨_,rfl⟩
   have HRN:Hid (r=(hb&&lsame Cd.same (f.drop (j+1)) (g.drop (j+1)))):=hid (by rw[HRJ.out,zo _ hx hy,hhb]);clear hfo hfo2;obtain⟨y0,y1,y2,y3,A',ca',y4,hkk⟩:=hd;obtain⟨z0,z1,z2,z3,A2',ca2',z4,hkk2⟩:=hd2;obtain⟨s,p,fs⟩:=x;obtain⟨s2,p2,fs2⟩:=y;have HC:Hid (∀ W,Bel wr W->Calls Tryz.prog 79 #[.agg #[.string ⟨s.toArray⟩,p.a,p.l,p.c,.slice A' fs.length ca'],.agg #[.string ⟨s2.toArray⟩,p2.a,p2.l,p2.c,.slice A2' fs2.length ca2']] W (qi hb W)):=hid fun W hW=>by
    rw[hhb];exact qbJ s p A' ca' fs s2 p2 A2' ca2' fs2 W (hkk.bel qG hW) (hkk2.bel qG hW) hgx.1 hgy.1 hgx.2 hgy.2
   simp only[]at y0 y1 y2 y3 y4 z0 z1 z2 z3 z4;obtain⟨l1,hl1⟩:∃ l,l=fs.length:=⟨_,rfl⟩
   obtain⟨l2,hl2⟩:∃ l,l=fs2.length:=⟨_,rfl⟩
   obtain⟨SS,hSS⟩:∃ S:ByteArray,S=⟨s.toArray⟩:=⟨_,rfl⟩
   obtain⟨SS2,hSS2⟩:∃ S:ByteArray,S=⟨s2.toArray⟩:=⟨_,rfl⟩
   rw[<- hSS,<- hSS2,<- hl1,<- hl2]at HC;rw[<- hSS]at y0;rw[<- hSS2]at z0;rw[<- hl1]at y4;rw[<- hl2]at z4;clear hkk hkk2 hgx hgy hhb hl1 hl2 hSS hSS2 hx hy;have i1:(0:Int)<=(j:Int):=by omega
   have i2:(j:Int)<(n:Int):=by omega
   have HLT:=hid hlt;have hob':ub<wr.heap.size:=hob;have hob2':ub2<wr.heap.size:=hob2;clear hob hob2;go_wp2_with fail
   refine (HC.out _ (((Bel.refl wr).alloc _).alloc _)).mono ?_;rintro e w3 ⟨rfl,hb3⟩;have HB3:=hid (((HB.out.alloc _).alloc _).on hb3);clear hb3 HC y0 y1 y2 y3 y4 z0 z1 z2 z3 z4;cases hb
   ·obtain rfl:r=false:=by rw[HRN.out];rfl
    go_wp2_with fail
    go_ret
    exact⟨rfl,HB3.out⟩
   ·have HR':Hid (r=lsame Cd.same (f.drop (j+1)) (g.drop (j+1))):=hid (by rw[HRN.out];rfl)
    go_wp2_with fail
    go_roundw
    case rel=>exact⟨j+1,HLT.out,by go_num,HR',HB3⟩
    case measure=>have:=HLT.out;simp[intOf];omega
  ·obtain rfl:j=n:=by omega
   obtain rfl:r=true:=by rw[HRJ.out,List.drop_eq_nil_of_le (by rw[<- HL.out];exact Nat.le_refl _),List.drop_eq_nil_of_le (by rw[<- HL2.out];exact Nat.le_refl _)];rfl
   go_wp2_with fail
   go_ret
   exact⟨rfl,HB.out⟩
theorem qg2(A:Option Addr)(n c:Nat)(B:Option Addr)(m d:Nat)(f g:List (List UInt8))(w:World)(hk:RowOf 1 SAt w (OldT w) A n c f)(hk2:RowOf 1 SAt w (OldT w) B m d g)(hn:n<=1100000)(hm:m<=1100000) :
  Calls Tryz.prog 77 #[.slice A n c,.slice B m d] w (qi (decide (f=g)) w):=by
 have hl:=hk.1;have hl2:=hk2.1;by_cases hnm:n=m
 case neg=>
  have e:decide (f=g)=false:=by
   simp only[decide_eq_false_iff_not];intro e;exact hnm (by rw[hl,hl2,e])
  rw[e];exact (Tryz.slices_Equal_string_lens A B n c m d w hnm).mono (by rintro e w' ⟨rfl,rfl⟩;exact⟨rfl,Bel.refl _⟩)
 subst hnm;cases n with
 | zero=>
  have e1:f=[]:=List.length_eq_zero_iff.1 hl.symm;have e2:g=[]:=List.length_eq_zero_iff.1 hl2.symm;subst e1 e2;exact (Tryz.slices_Equal_string_empty A B c 0 d w (by omega)).mono (by rintro e w' ⟨rfl,rfl⟩;exact⟨rfl,Bel.refl _⟩)
 | succ n=>
  obtain⟨b,o,rfl,_,h1⟩:=hk.2.2 (by omega);obtain⟨b2,o2,rfl,_,h2⟩:=hk2.2.2 (by omega);have lem:∀ (b o:Nat) (f:List (List UInt8)),(∀ (i:Nat) (x:List UInt8),f[i]?=some x->SAt w (OldT w) b (o+i*1) x)->∀ j,j<(f.map (fun s=>(⟨s.toArray⟩:ByteArray))).length->w.cell? ⟨b,o+j,none⟩=some (.string ((f.map (fun s=>(⟨s.toArray⟩:ByteArray))).getD j ByteArray.empty)):=fun b o f h j hj=>by
   have hj':j<f.length:=by simpa using hj
   have:=h j f[j] (List.getElem?_eq_getElem hj');unfold SAt at this;rw[Nat.mul_one]at this;rw[this];simp[List.getD,hj']
  refine (Tryz.slices_Equal_string b o (n+1) c b2 o2 (n+1) d (f.map (fun s=>(⟨s.toArray⟩:ByteArray))) (g.map (fun s=>(⟨s.toArray⟩:ByteArray))) w (by simp;omega) (by simp;omega) (by omega) (by omega) (lem b o f h1) (lem b2 o2 g h2)).mono ?_;rintro e w' ⟨rfl,q,rfl⟩;refine⟨?_,(Bel.refl w).drewN q⟩;have t1:(f.map (fun s=>(⟨s.toArray⟩:ByteArray))).take (n+1)=f.map (fun s=>(⟨s.toArray⟩:ByteArray)):=List.take_of_length_le (by simp;omega);have t2:(g.map (fun s=>(⟨s.toArray⟩:ByteArray))).take (n+1)=g.map (fun s=>(⟨s.toArray⟩:ByteArray)):=List.take_of_length_le (by simp;omega);rw[t1,t2];have inj:∀ (f g:List (List UInt8)),f.map (fun s=>(⟨s.toArray⟩:ByteArray))=g.map (fun s=>(⟨s.toArray⟩:ByteArray))->f=g:=fun f g h=>by
   refine (List.map_inj_right ?_).1 h;intro x y e;have:=congrArg (fun b:ByteArray=>b.data.toList) e;simpa using this
  congr 2
  rw[decide_eq_decide];exact⟨inj f g,fun e=>by rw[e]⟩
set_option maxHeartbeats 4000000
theorem box5{w:World}{g:Nat}{t:TypeId}{x0 x1 x2 x3 x4:Value}(h:w.heap[g]?=some (.cells #[x0,x1,x2,x3,x4] t (0,0))) :
  w.cell? ⟨g,0,none⟩=some x0/\w.cell? ⟨g,4,none⟩=some x4:=by
 simp[World.cell?,h]
theorem JM(s:List UInt8)(p:Pl)(A:Option Addr)(c:Nat)(fs:List Fd)(s2:List UInt8)(p2:Pl)(A2:Option Addr)(c2:Nat)(fs2:List Fd)(w:World)
  (hk:RowOf 8 FdAt w (OldT w) A fs.length c fs) (hk2:RowOf 8 FdAt w (OldT w) A2 fs2.length c2 fs2) (hn:fs.length<=1000000) (hn2:fs2.length<=1000000) (hg:∀ x∈fs,x.good) (hg2:∀ x∈fs2,x.good) :
  Calls Tryz.prog 80 #[.agg #[.string ⟨s.toArray⟩,p.a,p.l,p.c,.slice A fs.length c],.agg #[.string ⟨s2.toArray⟩,p2.a,p2.l,p2.c,.slice A2 fs2.length c2]] w (qi (decide (s=s2)&&lsame Fd.same fs fs2) w):=by
 have H:=hid hk;have H2:=hid hk2;have HG:=hid (And.intro hg hg2);obtain⟨r,hr⟩:∃ r,r=lsame Fd.same fs fs2:=⟨_,rfl⟩
 rw[<- hr];have HR:=hid hr;obtain⟨n,hl1⟩:∃ l,l=fs.length:=⟨_,rfl⟩
 obtain⟨m,hl2⟩:∃ l,l=fs2.length:=⟨_,rfl⟩
 have HL:=hid hl1;have HL2:=hid hl2;rw[<- hl1]at H hn ⊢;rw[<- hl2]at H2 hn2 ⊢;have hne:s≠s2->(⟨s.toArray⟩:ByteArray).toList≠(⟨s2.toArray⟩:ByteArray).toList:=qS;clear hk hk2 hg hg2 hr hl1 hl2;by_cases ds:s=s2
 case neg=>
  have e:(decide (s=s2)&&r)=false:=by simp[ds]
  rw[e];obtain⟨S,hS⟩:∃ S:ByteArray,S=⟨s.toArray⟩:=⟨_,rfl⟩
  obtain⟨S2,hS2⟩:∃ S:ByteArray,S=⟨s2.toArray⟩:=⟨_,rfl⟩
  have qn:=hne ds;rw[<- hS,<- hS2]at qn;rw[<- hS,<- hS2];have qb:(S.toList==S2.toList)=false:=by simpa using qn
  clear hne e hS hS2 ds qn;go_enter Tryz.func80,Tryz.ntmps80
  go_wp2_with fail
  go_ret
  exact⟨rfl,((Bel.refl w).alloc _).alloc _⟩
 subst ds;have e:(decide (s=s)&&r)=r:=by simp
 rw[e];obtain⟨S,hS⟩:∃ S:ByteArray,S=⟨s.toArray⟩:=⟨_,rfl⟩
 rw[<- hS];clear e hne hS;by_cases hnm:n=m
 case neg=>
  obtain rfl:r=false:=by
   rw[HR.out,Bool.eq_false_iff];intro h;have:=zt _ _ _ h;exact hnm (by rw[HL.out,HL2.out,this])
  have e0:((n:Int)==(m:Int))=false:=by simp;omega
  go_enter Tryz.func80,Tryz.ntmps80
  go_wp2_with fail
  go_ret
  exact⟨rfl,((Bel.refl w).alloc _).alloc _⟩
 subst hnm;go_enter Tryz.func80,Tryz.ntmps80
 go_wp2_with fail
 have q1:=blk2 w (.cells #[.string S,p.a,p.l,p.c,.slice A n c] 64) (.cells #[.string S,p2.a,p2.l,p2.c,.slice A2 n c2] 64);have hb1:Bel w ((w.alloc (.cells #[.string S,p.a,p.l,p.c,.slice A n c] 64)).alloc (.cells #[.string S,p2.a,p2.l,p2.c,.slice A2 n c2] 64)):=((Bel.refl w).alloc _).alloc _;have hs1:((w.alloc (.cells #[.string S,p.a,p.l,p.c,.slice A n c] 64)).alloc (.cells #[.string S,p2.a,p2.l,p2.c,.slice A2 n c2] 64)).heap.size=w.heap.size+2:=by simp
 obtain⟨w1,hw1⟩:∃ w1,w1=(w.alloc (.cells #[.string S,p.a,p.l,p.c,.slice A n c] 64)).alloc (.cells #[.string S,p2.a,p2.l,p2.c,.slice A2 n c2] 64):=⟨_,rfl⟩
 rw[<- hw1]at q1 hb1 hs1 ⊢;have HQ:=hid q1;have HB1:=hid hb1;have HS1:=hid hs1;clear q1 hb1 hs1 hw1;go_loopw [5] (fun i wr=>∃ j:Nat,j<=n/\i=.int .i64 (j:Int)/\Hid (r=lsame Fd.same (fs.drop j) (fs2.drop j))/\Hid (Bel w1 wr)) (fun i _=>n-(intOf i).toNat)
 case atStart=>exact⟨0,Nat.zero_le _,rfl,HR,hid (Bel.refl _)⟩
 case round=>
  obtain⟨j,hj,rfl,HRJ,HB⟩:=hrel;have hbx:=HB.out.blk HQ.out.1;have hby:=HB.out.blk HQ.out.2;obtain⟨x0,x4⟩:=box5 hbx;obtain⟨y0,y4⟩:=box5 hby;clear hbx hby x0 y0;by_cases hlt:j<n
  ·obtain⟨ub,uo,eA,hob,hfo⟩:=(H.out.bel qG (HB1.out.on HB.out)).2.2 (by omega)
   obtain⟨ub2,uo2,eA2,hob2,hfo2⟩:=(H2.out.bel qG (HB1.out.on HB.out)).2.2 (by omega);subst eA eA2;obtain⟨x,hx⟩:∃ x,fs[j]?=some x:=⟨_,List.getElem?_eq_getElem (by rw[<- HL.out];exact hlt)⟩
   obtain⟨y,hy⟩:∃ y,fs2[j]?=some y:=⟨_,List.getElem?_eq_getElem (by rw[<- HL2.out];exact hlt)⟩
   have hgx:=HG.out.1 x (List.mem_of_getElem? hx);have hgy:=HG.out.2 y (List.mem_of_getElem? hy);have hjd:lsame Fd.same (fs.drop j) (fs2.drop j)=(x.same y&&lsame Fd.same (fs.drop (j+1)) (fs2.drop (j+1))):=zo _ hx hy;obtain⟨A',ca',hkk,e0,e1,e2,e3,e4,e5,e6,e7⟩:=(hfo j x hx).cells;obtain⟨A3',ca3',hkk3,d0,d1,d2,d3,d4,d5,d6,d7⟩:=(hfo2 j y hy).cells;obtain⟨mm,k,s',nn,p',kids⟩:=x;obtain⟨mm2,k2,s2',nn2,p2',kids2⟩:=y;have HC:Hid (∀ W,Bel wr W->Calls Tryz.prog 133 #[.agg #[.int .u8 k,.string ⟨s'.toArray⟩,.int .u8 nn,p'.a,p'.l,p'.c,.slice A' kids.len ca'],.agg #[.int .u8 k2,.string ⟨s2'.toArray⟩,.int .u8 nn2,p2'.a,p2'.l,p2'.c,.slice A3' kids2.len ca3']] W (qi (Tr.same (.nod k s' nn p' kids .nil .nil) (.nod k2 s2' nn2 p2' kids2 .nil .nil)) W)):=hid fun W hW=>
    qaB kids.size k s' nn p' A' kids.len ca' kids k2 s2' nn2 p2' A3' kids2.len ca3' kids2 W rfl (hkk.bel hW) (hkk3.bel hW) (Nat.le_trans hgx (by omega)) (Nat.le_trans hgy (by omega))
   obtain⟨q,hq⟩:∃ q,q=Tr.same (.nod k s' nn p' kids .nil .nil) (.nod k2 s2' nn2 p2' kids2 .nil .nil):=⟨_,rfl⟩
   rw[<- hq]at HC;have HRN:Hid (r=(decide (mm=mm2)&&q&&lsame Fd.same (fs.drop (j+1)) (fs2.drop (j+1)))):=hid (by rw[HRJ.out,hjd,hq];rfl);simp only[]at e0 e1 e2 e3 e4 e5 e6 e7 d0 d1 d2 d3 d4 d5 d6 d7;obtain⟨l1,hl1⟩:∃ l,l=kids.len:=⟨_,rfl⟩
   obtain⟨l2,hl2⟩:∃ l,l=kids2.len:=⟨_,rfl⟩
   obtain⟨SS,hSS⟩:∃ S:ByteArray,S=⟨s'.toArray⟩:=⟨_,rfl⟩
   obtain⟨SS2,hSS2⟩:∃ S:ByteArray,S=⟨s2'.toArray⟩:=⟨_,rfl⟩
   rw[<- hSS,<- hSS2,<- hl1,<- hl2]at HC;rw[<- hSS]at e2;rw[<- hSS2]at d2;rw[<- hl1]at e7;rw[<- hl2]at d7;have i1:(0:Int)<=(j:Int):=by omega
   have i2:(j:Int)<(n:Int):=by omega
   have kb1:ub<wr.heap.size:=hob;have kb2:ub2<wr.heap.size:=hob2;have kb3:w.heap.size<wr.heap.size:=by have:=HS1.out;have:=HB.out.size;omega
   have kb4:w.heap.size+1<wr.heap.size:=by have:=HS1.out;have:=HB.out.size;omega
   have HLT:=hid hlt;clear hfo hfo2 hkk hkk3 hgx hgy hjd hq hl1 hl2 hSS hSS2 hx hy hob hob2;have X4:=qa kb3 x4;have Y4:=qa kb4 y4;have E0:=qa kb1 e0;have D0:=qa kb2 d0;have E1:=qa kb1 e1;have D1:=qa kb2 d1;have E2:=qa kb1 e2;have D2:=qa kb2 d2;have E3:=qa kb1 e3;have D3:=qa kb2 d3;have E4:=qa kb1 e4;have D4:=qa kb2 d4;have E5:=qa kb1 e5;have D5:=qa kb2 d5;have E6:=qa kb1 e6;have D6:=qa kb2 d6;have E7:=qa kb1 e7;have D7:=qa kb2 d7;by_cases dm:mm=mm2
   case neg=>
    have hr0:r=false:=by rw[HRN.out];simp[dm]
    have em:(mm==mm2)=false:=by simpa using dm
    subst hr0;clear HC X4 Y4 E0 D0 E1 D1 E2 D2 E3 D3 E4 D4 E5 D5 E6 D6 E7 D7 HRN;go_wp2_with fail
    go_quiet (fail)
    go_wp2_with fail
    go_ret
    exact⟨rfl,HB1.out.on (HB.out.drewN _)⟩
   subst dm;go_wp2_with fail
   refine qh 27 (by kernel_rfl) (by kernel_rfl) ?_;simp only[List.take_succ_cons,List.take_zero,List.drop_succ_cons,List.drop_zero];repeat (go_big_quiet_step (exact (HC.out _ (Abw.bel _)).mono fun e w h=>⟨h.1,⟨_,(Abw.bel _).on h.2⟩,rfl⟩))
   refine wpQuiet_nil ?_;rintro w4 ⟨⟨w4,hb4⟩,rfl⟩;have HB4:=hid (HB.out.on hb4);clear hb4 X4 Y4 E0 D0 E1 D1 E2 D2 E3 D3 E4 D4 E5 D5 E6 D6 E7 D7 x4 y4 e0 d0 e1 d1 e2 d2 e3 d3 e4 d4 e5 d5 e6 d6 e7 d7;cases q
   ·have hr0:r=false:=by rw[HRN.out];simp
    subst hr0;go_wp2_with fail
    go_ret
    exact⟨rfl,HB1.out.on HB4.out⟩
   ·have HR':Hid (r=lsame Fd.same (fs.drop (j+1)) (fs2.drop (j+1))):=hid (by rw[HRN.out];simp)
    go_wp2_with fail
    go_roundw
    case rel=>exact⟨j+1,HLT.out,by go_num,HR',HB4⟩
    case measure=>have:=HLT.out;simp[intOf];omega
  ·obtain rfl:j=n:=by omega
   obtain rfl:r=true:=by rw[HRJ.out,List.drop_eq_nil_of_le (by rw[<- HL.out];exact Nat.le_refl _),List.drop_eq_nil_of_le (by rw[<- HL2.out];exact Nat.le_refl _)];rfl
   go_wp2_with fail
   go_ret
   exact⟨rfl,HB1.out.on HB.out⟩
end Go.Proofs.YtlmmaoobembadaaGreatDoor.Mu
