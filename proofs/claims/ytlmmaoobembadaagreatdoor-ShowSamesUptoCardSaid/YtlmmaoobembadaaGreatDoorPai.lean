import Derived.Deep.RegionLaw
import Derived.Lib.SliceRun
import Derived.RangeFuncNested
import Derived.RangeFuncBound
import Derived.RangeFuncCalls
import Derived.RangeFuncLeaves
import Derived.RangeFuncBox
import Derived.Deep.LoopGhost
import Derived.Test.YtlmmaoobembadaaGreatDoorPah
open Go.Lib (hid)
namespace Go.Proofs.YtlmmaoobembadaaGreatDoor.Mu
set_option maxHeartbeats 2000000
open Go Go.RowKit Go.Shelf
attribute [local go_sem] Oper.semAt_some
set_option linter.unusedVariables false
set_option maxRecDepth 100000
def zT(p:Prop):Prop:=p
theorem jd{p:Prop}(h:zT p):p:=h
theorem qdi:(Tryz.prog.info? 32).map (fun i=>(i.zero,i.size,i.bytes))=some (some (.agg #[.int .u8 0,.string ⟨#[]⟩,(0:Int),(0:Int),(0:Int),(0:Int),.slice none 0 0,.slice none 0 0]),8,104):=by kernel_rfl
theorem qfy:(Tryz.prog.info? 78).map (fun i=>(i.zero,i.size,i.bytes))=some (some (.agg #[.int .u8 0,.string ⟨#[]⟩,(0:Int),(0:Int),(0:Int),(0:Int),.slice none 0 0]),7,80):=by kernel_rfl
theorem qhf:(Tryz.prog.info? 59).map (fun i=>(i.zero,i.size,i.bytes))=some (some (.agg #[.int .u8 0,.string ⟨#[]⟩,.int .u8 0,(0:Int),(0:Int),(0:Int),.slice none 0 0]),7,80):=by kernel_rfl
def qhY(w:World)(Ok:Nat->Prop)(f:Tr)(e:Ending)(w':World):Prop:=
 ∃ A' c' vs,e=.returned (.slice A' f.len c')/\w'.ownsRow w.heap.size 32 8 (.slice A' f.len c') f.len vs/\Tells w Ok .ex f vs/\Bel w w'
theorem qbV(A:Option Addr)(n cap:Nat)(kids:Tr)(Ok:Nat->Prop)(w:World)(h:KidsTr w Ok .ex A n cap kids)(hOk:∀ j,Ok j->j<w.heap.size)(hn:n<=2000000) :
  Calls Tryz.prog 67 #[.slice A n cap] w (qhY w Ok kids):=by
 have q22:∀ (w:World) (a:Option Addr) (n c n' c':Nat),(binOp .eql 29 (.slice a n c) (.slice none n' c')).run Tryz.prog w=.ok (.bool a.isNone) w:=fun w a n c n' c'=>Lib.run_eql_slice_nil w _ _ a n c n' c' Tryz.underlying29;have H:=hid h;have HOK:=hid hOk;have HL:Hid (n=kids.len):=hid h.1;clear h hOk;rcases A with _ | a
 ·have hn0:n=0:=by
   rcases Nat.eq_zero_or_pos n with h' | h'
   ·exact h'
   ·obtain⟨_,_,e,_⟩:=H.out.2.2 h';cases e
  subst hn0;obtain rfl:=Tr.len_nil kids HL.out.symm;go_enter Tryz.func67,Tryz.ntmps67
  go_wp2
  go_ret
  exact⟨none,0,[],rfl,World.ownsRow_nil _ _ _ _,Tells.nil,Bel.refl _⟩
 ·obtain⟨i,hi,hz0,hz1,hz2⟩:=info_parts qdi
  obtain⟨vs,hvl,hvc⟩:∃ vs:List Value,Tells w Ok .ex kids vs/\(∀ j u,vs[j]?=some u->w.cell? (a.add j)=some u):=by
   rcases Nat.eq_zero_or_pos n with h0 | h0
   ·obtain rfl:=Tr.len_nil kids (by rw[<- HL.out];exact h0)
    exact⟨[],Tells.nil,fun j u hu=>(by simp at hu)⟩
   ·obtain⟨b,o,e,q1,q2⟩:=H.out.2.2 h0
    cases e
    obtain⟨vs,h1,h2⟩:=TrAt.tells (by intro e;cases e) kids b o q2;exact⟨vs,h1,fun j u hu=>by rw[Addr.add_lit];exact h2 j u hu⟩
  have HV:=hid (And.intro hvl hvc);have hlv:vs.length=n*8:=by rw[hvl.1,HL.out];rfl
  have HLV:=hid hlv;clear hvl hvc hlv;go_enter Tryz.func67,Tryz.ntmps67
  go_wp2_with (at_builtin;refine jd ?_)
  unfold zT;refine wpList_append_own _ rfl _ _ 29 rfl w.heap.size 32 i _ 8 104 Tryz.underlying29 hi hz0 hz1 hz2 rfl (by decide) (.slice (some ⟨w.heap.size,0,none⟩) 0 0) 0 [] rfl (World.ownsRow_made w #[] 0 (Nat.le_refl _) (Nat.zero_le _) (by simp)) a n cap vs rfl HLV.out (fun j u hu=>?_) HV.out.1.2.1 (by unfold maxLen;omega) (by omega) (by simp) ?_
  ·have:=HV.out.2 j u hu
   exact (((Bel.refl w).alloc _).cell (World.block_lt_of_cell? w _ this)).trans this
  ·intro v' w1 hown1 hg1 _
   obtain⟨A',c',rfl⟩:=jk hown1;have hb1:Bel w w1:=Below.grown ((Bel.refl w).alloc _) hg1 (by simp) (fun x hx=>by simp[Value.ownBlock]at hx;omega);have HB1:=hid hb1;have HO1:=hid hown1;clear hown1 hg1 hb1;go_wp2_with fail
   go_ret
   have h0:=HO1.out;rw[Nat.zero_add]at h0;have e:=HL.out;subst e;exact⟨A',c',vs,rfl,h0,HV.out.1,HB1.out⟩
theorem qc1{w:World}{b o:Nat}{k:Int}{s:List UInt8}{n:Int}{p:Pl}{kids e:Tr}{Ok:Nat->Prop}(h:TrAt w Ok (.arm k s n p kids e .nil) .arms b o) :
  ∃ A c k2 s2 n2 p2 kids2 arms2 A2 c2 B2 bc2,e=.nod k2 s2 n2 p2 kids2 arms2 .nil/\KidsTr w Ok .pat A kids.len c kids/\KidsTr w Ok .ex A2 kids2.len c2 kids2/\KidsTr w Ok .arms B2 arms2.len bc2 arms2 ∧
   w.cell? ⟨b,o,none⟩=some (.int .u8 k)/\w.cell? ⟨b,o+1,none⟩=some (.string ⟨s.toArray⟩)/\w.cell? ⟨b,o+2,none⟩=some (.int .i64 n)/\w.cell? ⟨b,o+3,none⟩=some (.int .i64 p.a)/\w.cell? ⟨b,o+4,none⟩=some (.int .i64 p.l)/\w.cell? ⟨b,o+5,none⟩=some (.int .i64 p.c)/\w.cell? ⟨b,o+6,none⟩=some (.slice A kids.len c) ∧
   w.cell? ⟨b,o+7,none⟩=some (.int .u8 k2)/\w.cell? ⟨b,o+8,none⟩=some (.string ⟨s2.toArray⟩)/\w.cell? ⟨b,o+9,none⟩=some (.int .i64 n2)/\w.cell? ⟨b,o+10,none⟩=some (.int .i64 p2.a)/\w.cell? ⟨b,o+11,none⟩=some (.int .i64 p2.l)/\w.cell? ⟨b,o+12,none⟩=some (.int .i64 p2.c)/\w.cell? ⟨b,o+13,none⟩=some (.slice A2 kids2.len c2)/\w.cell? ⟨b,o+14,none⟩=some (.slice B2 arms2.len bc2):=by
 obtain⟨_,⟨a0,a1,a2,a3,a4,a5⟩,⟨A,c,d1,d2,d3⟩,el,he,_⟩:=h;obtain⟨k2,s2,n2,p2,kids2,arms2,rfl⟩:=Tr.one_nod e el (TrAt.isNods (by intro e;cases e) e b _ he);obtain⟨A2,c2,B2,bc2,hc,hk,ha,_⟩:=he.parts;rcases ha with ⟨_,ha⟩ | ⟨e | e,_⟩
 ·exact⟨A,c,k2,s2,n2,p2,kids2,arms2,A2,c2,B2,bc2,rfl,⟨rfl,d2,d3⟩,hk,ha,a0,a1,a2,a3,a4,a5,d1,hc 0 _ rfl,hc 1 _ rfl,hc 2 _ rfl,hc 3 _ rfl,hc 4 _ rfl,hc 5 _ rfl,hc 6 _ rfl,hc 7 _ rfl⟩
 ·cases e
 ·cases e
theorem box8{w:World}{g:Nat}{t:TypeId}{x0 x1 x2 x3 x4 x5 x6 x7:Value}(h:w.heap[g]?=some (.cells #[x0,x1,x2,x3,x4,x5,x6,x7] t (0,0))) :
  w.cell? ⟨g,0,none⟩=some x0/\w.cell? ⟨g,1,none⟩=some x1/\w.cell? ⟨g,2,none⟩=some x2/\w.cell? ⟨g,3,none⟩=some x3/\w.cell? ⟨g,4,none⟩=some x4/\w.cell? ⟨g,5,none⟩=some x5/\w.cell? ⟨g,6,none⟩=some x6/\w.cell? ⟨g,7,none⟩=some x7:=by
 simp[World.cell?,h]
theorem box7{w:World}{g:Nat}{t:TypeId}{x0 x1 x2 x3 x4 x5 x6:Value}(h:w.heap[g]?=some (.cells #[x0,x1,x2,x3,x4,x5,x6] t (0,0))) :
  w.cell? ⟨g,0,none⟩=some x0/\w.cell? ⟨g,1,none⟩=some x1/\w.cell? ⟨g,2,none⟩=some x2/\w.cell? ⟨g,3,none⟩=some x3/\w.cell? ⟨g,4,none⟩=some x4/\w.cell? ⟨g,5,none⟩=some x5/\w.cell? ⟨g,6,none⟩=some x6:=by
 simp[World.cell?,h]
theorem zk(w:World)(xs:List Value)(t:TypeId):∀ j u,xs[j]?=some u->(w.alloc (.cells xs.toArray t)).cell? ⟨w.heap.size,j,none⟩=some u:=by
 intro j u hu;have h:=blk1 w (.cells xs.toArray t);unfold World.cell?
 simp only[h];simpa using hu
theorem zC(k:Int)(s:List UInt8)(n:Int)(p:Pl)(A:Option Addr)(c:Nat)(B:Option Addr)(bc:Nat)(kids arms:Tr)(Ok:Nat->Prop)(w:World)(hk:KidsTr w Ok .ex A kids.len c kids)(ha:KidsTr w Ok .arms B arms.len bc arms)(hOk:∀ j,Ok j->j<w.heap.size)(hn:kids.len<=1000000)(hm:arms.len<=1000000) :
  Calls Tryz.prog 28 #[.agg #[.int .u8 k,.string ⟨s.toArray⟩,n,p.a,p.l,p.c,.slice A kids.len c,.slice B arms.len bc]] w (jp w Ok .ex (kids.app arms.exs)):=by
 have HK:=hid hk;have HA:=hid ha;have HOK:=hid hOk;have HIA:=hid ha.isArms;obtain⟨kl,hkl⟩:∃ kl,kl=kids.len:=⟨_,rfl⟩
 obtain⟨al,hal⟩:∃ al,al=arms.len:=⟨_,rfl⟩
 have HKL:=hid hkl;have HAL:=hid hal;rw[<- hkl]at hn ⊢;rw[<- hal]at hm ⊢;clear hk ha hOk hkl hal;obtain⟨S,hS⟩:∃ S:ByteArray,S=⟨s.toArray⟩:=⟨_,rfl⟩
 rw[<- hS];clear hS;by_cases ha0:al=0
 ·subst ha0
  go_enter Tryz.func28,Tryz.ntmps28
  go_wp2_with fail
  go_ret
  obtain rfl:=Tr.len_nil arms HAL.out.symm;simp only[Tr.exs,Tr.app_nil];rw[HKL.out];have hb:Bel w (w.alloc (.cells #[.int .u8 k,S,n,p.a,p.l,p.c,.slice A kids.len c,.slice B 0 bc] 32)):=(Bel.refl w).alloc _;exact⟨A,c,rfl,hb,(HK.out.keep fun j hj=>hb.block j (HOK.out j hj)).wide fun j hj=> .inl hj⟩
 ·have e0:((al:Int)==0)=false:=by simp;omega
  obtain⟨i0,hi0,hz0,hz1,hz2⟩:=info_parts qdi;go_enter Tryz.func28,Tryz.ntmps28
  have hb1:Bel w (w.alloc (.cells #[.int .u8 k,S,n,p.a,p.l,p.c,.slice A kl c,.slice B al bc] 32)):=(Bel.refl w).alloc _;have hq1:=blk1 w (.cells #[.int .u8 k,S,n,p.a,p.l,p.c,.slice A kl c,.slice B al bc] 32);have HCL:Hid (∀ W,Bel w W->Calls Tryz.prog 67 #[.slice A kl c] W (qhY W Ok kids)):=hid fun W hW=>qbV A kl c kids Ok W (by rw[HKL.out];exact HK.out.keep fun j hj=>hW.block j (HOK.out j hj)) (fun j hj=>Nat.lt_of_lt_of_le (HOK.out j hj) hW.size) (by omega);have HB1:=hid hb1;have HQ1:=hid hq1;clear hb1 hq1;go_wp2_with fail
  refine (HCL.out _ HB1.out).mono ?_;rintro e w2 ⟨A',c',vs,rfl,hown,htell,hb2⟩;rw[<- HKL.out]at hown ⊢;have HQ2:=hid (hb2.blk HQ1.out);have HB2:=hid (HB1.out.on hb2);have HT0:=hid htell;have hsz:(w.alloc (.cells #[.int .u8 k,S,n,p.a,p.l,p.c,.slice A kl c,.slice B al bc] 32)).heap.size=w.heap.size+1:=by simp
  rw[hsz]at hown;have HO2:=hid hown;obtain⟨bx,hbx⟩:∃ bx,bx=w.heap.size:=⟨_,rfl⟩
  rw[<- hbx]at HQ2 HO2 ⊢;have HBX:=hid hbx;obtain⟨w1,hw1⟩:∃ w1,w1=w.alloc (.cells #[.int .u8 k,S,n,p.a,p.l,p.c,.slice A kl c,.slice B al bc] 32):=⟨_,rfl⟩
  rw[<- hw1]at hb2 HT0 HB1;have HT1:Hid (Tells w Ok .ex kids vs):=hid ⟨HT0.out.1,HT0.out.2.1,fun w' b' o' hc hkk=>HT0.out.2.2 w' b' o' hc fun j hj=>(hkk j hj).trans (HB1.out.block j (HOK.out j hj)).symm⟩;obtain⟨x0,x1,x2,x3,x4,x5,x6,x7⟩:=box8 HQ2.out;clear hown htell hb2 hsz hbx hw1 HT0 HB1 HCL;go_wp2_with fail
  go_loopw [3,18] (fun v i wr=>∃ (j m:Nat) (A3:Option Addr) (c3:Nat) (us:List Value),j<=al/\m=kl+j/\v=.slice A3 m c3/\i=.int .i64 (j:Int)/\Hid (wr.ownsRow (bx+1) 32 8 (.slice A3 m c3) m us)/\Hid (Tells w Ok .ex (kids.app (arms.exsN j)) us)/\Hid (Bel w wr)) (fun _ i _=>al-(intOf i).toNat)
  case atStart=>exact⟨0,kl,A',c',vs,Nat.zero_le _,rfl,rfl,rfl,HO2,(by rw[Tr.exsN_zero,Tr.app_nil];exact HT1),HB2⟩
  case round=>
   clear x0 x1 x2 x3 x4 x5 x6 x7 HT1 HO2;obtain⟨j,m,A3,c3,us,hj,hm3,rfl,rfl,HO,HT,HB⟩:=hrel;by_cases hlt:j<al
   ·obtain⟨ub,uo,eB,hob,hfo⟩:=HA.out.2.2 (by rw[<- HAL.out];omega)
    subst eB;obtain⟨k',s',n',p',kd,e',en,hd⟩:=TrAt.arm_at arms j ub uo hfo (by rw[<- HAL.out];exact hlt);obtain⟨A4,c4,k2,s2,n2,p2,kids2,arms2,A2,c2,B2,bc2,ee,hkd,hk2,ha2,y0,y1,y2,y3,y4,y5,y6,y7,y8,y9,y10,y11,y12,y13,y14⟩:=qc1 hd;subst ee;have HT3:Hid (Tells w Ok .ex (kids.app (arms.exsN (j+1))) (us++nodV .ex k2 s2 n2 p2 A2 kids2.len c2 B2 arms2.len bc2)):=hid (by
     rw[Tr.exsN_succ arms j HIA.out en,<- Tr.app_assoc];exact HT.out.app (Tells.one (by intro e;cases e) hk2 (.inl ⟨rfl,ha2⟩)))
    have hc:=(Bel.cells HB.out).1;have hob':=HOK.out ub hob;have z0:=(hc ub _ hob').trans y0;have z1:=(hc ub _ hob').trans y1;have z2:=(hc ub _ hob').trans y2;have z3:=(hc ub _ hob').trans y3;have z4:=(hc ub _ hob').trans y4;have z5:=(hc ub _ hob').trans y5;have z6:=(hc ub _ hob').trans y6;have z7:=(hc ub _ hob').trans y7;have z8:=(hc ub _ hob').trans y8;have z9:=(hc ub _ hob').trans y9;have z10:=(hc ub _ hob').trans y10;have z11:=(hc ub _ hob').trans y11;have z12:=(hc ub _ hob').trans y12;have z13:=(hc ub _ hob').trans y13;have z14:=(hc ub _ hob').trans y14;obtain⟨l1,hl1⟩:∃ l,l=kids2.len:=⟨_,rfl⟩
    obtain⟨l2,hl2⟩:∃ l,l=arms2.len:=⟨_,rfl⟩
    obtain⟨l3,hl3⟩:∃ l,l=kd.len:=⟨_,rfl⟩
    rw[<- hl1]at z13 HT3;rw[<- hl2]at z14 HT3;rw[<- hl3]at z6;obtain⟨T,hT⟩:∃ S:ByteArray,S=⟨s'.toArray⟩:=⟨_,rfl⟩
    obtain⟨T2,hT2⟩:∃ S:ByteArray,S=⟨s2.toArray⟩:=⟨_,rfl⟩
    rw[<- hT]at z1;rw[<- hT2]at z8;have HT4:Hid (Tells w Ok .ex (kids.app (arms.exsN (j+1))) (us++[.int .u8 k2,.string T2,.int .i64 n2,.int .i64 p2.a,.int .i64 p2.l,.int .i64 p2.c,.slice A2 l1 c2,.slice B2 l2 bc2])):=hid (by rw[hT2];exact HT3.out);have i1:(0:Int)<=(j:Int):=by omega
    have i2:(j:Int)<(al:Int):=by omega
    have hub:ub<wr.heap.size:=Nat.lt_of_lt_of_le hob' HB.out.size;clear y0 y1 y2 y3 y4 y5 y6 y7 y8 y9 y10 y11 y12 y13 y14 hc hd hfo en hkd hk2 ha2 HT3 hl1 hl2 hl3 hT hT2 HT hob';go_wp2_with (at_builtin;refine jd ?_)
    unfold zT;refine wpList_append_own_at _ rfl _ _ 29 rfl (bx+1) 32 i0 _ 8 104 Tryz.underlying29 hi0 hz0 hz1 hz2 rfl (by decide) (.slice A3 m c3) m _ rfl ((HO.out.alloc _).alloc _) ⟨wr.heap.size+1,0,none⟩ 1 1 [.int .u8 k2,T2,n2,p2.a,p2.l,p2.c,.slice A2 l1 c2,.slice B2 l2 bc2] rfl rfl (fun j u hu=>by
     rw[Addr.add_lit,Nat.zero_add];have h:=zk (wr.alloc (.cells #[.int .u8 k',T,n',p'.a,p'.l,p'.c,.slice A4 l3 c4,.int .u8 k2,T2,n2,p2.a,p2.l,p2.c,.slice A2 l1 c2,.slice B2 l2 bc2] 80)) _ 32 j u hu;rw[World.size_alloc]at h;exact h) (by simp[Value.oneCell']) (by unfold maxLen;omega) (by omega) (by simp;have:=HBX.out;have:=HB.out.size;omega) ?_
    intro v' w5 hown5 hg5 _ hat5;obtain⟨g5,c5,rfl⟩:=zN hown5;have hb5:Bel w w5:=Below.grown ((HB.out.alloc _).alloc _) hg5 (by simp;have:=HB.out.size;omega) (fun x hx=>by have h:=(HO.out.lt x hx).1;have:=HBX.out;omega);have HB5:=hid hb5;have HO5:=hid hown5;have HLT:=hid hlt;clear hown5 hg5 hat5 hb5 z0 z1 z2 z3 z4 z5 z6 z7 z8 z9 z10 z11 z12 z13 z14 HO HB;go_wp2_with fail
    go_roundw
    case rel=>exact⟨j+1,m+1,_,c5,_,HLT.out,by omega,(by rw[hm3]),by go_num,HO5,HT4,HB5⟩
    case measure=>have:=HLT.out;simp[intOf];omega
   ·obtain rfl:j=al:=by omega
    go_wp2_with fail
    go_ret
    have hl:m=(kids.app arms.exs).len:=by rw[hm3,Tr.app_len,Tr.exs_len arms HIA.out,HKL.out,HAL.out]
    have ht:=HT.out;rw[HAL.out,Tr.exsN_all arms HIA.out]at ht;have ho:=HO.out;rw[hl]at ho ⊢;exact⟨A3,c3,rfl,HB.out,ht.row HB.out HOK.out (by have:=HBX.out;omega) ho⟩
theorem zD(k:Int)(s:List UInt8)(n:Int)(p:Pl)(A:Option Addr)(c:Nat)(B:Option Addr)(bc:Nat)(kids arms:Tr)(Ok:Nat->Prop)(w:World)(hk:KidsTr w Ok .ex A kids.len c kids)(ha:KidsTr w Ok .arms B arms.len bc arms)(hOk:∀ j,Ok j->j<w.heap.size)(hn:kids.len<=1000000)(hm:arms.len<=1000000) :
  Calls Tryz.prog 69 #[.agg #[.int .u8 k,.string ⟨s.toArray⟩,n,p.a,p.l,p.c,.slice A kids.len c,.slice B arms.len bc]] w (jp w Ok .pat arms.pats):=by
 have HK:=hid hk;have HA:=hid ha;have HOK:=hid hOk;have HIA:=hid ha.isArms;obtain⟨kl,hkl⟩:∃ kl,kl=kids.len:=⟨_,rfl⟩
 obtain⟨al,hal⟩:∃ al,al=arms.len:=⟨_,rfl⟩
 have HKL:=hid hkl;have HAL:=hid hal;rw[<- hkl]at hn ⊢;rw[<- hal]at hm ⊢;clear hk ha hOk hkl hal;obtain⟨S,hS⟩:∃ S:ByteArray,S=⟨s.toArray⟩:=⟨_,rfl⟩
 rw[<- hS];clear hS;obtain⟨i0,hi0,hz0,hz1,hz2⟩:=info_parts qfy;have hb1:Bel w (w.alloc (.cells #[.int .u8 k,S,n,p.a,p.l,p.c,.slice A kl c,.slice B al bc] 32)):=(Bel.refl w).alloc _;have hsz:(w.alloc (.cells #[.int .u8 k,S,n,p.a,p.l,p.c,.slice A kl c,.slice B al bc] 32)).heap.size=w.heap.size+1:=by simp
 have HB1:=hid hb1;have HSZ:=hid hsz;clear hb1 hsz;go_enter Tryz.func69,Tryz.ntmps69
 go_wp2_with fail
 obtain⟨bx,hbx⟩:∃ bx,bx=w.heap.size:=⟨_,rfl⟩
 have HBX:=hid hbx;clear hbx;go_loopw [3,9] (fun v i wr=>∃ (j m:Nat) (A3:Option Addr) (c3:Nat) (us:List Value),j<=al/\m=j/\v=.slice A3 m c3/\i=.int .i64 (j:Int)/\Hid (wr.ownsRow (bx+1) 78 7 (.slice A3 m c3) m us)/\Hid (Tells w Ok .pat (arms.patsN j) us)/\Hid (Bel w wr)/\Hid (w.heap.size+1<=wr.heap.size)) (fun _ i _=>al-(intOf i).toNat)
 case atStart=>exact⟨0,0,none,0,[],Nat.zero_le _,rfl,rfl,rfl,hid (World.ownsRow_nil _ _ _ _),hid (by rw[Tr.patsN_zero];exact Tells.nil),HB1,hid (by rw[HSZ.out];exact Nat.le_refl _)⟩
 case round=>
  obtain⟨j,m,A3,c3,us,hj,hm3,rfl,rfl,HO,HT,HB,HSB⟩:=hrel;by_cases hlt:j<al
  ·obtain⟨ub,uo,eB,hob,hfo⟩:=HA.out.2.2 (by rw[<- HAL.out];omega)
   subst eB;obtain⟨k',s',n',p',kd,e',en,hd⟩:=TrAt.arm_at arms j ub uo hfo (by rw[<- HAL.out];exact hlt);obtain⟨A4,c4,k2,s2,n2,p2,kids2,arms2,A2,c2,B2,bc2,ee,hkd,hk2,ha2,y0,y1,y2,y3,y4,y5,y6,y7,y8,y9,y10,y11,y12,y13,y14⟩:=qc1 hd;subst ee;have HT3:Hid (Tells w Ok .pat (arms.patsN (j+1)) (us++nodV .pat k' s' n' p' A4 kd.len c4 none 0 0)):=hid (by
    rw[Tr.patsN_succ arms j HIA.out en];exact HT.out.app (Tells.one (by intro e;cases e) hkd (.inr ⟨.inl rfl,rfl⟩)))
   have hc:=(Bel.cells HB.out).1;have hob':=HOK.out ub hob;have z0:=(hc ub _ hob').trans y0;have z1:=(hc ub _ hob').trans y1;have z2:=(hc ub _ hob').trans y2;have z3:=(hc ub _ hob').trans y3;have z4:=(hc ub _ hob').trans y4;have z5:=(hc ub _ hob').trans y5;have z6:=(hc ub _ hob').trans y6;have z7:=(hc ub _ hob').trans y7;have z8:=(hc ub _ hob').trans y8;have z9:=(hc ub _ hob').trans y9;have z10:=(hc ub _ hob').trans y10;have z11:=(hc ub _ hob').trans y11;have z12:=(hc ub _ hob').trans y12;have z13:=(hc ub _ hob').trans y13;have z14:=(hc ub _ hob').trans y14;obtain⟨l1,hl1⟩:∃ l,l=kids2.len:=⟨_,rfl⟩
   obtain⟨l2,hl2⟩:∃ l,l=arms2.len:=⟨_,rfl⟩
   obtain⟨l3,hl3⟩:∃ l,l=kd.len:=⟨_,rfl⟩
   rw[<- hl1]at z13;rw[<- hl2]at z14;rw[<- hl3]at z6 HT3;obtain⟨T,hT⟩:∃ S:ByteArray,S=⟨s'.toArray⟩:=⟨_,rfl⟩
   obtain⟨T2,hT2⟩:∃ S:ByteArray,S=⟨s2.toArray⟩:=⟨_,rfl⟩
   rw[<- hT]at z1;rw[<- hT2]at z8;have HT4:Hid (Tells w Ok .pat (arms.patsN (j+1)) (us++[.int .u8 k',.string T,.int .i64 n',.int .i64 p'.a,.int .i64 p'.l,.int .i64 p'.c,.slice A4 l3 c4])):=hid (by rw[hT];exact HT3.out);have i1:(0:Int)<=(j:Int):=by omega
   have i2:(j:Int)<(al:Int):=by omega
   have hub:ub<wr.heap.size:=Nat.lt_of_lt_of_le hob' HB.out.size;clear y0 y1 y2 y3 y4 y5 y6 y7 y8 y9 y10 y11 y12 y13 y14 hc hd hfo en hkd hk2 ha2 HT3 hl1 hl2 hl3 hT hT2 HT hob';go_wp2_with (at_builtin;refine jd ?_)
   unfold zT;refine wpList_append_own_at _ rfl _ _ 76 rfl (bx+1) 78 i0 _ 7 80 Tryz.underlying76 hi0 hz0 hz1 hz2 rfl (by decide) (.slice A3 m c3) m _ rfl ((HO.out.alloc _).alloc _) ⟨wr.heap.size+1,0,none⟩ 1 1 [.int .u8 k',T,n',p'.a,p'.l,p'.c,.slice A4 l3 c4] rfl rfl (fun j u hu=>by
    rw[Addr.add_lit,Nat.zero_add];have h:=zk (wr.alloc (.cells #[.int .u8 k',T,n',p'.a,p'.l,p'.c,.slice A4 l3 c4,.int .u8 k2,T2,n2,p2.a,p2.l,p2.c,.slice A2 l1 c2,.slice B2 l2 bc2] 80)) _ 78 j u hu;rw[World.size_alloc]at h;exact h) (by simp[Value.oneCell']) (by unfold maxLen;omega) (by omega) (by simp;have:=HBX.out;have:=HB.out.size;have:=HSB.out;omega) ?_
   intro v' w5 hown5 hg5 _ hat5;obtain⟨g5,c5,rfl⟩:=zN hown5;have hb5:Bel w w5:=Below.grown ((HB.out.alloc _).alloc _) hg5 (by simp;have:=HB.out.size;omega) (fun x hx=>by have h:=(HO.out.lt x hx).1;have:=HBX.out;omega);have HB5:=hid hb5;have HSB5:Hid (w.heap.size+1<=w5.heap.size):=hid (by have h:=hg5.size;simp at h;have:=HSB.out;omega);have HO5:=hid hown5;have HLT:=hid hlt;clear hown5 hg5 hat5 hb5 z0 z1 z2 z3 z4 z5 z6 z7 z8 z9 z10 z11 z12 z13 z14 HO HB;go_wp2_with fail
   go_roundw
   case rel=>exact⟨j+1,m+1,_,c5,_,HLT.out,by omega,(by rw[hm3]),by go_num,HO5,HT4,HB5,HSB5⟩
   case measure=>have:=HLT.out;simp[intOf];omega
  ·obtain rfl:j=al:=by omega
   go_wp2_with fail
   go_ret
   have hl:m=arms.pats.len:=by rw[hm3,Tr.pats_len arms HIA.out,HAL.out]
   have ht:=HT.out;rw[HAL.out,Tr.patsN_all arms HIA.out]at ht;have ho:=HO.out;rw[hl]at ho ⊢;exact⟨A3,c3,rfl,HB.out,ht.row HB.out HOK.out (by have:=HBX.out;omega) ho⟩
theorem zS(k:Int)(s:List UInt8)(n:Int)(p:Pl)(A:Option Addr)(l c:Nat)(w:World):Calls Tryz.prog 70 #[.agg #[.int .u8 k,.string ⟨s.toArray⟩,n,p.a,p.l,p.c,.slice A l c]] w fun e w'=>e=.returned (.slice A l c)/\Bel w w':=by
 go_enter Tryz.func70,Tryz.ntmps70
 go_wp2
 go_ret
 exact⟨rfl,(Bel.refl w).alloc _⟩
theorem jn(k:Int)(s:List UInt8)(n:Int)(p:Pl)(A:Option Addr)(l c:Nat)(w:World):Calls Tryz.prog 32 #[.agg #[.int .u8 k,.string ⟨s.toArray⟩,.int .u8 n,p.a,p.l,p.c,.slice A l c]] w fun e w'=>e=.returned (.slice A l c)/\Bel w w':=by
 go_enter Tryz.func32,Tryz.ntmps32
 go_wp2
 go_ret
 exact⟨rfl,(Bel.refl w).alloc _⟩
end Go.Proofs.YtlmmaoobembadaaGreatDoor.Mu
namespace Go.Proofs.YtlmmaoobembadaaGreatDoor.Mu
open Go Go.RowKit
structure Mv (Z:Nat->Prop) (W W':World):Prop where
 os:W'.os=W.os
 tape:W'.tape=W.tape
 output:W'.output=W.output
 size:W.heap.size<=W'.heap.size
 block:∀ k,k<W.heap.size->¬ Z k->W'.heap[k]?=W.heap[k]?
section
variable {Z Z' : Nat -> Prop} {A B C : World}
theorem Mv.refl(Z:Nat->Prop)(W:World):Mv Z W W:=⟨rfl,rfl,rfl,Nat.le_refl _,fun _ _ _=>rfl⟩
theorem Mv.more(h:Mv Z A B)(hz:∀ k,k<A.heap.size->Z k->Z' k):Mv Z' A B:=⟨h.os,h.tape,h.output,h.size,fun k hk hn=>h.block k hk (fun hz'=>hn (hz k hk hz'))⟩
theorem Mv.trans(h:Mv Z A B)(k:Mv Z' B C)(hz:∀ j,Z' j->Z j∨A.heap.size<=j):Mv Z A C:=
 ⟨k.os.trans h.os,k.tape.trans h.tape,k.output.trans h.output,Nat.le_trans h.size k.size,fun j hj hn=>
  (k.block j (Nat.lt_of_lt_of_le hj h.size) (fun hz'=>by rcases hz j hz' with e | e;exact hn e;omega)).trans (h.block j hj hn)⟩
theorem Mv.bel(h:Mv (fun _=>False) A B):Bel A B:=⟨h.os,h.tape,h.output,h.size,fun k hk=>h.block k hk (fun f=>f)⟩
theorem Mv.of_bel(h:Bel A B):Mv Z A B:=⟨h.os,h.tape,h.output,h.size,fun k hk _=>h.block k hk⟩
theorem Mv.alloc(h:Mv Z A B)(o:Obj):Mv Z A (B.alloc o):=h.trans (Z':=fun _=>False) (.of_bel ((Bel.refl B).alloc o)) (fun _ f=>f.elim)
theorem Mv.set_(h:Mv Z A B){p:Addr}(hp:Z p.block∨A.heap.size<=p.block)(v:Value):Mv Z A (B.setCell p v):=
 ⟨h.os,h.tape,h.output,by have:=h.size;simpa [World.setCell] using this,fun k hk hn=>(Below.heap_setCell B p v k (by
  rintro rfl;rcases hp with hp | hp
  ·exact hn hp
  ·omega)).trans (h.block k hk hn)⟩
theorem Mv.putObj(h:Mv Z A B){l:Nat}(hp:Z l∨A.heap.size<=l)(o:Obj):Mv Z A (B.putObj l o):=
 ⟨h.os,h.tape,h.output,by have:=h.size;simpa using this,fun k hk hn=>(World.putObj_heap_other (by
  rintro rfl;rcases hp with hp | hp
  ·exact hn hp
  ·omega)).trans (h.block k hk hn)⟩
theorem Mv.grown(h:Mv Z A B){row:Option Nat}(hg:B.grownBy C row)(hr:∀ k,row=some k->Z k∨A.heap.size<=k):Mv Z A C:=
 ⟨hg.os.trans h.os,hg.tape.trans h.tape,hg.output.trans h.output,Nat.le_trans h.size hg.size,fun k hk hn=>
  (hg.block k (Nat.lt_of_lt_of_le hk h.size) (fun e=>by
   rcases hr k e.symm with e | e
   ·exact hn e
   ·omega)).trans (h.block k hk hn)⟩
theorem Mv.drew(h:Mv Z A B):Mv Z A B.drew:=⟨h.os,h.tape,h.output,h.size,h.block⟩
theorem Mv.drewN(h:Mv Z A B)(n:Nat):Mv Z A (B.drewN n):=⟨h.os,h.tape,h.output,h.size,h.block⟩
end
def Zx{α:Type}(J:α->(Nat->Prop)->World->Prop):Prop:=∀ s Y W W',J s Y W->W.heap.size<=W'.heap.size->(∀ k,Y k->W'.heap[k]?=W.heap[k]?)->J s Y W'
def SeqL{α:Type}(P:Program)(g:Nat)(lb:Array Value)(encs:α->Array Value)(Ok:(Nat->Prop)->World->Prop)(Pre:List α->α->(Nat->Prop)->World->Prop)(Fin:List α->Prop):Prop:=
 ∀ (l:Nat) (J Jx:List α->(Nat->Prop)->World->Prop) (Y:Nat->Prop) (W:World),Ok Y W->(∀ k,Y k->k<W.heap.size)->Zx J->Zx Jx →
  (∀ pre x Y1 W1,Pre pre x Y1 W1->Mv Y W W1->J pre Y1 W1->(∀ k,Y1 k->k<W1.heap.size)->YieldAt Fence.wide 5 P l (encs x) W1 fun e W'=>
   Mv Y1 W1 W'/\∃ Y',(∀ k,Y' k->k<W'.heap.size/\(Y1 k∨W1.heap.size<=k))/\((e=.returned (.bool true)/\J (pre++[x]) Y' W')∨(e=.returned (.bool false)/\Jx (pre++[x]) Y' W'))) →
  J [] Y W →
  Calls P g (#[.func (.yield l) #[] #[]]++lb) W fun e W'=>(∃ v,e=.returned v)/\Mv Y W W'/\∃ xs Y',(∀ k,Y' k->k<W'.heap.size/\(Y k∨W.heap.size<=k))/\((Fin xs/\J xs Y' W')∨Jx xs Y' W')
section
variable {P : Program}
def qcU(R Rx:World->Prop):Exit->Act->World->Prop
 | .normal,_,W'=>R W'
 | .ret,_,W'=>Rx W'
 | _,_,_=>False
def mkM(D:Nat):Deferred:={ target:= .collected D,args:=#[] }
theorem zp{α:Type}{g:Operand}{ps:Array Tmp}{assign body:Code}{Q:Exit->Act->World->Prop}{a:Act}{w:World}
  {gf:Nat} {lb:Array Value} (hg:a.eval g=.func (.func gf) #[] lb) (eg:∀ args w,(callFunc gf args).run P w=.ok (.enter gf args) w)
  {encs:α->Array Value} {Ok:(Nat->Prop)->World->Prop} {Pre:List α->α->(Nat->Prop)->World->Prop} {Fin:List α->Prop} (hseq:SeqL P gf lb encs Ok Pre Fin) (hps:∀ x,(encs x).size=ps.size)
  (hPre:∀ pre x Y W W',Pre pre x Y W->W.heap.size<=W'.heap.size->(∀ j,j<W.heap.size->¬ Y j->W'.heap[j]?=W.heap[j]?)->Pre pre x Y W')
  (I Ix:List α->(Nat->Prop)->World->Prop) (hI:Zx I) (hIx:Zx Ix) {Y0:Nat->Prop} (hok:∀ Y W,Bel w W->(∀ k,Y k->Y0 k∨w.heap.size<=k)->Ok Y W) (hY0:∀ k,Y0 k->k<w.heap.size) (h0:I [] Y0 w) (a₁:α->Nat->Act) (ob:α->Obj)
  (hassign:∀ (l:Nat) (x:α) (W:World) (K:Act->World->Prop),K (a₁ x W.heap.size) (W.alloc (ob x))->assign.wpIn (Fence.wide.inRound l) 5 P (Exit.then K (fun _ _ _=>False)) { tmps:=(ps.zip (encs x)).foldl (fun t (p,v)=>t.setIfInBounds p v) a.tmps,defers:=[] } W)
  (hbody:∀ (l bx:Nat) (pre:List α) (x:α) (Y:Nat->Prop) (W:World),w.heap.size<=bx->bx<W.heap.size->W.heap[bx]?=some (ob x)->¬ Y bx->(∃ Y',(∀ k,Y k->Y' k)/\Pre pre x Y' W)->Mv Y0 w W->¬ Y l->I pre Y W->(∀ k,Y k->k<W.heap.size) →
   body.wpIn (Fence.wide.inRound l) 5 P (qcU (fun W'=>Mv Y W W'/\∃ Y',I (pre++[x]) Y' W'/\∀ k,Y' k->k<W'.heap.size/\(Y k∨W.heap.size<=k)) (fun W'=>Mv Y W W'/\∃ Y',Ix (pre++[x]) Y' W'/\∀ k,Y' k->k<W'.heap.size/\(Y k∨W.heap.size<=k))) (a₁ x bx) W)
  (hdone:∀ (D:Nat) (xs:List α) (Y:Nat->Prop) (W:World),w.heap.size<=D->Fin xs->I xs Y W->Mv Y0 w W->(∀ k,Y k->k<W.heap.size/\(Y0 k∨w.heap.size<=k))->W.heap[D]?=some (.deferred (some []))->¬ Y D->Q .normal { a with defers:=mkM D::a.defers } W)
  (hstop:∀ (D:Nat) (xs:List α) (Y:Nat->Prop) (W:World),w.heap.size<=D->Ix xs Y W->Mv Y0 w W->(∀ k,Y k->k<W.heap.size/\(Y0 k∨w.heap.size<=k))->W.heap[D]?=some (.deferred (some []))->¬ Y D->Q .ret { a with defers:=mkM D::a.defers } W) :
  (Code.rangeFunc g ps assign body).wpIn Fence.wide 6 P Q a w:=by
 refine wpIn_rangeFunc ?_;intro fn hfn;obtain⟨l,hl⟩:∃ l,l=w.heap.size+1:=⟨_,rfl⟩
 obtain⟨D,hD⟩:∃ D,D=w.heap.size:=⟨_,rfl⟩
 obtain⟨rec,hrec⟩:∃ rec:LoopState->Option Code->Loop,rec=fun st pe=>{ state:=st,pending:=pe,fn,tmps:=a.tmps,params:=ps,assign,body,defers:=w.heap.size }:=⟨_,rfl⟩
 obtain⟨V,hV⟩:∃ V,(w.alloc (.deferred (some []))).alloc (.loop (rec .ready none))=V:=⟨_,rfl⟩
 have hL':V.heap[l]?=some (.loop (rec .ready none)):=by
  rw[<- hV,hl];have:=World.alloc_heap_new (w.alloc (.deferred (some []))) (.loop (rec .ready none));rwa [World.size_alloc]at this
 have hD':V.heap[D]?=some (.deferred (some [])):=by
  rw[<- hV,hD];exact (Below.heap_alloc _ _ _ (by simp)).trans (World.alloc_heap_new w _)
 have hb:Bel w V:=by rw[<- hV];exact ((Bel.refl w).alloc _).alloc _
 have hDl:D≠l:=by omega
 obtain⟨J,hJ⟩:∃ J:List α->(Nat->Prop)->World->Prop,J=fun pre Y W=>∃ Z:Nat->Prop,(∀ k,Y k↔(Z k∨k=l∨k=D))/\(∀ k,Z k->k≠l/\k≠D)/\I pre Z W/\W.heap[l]?=some (.loop (rec .ready none))/\W.heap[D]?=some (.deferred (some [])):=⟨_,rfl⟩
 obtain⟨Jx,hJx⟩:∃ J:List α->(Nat->Prop)->World->Prop,J=fun pre Y W=>∃ Z:Nat->Prop,(∀ k,Y k↔(Z k∨k=l∨k=D))/\(∀ k,Z k->k≠l/\k≠D)/\Ix pre Z W/\W.heap[l]?=some (.loop (rec .done (some .ret)))/\W.heap[D]?=some (.deferred (some [])):=⟨_,rfl⟩
 refine⟨l,[mkM D],V,{ target:= .fn (.func gf) lb,args:=#[.func (.yield l) #[] #[]] },V,gf,#[.func (.yield l) #[] #[]]++lb,V,?_,?_,?_,?_,(fun h=>by cases h),?_⟩
 ·rw[<- hV,hrec,hl,hD];exact run_enterLoop_outer _ _ _ _ _
 ·simp only[resolve,hg]
  simp[go_sem]
 ·intro f' hf';exact trivial
 ·simp[invoke,go_sem,eg]
 ·have hlV:l<V.heap.size:=(Array.getElem?_eq_some_iff.1 hL').1
  have hDV:D<V.heap.size:=(Array.getElem?_eq_some_iff.1 hD').1;refine callsIn_wide.2 ((hseq l J Jx (fun k=>Y0 k∨k=l∨k=D) V (hok _ _ hb ?_) ?_ ?_ ?_ ?_ ?_).mono ?_)
  ·rintro k (h | h | h)
   ·exact .inl h
   ·exact .inr (by omega)
   ·exact .inr (by omega)
  ·rintro k (h | rfl | rfl)
   ·exact Nat.lt_of_lt_of_le (hY0 k h) hb.size
   ·exact hlV
   ·exact hDV
  ·rw[hJ]
   rintro s Y A B ⟨Z,z1,z2,z3,z4,z5⟩ hsz hk;exact⟨Z,z1,z2,hI s Z A B z3 hsz (fun k hz=>hk k ((z1 k).2 (.inl hz))),(hk l ((z1 l).2 (.inr (.inl rfl)))).trans z4,(hk D ((z1 D).2 (.inr (.inr rfl)))).trans z5⟩
  ·rw[hJx]
   rintro s Y A B ⟨Z,z1,z2,z3,z4,z5⟩ hsz hk;exact⟨Z,z1,z2,hIx s Z A B z3 hsz (fun k hz=>hk k ((z1 k).2 (.inl hz))),(hk l ((z1 l).2 (.inr (.inl rfl)))).trans z4,(hk D ((z1 D).2 (.inr (.inr rfl)))).trans z5⟩
  · --one round
   rw[hJ,hJx];rintro pre x Y W hp hmv0 ⟨Z,z1,z2,z3,z4,z5⟩ hYs;have hlt:l<W.heap.size:=(Array.getElem?_eq_some_iff.1 z4).1;have hDt:D<W.heap.size:=(Array.getElem?_eq_some_iff.1 z5).1;have hy:=run_yield (P:=P) (args:=encs x) z4 (by rw[hrec];exact hps x);rw[hrec]at hy;refine⟨fn,_,assign,body,hy,roundIn_of_wpIn hfn (hassign _ x W _ ?_)⟩;clear hy;obtain⟨Wo,hWo⟩:∃ Wo,Wo=W:=⟨_,rfl⟩
   rw[<- hWo]at hp hmv0 z3 z4 z5 hYs hlt hDt ⊢;clear hWo;clear W;obtain⟨W,hW⟩:∃ W,W=Wo.alloc (ob x):=⟨_,rfl⟩
   rw[<- hW];have bo:Bel Wo W:=by rw[hW];exact (Bel.refl Wo).alloc _
   have so:W.heap.size=Wo.heap.size+1:=by rw[hW];simp
   have z3':I pre Z W:=hI _ _ _ _ z3 bo.size (fun k hz=>bo.block k (hYs k ((z1 k).2 (.inl hz))));have z4':=(bo.block l hlt).trans z4;have z5':=(bo.block D hDt).trans z5;have zb:W.heap[Wo.heap.size]?=some (ob x):=by rw[hW];exact World.alloc_heap_new Wo _
   have hYb:∀ k,Y k->k<Wo.heap.size:=hYs;have hp':Pre pre x Y W:=hPre _ _ _ _ _ hp bo.size (fun j hj _=>bo.block j hj);obtain⟨bx,hbx⟩:∃ bx,bx=Wo.heap.size:=⟨_,rfl⟩
   rw[<- hbx]at hYb so zb ⊢;have hYs':∀ k,Y k->k<W.heap.size:=fun k hk=>by have:=hYb k hk;omega
   clear hp z3 z4 z5 hYs hlt hDt;have hlt:l<W.heap.size:=(Array.getElem?_eq_some_iff.1 z4').1;have hDt:D<W.heap.size:=(Array.getElem?_eq_some_iff.1 z5').1;refine⟨_,run_beginRound z4' (by rw[hrec]),?_⟩;obtain⟨W2,hW2⟩:∃ W2,W2=W.putObj l (.loop { rec .ready none with state:= .busy }):=⟨_,rfl⟩
   rw[<- hW2];have l2:W2.heap[l]?=some (.loop { rec .ready none with state:= .busy }):=by rw[hW2];exact World.putObj_heap_same hlt
   have s2:W2.heap.size=W.heap.size:=by rw[hW2];simp
   have o2:∀ k,k≠l->W2.heap[k]?=W.heap[k]?:=fun k hk=>by rw[hW2];exact World.putObj_heap_other hk
   have hm2:Mv Y0 w W2:=by
    have m1:Mv Y0 w V:= .of_bel hb;have m2:Mv Y0 w Wo:=m1.trans hmv0 (fun k hk=>by
     rcases hk with h | h | h
     ·exact .inl h
     ·exact .inr (by omega)
     ·exact .inr (by omega))
    have m3:Mv Y0 w W:=m2.trans (Mv.of_bel (Z:=fun _=>False) bo) (fun _ h=>h.elim);rw[hW2];exact m3.putObj (.inr (by omega)) _
   refine wpIn_mono (hbody l bx pre x Z W2 (by have:=hYb l ((z1 l).2 (.inr (.inl rfl)));omega) (by rw[s2];omega) ((o2 bx (by have:=hYb l ((z1 l).2 (.inr (.inl rfl)));omega)).trans zb) (fun hz=>by have:=hYb bx ((z1 bx).2 (.inl hz));omega) ⟨Y,fun k hk=>(z1 k).2 (.inl hk),hPre _ _ _ _ _ hp' (by omega) (fun j hj hn=>o2 j (fun e=>hn ((z1 j).2 (.inr (.inl e)))))⟩ hm2 (fun hz=>(z2 l hz).1 rfl) (hI _ _ _ _ z3' (by omega) (fun k hz=>o2 k (z2 k hz).1)) (fun k hz=>by rw[s2];exact hYs' k ((z1 k).2 (.inl hz)))) ?_;have fin:∀ (jump:Option Code) (st:LoopState) (W3:World) (Y':Nat->Prop),st=(if jump.isNone then .ready else .done)->Mv Z W2 W3->(∀ k,Y' k->k<W3.heap.size/\(Z k∨W2.heap.size<=k))->∃ W4,(Instr.endRound l jump).run P W3=.ok (.bool jump.isNone) W4/\Mv Y Wo W4/\W3.heap.size<=W4.heap.size/\(∀ k,k≠l->W4.heap[k]?=W3.heap[k]?)/\W4.heap[l]?=some (.loop (rec st jump))/\W4.heap[D]?=some (.deferred (some []))/\(∀ k,Y' k->k≠l/\k≠D)/\∀ k,(Y' k∨k=l∨k=D)->k<W4.heap.size/\(Y k∨bx<=k):=by
    intro jump st W3 Y' hst hmv hy3;have l3:W3.heap[l]?=some (.loop { rec .ready none with state:= .busy }):=(hmv.block l (by omega) (fun hz=>(z2 l hz).1 rfl)).trans l2;have d3:W3.heap[D]?=some (.deferred (some [])):=(hmv.block D (by omega) (fun hz=>(z2 D hz).2 rfl)).trans ((o2 D hDl).trans z5');have hr:=run_endRound (P:=P) jump l3;rw[hrec]at hr;have hl3:l<W3.heap.size:=(Array.getElem?_eq_some_iff.1 l3).1;have hd3:D<W3.heap.size:=(Array.getElem?_eq_some_iff.1 d3).1;have hnl:∀ k,Y' k->k≠l/\k≠D:=fun k hk=>by
     rcases (hy3 k hk).2 with h | h
     ·exact z2 k h
     ·exact⟨by omega,by omega⟩
    refine⟨W3.putObj l (.loop (rec st jump)),by rw[hrec,hst];exact hr,?_,by simp,fun k hk=>World.putObj_heap_other hk,World.putObj_heap_same hl3,(World.putObj_heap_other hDl).trans d3,hnl,?_⟩
    ·have m1:Mv Y Wo W2:=by rw[hW2];exact (Mv.of_bel (Z:=Y) bo).putObj (.inl ((z1 l).2 (.inr (.inl rfl)))) _
     have m2:Mv Y Wo W3:=m1.trans hmv (fun k hz=> .inl ((z1 k).2 (.inl hz)));exact m2.putObj (.inl ((z1 l).2 (.inr (.inl rfl)))) _
    ·rintro k (h | rfl | rfl)
     ·obtain⟨q1,q2⟩:=hy3 k h
      exact⟨by simpa using q1,q2.imp (fun hz=>(z1 k).2 (.inl hz)) (fun hz=>by omega)⟩
     ·exact⟨by simpa using hl3,.inl ((z1 _).2 (.inr (.inl rfl)))⟩
     ·exact⟨by simpa using hd3,.inl ((z1 _).2 (.inr (.inr rfl)))⟩
   rintro e a3 W3 hp3;cases e with
   | normal=>
    obtain⟨hmv,Y',hi3,hy3⟩:=hp3;obtain⟨W4,q1,q2,q3,q4,q5,q6,q7,q8⟩:=fin none .ready W3 Y' rfl hmv hy3;exact⟨.bool true,W4,q1,q2,fun k=>Y' k∨k=l∨k=D,q8,.inl ⟨rfl,Y',fun k=>Iff.rfl,q7,hI _ _ _ _ hi3 q3 (fun k hk=>q4 k (q7 k hk).1),q5,q6⟩⟩
   | ret=>
    obtain⟨hmv,Y',hi3,hy3⟩:=hp3;obtain⟨W4,q1,q2,q3,q4,q5,q6,q7,q8⟩:=fin (some .ret) .done W3 Y' rfl hmv hy3;exact⟨.bool false,W4,q1,q2,fun k=>Y' k∨k=l∨k=D,q8,.inr ⟨rfl,Y',fun k=>Iff.rfl,q7,hIx _ _ _ _ hi3 q3 (fun k hk=>q4 k (q7 k hk).1),q5,q6⟩⟩
   | exit id=>exact hp3.elim
   | goto t=>exact hp3.elim
   | panic ch=>exact hp3.elim
   | outgrown=>exact hp3.elim
  ·rw[hJ]
   exact⟨Y0,fun k=>Iff.rfl,fun k hk=>⟨fun e=>by have:=hY0 k hk;omega,fun e=>by have:=hY0 k hk;omega⟩,hI _ _ _ _ h0 hb.size (fun k hk=>hb.block k (hY0 k hk)),hL',hD'⟩
  · --behind the iterator
   rw[hJ,hJx];have m0:∀ W2 o,Mv (fun k=>Y0 k∨k=l∨k=D) V W2->Mv Y0 w (W2.putObj l o):=fun W2 o hmv=>by
    refine Mv.putObj ?_ (.inr (by omega)) _;have m1:Mv Y0 w V:= .of_bel hb;refine m1.trans hmv (fun k hk=>?_);rcases hk with h | h | h
    ·exact .inl h
    ·exact .inr (by omega)
    ·exact .inr (by omega)
   have y0:∀ (W2:World) o (Y' Z:Nat->Prop),(∀ k,Y' k->k<W2.heap.size/\((Y0 k∨k=l∨k=D)∨V.heap.size<=k))->(∀ k,Y' k↔(Z k∨k=l∨k=D))->(∀ k,Z k->k≠l/\k≠D)->∀ k,Z k->k<(W2.putObj l o).heap.size/\(Y0 k∨w.heap.size<=k):=fun W2 o Y' Z hY' z1 z2 k hz=>by
    obtain⟨q1,q2⟩:=hY' k ((z1 k).2 (.inl hz));refine⟨by simpa using q1,?_⟩;rcases q2 with (h | h | h) | h
    ·exact .inl h
    ·exact absurd h (z2 k hz).1
    ·exact absurd h (z2 k hz).2
    ·exact .inr (Nat.le_trans hb.size h)
   rintro e W2 ⟨⟨v,rfl⟩,hmv,xs,Y',hY',⟨hs,Z,z1,z2,z3,z4,z5⟩ | ⟨Z,z1,z2,z3,z4,z5⟩⟩
   ·have hr:=run_endLoop (P:=P) z4 (by rw[hrec];simp)
    rw[hrec]at hr;exact⟨none,_,hr,hdone D xs Z _ (by omega) hs (hI _ _ _ _ z3 (by simp) (fun k hz=>World.putObj_heap_other (z2 k hz).1)) (m0 _ _ hmv) (y0 _ _ _ _ hY' z1 z2) ((World.putObj_heap_other hDl).trans z5) (fun hz=>(z2 D hz).2 rfl)⟩
   ·have hr:=run_endLoop (P:=P) z4 (by rw[hrec];simp)
    rw[hrec]at hr;refine⟨some .ret,_,hr,?_⟩;exact wpIn_ret (hstop D xs Z _ (by omega) (hIx _ _ _ _ z3 (by simp) (fun k hz=>World.putObj_heap_other (z2 k hz).1)) (m0 _ _ hmv) (y0 _ _ _ _ hY' z1 z2) ((World.putObj_heap_other hDl).trans z5) (fun hz=>(z2 D hz).2 rfl))
end
theorem qz{F:Fence}{n:Nat}{P:Program}{fn:Func}{tmps:Array Value}{R:Ending->World->Prop}{D:Nat}{w:World}(hD:w.heap[D]?=some (.deferred (some [])))
  (h:∀ w',Mv (fun k=>k=D) w w'->LeavesInM F n P fn tmps R [] .returning w'):LeavesInM F n P fn tmps R [mkM D] .returning w:=
 ⟨by simp,.inl ⟨D,_,rfl,run_takeDeferred hD,h _ (Mv.putObj (Z:=fun k=>k=D) (Mv.refl _ w) (.inl rfl) _)⟩⟩
end Go.Proofs.YtlmmaoobembadaaGreatDoor.Mu
namespace Go.Proofs.YtlmmaoobembadaaGreatDoor.Mu
open Go Go.RowKit Go.Shelf
set_option linter.unusedVariables false
structure Nd where
 v:Vis
 p:Pl
 A:Option Addr
 ca:Nat
 B:Option Addr
 cb:Nat
def Nd.at_(w:World)(Ok:Nat->Prop)(sh:Sh)(x:Nd):Prop:=
 KidsTr w Ok sh x.A x.v.kids.len x.ca x.v.kids/\((sh=.ex/\KidsTr w Ok .arms x.B x.v.arms.len x.cb x.v.arms)∨((sh=.pat∨sh=.ty)/\x.v.arms.len=0))
theorem Nd.at_.keep{w w':World}{Ok Ok':Nat->Prop}{sh:Sh}{x:Nd}(h:x.at_ w Ok sh)(hk:∀ j,Ok j->w'.heap[j]?=w.heap[j]?)(hw:∀ j,Ok j->Ok' j):x.at_ w' Ok' sh:=by
 refine⟨(h.1.keep hk).wide hw,?_⟩;rcases h.2 with ⟨e,h2⟩ | h2
 ·exact .inl ⟨e,(h2.keep hk).wide hw⟩
 ·exact .inr h2
structure It where
 A:Option Addr
 c:Nat
 f:Tr
def It.val(x:It):Value:= .slice x.A x.f.len x.c
def itV(S:List It):List Value:=(S.map It.val).reverse
theorem Qw(x:It)(S:List It):itV (x::S)=itV S++[x.val]:=by simp[itV]
theorem jx(S:List It):(itV S).length=S.length:=by simp[itV]
def OkI(w:World)(Y:Nat->Prop)(A:Option Addr)(j:Nat):Prop:=j<w.heap.size/\¬ Y j/\∀ o,A≠some ⟨j,o,none⟩
def WsI(w:World)(Y:Nat->Prop)(A:Option Addr)(sh:Sh)(S:List It):Prop:=∀ x∈S,KidsTr w (OkI w Y A) sh x.A x.f.len x.c x.f
theorem OkI.step{w w':World}{Y Y':Nat->Prop}{A A':Option Addr}(hs:w.heap.size<=w'.heap.size)(hy:∀ j,Y' j->Y j∨w.heap.size<=j)(ha:∀ j o,A'=some ⟨j,o,none⟩->(∃ o',A=some ⟨j,o',none⟩)∨w.heap.size<=j){j:Nat}(h:OkI w Y A j):OkI w' Y' A' j:=by
 obtain⟨h1,h2,h3⟩:=h;refine⟨Nat.lt_of_lt_of_le h1 hs,fun hj=>?_,fun o ho=>?_⟩
 ·rcases hy j hj with h | h
  ·exact h2 h
  ·omega
 ·rcases ha j o ho with ⟨o',h⟩ | h
  ·exact h3 o' h
  ·omega
theorem KidsTr.stepI{w w':World}{Y Y':Nat->Prop}{A A':Option Addr}{sh:Sh}{B:Option Addr}{l c:Nat}{f:Tr}(h:KidsTr w (OkI w Y A) sh B l c f)(hs:w.heap.size<=w'.heap.size)(hk:∀ j,OkI w Y A j->w'.heap[j]?=w.heap[j]?)(hy:∀ j,Y' j->Y j∨w.heap.size<=j)(ha:∀ j o,A'=some ⟨j,o,none⟩->(∃ o',A=some ⟨j,o',none⟩)∨w.heap.size<=j):KidsTr w' (OkI w' Y' A') sh B l c f:=
 (h.keep hk).wide fun j hj=>OkI.step hs hy ha hj
theorem WsI.step{w w':World}{Y Y':Nat->Prop}{A A':Option Addr}{sh:Sh}{S:List It}(h:WsI w Y A sh S)(hs:w.heap.size<=w'.heap.size)(hk:∀ j,OkI w Y A j->w'.heap[j]?=w.heap[j]?)(hy:∀ j,Y' j->Y j∨w.heap.size<=j)(ha:∀ j o,A'=some ⟨j,o,none⟩->(∃ o',A=some ⟨j,o',none⟩)∨w.heap.size<=j):WsI w' Y' A' sh S:=
 fun x hx=>(h x hx).stepI hs hk hy ha
def msS:List It->Nat
 | []=>0
 | x::S=>2*x.f.size+1+msS S
def todo:List It->List Vis
 | []=>[]
 | x::S=>x.f.pre S.length++todo S
structure WSt (T0 TR TK:TypeId) (fk:Nat) (sh:Sh) (f0:Tr) (J:List Nd->(Nat->Prop)->World->Prop) (lb kb base:Nat) (lv:Value) (Y0:Nat->Prop) (W0:World) (A:Option Addr) (cc m:Nat) (S:List It) (pre:List Nd) (Y:Nat->Prop) (w:World):Prop where
 len:m=S.length
 row:w.ownsRow base T0 1 (.slice A m cc) m (itV S)
 ny:∀ j o,A=some ⟨j,o,none⟩->¬ Y j
 bl:w.heap[lb]?=some (.cells #[lv] TR (0,0))
 bk:w.heap[kb]?=some (.cells #[.func (.func fk) #[] #[]] TK (0,0))
 lt:lb<base/\kb<base
 nl:¬ Y lb/\¬ Y kb
 its:WsI w Y A sh S
 j:J pre Y w
 yl:∀ k,Y k->k<w.heap.size/\(Y0 k∨W0.heap.size<=k)
 mv:Mv Y0 W0 w
 bs:base<=w.heap.size
 what:f0.pre 0=pre.map Nd.v++todo S
theorem jD{w:World}{g:Nat}{t:TypeId}{x:Value}(h:w.heap[g]?=some (.cells #[x] t (0,0))):w.cell? ⟨g,0,none⟩=some x:=by simp[World.cell?,h]
theorem qaA{w:World}{base:Nat}{T0:TypeId}{A:Option Addr}{cc m:Nat}{x:It}{S:List It}(hm:m=S.length)(h:w.ownsRow base T0 1 (.slice A (m+1) cc) (m+1) (itV (x::S))) :
  ∃ g,A=some ⟨g,0,none⟩/\base<=g/\g<w.heap.size/\m+1<=cc/\cc<=maxLen/\w.cell? ⟨g,m,none⟩=some x.val/\w.frozen? ⟨g,m,none⟩=false/\w.ownsRow base T0 1 (.slice (some ⟨g,0,none⟩) m cc) m (itV S):=by
 have h':=h;obtain⟨hl,hr⟩:=h;rcases hr with ⟨_,h0⟩ | ⟨g,cap,cur,hv,hb,hh,hnc,hmx,hcs,ht⟩
 ·omega
 ·cases hv
  refine⟨g,rfl,hb,(Array.getElem?_eq_some_iff.1 hh).1,hnc,hmx,?_,h'.frozenAt m,⟨by rw[jx,hm,Nat.mul_one],.inr ⟨g,cc,cur,rfl,hb,hh,by omega,hmx,hcs,?_⟩⟩⟩
  ·have h5:=h'.cells (g:=g) rfl m x.val (by rw[Qw,List.getElem?_append_right (by rw[jx,hm];exact Nat.le_refl _),jx,hm,Nat.sub_self];rfl)
   rwa [Addr.add_lit,Nat.zero_add]at h5
  ·have h4:=congrArg (List.take m) ht
   rw[List.take_take,Qw,List.take_append_of_le_length (by rw[jx,hm];exact Nat.le_refl _),List.take_of_length_le (l:=itV S) (by rw[jx,hm];exact Nat.le_refl _)]at h4;rw[<- h4];congr 1
   omega
theorem qeu{w w':World}{base e size n:Nat}{u:Value}{xs:List Value}(h:w.ownsRow base e size u n xs)(hk:∀ x,u.ownBlock=some x->w'.heap[x]?=w.heap[x]?):w'.ownsRow base e size u n xs:=by
 obtain⟨hl,hr⟩:=h;refine⟨hl,?_⟩;rcases hr with h0 | ⟨g,cap,cur,hv,hb,hh,rest⟩
 ·exact .inl h0
 ·exact .inr ⟨g,cap,cur,hv,hb,(hk g (by rw[hv];rfl)).trans hh,rest⟩
theorem qhF{w:World}{base:Nat}{T0:TypeId}{g cc m:Nat}{x y:It}{S:List It}(hm:m=S.length)(h:w.ownsRow base T0 1 (.slice (some ⟨g,0,none⟩) (m+1) cc) (m+1) (itV (x::S))) :
  (w.setCell ⟨g,m,none⟩ y.val).ownsRow base T0 1 (.slice (some ⟨g,0,none⟩) (m+1) cc) (m+1) (itV (y::S)):=by
 have h2:=(World.ownsRow.stored h m y.val).1;rw[Qw]at h2 ⊢;rw[List.set_append_right _ _ (by rw[jx,hm];exact Nat.le_refl _),jx,hm,Nat.sub_self]at h2;rw[hm];exact h2
section
variable {T0 TR TK : TypeId} {fk : Nat} {sh : Sh} {f0 : Tr} {J : List Nd -> (Nat -> Prop) -> World -> Prop} {lb kb base : Nat} {lv : Value} {Y0 : Nat -> Prop} {W0 : World} {cc mm g : Nat} {S : List It} {pre : List Nd} {Y : Nat -> Prop} {wr : World}
variable {it : It} {k : Int} {s : List UInt8} {n : Int} {p : Pl} {kids arms rest : Tr} {RA : Option Addr} {RC : Nat} {x : Nd} {W2 : World} {ob : Obj}
theorem WSt.sel(h:WSt T0 TR TK fk sh f0 J lb kb base lv Y0 W0 (some ⟨g,0,none⟩) cc (mm+1) (it::S) pre Y wr)(hW2:W2=(wr.setCell ⟨g,mm,none⟩ (.slice RA rest.len RC)).alloc ob) :
  W2.heap.size=wr.heap.size+1/\(∀ j,j<wr.heap.size->j≠g->W2.heap[j]?=wr.heap[j]?)/\W2.heap[wr.heap.size]?=some ob/\Mv (fun j=>j=g) wr W2:=by
 have e:(wr.setCell ⟨g,mm,none⟩ (.slice RA rest.len RC)).heap.size=wr.heap.size:=by simp
 refine⟨by rw[hW2];simp,fun j hj hn=>?_,?_,?_⟩
 ·rw[hW2]
  refine (((Bel.refl _).alloc ob).block j (by rw[e];exact hj)).trans (Below.heap_setCell wr _ _ j hn)
 ·rw[hW2,<- e];exact blk1 _ ob
 ·rw[hW2];exact (Mv.set_ (Z:=fun j=>j=g) (p:=⟨g,mm,none⟩) (Mv.refl _ wr) (.inl rfl) _).alloc ob
theorem WSt.hand(hJ:Zx J)(h:WSt T0 TR TK fk sh f0 J lb kb base lv Y0 W0 (some ⟨g,0,none⟩) cc (mm+1) (it::S) pre Y wr)(hmm:mm=S.length)(hit:it.f=.nod k s n p kids arms rest)(hx:x.v=⟨mm,k,s,n,kids,arms⟩)(hat:x.at_ wr (OkI wr Y (some ⟨g,0,none⟩)) sh)
  (hW2:W2=(wr.setCell ⟨g,mm,none⟩ (.slice RA rest.len RC)).alloc ob) :
  ((∃ suf,f0.pre 0=pre.map Nd.v++x.v::suf)/\x.at_ W2 (fun j=>j<W2.heap.size/\¬ Y j) sh)/\J pre Y W2/\∀ k,Y k->k<W2.heap.size:=by
 obtain⟨s1,s2,s3,s4⟩:=h.sel hW2;have hg:¬ Y g:=h.ny g 0 rfl;refine⟨⟨⟨kids.pre (mm+1)++arms.pre (mm+1)++rest.pre mm++todo S,?_⟩,hat.keep (fun j hj=>s2 j hj.1 (fun e=>hj.2.2 0 (by rw[e]))) (fun j hj=>⟨by have:=hj.1;omega,hj.2.1⟩)⟩,hJ _ _ _ _ h.j (by omega) (fun j hj=>s2 j (h.yl j hj).1 (fun e=>hg (e ▸ hj))),fun j hj=>by have:=(h.yl j hj).1;omega⟩;rw[h.what,hx];simp only[todo,hit,Tr.pre,<- hmm,List.cons_append]
theorem WSt.row3{W3 W4:World}(h:WSt T0 TR TK fk sh f0 J lb kb base lv Y0 W0 (some ⟨g,0,none⟩) cc (mm+1) (it::S) pre Y wr)(hmm:mm=S.length)(hW2:W2=(wr.setCell ⟨g,mm,none⟩ (.slice RA rest.len RC)).alloc ob)(hgl:g<wr.heap.size)(hmv3:Mv Y W2 W3)(hb4:Bel W3 W4) :
  W4.ownsRow base T0 1 (.slice (some ⟨g,0,none⟩) (mm+1) cc) (mm+1) (itV (⟨RA,RC,rest⟩::S)):=by
 obtain⟨s1,s2,s3,s4⟩:=h.sel hW2;have hg:¬ Y g:=h.ny g 0 rfl;have h1:=qhF (y:=⟨RA,RC,rest⟩) hmm h.row;have h2:W2.ownsRow base T0 1 (.slice (some ⟨g,0,none⟩) (mm+1) cc) (mm+1) (itV (⟨RA,RC,rest⟩::S)):=by rw[hW2];exact h1.alloc ob
 refine ql (qeu h2 fun j hj=>?_) hb4;cases hj
 exact hmv3.block g (by omega) hg
theorem WSt.next{W3 W4 w5:World}{Y3:Nat->Prop}{K:It}{v':Value}{ob2:Obj}(hJ:Zx J)(h:WSt T0 TR TK fk sh f0 J lb kb base lv Y0 W0 (some ⟨g,0,none⟩) cc (mm+1) (it::S) pre Y wr)(hmm:mm=S.length)(hit:it.f=.nod k s n p kids arms rest)(hx:x.v=⟨mm,k,s,n,kids,arms⟩)
  (hres:KidsTr wr (OkI wr Y (some ⟨g,0,none⟩)) sh RA rest.len RC rest) (hW2:W2=(wr.setCell ⟨g,mm,none⟩ (.slice RA rest.len RC)).alloc ob) (hgl:g<wr.heap.size) (hbg:base<=g)
  (hmv3:Mv Y W2 W3) (hy3:∀ k,Y3 k->k<W3.heap.size/\(Y k∨W2.heap.size<=k)) (hj3:J (pre++[x]) Y3 W3) (hb4:Bel W3 W4) (hK:KidsTr W4 (J3 W3 (OkI W3 Y3 (some ⟨g,0,none⟩)) W4) sh K.A K.f.len K.c K.f) (hpre:∀ d,K.f.pre d=kids.pre d++arms.pre d)
  (hbase:W0.heap.size<=base) (hown5:w5.ownsRow base T0 1 v' (mm+1+1) (itV (⟨RA,RC,rest⟩::S)++[K.val])) (hg5:(W4.alloc ob2).grownBy w5 (some g)) (hat5:v'.ownBlock=some g∨v'.ownBlock=some (W4.alloc ob2).heap.size) :
  ∃ g5 c5,v'=.slice (some ⟨g5,0,none⟩) (mm+1+1) c5/\WSt T0 TR TK fk sh f0 J lb kb base lv Y0 W0 (some ⟨g5,0,none⟩) c5 (mm+1+1) (K::⟨RA,RC,rest⟩::S) (pre++[x]) Y3 w5:=by
 obtain⟨g5,c5,rfl⟩:=zN hown5;obtain⟨s1,s2,s3,s4⟩:=h.sel hW2;have hg:¬ Y g:=h.ny g 0 rfl;have b4:Bel W3 (W4.alloc ob2):=hb4.alloc ob2;have z5:W4.heap.size+1<=w5.heap.size:=by have:=hg5.size;simpa using this
 have z3:=hmv3.size;have z4:=hb4.size;have k5:∀ j,j<W3.heap.size->j≠g->w5.heap[j]?=W3.heap[j]?:=fun j hj hn=>(hg5.block j (Nat.lt_of_lt_of_le hj b4.size) (fun e=>hn (by cases e;rfl))).trans (b4.block j hj);have k2:∀ j,j<wr.heap.size->j≠g->¬ Y j->w5.heap[j]?=wr.heap[j]?:=fun j hj hn hy=>(k5 j (by omega) hn).trans ((hmv3.block j (by omega) hy).trans (s2 j hj hn));have hgn:g5=g∨W4.heap.size<=g5:=by
  rcases hat5 with e | e
  ·left;cases e;rfl
  ·right;simp[Value.ownBlock]at e;omega
 have hy5:∀ j,Y3 j->Y j∨wr.heap.size<=j:=fun j hj=>(hy3 j hj).2.imp id (fun h=>by omega);have ha5:∀ j o,(some ⟨g5,0,none⟩:Option Addr)=some ⟨j,o,none⟩->(∃ o',(some ⟨g,0,none⟩:Option Addr)=some ⟨j,o',none⟩)∨wr.heap.size<=j:=fun j o e=>by
  cases e
  rcases hgn with rfl | h
  ·exact .inl ⟨0,rfl⟩
  ·right;omega
 have hno:∀ j,Y3 j->j≠g:=fun j hj e=>by
  rcases (hy3 j hj).2 with h | h
  ·exact hg (e ▸ h)
  ·omega
 refine⟨g5,c5,rfl,by simp[hmm],by rw[Qw];exact hown5,fun j o e hj=>?_,?_,?_,h.lt,⟨fun hj=>?_,fun hj=>?_⟩,?_,hJ _ _ _ _ hj3 (by omega) (fun j hj=>k5 j (hy3 j hj).1 (hno j hj)),fun j hj=>⟨by have:=(hy3 j hj).1;omega,?_⟩,?_,by have:=h.bs;omega,?_⟩
 ·cases e
  rcases hgn with rfl | h
  ·exact hno _ hj rfl
  ·have:=(hy3 _ hj).1;omega
 ·exact (k2 lb (by have:=h.lt;have:=h.bs;omega) (by have:=h.lt;omega) h.nl.1).trans h.bl
 ·exact (k2 kb (by have:=h.lt;have:=h.bs;omega) (by have:=h.lt;omega) h.nl.2).trans h.bk
 ·rcases hy5 _ hj with e | e
  ·exact h.nl.1 e
  ·have:=h.lt;have:=h.bs;omega
 ·rcases hy5 _ hj with e | e
  ·exact h.nl.2 e
  ·have:=h.lt;have:=h.bs;omega
 ·intro y hy
  have hkeep:∀ j,OkI wr Y (some ⟨g,0,none⟩) j->w5.heap[j]?=wr.heap[j]?:=fun j hj=>k2 j hj.1 (fun e=>hj.2.2 0 (by rw[e])) hj.2.1;rcases List.mem_cons.1 hy with rfl | hy
  ·refine (hK.keep fun j hj=>?_).wide fun j hj=>?_
   ·have hjl:j<W4.heap.size/\j≠g:=by
     rcases hj with hj | hj
     ·exact⟨by have:=hj.1;omega,fun e=>hj.2.2 0 (by rw[e])⟩
     ·exact⟨hj.2,by omega⟩
    exact (hg5.block j (by simp;omega) (fun e=>hjl.2 (by cases e;rfl))).trans (((Bel.refl W4).alloc ob2).block j hjl.1)
   ·rcases hj with hj | hj
    ·refine⟨by have:=hj.1;omega,hj.2.1,fun o e=>?_⟩
     cases e
     rcases hgn with rfl | h
     ·exact hj.2.2 0 rfl
     ·have:=hj.1;omega
    ·refine⟨by omega,fun e=>by have:=(hy3 j e).1;omega,fun o e=>?_⟩
     cases e
     rcases hgn with h | h
     ·omega
     ·omega
  ·rcases List.mem_cons.1 hy with rfl | hy
   ·exact hres.stepI (by omega) hkeep hy5 ha5
   ·exact (h.its y (List.mem_cons_of_mem _ hy)).stepI (by omega) hkeep hy5 ha5
 ·rcases (hy3 j hj).2 with h' | h'
  ·exact (h.yl j h').2
  ·right;have:=h.bs;omega
 ·have m1:=h.mv.trans s4 (fun j hj=> .inr (by omega))
  have m2:=m1.trans hmv3 (fun j hj=>(h.yl j hj).2);have m3:=m2.trans (Mv.of_bel (Z:=fun _=>False) b4) (fun j hj=>hj.elim);exact m3.grown hg5 (fun j hj=> .inr (by cases hj;omega))
 ·rw[h.what]
  simp only[todo,hit,Tr.pre,<- hmm,List.map_append,List.map_cons,List.map_nil,hx,List.length_cons,hpre,List.append_assoc,List.cons_append,List.nil_append]
end
end Go.Proofs.YtlmmaoobembadaaGreatDoor.Mu
