import Derived.Test.YtmloadclmjcbbaaGreatDoorRah
open Go.Lib (hid)
namespace Go.Proofs.YtmloadclmjcbbaaGreatDoor.Mu
open Go Go.RowKit Go.Shelf
attribute [local go_sem] Oper.semAt_some
set_option linter.unusedVariables false
set_option maxRecDepth 100000
set_option maxHeartbeats 8000000
theorem qam(N:Nat):∀ (k:Int) (s:LU) (n:Int) (p:Pl) (A:OA) (len cap:Nat) (kids:Tr) (B:OA) (bl bc:Nat) (arms:Tr) (w:World),kids.size+arms.size=N->KidsTr w (OldT w) .ex A len cap kids->KidsTr w (OldT w) .arms B bl bc arms->kids.size+arms.size<=1000000 →
  Calls Tryz.prog 29 #[.agg #[.int .u8 k,.string ⟨s.toArray⟩,n,p.a,p.l,p.c,.slice A len cap,.slice B bl bc]] w (StR (.int .i64 ((1+max kids.depth arms.depth:Nat):Int)) w):=by
 induction N using Nat.strongRecOn with
 | _ N ih=>
  intro k s n p A len cap kids B bl bc arms w hN h hA hsz;have H:=hid h;have HA:=hid hA;have IH:=hid ih;have HL:Hid (len=kids.len):=hid h.1;have HM:Hid (bl=arms.len):=hid hA.1;have HN:=hid hN;have HZ:=hid hsz;have hlen:len<=1000000:=by have:=h.1;have:=kids.len_le;omega
  have hbl:bl<=1000000:=by have:=hA.1;have:=arms.len_le;omega
  clear h hA ih hN hsz;obtain⟨S,hS⟩:=nW (⟨s.toArray⟩:BA);rw[<- hS];clear hS;go_enter Tryz.func29,Tryz.ntmps29;go_wp2_with fail;have q1:=blk1 w (.cells #[.int .u8 k,S,n,p.a,p.l,p.c,.slice A len cap,.slice B bl bc] 28);have hb1:Bel w (w.alloc (.cells #[.int .u8 k,S,n,p.a,p.l,p.c,.slice A len cap,.slice B bl bc] 28)):=(Bel.refl w).alloc _;have hs1:(w.alloc (.cells #[.int .u8 k,S,n,p.a,p.l,p.c,.slice A len cap,.slice B bl bc] 28)).heap.size=w.heap.size+1:=by simp
  obtain⟨w1,hw1⟩:=nW (w.alloc (.cells #[.int .u8 k,S,n,p.a,p.l,p.c,.slice A len cap,.slice B bl bc] 28));rw[<- hw1]at q1 hb1 hs1 ⊢;have HQ:=hid q1;have HB1:=hid hb1;have HS1:=hid hs1;clear q1 hb1 hs1 hw1;go_loopw [3,4] (fun s i wr=>∃ j:Nat,j<=len/\i=.int .i64 (j:Int)/\s=.int .i64 ((kids.depU j:Nat):Int)/\Hid (Bel w1 wr)) (fun _ i _=>len-(intOf i).toNat)
  case atStart=>exact⟨0,zL _,rfl,by rw[Tr.depU_zero];rfl,hid (Bel.refl _)⟩
  case round=>
   obtain⟨j,hj,rfl,rfl,HB⟩:=hrel;have hbx:=(HB.block w.heap.size (by have:=HS1.out;omega)).trans HQ;obtain⟨x6,x7⟩:=qcD hbx;clear hbx;by_cases hlt:j<len
   ·have hkr:KidsTr wr (OldT w) .ex A len cap kids:=H.keep fun i hi=>(HB.block i (lT hi HB1.size)).trans (HB1.block i hi)
    obtain⟨ub,uo,eA,hob,hfo⟩:=hkr.2.2 (by omega);subst eA;obtain⟨k',s',n',p',kids',ar',en,hd',⟨A',cap',e5,hcp',hk'⟩,har',_⟩:=TrAt.nod_at (by intro e;cases e) kids j ub uo hfo (by rw[<- HL.out];exact hlt);obtain⟨_,B',bc',e6,hbp',hb'⟩:Sh.ex=.ex/\∃ A cap,wr.cell? ⟨ub,uo+j*Sh.sz .ex+7,none⟩=some (.slice A ar'.len cap)/\ar'.len<=cap/\(0<ar'.len->∃ b' o',A=some ⟨b',o',none⟩/\OldT w b'/\TrAt wr (OldT w) ar' .arms b' o'):=by
     rcases har' with e | ⟨e | e,_⟩
     ·exact e
     ·cases e
     ·cases e
    obtain⟨e0,e1,e2,f1,f2,f3⟩:=hd';have hsn:=Tr.nth_size kids j;rw[en]at hsn;simp only[Tr.size]at hsn;have hOld:∀ i,OldT w i->OldT wr i:=fun i hi=>lT hi (lL HB1.size HB.size);have hK':KidsTr wr (OldT w) .ex A' kids'.len cap' kids':=⟨rfl,hcp',hk'⟩
    have hR':KidsTr wr (OldT w) .arms B' ar'.len bc' ar':=⟨rfl,hbp',hb'⟩
    have HU:Hid (kids.depU (j+1)=max (kids.depU j) (1+max kids'.depth ar'.depth)):=hid (by
     rw[Tr.depU_succ kids j (by rw[<- HL.out];exact hlt),en];simp only[Tr.depth];omega)
    have HC:Hid (Calls Tryz.prog 29 #[.agg #[.int .u8 k',.string ⟨s'.toArray⟩,n',p'.a,p'.l,p'.c,.slice A' kids'.len cap',.slice B' ar'.len bc']] wr (StR (.int .i64 ((1+max kids'.depth ar'.depth:Nat):Int)) wr)):=hid (by
     have hz:=HZ.out;exact IH.out (kids'.size+ar'.size) (by have:=HN.out;omega) k' s' n' p' A' kids'.len cap' kids' B' ar'.len bc' ar' wr rfl (hK'.wide hOld) (hR'.wide hOld) (by omega))
    obtain⟨z,hz⟩:=nW (((1+max kids'.depth ar'.depth:Nat):Int):Int);obtain⟨y,hy⟩:=nW (((kids.depU j:Nat):Int):Int);rw[<- hz]at HC;rw[<- hy];have HZY:=hid (And.intro hz hy);obtain⟨l1,hl1⟩:=nW kids'.len;obtain⟨l3,hl3⟩:=nW ar'.len;rw[<- hl1,<- hl3]at HC;rw[<- hl1]at e5;rw[<- hl3]at e6;have i1:(0:Int)<=(j:Int):=by omega
    have i2:(j:Int)<(len:Int):=by omega
    have HLT:=hid hlt;simp only[Sh.sz,Sh.kd]at e0 e1 e2 e5 e6 f1 f2 f3;clear hkr hfo en hk' hK' hR' hb' hbp' hsn hz hy hl1 hl3 har' hcp' hOld hob;go_wp2_with fail;refine HC.out.mono ?_;rintro e w2 ⟨rfl,hb2⟩;have HB2:=hid (HB.on hb2);clear hb2 e0 e1 e2 e5 e6 f1 f2 f3 x6 x7;go_wp2_with fail;refine (Zb _ _ _).mono ?_;rintro e w3 ⟨rfl,hb3⟩;have HB3:=hid (HB2.on hb3);clear hb3;go_wp2_with fail;go_roundw
    case rel=>
     refine⟨j+1,HLT,by go_num,?_,HB3⟩;rw[HU.out,HZY.out.1,HZY.out.2];congr 1;omega
    case measure=>exact mS HLT
   ·obtain rfl:j=len:=by omega
    have HKD:Hid (kids.depU j=kids.depth):=hid (by rw[HL.out,Tr.depU_all]);rw[HKD.out];go_wp2_with fail;go_loopw [3,5] (fun s i wr=>∃ j:Nat,j<=bl/\i=.int .i64 (j:Int)/\s=.int .i64 ((max kids.depth (arms.depU j):Nat):Int)/\Hid (Bel w1 wr)) (fun _ i _=>bl-(intOf i).toNat)
    case atStart=>exact⟨0,zL _,rfl,by rw[Tr.depU_zero,Nat.max_eq_left (zL _)],HB⟩
    case round=>
     obtain⟨j,hj2,rfl,rfl,HBs⟩:=hrel;clear hj HB x6 x7 hlt HKD;have hbx:=(HBs.block w.heap.size (by have:=HS1.out;omega)).trans HQ;obtain⟨x6,x7⟩:=qcD hbx;clear hbx;by_cases hlt:j<bl
     ·have hkr:KidsTr wr (OldT w) .arms B bl bc arms:=HA.keep fun i hi=>(HBs.block i (lT hi HB1.size)).trans (HB1.block i hi)
      obtain⟨ub,uo,eA,hob,hfo⟩:=hkr.2.2 (by omega);subst eA;obtain⟨k',s',n',p',kids',f',en,_,hd',⟨A',cap',a6,hcp',hk'⟩,hone,hex,_⟩:=TrAt.arm_at arms j ub uo hfo (by rw[<- HM.out];exact hlt);obtain⟨K',S',N',P',kx',ax',rfl⟩:=Tr.single (by intro e;cases e) f' hone hex;obtain⟨hD',⟨F',D',a13,hcx',hkx'⟩,hax',_⟩:=hex;obtain⟨_,B',E',a14,hbp',hb'⟩:Sh.ex=.ex/\∃ A cap,wr.cell? ⟨ub,uo+j*15+7+7,none⟩=some (.slice A ax'.len cap)/\ax'.len<=cap/\(0<ax'.len->∃ b' o',A=some ⟨b',o',none⟩/\OldT w b'/\TrAt wr (OldT w) ax' .arms b' o'):=by
       rcases hax' with e | ⟨e | e,_⟩
       ·exact e
       ·cases e
       ·cases e
      obtain⟨a0,a1,a2,a3,a4,a5⟩:=hd';obtain⟨a7,a8,a9,a10,a11,a12⟩:=hD';have hsn:=Tr.nth_size arms j;rw[en]at hsn;simp only[Tr.size]at hsn;have hOld:∀ i,OldT w i->OldT wr i:=fun i hi=>lT hi (lL HB1.size HBs.size);have hK':KidsTr wr (OldT w) .pat A' kids'.len cap' kids':=⟨rfl,hcp',hk'⟩
      have hX':KidsTr wr (OldT w) .ex F' kx'.len D' kx':=⟨rfl,hcx',hkx'⟩
      have hR':KidsTr wr (OldT w) .arms B' ax'.len E' ax':=⟨rfl,hbp',hb'⟩
      have HU:Hid (arms.depU (j+1)=max (arms.depU j) (max (1+kids'.depth) (1+max kx'.depth ax'.depth))):=hid (by
       rw[Tr.depU_succ arms j (by rw[<- HM.out];exact hlt),en];simp only[Tr.depth];omega)
      have HP:Hid (∀ W,Bel wr W->Calls Tryz.prog 77 #[.agg #[.int .u8 k',.string ⟨s'.toArray⟩,n',p'.a,p'.l,p'.c,.slice A' kids'.len cap']] W (StR (.int .i64 ((1+kids'.depth:Nat):Int)) W)):=hid fun W hW=>by
       have hz:=HZ.out;exact qcc kids'.size k' s' n' p' A' kids'.len cap' kids' W rfl ((hK'.wide hOld).bel hW) (by omega)
      have HX:Hid (∀ W,Bel wr W->Calls Tryz.prog 29 #[.agg #[.int .u8 K',.string ⟨S'.toArray⟩,N',P'.a,P'.l,P'.c,.slice F' kx'.len D',.slice B' ax'.len E']] W (StR (.int .i64 ((1+max kx'.depth ax'.depth:Nat):Int)) W)):=hid fun W hW=>by
       have hz:=HZ.out;have hn:=HN.out;exact IH.out (kx'.size+ax'.size) (by omega) K' S' N' P' F' kx'.len D' kx' B' ax'.len E' ax' W rfl ((hX'.wide hOld).bel hW) ((hR'.wide hOld).bel hW) (by omega)
      have HG:Hid (∀ (a b:Int) W,Bel wr W->Calls Tryz.prog 55 #[.int .i64 a,b] W (StR (.int .i64 (max a b)) W)):=hid fun a b W _=>Zb a b W;obtain⟨z1,hz1⟩:=nW (((1+kids'.depth:Nat):Int):Int);obtain⟨z2,hz2⟩:=nW (((1+max kx'.depth ax'.depth:Nat):Int):Int);obtain⟨y,hy⟩:=nW (((max kids.depth (arms.depU j):Nat):Int):Int);rw[<- hz1]at HP;rw[<- hz2]at HX;rw[<- hy];have HZY:=hid (And.intro hz1 (And.intro hz2 hy));obtain⟨l1,hl1⟩:=nW kids'.len;obtain⟨l2,hl2⟩:=nW kx'.len;obtain⟨l3,hl3⟩:=nW ax'.len;rw[<- hl1]at a6 HP;rw[<- hl2]at a13;rw[<- hl3]at a14;rw[<- hl2,<- hl3]at HX;have i1:(0:Int)<=(j:Int):=by omega
      have i2:(j:Int)<(bl:Int):=by omega
      have kb1:ub<wr.heap.size:=hOld _ hob;have kb3:w.heap.size<wr.heap.size:=by have:=HS1.out;have:=HBs.size;omega
      have HLT:=hid hlt;simp only[Sh.kd]at a9;clear hkr hfo en hk' hK' hX' hR' hb' hkx' hsn hz1 hz2 hy hl1 hl2 hl3 hOld hob hcp' hcx' hbp' hax' hone;have X7:=qd kb3 x7;have A0:=qd kb1 a0;have A1:=qd kb1 a1;have A2:=qd kb1 a2;have A3:=qd kb1 a3;have A4:=qd kb1 a4;have A5:=qd kb1 a5;have A6:=qd kb1 a6;have A7:=qd kb1 a7;have A8:=qd kb1 a8;have A9:=qd kb1 a9;have A10:=qd kb1 a10;have A11:=qd kb1 a11;have A12:=qd kb1 a12;have A13:=qd kb1 a13;have A14:=qd kb1 a14;simp only[Nat.add_assoc,Nat.reduceAdd]at A8 A9 A10 A11 A12 A13 A14;simp only[<- Nat.add_assoc]at A8 A9 A10 A11 A12 A13 A14;go_wp2_with fail;refine zX 17 (by kernel_rfl) (by kernel_rfl) ?_;simp only[List.take_succ_cons,List.take_zero,jF,jG];repeat (go_big_quiet_step (first | exact (HP _ (Abw.bel _)).mono fun e w h=>⟨h.1,⟨_,(Abw.bel _).on h.2⟩,rfl⟩ | exact (HX _ (Abw.bel _)).mono fun e w h=>⟨h.1,⟨_,(Abw.bel _).on h.2⟩,rfl⟩ | exact (HG _ _ _ (Abw.bel _)).mono fun e w h=>⟨h.1,⟨_,(Abw.bel _).on h.2⟩,rfl⟩))
      refine wpQuiet_nil ?_;rintro w4 ⟨⟨w4,hb4⟩,rfl⟩;have HB4:=hid (HBs.on hb4);clear hb4 x6 x7 X7 a0 a1 a2 a3 a4 a5 a6 a7 a8 a9 a10 a11 a12 a13 a14 A0 A1 A2 A3 A4 A5 A6 A7 A8 A9 A10 A11 A12 A13 A14;go_wp2_with fail;go_roundw
      case rel=>
       refine⟨j+1,HLT,by go_num,?_,HB4⟩;rw[HU.out,HZY.out.1,HZY.out.2.1,HZY.out.2.2];congr 1;omega
      case measure=>exact mS HLT
     ·obtain rfl:j=bl:=by omega
      have HE:Hid (((max kids.depth (arms.depU j):Nat):Int)+1=((1+max kids.depth arms.depth:Nat):Int)/\max kids.depth arms.depth<=1000000):=hid (by
       rw[HM.out,Tr.depU_all];have:=kids.depth_le;have:=arms.depth_le;have:=HZ.out;exact⟨by omega,by omega⟩)
      obtain⟨y,hy⟩:=nW (((max kids.depth (arms.depU j):Nat):Int):Int);have hy0:0<=y/\y<=1000000:=by have:=HE.out;omega
      rw[<- hy]at HE ⊢;have hw:wrap64 (y+1)=y+1:=IntWalk.wrap64_in _ (by omega);clear hy;go_wp2_with fail;go_ret;exact⟨by rw[HE.out.1];rfl,HB1.on HBs⟩
set_option maxHeartbeats 8000000
theorem qgw{w:World}{g:Nat}{t:TypeId}{x0 x1 x2 x3 x4 x5 x6 x7 x8 x9 x10 x11 x12 x13 x14 x15:Value}(h:w.heap[g]?=some (.cells #[x0,x1,x2,x3,x4,x5,x6,x7,x8,x9,x10,x11,x12,x13,x14,x15] t (0,0))) :
  w.cell? ⟨g,0,none⟩=some x0/\w.cell? ⟨g,6,none⟩=some x6:=by
 simp[World.cell?,h]
theorem Tr.depth_app:∀ f g:Tr,(f.app g).depth=max f.depth g.depth
 | .nil,g=>by simp[Tr.app,Tr.depth]
 | .nod _ _ _ _ _ _ r,g=>by simp only[Tr.app,Tr.depth,Tr.depth_app r g];omega
 | .arm _ _ _ _ _ _ r,g=>by simp only[Tr.app,Tr.depth,Tr.depth_app r g];omega
theorem J7(xs:List Fd)(j:Nat)(x:Fd)(h:xs[j]?=some x):1+x.kids.size<=(tysL xs).size:=by
 induction xs generalizing j with
 | nil=>cases h
 | cons y ys ih=>
  cases j with
  | zero=>simp only[List.getElem?_cons_zero,Option.some.injEq]at h;subst h;simp only[tysL,Tr.size];omega
  | succ j=>simp only[List.getElem?_cons_succ]at h;have:=ih j h;simp only[tysL,Tr.size];omega
theorem qej(cs:List Cd)(j:Nat)(c:Cd)(h:cs[j]?=some c):∃ xs ys,qy cs=xs++c.fs++ys/\xs=qy (cs.take j):=by
 induction cs generalizing j with
 | nil=>cases h
 | cons y ys ih=>
  cases j with
  | zero=>simp only[List.getElem?_cons_zero,Option.some.injEq]at h;subst h;exact⟨[],qy ys,by simp[qy],by simp[qy]⟩
  | succ j=>
   simp only[List.getElem?_cons_succ]at h;obtain⟨a,b,e,f⟩:=ih j h;exact⟨y.fs++a,b,by simp only[qy,e,aAa],by simp only[List.take_succ_cons,qy,f]⟩
theorem qdT(kd:Int)(nm:LU)(q:Pl)(PA:OA)(pl pc:Nat)(CA:OA)(cl cc:Nat)(rc:Bool)(k:Int)(s:LU)(n:Int)(p:Pl)(A:OA)(c:Nat)(B:OA)(bc:Nat)(kids arms:Tr)(cs:List Cd)(w:World)(hk:KidsTr w (OldT w) .ex A kids.len c kids)(ha:KidsTr w (OldT w) .arms B arms.len bc arms)(hsz:kids.size+arms.size<=900000)(hc:RowOf 5 CdAt w (OldT w) CA cl cc cs)(hcl:cl<=1000000)(hfl:(tysL (qy cs)).size<=1000000) :
  Calls Tryz.prog 22 #[.agg #[.int .u8 kd,.string ⟨nm.toArray⟩,q.a,q.l,q.c,.slice PA pl pc,.slice CA cl cc,.bool rc,.int .u8 k,.string ⟨s.toArray⟩,n,p.a,p.l,p.c,.slice A kids.len c,.slice B arms.len bc]] w (DepQ (ju kd (.nod k s n p kids arms .nil) cs) w):=by
 have HX:Hid (∀ W,Bel w W->Calls Tryz.prog 29 #[.agg #[.int .u8 k,.string ⟨s.toArray⟩,n,p.a,p.l,p.c,.slice A kids.len c,.slice B arms.len bc]] W (DepQ (Tr.depth (.nod k s n p kids arms .nil)) W)):=hid fun W hW=>by
  have h:=qam (kids.size+arms.size) k s n p A kids.len c kids B arms.len bc arms W rfl (hk.bel hW) (ha.bel hW) (by omega);have e:Tr.depth (.nod k s n p kids arms .nil)=1+max kids.depth arms.depth:=by simp only[Tr.depth];omega
  rw[e];exact h
 have HC:=hid hc;have HCL:Hid (cl=cs.length):=hid hc.1;have HFL:=hid hfl;unfold ju;obtain⟨dx,hdx⟩:=nW (Tr.depth (.nod k s n p kids arms .nil));rw[<- hdx]at HX ⊢;obtain⟨kl,hl1⟩:=nW kids.len;obtain⟨al,hl3⟩:=nW arms.len;obtain⟨S,hS⟩:=nW (⟨s.toArray⟩:BA);obtain⟨NM,hNM⟩:=nW (⟨nm.toArray⟩:BA);rw[<- hl1,<- hl3,<- hS]at HX;rw[<- hl1,<- hl3,<- hS,<- hNM];clear hk ha hsz hc hfl hdx hl1 hl3 hS hNM;have hb1:Bel w (w.alloc (.cells #[.int .u8 kd,NM,q.a,q.l,q.c,.slice PA pl pc,.slice CA cl cc,.bool rc,.int .u8 k,S,n,p.a,p.l,p.c,.slice A kl c,.slice B al bc] 52)):=(Bel.refl w).alloc _;have HB1:=hid hb1;clear hb1;by_cases h2:kd=2
 ·subst h2
  rw[if_pos rfl];clear HC HCL HFL hcl;go_enter Tryz.func22,Tryz.ntmps22;go_wp2_with fail;refine (HX _ HB1).mono ?_;rintro e w5 ⟨rfl,hb5⟩;have HB5:=hid (HB1.on hb5);clear hb5;go_wp2_with fail;go_ret;exact⟨rfl,HB5⟩
 rw[if_neg h2];have k2:(kd==2)=false:=by simpa using h2
 have hq1:=blk1 w (.cells #[.int .u8 kd,NM,q.a,q.l,q.c,.slice PA pl pc,.slice CA cl cc,.bool rc,.int .u8 k,S,n,p.a,p.l,p.c,.slice A kl c,.slice B al bc] 52);clear HX h2;obtain⟨w1,hw1⟩:=nW (w.alloc (.cells #[.int .u8 kd,NM,q.a,q.l,q.c,.slice PA pl pc,.slice CA cl cc,.bool rc,.int .u8 k,S,n,p.a,p.l,p.c,.slice A kl c,.slice B al bc] 52));rw[<- hw1]at HB1 hq1;have HQ:=hid hq1;clear hq1;by_cases h1:kd=1
 case neg=>
  rw[if_neg h1];have k1:(kd==1)=false:=by simpa using h1
  clear h1;go_enter Tryz.func22,Tryz.ntmps22;go_wp2_with fail;rw[<- hw1];clear hw1;have HS1:Hid (w.heap.size<w1.heap.size):=hid (aJ.1 HQ).1;obtain⟨x0,x6⟩:=qgw HQ;have kb3:w.heap.size<w1.heap.size:=HS1.out;go_loopw [3,4] (fun v i wr=>v=.int .i64 0/\i=.int .i64 0/\Hid (wr=w1)) (fun _ i _=>0)
  case atStart=>exact⟨rfl,rfl,hid rfl⟩
  case round=>
   obtain⟨rfl,rfl,HW⟩:=hrel;obtain rfl:=HW.out;go_wp2_with fail;all_goals (go_ret;exact⟨rfl,HB1⟩)
 subst h1;rw[if_pos rfl];go_enter Tryz.func22,Tryz.ntmps22;go_wp2_with fail;rw[<- hw1];clear hw1;have HS1:Hid (w.heap.size<w1.heap.size):=hid (aJ.1 HQ).1;go_loopw [3,4] (fun v i wr=>∃ (j a:Nat),j<=cl/\v=.int .i64 (a:Int)/\i=.int .i64 (j:Int)/\Hid (a=(tysL (qy (cs.take j))).depth)/\Hid (Bel w1 wr)) (fun _ i _=>cl-(intOf i).toNat)
 case atStart=>exact⟨0,0,zL _,rfl,rfl,hid rfl,hid (Bel.refl _)⟩
 case round=>
  obtain⟨j,a,hj,rfl,rfl,HA,HB⟩:=hrel;obtain⟨x0,x6⟩:=qgw (HB.blk HQ);have kb3:w.heap.size<wr.heap.size:=lT HS1 HB.size;by_cases hlt:j<cl
  ·obtain⟨ub,uo,eB,hob,hfo⟩:=HC.2.2 (by omega)
   subst eB;obtain⟨x,hx⟩:∃ x,cs[j]?=some x:=⟨_,eG (by rw[<- HCL.out];exact hlt)⟩
   obtain⟨y0,y1,y2,y3,A',ca',y4,hff⟩:=hfo j x hx;obtain⟨cn,cp,fs⟩:=x;obtain⟨GX,GY,hgs,hgx⟩:=qej cs j _ hx;have HG1:Hid (qy (cs.take (j+1))=GX++fs):=hid (by rw[hgx];exact Qj cs j _ hx);have HGZ:Hid ((tysL GX).size+(tysL fs).size<=1000000):=hid (by
    have h1:=HFL.out;rw[hgs,j0,j0,Tr.app_size,Tr.app_size]at h1;simp only[]at h1;omega)
   rw[<- hgx]at HA;simp only[]at y4 hff;obtain⟨fl,hfl⟩:=nW fs.length;have HFN:=hid hfl;have hf8:fl<=1000000:=by have:=HGZ.out;have h3:=(tysL fs).len_le;rw[Jj]at h3;omega
   rw[<- hfl]at y4 hff;have HF:Hid (RowOf 8 FdAt w (OldT w) A' fl ca' fs):=hid hff;have HY4:=hid y4;have HOB:=hid hob;have i1:(0:Int)<=(j:Int):=by omega
   have i2:(j:Int)<(cl:Int):=by omega
   have HLT:=hid hlt;have HBR:=hid HB;clear hfo hob hx hgs hgx hfl hff y0 y1 y2 y3 y4 HB;go_wp2_with fail;clear x0 x6 kb3;go_loopw [3,5] (fun v i wi=>∃ (h a:Nat),h<=fl/\v=.int .i64 (a:Int)/\i=.int .i64 (h:Int)/\Hid (a=(tysL (GX++fs.take h)).depth)/\Hid (Bel w1 wi)) (fun _ i _=>fl-(intOf i).toNat)
   case atStart=>exact⟨0,a,zL _,rfl,rfl,hid (by rw[List.take_zero,aNn];exact HA),HBR⟩
   case round=>
    obtain⟨h,a,hh,rfl,rfl,HAI,HBI⟩:=hrel;obtain⟨x0,x6⟩:=qgw (HBI.blk HQ);have kb3:w.heap.size<wr.heap.size:=lT HS1 HBI.size;have hcw:=(Bel.cells (HB1.on HBI)).1;have y4:=(hcw ub _ HOB).trans HY4;have kb1:ub<wr.heap.size:=lT HOB (HB1.on HBI).size;by_cases hlt2:h<fl
    ·obtain⟨ub2,uo2,eB2,hob2,hfo2⟩:=HF.2.2 (by omega)
     subst eB2;obtain⟨y,hy⟩:∃ y,fs[h]?=some y:=⟨_,eG (by rw[<- HFN.out];exact hlt2)⟩
     obtain⟨A4,c4,hkk,z0,z1,z2,z3,z4,z5,z6,z7⟩:=(hfo2 h y hy).cells;have hys:=J7 fs h y hy;obtain⟨fm,fk,fs',fn,fp,fkids⟩:=y;simp only[]at hkk z0 z1 z2 z3 z4 z5 z6 z7 hys;have HAN:Hid (max a (1+fkids.depth)=(tysL (GX++fs.take (h+1))).depth):=hid (by
      rw[List.take_add_one,hy,Option.toList_some,<- aAa,j0,Tr.depth_app,<- HAI.out];simp only[tysL,Tr.depth];omega)
     have HT:Hid (∀ W,Bel wr W->Calls Tryz.prog 56 #[.agg #[.int .u8 fk,.string ⟨fs'.toArray⟩,.int .u8 fn,fp.a,fp.l,fp.c,.slice A4 fkids.len c4]] W (DepQ (1+fkids.depth) W)):=hid fun W hW=>
      qdU fkids.size fk fs' fn fp A4 fkids.len c4 fkids W rfl (hkk.bel ((HB1.on HBI).on hW)) (by have:=HGZ.out;omega)
     obtain⟨dy,hdy⟩:=nW (1+fkids.depth);rw[<- hdy]at HAN HT;replace z0:=(hcw ub2 _ hob2).trans z0;replace z1:=(hcw ub2 _ hob2).trans z1;replace z2:=(hcw ub2 _ hob2).trans z2;replace z3:=(hcw ub2 _ hob2).trans z3;replace z4:=(hcw ub2 _ hob2).trans z4;replace z5:=(hcw ub2 _ hob2).trans z5;replace z6:=(hcw ub2 _ hob2).trans z6;replace z7:=(hcw ub2 _ hob2).trans z7;have hob2':ub2<wr.heap.size:=lT hob2 (HB1.on HBI).size;obtain⟨l3,hl3⟩:=nW fkids.len;rw[<- hl3]at z7 HT;obtain⟨FJ,hFS⟩:=nW (⟨fs'.toArray⟩:BA);rw[<- hFS]at z2 HT;have j1:(0:Int)<=(h:Int):=by omega
     have j2:(h:Int)<(fl:Int):=by omega
     have HLT2:=hid hlt2;clear hcw hob2 hfo2 hy hkk hl3 hFS hys hdy;go_wp2_with fail;refine (HT _ (Bel.refl _)).mono ?_;rintro e w4 ⟨rfl,hb4⟩;have HB4:=hid (HBI.on hb4);clear hb4 x0 x6 y4 z0 z1 z2 z3 z4 z5 z6 z7 HT kb3 kb1 hob2';go_wp2_with fail;refine (Zb _ _ _).mono ?_;rintro e w5 ⟨rfl,hb5⟩;have HB5:=hid (HB4.on hb5);clear hb5;go_wp2_with fail;go_roundw
     case rel=>exact⟨h+1,max a dy,HLT2,(congrArg (Value.int .i64) (by omega)),by go_num,HAN,HB5⟩
     case measure=>exact mS HLT2
    ·obtain rfl:h=fl:=by omega
     have HAO:Hid (a=(tysL (qy (cs.take (j+1)))).depth):=hid (by
      have h:=HAI.out;rw[HFN.out,List.take_length]at h;rw[HG1.out];exact h)
     clear hcw;go_wp2_with fail;go_roundw
     case rel=>exact⟨j+1,a,HLT,rfl,by go_num,HAO,HBI⟩
     case measure=>exact mS HLT
  ·obtain rfl:j=cl:=by omega
   go_wp2_with fail;go_ret;refine⟨?_,HB1.on HB⟩;have h:=HA.out;rw[HCL.out,List.take_length]at h;rw[<- h];rfl
def sumW{α:Type}(g:α->Nat):List α->Nat
 | []=>0
 | x::xs=>g x+sumW g xs
theorem Zi{α:Type}(g:α->Nat)(xs:List α)(j:Nat)(x:α)(h:xs[j]?=some x):sumW g (xs.take (j+1))=sumW g (xs.take j)+g x:=by
 induction xs generalizing j with
 | nil=>cases h
 | cons y ys ih=>
  cases j with
  | zero=>simp only[List.getElem?_cons_zero,Option.some.injEq]at h;subst h;simp[sumW]
  | succ j=>simp only[List.getElem?_cons_succ]at h;simp only[List.take_succ_cons,sumW,ih j h];omega
theorem jU{α:Type}{xs:List α}{j:Nat}{x y:α}(h:xs[j]?=some x)(hy:y∈xs.take (j+1)):y∈xs.take j∨y=x:=by
 rw[List.take_add_one,h,Option.toList_some,List.mem_append]at hy;rcases hy with hy | hy
 ·exact .inl hy
 ·exact .inr (by simpa using hy)
def Fd.wt(x:Fd):Nat:=x.tr.wt
def Cd.wt(x:Cd):Nat:=1+x.nm.length / 64+sumW Fd.wt x.fs
def Dc.wt(x:Dc):Nat:=1+x.nm.length / 64+x.ps.length+x.tr.wt+sumW (fun s=>s.length / 64) x.ps+sumW Cd.wt x.cs
def Fd.deep(x:Fd):Prop:=x.tr.depth<=201
def Dc.deep(x:Dc):Prop:=x.tr.depth<=201/\∀ c∈x.cs,∀ f∈c.fs,f.deep
def Dc.upto(x:Dc):Prop:=x.nm.length<=1099511627776/\x.ps.length<=1048576/\(∀ s∈x.ps,s.length<=1099511627776)/\x.cs.length<=1048576/\(∀ c∈x.cs,c.nm.length<=1099511627776)/\(qy x.cs).length<=1048576/\x.tr.fit/\∀ c∈x.cs,∀ f∈c.fs,f.tr.fit
def SI(E:Nat)(D:Prop)(b:Int)(z:Int):Prop:=0<=z/\z<=b/\(z<=9000->z=(E:Int)/\D)
theorem SI.add{E:Nat}{D:Prop}{b z:Int}(h:SI E D b z){t:Nat}{c:Int}(ht:(t:Int)<=c):SI (E+t) D (b+c) (z+(t:Int)):=by
 obtain⟨h1,h2,h3⟩:=h;refine⟨by omega,by omega,fun h9=>?_⟩;obtain⟨a1,a2⟩:=h3 (by omega);exact⟨by omega,a2⟩
theorem SI.addQ{E:Nat}{D:Prop}{b z:Int}(h:SI E D b z){c:Int}{d:Nat}{g:Tr}{z':Int}(hz:ZQ c d g z'):SI (E+g.wt) (D/\g.depth+d<=201) (b+c) (z+z'):=by
 obtain⟨h1,h2,h3⟩:=h;obtain⟨g1,g2,g3⟩:=hz;refine⟨by omega,by omega,fun h9=>?_⟩;obtain⟨a1,a2⟩:=h3 (by omega);obtain⟨b1,b2⟩:=g3 (by omega);exact⟨by omega,a2,b2⟩
theorem SI.to{E E':Nat}{D D':Prop}{b b' z:Int}(h:SI E D b z)(hE:E=E')(hD:D->D')(hb:b<=b'):SI E' D' b' z:=
 ⟨h.1,Int.le_trans h.2.1 hb,fun h9=>⟨by rw[<- hE];exact (h.2.2 h9).1,hD (h.2.2 h9).2⟩⟩
def DsQ(l:List Dc)(w:World):Ending->World->Prop:=fun e w'=>∃ z:Int,e=.returned (.int .i64 z)/\0<=z/\(z<=9000->z=(sumW Dc.wt l:Int)/\∀ x∈l,x.deep)/\Bel w w'
theorem qgs(cs:List Cd)(j:Nat)(c:Cd)(h:cs[j]?=some c):(qy (cs.take j)).length+c.fs.length<=(qy cs).length:=by
 have h1:=Qj cs j c h;have h2:=qcv cs (j+1);rw[h1,lA]at h2;exact h2
theorem qfU(A:OA)(n c:Nat)(l:List Dc)(w:World)(hk:RowOf 16 DcAt w (OldT w) A n c l)(hn:n<=1048576)(hu:∀ x∈l,x.upto) :
  Calls Tryz.prog 5 #[.slice A n c] w (DsQ l w):=by
 have H:=hid hk;have HL:Hid (n=l.length):=hid hk.1;have HU:=hid hu;clear hk hu;go_enter Tryz.func5,Tryz.ntmps5;go_wp2_with fail;go_loopw [3,4] (fun s i wr=>∃ (j:Nat) (z:Int),j<=n/\i=.int .i64 (j:Int)/\s=.int .i64 z/\Hid (0<=z/\z<=9000/\z=(sumW Dc.wt (l.take j):Int)/\∀ x∈l.take j,x.deep)/\Hid (Bel w wr)) (fun _ i _=>n-(intOf i).toNat)
 case atStart=>exact⟨0,0,zL _,rfl,rfl,hid ⟨by decide,by decide,rfl,fun x hx=>by simp at hx⟩,hid (Bel.refl _)⟩
 case round=>
  obtain⟨j,z,hj,rfl,rfl,HZ,HB⟩:=hrel;by_cases hlt:j<n
  ·obtain⟨ub,uo,eA,hob,hfo⟩:=H.2.2 (by omega)
   subst eA;obtain⟨x,hx⟩:∃ x,l[j]?=some x:=⟨_,eG (by rw[<- HL.out];exact hlt)⟩
   have hd:=hfo j x hx;have hux:=HU.out x (mGg hx);have HWT:Hid (sumW Dc.wt (l.take (j+1))=sumW Dc.wt (l.take j)+x.wt):=hid (Zi _ _ _ _ hx);have HMT:Hid (∀ y∈l.take (j+1),y∈l.take j∨y=x):=hid fun y hy=>jU hx hy;obtain⟨PA,pc,CA,cc,A',ca',B',cb',hp,hcc,hkk,haa,y0,y1,y2,y3,y4,y5,y6,y7,y8,y9,y10,y11,y12,y13,y14,y15⟩:=hd.cells;obtain⟨kd,nm,q,ps,cs,rc,k,s,nn,p,kids,arms⟩:=x;simp only[]at hp hcc hkk haa y1 y5 y6 y8 y9 y10 y11 y12 y13 y14 y15;obtain⟨hu1,hu2,hu3,hu4,hu5,hu6,hu7,hu8⟩:=hux;simp only[]at hu1 hu2 hu3 hu4 hu5 hu6 hu8;obtain⟨g,hg⟩:=nW (Tr.nod k s nn p kids arms .nil);have HX:∀ W,Bel wr.drew W->Calls Tryz.prog 6 #[.agg #[.int .u8 k,.string ⟨s.toArray⟩,nn,p.a,p.l,p.c,.slice A' kids.len ca',.slice B' arms.len cb'],(0:Int)] W (QL (capX 0) 0 g W):=fun W hW=>by
    have hW':Bel w W:=HB.on ((Bel.refl wr).drew.on hW);rw[hg];exact JB (kids.size+arms.size) 0 k s nn p A' kids.len ca' kids B' arms.len cb' arms W rfl (hkk.bel hW') (haa.bel hW') (by omega) hu7.1 hu7.2.1 hu7.2.2.1 hu7.2.2.2.1 hu7.2.2.2.2.1
   have HP:=hid hp;have HC:=hid hcc;have HU3:=hid hu3;have HU5:=hid (And.intro hu5 (And.intro hu6 hu8));have HXW:Hid (Dc.wt ⟨kd,nm,q,ps,cs,rc,k,s,nn,p,kids,arms⟩=1+nm.length / 64+ps.length+g.wt+sumW (fun s=>s.length / 64) ps+sumW Cd.wt cs):=hid (by rw[hg];rfl);have HXD:Hid (g.depth<=201->(∀ c∈cs,∀ f∈c.fs,f.deep)->Dc.deep ⟨kd,nm,q,ps,cs,rc,k,s,nn,p,kids,arms⟩):=hid (by rw[hg];exact fun a b=>⟨a,b⟩);obtain⟨l1,hl1⟩:=nW kids.len;obtain⟨l3,hl3⟩:=nW arms.len;obtain⟨pl,hl5⟩:=nW ps.length;obtain⟨cl,hl7⟩:=nW cs.length;have HPL:=hid hl5;have HCL:=hid hl7;rw[<- hl1,<- hl3]at HX;rw[<- hl1]at y14;rw[<- hl3]at y15;rw[<- hl5]at y5 HP hu2;rw[<- hl7]at y6 HC hu4;obtain⟨SS,hSS⟩:=nW (⟨s.toArray⟩:BA);rw[<- hSS]at y9 HX;obtain⟨u,hu0⟩:=nW (nm.length / 64:Nat);have HUN:=hid hu0;obtain⟨NM,hNM⟩:=nW (⟨nm.toArray⟩:BA);have hnu:NM.size / 64=u:=by rw[hNM,hu0];simp[ByteArray.size]
   have hu17:u<=17179869184:=by omega
   rw[<- hNM]at y1;have hcw:=(Bel.cells HB).1;replace y1:=(hcw ub _ hob).trans y1;replace y5:=(hcw ub _ hob).trans y5;have HY6:=hid y6;have HY5:=hid y5;have HOB:=hid hob;replace y8:=(hcw ub _ hob).trans y8;replace y9:=(hcw ub _ hob).trans y9;replace y10:=(hcw ub _ hob).trans y10;replace y11:=(hcw ub _ hob).trans y11;replace y12:=(hcw ub _ hob).trans y12;replace y13:=(hcw ub _ hob).trans y13;replace y14:=(hcw ub _ hob).trans y14;replace y15:=(hcw ub _ hob).trans y15;have kb1:ub<wr.heap.size:=lT hob HB.size;have i1:(0:Int)<=(j:Int):=by omega
   have i2:(j:Int)<(n:Int):=by omega
   have HLT:=hid hlt;have HY5w:Hid (w.cell? ⟨ub,uo+j*16+5,none⟩=some (.slice PA pl pc)):=hid (by have:=hd.cells;exact ((hcw ub _ hob).symm.trans y5));clear hfo hx hd y0 y2 y3 y4 y6 y7 hp hcc hkk haa hu1 hu3 hu5 hu6 hu7 hu8 hg hl1 hl3 hl5 hl7 hSS hNM hu0 hcw hob;go_wp2_with fail;refine qfB ub uo n c j u pl pc z k nn p.a p.l p.c NM SS PA A' B' l1 ca' l3 cb' g _ wr i1 i2 HZ.1 HZ.2.1 hnu hu17 hu2 kb1 y1 y5 y8 y9 y10 y11 y12 y13 y14 y15 HX _ ?_;rintro V w4 hb4 ⟨z1,hv,HZ1⟩;simp only[finP,zz,Nat.reduceAdd,jA,jB,jC,jD,jE,regSd,jF,jG,hv];have HB4:=hid (HB.drew.on hb4);have HS5:Hid (SI (sumW Dc.wt (l.take j)+(1+u+pl+g.wt)) ((∀ x∈l.take j,x.deep)/\g.depth<=201) 4000000000000000 (z+1+(u:Int)+(pl:Int)+z1)):=hid (by
    have h0:SI (sumW Dc.wt (l.take j)) (∀ x∈l.take j,x.deep) 9000 z:=⟨HZ.1,HZ.2.1,fun _=>⟨HZ.2.2.1,HZ.2.2.2⟩⟩
    have h1:=(((h0.add (t:=1) (c:=1) (by decide)).add (t:=u) (c:=17179869184) (by omega)).add (t:=pl) (c:=1048576) (by omega)).addQ HZ1;refine h1.to (by omega) (fun h=>⟨h.1,by omega⟩) (by unfold capX;omega))
   clear hb4 hv HZ1 HX y1 y5 y8 y9 y10 y11 y12 y13 y14 y15 kb1 HB hnu;obtain⟨z5,hz5⟩:=nW (z+1+(u:Int)+(pl:Int)+z1);rw[<- hz5]at HS5 ⊢;clear hz5;obtain⟨E5,hE5⟩:=nW (sumW Dc.wt (l.take j)+(1+u+pl+g.wt));rw[<- hE5]at HS5;have HE5:=hid hE5;clear hE5;go_wp2_with fail;obtain⟨D5,hD5⟩:=nW (((∀ x∈l.take j,x.deep)/\g.depth<=201):Prop);rw[<- hD5]at HS5;have HD5:=hid hD5;clear hD5;go_loopw [3,5] (fun s i wr=>∃ (h:Nat) (z:Int),h<=pl/\i=.int .i64 (h:Int)/\s=.int .i64 z/\Hid (SI (E5+sumW (fun s=>s.length / 64) (ps.take h)) D5 (4000000000000000+(h:Int)*17179869184) z)/\Hid (Bel w wr)) (fun _ i _=>pl-(intOf i).toNat)
   case atStart=>exact⟨0,z5,zL _,rfl,rfl,hid (HS5.out.to (by simp[sumW]) id (by omega)),HB4⟩
   case round=>
    obtain⟨h,z6,hh,rfl,rfl,HZ6,HBI⟩:=hrel;have hcw:=(Bel.cells HBI).1;have x5:=(hcw ub _ HOB).trans HY5w;have kb1:ub<wr.heap.size:=lT HOB HBI.size;by_cases hlt2:h<pl
    ·obtain⟨ub2,uo2,eB2,hob2,hfo2⟩:=HP.2.2 (by omega)
     subst eB2;obtain⟨y,hy⟩:∃ y,ps[h]?=some y:=⟨_,eG (by rw[<- HPL.out];exact hlt2)⟩
     have e1:=hfo2 h y hy;unfold SAt at e1;rw[Nat.mul_one]at e1;replace e1:=(hcw ub2 _ hob2).trans e1;have hyl:=HU3.out y (mGg hy);obtain⟨t,ht⟩:=nW (y.length / 64:Nat);have ht17:t<=17179869184:=by omega
     have HN6:Hid (SI (E5+sumW (fun s=>s.length / 64) (ps.take (h+1))) D5 (4000000000000000+((h+1:Nat):Int)*17179869184) (z6+(t:Int))):=hid ((HZ6.out.add (t:=t) (c:=17179869184) (by omega)).to (by rw[Zi _ _ _ _ hy,ht];omega) id (by omega));have hq:wrap64 (z6+wrap64 ((y.length:Int) / 64))=z6+(t:Int):=by
      have h1:=HZ6.1;have h2:=HZ6.2.1;have e1:(y.length:Int) / 64=(t:Int):=by omega
      rw[e1,IntWalk.wrap64_in (t:Int) (by omega),IntWalk.wrap64_in _ (by omega)]
     have HQ6:=hid hq;have kb2:ub2<wr.heap.size:=lT hob2 HBI.size;have j1:(0:Int)<=(h:Int):=by omega
     have j2:(h:Int)<(pl:Int):=by omega
     have HLT2:=hid hlt2;clear hfo2 hy hob2 hcw ht hyl hq;go_wp2_with fail;go_roundw
     case rel=>exact⟨h+1,z6+(t:Int),HLT2,by go_num,(by first | rfl | rw[HQ6.out]),HN6,HBI⟩
     case measure=>exact mS HLT2
    ·obtain rfl:h=pl:=by omega
     obtain⟨E6,hE6⟩:=nW (E5+sumW (fun s=>s.length / 64) ps);have HZ7:Hid (SI E6 D5 22100000000000000 z6):=hid (HZ6.out.to (by rw[HPL.out,List.take_length,hE6]) id (by omega));have HE6:=hid hE6;clear hE6 hcw HZ6;go_wp2_with fail;clear x5 kb1;go_loopw [3,6] (fun s i wr=>∃ (h:Nat) (z:Int),h<=cl/\i=.int .i64 (h:Int)/\s=.int .i64 z/\Hid (SI (E6+sumW Cd.wt (cs.take h)) (D5/\∀ c∈cs.take h,∀ f∈c.fs,f.deep) (22100000000000000+(h:Int)*17179869185+((qy (cs.take h)).length:Int)*4398048329306) z)/\Hid (Bel w wr)) (fun _ i _=>cl-(intOf i).toNat)
     case atStart=>exact⟨0,z6,zL _,rfl,rfl,hid (HZ7.out.to (by simp[sumW]) (fun h=>⟨h,fun c hc=>by simp at hc⟩) (by simp[qy])),HBI⟩
     case round=>
      obtain⟨h,z8,hh,rfl,rfl,HZ8,HBJ⟩:=hrel;have hcw:=(Bel.cells HBJ).1;have x6:=(hcw ub _ HOB).trans HY6;have kb1:ub<wr.heap.size:=lT HOB HBJ.size;by_cases hlt3:h<cl
      ·obtain⟨ub3,uo3,eB3,hob3,hfo3⟩:=HC.2.2 (by omega)
       subst eB3;obtain⟨x,hx⟩:∃ x,cs[h]?=some x:=⟨_,eG (by rw[<- HCL.out];exact hlt3)⟩
       obtain⟨e0,e1,e2,e3,FA,fc,e4,hff⟩:=hfo3 h x hx;have hxm:=mGg hx;have hnl:=HU5.1 x hxm;have HFF:=hid (HU5.2.2 x hxm);have HCW:Hid (sumW Cd.wt (cs.take (h+1))=sumW Cd.wt (cs.take h)+(1+x.nm.length / 64+sumW Fd.wt x.fs)):=hid (Zi _ _ _ _ hx);have HMC:Hid (∀ y∈cs.take (h+1),y∈cs.take h∨y=x):=hid fun y hy=>jU hx hy;have HFA:Hid ((qy (cs.take (h+1))).length=(qy (cs.take h)).length+x.fs.length):=hid (by rw[Qj cs h x hx,lA]);have HFB:Hid ((qy (cs.take h)).length+x.fs.length<=1048576):=hid (lL (qgs cs h x hx) HU5.2.1);obtain⟨cn,cp,fs⟩:=x;simp only[]at e0 e4 hff hnl;simp only[]at HFF HCW HFA HFB;obtain⟨F,hF⟩:=nW ((qy (cs.take h)).length);rw[<- hF]at HFA HFB HZ8;obtain⟨t,ht⟩:=nW (cn.length / 64:Nat);have ht17:t<=17179869184:=by omega
       rw[<- ht]at HCW;obtain⟨fl,hfl⟩:=nW fs.length;have HFN:=hid hfl;rw[<- hfl]at e4 hff HFA HFB;have HF:Hid (RowOf 8 FdAt w (OldT w) FA fl fc fs):=hid hff;have HE4:=hid e4;have HOB3:=hid hob3;replace e0:=(hcw ub3 _ hob3).trans e0;replace e4:=(hcw ub3 _ hob3).trans e4;obtain⟨EC,hEC⟩:=nW (E6+sumW Cd.wt (cs.take h)+1+t);obtain⟨DC,hDC⟩:=nW ((D5/\∀ c∈cs.take h,∀ f∈c.fs,f.deep):Prop);have HN8:Hid (SI EC DC (22100000000000000+((h+1:Nat):Int)*17179869185+(F:Int)*4398048329306) (z8+1+(t:Int))):=hid (((HZ8.out.add (t:=1) (c:=1) (by decide)).add (t:=t) (c:=17179869184) (by omega)).to (by rw[hEC]) (by rw[hDC];exact id) (by omega));have hq:wrap64 (wrap64 (z8+1)+wrap64 ((cn.length:Int) / 64))=z8+1+(t:Int):=by
        have h1:=HZ8.1;have h2:=HZ8.2.1;have h3:=HFB.out;have e1:(cn.length:Int) / 64=(t:Int):=by omega
        rw[e1,IntWalk.wrap64_in (t:Int) (by omega),IntWalk.wrap64_in (z8+1) (by omega),IntWalk.wrap64_in _ (by omega)]
       have HQ8:=hid hq;have HEC:=hid hEC;have HDC:=hid hDC;have kb3:ub3<wr.heap.size:=lT hob3 HBJ.size;have hh8:h<=1048576:=by omega
       have j1:(0:Int)<=(h:Int):=by omega
       have j2:(h:Int)<(cl:Int):=by omega
       have HLT3:=hid hlt3;clear hfo3 hx hxm hob3 hcw ht hnl hq hEC hDC hfl hff e1 e2 e3 hF HZ8;have fl8:fl<=1048576:=by have:=HFB.out;omega
       go_wp2_with fail;try rw[HQ8.out]
       clear x6 e0 e4 kb1 kb3;go_loopw [3,7] (fun s i wr=>∃ (b:Nat) (z:Int),b<=fl/\i=.int .i64 (b:Int)/\s=.int .i64 z/\Hid (SI (EC+sumW Fd.wt (fs.take b)) (DC/\∀ f∈fs.take b,f.deep) (22100000000000000+((h+1:Nat):Int)*17179869185+(F:Int)*4398048329306+(b:Int)*4398048329306) z)/\Hid (Bel w wr)) (fun _ i _=>fl-(intOf i).toNat)
       case atStart=>exact⟨0,z8+1+(t:Int),zL _,rfl,rfl,hid (HN8.out.to (by simp[sumW]) (fun h=>⟨h,fun c hc=>by simp at hc⟩) (by omega)),HBJ⟩
       case round=>
        obtain⟨b,z9,hb,rfl,rfl,HZ9,HBK⟩:=hrel;have hcw:=(Bel.cells HBK).1;have x6:=(hcw ub _ HOB).trans HY6;have e4:=(hcw ub3 _ HOB3).trans HE4;have kb1:ub<wr.heap.size:=lT HOB HBK.size;have kb3:ub3<wr.heap.size:=lT HOB3 HBK.size;by_cases hlt4:b<fl
        ·obtain⟨ub4,uo4,eB4,hob4,hfo4⟩:=HF.2.2 (by omega)
         subst eB4;obtain⟨y,hy⟩:∃ y,fs[b]?=some y:=⟨_,eG (by rw[<- HFN.out];exact hlt4)⟩
         have hyf:=HFF.out y (mGg hy);have HFW:Hid (sumW Fd.wt (fs.take (b+1))=sumW Fd.wt (fs.take b)+y.tr.wt):=hid (Zi _ _ _ _ hy);have HMF:Hid (∀ v∈fs.take (b+1),v∈fs.take b∨v=y):=hid fun v hv=>jU hy hv;obtain⟨A4,c4,hkk4,v0,v1,v2,v3,v4,v5,v6,v7⟩:=(hfo4 b y hy).cells;have HT:Hid (∀ W,Bel wr W->Calls Tryz.prog 16 #[.agg #[.int .u8 y.k,.string ⟨y.s.toArray⟩,.int .u8 y.n,y.p.a,y.p.l,y.p.c,.slice A4 y.kids.len c4],(0:Int)] W (QL (capP 0) 0 y.tr W)):=hid fun W hW=>
          qch y.kids.size 0 y.k y.s y.n y.p A4 y.kids.len c4 y.kids W rfl (hkk4.bel (HBK.on hW)) (by omega) hyf.1 hyf.2.1 hyf.2.2.2.1
         have HYD:Hid (y.tr.depth+0<=201->y.deep):=hid fun h=>h;obtain⟨g4,hg4⟩:=nW y.tr;rw[<- hg4]at HFW HT HYD;obtain⟨fm,fk,fs',fn,fp,fkids⟩:=y;simp only[]at v0 v1 v2 v3 v4 v5 v6 v7;simp only[]at HT;replace v0:=(hcw ub4 _ hob4).trans v0;replace v1:=(hcw ub4 _ hob4).trans v1;replace v2:=(hcw ub4 _ hob4).trans v2;replace v3:=(hcw ub4 _ hob4).trans v3;replace v4:=(hcw ub4 _ hob4).trans v4;replace v5:=(hcw ub4 _ hob4).trans v5;replace v6:=(hcw ub4 _ hob4).trans v6;replace v7:=(hcw ub4 _ hob4).trans v7;have kb4:ub4<wr.heap.size:=lT hob4 HBK.size;obtain⟨l4,hl4⟩:=nW fkids.len;rw[<- hl4]at v7 HT;obtain⟨FJ,hFS⟩:=nW (⟨fs'.toArray⟩:BA);rw[<- hFS]at v2 HT;have k1:(0:Int)<=(b:Int):=by omega
         have k2:(b:Int)<(fl:Int):=by omega
         have HLT4:=hid hlt4;clear hfo4 hy hyf hkk4 hob4 hl4 hFS hg4 hcw;go_wp2_with fail;refine (HT _ (Bel.refl _)).mono ?_;rintro e w5 ⟨z',rfl,hz1,hz2,hz3,hb5⟩;have HB5:=hid (HBK.on hb5);have HZQ:Hid (ZQ (capP 0) 0 g4 z'):=hid ⟨hz1,hz2,hz3⟩;have HN9:Hid (SI (EC+sumW Fd.wt (fs.take (b+1))) (DC/\∀ f∈fs.take (b+1),f.deep) (22100000000000000+((h+1:Nat):Int)*17179869185+(F:Int)*4398048329306+((b+1:Nat):Int)*4398048329306) (z9+z')):=hid ((HZ9.out.addQ HZQ).to (by rw[HFW.out];omega) (fun hh=>⟨hh.1.1,fun f hf=>by
          rcases HMF.out f hf with h | h
          ·exact hh.1.2 f h
          ·rw[h];exact HYD hh.2⟩) (by unfold capP;omega))
         have hw2:wrap64 (z9+z')=z9+z':=IntWalk.wrap64_in _ (by
          have h1:=HZ9.1;have h2:=HZ9.2.1;have h3:=HFB.out;have h4:=HLT4.out;unfold capP at hz2;omega)
         have HW2:=hid hw2;clear hb5 hz1 hz2 hz3 x6 e4 kb1 kb3 kb4 v0 v1 v2 v3 v4 v5 v6 v7 HT hw2;go_wp2_with fail;go_roundw
         case rel=>exact⟨b+1,z9+z',HLT4,by go_num,(by first | rfl | rw[HW2.out]),HN9,HB5⟩
         case measure=>exact mS HLT4
        ·obtain rfl:b=fl:=by omega
         have HNA:Hid (SI (E6+sumW Cd.wt (cs.take (h+1))) (D5/\∀ c∈cs.take (h+1),∀ f∈c.fs,f.deep) (22100000000000000+((h+1:Nat):Int)*17179869185+((qy (cs.take (h+1))).length:Int)*4398048329306) z9):=hid (HZ9.out.to (by rw[HCW.out,HFN.out,List.take_length,HEC.out];omega) (fun hh=>by
           have h1:=hh.1;rw[HDC.out]at h1;refine⟨h1.1,fun c hc=>?_⟩;rcases HMC.out c hc with h | h
           ·exact h1.2 c h
           ·rw[h]
            have h2:=hh.2;rw[HFN.out,List.take_length]at h2;exact h2) (by rw[HFA.out];omega))
         clear hcw;go_wp2_with fail;go_roundw
         case rel=>exact⟨h+1,z9,HLT3,by go_num,rfl,HNA,HBK⟩
         case measure=>exact mS HLT3
      ·obtain rfl:h=cl:=by omega
       clear hcw;by_cases h9:z8<=9000
       ·have HZN:Hid (0<=z8/\z8<=9000/\z8=(sumW Dc.wt (l.take (j+1)):Int)/\∀ x∈l.take (j+1),x.deep):=hid (by
         obtain⟨a1,a2,a3⟩:=HZ8.out;obtain⟨b1,b2,b3⟩:=a3 h9;rw[HCL.out,List.take_length]at b1 b3;rw[HD5.out]at b2;refine⟨a1,h9,?_,fun x hx=>?_⟩
         ·rw[b1,HWT.out,HXW.out,HE6.out,HE5.out,HUN.out,HPL.out]
          omega
         ·rcases HMT.out x hx with h | h
          ·exact b2.1 x h
          ·rw[h];exact HXD b2.2 b3)
        have hn9:¬ (9000<z8):=by omega
        clear HZ8;go_wp2_with fail;go_roundw
        case rel=>exact⟨j+1,z8,HLT,by go_num,rfl,HZN,HBJ⟩
        case measure=>exact mS HLT
       ·have hn9:9000<z8:=by omega
        go_wp2_with fail;go_ret;exact⟨z8,rfl,HZ8.1,fun h=>absurd h (by omega),HBJ⟩
  ·obtain rfl:j=n:=by omega
   go_wp2_with fail;go_ret;exact⟨z,rfl,HZ.1,fun _=>by have h:=HZ.2.2;rw[HL.out,List.take_length]at h;exact h,HB⟩
theorem qgI(u:UInt8):(escB u).length<=2:=by
 unfold escB;repeat' split
 all_goals simp
theorem qeV:∀ s:LU,(s.flatMap escB).length<=2*s.length
 | []=>lR _
 | u::s=>by
  rw[List.flatMap_cons,lA,lC];have:=qgI u;have:=qeV s;omega
theorem qhh{k:Int}{s:LU}{n:Int}(h:n<=9223372036854775807):(putB k s n).length<=128*(s.length / 64)+150:=by
 unfold putB;split
 ·have:=QS 19 n.toNat (by omega)
  omega
 split
 ·have:=qeV s
  simp only[lC,lA,lNn];omega
 ·omega
theorem jZ{k:Int}{s:LU}{n:Int}(h:n<=9223372036854775807)(F:List Tn):(sfx (tk0 k s n::F)).length<=128*(s.length / 64)+151+(sfx F).length:=by
 rw[qp,lA,lC];have:=qhh (k:=k) (s:=s) h;show (putB k s n).length+1+_<=_;omega
theorem zq(F G:List Tn):(sfx (F++G)).length=(sfx F).length+(sfx G).length:=by rw[qz,lA]
theorem ZS{t:Tn}(h:(putB t.k t.s t.n).length<=5)(F:List Tn):(sfx (t::F)).length<=6+(sfx F).length:=by
 rw[qp,lA,lC];omega
theorem qc6(al:Bool)(F:List Tn):(sfx (brkL al F)).length<=4+(sfx F).length:=by
 rw[jX];split
 ·omega
 ·simp only[lA,lC,lNn];omega
theorem qi2(md:Nat)(k:Int)(l:Nat)(F:List Tn):(sfx (brkM md k l F)).length<=4+(sfx F).length:=by
 unfold brkM;repeat' split
 ·omega
 ·exact qc6 _ _
 ·exact qc6 _ _
theorem qbI{k:Int}{s:LU}{n:Int}{K:List Tn}(h:n<=9223372036854775807):(sfx (qr k s n K)).length<=128*(s.length / 64)+151+(sfx K).length:=by
 unfold qr;split
 ·have:=ZS (t:=tk0 5 [95] 0) (by decide) []
  rw[qk]at this;simp only[lNn]at this;omega
 ·exact jZ h K
theorem qaR:∀ f:Tr,f.ints->(sfx f.patK).length<=200*f.wt
 | .nil,_=>zL _
 | .arm ..,_=>zL _
 | .nod k s n p kids arms r,⟨h0,h1,_,h3⟩=>by
  rw[qaT,zq];have a1:=qaR kids h1;have a2:=qaR r h3;have a3:=qc6 (alnP k kids.len) (qr k s n kids.patK);have a4:=qbI (k:=k) (s:=s) (K:=kids.patK) h0.2.2;simp only[Tr.wt];omega
theorem qhu(n:Int):(sfx [zi n]).length<=6:=by
 have:(putB (zi n).k (zi n).s (zi n).n).length<=5:=by
  unfold zi;repeat' split
  all_goals decide
 have:=ZS this [];rw[qk]at this;simpa using this
theorem qhv(n:Int)(F:List Tn):(sfx (zg n::F)).length<=6+(sfx F).length:=by
 refine ZS ?_ F;unfold zg;split
 ·have e:putB (tk0 3 [] 1).k (tk0 3 [] 1).s (tk0 3 [] 1).n=digB 1:=rfl
  rw[e];have:=QS 0 1 (by decide);omega
 split
 ·decide
 ·decide
theorem qa2:∀ (f:Tr) (sep:List Tn),f.ints->(sfx (f.tyK sep)).length<=200*f.wt+(sfx sep).length
 | .nil,_,_=>zL _
 | .arm ..,_,_=>zL _
 | .nod k s n p kids arms r,sep,⟨h0,h1,_,h3⟩=>by
  rw[jz,zq,zq];have a2:=qa2 r [] h3;have a3:=qc6 (alnT k kids.len) (qv k s n kids);have a4:(sfx (qv k s n kids)).length<=128*(s.length / 64)+160+200*kids.wt:=by
   unfold qv;split
   ·have a1:=qa2 kids [zi n] h1
    have:=qhu n;omega
   ·have a1:=qa2 kids [] h1
    have:=jZ (k:=(tyR k).1) (s:=s) (n:=0) (by decide) (kids.tyK []);rw[qk]at a1;simp only[lNn]at a1;omega
  rw[qk]at a2;simp only[Tr.wt,lNn]at a2 ⊢;omega
theorem sl1{t:Tn}(h:(putB t.k t.s t.n).length<=5):(sfx [t]).length<=6:=by
 have:=ZS h [];rw[qk]at this;simpa using this
theorem jg:∀ (f:Tr) (md:Nat) (sep:List Tn),f.ints->(sfx (f.exK md sep)).length<=200*f.wt+(sfx sep).length
 | .nil,_,_,_=>zL _
 | .arm k s n p kids e r,md,sep,⟨h0,h1,h2,h3⟩=>by
  show (sfx (sep++qr k s n kids.patK++[jn]++e.exK 0 []++r.exK 0 [jq])).length<=_;rw[zq,zq,zq,zq];have a1:=qaR kids h1;have a2:=jg e 0 [] h2;have a3:=jg r 0 [jq] h3;have a4:=qbI (k:=k) (s:=s) (K:=kids.patK) h0.2.2;have a5:=sl1 (t:=jq) (by decide);have a6:=sl1 (t:=jn) (by decide);rw[qk]at a2;simp only[Tr.wt,lNn]at a2 ⊢;omega
 | .nod k s n p kids arms r,md,sep,⟨h0,h1,h2,h3⟩=>by
  rw[zk,zq,zq];have b0:=jg kids 0 [] h1;have b1:=jg kids 1 [] h1;have b2:=jg kids 2 [] h1;have b3:=jg kids 0 [kwIn] h1;have b4:=jg kids 2 [tk0 5 s n] h1;have b5:=jg arms 0 [jj] h2;have b6:=jg r (nxM md) [] h3;have b7:=qi2 md k kids.len (qe k s n kids arms);have c1:=sl1 (t:=kwIn) (by decide);have c2:=sl1 (t:=jj) (by decide);have c3:=jZ (k:=5) (s:=s) h0.2.2 [];rw[qk]at b0 b1 b2 b6 c3;simp only[lNn,nZz]at b0 b1 b2 b6 c3;have b8:(sfx (qe k s n kids arms)).length<=128*(s.length / 64)+190+200*kids.wt+200*arms.wt:=by
   unfold qe;have d1:=fun F=>jZ (k:=1) (s:=s) (n:=0) (by decide) F;have d2:=fun F=>ZS (t:=Q5) (by decide) F;have d3:=fun F=>ZS (t:=jn) (by decide) F;have d4:=fun F=>ZS (t:=zm) (by decide) F;have d5:=fun F=>ZS (t:=zY) (by decide) F;have d6:=fun F=>ZS (t:=kwEq) (by decide) F;repeat' split
   ·have:=d2 (tk0 1 s 0::jn::kids.exK 0 []);have:=d1 (jn::kids.exK 0 []);have:=d3 (kids.exK 0 []);omega
   ·have:=d4 (tk0 1 s 0::kwEq::kids.exK 0 [kwIn]);have:=d1 (kwEq::kids.exK 0 [kwIn]);have:=d6 (kids.exK 0 [kwIn]);omega
   ·have:=d4 (zY::tk0 1 s 0::kwEq::kids.exK 0 [kwIn]);have:=d5 (tk0 1 s 0::kwEq::kids.exK 0 [kwIn]);have:=d1 (kwEq::kids.exK 0 [kwIn]);have:=d6 (kids.exK 0 [kwIn]);omega
   ·have e1:=ZS (t:=jK) (by decide) (kids.exK 0 [])
    have e2:=sl1 (t:=kwOf) (by decide);have e3:=sl1 (t:=zH) (by decide);rw[zq,zq,zq];omega
   ·omega
   ·omega
   ·have:=jZ (k:=(exR k s).1) (s:=s) h0.2.2 (kids.exK 2 [])
    omega
  simp only[Tr.wt];omega
theorem qeg(base wp:Nat)(xs ls:List Tn)(g cp:Nat)(t:TypeId)(w0 W0 W:World)(hW:Bel w0 W0)(hwp:w0.heap.size<=wp)(hw:Wri W0 base wp xs)(hb:Bel W0 W)(hx:xs.length<=5000)(hl:ls.length<=900)(h0:0<ls.length)(hg:W.heap[g]?=some (.cells (jm ls).toArray t (0,0)))(h1:∀ u∈jm ls,u.oneCell'=true) :
  Calls Tryz.prog 43 #[.pointer (some ⟨wp,0,none⟩),.slice (some ⟨g,0,none⟩) ls.length cp] W (WrQ w0 base wp xs ls W0):=by
 have h:=qhI base wp xs ls ⟨g,0,none⟩ ls.length cp w0 W (hW.on hb) hwp (hw.bel hb) (by omega) (by omega) rfl h0 (fun j u hu=>by
  rw[Addr.add_lit];unfold World.cell?
  simp only[hg];simpa using hu) h1
 refine h.mono ?_;rintro e w' ⟨rfl,hb',hw',hk'⟩;refine⟨rfl,hb',⟨_,hw',WrR.put xs ls,?_⟩,(KpW.of_bel hw.lt hb).on hk'⟩;unfold qgp;split
 ·rw[lA];omega
 ·exact hx
theorem zM(ls:List Tn):∀ u∈jm ls,u.oneCell'=true:=by
 intro u hu;obtain⟨x,_,hx⟩:=List.mem_flatMap.1 hu;unfold Tn.cells at hx;simp at hx;rcases hx with rfl | rfl | rfl | rfl | rfl | rfl <;> rfl
theorem qhd(base wp:Nat)(k:Int)(s:LU)(n:Int)(xs:List Tn)(w0 W:World)(hW:Bel w0 W)(hwp:w0.heap.size<=wp)(hw:Wri W base wp xs)(hx:xs.length<=5000)(cp:Nat) :
  Calls Tryz.prog 43 #[.pointer (some ⟨wp,0,none⟩),.slice (some ⟨W.heap.size,0,none⟩) 1 cp] (W.alloc (.cells #[.int .u8 k,.string ⟨s.toArray⟩,n,(0:Int),(0:Int),(0:Int)] 85)) (WrQ w0 base wp xs [tk0 k s n] W):=
 qeg base wp xs [tk0 k s n] W.heap.size cp _ w0 W _ hW hwp hw ((Bel.refl W).alloc _) hx (by simp) (by simp) (blk1 W _) (zM _)
theorem qhe(base wp:Nat)(k:Int)(s:LU)(n:Int)(k2:Int)(s2:LU)(n2:Int)(xs:List Tn)(w0 W:World)(hW:Bel w0 W)(hwp:w0.heap.size<=wp)(hw:Wri W base wp xs)(hx:xs.length<=5000)(cp:Nat) :
  Calls Tryz.prog 43 #[.pointer (some ⟨wp,0,none⟩),.slice (some ⟨W.heap.size,0,none⟩) 2 cp] (W.alloc (.cells #[.int .u8 k,.string ⟨s.toArray⟩,n,(0:Int),(0:Int),(0:Int),.int .u8 k2,.string ⟨s2.toArray⟩,n2,(0:Int),(0:Int),(0:Int)] 85)) (WrQ w0 base wp xs [tk0 k s n,tk0 k2 s2 n2] W):=
 qeg base wp xs [tk0 k s n,tk0 k2 s2 n2] W.heap.size cp _ w0 W _ hW hwp hw ((Bel.refl W).alloc _) hx (by simp) (by simp) (blk1 W _) (zM _)
def RowX(w0 W:World)(wp:Nat)(sh:Sh)(A:OA)(n:Nat)(f:Tr):Prop:=
 n=f.len/\(0<n->∃ b o,A=some ⟨b,o,none⟩/\(∃ ob,Bx W wp b ob)/\TrAt W (OldT w0) f sh b o)
theorem TrAt.keepX{w w':World}{Ok:Nat->Prop}{f:Tr}{sh:Sh}{b o:Nat}(h:TrAt w Ok f sh b o)(hk:∀ j,Ok j->w'.heap[j]?=w.heap[j]?)(hb:w'.heap[b]?=w.heap[b]?):TrAt w' Ok f sh b o:=by
 have hc:∀ o',w'.cell? ⟨b,o',none⟩=w.cell? ⟨b,o',none⟩:=fun o'=>World.cell?_of_block (a:=⟨b,o',none⟩) hb;induction f generalizing o sh with
 | nil=>trivial
 | nod k s n p kids arms r _ _ ih=>
  obtain⟨h1,⟨A,cap,a1,a2,a3⟩,h3,h4⟩:=h;refine⟨h1.keep hb,⟨A,cap,(hc _).trans a1,a2,fun h0=>?_⟩,?_,ih h4⟩
  ·obtain⟨b',o',e,c1,c2⟩:=a3 h0
   exact⟨b',o',e,c1,TrAt.keep hk _ _ _ _ c1 c2⟩
  ·rcases h3 with ⟨e,A2,cap2,c1,c2,c3⟩ | h3
   ·refine .inl ⟨e,A2,cap2,(hc _).trans c1,c2,fun h0=>?_⟩
    obtain⟨b',o',e,d1,d2⟩:=c3 h0;exact⟨b',o',e,d1,TrAt.keep hk _ _ _ _ d1 d2⟩
   ·exact .inr h3
 | arm k s n p kids e r _ ie ih=>
  obtain⟨h0,h1,⟨A,cap,a1,a2,a3⟩,h3,h4,h5⟩:=h;subst h0;refine⟨rfl,h1.keep hb,⟨A,cap,(hc _).trans a1,a2,fun h0=>?_⟩,h3,ie h4,ih h5⟩;obtain⟨b',o',e,c1,c2⟩:=a3 h0;exact⟨b',o',e,c1,TrAt.keep hk _ _ _ _ c1 c2⟩
theorem RowX.step{w0 W W':World}{wp:Nat}{sh:Sh}{A:OA}{n:Nat}{f:Tr}(h:RowX w0 W wp sh A n f)(hb:Bel w0 W)(hb':Bel w0 W')(hk:KpW W W' wp):RowX w0 W' wp sh A n f:=
 ⟨h.1,fun hn=>by
  obtain⟨b,o,e,⟨ob,hx⟩,ht⟩:=h.2 hn;have hx':=hk b ob hx;exact⟨b,o,e,⟨ob,hx'⟩,ht.keepX (fun j hj=>(hb'.block j hj).trans (hb.block j hj).symm) (hx'.1.trans hx.1.symm)⟩⟩
theorem RowX.old{w0 W:World}{base wp:Nat}{xs:List Tn}{sh:Sh}{A:OA}{n c:Nat}{f:Tr}(h:KidsTr w0 (OldT w0) sh A n c f)(hb:Bel w0 W)(hwp:w0.heap.size<=wp)(hw:Wri W base wp xs):RowX w0 W wp sh A n f:=
 ⟨h.1,fun hn=>by
  obtain⟨b,o,e,hbb,ht⟩:=h.2.2 hn;have hbb':b<w0.heap.size:=hbb;refine⟨b,o,e,⟨_,hb.blk (Array.getElem?_eq_getElem hbb'),by omega,fun v hv ev=>?_⟩,ht.keepX (fun j hj=>hb.block j hj) (hb.block b hbb')⟩;obtain⟨h1,h2,A',n',c',hc,_,ho⟩:=hw;have c0:W.cell? ⟨wp,0,none⟩=some (.slice A' n' c'):=by simp[World.cell?,hc]
  rw[c0]at hv;obtain rfl:_=v:=Option.some.inj hv;have:=(ho.lt b ev).1;omega⟩
theorem RowX.one{w0 W:World}{base wp:Nat}{xs:List Tn}{sh:Sh}(hs:sh ≠ .arms){k:Int}{s:LU}{n:Int}{p:Pl}{A:OA}{c:Nat}{B:OA}{bc:Nat}{kids arms:Tr}
  (hk:KidsTr w0 (OldT w0) sh A kids.len c kids) (ha:(sh=.ex/\KidsTr w0 (OldT w0) .arms B arms.len bc arms)∨((sh=.pat∨sh=.ty)/\arms.len=0)) {t:TypeId} (hb:Bel w0 W) (hw:Wri W base wp xs) :
  RowX w0 (W.alloc (.cells (nodV sh k s n p A kids.len c B arms.len bc).toArray t)) wp sh (some ⟨W.heap.size,0,none⟩) 1 (.nod k s n p kids arms .nil):=by
 refine⟨rfl,fun _=>⟨_,0,rfl,⟨_,Bx.new hw _⟩,?_⟩⟩;refine (Tells.one hs hk ha (k:=k) (s:=s) (n:=n) (p:=p)).2.2 _ _ 0 (fun j u hu=>?_) (fun j hj=>(hb.alloc _).block j hj);unfold World.cell?
 simp only[blk1];simpa using hu
theorem RowX.isNods{w0 W:World}{wp:Nat}{sh:Sh}(hs:sh ≠ .arms){A:OA}{m:Nat}{f:Tr}(h:RowX w0 W wp sh A m f):f.isNods:=by
 rcases zPp f.len with e | e
 ·rw[Tr.len_nil f e];trivial
 ·obtain⟨b,o,_,_,h⟩:=h.2 (by rw[h.1];exact e)
  exact TrAt.isNods hs f b o h
theorem RowX.nth{w0 W:World}{wp:Nat}{sh:Sh}(hs:sh ≠ .arms){A:OA}{m:Nat}{f:Tr}(h:RowX w0 W wp sh A m f)(hb:Bel w0 W){i:Nat}(hi:i<m) :
  ∃ b o k s n p kids arms A' c B bc,A=some ⟨b,o,none⟩/\(∃ ob,Bx W wp b ob)/\f.nth i=.nod k s n p kids arms .nil/\(∀ j u,(nodV sh k s n p A' kids.len c B arms.len bc)[j]?=some u->W.cell? ⟨b,o+i*sh.sz+j,none⟩=some u) ∧
   KidsTr w0 (OldT w0) sh A' kids.len c kids/\((sh=.ex/\KidsTr w0 (OldT w0) .arms B arms.len bc arms)∨((sh=.pat∨sh=.ty)/\arms.len=0)):=by
 obtain⟨b,o,e,hx,ht⟩:=h.2 (by omega);obtain⟨k,s,n,p,kids,arms,en,ha⟩:=TrAt.nod_at hs f i b o ht (by rw[<- h.1];exact hi);obtain⟨A',c,B,bc,hc,hk,har,_⟩:=ha.parts;have hkk:∀ j,OldT w0 j->w0.heap[j]?=W.heap[j]?:=fun j hj=>(hb.block j hj).symm;refine⟨b,o,k,s,n,p,kids,arms,A',c,B,bc,e,hx,en,hc,hk.keep hkk,?_⟩;rcases har with ⟨e1,e2⟩ | har
 ·exact .inl ⟨e1,e2.keep hkk⟩
 ·exact .inr har
theorem RowX.arm{w0 W:World}{wp:Nat}{A:OA}{m:Nat}{f:Tr}(h:RowX w0 W wp .arms A m f)(hb:Bel w0 W){i:Nat}(hi:i<m) :
  ∃ b o k s n p kids k2 s2 n2 p2 kids2 arms2 A1 c1 A2 c2 B2 bc2,A=some ⟨b,o,none⟩/\(∃ ob,Bx W wp b ob)/\f.nth i=.arm k s n p kids (.nod k2 s2 n2 p2 kids2 arms2 .nil) .nil ∧
   (∀ j u,(nodV .pat k s n p A1 kids.len c1 none 0 0)[j]?=some u->W.cell? ⟨b,o+i*15+j,none⟩=some u)/\(∀ j u,(nodV .ex k2 s2 n2 p2 A2 kids2.len c2 B2 arms2.len bc2)[j]?=some u->W.cell? ⟨b,o+i*15+7+j,none⟩=some u) ∧
   KidsTr w0 (OldT w0) .pat A1 kids.len c1 kids/\KidsTr w0 (OldT w0) .ex A2 kids2.len c2 kids2/\KidsTr w0 (OldT w0) .arms B2 arms2.len bc2 arms2:=by
 obtain⟨b,o,e,hx,ht⟩:=h.2 (by omega);obtain⟨k,s,n,p,kids,ex,en,ha⟩:=TrAt.arm_at f i b o ht (by rw[<- h.1];exact hi);obtain⟨_,h1,⟨A1,c1,a1,a2,a3⟩,h3,h4,_⟩:=ha;have hn:=TrAt.isNods (by intro e;cases e) ex b _ h4;obtain⟨k2,s2,n2,p2,kids2,arms2,rfl⟩:=Tr.one_nod ex h3 hn;obtain⟨A2,c2,B2,bc2,hc,hk,har,_⟩:=h4.parts;have hkk:∀ j,OldT w0 j->w0.heap[j]?=W.heap[j]?:=fun j hj=>(hb.block j hj).symm;refine⟨b,o,k,s,n,p,kids,k2,s2,n2,p2,kids2,arms2,A1,c1,A2,c2,B2,bc2,e,hx,en,fun j u hu=>?_,hc,KidsTr.keep (w:=W) ⟨rfl,a2,a3⟩ hkk,hk.keep hkk,?_⟩
 ·rcases Nat.lt_or_ge j 6 with hj | hj
  ·exact qaJ h1 j u (by rw[nodV,List.getElem?_append_left (by simpa [J4] using hj)]at hu;exact hu)
  ·match j,hu with
   | 6,hu=>cases hu;exact a1
   | j+7,hu=>simp[nodV,J4,qf7]at hu
 ·rcases har with ⟨_,h⟩ | ⟨h | h,_⟩
  ·exact h.keep hkk
  ·cases h
  ·cases h
def Ws(w0:World)(base wp:Nat)(xs:List Tn)(W:World)(pre:List Tn)(w:World):Prop:=Bel w0 w/\(∃ r,Wri w base wp r/\WrR xs pre r/\r.length<=5000)/\KpW W w wp
def WsQ(w0:World)(base wp:Nat)(xs:List Tn)(W:World)(pre:List Tn)(w:World):Ending->World->Prop:=fun e w'=>e=.returned (.tuple #[])/\Ws w0 base wp xs W pre w'/\KpW w w' wp
theorem Ws.start{w0:World}{base wp:Nat}{xs:List Tn}{W:World}(hW:Bel w0 W)(hw:Wri W base wp xs)(hx:xs.length<=5000):Ws w0 base wp xs W [] W:=⟨hW,⟨xs,hw,WrR.nil xs,hx⟩,KpW.refl _ _⟩
theorem Ws.lt{w0:World}{base wp:Nat}{xs:List Tn}{W:World}{pre:List Tn}{w:World}(h:Ws w0 base wp xs W pre w):wp<w.heap.size:=by
 obtain⟨_,⟨r,hr,_⟩,_⟩:=h;exact hr.lt
theorem Ws.bel{w0:World}{base wp:Nat}{xs:List Tn}{W:World}{pre:List Tn}{w w':World}(h:Ws w0 base wp xs W pre w)(hb:Bel w w'):Ws w0 base wp xs W pre w':=by
 have hl:=h.lt;obtain⟨h1,⟨r,h2,h3,h4⟩,h5⟩:=h;exact⟨h1.on hb,⟨r,h2.bel hb,h3,h4⟩,h5.on (KpW.of_bel hl hb)⟩
theorem Ws.kp{w0:World}{base wp:Nat}{xs:List Tn}{W:World}{pre:List Tn}{w w':World}(h:Ws w0 base wp xs W pre w)(hb:Bel w w'):KpW w w' wp:=KpW.of_bel h.lt hb
theorem Ws.box{w0:World}{base wp:Nat}{xs:List Tn}{W:World}{pre:List Tn}{w:World}(h:Ws w0 base wp xs W pre w)(o:Obj):Bx (w.alloc o) wp w.heap.size o:=by
 obtain⟨_,⟨r,hr,_⟩,_⟩:=h;exact Bx.new hr o
theorem Ws.run{w0:World}{base wp:Nat}{xs:List Tn}{W:World}{pre F:List Tn}{w w':World}{f:FuncId}{args:Array Value}(h:Ws w0 base wp xs W pre w)(H:∀ r,Bel w0 w->Wri w base wp r->r.length<=5000->Calls Tryz.prog f args w' (WrQ w0 base wp r F w)) :
  Calls Tryz.prog f args w' (WsQ w0 base wp xs W (pre++F) w):=by
 obtain⟨h1,⟨r,h2,h3,h4⟩,h5⟩:=h;refine (H r h1 h2 h4).mono ?_;rintro e w2 ⟨rfl,q1,⟨r2,q2,q3,q4⟩,q5⟩;exact⟨rfl,⟨q1,⟨r2,q2,h3.on q3,q4⟩,h5.on q5⟩,q5⟩
theorem Ws.put1{w0:World}{base wp:Nat}{xs:List Tn}{W:World}{pre:List Tn}{w:World}(h:Ws w0 base wp xs W pre w)(hwp:w0.heap.size<=wp)(k:Int)(s:LU)(n:Int)(cp:Nat) :
  Calls Tryz.prog 43 #[.pointer (some ⟨wp,0,none⟩),.slice (some ⟨w.heap.size,0,none⟩) 1 cp] (w.alloc (.cells #[.int .u8 k,.string ⟨s.toArray⟩,.int .i64 n,.int .i64 0,.int .i64 0,.int .i64 0] 85)) (WsQ w0 base wp xs W (pre++[tk0 k s n]) w):=
 h.run fun r h1 h2 h3=>qhd base wp k s n r w0 w h1 hwp h2 h3 cp
theorem Ws.put2{w0:World}{base wp:Nat}{xs:List Tn}{W:World}{pre:List Tn}{w:World}(h:Ws w0 base wp xs W pre w)(hwp:w0.heap.size<=wp)(k:Int)(s:LU)(n:Int)(k2:Int)(s2:LU)(n2:Int)(cp:Nat) :
  Calls Tryz.prog 43 #[.pointer (some ⟨wp,0,none⟩),.slice (some ⟨w.heap.size,0,none⟩) 2 cp] (w.alloc (.cells #[.int .u8 k,.string ⟨s.toArray⟩,.int .i64 n,.int .i64 0,.int .i64 0,.int .i64 0,.int .u8 k2,.string ⟨s2.toArray⟩,.int .i64 n2,.int .i64 0,.int .i64 0,.int .i64 0] 85)) (WsQ w0 base wp xs W (pre++[tk0 k s n,tk0 k2 s2 n2]) w):=
 h.run fun r h1 h2 h3=>qhe base wp k s n k2 s2 n2 r w0 w h1 hwp h2 h3 cp
theorem Ws.fin{w0:World}{base wp:Nat}{xs:List Tn}{W:World}{pre F:List Tn}{w:World}(h:Ws w0 base wp xs W pre w)(e:pre=F):WrQ w0 base wp xs F W (.returned (.tuple #[])) w:=by
 subst e;exact⟨rfl,h.1,h.2.1,h.2.2⟩
theorem Ws.put1g{w0:World}{base wp:Nat}{xs:List Tn}{W:World}{pre:List Tn}{w:World}(h:Ws w0 base wp xs W pre w)(hwp:w0.heap.size<=wp)(k:Int)(s:LU)(n:Int)(cp g:Nat)(hg:g=w.heap.size) :
  Calls Tryz.prog 43 #[.pointer (some ⟨wp,0,none⟩),.slice (some ⟨g,0,none⟩) 1 cp] (w.alloc (.cells #[.int .u8 k,.string ⟨s.toArray⟩,.int .i64 n,.int .i64 0,.int .i64 0,.int .i64 0] 85)) (WsQ w0 base wp xs W (pre++[tk0 k s n]) w):=by
 subst hg;exact h.put1 hwp k s n cp
theorem Ws.runA{w0:World}{base wp:Nat}{xs:List Tn}{W:World}{pre F:List Tn}{w w':World}{f:FuncId}{args:Array Value}(h:Ws w0 base wp xs W pre w)(hb:Bel w w')(H:∀ r,Bel w0 w'->Wri w' base wp r->r.length<=5000->Calls Tryz.prog f args w' (WrQ w0 base wp r F w')) :
  Calls Tryz.prog f args w' (WsQ w0 base wp xs W (pre++F) w):=by
 refine ((h.bel hb).run H).mono ?_;rintro e w2 ⟨rfl,q1,q2⟩;exact⟨rfl,q1,(h.kp hb).on q2⟩
theorem KidsTr.old{w0 w:World}{sh:Sh}{A:OA}{n c:Nat}{f:Tr}{base wp:Nat}{xs:List Tn}{W:World}{pre:List Tn}(h:KidsTr w0 (OldT w0) sh A n c f)(hwp:w0.heap.size<=wp)(hs:Ws w0 base wp xs W pre w):RowX w0 w wp sh A n f:=by
 obtain⟨h1,⟨r,h2,_⟩,_⟩:=hs;exact RowX.old h h1 hwp h2
theorem Z9{w0:World}{sh:Sh}(hs:sh ≠ .arms){A:OA}{l c:Nat}{kids:Tr}(h:KidsTr w0 (OldT w0) sh A l c kids)(hl:l=2) :
  ∃ b o ka sa na pa kia ara A1 c1 B1 d1 kb sb nb pb kib arb A2 c2 B2 d2,kids=.nod ka sa na pa kia ara (.nod kb sb nb pb kib arb .nil)/\A=some ⟨b,o,none⟩/\b<w0.heap.size ∧
   (∀ w,Bel w0 w->∀ j u,(nodV sh ka sa na pa A1 kia.len c1 B1 ara.len d1)[j]?=some u->w.cell? ⟨b,o+j,none⟩=some u)/\KidsTr w0 (OldT w0) sh A1 kia.len c1 kia/\((sh=.ex/\KidsTr w0 (OldT w0) .arms B1 ara.len d1 ara)∨((sh=.pat∨sh=.ty)/\ara=.nil)) ∧
   (∀ w,Bel w0 w->∀ j u,(nodV sh kb sb nb pb A2 kib.len c2 B2 arb.len d2)[j]?=some u->w.cell? ⟨b,o+sh.sz+j,none⟩=some u)/\KidsTr w0 (OldT w0) sh A2 kib.len c2 kib/\((sh=.ex/\KidsTr w0 (OldT w0) .arms B2 arb.len d2 arb)∨((sh=.pat∨sh=.ty)/\arb=.nil)):=by
 have hn:=h.isNods hs;obtain⟨e,_,ht⟩:=h;obtain⟨ka,sa,na,pa,kia,ara,kb,sb,nb,pb,kib,arb,rfl⟩:=Tr.two kids hn (by omega);obtain⟨b,o,rfl,hb,ht⟩:=ht (by omega);have hb':b<w0.heap.size:=hb;obtain⟨A1,c1,B1,d1,h1,h2,h3,ht2⟩:=ht.parts;obtain⟨A2,c2,B2,d2,h4,h5,h6,_⟩:=ht2.parts;exact⟨b,o,ka,sa,na,pa,kia,ara,A1,c1,B1,d1,kb,sb,nb,pb,kib,arb,A2,c2,B2,d2,rfl,rfl,hb,fun w hw j u hu=>(hw.cell (p:=⟨b,_,none⟩) hb').trans (h1 j u hu),h2,h3.imp id fun h=>⟨h.1,Tr.len_nil _ h.2⟩,fun w hw j u hu=>(hw.cell (p:=⟨b,_,none⟩) hb').trans (h4 j u hu),h5,h6.imp id fun h=>⟨h.1,Tr.len_nil _ h.2⟩⟩
theorem qcT{w0:World}{sh:Sh}(hs:sh ≠ .arms){A:OA}{l c:Nat}{kids:Tr}(h:KidsTr w0 (OldT w0) sh A l c kids)(hl:l=1) :
  ∃ b o ka sa na pa kia ara A1 c1 B1 d1,kids=.nod ka sa na pa kia ara .nil/\A=some ⟨b,o,none⟩/\b<w0.heap.size ∧
   (∀ w,Bel w0 w->∀ j u,(nodV sh ka sa na pa A1 kia.len c1 B1 ara.len d1)[j]?=some u->w.cell? ⟨b,o+j,none⟩=some u)/\KidsTr w0 (OldT w0) sh A1 kia.len c1 kia/\((sh=.ex/\KidsTr w0 (OldT w0) .arms B1 ara.len d1 ara)∨((sh=.pat∨sh=.ty)/\ara=.nil)):=by
 have hn:=h.isNods hs;obtain⟨e,_,ht⟩:=h;obtain⟨ka,sa,na,pa,kia,ara,rfl⟩:=Tr.one_nod kids (by omega) hn;obtain⟨b,o,rfl,hb,ht⟩:=ht (by omega);have hb':b<w0.heap.size:=hb;obtain⟨A1,c1,B1,d1,h1,h2,h3,ht2⟩:=ht.parts;exact⟨b,o,ka,sa,na,pa,kia,ara,A1,c1,B1,d1,rfl,rfl,hb,fun w hw j u hu=>(hw.cell (p:=⟨b,_,none⟩) hb').trans (h1 j u hu),h2,h3.imp id fun h=>⟨h.1,Tr.len_nil _ h.2⟩⟩
set_option maxHeartbeats 8000000
def TyC(w0:World)(base wp M:Nat):Prop:=∀ (k:Int) (s:LU) (n:Int) (p:Pl) (A:OA) (c:Nat) (kids:Tr) (xs:List Tn) (W:World),
 KidsTr w0 (OldT w0) .ty A kids.len c kids->1+kids.size<=M->(Tr.nod k s n p kids .nil .nil).shpT->Bel w0 W->Wri W base wp xs->xs.length<=5000 →
 Calls Tryz.prog 93 #[.pointer (some ⟨wp,0,none⟩),.agg #[.int .u8 k,.string ⟨s.toArray⟩,.int .u8 n,p.a,p.l,p.c,.slice A kids.len c]] W (WrQ w0 base wp xs (qv k s n kids) W)
theorem ZF(base wp M:Nat)(xs:List Tn)(A:OA)(n c:Nat)(f:Tr)(w0 W:World)
  (hX:TyC w0 base wp M) (hwp:w0.heap.size<=wp) (hf:RowX w0 W wp .ty A n f) (hsz:f.size<=M) (hM:M<=1000000) (hs:f.shpT) (hW:Bel w0 W) (hw:Wri W base wp xs) (hx:xs.length<=5000) :
  Calls Tryz.prog 91 #[.pointer (some ⟨wp,0,none⟩),.func (.func 92) #[] #[],.func (.func 93) #[.pointer (some ⟨wp,0,none⟩)] #[],.slice A n c] W (WrQ w0 base wp xs (f.brT) W):=by
 have HF:=hid hf;have HX:=hid hX;have HSZ:=hid (And.intro hsz hs);have HNN:Hid f.isNods:=hid (hf.isNods (by intro e;cases e));have HW:=hid hW;have HL:Hid (n=f.len):=hid hf.1;have hn:n<=1000000:=by have:=hf.1;have:=f.len_le;omega
 have ega:∀ args w,(callFunc 92 args).run Tryz.prog w=.ok (.enter 92 args) w:=fun args w=>by kernel_rfl
 have egx:∀ args w,(callFunc 93 args).run Tryz.prog w=.ok (.enter 93 args) w:=fun args w=>by kernel_rfl
 have HI:Hid (∃ pre,Ws w0 base wp xs W pre W/\pre++(f.dropN 0).brT=f.brT):=hid ⟨[],Ws.start hW hw hx,by cases f <;> rfl⟩;clear hf hX hsz hs hW hw hx;go_enter Tryz.func91,Tryz.ntmps91;go_wp2_with fail;go_loopw [12] (fun i wr=>∃ j:Nat,j<=n/\i=.int .i64 (j:Int)/\Hid (∃ pre,Ws w0 base wp xs W pre wr/\pre++(f.dropN j).brT=f.brT)) (fun i _=>n-(intOf i).toNat)
 case atStart=>exact⟨0,zL _,rfl,HI⟩
 case round=>
  obtain⟨j,hj,rfl,HR⟩:=hrel;obtain⟨pre,hws,hpre⟩:=HR.out;by_cases hlt:j<n
  ·obtain⟨ub,uo,k,s,nn,p,kids,arms,A',c',B',bc',eA,⟨uob,hub⟩,hnth,hcs,hkk,hka⟩:=(HF.out.step HW hws.1 hws.2.2).nth (by intro e;cases e) hws.1 hlt
   subst eA;have ha0:arms.len=0:=by
    rcases hka with ⟨h,_⟩ | ⟨_,h⟩
    ·cases h
    ·exact h
   have ha1:=Tr.len_nil arms ha0;subst ha1;have hns:1+kids.size<=M:=by
    have h1:=f.nth_size j;rw[hnth]at h1;simp only[Tr.size]at h1;have:=HSZ.1;omega
   have hnp:(Tr.nod k s nn p kids .nil .nil).shpT:=by rw[<- hnth];exact f.nth_shpT j HNN HSZ.2
   have hdr:(f.dropN j).brT=brkL (alnT k kids.len) (qv k s nn kids)++(f.dropN (j+1)).brT:=by rw[Tr.dropN_nod f j hnth];rfl
   have HC:Hid (∀ (ys:List Tn) (W':World),Bel w0 W'->Wri W' base wp ys->ys.length<=5000->Calls Tryz.prog 93 #[.pointer (some ⟨wp,0,none⟩),.agg #[.int .u8 k,.string ⟨s.toArray⟩,.int .u8 nn,p.a,p.l,p.c,.slice A' kids.len c']] W' (WrQ w0 base wp ys (qv k s nn kids) W')):=hid fun ys W' h1 h2 h3=>HX k s nn p A' c' kids ys W' hkk hns hnp h1 h2 h3;have y0:=hcs 0 _ rfl;have y1:=hcs 1 _ rfl;have y2:=hcs 2 _ rfl;have y3:=hcs 3 _ rfl;have y4:=hcs 4 _ rfl;have y5:=hcs 5 _ rfl;have y6:=hcs 6 _ rfl;simp only[Sh.sz,Sh.kd,nZz]at y0 y1 y2 y3 y4 y5 y6;rw[hdr]at hpre;obtain⟨Fx,hFx⟩:=nW (qv k s nn kids);obtain⟨b,hb⟩:=nW (alnT k kids.len);obtain⟨SS,hSS⟩:=nW (⟨s.toArray⟩:BA);obtain⟨l1,hl1⟩:=nW kids.len;have HAL:Hid (∀ W',Calls Tryz.prog 92 #[.agg #[.int .u8 k,SS,.int .u8 nn,p.a,p.l,p.c,.slice A' l1 c']] W' (qu b W')):=hid fun W'=>by rw[hb,<- hl1];exact qbX k SS nn p A' l1 c' W'
   rw[<- hFx,<- hb]at hpre;rw[<- hSS,<- hl1,<- hFx]at HC;rw[<- hSS]at y1;rw[<- hl1]at y6;have HS1:=hid (hws.bel ((Bel.refl wr).alloc (.cells #[.int .u8 k,SS,.int .u8 nn,p.a,p.l,p.c,.slice A' l1 c'] 43)));have HBX:=hid (hws.box (.cells #[.int .u8 k,SS,.int .u8 nn,p.a,p.l,p.c,.slice A' l1 c'] 43));have HPRE:=hid hpre;have hob':ub<wr.heap.size:=(aJ.1 hub.1).1;have i1:(0:Int)<=(j:Int):=by omega
   have i2:(j:Int)<(n:Int):=by omega
   have HLT:=hid hlt;clear hcs hkk hka ha0 hns hnp hdr hpre hFx hb hSS hl1 hnth hub hws HR;go_wp2_with fail;refine (HAL _).mono ?_;rintro e w2 ⟨rfl,hb2⟩;have HS2:=hid (HS1.bel hb2);have HX2:=hid (HS1.out.kp hb2 _ _ HBX);obtain⟨x0,x1,x2,x3,x4,x5,x6⟩:=box7 HX2.1;have hl2:wr.heap.size<w2.heap.size:=(aJ.1 HX2.1).1;clear hb2 y0 y1 y2 y3 y4 y5 y6 hob' HAL HS1 HBX;cases b
   ·go_wp2_with fail
    refine (qf _ _).mono ?_;rintro e w3 ⟨rfl,hb3⟩;have HS3:=hid (HS2.bel hb3);have HX3:=hid (HS2.out.kp hb3 _ _ HX2);clear hb3 x0 x1 x2 x3 x4 x5 x6;unfold tokV;go_wp2_with fail;refine (HS3.out.put1 hwp 5 [40] 0 _).mono ?_;rintro e w4 ⟨rfl,hs4,hk4⟩;have HS4:=hid hs4;have HX4:=hid (hk4 _ _ HX3);obtain⟨x0,x1,x2,x3,x4,x5,x6⟩:=box7 HX4.1;have hl4:wr.heap.size<w4.heap.size:=(aJ.1 HX4.1).1;clear hs4 hk4;go_wp2_with fail;refine (HS4.run fun r h1 h2 h3=>HC r w4 h1 h2 h3).mono ?_;rintro e w5 ⟨rfl,hs5,hk5⟩;have HS5:=hid hs5;clear hs5 hk5 x0 x1 x2 x3 x4 x5 x6;go_wp2_with fail;refine (qf _ _).mono ?_;rintro e w6 ⟨rfl,hb6⟩;have HS6:=hid (HS5.bel hb6);clear hb6;unfold tokV;go_wp2_with fail;refine (HS6.out.put1 hwp 5 [41] 0 _).mono ?_;rintro e w7 ⟨rfl,hs7,hk7⟩;have HS7:=hid hs7;have HR':Hid (∃ pre,Ws w0 base wp xs W pre w7/\pre++(f.dropN (j+1)).brT=f.brT):=hid ⟨_,HS7,by rw[<- HPRE.out];simp[brkL]⟩;clear hs7 hk7;go_wp2_with fail;go_roundw
    case rel=>exact⟨j+1,HLT,by go_num,HR'⟩
    case measure=>exact mS HLT
   ·go_wp2_with fail
    refine (HS2.run fun r h1 h2 h3=>HC r w2 h1 h2 h3).mono ?_;rintro e w5 ⟨rfl,hs5,hk5⟩;have HR':Hid (∃ pre,Ws w0 base wp xs W pre w5/\pre++(f.dropN (j+1)).brT=f.brT):=hid ⟨_,hs5,by rw[<- HPRE.out];simp[brkL]⟩;clear hs5 hk5 x0 x1 x2 x3 x4 x5 x6;go_wp2_with fail;go_roundw
    case rel=>exact⟨j+1,HLT,by go_num,HR'⟩
    case measure=>exact mS HLT
  ·obtain rfl:j=n:=by omega
   rw[Tr.dropN_all f j (by rw[<- HL.out];exact lR _)]at hpre;have HQ:=hid (hws.fin (F:=f.brT) (by rw[<- hpre];simp[Tr.brT]));clear hws hpre;go_wp2_with fail;go_end0;exact HQ
set_option maxHeartbeats 8000000
theorem qep(n:Int):qcx n=.agg #[.int .u8 5,.string ⟨(zi n).s.toArray⟩,(0:Int),(0:Int),(0:Int),(0:Int)]/\zi n=tk0 5 (zi n).s 0:=by
 unfold qcx zi;split
 ·exact⟨rfl,rfl⟩
 split
 ·exact⟨rfl,rfl⟩
 ·exact⟨rfl,rfl⟩
theorem qev{base wp M:Nat}{w0:World}{xs:List Tn}{W:World}(hC:TyC w0 base wp M)(hM:M<=1000000)(hwp:w0.heap.size<=wp)(pre:List Tn)(w:World)(g:Nat)(k:Int)(s:LU)(n:Int)(p:Pl)(kids:Tr)(A:OA)(c:Nat)(h:Ws w0 base wp xs W pre w)(hg:g=w.heap.size)(hk:KidsTr w0 (OldT w0) .ty A kids.len c kids)(hs:1+kids.size<=M)(hp:(Tr.nod k s n p kids .nil .nil).shpT) :
  Calls Tryz.prog 91 #[.pointer (some ⟨wp,0,none⟩),.func (.func 92) #[] #[],.func (.func 93) #[.pointer (some ⟨wp,0,none⟩)] #[],.slice (some ⟨g,0,none⟩) 1 1] (w.alloc (.cells #[.int .u8 k,.string ⟨s.toArray⟩,.int .u8 n,p.a,p.l,p.c,.slice A kids.len c] 43))
   (WsQ w0 base wp xs W (pre++brkL (alnT k kids.len) (qv k s n kids)) w):=by
 subst hg;refine h.runA ((Bel.refl w).alloc _) fun r h1 h2 h3=>?_;have hr:RowX w0 (w.alloc (.cells #[.int .u8 k,.string ⟨s.toArray⟩,.int .u8 n,p.a,p.l,p.c,.slice A kids.len c] 43)) wp .ty (some ⟨w.heap.size,0,none⟩) 1 (.nod k s n p kids .nil .nil):=by
  obtain⟨q1,⟨r',q2,_⟩,_⟩:=h;exact RowX.one (sh:= .ty) (B:=none) (bc:=0) (arms:= .nil) (by intro e;cases e) hk (.inr ⟨.inr rfl,rfl⟩) q1 q2
 have hb:=ZF base wp M r _ 1 1 _ w0 _ hC hwp hr (by simp only[Tr.size];omega) hM hp h1 h2 h3;rw[show (Tr.nod k s n p kids .nil .nil).brT=brkL (alnT k kids.len) (qv k s n kids) by simp[Tr.brT]]at hb;exact hb
theorem qjl(base wp:Nat)(w0:World)(hwp:w0.heap.size<=wp)(M:Nat):M<=1000000->TyC w0 base wp M:=by
 induction M with
 | zero=>intro _ k s n p A c kids xs W _ h;omega
 | succ M ih=>
  intro hM k s n p A c kids xs W hk hsz hsh hW hw hx;have hC:TyC w0 base wp M:=ih (by omega);clear ih;have HS:=hid (Ws.start hW hw hx);obtain⟨F,hF⟩:=nW (qv k s n kids);rw[<- hF];have hWl:W.heap.size<W.heap.size+1:=by omega
  by_cases k3:k=3
  ·subst k3
   have hl2:kids.len=2:=hsh.1 rfl;obtain⟨b,o,ka,sa,na,pa,kia,ara,A1,c1,B1,d1,kb,sb,nb,pb,kib,arb,A2,c2,B2,d2,rfl,rfl,hlt,hc1,hk1,ha1,hc2,hk2,ha2⟩:=Z9 (by intro e;cases e) hk hl2;obtain rfl:ara=.nil:=by
    rcases ha1 with ⟨e,_⟩ | ⟨_,e⟩
    ·cases e
    ·exact e
   obtain rfl:arb=.nil:=by
    rcases ha2 with ⟨e,_⟩ | ⟨_,e⟩
    ·cases e
    ·exact e
   have hsh':=hsh.2.1;simp only[Tr.size]at hsz;have hF2:F=brkL (alnT ka kia.len) (qv ka sa na kia)++[zi n]++brkL (alnT kb kib.len) (qv kb sb nb kib):=by
    rw[hF];unfold qv;rw[if_pos rfl];simp[Tr.tyK]
   obtain⟨av1,av2⟩:=qep n;obtain⟨aw,haw⟩:=nW ((zi n).s);rw[<- haw]at av1 av2;have HB1:=hid fun w g h hg=>qev (xs:=xs) (W:=W) hC (by omega) hwp [] w g ka sa na pa kia A1 c1 h hg hk1 (by omega) ⟨hsh'.1,hsh'.2.1,trivial⟩;have HB2:=hid fun pre w g h hg=>qev (xs:=xs) (W:=W) hC (by omega) hwp pre w g kb sb nb pb kib A2 c2 h hg hk2 (by omega) ⟨hsh'.2.2.1,hsh'.2.2.2.1,trivial⟩;have HC1:=hid hc1;have HC2:=hid hc2;have HLT:=hid hlt;obtain⟨SA,hSA⟩:=nW (⟨sa.toArray⟩:BA);obtain⟨SB,hSB⟩:=nW (⟨sb.toArray⟩:BA);obtain⟨SS,hSS⟩:=nW (⟨s.toArray⟩:BA);obtain⟨AS,hAS⟩:=nW (⟨aw.toArray⟩:BA);obtain⟨l1,hl1⟩:=nW kia.len;obtain⟨l2,hl2'⟩:=nW kib.len;have HAR:Hid (∀ W,Calls Tryz.prog 117 #[.int .u8 n] W (StR (.agg #[.int .u8 5,AS,(0:Int),(0:Int),(0:Int),(0:Int)]) W)):=hid fun W=>by rw[hAS,<- av1];exact qeq n W
   have HPU:Hid (∀ (pre:List Tn) (w:World) (g:Nat),Ws w0 base wp xs W pre w->g=w.heap.size->Calls Tryz.prog 43 #[.pointer (some ⟨wp,0,none⟩),.slice (some ⟨g,0,none⟩) 1 1] (w.alloc (.cells #[.int .u8 5,.string AS,.int .i64 0,.int .i64 0,.int .i64 0,.int .i64 0] 85)) (WsQ w0 base wp xs W (pre++[zi n]) w)):=hid fun pre w g h hg=>by rw[hAS,av2];exact h.put1g hwp 5 aw 0 1 g hg
   have HF2:=hid hF2;obtain⟨G1,hG1⟩:=nW (brkL (alnT ka kia.len) (qv ka sa na kia));obtain⟨G2,hG2⟩:=nW (brkL (alnT kb kib.len) (qv kb sb nb kib));rw[<- hG1,<- hSA,<- hl1]at HB1;rw[<- hG2,<- hSB,<- hl2']at HB2;rw[<- hG1,<- hG2]at HF2;rw[<- hSS,hl2];have HCC1:Hid (∀ w,Bel w0 w->∀ j u,(nodV .ty ka sa na pa A1 l1 c1 B1 0 d1)[j]?=some u->w.cell? ⟨b,o+j,none⟩=some u):=by rw[hl1];exact HC1
   have HCC2:Hid (∀ w,Bel w0 w->∀ j u,(nodV .ty kb sb nb pb A2 l2 c2 B2 0 d2)[j]?=some u->w.cell? ⟨b,o+7+j,none⟩=some u):=by rw[hl2'];exact HC2
   have HSA:=hid hSA;have HSB:=hid hSB;clear hk hsz hsh hsh' hW hw hx hC hc1 hc2 hk1 hk2 ha1 ha2 hlt HC1 HC2 hF hF2 av1 av2 haw hG1 hG2 hl1 hl2' hl2 hSS hAS hSA hSB;have HS1:=hid (HS.bel ((Bel.refl W).alloc (.cells #[.int .u8 3,SS,.int .u8 n,p.a,p.l,p.c,.slice (some ⟨b,o,none⟩) 2 c] 43)));have HX1:=hid (HS.out.box (.cells #[.int .u8 3,SS,.int .u8 n,p.a,p.l,p.c,.slice (some ⟨b,o,none⟩) 2 c] 43));have y0:=HCC1.out _ HS1.1 0 _ rfl;have y1:=HCC1.out _ HS1.1 1 _ rfl;have y2:=HCC1.out _ HS1.1 2 _ rfl;have y3:=HCC1.out _ HS1.1 3 _ rfl;have y4:=HCC1.out _ HS1.1 4 _ rfl;have y5:=HCC1.out _ HS1.1 5 _ rfl;have y6:=HCC1.out _ HS1.1 6 _ rfl;simp only[Sh.kd,nZz]at y0 y1 y2 y3 y4 y5 y6;rw[<- HSA.out]at y1;go_enter Tryz.func93,Tryz.ntmps93;go_wp2_with fail;refine (HB1 _ (W.heap.size+1) HS1 (by simp)).mono ?_;rintro e w2 ⟨rfl,hs2,hk2⟩;have HS2:=hid hs2;have HX2:=hid (hk2 _ _ HX1);obtain⟨x0,x1,x2,x3,x4,x5,x6⟩:=box7 HX2.1;have hl2:W.heap.size<w2.heap.size:=(aJ.1 HX2.1).1;clear hs2 hk2 y0 y1 y2 y3 y4 y5 y6 HS1 HX1;go_wp2_with fail;refine (HAR _).mono ?_;rintro e w3 ⟨rfl,hb3⟩;have HS3:=hid (HS2.bel hb3);have HX3:=hid (HS2.out.kp hb3 _ _ HX2);clear hb3 x0 x1 x2 x3 x4 x5 x6 hl2;go_wp2_with fail;refine (HPU _ _ _ HS3 rfl).mono ?_;rintro e w4 ⟨rfl,hs4,hk4⟩;have HS4:=hid hs4;have HX4:=hid (hk4 _ _ HX3);obtain⟨x0,x1,x2,x3,x4,x5,x6⟩:=box7 HX4.1;have hl4:W.heap.size<w4.heap.size:=(aJ.1 HX4.1).1;have y0:=HCC2.out _ HS4.1 0 _ rfl;have y1:=HCC2.out _ HS4.1 1 _ rfl;have y2:=HCC2.out _ HS4.1 2 _ rfl;have y3:=HCC2.out _ HS4.1 3 _ rfl;have y4:=HCC2.out _ HS4.1 4 _ rfl;have y5:=HCC2.out _ HS4.1 5 _ rfl;have y6:=HCC2.out _ HS4.1 6 _ rfl;simp only[Sh.kd,nZz]at y0 y1 y2 y3 y4 y5 y6;rw[<- HSB.out]at y1;clear hs4 hk4;go_wp2_with fail;refine (HB2 _ _ _ HS4 rfl).mono ?_;rintro e w5 ⟨rfl,hs5,hk5⟩;have HQ:=hid (hs5.fin (F:=F) (by rw[HF2.out];simp));clear hs5 hk5 y0 y1 y2 y3 y4 y5 y6 x0 x1 x2 x3 x4 x5 x6;go_wp2_with fail;go_end0;exact HQ
  have HR:Hid (∀ W,Calls Tryz.prog 118 #[.agg #[.int .u8 k,.string ⟨s.toArray⟩,.int .u8 n,p.a,p.l,p.c,.slice A kids.len c]] W (StR (.tuple #[.agg #[.int .u8 (tyR k).1,.int .i64 (tyR k).2.1],.bool (tyR k).2.2]) W)):=hid fun W=>qav k s n p A kids.len c W;have HBR:Hid (∀ (pre:List Tn) (w:World),Ws w0 base wp xs W pre w->Calls Tryz.prog 91 #[.pointer (some ⟨wp,0,none⟩),.func (.func 92) #[] #[],.func (.func 93) #[.pointer (some ⟨wp,0,none⟩)] #[],.slice A kids.len c] w (WsQ w0 base wp xs W (pre++kids.brT) w)):=hid fun pre w h=>
   h.run fun r h1 h2 h3=>ZF base wp M r A kids.len c kids w0 w hC hwp (RowX.old hk h1 hwp h2) (by omega) (by omega) hsh.2.1 h1 h2 h3
  obtain⟨tk,htk⟩:=nW ((tyR k).1);obtain⟨kc,hkc⟩:=nW ((tyR k).2.1);obtain⟨ok,hok⟩:=nW ((tyR k).2.2);have HPU:Hid (∀ (pre:List Tn) (w:World) (g:Nat),Ws w0 base wp xs W pre w->g=w.heap.size->Calls Tryz.prog 43 #[.pointer (some ⟨wp,0,none⟩),.slice (some ⟨g,0,none⟩) 1 1] (w.alloc (.cells #[.int .u8 tk,.string ⟨s.toArray⟩,.int .i64 0,.int .i64 0,.int .i64 0,.int .i64 0] 85)) (WsQ w0 base wp xs W (pre++[tk0 tk s 0]) w)):=hid fun pre w g h hg=>h.put1g hwp tk s 0 1 g hg;have HF2:Hid (F=tk0 tk s 0::kids.brT):=hid (by rw[hF,htk,<- Tr.brT_tyK];unfold qv;rw[if_neg k3]);rw[<- htk,<- hkc,<- hok]at HR;obtain⟨T1,hT1⟩:=nW (tk0 tk s 0);obtain⟨SS,hSS⟩:=nW (⟨s.toArray⟩:BA);obtain⟨l1,hl1⟩:=nW kids.len;rw[<- hSS,<- hl1]at HR;rw[<- hl1]at HBR;rw[<- hSS,<- hT1]at HPU;rw[<- hT1]at HF2;rw[<- hSS,<- hl1];have d3:(k==3)=false:=by simpa using k3
  clear hk hsz hsh hW hw hx hC htk hkc hok hF hT1 hSS hl1 k3;have HS1:=hid (HS.bel ((Bel.refl W).alloc (.cells #[.int .u8 k,SS,.int .u8 n,p.a,p.l,p.c,.slice A l1 c] 43)));have HX1:=hid (HS.out.box (.cells #[.int .u8 k,SS,.int .u8 n,p.a,p.l,p.c,.slice A l1 c] 43));go_enter Tryz.func93,Tryz.ntmps93;go_wp2_with fail;refine (HR _).mono ?_;rintro e w2 ⟨rfl,hb2⟩;have HS2:=hid (HS1.bel hb2);have HX2:=hid (HS1.out.kp hb2 _ _ HX1);have HS3:=hid (HS2.bel ((Bel.refl w2).alloc (.cells #[.int .u8 tk,kc] 109)));have HX3:=hid (HS2.out.kp ((Bel.refl w2).alloc (.cells #[.int .u8 tk,kc] 109)) _ _ HX2);obtain⟨x0,x1,x2,x3,x4,x5,x6⟩:=box7 HX2.1;have hl2:W.heap.size<w2.heap.size:=(aJ.1 HX2.1).1;clear hb2;go_wp2_with fail;refine (HPU _ _ _ HS3 (by simp)).mono ?_;rintro e w4 ⟨rfl,hs4,hk4⟩;have HS4:=hid hs4;have HX4:=hid (hk4 _ _ HX3);clear x0 x1 x2 x3 x4 x5 x6 hl2;obtain⟨x0,x1,x2,x3,x4,x5,x6⟩:=box7 HX4.1;have hl4:W.heap.size<w4.heap.size:=(aJ.1 HX4.1).1;clear hs4 hk4;go_wp2_with fail;refine (HBR _ _ HS4).mono ?_;rintro e w5 ⟨rfl,hs5,hk5⟩;have HQ:=hid (hs5.fin (F:=F) (by rw[HF2.out];simp));clear hs5 hk5 x0 x1 x2 x3 x4 x5 x6;go_wp2_with fail;go_end0;exact HQ
theorem box5{w:World}{g:Nat}{t:TypeId}{x0 x1 x2 x3 x4:Value}(h:w.heap[g]?=some (.cells #[x0,x1,x2,x3,x4] t (0,0))) :
  w.cell? ⟨g,0,none⟩=some x0/\w.cell? ⟨g,4,none⟩=some x4:=by
 simp[World.cell?,h]
set_option maxHeartbeats 8000000
theorem qdI(R:Nat)(A:OA)(n c:Nat)(f:Tr)(w:World)(hk:KidsTr w (OldT w) .ty A n c f)(hsz:f.size<=1000000)(hR:R<=1000000)(ht:Tbl w)(hin:f.ints) :
  Calls Tryz.prog 115 #[.int .i64 (R:Int),.slice A n c,.func (.func 35) #[] #[],.func (.func 116) #[] #[]] w fun e w'=>e=.returned (.bool ((f.pre 0).all (zR (hdP hTf) R)))/\Bel w w':=by
 have HK:=hid hk;have HT:=hid ht;have HIN:=hid hin;clear hk ht hin;obtain⟨SF,hSF⟩:=nW (zR (hdP hTf) R:Vis->Bool);have HSF:=hid hSF;rw[<- hSF];clear hSF;refine (callsIn_wide (n:=6)).1 ?_;refine callsIn_of_wp_marks Tryz.func115 rfl trivial ?_ rfl;simp only[Tryz.ntmps115,List.size_toArray,lC,lNn,Nat.reduceAdd,Nat.reduceSub,Array.replicate_succ,Array.replicate_zero,List.push_toArray,List.append_toArray,List.nil_append,cAa];gi_wp2_with (refine⟨trivial,?_⟩;gi_at_call 84;refine (callsIn_wide.2 (JM _ _ _ _)).mono ?_;rintro e w2 ⟨rfl,rfl⟩);obtain⟨hb,hhb⟩:=nW w.heap.size;obtain⟨wq,hwq⟩:=nW (((((w.alloc (.cells #[.int .i64 (R:Int)] 3)).alloc (.cells #[.func (.func 116) #[] #[]] 154)).alloc (.cells #[.bool false] 4)).alloc (.cells #[.slice A n c] 41)).alloc (.cells #[.func (.func 35) #[] #[]] 80));have hbq:Bel w wq:=by rw[hwq];exact (((((Bel.refl w).alloc _).alloc _).alloc _).alloc _).alloc _
 have hsq:wq.heap.size=hb+5:=by rw[hwq,hhb];simp
 have hq4:=blk5 w (.cells #[.int .i64 (R:Int)] 3) (.cells #[.func (.func 116) #[] #[]] 154) (.cells #[.bool false] 4) (.cells #[.slice A n c] 41) (.cells #[.func (.func 35) #[] #[]] 80);rw[<- hwq,<- hhb]at hq4;obtain⟨q0,q1,q2,q3,q4⟩:=hq4;replace q0:Boxed wq hb 3 (.int .i64 (R:Int)):=q0;replace q1:Boxed wq (hb+1) 154 (.func (.func 116) #[] #[]):=q1;replace q2:Boxed wq (hb+2) 4 (.bool false):=q2;replace q3:Boxed wq (hb+3) 41 (.slice A n c):=q3;replace q4:Boxed wq (hb+4) 80 (.func (.func 35) #[] #[]):=q4;rw[<- hwq,<- hhb];have HBQ:=hid hbq;have HHB:=hid hhb;have HSQ:=hid hsq;have Q0:=hid q0;have Q1:=hid q1;have Q2:=hid q2;have Q3:=hid q3;have Q4:=hid q4;clear hwq hbq hsq q0 q1 q2 q3 q4 hhb;refine jd (α:=Nd) (gf:=112) (lb:=#[.pointer (some ⟨hb+3,0,none⟩),.pointer (some ⟨hb+4,0,none⟩)]) rfl (fun args w=>by kernel_rfl) (encs:=encT) (JN A n c (hb+3) (hb+4) f hsz) (fun _=>rfl)
  (fun pre x Y W W' h hs hk=>⟨h.1,h.2.keep (fun j hj=>hk j hj.1 hj.2) (fun j hj=>⟨lT hj.1 hs,hj.2⟩)⟩)
  (fun xs Y W=>(∀ k,Y k↔(k=hb∨k=hb+1∨k=hb+2))/\Boxed W hb 3 (.int .i64 (R:Int))/\Boxed W (hb+1) 154 (.func (.func 116) #[] #[])/\Boxed W (hb+2) 4 (.bool false)/\hb+5<=W.heap.size/\(xs.map Nd.v).all SF=true)
  (fun xs Y W=>Y (hb+2)/\Boxed W (hb+2) 4 (.bool false)/\(f.pre 0).all SF=false) ?_ (fun s Y W W' h _ hk=>⟨h.1,(hk _ h.1).trans h.2.1,h.2.2⟩)
  (Y0:=fun k=>k=hb∨k=hb+1∨k=hb+2) ?_ (fun k hk=>by have:=HSQ.out;omega) ⟨fun _=>Iff.rfl,Q0.out,Q1.out,Q2.out,by rw[HSQ.out];exact lR _,rfl⟩
  (fun x bx=>{ tmps:=#[.int .i64 (R:Int),.slice A n c,.func (.func 35) #[] #[],.func (.func 116) #[] #[],.pointer (some ⟨hb,0,none⟩),undef,undef,.pointer (some ⟨hb+1,0,none⟩),.pointer (some ⟨hb+2,0,none⟩),x.v.d,.pointer (some ⟨bx,0,none⟩),.slice A n c,.func (.func 35) #[] #[],.func (.func 112) #[] #[.pointer (some ⟨hb+3,0,none⟩),.pointer (some ⟨hb+4,0,none⟩)],x.v.d,.agg #[.int .u8 x.v.k,.string ⟨x.v.s.toArray⟩,.int .u8 x.v.n,x.p.a,x.p.l,x.p.c,.slice x.A x.v.kids.len x.ca],undef,undef,undef,undef,undef,undef,undef,undef,undef,undef,undef,undef],defers:=[] })
  (fun x=> .cells #[.int .u8 x.v.k,.string ⟨x.v.s.toArray⟩,.int .u8 x.v.n,x.p.a,x.p.l,x.p.c,.slice x.A x.v.kids.len x.ca] 43) ?_ ?_ ?_ ?_
 ·rintro s Y W W' ⟨h1,h2,h3,h4,h5,h6⟩ hs hk
  exact⟨h1,(hk hb ((h1 hb).2 (.inl rfl))).trans h2,(hk (hb+1) ((h1 _).2 (.inr (.inl rfl)))).trans h3,(hk (hb+2) ((h1 _).2 (.inr (.inr rfl)))).trans h4,lL h5 hs,h6⟩
 ·rintro Y W hbW hY
  have hn:∀ j,Y j->hb<=j/\j≠hb+3/\j≠hb+4:=fun j hj=>by
   have:=HSQ.out;rcases hY j hj with (h | h | h) | h <;> omega
  refine⟨hbW.blk Q3.out,hbW.blk Q4.out,(HK.out.keep (fun j hj=>(HBQ.out.on hbW).block j hj)).wide (fun j hj=>⟨lT hj (HBQ.out.on hbW).size,fun h=>?_⟩),fun h=>(hn _ h).2.1 rfl,fun h=>(hn _ h).2.2 rfl⟩;have h1:=(hn j h).1;have h2:j<w.heap.size:=hj;rw[HHB.out]at h1;omega
 ·rintro l x W K hK
  have HKK:=hid hK;clear hK;simp only[encT];gi_wp2;exact HKK.out
 ·rintro l bx pre x Y W hbx1 hbx2 hob hYb ⟨Y',hYY,⟨suf,hpre⟩,hat⟩ hmv0 hYl ⟨hY,hi0,hi1,hi2,hi3,hi4⟩ hYs
  have hmem:x.v∈f.pre 0:=by rw[hpre];simp
  have hvs:=Tr.pre_size f 0 x.v hmem;have HVS:Hid (x.v.kids.size+x.v.arms.size<=1000000/\x.v.d<=1000000):=hid (by omega);have HVI:=hid (Tr.pre_ints f 0 x.v hmem HIN.out);have HAT:=hid hat;have HYS:=hid hYs;have HY:=hid hY;have HI0:=hid hi0;have HI1:=hid hi1;have HI2:=hid hi2;have HI3:=hid hi3;have HI4:=hid hi4;have HPRE:=hid hpre;have HBX:=hid hbx1;have HTW:Hid (Tbl W):=hid (by
   have h1:Mv (fun k=>k=hb∨k=hb+1∨k=hb+2) w W:=(Mv.of_bel HBQ.out).trans hmv0 (fun j hj=> .inl hj);have h2:Mv (fun _=>False) w W:=⟨h1.os,h1.tape,h1.output,h1.size,fun j hj _=>h1.block j hj (by have:=HHB.out;omega)⟩
   exact HT.out.bel h2.bel)
  obtain⟨xv,xp,xA,xca,xB,xcb⟩:=x;obtain⟨d,k,s,nn,kids,arms⟩:=xv;obtain⟨l1,hl1⟩:=nW kids.len;obtain⟨l2,hl2⟩:=nW arms.len;obtain⟨SS,hSS⟩:=nW (⟨s.toArray⟩:BA);simp only at HAT HVS HVI hob ⊢;obtain⟨sb,hsb⟩:=nW ((hdP hTf) (R-d) ⟨d,k,s,nn,kids,arms⟩);have HSB:Hid (SF ⟨d,k,s,nn,kids,arms⟩=(decide (d<R)&&sb)):=hid (by rw[HSF.out,hsb];rfl);have HCC:Hid (d<R->∀ W',Bel W W'->Calls Tryz.prog 116 #[.int .i64 ((R:Int)-(d:Int)),.agg #[.int .u8 k,.string ⟨s.toArray⟩,.int .u8 nn,xp.a,xp.l,xp.c,.slice xA kids.len xca]] W' fun e w'=>e=.returned (.bool sb)/\Bel W' w'):=hid fun hdR W' hW'=>by
   rw[hsb];exact qfb k s nn xp xA kids.len xca _ W' (HTW.out.bel hW') HVI.out.1.1
  simp only[<- hl1,<- hSS]at hob HCC ⊢;have hdb:d<=1000000:=HVS.out.2;obtain⟨x0,x1,x2,x3,x4,x5,x6⟩:=box7 hob;have eg:∀ args w,(callFunc 116 args).run Tryz.prog w=.ok (.enter 116 args) w:=fun args w=>by kernel_rfl
  have z0:=hi0.cell;have z1:=hi1.cell;have z2:=hi2.cell;have f2:=hi2.frozen;have hlt2:=hi2.lt;have hlt0:=hi0.lt;have hlt1:=hi1.lt;clear hpre hmem hvs hat hYs hY hYY hi0 hi1 hi2 hi3 hi4 hob hYl hbx1 hYb hl1 hl2 hSS hsb hmv0;have no:∀ W',Bel W W'->SF ⟨d,k,s,nn,kids,arms⟩=false->Mv Y W (W'.setCell ⟨hb+2,0,none⟩ (.bool false))/\∃ Y':Nat->Prop,(Y' (hb+2)/\Boxed (W'.setCell ⟨hb+2,0,none⟩ (.bool false)) (hb+2) 4 (.bool false)/\(f.pre 0).all SF=false)/\∀ k,Y' k->k<(W'.setCell ⟨hb+2,0,none⟩ (.bool false)).heap.size/\(Y k∨W.heap.size<=k):=fun W' hW' hs=>by
   have hB:Boxed W' (hb+2) 4 (.bool false):=hW'.blk HI2.out;refine⟨Mv.set_ (p:=⟨hb+2,0,none⟩) (Mv.of_bel hW') (.inl ((HY.out (hb+2)).2 (.inr (.inr rfl)))) _,Y,⟨(HY.out (hb+2)).2 (.inr (.inr rfl)),hB.set _,?_⟩,fun j hj=>⟨by have:=hW'.size;have:=HYS.out j hj;simp;omega,.inl hj⟩⟩;rw[HPRE.out,List.all_append,List.all_cons,hs];simp
  have NO:=hid no;clear no;by_cases hdR:d<R
  ·have g1:decide (R<=d)=false:=by simp;omega
   have HC:=hid (HCC.out hdR);have hRb:R<=1000000:=hR;clear HCC;cases sb
   ·gi_wp2_with (refine⟨trivial,?_⟩;gi_at_call 116;refine (CallsIn.inRound l (callsIn_wide.2 (HC.out _ (Bel.refl _)))).mono ?_;rintro e w4 ⟨rfl,hb4⟩;(have c4:=(show Boxed w4 (hb+2) 4 (.bool false) from hb4.blk HI2.out).cell);(have f4:=(show Boxed w4 (hb+2) 4 (.bool false) from hb4.blk HI2.out).frozen);(have HB4:=hid hb4);clear hb4)
    exact NO.out w4 HB4.out (by rw[HSB.out];simp)
   ·gi_wp2_with (refine⟨trivial,?_⟩;gi_at_call 116;refine (CallsIn.inRound l (callsIn_wide.2 (HC.out _ (Bel.refl _)))).mono ?_;rintro e w4 ⟨rfl,hb4⟩;(have c4:=(show Boxed w4 (hb+2) 4 (.bool false) from hb4.blk HI2.out).cell);(have f4:=(show Boxed w4 (hb+2) 4 (.bool false) from hb4.blk HI2.out).frozen);(have HB4:=hid hb4);clear hb4)
    have hB0:Boxed w4 hb 3 (.int .i64 (R:Int)):=HB4.out.blk HI0.out;have hB1:Boxed w4 (hb+1) 154 (.func (.func 116) #[] #[]):=HB4.out.blk HI1.out;have hB2:Boxed w4 (hb+2) 4 (.bool false):=HB4.out.blk HI2.out;refine⟨Mv.of_bel HB4.out,Y,⟨HY.out,hB0,hB1,hB2,lL HI3.out HB4.out.size,?_⟩,fun j hj=>⟨lT (HYS.out j hj) HB4.out.size,.inl hj⟩⟩;rw[List.map_append,List.all_append,HI4.out,List.map_cons,List.map_nil,List.all_cons,HSB.out];simp[hdR]
  ·have g1:R<=d:=by omega
   have g2:decide (R<=d)=true:=by simp;omega
   clear HCC;gi_wp2;refine⟨fun _ _=>trivial,?_⟩;gi_wp2;exact NO.out W (Bel.refl W) (by rw[HSB.out];simp[hdR])
 ·rintro D xs Y W hD hfin ⟨hY,hi0,hi1,hi2,hi3,hi4⟩ hmv hYs hDd hYD
  have HI:=hid hi2;have HFIN:=hid hfin;have HALL:=hid hi4;have HMV:=hid hmv;have HDD:=hid hDd;have HDL:=hid hD;have c1:=hi2.cell;have f1:=hi2.frozen;have hlt:=hi2.lt;have HNE:Hid (D≠hb+2):=hid (fun e=>hYD ((hY D).2 (.inr (.inr e))));clear hY hi0 hi1 hi2 hi3 hi4 hmv hYs hDd hYD hfin hD;simp only[Exit.inBlock,Exit.then];gi_wp2;have hbo:Boxed (W.setCell ⟨hb+2,0,none⟩ (.bool true)) (hb+2) 4 (.bool true):=(show Boxed W (hb+2) 4 (.bool false) from HI.out).set _;have hdd:(W.setCell ⟨hb+2,0,none⟩ (.bool true)).heap[D]?=some (.deferred (some [])):=(Below.heap_setCell W _ _ D HNE.out).trans HDD.out;refine qQ hdd (fun w' hmw=>⟨.bool true,qi rfl _ _ _ rfl ?_,?_⟩)
  ·have h2:Boxed w' (hb+2) 4 (.bool true):=(hmw.block (hb+2) hbo.lt (fun e=>HNE.out e.symm)).trans hbo
   exact jL h2
  ·have hv:(f.pre 0).all SF=true:=by rw[<- HFIN.out];exact HALL.out
   rw[hv];refine⟨rfl,?_⟩;have h1:Mv (fun k=>k=hb∨k=hb+1∨k=hb+2) w W:=(Mv.of_bel HBQ.out).trans HMV.out (fun j hj=> .inl hj);have h3:Mv (fun k=>k=hb∨k=hb+1∨k=hb+2) w (W.setCell ⟨hb+2,0,none⟩ (.bool true)):=h1.set_ (.inl (.inr (.inr rfl))) _;have h2:Mv (fun _=>False) w (W.setCell ⟨hb+2,0,none⟩ (.bool true)):=⟨h3.os,h3.tape,h3.output,h3.size,fun j hj _=>h3.block j hj (by have:=HHB.out;omega)⟩
   exact (h2.trans hmw (fun j hj=> .inr (by have:=HDL.out;have:=HBQ.out.size;omega))).bel
 ·rintro D xs Y W hD ⟨hy2,hbx,hfl⟩ hmv hYs hDd hYD
  refine qQ hDd (fun w' hmw=>⟨.bool false,qi rfl _ _ _ rfl ?_,?_⟩)
  ·have h2:Boxed w' (hb+2) 4 (.bool false):=(hmw.block (hb+2) hbx.lt (fun e=>hYD (e ▸ hy2))).trans hbx
   exact jL h2
  ·rw[hfl]
   refine⟨rfl,?_⟩;have h1:Mv (fun k=>k=hb∨k=hb+1∨k=hb+2) w W:=(Mv.of_bel HBQ.out).trans hmv (fun j hj=> .inl hj);have h2:Mv (fun _=>False) w W:=⟨h1.os,h1.tape,h1.output,h1.size,fun j hj _=>h1.block j hj (by have:=HHB.out;omega)⟩
   exact (h2.trans hmw (fun j hj=> .inr (by have:=HBQ.out.size;omega))).bel
set_option maxHeartbeats 8000000
noncomputable def fdMay (x:Fd):Bool:=mltB x.m&&(x.tr.pre 0).all (zR (hdP hTf) 60)
noncomputable def cdMay (x:Cd):Bool:=x.fs.all fdMay&&mtB (2,x.nm,0)
def Fd.ints(x:Fd):Prop:=x.tr.ints
theorem qdJ(nm:LU)(p:Pl)(A:OA)(n c:Nat)(fs:List Fd)(w:World)(hk:RowOf 8 FdAt w (OldT w) A n c fs)(hn:n<=1000000)(hg:∀ x∈fs,x.good/\x.ints)(ht:Tbl w)(hs:nm.length<=140737488355328) :
  Calls Tryz.prog 88 #[.agg #[.string ⟨nm.toArray⟩,p.a,p.l,p.c,.slice A n c]] w (qu (cdMay ⟨nm,p,fs⟩) w):=by
 have H:=hid hk;have HL:Hid (n=fs.length):=hid hk.1;have HG:=hid hg;have HT:=hid ht;obtain⟨r,hr⟩:=nW (cdMay ⟨nm,p,fs⟩);rw[<- hr];have HR:Hid (r=(fs.all fdMay&&mtB (2,nm,0))):=hid hr;have HTK:Hid (∀ W,Bel w W->Calls Tryz.prog 40 #[tokV 2 ⟨nm.toArray⟩] W (qu (mtB (2,nm,0)) W)):=hid fun W hW=>Qd 2 nm 0 ⟨0,0,0⟩ W (ht.bel hW) hs (by decide) (by decide);obtain⟨q,hq⟩:=nW (mtB (2,nm,0));rw[<- hq]at HR HTK;obtain⟨S,hS⟩:=nW (⟨nm.toArray⟩:BA);rw[<- hS]at HTK ⊢;clear hk hg ht hr hs hq hS;have hb1:Bel w (w.alloc (.cells #[.string S,p.a,p.l,p.c,.slice A n c] 49)):=(Bel.refl w).alloc _;have hq1:=blk1 w (.cells #[.string S,p.a,p.l,p.c,.slice A n c] 49);go_enter Tryz.func88,Tryz.ntmps88;go_wp2_with fail;obtain⟨w1,hw1⟩:=nW (w.alloc (.cells #[.string S,p.a,p.l,p.c,.slice A n c] 49));rw[<- hw1]at hb1 hq1 ⊢;have HB1:=hid hb1;have HQ1:=hid hq1;have HS1:Hid (w.heap.size<w1.heap.size):=hid (aJ.1 hq1).1;clear hb1 hq1 hw1;go_loopw [8] (fun i wr=>∃ j:Nat,j<=n/\i=.int .i64 (j:Int)/\Hid (fs.all fdMay=(fs.drop j).all fdMay)/\Hid (Bel w1 wr)) (fun i _=>n-(intOf i).toNat)
 case atStart=>exact⟨0,zL _,rfl,hid rfl,hid (Bel.refl _)⟩
 case round=>
  obtain⟨j,hj,rfl,HRJ,HB⟩:=hrel;by_cases hlt:j<n
  ·obtain⟨ub,uo,eA,hob,hfo⟩:=(H.bel QW (HB1.on HB)).2.2 (by omega)
   subst eA;obtain⟨x,hx⟩:∃ x,fs[j]?=some x:=⟨_,eG (by rw[<- HL.out];exact hlt)⟩
   have hgx:=HG.out x (mGg hx);have hjd:(fs.drop j).all fdMay=(fdMay x&&(fs.drop (j+1)).all fdMay):=by
    obtain⟨h1,h2⟩:=eJ.1 hx;rw[List.drop_eq_getElem_cons h1,h2,List.all_cons]
   obtain⟨A',ca',hkk,y0,y1,y2,y3,y4,y5,y6,y7⟩:=(hfo j x hx).cells;obtain⟨m,k,s,nn,p',kids⟩:=x;obtain⟨q2,hq2⟩:=nW (((Tr.nod k s nn p' kids .nil .nil).pre 0).all (zR (hdP hTf) 60));have HRN:Hid (fs.all fdMay=(mltB m&&q2&&(fs.drop (j+1)).all fdMay)):=hid (by rw[HRJ.out,hjd,hq2];rfl);have HC:Hid (∀ (g:Nat) (t:TypeId) (W:World),Bel wr W->W.heap[g]?=some (.cells #[.int .u8 k,.string ⟨s.toArray⟩,.int .u8 nn,p'.a,p'.l,p'.c,.slice A' kids.len ca'] t (0,0)) →
     Calls Tryz.prog 115 #[.int .i64 60,.slice (some ⟨g,0,none⟩) 1 1,.func (.func 35) #[] #[],.func (.func 116) #[] #[]] W (qu q2 W)):=hid fun g t W hW h1=>by
    have e1:=QF (sh:= .ty) (arms:= .nil) (B:=none) (bc:=0) (by intro e;cases e) hkk (.inr ⟨.inr rfl,rfl⟩) hW h1;rw[hq2];exact qdI 60 _ 1 1 _ W e1 (by have:=hgx.1;simp only[Fd.good]at this;simp only[Tr.size];omega) (by decide) (HT.bel ((HB1.on HB).on hW)) hgx.2
   simp only[]at y0 y1 y2 y3 y4 y5 y6 y7;obtain⟨l1,hl1⟩:=nW kids.len;obtain⟨SS,hSS⟩:=nW (⟨s.toArray⟩:BA);rw[<- hl1,<- hSS]at HC;rw[<- hSS]at y2;rw[<- hl1]at y7;have i1:(0:Int)<=(j:Int):=by omega
   have i2:(j:Int)<(n:Int):=by omega
   have hob':ub<wr.heap.size:=hob;have HLT:=hid hlt;have q4:=blk2 wr (.cells #[.int .u8 m,.int .u8 k,SS,.int .u8 nn,p'.a,p'.l,p'.c,.slice A' l1 ca'] 46) (.cells #[.int .u8 k,SS,.int .u8 nn,p'.a,p'.l,p'.c,.slice A' l1 ca'] 43);have HC2:=hid (HC (wr.heap.size+1) _ _ (((Bel.refl wr).alloc _).alloc _) q4.2);clear hfo hx hgx hjd hkk hq2 hl1 hSS hob q4 HC;obtain⟨b,hbm⟩:=nW (mltB m);rw[<- hbm]at HRN;have HM:Hid (∀ W,Calls Tryz.prog 114 #[.int .u8 m] W fun e w'=>e=.returned (.bool b)/\w'=W):=hid fun W=>by rw[hbm];exact qag m W
   clear hbm;go_wp2_with fail;refine (HM _).mono ?_;rintro e w5 ⟨rfl,rfl⟩;cases b
   ·have hr0:r=false:=by rw[HR.out,HRN.out];simp
    subst hr0;go_wp2_with fail;go_ret;exact⟨rfl,HB1.on (HB.alloc _)⟩
   go_wp2_with fail;refine HC2.out.mono ?_;rintro e w6 ⟨rfl,hb6⟩;have HB6:=hid (((HB.alloc _).alloc _).on hb6);clear hb6 HC2 y0 y1 y2 y3 y4 y5 y6 y7;cases q2
   ·have hr0:r=false:=by rw[HR.out,HRN.out];simp
    subst hr0;go_wp2_with fail;go_ret;exact⟨rfl,HB1.on HB6⟩
   ·have HR':Hid (fs.all fdMay=(fs.drop (j+1)).all fdMay):=hid (by rw[HRN.out];simp)
    go_wp2_with fail;go_roundw
    case rel=>exact⟨j+1,HLT,by go_num,HR',HB6⟩
    case measure=>exact mS HLT
  ·obtain rfl:j=n:=by omega
   have hr1:r=q:=by rw[HR.out,HRJ.out,dNn (by rw[<- HL.out];exact lR _)];simp
   subst hr1;have x0:=(box5 (HB.blk HQ1)).1;have kb:w.heap.size<wr.heap.size:=lT HS1 HB.size;go_wp2_with fail;refine (Zj _ _).mono ?_;rintro e w5 ⟨rfl,hb5⟩;have HB5:=hid (HB.on hb5);clear hb5 x0 kb;go_wp2_with fail;refine (HTK _ (HB1.on HB5)).mono ?_;rintro e w6 ⟨rfl,hb6⟩;have HB6:=hid (HB5.on hb6);clear hb6;go_wp2_with fail;go_ret;exact⟨rfl,HB1.on HB6⟩
set_option maxHeartbeats 8000000
theorem qdH(R:Nat)(A:OA)(n c:Nat)(f:Tr)(w:World)(hk:KidsTr w (OldT w) .pat A n c f)(hsz:f.size<=1000000)(hR:R<=1000000)(ht:Tbl w)(hin:f.ints) :
  Calls Tryz.prog 62 #[.int .i64 (R:Int),.slice A n c,.func (.func 64) #[] #[],.func (.func 65) #[] #[]] w fun e w'=>e=.returned (.bool ((f.pre 0).all (zR (hdP hPf) R)))/\Bel w w':=by
 have HK:=hid hk;have HT:=hid ht;have HIN:=hid hin;clear hk ht hin;obtain⟨SF,hSF⟩:=nW (zR (hdP hPf) R:Vis->Bool);have HSF:=hid hSF;rw[<- hSF];clear hSF;refine (callsIn_wide (n:=6)).1 ?_;refine callsIn_of_wp_marks Tryz.func62 rfl trivial ?_ rfl;simp only[Tryz.ntmps62,List.size_toArray,lC,lNn,Nat.reduceAdd,Nat.reduceSub,Array.replicate_succ,Array.replicate_zero,List.push_toArray,List.append_toArray,List.nil_append,cAa];gi_wp2_with (refine⟨trivial,?_⟩;gi_at_call 106;refine (callsIn_wide.2 (JK _ _ _ _)).mono ?_;rintro e w2 ⟨rfl,rfl⟩);obtain⟨hb,hhb⟩:=nW w.heap.size;obtain⟨wq,hwq⟩:=nW (((((w.alloc (.cells #[.int .i64 (R:Int)] 3)).alloc (.cells #[.func (.func 65) #[] #[]] 116)).alloc (.cells #[.bool false] 4)).alloc (.cells #[.slice A n c] 57)).alloc (.cells #[.func (.func 64) #[] #[]] 115));have hbq:Bel w wq:=by rw[hwq];exact (((((Bel.refl w).alloc _).alloc _).alloc _).alloc _).alloc _
 have hsq:wq.heap.size=hb+5:=by rw[hwq,hhb];simp
 have hq4:=blk5 w (.cells #[.int .i64 (R:Int)] 3) (.cells #[.func (.func 65) #[] #[]] 116) (.cells #[.bool false] 4) (.cells #[.slice A n c] 57) (.cells #[.func (.func 64) #[] #[]] 115);rw[<- hwq,<- hhb]at hq4;obtain⟨q0,q1,q2,q3,q4⟩:=hq4;replace q0:Boxed wq hb 3 (.int .i64 (R:Int)):=q0;replace q1:Boxed wq (hb+1) 116 (.func (.func 65) #[] #[]):=q1;replace q2:Boxed wq (hb+2) 4 (.bool false):=q2;replace q3:Boxed wq (hb+3) 57 (.slice A n c):=q3;replace q4:Boxed wq (hb+4) 115 (.func (.func 64) #[] #[]):=q4;rw[<- hwq,<- hhb];have HBQ:=hid hbq;have HHB:=hid hhb;have HSQ:=hid hsq;have Q0:=hid q0;have Q1:=hid q1;have Q2:=hid q2;have Q3:=hid q3;have Q4:=hid q4;clear hwq hbq hsq q0 q1 q2 q3 q4 hhb;refine jd (α:=Nd) (gf:=134) (lb:=#[.pointer (some ⟨hb+3,0,none⟩),.pointer (some ⟨hb+4,0,none⟩)]) rfl (fun args w=>by kernel_rfl) (encs:=encP) (JL A n c (hb+3) (hb+4) f hsz) (fun _=>rfl)
  (fun pre x Y W W' h hs hk=>⟨h.1,h.2.keep (fun j hj=>hk j hj.1 hj.2) (fun j hj=>⟨lT hj.1 hs,hj.2⟩)⟩)
  (fun xs Y W=>(∀ k,Y k↔(k=hb∨k=hb+1∨k=hb+2))/\Boxed W hb 3 (.int .i64 (R:Int))/\Boxed W (hb+1) 116 (.func (.func 65) #[] #[])/\Boxed W (hb+2) 4 (.bool false)/\hb+5<=W.heap.size/\(xs.map Nd.v).all SF=true)
  (fun xs Y W=>Y (hb+2)/\Boxed W (hb+2) 4 (.bool false)/\(f.pre 0).all SF=false) ?_ (fun s Y W W' h _ hk=>⟨h.1,(hk _ h.1).trans h.2.1,h.2.2⟩)
  (Y0:=fun k=>k=hb∨k=hb+1∨k=hb+2) ?_ (fun k hk=>by have:=HSQ.out;omega) ⟨fun _=>Iff.rfl,Q0.out,Q1.out,Q2.out,by rw[HSQ.out];exact lR _,rfl⟩
  (fun x bx=>{ tmps:=#[.int .i64 (R:Int),.slice A n c,.func (.func 64) #[] #[],.func (.func 65) #[] #[],.pointer (some ⟨hb,0,none⟩),undef,undef,.pointer (some ⟨hb+1,0,none⟩),.pointer (some ⟨hb+2,0,none⟩),x.v.d,.pointer (some ⟨bx,0,none⟩),.slice A n c,.func (.func 64) #[] #[],.func (.func 134) #[] #[.pointer (some ⟨hb+3,0,none⟩),.pointer (some ⟨hb+4,0,none⟩)],x.v.d,.agg #[.int .u8 x.v.k,.string ⟨x.v.s.toArray⟩,x.v.n,x.p.a,x.p.l,x.p.c,.slice x.A x.v.kids.len x.ca],undef,undef,undef,undef,undef,undef,undef,undef,undef,undef,undef,undef],defers:=[] })
  (fun x=> .cells #[.int .u8 x.v.k,.string ⟨x.v.s.toArray⟩,x.v.n,x.p.a,x.p.l,x.p.c,.slice x.A x.v.kids.len x.ca] 59) ?_ ?_ ?_ ?_
 ·rintro s Y W W' ⟨h1,h2,h3,h4,h5,h6⟩ hs hk
  exact⟨h1,(hk hb ((h1 hb).2 (.inl rfl))).trans h2,(hk (hb+1) ((h1 _).2 (.inr (.inl rfl)))).trans h3,(hk (hb+2) ((h1 _).2 (.inr (.inr rfl)))).trans h4,lL h5 hs,h6⟩
 ·rintro Y W hbW hY
  have hn:∀ j,Y j->hb<=j/\j≠hb+3/\j≠hb+4:=fun j hj=>by
   have:=HSQ.out;rcases hY j hj with (h | h | h) | h <;> omega
  refine⟨hbW.blk Q3.out,hbW.blk Q4.out,(HK.out.keep (fun j hj=>(HBQ.out.on hbW).block j hj)).wide (fun j hj=>⟨lT hj (HBQ.out.on hbW).size,fun h=>?_⟩),fun h=>(hn _ h).2.1 rfl,fun h=>(hn _ h).2.2 rfl⟩;have h1:=(hn j h).1;have h2:j<w.heap.size:=hj;rw[HHB.out]at h1;omega
 ·rintro l x W K hK
  have HKK:=hid hK;clear hK;simp only[encP];gi_wp2;exact HKK.out
 ·rintro l bx pre x Y W hbx1 hbx2 hob hYb ⟨Y',hYY,⟨suf,hpre⟩,hat⟩ hmv0 hYl ⟨hY,hi0,hi1,hi2,hi3,hi4⟩ hYs
  have hmem:x.v∈f.pre 0:=by rw[hpre];simp
  have hvs:=Tr.pre_size f 0 x.v hmem;have HVS:Hid (x.v.kids.size+x.v.arms.size<=1000000/\x.v.d<=1000000):=hid (by omega);have HVI:=hid (Tr.pre_ints f 0 x.v hmem HIN.out);have HAT:=hid hat;have HYS:=hid hYs;have HY:=hid hY;have HI0:=hid hi0;have HI1:=hid hi1;have HI2:=hid hi2;have HI3:=hid hi3;have HI4:=hid hi4;have HPRE:=hid hpre;have HBX:=hid hbx1;have HTW:Hid (Tbl W):=hid (by
   have h1:Mv (fun k=>k=hb∨k=hb+1∨k=hb+2) w W:=(Mv.of_bel HBQ.out).trans hmv0 (fun j hj=> .inl hj);have h2:Mv (fun _=>False) w W:=⟨h1.os,h1.tape,h1.output,h1.size,fun j hj _=>h1.block j hj (by have:=HHB.out;omega)⟩
   exact HT.out.bel h2.bel)
  obtain⟨xv,xp,xA,xca,xB,xcb⟩:=x;obtain⟨d,k,s,nn,kids,arms⟩:=xv;obtain⟨l1,hl1⟩:=nW kids.len;obtain⟨l2,hl2⟩:=nW arms.len;obtain⟨SS,hSS⟩:=nW (⟨s.toArray⟩:BA);simp only at HAT HVS HVI hob ⊢;obtain⟨sb,hsb⟩:=nW ((hdP hPf) (R-d) ⟨d,k,s,nn,kids,arms⟩);have HSB:Hid (SF ⟨d,k,s,nn,kids,arms⟩=(decide (d<R)&&sb)):=hid (by rw[HSF.out,hsb];rfl);have HCC:Hid (d<R->∀ W',Bel W W'->Calls Tryz.prog 65 #[.int .i64 ((R:Int)-(d:Int)),.agg #[.int .u8 k,.string ⟨s.toArray⟩,nn,xp.a,xp.l,xp.c,.slice xA kids.len xca]] W' fun e w'=>e=.returned (.bool sb)/\Bel W' w'):=hid fun hdR W' hW'=>by
   rw[hsb];exact qdK k s nn xp xA kids.len xca _ W' (HTW.out.bel hW') HVI.out.1
  simp only[<- hl1,<- hSS]at hob HCC ⊢;have hdb:d<=1000000:=HVS.out.2;obtain⟨x0,x1,x2,x3,x4,x5,x6⟩:=box7 hob;have eg:∀ args w,(callFunc 65 args).run Tryz.prog w=.ok (.enter 65 args) w:=fun args w=>by kernel_rfl
  have z0:=hi0.cell;have z1:=hi1.cell;have z2:=hi2.cell;have f2:=hi2.frozen;have hlt2:=hi2.lt;have hlt0:=hi0.lt;have hlt1:=hi1.lt;clear hpre hmem hvs hat hYs hY hYY hi0 hi1 hi2 hi3 hi4 hob hYl hbx1 hYb hl1 hl2 hSS hsb hmv0;have no:∀ W',Bel W W'->SF ⟨d,k,s,nn,kids,arms⟩=false->Mv Y W (W'.setCell ⟨hb+2,0,none⟩ (.bool false))/\∃ Y':Nat->Prop,(Y' (hb+2)/\Boxed (W'.setCell ⟨hb+2,0,none⟩ (.bool false)) (hb+2) 4 (.bool false)/\(f.pre 0).all SF=false)/\∀ k,Y' k->k<(W'.setCell ⟨hb+2,0,none⟩ (.bool false)).heap.size/\(Y k∨W.heap.size<=k):=fun W' hW' hs=>by
   have hB:Boxed W' (hb+2) 4 (.bool false):=hW'.blk HI2.out;refine⟨Mv.set_ (p:=⟨hb+2,0,none⟩) (Mv.of_bel hW') (.inl ((HY.out (hb+2)).2 (.inr (.inr rfl)))) _,Y,⟨(HY.out (hb+2)).2 (.inr (.inr rfl)),hB.set _,?_⟩,fun j hj=>⟨by have:=hW'.size;have:=HYS.out j hj;simp;omega,.inl hj⟩⟩;rw[HPRE.out,List.all_append,List.all_cons,hs];simp
  have NO:=hid no;clear no;by_cases hdR:d<R
  ·have g1:decide (R<=d)=false:=by simp;omega
   have HC:=hid (HCC.out hdR);have hRb:R<=1000000:=hR;clear HCC;cases sb
   ·gi_wp2_with (refine⟨trivial,?_⟩;gi_at_call 65;refine (CallsIn.inRound l (callsIn_wide.2 (HC.out _ (Bel.refl _)))).mono ?_;rintro e w4 ⟨rfl,hb4⟩;(have c4:=(show Boxed w4 (hb+2) 4 (.bool false) from hb4.blk HI2.out).cell);(have f4:=(show Boxed w4 (hb+2) 4 (.bool false) from hb4.blk HI2.out).frozen);(have HB4:=hid hb4);clear hb4)
    exact NO.out w4 HB4.out (by rw[HSB.out];simp)
   ·gi_wp2_with (refine⟨trivial,?_⟩;gi_at_call 65;refine (CallsIn.inRound l (callsIn_wide.2 (HC.out _ (Bel.refl _)))).mono ?_;rintro e w4 ⟨rfl,hb4⟩;(have c4:=(show Boxed w4 (hb+2) 4 (.bool false) from hb4.blk HI2.out).cell);(have f4:=(show Boxed w4 (hb+2) 4 (.bool false) from hb4.blk HI2.out).frozen);(have HB4:=hid hb4);clear hb4)
    have hB0:Boxed w4 hb 3 (.int .i64 (R:Int)):=HB4.out.blk HI0.out;have hB1:Boxed w4 (hb+1) 116 (.func (.func 65) #[] #[]):=HB4.out.blk HI1.out;have hB2:Boxed w4 (hb+2) 4 (.bool false):=HB4.out.blk HI2.out;refine⟨Mv.of_bel HB4.out,Y,⟨HY.out,hB0,hB1,hB2,lL HI3.out HB4.out.size,?_⟩,fun j hj=>⟨lT (HYS.out j hj) HB4.out.size,.inl hj⟩⟩;rw[List.map_append,List.all_append,HI4.out,List.map_cons,List.map_nil,List.all_cons,HSB.out];simp[hdR]
  ·have g1:R<=d:=by omega
   have g2:decide (R<=d)=true:=by simp;omega
   clear HCC;gi_wp2;refine⟨fun _ _=>trivial,?_⟩;gi_wp2;exact NO.out W (Bel.refl W) (by rw[HSB.out];simp[hdR])
 ·rintro D xs Y W hD hfin ⟨hY,hi0,hi1,hi2,hi3,hi4⟩ hmv hYs hDd hYD
  have HI:=hid hi2;have HFIN:=hid hfin;have HALL:=hid hi4;have HMV:=hid hmv;have HDD:=hid hDd;have HDL:=hid hD;have c1:=hi2.cell;have f1:=hi2.frozen;have hlt:=hi2.lt;have HNE:Hid (D≠hb+2):=hid (fun e=>hYD ((hY D).2 (.inr (.inr e))));clear hY hi0 hi1 hi2 hi3 hi4 hmv hYs hDd hYD hfin hD;simp only[Exit.inBlock,Exit.then];gi_wp2;have hbo:Boxed (W.setCell ⟨hb+2,0,none⟩ (.bool true)) (hb+2) 4 (.bool true):=(show Boxed W (hb+2) 4 (.bool false) from HI.out).set _;have hdd:(W.setCell ⟨hb+2,0,none⟩ (.bool true)).heap[D]?=some (.deferred (some [])):=(Below.heap_setCell W _ _ D HNE.out).trans HDD.out;refine qQ hdd (fun w' hmw=>⟨.bool true,qi rfl _ _ _ rfl ?_,?_⟩)
  ·have h2:Boxed w' (hb+2) 4 (.bool true):=(hmw.block (hb+2) hbo.lt (fun e=>HNE.out e.symm)).trans hbo
   exact jL h2
  ·have hv:(f.pre 0).all SF=true:=by rw[<- HFIN.out];exact HALL.out
   rw[hv];refine⟨rfl,?_⟩;have h1:Mv (fun k=>k=hb∨k=hb+1∨k=hb+2) w W:=(Mv.of_bel HBQ.out).trans HMV.out (fun j hj=> .inl hj);have h3:Mv (fun k=>k=hb∨k=hb+1∨k=hb+2) w (W.setCell ⟨hb+2,0,none⟩ (.bool true)):=h1.set_ (.inl (.inr (.inr rfl))) _;have h2:Mv (fun _=>False) w (W.setCell ⟨hb+2,0,none⟩ (.bool true)):=⟨h3.os,h3.tape,h3.output,h3.size,fun j hj _=>h3.block j hj (by have:=HHB.out;omega)⟩
   exact (h2.trans hmw (fun j hj=> .inr (by have:=HDL.out;have:=HBQ.out.size;omega))).bel
 ·rintro D xs Y W hD ⟨hy2,hbx,hfl⟩ hmv hYs hDd hYD
  refine qQ hDd (fun w' hmw=>⟨.bool false,qi rfl _ _ _ rfl ?_,?_⟩)
  ·have h2:Boxed w' (hb+2) 4 (.bool false):=(hmw.block (hb+2) hbx.lt (fun e=>hYD (e ▸ hy2))).trans hbx
   exact jL h2
  ·rw[hfl]
   refine⟨rfl,?_⟩;have h1:Mv (fun k=>k=hb∨k=hb+1∨k=hb+2) w W:=(Mv.of_bel HBQ.out).trans hmv (fun j hj=> .inl hj);have h2:Mv (fun _=>False) w W:=⟨h1.os,h1.tape,h1.output,h1.size,fun j hj _=>h1.block j hj (by have:=HHB.out;omega)⟩
   exact (h2.trans hmw (fun j hj=> .inr (by have:=HBQ.out.size;omega))).bel
end Go.Proofs.YtmloadclmjcbbaaGreatDoor.Mu
