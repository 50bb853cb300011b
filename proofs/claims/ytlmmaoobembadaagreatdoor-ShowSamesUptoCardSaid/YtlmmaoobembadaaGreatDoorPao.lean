import Derived.Laws.RangeString
import Derived.Test.YtlmmaoobembadaaGreatDoorPan
open Go.Lib (hid)
namespace Go.Proofs.YtlmmaoobembadaaGreatDoor.Mu
set_option maxHeartbeats 8000000
open Go Go.RowKit
attribute [local go_sem] Oper.semAt_some
set_option linter.unusedVariables false
set_option maxRecDepth 100000
theorem qci(N:Nat):∀ (k:Int) (s:List UInt8) (n:Int) (p:Pl) (A:Option Addr) (len cap:Nat) (kids:Tr) (B:Option Addr) (bl bc:Nat) (arms:Tr) (w:World),kids.size+arms.size=N->KidsTr w (OldT w) .ex A len cap kids->KidsTr w (OldT w) .arms B bl bc arms->kids.size+arms.size<=1000000 →
  Calls Tryz.prog 34 #[.agg #[.int .u8 k,.string ⟨s.toArray⟩,n,p.a,p.l,p.c,.slice A len cap,.slice B bl bc]] w fun e w'=>e=.returned (.int .i64 ((1+max kids.depth arms.depth:Nat):Int))/\Bel w w':=by
 induction N using Nat.strongRecOn with
 | _ N ih=>
  intro k s n p A len cap kids B bl bc arms w hN h hA hsz;have H:=hid h;have HA:=hid hA;have IH:=hid ih;have HL:Hid (len=kids.len):=hid h.1;have HM:Hid (bl=arms.len):=hid hA.1;have HN:=hid hN;have HZ:=hid hsz;have hlen:len<=1000000:=by have:=h.1;have:=kids.len_le;omega
  have hbl:bl<=1000000:=by have:=hA.1;have:=arms.len_le;omega
  clear h hA ih hN hsz;obtain⟨S,hS⟩:∃ S:ByteArray,S=⟨s.toArray⟩:=⟨_,rfl⟩
  rw[<- hS];clear hS;go_enter Tryz.func34,Tryz.ntmps34
  go_wp2_with fail
  have q1:=blk1 w (.cells #[.int .u8 k,S,n,p.a,p.l,p.c,.slice A len cap,.slice B bl bc] 32);have hb1:Bel w (w.alloc (.cells #[.int .u8 k,S,n,p.a,p.l,p.c,.slice A len cap,.slice B bl bc] 32)):=(Bel.refl w).alloc _;have hs1:(w.alloc (.cells #[.int .u8 k,S,n,p.a,p.l,p.c,.slice A len cap,.slice B bl bc] 32)).heap.size=w.heap.size+1:=by simp
  obtain⟨w1,hw1⟩:∃ w1,w1=w.alloc (.cells #[.int .u8 k,S,n,p.a,p.l,p.c,.slice A len cap,.slice B bl bc] 32):=⟨_,rfl⟩
  rw[<- hw1]at q1 hb1 hs1 ⊢;have HQ:=hid q1;have HB1:=hid hb1;have HS1:=hid hs1;clear q1 hb1 hs1 hw1;go_loopw [3,4] (fun s i wr=>∃ j:Nat,j<=len/\i=.int .i64 (j:Int)/\s=.int .i64 ((kids.depU j:Nat):Int)/\Hid (Bel w1 wr)) (fun _ i _=>len-(intOf i).toNat)
  case atStart=>exact⟨0,Nat.zero_le _,rfl,by rw[Tr.depU_zero];rfl,hid (Bel.refl _)⟩
  case round=>
   obtain⟨j,hj,rfl,rfl,HB⟩:=hrel;have hbx:=(HB.out.block w.heap.size (by have:=HS1.out;omega)).trans HQ.out;obtain⟨x6,x7⟩:=Qi hbx;clear hbx;by_cases hlt:j<len
   ·have hkr:KidsTr wr (OldT w) .ex A len cap kids:=H.out.keep fun i hi=>(HB.out.block i (Nat.lt_of_lt_of_le hi HB1.out.size)).trans (HB1.out.block i hi)
    obtain⟨ub,uo,eA,hob,hfo⟩:=hkr.2.2 (by omega);subst eA;obtain⟨k',s',n',p',kids',ar',en,hd',⟨A',cap',e5,hcp',hk'⟩,har',_⟩:=TrAt.nod_at (by intro e;cases e) kids j ub uo hfo (by rw[<- HL.out];exact hlt);obtain⟨_,B',bc',e6,hbp',hb'⟩:Sh.ex=.ex/\∃ A cap,wr.cell? ⟨ub,uo+j*Sh.sz .ex+7,none⟩=some (.slice A ar'.len cap)/\ar'.len<=cap/\(0<ar'.len->∃ b' o',A=some ⟨b',o',none⟩/\OldT w b'/\TrAt wr (OldT w) ar' .arms b' o'):=by
     rcases har' with e | ⟨e | e,_⟩
     ·exact e
     ·cases e
     ·cases e
    obtain⟨e0,e1,e2,f1,f2,f3⟩:=hd';have hsn:=Tr.nth_size kids j;rw[en]at hsn;simp only[Tr.size]at hsn;have hOld:∀ i,OldT w i->OldT wr i:=fun i hi=>Nat.lt_of_lt_of_le hi (Nat.le_trans HB1.out.size HB.out.size);have hK':KidsTr wr (OldT w) .ex A' kids'.len cap' kids':=⟨rfl,hcp',hk'⟩
    have hR':KidsTr wr (OldT w) .arms B' ar'.len bc' ar':=⟨rfl,hbp',hb'⟩
    have HU:Hid (kids.depU (j+1)=max (kids.depU j) (1+max kids'.depth ar'.depth)):=hid (by
     rw[Tr.depU_succ kids j (by rw[<- HL.out];exact hlt),en];simp only[Tr.depth];omega)
    have HC:Hid (Calls Tryz.prog 34 #[.agg #[.int .u8 k',.string ⟨s'.toArray⟩,n',p'.a,p'.l,p'.c,.slice A' kids'.len cap',.slice B' ar'.len bc']] wr fun e w'=>e=.returned (.int .i64 ((1+max kids'.depth ar'.depth:Nat):Int))/\Bel wr w'):=hid (by
     have hz:=HZ.out;exact IH.out (kids'.size+ar'.size) (by have:=HN.out;omega) k' s' n' p' A' kids'.len cap' kids' B' ar'.len bc' ar' wr rfl (hK'.wide hOld) (hR'.wide hOld) (by omega))
    obtain⟨z,hz⟩:∃ z:Int,z=((1+max kids'.depth ar'.depth:Nat):Int):=⟨_,rfl⟩
    obtain⟨y,hy⟩:∃ y:Int,y=((kids.depU j:Nat):Int):=⟨_,rfl⟩
    rw[<- hz]at HC;rw[<- hy];have HZY:=hid (And.intro hz hy);obtain⟨l1,hl1⟩:∃ l,l=kids'.len:=⟨_,rfl⟩
    obtain⟨l3,hl3⟩:∃ l,l=ar'.len:=⟨_,rfl⟩
    rw[<- hl1,<- hl3]at HC;rw[<- hl1]at e5;rw[<- hl3]at e6;have i1:(0:Int)<=(j:Int):=by omega
    have i2:(j:Int)<(len:Int):=by omega
    have HLT:=hid hlt;simp only[Sh.sz,Sh.kd]at e0 e1 e2 e5 e6 f1 f2 f3;clear hkr hfo en hk' hK' hR' hb' hbp' hsn hz hy hl1 hl3 har' hcp' hOld hob;go_wp2_with fail
    refine HC.out.mono ?_;rintro e w2 ⟨rfl,hb2⟩;have HB2:=hid (HB.out.on hb2);clear hb2 e0 e1 e2 e5 e6 f1 f2 f3 x6 x7;go_wp2_with fail
    refine (jO _ _ _).mono ?_;rintro e w3 ⟨rfl,hb3⟩;have HB3:=hid (HB2.out.on hb3);clear hb3;go_wp2_with fail
    go_roundw
    case rel=>
     refine⟨j+1,HLT.out,by go_num,?_,HB3⟩;rw[HU.out,HZY.out.1,HZY.out.2];congr 1
     omega
    case measure=>have:=HLT.out;simp[intOf];omega
   ·obtain rfl:j=len:=by omega
    have HKD:Hid (kids.depU j=kids.depth):=hid (by rw[HL.out,Tr.depU_all]);rw[HKD.out];go_wp2_with fail
    go_loopw [3,5] (fun s i wr=>∃ j:Nat,j<=bl/\i=.int .i64 (j:Int)/\s=.int .i64 ((max kids.depth (arms.depU j):Nat):Int)/\Hid (Bel w1 wr)) (fun _ i _=>bl-(intOf i).toNat)
    case atStart=>exact⟨0,Nat.zero_le _,rfl,by rw[Tr.depU_zero,Nat.max_eq_left (Nat.zero_le _)],HB⟩
    case round=>
     obtain⟨j,hj2,rfl,rfl,HBs⟩:=hrel;clear hj HB x6 x7 hlt HKD;have hbx:=(HBs.out.block w.heap.size (by have:=HS1.out;omega)).trans HQ.out;obtain⟨x6,x7⟩:=Qi hbx;clear hbx;by_cases hlt:j<bl
     ·have hkr:KidsTr wr (OldT w) .arms B bl bc arms:=HA.out.keep fun i hi=>(HBs.out.block i (Nat.lt_of_lt_of_le hi HB1.out.size)).trans (HB1.out.block i hi)
      obtain⟨ub,uo,eA,hob,hfo⟩:=hkr.2.2 (by omega);subst eA;obtain⟨k',s',n',p',kids',f',en,_,hd',⟨A',cap',a6,hcp',hk'⟩,hone,hex,_⟩:=TrAt.arm_at arms j ub uo hfo (by rw[<- HM.out];exact hlt);obtain⟨K',S',N',P',kx',ax',rfl⟩:=Tr.single (by intro e;cases e) f' hone hex;obtain⟨hD',⟨F',D',a13,hcx',hkx'⟩,hax',_⟩:=hex;obtain⟨_,B',E',a14,hbp',hb'⟩:Sh.ex=.ex/\∃ A cap,wr.cell? ⟨ub,uo+j*15+7+7,none⟩=some (.slice A ax'.len cap)/\ax'.len<=cap/\(0<ax'.len->∃ b' o',A=some ⟨b',o',none⟩/\OldT w b'/\TrAt wr (OldT w) ax' .arms b' o'):=by
       rcases hax' with e | ⟨e | e,_⟩
       ·exact e
       ·cases e
       ·cases e
      obtain⟨a0,a1,a2,a3,a4,a5⟩:=hd';obtain⟨a7,a8,a9,a10,a11,a12⟩:=hD';have hsn:=Tr.nth_size arms j;rw[en]at hsn;simp only[Tr.size]at hsn;have hOld:∀ i,OldT w i->OldT wr i:=fun i hi=>Nat.lt_of_lt_of_le hi (Nat.le_trans HB1.out.size HBs.out.size);have hK':KidsTr wr (OldT w) .pat A' kids'.len cap' kids':=⟨rfl,hcp',hk'⟩
      have hX':KidsTr wr (OldT w) .ex F' kx'.len D' kx':=⟨rfl,hcx',hkx'⟩
      have hR':KidsTr wr (OldT w) .arms B' ax'.len E' ax':=⟨rfl,hbp',hb'⟩
      have HU:Hid (arms.depU (j+1)=max (arms.depU j) (max (1+kids'.depth) (1+max kx'.depth ax'.depth))):=hid (by
       rw[Tr.depU_succ arms j (by rw[<- HM.out];exact hlt),en];simp only[Tr.depth];omega)
      have HP:Hid (∀ W,Bel wr W->Calls Tryz.prog 73 #[.agg #[.int .u8 k',.string ⟨s'.toArray⟩,n',p'.a,p'.l,p'.c,.slice A' kids'.len cap']] W fun e w'=>e=.returned (.int .i64 ((1+kids'.depth:Nat):Int))/\Bel W w'):=hid fun W hW=>by
       have hz:=HZ.out;exact qai kids'.size k' s' n' p' A' kids'.len cap' kids' W rfl ((hK'.wide hOld).bel hW) (by omega)
      have HX:Hid (∀ W,Bel wr W->Calls Tryz.prog 34 #[.agg #[.int .u8 K',.string ⟨S'.toArray⟩,N',P'.a,P'.l,P'.c,.slice F' kx'.len D',.slice B' ax'.len E']] W fun e w'=>e=.returned (.int .i64 ((1+max kx'.depth ax'.depth:Nat):Int))/\Bel W w'):=hid fun W hW=>by
       have hz:=HZ.out;have hn:=HN.out;exact IH.out (kx'.size+ax'.size) (by omega) K' S' N' P' F' kx'.len D' kx' B' ax'.len E' ax' W rfl ((hX'.wide hOld).bel hW) ((hR'.wide hOld).bel hW) (by omega)
      have HG:Hid (∀ (a b:Int) W,Bel wr W->Calls Tryz.prog 35 #[.int .i64 a,b] W fun e w'=>e=.returned (.int .i64 (max a b))/\Bel W w'):=hid fun a b W _=>jO a b W;obtain⟨z1,hz1⟩:∃ z:Int,z=((1+kids'.depth:Nat):Int):=⟨_,rfl⟩
      obtain⟨z2,hz2⟩:∃ z:Int,z=((1+max kx'.depth ax'.depth:Nat):Int):=⟨_,rfl⟩
      obtain⟨y,hy⟩:∃ y:Int,y=((max kids.depth (arms.depU j):Nat):Int):=⟨_,rfl⟩
      rw[<- hz1]at HP;rw[<- hz2]at HX;rw[<- hy];have HZY:=hid (And.intro hz1 (And.intro hz2 hy));obtain⟨l1,hl1⟩:∃ l,l=kids'.len:=⟨_,rfl⟩
      obtain⟨l2,hl2⟩:∃ l,l=kx'.len:=⟨_,rfl⟩
      obtain⟨l3,hl3⟩:∃ l,l=ax'.len:=⟨_,rfl⟩
      rw[<- hl1]at a6 HP;rw[<- hl2]at a13;rw[<- hl3]at a14;rw[<- hl2,<- hl3]at HX;have i1:(0:Int)<=(j:Int):=by omega
      have i2:(j:Int)<(bl:Int):=by omega
      have kb1:ub<wr.heap.size:=hOld _ hob;have kb3:w.heap.size<wr.heap.size:=by have:=HS1.out;have:=HBs.out.size;omega
      have HLT:=hid hlt;simp only[Sh.kd]at a9;clear hkr hfo en hk' hK' hX' hR' hb' hkx' hsn hz1 hz2 hy hl1 hl2 hl3 hOld hob hcp' hcx' hbp' hax' hone;have X7:=qa kb3 x7;have A0:=qa kb1 a0;have A1:=qa kb1 a1;have A2:=qa kb1 a2;have A3:=qa kb1 a3;have A4:=qa kb1 a4;have A5:=qa kb1 a5;have A6:=qa kb1 a6;have A7:=qa kb1 a7;have A8:=qa kb1 a8;have A9:=qa kb1 a9;have A10:=qa kb1 a10;have A11:=qa kb1 a11;have A12:=qa kb1 a12;have A13:=qa kb1 a13;have A14:=qa kb1 a14;simp only[Nat.add_assoc,Nat.reduceAdd]at A8 A9 A10 A11 A12 A13 A14;simp only[<- Nat.add_assoc]at A8 A9 A10 A11 A12 A13 A14;go_wp2_with fail
      refine qh 17 (by kernel_rfl) (by kernel_rfl) ?_;simp only[List.take_succ_cons,List.take_zero,List.drop_succ_cons,List.drop_zero];repeat (go_big_quiet_step (first | exact (HP.out _ (Abw.bel _)).mono fun e w h=>⟨h.1,⟨_,(Abw.bel _).on h.2⟩,rfl⟩ | exact (HX.out _ (Abw.bel _)).mono fun e w h=>⟨h.1,⟨_,(Abw.bel _).on h.2⟩,rfl⟩ | exact (HG.out _ _ _ (Abw.bel _)).mono fun e w h=>⟨h.1,⟨_,(Abw.bel _).on h.2⟩,rfl⟩))
      refine wpQuiet_nil ?_;rintro w4 ⟨⟨w4,hb4⟩,rfl⟩;have HB4:=hid (HBs.out.on hb4);clear hb4 x6 x7 X7 a0 a1 a2 a3 a4 a5 a6 a7 a8 a9 a10 a11 a12 a13 a14 A0 A1 A2 A3 A4 A5 A6 A7 A8 A9 A10 A11 A12 A13 A14;go_wp2_with fail
      go_roundw
      case rel=>
       refine⟨j+1,HLT.out,by go_num,?_,HB4⟩;rw[HU.out,HZY.out.1,HZY.out.2.1,HZY.out.2.2];congr 1
       omega
      case measure=>have:=HLT.out;simp[intOf];omega
     ·obtain rfl:j=bl:=by omega
      have HE:Hid (((max kids.depth (arms.depU j):Nat):Int)+1=((1+max kids.depth arms.depth:Nat):Int)/\max kids.depth arms.depth<=1000000):=hid (by
       rw[HM.out,Tr.depU_all];have:=kids.depth_le;have:=arms.depth_le;have:=HZ.out;exact⟨by omega,by omega⟩)
      obtain⟨y,hy⟩:∃ y:Int,y=((max kids.depth (arms.depU j):Nat):Int):=⟨_,rfl⟩
      have hy0:0<=y/\y<=1000000:=by have:=HE.out;omega
      rw[<- hy]at HE ⊢;have hw:wrap64 (y+1)=y+1:=IntWalk.wrap64_in _ (by omega);clear hy;go_wp2_with fail
      go_ret
      exact⟨by rw[HE.out.1];rfl,HB1.out.on HBs.out⟩
end Go.Proofs.YtlmmaoobembadaaGreatDoor.Mu
namespace Go.Proofs.YtlmmaoobembadaaGreatDoor.Mu
set_option maxHeartbeats 4000000
open Go Go.RowKit Go.Shelf
attribute [local go_sem] Oper.semAt_some
set_option linter.unusedVariables false
set_option maxRecDepth 100000
theorem qfa{w:World}{g:Nat}{t:TypeId}{x0 x1 x2 x3 x4 x5 x6 x7 x8 x9 x10 x11 x12 x13 x14 x15:Value}(h:w.heap[g]?=some (.cells #[x0,x1,x2,x3,x4,x5,x6,x7,x8,x9,x10,x11,x12,x13,x14,x15] t (0,0))) :
  w.cell? ⟨g,0,none⟩=some x0/\w.cell? ⟨g,6,none⟩=some x6:=by
 simp[World.cell?,h]
theorem Tr.depth_app:∀ f g:Tr,(f.app g).depth=max f.depth g.depth
 | .nil,g=>by simp[Tr.app,Tr.depth]
 | .nod _ _ _ _ _ _ r,g=>by simp only[Tr.app,Tr.depth,Tr.depth_app r g];omega
 | .arm _ _ _ _ _ _ r,g=>by simp only[Tr.app,Tr.depth,Tr.depth_app r g];omega
theorem Zv(xs:List Fd)(j:Nat)(x:Fd)(h:xs[j]?=some x):1+x.kids.size<=(tysL xs).size:=by
 induction xs generalizing j with
 | nil=>cases h
 | cons y ys ih=>
  cases j with
  | zero=>simp only[List.getElem?_cons_zero,Option.some.injEq]at h;subst h;simp only[tysL,Tr.size];omega
  | succ j=>simp only[List.getElem?_cons_succ]at h;have:=ih j h;simp only[tysL,Tr.size];omega
theorem qcM(cs:List Cd)(j:Nat)(c:Cd)(h:cs[j]?=some c):∃ xs ys,qm cs=xs++c.fs++ys/\xs=qm (cs.take j):=by
 induction cs generalizing j with
 | nil=>cases h
 | cons y ys ih=>
  cases j with
  | zero=>simp only[List.getElem?_cons_zero,Option.some.injEq]at h;subst h;exact⟨[],qm ys,by simp[qm],by simp[qm]⟩
  | succ j=>
   simp only[List.getElem?_cons_succ]at h;obtain⟨a,b,e,f⟩:=ih j h;exact⟨y.fs++a,b,by simp only[qm,e,List.append_assoc],by simp only[List.take_succ_cons,qm,f]⟩
theorem qcj(kd:Int)(nm:List UInt8)(q:Pl)(PA:Option Addr)(pl pc:Nat)(CA:Option Addr)(cl cc:Nat)(rc:Bool)(k:Int)(s:List UInt8)(n:Int)(p:Pl)(A:Option Addr)(c:Nat)(B:Option Addr)(bc:Nat)(kids arms:Tr)(cs:List Cd)(w:World)(hk:KidsTr w (OldT w) .ex A kids.len c kids)(ha:KidsTr w (OldT w) .arms B arms.len bc arms)(hsz:kids.size+arms.size<=900000)(hc:RowOf 5 CdAt w (OldT w) CA cl cc cs)(hcl:cl<=1000000)(hfl:(tysL (qm cs)).size<=1000000) :
  Calls Tryz.prog 10 #[.agg #[.int .u8 kd,.string ⟨nm.toArray⟩,q.a,q.l,q.c,.slice PA pl pc,.slice CA cl cc,.bool rc,.int .u8 k,.string ⟨s.toArray⟩,n,p.a,p.l,p.c,.slice A kids.len c,.slice B arms.len bc]] w (DepQ (zV kd (.nod k s n p kids arms .nil) cs) w):=by
 have HX:Hid (∀ W,Bel w W->Calls Tryz.prog 34 #[.agg #[.int .u8 k,.string ⟨s.toArray⟩,n,p.a,p.l,p.c,.slice A kids.len c,.slice B arms.len bc]] W (DepQ (Tr.depth (.nod k s n p kids arms .nil)) W)):=hid fun W hW=>by
  have h:=qci (kids.size+arms.size) k s n p A kids.len c kids B arms.len bc arms W rfl (hk.bel hW) (ha.bel hW) (by omega);have e:Tr.depth (.nod k s n p kids arms .nil)=1+max kids.depth arms.depth:=by simp only[Tr.depth];omega
  rw[e];exact h
 have HC:=hid hc;have HCL:Hid (cl=cs.length):=hid hc.1;have HFL:=hid hfl;unfold zV;obtain⟨dx,hdx⟩:∃ r,r=Tr.depth (.nod k s n p kids arms .nil):=⟨_,rfl⟩
 rw[<- hdx]at HX ⊢;obtain⟨kl,hl1⟩:∃ l,l=kids.len:=⟨_,rfl⟩
 obtain⟨al,hl3⟩:∃ l,l=arms.len:=⟨_,rfl⟩
 obtain⟨S,hS⟩:∃ S:ByteArray,S=⟨s.toArray⟩:=⟨_,rfl⟩
 obtain⟨NM,hNM⟩:∃ S:ByteArray,S=⟨nm.toArray⟩:=⟨_,rfl⟩
 rw[<- hl1,<- hl3,<- hS]at HX;rw[<- hl1,<- hl3,<- hS,<- hNM];clear hk ha hsz hc hfl hdx hl1 hl3 hS hNM;have hb1:Bel w (w.alloc (.cells #[.int .u8 kd,NM,q.a,q.l,q.c,.slice PA pl pc,.slice CA cl cc,.bool rc,.int .u8 k,S,n,p.a,p.l,p.c,.slice A kl c,.slice B al bc] 34)):=(Bel.refl w).alloc _;have HB1:=hid hb1;clear hb1;by_cases h2:kd=2
 ·subst h2
  rw[if_pos rfl];clear HC HCL HFL hcl;go_enter Tryz.func10,Tryz.ntmps10
  go_wp2_with fail
  refine (HX.out _ HB1.out).mono ?_;rintro e w5 ⟨rfl,hb5⟩;have HB5:=hid (HB1.out.on hb5);clear hb5;go_wp2_with fail
  go_ret
  exact⟨rfl,HB5.out⟩
 rw[if_neg h2];have k2:(kd==2)=false:=by simpa using h2
 have hq1:=blk1 w (.cells #[.int .u8 kd,NM,q.a,q.l,q.c,.slice PA pl pc,.slice CA cl cc,.bool rc,.int .u8 k,S,n,p.a,p.l,p.c,.slice A kl c,.slice B al bc] 34);clear HX h2;obtain⟨w1,hw1⟩:∃ w1,w1=w.alloc (.cells #[.int .u8 kd,NM,q.a,q.l,q.c,.slice PA pl pc,.slice CA cl cc,.bool rc,.int .u8 k,S,n,p.a,p.l,p.c,.slice A kl c,.slice B al bc] 34):=⟨_,rfl⟩
 rw[<- hw1]at HB1 hq1;have HQ:=hid hq1;clear hq1;by_cases h1:kd=1
 case neg=>
  rw[if_neg h1];have k1:(kd==1)=false:=by simpa using h1
  clear h1;go_enter Tryz.func10,Tryz.ntmps10
  go_wp2_with fail
  rw[<- hw1];clear hw1;have HS1:Hid (w.heap.size<w1.heap.size):=hid (Array.getElem?_eq_some_iff.1 HQ.out).1;obtain⟨x0,x6⟩:=qfa HQ.out;have kb3:w.heap.size<w1.heap.size:=HS1.out;go_loopw [3,4] (fun v i wr=>v=.int .i64 0/\i=.int .i64 0/\Hid (wr=w1)) (fun _ i _=>0)
  case atStart=>exact⟨rfl,rfl,hid rfl⟩
  case round=>
   obtain⟨rfl,rfl,HW⟩:=hrel;obtain rfl:=HW.out;go_wp2_with fail
   all_goals (go_ret;exact⟨rfl,HB1.out⟩)
 subst h1;rw[if_pos rfl];go_enter Tryz.func10,Tryz.ntmps10
 go_wp2_with fail
 rw[<- hw1];clear hw1;have HS1:Hid (w.heap.size<w1.heap.size):=hid (Array.getElem?_eq_some_iff.1 HQ.out).1;go_loopw [3,4] (fun v i wr=>∃ (j a:Nat),j<=cl/\v=.int .i64 (a:Int)/\i=.int .i64 (j:Int)/\Hid (a=(tysL (qm (cs.take j))).depth)/\Hid (Bel w1 wr)) (fun _ i _=>cl-(intOf i).toNat)
 case atStart=>exact⟨0,0,Nat.zero_le _,rfl,rfl,hid rfl,hid (Bel.refl _)⟩
 case round=>
  obtain⟨j,a,hj,rfl,rfl,HA,HB⟩:=hrel;obtain⟨x0,x6⟩:=qfa (HB.out.blk HQ.out);have kb3:w.heap.size<wr.heap.size:=Nat.lt_of_lt_of_le HS1.out HB.out.size;by_cases hlt:j<cl
  ·obtain⟨ub,uo,eB,hob,hfo⟩:=HC.out.2.2 (by omega)
   subst eB;obtain⟨x,hx⟩:∃ x,cs[j]?=some x:=⟨_,List.getElem?_eq_getElem (by rw[<- HCL.out];exact hlt)⟩
   obtain⟨y0,y1,y2,y3,A',ca',y4,hff⟩:=hfo j x hx;obtain⟨cn,cp,fs⟩:=x;obtain⟨GX,GY,hgs,hgx⟩:=qcM cs j _ hx;have HG1:Hid (qm (cs.take (j+1))=GX++fs):=hid (by rw[hgx];exact jg cs j _ hx);have HGZ:Hid ((tysL GX).size+(tysL fs).size<=1000000):=hid (by
    have h1:=HFL.out;rw[hgs,jo,jo,Tr.app_size,Tr.app_size]at h1;simp only[]at h1;omega)
   rw[<- hgx]at HA;simp only[]at y4 hff;obtain⟨fl,hfl⟩:∃ l,l=fs.length:=⟨_,rfl⟩
   have HFN:=hid hfl;have hf8:fl<=1000000:=by have:=HGZ.out;have h3:=(tysL fs).len_le;rw[QI]at h3;omega
   rw[<- hfl]at y4 hff;have HF:Hid (RowOf 8 FdAt w (OldT w) A' fl ca' fs):=hid hff;have HY4:=hid y4;have HOB:=hid hob;have i1:(0:Int)<=(j:Int):=by omega
   have i2:(j:Int)<(cl:Int):=by omega
   have HLT:=hid hlt;have HBR:=hid HB.out;clear hfo hob hx hgs hgx hfl hff y0 y1 y2 y3 y4 HB;go_wp2_with fail
   clear x0 x6 kb3;go_loopw [3,5] (fun v i wi=>∃ (h a:Nat),h<=fl/\v=.int .i64 (a:Int)/\i=.int .i64 (h:Int)/\Hid (a=(tysL (GX++fs.take h)).depth)/\Hid (Bel w1 wi)) (fun _ i _=>fl-(intOf i).toNat)
   case atStart=>exact⟨0,a,Nat.zero_le _,rfl,rfl,hid (by rw[List.take_zero,List.append_nil];exact HA.out),HBR⟩
   case round=>
    obtain⟨h,a,hh,rfl,rfl,HAI,HBI⟩:=hrel;obtain⟨x0,x6⟩:=qfa (HBI.out.blk HQ.out);have kb3:w.heap.size<wr.heap.size:=Nat.lt_of_lt_of_le HS1.out HBI.out.size;have hcw:=(Bel.cells (HB1.out.on HBI.out)).1;have y4:=(hcw ub _ HOB.out).trans HY4.out;have kb1:ub<wr.heap.size:=Nat.lt_of_lt_of_le HOB.out (HB1.out.on HBI.out).size;by_cases hlt2:h<fl
    ·obtain⟨ub2,uo2,eB2,hob2,hfo2⟩:=HF.out.2.2 (by omega)
     subst eB2;obtain⟨y,hy⟩:∃ y,fs[h]?=some y:=⟨_,List.getElem?_eq_getElem (by rw[<- HFN.out];exact hlt2)⟩
     obtain⟨A4,c4,hkk,z0,z1,z2,z3,z4,z5,z6,z7⟩:=(hfo2 h y hy).cells;have hys:=Zv fs h y hy;obtain⟨fm,fk,fs',fn,fp,fkids⟩:=y;simp only[]at hkk z0 z1 z2 z3 z4 z5 z6 z7 hys;have HAN:Hid (max a (1+fkids.depth)=(tysL (GX++fs.take (h+1))).depth):=hid (by
      rw[List.take_add_one,hy,Option.toList_some,<- List.append_assoc,jo,Tr.depth_app,<- HAI.out];simp only[tysL,Tr.depth];omega)
     have HT:Hid (∀ W,Bel wr W->Calls Tryz.prog 36 #[.agg #[.int .u8 fk,.string ⟨fs'.toArray⟩,.int .u8 fn,fp.a,fp.l,fp.c,.slice A4 fkids.len c4]] W (DepQ (1+fkids.depth) W)):=hid fun W hW=>
      qck fkids.size fk fs' fn fp A4 fkids.len c4 fkids W rfl (hkk.bel ((HB1.out.on HBI.out).on hW)) (by have:=HGZ.out;omega)
     obtain⟨dy,hdy⟩:∃ d,d=1+fkids.depth:=⟨_,rfl⟩
     rw[<- hdy]at HAN HT;replace z0:=(hcw ub2 _ hob2).trans z0
     replace z1:=(hcw ub2 _ hob2).trans z1
     replace z2:=(hcw ub2 _ hob2).trans z2
     replace z3:=(hcw ub2 _ hob2).trans z3
     replace z4:=(hcw ub2 _ hob2).trans z4
     replace z5:=(hcw ub2 _ hob2).trans z5
     replace z6:=(hcw ub2 _ hob2).trans z6
     replace z7:=(hcw ub2 _ hob2).trans z7
     have hob2':ub2<wr.heap.size:=Nat.lt_of_lt_of_le hob2 (HB1.out.on HBI.out).size;obtain⟨l3,hl3⟩:∃ l,l=fkids.len:=⟨_,rfl⟩
     rw[<- hl3]at z7 HT;obtain⟨FJ,hFS⟩:∃ S:ByteArray,S=⟨fs'.toArray⟩:=⟨_,rfl⟩
     rw[<- hFS]at z2 HT;have j1:(0:Int)<=(h:Int):=by omega
     have j2:(h:Int)<(fl:Int):=by omega
     have HLT2:=hid hlt2;clear hcw hob2 hfo2 hy hkk hl3 hFS hys hdy;go_wp2_with fail
     refine (HT.out _ (Bel.refl _)).mono ?_;rintro e w4 ⟨rfl,hb4⟩;have HB4:=hid (HBI.out.on hb4);clear hb4 x0 x6 y4 z0 z1 z2 z3 z4 z5 z6 z7 HT kb3 kb1 hob2';go_wp2_with fail
     refine (jO _ _ _).mono ?_;rintro e w5 ⟨rfl,hb5⟩;have HB5:=hid (HB4.out.on hb5);clear hb5;go_wp2_with fail
     go_roundw
     case rel=>exact⟨h+1,max a dy,HLT2.out,(congrArg (Value.int .i64) (by omega)),by go_num,HAN,HB5⟩
     case measure=>have:=HLT2.out;simp[intOf];omega
    ·obtain rfl:h=fl:=by omega
     have HAO:Hid (a=(tysL (qm (cs.take (j+1)))).depth):=hid (by
      have h:=HAI.out;rw[HFN.out,List.take_length]at h;rw[HG1.out];exact h)
     clear hcw;go_wp2_with fail
     go_roundw
     case rel=>exact⟨j+1,a,HLT.out,rfl,by go_num,HAO,HBI⟩
     case measure=>have:=HLT.out;simp[intOf];omega
  ·obtain rfl:j=cl:=by omega
   go_wp2_with fail
   go_ret
   refine⟨?_,HB1.out.on HB.out⟩;have h:=HA.out;rw[HCL.out,List.take_length]at h;rw[<- h];rfl
set_option maxHeartbeats 8000000
def sumW{α:Type}(g:α->Nat):List α->Nat
 | []=>0
 | x::xs=>g x+sumW g xs
theorem jT{α:Type}(g:α->Nat)(xs:List α)(j:Nat)(x:α)(h:xs[j]?=some x):sumW g (xs.take (j+1))=sumW g (xs.take j)+g x:=by
 induction xs generalizing j with
 | nil=>cases h
 | cons y ys ih=>
  cases j with
  | zero=>simp only[List.getElem?_cons_zero,Option.some.injEq]at h;subst h;simp[sumW]
  | succ j=>simp only[List.getElem?_cons_succ]at h;simp only[List.take_succ_cons,sumW,ih j h];omega
theorem zP{α:Type}{xs:List α}{j:Nat}{x y:α}(h:xs[j]?=some x)(hy:y∈xs.take (j+1)):y∈xs.take j∨y=x:=by
 rw[List.take_add_one,h,Option.toList_some,List.mem_append]at hy;rcases hy with hy | hy
 ·exact .inl hy
 ·exact .inr (by simpa using hy)
def Fd.wt(x:Fd):Nat:=x.tr.wt
def Cd.wt(x:Cd):Nat:=1+x.nm.length / 64+sumW Fd.wt x.fs
def Dc.wt(x:Dc):Nat:=1+x.nm.length / 64+x.ps.length+x.tr.wt+sumW (fun s=>s.length / 64) x.ps+sumW Cd.wt x.cs
def Fd.deep(x:Fd):Prop:=x.tr.depth<=201
def Dc.deep(x:Dc):Prop:=x.tr.depth<=201/\∀ c∈x.cs,∀ f∈c.fs,f.deep
def Dc.upto(x:Dc):Prop:=x.nm.length<=1099511627776/\x.ps.length<=1048576/\(∀ s∈x.ps,s.length<=1099511627776)/\x.cs.length<=1048576/\(∀ c∈x.cs,c.nm.length<=1099511627776)/\(qm x.cs).length<=1048576/\x.tr.fit/\∀ c∈x.cs,∀ f∈c.fs,f.tr.fit
def SI(E:Nat)(D:Prop)(b:Int)(z:Int):Prop:=0<=z/\z<=b/\(z<=9000->z=(E:Int)/\D)
theorem SI.add{E:Nat}{D:Prop}{b z:Int}(h:SI E D b z){t:Nat}{c:Int}(ht:(t:Int)<=c):SI (E+t) D (b+c) (z+(t:Int)):=by
 obtain⟨h1,h2,h3⟩:=h;refine⟨by omega,by omega,fun h9=>?_⟩;obtain⟨a1,a2⟩:=h3 (by omega);exact⟨by omega,a2⟩
theorem SI.addQ{E:Nat}{D:Prop}{b z:Int}(h:SI E D b z){c:Int}{d:Nat}{g:Tr}{z':Int}(hz:ZQ c d g z'):SI (E+g.wt) (D/\g.depth+d<=201) (b+c) (z+z'):=by
 obtain⟨h1,h2,h3⟩:=h;obtain⟨g1,g2,g3⟩:=hz;refine⟨by omega,by omega,fun h9=>?_⟩;obtain⟨a1,a2⟩:=h3 (by omega);obtain⟨b1,b2⟩:=g3 (by omega);exact⟨by omega,a2,b2⟩
theorem SI.to{E E':Nat}{D D':Prop}{b b' z:Int}(h:SI E D b z)(hE:E=E')(hD:D->D')(hb:b<=b'):SI E' D' b' z:=
 ⟨h.1,Int.le_trans h.2.1 hb,fun h9=>⟨by rw[<- hE];exact (h.2.2 h9).1,hD (h.2.2 h9).2⟩⟩
def DsQ(l:List Dc)(w:World):Ending->World->Prop:=fun e w'=>∃ z:Int,e=.returned (.int .i64 z)/\0<=z/\(z<=9000->z=(sumW Dc.wt l:Int)/\∀ x∈l,x.deep)/\Bel w w'
theorem qe7(cs:List Cd)(j:Nat)(c:Cd)(h:cs[j]?=some c):(qm (cs.take j)).length+c.fs.length<=(qm cs).length:=by
 have h1:=jg cs j c h;have h2:=qa5 cs (j+1);rw[h1,List.length_append]at h2;exact h2
theorem JO(A:Option Addr)(n c:Nat)(l:List Dc)(w:World)(hk:RowOf 16 DcAt w (OldT w) A n c l)(hn:n<=1048576)(hu:∀ x∈l,x.upto) :
  Calls Tryz.prog 8 #[.slice A n c] w (DsQ l w):=by
 have H:=hid hk;have HL:Hid (n=l.length):=hid hk.1;have HU:=hid hu;clear hk hu;go_enter Tryz.func8,Tryz.ntmps8
 go_wp2_with fail
 go_loopw [3,4] (fun s i wr=>∃ (j:Nat) (z:Int),j<=n/\i=.int .i64 (j:Int)/\s=.int .i64 z/\Hid (0<=z/\z<=9000/\z=(sumW Dc.wt (l.take j):Int)/\∀ x∈l.take j,x.deep)/\Hid (Bel w wr)) (fun _ i _=>n-(intOf i).toNat)
 case atStart=>exact⟨0,0,Nat.zero_le _,rfl,rfl,hid ⟨by decide,by decide,rfl,fun x hx=>by simp at hx⟩,hid (Bel.refl _)⟩
 case round=>
  obtain⟨j,z,hj,rfl,rfl,HZ,HB⟩:=hrel;by_cases hlt:j<n
  ·obtain⟨ub,uo,eA,hob,hfo⟩:=H.out.2.2 (by omega)
   subst eA;obtain⟨x,hx⟩:∃ x,l[j]?=some x:=⟨_,List.getElem?_eq_getElem (by rw[<- HL.out];exact hlt)⟩
   have hd:=hfo j x hx;have hux:=HU.out x (List.mem_of_getElem? hx);have HWT:Hid (sumW Dc.wt (l.take (j+1))=sumW Dc.wt (l.take j)+x.wt):=hid (jT _ _ _ _ hx);have HMT:Hid (∀ y∈l.take (j+1),y∈l.take j∨y=x):=hid fun y hy=>zP hx hy;obtain⟨PA,pc,CA,cc,A',ca',B',cb',hp,hcc,hkk,haa,y0,y1,y2,y3,y4,y5,y6,y7,y8,y9,y10,y11,y12,y13,y14,y15⟩:=hd.cells;obtain⟨kd,nm,q,ps,cs,rc,k,s,nn,p,kids,arms⟩:=x;simp only[]at hp hcc hkk haa y1 y5 y6 y8 y9 y10 y11 y12 y13 y14 y15;obtain⟨hu1,hu2,hu3,hu4,hu5,hu6,hu7,hu8⟩:=hux;simp only[]at hu1 hu2 hu3 hu4 hu5 hu6 hu8;obtain⟨g,hg⟩:∃ g,g=Tr.nod k s nn p kids arms .nil:=⟨_,rfl⟩
   have HX:∀ W,Bel wr.drew W->Calls Tryz.prog 15 #[.agg #[.int .u8 k,.string ⟨s.toArray⟩,nn,p.a,p.l,p.c,.slice A' kids.len ca',.slice B' arms.len cb'],(0:Int)] W (jA (capX 0) 0 g W):=fun W hW=>by
    have hW':Bel w W:=HB.out.on ((Bel.refl wr).drew.on hW);rw[hg];exact qaC (kids.size+arms.size) 0 k s nn p A' kids.len ca' kids B' arms.len cb' arms W rfl (hkk.bel hW') (haa.bel hW') (by omega) hu7.1 hu7.2.1 hu7.2.2.1 hu7.2.2.2.1 hu7.2.2.2.2.1
   have HP:=hid hp;have HC:=hid hcc;have HU3:=hid hu3;have HU5:=hid (And.intro hu5 (And.intro hu6 hu8));have HXW:Hid (Dc.wt ⟨kd,nm,q,ps,cs,rc,k,s,nn,p,kids,arms⟩=1+nm.length / 64+ps.length+g.wt+sumW (fun s=>s.length / 64) ps+sumW Cd.wt cs):=hid (by rw[hg];rfl);have HXD:Hid (g.depth<=201->(∀ c∈cs,∀ f∈c.fs,f.deep)->Dc.deep ⟨kd,nm,q,ps,cs,rc,k,s,nn,p,kids,arms⟩):=hid (by rw[hg];exact fun a b=>⟨a,b⟩);obtain⟨l1,hl1⟩:∃ l,l=kids.len:=⟨_,rfl⟩
   obtain⟨l3,hl3⟩:∃ l,l=arms.len:=⟨_,rfl⟩
   obtain⟨pl,hl5⟩:∃ l,l=ps.length:=⟨_,rfl⟩
   obtain⟨cl,hl7⟩:∃ l,l=cs.length:=⟨_,rfl⟩
   have HPL:=hid hl5;have HCL:=hid hl7;rw[<- hl1,<- hl3]at HX;rw[<- hl1]at y14;rw[<- hl3]at y15;rw[<- hl5]at y5 HP hu2;rw[<- hl7]at y6 HC hu4;obtain⟨SS,hSS⟩:∃ S:ByteArray,S=⟨s.toArray⟩:=⟨_,rfl⟩
   rw[<- hSS]at y9 HX;obtain⟨u,hu0⟩:∃ u:Nat,u=nm.length / 64:=⟨_,rfl⟩
   have HUN:=hid hu0;obtain⟨NM,hNM⟩:∃ S:ByteArray,S=⟨nm.toArray⟩:=⟨_,rfl⟩
   have hnu:NM.size / 64=u:=by rw[hNM,hu0];simp[ByteArray.size]
   have hu17:u<=17179869184:=by omega
   rw[<- hNM]at y1;have hcw:=(Bel.cells HB.out).1;replace y1:=(hcw ub _ hob).trans y1
   replace y5:=(hcw ub _ hob).trans y5
   have HY6:=hid y6;have HY5:=hid y5;have HOB:=hid hob;replace y8:=(hcw ub _ hob).trans y8
   replace y9:=(hcw ub _ hob).trans y9
   replace y10:=(hcw ub _ hob).trans y10
   replace y11:=(hcw ub _ hob).trans y11
   replace y12:=(hcw ub _ hob).trans y12
   replace y13:=(hcw ub _ hob).trans y13
   replace y14:=(hcw ub _ hob).trans y14
   replace y15:=(hcw ub _ hob).trans y15
   have kb1:ub<wr.heap.size:=Nat.lt_of_lt_of_le hob HB.out.size;have i1:(0:Int)<=(j:Int):=by omega
   have i2:(j:Int)<(n:Int):=by omega
   have HLT:=hid hlt;have HY5w:Hid (w.cell? ⟨ub,uo+j*16+5,none⟩=some (.slice PA pl pc)):=hid (by have:=hd.cells;exact ((hcw ub _ hob).symm.trans y5));clear hfo hx hd y0 y2 y3 y4 y6 y7 hp hcc hkk haa hu1 hu3 hu5 hu6 hu7 hu8 hg hl1 hl3 hl5 hl7 hSS hNM hu0 hcw hob;go_wp2_with fail
   refine qdW ub uo n c j u pl pc z k nn p.a p.l p.c NM SS PA A' B' l1 ca' l3 cb' g _ _ _ _ _ _ _ _ _ _ _ _ _ _ _ _ _ _ _ _ _ _ _ _ _ _ _ _ _ _ _ _ _ _ _ _ _ _ _ _ _ _ _ _ _ _ _ _ _ _ _ _ _ _ _ _ _ _ _ _ _ _ _ _ _ _ _ _ _ _ _ _ _ _ _ _ _ _ _ _ _ _ _ _ _ _ _ _ _ _ _ _ _ _ _ _ _ _ _ _ _ _ _ _ _ _ _ _ _ _ _ _ _ _ _ _ wr i1 i2 HZ.out.1 HZ.out.2.1 hnu hu17 hu2 kb1 y1 y5 y8 y9 y10 y11 y12 y13 y14 y15 HX _ ?_;rintro V w4 hb4 ⟨z1,hv,HZ1⟩;simp only[regSd,List.drop_succ_cons,List.drop_zero,qgy,hv];have HB4:=hid (HB.out.drew.on hb4);have HS5:Hid (SI (sumW Dc.wt (l.take j)+(1+u+pl+g.wt)) ((∀ x∈l.take j,x.deep)/\g.depth<=201) 4000000000000000 (z+1+(u:Int)+(pl:Int)+z1)):=hid (by
    have h0:SI (sumW Dc.wt (l.take j)) (∀ x∈l.take j,x.deep) 9000 z:=⟨HZ.out.1,HZ.out.2.1,fun _=>⟨HZ.out.2.2.1,HZ.out.2.2.2⟩⟩
    have h1:=(((h0.add (t:=1) (c:=1) (by decide)).add (t:=u) (c:=17179869184) (by omega)).add (t:=pl) (c:=1048576) (by omega)).addQ HZ1;refine h1.to (by omega) (fun h=>⟨h.1,by omega⟩) (by unfold capX;omega))
   clear hb4 hv HZ1 HX y1 y5 y8 y9 y10 y11 y12 y13 y14 y15 kb1 HB hnu;obtain⟨z5,hz5⟩:∃ z5,z5=z+1+(u:Int)+(pl:Int)+z1:=⟨_,rfl⟩
   rw[<- hz5]at HS5 ⊢;clear hz5;obtain⟨E5,hE5⟩:∃ E,E=sumW Dc.wt (l.take j)+(1+u+pl+g.wt):=⟨_,rfl⟩
   rw[<- hE5]at HS5;have HE5:=hid hE5;clear hE5;go_wp2_with fail
   obtain⟨D5,hD5⟩:∃ D:Prop,D=((∀ x∈l.take j,x.deep)/\g.depth<=201):=⟨_,rfl⟩
   rw[<- hD5]at HS5;have HD5:=hid hD5;clear hD5;go_loopw [3,5] (fun s i wr=>∃ (h:Nat) (z:Int),h<=pl/\i=.int .i64 (h:Int)/\s=.int .i64 z/\Hid (SI (E5+sumW (fun s=>s.length / 64) (ps.take h)) D5 (4000000000000000+(h:Int)*17179869184) z)/\Hid (Bel w wr)) (fun _ i _=>pl-(intOf i).toNat)
   case atStart=>exact⟨0,z5,Nat.zero_le _,rfl,rfl,hid (HS5.out.to (by simp[sumW]) id (by omega)),HB4⟩
   case round=>
    obtain⟨h,z6,hh,rfl,rfl,HZ6,HBI⟩:=hrel;have hcw:=(Bel.cells HBI.out).1;have x5:=(hcw ub _ HOB.out).trans HY5w.out;have kb1:ub<wr.heap.size:=Nat.lt_of_lt_of_le HOB.out HBI.out.size;by_cases hlt2:h<pl
    ·obtain⟨ub2,uo2,eB2,hob2,hfo2⟩:=HP.out.2.2 (by omega)
     subst eB2;obtain⟨y,hy⟩:∃ y,ps[h]?=some y:=⟨_,List.getElem?_eq_getElem (by rw[<- HPL.out];exact hlt2)⟩
     have e1:=hfo2 h y hy;unfold SAt at e1;rw[Nat.mul_one]at e1;replace e1:=(hcw ub2 _ hob2).trans e1
     have hyl:=HU3.out y (List.mem_of_getElem? hy);obtain⟨t,ht⟩:∃ t:Nat,t=y.length / 64:=⟨_,rfl⟩
     have ht17:t<=17179869184:=by omega
     have HN6:Hid (SI (E5+sumW (fun s=>s.length / 64) (ps.take (h+1))) D5 (4000000000000000+((h+1:Nat):Int)*17179869184) (z6+(t:Int))):=hid ((HZ6.out.add (t:=t) (c:=17179869184) (by omega)).to (by rw[jT _ _ _ _ hy,ht];omega) id (by omega));have hq:wrap64 (z6+wrap64 ((y.length:Int) / 64))=z6+(t:Int):=by
      have h1:=HZ6.out.1;have h2:=HZ6.out.2.1;have e1:(y.length:Int) / 64=(t:Int):=by omega
      rw[e1,IntWalk.wrap64_in (t:Int) (by omega),IntWalk.wrap64_in _ (by omega)]
     have HQ6:=hid hq;have kb2:ub2<wr.heap.size:=Nat.lt_of_lt_of_le hob2 HBI.out.size;have j1:(0:Int)<=(h:Int):=by omega
     have j2:(h:Int)<(pl:Int):=by omega
     have HLT2:=hid hlt2;clear hfo2 hy hob2 hcw ht hyl hq;go_wp2_with fail
     go_roundw
     case rel=>exact⟨h+1,z6+(t:Int),HLT2.out,by go_num,(by first | rfl | rw[HQ6.out]),HN6,HBI⟩
     case measure=>have:=HLT2.out;simp[intOf];omega
    ·obtain rfl:h=pl:=by omega
     obtain⟨E6,hE6⟩:∃ E,E=E5+sumW (fun s=>s.length / 64) ps:=⟨_,rfl⟩
     have HZ7:Hid (SI E6 D5 22100000000000000 z6):=hid (HZ6.out.to (by rw[HPL.out,List.take_length,hE6]) id (by omega));have HE6:=hid hE6;clear hE6 hcw HZ6;go_wp2_with fail
     clear x5 kb1;go_loopw [3,6] (fun s i wr=>∃ (h:Nat) (z:Int),h<=cl/\i=.int .i64 (h:Int)/\s=.int .i64 z/\Hid (SI (E6+sumW Cd.wt (cs.take h)) (D5/\∀ c∈cs.take h,∀ f∈c.fs,f.deep) (22100000000000000+(h:Int)*17179869185+((qm (cs.take h)).length:Int)*4398048329306) z)/\Hid (Bel w wr)) (fun _ i _=>cl-(intOf i).toNat)
     case atStart=>exact⟨0,z6,Nat.zero_le _,rfl,rfl,hid (HZ7.out.to (by simp[sumW]) (fun h=>⟨h,fun c hc=>by simp at hc⟩) (by simp[qm])),HBI⟩
     case round=>
      obtain⟨h,z8,hh,rfl,rfl,HZ8,HBJ⟩:=hrel;have hcw:=(Bel.cells HBJ.out).1;have x6:=(hcw ub _ HOB.out).trans HY6.out;have kb1:ub<wr.heap.size:=Nat.lt_of_lt_of_le HOB.out HBJ.out.size;by_cases hlt3:h<cl
      ·obtain⟨ub3,uo3,eB3,hob3,hfo3⟩:=HC.out.2.2 (by omega)
       subst eB3;obtain⟨x,hx⟩:∃ x,cs[h]?=some x:=⟨_,List.getElem?_eq_getElem (by rw[<- HCL.out];exact hlt3)⟩
       obtain⟨e0,e1,e2,e3,FA,fc,e4,hff⟩:=hfo3 h x hx;have hxm:=List.mem_of_getElem? hx;have hnl:=HU5.out.1 x hxm;have HFF:=hid (HU5.out.2.2 x hxm);have HCW:Hid (sumW Cd.wt (cs.take (h+1))=sumW Cd.wt (cs.take h)+(1+x.nm.length / 64+sumW Fd.wt x.fs)):=hid (jT _ _ _ _ hx);have HMC:Hid (∀ y∈cs.take (h+1),y∈cs.take h∨y=x):=hid fun y hy=>zP hx hy;have HFA:Hid ((qm (cs.take (h+1))).length=(qm (cs.take h)).length+x.fs.length):=hid (by rw[jg cs h x hx,List.length_append]);have HFB:Hid ((qm (cs.take h)).length+x.fs.length<=1048576):=hid (Nat.le_trans (qe7 cs h x hx) HU5.out.2.1);obtain⟨cn,cp,fs⟩:=x;simp only[]at e0 e4 hff hnl;simp only[]at HFF HCW HFA HFB;obtain⟨F,hF⟩:∃ F,F=(qm (cs.take h)).length:=⟨_,rfl⟩
       rw[<- hF]at HFA HFB HZ8;obtain⟨t,ht⟩:∃ t:Nat,t=cn.length / 64:=⟨_,rfl⟩
       have ht17:t<=17179869184:=by omega
       rw[<- ht]at HCW;obtain⟨fl,hfl⟩:∃ l,l=fs.length:=⟨_,rfl⟩
       have HFN:=hid hfl;rw[<- hfl]at e4 hff HFA HFB;have HF:Hid (RowOf 8 FdAt w (OldT w) FA fl fc fs):=hid hff;have HE4:=hid e4;have HOB3:=hid hob3;replace e0:=(hcw ub3 _ hob3).trans e0
       replace e4:=(hcw ub3 _ hob3).trans e4
       obtain⟨EC,hEC⟩:∃ E,E=E6+sumW Cd.wt (cs.take h)+1+t:=⟨_,rfl⟩
       obtain⟨DC,hDC⟩:∃ D:Prop,D=(D5/\∀ c∈cs.take h,∀ f∈c.fs,f.deep):=⟨_,rfl⟩
       have HN8:Hid (SI EC DC (22100000000000000+((h+1:Nat):Int)*17179869185+(F:Int)*4398048329306) (z8+1+(t:Int))):=hid (((HZ8.out.add (t:=1) (c:=1) (by decide)).add (t:=t) (c:=17179869184) (by omega)).to (by rw[hEC]) (by rw[hDC];exact id) (by omega));have hq:wrap64 (wrap64 (z8+1)+wrap64 ((cn.length:Int) / 64))=z8+1+(t:Int):=by
        have h1:=HZ8.out.1;have h2:=HZ8.out.2.1;have h3:=HFB.out;have e1:(cn.length:Int) / 64=(t:Int):=by omega
        rw[e1,IntWalk.wrap64_in (t:Int) (by omega),IntWalk.wrap64_in (z8+1) (by omega),IntWalk.wrap64_in _ (by omega)]
       have HQ8:=hid hq;have HEC:=hid hEC;have HDC:=hid hDC;have kb3:ub3<wr.heap.size:=Nat.lt_of_lt_of_le hob3 HBJ.out.size;have hh8:h<=1048576:=by omega
       have j1:(0:Int)<=(h:Int):=by omega
       have j2:(h:Int)<(cl:Int):=by omega
       have HLT3:=hid hlt3;clear hfo3 hx hxm hob3 hcw ht hnl hq hEC hDC hfl hff e1 e2 e3 hF HZ8;have fl8:fl<=1048576:=by have:=HFB.out;omega
       go_wp2_with fail
       try rw[HQ8.out]
       clear x6 e0 e4 kb1 kb3;go_loopw [3,7] (fun s i wr=>∃ (b:Nat) (z:Int),b<=fl/\i=.int .i64 (b:Int)/\s=.int .i64 z/\Hid (SI (EC+sumW Fd.wt (fs.take b)) (DC/\∀ f∈fs.take b,f.deep) (22100000000000000+((h+1:Nat):Int)*17179869185+(F:Int)*4398048329306+(b:Int)*4398048329306) z)/\Hid (Bel w wr)) (fun _ i _=>fl-(intOf i).toNat)
       case atStart=>exact⟨0,z8+1+(t:Int),Nat.zero_le _,rfl,rfl,hid (HN8.out.to (by simp[sumW]) (fun h=>⟨h,fun c hc=>by simp at hc⟩) (by omega)),HBJ⟩
       case round=>
        obtain⟨b,z9,hb,rfl,rfl,HZ9,HBK⟩:=hrel;have hcw:=(Bel.cells HBK.out).1;have x6:=(hcw ub _ HOB.out).trans HY6.out;have e4:=(hcw ub3 _ HOB3.out).trans HE4.out;have kb1:ub<wr.heap.size:=Nat.lt_of_lt_of_le HOB.out HBK.out.size;have kb3:ub3<wr.heap.size:=Nat.lt_of_lt_of_le HOB3.out HBK.out.size;by_cases hlt4:b<fl
        ·obtain⟨ub4,uo4,eB4,hob4,hfo4⟩:=HF.out.2.2 (by omega)
         subst eB4;obtain⟨y,hy⟩:∃ y,fs[b]?=some y:=⟨_,List.getElem?_eq_getElem (by rw[<- HFN.out];exact hlt4)⟩
         have hyf:=HFF.out y (List.mem_of_getElem? hy);have HFW:Hid (sumW Fd.wt (fs.take (b+1))=sumW Fd.wt (fs.take b)+y.tr.wt):=hid (jT _ _ _ _ hy);have HMF:Hid (∀ v∈fs.take (b+1),v∈fs.take b∨v=y):=hid fun v hv=>zP hy hv;obtain⟨A4,c4,hkk4,v0,v1,v2,v3,v4,v5,v6,v7⟩:=(hfo4 b y hy).cells;have HT:Hid (∀ W,Bel wr W->Calls Tryz.prog 26 #[.agg #[.int .u8 y.k,.string ⟨y.s.toArray⟩,.int .u8 y.n,y.p.a,y.p.l,y.p.c,.slice A4 y.kids.len c4],(0:Int)] W (jA (capP 0) 0 y.tr W)):=hid fun W hW=>
          qaD y.kids.size 0 y.k y.s y.n y.p A4 y.kids.len c4 y.kids W rfl (hkk4.bel (HBK.out.on hW)) (by omega) hyf.1 hyf.2.1 hyf.2.2.2.1
         have HYD:Hid (y.tr.depth+0<=201->y.deep):=hid fun h=>h;obtain⟨g4,hg4⟩:∃ g,g=y.tr:=⟨_,rfl⟩
         rw[<- hg4]at HFW HT HYD;obtain⟨fm,fk,fs',fn,fp,fkids⟩:=y;simp only[]at v0 v1 v2 v3 v4 v5 v6 v7;simp only[]at HT;replace v0:=(hcw ub4 _ hob4).trans v0
         replace v1:=(hcw ub4 _ hob4).trans v1
         replace v2:=(hcw ub4 _ hob4).trans v2
         replace v3:=(hcw ub4 _ hob4).trans v3
         replace v4:=(hcw ub4 _ hob4).trans v4
         replace v5:=(hcw ub4 _ hob4).trans v5
         replace v6:=(hcw ub4 _ hob4).trans v6
         replace v7:=(hcw ub4 _ hob4).trans v7
         have kb4:ub4<wr.heap.size:=Nat.lt_of_lt_of_le hob4 HBK.out.size;obtain⟨l4,hl4⟩:∃ l,l=fkids.len:=⟨_,rfl⟩
         rw[<- hl4]at v7 HT;obtain⟨FJ,hFS⟩:∃ S:ByteArray,S=⟨fs'.toArray⟩:=⟨_,rfl⟩
         rw[<- hFS]at v2 HT;have k1:(0:Int)<=(b:Int):=by omega
         have k2:(b:Int)<(fl:Int):=by omega
         have HLT4:=hid hlt4;clear hfo4 hy hyf hkk4 hob4 hl4 hFS hg4 hcw;go_wp2_with fail
         refine (HT.out _ (Bel.refl _)).mono ?_;rintro e w5 ⟨z',rfl,hz1,hz2,hz3,hb5⟩;have HB5:=hid (HBK.out.on hb5);have HZQ:Hid (ZQ (capP 0) 0 g4 z'):=hid ⟨hz1,hz2,hz3⟩;have HN9:Hid (SI (EC+sumW Fd.wt (fs.take (b+1))) (DC/\∀ f∈fs.take (b+1),f.deep) (22100000000000000+((h+1:Nat):Int)*17179869185+(F:Int)*4398048329306+((b+1:Nat):Int)*4398048329306) (z9+z')):=hid ((HZ9.out.addQ HZQ.out).to (by rw[HFW.out];omega) (fun hh=>⟨hh.1.1,fun f hf=>by
          rcases HMF.out f hf with h | h
          ·exact hh.1.2 f h
          ·rw[h];exact HYD.out hh.2⟩) (by unfold capP;omega))
         have hw2:wrap64 (z9+z')=z9+z':=IntWalk.wrap64_in _ (by
          have h1:=HZ9.out.1;have h2:=HZ9.out.2.1;have h3:=HFB.out;have h4:=HLT4.out;unfold capP at hz2;omega)
         have HW2:=hid hw2;clear hb5 hz1 hz2 hz3 x6 e4 kb1 kb3 kb4 v0 v1 v2 v3 v4 v5 v6 v7 HT hw2;go_wp2_with fail
         go_roundw
         case rel=>exact⟨b+1,z9+z',HLT4.out,by go_num,(by first | rfl | rw[HW2.out]),HN9,HB5⟩
         case measure=>have:=HLT4.out;simp[intOf];omega
        ·obtain rfl:b=fl:=by omega
         have HNA:Hid (SI (E6+sumW Cd.wt (cs.take (h+1))) (D5/\∀ c∈cs.take (h+1),∀ f∈c.fs,f.deep) (22100000000000000+((h+1:Nat):Int)*17179869185+((qm (cs.take (h+1))).length:Int)*4398048329306) z9):=hid (HZ9.out.to (by rw[HCW.out,HFN.out,List.take_length,HEC.out];omega) (fun hh=>by
           have h1:=hh.1;rw[HDC.out]at h1;refine⟨h1.1,fun c hc=>?_⟩;rcases HMC.out c hc with h | h
           ·exact h1.2 c h
           ·rw[h]
            have h2:=hh.2;rw[HFN.out,List.take_length]at h2;exact h2) (by rw[HFA.out];omega))
         clear hcw;go_wp2_with fail
         go_roundw
         case rel=>exact⟨h+1,z9,HLT3.out,by go_num,rfl,HNA,HBK⟩
         case measure=>have:=HLT3.out;simp[intOf];omega
      ·obtain rfl:h=cl:=by omega
       clear hcw;by_cases h9:z8<=9000
       ·have HZN:Hid (0<=z8/\z8<=9000/\z8=(sumW Dc.wt (l.take (j+1)):Int)/\∀ x∈l.take (j+1),x.deep):=hid (by
         obtain⟨a1,a2,a3⟩:=HZ8.out;obtain⟨b1,b2,b3⟩:=a3 h9;rw[HCL.out,List.take_length]at b1 b3;rw[HD5.out]at b2;refine⟨a1,h9,?_,fun x hx=>?_⟩
         ·rw[b1,HWT.out,HXW.out,HE6.out,HE5.out,HUN.out,HPL.out]
          omega
         ·rcases HMT.out x hx with h | h
          ·exact b2.1 x h
          ·rw[h];exact HXD.out b2.2 b3)
        have hn9:¬ (9000<z8):=by omega
        clear HZ8;go_wp2_with fail
        go_roundw
        case rel=>exact⟨j+1,z8,HLT.out,by go_num,rfl,HZN,HBJ⟩
        case measure=>have:=HLT.out;simp[intOf];omega
       ·have hn9:9000<z8:=by omega
        go_wp2_with fail
        go_ret
        exact⟨z8,rfl,HZ8.out.1,fun h=>absurd h (by omega),HBJ.out⟩
  ·obtain rfl:j=n:=by omega
   go_wp2_with fail
   go_ret
   exact⟨z,rfl,HZ.out.1,fun _=>by have h:=HZ.out.2.2;rw[HL.out,List.take_length]at h;exact h,HB.out⟩
end Go.Proofs.YtlmmaoobembadaaGreatDoor.Mu
namespace Go.Proofs.YtlmmaoobembadaaGreatDoor.Mu
open Go.RowKit Go.Shelf
set_option maxRecDepth 100000
structure Kr (g:Nat) (w w':World):Prop where
 os:w'.os=w.os
 tape:w'.tape=w.tape
 output:w'.output=w.output
 size:w.heap.size<=w'.heap.size
 block:∀ i,i<w.heap.size->i≠g->w'.heap[i]?=w.heap[i]?
section
variable {g : Nat} {a b c : World}
theorem Kr.refl(g:Nat)(w:World):Kr g w w:=⟨rfl,rfl,rfl,Nat.le_refl _,fun _ _ _=>rfl⟩
theorem Kr.of_bel(h:Bel a b):Kr g a b:=⟨h.os,h.tape,h.output,h.size,fun i hi _=>h.block i hi⟩
theorem Kr.on(h:Kr g a b)(k:Kr g b c):Kr g a c:=
 ⟨k.os.trans h.os,k.tape.trans h.tape,k.output.trans h.output,Nat.le_trans h.size k.size,fun i hi hn=>(k.block i (Nat.lt_of_lt_of_le hi h.size) hn).trans (h.block i hi hn)⟩
theorem Kr.bel(h:Kr g a b)(k:Bel b c):Kr g a c:=h.on (.of_bel k)
theorem Kr.set_(h:Kr g a b)(o:Nat)(v:Value):Kr g a (b.setCell ⟨g,o,none⟩ v):=by
 have k:Below g b (b.setCell ⟨g,o,none⟩ v):=Below.setCell (p:=⟨g,o,none⟩) (Below.refl _ _) (Nat.le_refl _) v;refine⟨k.os.trans h.os,k.tape.trans h.tape,k.output.trans h.output,by simpa using h.size,fun i hi hn=>?_⟩;rw[Below.heap_setCell _ _ _ _ (by show i≠g;exact hn)];exact h.block i hi hn
theorem Kr.keep(h:Kr g a b){i:Nat}{o:Obj}(hi:a.heap[i]?=some o)(hn:i≠g):b.heap[i]?=some o:=by
 rw[h.block i (Array.getElem?_eq_some_iff.1 hi).1 hn];exact hi
theorem Kr.below(h:Kr g a b)(hg:g<=a.heap.size):Below g a b:=⟨h.os,h.tape,h.output,h.size,fun i hi=>h.block i (by omega) (by omega)⟩
theorem Kr.own(h:Kr g a b)(hg:a.heap.size<=g):Bel a b:=⟨h.os,h.tape,h.output,h.size,fun i hi=>h.block i hi (by omega)⟩
theorem Kr.weak{w:World}(h:Bel w a)(k:Kr g a b)(hg:w.heap.size<=g):Bel w b:=
 ⟨k.os.trans h.os,k.tape.trans h.tape,k.output.trans h.output,Nat.le_trans h.size k.size,fun i hi=>(k.block i (by have:=h.size;omega) (by omega)).trans (h.block i hi)⟩
end
structure Rdr (w:World) (g:Nat) (A:Option Addr) (n c:Nat) (xs:List Pn) (i:Nat):Prop where
 hp:w.heap[g]?=some (.cells #[.slice A n c,i] 100 (0,0))
 rp:RP w g A n xs
 le:i<=n
 small:n<=4000
section
variable {w w' : World} {g : Nat} {A : Option Addr} {n c : Nat} {xs : List Pn} {i : Nat}
theorem Rdr.bel(h:Rdr w g A n c xs i)(hb:Bel w w'):Rdr w' g A n c xs i:=
 ⟨hb.blk h.hp,h.rp.keep fun b o hbb=>hb.cell (p:=⟨b,o,none⟩) (Nat.lt_trans hbb (Array.getElem?_eq_some_iff.1 h.hp).1),h.le,h.small⟩
theorem Rdr.lt(h:Rdr w g A n c xs i):g<w.heap.size:=(Array.getElem?_eq_some_iff.1 h.hp).1
theorem Rdr.set_(h:Rdr w g A n c xs i){k:Nat}(hk:k<=n):Rdr (w.setCell ⟨g,1,none⟩ (.int .i64 k)) g A n c xs k:=
 ⟨by simp[World.setCell,Array.getElem?_modify,h.hp],h.rp.keep fun b o hb=>World.cell?_of_block (a:=⟨b,o,none⟩) (Below.heap_setCell _ _ _ _ (by show b≠g;omega)),hk,h.small⟩
theorem Rdr.len(h:Rdr w g A n c xs i):n=xs.length:=h.rp.len
theorem Rdr.cells(h:Rdr w g A n c xs i):w.cell? ⟨g,0,none⟩=some (.slice A n c)/\w.cell? ⟨g,1,none⟩=some (.int .i64 i)/\w.frozen? ⟨g,0,none⟩=false/\w.frozen? ⟨g,1,none⟩=false:=by
 simp[World.cell?,World.frozen?,h.hp]
theorem Rdr.at_(h:Rdr w g A n c xs i)(hi:i<n):∃ b off x,A=some ⟨b,off,none⟩/\xs[i]?=some x/\w.cell? ⟨b,off+i*4,none⟩=some (.int .i32 x.r)/\w.cell? ⟨b,off+i*4+1,none⟩=some (.int .i64 x.p.a)/\w.cell? ⟨b,off+i*4+2,none⟩=some (.int .i64 x.p.l)/\w.cell? ⟨b,off+i*4+3,none⟩=some (.int .i64 x.p.c):=by
 obtain⟨b,off,rfl,hb,hc⟩:=h.rp.at_ (by omega);obtain⟨x,hx⟩:∃ x,xs[i]?=some x:=⟨_,List.getElem?_eq_getElem (by have:=h.len;omega)⟩
 exact⟨b,off,x,rfl,hx,hc i x hx⟩
end
def kdN(c:Int):Int:=if isBl c=true then 1 else if qx c=true then 2 else if isSm c=true then 3 else if isGr c=true then 4 else if c=95∨c=39 then 5 else if c=34 then 6 else 0
def kdL:List Int->Int
 | []=>1
 | c::_=>kdN c
def iwK(k:Int):Bool:=decide (k=2∨k=3∨k=4∨k=5)
theorem qiX(c:Int):iwK (kdN c)=isW c:=by
 unfold iwK kdN isW isBl qx isSm isGr;rw[Bool.eq_iff_iff];simp only[decide_eq_true_eq,Bool.or_eq_true];repeat' split
 all_goals omega
theorem qb4(c:Int)(w:World):Calls Tryz.prog 151 #[.int .i32 c] w fun e w'=>e=.returned (.int .u8 (kdN c))/\w=w':=by
 go_enter Tryz.func151,Tryz.ntmps151
 go_wp2
 all_goals (go_ret;refine⟨qhE ?_,rfl⟩;unfold kdN isBl qx isSm isGr;simp only[Bool.or_eq_true,decide_eq_true_eq];repeat' split;all_goals (simp_all;try omega))
theorem qfD(k:Int)(w:World):Calls Tryz.prog 190 #[.int .u8 k] w fun e w'=>e=.returned (.bool (iwK k))/\w=w':=by
 go_enter Tryz.func190,Tryz.ntmps190
 go_wp2
 all_goals (go_ret;refine⟨Jd ?_,rfl⟩;unfold iwK;rw[Bool.eq_iff_iff];simp_all;try omega)
theorem Qz{g:Nat}{A:Option Addr}{n c:Nat}{xs:List Pn}{i:Nat}(w:World)(h:Rdr w g A n c xs i):Calls Tryz.prog 55 #[.pointer (some ⟨g,0,none⟩)] w fun e w'=>e=.returned (.bool (decide (i<n)))/\Bel w w':=by
 obtain⟨c0,c1,f0,f1⟩:=h.cells;have hs:=h.small;have hl:=h.le;clear h;go_enter Tryz.func55,Tryz.ntmps55
 go_wp2
 all_goals go_region
 all_goals
  go_wp2
  all_goals (go_ret;exact⟨Jd (by simp),(Bel.refl w).drew⟩)
theorem Qy{g:Nat}{A:Option Addr}{n c:Nat}{xs:List Pn}{i:Nat}(w:World)(h:Rdr w g A n c xs i):Calls Tryz.prog 111 #[.pointer (some ⟨g,0,none⟩)] w fun e w'=>e=.returned (.int .u8 (kdL ((xs.map Pn.r).drop i)))/\Bel w w':=by
 have HC:Hid (∀ w,Rdr w g A n c xs i->Calls Tryz.prog 55 #[.pointer (some ⟨g,0,none⟩)] w fun e w'=>e=.returned (.bool (decide (i<n)))/\Bel w w'):=hid fun w h=>Qz w h;have H:=hid h;have hln:=h.len;have hle:=h.le;have hsm:=h.small;clear h;by_cases hlt:i<n
 ·obtain⟨x,hx⟩:∃ x,xs[i]?=some x:=⟨_,List.getElem?_eq_getElem (by omega)⟩
  have hk:kdL ((xs.map Pn.r).drop i)=kdN x.r:=by
   have e:(xs.map Pn.r)[i]?=some x.r:=by simp[hx]
   obtain⟨hl,e2⟩:=List.getElem?_eq_some_iff.1 e;rw[List.drop_eq_getElem_cons hl,e2];rfl
  have HX:=hid hx;rw[hk];obtain⟨kk,hkk⟩:∃ kk,kk=kdN x.r:=⟨_,rfl⟩
  have HO:Hid (∀ w,Calls Tryz.prog 151 #[.int .i32 x.r] w fun e w'=>e=.returned (.int .u8 kk)/\w=w'):=hid fun w=>by rw[hkk];exact qb4 _ w
  rw[<- hkk];clear hk hx hkk;go_enter Tryz.func111,Tryz.ntmps111
  go_wp2_with fail
  refine (HC.out _ H.out).mono ?_;rintro e w1 ⟨rfl,hb⟩;rw[decide_eq_true hlt];have HD:=hid (H.out.bel hb);have HB:=hid hb;clear hb;obtain⟨c0,c1,f0,f1⟩:=HD.out.cells;obtain⟨b,off,y,rfl,hy,c2,-,-,-⟩:=HD.out.at_ hlt;obtain rfl:y=x:=Option.some.inj (hy.symm.trans HX.out);go_wp2_with fail
  go_region_with (go_at_call 151;refine (HO.out _).mono ?_;rintro e w2 ⟨rfl,rfl⟩)
  all_goals
   go_wp2
   go_ret
   exact⟨rfl,HB.out.drew⟩
 ·have hk:kdL ((xs.map Pn.r).drop i)=1:=by rw[List.drop_eq_nil_of_le (by rw[List.length_map];omega)];rfl
  rw[hk];clear hk;go_enter Tryz.func111,Tryz.ntmps111
  go_wp2_with fail
  refine (HC.out _ H.out).mono ?_;rintro e w1 ⟨rfl,hb⟩;rw[decide_eq_false hlt];have HB:=hid hb;clear hb;go_wp2
  go_ret
  exact⟨rfl,HB.out⟩
theorem jY{g:Nat}{A:Option Addr}{n c:Nat}{xs:List Pn}{i:Nat}(ee:Int){k:Nat}{x:Pn}(hx:xs[k]?=some x)(w:World)(h:Rdr w g A n c xs i):Calls Tryz.prog 152 #[.pointer (some ⟨g,0,none⟩),ee,k] w fun e w'=>e=.returned (.tuple #[.agg #[.int .u8 0,.string ⟨#[]⟩,(0:Int),(0:Int),(0:Int),(0:Int)],.agg #[.int .i64 ee,x.p.a,x.p.l,x.p.c]])/\Bel w w':=by
 have hk:k<n:=by
  rw[h.len];exact (List.getElem?_eq_some_iff.1 hx).1
 obtain⟨c0,c1,f0,f1⟩:=h.cells;obtain⟨b,off,rfl,hb,hcc⟩:=h.rp.at_ (by omega);obtain⟨-,a1,a2,a3⟩:=hcc k x hx;have hsm:=h.small;have hlt:=h.lt;have hle:=h.le;have hbl:b<w.heap.size:=by omega
 clear h hcc hx;go_enter Tryz.func152,Tryz.ntmps152
 go_wp2
 all_goals go_region
 all_goals
  go_wp2
  refine bodyPost_ret (v:= .tuple #[.agg #[.int .u8 0,.string ⟨#[]⟩,(0:Int),(0:Int),(0:Int),(0:Int)],.agg #[.int .i64 ee,x.p.a,x.p.l,x.p.c]]) ?_ rfl ⟨rfl,?_⟩
  ·simp[results,Tryz.results152,go_sem, *]
  ·repeat (first | exact Bel.refl _ | with_reducible refine Bel.set_ ?_ (by simp) _ | with_reducible refine Bel.alloc ?_ _ | with_reducible refine Bel.drew ?_)
set_option maxHeartbeats 4000000
theorem qfK{p l:List Int}{j:Nat}{x y:Int}(hx:p[j]?=some x)(hy:l[j]?=some y)(h:p.take j=l.take j):(p.take (j+1)=l.take (j+1)↔x=y):=by
 obtain⟨h1,rfl⟩:=List.getElem?_eq_some_iff.1 hx;obtain⟨h2,rfl⟩:=List.getElem?_eq_some_iff.1 hy;rw[List.take_succ_eq_append_getElem h1,List.take_succ_eq_append_getElem h2,h];exact⟨fun e=>by have:=List.append_cancel_left e;simpa using this,fun e=>by rw[e]⟩
theorem qag(p l:List Int):p.isPrefixOf l=decide (p.length<=l.length/\p.take p.length=l.take p.length):=by
 rw[Bool.eq_iff_iff,List.isPrefixOf_iff_prefix,List.prefix_iff_eq_take,decide_eq_true_iff,List.take_length];constructor
 ·intro h
  refine⟨?_,h⟩;have:=congrArg List.length h;rw[List.length_take]at this;omega
 ·exact fun h=>h.2
theorem qiB{p l:List Int}{j:Nat}(hj:j<=p.length)(h:p.take j≠l.take j):p.isPrefixOf l=false:=by
 rw[qag,decide_eq_false_iff_not];rintro⟨_,h2⟩;apply h;have:=congrArg (List.take j) h2;rwa [List.take_take,List.take_take,Nat.min_eq_left hj]at this
theorem qr{L:List Int}{k:Nat}{r:Int}(h:L[k]?=some r):L.drop k=r::L.drop (k+1):=by
 obtain⟨hl,rfl⟩:=List.getElem?_eq_some_iff.1 h;exact List.drop_eq_getElem_cons hl
theorem pre1(a:Int)(L:List Int)(k:Nat):[a].isPrefixOf (L.drop k)=decide (L[k]?=some a):=by
 cases e:L[k]? with
 | none=>
  have:L.drop k=[]:=List.drop_eq_nil_of_le (by simpa using e);rw[this];simp
 | some x=>
  rw[qr e];by_cases hx:x=a
  ·subst hx;simp
  ·have h1:(a==x)=false:=by simpa using fun h:a=x=>hx h.symm
   show ((a==x)&&[].isPrefixOf _)=_
   rw[h1];simp[hx]
theorem pre2(a b:Int)(L:List Int)(k:Nat):[a,b].isPrefixOf (L.drop k)=decide (L[k]?=some a/\L[k+1]?=some b):=by
 cases e:L[k]? with
 | none=>
  have:L.drop k=[]:=List.drop_eq_nil_of_le (by simpa using e);rw[this];simp
 | some x=>
  have h:=pre1 b L (k+1);rw[qr e];rw[show [a,b].isPrefixOf (x::L.drop (k+1))=((a==x)&&[b].isPrefixOf (L.drop (k+1))) by rfl,h];by_cases hx:x=a
  ·subst hx;simp
  ·have h1:(a==x)=false:=by simpa using fun h:a=x=>hx h.symm
   rw[h1];simp[hx]
theorem Zy{g:Nat}{A:Option Addr}{n c:Nat}{xs:List Pn}{i:Nat}(s:List UInt8)(hs:∀ u∈s,u.toNat<128)(hsz:s.length<=100)(w:World)(h:Rdr w g A n c xs i) :
  Calls Tryz.prog 112 #[.pointer (some ⟨g,0,none⟩),.string ⟨s.toArray⟩] w fun e w'=>e=.returned (.bool ((asc s).isPrefixOf ((xs.map Pn.r).drop i)))/\Bel w w':=by
 obtain⟨c0,c1,f0,f1⟩:=h.cells;have hsm:=h.small;have hle:=h.le;have H:=hid h;have HS:=hid hs;have hz:(⟨s.toArray⟩:ByteArray).size=s.length:=by simp[ByteArray.size]
 have HZ:=hid hz;have hL:((xs.map Pn.r).drop i).length=n-i:=by rw[List.length_drop,List.length_map,<- h.len]
 have HL:=hid hL;have ha:(asc s).length=s.length:=ZP s;have HA:=hid ha;clear h hs hz hL ha;obtain⟨ans,hans⟩:∃ ans,ans=(asc s).isPrefixOf ((xs.map Pn.r).drop i):=⟨_,rfl⟩
 rw[<- hans];have HANS:=hid hans;clear hans;go_enter Tryz.func112,Tryz.ntmps112
 go_wp2
 all_goals go_region
 by_cases hlong:(n:Int)-i<(s.length:Int)
 ·have hno:ans=false:=by
   rw[HANS.out,qag,decide_eq_false_iff_not];rintro⟨h1,_⟩;rw[HL.out,HA.out]at h1;omega
  subst hno;go_wp2
  go_ret
  exact⟨rfl,(Bel.refl w).drew⟩
 ·have hlong2:i+s.length<=n:=by omega
  go_wp2
  go_loopg [] (s.length+1) (fun gk wr=>∃ pos:Nat,Hid (pos<=s.length/\s.length-pos<gk)/\Hid (Bel w wr)/\Hid (wr.heap[w.heap.size]?=some (.stringIter ⟨s.toArray⟩ pos))/\Hid ((asc s).take pos=((xs.map Pn.r).drop i).take pos))
  case atStart=>
   exact⟨0,hid ⟨by omega,by omega⟩,hid ((Bel.refl w).drew.alloc _),hid (by have:=World.iter_heap w.drew ⟨s.toArray⟩ 0;simpa using this),hid (by simp)⟩
  case round=>
   obtain⟨pos,HP,HB,HI,HT⟩:=hrel;by_cases hp:pos<s.length
   ·have hasc:(s[pos]'hp).toNat<128:=HS.out _ (List.getElem_mem hp)
    obtain⟨u,hu⟩:∃ u,u=(s[pos]'hp):=⟨_,rfl⟩
    have hu2:((⟨s.toArray⟩:ByteArray)[pos]'(by rw[HZ.out];exact hp))=u:=by rw[hu];show (s.toArray[pos]'_)=_;simp
    have hnx:∀ ty,(Instr.next (.pointer (some ⟨w.heap.size,0,none⟩)) true ty).run Tryz.prog wr=_:=fun ty=>Lib.run_next_ascii_at wr w.heap.size ⟨s.toArray⟩ pos ty HI.out (by rw[HZ.out];exact hp) (by rw[hu2,hu];exact hasc);rw[hu2]at hnx;obtain⟨w2,hw2⟩:∃ w2,w2=wr.iterAt w.heap.size ⟨s.toArray⟩ (pos+1):=⟨_,rfl⟩
    rw[<- hw2]at hnx;have hI2:w2.heap[w.heap.size]?=some (.stringIter ⟨s.toArray⟩ (pos+1)):=by rw[hw2];exact Lib.iterAt_heap wr _ _ _ _ HI.out
    have hB2:Bel w w2:=by
     rw[hw2];exact⟨HB.out.os,HB.out.tape,HB.out.output,by simpa [World.iterAt] using HB.out.size,fun k hk=>by rw[<- HB.out.block k hk];simp[World.iterAt,Array.getElem?_setIfInBounds];omega⟩
    have HI2:=hid hI2;have HB2:=hid hB2;have HU:=hid hu;have HD:=hid (H.out.bel hB2);clear hI2 hB2 hw2 hu2 hu hasc;obtain⟨e0,e1,g0,g1⟩:=HD.out.cells;obtain⟨b,off,rfl,hb,hcc⟩:=HD.out.rp.at_ (by omega);obtain⟨y,hy⟩:∃ y,xs[i+pos]?=some y:=⟨_,List.getElem?_eq_getElem (by have:=HD.out.len;omega)⟩
    obtain⟨a0,-,-,-⟩:=hcc (i+pos) y hy;have HY:=hid hy;clear hcc hy;have ha2:(asc s)[pos]?=some (u.toNat:Int):=by
     rw[asc,List.getElem?_map,List.getElem?_eq_getElem hp,HU.out];rfl
    have hl2:((xs.map Pn.r).drop i)[pos]?=some y.r:=by rw[List.getElem?_drop,List.getElem?_map,HY.out];rfl
    have HST:=hid (qfK ha2 hl2 HT.out);clear ha2 hl2;go_wp2
    all_goals go_region
    by_cases hyu:y.r=(u.toNat:Int)
    ·have hst:=HST.out.2 hyu.symm
     have HST2:=hid hst;clear hst;go_wp2
     have hgp:=HP.out;go_roundg (gk-1)
     case rel=>exact⟨pos+1,hid ⟨by omega,by omega⟩,hid HB2.out.drew,hid HI2.out,HST2⟩
     case measure=>omega
    ·have hno:ans=false:=by
      rw[HANS.out];refine qiB (j:=pos+1) (by rw[HA.out];omega) fun h=>hyu (HST.out.1 h).symm
     subst hno;go_wp2
     go_ret
     exact⟨rfl,HB2.out.drew⟩
   ·obtain rfl:pos=s.length:=by have:=HP.out;omega
    have hnx:∀ ty,(Instr.next (.pointer (some ⟨w.heap.size,0,none⟩)) true ty).run Tryz.prog wr=_:=fun ty=>Lib.run_next_end_at wr w.heap.size ⟨s.toArray⟩ s.length ty HI.out (by rw[HZ.out];omega);have hyes:ans=true:=by
     rw[HANS.out,qag,decide_eq_true_iff,HL.out,HA.out];exact⟨by omega,HT.out⟩
    subst hyes;go_wp2
    go_ret
    exact⟨rfl,HB.out⟩
end Go.Proofs.YtlmmaoobembadaaGreatDoor.Mu
