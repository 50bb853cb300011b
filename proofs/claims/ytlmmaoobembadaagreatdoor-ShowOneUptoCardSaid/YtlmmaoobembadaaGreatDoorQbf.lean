import Derived.Test.YtlmmaoobembadaaGreatDoorQan
open Go.Lib (hid)
namespace Go.Proofs.YtlmmaoobembadaaGreatDoor.Mu
set_option maxHeartbeats 2000000
open Go Go.RowKit Go.Shelf
attribute [local go_sem] Oper.semAt_some
set_option linter.unusedVariables false
set_option maxRecDepth 100000
def ExC(w0:World)(base wp M:Nat):Prop:=∀ (k:Int) (s:List UInt8) (n:Int) (p:Pl) (A:Option Addr) (c:Nat) (B:Option Addr) (bc:Nat) (kids arms:Tr) (xs:List Tn) (W:World),
 KidsTr w0 (OldT w0) .ex A kids.len c kids->KidsTr w0 (OldT w0) .arms B arms.len bc arms->(Tr.nod k s n p kids arms .nil).size<=M->(Tr.nod k s n p kids arms .nil).shp->Bel w0 W->Wri W base wp xs->xs.length<=5000 →
 Calls Tryz.prog 50 #[.pointer (some ⟨wp,0,none⟩),.agg #[.int .u8 k,.string ⟨s.toArray⟩,n,p.a,p.l,p.c,.slice A kids.len c,.slice B arms.len bc]] W (WrQ w0 base wp xs (qg k s n kids arms) W)
def qa8(fa:FuncId)(al:Int->Nat->Bool):Prop:=∀ (k:Int) (S:ByteArray) (n:Int) (p:Pl) (A:Option Addr) (l c:Nat) (B:Option Addr) (m d:Nat) (w:World),Calls Tryz.prog fa #[.agg #[.int .u8 k,.string S,.int .i64 n,.int .i64 p.a,.int .i64 p.l,.int .i64 p.c,.slice A l c,.slice B m d]] w (qj (al k l) w)
theorem Qo(fa:FuncId)(al:Int->Nat->Bool)(ega:∀ args w,(callFunc fa args).run Tryz.prog w=.ok (.enter fa args) w)(HA:qa8 fa al)(base wp M:Nat)(xs:List Tn)(A:Option Addr)(n c:Nat)(f:Tr)(w0 W:World)
  (hX:ExC w0 base wp M) (hwp:w0.heap.size<=wp) (hf:RowX w0 W wp .ex A n f) (hsz:f.size<=M) (hM:M<=1000000) (hs:f.shp) (hW:Bel w0 W) (hw:Wri W base wp xs) (hx:xs.length<=5000) :
  Calls Tryz.prog 97 #[.pointer (some ⟨wp,0,none⟩),.func (.func fa) #[] #[],.func (.func 50) #[.pointer (some ⟨wp,0,none⟩)] #[],.slice A n c] W (WrQ w0 base wp xs (f.brX al) W):=by
 have HF:=hid hf;have HX:=hid hX;have HAA:=hid HA;have HSZ:=hid (And.intro hsz hs);have HW:=hid hW;have HL:Hid (n=f.len):=hid hf.1;have hn:n<=1000000:=by have:=hf.1;have:=f.len_le;omega
 have egx:∀ args w,(callFunc 50 args).run Tryz.prog w=.ok (.enter 50 args) w:=fun args w=>by kernel_rfl
 have HI:Hid (∃ pre,Ws w0 base wp xs W pre W/\pre++(f.dropN 0).brX al=f.brX al):=hid ⟨[],Ws.start hW hw hx,by cases f <;> rfl⟩;clear hf hX HA hsz hs hW hw hx;go_enter Tryz.func97,Tryz.ntmps97
 go_wp2_with fail
 go_loopw [12] (fun i wr=>∃ j:Nat,j<=n/\i=.int .i64 (j:Int)/\Hid (∃ pre,Ws w0 base wp xs W pre wr/\pre++(f.dropN j).brX al=f.brX al)) (fun i _=>n-(intOf i).toNat)
 case atStart=>exact⟨0,Nat.zero_le _,rfl,HI⟩
 case round=>
  obtain⟨j,hj,rfl,HR⟩:=hrel;obtain⟨pre,hws,hpre⟩:=HR.out;by_cases hlt:j<n
  ·obtain⟨ub,uo,k,s,nn,p,kids,arms,A',c',B',bc',eA,⟨uob,hub⟩,hnth,hcs,hkk,hka⟩:=(HF.out.step HW.out hws.1 hws.2.2).nth (by intro e;cases e) hws.1 hlt
   subst eA;have hka':KidsTr w0 (OldT w0) .arms B' arms.len bc' arms:=by
    rcases hka with h | ⟨h | h,_⟩
    ·exact h.2
    ·cases h
    ·cases h
   have hns:(Tr.nod k s nn p kids arms .nil).size<=M:=by rw[<- hnth];exact Nat.le_trans (f.nth_size j) HSZ.out.1
   have hnp:(Tr.nod k s nn p kids arms .nil).shp:=by rw[<- hnth];exact f.nth_shp j HSZ.out.2
   have hdr:(f.dropN j).brX al=brkL (al k kids.len) (qg k s nn kids arms)++(f.dropN (j+1)).brX al:=by rw[Tr.dropN_nod f j hnth];rfl
   have HC:Hid (∀ (ys:List Tn) (W':World),Bel w0 W'->Wri W' base wp ys->ys.length<=5000->Calls Tryz.prog 50 #[.pointer (some ⟨wp,0,none⟩),.agg #[.int .u8 k,.string ⟨s.toArray⟩,nn,p.a,p.l,p.c,.slice A' kids.len c',.slice B' arms.len bc']] W' (WrQ w0 base wp ys (qg k s nn kids arms) W')):=hid fun ys W' h1 h2 h3=>HX.out k s nn p A' c' B' bc' kids arms ys W' hkk hka' hns hnp h1 h2 h3;have y0:=hcs 0 _ rfl;have y1:=hcs 1 _ rfl;have y2:=hcs 2 _ rfl;have y3:=hcs 3 _ rfl;have y4:=hcs 4 _ rfl;have y5:=hcs 5 _ rfl;have y6:=hcs 6 _ rfl;have y7:=hcs 7 _ rfl;simp only[Sh.sz,Sh.kd,Nat.add_zero]at y0 y1 y2 y3 y4 y5 y6 y7;rw[hdr]at hpre;obtain⟨Fx,hFx⟩:∃ F,F=qg k s nn kids arms:=⟨_,rfl⟩
   obtain⟨b,hb⟩:∃ b,b=al k kids.len:=⟨_,rfl⟩
   obtain⟨SS,hSS⟩:∃ S:ByteArray,S=⟨s.toArray⟩:=⟨_,rfl⟩
   obtain⟨l1,hl1⟩:∃ l,l=kids.len:=⟨_,rfl⟩
   obtain⟨l2,hl2⟩:∃ l,l=arms.len:=⟨_,rfl⟩
   have HAL:Hid (∀ W',Calls Tryz.prog fa #[.agg #[.int .u8 k,SS,nn,p.a,p.l,p.c,.slice A' l1 c',.slice B' l2 bc']] W' (qj b W')):=hid fun W'=>by rw[hb,<- hl1];exact HAA.out k SS nn p A' l1 c' B' l2 bc' W'
   rw[<- hFx,<- hb]at hpre;rw[<- hSS,<- hl1,<- hl2,<- hFx]at HC;rw[<- hSS]at y1;rw[<- hl1]at y6;rw[<- hl2]at y7;have HS1:=hid (hws.bel ((Bel.refl wr).alloc (.cells #[.int .u8 k,SS,nn,p.a,p.l,p.c,.slice A' l1 c',.slice B' l2 bc'] 32)));have HBX:=hid (hws.box (.cells #[.int .u8 k,SS,nn,p.a,p.l,p.c,.slice A' l1 c',.slice B' l2 bc'] 32));have HPRE:=hid hpre;have hob':ub<wr.heap.size:=(Array.getElem?_eq_some_iff.1 hub.1).1;have i1:(0:Int)<=(j:Int):=by omega
   have i2:(j:Int)<(n:Int):=by omega
   have HLT:=hid hlt;clear hcs hkk hka hka' hns hnp hdr hpre hFx hb hSS hl1 hl2 hnth hub hws HR;go_wp2_with fail
   refine (HAL.out _).mono ?_;rintro e w2 ⟨rfl,hb2⟩;have HS2:=hid (HS1.out.bel hb2);have HX2:=hid (HS1.out.kp hb2 _ _ HBX.out);obtain⟨x0,x1,x2,x3,x4,x5,x6,x7⟩:=box8 HX2.out.1;have hl2:wr.heap.size<w2.heap.size:=(Array.getElem?_eq_some_iff.1 HX2.out.1).1;clear hb2 y0 y1 y2 y3 y4 y5 y6 y7 hob' HAL HS1 HBX;cases b
   ·go_wp2_with fail
    refine (qd _ _).mono ?_;rintro e w3 ⟨rfl,hb3⟩;have HS3:=hid (HS2.out.bel hb3);have HX3:=hid (HS2.out.kp hb3 _ _ HX2.out);clear hb3 x0 x1 x2 x3 x4 x5 x6 x7;unfold tokV;go_wp2_with fail
    refine (HS3.out.put1 hwp 5 [40] 0 _).mono ?_;rintro e w4 ⟨rfl,hs4,hk4⟩;have HS4:=hid hs4;have HX4:=hid (hk4 _ _ HX3.out);obtain⟨x0,x1,x2,x3,x4,x5,x6,x7⟩:=box8 HX4.out.1;have hl4:wr.heap.size<w4.heap.size:=(Array.getElem?_eq_some_iff.1 HX4.out.1).1;clear hs4 hk4;go_wp2_with fail
    refine (HS4.out.run fun r h1 h2 h3=>HC.out r w4 h1 h2 h3).mono ?_;rintro e w5 ⟨rfl,hs5,hk5⟩;have HS5:=hid hs5;clear hs5 hk5 x0 x1 x2 x3 x4 x5 x6 x7;go_wp2_with fail
    refine (qd _ _).mono ?_;rintro e w6 ⟨rfl,hb6⟩;have HS6:=hid (HS5.out.bel hb6);clear hb6;unfold tokV;go_wp2_with fail
    refine (HS6.out.put1 hwp 5 [41] 0 _).mono ?_;rintro e w7 ⟨rfl,hs7,hk7⟩;have HS7:=hid hs7;have HR':Hid (∃ pre,Ws w0 base wp xs W pre w7/\pre++(f.dropN (j+1)).brX al=f.brX al):=hid ⟨_,HS7.out,by rw[<- HPRE.out];simp[brkL]⟩;clear hs7 hk7;go_wp2_with fail
    go_roundw
    case rel=>exact⟨j+1,HLT.out,by go_num,HR'⟩
    case measure=>have:=HLT.out;simp[intOf];omega
   ·go_wp2_with fail
    refine (HS2.out.run fun r h1 h2 h3=>HC.out r w2 h1 h2 h3).mono ?_;rintro e w5 ⟨rfl,hs5,hk5⟩;have HR':Hid (∃ pre,Ws w0 base wp xs W pre w5/\pre++(f.dropN (j+1)).brX al=f.brX al):=hid ⟨_,hs5,by rw[<- HPRE.out];simp[brkL]⟩;clear hs5 hk5 x0 x1 x2 x3 x4 x5 x6 x7;go_wp2_with fail
    go_roundw
    case rel=>exact⟨j+1,HLT.out,by go_num,HR'⟩
    case measure=>have:=HLT.out;simp[intOf];omega
  ·obtain rfl:j=n:=by omega
   rw[Tr.dropN_all f j (by rw[<- HL.out];exact Nat.le_refl _)]at hpre;have HQ:=hid (hws.fin (F:=f.brX al) (by rw[<- hpre];simp[Tr.brX]));clear hws hpre;go_wp2_with fail
   go_end0
   exact HQ.out
set_option maxHeartbeats 4000000
theorem qbf(fa:FuncId)(al:Int->Nat->Bool)(ega:∀ args w,(callFunc fa args).run Tryz.prog w=.ok (.enter fa args) w)(HA:qa8 fa al){base wp M:Nat}{w0:World}{xs:List Tn}{W:World}(hC:ExC w0 base wp M)(hM:M<=1000000)(hwp:w0.heap.size<=wp)(pre:List Tn)(w:World)(g:Nat)(k:Int)(s:List UInt8)(n:Int)(p:Pl)(kids arms:Tr)(A:Option Addr)(c:Nat)(B:Option Addr)(bc:Nat)(h:Ws w0 base wp xs W pre w)(hg:g=w.heap.size)(hk:KidsTr w0 (OldT w0) .ex A kids.len c kids)(ha:KidsTr w0 (OldT w0) .arms B arms.len bc arms)(hs:1+kids.size+arms.size<=M)(hp:(Tr.nod k s n p kids arms .nil).shp) :
  Calls Tryz.prog 97 #[.pointer (some ⟨wp,0,none⟩),.func (.func fa) #[] #[],.func (.func 50) #[.pointer (some ⟨wp,0,none⟩)] #[],.slice (some ⟨g,0,none⟩) 1 1] (w.alloc (.cells #[.int .u8 k,.string ⟨s.toArray⟩,n,p.a,p.l,p.c,.slice A kids.len c,.slice B arms.len bc] 32))
   (WsQ w0 base wp xs W (pre++brkL (al k kids.len) (qg k s n kids arms)) w):=by
 subst hg;refine h.runA ((Bel.refl w).alloc _) fun r h1 h2 h3=>?_;have hr:RowX w0 (w.alloc (.cells #[.int .u8 k,.string ⟨s.toArray⟩,n,p.a,p.l,p.c,.slice A kids.len c,.slice B arms.len bc] 32)) wp .ex (some ⟨w.heap.size,0,none⟩) 1 (.nod k s n p kids arms .nil):=by
  obtain⟨q1,⟨r',q2,_⟩,_⟩:=h;exact RowX.one (sh:= .ex) (by intro e;cases e) hk (.inl ⟨rfl,ha⟩) q1 q2
 have hb:=Qo fa al ega HA base wp M r _ 1 1 _ w0 _ hC hwp hr (by simp only[Tr.size];omega) hM hp h1 h2 h3;rw[show (Tr.nod k s n p kids arms .nil).brX al=brkL (al k kids.len) (qg k s n kids arms) by simp[Tr.brX]]at hb;exact hb
theorem Ws.put2g{w0:World}{base wp:Nat}{xs:List Tn}{W:World}{pre:List Tn}{w:World}(h:Ws w0 base wp xs W pre w)(hwp:w0.heap.size<=wp)(k:Int)(s:List UInt8)(n:Int)(k2:Int)(s2:List UInt8)(n2:Int)(cp g:Nat)(hg:g=w.heap.size) :
  Calls Tryz.prog 85 #[.pointer (some ⟨wp,0,none⟩),.slice (some ⟨g,0,none⟩) 2 cp] (w.alloc (.cells #[.int .u8 k,.string ⟨s.toArray⟩,.int .i64 n,.int .i64 0,.int .i64 0,.int .i64 0,.int .u8 k2,.string ⟨s2.toArray⟩,.int .i64 n2,.int .i64 0,.int .i64 0,.int .i64 0] 51)) (WsQ w0 base wp xs W (pre++[tk0 k s n,tk0 k2 s2 n2]) w):=by
 subst hg;exact h.put2 hwp k s n k2 s2 n2 cp
theorem qhh(sep:List Tn)(ka:Int)(sa:List UInt8)(na:Int)(pa:Pl)(kia ara:Tr)(kb:Int)(sb:List UInt8)(nb:Int)(pb:Pl)(kib arb:Tr):(Tr.nod ka sa na pa kia ara (.nod kb sb nb pb kib arb .nil)).exK 0 sep=qg ka sa na kia ara++sep++qg kb sb nb kib arb:=by
 rw[qO,qO];simp[brkM,nxM,Tr.exK]
theorem ZT(base wp M:Nat)(w0:World)(hwp:w0.heap.size<=wp)(hC:ExC w0 base wp M)(k:Int)(s:List UInt8)(n:Int)(p:Pl)(A:Option Addr)(l c:Nat)(B:Option Addr)(al bc:Nat)(kids arms:Tr)(hk:KidsTr w0 (OldT w0) .ex A l c kids)(hl2:l=2)(hsz:kids.size<=M)(hsh:kids.shp)
  (ls:List Tn) (L:Nat) (hL:L=ls.length) (hls:0<L/\L<=2) (g:Nat) (t:TypeId) (xs:List Tn) (W:World) (pre:List Tn) (w w':World) (hs:Ws w0 base wp xs W pre w) (hb:Bel w w') (hg:w'.heap[g]?=some (.cells (zw ls).toArray t (0,0))) :
  Calls Tryz.prog 95 #[.pointer (some ⟨wp,0,none⟩),.agg #[.int .u8 k,.string ⟨s.toArray⟩,n,p.a,p.l,p.c,.slice A l c,.slice B al bc],.slice (some ⟨g,0,none⟩) L L] w' (WsQ w0 base wp xs W (pre++(ls++(tk0 1 s 0::kwEq::kids.exK 0 [kwIn]))) w):=by
 have HS:=hid (hs.bel hb);have HK0:=hid (hs.kp hb);obtain⟨b,o,ka,sa,na,pa,kia,ara,A1,c1,B1,d1,kb,sb,nb,pb,kib,arb,A2,c2,B2,d2,rfl,rfl,hlt,hc1,hk1,ha1,hc2,hk2,ha2⟩:=QE (by intro e;cases e) hk hl2;have ha1':KidsTr w0 (OldT w0) .arms B1 ara.len d1 ara:=by
  rcases ha1 with h | ⟨h | h,_⟩
  ·exact h.2
  ·cases h
  ·cases h
 have ha2':KidsTr w0 (OldT w0) .arms B2 arb.len d2 arb:=by
  rcases ha2 with h | ⟨h | h,_⟩
  ·exact h.2
  ·cases h
  ·cases h
 rw[qhh];simp only[Tr.size]at hsz;have HP1:=hid fun xs' W'=>hC ka sa na pa A1 c1 B1 d1 kia ara xs' W' hk1 ha1' (by simp only[Tr.size];omega) ⟨hsh.1,hsh.2.1,hsh.2.2.1,hsh.2.2.2.1,hsh.2.2.2.2.1,hsh.2.2.2.2.2.1,trivial⟩;have HP2:=hid fun xs' W'=>hC kb sb nb pb A2 c2 B2 d2 kib arb xs' W' hk2 ha2' (by simp only[Tr.size];omega) hsh.2.2.2.2.2.2;have HW1:=hid fun w1 (hb1:Bel w' w1) (h1:Ws w0 base wp xs W pre w1)=>h1.run (w':=w1) fun r q1 q2 q3=>qcE base wp r ls g L t w0 w1 w1 q1 hwp q2 (Bel.refl _) q3 (by omega) (by omega) (hb1.blk hg) (qZ ls);have HPU:Hid (∀ (pre:List Tn) (w:World) (g:Nat),Ws w0 base wp xs W pre w->g=w.heap.size->Calls Tryz.prog 85 #[.pointer (some ⟨wp,0,none⟩),.slice (some ⟨g,0,none⟩) 2 2] (w.alloc (.cells #[.int .u8 1,.string ⟨s.toArray⟩,.int .i64 0,.int .i64 0,.int .i64 0,.int .i64 0,.int .u8 5,.string ⟨#[61]⟩,.int .i64 0,.int .i64 0,.int .i64 0,.int .i64 0] 51)) (WsQ w0 base wp xs W (pre++[tk0 1 s 0,kwEq]) w)):=hid fun pre w g h hg=>h.put2g hwp 1 s 0 5 [61] 0 2 g hg;have HCC1:=hid hc1;have HCC2:=hid hc2;obtain⟨SS,hSS⟩:∃ S:ByteArray,S=⟨s.toArray⟩:=⟨_,rfl⟩
 obtain⟨SA,hSA⟩:∃ S:ByteArray,S=⟨sa.toArray⟩:=⟨_,rfl⟩
 obtain⟨SB,hSB⟩:∃ S:ByteArray,S=⟨sb.toArray⟩:=⟨_,rfl⟩
 obtain⟨T1,hT1⟩:∃ T,T=tk0 1 s 0:=⟨_,rfl⟩
 obtain⟨F1,hF1⟩:∃ F,F=qg ka sa na kia ara:=⟨_,rfl⟩
 obtain⟨F2,hF2⟩:∃ F,F=qg kb sb nb kib arb:=⟨_,rfl⟩
 obtain⟨l1,hl1⟩:∃ l,l=kia.len:=⟨_,rfl⟩
 obtain⟨l2,hl2'⟩:∃ l,l=kib.len:=⟨_,rfl⟩
 obtain⟨m1,hm1⟩:∃ l,l=ara.len:=⟨_,rfl⟩
 obtain⟨m2,hm2⟩:∃ l,l=arb.len:=⟨_,rfl⟩
 rw[<- hl1,<- hm1]at HCC1;rw[<- hl2',<- hm2]at HCC2;rw[<- hSA,<- hF1,<- hl1,<- hm1]at HP1;rw[<- hSB,<- hF2,<- hl2',<- hm2]at HP2;rw[<- hSS,<- hT1]at HPU;rw[<- hSS,<- hT1,<- hF1,<- hF2,hl2];rw[<- hL]at HW1;have HSA:=hid hSA;have HSB:=hid hSB;have hL63:L<=2:=hls.2;clear hk hsz hsh hC hc1 hc2 hk1 hk2 ha1 ha2 ha1' ha2' hlt hSS hSA hSB hT1 hF1 hF2 hl1 hl2' hm1 hm2 hl2 hs hb hg hL hls;have HS1:=hid (HS.out.bel ((Bel.refl w').alloc (.cells #[.int .u8 k,SS,n,p.a,p.l,p.c,.slice (some ⟨b,o,none⟩) 2 c,.slice B al bc] 32)));have HX1:=hid (HS.out.box (.cells #[.int .u8 k,SS,n,p.a,p.l,p.c,.slice (some ⟨b,o,none⟩) 2 c,.slice B al bc] 32));have HKA:=hid (HS.out.kp ((Bel.refl w').alloc (.cells #[.int .u8 k,SS,n,p.a,p.l,p.c,.slice (some ⟨b,o,none⟩) 2 c,.slice B al bc] 32)));go_enter Tryz.func95,Tryz.ntmps95
 go_wp2_with fail
 refine (HW1.out _ ((Bel.refl w').alloc _) HS1.out).mono ?_;rintro e w2 ⟨rfl,hs2,hk2⟩;have HS2:=hid hs2;have HX2:=hid (hk2 _ _ HX1.out);have HK2:=hid ((HK0.out.on HKA.out).on hk2);obtain⟨x0,x1,x2,x3,x4,x5,x6,x7⟩:=box8 HX2.out.1;have hl2:w'.heap.size<w2.heap.size:=(Array.getElem?_eq_some_iff.1 HX2.out.1).1;clear hs2 hk2 HW1 HS HK0 HS1 HX1 HKA;go_wp2_with fail
 refine (qY _ _).mono ?_;rintro e w3 ⟨rfl,hb3⟩;have HS3:=hid (HS2.out.bel hb3);have HX3:=hid (HS2.out.kp hb3 _ _ HX2.out);have HK3:=hid (HK2.out.on (HS2.out.kp hb3));clear hb3 x0 x1 x2 x3 x4 x5 x6 x7 hl2;unfold tokV;go_wp2_with fail
 refine (qd _ _).mono ?_;rintro e w4 ⟨rfl,hb4⟩;have HS4:=hid (HS3.out.bel hb4);have HX4:=hid (HS3.out.kp hb4 _ _ HX3.out);have HK4:=hid (HK3.out.on (HS3.out.kp hb4));clear hb4;unfold tokV;go_wp2_with fail
 refine (HPU.out _ _ _ HS4.out rfl).mono ?_;rintro e w5 ⟨rfl,hs5,hk5⟩;have HS5:=hid hs5;have HX5:=hid (hk5 _ _ HX4.out);have HK5:=hid (HK4.out.on hk5);obtain⟨x0,x1,x2,x3,x4,x5,x6,x7⟩:=box8 HX5.out.1;have hl5:w'.heap.size<w5.heap.size:=(Array.getElem?_eq_some_iff.1 HX5.out.1).1;have y0:=HCC1.out _ HS5.out.1 0 _ rfl;have y1:=HCC1.out _ HS5.out.1 1 _ rfl;have y2:=HCC1.out _ HS5.out.1 2 _ rfl;have y3:=HCC1.out _ HS5.out.1 3 _ rfl;have y4:=HCC1.out _ HS5.out.1 4 _ rfl;have y5:=HCC1.out _ HS5.out.1 5 _ rfl;have y6:=HCC1.out _ HS5.out.1 6 _ rfl;have y7:=HCC1.out _ HS5.out.1 7 _ rfl;simp only[Sh.kd,Nat.add_zero]at y0 y1 y2 y3 y4 y5 y6 y7;rw[<- HSA.out]at y1;clear hs5 hk5;go_wp2_with fail
 refine (HS5.out.run fun r h1 h2 h3=>HP1.out r w5 h1 h2 h3).mono ?_;rintro e w6 ⟨rfl,hs6,hk6⟩;have HS6:=hid hs6;have HX6:=hid (hk6 _ _ HX5.out);have HK6:=hid (HK5.out.on hk6);clear hs6 hk6 y0 y1 y2 y3 y4 y5 y6 y7 x0 x1 x2 x3 x4 x5 x6 x7 hl5;go_wp2_with fail
 refine (qd _ _).mono ?_;rintro e w7 ⟨rfl,hb7⟩;have HS7:=hid (HS6.out.bel hb7);have HX7:=hid (HS6.out.kp hb7 _ _ HX6.out);have HK7:=hid (HK6.out.on (HS6.out.kp hb7));clear hb7;unfold tokV;go_wp2_with fail
 refine (HS7.out.put1 hwp 5 [105,110] 0 _).mono ?_;rintro e w8 ⟨rfl,hs8,hk8⟩;have HS8:=hid hs8;have HX8:=hid (hk8 _ _ HX7.out);have HK8:=hid (HK7.out.on hk8);obtain⟨x0,x1,x2,x3,x4,x5,x6,x7⟩:=box8 HX8.out.1;have hl8:w'.heap.size<w8.heap.size:=(Array.getElem?_eq_some_iff.1 HX8.out.1).1;have y0:=HCC2.out _ HS8.out.1 0 _ rfl;have y1:=HCC2.out _ HS8.out.1 1 _ rfl;have y2:=HCC2.out _ HS8.out.1 2 _ rfl;have y3:=HCC2.out _ HS8.out.1 3 _ rfl;have y4:=HCC2.out _ HS8.out.1 4 _ rfl;have y5:=HCC2.out _ HS8.out.1 5 _ rfl;have y6:=HCC2.out _ HS8.out.1 6 _ rfl;have y7:=HCC2.out _ HS8.out.1 7 _ rfl;simp only[Sh.kd,Sh.sz,Nat.add_zero]at y0 y1 y2 y3 y4 y5 y6 y7;rw[<- HSB.out]at y1;clear hs8 hk8;go_wp2_with fail
 refine (HS8.out.run fun r h1 h2 h3=>HP2.out r w8 h1 h2 h3).mono ?_;rintro e w9 ⟨rfl,hs9,hk9⟩;have HQ:Hid (WsQ w0 base wp xs W (pre++(ls++(T1::kwEq::(F1++[kwIn]++F2)))) w (.returned (.tuple #[])) w9):=hid ⟨rfl,by
  have e:pre++(ls++(T1::kwEq::(F1++[kwIn]++F2)))=pre++ls++[T1,kwEq]++F1++[kwIn]++F2:=by simp
  rw[e];exact hs9,HK8.out.on hk9⟩
 clear hs9 hk9 y0 y1 y2 y3 y4 y5 y6 y7 x0 x1 x2 x3 x4 x5 x6 x7;go_wp2_with fail
 go_end0
 exact HQ.out
theorem jF:qa8 99 alnE:=fun k S n p A l c B m d w=>jG k S n p A l c B m d w
theorem qcG:qa8 98 alnF:=fun k S n p A l c B m d w=>Zu k S n p A l c B m d w
theorem egE:∀ args w,(callFunc 99 args).run Tryz.prog w=.ok (.enter 99 args) w:=fun args w=>by kernel_rfl
theorem egF:∀ args w,(callFunc 98 args).run Tryz.prog w=.ok (.enter 98 args) w:=fun args w=>by kernel_rfl
theorem qfs(sep:List Tn)(ka:Int)(sa:List UInt8)(na:Int)(pa:Pl)(kia ara:Tr)(kb:Int)(sb:List UInt8)(nb:Int)(pb:Pl)(kib arb:Tr):(Tr.nod ka sa na pa kia ara (.nod kb sb nb pb kib arb .nil)).exK 2 sep=brkL (alnE ka kia.len) (qg ka sa na kia ara)++sep++brkL (alnE kb kib.len) (qg kb sb nb kib arb):=by
 rw[qO,qO];simp[brkM,nxM,Tr.exK]
theorem qfr(sep:List Tn)(ka:Int)(sa:List UInt8)(na:Int)(pa:Pl)(kia ara:Tr)(kb:Int)(sb:List UInt8)(nb:Int)(pb:Pl)(kib arb:Tr):(Tr.nod ka sa na pa kia ara (.nod kb sb nb pb kib arb .nil)).exK 1 sep=brkL (alnF ka kia.len) (qg ka sa na kia ara)++sep++brkL (alnE kb kib.len) (qg kb sb nb kib arb):=by
 rw[qO,qO];simp[brkM,nxM,Tr.exK]
theorem qa4(base wp M:Nat)(hM:M<=1000000)(w0:World)(hwp:w0.heap.size<=wp)(hC:ExC w0 base wp M)(k:Int)(s:List UInt8)(n:Int)(p:Pl)(A:Option Addr)(l c:Nat)(B:Option Addr)(al bc:Nat)(kids arms:Tr)(hk:KidsTr w0 (OldT w0) .ex A l c kids)(hsz:kids.size<=M)(hsh:kids.shp)(h5:(exR k s).1=5->l=2)
  (xs:List Tn) (W:World) (pre:List Tn) (w w':World) (hs:Ws w0 base wp xs W pre w) (hb:Bel w w') :
  Calls Tryz.prog 100 #[.pointer (some ⟨wp,0,none⟩),.agg #[.int .u8 k,.string ⟨s.toArray⟩,n,p.a,p.l,p.c,.slice A l c,.slice B al bc]] w' (WsQ w0 base wp xs W (pre++(if (exR k s).1=5 then kids.exK 2 [tk0 5 s n] else tk0 (exR k s).1 s n::kids.exK 2 [])) w):=by
 have HS:=hid (hs.bel hb);have HK0:=hid (hs.kp hb);have HR:Hid (∀ W,Calls Tryz.prog 91 #[.agg #[.int .u8 k,.string ⟨s.toArray⟩,n,p.a,p.l,p.c,.slice A l c,.slice B al bc]] W fun e w'=>e=.returned (.tuple #[.agg #[.int .u8 (exR k s).1,.int .i64 (exR k s).2.1],.bool (exR k s).2.2])/\Bel W w'):=hid fun W=>Qq k s n p A l c B al bc W;obtain⟨tk,htk⟩:∃ t,t=(exR k s).1:=⟨_,rfl⟩
 obtain⟨kc,hkc⟩:∃ t,t=(exR k s).2.1:=⟨_,rfl⟩
 obtain⟨ok,hok⟩:∃ t,t=(exR k s).2.2:=⟨_,rfl⟩
 rw[<- htk,<- hkc,<- hok]at HR;rw[<- htk]at h5;rw[<- htk];have HPU:Hid (∀ (pre:List Tn) (w:World) (g:Nat),Ws w0 base wp xs W pre w->g=w.heap.size->Calls Tryz.prog 85 #[.pointer (some ⟨wp,0,none⟩),.slice (some ⟨g,0,none⟩) 1 1] (w.alloc (.cells #[.int .u8 tk,.string ⟨s.toArray⟩,.int .i64 n,.int .i64 0,.int .i64 0,.int .i64 0] 51)) (WsQ w0 base wp xs W (pre++[tk0 tk s n]) w)):=hid fun pre w g h hg=>h.put1g hwp tk s n 1 g hg;by_cases t5:tk=5
 ·rw[if_pos t5]
  obtain⟨b,o,ka,sa,na,pa,kia,ara,A1,c1,B1,d1,kb,sb,nb,pb,kib,arb,A2,c2,B2,d2,rfl,rfl,hlt,hc1,hk1,ha1,hc2,hk2,ha2⟩:=QE (by intro e;cases e) hk (h5 t5);have ha1':KidsTr w0 (OldT w0) .arms B1 ara.len d1 ara:=by
   rcases ha1 with h | ⟨h | h,_⟩
   ·exact h.2
   ·cases h
   ·cases h
  have ha2':KidsTr w0 (OldT w0) .arms B2 arb.len d2 arb:=by
   rcases ha2 with h | ⟨h | h,_⟩
   ·exact h.2
   ·cases h
   ·cases h
  rw[qfs];simp only[Tr.size]at hsz;have hl2:=h5 t5;have HP1:=hid fun pre w g h hg=>qbf 99 alnE egE jF (xs:=xs) (W:=W) hC hM hwp pre w g ka sa na pa kia ara A1 c1 B1 d1 h hg hk1 ha1' (by omega) ⟨hsh.1,hsh.2.1,hsh.2.2.1,hsh.2.2.2.1,hsh.2.2.2.2.1,hsh.2.2.2.2.2.1,trivial⟩;have HP2:=hid fun pre w g h hg=>qbf 99 alnE egE jF (xs:=xs) (W:=W) hC hM hwp pre w g kb sb nb pb kib arb A2 c2 B2 d2 h hg hk2 ha2' (by omega) hsh.2.2.2.2.2.2;have HCC1:=hid hc1;have HCC2:=hid hc2;obtain⟨SS,hSS⟩:∃ S:ByteArray,S=⟨s.toArray⟩:=⟨_,rfl⟩
  obtain⟨SA,hSA⟩:∃ S:ByteArray,S=⟨sa.toArray⟩:=⟨_,rfl⟩
  obtain⟨SB,hSB⟩:∃ S:ByteArray,S=⟨sb.toArray⟩:=⟨_,rfl⟩
  obtain⟨T1,hT1⟩:∃ T,T=tk0 tk s n:=⟨_,rfl⟩
  obtain⟨F1,hF1⟩:∃ F,F=brkL (alnE ka kia.len) (qg ka sa na kia ara):=⟨_,rfl⟩
  obtain⟨F2,hF2⟩:∃ F,F=brkL (alnE kb kib.len) (qg kb sb nb kib arb):=⟨_,rfl⟩
  obtain⟨l1,hl1⟩:∃ l,l=kia.len:=⟨_,rfl⟩
  obtain⟨l2,hl2'⟩:∃ l,l=kib.len:=⟨_,rfl⟩
  obtain⟨m1,hm1⟩:∃ l,l=ara.len:=⟨_,rfl⟩
  obtain⟨m2,hm2⟩:∃ l,l=arb.len:=⟨_,rfl⟩
  rw[<- hl1,<- hm1]at HCC1;rw[<- hl2',<- hm2]at HCC2;rw[<- hSA,<- hF1,<- hl1,<- hm1]at HP1;rw[<- hSB,<- hF2,<- hl2',<- hm2]at HP2;have hT5:tk0 5 s n=T1:=by rw[hT1,t5]
  rw[<- hT1,<- hSS]at HPU;rw[<- hSS]at HR;rw[hT5,<- hF1,<- hF2,<- hSS];have HSA:=hid hSA;have HSB:=hid hSB;clear hk hsz hsh hC hc1 hc2 hk1 hk2 ha1 ha2 ha1' ha2' hlt hSS hSA hSB hT1 hT5 hF1 hF2 hl1 hl2' hm1 hm2 hs hb h5 htk hkc hok;subst t5 hl2;have HS1:=hid (HS.out.bel ((Bel.refl w').alloc (.cells #[.int .u8 k,SS,n,p.a,p.l,p.c,.slice (some ⟨b,o,none⟩) 2 c,.slice B al bc] 32)));have HX1:=hid (HS.out.box (.cells #[.int .u8 k,SS,n,p.a,p.l,p.c,.slice (some ⟨b,o,none⟩) 2 c,.slice B al bc] 32));have HK1:=hid (HK0.out.on (HS.out.kp ((Bel.refl w').alloc (.cells #[.int .u8 k,SS,n,p.a,p.l,p.c,.slice (some ⟨b,o,none⟩) 2 c,.slice B al bc] 32))));go_enter Tryz.func100,Tryz.ntmps100
  go_wp2_with fail
  refine (HR.out _).mono ?_;rintro e w2 ⟨rfl,hb2⟩;have HB2:Hid (Bel w2 ((w2.alloc (.cells #[.int .u8 5,kc] 146)).alloc (.cells #[.int .u8 5,SS,n,(0:Int),(0:Int),(0:Int)] 51))):=hid (((Bel.refl w2).alloc _).alloc _);have HS2:=hid ((HS1.out.bel hb2).bel HB2.out);have HX2:=hid ((HS1.out.bel hb2).kp HB2.out _ _ (HS1.out.kp hb2 _ _ HX1.out));have HT2:=hid (((HS1.out.bel hb2).bel ((Bel.refl w2).alloc (.cells #[.int .u8 5,kc] 146))).box (.cells #[.int .u8 5,SS,n,(0:Int),(0:Int),(0:Int)] 51));have HK2:=hid ((HK1.out.on (HS1.out.kp hb2)).on ((HS1.out.bel hb2).kp HB2.out));have hx2:=HS1.out.kp hb2 _ _ HX1.out;obtain⟨x0,x1,x2,x3,x4,x5,x6,x7⟩:=box8 hx2.1;have hl2:w'.heap.size<w2.heap.size:=(Array.getElem?_eq_some_iff.1 hx2.1).1;have y0:=HCC1.out _ HS2.out.1 0 _ rfl;have y1:=HCC1.out _ HS2.out.1 1 _ rfl;have y2:=HCC1.out _ HS2.out.1 2 _ rfl;have y3:=HCC1.out _ HS2.out.1 3 _ rfl;have y4:=HCC1.out _ HS2.out.1 4 _ rfl;have y5:=HCC1.out _ HS2.out.1 5 _ rfl;have y6:=HCC1.out _ HS2.out.1 6 _ rfl;have y7:=HCC1.out _ HS2.out.1 7 _ rfl;simp only[Sh.kd,Nat.add_zero]at y0 y1 y2 y3 y4 y5 y6 y7;rw[<- HSA.out]at y1;clear hb2 hx2;go_wp2_with fail
  refine (HP1.out _ _ (w2.heap.size+1+1) HS2.out (by simp)).mono ?_;rintro e w3 ⟨rfl,hs3,hk3⟩;have HS3:=hid hs3;have HX3:=hid (hk3 _ _ HX2.out);have ht3:=hk3 _ _ HT2.out;have hsz2:(w2.alloc (.cells #[.int .u8 5,kc] 146)).heap.size=w2.heap.size+1:=by simp
  rw[hsz2]at ht3;have HT3:=hid ht3;have HK3:=hid (HK2.out.on hk3);obtain⟨z0,z1,z2,z3,z4,z5⟩:=(jy ht3.1).1;have hl3:w2.heap.size+1<w3.heap.size:=(Array.getElem?_eq_some_iff.1 ht3.1).1;clear hs3 hk3 ht3 x0 x1 x2 x3 x4 x5 x6 x7 hl2 y0 y1 y2 y3 y4 y5 y6 y7;go_wp2_with fail
  refine (HPU.out _ _ _ HS3.out rfl).mono ?_;rintro e w4 ⟨rfl,hs4,hk4⟩;have HS4:=hid hs4;have HX4:=hid (hk4 _ _ HX3.out);have HK4:=hid (HK3.out.on hk4);obtain⟨x0,x1,x2,x3,x4,x5,x6,x7⟩:=box8 HX4.out.1;have hl4:w'.heap.size<w4.heap.size:=(Array.getElem?_eq_some_iff.1 HX4.out.1).1;have y0:=HCC2.out _ HS4.out.1 0 _ rfl;have y1:=HCC2.out _ HS4.out.1 1 _ rfl;have y2:=HCC2.out _ HS4.out.1 2 _ rfl;have y3:=HCC2.out _ HS4.out.1 3 _ rfl;have y4:=HCC2.out _ HS4.out.1 4 _ rfl;have y5:=HCC2.out _ HS4.out.1 5 _ rfl;have y6:=HCC2.out _ HS4.out.1 6 _ rfl;have y7:=HCC2.out _ HS4.out.1 7 _ rfl;simp only[Sh.kd,Sh.sz,Nat.add_zero]at y0 y1 y2 y3 y4 y5 y6 y7;rw[<- HSB.out]at y1;clear hs4 hk4 z0 z1 z2 z3 z4 z5 hl3;go_wp2_with fail
  refine (HP2.out _ _ _ HS4.out rfl).mono ?_;rintro e w5 ⟨rfl,hs5,hk5⟩;have HQ:Hid (WsQ w0 base wp xs W (pre++(F1++[T1]++F2)) w (.returned (.tuple #[])) w5):=hid ⟨rfl,by
   have e:pre++(F1++[T1]++F2)=pre++F1++[T1]++F2:=by simp
   rw[e];exact hs5,HK4.out.on hk5⟩
  clear hs5 hk5 y0 y1 y2 y3 y4 y5 y6 y7 x0 x1 x2 x3 x4 x5 x6 x7;go_wp2_with fail
  go_end0
  exact HQ.out
 rw[if_neg t5,Tr.brX_exK kids (hk.isNods (by intro e;cases e))];have HBR:Hid (∀ (pre:List Tn) (w:World),Ws w0 base wp xs W pre w->Calls Tryz.prog 97 #[.pointer (some ⟨wp,0,none⟩),.func (.func 99) #[] #[],.func (.func 50) #[.pointer (some ⟨wp,0,none⟩)] #[],.slice A l c] w (WsQ w0 base wp xs W (pre++kids.brX alnE) w)):=hid fun pre w h=>
  h.run fun r h1 h2 h3=>Qo 99 alnE egE jF base wp M r A l c kids w0 w hC hwp (RowX.old hk h1 hwp h2) hsz hM hsh h1 h2 h3
 obtain⟨T1,hT1⟩:∃ T,T=tk0 tk s n:=⟨_,rfl⟩
 obtain⟨SS,hSS⟩:∃ S:ByteArray,S=⟨s.toArray⟩:=⟨_,rfl⟩
 obtain⟨F1,hF1⟩:∃ F,F=kids.brX alnE:=⟨_,rfl⟩
 rw[<- hSS]at HR;rw[<- hF1]at HBR;rw[<- hSS,<- hT1]at HPU;rw[<- hSS,<- hT1,<- hF1];have d5:(tk==5)=false:=by simpa using t5
 clear hk hsz hsh hC htk hkc hok hT1 hSS hF1 hs hb h5 t5;have HS1:=hid (HS.out.bel ((Bel.refl w').alloc (.cells #[.int .u8 k,SS,n,p.a,p.l,p.c,.slice A l c,.slice B al bc] 32)));have HX1:=hid (HS.out.box (.cells #[.int .u8 k,SS,n,p.a,p.l,p.c,.slice A l c,.slice B al bc] 32));have HK1:=hid (HK0.out.on (HS.out.kp ((Bel.refl w').alloc (.cells #[.int .u8 k,SS,n,p.a,p.l,p.c,.slice A l c,.slice B al bc] 32))));go_enter Tryz.func100,Tryz.ntmps100
 go_wp2_with fail
 refine (HR.out _).mono ?_;rintro e w2 ⟨rfl,hb2⟩;have HB2:Hid (Bel w2 ((w2.alloc (.cells #[.int .u8 tk,kc] 146)).alloc (.cells #[.int .u8 tk,SS,n,(0:Int),(0:Int),(0:Int)] 51))):=hid (((Bel.refl w2).alloc _).alloc _);have HS2:=hid ((HS1.out.bel hb2).bel HB2.out);have HX2:=hid ((HS1.out.bel hb2).kp HB2.out _ _ (HS1.out.kp hb2 _ _ HX1.out));have HK2:=hid ((HK1.out.on (HS1.out.kp hb2)).on ((HS1.out.bel hb2).kp HB2.out));have hx2:=HS1.out.kp hb2 _ _ HX1.out;obtain⟨x0,x1,x2,x3,x4,x5,x6,x7⟩:=box8 hx2.1;have hl2:w'.heap.size<w2.heap.size:=(Array.getElem?_eq_some_iff.1 hx2.1).1;clear hb2 hx2;go_wp2_with fail
 refine (HPU.out _ _ (w2.heap.size+1+1) HS2.out (by simp)).mono ?_;rintro e w4 ⟨rfl,hs4,hk4⟩;have HS4:=hid hs4;have HX4:=hid (hk4 _ _ HX2.out);have HK4:=hid (HK2.out.on hk4);clear x0 x1 x2 x3 x4 x5 x6 x7 hl2;obtain⟨x0,x1,x2,x3,x4,x5,x6,x7⟩:=box8 HX4.out.1;have hl4:w'.heap.size<w4.heap.size:=(Array.getElem?_eq_some_iff.1 HX4.out.1).1;clear hs4 hk4;go_wp2_with fail
 refine (HBR.out _ _ HS4.out).mono ?_;rintro e w5 ⟨rfl,hs5,hk5⟩;have HQ:Hid (WsQ w0 base wp xs W (pre++(T1::F1)) w (.returned (.tuple #[])) w5):=hid ⟨rfl,by
  have e:pre++(T1::F1)=pre++[T1]++F1:=by simp
  rw[e];exact hs5,HK4.out.on hk5⟩
 clear hs5 hk5 x0 x1 x2 x3 x4 x5 x6 x7;go_wp2_with fail
 go_end0
 exact HQ.out
end Go.Proofs.YtlmmaoobembadaaGreatDoor.Mu
