import Derived.Test.YtfpoelklhekfaaaGreatDoorQau
import Derived.Test.YtfpoelklhekfaaaGreatDoorQbe
import Derived.Test.YtfpoelklhekfaaaGreatDoorQbf
open Go.Lib (hid)
namespace Go.Proofs.YtfpoelklhekfaaaGreatDoor.Mu
set_option maxHeartbeats 2000000
open Go Go.RowKit Go.Shelf
attribute [local go_sem] Oper.semAt_some
set_option linter.unusedVariables false
set_option maxRecDepth 100000
theorem qfH(base wp:Nat)(w0:World)(hwp:w0.heap.size<=wp)(M:Nat):M<=1000000->PaC w0 base wp M:=by
 induction M with
 | zero=>intro _ k s n p A c kids xs W _ h;omega
 | succ M ih=>
  intro hM k s n p A c kids xs W hk hsz hW hw hx;have HS:=hid (Ws.start hW hw hx);have HR:Hid (∀ W,Calls Tryz.prog 120 #[.agg #[.int .u8 k,.string ⟨s.toArray⟩,n,p.a,p.l,p.c,.slice A kids.len c]] W fun e w'=>e=.returned (.tuple #[.agg #[.int .u8 (paR k).1,.int .i64 (paR k).2.1],.bool (paR k).2.2])/\Bel W w'):=hid fun W=>QT k s n p A kids.len c W;have HBR:Hid (∀ (pre:List Tn) (w:World),Ws w0 base wp xs W pre w->Calls Tryz.prog 142 #[.pointer (some ⟨wp,0,none⟩),.func (.func 143) #[] #[],.func (.func 121) #[.pointer (some ⟨wp,0,none⟩)] #[],.slice A kids.len c] w (WsQ w0 base wp xs W (pre++kids.brP) w)):=hid fun pre w h=>
   h.run fun r h1 h2 h3=>Jv base wp M r A kids.len c kids w0 w (ih (by omega)) hwp (RowX.old hk h1 hwp h2) (by omega) (by omega) h1 h2 h3
  obtain⟨tk,htk⟩:∃ t,t=(paR k).1:=⟨_,rfl⟩
  obtain⟨kc,hkc⟩:∃ t,t=(paR k).2.1:=⟨_,rfl⟩
  obtain⟨ok,hok⟩:∃ t,t=(paR k).2.2:=⟨_,rfl⟩
  have HPU:Hid (∀ (pre:List Tn) (w:World) (g:Nat),Ws w0 base wp xs W pre w->g=w.heap.size->Calls Tryz.prog 50 #[.pointer (some ⟨wp,0,none⟩),.slice (some ⟨g,0,none⟩) 1 1] (w.alloc (.cells #[.int .u8 tk,.string ⟨s.toArray⟩,.int .i64 n,.int .i64 0,.int .i64 0,.int .i64 0] 37)) (WsQ w0 base wp xs W (pre++[tk0 tk s n]) w)):=hid fun pre w g h hg=>h.put1g hwp tk s n 1 g hg;obtain⟨F,hF⟩:∃ F,F=qH k s n kids.patK:=⟨_,rfl⟩
  rw[<- hF];have HF:Hid (F=if k=2 then [tk0 5 [95] 0] else tk0 tk s n::kids.brP):=hid (by rw[hF,htk,<- Tr.brP_patK];rfl);rw[<- htk,<- hkc,<- hok]at HR;obtain⟨T1,hT1⟩:∃ T,T=tk0 tk s n:=⟨_,rfl⟩
  obtain⟨SS,hSS⟩:∃ S:ByteArray,S=⟨s.toArray⟩:=⟨_,rfl⟩
  obtain⟨l1,hl1⟩:∃ l,l=kids.len:=⟨_,rfl⟩
  rw[<- hSS,<- hl1]at HR;rw[<- hl1]at HBR;rw[<- hSS,<- hT1]at HPU;rw[<- hT1]at HF;rw[<- hSS,<- hl1];clear hk hsz hW hw hx ih htk hkc hok hF hT1 hSS hl1;have HS1:=hid (HS.out.bel ((Bel.refl W).alloc (.cells #[.int .u8 k,SS,n,p.a,p.l,p.c,.slice A l1 c] 111)));have HX1:=hid (HS.out.box (.cells #[.int .u8 k,SS,n,p.a,p.l,p.c,.slice A l1 c] 111));by_cases k2:k=2
  ·subst k2
   have hF2:F=[tk0 5 [95] 0]:=HF.out;clear HBR HPU HR HF;go_enter Tryz.func121,Tryz.ntmps121
   go_wp2_with fail
   refine (qd _ _).mono ?_;rintro e w2 ⟨rfl,hb2⟩;have HS2:=hid (HS1.out.bel hb2);clear hb2;unfold tokV;go_wp2_with fail
   refine (HS2.out.put1 hwp 5 [95] 0 _).mono ?_;rintro e w3 ⟨rfl,hs3,hk3⟩;have HQ:=hid (hs3.fin (F:=F) (by rw[hF2];rfl));clear hs3 hk3 hF2;go_wp2_with fail
   go_end0
   exact HQ.out
  have hF2:F=T1::kids.brP:=by rw[HF.out,if_neg k2]
  have HF2:=hid hF2;have d2:(k==2)=false:=by simpa using k2
  clear HF hF2;go_enter Tryz.func121,Tryz.ntmps121
  go_wp2_with fail
  refine (HR.out _).mono ?_;rintro e w2 ⟨rfl,hb2⟩;have HS2:=hid (HS1.out.bel hb2);have HX2:=hid (HS1.out.kp hb2 _ _ HX1.out);have HS3:=hid (HS2.out.bel ((Bel.refl w2).alloc (.cells #[.int .u8 tk,kc] 143)));have HX3:=hid (HS2.out.kp ((Bel.refl w2).alloc (.cells #[.int .u8 tk,kc] 143)) _ _ HX2.out);obtain⟨x0,x1,x2,x3,x4,x5,x6⟩:=box7 HX2.out.1;have hl2:W.heap.size<w2.heap.size:=(Array.getElem?_eq_some_iff.1 HX2.out.1).1;clear hb2;go_wp2_with fail
  refine (HPU.out _ _ _ HS3.out (by simp)).mono ?_;rintro e w4 ⟨rfl,hs4,hk4⟩;have HS4:=hid hs4;have HX4:=hid (hk4 _ _ HX3.out);clear x0 x1 x2 x3 x4 x5 x6 hl2;obtain⟨x0,x1,x2,x3,x4,x5,x6⟩:=box7 HX4.out.1;have hl4:W.heap.size<w4.heap.size:=(Array.getElem?_eq_some_iff.1 HX4.out.1).1;clear hs4 hk4;go_wp2_with fail
  refine (HBR.out _ _ HS4.out).mono ?_;rintro e w5 ⟨rfl,hs5,hk5⟩;have HQ:=hid (hs5.fin (F:=F) (by rw[HF2.out];simp));clear hs5 hk5 x0 x1 x2 x3 x4 x5 x6;go_wp2_with fail
  go_end0
  exact HQ.out
set_option maxHeartbeats 8000000
theorem zu(ka:Int)(sa:List UInt8)(na:Int)(pa:Pl)(kia ara:Tr):(Tr.nod ka sa na pa kia ara .nil).exK 0 []=qm ka sa na kia ara:=by
 rw[zF];simp[brkM,Tr.exK]
theorem QL{k:Int}{s:List UInt8}{n:Int}{p:Pl}{kids e:Tr}:∀ (f:Tr) (i:Nat),f.nth i=.arm k s n p kids e .nil->f.dropN i=.arm k s n p kids e (f.dropN (i+1))
 | .nil,i,h=>by cases i <;> simp[Tr.nth]at h
 | .arm _ _ _ _ _ _ r,0,h=>by
  simp only[Tr.nth,Tr.arm.injEq]at h;obtain⟨rfl,rfl,rfl,rfl,rfl,rfl,_⟩:=h;cases r <;> rfl
 | .nod _ _ _ _ _ _ r,0,h=>by simp[Tr.nth]at h
 | .nod _ _ _ _ _ _ r,i+1,h=>QL r i h
 | .arm _ _ _ _ _ _ r,i+1,h=>QL r i h
theorem qgE(k:Int)(s:List UInt8)(n:Int)(p:Pl)(kids e r:Tr)(md:Nat)(sep:List Tn):(Tr.arm k s n p kids e r).exK md sep=sep++qH k s n kids.patK++[jl]++e.exK 0 []++r.exK 0 [zQ]:=rfl
theorem Bx.put6{W:World}{wp k:Nat}{t:TypeId}{x0 x1 x2 x3 x4 x5:Value}(h:Bx W wp k (.cells #[x0,x1,x2,x3,x4,x5] t (0,0)))(y0 y1 y2 y3 y4 y5:Value) :
  Bx ((((((W.setCell ⟨k,0,none⟩ y0).setCell ⟨k,1,none⟩ y1).setCell ⟨k,2,none⟩ y2).setCell ⟨k,3,none⟩ y3).setCell ⟨k,4,none⟩ y4).setCell ⟨k,5,none⟩ y5) wp k (.cells #[y0,y1,y2,y3,y4,y5] t (0,0)):=by
 refine⟨jg h.1 _ _ _ _ _ _,h.2.1,fun v hv=>h.2.2 v ?_⟩;rw[<- hv];unfold World.cell?
 have e:∀ (w:World) (a:Addr) (v:Value),a.block=k->(w.setCell a v).heap[wp]?=w.heap[wp]?:=fun w a v ha=>Below.heap_setCell _ _ _ _ (by rw[ha];exact fun e=>h.2.1 e.symm);simp only[e _ ⟨k,_,none⟩ _ rfl]
theorem Ws.put6{w0:World}{base wp:Nat}{xs:List Tn}{W:World}{pre:List Tn}{w:World}{k:Nat}{t:TypeId}{x0 x1 x2 x3 x4 x5:Value}(h:Ws w0 base wp xs W pre w)(hk:Bx w wp k (.cells #[x0,x1,x2,x3,x4,x5] t (0,0)))(hW:W.heap.size<=k)(hw0:Bel w0 W)(y0 y1 y2 y3 y4 y5:Value) :
  Ws w0 base wp xs W pre ((((((w.setCell ⟨k,0,none⟩ y0).setCell ⟨k,1,none⟩ y1).setCell ⟨k,2,none⟩ y2).setCell ⟨k,3,none⟩ y3).setCell ⟨k,4,none⟩ y4).setCell ⟨k,5,none⟩ y5):=by
 have hs0:=hw0.size;have e:∀ (w:World) (a:Addr) (v:Value) (j:Nat),a.block=k->j≠k->(w.setCell a v).heap[j]?=w.heap[j]?:=fun w a v j ha hj=>Below.heap_setCell _ _ _ _ (by rw[ha];exact hj);have es:∀ (w:World) (a:Addr) (v:Value),(w.setCell a v).heap.size=w.heap.size:=fun w a v=>by simp[World.setCell]
 obtain⟨h1,⟨r,⟨q1,q2,A,n,c,q3,q4,q5⟩,h3,h4⟩,h5⟩:=h;have hkw:=hk.2.1;have c0:w.cell? ⟨wp,0,none⟩=some (.slice A n c):=by simp[World.cell?,q3]
 have hown:=hk.2.2 _ c0;have hk0:w0.heap.size<=k:=Nat.le_trans hs0 hW;refine⟨((((((h1.set_ hk0 _).set_ hk0 _).set_ hk0 _).set_ hk0 _).set_ hk0 _).set_ hk0 _),⟨r,⟨q1,by simp only[es];exact q2,A,n,c,?_,q4,q5.1,?_⟩,h3,h4⟩,?_⟩
 ·simp only[e _ ⟨k,_,none⟩ _ wp rfl (Ne.symm hkw)]
  exact q3
 ·rcases q5.2 with h0 | ⟨g,cap,cur,hv,hbg,hg,rest⟩
  ·exact .inl h0
  ·refine .inr ⟨g,cap,cur,hv,hbg,?_,rest⟩
   have hgk:g≠k:=fun e=>hown (by cases hv;rw[<- e];rfl);simp only[e _ ⟨k,_,none⟩ _ g rfl hgk];exact hg
 ·intro j o hj
  have hjl:j<W.heap.size:=(Array.getElem?_eq_some_iff.1 hj.1).1;have hjk:j≠k:=by omega
  obtain⟨p1,p2,p3⟩:=h5 j o hj;refine⟨?_,p2,fun v hv=>p3 v ?_⟩
  ·simp only[e _ ⟨k,_,none⟩ _ j rfl hjk]
   exact p1
  ·rw[<- hv]
   unfold World.cell?
   simp only[e _ ⟨k,_,none⟩ _ wp rfl (Ne.symm hkw)]
theorem qhH{w:World}{g:Nat}{t:TypeId}{x0 x1 x2 x3 x4 x5 x6 x7 x8 x9 x10 x11 x12 x13 x14:Value}(h:w.heap[g]?=some (.cells #[x0,x1,x2,x3,x4,x5,x6,x7,x8,x9,x10,x11,x12,x13,x14] t (0,0))) :
  (w.cell? ⟨g,0,none⟩=some x0/\w.cell? ⟨g,1,none⟩=some x1/\w.cell? ⟨g,2,none⟩=some x2/\w.cell? ⟨g,3,none⟩=some x3/\w.cell? ⟨g,4,none⟩=some x4/\w.cell? ⟨g,5,none⟩=some x5/\w.cell? ⟨g,6,none⟩=some x6)/\w.cell? ⟨g,7,none⟩=some x7/\w.cell? ⟨g,8,none⟩=some x8/\w.cell? ⟨g,9,none⟩=some x9/\w.cell? ⟨g,10,none⟩=some x10/\w.cell? ⟨g,11,none⟩=some x11/\w.cell? ⟨g,12,none⟩=some x12/\w.cell? ⟨g,13,none⟩=some x13/\w.cell? ⟨g,14,none⟩=some x14:=by
 simp[World.cell?,h]
theorem qcq(base wp M:Nat)(hM:M<=1000000)(w0:World)(hwp:w0.heap.size<=wp)(hC:ExC w0 base wp M)(hP:PaC w0 base wp 1000000)(k:Int)(s:List UInt8)(n:Int)(p:Pl)(A:Option Addr)(l c:Nat)(B:Option Addr)(m bc:Nat)(kids arms:Tr)(hk:KidsTr w0 (OldT w0) .ex A l c kids)(ha:KidsTr w0 (OldT w0) .arms B m bc arms)(hl1:l=1)(hsz:kids.size+arms.size<=M)(hsh:kids.shp)(hsa:arms.shp)
  (xs:List Tn) (W:World) (hW:Bel w0 W) (hw:Wri W base wp xs) (hx:xs.length<=5000) :
  Calls Tryz.prog 81 #[.pointer (some ⟨wp,0,none⟩),.agg #[.int .u8 k,.string ⟨s.toArray⟩,.int .i64 n,.int .i64 p.a,.int .i64 p.l,.int .i64 p.c,.slice A l c,.slice B m bc]] W (WrQ w0 base wp xs (zy::kids.exK 0 []++[kwOf]++arms.exK 0 [kwOpen]++[kwClose]) W):=by
 have HS:=hid (Ws.start hW hw hx);have HWW:=hid hW;obtain⟨b,o,ka,sa,na,pa,kia,ara,A1,c1,B1,d1,rfl,rfl,hlt,hc1,hk1,ha1⟩:=qbk (by intro e;cases e) hk hl1;have ha1':KidsTr w0 (OldT w0) .arms B1 ara.len d1 ara:=by
  rcases ha1 with h | ⟨h | h,_⟩
  ·exact h.2
  ·cases h
  ·cases h
 rw[zu];simp only[Tr.size]at hsz;have HP1:=hid fun xs' W'=>hC ka sa na pa A1 c1 B1 d1 kia ara xs' W' hk1 ha1' (by simp only[Tr.size];omega) hsh;have HCX:=hid hC;have HCP:=hid hP;have HAR:Hid (∀ (pre:List Tn) (w:World),Ws w0 base wp xs W pre w->RowX w0 w wp .arms B m arms):=hid fun pre w h=>ha.old hwp h;have HAL:Hid (m=arms.len):=hid ha.1;have HAZ:Hid (arms.size<=M/\arms.shp):=hid ⟨by omega,hsa⟩;have hm:m<=1000000:=by have:=ha.1;have:=arms.len_le;omega
 have HCC1:=hid hc1;obtain⟨SS,hSS⟩:∃ S:ByteArray,S=⟨s.toArray⟩:=⟨_,rfl⟩
 obtain⟨SA,hSA⟩:∃ S:ByteArray,S=⟨sa.toArray⟩:=⟨_,rfl⟩
 obtain⟨F1,hF1⟩:∃ F,F=qm ka sa na kia ara:=⟨_,rfl⟩
 obtain⟨l1,hl1'⟩:∃ l,l=kia.len:=⟨_,rfl⟩
 obtain⟨m1,hm1⟩:∃ l,l=ara.len:=⟨_,rfl⟩
 rw[<- hl1',<- hm1]at HCC1;rw[<- hSA,<- hF1,<- hl1',<- hm1]at HP1;rw[<- hSS,<- hF1,hl1];obtain⟨G,hG⟩:∃ G,G=zy::F1++[kwOf]++arms.exK 0 [kwOpen]:=⟨_,rfl⟩
 rw[<- hG];have HG:=hid hG;have HSA:=hid hSA;clear hG hk ha hsz hsh hsa hC hP hc1 hk1 ha1 ha1' hlt hSS hSA hF1 hl1 hl1' hm1 hW hw hx;have HS1:=hid (HS.out.bel ((Bel.refl W).alloc (.cells #[.int .u8 k,SS,n,p.a,p.l,p.c,.slice (some ⟨b,o,none⟩) 1 c,.slice B m bc] 43)));have HX1:=hid (HS.out.box (.cells #[.int .u8 k,SS,n,p.a,p.l,p.c,.slice (some ⟨b,o,none⟩) 1 c,.slice B m bc] 43));go_enter Tryz.func81,Tryz.ntmps81
 go_wp2_with fail
 refine (qd _ _).mono ?_;rintro e w2 ⟨rfl,hb2⟩;have HS2:=hid (HS1.out.bel hb2);have HX2:=hid (HS1.out.kp hb2 _ _ HX1.out);clear hb2;unfold tokV;go_wp2_with fail
 refine (HS2.out.put1 hwp 5 [99,97,115,101] 0 _).mono ?_;rintro e w3 ⟨rfl,hs3,hk3⟩;have HS3:=hid hs3;have HX3:=hid (hk3 _ _ HX2.out);obtain⟨x0,x1,x2,x3,x4,x5,x6,x7⟩:=box8 HX3.out.1;have hl3:W.heap.size<w3.heap.size:=(Array.getElem?_eq_some_iff.1 HX3.out.1).1;have y0:=HCC1.out _ HS3.out.1 0 _ rfl;have y1:=HCC1.out _ HS3.out.1 1 _ rfl;have y2:=HCC1.out _ HS3.out.1 2 _ rfl;have y3:=HCC1.out _ HS3.out.1 3 _ rfl;have y4:=HCC1.out _ HS3.out.1 4 _ rfl;have y5:=HCC1.out _ HS3.out.1 5 _ rfl;have y6:=HCC1.out _ HS3.out.1 6 _ rfl;have y7:=HCC1.out _ HS3.out.1 7 _ rfl;simp only[Sh.kd,Nat.add_zero]at y0 y1 y2 y3 y4 y5 y6 y7;rw[<- HSA.out]at y1;clear hs3 hk3;go_wp2_with fail
 refine (HS3.out.run fun r h1 h2 h3=>HP1.out r w3 h1 h2 h3).mono ?_;rintro e w4 ⟨rfl,hs4,hk4⟩;have HS4:=hid hs4;have HX4:=hid (hk4 _ _ HX3.out);clear hs4 hk4 y0 y1 y2 y3 y4 y5 y6 y7 x0 x1 x2 x3 x4 x5 x6 x7 hl3;go_wp2_with fail
 refine (qd _ _).mono ?_;rintro e w5 ⟨rfl,hb5⟩;have HS5:=hid (HS4.out.bel hb5);have HX5:=hid (HS4.out.kp hb5 _ _ HX4.out);clear hb5;unfold tokV;go_wp2_with fail
 refine (HS5.out.put1 hwp 5 [111,102] 0 _).mono ?_;rintro e w6 ⟨rfl,hs6,hk6⟩;have HS6:=hid hs6;have HX6:=hid (hk6 _ _ HX5.out);clear hs6 hk6;go_wp2_with fail
 refine (qd _ _).mono ?_;rintro e w7 ⟨rfl,hb7⟩;have hs7:=HS6.out.bel hb7;have hx7:=HS6.out.kp hb7 _ _ HX6.out;have hb8:Bel w7 (w7.alloc (.cells #[.int .u8 5,.string ⟨#[123]⟩,(0:Int),(0:Int),(0:Int),(0:Int)] 37)):=(Bel.refl w7).alloc _;have hs8:=hs7.bel hb8;have hx8:=hs7.kp hb8 _ _ hx7;have hA8:=hs7.box (.cells #[.int .u8 5,.string ⟨[123].toArray⟩,(0:Int),(0:Int),(0:Int),(0:Int)] 37);obtain⟨x0,x1,x2,x3,x4,x5,x6,x7⟩:=box8 hx7.1;have hl7:W.heap.size<w7.heap.size:=(Array.getElem?_eq_some_iff.1 hx7.1).1;have HI:Hid (∃ pre sj,Ws w0 base wp xs W pre (w7.alloc (.cells #[.int .u8 5,.string ⟨#[123]⟩,(0:Int),(0:Int),(0:Int),(0:Int)] 37))/\Bx (w7.alloc (.cells #[.int .u8 5,.string ⟨#[123]⟩,(0:Int),(0:Int),(0:Int),(0:Int)] 37)) wp w7.heap.size (.cells #[.int .u8 5,.string ⟨List.toArray sj⟩,(0:Int),(0:Int),(0:Int),(0:Int)] 37)/\pre++(arms.dropN 0).exK 0 [tk0 5 sj 0]=G):=hid ⟨_,[123],hs8,hA8,by
  have e:arms.dropN 0=arms:=by cases arms <;> rfl
  rw[e,HG.out];rfl⟩
 have HWL:Hid (W.heap.size<=w7.heap.size):=hid (Nat.le_of_lt hl7);clear hb7 hs7 hx7 hb8 hs8 hx8 hA8 HS1 HS2 HS3 HS4 HS5 HS6 HX1 HX2 HX3 HX4 HX5 HX6;unfold tokV;go_wp2_with fail
 go_loopw [25] (fun i wr=>∃ j:Nat,j<=m/\i=.int .i64 (j:Int)/\Hid (∃ pre sj,Ws w0 base wp xs W pre wr/\Bx wr wp w7.heap.size (.cells #[.int .u8 5,.string ⟨List.toArray sj⟩,(0:Int),(0:Int),(0:Int),(0:Int)] 37)/\pre++(arms.dropN j).exK 0 [tk0 5 sj 0]=G)) (fun i _=>m-(intOf i).toNat)
 case atStart=>exact⟨0,Nat.zero_le _,rfl,HI⟩
 case round=>
  obtain⟨j,hj,rfl,HR⟩:=hrel;obtain⟨pre,sj,hws,hbx,hpre⟩:=HR.out;by_cases hlt:j<m
  ·obtain⟨ub,uo,k',s',n',p',kd,k2,s2,n2,p2,kids2,arms2,A3,c3,A4,c4,B4,bc4,eB,⟨uob,hub⟩,hnth,hcp,hce,hkp,hke,hka⟩:=(HAR.out pre wr hws).arm hws.1 hlt
   subst eB;have hns:1+kd.size+(1+kids2.size+arms2.size)<=M:=by
    have h1:=arms.nth_size j;rw[hnth]at h1;simp only[Tr.size]at h1;have:=HAZ.out.1;omega
   have hnp:(Tr.nod k2 s2 n2 p2 kids2 arms2 .nil).shp:=by
    have:=arms.nth_shp j HAZ.out.2;rw[hnth]at this;exact this.1
   have hdr:(arms.dropN j).exK 0 [tk0 5 sj 0]=[tk0 5 sj 0]++qH k' s' n' kd.patK++[jl]++qm k2 s2 n2 kids2 arms2++(arms.dropN (j+1)).exK 0 [zQ]:=by rw[QL arms j hnth,qgE,zu]
   have HPC:=hid fun xs' W'=>HCP.out k' s' n' p' A3 c3 kd xs' W' hkp (by omega);have HEC:=hid fun xs' W'=>HCX.out k2 s2 n2 p2 A4 c4 B4 bc4 kids2 arms2 xs' W' hke hka (by simp only[Tr.size];omega) hnp;have HPU:Hid (∀ (pre:List Tn) (w:World) (g:Nat),Ws w0 base wp xs W pre w->g=w.heap.size->Calls Tryz.prog 50 #[.pointer (some ⟨wp,0,none⟩),.slice (some ⟨g,0,none⟩) 1 1] (w.alloc (.cells #[.int .u8 5,.string ⟨sj.toArray⟩,.int .i64 0,.int .i64 0,.int .i64 0,.int .i64 0] 37)) (WsQ w0 base wp xs W (pre++[tk0 5 sj 0]) w)):=hid fun pre w g h hg=>h.put1g hwp 5 sj 0 1 g hg;have y0:=hcp 0 _ rfl;have y1:=hcp 1 _ rfl;have y2:=hcp 2 _ rfl;have y3:=hcp 3 _ rfl;have y4:=hcp 4 _ rfl;have y5:=hcp 5 _ rfl;have y6:=hcp 6 _ rfl;have z0:wr.cell? ⟨ub,uo+j*15+7,none⟩=_:=hce 0 _ rfl;have z1:wr.cell? ⟨ub,uo+j*15+8,none⟩=_:=hce 1 _ rfl;have z2:wr.cell? ⟨ub,uo+j*15+9,none⟩=_:=hce 2 _ rfl;have z3:wr.cell? ⟨ub,uo+j*15+10,none⟩=_:=hce 3 _ rfl;have z4:wr.cell? ⟨ub,uo+j*15+11,none⟩=_:=hce 4 _ rfl;have z5:wr.cell? ⟨ub,uo+j*15+12,none⟩=_:=hce 5 _ rfl;have z6:wr.cell? ⟨ub,uo+j*15+13,none⟩=_:=hce 6 _ rfl;have z7:wr.cell? ⟨ub,uo+j*15+14,none⟩=_:=hce 7 _ rfl;simp only[Sh.kd,Nat.add_zero]at y0 y1 y2 y3 y4 y5 y6 z0 z1 z2 z3 z4 z5 z6 z7;obtain⟨SP,hSP⟩:∃ S:ByteArray,S=⟨s'.toArray⟩:=⟨_,rfl⟩
   obtain⟨SE,hSE⟩:∃ S:ByteArray,S=⟨s2.toArray⟩:=⟨_,rfl⟩
   obtain⟨SJ,hSJ⟩:∃ S:ByteArray,S=⟨sj.toArray⟩:=⟨_,rfl⟩
   obtain⟨FP,hFP⟩:∃ F,F=qH k' s' n' kd.patK:=⟨_,rfl⟩
   obtain⟨FE,hFE⟩:∃ F,F=qm k2 s2 n2 kids2 arms2:=⟨_,rfl⟩
   obtain⟨l3,hl3⟩:∃ l,l=kd.len:=⟨_,rfl⟩
   obtain⟨l4,hl4⟩:∃ l,l=kids2.len:=⟨_,rfl⟩
   obtain⟨m4,hm4⟩:∃ l,l=arms2.len:=⟨_,rfl⟩
   rw[hdr,<- hFP,<- hFE]at hpre;rw[<- hSP,<- hFP,<- hl3]at HPC;rw[<- hSE,<- hFE,<- hl4,<- hm4]at HEC;rw[<- hSJ]at HPU hbx;rw[<- hSP]at y1;rw[<- hl3]at y6;rw[<- hSE]at z1;rw[<- hl4]at z6;rw[<- hm4]at z7;have HPRE:=hid hpre;have HWSR:=hid hws;have HB1:Hid (Bel wr (wr.alloc (.cells #[.int .u8 k',SP,n',p'.a,p'.l,p'.c,.slice A3 l3 c3,.int .u8 k2,SE,n2,p2.a,p2.l,p2.c,.slice A4 l4 c4,.slice B4 m4 bc4] 113))):=hid ((Bel.refl wr).alloc _);have HS1:=hid (hws.bel HB1.out);have HX1:=hid (hws.box (.cells #[.int .u8 k',SP,n',p'.a,p'.l,p'.c,.slice A3 l3 c3,.int .u8 k2,SE,n2,p2.a,p2.l,p2.c,.slice A4 l4 c4,.slice B4 m4 bc4] 113));have HA1:=hid (hws.kp HB1.out _ _ hbx);obtain⟨a0,a1,a2,a3,a4,a5⟩:=(jq hbx.1).1;have hab:w7.heap.size<wr.heap.size:=(Array.getElem?_eq_some_iff.1 hbx.1).1;have hob':ub<wr.heap.size:=(Array.getElem?_eq_some_iff.1 hub.1).1;have i1:(0:Int)<=(j:Int):=by omega
   have i2:(j:Int)<(m:Int):=by omega
   have HLT:=hid hlt;clear hcp hce hkp hke hka hns hnp hdr hpre hSP hSE hSJ hFP hFE hl3 hl4 hm4 hnth hub hws hbx HR;go_wp2_with fail
   refine (HPU.out _ _ (wr.heap.size+1) HS1.out (by simp)).mono ?_;rintro e w2 ⟨rfl,hs2,hk2⟩;have HS2:=hid hs2;have HX2:=hid (hk2 _ _ HX1.out);have HA2:=hid (hk2 _ _ HA1.out);obtain⟨x0,x1,x2,x3,x4,x5,x6⟩:=(qhH HX2.out.1).1;have hl2:wr.heap.size<w2.heap.size:=(Array.getElem?_eq_some_iff.1 HX2.out.1).1;clear hs2 hk2 y0 y1 y2 y3 y4 y5 y6 z0 z1 z2 z3 z4 z5 z6 z7 a0 a1 a2 a3 a4 a5 hob' HPU HS1 HX1 HA1;go_wp2_with fail
   refine (HS2.out.run fun r h1 h2 h3=>HPC.out r w2 h1 h2 h3).mono ?_;rintro e w3 ⟨rfl,hs3,hk3⟩;have HS3:=hid hs3;have HX3:=hid (hk3 _ _ HX2.out);have HA3:=hid (hk3 _ _ HA2.out);clear hs3 hk3 x0 x1 x2 x3 x4 x5 x6 hl2 HPC HS2 HX2 HA2;go_wp2_with fail
   refine (qd _ _).mono ?_;rintro e w4 ⟨rfl,hb4⟩;have HS4:=hid (HS3.out.bel hb4);have HX4:=hid (HS3.out.kp hb4 _ _ HX3.out);have HA4:=hid (HS3.out.kp hb4 _ _ HA3.out);clear hb4 HS3 HX3 HA3;unfold tokV;go_wp2_with fail
   refine (HS4.out.put1 hwp 5 [45,62] 0 _).mono ?_;rintro e w5 ⟨rfl,hs5,hk5⟩;have HS5:=hid hs5;have HX5:=hid (hk5 _ _ HX4.out);have HA5:=hid (hk5 _ _ HA4.out);obtain⟨x7,x8,x9,x10,x11,x12,x13,x14⟩:=(qhH HX5.out.1).2;have hl5:wr.heap.size<w5.heap.size:=(Array.getElem?_eq_some_iff.1 HX5.out.1).1;clear hs5 hk5 HS4 HX4 HA4;go_wp2_with fail
   refine (HS5.out.run fun r h1 h2 h3=>HEC.out r w5 h1 h2 h3).mono ?_;rintro e w6 ⟨rfl,hs6,hk6⟩;have HS6:=hid hs6;have HA6:=hid (hk6 _ _ HA5.out);clear hs6 hk6 x7 x8 x9 x10 x11 x12 x13 x14 hl5 HEC HS5 HX5 HA5;go_wp2_with fail
   refine (qd _ _).mono ?_;rintro e w8 ⟨rfl,hb8⟩;have HS8:=hid (HS6.out.bel hb8);have HA8:=hid (HS6.out.kp hb8 _ _ HA6.out);obtain⟨⟨a0,a1,a2,a3,a4,a5⟩,f0,f1,f2,f3,f4,f5⟩:=jq HA8.out.1;have hl8:w7.heap.size<w8.heap.size:=(Array.getElem?_eq_some_iff.1 HA8.out.1).1;have HR':Hid (∃ pre sj,Ws w0 base wp xs W pre ((((((w8.setCell ⟨w7.heap.size,0,none⟩ (.int .u8 5)).setCell ⟨w7.heap.size,1,none⟩ (.string ⟨#[59]⟩)).setCell ⟨w7.heap.size,2,none⟩ (.int .i64 0)).setCell ⟨w7.heap.size,3,none⟩ (.int .i64 0)).setCell ⟨w7.heap.size,4,none⟩ (.int .i64 0)).setCell ⟨w7.heap.size,5,none⟩ (.int .i64 0))/\Bx ((((((w8.setCell ⟨w7.heap.size,0,none⟩ (.int .u8 5)).setCell ⟨w7.heap.size,1,none⟩ (.string ⟨#[59]⟩)).setCell ⟨w7.heap.size,2,none⟩ (.int .i64 0)).setCell ⟨w7.heap.size,3,none⟩ (.int .i64 0)).setCell ⟨w7.heap.size,4,none⟩ (.int .i64 0)).setCell ⟨w7.heap.size,5,none⟩ (.int .i64 0)) wp w7.heap.size (.cells #[.int .u8 5,.string ⟨List.toArray sj⟩,(0:Int),(0:Int),(0:Int),(0:Int)] 37)/\pre++(arms.dropN (j+1)).exK 0 [tk0 5 sj 0]=G):=hid ⟨_,[59],HS8.out.put6 HA8.out HWL.out HWW.out _ _ _ _ _ _,HA8.out.put6 _ _ _ _ _ _,by
    rw[<- HPRE.out];simp only[List.append_assoc];rfl⟩
   clear hb8 HS6 HA6 HS8 HA8;unfold tokV;go_wp2_with fail
   go_roundw
   case rel=>exact⟨j+1,HLT.out,by go_num,HR'⟩
   case measure=>have:=HLT.out;simp[intOf];omega
  ·obtain rfl:j=m:=by omega
   rw[Tr.dropN_all arms j (by rw[<- HAL.out];exact Nat.le_refl _)]at hpre;have hG:pre=G:=by rw[<- hpre];simp[Tr.exK]
   have HQ0:=hid hws;clear hws hbx hpre;go_wp2_with fail
   refine (qd _ _).mono ?_;rintro e w8 ⟨rfl,hb8⟩;have HS8:=hid (HQ0.out.bel hb8);clear hb8;unfold tokV;go_wp2_with fail
   refine (HS8.out.put1 hwp 5 [125] 0 _).mono ?_;rintro e w9 ⟨rfl,hs9,hk9⟩;have HQ:=hid (hs9.fin (F:=G++[kwClose]) (by rw[hG];rfl));clear hs9 hk9 hG;go_wp2_with fail
   go_end0
   exact HQ.out
set_option maxHeartbeats 16000000
def fdsK:List Fd->List Tn
 | []=>[]
 | f::fs=>qI f.m::brkL (alnT f.k f.kids.len) (zm f.k f.s f.n f.kids)++fdsK fs
def Qq(ah:List UInt8):List Cd->List Tn
 | []=>[]
 | c::cs=>tk0 5 ah 0::tk0 2 c.nm 0::fdsK c.fs++Qq [124] cs
def psK:List (List UInt8)->List Tn
 | []=>[]
 | s::ps=>tk0 1 s 0::psK ps
def qeK(nm:List UInt8)(ps:List (List UInt8))(cs:List Cd):List Tn:=tk0 5 [100,97,116,97] 0::tk0 2 nm 0::psK ps++Qq [61] cs
theorem qfg{ps:List (List UInt8)}{j:Nat}{x:List UInt8}(h:ps[j]?=some x):psK (ps.drop j)=tk0 1 x 0::psK (ps.drop (j+1)):=by
 obtain⟨h1,h2⟩:=List.getElem?_eq_some_iff.1 h;rw[List.drop_eq_getElem_cons h1,h2];rfl
theorem qbR{cs:List Cd}{j:Nat}{x:Cd}{ah:List UInt8}(h:cs[j]?=some x):Qq ah (cs.drop j)=tk0 5 ah 0::tk0 2 x.nm 0::fdsK x.fs++Qq [124] (cs.drop (j+1)):=by
 obtain⟨h1,h2⟩:=List.getElem?_eq_some_iff.1 h;rw[List.drop_eq_getElem_cons h1,h2];rfl
theorem qcT{fs:List Fd}{j:Nat}{x:Fd}(h:fs[j]?=some x):fdsK (fs.drop j)=qI x.m::brkL (alnT x.k x.kids.len) (zm x.k x.s x.n x.kids)++fdsK (fs.drop (j+1)):=by
 obtain⟨h1,h2⟩:=List.getElem?_eq_some_iff.1 h;rw[List.drop_eq_getElem_cons h1,h2];rfl
theorem qc9(m:Int):qbl m=.agg #[.int .u8 (qI m).k,.string ⟨(qI m).s.toArray⟩,.int .i64 (qI m).n,(0:Int),(0:Int),(0:Int)]/\tk0 (qI m).k (qI m).s (qI m).n=qI m:=by
 unfold qbl qI;split
 ·exact⟨rfl,rfl⟩
 split
 ·exact⟨rfl,rfl⟩
 ·exact⟨rfl,rfl⟩
theorem qfN{w:World}{g:Nat}{t:TypeId}{x0 x1 x2 x3 x4 x5 x6 x7:Value}(h:w.heap[g]?=some (.cells #[x0,x1,x2,x3,x4,x5,x6,x7] t (0,0))) :
  w.cell? ⟨g,0,none⟩=some x0/\w.cell? ⟨g,1,none⟩=some x1/\w.cell? ⟨g,2,none⟩=some x2/\w.cell? ⟨g,3,none⟩=some x3/\w.cell? ⟨g,4,none⟩=some x4/\w.cell? ⟨g,5,none⟩=some x5/\w.cell? ⟨g,6,none⟩=some x6/\w.cell? ⟨g,7,none⟩=some x7:=by
 simp[World.cell?,h]
theorem qiu{w:World}{g:Nat}{t:TypeId}{x0 x1 x2 x3 x4:Value}(h:w.heap[g]?=some (.cells #[x0,x1,x2,x3,x4] t (0,0))):w.cell? ⟨g,4,none⟩=some x4:=by
 simp[World.cell?,h]
def Fd.shw(x:Fd):Prop:=1+x.kids.size<=1000000/\x.tr.shpT
def Cd.shw(x:Cd):Prop:=x.fs.length<=1000000/\∀ f∈x.fs,f.shw
theorem qex(base wp:Nat)(w0:World)(hwp:w0.heap.size<=wp)(kd:Int)(nm:List UInt8)(q:Pl)(PA:Option Addr)(pl pc:Nat)(ps:List (List UInt8))(CA:Option Addr)(cl cc:Nat)(cs:List Cd)(rc:Bool)(k:Int)(S:ByteArray)(n:Int)(p:Pl)(A:Option Addr)(kl c:Nat)(B:Option Addr)(al bc:Nat)
  (hp:RowOf 1 SAt w0 (OldT w0) PA pl pc ps) (hc:RowOf 5 CdAt w0 (OldT w0) CA cl cc cs) (hpl:pl<=1100000) (hcl:cl<=1000000) (hsh:∀ x∈cs,x.shw) (xs:List Tn) (W:World) (hW:Bel w0 W) (hw:Wri W base wp xs) (hx:xs.length<=5000) :
  Calls Tryz.prog 49 #[.pointer (some ⟨wp,0,none⟩),.agg #[.int .u8 kd,.string ⟨nm.toArray⟩,q.a,q.l,q.c,.slice PA pl pc,.slice CA cl cc,.bool rc,.int .u8 k,S,n,p.a,p.l,p.c,.slice A kl c,.slice B al bc]] W (WrQ w0 base wp xs (qeK nm ps cs) W):=by
 have HS:=hid (Ws.start hW hw hx);have HWW:=hid hW;have HP:=hid hp;have HC:=hid hc;have HPL:Hid (pl=ps.length):=hid hp.1;have HCL:Hid (cl=cs.length):=hid hc.1;have HSH:=hid hsh;have HTY:Hid (TyC w0 base wp 1000000):=hid (qht base wp w0 hwp 1000000 (Nat.le_refl _));obtain⟨NM,hNM⟩:∃ S:ByteArray,S=⟨nm.toArray⟩:=⟨_,rfl⟩
 obtain⟨T0,hT0⟩:∃ T,T=tk0 2 nm 0:=⟨_,rfl⟩
 have HPU:Hid (∀ (pre:List Tn) (w:World) (g:Nat),Ws w0 base wp xs W pre w->w.heap[g]?=some (.cells #[.int .u8 5,.string ⟨#[100,97,116,97]⟩,.int .i64 0,.int .i64 0,.int .i64 0,.int .i64 0,.int .u8 2,.string NM,.int .i64 0,.int .i64 0,.int .i64 0,.int .i64 0] 37 (0,0))->Calls Tryz.prog 50 #[.pointer (some ⟨wp,0,none⟩),.slice (some ⟨g,0,none⟩) 2 2] w (WsQ w0 base wp xs W (pre++[tk0 5 [100,97,116,97] 0,T0]) w)):=hid fun pre w g h hg=>by
  rw[hT0];rw[hNM]at hg;exact h.run fun r h1 h2 h3=>qcs base wp r [tk0 5 [100,97,116,97] 0,tk0 2 nm 0] g 2 _ w0 w w h1 hwp h2 (Bel.refl _) h3 (by simp) (by simp) hg (qT _)
 obtain⟨F,hF⟩:∃ F,F=qeK nm ps cs:=⟨_,rfl⟩
 rw[<- hF];have HF:Hid (F=tk0 5 [100,97,116,97] 0::T0::psK ps++Qq [61] cs):=hid (by rw[hF,hT0];rfl);rw[<- hNM];clear hp hc hsh hW hw hx hNM hT0 hF;have HB1:Hid (Bel W (W.alloc (.cells #[.int .u8 kd,NM,q.a,q.l,q.c,.slice PA pl pc,.slice CA cl cc,.bool rc,.int .u8 k,S,n,p.a,p.l,p.c,.slice A kl c,.slice B al bc] 59))):=hid ((Bel.refl W).alloc _);have HS1:=hid (HS.out.bel HB1.out);have HX1:=hid (HS.out.box (.cells #[.int .u8 kd,NM,q.a,q.l,q.c,.slice PA pl pc,.slice CA cl cc,.bool rc,.int .u8 k,S,n,p.a,p.l,p.c,.slice A kl c,.slice B al bc] 59));go_enter Tryz.func49,Tryz.ntmps49
 go_wp2_with fail
 refine qdK wp W.heap.size NM (.int .u8 kd) (.int .i64 q.a) (.int .i64 q.l) (.int .i64 q.c) (.slice PA pl pc) (.slice CA cl cc) (.bool rc) (.int .u8 k) (.string S) (.int .i64 n) (.int .i64 p.a) (.int .i64 p.l) (.int .i64 p.c) (.slice A kl c) (.slice B al bc) _ _ _ _ _ _ _ _ _ _ _ _ _ _ _ _ _ _ _ _ _ _ _ _ _ _ _ _ _ _ _ _ _ _ _ _ _ _ _ _ _ _ _ _ _ _ _ _ _ _ _ _ _ _ _ _ _ _ _ _ _ _ _ _ _ _ _ _ (W.alloc (.cells #[.int .u8 kd,NM,q.a,q.l,q.c,.slice PA pl pc,.slice CA cl cc,.bool rc,.int .u8 k,S,n,p.a,p.l,p.c,.slice A kl c,.slice B al bc] 59)) HX1.out.1 _ ?_;intro V w2 hb2 hv0 ⟨g,hv5,hg⟩;simp only[regWd,List.drop_succ_cons,List.drop_zero,qgd,hv0,hv5];have HS2:=hid (HS1.out.bel ((Bel.refl _).drew.on hb2));have HX2:=hid (HS1.out.kp ((Bel.refl _).drew.on hb2) _ _ HX1.out);have HG2:=hid hg;clear hb2 hv0 hv5 hg;go_wp2_with fail
 refine (HPU.out _ _ g HS2.out HG2.out).mono ?_;rintro e w3 ⟨rfl,hs3,hk3⟩;have HS3:=hid hs3;have HX3:=hid (hk3 _ _ HX2.out);have hx5:=(Zz HX3.out.1).2;have hl3:W.heap.size<w3.heap.size:=(Array.getElem?_eq_some_iff.1 HX3.out.1).1;obtain⟨G,hG⟩:∃ G,G=tk0 5 [100,97,116,97] 0::T0::psK ps:=⟨_,rfl⟩
 have HG:=hid hG;have HI:Hid (∃ pre,Ws w0 base wp xs W pre w3/\Bx w3 wp W.heap.size (.cells #[.int .u8 kd,NM,q.a,q.l,q.c,.slice PA pl pc,.slice CA cl cc,.bool rc,.int .u8 k,S,n,p.a,p.l,p.c,.slice A kl c,.slice B al bc] 59 (0,0))/\pre++psK (ps.drop 0)=G):=hid ⟨_,HS3.out,HX3.out,by rw[HG.out];rfl⟩;clear hs3 hk3 hG HS1 HS2 HS3 HX1 HX2 HX3;go_wp2_with fail
 go_loopw [21] (fun i wr=>∃ j:Nat,j<=pl/\i=.int .i64 (j:Int)/\Hid (∃ pre,Ws w0 base wp xs W pre wr/\Bx wr wp W.heap.size (.cells #[.int .u8 kd,NM,q.a,q.l,q.c,.slice PA pl pc,.slice CA cl cc,.bool rc,.int .u8 k,S,n,p.a,p.l,p.c,.slice A kl c,.slice B al bc] 59 (0,0))/\pre++psK (ps.drop j)=G)) (fun i _=>pl-(intOf i).toNat)
 case atStart=>exact⟨0,Nat.zero_le _,rfl,HI⟩
 case round=>
  obtain⟨j,hj,rfl,HR⟩:=hrel;obtain⟨pre,hws,hbx,hpre⟩:=HR.out;by_cases hlt:j<pl
  ·obtain⟨ub,uo,eA,hob,hfo⟩:=(HP.out.keep jz (fun j hj=>hws.1.block j hj) (fun _ h=>h)).2.2 (by omega)
   subst eA;obtain⟨x,hx⟩:∃ x,ps[j]?=some x:=⟨_,List.getElem?_eq_getElem (by rw[<- HPL.out];exact hlt)⟩
   have y0:wr.cell? ⟨ub,uo+j,none⟩=some (.string ⟨x.toArray⟩):=by
    have:=hfo j x hx;unfold SAt at this;rwa [Nat.mul_one]at this
   rw[qfg hx]at hpre;have HPN:Hid (∀ (w:World) (g:Nat),Ws w0 base wp xs W pre w->g=w.heap.size->Calls Tryz.prog 50 #[.pointer (some ⟨wp,0,none⟩),.slice (some ⟨g,0,none⟩) 1 1] (w.alloc (.cells #[.int .u8 1,.string ⟨x.toArray⟩,.int .i64 0,.int .i64 0,.int .i64 0,.int .i64 0] 37)) (WsQ w0 base wp xs W (pre++[tk0 1 x 0]) w)):=hid fun w g h hg=>h.put1g hwp 1 x 0 1 g hg;obtain⟨SX,hSX⟩:∃ S:ByteArray,S=⟨x.toArray⟩:=⟨_,rfl⟩
   rw[<- hSX]at y0 HPN;have HS1:=hid hws;have HX1:=hid hbx;have HPRE:=hid hpre;have hob':ub<wr.heap.size:=Nat.lt_of_lt_of_le hob hws.1.size;have i1:(0:Int)<=(j:Int):=by omega
   have i2:(j:Int)<(pl:Int):=by omega
   have HLT:=hid hlt;clear hfo hx hSX hpre hws hbx hob HR HI;go_wp2_with fail
   refine (qS _ _).mono ?_;rintro e w5 ⟨rfl,hb5⟩;have HS5:=hid (HS1.out.bel hb5);have HX5:=hid (HS1.out.kp hb5 _ _ HX1.out);clear hb5 y0 hob';unfold tokV;go_wp2_with fail
   refine (HPN.out _ _ HS5.out rfl).mono ?_;rintro e w6 ⟨rfl,hs6,hk6⟩;have HR':Hid (∃ pre,Ws w0 base wp xs W pre w6/\Bx w6 wp W.heap.size (.cells #[.int .u8 kd,NM,q.a,q.l,q.c,.slice (some ⟨ub,uo,none⟩) pl pc,.slice CA cl cc,.bool rc,.int .u8 k,S,n,p.a,p.l,p.c,.slice A kl c,.slice B al bc] 59 (0,0))/\pre++psK (ps.drop (j+1))=G):=hid ⟨_,hs6,hk6 _ _ HX5.out,by rw[<- HPRE.out];simp⟩;clear hs6 hk6;go_wp2_with fail
   go_roundw
   case rel=>exact⟨j+1,HLT.out,by go_num,HR'⟩
   case measure=>have:=HLT.out;simp[intOf];omega
  ·obtain rfl:j=pl:=by omega
   rw[List.drop_eq_nil_of_le (by rw[<- HPL.out];exact Nat.le_refl _)]at hpre;have hpG:pre=G:=by rw[<- hpre];simp[psK]
   subst hpG;have HS4:=hid hws;have HX4:=hid hbx;have hl4:W.heap.size<wr.heap.size:=(Array.getElem?_eq_some_iff.1 hbx.1).1;clear hws hbx hpre HR HI hx5 hl3;go_wp2_with fail
   refine (qd _ _).mono ?_;rintro e w7 ⟨rfl,hb7⟩;have hs7:=HS4.out.bel hb7;have hx7:=HS4.out.kp hb7 _ _ HX4.out;have hb8:Bel w7 (w7.alloc (.cells #[.int .u8 5,.string ⟨#[61]⟩,(0:Int),(0:Int),(0:Int),(0:Int)] 37)):=(Bel.refl w7).alloc _;have hs8:=hs7.bel hb8;have hA8:=hs7.box (.cells #[.int .u8 5,.string ⟨[61].toArray⟩,(0:Int),(0:Int),(0:Int),(0:Int)] 37);have x6:=(qbP hx7.1).1;have hl7:W.heap.size<w7.heap.size:=(Array.getElem?_eq_some_iff.1 hx7.1).1;have HWL:Hid (W.heap.size<=w7.heap.size):=hid (Nat.le_of_lt hl7);have HJ:Hid (∃ pre2 sj,Ws w0 base wp xs W pre2 (w7.alloc (.cells #[.int .u8 5,.string ⟨#[61]⟩,(0:Int),(0:Int),(0:Int),(0:Int)] 37))/\Bx (w7.alloc (.cells #[.int .u8 5,.string ⟨#[61]⟩,(0:Int),(0:Int),(0:Int),(0:Int)] 37)) wp w7.heap.size (.cells #[.int .u8 5,.string ⟨List.toArray sj⟩,(0:Int),(0:Int),(0:Int),(0:Int)] 37)/\pre2++Qq sj (cs.drop 0)=F):=hid ⟨_,[61],hs8,hA8,by rw[HF.out,HG.out];rfl⟩;clear hb7 hs7 hx7 hb8 hs8 hA8 HS4 HX4 hl4;unfold tokV;go_wp2_with fail
   go_loopw [35] (fun i wr=>∃ j:Nat,j<=cl/\i=.int .i64 (j:Int)/\Hid (∃ pre2 sj,Ws w0 base wp xs W pre2 wr/\Bx wr wp w7.heap.size (.cells #[.int .u8 5,.string ⟨List.toArray sj⟩,(0:Int),(0:Int),(0:Int),(0:Int)] 37)/\pre2++Qq sj (cs.drop j)=F)) (fun i _=>cl-(intOf i).toNat)
   case atStart=>exact⟨0,Nat.zero_le _,rfl,HJ⟩
   case round=>
    obtain⟨j2,hj2,rfl,HR⟩:=hrel;rename World=>wo
    obtain⟨pre2,sj,hws,hbx,hpre⟩:=HR.out;by_cases hlt:j2<cl
    ·obtain⟨ub,uo,eA,hob,hfo⟩:=(HC.out.keep zp (fun j hj=>hws.1.block j hj) (fun _ h=>h)).2.2 (by omega)
     subst eA;obtain⟨x,hx⟩:∃ x,cs[j2]?=some x:=⟨_,List.getElem?_eq_getElem (by rw[<- HCL.out];exact hlt)⟩
     have hxs:=HSH.out x (List.mem_of_getElem? hx);obtain⟨y0,y1,y2,y3,FA,fc,y4,hfs⟩:=hfo j2 x hx;rw[qbR hx]at hpre;obtain⟨cn,cp,fs⟩:=x;simp only[]at y0 y1 y2 y3 y4 hfs hpre;have hfs0:RowOf 8 FdAt w0 (OldT w0) FA fs.length fc fs:=hfs.keep jK (fun j hj=>(hws.1.block j hj).symm) (fun _ h=>h);obtain⟨fl,hfl⟩:∃ fl,fl=fs.length:=⟨_,rfl⟩
     obtain⟨CN,hCN⟩:∃ S:ByteArray,S=⟨cn.toArray⟩:=⟨_,rfl⟩
     obtain⟨SJ,hSJ⟩:∃ S:ByteArray,S=⟨sj.toArray⟩:=⟨_,rfl⟩
     obtain⟨T1,hT1⟩:∃ T,T=tk0 5 sj 0:=⟨_,rfl⟩
     obtain⟨T2,hT2⟩:∃ T,T=tk0 2 cn 0:=⟨_,rfl⟩
     have HPC:Hid (∀ (pre:List Tn) (w:World) (g:Nat),Ws w0 base wp xs W pre w->w.heap[g]?=some (.cells #[.int .u8 5,.string SJ,.int .i64 0,.int .i64 0,.int .i64 0,.int .i64 0,.int .u8 2,.string CN,.int .i64 0,.int .i64 0,.int .i64 0,.int .i64 0] 37 (0,0))->Calls Tryz.prog 50 #[.pointer (some ⟨wp,0,none⟩),.slice (some ⟨g,0,none⟩) 2 2] w (WsQ w0 base wp xs W (pre++[T1,T2]) w)):=hid fun pre w g h hg=>by
      rw[hT1,hT2];rw[hSJ,hCN]at hg;exact h.run fun r h1 h2 h3=>qcs base wp r [tk0 5 sj 0,tk0 2 cn 0] g 2 _ w0 w w h1 hwp h2 (Bel.refl _) h3 (by simp) (by simp) hg (qT _)
     rw[<- hT1,<- hT2]at hpre;rw[<- hCN]at y0;rw[<- hfl]at y4 hfs0;rw[<- hSJ]at hbx;have HFS:=hid hfs0;have HFL:=hid hfl;have HXS:=hid hxs.2;have hfl1:fl<=1000000:=by rw[hfl];exact hxs.1
     have HPRE:=hid hpre;have HB1:Hid (Bel wo (wo.alloc (.cells #[.string CN,cp.a,cp.l,cp.c,.slice FA fl fc] 56))):=hid ((Bel.refl wo).alloc _);have HS1:=hid (hws.bel HB1.out);have HX1:=hid (hws.box (.cells #[.string CN,cp.a,cp.l,cp.c,.slice FA fl fc] 56));have HA1:=hid (hws.kp HB1.out _ _ hbx);have hob':ub<wo.heap.size:=Nat.lt_of_lt_of_le hob hws.1.size;have i1:(0:Int)<=(j2:Int):=by omega
     have i2:(j2:Int)<(cl:Int):=by omega
     have HLT:=hid hlt;clear hfo hx hfs hfs0 hxs hfl hCN hSJ hT1 hT2 hpre hws hbx hob HR HJ x6;go_wp2_with fail
     refine qdN wp wo.heap.size w7.heap.size SJ CN cp.a cp.l cp.c FA fl fc _ _ _ _ _ _ _ _ _ _ _ _ _ _ _ _ _ _ _ _ _ _ _ _ _ _ _ _ _ _ _ _ _ _ _ _ _ _ _ _ _ _ _ _ _ _ _ _ _ _ _ _ _ _ _ _ _ _ _ _ _ _ _ _ _ _ _ (wo.alloc (.cells #[.string CN,cp.a,cp.l,cp.c,.slice FA fl fc] 56)) HX1.out.1 HA1.out.1 _ ?_;intro V w9 hb9 hv0 ⟨g,hv5,hg⟩;simp only[regWe,List.drop_succ_cons,List.drop_zero,qge,hv0,hv5];have HS9:=hid (HS1.out.bel ((Bel.refl _).drew.on hb9));have HX9:=hid (HS1.out.kp ((Bel.refl _).drew.on hb9) _ _ HX1.out);have HA9:=hid (HS1.out.kp ((Bel.refl _).drew.on hb9) _ _ HA1.out);have HG9:=hid hg;clear hb9 hv0 hv5 hg y0 y1 y2 y3 y4 hob';go_wp2_with fail
     refine (HPC.out _ _ g HS9.out HG9.out).mono ?_;rintro e w10 ⟨rfl,hs10,hk10⟩;have HS10:=hid hs10;have HX10:=hid (hk10 _ _ HX9.out);have HA10:=hid (hk10 _ _ HA9.out);have c4:=qiu HX10.out.1;have hl10:wo.heap.size<w10.heap.size:=(Array.getElem?_eq_some_iff.1 HX10.out.1).1;obtain⟨G3,hG3⟩:∃ G,G=pre2++[T1,T2]++fdsK fs:=⟨_,rfl⟩
     have HG3:=hid hG3;have HK:Hid (∃ pre3,Ws w0 base wp xs W pre3 w10/\Bx w10 wp w7.heap.size (.cells #[.int .u8 5,SJ,(0:Int),(0:Int),(0:Int),(0:Int)] 37)/\pre3++fdsK (fs.drop 0)=G3):=hid ⟨_,HS10.out,HA10.out,by rw[HG3.out];rfl⟩;clear hs10 hk10 hG3 HS1 HX1 HA1 HS9 HX9 HA9 HS10 HX10 HA10 HB1;go_wp2_with fail
     go_loopw [49] (fun i wr=>∃ j:Nat,j<=fl/\i=.int .i64 (j:Int)/\Hid (∃ pre3,Ws w0 base wp xs W pre3 wr/\Bx wr wp w7.heap.size (.cells #[.int .u8 5,SJ,(0:Int),(0:Int),(0:Int),(0:Int)] 37)/\pre3++fdsK (fs.drop j)=G3)) (fun i _=>fl-(intOf i).toNat)
     case atStart=>exact⟨0,Nat.zero_le _,rfl,HK⟩
     case round=>
      obtain⟨j3,hj3,rfl,HR⟩:=hrel;obtain⟨pre3,hws,hbx,hpre⟩:=HR.out;by_cases hlt:j3<fl
      ·obtain⟨ub3,uo3,eA,hob,hfo⟩:=(HFS.out.keep jK (fun j hj=>hws.1.block j hj) (fun _ h=>h)).2.2 (by omega)
       subst eA;obtain⟨x,hx⟩:∃ x,fs[j3]?=some x:=⟨_,List.getElem?_eq_getElem (by rw[<- HFL.out];exact hlt)⟩
       have hxs:=HXS.out x (List.mem_of_getElem? hx);obtain⟨FKA,fkc,hkk,y0,y1,y2,y3,y4,y5,y6,y7⟩:=(hfo j3 x hx).cells;rw[qcT hx]at hpre;obtain⟨fm,fk,fsn,fn,fp,fkids⟩:=x;simp only[]at y0 y1 y2 y3 y4 y5 y6 y7 hkk hpre;have hkk0:KidsTr w0 (OldT w0) .ty FKA fkids.len fkc fkids:=hkk.keep (fun j hj=>(hws.1.block j hj).symm);have HBR:=hid fun pre w g h hg=>qcB (xs:=xs) (W:=W) HTY.out (Nat.le_refl _) hwp pre w g fk fsn fn fp fkids FKA fkc h hg hkk0 hxs.1 hxs.2;obtain⟨ov1,ov2⟩:=qc9 fm;obtain⟨ok,hok⟩:∃ o,o=(qI fm).k:=⟨_,rfl⟩
       obtain⟨os,hos⟩:∃ o,o=(qI fm).s:=⟨_,rfl⟩
       obtain⟨on,hon⟩:∃ o,o=(qI fm).n:=⟨_,rfl⟩
       rw[<- hok,<- hos,<- hon]at ov1 ov2;obtain⟨OS,hOS⟩:∃ S:ByteArray,S=⟨os.toArray⟩:=⟨_,rfl⟩
       obtain⟨T3,hT3⟩:∃ T,T=qI fm:=⟨_,rfl⟩
       have HOF:Hid (∀ W,Calls Tryz.prog 91 #[.int .u8 fm] W fun e w'=>e=.returned (.agg #[.int .u8 ok,OS,on,(0:Int),(0:Int),(0:Int)])/\Bel W w'):=hid fun W=>by rw[hOS,<- ov1];exact qda fm W
       have HPO:Hid (∀ (pre:List Tn) (w:World) (g:Nat),Ws w0 base wp xs W pre w->g=w.heap.size->Calls Tryz.prog 50 #[.pointer (some ⟨wp,0,none⟩),.slice (some ⟨g,0,none⟩) 1 1] (w.alloc (.cells #[.int .u8 ok,.string OS,.int .i64 on,.int .i64 0,.int .i64 0,.int .i64 0] 37)) (WsQ w0 base wp xs W (pre++[T3]) w)):=hid fun pre w g h hg=>by rw[hOS,hT3,<- ov2];exact h.put1g hwp ok os on 1 g hg
       obtain⟨F3,hF3⟩:∃ F,F=brkL (alnT fk fkids.len) (zm fk fsn fn fkids):=⟨_,rfl⟩
       obtain⟨FJ,hFS⟩:∃ S:ByteArray,S=⟨fsn.toArray⟩:=⟨_,rfl⟩
       obtain⟨fkl,hfkl⟩:∃ l,l=fkids.len:=⟨_,rfl⟩
       rw[<- hT3,<- hF3]at hpre;rw[<- hF3,<- hFS,<- hfkl]at HBR;rw[<- hFS]at y2;rw[<- hfkl]at y7;have HPRE3:=hid hpre;have HB1:Hid (Bel wr (wr.alloc (.cells #[.int .u8 fm,.int .u8 fk,FJ,.int .u8 fn,fp.a,fp.l,fp.c,.slice FKA fkl fkc] 53))):=hid ((Bel.refl wr).alloc _);have HS1:=hid (hws.bel HB1.out);have HX1:=hid (hws.box (.cells #[.int .u8 fm,.int .u8 fk,FJ,.int .u8 fn,fp.a,fp.l,fp.c,.slice FKA fkl fkc] 53));have HA1:=hid (hws.kp HB1.out _ _ hbx);have hob':ub3<wr.heap.size:=Nat.lt_of_lt_of_le hob hws.1.size;have i1:(0:Int)<=(j3:Int):=by omega
       have i2:(j3:Int)<(fl:Int):=by omega
       have HLT3:=hid hlt;clear hfo hx hxs hkk hkk0 ov1 ov2 hok hos hon hOS hT3 hF3 hFS hfkl hpre hws hbx hob HR HK;go_wp2_with fail
       refine (HOF.out _).mono ?_;rintro e w11 ⟨rfl,hb11⟩;have HS11:=hid (HS1.out.bel hb11);have HX11:=hid (HS1.out.kp hb11 _ _ HX1.out);have HA11:=hid (HS1.out.kp hb11 _ _ HA1.out);clear hb11 y0 y1 y2 y3 y4 y5 y6 y7 hob' HS1 HX1 HA1 HB1;go_wp2_with fail
       refine (HPO.out _ _ _ HS11.out rfl).mono ?_;rintro e w12 ⟨rfl,hs12,hk12⟩;have HS12:=hid hs12;have HX12:=hid (hk12 _ _ HX11.out);have HA12:=hid (hk12 _ _ HA11.out);obtain⟨z0,z1,z2,z3,z4,z5,z6,z7⟩:=qfN HX12.out.1;have hl12:wr.heap.size<w12.heap.size:=(Array.getElem?_eq_some_iff.1 HX12.out.1).1;clear hs12 hk12 HS11 HX11 HA11;go_wp2_with fail
       refine (HBR.out _ _ _ HS12.out rfl).mono ?_;rintro e w13 ⟨rfl,hs13,hk13⟩;have HR':Hid (∃ pre3,Ws w0 base wp xs W pre3 w13/\Bx w13 wp w7.heap.size (.cells #[.int .u8 5,SJ,(0:Int),(0:Int),(0:Int),(0:Int)] 37)/\pre3++fdsK (fs.drop (j3+1))=G3):=hid ⟨_,hs13,hk13 _ _ HA12.out,by rw[<- HPRE3.out];simp⟩;clear hs13 hk13 z0 z1 z2 z3 z4 z5 z6 z7 hl12;go_wp2_with fail
       go_roundw
       case rel=>exact⟨j3+1,HLT3.out,by go_num,HR'⟩
       case measure=>have:=HLT3.out;simp[intOf];omega
      ·obtain rfl:j3=fl:=by omega
       rw[List.drop_eq_nil_of_le (by rw[<- HFL.out];exact Nat.le_refl _)]at hpre;have hpG:pre3=G3:=by rw[<- hpre];simp[fdsK]
       subst hpG;have HS4:=hid hws;have HA4:=hid hbx;clear hws hbx hpre HR HK c4 hl10;go_wp2_with fail
       refine (qd _ _).mono ?_;rintro e w14 ⟨rfl,hb14⟩;have HS14:=hid (HS4.out.bel hb14);have HA14:=hid (HS4.out.kp hb14 _ _ HA4.out);obtain⟨⟨a0,a1,a2,a3,a4,a5⟩,f0,f1,f2,f3,f4,f5⟩:=jq HA14.out.1;have hl14:w7.heap.size<w14.heap.size:=(Array.getElem?_eq_some_iff.1 HA14.out.1).1;have HR':Hid (∃ pre2 sj,Ws w0 base wp xs W pre2 ((((((w14.setCell ⟨w7.heap.size,0,none⟩ (.int .u8 5)).setCell ⟨w7.heap.size,1,none⟩ (.string ⟨#[124]⟩)).setCell ⟨w7.heap.size,2,none⟩ (.int .i64 0)).setCell ⟨w7.heap.size,3,none⟩ (.int .i64 0)).setCell ⟨w7.heap.size,4,none⟩ (.int .i64 0)).setCell ⟨w7.heap.size,5,none⟩ (.int .i64 0))/\Bx ((((((w14.setCell ⟨w7.heap.size,0,none⟩ (.int .u8 5)).setCell ⟨w7.heap.size,1,none⟩ (.string ⟨#[124]⟩)).setCell ⟨w7.heap.size,2,none⟩ (.int .i64 0)).setCell ⟨w7.heap.size,3,none⟩ (.int .i64 0)).setCell ⟨w7.heap.size,4,none⟩ (.int .i64 0)).setCell ⟨w7.heap.size,5,none⟩ (.int .i64 0)) wp w7.heap.size (.cells #[.int .u8 5,.string ⟨List.toArray sj⟩,(0:Int),(0:Int),(0:Int),(0:Int)] 37)/\pre2++Qq sj (cs.drop (j2+1))=F):=hid ⟨_,[124],HS14.out.put6 HA14.out HWL.out HWW.out _ _ _ _ _ _,HA14.out.put6 _ _ _ _ _ _,by
        rw[<- HPRE.out,HG3.out];simp⟩
       clear hb14 HS4 HA4 HS14 HA14;unfold tokV;go_wp2_with fail
       go_roundw
       case rel=>exact⟨j2+1,HLT.out,by go_num,HR'⟩
       case measure=>have:=HLT.out;simp[intOf];omega
    ·obtain rfl:j2=cl:=by omega
     rw[List.drop_eq_nil_of_le (by rw[<- HCL.out];exact Nat.le_refl _)]at hpre;have HQ:=hid (hws.fin (F:=F) (by rw[<- hpre];simp[Qq]));clear hws hbx hpre HR HJ;go_wp2_with fail
     go_end0
     exact HQ.out
set_option maxHeartbeats 16000000
theorem J3(base wp:Nat)(w0:World)(hwp:w0.heap.size<=wp)(M:Nat):M<=1000000->ExC w0 base wp M:=by
 induction M with
 | zero=>intro _ k s n p A c B bc kids arms xs W _ _ h;simp only[Tr.size]at h;omega
 | succ M ih=>
  intro hM k s n p A c B bc kids arms xs W hk ha hsz hsh hW hw hx;have hC:ExC w0 base wp M:=ih (by omega);have hP:PaC w0 base wp 1000000:=qfH base wp w0 hwp 1000000 (Nat.le_refl _);clear ih;obtain⟨hs1,hs2,hs3,hs4,hs5,hs6,_⟩:=hsh;simp only[Tr.size]at hsz;have HS:=hid (Ws.start hW hw hx);obtain⟨kl,hkl⟩:∃ l,l=kids.len:=⟨_,rfl⟩
  obtain⟨al,hal⟩:∃ l,l=arms.len:=⟨_,rfl⟩
  rw[<- hkl]at hk hs1 hs2 hs3 hs4 ⊢;rw[<- hal]at ha ⊢;have HX1:=hid (HS.out.box (.cells #[.int .u8 k,.string ⟨s.toArray⟩,n,p.a,p.l,p.c,.slice A kl c,.slice B al bc] 43));have HS1:=hid (HS.out.bel ((Bel.refl W).alloc (.cells #[.int .u8 k,.string ⟨s.toArray⟩,n,p.a,p.l,p.c,.slice A kl c,.slice B al bc] 43)));have HB1:Hid (Bel W (W.alloc (.cells #[.int .u8 k,.string ⟨s.toArray⟩,n,p.a,p.l,p.c,.slice A kl c,.slice B al bc] 43))):=hid ((Bel.refl W).alloc _);obtain⟨F,hF⟩:∃ F,F=qm k s n kids arms:=⟨_,rfl⟩
  rw[<- hF];by_cases k4:k=4
  ·subst k4
   have hl1:=hs1 rfl;obtain⟨b,o,ka,sa,na,pa,kia,ara,A1,c1,B1,d1,rfl,rfl,hlt,hc1,hk1,ha1⟩:=qbk (by intro e;cases e) hk hl1;have ha1':KidsTr w0 (OldT w0) .arms B1 ara.len d1 ara:=by
    rcases ha1 with h | ⟨h | h,_⟩
    ·exact h.2
    ·cases h
    ·cases h
   have HF:Hid (F=Jc::tk0 1 s 0::jl::qm ka sa na kia ara):=hid (by rw[hF,<- zu ka sa na pa kia ara];rfl);simp only[Tr.size]at hsz;have HP1:=hid fun xs' W'=>hC ka sa na pa A1 c1 B1 d1 kia ara xs' W' hk1 ha1' (by simp only[Tr.size];omega) hs5;have HPU:Hid (∀ (pre:List Tn) (w:World) (g:Nat),Ws w0 base wp xs W pre w->w.heap[g]?=some (.cells #[.int .u8 5,.string ⟨#[92]⟩,.int .i64 0,.int .i64 0,.int .i64 0,.int .i64 0,.int .u8 1,.string ⟨s.toArray⟩,.int .i64 0,.int .i64 0,.int .i64 0,.int .i64 0,.int .u8 5,.string ⟨#[45,62]⟩,.int .i64 0,.int .i64 0,.int .i64 0,.int .i64 0] 37 (0,0))->Calls Tryz.prog 50 #[.pointer (some ⟨wp,0,none⟩),.slice (some ⟨g,0,none⟩) 3 3] w (WsQ w0 base wp xs W (pre++[Jc,tk0 1 s 0,jl]) w)):=hid fun pre w g h hg=>
    h.run fun r h1 h2 h3=>qcs base wp r [Jc,tk0 1 s 0,jl] g 3 _ w0 w w h1 hwp h2 (Bel.refl _) h3 (by simp) (by simp) hg (qT _)
   have HCC1:=hid hc1;obtain⟨SS,hSS⟩:∃ S:ByteArray,S=⟨s.toArray⟩:=⟨_,rfl⟩
   obtain⟨SA,hSA⟩:∃ S:ByteArray,S=⟨sa.toArray⟩:=⟨_,rfl⟩
   obtain⟨F1,hF1⟩:∃ F,F=qm ka sa na kia ara:=⟨_,rfl⟩
   obtain⟨T1,hT1⟩:∃ T,T=tk0 1 s 0:=⟨_,rfl⟩
   obtain⟨l1,hl1'⟩:∃ l,l=kia.len:=⟨_,rfl⟩
   obtain⟨m1,hm1⟩:∃ l,l=ara.len:=⟨_,rfl⟩
   rw[<- hl1',<- hm1]at HCC1;rw[<- hSA,<- hF1,<- hl1',<- hm1]at HP1;rw[<- hF1,<- hT1]at HF;rw[<- hSS,<- hT1]at HPU;rw[<- hSS,hl1]at HX1 HS1;rw[<- hSS,hl1];have HSA:=hid hSA;clear hk ha hsz hs1 hs2 hs3 hs4 hs5 hs6 hC hP hc1 hk1 ha1 ha1' hlt hSS hSA hF1 hT1 hl1 hl1' hm1 hW hw hx hF hkl hal HB1;go_enter Tryz.func42,Tryz.ntmps42
   go_wp2_with fail
   refine qdQ wp W.heap.size 4 SS n p (some ⟨b,o,none⟩) 1 c B al bc _ _ _ _ _ _ _ _ _ _ _ _ _ _ _ _ _ _ _ _ _ _ _ _ _ _ _ _ _ _ _ _ _ _ _ _ _ _ _ _ _ _ _ _ _ _ _ _ _ _ _ _ _ _ _ _ _ _ _ _ _ _ _ _ (W.alloc (.cells #[.int .u8 4,SS,n,p.a,p.l,p.c,.slice (some ⟨b,o,none⟩) 1 c,.slice B al bc] 43)) HX1.out.1 _ ?_;intro V w2 hb2 hv0 ⟨g,hv6,hg⟩;simp only[regWl,List.drop_succ_cons,List.drop_zero,qgf,hv0,hv6];have HS2:=hid (HS1.out.bel ((Bel.refl _).drew.on hb2));have HX2:=hid (HS1.out.kp ((Bel.refl _).drew.on hb2) _ _ HX1.out);have HG2:=hid hg;clear hb2 hv0 hv6 hg;go_wp2_with fail
   refine (HPU.out _ _ g HS2.out HG2.out).mono ?_;rintro e w3 ⟨rfl,hs3,hk3⟩;have HS3:=hid hs3;have HX3:=hid (hk3 _ _ HX2.out);obtain⟨x0,x1,x2,x3,x4,x5,x6,x7⟩:=box8 HX3.out.1;have hl3:W.heap.size<w3.heap.size:=(Array.getElem?_eq_some_iff.1 HX3.out.1).1;have y0:=HCC1.out _ HS3.out.1 0 _ rfl;have y1:=HCC1.out _ HS3.out.1 1 _ rfl;have y2:=HCC1.out _ HS3.out.1 2 _ rfl;have y3:=HCC1.out _ HS3.out.1 3 _ rfl;have y4:=HCC1.out _ HS3.out.1 4 _ rfl;have y5:=HCC1.out _ HS3.out.1 5 _ rfl;have y6:=HCC1.out _ HS3.out.1 6 _ rfl;have y7:=HCC1.out _ HS3.out.1 7 _ rfl;simp only[Sh.kd,Nat.add_zero]at y0 y1 y2 y3 y4 y5 y6 y7;rw[<- HSA.out]at y1;clear hs3 hk3;go_wp2_with fail
   refine (HS3.out.run fun r h1 h2 h3=>HP1.out r w3 h1 h2 h3).mono ?_;rintro e w4 ⟨rfl,hs4,hk4⟩;have HQ:=hid (hs4.fin (F:=F) (by rw[HF.out];rfl));clear hs4 hk4 y0 y1 y2 y3 y4 y5 y6 y7 x0 x1 x2 x3 x4 x5 x6 x7;go_wp2_with fail
   go_end0
   exact HQ.out
  have d4:(k==4)=false:=by simpa using k4
  by_cases k6:k=6
  ·subst k6
   have hl2:=hs2 (by simp);have HF:Hid (F=[zj]++(tk0 1 s 0::kwEq::kids.exK 0 [kwIn])):=hid (by rw[hF];rfl);obtain⟨G,hG⟩:∃ G,G=tk0 1 s 0::kwEq::kids.exK 0 [kwIn]:=⟨_,rfl⟩
   have HBD:Hid (∀ (g:Nat) (w:World),Ws w0 base wp xs W [] w->w.heap[g]?=some (.cells #[.int .u8 5,.string ⟨#[108,101,116]⟩,(0:Int),(0:Int),(0:Int),(0:Int)] 37 (0,0))->Calls Tryz.prog 80 #[.pointer (some ⟨wp,0,none⟩),.agg #[.int .u8 6,.string ⟨s.toArray⟩,n,p.a,p.l,p.c,.slice A kl c,.slice B al bc],.slice (some ⟨g,0,none⟩) 1 1] w (WsQ w0 base wp xs W ([]++([zj]++G)) w)):=hid fun g w h hg=>by
    rw[hG];exact ZS base wp M w0 hwp hC 6 s n p A kl c B al bc kids arms hk hl2 (by omega) hs5 [zj] 1 rfl (by decide) g _ xs W [] w w h (Bel.refl _) hg
   obtain⟨SS,hSS⟩:∃ S:ByteArray,S=⟨s.toArray⟩:=⟨_,rfl⟩
   rw[<- hG]at HF;rw[<- hSS]at HBD HX1 HS1;rw[<- hSS];clear hk ha hsz hs1 hs2 hs3 hs4 hs5 hs6 hC hP hW hw hx hF hkl hal HB1 hl2 hSS hG;go_enter Tryz.func42,Tryz.ntmps42
   go_wp2_with fail
   refine qdH wp W.heap.size 6 SS n p A kl c B al bc _ _ _ _ _ _ _ _ _ _ _ _ _ _ _ _ _ _ _ _ _ _ _ _ _ _ _ _ _ _ _ _ _ _ _ _ _ _ _ _ _ _ _ _ _ _ _ _ _ _ _ _ _ _ _ _ _ _ _ _ _ _ _ _ (W.alloc (.cells #[.int .u8 6,SS,n,p.a,p.l,p.c,.slice A kl c,.slice B al bc] 43)) HX1.out.1 _ ?_;intro V w2 hb2 hv0 hv1 ⟨g,hv3,hg⟩;simp only[regWb,List.drop_succ_cons,List.drop_zero,qgc,hv0,hv1,hv3];have HS2:=hid (HS1.out.bel ((Bel.refl _).drew.on hb2));have HG2:=hid hg;clear hb2 hv0 hv1 hv3 hg;go_wp2_with fail
   refine (HBD.out g w2 HS2.out HG2.out).mono ?_;rintro e w3 ⟨rfl,hs3,hk3⟩;have HQ:=hid (hs3.fin (F:=F) (by rw[HF.out];rfl));clear hs3 hk3;go_wp2_with fail
   go_end0
   exact HQ.out
  have d6:(k==6)=false:=by simpa using k6
  by_cases k7:k=7
  ·subst k7
   have hl2:=hs2 (by simp);have HF:Hid (F=[zj,jw]++(tk0 1 s 0::kwEq::kids.exK 0 [kwIn])):=hid (by rw[hF];rfl);obtain⟨G,hG⟩:∃ G,G=tk0 1 s 0::kwEq::kids.exK 0 [kwIn]:=⟨_,rfl⟩
   have HBD:Hid (∀ (g:Nat) (w:World),Ws w0 base wp xs W [] w->w.heap[g]?=some (.cells #[.int .u8 5,.string ⟨#[108,101,116]⟩,(0:Int),(0:Int),(0:Int),(0:Int),.int .u8 5,.string ⟨#[114,101,99]⟩,(0:Int),(0:Int),(0:Int),(0:Int)] 37 (0,0))->Calls Tryz.prog 80 #[.pointer (some ⟨wp,0,none⟩),.agg #[.int .u8 7,.string ⟨s.toArray⟩,n,p.a,p.l,p.c,.slice A kl c,.slice B al bc],.slice (some ⟨g,0,none⟩) 2 2] w (WsQ w0 base wp xs W ([]++([zj,jw]++G)) w)):=hid fun g w h hg=>by
    rw[hG];exact ZS base wp M w0 hwp hC 7 s n p A kl c B al bc kids arms hk hl2 (by omega) hs5 [zj,jw] 2 rfl (by decide) g _ xs W [] w w h (Bel.refl _) hg
   obtain⟨SS,hSS⟩:∃ S:ByteArray,S=⟨s.toArray⟩:=⟨_,rfl⟩
   rw[<- hG]at HF;rw[<- hSS]at HBD HX1 HS1;rw[<- hSS];clear hk ha hsz hs1 hs2 hs3 hs4 hs5 hs6 hC hP hW hw hx hF hkl hal HB1 hl2 hSS hG;go_enter Tryz.func42,Tryz.ntmps42
   go_wp2_with fail
   refine qdT wp W.heap.size 7 SS n p A kl c B al bc _ _ _ _ _ _ _ _ _ _ _ _ _ _ _ _ _ _ _ _ _ _ _ _ _ _ _ _ _ _ _ _ _ _ _ _ _ _ _ _ _ _ _ _ _ _ _ _ _ _ _ _ _ _ _ _ _ _ _ _ _ _ _ _ (W.alloc (.cells #[.int .u8 7,SS,n,p.a,p.l,p.c,.slice A kl c,.slice B al bc] 43)) HX1.out.1 _ ?_;intro V w2 hb2 hv0 hv1 ⟨g,hv3,hg⟩;simp only[regWr,List.drop_succ_cons,List.drop_zero,qgg,hv0,hv1,hv3];have HS2:=hid (HS1.out.bel ((Bel.refl _).drew.on hb2));have HG2:=hid hg;clear hb2 hv0 hv1 hv3 hg;go_wp2_with fail
   refine (HBD.out g w2 HS2.out HG2.out).mono ?_;rintro e w3 ⟨rfl,hs3,hk3⟩;have HQ:=hid (hs3.fin (F:=F) (by rw[HF.out];rfl));clear hs3 hk3;go_wp2_with fail
   go_end0
   exact HQ.out
  have d7:(k==7)=false:=by simpa using k7
  by_cases k8:k=8
  ·subst k8
   have hl1:=hs3 rfl;have HF:Hid (F=zy::kids.exK 0 []++[kwOf]++arms.exK 0 [kwOpen]++[kwClose]):=hid (by rw[hF];rfl);obtain⟨G,hG⟩:∃ G,G=zy::kids.exK 0 []++[kwOf]++arms.exK 0 [kwOpen]++[kwClose]:=⟨_,rfl⟩
   have HCS:Hid (∀ (w:World),Ws w0 base wp xs W [] w->Calls Tryz.prog 81 #[.pointer (some ⟨wp,0,none⟩),.agg #[.int .u8 8,.string ⟨s.toArray⟩,n,p.a,p.l,p.c,.slice A kl c,.slice B al bc]] w (WsQ w0 base wp xs W ([]++G) w)):=hid fun w h=>by
    rw[hG];exact h.run fun r h1 h2 h3=>qcq base wp M (by omega) w0 hwp hC hP 8 s n p A kl c B al bc kids arms hk ha hl1 (by omega) hs5 hs6 r w h1 h2 h3
   obtain⟨SS,hSS⟩:∃ S:ByteArray,S=⟨s.toArray⟩:=⟨_,rfl⟩
   rw[<- hG]at HF;rw[<- hSS]at HCS HX1 HS1;rw[<- hSS];clear hk ha hsz hs1 hs2 hs3 hs4 hs5 hs6 hC hP hW hw hx hF hkl hal HB1 hl1 hSS hG;obtain⟨x0,x1,x2,x3,x4,x5,x6,x7⟩:=box8 HX1.out.1;go_enter Tryz.func42,Tryz.ntmps42
   go_wp2_with fail
   refine (HCS.out _ HS1.out).mono ?_;rintro e w3 ⟨rfl,hs3,hk3⟩;have HQ:=hid (hs3.fin (F:=F) (by rw[HF.out];rfl));clear hs3 hk3;go_wp2_with fail
   go_end0
   exact HQ.out
  have d8:(k==8)=false:=by simpa using k8
  by_cases k5:k=5
  ·subst k5
   have hl2:=hs2 (by simp);obtain⟨b,o,ka,sa,na,pa,kia,ara,A1,c1,B1,d1,kb,sb,nb,pb,kib,arb,A2,c2,B2,d2,rfl,rfl,hlt,hc1,hk1,ha1,hc2,hk2,ha2⟩:=Qy (by intro e;cases e) hk hl2;have ha1':KidsTr w0 (OldT w0) .arms B1 ara.len d1 ara:=by
    rcases ha1 with h | ⟨h | h,_⟩
    ·exact h.2
    ·cases h
    ·cases h
   have ha2':KidsTr w0 (OldT w0) .arms B2 arb.len d2 arb:=by
    rcases ha2 with h | ⟨h | h,_⟩
    ·exact h.2
    ·cases h
    ·cases h
   have HF:Hid (F=brkL (alnF ka kia.len) (qm ka sa na kia ara)++brkL (alnE kb kib.len) (qm kb sb nb kib arb)):=hid (by
    have e:=qeW [] ka sa na pa kia ara kb sb nb pb kib arb;rw[List.append_nil]at e;rw[hF,<- e];rfl)
   simp only[Tr.size]at hsz;have HP1:=hid fun pre w g h hg=>qa7 83 alnF egF qcu (xs:=xs) (W:=W) hC (by omega) hwp pre w g ka sa na pa kia ara A1 c1 B1 d1 h hg hk1 ha1' (by omega) ⟨hs5.1,hs5.2.1,hs5.2.2.1,hs5.2.2.2.1,hs5.2.2.2.2.1,hs5.2.2.2.2.2.1,trivial⟩;have HP2:=hid fun pre w g h hg=>qa7 84 alnE egE jF (xs:=xs) (W:=W) hC (by omega) hwp pre w g kb sb nb pb kib arb A2 c2 B2 d2 h hg hk2 ha2' (by omega) hs5.2.2.2.2.2.2;have HCC1:=hid hc1;have HCC2:=hid hc2;obtain⟨SS,hSS⟩:∃ S:ByteArray,S=⟨s.toArray⟩:=⟨_,rfl⟩
   obtain⟨SA,hSA⟩:∃ S:ByteArray,S=⟨sa.toArray⟩:=⟨_,rfl⟩
   obtain⟨SB,hSB⟩:∃ S:ByteArray,S=⟨sb.toArray⟩:=⟨_,rfl⟩
   obtain⟨F1,hF1⟩:∃ F,F=brkL (alnF ka kia.len) (qm ka sa na kia ara):=⟨_,rfl⟩
   obtain⟨F2,hF2⟩:∃ F,F=brkL (alnE kb kib.len) (qm kb sb nb kib arb):=⟨_,rfl⟩
   obtain⟨l1,hl1⟩:∃ l,l=kia.len:=⟨_,rfl⟩
   obtain⟨l2,hl2'⟩:∃ l,l=kib.len:=⟨_,rfl⟩
   obtain⟨m1,hm1⟩:∃ l,l=ara.len:=⟨_,rfl⟩
   obtain⟨m2,hm2⟩:∃ l,l=arb.len:=⟨_,rfl⟩
   rw[<- hl1,<- hm1]at HCC1;rw[<- hl2',<- hm2]at HCC2;rw[<- hSA,<- hF1,<- hl1,<- hm1]at HP1;rw[<- hSB,<- hF2,<- hl2',<- hm2]at HP2;rw[<- hF1,<- hF2]at HF;rw[<- hSS,hl2]at HX1 HS1;rw[<- hSS,hl2];have HSA:=hid hSA;have HSB:=hid hSB;clear hk ha hsz hs1 hs2 hs3 hs4 hs5 hs6 hC hP hc1 hc2 hk1 hk2 ha1 ha2 ha1' ha2' hlt hSS hSA hSB hF1 hF2 hl1 hl2' hm1 hm2 hW hw hx hF hkl hal HB1 hl2;have y0:=HCC1.out _ HS1.out.1 0 _ rfl;have y1:=HCC1.out _ HS1.out.1 1 _ rfl;have y2:=HCC1.out _ HS1.out.1 2 _ rfl;have y3:=HCC1.out _ HS1.out.1 3 _ rfl;have y4:=HCC1.out _ HS1.out.1 4 _ rfl;have y5:=HCC1.out _ HS1.out.1 5 _ rfl;have y6:=HCC1.out _ HS1.out.1 6 _ rfl;have y7:=HCC1.out _ HS1.out.1 7 _ rfl;simp only[Sh.kd,Nat.add_zero]at y0 y1 y2 y3 y4 y5 y6 y7;rw[<- HSA.out]at y1;go_enter Tryz.func42,Tryz.ntmps42
   go_wp2_with fail
   refine (HP1.out [] _ (W.heap.size+1) HS1.out (by simp)).mono ?_;rintro e w2 ⟨rfl,hs2,hk2⟩;have HS2:=hid hs2;have HX2:=hid (hk2 _ _ HX1.out);clear y0 y1 y2 y3 y4 y5 y6 y7 hs2 hk2;obtain⟨x0,x1,x2,x3,x4,x5,x6,x7⟩:=box8 HX2.out.1;have hl2:W.heap.size<w2.heap.size:=(Array.getElem?_eq_some_iff.1 HX2.out.1).1;have y0:=HCC2.out _ HS2.out.1 0 _ rfl;have y1:=HCC2.out _ HS2.out.1 1 _ rfl;have y2:=HCC2.out _ HS2.out.1 2 _ rfl;have y3:=HCC2.out _ HS2.out.1 3 _ rfl;have y4:=HCC2.out _ HS2.out.1 4 _ rfl;have y5:=HCC2.out _ HS2.out.1 5 _ rfl;have y6:=HCC2.out _ HS2.out.1 6 _ rfl;have y7:=HCC2.out _ HS2.out.1 7 _ rfl;simp only[Sh.kd,Sh.sz,Nat.add_zero]at y0 y1 y2 y3 y4 y5 y6 y7;rw[<- HSB.out]at y1;go_wp2_with fail
   refine (HP2.out _ _ _ HS2.out rfl).mono ?_;rintro e w3 ⟨rfl,hs3,hk3⟩;have HQ:=hid (hs3.fin (F:=F) (by rw[HF.out];rfl));clear hs3 hk3 y0 y1 y2 y3 y4 y5 y6 y7 x0 x1 x2 x3 x4 x5 x6 x7;go_wp2_with fail
   go_end0
   exact HQ.out
  have d5:(k==5)=false:=by simpa using k5
  have HF:Hid (F=if (exR k s).1=5 then kids.exK 2 [tk0 5 s n] else tk0 (exR k s).1 s n::kids.exK 2 []):=hid (by rw[hF];simp only[qm,if_neg k4,if_neg k6,if_neg k7,if_neg k8,if_neg k5]);obtain⟨G,hG⟩:∃ G,G=(if (exR k s).1=5 then kids.exK 2 [tk0 5 s n] else tk0 (exR k s).1 s n::kids.exK 2 []):=⟨_,rfl⟩
  have HCS:Hid (∀ (w:World),Ws w0 base wp xs W [] w->Calls Tryz.prog 85 #[.pointer (some ⟨wp,0,none⟩),.agg #[.int .u8 k,.string ⟨s.toArray⟩,n,p.a,p.l,p.c,.slice A kl c,.slice B al bc]] w (WsQ w0 base wp xs W ([]++G) w)):=hid fun w h=>by
   rw[hG];exact qaX base wp M (by omega) w0 hwp hC k s n p A kl c B al bc kids arms hk (by omega) hs5 hs4 xs W [] w w h (Bel.refl _)
  obtain⟨SS,hSS⟩:∃ S:ByteArray,S=⟨s.toArray⟩:=⟨_,rfl⟩
  rw[<- hG]at HF;rw[<- hSS]at HCS HX1 HS1;rw[<- hSS];clear hk ha hsz hs1 hs2 hs3 hs4 hs5 hs6 hC hP hW hw hx hF hkl hal HB1 hSS hG k4 k5 k6 k7 k8;obtain⟨x0,x1,x2,x3,x4,x5,x6,x7⟩:=box8 HX1.out.1;go_enter Tryz.func42,Tryz.ntmps42
  go_wp2_with fail
  refine (HCS.out _ HS1.out).mono ?_;rintro e w3 ⟨rfl,hs3,hk3⟩;have HQ:=hid (hs3.fin (F:=F) (by rw[HF.out];rfl));clear hs3 hk3;go_wp2_with fail
  go_end0
  exact HQ.out
set_option maxHeartbeats 16000000
def dcK(x:Dc):List Tn:=if x.kd=1 then qeK x.nm x.ps x.cs else zj::(if x.rc then [jw] else [])++[tk0 1 x.nm 0,kwEq]++qm x.k x.s x.n x.kids x.arms
def Dc.shw(x:Dc):Prop:=if x.kd=1 then ∀ c∈x.cs,c.shw else x.tr.shp
theorem qey(base wp:Nat)(w0:World)(hwp:w0.heap.size<=wp)(kd:Int)(nm:List UInt8)(q:Pl)(PA:Option Addr)(pc:Nat)(ps:List (List UInt8))(CA:Option Addr)(cc:Nat)(cs:List Cd)(rc:Bool)(k:Int)(s:List UInt8)(n:Int)(p:Pl)(A:Option Addr)(c:Nat)(B:Option Addr)(bc:Nat)(kids arms:Tr)
  (hp:RowOf 1 SAt w0 (OldT w0) PA ps.length pc ps) (hc:RowOf 5 CdAt w0 (OldT w0) CA cs.length cc cs) (hk:KidsTr w0 (OldT w0) .ex A kids.len c kids) (ha:KidsTr w0 (OldT w0) .arms B arms.len bc arms) (hg:cs.length<=1000000/\ps.length<=1100000/\kids.size+arms.size<=900000/\∀ c∈cs,c.good) (hsh:Dc.shw ⟨kd,nm,q,ps,cs,rc,k,s,n,p,kids,arms⟩) (xs:List Tn) (W:World) (hW:Bel w0 W) (hw:Wri W base wp xs) (hx:xs.length<=5000) :
  Calls Tryz.prog 19 #[.pointer (some ⟨wp,0,none⟩),.agg #[.int .u8 kd,.string ⟨nm.toArray⟩,q.a,q.l,q.c,.slice PA ps.length pc,.slice CA cs.length cc,.bool rc,.int .u8 k,.string ⟨s.toArray⟩,n,p.a,p.l,p.c,.slice A kids.len c,.slice B arms.len bc]] W (WrQ w0 base wp xs (dcK ⟨kd,nm,q,ps,cs,rc,k,s,n,p,kids,arms⟩) W):=by
 have HS:=hid (Ws.start hW hw hx);obtain⟨F,hF⟩:∃ F,F=dcK ⟨kd,nm,q,ps,cs,rc,k,s,n,p,kids,arms⟩:=⟨_,rfl⟩
 rw[<- hF];obtain⟨kl,hkl⟩:∃ l,l=kids.len:=⟨_,rfl⟩
 obtain⟨al,hal⟩:∃ l,l=arms.len:=⟨_,rfl⟩
 obtain⟨pl,hpl⟩:∃ l,l=ps.length:=⟨_,rfl⟩
 obtain⟨cl,hcl⟩:∃ l,l=cs.length:=⟨_,rfl⟩
 obtain⟨SS,hSS⟩:∃ S:ByteArray,S=⟨s.toArray⟩:=⟨_,rfl⟩
 obtain⟨NM,hNM⟩:∃ S:ByteArray,S=⟨nm.toArray⟩:=⟨_,rfl⟩
 have HB1:Hid (Bel W (W.alloc (.cells #[.int .u8 kd,NM,q.a,q.l,q.c,.slice PA pl pc,.slice CA cl cc,.bool rc,.int .u8 k,SS,n,p.a,p.l,p.c,.slice A kl c,.slice B al bc] 59))):=hid ((Bel.refl W).alloc _);have HS1:=hid (HS.out.bel HB1.out);have HX1:=hid (HS.out.box (.cells #[.int .u8 kd,NM,q.a,q.l,q.c,.slice PA pl pc,.slice CA cl cc,.bool rc,.int .u8 k,SS,n,p.a,p.l,p.c,.slice A kl c,.slice B al bc] 59));by_cases h1:kd=1
 ·subst h1
  have HF:Hid (F=qeK nm ps cs):=hid (by rw[hF];rfl);have hsh1:∀ c∈cs,c.shw:=hsh;have HD:Hid (∀ w,Ws w0 base wp xs W [] w->Calls Tryz.prog 49 #[.pointer (some ⟨wp,0,none⟩),.agg #[.int .u8 1,NM,q.a,q.l,q.c,.slice PA pl pc,.slice CA cl cc,.bool rc,.int .u8 k,SS,n,p.a,p.l,p.c,.slice A kl c,.slice B al bc]] w (WsQ w0 base wp xs W ([]++F) w)):=hid fun w h=>by
   rw[HF.out,hNM];exact h.run fun r q1 q2 q3=>qex base wp w0 hwp 1 nm q PA pl pc ps CA cl cc cs rc k SS n p A kl c B al bc (by rw[hpl];exact hp) (by rw[hcl];exact hc) (by omega) (by omega) hsh1 r w q1 q2 q3
  rw[<- hkl,<- hal,<- hpl,<- hcl,<- hSS,<- hNM];clear hp hc hk ha hg hsh hsh1 hW hw hx hF hkl hal hpl hcl hSS hNM HB1;go_enter Tryz.func19,Tryz.ntmps19
  go_wp2_with fail
  refine (HD.out _ HS1.out).mono ?_;rintro e w3 ⟨rfl,hs3,hk3⟩;have HQ:=hid (hs3.fin (F:=F) rfl);clear hs3 hk3;go_wp2_with fail
  go_end0
  exact HQ.out
 have HF:Hid (F=zj::(if rc then [jw] else [])++[tk0 1 nm 0,kwEq]++qm k s n kids arms):=hid (by rw[hF];unfold dcK;rw[if_neg h1]);have hsh1:(Tr.nod k s n p kids arms .nil).shp:=by
  unfold Dc.shw at hsh;rw[if_neg h1]at hsh;exact hsh
 have k1:(kd==1)=false:=by simpa using h1
 have HE:=hid fun xs' W'=>J3 base wp w0 hwp 1000000 (Nat.le_refl _) k s n p A c B bc kids arms xs' W' hk ha (by have:=hg.2.2.1;simp only[Tr.size];omega) hsh1;have HPU:Hid (∀ (pre:List Tn) (w:World) (g:Nat),Ws w0 base wp xs W pre w->g=w.heap.size->Calls Tryz.prog 50 #[.pointer (some ⟨wp,0,none⟩),.slice (some ⟨g,0,none⟩) 2 2] (w.alloc (.cells #[.int .u8 1,.string ⟨nm.toArray⟩,.int .i64 0,.int .i64 0,.int .i64 0,.int .i64 0,.int .u8 5,.string ⟨#[61]⟩,.int .i64 0,.int .i64 0,.int .i64 0,.int .i64 0] 37)) (WsQ w0 base wp xs W (pre++[tk0 1 nm 0,kwEq]) w)):=hid fun pre w g h hg=>h.put2g hwp 1 nm 0 5 [61] 0 2 g hg;obtain⟨F1,hF1⟩:∃ F,F=qm k s n kids arms:=⟨_,rfl⟩
 obtain⟨T1,hT1⟩:∃ T,T=tk0 1 nm 0:=⟨_,rfl⟩
 rw[<- hF1,<- hT1]at HF;rw[<- hkl,<- hal,<- hSS,<- hF1]at HE;rw[<- hNM,<- hT1]at HPU;rw[<- hkl,<- hal,<- hpl,<- hcl,<- hSS,<- hNM];clear hp hc hk ha hg hsh hsh1 hW hw hx hF hkl hal hpl hcl hSS hNM HB1 hF1 hT1 h1;go_enter Tryz.func19,Tryz.ntmps19
 go_wp2_with fail
 refine (qd _ _).mono ?_;rintro e w2 ⟨rfl,hb2⟩;have HS2:=hid (HS1.out.bel hb2);have HX2:=hid (HS1.out.kp hb2 _ _ HX1.out);clear hb2 HS1 HX1;unfold tokV;go_wp2_with fail
 refine (HS2.out.put1 hwp 5 [108,101,116] 0 _).mono ?_;rintro e w3 ⟨rfl,hs3,hk3⟩;have HS3:=hid hs3;have HX3:=hid (hk3 _ _ HX2.out);obtain⟨_,x7,_⟩:=qbP HX3.out.1;have x1:=(Zz HX3.out.1).1;have hl3:W.heap.size<w3.heap.size:=(Array.getElem?_eq_some_iff.1 HX3.out.1).1;clear hs3 hk3 HS2 HX2;cases rc
 ·have HF2:Hid (F=zj::([]++[T1,kwEq]++F1)):=hid (by rw[HF.out];simp)
  go_wp2_with fail
  refine (qS _ _).mono ?_;rintro e w5 ⟨rfl,hb5⟩;have HS5:=hid (HS3.out.bel hb5);have HX5:=hid (HS3.out.kp hb5 _ _ HX3.out);clear hb5 HS3 HX3 x7 x1 hl3;unfold tokV;go_wp2_with fail
  refine (qd _ _).mono ?_;rintro e w6 ⟨rfl,hb6⟩;have HS6:=hid (HS5.out.bel hb6);have HX6:=hid (HS5.out.kp hb6 _ _ HX5.out);clear hb6 HS5 HX5;unfold tokV;go_wp2_with fail
  refine (HPU.out _ _ _ HS6.out rfl).mono ?_;rintro e w7 ⟨rfl,hs7,hk7⟩;have HS7:=hid hs7;have HX7:=hid (hk7 _ _ HX6.out);obtain⟨x6,x7,x8,x9,x10,x11,x12,x13,x14,x15⟩:=qbP HX7.out.1;have hl7:W.heap.size<w7.heap.size:=(Array.getElem?_eq_some_iff.1 HX7.out.1).1;clear hs7 hk7 HS6 HX6;go_wp2_with fail
  refine (HS7.out.run fun r h1 h2 h3=>HE.out r w7 h1 h2 h3).mono ?_;rintro e w8 ⟨rfl,hs8,hk8⟩;have HQ:=hid (hs8.fin (F:=F) (by rw[HF2.out];simp;rfl));clear hs8 hk8 x6 x7 x8 x9 x10 x11 x12 x13 x14 x15 hl7;go_wp2_with fail
  go_end0
  exact HQ.out
 ·have HF2:Hid (F=zj::([jw]++[T1,kwEq]++F1)):=hid (by rw[HF.out];simp)
  go_wp2_with fail
  refine (qd _ _).mono ?_;rintro e w4 ⟨rfl,hb4⟩;have HS4':=hid (HS3.out.bel hb4);have HX4':=hid (HS3.out.kp hb4 _ _ HX3.out);clear hb4 HS3 HX3 x7 x1 hl3;unfold tokV;go_wp2_with fail
  refine (HS4'.out.put1 hwp 5 [114,101,99] 0 _).mono ?_;rintro e w4' ⟨rfl,hs4,hk4⟩;have HS4:=hid hs4;have HX4:=hid (hk4 _ _ HX4'.out);have x1:=(Zz HX4.out.1).1;have hl4:W.heap.size<w4'.heap.size:=(Array.getElem?_eq_some_iff.1 HX4.out.1).1;clear hs4 hk4 HS4' HX4';go_wp2_with fail
  refine (qS _ _).mono ?_;rintro e w5 ⟨rfl,hb5⟩;have HS5:=hid (HS4.out.bel hb5);have HX5:=hid (HS4.out.kp hb5 _ _ HX4.out);clear hb5 HS4 HX4 x1 hl4;unfold tokV;go_wp2_with fail
  refine (qd _ _).mono ?_;rintro e w6 ⟨rfl,hb6⟩;have HS6:=hid (HS5.out.bel hb6);have HX6:=hid (HS5.out.kp hb6 _ _ HX5.out);clear hb6 HS5 HX5;unfold tokV;go_wp2_with fail
  refine (HPU.out _ _ _ HS6.out rfl).mono ?_;rintro e w7 ⟨rfl,hs7,hk7⟩;have HS7:=hid hs7;have HX7:=hid (hk7 _ _ HX6.out);obtain⟨x6,x7,x8,x9,x10,x11,x12,x13,x14,x15⟩:=qbP HX7.out.1;have hl7:W.heap.size<w7.heap.size:=(Array.getElem?_eq_some_iff.1 HX7.out.1).1;clear hs7 hk7 HS6 HX6;go_wp2_with fail
  refine (HS7.out.run fun r h1 h2 h3=>HE.out r w7 h1 h2 h3).mono ?_;rintro e w8 ⟨rfl,hs8,hk8⟩;have HQ:=hid (hs8.fin (F:=F) (by rw[HF2.out];simp;exact⟨rfl,rfl⟩));clear hs8 hk8 x6 x7 x8 x9 x10 x11 x12 x13 x14 x15 hl7;go_wp2_with fail
  go_end0
  exact HQ.out
end Go.Proofs.YtfpoelklhekfaaaGreatDoor.Mu
