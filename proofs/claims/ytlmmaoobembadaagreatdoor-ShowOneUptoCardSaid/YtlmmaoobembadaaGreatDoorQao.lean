import Derived.Test.YtlmmaoobembadaaGreatDoorQan
open Go.Lib (hid)
namespace Go.Proofs.YtlmmaoobembadaaGreatDoor.Mu
set_option maxHeartbeats 4000000
open Go Go.RowKit Go.Shelf
attribute [local go_sem] Oper.semAt_some
set_option linter.unusedVariables false
set_option maxRecDepth 100000
theorem qcL(n:Int):qbc n=.agg #[.int .u8 5,.string ⟨(qr n).s.toArray⟩,(0:Int),(0:Int),(0:Int),(0:Int)]/\qr n=tk0 5 (qr n).s 0:=by
 unfold qbc qr;split
 ·exact⟨rfl,rfl⟩
 split
 ·exact⟨rfl,rfl⟩
 ·exact⟨rfl,rfl⟩
theorem qcQ{base wp M:Nat}{w0:World}{xs:List Tn}{W:World}(hC:TyC w0 base wp M)(hM:M<=1000000)(hwp:w0.heap.size<=wp)(pre:List Tn)(w:World)(g:Nat)(k:Int)(s:List UInt8)(n:Int)(p:Pl)(kids:Tr)(A:Option Addr)(c:Nat)(h:Ws w0 base wp xs W pre w)(hg:g=w.heap.size)(hk:KidsTr w0 (OldT w0) .ty A kids.len c kids)(hs:1+kids.size<=M)(hp:(Tr.nod k s n p kids .nil .nil).shpT) :
  Calls Tryz.prog 137 #[.pointer (some ⟨wp,0,none⟩),.func (.func 138) #[] #[],.func (.func 139) #[.pointer (some ⟨wp,0,none⟩)] #[],.slice (some ⟨g,0,none⟩) 1 1] (w.alloc (.cells #[.int .u8 k,.string ⟨s.toArray⟩,.int .u8 n,p.a,p.l,p.c,.slice A kids.len c] 59))
   (WsQ w0 base wp xs W (pre++brkL (alnT k kids.len) (qI k s n kids)) w):=by
 subst hg;refine h.runA ((Bel.refl w).alloc _) fun r h1 h2 h3=>?_;have hr:RowX w0 (w.alloc (.cells #[.int .u8 k,.string ⟨s.toArray⟩,.int .u8 n,p.a,p.l,p.c,.slice A kids.len c] 59)) wp .ty (some ⟨w.heap.size,0,none⟩) 1 (.nod k s n p kids .nil .nil):=by
  obtain⟨q1,⟨r',q2,_⟩,_⟩:=h;exact RowX.one (sh:= .ty) (B:=none) (bc:=0) (arms:= .nil) (by intro e;cases e) hk (.inr ⟨.inr rfl,rfl⟩) q1 q2
 have hb:=Qn base wp M r _ 1 1 _ w0 _ hC hwp hr (by simp only[Tr.size];omega) hM hp h1 h2 h3;rw[show (Tr.nod k s n p kids .nil .nil).brT=brkL (alnT k kids.len) (qI k s n kids) by simp[Tr.brT]]at hb;exact hb
theorem qh7(base wp:Nat)(w0:World)(hwp:w0.heap.size<=wp)(M:Nat):M<=1000000->TyC w0 base wp M:=by
 induction M with
 | zero=>intro _ k s n p A c kids xs W _ h;omega
 | succ M ih=>
  intro hM k s n p A c kids xs W hk hsz hsh hW hw hx;have hC:TyC w0 base wp M:=ih (by omega);clear ih;have HS:=hid (Ws.start hW hw hx);obtain⟨F,hF⟩:∃ F,F=qI k s n kids:=⟨_,rfl⟩
  rw[<- hF];have hWl:W.heap.size<W.heap.size+1:=by omega
  by_cases k3:k=3
  ·subst k3
   have hl2:kids.len=2:=hsh.1 rfl;obtain⟨b,o,ka,sa,na,pa,kia,ara,A1,c1,B1,d1,kb,sb,nb,pb,kib,arb,A2,c2,B2,d2,rfl,rfl,hlt,hc1,hk1,ha1,hc2,hk2,ha2⟩:=QE (by intro e;cases e) hk hl2;obtain rfl:ara=.nil:=by
    rcases ha1 with ⟨e,_⟩ | ⟨_,e⟩
    ·cases e
    ·exact e
   obtain rfl:arb=.nil:=by
    rcases ha2 with ⟨e,_⟩ | ⟨_,e⟩
    ·cases e
    ·exact e
   have hsh':=hsh.2.1;simp only[Tr.size]at hsz;have hF2:F=brkL (alnT ka kia.len) (qI ka sa na kia)++[qr n]++brkL (alnT kb kib.len) (qI kb sb nb kib):=by
    rw[hF];unfold qI;rw[if_pos rfl];simp[Tr.tyK]
   obtain⟨av1,av2⟩:=qcL n;obtain⟨aw,haw⟩:∃ x,x=(qr n).s:=⟨_,rfl⟩
   rw[<- haw]at av1 av2;have HB1:=hid fun w g h hg=>qcQ (xs:=xs) (W:=W) hC (by omega) hwp [] w g ka sa na pa kia A1 c1 h hg hk1 (by omega) ⟨hsh'.1,hsh'.2.1,trivial⟩;have HB2:=hid fun pre w g h hg=>qcQ (xs:=xs) (W:=W) hC (by omega) hwp pre w g kb sb nb pb kib A2 c2 h hg hk2 (by omega) ⟨hsh'.2.2.1,hsh'.2.2.2.1,trivial⟩;have HC1:=hid hc1;have HC2:=hid hc2;have HLT:=hid hlt;obtain⟨SA,hSA⟩:∃ S:ByteArray,S=⟨sa.toArray⟩:=⟨_,rfl⟩
   obtain⟨SB,hSB⟩:∃ S:ByteArray,S=⟨sb.toArray⟩:=⟨_,rfl⟩
   obtain⟨SS,hSS⟩:∃ S:ByteArray,S=⟨s.toArray⟩:=⟨_,rfl⟩
   obtain⟨AS,hAS⟩:∃ S:ByteArray,S=⟨aw.toArray⟩:=⟨_,rfl⟩
   obtain⟨l1,hl1⟩:∃ l,l=kia.len:=⟨_,rfl⟩
   obtain⟨l2,hl2'⟩:∃ l,l=kib.len:=⟨_,rfl⟩
   have HAR:Hid (∀ W,Calls Tryz.prog 176 #[.int .u8 n] W fun e w'=>e=.returned (.agg #[.int .u8 5,AS,(0:Int),(0:Int),(0:Int),(0:Int)])/\Bel W w'):=hid fun W=>by rw[hAS,<- av1];exact qcM n W
   have HPU:Hid (∀ (pre:List Tn) (w:World) (g:Nat),Ws w0 base wp xs W pre w->g=w.heap.size->Calls Tryz.prog 85 #[.pointer (some ⟨wp,0,none⟩),.slice (some ⟨g,0,none⟩) 1 1] (w.alloc (.cells #[.int .u8 5,.string AS,.int .i64 0,.int .i64 0,.int .i64 0,.int .i64 0] 51)) (WsQ w0 base wp xs W (pre++[qr n]) w)):=hid fun pre w g h hg=>by rw[hAS,av2];exact h.put1g hwp 5 aw 0 1 g hg
   have HF2:=hid hF2;obtain⟨G1,hG1⟩:∃ G,G=brkL (alnT ka kia.len) (qI ka sa na kia):=⟨_,rfl⟩
   obtain⟨G2,hG2⟩:∃ G,G=brkL (alnT kb kib.len) (qI kb sb nb kib):=⟨_,rfl⟩
   rw[<- hG1,<- hSA,<- hl1]at HB1;rw[<- hG2,<- hSB,<- hl2']at HB2;rw[<- hG1,<- hG2]at HF2;rw[<- hSS,hl2];have HCC1:Hid (∀ w,Bel w0 w->∀ j u,(nodV .ty ka sa na pa A1 l1 c1 B1 0 d1)[j]?=some u->w.cell? ⟨b,o+j,none⟩=some u):=by rw[hl1];exact HC1
   have HCC2:Hid (∀ w,Bel w0 w->∀ j u,(nodV .ty kb sb nb pb A2 l2 c2 B2 0 d2)[j]?=some u->w.cell? ⟨b,o+7+j,none⟩=some u):=by rw[hl2'];exact HC2
   have HSA:=hid hSA;have HSB:=hid hSB;clear hk hsz hsh hsh' hW hw hx hC hc1 hc2 hk1 hk2 ha1 ha2 hlt HC1 HC2 hF hF2 av1 av2 haw hG1 hG2 hl1 hl2' hl2 hSS hAS hSA hSB;have HS1:=hid (HS.out.bel ((Bel.refl W).alloc (.cells #[.int .u8 3,SS,.int .u8 n,p.a,p.l,p.c,.slice (some ⟨b,o,none⟩) 2 c] 59)));have HX1:=hid (HS.out.box (.cells #[.int .u8 3,SS,.int .u8 n,p.a,p.l,p.c,.slice (some ⟨b,o,none⟩) 2 c] 59));have y0:=HCC1.out _ HS1.out.1 0 _ rfl;have y1:=HCC1.out _ HS1.out.1 1 _ rfl;have y2:=HCC1.out _ HS1.out.1 2 _ rfl;have y3:=HCC1.out _ HS1.out.1 3 _ rfl;have y4:=HCC1.out _ HS1.out.1 4 _ rfl;have y5:=HCC1.out _ HS1.out.1 5 _ rfl;have y6:=HCC1.out _ HS1.out.1 6 _ rfl;simp only[Sh.kd,Nat.add_zero]at y0 y1 y2 y3 y4 y5 y6;rw[<- HSA.out]at y1;go_enter Tryz.func139,Tryz.ntmps139
   go_wp2_with fail
   refine (HB1.out _ (W.heap.size+1) HS1.out (by simp)).mono ?_;rintro e w2 ⟨rfl,hs2,hk2⟩;have HS2:=hid hs2;have HX2:=hid (hk2 _ _ HX1.out);obtain⟨x0,x1,x2,x3,x4,x5,x6⟩:=box7 HX2.out.1;have hl2:W.heap.size<w2.heap.size:=(Array.getElem?_eq_some_iff.1 HX2.out.1).1;clear hs2 hk2 y0 y1 y2 y3 y4 y5 y6 HS1 HX1;go_wp2_with fail
   refine (HAR.out _).mono ?_;rintro e w3 ⟨rfl,hb3⟩;have HS3:=hid (HS2.out.bel hb3);have HX3:=hid (HS2.out.kp hb3 _ _ HX2.out);clear hb3 x0 x1 x2 x3 x4 x5 x6 hl2;go_wp2_with fail
   refine (HPU.out _ _ _ HS3.out rfl).mono ?_;rintro e w4 ⟨rfl,hs4,hk4⟩;have HS4:=hid hs4;have HX4:=hid (hk4 _ _ HX3.out);obtain⟨x0,x1,x2,x3,x4,x5,x6⟩:=box7 HX4.out.1;have hl4:W.heap.size<w4.heap.size:=(Array.getElem?_eq_some_iff.1 HX4.out.1).1;have y0:=HCC2.out _ HS4.out.1 0 _ rfl;have y1:=HCC2.out _ HS4.out.1 1 _ rfl;have y2:=HCC2.out _ HS4.out.1 2 _ rfl;have y3:=HCC2.out _ HS4.out.1 3 _ rfl;have y4:=HCC2.out _ HS4.out.1 4 _ rfl;have y5:=HCC2.out _ HS4.out.1 5 _ rfl;have y6:=HCC2.out _ HS4.out.1 6 _ rfl;simp only[Sh.kd,Nat.add_zero]at y0 y1 y2 y3 y4 y5 y6;rw[<- HSB.out]at y1;clear hs4 hk4;go_wp2_with fail
   refine (HB2.out _ _ _ HS4.out rfl).mono ?_;rintro e w5 ⟨rfl,hs5,hk5⟩;have HQ:=hid (hs5.fin (F:=F) (by rw[HF2.out];simp));clear hs5 hk5 y0 y1 y2 y3 y4 y5 y6 x0 x1 x2 x3 x4 x5 x6;go_wp2_with fail
   go_end0
   exact HQ.out
  have HR:Hid (∀ W,Calls Tryz.prog 177 #[.agg #[.int .u8 k,.string ⟨s.toArray⟩,.int .u8 n,p.a,p.l,p.c,.slice A kids.len c]] W fun e w'=>e=.returned (.tuple #[.agg #[.int .u8 (tyR k).1,.int .i64 (tyR k).2.1],.bool (tyR k).2.2])/\Bel W w'):=hid fun W=>ZS k s n p A kids.len c W;have HBR:Hid (∀ (pre:List Tn) (w:World),Ws w0 base wp xs W pre w->Calls Tryz.prog 137 #[.pointer (some ⟨wp,0,none⟩),.func (.func 138) #[] #[],.func (.func 139) #[.pointer (some ⟨wp,0,none⟩)] #[],.slice A kids.len c] w (WsQ w0 base wp xs W (pre++kids.brT) w)):=hid fun pre w h=>
   h.run fun r h1 h2 h3=>Qn base wp M r A kids.len c kids w0 w hC hwp (RowX.old hk h1 hwp h2) (by omega) (by omega) hsh.2.1 h1 h2 h3
  obtain⟨tk,htk⟩:∃ t,t=(tyR k).1:=⟨_,rfl⟩
  obtain⟨kc,hkc⟩:∃ t,t=(tyR k).2.1:=⟨_,rfl⟩
  obtain⟨ok,hok⟩:∃ t,t=(tyR k).2.2:=⟨_,rfl⟩
  have HPU:Hid (∀ (pre:List Tn) (w:World) (g:Nat),Ws w0 base wp xs W pre w->g=w.heap.size->Calls Tryz.prog 85 #[.pointer (some ⟨wp,0,none⟩),.slice (some ⟨g,0,none⟩) 1 1] (w.alloc (.cells #[.int .u8 tk,.string ⟨s.toArray⟩,.int .i64 0,.int .i64 0,.int .i64 0,.int .i64 0] 51)) (WsQ w0 base wp xs W (pre++[tk0 tk s 0]) w)):=hid fun pre w g h hg=>h.put1g hwp tk s 0 1 g hg;have HF2:Hid (F=tk0 tk s 0::kids.brT):=hid (by rw[hF,htk,<- Tr.brT_tyK];unfold qI;rw[if_neg k3]);rw[<- htk,<- hkc,<- hok]at HR;obtain⟨T1,hT1⟩:∃ T,T=tk0 tk s 0:=⟨_,rfl⟩
  obtain⟨SS,hSS⟩:∃ S:ByteArray,S=⟨s.toArray⟩:=⟨_,rfl⟩
  obtain⟨l1,hl1⟩:∃ l,l=kids.len:=⟨_,rfl⟩
  rw[<- hSS,<- hl1]at HR;rw[<- hl1]at HBR;rw[<- hSS,<- hT1]at HPU;rw[<- hT1]at HF2;rw[<- hSS,<- hl1];have d3:(k==3)=false:=by simpa using k3
  clear hk hsz hsh hW hw hx hC htk hkc hok hF hT1 hSS hl1 k3;have HS1:=hid (HS.out.bel ((Bel.refl W).alloc (.cells #[.int .u8 k,SS,.int .u8 n,p.a,p.l,p.c,.slice A l1 c] 59)));have HX1:=hid (HS.out.box (.cells #[.int .u8 k,SS,.int .u8 n,p.a,p.l,p.c,.slice A l1 c] 59));go_enter Tryz.func139,Tryz.ntmps139
  go_wp2_with fail
  refine (HR.out _).mono ?_;rintro e w2 ⟨rfl,hb2⟩;have HS2:=hid (HS1.out.bel hb2);have HX2:=hid (HS1.out.kp hb2 _ _ HX1.out);have HS3:=hid (HS2.out.bel ((Bel.refl w2).alloc (.cells #[.int .u8 tk,kc] 146)));have HX3:=hid (HS2.out.kp ((Bel.refl w2).alloc (.cells #[.int .u8 tk,kc] 146)) _ _ HX2.out);obtain⟨x0,x1,x2,x3,x4,x5,x6⟩:=box7 HX2.out.1;have hl2:W.heap.size<w2.heap.size:=(Array.getElem?_eq_some_iff.1 HX2.out.1).1;clear hb2;go_wp2_with fail
  refine (HPU.out _ _ _ HS3.out (by simp)).mono ?_;rintro e w4 ⟨rfl,hs4,hk4⟩;have HS4:=hid hs4;have HX4:=hid (hk4 _ _ HX3.out);clear x0 x1 x2 x3 x4 x5 x6 hl2;obtain⟨x0,x1,x2,x3,x4,x5,x6⟩:=box7 HX4.out.1;have hl4:W.heap.size<w4.heap.size:=(Array.getElem?_eq_some_iff.1 HX4.out.1).1;clear hs4 hk4;go_wp2_with fail
  refine (HBR.out _ _ HS4.out).mono ?_;rintro e w5 ⟨rfl,hs5,hk5⟩;have HQ:=hid (hs5.fin (F:=F) (by rw[HF2.out];simp));clear hs5 hk5 x0 x1 x2 x3 x4 x5 x6;go_wp2_with fail
  go_end0
  exact HQ.out
end Go.Proofs.YtlmmaoobembadaaGreatDoor.Mu
