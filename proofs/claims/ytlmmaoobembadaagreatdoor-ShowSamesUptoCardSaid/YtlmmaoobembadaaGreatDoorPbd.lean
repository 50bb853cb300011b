import Derived.LaidMore
import Derived.Lib.LaidTab
import Derived.Lib.LaidU8T
import Derived.Stop.Joined
import Derived.Test.YtlmmaoobembadaaGreatDoorPbc
open Go.Lib (hid)
namespace Go.Proofs.YtlmmaoobembadaaGreatDoor.Mu
set_option maxHeartbeats 16000000
open Go Go.RowKit Go.Shelf
attribute [local go_sem] Oper.semAt_some
set_option linter.unusedVariables false
set_option maxRecDepth 100000
theorem qic{w:World}{g:Nat}(h:w.heap[g]?=some (.cells #[.int .u8 0,.string ⟨#[]⟩,(0:Int),(0:Int),(0:Int),(0:Int),.slice none 0 0,.slice none 0 0] 32))(j:Nat)(hj:Okz w j):j≠g:=fun e=>hj.2 (by rw[e];exact h)
theorem qhI{w0 w:World}{bS:Nat}(hb:Bel w0 w)(hl:w0.heap.size<=bS)(h:w.heap[bS]?=some (.cells #[.int .u8 0,.string ⟨#[]⟩,(0:Int),(0:Int),(0:Int),(0:Int),.slice none 0 0,.slice none 0 0] 32))(y0 y1 y2 y3 y4 y5 y6 y7:Value){w3:World}
  (hw3:w3=((((((((w.setCell ⟨bS,0,none⟩ y0).setCell ⟨bS,1,none⟩ y1).setCell ⟨bS,2,none⟩ y2).setCell ⟨bS,3,none⟩ y3).setCell ⟨bS,4,none⟩ y4).setCell ⟨bS,5,none⟩ y5).setCell ⟨bS,6,none⟩ y6).setCell ⟨bS,7,none⟩ y7)) :
  Bel w0 w3/\w3.heap[bS]?=some (.cells #[y0,y1,y2,y3,y4,y5,y6,y7] 32 (0,0))/\(∀ A l c f,KidsTr w (Okz w) .ex A l c f->KidsTr w3 (OldT w3) .ex A l c f):=by
 subst hw3;have es:∀ (w:World) (a:Addr) (v:Value),(w.setCell a v).heap.size=w.heap.size:=fun w a v=>by simp[World.setCell]
 refine⟨((((((((hb.set_ hl _).set_ hl _).set_ hl _).set_ hl _).set_ hl _).set_ hl _).set_ hl _).set_ hl _),qfP h _ _ _ _ _ _ _ _,fun A l c f hk=>(hk.keep fun j hj=>qfQ _ _ _ _ _ _ _ _ j (qic h j hj)).wide fun j hj=>?_⟩;show j<_
 simp only[es];exact hj.1
theorem jI{w:World}{F:Tr}{vs:List Value}(h:Tells w (OldT w) .ex F vs)(m:Nat)(hm:m=F.len) :
  KidsTr (w.alloc (.cells vs.toArray 32)) (OldT (w.alloc (.cells vs.toArray 32))) .ex (some ⟨w.heap.size,0,none⟩) m m F:=by
 have hb:Bel w (w.alloc (.cells vs.toArray 32)):=(Bel.refl w).alloc _;refine⟨hm,Nat.le_refl _,fun _=>⟨w.heap.size,0,rfl,by show w.heap.size<_;simp,?_⟩⟩;refine (h.2.2 _ w.heap.size 0 (fun j u hu=>?_) (fun j hj=>hb.block j hj)).wide (fun j hj=>Nat.lt_of_lt_of_le hj hb.size) _ _ _ _;unfold World.cell?
 simp only[blk1];simpa using hu
theorem qiW:(Tr.nod 10 [43] 0 p00 kSum .nil .nil).ints:=by simp[Tr.ints,fitN,kSum,kFg,kGx,tN,tO,t1]
theorem qiV:(Tr.nod 4 [120] 0 p00 kLam .nil .nil).ints:=by simp[Tr.ints,fitN,kLam,kCn,tN,tO]
theorem i_ax:(Tr.nod 5 [] 0 p00 kAx .nil .nil).ints:=by simp[Tr.ints,fitN,kAx,tN,tO]
theorem i_a:(Tr.nod 9 [65] 0 p00 kX .nil .nil).ints:=by simp[Tr.ints,fitN,kX,tN,tO]
theorem qab(w:World)(ht:Tbl w):Calls Tryz.prog 7 #[] w (qi true w):=by
 have HT:=hid ht;clear ht;have HB1:Hid (Bel w (w.alloc (.cells #[.int .u8 2,.string ⟨#[]⟩,.int .i64 1,(0:Int),(0:Int),(0:Int),.slice none 0 0,.slice none 0 0] 32))):=hid ((Bel.refl w).alloc _);have HO1:Hid ((w.alloc (.cells #[.int .u8 2,.string ⟨#[]⟩,.int .i64 1,(0:Int),(0:Int),(0:Int),.slice none 0 0,.slice none 0 0] 32)).heap[w.heap.size]?=some (.cells #[.int .u8 2,.string ⟨#[]⟩,.int .i64 1,(0:Int),(0:Int),(0:Int),.slice none 0 0,.slice none 0 0] 32 (0,0))):=hid (blk1 w _);go_enter Tryz.func7,Tryz.ntmps7
 go_wp2_with fail
 refine qdO w.heap.size (w.heap.size+1) _ _ _ _ _ _ _ _ _ _ _ _ _ _ _ _ _ _ _ _ _ _ _ _ _ _ _ _ _ _ _ _ _ _ _ _ _ _ _ _ _ _ _ _ _ _ _ _ _ _ _ _ _ _ _ _ _ _ _ _ _ _ _ _ _ _ _ _ _ _ _ _ _ _ _ _ _ _ _ _ _ _ _ _ _ _ _ _ _ _ _ _ _ _ _ _ _ _ _ _ _ _ _ _ _ _ _ _ _ _ _ _ _ _ _ _ _ _ _ _ _ _ _ _ _ _ _ (w.alloc (.cells #[.int .u8 2,.string ⟨#[]⟩,.int .i64 1,(0:Int),(0:Int),(0:Int),.slice none 0 0,.slice none 0 0] 32)) HO1.out (by show _<=(w.alloc _).heap.size;simp) _ ?_;rintro V w2 hb2 ⟨gS,hv9,hkS⟩ ⟨bS,hv10,hz,hlS⟩;simp only[regKs,List.drop_succ_cons,List.drop_zero,qgv,hv9,hv10];obtain⟨c0,c1,c2,c3,c4,c5,c6,c7⟩:=qge hz;obtain⟨f0,f1,f2,f3,f4,f5,f6,f7⟩:=qfi hz;have hl2:bS<w2.heap.size:=(Array.getElem?_eq_some_iff.1 hz).1;have HB2:Hid (Bel (w.alloc (.cells #[.int .u8 2,.string ⟨#[]⟩,.int .i64 1,(0:Int),(0:Int),(0:Int),.slice none 0 0,.slice none 0 0] 32)) w2):=hid ((Bel.refl _).drew.on hb2);have HZ:=hid hz;have HKS:=hid hkS;have HLS:Hid ((w.alloc (.cells #[.int .u8 2,.string ⟨#[]⟩,.int .i64 1,(0:Int),(0:Int),(0:Int),.slice none 0 0,.slice none 0 0] 32)).heap.size<=bS):=hid (by simpa using hlS);clear hb2 hv9 hv10 hkS hz hlS;go_wp2_with fail
 obtain⟨w3,hw3⟩:∃ w3,w3=((((((((w2.setCell ⟨bS,0,none⟩ (.int .u8 10)).setCell ⟨bS,1,none⟩ (.string ⟨#[43]⟩)).setCell ⟨bS,2,none⟩ (.int .i64 0)).setCell ⟨bS,3,none⟩ (.int .i64 0)).setCell ⟨bS,4,none⟩ (.int .i64 0)).setCell ⟨bS,5,none⟩ (.int .i64 0)).setCell ⟨bS,6,none⟩ (.slice (some ⟨gS,0,none⟩) 2 2)).setCell ⟨bS,7,none⟩ (.slice none 0 0)):=⟨_,rfl⟩
 rw[<- hw3];obtain⟨hb3,hs3,hk3⟩:=qhI HB2.out HLS.out HZ.out _ _ _ _ _ _ _ _ hw3;have HB3:=hid (HB1.out.on hb3);have HO3:=hid (hb3.blk HO1.out);have HS3:=hid hs3;have HK3:=hid (hk3 _ _ _ _ HKS.out);clear hb3 hs3 hk3 hw3 c0 c1 c2 c3 c4 c5 c6 c7 f0 f1 f2 f3 f4 f5 f6 f7 hl2 HB1 HO1 HB2 HZ HKS HLS;refine (qU _ _).mono ?_;rintro e w4 ⟨rfl,hb4⟩;have HB4:=hid (HB3.out.on hb4);have HO4:=hid (hb4.blk HO3.out);have HS4:=hid (hb4.blk HS3.out);have HK4:=hid (HK3.out.bel hb4);clear hb4 HB3 HO3 HS3 HK3;go_wp2_with fail
 refine (qP 9 ⟨#[78,105,108]⟩ none 0 0 _).mono ?_;rintro e w5 ⟨rfl,hb5⟩;have HB5:=hid (HB4.out.on hb5);have HO5:=hid (hb5.blk HO4.out);have HS5:=hid (hb5.blk HS4.out);have HK5:=hid (HK4.out.bel hb5);clear hb5 HB4 HO4 HS4 HK4;go_wp2_with fail
 have hkC:KidsTr (w5.alloc (.cells #[.int .u8 1,.string ⟨#[120]⟩,(0:Int),(0:Int),(0:Int),(0:Int),.slice none 0 0,.slice none 0 0,.int .u8 9,.string ⟨#[78,105,108]⟩,(0:Int),(0:Int),(0:Int),(0:Int),.slice none 0 0,.slice none 0 0] 32)) (OldT (w5.alloc (.cells #[.int .u8 1,.string ⟨#[120]⟩,(0:Int),(0:Int),(0:Int),(0:Int),.slice none 0 0,.slice none 0 0,.int .u8 9,.string ⟨#[78,105,108]⟩,(0:Int),(0:Int),(0:Int),(0:Int),.slice none 0 0,.slice none 0 0] 32))) .ex (some ⟨w5.heap.size,0,none⟩) 2 2 kCn:=jI ((Q6 [120]).app (Qn 9 [78,105,108] (qy w5 _ .ex))) 2 rfl;have HKC:=hid hkC;clear hkC;refine (qP 9 ⟨#[67,111,110,115]⟩ (some ⟨w5.heap.size,0,none⟩) 2 2 _).mono ?_;rintro e w6 ⟨rfl,hb6'⟩;have hb6:Bel w5 w6:=((Bel.refl w5).alloc _).on hb6';have HC6:=hid (HKC.out.bel hb6');clear HKC hb6';have HB6:=hid (HB5.out.on hb6);have HO6:=hid (hb6.blk HO5.out);have HS6:=hid (hb6.blk HS5.out);have HK6:=hid (HK5.out.bel hb6);clear HB5 HO5 HS5 HK5;clear hb6;go_wp2_with fail
 have hkM:KidsTr (w6.alloc (.cells #[.int .u8 9,.string ⟨#[67,111,110,115]⟩,(0:Int),(0:Int),(0:Int),(0:Int),.slice (some ⟨w5.heap.size,0,none⟩) 2 2,.slice none 0 0] 32)) (OldT (w6.alloc (.cells #[.int .u8 9,.string ⟨#[67,111,110,115]⟩,(0:Int),(0:Int),(0:Int),(0:Int),.slice (some ⟨w5.heap.size,0,none⟩) 2 2,.slice none 0 0] 32))) .ex (some ⟨w6.heap.size,0,none⟩) 1 1 kLam:=jI (Qn 9 [67,111,110,115] HC6.out) 1 rfl;have HKM:=hid hkM;clear hkM;refine (qP 4 ⟨#[120]⟩ (some ⟨w6.heap.size,0,none⟩) 1 1 _).mono ?_;rintro e w7 ⟨rfl,hb7'⟩;have hb7:Bel w6 w7:=((Bel.refl w6).alloc _).on hb7';have HM7:=hid (HKM.out.bel hb7');clear HKM hb7';have HB7:=hid (HB6.out.on hb7);have HO7:=hid (hb7.blk HO6.out);have HS7:=hid (hb7.blk HS6.out);have HK7:=hid (HK6.out.bel hb7);clear HB6 HO6 HS6 HK6 HC6;clear hb7;have hb8:Bel w7 (w7.alloc (.cells #[.int .u8 4,.string ⟨#[120]⟩,(0:Int),(0:Int),(0:Int),(0:Int),.slice (some ⟨w6.heap.size,0,none⟩) 1 1,.slice none 0 0] 32)):=(Bel.refl w7).alloc _;have HL8:Hid ((w7.alloc (.cells #[.int .u8 4,.string ⟨#[120]⟩,(0:Int),(0:Int),(0:Int),(0:Int),.slice (some ⟨w6.heap.size,0,none⟩) 1 1,.slice none 0 0] 32)).heap[w7.heap.size]?=some (.cells #[.int .u8 4,.string ⟨#[120]⟩,(0:Int),(0:Int),(0:Int),(0:Int),.slice (some ⟨w6.heap.size,0,none⟩) 1 1,.slice none 0 0] 32)):=hid (blk1 w7 _);obtain⟨x0,x1,x2,x3,x4,x5,x6,x7⟩:=box8 HS7.out;have hlS:bS<w7.heap.size:=(Array.getElem?_eq_some_iff.1 HS7.out).1;have HB8:=hid (HB7.out.on hb8);have HO8:=hid (hb8.blk HO7.out);have HS8:=hid (hb8.blk HS7.out);have HK8:=hid (HK7.out.bel hb8);have HM8:=hid (HM7.out.bel hb8);clear HB7 HO7 HS7 HK7 HM7;clear hb8;go_wp2_with fail
 refine (QE 10 [43] 0 (some ⟨gS,0,none⟩) 2 2 kSum [40,32,102,32,40,32,103,32,120,32,41,32,41,32,43,32,49] _ HK8.out (by decide) (by decide) (HT.out.bel HB8.out) qiW qiw qjc).mono ?_;rintro e w9 ⟨rfl,hb9⟩;have HB9:=hid (HB8.out.on hb9);have HO9:=hid (hb9.blk HO8.out);have HS9:=hid (hb9.blk HS8.out);have HK9:=hid (HK8.out.bel hb9);have HM9:=hid (HM8.out.bel hb9);have HL9:=hid (hb9.blk HL8.out);clear HB8 HO8 HS8 HK8 HM8 HL8;clear hb9 x0 x1 x2 x3 x4 x5 x6 x7 hlS;obtain⟨x0,x1,x2,x3,x4,x5,x6,x7⟩:=box8 HL9.out;have hlL:w7.heap.size<w9.heap.size:=(Array.getElem?_eq_some_iff.1 HL9.out).1;go_wp2_with fail
 refine (QE 4 [120] 0 (some ⟨w6.heap.size,0,none⟩) 1 1 kLam [92,32,120,32,45,62,32,67,111,110,115,32,120,32,78,105,108] _ HM9.out (by decide) (by decide) (HT.out.bel HB9.out) qiV qiv qjb).mono ?_;rintro e w10 ⟨rfl,hb10⟩;have HB10:=hid (HB9.out.on hb10);have HO10:=hid (hb10.blk HO9.out);have HS10:=hid (hb10.blk HS9.out);have HK10:=hid (HK9.out.bel hb10);have HM10:=hid (HM9.out.bel hb10);have HL10:=hid (hb10.blk HL9.out);clear HB9 HO9 HS9 HK9 HM9 HL9;clear hb10 x0 x1 x2 x3 x4 x5 x6 x7 hlL;go_wp2_with fail
 refine (qP 9 ⟨#[65]⟩ none 0 0 _).mono ?_;rintro e w11 ⟨rfl,hb11⟩;have HB11:=hid (HB10.out.on hb11);have HO11:=hid (hb11.blk HO10.out);have HS11:=hid (hb11.blk HS10.out);have HK11:=hid (HK10.out.bel hb11);have HM11:=hid (HM10.out.bel hb11);have HL11:=hid (hb11.blk HL10.out);clear HB10 HO10 HS10 HK10 HM10 HL10;clear hb11;go_wp2_with fail
 refine (qU _ _).mono ?_;rintro e w12 ⟨rfl,hb12⟩;have HB12:=hid (HB11.out.on hb12);have HO12:=hid (hb12.blk HO11.out);have HS12:=hid (hb12.blk HS11.out);have HK12:=hid (HK11.out.bel hb12);have HM12:=hid (HM11.out.bel hb12);have HL12:=hid (hb12.blk HL11.out);clear HB11 HO11 HS11 HK11 HM11 HL11;clear hb12;go_wp2_with fail
 have hkx:KidsTr (w12.alloc (.cells #[.int .u8 9,.string ⟨#[65]⟩,(0:Int),(0:Int),(0:Int),(0:Int),.slice none 0 0,.slice none 0 0,.int .u8 1,.string ⟨#[120]⟩,(0:Int),(0:Int),(0:Int),(0:Int),.slice none 0 0,.slice none 0 0] 32)) (OldT (w12.alloc (.cells #[.int .u8 9,.string ⟨#[65]⟩,(0:Int),(0:Int),(0:Int),(0:Int),.slice none 0 0,.slice none 0 0,.int .u8 1,.string ⟨#[120]⟩,(0:Int),(0:Int),(0:Int),(0:Int),.slice none 0 0,.slice none 0 0] 32))) .ex (some ⟨w12.heap.size,0,none⟩) 2 2 kAx:=jI ((Qn 9 [65] (qy w12 _ .ex)).app (Q6 [120])) 2 rfl;have HKX:=hid hkx;clear hkx;refine (qP 5 ⟨#[]⟩ (some ⟨w12.heap.size,0,none⟩) 2 2 _).mono ?_;rintro e w13 ⟨rfl,hb13'⟩;have hb13:Bel w12 w13:=((Bel.refl w12).alloc _).on hb13';have HX13:=hid (HKX.out.bel hb13');clear HKX hb13';have HB13:=hid (HB12.out.on hb13);have HO13:=hid (hb13.blk HO12.out);have HS13:=hid (hb13.blk HS12.out);have HK13:=hid (HK12.out.bel hb13);have HM13:=hid (HM12.out.bel hb13);have HL13:=hid (hb13.blk HL12.out);clear HB12 HO12 HS12 HK12 HM12 HL12;clear hb13;go_wp2_with fail
 refine (QE 5 [] 0 (some ⟨w12.heap.size,0,none⟩) 2 2 kAx [40,32,65,32,41,32,120] _ HX13.out (by decide) (by decide) (HT.out.bel HB13.out) i_ax m_ax w_ax).mono ?_;rintro e w14 ⟨rfl,hb14⟩;have HB14:=hid (HB13.out.on hb14);have HO14:=hid (hb14.blk HO13.out);have HS14:=hid (hb14.blk HS13.out);have HK14:=hid (HK13.out.bel hb14);have HM14:=hid (HM13.out.bel hb14);have HL14:=hid (hb14.blk HL13.out);clear HB13 HO13 HS13 HK13 HM13 HL13;clear hb14 HX13;go_wp2_with fail
 refine (qU _ _).mono ?_;rintro e w15 ⟨rfl,hb15⟩;have HB15:=hid (HB14.out.on hb15);have HO15:=hid (hb15.blk HO14.out);have HS15:=hid (hb15.blk HS14.out);have HK15:=hid (HK14.out.bel hb15);have HM15:=hid (HM14.out.bel hb15);have HL15:=hid (hb15.blk HL14.out);clear HB14 HO14 HS14 HK14 HM14 HL14;clear hb15;go_wp2_with fail
 have hkx:KidsTr (w15.alloc (.cells #[.int .u8 1,.string ⟨#[120]⟩,(0:Int),(0:Int),(0:Int),(0:Int),.slice none 0 0,.slice none 0 0] 32)) (OldT (w15.alloc (.cells #[.int .u8 1,.string ⟨#[120]⟩,(0:Int),(0:Int),(0:Int),(0:Int),.slice none 0 0,.slice none 0 0] 32))) .ex (some ⟨w15.heap.size,0,none⟩) 1 1 kX:=jI (Q6 [120]) 1 rfl;have HKX:=hid hkx;clear hkx;refine (qP 9 ⟨#[65]⟩ (some ⟨w15.heap.size,0,none⟩) 1 1 _).mono ?_;rintro e w16 ⟨rfl,hb16'⟩;have hb16:Bel w15 w16:=((Bel.refl w15).alloc _).on hb16';have HX16:=hid (HKX.out.bel hb16');clear HKX hb16';have HB16:=hid (HB15.out.on hb16);have HO16:=hid (hb16.blk HO15.out);have HS16:=hid (hb16.blk HS15.out);have HK16:=hid (HK15.out.bel hb16);have HM16:=hid (HM15.out.bel hb16);have HL16:=hid (hb16.blk HL15.out);clear HB15 HO15 HS15 HK15 HM15 HL15;clear hb16;go_wp2_with fail
 refine (QE 9 [65] 0 (some ⟨w15.heap.size,0,none⟩) 1 1 kX [65,32,120] _ HX16.out (by decide) (by decide) (HT.out.bel HB16.out) i_a m_a w_a).mono ?_;rintro e w17 ⟨rfl,hb17⟩;have HB17:=hid (HB16.out.on hb17);have HO17:=hid (hb17.blk HO16.out);have HS17:=hid (hb17.blk HS16.out);have HK17:=hid (HK16.out.bel hb17);have HM17:=hid (HM16.out.bel hb17);have HL17:=hid (hb17.blk HL16.out);clear HB16 HO16 HS16 HK16 HM16 HL16;clear hb17 HX16;go_wp2_with fail
 obtain⟨w18,hw18⟩:∃ w18,w18=(((((((w17.alloc (.cells #[.int .u8 1,.string ⟨#[97]⟩,.int .u8 0,(0:Int),(0:Int),(0:Int),.slice none 0 0] 59)).alloc (.cells #[.string ⟨#[97]⟩] 9)).alloc (.cells #[.int .u8 1,.string ⟨#[97]⟩,.int .u8 0,(0:Int),(0:Int),(0:Int),.slice none 0 0] 59)).alloc (.cells #[.int .u8 1,.int .u8 2,.string ⟨#[76,105,115,116]⟩,.int .u8 0,(0:Int),(0:Int),(0:Int),.slice (some ⟨w17.heap.size+1+1,0,none⟩) 1 1,.int .u8 2,.int .u8 1,.string ⟨#[97]⟩,.int .u8 0,(0:Int),(0:Int),(0:Int),.slice none 0 0] 61)).alloc (.cells #[.string ⟨#[65]⟩,(0:Int),(0:Int),(0:Int),.slice (some ⟨w17.heap.size+1+1+1,0,none⟩) 2 2] 64)).alloc (.cells #[.int .u8 1,.string ⟨#[84]⟩,(0:Int),(0:Int),(0:Int),.slice (some ⟨w17.heap.size+1,0,none⟩) 1 1,.slice (some ⟨w17.heap.size+1+1+1+1,0,none⟩) 1 1,.bool false,.int .u8 0,.string ⟨#[]⟩,(0:Int),(0:Int),(0:Int),(0:Int),.slice none 0 0,.slice none 0 0] 34)).alloc (.cells #[.int .u8 1,.string ⟨#[84]⟩,(0:Int),(0:Int),(0:Int),.slice (some ⟨w17.heap.size+1,0,none⟩) 1 1,.slice (some ⟨w17.heap.size+1+1+1+1,0,none⟩) 1 1,.bool false,.int .u8 0,.string ⟨#[]⟩,(0:Int),(0:Int),(0:Int),(0:Int),.slice none 0 0,.slice none 0 0] 34)):=⟨_,rfl⟩
 rw[<- hw18];have hb18:Bel w17 w18:=by rw[hw18];exact ((((((((Bel.refl w17).alloc _).alloc _).alloc _).alloc _).alloc _).alloc _).alloc _)
 obtain⟨q0,q1,q2,q3,q4,q5,q6⟩:w18.heap[w17.heap.size]?=some (.cells #[.int .u8 1,.string ⟨#[97]⟩,.int .u8 0,(0:Int),(0:Int),(0:Int),.slice none 0 0] 59)/\w18.heap[w17.heap.size+1]?=some (.cells #[.string ⟨#[97]⟩] 9)/\w18.heap[w17.heap.size+1+1]?=some (.cells #[.int .u8 1,.string ⟨#[97]⟩,.int .u8 0,(0:Int),(0:Int),(0:Int),.slice none 0 0] 59)/\w18.heap[w17.heap.size+1+1+1]?=some (.cells #[.int .u8 1,.int .u8 2,.string ⟨#[76,105,115,116]⟩,.int .u8 0,(0:Int),(0:Int),(0:Int),.slice (some ⟨w17.heap.size+1+1,0,none⟩) 1 1,.int .u8 2,.int .u8 1,.string ⟨#[97]⟩,.int .u8 0,(0:Int),(0:Int),(0:Int),.slice none 0 0] 61)/\w18.heap[w17.heap.size+1+1+1+1]?=some (.cells #[.string ⟨#[65]⟩,(0:Int),(0:Int),(0:Int),.slice (some ⟨w17.heap.size+1+1+1,0,none⟩) 2 2] 64)/\w18.heap[w17.heap.size+1+1+1+1+1]?=some (.cells #[.int .u8 1,.string ⟨#[84]⟩,(0:Int),(0:Int),(0:Int),.slice (some ⟨w17.heap.size+1,0,none⟩) 1 1,.slice (some ⟨w17.heap.size+1+1+1+1,0,none⟩) 1 1,.bool false,.int .u8 0,.string ⟨#[]⟩,(0:Int),(0:Int),(0:Int),(0:Int),.slice none 0 0,.slice none 0 0] 34)/\w18.heap[w17.heap.size+1+1+1+1+1+1]?=some (.cells #[.int .u8 1,.string ⟨#[84]⟩,(0:Int),(0:Int),(0:Int),.slice (some ⟨w17.heap.size+1,0,none⟩) 1 1,.slice (some ⟨w17.heap.size+1+1+1+1,0,none⟩) 1 1,.bool false,.int .u8 0,.string ⟨#[]⟩,(0:Int),(0:Int),(0:Int),(0:Int),.slice none 0 0,.slice none 0 0] 34):=by
  rw[hw18];exact blk7 w17 _ _ _ _ _ _ _
 have hps:=qja q1;have hcs:=qiP (qiU q2 q3) q4;have HPS:=hid hps;have HCS:=hid hcs;have HDR:=hid (qi3 hps hcs q6);have HD18:=hid q5;clear hps hcs q0 q1 q2 q3 q4 q5 q6 hw18;have HB18:=hid (HB17.out.on hb18);have HO18:=hid (hb18.blk HO17.out);have HS18:=hid (hb18.blk HS17.out);have HK18:=hid (HK17.out.bel hb18);have HM18:=hid (HM17.out.bel hb18);have HL18:=hid (hb18.blk HL17.out);clear HB17 HO17 HS17 HK17 HM17 HL17;clear hb18;have htx:=qeP (some ⟨w17.heap.size+1+1+1+1+1+1,0,none⟩) 1 1 [kD] w18 HDR.out (by decide) (fun x hx=>by rw[List.mem_singleton.1 hx];exact qig) (HT.out.bel HB18.out);rw[w_d]at htx;refine htx.mono ?_;clear htx;rintro e w19 ⟨rfl,hb19⟩;have HPS19:=hid (HPS.out.bel qR hb19);have HCS19:=hid (HCS.out.bel qv hb19);clear HPS HCS HDR;have HB19:=hid (HB18.out.on hb19);have HO19:=hid (hb19.blk HO18.out);have HS19:=hid (hb19.blk HS18.out);have HK19:=hid (HK18.out.bel hb19);have HM19:=hid (HM18.out.bel hb19);have HL19:=hid (hb19.blk HL18.out);have HD19:=hid (hb19.blk HD18.out);clear HB18 HO18 HS18 HK18 HM18 HL18 HD18;clear hb19;obtain⟨x0,x1,x2,x3,x4,x5,x6,x7,x8,x9,x10,x11,x12,x13,x14,x15⟩:=Qt HD19.out;have hlD:w17.heap.size+1+1+1+1+1<w19.heap.size:=(Array.getElem?_eq_some_iff.1 HD19.out).1;have HDP:=hid (zm 1 [84] p00 (some ⟨w17.heap.size+1,0,none⟩) 1 1 (some ⟨w17.heap.size+1+1+1+1,0,none⟩) 1 1 false 0 [] 0 p00 none 0 none 0 .nil .nil [kCd] w19 (qy w19 _ .ex) (qy w19 _ .arms) (by decide) HCS19.out (by decide) (by decide));go_wp2_with fail
 refine HDP.out.mono ?_;rintro e w20 ⟨rfl,hb20⟩;rw[show ((zV 1 (Tr.nod 0 [] 0 p00 Tr.nil Tr.nil Tr.nil) [kCd]:Nat):Int)=2 from by decide];have HB20:=hid (HB19.out.on hb20);have HO20:=hid (hb20.blk HO19.out);have HS20:=hid (hb20.blk HS19.out);have HK20:=hid (HK19.out.bel hb20);have HM20:=hid (HM19.out.bel hb20);have HL20:=hid (hb20.blk HL19.out);have HD20:=hid (hb20.blk HD19.out);clear HB19 HO19 HS19 HK19 HM19 HL19 HD19;clear hb20 HDP x0 x1 x2 x3 x4 x5 x6 x7 x8 x9 x10 x11 x12 x13 x14 x15 hlD HPS19 HCS19;obtain⟨x0,x1,x2,x3,x4,x5,x6,x7⟩:=box8 HS20.out;have hlS:bS<w20.heap.size:=(Array.getElem?_eq_some_iff.1 HS20.out).1;have HDP:=hid (zm 2 [] p00 none 0 0 none 0 0 false 10 [43] 0 p00 (some ⟨gS,0,none⟩) 2 none 0 kSum .nil [] w20 HK20.out (qy w20 _ .arms) (by decide) ⟨rfl,Nat.le_refl _,fun h=>absurd h (by decide)⟩ (by decide) (by decide));go_wp2_with fail
 refine HDP.out.mono ?_;rintro e w21 ⟨rfl,hb21⟩;rw[show ((zV 2 (Tr.nod 10 [43] 0 p00 kSum Tr.nil Tr.nil) []:Nat):Int)=4 from by decide];have HB21:=hid (HB20.out.on hb21);have HO21:=hid (hb21.blk HO20.out);have HS21:=hid (hb21.blk HS20.out);have HK21:=hid (HK20.out.bel hb21);have HM21:=hid (HM20.out.bel hb21);have HL21:=hid (hb21.blk HL20.out);have HD21:=hid (hb21.blk HD20.out);clear HB20 HO20 HS20 HK20 HM20 HL20 HD20;clear hb21 HDP x0 x1 x2 x3 x4 x5 x6 x7 hlS;obtain⟨x0,x1,x2,x3,x4,x5,x6,x7⟩:=box8 HL21.out;have hlL:w7.heap.size<w21.heap.size:=(Array.getElem?_eq_some_iff.1 HL21.out).1;have HDP:=hid (zm 2 [] p00 none 0 0 none 0 0 false 4 [120] 0 p00 (some ⟨w6.heap.size,0,none⟩) 1 none 0 kLam .nil [] w21 HM21.out (qy w21 _ .arms) (by decide) ⟨rfl,Nat.le_refl _,fun h=>absurd h (by decide)⟩ (by decide) (by decide));go_wp2_with fail
 refine HDP.out.mono ?_;rintro e w22 ⟨rfl,hb22⟩;rw[show ((zV 2 (Tr.nod 4 [120] 0 p00 kLam Tr.nil Tr.nil) []:Nat):Int)=3 from by decide];have HB22:=hid (HB21.out.on hb22);have HO22:=hid (hb22.blk HO21.out);have HS22:=hid (hb22.blk HS21.out);have HK22:=hid (HK21.out.bel hb22);have HM22:=hid (HM21.out.bel hb22);have HL22:=hid (hb22.blk HL21.out);have HD22:=hid (hb22.blk HD21.out);clear HB21 HO21 HS21 HK21 HM21 HL21 HD21;clear hb22 HDP x0 x1 x2 x3 x4 x5 x6 x7 hlL;go_wp2_with fail
 refine qdR w.heap.size _ _ _ _ _ _ _ _ _ _ _ _ _ _ _ _ _ _ _ _ _ _ _ _ _ _ _ _ _ _ _ _ _ _ _ _ _ _ _ _ _ _ _ _ _ _ _ _ _ _ _ _ _ _ _ _ _ _ _ _ _ _ _ _ _ _ _ _ _ _ _ _ _ _ _ _ _ _ _ _ _ _ _ _ _ _ _ _ _ _ _ _ _ _ _ _ _ _ _ _ _ _ _ _ _ _ _ _ _ _ _ _ _ _ _ _ _ _ _ _ _ _ _ _ _ _ _ w22 HO22.out _ ?_;rintro V2 w23 hb23' ⟨gW,hv7,hkW⟩ hv8 hv9;simp only[qgw,hv7,hv8,hv9];have hb23:Bel w22 w23:=(Bel.refl _).drew.on hb23';have HKW:Hid (KidsTr w23 (OldT w23) .ex (some ⟨gW,0,none⟩) 3 3 kBad):=hid (hkW.wide fun j hj=>hj.1);clear hb23' hv7 hv8 hv9 hkW;have HB23:=hid (HB22.out.on hb23);have HO23:=hid (hb23.blk HO22.out);have HS23:=hid (hb23.blk HS22.out);have HK23:=hid (HK22.out.bel hb23);have HM23:=hid (HM22.out.bel hb23);have HL23:=hid (hb23.blk HL22.out);have HD23:=hid (hb23.blk HD22.out);clear HB22 HO22 HS22 HK22 HM22 HL22 HD22;clear hb23
 (try simp only[Exit.then])
 go_wp2_with fail
 go_loopw [102] (fun i wr=>∃ j:Nat,j<=3/\i=.int .i64 (j:Int)/\Hid (Bel w23 wr)) (fun i _=>3-(intOf i).toNat)
 case atStart=>exact⟨0,Nat.zero_le _,rfl,hid (Bel.refl _)⟩
 case round=>
  obtain⟨j,hj,rfl,HBR⟩:=hrel;by_cases hlt:j<3
  ·obtain⟨ub,uo,eA,hob,hT⟩:=(HKW.out.bel HBR.out).2.2 (by decide)
   obtain⟨k,s,n,p,kids,arms,en,ha⟩:=TrAt.nod_at (by intro e;cases e) kBad j ub uo hT hlt;obtain⟨k',s',kids',en',hm,hi,hsz⟩:=qgJ j hlt;rw[en]at en';simp only[Tr.nod.injEq,and_true]at en';obtain⟨rfl,rfl,rfl,rfl,rfl,rfl⟩:=en';obtain⟨A',c',B',bc',hcs,hkk,hka,_⟩:=ha.parts;have hka':KidsTr wr (OldT wr) .arms B' 0 bc' .nil:=by
    rcases hka with h | ⟨h | h,_⟩
    ·exact h.2
    ·cases h
    ·cases h
   obtain⟨ub',uo'⟩:ub=gW/\uo=0:=by
    injection eA with e
    injection e with e1 e2 _
    exact⟨e1.symm,e2.symm⟩
   subst ub' uo';have HC:Hid (∀ W,Bel wr W->Calls Tryz.prog 18 #[.agg #[.int .u8 k,.string ⟨s.toArray⟩,(0:Int),(0:Int),(0:Int),(0:Int),.slice A' kids.len c',.slice B' 0 bc']] W fun e w'=>e=.returned (.tuple #[.string ⟨#[]⟩,.int .i64 2])/\Bel W w'):=hid fun W hW=>by
    have hem:=ZT (k:=k) (s:=s) (n:=0) (p:=p00) (arms:= .nil) (hkk.bel hW) (hka'.bel hW);rw[hm,Bool.false_and]at hem;have hO:txO k s 0 p00 kids .nil=([],2):=by unfold txO;rw[hem];rfl
    have h:=Qo k s 0 p00 A' c' B' bc' kids .nil W (hkk.bel hW) (hka'.bel hW) (by simp only[Tr.size];omega) (HT.out.bel ((HB23.out.on HBR.out).on hW)) hi;rw[hO]at h;exact h
   have y0:=hcs 0 _ rfl;have y1:=hcs 1 _ rfl;have y2:=hcs 2 _ rfl;have y3:=hcs 3 _ rfl;have y4:=hcs 4 _ rfl;have y5:=hcs 5 _ rfl;have y6:=hcs 6 _ rfl;have y7:=hcs 7 _ rfl;simp only[Sh.sz,Sh.kd,Nat.add_zero,Nat.zero_add,p00,Tr.len]at y0 y1 y2 y3 y4 y5 y6 y7;obtain⟨SS,hSS⟩:∃ S:ByteArray,S=⟨s.toArray⟩:=⟨_,rfl⟩
   obtain⟨kl,hkl⟩:∃ l,l=kids.len:=⟨_,rfl⟩
   rw[<- hSS,<- hkl]at HC;rw[<- hSS]at y1;rw[<- hkl]at y6;have hob':ub<wr.heap.size:=hob;have i1:(0:Int)<=(j:Int):=by omega
   have i2:(j:Int)<3:=by omega
   have HLT:=hid hlt;clear hT en ha hm hi hsz hcs hkk hka hka' hSS hkl hob eA;go_wp2_with fail
   refine (HC.out _ ((Bel.refl wr).alloc _)).mono ?_;rintro e w24 ⟨rfl,hb24⟩;have HB24:=hid (HBR.out.on (((Bel.refl wr).alloc (.cells #[.int .u8 k,SS,(0:Int),(0:Int),(0:Int),(0:Int),.slice A' kl c',.slice B' 0 bc'] 32)).on hb24));clear hb24 y0 y1 y2 y3 y4 y5 y6 y7 hob' HC;go_wp2_with fail
   go_roundw
   case rel=>exact⟨j+1,HLT.out,by go_num,HB24⟩
   case measure=>have:=HLT.out;simp[intOf];omega
  ·obtain rfl:j=3:=by omega
   have HBZ:=hid (HB23.out.on HBR.out);have HSZ:=hid (HBR.out.blk HS23.out);have HLZ:=hid (HBR.out.blk HL23.out);have HKZ:=hid (HK23.out.bel HBR.out);have HMZ:=hid (HM23.out.bel HBR.out);obtain⟨x0,x1,x2,x3,x4,x5,x6,x7⟩:=box8 HSZ.out;have hlS:bS<wr.heap.size:=(Array.getElem?_eq_some_iff.1 HSZ.out).1;have e1:(Tr.nod 10 [43] 0 p00 kSum .nil .nil).same (Tr.nod 10 [43] 0 p00 kSum .nil .nil)=true:=by decide +kernel
   have e2:(Tr.nod 10 [43] 0 p00 kSum .nil .nil).same (Tr.nod 4 [120] 0 p00 kLam .nil .nil)=false:=by decide +kernel
   have hc1:=zd 10 [43] 0 p00 (some ⟨gS,0,none⟩) 2 none 0 kSum .nil 10 [43] 0 p00 (some ⟨gS,0,none⟩) 2 none 0 kSum .nil wr HKZ.out (qy wr _ .arms) HKZ.out (qy wr _ .arms) (by decide) (by decide);rw[e1]at hc1;have HC1:=hid hc1;have HC2:Hid (∀ W,Bel wr W->Calls Tryz.prog 11 #[.agg #[.int .u8 10,.string ⟨#[43]⟩,(0:Int),(0:Int),(0:Int),(0:Int),.slice (some ⟨gS,0,none⟩) 2 2,.slice none 0 0],.agg #[.int .u8 4,.string ⟨#[120]⟩,(0:Int),(0:Int),(0:Int),(0:Int),.slice (some ⟨w6.heap.size,0,none⟩) 1 1,.slice none 0 0]] W (qi false W)):=hid fun W hW=>by
    have h:=zd 10 [43] 0 p00 (some ⟨gS,0,none⟩) 2 none 0 kSum .nil 4 [120] 0 p00 (some ⟨w6.heap.size,0,none⟩) 1 none 0 kLam .nil W (HKZ.out.bel hW) (qy W _ .arms) (HMZ.out.bel hW) (qy W _ .arms) (by decide) (by decide);rw[e2]at h;exact h
   clear e1 e2 hc1;go_wp2_with fail
   refine HC1.out.mono ?_;rintro e w25 ⟨rfl,hb25⟩;have HB25:=hid hb25;clear x0 x1 x2 x3 x4 x5 x6 x7 hlS;obtain⟨x0,x1,x2,x3,x4,x5,x6,x7⟩:=box8 (hb25.blk HSZ.out);obtain⟨z0,z1,z2,z3,z4,z5,z6,z7⟩:=box8 (hb25.blk HLZ.out);have hlS:bS<w25.heap.size:=(Array.getElem?_eq_some_iff.1 (hb25.blk HSZ.out)).1;have hlL:w7.heap.size<w25.heap.size:=(Array.getElem?_eq_some_iff.1 (hb25.blk HLZ.out)).1;clear hb25 HC1;go_wp2_with fail
   refine (HC2.out _ HB25.out).mono ?_;rintro e w26 ⟨rfl,hb26⟩;have HB26:=hid ((HBZ.out.on HB25.out).on hb26);clear hb26 x0 x1 x2 x3 x4 x5 x6 x7 z0 z1 z2 z3 z4 z5 z6 z7 hlS hlL;go_wp2_with fail
   go_ret
   exact⟨rfl,HB26.out⟩
theorem jj{α:Type}(e:α->α->Bool)(he:∀ x,e x x=true):∀ xs:List α,lsame e xs xs=true
 | []=>rfl
 | x::xs=>by simp only[lsame,he,jj e he xs,Bool.and_self]
theorem qhb(x:Fd):Fd.same x x=true:=by simp[Fd.same,Tr.same_refl]
theorem qgO(x:Cd):Cd.same x x=true:=by simp[Cd.same,jj _ qhb]
theorem qgS(x:Dc):Dc.same x x=true:=by simp[Dc.same,jj _ qgO,Tr.same_refl]
theorem showSames_any(A:Option Addr)(n c:Nat)(B:Option Addr)(m d:Nat)(xs ys:List Dc)(w:World)(ht:Tbl w)(hk:RowOf 16 DcAt w (OldT w) A n c xs)(hk2:RowOf 16 DcAt w (OldT w) B m d ys)(hn:n<=1000000)(hm:m<=1000000)(hp:∀ x∈xs,x.prO)(hp2:∀ x∈ys,x.prO) :
  Calls Tryz.prog 3 #[.slice A n c,.slice B m d] w (qi true w):=by
 have H:=hid hk;have H2:=hid hk2;have HL:Hid (n=xs.length):=hid hk.1;have HL2:Hid (m=ys.length):=hid hk2.1;have HP:=hid (And.intro hp hp2);have HKN:=hid fun W (hW:Bel w W)=>qab W (ht.bel hW);have HZ1:=hid fun W (hW:Bel w W)=>JO A n c xs W (hk.bel qB hW) (by omega) (fun x hx=>(hp x hx).2.1);have HZ2:=hid fun W (hW:Bel w W)=>JO B m d ys W (hk2.bel qB hW) (by omega) (fun x hx=>(hp2 x hx).2.1);have HS1:=hid fun W (hW:Bel w W)=>qbt A n c B m d xs ys W (hk.bel qB hW) (hk2.bel qB hW) hn hm (fun x hx=>(hp x hx).1) (fun x hx=>(hp2 x hx).1);have HS2:=hid fun W (hW:Bel w W)=>qep A n c B m d xs ys W (hk.bel qB hW) (hk2.bel qB hW) hn hm (fun x hx=>(hp x hx).1) (fun x hx=>(hp2 x hx).1);have HS3:Hid (∀ W,Bel w W->Calls Tryz.prog 13 #[.slice A n c,.slice A n c] W (qi true W)):=hid fun W (hW:Bel w W)=>by
  have h:=qbt A n c A n c xs xs W (hk.bel qB hW) (hk.bel qB hW) hn hn (fun x hx=>(hp x hx).1) (fun x hx=>(hp x hx).1);rw[jj _ qgS]at h;exact h
 obtain⟨sb,hsb⟩:∃ b,b=lsame Dc.same xs ys:=⟨_,rfl⟩
 rw[<- hsb]at HS1 HS2;clear ht hk hk2 hp hp2 hsb;go_enter Tryz.func3,Tryz.ntmps3
 go_wp2_with fail
 refine (HKN.out _ (Bel.refl _)).mono ?_;rintro e w1 ⟨rfl,hb1⟩;have HB1:=hid hb1;clear hb1 HKN;go_wp2_with fail
 refine (HZ1.out _ HB1.out).mono ?_;rintro e w2 ⟨z1,rfl,_,_,hb2⟩;have HB2:=hid (HB1.out.on hb2);clear hb2 HZ1;by_cases g1:(3000:Int)<z1
 ·have d1:decide ((3000:Int)<z1)=true:=by simpa using g1
  go_wp2_with fail
  go_ret
  exact⟨rfl,HB2.out⟩
 have d1:decide ((3000:Int)<z1)=false:=by simpa using g1
 go_wp2_with fail
 refine (HZ2.out _ HB2.out).mono ?_;rintro e w3 ⟨z2,rfl,_,_,hb3⟩;have HB3:=hid (HB2.out.on hb3);clear hb3 HZ2;by_cases g2:(3000:Int)<z2
 ·have d2:decide ((3000:Int)<z2)=true:=by simpa using g2
  go_wp2_with fail
  go_ret
  exact⟨rfl,HB3.out⟩
 have d2:decide ((3000:Int)<z2)=false:=by simpa using g2
 go_wp2_with fail
 go_loopw [21] (fun i wr=>∃ j:Nat,j<=n/\i=.int .i64 (j:Int)/\Hid (Bel w wr)) (fun i _=>n-(intOf i).toNat)
 case atStart=>exact⟨0,Nat.zero_le _,rfl,HB3⟩
 case round=>
  obtain⟨j,hj,rfl,HB⟩:=hrel;rename World=>wo
  by_cases hlt:j<n
  ·obtain⟨ub,uo,eA,hob,hfo⟩:=(H.out.bel qB HB.out).2.2 (by omega)
   subst eA;obtain⟨x,hx⟩:∃ x,xs[j]?=some x:=⟨_,List.getElem?_eq_getElem (by rw[<- HL.out];exact hlt)⟩
   have hpx:=HP.out.1 x (List.mem_of_getElem? hx);obtain⟨v0,v1,v2,v3,v4,v5,v6,v7,v8,v9,v10,v11,v12,v13,v14,v15,⟨y0,y1,y2,y3,y4,y5,y6,y7,y8,y9,y10,y11,y12,y13,y14,y15⟩,hov,⟨dn,hd1,hd2⟩,hex⟩:=qc4 (hfo j x hx) hpx;have HOV:=hid hov;have HD1:=hid hd1;have HD2:=hid hd2;have HEX:=hid hex;have HGX:=hid hpx.1;have HB4:Hid (Bel wo (wo.alloc (.cells #[v0,v1,v2,v3,v4,v5,v6,v7,v8,v9,v10,v11,v12,v13,v14,v15] 34))):=hid ((Bel.refl wo).alloc _);have HQ4:=hid (blk1 wo (.cells #[v0,v1,v2,v3,v4,v5,v6,v7,v8,v9,v10,v11,v12,v13,v14,v15] 34));have hob':ub<wo.heap.size:=hob;have i1:(0:Int)<=(j:Int):=by omega
   have i2:(j:Int)<(n:Int):=by omega
   have HLT:=hid hlt;clear hov hd1 hd2 hex hpx hfo hx hob;go_wp2_with fail
   rw[Qa wo wo.heap.size rfl v0 v1 v2 v3 v4 v5 v6 v7 v8 v9 v10 v11 v12 v13 v14 v15 HOV.out];go_wp2_with fail
   refine qcp wo.heap.size dn v0 v1 v2 v3 v4 v5 v6 v7 v8 v9 v10 v11 v12 v13 v14 v15 _ _ _ _ _ _ _ _ _ _ _ _ _ _ _ _ _ _ _ _ _ _ _ _ _ _ _ _ _ _ _ _ _ _ _ _ _ _ _ _ _ _ _ _ _ _ _ _ _ _ _ _ _ _ _ _ _ _ _ _ _ (wo.alloc (.cells #[v0,v1,v2,v3,v4,v5,v6,v7,v8,v9,v10,v11,v12,v13,v14,v15] 34)) HQ4.out (fun W hW=>HD1.out W (HB4.out.on ((Bel.refl _).drew.on hW))) (fun W hW=>HD2.out W (HB4.out.on ((Bel.refl _).drew.on hW))) _ ?_;intro W4 w4 hb4 hw1 hw3;simp only[regSm1,List.drop_succ_cons,List.drop_zero,qcK,hw1,hw3];have hb4':Bel wo w4:=HB4.out.on ((Bel.refl _).drew.on hb4);have HB5:=hid (HB.out.on hb4');have HBO:=hid hb4';have HQ5:=hid (((Bel.refl _).drew.on hb4).blk HQ4.out);clear hb4 hb4' hw1 hw3 y0 y1 y2 y3 y4 y5 y6 y7 y8 y9 y10 y11 y12 y13 y14 y15 hob' HD1 HD2 HB4 HQ4;go_wp2_with fail
   go_loopw [32] (fun i wr=>∃ j2:Nat,j2<=m/\i=.int .i64 (j2:Int)/\Hid (Bel w4 wr)) (fun i _=>m-(intOf i).toNat)
   case atStart=>exact⟨0,Nat.zero_le _,rfl,hid (Bel.refl _)⟩
   case round=>
    obtain⟨j2,hj2,rfl,HBR⟩:=hrel;by_cases hlt2:j2<m
    ·obtain⟨ub2,uo2,eA,hob,hfo⟩:=(H2.out.bel qB (HB5.out.on HBR.out)).2.2 (by omega)
     subst eA;obtain⟨y,hy⟩:∃ y,ys[j2]?=some y:=⟨_,List.getElem?_eq_getElem (by rw[<- HL2.out];exact hlt2)⟩
     have hpy:=HP.out.2 y (List.mem_of_getElem? hy);obtain⟨u0,u1,u2,u3,u4,u5,u6,u7,u8,u9,u10,u11,u12,u13,u14,u15,⟨z0,z1,z2,z3,z4,z5,z6,z7,z8,z9,z10,z11,z12,z13,z14,z15⟩,hov,_,hey⟩:=qc4 (hfo j2 y hy) hpy;have HEY:=hid hey;have HOU:=hid hov;obtain⟨rb,hrb⟩:∃ b,b=x.tr.same y.tr:=⟨_,rfl⟩
     have HE:Hid (∀ W,Bel wr W->Calls Tryz.prog 11 #[.agg #[v8,v9,v10,v11,v12,v13,v14,v15],.agg #[u8,u9,u10,u11,u12,u13,u14,u15]] W (qi rb W)/\Calls Tryz.prog 12 #[.agg #[v8,v9,v10,v11,v12,v13,v14,v15],.agg #[u8,u9,u10,u11,u12,u13,u14,u15]] W (qi rb W)):=hid fun W hW=>by
      rw[hrb];exact qfs (HEX.out.bel ((HBO.out.on HBR.out).on hW)) (HEY.out.bel hW) HGX.out hpy.1
     have HB6:Hid (Bel wr (wr.alloc (.cells #[u0,u1,u2,u3,u4,u5,u6,u7,u8,u9,u10,u11,u12,u13,u14,u15] 34))):=hid ((Bel.refl wr).alloc _);have HQX:=hid (HB6.out.blk (HBR.out.blk HQ5.out));have HQY:=hid (blk1 wr (.cells #[u0,u1,u2,u3,u4,u5,u6,u7,u8,u9,u10,u11,u12,u13,u14,u15] 34));have hob':ub2<wr.heap.size:=hob;have i3:(0:Int)<=(j2:Int):=by omega
     have i4:(j2:Int)<(m:Int):=by omega
     have HLT2:=hid hlt2;clear hov hey hpy hfo hy hob hrb;go_wp2_with fail
     rw[Qa wr wr.heap.size rfl u0 u1 u2 u3 u4 u5 u6 u7 u8 u9 u10 u11 u12 u13 u14 u15 HOU.out];go_wp2_with fail
     refine qcs wo.heap.size wr.heap.size rb v0 v1 v2 v3 v4 v5 v6 v7 v8 v9 v10 v11 v12 v13 v14 v15 u0 u1 u2 u3 u4 u5 u6 u7 u8 u9 u10 u11 u12 u13 u14 u15 _ _ _ _ _ _ _ _ _ _ _ _ _ _ _ _ _ _ _ _ _ _ _ _ _ _ _ _ _ _ _ _ _ _ _ _ _ _ _ _ _ _ _ _ _ _ _ _ _ _ _ _ _ _ _ _ _ _ _ _ (wr.alloc (.cells #[u0,u1,u2,u3,u4,u5,u6,u7,u8,u9,u10,u11,u12,u13,u14,u15] 34)) HQX.out HQY.out (fun W hW=>(HE.out W (HB6.out.on ((Bel.refl _).drew.on hW))).1) (fun W hW=>(HE.out W (HB6.out.on ((Bel.refl _).drew.on hW))).2) _ ?_;intro W6 w6 hb6 hw4 hw9;simp only[regSm2,List.drop_succ_cons,List.drop_zero,qcL,hw4,hw9];have HB7:=hid (HBR.out.on (HB6.out.on ((Bel.refl _).drew.on hb6)));clear hb6 hw4 hw9 z0 z1 z2 z3 z4 z5 z6 z7 z8 z9 z10 z11 z12 z13 z14 z15 hob' HE HB6 HQX HQY HEY;cases rb
     ·go_wp2_with fail
      go_roundw
      case rel=>exact⟨j2+1,HLT2.out,by go_num,HB7⟩
      case measure=>have:=HLT2.out;simp[intOf];omega
     ·go_wp2_with fail
      go_roundw
      case rel=>exact⟨j2+1,HLT2.out,by go_num,HB7⟩
      case measure=>have:=HLT2.out;simp[intOf];omega
    ·obtain rfl:j2=m:=by omega
     have HB8:=hid (HB5.out.on HBR.out);go_wp2_with fail
     go_roundw
     case rel=>exact⟨j+1,HLT.out,by go_num,HB8⟩
     case measure=>have:=HLT.out;simp[intOf];omega
  ·obtain rfl:j=n:=by omega
   go_wp2_with fail
   refine (HS1.out _ HB.out).mono ?_;rintro e w5 ⟨rfl,hb5⟩;have HB5:=hid (HB.out.on hb5);clear hb5;go_wp2_with fail
   refine (HS2.out _ HB5.out).mono ?_;rintro e w6 ⟨rfl,hb6⟩;have HB6:=hid (HB5.out.on hb6);clear hb6;cases sb
   ·go_wp2_with fail
    refine (HS3.out _ HB6.out).mono ?_;rintro e w7 ⟨rfl,hb7⟩;have HB7:=hid (HB6.out.on hb7);clear hb7;go_wp2_with fail
    go_ret
    exact⟨rfl,HB7.out⟩
   ·go_wp2_with fail
    refine (HS3.out _ HB6.out).mono ?_;rintro e w7 ⟨rfl,hb7⟩;have HB7:=hid (HB6.out.on hb7);clear hb7;go_wp2_with fail
    go_ret
    exact⟨rfl,HB7.out⟩
end Go.Proofs.YtlmmaoobembadaaGreatDoor.Mu
namespace Go.Proofs.YtlmmaoobembadaaGreatDoor.Mu
open Go.ChangeShapes Go.ChangeAt Go.WideMaps Go.WideElems Go.WideShapes Go.RowKit
abbrev laidList:List (String × DataW Unit):=[("math/bits.deBruijn32tab",Rows.laid_math_bits_deBruijn32tab),("math/bits.deBruijn64tab",Rows.laid_math_bits_deBruijn64tab),("internal/strconv.uint64pow10",Rows.laid_internal_strconv_uint64pow10),("unicode/utf8.acceptRanges",Rows.laid_unicode_utf8_acceptRanges),("unicode/utf8.first",Rows.laid_unicode_utf8_first)]
theorem own:ownKnob Tryz.prog.godebug=none:=by kernel_rfl
theorem laidOut:laidOutB Tryz.prog=true:=by kernel_rfl
theorem tPow:(Tryz.prog.globals[4]?).map (·.type)=some 264:=by kernel_rfl
theorem JD{P:Program}{x:String × DataW Unit}{r:List (String × DataW Unit)}{w:World}(h:laidMet P (x::r) w):laidMet P r w:=by
 obtain⟨ps,hv,hnd,hrows⟩:=h;obtain⟨n,d⟩:=x;obtain⟨g,t,cs,fuel,p,q,_,_,_,_,hq,rfl⟩:=hv;exact⟨q,hq,List.Nodup.sublist (List.sublist_append_right _ _) hnd,fun b off hm=>hrows b off (List.mem_append_right _ hm)⟩
def qhl:DataW Unit->List Value
 | .agg ds=>ds.flatMap fun | .lit l=>[l.value] | .agg es=>es.filterMap (fun | .lit l=>some l.value | _=>none) | _=>[]
 | _=>[]
def JI(d:DataW Unit):Obj->Obj
 | .cells _ t frozen=> .cells (qhl d).toArray t frozen
 | o=>o
noncomputable def doorW (os:Os):World:=
 { World.holding Tryz.prog os ⟨#[],#[],[]⟩ with heap:=(((((begin Tryz.prog (fun _ _=>0) default).world.heap.modify 2 (JI Rows.laid_unicode_utf8_first)).modify 3 (JI Rows.laid_unicode_utf8_acceptRanges)).modify 4 (JI Rows.laid_internal_strconv_uint64pow10)).modify 5 (JI Rows.laid_math_bits_deBruijn32tab)).modify 6 (JI Rows.laid_math_bits_deBruijn64tab) }
theorem qi9:(Rows.laid_internal_strconv_uint64pow10:DataW Unit)=Lib.tabData .u64 Lib.pow10Tab:=by
 unfold Rows.laid_internal_strconv_uint64pow10 Lib.tabData Lib.pow10Tab;rfl
theorem qiN:(Rows.laid_unicode_utf8_acceptRanges:DataW Unit)=Lib.acceptData:=by kernel_rfl
theorem qhc:(Rows.laid_unicode_utf8_first:DataW Unit)=Lib.firstData:=by kernel_rfl
theorem of_laid{W:World}(h:laidMetH Tryz.prog laidList W):Tbl W:=by
 rw[MakeChecks.laidMetH_plain _ _ _ (by kernel_rfl)]at h;have h2:=JD (JD h);rw[qi9]at h2;have r3:=Lib.laidMet.reads h (n := "unicode/utf8.first") (d:=Rows.laid_unicode_utf8_first) (by simp[laidList]);have r4:=Lib.laidMet.reads h (n := "unicode/utf8.acceptRanges") (d:=Rows.laid_unicode_utf8_acceptRanges) (by simp[laidList]);rw[qhc]at r3;rw[qiN]at r4;exact⟨Lib.tabIs_of_head gPow tPow Tryz.underlying264 Tryz.underlying246 (by kernel_rfl) (by kernel_rfl) h2,utf8Tabs_of_readsT (U8Types.of196 Tryz.lays196) ⟨by kernel_rfl,by kernel_rfl,by kernel_rfl,by kernel_rfl,by kernel_rfl,by kernel_rfl,by kernel_rfl⟩ r3 r4⟩
end Go.Proofs.YtlmmaoobembadaaGreatDoor.Mu
