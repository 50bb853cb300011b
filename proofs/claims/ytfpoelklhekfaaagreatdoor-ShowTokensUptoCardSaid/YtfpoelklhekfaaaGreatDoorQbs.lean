import Derived.Test.YtfpoelklhekfaaaGreatDoorQbl
import Derived.Test.YtfpoelklhekfaaaGreatDoorQbm
import Derived.Test.YtfpoelklhekfaaaGreatDoorQbq
import Derived.Test.YtfpoelklhekfaaaGreatDoorQbr
open Go.Lib (hid)
namespace Go.Proofs.YtfpoelklhekfaaaGreatDoor.Mu
open Go Go.RowKit Go.Shelf
set_option linter.unusedVariables false
set_option maxRecDepth 100000
theorem blk7(w:World)(o o2 o3 o4 o5 o6 o7:Obj):let W:=((((((w.alloc o).alloc o2).alloc o3).alloc o4).alloc o5).alloc o6).alloc o7
  W.heap[w.heap.size]?=some o/\W.heap[w.heap.size+1]?=some o2/\W.heap[w.heap.size+1+1]?=some o3/\W.heap[w.heap.size+1+1+1]?=some o4/\W.heap[w.heap.size+1+1+1+1]?=some o5/\W.heap[w.heap.size+1+1+1+1+1]?=some o6/\W.heap[w.heap.size+1+1+1+1+1+1]?=some o7:=by
 have hb7:=(Bel.refl ((((((w.alloc o).alloc o2).alloc o3).alloc o4).alloc o5).alloc o6)).alloc o7;obtain⟨h1,h2,h3,h4,h5⟩:=blk5 w o o2 o3 o4 o5;have hb6:=(Bel.refl (((((w.alloc o).alloc o2).alloc o3).alloc o4).alloc o5)).alloc o6;have h6:=blk1 (((((w.alloc o).alloc o2).alloc o3).alloc o4).alloc o5) o6;have h7:=blk1 ((((((w.alloc o).alloc o2).alloc o3).alloc o4).alloc o5).alloc o6) o7;have s6:(((((w.alloc o).alloc o2).alloc o3).alloc o4).alloc o5).heap.size=w.heap.size+1+1+1+1+1:=by simp
 have s7:((((((w.alloc o).alloc o2).alloc o3).alloc o4).alloc o5).alloc o6).heap.size=w.heap.size+1+1+1+1+1+1:=by simp
 rw[s6]at h6;rw[s7]at h7;exact⟨hb7.blk (hb6.blk h1),hb7.blk (hb6.blk h2),hb7.blk (hb6.blk h3),hb7.blk (hb6.blk h4),hb7.blk (hb6.blk h5),hb7.blk h6,h7⟩
theorem qaB{α:Type}{sz:Nat}{At:World->(Nat->Prop)->Nat->Nat->α->Prop}{w:World}{b:Nat}{x:α}(hb:b<w.heap.size)(h:At w (OldT w) b 0 x):RowOf sz At w (OldT w) (some ⟨b,0,none⟩) 1 1 [x]:=
 ⟨rfl,Nat.le_refl _,fun _=>⟨b,0,rfl,hb,fun i y hi=>by
  match i,hi with
  | 0,hi=>
   obtain rfl:x=y:=by simpa using hi
   rw[Nat.zero_mul];exact h
  | i+1,hi=>simp at hi⟩⟩
def kFs:List Fd:=[⟨1,2,[76,105,115,116],0,p00,kLa⟩,⟨2,1,[97],0,p00,.nil⟩]
def kCd:Cd:=⟨[65],p00,kFs⟩
section
variable {w : World} {b : Nat} {t1 t2 t3 t4 t5 t6 : TypeId}
theorem qiL(h1:w.heap[b+1]?=some (.cells #[.string ⟨#[97]⟩] t1 (0,0))):RowOf 1 SAt w (OldT w) (some ⟨b+1,0,none⟩) 1 1 [[97]]:=
 qaB (Array.getElem?_eq_some_iff.1 h1).1 (by show w.cell? ⟨b+1,0,none⟩=_;simp[World.cell?,h1])
theorem qiF(h2:w.heap[b+1+1]?=some (.cells #[.int .u8 1,.string ⟨#[97]⟩,.int .u8 0,(0:Int),(0:Int),(0:Int),.slice none 0 0] t2 (0,0))):KidsTr w (OldT w) .ty (some ⟨b+1+1,0,none⟩) 1 1 kLa:=by
 refine jx (sh:= .ty) (by intro e;cases e) (kids:= .nil) (arms:= .nil) (A:=none) (c:=0) (B:=none) (bc:=0) (w:=w) (qu w _ .ty) (.inr ⟨.inr rfl,rfl⟩) (Bel.refl w) h2
theorem qiv(h2:w.heap[b+1+1]?=some (.cells #[.int .u8 1,.string ⟨#[97]⟩,.int .u8 0,(0:Int),(0:Int),(0:Int),.slice none 0 0] t2 (0,0)))
  (h3:w.heap[b+1+1+1]?=some (.cells #[.int .u8 1,.int .u8 2,.string ⟨#[76,105,115,116]⟩,.int .u8 0,(0:Int),(0:Int),(0:Int),.slice (some ⟨b+1+1,0,none⟩) 1 1,.int .u8 2,.int .u8 1,.string ⟨#[97]⟩,.int .u8 0,(0:Int),(0:Int),(0:Int),.slice none 0 0] t3 (0,0))) :
  RowOf 8 FdAt w (OldT w) (some ⟨b+1+1+1,0,none⟩) 2 2 kFs:=by
 have hl:b+1+1+1<w.heap.size:=(Array.getElem?_eq_some_iff.1 h3).1;have hla:=qiF h2;have c:∀ i,w.cell? ⟨b+1+1+1,i,none⟩=(#[Value.int .u8 1,.int .u8 2,.string ⟨#[76,105,115,116]⟩,.int .u8 0,(0:Int),(0:Int),(0:Int),.slice (some ⟨b+1+1,0,none⟩) 1 1,.int .u8 2,.int .u8 1,.string ⟨#[97]⟩,.int .u8 0,(0:Int),(0:Int),(0:Int),.slice none 0 0]:Array Value)[i]?:=fun i=>by simp[World.cell?,h3]
 refine⟨rfl,Nat.le_refl _,fun _=>⟨b+1+1+1,0,rfl,hl,fun i x hi=>?_⟩⟩;match i,hi with
 | 0,hi=>
  obtain rfl:(⟨1,2,[76,105,115,116],0,p00,kLa⟩:Fd)=x:=by simpa [kFs] using hi
  exact⟨c 0,⟨c 1,c 2,c 3,c 4,c 5,c 6⟩,⟨_,1,c 7,Nat.le_refl _,hla.2.2⟩,.inr ⟨.inr rfl,rfl⟩,trivial⟩
 | 1,hi=>
  obtain rfl:(⟨2,1,[97],0,p00,.nil⟩:Fd)=x:=by simpa [kFs] using hi
  exact⟨c 8,⟨c 9,c 10,c 11,c 12,c 13,c 14⟩,⟨none,0,c 15,Nat.le_refl _,fun h=>absurd h (by decide)⟩,.inr ⟨.inr rfl,rfl⟩,trivial⟩
 | i+2,hi=>simp[kFs]at hi
theorem qip(hf:RowOf 8 FdAt w (OldT w) (some ⟨b+1+1+1,0,none⟩) 2 2 kFs)
  (h4:w.heap[b+1+1+1+1]?=some (.cells #[.string ⟨#[65]⟩,(0:Int),(0:Int),(0:Int),.slice (some ⟨b+1+1+1,0,none⟩) 2 2] t4 (0,0))) :
  RowOf 5 CdAt w (OldT w) (some ⟨b+1+1+1+1,0,none⟩) 1 1 [kCd]:=by
 have c:∀ i,w.cell? ⟨b+1+1+1+1,i,none⟩=(#[Value.string ⟨#[65]⟩,(0:Int),(0:Int),(0:Int),.slice (some ⟨b+1+1+1,0,none⟩) 2 2]:Array Value)[i]?:=fun i=>by simp[World.cell?,h4]
 exact qaB (Array.getElem?_eq_some_iff.1 h4).1 ⟨c 0,c 1,c 2,c 3,_,2,c 4,hf⟩
theorem qiE(hp:RowOf 1 SAt w (OldT w) (some ⟨b+1,0,none⟩) 1 1 [[97]])(hc:RowOf 5 CdAt w (OldT w) (some ⟨b+1+1+1+1,0,none⟩) 1 1 [kCd])
  (h6:w.heap[b+1+1+1+1+1+1]?=some (.cells #[.int .u8 1,.string ⟨#[84]⟩,(0:Int),(0:Int),(0:Int),.slice (some ⟨b+1,0,none⟩) 1 1,.slice (some ⟨b+1+1+1+1,0,none⟩) 1 1,.bool false,.int .u8 0,.string ⟨#[]⟩,(0:Int),(0:Int),(0:Int),(0:Int),.slice none 0 0,.slice none 0 0] t6 (0,0))) :
  RowOf 16 DcAt w (OldT w) (some ⟨b+1+1+1+1+1+1,0,none⟩) 1 1 [kD]:=by
 have c:∀ i,w.cell? ⟨b+1+1+1+1+1+1,i,none⟩=(#[Value.int .u8 1,.string ⟨#[84]⟩,(0:Int),(0:Int),(0:Int),.slice (some ⟨b+1,0,none⟩) 1 1,.slice (some ⟨b+1+1+1+1,0,none⟩) 1 1,.bool false,.int .u8 0,.string ⟨#[]⟩,(0:Int),(0:Int),(0:Int),(0:Int),.slice none 0 0,.slice none 0 0]:Array Value)[i]?:=fun i=>by simp[World.cell?,h6]
 exact qaB (Array.getElem?_eq_some_iff.1 h6).1 ⟨c 0,c 1,c 2,c 3,c 4,⟨_,1,c 5,hp⟩,⟨_,1,c 6,hc⟩,c 7,⟨c 8,c 9,c 10,c 11,c 12,c 13⟩,⟨none,0,c 14,Nat.le_refl _,fun h=>absurd h (by decide)⟩,.inl ⟨rfl,none,0,c 15,Nat.le_refl _,fun h=>absurd h (by decide)⟩,trivial⟩
end
theorem qeI{w:World}{g:Nat}{t:TypeId}{x0 x1 x2 x3 x4 x5 x6 x7 x8 x9 x10 x11 x12 x13 x14 x15:Value}(h:w.heap[g]?=some (.cells #[x0,x1,x2,x3,x4,x5,x6,x7,x8,x9,x10,x11,x12,x13,x14,x15] t (0,0))) :
  w.cell? ⟨g,0,none⟩=some x0/\w.cell? ⟨g,1,none⟩=some x1/\w.cell? ⟨g,2,none⟩=some x2/\w.cell? ⟨g,3,none⟩=some x3/\w.cell? ⟨g,4,none⟩=some x4/\w.cell? ⟨g,5,none⟩=some x5/\w.cell? ⟨g,6,none⟩=some x6/\w.cell? ⟨g,7,none⟩=some x7/\w.cell? ⟨g,8,none⟩=some x8/\w.cell? ⟨g,9,none⟩=some x9/\w.cell? ⟨g,10,none⟩=some x10/\w.cell? ⟨g,11,none⟩=some x11/\w.cell? ⟨g,12,none⟩=some x12/\w.cell? ⟨g,13,none⟩=some x13/\w.cell? ⟨g,14,none⟩=some x14/\w.cell? ⟨g,15,none⟩=some x15:=by
 simp[World.cell?,h]
theorem qhM:kD.good/\kD.ints:=by
 refine⟨⟨by decide,by decide,by decide,fun c hc=>?_⟩,⟨by decide,fun s hs=>?_,fun c hc=>?_,by simp[Dc.tr,kD,Tr.ints,fitN]⟩⟩
 ·obtain rfl:c=kCd:=by simpa [kD,kCd,kFs] using hc
  refine⟨by decide,fun f hf=>?_⟩;simp only[kCd,kFs,List.mem_cons,List.not_mem_nil,or_false]at hf;rcases hf with rfl | rfl
  ·show (Tr.size kLa)<=_;decide
  ·show (Tr.size .nil)<=_;decide
 ·obtain rfl:s=[97]:=by simpa [kD] using hs
  decide
 ·obtain rfl:c=kCd:=by simpa [kD,kCd,kFs] using hc
  refine⟨by decide,fun f hf=>?_⟩;simp only[kCd,kFs,List.mem_cons,List.not_mem_nil,or_false]at hf;rcases hf with rfl | rfl
  ·simp[Fd.ints,Fd.tr,kLa,Tr.ints,fitN]
  ·simp[Fd.ints,Fd.tr,Tr.ints,fitN]
def kBad:Tr:=tO 5 [] (t1 .nil) (tN [108,101,116] (tO 8 [] (t1 .nil) .nil))
theorem qgj(j:Nat)(hj:j<3):∃ k s kids,kBad.nth j=.nod k s 0 p00 kids .nil .nil/\(Tr.nod k s 0 p00 kids .nil .nil).mayE hEf hPf=false/\(Tr.nod k s 0 p00 kids .nil .nil).ints/\kids.size<=1000:=by
 have h:j=0∨j=1∨j=2:=by omega
 rcases h with rfl | rfl | rfl
 ·exact⟨5,[],t1 .nil,rfl,qiO,by simp[Tr.ints,fitN,t1],by decide⟩
 ·exact⟨1,[108,101,116],.nil,rfl,qiP,by simp[Tr.ints,fitN],by decide⟩
 ·exact⟨8,[],t1 .nil,rfl,qih,by simp[Tr.ints,fitN,t1],by decide⟩
end Go.Proofs.YtfpoelklhekfaaaGreatDoor.Mu
namespace Go.Proofs.YtfpoelklhekfaaaGreatDoor.Mu
set_option maxHeartbeats 16000000
open Go Go.RowKit Go.Shelf
attribute [local go_sem] Oper.semAt_some
set_option linter.unusedVariables false
set_option maxRecDepth 100000
theorem qhI{w:World}{g:Nat}(h:w.heap[g]?=some (.cells #[.int .u8 0,.string ⟨#[]⟩,(0:Int),(0:Int),(0:Int),(0:Int),.slice none 0 0,.slice none 0 0] 43))(j:Nat)(hj:Okz w j):j≠g:=fun e=>hj.2 (by rw[e];exact h)
theorem qhe{w0 w:World}{bS:Nat}(hb:Bel w0 w)(hl:w0.heap.size<=bS)(h:w.heap[bS]?=some (.cells #[.int .u8 0,.string ⟨#[]⟩,(0:Int),(0:Int),(0:Int),(0:Int),.slice none 0 0,.slice none 0 0] 43))(y0 y1 y2 y3 y4 y5 y6 y7:Value){w3:World}
  (hw3:w3=((((((((w.setCell ⟨bS,0,none⟩ y0).setCell ⟨bS,1,none⟩ y1).setCell ⟨bS,2,none⟩ y2).setCell ⟨bS,3,none⟩ y3).setCell ⟨bS,4,none⟩ y4).setCell ⟨bS,5,none⟩ y5).setCell ⟨bS,6,none⟩ y6).setCell ⟨bS,7,none⟩ y7)) :
  Bel w0 w3/\w3.heap[bS]?=some (.cells #[y0,y1,y2,y3,y4,y5,y6,y7] 43 (0,0))/\(∀ A l c f,KidsTr w (Okz w) .ex A l c f->KidsTr w3 (OldT w3) .ex A l c f):=by
 subst hw3;have es:∀ (w:World) (a:Addr) (v:Value),(w.setCell a v).heap.size=w.heap.size:=fun w a v=>by simp[World.setCell]
 refine⟨((((((((hb.set_ hl _).set_ hl _).set_ hl _).set_ hl _).set_ hl _).set_ hl _).set_ hl _).set_ hl _),qfk h _ _ _ _ _ _ _ _,fun A l c f hk=>(hk.keep fun j hj=>qfl _ _ _ _ _ _ _ _ j (qhI h j hj)).wide fun j hj=>?_⟩;show j<_
 simp only[es];exact hj.1
theorem jM{w:World}{F:Tr}{vs:List Value}(h:Tells w (OldT w) .ex F vs)(m:Nat)(hm:m=F.len) :
  KidsTr (w.alloc (.cells vs.toArray 43)) (OldT (w.alloc (.cells vs.toArray 43))) .ex (some ⟨w.heap.size,0,none⟩) m m F:=by
 have hb:Bel w (w.alloc (.cells vs.toArray 43)):=(Bel.refl w).alloc _;refine⟨hm,Nat.le_refl _,fun _=>⟨w.heap.size,0,rfl,by show w.heap.size<_;simp,?_⟩⟩;refine (h.2.2 _ w.heap.size 0 (fun j u hu=>?_) (fun j hj=>hb.block j hj)).wide (fun j hj=>Nat.lt_of_lt_of_le hj hb.size) _ _ _ _;unfold World.cell?
 simp only[blk1];simpa using hu
theorem qix:(Tr.nod 10 [43] 0 p00 kSum .nil .nil).ints:=by simp[Tr.ints,fitN,kSum,kFg,kGx,tN,tO,t1]
theorem qiw:(Tr.nod 4 [120] 0 p00 kLam .nil .nil).ints:=by simp[Tr.ints,fitN,kLam,kCn,tN,tO]
theorem i_ax:(Tr.nod 5 [] 0 p00 kAx .nil .nil).ints:=by simp[Tr.ints,fitN,kAx,tN,tO]
theorem i_a:(Tr.nod 9 [65] 0 p00 kX .nil .nil).ints:=by simp[Tr.ints,fitN,kX,tN,tO]
theorem qah(w:World)(ht:Tbl w):Calls Tryz.prog 4 #[] w (qz true w):=by
 have HT:=hid ht;clear ht;have HB1:Hid (Bel w (w.alloc (.cells #[.int .u8 2,.string ⟨#[]⟩,.int .i64 1,(0:Int),(0:Int),(0:Int),.slice none 0 0,.slice none 0 0] 43))):=hid ((Bel.refl w).alloc _);have HO1:Hid ((w.alloc (.cells #[.int .u8 2,.string ⟨#[]⟩,.int .i64 1,(0:Int),(0:Int),(0:Int),.slice none 0 0,.slice none 0 0] 43)).heap[w.heap.size]?=some (.cells #[.int .u8 2,.string ⟨#[]⟩,.int .i64 1,(0:Int),(0:Int),(0:Int),.slice none 0 0,.slice none 0 0] 43 (0,0))):=hid (blk1 w _);go_enter Tryz.func4,Tryz.ntmps4
 go_wp2_with fail
 refine qdt w.heap.size (w.heap.size+1) _ _ _ _ _ _ _ _ _ _ _ _ _ _ _ _ _ _ _ _ _ _ _ _ _ _ _ _ _ _ _ _ _ _ _ _ _ _ _ _ _ _ _ _ _ _ _ _ _ _ _ _ _ _ _ _ _ _ _ _ _ _ _ _ _ _ _ _ _ _ _ _ _ _ _ _ _ _ _ _ _ _ _ _ _ _ _ _ _ _ _ _ _ _ _ _ _ _ _ _ _ _ _ _ _ _ _ _ _ _ _ _ _ _ _ _ _ _ _ _ _ _ _ _ _ _ _ (w.alloc (.cells #[.int .u8 2,.string ⟨#[]⟩,.int .i64 1,(0:Int),(0:Int),(0:Int),.slice none 0 0,.slice none 0 0] 43)) HO1.out (by show _<=(w.alloc _).heap.size;simp) _ ?_;rintro V w2 hb2 ⟨gS,hv9,hkS⟩ ⟨bS,hv10,hz,hlS⟩;simp only[regKs,List.drop_succ_cons,List.drop_zero,qf7,hv9,hv10];obtain⟨c0,c1,c2,c3,c4,c5,c6,c7⟩:=qfN hz;obtain⟨f0,f1,f2,f3,f4,f5,f6,f7⟩:=qeQ hz;have hl2:bS<w2.heap.size:=(Array.getElem?_eq_some_iff.1 hz).1;have HB2:Hid (Bel (w.alloc (.cells #[.int .u8 2,.string ⟨#[]⟩,.int .i64 1,(0:Int),(0:Int),(0:Int),.slice none 0 0,.slice none 0 0] 43)) w2):=hid ((Bel.refl _).drew.on hb2);have HZ:=hid hz;have HKS:=hid hkS;have HLS:Hid ((w.alloc (.cells #[.int .u8 2,.string ⟨#[]⟩,.int .i64 1,(0:Int),(0:Int),(0:Int),.slice none 0 0,.slice none 0 0] 43)).heap.size<=bS):=hid (by simpa using hlS);clear hb2 hv9 hv10 hkS hz hlS;go_wp2_with fail
 obtain⟨w3,hw3⟩:∃ w3,w3=((((((((w2.setCell ⟨bS,0,none⟩ (.int .u8 10)).setCell ⟨bS,1,none⟩ (.string ⟨#[43]⟩)).setCell ⟨bS,2,none⟩ (.int .i64 0)).setCell ⟨bS,3,none⟩ (.int .i64 0)).setCell ⟨bS,4,none⟩ (.int .i64 0)).setCell ⟨bS,5,none⟩ (.int .i64 0)).setCell ⟨bS,6,none⟩ (.slice (some ⟨gS,0,none⟩) 2 2)).setCell ⟨bS,7,none⟩ (.slice none 0 0)):=⟨_,rfl⟩
 rw[<- hw3];obtain⟨hb3,hs3,hk3⟩:=qhe HB2.out HLS.out HZ.out _ _ _ _ _ _ _ _ hw3;have HB3:=hid (HB1.out.on hb3);have HO3:=hid (hb3.blk HO1.out);have HS3:=hid hs3;have HK3:=hid (hk3 _ _ _ _ HKS.out);clear hb3 hs3 hk3 hw3 c0 c1 c2 c3 c4 c5 c6 c7 f0 f1 f2 f3 f4 f5 f6 f7 hl2 HB1 HO1 HB2 HZ HKS HLS;refine (qQ _ _).mono ?_;rintro e w4 ⟨rfl,hb4⟩;have HB4:=hid (HB3.out.on hb4);have HO4:=hid (hb4.blk HO3.out);have HS4:=hid (hb4.blk HS3.out);have HK4:=hid (HK3.out.bel hb4);clear hb4 HB3 HO3 HS3 HK3;go_wp2_with fail
 refine (qM 9 ⟨#[78,105,108]⟩ none 0 0 _).mono ?_;rintro e w5 ⟨rfl,hb5⟩;have HB5:=hid (HB4.out.on hb5);have HO5:=hid (hb5.blk HO4.out);have HS5:=hid (hb5.blk HS4.out);have HK5:=hid (HK4.out.bel hb5);clear hb5 HB4 HO4 HS4 HK4;go_wp2_with fail
 have hkC:KidsTr (w5.alloc (.cells #[.int .u8 1,.string ⟨#[120]⟩,(0:Int),(0:Int),(0:Int),(0:Int),.slice none 0 0,.slice none 0 0,.int .u8 9,.string ⟨#[78,105,108]⟩,(0:Int),(0:Int),(0:Int),(0:Int),.slice none 0 0,.slice none 0 0] 43)) (OldT (w5.alloc (.cells #[.int .u8 1,.string ⟨#[120]⟩,(0:Int),(0:Int),(0:Int),(0:Int),.slice none 0 0,.slice none 0 0,.int .u8 9,.string ⟨#[78,105,108]⟩,(0:Int),(0:Int),(0:Int),(0:Int),.slice none 0 0,.slice none 0 0] 43))) .ex (some ⟨w5.heap.size,0,none⟩) 2 2 kCn:=jM ((Q5 [120]).app (Qn 9 [78,105,108] (qu w5 _ .ex))) 2 rfl;have HKC:=hid hkC;clear hkC;refine (qM 9 ⟨#[67,111,110,115]⟩ (some ⟨w5.heap.size,0,none⟩) 2 2 _).mono ?_;rintro e w6 ⟨rfl,hb6'⟩;have hb6:Bel w5 w6:=((Bel.refl w5).alloc _).on hb6';have HC6:=hid (HKC.out.bel hb6');clear HKC hb6';have HB6:=hid (HB5.out.on hb6);have HO6:=hid (hb6.blk HO5.out);have HS6:=hid (hb6.blk HS5.out);have HK6:=hid (HK5.out.bel hb6);clear HB5 HO5 HS5 HK5;clear hb6;go_wp2_with fail
 have hkM:KidsTr (w6.alloc (.cells #[.int .u8 9,.string ⟨#[67,111,110,115]⟩,(0:Int),(0:Int),(0:Int),(0:Int),.slice (some ⟨w5.heap.size,0,none⟩) 2 2,.slice none 0 0] 43)) (OldT (w6.alloc (.cells #[.int .u8 9,.string ⟨#[67,111,110,115]⟩,(0:Int),(0:Int),(0:Int),(0:Int),.slice (some ⟨w5.heap.size,0,none⟩) 2 2,.slice none 0 0] 43))) .ex (some ⟨w6.heap.size,0,none⟩) 1 1 kLam:=jM (Qn 9 [67,111,110,115] HC6.out) 1 rfl;have HKM:=hid hkM;clear hkM;refine (qM 4 ⟨#[120]⟩ (some ⟨w6.heap.size,0,none⟩) 1 1 _).mono ?_;rintro e w7 ⟨rfl,hb7'⟩;have hb7:Bel w6 w7:=((Bel.refl w6).alloc _).on hb7';have HM7:=hid (HKM.out.bel hb7');clear HKM hb7';have HB7:=hid (HB6.out.on hb7);have HO7:=hid (hb7.blk HO6.out);have HS7:=hid (hb7.blk HS6.out);have HK7:=hid (HK6.out.bel hb7);clear HB6 HO6 HS6 HK6 HC6;clear hb7;have hb8:Bel w7 (w7.alloc (.cells #[.int .u8 4,.string ⟨#[120]⟩,(0:Int),(0:Int),(0:Int),(0:Int),.slice (some ⟨w6.heap.size,0,none⟩) 1 1,.slice none 0 0] 43)):=(Bel.refl w7).alloc _;have HL8:Hid ((w7.alloc (.cells #[.int .u8 4,.string ⟨#[120]⟩,(0:Int),(0:Int),(0:Int),(0:Int),.slice (some ⟨w6.heap.size,0,none⟩) 1 1,.slice none 0 0] 43)).heap[w7.heap.size]?=some (.cells #[.int .u8 4,.string ⟨#[120]⟩,(0:Int),(0:Int),(0:Int),(0:Int),.slice (some ⟨w6.heap.size,0,none⟩) 1 1,.slice none 0 0] 43)):=hid (blk1 w7 _);obtain⟨x0,x1,x2,x3,x4,x5,x6,x7⟩:=box8 HS7.out;have hlS:bS<w7.heap.size:=(Array.getElem?_eq_some_iff.1 HS7.out).1;have HB8:=hid (HB7.out.on hb8);have HO8:=hid (hb8.blk HO7.out);have HS8:=hid (hb8.blk HS7.out);have HK8:=hid (HK7.out.bel hb8);have HM8:=hid (HM7.out.bel hb8);clear HB7 HO7 HS7 HK7 HM7;clear hb8;go_wp2_with fail
 refine (QF 10 [43] 0 (some ⟨gS,0,none⟩) 2 2 kSum [40,32,102,32,40,32,103,32,120,32,41,32,41,32,43,32,49] _ HK8.out (by decide) (by decide) (HT.out.bel HB8.out) qix qh4 qiN).mono ?_;rintro e w9 ⟨rfl,hb9⟩;have HB9:=hid (HB8.out.on hb9);have HO9:=hid (hb9.blk HO8.out);have HS9:=hid (hb9.blk HS8.out);have HK9:=hid (HK8.out.bel hb9);have HM9:=hid (HM8.out.bel hb9);have HL9:=hid (hb9.blk HL8.out);clear HB8 HO8 HS8 HK8 HM8 HL8;clear hb9 x0 x1 x2 x3 x4 x5 x6 x7 hlS;obtain⟨x0,x1,x2,x3,x4,x5,x6,x7⟩:=box8 HL9.out;have hlL:w7.heap.size<w9.heap.size:=(Array.getElem?_eq_some_iff.1 HL9.out).1;go_wp2_with fail
 refine (QF 4 [120] 0 (some ⟨w6.heap.size,0,none⟩) 1 1 kLam [92,32,120,32,45,62,32,67,111,110,115,32,120,32,78,105,108] _ HM9.out (by decide) (by decide) (HT.out.bel HB9.out) qiw qh3 qiM).mono ?_;rintro e w10 ⟨rfl,hb10⟩;have HB10:=hid (HB9.out.on hb10);have HO10:=hid (hb10.blk HO9.out);have HS10:=hid (hb10.blk HS9.out);have HK10:=hid (HK9.out.bel hb10);have HM10:=hid (HM9.out.bel hb10);have HL10:=hid (hb10.blk HL9.out);clear HB9 HO9 HS9 HK9 HM9 HL9;clear hb10 x0 x1 x2 x3 x4 x5 x6 x7 hlL;go_wp2_with fail
 refine (qM 9 ⟨#[65]⟩ none 0 0 _).mono ?_;rintro e w11 ⟨rfl,hb11⟩;have HB11:=hid (HB10.out.on hb11);have HO11:=hid (hb11.blk HO10.out);have HS11:=hid (hb11.blk HS10.out);have HK11:=hid (HK10.out.bel hb11);have HM11:=hid (HM10.out.bel hb11);have HL11:=hid (hb11.blk HL10.out);clear HB10 HO10 HS10 HK10 HM10 HL10;clear hb11;go_wp2_with fail
 refine (qQ _ _).mono ?_;rintro e w12 ⟨rfl,hb12⟩;have HB12:=hid (HB11.out.on hb12);have HO12:=hid (hb12.blk HO11.out);have HS12:=hid (hb12.blk HS11.out);have HK12:=hid (HK11.out.bel hb12);have HM12:=hid (HM11.out.bel hb12);have HL12:=hid (hb12.blk HL11.out);clear HB11 HO11 HS11 HK11 HM11 HL11;clear hb12;go_wp2_with fail
 have hkx:KidsTr (w12.alloc (.cells #[.int .u8 9,.string ⟨#[65]⟩,(0:Int),(0:Int),(0:Int),(0:Int),.slice none 0 0,.slice none 0 0,.int .u8 1,.string ⟨#[120]⟩,(0:Int),(0:Int),(0:Int),(0:Int),.slice none 0 0,.slice none 0 0] 43)) (OldT (w12.alloc (.cells #[.int .u8 9,.string ⟨#[65]⟩,(0:Int),(0:Int),(0:Int),(0:Int),.slice none 0 0,.slice none 0 0,.int .u8 1,.string ⟨#[120]⟩,(0:Int),(0:Int),(0:Int),(0:Int),.slice none 0 0,.slice none 0 0] 43))) .ex (some ⟨w12.heap.size,0,none⟩) 2 2 kAx:=jM ((Qn 9 [65] (qu w12 _ .ex)).app (Q5 [120])) 2 rfl;have HKX:=hid hkx;clear hkx;refine (qM 5 ⟨#[]⟩ (some ⟨w12.heap.size,0,none⟩) 2 2 _).mono ?_;rintro e w13 ⟨rfl,hb13'⟩;have hb13:Bel w12 w13:=((Bel.refl w12).alloc _).on hb13';have HX13:=hid (HKX.out.bel hb13');clear HKX hb13';have HB13:=hid (HB12.out.on hb13);have HO13:=hid (hb13.blk HO12.out);have HS13:=hid (hb13.blk HS12.out);have HK13:=hid (HK12.out.bel hb13);have HM13:=hid (HM12.out.bel hb13);have HL13:=hid (hb13.blk HL12.out);clear HB12 HO12 HS12 HK12 HM12 HL12;clear hb13;go_wp2_with fail
 refine (QF 5 [] 0 (some ⟨w12.heap.size,0,none⟩) 2 2 kAx [40,32,65,32,41,32,120] _ HX13.out (by decide) (by decide) (HT.out.bel HB13.out) i_ax m_ax w_ax).mono ?_;rintro e w14 ⟨rfl,hb14⟩;have HB14:=hid (HB13.out.on hb14);have HO14:=hid (hb14.blk HO13.out);have HS14:=hid (hb14.blk HS13.out);have HK14:=hid (HK13.out.bel hb14);have HM14:=hid (HM13.out.bel hb14);have HL14:=hid (hb14.blk HL13.out);clear HB13 HO13 HS13 HK13 HM13 HL13;clear hb14 HX13;go_wp2_with fail
 refine (qQ _ _).mono ?_;rintro e w15 ⟨rfl,hb15⟩;have HB15:=hid (HB14.out.on hb15);have HO15:=hid (hb15.blk HO14.out);have HS15:=hid (hb15.blk HS14.out);have HK15:=hid (HK14.out.bel hb15);have HM15:=hid (HM14.out.bel hb15);have HL15:=hid (hb15.blk HL14.out);clear HB14 HO14 HS14 HK14 HM14 HL14;clear hb15;go_wp2_with fail
 have hkx:KidsTr (w15.alloc (.cells #[.int .u8 1,.string ⟨#[120]⟩,(0:Int),(0:Int),(0:Int),(0:Int),.slice none 0 0,.slice none 0 0] 43)) (OldT (w15.alloc (.cells #[.int .u8 1,.string ⟨#[120]⟩,(0:Int),(0:Int),(0:Int),(0:Int),.slice none 0 0,.slice none 0 0] 43))) .ex (some ⟨w15.heap.size,0,none⟩) 1 1 kX:=jM (Q5 [120]) 1 rfl;have HKX:=hid hkx;clear hkx;refine (qM 9 ⟨#[65]⟩ (some ⟨w15.heap.size,0,none⟩) 1 1 _).mono ?_;rintro e w16 ⟨rfl,hb16'⟩;have hb16:Bel w15 w16:=((Bel.refl w15).alloc _).on hb16';have HX16:=hid (HKX.out.bel hb16');clear HKX hb16';have HB16:=hid (HB15.out.on hb16);have HO16:=hid (hb16.blk HO15.out);have HS16:=hid (hb16.blk HS15.out);have HK16:=hid (HK15.out.bel hb16);have HM16:=hid (HM15.out.bel hb16);have HL16:=hid (hb16.blk HL15.out);clear HB15 HO15 HS15 HK15 HM15 HL15;clear hb16;go_wp2_with fail
 refine (QF 9 [65] 0 (some ⟨w15.heap.size,0,none⟩) 1 1 kX [65,32,120] _ HX16.out (by decide) (by decide) (HT.out.bel HB16.out) i_a m_a w_a).mono ?_;rintro e w17 ⟨rfl,hb17⟩;have HB17:=hid (HB16.out.on hb17);have HO17:=hid (hb17.blk HO16.out);have HS17:=hid (hb17.blk HS16.out);have HK17:=hid (HK16.out.bel hb17);have HM17:=hid (HM16.out.bel hb17);have HL17:=hid (hb17.blk HL16.out);clear HB16 HO16 HS16 HK16 HM16 HL16;clear hb17 HX16;go_wp2_with fail
 obtain⟨w18,hw18⟩:∃ w18,w18=(((((((w17.alloc (.cells #[.int .u8 1,.string ⟨#[97]⟩,.int .u8 0,(0:Int),(0:Int),(0:Int),.slice none 0 0] 50)).alloc (.cells #[.string ⟨#[97]⟩] 9)).alloc (.cells #[.int .u8 1,.string ⟨#[97]⟩,.int .u8 0,(0:Int),(0:Int),(0:Int),.slice none 0 0] 50)).alloc (.cells #[.int .u8 1,.int .u8 2,.string ⟨#[76,105,115,116]⟩,.int .u8 0,(0:Int),(0:Int),(0:Int),.slice (some ⟨w17.heap.size+1+1,0,none⟩) 1 1,.int .u8 2,.int .u8 1,.string ⟨#[97]⟩,.int .u8 0,(0:Int),(0:Int),(0:Int),.slice none 0 0] 53)).alloc (.cells #[.string ⟨#[65]⟩,(0:Int),(0:Int),(0:Int),.slice (some ⟨w17.heap.size+1+1+1,0,none⟩) 2 2] 56)).alloc (.cells #[.int .u8 1,.string ⟨#[84]⟩,(0:Int),(0:Int),(0:Int),.slice (some ⟨w17.heap.size+1,0,none⟩) 1 1,.slice (some ⟨w17.heap.size+1+1+1+1,0,none⟩) 1 1,.bool false,.int .u8 0,.string ⟨#[]⟩,(0:Int),(0:Int),(0:Int),(0:Int),.slice none 0 0,.slice none 0 0] 59)).alloc (.cells #[.int .u8 1,.string ⟨#[84]⟩,(0:Int),(0:Int),(0:Int),.slice (some ⟨w17.heap.size+1,0,none⟩) 1 1,.slice (some ⟨w17.heap.size+1+1+1+1,0,none⟩) 1 1,.bool false,.int .u8 0,.string ⟨#[]⟩,(0:Int),(0:Int),(0:Int),(0:Int),.slice none 0 0,.slice none 0 0] 59)):=⟨_,rfl⟩
 rw[<- hw18];have hb18:Bel w17 w18:=by rw[hw18];exact ((((((((Bel.refl w17).alloc _).alloc _).alloc _).alloc _).alloc _).alloc _).alloc _)
 obtain⟨q0,q1,q2,q3,q4,q5,q6⟩:w18.heap[w17.heap.size]?=some (.cells #[.int .u8 1,.string ⟨#[97]⟩,.int .u8 0,(0:Int),(0:Int),(0:Int),.slice none 0 0] 50)/\w18.heap[w17.heap.size+1]?=some (.cells #[.string ⟨#[97]⟩] 9)/\w18.heap[w17.heap.size+1+1]?=some (.cells #[.int .u8 1,.string ⟨#[97]⟩,.int .u8 0,(0:Int),(0:Int),(0:Int),.slice none 0 0] 50)/\w18.heap[w17.heap.size+1+1+1]?=some (.cells #[.int .u8 1,.int .u8 2,.string ⟨#[76,105,115,116]⟩,.int .u8 0,(0:Int),(0:Int),(0:Int),.slice (some ⟨w17.heap.size+1+1,0,none⟩) 1 1,.int .u8 2,.int .u8 1,.string ⟨#[97]⟩,.int .u8 0,(0:Int),(0:Int),(0:Int),.slice none 0 0] 53)/\w18.heap[w17.heap.size+1+1+1+1]?=some (.cells #[.string ⟨#[65]⟩,(0:Int),(0:Int),(0:Int),.slice (some ⟨w17.heap.size+1+1+1,0,none⟩) 2 2] 56)/\w18.heap[w17.heap.size+1+1+1+1+1]?=some (.cells #[.int .u8 1,.string ⟨#[84]⟩,(0:Int),(0:Int),(0:Int),.slice (some ⟨w17.heap.size+1,0,none⟩) 1 1,.slice (some ⟨w17.heap.size+1+1+1+1,0,none⟩) 1 1,.bool false,.int .u8 0,.string ⟨#[]⟩,(0:Int),(0:Int),(0:Int),(0:Int),.slice none 0 0,.slice none 0 0] 59)/\w18.heap[w17.heap.size+1+1+1+1+1+1]?=some (.cells #[.int .u8 1,.string ⟨#[84]⟩,(0:Int),(0:Int),(0:Int),.slice (some ⟨w17.heap.size+1,0,none⟩) 1 1,.slice (some ⟨w17.heap.size+1+1+1+1,0,none⟩) 1 1,.bool false,.int .u8 0,.string ⟨#[]⟩,(0:Int),(0:Int),(0:Int),(0:Int),.slice none 0 0,.slice none 0 0] 59):=by
  rw[hw18];exact blk7 w17 _ _ _ _ _ _ _
 have hps:=qiL q1;have hcs:=qip (qiv q2 q3) q4;have HPS:=hid hps;have HCS:=hid hcs;have HDR:=hid (qiE hps hcs q6);have HD18:=hid q5;clear hps hcs q0 q1 q2 q3 q4 q5 q6 hw18;have HB18:=hid (HB17.out.on hb18);have HO18:=hid (hb18.blk HO17.out);have HS18:=hid (hb18.blk HS17.out);have HK18:=hid (HK17.out.bel hb18);have HM18:=hid (HM17.out.bel hb18);have HL18:=hid (hb18.blk HL17.out);clear HB17 HO17 HS17 HK17 HM17 HL17;clear hb18;have htx:=jU (some ⟨w17.heap.size+1+1+1+1+1+1,0,none⟩) 1 1 [kD] w18 HDR.out (by decide) (fun x hx=>by rw[List.mem_singleton.1 hx];exact qhM) (HT.out.bel HB18.out);rw[w_d]at htx;refine htx.mono ?_;clear htx;rintro e w19 ⟨rfl,hb19⟩;have HPS19:=hid (HPS.out.bel jz hb19);have HCS19:=hid (HCS.out.bel zp hb19);clear HPS HCS HDR;have HB19:=hid (HB18.out.on hb19);have HO19:=hid (hb19.blk HO18.out);have HS19:=hid (hb19.blk HS18.out);have HK19:=hid (HK18.out.bel hb19);have HM19:=hid (HM18.out.bel hb19);have HL19:=hid (hb19.blk HL18.out);have HD19:=hid (hb19.blk HD18.out);clear HB18 HO18 HS18 HK18 HM18 HL18 HD18;clear hb19;obtain⟨x0,x1,x2,x3,x4,x5,x6,x7,x8,x9,x10,x11,x12,x13,x14,x15⟩:=qeI HD19.out;have hlD:w17.heap.size+1+1+1+1+1<w19.heap.size:=(Array.getElem?_eq_some_iff.1 HD19.out).1;have HDP:=hid (zK 1 [84] p00 (some ⟨w17.heap.size+1,0,none⟩) 1 1 (some ⟨w17.heap.size+1+1+1+1,0,none⟩) 1 1 false 0 [] 0 p00 none 0 none 0 .nil .nil [kCd] w19 (qu w19 _ .ex) (qu w19 _ .arms) (by decide) HCS19.out (by decide) (by decide));go_wp2_with fail
 refine HDP.out.mono ?_;rintro e w20 ⟨rfl,hb20⟩;rw[show ((QK 1 (Tr.nod 0 [] 0 p00 Tr.nil Tr.nil Tr.nil) [kCd]:Nat):Int)=2 from by decide];have HB20:=hid (HB19.out.on hb20);have HO20:=hid (hb20.blk HO19.out);have HS20:=hid (hb20.blk HS19.out);have HK20:=hid (HK19.out.bel hb20);have HM20:=hid (HM19.out.bel hb20);have HL20:=hid (hb20.blk HL19.out);have HD20:=hid (hb20.blk HD19.out);clear HB19 HO19 HS19 HK19 HM19 HL19 HD19;clear hb20 HDP x0 x1 x2 x3 x4 x5 x6 x7 x8 x9 x10 x11 x12 x13 x14 x15 hlD HPS19 HCS19;obtain⟨x0,x1,x2,x3,x4,x5,x6,x7⟩:=box8 HS20.out;have hlS:bS<w20.heap.size:=(Array.getElem?_eq_some_iff.1 HS20.out).1;have HDP:=hid (zK 2 [] p00 none 0 0 none 0 0 false 10 [43] 0 p00 (some ⟨gS,0,none⟩) 2 none 0 kSum .nil [] w20 HK20.out (qu w20 _ .arms) (by decide) ⟨rfl,Nat.le_refl _,fun h=>absurd h (by decide)⟩ (by decide) (by decide));go_wp2_with fail
 refine HDP.out.mono ?_;rintro e w21 ⟨rfl,hb21⟩;rw[show ((QK 2 (Tr.nod 10 [43] 0 p00 kSum Tr.nil Tr.nil) []:Nat):Int)=4 from by decide];have HB21:=hid (HB20.out.on hb21);have HO21:=hid (hb21.blk HO20.out);have HS21:=hid (hb21.blk HS20.out);have HK21:=hid (HK20.out.bel hb21);have HM21:=hid (HM20.out.bel hb21);have HL21:=hid (hb21.blk HL20.out);have HD21:=hid (hb21.blk HD20.out);clear HB20 HO20 HS20 HK20 HM20 HL20 HD20;clear hb21 HDP x0 x1 x2 x3 x4 x5 x6 x7 hlS;obtain⟨x0,x1,x2,x3,x4,x5,x6,x7⟩:=box8 HL21.out;have hlL:w7.heap.size<w21.heap.size:=(Array.getElem?_eq_some_iff.1 HL21.out).1;have HDP:=hid (zK 2 [] p00 none 0 0 none 0 0 false 4 [120] 0 p00 (some ⟨w6.heap.size,0,none⟩) 1 none 0 kLam .nil [] w21 HM21.out (qu w21 _ .arms) (by decide) ⟨rfl,Nat.le_refl _,fun h=>absurd h (by decide)⟩ (by decide) (by decide));go_wp2_with fail
 refine HDP.out.mono ?_;rintro e w22 ⟨rfl,hb22⟩;rw[show ((QK 2 (Tr.nod 4 [120] 0 p00 kLam Tr.nil Tr.nil) []:Nat):Int)=3 from by decide];have HB22:=hid (HB21.out.on hb22);have HO22:=hid (hb22.blk HO21.out);have HS22:=hid (hb22.blk HS21.out);have HK22:=hid (HK21.out.bel hb22);have HM22:=hid (HM21.out.bel hb22);have HL22:=hid (hb22.blk HL21.out);have HD22:=hid (hb22.blk HD21.out);clear HB21 HO21 HS21 HK21 HM21 HL21 HD21;clear hb22 HDP x0 x1 x2 x3 x4 x5 x6 x7 hlL;go_wp2_with fail
 refine qdw w.heap.size _ _ _ _ _ _ _ _ _ _ _ _ _ _ _ _ _ _ _ _ _ _ _ _ _ _ _ _ _ _ _ _ _ _ _ _ _ _ _ _ _ _ _ _ _ _ _ _ _ _ _ _ _ _ _ _ _ _ _ _ _ _ _ _ _ _ _ _ _ _ _ _ _ _ _ _ _ _ _ _ _ _ _ _ _ _ _ _ _ _ _ _ _ _ _ _ _ _ _ _ _ _ _ _ _ _ _ _ _ _ _ _ _ _ _ _ _ _ _ _ _ _ _ _ _ _ _ w22 HO22.out _ ?_;rintro V2 w23 hb23' ⟨gW,hv7,hkW⟩ hv8 hv9;simp only[qf8,hv7,hv8,hv9];have hb23:Bel w22 w23:=(Bel.refl _).drew.on hb23';have HKW:Hid (KidsTr w23 (OldT w23) .ex (some ⟨gW,0,none⟩) 3 3 kBad):=hid (hkW.wide fun j hj=>hj.1);clear hb23' hv7 hv8 hv9 hkW;have HB23:=hid (HB22.out.on hb23);have HO23:=hid (hb23.blk HO22.out);have HS23:=hid (hb23.blk HS22.out);have HK23:=hid (HK22.out.bel hb23);have HM23:=hid (HM22.out.bel hb23);have HL23:=hid (hb23.blk HL22.out);have HD23:=hid (hb23.blk HD22.out);clear HB22 HO22 HS22 HK22 HM22 HL22 HD22;clear hb23
 (try simp only[Exit.then])
 go_wp2_with fail
 go_loopw [102] (fun i wr=>∃ j:Nat,j<=3/\i=.int .i64 (j:Int)/\Hid (Bel w23 wr)) (fun i _=>3-(intOf i).toNat)
 case atStart=>exact⟨0,Nat.zero_le _,rfl,hid (Bel.refl _)⟩
 case round=>
  obtain⟨j,hj,rfl,HBR⟩:=hrel;by_cases hlt:j<3
  ·obtain⟨ub,uo,eA,hob,hT⟩:=(HKW.out.bel HBR.out).2.2 (by decide)
   obtain⟨k,s,n,p,kids,arms,en,ha⟩:=TrAt.nod_at (by intro e;cases e) kBad j ub uo hT hlt;obtain⟨k',s',kids',en',hm,hi,hsz⟩:=qgj j hlt;rw[en]at en';simp only[Tr.nod.injEq,and_true]at en';obtain⟨rfl,rfl,rfl,rfl,rfl,rfl⟩:=en';obtain⟨A',c',B',bc',hcs,hkk,hka,_⟩:=ha.parts;have hka':KidsTr wr (OldT wr) .arms B' 0 bc' .nil:=by
    rcases hka with h | ⟨h | h,_⟩
    ·exact h.2
    ·cases h
    ·cases h
   obtain⟨ub',uo'⟩:ub=gW/\uo=0:=by
    injection eA with e
    injection e with e1 e2 _
    exact⟨e1.symm,e2.symm⟩
   subst ub' uo';have HC:Hid (∀ W,Bel wr W->Calls Tryz.prog 14 #[.agg #[.int .u8 k,.string ⟨s.toArray⟩,(0:Int),(0:Int),(0:Int),(0:Int),.slice A' kids.len c',.slice B' 0 bc']] W fun e w'=>e=.returned (.tuple #[.string ⟨#[]⟩,.int .i64 2])/\Bel W w'):=hid fun W hW=>by
    have hem:=Z7 (k:=k) (s:=s) (n:=0) (p:=p00) (arms:= .nil) (hkk.bel hW) (hka'.bel hW);rw[hm,Bool.false_and]at hem;have hO:txO k s 0 p00 kids .nil=([],2):=by unfold txO;rw[hem];rfl
    have h:=Qo k s 0 p00 A' c' B' bc' kids .nil W (hkk.bel hW) (hka'.bel hW) (by simp only[Tr.size];omega) (HT.out.bel ((HB23.out.on HBR.out).on hW)) hi;rw[hO]at h;exact h
   have y0:=hcs 0 _ rfl;have y1:=hcs 1 _ rfl;have y2:=hcs 2 _ rfl;have y3:=hcs 3 _ rfl;have y4:=hcs 4 _ rfl;have y5:=hcs 5 _ rfl;have y6:=hcs 6 _ rfl;have y7:=hcs 7 _ rfl;simp only[Sh.sz,Sh.kd,Nat.add_zero,Nat.zero_add,p00,Tr.len]at y0 y1 y2 y3 y4 y5 y6 y7;obtain⟨SS,hSS⟩:∃ S:ByteArray,S=⟨s.toArray⟩:=⟨_,rfl⟩
   obtain⟨kl,hkl⟩:∃ l,l=kids.len:=⟨_,rfl⟩
   rw[<- hSS,<- hkl]at HC;rw[<- hSS]at y1;rw[<- hkl]at y6;have hob':ub<wr.heap.size:=hob;have i1:(0:Int)<=(j:Int):=by omega
   have i2:(j:Int)<3:=by omega
   have HLT:=hid hlt;clear hT en ha hm hi hsz hcs hkk hka hka' hSS hkl hob eA;go_wp2_with fail
   refine (HC.out _ ((Bel.refl wr).alloc _)).mono ?_;rintro e w24 ⟨rfl,hb24⟩;have HB24:=hid (HBR.out.on (((Bel.refl wr).alloc (.cells #[.int .u8 k,SS,(0:Int),(0:Int),(0:Int),(0:Int),.slice A' kl c',.slice B' 0 bc'] 43)).on hb24));clear hb24 y0 y1 y2 y3 y4 y5 y6 y7 hob' HC;go_wp2_with fail
   go_roundw
   case rel=>exact⟨j+1,HLT.out,by go_num,HB24⟩
   case measure=>have:=HLT.out;simp[intOf];omega
  ·obtain rfl:j=3:=by omega
   have HBZ:=hid (HB23.out.on HBR.out);have HSZ:=hid (HBR.out.blk HS23.out);have HLZ:=hid (HBR.out.blk HL23.out);have HKZ:=hid (HK23.out.bel HBR.out);have HMZ:=hid (HM23.out.bel HBR.out);obtain⟨x0,x1,x2,x3,x4,x5,x6,x7⟩:=box8 HSZ.out;have hlS:bS<wr.heap.size:=(Array.getElem?_eq_some_iff.1 HSZ.out).1;have e1:(Tr.nod 10 [43] 0 p00 kSum .nil .nil).same (Tr.nod 10 [43] 0 p00 kSum .nil .nil)=true:=by decide +kernel
   have e2:(Tr.nod 10 [43] 0 p00 kSum .nil .nil).same (Tr.nod 4 [120] 0 p00 kLam .nil .nil)=false:=by decide +kernel
   have hc1:=zV 10 [43] 0 p00 (some ⟨gS,0,none⟩) 2 none 0 kSum .nil 10 [43] 0 p00 (some ⟨gS,0,none⟩) 2 none 0 kSum .nil wr HKZ.out (qu wr _ .arms) HKZ.out (qu wr _ .arms) (by decide) (by decide);rw[e1]at hc1;have HC1:=hid hc1;have HC2:Hid (∀ W,Bel wr W->Calls Tryz.prog 15 #[.agg #[.int .u8 10,.string ⟨#[43]⟩,(0:Int),(0:Int),(0:Int),(0:Int),.slice (some ⟨gS,0,none⟩) 2 2,.slice none 0 0],.agg #[.int .u8 4,.string ⟨#[120]⟩,(0:Int),(0:Int),(0:Int),(0:Int),.slice (some ⟨w6.heap.size,0,none⟩) 1 1,.slice none 0 0]] W (qz false W)):=hid fun W hW=>by
    have h:=zV 10 [43] 0 p00 (some ⟨gS,0,none⟩) 2 none 0 kSum .nil 4 [120] 0 p00 (some ⟨w6.heap.size,0,none⟩) 1 none 0 kLam .nil W (HKZ.out.bel hW) (qu W _ .arms) (HMZ.out.bel hW) (qu W _ .arms) (by decide) (by decide);rw[e2]at h;exact h
   clear e1 e2 hc1;go_wp2_with fail
   refine HC1.out.mono ?_;rintro e w25 ⟨rfl,hb25⟩;have HB25:=hid hb25;clear x0 x1 x2 x3 x4 x5 x6 x7 hlS;obtain⟨x0,x1,x2,x3,x4,x5,x6,x7⟩:=box8 (hb25.blk HSZ.out);obtain⟨z0,z1,z2,z3,z4,z5,z6,z7⟩:=box8 (hb25.blk HLZ.out);have hlS:bS<w25.heap.size:=(Array.getElem?_eq_some_iff.1 (hb25.blk HSZ.out)).1;have hlL:w7.heap.size<w25.heap.size:=(Array.getElem?_eq_some_iff.1 (hb25.blk HLZ.out)).1;clear hb25 HC1;go_wp2_with fail
   refine (HC2.out _ HB25.out).mono ?_;rintro e w26 ⟨rfl,hb26⟩;have HB26:=hid ((HBZ.out.on HB25.out).on hb26);clear hb26 x0 x1 x2 x3 x4 x5 x6 x7 z0 z1 z2 z3 z4 z5 z6 z7 hlS hlL;go_wp2_with fail
   go_ret
   exact⟨rfl,HB26.out⟩
theorem qbN{ts:List Tb}(h:(wrO ts).2=0):∃ TL:List Tn,TL.map Tn.b=ts/\TL.length<=4001/\(∀ y∈TL,y.s.length<=140737488355328/\-9223372036854775808<=y.n/\y.n<=9223372036854775807)/\∀ W,Calls Tryz.prog 7 #[.string ⟨(wrO ts).1.toArray⟩] W (GTo ⟨TL,0,z0⟩ W):=by
 obtain⟨cs,hc,he,hq,hb⟩:=Zy h;refine⟨(tokO (wrO ts).1.length cs []).l,hb,(ZI hc he).2,(ZI hc he).1,fun W=>?_⟩;have:=ZM (s:=⟨(wrO ts).1.toArray⟩) (cs:=cs) (rest:=[]) hc W;have hsz:(⟨(wrO ts).1.toArray⟩:ByteArray).size=(wrO ts).1.length:=by simp[ByteArray.size]
 rw[hsz]at this;have e:tokO (wrO ts).1.length cs []=⟨(tokO (wrO ts).1.length cs []).l,0,z0⟩:=by rw[<- he,<- hq]
 rw[<- e];exact this
theorem dgz(w:World):(Op.equalIn 10000 32 (.agg #[.int .i64 0,(0:Int),(0:Int),(0:Int)]) (.agg #[.int .i64 0,(0:Int),(0:Int),(0:Int)])).run Tryz.prog w=.ok true w:=by
 have:=qgt 0 0 ⟨0,0,0⟩ ⟨0,0,0⟩ w;simpa using this
theorem qdY{a b:Int}{t:Tb}{F:List Tb}{r:Int × Int}(h:runB a b (t::F)=some r):0<=a+bO t/\0<=b+bC t/\runB (a+bO t) (b+bC t) F=some r:=by
 rw[runB]at h;split at h
 ·cases h
 ·exact⟨by omega,by omega,h⟩
theorem qfo{w:World}{Ok:Nat->Prop}{A:Option Addr}{n c:Nat}{xs:List Dc}(h:RowOf 16 DcAt w Ok A n c xs):∀ x∈xs,x.mok:=fun x hx=>by
 obtain⟨b,o,h⟩:=h.mem hx;exact h.mok
theorem showTokens_any(A:Option Addr)(n c:Nat)(B:Option Addr)(m d:Nat)(xs ys:List Dc)(w:World)(ht:Tbl w)(htab:Lib.TabIs Tryz.prog w "strings.asciiSpace" .u8 Lib.asciiSpaceTab)(hk:RowOf 16 DcAt w (OldT w) A n c xs)(hk2:RowOf 16 DcAt w (OldT w) B m d ys)(hn:n<=1000000)(hm:m<=1000000)(hnm:n+m<=1000000)(hp:∀ x∈xs,x.prO)(hp2:∀ x∈ys,x.prO) :
  Calls Tryz.prog 3 #[.slice A n c,.slice B m d] w (qz true w):=by
 have HKN:=hid fun W (hW:Bel w W)=>qah W (ht.bel hW);have HZ1:=hid fun W (hW:Bel w W)=>JT A n c xs W (hk.bel zD hW) (by omega) (fun x hx=>(hp x hx).2.1);have HZ2:=hid fun W (hW:Bel w W)=>JT B m d ys W (hk2.bel zD hW) (by omega) (fun x hx=>(hp2 x hx).2.1);have HT1:=hid fun W (hW:Bel w W)=>jU A n c xs W (hk.bel zD hW) hn (fun x hx=>⟨(hp x hx).1,(hp x hx).2.2.1⟩) (ht.bel hW);have HT2:=hid fun W (hW:Bel w W)=>jU B m d ys W (hk2.bel zD hW) hm (fun x hx=>⟨(hp2 x hx).1,(hp2 x hx).2.2.1⟩) (ht.bel hW);have HTA:=hid fun W (hW:Bel w W) A' c' (h:RowOf 16 DcAt W (OldT W) A' (n+m) c' (xs++ys))=>jU A' (n+m) c' (xs++ys) W h hnm (fun x hx=>(List.mem_append.1 hx).elim (fun hx=>⟨(hp x hx).1,(hp x hx).2.2.1⟩) (fun hx=>⟨(hp2 x hx).1,(hp2 x hx).2.2.1⟩)) (ht.bel hW);have HTR:=hid fun W (hW:Bel w W) s M (hs:s.size<=1000000) (hM:Trm s.data.toList M)=>qfA s M W hs hM (Joins.tab_stays qcV htab hW (Nat.le_refl _));have m1:=qfo hk;have HBAL:=hid (fun h=>qhg (xs:=xs) h m1);have HOK:=hid (fun h=>JX (xs:=xs) h);have HOK2:=hid (fun h=>JX (xs:=ys) h);have HTW:=hid (fun h h'=>qhh (xs:=xs) (ys:=ys) h h');have HR:=hid (And.intro hk hk2);have HTB:=hid ht;have hne:(xs≠[]↔0<n)/\(ys≠[]↔0<m):=by
  rw[hk.1,hk2.1];exact⟨List.length_pos_iff.symm,List.length_pos_iff.symm⟩
 have HNE:=hid hne;obtain⟨⟨t1,e1⟩,hT1⟩:∃ T,T=tlO xs:=⟨_,rfl⟩
 obtain⟨⟨t2,e2⟩,hT2⟩:∃ T,T=tlO ys:=⟨_,rfl⟩
 obtain⟨⟨t3,e3⟩,hT3⟩:∃ T,T=tlO (xs++ys):=⟨_,rfl⟩
 rw[<- hT1]at HT1 HBAL HOK HTW;rw[<- hT2]at HT2 HTW HOK2;rw[<- hT3]at HTA HTW;simp only at HT1 HT2 HTA;clear ht htab hk hk2 hp hp2 hT1 hT2 hT3 m1 hne;go_enter Tryz.func3,Tryz.ntmps3
 go_wp2_with fail
 refine (HKN.out _ (Bel.refl _)).mono ?_;rintro e w1 ⟨rfl,hb1⟩;have HB1:=hid hb1;clear hb1 HKN;go_wp2_with fail
 refine (HZ1.out _ HB1.out).mono ?_;rintro e w2 ⟨z1,rfl,_,_,hb2⟩;have HB2:=hid (HB1.out.on hb2);clear hb2 HZ1;by_cases g1:(3000:Int)<z1
 ·have d1:decide ((3000:Int)<z1)=true:=by simpa using g1
  go_wp2_with fail
  go_ret
  exact⟨rfl,HB2.out⟩
 have d1:decide ((3000:Int)<z1)=false:=by simpa using g1
 go_wp2_with fail
 refine (HZ2.out _ HB2.out).mono ?_;rintro e w3 ⟨z2,rfl,_,_,hb3⟩;have HB3:=hid (HB2.out.on hb3);clear hb3 HZ2;by_cases g2:(3000:Int)<z2
 ·have d2:decide ((3000:Int)<z2)=true:=by simpa using g2
  go_wp2_with fail
  go_ret
  exact⟨rfl,HB3.out⟩
 have d2:decide ((3000:Int)<z2)=false:=by simpa using g2
 go_wp2_with fail
 refine (HT1.out _ HB3.out).mono ?_;rintro e w4 ⟨rfl,hb4⟩;have HB4:=hid (HB3.out.on hb4);clear hb4 HT1;go_wp2_with fail
 refine (HT2.out _ HB4.out).mono ?_;rintro e w5 ⟨rfl,hb5⟩;have HB5:=hid (HB4.out.on hb5);clear hb5 HT2;by_cases h1:e1=0
 case neg=>
  have k1:(e1==0)=false:=by simpa using h1
  have k2:(e1 != 0)=true:=by simpa using h1
  go_wp2_with fail
  go_ret
  exact⟨rfl,HB5.out⟩
 by_cases h2:e2=0
 case neg=>
  subst h1;have k1:(e2==0)=false:=by simpa using h2
  have k2:(e2 != 0)=true:=by simpa using h2
  go_wp2_with fail
  go_ret
  exact⟨rfl,HB5.out⟩
 subst h1 h2;obtain⟨_,_,o3,o4,o5⟩:=HOK.out rfl;obtain⟨M,q1,q2,q3⟩:=HTW.out rfl rfl;have hbal:=HBAL.out rfl;have hw0:(wrO ((dsK xs).map Tn.b)).2=0:=by rw[<- o5]
 have hw1:(wrO ((dsK xs).map Tn.b)).1=t1:=by rw[<- o5]
 obtain⟨TL,r1,r2,r3,r4⟩:=qbN hw0;rw[hw1]at r4;rw[<- r1]at hbal hw0 hw1;have HW:Hid (∀ (W:World) (A':Option Addr) (c':Nat),Tbl W->RTn W W.heap.size A' TL.length TL->Calls Tryz.prog 8 #[.slice A' TL.length c'] W fun e w'=>e=.returned (.tuple #[.string ⟨t1.toArray⟩,(0:Int)])/\Bel W w'):=hid fun W A' c' ht h=>by
  have:=jC (cp:=c') W ht h (by have:=r2;omega) r3;rw[hw0,hw1]at this;exact this
 have HL1:Hid (t1.length<=4000):=hid (by have:=congrArg Prod.fst o3;simp only at this;rw[this];exact o4);have HL2:Hid (t2.length<=4000):=hid (by have h4:=HOK2.out rfl;have:=congrArg Prod.fst h4.2.2.1;simp only at this;rw[this];exact h4.2.2.2.1);have HBL:=hid hbal;have HQ1:=hid q1;have HQ2:=hid q2;have HQ3:=hid q3;have HR2:=hid r2;have HR4:=hid r4;clear o3 o4 o5 q1 q2 q3 hbal hw0 hw1 r1 r2 r3 r4 HBAL HOK HOK2 HTW;go_wp2_with fail
 refine (HR4.out _).mono ?_;rintro e w6 ⟨hb6,A6,n6,c6,rfl,hr6⟩;have hn6:n6=TL.length:=hr6.1;have hn6':n6<=4001:=by have:=HR2.out;omega
 rw[<- hn6]at HW;have HN6:=hid hn6;have HR6:=hid hr6;have HB6:=hid (HB5.out.on hb6);clear hb6 hr6 hn6 HR4;go_wp2_with fail
 refine (HW.out _ _ _ (HTB.out.bel (HB6.out.alloc _)) (HR6.out.bel ((Bel.refl w6).alloc _))).mono ?_;rintro e w7 ⟨rfl,hb7⟩;have HK7:=hid (hb7.blk (blk1 w6 (.cells #[.int .i64 0,(0:Int),(0:Int),(0:Int)] 32)));have HR7:=hid (HR6.out.bel (((Bel.refl w6).alloc _).on hb7));have HB7:=hid ((HB6.out.alloc _).on hb7);clear hb7 HW HR6;go_wp2_with fail
 go_loopw [13,14,58] (fun vo vb vi wr=>∃ (j:Nat) (a b:Int),vi=.int .i64 (j:Int)/\vo=.int .i64 a/\vb=.int .i64 b/\Hid (j<=n6/\runB a b ((TL.map Tn.b).drop j)=some (0,0))/\(0<=a/\a<=j/\0<=b/\b<=j)/\Hid (Bel w7 wr)) (fun _ _ vi _=>n6-(intOf vi).toNat)
 case atStart=>exact⟨0,0,0,rfl,rfl,rfl,hid ⟨Nat.zero_le _,HBL.out⟩,⟨by omega,by omega,by omega,by omega⟩,hid (Bel.refl _)⟩
 case round=>
  obtain⟨j,a,b,rfl,rfl,rfl,HJ,⟨ha0,haj,hb0,hbj⟩,HB⟩:=hrel;by_cases hj:j<n6
  ·obtain⟨x,hx⟩:∃ x,TL[j]?=some x:=⟨_,List.getElem?_eq_getElem (by have:=HN6.out;omega)⟩
   obtain⟨g,off,rfl,hg,hcc⟩:=(HR7.out.bel HB.out).2 (by omega);obtain⟨x0,x1,x2,x3,x4,x5⟩:=hcc j x hx;have hdr:(TL.map Tn.b).drop j=x.b::(TL.map Tn.b).drop (j+1):=by
    have h3:(TL.map Tn.b)[j]?=some x.b:=by rw[List.getElem?_map,hx];rfl
    obtain⟨h1,h2⟩:=List.getElem?_eq_some_iff.1 h3;rw[List.drop_eq_getElem_cons h1,h2]
   have hst:=HJ.out.2;rw[hdr]at hst;obtain⟨s1,s2,s3⟩:=qdY hst;have HS3:=hid s3;have HLT:=hid hj;clear hst hdr s3 hcc hx;obtain⟨k,s,nn,p⟩:=x;simp only[Tn.b]at s1 s2 HS3 x0 x1 x2 x3 x4 x5;by_cases hk5:k=5
   case neg=>
    have k1:(k != 5)=true:=by simpa using hk5
    have k2:(k==5)=false:=by simpa using hk5
    have z1:bO (k,s,nn)=0:=if_neg hk5;have z2:bC (k,s,nn)=0:=if_neg hk5;rw[z1,z2,Int.add_zero,Int.add_zero]at HS3;clear z1 z2 s1 s2;go_wp2_with fail
    go_roundw
    case rel=>exact⟨j+1,a,b,by go_num,rfl,rfl,hid ⟨HLT.out,HS3.out⟩,⟨by omega,by omega,by omega,by omega⟩,hid (HB.out.alloc _)⟩
    case measure=>have:=HLT.out;simp[intOf];omega
   subst hk5;by_cases hs:s=[40]
   case pos=>
    subst hs;have z1:bO (5,[40],nn)=1:=rfl;have z2:bC (5,[40],nn)=0:=rfl;rw[z1,z2]at HS3;rw[z1]at s1;rw[z2]at s2;have w1':wrap64 (a+1)=a+1:=IntWalk.wrap64_in _ ⟨by omega,by omega⟩;have w2':wrap64 (b)=b:=IntWalk.wrap64_in _ ⟨by omega,by omega⟩;have u1:decide ((a+1)<0)=false:=decide_eq_false (by omega);have u2:decide ((b)<0)=false:=decide_eq_false (by omega);have HS4:Hid (runB (a+1) (b) ((TL.map Tn.b).drop (j+1))=some (0,0)):=hid (by have h:=HS3.out;simpa [Int.sub_eq_add_neg] using h);have HBD:Hid ((0<=a+1/\a+1<=((j+1:Nat):Int))/\(0<=b/\b<=((j+1:Nat):Int))):=hid ⟨⟨by omega,by omega⟩,⟨by omega,by omega⟩⟩;clear z1 z2 s1 s2 HS3;go_wp2_with fail
    go_roundw
    case rel=>exact⟨j+1,a+1,b,by go_num,by first | rfl | go_num,by first | rfl | go_num,hid ⟨HLT.out,HS4.out⟩,⟨HBD.out.1.1,HBD.out.1.2,HBD.out.2.1,HBD.out.2.2⟩,hid (HB.out.alloc _)⟩
    case measure=>have:=HLT.out;simp[intOf];omega
   have e1:s≠[40]:=hs;clear hs;by_cases hs:s=[41]
   case pos=>
    clear e1;subst hs;have z1:bO (5,[41],nn) = -1:=rfl;have z2:bC (5,[41],nn)=0:=rfl;rw[z1,z2]at HS3;rw[z1]at s1;rw[z2]at s2;have w1':wrap64 (a-1)=a-1:=IntWalk.wrap64_in _ ⟨by omega,by omega⟩;have w2':wrap64 (b)=b:=IntWalk.wrap64_in _ ⟨by omega,by omega⟩;have u1:decide ((a-1)<0)=false:=decide_eq_false (by omega);have u2:decide ((b)<0)=false:=decide_eq_false (by omega);have HS4:Hid (runB (a-1) (b) ((TL.map Tn.b).drop (j+1))=some (0,0)):=hid (by have h:=HS3.out;simpa [Int.sub_eq_add_neg] using h);have HBD:Hid ((0<=a-1/\a-1<=((j+1:Nat):Int))/\(0<=b/\b<=((j+1:Nat):Int))):=hid ⟨⟨by omega,by omega⟩,⟨by omega,by omega⟩⟩;clear z1 z2 s1 s2 HS3;go_wp2_with fail
    go_roundw
    case rel=>exact⟨j+1,a-1,b,by go_num,by first | rfl | go_num,by first | rfl | go_num,hid ⟨HLT.out,HS4.out⟩,⟨HBD.out.1.1,HBD.out.1.2,HBD.out.2.1,HBD.out.2.2⟩,hid (HB.out.alloc _)⟩
    case measure=>have:=HLT.out;simp[intOf];omega
   have e2:s≠[41]:=hs;clear hs;by_cases hs:s=[123]
   case pos=>
    clear e1 e2;subst hs;have z1:bO (5,[123],nn)=0:=rfl;have z2:bC (5,[123],nn)=1:=rfl;rw[z1,z2]at HS3;rw[z1]at s1;rw[z2]at s2;have w1':wrap64 (a)=a:=IntWalk.wrap64_in _ ⟨by omega,by omega⟩;have w2':wrap64 (b+1)=b+1:=IntWalk.wrap64_in _ ⟨by omega,by omega⟩;have u1:decide ((a)<0)=false:=decide_eq_false (by omega);have u2:decide ((b+1)<0)=false:=decide_eq_false (by omega);have HS4:Hid (runB (a) (b+1) ((TL.map Tn.b).drop (j+1))=some (0,0)):=hid (by have h:=HS3.out;simpa [Int.sub_eq_add_neg] using h);have HBD:Hid ((0<=a/\a<=((j+1:Nat):Int))/\(0<=b+1/\b+1<=((j+1:Nat):Int))):=hid ⟨⟨by omega,by omega⟩,⟨by omega,by omega⟩⟩;clear z1 z2 s1 s2 HS3;go_wp2_with fail
    go_roundw
    case rel=>exact⟨j+1,a,b+1,by go_num,by first | rfl | go_num,by first | rfl | go_num,hid ⟨HLT.out,HS4.out⟩,⟨HBD.out.1.1,HBD.out.1.2,HBD.out.2.1,HBD.out.2.2⟩,hid (HB.out.alloc _)⟩
    case measure=>have:=HLT.out;simp[intOf];omega
   have e3':s≠[123]:=hs;clear hs;by_cases hs:s=[125]
   case pos=>
    clear e1 e2 e3';subst hs;have z1:bO (5,[125],nn)=0:=rfl;have z2:bC (5,[125],nn) = -1:=rfl;rw[z1,z2]at HS3;rw[z1]at s1;rw[z2]at s2;have w1':wrap64 (a)=a:=IntWalk.wrap64_in _ ⟨by omega,by omega⟩;have w2':wrap64 (b-1)=b-1:=IntWalk.wrap64_in _ ⟨by omega,by omega⟩;have u1:decide ((a)<0)=false:=decide_eq_false (by omega);have u2:decide ((b-1)<0)=false:=decide_eq_false (by omega);have HS4:Hid (runB (a) (b-1) ((TL.map Tn.b).drop (j+1))=some (0,0)):=hid (by have h:=HS3.out;simpa [Int.sub_eq_add_neg] using h);have HBD:Hid ((0<=a/\a<=((j+1:Nat):Int))/\(0<=b-1/\b-1<=((j+1:Nat):Int))):=hid ⟨⟨by omega,by omega⟩,⟨by omega,by omega⟩⟩;clear z1 z2 s1 s2 HS3;go_wp2_with fail
    go_roundw
    case rel=>exact⟨j+1,a,b-1,by go_num,by first | rfl | go_num,by first | rfl | go_num,hid ⟨HLT.out,HS4.out⟩,⟨HBD.out.1.1,HBD.out.1.2,HBD.out.2.1,HBD.out.2.2⟩,hid (HB.out.alloc _)⟩
    case measure=>have:=HLT.out;simp[intOf];omega
   have z1:bO (5,s,nn)=0:=by show (if (5:Int)=5 then (if s=[40] then (1:Int) else if s=[41] then -1 else 0) else 0)=0;rw[if_pos rfl,if_neg e1,if_neg e2]
   have z2:bC (5,s,nn)=0:=by show (if (5:Int)=5 then (if s=[123] then (1:Int) else if s=[125] then -1 else 0) else 0)=0;rw[if_pos rfl,if_neg e3',if_neg hs]
   rw[z1,z2,Int.add_zero,Int.add_zero]at HS3;have u1:decide (a<0)=false:=decide_eq_false (by omega);have u2:decide (b<0)=false:=decide_eq_false (by omega);have f1:(s==[40])=false:=by simpa using e1
   have f2:(s==[41])=false:=by simpa using e2
   have f3:(s==[123])=false:=by simpa using e3'
   have f4:(s==[125])=false:=by simpa using hs
   clear z1 z2 s1 s2 e1 e2 e3' hs;go_wp2_with fail
   go_roundw
   case rel=>exact⟨j+1,a,b,by go_num,rfl,rfl,hid ⟨HLT.out,HS3.out⟩,⟨by omega,by omega,by omega,by omega⟩,hid (HB.out.alloc _)⟩
   case measure=>have:=HLT.out;simp[intOf];omega
  ·obtain rfl:j=n6:=by have:=HJ.out.1;omega
   have hfin:=HJ.out.2;rw[List.drop_eq_nil_of_le (by rw[List.length_map,<- HN6.out];exact Nat.le_refl _)]at hfin;obtain⟨rfl,rfl⟩:a=0/\b=0:=by
    rw[runB]at hfin;simpa using hfin
   clear hfin;have HKD:=hid (HB.out.blk HK7.out);obtain⟨y0,y1,y2,y3⟩:wr.cell? ⟨w6.heap.size,0,none⟩=some (.int .i64 0)/\wr.cell? ⟨w6.heap.size,1,none⟩=some (.int .i64 0)/\wr.cell? ⟨w6.heap.size,2,none⟩=some (.int .i64 0)/\wr.cell? ⟨w6.heap.size,3,none⟩=some (.int .i64 0):=by
    simp[World.cell?,HKD.out]
   have hed:=dgz;go_wp2_with (first
    | (at_builtin;refine zM rfl _ _ 22 rfl w ((HB7.out.on HB.out).alloc _) wr.heap.size 59 zDc (by kernel_rfl) Tryz.underlying22 qfQ (some ⟨wr.heap.size,0,none⟩) 0 0 [] [] rfl (World.ownsRow_made wr #[] 0 (Nat.le_refl _) (by decide) rfl) (CopyOf.nil _ _) A n c xs rfl HR.out.1 (by omega) (by simp) n (Nat.zero_add _) xs rfl ?_;intro A8 c8 f8 w8 ho8 hc8 hg8;have hb8:Bel w w8:=Below.grown ((HB7.out.on HB.out).alloc _) hg8 (by have:=(HB7.out.on HB.out).size;simp;omega) (fun q hq=>by cases hq;exact (HB7.out.on HB.out).size);have hz8:wr.heap.size<=w8.heap.size:=Nat.le_trans (by simp) hg8.size)
    | (at_builtin;refine zM rfl _ _ 22 rfl w hb8 wr.heap.size 59 zDc (by kernel_rfl) Tryz.underlying22 qfQ A8 n c8 xs f8 rfl ho8 hc8 B m d ys rfl HR.out.2 (by omega) hz8 (n+m) rfl (xs++ys) rfl ?_;intro A9 c9 f9 w9 ho9 hc9 hg9;have hb9:Bel w w9:=Below.grown hb8 hg9 hb8.size (fun q hq=>Nat.le_trans (HB7.out.on HB.out).size (ho8.lt q hq).1);clear ho8 hc8 hg8 hz8 hb8 hg9))
   have hrow:=(hc9.bel hb9).row ho9 (by rw[List.length_append,HR.out.1.1,HR.out.2.1]);have HB9:=hid hb9;refine (HTA.out _ HB9.out A9 c9 hrow).mono ?_;rintro e w10 ⟨rfl,hb10⟩;have HB10:=hid (HB9.out.on hb10);clear hb10 hrow hb9 ho9 hc9 HTA y0 y1 y2 y3 hed HKD HBL;have l1:t1.length<=4000:=HL1.out;have l2:t2.length<=4000:=HL2.out;obtain⟨S1,hS1⟩:∃ S:ByteArray,S=⟨t1.toArray⟩:=⟨_,rfl⟩
   obtain⟨S2,hS2⟩:∃ S:ByteArray,S=⟨t2.toArray⟩:=⟨_,rfl⟩
   have d1:S1.data.toList=t1:=by rw[hS1]
   have d2:S2.data.toList=t2:=by rw[hS2]
   have g1:S1.size=t1.length:=by rw[hS1];simp[ByteArray.size]
   have g2:S2.size=t2.length:=by rw[hS2];simp[ByteArray.size]
   rw[<- hS1,<- hS2];have g3:(S1++⟨#[32]⟩++S2).size=t1.length+1+t2.length:=by
    rw[ByteArray.size_append,ByteArray.size_append,g1,g2];rfl
   have g4:(S1++⟨#[32]⟩++S2).data.toList=t1++32::t2:=by
    rw[ByteArray.data_append,ByteArray.data_append,Array.toList_append,Array.toList_append,d1,d2];simp
   have HTT:=HTR.out _ HB10.out (S1++⟨#[32]⟩++S2) M (by rw[g3];omega) (by rw[g4];exact HQ1.out);have hc1:¬ (9223372036854775807<S1.size+1):=by omega
   have hc2:¬ (9223372036854775807<S1.size+1+S2.size):=by omega
   have HG:=hid (And.intro g1 g2);have HT:=hid HTT;clear hS1 hS2 d1 d2 g1 g2 g3 g4 HTT HTR l1 l2;go_wp2_with fail
   refine HT.out.mono ?_;rintro e w11 ⟨rfl,hb11⟩;have HB11:=hid (HB10.out.on hb11);clear hb11 HT hc1 hc2;have V4:Hid (wrap64 (wrap64 ((S1.size:Int)+(S2.size:Int))+1)=(S1.size:Int)+(S2.size:Int)+1):=hid (by
    have:=HG.out;have:=HL1.out;have:=HL2.out;rw[IntWalk.wrap64_in ((S1.size:Int)+(S2.size:Int)) ⟨by omega,by omega⟩,IntWalk.wrap64_in _ ⟨by omega,by omega⟩])
   by_cases hA:0<n/\0<m/\4000<t1.length+t2.length+1
   ·obtain⟨p1,p2,p3⟩:=hA
    have p4:=HQ2.out (HNE.out.1.2 p1) (HNE.out.2.2 p2) p3;subst p4;have v1:decide ((0:Int)<(n:Int))=true:=decide_eq_true (by omega);have v2:decide ((0:Int)<(m:Int))=true:=decide_eq_true (by omega);have v3:decide ((4000:Int)<wrap64 (wrap64 ((S1.size:Int)+(S2.size:Int))+1))=true:=by rw[V4.out];exact decide_eq_true (by have:=HG.out;omega)
    go_wp2_with fail
    go_ret
    exact⟨rfl,HB11.out⟩
   ·have p5:=HQ3.out (fun h=>hA ⟨HNE.out.1.1 h.1,HNE.out.2.1 h.2.1,h.2.2⟩)
    obtain⟨rfl,rfl⟩:=Prod.mk.inj p5;clear p5;by_cases p1:0<n
    case neg=>
     have v1:decide ((0:Int)<(n:Int))=false:=decide_eq_false (by omega);go_wp2_with fail
     go_ret
     exact⟨rfl,HB11.out⟩
    have v1:decide ((0:Int)<(n:Int))=true:=decide_eq_true (by omega);by_cases p2:0<m
    case neg=>
     have v2:decide ((0:Int)<(m:Int))=false:=decide_eq_false (by omega);go_wp2_with fail
     go_ret
     exact⟨rfl,HB11.out⟩
    have v2:decide ((0:Int)<(m:Int))=true:=decide_eq_true (by omega);have v3:decide ((4000:Int)<wrap64 (wrap64 ((S1.size:Int)+(S2.size:Int))+1))=false:=by rw[V4.out];exact decide_eq_false (by have:=HG.out;omega)
    go_wp2_with fail
    go_ret
    exact⟨rfl,HB11.out⟩
end Go.Proofs.YtfpoelklhekfaaaGreatDoor.Mu
