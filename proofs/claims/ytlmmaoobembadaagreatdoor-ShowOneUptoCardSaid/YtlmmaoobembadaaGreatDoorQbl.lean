import Derived.Test.YtlmmaoobembadaaGreatDoorQbj
open Go.Lib (hid)
namespace Go.Proofs.YtlmmaoobembadaaGreatDoor.Mu
set_option maxHeartbeats 4000000
open Go Go.RowKit Go.Shelf
attribute [local go_sem] Oper.semAt_some
set_option linter.unusedVariables false
set_option maxRecDepth 100000
noncomputable def txO (k:Int) (s:List UInt8) (n:Int) (p:Pl) (kids arms:Tr):List UInt8 × Int:=if exMay (.nod k s n p kids arms .nil) then wrO ((qg k s n kids arms).map Tn.b) else ([],2)
theorem Qu(k:Int)(s:List UInt8)(n:Int)(p:Pl)(A:Option Addr)(c:Nat)(B:Option Addr)(bc:Nat)(kids arms:Tr)(w:World)(hk:KidsTr w (OldT w) .ex A kids.len c kids)(ha:KidsTr w (OldT w) .arms B arms.len bc arms)(hsz:kids.size+arms.size<=900000)(ht:Tbl w)(hi:(Tr.nod k s n p kids arms .nil).ints) :
  Calls Tryz.prog 18 #[.agg #[.int .u8 k,.string ⟨s.toArray⟩,n,p.a,p.l,p.c,.slice A kids.len c,.slice B arms.len bc]] w fun e w'=>e=.returned (.tuple #[.string ⟨(txO k s n p kids arms).1.toArray⟩,.int .i64 (txO k s n p kids arms).2])/\Bel w w':=by
 have HM:Hid (∀ (g:Nat) (t:TypeId) (W:World),Bel w W->W.heap[g]?=some (.cells #[.int .u8 k,.string ⟨s.toArray⟩,n,p.a,p.l,p.c,.slice A kids.len c,.slice B arms.len bc] t (0,0)) →
   Calls Tryz.prog 48 #[.int .i64 60,.slice (some ⟨g,0,none⟩) 1 1,.func (.func 28) #[] #[],.func (.func 49) #[] #[]] W (qj (exMay (.nod k s n p kids arms .nil)) W)):=hid fun g t W hW h1=>by
  have e1:=zS (sh:= .ex) (by intro e;cases e) hk (.inl ⟨rfl,ha⟩) hW h1;exact ZJ 60 _ 1 1 _ W e1 (by simp only[Tr.size];omega) (by decide) (ht.bel hW) hi
 have hme:=Jc (k:=k) (s:=s) (n:=n) (p:=p) hk ha;obtain⟨em,hem⟩:∃ b,b=exMay (.nod k s n p kids arms .nil):=⟨_,rfl⟩
 have HR:Hid (txO k s n p kids arms=if em then wrO ((qg k s n kids arms).map Tn.b) else ([],2)):=hid (by rw[hem];rfl);have HE:Hid (em=true->∀ (w0 W:World) (base wp:Nat),Bel w w0->w0.heap.size<=wp->Bel w0 W->Wri W base wp []->Calls Tryz.prog 50 #[.pointer (some ⟨wp,0,none⟩),.agg #[.int .u8 k,.string ⟨s.toArray⟩,n,p.a,p.l,p.c,.slice A kids.len c,.slice B arms.len bc]] W (WrQ w0 base wp [] (qg k s n kids arms) W)):=hid fun he w0 W base wp h0 hwp hW hw=>by
  have hmy:(Tr.nod k s n p kids arms .nil).mayE hEf hPf=true:=by
   rw[hem,hme,Bool.and_eq_true]at he;exact he.1
  exact J9 base wp w0 hwp 1000000 (Nat.le_refl _) k s n p A c B bc kids arms [] W (hk.bel h0) (ha.bel h0) (by simp only[Tr.size];omega) (Q6 _ hmy) hW hw (by decide)
 have HF:Hid (em=true->FitL (qg k s n kids arms)/\AllM (qg k s n kids arms)):=hid fun he=>by
  have hmy:(Tr.nod k s n p kids arms .nil).mayE hEf hPf=true:=by
   rw[hem,hme,Bool.and_eq_true]at he;exact he.1
  rw[<- qdc k s n p kids arms];exact⟨zq _ 0 [] hi FitL.nil,qP _ 0 [] hmy AllM.nil⟩
 have HT:=hid ht;obtain⟨R,hR⟩:∃ R,R=txO k s n p kids arms:=⟨_,rfl⟩
 obtain⟨F,hF⟩:∃ F,F=qg k s n kids arms:=⟨_,rfl⟩
 obtain⟨kl,hkl⟩:∃ l,l=kids.len:=⟨_,rfl⟩
 obtain⟨al,hal⟩:∃ l,l=arms.len:=⟨_,rfl⟩
 obtain⟨SS,hSS⟩:∃ S:ByteArray,S=⟨s.toArray⟩:=⟨_,rfl⟩
 rw[<- hR,<- hF]at HR;rw[<- hem,<- hkl,<- hal,<- hSS]at HM;rw[<- hF,<- hkl,<- hal,<- hSS]at HE;rw[<- hF]at HF;rw[<- hR,<- hkl,<- hal,<- hSS];clear hk ha hsz ht hi hme hem hR hF hkl hal hSS;have HB1:Hid (Bel w (w.alloc (.cells #[.int .u8 k,SS,n,p.a,p.l,p.c,.slice A kl c,.slice B al bc] 32))):=hid ((Bel.refl w).alloc _);have HB2:Hid (Bel w ((w.alloc (.cells #[.int .u8 k,SS,n,p.a,p.l,p.c,.slice A kl c,.slice B al bc] 32)).alloc (.cells #[.int .u8 k,SS,n,p.a,p.l,p.c,.slice A kl c,.slice B al bc] 32))):=hid (HB1.out.alloc _);have q2:=blk2 w (.cells #[.int .u8 k,SS,n,p.a,p.l,p.c,.slice A kl c,.slice B al bc] 32) (.cells #[.int .u8 k,SS,n,p.a,p.l,p.c,.slice A kl c,.slice B al bc] 32);have HQ2:=hid q2.1;have HM2:=hid (HM.out (w.heap.size+1) _ _ HB2.out q2.2);clear q2 HM;go_enter Tryz.func18,Tryz.ntmps18
 go_wp2_with fail
 refine HM2.out.mono ?_;rintro e w3 ⟨rfl,hb3⟩;have HB3:=hid (HB2.out.on hb3);have hq3:=hb3.blk HQ2.out;have HQ3:=hid hq3;obtain⟨x0,x1,x2,x3,x4,x5,x6,x7⟩:=box8 hq3;have kb:w.heap.size<w3.heap.size:=(Array.getElem?_eq_some_iff.1 hq3).1;clear hb3 hq3 HM2 HB1 HB2 HQ2;cases em
 ·have hR:R=([],2):=HR.out
  subst hR;clear HE HF HR;go_wp2_with fail
  go_ret2
  exact⟨rfl,HB3.out⟩
 have HF':=hid (HF.out rfl);clear HF;have HW4:Hid (Wri (w3.alloc (.cells #[.slice none 0 0] 87)) (w3.heap.size+1) w3.heap.size []):=hid (Wri.new w3);have HB4:Hid (Bel w3 (w3.alloc (.cells #[.slice none 0 0] 87))):=hid ((Bel.refl w3).alloc _);have HE4:=hid (HE.out rfl w3 _ _ _ HB3.out (Nat.le_refl _) HB4.out HW4.out);have hq4:=HB4.out.blk HQ3.out;clear HE;go_wp2_with fail
 refine HE4.out.mono ?_;rintro e w5 ⟨rfl,hb5,⟨r,hw5,hr5,hl5⟩,hk5⟩;obtain⟨A5,n5,c5,hc5,hcall⟩:=qac (w0:=w3) (HT.out.bel (HB3.out.on hb5)) hw5 hr5 hl5 HF'.out.1 HF'.out.2;have hR:wrO (F.map Tn.b)=R:=by rw[HR.out];rfl
 rw[hR]at hcall;have HC5:=hid hcall;have HB5:=hid (HB3.out.on hb5);have hl5':w3.heap.size<w5.heap.size:=World.block_lt_of_cell? w5 _ hc5;clear hb5 hw5 hr5 hl5 hk5 hcall hR hq4 x0 x1 x2 x3 x4 x5 x6 x7 kb HE4 HF';go_wp2_with fail
 refine HC5.out.mono ?_;rintro e w6 ⟨rfl,hb6⟩;have HB6:=hid (HB5.out.on hb6);clear hb6 hc5 hl5';go_wp2_with fail
 go_ret2
 exact⟨rfl,HB6.out⟩
end Go.Proofs.YtlmmaoobembadaaGreatDoor.Mu
