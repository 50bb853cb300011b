import Derived.Test.YtlmmaoobembadaaGreatDoorQan
open Go.Lib (hid)
namespace Go.Proofs.YtlmmaoobembadaaGreatDoor.Mu
set_option maxHeartbeats 2000000
open Go Go.RowKit Go.Shelf
attribute [local go_sem] Oper.semAt_some
set_option linter.unusedVariables false
set_option maxRecDepth 100000
def PaC(w0:World)(base wp M:Nat):Prop:=∀ (k:Int) (s:List UInt8) (n:Int) (p:Pl) (A:Option Addr) (c:Nat) (kids:Tr) (xs:List Tn) (W:World),
 KidsTr w0 (OldT w0) .pat A kids.len c kids->1+kids.size<=M->Bel w0 W->Wri W base wp xs->xs.length<=5000 →
 Calls Tryz.prog 145 #[.pointer (some ⟨wp,0,none⟩),.agg #[.int .u8 k,.string ⟨s.toArray⟩,n,p.a,p.l,p.c,.slice A kids.len c]] W (WrQ w0 base wp xs (qJ k s n kids.patK) W)
theorem JC(base wp M:Nat)(xs:List Tn)(A:Option Addr)(n c:Nat)(f:Tr)(w0 W:World)
  (hX:PaC w0 base wp M) (hwp:w0.heap.size<=wp) (hf:RowX w0 W wp .pat A n f) (hsz:f.size<=M) (hM:M<=1000000) (hW:Bel w0 W) (hw:Wri W base wp xs) (hx:xs.length<=5000) :
  Calls Tryz.prog 184 #[.pointer (some ⟨wp,0,none⟩),.func (.func 185) #[] #[],.func (.func 145) #[.pointer (some ⟨wp,0,none⟩)] #[],.slice A n c] W (WrQ w0 base wp xs (f.brP) W):=by
 have HF:=hid hf;have HX:=hid hX;have HSZ:=hid (And.intro hsz trivial);have HW:=hid hW;have HL:Hid (n=f.len):=hid hf.1;have hn:n<=1000000:=by have:=hf.1;have:=f.len_le;omega
 have ega:∀ args w,(callFunc 185 args).run Tryz.prog w=.ok (.enter 185 args) w:=fun args w=>by kernel_rfl
 have egx:∀ args w,(callFunc 145 args).run Tryz.prog w=.ok (.enter 145 args) w:=fun args w=>by kernel_rfl
 have HI:Hid (∃ pre,Ws w0 base wp xs W pre W/\pre++(f.dropN 0).brP=f.brP):=hid ⟨[],Ws.start hW hw hx,by cases f <;> rfl⟩;clear hf hX hsz hW hw hx;go_enter Tryz.func184,Tryz.ntmps184
 go_wp2_with fail
 go_loopw [12] (fun i wr=>∃ j:Nat,j<=n/\i=.int .i64 (j:Int)/\Hid (∃ pre,Ws w0 base wp xs W pre wr/\pre++(f.dropN j).brP=f.brP)) (fun i _=>n-(intOf i).toNat)
 case atStart=>exact⟨0,Nat.zero_le _,rfl,HI⟩
 case round=>
  obtain⟨j,hj,rfl,HR⟩:=hrel;obtain⟨pre,hws,hpre⟩:=HR.out;by_cases hlt:j<n
  ·obtain⟨ub,uo,k,s,nn,p,kids,arms,A',c',B',bc',eA,⟨uob,hub⟩,hnth,hcs,hkk,hka⟩:=(HF.out.step HW.out hws.1 hws.2.2).nth (by intro e;cases e) hws.1 hlt
   subst eA;have ha0:arms.len=0:=by
    rcases hka with ⟨h,_⟩ | ⟨_,h⟩
    ·cases h
    ·exact h
   have ha1:=Tr.len_nil arms ha0;subst ha1;have hns:1+kids.size<=M:=by
    have h1:=f.nth_size j;rw[hnth]at h1;simp only[Tr.size]at h1;have:=HSZ.out.1;omega
   have hdr:(f.dropN j).brP=brkL (alnP k kids.len) (qJ k s nn kids.patK)++(f.dropN (j+1)).brP:=by rw[Tr.dropN_nod f j hnth];rfl
   have HC:Hid (∀ (ys:List Tn) (W':World),Bel w0 W'->Wri W' base wp ys->ys.length<=5000->Calls Tryz.prog 145 #[.pointer (some ⟨wp,0,none⟩),.agg #[.int .u8 k,.string ⟨s.toArray⟩,nn,p.a,p.l,p.c,.slice A' kids.len c']] W' (WrQ w0 base wp ys (qJ k s nn kids.patK) W')):=hid fun ys W' h1 h2 h3=>HX.out k s nn p A' c' kids ys W' hkk hns h1 h2 h3;have y0:=hcs 0 _ rfl;have y1:=hcs 1 _ rfl;have y2:=hcs 2 _ rfl;have y3:=hcs 3 _ rfl;have y4:=hcs 4 _ rfl;have y5:=hcs 5 _ rfl;have y6:=hcs 6 _ rfl;simp only[Sh.sz,Sh.kd,Nat.add_zero]at y0 y1 y2 y3 y4 y5 y6;rw[hdr]at hpre;obtain⟨Fx,hFx⟩:∃ F,F=qJ k s nn kids.patK:=⟨_,rfl⟩
   obtain⟨b,hb⟩:∃ b,b=alnP k kids.len:=⟨_,rfl⟩
   obtain⟨SS,hSS⟩:∃ S:ByteArray,S=⟨s.toArray⟩:=⟨_,rfl⟩
   obtain⟨l1,hl1⟩:∃ l,l=kids.len:=⟨_,rfl⟩
   have HAL:Hid (∀ W',Calls Tryz.prog 185 #[.agg #[.int .u8 k,SS,nn,p.a,p.l,p.c,.slice A' l1 c']] W' (qj b W')):=hid fun W'=>by rw[hb,<- hl1];exact JB k SS nn p A' l1 c' W'
   rw[<- hFx,<- hb]at hpre;rw[<- hSS,<- hl1,<- hFx]at HC;rw[<- hSS]at y1;rw[<- hl1]at y6;have HS1:=hid (hws.bel ((Bel.refl wr).alloc (.cells #[.int .u8 k,SS,nn,p.a,p.l,p.c,.slice A' l1 c'] 78)));have HBX:=hid (hws.box (.cells #[.int .u8 k,SS,nn,p.a,p.l,p.c,.slice A' l1 c'] 78));have HPRE:=hid hpre;have hob':ub<wr.heap.size:=(Array.getElem?_eq_some_iff.1 hub.1).1;have i1:(0:Int)<=(j:Int):=by omega
   have i2:(j:Int)<(n:Int):=by omega
   have HLT:=hid hlt;clear hcs hkk hka ha0 hns hdr hpre hFx hb hSS hl1 hnth hub hws HR;go_wp2_with fail
   refine (HAL.out _).mono ?_;rintro e w2 ⟨rfl,hb2⟩;have HS2:=hid (HS1.out.bel hb2);have HX2:=hid (HS1.out.kp hb2 _ _ HBX.out);obtain⟨x0,x1,x2,x3,x4,x5,x6⟩:=box7 HX2.out.1;have hl2:wr.heap.size<w2.heap.size:=(Array.getElem?_eq_some_iff.1 HX2.out.1).1;clear hb2 y0 y1 y2 y3 y4 y5 y6 hob' HAL HS1 HBX;cases b
   ·go_wp2_with fail
    refine (qd _ _).mono ?_;rintro e w3 ⟨rfl,hb3⟩;have HS3:=hid (HS2.out.bel hb3);have HX3:=hid (HS2.out.kp hb3 _ _ HX2.out);clear hb3 x0 x1 x2 x3 x4 x5 x6;unfold tokV;go_wp2_with fail
    refine (HS3.out.put1 hwp 5 [40] 0 _).mono ?_;rintro e w4 ⟨rfl,hs4,hk4⟩;have HS4:=hid hs4;have HX4:=hid (hk4 _ _ HX3.out);obtain⟨x0,x1,x2,x3,x4,x5,x6⟩:=box7 HX4.out.1;have hl4:wr.heap.size<w4.heap.size:=(Array.getElem?_eq_some_iff.1 HX4.out.1).1;clear hs4 hk4;go_wp2_with fail
    refine (HS4.out.run fun r h1 h2 h3=>HC.out r w4 h1 h2 h3).mono ?_;rintro e w5 ⟨rfl,hs5,hk5⟩;have HS5:=hid hs5;clear hs5 hk5 x0 x1 x2 x3 x4 x5 x6;go_wp2_with fail
    refine (qd _ _).mono ?_;rintro e w6 ⟨rfl,hb6⟩;have HS6:=hid (HS5.out.bel hb6);clear hb6;unfold tokV;go_wp2_with fail
    refine (HS6.out.put1 hwp 5 [41] 0 _).mono ?_;rintro e w7 ⟨rfl,hs7,hk7⟩;have HS7:=hid hs7;have HR':Hid (∃ pre,Ws w0 base wp xs W pre w7/\pre++(f.dropN (j+1)).brP=f.brP):=hid ⟨_,HS7.out,by rw[<- HPRE.out];simp[brkL]⟩;clear hs7 hk7;go_wp2_with fail
    go_roundw
    case rel=>exact⟨j+1,HLT.out,by go_num,HR'⟩
    case measure=>have:=HLT.out;simp[intOf];omega
   ·go_wp2_with fail
    refine (HS2.out.run fun r h1 h2 h3=>HC.out r w2 h1 h2 h3).mono ?_;rintro e w5 ⟨rfl,hs5,hk5⟩;have HR':Hid (∃ pre,Ws w0 base wp xs W pre w5/\pre++(f.dropN (j+1)).brP=f.brP):=hid ⟨_,hs5,by rw[<- HPRE.out];simp[brkL]⟩;clear hs5 hk5 x0 x1 x2 x3 x4 x5 x6;go_wp2_with fail
    go_roundw
    case rel=>exact⟨j+1,HLT.out,by go_num,HR'⟩
    case measure=>have:=HLT.out;simp[intOf];omega
  ·obtain rfl:j=n:=by omega
   rw[Tr.dropN_all f j (by rw[<- HL.out];exact Nat.le_refl _)]at hpre;have HQ:=hid (hws.fin (F:=f.brP) (by rw[<- hpre];simp[Tr.brP]));clear hws hpre;go_wp2_with fail
   go_end0
   exact HQ.out
theorem qgd(base wp:Nat)(w0:World)(hwp:w0.heap.size<=wp)(M:Nat):M<=1000000->PaC w0 base wp M:=by
 induction M with
 | zero=>intro _ k s n p A c kids xs W _ h;omega
 | succ M ih=>
  intro hM k s n p A c kids xs W hk hsz hW hw hx;have HS:=hid (Ws.start hW hw hx);have HR:Hid (∀ W,Calls Tryz.prog 144 #[.agg #[.int .u8 k,.string ⟨s.toArray⟩,n,p.a,p.l,p.c,.slice A kids.len c]] W fun e w'=>e=.returned (.tuple #[.agg #[.int .u8 (paR k).1,.int .i64 (paR k).2.1],.bool (paR k).2.2])/\Bel W w'):=hid fun W=>QY k s n p A kids.len c W;have HBR:Hid (∀ (pre:List Tn) (w:World),Ws w0 base wp xs W pre w->Calls Tryz.prog 184 #[.pointer (some ⟨wp,0,none⟩),.func (.func 185) #[] #[],.func (.func 145) #[.pointer (some ⟨wp,0,none⟩)] #[],.slice A kids.len c] w (WsQ w0 base wp xs W (pre++kids.brP) w)):=hid fun pre w h=>
   h.run fun r h1 h2 h3=>JC base wp M r A kids.len c kids w0 w (ih (by omega)) hwp (RowX.old hk h1 hwp h2) (by omega) (by omega) h1 h2 h3
  obtain⟨tk,htk⟩:∃ t,t=(paR k).1:=⟨_,rfl⟩
  obtain⟨kc,hkc⟩:∃ t,t=(paR k).2.1:=⟨_,rfl⟩
  obtain⟨ok,hok⟩:∃ t,t=(paR k).2.2:=⟨_,rfl⟩
  have HPU:Hid (∀ (pre:List Tn) (w:World) (g:Nat),Ws w0 base wp xs W pre w->g=w.heap.size->Calls Tryz.prog 85 #[.pointer (some ⟨wp,0,none⟩),.slice (some ⟨g,0,none⟩) 1 1] (w.alloc (.cells #[.int .u8 tk,.string ⟨s.toArray⟩,.int .i64 n,.int .i64 0,.int .i64 0,.int .i64 0] 51)) (WsQ w0 base wp xs W (pre++[tk0 tk s n]) w)):=hid fun pre w g h hg=>h.put1g hwp tk s n 1 g hg;obtain⟨F,hF⟩:∃ F,F=qJ k s n kids.patK:=⟨_,rfl⟩
  rw[<- hF];have HF:Hid (F=if k=2 then [tk0 5 [95] 0] else tk0 tk s n::kids.brP):=hid (by rw[hF,htk,<- Tr.brP_patK];rfl);rw[<- htk,<- hkc,<- hok]at HR;obtain⟨T1,hT1⟩:∃ T,T=tk0 tk s n:=⟨_,rfl⟩
  obtain⟨SS,hSS⟩:∃ S:ByteArray,S=⟨s.toArray⟩:=⟨_,rfl⟩
  obtain⟨l1,hl1⟩:∃ l,l=kids.len:=⟨_,rfl⟩
  rw[<- hSS,<- hl1]at HR;rw[<- hl1]at HBR;rw[<- hSS,<- hT1]at HPU;rw[<- hT1]at HF;rw[<- hSS,<- hl1];clear hk hsz hW hw hx ih htk hkc hok hF hT1 hSS hl1;have HS1:=hid (HS.out.bel ((Bel.refl W).alloc (.cells #[.int .u8 k,SS,n,p.a,p.l,p.c,.slice A l1 c] 78)));have HX1:=hid (HS.out.box (.cells #[.int .u8 k,SS,n,p.a,p.l,p.c,.slice A l1 c] 78));by_cases k2:k=2
  ·subst k2
   have hF2:F=[tk0 5 [95] 0]:=HF.out;clear HBR HPU HR HF;go_enter Tryz.func145,Tryz.ntmps145
   go_wp2_with fail
   refine (qd _ _).mono ?_;rintro e w2 ⟨rfl,hb2⟩;have HS2:=hid (HS1.out.bel hb2);clear hb2;unfold tokV;go_wp2_with fail
   refine (HS2.out.put1 hwp 5 [95] 0 _).mono ?_;rintro e w3 ⟨rfl,hs3,hk3⟩;have HQ:=hid (hs3.fin (F:=F) (by rw[hF2];rfl));clear hs3 hk3 hF2;go_wp2_with fail
   go_end0
   exact HQ.out
  have hF2:F=T1::kids.brP:=by rw[HF.out,if_neg k2]
  have HF2:=hid hF2;have d2:(k==2)=false:=by simpa using k2
  clear HF hF2;go_enter Tryz.func145,Tryz.ntmps145
  go_wp2_with fail
  refine (HR.out _).mono ?_;rintro e w2 ⟨rfl,hb2⟩;have HS2:=hid (HS1.out.bel hb2);have HX2:=hid (HS1.out.kp hb2 _ _ HX1.out);have HS3:=hid (HS2.out.bel ((Bel.refl w2).alloc (.cells #[.int .u8 tk,kc] 146)));have HX3:=hid (HS2.out.kp ((Bel.refl w2).alloc (.cells #[.int .u8 tk,kc] 146)) _ _ HX2.out);obtain⟨x0,x1,x2,x3,x4,x5,x6⟩:=box7 HX2.out.1;have hl2:W.heap.size<w2.heap.size:=(Array.getElem?_eq_some_iff.1 HX2.out.1).1;clear hb2;go_wp2_with fail
  refine (HPU.out _ _ _ HS3.out (by simp)).mono ?_;rintro e w4 ⟨rfl,hs4,hk4⟩;have HS4:=hid hs4;have HX4:=hid (hk4 _ _ HX3.out);clear x0 x1 x2 x3 x4 x5 x6 hl2;obtain⟨x0,x1,x2,x3,x4,x5,x6⟩:=box7 HX4.out.1;have hl4:W.heap.size<w4.heap.size:=(Array.getElem?_eq_some_iff.1 HX4.out.1).1;clear hs4 hk4;go_wp2_with fail
  refine (HBR.out _ _ HS4.out).mono ?_;rintro e w5 ⟨rfl,hs5,hk5⟩;have HQ:=hid (hs5.fin (F:=F) (by rw[HF2.out];simp));clear hs5 hk5 x0 x1 x2 x3 x4 x5 x6;go_wp2_with fail
  go_end0
  exact HQ.out
end Go.Proofs.YtlmmaoobembadaaGreatDoor.Mu
