import Derived.Test.YtlmmaoobembadaaGreatDoorQbb
import Derived.Test.YtlmmaoobembadaaGreatDoorQbr
open Go.Lib (hid)
namespace Go.Proofs.YtlmmaoobembadaaGreatDoor.Mu
set_option maxHeartbeats 8000000
open Go Go.RowKit Go.Shelf
attribute [local go_sem] Oper.semAt_some
set_option linter.unusedVariables false
set_option maxRecDepth 100000
def sumW{α:Type}(g:α->Nat):List α->Nat
 | []=>0
 | x::xs=>g x+sumW g xs
theorem jZ{α:Type}(g:α->Nat)(xs:List α)(j:Nat)(x:α)(h:xs[j]?=some x):sumW g (xs.take (j+1))=sumW g (xs.take j)+g x:=by
 induction xs generalizing j with
 | nil=>cases h
 | cons y ys ih=>
  cases j with
  | zero=>simp only[List.getElem?_cons_zero,Option.some.injEq]at h;subst h;simp[sumW]
  | succ j=>simp only[List.getElem?_cons_succ]at h;simp only[List.take_succ_cons,sumW,ih j h];omega
theorem zR{α:Type}{xs:List α}{j:Nat}{x y:α}(h:xs[j]?=some x)(hy:y∈xs.take (j+1)):y∈xs.take j∨y=x:=by
 rw[List.take_add_one,h,Option.toList_some,List.mem_append]at hy;rcases hy with hy | hy
 ·exact .inl hy
 ·exact .inr (by simpa using hy)
def Fd.wt(x:Fd):Nat:=x.tr.wt
def Cd.wt(x:Cd):Nat:=1+x.nm.length / 64+sumW Fd.wt x.fs
def Dc.wt(x:Dc):Nat:=1+x.nm.length / 64+x.ps.length+x.tr.wt+sumW (fun s=>s.length / 64) x.ps+sumW Cd.wt x.cs
def Fd.deep(x:Fd):Prop:=x.tr.depth<=201
def Dc.deep(x:Dc):Prop:=x.tr.depth<=201/\∀ c∈x.cs,∀ f∈c.fs,f.deep
def Dc.upto(x:Dc):Prop:=x.nm.length<=1099511627776/\x.ps.length<=1048576/\(∀ s∈x.ps,s.length<=1099511627776)/\x.cs.length<=1048576/\(∀ c∈x.cs,c.nm.length<=1099511627776)/\(qz x.cs).length<=1048576/\x.tr.fit/\∀ c∈x.cs,∀ f∈c.fs,f.tr.fit
def SI(E:Nat)(D:Prop)(b:Int)(z:Int):Prop:=0<=z/\z<=b/\(z<=9000->z=(E:Int)/\D)
theorem SI.add{E:Nat}{D:Prop}{b z:Int}(h:SI E D b z){t:Nat}{c:Int}(ht:(t:Int)<=c):SI (E+t) D (b+c) (z+(t:Int)):=by
 obtain⟨h1,h2,h3⟩:=h;refine⟨by omega,by omega,fun h9=>?_⟩;obtain⟨a1,a2⟩:=h3 (by omega);exact⟨by omega,a2⟩
theorem SI.addQ{E:Nat}{D:Prop}{b z:Int}(h:SI E D b z){c:Int}{d:Nat}{g:Tr}{z':Int}(hz:ZQ c d g z'):SI (E+g.wt) (D/\g.depth+d<=201) (b+c) (z+z'):=by
 obtain⟨h1,h2,h3⟩:=h;obtain⟨g1,g2,g3⟩:=hz;refine⟨by omega,by omega,fun h9=>?_⟩;obtain⟨a1,a2⟩:=h3 (by omega);obtain⟨b1,b2⟩:=g3 (by omega);exact⟨by omega,a2,b2⟩
theorem SI.to{E E':Nat}{D D':Prop}{b b' z:Int}(h:SI E D b z)(hE:E=E')(hD:D->D')(hb:b<=b'):SI E' D' b' z:=
 ⟨h.1,Int.le_trans h.2.1 hb,fun h9=>⟨by rw[<- hE];exact (h.2.2 h9).1,hD (h.2.2 h9).2⟩⟩
def DsQ(l:List Dc)(w:World):Ending->World->Prop:=fun e w'=>∃ z:Int,e=.returned (.int .i64 z)/\0<=z/\(z<=9000->z=(sumW Dc.wt l:Int)/\∀ x∈l,x.deep)/\Bel w w'
theorem qfa(cs:List Cd)(j:Nat)(c:Cd)(h:cs[j]?=some c):(qz (cs.take j)).length+c.fs.length<=(qz cs).length:=by
 have h1:=j8 cs j c h;have h2:=qa9 cs (j+1);rw[h1,List.length_append]at h2;exact h2
theorem J0(A:Option Addr)(n c:Nat)(l:List Dc)(w:World)(hk:RowOf 16 DcAt w (OldT w) A n c l)(hn:n<=1048576)(hu:∀ x∈l,x.upto) :
  Calls Tryz.prog 8 #[.slice A n c] w (DsQ l w):=by
 have H:=hid hk;have HL:Hid (n=l.length):=hid hk.1;have HU:=hid hu;clear hk hu;go_enter Tryz.func8,Tryz.ntmps8
 go_wp2_with fail
 go_loopw [3,4] (fun s i wr=>∃ (j:Nat) (z:Int),j<=n/\i=.int .i64 (j:Int)/\s=.int .i64 z/\Hid (0<=z/\z<=9000/\z=(sumW Dc.wt (l.take j):Int)/\∀ x∈l.take j,x.deep)/\Hid (Bel w wr)) (fun _ i _=>n-(intOf i).toNat)
 case atStart=>exact⟨0,0,Nat.zero_le _,rfl,rfl,hid ⟨by decide,by decide,rfl,fun x hx=>by simp at hx⟩,hid (Bel.refl _)⟩
 case round=>
  obtain⟨j,z,hj,rfl,rfl,HZ,HB⟩:=hrel;by_cases hlt:j<n
  ·obtain⟨ub,uo,eA,hob,hfo⟩:=H.out.2.2 (by omega)
   subst eA;obtain⟨x,hx⟩:∃ x,l[j]?=some x:=⟨_,List.getElem?_eq_getElem (by rw[<- HL.out];exact hlt)⟩
   have hd:=hfo j x hx;have hux:=HU.out x (List.mem_of_getElem? hx);have HWT:Hid (sumW Dc.wt (l.take (j+1))=sumW Dc.wt (l.take j)+x.wt):=hid (jZ _ _ _ _ hx);have HMT:Hid (∀ y∈l.take (j+1),y∈l.take j∨y=x):=hid fun y hy=>zR hx hy;obtain⟨PA,pc,CA,cc,A',ca',B',cb',hp,hcc,hkk,haa,y0,y1,y2,y3,y4,y5,y6,y7,y8,y9,y10,y11,y12,y13,y14,y15⟩:=hd.cells;obtain⟨kd,nm,q,ps,cs,rc,k,s,nn,p,kids,arms⟩:=x;simp only[]at hp hcc hkk haa y1 y5 y6 y8 y9 y10 y11 y12 y13 y14 y15;obtain⟨hu1,hu2,hu3,hu4,hu5,hu6,hu7,hu8⟩:=hux;simp only[]at hu1 hu2 hu3 hu4 hu5 hu6 hu8;obtain⟨g,hg⟩:∃ g,g=Tr.nod k s nn p kids arms .nil:=⟨_,rfl⟩
   have HX:∀ W,Bel wr.drew W->Calls Tryz.prog 15 #[.agg #[.int .u8 k,.string ⟨s.toArray⟩,nn,p.a,p.l,p.c,.slice A' kids.len ca',.slice B' arms.len cb'],(0:Int)] W (jE (capX 0) 0 g W):=fun W hW=>by
    have hW':Bel w W:=HB.out.on ((Bel.refl wr).drew.on hW);rw[hg];exact qaK (kids.size+arms.size) 0 k s nn p A' kids.len ca' kids B' arms.len cb' arms W rfl (hkk.bel hW') (haa.bel hW') (by omega) hu7.1 hu7.2.1 hu7.2.2.1 hu7.2.2.2.1 hu7.2.2.2.2.1
   have HP:=hid hp;have HC:=hid hcc;have HU3:=hid hu3;have HU5:=hid (And.intro hu5 (And.intro hu6 hu8));have HXW:Hid (Dc.wt ⟨kd,nm,q,ps,cs,rc,k,s,nn,p,kids,arms⟩=1+nm.length / 64+ps.length+g.wt+sumW (fun s=>s.length / 64) ps+sumW Cd.wt cs):=hid (by rw[hg];rfl);have HXD:Hid (g.depth<=201->(∀ c∈cs,∀ f∈c.fs,f.deep)->Dc.deep ⟨kd,nm,q,ps,cs,rc,k,s,nn,p,kids,arms⟩):=hid (by rw[hg];exact fun a b=>⟨a,b⟩);obtain⟨l1,hl1⟩:∃ l,l=kids.len:=⟨_,rfl⟩
   obtain⟨l3,hl3⟩:∃ l,l=arms.len:=⟨_,rfl⟩
   obtain⟨pl,hl5⟩:∃ l,l=ps.length:=⟨_,rfl⟩
   obtain⟨cl,hl7⟩:∃ l,l=cs.length:=⟨_,rfl⟩
   have HPL:=hid hl5;have HCL:=hid hl7;rw[<- hl1,<- hl3]at HX;rw[<- hl1]at y14;rw[<- hl3]at y15;rw[<- hl5]at y5 HP hu2;rw[<- hl7]at y6 HC hu4;obtain⟨SS,hSS⟩:∃ S:ByteArray,S=⟨s.toArray⟩:=⟨_,rfl⟩
   rw[<- hSS]at y9 HX;obtain⟨u,hu0⟩:∃ u:Nat,u=nm.length / 64:=⟨_,rfl⟩
   have HUN:=hid hu0;obtain⟨NM,hNM⟩:∃ S:ByteArray,S=⟨nm.toArray⟩:=⟨_,rfl⟩
   have hnu:NM.size / 64=u:=by rw[hNM,hu0];simp[ByteArray.size]
   have hu17:u<=17179869184:=by omega
   rw[<- hNM]at y1;have hcw:=(Bel.cells HB.out).1;replace y1:=(hcw ub _ hob).trans y1
   replace y5:=(hcw ub _ hob).trans y5
   have HY6:=hid y6;have HY5:=hid y5;have HOB:=hid hob;replace y8:=(hcw ub _ hob).trans y8
   replace y9:=(hcw ub _ hob).trans y9
   replace y10:=(hcw ub _ hob).trans y10
   replace y11:=(hcw ub _ hob).trans y11
   replace y12:=(hcw ub _ hob).trans y12
   replace y13:=(hcw ub _ hob).trans y13
   replace y14:=(hcw ub _ hob).trans y14
   replace y15:=(hcw ub _ hob).trans y15
   have kb1:ub<wr.heap.size:=Nat.lt_of_lt_of_le hob HB.out.size;have i1:(0:Int)<=(j:Int):=by omega
   have i2:(j:Int)<(n:Int):=by omega
   have HLT:=hid hlt;have HY5w:Hid (w.cell? ⟨ub,uo+j*16+5,none⟩=some (.slice PA pl pc)):=hid (by have:=hd.cells;exact ((hcw ub _ hob).symm.trans y5));clear hfo hx hd y0 y2 y3 y4 y6 y7 hp hcc hkk haa hu1 hu3 hu5 hu6 hu7 hu8 hg hl1 hl3 hl5 hl7 hSS hNM hu0 hcw hob;go_wp2_with fail
   refine qd4 ub uo n c j u pl pc z k nn p.a p.l p.c NM SS PA A' B' l1 ca' l3 cb' g _ _ _ _ _ _ _ _ _ _ _ _ _ _ _ _ _ _ _ _ _ _ _ _ _ _ _ _ _ _ _ _ _ _ _ _ _ _ _ _ _ _ _ _ _ _ _ _ _ _ _ _ _ _ _ _ _ _ _ _ _ _ _ _ _ _ _ _ _ _ _ _ _ _ _ _ _ _ _ _ _ _ _ _ _ _ _ _ _ _ _ _ _ _ _ _ _ _ _ _ _ _ _ _ _ _ _ _ _ _ _ _ _ _ _ _ wr i1 i2 HZ.out.1 HZ.out.2.1 hnu hu17 hu2 kb1 y1 y5 y8 y9 y10 y11 y12 y13 y14 y15 HX _ ?_;rintro V w4 hb4 ⟨z1,hv,HZ1⟩;simp only[regSd,List.drop_succ_cons,List.drop_zero,qgJ,hv];have HB4:=hid (HB.out.drew.on hb4);have HS5:Hid (SI (sumW Dc.wt (l.take j)+(1+u+pl+g.wt)) ((∀ x∈l.take j,x.deep)/\g.depth<=201) 4000000000000000 (z+1+(u:Int)+(pl:Int)+z1)):=hid (by
    have h0:SI (sumW Dc.wt (l.take j)) (∀ x∈l.take j,x.deep) 9000 z:=⟨HZ.out.1,HZ.out.2.1,fun _=>⟨HZ.out.2.2.1,HZ.out.2.2.2⟩⟩
    have h1:=(((h0.add (t:=1) (c:=1) (by decide)).add (t:=u) (c:=17179869184) (by omega)).add (t:=pl) (c:=1048576) (by omega)).addQ HZ1;refine h1.to (by omega) (fun h=>⟨h.1,by omega⟩) (by unfold capX;omega))
   clear hb4 hv HZ1 HX y1 y5 y8 y9 y10 y11 y12 y13 y14 y15 kb1 HB hnu;obtain⟨z5,hz5⟩:∃ z5,z5=z+1+(u:Int)+(pl:Int)+z1:=⟨_,rfl⟩
   rw[<- hz5]at HS5 ⊢;clear hz5;obtain⟨E5,hE5⟩:∃ E,E=sumW Dc.wt (l.take j)+(1+u+pl+g.wt):=⟨_,rfl⟩
   rw[<- hE5]at HS5;have HE5:=hid hE5;clear hE5;go_wp2_with fail
   obtain⟨D5,hD5⟩:∃ D:Prop,D=((∀ x∈l.take j,x.deep)/\g.depth<=201):=⟨_,rfl⟩
   rw[<- hD5]at HS5;have HD5:=hid hD5;clear hD5;go_loopw [3,5] (fun s i wr=>∃ (h:Nat) (z:Int),h<=pl/\i=.int .i64 (h:Int)/\s=.int .i64 z/\Hid (SI (E5+sumW (fun s=>s.length / 64) (ps.take h)) D5 (4000000000000000+(h:Int)*17179869184) z)/\Hid (Bel w wr)) (fun _ i _=>pl-(intOf i).toNat)
   case atStart=>exact⟨0,z5,Nat.zero_le _,rfl,rfl,hid (HS5.out.to (by simp[sumW]) id (by omega)),HB4⟩
   case round=>
    obtain⟨h,z6,hh,rfl,rfl,HZ6,HBI⟩:=hrel;have hcw:=(Bel.cells HBI.out).1;have x5:=(hcw ub _ HOB.out).trans HY5w.out;have kb1:ub<wr.heap.size:=Nat.lt_of_lt_of_le HOB.out HBI.out.size;by_cases hlt2:h<pl
    ·obtain⟨ub2,uo2,eB2,hob2,hfo2⟩:=HP.out.2.2 (by omega)
     subst eB2;obtain⟨y,hy⟩:∃ y,ps[h]?=some y:=⟨_,List.getElem?_eq_getElem (by rw[<- HPL.out];exact hlt2)⟩
     have e1:=hfo2 h y hy;unfold SAt at e1;rw[Nat.mul_one]at e1;replace e1:=(hcw ub2 _ hob2).trans e1
     have hyl:=HU3.out y (List.mem_of_getElem? hy);obtain⟨t,ht⟩:∃ t:Nat,t=y.length / 64:=⟨_,rfl⟩
     have ht17:t<=17179869184:=by omega
     have HN6:Hid (SI (E5+sumW (fun s=>s.length / 64) (ps.take (h+1))) D5 (4000000000000000+((h+1:Nat):Int)*17179869184) (z6+(t:Int))):=hid ((HZ6.out.add (t:=t) (c:=17179869184) (by omega)).to (by rw[jZ _ _ _ _ hy,ht];omega) id (by omega));have hq:wrap64 (z6+wrap64 ((y.length:Int) / 64))=z6+(t:Int):=by
      have h1:=HZ6.out.1;have h2:=HZ6.out.2.1;have e1:(y.length:Int) / 64=(t:Int):=by omega
      rw[e1,IntWalk.wrap64_in (t:Int) (by omega),IntWalk.wrap64_in _ (by omega)]
     have HQ6:=hid hq;have kb2:ub2<wr.heap.size:=Nat.lt_of_lt_of_le hob2 HBI.out.size;have j1:(0:Int)<=(h:Int):=by omega
     have j2:(h:Int)<(pl:Int):=by omega
     have HLT2:=hid hlt2;clear hfo2 hy hob2 hcw ht hyl hq;go_wp2_with fail
     go_roundw
     case rel=>exact⟨h+1,z6+(t:Int),HLT2.out,by go_num,(by first | rfl | rw[HQ6.out]),HN6,HBI⟩
     case measure=>have:=HLT2.out;simp[intOf];omega
    ·obtain rfl:h=pl:=by omega
     obtain⟨E6,hE6⟩:∃ E,E=E5+sumW (fun s=>s.length / 64) ps:=⟨_,rfl⟩
     have HZ7:Hid (SI E6 D5 22100000000000000 z6):=hid (HZ6.out.to (by rw[HPL.out,List.take_length,hE6]) id (by omega));have HE6:=hid hE6;clear hE6 hcw HZ6;go_wp2_with fail
     clear x5 kb1;go_loopw [3,6] (fun s i wr=>∃ (h:Nat) (z:Int),h<=cl/\i=.int .i64 (h:Int)/\s=.int .i64 z/\Hid (SI (E6+sumW Cd.wt (cs.take h)) (D5/\∀ c∈cs.take h,∀ f∈c.fs,f.deep) (22100000000000000+(h:Int)*17179869185+((qz (cs.take h)).length:Int)*4398048329306) z)/\Hid (Bel w wr)) (fun _ i _=>cl-(intOf i).toNat)
     case atStart=>exact⟨0,z6,Nat.zero_le _,rfl,rfl,hid (HZ7.out.to (by simp[sumW]) (fun h=>⟨h,fun c hc=>by simp at hc⟩) (by simp[qz])),HBI⟩
     case round=>
      obtain⟨h,z8,hh,rfl,rfl,HZ8,HBJ⟩:=hrel;have hcw:=(Bel.cells HBJ.out).1;have x6:=(hcw ub _ HOB.out).trans HY6.out;have kb1:ub<wr.heap.size:=Nat.lt_of_lt_of_le HOB.out HBJ.out.size;by_cases hlt3:h<cl
      ·obtain⟨ub3,uo3,eB3,hob3,hfo3⟩:=HC.out.2.2 (by omega)
       subst eB3;obtain⟨x,hx⟩:∃ x,cs[h]?=some x:=⟨_,List.getElem?_eq_getElem (by rw[<- HCL.out];exact hlt3)⟩
       obtain⟨e0,e1,e2,e3,FA,fc,e4,hff⟩:=hfo3 h x hx;have hxm:=List.mem_of_getElem? hx;have hnl:=HU5.out.1 x hxm;have HFF:=hid (HU5.out.2.2 x hxm);have HCW:Hid (sumW Cd.wt (cs.take (h+1))=sumW Cd.wt (cs.take h)+(1+x.nm.length / 64+sumW Fd.wt x.fs)):=hid (jZ _ _ _ _ hx);have HMC:Hid (∀ y∈cs.take (h+1),y∈cs.take h∨y=x):=hid fun y hy=>zR hx hy;have HFA:Hid ((qz (cs.take (h+1))).length=(qz (cs.take h)).length+x.fs.length):=hid (by rw[j8 cs h x hx,List.length_append]);have HFB:Hid ((qz (cs.take h)).length+x.fs.length<=1048576):=hid (Nat.le_trans (qfa cs h x hx) HU5.out.2.1);obtain⟨cn,cp,fs⟩:=x;simp only[]at e0 e4 hff hnl;simp only[]at HFF HCW HFA HFB;obtain⟨F,hF⟩:∃ F,F=(qz (cs.take h)).length:=⟨_,rfl⟩
       rw[<- hF]at HFA HFB HZ8;obtain⟨t,ht⟩:∃ t:Nat,t=cn.length / 64:=⟨_,rfl⟩
       have ht17:t<=17179869184:=by omega
       rw[<- ht]at HCW;obtain⟨fl,hfl⟩:∃ l,l=fs.length:=⟨_,rfl⟩
       have HFN:=hid hfl;rw[<- hfl]at e4 hff HFA HFB;have HF:Hid (RowOf 8 FdAt w (OldT w) FA fl fc fs):=hid hff;have HE4:=hid e4;have HOB3:=hid hob3;replace e0:=(hcw ub3 _ hob3).trans e0
       replace e4:=(hcw ub3 _ hob3).trans e4
       obtain⟨EC,hEC⟩:∃ E,E=E6+sumW Cd.wt (cs.take h)+1+t:=⟨_,rfl⟩
       obtain⟨DC,hDC⟩:∃ D:Prop,D=(D5/\∀ c∈cs.take h,∀ f∈c.fs,f.deep):=⟨_,rfl⟩
       have HN8:Hid (SI EC DC (22100000000000000+((h+1:Nat):Int)*17179869185+(F:Int)*4398048329306) (z8+1+(t:Int))):=hid (((HZ8.out.add (t:=1) (c:=1) (by decide)).add (t:=t) (c:=17179869184) (by omega)).to (by rw[hEC]) (by rw[hDC];exact id) (by omega));have hq:wrap64 (wrap64 (z8+1)+wrap64 ((cn.length:Int) / 64))=z8+1+(t:Int):=by
        have h1:=HZ8.out.1;have h2:=HZ8.out.2.1;have h3:=HFB.out;have e1:(cn.length:Int) / 64=(t:Int):=by omega
        rw[e1,IntWalk.wrap64_in (t:Int) (by omega),IntWalk.wrap64_in (z8+1) (by omega),IntWalk.wrap64_in _ (by omega)]
       have HQ8:=hid hq;have HEC:=hid hEC;have HDC:=hid hDC;have kb3:ub3<wr.heap.size:=Nat.lt_of_lt_of_le hob3 HBJ.out.size;have hh8:h<=1048576:=by omega
       have j1:(0:Int)<=(h:Int):=by omega
       have j2:(h:Int)<(cl:Int):=by omega
       have HLT3:=hid hlt3;clear hfo3 hx hxm hob3 hcw ht hnl hq hEC hDC hfl hff e1 e2 e3 hF HZ8;have fl8:fl<=1048576:=by have:=HFB.out;omega
       go_wp2_with fail
       try rw[HQ8.out]
       clear x6 e0 e4 kb1 kb3;go_loopw [3,7] (fun s i wr=>∃ (b:Nat) (z:Int),b<=fl/\i=.int .i64 (b:Int)/\s=.int .i64 z/\Hid (SI (EC+sumW Fd.wt (fs.take b)) (DC/\∀ f∈fs.take b,f.deep) (22100000000000000+((h+1:Nat):Int)*17179869185+(F:Int)*4398048329306+(b:Int)*4398048329306) z)/\Hid (Bel w wr)) (fun _ i _=>fl-(intOf i).toNat)
       case atStart=>exact⟨0,z8+1+(t:Int),Nat.zero_le _,rfl,rfl,hid (HN8.out.to (by simp[sumW]) (fun h=>⟨h,fun c hc=>by simp at hc⟩) (by omega)),HBJ⟩
       case round=>
        obtain⟨b,z9,hb,rfl,rfl,HZ9,HBK⟩:=hrel;have hcw:=(Bel.cells HBK.out).1;have x6:=(hcw ub _ HOB.out).trans HY6.out;have e4:=(hcw ub3 _ HOB3.out).trans HE4.out;have kb1:ub<wr.heap.size:=Nat.lt_of_lt_of_le HOB.out HBK.out.size;have kb3:ub3<wr.heap.size:=Nat.lt_of_lt_of_le HOB3.out HBK.out.size;by_cases hlt4:b<fl
        ·obtain⟨ub4,uo4,eB4,hob4,hfo4⟩:=HF.out.2.2 (by omega)
         subst eB4;obtain⟨y,hy⟩:∃ y,fs[b]?=some y:=⟨_,List.getElem?_eq_getElem (by rw[<- HFN.out];exact hlt4)⟩
         have hyf:=HFF.out y (List.mem_of_getElem? hy);have HFW:Hid (sumW Fd.wt (fs.take (b+1))=sumW Fd.wt (fs.take b)+y.tr.wt):=hid (jZ _ _ _ _ hy);have HMF:Hid (∀ v∈fs.take (b+1),v∈fs.take b∨v=y):=hid fun v hv=>zR hy hv;obtain⟨A4,c4,hkk4,v0,v1,v2,v3,v4,v5,v6,v7⟩:=(hfo4 b y hy).cells;have HT:Hid (∀ W,Bel wr W->Calls Tryz.prog 26 #[.agg #[.int .u8 y.k,.string ⟨y.s.toArray⟩,.int .u8 y.n,y.p.a,y.p.l,y.p.c,.slice A4 y.kids.len c4],(0:Int)] W (jE (capP 0) 0 y.tr W)):=hid fun W hW=>
          qaL y.kids.size 0 y.k y.s y.n y.p A4 y.kids.len c4 y.kids W rfl (hkk4.bel (HBK.out.on hW)) (by omega) hyf.1 hyf.2.1 hyf.2.2.2.1
         have HYD:Hid (y.tr.depth+0<=201->y.deep):=hid fun h=>h;obtain⟨g4,hg4⟩:∃ g,g=y.tr:=⟨_,rfl⟩
         rw[<- hg4]at HFW HT HYD;obtain⟨fm,fk,fs',fn,fp,fkids⟩:=y;simp only[]at v0 v1 v2 v3 v4 v5 v6 v7;simp only[]at HT;replace v0:=(hcw ub4 _ hob4).trans v0
         replace v1:=(hcw ub4 _ hob4).trans v1
         replace v2:=(hcw ub4 _ hob4).trans v2
         replace v3:=(hcw ub4 _ hob4).trans v3
         replace v4:=(hcw ub4 _ hob4).trans v4
         replace v5:=(hcw ub4 _ hob4).trans v5
         replace v6:=(hcw ub4 _ hob4).trans v6
         replace v7:=(hcw ub4 _ hob4).trans v7
         have kb4:ub4<wr.heap.size:=Nat.lt_of_lt_of_le hob4 HBK.out.size;obtain⟨l4,hl4⟩:∃ l,l=fkids.len:=⟨_,rfl⟩
         rw[<- hl4]at v7 HT;obtain⟨FJ,hFS⟩:∃ S:ByteArray,S=⟨fs'.toArray⟩:=⟨_,rfl⟩
         rw[<- hFS]at v2 HT;have k1:(0:Int)<=(b:Int):=by omega
         have k2:(b:Int)<(fl:Int):=by omega
         have HLT4:=hid hlt4;clear hfo4 hy hyf hkk4 hob4 hl4 hFS hg4 hcw;go_wp2_with fail
         refine (HT.out _ (Bel.refl _)).mono ?_;rintro e w5 ⟨z',rfl,hz1,hz2,hz3,hb5⟩;have HB5:=hid (HBK.out.on hb5);have HZQ:Hid (ZQ (capP 0) 0 g4 z'):=hid ⟨hz1,hz2,hz3⟩;have HN9:Hid (SI (EC+sumW Fd.wt (fs.take (b+1))) (DC/\∀ f∈fs.take (b+1),f.deep) (22100000000000000+((h+1:Nat):Int)*17179869185+(F:Int)*4398048329306+((b+1:Nat):Int)*4398048329306) (z9+z')):=hid ((HZ9.out.addQ HZQ.out).to (by rw[HFW.out];omega) (fun hh=>⟨hh.1.1,fun f hf=>by
          rcases HMF.out f hf with h | h
          ·exact hh.1.2 f h
          ·rw[h];exact HYD.out hh.2⟩) (by unfold capP;omega))
         have hw2:wrap64 (z9+z')=z9+z':=IntWalk.wrap64_in _ (by
          have h1:=HZ9.out.1;have h2:=HZ9.out.2.1;have h3:=HFB.out;have h4:=HLT4.out;unfold capP at hz2;omega)
         have HW2:=hid hw2;clear hb5 hz1 hz2 hz3 x6 e4 kb1 kb3 kb4 v0 v1 v2 v3 v4 v5 v6 v7 HT hw2;go_wp2_with fail
         go_roundw
         case rel=>exact⟨b+1,z9+z',HLT4.out,by go_num,(by first | rfl | rw[HW2.out]),HN9,HB5⟩
         case measure=>have:=HLT4.out;simp[intOf];omega
        ·obtain rfl:b=fl:=by omega
         have HNA:Hid (SI (E6+sumW Cd.wt (cs.take (h+1))) (D5/\∀ c∈cs.take (h+1),∀ f∈c.fs,f.deep) (22100000000000000+((h+1:Nat):Int)*17179869185+((qz (cs.take (h+1))).length:Int)*4398048329306) z9):=hid (HZ9.out.to (by rw[HCW.out,HFN.out,List.take_length,HEC.out];omega) (fun hh=>by
           have h1:=hh.1;rw[HDC.out]at h1;refine⟨h1.1,fun c hc=>?_⟩;rcases HMC.out c hc with h | h
           ·exact h1.2 c h
           ·rw[h]
            have h2:=hh.2;rw[HFN.out,List.take_length]at h2;exact h2) (by rw[HFA.out];omega))
         clear hcw;go_wp2_with fail
         go_roundw
         case rel=>exact⟨h+1,z9,HLT3.out,by go_num,rfl,HNA,HBK⟩
         case measure=>have:=HLT3.out;simp[intOf];omega
      ·obtain rfl:h=cl:=by omega
       clear hcw;by_cases h9:z8<=9000
       ·have HZN:Hid (0<=z8/\z8<=9000/\z8=(sumW Dc.wt (l.take (j+1)):Int)/\∀ x∈l.take (j+1),x.deep):=hid (by
         obtain⟨a1,a2,a3⟩:=HZ8.out;obtain⟨b1,b2,b3⟩:=a3 h9;rw[HCL.out,List.take_length]at b1 b3;rw[HD5.out]at b2;refine⟨a1,h9,?_,fun x hx=>?_⟩
         ·rw[b1,HWT.out,HXW.out,HE6.out,HE5.out,HUN.out,HPL.out]
          omega
         ·rcases HMT.out x hx with h | h
          ·exact b2.1 x h
          ·rw[h];exact HXD.out b2.2 b3)
        have hn9:¬ (9000<z8):=by omega
        clear HZ8;go_wp2_with fail
        go_roundw
        case rel=>exact⟨j+1,z8,HLT.out,by go_num,rfl,HZN,HBJ⟩
        case measure=>have:=HLT.out;simp[intOf];omega
       ·have hn9:9000<z8:=by omega
        go_wp2_with fail
        go_ret
        exact⟨z8,rfl,HZ8.out.1,fun h=>absurd h (by omega),HBJ.out⟩
  ·obtain rfl:j=n:=by omega
   go_wp2_with fail
   go_ret
   exact⟨z,rfl,HZ.out.1,fun _=>by have h:=HZ.out.2.2;rw[HL.out,List.take_length]at h;exact h,HB.out⟩
end Go.Proofs.YtlmmaoobembadaaGreatDoor.Mu
