import Derived.Test.YtfpoelklhekfaaaGreatDoorQbe
open Go.Lib (hid)
namespace Go.Proofs.YtfpoelklhekfaaaGreatDoor.Mu
set_option maxHeartbeats 8000000
open Go Go.RowKit Go.Shelf
attribute [local go_sem] Oper.semAt_some
set_option linter.unusedVariables false
set_option maxRecDepth 100000
noncomputable def dcMay (x:Dc):Bool:=if x.kd=1 then daMay x else if x.kd=2 then mtB (1,x.nm,0)&&decide (x.ps.length=0)&&decide (x.cs.length=0)&&(x.tr.pre 0).all (qX (hdX hEf hPf) 60) else false
theorem qaj(kd:Int)(nm:List UInt8)(q:Pl)(PA:Option Addr)(pc:Nat)(ps:List (List UInt8))(CA:Option Addr)(cc:Nat)(cs:List Cd)(rc:Bool)(k:Int)(s:List UInt8)(n:Int)(p:Pl)(A:Option Addr)(c:Nat)(B:Option Addr)(bc:Nat)(kids arms:Tr)(w:World)(hp:RowOf 1 SAt w (OldT w) PA ps.length pc ps)(hc:RowOf 5 CdAt w (OldT w) CA cs.length cc cs)(hk:KidsTr w (OldT w) .ex A kids.len c kids)(ha:KidsTr w (OldT w) .arms B arms.len bc arms)(hg:cs.length<=1000000/\ps.length<=1100000/\kids.size+arms.size<=900000/\∀ c∈cs,c.good)(ht:Tbl w)(hi:Dc.ints ⟨kd,nm,q,ps,cs,rc,k,s,n,p,kids,arms⟩) :
  Calls Tryz.prog 18 #[.agg #[.int .u8 kd,.string ⟨nm.toArray⟩,q.a,q.l,q.c,.slice PA ps.length pc,.slice CA cs.length cc,.bool rc,.int .u8 k,.string ⟨s.toArray⟩,n,p.a,p.l,p.c,.slice A kids.len c,.slice B arms.len bc]] w (qz (dcMay ⟨kd,nm,q,ps,cs,rc,k,s,n,p,kids,arms⟩) w):=by
 have HD:Hid (∀ W,Bel w W->Calls Tryz.prog 46 #[.agg #[.int .u8 kd,.string ⟨nm.toArray⟩,q.a,q.l,q.c,.slice PA ps.length pc,.slice CA cs.length cc,.bool rc,.int .u8 k,.string ⟨s.toArray⟩,n,p.a,p.l,p.c,.slice A kids.len c,.slice B arms.len bc]] W (qz (daMay ⟨kd,nm,q,ps,cs,rc,k,s,n,p,kids,arms⟩) W)):=hid fun W hW=>qai kd nm q PA pc ps CA cc cs rc k s n p A c B bc kids arms W (hp.bel jz hW) (hc.bel zp hW) (hk.bel hW) (ha.bel hW) hg (ht.bel hW) hi;have HTK:Hid (∀ W,Bel w W->Calls Tryz.prog 47 #[tokV 1 ⟨nm.toArray⟩] W (qz (mtB (1,nm,0)) W)):=hid fun W hW=>zW 1 nm 0 ⟨0,0,0⟩ W (ht.bel hW) hi.1 (by decide) (by decide);have HX:Hid (∀ (g:Nat) (t:TypeId) (W:World),Bel w W->W.heap[g]?=some (.cells #[.int .u8 k,.string ⟨s.toArray⟩,n,p.a,p.l,p.c,.slice A kids.len c,.slice B arms.len bc] t (0,0)) →
   Calls Tryz.prog 40 #[.int .i64 60,.slice (some ⟨g,0,none⟩) 1 1,.func (.func 34) #[] #[],.func (.func 41) #[] #[]] W (qz (((Tr.nod k s n p kids arms .nil).pre 0).all (qX (hdX hEf hPf) 60)) W)):=hid fun g t W hW h1=>by
  have e1:=jx (sh:= .ex) (by intro e;cases e) hk (.inl ⟨rfl,ha⟩) hW h1;exact ZD 60 _ 1 1 _ W e1 (by have:=hg.2.2.1;simp only[Tr.size];omega) (by decide) (ht.bel hW) hi.2.2.2
 obtain⟨r,hr⟩:∃ r,r=dcMay ⟨kd,nm,q,ps,cs,rc,k,s,n,p,kids,arms⟩:=⟨_,rfl⟩
 rw[<- hr];obtain⟨rd,hrd⟩:∃ r,r=daMay ⟨kd,nm,q,ps,cs,rc,k,s,n,p,kids,arms⟩:=⟨_,rfl⟩
 obtain⟨rx,hrx⟩:∃ r,r=((Tr.nod k s n p kids arms .nil).pre 0).all (qX (hdX hEf hPf) 60):=⟨_,rfl⟩
 obtain⟨rt,hrt⟩:∃ r,r=mtB (1,nm,0):=⟨_,rfl⟩
 have HR:Hid (r=(if kd=1 then rd else if kd=2 then rt&&decide (ps.length=0)&&decide (cs.length=0)&&rx else false)):=hid (by rw[hr,hrd,hrt,hrx];rfl);have hcl:=hg.1;have hpl:=hg.2.1;rw[<- hrd]at HD;rw[<- hrx]at HX;rw[<- hrt]at HTK;obtain⟨kl,hl1⟩:∃ l,l=kids.len:=⟨_,rfl⟩
 obtain⟨al,hl3⟩:∃ l,l=arms.len:=⟨_,rfl⟩
 obtain⟨pl,hl5⟩:∃ l,l=ps.length:=⟨_,rfl⟩
 obtain⟨cl,hl7⟩:∃ l,l=cs.length:=⟨_,rfl⟩
 obtain⟨S,hS⟩:∃ S:ByteArray,S=⟨s.toArray⟩:=⟨_,rfl⟩
 obtain⟨NM,hNM⟩:∃ S:ByteArray,S=⟨nm.toArray⟩:=⟨_,rfl⟩
 rw[<- hl5,<- hl7]at HR;rw[<- hl5]at hpl;rw[<- hl7]at hcl;rw[<- hl1,<- hl3,<- hS]at HX;rw[<- hNM]at HTK;rw[<- hl1,<- hl3,<- hl5,<- hl7,<- hS,<- hNM]at HD ⊢;clear hp hc hk ha hg ht hi hr hrd hrx hrt hl1 hl3 hl5 hl7 hS hNM;have HB1:=hid ((Bel.refl w).alloc (.cells #[.int .u8 kd,NM,q.a,q.l,q.c,.slice PA pl pc,.slice CA cl cc,.bool rc,.int .u8 k,S,n,p.a,p.l,p.c,.slice A kl c,.slice B al bc] 59));by_cases h1:kd=1
 ·subst h1
  obtain rfl:r=rd:=by rw[HR.out];rfl
  clear HTK HX HR;go_enter Tryz.func18,Tryz.ntmps18
  go_wp2_with fail
  refine (HD.out _ HB1.out).mono ?_;rintro e w5 ⟨rfl,hb5⟩;have HB5:=hid (HB1.out.on hb5);clear hb5;go_wp2_with fail
  go_ret
  exact⟨rfl,HB5.out⟩
 have k1:(kd==1)=false:=by simpa using h1
 by_cases h2:kd=2
 case neg=>
  obtain rfl:r=false:=by rw[HR.out,if_neg h1,if_neg h2]
  have k2:(kd==2)=false:=by simpa using h2
  clear HTK HX HR HD h1 h2;go_enter Tryz.func18,Tryz.ntmps18
  go_wp2_with fail
  go_ret
  exact⟨rfl,HB1.out⟩
 subst h2;have HR2:Hid (r=(rt&&decide (pl=0)&&decide (cl=0)&&rx)):=hid (by rw[HR.out,if_neg (by decide),if_pos rfl]);clear HR HD h1 k1;have hq1:=blk1 w (.cells #[.int .u8 2,NM,q.a,q.l,q.c,.slice PA pl pc,.slice CA cl cc,.bool rc,.int .u8 k,S,n,p.a,p.l,p.c,.slice A kl c,.slice B al bc] 59);go_enter Tryz.func18,Tryz.ntmps18
 go_wp2_with fail
 obtain⟨w1,hw1⟩:∃ w1,w1=w.alloc (.cells #[.int .u8 2,NM,q.a,q.l,q.c,.slice PA pl pc,.slice CA cl cc,.bool rc,.int .u8 k,S,n,p.a,p.l,p.c,.slice A kl c,.slice B al bc] 59):=⟨_,rfl⟩
 rw[<- hw1]at HB1 hq1 ⊢;have HQ1:=hid hq1;clear hq1 hw1;refine (qS _ _).mono ?_;rintro e w5 ⟨rfl,hb5⟩;have HB5:=hid hb5;clear hb5;go_wp2_with fail
 refine (HTK.out _ (HB1.out.on HB5.out)).mono ?_;rintro e w6 ⟨rfl,hb6⟩;have HB6:=hid (HB5.out.on hb6);clear hb6 HTK;cases rt
 ·obtain rfl:r=false:=by rw[HR2.out];simp
  go_wp2_with fail
  go_ret
  exact⟨rfl,HB1.out.on HB6.out⟩
 have hq6:=HB6.out.blk HQ1.out;obtain⟨x5,x6'⟩:=Zz hq6;obtain⟨x6,x7,x8,x9,x10,x11,x12,x13,x14,x15⟩:=qbP hq6;have kb:w.heap.size<w6.heap.size:=(Array.getElem?_eq_some_iff.1 hq6).1;clear hq6 x5;by_cases hp0:pl=0
 case neg=>
  obtain rfl:r=false:=by rw[HR2.out];simp[hp0]
  have e0:((pl:Int)==0)=false:=by simp;omega
  go_wp2_with fail
  go_ret
  exact⟨rfl,HB1.out.on HB6.out⟩
 subst hp0;by_cases hc0:cl=0
 case neg=>
  obtain rfl:r=false:=by rw[HR2.out];simp[hc0]
  have e0:((cl:Int)==0)=false:=by simp;omega
  go_wp2_with fail
  go_ret
  exact⟨rfl,HB1.out.on HB6.out⟩
 subst hc0;obtain rfl:r=rx:=by rw[HR2.out];simp
 have q4:=blk1 w6 (.cells #[.int .u8 k,S,n,p.a,p.l,p.c,.slice A kl c,.slice B al bc] 43);have HC2:=hid (HX.out w6.heap.size _ _ ((HB1.out.on HB6.out).alloc _) q4);have HB7:=hid (HB6.out.alloc (.cells #[.int .u8 k,S,n,p.a,p.l,p.c,.slice A kl c,.slice B al bc] 43));clear q4 HX;go_wp2_with fail
 refine HC2.out.mono ?_;rintro e w7 ⟨rfl,hb7⟩;have HB8:=hid (HB7.out.on hb7);clear hb7 x6 x6' x7 x8 x9 x10 x11 x12 x13 x14 x15 kb;go_wp2_with fail
 go_ret
 exact⟨rfl,HB1.out.on HB8.out⟩
end Go.Proofs.YtfpoelklhekfaaaGreatDoor.Mu
