import Derived.Test.YtfpoelklhekfaaaGreatDoorQbb
import Derived.Test.YtfpoelklhekfaaaGreatDoorQbd
open Go.Lib (hid)
namespace Go.Proofs.YtfpoelklhekfaaaGreatDoor.Mu
set_option maxHeartbeats 8000000
open Go Go.RowKit Go.Shelf
attribute [local go_sem] Oper.semAt_some
set_option linter.unusedVariables false
set_option maxRecDepth 100000
theorem Zz{w:World}{g:Nat}{t:TypeId}{x0 x1 x2 x3 x4 x5 x6 x7 x8 x9 x10 x11 x12 x13 x14 x15:Value}(h:w.heap[g]?=some (.cells #[x0,x1,x2,x3,x4,x5,x6,x7,x8,x9,x10,x11,x12,x13,x14,x15] t (0,0))) :
  w.cell? ⟨g,1,none⟩=some x1/\w.cell? ⟨g,5,none⟩=some x5:=by
 simp[World.cell?,h]
def qeD:Tr:= .nod 0 [] 0 ⟨0,0,0⟩ .nil .nil .nil
noncomputable def daMay (x:Dc):Bool:=x.ps.all (fun s=>mtB (1,s,0))&&x.cs.all cdMay&&mtB (2,x.nm,0)&&decide (0<x.cs.length) && !x.rc&&x.tr.same qeD
def Dc.ints(x:Dc):Prop:=x.nm.length<=140737488355328/\(∀ s∈x.ps,s.length<=140737488355328)/\(∀ c∈x.cs,c.nm.length<=140737488355328/\∀ f∈c.fs,f.ints)/\x.tr.ints
theorem qai(kd:Int)(nm:List UInt8)(q:Pl)(PA:Option Addr)(pc:Nat)(ps:List (List UInt8))(CA:Option Addr)(cc:Nat)(cs:List Cd)(rc:Bool)(k:Int)(s:List UInt8)(n:Int)(p:Pl)(A:Option Addr)(c:Nat)(B:Option Addr)(bc:Nat)(kids arms:Tr)(w:World)(hp:RowOf 1 SAt w (OldT w) PA ps.length pc ps)(hc:RowOf 5 CdAt w (OldT w) CA cs.length cc cs)(hk:KidsTr w (OldT w) .ex A kids.len c kids)(ha:KidsTr w (OldT w) .arms B arms.len bc arms)(hg:cs.length<=1000000/\ps.length<=1100000/\kids.size+arms.size<=900000/\∀ c∈cs,c.good)(ht:Tbl w)(hi:Dc.ints ⟨kd,nm,q,ps,cs,rc,k,s,n,p,kids,arms⟩) :
  Calls Tryz.prog 46 #[.agg #[.int .u8 kd,.string ⟨nm.toArray⟩,q.a,q.l,q.c,.slice PA ps.length pc,.slice CA cs.length cc,.bool rc,.int .u8 k,.string ⟨s.toArray⟩,n,p.a,p.l,p.c,.slice A kids.len c,.slice B arms.len bc]] w (qz (daMay ⟨kd,nm,q,ps,cs,rc,k,s,n,p,kids,arms⟩) w):=by
 have HTK:Hid (∀ W,Bel w W->Calls Tryz.prog 47 #[tokV 2 ⟨nm.toArray⟩] W (qz (mtB (2,nm,0)) W)):=hid fun W hW=>zW 2 nm 0 ⟨0,0,0⟩ W (ht.bel hW) hi.1 (by decide) (by decide);have HX:Hid (∀ W,Bel w W->Calls Tryz.prog 15 #[.agg #[.int .u8 k,.string ⟨s.toArray⟩,n,p.a,p.l,p.c,.slice A kids.len c,.slice B arms.len bc],.agg #[.int .u8 0,.string ⟨#[]⟩,(0:Int),(0:Int),(0:Int),(0:Int),.slice none 0 0,.slice none 0 0]] W (qz ((Tr.nod k s n p kids arms .nil).same qeD) W)):=hid fun W hW=>zV k s n p A c B bc kids arms 0 [] 0 ⟨0,0,0⟩ none 0 none 0 .nil .nil W (hk.bel hW) (ha.bel hW) ⟨rfl,Nat.le_refl _,fun h=>absurd h (by decide)⟩ ⟨rfl,Nat.le_refl _,fun h=>absurd h (by decide)⟩ hg.2.2.1 (by decide);have HPR:=hid hp;have HCR:=hid hc;have HG:=hid hg.2.2.2;have HI1:=hid hi.2.1;have HI2:=hid hi.2.2.1;have HT:=hid ht;have hcl:=hg.1;have hpl:=hg.2.1;obtain⟨r,hr⟩:∃ r,r=daMay ⟨kd,nm,q,ps,cs,rc,k,s,n,p,kids,arms⟩:=⟨_,rfl⟩
 rw[<- hr];obtain⟨rx,hrx⟩:∃ r,r=(Tr.nod k s n p kids arms .nil).same qeD:=⟨_,rfl⟩
 obtain⟨rt,hrt⟩:∃ r,r=mtB (2,nm,0):=⟨_,rfl⟩
 have HR:Hid (r=(ps.all (fun s=>mtB (1,s,0))&&cs.all cdMay&&rt&&decide (0<cs.length) && !rc&&rx)):=hid (by rw[hr,hrt,hrx];rfl);rw[<- hrx]at HX;rw[<- hrt]at HTK;obtain⟨kl,hl1⟩:∃ l,l=kids.len:=⟨_,rfl⟩
 obtain⟨al,hl3⟩:∃ l,l=arms.len:=⟨_,rfl⟩
 obtain⟨pl,hl5⟩:∃ l,l=ps.length:=⟨_,rfl⟩
 obtain⟨cl,hl7⟩:∃ l,l=cs.length:=⟨_,rfl⟩
 obtain⟨S,hS⟩:∃ S:ByteArray,S=⟨s.toArray⟩:=⟨_,rfl⟩
 obtain⟨NM,hNM⟩:∃ S:ByteArray,S=⟨nm.toArray⟩:=⟨_,rfl⟩
 have HL:=hid (And.intro hl5 hl7);rw[<- hl5]at HPR hpl;rw[<- hl7]at HCR hcl;rw[<- hl1,<- hl3,<- hS]at HX;rw[<- hNM]at HTK;rw[<- hl1,<- hl3,<- hl5,<- hl7,<- hS,<- hNM];clear hp hc hk ha hg ht hi hr hrx hrt hl1 hl3 hl5 hl7 hS hNM;have hb1:Bel w (w.alloc (.cells #[.int .u8 kd,NM,q.a,q.l,q.c,.slice PA pl pc,.slice CA cl cc,.bool rc,.int .u8 k,S,n,p.a,p.l,p.c,.slice A kl c,.slice B al bc] 59)):=(Bel.refl w).alloc _;have hq1:=blk1 w (.cells #[.int .u8 kd,NM,q.a,q.l,q.c,.slice PA pl pc,.slice CA cl cc,.bool rc,.int .u8 k,S,n,p.a,p.l,p.c,.slice A kl c,.slice B al bc] 59);go_enter Tryz.func46,Tryz.ntmps46
 go_wp2_with fail
 obtain⟨w1,hw1⟩:∃ w1,w1=w.alloc (.cells #[.int .u8 kd,NM,q.a,q.l,q.c,.slice PA pl pc,.slice CA cl cc,.bool rc,.int .u8 k,S,n,p.a,p.l,p.c,.slice A kl c,.slice B al bc] 59):=⟨_,rfl⟩
 rw[<- hw1]at hb1 hq1 ⊢;have HB1:=hid hb1;have HQ1:=hid hq1;have HS1:Hid (w.heap.size<w1.heap.size):=hid (Array.getElem?_eq_some_iff.1 hq1).1;clear hb1 hq1 hw1;go_loopw [10] (fun i wr=>∃ j:Nat,j<=pl/\i=.int .i64 (j:Int)/\Hid (ps.all (fun s=>mtB (1,s,0))=(ps.drop j).all (fun s=>mtB (1,s,0)))/\Hid (Bel w1 wr)) (fun i _=>pl-(intOf i).toNat)
 case atStart=>exact⟨0,Nat.zero_le _,rfl,hid rfl,hid (Bel.refl _)⟩
 case round=>
  obtain⟨j,hj,rfl,HRJ,HB⟩:=hrel;by_cases hlt:j<pl
  ·obtain⟨ub,uo,eA,hob,hfo⟩:=(HPR.out.bel jz (HB1.out.on HB.out)).2.2 (by omega)
   subst eA;obtain⟨x,hx⟩:∃ x,ps[j]?=some x:=⟨_,List.getElem?_eq_getElem (by rw[<- HL.out.1];exact hlt)⟩
   have e1:=hfo j x hx;unfold SAt at e1;rw[Nat.mul_one]at e1;obtain⟨b,hb⟩:∃ b,b=mtB (1,x,0):=⟨_,rfl⟩
   have HJD:Hid (ps.all (fun s=>mtB (1,s,0))=(b&&(ps.drop (j+1)).all (fun s=>mtB (1,s,0)))):=hid (by
    obtain⟨h1,h2⟩:=List.getElem?_eq_some_iff.1 hx;rw[HRJ.out,List.drop_eq_getElem_cons h1,h2,List.all_cons,hb])
   have HTX:Hid (∀ W,Bel w W->Calls Tryz.prog 47 #[tokV 1 ⟨x.toArray⟩] W (qz b W)):=hid fun W hW=>by
    rw[hb];exact zW 1 x 0 ⟨0,0,0⟩ W (HT.out.bel hW) (HI1.out x (List.mem_of_getElem? hx)) (by decide) (by decide)
   obtain⟨X,hX⟩:∃ S:ByteArray,S=⟨x.toArray⟩:=⟨_,rfl⟩
   rw[<- hX]at e1 HTX;have i1:(0:Int)<=(j:Int):=by omega
   have i2:(j:Int)<(pl:Int):=by omega
   have kb1:ub<wr.heap.size:=hob;have HLT:=hid hlt;clear hfo hx hob hb hX;go_wp2_with fail
   refine (qS _ _).mono ?_;rintro e w5 ⟨rfl,hb5⟩;have HB5:=hid (HB.out.on hb5);clear hb5 e1;go_wp2_with fail
   refine (HTX.out _ (HB1.out.on HB5.out)).mono ?_;rintro e w6 ⟨rfl,hb6⟩;have HB6:=hid (HB5.out.on hb6);clear hb6 HTX;cases b
   ·obtain rfl:r=false:=by rw[HR.out,HJD.out];simp
    go_wp2_with fail
    go_ret
    exact⟨rfl,HB1.out.on HB6.out⟩
   ·have HR':Hid (ps.all (fun s=>mtB (1,s,0))=(ps.drop (j+1)).all (fun s=>mtB (1,s,0))):=hid (by rw[HJD.out];simp)
    go_wp2_with fail
    go_roundw
    case rel=>exact⟨j+1,HLT.out,by go_num,HR',HB6⟩
    case measure=>have:=HLT.out;simp[intOf];omega
  ·obtain rfl:j=pl:=by omega
   have HPT:Hid (ps.all (fun s=>mtB (1,s,0))=true):=hid (by rw[HRJ.out,List.drop_eq_nil_of_le (by rw[<- HL.out.1];exact Nat.le_refl _)];rfl);have x6:=(qin (HB.out.blk HQ1.out)).2;have kb:w.heap.size<wr.heap.size:=Nat.lt_of_lt_of_le HS1.out HB.out.size;go_wp2_with fail
   clear x6 kb HRJ;go_loopw [22] (fun i wr=>∃ j:Nat,j<=cl/\i=.int .i64 (j:Int)/\Hid (cs.all cdMay=(cs.drop j).all cdMay)/\Hid (Bel w1 wr)) (fun i _=>cl-(intOf i).toNat)
   case atStart=>exact⟨0,Nat.zero_le _,rfl,hid rfl,HB⟩
   case round=>
    obtain⟨j,hj,rfl,HRJ,HBJ⟩:=hrel;by_cases hlt:j<cl
    ·obtain⟨ub,uo,eA,hob,hfo⟩:=(HCR.out.bel zp (HB1.out.on HBJ.out)).2.2 (by omega)
     subst eA;obtain⟨x,hx⟩:∃ x,cs[j]?=some x:=⟨_,List.getElem?_eq_getElem (by rw[<- HL.out.2];exact hlt)⟩
     have hxm:=List.mem_of_getElem? hx;have hgx:=HG.out x hxm;have hix:=HI2.out x hxm;obtain⟨e0,e1,e2,e3,A',ca',e4,hkk⟩:=hfo j x hx;obtain⟨b,hb⟩:∃ b,b=cdMay x:=⟨_,rfl⟩
     have HJD:Hid (cs.all cdMay=(b&&(cs.drop (j+1)).all cdMay)):=hid (by
      obtain⟨h1,h2⟩:=List.getElem?_eq_some_iff.1 hx;rw[HRJ.out,List.drop_eq_getElem_cons h1,h2,List.all_cons,hb])
     obtain⟨cn,cp,fs⟩:=x;have HCM:Hid (∀ W,Bel wr W->Calls Tryz.prog 89 #[.agg #[.string ⟨cn.toArray⟩,cp.a,cp.l,cp.c,.slice A' fs.length ca']] W (qz b W)):=hid fun W hW=>by
      rw[hb];exact qb2 cn cp A' fs.length ca' fs W (hkk.bel jK hW) hgx.1 (fun f hf=>⟨hgx.2 f hf,hix.2 f hf⟩) (HT.out.bel ((HB1.out.on HBJ.out).on hW)) hix.1
     simp only[]at e0 e1 e2 e3 e4;obtain⟨m1,hm1⟩:∃ l,l=fs.length:=⟨_,rfl⟩
     obtain⟨SS,hSS⟩:∃ S:ByteArray,S=⟨cn.toArray⟩:=⟨_,rfl⟩
     rw[<- hSS,<- hm1]at HCM;rw[<- hSS]at e0;rw[<- hm1]at e4;have i1:(0:Int)<=(j:Int):=by omega
     have i2:(j:Int)<(cl:Int):=by omega
     have kb1:ub<wr.heap.size:=hob;have HLT:=hid hlt;clear hfo hkk hgx hix hxm hm1 hSS hx hob hb;go_wp2_with fail
     refine (HCM.out _ ((Bel.refl wr).alloc _)).mono ?_;rintro e w6 ⟨rfl,hb6⟩;have HB6:=hid ((HBJ.out.alloc _).on hb6);clear hb6 HCM e0 e1 e2 e3 e4 kb1;cases b
     ·obtain rfl:r=false:=by rw[HR.out,HJD.out];simp
      go_wp2_with fail
      go_ret
      exact⟨rfl,HB1.out.on HB6.out⟩
     ·have HR':Hid (cs.all cdMay=(cs.drop (j+1)).all cdMay):=hid (by rw[HJD.out];simp)
      go_wp2_with fail
      go_roundw
      case rel=>exact⟨j+1,HLT.out,by go_num,HR',HB6⟩
      case measure=>have:=HLT.out;simp[intOf];omega
    ·obtain rfl:j=cl:=by omega
     have HR2:Hid (r=(rt&&decide (0<j) && !rc&&rx)):=hid (by
      rw[HR.out,HPT.out,HRJ.out,List.drop_eq_nil_of_le (by rw[<- HL.out.2];exact Nat.le_refl _),<- HL.out.2];simp)
     clear HR HPT HRJ;have x1:=(Zz (HBJ.out.blk HQ1.out)).1;have kb:w.heap.size<wr.heap.size:=Nat.lt_of_lt_of_le HS1.out HBJ.out.size;go_wp2_with fail
     refine (jV _ _).mono ?_;rintro e w5 ⟨rfl,hb5⟩;have HB5:=hid (HBJ.out.on hb5);clear hb5 x1 kb;go_wp2_with fail
     refine (HTK.out _ (HB1.out.on HB5.out)).mono ?_;rintro e w6 ⟨rfl,hb6⟩;have HB6:=hid (HB5.out.on hb6);clear hb6;cases rt
     ·obtain rfl:r=false:=by rw[HR2.out];simp
      go_wp2_with fail
      go_ret
      exact⟨rfl,HB1.out.on HB6.out⟩
     have hq6:=HB6.out.blk HQ1.out;obtain⟨x6,x7,x8,x9,x10,x11,x12,x13,x14,x15⟩:=qbP hq6;have kb:w.heap.size<w6.heap.size:=(Array.getElem?_eq_some_iff.1 hq6).1;clear hq6;by_cases h0:0<j
     case neg=>
      obtain rfl:r=false:=by rw[HR2.out];simp[h0]
      obtain rfl:j=0:=by omega
      go_wp2_with fail
      go_ret
      exact⟨rfl,HB1.out.on HB6.out⟩
     cases rc
     case true=>
      obtain rfl:r=false:=by rw[HR2.out];simp
      go_wp2_with fail
      go_ret
      exact⟨rfl,HB1.out.on HB6.out⟩
     obtain rfl:r=rx:=by rw[HR2.out];simp[h0]
     go_wp2_with fail
     refine (HX.out _ (HB1.out.on HB6.out)).mono ?_;rintro e w7 ⟨rfl,hb7⟩;have HB7:=hid (HB6.out.on hb7);clear hb7 x6 x7 x8 x9 x10 x11 x12 x13 x14 x15 kb;go_wp2_with fail
     go_ret
     exact⟨rfl,HB1.out.on HB7.out⟩
def regWd:List Oper:=[
 ⟨some 11,.move (.tmp 0),66,"write.go:42",#[],none⟩,
 ⟨some 12,.call ⟨.value (.func 51),#[.const (Value.string { data:=#[100,97,116,97] })],#[9]⟩,37,"write.go:42",#[],none⟩,
 ⟨some 13,.fieldAddr 59 (.tmp 3) 1,0,"write.go:42",#[],none⟩,
 ⟨some 14,.load 9 (.tmp 13),9,"write.go:42",#[⟨2,.data⟩],none⟩,
 ⟨some 15,.call ⟨.value (.func 90),#[.tmp 14],#[9]⟩,37,"write.go:42",#[⟨3,.data⟩,⟨1,.chain⟩],none⟩,
 ⟨some 16,.buildSlice 28 2 #[(0,.tmp 12),(1,.tmp 15)],28,"write.go:42",#[⟨1,.data⟩,⟨4,.data⟩],none⟩,
 ⟨some 17,.call ⟨.value (.func 50),#[.tmp 11,.tmp 16],#[66,28]⟩,0,"write.go:42",#[⟨0,.data⟩,⟨5,.data⟩,⟨4,.chain⟩],none⟩]
def qec(wp bx:Nat)(SS:ByteArray)(x0 x2 x3 x4 x5 x6 x7 x8 x9 x10 x11 x12 x13 x14 x15:Value)(i:Nat)(v:Value)(w:World):Prop:=
 match i with
 | 0=>v=.pointer (some ⟨wp,0,none⟩)
 | 1=>v=.agg #[.int .u8 5,.string ⟨#[100,97,116,97]⟩,(0:Int),(0:Int),(0:Int),(0:Int)]
 | 2=>v=.pointer (some ⟨bx,1,none⟩)
 | 3=>v=.string SS
 | 4=>v=.agg #[.int .u8 2,SS,(0:Int),(0:Int),(0:Int),(0:Int)]
 | 5=>∃ g,v=.slice (some ⟨g,0,none⟩) 2 2/\w.heap[g]?=some (.cells #[.int .u8 5,.string ⟨#[100,97,116,97]⟩,(0:Int),(0:Int),(0:Int),(0:Int),.int .u8 2,SS,(0:Int),(0:Int),(0:Int),(0:Int)] 37 (0,0))
 | _=>True
theorem qaO{wp bx:Nat}{SS:ByteArray}{x0 x2 x3 x4 x5 x6 x7 x8 x9 x10 x11 x12 x13 x14 x15:Value}(i:Nat)(v:Value)(w w':World)(hi:i<6)(h:qec wp bx SS x0 x2 x3 x4 x5 x6 x7 x8 x9 x10 x11 x12 x13 x14 x15 i v w)(hb:Bel w w'):qec wp bx SS x0 x2 x3 x4 x5 x6 x7 x8 x9 x10 x11 x12 x13 x14 x15 i v w':=by
 match i,hi,h with
 | 0,_,h | 1,_,h | 2,_,h | 3,_,h | 4,_,h=>exact h
 | 5,_,h=>obtain⟨g,e,hc⟩:=h;exact⟨g,e,hb.blk hc⟩
 | q+6,hi,_=>exact absurd hi (by omega)
def qhD(wp bx:Nat)(SS:ByteArray)(x0 x2 x3 x4 x5 x6 x7 x8 x9 x10 x11 x12 x13 x14 x15:Value)(s1 s2 s4 s5 s6 s7 s8 s9 s10 s11 s12 s13 s14 s15 s16 s17 s18 s19 s20 s21 s22 s23 s24 s25 s26 s27 s28 s29 s30 s31 s32 s33 s34 s35 s36 s37 s38 s39 s40 s41 s42 s43 s44 s45 s46 s47 s48 s49 s50 s51 s52 s53 s54 s55 s56 s57 s58 s59 s60 s61 s62 s63 s64 s65 s66 s67 s68:Value)(df:List Deferred):Act:={ tmps:=#[.pointer (some ⟨wp,0,none⟩),s1,s2,.pointer (some ⟨bx,0,none⟩),s4,s5,s6,s7,s8,s9,s10,s11,s12,s13,s14,s15,s16,s17,s18,s19,s20,s21,s22,s23,s24,s25,s26,s27,s28,s29,s30,s31,s32,s33,s34,s35,s36,s37,s38,s39,s40,s41,s42,s43,s44,s45,s46,s47,s48,s49,s50,s51,s52,s53,s54,s55,s56,s57,s58,s59,s60,s61,s62,s63,s64,s65,s66,s67,s68],defers:=df }
def qgd(wp bx:Nat)(SS:ByteArray)(x0 x2 x3 x4 x5 x6 x7 x8 x9 x10 x11 x12 x13 x14 x15:Value)(s1 s2 s4 s5 s6 s7 s8 s9 s10 s11 s12 s13 s14 s15 s16 s17 s18 s19 s20 s21 s22 s23 s24 s25 s26 s27 s28 s29 s30 s31 s32 s33 s34 s35 s36 s37 s38 s39 s40 s41 s42 s43 s44 s45 s46 s47 s48 s49 s50 s51 s52 s53 s54 s55 s56 s57 s58 s59 s60 s61 s62 s63 s64 s65 s66 s67 s68:Value)(df:List Deferred)(V:Nat->Value):Act:={ tmps:=#[.pointer (some ⟨wp,0,none⟩),s1,s2,.pointer (some ⟨bx,0,none⟩),s4,s5,s6,s7,s8,s9,s10,V 0,V 1,V 2,V 3,V 4,V 5,s17,s18,s19,s20,s21,s22,s23,s24,s25,s26,s27,s28,s29,s30,s31,s32,s33,s34,s35,s36,s37,s38,s39,s40,s41,s42,s43,s44,s45,s46,s47,s48,s49,s50,s51,s52,s53,s54,s55,s56,s57,s58,s59,s60,s61,s62,s63,s64,s65,s66,s67,s68],defers:=df }
theorem qck:zC .any regWd.toArray 6=true:=by kernel_rfl
theorem qdL:fwdB regWd.toArray 6=true:=by kernel_rfl
theorem qaw:qN regWd.toArray 69=true:=by kernel_rfl
theorem qdM:Region.seqB .any regWd.toArray (regWd.length-6) 6 (Array.replicate 6 true++Array.replicate (regWd.length-6) false)=true:=by kernel_rfl
set_option maxRecDepth 100000 in
theorem qdK{id:Nat}(wp bx:Nat)(SS:ByteArray)(x0 x2 x3 x4 x5 x6 x7 x8 x9 x10 x11 x12 x13 x14 x15:Value)(s1 s2 s4 s5 s6 s7 s8 s9 s10 s11 s12 s13 s14 s15 s16 s17 s18 s19 s20 s21 s22 s23 s24 s25 s26 s27 s28 s29 s30 s31 s32 s33 s34 s35 s36 s37 s38 s39 s40 s41 s42 s43 s44 s45 s46 s47 s48 s49 s50 s51 s52 s53 s54 s55 s56 s57 s58 s59 s60 s61 s62 s63 s64 s65 s66 s67 s68:Value)(df:List Deferred)(w:World)(hx:w.drew.heap[bx]?=some (.cells #[x0,SS,x2,x3,x4,x5,x6,x7,x8,x9,x10,x11,x12,x13,x14,x15] 59 (0,0)))(Q:Exit->Act->World->Prop)
  (hend:∀ (V:Nat->Value) (w':World),Bel w.drew w'->((V 0)=.pointer (some ⟨wp,0,none⟩))->(∃ g,(V 5)=.slice (some ⟨g,0,none⟩) 2 2/\w'.heap[g]?=some (.cells #[.int .u8 5,.string ⟨#[100,97,116,97]⟩,(0:Int),(0:Int),(0:Int),(0:Int),.int .u8 2,SS,(0:Int),(0:Int),(0:Int),(0:Int)] 37 (0,0)))->wpList Tryz.prog regWd.toArray Q (regWd.drop 6) (qgd wp bx SS x0 x2 x3 x4 x5 x6 x7 x8 x9 x10 x11 x12 x13 x14 x15 s1 s2 s4 s5 s6 s7 s8 s9 s10 s11 s12 s13 s14 s15 s16 s17 s18 s19 s20 s21 s22 s23 s24 s25 s26 s27 s28 s29 s30 s31 s32 s33 s34 s35 s36 s37 s38 s39 s40 s41 s42 s43 s44 s45 s46 s47 s48 s49 s50 s51 s52 s53 s54 s55 s56 s57 s58 s59 s60 s61 s62 s63 s64 s65 s66 s67 s68 df V) w') :
  (Code.region id regWd.toArray true).wp Tryz.prog Q (qhD wp bx SS x0 x2 x3 x4 x5 x6 x7 x8 x9 x10 x11 x12 x13 x14 x15 s1 s2 s4 s5 s6 s7 s8 s9 s10 s11 s12 s13 s14 s15 s16 s17 s18 s19 s20 s21 s22 s23 s24 s25 s26 s27 s28 s29 s30 s31 s32 s33 s34 s35 s36 s37 s38 s39 s40 s41 s42 s43 s44 s45 s46 s47 s48 s49 s50 s51 s52 s53 s54 s55 s56 s57 s58 s59 s60 s61 s62 s63 s64 s65 s66 s67 s68 df) w:=by
 refine qq (l:=regWd) 6 _ w (qec wp bx SS x0 x2 x3 x4 x5 x6 x7 x8 x9 x10 x11 x12 x13 x14 x15) (by kernel_rfl) qck qdL qaw qdM (fun i v w w' hi h hb=>qaO i v w w' hi h hb) ?_ ?_
 ·intro i' o hi' ho a w1 V hbel hdep hpar K hK
  have p0:a.eval (.tmp 0)=.pointer (some ⟨wp,0,none⟩):=hpar 0 (by show 0<69;decide) (by kernel_rfl);have p0':=tD p0;have p3:a.eval (.tmp 3)=.pointer (some ⟨bx,0,none⟩):=hpar 3 (by show 3<69;decide) (by kernel_rfl);have p3':=tD p3;obtain⟨q1,_⟩:=Zz (hbel.blk hx);match i',hi',ho,hdep,hK with
  | 0,_,ho,hdep,hK=>
   simp only[regWd,gT,gZ,gI]at ho;subst ho;exact nG rfl (wV (by simp[execOp,go_sem,p0']) hK rfl)
  | 1,_,ho,hdep,hK=>
   simp only[regWd,gT,gZ,gS,gI]at ho;subst ho;refine nG rfl ?_;refine qi (f:=51) (args:=#[.string { data:=#[100,97,116,97] }]) (by simp[go_sem]) ((qd ⟨#[100,97,116,97]⟩ w1).mono ?_);rintro e w' ⟨rfl,hb⟩;exact⟨_,rfl,hK _ _ hb rfl⟩
  | 2,_,ho,hdep,hK=>
   simp only[regWd,gT,gZ,gS,gI]at ho;subst ho;exact nG rfl (wV (by simp[execOp,go_sem,p3']) hK rfl)
  | 3,_,ho,hdep,hK=>
   simp only[regWd,gT,gZ,gS,gI]at ho;subst ho;refine nG rfl ?_;have e2':=tK (t:=13) (hdep ⟨2,.data⟩ (by simp) rfl) rfl;exact wV (by simp[execOp,go_sem,e2',q1]) hK rfl
  | 4,_,ho,hdep,hK=>
   simp only[regWd,gT,gZ,gS,gI]at ho;subst ho;refine nG rfl ?_;have e3':=tK (t:=14) (hdep ⟨3,.data⟩ (by simp) rfl) rfl;refine qi (f:=90) (args:=#[.string SS]) (by simp[go_sem,e3']) ((jV SS w1).mono ?_);rintro e w' ⟨rfl,hb⟩;exact⟨_,rfl,hK _ _ hb rfl⟩
  | 5,_,ho,hdep,hK=>
   simp only[regWd,gT,gZ,gS,gI]at ho;subst ho;refine nG rfl ?_;have e1':=tK (t:=12) (hdep ⟨1,.data⟩ (by simp) rfl) rfl;have e4':=tK (t:=15) (hdep ⟨4,.data⟩ (by simp) rfl) rfl;exact zc (v:= .slice (some ⟨w1.heap.size,0,none⟩) 2 2) (w':=w1.alloc (.cells #[.int .u8 5,.string ⟨#[100,97,116,97]⟩,(0:Int),(0:Int),(0:Int),(0:Int),.int .u8 2,SS,(0:Int),(0:Int),(0:Int),(0:Int)] 37)) (by simp[execOp,go_sem,e1',e4']) (hK _ _ ((Bel.refl w1).alloc _) ⟨w1.heap.size,rfl,blk1 w1 _⟩)
  | q+6,hi,_,_,_=>exact absurd hi (by omega)
 ·intro V w' hb hF
  have e:finA regWd.toArray 6 V (qhD wp bx SS x0 x2 x3 x4 x5 x6 x7 x8 x9 x10 x11 x12 x13 x14 x15 s1 s2 s4 s5 s6 s7 s8 s9 s10 s11 s12 s13 s14 s15 s16 s17 s18 s19 s20 s21 s22 s23 s24 s25 s26 s27 s28 s29 s30 s31 s32 s33 s34 s35 s36 s37 s38 s39 s40 s41 s42 s43 s44 s45 s46 s47 s48 s49 s50 s51 s52 s53 s54 s55 s56 s57 s58 s59 s60 s61 s62 s63 s64 s65 s66 s67 s68 df)=qgd wp bx SS x0 x2 x3 x4 x5 x6 x7 x8 x9 x10 x11 x12 x13 x14 x15 s1 s2 s4 s5 s6 s7 s8 s9 s10 s11 s12 s13 s14 s15 s16 s17 s18 s19 s20 s21 s22 s23 s24 s25 s26 s27 s28 s29 s30 s31 s32 s33 s34 s35 s36 s37 s38 s39 s40 s41 s42 s43 s44 s45 s46 s47 s48 s49 s50 s51 s52 s53 s54 s55 s56 s57 s58 s59 s60 s61 s62 s63 s64 s65 s66 s67 s68 df V:=by kernel_rfl
  rw[e];exact hend V w' hb (hF 0 (by omega)) (hF 5 (by omega))
def regWe:List Oper:=[
 ⟨some 39,.move (.tmp 0),66,"write.go:48",#[],none⟩,
 ⟨some 40,.load 37 (.tmp 6),37,"write.go:48",#[],none⟩,
 ⟨some 41,.fieldAddr 56 (.tmp 8) 0,0,"write.go:48",#[],none⟩,
 ⟨some 42,.load 9 (.tmp 41),9,"write.go:48",#[⟨2,.data⟩],none⟩,
 ⟨some 43,.call ⟨.value (.func 90),#[.tmp 42],#[9]⟩,37,"write.go:48",#[⟨3,.data⟩],none⟩,
 ⟨some 44,.buildSlice 28 2 #[(0,.tmp 40),(1,.tmp 43)],28,"write.go:48",#[⟨1,.data⟩,⟨4,.data⟩],none⟩,
 ⟨some 45,.call ⟨.value (.func 50),#[.tmp 39,.tmp 44],#[66,28]⟩,0,"write.go:48",#[⟨0,.data⟩,⟨5,.data⟩,⟨4,.chain⟩],none⟩]
def qed(wp cb hb0:Nat)(SJ CN:ByteArray)(pa pl pc:Int)(FA:Option Addr)(fl fc:Nat)(i:Nat)(v:Value)(w:World):Prop:=
 match i with
 | 0=>v=.pointer (some ⟨wp,0,none⟩)
 | 1=>v=.agg #[.int .u8 5,SJ,(0:Int),(0:Int),(0:Int),(0:Int)]
 | 2=>v=.pointer (some ⟨cb,0,none⟩)
 | 3=>v=.string CN
 | 4=>v=.agg #[.int .u8 2,CN,(0:Int),(0:Int),(0:Int),(0:Int)]
 | 5=>∃ g,v=.slice (some ⟨g,0,none⟩) 2 2/\w.heap[g]?=some (.cells #[.int .u8 5,SJ,(0:Int),(0:Int),(0:Int),(0:Int),.int .u8 2,CN,(0:Int),(0:Int),(0:Int),(0:Int)] 37 (0,0))
 | _=>True
theorem qaP{wp cb hb0:Nat}{SJ CN:ByteArray}{pa pl pc:Int}{FA:Option Addr}{fl fc:Nat}(i:Nat)(v:Value)(w w':World)(hi:i<6)(h:qed wp cb hb0 SJ CN pa pl pc FA fl fc i v w)(hb:Bel w w'):qed wp cb hb0 SJ CN pa pl pc FA fl fc i v w':=by
 match i,hi,h with
 | 0,_,h | 1,_,h | 2,_,h | 3,_,h | 4,_,h=>exact h
 | 5,_,h=>obtain⟨g,e,hc⟩:=h;exact⟨g,e,hb.blk hc⟩
 | q+6,hi,_=>exact absurd hi (by omega)
def qhE(wp cb hb0:Nat)(SJ CN:ByteArray)(pa pl pc:Int)(FA:Option Addr)(fl fc:Nat)(s1 s2 s3 s4 s5 s7 s9 s10 s11 s12 s13 s14 s15 s16 s17 s18 s19 s20 s21 s22 s23 s24 s25 s26 s27 s28 s29 s30 s31 s32 s33 s34 s35 s36 s37 s38 s39 s40 s41 s42 s43 s44 s45 s46 s47 s48 s49 s50 s51 s52 s53 s54 s55 s56 s57 s58 s59 s60 s61 s62 s63 s64 s65 s66 s67 s68:Value)(df:List Deferred):Act:={ tmps:=#[.pointer (some ⟨wp,0,none⟩),s1,s2,s3,s4,s5,.pointer (some ⟨hb0,0,none⟩),s7,.pointer (some ⟨cb,0,none⟩),s9,s10,s11,s12,s13,s14,s15,s16,s17,s18,s19,s20,s21,s22,s23,s24,s25,s26,s27,s28,s29,s30,s31,s32,s33,s34,s35,s36,s37,s38,s39,s40,s41,s42,s43,s44,s45,s46,s47,s48,s49,s50,s51,s52,s53,s54,s55,s56,s57,s58,s59,s60,s61,s62,s63,s64,s65,s66,s67,s68],defers:=df }
def qge(wp cb hb0:Nat)(SJ CN:ByteArray)(pa pl pc:Int)(FA:Option Addr)(fl fc:Nat)(s1 s2 s3 s4 s5 s7 s9 s10 s11 s12 s13 s14 s15 s16 s17 s18 s19 s20 s21 s22 s23 s24 s25 s26 s27 s28 s29 s30 s31 s32 s33 s34 s35 s36 s37 s38 s39 s40 s41 s42 s43 s44 s45 s46 s47 s48 s49 s50 s51 s52 s53 s54 s55 s56 s57 s58 s59 s60 s61 s62 s63 s64 s65 s66 s67 s68:Value)(df:List Deferred)(V:Nat->Value):Act:={ tmps:=#[.pointer (some ⟨wp,0,none⟩),s1,s2,s3,s4,s5,.pointer (some ⟨hb0,0,none⟩),s7,.pointer (some ⟨cb,0,none⟩),s9,s10,s11,s12,s13,s14,s15,s16,s17,s18,s19,s20,s21,s22,s23,s24,s25,s26,s27,s28,s29,s30,s31,s32,s33,s34,s35,s36,s37,s38,V 0,V 1,V 2,V 3,V 4,V 5,s45,s46,s47,s48,s49,s50,s51,s52,s53,s54,s55,s56,s57,s58,s59,s60,s61,s62,s63,s64,s65,s66,s67,s68],defers:=df }
theorem qcl:zC .any regWe.toArray 6=true:=by kernel_rfl
theorem qdO:fwdB regWe.toArray 6=true:=by kernel_rfl
theorem qax:qN regWe.toArray 69=true:=by kernel_rfl
theorem qdP:Region.seqB .any regWe.toArray (regWe.length-6) 6 (Array.replicate 6 true++Array.replicate (regWe.length-6) false)=true:=by kernel_rfl
set_option maxRecDepth 100000 in
theorem qdN{id:Nat}(wp cb hb0:Nat)(SJ CN:ByteArray)(pa pl pc:Int)(FA:Option Addr)(fl fc:Nat)(s1 s2 s3 s4 s5 s7 s9 s10 s11 s12 s13 s14 s15 s16 s17 s18 s19 s20 s21 s22 s23 s24 s25 s26 s27 s28 s29 s30 s31 s32 s33 s34 s35 s36 s37 s38 s39 s40 s41 s42 s43 s44 s45 s46 s47 s48 s49 s50 s51 s52 s53 s54 s55 s56 s57 s58 s59 s60 s61 s62 s63 s64 s65 s66 s67 s68:Value)(df:List Deferred)(w:World)(hx:w.drew.heap[cb]?=some (.cells #[.string CN,pa,pl,pc,.slice FA fl fc] 56 (0,0)))(ha:w.drew.heap[hb0]?=some (.cells #[.int .u8 5,SJ,(0:Int),(0:Int),(0:Int),(0:Int)] 37 (0,0)))(Q:Exit->Act->World->Prop)
  (hend:∀ (V:Nat->Value) (w':World),Bel w.drew w'->((V 0)=.pointer (some ⟨wp,0,none⟩))->(∃ g,(V 5)=.slice (some ⟨g,0,none⟩) 2 2/\w'.heap[g]?=some (.cells #[.int .u8 5,SJ,(0:Int),(0:Int),(0:Int),(0:Int),.int .u8 2,CN,(0:Int),(0:Int),(0:Int),(0:Int)] 37 (0,0)))->wpList Tryz.prog regWe.toArray Q (regWe.drop 6) (qge wp cb hb0 SJ CN pa pl pc FA fl fc s1 s2 s3 s4 s5 s7 s9 s10 s11 s12 s13 s14 s15 s16 s17 s18 s19 s20 s21 s22 s23 s24 s25 s26 s27 s28 s29 s30 s31 s32 s33 s34 s35 s36 s37 s38 s39 s40 s41 s42 s43 s44 s45 s46 s47 s48 s49 s50 s51 s52 s53 s54 s55 s56 s57 s58 s59 s60 s61 s62 s63 s64 s65 s66 s67 s68 df V) w') :
  (Code.region id regWe.toArray true).wp Tryz.prog Q (qhE wp cb hb0 SJ CN pa pl pc FA fl fc s1 s2 s3 s4 s5 s7 s9 s10 s11 s12 s13 s14 s15 s16 s17 s18 s19 s20 s21 s22 s23 s24 s25 s26 s27 s28 s29 s30 s31 s32 s33 s34 s35 s36 s37 s38 s39 s40 s41 s42 s43 s44 s45 s46 s47 s48 s49 s50 s51 s52 s53 s54 s55 s56 s57 s58 s59 s60 s61 s62 s63 s64 s65 s66 s67 s68 df) w:=by
 refine qq (l:=regWe) 6 _ w (qed wp cb hb0 SJ CN pa pl pc FA fl fc) (by kernel_rfl) qcl qdO qax qdP (fun i v w w' hi h hb=>qaP i v w w' hi h hb) ?_ ?_
 ·intro i' o hi' ho a w1 V hbel hdep hpar K hK
  have p0:a.eval (.tmp 0)=.pointer (some ⟨wp,0,none⟩):=hpar 0 (by show 0<69;decide) (by kernel_rfl);have p0':=tD p0;have p6:a.eval (.tmp 6)=.pointer (some ⟨hb0,0,none⟩):=hpar 6 (by show 6<69;decide) (by kernel_rfl);have p6':=tD p6;have p8:a.eval (.tmp 8)=.pointer (some ⟨cb,0,none⟩):=hpar 8 (by show 8<69;decide) (by kernel_rfl);have p8':=tD p8;obtain⟨⟨z0,z1,z2,z3,z4,z5⟩,_⟩:=jq (hbel.blk ha);have q0:w1.cell? ⟨cb,0,none⟩=some (.string CN):=by simp[World.cell?,hbel.blk hx]
  match i',hi',ho,hdep,hK with
  | 0,_,ho,hdep,hK=>
   simp only[regWe,gT,gZ,gI]at ho;subst ho;exact nG rfl (wV (by simp[execOp,go_sem,p0']) hK rfl)
  | 1,_,ho,hdep,hK=>
   simp only[regWe,gT,gZ,gS,gI]at ho;subst ho;exact nG rfl (wV (by simp[execOp,go_sem,p6',z0,z1,z2,z3,z4,z5]) hK rfl)
  | 2,_,ho,hdep,hK=>
   simp only[regWe,gT,gZ,gS,gI]at ho;subst ho;exact nG rfl (wV (by simp[execOp,go_sem,p8']) hK rfl)
  | 3,_,ho,hdep,hK=>
   simp only[regWe,gT,gZ,gS,gI]at ho;subst ho;refine nG rfl ?_;have e2':=tK (t:=41) (hdep ⟨2,.data⟩ (by simp) rfl) rfl;exact wV (by simp[execOp,go_sem,e2',q0]) hK rfl
  | 4,_,ho,hdep,hK=>
   simp only[regWe,gT,gZ,gS,gI]at ho;subst ho;refine nG rfl ?_;have e3':=tK (t:=42) (hdep ⟨3,.data⟩ (by simp) rfl) rfl;refine qi (f:=90) (args:=#[.string CN]) (by simp[go_sem,e3']) ((jV CN w1).mono ?_);rintro e w' ⟨rfl,hb⟩;exact⟨_,rfl,hK _ _ hb rfl⟩
  | 5,_,ho,hdep,hK=>
   simp only[regWe,gT,gZ,gS,gI]at ho;subst ho;refine nG rfl ?_;have e1':=tK (t:=40) (hdep ⟨1,.data⟩ (by simp) rfl) rfl;have e4':=tK (t:=43) (hdep ⟨4,.data⟩ (by simp) rfl) rfl;exact zc (v:= .slice (some ⟨w1.heap.size,0,none⟩) 2 2) (w':=w1.alloc (.cells #[.int .u8 5,SJ,(0:Int),(0:Int),(0:Int),(0:Int),.int .u8 2,CN,(0:Int),(0:Int),(0:Int),(0:Int)] 37)) (by simp[execOp,go_sem,e1',e4']) (hK _ _ ((Bel.refl w1).alloc _) ⟨w1.heap.size,rfl,blk1 w1 _⟩)
  | q+6,hi,_,_,_=>exact absurd hi (by omega)
 ·intro V w' hb hF
  have e:finA regWe.toArray 6 V (qhE wp cb hb0 SJ CN pa pl pc FA fl fc s1 s2 s3 s4 s5 s7 s9 s10 s11 s12 s13 s14 s15 s16 s17 s18 s19 s20 s21 s22 s23 s24 s25 s26 s27 s28 s29 s30 s31 s32 s33 s34 s35 s36 s37 s38 s39 s40 s41 s42 s43 s44 s45 s46 s47 s48 s49 s50 s51 s52 s53 s54 s55 s56 s57 s58 s59 s60 s61 s62 s63 s64 s65 s66 s67 s68 df)=qge wp cb hb0 SJ CN pa pl pc FA fl fc s1 s2 s3 s4 s5 s7 s9 s10 s11 s12 s13 s14 s15 s16 s17 s18 s19 s20 s21 s22 s23 s24 s25 s26 s27 s28 s29 s30 s31 s32 s33 s34 s35 s36 s37 s38 s39 s40 s41 s42 s43 s44 s45 s46 s47 s48 s49 s50 s51 s52 s53 s54 s55 s56 s57 s58 s59 s60 s61 s62 s63 s64 s65 s66 s67 s68 df V:=by kernel_rfl
  rw[e];exact hend V w' hb (hF 0 (by omega)) (hF 5 (by omega))
end Go.Proofs.YtfpoelklhekfaaaGreatDoor.Mu
