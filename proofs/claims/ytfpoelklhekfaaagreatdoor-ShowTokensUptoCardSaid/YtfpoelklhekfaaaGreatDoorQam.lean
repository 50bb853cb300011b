import Derived.Lib.ValidU
import Derived.Lib.ItoaNum
import Derived.Test.YtfpoelklhekfaaaGreatDoorShelfV
import Derived.Lib.SmallJoins
import Derived.Shelf.Unicode.DecodeSlow
import Derived.Test.YtfpoelklhekfaaaGreatDoorQak
open Go.Lib (hid)
namespace Go.Proofs.YtfpoelklhekfaaaGreatDoor.Mu
open Go
theorem qcK:∀ (k n:Nat),n<=k->Lib.decDigits n=digB n
 | k,n,h=>by
  rw[Lib.decDigits];by_cases h1:n<10
  ·rw[dif_pos h1,j5 h1]
  ·rw[dif_neg h1,JD h1]
   match k,h with
   | 0,h=>omega
   | k+1,h=>rw[qcK k (n / 10) (by omega)]
theorem qbj{n:Int}(h:0<=n):Lib.itoa n=digB n.toNat:=by
 unfold Lib.itoa;rw[if_neg (by omega),qcK n.toNat n.toNat (Nat.le_refl _)]
theorem qbA:∀ (n:Nat) (l:List UInt8) (cs:List Int) (rest:List UInt8),l.length<=n->Cps l cs rest->(Lib.validGoD n l=true↔rest=[])
 | 0,l,cs,rest,hl,h=>by
  have:l=[]:=List.eq_nil_of_length_eq_zero (by omega);have e:=h.eq;rw[this]at e;have e2:=(List.append_eq_nil_iff.1 e.symm).2;simp[Lib.validGoD,e2]
 | n+1,l,cs,rest,hl,h=>by
  rw[Lib.validGoD];by_cases h0:l=[]
  ·rw[if_pos h0]
   have e:=h.eq;rw[h0]at e;have e2:=(List.append_eq_nil_iff.1 e.symm).2;simp[e2]
  ·rw[if_neg h0]
   cases cs with
   | nil=>
    have e:=h.eq;have hlr:l=rest:=by rw[e];rfl
    have hne:rest≠[]:=fun e=>h0 (hlr.trans e);have hsz:0<(⟨l.toArray⟩:ByteArray).size:=by
     have:(⟨l.toArray⟩:ByteArray).size=l.length:=by simp[ByteArray.size]
     rw[this];cases l with
     | nil=>exact absurd rfl h0
     | cons a b=>simp
    by_cases hd:(Lib.decodeL l).1=65533/\(Lib.decodeL l).2=1
    ·rw[if_pos hd];simp[hne]
    ·exfalso
     obtain⟨c1,-,c3⟩:=ZA (s:=⟨l.toArray⟩) (i:=0) hsz (show Utf8.decode ⟨l.toArray⟩ 0=((Lib.decodeL l).1,(Lib.decodeL l).2) from rfl) hd;refine h.no _ c1 ?_;rw[<- hlr];simpa using c3
   | cons c cs=>
    have hc:=h.cp.cons;have e:=h.eq;rw[ql,List.append_assoc]at e;have hdec:Lib.decodeL l=(c.toNat,wid c):=jc (s:=⟨l.toArray⟩) (i:=0) hc.1 (by rw[e];simp);have hw:=zO hc.1;have hb:=(qG c).1 hc.1;rw[hdec,if_neg (by
     rintro⟨h1,h2⟩;have h1':c.toNat=65533:=h1;have:c=65533:=by omega
     rw[this]at h2;revert h2;decide)]
    have hdrop:l.drop (wid c)=encs cs++rest:=by rw[e,<- hw,List.drop_left]
    show Lib.validGoD n (l.drop (wid c))=true↔_
    have hp:=zv c;exact qbA n _ cs rest (by rw[List.length_drop];omega) ⟨hc.2,hdrop,h.no⟩
theorem qeu(s:List UInt8):Lib.validD s=true ↔ ∃ ds,Cps s ds []:=by
 obtain⟨cs,rest,h⟩:=qbc _ s (Nat.le_refl _);unfold Lib.validD;rw[qbA _ s cs rest (Nat.le_refl _) h];constructor
 ·rintro rfl;exact⟨cs,h⟩
 ·rintro⟨ds,hd⟩;exact (h.uniq hd).2
theorem qhi{k n:Int}{s wr rest:List UInt8}{cs:List Int}(hk:k≠4)(hw:0<=n->wr=putB k s n)(hc:Cps wr cs rest):((tokO wr.length cs rest).e=0/\(tokO wr.length cs rest).l.map Tn.b=[(k,s,n)])↔qv (k,s,n):=by
 constructor
 ·rintro⟨he,hl⟩
  have:=(Ju hc.cp he).1;exact this _ (by rw[hl];simp)
 ·intro hm
  have hn:0<=n:=by rcases hm with ⟨_,_,h⟩ | ⟨_,_,h⟩ | ⟨_,h,_⟩ | ⟨_,_,h⟩ | ⟨_,_,h⟩ | ⟨_,_,h⟩ <;> simp at h <;> omega
  have hlen:(putB k s n).length<=4000:=by
   unfold putB;rcases hm with ⟨h1,h2,_⟩ | ⟨h1,h2,_⟩ | ⟨h1,_,h2,_⟩ | ⟨h1,_⟩ | ⟨h1,h2,_⟩ | ⟨h1,h2,_⟩
   ·simp only at h1;rw[if_neg (by omega),if_neg (by omega)];have:=h2.2.1;simp only at this;omega
   ·simp only at h1;rw[if_neg (by omega),if_neg (by omega)];have:=h2.2.1;simp only at this;omega
   ·simp only at h1 h2;rw[if_pos h1];have:=qbe 13 n.toNat (by omega);omega
   ·exact absurd h1 hk
   ·simp only at h1;rw[if_neg (by omega),if_neg (by omega)]
    rcases h2 with h2 | h2
    ·exact (show ∀ x∈za,x.length<=4000 by decide +kernel) s h2
    ·exact (show ∀ x∈jp,x.length<=4000 by decide +kernel) s h2
   ·simp only at h1;rw[if_neg (by omega),if_neg (by omega)]
    exact (show ∀ x∈zk,x.length<=4000 by decide +kernel) s h2
  have hall:∀ t∈[(k,s,n)],qv t:=fun t ht=>by simp at ht;rw[ht];exact hm
  have hwl:qg [(k,s,n)]=putB k s n:=rfl;have hwr:wrO [(k,s,n)]=(putB k s n,0):=by unfold wrO;rw[if_pos hall,hwl,if_pos hlen]
  obtain⟨cs',h1,h2,-,h4⟩:=Zy (ts:=[(k,s,n)]) (by rw[hwr]);rw[hwr]at h1 h2 h4;rw[hw hn]at hc ⊢;obtain⟨rfl,rfl⟩:=hc.uniq h1;exact⟨h2,h4⟩
end Go.Proofs.YtfpoelklhekfaaaGreatDoor.Mu
namespace Go.Proofs.YtfpoelklhekfaaaGreatDoor.Mu
set_option maxHeartbeats 4000000
open Go.RowKit Go.Shelf
set_option maxRecDepth 100000
def Tbl(w:World):Prop:=Lib.TabIs Tryz.prog w "internal/strconv.uint64pow10" .u64 Lib.pow10Tab/\Lib.Utf8Tabs 2 3 w
theorem gPow:Tryz.prog.globalNamed "internal/strconv.uint64pow10" = some 4:=by kernel_rfl
theorem Tbl.bel{w w':World}(h:Tbl w)(hb:Bel w w'):Tbl w':=⟨Joins.tab_stays gPow h.1 hb (Nat.le_refl _),Utf8Tabs_below h.2 hb⟩
theorem qeH(w:World)(k:Nat)(os:Array Obj):Bel w (Go.Sort.grow (w.drewN k) os):=
 ⟨rfl,rfl,rfl,by rw[Go.Sort.size_grow];exact Nat.le_add_right _ _,fun i hi=>Go.Sort.heap_grow_old (w.drewN k) os hi⟩
theorem qet(s:List UInt8)(hs:s.length<=9223372036854775807)(w:World)(ht:Tbl w):Calls Tryz.prog 60 #[.string ⟨s.toArray⟩] w fun e w'=>e=.returned (.bool (Lib.validD s))/\Bel w w':=
 Tryz.utf8_ValidString ⟨s.toArray⟩ w (by simpa [ByteArray.size] using hs) ht.2
def wriB(k:Int)(s:List UInt8)(n:Int):List UInt8:=if k=3 then Lib.itoa n else if k=4 then 34::(s.flatMap escB++[34]) else s
theorem jY(k:Int)(s:List UInt8)(n a l c:Int)(k4:k≠4)(h0:-9223372036854775808<=n)(h1:n<=9223372036854775807)(w:World)(htab:Tbl w) :
  Calls Tryz.prog 28 #[.agg #[.int .u8 k,.string ⟨s.toArray⟩,n,a,l,c]] w fun e w'=>e=.returned (.string ⟨(wriB k s n).toArray⟩)/\Bel w w':=by
 have hb1:Bel w (w.alloc (.cells #[.int .u8 k,.string ⟨s.toArray⟩,n,a,l,c] 37)):=(Bel.refl w).alloc _;have HF:Hid (∀ W,Bel w W->Calls Tryz.prog 62 #[.int .i64 n,.int .i64 10] W fun e w'=>e=.returned (.string ⟨(Lib.itoa n).toArray⟩)/\Bel W w'):=hid fun W hW=>by
  refine (Tryz.strconv_FormatInt_10 n h0 h1 W (htab.bel hW).1).mono fun e w' h=>⟨h.1,?_⟩
  obtain⟨k,os,rfl⟩:=h.2;exact qeH _ _ _
 have HB1:=hid hb1;clear htab hb1;obtain⟨ans,hans⟩:∃ ans,ans=wriB k s n:=⟨_,rfl⟩
 rw[<- hans];have HANS:=hid hans;clear hans;go_enter Tryz.func28,Tryz.ntmps28
 by_cases k3:k=3
 ·have ha:ans=Lib.itoa n:=by rw[HANS.out,wriB,if_pos k3]
  subst ha k3;go_wp2_with (go_at_call 62;refine (HF.out _ HB1.out).mono ?_;rintro e w2 ⟨rfl,hb2⟩;(have HB2:=hid hb2);clear hb2)
  go_ret
  exact⟨rfl,HB1.out.on HB2.out⟩
 have d3:(k==3)=false:=by simp[k3]
 have d4:(k==4)=false:=by simp[k4]
 have ha:ans=s:=by rw[HANS.out,wriB,if_neg k3,if_neg k4]
 subst ha;go_wp2
 go_ret
 exact⟨rfl,HB1.out⟩
end Go.Proofs.YtfpoelklhekfaaaGreatDoor.Mu
