import Derived.Laws.RangeString
import Derived.Deep.LoopGhost
import Derived.Deep.DeepCutAuto
import Derived.Deep.WholeRow
import Derived.Lib.ConvBytes
import Derived.Test.YtfpoelklhekfaaaGreatDoorQad
open Go.Lib (hid)
namespace Go.Proofs.YtfpoelklhekfaaaGreatDoor.Mu
open Go.RowKit Go.Shelf
set_option maxRecDepth 100000
structure Kr (g:Nat) (w w':World):Prop where
 os:w'.os=w.os
 tape:w'.tape=w.tape
 output:w'.output=w.output
 size:w.heap.size<=w'.heap.size
 block:∀ i,i<w.heap.size->i≠g->w'.heap[i]?=w.heap[i]?
section
variable {g : Nat} {a b c : World}
theorem Kr.refl(g:Nat)(w:World):Kr g w w:=⟨rfl,rfl,rfl,Nat.le_refl _,fun _ _ _=>rfl⟩
theorem Kr.of_bel(h:Bel a b):Kr g a b:=⟨h.os,h.tape,h.output,h.size,fun i hi _=>h.block i hi⟩
theorem Kr.on(h:Kr g a b)(k:Kr g b c):Kr g a c:=
 ⟨k.os.trans h.os,k.tape.trans h.tape,k.output.trans h.output,Nat.le_trans h.size k.size,fun i hi hn=>(k.block i (Nat.lt_of_lt_of_le hi h.size) hn).trans (h.block i hi hn)⟩
theorem Kr.bel(h:Kr g a b)(k:Bel b c):Kr g a c:=h.on (.of_bel k)
theorem Kr.set_(h:Kr g a b)(o:Nat)(v:Value):Kr g a (b.setCell ⟨g,o,none⟩ v):=by
 have k:Below g b (b.setCell ⟨g,o,none⟩ v):=Below.setCell (p:=⟨g,o,none⟩) (Below.refl _ _) (Nat.le_refl _) v;refine⟨k.os.trans h.os,k.tape.trans h.tape,k.output.trans h.output,by simpa using h.size,fun i hi hn=>?_⟩;rw[Below.heap_setCell _ _ _ _ (by show i≠g;exact hn)];exact h.block i hi hn
theorem Kr.keep(h:Kr g a b){i:Nat}{o:Obj}(hi:a.heap[i]?=some o)(hn:i≠g):b.heap[i]?=some o:=by
 rw[h.block i (Array.getElem?_eq_some_iff.1 hi).1 hn];exact hi
theorem Kr.below(h:Kr g a b)(hg:g<=a.heap.size):Below g a b:=⟨h.os,h.tape,h.output,h.size,fun i hi=>h.block i (by omega) (by omega)⟩
theorem Kr.own(h:Kr g a b)(hg:a.heap.size<=g):Bel a b:=⟨h.os,h.tape,h.output,h.size,fun i hi=>h.block i hi (by omega)⟩
theorem Kr.weak{w:World}(h:Bel w a)(k:Kr g a b)(hg:w.heap.size<=g):Bel w b:=
 ⟨k.os.trans h.os,k.tape.trans h.tape,k.output.trans h.output,Nat.le_trans h.size k.size,fun i hi=>(k.block i (by have:=h.size;omega) (by omega)).trans (h.block i hi)⟩
end
structure Rdr (w:World) (g:Nat) (A:Option Addr) (n c:Nat) (xs:List Pn) (i:Nat):Prop where
 hp:w.heap[g]?=some (.cells #[.slice A n c,i] 75 (0,0))
 rp:RP w g A n xs
 le:i<=n
 small:n<=4000
section
variable {w w' : World} {g : Nat} {A : Option Addr} {n c : Nat} {xs : List Pn} {i : Nat}
theorem Rdr.bel(h:Rdr w g A n c xs i)(hb:Bel w w'):Rdr w' g A n c xs i:=
 ⟨hb.blk h.hp,h.rp.keep fun b o hbb=>hb.cell (p:=⟨b,o,none⟩) (Nat.lt_trans hbb (Array.getElem?_eq_some_iff.1 h.hp).1),h.le,h.small⟩
theorem Rdr.lt(h:Rdr w g A n c xs i):g<w.heap.size:=(Array.getElem?_eq_some_iff.1 h.hp).1
theorem Rdr.set_(h:Rdr w g A n c xs i){k:Nat}(hk:k<=n):Rdr (w.setCell ⟨g,1,none⟩ (.int .i64 k)) g A n c xs k:=
 ⟨by simp[World.setCell,Array.getElem?_modify,h.hp],h.rp.keep fun b o hb=>World.cell?_of_block (a:=⟨b,o,none⟩) (Below.heap_setCell _ _ _ _ (by show b≠g;omega)),hk,h.small⟩
theorem Rdr.len(h:Rdr w g A n c xs i):n=xs.length:=h.rp.len
theorem Rdr.cells(h:Rdr w g A n c xs i):w.cell? ⟨g,0,none⟩=some (.slice A n c)/\w.cell? ⟨g,1,none⟩=some (.int .i64 i)/\w.frozen? ⟨g,0,none⟩=false/\w.frozen? ⟨g,1,none⟩=false:=by
 simp[World.cell?,World.frozen?,h.hp]
theorem Rdr.at_(h:Rdr w g A n c xs i)(hi:i<n):∃ b off x,A=some ⟨b,off,none⟩/\xs[i]?=some x/\w.cell? ⟨b,off+i*4,none⟩=some (.int .i32 x.r)/\w.cell? ⟨b,off+i*4+1,none⟩=some (.int .i64 x.p.a)/\w.cell? ⟨b,off+i*4+2,none⟩=some (.int .i64 x.p.l)/\w.cell? ⟨b,off+i*4+3,none⟩=some (.int .i64 x.p.c):=by
 obtain⟨b,off,rfl,hb,hc⟩:=h.rp.at_ (by omega);obtain⟨x,hx⟩:∃ x,xs[i]?=some x:=⟨_,List.getElem?_eq_getElem (by have:=h.len;omega)⟩
 exact⟨b,off,x,rfl,hx,hc i x hx⟩
end
def kdN(c:Int):Int:=if isBl c=true then 1 else if qt c=true then 2 else if isSm c=true then 3 else if isGr c=true then 4 else if c=95∨c=39 then 5 else if c=34 then 6 else 0
def kdL:List Int->Int
 | []=>1
 | c::_=>kdN c
def iwK(k:Int):Bool:=decide (k=2∨k=3∨k=4∨k=5)
theorem qiy(c:Int):iwK (kdN c)=isW c:=by
 unfold iwK kdN isW isBl qt isSm isGr;rw[Bool.eq_iff_iff];simp only[decide_eq_true_eq,Bool.or_eq_true];repeat' split
 all_goals omega
theorem qbZ(c:Int)(w:World):Calls Tryz.prog 97 #[.int .i32 c] w fun e w'=>e=.returned (.int .u8 (kdN c))/\w=w':=by
 go_enter Tryz.func97,Tryz.ntmps97
 go_wp2
 all_goals (go_ret;refine⟨qg9 ?_,rfl⟩;unfold kdN isBl qt isSm isGr;simp only[Bool.or_eq_true,decide_eq_true_eq];repeat' split;all_goals (simp_all;try omega))
theorem qe9(k:Int)(w:World):Calls Tryz.prog 130 #[.int .u8 k] w fun e w'=>e=.returned (.bool (iwK k))/\w=w':=by
 go_enter Tryz.func130,Tryz.ntmps130
 go_wp2
 all_goals (go_ret;refine⟨Jk ?_,rfl⟩;unfold iwK;rw[Bool.eq_iff_iff];simp_all;try omega)
theorem QC{g:Nat}{A:Option Addr}{n c:Nat}{xs:List Pn}{i:Nat}(w:World)(h:Rdr w g A n c xs i):Calls Tryz.prog 22 #[.pointer (some ⟨g,0,none⟩)] w fun e w'=>e=.returned (.bool (decide (i<n)))/\Bel w w':=by
 obtain⟨c0,c1,f0,f1⟩:=h.cells;have hs:=h.small;have hl:=h.le;clear h;go_enter Tryz.func22,Tryz.ntmps22
 go_wp2
 all_goals go_region
 all_goals
  go_wp2
  all_goals (go_ret;exact⟨Jk (by simp),(Bel.refl w).drew⟩)
theorem Qz{g:Nat}{A:Option Addr}{n c:Nat}{xs:List Pn}{i:Nat}(w:World)(h:Rdr w g A n c xs i):Calls Tryz.prog 53 #[.pointer (some ⟨g,0,none⟩)] w fun e w'=>e=.returned (.int .u8 (kdL ((xs.map Pn.r).drop i)))/\Bel w w':=by
 have HC:Hid (∀ w,Rdr w g A n c xs i->Calls Tryz.prog 22 #[.pointer (some ⟨g,0,none⟩)] w fun e w'=>e=.returned (.bool (decide (i<n)))/\Bel w w'):=hid fun w h=>QC w h;have H:=hid h;have hln:=h.len;have hle:=h.le;have hsm:=h.small;clear h;by_cases hlt:i<n
 ·obtain⟨x,hx⟩:∃ x,xs[i]?=some x:=⟨_,List.getElem?_eq_getElem (by omega)⟩
  have hk:kdL ((xs.map Pn.r).drop i)=kdN x.r:=by
   have e:(xs.map Pn.r)[i]?=some x.r:=by simp[hx]
   obtain⟨hl,e2⟩:=List.getElem?_eq_some_iff.1 e;rw[List.drop_eq_getElem_cons hl,e2];rfl
  have HX:=hid hx;rw[hk];obtain⟨kk,hkk⟩:∃ kk,kk=kdN x.r:=⟨_,rfl⟩
  have HO:Hid (∀ w,Calls Tryz.prog 97 #[.int .i32 x.r] w fun e w'=>e=.returned (.int .u8 kk)/\w=w'):=hid fun w=>by rw[hkk];exact qbZ _ w
  rw[<- hkk];clear hk hx hkk;go_enter Tryz.func53,Tryz.ntmps53
  go_wp2_with fail
  refine (HC.out _ H.out).mono ?_;rintro e w1 ⟨rfl,hb⟩;rw[decide_eq_true hlt];have HD:=hid (H.out.bel hb);have HB:=hid hb;clear hb;obtain⟨c0,c1,f0,f1⟩:=HD.out.cells;obtain⟨b,off,y,rfl,hy,c2,-,-,-⟩:=HD.out.at_ hlt;obtain rfl:y=x:=Option.some.inj (hy.symm.trans HX.out);go_wp2_with fail
  go_region_with (go_at_call 97;refine (HO.out _).mono ?_;rintro e w2 ⟨rfl,rfl⟩)
  all_goals
   go_wp2
   go_ret
   exact⟨rfl,HB.out.drew⟩
 ·have hk:kdL ((xs.map Pn.r).drop i)=1:=by rw[List.drop_eq_nil_of_le (by rw[List.length_map];omega)];rfl
  rw[hk];clear hk;go_enter Tryz.func53,Tryz.ntmps53
  go_wp2_with fail
  refine (HC.out _ H.out).mono ?_;rintro e w1 ⟨rfl,hb⟩;rw[decide_eq_false hlt];have HB:=hid hb;clear hb;go_wp2
  go_ret
  exact⟨rfl,HB.out⟩
theorem jZ{g:Nat}{A:Option Addr}{n c:Nat}{xs:List Pn}{i:Nat}(ee:Int){k:Nat}{x:Pn}(hx:xs[k]?=some x)(w:World)(h:Rdr w g A n c xs i):Calls Tryz.prog 98 #[.pointer (some ⟨g,0,none⟩),ee,k] w fun e w'=>e=.returned (.tuple #[.agg #[.int .u8 0,.string ⟨#[]⟩,(0:Int),(0:Int),(0:Int),(0:Int)],.agg #[.int .i64 ee,x.p.a,x.p.l,x.p.c]])/\Bel w w':=by
 have hk:k<n:=by
  rw[h.len];exact (List.getElem?_eq_some_iff.1 hx).1
 obtain⟨c0,c1,f0,f1⟩:=h.cells;obtain⟨b,off,rfl,hb,hcc⟩:=h.rp.at_ (by omega);obtain⟨-,a1,a2,a3⟩:=hcc k x hx;have hsm:=h.small;have hlt:=h.lt;have hle:=h.le;have hbl:b<w.heap.size:=by omega
 clear h hcc hx;go_enter Tryz.func98,Tryz.ntmps98
 go_wp2
 all_goals go_region
 all_goals
  go_wp2
  refine bodyPost_ret (v:= .tuple #[.agg #[.int .u8 0,.string ⟨#[]⟩,(0:Int),(0:Int),(0:Int),(0:Int)],.agg #[.int .i64 ee,x.p.a,x.p.l,x.p.c]]) ?_ rfl ⟨rfl,?_⟩
  ·simp[results,Tryz.results98,go_sem, *]
  ·repeat (first | exact Bel.refl _ | with_reducible refine Bel.set_ ?_ (by simp) _ | with_reducible refine Bel.alloc ?_ _ | with_reducible refine Bel.drew ?_)
set_option maxHeartbeats 4000000
theorem qff{p l:List Int}{j:Nat}{x y:Int}(hx:p[j]?=some x)(hy:l[j]?=some y)(h:p.take j=l.take j):(p.take (j+1)=l.take (j+1)↔x=y):=by
 obtain⟨h1,rfl⟩:=List.getElem?_eq_some_iff.1 hx;obtain⟨h2,rfl⟩:=List.getElem?_eq_some_iff.1 hy;rw[List.take_succ_eq_append_getElem h1,List.take_succ_eq_append_getElem h2,h];exact⟨fun e=>by have:=List.append_cancel_left e;simpa using this,fun e=>by rw[e]⟩
theorem qan(p l:List Int):p.isPrefixOf l=decide (p.length<=l.length/\p.take p.length=l.take p.length):=by
 rw[Bool.eq_iff_iff,List.isPrefixOf_iff_prefix,List.prefix_iff_eq_take,decide_eq_true_iff,List.take_length];constructor
 ·intro h
  refine⟨?_,h⟩;have:=congrArg List.length h;rw[List.length_take]at this;omega
 ·exact fun h=>h.2
theorem qh9{p l:List Int}{j:Nat}(hj:j<=p.length)(h:p.take j≠l.take j):p.isPrefixOf l=false:=by
 rw[qan,decide_eq_false_iff_not];rintro⟨_,h2⟩;apply h;have:=congrArg (List.take j) h2;rwa [List.take_take,List.take_take,Nat.min_eq_left hj]at this
theorem qo{L:List Int}{k:Nat}{r:Int}(h:L[k]?=some r):L.drop k=r::L.drop (k+1):=by
 obtain⟨hl,rfl⟩:=List.getElem?_eq_some_iff.1 h;exact List.drop_eq_getElem_cons hl
theorem pre1(a:Int)(L:List Int)(k:Nat):[a].isPrefixOf (L.drop k)=decide (L[k]?=some a):=by
 cases e:L[k]? with
 | none=>
  have:L.drop k=[]:=List.drop_eq_nil_of_le (by simpa using e);rw[this];simp
 | some x=>
  rw[qo e];by_cases hx:x=a
  ·subst hx;simp
  ·have h1:(a==x)=false:=by simpa using fun h:a=x=>hx h.symm
   show ((a==x)&&[].isPrefixOf _)=_
   rw[h1];simp[hx]
theorem pre2(a b:Int)(L:List Int)(k:Nat):[a,b].isPrefixOf (L.drop k)=decide (L[k]?=some a/\L[k+1]?=some b):=by
 cases e:L[k]? with
 | none=>
  have:L.drop k=[]:=List.drop_eq_nil_of_le (by simpa using e);rw[this];simp
 | some x=>
  have h:=pre1 b L (k+1);rw[qo e];rw[show [a,b].isPrefixOf (x::L.drop (k+1))=((a==x)&&[b].isPrefixOf (L.drop (k+1))) by rfl,h];by_cases hx:x=a
  ·subst hx;simp
  ·have h1:(a==x)=false:=by simpa using fun h:a=x=>hx h.symm
   rw[h1];simp[hx]
theorem Zx{g:Nat}{A:Option Addr}{n c:Nat}{xs:List Pn}{i:Nat}(s:List UInt8)(hs:∀ u∈s,u.toNat<128)(hsz:s.length<=100)(w:World)(h:Rdr w g A n c xs i) :
  Calls Tryz.prog 54 #[.pointer (some ⟨g,0,none⟩),.string ⟨s.toArray⟩] w fun e w'=>e=.returned (.bool ((asc s).isPrefixOf ((xs.map Pn.r).drop i)))/\Bel w w':=by
 obtain⟨c0,c1,f0,f1⟩:=h.cells;have hsm:=h.small;have hle:=h.le;have H:=hid h;have HS:=hid hs;have hz:(⟨s.toArray⟩:ByteArray).size=s.length:=by simp[ByteArray.size]
 have HZ:=hid hz;have hL:((xs.map Pn.r).drop i).length=n-i:=by rw[List.length_drop,List.length_map,<- h.len]
 have HL:=hid hL;have ha:(asc s).length=s.length:=ZV s;have HA:=hid ha;clear h hs hz hL ha;obtain⟨ans,hans⟩:∃ ans,ans=(asc s).isPrefixOf ((xs.map Pn.r).drop i):=⟨_,rfl⟩
 rw[<- hans];have HANS:=hid hans;clear hans;go_enter Tryz.func54,Tryz.ntmps54
 go_wp2
 all_goals go_region
 by_cases hlong:(n:Int)-i<(s.length:Int)
 ·have hno:ans=false:=by
   rw[HANS.out,qan,decide_eq_false_iff_not];rintro⟨h1,_⟩;rw[HL.out,HA.out]at h1;omega
  subst hno;go_wp2
  go_ret
  exact⟨rfl,(Bel.refl w).drew⟩
 ·have hlong2:i+s.length<=n:=by omega
  go_wp2
  go_loopg [] (s.length+1) (fun gk wr=>∃ pos:Nat,Hid (pos<=s.length/\s.length-pos<gk)/\Hid (Bel w wr)/\Hid (wr.heap[w.heap.size]?=some (.stringIter ⟨s.toArray⟩ pos))/\Hid ((asc s).take pos=((xs.map Pn.r).drop i).take pos))
  case atStart=>
   exact⟨0,hid ⟨by omega,by omega⟩,hid ((Bel.refl w).drew.alloc _),hid (by have:=World.iter_heap w.drew ⟨s.toArray⟩ 0;simpa using this),hid (by simp)⟩
  case round=>
   obtain⟨pos,HP,HB,HI,HT⟩:=hrel;by_cases hp:pos<s.length
   ·have hasc:(s[pos]'hp).toNat<128:=HS.out _ (List.getElem_mem hp)
    obtain⟨u,hu⟩:∃ u,u=(s[pos]'hp):=⟨_,rfl⟩
    have hu2:((⟨s.toArray⟩:ByteArray)[pos]'(by rw[HZ.out];exact hp))=u:=by rw[hu];show (s.toArray[pos]'_)=_;simp
    have hnx:∀ ty,(Instr.next (.pointer (some ⟨w.heap.size,0,none⟩)) true ty).run Tryz.prog wr=_:=fun ty=>Lib.run_next_ascii_at wr w.heap.size ⟨s.toArray⟩ pos ty HI.out (by rw[HZ.out];exact hp) (by rw[hu2,hu];exact hasc);rw[hu2]at hnx;obtain⟨w2,hw2⟩:∃ w2,w2=wr.iterAt w.heap.size ⟨s.toArray⟩ (pos+1):=⟨_,rfl⟩
    rw[<- hw2]at hnx;have hI2:w2.heap[w.heap.size]?=some (.stringIter ⟨s.toArray⟩ (pos+1)):=by rw[hw2];exact Lib.iterAt_heap wr _ _ _ _ HI.out
    have hB2:Bel w w2:=by
     rw[hw2];exact⟨HB.out.os,HB.out.tape,HB.out.output,by simpa [World.iterAt] using HB.out.size,fun k hk=>by rw[<- HB.out.block k hk];simp[World.iterAt,Array.getElem?_setIfInBounds];omega⟩
    have HI2:=hid hI2;have HB2:=hid hB2;have HU:=hid hu;have HD:=hid (H.out.bel hB2);clear hI2 hB2 hw2 hu2 hu hasc;obtain⟨e0,e1,g0,g1⟩:=HD.out.cells;obtain⟨b,off,rfl,hb,hcc⟩:=HD.out.rp.at_ (by omega);obtain⟨y,hy⟩:∃ y,xs[i+pos]?=some y:=⟨_,List.getElem?_eq_getElem (by have:=HD.out.len;omega)⟩
    obtain⟨a0,-,-,-⟩:=hcc (i+pos) y hy;have HY:=hid hy;clear hcc hy;have ha2:(asc s)[pos]?=some (u.toNat:Int):=by
     rw[asc,List.getElem?_map,List.getElem?_eq_getElem hp,HU.out];rfl
    have hl2:((xs.map Pn.r).drop i)[pos]?=some y.r:=by rw[List.getElem?_drop,List.getElem?_map,HY.out];rfl
    have HST:=hid (qff ha2 hl2 HT.out);clear ha2 hl2;go_wp2
    all_goals go_region
    by_cases hyu:y.r=(u.toNat:Int)
    ·have hst:=HST.out.2 hyu.symm
     have HST2:=hid hst;clear hst;go_wp2
     have hgp:=HP.out;go_roundg (gk-1)
     case rel=>exact⟨pos+1,hid ⟨by omega,by omega⟩,hid HB2.out.drew,hid HI2.out,HST2⟩
     case measure=>omega
    ·have hno:ans=false:=by
      rw[HANS.out];refine qh9 (j:=pos+1) (by rw[HA.out];omega) fun h=>hyu (HST.out.1 h).symm
     subst hno;go_wp2
     go_ret
     exact⟨rfl,HB2.out.drew⟩
   ·obtain rfl:pos=s.length:=by have:=HP.out;omega
    have hnx:∀ ty,(Instr.next (.pointer (some ⟨w.heap.size,0,none⟩)) true ty).run Tryz.prog wr=_:=fun ty=>Lib.run_next_end_at wr w.heap.size ⟨s.toArray⟩ s.length ty HI.out (by rw[HZ.out];omega);have hyes:ans=true:=by
     rw[HANS.out,qan,decide_eq_true_iff,HL.out,HA.out];exact⟨by omega,HT.out⟩
    subst hyes;go_wp2
    go_ret
    exact⟨rfl,HB.out⟩
theorem Jb{x:Int}{L:List Int}{k:Nat}(h:L[k]?=some x):kdL (L.drop k)=kdN x:=by rw[qo h];rfl
theorem qh2(x:Int):(kdN x=1)↔isBl x=true:=by
 unfold kdN;constructor
 ·intro h
  by_cases hb:isBl x=true
  ·exact hb
  ·rw[if_neg hb]at h
   repeat' split at h
   all_goals (exact absurd h (by decide))
 ·intro h;rw[if_pos h]
theorem qeN{p:Int->Bool}{x:Int}{l:List Int}(h:p x=false):(x::l).dropWhile p=x::l:=by rw[List.dropWhile_cons,if_neg (by simp[h])]
theorem JE{p:Int->Bool}{x:Int}{l:List Int}(h:p x=true):(x::l).dropWhile p=l.dropWhile p:=by rw[List.dropWhile_cons,if_pos h]
theorem qbt{L:List Int}{k:Nat}(h1:L[k]?=some 45)(h2:L[k+1]?=some 45):qh (L.drop k)=qh ((L.drop k).dropWhile fun x=>decide (x≠10)):=by
 rw[qo h1,qo h2,JV,JE (p:=fun x=>decide (x≠10)) (x:=45) (l:=45::_) (by decide)]
theorem qd4{L:List Int}{k:Nat}{x:Int}(h1:L[k]?=some x)(hb:isBl x=false)(h2:¬ (x=45/\L[k+1]?=some 45)):qh (L.drop k)=L.drop k:=by
 rw[qo h1,jh hb (by rw[List.head?_drop];exact h2)]
theorem qfv{g:Nat}{A:Option Addr}{n c:Nat}{xs:List Pn}{i:Nat}(w:World)(h:Rdr w g A n c xs i) :
  Calls Tryz.prog 21 #[.pointer (some ⟨g,0,none⟩)] w fun e w'=>e=.returned (.tuple #[])/\∃ k,i<=k/\Rdr w' g A n c xs k/\qh ((xs.map Pn.r).drop i)=(xs.map Pn.r).drop k/\Kr g w w':=by
 obtain⟨L,hL⟩:∃ L,L=xs.map Pn.r:=⟨_,rfl⟩
 have HM:Hid (∀ (w:World) (k:Nat),Rdr w g A n c xs k->Calls Tryz.prog 22 #[.pointer (some ⟨g,0,none⟩)] w fun e w'=>e=.returned (.bool (decide (k<n)))/\Bel w w'):=hid fun w k hk=>QC w hk;have HK:Hid (∀ (w:World) (k:Nat),Rdr w g A n c xs k->Calls Tryz.prog 53 #[.pointer (some ⟨g,0,none⟩)] w fun e w'=>e=.returned (.int .u8 (kdL (L.drop k)))/\Bel w w'):=hid fun w k hk=>by rw[hL];exact Qz w hk
 have HR:Hid (∀ (w:World) (k:Nat),Rdr w g A n c xs k->Calls Tryz.prog 54 #[.pointer (some ⟨g,0,none⟩),.string ⟨#[45,45]⟩] w fun e w'=>e=.returned (.bool (decide (L[k]?=some 45/\L[k+1]?=some 45)))/\Bel w w'):=hid fun w k hk=>by
  have:=Zx [45,45] (by decide) (by decide) w hk;rw[<- hL,show asc [45,45]=[45,45] by rfl,pre2]at this;exact this
 have HN:Hid (∀ (w:World) (k:Nat),Rdr w g A n c xs k->Calls Tryz.prog 54 #[.pointer (some ⟨g,0,none⟩),.string ⟨#[10]⟩] w fun e w'=>e=.returned (.bool (decide (L[k]?=some 10)))/\Bel w w'):=hid fun w k hk=>by
  have:=Zx [10] (by decide) (by decide) w hk;rw[<- hL,show asc [10]=[10] by rfl,pre1]at this;exact this
 have hln:L.length=n:=by rw[hL,List.length_map,<- h.len]
 have HLN:=hid hln;have hsm:=h.small;have hle:=h.le;rw[<- hL];have H:=hid h;have HL:=hid hL;clear h hL hln;go_enter Tryz.func21,Tryz.ntmps21
 go_wp2
 go_loopg [] (n+1) (fun gk wr=>∃ k:Nat,Hid (i<=k/\k<=n/\n-k<gk)/\Hid (Rdr wr g A n c xs k)/\Hid (qh (L.drop i)=qh (L.drop k))/\Hid (Kr g w wr))
 case atStart=>exact⟨i,hid ⟨Nat.le_refl _,hle,by omega⟩,H,hid rfl,hid (Kr.refl g w)⟩
 case round=>
  obtain⟨k,HB,HD,HS,HKr⟩:=hrel;obtain⟨gok,hgok⟩:∃ x,x=gk:=⟨_,rfl⟩
  subst hgok;by_cases hlt:k<n
  ·have hm:∀ w',Rdr w' g A n c xs k->Calls Tryz.prog 22 #[.pointer (some ⟨g,0,none⟩)] w' fun e w2=>e=.returned (.bool true)/\Bel w' w2:=fun w' hd=>by have:=HM.out w' k hd;rwa [decide_eq_true hlt]at this
   have HMT:=hid hm;obtain⟨x,hx⟩:∃ x,L[k]?=some x:=⟨_,List.getElem?_eq_getElem (by rw[HLN.out];exact hlt)⟩
   have HX:=hid hx;have hk:∀ w',Rdr w' g A n c xs k->Calls Tryz.prog 53 #[.pointer (some ⟨g,0,none⟩)] w' fun e w2=>e=.returned (.int .u8 (kdN x))/\Bel w' w2:=fun w' hd=>by have:=HK.out w' k hd;rwa [Jb hx]at this
   have HKX:=hid hk;clear hm hx hk;go_wp2_with fail
   refine (HMT.out _ HD.out).mono ?_;rintro e w1 ⟨rfl,hb⟩;have HD1:=hid (HD.out.bel hb);have HK1:=hid (HKr.out.bel hb);clear hb;go_wp2_with fail
   refine (HKX.out _ HD1.out).mono ?_;rintro e w2 ⟨rfl,hb⟩;have HD2:=hid (HD1.out.bel hb);have HK2:=hid (HK1.out.bel hb);clear hb;by_cases hbl:isBl x=true
   ·rw[(qh2 x).2 hbl]
    obtain⟨c0,c1,f0,f1⟩:=HD2.out.cells;go_wp2
    have hss:qh (L.drop i)=qh (L.drop (k+1)):=by rw[HS.out,qo HX.out,QH hbl]
    have HSS:=hid hss;clear hss;have hbb:=HB.out;go_roundg (gok-1)
    case rel=>exact⟨k+1,hid ⟨by omega,by omega,by omega⟩,hid (HD2.out.set_ (k:=k+1) (by omega)),HSS,hid (HK2.out.set_ _ _)⟩
    case measure=>omega
   ·have hnk:kdN x≠1:=fun e=>hbl ((qh2 x).1 e)
    by_cases hrm:L[k]?=some 45/\L[k+1]?=some 45
    ·have hr:∀ w',Rdr w' g A n c xs k->Calls Tryz.prog 54 #[.pointer (some ⟨g,0,none⟩),.string ⟨#[45,45]⟩] w' fun e w2=>e=.returned (.bool true)/\Bel w' w2:=fun w' hd=>by have:=HR.out w' k hd;rwa [decide_eq_true hrm]at this
     have HRT:=hid hr;have HRM:=hid hrm;clear hr hrm;go_wp2_with fail
     refine (HRT.out _ HD2.out).mono ?_;rintro e w3 ⟨rfl,hb⟩;have HD3:=hid (HD2.out.bel hb);have HK3:=hid (HK2.out.bel hb);clear hb;go_wp2_with fail
     go_loopg [] (n+1) (fun gj wr=>∃ j:Nat,Hid (k<=j/\j<=n/\n-j<gj)/\Hid (Rdr wr g A n c xs j)/\Hid ((L.drop k).dropWhile (fun x=>decide (x≠10))=(L.drop j).dropWhile (fun x=>decide (x≠10)))/\Hid (Kr g w wr)/\Hid (j=k->L[k]?=some 45))
     case atStart=>exact⟨k,hid ⟨Nat.le_refl _,by omega,by omega⟩,HD3,hid rfl,HK3,hid fun _=>HRM.out.1⟩
     case round=>
      obtain⟨j,HJ,HE,HW,HKj,H45⟩:=hrel;by_cases hjn:j<n
      ·have hm:∀ w',Rdr w' g A n c xs j->Calls Tryz.prog 22 #[.pointer (some ⟨g,0,none⟩)] w' fun e w2=>e=.returned (.bool true)/\Bel w' w2:=fun w' hd=>by have:=HM.out w' j hd;rwa [decide_eq_true hjn]at this
       have HMJ:=hid hm;obtain⟨y,hy⟩:∃ y,L[j]?=some y:=⟨_,List.getElem?_eq_getElem (by rw[HLN.out];exact hjn)⟩
       have HY:=hid hy;clear hm hy;go_wp2_with fail
       refine (HMJ.out _ HE.out).mono ?_;rintro e w4 ⟨rfl,hb⟩;have HE1:=hid (HE.out.bel hb);have HKj1:=hid (HKj.out.bel hb);clear hb;by_cases hy10:y=10
       ·have hn:∀ w',Rdr w' g A n c xs j->Calls Tryz.prog 54 #[.pointer (some ⟨g,0,none⟩),.string ⟨#[10]⟩] w' fun e w2=>e=.returned (.bool true)/\Bel w' w2:=fun w' hd=>by have:=HN.out w' j hd;rwa [HY.out,hy10,decide_eq_true rfl]at this
        have HNJ:=hid hn;clear hn;go_wp2_with fail
        refine (HNJ.out _ HE1.out).mono ?_;rintro e w5 ⟨rfl,hb⟩;have HE2:=hid (HE1.out.bel hb);have HKj2:=hid (HKj1.out.bel hb);clear hb;have hnk2:j≠k:=fun e=>by have:=H45.out e;rw[<- e,HY.out,hy10]at this;exact absurd this (by decide)
        have hss:qh (L.drop i)=qh (L.drop j):=by
         rw[HS.out,qbt HRM.out.1 HRM.out.2,HW.out,qo HY.out,hy10,qeN (by decide)]
        have HSS:=hid hss;clear hss;go_wp2
        have hbb:=HB.out;have hjj:=HJ.out;go_roundg (gok-1)
        case rel=>exact⟨j,hid ⟨by omega,by omega,by omega⟩,HE2,HSS,HKj2⟩
        case measure=>omega
       ·have hn:∀ w',Rdr w' g A n c xs j->Calls Tryz.prog 54 #[.pointer (some ⟨g,0,none⟩),.string ⟨#[10]⟩] w' fun e w2=>e=.returned (.bool false)/\Bel w' w2:=fun w' hd=>by have:=HN.out w' j hd;rwa [HY.out,decide_eq_false (by simpa using hy10)]at this
        have HNJ:=hid hn;clear hn;go_wp2_with fail
        refine (HNJ.out _ HE1.out).mono ?_;rintro e w5 ⟨rfl,hb⟩;have HE2:=hid (HE1.out.bel hb);have HKj2:=hid (HKj1.out.bel hb);clear hb;obtain⟨c0,c1,f0,f1⟩:=HE2.out.cells;have hww:(L.drop k).dropWhile (fun x=>decide (x≠10))=(L.drop (j+1)).dropWhile (fun x=>decide (x≠10)):=by
         rw[HW.out,qo HY.out,JE (by simpa using hy10)]
        have HWW:=hid hww;clear hww;go_wp2
        have hjj:=HJ.out;go_roundg (gk-1)
        case rel=>exact⟨j+1,hid ⟨by omega,by omega,by omega⟩,hid (HE2.out.set_ (k:=j+1) (by omega)),HWW,hid (HKj2.out.set_ _ _),hid fun e=>by omega⟩
        case measure=>omega
      ·have hjn2:j=n:=by have:=HJ.out;omega
       subst hjn2;have hm:∀ w',Rdr w' g A j c xs j->Calls Tryz.prog 22 #[.pointer (some ⟨g,0,none⟩)] w' fun e w2=>e=.returned (.bool false)/\Bel w' w2:=fun w' hd=>by have:=HM.out w' j hd;rwa [decide_eq_false hjn]at this
       have HMJ:=hid hm;clear hm;go_wp2_with fail
       refine (HMJ.out _ HE.out).mono ?_;rintro e w4 ⟨rfl,hb⟩;have HE1:=hid (HE.out.bel hb);have HKj1:=hid (HKj.out.bel hb);clear hb;have hss:qh (L.drop i)=qh (L.drop j):=by
        rw[HS.out,qbt HRM.out.1 HRM.out.2,HW.out,List.drop_eq_nil_of_le (by rw[HLN.out];exact Nat.le_refl _)];rfl
       have HSS:=hid hss;clear hss;go_wp2
       have hbb:=HB.out;have hjj:=HJ.out;go_roundg (gok-1)
       case rel=>exact⟨j,hid ⟨by omega,by omega,by omega⟩,HE1,HSS,HKj1⟩
       case measure=>omega
    ·have hr:∀ w',Rdr w' g A n c xs k->Calls Tryz.prog 54 #[.pointer (some ⟨g,0,none⟩),.string ⟨#[45,45]⟩] w' fun e w2=>e=.returned (.bool false)/\Bel w' w2:=fun w' hd=>by have:=HR.out w' k hd;rwa [decide_eq_false hrm]at this
     have HRT:=hid hr;have hst:qh (L.drop k)=L.drop k:=qd4 HX.out (by simpa using hbl) fun h=>hrm ⟨by rw[HX.out,h.1],h.2⟩;have HST:=hid hst;clear hr hrm hst;go_wp2_with fail
     refine (HRT.out _ HD2.out).mono ?_;rintro e w3 ⟨rfl,hb⟩;have HD3:=hid (HD2.out.bel hb);have HK3:=hid (HK2.out.bel hb);clear hb;go_wp2
     refine bodyPost_ret (v:= .tuple #[]) (by simp[results,Tryz.results21,go_sem]) rfl ⟨rfl,k,by have:=HB.out;omega,HD3.out,by rw[HS.out,HST.out],HK3.out⟩
  ·have hkn:k=n:=by have:=HB.out;omega
   subst hkn;have hm:∀ w',Rdr w' g A k c xs k->Calls Tryz.prog 22 #[.pointer (some ⟨g,0,none⟩)] w' fun e w2=>e=.returned (.bool false)/\Bel w' w2:=fun w' hd=>by have:=HM.out w' k hd;rwa [decide_eq_false hlt]at this
   have HMT:=hid hm;clear hm;go_wp2_with fail
   refine (HMT.out _ HD.out).mono ?_;rintro e w1 ⟨rfl,hb⟩;have HD1:=hid (HD.out.bel hb);have HK1:=hid (HKr.out.bel hb);clear hb;go_wp2
   go_end0
   refine⟨rfl,k,by have:=HB.out;omega,HD1.out,?_,HK1.out⟩;rw[HS.out,List.drop_eq_nil_of_le (by rw[HLN.out];exact Nat.le_refl _),zl]
theorem qk{w:World}{g:Nat}{t:TypeId}{x0 x1 x2 x3 x4 x5:Value}(h:w.heap[g]?=some (.cells #[x0,x1,x2,x3,x4,x5] t (0,0))) :
  (w.cell? ⟨g,0,none⟩=some x0/\w.cell? ⟨g,1,none⟩=some x1/\w.cell? ⟨g,2,none⟩=some x2/\w.cell? ⟨g,3,none⟩=some x3/\w.cell? ⟨g,4,none⟩=some x4/\w.cell? ⟨g,5,none⟩=some x5) ∧
   w.frozen? ⟨g,0,none⟩=false/\w.frozen? ⟨g,1,none⟩=false/\w.frozen? ⟨g,2,none⟩=false/\w.frozen? ⟨g,3,none⟩=false/\w.frozen? ⟨g,4,none⟩=false/\w.frozen? ⟨g,5,none⟩=false:=by
 simp[World.cell?,World.frozen?,h]
def bxT:Obj:= .cells #[.int .u8 0,.string ⟨#[]⟩,.int .i64 0,.int .i64 0,.int .i64 0,.int .i64 0] 37
def bxD:Obj:= .cells #[.int .i64 0,.int .i64 0,.int .i64 0,.int .i64 0] 32
def tkV(k:Int)(s:List UInt8)(n:Int):Value:= .tuple #[.agg #[.int .u8 k,.string ⟨s.toArray⟩,.int .i64 n,.int .i64 0,.int .i64 0,.int .i64 0],.agg #[.int .i64 0,.int .i64 0,.int .i64 0,.int .i64 0]]
def erV(e:Int)(p:Pl):Value:= .tuple #[.agg #[.int .u8 0,.string ⟨#[]⟩,.int .i64 0,.int .i64 0,.int .i64 0,.int .i64 0],.agg #[.int .i64 e,.int .i64 p.a,.int .i64 p.l,.int .i64 p.c]]
theorem Qp{A:Option Addr}{n c:Nat}{l:List Int}(k:Int)(hl:AllCp l)(hn:(encs l).length<=4000)(w:World)(h:RI .i32 w w.heap.size A n l) :
  Calls Tryz.prog 103 #[.int .u8 k,.slice A n c] w fun e w'=>e=.returned (tkV k (encs l) 0)/\Bel w w':=by
 have hn2:n<=1000000000:=by have:=h.len;have:=qD hl;omega
 have HP:Hid (∀ w,RI .i32 w w.heap.size A n l->Calls Tryz.prog 132 #[.slice A n c] w (GPut l w)):=hid fun w h=>qg3 hn2 w h;have H:=hid h;have HL:=hid hl;have HN:=hid hn;clear h hl hn;go_enter Tryz.func103,Tryz.ntmps103
 go_wp2_with fail
 have hb2:Bel w ((w.alloc bxT).alloc bxD):=((Bel.refl w).alloc _).alloc _;refine (HP.out _ (H.out.bel hb2)).mono ?_;rintro e w1 ⟨hb,rfl⟩;have hS:putS l=encs l:=by unfold putS;rw[if_pos ⟨(Qu l).2 HL.out,HN.out⟩]
 have hE:putE l=0:=by unfold putE;rw[if_pos ((Qu l).2 HL.out),if_pos HN.out]
 rw[hS,hE];clear hS hE;obtain⟨q1,q2⟩:=blk2 w bxT bxD;obtain⟨⟨c0,c1,c2,c3,c4,c5⟩,f0,f1,f2,f3,f4,f5⟩:=qk (hb.blk q1);obtain⟨d0,d1,d2,d3,g0,g1,g2,g3⟩:=qA (hb.blk q2);have HB:=hid (hb2.on hb);have hs1:w.heap.size+2<=w1.heap.size:=by have:=hb.size;simpa using this
 clear hb hb2 q1 q2;go_wp2
 refine bodyPost_ret (v:=tkV k (encs l) 0) ?_ rfl ⟨rfl,?_⟩
 ·simp[tkV,results,Tryz.results103,go_sem, *]
 ·repeat (first | with_reducible exact HB.out | with_reducible refine Bel.set_ ?_ (by simp) _ | with_reducible refine Bel.alloc ?_ _ | with_reducible refine Bel.drew ?_)
theorem Qt{P:Program}{ops:Array Oper}{o:Oper}{a:Act}{w:World}{K:Act->World->Prop}{Q:Exit->Act->World->Prop}{E:Prop}
  (hg:o.guard=none) (s x:Operand) (t:TypeId) (hop:o.op=Op.call { callee:=Callee.builtin Builtin.append,args:=#[s,x],argTypes:=#[t,t] })
  (base:Nat) (e:TypeId) (z:Value) (size bytes:Nat) (h1:P.underlying t=some (.slice e)) (hinfo:(P.info? e).map (fun i=>(i.zero,i.size,i.bytes))=some (some z,size,bytes)) (h6:z.cells.size=size) (h7:0<size) (hby:bytes<=1000)
  (A:Option Addr) (n cap:Nat) (xs:List Value) (hs:a.eval s=.slice A n cap) (hown:w.ownsRow base e size (.slice A n cap) n xs)
  (b:Nat) (news:List Value) (hx:a.eval x=.slice (some ⟨b,0,none⟩) 1 1) (hn:news.length=size) (hc:∀ j u,news[j]?=some u->w.cell? ⟨b,j,none⟩=some u) (h1c:∀ u∈news,u.oneCell'=true)
  (hmax:n<=1000000000) (hbase:base<=w.heap.size)
  (hK:∀ A' c' w',w'.ownsRow base e size (.slice A' (n+1) c') (n+1) (xs++news)->w.grownBy w' (Value.slice A n cap).ownBlock->K (a.put o.dst (.slice A' (n+1) c')) w') :
  if Region.wanted o (yielded ops a.tmps)=true then Oper.wp P o a w K Q else E:=by
 have hw:Region.wanted o (yielded ops a.tmps)=true:=by simp[Region.wanted,hg]
 rw[if_pos hw];obtain⟨i,hi,hz0,hz1,hz2⟩:=info_parts hinfo;obtain⟨v',w',hrun,r1,r2,_⟩:=run_append_own (P:=P) w base t o.type e i z size bytes h1 hi hz0 hz1 hz2 h6 h7 (.slice A n cap) n xs hown ⟨b,0,none⟩ 1 1 news (by omega) (fun j u hu=>by rw[Addr.add_lit];simpa using hc j u hu) h1c (by unfold maxLen;omega)
  (Nat.le_trans (Nat.mul_le_mul (show n+1<=1000000001 by omega) hby) (by omega)) hbase
 unfold Oper.wp;simp[execOp,hop,resolve,invoke,builtin,hs,hx,hrun,Result.andThen];obtain⟨A',c',rfl⟩:=zf r1;exact hK A' c' w' r1 r2
theorem Rdr.below_{w w':World}{g:Nat}{A:Option Addr}{n c:Nat}{xs:List Pn}{i B:Nat}(h:Rdr w g A n c xs i)(hb:Below B w w')(hg:g<B):Rdr w' g A n c xs i:=
 ⟨by rw[hb.block g hg];exact h.hp,h.rp.keep fun b o hbb=>hb.cell (p:=⟨b,o,none⟩) (Nat.lt_trans hbb hg),h.le,h.small⟩
theorem Kr.below_{a b c:World}{g B:Nat}(h:Kr g a b)(k:Below B b c)(ha:a.heap.size<=B):Kr g a c:=
 ⟨k.os.trans h.os,k.tape.trans h.tape,k.output.trans h.output,Nat.le_trans h.size k.size,fun i hi hn=>(k.block i (by omega)).trans (h.block i hi hn)⟩
theorem qcv{W w5:World}{base:Nat}{e:TypeId}{size:Nat}{V:Value}{n:Nat}{xs:List Value}(hown:W.ownsRow base e size V n xs){o:Obj}(hg:(W.drew.alloc o).grownBy w5 V.ownBlock)(hB:base<=W.heap.size):Below base W w5:=
 Below.grown (((Below.refl base W).drew).alloc hB o) hg (by simp;omega) (fun j hj=>(hown.lt _ hj).1)
theorem Rdr.setN{w:World}{g:Nat}{A:Option Addr}{n c:Nat}{xs:List Pn}{i:Nat}(h:Rdr w g A n c xs i){p:Addr}(hp:g<p.block)(v:Value):Rdr (w.setCell p v) g A n c xs i:=
 h.below_ (B:=g+1) (Below.setCell (Below.refl _ _) hp v) (Nat.lt_succ_self g)
theorem Kr.setN{a b:World}{g:Nat}(h:Kr g a b){p:Addr}(hp:a.heap.size<=p.block)(v:Value):Kr g a (b.setCell p v):=
 h.below_ (B:=a.heap.size) (Below.setCell (Below.refl _ _) hp v) (Nat.le_refl _)
theorem QO:(Tryz.prog.info? 21).map (fun i=>(i.zero,i.size,i.bytes))=some (some (.int .i32 0),1,4):=by kernel_rfl
theorem qes{p:Int->Bool}{L:List Int}{i j:Nat}(hj:j<=((L.drop i).takeWhile p).length)(h:L[i+j]?=none):j=((L.drop i).takeWhile p).length:=by
 have e:=List.takeWhile_append_dropWhile (p:=p) (l:=L.drop i);have h1:(L.drop i)[j]?=none:=by rw[List.getElem?_drop];exact h
 have h2:=List.getElem?_eq_none_iff.1 h1;have h3:=congrArg List.length e;rw[List.length_append]at h3;omega
theorem Jo{p:Int->Bool}{L:List Int}{i j:Nat}{x:Int}(hj:j<=((L.drop i).takeWhile p).length)(h:L[i+j]?=some x):(j<((L.drop i).takeWhile p).length↔p x=true)/\(j<((L.drop i).takeWhile p).length->((L.drop i).takeWhile p)[j]?=some x):=by
 obtain⟨T,hT⟩:∃ T,T=(L.drop i).takeWhile p:=⟨_,rfl⟩
 obtain⟨D,hD⟩:∃ D,D=(L.drop i).dropWhile p:=⟨_,rfl⟩
 have e:=List.takeWhile_append_dropWhile (p:=p) (l:=L.drop i);have h1:(L.drop i)[j]?=some x:=by rw[List.getElem?_drop];exact h
 rw[<- e,<- hT,<- hD]at h1;rw[<- hT]at hj ⊢;have key:j<T.length->T[j]?=some x:=fun hl=>by rwa [List.getElem?_append_left hl]at h1
 refine⟨⟨fun hl=>?_,fun hp=>?_⟩,key⟩
 ·have:=List.mem_of_getElem? (key hl)
  rw[hT]at this;exact qF p _ x this
 ·rcases Nat.lt_or_ge j T.length with hl | hl
  ·exact hl
  ·exfalso
   have hj2:j=T.length:=by omega
   rw[List.getElem?_append_right (by omega),hj2,Nat.sub_self]at h1;cases hd:D with
   | nil=>rw[hd]at h1;simp at h1
   | cons y ys=>
    rw[hd]at h1;simp at h1;have:=List.head_dropWhile_not (p:=p) (l:=L.drop i) (by rw[<- hD,hd];simp);simp only[<- hD,hd,List.head_cons]at this;rw[h1,hp]at this;cases this
theorem qgP{L:List Int}{i j:Nat}(hj:j<=((L.drop i).takeWhile isW).length):iwK (kdL (L.drop (i+j)))=decide (j<((L.drop i).takeWhile isW).length):=by
 cases h:L[i+j]? with
 | none=>
  have:=qes hj h;have e:L.drop (i+j)=[]:=List.drop_eq_nil_of_le (by simpa using h);rw[e,decide_eq_false (p:=j<_) (by omega)];rfl
 | some x=>
  rw[Jb h,qiy,Bool.eq_iff_iff,decide_eq_true_iff];exact (Jo hj h).1.symm
theorem qe7(x:Int):decide (kdN x=2)=qt x:=by
 unfold kdN;rw[Bool.eq_iff_iff,decide_eq_true_iff];by_cases hb:isBl x=true
 ·rw[if_pos hb]
  have:=(qaa hb).2;simp[this]
 ·rw[if_neg hb]
  by_cases hd:qt x=true
  ·rw[if_pos hd];simp[hd]
  ·rw[if_neg hd]
   constructor
   ·intro h
    repeat' split at h
    all_goals (exact absurd h (by decide))
   ·intro h;exact absurd h hd
theorem qgO{L:List Int}{i j:Nat}(hj:j<=((L.drop i).takeWhile qt).length):decide (kdL (L.drop (i+j))=2)=decide (j<((L.drop i).takeWhile qt).length):=by
 cases h:L[i+j]? with
 | none=>
  have:=qes hj h;have e:L.drop (i+j)=[]:=List.drop_eq_nil_of_le (by simpa using h);rw[e,decide_eq_false (p:=j<_) (by omega)];rfl
 | some x=>
  rw[Jb h,qe7,Bool.eq_iff_iff,decide_eq_true_iff];exact (Jo hj h).1.symm
theorem qfT{T:List Int}(h:∀ c∈T,isW c=true):AllCp T:=fun c hc=>jI (j8 (h c hc))
theorem Jf{g:Nat}{A:Option Addr}{n c:Nat}{xs:List Pn}{i:Nat}(kk:Int){x:Pn}(hx:xs[i]?=some x)(w:World)(h:Rdr w g A n c xs i) :
  Calls Tryz.prog 99 #[.pointer (some ⟨g,0,none⟩),.int .u8 kk] w fun e w'=>
   e=.returned (if 24<(((xs.map Pn.r).drop i).takeWhile isW).length then erV 3 x.p else tkV kk (encs (((xs.map Pn.r).drop i).takeWhile isW)) 0)/\Rdr w' g A n c xs (i+(((xs.map Pn.r).drop i).takeWhile isW).length)/\Kr g w w':=by
 obtain⟨L,hL⟩:∃ L,L=xs.map Pn.r:=⟨_,rfl⟩
 obtain⟨T,hT⟩:∃ T,T=(L.drop i).takeWhile isW:=⟨_,rfl⟩
 have hall:∀ c∈T,isW c=true:=by rw[hT];exact qF _ _
 have hcp:AllCp T:=qfT hall;have henc:(encs T).length=T.length:=by
  rw[zq fun c hc=>j8 (hall c hc)];simp[byt]
 have hlen:i+T.length<=n:=by
  have e:=List.takeWhile_append_dropWhile (p:=isW) (l:=L.drop i);have h3:=congrArg List.length e;rw[List.length_append,<- hT,List.length_drop,hL,List.length_map,<- h.len]at h3;have:=h.le;omega
 have HKD:Hid (∀ (w:World) (j:Nat),j<=T.length->Rdr w g A n c xs (i+j)->Calls Tryz.prog 53 #[.pointer (some ⟨g,0,none⟩)] w fun e w'=>e=.returned (.int .u8 (kdL (L.drop (i+j))))/\Bel w w'):=hid fun w j _ hd=>by rw[hL];exact Qz w hd
 have HIW:Hid (∀ (w:World) (j:Nat),j<=T.length->Calls Tryz.prog 130 #[.int .u8 (kdL (L.drop (i+j)))] w fun e w'=>e=.returned (.bool (decide (j<T.length)))/\w=w'):=hid fun w j hj=>by
  have:=qe9 (kdL (L.drop (i+j))) w;rwa [qgP (by rw[<- hT];exact hj),<- hT]at this
 have HAT:Hid (∀ (w:World) (j:Nat),j<T.length->Rdr w g A n c xs (i+j)->∃ b off r,A=some ⟨b,off,none⟩/\T[j]?=some r/\w.cell? ⟨b,off+(i+j)*4,none⟩=some (.int .i32 r)):=hid fun w j hj hd=>by
  obtain⟨b,off,y,e1,e2,e3,-⟩:=hd.at_ (by omega);refine⟨b,off,y.r,e1,?_,e3⟩;rw[hT]at hj ⊢;exact (Jo (by omega) (by rw[hL];simp[e2])).2 hj
 have HWR:Hid (∀ (w:World) (j:Nat),Rdr w g A n c xs j->Calls Tryz.prog 98 #[.pointer (some ⟨g,0,none⟩),.int .i64 3,i] w fun e w'=>e=.returned (erV 3 x.p)/\Bel w w'):=hid fun w j hd=>jZ 3 hx w hd;have HTX:Hid (∀ (w:World) (A2:Option Addr) (c2:Nat),T.length<=24->RI .i32 w w.heap.size A2 T.length T->Calls Tryz.prog 103 #[.int .u8 kk,.slice A2 T.length c2] w fun e w'=>e=.returned (tkV kk (encs T) 0)/\Bel w w'):=hid fun w A2 c2 h24 hr=>Qp kk hcp (by omega) w hr;rw[<- hL,<- hT];obtain⟨ans,hans⟩:∃ ans,ans=(if 24<T.length then erV 3 x.p else tkV kk (encs T) 0):=⟨_,rfl⟩
 rw[<- hans];have HANS:=hid hans;clear hans;have hsm:=h.small;have hle:=h.le;have H:=hid h;have hglt:=h.lt;clear h hL hT hall hcp henc hx;obtain⟨c0,c1,f0,f1⟩:=H.out.cells;go_enter Tryz.func99,Tryz.ntmps99
 go_wp2
 have hb2:Bel w ((w.alloc bxT).alloc bxD):=((Bel.refl w).alloc _).alloc _;have hs2:((w.alloc bxT).alloc bxD).heap.size=w.heap.size+2:=by simp
 obtain⟨q1,q2⟩:=blk2 w bxT bxD;have H2:=hid (H.out.bel hb2);obtain⟨w0,hw0⟩:∃ w0,w0=(w.alloc bxT).alloc bxD:=⟨_,rfl⟩
 have HW0:=hid hw0;rw[<- hw0]at H2 hb2 hs2 q1 q2;have HB0:=hid hb2;have HQ1:=hid q1;have HQ2:=hid q2;have HS2:=hid hs2;clear hb2 q1 q2 hs2 c0 c1 f0 f1;go_loopg [7] (T.length+1) (fun gk v wr=>∃ (j:Nat) (A2:Option Addr) (c2:Nat),v=.slice A2 j c2/\Hid (j<=T.length/\T.length-j<gk)/\Hid (Rdr wr g A n c xs (i+j))/\Hid (wr.ownsRow (w.heap.size+2) 21 1 (.slice A2 j c2) j ((T.take j).map (Value.int .i32)))/\Hid (Kr g w0 wr))
 case atStart=>
  exact⟨0,none,0,rfl,hid ⟨by omega,by omega⟩,by have:=H2;rw[HW0.out]at this;exact this,hid (World.ownsRow_nil _ _ _ _),by have:=hid (Kr.refl g w0);rw[HW0.out]at this ⊢;exact this⟩
 case round=>
  obtain⟨j,A2,c2,rfl,HJ,HD,HO,HK⟩:=hrel;have hbs:w.heap.size+2<=wr.heap.size:=by have:=HK.out.size;have:=HS2.out;omega
  by_cases hj:j<T.length
  ·go_wp2_with fail
   refine (HKD.out _ j (by omega) HD.out).mono ?_;rintro e w1 ⟨rfl,hb⟩;have HD1:=hid (HD.out.bel hb);have HK1:=hid (HK.out.bel hb);have HO1:=hid (qp HO.out hb);have hbs1:w.heap.size+2<=w1.heap.size:=Nat.le_trans hbs hb.size;clear hb;go_wp2_with fail
   refine (HIW.out _ j (by omega)).mono ?_;rintro e w2 ⟨rfl,rfl⟩;rw[decide_eq_true hj];have hat:=HAT.out w1 j hj HD1.out;obtain⟨q,hq⟩:∃ q,q=i+j:=⟨_,rfl⟩
   rw[<- hq]at hat HD1;have hqn:q<n:=by omega
   have HQ:=hid hq;clear hq;obtain⟨c0,c1,f0,f1⟩:=HD1.out.cells;obtain⟨b,off,r,rfl,hTj,a0⟩:=hat;have HTJ:=hid hTj;clear hTj;go_wp2_with fail
   go_region_law (refine Qt rfl (.tmp 22) (.tmp 34) 169 rfl (w.heap.size+2) 21 _ 1 4 Tryz.underlying169 QO rfl (by decide) (by decide) A2 j c2 ((T.take j).map (Value.int .i32)) (by simp[Act.eval]) (by exact HO1.out.alloc _) w1.heap.size [.int .i32 r] (by simp[Act.eval]) rfl (by exact qE w1 _ _) (by simp[Value.oneCell']) (by omega) (by simp;omega) ?_;intro A' c' w5 hown5 hg5;(have HO5:=hid hown5);(have HG5:=hid hg5);clear hown5 hg5)
   all_goals
    have HB5:=hid (qcv HO1.out HG5.out hbs1);have HD5:=hid (HD1.out.below_ HB5.out (by omega));have HK5:=hid (HK1.out.below_ HB5.out (by have:=HS2.out;omega));clear c0 c1 f0 f1;obtain⟨c0,c1,f0,f1⟩:=HD5.out.cells;go_wp2
    have hjj:=HJ.out;go_roundg (gk-1)
    case rel=>
     exact⟨j+1,A',c',rfl,hid ⟨by omega,by omega⟩,hid (by have:=HD5.out.set_ (k:=q+1) (by omega);rw[show i+(j+1)=q+1 by have:=HQ.out;omega];exact this),hid (qZ (by rw[List.take_succ_eq_append_getElem hj,List.map_append];have:=HTJ.out;rw[List.getElem?_eq_getElem hj]at this;rw[Option.some.inj this];exact HO5.out) (by show g<w.heap.size+2;omega) _),hid (HK5.out.set_ _ _)⟩
    case measure=>omega
  ·have hjT:j=T.length:=by have:=HJ.out;omega
   have hRI:∀ W,Bel wr W->RI .i32 W W.heap.size A2 T.length T:=fun W hb=>by
    have:=qp HO.out hb;rw[hjT,List.take_length]at this;exact RI.of_own this
   have HRI:=hid hRI;clear hRI;subst hjT;go_wp2_with fail
   refine (HKD.out _ _ (Nat.le_refl _) HD.out).mono ?_;rintro e w1 ⟨rfl,hb⟩;have HD1:=hid (HD.out.bel hb);have HK1:=hid (HK.out.bel hb);have HR1:=hid hb;clear hb;go_wp2_with fail
   refine (HIW.out _ _ (Nat.le_refl _)).mono ?_;rintro e w2 ⟨rfl,rfl⟩;rw[decide_eq_false hj];by_cases h24:24<T.length
   ·have ha:ans=erV 3 x.p:=by rw[HANS.out,if_pos h24]
    subst ha;go_wp2_with fail
    refine (HWR.out _ _ HD1.out).mono ?_;rintro e w2 ⟨rfl,hb⟩;have HD2:=hid (HD1.out.bel hb);have HK2:=hid (HK1.out.bel hb);have hs:=Nat.le_trans (Nat.le_trans hbs HR1.out.size) hb.size;clear hb;obtain⟨⟨t0,t1,t2,t3,t4,t5⟩,f0,f1,f2,f3,f4,f5⟩:=qk (HK2.out.keep HQ1.out (by omega));obtain⟨d0,d1,d2,d3,g0,g1,g2,g3⟩:=qA (HK2.out.keep HQ2.out (by omega));unfold erV;go_wp2
    refine bodyPost_ret (v:=erV 3 x.p) ?_ rfl ⟨rfl,?_,?_⟩
    ·simp[erV,results,Tryz.results99,go_sem, *]
    ·repeat (first | with_reducible exact HD2.out | with_reducible refine Rdr.setN ?_ (by show g<w.heap.size+_;omega) _ | with_reducible refine Rdr.setN ?_ (by show g<w.heap.size;omega) _)
    ·have hk:Kr g w w2:=(Kr.of_bel HB0.out).on HK2.out
     repeat (first | with_reducible exact hk | with_reducible refine Kr.setN ?_ (by simp) _)
   ·have ha:ans=tkV kk (encs T) 0:=by rw[HANS.out,if_neg h24]
    subst ha;go_wp2_with fail
    refine (HTX.out _ A2 c2 (by omega) (HRI.out _ HR1.out)).mono ?_;rintro e w2 ⟨rfl,hb⟩;have HD2:=hid (HD1.out.bel hb);have HK2:=hid (HK1.out.bel hb);have hs:=Nat.le_trans (Nat.le_trans hbs HR1.out.size) hb.size;clear hb;obtain⟨⟨t0,t1,t2,t3,t4,t5⟩,f0,f1,f2,f3,f4,f5⟩:=qk (HK2.out.keep HQ1.out (by omega));obtain⟨d0,d1,d2,d3,g0,g1,g2,g3⟩:=qA (HK2.out.keep HQ2.out (by omega));unfold tkV;go_wp2
    refine bodyPost_ret (v:=tkV kk (encs T) 0) ?_ rfl ⟨rfl,?_,?_⟩
    ·simp[tkV,results,Tryz.results99,go_sem, *]
    ·repeat (first | with_reducible exact HD2.out | with_reducible refine Rdr.setN ?_ (by show g<w.heap.size+_;omega) _ | with_reducible refine Rdr.setN ?_ (by show g<w.heap.size;omega) _)
    ·have hk:Kr g w w2:=(Kr.of_bel HB0.out).on HK2.out
     repeat (first | with_reducible exact hk | with_reducible refine Kr.setN ?_ (by simp) _)
theorem qeA{P:Program}{c:Code}{Q:Exit->Act->World->Prop}{a:Act}{w:World}(h:∀ W,W=w->c.wp P Q a W):c.wp P Q a w:=h w rfl
theorem qfq{w:World}{g:Nat}{t:TypeId}{x0 x1 x2 x3 x4 x5:Value}(h:w.heap[g]?=some (.cells #[x0,x1,x2,x3,x4,x5] t (0,0)))(v0 v1 v2 v3 v4 v5:Value) :
  ((((((w.setCell ⟨g,0,none⟩ v0).setCell ⟨g,1,none⟩ v1).setCell ⟨g,2,none⟩ v2).setCell ⟨g,3,none⟩ v3).setCell ⟨g,4,none⟩ v4).setCell ⟨g,5,none⟩ v5).heap[g]?=some (.cells #[v0,v1,v2,v3,v4,v5] t (0,0)):=by
 simp[World.setCell,Array.getElem?_modify,h]
theorem qfp{w:World}{g:Nat}{t:TypeId}{x0 x1 x2 x3:Value}(h:w.heap[g]?=some (.cells #[x0,x1,x2,x3] t (0,0)))(v0 v1 v2 v3:Value) :
  ((((w.setCell ⟨g,0,none⟩ v0).setCell ⟨g,1,none⟩ v1).setCell ⟨g,2,none⟩ v2).setCell ⟨g,3,none⟩ v3).heap[g]?=some (.cells #[v0,v1,v2,v3] t (0,0)):=by
 simp[World.setCell,Array.getElem?_modify,h]
theorem Qj{A:Option Addr}{n c:Nat}{ts:List (List UInt8)}(s:List UInt8)(hn:n<=1000000)(w:World)(h:RL w w.heap.size A n ts):Calls Tryz.prog 100 #[.slice A n c,.string ⟨s.toArray⟩] w fun e w'=>e=.returned (.bool (decide (s∈ts)))/\w=w':=by
 obtain⟨hl,hc⟩:=h;by_cases h0:n=0
 ·subst h0
  obtain rfl:ts=[]:=List.eq_nil_of_length_eq_zero hl.symm;exact (Tryz.slices_Contains_string_empty A c ⟨s.toArray⟩ w).mono fun e w' h=>⟨by simpa using h.1,h.2.symm⟩
 ·obtain⟨b,off,rfl,hb,hcell⟩:=hc (by omega)
  refine (Tryz.slices_Contains_string b off n c (ts.map fun s=>⟨s.toArray⟩) ⟨s.toArray⟩ w (by simp[hl]) (by omega) (fun j hj=>?_)).mono fun e w' h=>⟨?_,h.2.symm⟩
  ·rw[List.length_map]at hj
   rw[hcell j _ (List.getElem?_eq_getElem hj)];simp[hj]
  ·rw[h.1]
   congr 2
   rw[Bool.eq_iff_iff,Lib.containsS_iff,decide_eq_true_iff];have e:(ts.map fun s=>(⟨s.toArray⟩:ByteArray)).take n=ts.map fun s=>⟨s.toArray⟩:=List.take_of_length_le (by simp[hl]);rw[e,List.mem_map];constructor
   ·rintro⟨t,ht,he⟩
    have:t.toArray=s.toArray:=by injection he
    have h2:=congrArg Array.toList this;simp at h2;rw[<- h2];exact ht
   ·intro hs;exact⟨s,hs,rfl⟩
theorem qez(w:World):Calls Tryz.prog 101 #[] w fun e w'=>(∃ A,e=.returned (.slice A 6 6)/\RL w' w'.heap.size A 6 za)/\Bel w w':=by
 go_enter Tryz.func101,Tryz.ntmps101
 go_wp2
 go_ret
 refine⟨⟨_,rfl,?_⟩,(Bel.refl _).alloc _⟩;exact RL.lit w za _ (by kernel_rfl) 6 (by kernel_rfl) _
theorem qdh(w:World):Calls Tryz.prog 102 #[] w fun e w'=>(∃ A,e=.returned (.slice A 10 10)/\RL w' w'.heap.size A 10 zk)/\Bel w w':=by
 go_enter Tryz.func102,Tryz.ntmps102
 go_wp2
 go_ret
 refine⟨⟨_,rfl,?_⟩,(Bel.refl _).alloc _⟩;exact RL.lit w zk _ (by kernel_rfl) 10 (by kernel_rfl) _
theorem qd3(w:World):Calls Tryz.prog 105 #[] w fun e w'=>(∃ A,e=.returned (.slice A 22 22)/\RL w' w'.heap.size A 22 jp)/\Bel w w':=by
 go_enter Tryz.func105,Tryz.ntmps105
 go_wp2
 go_ret
 refine⟨⟨_,rfl,?_⟩,(Bel.refl _).alloc _⟩;exact RL.lit w jp _ (by kernel_rfl) 22 (by kernel_rfl) _
theorem qgo{g:Nat}{A:Option Addr}{n c:Nat}{xs:List Pn}{i:Nat}{x:Pn}(hx:xs[i]?=some x)(w:World)(h:Rdr w g A n c xs i) :
  Calls Tryz.prog 57 #[.pointer (some ⟨g,0,none⟩)] w fun e w'=>
   e=.returned (if 24<(((xs.map Pn.r).drop i).takeWhile isW).length then erV 3 x.p else tkV 2 (encs (((xs.map Pn.r).drop i).takeWhile isW)) 0)/\Rdr w' g A n c xs (i+(((xs.map Pn.r).drop i).takeWhile isW).length)/\Kr g w w':=by
 obtain⟨T,hT⟩:∃ T,T=((xs.map Pn.r).drop i).takeWhile isW:=⟨_,rfl⟩
 have HN:Hid (∀ w,Rdr w g A n c xs i->Calls Tryz.prog 99 #[.pointer (some ⟨g,0,none⟩),.int .u8 2] w fun e w'=>
   e=.returned (if 24<T.length then erV 3 x.p else tkV 2 (encs T) 0)/\Rdr w' g A n c xs (i+T.length)/\Kr g w w'):=hid fun w hd=>by rw[hT];exact Jf 2 hx w hd
 rw[<- hT];have H:=hid h;have hglt:=h.lt;clear h hT hx;have hb2:Bel w ((w.alloc bxT).alloc bxD):=((Bel.refl w).alloc _).alloc _;have HB2:=hid hb2;obtain⟨q1,q2⟩:=blk2 w bxT bxD;have HQ1:=hid q1;have HQ2:=hid q2;clear hb2 q1 q2;by_cases h24:24<T.length
 ·have hn:∀ w,Rdr w g A n c xs i->Calls Tryz.prog 99 #[.pointer (some ⟨g,0,none⟩),.int .u8 2] w fun e w'=>e=.returned (erV 3 x.p)/\Rdr w' g A n c xs (i+T.length)/\Kr g w w':=fun w hd=>by have:=HN.out w hd;rwa [if_pos h24]at this
  rw[if_pos h24];have HNN:=hid hn;clear hn;unfold erV at HNN ⊢;go_enter Tryz.func57,Tryz.ntmps57
  go_wp2_with fail
  refine (HNN.out _ (H.out.bel HB2.out)).mono ?_;rintro e w1 ⟨rfl,hd,hk⟩;have HD:=hid hd;have hs:w.heap.size+2<=w1.heap.size:=by have:=hk.size;simpa using this
  obtain⟨⟨t0,t1,t2,t3,t4,t5⟩,f0,f1,f2,f3,f4,f5⟩:=qk (hk.keep HQ1.out (by omega));obtain⟨d0,d1,d2,d3,g0,g1,g2,g3⟩:=qA (hk.keep HQ2.out (by omega));have HK:=hid (((Kr.of_bel HB2.out).on hk:Kr g w w1));clear hd hk;go_wp2
  refine bodyPost_ret ?_ rfl ⟨rfl,?_,?_⟩
  ·simp[results,Tryz.results57,go_sem, *]
  ·repeat (first | with_reducible exact HD.out | with_reducible refine Rdr.setN ?_ (by show g<w.heap.size+_;omega) _ | with_reducible refine Rdr.setN ?_ (by show g<w.heap.size;omega) _)
  ·repeat (first | with_reducible exact HK.out | with_reducible refine Kr.setN ?_ (by simp) _)
 ·have hn:∀ w,Rdr w g A n c xs i->Calls Tryz.prog 99 #[.pointer (some ⟨g,0,none⟩),.int .u8 2] w fun e w'=>e=.returned (tkV 2 (encs T) 0)/\Rdr w' g A n c xs (i+T.length)/\Kr g w w':=fun w hd=>by have:=HN.out w hd;rwa [if_neg h24]at this
  rw[if_neg h24];have HNN:=hid hn;clear hn;unfold tkV at HNN ⊢;go_enter Tryz.func57,Tryz.ntmps57
  go_wp2_with fail
  refine (HNN.out _ (H.out.bel HB2.out)).mono ?_;rintro e w1 ⟨rfl,hd,hk⟩;have HD:=hid hd;have hs:w.heap.size+2<=w1.heap.size:=by have:=hk.size;simpa using this
  obtain⟨⟨t0,t1,t2,t3,t4,t5⟩,f0,f1,f2,f3,f4,f5⟩:=qk (hk.keep HQ1.out (by omega));obtain⟨d0,d1,d2,d3,g0,g1,g2,g3⟩:=qA (hk.keep HQ2.out (by omega));have HK:=hid (((Kr.of_bel HB2.out).on hk:Kr g w w1));clear hd hk;go_wp2
  refine bodyPost_ret ?_ rfl ⟨rfl,?_,?_⟩
  ·simp[results,Tryz.results57,go_sem, *]
  ·repeat (first | with_reducible exact HD.out | with_reducible refine Rdr.setN ?_ (by show g<w.heap.size+_;omega) _ | with_reducible refine Rdr.setN ?_ (by show g<w.heap.size;omega) _)
  ·repeat (first | with_reducible exact HK.out | with_reducible refine Kr.setN ?_ (by simp) _)
set_option maxHeartbeats 8000000
def oldnew:List (List UInt8):=[[10],[92,110],[9],[92,116],[34],[92,34],[92],[92,92]]
def prs:List (Nat × List UInt8):=[(10,[92,110]),(9,[92,116]),(34,[92,34]),(92,[92,92])]
def escT(j u:Nat):Option (List UInt8):=((prs.drop j).find? fun p=>p.1=u).map (·.2)
theorem qiJ:∀ j,j<4->∃ (o a b:UInt8),oldnew[2*j]?=some [o]/\oldnew[2*j+1]?=some [a,b]/\prs[j]?=some (o.toNat,[a,b])/\escT (j+1) o.toNat=none
 | 0,_=>⟨10,92,110,rfl,rfl,rfl,by decide⟩
 | 1,_=>⟨9,92,116,rfl,rfl,rfl,by decide⟩
 | 2,_=>⟨34,92,34,rfl,rfl,rfl,by decide⟩
 | 3,_=>⟨92,92,92,rfl,rfl,rfl,by decide⟩
 | j+4,h=>by omega
theorem zN{w:World}{g:Nat}{t:TypeId}{x0 x1 x2 x3 x4:Value}(h:w.heap[g]?=some (.cells #[x0,x1,x2,x3,x4] t (0,0))) :
  (w.cell? ⟨g,0,none⟩=some x0/\w.cell? ⟨g,1,none⟩=some x1/\w.cell? ⟨g,2,none⟩=some x2/\w.cell? ⟨g,3,none⟩=some x3/\w.cell? ⟨g,4,none⟩=some x4) ∧
   w.frozen? ⟨g,0,none⟩=false/\w.frozen? ⟨g,1,none⟩=false/\w.frozen? ⟨g,2,none⟩=false/\w.frozen? ⟨g,3,none⟩=false/\w.frozen? ⟨g,4,none⟩=false:=by
 simp[World.cell?,World.frozen?,h]
theorem Qb{w:World}{B s:Nat}{e T:TypeId}{v:Value}{n:Nat}{xs:List Value}{b:Nat}{cs:Array Value}{fr:Nat × Nat}(hown:w.ownsRow B e s v n xs)(hb:w.heap[b]?=some (.cells cs T fr))(hTe:T≠e):v.ownBlock≠some b:=by
 rcases hown.2 with ⟨rfl,_⟩ | ⟨g,cap,cur,rfl,_,hg,_⟩
 ·simp[Value.ownBlock]
 ·intro h
  simp only[Value.ownBlock,Option.some.injEq]at h;subst h;rw[hg]at hb;simp only[Option.some.injEq,Obj.cells.injEq]at hb;exact hTe hb.2.1.symm
theorem jR{w w':World}{B s:Nat}{e:TypeId}{v:Value}{n:Nat}{xs:List Value}(h:w.ownsRow B e s v n xs)(hk:∀ j,v.ownBlock=some j->w'.heap[j]?=w.heap[j]?):w'.ownsRow B e s v n xs:=by
 refine⟨h.1,?_⟩;rcases h.2 with h0 | ⟨g,cap,cur,rfl,hb,hg,r⟩
 ·exact .inl h0
 ·exact .inr ⟨g,cap,cur,rfl,hb,(hk g rfl).trans hg,r⟩
structure Tab (w:World) (g:Nat) (S:Value) (j:Nat):Prop where
 ex:∃ C:Array Value,w.heap[g]?=some (.cells C 257 (0,0))/\C.size=257/\C[256]?=some S ∧
  ∀ u,u<256->((escT j u=none->C[u]?=some (.slice none 0 0))/\∀ bs,escT j u=some bs->∃ bk ck Cb fr,C[u]?=some (.slice (some ⟨bk,0,none⟩) bs.length ck)/\w.heap[bk]?=some (.cells Cb 5 fr)/\∀ q x,bs[q]?=some x->w.cell? ⟨bk,q,none⟩=some (.int .u8 x.toNat))
theorem qh7(A:Option Addr)(n c:Nat)(w:World):Sem.run Tryz.prog (binOp .eql 83 (.slice A n c) (.slice none 0 0)) w=.ok (.bool A.isNone) w:=by
 cases A <;> rfl
def tr(j:Nat):List (List UInt8):=(prs.drop j).reverse.map fun p=>[UInt8.ofNat p.1]
theorem qhk{j:Nat}{o:UInt8}{bs:List UInt8}(h:prs[j]?=some (o.toNat,bs)):tr j=tr (j+1)++[[o]]:=by
 obtain⟨hl,e⟩:=List.getElem?_eq_some_iff.1 h;unfold tr;rw[List.drop_eq_getElem_cons hl,e];simp
theorem qeV{j:Nat}{o:UInt8}{bs:List UInt8}(h:prs[j]?=some (o.toNat,bs))(u:Nat):escT j u=if o.toNat=u then some bs else escT (j+1) u:=by
 obtain⟨hl,e⟩:=List.getElem?_eq_some_iff.1 h;unfold escT;rw[List.drop_eq_getElem_cons hl,e,List.find?_cons];by_cases hu:o.toNat=u
 ·simp[hu]
 ·simp[hu]
theorem qhl{P:Program}{c:Code}{Q:Exit->Act->World->Prop}{a:Act}{w:World}(h:∀ W,W=w->c.wp P Q a W):c.wp P Q a w:=h w rfl
theorem QP:(Tryz.prog.info? 9).map (fun i=>(i.zero,i.size,i.bytes))=some (some (.string ⟨#[]⟩),1,16):=by kernel_rfl
theorem qiH(base:Nat)(W:World)(hb:base<=W.heap.size):∃ w',(Instr.makeSlice 51 (.int .i64 0) (.int .i64 4)).run Tryz.prog W=.ok (.slice (some ⟨W.heap.size,0,none⟩) 0 4) w'/\w'.ownsRow base 9 1 (.slice (some ⟨W.heap.size,0,none⟩) 0 4) 0 []/\Bel W w':=by
 obtain⟨i0,hi0,hz0,hz1,hz2⟩:=info_parts QP;obtain⟨w',h1,h2,h3⟩:=run_make_own (P:=Tryz.prog) W base 51 9 i0 (.string ⟨#[]⟩) 1 Tryz.underlying51 hi0 hz0 hz1 .i64 .i64 4 (by rw[hz2];decide) (by unfold maxLen;decide) hb;exact⟨w',h1,h2,Below.grown (Bel.refl W) h3 (Nat.le_refl _) (fun x hx=>by cases hx)⟩
theorem qii:Tryz.zeroCells257.all (·.oneCell')=true:=by kernel_rfl
theorem qeC:Tryz.zeroCells257.size=257:=by kernel_rfl
theorem qhv:Tryz.zeroCells257.toList=List.replicate 257 (.slice none 0 0):=by kernel_rfl
theorem qhu:(Tryz.prog.info? 257).map (·.size)=some 257:=by kernel_rfl
theorem qdW(V:Value)(hV:V.oneCell'=true)(w:World):∃ C:Array Value,C.toList=(List.replicate 256 (.slice none 0 0))++[V]/\Sem.run Tryz.prog (storeCells ⟨w.heap.size,0,none⟩ (Tryz.zeroCells257.toList.set 256 V)) (w.alloc (.cells Tryz.zeroCells257 257))=.ok () (w.alloc (.cells C 257)):=by
 obtain⟨C,hC⟩:∃ C:Array Value,C=(Tryz.zeroCells257.toList.set 256 V).toArray:=⟨_,rfl⟩
 have hl:C.toList=Tryz.zeroCells257.toList.set 256 V:=by rw[hC]
 have hs:C.size=257:=by rw[hC,List.size_toArray,List.length_set,Array.length_toList];exact qeC
 refine⟨C,?_,?_⟩
 ·rw[hl,qhv,show List.replicate 257 (Value.slice none 0 0)=List.replicate 256 (.slice none 0 0)++[.slice none 0 0] by rfl,List.set_append_right _ _ (by simp)]
  simp
 ·have:=run_storeCells_new (P:=Tryz.prog) w 257 Tryz.zeroCells257 C (by rw[hs];exact qhu) (by rw[hs];exact qeC) (by
   rw[Array.all_eq_true_iff_forall_mem];intro x hx;have hx2:x∈Tryz.zeroCells257.toList.set 256 V:=by rw[<- hl];simpa using hx
   rcases List.mem_or_eq_of_mem_set hx2 with h | h
   ·exact (Array.all_eq_true_iff_forall_mem.1 qii) x (by simpa using h)
   ·rw[h];exact hV)
  rw[hl]at this;exact this
theorem qfK(w:World)(e:TypeId)(s:ByteArray):Bel w (Lib.bytesWorld w e s):=
 ⟨rfl,rfl,rfl,by rw[Lib.bytesWorld_size];omega,fun k hk=>Lib.bytesWorld_at_old w e s k hk⟩
theorem qfy{wr W7:World}{g j bk ck:Nat}{o a b':UInt8}{S':Value}{C2 Cn:Array Value}{frn:Nat × Nat}(hj:prs[j]?=some (o.toNat,[a,b']))(hCs:C2.size=257)
  (hCu:∀ u,u<256->((escT (j+1) u=none->C2[u]?=some (.slice none 0 0))/\∀ bs,escT (j+1) u=some bs->∃ bk ck Cb fr,C2[u]?=some (.slice (some ⟨bk,0,none⟩) bs.length ck)/\wr.heap[bk]?=some (.cells Cb 5 fr)/\∀ q x,bs[q]?=some x->wr.cell? ⟨bk,q,none⟩=some (.int .u8 x.toNat)))
  (h5:W7.heap[g]?=some (.cells (C2.setIfInBounds 256 S') 257 (0,0)))
  (hold:∀ (x:Nat) (Cb:Array Value) (fr:Nat × Nat),wr.heap[x]?=some (.cells Cb 5 fr)->W7.heap[x]?=some (.cells Cb 5 fr))
  (hnew:W7.heap[bk]?=some (Obj.cells Cn 5 frn)) (hc:∀ q x,[a,b'][q]?=some x->W7.cell? ⟨bk,q,none⟩=some (.int .u8 x.toNat)) :
  Tab (W7.setCell ⟨g,o.toNat,none⟩ (.slice (some ⟨bk,0,none⟩) 2 ck)) g S' j:=by
 have ho:=o.toNat_lt;have hne:∀ (x:Nat) (Cb:Array Value) (fr:Nat × Nat),W7.heap[x]?=some (.cells Cb 5 fr)->x≠g:=fun x Cb fr hx e=>by
  rw[e,h5]at hx;simp only[Option.some.injEq,Obj.cells.injEq]at hx;exact absurd hx.2.1 (by decide)
 have hblk:∀ (x:Nat) (Cb:Array Value) (fr:Nat × Nat),W7.heap[x]?=some (.cells Cb 5 fr)->(W7.setCell ⟨g,o.toNat,none⟩ (.slice (some ⟨bk,0,none⟩) 2 ck)).heap[x]?=some (.cells Cb 5 fr):=fun x Cb fr hx=>by
  rw[Below.heap_setCell _ _ _ _ (hne x Cb fr hx)];exact hx
 refine⟨(C2.setIfInBounds 256 S').setIfInBounds o.toNat (.slice (some ⟨bk,0,none⟩) 2 ck),?_,by simpa using hCs,?_,fun u hu=>?_⟩
 ·simp[World.setCell,Array.getElem?_modify,h5]
 ·rw[Array.getElem?_setIfInBounds_ne (by omega),Array.getElem?_setIfInBounds_self_of_lt (by omega)]
 rw[qeV hj u];by_cases hou:o.toNat=u
 ·rw[if_pos hou]
  refine⟨fun h=>(by cases h),fun bs hbs=>?_⟩;injection hbs with hbs
  subst hbs;refine⟨bk,ck,Cn,frn,?_,hblk bk Cn frn hnew,fun q x hq=>?_⟩
  ·rw[<- hou,Array.getElem?_setIfInBounds_self_of_lt (by simp;omega)];rfl
  ·rw[<- hc q x hq]
   exact World.cell?_of_block (a:=⟨bk,q,none⟩) ((hblk bk Cn frn hnew).trans hnew.symm)
 ·rw[if_neg hou]
  have e1:((C2.setIfInBounds 256 S').setIfInBounds o.toNat (.slice (some ⟨bk,0,none⟩) 2 ck))[u]?=C2[u]?:=by
   rw[Array.getElem?_setIfInBounds_ne hou,Array.getElem?_setIfInBounds_ne (by omega)]
  rw[e1];refine⟨(hCu u hu).1,fun bs hbs=>?_⟩;obtain⟨x,cx,Cb,fr,h1,h2,h3⟩:=(hCu u hu).2 bs hbs;refine⟨x,cx,Cb,fr,h1,hblk x Cb fr (hold x Cb fr h2),fun q y hq=>?_⟩;rw[<- h3 q y hq];exact World.cell?_of_block (a:=⟨x,q,none⟩) ((hblk x Cb fr (hold x Cb fr h2)).trans h2.symm)
theorem qcD{b:Nat}{A:Option Addr}{cp:Nat}(w:World)(hb:w.heap[b]?=some (.cells #[.int .u32 0,.int .i32 1,.int .u32 0,.nilIface,.slice A 8 cp] 194 (0,0)))(hr:RL w w.heap.size A 8 oldnew) :
  Calls Tryz.prog 139 #[.pointer (some ⟨b,0,none⟩)] w fun e w'=>∃ (g:Nat) (A4:Option Addr) (c4:Nat),e=.returned (.iface 258 (.pointer (some ⟨g,0,none⟩)))/\w.heap.size<=g/\Tab w' g (.slice A4 4 c4) 0/\w'.ownsRow w.heap.size 9 1 (.slice A4 4 c4) 4 (strs (tr 0))/\Bel w w':=by
 obtain⟨-,hr2⟩:=hr;obtain⟨ba,oa,rfl,hba,hcc⟩:=hr2 (by omega);have HC:=hid hcc;have hcell:∀ j,j<4->∃ (o a b:UInt8),(prs[j]?=some (o.toNat,[a,b])/\escT (j+1) o.toNat=none)/\w.cell? ⟨ba,oa+2*j,none⟩=some (.string ⟨#[o]⟩)/\w.cell? ⟨ba,oa+(2*j+1),none⟩=some (.string ⟨#[a,b]⟩):=fun j hj=>by
  obtain⟨o,a,b,h1,h2,h3⟩:=qiJ j hj;exact⟨o,a,b,h3,hcc _ _ h1,hcc _ _ h2⟩
 have HCE:=hid hcell;have H:=hid hb;have hlt:=(Array.getElem?_eq_some_iff.1 hb).1;obtain⟨⟨c0,c1,c2,c3,c4⟩,f0,f1,f2,f3,f4⟩:=zN hb;clear hcc hcell hr2 hb;go_enter Tryz.func139,Tryz.ntmps139
 go_wp2_with fail
 go_loop [4,5] (fun v i=>∃ j:Nat,j<=4/\i=.int .i64 (2*(j:Int))/\v=.bool (decide (j=0))) (fun _ i=>8-(intOf i).toNat)
 case atStart=>exact⟨0,by omega,rfl,rfl⟩
 case round=>
  obtain⟨j,hj,rfl,rfl⟩:=hrel;by_cases hj4:j<4
  ·obtain⟨o,a,b',-,k1,k2⟩:=HCE.out j hj4
   obtain⟨q,hq⟩:∃ q,q=2*j:=⟨_,rfl⟩
   have hq2:2*(j:Int)=(q:Int):=by omega
   rw[<- hq]at k1 k2;rw[hq2];have hq7:q+1<8:=by omega
   have hq8:q<8:=by omega
   have HQ:=hid hq;clear hq hq2;go_wp2
   all_goals
    refine⟨⟨j+1,by omega,by have:=HQ.out;congr 1;omega,by simp⟩,?_⟩;simp[intOf];omega
  ·obtain rfl:j=4:=by omega
   obtain⟨w1,hmk,ho1,hb1⟩:=qiH w.heap.size w (Nat.le_refl _);have HO1:=hid ho1;have HB1:=hid hb1;clear ho1 hb1;obtain⟨C,hC,hst⟩:=qdW (.slice (some ⟨w.heap.size,0,none⟩) 0 4) rfl w1;have HCL:=hid hC;clear hC;go_wp2_with fail
   have hT0:Tab (w1.alloc (.cells C 257)) w1.heap.size (.slice (some ⟨w.heap.size,0,none⟩) 0 4) 4:=by
    have hl:=congrArg List.length HCL.out;refine⟨C,blk1 w1 _,by simpa using hl,?_,fun u hu=>⟨fun _=>?_,fun bs hbs=>?_⟩⟩
    ·rw[<- Array.getElem?_toList,HCL.out,List.getElem?_append_right (by simp)];simp
    ·rw[<- Array.getElem?_toList,HCL.out,List.getElem?_append_left (by simpa using hu),List.getElem?_replicate,if_pos hu]
    ·simp[escT,prs]at hbs
   have HT0:=hid hT0;have hw1:w.heap.size<w1.heap.size:=by
    rcases HO1.out.2 with ⟨h,_⟩ | ⟨g0,cap0,cur,hv,_,h0,_⟩
    ·cases h
    ·injection hv with hv _ _
     injection hv with hv
     injection hv with hv _ _
     rw[hv];exact (Array.getElem?_eq_some_iff.1 h0).1
   obtain⟨g,hg⟩:∃ g,g=w1.heap.size:=⟨_,rfl⟩
   rw[<- hg]at HT0 hw1 ⊢;have HG:=hid hg;clear hT0 hg;go_loopg [12] 5 (fun gk v wr=>∃ (j m:Nat) (A4:Option Addr) (c4:Nat),v=.int .i64 (2*(j:Int)-2)/\Hid (j<=4/\j<gk)/\Hid (Tab wr g (.slice A4 m c4) j)/\Hid (wr.ownsRow w.heap.size 9 1 (.slice A4 m c4) m (strs (tr j)))/\Hid (Bel w wr))
   case atStart=>exact⟨4,0,_,4,by simp,hid ⟨by omega,by omega⟩,HT0,hid (qp HO1.out ((Bel.refl _).alloc _)),hid (HB1.out.alloc _)⟩
   case round=>
    obtain⟨j,m,A4,c4,rfl,HJ,HT,HO,HB⟩:=hrel;have hjj:=HJ.out;by_cases hj0:j=0
    ·subst hj0
     have hm0:m=4:=by
      have h1:=HO.out.1;rw[Jm]at h1;have h2:(tr 0).length=4:=by decide
      omega
     subst hm0;go_wp2
     go_ret
     exact⟨g,A4,c4,rfl,by omega,HT.out,HO.out,HB.out⟩
    ·obtain⟨o,a,b',⟨hp,he⟩,k1,k2⟩:=HCE.out (j-1) (by omega)
     obtain⟨q,hq⟩:∃ q,q=2*(j-1):=⟨_,rfl⟩
     have hq2:2*(j:Int)-2=(q:Int):=by omega
     rw[<- hq]at k1 k2;rw[hq2];have hq8:q<8:=by omega
     have hq7:q+1<8:=by omega
     have k1':=(HB.out.cell (p:=⟨ba,oa+q,none⟩) hba).trans k1;have k2':=(HB.out.cell (p:=⟨ba,oa+(q+1),none⟩) hba).trans k2;obtain⟨C2,hC2,hCs,hC256,hCu⟩:=HT.out.ex;have hCo:=(hCu o.toNat o.toNat_lt).1 (by rw[show j=j-1+1 by omega];exact he);have HC2:=hid hC2;have H256:=hid hC256;have HCO:=hid hCo;have HCU:=hid hCu;have HCS:=hid hCs;have HP:=hid hp;have HQ:=hid hq;have ho8:o.toNat<256:=o.toNat_lt;have m1:wr.cell? ⟨g,o.toNat,none⟩=some (.slice none 0 0):=by simp[World.cell?,hC2,hCo]
     have m2:wr.cell? ⟨g,256,none⟩=some (.slice A4 m c4):=by simp[World.cell?,hC2,hC256]
     have n1:wr.frozen? ⟨g,o.toNat,none⟩=false:=by simp[World.frozen?,hC2]
     have n2:wr.frozen? ⟨g,256,none⟩=false:=by simp[World.frozen?,hC2]
     clear hC2 hp he hq hq2 k1 k2 hCo hC256 hCu hCs;have bg:∀ (o:UInt8) (h:0<(⟨#[o]⟩:ByteArray).size),(⟨#[o]⟩:ByteArray)[0]'h=o:=fun _ _=>rfl;go_upto_region 31 with fail
     have hbo:=fun w=>qh7 none 0 0 w;simp only[Option.isNone]at hbo;go_upto_region 32 with fail
     go_upto_region 33 with fail
     have hcv:Sem.run Tryz.prog (convert 83 9 (.slice (some ⟨wr.heap.size,0,none⟩) 1 1)) (wr.alloc (.cells #[.int .u8 (o.toNat:Int)] 5))=.ok (.string ⟨#[o]⟩) (wr.alloc (.cells #[.int .u8 (o.toNat:Int)] 5)):=by
      have:=Jw (w:=wr.alloc (.cells #[.int .u8 (o.toNat:Int)] 5)) (g:=wr.heap.size) (t:=5) [(o.toNat:Int)] (blk1 wr _) 1 rfl 1;simpa using this
     have hm4:m<=1000000000:=by
      have h1:=HO.out.1;rw[Jm]at h1;have h2:(tr j).length<=4:=by unfold tr;simp[prs]
      omega
     have hbb:=HB.out.size;go_upto_region 34 with (at_builtin;refine qr rfl _ _ 51 rfl w.heap.size 9 _ 1 16 Tryz.underlying51 QP rfl (by decide) (by decide) A4 m c4 _ rfl ((HO.out.alloc _).alloc _) (wr.heap.size+1) [.string ⟨#[o]⟩] rfl rfl (by intro q u hu;match q,hu with | 0,hu=>(simp at hu;subst hu;simp)) (by simp[Value.oneCell']) hm4 (by simp;omega) ?_;intro A5 c5 w5 hown5 hg5;(have hne5:=Qb HO.out HC2.out (by decide));(have hc5:=(hg5.block g (by simp;have:=(Array.getElem?_eq_some_iff.1 HC2.out).1;omega) (fun e=>hne5 e.symm)).trans ((((Bel.refl wr).alloc _).alloc _).blk HC2.out));(have HC5:=hid hc5);(have m5:w5.cell? ⟨g,256,none⟩=some (.slice A4 m c4):=by simp[World.cell?,HC5.out,H256.out]);(have n5:w5.frozen? ⟨g,256,none⟩=false:=by simp[World.frozen?,HC5.out]);(have HO5:=hid hown5);(have HG5:=hid hg5);clear hown5 hg5 hne5 hc5)
     refine qhl ?_;intro W6 hW6;have h6:W6.heap[g]?=some (.cells (C2.setIfInBounds 256 (.slice A5 (m+1) c5)) 257 (0,0)):=by rw[hW6];simp[World.setCell,Array.getElem?_modify,HC5.out]
     have hg6:g<W6.heap.size:=(Array.getElem?_eq_some_iff.1 h6).1;obtain⟨W7,hW7⟩:∃ W7,W7=Lib.bytesWorld W6 5 ⟨#[a,b']⟩:=⟨_,rfl⟩
     have hcv2:=Lib.run_convert_string_bytes (P:=Tryz.prog) W6 9 83 5 ⟨#[a,b']⟩ Tryz.underlying9 Tryz.underlying83 Tryz.underlying5;rw[<- hW7]at hcv2;obtain⟨ck,hck⟩:∃ ck,ck=grownCap W6 (⟨#[a,b']⟩:ByteArray).size 0 5:=⟨_,rfl⟩
     rw[<- hck]at hcv2;have hz2:(⟨#[a,b']⟩:ByteArray).size=2:=rfl;rw[hz2]at hcv2;obtain⟨bk,hbk⟩:∃ bk,bk=W6.heap.size:=⟨_,rfl⟩
     rw[<- hbk]at hcv2;have h7:W7.heap[g]?=some (.cells (C2.setIfInBounds 256 (.slice A5 (m+1) c5)) 257 (0,0)):=by rw[hW7,Lib.bytesWorld_at_old _ _ _ _ hg6];exact h6
     have m7:W7.cell? ⟨g,o.toNat,none⟩=some (.slice none 0 0):=by
      unfold World.cell?
      rw[h7];show (C2.setIfInBounds 256 _)[o.toNat]?=_
      rw[Array.getElem?_setIfInBounds_ne (by omega)];exact HCO.out
     have n7:W7.frozen? ⟨g,o.toNat,none⟩=false:=by simp[World.frozen?,h7]
     have hlt7:g<W7.heap.size:=(Array.getElem?_eq_some_iff.1 h7).1;have hnew:W7.heap[bk]?=some (.cells (Lib.bytesCells W6 5 ⟨#[a,b']⟩) 5 ((Lib.bytesCells W6 5 ⟨#[a,b']⟩).size,(Lib.bytesCells W6 5 ⟨#[a,b']⟩).size+1)):=by rw[hW7,hbk];exact Lib.bytesWorld_at_new _ _ _
     have hcn:∀ q x,[a,b'][q]?=some x->W7.cell? ⟨bk,q,none⟩=some (.int .u8 x.toNat):=fun q x hq=>by
      have hq2:q<2:=(List.getElem?_eq_some_iff.1 hq).1;rw[hW7,hbk,Lib.bytesWorld_cell W6 5 ⟨#[a,b']⟩ q (by rw[hz2];exact hq2)];congr 3
      show ([a,b'].getD q 0).toNat=x.toNat
      rw[List.getD_eq_getElem?_getD,hq];rfl
     have hold:∀ (x:Nat) (Cb:Array Value) (fr:Nat × Nat),wr.heap[x]?=some (.cells Cb 5 fr)->W7.heap[x]?=some (.cells Cb 5 fr):=fun x Cb fr hx=>by
      have hxl:=(Array.getElem?_eq_some_iff.1 hx).1;have hxg:x≠g:=fun e=>by
       rw[e,HC2.out]at hx;simp only[Option.some.injEq,Obj.cells.injEq]at hx;exact absurd hx.2.1 (by decide)
      have h5:w5.heap[x]?=some (.cells Cb 5 fr):=(HG5.out.block x (by simp;omega) (fun e=>Qb HO.out hx (by decide) e.symm)).trans ((((Bel.refl wr).alloc _).alloc _).blk hx);have h6x:W6.heap[x]?=some (.cells Cb 5 fr):=by rw[hW6,Below.heap_setCell _ _ _ _ hxg];exact h5
      rw[hW7,Lib.bytesWorld_at_old _ _ _ _ (Array.getElem?_eq_some_iff.1 h6x).1];exact h6x
     have htab:=qfy (ck:=ck) HP.out HCS.out (by have:=HCU.out;rw[show j-1+1=j by omega];exact this) h7 hold hnew hcn;have hb6:Bel w W6:=by
      rw[hW6];exact Below.setCell (Below.grown ((HB.out.alloc _).alloc _) HG5.out (by simp;omega) (fun k hk=>(HO.out.lt k hk).1)) (p:=⟨g,256,none⟩) (by show w.heap.size<=g;omega) _
     have hb7:Bel w W7:=by rw[hW7];exact hb6.on (qfK _ _ _)
     have ho7:W7.ownsRow w.heap.size 9 1 (.slice A5 (m+1) c5) (m+1) (strs (tr (j-1))):=by
      have e0:strs (tr (j-1))=strs (tr j)++[.string ⟨#[o]⟩]:=by
       rw[qhk HP.out,qei,show j-1+1=j by omega]
      rw[e0,hW7];refine qp ?_ (qfK _ _ _);rw[hW6];exact jR HO5.out fun x hx=>Below.heap_setCell _ _ _ _ (fun e=>Qb HO5.out HC5.out (by decide) (by rw[hx];exact congrArg some e))
     have HTB:=hid htab;have HB7:=hid (hb7.set_ (p:=⟨g,o.toNat,none⟩) (by show w.heap.size<=g;omega) (.slice (some ⟨bk,0,none⟩) 2 ck));have HO7:=hid (jR (w':=W7.setCell ⟨g,o.toNat,none⟩ (.slice (some ⟨bk,0,none⟩) 2 ck)) ho7 fun x hx=>Below.heap_setCell _ _ _ _ (fun e=>Qb ho7 h7 (by decide) (by rw[hx];exact congrArg some e)));clear hW6 hW7 hck hbk hnew hcn hold htab hb6 hb7 ho7 h7 h6 m5 n5 m2 n2 m1 n1;go_wp2
     have hqq:=HQ.out;go_roundg (gk-1)
     case rel=>exact⟨j-1,m+1,A5,c5,by congr 1;omega,hid ⟨by omega,by omega⟩,HTB,HO7,HB7⟩
     case measure=>omega
end Go.Proofs.YtfpoelklhekfaaaGreatDoor.Mu
