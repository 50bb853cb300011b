import Derived.Laws.RangeString
import Derived.Deep.LoopGhost
import Derived.Deep.WholeRow
import Derived.Lib.ConvBytes
import Derived.Test.YtmloadclmjcbbaaGreatDoorProg
import Derived.Conc.RwLib
import Derived.Conc.MuData
import Derived.Conc.MuLone
import Derived.Defers
import Derived.Laws.LoneSync
import Derived.RegionCalls
import Derived.Laws.IdiomCopy
import Derived.Lib.ValidU
import Derived.Lib.ItoaNum
import Derived.Test.YtmloadclmjcbbaaGreatDoorShelfV
import Derived.Lib.SmallJoins
import Derived.Shelf.Unicode.DecodeSlow
import Derived.Test.YtmloadclmjcbbaaGreatDoorRab
open Go.Lib (hid)
namespace Go.Proofs.YtmloadclmjcbbaaGreatDoor.Mu
open Go.RowKit Go.Shelf
set_option maxRecDepth 100000
structure Kr (g:Nat) (w w':World):Prop where
 os:w'.os=w.os
 tape:w'.tape=w.tape
 output:w'.output=w.output
 size:w.heap.size<=w'.heap.size
 block:∀ i,i<w.heap.size->i≠g->w'.heap[i]?=w.heap[i]?
section
variable {g : Nat} {a b c : World}
theorem Kr.refl(g:Nat)(w:World):Kr g w w:=⟨rfl,rfl,rfl,Nat.le_refl _,fun _ _ _=>rfl⟩
theorem Kr.of_bel(h:Bel a b):Kr g a b:=⟨h.os,h.tape,h.output,h.size,fun i hi _=>h.block i hi⟩
theorem Kr.on(h:Kr g a b)(k:Kr g b c):Kr g a c:=
 ⟨k.os.trans h.os,k.tape.trans h.tape,k.output.trans h.output,Nat.le_trans h.size k.size,fun i hi hn=>(k.block i (Nat.lt_of_lt_of_le hi h.size) hn).trans (h.block i hi hn)⟩
theorem Kr.bel(h:Kr g a b)(k:Bel b c):Kr g a c:=h.on (.of_bel k)
theorem Kr.set_(h:Kr g a b)(o:Nat)(v:Value):Kr g a (b.setCell ⟨g,o,none⟩ v):=by
 have k:Below g b (b.setCell ⟨g,o,none⟩ v):=Below.setCell (p:=⟨g,o,none⟩) (Below.refl _ _) (Nat.le_refl _) v;refine⟨k.os.trans h.os,k.tape.trans h.tape,k.output.trans h.output,by simpa using h.size,fun i hi hn=>?_⟩;rw[Below.heap_setCell _ _ _ _ (by show i≠g;exact hn)];exact h.block i hi hn
theorem Kr.keep(h:Kr g a b){i:Nat}{o:Obj}(hi:a.heap[i]?=some o)(hn:i≠g):b.heap[i]?=some o:=by
 rw[h.block i (Array.getElem?_eq_some_iff.1 hi).1 hn];exact hi
theorem Kr.own(h:Kr g a b)(hg:a.heap.size<=g):Bel a b:=⟨h.os,h.tape,h.output,h.size,fun i hi=>h.block i hi (by omega)⟩
theorem Kr.weak{w:World}(h:Bel w a)(k:Kr g a b)(hg:w.heap.size<=g):Bel w b:=
 ⟨k.os.trans h.os,k.tape.trans h.tape,k.output.trans h.output,Nat.le_trans h.size k.size,fun i hi=>(k.block i (by have:=h.size;omega) (by omega)).trans (h.block i hi)⟩
end
structure Rdr (w:World) (g:Nat) (A:OA) (n c:Nat) (xs:List Pn) (i:Nat):Prop where
 hp:w.heap[g]?=some (.cells #[.slice A n c,i] 173 (0,0))
 rp:RP w g A n xs
 le:i<=n
 small:n<=4000
section
variable {w w' : World} {g : Nat} {A : OA} {n c : Nat} {xs : List Pn} {i : Nat}
theorem Rdr.bel(h:Rdr w g A n c xs i)(hb:Bel w w'):Rdr w' g A n c xs i:=
 ⟨hb.blk h.hp,h.rp.keep fun b o hbb=>hb.cell (p:=⟨b,o,none⟩) (Nat.lt_trans hbb (Array.getElem?_eq_some_iff.1 h.hp).1),h.le,h.small⟩
theorem Rdr.lt(h:Rdr w g A n c xs i):g<w.heap.size:=(Array.getElem?_eq_some_iff.1 h.hp).1
theorem Rdr.set_(h:Rdr w g A n c xs i){k:Nat}(hk:k<=n):Rdr (w.setCell ⟨g,1,none⟩ (.int .i64 k)) g A n c xs k:=
 ⟨by simp[World.setCell,Array.getElem?_modify,h.hp],h.rp.keep fun b o hb=>World.cell?_of_block (a:=⟨b,o,none⟩) (Below.heap_setCell _ _ _ _ (by show b≠g;omega)),hk,h.small⟩
theorem Rdr.len(h:Rdr w g A n c xs i):n=xs.length:=h.rp.len
theorem Rdr.cells(h:Rdr w g A n c xs i):w.cell? ⟨g,0,none⟩=some (.slice A n c)/\w.cell? ⟨g,1,none⟩=some (.int .i64 i)/\w.frozen? ⟨g,0,none⟩=false/\w.frozen? ⟨g,1,none⟩=false:=by
 simp[World.cell?,World.frozen?,h.hp]
theorem Rdr.at_(h:Rdr w g A n c xs i)(hi:i<n):∃ b off x,A=some ⟨b,off,none⟩/\xs[i]?=some x/\w.cell? ⟨b,off+i*4,none⟩=some (.int .i32 x.r)/\w.cell? ⟨b,off+i*4+1,none⟩=some (.int .i64 x.p.a)/\w.cell? ⟨b,off+i*4+2,none⟩=some (.int .i64 x.p.l)/\w.cell? ⟨b,off+i*4+3,none⟩=some (.int .i64 x.p.c):=by
 obtain⟨b,off,rfl,hb,hc⟩:=h.rp.at_ (by omega);obtain⟨x,hx⟩:∃ x,xs[i]?=some x:=⟨_,List.getElem?_eq_getElem (by have:=h.len;omega)⟩
 exact⟨b,off,x,rfl,hx,hc i x hx⟩
end
def kdN(c:Int):Int:=if isBl c=true then 1 else if qI c=true then 2 else if isSm c=true then 3 else if isGr c=true then 4 else if c=95∨c=39 then 5 else if c=34 then 6 else 0
def kdL:List Int->Int
 | []=>1
 | c::_=>kdN c
def iwK(k:Int):Bool:=decide (k=2∨k=3∨k=4∨k=5)
theorem qkl(c:Int):iwK (kdN c)=isW c:=by
 unfold iwK kdN isW isBl qI isSm isGr;rw[Bool.eq_iff_iff];simp only[decide_eq_true_eq,Bool.or_eq_true];repeat' split
 all_goals omega
theorem qdF(c:Int)(w:World):Calls Tryz.prog 159 #[.int .i32 c] w fun e w'=>e=.returned (.int .u8 (kdN c))/\w=w':=by
 go_enter Tryz.func159,Tryz.ntmps159;go_wp2;all_goals (go_ret;refine⟨qfM ?_,rfl⟩;unfold kdN isBl qI isSm isGr;simp only[Bool.or_eq_true,decide_eq_true_eq];repeat' split;all_goals (simp_all;try omega))
theorem qg5(k:Int)(w:World):Calls Tryz.prog 183 #[.int .u8 k] w fun e w'=>e=.returned (.bool (iwK k))/\w=w':=by
 go_enter Tryz.func183,Tryz.ntmps183;go_wp2;all_goals (go_ret;refine⟨zr ?_,rfl⟩;unfold iwK;rw[Bool.eq_iff_iff];simp_all;try omega)
theorem Jb{g:Nat}{A:OA}{n c:Nat}{xs:List Pn}{i:Nat}(w:World)(h:Rdr w g A n c xs i):Calls Tryz.prog 122 #[.pointer (some ⟨g,0,none⟩)] w fun e w'=>e=.returned (.bool (decide (i<n)))/\Bel w w':=by
 obtain⟨c0,c1,f0,f1⟩:=h.cells;have hs:=h.small;have hl:=h.le;clear h;go_enter Tryz.func122,Tryz.ntmps122;go_wp2;all_goals go_region
 all_goals
  go_wp2;all_goals (go_ret;exact⟨zr (by simp),(Bel.refl w).drew⟩)
theorem Ja{g:Nat}{A:OA}{n c:Nat}{xs:List Pn}{i:Nat}(w:World)(h:Rdr w g A n c xs i):Calls Tryz.prog 140 #[.pointer (some ⟨g,0,none⟩)] w fun e w'=>e=.returned (.int .u8 (kdL ((xs.map Pn.r).drop i)))/\Bel w w':=by
 have HC:Hid (∀ w,Rdr w g A n c xs i->Calls Tryz.prog 122 #[.pointer (some ⟨g,0,none⟩)] w fun e w'=>e=.returned (.bool (decide (i<n)))/\Bel w w'):=hid fun w h=>Jb w h;have H:=hid h;have hln:=h.len;have hle:=h.le;have hsm:=h.small;clear h;by_cases hlt:i<n
 ·obtain⟨x,hx⟩:∃ x,xs[i]?=some x:=⟨_,List.getElem?_eq_getElem (by omega)⟩
  have hk:kdL ((xs.map Pn.r).drop i)=kdN x.r:=by
   have e:(xs.map Pn.r)[i]?=some x.r:=by simp[hx]
   obtain⟨hl,e2⟩:=List.getElem?_eq_some_iff.1 e;rw[List.drop_eq_getElem_cons hl,e2];rfl
  have HX:=hid hx;rw[hk];obtain⟨kk,hkk⟩:=nW (kdN x.r);have HO:Hid (∀ w,Calls Tryz.prog 159 #[.int .i32 x.r] w fun e w'=>e=.returned (.int .u8 kk)/\w=w'):=hid fun w=>by rw[hkk];exact qdF _ w
  rw[<- hkk];clear hk hx hkk;go_enter Tryz.func140,Tryz.ntmps140;go_wp2_with fail;refine (HC _ H).mono ?_;rintro e w1 ⟨rfl,hb⟩;rw[decide_eq_true hlt];have HD:=hid (H.bel hb);have HB:=hid hb;clear hb;obtain⟨c0,c1,f0,f1⟩:=HD.cells;obtain⟨b,off,y,rfl,hy,c2,-,-,-⟩:=HD.out.at_ hlt;obtain rfl:y=x:=Option.some.inj (hy.symm.trans HX);go_wp2_with fail;go_region_with (go_at_call 159;refine (HO _).mono ?_;rintro e w2 ⟨rfl,rfl⟩);all_goals
   go_wp2;go_ret;exact⟨rfl,HB.drew⟩
 ·have hk:kdL ((xs.map Pn.r).drop i)=1:=by rw[List.drop_eq_nil_of_le (by rw[List.length_map];omega)];rfl
  rw[hk];clear hk;go_enter Tryz.func140,Tryz.ntmps140;go_wp2_with fail;refine (HC _ H).mono ?_;rintro e w1 ⟨rfl,hb⟩;rw[decide_eq_false hlt];have HB:=hid hb;clear hb;go_wp2;go_ret;exact⟨rfl,HB⟩
theorem Zm{g:Nat}{A:OA}{n c:Nat}{xs:List Pn}{i:Nat}(ee:Int){k:Nat}{x:Pn}(hx:xs[k]?=some x)(w:World)(h:Rdr w g A n c xs i):Calls Tryz.prog 160 #[.pointer (some ⟨g,0,none⟩),ee,k] w fun e w'=>e=.returned (.tuple #[.agg #[.int .u8 0,.string ⟨#[]⟩,(0:Int),(0:Int),(0:Int),(0:Int)],.agg #[.int .i64 ee,x.p.a,x.p.l,x.p.c]])/\Bel w w':=by
 have hk:k<n:=by
  rw[h.len];exact (List.getElem?_eq_some_iff.1 hx).1
 obtain⟨c0,c1,f0,f1⟩:=h.cells;obtain⟨b,off,rfl,hb,hcc⟩:=h.rp.at_ (by omega);obtain⟨-,a1,a2,a3⟩:=hcc k x hx;have hsm:=h.small;have hlt:=h.lt;have hle:=h.le;have hbl:b<w.heap.size:=by omega
 clear h hcc hx;go_enter Tryz.func160,Tryz.ntmps160;go_wp2;all_goals go_region
 all_goals
  go_wp2;refine bodyPost_ret (v:= .tuple #[.agg #[.int .u8 0,.string ⟨#[]⟩,(0:Int),(0:Int),(0:Int),(0:Int)],.agg #[.int .i64 ee,x.p.a,x.p.l,x.p.c]]) ?_ rfl ⟨rfl,?_⟩
  ·simp[results,Tryz.results160,go_sem, *]
  ·repeat (first | exact Bel.refl _ | with_reducible refine Bel.set_ ?_ (by simp) _ | with_reducible refine Bel.alloc ?_ _ | with_reducible refine Bel.drew ?_)
set_option maxHeartbeats 4000000
theorem qhb{p l:List Int}{j:Nat}{x y:Int}(hx:p[j]?=some x)(hy:l[j]?=some y)(h:p.take j=l.take j):(p.take (j+1)=l.take (j+1)↔x=y):=by
 obtain⟨h1,rfl⟩:=List.getElem?_eq_some_iff.1 hx;obtain⟨h2,rfl⟩:=List.getElem?_eq_some_iff.1 hy;rw[List.take_succ_eq_append_getElem h1,List.take_succ_eq_append_getElem h2,h];exact⟨fun e=>by have:=List.append_cancel_left e;simpa using this,fun e=>by rw[e]⟩
theorem qca(p l:List Int):p.isPrefixOf l=decide (p.length<=l.length/\p.take p.length=l.take p.length):=by
 rw[Bool.eq_iff_iff,List.isPrefixOf_iff_prefix,List.prefix_iff_eq_take,decide_eq_true_iff,List.take_length];constructor
 ·intro h
  refine⟨?_,h⟩;have:=congrArg List.length h;rw[List.length_take]at this;omega
 ·exact fun h=>h.2
theorem qjW{p l:List Int}{j:Nat}(hj:j<=p.length)(h:p.take j≠l.take j):p.isPrefixOf l=false:=by
 rw[qca,decide_eq_false_iff_not];rintro⟨_,h2⟩;apply h;have:=congrArg (List.take j) h2;rwa [List.take_take,List.take_take,Nat.min_eq_left hj]at this
theorem qF{L:List Int}{k:Nat}{r:Int}(h:L[k]?=some r):L.drop k=r::L.drop (k+1):=by
 obtain⟨hl,rfl⟩:=List.getElem?_eq_some_iff.1 h;exact List.drop_eq_getElem_cons hl
theorem pre1(a:Int)(L:List Int)(k:Nat):[a].isPrefixOf (L.drop k)=decide (L[k]?=some a):=by
 cases e:L[k]? with
 | none=>
  have:L.drop k=[]:=List.drop_eq_nil_of_le (by simpa using e);rw[this];simp
 | some x=>
  rw[qF e];by_cases hx:x=a
  ·subst hx;simp
  ·have h1:(a==x)=false:=by simpa using fun h:a=x=>hx h.symm
   show ((a==x)&&[].isPrefixOf _)=_;rw[h1];simp[hx]
theorem pre2(a b:Int)(L:List Int)(k:Nat):[a,b].isPrefixOf (L.drop k)=decide (L[k]?=some a/\L[k+1]?=some b):=by
 cases e:L[k]? with
 | none=>
  have:L.drop k=[]:=List.drop_eq_nil_of_le (by simpa using e);rw[this];simp
 | some x=>
  have h:=pre1 b L (k+1);rw[qF e];rw[show [a,b].isPrefixOf (x::L.drop (k+1))=((a==x)&&[b].isPrefixOf (L.drop (k+1))) by rfl,h];by_cases hx:x=a
  ·subst hx;simp
  ·have h1:(a==x)=false:=by simpa using fun h:a=x=>hx h.symm
   rw[h1];simp[hx]
theorem qab{g:Nat}{A:OA}{n c:Nat}{xs:List Pn}{i:Nat}(s:LU)(hs:∀ u∈s,u.toNat<128)(hsz:s.length<=100)(w:World)(h:Rdr w g A n c xs i) :
  Calls Tryz.prog 141 #[.pointer (some ⟨g,0,none⟩),.string ⟨s.toArray⟩] w fun e w'=>e=.returned (.bool ((asc s).isPrefixOf ((xs.map Pn.r).drop i)))/\Bel w w':=by
 obtain⟨c0,c1,f0,f1⟩:=h.cells;have hsm:=h.small;have hle:=h.le;have H:=hid h;have HS:=hid hs;have hz:(⟨s.toArray⟩:BA).size=s.length:=by simp[ByteArray.size]
 have HZ:=hid hz;have hL:((xs.map Pn.r).drop i).length=n-i:=by rw[List.length_drop,List.length_map,<- h.len]
 have HL:=hid hL;have ha:(asc s).length=s.length:=qay s;have HA:=hid ha;clear h hs hz hL ha;obtain⟨ans,hans⟩:=nW ((asc s).isPrefixOf ((xs.map Pn.r).drop i));rw[<- hans];have HANS:=hid hans;clear hans;go_enter Tryz.func141,Tryz.ntmps141;go_wp2;all_goals go_region
 by_cases hlong:(n:Int)-i<(s.length:Int)
 ·have hno:ans=false:=by
   rw[HANS.out,qca,decide_eq_false_iff_not];rintro⟨h1,_⟩;rw[HL.out,HA.out]at h1;omega
  subst hno;go_wp2;go_ret;exact⟨rfl,(Bel.refl w).drew⟩
 ·have hlong2:i+s.length<=n:=by omega
  go_wp2;go_loopg [] (s.length+1) (fun gk wr=>∃ pos:Nat,Hid (pos<=s.length/\s.length-pos<gk)/\Hid (Bel w wr)/\Hid (wr.heap[w.heap.size]?=some (.stringIter ⟨s.toArray⟩ pos))/\Hid ((asc s).take pos=((xs.map Pn.r).drop i).take pos))
  case atStart=>
   exact⟨0,hid ⟨by omega,by omega⟩,hid ((Bel.refl w).drew.alloc _),hid (by have:=World.iter_heap w.drew ⟨s.toArray⟩ 0;simpa using this),hid (by simp)⟩
  case round=>
   obtain⟨pos,HP,HB,HI,HT⟩:=hrel;by_cases hp:pos<s.length
   ·have hasc:(s[pos]'hp).toNat<128:=HS.out _ (List.getElem_mem hp)
    obtain⟨u,hu⟩:=nW (s[pos]'hp);have hu2:((⟨s.toArray⟩:BA)[pos]'(by rw[HZ.out];exact hp))=u:=by rw[hu];show (s.toArray[pos]'_)=_;simp
    have hnx:∀ ty,(Instr.next (.pointer (some ⟨w.heap.size,0,none⟩)) true ty).run Tryz.prog wr=_:=fun ty=>Lib.run_next_ascii_at wr w.heap.size ⟨s.toArray⟩ pos ty HI (by rw[HZ.out];exact hp) (by rw[hu2,hu];exact hasc);rw[hu2]at hnx;obtain⟨w2,hw2⟩:=nW (wr.iterAt w.heap.size ⟨s.toArray⟩ (pos+1));rw[<- hw2]at hnx;have hI2:w2.heap[w.heap.size]?=some (.stringIter ⟨s.toArray⟩ (pos+1)):=by rw[hw2];exact Lib.iterAt_heap wr _ _ _ _ HI
    have hB2:Bel w w2:=by
     rw[hw2];exact⟨HB.out.os,HB.out.tape,HB.out.output,by simpa [World.iterAt] using HB.size,fun k hk=>by rw[<- HB.out.block k hk];simp[World.iterAt,Array.getElem?_setIfInBounds];omega⟩
    have HI2:=hid hI2;have HB2:=hid hB2;have HU:=hid hu;have HD:=hid (H.bel hB2);clear hI2 hB2 hw2 hu2 hu hasc;obtain⟨e0,e1,g0,g1⟩:=HD.cells;obtain⟨b,off,rfl,hb,hcc⟩:=HD.out.rp.at_ (by omega);obtain⟨y,hy⟩:∃ y,xs[i+pos]?=some y:=⟨_,List.getElem?_eq_getElem (by have:=HD.out.len;omega)⟩
    obtain⟨a0,-,-,-⟩:=hcc (i+pos) y hy;have HY:=hid hy;clear hcc hy;have ha2:(asc s)[pos]?=some (u.toNat:Int):=by
     rw[asc,List.getElem?_map,List.getElem?_eq_getElem hp,HU.out];rfl
    have hl2:((xs.map Pn.r).drop i)[pos]?=some y.r:=by rw[List.getElem?_drop,List.getElem?_map,HY.out];rfl
    have HST:=hid (qhb ha2 hl2 HT);clear ha2 hl2;go_wp2;all_goals go_region
    by_cases hyu:y.r=(u.toNat:Int)
    ·have hst:=HST.2 hyu.symm
     have HST2:=hid hst;clear hst;go_wp2;have hgp:=HP.out;go_roundg (gk-1)
     case rel=>exact⟨pos+1,hid ⟨by omega,by omega⟩,hid HB2.drew,hid HI2,HST2⟩
     case measure=>omega
    ·have hno:ans=false:=by
      rw[HANS.out];refine qjW (j:=pos+1) (by rw[HA.out];omega) fun h=>hyu (HST.1 h).symm
     subst hno;go_wp2;go_ret;exact⟨rfl,HB2.drew⟩
   ·obtain rfl:pos=s.length:=by have:=HP.out;omega
    have hnx:∀ ty,(Instr.next (.pointer (some ⟨w.heap.size,0,none⟩)) true ty).run Tryz.prog wr=_:=fun ty=>Lib.run_next_end_at wr w.heap.size ⟨s.toArray⟩ s.length ty HI (by rw[HZ.out];omega);have hyes:ans=true:=by
     rw[HANS.out,qca,decide_eq_true_iff,HL.out,HA.out];exact⟨by omega,HT⟩
    subst hyes;go_wp2;go_ret;exact⟨rfl,HB⟩
theorem qaL{x:Int}{L:List Int}{k:Nat}(h:L[k]?=some x):kdL (L.drop k)=kdN x:=by rw[qF h];rfl
theorem qjK(x:Int):(kdN x=1)↔isBl x=true:=by
 unfold kdN;constructor
 ·intro h
  by_cases hb:isBl x=true
  ·exact hb
  ·rw[if_neg hb]at h
   repeat' split at h
   all_goals (exact absurd h (by decide))
 ·intro h;rw[if_pos h]
theorem qgB{p:Int->Bool}{x:Int}{l:List Int}(h:p x=false):(x::l).dropWhile p=x::l:=by rw[List.dropWhile_cons,if_neg (by simp[h])]
theorem qbg{p:Int->Bool}{x:Int}{l:List Int}(h:p x=true):(x::l).dropWhile p=l.dropWhile p:=by rw[List.dropWhile_cons,if_pos h]
theorem qc5{L:List Int}{k:Nat}(h1:L[k]?=some 45)(h2:L[k+1]?=some 45):qo (L.drop k)=qo ((L.drop k).dropWhile fun x=>decide (x≠10)):=by
 rw[qF h1,qF h2,qbH,qbg (p:=fun x=>decide (x≠10)) (x:=45) (l:=45::_) (by decide)]
theorem qf0{L:List Int}{k:Nat}{x:Int}(h1:L[k]?=some x)(hb:isBl x=false)(h2:¬ (x=45/\L[k+1]?=some 45)):qo (L.drop k)=L.drop k:=by
 rw[qF h1,Qt hb (by rw[List.head?_drop];exact h2)]
theorem qht{g:Nat}{A:OA}{n c:Nat}{xs:List Pn}{i:Nat}(w:World)(h:Rdr w g A n c xs i) :
  Calls Tryz.prog 121 #[.pointer (some ⟨g,0,none⟩)] w fun e w'=>e=.returned (.tuple #[])/\∃ k,i<=k/\Rdr w' g A n c xs k/\qo ((xs.map Pn.r).drop i)=(xs.map Pn.r).drop k/\Kr g w w':=by
 obtain⟨L,hL⟩:=nW (xs.map Pn.r);have HM:Hid (∀ (w:World) (k:Nat),Rdr w g A n c xs k->Calls Tryz.prog 122 #[.pointer (some ⟨g,0,none⟩)] w fun e w'=>e=.returned (.bool (decide (k<n)))/\Bel w w'):=hid fun w k hk=>Jb w hk;have HK:Hid (∀ (w:World) (k:Nat),Rdr w g A n c xs k->Calls Tryz.prog 140 #[.pointer (some ⟨g,0,none⟩)] w fun e w'=>e=.returned (.int .u8 (kdL (L.drop k)))/\Bel w w'):=hid fun w k hk=>by rw[hL];exact Ja w hk
 have HR:Hid (∀ (w:World) (k:Nat),Rdr w g A n c xs k->Calls Tryz.prog 141 #[.pointer (some ⟨g,0,none⟩),.string ⟨#[45,45]⟩] w fun e w'=>e=.returned (.bool (decide (L[k]?=some 45/\L[k+1]?=some 45)))/\Bel w w'):=hid fun w k hk=>by
  have:=qab [45,45] (by decide) (by decide) w hk;rw[<- hL,show asc [45,45]=[45,45] by rfl,pre2]at this;exact this
 have HN:Hid (∀ (w:World) (k:Nat),Rdr w g A n c xs k->Calls Tryz.prog 141 #[.pointer (some ⟨g,0,none⟩),.string ⟨#[10]⟩] w fun e w'=>e=.returned (.bool (decide (L[k]?=some 10)))/\Bel w w'):=hid fun w k hk=>by
  have:=qab [10] (by decide) (by decide) w hk;rw[<- hL,show asc [10]=[10] by rfl,pre1]at this;exact this
 have hln:L.length=n:=by rw[hL,List.length_map,<- h.len]
 have HLN:=hid hln;have hsm:=h.small;have hle:=h.le;rw[<- hL];have H:=hid h;have HL:=hid hL;clear h hL hln;go_enter Tryz.func121,Tryz.ntmps121;go_wp2;go_loopg [] (n+1) (fun gk wr=>∃ k:Nat,Hid (i<=k/\k<=n/\n-k<gk)/\Hid (Rdr wr g A n c xs k)/\Hid (qo (L.drop i)=qo (L.drop k))/\Hid (Kr g w wr))
 case atStart=>exact⟨i,hid ⟨Nat.le_refl _,hle,by omega⟩,H,hid rfl,hid (Kr.refl g w)⟩
 case round=>
  obtain⟨k,HB,HD,HS,HKr⟩:=hrel;obtain⟨gok,hgok⟩:=nW gk;subst hgok;by_cases hlt:k<n
  ·have hm:∀ w',Rdr w' g A n c xs k->Calls Tryz.prog 122 #[.pointer (some ⟨g,0,none⟩)] w' fun e w2=>e=.returned (.bool true)/\Bel w' w2:=fun w' hd=>by have:=HM.out w' k hd;rwa [decide_eq_true hlt]at this
   have HMT:=hid hm;obtain⟨x,hx⟩:∃ x,L[k]?=some x:=⟨_,List.getElem?_eq_getElem (by rw[HLN.out];exact hlt)⟩
   have HX:=hid hx;have hk:∀ w',Rdr w' g A n c xs k->Calls Tryz.prog 140 #[.pointer (some ⟨g,0,none⟩)] w' fun e w2=>e=.returned (.int .u8 (kdN x))/\Bel w' w2:=fun w' hd=>by have:=HK.out w' k hd;rwa [qaL hx]at this
   have HKX:=hid hk;clear hm hx hk;go_wp2_with fail;refine (HMT _ HD).mono ?_;rintro e w1 ⟨rfl,hb⟩;have HD1:=hid (HD.bel hb);have HK1:=hid (HKr.bel hb);clear hb;go_wp2_with fail;refine (HKX _ HD1).mono ?_;rintro e w2 ⟨rfl,hb⟩;have HD2:=hid (HD1.bel hb);have HK2:=hid (HK1.bel hb);clear hb;by_cases hbl:isBl x=true
   ·rw[(qjK x).2 hbl]
    obtain⟨c0,c1,f0,f1⟩:=HD2.cells;go_wp2;have hss:qo (L.drop i)=qo (L.drop (k+1)):=by rw[HS.out,qF HX.out,Jh hbl]
    have HSS:=hid hss;clear hss;have hbb:=HB.out;go_roundg (gok-1)
    case rel=>exact⟨k+1,hid ⟨by omega,by omega,by omega⟩,hid (HD2.out.set_ (k:=k+1) (by omega)),HSS,hid (HK2.out.set_ _ _)⟩
    case measure=>omega
   ·have hnk:kdN x≠1:=fun e=>hbl ((qjK x).1 e)
    by_cases hrm:L[k]?=some 45/\L[k+1]?=some 45
    ·have hr:∀ w',Rdr w' g A n c xs k->Calls Tryz.prog 141 #[.pointer (some ⟨g,0,none⟩),.string ⟨#[45,45]⟩] w' fun e w2=>e=.returned (.bool true)/\Bel w' w2:=fun w' hd=>by have:=HR.out w' k hd;rwa [decide_eq_true hrm]at this
     have HRT:=hid hr;have HRM:=hid hrm;clear hr hrm;go_wp2_with fail;refine (HRT _ HD2).mono ?_;rintro e w3 ⟨rfl,hb⟩;have HD3:=hid (HD2.bel hb);have HK3:=hid (HK2.bel hb);clear hb;go_wp2_with fail;go_loopg [] (n+1) (fun gj wr=>∃ j:Nat,Hid (k<=j/\j<=n/\n-j<gj)/\Hid (Rdr wr g A n c xs j)/\Hid ((L.drop k).dropWhile (fun x=>decide (x≠10))=(L.drop j).dropWhile (fun x=>decide (x≠10)))/\Hid (Kr g w wr)/\Hid (j=k->L[k]?=some 45))
     case atStart=>exact⟨k,hid ⟨Nat.le_refl _,by omega,by omega⟩,HD3,hid rfl,HK3,hid fun _=>HRM.1⟩
     case round=>
      obtain⟨j,HJ,HE,HW,HKj,H45⟩:=hrel;by_cases hjn:j<n
      ·have hm:∀ w',Rdr w' g A n c xs j->Calls Tryz.prog 122 #[.pointer (some ⟨g,0,none⟩)] w' fun e w2=>e=.returned (.bool true)/\Bel w' w2:=fun w' hd=>by have:=HM.out w' j hd;rwa [decide_eq_true hjn]at this
       have HMJ:=hid hm;obtain⟨y,hy⟩:∃ y,L[j]?=some y:=⟨_,List.getElem?_eq_getElem (by rw[HLN.out];exact hjn)⟩
       have HY:=hid hy;clear hm hy;go_wp2_with fail;refine (HMJ _ HE).mono ?_;rintro e w4 ⟨rfl,hb⟩;have HE1:=hid (HE.bel hb);have HKj1:=hid (HKj.bel hb);clear hb;by_cases hy10:y=10
       ·have hn:∀ w',Rdr w' g A n c xs j->Calls Tryz.prog 141 #[.pointer (some ⟨g,0,none⟩),.string ⟨#[10]⟩] w' fun e w2=>e=.returned (.bool true)/\Bel w' w2:=fun w' hd=>by have:=HN.out w' j hd;rwa [HY.out,hy10,decide_eq_true rfl]at this
        have HNJ:=hid hn;clear hn;go_wp2_with fail;refine (HNJ _ HE1).mono ?_;rintro e w5 ⟨rfl,hb⟩;have HE2:=hid (HE1.bel hb);have HKj2:=hid (HKj1.bel hb);clear hb;have hnk2:j≠k:=fun e=>by have:=H45.out e;rw[<- e,HY.out,hy10]at this;exact absurd this (by decide)
        have hss:qo (L.drop i)=qo (L.drop j):=by
         rw[HS.out,qc5 HRM.out.1 HRM.out.2,HW.out,qF HY.out,hy10,qgB (by decide)]
        have HSS:=hid hss;clear hss;go_wp2;have hbb:=HB.out;have hjj:=HJ.out;go_roundg (gok-1)
        case rel=>exact⟨j,hid ⟨by omega,by omega,by omega⟩,HE2,HSS,HKj2⟩
        case measure=>omega
       ·have hn:∀ w',Rdr w' g A n c xs j->Calls Tryz.prog 141 #[.pointer (some ⟨g,0,none⟩),.string ⟨#[10]⟩] w' fun e w2=>e=.returned (.bool false)/\Bel w' w2:=fun w' hd=>by have:=HN.out w' j hd;rwa [HY.out,decide_eq_false (by simpa using hy10)]at this
        have HNJ:=hid hn;clear hn;go_wp2_with fail;refine (HNJ _ HE1).mono ?_;rintro e w5 ⟨rfl,hb⟩;have HE2:=hid (HE1.bel hb);have HKj2:=hid (HKj1.bel hb);clear hb;obtain⟨c0,c1,f0,f1⟩:=HE2.cells;have hww:(L.drop k).dropWhile (fun x=>decide (x≠10))=(L.drop (j+1)).dropWhile (fun x=>decide (x≠10)):=by
         rw[HW.out,qF HY.out,qbg (by simpa using hy10)]
        have HWW:=hid hww;clear hww;go_wp2;have hjj:=HJ.out;go_roundg (gk-1)
        case rel=>exact⟨j+1,hid ⟨by omega,by omega,by omega⟩,hid (HE2.out.set_ (k:=j+1) (by omega)),HWW,hid (HKj2.out.set_ _ _),hid fun e=>by omega⟩
        case measure=>omega
      ·have hjn2:j=n:=by have:=HJ.out;omega
       subst hjn2;have hm:∀ w',Rdr w' g A j c xs j->Calls Tryz.prog 122 #[.pointer (some ⟨g,0,none⟩)] w' fun e w2=>e=.returned (.bool false)/\Bel w' w2:=fun w' hd=>by have:=HM.out w' j hd;rwa [decide_eq_false hjn]at this
       have HMJ:=hid hm;clear hm;go_wp2_with fail;refine (HMJ _ HE).mono ?_;rintro e w4 ⟨rfl,hb⟩;have HE1:=hid (HE.bel hb);have HKj1:=hid (HKj.bel hb);clear hb;have hss:qo (L.drop i)=qo (L.drop j):=by
        rw[HS.out,qc5 HRM.out.1 HRM.out.2,HW.out,List.drop_eq_nil_of_le (by rw[HLN.out];exact Nat.le_refl _)];rfl
       have HSS:=hid hss;clear hss;go_wp2;have hbb:=HB.out;have hjj:=HJ.out;go_roundg (gok-1)
       case rel=>exact⟨j,hid ⟨by omega,by omega,by omega⟩,HE1,HSS,HKj1⟩
       case measure=>omega
    ·have hr:∀ w',Rdr w' g A n c xs k->Calls Tryz.prog 141 #[.pointer (some ⟨g,0,none⟩),.string ⟨#[45,45]⟩] w' fun e w2=>e=.returned (.bool false)/\Bel w' w2:=fun w' hd=>by have:=HR.out w' k hd;rwa [decide_eq_false hrm]at this
     have HRT:=hid hr;have hst:qo (L.drop k)=L.drop k:=qf0 HX (by simpa using hbl) fun h=>hrm ⟨by rw[HX.out,h.1],h.2⟩;have HST:=hid hst;clear hr hrm hst;go_wp2_with fail;refine (HRT _ HD2).mono ?_;rintro e w3 ⟨rfl,hb⟩;have HD3:=hid (HD2.bel hb);have HK3:=hid (HK2.bel hb);clear hb;go_wp2;refine bodyPost_ret (v:= .tuple #[]) (by simp[results,Tryz.results121,go_sem]) rfl ⟨rfl,k,by have:=HB.out;omega,HD3,by rw[HS.out,HST.out],HK3⟩
  ·have hkn:k=n:=by have:=HB.out;omega
   subst hkn;have hm:∀ w',Rdr w' g A k c xs k->Calls Tryz.prog 122 #[.pointer (some ⟨g,0,none⟩)] w' fun e w2=>e=.returned (.bool false)/\Bel w' w2:=fun w' hd=>by have:=HM.out w' k hd;rwa [decide_eq_false hlt]at this
   have HMT:=hid hm;clear hm;go_wp2_with fail;refine (HMT _ HD).mono ?_;rintro e w1 ⟨rfl,hb⟩;have HD1:=hid (HD.bel hb);have HK1:=hid (HKr.bel hb);clear hb;go_wp2;go_end0;refine⟨rfl,k,by have:=HB.out;omega,HD1,?_,HK1⟩;rw[HS.out,List.drop_eq_nil_of_le (by rw[HLN.out];exact Nat.le_refl _),jk]
theorem qq{w:World}{g:Nat}{t:TypeId}{x0 x1 x2 x3 x4 x5:Value}(h:w.heap[g]?=some (.cells #[x0,x1,x2,x3,x4,x5] t (0,0))) :
  (w.cell? ⟨g,0,none⟩=some x0/\w.cell? ⟨g,1,none⟩=some x1/\w.cell? ⟨g,2,none⟩=some x2/\w.cell? ⟨g,3,none⟩=some x3/\w.cell? ⟨g,4,none⟩=some x4/\w.cell? ⟨g,5,none⟩=some x5) ∧
   w.frozen? ⟨g,0,none⟩=false/\w.frozen? ⟨g,1,none⟩=false/\w.frozen? ⟨g,2,none⟩=false/\w.frozen? ⟨g,3,none⟩=false/\w.frozen? ⟨g,4,none⟩=false/\w.frozen? ⟨g,5,none⟩=false:=by
 simp[World.cell?,World.frozen?,h]
def bxT:Obj:= .cells #[.int .u8 0,.string ⟨#[]⟩,.int .i64 0,.int .i64 0,.int .i64 0,.int .i64 0] 85
def bxD:Obj:= .cells #[.int .i64 0,.int .i64 0,.int .i64 0,.int .i64 0] 140
def tkV(k:Int)(s:LU)(n:Int):Value:= .tuple #[.agg #[.int .u8 k,.string ⟨s.toArray⟩,.int .i64 n,.int .i64 0,.int .i64 0,.int .i64 0],.agg #[.int .i64 0,.int .i64 0,.int .i64 0,.int .i64 0]]
def erV(e:Int)(p:Pl):Value:= .tuple #[.agg #[.int .u8 0,.string ⟨#[]⟩,.int .i64 0,.int .i64 0,.int .i64 0,.int .i64 0],.agg #[.int .i64 e,.int .i64 p.a,.int .i64 p.l,.int .i64 p.c]]
theorem ZR{A:OA}{n c:Nat}{l:List Int}(k:Int)(hl:AllCp l)(hn:(encs l).length<=4000)(w:World)(h:RI .i32 w w.heap.size A n l) :
  Calls Tryz.prog 165 #[.int .u8 k,.slice A n c] w fun e w'=>e=.returned (tkV k (encs l) 0)/\Bel w w':=by
 have hn2:n<=1000000000:=by have:=h.len;have:=zj hl;omega
 have HP:Hid (∀ w,RI .i32 w w.heap.size A n l->Calls Tryz.prog 185 #[.slice A n c] w (GPut l w)):=hid fun w h=>qiT hn2 w h;have H:=hid h;have HL:=hid hl;have HN:=hid hn;clear h hl hn;go_enter Tryz.func165,Tryz.ntmps165;go_wp2_with fail;have hb2:Bel w ((w.alloc bxT).alloc bxD):=((Bel.refl w).alloc _).alloc _;refine (HP _ (H.bel hb2)).mono ?_;rintro e w1 ⟨hb,rfl⟩;have hS:putS l=encs l:=by unfold putS;rw[if_pos ⟨(ZV l).2 HL.out,HN.out⟩]
 have hE:putE l=0:=by unfold putE;rw[if_pos ((ZV l).2 HL.out),if_pos HN.out]
 rw[hS,hE];clear hS hE;obtain⟨q1,q2⟩:=blk2 w bxT bxD;obtain⟨⟨c0,c1,c2,c3,c4,c5⟩,f0,f1,f2,f3,f4,f5⟩:=qq (hb.blk q1);obtain⟨d0,d1,d2,d3,g0,g1,g2,g3⟩:=qU (hb.blk q2);have HB:=hid (hb2.on hb);have hs1:w.heap.size+2<=w1.heap.size:=by have:=hb.size;simpa using this
 clear hb hb2 q1 q2;go_wp2;refine bodyPost_ret (v:=tkV k (encs l) 0) ?_ rfl ⟨rfl,?_⟩
 ·simp[tkV,results,Tryz.results165,go_sem, *]
 ·repeat (first | with_reducible exact HB.out | with_reducible refine Bel.set_ ?_ (by simp) _ | with_reducible refine Bel.alloc ?_ _ | with_reducible refine Bel.drew ?_)
theorem ZT{P:Program}{ops:Array Oper}{o:Oper}{a:Act}{w:World}{K:Act->World->Prop}{Q:Exit->Act->World->Prop}{E:Prop}
  (hg:o.guard=none) (s x:Operand) (t:TypeId) (hop:o.op=Op.call { callee:=Callee.builtin Builtin.append,args:=#[s,x],argTypes:=#[t,t] })
  (base:Nat) (e:TypeId) (z:Value) (size bytes:Nat) (h1:P.underlying t=some (.slice e)) (hinfo:(P.info? e).map (fun i=>(i.zero,i.size,i.bytes))=some (some z,size,bytes)) (h6:z.cells.size=size) (h7:0<size) (hby:bytes<=1000)
  (A:OA) (n cap:Nat) (xs:List Value) (hs:a.eval s=.slice A n cap) (hown:w.ownsRow base e size (.slice A n cap) n xs)
  (b:Nat) (news:List Value) (hx:a.eval x=.slice (some ⟨b,0,none⟩) 1 1) (hn:news.length=size) (hc:∀ j u,news[j]?=some u->w.cell? ⟨b,j,none⟩=some u) (h1c:∀ u∈news,u.oneCell'=true)
  (hmax:n<=1000000000) (hbase:base<=w.heap.size)
  (hK:∀ A' c' w',w'.ownsRow base e size (.slice A' (n+1) c') (n+1) (xs++news)->w.grownBy w' (Value.slice A n cap).ownBlock->K (a.put o.dst (.slice A' (n+1) c')) w') :
  if Region.wanted o (yielded ops a.tmps)=true then Oper.wp P o a w K Q else E:=by
 have hw:Region.wanted o (yielded ops a.tmps)=true:=by simp[Region.wanted,hg]
 rw[if_pos hw];obtain⟨i,hi,hz0,hz1,hz2⟩:=info_parts hinfo;obtain⟨v',w',hrun,r1,r2,_⟩:=run_append_own (P:=P) w base t o.type e i z size bytes h1 hi hz0 hz1 hz2 h6 h7 (.slice A n cap) n xs hown ⟨b,0,none⟩ 1 1 news (by omega) (fun j u hu=>by rw[Addr.add_lit];simpa using hc j u hu) h1c (by unfold maxLen;omega)
  (Nat.le_trans (Nat.mul_le_mul (show n+1<=1000000001 by omega) hby) (by omega)) hbase
 unfold Oper.wp;simp[execOp,hop,resolve,invoke,builtin,hs,hx,hrun,Result.andThen];obtain⟨A',c',rfl⟩:=Qp r1;exact hK A' c' w' r1 r2
theorem Rdr.below_{w w':World}{g:Nat}{A:OA}{n c:Nat}{xs:List Pn}{i B:Nat}(h:Rdr w g A n c xs i)(hb:Below B w w')(hg:g<B):Rdr w' g A n c xs i:=
 ⟨by rw[hb.block g hg];exact h.hp,h.rp.keep fun b o hbb=>hb.cell (p:=⟨b,o,none⟩) (Nat.lt_trans hbb hg),h.le,h.small⟩
theorem Kr.below_{a b c:World}{g B:Nat}(h:Kr g a b)(k:Below B b c)(ha:a.heap.size<=B):Kr g a c:=
 ⟨k.os.trans h.os,k.tape.trans h.tape,k.output.trans h.output,Nat.le_trans h.size k.size,fun i hi hn=>(k.block i (by omega)).trans (h.block i hi hn)⟩
theorem qem{W w5:World}{base:Nat}{e:TypeId}{size:Nat}{V:Value}{n:Nat}{xs:List Value}(hown:W.ownsRow base e size V n xs){o:Obj}(hg:(W.drew.alloc o).grownBy w5 V.ownBlock)(hB:base<=W.heap.size):Below base W w5:=
 Below.grown (((Below.refl base W).drew).alloc hB o) hg (by simp;omega) (fun j hj=>(hown.lt _ hj).1)
theorem Rdr.setN{w:World}{g:Nat}{A:OA}{n c:Nat}{xs:List Pn}{i:Nat}(h:Rdr w g A n c xs i){p:Addr}(hp:g<p.block)(v:Value):Rdr (w.setCell p v) g A n c xs i:=
 h.below_ (B:=g+1) (Below.setCell (Below.refl _ _) hp v) (Nat.lt_succ_self g)
theorem Kr.setN{a b:World}{g:Nat}(h:Kr g a b){p:Addr}(hp:a.heap.size<=p.block)(v:Value):Kr g a (b.setCell p v):=
 h.below_ (B:=a.heap.size) (Below.setCell (Below.refl _ _) hp v) (Nat.le_refl _)
theorem Jo:(Tryz.prog.info? 21).map (fun i=>(i.zero,i.size,i.bytes))=some (some (.int .i32 0),1,4):=by kernel_rfl
theorem qgf{p:Int->Bool}{L:List Int}{i j:Nat}(hj:j<=((L.drop i).takeWhile p).length)(h:L[i+j]?=none):j=((L.drop i).takeWhile p).length:=by
 have e:=List.takeWhile_append_dropWhile (p:=p) (l:=L.drop i);have h1:(L.drop i)[j]?=none:=by rw[List.getElem?_drop];exact h
 have h2:=List.getElem?_eq_none_iff.1 h1;have h3:=congrArg List.length e;rw[List.length_append]at h3;omega
theorem qa0{p:Int->Bool}{L:List Int}{i j:Nat}{x:Int}(hj:j<=((L.drop i).takeWhile p).length)(h:L[i+j]?=some x):(j<((L.drop i).takeWhile p).length↔p x=true)/\(j<((L.drop i).takeWhile p).length->((L.drop i).takeWhile p)[j]?=some x):=by
 obtain⟨T,hT⟩:=nW ((L.drop i).takeWhile p);obtain⟨D,hD⟩:=nW ((L.drop i).dropWhile p);have e:=List.takeWhile_append_dropWhile (p:=p) (l:=L.drop i);have h1:(L.drop i)[j]?=some x:=by rw[List.getElem?_drop];exact h
 rw[<- e,<- hT,<- hD]at h1;rw[<- hT]at hj ⊢;have key:j<T.length->T[j]?=some x:=fun hl=>by rwa [List.getElem?_append_left hl]at h1
 refine⟨⟨fun hl=>?_,fun hp=>?_⟩,key⟩
 ·have:=List.mem_of_getElem? (key hl)
  rw[hT]at this;exact ze p _ x this
 ·rcases Nat.lt_or_ge j T.length with hl | hl
  ·exact hl
  ·exfalso
   have hj2:j=T.length:=by omega
   rw[List.getElem?_append_right (by omega),hj2,Nat.sub_self]at h1;cases hd:D with
   | nil=>rw[hd]at h1;simp at h1
   | cons y ys=>
    rw[hd]at h1;simp at h1;have:=List.head_dropWhile_not (p:=p) (l:=L.drop i) (by rw[<- hD,hd];simp);simp only[<- hD,hd,List.head_cons]at this;rw[h1,hp]at this;cases this
theorem qiD{L:List Int}{i j:Nat}(hj:j<=((L.drop i).takeWhile isW).length):iwK (kdL (L.drop (i+j)))=decide (j<((L.drop i).takeWhile isW).length):=by
 cases h:L[i+j]? with
 | none=>
  have:=qgf hj h;have e:L.drop (i+j)=[]:=List.drop_eq_nil_of_le (by simpa using h);rw[e,decide_eq_false (p:=j<_) (by omega)];rfl
 | some x=>
  rw[qaL h,qkl,Bool.eq_iff_iff,decide_eq_true_iff];exact (qa0 hj h).1.symm
theorem qg2(x:Int):decide (kdN x=2)=qI x:=by
 unfold kdN;rw[Bool.eq_iff_iff,decide_eq_true_iff];by_cases hb:isBl x=true
 ·rw[if_pos hb]
  have:=(qbZ hb).2;simp[this]
 ·rw[if_neg hb]
  by_cases hd:qI x=true
  ·rw[if_pos hd];simp[hd]
  ·rw[if_neg hd]
   constructor
   ·intro h
    repeat' split at h
    all_goals (exact absurd h (by decide))
   ·intro h;exact absurd h hd
theorem qiB{L:List Int}{i j:Nat}(hj:j<=((L.drop i).takeWhile qI).length):decide (kdL (L.drop (i+j))=2)=decide (j<((L.drop i).takeWhile qI).length):=by
 cases h:L[i+j]? with
 | none=>
  have:=qgf hj h;have e:L.drop (i+j)=[]:=List.drop_eq_nil_of_le (by simpa using h);rw[e,decide_eq_false (p:=j<_) (by omega)];rfl
 | some x=>
  rw[qaL h,qg2,Bool.eq_iff_iff,decide_eq_true_iff];exact (qa0 hj h).1.symm
theorem qhU{T:List Int}(h:∀ c∈T,isW c=true):AllCp T:=fun c hc=>QR (Zq (h c hc))
theorem qaO{g:Nat}{A:OA}{n c:Nat}{xs:List Pn}{i:Nat}(kk:Int){x:Pn}(hx:xs[i]?=some x)(w:World)(h:Rdr w g A n c xs i) :
  Calls Tryz.prog 161 #[.pointer (some ⟨g,0,none⟩),.int .u8 kk] w fun e w'=>
   e=.returned (if 24<(((xs.map Pn.r).drop i).takeWhile isW).length then erV 3 x.p else tkV kk (encs (((xs.map Pn.r).drop i).takeWhile isW)) 0)/\Rdr w' g A n c xs (i+(((xs.map Pn.r).drop i).takeWhile isW).length)/\Kr g w w':=by
 obtain⟨L,hL⟩:=nW (xs.map Pn.r);obtain⟨T,hT⟩:=nW ((L.drop i).takeWhile isW);have hall:∀ c∈T,isW c=true:=by rw[hT];exact ze _ _
 have hcp:AllCp T:=qhU hall;have henc:(encs T).length=T.length:=by
  rw[jo fun c hc=>Zq (hall c hc)];simp[byt]
 have hlen:i+T.length<=n:=by
  have e:=List.takeWhile_append_dropWhile (p:=isW) (l:=L.drop i);have h3:=congrArg List.length e;rw[List.length_append,<- hT,List.length_drop,hL,List.length_map,<- h.len]at h3;have:=h.le;omega
 have HKD:Hid (∀ (w:World) (j:Nat),j<=T.length->Rdr w g A n c xs (i+j)->Calls Tryz.prog 140 #[.pointer (some ⟨g,0,none⟩)] w fun e w'=>e=.returned (.int .u8 (kdL (L.drop (i+j))))/\Bel w w'):=hid fun w j _ hd=>by rw[hL];exact Ja w hd
 have HIW:Hid (∀ (w:World) (j:Nat),j<=T.length->Calls Tryz.prog 183 #[.int .u8 (kdL (L.drop (i+j)))] w fun e w'=>e=.returned (.bool (decide (j<T.length)))/\w=w'):=hid fun w j hj=>by
  have:=qg5 (kdL (L.drop (i+j))) w;rwa [qiD (by rw[<- hT];exact hj),<- hT]at this
 have HAT:Hid (∀ (w:World) (j:Nat),j<T.length->Rdr w g A n c xs (i+j)->∃ b off r,A=some ⟨b,off,none⟩/\T[j]?=some r/\w.cell? ⟨b,off+(i+j)*4,none⟩=some (.int .i32 r)):=hid fun w j hj hd=>by
  obtain⟨b,off,y,e1,e2,e3,-⟩:=hd.at_ (by omega);refine⟨b,off,y.r,e1,?_,e3⟩;rw[hT]at hj ⊢;exact (qa0 (by omega) (by rw[hL];simp[e2])).2 hj
 have HWR:Hid (∀ (w:World) (j:Nat),Rdr w g A n c xs j->Calls Tryz.prog 160 #[.pointer (some ⟨g,0,none⟩),.int .i64 3,i] w fun e w'=>e=.returned (erV 3 x.p)/\Bel w w'):=hid fun w j hd=>Zm 3 hx w hd;have HTX:Hid (∀ (w:World) (A2:OA) (c2:Nat),T.length<=24->RI .i32 w w.heap.size A2 T.length T->Calls Tryz.prog 165 #[.int .u8 kk,.slice A2 T.length c2] w fun e w'=>e=.returned (tkV kk (encs T) 0)/\Bel w w'):=hid fun w A2 c2 h24 hr=>ZR kk hcp (by omega) w hr;rw[<- hL,<- hT];obtain⟨ans,hans⟩:=nW (if 24<T.length then erV 3 x.p else tkV kk (encs T) 0);rw[<- hans];have HANS:=hid hans;clear hans;have hsm:=h.small;have hle:=h.le;have H:=hid h;have hglt:=h.lt;clear h hL hT hall hcp henc hx;obtain⟨c0,c1,f0,f1⟩:=H.cells;go_enter Tryz.func161,Tryz.ntmps161;go_wp2;have hb2:Bel w ((w.alloc bxT).alloc bxD):=((Bel.refl w).alloc _).alloc _;have hs2:((w.alloc bxT).alloc bxD).heap.size=w.heap.size+2:=by simp
 obtain⟨q1,q2⟩:=blk2 w bxT bxD;have H2:=hid (H.bel hb2);obtain⟨w0,hw0⟩:=nW ((w.alloc bxT).alloc bxD);have HW0:=hid hw0;rw[<- hw0]at H2 hb2 hs2 q1 q2;have HB0:=hid hb2;have HQ1:=hid q1;have HQ2:=hid q2;have HS2:=hid hs2;clear hb2 q1 q2 hs2 c0 c1 f0 f1;go_loopg [7] (T.length+1) (fun gk v wr=>∃ (j:Nat) (A2:OA) (c2:Nat),v=.slice A2 j c2/\Hid (j<=T.length/\T.length-j<gk)/\Hid (Rdr wr g A n c xs (i+j))/\Hid (wr.ownsRow (w.heap.size+2) 21 1 (.slice A2 j c2) j ((T.take j).map (Value.int .i32)))/\Hid (Kr g w0 wr))
 case atStart=>
  exact⟨0,none,0,rfl,hid ⟨by omega,by omega⟩,by have:=H2;rw[HW0.out]at this;exact this,hid (World.ownsRow_nil _ _ _ _),by have:=hid (Kr.refl g w0);rw[HW0.out]at this ⊢;exact this⟩
 case round=>
  obtain⟨j,A2,c2,rfl,HJ,HD,HO,HK⟩:=hrel;have hbs:w.heap.size+2<=wr.heap.size:=by have:=HK.size;have:=HS2.out;omega
  by_cases hj:j<T.length
  ·go_wp2_with fail
   refine (HKD _ j (by omega) HD).mono ?_;rintro e w1 ⟨rfl,hb⟩;have HD1:=hid (HD.bel hb);have HK1:=hid (HK.bel hb);have HO1:=hid (qG HO hb);have hbs1:w.heap.size+2<=w1.heap.size:=Nat.le_trans hbs hb.size;clear hb;go_wp2_with fail;refine (HIW _ j (by omega)).mono ?_;rintro e w2 ⟨rfl,rfl⟩;rw[decide_eq_true hj];have hat:=HAT.out w1 j hj HD1;obtain⟨q,hq⟩:=nW (i+j);rw[<- hq]at hat HD1;have hqn:q<n:=by omega
   have HQ:=hid hq;clear hq;obtain⟨c0,c1,f0,f1⟩:=HD1.cells;obtain⟨b,off,r,rfl,hTj,a0⟩:=hat;have HTJ:=hid hTj;clear hTj;go_wp2_with fail;go_region_law (refine ZT rfl (.tmp 22) (.tmp 34) 223 rfl (w.heap.size+2) 21 _ 1 4 Tryz.underlying223 Jo rfl (by decide) (by decide) A2 j c2 ((T.take j).map (Value.int .i32)) (by simp[Act.eval]) (by exact HO1.alloc _) w1.heap.size [.int .i32 r] (by simp[Act.eval]) rfl (by exact za w1 _ _) (by simp[Value.oneCell']) (by omega) (by simp;omega) ?_;intro A' c' w5 hown5 hg5;(have HO5:=hid hown5);(have HG5:=hid hg5);clear hown5 hg5);all_goals
    have HB5:=hid (qem HO1 HG5 hbs1);have HD5:=hid (HD1.out.below_ HB5 (by omega));have HK5:=hid (HK1.out.below_ HB5 (by have:=HS2.out;omega));clear c0 c1 f0 f1;obtain⟨c0,c1,f0,f1⟩:=HD5.cells;go_wp2;have hjj:=HJ.out;go_roundg (gk-1)
    case rel=>
     exact⟨j+1,A',c',rfl,hid ⟨by omega,by omega⟩,hid (by have:=HD5.out.set_ (k:=q+1) (by omega);rw[show i+(j+1)=q+1 by have:=HQ.out;omega];exact this),hid (zT (by rw[List.take_succ_eq_append_getElem hj,List.map_append];have:=HTJ.out;rw[List.getElem?_eq_getElem hj]at this;rw[Option.some.inj this];exact HO5) (by show g<w.heap.size+2;omega) _),hid (HK5.out.set_ _ _)⟩
    case measure=>omega
  ·have hjT:j=T.length:=by have:=HJ.out;omega
   have hRI:∀ W,Bel wr W->RI .i32 W W.heap.size A2 T.length T:=fun W hb=>by
    have:=qG HO hb;rw[hjT,List.take_length]at this;exact RI.of_own this
   have HRI:=hid hRI;clear hRI;subst hjT;go_wp2_with fail;refine (HKD _ _ (Nat.le_refl _) HD).mono ?_;rintro e w1 ⟨rfl,hb⟩;have HD1:=hid (HD.bel hb);have HK1:=hid (HK.bel hb);have HR1:=hid hb;clear hb;go_wp2_with fail;refine (HIW _ _ (Nat.le_refl _)).mono ?_;rintro e w2 ⟨rfl,rfl⟩;rw[decide_eq_false hj];by_cases h24:24<T.length
   ·have ha:ans=erV 3 x.p:=by rw[HANS.out,if_pos h24]
    subst ha;go_wp2_with fail;refine (HWR _ _ HD1).mono ?_;rintro e w2 ⟨rfl,hb⟩;have HD2:=hid (HD1.bel hb);have HK2:=hid (HK1.bel hb);have hs:=Nat.le_trans (Nat.le_trans hbs HR1.size) hb.size;clear hb;obtain⟨⟨t0,t1,t2,t3,t4,t5⟩,f0,f1,f2,f3,f4,f5⟩:=qq (HK2.keep HQ1 (by omega));obtain⟨d0,d1,d2,d3,g0,g1,g2,g3⟩:=qU (HK2.keep HQ2 (by omega));unfold erV;go_wp2;refine bodyPost_ret (v:=erV 3 x.p) ?_ rfl ⟨rfl,?_,?_⟩
    ·simp[erV,results,Tryz.results161,go_sem, *]
    ·repeat (first | with_reducible exact HD2.out | with_reducible refine Rdr.setN ?_ (by show g<w.heap.size+_;omega) _ | with_reducible refine Rdr.setN ?_ (by show g<w.heap.size;omega) _)
    ·have hk:Kr g w w2:=(Kr.of_bel HB0).on HK2
     repeat (first | with_reducible exact hk | with_reducible refine Kr.setN ?_ (by simp) _)
   ·have ha:ans=tkV kk (encs T) 0:=by rw[HANS.out,if_neg h24]
    subst ha;go_wp2_with fail;refine (HTX _ A2 c2 (by omega) (HRI _ HR1)).mono ?_;rintro e w2 ⟨rfl,hb⟩;have HD2:=hid (HD1.bel hb);have HK2:=hid (HK1.bel hb);have hs:=Nat.le_trans (Nat.le_trans hbs HR1.size) hb.size;clear hb;obtain⟨⟨t0,t1,t2,t3,t4,t5⟩,f0,f1,f2,f3,f4,f5⟩:=qq (HK2.keep HQ1 (by omega));obtain⟨d0,d1,d2,d3,g0,g1,g2,g3⟩:=qU (HK2.keep HQ2 (by omega));unfold tkV;go_wp2;refine bodyPost_ret (v:=tkV kk (encs T) 0) ?_ rfl ⟨rfl,?_,?_⟩
    ·simp[tkV,results,Tryz.results161,go_sem, *]
    ·repeat (first | with_reducible exact HD2.out | with_reducible refine Rdr.setN ?_ (by show g<w.heap.size+_;omega) _ | with_reducible refine Rdr.setN ?_ (by show g<w.heap.size;omega) _)
    ·have hk:Kr g w w2:=(Kr.of_bel HB0).on HK2
     repeat (first | with_reducible exact hk | with_reducible refine Kr.setN ?_ (by simp) _)
theorem qgo{P:Program}{c:Code}{Q:Exit->Act->World->Prop}{a:Act}{w:World}(h:∀ W,W=w->c.wp P Q a W):c.wp P Q a w:=h w rfl
theorem qho{w:World}{g:Nat}{t:TypeId}{x0 x1 x2 x3 x4 x5:Value}(h:w.heap[g]?=some (.cells #[x0,x1,x2,x3,x4,x5] t (0,0)))(v0 v1 v2 v3 v4 v5:Value) :
  ((((((w.setCell ⟨g,0,none⟩ v0).setCell ⟨g,1,none⟩ v1).setCell ⟨g,2,none⟩ v2).setCell ⟨g,3,none⟩ v3).setCell ⟨g,4,none⟩ v4).setCell ⟨g,5,none⟩ v5).heap[g]?=some (.cells #[v0,v1,v2,v3,v4,v5] t (0,0)):=by
 simp[World.setCell,Array.getElem?_modify,h]
theorem qhn{w:World}{g:Nat}{t:TypeId}{x0 x1 x2 x3:Value}(h:w.heap[g]?=some (.cells #[x0,x1,x2,x3] t (0,0)))(v0 v1 v2 v3:Value) :
  ((((w.setCell ⟨g,0,none⟩ v0).setCell ⟨g,1,none⟩ v1).setCell ⟨g,2,none⟩ v2).setCell ⟨g,3,none⟩ v3).heap[g]?=some (.cells #[v0,v1,v2,v3] t (0,0)):=by
 simp[World.setCell,Array.getElem?_modify,h]
theorem ZH{A:OA}{n c:Nat}{ts:List LU}(s:LU)(hn:n<=1000000)(w:World)(h:RL w w.heap.size A n ts):Calls Tryz.prog 162 #[.slice A n c,.string ⟨s.toArray⟩] w fun e w'=>e=.returned (.bool (decide (s∈ts)))/\w=w':=by
 obtain⟨hl,hc⟩:=h;by_cases h0:n=0
 ·subst h0
  obtain rfl:ts=[]:=List.eq_nil_of_length_eq_zero hl.symm;exact (Tryz.slices_Contains_string_empty A c ⟨s.toArray⟩ w).mono fun e w' h=>⟨by simpa using h.1,h.2.symm⟩
 ·obtain⟨b,off,rfl,hb,hcell⟩:=hc (by omega)
  refine (Tryz.slices_Contains_string b off n c (ts.map fun s=>⟨s.toArray⟩) ⟨s.toArray⟩ w (by simp[hl]) (by omega) (fun j hj=>?_)).mono fun e w' h=>⟨?_,h.2.symm⟩
  ·rw[List.length_map]at hj
   rw[hcell j _ (List.getElem?_eq_getElem hj)];simp[hj]
  ·rw[h.1]
   congr 2;rw[Bool.eq_iff_iff,Lib.containsS_iff,decide_eq_true_iff];have e:(ts.map fun s=>(⟨s.toArray⟩:BA)).take n=ts.map fun s=>⟨s.toArray⟩:=List.take_of_length_le (by simp[hl]);rw[e,List.mem_map];constructor
   ·rintro⟨t,ht,he⟩
    have:t.toArray=s.toArray:=by injection he
    have h2:=congrArg Array.toList this;simp at h2;rw[<- h2];exact ht
   ·intro hs;exact⟨s,hs,rfl⟩
theorem qgn(w:World):Calls Tryz.prog 163 #[] w fun e w'=>(∃ A,e=.returned (.slice A 6 6)/\RL w' w'.heap.size A 6 qK)/\Bel w w':=by
 go_enter Tryz.func163,Tryz.ntmps163;go_wp2;go_ret;refine⟨⟨_,rfl,?_⟩,(Bel.refl _).alloc _⟩;exact RL.lit w qK _ (by kernel_rfl) 6 (by kernel_rfl) _
theorem qfm(w:World):Calls Tryz.prog 164 #[] w fun e w'=>(∃ A,e=.returned (.slice A 10 10)/\RL w' w'.heap.size A 10 qS)/\Bel w w':=by
 go_enter Tryz.func164,Tryz.ntmps164;go_wp2;go_ret;refine⟨⟨_,rfl,?_⟩,(Bel.refl _).alloc _⟩;exact RL.lit w qS _ (by kernel_rfl) 10 (by kernel_rfl) _
theorem qfZ(w:World):Calls Tryz.prog 167 #[] w fun e w'=>(∃ A,e=.returned (.slice A 22 22)/\RL w' w'.heap.size A 22 zC)/\Bel w w':=by
 go_enter Tryz.func167,Tryz.ntmps167;go_wp2;go_ret;refine⟨⟨_,rfl,?_⟩,(Bel.refl _).alloc _⟩;exact RL.lit w zC _ (by kernel_rfl) 22 (by kernel_rfl) _
theorem qif{g:Nat}{A:OA}{n c:Nat}{xs:List Pn}{i:Nat}{x:Pn}(hx:xs[i]?=some x)(w:World)(h:Rdr w g A n c xs i) :
  Calls Tryz.prog 144 #[.pointer (some ⟨g,0,none⟩)] w fun e w'=>
   e=.returned (if 24<(((xs.map Pn.r).drop i).takeWhile isW).length then erV 3 x.p else tkV 2 (encs (((xs.map Pn.r).drop i).takeWhile isW)) 0)/\Rdr w' g A n c xs (i+(((xs.map Pn.r).drop i).takeWhile isW).length)/\Kr g w w':=by
 obtain⟨T,hT⟩:=nW (((xs.map Pn.r).drop i).takeWhile isW);have HN:Hid (∀ w,Rdr w g A n c xs i->Calls Tryz.prog 161 #[.pointer (some ⟨g,0,none⟩),.int .u8 2] w fun e w'=>
   e=.returned (if 24<T.length then erV 3 x.p else tkV 2 (encs T) 0)/\Rdr w' g A n c xs (i+T.length)/\Kr g w w'):=hid fun w hd=>by rw[hT];exact qaO 2 hx w hd
 rw[<- hT];have H:=hid h;have hglt:=h.lt;clear h hT hx;have hb2:Bel w ((w.alloc bxT).alloc bxD):=((Bel.refl w).alloc _).alloc _;have HB2:=hid hb2;obtain⟨q1,q2⟩:=blk2 w bxT bxD;have HQ1:=hid q1;have HQ2:=hid q2;clear hb2 q1 q2;by_cases h24:24<T.length
 ·have hn:∀ w,Rdr w g A n c xs i->Calls Tryz.prog 161 #[.pointer (some ⟨g,0,none⟩),.int .u8 2] w fun e w'=>e=.returned (erV 3 x.p)/\Rdr w' g A n c xs (i+T.length)/\Kr g w w':=fun w hd=>by have:=HN.out w hd;rwa [if_pos h24]at this
  rw[if_pos h24];have HNN:=hid hn;clear hn;unfold erV at HNN ⊢;go_enter Tryz.func144,Tryz.ntmps144;go_wp2_with fail;refine (HNN _ (H.bel HB2)).mono ?_;rintro e w1 ⟨rfl,hd,hk⟩;have HD:=hid hd;have hs:w.heap.size+2<=w1.heap.size:=by have:=hk.size;simpa using this
  obtain⟨⟨t0,t1,t2,t3,t4,t5⟩,f0,f1,f2,f3,f4,f5⟩:=qq (hk.keep HQ1 (by omega));obtain⟨d0,d1,d2,d3,g0,g1,g2,g3⟩:=qU (hk.keep HQ2 (by omega));have HK:=hid (((Kr.of_bel HB2).on hk:Kr g w w1));clear hd hk;go_wp2;refine bodyPost_ret ?_ rfl ⟨rfl,?_,?_⟩
  ·simp[results,Tryz.results144,go_sem, *]
  ·repeat (first | with_reducible exact HD.out | with_reducible refine Rdr.setN ?_ (by show g<w.heap.size+_;omega) _ | with_reducible refine Rdr.setN ?_ (by show g<w.heap.size;omega) _)
  ·repeat (first | with_reducible exact HK.out | with_reducible refine Kr.setN ?_ (by simp) _)
 ·have hn:∀ w,Rdr w g A n c xs i->Calls Tryz.prog 161 #[.pointer (some ⟨g,0,none⟩),.int .u8 2] w fun e w'=>e=.returned (tkV 2 (encs T) 0)/\Rdr w' g A n c xs (i+T.length)/\Kr g w w':=fun w hd=>by have:=HN.out w hd;rwa [if_neg h24]at this
  rw[if_neg h24];have HNN:=hid hn;clear hn;unfold tkV at HNN ⊢;go_enter Tryz.func144,Tryz.ntmps144;go_wp2_with fail;refine (HNN _ (H.bel HB2)).mono ?_;rintro e w1 ⟨rfl,hd,hk⟩;have HD:=hid hd;have hs:w.heap.size+2<=w1.heap.size:=by have:=hk.size;simpa using this
  obtain⟨⟨t0,t1,t2,t3,t4,t5⟩,f0,f1,f2,f3,f4,f5⟩:=qq (hk.keep HQ1 (by omega));obtain⟨d0,d1,d2,d3,g0,g1,g2,g3⟩:=qU (hk.keep HQ2 (by omega));have HK:=hid (((Kr.of_bel HB2).on hk:Kr g w w1));clear hd hk;go_wp2;refine bodyPost_ret ?_ rfl ⟨rfl,?_,?_⟩
  ·simp[results,Tryz.results144,go_sem, *]
  ·repeat (first | with_reducible exact HD.out | with_reducible refine Rdr.setN ?_ (by show g<w.heap.size+_;omega) _ | with_reducible refine Rdr.setN ?_ (by show g<w.heap.size;omega) _)
  ·repeat (first | with_reducible exact HK.out | with_reducible refine Kr.setN ?_ (by simp) _)
set_option maxHeartbeats 8000000
def oldnew:List LU:=[[10],[92,110],[9],[92,116],[34],[92,34],[92],[92,92]]
def prs:List (Nat × LU):=[(10,[92,110]),(9,[92,116]),(34,[92,34]),(92,[92,92])]
def escT(j u:Nat):Option (LU):=((prs.drop j).find? fun p=>p.1=u).map (·.2)
theorem qkw:∀ j,j<4->∃ (o a b:UInt8),oldnew[2*j]?=some [o]/\oldnew[2*j+1]?=some [a,b]/\prs[j]?=some (o.toNat,[a,b])/\escT (j+1) o.toNat=none
 | 0,_=>⟨10,92,110,rfl,rfl,rfl,by decide⟩
 | 1,_=>⟨9,92,116,rfl,rfl,rfl,by decide⟩
 | 2,_=>⟨34,92,34,rfl,rfl,rfl,by decide⟩
 | 3,_=>⟨92,92,92,rfl,rfl,rfl,by decide⟩
 | j+4,h=>by omega
theorem j5{w:World}{g:Nat}{t:TypeId}{x0 x1 x2 x3 x4:Value}(h:w.heap[g]?=some (.cells #[x0,x1,x2,x3,x4] t (0,0))) :
  (w.cell? ⟨g,0,none⟩=some x0/\w.cell? ⟨g,1,none⟩=some x1/\w.cell? ⟨g,2,none⟩=some x2/\w.cell? ⟨g,3,none⟩=some x3/\w.cell? ⟨g,4,none⟩=some x4) ∧
   w.frozen? ⟨g,0,none⟩=false/\w.frozen? ⟨g,1,none⟩=false/\w.frozen? ⟨g,2,none⟩=false/\w.frozen? ⟨g,3,none⟩=false/\w.frozen? ⟨g,4,none⟩=false:=by
 simp[World.cell?,World.frozen?,h]
theorem Zu{w:World}{B s:Nat}{e T:TypeId}{v:Value}{n:Nat}{xs:List Value}{b:Nat}{cs:Array Value}{fr:Nat × Nat}(hown:w.ownsRow B e s v n xs)(hb:w.heap[b]?=some (.cells cs T fr))(hTe:T≠e):v.ownBlock≠some b:=by
 rcases hown.2 with ⟨rfl,_⟩ | ⟨g,cap,cur,rfl,_,hg,_⟩
 ·simp[Value.ownBlock]
 ·intro h
  simp only[Value.ownBlock,Option.some.injEq]at h;subst h;rw[hg]at hb;simp only[Option.some.injEq,Obj.cells.injEq]at hb;exact hTe hb.2.1.symm
theorem Ze{w w':World}{B s:Nat}{e:TypeId}{v:Value}{n:Nat}{xs:List Value}(h:w.ownsRow B e s v n xs)(hk:∀ j,v.ownBlock=some j->w'.heap[j]?=w.heap[j]?):w'.ownsRow B e s v n xs:=by
 refine⟨h.1,?_⟩;rcases h.2 with h0 | ⟨g,cap,cur,rfl,hb,hg,r⟩
 ·exact .inl h0
 ·exact .inr ⟨g,cap,cur,rfl,hb,(hk g rfl).trans hg,r⟩
structure Tab (w:World) (g:Nat) (S:Value) (j:Nat):Prop where
 ex:∃ C:Array Value,w.heap[g]?=some (.cells C 244 (0,0))/\C.size=257/\C[256]?=some S ∧
  ∀ u,u<256->((escT j u=none->C[u]?=some (.slice none 0 0))/\∀ bs,escT j u=some bs->∃ bk ck Cb fr,C[u]?=some (.slice (some ⟨bk,0,none⟩) bs.length ck)/\w.heap[bk]?=some (.cells Cb 5 fr)/\∀ q x,bs[q]?=some x->w.cell? ⟨bk,q,none⟩=some (.int .u8 x.toNat))
theorem qjU(A:OA)(n c:Nat)(w:World):Sem.run Tryz.prog (binOp .eql 89 (.slice A n c) (.slice none 0 0)) w=.ok (.bool A.isNone) w:=by
 cases A <;> rfl
def tr(j:Nat):List LU:=(prs.drop j).reverse.map fun p=>[UInt8.ofNat p.1]
theorem qjb{j:Nat}{o:UInt8}{bs:LU}(h:prs[j]?=some (o.toNat,bs)):tr j=tr (j+1)++[[o]]:=by
 obtain⟨hl,e⟩:=List.getElem?_eq_some_iff.1 h;unfold tr;rw[List.drop_eq_getElem_cons hl,e];simp
theorem qgN{j:Nat}{o:UInt8}{bs:LU}(h:prs[j]?=some (o.toNat,bs))(u:Nat):escT j u=if o.toNat=u then some bs else escT (j+1) u:=by
 obtain⟨hl,e⟩:=List.getElem?_eq_some_iff.1 h;unfold escT;rw[List.drop_eq_getElem_cons hl,e,List.find?_cons];by_cases hu:o.toNat=u
 ·simp[hu]
 ·simp[hu]
theorem qjd{P:Program}{c:Code}{Q:Exit->Act->World->Prop}{a:Act}{w:World}(h:∀ W,W=w->c.wp P Q a W):c.wp P Q a w:=h w rfl
theorem Jp:(Tryz.prog.info? 9).map (fun i=>(i.zero,i.size,i.bytes))=some (some (.string ⟨#[]⟩),1,16):=by kernel_rfl
theorem qku(base:Nat)(W:World)(hb:base<=W.heap.size):∃ w',(Instr.makeSlice 44 (.int .i64 0) (.int .i64 4)).run Tryz.prog W=.ok (.slice (some ⟨W.heap.size,0,none⟩) 0 4) w'/\w'.ownsRow base 9 1 (.slice (some ⟨W.heap.size,0,none⟩) 0 4) 0 []/\Bel W w':=by
 obtain⟨i0,hi0,hz0,hz1,hz2⟩:=info_parts Jp;obtain⟨w',h1,h2,h3⟩:=run_make_own (P:=Tryz.prog) W base 44 9 i0 (.string ⟨#[]⟩) 1 Tryz.underlying44 hi0 hz0 hz1 .i64 .i64 4 (by rw[hz2];decide) (by unfold maxLen;decide) hb;exact⟨w',h1,h2,Below.grown (Bel.refl W) h3 (Nat.le_refl _) (fun x hx=>by cases hx)⟩
theorem qj7:Tryz.zeroCells244.all (·.oneCell')=true:=by kernel_rfl
theorem qgq:Tryz.zeroCells244.size=257:=by kernel_rfl
theorem qjn:Tryz.zeroCells244.toList=List.replicate 257 (.slice none 0 0):=by kernel_rfl
theorem qjm:(Tryz.prog.info? 244).map (·.size)=some 257:=by kernel_rfl
theorem qfL(V:Value)(hV:V.oneCell'=true)(w:World):∃ C:Array Value,C.toList=(List.replicate 256 (.slice none 0 0))++[V]/\Sem.run Tryz.prog (storeCells ⟨w.heap.size,0,none⟩ (Tryz.zeroCells244.toList.set 256 V)) (w.alloc (.cells Tryz.zeroCells244 244))=.ok () (w.alloc (.cells C 244)):=by
 obtain⟨C,hC⟩:=nW ((Tryz.zeroCells244.toList.set 256 V).toArray:Array Value);have hl:C.toList=Tryz.zeroCells244.toList.set 256 V:=by rw[hC]
 have hs:C.size=257:=by rw[hC,List.size_toArray,List.length_set,Array.length_toList];exact qgq
 refine⟨C,?_,?_⟩
 ·rw[hl,qjn,show List.replicate 257 (Value.slice none 0 0)=List.replicate 256 (.slice none 0 0)++[.slice none 0 0] by rfl,List.set_append_right _ _ (by simp)]
  simp
 ·have:=run_storeCells_new (P:=Tryz.prog) w 244 Tryz.zeroCells244 C (by rw[hs];exact qjm) (by rw[hs];exact qgq) (by
   rw[Array.all_eq_true_iff_forall_mem];intro x hx;have hx2:x∈Tryz.zeroCells244.toList.set 256 V:=by rw[<- hl];simpa using hx
   rcases List.mem_or_eq_of_mem_set hx2 with h | h
   ·exact (Array.all_eq_true_iff_forall_mem.1 qj7) x (by simpa using h)
   ·rw[h];exact hV)
  rw[hl]at this;exact this
theorem qhL(w:World)(e:TypeId)(s:BA):Bel w (Lib.bytesWorld w e s):=
 ⟨rfl,rfl,rfl,by rw[Lib.bytesWorld_size];omega,fun k hk=>Lib.bytesWorld_at_old w e s k hk⟩
theorem qhB{wr W7:World}{g j bk ck:Nat}{o a b':UInt8}{S':Value}{C2 Cn:Array Value}{frn:Nat × Nat}(hj:prs[j]?=some (o.toNat,[a,b']))(hCs:C2.size=257)
  (hCu:∀ u,u<256->((escT (j+1) u=none->C2[u]?=some (.slice none 0 0))/\∀ bs,escT (j+1) u=some bs->∃ bk ck Cb fr,C2[u]?=some (.slice (some ⟨bk,0,none⟩) bs.length ck)/\wr.heap[bk]?=some (.cells Cb 5 fr)/\∀ q x,bs[q]?=some x->wr.cell? ⟨bk,q,none⟩=some (.int .u8 x.toNat)))
  (h5:W7.heap[g]?=some (.cells (C2.setIfInBounds 256 S') 244 (0,0)))
  (hold:∀ (x:Nat) (Cb:Array Value) (fr:Nat × Nat),wr.heap[x]?=some (.cells Cb 5 fr)->W7.heap[x]?=some (.cells Cb 5 fr))
  (hnew:W7.heap[bk]?=some (Obj.cells Cn 5 frn)) (hc:∀ q x,[a,b'][q]?=some x->W7.cell? ⟨bk,q,none⟩=some (.int .u8 x.toNat)) :
  Tab (W7.setCell ⟨g,o.toNat,none⟩ (.slice (some ⟨bk,0,none⟩) 2 ck)) g S' j:=by
 have ho:=o.toNat_lt;have hne:∀ (x:Nat) (Cb:Array Value) (fr:Nat × Nat),W7.heap[x]?=some (.cells Cb 5 fr)->x≠g:=fun x Cb fr hx e=>by
  rw[e,h5]at hx;simp only[Option.some.injEq,Obj.cells.injEq]at hx;exact absurd hx.2.1 (by decide)
 have hblk:∀ (x:Nat) (Cb:Array Value) (fr:Nat × Nat),W7.heap[x]?=some (.cells Cb 5 fr)->(W7.setCell ⟨g,o.toNat,none⟩ (.slice (some ⟨bk,0,none⟩) 2 ck)).heap[x]?=some (.cells Cb 5 fr):=fun x Cb fr hx=>by
  rw[Below.heap_setCell _ _ _ _ (hne x Cb fr hx)];exact hx
 refine⟨(C2.setIfInBounds 256 S').setIfInBounds o.toNat (.slice (some ⟨bk,0,none⟩) 2 ck),?_,by simpa using hCs,?_,fun u hu=>?_⟩
 ·simp[World.setCell,Array.getElem?_modify,h5]
 ·rw[Array.getElem?_setIfInBounds_ne (by omega),Array.getElem?_setIfInBounds_self_of_lt (by omega)]
 rw[qgN hj u];by_cases hou:o.toNat=u
 ·rw[if_pos hou]
  refine⟨fun h=>(by cases h),fun bs hbs=>?_⟩;injection hbs with hbs
  subst hbs;refine⟨bk,ck,Cn,frn,?_,hblk bk Cn frn hnew,fun q x hq=>?_⟩
  ·rw[<- hou,Array.getElem?_setIfInBounds_self_of_lt (by simp;omega)];rfl
  ·rw[<- hc q x hq]
   exact World.cell?_of_block (a:=⟨bk,q,none⟩) ((hblk bk Cn frn hnew).trans hnew.symm)
 ·rw[if_neg hou]
  have e1:((C2.setIfInBounds 256 S').setIfInBounds o.toNat (.slice (some ⟨bk,0,none⟩) 2 ck))[u]?=C2[u]?:=by
   rw[Array.getElem?_setIfInBounds_ne hou,Array.getElem?_setIfInBounds_ne (by omega)]
  rw[e1];refine⟨(hCu u hu).1,fun bs hbs=>?_⟩;obtain⟨x,cx,Cb,fr,h1,h2,h3⟩:=(hCu u hu).2 bs hbs;refine⟨x,cx,Cb,fr,h1,hblk x Cb fr (hold x Cb fr h2),fun q y hq=>?_⟩;rw[<- h3 q y hq];exact World.cell?_of_block (a:=⟨x,q,none⟩) ((hblk x Cb fr (hold x Cb fr h2)).trans h2.symm)
theorem qex{b:Nat}{A:OA}{cp:Nat}(w:World)(hb:w.heap[b]?=some (.cells #[.int .u32 0,.int .i32 1,.int .u32 0,.nilIface,.slice A 8 cp] 196 (0,0)))(hr:RL w w.heap.size A 8 oldnew) :
  Calls Tryz.prog 153 #[.pointer (some ⟨b,0,none⟩)] w fun e w'=>∃ (g:Nat) (A4:OA) (c4:Nat),e=.returned (.iface 245 (.pointer (some ⟨g,0,none⟩)))/\w.heap.size<=g/\Tab w' g (.slice A4 4 c4) 0/\w'.ownsRow w.heap.size 9 1 (.slice A4 4 c4) 4 (strs (tr 0))/\Bel w w':=by
 obtain⟨-,hr2⟩:=hr;obtain⟨ba,oa,rfl,hba,hcc⟩:=hr2 (by omega);have HC:=hid hcc;have hcell:∀ j,j<4->∃ (o a b:UInt8),(prs[j]?=some (o.toNat,[a,b])/\escT (j+1) o.toNat=none)/\w.cell? ⟨ba,oa+2*j,none⟩=some (.string ⟨#[o]⟩)/\w.cell? ⟨ba,oa+(2*j+1),none⟩=some (.string ⟨#[a,b]⟩):=fun j hj=>by
  obtain⟨o,a,b,h1,h2,h3⟩:=qkw j hj;exact⟨o,a,b,h3,hcc _ _ h1,hcc _ _ h2⟩
 have HCE:=hid hcell;have H:=hid hb;have hlt:=(Array.getElem?_eq_some_iff.1 hb).1;obtain⟨⟨c0,c1,c2,c3,c4⟩,f0,f1,f2,f3,f4⟩:=j5 hb;clear hcc hcell hr2 hb;go_enter Tryz.func153,Tryz.ntmps153;go_wp2_with fail;go_loop [4,5] (fun v i=>∃ j:Nat,j<=4/\i=.int .i64 (2*(j:Int))/\v=.bool (decide (j=0))) (fun _ i=>8-(intOf i).toNat)
 case atStart=>exact⟨0,by omega,rfl,rfl⟩
 case round=>
  obtain⟨j,hj,rfl,rfl⟩:=hrel;by_cases hj4:j<4
  ·obtain⟨o,a,b',-,k1,k2⟩:=HCE.out j hj4
   obtain⟨q,hq⟩:=nW (2*j);have hq2:2*(j:Int)=(q:Int):=by omega
   rw[<- hq]at k1 k2;rw[hq2];have hq7:q+1<8:=by omega
   have hq8:q<8:=by omega
   have HQ:=hid hq;clear hq hq2;go_wp2;all_goals
    refine⟨⟨j+1,by omega,by have:=HQ.out;congr 1;omega,by simp⟩,?_⟩;simp[intOf];omega
  ·obtain rfl:j=4:=by omega
   obtain⟨w1,hmk,ho1,hb1⟩:=qku w.heap.size w (Nat.le_refl _);have HO1:=hid ho1;have HB1:=hid hb1;clear ho1 hb1;obtain⟨C,hC,hst⟩:=qfL (.slice (some ⟨w.heap.size,0,none⟩) 0 4) rfl w1;have HCL:=hid hC;clear hC;go_wp2_with fail;have hT0:Tab (w1.alloc (.cells C 244)) w1.heap.size (.slice (some ⟨w.heap.size,0,none⟩) 0 4) 4:=by
    have hl:=congrArg List.length HCL;refine⟨C,blk1 w1 _,by simpa using hl,?_,fun u hu=>⟨fun _=>?_,fun bs hbs=>?_⟩⟩
    ·rw[<- Array.getElem?_toList,HCL.out,List.getElem?_append_right (by simp)];simp
    ·rw[<- Array.getElem?_toList,HCL.out,List.getElem?_append_left (by simpa using hu),List.getElem?_replicate,if_pos hu]
    ·simp[escT,prs]at hbs
   have HT0:=hid hT0;have hw1:w.heap.size<w1.heap.size:=by
    rcases HO1.2 with ⟨h,_⟩ | ⟨g0,cap0,cur,hv,_,h0,_⟩
    ·cases h
    ·injection hv with hv _ _
     injection hv with hv
     injection hv with hv _ _
     rw[hv];exact (Array.getElem?_eq_some_iff.1 h0).1
   obtain⟨g,hg⟩:=nW w1.heap.size;rw[<- hg]at HT0 hw1 ⊢;have HG:=hid hg;clear hT0 hg;go_loopg [12] 5 (fun gk v wr=>∃ (j m:Nat) (A4:OA) (c4:Nat),v=.int .i64 (2*(j:Int)-2)/\Hid (j<=4/\j<gk)/\Hid (Tab wr g (.slice A4 m c4) j)/\Hid (wr.ownsRow w.heap.size 9 1 (.slice A4 m c4) m (strs (tr j)))/\Hid (Bel w wr))
   case atStart=>exact⟨4,0,_,4,by simp,hid ⟨by omega,by omega⟩,HT0,hid (qG HO1 ((Bel.refl _).alloc _)),hid (HB1.alloc _)⟩
   case round=>
    obtain⟨j,m,A4,c4,rfl,HJ,HT,HO,HB⟩:=hrel;have hjj:=HJ.out;by_cases hj0:j=0
    ·subst hj0
     have hm0:m=4:=by
      have h1:=HO.1;rw[qaY]at h1;have h2:(tr 0).length=4:=by decide
      omega
     subst hm0;go_wp2;go_ret;exact⟨g,A4,c4,rfl,by omega,HT,HO,HB⟩
    ·obtain⟨o,a,b',⟨hp,he⟩,k1,k2⟩:=HCE.out (j-1) (by omega)
     obtain⟨q,hq⟩:=nW (2*(j-1));have hq2:2*(j:Int)-2=(q:Int):=by omega
     rw[<- hq]at k1 k2;rw[hq2];have hq8:q<8:=by omega
     have hq7:q+1<8:=by omega
     have k1':=(HB.cell (p:=⟨ba,oa+q,none⟩) hba).trans k1;have k2':=(HB.cell (p:=⟨ba,oa+(q+1),none⟩) hba).trans k2;obtain⟨C2,hC2,hCs,hC256,hCu⟩:=HT.out.ex;have hCo:=(hCu o.toNat o.toNat_lt).1 (by rw[show j=j-1+1 by omega];exact he);have HC2:=hid hC2;have H256:=hid hC256;have HCO:=hid hCo;have HCU:=hid hCu;have HCS:=hid hCs;have HP:=hid hp;have HQ:=hid hq;have ho8:o.toNat<256:=o.toNat_lt;have m1:wr.cell? ⟨g,o.toNat,none⟩=some (.slice none 0 0):=by simp[World.cell?,hC2,hCo]
     have m2:wr.cell? ⟨g,256,none⟩=some (.slice A4 m c4):=by simp[World.cell?,hC2,hC256]
     have n1:wr.frozen? ⟨g,o.toNat,none⟩=false:=by simp[World.frozen?,hC2]
     have n2:wr.frozen? ⟨g,256,none⟩=false:=by simp[World.frozen?,hC2]
     clear hC2 hp he hq hq2 k1 k2 hCo hC256 hCu hCs;have bg:∀ (o:UInt8) (h:0<(⟨#[o]⟩:BA).size),(⟨#[o]⟩:BA)[0]'h=o:=fun _ _=>rfl;go_upto_region 31 with fail
     have hbo:=fun w=>qjU none 0 0 w;simp only[Option.isNone]at hbo;go_upto_region 32 with fail
     go_upto_region 33 with fail
     have hcv:Sem.run Tryz.prog (convert 89 9 (.slice (some ⟨wr.heap.size,0,none⟩) 1 1)) (wr.alloc (.cells #[.int .u8 (o.toNat:Int)] 5))=.ok (.string ⟨#[o]⟩) (wr.alloc (.cells #[.int .u8 (o.toNat:Int)] 5)):=by
      have:=zQ (w:=wr.alloc (.cells #[.int .u8 (o.toNat:Int)] 5)) (g:=wr.heap.size) (t:=5) [(o.toNat:Int)] (blk1 wr _) 1 rfl 1;simpa using this
     have hm4:m<=1000000000:=by
      have h1:=HO.1;rw[qaY]at h1;have h2:(tr j).length<=4:=by unfold tr;simp[prs]
      omega
     have hbb:=HB.size;go_upto_region 34 with (at_builtin;refine qL rfl _ _ 44 rfl w.heap.size 9 _ 1 16 Tryz.underlying44 Jp rfl (by decide) (by decide) A4 m c4 _ rfl ((HO.alloc _).alloc _) (wr.heap.size+1) [.string ⟨#[o]⟩] rfl rfl (by intro q u hu;match q,hu with | 0,hu=>(simp at hu;subst hu;simp)) (by simp[Value.oneCell']) hm4 (by simp;omega) ?_;intro A5 c5 w5 hown5 hg5;(have hne5:=Zu HO HC2 (by decide));(have hc5:=(hg5.block g (by simp;have:=(Array.getElem?_eq_some_iff.1 HC2).1;omega) (fun e=>hne5 e.symm)).trans ((((Bel.refl wr).alloc _).alloc _).blk HC2));(have HC5:=hid hc5);(have m5:w5.cell? ⟨g,256,none⟩=some (.slice A4 m c4):=by simp[World.cell?,HC5.out,H256.out]);(have n5:w5.frozen? ⟨g,256,none⟩=false:=by simp[World.frozen?,HC5.out]);(have HO5:=hid hown5);(have HG5:=hid hg5);clear hown5 hg5 hne5 hc5)
     refine qjd ?_;intro W6 hW6;have h6:W6.heap[g]?=some (.cells (C2.setIfInBounds 256 (.slice A5 (m+1) c5)) 244 (0,0)):=by rw[hW6];simp[World.setCell,Array.getElem?_modify,HC5.out]
     have hg6:g<W6.heap.size:=(Array.getElem?_eq_some_iff.1 h6).1;obtain⟨W7,hW7⟩:=nW (Lib.bytesWorld W6 5 ⟨#[a,b']⟩);have hcv2:=Lib.run_convert_string_bytes (P:=Tryz.prog) W6 9 89 5 ⟨#[a,b']⟩ Tryz.underlying9 Tryz.underlying89 Tryz.underlying5;rw[<- hW7]at hcv2;obtain⟨ck,hck⟩:=nW (grownCap W6 (⟨#[a,b']⟩:BA).size 0 5);rw[<- hck]at hcv2;have hz2:(⟨#[a,b']⟩:BA).size=2:=rfl;rw[hz2]at hcv2;obtain⟨bk,hbk⟩:=nW W6.heap.size;rw[<- hbk]at hcv2;have h7:W7.heap[g]?=some (.cells (C2.setIfInBounds 256 (.slice A5 (m+1) c5)) 244 (0,0)):=by rw[hW7,Lib.bytesWorld_at_old _ _ _ _ hg6];exact h6
     have m7:W7.cell? ⟨g,o.toNat,none⟩=some (.slice none 0 0):=by
      unfold World.cell?
      rw[h7];show (C2.setIfInBounds 256 _)[o.toNat]?=_;rw[Array.getElem?_setIfInBounds_ne (by omega)];exact HCO
     have n7:W7.frozen? ⟨g,o.toNat,none⟩=false:=by simp[World.frozen?,h7]
     have hlt7:g<W7.heap.size:=(Array.getElem?_eq_some_iff.1 h7).1;have hnew:W7.heap[bk]?=some (.cells (Lib.bytesCells W6 5 ⟨#[a,b']⟩) 5 ((Lib.bytesCells W6 5 ⟨#[a,b']⟩).size,(Lib.bytesCells W6 5 ⟨#[a,b']⟩).size+1)):=by rw[hW7,hbk];exact Lib.bytesWorld_at_new _ _ _
     have hcn:∀ q x,[a,b'][q]?=some x->W7.cell? ⟨bk,q,none⟩=some (.int .u8 x.toNat):=fun q x hq=>by
      have hq2:q<2:=(List.getElem?_eq_some_iff.1 hq).1;rw[hW7,hbk,Lib.bytesWorld_cell W6 5 ⟨#[a,b']⟩ q (by rw[hz2];exact hq2)];congr 3;show ([a,b'].getD q 0).toNat=x.toNat;rw[List.getD_eq_getElem?_getD,hq];rfl
     have hold:∀ (x:Nat) (Cb:Array Value) (fr:Nat × Nat),wr.heap[x]?=some (.cells Cb 5 fr)->W7.heap[x]?=some (.cells Cb 5 fr):=fun x Cb fr hx=>by
      have hxl:=(Array.getElem?_eq_some_iff.1 hx).1;have hxg:x≠g:=fun e=>by
       rw[e,HC2.out]at hx;simp only[Option.some.injEq,Obj.cells.injEq]at hx;exact absurd hx.2.1 (by decide)
      have h5:w5.heap[x]?=some (.cells Cb 5 fr):=(HG5.block x (by simp;omega) (fun e=>Zu HO hx (by decide) e.symm)).trans ((((Bel.refl wr).alloc _).alloc _).blk hx);have h6x:W6.heap[x]?=some (.cells Cb 5 fr):=by rw[hW6,Below.heap_setCell _ _ _ _ hxg];exact h5
      rw[hW7,Lib.bytesWorld_at_old _ _ _ _ (Array.getElem?_eq_some_iff.1 h6x).1];exact h6x
     have htab:=qhB (ck:=ck) HP HCS (by have:=HCU.out;rw[show j-1+1=j by omega];exact this) h7 hold hnew hcn;have hb6:Bel w W6:=by
      rw[hW6];exact Below.setCell (Below.grown ((HB.alloc _).alloc _) HG5 (by simp;omega) (fun k hk=>(HO.out.lt k hk).1)) (p:=⟨g,256,none⟩) (by show w.heap.size<=g;omega) _
     have hb7:Bel w W7:=by rw[hW7];exact hb6.on (qhL _ _ _)
     have ho7:W7.ownsRow w.heap.size 9 1 (.slice A5 (m+1) c5) (m+1) (strs (tr (j-1))):=by
      have e0:strs (tr (j-1))=strs (tr j)++[.string ⟨#[o]⟩]:=by
       rw[qjb HP.out,qf4,show j-1+1=j by omega]
      rw[e0,hW7];refine qG ?_ (qhL _ _ _);rw[hW6];exact Ze HO5 fun x hx=>Below.heap_setCell _ _ _ _ (fun e=>Zu HO5 HC5 (by decide) (by rw[hx];exact congrArg some e))
     have HTB:=hid htab;have HB7:=hid (hb7.set_ (p:=⟨g,o.toNat,none⟩) (by show w.heap.size<=g;omega) (.slice (some ⟨bk,0,none⟩) 2 ck));have HO7:=hid (Ze (w':=W7.setCell ⟨g,o.toNat,none⟩ (.slice (some ⟨bk,0,none⟩) 2 ck)) ho7 fun x hx=>Below.heap_setCell _ _ _ _ (fun e=>Zu ho7 h7 (by decide) (by rw[hx];exact congrArg some e)));clear hW6 hW7 hck hbk hnew hcn hold htab hb6 hb7 ho7 h7 h6 m5 n5 m2 n2 m1 n1;go_wp2;have hqq:=HQ.out;go_roundg (gk-1)
     case rel=>exact⟨j-1,m+1,A5,c5,by congr 1;omega,hid ⟨by omega,by omega⟩,HTB,HO7,HB7⟩
     case measure=>omega
end Go.Proofs.YtmloadclmjcbbaaGreatDoor.Mu
namespace Go.Proofs
abbrev Tryz.muLink:Go.Conc.Locks.MuLink:={ lock:=174,unlock:=175,ilock:=188,iunlock:=189,lockSlow:=199,unlockSlow:=202,disable:=195,enable:=197,acquire:=198,relMerge:=200,cas32:=196,add32:=201,tMutex:=190,tIMutex:=188,tPMutex:=251,tPIMutex:=267,tPI32:=269,tUP:=179,tNoCopy:=182,tU32:=184 }
theorem Tryz.muLib:Go.Conc.Locks.MuLib Tryz.prog Tryz.muLink:=
 ⟨Tryz.func174,Tryz.func175,Tryz.func188,Tryz.func189,Tryz.func195,Tryz.func197,Tryz.func198,Tryz.func200,Tryz.func196,Tryz.func201,
  Tryz.underlying188,Tryz.runUnderlying188,Tryz.sizeOf188,Tryz.isAgg188,Tryz.zeroValue188,Tryz.underlying190,Tryz.runUnderlying190,Tryz.sizeOf190,Tryz.isAgg190,Tryz.zeroValue190,Tryz.underlying251,Tryz.runUnderlying251,Tryz.sizeOf251,Tryz.isAgg251,Tryz.zeroValue251,Tryz.underlying267,Tryz.runUnderlying267,Tryz.sizeOf267,Tryz.isAgg267,Tryz.zeroValue267,Tryz.underlying269,Tryz.runUnderlying269,Tryz.sizeOf269,Tryz.isAgg269,Tryz.zeroValue269,Tryz.underlying179,Tryz.runUnderlying179,Tryz.sizeOf179,Tryz.isAgg179,Tryz.zeroValue179,Tryz.underlying182,Tryz.runUnderlying182,Tryz.sizeOf182,Tryz.isAgg182,Tryz.zeroValue182,Tryz.underlying21,Tryz.runUnderlying21,Tryz.sizeOf21,Tryz.isAgg21,Tryz.zeroValue21,(by kernel_rfl)⟩
end Go.Proofs
namespace Go.Proofs.YtmloadclmjcbbaaGreatDoor.Mu
set_option maxHeartbeats 4000000
open Go.RowKit Go.Shelf Go.MuLone
set_option maxRecDepth 100000
theorem qf2(a:Addr)(x:Value)(u:FrameMode)(w:World)(hc:w.cell? a=some x)(hz:w.frozen? a=false) :
  CallsD Tryz.prog 176 #[.pointer (some a),.bool true] u w fun e u' w'=>u'=u/\(e=.returned (.tuple #[])/\w'=w.drew.setCell a (.int .u32 1)):=by
 have hc':w.drew.cell? a=some x:=by go_simp
 have hz':w.drew.frozen? a=false:=by go_simp
 have hst:=run_call_store (P:=Tryz.prog) Tryz.func190 (by kernel_rfl) (by kernel_rfl) (by kernel_rfl) (by kernel_rfl) (k:= .u32) (y:=1) hc' hz';go_enter_d Tryz.func176,Tryz.ntmps176;go_wp2;go_region_calls;all_goals (go_end0;exact⟨rfl,rfl⟩)
theorem Tab.keep{w w':World}{g:Nat}{S:Value}{j:Nat}{b:Nat}{cs:Array Value}{T:TypeId}{fr:Nat × Nat}(h:Tab w g S j)(hb:w.heap[b]?=some (.cells cs T fr))(hT:T≠244/\T≠5)(hk:∀ x,x≠b->w'.heap[x]?=w.heap[x]?):Tab w' g S j:=by
 obtain⟨C,h1,h2,h3,h4⟩:=h.ex;have hne:∀ (x:Nat) (Cb:Array Value) (t:TypeId) (f:Nat × Nat),w.heap[x]?=some (.cells Cb t f)->t≠T->x≠b:=fun x Cb t f hx ht e=>by
  rw[e,hb]at hx;simp only[Option.some.injEq,Obj.cells.injEq]at hx;exact ht hx.2.1.symm
 refine⟨C,by rw[hk _ (hne g C _ _ h1 hT.1.symm)];exact h1,h2,h3,fun u hu=>⟨(h4 u hu).1,fun bs hbs=>?_⟩⟩;obtain⟨bk,ck,Cb,f,a1,a2,a3⟩:=(h4 u hu).2 bs hbs;have hn:=hne bk Cb _ _ a2 hT.2.symm;exact⟨bk,ck,Cb,f,a1,by rw[hk _ hn];exact a2,fun q x hq=>(World.cell?_of_block (a:=⟨bk,q,none⟩) (hk _ hn)).trans (a3 q x hq)⟩
structure Built (w w':World) (b:Nat) (v0 v1:Int):Prop where
 ex:∃ (g:Nat) (A4:OA) (c4:Nat),w'.heap[b]?=some (.cells #[.int .u32 v0,.int .i32 v1,.int .u32 0,.iface 245 (.pointer (some ⟨g,0,none⟩)),.slice none 0 0] 196 (0,0))/\w.heap.size<=g/\Tab w' g (.slice A4 4 c4) 0/\w'.ownsRow w.heap.size 9 1 (.slice A4 4 c4) 4 (strs (tr 0))/\Kr b w w'
theorem qaz{b:Nat}{A:OA}{cp:Nat}(w:World)(hb:w.heap[b]?=some (.cells #[.int .u32 0,.int .i32 1,.int .u32 0,.nilIface,.slice A 8 cp] 196 (0,0)))(hr:RL w w.heap.size A 8 oldnew) :
  Calls Tryz.prog 127 #[.pointer (some ⟨b,0,none⟩)] w fun e w'=>e=.returned (.tuple #[])/\Built w w' b 0 1:=by
 have HC:=hid (qex w hb hr);have H:=hid hb;have hblt:=(Array.getElem?_eq_some_iff.1 hb).1;clear hb hr;go_enter Tryz.func127,Tryz.ntmps127;go_wp2_with fail;refine HC.out.mono ?_;rintro e w1 ⟨g,A4,c4,rfl,hg,ht,ho,hb1⟩;have hbb:=hb1.blk H;obtain⟨⟨c0,c1,c2,c3,c4'⟩,f0,f1,f2,f3,f4⟩:=j5 hbb;have HBB:=hid hbb;have HT:=hid ht;have HO:=hid ho;have HB1:=hid hb1;clear ht ho hb1 hbb;go_wp2;go_end0;have hbg:b<g:=by omega
 have e5:((w1.setCell ⟨b,3,none⟩ (.iface 245 (.pointer (some ⟨g,0,none⟩)))).setCell ⟨b,4,none⟩ (.slice none 0 0)).heap[b]?=some (.cells #[.int .u32 0,.int .i32 1,.int .u32 0,.iface 245 (.pointer (some ⟨g,0,none⟩)),.slice none 0 0] 196 (0,0)):=by
  simp[World.setCell,Array.getElem?_modify,HBB.out]
 have hk:Kr b w ((w1.setCell ⟨b,3,none⟩ (.iface 245 (.pointer (some ⟨g,0,none⟩)))).setCell ⟨b,4,none⟩ (.slice none 0 0)):=((Kr.of_bel HB1).set_ _ _).set_ _ _;have hoth:∀ x,x≠b->((w1.setCell ⟨b,3,none⟩ (.iface 245 (.pointer (some ⟨g,0,none⟩)))).setCell ⟨b,4,none⟩ (.slice none 0 0)).heap[x]?=w1.heap[x]?:=fun x hx=>by
  rw[Below.heap_setCell _ _ _ _ hx,Below.heap_setCell _ _ _ _ hx]
 exact⟨rfl,g,A4,c4,e5,hg,HT.keep HBB (by decide) hoth,Ze HO fun x hx=>hoth x fun e=>Zu HO HBB (by decide) (by rw[hx,e]),hk⟩
theorem qa5(b:Nat)(w:World)(h:w.cell? ⟨b,0,none⟩=some (.int .u32 0)):Calls Tryz.prog 151 #[.pointer (some ⟨b,0,none⟩)] w fun e w'=>e=.returned (.bool false)/\w=w':=by
 have hl:=run_call_load (P:=Tryz.prog) Tryz.func173 (by kernel_rfl) (by kernel_rfl) (by kernel_rfl) .u32 (by kernel_rfl) h;go_enter Tryz.func151,Tryz.ntmps151;go_wp2;go_ret;exact⟨rfl,rfl⟩
theorem qhw{b:Nat}{A:OA}{cp:Nat}(w:World)(hb:w.heap[b]?=some (.cells #[.int .u32 0,.int .i32 0,.int .u32 0,.nilIface,.slice A 8 cp] 196 (0,0)))(hr:RL w w.heap.size A 8 oldnew)(hab:∀ a,A=some a->a.block≠b) :
  Calls Tryz.prog 152 #[.pointer (some ⟨b,0,none⟩),.func (.func 127) #[.pointer (some ⟨b,0,none⟩)] #[]] w fun e w'=>e=.returned (.tuple #[])/\Built w w' b 1 0:=by
 have hb1:(w.setCell ⟨b,1,none⟩ (.int .i32 1)).heap[b]?=some (.cells #[.int .u32 0,.int .i32 1,.int .u32 0,.nilIface,.slice A 8 cp] 196 (0,0)):=by simp[World.setCell,Array.getElem?_modify,hb]
 have hr1:RL (w.setCell ⟨b,1,none⟩ (.int .i32 1)) (w.setCell ⟨b,1,none⟩ (.int .i32 1)).heap.size A 8 oldnew:=by
  refine⟨hr.1,fun hn=>?_⟩;obtain⟨ba,oa,e,hba,hc⟩:=hr.2 hn;refine⟨ba,oa,e,by simpa using hba,fun j s hs=>?_⟩;rw[<- hc j s hs];exact World.cell?_of_block (a:=⟨ba,oa+j,none⟩) (Below.heap_setCell _ _ _ _ (by have:=hab _ e;exact this))
 have HC:=hid (qaz _ hb1 hr1);obtain⟨⟨c0,c1,c2,c3,c4⟩,f0,f1,f2,f3,f4⟩:=j5 hb;obtain⟨⟨k0,k1,k2,k3,k4⟩,l0,l1,l2,l3,l4⟩:=j5 hb1;have hblt:=(Array.getElem?_eq_some_iff.1 hb).1;have HL:=hid (qa5 b _ k0);have hnot:∀ (x:Bool) (w:World),(Op.unary .not (.bool x)).run Tryz.prog w=.ok (.bool (!x)) w:=fun _ _=>rfl;clear hb hr hb1 hr1 k0 k1 k2 k3 k4 l0 l1 l2 l3 l4;go_enter_defers Tryz.func152,Tryz.ntmps152;go_wp2_with (first | (go_at_call 174;refine (lock_free Tryz.muLib ⟨b,1,none⟩ _ (by go_simp) (by go_simp)).mono ?_;rintro e w' ⟨rfl,rfl⟩) | (go_at_call 151;refine HL.out.mono ?_;rintro e w' ⟨rfl,rfl⟩) | (go_at_call 127;refine HC.out.mono ?_;rintro e w2 ⟨rfl,hbu⟩;(have HBU:=hid hbu);clear hbu));obtain⟨g,A4,c4',e5,hg,ht,ho,hk⟩:=HBU.out.ex;obtain⟨⟨k0,k1,k2,k3,k4⟩,l0,l1,l2,l3,l4⟩:=j5 e5;refine leaves_cons (f:=176) (args:=#[.pointer (some ⟨b,0,none⟩),.bool true]) (by simp) (by simp[go_sem]) ?_;refine (qf2 ⟨b,0,none⟩ (.int .u32 0) .returning _ k0 l0).mono ?_;rintro e u' w'' ⟨rfl,rfl,rfl⟩;have e6:(w2.drew.setCell ⟨b,0,none⟩ (.int .u32 1)).heap[b]?=some (.cells #[.int .u32 1,.int .i32 1,.int .u32 0,.iface 245 (.pointer (some ⟨g,0,none⟩)),.slice none 0 0] 196 (0,0)):=by
  have e5':w2.drew.heap[b]?=_:=e5;simp only[World.setCell,Array.getElem?_modify,if_true,e5'];simp
 obtain⟨⟨p0',p1',-,-,-⟩,q0,q1,-,-,-⟩:=j5 e6;refine leaves_cons (f:=175) (args:=#[.pointer (some ⟨b,1,none⟩)]) (by simp[settle]) (by simp[go_sem]) ?_;refine (unlock_deferred Tryz.muLib ⟨b,1,none⟩ _ _ p1' q1).mono ?_;rintro e u' w'' ⟨rfl,rfl,rfl⟩;have e7:((w2.drew.setCell ⟨b,0,none⟩ (.int .u32 1)).setCell ⟨b,1,none⟩ (.int .i32 0)).heap[b]?=some (.cells #[.int .u32 1,.int .i32 0,.int .u32 0,.iface 245 (.pointer (some ⟨g,0,none⟩)),.slice none 0 0] 196 (0,0)):=by
  simp only[World.setCell]at e6 ⊢;simp only[Array.getElem?_modify,if_true]at e6 ⊢;rw[e6];simp
 have hoth:∀ x,x≠b->((w2.drew.setCell ⟨b,0,none⟩ (.int .u32 1)).setCell ⟨b,1,none⟩ (.int .i32 0)).heap[x]?=w2.heap[x]?:=fun x hx=>by
  rw[Below.heap_setCell _ _ _ _ hx,Below.heap_setCell _ _ _ _ hx];rfl
 have hk0:Kr b w (w.setCell ⟨b,1,none⟩ (.int .i32 1)):=(Kr.refl b w).set_ _ _;have hfin:Built w ((w2.drew.setCell ⟨b,0,none⟩ (.int .u32 1)).setCell ⟨b,1,none⟩ (.int .i32 0)) b 1 0:=by
  have hz:(w.setCell ⟨b,1,none⟩ (.int .i32 1)).heap.size=w.heap.size:=by simp
  rw[hz]at hg ho;exact⟨g,A4,c4',e7,hg,ht.keep e5 (by decide) hoth,Ze ho fun x hx=>hoth x fun e=>Zu ho e5 (by decide) (by rw[hx,e]),(((hk0.on hk).bel ((Bel.refl w2).drew)).set_ _ _).set_ _ _⟩
 have HF:=hid hfin;clear hfin e5 e6 e7 ht ho hk hoth;simp[Leaves,settle,results,Tryz.results152];exact HF
end Go.Proofs.YtmloadclmjcbbaaGreatDoor.Mu
namespace Go.Proofs.YtmloadclmjcbbaaGreatDoor.Mu
set_option maxHeartbeats 4000000
open Go.RowKit Go.Shelf
set_option maxRecDepth 100000
section
variable {P : Program} {w : World}
theorem qx{ops:Array Oper}{rest:List Oper}{o:Oper}{a:Act}{Q:Exit->Act->World->Prop}(hgd:o.guard=none)(s x:Operand)(t:TypeId)
  (ho:o.op=.call { callee:= .builtin .append,args:=#[s,x],argTypes:=#[t,t] })
  (base:Nat) (e:TypeId) (z:Value) (size bytes:Nat) (ht:P.underlying t=some (.slice e)) (hinfo:(P.info? e).map (fun i=>(i.zero,i.size,i.bytes))=some (some z,size,bytes))
  (hzs:z.cells.size=size) (hsz:0<size) (hby:bytes<=1000)
  (A:OA) (n c:Nat) (xs:List Value) (hs:a.eval s=.slice A n c) (hown:w.ownsRow base e size (.slice A n c) n xs)
  (b off k d:Nat) (news:List Value) (hx:a.eval x=.slice (some ⟨b,off,none⟩) k d) (hl:news.length=k*size) (hnews:∀ j u,news[j]?=some u->w.cell? ⟨b,off+j,none⟩=some u) (h1:∀ u∈news,u.oneCell'=true)
  (hmax:n+k<=1000000000) (hbase:base<=w.heap.size)
  (h:∀ A' c' w',w'.ownsRow base e size (.slice A' (n+k) c') (n+k) (xs++news)->w.grownBy w' (Value.slice A n c).ownBlock->wpList P ops Q rest (a.put o.dst (.slice A' (n+k) c')) w'):wpList P ops Q (o::rest) a w:=by
 obtain⟨i,hi,hz0,hz1,hz2⟩:=info_parts hinfo;refine wpList_append_own w hgd s x t ho base e i z size bytes ht hi hz0 hz1 hz2 hzs hsz _ n _ hs hown ⟨b,off,none⟩ k d news hx (by omega) ?_ h1 (by unfold maxLen;omega) ?_ hbase ?_
 ·intro j u hu
  rw[Addr.add_lit];exact hnews j u hu
 ·calc (n+k)*bytes<=1000000000*1000:=Nat.mul_le_mul hmax hby
   _<=_:=by omega
 ·intro v' w' hown' hg _
  obtain⟨A',c',rfl⟩:=Qp hown';exact h A' c' w' hown' hg
end
theorem qjz{b:Nat}{A:OA}{cp:Nat}(w:World)(hb:w.heap[b]?=some (.cells #[.int .u32 0,.int .i32 0,.int .u32 0,.nilIface,.slice A 8 cp] 196 (0,0)))(hr:RL w w.heap.size A 8 oldnew)(hab:∀ a,A=some a->a.block≠b) :
  Calls Tryz.prog 126 #[.pointer (some ⟨b,0,none⟩),.func (.func 127) #[.pointer (some ⟨b,0,none⟩)] #[]] w fun e w'=>e=.returned (.tuple #[])/\Built w w' b 1 0:=by
 have HS:=hid (qhw w hb hr hab);have HL:=hid (qa5 b w (j5 hb).1.1);have hblt:=(Array.getElem?_eq_some_iff.1 hb).1;have hnot:∀ (x:Bool) (w:World),(Op.unary .not (.bool x)).run Tryz.prog w=.ok (.bool (!x)) w:=fun _ _=>rfl;clear hb hr hab;go_enter Tryz.func126,Tryz.ntmps126;go_wp2_with (first | (go_at_call 151;refine HL.out.mono ?_;rintro e w' ⟨rfl,rfl⟩) | (go_at_call 152;refine HS.out.mono ?_;rintro e w2 ⟨rfl,hbu⟩;(have HBU:=hid hbu);clear hbu));go_end0;exact⟨rfl,HBU⟩
theorem qdL{A:OA}{cp:Nat}(w:World)(hr:RL w w.heap.size A 8 oldnew) :
  Calls Tryz.prog 98 #[.slice A 8 cp] w fun e w'=>∃ (b:Nat) (A2:OA) (c2:Nat),e=.returned (.pointer (some ⟨b,0,none⟩))/\w'.heap[b]?=some (.cells #[.int .u32 0,.int .i32 0,.int .u32 0,.nilIface,.slice A2 8 c2] 196 (0,0))/\RL w' w'.heap.size A2 8 oldnew/\(∀ a,A2=some a->a.block≠b)/\w.heap.size<=b/\Bel w w':=by
 obtain⟨-,hr2⟩:=hr;obtain⟨ba,oa,rfl,hba,hcc⟩:=hr2 (by omega);have hn:∀ j u,(strs oldnew)[j]?=some u->w.cell? ⟨ba,oa+j,none⟩=some u:=fun j u hu=>by
  rw[strs,List.getElem?_map]at hu;obtain⟨s,hs,rfl⟩:=Option.map_eq_some_iff.1 hu;exact hcc j s hs
 have HN:=hid hn;clear hcc hr2 hn;go_enter Tryz.func98,Tryz.ntmps98;go_wp2_with (at_builtin;refine qx rfl _ _ 44 rfl w.heap.size 9 _ 1 16 Tryz.underlying44 Jp rfl (by decide) (by decide) none 0 0 [] rfl (World.ownsRow_nil _ _ _ _) ba oa 8 cp (strs oldnew) rfl (by decide) HN (by decide) (by decide) (Nat.le_refl _) ?_;intro A5 c5 w5 hown5 hg5;(have HO5:=hid hown5);(have HG5:=hid hg5);clear hown5 hg5);go_ret;have hb5:Bel w w5:=Below.grown (Bel.refl w) HG5 (Nat.le_refl _) (fun k hk=>by cases hk);have hq:=blk1 w5 (.cells #[.int .u32 0,.int .i32 0,.int .u32 0,.nilIface,.slice A5 8 c5] 196);have ho:w5.ownsRow w.heap.size 9 1 (.slice A5 8 c5) 8 (strs oldnew):=by simpa using HO5.out
 have hrl:∃ g,A5=some ⟨g,0,none⟩/\g<w5.heap.size/\∀ j s,oldnew[j]?=some s->w5.cell? ⟨g,0+j,none⟩=some (.string ⟨s.toArray⟩):=by
  obtain⟨g,e1,e2,-,-,e5⟩:=qas ho (by decide);exact⟨g,e1,e2,fun j s hs=>e5 j ⟨s.toArray⟩ (by rw[List.getElem?_map,hs];rfl)⟩
 obtain⟨g,rfl,hgl,hgc⟩:=hrl;refine⟨w5.heap.size,_,c5,rfl,hq,⟨rfl,fun _=>⟨g,0,rfl,by simp;omega,fun j s hs=>?_⟩⟩,fun a ha=>?_,hb5.size,hb5.alloc _⟩
 ·rw[<- hgc j s hs]
  exact ((Bel.refl w5).alloc _).cell (p:=⟨g,0+j,none⟩) hgl
 ·injection ha with ha
  rw[<- ha];show g≠w5.heap.size;omega
theorem Jm(u:UInt8):(escT 0 u.toNat=none/\escB u=[u])∨(escT 0 u.toNat=some (escB u)/\(escB u).length=2):=by
 by_cases h1:u=10
 ·subst h1;right;decide
 by_cases h2:u=9
 ·subst h2;right;decide
 by_cases h3:u=34
 ·subst h3;right;decide
 by_cases h4:u=92
 ·subst h4;right;decide
 left
 have n1:¬ 10=u.toNat:=fun e=>h1 (UInt8.toNat_inj.1 e.symm);have n2:¬ 9=u.toNat:=fun e=>h2 (UInt8.toNat_inj.1 e.symm);have n3:¬ 34=u.toNat:=fun e=>h3 (UInt8.toNat_inj.1 e.symm);have n4:¬ 92=u.toNat:=fun e=>h4 (UInt8.toNat_inj.1 e.symm);refine⟨by simp[escT,prs,n1,n2,n3,n4],?_⟩;unfold escB;rw[if_neg h1,if_neg h2,if_neg (by rintro (h | h) <;> contradiction)]
theorem qeX(u:UInt8):1<=(escB u).length/\(escB u).length<=2:=by
 rcases Jm u with ⟨_,h⟩ | ⟨_,h⟩
 ·rw[h];simp
 ·omega
theorem Zp(s:LU):s.length<=(s.flatMap escB).length/\(s.flatMap escB).length<=2*s.length:=by
 induction s with
 | nil=>simp
 | cons u s ih=>
  rw[List.flatMap_cons,List.length_append,List.length_cons];have:=qeX u;omega
theorem qgL{s:LU}(h:(s.flatMap escB).length=s.length):s.flatMap escB=s:=by
 induction s with
 | nil=>rfl
 | cons u s ih=>
  rw[List.flatMap_cons,List.length_append,List.length_cons]at h;have h1:=qeX u;have h2:=(Zp s).1;rcases Jm u with ⟨_,e⟩ | ⟨_,e⟩
  ·rw[List.flatMap_cons,e,ih (by rw[e,List.length_singleton]at h;omega)];rfl
  ·omega
def cnt(s:LU)(c:UInt8):Nat:=Lib.countByte s c
theorem qir(s:LU):(s.flatMap escB).length=s.length+(cnt s 92+(cnt s 34+(cnt s 9+cnt s 10))):=by
 induction s with
 | nil=>rfl
 | cons u s ih=>
  rw[List.flatMap_cons,List.length_append,ih,List.length_cons];have hc:∀ c,cnt (u::s) c=cnt s c+(if u=c then 1 else 0):=fun c=>by
   unfold cnt Lib.countByte;by_cases h:u=c <;> simp[h]
  rw[hc,hc,hc,hc];unfold escB;by_cases h1:u=10
  ·subst h1;simp;omega
  by_cases h2:u=9
  ·subst h2;simp;omega
  by_cases h3:u=34
  ·subst h3;simp;omega
  by_cases h4:u=92
  ·subst h4;simp;omega
  simp[h1,h2,h3,h4];omega
set_option maxHeartbeats 8000000
theorem Tab.byte{w:World}{g:Nat}{S:Value}(h:Tab w g S 0)(u:UInt8):∃ (A:OA) (n c:Nat),w.cell? ⟨g,u.toNat,none⟩=some (.slice A n c)/\((A=none/\escB u=[u])∨(n=2/\(escB u).length=2/\∃ bk,A=some ⟨bk,0,none⟩/\bk<w.heap.size/\∀ q x,(escB u)[q]?=some x->w.cell? ⟨bk,q,none⟩=some (.int .u8 x.toNat))):=by
 obtain⟨C,h1,h2,h3,h4⟩:=h.ex;have hc:∀ v,C[u.toNat]?=some v->w.cell? ⟨g,u.toNat,none⟩=some v:=fun v hv=>by simp[World.cell?,h1,hv]
 rcases Jm u with ⟨e1,e2⟩ | ⟨e1,e2⟩
 ·exact⟨none,0,0,hc _ ((h4 _ u.toNat_lt).1 e1),.inl ⟨rfl,e2⟩⟩
 ·obtain⟨bk,ck,Cb,fr,a1,a2,a3⟩:=(h4 _ u.toNat_lt).2 _ e1
  exact⟨_,_,ck,hc _ a1,.inr ⟨e2,e2,bk,rfl,(Array.getElem?_eq_some_iff.1 a2).1,a3⟩⟩
theorem Tab.bel{w w':World}{g:Nat}{S:Value}{j:Nat}(h:Tab w g S j)(hb:Bel w w'):Tab w' g S j:=by
 obtain⟨C,h1,h2,h3,h4⟩:=h.ex;refine⟨C,hb.blk h1,h2,h3,fun u hu=>⟨(h4 u hu).1,fun bs hbs=>?_⟩⟩;obtain⟨bk,ck,Cb,f,a1,a2,a3⟩:=(h4 u hu).2 bs hbs;exact⟨bk,ck,Cb,f,a1,hb.blk a2,fun q x hq=>(hb.cell (p:=⟨bk,q,none⟩) (Array.getElem?_eq_some_iff.1 a2).1).trans (a3 q x hq)⟩
theorem Tab.rep{w:World}{g:Nat}{S:Value}{j:Nat}(h:Tab w g S j):w.cell? ⟨g,256,none⟩=some S/\g<w.heap.size:=by
 obtain⟨C,h1,h2,h3,h4⟩:=h.ex;exact⟨by simp[World.cell?,h1,h3],(Array.getElem?_eq_some_iff.1 h1).1⟩
def cnts(s:LU):List Nat:=[cnt s 92,cnt s 34,cnt s 9,cnt s 10]
theorem qj4(s:LU):∀ k,k<4->∃ c:UInt8,(tr 0)[k]?=some [c]/\(cnts s)[k]?=some (cnt s c)/\(escB c).length=2
 | 0,_=>⟨92,rfl,rfl,by decide⟩
 | 1,_=>⟨34,rfl,rfl,by decide⟩
 | 2,_=>⟨9,rfl,rfl,by decide⟩
 | 3,_=>⟨10,rfl,rfl,by decide⟩
 | k+4,h=>by omega
theorem qhC{l:List Nat}{k x:Nat}(h:l[k]?=some x):(l.take (k+1)).sum=(l.take k).sum+x:=by
 obtain⟨hl,e⟩:=List.getElem?_eq_some_iff.1 h;rw[List.take_succ_eq_append_getElem hl,e];simp
theorem qda{s:LU}{k:Nat}{x:UInt8}(h:s[k]?=some x):(s.take (k+1)).flatMap escB=(s.take k).flatMap escB++escB x:=by
 obtain⟨hl,e⟩:=List.getElem?_eq_some_iff.1 h;rw[List.take_succ_eq_append_getElem hl,e];simp
theorem qg7(N:Nat):madeCells #[Value.int .u8 0] N=(List.replicate N (Value.int .u8 0)).toArray:=by
 unfold madeCells;apply Array.ext
 ·simp
 ·intro i h1 h2;simp[Nat.mod_one]
def BufAt(w:World)(b:Nat)(L:LU)(N:Nat):Prop:=
 w.heap[b]?=some (.cells ((L.map fun x:UInt8=>Value.int .u8 x.toNat)++List.replicate (N-L.length) (Value.int .u8 0)).toArray 5 (0,0))
theorem BufAt.zero{w:World}{b N:Nat}{L:LU}(h:BufAt w b L N){j:Nat}(hN:L.length+j<N):w.cell? ⟨b,L.length+j,none⟩=some (.int .u8 0)/\w.frozen? ⟨b,L.length+j,none⟩=false:=by
 unfold BufAt at h;refine⟨?_,by simp[World.frozen?,h]⟩;unfold World.cell?
 rw[h];show ((L.map fun x:UInt8=>Value.int .u8 x.toNat)++List.replicate (N-L.length) (Value.int .u8 0)).toArray[L.length+j]?=_;rw[List.getElem?_toArray,List.getElem?_append_right (by rw[List.length_map];omega),List.length_map,List.getElem?_replicate,if_pos (by omega)]
theorem BufAt.put{w:World}{b N:Nat}{L:LU}(h:BufAt w b L N)(hN:L.length<N)(x:UInt8):BufAt (w.setCell ⟨b,L.length,none⟩ (.int .u8 x.toNat)) b (L++[x]) N:=by
 unfold BufAt at h ⊢;obtain⟨q,hq⟩:∃ q,N-L.length=q+1:=⟨N-L.length-1,by omega⟩
 rw[hq,List.replicate_succ]at h;have hq2:N-(L++[x]).length=q:=by rw[List.length_append,List.length_singleton];omega
 rw[hq2];simp only[World.setCell,Array.getElem?_modify,if_true,h];simp[List.set_append_right]
theorem qi0{g gt c4:Nat}(s:LU)(hs:s.length<=100000)(w:World)(ht:Tab w g (.slice (some ⟨gt,0,none⟩) 4 c4) 0)(hts:∀ j x,(tr 0)[j]?=some x->w.cell? ⟨gt,0+j,none⟩=some (.string ⟨x.toArray⟩))(hgt:gt<w.heap.size) :
  Calls Tryz.prog 239 #[.pointer (some ⟨g,0,none⟩),.string ⟨s.toArray⟩] w fun e w'=>e=.returned (.string ⟨(s.flatMap escB).toArray⟩)/\Bel w w':=by
 obtain⟨st,hst⟩:=nW (⟨s.toArray⟩:BA);have hz:st.size=s.length:=by rw[hst];simp[ByteArray.size]
 have hby:∀ i (h:i<st.size),s[i]?=some (st[i]'h):=fun i h=>by
  subst hst;rw[List.getElem?_eq_getElem (by rw[<- hz];exact h)];rfl
 obtain⟨ans,hans⟩:=nW (s.flatMap escB);have hlen:=qir s;rw[<- hans]at hlen ⊢;have HCNT:Hid (∀ (c:UInt8) (w:World),Calls Tryz.prog 241 #[.string st,.string ⟨#[c]⟩] w fun e w'=>e=.returned (.int .i64 (cnt s c))/\w=w'):=hid fun c w=>(Tryz.strings_Count_one st c w).mono fun e w' h=>⟨by rw[h.1,hst];rfl,h.2.symm⟩
 obtain⟨hr1,hgl⟩:=ht.rep;rw[<- hst];have HST:=hid hst;have HZ:=hid hz;have HBY:=hid hby;have HT:=hid ht;have HTS:=hid hts;have HANS:=hid hans;have HLEN:=hid hlen;obtain⟨N,hN⟩:=nW ans.length;have hge:=Zp s;rw[<- hans,<- hN]at hge;have HNL:=hid hN;clear hst hz hby ht hts hans hlen hN;have hsz:st.size<=100000:=by rw[HZ.out];exact hs
 go_enter Tryz.func239,Tryz.ntmps239;go_upto_if 26 with fail
 obtain⟨b32,hb32⟩:=nW (decide ((32:Int)<=(st.size:Int)));rw[<- hb32];clear hb32;go_cut [5,6] (fun v a wx=>v=.int .i64 N/\a=.bool (decide (N≠st.size))/\Hid (Bel w wx))
 case first=>
  cases b32;rotate_left
  ·go_wp2_with fail
   go_loopg [5,6,8,9,32] 5 (fun gk v a z1 z2 i wr=>∃ k:Nat,(k<=4/\4-k<gk)/\v=.int .i64 (st.size+(((cnts s).take k).sum:Nat))/\a=.bool (decide (((cnts s).take k).sum≠0))/\i=.int .i64 k/\Hid (Bel w wr))
   case atStart=>exact⟨0,⟨by omega,by omega⟩,by simp,by simp,rfl,hid (Bel.refl w)⟩
   case round=>
    obtain⟨k,⟨hk,hkg⟩,rfl,rfl,rfl,HB⟩:=hrel;obtain⟨q,hq⟩:=nW (((cnts s).take k).sum);rw[<- hq];have HQ:=hid hq;have hq4:q<=400000:=by
     have h1:((cnts s).take k).sum<=(cnts s).sum:=by
      have:=congrArg List.sum (List.take_append_drop k (cnts s));rw[List.sum_append]at this;omega
     have h2:(cnts s).sum<=400000:=by
      have h3:∀ c,cnt s c<=s.length:=fun c=>List.count_le_length;have:=h3 92;have:=h3 34;have:=h3 9;have:=h3 10;simp[cnts];omega
     omega
    clear hq;by_cases hk4:k<4
    ·obtain⟨c,hc1,hc2,hc3⟩:=qj4 s k hk4
     have hts1:=HTS.out k [c] hc1;have hts2:=(HB.cell (p:=⟨gt,0+k,none⟩) hgt).trans hts1;rw[Nat.zero_add]at hts2;have hr3:=(HB.cell (p:=⟨g,256,none⟩) hgl).trans hr1;obtain⟨A,n,cc,hcell,hor⟩:=(HT.bel HB).byte c;have hn2:n=2:=by
      rcases hor with ⟨_,e⟩ | ⟨e,_⟩
      ·rw[e]at hc3;simp at hc3
      ·exact e
     subst hn2;obtain⟨m,hm⟩:=nW (cnt s c);have hm4:m<=100000:=by rw[hm];exact Nat.le_trans List.count_le_length hs
     have HCC:Hid (∀ (w:World),Calls Tryz.prog 241 #[.string st,.string ⟨#[c]⟩] w fun e w'=>e=.returned (.int .i64 m)/\w=w'):=hid fun w=>by rw[hm];exact HCNT c w
     have hsum:((cnts s).take (k+1)).sum=q+m:=by rw[qhC hc2,<- HQ.out,hm]
     have HSUM:=hid hsum;clear hc1 hc2 hc3 hts1 hor hm hsum;have hc8:(((⟨#[c]⟩:BA)[0]'(by show 0<1;decide)).toNat:Int)<256:=by have:=c.toNat_lt;show (c.toNat:Int)<256;omega
     have hcell2:wr.cell? ⟨g,((⟨#[c]⟩:BA)[0]'(by show 0<1;decide)).toNat,none⟩=some (.slice A 2 cc):=hcell;go_upto_region 7 with fail
     go_wp2_with fail;refine (HCC _).mono ?_;rintro e w4 ⟨rfl,rfl⟩;by_cases hm0:m=0
     ·subst hm0
      go_wp2;go_roundg (gk-1)
      case rel=>exact⟨k+1,⟨by omega,by omega⟩,by rw[HSUM.out];rfl,by rw[HSUM.out];simp,by go_num,HB⟩
      case measure=>omega
     ·have hm1:((m:Int) != 0)=true:=by simpa using hm0
      go_wp2_with fail;go_cut [5] (fun v wx=>v=.int .i64 ((st.size:Int)+q+m)/\Hid (Bel w wx))
      case first=>
       go_region;all_goals (go_wp2_with fail;go_meet)
       all_goals exact⟨by first | rfl | (congr 1;done) | (congr 1;omega),hid HB.drew⟩
      case rest=>
       obtain⟨rfl,HB2⟩:=hcut;go_wp2;go_roundg (gk-1)
       case rel=>exact⟨k+1,⟨by omega,by omega⟩,by rw[HSUM.out];congr 1;omega,by rw[HSUM.out,decide_eq_true (by omega)],by go_num,HB2⟩
       case measure=>omega
    ·obtain rfl:k=4:=by omega
     have hq5:N=st.size+q:=by
      rw[HNL.out,HLEN.out,HZ.out,HQ.out];simp[cnts]
     go_wp2_with fail;go_meet;exact⟨by rw[hq5];first | rfl | (congr 1;done) | (congr 1;omega),by rw[hq5];first | exact congrArg Value.bool (decide_eq_decide.2 (by omega)) | (congr 1;simp) | simp,HB⟩
  ·go_wp2_with fail
   go_loopg [5,6,10,11] (st.size+1) (fun gk v a i z1 wr=>∃ k:Nat,(k<=st.size/\st.size-k<gk)/\v=.int .i64 ((st.size-k+((s.take k).flatMap escB).length:Nat))/\a=.bool (decide (((s.take k).flatMap escB).length≠k))/\i=.int .i64 k/\Hid (Bel w wr))
   case atStart=>exact⟨0,⟨by omega,by omega⟩,by simp,by simp,rfl,hid (Bel.refl w)⟩
   case round=>
    obtain⟨k,⟨hk,hkg⟩,rfl,rfl,rfl,HB⟩:=hrel;obtain⟨q,hq⟩:=nW (((s.take k).flatMap escB).length);rw[<- hq];have HQ:=hid hq;have hq4:q<=2*k/\k<=q:=by
     have:=Zp (s.take k);rw[<- hq,List.length_take,Nat.min_eq_left (by rw[<- HZ.out];exact hk)]at this;omega
    clear hq;by_cases hks:k<st.size
    ·have hx:=HBY.out k hks
     obtain⟨A,n,cc,hcell,hor⟩:=(HT.bel HB).byte (st[k]'hks);have hnx:((s.take (k+1)).flatMap escB).length=q+(escB (st[k]'hks)).length:=by rw[qda hx,List.length_append,<- HQ.out]
     have HNX:=hid hnx;have hc8:=(st[k]'hks).toNat_lt;clear hx hnx;rcases hor with ⟨rfl,e⟩ | ⟨rfl,e,bk,rfl,_,_⟩
     ·have hl1:(escB (st[k]'hks)).length=1:=by rw[e];rfl
      clear e;rw[hl1]at HNX;clear hl1;go_wp2;go_roundg (gk-1)
      case rel=>exact⟨k+1,⟨by omega,by omega⟩,by rw[HNX.out];congr 1;omega,by rw[HNX.out];congr 1;simp,by go_num,HB⟩
      case measure=>omega
     ·rw[e]at HNX
      clear e;go_wp2;go_roundg (gk-1)
      case rel=>exact⟨k+1,⟨by omega,by omega⟩,by rw[HNX.out];congr 1;omega,by rw[HNX.out,decide_eq_true (by omega)],by go_num,HB⟩
      case measure=>omega
    ·have hk2:k=st.size:=by omega
     have hq5:N=q:=by
      rw[HNL.out,HANS.out,HQ.out,hk2,HZ.out,List.take_length]
     go_wp2_with fail;go_meet;exact⟨by rw[hq5,hk2];congr 1;omega,by rw[hq5,hk2],HB⟩
 case rest=>
  obtain⟨rfl,rfl,HB⟩:=hcut;by_cases hNe:N=st.size
  ·have hd:decide (N≠st.size)=false:=by simp[hNe]
   rw[hd];have ha:ans=s:=by
    rw[HANS.out];exact qgL (by rw[<- HANS.out,<- HNL.out,hNe,HZ.out])
   clear hd;go_wp2;go_ret;exact⟨by rw[ha,HST.out];rfl,HB⟩
  ·have hd:decide (N≠st.size)=true:=by simp[hNe]
   rw[hd];have hmk:=run_make_row' (P:=Tryz.prog) 89 5 (.int .u8 0) 1 Tryz.underlying89 j7 rfl .i64 .i64 N (by omega) (by omega) wc;obtain⟨bb,hbb⟩:=nW wc.heap.size;rw[qg7]at hmk;have HB0:Hid (BufAt (wc.alloc (.cells (List.replicate N (Value.int .u8 0)).toArray 5)) bb [] N):=hid (by rw[hbb];exact blk1 wc _);rw[<- hbb]at hmk;have HBB:=hid hbb;clear hbb hd;go_wp2_with fail;go_loopg [13,14,15] (st.size+1) (fun gk v i z1 wr=>∃ k:Nat,(k<=st.size/\st.size-k<gk)/\i=.int .i64 k/\v=.int .i64 (((s.take k).flatMap escB).length:Nat)/\Hid (BufAt wr bb ((s.take k).flatMap escB) N)/\Hid (Bel wc wr))
   case atStart=>exact⟨0,⟨by omega,by omega⟩,rfl,by simp,HB0,hid ((Bel.refl wc).alloc _)⟩
   case round=>
    obtain⟨k,⟨hk,hkg⟩,rfl,rfl,HU,HW⟩:=hrel;obtain⟨L,hL⟩:=nW ((s.take k).flatMap escB);rw[<- hL]at HU ⊢;by_cases hks:k<st.size
    ·have hx:=HBY.out k hks
     obtain⟨u,hu⟩:=nW (st[k]'hks);have hnx:(s.take (k+1)).flatMap escB=L++escB u:=by rw[qda hx,<- hL,hu]
     have hNle:((s.take (k+1)).flatMap escB).length<=N:=by
      have e:ans=(s.take (k+1)).flatMap escB++(s.drop (k+1)).flatMap escB:=by rw[HANS.out,<- List.flatMap_append,List.take_append_drop]
      rw[HNL.out,e,List.length_append];omega
     rw[hnx,List.length_append]at hNle;obtain⟨A,n,cc,hcell,hor⟩:=(HT.bel (HB.on HW)).byte u;have HNX:=hid hnx;have HLL:=hid hL;have hc8:=u.toNat_lt;have hbs:bb<wr.heap.size:=(Array.getElem?_eq_some_iff.1 HU).1;obtain⟨l,hl⟩:=nW L.length;rw[<- hl]at hNle ⊢;have HL2:=hid hl;clear hx hnx hL hl;rcases hor with ⟨rfl,e⟩ | ⟨rfl,e,bk,rfl,hbk,hbc⟩
     ·rw[e]at hNle HNX
      simp at hNle;have hput:=HU.out.put (by rw[<- HL2.out];omega) u;rw[<- HL2.out]at hput;have HPUT:=hid hput;obtain⟨hcb,hfb⟩:=HU.out.zero (j:=0) (by rw[<- HL2.out];omega);rw[<- HL2.out,Nat.add_zero]at hcb hfb;rw[hu]at hcell hc8;clear e hput;go_wp2;go_roundg (gk-1)
      case rel=>exact⟨k+1,⟨by omega,by omega⟩,by go_num,by rw[HNX.out,List.length_append,<- HL2.out];congr 1,by rw[HNX.out,<- hu];exact HPUT,hid (HW.out.set_ (p:=⟨bb,l,none⟩) (by have:=HBB.out;show wc.heap.size<=bb;omega) _)⟩
      case measure=>omega
     ·obtain⟨a1,a2,ea⟩:∃ a1 a2,escB u=[a1,a2]:=by
       match escB u,e with
       | [a1,a2],_=>exact⟨a1,a2,rfl⟩
      rw[ea]at hbc HNX;rw[e]at hNle;have hb1:=hbc 0 a1 rfl;have hb2:=hbc 1 a2 rfl;rw[hu]at hcell hc8;clear e ea hbc;obtain⟨hc0,hf0⟩:=HU.out.zero (j:=0) (by rw[<- HL2.out];omega);obtain⟨hc1,hf1⟩:=HU.out.zero (j:=1) (by rw[<- HL2.out];omega);rw[<- HL2.out]at hc0 hf0 hc1 hf1;have hp1:=HU.out.put (by rw[<- HL2.out];omega) a1;have hp2:=hp1.put (by rw[List.length_append,List.length_singleton,<- HL2.out];omega) a2;rw[List.length_append,List.length_singleton,<- HL2.out,List.append_assoc]at hp2;have HPUT:=hid hp2;have hcpy:=run_copy_cells (P:=Tryz.prog) wr.drew 89 89 3 5 bb l (N-l) (N-l) ⟨bk,0,none⟩ 2 cc [.int .u8 a1.toNat,.int .u8 a2.toNat] Tryz.underlying89 (by kernel_rfl) (by show 2=min 2 (N-l);omega) (by
       intro j v hv;rw[Addr.add_lit,Nat.zero_add]
       match j,hv with
       | 0,hv=>injection hv with hv;rw[<- hv];exact hb1
       | 1,hv=>injection hv with hv;rw[<- hv];exact hb2) (by
       intro j hj
       match j,hj with
       | 0,_=>have:=hc0;rw[World.cell?_drew];rw[this];rfl
       | 1,_=>have:=hc1;rw[World.cell?_drew];rw[this];rfl) (by
       intro j hj
       match j,hj with
       | 0,_=>exact hf0
       | 1,_=>exact hf1) (by simp[Value.oneCell'])
      have hNl:¬ N=l:=by omega
      clear hp1 hp2 hc0 hf0 hc1 hf1;have HKK:=hid (⟨hk,hkg,hks⟩:k<=st.size/\st.size-k<gk/\k<st.size);go_upto_region 28 with fail
      have HPW:=hid ((((HW.drew).set_ (p:=⟨bb,l,none⟩) (by have:=HBB.out;show wc.heap.size<=bb;omega) (.int .u8 a1.toNat)).set_ (p:=⟨bb,l+1,none⟩) (by have:=HBB.out;show wc.heap.size<=bb;omega) (.int .u8 a2.toNat)));go_region;all_goals
       go_wp2;have hkk:=HKK.out;go_roundg (gk-1)
       case rel=>exact⟨k+1,⟨by omega,by omega⟩,by go_num,by rw[HNX.out,List.length_append,<- HL2.out];first | rfl | (congr 1;done) | (congr 1;simp;omega),by rw[HNX.out];exact HPUT,HPW⟩
       case measure=>omega
    ·have hk2:k=st.size:=by omega
     have hLa:L=ans:=by rw[hL,hk2,HZ.out,List.take_length,HANS.out]
     have hcl:wr.heap[bb]?=some (.cells ((ans.map fun x:UInt8=>(x.toNat:Int)).map (Value.int .u8)).toArray 5 (0,0)):=by
      have h:=HU.out;unfold BufAt at h;rw[hLa,<- HNL.out,Nat.sub_self]at h;rw[h,List.map_map];simp[Function.comp_def]
     have hcv:=zQ (w:=wr) (g:=bb) (t:=5) (ans.map fun x:UInt8=>(x.toNat:Int)) hcl N (by rw[List.length_map];exact HNL) N;have hmm:((ans.map fun x:UInt8=>(x.toNat:Int)).map fun x=>UInt8.ofNat x.toNat)=ans:=by
      rw[List.map_map];conv=>rhs;rw[<- List.map_id ans]
      refine List.map_congr_left fun x _=>?_;simp
     rw[hmm]at hcv;clear hcl hmm hLa hL;go_wp2;go_ret;exact⟨rfl,HB.on HW⟩
end Go.Proofs.YtmloadclmjcbbaaGreatDoor.Mu
namespace Go.Proofs.YtmloadclmjcbbaaGreatDoor.Mu
open Go Go.RowKit Go.Shelf
attribute [local go_sem] Oper.semAt_some
set_option linter.unusedVariables false
set_option maxRecDepth 100000
theorem qeK:∀ (k n:Nat),n<=k->Lib.decDigits n=digB n
 | k,n,h=>by
  rw[Lib.decDigits];by_cases h1:n<10
  ·rw[dif_pos h1,Qm h1]
  ·rw[dif_neg h1,Jl h1]
   match k,h with
   | 0,h=>omega
   | k+1,h=>rw[qeK k (n / 10) (by omega)]
theorem qcS{n:Int}(h:0<=n):Lib.itoa n=digB n.toNat:=by
 unfold Lib.itoa;rw[if_neg (by omega),qeK n.toNat n.toNat (Nat.le_refl _)]
theorem qdf:∀ (n:Nat) (l:LU) (cs:List Int) (rest:LU),l.length<=n->Cps l cs rest->(Lib.validGoD n l=true↔rest=[])
 | 0,l,cs,rest,hl,h=>by
  have:l=[]:=List.eq_nil_of_length_eq_zero (by omega);have e:=h.eq;rw[this]at e;have e2:=(List.append_eq_nil_iff.1 e.symm).2;simp[Lib.validGoD,e2]
 | n+1,l,cs,rest,hl,h=>by
  rw[Lib.validGoD];by_cases h0:l=[]
  ·rw[if_pos h0]
   have e:=h.eq;rw[h0]at e;have e2:=(List.append_eq_nil_iff.1 e.symm).2;simp[e2]
  ·rw[if_neg h0]
   cases cs with
   | nil=>
    have e:=h.eq;have hlr:l=rest:=by rw[e];rfl
    have hne:rest≠[]:=fun e=>h0 (hlr.trans e);have hsz:0<(⟨l.toArray⟩:BA).size:=by
     have:(⟨l.toArray⟩:BA).size=l.length:=by simp[ByteArray.size]
     rw[this];cases l with
     | nil=>exact absurd rfl h0
     | cons a b=>simp
    by_cases hd:(Lib.decodeL l).1=65533/\(Lib.decodeL l).2=1
    ·rw[if_pos hd];simp[hne]
    ·exfalso
     obtain⟨c1,-,c3⟩:=qae (s:=⟨l.toArray⟩) (i:=0) hsz (show Utf8.decode ⟨l.toArray⟩ 0=((Lib.decodeL l).1,(Lib.decodeL l).2) from rfl) hd;refine h.no _ c1 ?_;rw[<- hlr];simpa using c3
   | cons c cs=>
    have hc:=h.cp.cons;have e:=h.eq;rw[qD,List.append_assoc]at e;have hdec:Lib.decodeL l=(c.toNat,wid c):=Ql (s:=⟨l.toArray⟩) (i:=0) hc.1 (by rw[e];simp);have hw:=zF hc.1;have hb:=(qT c).1 hc.1;rw[hdec,if_neg (by
     rintro⟨h1,h2⟩;have h1':c.toNat=65533:=h1;have:c=65533:=by omega
     rw[this]at h2;revert h2;decide)]
    have hdrop:l.drop (wid c)=encs cs++rest:=by rw[e,<- hw,List.drop_left]
    show Lib.validGoD n (l.drop (wid c))=true↔_;have hp:=zn c;exact qdf n _ cs rest (by rw[List.length_drop];omega) ⟨hc.2,hdrop,h.no⟩
theorem qgi(s:LU):Lib.validD s=true ↔ ∃ ds,Cps s ds []:=by
 obtain⟨cs,rest,h⟩:=qbc _ s (Nat.le_refl _);unfold Lib.validD;rw[qdf _ s cs rest (Nat.le_refl _) h];constructor
 ·rintro rfl;exact⟨cs,h⟩
 ·rintro⟨ds,hd⟩;exact (h.uniq hd).2
theorem qi9{k n:Int}{s wr rest:LU}{cs:List Int}(hk:k≠4)(hw:0<=n->wr=putB k s n)(hc:Cps wr cs rest):((tokO wr.length cs rest).e=0/\(tokO wr.length cs rest).l.map Tn.b=[(k,s,n)])↔qh (k,s,n):=by
 constructor
 ·rintro⟨he,hl⟩
  have:=(qet hc.cp he).1;exact this _ (by rw[hl];simp)
 ·intro hm
  have hn:0<=n:=by rcases hm with ⟨_,_,h⟩ | ⟨_,_,h⟩ | ⟨_,h,_⟩ | ⟨_,_,h⟩ | ⟨_,_,h⟩ | ⟨_,_,h⟩ <;> simp at h <;> omega
  have hlen:(putB k s n).length<=4000:=by
   unfold putB;rcases hm with ⟨h1,h2,_⟩ | ⟨h1,h2,_⟩ | ⟨h1,_,h2,_⟩ | ⟨h1,_⟩ | ⟨h1,h2,_⟩ | ⟨h1,h2,_⟩
   ·simp only at h1;rw[if_neg (by omega),if_neg (by omega)];have:=h2.2.1;simp only at this;omega
   ·simp only at h1;rw[if_neg (by omega),if_neg (by omega)];have:=h2.2.1;simp only at this;omega
   ·simp only at h1 h2;rw[if_pos h1];have:=QS 13 n.toNat (by omega);omega
   ·exact absurd h1 hk
   ·simp only at h1;rw[if_neg (by omega),if_neg (by omega)]
    rcases h2 with h2 | h2
    ·exact (show ∀ x∈qK,x.length<=4000 by decide +kernel) s h2
    ·exact (show ∀ x∈zC,x.length<=4000 by decide +kernel) s h2
   ·simp only at h1;rw[if_neg (by omega),if_neg (by omega)]
    exact (show ∀ x∈qS,x.length<=4000 by decide +kernel) s h2
  have hall:∀ t∈[(k,s,n)],qh t:=fun t ht=>by simp at ht;rw[ht];exact hm
  have hwl:qt [(k,s,n)]=putB k s n:=rfl;have hwr:wrO [(k,s,n)]=(putB k s n,0):=by unfold wrO;rw[if_pos hall,hwl,if_pos hlen]
  obtain⟨cs',h1,h2,-,h4⟩:=qdt (ts:=[(k,s,n)]) (by rw[hwr]);rw[hwr]at h1 h2 h4;rw[hw hn]at hc ⊢;obtain⟨rfl,rfl⟩:=hc.uniq h1;exact⟨h2,h4⟩
end Go.Proofs.YtmloadclmjcbbaaGreatDoor.Mu
namespace Go.Proofs.YtmloadclmjcbbaaGreatDoor.Mu
set_option maxHeartbeats 4000000
open Go.RowKit Go.Shelf
set_option maxRecDepth 100000
def Tbl(w:World):Prop:=Lib.TabIs Tryz.prog w "internal/strconv.uint64pow10" .u64 Lib.pow10Tab/\Lib.Utf8Tabs 0 1 w
theorem gPow:Tryz.prog.globalNamed "internal/strconv.uint64pow10" = some 2:=by kernel_rfl
theorem Tbl.bel{w w':World}(h:Tbl w)(hb:Bel w w'):Tbl w':=⟨Joins.tab_stays gPow h.1 hb (Nat.le_refl _),Utf8Tabs_below h.2 hb⟩
theorem qgv(w:World)(k:Nat)(os:Array Obj):Bel w (Go.Sort.grow (w.drewN k) os):=
 ⟨rfl,rfl,rfl,by rw[Go.Sort.size_grow];exact Nat.le_add_right _ _,fun i hi=>Go.Sort.heap_grow_old (w.drewN k) os hi⟩
theorem qgh(s:LU)(hs:s.length<=9223372036854775807)(w:World)(ht:Tbl w):Calls Tryz.prog 94 #[.string ⟨s.toArray⟩] w fun e w'=>e=.returned (.bool (Lib.validD s))/\Bel w w':=
 Tryz.utf8_ValidString ⟨s.toArray⟩ w (by simpa [ByteArray.size] using hs) ht.2
def wriB(k:Int)(s:LU)(n:Int):LU:=if k=3 then Lib.itoa n else if k=4 then 34::(s.flatMap escB++[34]) else s
theorem Zl(k:Int)(s:LU)(n a l c:Int)(k4:k≠4)(h0:-9223372036854775808<=n)(h1:n<=9223372036854775807)(w:World)(htab:Tbl w) :
  Calls Tryz.prog 49 #[.agg #[.int .u8 k,.string ⟨s.toArray⟩,n,a,l,c]] w fun e w'=>e=.returned (.string ⟨(wriB k s n).toArray⟩)/\Bel w w':=by
 have hb1:Bel w (w.alloc (.cells #[.int .u8 k,.string ⟨s.toArray⟩,n,a,l,c] 85)):=(Bel.refl w).alloc _;have HF:Hid (∀ W,Bel w W->Calls Tryz.prog 97 #[.int .i64 n,.int .i64 10] W fun e w'=>e=.returned (.string ⟨(Lib.itoa n).toArray⟩)/\Bel W w'):=hid fun W hW=>by
  refine (Tryz.strconv_FormatInt_10 n h0 h1 W (htab.bel hW).1).mono fun e w' h=>⟨h.1,?_⟩
  obtain⟨k,os,rfl⟩:=h.2;exact qgv _ _ _
 have HB1:=hid hb1;clear htab hb1;obtain⟨ans,hans⟩:=nW (wriB k s n);rw[<- hans];have HANS:=hid hans;clear hans;go_enter Tryz.func49,Tryz.ntmps49;by_cases k3:k=3
 ·have ha:ans=Lib.itoa n:=by rw[HANS.out,wriB,if_pos k3]
  subst ha k3;go_wp2_with (go_at_call 97;refine (HF _ HB1).mono ?_;rintro e w2 ⟨rfl,hb2⟩;(have HB2:=hid hb2);clear hb2);go_ret;exact⟨rfl,HB1.on HB2⟩
 have d3:(k==3)=false:=by simp[k3]
 have d4:(k==4)=false:=by simp[k4]
 have ha:ans=s:=by rw[HANS.out,wriB,if_neg k3,if_neg k4]
 subst ha;go_wp2;go_ret;exact⟨rfl,HB1⟩
end Go.Proofs.YtmloadclmjcbbaaGreatDoor.Mu
