import Derived.Test.YtfpoelklhekfaaaGreatDoorShelf
import Derived.Lib.Small
import Derived.Deep.QuietTactic
import Derived.BigQuiet
import Derived.StillTailTactics
import Derived.Laws.StructEq
import Derived.IntWalk
import Derived.WalkLawsBesides
import Derived.Laws.BytesString
import Derived.Deep.OwnRows
import Derived.LoopN
import Derived.Lib.Strings
import Derived.Laws.DeepStrings4
import Derived.Lib.OthersKept
import Derived.WalkSpells
import Derived.Laws.Concat
import Derived.Test.YtfpoelklhekfaaaGreatDoorQaa
import Derived.Test.YtfpoelklhekfaaaGreatDoorQab
open Go.Lib (hid)
namespace Go.Proofs.YtfpoelklhekfaaaGreatDoor.Mu
set_option maxHeartbeats 4000000
open Go.RowKit Go.Shelf
set_option maxRecDepth 100000
structure Pl where
 a:Int
 l:Int
 c:Int
deriving DecidableEq
def Pl.next(p:Pl)(x:Int):Pl:=if x=10 then ⟨p.a+wid x,p.l+1,1⟩ else ⟨p.a+wid x,p.l,p.c+1⟩
def Pl.v(p:Pl):Value:= .agg #[.int .i64 p.a,.int .i64 p.l,.int .i64 p.c]
def Pl.sm(p:Pl)(b:Int):Prop:=0<=p.a/\p.a<=b/\0<=p.l/\p.l<=b/\0<=p.c/\p.c<=b
theorem qaF{c:Int}(h:cpB c=true):Lib.runeLen c=(wid c:Int):=by
 have h:=(qG c).1 h;unfold Lib.runeLen wid;repeat' split
 all_goals omega
theorem J1(c:Int):Lib.validRune c=cpB c:=by
 rw[Bool.eq_iff_iff,qG];simp[Lib.validRune];omega
theorem Jk{a b:Bool}(h:a=b):Ending.returned (.bool a)=.returned (.bool b):=by rw[h]
theorem qg9{k:IntKind}{a b:Int}(h:a=b):Ending.returned (.int k a)=.returned (.int k b):=by rw[h]
theorem qfZ{c:Int}(hc:cpB c=true)(w:World):Calls Tryz.prog 129 #[.int .i32 c] w fun e w'=>e=.returned (.int .i64 (wid c))/\w=w':=
 (Tryz.utf8_RuneLen c w).mono fun _ _ h=>⟨by rw[h.1,qaF hc],h.2.symm⟩
theorem qf4(c:Int)(w:World):Calls Tryz.prog 144 #[.int .i32 c] w fun e w'=>e=.returned (.bool (cpB c))/\w=w':=
 (Tryz.utf8_ValidRune c w).mono fun _ _ h=>⟨by rw[h.1,J1],h.2.symm⟩
theorem qbO{p:Pl}{c:Int}(hc:cpB c=true)(hp:p.sm 1000000)(w:World) :
  Calls Tryz.prog 96 #[.agg #[.int .i64 p.a,p.l,p.c],.int .i32 c] w fun e w'=>e=.returned (p.next c).v/\Bel w w':=by
 obtain⟨h1,h2,h3,h4,h5,h6⟩:=hp;have hw:=zv c;obtain⟨pa,pl,pc⟩:=p;simp only at h1 h2 h3 h4 h5 h6;have HC:=hid hc;have hx:IntKind.i64.wrap (pa+(wid c:Int))=pa+(wid c:Int):=IntWalk.i64_in _ (by omega);clear hc;go_enter Tryz.func96,Tryz.ntmps96
 go_wp2_with fail
 go_region_with (go_at_call 129;refine (qfZ HC.out _).mono ?_;rintro e w1 ⟨rfl,rfl⟩)
 all_goals
  by_cases h10:c=10
  ·have e10:(c==10)=true:=by simpa using h10
   go_wp2
   refine bodyPost_ret (v:=(Pl.next ⟨pa,pl,pc⟩ c).v) ?_ rfl ⟨rfl,?_⟩
   ·simp[results,Tryz.results96,go_sem,Pl.v,Pl.next,h10]
   ·repeat (first | exact Bel.refl _ | refine Bel.set_ ?_ (by simp) _ | refine Bel.alloc ?_ _ | refine Bel.drew ?_)
  ·have e10:(c==10)=false:=by simpa using h10
   go_wp2
   refine bodyPost_ret (v:=(Pl.next ⟨pa,pl,pc⟩ c).v) ?_ rfl ⟨rfl,?_⟩
   ·simp[results,Tryz.results96,go_sem,Pl.v,Pl.next,h10]
   ·repeat (first | exact Bel.refl _ | refine Bel.set_ ?_ (by simp) _ | refine Bel.alloc ?_ _ | refine Bel.drew ?_)
structure Pn where
 r:Int
 p:Pl
deriving DecidableEq
theorem Jw{w:World}{g:Nat}{t:TypeId}(ns:List Int)(h:w.heap[g]?=some (.cells (ns.map (Value.int .u8)).toArray t (0,0)))(n:Nat)(hn:n=ns.length)(c:Nat) :
  (convert 83 9 (.slice (some ⟨g,0,none⟩) n c)).run Tryz.prog w=.ok (.string ⟨(ns.map fun x=>UInt8.ofNat x.toNat).toArray⟩) w:=by
 subst hn;rw[run_convert_bytes_string w _ _ 5 _ _ _ Tryz.underlying83 Tryz.underlying5 Tryz.underlying9];rw[run_bytesToString w _ _ _ ns]
 ·congr 2
  have:∀ (l:List Int) (r:ByteArray),l.foldl (fun r n=>r.push (UInt8.ofNat n.toNat)) r=⟨r.data++(l.map fun x=>UInt8.ofNat x.toNat).toArray⟩:=by
   intro l;induction l with
   | nil=>intro r;simp
   | cons x l ih=>intro r;simp only[List.foldl_cons,ih];simp[ByteArray.push]
  rw[this];simp
 ·rw[run_loadCells w _ _ (fun j=>(ns.map (Value.int .u8)).getD j undef)]
  ·congr 1
   apply Array.ext';apply List.ext_getElem
   ·simp
   ·intro i h1 h2;simp at h1 h2;simp[h2]
  ·intro j hj
   rw[Addr.add_lit];simp[World.cell?,h,hj]
theorem qgM:(Tryz.prog.info? 5).map (fun i=>(i.zero,i.size,i.bytes))=some (some (.int .u8 0),1,1):=by kernel_rfl
end Go.Proofs.YtfpoelklhekfaaaGreatDoor.Mu
namespace Go.Proofs.YtfpoelklhekfaaaGreatDoor.Mu
open Go.RowKit Go.Shelf
set_option maxRecDepth 100000
end Go.Proofs.YtfpoelklhekfaaaGreatDoor.Mu
namespace Go.Proofs.YtfpoelklhekfaaaGreatDoor.Mu
open Go.RowKit
structure Abv (w:World) where
 wd:World
 bel:Bel w wd
instance (w:World):Nonempty (Abv w):=⟨⟨w,Bel.refl w⟩⟩
end Go.Proofs.YtfpoelklhekfaaaGreatDoor.Mu
namespace Go.Proofs.YtfpoelklhekfaaaGreatDoor.Mu
open Go.RowKit Go.Shelf
end Go.Proofs.YtfpoelklhekfaaaGreatDoor.Mu
namespace Go.Proofs.YtfpoelklhekfaaaGreatDoor.Mu
open Go.RowKit Go.Shelf
set_option maxRecDepth 100000
def Pn.cells(x:Pn):List Value:=[.int .i32 x.r,.int .i64 x.p.a,.int .i64 x.p.l,.int .i64 x.p.c]
def jk(xs:List Pn):List Value:=xs.flatMap Pn.cells
theorem QN(xs:List Pn):(jk xs).length=xs.length*4:=by
 induction xs with
 | nil=>rfl
 | cons x xs ih=>simp only[jk,List.flatMap_cons,List.length_append,List.length_cons,Pn.cells,List.length_nil]at *;omega
theorem ZB(xs:List Pn)(x:Pn):jk (xs++[x])=jk xs++x.cells:=by simp[jk]
theorem qh8{w:World}{base n c:Nat}{e:TypeId}{A:Option Addr}{xs:List Pn}(h:w.ownsRow base e 4 (.slice A n c) n (jk xs)):n=xs.length:=by
 have h1:=h.1;rw[QN]at h1;omega
def RP(w:World)(B:Nat)(A:Option Addr)(n:Nat)(xs:List Pn):Prop:=
 n=xs.length/\(0<n->∃ b off,A=some ⟨b,off,none⟩/\b<B/\∀ (k:Nat) (x:Pn),xs[k]?=some x->w.cell? ⟨b,off+k*4,none⟩=some (.int .i32 x.r)/\w.cell? ⟨b,off+k*4+1,none⟩=some (.int .i64 x.p.a)/\w.cell? ⟨b,off+k*4+2,none⟩=some (.int .i64 x.p.l)/\w.cell? ⟨b,off+k*4+3,none⟩=some (.int .i64 x.p.c))
section
variable {w w' : World} {B B' n : Nat} {A : Option Addr} {xs : List Pn}
theorem RP.nil_:RP w B A 0 []:=⟨rfl,fun h=>absurd h (by omega)⟩
theorem RP.len(h:RP w B A n xs):n=xs.length:=h.1
theorem RP.at_(h:RP w B A n xs)(hn:0<n):∃ b off,A=some ⟨b,off,none⟩/\b<B/\∀ (k:Nat) (x:Pn),xs[k]?=some x->w.cell? ⟨b,off+k*4,none⟩=some (.int .i32 x.r)/\w.cell? ⟨b,off+k*4+1,none⟩=some (.int .i64 x.p.a)/\w.cell? ⟨b,off+k*4+2,none⟩=some (.int .i64 x.p.l)/\w.cell? ⟨b,off+k*4+3,none⟩=some (.int .i64 x.p.c):=h.2 hn
theorem RP.keep(h:RP w B A n xs)(hk:∀ b o,b<B->w'.cell? ⟨b,o,none⟩=w.cell? ⟨b,o,none⟩):RP w' B A n xs:=
 ⟨h.1,fun hn=>by
  obtain⟨b,off,e,hb,hc⟩:=h.2 hn;exact⟨b,off,e,hb,fun k x hx=>by rw[hk _ _ hb,hk _ _ hb,hk _ _ hb,hk _ _ hb];exact hc k x hx⟩⟩
theorem RP.more(h:RP w B A n xs)(hB:B<=B'):RP w B' A n xs:=
 ⟨h.1,fun hn=>by
  obtain⟨b,off,e,hb,hc⟩:=h.2 hn;exact⟨b,off,e,by omega,hc⟩⟩
theorem RP.bel(h:RP w w.heap.size A n xs)(hb:Bel w w'):RP w' w'.heap.size A n xs:=(h.keep fun b o hp=>hb.cell (p:=⟨b,o,none⟩) hp).more hb.size
theorem JJ:∀ (xs:List Pn) (k:Nat) (x:Pn),xs[k]?=some x->(jk xs)[k*4]?=some (.int .i32 x.r)/\(jk xs)[k*4+1]?=some (.int .i64 x.p.a)/\(jk xs)[k*4+2]?=some (.int .i64 x.p.l)/\(jk xs)[k*4+3]?=some (.int .i64 x.p.c)
 | [],k,x,h=>by simp at h
 | y::xs,0,x,h=>by
  simp at h;subst h;simp[jk,Pn.cells]
 | y::xs,k+1,x,h=>by
  have ih:=JJ xs k x (by simpa using h);have e:jk (y::xs)=y.cells++jk xs:=by simp[jk]
  have hl:y.cells.length=4:=rfl;rw[e];refine⟨?_,?_,?_,?_⟩
  ·rw[List.getElem?_append_right (by omega),hl,show (k+1)*4-4=k*4 by omega];exact ih.1
  ·rw[List.getElem?_append_right (by omega),hl,show (k+1)*4+1-4=k*4+1 by omega];exact ih.2.1
  ·rw[List.getElem?_append_right (by omega),hl,show (k+1)*4+2-4=k*4+2 by omega];exact ih.2.2.1
  ·rw[List.getElem?_append_right (by omega),hl,show (k+1)*4+3-4=k*4+3 by omega];exact ih.2.2.2
theorem RP.of_own{base c:Nat}{e:TypeId}(h:w.ownsRow base e 4 (.slice A n c) n (jk xs)):RP w w.heap.size A n xs:=by
 refine⟨qh8 h,fun hn=>?_⟩;obtain⟨g,cap,hv,_,hlt⟩:=h.form hn;have hA:A=some ⟨g,0,none⟩:=by injection hv
 subst hA;refine⟨g,0,rfl,hlt,fun k x hx=>?_⟩;obtain⟨a0,a1,a2,a3⟩:=JJ xs k x hx;have c0:=h.cells (g:=g) rfl _ _ a0;have c1:=h.cells (g:=g) rfl _ _ a1;have c2:=h.cells (g:=g) rfl _ _ a2;have c3:=h.cells (g:=g) rfl _ _ a3;rw[Addr.add_lit]at c0 c1 c2 c3;exact⟨c0,by rw[Nat.add_assoc];exact c1,by rw[Nat.add_assoc];exact c2,by rw[Nat.add_assoc];exact c3⟩
end
def place(p:Pl):List Int->List Pn
 | []=>[]
 | c::cs=>⟨c,p⟩::place (p.next c) cs
def ends(p:Pl)(cs:List Int):Pl:=cs.foldl Pl.next p
theorem JG(p:Pl)(cs:List Int)(c:Int):ends p (cs++[c])=(ends p cs).next c:=by simp[ends]
theorem JP:∀ (p:Pl) (cs ds:List Int),place p (cs++ds)=place p cs++place (ends p cs) ds
 | p,[],ds=>rfl
 | p,c::cs,ds=>by
  show _::place (p.next c) (cs++ds)=_
  rw[JP (p.next c) cs ds];rfl
theorem ZH(p:Pl)(cs:List Int)(c:Int):place p (cs++[c])=place p cs++[⟨c,ends p cs⟩]:=by rw[JP];rfl
theorem jO:∀ (p:Pl) (cs:List Int),(place p cs).length=cs.length
 | _,[]=>rfl
 | p,c::cs=>by show (place (p.next c) cs).length+1=_;rw[jO];rfl
theorem QU:∀ (p:Pl) (cs:List Int) (k:Nat) (c:Int),cs[k]?=some c->(place p cs)[k]?=some ⟨c,ends p (cs.take k)⟩
 | p,d::cs,0,c,h=>by simp at h;subst h;rfl
 | p,d::cs,k+1,c,h=>by
  have:=QU (p.next d) cs k c (by simpa using h);simpa [place,ends] using this
def p0:Pl:=⟨0,1,1⟩
def AllCp(cs:List Int):Prop:=∀ c∈cs,cpB c=true
theorem AllCp.cons{c:Int}{cs:List Int}(h:AllCp (c::cs)):cpB c=true/\AllCp cs:=⟨h c (by simp),fun d hd=>h d (by simp[hd])⟩
theorem AllCp.take{cs:List Int}(h:AllCp cs)(k:Nat):AllCp (cs.take k):=fun c hc=>h c (List.mem_of_mem_take hc)
theorem AllCp.app{cs ds:List Int}(h:AllCp cs)(k:AllCp ds):AllCp (cs++ds):=fun c hc=>(List.mem_append.1 hc).elim (h c) (k c)
theorem ql(c:Int)(cs:List Int):encs (c::cs)=enc c++encs cs:=rfl
theorem qU(cs ds:List Int):encs (cs++ds)=encs cs++encs ds:=by simp[encs]
theorem qD{cs:List Int}(h:AllCp cs):cs.length<=(encs cs).length:=by
 induction cs with
 | nil=>simp
 | cons c cs ih=>
  have h1:=zO h.cons.1;have h2:=zv c;have:=ih h.cons.2;rw[ql,List.length_append,List.length_cons];omega
theorem qhT{cs:List Int}(h:AllCp cs)(p:Pl):(ends p cs).a=p.a+((encs cs).length:Int):=by
 induction cs generalizing p with
 | nil=>simp[ends,encs]
 | cons c cs ih=>
  have h1:=zO h.cons.1;have e:(p.next c).a=p.a+wid c:=by unfold Pl.next;split <;> rfl
  show (ends (p.next c) cs).a=_
  rw[ih h.cons.2,e,ql,List.length_append,h1];omega
theorem qgw(cs:List Int)(p:Pl)(hl:0<=p.l)(hc:0<=p.c):0<=(ends p cs).l/\(ends p cs).l<=p.l+cs.length/\0<=(ends p cs).c/\(ends p cs).c<=p.c+1+cs.length:=by
 induction cs generalizing p with
 | nil=>simp[ends];omega
 | cons c cs ih=>
  have h:0<=(p.next c).l/\(p.next c).l<=p.l+1/\0<=(p.next c).c/\(p.next c).c<=p.c+1:=by unfold Pl.next;split <;> simp <;> omega
  have:=ih (p.next c) h.1 h.2.2.1;show 0<=(ends (p.next c) cs).l/\_<=_/\0<=(ends (p.next c) cs).c/\_<=_
  rw[List.length_cons];show 0<=(ends (p.next c) cs).l/\(ends (p.next c) cs).l<=_/\0<=(ends (p.next c) cs).c/\(ends (p.next c) cs).c<=_
  omega
theorem qgx{cs:List Int}(h:AllCp cs){n:Nat}(hn:(encs cs).length<=n):(ends p0 cs).sm (n+2):=by
 have h1:=qhT h p0;have h2:=qgw cs p0 (by decide) (by decide);have h3:=qD h;have e1:p0.a=0:=rfl;have e2:p0.l=1:=rfl;have e3:p0.c=1:=rfl;rw[e1]at h1;rw[e2,e3]at h2;unfold Pl.sm;omega
structure Cps (L:List UInt8) (cs:List Int) (rest:List UInt8):Prop where
 cp:AllCp cs
 eq:L=encs cs++rest
 no:∀ c,cpB c=true->¬ enc c <+: rest
theorem qcO{c:Int}(h:cpB c=true):enc c≠[]:=fun e=>by
 have h1:=zO h;have h2:=zv c;rw[e]at h1;simp at h1;omega
theorem Cps.nil{cs:List Int}(h:AllCp cs):Cps (encs cs) cs []:=⟨h,by simp,fun c hc hp=>qcO hc (List.prefix_nil.1 hp)⟩
open Classical in
theorem qbc:∀ (n:Nat) (L:List UInt8),L.length<=n->∃ cs rest,Cps L cs rest
 | 0,L,h=>⟨[],L,fun c hc=>by simp at hc,by simp[encs],fun c hc hp=>by
  have:L=[]:=List.eq_nil_of_length_eq_zero (by omega);rw[this]at hp;exact qcO hc (List.prefix_nil.1 hp)⟩
 | n+1,L,h=>by
  by_cases hx:∃ c,cpB c=true/\enc c <+: L
  ·obtain⟨c,hc,r,hr⟩:=hx
   have h1:=zO hc;have h2:=zv c;have:r.length<=n:=by rw[<- hr,List.length_append]at h;omega
   obtain⟨cs,rest,hcs⟩:=qbc n r this;exact⟨c::cs,rest,fun d hd=>(List.mem_cons.1 hd).elim (fun e=>e ▸ hc) (hcs.cp d),by rw[ql,List.append_assoc,<- hcs.eq,hr],hcs.no⟩
  ·exact⟨[],L,fun c hc=>by simp at hc,by simp[encs],fun c hc hp=>hx ⟨c,hc,hp⟩⟩
theorem qgv{c d:Int}{L:List UInt8}(hc:cpB c=true)(hd:cpB d=true)(h1:enc c <+: L)(h2:enc d <+: L):c=d:=by
 have e1:=jc (s:=⟨L.toArray⟩) (i:=0) hc (by simpa using h1);have e2:=jc (s:=⟨L.toArray⟩) (i:=0) hd (by simpa using h2);rw[e1]at e2;have:=(Prod.mk.inj e2).1;have b1:=(qG c).1 hc;have b2:=(qG d).1 hd;omega
theorem Cps.uniq{L:List UInt8}{cs ds:List Int}{r q:List UInt8}(h:Cps L cs r)(k:Cps L ds q):cs=ds/\r=q:=by
 induction cs generalizing L ds with
 | nil=>
  cases ds with
  | nil=>exact⟨rfl,by have:=h.eq;rw[k.eq]at this;simpa [encs] using this.symm⟩
  | cons d ds=>
   exfalso
   have e:=h.eq;rw[k.eq,ql,List.append_assoc]at e;exact h.no d k.cp.cons.1 ⟨_,by simpa [encs] using e⟩
 | cons c cs ih=>
  cases ds with
  | nil=>
   exfalso
   have e:=k.eq;rw[h.eq,ql,List.append_assoc]at e;exact k.no c h.cp.cons.1 ⟨_,by simpa [encs] using e⟩
  | cons d ds=>
   have e:enc c++(encs cs++r)=enc d++(encs ds++q):=by
    have:=h.eq;rw[k.eq,ql,ql,List.append_assoc,List.append_assoc]at this;exact this.symm
   have e1:=qgv h.cp.cons.1 k.cp.cons.1 (L:=enc c++(encs cs++r)) ⟨_,rfl⟩ ⟨_,e.symm⟩;subst e1;have e2:=List.append_cancel_left e;obtain⟨a,b⟩:=ih (L:=encs cs++r) (ds:=ds) ⟨h.cp.cons.2,rfl,h.no⟩ ⟨k.cp.cons.2,e2,k.no⟩;exact⟨by rw[a],b⟩
theorem Cps.at_{s:ByteArray}{cs:List Int}{r:List UInt8}(h:Cps s.data.toList cs r){k:Nat}{c:Int}(hk:cs[k]?=some c) :
  cpB c=true/\enc c <+: s.data.toList.drop (encs (cs.take k)).length/\(encs (cs.take (k+1))).length=(encs (cs.take k)).length+wid c/\(encs (cs.take k)).length<s.size:=by
 have hlt:=(List.getElem?_eq_some_iff.1 hk).1;have hc:cpB c=true:=h.cp c (by rw[<- (List.getElem?_eq_some_iff.1 hk).2];exact List.getElem_mem hlt);have e1:cs.take (k+1)=cs.take k++[c]:=by
  rw[List.take_succ_eq_append_getElem hlt,(List.getElem?_eq_some_iff.1 hk).2]
 have e2:cs=cs.take k++c::cs.drop (k+1):=by
  conv=>lhs;rw[<- List.take_append_drop (k+1) cs,e1]
  simp
 have e3:s.data.toList=encs (cs.take k)++(enc c++(encs (cs.drop (k+1))++r)):=by
  conv=>lhs;rw[h.eq,e2]
  simp[qU,ql,List.append_assoc]
 have h1:=zO hc;have h2:=zv c;refine⟨hc,?_,?_,?_⟩
 ·rw[e3,List.drop_left];exact⟨_,rfl⟩
 ·rw[e1,qU,List.length_append];simp[encs,h1]
 ·have:s.data.toList.length=s.size:=by rw[Array.length_toList];rfl
  rw[e3,List.length_append,List.length_append]at this;omega
end Go.Proofs.YtfpoelklhekfaaaGreatDoor.Mu
namespace Go.Proofs.YtfpoelklhekfaaaGreatDoor.Mu
open Go.RowKit Go.Shelf
def dv(e:Int)(p:Pl):Value:= .agg #[.int .i64 e,.int .i64 p.a,.int .i64 p.l,.int .i64 p.c]
def z0:Pl:=⟨0,0,0⟩
def qik(cs:List Int)(rest:List UInt8)(w:World)(e:Ending)(w':World):Prop:=
 Bel w w'/\if rest=[] then ∃ A n c,e=.returned (.tuple #[.slice A n c,(ends p0 cs).v,dv 0 z0])/\RP w' w'.heap.size A n (place p0 cs)
  else e=.returned (.tuple #[.slice none 0 0,z0.v,dv 90 (ends p0 cs)])
def qij(w:World)(e:Ending)(w':World):Prop:=Bel w w'/\e=.returned (.tuple #[.slice none 0 0,z0.v,dv 3 z0])
theorem qcX:(Tryz.prog.info? 77).map (fun i=>(i.zero,i.size,i.bytes))=some (some (.agg #[.int .i32 0,(0:Int),(0:Int),(0:Int)]),4,32):=by kernel_rfl
theorem Zs{w:World}{base:Nat}{e:TypeId}{size:Nat}{v:Value}{n:Nat}{xs:List Value}(h:w.ownsRow base e size v n xs){k:Nat}(hk:k<base)(s:ByteArray)(p:Nat):(w.iterAt k s p).ownsRow base e size v n xs:=by
 obtain⟨h1,h2⟩:=h;refine⟨h1,?_⟩;rcases h2 with h2 | ⟨g,cap,cur,a,b,c,d⟩
 ·exact .inl h2
 ·exact .inr ⟨g,cap,cur,a,b,by rw[Lib.iterAt_other _ _ _ _ _ (by omega)];exact c,d⟩
theorem j9{w:World}{k:Nat}{s:ByteArray}{p:Nat}(h:w.heap[k]?=some (.stringIter s p)):w.iterPos k=p:=by simp[World.iterPos,h]
theorem blk4(w:World)(o o2 o3 o4:Obj):((((w.alloc o).alloc o2).alloc o3).alloc o4).heap[w.heap.size]?=some o/\((((w.alloc o).alloc o2).alloc o3).alloc o4).heap[w.heap.size+1]?=some o2/\((((w.alloc o).alloc o2).alloc o3).alloc o4).heap[w.heap.size+2]?=some o3/\((((w.alloc o).alloc o2).alloc o3).alloc o4).heap[w.heap.size+3]?=some o4:=by
 have h:=blk3 w o o2 o3;refine⟨((Bel.refl _).alloc o4).blk h.1,((Bel.refl _).alloc o4).blk h.2.1,((Bel.refl _).alloc o4).blk h.2.2,?_⟩;have:=blk1 (((w.alloc o).alloc o2).alloc o3) o4;simpa using this
theorem qA{w:World}{g:Nat}{t:TypeId}{x y z u:Value}(h:w.heap[g]?=some (.cells #[x,y,z,u] t (0,0))) :
  w.cell? ⟨g,0,none⟩=some x/\w.cell? ⟨g,1,none⟩=some y/\w.cell? ⟨g,2,none⟩=some z/\w.cell? ⟨g,3,none⟩=some u/\w.frozen? ⟨g,0,none⟩=false/\w.frozen? ⟨g,1,none⟩=false/\w.frozen? ⟨g,2,none⟩=false/\w.frozen? ⟨g,3,none⟩=false:=by
 simp[World.cell?,World.frozen?,h]
theorem qbo{w:World}{g:Nat}{t:TypeId}{x y z:Value}(h:w.heap[g]?=some (.cells #[x,y,z] t (0,0)))(u v r:Value) :
  (((w.setCell ⟨g,0,none⟩ u).setCell ⟨g,1,none⟩ v).setCell ⟨g,2,none⟩ r).heap[g]?=some (.cells #[u,v,r] t (0,0)):=by
 simp[World.setCell,Array.getElem?_modify,h]
theorem qR{w:World}{g k:Nat}(hk:k≠g)(u v r:Value) :
  (((w.setCell ⟨g,0,none⟩ u).setCell ⟨g,1,none⟩ v).setCell ⟨g,2,none⟩ r).heap[k]?=w.heap[k]?:=by
 rw[Below.heap_setCell _ _ _ _ hk,Below.heap_setCell _ _ _ _ hk,Below.heap_setCell _ _ _ _ hk]
theorem qbp{w:World}{base:Nat}{e:TypeId}{size:Nat}{V:Value}{n:Nat}{xs:List Value}(h:w.ownsRow base e size V n xs){g:Nat}(hg:g<base)(u v r:Value) :
  (((w.setCell ⟨g,0,none⟩ u).setCell ⟨g,1,none⟩ v).setCell ⟨g,2,none⟩ r).ownsRow base e size V n xs:=by
 obtain⟨h1,h2⟩:=h;refine⟨h1,?_⟩;rcases h2 with h2 | ⟨k,cap,cur,a,b,c,d⟩
 ·exact .inl h2
 ·exact .inr ⟨k,cap,cur,a,b,by rw[qR (by omega)];exact c,d⟩
theorem qcU(w:World)(a b c d:Value)(t:TypeId):∀ j u,[a,b,c,d][j]?=some u->(w.alloc (.cells #[a,b,c,d] t)).cell? ⟨w.heap.size,j,none⟩=some u:=by
 intro j u hu;match j,hu with
 | 0,hu=>simp at hu;subst hu;simp
 | 1,hu=>simp at hu;subst hu;simp
 | 2,hu=>simp at hu;subst hu;simp
 | 3,hu=>simp at hu;subst hu;simp
theorem qK{W w5:World}{base:Nat}{e:TypeId}{size:Nat}{V:Value}{n:Nat}{xs:List Value}(hown:W.ownsRow base e size V n xs){o:Obj}(hg:(W.alloc o).grownBy w5 V.ownBlock){k:Nat}(hk:k<base)(hs:k<W.heap.size):w5.heap[k]?=W.heap[k]?:=by
 rw[hg.block k (by simp;omega) (fun h=>by have:=(hown.lt _ h.symm).1;omega),Below.heap_alloc _ _ _ hs]
theorem JM{w W w5:World}{base:Nat}{e:TypeId}{size:Nat}{V:Value}{n:Nat}{xs:List Value}(hown:W.ownsRow base e size V n xs)(hb:Bel w W){o:Obj}(hg:(W.alloc o).grownBy w5 V.ownBlock)(hk:w.heap.size<=base):Bel w w5:=
 Below.grown (hb.alloc o) hg (by have:=hb.size;simp;omega) (fun j hj=>by have:=(hown.lt _ hj).1;omega)
theorem qa5{p:Pl}{c:Int}(hc:cpB c=true)(hp:p.sm 4002)(w:World) :
  Calls Tryz.prog 96 #[.agg #[.int .i64 p.a,p.l,p.c],.int .i32 c] w fun e w'=>e=.returned (.agg #[.int .i64 (p.next c).a,.int .i64 (p.next c).l,.int .i64 (p.next c).c])/\Bel w w':=
 qbO hc (by unfold Pl.sm at *;omega) w
theorem qfe{w:World}{base:Nat}{e:TypeId}{size:Nat}{V:Value}{n:Nat}{xs:List Value}(h:w.ownsRow base e size V n xs):w.drew.ownsRow base e size V n xs:=h
theorem qZ{w:World}{base:Nat}{e:TypeId}{size:Nat}{V:Value}{n:Nat}{xs:List Value}(h:w.ownsRow base e size V n xs){p:Addr}(hg:p.block<base)(u:Value):(w.setCell p u).ownsRow base e size V n xs:=by
 obtain⟨h1,h2⟩:=h;refine⟨h1,?_⟩;rcases h2 with h2 | ⟨k,cap,cur,a,b,c,d⟩
 ·exact .inl h2
 ·exact .inr ⟨k,cap,cur,a,b,by rw[Below.heap_setCell _ _ _ _ (by omega)];exact c,d⟩
theorem qhR:enc 65533=[239,191,189]:=by decide +kernel
theorem hasP(s:ByteArray)(i:Nat)(b:Bool)(h:b=true↔enc 65533 <+: s.data.toList.drop i)(w:World) :
  Calls Tryz.prog 95 #[.string (s.extract i s.size),.string { data:=#[239,191,189] }] w fun e w'=>e=.returned (.bool b)/\w=w':=
 (Tryz.strings_HasPrefix _ _ w).mono fun _ _ k=>⟨by
  rw[k.1];refine Jk ?_;rw[Bool.eq_iff_iff,h,qhR];have e:(s.extract i s.size).data.toList=s.data.toList.drop i:=by
   have:=Lib.extract_toList s i s.size;rw[ByteArray.toList_eq]at this;rw[this,List.take_of_length_le];rw[List.length_drop,Array.length_toList];exact Nat.le_refl _
  rw[e];unfold Lib.hasPrefix;exact List.isPrefixOf_iff_prefix,k.2.symm⟩
theorem qdp{s:ByteArray}(hs:4000<s.size)(w:World):Calls Tryz.prog 52 #[.string s] w (qij w):=by
 have hs':(4000:Int)<(s.size:Int):=by omega
 go_enter Tryz.func52,Tryz.ntmps52
 go_wp2
 refine bodyPost_ret (v:= .tuple #[.slice none 0 0,z0.v,dv 3 z0]) ?_ rfl ⟨?_,rfl⟩
 ·simp[results,Tryz.results52,go_sem,Pl.v,dv,z0]
 ·repeat (first | exact Bel.refl _ | refine Bel.set_ ?_ (by simp) _ | refine Bel.alloc ?_ _ | refine Bel.drew ?_)
set_option maxRecDepth 100000 in
theorem qbr{s:ByteArray}{cs:List Int}{rest:List UInt8}(h:Cps s.data.toList cs rest)(hs:s.size<=4000)(w:World):Calls Tryz.prog 52 #[.string s] w (qik cs rest w):=by
 have hlen:s.data.toList.length=s.size:=by rw[Array.length_toList];rfl
 have hcl:(encs cs).length+rest.length=s.size:=by rw[<- hlen,h.eq,List.length_append]
 have HL:=hid hcl;have H:=hid h;have hs':(s.size:Int)<=4000:=by omega
 clear h hlen hcl;go_enter Tryz.func52,Tryz.ntmps52
 go_wp2
 go_loopw [5] (fun v wr=>∃ (j:Nat) (A:Option Addr) (n c:Nat),j<=cs.length/\v=.slice A n c/\wr.heap[w.heap.size+3]?=some (.stringIter s (encs (cs.take j)).length) ∧
   wr.heap[w.heap.size+2]?=some (.cells #[.int .i64 (ends p0 (cs.take j)).a,.int .i64 (ends p0 (cs.take j)).l,.int .i64 (ends p0 (cs.take j)).c] 30 (0,0)) ∧
   wr.heap[w.heap.size]?=some (.cells #[.int .i64 0,(0:Int),(0:Int)] 30 (0,0)) ∧
   wr.heap[w.heap.size+1]?=some (.cells #[.int .i64 0,(0:Int),(0:Int),(0:Int)] 32 (0,0)) ∧
   wr.ownsRow (w.heap.size+4) 77 4 (.slice A n c) n (jk (place p0 (cs.take j)))/\Hid (Bel w wr)) (fun _ wr=>s.size-wr.iterPos (w.heap.size+3))
 case atStart=>
  have hb:=blk4 w (.cells #[.int .i64 0,(0:Int),(0:Int)] 30 (0,0)) (.cells #[.int .i64 0,(0:Int),(0:Int),(0:Int)] 32 (0,0)) (.cells #[.int .i64 0,.int .i64 1,.int .i64 1] 30 (0,0)) (.stringIter s 0);exact⟨0,none,0,0,Nat.zero_le _,rfl,hb.2.2.2,hb.2.2.1,hb.1,hb.2.1,World.ownsRow_nil _ _ _ _,((((Bel.refl w).alloc _).alloc _).alloc _).alloc _⟩
 case round=>
  obtain⟨j,A,n,cc,hj,rfl,hit,hp,hz,hd,hown,HB⟩:=hrel;have hpos0:=j9 hit;have HP0:=hid hpos0;clear hpos0;have hsm:=qgx (cs:=cs.take j) (H.out.cp.take j) (n:=4000) (by
   have h1:encs cs=encs (cs.take j)++encs (cs.drop j):=by rw[<- qU,List.take_append_drop]
   have h2:=congrArg List.length h1;rw[List.length_append]at h2;have:=HL.out;omega)
  have HSM:=hid hsm;have hBlt:=(Array.getElem?_eq_some_iff.1 hit).1;clear hsm;by_cases hlt:j<cs.length
  ·obtain⟨c,hcj⟩:∃ c,cs[j]?=some c:=⟨_,List.getElem?_eq_getElem hlt⟩
   obtain⟨hcp,hpre,hnext,hposlt⟩:=H.out.at_ hcj;have hdec:=jc hcp hpre;have hcb:=(qG c).1 hcp;have htk:cs.take (j+1)=cs.take j++[c]:=by
    rw[List.take_succ_eq_append_getElem hlt];rw[List.getElem?_eq_getElem hlt]at hcj;rw[Option.some.inj hcj]
   have hc1:((Utf8.decode s (encs (cs.take j)).length).1:Int)=c:=by rw[hdec];show ((c.toNat:Nat):Int)=c;omega
   have hc2:(encs (cs.take j)).length+(Utf8.decode s (encs (cs.take j)).length).2=(encs (cs.take (j+1))).length:=by rw[hdec,hnext]
   have hnx:∀ ty,(Instr.next (.pointer (some ⟨w.heap.size+3,0,none⟩)) true ty).run Tryz.prog wr=_:=fun ty=>Lib.run_next_any_at wr (w.heap.size+3) s _ ty hit hposlt;simp only[hc1,hc2]at hnx;have hit2:=Lib.iterAt_heap wr (w.heap.size+3) s _ (encs (cs.take (j+1))).length hit;have hp2:=hp;rw[<- Lib.iterAt_other wr (w.heap.size+3) (w.heap.size+2) s (encs (cs.take (j+1))).length (by omega)]at hp2;have hz2:=hz;rw[<- Lib.iterAt_other wr (w.heap.size+3) (w.heap.size) s (encs (cs.take (j+1))).length (by omega)]at hz2;have hd2:=hd;rw[<- Lib.iterAt_other wr (w.heap.size+3) (w.heap.size+1) s (encs (cs.take (j+1))).length (by omega)]at hd2;have hown2:=Zs hown (k:=w.heap.size+3) (by omega) s (encs (cs.take (j+1))).length;have HB2:Hid (Bel w (wr.iterAt (w.heap.size+3) s (encs (cs.take (j+1))).length)):=hid (Lib.below_iterAt HB.out (by omega) s _);obtain⟨W1,hW1⟩:∃ W1,W1=wr.iterAt (w.heap.size+3) s (encs (cs.take (j+1))).length:=⟨_,rfl⟩
   rw[<- hW1]at hnx hit2 hp2 hz2 hd2 hown2 HB2;obtain⟨pos,hpos⟩:∃ pos,pos=(encs (cs.take j)).length:=⟨_,rfl⟩
   rw[<- hpos]at hnx hposlt hpre;have hpos1:(pos:Int)<(s.size:Int):=by omega
   clear hW1 hit hp hz hd hown HB hdec hc1 hc2 hcj;have HT:=hid htk;have HCP:=hid hcp;have HPRE:=hid hpre;have HPOS:=hid hpos;have HNX:=hid hnext;clear htk hcp hpre hpos hnext;obtain⟨P,hP⟩:∃ P,P=ends p0 (cs.take j):=⟨_,rfl⟩
   rw[<- hP]at hp2 HSM;have HPQ:=hid hP;clear hP;have HOW:=hid hown2;have HIT:=hid hit2;have HZ:=hid hz2;have HD:=hid hd2;have HPP:=hid hp2;obtain⟨k0,k1,k2,f0,f1,f2⟩:=jo hp2;have hBl:w.heap.size+3<W1.heap.size:=(Array.getElem?_eq_some_iff.1 hit2).1;clear hown2 hit2 hz2 hd2 hp2 hBlt;by_cases hff:c=65533
   ·subst hff
    have hln:n<=4000:=by
     have h1:=HOW.out.1;have h2:=HL.out;have h3:=qD H.out.cp;rw[QN,jO,List.length_take]at h1;omega
    go_wp2_with (first | (go_at_call 95;refine (hasP s pos true (by simp[HPRE.out]) _).mono ?_;rintro e w1 ⟨rfl,rfl⟩) | (at_builtin;refine qr rfl _ _ 70 rfl (w.heap.size+4) 77 _ 4 32 Tryz.underlying70 qcX rfl (by decide) (by decide) A n cc _ rfl (HOW.out.alloc _) W1.heap.size [.int .i32 65533,P.a,P.l,P.c] rfl rfl (qcU W1 _ _ _ _ _) (by simp[Value.oneCell']) (by omega) (by simp;omega) ?_;intro V5 c5 w5 hown5 hg5;have HIT5:=hid ((qK HOW.out hg5 (k:=w.heap.size+3) (by omega) (by omega)).trans HIT.out);have HP5:=hid ((qK HOW.out hg5 (k:=w.heap.size+2) (by omega) (by omega)).trans HPP.out);have HZ5:=hid ((qK HOW.out hg5 (k:=w.heap.size) (by omega) (by omega)).trans HZ.out);have HD5:=hid ((qK HOW.out hg5 (k:=w.heap.size+1) (by omega) (by omega)).trans HD.out);have HB5:=hid (JM HOW.out HB2.out hg5 (by omega));have HO5:=hid hown5;clear hown5 hg5 k0 k1 k2 f0 f1 f2;obtain⟨k0,k1,k2,f0,f1,f2⟩:=jo HP5.out))
    refine (qa5 HCP.out HSM.out _).mono ?_;rintro e w6 ⟨rfl,hb6⟩;have HIT6:=hid (hb6.blk HIT5.out);have HP6:=hid (hb6.blk HP5.out);have HZ6:=hid (hb6.blk HZ5.out);have HD6:=hid (hb6.blk HD5.out);have HO6:=hid (qp HO5.out hb6);have HB6:=hid (HB5.out.on hb6);clear hb6 k0 k1 k2 f0 f1 f2;obtain⟨k0,k1,k2,f0,f1,f2⟩:=jo HP6.out;have hB6:w.heap.size+3<w6.heap.size:=(Array.getElem?_eq_some_iff.1 HIT6.out).1;go_wp2
    have HIT7:=hid ((qR (w:=w6) (g:=w.heap.size+2) (k:=w.heap.size+3) (by omega) (.int .i64 (P.next 65533).a) (.int .i64 (P.next 65533).l) (.int .i64 (P.next 65533).c)).trans HIT6.out);go_roundw
    case rel=>
     exact⟨j+1,V5,n+1,c5,by omega,rfl,HIT7.out,by rw[HT.out,JG,<- HPQ.out];exact qbo HP6.out _ _ _,(qR (by omega) _ _ _).trans HZ6.out,(qR (by omega) _ _ _).trans HD6.out,by
      have:=qbp (g:=w.heap.size+2) HO6.out (by omega) (.int .i64 (P.next 65533).a) (.int .i64 (P.next 65533).l) (.int .i64 (P.next 65533).c);rw[HT.out,ZH,ZB,<- HPQ.out];exact this,Bel.set_ (Bel.set_ (Bel.set_ HB6.out (by show w.heap.size<=w.heap.size+2;omega) _) (by show w.heap.size<=w.heap.size+2;omega) _) (by show w.heap.size<=w.heap.size+2;omega) _⟩
    case measure=>
     have e1:=j9 HIT7.out;have e2:=HP0.out;have e3:=HPOS.out;have e4:=HNX.out;have e5:=(zv 65533).1;rw[e1,e2];omega
   ·have e1:(c==65533)=false:=by simpa using hff
    have hln:n<=4000:=by
     have h1:=HOW.out.1;have h2:=HL.out;have h3:=qD H.out.cp;rw[QN,jO,List.length_take]at h1;omega
    clear hff;go_wp2_with (at_builtin;refine qr rfl _ _ 70 rfl (w.heap.size+4) 77 _ 4 32 Tryz.underlying70 qcX rfl (by decide) (by decide) A n cc _ rfl (HOW.out.alloc _) W1.heap.size [.int .i32 c,P.a,P.l,P.c] rfl rfl (qcU W1 _ _ _ _ _) (by simp[Value.oneCell']) (by omega) (by simp;omega) ?_;intro V5 c5 w5 hown5 hg5;have HIT5:=hid ((qK HOW.out hg5 (k:=w.heap.size+3) (by omega) (by omega)).trans HIT.out);have HP5:=hid ((qK HOW.out hg5 (k:=w.heap.size+2) (by omega) (by omega)).trans HPP.out);have HZ5:=hid ((qK HOW.out hg5 (k:=w.heap.size) (by omega) (by omega)).trans HZ.out);have HD5:=hid ((qK HOW.out hg5 (k:=w.heap.size+1) (by omega) (by omega)).trans HD.out);have HB5:=hid (JM HOW.out HB2.out hg5 (by omega));have HO5:=hid hown5;clear hown5 hg5 k0 k1 k2 f0 f1 f2;obtain⟨k0,k1,k2,f0,f1,f2⟩:=jo HP5.out)
    refine (qa5 HCP.out HSM.out _).mono ?_;rintro e w6 ⟨rfl,hb6⟩;have HIT6:=hid (hb6.blk HIT5.out);have HP6:=hid (hb6.blk HP5.out);have HZ6:=hid (hb6.blk HZ5.out);have HD6:=hid (hb6.blk HD5.out);have HO6:=hid (qp HO5.out hb6);have HB6:=hid (HB5.out.on hb6);clear hb6 k0 k1 k2 f0 f1 f2;obtain⟨k0,k1,k2,f0,f1,f2⟩:=jo HP6.out;have hB6:w.heap.size+3<w6.heap.size:=(Array.getElem?_eq_some_iff.1 HIT6.out).1;go_wp2
    have HIT7:=hid ((qR (w:=w6) (g:=w.heap.size+2) (k:=w.heap.size+3) (by omega) (.int .i64 (P.next c).a) (.int .i64 (P.next c).l) (.int .i64 (P.next c).c)).trans HIT6.out);go_roundw
    case rel=>
     exact⟨j+1,V5,n+1,c5,by omega,rfl,HIT7.out,by rw[HT.out,JG,<- HPQ.out];exact qbo HP6.out _ _ _,(qR (by omega) _ _ _).trans HZ6.out,(qR (by omega) _ _ _).trans HD6.out,by
      have:=qbp (g:=w.heap.size+2) HO6.out (by omega) (.int .i64 (P.next c).a) (.int .i64 (P.next c).l) (.int .i64 (P.next c).c);rw[HT.out,ZH,ZB,<- HPQ.out];exact this,Bel.set_ (Bel.set_ (Bel.set_ HB6.out (by show w.heap.size<=w.heap.size+2;omega) _) (by show w.heap.size<=w.heap.size+2;omega) _) (by show w.heap.size<=w.heap.size+2;omega) _⟩
    case measure=>
     have e1:=j9 HIT7.out;have e2:=HP0.out;have e3:=HPOS.out;have e4:=HNX.out;have e5:=(zv c).1;rw[e1,e2];omega
  ·obtain rfl:j=cs.length:=by omega
   simp only[List.take_length]at hit hp hown HSM HP0;obtain⟨k0,k1,k2,f0,f1,f2⟩:=jo hp;obtain⟨zz0,zz1,zz2,zf0,zf1,zf2⟩:=jo hz;obtain⟨d0,d1,d2,d3,df0,df1,df2,df3⟩:=qA hd;obtain⟨P,hP⟩:∃ P,P=ends p0 cs:=⟨_,rfl⟩
   rw[<- hP]at k0 k1 k2;have HPQ:=hid hP;clear hP;by_cases hr:rest=[]
   ·have hnx:∀ ty,(Instr.next (.pointer (some ⟨w.heap.size+3,0,none⟩)) true ty).run Tryz.prog wr=_:=fun ty=>Lib.run_next_end_at wr (w.heap.size+3) s _ ty hit (by have:=HL.out;rw[hr]at this;simp at this;omega)
    have HR:=hid hr;have HO:=hid hown;have HIT:=hid hit;clear hr hown hit hp hz hd;go_wp2_with fail
    go_region_with (fail)
    all_goals
     go_wp2
     refine bodyPost_ret (v:= .tuple #[.slice A n cc,P.v,dv 0 Mu.z0]) ?_ rfl ⟨?_,?_⟩
     ·simp[results,Tryz.results52,go_sem,Pl.v,dv,Mu.z0, *]
     ·repeat (first | with_reducible exact HB.out | with_reducible refine Bel.set_ ?_ (by simp) _ | with_reducible refine Bel.alloc ?_ _ | with_reducible refine Bel.drew ?_)
     ·rw[if_pos HR.out]
      refine⟨A,n,cc,by rw[HPQ.out],RP.of_own (base:=w.heap.size+4) (c:=cc) (e:=77) ?_⟩;repeat (first | with_reducible exact HO.out | with_reducible refine qZ ?_ (by show _<w.heap.size+4;simp) _ | with_reducible refine qfe ?_)
   ·have hdr:s.data.toList.drop (encs cs).length=rest:=by rw[H.out.eq,List.drop_left]
    have hrl:0<rest.length:=List.length_pos_iff.2 hr;have hlt2:(encs cs).length<s.size:=by have:=HL.out;omega
    have hdec:(Utf8.decode s (encs cs).length)=(65533,1):=by
     rcases hd':Utf8.decode s (encs cs).length with ⟨c,k⟩
     by_cases hb:c=65533/\k=1
     ·rw[hb.1,hb.2]
     ·exfalso
      obtain⟨h1,_,h3⟩:=ZA hlt2 hd' hb;rw[hdr]at h3;exact H.out.no _ h1 h3
    have hnx:∀ ty,(Instr.next (.pointer (some ⟨w.heap.size+3,0,none⟩)) true ty).run Tryz.prog wr=_:=fun ty=>Lib.run_next_any_at wr (w.heap.size+3) s _ ty hit hlt2;rw[hdec]at hnx;have hnp:false=true↔enc 65533 <+: s.data.toList.drop (encs cs).length:=⟨(fun h=>by cases h),(fun h=>by rw[hdr]at h;exact absurd h (H.out.no _ (by decide +kernel)))⟩
    obtain⟨pos,hpos⟩:∃ pos,pos=(encs cs).length:=⟨_,rfl⟩
    rw[<- hpos]at hnx hlt2 hnp;have hp2:=hp;rw[<- Lib.iterAt_other wr (w.heap.size+3) (w.heap.size+2) s (pos+1) (by omega)]at hp2;have hz2:=hz;rw[<- Lib.iterAt_other wr (w.heap.size+3) (w.heap.size) s (pos+1) (by omega)]at hz2;have hd2:=hd;rw[<- Lib.iterAt_other wr (w.heap.size+3) (w.heap.size+1) s (pos+1) (by omega)]at hd2;have HB2:Hid (Bel w (wr.iterAt (w.heap.size+3) s (pos+1))):=hid (Lib.below_iterAt HB.out (by omega) s _);obtain⟨W1,hW1⟩:∃ W1,W1=wr.iterAt (w.heap.size+3) s (pos+1):=⟨_,rfl⟩
    have hnx':∀ ty,(Instr.next (.pointer (some ⟨w.heap.size+3,0,none⟩)) true ty).run Tryz.prog wr=.ok (.tuple #[.bool true,pos,.int .i32 65533]) W1:=fun ty=>by rw[hW1];exact hnx ty
    rw[<- hW1]at hp2 hz2 hd2 HB2;have hsz:W1.heap.size=wr.heap.size:=by rw[hW1,Lib.iterAt_size]
    have hB1:w.heap.size+3<W1.heap.size:=by omega
    have hpos1:(pos:Int)<(s.size:Int):=by omega
    have HNP:=hid hnp;have HR:=hid hr;rw[<- HPQ.out]at hp2;clear hnx hW1 hsz hit hp hz hd hown hnp hr hdr hrl hdec hpos k0 k1 k2 f0 f1 f2 zz0 zz1 zz2 zf0 zf1 zf2 d0 d1 d2 d3 df0 df1 df2 df3;obtain⟨k0,k1,k2,f0,f1,f2⟩:=jo hp2;obtain⟨zz0,zz1,zz2,zf0,zf1,zf2⟩:=jo hz2;obtain⟨d0,d1,d2,d3,df0,df1,df2,df3⟩:=qA hd2;clear hp2 hz2 hd2;go_wp2_with (go_at_call 95;refine (hasP s pos false HNP.out _).mono ?_;rintro e w1 ⟨rfl,rfl⟩)
    go_region_with (fail)
    all_goals
     go_wp2
     refine bodyPost_ret (v:= .tuple #[.slice none 0 0,Mu.z0.v,dv 90 P]) ?_ rfl ⟨?_,?_⟩
     ·simp[results,Tryz.results52,go_sem,Pl.v,dv,Mu.z0, *]
     ·repeat (first | with_reducible exact HB2.out | with_reducible refine Bel.set_ ?_ (by simp) _ | with_reducible refine Bel.alloc ?_ _ | with_reducible refine Bel.drew ?_)
     ·rw[if_neg HR.out,HPQ.out]
end Go.Proofs.YtfpoelklhekfaaaGreatDoor.Mu
namespace Go.Proofs.YtfpoelklhekfaaaGreatDoor.Mu
open Go.RowKit
theorem fPos:((Tryz.prog.fieldsOf 30).toList.map fun f=>(f.name,f.type,f.offset))=[("At",3,0),("Line",3,1),("Col",3,2)]:=by kernel_rfl
theorem qir:((Tryz.prog.fieldsOf 32).toList.map fun f=>(f.name,f.type,f.offset))=[("E",25,0),("At",30,1)]:=by kernel_rfl
theorem map2{α β:Type}{f:α->β}{l:List α}{x y:β}(h:l.map f=[x,y]):∃ a b,l=[a,b]/\f a=x/\f b=y:=by
 match l,h with
 | [a,b],h=>simp at h;exact⟨a,b,rfl,h.1,h.2⟩
theorem map3{α β:Type}{f:α->β}{l:List α}{x y z:β}(h:l.map f=[x,y,z]):∃ a b c,l=[a,b,c]/\f a=x/\f b=y/\f c=z:=by
 match l,h with
 | [a,b,c],h=>simp at h;exact⟨a,b,c,rfl,h.1,h.2.1,h.2.2⟩
set_option maxRecDepth 100000 in
theorem qdg(d:Nat)(x y:Pl)(w:World):(Op.equalIn (d+2) 30 (.agg #[.int .i64 x.a,x.l,x.c]) (.agg #[.int .i64 y.a,y.l,y.c])).run Tryz.prog w=.ok (decide (x=y)) w:=by
 rw[run_equalIn_struct w (d+1) 30 _ _ (by kernel_rfl) (by kernel_rfl)];obtain⟨a,b,c,e,ea,eb,ec⟩:=map3 fPos;simp only[Prod.mk.injEq]at ea eb ec;obtain⟨a0,a1,a2⟩:=ea;obtain⟨b0,b1,b2⟩:=eb;obtain⟨c0,c1,c2⟩:=ec;rw[e];have p0:∀ x y z:Value,(part 3 #[x,y,z] 0).run Tryz.prog w=.ok x w:=fun x y z=>by kernel_rfl
 have q0:∀ x y z:Value,(part 3 #[x,y,z] 1).run Tryz.prog w=.ok y w:=fun x y z=>by kernel_rfl
 have r0:∀ x y z:Value,(part 3 #[x,y,z] 2).run Tryz.prog w=.ok z w:=fun x y z=>by kernel_rfl
 have n0:¬ ("At" : String) = "_":=by decide +kernel
 have n1:¬ ("Line" : String) = "_":=by decide +kernel
 have n2:¬ ("Col" : String) = "_":=by decide +kernel
 simp only[Op.eqFields,a0,a1,a2,b0,b1,b2,c0,c1,c2,ne_eq,n0,n1,n2,not_false_eq_true,if_true,Sem.run_bind,p0,q0,r0,Result.andThen_ok,run_equalIn_int w d 3 _ _ _ _ Tryz.underlying3,Sem.run_ite,Sem.run_pure];obtain⟨v,m,c⟩:=x;obtain⟨v',m',c'⟩:=y;by_cases h1:v=v' <;> by_cases h2:m=m' <;> by_cases h3:c=c' <;> simp[h1,h2,h3]
set_option maxRecDepth 100000 in
theorem qgt(i j:Int)(x y:Pl)(w:World):(Op.equalIn 10000 32 (.agg #[.int .i64 i,x.a,x.l,x.c]) (.agg #[.int .i64 j,y.a,y.l,y.c])).run Tryz.prog w=.ok (decide (i=j)&&decide (x=y)) w:=by
 rw[run_equalIn_struct w 9999 32 _ _ (by kernel_rfl) (by kernel_rfl)];obtain⟨a,b,e,ea,eb⟩:=map2 qir;simp only[Prod.mk.injEq]at ea eb;obtain⟨a0,a1,a2⟩:=ea;obtain⟨b0,b1,b2⟩:=eb;rw[e];have p0:∀ x y z u:Value,(part 25 #[x,y,z,u] 0).run Tryz.prog w=.ok x w:=fun x y z u=>by kernel_rfl
 have q0:∀ x y z u:Value,(part 30 #[x,y,z,u] 1).run Tryz.prog w=.ok (.agg #[y,z,u]) w:=fun x y z u=>by kernel_rfl
 have n0:¬ ("E" : String) = "_":=by decide +kernel
 have n1:¬ ("At" : String) = "_":=by decide +kernel
 have g1:=qdg 9997 x y w;have g2:=run_equalIn_int (P:=Tryz.prog) w 9998 25 .i64 .i64 i j Tryz.underlying25;simp only[Op.eqFields,a0,a1,a2,b0,b1,b2,ne_eq,n0,n1,not_false_eq_true,if_true,Sem.run_bind,p0,q0,Result.andThen_ok,g1,g2,Sem.run_ite,Sem.run_pure];by_cases h1:i=j <;> by_cases h2:x=y <;> simp[h1,h2]
end Go.Proofs.YtfpoelklhekfaaaGreatDoor.Mu
namespace Go.Proofs.YtfpoelklhekfaaaGreatDoor.Mu
open Go.RowKit Go.Shelf
set_option maxRecDepth 100000
structure Ot where
 xs:List Pn
 p:Pl
 e:Int
 q:Pl
def ot(n:Nat)(cs:List Int)(rest:List UInt8):Ot:=
 if 4000<n then ⟨[],z0,3,z0⟩ else if rest=[] then ⟨place p0 cs,ends p0 cs,0,z0⟩ else ⟨[],z0,90,ends p0 cs⟩
def GO3(o:Ot)(w:World)(e:Ending)(w':World):Prop:=
 Bel w w'/\∃ A n c,e=.returned (.tuple #[.slice A n c,.agg #[.int .i64 o.p.a,o.p.l,o.p.c],.agg #[.int .i64 o.e,o.q.a,o.q.l,o.q.c]])/\RP w' w'.heap.size A n o.xs
def GO2(o:Ot)(w:World)(e:Ending)(w':World):Prop:=
 Bel w w'/\∃ A n c,e=.returned (.tuple #[.slice A n c,.agg #[.int .i64 o.e,o.q.a,o.q.l,o.q.c]])/\RP w' w'.heap.size A n o.xs
theorem qic{s:ByteArray}{cs:List Int}{rest:List UInt8}(h:Cps s.data.toList cs rest)(w:World):Calls Tryz.prog 52 #[.string s] w (GO3 (ot s.size cs rest) w):=by
 unfold ot;by_cases h1:4000<s.size
 ·rw[if_pos h1]
  exact (qdp h1 w).mono fun e w' k=>⟨k.1,none,0,0,k.2,RP.nil_⟩
 ·rw[if_neg h1]
  by_cases hr:rest=[]
  ·rw[if_pos hr]
   refine (qbr h (by omega) w).mono fun e w' k=>⟨k.1,?_⟩
   have:=k.2;rw[if_pos hr]at this;exact this
  ·rw[if_neg hr]
   refine (qbr h (by omega) w).mono fun e w' k=>⟨k.1,none,0,0,?_,RP.nil_⟩
   have:=k.2;rw[if_neg hr]at this;exact this
theorem RP.put4{w:World}{B n g:Nat}{A:Option Addr}{xs:List Pn}{t:TypeId}{a b c d:Int}(h:RP w B A n xs)(hg:w.heap[g]?=some (.cells #[.int .i64 a,b,c,d] t (0,0)))(v0 v1 v2 v3:Value) :
  RP ((((w.setCell ⟨g,0,none⟩ v0).setCell ⟨g,1,none⟩ v1).setCell ⟨g,2,none⟩ v2).setCell ⟨g,3,none⟩ v3) B A n xs:=by
 refine⟨h.1,fun hn=>?_⟩;obtain⟨b,off,e,hb,hc⟩:=h.2 hn;obtain⟨x,hx⟩:∃ x,xs[0]?=some x:=⟨_,List.getElem?_eq_getElem (by have:=h.1;omega)⟩
 have hne:b≠g:=by
  rintro rfl;have h0:=(hc 0 x hx).1;simp only[World.cell?,hg,Option.isSome_none,Bool.false_eq_true,if_false]at h0;match off,h0 with
  | 0,h0=>simp at h0
  | 1,h0=>simp at h0
  | 2,h0=>simp at h0
  | 3,h0=>simp at h0
  | _+4,h0=>simp at h0
 refine⟨b,off,e,hb,fun j y hy=>?_⟩;have K:∀ o,((((w.setCell ⟨g,0,none⟩ v0).setCell ⟨g,1,none⟩ v1).setCell ⟨g,2,none⟩ v2).setCell ⟨g,3,none⟩ v3).cell? ⟨b,o,none⟩=w.cell? ⟨b,o,none⟩:=fun o=>by
  rw[World.cell?_setCell_other,World.cell?_setCell_other,World.cell?_setCell_other,World.cell?_setCell_other];all_goals (intro e;injection e;omega)
 rw[K,K,K,K];exact hc j y hy
theorem RP.drew{w:World}{B n:Nat}{A:Option Addr}{xs:List Pn}(h:RP w B A n xs):RP w.drew B A n xs:=h
theorem qcc{s:ByteArray}{cs:List Int}{rest:List UInt8}(h:Cps s.data.toList cs rest)(w:World):Calls Tryz.prog 20 #[.string s] w (GO2 (ot s.size cs rest) w):=by
 obtain⟨o,ho⟩:∃ o,o=ot s.size cs rest:=⟨_,rfl⟩
 have HC:Hid (∀ w,Calls Tryz.prog 52 #[.string s] w (GO3 o w)):=hid (fun w=>by rw[ho];exact qic h w);rw[<- ho];clear h ho;go_enter Tryz.func20,Tryz.ntmps20
 go_wp2_with fail
 refine (HC.out _).mono ?_;rintro e w1 ⟨hb,A,n,c,rfl,hq⟩;have hb2:=(((Bel.refl w).alloc (.cells #[.int .i64 0,(0:Int),(0:Int),(0:Int)] 32)).on hb)
 obtain⟨d0,d1,d2,d3,df0,df1,df2,df3⟩:=qA (hb.blk (blk1 w (.cells #[.int .i64 0,(0:Int),(0:Int),(0:Int)] 32)));have hsz:w.heap.size<w1.heap.size:=by have:=hb.size;simp at this;omega
 have HB:=hid hb2;have HQ:=hid hq;have HD:=hid (hb.blk (blk1 w (.cells #[.int .i64 0,(0:Int),(0:Int),(0:Int)] 32)));clear hb hb2 hq;go_wp2_with fail
 go_region_with (fail)
 all_goals
  go_wp2
  refine bodyPost_ret (v:= .tuple #[.slice A n c,.agg #[.int .i64 o.e,o.q.a,o.q.l,o.q.c]]) ?_ rfl ⟨?_,A,n,c,rfl,?_⟩
  ·simp[results,Tryz.results20,go_sem, *]
  ·repeat (first | with_reducible exact HB.out | with_reducible refine Bel.set_ ?_ (by simp) _ | with_reducible refine Bel.alloc ?_ _ | with_reducible refine Bel.drew ?_)
  ·have hr:=(HQ.out.put4 HD.out (.int .i64 o.e) (.int .i64 o.q.a) (.int .i64 o.q.l) (.int .i64 o.q.c)).more (B':=((((w1.setCell ⟨w.heap.size,0,none⟩ (.int .i64 o.e)).setCell ⟨w.heap.size,1,none⟩ (.int .i64 o.q.a)).setCell ⟨w.heap.size,2,none⟩ (.int .i64 o.q.l)).setCell ⟨w.heap.size,3,none⟩ (.int .i64 o.q.c)).heap.size) (by simp)
   exact hr.bel ((((Bel.refl _).alloc _).alloc _).drew)
end Go.Proofs.YtfpoelklhekfaaaGreatDoor.Mu
namespace Go.Proofs.YtfpoelklhekfaaaGreatDoor.Mu
open Go.RowKit Go.Shelf
end Go.Proofs.YtfpoelklhekfaaaGreatDoor.Mu
namespace Go.Proofs.YtfpoelklhekfaaaGreatDoor.Mu
open Go.RowKit Go.Shelf
set_option maxRecDepth 100000
def allB(l:List Int):Bool:=l.all cpB
theorem Qu(l:List Int):allB l=true↔AllCp l:=by simp[allB,AllCp]
def putS(l:List Int):List UInt8:=if allB l=true/\(encs l).length<=4000 then encs l else []
def putE(l:List Int):Int:=if allB l=true then (if (encs l).length<=4000 then 0 else 3) else 2
def GPut(l:List Int)(w:World)(e:Ending)(w':World):Prop:=Bel w w'/\e=.returned (.tuple #[.string ⟨(putS l).toArray⟩,.int .i64 (putE l)])
theorem qco(l:List Int):runesBytes l=⟨(encs l).toArray⟩:=by
 have:∀ (l:List Int) (r:ByteArray),l.foldl (fun r n=>r++Utf8.encode n) r=⟨r.data++(encs l).toArray⟩:=by
  intro l;induction l with
  | nil=>intro r;simp[encs]
  | cons x l ih=>
   intro r;rw[List.foldl_cons,ih];apply ByteArray.ext;rw[ql];apply Array.ext';simp[enc,ByteArray.data_append]
 unfold runesBytes;rw[this];apply ByteArray.ext;apply Array.ext';simp[ByteArray.empty,ByteArray.emptyWithCapacity];rfl
theorem qdZ{w:World}{A:Option Addr}{n c:Nat}{l:List Int}(h:RI .i32 w w.heap.size A n l):(convert 169 9 (.slice A n c)).run Tryz.prog w=.ok (.string ⟨(encs l).toArray⟩) w:=by
 rcases Nat.eq_zero_or_pos n with h0 | h0
 ·have hl:l=[]:=List.eq_nil_of_length_eq_zero (by have:=h.len;omega)
  subst hl;subst h0;cases A with
  | none=>rw[run_convert_runes_nil w _ _ 21 _ _ Tryz.underlying169 Tryz.underlying21 Tryz.underlying9];rfl
  | some a=>
   rw[run_convert_runes w _ _ 21 a 0 c [] (by simp) Tryz.underlying169 Tryz.underlying21 Tryz.underlying9 (fun j hj=>by simp at hj)];rfl
 ·obtain⟨b,off,rfl,hb,hc⟩:=h.at_ h0
  rw[run_convert_runes w _ _ 21 ⟨b,off,none⟩ n c l (by have:=h.len;omega) Tryz.underlying169 Tryz.underlying21 Tryz.underlying9 (fun j hj=>by
   rw[Addr.add_lit,hc j (by have:=h.len;omega)];simp[List.getD])]
  rw[List.take_of_length_le (by have:=h.len;omega),qco]
theorem qgh{l:List Int}{j:Nat}{x:Int}(hx:l[j]?=some x)(h:cpB x=false):allB l=false:=by
 rw[Bool.eq_false_iff];intro h';have:=(Qu l).1 h' x (List.mem_of_getElem? hx);rw[h]at this;cases this
theorem qbK{l:List Int}{j:Nat}{x:Int}(h:AllCp (l.take j))(hx:l[j]?=some x)(hc:cpB x=true):AllCp (l.take (j+1))/\(encs (l.take (j+1))).length=(encs (l.take j)).length+wid x/\encs (l.take (j+1))=encs (l.take j)++enc x:=by
 have hlt:=(List.getElem?_eq_some_iff.1 hx).1;have e1:l.take (j+1)=l.take j++[x]:=by
  rw[List.take_succ_eq_append_getElem hlt,(List.getElem?_eq_some_iff.1 hx).2]
 rw[e1,qU];refine⟨h.app fun c hcc=>by simp at hcc;subst hcc;exact hc,?_,by simp[encs]⟩;rw[List.length_append];simp[encs,zO hc]
theorem qeR(c:Int):(enc c).length<=4:=encode_size_le c
theorem qae(l:List Int):(encs l).length<=4*l.length:=by
 induction l with
 | nil=>simp[encs]
 | cons x l ih=>rw[ql,List.length_append,List.length_cons];have:=qeR x;omega
theorem qg3{A:Option Addr}{n c:Nat}{l:List Int}(hn:n<=1000000000)(w:World)(h:RI .i32 w w.heap.size A n l):Calls Tryz.prog 132 #[.slice A n c] w (GPut l w):=by
 have hcv:=qdZ (c:=c) h;have H:=hid h;have hle:=qae l;rw[<- h.len]at hle;have HLE:=hid hle;clear h hle;go_enter Tryz.func132,Tryz.ntmps132
 go_wp2
 go_loop [4,9] (fun v i=>∃ j:Nat,j<=n/\i=.int .i64 j/\v=.int .i64 (encs (l.take j)).length/\Hid (AllCp (l.take j))) (fun _ i=>n-(intOf i).toNat)
 case atStart=>exact⟨0,Nat.zero_le _,rfl,rfl,fun c hc=>by simp at hc⟩
 case round=>
  obtain⟨j,hj,rfl,rfl,HA⟩:=hrel;by_cases hlt:j<n
  ·obtain⟨x,hx⟩:∃ x,l[j]?=some x:=⟨_,List.getElem?_eq_getElem (by have:=H.out.len;omega)⟩
   obtain⟨b,off,rfl,hb,hc⟩:=H.out.at_ (by omega);have hcx:=hc j hlt;rw[hx]at hcx;simp only[Option.getD_some]at hcx;have HX:=hid hx;have hel:(encs (l.take j)).length<=4*j:=by
    have:=qae (l.take j);rw[List.length_take]at this;omega
   obtain⟨m,hm⟩:∃ m,m=(encs (l.take j)).length:=⟨_,rfl⟩
   rw[<- hm]at hel ⊢;have HM:=hid hm;clear hc hx hm;by_cases hcp:cpB x=true
   ·have hw:=zv x
    have HCP:=hid hcp;clear hcp;go_wp2_with (first | (go_at_call 144;refine (show ∀ w,Calls Tryz.prog 144 #[.int .i32 x] w fun e w'=>e=.returned (.bool true)/\w=w' from fun w=>(qf4 x w).mono fun _ _ k=>⟨by rw[k.1,HCP.out],k.2⟩) _ |>.mono ?_;rintro e w' ⟨rfl,rfl⟩) | (go_at_call 129;refine (qfZ HCP.out _).mono ?_;rintro e w' ⟨rfl,rfl⟩))
    go_round
    case rel=>
     obtain⟨a1,a2,-⟩:=qbK HA.out HX.out HCP.out;exact⟨j+1,by omega,by go_num,by rw[a2,<- HM.out];go_num,a1⟩
    case measure=>simp[intOf];omega
   ·have hcp:cpB x=false:=by simpa using hcp
    have HCP:=hid hcp;clear hcp;go_wp2_with (go_at_call 144;refine (show ∀ w,Calls Tryz.prog 144 #[.int .i32 x] w fun e w'=>e=.returned (.bool false)/\w=w' from fun w=>(qf4 x w).mono fun _ _ k=>⟨by rw[k.1,HCP.out],k.2⟩) _ |>.mono ?_;rintro e w' ⟨rfl,rfl⟩)
    go_ret2
    refine⟨Bel.refl _,?_⟩;have:=qgh HX.out HCP.out;simp[putS,putE,this]
  ·obtain rfl:j=n:=by omega
   have hlj:l.take j=l:=List.take_of_length_le (by have:=H.out.len;omega);have hA:allB l=true:=(Qu l).2 (by have:=HA.out;rwa [hlj]at this);rw[hlj];have HAL:=hid hA;clear hA;clear hlj;by_cases hmax:(encs l).length<=4000
   ·have hm2:((encs l).length:Int)<=4000:=by omega
    have HM:=hid hmax;clear hmax;go_wp2
    go_ret2
    exact⟨Bel.refl _,by simp[putS,putE,HAL.out,HM.out]⟩
   ·have hm2:(4000:Int)<((encs l).length:Int):=by omega
    have HM:=hid hmax;clear hmax;go_wp2
    go_ret2
    exact⟨Bel.refl _,by simp[putS,putE,HAL.out,HM.out]⟩
end Go.Proofs.YtfpoelklhekfaaaGreatDoor.Mu
namespace Go.Proofs.YtfpoelklhekfaaaGreatDoor.Mu
open Go Go.RowKit
set_option maxRecDepth 100000
inductive Tr where
 | nil
 | nod (k:Int) (s:List UInt8) (n:Int) (p:Pl) (kids arms rest:Tr)
 | arm (k:Int) (s:List UInt8) (n:Int) (p:Pl) (kids e rest:Tr)
def Tr.len:Tr->Nat
 | .nil=>0
 | .nod _ _ _ _ _ _ r=>r.len+1
 | .arm _ _ _ _ _ _ r=>r.len+1
def Tr.size:Tr->Nat
 | .nil=>0
 | .nod _ _ _ _ k a r=>1+k.size+a.size+r.size
 | .arm _ _ _ _ k e r=>1+k.size+e.size+r.size
def Tr.nth:Tr->Nat->Tr
 | .nil,_=> .nil
 | .nod k s n p a b _,0=> .nod k s n p a b .nil
 | .arm k s n p a b _,0=> .arm k s n p a b .nil
 | .nod _ _ _ _ _ _ r,i+1=>r.nth i
 | .arm _ _ _ _ _ _ r,i+1=>r.nth i
def Tr.same:Tr->Tr->Bool
 | .nil,.nil=>true
 | .nod k s n _ a b r,.nod k' s' n' _ a' b' r'=>decide (k=k')&&decide (s=s')&&decide (n=n')&&a.same a'&&b.same b'&&r.same r'
 | .arm k s n _ a e r,.arm k' s' n' _ a' e' r'=>decide (k=k')&&decide (s=s')&&decide (n=n')&&a.same a'&&e.same e'&&r.same r'
 | _,_=>false
def Tr.depth:Tr->Nat
 | .nil=>0
 | .nod _ _ _ _ k a r=>max (1+max k.depth a.depth) r.depth
 | .arm _ _ _ _ k e r=>max (max (1+k.depth) e.depth) r.depth
theorem Tr.len_le:∀ f:Tr,f.len<=f.size
 | .nil=>Nat.le_refl _
 | .nod _ _ _ _ k a r=>by have:=Tr.len_le r;simp only[Tr.len,Tr.size];omega
 | .arm _ _ _ _ k e r=>by have:=Tr.len_le r;simp only[Tr.len,Tr.size];omega
theorem Tr.depth_le:∀ f:Tr,f.depth<=f.size
 | .nil=>Nat.le_refl _
 | .nod _ _ _ _ k a r=>by
  have:=Tr.depth_le k;have:=Tr.depth_le a;have:=Tr.depth_le r;simp only[Tr.depth,Tr.size];omega
 | .arm _ _ _ _ k e r=>by
  have:=Tr.depth_le k;have:=Tr.depth_le e;have:=Tr.depth_le r;simp only[Tr.depth,Tr.size];omega
theorem Tr.nth_size:∀ (f:Tr) (i:Nat),(f.nth i).size<=f.size
 | .nil,_=>Nat.le_refl _
 | .nod _ _ _ _ a b r,0=>by simp only[Tr.nth,Tr.size];omega
 | .arm _ _ _ _ a b r,0=>by simp only[Tr.nth,Tr.size];omega
 | .nod _ _ _ _ a b r,i+1=>by have:=Tr.nth_size r i;simp only[Tr.nth,Tr.size];omega
 | .arm _ _ _ _ a b r,i+1=>by have:=Tr.nth_size r i;simp only[Tr.nth,Tr.size];omega
theorem Tr.same_len:∀ f g:Tr,f.same g=true->f.len=g.len
 | .nil,.nil,_=>rfl
 | .nod _ _ _ _ a b r,.nod _ _ _ _ a' b' r',h=>by
  simp only[Tr.same,Bool.and_eq_true]at h;simp only[Tr.len,Tr.same_len r r' h.2]
 | .arm _ _ _ _ a b r,.arm _ _ _ _ a' b' r',h=>by
  simp only[Tr.same,Bool.and_eq_true]at h;simp only[Tr.len,Tr.same_len r r' h.2]
 | .nil,.nod ..,h=>by cases h
 | .nil,.arm ..,h=>by cases h
 | .nod ..,.nil,h=>by cases h
 | .nod ..,.arm ..,h=>by cases h
 | .arm ..,.nil,h=>by cases h
 | .arm ..,.nod ..,h=>by cases h
inductive Sh where
 | pat | ty | ex | arms
def Sh.sz:Sh->Nat
 | .pat=>7
 | .ty=>7
 | .ex=>8
 | .arms=>15
def Sh.kd:Sh->IntKind
 | .ty=> .u8
 | _=> .i64
def HeadAt(w:World)(kd:IntKind)(b o:Nat)(k:Int)(s:List UInt8)(n:Int)(p:Pl):Prop:=
 w.cell? ⟨b,o,none⟩=some (.int .u8 k)/\w.cell? ⟨b,o+1,none⟩=some (.string ⟨s.toArray⟩)/\w.cell? ⟨b,o+2,none⟩=some (.int kd n)/\w.cell? ⟨b,o+3,none⟩=some (.int .i64 p.a)/\w.cell? ⟨b,o+4,none⟩=some (.int .i64 p.l)/\w.cell? ⟨b,o+5,none⟩=some (.int .i64 p.c)
def TrAt(w:World)(Ok:Nat->Prop):Tr->Sh->Nat->Nat->Prop
 | .nil,_,_,_=>True
 | .nod k s n p kids arms rest,sh,b,o=>HeadAt w sh.kd b o k s n p ∧
   (∃ A cap,w.cell? ⟨b,o+6,none⟩=some (.slice A kids.len cap)/\kids.len<=cap/\(0<kids.len->∃ b' o',A=some ⟨b',o',none⟩/\Ok b'/\TrAt w Ok kids sh b' o')) ∧
   ((sh=.ex/\∃ A cap,w.cell? ⟨b,o+7,none⟩=some (.slice A arms.len cap)/\arms.len<=cap/\(0<arms.len->∃ b' o',A=some ⟨b',o',none⟩/\Ok b'/\TrAt w Ok arms .arms b' o'))∨((sh=.pat∨sh=.ty)/\arms.len=0)) ∧
   TrAt w Ok rest sh b (o+sh.sz)
 | .arm k s n p kids e rest,sh,b,o=>sh=.arms/\HeadAt w .i64 b o k s n p ∧
   (∃ A cap,w.cell? ⟨b,o+6,none⟩=some (.slice A kids.len cap)/\kids.len<=cap/\(0<kids.len->∃ b' o',A=some ⟨b',o',none⟩/\Ok b'/\TrAt w Ok kids .pat b' o')) ∧
   e.len=1/\TrAt w Ok e .ex b (o+7)/\TrAt w Ok rest sh b (o+15)
theorem HeadAt.keep{w w':World}{kd:IntKind}{b o:Nat}{k:Int}{s:List UInt8}{n:Int}{p:Pl}(h:HeadAt w kd b o k s n p)(hk:w'.heap[b]?=w.heap[b]?):HeadAt w' kd b o k s n p:=by
 have hc:∀ o',w'.cell? ⟨b,o',none⟩=w.cell? ⟨b,o',none⟩:=fun o'=>World.cell?_of_block (a:=⟨b,o',none⟩) hk;obtain⟨a0,a1,a2,a3,a4,a5⟩:=h;exact⟨(hc _).trans a0,(hc _).trans a1,(hc _).trans a2,(hc _).trans a3,(hc _).trans a4,(hc _).trans a5⟩
theorem TrAt.keep{w w':World}{Ok:Nat->Prop}(hk:∀ j,Ok j->w'.heap[j]?=w.heap[j]?):∀ (f:Tr) (sh:Sh) (b o:Nat),Ok b->TrAt w Ok f sh b o->TrAt w' Ok f sh b o
 | .nil,_,_,_,_,_=>trivial
 | .nod k s n p kids arms rest,sh,b,o,hb,h=>by
  obtain⟨h1,⟨A,cap,a1,a2,a3⟩,h3,h4⟩:=h;have hc:∀ o',w'.cell? ⟨b,o',none⟩=w.cell? ⟨b,o',none⟩:=fun o'=>World.cell?_of_block (a:=⟨b,o',none⟩) (hk b hb);refine⟨h1.keep (hk b hb),⟨A,cap,(hc _).trans a1,a2,fun h0=>?_⟩,?_,TrAt.keep hk rest sh b _ hb h4⟩
  ·obtain⟨b',o',e,c1,c2⟩:=a3 h0
   exact⟨b',o',e,c1,TrAt.keep hk kids sh b' o' c1 c2⟩
  ·rcases h3 with ⟨e,A2,cap2,c1,c2,c3⟩ | h3
   ·refine .inl ⟨e,A2,cap2,(hc _).trans c1,c2,fun h0=>?_⟩
    obtain⟨b',o',e,d1,d2⟩:=c3 h0;exact⟨b',o',e,d1,TrAt.keep hk arms .arms b' o' d1 d2⟩
   ·exact .inr h3
 | .arm k s n p kids e rest,sh,b,o,hb,h=>by
  obtain⟨h0,h1,⟨A,cap,a1,a2,a3⟩,h3,h4,h5⟩:=h;have hc:∀ o',w'.cell? ⟨b,o',none⟩=w.cell? ⟨b,o',none⟩:=fun o'=>World.cell?_of_block (a:=⟨b,o',none⟩) (hk b hb);refine⟨h0,h1.keep (hk b hb),⟨A,cap,(hc _).trans a1,a2,fun h0=>?_⟩,h3,TrAt.keep hk e .ex b _ hb h4,TrAt.keep hk rest sh b _ hb h5⟩;obtain⟨b',o',e,c1,c2⟩:=a3 h0;exact⟨b',o',e,c1,TrAt.keep hk kids .pat b' o' c1 c2⟩
def TrRow(w:World)(B:Nat)(sh:Sh)(A:Option Addr)(n:Nat)(f:Tr):Prop:=
 n=f.len/\(0<n->∃ b o,A=some ⟨b,o,none⟩/\b<B/\TrAt w (fun j=>j<B) f sh b o)
theorem TrAt.wide{w:World}{Ok Ok':Nat->Prop}(hw:∀ j,Ok j->Ok' j):∀ (f:Tr) (sh:Sh) (b o:Nat),TrAt w Ok f sh b o->TrAt w Ok' f sh b o
 | .nil,_,_,_,_=>trivial
 | .nod k s n p kids arms rest,sh,b,o,h=>by
  obtain⟨h1,⟨A,cap,a1,a2,a3⟩,h3,h4⟩:=h;refine⟨h1,⟨A,cap,a1,a2,fun h0=>?_⟩,?_,TrAt.wide hw rest sh b _ h4⟩
  ·obtain⟨b',o',e,c1,c2⟩:=a3 h0
   exact⟨b',o',e,hw _ c1,TrAt.wide hw kids sh b' o' c2⟩
  ·rcases h3 with ⟨e,A2,cap2,c1,c2,c3⟩ | h3
   ·refine .inl ⟨e,A2,cap2,c1,c2,fun h0=>?_⟩
    obtain⟨b',o',e,d1,d2⟩:=c3 h0;exact⟨b',o',e,hw _ d1,TrAt.wide hw arms .arms b' o' d2⟩
   ·exact .inr h3
 | .arm k s n p kids e rest,sh,b,o,h=>by
  obtain⟨h0,h1,⟨A,cap,a1,a2,a3⟩,h3,h4,h5⟩:=h;refine⟨h0,h1,⟨A,cap,a1,a2,fun h0=>?_⟩,h3,TrAt.wide hw e .ex b _ h4,TrAt.wide hw rest sh b _ h5⟩;obtain⟨b',o',e,c1,c2⟩:=a3 h0;exact⟨b',o',e,hw _ c1,TrAt.wide hw kids .pat b' o' c2⟩
theorem TrRow.bel{w w':World}{sh:Sh}{A:Option Addr}{n:Nat}{f:Tr}(h:TrRow w w.heap.size sh A n f)(hb:Bel w w'):TrRow w' w'.heap.size sh A n f:=
 ⟨h.1,fun hn=>by
  obtain⟨b,o,e,hbb,hc⟩:=h.2 hn;exact⟨b,o,e,Nat.lt_of_lt_of_le hbb hb.size,(TrAt.keep (fun j hj=>hb.block j hj) f sh b o hbb hc).wide (fun j hj=>Nat.lt_of_lt_of_le hj hb.size) f sh b o⟩⟩
theorem TrAt.nod_at{w:World}{Ok:Nat->Prop}{sh:Sh}(hsh:sh ≠ .arms):∀ (f:Tr) (i b o:Nat),TrAt w Ok f sh b o->i<f.len->∃ k s n p kids arms,f.nth i=.nod k s n p kids arms .nil/\TrAt w Ok (.nod k s n p kids arms .nil) sh b (o+i*sh.sz)
 | .nil,i,b,o,_,h=>by simp[Tr.len]at h
 | .arm ..,_,_,_,h,_=>absurd h.1 hsh
 | .nod k s n p kids arms rest,0,b,o,h,_=>⟨k,s,n,p,kids,arms,rfl,by rw[Nat.zero_mul];exact⟨h.1,h.2.1,h.2.2.1,trivial⟩⟩
 | .nod k s n p kids arms rest,i+1,b,o,h,hl=>by
  obtain⟨k',s',n',p',a',b',e,ha⟩:=TrAt.nod_at hsh rest i b (o+sh.sz) h.2.2.2 (by simp only[Tr.len]at hl;omega);refine⟨k',s',n',p',a',b',e,?_⟩;rw[show o+(i+1)*sh.sz=o+sh.sz+i*sh.sz by rw[Nat.add_mul];omega];exact ha
theorem TrAt.arm_at{w:World}{Ok:Nat->Prop}:∀ (f:Tr) (i b o:Nat),TrAt w Ok f .arms b o->i<f.len->∃ k s n p kids e,f.nth i=.arm k s n p kids e .nil/\TrAt w Ok (.arm k s n p kids e .nil) .arms b (o+i*15)
 | .nil,i,b,o,_,h=>by simp[Tr.len]at h
 | .nod ..,_,_,_,h,_=>by
  rcases h.2.2.1 with ⟨e,_⟩ | ⟨e | e,_⟩ <;> cases e
 | .arm k s n p kids ex rest,0,b,o,h,_=>⟨k,s,n,p,kids,ex,rfl,by rw[Nat.zero_mul];exact⟨h.1,h.2.1,h.2.2.1,h.2.2.2.1,h.2.2.2.2.1,trivial⟩⟩
 | .arm k s n p kids ex rest,i+1,b,o,h,hl=>by
  obtain⟨k',s',n',p',a',b',e,ha⟩:=TrAt.arm_at rest i b (o+15) h.2.2.2.2.2 (by simp only[Tr.len]at hl;omega);refine⟨k',s',n',p',a',b',e,?_⟩;rw[show o+(i+1)*15=o+15+i*15 by omega];exact ha
end Go.Proofs.YtfpoelklhekfaaaGreatDoor.Mu
