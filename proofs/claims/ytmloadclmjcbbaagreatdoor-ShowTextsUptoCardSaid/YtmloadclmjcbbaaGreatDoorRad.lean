import Derived.Shelf.Strings.BuilderK
import Derived.Lib.UnsafeStr
import Derived.Laws.Externs
import Derived.Test.YtmloadclmjcbbaaGreatDoorRac
open Go.Lib (hid)
namespace Go.Proofs.YtmloadclmjcbbaaGreatDoor.Mu
set_option maxHeartbeats 4000000
open Go.RowKit Go.Shelf
set_option maxRecDepth 100000
theorem qcd{b:Nat}{A:OA}{cp:Nat}(s:LU)(hs:s.length<=100000)(w:World)(hb:w.heap[b]?=some (.cells #[.int .u32 0,.int .i32 0,.int .u32 0,.nilIface,.slice A 8 cp] 196 (0,0)))(hr:RL w w.heap.size A 8 oldnew)(hab:∀ a,A=some a->a.block≠b) :
  Calls Tryz.prog 99 #[.pointer (some ⟨b,0,none⟩),.string ⟨s.toArray⟩] w fun e w'=>e=.returned (.string ⟨(s.flatMap escB).toArray⟩)/\Kr b w w':=by
 have HD:=hid (qjz w hb hr hab);have hblt:=(Array.getElem?_eq_some_iff.1 hb).1;clear hb hr hab;go_enter Tryz.func99,Tryz.ntmps99;go_wp2_with fail;refine HD.out.mono ?_;rintro e w1 ⟨rfl,hbu⟩;obtain⟨g,A4,c4,e5,hg,ht,ho,hk⟩:=hbu.ex;obtain⟨⟨k0,k1,k2,k3,k4⟩,l0,l1,l2,l3,l4⟩:=j5 e5;obtain⟨gt,rfl,hgt,-,-,hcs⟩:=qas ho (by decide);have HR:=hid (qi0 s hs w1 ht (fun j x hx=>hcs j ⟨x.toArray⟩ (by rw[List.getElem?_map,hx];rfl)) hgt);have HK:=hid hk;clear hbu e5 ht ho hk hcs;have hm:∀ w:World,Sem.run Tryz.prog (method 412 245 (.pointer (some ⟨g,0,none⟩)) "Replace") w=.ok (239,.pointer (some ⟨g,0,none⟩)) w:=fun _=>by kernel_rfl
 go_wp2_with (go_at_call 239;refine HR.out.mono ?_;rintro e w2 ⟨rfl,hb2⟩;(have HB2:=hid hb2);clear hb2);go_ret;exact⟨rfl,HK.bel HB2⟩
def qei(W:World)(b:Nat):Prop:=∃ (A:OA) (c:Nat),W.heap[b]?=some (.cells #[.int .u32 0,.int .i32 0,.int .u32 0,.nilIface,.slice A 8 c] 196 (0,0))/\RL W W.heap.size A 8 oldnew/\(∀ a,A=some a->a.block≠b)
def qb9:Array Value:=#[.string ⟨#[10]⟩,.string ⟨#[92,110]⟩,.string ⟨#[9]⟩,.string ⟨#[92,116]⟩,.string ⟨#[34]⟩,.string ⟨#[92,34]⟩,.string ⟨#[92]⟩,.string ⟨#[92,92]⟩]
def NewQ(W:World)(e:Ending)(w':World):Prop:=∃ b:Nat,e=.returned (.pointer (some ⟨b,0,none⟩))/\qei w' b/\W.heap.size<=b/\Bel W w'
theorem qiJ{g:Nat}(W:World)(hb:W.heap[g]?=some (.cells qb9 9 (0,0))) :
  Calls Tryz.prog 98 #[.slice (some ⟨g,0,none⟩) 8 8] W (NewQ W):=by
 have hrl:RL W W.heap.size (some ⟨g,0,none⟩) 8 oldnew:=⟨rfl,fun _=>⟨g,0,rfl,(Array.getElem?_eq_some_iff.1 hb).1,fun j x hx=>by
  unfold World.cell?
  rw[hb]
  match j,hx with
  | 0,hx=>injection hx with hx;subst hx;rfl
  | 1,hx=>injection hx with hx;subst hx;rfl
  | 2,hx=>injection hx with hx;subst hx;rfl
  | 3,hx=>injection hx with hx;subst hx;rfl
  | 4,hx=>injection hx with hx;subst hx;rfl
  | 5,hx=>injection hx with hx;subst hx;rfl
  | 6,hx=>injection hx with hx;subst hx;rfl
  | 7,hx=>injection hx with hx;subst hx;rfl⟩⟩
 refine (qdL (cp:=8) W hrl).mono ?_;rintro e w' ⟨b,A2,c2,h1,h2,h3,h4,h5,h6⟩;exact⟨b,h1,⟨A2,c2,h2,h3,h4⟩,h5,h6⟩
theorem qiY{b:Nat}(s:LU)(hs:s.length<=100000)(w:World)(h:qei w b) :
  Calls Tryz.prog 99 #[.pointer (some ⟨b,0,none⟩),.string ⟨s.toArray⟩] w fun e w'=>e=.returned (.string ⟨(s.flatMap escB).toArray⟩)/\Kr b w w':=by
 obtain⟨A,c,h1,h2,h3⟩:=h;exact qcd s hs w h1 h2 h3
theorem qct(s:LU)(n a l c:Int)(hs:s.length<=100000)(w:World) :
  Calls Tryz.prog 49 #[.agg #[.int .u8 4,.string ⟨s.toArray⟩,.int .i64 n,.int .i64 a,.int .i64 l,.int .i64 c]] w fun e w'=>e=.returned (.string ⟨(34::(s.flatMap escB++[34])).toArray⟩)/\Bel w w':=by
 have hb1:Bel w (w.alloc (.cells #[.int .u8 4,.string ⟨s.toArray⟩,n,a,l,c] 85)):=(Bel.refl w).alloc _;have q1:=blk1 w (.cells #[.int .u8 4,.string ⟨s.toArray⟩,n,a,l,c] 85);obtain⟨⟨t0,t1,t2,t3,t4,t5⟩,f0,f1,f2,f3,f4,f5⟩:=qq q1;have HB1:=hid hb1;have HRP:Hid (∀ (b:Nat) (W:World),qei W b->Calls Tryz.prog 99 #[.pointer (some ⟨b,0,none⟩),.string ⟨s.toArray⟩] W fun e w'=>e=.returned (.string ⟨(s.flatMap escB).toArray⟩)/\Kr b W w'):=hid fun b W h=>qiY s hs W h;obtain⟨ts,hts⟩:=nW (⟨(s.flatMap escB).toArray⟩:BA);have HTS:Hid ((⟨(34::(s.flatMap escB++[34])).toArray⟩:BA)=(⟨#[34]⟩++ts)++⟨#[34]⟩):=by
  exact hid (ByteArray.ext (by simp[hts]))
 have hz:ts.size<=200000:=by
  rw[hts];have:=(Zp s).2;simp only[ByteArray.size,List.size_toArray];omega
 have c1:¬ (9223372036854775807<1+ts.size):=by omega
 have c2:¬ (9223372036854775807<1+ts.size+1):=by omega
 clear hz;obtain⟨rs,hrs⟩:=nW (⟨(34::(s.flatMap escB++[34])).toArray⟩:BA);rw[<- hrs]at HTS;rw[<- hrs];rw[<- hts]at HRP;clear hb1 hts hrs;go_enter Tryz.func49,Tryz.ntmps49;go_upto_region 5 with fail
 obtain⟨w1,hw1⟩:=nW (w.alloc (.cells #[.int .u8 4,.string ⟨s.toArray⟩,n,a,l,c] 85));have hlt1:w.heap.size<w1.heap.size:=by rw[hw1];simp
 rw[<- hw1]at HB1 t0 t1 t2 t3 t4 t5 f0 f1 f2 f3 f4 f5 q1;rw[<- hw1];clear hw1;have HN:Hid (Calls Tryz.prog 98 #[.slice (some ⟨w1.heap.size,0,none⟩) 8 8] (w1.drew.alloc (.cells #[.string ⟨#[10]⟩,.string ⟨#[92,110]⟩,.string ⟨#[9]⟩,.string ⟨#[92,116]⟩,.string ⟨#[34]⟩,.string ⟨#[92,34]⟩,.string ⟨#[92]⟩,.string ⟨#[92,92]⟩] 9 (0,0))) fun e w'=>∃ b:Nat,e=.returned (.pointer (some ⟨b,0,none⟩))/\qei w' b/\w1.heap.size<=b/\Bel w1 w'/\w'.cell? ⟨w.heap.size,1,none⟩=some (.string ⟨s.toArray⟩)):=by
  refine hid ((qiJ _ (blk1 w1.drew _)).mono ?_);rintro e w' ⟨b,h1,h2,h3,h4⟩;have hb:Bel w1 w':=((Bel.refl w1).drew.alloc _).on h4;exact⟨b,h1,h2,by simp at h3;omega,hb,(hb.cell (p:=⟨w.heap.size,1,none⟩) hlt1).trans t1⟩
 have HR2:Hid (∀ (b:Nat) (W:World),qei W b->w1.heap.size<=b->Bel w1 W->Calls Tryz.prog 99 #[.pointer (some ⟨b,0,none⟩),.string ⟨s.toArray⟩] W fun e w'=>e=.returned (.string ts)/\Bel w1 w'):=
  hid fun b W h h2 h3=>(HRP b W h).mono fun e w' hk=>⟨hk.1,Kr.weak h3 hk.2 h2⟩
 clear HRP;go_cut [2] (fun v wx=>Hid (v=.string rs/\Bel w1 wx))
 case rest=>
  obtain⟨rfl,hbx⟩:=hcut.out;go_wp2;go_ret;exact⟨rfl,HB1.on hbx⟩
 case first=>
  clear q1 f0 f1 f2 f3 f4 f5 t0 t2 t3 t4 t5;go_region_with (first | (go_at_call 98;refine HN.out.mono ?_;rintro e w4 ⟨b,rfl,hrb,hle,hb4,j1⟩;(have HX4:=hid (And.intro hrb (And.intro hle hb4)));clear hrb hle hb4) | (go_at_call 99;refine (HR2 _ _ HX4.1 HX4.2.1 HX4.2.2).mono ?_;rintro e w5 ⟨rfl,hk5⟩;(have HK5:=hid hk5);clear hk5));all_goals go_wp2_with fail
  all_goals go_meet
  all_goals exact hid ⟨by rw[HTS.out],HK5⟩
theorem qcs(k:Int)(s:LU)(n a l c:Int)(hs:k=4->s.length<=100000)(h0:-9223372036854775808<=n)(h1:n<=9223372036854775807)(w:World)(htab:Tbl w) :
  Calls Tryz.prog 49 #[.agg #[.int .u8 k,.string ⟨s.toArray⟩,n,a,l,c]] w fun e w'=>e=.returned (.string ⟨(wriB k s n).toArray⟩)/\Bel w w':=by
 by_cases k4:k=4
 ·subst k4
  have:=qct s n a l c (hs rfl) w;rw[show wriB 4 s n=34::(s.flatMap escB++[34]) from rfl];exact this
 ·exact Zl k s n a l c k4 h0 h1 w htab
set_option maxHeartbeats 4000000
abbrev BufF(base b:Nat)(bs:LU)(w:World):Prop:=Lib.IsBuilderF 91 5 base b (Lib.byteCells bs) w
def BufK(base b:Nat)(w w':World):Prop:=Below base w w'/\Lib.OthersKept 5 (some b) w w'
theorem qib:liesAt Tryz.prog Tryz.prog.depth 91 (2 / Tryz.prog.cellsOf 91) 0 91 1=true:=by kernel_rfl
theorem qew:(Tryz.prog.info? 91).map (·.size)=some 2:=by kernel_rfl
theorem qjs:(Tryz.prog.info? 5).map (fun i=>(i.zero,i.size,i.bytes))=some (some (.int .u8 0),1,1):=by kernel_rfl
theorem qie(b:Nat)(w:World)(h0:w.cell? ⟨b,0,none⟩=some (.pointer (some ⟨b,0,none⟩))):Calls Tryz.prog 96 #[.pointer (some ⟨b,0,none⟩)] w fun e w'=>e=.returned (.tuple #[])/\w'=w:=by
 obtain⟨j,hj,_⟩:=Option.map_eq_some_iff.1 qew;go_enter Tryz.func96,Tryz.ntmps96;go_wp2;rw[Lib.run_neq_ptr_same w _ (by kernel_rfl) hj];go_wp2;go_end0;exact⟨rfl,rfl⟩
theorem qid(b:Nat)(w:World)(h0:w.cell? ⟨b,0,none⟩=some (.pointer none))(hsh:w.shape? b=some (91,2))(hfz:w.frozen? ⟨b,0,none⟩=false) :
  Calls Tryz.prog 96 #[.pointer (some ⟨b,0,none⟩)] w fun e w'=>e=.returned (.tuple #[])/\w'=w.setCell ⟨b,0,none⟩ (.pointer (some ⟨b,0,none⟩)):=by
 obtain⟨j,hj,hjs⟩:=Option.map_eq_some_iff.1 qew;go_enter Tryz.func96,Tryz.ntmps96;go_wp2;rw[Lib.run_to_unsafe w ⟨b,0,none⟩ (t:=91) (by kernel_rfl) (by kernel_rfl) hj (by rw[hjs];decide) hsh (Nat.zero_lt_succ 1)];simp only[Result.andThen];rw[Oper.upon_value];go_wp2;rw[run_callFunc_extern Tryz.func124 (by kernel_rfl) (by kernel_rfl) (by kernel_rfl) (e:=Extern.AbiNoEscape.same) (by kernel_rfl)];rw[Lib.run_noEscape];simp only[Result.andThen];rw[Oper.upon_value];go_wp2;rw[Lib.run_from_unsafe w ⟨b,0,none⟩ (u:=91) (by kernel_rfl) (by kernel_rfl) hj hsh qib];simp only[Result.andThen];rw[Oper.upon_value];go_wp2;go_end0;exact⟨rfl,rfl⟩
theorem qcB(base b:Nat)(bs:LU)(w:World)(h:BufF base b bs w) :
  Calls Tryz.prog 96 #[.pointer (some ⟨b,0,none⟩)] w fun e w'=>e=.returned (.tuple #[])/\Lib.BuilderAtF 91 5 base b (.pointer (some ⟨b,0,none⟩)) (Lib.byteCells bs) w'/\BufK base b w w':=by
 rcases h with h | h
 ·refine (qid b w h.cell0 h.shape h.frozen0).mono ?_
  rintro e w' ⟨rfl,rfl⟩;exact⟨rfl,h.used _,Below.setCell (Below.refl base w) (p:=⟨b,0,none⟩) h.1 _,Lib.OthersKept.setCell (Lib.OthersKept.refl _ _ w) ⟨b,0,none⟩ rfl _⟩
 ·refine (qie b w h.cell0).mono ?_
  rintro e w' ⟨rfl,rfl⟩;exact⟨rfl,h,Below.refl base _,Lib.OthersKept.refl _ _ _⟩
theorem qdm(base b:Nat)(bs:LU)(s:LU)(w:World)(h:BufF base b bs w)(hlen:bs.length+s.length<=140737488355328)(hB0:base<=w.heap.size) :
  Calls Tryz.prog 48 #[.pointer (some ⟨b,0,none⟩),.string ⟨s.toArray⟩] w fun e w'=>e=.returned (.tuple #[.int .i64 s.length,.nilIface])/\BufF base b (bs++s) w'/\BufK base b w w':=by
 obtain⟨i0,hi,hz0,hz1,hz2⟩:=info_parts qjs;have hss:(⟨s.toArray⟩:BA).size=s.length:=by simp[ByteArray.size]
 have hbl:(Lib.byteCells bs).length=bs.length:=Lib.byteCells_length bs;go_enter Tryz.func48,Tryz.ntmps48;go_wp2_with (go_at_call 96;refine (qcB base b bs _ h).mono ?_);rintro e w1 ⟨rfl,⟨hB,v,hbk,hown,hne⟩,hb1,hk1⟩;have HB1:=hid hb1;have HK1:=hid hk1;have hsz1:=hb1.size;have c1:w1.cell? ⟨b,1,none⟩=some v:=by rw[Lib.cell_of_heap hbk];rfl
 have hlt:=(Array.getElem?_eq_some_iff.1 hbk).1;clear hb1 hk1 h;go_wp2_with (at_builtin;refine Lib.wpList_append_own_stringF _ rfl _ _ 89 9 rfl base 5 i0 Tryz.underlying89 Tryz.underlying9 hi hz0 hz1 hz2 _ _ _ rfl hown ⟨s.toArray⟩ rfl ?c3 ?c4 ?c5 ?_)
 case c3=>unfold maxLen;omega
 case c4=>omega
 case c5=>omega
 intro v' w2 hown' hgrow _;have hb2:w2.heap[b]?=some (.cells #[.pointer (some ⟨b,0,none⟩),v] 91 (0,0)):=(hgrow.block b hlt (fun e=>hne e.symm)).trans hbk;have d1:w2.cell? ⟨b,1,none⟩=some v:=by rw[Lib.cell_of_heap hb2];rfl
 have f1:w2.frozen? ⟨b,1,none⟩=false:=Lib.frozen_of_heap hb2 1;clear c1;obtain⟨ao,n',cap,rfl⟩:∃ ao n' cap,v'=.slice ao n' cap:=by
  rcases hown'.2 with ⟨hv,_⟩ | ⟨g,cap,cur,fz,hv,_⟩
  ·exact⟨_,_,_,hv⟩
  ·exact⟨_,_,_,hv⟩
 have HO:=hid hown';have HG:=hid hgrow;have HW:=hid hown;clear hown' hgrow hown;go_wp2;go_ret2;refine⟨rfl,.inr ?_,?_,?_⟩
 ·have hsc:Lib.strCells ⟨s.toArray⟩=Lib.byteCells s:=by rw[Lib.strCells_eq]
  rw[Lib.byteCells_append,<- hsc];exact Lib.BuilderAtF.put (T:=91) (e:=5) hB hb2 (bs':=Lib.byteCells bs++Lib.strCells ⟨s.toArray⟩) (by simpa [Lib.strCells_length,hbl,hss] using HO.out) (by decide)
 ·exact Below.setCell (HB1.out.grown HG (by omega) (fun k hk=>(HW.out.lt k hk).1)) (p:=⟨b,1,none⟩) hB _
 ·exact Lib.OthersKept.setCell (HK1.out.grown HG (Lib.ownsRowF_kind HW)) ⟨b,1,none⟩ rfl _
theorem qhG(base b:Nat)(bs:LU)(c:UInt8)(ci:Int)(hc:ci=c.toNat)(w:World)(h:BufF base b bs w)(hlen:bs.length+1<=140737488355328)(hB0:base<=w.heap.size) :
  Calls Tryz.prog 47 #[.pointer (some ⟨b,0,none⟩),.int .u8 ci] w fun e w'=>e=.returned .nilIface/\BufF base b (bs++[c]) w'/\BufK base b w w':=by
 subst hc;obtain⟨i0,hi,hz0,hz1,hz2⟩:=info_parts qjs;have hbl:(Lib.byteCells bs).length=bs.length:=Lib.byteCells_length bs;go_enter Tryz.func47,Tryz.ntmps47;go_wp2_with (go_at_call 96;refine (qcB base b bs _ h).mono ?_);rintro e w1 ⟨rfl,⟨hB,v,hbk,hown,hne⟩,hb1,hk1⟩;have HB1:=hid hb1;have HK1:=hid hk1;have hsz1:=hb1.size;have c1:w1.cell? ⟨b,1,none⟩=some v:=by rw[Lib.cell_of_heap hbk];rfl
 have hlt:=(Array.getElem?_eq_some_iff.1 hbk).1;clear hb1 hk1 h;go_wp2_with (at_builtin;refine wpList_append_ownF _ rfl _ _ 89 rfl base 5 i0 (.int .u8 0) 1 1 Tryz.underlying89 hi hz0 hz1 hz2 rfl (by decide) _ _ _ rfl (hown.alloc _) ⟨w1.heap.size,0,none⟩ 1 1 [.int .u8 c.toNat] rfl rfl ?c1 ?c2 ?c3 ?c4 ?c5 ?_)
 case c1=>
  intro j u hj
  match j,hj with
  | 0,hj=>simp at hj;subst hj;simp[Addr.add]
 case c2=>intro u hu;simp at hu;subst hu;rfl
 case c3=>unfold maxLen;omega
 case c4=>omega
 case c5=>simp;omega
 intro v' w2 hown' hgrow _;have hb2:w2.heap[b]?=some (.cells #[.pointer (some ⟨b,0,none⟩),v] 91 (0,0)):=((hgrow.block b (by simp;omega) (fun e=>hne e.symm)).trans (Lib.alloc_old w1 _ b hlt)).trans hbk;have d1:w2.cell? ⟨b,1,none⟩=some v:=by rw[Lib.cell_of_heap hb2];rfl
 have f1:w2.frozen? ⟨b,1,none⟩=false:=Lib.frozen_of_heap hb2 1;clear c1;obtain⟨ao,n',cap,rfl⟩:∃ ao n' cap,v'=.slice ao n' cap:=by
  rcases hown'.2 with ⟨hv,_⟩ | ⟨g,cap,cur,fz,hv,_⟩
  ·exact⟨_,_,_,hv⟩
  ·exact⟨_,_,_,hv⟩
 have HO:=hid hown';have HG:=hid hgrow;have HW:=hid hown;clear hown' hgrow hown;go_wp2;go_ret;refine⟨rfl,.inr ?_,?_,?_⟩
 ·have hsc:Lib.byteCells [c]=[.int .u8 c.toNat]:=rfl
  rw[Lib.byteCells_append,hsc];exact Lib.BuilderAtF.put (T:=91) (e:=5) hB hb2 (bs':=Lib.byteCells bs++[.int .u8 c.toNat]) (by simpa [hbl] using HO.out) (by decide)
 ·exact Below.setCell ((HB1.alloc (by omega) _).grown HG (by simp;omega) (fun k hk=>(HW.out.lt k hk).1)) (p:=⟨b,1,none⟩) hB _
 ·exact Lib.OthersKept.setCell ((HK1.alloc _).grown HG (Lib.ownsRowF_kind (HW.alloc _))) ⟨b,1,none⟩ rfl _
set_option maxHeartbeats 8000000
def rdV(xs:List Pn)(i:Nat):Rd->Value
 | .ok t _=>tkV t.k (encs t.x) t.n
 | .err e d=>erV e (((xs[i+d]?).map Pn.p).getD z0)
theorem qfd{g:Nat}{A:OA}{n c:Nat}{xs:List Pn}{k:Nat}(h92:(xs.map Pn.r)[k]?=some 92)(w:World)(h:Rdr w g A n c xs k) :
  Calls Tryz.prog 166 #[.pointer (some ⟨g,0,none⟩)] w fun e w'=>e=.returned (.tuple #[.int .i32 (escV (((xs.map Pn.r).drop (k+1)).headD 0)),.bool (decide (escV (((xs.map Pn.r).drop (k+1)).headD 0)≠0))])/\Bel w w':=by
 obtain⟨y,hy⟩:=nW (((xs.map Pn.r).drop (k+1)).headD 0);have hyk:∀ q:Int,q≠0->(decide ((xs.map Pn.r)[k]?=some 92/\(xs.map Pn.r)[k+1]?=some q)=decide (y=q)):=fun q hq=>by
  rw[Bool.eq_iff_iff,decide_eq_true_iff,decide_eq_true_iff,hy];cases e:(xs.map Pn.r)[k+1]? with
  | none=>
   have:(xs.map Pn.r).drop (k+1)=[]:=List.drop_eq_nil_of_le (by simpa using e);rw[this];simp;intro hh;exact hq hh.symm
  | some z=>rw[qF e,List.headD_cons];simp only[h92,Option.some.injEq,true_and]
 have HA:Hid (∀ (q:UInt8) (w:World),q.toNat<128->(q.toNat:Int)≠0->Rdr w g A n c xs k->Calls Tryz.prog 141 #[.pointer (some ⟨g,0,none⟩),.string ⟨#[92,q]⟩] w fun e w'=>e=.returned (.bool (decide (y=(q.toNat:Int))))/\Bel w w'):=hid fun q w hq hq0 hd=>by
  have:=qab [92,q] (by intro u hu;simp at hu;rcases hu with rfl | rfl;decide;exact hq) (by simp) w hd;rw[show asc [92,q]=[92,(q.toNat:Int)] by rfl,pre2,hyk _ hq0]at this;exact this
 have H:=hid h;rw[<- hy];clear h hyk hy h92;have h1:∀ w,Rdr w g A n c xs k->Calls Tryz.prog 141 #[.pointer (some ⟨g,0,none⟩),.string ⟨#[92,110]⟩] w fun e w'=>e=.returned (.bool (decide (y=110)))/\Bel w w':=fun w hd=>HA 110 w (by decide) (by decide) hd;have h2:∀ w,Rdr w g A n c xs k->Calls Tryz.prog 141 #[.pointer (some ⟨g,0,none⟩),.string ⟨#[92,116]⟩] w fun e w'=>e=.returned (.bool (decide (y=116)))/\Bel w w':=fun w hd=>HA 116 w (by decide) (by decide) hd;have h3:∀ w,Rdr w g A n c xs k->Calls Tryz.prog 141 #[.pointer (some ⟨g,0,none⟩),.string ⟨#[92,34]⟩] w fun e w'=>e=.returned (.bool (decide (y=34)))/\Bel w w':=fun w hd=>HA 34 w (by decide) (by decide) hd;have h4:∀ w,Rdr w g A n c xs k->Calls Tryz.prog 141 #[.pointer (some ⟨g,0,none⟩),.string ⟨#[92,92]⟩] w fun e w'=>e=.returned (.bool (decide (y=92)))/\Bel w w':=fun w hd=>HA 92 w (by decide) (by decide) hd;have H1:=hid h1;have H2:=hid h2;have H3:=hid h3;have H4:=hid h4;clear h1 h2 h3 h4 HA;obtain⟨ev,hev⟩:=nW (escV y);rw[<- hev];have HE:=hid hev;clear hev;go_enter Tryz.func166,Tryz.ntmps166;go_wp2_with fail;refine (H1 _ H).mono ?_;rintro e w1 ⟨rfl,hb⟩;have HB1:=hid hb;clear hb;by_cases y1:y=110
 ·rw[decide_eq_true y1]
  have:ev=10:=by rw[HE.out,y1];rfl
  subst this;go_wp2;refine bodyPost_ret (v:= .tuple #[.int .i32 10,.bool true]) (by simp[results,Tryz.results166,go_sem]) rfl ⟨by simp,HB1⟩
 rw[decide_eq_false y1];go_wp2_with fail;refine (H2 _ (H.bel HB1)).mono ?_;rintro e w2 ⟨rfl,hb⟩;have HB2:=hid (HB1.on hb);clear hb;by_cases y2:y=116
 ·rw[decide_eq_true y2]
  have:ev=9:=by rw[HE.out,y2];rfl
  subst this;go_wp2;refine bodyPost_ret (v:= .tuple #[.int .i32 9,.bool true]) (by simp[results,Tryz.results166,go_sem]) rfl ⟨by simp,HB2⟩
 rw[decide_eq_false y2];go_wp2_with fail;refine (H3 _ (H.bel HB2)).mono ?_;rintro e w3 ⟨rfl,hb⟩;have HB3:=hid (HB2.on hb);clear hb;by_cases y3:y=34
 ·rw[decide_eq_true y3]
  have:ev=34:=by rw[HE.out,y3];rfl
  subst this;go_wp2;refine bodyPost_ret (v:= .tuple #[.int .i32 34,.bool true]) (by simp[results,Tryz.results166,go_sem]) rfl ⟨by simp,HB3⟩
 rw[decide_eq_false y3];go_wp2_with fail;refine (H4 _ (H.bel HB3)).mono ?_;rintro e w4 ⟨rfl,hb⟩;have HB4:=hid (HB3.on hb);clear hb;by_cases y4:y=92
 ·rw[decide_eq_true y4]
  have:ev=92:=by rw[HE.out,y4];rfl
  subst this;go_wp2;refine bodyPost_ret (v:= .tuple #[.int .i32 92,.bool true]) (by simp[results,Tryz.results166,go_sem]) rfl ⟨by simp,HB4⟩
 rw[decide_eq_false y4];have:ev=0:=by rw[HE.out];unfold escV;rw[if_neg y1,if_neg y2,if_neg y3,if_neg y4]
 subst this;go_wp2;refine bodyPost_ret (v:= .tuple #[.int .i32 0,.bool false]) (by simp[results,Tryz.results166,go_sem]) rfl ⟨by simp,HB4⟩
theorem JR{P:Program}{c:Code}{Q:Exit->Act->World->Prop}{a:Act}{w:World}(h:∀ W,W=w->c.wp P Q a W):c.wp P Q a w:=h w rfl
theorem Zn{W w5:World}{base:Nat}{e:TypeId}{size:Nat}{V:Value}{n:Nat}{xs:List Value}(hown:W.ownsRow base e size V n xs){o:Obj}(hg:(W.alloc o).grownBy w5 V.ownBlock)(hB:base<=W.heap.size):Below base W w5:=
 Below.grown ((Below.refl base W).alloc hB o) hg (by simp;omega) (fun j hj=>(hown.lt _ hj).1)
theorem qiW(acc:List Int)(d:Nat):quoL [] acc d=.err 102 0:=by rw[quoL]
theorem qjY(l acc:List Int)(d:Nat):quoL (34::l) acc d=.ok ⟨4,acc,0⟩ l:=by rw[quoL,if_pos rfl]
theorem qjX(l acc:List Int)(d:Nat):quoL (10::l) acc d=.err 102 0:=by rw[quoL,if_neg (by decide),if_pos rfl]
theorem qiV(l acc:List Int)(d:Nat)(h:escV (l.headD 0)=0):quoL (92::l) acc d=.err 100 d:=by rw[quoL,if_neg (by decide),if_neg (by decide),if_pos rfl,if_pos h]
theorem qhj(l acc:List Int)(d:Nat)(h:escV (l.headD 0)≠0):quoL (92::l) acc d=quoL l.tail (acc++[escV (l.headD 0)]) (d+2):=by rw[quoL,if_neg (by decide),if_neg (by decide),if_pos rfl,if_neg h]
theorem qft(x:Int)(l acc:List Int)(d:Nat)(h1:x≠34)(h2:x≠10)(h3:x≠92):quoL (x::l) acc d=quoL l (acc++[x]) (d+1):=by rw[quoL,if_neg h1,if_neg h2,if_neg h3]
theorem qgM{y:Int}(h:escV y≠0):(y=110∨y=116∨y=34∨y=92)/\cpB (escV y)=true/\(enc (escV y)).length=1:=by
 unfold escV at h ⊢;by_cases h1:y=110
 ·subst h1;decide
 by_cases h2:y=116
 ·subst h2;decide
 by_cases h3:y=34
 ·subst h3;decide
 by_cases h4:y=92
 ·subst h4;decide
 rw[if_neg h1,if_neg h2,if_neg h3,if_neg h4]at h;exact absurd rfl h
theorem qeQ{c:Int}(h:cpB c=true):1<=(enc c).length:=by
 have h1:=zF h;have h2:=zn c;omega
theorem qdS{g:Nat}{A:OA}{n c:Nat}{xs:List Pn}{i:Nat}{x:Pn}(hx:xs[i]?=some x)(hcp:AllCp (xs.map Pn.r))(h4:(encs (xs.map Pn.r)).length<=4000)(w:World)(h:Rdr w g A n c xs i) :
  Calls Tryz.prog 145 #[.pointer (some ⟨g,0,none⟩)] w fun e w'=>
   e=.returned (rdV xs i (quoL ((xs.map Pn.r).drop (i+1)) [] 1))/\Kr g w w'/\(∀ t r,quoL ((xs.map Pn.r).drop (i+1)) [] 1=.ok t r->∃ k,r=(xs.map Pn.r).drop k/\i<=k/\Rdr w' g A n c xs k):=by
 obtain⟨L,hL⟩:=nW (xs.map Pn.r);obtain⟨R,hR⟩:=nW (quoL (L.drop (i+1)) [] 1);have HM:Hid (∀ (w:World) (k:Nat),Rdr w g A n c xs k->Calls Tryz.prog 122 #[.pointer (some ⟨g,0,none⟩)] w fun e w'=>e=.returned (.bool (decide (k<n)))/\Bel w w'):=hid fun w k hk=>Jb w hk;have HN:Hid (∀ (w:World) (k:Nat),Rdr w g A n c xs k->Calls Tryz.prog 141 #[.pointer (some ⟨g,0,none⟩),.string ⟨#[10]⟩] w fun e w'=>e=.returned (.bool (decide (L[k]?=some 10)))/\Bel w w'):=hid fun w k hk=>by
  have:=qab [10] (by decide) (by decide) w hk;rw[<- hL,show asc [10]=[10] by rfl,pre1]at this;exact this
 have HME:Hid (∀ (w:World) (k:Nat),L[k]?=some 92->Rdr w g A n c xs k->Calls Tryz.prog 166 #[.pointer (some ⟨g,0,none⟩)] w fun e w'=>e=.returned (.tuple #[.int .i32 (escV ((L.drop (k+1)).headD 0)),.bool (decide (escV ((L.drop (k+1)).headD 0)≠0))])/\Bel w w'):=hid fun w k h92 hk=>by
  rw[hL]at h92 ⊢;exact qfd h92 w hk
 have HWR:Hid (∀ (w:World) (j k:Nat) (y:Pn) (ee:Int),xs[k]?=some y->Rdr w g A n c xs j->Calls Tryz.prog 160 #[.pointer (some ⟨g,0,none⟩),ee,k] w fun e w'=>e=.returned (erV ee y.p)/\Bel w w'):=hid fun w j k y ee hy hd=>Zm ee hy w hd;have HTX:Hid (∀ (w:World) (A2:OA) (c2:Nat) (acc:List Int),AllCp acc->(encs acc).length<=4000->RI .i32 w w.heap.size A2 acc.length acc->Calls Tryz.prog 165 #[.int .u8 4,.slice A2 acc.length c2] w fun e w'=>e=.returned (tkV 4 (encs acc) 0)/\Bel w w'):=hid fun w A2 c2 acc ha hl hr=>ZR 4 ha hl w hr;have hln:L.length=n:=by rw[hL,List.length_map,<- h.len]
 have hi:i<n:=by rw[h.len];exact (List.getElem?_eq_some_iff.1 hx).1
 have HAT:Hid (∀ (w:World) (k:Nat),k<n->Rdr w g A n c xs k->∃ b off y,A=some ⟨b,off,none⟩/\xs[k]?=some y/\L[k]?=some y.r/\w.cell? ⟨b,off+k*4,none⟩=some (.int .i32 y.r)):=hid fun w k hk hd=>by
  obtain⟨b,off,y,e1,e2,e3,-⟩:=hd.at_ hk;exact⟨b,off,y,e1,e2,by rw[hL];simp[e2],e3⟩
 have hlast:∀ k,i<k->(encs (L.drop k)).length+1<=4000:=fun k hk=>by
  have e:encs L=encs (L.take k)++encs (L.drop k):=by rw[<- zO,List.take_append_drop]
  have e2:=congrArg List.length e;have hc:AllCp (L.take k):=by rw[hL];exact hcp.take k
  have e3:=zj hc;rw[List.length_append]at e2;rw[List.length_take]at e3;rw[<- hL]at h4;omega
 rw[<- hL,<- hR];rw[<- hL]at hcp;obtain⟨ans,hans⟩:=nW (rdV xs i R);rw[<- hans];have HANS:=hid hans;have HR:=hid hR;have HCP:=hid hcp;have HLN:=hid hln;have HX:=hid hx;have hsm:=h.small;have hle:=h.le;have H:=hid h;have hglt:=h.lt;have H1:=hid (hlast (i+1) (by omega));clear h hL hR hans hcp hln hx h4 hlast;obtain⟨w8,hw8⟩:=nW (w.setCell ⟨g,1,none⟩ (.int .i64 ((i:Int)+1)));have hz8:w8.heap.size=w.heap.size:=by rw[hw8];simp
 have hd8:Rdr w8 g A n c xs (i+1):=by rw[hw8];exact H.out.set_ (k:=i+1) (by omega)
 have hk8:Kr g w w8:=by rw[hw8];exact (Kr.refl g w).set_ _ _
 have hb8:Bel w8 ((w8.alloc bxT).alloc bxD):=((Bel.refl w8).alloc _).alloc _;have hs2:((w8.alloc bxT).alloc bxD).heap.size=w.heap.size+2:=by simp[hz8]
 obtain⟨q1,q2⟩:=blk2 w8 bxT bxD;rw[hz8]at q1 q2;have H2:=hid (hd8.bel hb8);obtain⟨w0,hw0⟩:=nW ((w8.alloc bxT).alloc bxD);have HKW:=hid (hk8.bel hb8);rw[<- hw0]at H2 HKW hs2 q1 q2;rw[hw8]at hw0;have HW0:=hid hw0;have HQ1:=hid q1;have HQ2:=hid q2;have HS2:=hid hs2;clear hb8 q1 q2 hs2 hw0 hw8 hz8 hd8 hk8;go_enter Tryz.func145,Tryz.ntmps145;obtain⟨c0,c1,f0,f1⟩:=H.cells;go_wp2;go_loopg [5] (n+1) (fun gk v wr=>∃ (k:Nat) (A2:OA) (c2:Nat) (acc:List Int),v=.slice A2 acc.length c2/\Hid (i+1<=k/\k<=n/\n-k<gk)/\Hid (Rdr wr g A n c xs k)/\Hid (wr.ownsRow (w.heap.size+2) 21 1 (.slice A2 acc.length c2) acc.length (acc.map (Value.int .i32)))/\Hid (Kr g w0 wr) ∧
   Hid (R=quoL (L.drop k) acc (k-i))/\Hid (AllCp acc/\(encs acc).length+(encs (L.drop k)).length<=4000))
 case atStart=>
  refine⟨i+1,none,0,[],rfl,hid ⟨Nat.le_refl _,by omega,by omega⟩,by have:=H2;rw[HW0.out]at this;exact this,hid (World.ownsRow_nil _ _ _ _),by have:=hid (Kr.refl g w0);rw[HW0.out]at this ⊢;exact this,hid (by rw[HR.out,show i+1-i=1 by omega]),hid ⟨fun c hc=>by simp at hc,by have:=H1.out;simp[encs];simp[encs]at this;omega⟩⟩
 case round=>
  obtain⟨k,A2,c2,acc,rfl,HJ,HD,HO,HK,HQ,HA⟩:=hrel;have hkk:=HJ.out;have hbs:w.heap.size+2<=wr.heap.size:=by have:=HK.size;have:=HS2.out;omega
  by_cases hk:k<n
  ·obtain⟨b,off,y,rfl,hy,hLy,-⟩:=HAT.out wr k hk HD
   have HY:=hid hy;have HLY:=hid hLy;have hcy:cpB y.r=true:=HCP.out _ (List.mem_of_getElem? hLy);have hen:(encs (L.drop k)).length=(enc y.r).length+(encs (L.drop (k+1))).length:=by rw[qF hLy,qD,List.length_append]
   have HEN:=hid hen;have HCY:=hid hcy;have hm:∀ w',Rdr w' g (some ⟨b,off,none⟩) n c xs k->Calls Tryz.prog 122 #[.pointer (some ⟨g,0,none⟩)] w' fun e w2=>e=.returned (.bool true)/\Bel w' w2:=fun w' hd=>by have:=HM.out w' k hd;rwa [decide_eq_true hk]at this
   have HMK:=hid hm;have hn:∀ w',Rdr w' g (some ⟨b,off,none⟩) n c xs k->Calls Tryz.prog 141 #[.pointer (some ⟨g,0,none⟩),.string ⟨#[10]⟩] w' fun e w2=>e=.returned (.bool (decide (y.r=10)))/\Bel w' w2:=fun w' hd=>by have:=HN.out w' k hd;simp only[hLy,Option.some.injEq]at this;exact this
   have HNK:=hid hn;clear hm hn hy hLy hcy hen;go_wp2_with fail;refine (HMK _ HD).mono ?_;rintro e w1 ⟨rfl,hb⟩;have HD1:=hid (HD.bel hb);have HK1:=hid (HK.bel hb);have HO1:=hid (qG HO hb);have hbs1:=Nat.le_trans hbs hb.size;clear hb;go_wp2_with fail;refine (HNK _ HD1).mono ?_;rintro e w2 ⟨rfl,hb⟩;have HD2:=hid (HD1.bel hb);have HK2:=hid (HK1.bel hb);have HO2:=hid (qG HO1 hb);have hbs2:=Nat.le_trans hbs1 hb.size;clear hb;by_cases y10:y.r=10
   ·rw[decide_eq_true y10]
    have hre:R=.err 102 0:=by rw[HQ.out,qF HLY.out,y10,qjX]
    have HRE:=hid hre;clear hre;have ha:ans=erV 102 x.p:=by rw[HANS.out,HRE.out];simp[rdV,HX.out]
    subst ha;go_wp2_with fail;refine (HWR _ _ i _ 102 HX HD2).mono ?_;rintro e w3 ⟨rfl,hb⟩;have HD3:=hid (HD2.bel hb);have HK3:=hid (HK2.bel hb);clear hb;obtain⟨⟨t0,t1,t2,t3,t4,t5⟩,f0,f1,f2,f3,f4,f5⟩:=qq (HK3.keep HQ1 (by omega));obtain⟨d0,d1,d2,d3,g0,g1,g2,g3⟩:=qU (HK3.keep HQ2 (by omega));unfold erV;go_wp2;refine bodyPost_ret (v:=erV 102 x.p) ?_ rfl ⟨rfl,?_,?_⟩
    ·simp[erV,results,Tryz.results145,go_sem,t0,t1,t2,t3,t4,t5,d0,d1,d2,d3]
    ·have hk:Kr g w w3:=HKW.on HK3
     repeat (first | with_reducible exact hk | with_reducible refine Kr.setN ?_ (by simp) _)
    ·intro t r htr
     rw[HRE.out]at htr;cases htr
   rw[decide_eq_false y10];obtain⟨c0,c1,f0,f1⟩:=HD2.cells;obtain⟨b',off',y',hA',hy',a0,-⟩:=HD2.out.at_ hk;injection hA' with hA'
   injection hA' with hA1 hA2 _
   subst hA1 hA2;obtain rfl:y'=y:=Option.some.inj (hy'.symm.trans HY);clear hy';go_wp2_with fail;go_region;by_cases y34:y'.r=34
   ·have hre:R=.ok ⟨4,acc,0⟩ (L.drop (k+1)):=by rw[HQ.out,qF HLY.out,y34,qjY]
    have HRE:=hid hre;have ha:ans=tkV 4 (encs acc) 0:=by rw[HANS.out,hre];rfl
    subst ha;have hd9:Rdr (w2.drew.setCell ⟨g,1,none⟩ (.int .i64 ((k:Int)+1))) g (some ⟨b,off,none⟩) n c xs (k+1):=(HD2.bel ((Bel.refl _).drew)).set_ (k:=k+1) (by omega);have hk9:Kr g w0 (w2.drew.setCell ⟨g,1,none⟩ (.int .i64 ((k:Int)+1))):=(HK2.bel ((Bel.refl _).drew)).set_ _ _;have hr9:RI .i32 (w2.drew.setCell ⟨g,1,none⟩ (.int .i64 ((k:Int)+1))) (w2.drew.setCell ⟨g,1,none⟩ (.int .i64 ((k:Int)+1))).heap.size A2 acc.length acc:=RI.of_own (zT (qG HO2 ((Bel.refl _).drew)) (by show g<w.heap.size+2;omega) _);have HD9:=hid hd9;have HK9:=hid hk9;have HR9:=hid hr9;clear hre hd9 hk9 hr9;go_wp2_with fail;refine (HTX _ A2 c2 acc HA.1 (by have:=HA.2;omega) HR9).mono ?_;rintro e w3 ⟨rfl,hb⟩;have HD3:=hid (HD9.bel hb);have HK3:=hid (HK9.bel hb);clear hb c0 c1 f0 f1 a0;obtain⟨⟨t0,t1,t2,t3,t4,t5⟩,f0,f1,f2,f3,f4,f5⟩:=qq (HK3.keep HQ1 (by omega));obtain⟨d0,d1,d2,d3,g0,g1,g2,g3⟩:=qU (HK3.keep HQ2 (by omega));unfold tkV;go_wp2;refine bodyPost_ret (v:=tkV 4 (encs acc) 0) ?_ rfl ⟨rfl,?_,?_⟩
    ·simp[tkV,results,Tryz.results145,go_sem,t0,t1,t2,t3,t4,t5,d0,d1,d2,d3]
    ·have hk:Kr g w w3:=HKW.on HK3
     repeat (first | with_reducible exact hk | with_reducible refine Kr.setN ?_ (by simp) _)
    ·intro t r htr
     rw[HRE.out]at htr;injection htr with _ h2;exact⟨k+1,h2.symm,by omega,by
      repeat (first | with_reducible exact HD3.out | with_reducible refine Rdr.setN ?_ (by show g<w.heap.size+_;omega) _ | with_reducible refine Rdr.setN ?_ (by show g<w.heap.size;omega) _)⟩
   by_cases y92:y'.r=92
   ·have hme:∀ w',Rdr w' g (some ⟨b,off,none⟩) n c xs k->Calls Tryz.prog 166 #[.pointer (some ⟨g,0,none⟩)] w' fun e w2=>e=.returned (.tuple #[.int .i32 (escV ((L.drop (k+1)).headD 0)),.bool (decide (escV ((L.drop (k+1)).headD 0)≠0))])/\Bel w' w2:=fun w' hd=>HME w' k (by rw[HLY.out,y92]) hd
    obtain⟨z,hz⟩:=nW ((L.drop (k+1)).headD 0);rw[<- hz]at hme;have HZ:=hid hz;have HMEK:=hid hme;clear hz hme;go_wp2_with fail;refine (HMEK _ (HD2.bel ((Bel.refl _).drew))).mono ?_;rintro e w4 ⟨rfl,hb⟩;have hb9:Bel w2 w4:=((Bel.refl w2).drew).on hb;have HD4:=hid (HD2.bel hb9);have HK4:=hid (HK2.bel hb9);have HO4:=hid (qG HO2 hb9);have hbs4:=Nat.le_trans hbs2 hb9.size;clear hb hb9 c0 c1 f0 f1 a0;obtain⟨c0,c1,f0,f1⟩:=HD4.cells;by_cases hz0:escV z=0
    ·have hre:R=.err 100 (k-i):=by rw[HQ.out,qF HLY.out,y92,qiV _ _ _ (by rw[<- HZ.out];exact hz0)]
     have HRE:=hid hre;clear hre;rw[decide_eq_false (by simpa using hz0)];have ha:ans=erV 100 y'.p:=by rw[HANS.out,HRE.out];simp only[rdV,show i+(k-i)=k by omega,HY.out];rfl
     subst ha;go_wp2_with fail;refine (HWR _ _ k _ 100 HY HD4).mono ?_;rintro e w3 ⟨rfl,hb⟩;have HD3:=hid (HD4.bel hb);have HK3:=hid (HK4.bel hb);clear hb;clear c0 c1 f0 f1;obtain⟨⟨t0,t1,t2,t3,t4,t5⟩,f0,f1,f2,f3,f4,f5⟩:=qq (HK3.keep HQ1 (by omega));obtain⟨d0,d1,d2,d3,g0,g1,g2,g3⟩:=qU (HK3.keep HQ2 (by omega));unfold erV;go_wp2;refine bodyPost_ret (v:=erV 100 y'.p) ?_ rfl ⟨rfl,?_,?_⟩
     ·simp[erV,results,Tryz.results145,go_sem,t0,t1,t2,t3,t4,t5,d0,d1,d2,d3]
     ·have hk:Kr g w w3:=HKW.on HK3
      repeat (first | with_reducible exact hk | with_reducible refine Kr.setN ?_ (by simp) _)
     ·intro t r htr
      rw[HRE.out]at htr;cases htr
    ·rw[decide_eq_true hz0]
     obtain⟨hz1,hz2,hz3⟩:=qgM hz0;have hz4:z≠0:=fun e=>by rw[e]at hz0;exact hz0 (by decide)
     have hk1:k+1<n:=by
      rcases Nat.lt_or_ge (k+1) n with h | h
      ·exact h
      ·exfalso
       have e:L.drop (k+1)=[]:=List.drop_eq_nil_of_le (by rw[HLN.out];exact h);rw[e]at HZ;exact hz4 HZ
     have hLz:L[k+1]?=some z:=by
      obtain⟨z',hz'⟩:∃ z',L[k+1]?=some z':=⟨_,List.getElem?_eq_getElem (by rw[HLN.out];exact hk1)⟩
      have:=HZ.out;rw[qF hz',List.headD_cons]at this;rw[hz',this]
     have hre:R=quoL (L.drop (k+2)) (acc++[escV z]) (k+2-i):=by
      rw[HQ.out,qF HLY.out,y92,qhj _ _ _ (by rw[<- HZ.out];exact hz0),<- HZ.out,qF hLz,List.tail_cons,show k-i+2=k+2-i by omega]
     have hac:AllCp (acc++[escV z])/\(encs (acc++[escV z])).length+(encs (L.drop (k+2))).length<=4000:=by
      refine⟨HA.1.app fun c hc=>by simp at hc;rw[hc];exact hz2,?_⟩;have h1:=HA.2;have h2:=HEN.out;have h3:=qeQ HCY;have h4:=qeQ (HCP _ (List.mem_of_getElem? hLz));have h5:(encs (L.drop (k+1))).length=(enc z).length+(encs (L.drop (k+2))).length:=by rw[qF hLz,qD,List.length_append]
      rw[zO,List.length_append,show encs [escV z]=enc (escV z) by simp[encs],hz3];omega
     have HRE:=hid hre;have HAC:=hid hac;obtain⟨ev,hev⟩:=nW (escV z);rw[<- hev]at HRE HAC ⊢;have hal:acc.length<=4000:=by have:=zj HA.1;have:=HA.2;omega
     clear hre hac hz0 hz1 hz2 hz3 hLz hev;go_upto_region 16 with fail
     refine JR ?_;intro W hW;have hfa:Rdr W g (some ⟨b,off,none⟩) n c xs (k+2)/\Kr g w0 W/\W.ownsRow (w.heap.size+2) 21 1 (.slice A2 acc.length c2) acc.length (acc.map (Value.int .i32)):=by
      rw[hW];first | exact⟨HD4.out.set_ (k:=k+2) (by omega),HK4.out.set_ _ _,zT HO4 (by show g<w.heap.size+2;omega) _⟩ | exact⟨(HD4.out.set_ (k:=k+1) (by omega)).set_ (k:=k+2) (by omega),(HK4.out.set_ _ _).set_ _ _,zT (zT HO4 (by show g<w.heap.size+2;omega) _) (by show g<w.heap.size+2;omega) _⟩
     clear hW;have hbW:w.heap.size+2<=W.heap.size:=by have:=hfa.2.1.size;have:=HS2.out;omega
     have HD9:=hid hfa.1;have HBW:=hid hbW;have HAL:=hid hal;have HK9:=hid hfa.2.1;have HO9:=hid hfa.2.2;clear hfa c0 c1 f0 f1;go_wp2_with (at_builtin;refine qL rfl _ _ 223 rfl (w.heap.size+2) 21 _ 1 4 Tryz.underlying223 Jo rfl (by decide) (by decide) A2 acc.length c2 _ rfl (HO9.alloc _) W.heap.size [.int .i32 ev] rfl rfl (by exact za W (.int .i32 ev) _) (by simp[Value.oneCell']) (Nat.le_trans HAL (by decide)) (Nat.le_trans HBW (by simp)) ?_;intro A5 c5 w5 hown5 hg5;(have HO5:=hid hown5);(have HG5:=hid hg5);clear hown5 hg5);have HB5:=hid (Zn HO9 HG5 hbW);have HD5:=hid (HD9.out.below_ HB5 (by omega));have HK5:=hid (HK9.out.below_ HB5 (by have:=HS2.out;omega));go_roundg (gk-1)
     case rel=>exact⟨(k+2),A5,c5,acc++[ev],by simp,hid ⟨by omega,by omega,by omega⟩,HD5,hid (by rw[List.map_append,List.length_append];exact HO5),HK5,HRE,HAC⟩
     case measure=>omega
   ·have hre:R=quoL (L.drop (k+1)) (acc++[y'.r]) (k+1-i):=by
     rw[HQ.out,qF HLY.out,qft _ _ _ _ y34 y10 y92,show k-i+1=k+1-i by omega]
    have hac:AllCp (acc++[y'.r])/\(encs (acc++[y'.r])).length+(encs (L.drop (k+1))).length<=4000:=by
     refine⟨HA.1.app fun c hc=>by simp at hc;rw[hc];exact HCY,?_⟩;have h1:=HA.2;have h2:=HEN.out;rw[zO,List.length_append,show encs [y'.r]=enc y'.r by simp[encs]];omega
    have HRE:=hid hre;have HAC:=hid hac;have hal:acc.length<=4000:=by have:=zj HA.1;have:=HA.2;omega
    clear hre hac;go_upto_region 16 with fail
    refine JR ?_;intro W hW;have hfa:Rdr W g (some ⟨b,off,none⟩) n c xs (k+1)/\Kr g w0 W/\W.ownsRow (w.heap.size+2) 21 1 (.slice A2 acc.length c2) acc.length (acc.map (Value.int .i32)):=by
     rw[hW];exact⟨(HD2.bel ((Bel.refl _).drew)).set_ (k:=k+1) (by omega),(HK2.bel ((Bel.refl _).drew)).set_ _ _,zT (qG HO2 ((Bel.refl _).drew)) (by show g<w.heap.size+2;omega) _⟩
    clear hW;have hbW:w.heap.size+2<=W.heap.size:=by have:=hfa.2.1.size;have:=HS2.out;omega
    have HD9:=hid hfa.1;have HBW:=hid hbW;have HAL:=hid hal;have HK9:=hid hfa.2.1;have HO9:=hid hfa.2.2;clear hfa c0 c1 f0 f1 a0;go_wp2_with (at_builtin;refine qL rfl _ _ 223 rfl (w.heap.size+2) 21 _ 1 4 Tryz.underlying223 Jo rfl (by decide) (by decide) A2 acc.length c2 _ rfl (HO9.alloc _) W.heap.size [.int .i32 y'.r] rfl rfl (by exact za W (.int .i32 y'.r) _) (by simp[Value.oneCell']) (Nat.le_trans HAL (by decide)) (Nat.le_trans HBW (by simp)) ?_;intro A5 c5 w5 hown5 hg5;(have HO5:=hid hown5);(have HG5:=hid hg5);clear hown5 hg5);have HB5:=hid (Zn HO9 HG5 hbW);have HD5:=hid (HD9.out.below_ HB5 (by omega));have HK5:=hid (HK9.out.below_ HB5 (by have:=HS2.out;omega));go_roundg (gk-1)
    case rel=>exact⟨(k+1),A5,c5,acc++[y'.r],by simp,hid ⟨by omega,by omega,by omega⟩,HD5,hid (by rw[List.map_append,List.length_append];exact HO5),HK5,HRE,HAC⟩
    case measure=>omega
  ·have hkn:k=n:=by omega
   subst hkn;have hm:∀ w',Rdr w' g A k c xs k->Calls Tryz.prog 122 #[.pointer (some ⟨g,0,none⟩)] w' fun e w2=>e=.returned (.bool false)/\Bel w' w2:=fun w' hd=>by have:=HM.out w' k hd;rwa [decide_eq_false hk]at this
   have HMK:=hid hm;have hre:R=.err 102 0:=by rw[HQ.out,List.drop_eq_nil_of_le (by rw[HLN.out];exact Nat.le_refl _),qiW]
   have HRE:=hid hre;clear hm hre;go_wp2_with fail;refine (HMK _ HD).mono ?_;rintro e w2 ⟨rfl,hb⟩;have HD2:=hid (HD.bel hb);have HK2:=hid (HK.bel hb);clear hb;have ha:ans=erV 102 x.p:=by rw[HANS.out,HRE.out];simp[rdV,HX.out]
   subst ha;go_wp2_with fail;refine (HWR _ _ i _ 102 HX HD2).mono ?_;rintro e w3 ⟨rfl,hb⟩;have HD3:=hid (HD2.bel hb);have HK3:=hid (HK2.bel hb);clear hb;obtain⟨⟨t0,t1,t2,t3,t4,t5⟩,f0,f1,f2,f3,f4,f5⟩:=qq (HK3.keep HQ1 (by omega));obtain⟨d0,d1,d2,d3,g0,g1,g2,g3⟩:=qU (HK3.keep HQ2 (by omega));unfold erV;go_wp2;refine bodyPost_ret (v:=erV 102 x.p) ?_ rfl ⟨rfl,?_,?_⟩
   ·simp[erV,results,Tryz.results145,go_sem,t0,t1,t2,t3,t4,t5,d0,d1,d2,d3]
   ·have hk:Kr g w w3:=HKW.on HK3
    repeat (first | with_reducible exact hk | with_reducible refine Kr.setN ?_ (by simp) _)
   ·intro t r htr
    rw[HRE.out]at htr;cases htr
def lngS(l acc s:List Int):List Int:=if acc.length<s.length/\s.isPrefixOf l=true then s else acc
def lng(l:List Int)(ss:List (List Int)):List Int:=ss.foldl (lngS l) []
theorem qg6(l:List Int)(ss:List (List Int))(s:List Int):lng l (ss++[s])=lngS l (lng l ss) s:=by simp[lng]
theorem qe9(l:List Int):∀ (ss done:List (List Int)) (acc:List Int),((acc=[]∨(acc∈done/\acc <+: l))/\∀ s∈done,s <+: l->s.length<=acc.length) →
  (ss.foldl (lngS l) acc=[]∨(ss.foldl (lngS l) acc∈done++ss/\ss.foldl (lngS l) acc <+: l))/\∀ s∈done++ss,s <+: l->s.length<=(ss.foldl (lngS l) acc).length
 | [],done,acc,h=>by simpa using h
 | s::ss,done,acc,⟨h1,h2⟩=>by
  rw[List.foldl_cons,show done++s::ss=(done++[s])++ss by simp];refine qe9 l ss (done++[s]) _ ?_;unfold lngS;split
  ·rename_i h
   refine⟨.inr ⟨by simp,List.isPrefixOf_iff_prefix.1 h.2⟩,fun t ht hp=>?_⟩;rcases List.mem_append.1 ht with ht | ht
   ·have:=h2 t ht hp;omega
   ·simp at ht;rw[ht];exact Nat.le_refl _
  ·rename_i h
   refine⟨h1.imp id fun h=>⟨by simp[h.1],h.2⟩,fun t ht hp=>?_⟩;rcases List.mem_append.1 ht with ht | ht
   ·exact h2 t ht hp
   ·simp at ht
    rw[ht]at hp ⊢;rcases Nat.lt_or_ge acc.length s.length with hl | hl
    ·exact absurd ⟨hl,List.isPrefixOf_iff_prefix.2 hp⟩ h
    ·exact hl
theorem Jt(l:List Int)(ss:List (List Int)):(lng l ss=[]∨(lng l ss∈ss/\lng l ss <+: l))/\∀ s∈ss,s <+: l->s.length<=(lng l ss).length:=by
 have:=qe9 l ss [] [] ⟨.inl rfl,by simp⟩;simpa [lng] using this
theorem Jg:∀ s∈signsL,1<=s.length/\s.length<=3:=by decide +kernel
theorem qhq(l:List Int):JD l=if lng l signsL=[] then .err 100 0 else .ok ⟨5,lng l signsL,0⟩ (l.drop (lng l signsL).length):=by
 obtain⟨h1,h2⟩:=Jt l signsL;obtain⟨m,hm⟩:=nW (lng l signsL);rw[<- hm]at h1 h2 ⊢;have hge:∀ k,1<=k->k<=l.length->l.take k∈signsL->k<=m.length:=fun k _ hk hs=>by
  have:=h2 _ hs (List.take_prefix k l);rwa [List.length_take,Nat.min_eq_left hk]at this
 have hle:m≠[]->m∈signsL/\m=l.take m.length/\m.length<=l.length/\1<=m.length/\m.length<=3:=fun hne=>by
  rcases h1 with h1 | ⟨h1,h3⟩
  ·exact absurd h1 hne
  ·exact⟨h1,List.prefix_iff_eq_take.1 h3,h3.length_le,(Jg m h1).1,(Jg m h1).2⟩
 have hm0:m.length<=3:=by
  rcases h1 with h1 | ⟨h1,_⟩
  ·rw[h1];simp
  ·exact (Jg m h1).2
 unfold JD;by_cases c3:3<=l.length/\l.take 3∈signsL
 ·rw[if_pos c3]
  have hk:=hge 3 (by omega) c3.1 c3.2;have hne:m≠[]:=fun e=>by rw[e]at hk;simp at hk
  have hl3:m.length=3:=by omega
  have:=(hle hne).2.1;rw[hl3]at this;rw[if_neg hne,hl3,this]
 rw[if_neg c3];have n3:m.length≠3:=fun e=>by
  have hne:m≠[]:=fun e2=>by rw[e2]at e;simp at e
  obtain⟨a,b,d,_⟩:=hle hne;rw[e]at b d;exact c3 ⟨d,by rw[<- b];exact a⟩
 by_cases c2:2<=l.length/\l.take 2∈signsL
 ·rw[if_pos c2]
  have hk:=hge 2 (by omega) c2.1 c2.2;have hne:m≠[]:=fun e=>by rw[e]at hk;simp at hk
  have hl3:m.length=2:=by omega
  have:=(hle hne).2.1;rw[hl3]at this;rw[if_neg hne,hl3,this]
 rw[if_neg c2];have n2:m.length≠2:=fun e=>by
  have hne:m≠[]:=fun e2=>by rw[e2]at e;simp at e
  obtain⟨a,b,d,_⟩:=hle hne;rw[e]at b d;exact c2 ⟨d,by rw[<- b];exact a⟩
 by_cases c1:1<=l.length/\l.take 1∈signsL
 ·rw[if_pos c1]
  have hk:=hge 1 (by omega) c1.1 c1.2;have hne:m≠[]:=fun e=>by rw[e]at hk;simp at hk
  have hl3:m.length=1:=by omega
  have:=(hle hne).2.1;rw[hl3]at this;rw[if_neg hne,hl3,this]
 rw[if_neg c1];have n1:m.length≠1:=fun e=>by
  have hne:m≠[]:=fun e2=>by rw[e2]at e;simp at e
  obtain⟨a,b,d,_⟩:=hle hne;rw[e]at b d;exact c1 ⟨d,by rw[<- b];exact a⟩
 rw[if_pos (List.eq_nil_of_length_eq_zero (by omega))]
theorem qiF(l:List Int)(j:Nat):∀ c∈lng l (signsL.take j),0<=c/\c<128:=fun c hc=>by
 rcases (Jt l (signsL.take j)).1 with h | ⟨h,_⟩
 ·rw[h]at hc;simp at hc
 ·exact Qe _ (List.mem_of_mem_take h) c hc
theorem qaA(l:List Int):(byt l).length=l.length:=by simp[byt]
theorem qic(l:List Int)(h:∀ c∈l,0<=c/\c<128):∀ u∈byt l,u.toNat<128:=fun u hu=>by
 obtain⟨c,hc,rfl⟩:=List.mem_map.1 hu;have:=h c hc;rw[show (UInt8.ofNat c.toNat).toNat=c.toNat % 256 by rfl];omega
theorem qhp{g:Nat}{A:OA}{n c:Nat}{xs:List Pn}{i:Nat}{x:Pn}(hx:xs[i]?=some x)(w:World)(h:Rdr w g A n c xs i) :
  Calls Tryz.prog 146 #[.pointer (some ⟨g,0,none⟩)] w fun e w'=>
   e=.returned (rdV xs i (JD ((xs.map Pn.r).drop i)))/\Kr g w w'/\(∀ t r,JD ((xs.map Pn.r).drop i)=.ok t r->∃ k,r=(xs.map Pn.r).drop k/\i<=k/\Rdr w' g A n c xs k):=by
 obtain⟨L,hL⟩:=nW (xs.map Pn.r);obtain⟨R,hR⟩:=nW (JD (L.drop i));have HSI:Hid (∀ w,Calls Tryz.prog 167 #[] w fun e w'=>(∃ A,e=.returned (.slice A 22 22)/\RL w' w'.heap.size A 22 zC)/\Bel w w'):=hid qfZ;have HAT:Hid (∀ (w:World) (s:List Int),s∈signsL->Rdr w g A n c xs i->Calls Tryz.prog 141 #[.pointer (some ⟨g,0,none⟩),.string ⟨(byt s).toArray⟩] w fun e w'=>e=.returned (.bool (s.isPrefixOf (L.drop i)))/\Bel w w'):=hid fun w s hs hd=>by
  have:=qab (byt s) (qic s (Qe s hs)) (by rw[qaA];have:=(Jg s hs).2;omega) w hd;rwa [qbY (Qe s hs),<- hL]at this
 have HWR:Hid (∀ (w:World),Rdr w g A n c xs i->Calls Tryz.prog 160 #[.pointer (some ⟨g,0,none⟩),.int .i64 100,i] w fun e w'=>e=.returned (erV 100 x.p)/\Bel w w'):=hid fun w hd=>Zm 100 hx w hd;have hln:L.length=n:=by rw[hL,List.length_map,<- h.len]
 rw[<- hL,<- hR];obtain⟨ans,hans⟩:=nW (rdV xs i R);rw[<- hans];have HANS:=hid hans;rw[qhq]at hR;have HR:=hid hR;have HLN:=hid hln;have HX:=hid hx;have hsm:=h.small;have hle:=h.le;have H:=hid h;have hglt:=h.lt;clear h hL hR hans hln hx;have hb2:Bel w ((w.alloc bxT).alloc bxD):=((Bel.refl w).alloc _).alloc _;have hs2:((w.alloc bxT).alloc bxD).heap.size=w.heap.size+2:=by simp
 obtain⟨q1,q2⟩:=blk2 w bxT bxD;have H2:=hid (H.bel hb2);obtain⟨w0,hw0⟩:=nW ((w.alloc bxT).alloc bxD);have HW0:=hid hw0;rw[<- hw0]at H2 hb2 hs2 q1 q2;have HBB:=hid hb2;have HQ1:=hid q1;have HQ2:=hid q2;have HS2:=hid hs2;clear hb2 q1 q2 hs2;go_enter Tryz.func146,Tryz.ntmps146;go_wp2_with fail;refine (HSI _).mono ?_;rintro e w1 ⟨⟨A1,rfl,hrl⟩,hb⟩;have hb1:Bel w0 w1:=by rw[HW0.out];exact hb
 have HB1:=hid hb1;have HRL:=hid hrl;have HD1:=hid (H2.bel hb1);clear hb hb1 hrl;go_wp2_with fail;go_loopg [4,9] 23 (fun gk v u wr=>∃ (j:Nat),v=.string ⟨(byt (lng (L.drop i) (signsL.take j))).toArray⟩/\u=.int .i64 j/\Hid (j<=22/\22-j<gk)/\Hid (Bel w1 wr))
 case atStart=>exact⟨0,rfl,rfl,hid ⟨by omega,by omega⟩,hid (Bel.refl _)⟩
 case round=>
  obtain⟨j,rfl,rfl,HJ,HB⟩:=hrel;have hjj:=HJ.out;have HD:=hid (HD1.bel HB);obtain⟨m,hm⟩:=nW (lng (L.drop i) (signsL.take j));rw[<- hm];have HMM:=hid hm;clear hm;have hbl:(byt m).length=m.length:=qaA m;by_cases hj:j<22
  ·obtain⟨s,hs⟩:∃ s,signsL[j]?=some s:=⟨_,List.getElem?_eq_getElem (by exact hj)⟩
   have hss:s∈signsL:=List.mem_of_getElem? hs;obtain⟨-,hrl2⟩:=HRL.bel HB;obtain⟨b1,o1,rfl,hb1,hc1⟩:=hrl2 (by omega);have hcj:=hc1 j (byt s) (by unfold zC;rw[List.getElem?_map,hs];rfl);have hnx:lng (L.drop i) (signsL.take (j+1))=lngS (L.drop i) m s:=by
    obtain⟨hl,e⟩:=List.getElem?_eq_some_iff.1 hs;rw[List.take_succ_eq_append_getElem hl,e,qg6,HMM.out]
   have HNX:=hid hnx;have hsl:(byt s).length=s.length:=qaA s;have HA2:=hid (HAT _ s hss HD);clear hc1 hnx hs;by_cases hlt:m.length<s.length
   ·have hltb:(m.length:Int)<(s.length:Int):=by omega
    go_wp2_with fail;refine (HA2).mono ?_;rintro e w2 ⟨rfl,hb⟩;have HB2:=hid (HB.on hb);clear hb;by_cases hpre:s.isPrefixOf (L.drop i)=true
    ·have hl2:lng (L.drop i) (signsL.take (j+1))=s:=by rw[HNX.out,lngS,if_pos ⟨hlt,hpre⟩]
     rw[hpre];go_wp2;go_roundg (gk-1)
     case rel=>exact⟨j+1,by rw[hl2],rfl,hid ⟨by omega,by omega⟩,HB2⟩
     case measure=>omega
    ·have hl2:lng (L.drop i) (signsL.take (j+1))=m:=by rw[HNX.out,lngS,if_neg (fun h=>hpre h.2)]
     have hpf:s.isPrefixOf (L.drop i)=false:=Bool.eq_false_iff.2 hpre;rw[hpf];go_wp2;go_roundg (gk-1)
     case rel=>exact⟨j+1,by rw[hl2],rfl,hid ⟨by omega,by omega⟩,HB2⟩
     case measure=>omega
   ·have hltb:¬ (m.length:Int)<(s.length:Int):=by omega
    have hl2:lng (L.drop i) (signsL.take (j+1))=m:=by rw[HNX.out,lngS,if_neg (fun h=>hlt h.1)]
    go_wp2;go_roundg (gk-1)
    case rel=>exact⟨j+1,by rw[hl2],rfl,hid ⟨by omega,by omega⟩,HB⟩
    case measure=>omega
  ·have hj22:j=22:=by omega
   have hmm:m=lng (L.drop i) signsL:=by rw[HMM.out,hj22];rfl
   have hk3:Kr g w0 wr:=Kr.of_bel (HB1.on HB);have HK3':=hid hk3;have HBW:=hid (HBB.on (HB1.on HB));have hpm:=(Jt (L.drop i) signsL).1;rw[<- hmm]at hpm;have hreq:R=if m=[] then .err 100 0 else .ok ⟨5,m,0⟩ (L.drop (i+m.length)):=by rw[HR.out,<- hmm,List.drop_drop]
   have hlow:∀ c∈m,0<=c/\c<128:=by rw[HMM.out];exact qiF _ _
   clear hk3;by_cases hm0:m=[]
   ·have hre:R=.err 100 0:=by rw[hreq,if_pos hm0]
    have HRE:=hid hre;have ha:ans=erV 100 x.p:=by rw[HANS.out,hre];simp[rdV,HX.out]
    subst ha;have hz:(⟨(byt m).toArray⟩:BA)=⟨#[]⟩:=by rw[hm0];rfl
    rw[hz];clear hre hreq hpm hlow hmm hbl hz;obtain⟨c0,c1,f0,f1⟩:=HD.cells;go_wp2_with fail;refine (HWR _ HD).mono ?_;rintro e w3 ⟨rfl,hb⟩;have HK3:=hid (HK3'.bel hb);clear hb c0 c1 f0 f1;obtain⟨⟨t0,t1,t2,t3,t4,t5⟩,f0,f1,f2,f3,f4,f5⟩:=qq (HK3.keep HQ1 (by omega));obtain⟨d0,d1,d2,d3,g0,g1,g2,g3⟩:=qU (HK3.keep HQ2 (by omega));unfold erV;go_wp2;refine bodyPost_ret (v:=erV 100 x.p) ?_ rfl ⟨rfl,?_,?_⟩
    ·simp[erV,results,Tryz.results146,go_sem,t0,t1,t2,t3,t4,t5,d0,d1,d2,d3]
    ·have hk:Kr g w w3:=(Kr.of_bel HBB).on HK3
     repeat (first | with_reducible exact hk | with_reducible refine Kr.setN ?_ (by simp) _)
    ·intro t r htr
     rw[HRE.out]at htr;cases htr
   ·have hre:R=.ok ⟨5,m,0⟩ (L.drop (i+m.length)):=by rw[hreq,if_neg hm0]
    have HRE:=hid hre;have ha:ans=tkV 5 (byt m) 0:=by rw[HANS.out,hre];simp only[rdV];rw[jo hlow]
    subst ha;have hin:i+m.length<=n:=by
     rcases hpm with h | ⟨_,h⟩
     ·exact absurd h hm0
     ·have:=h.length_le
      rw[List.length_drop,HLN.out]at this;omega
    have hie:(byt m).isEmpty=false:=by
     rw[Bool.eq_false_iff];intro e;have e2:byt m=[]:=by simpa using e
     have:=congrArg List.length e2;rw[qaA]at this;exact hm0 (List.eq_nil_of_length_eq_zero this)
    clear hre hreq hpm hlow hmm;obtain⟨c0,c1,f0,f1⟩:=HD.cells;obtain⟨⟨t0,t1,t2,t3,t4,t5⟩,f2,f3,f4,f5,f6,f7⟩:=qq (HK3'.keep HQ1 (by omega));obtain⟨d0,d1,d2,d3,g0,g1,g2,g3⟩:=qU (HK3'.keep HQ2 (by omega));have hng:g≠w.heap.size:=by omega
    have hng1:g≠w.heap.size+1:=by omega
    go_wp2;refine bodyPost_ret (v:=tkV 5 (byt m) 0) ?_ rfl ⟨rfl,?_,?_⟩
    ·simp[tkV,results,Tryz.results146,go_sem, *]
    ·have hk:Kr g w wr:=Kr.of_bel HBW
     repeat (first | with_reducible exact hk | with_reducible refine Kr.set_ ?_ _ _ | with_reducible refine Kr.setN ?_ (by simp) _)
    ·intro t r htr
     rw[HRE.out]at htr;injection htr with _ h2
     have hq:((i:Int)+(m.length:Int))=((i+m.length:Nat):Int):=by omega
     refine⟨i+m.length,h2.symm,by omega,?_⟩;first
      | (rw[hq];repeat (first | with_reducible exact HD.out.set_ hin | with_reducible refine Rdr.setN ?_ (by show g<w.heap.size+_;omega) _ | with_reducible refine Rdr.setN ?_ (by show g<w.heap.size;omega) _))
      | trace_state
set_option maxHeartbeats 8000000
def NumI(D:List Int)(j:Nat)(v:Int):Prop:=(v=valN (D.take j)∨(1099511627776<v/\1099511627776<valN (D.take j)))/\0<=v/\v<=10995116277769
theorem qbP{D:List Int}{j:Nat}{r:Int}(h:D[j]?=some r):valN (D.take (j+1))=10*valN (D.take j)+(r-48):=by
 obtain⟨hj,rfl⟩:=List.getElem?_eq_some_iff.1 h;rw[List.take_succ_eq_append_getElem hj,qbO]
theorem qij{r:Int}(h:qI r=true):48<=r/\r<=57:=by simpa [qI] using h
theorem NumI.go{D:List Int}{j:Nat}{v r:Int}(h:NumI D j v)(hr:D[j]?=some r)(hd:qI r=true)(hv:v<=1099511627776):NumI D (j+1) (10*v+(r-48)):=by
 obtain⟨h1,h2,h3⟩:=h;have hb:=qij hd;refine⟨.inl ?_,by omega,by omega⟩;rw[qbP hr];rcases h1 with h1 | ⟨h1,_⟩
 ·rw[h1]
 ·omega
theorem NumI.stay{D:List Int}{j:Nat}{v r:Int}(h:NumI D j v)(hr:D[j]?=some r)(hd:qI r=true)(hv:¬ v<=1099511627776):NumI D (j+1) v:=by
 obtain⟨h1,h2,h3⟩:=h;have hb:=qij hd;refine⟨.inr ⟨by omega,?_⟩,h2,h3⟩;rw[qbP hr];rcases h1 with h1 | ⟨_,h1⟩ <;> omega
theorem NumI.end_{D:List Int}{v:Int}(h:NumI D D.length v):(1099511627776<v↔1099511627776<valN D)/\(¬ 1099511627776<v->v=valN D):=by
 obtain⟨h1,h2,h3⟩:=h;rw[List.take_length]at h1;rcases h1 with h1 | ⟨h1,h4⟩
 ·rw[h1];exact⟨Iff.rfl,fun _=>rfl⟩
 ·exact⟨⟨fun _=>h4,fun _=>h1⟩,fun h=>absurd h1 h⟩
theorem qdM{g:Nat}{A:OA}{n c:Nat}{xs:List Pn}{i:Nat}{x:Pn}(hx:xs[i]?=some x)(w:World)(h:Rdr w g A n c xs i) :
  Calls Tryz.prog 142 #[.pointer (some ⟨g,0,none⟩)] w fun e w'=>
   e=.returned (if x.r=48/\1<(((xs.map Pn.r).drop i).takeWhile qI).length then erV 100 x.p else if 1099511627776<valN (((xs.map Pn.r).drop i).takeWhile qI) then erV 101 x.p else tkV 3 [] (valN (((xs.map Pn.r).drop i).takeWhile qI))) ∧
    Rdr w' g A n c xs (i+(((xs.map Pn.r).drop i).takeWhile qI).length)/\Kr g w w':=by
 obtain⟨L,hL⟩:=nW (xs.map Pn.r);obtain⟨D,hD⟩:=nW ((L.drop i).takeWhile qI);have hall:∀ c∈D,qI c=true:=by rw[hD];exact ze _ _
 have hlen:i+D.length<=n:=by
  have e:=List.takeWhile_append_dropWhile (p:=qI) (l:=L.drop i);have h3:=congrArg List.length e;rw[List.length_append,<- hD,List.length_drop,hL,List.length_map,<- h.len]at h3;have:=h.le;omega
 have HKD:Hid (∀ (w:World) (j:Nat),j<=D.length->Rdr w g A n c xs (i+j)->∃ kk:Int,decide (kk=2)=decide (j<D.length)/\Calls Tryz.prog 140 #[.pointer (some ⟨g,0,none⟩)] w fun e w'=>e=.returned (.int .u8 kk)/\Bel w w'):=hid fun w j hj hd=>⟨kdL (L.drop (i+j)),by rw[hD]at hj ⊢;exact qiB hj,by rw[hL];exact Ja w hd⟩
 have HAT:Hid (∀ (w:World) (j:Nat),j<D.length->Rdr w g A n c xs (i+j)->∃ b off r,A=some ⟨b,off,none⟩/\D[j]?=some r/\w.cell? ⟨b,off+(i+j)*4,none⟩=some (.int .i32 r)):=hid fun w j hj hd=>by
  obtain⟨b,off,y,e1,e2,e3,-⟩:=hd.at_ (by omega);refine⟨b,off,y.r,e1,?_,e3⟩;rw[hD]at hj ⊢;exact (qa0 (by omega) (by rw[hL];simp[e2])).2 hj
 have HWR:Hid (∀ (w:World) (j:Nat) (ee:Int),Rdr w g A n c xs j->Calls Tryz.prog 160 #[.pointer (some ⟨g,0,none⟩),ee,i] w fun e w'=>e=.returned (erV ee x.p)/\Bel w w'):=hid fun w j ee hd=>Zm ee hx w hd;have HZ:Hid (∀ (w:World),Rdr w g A n c xs i->Calls Tryz.prog 141 #[.pointer (some ⟨g,0,none⟩),.string ⟨#[48]⟩] w fun e w'=>e=.returned (.bool (decide (x.r=48)))/\Bel w w'):=hid fun w hd=>by
  have:=qab [48] (by decide) (by decide) w hd;rw[<- hL,show asc [48]=[48] by rfl,pre1]at this;have e:L[i]?=some x.r:=by rw[hL];simp[hx]
  simp only[e,Option.some.injEq]at this;exact this
 rw[<- hL,<- hD];obtain⟨ans,hans⟩:=nW (if x.r=48/\1<D.length then erV 100 x.p else if 1099511627776<valN D then erV 101 x.p else tkV 3 [] (valN D));rw[<- hans];have HANS:=hid hans;clear hans;obtain⟨b0,hb0⟩:=nW (decide (x.r=48));rw[<- hb0]at HZ;have HB0:=hid hb0;have HALL:=hid hall;have hsm:=h.small;have hle:=h.le;have H:=hid h;have hglt:=h.lt;clear h hL hD hall hx hb0;have hb2:Bel w ((w.alloc bxT).alloc bxD):=((Bel.refl w).alloc _).alloc _;have hs2:((w.alloc bxT).alloc bxD).heap.size=w.heap.size+2:=by simp
 obtain⟨q1,q2⟩:=blk2 w bxT bxD;have H2:=hid (H.bel hb2);obtain⟨w0,hw0⟩:=nW ((w.alloc bxT).alloc bxD);have HW0:=hid hw0;rw[<- hw0]at H2 hb2 hs2 q1 q2;have HBB:=hid hb2;have HQ1:=hid q1;have HQ2:=hid q2;have HS2:=hid hs2;clear hb2 q1 q2 hs2;go_enter Tryz.func142,Tryz.ntmps142;have h2:Rdr ((w.alloc bxT).alloc bxD) g A n c xs i:=by have:=H2.out;rwa [HW0.out]at this
 unfold bxT bxD at h2;obtain⟨c0,c1,f0,f1⟩:=h2.cells;have H2':=hid h2;clear h2;go_wp2_with fail;refine (HZ _ H2').mono ?_;rintro e w1 ⟨rfl,hb⟩;have HD1:=hid (H2'.bel hb);have hk1:Kr g w0 w1:=by rw[HW0.out];exact Kr.of_bel hb
 have HK1:=hid hk1;clear hb hk1 c0 c1 f0 f1;go_wp2_with fail;go_loopg [6] (D.length+1) (fun gk v wr=>∃ (j:Nat) (nv:Int),v=.int .i64 nv/\Hid (NumI D j nv)/\Hid (j<=D.length/\D.length-j<gk)/\Hid (Rdr wr g A n c xs (i+j))/\Hid (Kr g w0 wr))
 case atStart=>
  exact⟨0,0,rfl,hid ⟨.inl rfl,by decide,by decide⟩,hid ⟨by omega,by omega⟩,HD1,HK1⟩
 case round=>
  obtain⟨j,nv,rfl,HN,HJ,HD,HK⟩:=hrel;obtain⟨kk,hkk,hkc⟩:=HKD.out wr j HJ.1 HD;by_cases hj:j<D.length
  ·have hk2:kk=2:=by rw[decide_eq_true hj]at hkk;simpa using hkk
   subst hk2;go_wp2_with fail;refine hkc.mono ?_;rintro e w2 ⟨rfl,hb⟩;have HD2:=hid (HD.bel hb);have HK2:=hid (HK.bel hb);clear hb hkc hkk;have hat:=HAT.out w2 j hj HD2;obtain⟨q,hq⟩:=nW (i+j);rw[<- hq]at hat HD2;have hqn:q<n:=by omega
   have HQ:=hid hq;clear hq;obtain⟨c0,c1,f0,f1⟩:=HD2.cells;obtain⟨b,off,r,rfl,hDj,a0⟩:=hat;have hdr:=HALL.out r (List.mem_of_getElem? hDj);obtain⟨hr1,hr2⟩:=qij hdr;obtain⟨hn0,hn1⟩:=HN.2;by_cases hnv:nv<=1099511627776
   ·have HN2:=hid (HN.out.go hDj hdr hnv)
    clear hDj hdr;go_wp2;go_region;go_wp2;have hjj:=HJ.out;go_roundg (gk-1)
    case rel=>
     exact⟨j+1,_,rfl,by first | exact HN2 | (have:=HN2.out;exact hid (by simpa using this)),hid ⟨by omega,by omega⟩,hid (by have:=(HD2.bel ((Bel.refl _).drew)).set_ (k:=q+1) (by omega);rw[show i+(j+1)=q+1 by have:=HQ.out;omega];exact this),hid ((HK2.bel ((Bel.refl _).drew)).set_ _ _)⟩
    case measure=>omega
   ·have HN2:=hid (HN.out.stay hDj hdr hnv)
    clear hDj hdr;go_wp2;have hjj:=HJ.out;go_roundg (gk-1)
    case rel=>
     exact⟨j+1,nv,rfl,HN2,hid ⟨by omega,by omega⟩,hid (by have:=HD2.out.set_ (k:=q+1) (by omega);rw[show i+(j+1)=q+1 by have:=HQ.out;omega];exact this),hid (HK2.out.set_ _ _)⟩
    case measure=>omega
  ·have hjD:j=D.length:=by have:=HJ.1;omega
   subst hjD;have hk2:(kk==2)=false:=by rw[decide_eq_false hj]at hkk;simpa using hkk
   have hen:=HN.out.end_;have HEN:=hid hen;go_wp2_with fail;refine hkc.mono ?_;rintro e w2 ⟨rfl,hb⟩;have HD2:=hid (HD.bel hb);have HK2:=hid (HK.bel hb);clear hb hkc hkk hen;obtain⟨q,hq⟩:=nW (i+D.length);rw[<- hq]at HD2;have HQ:=hid hq;have hqn:q<=n:=by omega
   clear hq;obtain⟨c0,c1,f0,f1⟩:=HD2.cells;by_cases hz:x.r=48/\1<D.length
   ·have ha:ans=erV 100 x.p:=by rw[HANS.out,if_pos hz]
    have hb0:b0=true:=by rw[HB0.out,decide_eq_true hz.1]
    have hlt:i+1<q:=by have:=HQ.out;omega
    have hlt2:(i:Int)+1<(q:Int):=by omega
    subst hb0;subst ha;go_wp2_with fail;refine (HWR _ _ 100 HD2).mono ?_;rintro e w3 ⟨rfl,hb⟩;have HD3:=hid (HD2.bel hb);have HK3:=hid (HK2.bel hb);rw[HQ.out]at HD3;clear hb c0 c1 f0 f1;obtain⟨⟨t0,t1,t2,t3,t4,t5⟩,f0,f1,f2,f3,f4,f5⟩:=qq (HK3.keep HQ1 (by omega));obtain⟨d0,d1,d2,d3,g0,g1,g2,g3⟩:=qU (HK3.keep HQ2 (by omega));unfold erV;go_wp2;refine bodyPost_ret (v:=erV 100 x.p) ?_ rfl ⟨rfl,?_,?_⟩
    ·simp[erV,results,Tryz.results142,go_sem, *]
    ·repeat (first | with_reducible exact HD3.out | with_reducible refine Rdr.setN ?_ (by show g<w.heap.size+_;omega) _ | with_reducible refine Rdr.setN ?_ (by show g<w.heap.size;omega) _)
    ·have hk:Kr g w w3:=(Kr.of_bel HBB).on HK3
     repeat (first | with_reducible exact hk | with_reducible refine Kr.setN ?_ (by simp) _)
   ·have hnz:b0=false ∨ ¬ (i:Int)+1<(q:Int):=by
     by_cases h48:x.r=48
     ·right;have:=HQ.out;have:¬ 1<D.length:=fun h=>hz ⟨h48,h⟩;omega
     ·left;rw[HB0.out,decide_eq_false h48]
    by_cases hbig:1099511627776<nv
    ·have hb2:=HEN.1.1 hbig
     have ha:ans=erV 101 x.p:=by rw[HANS.out,if_neg hz,if_pos hb2]
     rcases hnz with rfl | hnz
     ·subst ha
      go_wp2_with fail;refine (HWR _ _ 101 HD2).mono ?_;rintro e w3 ⟨rfl,hb⟩;have HD3:=hid (HD2.bel hb);have HK3:=hid (HK2.bel hb);rw[HQ.out]at HD3;clear hb c0 c1 f0 f1;obtain⟨⟨t0,t1,t2,t3,t4,t5⟩,f0,f1,f2,f3,f4,f5⟩:=qq (HK3.keep HQ1 (by omega));obtain⟨d0,d1,d2,d3,g0,g1,g2,g3⟩:=qU (HK3.keep HQ2 (by omega));unfold erV;go_wp2;refine bodyPost_ret (v:=erV 101 x.p) ?_ rfl ⟨rfl,?_,?_⟩
      ·simp[erV,results,Tryz.results142,go_sem, *]
      ·repeat (first | with_reducible exact HD3.out | with_reducible refine Rdr.setN ?_ (by show g<w.heap.size+_;omega) _ | with_reducible refine Rdr.setN ?_ (by show g<w.heap.size;omega) _)
      ·have hk:Kr g w w3:=(Kr.of_bel HBB).on HK3
       repeat (first | with_reducible exact hk | with_reducible refine Kr.setN ?_ (by simp) _)
     ·subst ha
      cases b0
      ·go_wp2_with fail
       refine (HWR _ _ 101 HD2).mono ?_;rintro e w3 ⟨rfl,hb⟩;have HD3:=hid (HD2.bel hb);have HK3:=hid (HK2.bel hb);rw[HQ.out]at HD3;clear hb c0 c1 f0 f1;obtain⟨⟨t0,t1,t2,t3,t4,t5⟩,f0,f1,f2,f3,f4,f5⟩:=qq (HK3.keep HQ1 (by omega));obtain⟨d0,d1,d2,d3,g0,g1,g2,g3⟩:=qU (HK3.keep HQ2 (by omega));unfold erV;go_wp2;refine bodyPost_ret (v:=erV 101 x.p) ?_ rfl ⟨rfl,?_,?_⟩
       ·simp[erV,results,Tryz.results142,go_sem, *]
       ·repeat (first | with_reducible exact HD3.out | with_reducible refine Rdr.setN ?_ (by show g<w.heap.size+_;omega) _ | with_reducible refine Rdr.setN ?_ (by show g<w.heap.size;omega) _)
       ·have hk:Kr g w w3:=(Kr.of_bel HBB).on HK3
        repeat (first | with_reducible exact hk | with_reducible refine Kr.setN ?_ (by simp) _)
      ·go_wp2_with fail
       refine (HWR _ _ 101 HD2).mono ?_;rintro e w3 ⟨rfl,hb⟩;have HD3:=hid (HD2.bel hb);have HK3:=hid (HK2.bel hb);rw[HQ.out]at HD3;clear hb c0 c1 f0 f1;obtain⟨⟨t0,t1,t2,t3,t4,t5⟩,f0,f1,f2,f3,f4,f5⟩:=qq (HK3.keep HQ1 (by omega));obtain⟨d0,d1,d2,d3,g0,g1,g2,g3⟩:=qU (HK3.keep HQ2 (by omega));unfold erV;go_wp2;refine bodyPost_ret (v:=erV 101 x.p) ?_ rfl ⟨rfl,?_,?_⟩
       ·simp[erV,results,Tryz.results142,go_sem, *]
       ·repeat (first | with_reducible exact HD3.out | with_reducible refine Rdr.setN ?_ (by show g<w.heap.size+_;omega) _ | with_reducible refine Rdr.setN ?_ (by show g<w.heap.size;omega) _)
       ·have hk:Kr g w w3:=(Kr.of_bel HBB).on HK3
        repeat (first | with_reducible exact hk | with_reducible refine Kr.setN ?_ (by simp) _)
    ·have hb2:¬ 1099511627776<valN D:=fun h=>hbig (HEN.1.2 h)
     have hnv:=HEN.2 (by omega);have ha:ans=tkV 3 [] nv:=by rw[HANS.out,if_neg hz,if_neg hb2,hnv]
     clear hnv;have hq2:=HQ.out;have HQQ:=hid (by rw[<- hq2];exact HD2:Rdr w2 g A n c xs (i+D.length));obtain⟨⟨t0,t1,t2,t3,t4,t5⟩,f0,f1,f2,f3,f4,f5⟩:=qq (HK2.keep HQ1 (by omega));obtain⟨d0,d1,d2,d3,g0,g1,g2,g3⟩:=qU (HK2.keep HQ2 (by omega));rcases hnz with rfl | hnz
     ·subst ha
      go_wp2;refine bodyPost_ret (v:=tkV 3 [] nv) ?_ rfl ⟨rfl,?_,?_⟩
      ·simp[tkV,results,Tryz.results142,go_sem, *]
      ·repeat (first | with_reducible exact HQQ.out | with_reducible refine Rdr.setN ?_ (by show g<w.heap.size+_;omega) _ | with_reducible refine Rdr.setN ?_ (by show g<w.heap.size;omega) _)
      ·have hk:Kr g w w2:=(Kr.of_bel HBB).on HK2
       repeat (first | with_reducible exact hk | with_reducible refine Kr.setN ?_ (by simp) _)
     ·subst ha
      cases b0
      ·skip
       go_wp2;refine bodyPost_ret (v:=tkV 3 [] nv) ?_ rfl ⟨rfl,?_,?_⟩
       ·simp[tkV,results,Tryz.results142,go_sem, *]
       ·repeat (first | with_reducible exact HQQ.out | with_reducible refine Rdr.setN ?_ (by show g<w.heap.size+_;omega) _ | with_reducible refine Rdr.setN ?_ (by show g<w.heap.size;omega) _)
       ·have hk:Kr g w w2:=(Kr.of_bel HBB).on HK2
        repeat (first | with_reducible exact hk | with_reducible refine Kr.setN ?_ (by simp) _)
      ·skip
       go_wp2;refine bodyPost_ret (v:=tkV 3 [] nv) ?_ rfl ⟨rfl,?_,?_⟩
       ·simp[tkV,results,Tryz.results142,go_sem, *]
       ·repeat (first | with_reducible exact HQQ.out | with_reducible refine Rdr.setN ?_ (by show g<w.heap.size+_;omega) _ | with_reducible refine Rdr.setN ?_ (by show g<w.heap.size;omega) _)
       ·have hk:Kr g w w2:=(Kr.of_bel HBB).on HK2
        repeat (first | with_reducible exact hk | with_reducible refine Kr.setN ?_ (by simp) _)
theorem out2{W:World}{g:Nat}{x0 x1 x2 x3 x4 x5 y0 y1 y2 y3:Value}(h1:W.heap[g]?=some (.cells #[x0,x1,x2,x3,x4,x5] 85 (0,0)))(h2:W.heap[g+1]?=some (.cells #[y0,y1,y2,y3] 140 (0,0)))(v0 v1 v2 v3 v4 v5 d0 d1 d2 d3:Value)(W':World)
    (hW:W'=(((((((((W.setCell ⟨g,0,none⟩ v0).setCell ⟨g,1,none⟩ v1).setCell ⟨g,2,none⟩ v2).setCell ⟨g,3,none⟩ v3).setCell ⟨g,4,none⟩ v4).setCell ⟨g,5,none⟩ v5).setCell ⟨g+1,0,none⟩ d0).setCell ⟨g+1,1,none⟩ d1).setCell ⟨g+1,2,none⟩ d2).setCell ⟨g+1,3,none⟩ d3) :
    W'.heap[g]?=some (.cells #[v0,v1,v2,v3,v4,v5] 85 (0,0))/\W'.heap[g+1]?=some (.cells #[d0,d1,d2,d3] 140 (0,0))/\Below g W W':=by
  have r1:=qho h1 v0 v1 v2 v3 v4 v5;have r2:(((((((W.setCell ⟨g,0,none⟩ v0).setCell ⟨g,1,none⟩ v1).setCell ⟨g,2,none⟩ v2).setCell ⟨g,3,none⟩ v3).setCell ⟨g,4,none⟩ v4).setCell ⟨g,5,none⟩ v5)).heap[g+1]?=some (.cells #[y0,y1,y2,y3] 140 (0,0)):=by
    repeat rw[Below.heap_setCell _ _ _ _ (by show g+1≠g;omega)]
    exact h2
  have hb:Below g W W:=Below.refl _ _;subst hW;refine⟨?_,qhn r2 d0 d1 d2 d3,?_⟩
  · repeat rw[Below.heap_setCell _ _ _ _ (by show g≠g+1;omega)]
    exact r1
  · exact (((((((((hb.setCell (Nat.le_refl _) _).setCell (Nat.le_refl _) _).setCell (Nat.le_refl _) _).setCell (Nat.le_refl _) _).setCell (Nat.le_refl _) _).setCell (Nat.le_refl _) _).setCell (Nat.le_succ _) _).setCell (Nat.le_succ _) _).setCell (Nat.le_succ _) _).setCell (Nat.le_succ _) _
theorem qgS{K:Act->World->Prop}{Q:Exit->Act->World->Prop}{a:Act}{w:World}(h:∀ W,W=w->Exit.then K Q .normal a W):Exit.then K Q .normal a w:=h w rfl
theorem qdh{g:Nat}{A:OA}{n c:Nat}{xs:List Pn}{i j:Nat}(k:Int)(S:LU)(ee pa pl pc:Int)
    (hN:∀ w,Rdr w g A n c xs i->Calls Tryz.prog 161 #[.pointer (some ⟨g,0,none⟩),.int .u8 1] w fun e w'=>e=.returned (.tuple #[.agg #[.int .u8 k,.string ⟨S.toArray⟩,(0:Int),(0:Int),(0:Int),(0:Int)],.agg #[.int .i64 ee,pa,pl,pc]])/\Rdr w' g A n c xs j/\Kr g w w')
    (w:World) (h:Rdr w g A n c xs i) :
    Calls Tryz.prog 143 #[.pointer (some ⟨g,0,none⟩)] w fun e w'=>
      e=.returned (.tuple #[.agg #[.int .u8 (if S∈qS then 6 else if S∈qK then 5 else k),.string ⟨S.toArray⟩,(0:Int),(0:Int),(0:Int),(0:Int)],.agg #[.int .i64 ee,pa,pl,pc]])/\Rdr w' g A n c xs j/\Kr g w w':=by
  have HN:=hid hN;have H:=hid h;have hglt:=h.lt;clear h hN;have hb2:Bel w ((w.alloc bxT).alloc bxD):=((Bel.refl w).alloc _).alloc _;have HB2:=hid hb2;obtain⟨q1,q2⟩:=blk2 w bxT bxD;have HQ1:=hid q1;have HQ2:=hid q2;clear hb2 q1 q2;have HWo:Hid (∀ w,Calls Tryz.prog 163 #[] w fun e w'=>(∃ A,e=.returned (.slice A 6 6)/\RL w' w'.heap.size A 6 qK)/\Bel w w'):=hid qgn;have HPr:Hid (∀ w,Calls Tryz.prog 164 #[] w fun e w'=>(∃ A,e=.returned (.slice A 10 10)/\RL w' w'.heap.size A 10 qS)/\Bel w w'):=hid qfm;obtain⟨bw,hbw⟩:=nW (decide (S∈qK));obtain⟨bp,hbp⟩:=nW (decide (S∈qS));obtain⟨k2,hk2⟩:=nW (if S∈qS then 6 else if S∈qK then 5 else k);have hk3:k2=(if bp=true then 6 else if bw=true then 5 else k):=by rw[hk2,hbp,hbw];simp only[decide_eq_true_eq]
  have HCw:Hid (∀ (A:OA) (w:World),RL w w.heap.size A 6 qK->Calls Tryz.prog 162 #[.slice A 6 6,.string ⟨S.toArray⟩] w fun e w'=>e=.returned (.bool bw)/\w=w'):=hid fun A w h=>by rw[hbw];exact ZH S (by decide) w h
  have HCp:Hid (∀ (A:OA) (w:World),RL w w.heap.size A 10 qS->Calls Tryz.prog 162 #[.slice A 10 10,.string ⟨S.toArray⟩] w fun e w'=>e=.returned (.bool bp)/\w=w'):=hid fun A w h=>by rw[hbp];exact ZH S (by decide) w h
  rw[<- hk2];have HK3:=hid hk3;clear hk2 hk3 hbw hbp;go_enter Tryz.func143,Tryz.ntmps143;go_wp2_with fail;refine (HN _ (H.bel HB2)).mono ?_;rintro e w1 ⟨rfl,hd,hk⟩;have HD:=hid hd;have hs:w.heap.size+2<=w1.heap.size:=by have:=hk.size;simpa using this
  have HP1:=hid (hk.keep HQ1 (by omega));have HP2:=hid (hk.keep HQ2 (by omega));have HK:=hid (((Kr.of_bel HB2).on hk:Kr g w w1));clear hd hk;go_wp2_with fail;refine qgo ?_;intro W hW;obtain⟨s1,s2⟩:=blk2 w1 (.cells #[.int .u8 k,.string ⟨S.toArray⟩,(0:Int),(0:Int),(0:Int),(0:Int)] 85) (.cells #[.int .i64 ee,pa,pl,pc] 140);have s3:Bel w1 W:=by rw[hW];exact ((Bel.refl w1).alloc _).alloc _
  rw[<- hW]at s1 s2;clear hW;have HD2:=hid (HD.bel s3);have HK2:=hid (HK.bel s3);have HP3:=hid (s3.blk HP1);have HP4:=hid (s3.blk HP2);have HS1:=hid s1;have HS2:=hid s2;have hs4:w1.heap.size+1<W.heap.size:=(Array.getElem?_eq_some_iff.1 s2).1;clear s1 s2 s3;obtain⟨⟨t0,t1,t2,t3,t4,t5⟩,f0,f1,f2,f3,f4,f5⟩:=qq HS1;go_cut [14] (fun v wx=>v=.bool bw/\Hid (Bel W wx))
  case first=>
    go_region_with (first | (go_at_call 163;refine (HWo _).mono ?_;rintro e w4 ⟨⟨A4,rfl,hrl⟩,hb4⟩;(have j1:=(hb4.cell (p:=⟨w1.heap.size,1,none⟩) (by show w1.heap.size<W.heap.size;omega)).trans t1);(have HRL:=hid hrl);(have HB4:=hid hb4);clear hrl hb4) | (go_at_call 162;refine (HCw _ _ HRL).mono ?_;rintro e w5 ⟨rfl,rfl⟩));all_goals (go_wp2_with fail;go_meet;exact⟨rfl,hid (((Bel.refl W).drew).on HB4)⟩)
  case rest=>
    obtain⟨rfl,HW4⟩:=hcut;have hs5:w1.heap.size+1<wc.heap.size:=Nat.lt_of_lt_of_le hs4 HW4.size;have HT4:=hid (HW4.blk HS1);clear t0 t1 t2 t3 t4 t5 f0 f1 f2 f3 f4 f5;obtain⟨⟨t0,t1,t2,t3,t4,t5⟩,f0,f1,f2,f3,f4,f5⟩:=qq HT4;cases bw;all_goals
      go_wp2_with fail;refine qgo ?_;intro W2 hW2;have hq:∃ k1,(W2.heap[w1.heap.size]?=some (.cells #[.int .u8 k1,.string ⟨S.toArray⟩,(0:Int),(0:Int),(0:Int),(0:Int)] 85 (0,0))/\Below w1.heap.size W W2/\W2.heap[w1.heap.size+1]?=W.heap[w1.heap.size+1]?)/\k2=if bp=true then 6 else k1:=by
        have hb4:Below w1.heap.size W wc:=Below.mono HW4 (by omega);first
          | (refine⟨k,⟨?_,?_,?_⟩,?_⟩
             · rw[hW2];exact HT4
             · rw[hW2];exact hb4
             · rw[hW2];exact HW4.block _ hs4
             · have:=HK3.out;simpa using this)
          | (refine⟨5,⟨?_,?_,?_⟩,?_⟩
             · rw[hW2];simp[World.setCell,Array.getElem?_modify,HT4.out]
             · rw[hW2];exact hb4.setCell (Nat.le_refl _) _
             · rw[hW2,Below.heap_setCell _ _ _ _ (by show w1.heap.size+1≠w1.heap.size;omega)];exact HW4.block _ hs4
             · have:=HK3.out;simpa using this)
      obtain⟨k1,⟨hq1,hq2,hq3⟩,hq4⟩:=hq;have HQ5:=hid hq1;have HQ6:=hid hq2;have HQ7:=hid hq3;have HQ8:=hid hq4;have hs6:w1.heap.size+1<W2.heap.size:=Nat.lt_of_lt_of_le hs4 hq2.size;clear hW2 hq1 hq2 hq3 hq4 t0 t1 t2 t3 t4 t5 f0 f1 f2 f3 f4 f5;obtain⟨⟨t0,t1,t2,t3,t4,t5⟩,f0,f1,f2,f3,f4,f5⟩:=qq HQ5;go_cut [19] (fun v wx=>v=.bool bp/\Hid (Bel W2 wx))
      case first=>
        go_region_with (first | (go_at_call 164;refine (HPr _).mono ?_;rintro e w6 ⟨⟨A6,rfl,hrl⟩,hb6⟩;(have j1:=(hb6.cell (p:=⟨w1.heap.size,1,none⟩) (by show w1.heap.size<W2.heap.size;omega)).trans t1);(have HRL6:=hid hrl);(have HB6:=hid hb6);clear hrl hb6) | (go_at_call 162;refine (HCp _ _ HRL6).mono ?_;rintro e w7 ⟨rfl,rfl⟩));all_goals (go_wp2_with fail;go_meet;exact⟨rfl,hid (((Bel.refl W2).drew).on HB6)⟩)
      case rest=>
        obtain⟨rfl,HW6⟩:=hcut;obtain⟨wd,hwd⟩:=nW wc;rw[<- hwd]at HW6 ⊢;clear hwd;have HT6:=hid (HW6.blk HQ5);clear t0 t1 t2 t3 t4 t5 f0 f1 f2 f3 f4 f5;obtain⟨⟨t0,t1,t2,t3,t4,t5⟩,f0,f1,f2,f3,f4,f5⟩:=qq HT6;cases bp;all_goals
          go_wp2_with fail;refine qgo ?_;intro W3 hW3;have hq:W3.heap[w1.heap.size]?=some (.cells #[.int .u8 k2,.string ⟨S.toArray⟩,(0:Int),(0:Int),(0:Int),(0:Int)] 85 (0,0))/\Below w1.heap.size W2 W3/\W3.heap[w1.heap.size+1]?=W2.heap[w1.heap.size+1]?:=by
            have hb6:Below w1.heap.size W2 wd:=Below.mono HW6 (by omega);first
              | (refine⟨?_,?_,?_⟩
                 · rw[hW3];have:=HQ8.out;simp at this;rw[this];exact HT6
                 · rw[hW3];exact hb6
                 · rw[hW3];exact HW6.block _ hs6)
              | (refine⟨?_,?_,?_⟩
                 · rw[hW3];have:=HQ8.out;simp at this;rw[this];simp[World.setCell,Array.getElem?_modify,HT6.out]
                 · rw[hW3];exact hb6.setCell (Nat.le_refl _) _
                 · rw[hW3,Below.heap_setCell _ _ _ _ (by show w1.heap.size+1≠w1.heap.size;omega)];exact HW6.block _ hs6)
          obtain⟨hq1,hq2,hq3⟩:=hq;have hbw:Below w1.heap.size W W3:=HQ6.out.trans hq2;have hd9:W3.heap[w1.heap.size+1]?=some (.cells #[.int .i64 ee,pa,pl,pc] 140 (0,0)):=by rw[hq3,HQ7.out];exact HS2
          have hp5:=hbw.block w.heap.size (by omega);have hp6:=hbw.block (w.heap.size+1) (by omega);have HDD:=hid (HD2.out.below_ hbw (by omega));have HKK:=hid (HK2.out.below_ hbw (by omega));clear t0 t1 t2 t3 t4 t5 f0 f1 f2 f3 f4 f5 hW3 hq2 hq3 hbw;obtain⟨⟨t0,t1,t2,t3,t4,t5⟩,f0,f1,f2,f3,f4,f5⟩:=qq hq1;obtain⟨⟨u0,u1,u2,u3,u4,u5⟩,l0,l1,l2,l3,l4,l5⟩:=qq (hp5.trans HP3);obtain⟨d0,d1,d2,d3,g0,g1,g2,g3⟩:=qU hd9;obtain⟨e0,e1,e2,e3,m0,m1,m2,m3⟩:=qU (hp6.trans HP4);clear hq1 hd9;have hn1:w.heap.size≠w1.heap.size:=by omega
          have hn2:w.heap.size+1≠w1.heap.size:=by omega
          have hp7:=hp5.trans HP3;have hp8:=hp6.trans HP4;go_region;refine qgS ?_;intro W4 hW4;have hq:∃ Wx:World,W4=Wx.drew/\Wx.heap[w.heap.size]?=some (.cells #[.int .u8 k2,.string ⟨S.toArray⟩,(0:Int),(0:Int),(0:Int),(0:Int)] 85 (0,0))/\Wx.heap[w.heap.size+1]?=some (.cells #[.int .i64 ee,pa,pl,pc] 140 (0,0))/\Below w.heap.size W3 Wx:=⟨_,hW4,out2 hp7 hp8 _ _ _ _ _ _ _ _ _ _ _ rfl⟩
          obtain⟨Wx,hWx,r1,r2,r3⟩:=hq;have r5:Below w.heap.size W3 W4:=by rw[hWx];exact r3.drew
          have r6:W4.heap[w.heap.size]?=some (.cells #[.int .u8 k2,.string ⟨S.toArray⟩,(0:Int),(0:Int),(0:Int),(0:Int)] 85 (0,0)):=by rw[hWx];exact r1
          have r7:W4.heap[w.heap.size+1]?=some (.cells #[.int .i64 ee,pa,pl,pc] 140 (0,0)):=by rw[hWx];exact r2
          have HFD:=hid (HDD.out.below_ r5 hglt);have HFK:=hid (HKK.out.below_ r5 (Nat.le_refl _));clear t0 t1 t2 t3 t4 t5 f0 f1 f2 f3 f4 f5 u0 u1 u2 u3 u4 u5 l0 l1 l2 l3 l4 l5 d0 d1 d2 d3 g0 g1 g2 g3 e0 e1 e2 e3 m0 m1 m2 m3 hW4 hWx r1 r2 r3 r5 hp7 hp8;obtain⟨⟨t0,t1,t2,t3,t4,t5⟩,-⟩:=qq r6;obtain⟨d0,d1,d2,d3,-⟩:=qU r7;clear r6 r7;go_wp2;refine bodyPost_ret (v:= .tuple #[.agg #[.int .u8 k2,.string ⟨S.toArray⟩,(0:Int),(0:Int),(0:Int),(0:Int)],.agg #[.int .i64 ee,pa,pl,pc]]) ?_ rfl ⟨rfl,HFD,HFK⟩;simp[results,Tryz.results143,go_sem,t0,t1,t2,t3,t4,t5,d0,d1,d2,d3]
def Took(g:Nat)(A:OA)(n c:Nat)(xs:List Pn)(i:Nat)(R:Rd)(w:World)(e:Ending)(w':World):Prop:=
 e=.returned (rdV xs i R)/\Kr g w w'/\(∀ t r,R=.ok t r->∃ k,r=(xs.map Pn.r).drop k/\i<=k/\Rdr w' g A n c xs k)
def tkF(k:Int):Nat:=if k=2 then 142 else if k=3 then 143 else if k=4 then 144 else if k=6 then 145 else 146
theorem qf8{g:Nat}{A:OA}{n c:Nat}{xs:List Pn}{i:Nat}(w:World)(h:Rdr w g A n c xs i) :
  Calls Tryz.prog 123 #[.pointer (some ⟨g,0,none⟩)] w fun e w'=>e=.returned (.func (Fn.func (tkF (kdL ((xs.map Pn.r).drop i)))) #[.pointer (some ⟨g,0,none⟩)] #[])/\Bel w w':=by
 have HK:Hid (∀ (w:World),Rdr w g A n c xs i->Calls Tryz.prog 140 #[.pointer (some ⟨g,0,none⟩)] w fun e w'=>e=.returned (.int .u8 (kdL ((xs.map Pn.r).drop i)))/\Bel w w'):=hid fun w hd=>Ja w hd;obtain⟨kk,hkk⟩:=nW (kdL ((xs.map Pn.r).drop i));rw[<- hkk]at HK ⊢;obtain⟨ff,hff⟩:=nW (tkF kk);rw[<- hff];have HF:=hid hff;have H:=hid h;clear h hkk hff;go_enter Tryz.func123,Tryz.ntmps123;go_wp2_with fail;refine (HK _ H).mono ?_;rintro e w1 ⟨rfl,hb⟩;have HB:=hid hb;clear hb;by_cases k2:kk=2
 ·have d2:(kk==2)=true:=by simp[k2]
  have hf:ff=142:=by rw[HF.out,tkF,if_pos k2]
  subst hf;clear k2;go_wp2;go_ret;exact⟨rfl,HB⟩
 have d2:(kk==2)=false:=by simp[k2]
 by_cases k3:kk=3
 ·have d3:(kk==3)=true:=by simp[k3]
  have hf:ff=143:=by rw[HF.out,tkF,if_neg k2,if_pos k3]
  subst hf;clear k2 k3;go_wp2;go_ret;exact⟨rfl,HB⟩
 have d3:(kk==3)=false:=by simp[k3]
 by_cases k4:kk=4
 ·have d4:(kk==4)=true:=by simp[k4]
  have hf:ff=144:=by rw[HF.out,tkF,if_neg k2,if_neg k3,if_pos k4]
  subst hf;clear k2 k3 k4;go_wp2;go_ret;exact⟨rfl,HB⟩
 have d4:(kk==4)=false:=by simp[k4]
 by_cases k6:kk=6
 ·have d6:(kk==6)=true:=by simp[k6]
  have hf:ff=145:=by rw[HF.out,tkF,if_neg k2,if_neg k3,if_neg k4,if_pos k6]
  subst hf;clear k2 k3 k4 k6;go_wp2;go_ret;exact⟨rfl,HB⟩
 have d6:(kk==6)=false:=by simp[k6]
 have hf:ff=146:=by rw[HF.out,tkF,if_neg k2,if_neg k3,if_neg k4,if_neg k6]
 subst hf;clear k2 k3 k4 k6;go_wp2;go_ret;exact⟨rfl,HB⟩
theorem qb1(p:Int->Bool)(l:List Int):l.dropWhile p=l.drop (l.takeWhile p).length:=by
 have e:=List.takeWhile_append_dropWhile (p:=p) (l:=l);have:(l.takeWhile p++l.dropWhile p).drop (l.takeWhile p).length=l.dropWhile p:=List.drop_left;rw[e]at this;exact this.symm
theorem qg3(x:Int):(kdN x=2↔qI x=true)/\(kdN x=3↔isSm x=true)/\(kdN x=4↔isGr x=true)/\(kdN x=6↔x=34):=by
 unfold kdN isBl qI isSm isGr;simp only[Bool.or_eq_true,decide_eq_true_eq];refine⟨?_,?_,?_,?_⟩;all_goals
  constructor
  ·intro h;repeat' split at h
   all_goals omega
  ·intro h;repeat' split
   all_goals omega
theorem qcr:∀ x∈wordsL,x ∉ primsL:=by decide +kernel
theorem JQ:∀ x∈wordsL++primsL,x.length<=24:=by decide +kernel
theorem qeT{T:List Int}(h:AllCp T):(encs T∈qK↔T∈wordsL)/\(encs T∈qS↔T∈primsL):=
 ⟨(jT Qi (Cps.nil h)).trans (by simp),(jT Qa (Cps.nil h)).trans (by simp)⟩
theorem qiO{g:Nat}{A:OA}{n c:Nat}{xs:List Pn}{i:Nat}{x:Pn}(hx:xs[i]?=some x)(hcp:AllCp (xs.map Pn.r))(h4:(encs (xs.map Pn.r)).length<=4000)(w:World)(h:Rdr w g A n c xs i) :
  Calls Tryz.prog (tkF (kdL ((xs.map Pn.r).drop i))) #[.pointer (some ⟨g,0,none⟩)] w (Took g A n c xs i (oneL ((xs.map Pn.r).drop i)) w):=by
 obtain⟨L,hL⟩:=nW (xs.map Pn.r);have hLx:L[i]?=some x.r:=by rw[hL];simp[hx]
 have hl:L.drop i=x.r::L.drop (i+1):=qF hLx;have hhd:(L.drop i).headD 0=x.r:=by rw[hl];rfl
 have hne:L.drop i≠[]:=by rw[hl];simp
 obtain⟨k2,k3,k4,k6⟩:=qg3 x.r;have hp0:∀ e,rdV xs i (.err e 0)=erV e x.p:=fun e=>by simp[rdV,hx]
 unfold Took;rw[<- hL];rw[qaL hLx];obtain⟨T,hT⟩:=nW ((L.drop i).takeWhile isW);have hall:∀ c∈T,isW c=true:=by rw[hT];exact ze _ _
 obtain⟨mw,mp⟩:=qeT (qhU hall);by_cases c2:qI x.r=true
 ·have e2:=k2.2 c2
  have hns:isSm x.r=false/\isGr x.r=false:=by
   refine⟨Bool.eq_false_iff.2 fun h=>?_,Bool.eq_false_iff.2 fun h=>?_⟩
   ·have:=k3.2 h;omega
   ·have:=k4.2 h;omega
  have ho:oneL (L.drop i)=numL (L.drop i):=by
   unfold oneL;rw[hhd,if_neg (by simp[hns]),if_pos c2]
  rw[ho,e2];obtain⟨D,hD⟩:=nW ((L.drop i).takeWhile qI);have hcond:((L.drop i).headD 0=48/\qI ((L.drop i).tail.headD 0)=true)↔(x.r=48/\1<D.length):=by
   rw[hhd,hD,hl,List.tail_cons,List.takeWhile_cons,if_pos c2,List.length_cons];refine and_congr_right fun _=>?_;cases hr:L.drop (i+1) with
   | nil=>simp[qI]
   | cons y ys=>
    rw[List.headD_cons,List.takeWhile_cons];by_cases hy:qI y=true
    ·rw[if_pos hy,List.length_cons];simp[hy]
    ·rw[if_neg hy];simp[hy]
  refine (qdM hx w h).mono fun e w' hh=>?_;obtain⟨h1,h2,h3⟩:=hh;rw[<- hL,<- hD]at h1 h2;unfold numL;rw[<- hD];by_cases hc:x.r=48/\1<D.length
  ·rw[if_pos (hcond.2 hc),hp0]
   rw[if_pos hc]at h1;exact⟨h1,h3,fun t r ht=>by cases ht⟩
  rw[if_neg fun hh=>hc (hcond.1 hh)];rw[if_neg hc]at h1;by_cases hb:1099511627776<valN D
  ·rw[if_pos hb,hp0]
   rw[if_pos hb]at h1;exact⟨h1,h3,fun t r ht=>by cases ht⟩
  rw[if_neg hb];rw[if_neg hb]at h1;refine⟨h1,h3,fun t r ht=>?_⟩;injection ht with _ hr
  exact⟨i+D.length,by rw[<- hr,qb1,<- hD,List.drop_drop],by omega,h2⟩
 by_cases c3:isSm x.r=true
 ·have e3:=k3.2 c3
  have ho:oneL (L.drop i)=qa4 (L.drop i):=by
   unfold oneL;rw[hhd,if_pos (.inl c3)]
  have hng:isGr x.r=false:=Bool.eq_false_iff.2 fun h=>by have:=k4.2 h;omega
  rw[ho,e3];unfold qa4;rw[<- hT,hhd,if_neg (by simp[hng]:¬ isGr x.r=true)];by_cases h24:24<T.length
  ·have n1:T ∉ wordsL:=fun h=>by have:=JQ T (by simp[h]);omega
   have n2:T ∉ primsL:=fun h=>by have:=JQ T (by simp[h]);omega
   have hN:∀ w,Rdr w g A n c xs i->Calls Tryz.prog 161 #[.pointer (some ⟨g,0,none⟩),.int .u8 1] w fun e w'=>e=.returned (.tuple #[.agg #[.int .u8 0,.string ⟨(([]:LU)).toArray⟩,(0:Int),(0:Int),(0:Int),(0:Int)],.agg #[.int .i64 3,x.p.a,x.p.l,x.p.c]])/\Rdr w' g A n c xs (i+T.length)/\Kr g w w':=fun w hd=>by
    have:=qaO 1 hx w hd;rw[<- hL,<- hT,if_pos h24]at this;exact this
   refine (qdh 0 [] 3 _ _ _ hN w h).mono fun e w' hh=>?_;rw[if_neg n1,if_neg n2,if_pos h24,hp0];exact⟨hh.1,hh.2.2,fun t r ht=>by cases ht⟩
  ·have hN:∀ w,Rdr w g A n c xs i->Calls Tryz.prog 161 #[.pointer (some ⟨g,0,none⟩),.int .u8 1] w fun e w'=>e=.returned (.tuple #[.agg #[.int .u8 1,.string ⟨(encs T).toArray⟩,(0:Int),(0:Int),(0:Int),(0:Int)],.agg #[.int .i64 0,(0:Int),(0:Int),(0:Int)]])/\Rdr w' g A n c xs (i+T.length)/\Kr g w w':=fun w hd=>by
    have:=qaO 1 hx w hd;rw[<- hL,<- hT,if_neg h24]at this;exact this
   have hrest:(L.drop i).dropWhile isW=L.drop (i+T.length):=by rw[qb1,<- hT,List.drop_drop]
   refine (qdh 1 (encs T) 0 0 0 0 hN w h).mono fun e w' hh=>?_;obtain⟨h1,h2,h3⟩:=hh;rw[hrest];by_cases m1:T∈wordsL
   ·rw[if_pos m1]
    rw[if_neg (fun h=>qcr T m1 (mp.1 h)),if_pos (mw.2 m1)]at h1;exact⟨h1,h3,fun t r ht=>by injection ht with _ hr;exact⟨_,hr.symm,by omega,h2⟩⟩
   rw[if_neg m1];by_cases m2:T∈primsL
   ·rw[if_pos m2]
    rw[if_pos (mp.2 m2)]at h1;exact⟨h1,h3,fun t r ht=>by injection ht with _ hr;exact⟨_,hr.symm,by omega,h2⟩⟩
   rw[if_neg m2,if_neg h24];rw[if_neg (fun h=>m2 (mp.1 h)),if_neg (fun h=>m1 (mw.1 h))]at h1;exact⟨h1,h3,fun t r ht=>by injection ht with _ hr;exact⟨_,hr.symm,by omega,h2⟩⟩
 by_cases c4:isGr x.r=true
 ·have e4:=k4.2 c4
  have ho:oneL (L.drop i)=qa4 (L.drop i):=by
   unfold oneL;rw[hhd,if_pos (.inr c4)]
  rw[ho,e4];unfold qa4;have hTh:T≠[]/\T.headD 0=x.r:=by
   have:=JG (p:=isW) (l:=L.drop i) (by rw[hhd];exact qhS (.inr c4)) hne;rw[<- hT]at this;exact⟨this.1,this.2.1.trans hhd⟩
  have nw:T ∉ wordsL++primsL:=fun h=>by
   have:=(Qh T h).2.2;rw[hTh.2]at this;exact c3 this
  have n1:T ∉ wordsL:=fun h=>nw (by simp[h]);have n2:T ∉ primsL:=fun h=>nw (by simp[h]);have hrest:(L.drop i).dropWhile isW=L.drop (i+T.length):=by rw[qb1,<- hT,List.drop_drop]
  refine (qif hx w h).mono fun e w' hh=>?_;obtain⟨h1,h2,h3⟩:=hh;rw[<- hL,<- hT]at h1 h2;rw[<- hT,hhd,if_neg n1,if_neg n2,hrest];by_cases h24:24<T.length
  ·rw[if_pos h24,hp0]
   rw[if_pos h24]at h1;exact⟨h1,h3,fun t r ht=>by cases ht⟩
  rw[if_neg h24,if_pos c4];rw[if_neg h24]at h1;exact⟨h1,h3,fun t r ht=>by injection ht with _ hr;exact⟨_,hr.symm,by omega,h2⟩⟩
 by_cases c6:x.r=34
 ·have e6:=k6.2 c6
  have ho:oneL (L.drop i)=quoL (L.drop (i+1)) [] 1:=by
   unfold oneL;rw[hhd,if_neg (by simp[c3,c4]),if_neg (by simp[c2]),if_pos c6,hl,List.tail_cons]
  rw[ho,e6];have:=qdS hx hcp h4 w h;rw[<- hL]at this;exact this
 ·have ho:oneL (L.drop i)=JD (L.drop i):=by
   unfold oneL;rw[hhd,if_neg (by simp[c3,c4]),if_neg (by simp[c2]),if_neg c6]
  have hf:tkF (kdN x.r)=146:=by
   unfold tkF;rw[if_neg fun h=>c2 (k2.1 h),if_neg fun h=>c3 (k3.1 h),if_neg fun h=>c4 (k4.1 h),if_neg fun h=>c6 (k6.1 h)]
  rw[ho,hf];have:=qhp hx w h;rw[<- hL]at this;exact this
def Rs.app(ds:List (Tk × Nat)):Rs->Rs
 | .ok ps=> .ok (ds++ps)
 | .err e o=> .err e o
theorem app_nil(r:Rs):Rs.app [] r=r:=by cases r <;> rfl
theorem qgt(ds:List (Tk × Nat))(p:Tk × Nat)(r:Rs):Rs.app ds (r.cons p)=Rs.app (ds++[p]) r:=by cases r <;> simp[Rs.app,Rs.cons]
theorem qbN(f:Nat)(l:List Int)(o:Nat)(hl:∀ c∈l,cpB c=true):qV f l o=qV f (qo l) (o+(l.length-(qo l).length)):=by
 cases f with
 | zero=>rfl
 | succ f=>
  have hss:=Qf _ l (Nat.le_refl _);have hsl:=Zg _ l (Nat.le_refl _);by_cases hs:qo l=[]
  ·rw[js hs,js (by rw[hss];exact hs)]
  ·rw[zS hs,zS (by rw[hss];exact hs),hss]
   cases e1:oneL (qo l) with
   | err x y=>simp only[Nat.sub_self,Nat.add_zero]
   | ok t r=>
    have hr:=(Q7 hs e1 (JF hl)).2.2;simp only[Nat.sub_self,Nat.add_zero];rw[show o+(l.length-(qo l).length)+((qo l).length-r.length)=o+(l.length-r.length) by omega]
theorem QI:∀ (n:Nat) (l acc:List Int) (d:Nat) (e:Int) (o:Nat),l.length<=n->quoL l acc d=.err e o->o=0∨(d<=o/\o<d+l.length)
 | _,[],acc,d,e,o,_,h=>by rw[quoL]at h;injection h with _ h;exact .inl h.symm
 | 0,c::l,acc,d,e,o,hl,_=>by simp at hl
 | n+1,c::l,acc,d,e,o,hl,h=>by
  have hl':l.length<=n:=by simpa using hl
  rw[quoL]at h;split at h
  ·cases h
  split at h
  ·injection h with _ h;exact .inl h.symm
  split at h
  ·split at h
   ·injection h with _ h;rw[List.length_cons];exact .inr (by omega)
   ·rename_i hz
    have hne:l≠[]:=fun e=>by rw[e]at hz;exact hz (by decide)
    have h1:1<=l.length:=by
     cases l with
     | nil=>exact absurd rfl hne
     | cons a b=>simp
    have:=QI n _ _ _ e o (by rw[List.length_tail];omega) h;rw[List.length_tail]at this;rw[List.length_cons];omega
  ·have:=QI n _ _ _ e o hl' h
   rw[List.length_cons];omega
theorem qdP{l:List Int}{e:Int}{o:Nat}(hne:l≠[])(h:oneL l=.err e o):o<l.length:=by
 have hpos:0<l.length:=by
  cases l with
  | nil=>exact absurd rfl hne
  | cons a b=>simp
 unfold oneL at h;split at h
 ·unfold qa4 at h
  repeat' split at h
  all_goals first | cases h;done | (injection h with _ h;omega)
 split at h
 ·unfold numL at h
  repeat' split at h
  all_goals first | cases h;done | (injection h with _ h;omega)
 split at h
 ·have:=QI _ _ _ _ e o (Nat.le_refl _) h
  rw[List.length_tail]at this;omega
 ·unfold JD at h
  repeat' split at h
  all_goals first | cases h;done | (injection h with _ h;omega)
theorem qfl:∀ (p:Pl) (cs:List Int),(place p cs).map Pn.r=cs
 | _,[]=>rfl
 | p,c::cs=>by show c::(place (p.next c) cs).map Pn.r=_;rw[qfl]
theorem qga(k:Int):tkF k=142∨tkF k=143∨tkF k=144∨tkF k=145∨tkF k=146:=by
 unfold tkF;repeat' split
 all_goals simp
theorem qhW{w w':World}{g base:Nat}{e:TypeId}{size:Nat}{V:Value}{n:Nat}{xs:List Value}(h:w.ownsRow base e size V n xs)(k:Kr g w w')(hg:g<base):w'.ownsRow base e size V n xs:=by
 obtain⟨h1,h2⟩:=h;refine⟨h1,?_⟩;rcases h2 with h2 | ⟨q,cap,cur,a,b,c,d⟩
 ·exact .inl h2
 ·exact .inr ⟨q,cap,cur,a,b,by rw[k.block q (Array.getElem?_eq_some_iff.1 c).1 (by omega)];exact c,d⟩
theorem qiK(w:World)(L:List Value)(t:TypeId):∀ j u,L[j]?=some u->(w.alloc (.cells L.toArray t)).cell? ⟨w.heap.size,j,none⟩=some u:=by
 intro j u hu;have hb:=blk1 w (.cells L.toArray t);unfold World.cell?
 rw[hb];simp[hu]
theorem qgb{cs:List Int}{k f:Nat}{done:List (Tk × Nat)}(h:qV (cs.length+1) cs 0=Rs.app done (qV f (cs.drop k) k))(hsk:qo (cs.drop k)=cs.drop k)(hk:k<cs.length)(hf:0<f) :
  qV (cs.length+1) cs 0=Rs.app done (match oneL (cs.drop k) with
   | .err e d=> .err e (k+d)
   | .ok t r=>(qV (f-1) r (k+((cs.drop k).length-r.length))).cons (t,k)):=by
 obtain⟨f',rfl⟩:∃ f',f=f'+1:=⟨f-1,by omega⟩
 have hne:cs.drop k≠[]:=fun e=>by have:=congrArg List.length e;rw[List.length_drop]at this;simp at this;omega
 rw[h,zS (by rw[hsk];exact hne),hsk];simp only[Nat.sub_self,Nat.add_zero,Nat.add_sub_cancel];rfl
theorem qcm{cs:List Int}{k f:Nat}{done:List (Tk × Nat)}{e:Int}{d:Nat}(h:qV (cs.length+1) cs 0=Rs.app done (qV f (cs.drop k) k))(hsk:qo (cs.drop k)=cs.drop k)(hk:k<cs.length)(hf:0<f)(hR:Rd.err e d=oneL (cs.drop k)) :
  e≠0/\rsO cs (qV (cs.length+1) cs 0)=⟨[],e,(((place p0 cs)[k+d]?).map Pn.p).getD z0⟩:=by
 have hne:cs.drop k≠[]:=fun e=>by have:=congrArg List.length e;rw[List.length_drop]at this;simp at this;omega
 have hlt:=qdP hne hR.symm;rw[List.length_drop]at hlt;refine⟨qfh hR.symm,?_⟩;rw[qgb h hsk hk hf,<- hR];obtain⟨c,hc⟩:∃ c,cs[k+d]?=some c:=⟨_,List.getElem?_eq_getElem (by omega)⟩
 show (⟨[],e,ends p0 (cs.take (k+d))⟩:To)=_;rw[Jz p0 cs (k+d) c hc];rfl
theorem qec{cs:List Int}{k k2 k3 f:Nat}{done:List (Tk × Nat)}{t:Tk}(hc:AllCp cs)(h:qV (cs.length+1) cs 0=Rs.app done (qV f (cs.drop k) k))(hsk:qo (cs.drop k)=cs.drop k)(hk:k<cs.length)(hf:0<f)(hR:Rd.ok t (cs.drop k2)=oneL (cs.drop k))(hkk:k<=k2)(h2:k2<=cs.length)(hs3:qo (cs.drop k2)=cs.drop k3)(h23:k2<=k3)(h3:k3<=cs.length) :
  k<k2/\qV (cs.length+1) cs 0=Rs.app (done++[(t,k)]) (qV (f-1) (cs.drop k3) k3)/\qo (cs.drop k3)=cs.drop k3:=by
 have hne:cs.drop k≠[]:=fun e=>by have:=congrArg List.length e;rw[List.length_drop]at this;simp at this;omega
 have hfc:=(Q7 hne hR.symm fun c hcc=>hc c (List.mem_of_mem_drop hcc)).2.2;rw[List.length_drop,List.length_drop]at hfc;refine⟨by omega,?_,by rw[<- hs3];exact Qf _ _ (Nat.le_refl _)⟩;rw[qgb h hsk hk hf,<- hR];show Rs.app done ((qV (f-1) (cs.drop k2) (k+((cs.drop k).length-(cs.drop k2).length))).cons (t,k))=_;rw[qgt,List.length_drop,List.length_drop,show k+(cs.length-k-(cs.length-k2))=k2 by omega,qbN (f-1) (cs.drop k2) k2 (fun c hcc=>hc c (List.mem_of_mem_drop hcc)),hs3,List.length_drop,List.length_drop,show k2+(cs.length-k2-(cs.length-k3))=k3 by omega]
def GTo(o:To)(w:World)(e:Ending)(w':World):Prop:=
 Bel w w'/\∃ A n c,e=.returned (.tuple #[.slice A n c,.agg #[.int .i64 o.e,o.q.a,o.q.l,o.q.c]])/\RTn w' w'.heap.size A n o.l
def GToC(o:To)(w:World)(e:Ending)(w':World):Prop:=
 Bel w w'/\∃ A n c,e=.returned (.tuple #[.slice A n c,.agg #[.int .i64 o.e,o.q.a,o.q.l,o.q.c]])/\RTn w' w'.heap.size A n o.l/\n<=c
theorem qiQ{w:World}{base:Nat}{e:TypeId}{size n c:Nat}{A:OA}{xs:List Value}(h:w.ownsRow base e size (.slice A n c) n xs):n<=c:=by
 rcases h.2 with ⟨_,h0⟩ | ⟨g,cap,cur,hv,hb,hg,hc,_⟩
 ·omega
 ·injection hv with _ _ h3
  omega
theorem qg1:(Tryz.prog.info? 85).map (fun i=>(i.zero,i.size,i.bytes))=some (some (.agg #[.int .u8 0,.string ⟨#[]⟩,(0:Int),(0:Int),(0:Int),(0:Int)]),6,56):=by kernel_rfl
theorem qcl{s:BA}{cs:List Int}{rest:LU}(h:Cps s.data.toList cs rest)(w:World):Calls Tryz.prog 95 #[.string s] w (GToC (tokO s.size cs rest) w):=by
 have HP:Hid (∀ w,Calls Tryz.prog 120 #[.string s] w (GO2 (ot s.size cs rest) w)):=hid fun w=>qdR h w;obtain⟨O,hO⟩:=nW (ot s.size cs rest);obtain⟨TT,hTT⟩:=nW (tokO s.size cs rest);rw[<- hO]at HP;rw[<- hTT];have HO:=hid hO;have HTT:=hid hTT;have H:=hid h;clear hO hTT h;go_enter Tryz.func95,Tryz.ntmps95;go_wp2_with fail;refine (HP _).mono ?_;rintro e w1 ⟨hb,A,n,c,rfl,hq⟩;have q0:=blk1 w (.cells #[.int .i64 0,(0:Int),(0:Int),(0:Int)] 140);have HQ0:=hid (hb.blk q0);have HB1:=hid (((Bel.refl w).alloc (.cells #[.int .i64 0,(0:Int),(0:Int),(0:Int)] 140)).on hb);have HRP:=hid hq;have hs1:w.heap.size<w1.heap.size:=by have:=hb.size;simp at this;omega
 clear hb q0 hq;by_cases hoe:O.e=0
 ·go_wp2_with fail
  obtain⟨hs4,rfl⟩:=qiP.1 (by rw[<- HO.out];exact hoe);have hOx:O.xs=place p0 cs:=by rw[HO.out,ot,if_neg (by omega),if_pos rfl]
  have hcp:AllCp cs:=H.out.cp;have hsz:(encs cs).length<=4000:=by
   have e:=congrArg List.length H.out.eq;rw[List.append_nil,Array.length_toList]at e;have:s.data.size=s.size:=rfl;omega
  have hmap:(place p0 cs).map Pn.r=cs:=qfl p0 cs;have hln:n=cs.length:=by have:=HRP.out.len;rw[hOx,Q8]at this;exact this
  have hn4:n<=4000:=by have:=zj hcp;omega
  have htt:TT=rsO cs (qV (cs.length+1) cs 0):=by rw[HTT.out,tokO,<- HO.out,if_pos hoe]
  have HTR:=hid htt;have hrd:Rdr ((w1.alloc (.cells #[.int .i64 0,O.q.a,O.q.l,O.q.c] 140)).alloc (.cells #[.slice A n c,(0:Int)] 173)) (w1.heap.size+1) A n c (place p0 cs) 0:=by
   have hbb:Bel w1 ((w1.alloc (.cells #[.int .i64 0,O.q.a,O.q.l,O.q.c] 140)).alloc (.cells #[.slice A n c,(0:Int)] 173)):=((Bel.refl w1).alloc _).alloc _;refine⟨(blk2 w1 _ _).2,?_,Nat.zero_le _,hn4⟩;have:=HRP.out;rw[hOx]at this;exact (this.keep fun b o hb=>hbb.cell (p:=⟨b,o,none⟩) hb).more (by omega)
  obtain⟨w2,hw2⟩:=nW ((w1.alloc (.cells #[.int .i64 0,O.q.a,O.q.l,O.q.c] 140)).alloc (.cells #[.slice A n c,(0:Int)] 173));have hs2:w2.heap.size=w1.heap.size+2:=by rw[hw2];simp
  have hb2:Bel w1 w2:=by rw[hw2];exact ((Bel.refl w1).alloc _).alloc _
  rw[<- hw2]at hrd ⊢;obtain⟨g,hg⟩:=nW (w1.heap.size+1);rw[<- hg]at hrd ⊢;obtain⟨xs,hxs⟩:=nW (place p0 cs);rw[<- hxs]at hrd hmap;have HXS:=hid hxs;have HR2:=hid hrd;have HMAP:=hid hmap;have HCP:=hid hcp;have HSZ:=hid hsz;have HB2:=hid (HB1.on hb2);have HQ2:=hid (hb2.blk HQ0);have hSK:∀ (w:World) (k:Nat),Rdr w g A n c xs k->Calls Tryz.prog 121 #[.pointer (some ⟨g,0,none⟩)] w fun e w'=>e=.returned (.tuple #[])/\∃ k2,k<=k2/\Rdr w' g A n c xs k2/\qo (cs.drop k)=cs.drop k2/\Kr g w w':=fun w k hd=>by have:=qht w hd;rw[hmap]at this;exact this
  have HSK:=hid hSK;have HM:Hid (∀ (w:World) (k:Nat),Rdr w g A n c xs k->Calls Tryz.prog 122 #[.pointer (some ⟨g,0,none⟩)] w fun e w'=>e=.returned (.bool (decide (k<n)))/\Bel w w'):=hid fun w k hk=>Jb w hk;have HTK:Hid (∀ (w:World) (k:Nat),Rdr w g A n c xs k->∃ F:Nat,(F=142∨F=143∨F=144∨F=145∨F=146)/\Calls Tryz.prog 123 #[.pointer (some ⟨g,0,none⟩)] w (fun e w'=>e=.returned (.func (Fn.func F) #[.pointer (some ⟨g,0,none⟩)] #[])/\Bel w w')/\∀ (x:Pn) (w:World),xs[k]?=some x->Rdr w g A n c xs k->Calls Tryz.prog F #[.pointer (some ⟨g,0,none⟩)] w (Took g A n c xs k (oneL (cs.drop k)) w)):=hid fun w k hd=>
   ⟨tkF (kdL ((xs.map Pn.r).drop k)),qga _,qf8 w hd,fun x w hx hd=>by
    have:=qiO hx (by rw[hmap];exact hcp) (by rw[hmap];exact hsz) w hd;rw[hmap]at this ⊢;exact this⟩
  have HG:=hid hg;have HLN:=hid hln;have HS2:=hid hs2;have hgw:w.heap.size<g:=by omega
  clear htt hrd hw2 hb2 hxs hmap hcp hsz hSK hOx hg hln hs2;refine (HSK _ _ HR2).mono ?_;rintro e w3 ⟨rfl,k0,-,hd3,hs3,hk3⟩;have HD3:=hid hd3;have HK3:=hid hk3;have hk0:=hd3.le;have hst:qV (cs.length+1) cs 0=Rs.app [] (qV (cs.length+1) (cs.drop k0) k0):=by
   rw[app_nil,qbN _ cs 0 HCP.out,show qo cs=cs.drop k0 by simpa using hs3,List.length_drop,show 0+(cs.length-(cs.length-k0))=k0 by have:=HLN.out;omega]
  have hsk0:qo (cs.drop k0)=cs.drop k0:=by rw[<- hs3];exact Qf _ _ (Nat.le_refl _)
  have HST:=hid hst;have HSK0:=hid hsk0;clear hd3 hs3 hk3 hst hsk0;go_wp2_with fail;go_loopg [7] (n+2) (fun gk v wr=>∃ (k m:Nat) (A2:OA) (c2 f:Nat) (done:List (Tk × Nat)),v=.slice A2 m c2/\Hid (k<=n/\n-k<gk/\n-k<f)/\Hid (Rdr wr g A n c xs k)/\Hid (wr.ownsRow (g+1) 85 6 (.slice A2 m c2) m (jm (done.map (tn cs))))/\Hid (Kr g w2 wr) ∧
   Hid (qV (cs.length+1) cs 0=Rs.app done (qV f (cs.drop k) k)/\qo (cs.drop k)=cs.drop k)/\Hid (m<=k))
  case atStart=>exact⟨k0,0,none,0,cs.length+1,[],rfl,hid ⟨hk0,by omega,by have:=HLN.out;omega⟩,HD3,hid (World.ownsRow_nil _ _ _ _),HK3,hid ⟨HST,HSK0⟩,hid (Nat.zero_le _)⟩
  case round=>
   obtain⟨k,m,A2,c2,f,done,rfl,HJ,HD,HOW,HK,HTF,HMK⟩:=hrel;have hjj:=HJ.out;by_cases hk:k<n
   ·have hm:∀ w',Rdr w' g A n c xs k->Calls Tryz.prog 122 #[.pointer (some ⟨g,0,none⟩)] w' fun e w2=>e=.returned (.bool true)/\Bel w' w2:=fun w' hd=>by have:=HM.out w' k hd;rwa [decide_eq_true hk]at this
    have HMT:=hid hm;clear hm;go_wp2_with fail;refine (HMT _ HD).mono ?_;rintro e w4 ⟨rfl,hb⟩;have HD4:=hid (HD.bel hb);have HK4:=hid (HK.bel hb);have HO4:=hid (qG HOW hb);clear hb;obtain⟨c0,c1,f0,f1⟩:=HD4.cells;obtain⟨b,off,x,rfl,hx,-,a1,a2,a3⟩:=HD4.out.at_ hk;have HX:=hid hx;clear hx;have hbl:b<w4.heap.size:=by
     obtain⟨b',off',hA',hb',-⟩:=HD4.out.rp.at_ (by omega);injection hA' with hA'
     injection hA' with h1 _ _
     have:=HD4.out.lt;omega
    have hg4:g<w4.heap.size:=HD4.out.lt;go_wp2_with fail;go_cut [8] (fun v wx=>∃ bp:Nat,v=.pointer (some ⟨bp,0,none⟩)/\Hid (Bel w4 wx)/\Hid (w4.heap.size<=bp)/\Hid (wx.heap[bp]?=some (.cells #[.int .i64 x.p.a,x.p.l,x.p.c] 24 (0,0))))
    case first=>
     go_region;go_wp2_with fail;go_meet;exact⟨w4.heap.size,rfl,hid (((Bel.refl w4).alloc _).drew),hid (Nat.le_refl _),hid (blk1 w4 _)⟩
    case rest=>
     obtain⟨bp,rfl,HB5,HBP,HPO⟩:=hcut;have HD5:=hid (HD4.bel HB5);have HK5:=hid (HK4.bel HB5);have HO5:=hid (qG HO4 HB5);clear c0 c1 f0 f1 a1 a2 a3;obtain⟨F,hF0,hF1,hF2⟩:=HTK.out _ k HD5;have HF0:=hid hF0;have HF1:=hid hF1;have HF2:=hid (fun w' hd=>hF2 x w' HX hd);clear hF0 hF1 hF2;go_wp2_with fail;refine HF1.out.mono ?_;rintro e w6 ⟨rfl,hb⟩;have HD6:=hid (HD5.bel hb);have HK6:=hid (HK5.bel hb);have HO6:=hid (qG HO5 hb);have HPO6:=hid (hb.blk HPO);clear hb;obtain⟨R,hR⟩:=nW (oneL (cs.drop k));rw[<- hR]at HF2;have HRR:=hid hR;clear hR;go_upto_region 11 with fail
     cases R with
     | err ee d=>
      go_cut [10,11] (fun v u wx=>∃ b10:Nat,v=.pointer (some ⟨b10,0,none⟩)/\u=.pointer (some ⟨b10+1,0,none⟩)/\Hid (w6.heap.size<=b10)/\Hid (Kr g w6 wx)/\Hid (wx.heap[b10+1]?=some (.cells #[.int .i64 ee,.int .i64 (((xs[k+d]?).map Pn.p).getD z0).a,.int .i64 (((xs[k+d]?).map Pn.p).getD z0).l,.int .i64 (((xs[k+d]?).map Pn.p).getD z0).c] 140 (0,0))))
      case first=>
       rcases HF0.out with rfl | rfl | rfl | rfl | rfl
       all_goals
        go_wp2_with fail;refine (HF2 _ HD6).mono ?_;rintro e7 w7 ⟨rfl,hk7,hr7⟩;have HK7:=hid hk7;have HR7:=hid hr7;clear hk7 hr7;unfold rdV erV;go_wp2_with fail;go_meet;exact⟨w7.heap.size,rfl,rfl,hid HK7.size,hid (HK7.bel (((Bel.refl _).alloc _).alloc _)),hid (blk2 w7 _ _).2⟩
      case rest=>
       obtain⟨b10,rfl,rfl,HBL,HK8,HDG⟩:=hcut;obtain⟨hne,hrs⟩:=qcm HTF.1 HTF.2 (by have:=HLN.out;omega) (by omega) HRR;rw[<- HXS.out]at hrs;obtain⟨pp,hpp⟩:=nW (((xs[k+d]?).map Pn.p).getD z0);rw[<- hpp]at HDG hrs;have hT:TT=⟨[],ee,pp⟩:=by rw[HTR.out,hrs]
       subst hT;clear hrs hpp;have hKK:=HK6.on HK8;have HKK:=hid hKK;have hx0:=hKK.keep HQ2 (by omega);have HX0:=hid hx0;have hne2:(ee==0)=false:=by simpa using hne
       clear hKK;have hwlt:=(Array.getElem?_eq_some_iff.1 hx0).1;obtain⟨d0,d1,d2,d3,g0,g1,g2,g3⟩:=qU HDG;obtain⟨e0,e1,e2,e3,m0,m1,m2,m3⟩:=qU hx0;clear hx0;go_wp2_with fail;go_region;go_wp2;refine bodyPost_ret (v:= .tuple #[.slice none 0 0,.agg #[.int .i64 ee,pp.a,pp.l,pp.c]]) ?_ rfl ⟨?_,none,0,0,rfl,RTn.nil_,Nat.le_refl _⟩
       ·simp[results,Tryz.results95,go_sem, *]
       ·have hk:Bel w wc:=Kr.weak HB2 HKK (by omega)
        repeat (first | with_reducible exact hk | with_reducible refine Bel.set_ ?_ (by simp) _ | with_reducible refine Bel.drew ?_)
     | ok t r=>
      go_cut [10,11] (fun v u wx=>∃ b10:Nat,v=.pointer (some ⟨b10,0,none⟩)/\u=.pointer (some ⟨b10+1,0,none⟩)/\Hid (w6.heap.size<=b10)/\Hid (Kr g w6 wx)/\Hid (wx.heap[b10]?=some (.cells #[.int .u8 t.k,.string ⟨(encs t.x).toArray⟩,t.n,(0:Int),(0:Int),(0:Int)] 85 (0,0)))/\Hid (wx.heap[b10+1]?=some (.cells #[.int .i64 0,(0:Int),(0:Int),(0:Int)] 140 (0,0)))/\Hid (∃ k2,r=cs.drop k2/\k<=k2/\Rdr wx g (some ⟨b,off,none⟩) n c xs k2))
      case first=>
       rcases HF0.out with rfl | rfl | rfl | rfl | rfl
       all_goals
        go_wp2_with fail;refine (HF2 _ HD6).mono ?_;rintro e7 w7 ⟨rfl,hk7,hr7⟩;have HK7:=hid hk7;have HR7:=hid hr7;clear hk7 hr7;unfold rdV tkV;go_wp2_with fail;go_meet;exact⟨w7.heap.size,rfl,rfl,hid HK7.size,hid (HK7.bel (((Bel.refl _).alloc _).alloc _)),hid (blk2 w7 _ _).1,hid (blk2 w7 _ _).2,hid (by obtain⟨k2,e1,e2,e3⟩:=HR7.out t r rfl;rw[HMAP.out]at e1;exact⟨k2,e1,e2,e3.bel (((Bel.refl _).alloc _).alloc _)⟩)⟩
      case rest=>
       obtain⟨b10,rfl,rfl,HBL,HK8,HTB,HDG,HRK⟩:=hcut;obtain⟨k2,rfl,hk2,hd2⟩:=HRK.out;have hk2n:=hd2.le;have HD8:=hid hd2;have hbp:bp<w6.heap.size:=(Array.getElem?_eq_some_iff.1 HPO6).1;have hbp2:=HBP.out;have hbl2:=HBL.out;have hpo8:=HK8.keep HPO6 (by omega);have hxp:x.p=ends p0 (cs.take k):=by
        have e:=HX.out;obtain⟨cc,hcc⟩:∃ cc,cs[k]?=some cc:=⟨_,List.getElem?_eq_getElem (by have:=HLN.out;omega)⟩
        rw[HXS.out,Jz p0 cs k cc hcc]at e;rw[<- Option.some.inj e]
       have HXP:=hid hxp;obtain⟨⟨t0,t1,t2,t3,t4,t5⟩,f0,f1,f2,f3,f4,f5⟩:=qq HTB;obtain⟨d0,d1,d2,d3,g0,g1,g2,g3⟩:=qU HDG;obtain⟨p0',p1',p2',-⟩:=Qz hpo8;have hb1:b10<wc.heap.size:=(Array.getElem?_eq_some_iff.1 HTB).1;have hbb1:bp<wc.heap.size:=(Array.getElem?_eq_some_iff.1 hpo8).1;have hnb:bp≠b10:=by omega
       have hgb:g<b10:=by omega
       clear hd2 hxp hpo8;go_upto_region 15 with fail
       refine JR ?_;intro W hW;have hfa:W.heap[b10]?=some (.cells #[.int .u8 t.k,.string ⟨(encs t.x).toArray⟩,t.n,x.p.a,x.p.l,x.p.c] 85 (0,0))/\Kr g w6 W/\Rdr W g (some ⟨b,off,none⟩) n c xs k2:=by
        rw[hW];exact⟨by simp[World.setCell,Array.getElem?_modify,HTB.out],((HK8.out.setN hbl2 _).setN hbl2 _).setN hbl2 _,((HD8.out.setN hgb _).setN hgb _).setN hgb _⟩
       obtain⟨hf1,hf2,hf3⟩:=hfa;have HF1:=hid hf1;have HKW:=hid (HK6.on hf2);have HDW:=hid hf3;have HOW2:=hid (qhW HO6 hf2 (Nat.lt_succ_self g));have hgW:g+1<=W.heap.size:=hf3.lt;have HGW:=hid hgW;have hm4:m<=1000000000:=by have:=HMK.out;omega
       clear hW hf1 hf2 hf3 t0 t1 t2 t3 t4 t5 f0 f1 f2 f3 f4 f5 d0 d1 d2 d3 g0 g1 g2 g3 p0' p1' p2';obtain⟨⟨t0,t1,t2,t3,t4,t5⟩,-⟩:=qq HF1;go_wp2_with (at_builtin;refine qL rfl _ _ 64 rfl (g+1) 85 _ 6 56 Tryz.underlying64 qg1 rfl (by decide) (by decide) A2 m c2 _ rfl (HOW2.alloc _) W.heap.size [.int .u8 t.k,.string ⟨(encs t.x).toArray⟩,t.n,x.p.a,x.p.l,x.p.c] rfl rfl (by exact qiK W _ _) (by simp[Value.oneCell']) hm4 (Nat.le_trans HGW (by simp)) ?_;intro A5 c5 w5 hown5 hg5;(have HO5:=hid hown5);(have HG5:=hid hg5);clear hown5 hg5);have HB5':=hid (Zn HOW2 HG5 HGW);have HD5':=hid (HDW.out.below_ HB5' (Nat.lt_succ_self g));have HK5':=hid (HKW.out.below_ HB5' (by have:=HS2.out;have:=HG.out;omega));refine (HSK _ _ HD5').mono ?_;rintro e9 w9 ⟨rfl,k3,hk3,hd9,hs9,hk9⟩;have hk3n:=hd9.le;have htk:=qec HCP HTF.1 HTF.2 (by have:=HLN.out;omega) (by omega) HRR hk2 (by have:=HLN.out;omega) hs9 hk3 (by have:=HLN.out;omega);have HTN:=hid htk.2;have hlt2:=htk.1;have HD9:=hid hd9;have HK9:=hid (HK5'.on hk9);have HO9:=hid (qhW HO5 hk9 (Nat.lt_succ_self g));clear htk hd9 hs9 hk9 t0 t1 t2 t3 t4 t5;go_wp2;have hmk:=HMK.out;go_roundg (gk-1)
       case rel=>exact⟨k3,m+1,A5,c5,f-1,done++[(t,k)],rfl,hid ⟨by omega,by omega,by omega⟩,HD9,hid (by rw[List.map_append,List.map_cons,List.map_nil,qdD];have h9:=HO9.out;rw[show (tn cs (t,k)).cells=[.int .u8 t.k,.string ⟨(encs t.x).toArray⟩,.int .i64 t.n,.int .i64 x.p.a,.int .i64 x.p.l,.int .i64 x.p.c] by rw[HXP.out];rfl];exact h9),HK9,HTN,hid (by omega)⟩
       case measure=>omega
   ·have hkn:k=n:=by omega
    subst hkn;have hm:∀ w',Rdr w' g A k c xs k->Calls Tryz.prog 122 #[.pointer (some ⟨g,0,none⟩)] w' fun e w2=>e=.returned (.bool false)/\Bel w' w2:=fun w' hd=>by have:=HM.out w' k hd;rwa [decide_eq_false hk]at this
    have HMT:=hid hm;have hnil:cs.drop k=[]:=List.drop_eq_nil_of_le (by have:=HLN.out;omega);have hT:TT=⟨done.map (tn cs),0,z0⟩:=by
     have e1:=HTF.1;obtain⟨f',rfl⟩:∃ f',f=f'+1:=⟨f-1,by omega⟩
     rw[hnil,js (f:=f') (l:=[]) (o:=k) jk]at e1;rw[HTR.out,e1];show (⟨(done++[]).map (tn cs),0,z0⟩:To)=_;rw[List.append_nil]
    subst hT;clear hm hnil;go_wp2_with fail;refine (HMT _ HD).mono ?_;rintro e w4 ⟨rfl,hb⟩;have HK4:=hid (HK.bel hb);have hx0:=HK4.keep HQ2 (by omega);have HRT:=hid (qG HOW hb);have hwg:w.heap.size<g+1:=by omega
    clear hb;obtain⟨e0,e1,e2,e3,m0,m1,m2,m3⟩:=qU hx0;have hwlt:=(Array.getElem?_eq_some_iff.1 hx0).1;clear hx0;go_wp2;refine bodyPost_ret (v:= .tuple #[.slice A2 m c2,.agg #[.int .i64 0,(0:Int),(0:Int),(0:Int)]]) ?_ rfl ⟨?_,A2,m,c2,rfl,?_,qiQ HOW⟩
    ·simp[results,Tryz.results95,go_sem, *]
    ·have hk:Bel w w4:=Kr.weak HB2 HK4 (by omega)
     repeat (first | with_reducible exact hk | with_reducible refine Bel.set_ ?_ (by simp) _ | with_reducible refine Bel.drew ?_)
    ·exact RTn.of_own (zT (zT (zT (zT HRT hwg _) hwg _) hwg _) hwg _)
 ·have hoe2:(O.e==0)=false:=by simpa using hoe
  have htt:TT=⟨[],O.e,O.q⟩:=by rw[HTT.out,tokO,<- HO.out,if_neg hoe]
  have HT:=hid htt;obtain⟨d0,d1,d2,d3,g0,g1,g2,g3⟩:=qU HQ0;clear htt;go_wp2_with fail;go_region;go_wp2;refine bodyPost_ret (v:= .tuple #[.slice none 0 0,.agg #[.int .i64 O.e,O.q.a,O.q.l,O.q.c]]) ?_ rfl ⟨?_,none,0,0,?_,?_,Nat.le_refl _⟩
  ·simp[results,Tryz.results95,go_sem, *]
  ·repeat (first | with_reducible exact HB1.out | with_reducible refine Bel.set_ ?_ (by simp) _ | with_reducible refine Bel.alloc ?_ _ | with_reducible refine Bel.drew ?_)
  ·rw[HT.out]
  ·rw[HT.out];exact RTn.nil_
theorem qeb{s:BA}{cs:List Int}{rest:LU}(h:Cps s.data.toList cs rest)(w:World):Calls Tryz.prog 95 #[.string s] w (GTo (tokO s.size cs rest) w):=
 (qcl h w).mono fun _ _ ⟨hb,A,n,c,he,hr,_⟩=>⟨hb,A,n,c,he,hr⟩
end Go.Proofs.YtmloadclmjcbbaaGreatDoor.Mu
