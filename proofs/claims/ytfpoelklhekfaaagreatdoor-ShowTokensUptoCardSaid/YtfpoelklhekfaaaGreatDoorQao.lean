import Derived.Shelf.Strings.BuilderK
import Derived.Lib.UnsafeStr
import Derived.Laws.Externs
import Derived.Test.YtfpoelklhekfaaaGreatDoorQam
open Go.Lib (hid)
namespace Go.Proofs.YtfpoelklhekfaaaGreatDoor.Mu
set_option maxHeartbeats 2000000
open Go.RowKit Go.Shelf
set_option maxRecDepth 100000
abbrev BufF(base b:Nat)(bs:List UInt8)(w:World):Prop:=Lib.IsBuilderF 85 5 base b (Lib.byteCells bs) w
def BufK(base b:Nat)(w w':World):Prop:=Below base w w'/\Lib.OthersKept 5 (some b) w w'
theorem qgk:liesAt Tryz.prog Tryz.prog.depth 85 (2 / Tryz.prog.cellsOf 85) 0 85 1=true:=by kernel_rfl
theorem qcC:(Tryz.prog.info? 85).map (·.size)=some 2:=by kernel_rfl
theorem qhJ:(Tryz.prog.info? 5).map (fun i=>(i.zero,i.size,i.bytes))=some (some (.int .u8 0),1,1):=by kernel_rfl
theorem qgn(b:Nat)(w:World)(h0:w.cell? ⟨b,0,none⟩=some (.pointer (some ⟨b,0,none⟩))):Calls Tryz.prog 61 #[.pointer (some ⟨b,0,none⟩)] w fun e w'=>e=.returned (.tuple #[])/\w'=w:=by
 obtain⟨j,hj,_⟩:=Option.map_eq_some_iff.1 qcC;go_enter Tryz.func61,Tryz.ntmps61
 go_wp2
 rw[Lib.run_neq_ptr_same w _ (by kernel_rfl) hj];go_wp2
 go_end0
 exact⟨rfl,rfl⟩
theorem qgm(b:Nat)(w:World)(h0:w.cell? ⟨b,0,none⟩=some (.pointer none))(hsh:w.shape? b=some (85,2))(hfz:w.frozen? ⟨b,0,none⟩=false) :
  Calls Tryz.prog 61 #[.pointer (some ⟨b,0,none⟩)] w fun e w'=>e=.returned (.tuple #[])/\w'=w.setCell ⟨b,0,none⟩ (.pointer (some ⟨b,0,none⟩)):=by
 obtain⟨j,hj,hjs⟩:=Option.map_eq_some_iff.1 qcC;go_enter Tryz.func61,Tryz.ntmps61
 go_wp2
 rw[Lib.run_to_unsafe w ⟨b,0,none⟩ (t:=85) (by kernel_rfl) (by kernel_rfl) hj (by rw[hjs];decide) hsh (Nat.zero_lt_succ 1)];simp only[Result.andThen];rw[Oper.upon_value];go_wp2
 rw[run_callFunc_extern Tryz.func107 (by kernel_rfl) (by kernel_rfl) (by kernel_rfl) (e:=Extern.AbiNoEscape.same) (by kernel_rfl)];rw[Lib.run_noEscape];simp only[Result.andThen];rw[Oper.upon_value];go_wp2
 rw[Lib.run_from_unsafe w ⟨b,0,none⟩ (u:=85) (by kernel_rfl) (by kernel_rfl) hj hsh qgk];simp only[Result.andThen];rw[Oper.upon_value];go_wp2
 go_end0
 exact⟨rfl,rfl⟩
theorem qa8(base b:Nat)(bs:List UInt8)(w:World)(h:BufF base b bs w) :
  Calls Tryz.prog 61 #[.pointer (some ⟨b,0,none⟩)] w fun e w'=>e=.returned (.tuple #[])/\Lib.BuilderAtF 85 5 base b (.pointer (some ⟨b,0,none⟩)) (Lib.byteCells bs) w'/\BufK base b w w':=by
 rcases h with h | h
 ·refine (qgm b w h.cell0 h.shape h.frozen0).mono ?_
  rintro e w' ⟨rfl,rfl⟩;exact⟨rfl,h.used _,Below.setCell (Below.refl base w) (p:=⟨b,0,none⟩) h.1 _,Lib.OthersKept.setCell (Lib.OthersKept.refl _ _ w) ⟨b,0,none⟩ rfl _⟩
 ·refine (qgn b w h.cell0).mono ?_
  rintro e w' ⟨rfl,rfl⟩;exact⟨rfl,h,Below.refl base _,Lib.OthersKept.refl _ _ _⟩
theorem qbG(base b:Nat)(bs:List UInt8)(s:List UInt8)(w:World)(h:BufF base b bs w)(hlen:bs.length+s.length<=140737488355328)(hB0:base<=w.heap.size) :
  Calls Tryz.prog 27 #[.pointer (some ⟨b,0,none⟩),.string ⟨s.toArray⟩] w fun e w'=>e=.returned (.tuple #[.int .i64 s.length,.nilIface])/\BufF base b (bs++s) w'/\BufK base b w w':=by
 obtain⟨i0,hi,hz0,hz1,hz2⟩:=info_parts qhJ;have hss:(⟨s.toArray⟩:ByteArray).size=s.length:=by simp[ByteArray.size]
 have hbl:(Lib.byteCells bs).length=bs.length:=Lib.byteCells_length bs;go_enter Tryz.func27,Tryz.ntmps27
 go_wp2_with (go_at_call 61;refine (qa8 base b bs _ h).mono ?_)
 rintro e w1 ⟨rfl,⟨hB,v,hbk,hown,hne⟩,hb1,hk1⟩;have HB1:=hid hb1;have HK1:=hid hk1;have hsz1:=hb1.size;have c1:w1.cell? ⟨b,1,none⟩=some v:=by rw[Lib.cell_of_heap hbk];rfl
 have hlt:=(Array.getElem?_eq_some_iff.1 hbk).1;clear hb1 hk1 h;go_wp2_with (at_builtin;refine Lib.wpList_append_own_stringF _ rfl _ _ 83 9 rfl base 5 i0 Tryz.underlying83 Tryz.underlying9 hi hz0 hz1 hz2 _ _ _ rfl hown ⟨s.toArray⟩ rfl ?c3 ?c4 ?c5 ?_)
 case c3=>unfold maxLen;omega
 case c4=>omega
 case c5=>omega
 intro v' w2 hown' hgrow _;have hb2:w2.heap[b]?=some (.cells #[.pointer (some ⟨b,0,none⟩),v] 85 (0,0)):=(hgrow.block b hlt (fun e=>hne e.symm)).trans hbk;have d1:w2.cell? ⟨b,1,none⟩=some v:=by rw[Lib.cell_of_heap hb2];rfl
 have f1:w2.frozen? ⟨b,1,none⟩=false:=Lib.frozen_of_heap hb2 1;clear c1;obtain⟨ao,n',cap,rfl⟩:∃ ao n' cap,v'=.slice ao n' cap:=by
  rcases hown'.2 with ⟨hv,_⟩ | ⟨g,cap,cur,fz,hv,_⟩
  ·exact⟨_,_,_,hv⟩
  ·exact⟨_,_,_,hv⟩
 have HO:=hid hown';have HG:=hid hgrow;have HW:=hid hown;clear hown' hgrow hown;go_wp2
 go_ret2
 refine⟨rfl,.inr ?_,?_,?_⟩
 ·have hsc:Lib.strCells ⟨s.toArray⟩=Lib.byteCells s:=by rw[Lib.strCells_eq]
  rw[Lib.byteCells_append,<- hsc];exact Lib.BuilderAtF.put (T:=85) (e:=5) hB hb2 (bs':=Lib.byteCells bs++Lib.strCells ⟨s.toArray⟩) (by simpa [Lib.strCells_length,hbl,hss] using HO.out) (by decide)
 ·exact Below.setCell (HB1.out.grown HG.out (by omega) (fun k hk=>(HW.out.lt k hk).1)) (p:=⟨b,1,none⟩) hB _
 ·exact Lib.OthersKept.setCell (HK1.out.grown HG.out (Lib.ownsRowF_kind HW.out)) ⟨b,1,none⟩ rfl _
theorem qfF(base b:Nat)(bs:List UInt8)(c:UInt8)(ci:Int)(hc:ci=c.toNat)(w:World)(h:BufF base b bs w)(hlen:bs.length+1<=140737488355328)(hB0:base<=w.heap.size) :
  Calls Tryz.prog 26 #[.pointer (some ⟨b,0,none⟩),.int .u8 ci] w fun e w'=>e=.returned .nilIface/\BufF base b (bs++[c]) w'/\BufK base b w w':=by
 subst hc;obtain⟨i0,hi,hz0,hz1,hz2⟩:=info_parts qhJ;have hbl:(Lib.byteCells bs).length=bs.length:=Lib.byteCells_length bs;go_enter Tryz.func26,Tryz.ntmps26
 go_wp2_with (go_at_call 61;refine (qa8 base b bs _ h).mono ?_)
 rintro e w1 ⟨rfl,⟨hB,v,hbk,hown,hne⟩,hb1,hk1⟩;have HB1:=hid hb1;have HK1:=hid hk1;have hsz1:=hb1.size;have c1:w1.cell? ⟨b,1,none⟩=some v:=by rw[Lib.cell_of_heap hbk];rfl
 have hlt:=(Array.getElem?_eq_some_iff.1 hbk).1;clear hb1 hk1 h;go_wp2_with (at_builtin;refine wpList_append_ownF _ rfl _ _ 83 rfl base 5 i0 (.int .u8 0) 1 1 Tryz.underlying83 hi hz0 hz1 hz2 rfl (by decide) _ _ _ rfl (hown.alloc _) ⟨w1.heap.size,0,none⟩ 1 1 [.int .u8 c.toNat] rfl rfl ?c1 ?c2 ?c3 ?c4 ?c5 ?_)
 case c1=>
  intro j u hj;match j,hj with
  | 0,hj=>simp at hj;subst hj;simp[Addr.add]
 case c2=>intro u hu;simp at hu;subst hu;rfl
 case c3=>unfold maxLen;omega
 case c4=>omega
 case c5=>simp;omega
 intro v' w2 hown' hgrow _;have hb2:w2.heap[b]?=some (.cells #[.pointer (some ⟨b,0,none⟩),v] 85 (0,0)):=((hgrow.block b (by simp;omega) (fun e=>hne e.symm)).trans (Lib.alloc_old w1 _ b hlt)).trans hbk;have d1:w2.cell? ⟨b,1,none⟩=some v:=by rw[Lib.cell_of_heap hb2];rfl
 have f1:w2.frozen? ⟨b,1,none⟩=false:=Lib.frozen_of_heap hb2 1;clear c1;obtain⟨ao,n',cap,rfl⟩:∃ ao n' cap,v'=.slice ao n' cap:=by
  rcases hown'.2 with ⟨hv,_⟩ | ⟨g,cap,cur,fz,hv,_⟩
  ·exact⟨_,_,_,hv⟩
  ·exact⟨_,_,_,hv⟩
 have HO:=hid hown';have HG:=hid hgrow;have HW:=hid hown;clear hown' hgrow hown;go_wp2
 go_ret
 refine⟨rfl,.inr ?_,?_,?_⟩
 ·have hsc:Lib.byteCells [c]=[.int .u8 c.toNat]:=rfl
  rw[Lib.byteCells_append,hsc];exact Lib.BuilderAtF.put (T:=85) (e:=5) hB hb2 (bs':=Lib.byteCells bs++[.int .u8 c.toNat]) (by simpa [hbl] using HO.out) (by decide)
 ·exact Below.setCell ((HB1.out.alloc (by omega) _).grown HG.out (by simp;omega) (fun k hk=>(HW.out.lt k hk).1)) (p:=⟨b,1,none⟩) hB _
 ·exact Lib.OthersKept.setCell ((HK1.out.alloc _).grown HG.out (Lib.ownsRowF_kind (HW.out.alloc _))) ⟨b,1,none⟩ rfl _
end Go.Proofs.YtfpoelklhekfaaaGreatDoor.Mu
