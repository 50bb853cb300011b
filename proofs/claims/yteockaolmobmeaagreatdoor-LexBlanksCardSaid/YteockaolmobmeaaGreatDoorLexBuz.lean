/-
  What is written into a builder leaves a text's bytes as they were: the builder's calls beside a row of bytes that a conversion made.
-/
import Derived.Test.YteockaolmobmeaaGreatDoorLexBuf
import Derived.Test.YteockaolmobmeaaGreatDoorLexBld
namespace Go.Proofs.YteockaolmobmeaaGreatDoor.Mu
open Go.RowKit Go.Shelf
set_option maxRecDepth 100000

/-- A block of bytes that a conversion made: its end is marked. -/
def Marked (k : Nat) (C : Array Value) (w : World) : Prop := w.heap[k]? = some (.cells C 5 (C.size, C.size + 1))
theorem Marked.not_row {w : World} {base k n : Nat} {v : Value} {ys : List Value} {C : Array Value} (hk : Marked k C w) (h : w.ownsRowF base 5 1 v n ys) : v.ownBlock ≠ some k := by
  intro e
  rcases h.2 with ⟨rfl, _⟩ | ⟨g, cap, cur, fz, rfl, hbg, hg, hfz, hnc, hcm, hcs, htake⟩
  · cases e
  · have hgk : g = k := by simpa [Value.ownBlock] using e
    subst hgk
    unfold Marked at hk
    rw [hg] at hk
    injection hk with hk
    injection hk with h1 h2 h3
    subst h1
    subst h3
    simp at hfz hcs
    omega
theorem cc12_any (base b : Nat) (bs : List UInt8) (k : Nat) (C : Array Value) (w : World) (h : BufF base b bs w) (hm : Marked k C w) (hkb : k ≠ b) :
    Calls Tryz.prog 36 #[.pointer (some ⟨b, 0, none⟩)] w fun e w' => e = .returned (.tuple #[]) ∧ Lib.BuilderAtF 42 5 base b (.pointer (some ⟨b, 0, none⟩)) (Lib.byteCells bs) w' ∧ BufK base b w w' ∧ Marked k C w' := by
  rcases h with h | h
  · refine (ccF_any b w h.cell0 h.shape h.frozen0).mono ?_
    rintro e w' ⟨rfl, rfl⟩
    exact ⟨rfl, h.used _, ⟨Below.setCell (Below.refl base w) (p := ⟨b, 0, none⟩) h.1 _, Lib.OthersKept.setCell (Lib.OthersKept.refl _ _ w) ⟨b, 0, none⟩ rfl _⟩, by unfold Marked; rw [Below.heap_setCell _ _ _ _ hkb]; exact hm⟩
  · refine (ccU_any b w h.cell0).mono ?_
    rintro e w' ⟨rfl, rfl⟩
    exact ⟨rfl, h, ⟨Below.refl base _, Lib.OthersKept.refl _ _ _⟩, hm⟩
set_option maxHeartbeats 2000000 in
/-- A text is written behind what was written. -/
theorem ws12_any (base b : Nat) (bs : List UInt8) (s : List UInt8) (k : Nat) (C : Array Value) (w : World) (h : BufF base b bs w) (hm : Marked k C w) (hkb : k ≠ b) (hlen : bs.length + s.length ≤ 140737488355328) (hB0 : base ≤ w.heap.size) :
    Calls Tryz.prog 21 #[.pointer (some ⟨b, 0, none⟩), .string ⟨s.toArray⟩] w fun e w' => e = .returned (.tuple #[.int .i64 s.length, .nilIface]) ∧ BufF base b (bs ++ s) w' ∧ BufK base b w w' ∧ Marked k C w' := by
  obtain ⟨i0, hi, hz0, hz1, hz2⟩ := info_parts bufU8
  have hss : (⟨s.toArray⟩ : ByteArray).size = s.length := by simp [ByteArray.size]
  have hbl : (Lib.byteCells bs).length = bs.length := Lib.byteCells_length bs
  go_enter Tryz.func21, Tryz.ntmps21
  go_wp2_with (go_at_call 36; refine (cc12_any base b bs k C _ h hm hkb).mono ?_)
  rintro e w1 ⟨rfl, ⟨hB, v, hbk, hown, hne⟩, ⟨hb1, hk1⟩, hm1⟩
  have HB1 := Lib.hid hb1
  have HK1 := Lib.hid hk1
  have HM1 := Lib.hid hm1
  have hsz1 := hb1.size
  have c1 : w1.cell? ⟨b, 1, none⟩ = some v := by rw [Lib.cell_of_heap hbk]; rfl
  have hlt := (Array.getElem?_eq_some_iff.1 hbk).1
  clear hb1 hk1 h hm hm1
  go_wp2_with (at_builtin; refine Lib.wpList_append_own_stringF _ rfl _ _ 40 9 rfl base 5 i0 Tryz.underlying40 Tryz.underlying9 hi hz0 hz1 hz2 _ _ _ rfl hown ⟨s.toArray⟩ rfl ?c3 ?c4 ?c5 ?_)
  case c3 => unfold maxLen; omega
  case c4 => omega
  case c5 => omega
  intro v' w2 hown' hgrow _
  have hb2 : w2.heap[b]? = some (.cells #[.pointer (some ⟨b, 0, none⟩), v] 42 (0, 0)) := (hgrow.block b hlt (fun e => hne e.symm)).trans hbk
  have hm2 : Marked k C w2 := (hgrow.block k (Array.getElem?_eq_some_iff.1 HM1.out).1 (fun e => HM1.out.not_row hown e.symm)).trans HM1.out
  have HM2 := Lib.hid hm2
  have d1 : w2.cell? ⟨b, 1, none⟩ = some v := by rw [Lib.cell_of_heap hb2]; rfl
  have f1 : w2.frozen? ⟨b, 1, none⟩ = false := Lib.frozen_of_heap hb2 1
  clear c1 hm2
  obtain ⟨ao, n', cap, rfl⟩ : ∃ ao n' cap, v' = .slice ao n' cap := by
    rcases hown'.2 with ⟨hv, _⟩ | ⟨g, cap, cur, fz, hv, _⟩
    · exact ⟨_, _, _, hv⟩
    · exact ⟨_, _, _, hv⟩
  have HO := Lib.hid hown'
  have HG := Lib.hid hgrow
  have HW := Lib.hid hown
  clear hown' hgrow hown
  go_wp2
  go_ret2
  refine ⟨rfl, .inr ?_, ⟨?_, ?_⟩, ?_⟩
  · have hsc : Lib.strCells ⟨s.toArray⟩ = Lib.byteCells s := by rw [Lib.strCells_eq]
    rw [Lib.byteCells_append, ← hsc]
    exact Lib.BuilderAtF.put (T := 42) (e := 5) hB hb2 (bs' := Lib.byteCells bs ++ Lib.strCells ⟨s.toArray⟩) (by simpa [Lib.strCells_length, hbl, hss] using HO.out) (by decide)
  · exact Below.setCell (HB1.out.grown HG.out (by omega) (fun k hk => (HW.out.lt k hk).1)) (p := ⟨b, 1, none⟩) hB _
  · exact Lib.OthersKept.setCell (HK1.out.grown HG.out (Lib.ownsRowF_kind HW.out)) ⟨b, 1, none⟩ rfl _
  · unfold Marked; rw [Below.heap_setCell _ _ _ _ hkb]; exact HM2.out
set_option maxHeartbeats 2000000 in
/-- One byte is written behind what was written. -/
theorem wb12_any (base b : Nat) (bs : List UInt8) (c : UInt8) (ci : Int) (hc : ci = c.toNat) (k : Nat) (C : Array Value) (w : World) (h : BufF base b bs w) (hm : Marked k C w) (hkb : k ≠ b) (hlen : bs.length + 1 ≤ 140737488355328) (hB0 : base ≤ w.heap.size) :
    Calls Tryz.prog 22 #[.pointer (some ⟨b, 0, none⟩), .int .u8 ci] w fun e w' => e = .returned .nilIface ∧ BufF base b (bs ++ [c]) w' ∧ BufK base b w w' ∧ Marked k C w' := by
  subst hc
  obtain ⟨i0, hi, hz0, hz1, hz2⟩ := info_parts bufU8
  have hbl : (Lib.byteCells bs).length = bs.length := Lib.byteCells_length bs
  go_enter Tryz.func22, Tryz.ntmps22
  go_wp2_with (go_at_call 36; refine (cc12_any base b bs k C _ h hm hkb).mono ?_)
  rintro e w1 ⟨rfl, ⟨hB, v, hbk, hown, hne⟩, ⟨hb1, hk1⟩, hm1⟩
  have HB1 := Lib.hid hb1
  have HK1 := Lib.hid hk1
  have HM1 := Lib.hid hm1
  have hsz1 := hb1.size
  have c1 : w1.cell? ⟨b, 1, none⟩ = some v := by rw [Lib.cell_of_heap hbk]; rfl
  have hlt := (Array.getElem?_eq_some_iff.1 hbk).1
  clear hb1 hk1 h hm hm1
  go_wp2_with (at_builtin; refine wpList_append_ownF _ rfl _ _ 40 rfl base 5 i0 (.int .u8 0) 1 1 Tryz.underlying40 hi hz0 hz1 hz2 rfl (by decide) _ _ _ rfl (hown.alloc _) ⟨w1.heap.size, 0, none⟩ 1 1 [.int .u8 c.toNat] rfl rfl ?c1 ?c2 ?c3 ?c4 ?c5 ?_)
  case c1 =>
    intro j u hj
    match j, hj with
    | 0, hj => simp at hj; subst hj; simp [Addr.add]
  case c2 => intro u hu; simp at hu; subst hu; rfl
  case c3 => unfold maxLen; omega
  case c4 => omega
  case c5 => simp; omega
  intro v' w2 hown' hgrow _
  have hb2 : w2.heap[b]? = some (.cells #[.pointer (some ⟨b, 0, none⟩), v] 42 (0, 0)) := ((hgrow.block b (by simp; omega) (fun e => hne e.symm)).trans (Lib.alloc_old w1 _ b hlt)).trans hbk
  have hklt := (Array.getElem?_eq_some_iff.1 HM1.out).1
  have hm2 : Marked k C w2 := ((hgrow.block k (by simp; omega) (fun e => HM1.out.not_row hown e.symm)).trans (Lib.alloc_old w1 _ k hklt)).trans HM1.out
  have HM2 := Lib.hid hm2
  have d1 : w2.cell? ⟨b, 1, none⟩ = some v := by rw [Lib.cell_of_heap hb2]; rfl
  have f1 : w2.frozen? ⟨b, 1, none⟩ = false := Lib.frozen_of_heap hb2 1
  clear c1 hm2 hklt
  obtain ⟨ao, n', cap, rfl⟩ : ∃ ao n' cap, v' = .slice ao n' cap := by
    rcases hown'.2 with ⟨hv, _⟩ | ⟨g, cap, cur, fz, hv, _⟩
    · exact ⟨_, _, _, hv⟩
    · exact ⟨_, _, _, hv⟩
  have HO := Lib.hid hown'
  have HG := Lib.hid hgrow
  have HW := Lib.hid hown
  clear hown' hgrow hown
  go_wp2
  go_ret
  refine ⟨rfl, .inr ?_, ⟨?_, ?_⟩, ?_⟩
  · have hsc : Lib.byteCells [c] = [.int .u8 c.toNat] := rfl
    rw [Lib.byteCells_append, hsc]
    exact Lib.BuilderAtF.put (T := 42) (e := 5) hB hb2 (bs' := Lib.byteCells bs ++ [.int .u8 c.toNat]) (by simpa [hbl] using HO.out) (by decide)
  · exact Below.setCell ((HB1.out.alloc (by omega) _).grown HG.out (by simp; omega) (fun k hk => (HW.out.lt k hk).1)) (p := ⟨b, 1, none⟩) hB _
  · exact Lib.OthersKept.setCell ((HK1.out.alloc _).grown HG.out (Lib.ownsRowF_kind (HW.out.alloc _))) ⟨b, 1, none⟩ rfl _
  · unfold Marked; rw [Below.heap_setCell _ _ _ _ hkb]; exact HM2.out
end Go.Proofs.YteockaolmobmeaaGreatDoor.Mu

