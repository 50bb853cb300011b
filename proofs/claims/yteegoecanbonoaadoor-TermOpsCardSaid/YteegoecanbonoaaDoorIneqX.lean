/-
  The statements' own first question of layer 3.
-/
import Derived.Test.YteegoecanbonoaaDoorIneqW
namespace Go.Proofs.YteegoecanbonoaaDoor.Mu
open Go.ChangeShapes Go.WideShapes Go.ChangeAt Go.RowKit

def bas (ts : List (List UInt8)) : List ByteArray := ts.map fun l => ⟨l.toArray⟩
theorem bas_inj {ts us : List (List UInt8)} : bas ts = bas us ↔ ts = us := by
  refine ⟨fun h => ?_, fun h => by rw [h]⟩
  have h2 := congrArg (List.map fun b : ByteArray => b.data.toList) h
  simpa [bas, List.map_map, Function.comp_def] using h2
theorem bas_len (ts : List (List UInt8)) : (bas ts).length = ts.length := by simp [bas]
theorem RS.cells_ {w : World} {b off : Nat} {ts : List (List UInt8)} (h : ∀ (j : Nat) (s : List UInt8), ts[j]? = some s → w.cell? ⟨b, off + j, none⟩ = some (.string ⟨s.toArray⟩)) : ∀ j, j < (bas ts).length → w.cell? ⟨b, off + j, none⟩ = some (.string ((bas ts).getD j ByteArray.empty)) := by
  intro j hj
  rw [bas_len] at hj
  rw [h j ts[j] (List.getElem?_eq_getElem hj)]
  simp [bas, List.getD_eq_getElem?_getD, List.getElem?_map, List.getElem?_eq_getElem hj]
theorem sequal_any (A B : Option Addr) (n m c d : Nat) (ts us : List (List UInt8)) (w : World) (ha : RS w w.heap.size A n ts) (hb : RS w w.heap.size B m us) (hn : n ≤ 1000000000) (hm : m ≤ 1000000000) :
    Calls Tryd.prog 31 #[.slice A n c, .slice B m d] w fun e w' => e = .returned (.bool (decide (ts = us))) ∧ Bel w w' := by
  obtain ⟨hl, ha⟩ := ha
  obtain ⟨hk, hb⟩ := hb
  by_cases hnm : n = m
  · subst hnm
    rcases Nat.eq_zero_or_pos n with h | h
    · subst h
      obtain rfl : ts = [] := List.eq_nil_of_length_eq_zero hl.symm
      obtain rfl : us = [] := List.eq_nil_of_length_eq_zero hk.symm
      refine (Tryd.slices_Equal_string_empty A B c 0 d w (by omega)).mono ?_
      rintro e w' ⟨rfl, rfl⟩
      exact ⟨rfl, Bel.refl _⟩
    · obtain ⟨b1, o1, rfl, _, hc1⟩ := ha h
      obtain ⟨b2, o2, rfl, _, hc2⟩ := hb h
      refine (Tryd.slices_Equal_string b1 o1 n c b2 o2 n d (bas ts) (bas us) w (by rw [bas_len]; omega) (by rw [bas_len]; omega) (by omega) (by omega) (RS.cells_ hc1) (RS.cells_ hc2)).mono ?_
      rintro e w' ⟨rfl, q, rfl⟩
      rw [List.take_of_length_le (by rw [bas_len]; omega), List.take_of_length_le (by rw [bas_len]; omega)]
      refine ⟨?_, (Bel.refl _).drewN _⟩
      rw [decide_eq_decide.2 bas_inj]
  · refine (Tryd.slices_Equal_string_lens A B n c m d w hnm).mono ?_
    rintro e w' ⟨rfl, rfl⟩
    exact ⟨by rw [decide_eq_false]; rintro rfl; exact hnm (hl.trans hk.symm), Bel.refl _⟩

theorem rq_one (w : World) (v m c r : Int) : RQ (w.alloc (.cells #[.int .i64 v, .int .u8 m, .int .u8 c, .int .i64 r] 50)) (w.heap.size + 1) (some ⟨w.heap.size, 0, none⟩) 1 [⟨v, m, c, r⟩] :=
  ⟨rfl, fun _ => ⟨_, 0, rfl, by omega, fun k x hx => by
    match k, hx with
    | 0, hx => simp at hx; subst hx; simp⟩⟩
theorem rs_one (w : World) (s : List UInt8) (t : TypeId) : RS (w.alloc (.cells #[.string ⟨s.toArray⟩] t)) (w.heap.size + 1) (some ⟨w.heap.size, 0, none⟩) 1 [s] :=
  ⟨rfl, fun _ => ⟨_, 0, rfl, by omega, fun k x hx => by
    match k, hx with
    | 0, hx => simp at hx; subst hx; simp⟩⟩
theorem rs_two (w : World) (s u : List UInt8) (t : TypeId) : RS (w.alloc (.cells #[.string ⟨s.toArray⟩, .string ⟨u.toArray⟩] t)) (w.heap.size + 1) (some ⟨w.heap.size, 0, none⟩) 2 [s, u] :=
  ⟨rfl, fun _ => ⟨_, 0, rfl, by omega, fun k x hx => by
    match k, hx with
    | 0, hx => simp at hx; subst hx; simp
    | 1, hx => simp at hx; subst hx; simp⟩⟩

set_option maxRecDepth 100000 in
set_option maxHeartbeats 2000000 in
theorem works3_any (w : World) (ht : Tabs w) : Calls Tryd.prog 30 #[] w fun e w' => e = .returned (.bool true) ∧ Bel w w' := by
  have HT := Lib.hid ht
  clear ht
  have HBl : Hid (∀ (W : World) (A : Option Addr) (n k : Nat), Tabs W → RI .i64 W W.heap.size A n [3] → Calls Tryd.prog 29 #[.agg #[.bool false, .int .u8 2, .slice A n k], .int .u8 1, .agg #[.int .i64 5, .int .u8 0]] W (GivesS [[63, 32, 60, 61, 32, 109, 53], [109, 51, 32, 60, 61, 32, 109, 53]] 0 W)) := Lib.hid fun W A n k hT hr => by
    have h := below_any false 2 A n k [3] 1 5 0 W hr (by have := hr.len; simp at this; omega) (by decide +kernel) (by decide +kernel) (by decide +kernel) hT
    have e : (fitsL false 2 [3] 1 5 0).map Iq.text = [[63, 32, 60, 61, 32, 109, 53], [109, 51, 32, 60, 61, 32, 109, 53]] := by decide +kernel
    rw [e] at h; exact h
  have HHo : Hid (∀ (W : World) (A G : Option Addr) (cap gc : Nat), RQ W W.heap.size A 1 [⟨0, 0, 2, 1⟩] → RI .u8 W W.heap.size G 2 [3, 1] → Calls Tryd.prog 33 #[.slice A 1 cap, .slice G 2 gc] W (TellsN 0 0 W)) := Lib.hid fun W A G cap gc hq hg => by
    have h := holds_any A 1 cap [⟨0, 0, 2, 1⟩] G 2 gc [3, 1] W hq (by omega) hg (by omega)
    have e1 : holdsN [3, 1] [⟨0, 0, 2, 1⟩] = 0 := by decide +kernel
    have e2 : holdsE [3, 1] [⟨0, 0, 2, 1⟩] = 0 := by decide +kernel
    rw [e1, e2] at h; exact h
  have HEq : Hid (∀ (W : World) (A B : Option Addr) (n c d : Nat), RS W W.heap.size A n [[63, 32, 60, 61, 32, 109, 53], [109, 51, 32, 60, 61, 32, 109, 53]] → RS W W.heap.size B 2 [[63, 32, 60, 61, 32, 109, 53], [109, 51, 32, 60, 61, 32, 109, 53]] → Calls Tryd.prog 31 #[.slice A n c, .slice B 2 d] W fun e w' => e = .returned (.bool true) ∧ Bel W w') := Lib.hid fun W A B n c d ha hb => by
    have h := sequal_any A B n 2 c d _ _ W ha hb (by have := ha.1; simp at this; omega) (by omega)
    simpa using h
  go_enter Tryd.func30, Tryd.ntmps30
  go_wp2_with fail
  refine (HBl.out _ _ _ _ (HT.out.bel ((Bel.refl _).alloc _)) ((ri_one w 3).lt (by simp))).mono ?_
  rintro e w1 ⟨A1, n1, k1, rfl, hs1, hb1⟩
  have HS1 := Lib.hid hs1
  have HB1 : Hid (Bel w w1) := Lib.hid (((Bel.refl w).alloc _).on hb1)
  clear hs1 hb1
  go_wp2_with fail
  refine (HHo.out _ _ _ _ _ (by simpa using (((rq_one w1 0 0 2 1).more (by simp)).bel ((Bel.refl (w1.alloc (.cells #[.int .i64 0, .int .u8 0, .int .u8 2, .int .i64 1] 50))).alloc (.cells #[.int .u8 3, .int .u8 1] 22)))) (by simpa using ri_two (w1.alloc (.cells #[.int .i64 0, .int .u8 0, .int .u8 2, .int .i64 1] 50)) 3 1)).mono ?_
  rintro e w2 ⟨rfl, hb2⟩
  have HB2 : Hid (Bel w1 w2) := Lib.hid ((((Bel.refl w1).alloc _).alloc _).on hb2)
  clear hb2
  go_wp2_with fail
  refine (HEq.out _ _ _ _ _ _ ((HS1.out.bel HB2.out).bel ((Bel.refl _).alloc _)) (by simpa using rs_two w2 [63, 32, 60, 61, 32, 109, 53] [109, 51, 32, 60, 61, 32, 109, 53] 9)).mono ?_
  rintro e w3 ⟨rfl, hb3⟩
  have HB3 : Hid (Bel w2 w3) := Lib.hid (((Bel.refl w2).alloc _).on hb3)
  clear hb3
  go_wp2_with fail
  go_ret
  exact ⟨rfl, HB1.out.on (HB2.out.on HB3.out)⟩
end Go.Proofs.YteegoecanbonoaaDoor.Mu
