/-
  Layer 2's own function Text, walked.
-/
import Derived.Test.YteegoecanbonoaaDoorTextMath
import Derived.Test.YteegoecanbonoaaDoorMultText
import Derived.Test.YteegoecanbonoaaDoorShelf
import Derived.Test.YteegoecanbonoaaDoorOne
import Derived.BigGuardPart
namespace Go.Proofs.YteegoecanbonoaaDoor.Mu
open Go.ChangeShapes Go.WideShapes Go.ChangeAt Go.RowKit

theorem info_str : (Tryd.prog.info? 9).map (fun i => (i.zero, i.size, i.bytes)) = some (some (.string ⟨#[]⟩), 1, 16) := by kernel_rfl
theorem bel_grow (w : World) (k : Nat) (os : Array Obj) : Bel w (Go.Sort.grow (w.drewN k) os) :=
  ⟨rfl, rfl, rfl, by rw [Go.Sort.size_grow]; exact Nat.le_add_right _ _, fun i hi => Go.Sort.heap_grow_old (w.drewN k) os hi⟩
theorem itoa_any (n : Int) (h0 : 0 ≤ n) (h1 : n < 1048576) (w : World) (ht : Tabs w) :
    Calls Tryd.prog 49 #[.int .i64 n] w fun e w' => e = .returned (.string ⟨(Lib.itoa n).toArray⟩) ∧ Bel w w' :=
  (Tryd.strconv_Itoa n (by omega) (by omega) w ht.2).mono fun e w' ⟨he, k, os, hw⟩ => ⟨he, by rw [hw]; exact bel_grow w k os⟩
theorem mtext_any (c : Int) (h0 : 0 ≤ c) (h1 : c ≤ 255) (w : World) (ht : Tabs w) : Calls Tryd.prog 48 #[.int .u8 c] w fun e w' => e = .returned (.string ⟨(mulS c).toArray⟩) ∧ w = w' := by
  have h := text_any c h0 h1 w ht.1
  have e : textS c = ⟨(mulS c).toArray⟩ := by unfold textS mulS; (repeat' split) <;> rfl
  rw [e] at h; exact h

theorem textT_yes (c : Int) (A : Option Addr) (n k : Nat) (w : World) : Calls Tryd.prog 17 #[.agg #[.bool true, .int .u8 c, .slice A n k]] w fun e w' => e = .returned (.string ⟨#[48]⟩) ∧ Bel w w' := by
  go_enter Tryd.func17, Tryd.ntmps17
  go_wp2
  go_ret
  exact ⟨rfl, (Bel.refl _).alloc _⟩

set_option maxRecDepth 100000 in
set_option maxHeartbeats 2000000 in
theorem textT_a (c : Int) (A : Option Addr) (n k : Nat) (l : List Int) (w : World) (hr : RI .i64 w w.heap.size A n l) (hmax : n ≤ 1000000) (hv : ∀ x ∈ l, 0 ≤ x ∧ x < 1048576) (hc0 : 0 ≤ c) (hc1 : c ≤ 255) (ht : Tabs w) (hn : 0 < n) (h1 : mulS c = [49]) :
    Calls Tryd.prog 17 #[.agg #[.bool false, .int .u8 c, .slice A n k]] w fun e w' => e = .returned (.string ⟨(textT false c l).toArray⟩) ∧ Bel w w' := by
  obtain ⟨b, off, rfl, _, _⟩ := hr.at_ hn
  have HT := Lib.hid (ht.bel ((Bel.refl _).alloc (.cells #[.bool false, .int .u8 c, .slice (some ⟨b, off, none⟩) n k] 25)))
  have HC : Hid (∀ W, Tabs W → Calls Tryd.prog 48 #[.int .u8 c] W fun e w' => e = .returned (.string ⟨#[49]⟩) ∧ W = w') := Lib.hid fun W hW => by
    have h := mtext_any c hc0 hc1 W hW; rw [h1] at h; exact h
  have HC1 : Hid (∀ W, Tabs W → Calls Tryd.prog 48 #[.int .u8 1] W fun e w' => e = .returned (.string ⟨#[49]⟩) ∧ W = w') := Lib.hid fun W hW => by
    have h := mtext_any 1 (by omega) (by omega) W hW; exact h
  have HR := Lib.hid (hr.alloc (.cells #[.bool false, .int .u8 c, .slice (some ⟨b, off, none⟩) n k] 25))
  have HL := Lib.hid hr.len
  have HV := Lib.hid hv
  have HP : Hid (textT false c l = Lib.join (l.map varS) [124]) := Lib.hid (by
    unfold textT partsS
    have : ¬ l.length = 0 := by rw [← hr.len]; omega
    simp [this, h1])
  have HLen : Hid ((Lib.join (l.map varS) [124]).length ≤ 140737488355328) := Lib.hid (by
    have h := textT_len (c := c) hv (by rw [← hr.len]; exact hmax)
    unfold partsS at h
    have : ¬ l.length = 0 := by rw [← hr.len]; omega
    simpa [this, h1] using h)
  have hz : ((n : Int) == 0) = false := by rw [beq_eq_false_iff_ne]; omega
  have hz2 : ((n : Int) != 0) = true := by simp; omega
  clear hr hv ht h1
  go_enter Tryd.func17, Tryd.ntmps17
  go_wp2_with (first | (go_at_call 48; with_reducible refine (HC.out _ (by exact HT.out)).mono ?_; rintro e w1 ⟨rfl, rfl⟩) | (go_at_call 48; refine (HC1.out _ (by exact HT.out)).mono ?_; rintro e w1 ⟨rfl, rfl⟩))
  go_loopw [3, 28] (fun sv si wr => ∃ (j mv cv : Nat) (V : Option Addr), j ≤ n ∧ si = .int .i64 j ∧ sv = .slice V mv cv ∧ Hid (wr.ownsRow (w.heap.size + 1) 9 1 (.slice V mv cv) mv (strs ((l.take j).map varS))) ∧ Bel (w.alloc (.cells #[.bool false, .int .u8 c, .slice (some ⟨b, off, none⟩) n k] 25)) wr) (fun _ i _ => n - (intOf i).toNat)
  case atStart => exact ⟨0, 0, 0, none, Nat.zero_le _, rfl, rfl, Lib.hid (World.ownsRow_nil _ _ _ _), Bel.refl _⟩
  case round =>
    obtain ⟨j, mv, cv, V, hj, rfl, rfl, HOW, hB⟩ := hrel
    by_cases hlt : j < n
    · obtain ⟨b', off', eA, hb, hc⟩ := (HR.out.bel hB).at_ (by omega)
      obtain ⟨rfl, rfl⟩ : b' = b ∧ off' = off := by injection eA with e; injection e with e1 e2; exact ⟨e1.symm, e2.symm⟩
      obtain ⟨v, hvk⟩ : ∃ v, l[j]? = some v := ⟨_, List.getElem?_eq_getElem (by rw [← HL.out]; exact hlt)⟩
      have hcell := hc j hlt
      rw [hvk] at hcell
      simp only [Option.getD_some] at hcell
      have HVB := Lib.hid (HV.out v (List.mem_of_getElem? hvk))
      have HK := Lib.hid hvk
      have HB := Lib.hid hB
      have HTW := Lib.hid (HT.out.bel hB)
      have HHB : Hid ((w.heap.size + 1) ≤ wr.heap.size) := Lib.hid (by have := hB.size; simpa using this)
      have HMV : Hid (mv ≤ n + 1) := Lib.hid (by
        have h1 := HOW.out.1
        rw [strs_len] at h1
        simp at h1
        omega)
      have hil : (Lib.itoa v).length ≤ 21 := Lib.itoa_length_le v (by have := HVB.out; omega) (by have := HVB.out; omega)
      clear hc hvk hB eA
      go_wp2_with (first | (go_at_call 49; refine (itoa_any v HVB.out.1 HVB.out.2 _ (by exact HTW.out)).mono ?_; rintro e w4 ⟨rfl, hb4⟩; (have HB4 := Lib.hid hb4); clear hb4) | (at_builtin; refine wpList_append_one rfl _ _ 44 rfl (w.heap.size + 1) 9 _ 1 16 Tryd.underlying44 info_str rfl (by decide) (by decide) V mv cv _ rfl ((owns_bel HOW.out HB4.out).alloc _) w4.heap.size [.string ⟨(varS v).toArray⟩] rfl rfl (one_cell_at _ _ _) (by simp [Value.oneCell']) (by have := HMV.out; omega) (by have := HHB.out; have := HB4.out.size; simp; omega) ?_; intro V3 cv3 w5 hown5 hg5))
      go_roundw
      case rel => exact ⟨j + 1, _, cv3, V3, by omega, by go_num, rfl, Lib.hid (by rw [take_snoc_ HK.out]; simpa [strs_snoc, strs, List.append_assoc] using hown5), Below.grown ((HB.out.on HB4.out).alloc _) hg5 (by have := HHB.out; have := HB4.out.size; simp; omega) (fun g hg => by have := (HOW.out.lt g hg).1; simpa using this)⟩
      case measure => simp [intOf]; omega
    · obtain rfl : j = n := by omega
      have e : l.take j = l := by rw [HL.out]; exact List.take_length
      rw [e] at HOW
      obtain ⟨g, rfl, hgl, hmv, hmc, hcs⟩ := strs_reads HOW.out (by intro h; simp at h; rw [h] at HL; have := HL.out; simp at this; omega)
      have HJ := (Tryd.strings_Join g 0 cv _ ⟨#[124]⟩ wr hcs hgl (by simp; have := HL.out; omega) (by rw [List.length_map, ← hmv]; exact hmc) (by
        have h := HLen.out
        simpa [List.map_map, Function.comp_def] using h))
      rw [List.length_map, ← hmv] at HJ
      have HM := Lib.hid hmv
      have HJ := Lib.hid HJ
      clear hcs hmc e hmv
      go_wp2_with (go_at_call 50; refine HJ.out.mono ?_; rintro e w6 ⟨rfl, hb6⟩; (have HB6 := Lib.hid hb6); clear hb6)
      go_ret
      exact ⟨by rw [HP.out]; simp [Function.comp_def], ((Bel.refl w).alloc _).on (hB.on HB6.out)⟩
set_option maxRecDepth 100000 in
set_option maxHeartbeats 2000000 in
theorem textT_b1 (c : Int) (A : Option Addr) (n k : Nat) (l : List Int) (w : World) (hr : RI .i64 w w.heap.size A n l) (hmax : n ≤ 1000000) (hv : ∀ x ∈ l, 0 ≤ x ∧ x < 1048576) (hc0 : 0 ≤ c) (hc1 : c ≤ 255) (ht : Tabs w) (hn : 0 < n) (h1 : mulS c = [63]) :
    Calls Tryd.prog 17 #[.agg #[.bool false, .int .u8 c, .slice A n k]] w fun e w' => e = .returned (.string ⟨(textT false c l).toArray⟩) ∧ Bel w w' := by
  obtain ⟨b, off, rfl, _, _⟩ := hr.at_ hn
  have HT := Lib.hid (ht.bel ((Bel.refl _).alloc (.cells #[.bool false, .int .u8 c, .slice (some ⟨b, off, none⟩) n k] 25)))
  have HC : Hid (∀ W, Tabs W → Calls Tryd.prog 48 #[.int .u8 c] W fun e w' => e = .returned (.string ⟨#[63]⟩) ∧ W = w') := Lib.hid fun W hW => by
    have h := mtext_any c hc0 hc1 W hW; rw [h1] at h; exact h
  have HC1 : Hid (∀ W, Tabs W → Calls Tryd.prog 48 #[.int .u8 1] W fun e w' => e = .returned (.string ⟨#[49]⟩) ∧ W = w') := Lib.hid fun W hW => by
    have h := mtext_any 1 (by omega) (by omega) W hW; exact h
  have HR := Lib.hid (hr.alloc (.cells #[.bool false, .int .u8 c, .slice (some ⟨b, off, none⟩) n k] 25))
  have HL := Lib.hid hr.len
  have HV := Lib.hid hv
  have HP : Hid (textT false c l = Lib.join ([63] :: l.map varS) [124]) := Lib.hid (by
    unfold textT partsS
    have : ¬ l.length = 0 := by rw [← hr.len]; omega
    simp [this, h1])
  have HLen : Hid ((Lib.join ([63] :: l.map varS) [124]).length ≤ 140737488355328) := Lib.hid (by
    have h := textT_len (c := c) hv (by rw [← hr.len]; exact hmax)
    unfold partsS at h
    have : ¬ l.length = 0 := by rw [← hr.len]; omega
    simpa [this, h1] using h)
  have hz : ((n : Int) == 0) = false := by rw [beq_eq_false_iff_ne]; omega
  have hz2 : ((n : Int) != 0) = true := by simp; omega
  clear hr hv ht h1
  go_enter Tryd.func17, Tryd.ntmps17
  go_wp2_with (first | (at_builtin; refine wpList_append_one rfl _ _ 44 rfl (w.heap.size + 1) 9 _ 1 16 Tryd.underlying44 info_str rfl (by decide) (by decide) none 0 0 [] rfl (World.ownsRow_nil _ _ _ _) (w.heap.size + 1) [.string ⟨#[63]⟩] rfl rfl (by simp) (by simp [Value.oneCell']) (by omega) (by simp) ?_; intro V0 cv0 w2 hown0 hg0; (have hb0 : Bel (w.alloc (.cells #[.bool false, .int .u8 c, .slice (some ⟨b, off, none⟩) n k] 25)) w2 := Below.grown ((Bel.refl _).alloc _) hg0 (by simp) (fun g hg => by cases hg)); (obtain ⟨b0, b1, b2, _, _, _⟩ := cells3 (hb0.blk (blk1 w _))); (have HB0 := Lib.hid hb0); (have HO0 := Lib.hid hown0); clear hb0 hown0 hg0) | (go_at_call 48; with_reducible refine (HC.out _ (by exact HT.out)).mono ?_; rintro e w1 ⟨rfl, rfl⟩) | (go_at_call 48; refine (HC1.out _ (by exact HT.out)).mono ?_; rintro e w1 ⟨rfl, rfl⟩))
  clear b0 b1 b2
  go_loopw [3, 28] (fun sv si wr => ∃ (j mv cv : Nat) (V : Option Addr), j ≤ n ∧ si = .int .i64 j ∧ sv = .slice V mv cv ∧ Hid (wr.ownsRow (w.heap.size + 1) 9 1 (.slice V mv cv) mv (strs ([63] :: (l.take j).map varS))) ∧ Bel (w.alloc (.cells #[.bool false, .int .u8 c, .slice (some ⟨b, off, none⟩) n k] 25)) wr) (fun _ i _ => n - (intOf i).toNat)
  case atStart => exact ⟨0, 1, cv0, V0, Nat.zero_le _, rfl, rfl, Lib.hid (by have h := HO0.out; simp only [Nat.zero_add, List.nil_append] at h; exact h), HB0.out⟩
  case round =>
    obtain ⟨j, mv, cv, V, hj, rfl, rfl, HOW, hB⟩ := hrel
    by_cases hlt : j < n
    · obtain ⟨b', off', eA, hb, hc⟩ := (HR.out.bel hB).at_ (by omega)
      obtain ⟨rfl, rfl⟩ : b' = b ∧ off' = off := by injection eA with e; injection e with e1 e2; exact ⟨e1.symm, e2.symm⟩
      obtain ⟨v, hvk⟩ : ∃ v, l[j]? = some v := ⟨_, List.getElem?_eq_getElem (by rw [← HL.out]; exact hlt)⟩
      have hcell := hc j hlt
      rw [hvk] at hcell
      simp only [Option.getD_some] at hcell
      have HVB := Lib.hid (HV.out v (List.mem_of_getElem? hvk))
      have HK := Lib.hid hvk
      have HB := Lib.hid hB
      have HTW := Lib.hid (HT.out.bel hB)
      have HHB : Hid ((w.heap.size + 1) ≤ wr.heap.size) := Lib.hid (by have := hB.size; simpa using this)
      have HMV : Hid (mv ≤ n + 1) := Lib.hid (by
        have h1 := HOW.out.1
        rw [strs_len] at h1
        simp at h1
        omega)
      have hil : (Lib.itoa v).length ≤ 21 := Lib.itoa_length_le v (by have := HVB.out; omega) (by have := HVB.out; omega)
      clear hc hvk hB eA
      go_wp2_with (first | (go_at_call 49; refine (itoa_any v HVB.out.1 HVB.out.2 _ (by exact HTW.out)).mono ?_; rintro e w4 ⟨rfl, hb4⟩; (have HB4 := Lib.hid hb4); clear hb4) | (at_builtin; refine wpList_append_one rfl _ _ 44 rfl (w.heap.size + 1) 9 _ 1 16 Tryd.underlying44 info_str rfl (by decide) (by decide) V mv cv _ rfl ((owns_bel HOW.out HB4.out).alloc _) w4.heap.size [.string ⟨(varS v).toArray⟩] rfl rfl (one_cell_at _ _ _) (by simp [Value.oneCell']) (by have := HMV.out; omega) (by have := HHB.out; have := HB4.out.size; simp; omega) ?_; intro V3 cv3 w5 hown5 hg5))
      go_roundw
      case rel => exact ⟨j + 1, _, cv3, V3, by omega, by go_num, rfl, Lib.hid (by rw [take_snoc_ HK.out]; simpa [strs_snoc, strs, List.append_assoc] using hown5), Below.grown ((HB.out.on HB4.out).alloc _) hg5 (by have := HHB.out; have := HB4.out.size; simp; omega) (fun g hg => by have := (HOW.out.lt g hg).1; simpa using this)⟩
      case measure => simp [intOf]; omega
    · obtain rfl : j = n := by omega
      have e : l.take j = l := by rw [HL.out]; exact List.take_length
      rw [e] at HOW
      obtain ⟨g, rfl, hgl, hmv, hmc, hcs⟩ := strs_reads HOW.out (by simp)
      have HJ := (Tryd.strings_Join g 0 cv _ ⟨#[124]⟩ wr hcs hgl (by simp; have := HL.out; omega) (by rw [List.length_map, ← hmv]; exact hmc) (by
        have h := HLen.out
        simpa [List.map_map, Function.comp_def] using h))
      rw [List.length_map, ← hmv] at HJ
      have HM := Lib.hid hmv
      have HJ := Lib.hid HJ
      clear hcs hmc e hmv
      go_wp2_with (go_at_call 50; refine HJ.out.mono ?_; rintro e w6 ⟨rfl, hb6⟩; (have HB6 := Lib.hid hb6); clear hb6)
      go_ret
      exact ⟨by rw [HP.out]; simp [Function.comp_def], ((Bel.refl w).alloc _).on (hB.on HB6.out)⟩
set_option maxRecDepth 100000 in
set_option maxHeartbeats 2000000 in
theorem textT_b2 (c : Int) (A : Option Addr) (n k : Nat) (l : List Int) (w : World) (hr : RI .i64 w w.heap.size A n l) (hmax : n ≤ 1000000) (hv : ∀ x ∈ l, 0 ≤ x ∧ x < 1048576) (hc0 : 0 ≤ c) (hc1 : c ≤ 255) (ht : Tabs w) (hn : 0 < n) (h1 : mulS c = [42]) :
    Calls Tryd.prog 17 #[.agg #[.bool false, .int .u8 c, .slice A n k]] w fun e w' => e = .returned (.string ⟨(textT false c l).toArray⟩) ∧ Bel w w' := by
  obtain ⟨b, off, rfl, _, _⟩ := hr.at_ hn
  have HT := Lib.hid (ht.bel ((Bel.refl _).alloc (.cells #[.bool false, .int .u8 c, .slice (some ⟨b, off, none⟩) n k] 25)))
  have HC : Hid (∀ W, Tabs W → Calls Tryd.prog 48 #[.int .u8 c] W fun e w' => e = .returned (.string ⟨#[42]⟩) ∧ W = w') := Lib.hid fun W hW => by
    have h := mtext_any c hc0 hc1 W hW; rw [h1] at h; exact h
  have HC1 : Hid (∀ W, Tabs W → Calls Tryd.prog 48 #[.int .u8 1] W fun e w' => e = .returned (.string ⟨#[49]⟩) ∧ W = w') := Lib.hid fun W hW => by
    have h := mtext_any 1 (by omega) (by omega) W hW; exact h
  have HR := Lib.hid (hr.alloc (.cells #[.bool false, .int .u8 c, .slice (some ⟨b, off, none⟩) n k] 25))
  have HL := Lib.hid hr.len
  have HV := Lib.hid hv
  have HP : Hid (textT false c l = Lib.join ([42] :: l.map varS) [124]) := Lib.hid (by
    unfold textT partsS
    have : ¬ l.length = 0 := by rw [← hr.len]; omega
    simp [this, h1])
  have HLen : Hid ((Lib.join ([42] :: l.map varS) [124]).length ≤ 140737488355328) := Lib.hid (by
    have h := textT_len (c := c) hv (by rw [← hr.len]; exact hmax)
    unfold partsS at h
    have : ¬ l.length = 0 := by rw [← hr.len]; omega
    simpa [this, h1] using h)
  have hz : ((n : Int) == 0) = false := by rw [beq_eq_false_iff_ne]; omega
  have hz2 : ((n : Int) != 0) = true := by simp; omega
  clear hr hv ht h1
  go_enter Tryd.func17, Tryd.ntmps17
  go_wp2_with (first | (at_builtin; refine wpList_append_one rfl _ _ 44 rfl (w.heap.size + 1) 9 _ 1 16 Tryd.underlying44 info_str rfl (by decide) (by decide) none 0 0 [] rfl (World.ownsRow_nil _ _ _ _) (w.heap.size + 1) [.string ⟨#[42]⟩] rfl rfl (by simp) (by simp [Value.oneCell']) (by omega) (by simp) ?_; intro V0 cv0 w2 hown0 hg0; (have hb0 : Bel (w.alloc (.cells #[.bool false, .int .u8 c, .slice (some ⟨b, off, none⟩) n k] 25)) w2 := Below.grown ((Bel.refl _).alloc _) hg0 (by simp) (fun g hg => by cases hg)); (obtain ⟨b0, b1, b2, _, _, _⟩ := cells3 (hb0.blk (blk1 w _))); (have HB0 := Lib.hid hb0); (have HO0 := Lib.hid hown0); clear hb0 hown0 hg0) | (go_at_call 48; with_reducible refine (HC.out _ (by exact HT.out)).mono ?_; rintro e w1 ⟨rfl, rfl⟩) | (go_at_call 48; refine (HC1.out _ (by exact HT.out)).mono ?_; rintro e w1 ⟨rfl, rfl⟩))
  clear b0 b1 b2
  go_loopw [3, 28] (fun sv si wr => ∃ (j mv cv : Nat) (V : Option Addr), j ≤ n ∧ si = .int .i64 j ∧ sv = .slice V mv cv ∧ Hid (wr.ownsRow (w.heap.size + 1) 9 1 (.slice V mv cv) mv (strs ([42] :: (l.take j).map varS))) ∧ Bel (w.alloc (.cells #[.bool false, .int .u8 c, .slice (some ⟨b, off, none⟩) n k] 25)) wr) (fun _ i _ => n - (intOf i).toNat)
  case atStart => exact ⟨0, 1, cv0, V0, Nat.zero_le _, rfl, rfl, Lib.hid (by have h := HO0.out; simp only [Nat.zero_add, List.nil_append] at h; exact h), HB0.out⟩
  case round =>
    obtain ⟨j, mv, cv, V, hj, rfl, rfl, HOW, hB⟩ := hrel
    by_cases hlt : j < n
    · obtain ⟨b', off', eA, hb, hc⟩ := (HR.out.bel hB).at_ (by omega)
      obtain ⟨rfl, rfl⟩ : b' = b ∧ off' = off := by injection eA with e; injection e with e1 e2; exact ⟨e1.symm, e2.symm⟩
      obtain ⟨v, hvk⟩ : ∃ v, l[j]? = some v := ⟨_, List.getElem?_eq_getElem (by rw [← HL.out]; exact hlt)⟩
      have hcell := hc j hlt
      rw [hvk] at hcell
      simp only [Option.getD_some] at hcell
      have HVB := Lib.hid (HV.out v (List.mem_of_getElem? hvk))
      have HK := Lib.hid hvk
      have HB := Lib.hid hB
      have HTW := Lib.hid (HT.out.bel hB)
      have HHB : Hid ((w.heap.size + 1) ≤ wr.heap.size) := Lib.hid (by have := hB.size; simpa using this)
      have HMV : Hid (mv ≤ n + 1) := Lib.hid (by
        have h1 := HOW.out.1
        rw [strs_len] at h1
        simp at h1
        omega)
      have hil : (Lib.itoa v).length ≤ 21 := Lib.itoa_length_le v (by have := HVB.out; omega) (by have := HVB.out; omega)
      clear hc hvk hB eA
      go_wp2_with (first | (go_at_call 49; refine (itoa_any v HVB.out.1 HVB.out.2 _ (by exact HTW.out)).mono ?_; rintro e w4 ⟨rfl, hb4⟩; (have HB4 := Lib.hid hb4); clear hb4) | (at_builtin; refine wpList_append_one rfl _ _ 44 rfl (w.heap.size + 1) 9 _ 1 16 Tryd.underlying44 info_str rfl (by decide) (by decide) V mv cv _ rfl ((owns_bel HOW.out HB4.out).alloc _) w4.heap.size [.string ⟨(varS v).toArray⟩] rfl rfl (one_cell_at _ _ _) (by simp [Value.oneCell']) (by have := HMV.out; omega) (by have := HHB.out; have := HB4.out.size; simp; omega) ?_; intro V3 cv3 w5 hown5 hg5))
      go_roundw
      case rel => exact ⟨j + 1, _, cv3, V3, by omega, by go_num, rfl, Lib.hid (by rw [take_snoc_ HK.out]; simpa [strs_snoc, strs, List.append_assoc] using hown5), Below.grown ((HB.out.on HB4.out).alloc _) hg5 (by have := HHB.out; have := HB4.out.size; simp; omega) (fun g hg => by have := (HOW.out.lt g hg).1; simpa using this)⟩
      case measure => simp [intOf]; omega
    · obtain rfl : j = n := by omega
      have e : l.take j = l := by rw [HL.out]; exact List.take_length
      rw [e] at HOW
      obtain ⟨g, rfl, hgl, hmv, hmc, hcs⟩ := strs_reads HOW.out (by simp)
      have HJ := (Tryd.strings_Join g 0 cv _ ⟨#[124]⟩ wr hcs hgl (by simp; have := HL.out; omega) (by rw [List.length_map, ← hmv]; exact hmc) (by
        have h := HLen.out
        simpa [List.map_map, Function.comp_def] using h))
      rw [List.length_map, ← hmv] at HJ
      have HM := Lib.hid hmv
      have HJ := Lib.hid HJ
      clear hcs hmc e hmv
      go_wp2_with (go_at_call 50; refine HJ.out.mono ?_; rintro e w6 ⟨rfl, hb6⟩; (have HB6 := Lib.hid hb6); clear hb6)
      go_ret
      exact ⟨by rw [HP.out]; simp [Function.comp_def], ((Bel.refl w).alloc _).on (hB.on HB6.out)⟩
set_option maxRecDepth 100000 in
set_option maxHeartbeats 2000000 in
theorem textT_c0 (c : Int) (A : Option Addr) (n k : Nat) (l : List Int) (w : World) (hr : RI .i64 w w.heap.size A n l) (hmax : n ≤ 1000000) (hv : ∀ x ∈ l, 0 ≤ x ∧ x < 1048576) (hc0 : 0 ≤ c) (hc1 : c ≤ 255) (ht : Tabs w) (hn : n = 0) (h1 : mulS c = [49]) :
    Calls Tryd.prog 17 #[.agg #[.bool false, .int .u8 c, .slice A n k]] w fun e w' => e = .returned (.string ⟨(textT false c l).toArray⟩) ∧ Bel w w' := by
  have HT := Lib.hid (ht.bel ((Bel.refl _).alloc (.cells #[.bool false, .int .u8 c, .slice A n k] 25)))
  have HC : Hid (∀ W, Tabs W → Calls Tryd.prog 48 #[.int .u8 c] W fun e w' => e = .returned (.string ⟨#[49]⟩) ∧ W = w') := Lib.hid fun W hW => by
    have h := mtext_any c hc0 hc1 W hW; rw [h1] at h; exact h
  have HC1 : Hid (∀ W, Tabs W → Calls Tryd.prog 48 #[.int .u8 1] W fun e w' => e = .returned (.string ⟨#[49]⟩) ∧ W = w') := Lib.hid fun W hW => by
    have h := mtext_any 1 (by omega) (by omega) W hW; exact h
  have HL := Lib.hid hr.len
  have HP : Hid (textT false c l = Lib.join ([49] :: l.map varS) [124]) := Lib.hid (by
    unfold textT partsS
    have : l.length = 0 := by rw [← hr.len]; omega
    simp [this, h1])
  have HLen : Hid ((Lib.join ([49] :: l.map varS) [124]).length ≤ 140737488355328) := Lib.hid (by
    have h := textT_len (c := c) hv (by rw [← hr.len]; exact hmax)
    unfold partsS at h
    have : l.length = 0 := by rw [← hr.len]; omega
    simpa [this, h1] using h)
  have hz : ((n : Int) == 0) = true := by rw [beq_iff_eq]; omega
  have hz2 : ((n : Int) != 0) = false := by simp; omega
  have HN := Lib.hid hn
  clear hn
  clear hr hv ht h1
  go_enter Tryd.func17, Tryd.ntmps17
  go_wp2_with (first | (at_builtin; refine wpList_append_one rfl _ _ 44 rfl (w.heap.size + 1) 9 _ 1 16 Tryd.underlying44 info_str rfl (by decide) (by decide) none 0 0 [] rfl (World.ownsRow_nil _ _ _ _) (w.heap.size + 1) [.string ⟨#[49]⟩] rfl rfl (by simp) (by simp [Value.oneCell']) (by omega) (by simp) ?_; intro V0 cv0 w2 hown0 hg0; (have hb0 : Bel (w.alloc (.cells #[.bool false, .int .u8 c, .slice A n k] 25)) w2 := Below.grown ((Bel.refl _).alloc _) hg0 (by simp) (fun g hg => by cases hg)); (obtain ⟨b0, b1, b2, _, _, _⟩ := cells3 (hb0.blk (blk1 w _))); (have HB0 := Lib.hid hb0); (have HO0 := Lib.hid hown0); clear hb0 hown0 hg0) | (go_at_call 48; with_reducible refine (HC.out _ (by exact HT.out)).mono ?_; rintro e w1 ⟨rfl, rfl⟩) | (go_at_call 48; refine (HC1.out _ (by exact HT.out)).mono ?_; rintro e w1 ⟨rfl, rfl⟩))
  clear b0 b1 b2
  go_loopw [3, 28] (fun sv si wr => ∃ (j mv cv : Nat) (V : Option Addr), j ≤ n ∧ si = .int .i64 j ∧ sv = .slice V mv cv ∧ Hid (wr.ownsRow (w.heap.size + 1) 9 1 (.slice V mv cv) mv (strs ([49] :: (l.take j).map varS))) ∧ Bel (w.alloc (.cells #[.bool false, .int .u8 c, .slice A n k] 25)) wr) (fun _ i _ => n - (intOf i).toNat)
  case atStart => exact ⟨0, 1, cv0, V0, Nat.zero_le _, rfl, rfl, Lib.hid (by have h := HO0.out; simp only [Nat.zero_add, List.nil_append] at h; exact h), HB0.out⟩
  case round =>
    obtain ⟨j, mv, cv, V, hj, rfl, rfl, HOW, hB⟩ := hrel
    by_cases hlt : j < n
    · exact absurd hlt (by have := HN.out; omega)
    · obtain rfl : j = n := by omega
      have e : l.take j = l := by rw [HL.out]; exact List.take_length
      rw [e] at HOW
      obtain ⟨g, rfl, hgl, hmv, hmc, hcs⟩ := strs_reads HOW.out (by simp)
      have HJ := (Tryd.strings_Join g 0 cv _ ⟨#[124]⟩ wr hcs hgl (by simp; have := HL.out; omega) (by rw [List.length_map, ← hmv]; exact hmc) (by
        have h := HLen.out
        simpa [List.map_map, Function.comp_def] using h))
      rw [List.length_map, ← hmv] at HJ
      have HM := Lib.hid hmv
      have HJ := Lib.hid HJ
      clear hcs hmc e hmv
      go_wp2_with (go_at_call 50; refine HJ.out.mono ?_; rintro e w6 ⟨rfl, hb6⟩; (have HB6 := Lib.hid hb6); clear hb6)
      go_ret
      exact ⟨by rw [HP.out]; simp [Function.comp_def], ((Bel.refl w).alloc _).on (hB.on HB6.out)⟩
set_option maxRecDepth 100000 in
set_option maxHeartbeats 2000000 in
theorem textT_c1 (c : Int) (A : Option Addr) (n k : Nat) (l : List Int) (w : World) (hr : RI .i64 w w.heap.size A n l) (hmax : n ≤ 1000000) (hv : ∀ x ∈ l, 0 ≤ x ∧ x < 1048576) (hc0 : 0 ≤ c) (hc1 : c ≤ 255) (ht : Tabs w) (hn : n = 0) (h1 : mulS c = [63]) :
    Calls Tryd.prog 17 #[.agg #[.bool false, .int .u8 c, .slice A n k]] w fun e w' => e = .returned (.string ⟨(textT false c l).toArray⟩) ∧ Bel w w' := by
  have HT := Lib.hid (ht.bel ((Bel.refl _).alloc (.cells #[.bool false, .int .u8 c, .slice A n k] 25)))
  have HC : Hid (∀ W, Tabs W → Calls Tryd.prog 48 #[.int .u8 c] W fun e w' => e = .returned (.string ⟨#[63]⟩) ∧ W = w') := Lib.hid fun W hW => by
    have h := mtext_any c hc0 hc1 W hW; rw [h1] at h; exact h
  have HC1 : Hid (∀ W, Tabs W → Calls Tryd.prog 48 #[.int .u8 1] W fun e w' => e = .returned (.string ⟨#[49]⟩) ∧ W = w') := Lib.hid fun W hW => by
    have h := mtext_any 1 (by omega) (by omega) W hW; exact h
  have HL := Lib.hid hr.len
  have HP : Hid (textT false c l = Lib.join ([63] :: l.map varS) [124]) := Lib.hid (by
    unfold textT partsS
    have : l.length = 0 := by rw [← hr.len]; omega
    simp [this, h1])
  have HLen : Hid ((Lib.join ([63] :: l.map varS) [124]).length ≤ 140737488355328) := Lib.hid (by
    have h := textT_len (c := c) hv (by rw [← hr.len]; exact hmax)
    unfold partsS at h
    have : l.length = 0 := by rw [← hr.len]; omega
    simpa [this, h1] using h)
  have hz : ((n : Int) == 0) = true := by rw [beq_iff_eq]; omega
  have hz2 : ((n : Int) != 0) = false := by simp; omega
  have HN := Lib.hid hn
  clear hn
  clear hr hv ht h1
  go_enter Tryd.func17, Tryd.ntmps17
  go_wp2_with (first | (at_builtin; refine wpList_append_one rfl _ _ 44 rfl (w.heap.size + 1) 9 _ 1 16 Tryd.underlying44 info_str rfl (by decide) (by decide) none 0 0 [] rfl (World.ownsRow_nil _ _ _ _) (w.heap.size + 1) [.string ⟨#[63]⟩] rfl rfl (by simp) (by simp [Value.oneCell']) (by omega) (by simp) ?_; intro V0 cv0 w2 hown0 hg0; (have hb0 : Bel (w.alloc (.cells #[.bool false, .int .u8 c, .slice A n k] 25)) w2 := Below.grown ((Bel.refl _).alloc _) hg0 (by simp) (fun g hg => by cases hg)); (obtain ⟨b0, b1, b2, _, _, _⟩ := cells3 (hb0.blk (blk1 w _))); (have HB0 := Lib.hid hb0); (have HO0 := Lib.hid hown0); clear hb0 hown0 hg0) | (go_at_call 48; with_reducible refine (HC.out _ (by exact HT.out)).mono ?_; rintro e w1 ⟨rfl, rfl⟩) | (go_at_call 48; refine (HC1.out _ (by exact HT.out)).mono ?_; rintro e w1 ⟨rfl, rfl⟩))
  clear b0 b1 b2
  go_loopw [3, 28] (fun sv si wr => ∃ (j mv cv : Nat) (V : Option Addr), j ≤ n ∧ si = .int .i64 j ∧ sv = .slice V mv cv ∧ Hid (wr.ownsRow (w.heap.size + 1) 9 1 (.slice V mv cv) mv (strs ([63] :: (l.take j).map varS))) ∧ Bel (w.alloc (.cells #[.bool false, .int .u8 c, .slice A n k] 25)) wr) (fun _ i _ => n - (intOf i).toNat)
  case atStart => exact ⟨0, 1, cv0, V0, Nat.zero_le _, rfl, rfl, Lib.hid (by have h := HO0.out; simp only [Nat.zero_add, List.nil_append] at h; exact h), HB0.out⟩
  case round =>
    obtain ⟨j, mv, cv, V, hj, rfl, rfl, HOW, hB⟩ := hrel
    by_cases hlt : j < n
    · exact absurd hlt (by have := HN.out; omega)
    · obtain rfl : j = n := by omega
      have e : l.take j = l := by rw [HL.out]; exact List.take_length
      rw [e] at HOW
      obtain ⟨g, rfl, hgl, hmv, hmc, hcs⟩ := strs_reads HOW.out (by simp)
      have HJ := (Tryd.strings_Join g 0 cv _ ⟨#[124]⟩ wr hcs hgl (by simp; have := HL.out; omega) (by rw [List.length_map, ← hmv]; exact hmc) (by
        have h := HLen.out
        simpa [List.map_map, Function.comp_def] using h))
      rw [List.length_map, ← hmv] at HJ
      have HM := Lib.hid hmv
      have HJ := Lib.hid HJ
      clear hcs hmc e hmv
      go_wp2_with (go_at_call 50; refine HJ.out.mono ?_; rintro e w6 ⟨rfl, hb6⟩; (have HB6 := Lib.hid hb6); clear hb6)
      go_ret
      exact ⟨by rw [HP.out]; simp [Function.comp_def], ((Bel.refl w).alloc _).on (hB.on HB6.out)⟩
set_option maxRecDepth 100000 in
set_option maxHeartbeats 2000000 in
theorem textT_c2 (c : Int) (A : Option Addr) (n k : Nat) (l : List Int) (w : World) (hr : RI .i64 w w.heap.size A n l) (hmax : n ≤ 1000000) (hv : ∀ x ∈ l, 0 ≤ x ∧ x < 1048576) (hc0 : 0 ≤ c) (hc1 : c ≤ 255) (ht : Tabs w) (hn : n = 0) (h1 : mulS c = [42]) :
    Calls Tryd.prog 17 #[.agg #[.bool false, .int .u8 c, .slice A n k]] w fun e w' => e = .returned (.string ⟨(textT false c l).toArray⟩) ∧ Bel w w' := by
  have HT := Lib.hid (ht.bel ((Bel.refl _).alloc (.cells #[.bool false, .int .u8 c, .slice A n k] 25)))
  have HC : Hid (∀ W, Tabs W → Calls Tryd.prog 48 #[.int .u8 c] W fun e w' => e = .returned (.string ⟨#[42]⟩) ∧ W = w') := Lib.hid fun W hW => by
    have h := mtext_any c hc0 hc1 W hW; rw [h1] at h; exact h
  have HC1 : Hid (∀ W, Tabs W → Calls Tryd.prog 48 #[.int .u8 1] W fun e w' => e = .returned (.string ⟨#[49]⟩) ∧ W = w') := Lib.hid fun W hW => by
    have h := mtext_any 1 (by omega) (by omega) W hW; exact h
  have HL := Lib.hid hr.len
  have HP : Hid (textT false c l = Lib.join ([42] :: l.map varS) [124]) := Lib.hid (by
    unfold textT partsS
    have : l.length = 0 := by rw [← hr.len]; omega
    simp [this, h1])
  have HLen : Hid ((Lib.join ([42] :: l.map varS) [124]).length ≤ 140737488355328) := Lib.hid (by
    have h := textT_len (c := c) hv (by rw [← hr.len]; exact hmax)
    unfold partsS at h
    have : l.length = 0 := by rw [← hr.len]; omega
    simpa [this, h1] using h)
  have hz : ((n : Int) == 0) = true := by rw [beq_iff_eq]; omega
  have hz2 : ((n : Int) != 0) = false := by simp; omega
  have HN := Lib.hid hn
  clear hn
  clear hr hv ht h1
  go_enter Tryd.func17, Tryd.ntmps17
  go_wp2_with (first | (at_builtin; refine wpList_append_one rfl _ _ 44 rfl (w.heap.size + 1) 9 _ 1 16 Tryd.underlying44 info_str rfl (by decide) (by decide) none 0 0 [] rfl (World.ownsRow_nil _ _ _ _) (w.heap.size + 1) [.string ⟨#[42]⟩] rfl rfl (by simp) (by simp [Value.oneCell']) (by omega) (by simp) ?_; intro V0 cv0 w2 hown0 hg0; (have hb0 : Bel (w.alloc (.cells #[.bool false, .int .u8 c, .slice A n k] 25)) w2 := Below.grown ((Bel.refl _).alloc _) hg0 (by simp) (fun g hg => by cases hg)); (obtain ⟨b0, b1, b2, _, _, _⟩ := cells3 (hb0.blk (blk1 w _))); (have HB0 := Lib.hid hb0); (have HO0 := Lib.hid hown0); clear hb0 hown0 hg0) | (go_at_call 48; with_reducible refine (HC.out _ (by exact HT.out)).mono ?_; rintro e w1 ⟨rfl, rfl⟩) | (go_at_call 48; refine (HC1.out _ (by exact HT.out)).mono ?_; rintro e w1 ⟨rfl, rfl⟩))
  clear b0 b1 b2
  go_loopw [3, 28] (fun sv si wr => ∃ (j mv cv : Nat) (V : Option Addr), j ≤ n ∧ si = .int .i64 j ∧ sv = .slice V mv cv ∧ Hid (wr.ownsRow (w.heap.size + 1) 9 1 (.slice V mv cv) mv (strs ([42] :: (l.take j).map varS))) ∧ Bel (w.alloc (.cells #[.bool false, .int .u8 c, .slice A n k] 25)) wr) (fun _ i _ => n - (intOf i).toNat)
  case atStart => exact ⟨0, 1, cv0, V0, Nat.zero_le _, rfl, rfl, Lib.hid (by have h := HO0.out; simp only [Nat.zero_add, List.nil_append] at h; exact h), HB0.out⟩
  case round =>
    obtain ⟨j, mv, cv, V, hj, rfl, rfl, HOW, hB⟩ := hrel
    by_cases hlt : j < n
    · exact absurd hlt (by have := HN.out; omega)
    · obtain rfl : j = n := by omega
      have e : l.take j = l := by rw [HL.out]; exact List.take_length
      rw [e] at HOW
      obtain ⟨g, rfl, hgl, hmv, hmc, hcs⟩ := strs_reads HOW.out (by simp)
      have HJ := (Tryd.strings_Join g 0 cv _ ⟨#[124]⟩ wr hcs hgl (by simp; have := HL.out; omega) (by rw [List.length_map, ← hmv]; exact hmc) (by
        have h := HLen.out
        simpa [List.map_map, Function.comp_def] using h))
      rw [List.length_map, ← hmv] at HJ
      have HM := Lib.hid hmv
      have HJ := Lib.hid HJ
      clear hcs hmc e hmv
      go_wp2_with (go_at_call 50; refine HJ.out.mono ?_; rintro e w6 ⟨rfl, hb6⟩; (have HB6 := Lib.hid hb6); clear hb6)
      go_ret
      exact ⟨by rw [HP.out]; simp [Function.comp_def], ((Bel.refl w).alloc _).on (hB.on HB6.out)⟩

theorem textT_any (nv : Bool) (c : Int) (A : Option Addr) (n k : Nat) (l : List Int) (w : World) (hr : RI .i64 w w.heap.size A n l) (hmax : n ≤ 1000000) (hv : ∀ x ∈ l, 0 ≤ x ∧ x < 1048576) (hc0 : 0 ≤ c) (hc1 : c ≤ 255) (ht : Tabs w) :
    Calls Tryd.prog 17 #[.agg #[.bool nv, .int .u8 c, .slice A n k]] w fun e w' => e = .returned (.string ⟨(textT nv c l).toArray⟩) ∧ Bel w w' := by
  cases nv
  · have hm : mulS c = [49] ∨ mulS c = [63] ∨ mulS c = [42] := by
      unfold mulS; split
      · exact .inl rfl
      · split
        · exact .inr (.inl rfl)
        · exact .inr (.inr rfl)
    rcases Nat.eq_zero_or_pos n with hn | hn
    · rcases hm with h | h | h
      · exact textT_c0 c A n k l w hr hmax hv hc0 hc1 ht hn h
      · exact textT_c1 c A n k l w hr hmax hv hc0 hc1 ht hn h
      · exact textT_c2 c A n k l w hr hmax hv hc0 hc1 ht hn h
    · rcases hm with h | h | h
      · exact textT_a c A n k l w hr hmax hv hc0 hc1 ht hn h
      · exact textT_b1 c A n k l w hr hmax hv hc0 hc1 ht hn h
      · exact textT_b2 c A n k l w hr hmax hv hc0 hc1 ht hn h
  · exact textT_yes c A n k w
end Go.Proofs.YteegoecanbonoaaDoor.Mu
