/-
  Blanks and remarks are gone past: the reader's own walk.
-/
import Derived.Test.YteockaolmobmeaaGreatDoorLexAt
import Derived.Deep.LoopGhost
namespace Go.Proofs.YteockaolmobmeaaGreatDoor.Mu
open Go.RowKit Go.Shelf
set_option maxRecDepth 100000

/-- What next and more and at tell of a reader at place k. -/
theorem kind_cs {x : Int} {L : List Int} {k : Nat} (h : L[k]? = some x) : kdL (L.drop k) = kdN x := by rw [drop_at' h]; rfl
theorem kd_bl (x : Int) : (kdN x = 1) ↔ isBl x = true := by
  unfold kdN
  constructor
  · intro h
    by_cases hb : isBl x = true
    · exact hb
    · rw [if_neg hb] at h
      repeat' split at h
      all_goals (exact absurd h (by decide))
  · intro h; rw [if_pos h]
theorem dropW_no {p : Int → Bool} {x : Int} {l : List Int} (h : p x = false) : (x :: l).dropWhile p = x :: l := by rw [List.dropWhile_cons, if_neg (by simp [h])]
theorem dropW_yes {p : Int → Bool} {x : Int} {l : List Int} (h : p x = true) : (x :: l).dropWhile p = l.dropWhile p := by rw [List.dropWhile_cons, if_pos h]
theorem skip_rem {L : List Int} {k : Nat} (h1 : L[k]? = some 45) (h2 : L[k + 1]? = some 45) : skipL (L.drop k) = skipL ((L.drop k).dropWhile fun x => decide (x ≠ 10)) := by
  rw [drop_at' h1, drop_at' h2, skipL_rem, dropW_yes (p := fun x => decide (x ≠ 10)) (x := 45) (l := 45 :: _) (by decide)]
theorem skip_stop {L : List Int} {k : Nat} {x : Int} (h1 : L[k]? = some x) (hb : isBl x = false) (h2 : ¬ (x = 45 ∧ L[k + 1]? = some 45)) : skipL (L.drop k) = L.drop k := by
  rw [drop_at' h1, skipL_stop hb (by rw [List.head?_drop]; exact h2)]
set_option maxHeartbeats 4000000 in
theorem skip_any {g : Nat} {A : Option Addr} {n c : Nat} {xs : List Pn} {i : Nat} (w : World) (h : Rdr w g A n c xs i) :
    Calls Tryz.prog 33 #[.pointer (some ⟨g, 0, none⟩)] w fun e w' => e = .returned (.tuple #[]) ∧ ∃ k, i ≤ k ∧ Rdr w' g A n c xs k ∧ skipL ((xs.map Pn.r).drop i) = (xs.map Pn.r).drop k ∧ Kr g w w' := by
  obtain ⟨L, hL⟩ : ∃ L, L = xs.map Pn.r := ⟨_, rfl⟩
  have HM : Hid (∀ (w : World) (k : Nat), Rdr w g A n c xs k → Calls Tryz.prog 34 #[.pointer (some ⟨g, 0, none⟩)] w fun e w' => e = .returned (.bool (decide (k < n))) ∧ Bel w w') := Lib.hid fun w k hk => more_any w hk
  have HK : Hid (∀ (w : World) (k : Nat), Rdr w g A n c xs k → Calls Tryz.prog 49 #[.pointer (some ⟨g, 0, none⟩)] w fun e w' => e = .returned (.int .u8 (kdL (L.drop k))) ∧ Bel w w') := Lib.hid fun w k hk => by rw [hL]; exact kind_any w hk
  have HR : Hid (∀ (w : World) (k : Nat), Rdr w g A n c xs k → Calls Tryz.prog 50 #[.pointer (some ⟨g, 0, none⟩), .string ⟨#[45, 45]⟩] w fun e w' => e = .returned (.bool (decide (L[k]? = some 45 ∧ L[k + 1]? = some 45))) ∧ Bel w w') := Lib.hid fun w k hk => by
    have := at_any [45, 45] (by decide) (by decide) w hk
    rw [← hL, show asc [45, 45] = [45, 45] by rfl, pre2] at this
    exact this
  have HN : Hid (∀ (w : World) (k : Nat), Rdr w g A n c xs k → Calls Tryz.prog 50 #[.pointer (some ⟨g, 0, none⟩), .string ⟨#[10]⟩] w fun e w' => e = .returned (.bool (decide (L[k]? = some 10))) ∧ Bel w w') := Lib.hid fun w k hk => by
    have := at_any [10] (by decide) (by decide) w hk
    rw [← hL, show asc [10] = [10] by rfl, pre1] at this
    exact this
  have hln : L.length = n := by rw [hL, List.length_map, ← h.len]
  have HLN := Lib.hid hln
  have hsm := h.small
  have hle := h.le
  rw [← hL]
  have H := Lib.hid h
  have HL := Lib.hid hL
  clear h hL hln
  go_enter Tryz.func33, Tryz.ntmps33
  go_wp2
  go_loopg [] (n + 1) (fun gk wr => ∃ k : Nat, Hid (i ≤ k ∧ k ≤ n ∧ n - k < gk) ∧ Hid (Rdr wr g A n c xs k) ∧ Hid (skipL (L.drop i) = skipL (L.drop k)) ∧ Hid (Kr g w wr))
  case atStart => exact ⟨i, Lib.hid ⟨Nat.le_refl _, hle, by omega⟩, H, Lib.hid rfl, Lib.hid (Kr.refl g w)⟩
  case round =>
    obtain ⟨k, HB, HD, HS, HKr⟩ := hrel
    obtain ⟨gok, hgok⟩ : ∃ x, x = gk := ⟨_, rfl⟩
    subst hgok
    by_cases hlt : k < n
    · have hm : ∀ w', Rdr w' g A n c xs k → Calls Tryz.prog 34 #[.pointer (some ⟨g, 0, none⟩)] w' fun e w2 => e = .returned (.bool true) ∧ Bel w' w2 := fun w' hd => by have := HM.out w' k hd; rwa [decide_eq_true hlt] at this
      have HMT := Lib.hid hm
      obtain ⟨x, hx⟩ : ∃ x, L[k]? = some x := ⟨_, List.getElem?_eq_getElem (by rw [HLN.out]; exact hlt)⟩
      have HX := Lib.hid hx
      have hk : ∀ w', Rdr w' g A n c xs k → Calls Tryz.prog 49 #[.pointer (some ⟨g, 0, none⟩)] w' fun e w2 => e = .returned (.int .u8 (kdN x)) ∧ Bel w' w2 := fun w' hd => by have := HK.out w' k hd; rwa [kind_cs hx] at this
      have HKX := Lib.hid hk
      clear hm hx hk
      go_wp2_with fail
      refine (HMT.out _ HD.out).mono ?_
      rintro e w1 ⟨rfl, hb⟩
      have HD1 := Lib.hid (HD.out.bel hb)
      have HK1 := Lib.hid (HKr.out.bel hb)
      clear hb
      go_wp2_with fail
      refine (HKX.out _ HD1.out).mono ?_
      rintro e w2 ⟨rfl, hb⟩
      have HD2 := Lib.hid (HD1.out.bel hb)
      have HK2 := Lib.hid (HK1.out.bel hb)
      clear hb
      by_cases hbl : isBl x = true
      · rw [(kd_bl x).2 hbl]
        obtain ⟨c0, c1, f0, f1⟩ := HD2.out.cells
        go_wp2
        have hss : skipL (L.drop i) = skipL (L.drop (k + 1)) := by rw [HS.out, drop_at' HX.out, skipL_bl hbl]
        have HSS := Lib.hid hss
        clear hss
        have hbb := HB.out
        go_roundg (gok - 1)
        case rel => exact ⟨k + 1, Lib.hid ⟨by omega, by omega, by omega⟩, Lib.hid (HD2.out.set_ (k := k + 1) (by omega)), HSS, Lib.hid (HK2.out.set_ _ _)⟩
        case measure => omega
      · have hnk : kdN x ≠ 1 := fun e => hbl ((kd_bl x).1 e)
        by_cases hrm : L[k]? = some 45 ∧ L[k + 1]? = some 45
        · have hr : ∀ w', Rdr w' g A n c xs k → Calls Tryz.prog 50 #[.pointer (some ⟨g, 0, none⟩), .string ⟨#[45, 45]⟩] w' fun e w2 => e = .returned (.bool true) ∧ Bel w' w2 := fun w' hd => by have := HR.out w' k hd; rwa [decide_eq_true hrm] at this
          have HRT := Lib.hid hr
          have HRM := Lib.hid hrm
          clear hr hrm
          go_wp2_with fail
          refine (HRT.out _ HD2.out).mono ?_
          rintro e w3 ⟨rfl, hb⟩
          have HD3 := Lib.hid (HD2.out.bel hb)
          have HK3 := Lib.hid (HK2.out.bel hb)
          clear hb
          go_wp2_with fail
          go_loopg [] (n + 1) (fun gj wr => ∃ j : Nat, Hid (k ≤ j ∧ j ≤ n ∧ n - j < gj) ∧ Hid (Rdr wr g A n c xs j) ∧ Hid ((L.drop k).dropWhile (fun x => decide (x ≠ 10)) = (L.drop j).dropWhile (fun x => decide (x ≠ 10))) ∧ Hid (Kr g w wr) ∧ Hid (j = k → L[k]? = some 45))
          case atStart => exact ⟨k, Lib.hid ⟨Nat.le_refl _, by omega, by omega⟩, HD3, Lib.hid rfl, HK3, Lib.hid fun _ => HRM.out.1⟩
          case round =>
            obtain ⟨j, HJ, HE, HW, HKj, H45⟩ := hrel
            by_cases hjn : j < n
            · have hm : ∀ w', Rdr w' g A n c xs j → Calls Tryz.prog 34 #[.pointer (some ⟨g, 0, none⟩)] w' fun e w2 => e = .returned (.bool true) ∧ Bel w' w2 := fun w' hd => by have := HM.out w' j hd; rwa [decide_eq_true hjn] at this
              have HMJ := Lib.hid hm
              obtain ⟨y, hy⟩ : ∃ y, L[j]? = some y := ⟨_, List.getElem?_eq_getElem (by rw [HLN.out]; exact hjn)⟩
              have HY := Lib.hid hy
              clear hm hy
              go_wp2_with fail
              refine (HMJ.out _ HE.out).mono ?_
              rintro e w4 ⟨rfl, hb⟩
              have HE1 := Lib.hid (HE.out.bel hb)
              have HKj1 := Lib.hid (HKj.out.bel hb)
              clear hb
              by_cases hy10 : y = 10
              · have hn : ∀ w', Rdr w' g A n c xs j → Calls Tryz.prog 50 #[.pointer (some ⟨g, 0, none⟩), .string ⟨#[10]⟩] w' fun e w2 => e = .returned (.bool true) ∧ Bel w' w2 := fun w' hd => by have := HN.out w' j hd; rwa [HY.out, hy10, decide_eq_true rfl] at this
                have HNJ := Lib.hid hn
                clear hn
                go_wp2_with fail
                refine (HNJ.out _ HE1.out).mono ?_
                rintro e w5 ⟨rfl, hb⟩
                have HE2 := Lib.hid (HE1.out.bel hb)
                have HKj2 := Lib.hid (HKj1.out.bel hb)
                clear hb
                have hnk2 : j ≠ k := fun e => by have := H45.out e; rw [← e, HY.out, hy10] at this; exact absurd this (by decide)
                have hss : skipL (L.drop i) = skipL (L.drop j) := by
                  rw [HS.out, skip_rem HRM.out.1 HRM.out.2, HW.out, drop_at' HY.out, hy10, dropW_no (by decide)]
                have HSS := Lib.hid hss
                clear hss
                go_wp2
                have hbb := HB.out
                have hjj := HJ.out
                go_roundg (gok - 1)
                case rel => exact ⟨j, Lib.hid ⟨by omega, by omega, by omega⟩, HE2, HSS, HKj2⟩
                case measure => omega
              · have hn : ∀ w', Rdr w' g A n c xs j → Calls Tryz.prog 50 #[.pointer (some ⟨g, 0, none⟩), .string ⟨#[10]⟩] w' fun e w2 => e = .returned (.bool false) ∧ Bel w' w2 := fun w' hd => by have := HN.out w' j hd; rwa [HY.out, decide_eq_false (by simpa using hy10)] at this
                have HNJ := Lib.hid hn
                clear hn
                go_wp2_with fail
                refine (HNJ.out _ HE1.out).mono ?_
                rintro e w5 ⟨rfl, hb⟩
                have HE2 := Lib.hid (HE1.out.bel hb)
                have HKj2 := Lib.hid (HKj1.out.bel hb)
                clear hb
                obtain ⟨c0, c1, f0, f1⟩ := HE2.out.cells
                have hww : (L.drop k).dropWhile (fun x => decide (x ≠ 10)) = (L.drop (j + 1)).dropWhile (fun x => decide (x ≠ 10)) := by
                  rw [HW.out, drop_at' HY.out, dropW_yes (by simpa using hy10)]
                have HWW := Lib.hid hww
                clear hww
                go_wp2
                have hjj := HJ.out
                go_roundg (gk - 1)
                case rel => exact ⟨j + 1, Lib.hid ⟨by omega, by omega, by omega⟩, Lib.hid (HE2.out.set_ (k := j + 1) (by omega)), HWW, Lib.hid (HKj2.out.set_ _ _), Lib.hid fun e => by omega⟩
                case measure => omega
            · have hjn2 : j = n := by have := HJ.out; omega
              subst hjn2
              have hm : ∀ w', Rdr w' g A j c xs j → Calls Tryz.prog 34 #[.pointer (some ⟨g, 0, none⟩)] w' fun e w2 => e = .returned (.bool false) ∧ Bel w' w2 := fun w' hd => by have := HM.out w' j hd; rwa [decide_eq_false hjn] at this
              have HMJ := Lib.hid hm
              clear hm
              go_wp2_with fail
              refine (HMJ.out _ HE.out).mono ?_
              rintro e w4 ⟨rfl, hb⟩
              have HE1 := Lib.hid (HE.out.bel hb)
              have HKj1 := Lib.hid (HKj.out.bel hb)
              clear hb
              have hss : skipL (L.drop i) = skipL (L.drop j) := by
                rw [HS.out, skip_rem HRM.out.1 HRM.out.2, HW.out, List.drop_eq_nil_of_le (by rw [HLN.out]; exact Nat.le_refl _)]; rfl
              have HSS := Lib.hid hss
              clear hss
              go_wp2
              have hbb := HB.out
              have hjj := HJ.out
              go_roundg (gok - 1)
              case rel => exact ⟨j, Lib.hid ⟨by omega, by omega, by omega⟩, HE1, HSS, HKj1⟩
              case measure => omega
        · have hr : ∀ w', Rdr w' g A n c xs k → Calls Tryz.prog 50 #[.pointer (some ⟨g, 0, none⟩), .string ⟨#[45, 45]⟩] w' fun e w2 => e = .returned (.bool false) ∧ Bel w' w2 := fun w' hd => by have := HR.out w' k hd; rwa [decide_eq_false hrm] at this
          have HRT := Lib.hid hr
          have hst : skipL (L.drop k) = L.drop k := skip_stop HX.out (by simpa using hbl) fun h => hrm ⟨by rw [HX.out, h.1], h.2⟩
          have HST := Lib.hid hst
          clear hr hrm hst
          go_wp2_with fail
          refine (HRT.out _ HD2.out).mono ?_
          rintro e w3 ⟨rfl, hb⟩
          have HD3 := Lib.hid (HD2.out.bel hb)
          have HK3 := Lib.hid (HK2.out.bel hb)
          clear hb
          go_wp2
          refine bodyPost_ret (v := .tuple #[]) (by simp [results, Tryz.results33, go_sem]) rfl ⟨rfl, k, by have := HB.out; omega, HD3.out, by rw [HS.out, HST.out], HK3.out⟩
    · have hkn : k = n := by have := HB.out; omega
      subst hkn
      have hm : ∀ w', Rdr w' g A k c xs k → Calls Tryz.prog 34 #[.pointer (some ⟨g, 0, none⟩)] w' fun e w2 => e = .returned (.bool false) ∧ Bel w' w2 := fun w' hd => by have := HM.out w' k hd; rwa [decide_eq_false hlt] at this
      have HMT := Lib.hid hm
      clear hm
      go_wp2_with fail
      refine (HMT.out _ HD.out).mono ?_
      rintro e w1 ⟨rfl, hb⟩
      have HD1 := Lib.hid (HD.out.bel hb)
      have HK1 := Lib.hid (HKr.out.bel hb)
      clear hb
      go_wp2
      go_end0
      refine ⟨rfl, k, by have := HB.out; omega, HD1.out, ?_, HK1.out⟩
      rw [HS.out, List.drop_eq_nil_of_le (by rw [HLN.out]; exact Nat.le_refl _), skipL_nil]
end Go.Proofs.YteockaolmobmeaaGreatDoor.Mu

