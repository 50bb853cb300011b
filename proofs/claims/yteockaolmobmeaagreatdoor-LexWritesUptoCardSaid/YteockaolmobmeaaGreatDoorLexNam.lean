/-
  Name of the document, walked.
-/
import Derived.Test.YteockaolmobmeaaGreatDoorLexDig
import Derived.Test.YteockaolmobmeaaGreatDoorLxTok
namespace Go.Proofs.YteockaolmobmeaaGreatDoor.Mu
open Go.RowKit Go.Shelf
set_option maxRecDepth 100000

theorem gr_not_sm {c : Int} (h : isGr c = true) : isSm c = false := by
  unfold isGr at h; unfold isSm
  simp only [decide_eq_true_eq] at h
  exact decide_eq_false (by omega)
theorem w32_u8 (u : UInt8) : wrap32 (u.toNat : Int) = (u.toNat : Int) := IntWalk.wrap32_in _ (by have := u.toNat_lt; omega)
theorem ba_eta (S : ByteArray) : (⟨S.data.toList.toArray⟩ : ByteArray) = S := by simp
theorem asc_head (S : ByteArray) (h : 0 < S.size) : (asc S.data.toList).headD 0 = ((S[0]'h).toNat : Int) := by
  obtain ⟨⟨l⟩⟩ := S
  match l, h with
  | u :: t, h => rfl
theorem ba_mem {S : ByteArray} {u : UInt8} (h : u ∈ S.data.toList) : ∃ (j : Nat) (hj : j < S.size), S[j]'hj = u := by
  obtain ⟨j, hj, e⟩ := List.getElem_of_mem h
  exact ⟨j, by rw [Array.length_toList] at hj; exact hj, e⟩
theorem ba_in {S : ByteArray} {j : Nat} (hj : j < S.size) : S[j]'hj ∈ S.data.toList := by
  have : j < S.data.toList.length := by rw [Array.length_toList]; exact hj
  have h2 := List.getElem_mem this
  exact h2
open Classical in
set_option maxHeartbeats 8000000 in
theorem rnameS_any (S : ByteArray) (big : Bool) (w : World) : Calls Tryz.prog 44 #[.string S, .bool big] w fun e w' => e = .returned (.bool (decide (nameP S.data.toList big))) ∧ Bel w w' := by
  obtain ⟨ans, hans⟩ : ∃ ans, ans = decide (nameP S.data.toList big) := ⟨_, rfl⟩
  rw [← hans]
  have hlen : S.data.toList.length = S.size := Array.length_toList
  by_cases hz : S.size = 0
  · have : ans = false := by rw [hans]; exact decide_eq_false fun h => h.1 (List.eq_nil_of_length_eq_zero (by omega))
    subst this
    have d1 : ((S.size : Int) == 0) = true := by rw [hz]; rfl
    go_enter Tryz.func44, Tryz.ntmps44
    go_wp2
    go_ret
    exact ⟨rfl, Bel.refl w⟩
  have hS0 : 0 < S.size := by omega
  have d1 : ((S.size : Int) == 0) = false := beq_eq_false_iff_ne.2 (by omega)
  by_cases h24 : 24 < S.size
  · have : ans = false := by rw [hans]; exact decide_eq_false fun h => by have := h.2.1; omega
    subst this
    have d2 : decide ((24 : Int) < (S.size : Int)) = true := decide_eq_true (by omega)
    go_enter Tryz.func44, Tryz.ntmps44
    go_wp2
    go_ret
    exact ⟨rfl, Bel.refl w⟩
  have d2 : decide ((24 : Int) < (S.size : Int)) = false := decide_eq_false (by omega)
  have hw32 := w32_u8 (S[0]'hS0)
  have hhd := asc_head S hS0
  have HAN : Hid (ans = decide ((∀ u ∈ S.data.toList, isW (u.toNat : Int) = true) ∧ (if big = true then isGr ((S[0]'hS0).toNat : Int) = true else isSm ((S[0]'hS0).toNat : Int) = true) ∧ S.data.toList ∉ wordsB ∧ S.data.toList ∉ primsB)) := Lib.hid (by
    rw [hans]
    refine decide_eq_decide.2 ?_
    unfold nameP
    rw [hhd]
    constructor
    · rintro ⟨-, -, h⟩; exact h
    · intro h; exact ⟨fun e => by rw [e] at hlen; have : (0 : Nat) = S.size := hlen; omega, by omega, h⟩)
  have HHAS : Hid (∀ (A : Option Addr) (n c : Nat) (ts : List (List UInt8)) (W : World), n ≤ 1000000 → RL W W.heap.size A n ts → Calls Tryz.prog 46 #[.slice A n c, .string S] W fun e w' => e = .returned (.bool (decide (S.data.toList ∈ ts))) ∧ W = w') := Lib.hid fun A n c ts W hn hr => by
    have := rhas_any (c := c) S.data.toList hn W hr
    rw [ba_eta] at this
    exact this
  clear hhd hans
  have hcase : (big = false ∧ isGr ((S[0]'hS0).toNat : Int) = true) ∨ (big = true ∧ isGr ((S[0]'hS0).toNat : Int) = false) ∨ (big = false ∧ isGr ((S[0]'hS0).toNat : Int) = false ∧ isSm ((S[0]'hS0).toNat : Int) = false) ∨ (big = true ∧ isGr ((S[0]'hS0).toNat : Int) = true) ∨ (big = false ∧ isGr ((S[0]'hS0).toNat : Int) = false ∧ isSm ((S[0]'hS0).toNat : Int) = true) := by
    cases big <;> cases isGr ((S[0]'hS0).toNat : Int) <;> cases isSm ((S[0]'hS0).toNat : Int) <;> decide
  rcases hcase with ⟨rfl, hg⟩ | ⟨rfl, hg⟩ | ⟨rfl, hg, hs⟩ | ⟨rfl, hg⟩ | ⟨rfl, hg, hs⟩
  · have : ans = false := by rw [HAN.out]; exact decide_eq_false fun h => by have := h.2.1; rw [if_neg (by decide), gr_not_sm hg] at this; cases this
    subst this
    have HG : Hid (∀ W, Calls Tryz.prog 65 #[.int .i32 (wrap32 ((S[0]'hS0).toNat : Int))] W fun e w' => e = .returned (.bool true) ∧ W = w') := Lib.hid fun W => by rw [w32_u8, ← hg]; exact rgreat_any _ W
    clear hw32
    go_enter Tryz.func44, Tryz.ntmps44
    go_wp2_with fail
    refine (HG.out _).mono ?_
    rintro e w' ⟨rfl, rfl⟩
    go_wp2
    go_ret
    exact ⟨rfl, Bel.refl w⟩
  · have : ans = false := by rw [HAN.out]; exact decide_eq_false fun h => by have := h.2.1; rw [if_pos rfl, hg] at this; cases this
    subst this
    have HG : Hid (∀ W, Calls Tryz.prog 65 #[.int .i32 (wrap32 ((S[0]'hS0).toNat : Int))] W fun e w' => e = .returned (.bool false) ∧ W = w') := Lib.hid fun W => by rw [w32_u8, ← hg]; exact rgreat_any _ W
    clear hw32
    go_enter Tryz.func44, Tryz.ntmps44
    go_wp2_with fail
    refine (HG.out _).mono ?_
    rintro e w' ⟨rfl, rfl⟩
    go_wp2
    go_ret
    exact ⟨rfl, Bel.refl w⟩
  · have : ans = false := by rw [HAN.out]; exact decide_eq_false fun h => by have := h.2.1; rw [if_neg (by decide), hs] at this; cases this
    subst this
    have HG : Hid (∀ W, Calls Tryz.prog 65 #[.int .i32 (wrap32 ((S[0]'hS0).toNat : Int))] W fun e w' => e = .returned (.bool false) ∧ W = w') := Lib.hid fun W => by rw [w32_u8, ← hg]; exact rgreat_any _ W
    have HS : Hid (∀ W, Calls Tryz.prog 66 #[.int .i32 (wrap32 ((S[0]'hS0).toNat : Int))] W fun e w' => e = .returned (.bool false) ∧ W = w') := Lib.hid fun W => by rw [w32_u8, ← hs]; exact rsmall_any _ W
    clear hw32
    go_enter Tryz.func44, Tryz.ntmps44
    go_wp2_with fail
    refine (HG.out _).mono ?_
    rintro e w' ⟨rfl, rfl⟩
    go_wp2_with fail
    refine (HS.out _).mono ?_
    rintro e w' ⟨rfl, rfl⟩
    go_wp2
    go_ret
    exact ⟨rfl, Bel.refl w⟩
  · have HG : Hid (∀ W, Calls Tryz.prog 65 #[.int .i32 (wrap32 ((S[0]'hS0).toNat : Int))] W fun e w' => e = .returned (.bool true) ∧ W = w') := Lib.hid fun W => by rw [w32_u8, ← hg]; exact rgreat_any _ W
    clear hw32
    go_enter Tryz.func44, Tryz.ntmps44
    go_wp2_with fail
    refine (HG.out _).mono ?_
    rintro e w' ⟨rfl, rfl⟩
    have HA2 : Hid (ans = decide ((∀ u ∈ S.data.toList, isW (u.toNat : Int) = true) ∧ S.data.toList ∉ wordsB ∧ S.data.toList ∉ primsB)) := Lib.hid (by rw [HAN.out]; simp only [hg, if_true, true_and])
    go_wp2_with fail
    go_loopg [5] (S.size + 1) (fun gk v wr => ∃ j : Nat, v = .int .i64 (j : Int) ∧ Hid (j ≤ S.size ∧ S.size - j < gk) ∧ Hid (∀ (i : Nat) (hi : i < S.size), i < j → isW ((S[i]'hi).toNat : Int) = true) ∧ wr = w)
    case atStart => exact ⟨0, rfl, Lib.hid ⟨by omega, by omega⟩, Lib.hid (fun i _ h => absurd h (by omega)), rfl⟩
    case round =>
      obtain ⟨j, rfl, HJ, HM, rfl⟩ := hrel
      by_cases hj : j < S.size
      · have hw := w32_u8 (S[j]'hj)
        by_cases hi : isW ((S[j]'hj).toNat : Int) = true
        · have HI : Hid (∀ W, Calls Tryz.prog 67 #[.int .i32 (wrap32 ((S[j]'hj).toNat : Int))] W fun e w' => e = .returned (.bool true) ∧ W = w') := Lib.hid fun W => by rw [w32_u8, ← hi]; exact rword_any _ W
          clear hw
          go_wp2_with fail
          refine (HI.out _).mono ?_
          rintro e w' ⟨rfl, rfl⟩
          go_wp2
          go_roundg (gk - 1)
          case rel => exact ⟨j + 1, rfl, Lib.hid ⟨by omega, by have := HJ.out; omega⟩, Lib.hid (fun i hi2 h => by
            rcases Nat.lt_or_ge i j with h1 | h1
            · exact HM.out i hi2 h1
            · obtain rfl : i = j := by omega
              exact hi), rfl⟩
          case measure => have := HJ.out; omega
        · have hif := Bool.eq_false_iff.2 hi
          have HI : Hid (∀ W, Calls Tryz.prog 67 #[.int .i32 (wrap32 ((S[j]'hj).toNat : Int))] W fun e w' => e = .returned (.bool false) ∧ W = w') := Lib.hid fun W => by rw [w32_u8, ← hif]; exact rword_any _ W
          have : ans = false := by rw [HA2.out]; exact decide_eq_false fun h => hi (h.1 _ (ba_in hj))
          subst this
          clear hw
          go_wp2_with fail
          refine (HI.out _).mono ?_
          rintro e w' ⟨rfl, rfl⟩
          go_wp2
          go_ret
          exact ⟨rfl, Bel.refl _⟩
      · have HALL : Hid (∀ u ∈ S.data.toList, isW (u.toNat : Int) = true) := Lib.hid fun u hu => by
          obtain ⟨i, hi, rfl⟩ := ba_mem hu
          exact HM.out i hi (by have := HJ.out; omega)
        go_wp2_with fail
        refine (rwords_any _).mono ?_
        rintro e w1 ⟨⟨A1, rfl, hr1⟩, hb1⟩
        have HB1 := Lib.hid hb1
        have HH := Lib.hid (HHAS.out A1 6 6 wordsB w1 (by decide) hr1)
        clear hb1 hr1
        by_cases hwd : S.data.toList ∈ wordsB
        · have : ans = false := by rw [HA2.out]; exact decide_eq_false fun h => h.2.1 hwd
          subst this
          have HH2 := HH.out
          rw [decide_eq_true hwd] at HH2
          have HH3 := Lib.hid HH2
          clear HH2
          go_wp2_with fail
          refine HH3.out.mono ?_
          rintro e w' ⟨rfl, rfl⟩
          go_wp2
          go_ret
          exact ⟨rfl, HB1.out⟩
        · have HH2 := HH.out
          rw [decide_eq_false hwd] at HH2
          have HH3 := Lib.hid HH2
          clear HH2
          have ha : ans = !decide (S.data.toList ∈ primsB) := by
            rw [HA2.out, Bool.eq_iff_iff, decide_eq_true_iff]
            simp only [Bool.not_eq_true', decide_eq_false_iff_not]
            exact ⟨fun h => h.2.2, fun h => ⟨HALL.out, hwd, h⟩⟩
          have HA3 := Lib.hid ha
          clear ha
          go_wp2_with fail
          refine HH3.out.mono ?_
          rintro e w' ⟨rfl, rfl⟩
          go_wp2_with fail
          refine (rprims_any _).mono ?_
          rintro e w2 ⟨⟨A2, rfl, hr2⟩, hb2⟩
          have HB2 := Lib.hid (HB1.out.on hb2)
          have HP := Lib.hid (HHAS.out A2 10 10 primsB w2 (by decide) hr2)
          clear hb2 hr2
          go_wp2_with fail
          refine HP.out.mono ?_
          rintro e w' ⟨rfl, rfl⟩
          go_wp2
          go_ret
          exact ⟨by rw [HA3.out]; rfl, HB2.out⟩
  · have HG : Hid (∀ W, Calls Tryz.prog 65 #[.int .i32 (wrap32 ((S[0]'hS0).toNat : Int))] W fun e w' => e = .returned (.bool false) ∧ W = w') := Lib.hid fun W => by rw [w32_u8, ← hg]; exact rgreat_any _ W
    have HS : Hid (∀ W, Calls Tryz.prog 66 #[.int .i32 (wrap32 ((S[0]'hS0).toNat : Int))] W fun e w' => e = .returned (.bool true) ∧ W = w') := Lib.hid fun W => by rw [w32_u8, ← hs]; exact rsmall_any _ W
    clear hw32
    go_enter Tryz.func44, Tryz.ntmps44
    go_wp2_with fail
    refine (HG.out _).mono ?_
    rintro e w' ⟨rfl, rfl⟩
    go_wp2_with fail
    refine (HS.out _).mono ?_
    rintro e w' ⟨rfl, rfl⟩
    have HA2 : Hid (ans = decide ((∀ u ∈ S.data.toList, isW (u.toNat : Int) = true) ∧ S.data.toList ∉ wordsB ∧ S.data.toList ∉ primsB)) := Lib.hid (by rw [HAN.out]; simp only [hs, if_false, true_and, Bool.false_eq_true])
    go_wp2_with fail
    go_loopg [5] (S.size + 1) (fun gk v wr => ∃ j : Nat, v = .int .i64 (j : Int) ∧ Hid (j ≤ S.size ∧ S.size - j < gk) ∧ Hid (∀ (i : Nat) (hi : i < S.size), i < j → isW ((S[i]'hi).toNat : Int) = true) ∧ wr = w)
    case atStart => exact ⟨0, rfl, Lib.hid ⟨by omega, by omega⟩, Lib.hid (fun i _ h => absurd h (by omega)), rfl⟩
    case round =>
      obtain ⟨j, rfl, HJ, HM, rfl⟩ := hrel
      by_cases hj : j < S.size
      · have hw := w32_u8 (S[j]'hj)
        by_cases hi : isW ((S[j]'hj).toNat : Int) = true
        · have HI : Hid (∀ W, Calls Tryz.prog 67 #[.int .i32 (wrap32 ((S[j]'hj).toNat : Int))] W fun e w' => e = .returned (.bool true) ∧ W = w') := Lib.hid fun W => by rw [w32_u8, ← hi]; exact rword_any _ W
          clear hw
          go_wp2_with fail
          refine (HI.out _).mono ?_
          rintro e w' ⟨rfl, rfl⟩
          go_wp2
          go_roundg (gk - 1)
          case rel => exact ⟨j + 1, rfl, Lib.hid ⟨by omega, by have := HJ.out; omega⟩, Lib.hid (fun i hi2 h => by
            rcases Nat.lt_or_ge i j with h1 | h1
            · exact HM.out i hi2 h1
            · obtain rfl : i = j := by omega
              exact hi), rfl⟩
          case measure => have := HJ.out; omega
        · have hif := Bool.eq_false_iff.2 hi
          have HI : Hid (∀ W, Calls Tryz.prog 67 #[.int .i32 (wrap32 ((S[j]'hj).toNat : Int))] W fun e w' => e = .returned (.bool false) ∧ W = w') := Lib.hid fun W => by rw [w32_u8, ← hif]; exact rword_any _ W
          have : ans = false := by rw [HA2.out]; exact decide_eq_false fun h => hi (h.1 _ (ba_in hj))
          subst this
          clear hw
          go_wp2_with fail
          refine (HI.out _).mono ?_
          rintro e w' ⟨rfl, rfl⟩
          go_wp2
          go_ret
          exact ⟨rfl, Bel.refl _⟩
      · have HALL : Hid (∀ u ∈ S.data.toList, isW (u.toNat : Int) = true) := Lib.hid fun u hu => by
          obtain ⟨i, hi, rfl⟩ := ba_mem hu
          exact HM.out i hi (by have := HJ.out; omega)
        go_wp2_with fail
        refine (rwords_any _).mono ?_
        rintro e w1 ⟨⟨A1, rfl, hr1⟩, hb1⟩
        have HB1 := Lib.hid hb1
        have HH := Lib.hid (HHAS.out A1 6 6 wordsB w1 (by decide) hr1)
        clear hb1 hr1
        by_cases hwd : S.data.toList ∈ wordsB
        · have : ans = false := by rw [HA2.out]; exact decide_eq_false fun h => h.2.1 hwd
          subst this
          have HH2 := HH.out
          rw [decide_eq_true hwd] at HH2
          have HH3 := Lib.hid HH2
          clear HH2
          go_wp2_with fail
          refine HH3.out.mono ?_
          rintro e w' ⟨rfl, rfl⟩
          go_wp2
          go_ret
          exact ⟨rfl, HB1.out⟩
        · have HH2 := HH.out
          rw [decide_eq_false hwd] at HH2
          have HH3 := Lib.hid HH2
          clear HH2
          have ha : ans = !decide (S.data.toList ∈ primsB) := by
            rw [HA2.out, Bool.eq_iff_iff, decide_eq_true_iff]
            simp only [Bool.not_eq_true', decide_eq_false_iff_not]
            exact ⟨fun h => h.2.2, fun h => ⟨HALL.out, hwd, h⟩⟩
          have HA3 := Lib.hid ha
          clear ha
          go_wp2_with fail
          refine HH3.out.mono ?_
          rintro e w' ⟨rfl, rfl⟩
          go_wp2_with fail
          refine (rprims_any _).mono ?_
          rintro e w2 ⟨⟨A2, rfl, hr2⟩, hb2⟩
          have HB2 := Lib.hid (HB1.out.on hb2)
          have HP := Lib.hid (HHAS.out A2 10 10 primsB w2 (by decide) hr2)
          clear hb2 hr2
          go_wp2_with fail
          refine HP.out.mono ?_
          rintro e w' ⟨rfl, rfl⟩
          go_wp2
          go_ret
          exact ⟨by rw [HA3.out]; rfl, HB2.out⟩
open Classical in
/-- What Name of the document answers. -/
theorem rname_any (s : List UInt8) (big : Bool) (w : World) : Calls Tryz.prog 44 #[.string ⟨s.toArray⟩, .bool big] w fun e w' => e = .returned (.bool (decide (nameP s big))) ∧ Bel w w' := by
  have := rnameS_any ⟨s.toArray⟩ big w
  rw [show (⟨s.toArray⟩ : ByteArray).data.toList = s from rfl] at this
  exact this
end Go.Proofs.YteockaolmobmeaaGreatDoor.Mu

