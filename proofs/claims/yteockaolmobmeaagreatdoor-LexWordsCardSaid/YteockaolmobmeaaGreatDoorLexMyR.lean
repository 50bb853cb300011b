/-
  May of the document, walked.
-/
import Derived.Test.YteockaolmobmeaaGreatDoorLexNam
import Derived.Test.YteockaolmobmeaaGreatDoorLexRefC
namespace Go.Proofs.YteockaolmobmeaaGreatDoor.Mu
open Go.RowKit Go.Shelf
set_option maxRecDepth 100000

theorem may_k1 {s : List UInt8} {n : Int} : mayTk (1, s, n) ↔ nameP s false ∧ n = 0 := by unfold mayTk; simp
theorem may_k2 {s : List UInt8} {n : Int} : mayTk (2, s, n) ↔ nameP s true ∧ n = 0 := by unfold mayTk; simp
theorem may_k3 {s : List UInt8} {n : Int} : mayTk (3, s, n) ↔ 0 ≤ n ∧ n ≤ 1099511627776 ∧ s = [] := by unfold mayTk; simp
theorem may_k4 {s : List UInt8} {n : Int} : mayTk (4, s, n) ↔ (∃ ds, Cps s ds []) ∧ n = 0 := by unfold mayTk; simp
theorem may_k5 {s : List UInt8} {n : Int} : mayTk (5, s, n) ↔ (s ∈ wordsB ∨ s ∈ signsB) ∧ n = 0 := by unfold mayTk; simp
theorem may_k6 {s : List UInt8} {n : Int} : mayTk (6, s, n) ↔ s ∈ primsB ∧ n = 0 := by unfold mayTk; simp
theorem may_ko {k : Int} {s : List UInt8} {n : Int} (h : ¬ (k = 1 ∨ k = 2 ∨ k = 3 ∨ k = 4 ∨ k = 5 ∨ k = 6)) : ¬ mayTk (k, s, n) := by
  unfold mayTk
  rintro (⟨e, _⟩ | ⟨e, _⟩ | ⟨e, _⟩ | ⟨e, _⟩ | ⟨e, _⟩ | ⟨e, _⟩) <;> exact h (by simp at e; omega)
open Classical in
set_option maxHeartbeats 8000000 in
theorem rmay_name (k : Int) (big : Bool) (hk : (k = 1 ∧ big = false) ∨ (k = 2 ∧ big = true)) (S : ByteArray) (n a l c : Int) (w : World) :
    Calls Tryz.prog 30 #[.agg #[.int .u8 k, .string S, .int .i64 n, .int .i64 a, .int .i64 l, .int .i64 c]] w fun e w' => e = .returned (.bool (decide (mayTk (k, S.data.toList, n)))) ∧ Bel w w' := by
  obtain ⟨ans, hans⟩ : ∃ ans, ans = decide (mayTk (k, S.data.toList, n)) := ⟨_, rfl⟩
  rw [← hans]
  have ha : ans = decide (nameP S.data.toList big ∧ n = 0) := by
    rw [hans]
    rcases hk with ⟨rfl, rfl⟩ | ⟨rfl, rfl⟩
    · exact decide_eq_decide.2 may_k1
    · exact decide_eq_decide.2 may_k2
  have HA := Lib.hid ha
  have hb1 : Bel w (w.alloc (.cells #[.int .u8 k, .string S, .int .i64 n, .int .i64 a, .int .i64 l, .int .i64 c] 44)) := (Bel.refl w).alloc _
  have q1 := blk1 w (.cells #[.int .u8 k, .string S, .int .i64 n, .int .i64 a, .int .i64 l, .int .i64 c] 44)
  have HB1 := Lib.hid hb1
  have HQ1 := Lib.hid q1
  have HNM : Hid (∀ W, Calls Tryz.prog 44 #[.string S, .bool big] W fun e w' => e = .returned (.bool (decide (nameP S.data.toList big))) ∧ Bel W w') := Lib.hid fun W => rnameS_any S big W
  clear ha hans hb1 q1
  by_cases hp : nameP S.data.toList big
  case' pos =>
    rw [decide_eq_true hp] at HNM
    have HA2 : Hid (ans = decide (n = 0)) := Lib.hid (by rw [HA.out]; exact decide_eq_decide.2 ⟨fun h => h.2, fun h => ⟨hp, h⟩⟩)
  case' neg =>
    rw [decide_eq_false hp] at HNM
    have HA2 : Hid (ans = false) := Lib.hid (by rw [HA.out]; exact decide_eq_false fun h => hp h.1)
  all_goals
    clear HA hp
    rcases hk with ⟨rfl, rfl⟩ | ⟨rfl, rfl⟩
  all_goals
    go_enter Tryz.func30, Tryz.ntmps30
    go_wp2_with fail
    refine (HNM.out _).mono ?_
    rintro e w1 ⟨rfl, hb2⟩
    have HB2 := Lib.hid (HB1.out.on hb2)
    have hq := hb2.blk HQ1.out
    obtain ⟨⟨t0, t1, t2, t3, t4, t5⟩, -⟩ := cells6 hq
    clear hb2 hq
    go_wp2
    go_ret
    exact ⟨by rw [HA2.out]; first | rfl | (congr 2; rw [Bool.eq_iff_iff]; simp), HB2.out⟩
open Classical in
set_option maxHeartbeats 8000000 in
theorem rmay_text (S : ByteArray) (hS : S.size ≤ 4000000) (n a l c : Int) (w : World) :
    Calls Tryz.prog 30 #[.agg #[.int .u8 4, .string S, .int .i64 n, .int .i64 a, .int .i64 l, .int .i64 c]] w fun e w' => e = .returned (.bool (decide (mayTk (4, S.data.toList, n)))) ∧ Bel w w' := by
  obtain ⟨ans, hans⟩ : ∃ ans, ans = decide (mayTk (4, S.data.toList, n)) := ⟨_, rfl⟩
  rw [← hans]
  obtain ⟨cs, rest, hc⟩ := cps_ex _ S.data.toList (Nat.le_refl _)
  have ha : ans = decide (rest = [] ∧ n = 0) := by
    rw [hans]
    refine decide_eq_decide.2 (may_k4.trans ?_)
    constructor
    · rintro ⟨⟨ds, hd⟩, h⟩; exact ⟨(hc.uniq hd).2, h⟩
    · rintro ⟨rfl, h⟩; exact ⟨⟨cs, hc⟩, h⟩
  have HA := Lib.hid ha
  have hb1 : Bel w (w.alloc (.cells #[.int .u8 4, .string S, .int .i64 n, .int .i64 a, .int .i64 l, .int .i64 c] 44)) := (Bel.refl w).alloc _
  have q1 := blk1 w (.cells #[.int .u8 4, .string S, .int .i64 n, .int .i64 a, .int .i64 l, .int .i64 c] 44)
  have HB1 := Lib.hid hb1
  have HQ1 := Lib.hid q1
  have HNM : Hid (∀ W, Calls Tryz.prog 45 #[.string S] W fun e w' => e = .returned (.bool (decide (rest = []))) ∧ Bel W w') := Lib.hid fun W => rtexts_any hc hS W
  clear ha hans hb1 q1 hc
  by_cases hp : rest = []
  case' pos =>
    rw [decide_eq_true hp] at HNM
    have HA2 : Hid (ans = decide (n = 0)) := Lib.hid (by rw [HA.out]; exact decide_eq_decide.2 ⟨fun h => h.2, fun h => ⟨hp, h⟩⟩)
  case' neg =>
    rw [decide_eq_false hp] at HNM
    have HA2 : Hid (ans = false) := Lib.hid (by rw [HA.out]; exact decide_eq_false fun h => hp h.1)
  all_goals
    clear HA hp
    go_enter Tryz.func30, Tryz.ntmps30
    go_wp2_with fail
    refine (HNM.out _).mono ?_
    rintro e w1 ⟨rfl, hb2⟩
    have HB2 := Lib.hid (HB1.out.on hb2)
    have hq := hb2.blk HQ1.out
    obtain ⟨⟨t0, t1, t2, t3, t4, t5⟩, -⟩ := cells6 hq
    clear hb2 hq
    go_wp2
    go_ret
    exact ⟨by rw [HA2.out]; first | rfl | (congr 2; rw [Bool.eq_iff_iff]; simp), HB2.out⟩
open Classical in
set_option maxHeartbeats 8000000 in
theorem rmay_else (k : Int) (hk : ¬ (k = 1 ∨ k = 2 ∨ k = 3 ∨ k = 4 ∨ k = 5 ∨ k = 6)) (S : ByteArray) (n a l c : Int) (w : World) :
    Calls Tryz.prog 30 #[.agg #[.int .u8 k, .string S, .int .i64 n, .int .i64 a, .int .i64 l, .int .i64 c]] w fun e w' => e = .returned (.bool (decide (mayTk (k, S.data.toList, n)))) ∧ Bel w w' := by
  rw [decide_eq_false (may_ko hk)]
  have d1 : (k == 1) = false := beq_eq_false_iff_ne.2 (by omega)
  have d2 : (k == 2) = false := beq_eq_false_iff_ne.2 (by omega)
  have d3 : (k == 3) = false := beq_eq_false_iff_ne.2 (by omega)
  have d4 : (k == 4) = false := beq_eq_false_iff_ne.2 (by omega)
  have d5 : (k == 5) = false := beq_eq_false_iff_ne.2 (by omega)
  have d6 : (k == 6) = false := beq_eq_false_iff_ne.2 (by omega)
  clear hk
  go_enter Tryz.func30, Tryz.ntmps30
  go_wp2
  go_ret
  exact ⟨rfl, (Bel.refl w).alloc _⟩
open Classical in
set_option maxHeartbeats 8000000 in
theorem rmay_num (S : ByteArray) (n a l c : Int) (w : World) :
    Calls Tryz.prog 30 #[.agg #[.int .u8 3, .string S, .int .i64 n, .int .i64 a, .int .i64 l, .int .i64 c]] w fun e w' => e = .returned (.bool (decide (mayTk (3, S.data.toList, n)))) ∧ Bel w w' := by
  have ha : decide (mayTk (3, S.data.toList, n)) = (decide (0 ≤ n) && (decide (n ≤ 1099511627776) && S.toList.isEmpty)) := by
    rw [Bool.eq_iff_iff, decide_eq_true_iff, may_k3]
    simp only [Bool.and_eq_true, decide_eq_true_eq]
    refine and_congr Iff.rfl (and_congr Iff.rfl ?_)
    rw [List.isEmpty_iff, ByteArray.toList_eq]
  rw [ha]
  clear ha
  cases h0 : decide (0 ≤ n) <;> cases h1 : decide (n ≤ 1099511627776)
  all_goals
    go_enter Tryz.func30, Tryz.ntmps30
    go_wp2
    go_ret
    exact ⟨by first | rfl | simp, (Bel.refl w).alloc _⟩
theorem hasS_any (S : ByteArray) (A : Option Addr) (n c : Nat) (ts : List (List UInt8)) (W : World) (hn : n ≤ 1000000) (hr : RL W W.heap.size A n ts) (b : Bool) (hb : b = decide (S.data.toList ∈ ts)) : Calls Tryz.prog 46 #[.slice A n c, .string S] W fun e w' => e = .returned (.bool b) ∧ W = w' := by
  have := rhas_any (c := c) S.data.toList hn W hr
  rw [ba_eta] at this
  rw [hb]
  exact this
end Go.Proofs.YteockaolmobmeaaGreatDoor.Mu

