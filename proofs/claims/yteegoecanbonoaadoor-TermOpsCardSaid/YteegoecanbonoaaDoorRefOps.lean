/-
  usufructref02.Scale and Text, walked.
-/
import Derived.Test.YteegoecanbonoaaDoorRefJoin2
import Derived.Test.YteegoecanbonoaaDoorRefSum
import Derived.Test.YteegoecanbonoaaDoorRef02C
import Derived.Test.YteegoecanbonoaaDoorRef03T
import Derived.Test.YteegoecanbonoaaDoorTermCloses
namespace Go.Proofs.YteegoecanbonoaaDoor.Mu
open Go.ChangeShapes Go.WideShapes Go.ChangeAt Go.RowKit

theorem rising_of {nv : Bool} {c : Int} {l : List Int} (h : mayB nv c l = true) : l.Pairwise (· < ·) := ((mayVars_spec l).1 (mayB_vars h)).2
theorem great_congr {C D : Int} {l k : List Int} (h : C = D) (hl : ∀ x, x ∈ l ↔ x ∈ k) : greatL C l = greatL D k := by
  subst h; unfold greatL; rw [srt_congr hl]

set_option maxRecDepth 100000 in
set_option maxHeartbeats 1000000 in
theorem rscale_any (v mc : Int) (nv : Bool) (c : Int) (A : Option Addr) (n k : Nat) (l : List Int) (w : World) (hr : RI .i64 w w.heap.size A n l) (hmax : n ≤ 10000) (hi : isB v mc = true) (hj : mayB nv c l = true) :
    Calls Tryd.prog 28 #[.agg #[.int .i64 v, .int .u8 mc], .agg #[.bool nv, .int .u8 c, .slice A n k]] w (GivesT nv (scC nv mc c) (scL nv v mc c l) w.heap.size w) := by
  have HR := Lib.hid hr
  have RP := Lib.hid (rising_of hj)
  cases nv
  · obtain ⟨c1, c3⟩ := mayB_c hj
    have hcase : (mc = 0 ∧ 0 ≤ v ∧ v < 1048576) ∨ (1 ≤ mc ∧ mc ≤ 3 ∧ v = 0) := isB_parts hi
    clear hr hj hi
    rcases hcase with ⟨hm, v0, v1⟩ | ⟨m1, m3, hv⟩
    · subst hm
      have e1 : scC false 0 c = max 1 c := by show max 0 c = max 1 c; omega
      have e2 : scL false v 0 c l = greatL (max 1 c) ([v] ++ l) := great_congr (by omega) (fun x => by simp [or_comm])
      rw [e1, e2]
      have HG : Hid (∀ W B, Bel w W → RI .i64 W W.heap.size B 1 [v] → Calls Tryd.prog 55 #[.agg #[.bool false, .int .u8 1, .slice B 1 1], .agg #[.bool false, .int .u8 c, .slice A n k]] W (GivesT false (max 1 c) (greatL (max 1 c) ([v] ++ l)) W.heap.size W)) :=
        Lib.hid fun W B h hB => rgreatest_any false false 1 c B A 1 1 n k [v] l W hB (HR.out.bel h) (by simp) RP.out (by omega)
      obtain ⟨C, hC⟩ : ∃ C, C = max 1 c := ⟨_, rfl⟩
      obtain ⟨L, hL⟩ : ∃ L, L = greatL C ([v] ++ l) := ⟨_, rfl⟩
      rw [← hC, ← hL] at HG ⊢
      clear hC hL e1 e2
      go_enter Tryd.func28, Tryd.ntmps28
      go_wp2_with fail
      refine (HG.out _ _ ((((((Bel.refl _).alloc _).alloc _).alloc _).alloc _)) (by simpa using ri_one (((w.alloc (.cells #[.int .i64 v, .int .u8 0] 32)).alloc (.cells #[.bool false, .int .u8 c, .slice A n k] 25)).alloc (.cells #[.bool false, .int .u8 0, .slice none 0 0] 25)) v)).mono ?_
      rintro e w1 ⟨D, j, c', rfl, hri, hb⟩
      have hbb : Bel (((w.alloc (.cells #[.int .i64 v, .int .u8 0] 32)).alloc (.cells #[.bool false, .int .u8 c, .slice A n k] 25)).alloc (.cells #[.bool false, .int .u8 0, .slice none 0 0] 25)) w1 := ((Bel.refl _).alloc _).on hb
      have HK := Lib.hid (hbb.blk (blk3 _ _ _ _).2.2)
      have HBB : Hid (Bel w w1) := Lib.hid (((((Bel.refl w).alloc _).alloc _).alloc _).on hbb)
      have HO := Lib.hid hri
      have hz : w.heap.size + 2 < w1.heap.size := (Array.getElem?_eq_some_iff.1 HK.out).1
      obtain ⟨b0, b1, b2, g0, g1, g2⟩ := cells3 HK.out
      clear hb hbb hri
      go_wp2_with fail
      refine bodyPost_ret (v := .agg #[.bool false, .int .u8 C, .slice D j c']) (by simp [results, Tryd.results28, go_sem, *]) rfl ⟨_, _, _, rfl, ?_, ?_⟩
      · have h := HO.out.put3 HK.out (.bool false) (.int .u8 C) (.slice D j c')
        simpa using h
      · show Bel w _
        exact HBB.out.put3 (by omega) _ _ _
    · have e1 : scC false mc c = max mc c := rfl
      have e2 : scL false v mc c l = greatL (max mc c) ([] ++ l) := great_congr rfl (fun x => by rw [if_neg (show ¬ mc = 0 by omega)]; simp)
      rw [e1, e2]
      have hmz : (mc != 0) = true := by rw [bne_iff_ne]; omega
      have HG : Hid (∀ W, Bel w W → Calls Tryd.prog 55 #[.agg #[.bool false, .int .u8 mc, .slice none 0 0], .agg #[.bool false, .int .u8 c, .slice A n k]] W (GivesT false (max mc c) (greatL (max mc c) ([] ++ l)) W.heap.size W)) :=
        Lib.hid fun W h => rgreatest_any false false mc c none A 0 0 n k [] l W RI.nil_ (HR.out.bel h) List.Pairwise.nil RP.out (by omega)
      obtain ⟨C, hC⟩ : ∃ C, C = max mc c := ⟨_, rfl⟩
      obtain ⟨L, hL⟩ : ∃ L, L = greatL C ([] ++ l) := ⟨_, rfl⟩
      rw [← hC, ← hL] at HG ⊢
      clear hC hL e1 e2
      go_enter Tryd.func28, Tryd.ntmps28
      go_wp2_with fail
      refine (HG.out _ (((((Bel.refl _).alloc _).alloc _).alloc _))).mono ?_
      rintro e w1 ⟨D, j, c', rfl, hri, hb⟩
      have HK := Lib.hid (Bel.blk hb (blk3 _ _ _ _).2.2)
      have HBB : Hid (Bel w w1) := Lib.hid (((((Bel.refl w).alloc _).alloc _).alloc _).on hb)
      have HO := Lib.hid hri
      have hz : w.heap.size + 2 < w1.heap.size := (Array.getElem?_eq_some_iff.1 HK.out).1
      obtain ⟨b0, b1, b2, g0, g1, g2⟩ := cells3 HK.out
      clear hb hri
      go_wp2_with fail
      refine bodyPost_ret (v := .agg #[.bool false, .int .u8 C, .slice D j c']) (by simp [results, Tryd.results28, go_sem, *]) rfl ⟨_, _, _, rfl, ?_, ?_⟩
      · have h := HO.out.put3 HK.out (.bool false) (.int .u8 C) (.slice D j c')
        simpa using h
      · show Bel w _
        exact HBB.out.put3 (by omega) _ _ _
  · obtain ⟨hc, hl⟩ : c = 0 ∧ l = [] := mayB_true.1 hj
    have e1 : scC true mc c = c := by rw [hc]; rfl
    have e2 : scL true v mc c l = l := by rw [hl]; rfl
    rw [e1, e2]
    clear e1 e2 hc hl hi hj hr
    have HA2 := Lib.hid (HR.out.bel ((((Bel.refl _).alloc (.cells #[.int .i64 v, .int .u8 mc] 32)).alloc (.cells #[.bool true, .int .u8 c, .slice A n k] 25)).alloc (.cells #[.bool true, .int .u8 c, .slice A n k] 25)))
    go_enter Tryd.func28, Tryd.ntmps28
    go_wp2
    exact bodyPost_ret (v := .agg #[.bool true, .int .u8 c, .slice A n k]) (by simp [results, Tryd.results28, go_sem]) rfl ⟨_, _, _, rfl, HA2.out, (((Bel.refl _).alloc _).alloc _).alloc _⟩

theorem tail_snoc (s : UInt8) (r : List (List UInt8)) (y : List UInt8) : Lib.joinTail [s] (r ++ [y]) = Lib.joinTail [s] r ++ (s :: y) := by
  induction r with
  | nil => rw [List.nil_append, tail_cons, tail_nil]; simp
  | cons x r ih => rw [List.cons_append, tail_cons, tail_cons, ih]; simp
theorem join_snoc {xs : List (List UInt8)} {y : List UInt8} : Lib.join (xs ++ [y]) [124] = if xs = [] then y else Lib.join xs [124] ++ 124 :: y := by
  match xs with
  | [] => simp [Lib.join_one]
  | x :: r => rw [List.cons_append, Lib.join_cons, Lib.join_cons, tail_snoc]; simp
def headP (c : Int) (n : Nat) : List (List UInt8) := if n = 0 ∨ mulS c ≠ [49] then [mulS c] else []
def upto (c : Int) (n : Nat) (l : List Int) : List UInt8 := Lib.join (headP c n ++ l.map varS) [124]
theorem part_ne {c : Int} {n : Nat} {l : List Int} : ∀ z ∈ headP c n ++ l.map varS, z ≠ [] := by
  intro z hz
  rcases List.mem_append.1 hz with hz | hz
  · unfold headP at hz; split at hz
    · obtain rfl := List.mem_singleton.1 hz
      unfold mulS; split
      · simp
      · split <;> simp
    · simp at hz
  · obtain ⟨v, _, rfl⟩ := List.mem_map.1 hz; simp [varS]
theorem join_empty {xs : List (List UInt8)} (h : ∀ z ∈ xs, z ≠ []) : Lib.join xs [124] = [] ↔ xs = [] := by
  match xs with
  | [] => simp [Lib.join_nil]
  | x :: r => rw [Lib.join_cons]; simp [h x (by simp)]
theorem upto_step {c : Int} {n : Nat} {l : List Int} {u : Int} (hu : 0 ≤ u) : upto c n (l ++ [u]) = (if upto c n l = [] then [] else upto c n l ++ [124]) ++ 109 :: Lib.decDigits u.toNat := by
  unfold upto
  rw [List.map_append, List.map_cons, List.map_nil, ← List.append_assoc, join_snoc, var_dig hu]
  by_cases h : headP c n ++ l.map varS = []
  · rw [if_pos h, if_pos ((join_empty part_ne).2 h)]; simp
  · rw [if_neg h, if_neg (fun e => h ((join_empty part_ne).1 e))]; simp

set_option maxRecDepth 100000 in
set_option maxHeartbeats 2000000 in
theorem rtextT_any (nv : Bool) (c : Int) (A : Option Addr) (n k : Nat) (l : List Int) (w : World) (hr : RI .i64 w w.heap.size A n l) (hmax : n ≤ 10000) (hj : mayB nv c l = true) :
    Calls Tryd.prog 27 #[.agg #[.bool nv, .int .u8 c, .slice A n k]] w fun e w' => e = .returned (.string ⟨(textT nv c l).toArray⟩) ∧ Bel w w' := by
  cases nv
  case true =>
    clear hr hj
    go_enter Tryd.func27, Tryd.ntmps27
    go_wp2
    go_ret
    exact ⟨rfl, (Bel.refl _).alloc _⟩
  case false =>
    obtain ⟨c1, c3⟩ := mayB_c hj
    have HR := Lib.hid (hr.alloc (.cells #[.bool false, .int .u8 c, .slice A n k] 25))
    have HL := Lib.hid hr.len
    have HV := Lib.hid (mayB_all hj)
    have HTX : Hid (textT false c l = upto c n l) := Lib.hid (by
      unfold textT upto partsS headP
      rw [← hr.len]; rfl)
    clear hr hj
    have hcase : (1 < c) ∨ (c = 1 ∧ n = 0) ∨ (c = 1 ∧ 0 < n) := by omega
    rcases hcase with hc | ⟨hc, hn⟩ | ⟨hc, hn⟩
    case' inl =>
      have HP : Hid (upto c n [] = mulS c) := Lib.hid (by
        unfold upto headP
        rw [if_pos (.inr (fun e => by have := (mulS_one c1 c3).1 e; omega))]; simp [Lib.join_one])
      have hd : decide (1 < c) = true := decide_eq_true hc
    case' inr.inl =>
      have HP : Hid (upto c n [] = mulS c) := Lib.hid (by
        unfold upto headP
        rw [if_pos (.inl hn)]; simp [Lib.join_one])
      have hz : ((n : Int) == 0) = true := by rw [beq_iff_eq]; omega
      have hd : decide (1 < c) = false := decide_eq_false (by omega)
    case' inr.inr =>
      have HP : Hid (upto c n [] = []) := Lib.hid (by
        unfold upto headP
        have : mulS c = [49] := (mulS_one c1 c3).2 hc
        rw [if_neg (by rw [this]; simp; omega)]; rfl)
      have hz : ((n : Int) == 0) = false := by rw [beq_eq_false_iff_ne]; omega
      have hd : decide (1 < c) = false := decide_eq_false (by omega)
    all_goals
      have hml := mulS_len c
      try clear hc
      try clear hn
      go_enter Tryd.func27, Tryd.ntmps27
      go_wp2_with (go_at_call 56; refine (rmtext_any _ c1 c3 _).mono ?_; rintro e w' ⟨rfl, rfl⟩)
      try clear hz
      try clear hd
      go_loop [3, 4] (fun sv si => ∃ (j : Nat) (s : List UInt8), j ≤ n ∧ si = .int .i64 j ∧ sv = .string ⟨s.toArray⟩ ∧ s.length ≤ 30 * (j + 1) ∧ Hid (s = upto c n (l.take j))) (fun _ si => n - (intOf si).toNat)
      case atStart => exact ⟨0, _, Nat.zero_le _, rfl, rfl, by first | omega | simp, Lib.hid (by rw [List.take_zero, HP.out])⟩
      case round =>
        obtain ⟨j, s, hj, rfl, rfl, hsl, HS⟩ := hrel
        by_cases hlt : j < n
        · obtain ⟨b, off, eA, hb, hcs⟩ := HR.out.at_ (by omega)
          subst eA
          obtain ⟨u, huk⟩ : ∃ u, l[j]? = some u := ⟨_, List.getElem?_eq_getElem (by rw [← HL.out]; exact hlt)⟩
          have hcell := hcs j hlt
          rw [huk] at hcell
          simp only [Option.getD_some] at hcell
          obtain ⟨u0, u1⟩ := HV.out u (List.mem_of_getElem? huk)
          have hdu := digS_len u0 u1
          have HST : Hid (upto c n (l.take (j + 1)) = (if s = [] then [] else s ++ [124]) ++ 109 :: Lib.decDigits u.toNat) := Lib.hid (by
            rw [take_snoc_ huk, upto_step u0, ← HS.out])
          have hdl : (Lib.decDigits u.toNat).length ≤ 21 := by simpa [digS] using (show (Lib.decDigits u.toNat).toArray.size ≤ 21 from hdu)
          clear hcs huk
          by_cases hs : s = []
          case' pos =>
            subst hs
            rw [if_pos rfl] at HST
          case' neg =>
            rw [if_neg hs] at HST
            have q1 : (s == []) = false := by simpa using hs
            have q2 : s.isEmpty = false := by simpa using hs
            have q3 : ((⟨s.toArray⟩ : ByteArray) == ⟨#[]⟩) = false := ba_ne hs
          all_goals
            go_wp2_with (go_at_call 57; refine (rdig_any _ u0 u1 _).mono ?_; rintro e w' ⟨rfl, rfl⟩)
            go_round
            case rel => exact ⟨j + 1, upto c n (l.take (j + 1)), by omega, by go_num, congrArg Value.string (by rw [HST.out]; exact ByteArray.ext (by simp [digS])), by rw [HST.out]; simp; omega, Lib.hid rfl⟩
            case measure => simp [intOf]; omega
        · obtain rfl : j = n := by omega
          have e : l.take j = l := by rw [HL.out]; exact List.take_length
          rw [e] at HS
          clear e
          go_wp2
          go_ret
          exact ⟨by rw [HTX.out, ← HS.out]; rfl, (Bel.refl _).alloc _⟩
end Go.Proofs.YteegoecanbonoaaDoor.Mu
