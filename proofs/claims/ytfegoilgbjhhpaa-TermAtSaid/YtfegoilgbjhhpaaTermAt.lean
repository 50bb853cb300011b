/-
  The statement TermAt, walked: any term, any assignment, any use.
-/
import Derived.Test.YtfegoilgbjhhpaaRef02
import Derived.Test.YtfegoilgbjhhpaaRef02C
import Derived.Test.YtfegoilgbjhhpaaTermX
import Derived.Test.YtfegoilgbjhhpaaTermMath
import Derived.Deep.RegionHeld3
import Derived.Deep.RegionWith
namespace Go.Proofs.Ytfegoilgbjhhpaa.Mu
open Go.ChangeShapes Go.WideShapes Go.ChangeAt Go.RowKit

/-- One term that is not great. -/
theorem great1_any (r : Raw) (cap g : Nat) (W : World) (hg : g = W.heap.size) :
    Calls Try.prog 7 #[.slice (some ⟨g, 0, none⟩) 1 cap] (W.alloc (.cells #[.bool r.nv, .int .u8 r.c, .slice r.A r.n r.k] 28)) fun e w' => e = .returned (.bool (greatB [r])) ∧ Bel (W.alloc (.cells #[.bool r.nv, .int .u8 r.c, .slice r.A r.n r.k] 28)) w' := by
  subst hg
  exact great_any _ 1 cap _ _ ((rt_one W r).more (by simp)) (by omega)
theorem great1_no {r : Raw} (h : greatB [r] = false) : r.n ≤ 5000 := by
  unfold greatB greatN at h
  rw [decide_eq_false_iff_not] at h
  simp only [List.map_cons, List.map_nil, List.sum_cons, List.sum_nil] at h
  split at h <;> omega
theorem of_at (u : Int) (hu : 0 ≤ u) : atE (decide (u = 0)) (if u = 0 then 0 else leastMF u) [] [] = 0 ∧ atR (decide (u = 0)) (if u = 0 then 0 else leastMF u) [] [] = (if 3 < u then 3 else u) := by
  by_cases h0 : u = 0
  · subst h0; decide +kernel
  · have e : leastMF u = (if 3 < u then 3 else u) := by
      rw [leastMF_c]
      rcases cu_split u with h | h | h | h
      · omega
      · rw [h.2, if_neg (by omega), h.1]; decide +kernel
      · rw [h.2, if_neg (by omega), h.1]; decide +kernel
      · rw [h.2.2.2]
        by_cases h3 : 3 < u
        · rw [if_pos h3]; decide +kernel
        · rw [if_neg h3, show u = 3 by omega]; decide +kernel
    have hb : 1 ≤ leastMF u ∧ leastMF u ≤ 3 := by rw [e]; split <;> omega
    have hm : mayB false (leastMF u) [] = true := mayB_false.2 ⟨hb, fun _ => rfl, by simp, by simp⟩
    rw [decide_eq_false h0, if_neg h0]
    obtain ⟨h1, h2⟩ := at_all (av := []) hm rfl
    exact ⟨h1, by rw [h2, ← e]; rfl⟩

set_option maxRecDepth 100000 in
set_option maxHeartbeats 4000000 in
theorem termAt_any (nv : Bool) (c : Int) (A G : Option Addr) (n k gn gc : Nat) (l av : List Int) (u : Int) (w : World) (hr : RI .i64 w w.heap.size A n l) (hg : RI .u8 w w.heap.size G gn av) (hgn : gn ≤ 9223372036854775807) (hu0 : 0 ≤ u) (hu1 : u ≤ 255) :
    Calls Try.prog 4 #[.agg #[.bool nv, .int .u8 c, .slice A n k], .slice G gn gc, .int .u8 u] w fun e w' => e = .returned (.bool true) ∧ Bel w w' := by
  obtain ⟨W0, hW⟩ : ∃ W0, W0 = w.alloc (.cells #[.bool nv, .int .u8 c, .slice A n k] 28) := ⟨_, rfl⟩
  have HW := Lib.hid hW
  have HB0 : Hid (Bel w W0) := by rw [hW]; exact Lib.hid ((Bel.refl w).alloc _)
  have HZ : Hid (w.heap.size + 1 ≤ W0.heap.size) := by rw [hW]; exact Lib.hid (by simp)
  have HK := blk1 w (.cells #[.bool nv, .int .u8 c, .slice A n k] 28)
  rw [← hW] at HK
  have HK1 := Lib.hid HK
  have HR := Lib.hid (hr.bel HB0.out)
  have HG := Lib.hid (hg.bel HB0.out)
  have hgr := fun (W : World) (cap g : Nat) (h : g = W.heap.size) => great1_any ⟨nv, c, A, n, k⟩ cap g W h
  clear hW HK hr hg
  rcases Bool.eq_false_or_eq_true (greatB [⟨nv, c, A, n, k⟩]) with hgt | hgt
  · rw [hgt] at hgr
    have HGR := Lib.hid hgr
    clear hgr hgt
    go_enter Try.func4, Try.ntmps4
    go_wp2_with (first | (go_at_call 7; refine (HGR.out _ _ _ (by simp)).mono ?_; rintro e w1 ⟨rfl, hb⟩; (have HF : Hid (Bel W0 w1) := by rw [HW.out]; exact Lib.hid (((Bel.refl _).alloc _).on hb)); clear hb) | (go_at_call 8; refine (works2_any _).mono ?_; rintro e w9 ⟨rfl, hb9⟩))
    go_ret
    exact ⟨rfl, (HB0.out.on HF.out).on hb9⟩
  have hn5 := great1_no hgt
  simp only at hn5
  rw [hgt] at hgr
  have HGR := Lib.hid hgr
  clear hgr hgt
  obtain ⟨u1, hu1'⟩ : ∃ u1, atR nv c l av = u1 := ⟨_, rfl⟩
  obtain ⟨e1, he1⟩ : ∃ e1, atE nv c l av = e1 := ⟨_, rfl⟩
  have hat := fun (W : World) (hb : Bel W0 W) => at_any nv c A G n k gn gc l av W (HR.out.bel hb) (HG.out.bel hb) (by omega) hgn
  have hmy := fun (W : World) (hb : Bel W0 W) => rmay_any nv c A n k l W (HR.out.bel hb) (by omega)
  rcases Bool.eq_false_or_eq_true (mayB nv c l) with hm | hm
  case' inr =>
    rw [show atR nv c l av = 0 by unfold atR; rw [hm]; rfl, show atE nv c l av = 2 by unfold atE; rw [hm]; rfl] at hat
    rw [hm] at hmy
    have HAT := Lib.hid hat
    have HMY := Lib.hid hmy
    clear hat hmy hm hu1' he1
    have tok1 : True := trivial
    go_enter Try.func4, Try.ntmps4
    go_wp2_with (first | (go_at_call 7; refine (HGR.out _ _ _ (by simp)).mono ?_; rintro e w1 ⟨rfl, hb⟩; (have HF : Hid (Bel W0 w1) := by rw [HW.out]; exact Lib.hid (((Bel.refl _).alloc _).on hb)); clear hb; (obtain ⟨a0, a1, a2, _, _, _⟩ := cells3 (HF.out.blk HK1.out)); (have hz0 : w.heap.size < w1.heap.size := by have h1 := HF.out.size; have h2 := HZ.out; omega)) | (go_at_call 8; refine (works2_any _).mono ?_; rintro e w9 ⟨rfl, hb9⟩) | (have _t := tok1; go_at_call 15; refine (HAT.out _ HF.out).mono ?_; rintro e w2 ⟨rfl, hb⟩; (have HF1 : Hid (Bel W0 w2) := by first | exact Lib.hid (HF.out.on hb) | exact Lib.hid ((HF.out.alloc _).on hb) | exact Lib.hid (((HF.out.alloc _).alloc _).on hb)); clear HF; have HF := HF1; clear HF1 hb; clear a0 a1 a2 hz0; (obtain ⟨a0, a1, a2, _, _, _⟩ := cells3 (HF.out.blk HK1.out)); (have hz0 : w.heap.size < w2.heap.size := by have h1 := HF.out.size; have h2 := HZ.out; omega); clear tok1; have tok2 : True := trivial) | (go_at_call 11; refine (HMY.out _ HF.out).mono ?_; rintro e w3 ⟨rfl, hb⟩; (have HF1 : Hid (Bel W0 w3) := by first | exact Lib.hid (HF.out.on hb) | exact Lib.hid ((HF.out.alloc _).on hb) | exact Lib.hid (((HF.out.alloc _).alloc _).on hb)); clear HF; have HF := HF1; clear HF1 hb; clear a0 a1 a2 hz0; (obtain ⟨a0, a1, a2, _, _, _⟩ := cells3 (HF.out.blk HK1.out)); (have hz0 : w.heap.size < w3.heap.size := by have h1 := HF.out.size; have h2 := HZ.out; omega)))
    go_ret
    exact ⟨rfl, (HB0.out.on HF.out).on hb9⟩
  case' inl =>
    have hrat := fun (W : World) (hb : Bel W0 W) => rat_any nv c A G n k gn gc l av W (HR.out.bel hb) (HG.out.bel hb) (by omega) hgn hm
    rw [hu1', he1] at hat hrat
    rw [hm] at hmy
    have HRAT := Lib.hid hrat
    have HAT := Lib.hid hat
    have HMY := Lib.hid hmy
    have hato : ∀ W : World, Calls Try.prog 15 #[.agg #[.bool (decide (u = 0)), .int .u8 (if u = 0 then 0 else leastMF u), .slice none 0 0], .slice none 0 0] W (Tells2 (if 3 < u then 3 else u) 0 W) := fun W => by
      have h := at_any (decide (u = 0)) (if u = 0 then 0 else leastMF u) none none 0 0 0 0 [] [] W RI.nil_ RI.nil_ (by omega) (by omega)
      obtain ⟨q1, q2⟩ := of_at u hu0
      rw [q1, q2] at h
      exact h
    obtain ⟨ob, hob⟩ : ∃ ob, decide (u = 0) = ob := ⟨_, rfl⟩
    obtain ⟨oc, hoc⟩ : ∃ oc, (if u = 0 then 0 else leastMF u) = oc := ⟨_, rfl⟩
    have hof := fun (W : World) => of_any u W
    rw [hob, hoc] at hato hof
    have HOF := Lib.hid hof
    clear hob hoc hof
    by_cases hu3 : 3 < u
    case' pos =>
      rw [if_pos hu3] at hato
      have mn : min u 3 = 3 := by omega
      have hif : (if 3 < u then 3 else u) = 3 := if_pos hu3
    case' neg =>
      rw [if_neg hu3] at hato
      have hu3' : u ≤ 3 := by omega
      have mn : min u 3 = u := by omega
      have hif : (if 3 < u then 3 else u) = u := if_neg (by omega)
      have hnl : (3 < u) = False := eq_false (by omega)
      clear hu3
    all_goals
      have HATO := Lib.hid hato
      have HMB := Lib.hid hm
      clear hat hrat hmy hm hu1' he1 hato
      have hls : ∃ (cL : Int) (lL : List Int), Hid (cL = leastC nv c) ∧ Hid (lL = leastL nv l) ∧ Hid (∀ W : World, Bel W0 W → Calls Try.prog 18 #[.agg #[.bool nv, .int .u8 c, .slice A n k]] W (GivesT false cL lL W.heap.size W)) :=
        ⟨_, _, Lib.hid rfl, Lib.hid rfl, Lib.hid fun W hb => least2_any nv c A n k l W (HR.out.bel hb) (by omega)⟩
      obtain ⟨cL, lL, HCL, HLL, HLS⟩ := hls
      cases nv
      case' false =>
        have hrs : ∀ (W : World) (AL : Option Addr) (nL kL : Nat), RI .i64 W W.heap.size AL nL lL → RI .i64 W W.heap.size A n l → Calls Try.prog 14 #[.agg #[.bool false, .int .u8 cL, .slice AL nL kL], .agg #[.bool false, .int .u8 c, .slice A n k]] W fun e w' => e = .returned (.bool true) ∧ Bel W w' := fun W AL nL kL h1 h2 => by
          have h := rsame_any false false cL c AL A nL n kL k lL l W h1 h2 (by have := h1.len; rw [HLL.out] at this; have := h2.len; simp [leastL] at *; omega) (by omega)
          rwa [show rsameB false false cL c lL l = true by rw [HCL.out, HLL.out]; simp [rsameB, leastC, leastL]] at h
        have HRS := Lib.hid hrs
        clear hrs
        have tokF : True := trivial
      case' true =>
        have hrs : ∀ (W : World) (AL : Option Addr) (nL kL : Nat), RI .i64 W W.heap.size AL nL lL → Calls Try.prog 14 #[.agg #[.bool false, .int .u8 cL, .slice AL nL kL], .agg #[.bool false, .int .u8 2, .slice none 0 0]] W fun e w' => e = .returned (.bool true) ∧ Bel W w' := fun W AL nL kL h1 => by
          have h := rsame_any false false cL 2 AL none nL 0 kL 0 lL [] W h1 RI.nil_ (by have := h1.len; rw [HLL.out] at this; simp [leastL] at this; omega) (by omega)
          rwa [show rsameB false false cL 2 lL [] = true by rw [HCL.out, HLL.out]; rfl] at h
        have HRS := Lib.hid hrs
        clear hrs
        have tokT : True := trivial
      all_goals
        have tok1 : True := trivial
        go_enter Try.func4, Try.ntmps4
        go_wp2_with (first | (go_at_call 7; refine (HGR.out _ _ _ (by simp)).mono ?_; rintro e w1 ⟨rfl, hb⟩; (have HF : Hid (Bel W0 w1) := by rw [HW.out]; exact Lib.hid (((Bel.refl _).alloc _).on hb)); clear hb; (obtain ⟨a0, a1, a2, _, _, _⟩ := cells3 (HF.out.blk HK1.out)); (have hz0 : w.heap.size < w1.heap.size := by have h1 := HF.out.size; have h2 := HZ.out; omega)) | (have _t := tok1; go_at_call 15; refine (HAT.out _ HF.out).mono ?_; rintro e w2 ⟨rfl, hb⟩; (have HF1 : Hid (Bel W0 w2) := by first | exact Lib.hid (HF.out.on hb) | exact Lib.hid ((HF.out.alloc _).on hb) | exact Lib.hid (((HF.out.alloc _).alloc _).on hb)); clear HF; have HF := HF1; clear HF1 hb; clear a0 a1 a2 hz0; (obtain ⟨a0, a1, a2, _, _, _⟩ := cells3 (HF.out.blk HK1.out)); (have hz0 : w.heap.size < w2.heap.size := by have h1 := HF.out.size; have h2 := HZ.out; omega); clear tok1; have tok2 : True := trivial) | (go_at_call 11; refine (HMY.out _ HF.out).mono ?_; rintro e w3 ⟨rfl, hb⟩; (have HF1 : Hid (Bel W0 w3) := by first | exact Lib.hid (HF.out.on hb) | exact Lib.hid ((HF.out.alloc _).on hb) | exact Lib.hid (((HF.out.alloc _).alloc _).on hb)); clear HF; have HF := HF1; clear HF1 hb; clear a0 a1 a2 hz0; (obtain ⟨a0, a1, a2, _, _, _⟩ := cells3 (HF.out.blk HK1.out)); (have hz0 : w.heap.size < w3.heap.size := by have h1 := HF.out.size; have h2 := HZ.out; omega)) | (go_at_call 16; refine (HRAT.out _ HF.out).mono ?_; rintro e w4 ⟨rfl, hb⟩; (have HF1 : Hid (Bel W0 w4) := by first | exact Lib.hid (HF.out.on hb) | exact Lib.hid ((HF.out.alloc _).on hb) | exact Lib.hid (((HF.out.alloc _).alloc _).on hb)); clear HF; have HF := HF1; clear HF1 hb; clear a0 a1 a2 hz0; (obtain ⟨a0, a1, a2, _, _, _⟩ := cells3 (HF.out.blk HK1.out)); (have hz0 : w.heap.size < w4.heap.size := by have h1 := HF.out.size; have h2 := HZ.out; omega)) | (go_at_call 17; refine (HOF.out _).mono ?_; rintro e w5 ⟨rfl, hb⟩; (have HF1 : Hid (Bel W0 w5) := by first | exact Lib.hid (HF.out.on hb) | exact Lib.hid ((HF.out.alloc _).on hb) | exact Lib.hid (((HF.out.alloc _).alloc _).on hb)); clear HF; have HF := HF1; clear HF1 hb; clear a0 a1 a2 hz0; (obtain ⟨a0, a1, a2, _, _, _⟩ := cells3 (HF.out.blk HK1.out)); (have hz0 : w.heap.size < w5.heap.size := by have h1 := HF.out.size; have h2 := HZ.out; omega)) | (have _t := tok2; go_at_call 15; refine (HATO.out _).mono ?_; rintro e w6 ⟨rfl, hb⟩; (have HF1 : Hid (Bel W0 w6) := by first | exact Lib.hid (HF.out.on hb) | exact Lib.hid ((HF.out.alloc _).on hb) | exact Lib.hid (((HF.out.alloc _).alloc _).on hb)); clear HF; have HF := HF1; clear HF1 hb; clear a0 a1 a2 hz0; (obtain ⟨a0, a1, a2, _, _, _⟩ := cells3 (HF.out.blk HK1.out)); (have hz0 : w.heap.size < w6.heap.size := by have h1 := HF.out.size; have h2 := HZ.out; omega); clear tok2) | (go_at_call 18; refine (HLS.out _ HF.out).mono ?_; rintro e w7 ⟨AL, nL, kL, rfl, hrl, hb⟩; (have HRL := Lib.hid hrl); clear hrl; (have HF1 : Hid (Bel W0 w7) := by first | exact Lib.hid (HF.out.on hb) | exact Lib.hid ((HF.out.alloc _).on hb) | exact Lib.hid (((HF.out.alloc _).alloc _).on hb)); clear HF; have HF := HF1; clear HF1 hb; clear a0 a1 a2 hz0; (obtain ⟨a0, a1, a2, _, _, _⟩ := cells3 (HF.out.blk HK1.out)); (have hz0 : w.heap.size < w7.heap.size := by have h1 := HF.out.size; have h2 := HZ.out; omega)))
        have HFL : Hid (Bel (w7.alloc (.cells #[.bool false, .int .u8 cL, .slice AL nL kL] 28)) (w7.alloc (.cells #[.bool false, .int .u8 cL, .slice AL nL kL] 28))) := Lib.hid (Bel.refl _)
        have HF8 : Hid (Bel W0 (w7.alloc (.cells #[.bool false, .int .u8 cL, .slice AL nL kL] 28))) := Lib.hid (HF.out.alloc _)
        clear HF
        have HF := HF8
        clear HF8
        first
          | (have _t := tokF; refine wp_region_held_drew (S := (fun w' => w'.cell? ⟨w7.heap.size, 0, none⟩ = some (.bool false) ∧ w'.cell? ⟨w7.heap.size, 1, none⟩ = some (.int .u8 cL) ∧ w'.cell? ⟨w7.heap.size, 2, none⟩ = some (.slice AL nL kL) ∧ w'.cell? ⟨w.heap.size, 0, none⟩ = some (.bool false) ∧ w'.cell? ⟨w.heap.size, 1, none⟩ = some (.int .u8 c) ∧ w'.cell? ⟨w.heap.size, 2, none⟩ = some (.slice A n k))) (by kernel_rfl) ?_ (fun hHeld => ?_); (· ((try dsimp only); go_keep)))
          | (have _t := tokT; refine wp_region_held_drew (S := (fun w' => w'.cell? ⟨w7.heap.size, 0, none⟩ = some (.bool false) ∧ w'.cell? ⟨w7.heap.size, 1, none⟩ = some (.int .u8 cL) ∧ w'.cell? ⟨w7.heap.size, 2, none⟩ = some (.slice AL nL kL) ∧ w'.cell? ⟨w.heap.size, 0, none⟩ = some (.bool true) ∧ w'.cell? ⟨w.heap.size, 1, none⟩ = some (.int .u8 c) ∧ w'.cell? ⟨w.heap.size, 2, none⟩ = some (.slice A n k))) (by kernel_rfl) ?_ (fun hHeld => ?_); (· ((try dsimp only); go_keep)))
          | fail "start"
        first
          | (refine wpAnyH_take (i := 0) (oi := { dst := some 50, op := Op.move (Operand.tmp 7), type := 37, pos := "law.go:95", after := #[], guard := none }) (v := ?_) rfl (by kernel_rfl) (by kernel_rfl) (by kernel_rfl) (fun _ _ _ h => h) (Or.inl ⟨by rfl, ?_⟩) (by assumption) ?_; rotate_left; (· ((intro w hSw; (try dsimp only at hSw); go_simp); all_goals with_reducible rfl)); (try simp only [Act.put, List.setIfInBounds_toArray, List.set_cons_zero, List.set_cons_succ]))
          | (trace_state; fail "step 0")
        first
          | (refine wpAnyH_take (i := 1) (oi := { dst := some 51, op := Op.move (Operand.tmp 9), type := 37, pos := "law.go:95", after := #[], guard := none }) (v := ?_) rfl (by kernel_rfl) (by kernel_rfl) (by kernel_rfl) (fun _ _ _ h => h) (Or.inl ⟨by rfl, ?_⟩) (by assumption) ?_; rotate_left; (· ((intro w hSw; (try dsimp only at hSw); go_simp); all_goals with_reducible rfl)); (try simp only [Act.put, List.setIfInBounds_toArray, List.set_cons_zero, List.set_cons_succ]))
          | (trace_state; fail "step 1")
        first
          | (refine wpAnyH_take (i := 2) (oi := { dst := some 52, op := Op.binOp BinOp.eql 37 (Operand.tmp 50) (Operand.tmp 51) 37, type := 4, pos := "law.go:95", after := #[{ on := 0, ground := Ground.data }, { on := 1, ground := Ground.data }], guard := none }) (v := ?_) rfl (by kernel_rfl) (by kernel_rfl) (by kernel_rfl) (fun _ _ _ h => h) (Or.inl ⟨by rfl, ?_⟩) (by assumption) ?_; rotate_left; (· ((intro w hSw; (try dsimp only at hSw); go_simp); all_goals with_reducible rfl)); (try simp only [Act.put, List.setIfInBounds_toArray, List.set_cons_zero, List.set_cons_succ]))
          | (trace_state; fail "step 2")
        first
          | (refine wpAnyH_take (i := 3) (oi := { dst := some 53, op := Op.move (Operand.tmp 52), type := 4, pos := "law.go:95", after := #[{ on := 2, ground := Ground.data }], guard := none }) (v := ?_) rfl (by kernel_rfl) (by kernel_rfl) (by kernel_rfl) (fun _ _ _ h => h) (Or.inl ⟨by rfl, ?_⟩) (by assumption) ?_; rotate_left; (· ((intro w hSw; (try dsimp only at hSw); go_simp); all_goals with_reducible rfl)); (try simp only [Act.put, List.setIfInBounds_toArray, List.set_cons_zero, List.set_cons_succ]))
          | (trace_state; fail "step 3")
        first
          | (refine wpAnyH_take (i := 4) (oi := { dst := some 54, op := Op.move (Operand.tmp 8), type := 29, pos := "law.go:95", after := #[{ on := 3, ground := Ground.guard }], guard := some (3, true) }) (v := ?_) rfl (by kernel_rfl) (by kernel_rfl) (by kernel_rfl) (fun _ _ _ h => h) (Or.inl ⟨by rfl, ?_⟩) (by assumption) ?_; rotate_left; (· ((intro w hSw; (try dsimp only at hSw); go_simp); all_goals with_reducible rfl)); (try simp only [Act.put, List.setIfInBounds_toArray, List.set_cons_zero, List.set_cons_succ]))
          | (trace_state; fail "step 4")
        first
          | (refine wpAnyH_take (i := 5) (oi := { dst := some 55, op := Op.move (Operand.tmp 10), type := 29, pos := "law.go:95", after := #[{ on := 3, ground := Ground.guard }], guard := some (3, true) }) (v := ?_) rfl (by kernel_rfl) (by kernel_rfl) (by kernel_rfl) (fun _ _ _ h => h) (Or.inl ⟨by rfl, ?_⟩) (by assumption) ?_; rotate_left; (· ((intro w hSw; (try dsimp only at hSw); go_simp); all_goals with_reducible rfl)); (try simp only [Act.put, List.setIfInBounds_toArray, List.set_cons_zero, List.set_cons_succ]))
          | (trace_state; fail "step 5")
        first
          | (refine wpAnyH_take (i := 6) (oi := { dst := some 56, op := Op.binOp BinOp.eql 29 (Operand.tmp 54) (Operand.tmp 55) 29, type := 4, pos := "law.go:95", after := #[{ on := 4, ground := Ground.data }, { on := 5, ground := Ground.data }, { on := 3, ground := Ground.guard }], guard := some (3, true) }) (v := ?_) rfl (by kernel_rfl) (by kernel_rfl) (by kernel_rfl) (fun _ _ _ h => h) (Or.inl ⟨by rfl, ?_⟩) (by assumption) ?_; rotate_left; (· ((intro w hSw; (try dsimp only at hSw); go_simp); all_goals with_reducible rfl)); (try simp only [Act.put, List.setIfInBounds_toArray, List.set_cons_zero, List.set_cons_succ]))
          | (trace_state; fail "step 6")
        first
          | (refine wpAnyH_take (i := 7) (oi := { dst := some 57, op := Op.pick (Operand.tmp 53) (Operand.tmp 56) (Operand.const (Value.bool false)), type := 4, pos := "law.go:95", after := #[{ on := 3, ground := Ground.data }, { on := 6, ground := Ground.data }], guard := none }) (v := ?_) rfl (by kernel_rfl) (by kernel_rfl) (by kernel_rfl) (fun _ _ _ h => h) (Or.inl ⟨by rfl, ?_⟩) (by assumption) ?_; rotate_left; (· ((intro w hSw; (try dsimp only at hSw); go_simp); all_goals with_reducible rfl)); (try simp only [Act.put, List.setIfInBounds_toArray, List.set_cons_zero, List.set_cons_succ]))
          | (trace_state; fail "step 7")
        first
          | (refine wpAnyH_take (i := 8) (oi := { dst := some 58, op := Op.move (Operand.tmp 57), type := 4, pos := "law.go:95", after := #[{ on := 7, ground := Ground.data }, { on := 3, ground := Ground.chain }], guard := none }) (v := ?_) rfl (by kernel_rfl) (by kernel_rfl) (by kernel_rfl) (fun _ _ _ h => h) (Or.inl ⟨by rfl, ?_⟩) (by assumption) ?_; rotate_left; (· ((intro w hSw; (try dsimp only at hSw); go_simp); all_goals with_reducible rfl)); (try simp only [Act.put, List.setIfInBounds_toArray, List.set_cons_zero, List.set_cons_succ]))
          | (trace_state; fail "step 8")
        first
          | (refine wpAnyH_take (i := 9) (oi := { dst := some 59, op := Op.move (Operand.tmp 11), type := 37, pos := "law.go:95", after := #[{ on := 8, ground := Ground.guard }], guard := some (8, true) }) (v := ?_) rfl (by kernel_rfl) (by kernel_rfl) (by kernel_rfl) (fun _ _ _ h => h) (Or.inl ⟨by rfl, ?_⟩) (by assumption) ?_; rotate_left; (· ((intro w hSw; (try dsimp only at hSw); go_simp); all_goals with_reducible rfl)); (try simp only [Act.put, List.setIfInBounds_toArray, List.set_cons_zero, List.set_cons_succ]))
          | (trace_state; fail "step 9")
        first
          | (refine wpAnyH_take (i := 10) (oi := { dst := some 60, op := Op.move (Operand.tmp 2), type := 37, pos := "law.go:95", after := #[{ on := 8, ground := Ground.guard }], guard := some (8, true) }) (v := ?_) rfl (by kernel_rfl) (by kernel_rfl) (by kernel_rfl) (fun _ _ _ h => h) (Or.inl ⟨by rfl, ?_⟩) (by assumption) ?_; rotate_left; (· ((intro w hSw; (try dsimp only at hSw); go_simp); all_goals with_reducible rfl)); (try simp only [Act.put, List.setIfInBounds_toArray, List.set_cons_zero, List.set_cons_succ]))
          | (trace_state; fail "step 10")
        first
          | (refine wpAnyH_take (i := 11) (oi := { dst := some 61, op := Op.call { callee := Callee.builtin Builtin.min, args := #[Operand.tmp 60, Operand.const (Value.int IntKind.u8 3)], argTypes := #[37, 37] }, type := 37, pos := "law.go:95", after := #[{ on := 10, ground := Ground.data }, { on := 8, ground := Ground.guard }], guard := some (8, true) }) (v := ?_) rfl (by kernel_rfl) (by kernel_rfl) (by kernel_rfl) (fun _ _ _ h => h) (Or.inl ⟨by rfl, ?_⟩) (by assumption) ?_; rotate_left; (· ((intro w hSw; (try dsimp only at hSw); go_simp); all_goals with_reducible rfl)); (try simp only [Act.put, List.setIfInBounds_toArray, List.set_cons_zero, List.set_cons_succ]))
          | (trace_state; fail "step 11")
        first
          | (refine wpAnyH_take (i := 12) (oi := { dst := some 62, op := Op.binOp BinOp.eql 37 (Operand.tmp 59) (Operand.tmp 61) 37, type := 4, pos := "law.go:95", after := #[{ on := 9, ground := Ground.data }, { on := 11, ground := Ground.data }, { on := 8, ground := Ground.guard }], guard := some (8, true) }) (v := ?_) rfl (by kernel_rfl) (by kernel_rfl) (by kernel_rfl) (fun _ _ _ h => h) (Or.inl ⟨by rfl, ?_⟩) (by assumption) ?_; rotate_left; (· ((intro w hSw; (try dsimp only at hSw); go_simp); all_goals with_reducible rfl)); (try simp only [Act.put, List.setIfInBounds_toArray, List.set_cons_zero, List.set_cons_succ]))
          | (trace_state; fail "step 12")
        first
          | (refine wpAnyH_take (i := 13) (oi := { dst := some 63, op := Op.pick (Operand.tmp 58) (Operand.tmp 62) (Operand.const (Value.bool false)), type := 4, pos := "law.go:95", after := #[{ on := 8, ground := Ground.data }, { on := 12, ground := Ground.data }], guard := none }) (v := ?_) rfl (by kernel_rfl) (by kernel_rfl) (by kernel_rfl) (fun _ _ _ h => h) (Or.inl ⟨by rfl, ?_⟩) (by assumption) ?_; rotate_left; (· ((intro w hSw; (try dsimp only at hSw); go_simp); all_goals with_reducible rfl)); (try simp only [Act.put, List.setIfInBounds_toArray, List.set_cons_zero, List.set_cons_succ]))
          | (trace_state; fail "step 13")
        first
          | (refine wpAnyH_take (i := 14) (oi := { dst := some 64, op := Op.move (Operand.tmp 63), type := 4, pos := "law.go:95", after := #[{ on := 13, ground := Ground.data }, { on := 8, ground := Ground.chain }], guard := none }) (v := ?_) rfl (by kernel_rfl) (by kernel_rfl) (by kernel_rfl) (fun _ _ _ h => h) (Or.inl ⟨by rfl, ?_⟩) (by assumption) ?_; rotate_left; (· ((intro w hSw; (try dsimp only at hSw); go_simp); all_goals with_reducible rfl)); (try simp only [Act.put, List.setIfInBounds_toArray, List.set_cons_zero, List.set_cons_succ]))
          | (trace_state; fail "step 14")
        first
          | (refine wpAnyH_take (i := 15) (oi := { dst := some 65, op := Op.move (Operand.tmp 12), type := 29, pos := "law.go:95", after := #[{ on := 14, ground := Ground.guard }], guard := some (14, true) }) (v := ?_) rfl (by kernel_rfl) (by kernel_rfl) (by kernel_rfl) (fun _ _ _ h => h) (Or.inl ⟨by rfl, ?_⟩) (by assumption) ?_; rotate_left; (· ((intro w hSw; (try dsimp only at hSw); go_simp); all_goals with_reducible rfl)); (try simp only [Act.put, List.setIfInBounds_toArray, List.set_cons_zero, List.set_cons_succ]))
          | (trace_state; fail "step 15")
        first
          | (refine wpAnyH_take (i := 16) (oi := { dst := some 66, op := Op.binOp BinOp.eql 29 (Operand.tmp 65) (Operand.const (Value.int IntKind.i64 0)) 29, type := 4, pos := "law.go:95", after := #[{ on := 15, ground := Ground.data }, { on := 14, ground := Ground.guard }], guard := some (14, true) }) (v := ?_) rfl (by kernel_rfl) (by kernel_rfl) (by kernel_rfl) (fun _ _ _ h => h) (Or.inl ⟨by rfl, ?_⟩) (by assumption) ?_; rotate_left; (· ((intro w hSw; (try dsimp only at hSw); go_simp); all_goals with_reducible rfl)); (try simp only [Act.put, List.setIfInBounds_toArray, List.set_cons_zero, List.set_cons_succ]))
          | (trace_state; fail "step 16")
        first
          | (refine wpAnyH_take (i := 17) (oi := { dst := some 67, op := Op.pick (Operand.tmp 64) (Operand.tmp 66) (Operand.const (Value.bool false)), type := 4, pos := "law.go:95", after := #[{ on := 14, ground := Ground.data }, { on := 16, ground := Ground.data }], guard := none }) (v := ?_) rfl (by kernel_rfl) (by kernel_rfl) (by kernel_rfl) (fun _ _ _ h => h) (Or.inl ⟨by rfl, ?_⟩) (by assumption) ?_; rotate_left; (· ((intro w hSw; (try dsimp only at hSw); go_simp); all_goals with_reducible rfl)); (try simp only [Act.put, List.setIfInBounds_toArray, List.set_cons_zero, List.set_cons_succ]))
          | (trace_state; fail "step 17")
        first
          | (refine wpAnyH_take (i := 18) (oi := { dst := some 68, op := Op.move (Operand.tmp 67), type := 4, pos := "law.go:95", after := #[{ on := 17, ground := Ground.data }, { on := 14, ground := Ground.chain }], guard := none }) (v := ?_) rfl (by kernel_rfl) (by kernel_rfl) (by kernel_rfl) (fun _ _ _ h => h) (Or.inl ⟨by rfl, ?_⟩) (by assumption) ?_; rotate_left; (· ((intro w hSw; (try dsimp only at hSw); go_simp); all_goals with_reducible rfl)); (try simp only [Act.put, List.setIfInBounds_toArray, List.set_cons_zero, List.set_cons_succ]))
          | (trace_state; fail "step 18")
        first
          | (refine wpAnyH_take (i := 19) (oi := { dst := some 69, op := Op.fieldAddr 28 (Operand.tmp 3) 0, type := 0, pos := "law.go:95", after := #[{ on := 18, ground := Ground.guard }], guard := some (18, true) }) (v := ?_) rfl (by kernel_rfl) (by kernel_rfl) (by kernel_rfl) (fun _ _ _ h => h) (Or.inl ⟨by rfl, ?_⟩) (by assumption) ?_; rotate_left; (· ((intro w hSw; (try dsimp only at hSw); go_simp); all_goals with_reducible rfl)); (try simp only [Act.put, List.setIfInBounds_toArray, List.set_cons_zero, List.set_cons_succ]))
          | (trace_state; fail "step 19")
        first
          | (refine wpAnyH_take (i := 20) (oi := { dst := some 70, op := Op.load 4 (Operand.tmp 69), type := 4, pos := "law.go:95", after := #[{ on := 19, ground := Ground.data }, { on := 18, ground := Ground.guard }], guard := some (18, true) }) (v := ?_) rfl (by kernel_rfl) (by kernel_rfl) (by kernel_rfl) (fun _ _ _ h => h) (Or.inl ⟨by rfl, ?_⟩) (by assumption) ?_; rotate_left; (· ((intro w hSw; (try dsimp only at hSw); go_simp); all_goals with_reducible rfl)); (try simp only [Act.put, List.setIfInBounds_toArray, List.set_cons_zero, List.set_cons_succ]))
          | (trace_state; fail "step 20")
        first
          | (refine wpAnyH_take (i := 21) (oi := { dst := some 71, op := Op.move (Operand.tmp 70), type := 4, pos := "law.go:95", after := #[{ on := 20, ground := Ground.data }, { on := 18, ground := Ground.chain }, { on := 18, ground := Ground.guard }], guard := some (18, true) }) (v := ?_) rfl (by kernel_rfl) (by kernel_rfl) (by kernel_rfl) (fun _ _ _ h => h) (Or.inl ⟨by rfl, ?_⟩) (by assumption) ?_; rotate_left; (· ((intro w hSw; (try dsimp only at hSw); go_simp); all_goals with_reducible rfl)); (try simp only [Act.put, List.setIfInBounds_toArray, List.set_cons_zero, List.set_cons_succ]))
          | (trace_state; fail "step 21")
        first
          | (have _t := tokT; refine wpAnyH_take (i := 22) (oi := { dst := some 72, op := Op.load 28 (Operand.tmp 13), type := 28, pos := "law.go:95", after := #[{ on := 21, ground := Ground.guard }], guard := some (21, true) }) (v := ?_) rfl (by kernel_rfl) (by kernel_rfl) (by kernel_rfl) (fun _ _ _ h => h) (Or.inl ⟨by rfl, ?_⟩) (by assumption) ?_; rotate_left; (· ((intro w hSw; (try dsimp only at hSw); go_simp); all_goals with_reducible rfl)); (try simp only [Act.put, List.setIfInBounds_toArray, List.set_cons_zero, List.set_cons_succ]))
          | (have _t := tokF; refine wpAnyH_take (i := 22) (oi := { dst := some 72, op := Op.load 28 (Operand.tmp 13), type := 28, pos := "law.go:95", after := #[{ on := 21, ground := Ground.guard }], guard := some (21, true) }) (v := undef) rfl (by kernel_rfl) (by kernel_rfl) (by kernel_rfl) (fun _ _ _ h => h) (Or.inr ⟨by rfl, rfl⟩) (by assumption) ?_; (try simp only [Act.put, List.setIfInBounds_toArray, List.set_cons_zero, List.set_cons_succ]))
          | (trace_state; fail "step 22")
        first
          | (have _t := tokT; refine wpAnyH_ready (rs := [23]) (by kernel_rfl) (by simp) ?_; refine AllReadyH.cons (o := { dst := some 73, op := Op.call { callee := Callee.value (Operand.func 19), args := #[Operand.const (Value.int IntKind.u8 2), Operand.const (Value.slice none 0 0)], argTypes := #[25, 26] }, type := 28, pos := "law.go:95", after := #[{ on := 21, ground := Ground.chain }, { on := 21, ground := Ground.guard }], guard := some (21, true) }) rfl (fun K hK => ?_) AllReadyH.nil; go_simp; (first | (go_at_call 14; refine (HRS.out _ _ _ _ (by exact (HRL.out.alloc _).bel HFL.out.drew) (by exact HR.out.bel HF.out.drew)).mono ?_; rintro e w8 ⟨rfl, hb⟩; (have HF1 : Hid (Bel W0 w8) := by first | exact Lib.hid (HF.out.on hb) | exact Lib.hid (HF.out.drew.on hb) | exact Lib.hid (HF.out.drew.drew.on hb)); (have HG1 : Hid (Bel (w7.alloc (.cells #[.bool false, .int .u8 cL, .slice AL nL kL] 28)) w8) := by first | exact Lib.hid (HFL.out.on hb) | exact Lib.hid (HFL.out.drew.on hb) | exact Lib.hid (HFL.out.drew.drew.on hb)); clear HF HFL hb; have HF := HF1; have HFL := HG1; clear HF1 HG1; (obtain ⟨t0, t1, t2, _, _, _⟩ := cells3 (HF.out.blk HK1.out)); (obtain ⟨s0, s1, s2, _, _, _⟩ := cells3 (HFL.out.blk (blk1 _ _)))) | (go_at_call 19; refine (some_any _ _ _ _ _).mono ?_; rintro e w8 ⟨rfl, hb⟩; (have HF1 : Hid (Bel W0 w8) := by first | exact Lib.hid (HF.out.on hb) | exact Lib.hid (HF.out.drew.on hb) | exact Lib.hid (HF.out.drew.drew.on hb)); (have HG1 : Hid (Bel (w7.alloc (.cells #[.bool false, .int .u8 cL, .slice AL nL kL] 28)) w8) := by first | exact Lib.hid (HFL.out.on hb) | exact Lib.hid (HFL.out.drew.on hb) | exact Lib.hid (HFL.out.drew.drew.on hb)); clear HF HFL hb; have HF := HF1; have HFL := HG1; clear HF1 HG1; (obtain ⟨t0, t1, t2, _, _, _⟩ := cells3 (HF.out.blk HK1.out)); (obtain ⟨s0, s1, s2, _, _, _⟩ := cells3 (HFL.out.blk (blk1 _ _)))) | (go_at_call 14; refine (HRS.out _ _ _ _ (by exact (HRL.out.alloc _).bel HFL.out)).mono ?_; rintro e w10 ⟨rfl, hb⟩; (have HF1 : Hid (Bel W0 w10) := by first | exact Lib.hid (HF.out.on hb) | exact Lib.hid (HF.out.drew.on hb) | exact Lib.hid (HF.out.drew.drew.on hb)); (have HG1 : Hid (Bel (w7.alloc (.cells #[.bool false, .int .u8 cL, .slice AL nL kL] 28)) w10) := by first | exact Lib.hid (HFL.out.on hb) | exact Lib.hid (HFL.out.drew.on hb) | exact Lib.hid (HFL.out.drew.drew.on hb)); clear HF HFL hb; have HF := HF1; have HFL := HG1; clear HF1 HG1; (obtain ⟨t0, t1, t2, _, _, _⟩ := cells3 (HF.out.blk HK1.out)); (obtain ⟨s0, s1, s2, _, _, _⟩ := cells3 (HFL.out.blk (blk1 _ _)))) | (go_at_call 8; refine (works2_any _).mono ?_; rintro e w9 ⟨rfl, hb⟩; (have HF1 : Hid (Bel W0 w9) := by first | exact Lib.hid (HF.out.on hb) | exact Lib.hid (HF.out.drew.on hb) | exact Lib.hid (HF.out.drew.drew.on hb)); (have HG1 : Hid (Bel (w7.alloc (.cells #[.bool false, .int .u8 cL, .slice AL nL kL] 28)) w9) := by first | exact Lib.hid (HFL.out.on hb) | exact Lib.hid (HFL.out.drew.on hb) | exact Lib.hid (HFL.out.drew.drew.on hb)); clear HF HFL hb; have HF := HF1; have HFL := HG1; clear HF1 HG1; (obtain ⟨t0, t1, t2, _, _, _⟩ := cells3 (HF.out.blk HK1.out)); (obtain ⟨s0, s1, s2, _, _, _⟩ := cells3 (HFL.out.blk (blk1 _ _))))); (first | refine hK.out _ _ ?_ (fun hHeld => ?_) | (go_wp2_with fail; refine hK.out _ _ ?_ (fun hHeld => ?_))); (·  ((try dsimp only); go_keep)); clear hK K; (try simp only [Act.put, List.setIfInBounds_toArray, List.set_cons_zero, List.set_cons_succ]))
          | (have _t := tokF; refine wpAnyH_take (i := 23) (oi := { dst := some 73, op := Op.call { callee := Callee.value (Operand.func 19), args := #[Operand.const (Value.int IntKind.u8 2), Operand.const (Value.slice none 0 0)], argTypes := #[25, 26] }, type := 28, pos := "law.go:95", after := #[{ on := 21, ground := Ground.chain }, { on := 21, ground := Ground.guard }], guard := some (21, true) }) (v := undef) rfl (by kernel_rfl) (by kernel_rfl) (by kernel_rfl) (fun _ _ _ h => h) (Or.inr ⟨by rfl, rfl⟩) (by assumption) ?_; (try simp only [Act.put, List.setIfInBounds_toArray, List.set_cons_zero, List.set_cons_succ]))
          | (trace_state; fail "step 23")
        first
          | (have _t := tokT; refine wpAnyH_ready (rs := [24]) (by kernel_rfl) (by simp) ?_; refine AllReadyH.cons (o := { dst := some 74, op := Op.call { callee := Callee.value (Operand.func 14), args := #[Operand.tmp 72, Operand.tmp 73], argTypes := #[28, 28] }, type := 4, pos := "law.go:95", after := #[{ on := 22, ground := Ground.data }, { on := 23, ground := Ground.data }, { on := 23, ground := Ground.chain }, { on := 21, ground := Ground.guard }], guard := some (21, true) }) rfl (fun K hK => ?_) AllReadyH.nil; go_simp; (first | (go_at_call 14; refine (HRS.out _ _ _ _ (by exact (HRL.out.alloc _).bel HFL.out.drew) (by exact HR.out.bel HF.out.drew)).mono ?_; rintro e w8 ⟨rfl, hb⟩; (have HF1 : Hid (Bel W0 w8) := by first | exact Lib.hid (HF.out.on hb) | exact Lib.hid (HF.out.drew.on hb) | exact Lib.hid (HF.out.drew.drew.on hb)); (have HG1 : Hid (Bel (w7.alloc (.cells #[.bool false, .int .u8 cL, .slice AL nL kL] 28)) w8) := by first | exact Lib.hid (HFL.out.on hb) | exact Lib.hid (HFL.out.drew.on hb) | exact Lib.hid (HFL.out.drew.drew.on hb)); clear HF HFL hb; have HF := HF1; have HFL := HG1; clear HF1 HG1; (obtain ⟨t0, t1, t2, _, _, _⟩ := cells3 (HF.out.blk HK1.out)); (obtain ⟨s0, s1, s2, _, _, _⟩ := cells3 (HFL.out.blk (blk1 _ _)))) | (go_at_call 19; refine (some_any _ _ _ _ _).mono ?_; rintro e w8 ⟨rfl, hb⟩; (have HF1 : Hid (Bel W0 w8) := by first | exact Lib.hid (HF.out.on hb) | exact Lib.hid (HF.out.drew.on hb) | exact Lib.hid (HF.out.drew.drew.on hb)); (have HG1 : Hid (Bel (w7.alloc (.cells #[.bool false, .int .u8 cL, .slice AL nL kL] 28)) w8) := by first | exact Lib.hid (HFL.out.on hb) | exact Lib.hid (HFL.out.drew.on hb) | exact Lib.hid (HFL.out.drew.drew.on hb)); clear HF HFL hb; have HF := HF1; have HFL := HG1; clear HF1 HG1; (obtain ⟨t0, t1, t2, _, _, _⟩ := cells3 (HF.out.blk HK1.out)); (obtain ⟨s0, s1, s2, _, _, _⟩ := cells3 (HFL.out.blk (blk1 _ _)))) | (go_at_call 14; refine (HRS.out _ _ _ _ (by exact (HRL.out.alloc _).bel HFL.out)).mono ?_; rintro e w10 ⟨rfl, hb⟩; (have HF1 : Hid (Bel W0 w10) := by first | exact Lib.hid (HF.out.on hb) | exact Lib.hid (HF.out.drew.on hb) | exact Lib.hid (HF.out.drew.drew.on hb)); (have HG1 : Hid (Bel (w7.alloc (.cells #[.bool false, .int .u8 cL, .slice AL nL kL] 28)) w10) := by first | exact Lib.hid (HFL.out.on hb) | exact Lib.hid (HFL.out.drew.on hb) | exact Lib.hid (HFL.out.drew.drew.on hb)); clear HF HFL hb; have HF := HF1; have HFL := HG1; clear HF1 HG1; (obtain ⟨t0, t1, t2, _, _, _⟩ := cells3 (HF.out.blk HK1.out)); (obtain ⟨s0, s1, s2, _, _, _⟩ := cells3 (HFL.out.blk (blk1 _ _)))) | (go_at_call 8; refine (works2_any _).mono ?_; rintro e w9 ⟨rfl, hb⟩; (have HF1 : Hid (Bel W0 w9) := by first | exact Lib.hid (HF.out.on hb) | exact Lib.hid (HF.out.drew.on hb) | exact Lib.hid (HF.out.drew.drew.on hb)); (have HG1 : Hid (Bel (w7.alloc (.cells #[.bool false, .int .u8 cL, .slice AL nL kL] 28)) w9) := by first | exact Lib.hid (HFL.out.on hb) | exact Lib.hid (HFL.out.drew.on hb) | exact Lib.hid (HFL.out.drew.drew.on hb)); clear HF HFL hb; have HF := HF1; have HFL := HG1; clear HF1 HG1; (obtain ⟨t0, t1, t2, _, _, _⟩ := cells3 (HF.out.blk HK1.out)); (obtain ⟨s0, s1, s2, _, _, _⟩ := cells3 (HFL.out.blk (blk1 _ _))))); (first | refine hK.out _ _ ?_ (fun hHeld => ?_) | (go_wp2_with fail; refine hK.out _ _ ?_ (fun hHeld => ?_))); (·  ((try dsimp only); go_keep)); clear hK K; (try simp only [Act.put, List.setIfInBounds_toArray, List.set_cons_zero, List.set_cons_succ]))
          | (have _t := tokF; refine wpAnyH_take (i := 24) (oi := { dst := some 74, op := Op.call { callee := Callee.value (Operand.func 14), args := #[Operand.tmp 72, Operand.tmp 73], argTypes := #[28, 28] }, type := 4, pos := "law.go:95", after := #[{ on := 22, ground := Ground.data }, { on := 23, ground := Ground.data }, { on := 23, ground := Ground.chain }, { on := 21, ground := Ground.guard }], guard := some (21, true) }) (v := undef) rfl (by kernel_rfl) (by kernel_rfl) (by kernel_rfl) (fun _ _ _ h => h) (Or.inr ⟨by rfl, rfl⟩) (by assumption) ?_; (try simp only [Act.put, List.setIfInBounds_toArray, List.set_cons_zero, List.set_cons_succ]))
          | (trace_state; fail "step 24")
        first
          | (refine wpAnyH_take (i := 25) (oi := { dst := some 75, op := Op.pick (Operand.tmp 71) (Operand.tmp 74) (Operand.const (Value.bool false)), type := 4, pos := "law.go:95", after := #[{ on := 21, ground := Ground.data }, { on := 24, ground := Ground.data }, { on := 18, ground := Ground.guard }], guard := some (18, true) }) (v := ?_) rfl (by kernel_rfl) (by kernel_rfl) (by kernel_rfl) (fun _ _ _ h => h) (Or.inl ⟨by rfl, ?_⟩) (by assumption) ?_; rotate_left; (· ((intro w hSw; (try dsimp only at hSw); go_simp); all_goals with_reducible rfl)); (try simp only [Act.put, List.setIfInBounds_toArray, List.set_cons_zero, List.set_cons_succ]))
          | (trace_state; fail "step 25")
        first
          | (refine wpAnyH_take (i := 26) (oi := { dst := some 76, op := Op.move (Operand.tmp 75), type := 4, pos := "law.go:95", after := #[{ on := 25, ground := Ground.data }, { on := 24, ground := Ground.chain }, { on := 18, ground := Ground.guard }], guard := some (18, true) }) (v := ?_) rfl (by kernel_rfl) (by kernel_rfl) (by kernel_rfl) (fun _ _ _ h => h) (Or.inl ⟨by rfl, ?_⟩) (by assumption) ?_; rotate_left; (· ((intro w hSw; (try dsimp only at hSw); go_simp); all_goals with_reducible rfl)); (try simp only [Act.put, List.setIfInBounds_toArray, List.set_cons_zero, List.set_cons_succ]))
          | (trace_state; fail "step 26")
        first
          | (have _t := tokF; refine wpAnyH_take (i := 27) (oi := { dst := some 77, op := Op.fieldAddr 28 (Operand.tmp 3) 0, type := 0, pos := "law.go:95", after := #[{ on := 26, ground := Ground.guard }], guard := some (26, false) }) (v := ?_) rfl (by kernel_rfl) (by kernel_rfl) (by kernel_rfl) (fun _ _ _ h => h) (Or.inl ⟨by rfl, ?_⟩) (by assumption) ?_; rotate_left; (· ((intro w hSw; (try dsimp only at hSw); go_simp); all_goals with_reducible rfl)); (try simp only [Act.put, List.setIfInBounds_toArray, List.set_cons_zero, List.set_cons_succ]))
          | (have _t := tokT; refine wpAnyH_take (i := 27) (oi := { dst := some 77, op := Op.fieldAddr 28 (Operand.tmp 3) 0, type := 0, pos := "law.go:95", after := #[{ on := 26, ground := Ground.guard }], guard := some (26, false) }) (v := undef) rfl (by kernel_rfl) (by kernel_rfl) (by kernel_rfl) (fun _ _ _ h => h) (Or.inr ⟨by rfl, rfl⟩) (by assumption) ?_; (try simp only [Act.put, List.setIfInBounds_toArray, List.set_cons_zero, List.set_cons_succ]))
          | (trace_state; fail "step 27")
        first
          | (have _t := tokF; refine wpAnyH_take (i := 28) (oi := { dst := some 78, op := Op.load 4 (Operand.tmp 77), type := 4, pos := "law.go:95", after := #[{ on := 27, ground := Ground.data }, { on := 26, ground := Ground.guard }], guard := some (26, false) }) (v := ?_) rfl (by kernel_rfl) (by kernel_rfl) (by kernel_rfl) (fun _ _ _ h => h) (Or.inl ⟨by rfl, ?_⟩) (by assumption) ?_; rotate_left; (· ((intro w hSw; (try dsimp only at hSw); go_simp); all_goals with_reducible rfl)); (try simp only [Act.put, List.setIfInBounds_toArray, List.set_cons_zero, List.set_cons_succ]))
          | (have _t := tokT; refine wpAnyH_take (i := 28) (oi := { dst := some 78, op := Op.load 4 (Operand.tmp 77), type := 4, pos := "law.go:95", after := #[{ on := 27, ground := Ground.data }, { on := 26, ground := Ground.guard }], guard := some (26, false) }) (v := undef) rfl (by kernel_rfl) (by kernel_rfl) (by kernel_rfl) (fun _ _ _ h => h) (Or.inr ⟨by rfl, rfl⟩) (by assumption) ?_; (try simp only [Act.put, List.setIfInBounds_toArray, List.set_cons_zero, List.set_cons_succ]))
          | (trace_state; fail "step 28")
        first
          | (have _t := tokF; refine wpAnyH_take (i := 29) (oi := { dst := some 79, op := Op.unOp UnOp.not 4 (Operand.tmp 78), type := 4, pos := "law.go:95", after := #[{ on := 28, ground := Ground.data }, { on := 26, ground := Ground.guard }], guard := some (26, false) }) (v := ?_) rfl (by kernel_rfl) (by kernel_rfl) (by kernel_rfl) (fun _ _ _ h => h) (Or.inl ⟨by rfl, ?_⟩) (by assumption) ?_; rotate_left; (· ((intro w hSw; (try dsimp only at hSw); go_simp); all_goals with_reducible rfl)); (try simp only [Act.put, List.setIfInBounds_toArray, List.set_cons_zero, List.set_cons_succ]))
          | (have _t := tokT; refine wpAnyH_take (i := 29) (oi := { dst := some 79, op := Op.unOp UnOp.not 4 (Operand.tmp 78), type := 4, pos := "law.go:95", after := #[{ on := 28, ground := Ground.data }, { on := 26, ground := Ground.guard }], guard := some (26, false) }) (v := undef) rfl (by kernel_rfl) (by kernel_rfl) (by kernel_rfl) (fun _ _ _ h => h) (Or.inr ⟨by rfl, rfl⟩) (by assumption) ?_; (try simp only [Act.put, List.setIfInBounds_toArray, List.set_cons_zero, List.set_cons_succ]))
          | (trace_state; fail "step 29")
        first
          | (have _t := tokF; refine wpAnyH_take (i := 30) (oi := { dst := some 80, op := Op.move (Operand.tmp 79), type := 4, pos := "law.go:95", after := #[{ on := 29, ground := Ground.data }, { on := 26, ground := Ground.chain }, { on := 26, ground := Ground.guard }], guard := some (26, false) }) (v := ?_) rfl (by kernel_rfl) (by kernel_rfl) (by kernel_rfl) (fun _ _ _ h => h) (Or.inl ⟨by rfl, ?_⟩) (by assumption) ?_; rotate_left; (· ((intro w hSw; (try dsimp only at hSw); go_simp); all_goals with_reducible rfl)); (try simp only [Act.put, List.setIfInBounds_toArray, List.set_cons_zero, List.set_cons_succ]))
          | (have _t := tokT; refine wpAnyH_take (i := 30) (oi := { dst := some 80, op := Op.move (Operand.tmp 79), type := 4, pos := "law.go:95", after := #[{ on := 29, ground := Ground.data }, { on := 26, ground := Ground.chain }, { on := 26, ground := Ground.guard }], guard := some (26, false) }) (v := undef) rfl (by kernel_rfl) (by kernel_rfl) (by kernel_rfl) (fun _ _ _ h => h) (Or.inr ⟨by rfl, rfl⟩) (by assumption) ?_; (try simp only [Act.put, List.setIfInBounds_toArray, List.set_cons_zero, List.set_cons_succ]))
          | (trace_state; fail "step 30")
        first
          | (have _t := tokF; refine wpAnyH_take (i := 31) (oi := { dst := some 81, op := Op.load 28 (Operand.tmp 13), type := 28, pos := "law.go:95", after := #[{ on := 30, ground := Ground.guard }], guard := some (30, true) }) (v := ?_) rfl (by kernel_rfl) (by kernel_rfl) (by kernel_rfl) (fun _ _ _ h => h) (Or.inl ⟨by rfl, ?_⟩) (by assumption) ?_; rotate_left; (· ((intro w hSw; (try dsimp only at hSw); go_simp); all_goals with_reducible rfl)); (try simp only [Act.put, List.setIfInBounds_toArray, List.set_cons_zero, List.set_cons_succ]))
          | (have _t := tokT; refine wpAnyH_take (i := 31) (oi := { dst := some 81, op := Op.load 28 (Operand.tmp 13), type := 28, pos := "law.go:95", after := #[{ on := 30, ground := Ground.guard }], guard := some (30, true) }) (v := undef) rfl (by kernel_rfl) (by kernel_rfl) (by kernel_rfl) (fun _ _ _ h => h) (Or.inr ⟨by rfl, rfl⟩) (by assumption) ?_; (try simp only [Act.put, List.setIfInBounds_toArray, List.set_cons_zero, List.set_cons_succ]))
          | (trace_state; fail "step 31")
        first
          | (have _t := tokF; refine wpAnyH_take (i := 32) (oi := { dst := some 82, op := Op.load 28 (Operand.tmp 3), type := 28, pos := "law.go:95", after := #[{ on := 30, ground := Ground.guard }], guard := some (30, true) }) (v := ?_) rfl (by kernel_rfl) (by kernel_rfl) (by kernel_rfl) (fun _ _ _ h => h) (Or.inl ⟨by rfl, ?_⟩) (by assumption) ?_; rotate_left; (· ((intro w hSw; (try dsimp only at hSw); go_simp); all_goals with_reducible rfl)); (try simp only [Act.put, List.setIfInBounds_toArray, List.set_cons_zero, List.set_cons_succ]))
          | (have _t := tokT; refine wpAnyH_take (i := 32) (oi := { dst := some 82, op := Op.load 28 (Operand.tmp 3), type := 28, pos := "law.go:95", after := #[{ on := 30, ground := Ground.guard }], guard := some (30, true) }) (v := undef) rfl (by kernel_rfl) (by kernel_rfl) (by kernel_rfl) (fun _ _ _ h => h) (Or.inr ⟨by rfl, rfl⟩) (by assumption) ?_; (try simp only [Act.put, List.setIfInBounds_toArray, List.set_cons_zero, List.set_cons_succ]))
          | (trace_state; fail "step 32")
        first
          | (have _t := tokF; refine wpAnyH_ready (rs := [33]) (by kernel_rfl) (by simp) ?_; refine AllReadyH.cons (o := { dst := some 83, op := Op.call { callee := Callee.value (Operand.func 14), args := #[Operand.tmp 81, Operand.tmp 82], argTypes := #[28, 28] }, type := 4, pos := "law.go:95", after := #[{ on := 31, ground := Ground.data }, { on := 32, ground := Ground.data }, { on := 30, ground := Ground.chain }, { on := 30, ground := Ground.guard }], guard := some (30, true) }) rfl (fun K hK => ?_) AllReadyH.nil; go_simp; (first | (go_at_call 14; refine (HRS.out _ _ _ _ (by exact (HRL.out.alloc _).bel HFL.out.drew) (by exact HR.out.bel HF.out.drew)).mono ?_; rintro e w8 ⟨rfl, hb⟩; (have HF1 : Hid (Bel W0 w8) := by first | exact Lib.hid (HF.out.on hb) | exact Lib.hid (HF.out.drew.on hb) | exact Lib.hid (HF.out.drew.drew.on hb)); (have HG1 : Hid (Bel (w7.alloc (.cells #[.bool false, .int .u8 cL, .slice AL nL kL] 28)) w8) := by first | exact Lib.hid (HFL.out.on hb) | exact Lib.hid (HFL.out.drew.on hb) | exact Lib.hid (HFL.out.drew.drew.on hb)); clear HF HFL hb; have HF := HF1; have HFL := HG1; clear HF1 HG1; (obtain ⟨t0, t1, t2, _, _, _⟩ := cells3 (HF.out.blk HK1.out)); (obtain ⟨s0, s1, s2, _, _, _⟩ := cells3 (HFL.out.blk (blk1 _ _)))) | (go_at_call 19; refine (some_any _ _ _ _ _).mono ?_; rintro e w8 ⟨rfl, hb⟩; (have HF1 : Hid (Bel W0 w8) := by first | exact Lib.hid (HF.out.on hb) | exact Lib.hid (HF.out.drew.on hb) | exact Lib.hid (HF.out.drew.drew.on hb)); (have HG1 : Hid (Bel (w7.alloc (.cells #[.bool false, .int .u8 cL, .slice AL nL kL] 28)) w8) := by first | exact Lib.hid (HFL.out.on hb) | exact Lib.hid (HFL.out.drew.on hb) | exact Lib.hid (HFL.out.drew.drew.on hb)); clear HF HFL hb; have HF := HF1; have HFL := HG1; clear HF1 HG1; (obtain ⟨t0, t1, t2, _, _, _⟩ := cells3 (HF.out.blk HK1.out)); (obtain ⟨s0, s1, s2, _, _, _⟩ := cells3 (HFL.out.blk (blk1 _ _)))) | (go_at_call 14; refine (HRS.out _ _ _ _ (by exact (HRL.out.alloc _).bel HFL.out)).mono ?_; rintro e w10 ⟨rfl, hb⟩; (have HF1 : Hid (Bel W0 w10) := by first | exact Lib.hid (HF.out.on hb) | exact Lib.hid (HF.out.drew.on hb) | exact Lib.hid (HF.out.drew.drew.on hb)); (have HG1 : Hid (Bel (w7.alloc (.cells #[.bool false, .int .u8 cL, .slice AL nL kL] 28)) w10) := by first | exact Lib.hid (HFL.out.on hb) | exact Lib.hid (HFL.out.drew.on hb) | exact Lib.hid (HFL.out.drew.drew.on hb)); clear HF HFL hb; have HF := HF1; have HFL := HG1; clear HF1 HG1; (obtain ⟨t0, t1, t2, _, _, _⟩ := cells3 (HF.out.blk HK1.out)); (obtain ⟨s0, s1, s2, _, _, _⟩ := cells3 (HFL.out.blk (blk1 _ _)))) | (go_at_call 8; refine (works2_any _).mono ?_; rintro e w9 ⟨rfl, hb⟩; (have HF1 : Hid (Bel W0 w9) := by first | exact Lib.hid (HF.out.on hb) | exact Lib.hid (HF.out.drew.on hb) | exact Lib.hid (HF.out.drew.drew.on hb)); (have HG1 : Hid (Bel (w7.alloc (.cells #[.bool false, .int .u8 cL, .slice AL nL kL] 28)) w9) := by first | exact Lib.hid (HFL.out.on hb) | exact Lib.hid (HFL.out.drew.on hb) | exact Lib.hid (HFL.out.drew.drew.on hb)); clear HF HFL hb; have HF := HF1; have HFL := HG1; clear HF1 HG1; (obtain ⟨t0, t1, t2, _, _, _⟩ := cells3 (HF.out.blk HK1.out)); (obtain ⟨s0, s1, s2, _, _, _⟩ := cells3 (HFL.out.blk (blk1 _ _))))); (first | refine hK.out _ _ ?_ (fun hHeld => ?_) | (go_wp2_with fail; refine hK.out _ _ ?_ (fun hHeld => ?_))); (·  ((try dsimp only); go_keep)); clear hK K; (try simp only [Act.put, List.setIfInBounds_toArray, List.set_cons_zero, List.set_cons_succ]))
          | (have _t := tokT; refine wpAnyH_take (i := 33) (oi := { dst := some 83, op := Op.call { callee := Callee.value (Operand.func 14), args := #[Operand.tmp 81, Operand.tmp 82], argTypes := #[28, 28] }, type := 4, pos := "law.go:95", after := #[{ on := 31, ground := Ground.data }, { on := 32, ground := Ground.data }, { on := 30, ground := Ground.chain }, { on := 30, ground := Ground.guard }], guard := some (30, true) }) (v := undef) rfl (by kernel_rfl) (by kernel_rfl) (by kernel_rfl) (fun _ _ _ h => h) (Or.inr ⟨by rfl, rfl⟩) (by assumption) ?_; (try simp only [Act.put, List.setIfInBounds_toArray, List.set_cons_zero, List.set_cons_succ]))
          | (trace_state; fail "step 33")
        first
          | (have _t := tokF; refine wpAnyH_take (i := 34) (oi := { dst := some 84, op := Op.pick (Operand.tmp 80) (Operand.tmp 83) (Operand.const (Value.bool false)), type := 4, pos := "law.go:95", after := #[{ on := 30, ground := Ground.data }, { on := 33, ground := Ground.data }, { on := 26, ground := Ground.guard }], guard := some (26, false) }) (v := ?_) rfl (by kernel_rfl) (by kernel_rfl) (by kernel_rfl) (fun _ _ _ h => h) (Or.inl ⟨by rfl, ?_⟩) (by assumption) ?_; rotate_left; (· ((intro w hSw; (try dsimp only at hSw); go_simp); all_goals with_reducible rfl)); (try simp only [Act.put, List.setIfInBounds_toArray, List.set_cons_zero, List.set_cons_succ]))
          | (have _t := tokT; refine wpAnyH_take (i := 34) (oi := { dst := some 84, op := Op.pick (Operand.tmp 80) (Operand.tmp 83) (Operand.const (Value.bool false)), type := 4, pos := "law.go:95", after := #[{ on := 30, ground := Ground.data }, { on := 33, ground := Ground.data }, { on := 26, ground := Ground.guard }], guard := some (26, false) }) (v := undef) rfl (by kernel_rfl) (by kernel_rfl) (by kernel_rfl) (fun _ _ _ h => h) (Or.inr ⟨by rfl, rfl⟩) (by assumption) ?_; (try simp only [Act.put, List.setIfInBounds_toArray, List.set_cons_zero, List.set_cons_succ]))
          | (trace_state; fail "step 34")
        first
          | (refine wpAnyH_take (i := 35) (oi := { dst := some 85, op := Op.pick (Operand.tmp 76) (Operand.const (Value.bool true)) (Operand.tmp 84), type := 4, pos := "law.go:95", after := #[{ on := 26, ground := Ground.data }, { on := 34, ground := Ground.data }, { on := 18, ground := Ground.guard }], guard := some (18, true) }) (v := ?_) rfl (by kernel_rfl) (by kernel_rfl) (by kernel_rfl) (fun _ _ _ h => h) (Or.inl ⟨by rfl, ?_⟩) (by assumption) ?_; rotate_left; (· ((intro w hSw; (try dsimp only at hSw); go_simp); all_goals with_reducible rfl)); (try simp only [Act.put, List.setIfInBounds_toArray, List.set_cons_zero, List.set_cons_succ]))
          | (trace_state; fail "step 35")
        first
          | (refine wpAnyH_take (i := 36) (oi := { dst := some 86, op := Op.pick (Operand.tmp 68) (Operand.tmp 85) (Operand.const (Value.bool false)), type := 4, pos := "law.go:95", after := #[{ on := 18, ground := Ground.data }, { on := 35, ground := Ground.data }], guard := none }) (v := ?_) rfl (by kernel_rfl) (by kernel_rfl) (by kernel_rfl) (fun _ _ _ h => h) (Or.inl ⟨by rfl, ?_⟩) (by assumption) ?_; rotate_left; (· ((intro w hSw; (try dsimp only at hSw); go_simp); all_goals with_reducible rfl)); (try simp only [Act.put, List.setIfInBounds_toArray, List.set_cons_zero, List.set_cons_succ]))
          | (trace_state; fail "step 36")
        first
          | (refine wpAnyH_take (i := 37) (oi := { dst := some 87, op := Op.move (Operand.tmp 86), type := 4, pos := "law.go:95", after := #[{ on := 36, ground := Ground.data }, { on := 33, ground := Ground.chain }], guard := none }) (v := ?_) rfl (by kernel_rfl) (by kernel_rfl) (by kernel_rfl) (fun _ _ _ h => h) (Or.inl ⟨by rfl, ?_⟩) (by assumption) ?_; rotate_left; (· ((intro w hSw; (try dsimp only at hSw); go_simp); all_goals with_reducible rfl)); (try simp only [Act.put, List.setIfInBounds_toArray, List.set_cons_zero, List.set_cons_succ]))
          | (trace_state; fail "step 37")
        first
          | (refine wpAnyH_ready (rs := [38]) (by kernel_rfl) (by simp) ?_; refine AllReadyH.cons (o := { dst := some 88, op := Op.call { callee := Callee.value (Operand.func 8), args := #[], argTypes := #[] }, type := 4, pos := "law.go:95", after := #[{ on := 37, ground := Ground.chain }, { on := 37, ground := Ground.guard }], guard := some (37, true) }) rfl (fun K hK => ?_) AllReadyH.nil; go_simp; (first | (go_at_call 14; refine (HRS.out _ _ _ _ (by exact (HRL.out.alloc _).bel HFL.out.drew) (by exact HR.out.bel HF.out.drew)).mono ?_; rintro e w8 ⟨rfl, hb⟩; (have HF1 : Hid (Bel W0 w8) := by first | exact Lib.hid (HF.out.on hb) | exact Lib.hid (HF.out.drew.on hb) | exact Lib.hid (HF.out.drew.drew.on hb)); (have HG1 : Hid (Bel (w7.alloc (.cells #[.bool false, .int .u8 cL, .slice AL nL kL] 28)) w8) := by first | exact Lib.hid (HFL.out.on hb) | exact Lib.hid (HFL.out.drew.on hb) | exact Lib.hid (HFL.out.drew.drew.on hb)); clear HF HFL hb; have HF := HF1; have HFL := HG1; clear HF1 HG1; (obtain ⟨t0, t1, t2, _, _, _⟩ := cells3 (HF.out.blk HK1.out)); (obtain ⟨s0, s1, s2, _, _, _⟩ := cells3 (HFL.out.blk (blk1 _ _)))) | (go_at_call 19; refine (some_any _ _ _ _ _).mono ?_; rintro e w8 ⟨rfl, hb⟩; (have HF1 : Hid (Bel W0 w8) := by first | exact Lib.hid (HF.out.on hb) | exact Lib.hid (HF.out.drew.on hb) | exact Lib.hid (HF.out.drew.drew.on hb)); (have HG1 : Hid (Bel (w7.alloc (.cells #[.bool false, .int .u8 cL, .slice AL nL kL] 28)) w8) := by first | exact Lib.hid (HFL.out.on hb) | exact Lib.hid (HFL.out.drew.on hb) | exact Lib.hid (HFL.out.drew.drew.on hb)); clear HF HFL hb; have HF := HF1; have HFL := HG1; clear HF1 HG1; (obtain ⟨t0, t1, t2, _, _, _⟩ := cells3 (HF.out.blk HK1.out)); (obtain ⟨s0, s1, s2, _, _, _⟩ := cells3 (HFL.out.blk (blk1 _ _)))) | (go_at_call 14; refine (HRS.out _ _ _ _ (by exact (HRL.out.alloc _).bel HFL.out)).mono ?_; rintro e w10 ⟨rfl, hb⟩; (have HF1 : Hid (Bel W0 w10) := by first | exact Lib.hid (HF.out.on hb) | exact Lib.hid (HF.out.drew.on hb) | exact Lib.hid (HF.out.drew.drew.on hb)); (have HG1 : Hid (Bel (w7.alloc (.cells #[.bool false, .int .u8 cL, .slice AL nL kL] 28)) w10) := by first | exact Lib.hid (HFL.out.on hb) | exact Lib.hid (HFL.out.drew.on hb) | exact Lib.hid (HFL.out.drew.drew.on hb)); clear HF HFL hb; have HF := HF1; have HFL := HG1; clear HF1 HG1; (obtain ⟨t0, t1, t2, _, _, _⟩ := cells3 (HF.out.blk HK1.out)); (obtain ⟨s0, s1, s2, _, _, _⟩ := cells3 (HFL.out.blk (blk1 _ _)))) | (go_at_call 8; refine (works2_any _).mono ?_; rintro e w9 ⟨rfl, hb⟩; (have HF1 : Hid (Bel W0 w9) := by first | exact Lib.hid (HF.out.on hb) | exact Lib.hid (HF.out.drew.on hb) | exact Lib.hid (HF.out.drew.drew.on hb)); (have HG1 : Hid (Bel (w7.alloc (.cells #[.bool false, .int .u8 cL, .slice AL nL kL] 28)) w9) := by first | exact Lib.hid (HFL.out.on hb) | exact Lib.hid (HFL.out.drew.on hb) | exact Lib.hid (HFL.out.drew.drew.on hb)); clear HF HFL hb; have HF := HF1; have HFL := HG1; clear HF1 HG1; (obtain ⟨t0, t1, t2, _, _, _⟩ := cells3 (HF.out.blk HK1.out)); (obtain ⟨s0, s1, s2, _, _, _⟩ := cells3 (HFL.out.blk (blk1 _ _))))); (first | refine hK.out _ _ ?_ (fun hHeld => ?_) | (go_wp2_with fail; refine hK.out _ _ ?_ (fun hHeld => ?_))); (·  ((try dsimp only); go_keep)); clear hK K; (try simp only [Act.put, List.setIfInBounds_toArray, List.set_cons_zero, List.set_cons_succ]))
          | (trace_state; fail "step 38")
        first
          | (refine wpAnyH_take (i := 39) (oi := { dst := some 89, op := Op.pick (Operand.tmp 87) (Operand.tmp 88) (Operand.const (Value.bool false)), type := 4, pos := "law.go:95", after := #[{ on := 37, ground := Ground.data }, { on := 38, ground := Ground.data }], guard := none }) (v := ?_) rfl (by kernel_rfl) (by kernel_rfl) (by kernel_rfl) (fun _ _ _ h => h) (Or.inl ⟨by rfl, ?_⟩) (by assumption) ?_; rotate_left; (· ((intro w hSw; (try dsimp only at hSw); go_simp); all_goals with_reducible rfl)); (try simp only [Act.put, List.setIfInBounds_toArray, List.set_cons_zero, List.set_cons_succ]))
          | (trace_state; fail "step 39")
        first
          | (refine wpAnyH_take (i := 40) (oi := _) (v := ?_) rfl (by kernel_rfl) (by kernel_rfl) (by kernel_rfl) (fun _ _ _ h => h) (Or.inl ⟨by rfl, ?_⟩) (by assumption) ?_; rotate_left; (· ((intro w hSw; (try dsimp only at hSw); go_simp); all_goals with_reducible rfl)); (try simp only [Act.put, List.getElem_toArray, List.getElem_cons_succ, List.getElem_cons_zero, List.setIfInBounds_toArray, List.set_cons_zero, List.set_cons_succ]))
          | (trace_state; fail "step 40")
        refine wpAnyH_done (by kernel_rfl) ?_ _
        go_wp2
        go_ret
        exact ⟨rfl, HB0.out.on HF.out⟩
end Go.Proofs.Ytfegoilgbjhhpaa.Mu
