/-
  What may not be handed to Solve.
  Solve, walked: what it answers, as functions of lists.
  The rows that newSolver lays: each variable's inequalities, rising.
  raise, as mathematics: the order in which variables are raised, and why.
  The least solution: what run2 and run3 come to.
  Where there is a clash: what the core is.
  Solve: its contract.
-/
import Derived.Test.YtlbachjhhjjmfaaRaiseA
namespace Go.Proofs.Ytlbachjhhjjmfaa.Mu
open Go.ChangeShapes Go.WideShapes Go.ChangeAt Go.RowKit Go.Shelf

attribute [local go_sem] Oper.semAt_some

def badM (m : Int) : Bool := decide (m < 1) || decide (3 < m)
theorem mcl_any (m : Int) (w : World) : Calls Try.prog 67 #[.int .u8 m] w fun e w' => e = .returned (.bool (badM m)) ∧ Bel w w' := by
  unfold badM
  by_cases h1 : m < 1
  · have e : (decide (m < 1) || decide (3 < m)) = true := by simp [h1]
    rw [e]
    go_enter Try.func67, Try.ntmps67
    go_wp2
    go_ret
    exact ⟨rfl, Bel.refl _⟩
  · by_cases h2 : 3 < m
    · have e : (decide (m < 1) || decide (3 < m)) = true := by simp [h2]
      rw [e]
      go_enter Try.func67, Try.ntmps67
      go_wp2
      go_ret
      exact ⟨rfl, Bel.refl _⟩
    · have e : (decide (m < 1) || decide (3 < m)) = false := by simp [h1, h2]
      rw [e]
      go_enter Try.func67, Try.ntmps67
      go_wp2
      go_ret
      exact ⟨rfl, Bel.refl _⟩

set_option maxHeartbeats 1000000 in
theorem midx_any (A : Option Addr) (n cap : Nat) (low : List Int) (w : World) (hr : RI .u8 w w.heap.size A n low) (hmax : n ≤ 9223372036854775807) :
    Calls Try.prog 41 #[.slice A n cap, .func (.func 67) #[] #[]] w fun e w' => ∃ r : Int, e = .returned (.int .i64 r) ∧ ((low.any badM = true ∧ 0 ≤ r) ∨ (low.any badM = false ∧ r = -1)) ∧ Bel w w' := by
  have HR := Lib.hid hr
  have HL := Lib.hid hr.len
  clear hr
  go_enter Try.func41, Try.ntmps41
  go_wp2
  go_loopw [8] (fun i wr => ∃ j : Nat, j ≤ n ∧ i = .int .i64 (j : Int) ∧ Hid ((low.take j).any badM = false) ∧ Hid (Bel w wr)) (fun i _ => n - (intOf i).toNat)
  case atStart => exact ⟨0, Nat.zero_le _, rfl, Lib.hid (by simp), Lib.hid (Bel.refl _)⟩
  case round =>
    obtain ⟨j, hj, rfl, HT, HB⟩ := hrel
    by_cases hlt : j < n
    · obtain ⟨b, off, eA, hb, hc⟩ := (HR.out.bel HB.out).at_ (by omega)
      subst eA
      have c0 := hc j hlt
      have i1 : (0 : Int) ≤ (j : Int) := by omega
      have i2 : (j : Int) < (n : Int) := by omega
      obtain ⟨y, hy⟩ : ∃ y, low[j]? = some y := ⟨_, List.getElem?_eq_getElem (by rw [← HL.out]; exact hlt)⟩
      rw [hy, Option.getD_some] at c0
      have HY := Lib.hid hy
      clear hc hy
      obtain ⟨bb, hbb⟩ : ∃ bb, bb = badM y := ⟨_, rfl⟩
      have HC : Hid (∀ W, Calls Try.prog 67 #[.int .u8 y] W fun e w' => e = .returned (.bool bb) ∧ Bel W w') := Lib.hid fun W => by rw [hbb]; exact mcl_any y W
      have HBB := Lib.hid hbb
      clear hbb
      cases bb
      · go_wp2_with fail
        refine (HC.out _).mono ?_
        rintro e w2 ⟨rfl, hb2⟩
        have HB2 := Lib.hid (HB.out.on hb2)
        clear hb2
        go_wp2
        go_roundw
        case rel => exact ⟨j + 1, by omega, by go_num, Lib.hid (by rw [take_snoc_ HY.out, List.any_append, HT.out]; simp [← HBB.out]), HB2⟩
        case measure => simp [intOf]; omega
      · go_wp2_with fail
        refine (HC.out _).mono ?_
        rintro e w2 ⟨rfl, hb2⟩
        have HB2 := Lib.hid (HB.out.on hb2)
        clear hb2
        go_wp2
        go_ret
        exact ⟨_, rfl, .inl ⟨List.any_eq_true.2 ⟨y, List.mem_of_getElem? HY.out, HBB.out.symm⟩, by omega⟩, HB2.out⟩
    · obtain rfl : j = n := by omega
      go_wp2
      go_ret
      refine ⟨_, rfl, .inr ⟨?_, rfl⟩, HB.out⟩
      have h := HT.out
      rw [HL.out, List.take_length] at h
      exact h
theorem mcont_any (A : Option Addr) (n cap : Nat) (low : List Int) (w : World) (hr : RI .u8 w w.heap.size A n low) (hmax : n ≤ 9223372036854775807) :
    Calls Try.prog 19 #[.slice A n cap, .func (.func 67) #[] #[]] w fun e w' => e = .returned (.bool (low.any badM)) ∧ Bel w w' := by
  go_enter Try.func19, Try.ntmps19
  go_wp2_with fail
  refine (midx_any A n cap low w hr hmax).mono ?_
  rintro e w2 ⟨r, rfl, ⟨h1, h2⟩ | ⟨h1, h2⟩, hb⟩
  · go_wp2
    go_ret
    exact ⟨by rw [h1]; rfl, hb⟩
  · subst h2
    go_wp2
    go_ret
    exact ⟨by rw [h1]; rfl, hb⟩

def badQ (n : Int) (x : Iq) : Bool := !x.may || ((x.m == 0) && decide (n ≤ x.v)) || decide (n ≤ x.r)
def mayF (n : Int) (low : List Int) (xs : List Iq) : Int :=
  if 1048576 < n ∨ 1048576 < xs.length then 3 else if n < 0 ∨ (low.length ≠ 0 ∧ (low.length : Int) ≠ n) then 2 else if low.any badM = true then 2 else if xs.any (badQ n) = true then 2 else 0

set_option maxRecDepth 100000 in
set_option maxHeartbeats 2000000 in
theorem lmay_any (n : Int) (G A : Option Addr) (ln lk len cap : Nat) (low : List Int) (xs : List Iq) (w : World) (hg : RI .u8 w w.heap.size G ln low) (hq : RQ w w.heap.size A len xs) (hlm : ln ≤ 9223372036854775807) :
    Calls Try.prog 44 #[.int .i64 n, .slice G ln lk, .slice A len cap] w fun e w' => e = .returned (.int .i64 (mayF n low xs)) ∧ Bel w w' := by
  have HG := Lib.hid hg
  have HQ := Lib.hid hq
  have HLX := Lib.hid hq.len
  have HLG := Lib.hid hg.len
  clear hg hq
  obtain ⟨r, hr⟩ : ∃ r, r = mayF n low xs := ⟨_, rfl⟩
  rw [← hr]
  unfold mayF at hr
  rw [← HLX.out, ← HLG.out] at hr
  by_cases h1 : 1048576 < n
  · rw [if_pos (.inl h1)] at hr
    subst hr
    go_enter Try.func44, Try.ntmps44
    go_wp2
    go_ret
    exact ⟨rfl, Bel.refl _⟩
  by_cases h2 : 1048576 < len
  · rw [if_pos (.inr h2)] at hr
    subst hr
    have h2' : (1048576 : Int) < (len : Int) := by omega
    go_enter Try.func44, Try.ntmps44
    go_wp2
    go_ret
    exact ⟨rfl, Bel.refl _⟩
  have h2' : decide ((1048576 : Int) < (len : Int)) = false := by simp; omega
  rw [if_neg (fun h => h.elim h1 h2)] at hr
  by_cases h3 : n < 0
  · rw [if_pos (.inl h3)] at hr
    subst hr
    go_enter Try.func44, Try.ntmps44
    go_wp2
    go_ret
    exact ⟨rfl, Bel.refl _⟩
  by_cases h4 : ln ≠ 0 ∧ (ln : Int) ≠ n
  · rw [if_pos (.inr h4)] at hr
    subst hr
    have h5 : ((ln : Int) == 0) = false := by simpa using h4.1
    have h6 : ((ln : Int) == n) = false := by simpa using h4.2
    have h5' : ¬ (ln : Int) = 0 := by simpa using h4.1
    have h6' : ¬ (ln : Int) = n := h4.2
    clear h4
    go_enter Try.func44, Try.ntmps44
    go_wp2
    go_ret
    exact ⟨rfl, Bel.refl _⟩
  rw [if_neg (fun h => h.elim h3 h4)] at hr
  have HR := Lib.hid hr
  have h7 : ((ln : Int) = 0 ∧ n = 0) ∨ ((ln : Int) = 0 ∧ ¬ n = 0) ∨ (¬ (ln : Int) = 0 ∧ (ln : Int) = n ∧ ¬ n = 0) := by
    by_cases e : ln = 0
    · by_cases e2 : n = 0
      · exact .inl ⟨by omega, e2⟩
      · exact .inr (.inl ⟨by omega, e2⟩)
    · have e3 : (ln : Int) = n := Classical.byContradiction fun h => h4 ⟨e, h⟩
      exact .inr (.inr ⟨by omega, e3, by omega⟩)
  clear hr h4
  have h1' : n ≤ 1048576 := by omega
  rcases h7 with ⟨h7, rfl⟩ | ⟨h7, h8⟩ | ⟨h7, h8, h9⟩
  · go_enter Try.func44, Try.ntmps44
    go_wp2_with fail
    refine (mcont_any G ln lk low w HG.out hlm).mono ?_
    rintro e w2 ⟨rfl, hb2⟩
    have HB2 := Lib.hid hb2
    clear hb2
    obtain ⟨bb, hbb⟩ : ∃ bb, bb = low.any badM := ⟨_, rfl⟩
    have hr := HR.out
    rw [← hbb] at hr ⊢
    clear hbb HR h1' h7 h2'
    cases bb
    · rw [if_neg (by simp)] at hr
      have HR := Lib.hid hr
      clear hr
      go_wp2
      go_loopw [33] (fun i wr => ∃ j : Nat, j ≤ len ∧ i = .int .i64 (j : Int) ∧ Hid ((xs.take j).any (badQ 0) = false) ∧ Hid (Bel w wr)) (fun i _ => len - (intOf i).toNat)
      case atStart => exact ⟨0, Nat.zero_le _, rfl, Lib.hid (by simp), HB2⟩
      case round =>
        obtain ⟨j, hj, rfl, HT, HB⟩ := hrel
        by_cases hlt : j < len
        · obtain ⟨b, off, eA, hb, hc⟩ := (HQ.out.bel HB.out).at_ (by omega)
          subst eA
          obtain ⟨x, hx⟩ : ∃ x, xs[j]? = some x := ⟨_, List.getElem?_eq_getElem (by rw [← HLX.out]; exact hlt)⟩
          obtain ⟨c0, c1, c2, c3⟩ := hc j x hx
          have HX := Lib.hid hx
          have i1 : (0 : Int) ≤ (j : Int) := by omega
          have i2 : (j : Int) < (len : Int) := by omega
          clear hc hx
          have hbad : badQ 0 x = true → r = 2 := fun hbq => by
            rw [HR.out, if_pos (List.any_eq_true.2 ⟨x, List.mem_of_getElem? HX.out, hbq⟩)]
          have HBAD := Lib.hid hbad
          clear hbad
          have hbw := (Bel.refl wr).alloc (.cells #[.int .i64 x.v, .int .u8 x.m, .int .u8 x.c, .int .i64 x.r] 34)
          have HBA := Lib.hid hbw
          have HXB := Lib.hid (blk1 wr (.cells #[.int .i64 x.v, .int .u8 x.m, .int .u8 x.c, .int .i64 x.r] 34))
          clear hbw
          rcases Bool.eq_false_or_eq_true x.may with hv | hv
          · have HV := Lib.hid hv
            clear hv
            go_wp2_with fail
            refine (imay_yes HV.out _).mono ?_
            rintro e w3 ⟨rfl, hb3⟩
            have HB3 := Lib.hid (HB.out.on (HBA.out.on hb3))
            have HX3 := Lib.hid (hb3.blk HXB.out)
            obtain ⟨d0, d1, d2, d3⟩ := cells4 HX3.out
            clear hb3 c0 c1 c2 c3
            obtain ⟨bl, hbl⟩ : ∃ b, b = (x.m == 0) := ⟨_, rfl⟩
            have HLF : Hid (∀ W, Calls Try.prog 68 #[.agg #[.int .i64 x.v, .int .u8 x.m, .int .u8 x.c, .int .i64 x.r]] W fun e w' => e = .returned (.bool bl) ∧ Bel W w') := Lib.hid fun W => by have h := hasLeft_any x W; rw [← hbl] at h; exact h
            have HBL := Lib.hid hbl
            clear hbl
            cases bl
            · go_wp2_with fail
              refine (HLF.out _).mono ?_
              rintro e w4 ⟨rfl, hb4⟩
              have HB4 := Lib.hid (HB3.out.on hb4)
              obtain ⟨e0, e1, e2, e3⟩ := cells4 (hb4.blk HX3.out)
              clear hb4 d0 d1 d2 d3
              by_cases hr3 : 0 ≤ x.r
              · have h2 := HBAD.out (by unfold badQ; simp [hr3])
                go_wp2
                all_goals (go_ret; first | exact ⟨rfl, HB4.out⟩ | exact ⟨by rw [h2]; rfl, HB4.out⟩)
              · have HREL := Lib.hid (show (xs.take (j + 1)).any (badQ 0) = false by rw [take_snoc_ HX.out, List.any_append, HT.out]; unfold badQ; simp [HV.out, ← HBL.out] <;> omega)
                go_wp2
                all_goals (go_roundw; all_goals (first | exact ⟨j + 1, by omega, by go_num, HREL, HB4⟩ | (simp [intOf] <;> omega)))
            · go_wp2_with fail
              refine (HLF.out _).mono ?_
              rintro e w4 ⟨rfl, hb4⟩
              have HB4 := Lib.hid (HB3.out.on hb4)
              obtain ⟨e0, e1, e2, e3⟩ := cells4 (hb4.blk HX3.out)
              clear hb4 d0 d1 d2 d3
              by_cases hv3 : 0 ≤ x.v
              · have h2 := HBAD.out (by unfold badQ; simp [hv3, ← HBL.out])
                go_wp2
                all_goals (go_ret; first | exact ⟨rfl, HB4.out⟩ | exact ⟨by rw [h2]; rfl, HB4.out⟩)
              · by_cases hr3 : 0 ≤ x.r
                · have h2 := HBAD.out (by unfold badQ; simp [hr3])
                  go_wp2
                  all_goals (go_ret; first | exact ⟨rfl, HB4.out⟩ | exact ⟨by rw [h2]; rfl, HB4.out⟩)
                · have HREL := Lib.hid (show (xs.take (j + 1)).any (badQ 0) = false by rw [take_snoc_ HX.out, List.any_append, HT.out]; unfold badQ; simp [HV.out, ← HBL.out] <;> omega)
                  go_wp2
                  all_goals (go_roundw; all_goals (first | exact ⟨j + 1, by omega, by go_num, HREL, HB4⟩ | (simp [intOf] <;> omega)))
          · have HV := Lib.hid hv
            clear hv
            go_wp2_with fail
            refine (imay_no HV.out _).mono ?_
            rintro e w3 ⟨rfl, hb3⟩
            have HB3 := Lib.hid (HB.out.on (HBA.out.on hb3))
            clear hb3
            go_wp2
            go_ret
            have h2 := HBAD.out (by unfold badQ; rw [HV.out]; rfl)
            rw [h2]
            exact ⟨rfl, HB3.out⟩
        · obtain rfl : j = len := by omega
          go_wp2
          go_ret
          have h := HT.out
          have hr := HR.out
          rw [HLX.out, List.take_length] at h
          rw [h] at hr
          rw [hr]
          exact ⟨rfl, HB.out⟩
    · rw [if_pos rfl] at hr
      subst hr
      go_wp2
      go_ret
      exact ⟨rfl, HB2.out⟩
  · go_enter Try.func44, Try.ntmps44
    go_wp2_with fail
    refine (mcont_any G ln lk low w HG.out hlm).mono ?_
    rintro e w2 ⟨rfl, hb2⟩
    have HB2 := Lib.hid hb2
    clear hb2
    obtain ⟨bb, hbb⟩ : ∃ bb, bb = low.any badM := ⟨_, rfl⟩
    have hr := HR.out
    rw [← hbb] at hr ⊢
    clear hbb HR h1' h7 h2'
    clear h8
    cases bb
    · rw [if_neg (by simp)] at hr
      have HR := Lib.hid hr
      clear hr
      go_wp2
      go_loopw [33] (fun i wr => ∃ j : Nat, j ≤ len ∧ i = .int .i64 (j : Int) ∧ Hid ((xs.take j).any (badQ n) = false) ∧ Hid (Bel w wr)) (fun i _ => len - (intOf i).toNat)
      case atStart => exact ⟨0, Nat.zero_le _, rfl, Lib.hid (by simp), HB2⟩
      case round =>
        obtain ⟨j, hj, rfl, HT, HB⟩ := hrel
        by_cases hlt : j < len
        · obtain ⟨b, off, eA, hb, hc⟩ := (HQ.out.bel HB.out).at_ (by omega)
          subst eA
          obtain ⟨x, hx⟩ : ∃ x, xs[j]? = some x := ⟨_, List.getElem?_eq_getElem (by rw [← HLX.out]; exact hlt)⟩
          obtain ⟨c0, c1, c2, c3⟩ := hc j x hx
          have HX := Lib.hid hx
          have i1 : (0 : Int) ≤ (j : Int) := by omega
          have i2 : (j : Int) < (len : Int) := by omega
          clear hc hx
          have hbad : badQ n x = true → r = 2 := fun hbq => by
            rw [HR.out, if_pos (List.any_eq_true.2 ⟨x, List.mem_of_getElem? HX.out, hbq⟩)]
          have HBAD := Lib.hid hbad
          clear hbad
          have hbw := (Bel.refl wr).alloc (.cells #[.int .i64 x.v, .int .u8 x.m, .int .u8 x.c, .int .i64 x.r] 34)
          have HBA := Lib.hid hbw
          have HXB := Lib.hid (blk1 wr (.cells #[.int .i64 x.v, .int .u8 x.m, .int .u8 x.c, .int .i64 x.r] 34))
          clear hbw
          rcases Bool.eq_false_or_eq_true x.may with hv | hv
          · have HV := Lib.hid hv
            clear hv
            go_wp2_with fail
            refine (imay_yes HV.out _).mono ?_
            rintro e w3 ⟨rfl, hb3⟩
            have HB3 := Lib.hid (HB.out.on (HBA.out.on hb3))
            have HX3 := Lib.hid (hb3.blk HXB.out)
            obtain ⟨d0, d1, d2, d3⟩ := cells4 HX3.out
            clear hb3 c0 c1 c2 c3
            obtain ⟨bl, hbl⟩ : ∃ b, b = (x.m == 0) := ⟨_, rfl⟩
            have HLF : Hid (∀ W, Calls Try.prog 68 #[.agg #[.int .i64 x.v, .int .u8 x.m, .int .u8 x.c, .int .i64 x.r]] W fun e w' => e = .returned (.bool bl) ∧ Bel W w') := Lib.hid fun W => by have h := hasLeft_any x W; rw [← hbl] at h; exact h
            have HBL := Lib.hid hbl
            clear hbl
            cases bl
            · go_wp2_with fail
              refine (HLF.out _).mono ?_
              rintro e w4 ⟨rfl, hb4⟩
              have HB4 := Lib.hid (HB3.out.on hb4)
              obtain ⟨e0, e1, e2, e3⟩ := cells4 (hb4.blk HX3.out)
              clear hb4 d0 d1 d2 d3
              by_cases hr3 : n ≤ x.r
              · have h2 := HBAD.out (by unfold badQ; simp [hr3])
                go_wp2
                all_goals (go_ret; first | exact ⟨rfl, HB4.out⟩ | exact ⟨by rw [h2]; rfl, HB4.out⟩)
              · have HREL := Lib.hid (show (xs.take (j + 1)).any (badQ n) = false by rw [take_snoc_ HX.out, List.any_append, HT.out]; unfold badQ; simp [HV.out, ← HBL.out] <;> omega)
                go_wp2
                all_goals (go_roundw; all_goals (first | exact ⟨j + 1, by omega, by go_num, HREL, HB4⟩ | (simp [intOf] <;> omega)))
            · go_wp2_with fail
              refine (HLF.out _).mono ?_
              rintro e w4 ⟨rfl, hb4⟩
              have HB4 := Lib.hid (HB3.out.on hb4)
              obtain ⟨e0, e1, e2, e3⟩ := cells4 (hb4.blk HX3.out)
              clear hb4 d0 d1 d2 d3
              by_cases hv3 : n ≤ x.v
              · have h2 := HBAD.out (by unfold badQ; simp [hv3, ← HBL.out])
                go_wp2
                all_goals (go_ret; first | exact ⟨rfl, HB4.out⟩ | exact ⟨by rw [h2]; rfl, HB4.out⟩)
              · by_cases hr3 : n ≤ x.r
                · have h2 := HBAD.out (by unfold badQ; simp [hr3])
                  go_wp2
                  all_goals (go_ret; first | exact ⟨rfl, HB4.out⟩ | exact ⟨by rw [h2]; rfl, HB4.out⟩)
                · have HREL := Lib.hid (show (xs.take (j + 1)).any (badQ n) = false by rw [take_snoc_ HX.out, List.any_append, HT.out]; unfold badQ; simp [HV.out, ← HBL.out] <;> omega)
                  go_wp2
                  all_goals (go_roundw; all_goals (first | exact ⟨j + 1, by omega, by go_num, HREL, HB4⟩ | (simp [intOf] <;> omega)))
          · have HV := Lib.hid hv
            clear hv
            go_wp2_with fail
            refine (imay_no HV.out _).mono ?_
            rintro e w3 ⟨rfl, hb3⟩
            have HB3 := Lib.hid (HB.out.on (HBA.out.on hb3))
            clear hb3
            go_wp2
            go_ret
            have h2 := HBAD.out (by unfold badQ; rw [HV.out]; rfl)
            rw [h2]
            exact ⟨rfl, HB3.out⟩
        · obtain rfl : j = len := by omega
          go_wp2
          go_ret
          have h := HT.out
          have hr := HR.out
          rw [HLX.out, List.take_length] at h
          rw [h] at hr
          rw [hr]
          exact ⟨rfl, HB.out⟩
    · rw [if_pos rfl] at hr
      subst hr
      go_wp2
      go_ret
      exact ⟨rfl, HB2.out⟩
  · go_enter Try.func44, Try.ntmps44
    go_wp2_with fail
    refine (mcont_any G ln lk low w HG.out hlm).mono ?_
    rintro e w2 ⟨rfl, hb2⟩
    have HB2 := Lib.hid hb2
    clear hb2
    obtain ⟨bb, hbb⟩ : ∃ bb, bb = low.any badM := ⟨_, rfl⟩
    have hr := HR.out
    rw [← hbb] at hr ⊢
    clear hbb HR h1' h7 h2'
    clear h8
    cases bb
    · rw [if_neg (by simp)] at hr
      have HR := Lib.hid hr
      clear hr
      go_wp2
      go_loopw [33] (fun i wr => ∃ j : Nat, j ≤ len ∧ i = .int .i64 (j : Int) ∧ Hid ((xs.take j).any (badQ n) = false) ∧ Hid (Bel w wr)) (fun i _ => len - (intOf i).toNat)
      case atStart => exact ⟨0, Nat.zero_le _, rfl, Lib.hid (by simp), HB2⟩
      case round =>
        obtain ⟨j, hj, rfl, HT, HB⟩ := hrel
        by_cases hlt : j < len
        · obtain ⟨b, off, eA, hb, hc⟩ := (HQ.out.bel HB.out).at_ (by omega)
          subst eA
          obtain ⟨x, hx⟩ : ∃ x, xs[j]? = some x := ⟨_, List.getElem?_eq_getElem (by rw [← HLX.out]; exact hlt)⟩
          obtain ⟨c0, c1, c2, c3⟩ := hc j x hx
          have HX := Lib.hid hx
          have i1 : (0 : Int) ≤ (j : Int) := by omega
          have i2 : (j : Int) < (len : Int) := by omega
          clear hc hx
          have hbad : badQ n x = true → r = 2 := fun hbq => by
            rw [HR.out, if_pos (List.any_eq_true.2 ⟨x, List.mem_of_getElem? HX.out, hbq⟩)]
          have HBAD := Lib.hid hbad
          clear hbad
          have hbw := (Bel.refl wr).alloc (.cells #[.int .i64 x.v, .int .u8 x.m, .int .u8 x.c, .int .i64 x.r] 34)
          have HBA := Lib.hid hbw
          have HXB := Lib.hid (blk1 wr (.cells #[.int .i64 x.v, .int .u8 x.m, .int .u8 x.c, .int .i64 x.r] 34))
          clear hbw
          rcases Bool.eq_false_or_eq_true x.may with hv | hv
          · have HV := Lib.hid hv
            clear hv
            go_wp2_with fail
            refine (imay_yes HV.out _).mono ?_
            rintro e w3 ⟨rfl, hb3⟩
            have HB3 := Lib.hid (HB.out.on (HBA.out.on hb3))
            have HX3 := Lib.hid (hb3.blk HXB.out)
            obtain ⟨d0, d1, d2, d3⟩ := cells4 HX3.out
            clear hb3 c0 c1 c2 c3
            obtain ⟨bl, hbl⟩ : ∃ b, b = (x.m == 0) := ⟨_, rfl⟩
            have HLF : Hid (∀ W, Calls Try.prog 68 #[.agg #[.int .i64 x.v, .int .u8 x.m, .int .u8 x.c, .int .i64 x.r]] W fun e w' => e = .returned (.bool bl) ∧ Bel W w') := Lib.hid fun W => by have h := hasLeft_any x W; rw [← hbl] at h; exact h
            have HBL := Lib.hid hbl
            clear hbl
            cases bl
            · go_wp2_with fail
              refine (HLF.out _).mono ?_
              rintro e w4 ⟨rfl, hb4⟩
              have HB4 := Lib.hid (HB3.out.on hb4)
              obtain ⟨e0, e1, e2, e3⟩ := cells4 (hb4.blk HX3.out)
              clear hb4 d0 d1 d2 d3
              by_cases hr3 : n ≤ x.r
              · have h2 := HBAD.out (by unfold badQ; simp [hr3])
                go_wp2
                all_goals (go_ret; first | exact ⟨rfl, HB4.out⟩ | exact ⟨by rw [h2]; rfl, HB4.out⟩)
              · have HREL := Lib.hid (show (xs.take (j + 1)).any (badQ n) = false by rw [take_snoc_ HX.out, List.any_append, HT.out]; unfold badQ; simp [HV.out, ← HBL.out] <;> omega)
                go_wp2
                all_goals (go_roundw; all_goals (first | exact ⟨j + 1, by omega, by go_num, HREL, HB4⟩ | (simp [intOf] <;> omega)))
            · go_wp2_with fail
              refine (HLF.out _).mono ?_
              rintro e w4 ⟨rfl, hb4⟩
              have HB4 := Lib.hid (HB3.out.on hb4)
              obtain ⟨e0, e1, e2, e3⟩ := cells4 (hb4.blk HX3.out)
              clear hb4 d0 d1 d2 d3
              by_cases hv3 : n ≤ x.v
              · have h2 := HBAD.out (by unfold badQ; simp [hv3, ← HBL.out])
                go_wp2
                all_goals (go_ret; first | exact ⟨rfl, HB4.out⟩ | exact ⟨by rw [h2]; rfl, HB4.out⟩)
              · by_cases hr3 : n ≤ x.r
                · have h2 := HBAD.out (by unfold badQ; simp [hr3])
                  go_wp2
                  all_goals (go_ret; first | exact ⟨rfl, HB4.out⟩ | exact ⟨by rw [h2]; rfl, HB4.out⟩)
                · have HREL := Lib.hid (show (xs.take (j + 1)).any (badQ n) = false by rw [take_snoc_ HX.out, List.any_append, HT.out]; unfold badQ; simp [HV.out, ← HBL.out] <;> omega)
                  go_wp2
                  all_goals (go_roundw; all_goals (first | exact ⟨j + 1, by omega, by go_num, HREL, HB4⟩ | (simp [intOf] <;> omega)))
          · have HV := Lib.hid hv
            clear hv
            go_wp2_with fail
            refine (imay_no HV.out _).mono ?_
            rintro e w3 ⟨rfl, hb3⟩
            have HB3 := Lib.hid (HB.out.on (HBA.out.on hb3))
            clear hb3
            go_wp2
            go_ret
            have h2 := HBAD.out (by unfold badQ; rw [HV.out]; rfl)
            rw [h2]
            exact ⟨rfl, HB3.out⟩
        · obtain rfl : j = len := by omega
          go_wp2
          go_ret
          have h := HT.out
          have hr := HR.out
          rw [HLX.out, List.take_length] at h
          rw [h] at hr
          rw [hr]
          exact ⟨rfl, HB.out⟩
    · rw [if_pos rfl] at hr
      subst hr
      go_wp2
      go_ret
      exact ⟨rfl, HB2.out⟩
end Go.Proofs.Ytlbachjhhjjmfaa.Mu
namespace Go.Proofs.Ytlbachjhhjjmfaa.Mu
open Go.ChangeShapes Go.WideShapes Go.ChangeAt Go.RowKit Go.Shelf

attribute [local go_sem] Oper.semAt_some

/-- The tables of next and first. -/
abbrev tabF (n len : Nat) (xs : List Iq) : List Int := (foldFN n len (backL xs len)).1
abbrev tabN (n len : Nat) (xs : List Iq) : List Int := (foldFN n len (backL xs len)).2
def low0 (n : Nat) (low : List Int) : List Int := if low.length = 0 then List.replicate n 1 else low
def run2 (n : Nat) (low : List Int) (xs : List Iq) (R : Nat → List Nat) : Option Nat × List Int × List Int := raiseF xs n 2 R (low0 n low) (List.replicate n 0)
def run3 (n : Nat) (low : List Int) (xs : List Iq) (R : Nat → List Nat) : Option Nat × List Int × List Int := raiseF xs n 3 R (run2 n low xs R).2.1 (run2 n low xs R).2.2

def SolvedPost (n : Nat) (G : List Int) (w : World) (e : Ending) (w' : World) : Prop :=
  ∃ ga, e = .returned (.tuple #[.slice (some ⟨ga, 0, none⟩) n n, .slice none 0 0, .int .i64 0]) ∧ Arr .u8 w' ga 30 G ∧ w.heap.size ≤ ga ∧ Bel w w'
def ClashPost (ws : List Nat) (w : World) (e : Ending) (w' : World) : Prop :=
  ∃ B A c, w.heap.size ≤ B ∧ e = .returned (.tuple #[.slice none 0 0, .slice A ws.length c, .int .i64 40]) ∧ w'.ownsRow B 3 1 (.slice A ws.length c) ws.length (((ints ws).mergeSort fun x y => decide (x ≤ y)).map (Value.int .i64)) ∧ Bel w w'

def SolvePost (T : Option Nat × List Int × List Int) (n : Nat) (ws : List Nat) (w : World) (e : Ending) (w' : World) : Prop :=
  match T.1 with
  | none => SolvedPost n T.2.1 w e w'
  | some i => ClashPost (i :: ws) w e w'

theorem solve_no (n : Int) (G A : Option Addr) (ln lk len cap : Nat) (low : List Int) (xs : List Iq) (w : World) (hg : RI .u8 w w.heap.size G ln low) (hq : RQ w w.heap.size A len xs) (hlm : ln ≤ 9223372036854775807) (hm : mayF n low xs ≠ 0) :
    Calls Try.prog 24 #[.int .i64 n, .slice G ln lk, .slice A len cap] w fun e w' => e = .returned (.tuple #[.slice none 0 0, .slice none 0 0, .int .i64 (mayF n low xs)]) ∧ Bel w w' := by
  obtain ⟨r, hr⟩ : ∃ r, r = mayF n low xs := ⟨_, rfl⟩
  rw [← hr] at hm ⊢
  have hc := lmay_any n G A ln lk len cap low xs w hg hq hlm
  rw [← hr] at hc
  have HC := Lib.hid hc
  clear hc hr hg hq
  go_enter Try.func24, Try.ntmps24
  go_wp2_with fail
  refine HC.out.mono ?_
  rintro e w2 ⟨rfl, hb2⟩
  go_wp2
  refine bodyPost_ret (results_tmp3 rfl _ _ _) rfl ?_
  exact ⟨rfl, hb2⟩

set_option maxRecDepth 100000 in
set_option maxHeartbeats 2000000 in
theorem solve_yes (n : Nat) (G A : Option Addr) (ln lk len cap : Nat) (low : List Int) (xs : List Iq) (R : Nat → List Nat) (w : World) (hg : RI .u8 w w.heap.size G ln low) (hq : RQ w w.heap.size A len xs) (hn : n ≤ 1048576) (hl : len ≤ 1048576) (hln : ln = 0 ∨ ln = n) (hm : mayF n low xs = 0)
    (hv : ∀ x ∈ xs, x.m = 0 → 0 ≤ x.v ∧ x.v < n) (hok : OkR n xs) (hR : ∀ v, v < n → Chain (tabN n len xs) ((tabF n len xs)[v]?.getD 0) (R v)) (T : Option Nat × List Int × List Int) (ws : List Nat)
    (hT : T = if (run2 n low xs R).1 = none then run3 n low xs R else run2 n low xs R) (hws : ∀ i, T.1 = some i → ws.length ≤ 1048576 ∧ Way xs T.2.2 i ws) :
    Calls Try.prog 24 #[.int .i64 n, .slice G ln lk, .slice A len cap] w (SolvePost T n ws w) := by
  have hlm : ln ≤ 9223372036854775807 := by omega
  have hc := lmay_any n G A ln lk len cap low xs w hg hq hlm
  rw [hm] at hc
  have HC := Lib.hid hc
  have HG := Lib.hid hg
  have HQ := Lib.hid hq
  have HV := Lib.hid hv
  have HOK := Lib.hid hok
  have HR := Lib.hid hR
  have HT := Lib.hid hT
  have HWS := Lib.hid hws
  have HN := Lib.hid hn
  have HL := Lib.hid hl
  have HLN := Lib.hid hln
  clear hc hg hq hv hok hR hT hws hm hln
  go_enter Try.func24, Try.ntmps24
  go_wp2_with fail
  refine HC.out.mono ?_
  rintro e w1 ⟨rfl, hb1⟩
  have HB1 := Lib.hid hb1
  clear hb1
  go_wp2_with fail
  refine (newSolver_any n len cap G A ln lk low xs HN.out HL.out w1 (HG.out.bel HB1.out) HLN.out (HQ.out.bel HB1.out) HV.out).mono ?_
  rintro e w2 ⟨s, gf, gn, ga, gb, gc, rfl, hd, hsol, hch, hb2⟩
  obtain ⟨k, hk⟩ : ∃ k : BkH, k = ⟨w1.heap.size, s, gf, gn, ga, gb, gc, A, len, cap, n⟩ := ⟨_, rfl⟩
  have hst : St w2 k xs (tabF n len xs) (tabN n len xs) (low0 n low) (List.replicate n 0) [] := by
    rw [hk]
    have hfl := fold_len n len (backL xs len)
    refine ⟨hd, hsol, ⟨0, 0, hch⟩, (HQ.out.bel HB1.out).keep fun b o hlt => hb2.cell (p := ⟨b, o, none⟩) hlt, hfl.1, hfl.2, ?_, by simp⟩
    unfold low0
    split
    · simp
    · rename_i h0
      have h1 := HG.out.len
      rcases HLN.out with h | h
      · omega
      · show low.length = n; omega
  have HST := Lib.hid hst
  have HB2 := Lib.hid hb2
  have HKB : Hid (k.base = w1.heap.size ∧ k.n = n ∧ k.len = len ∧ k.s = s) := Lib.hid (by rw [hk]; exact ⟨rfl, rfl, rfl, rfl⟩)
  have e3 := HKB.out.2.2.2
  rw [← e3]
  clear hst hb2 hd hsol hch hk e3
  go_wp2_with fail
  go_loopw [11] (fun mv wr => ((mv = .int .u8 2 ∧ Hid (St wr k xs (tabF n len xs) (tabN n len xs) (low0 n low) (List.replicate n 0) [])) ∨ (mv = .int .u8 3 ∧ Hid ((run2 n low xs R).1 = none) ∧ Hid (St wr k xs (tabF n len xs) (tabN n len xs) ((run2 n low xs R).2.1) ((run2 n low xs R).2.2) [])) ∨ (mv = .int .u8 4 ∧ Hid ((run2 n low xs R).1 = none) ∧ Hid ((run3 n low xs R).1 = none) ∧ Hid (St wr k xs (tabF n len xs) (tabN n len xs) (run3 n low xs R).2.1 (run3 n low xs R).2.2 []))) ∧ Hid (Below k.base w2 wr))
    (fun mv _ => (5 - intOf mv).toNat)
  case atStart => exact ⟨.inl ⟨rfl, HST⟩, Lib.hid (Below.refl _ _)⟩
  case round =>
    obtain ⟨⟨rfl, HS⟩ | ⟨rfl, H2, HS⟩ | ⟨rfl, H2, H3, HS⟩, HBR⟩ := hrel
    · have hrz := raise_any k xs (tabF n len xs) (tabN n len xs) (low0 n low) (List.replicate n 0) 2 R (by rw [HKB.out.2.2.1]; exact HL.out) (by rw [HKB.out.2.1]; exact HN.out) (by rw [HKB.out.2.1]; exact HOK.out) (by rw [HKB.out.2.1]; exact HR.out) wr HS.out
      have ez : raiseF xs k.n 2 R (low0 n low) (List.replicate n 0) = run2 n low xs R := by rw [HKB.out.2.1]; rfl
      rw [ez] at hrz
      have HRZ := Lib.hid hrz
      clear hrz ez
      go_wp2_with fail
      refine HRZ.out.mono ?_
      rintro e w3 ⟨rfl, ⟨Q', hQ, hs3⟩, hb3⟩
      have HB3 := Lib.hid (HBR.out.trans hb3)
      cases ht : (run2 n low xs R).1 with
      | none =>
        rw [hQ ht] at hs3
        have HS3 := Lib.hid hs3
        have HT3 := Lib.hid ht
        clear hs3 hb3 hQ ht
        simp only [retZ]
        go_wp2
        go_roundw
        case rel => exact ⟨.inr (.inl ⟨rfl, HT3, HS3⟩), HB3⟩
        case measure => simp [intOf]
      | some i =>
        have hT : T = run2 n low xs R := by
          rw [HT.out]
          rw [if_neg (by rw [ht]; simp)]
        have hT1 : T.1 = some i := by rw [hT, ht]
        obtain ⟨hw1, hw2⟩ := HWS.out i hT1
        rw [hT] at hw2
        have HW2 := Lib.hid hw2
        have HS3 := Lib.hid hs3
        have HT1 := Lib.hid hT1
        have HWL := Lib.hid hw1
        clear hs3 hb3 hQ ht hT hT1 hw1 hw2
        simp only [retZ]
        have n1 : ¬ ((i : Int) = -1) := by omega
        go_wp2_with fail
        refine (core_any k xs (tabF n len xs) (tabN n len xs) _ _ Q' i ws (by rw [HKB.out.2.2.1]; exact HL.out) (by rw [HKB.out.2.1]; exact HN.out) HWL.out HW2.out w3 HS3.out).mono ?_
        rintro e w4 ⟨A4, c4, rfl, ho4, hb4⟩
        have HO4 := Lib.hid ho4
        have HB4 := Lib.hid hb4
        clear ho4 hb4
        go_wp2
        refine bodyPost_ret (results_tmp3 rfl _ _ _) rfl ?_
        unfold SolvePost
        rw [HT1.out]
        have hbw3 : Bel w w3 := HB1.out.on (HB2.out.trans (by have h := HB3.out; rw [HKB.out.1] at h; exact h))
        exact ⟨w3.heap.size, A4, c4, hbw3.size, rfl, HO4.out, hbw3.on HB4.out⟩
    · have hrz := raise_any k xs (tabF n len xs) (tabN n len xs) ((run2 n low xs R).2.1) ((run2 n low xs R).2.2) 3 R (by rw [HKB.out.2.2.1]; exact HL.out) (by rw [HKB.out.2.1]; exact HN.out) (by rw [HKB.out.2.1]; exact HOK.out) (by rw [HKB.out.2.1]; exact HR.out) wr HS.out
      have ez : raiseF xs k.n 3 R ((run2 n low xs R).2.1) ((run2 n low xs R).2.2) = run3 n low xs R := by rw [HKB.out.2.1]; rfl
      rw [ez] at hrz
      have HRZ := Lib.hid hrz
      clear hrz ez
      go_wp2_with fail
      refine HRZ.out.mono ?_
      rintro e w3 ⟨rfl, ⟨Q', hQ, hs3⟩, hb3⟩
      have HB3 := Lib.hid (HBR.out.trans hb3)
      cases ht : (run3 n low xs R).1 with
      | none =>
        rw [hQ ht] at hs3
        have HS3 := Lib.hid hs3
        have HT3 := Lib.hid ht
        clear hs3 hb3 hQ ht
        simp only [retZ]
        go_wp2
        go_roundw
        case rel => exact ⟨.inr (.inr ⟨rfl, H2, HT3, HS3⟩), HB3⟩
        case measure => simp [intOf]
      | some i =>
        have hT : T = run3 n low xs R := by
          rw [HT.out]
          rw [if_pos H2.out]
        have hT1 : T.1 = some i := by rw [hT, ht]
        obtain ⟨hw1, hw2⟩ := HWS.out i hT1
        rw [hT] at hw2
        have HW2 := Lib.hid hw2
        have HS3 := Lib.hid hs3
        have HT1 := Lib.hid hT1
        have HWL := Lib.hid hw1
        clear hs3 hb3 hQ ht hT hT1 hw1 hw2
        simp only [retZ]
        have n1 : ¬ ((i : Int) = -1) := by omega
        go_wp2_with fail
        refine (core_any k xs (tabF n len xs) (tabN n len xs) _ _ Q' i ws (by rw [HKB.out.2.2.1]; exact HL.out) (by rw [HKB.out.2.1]; exact HN.out) HWL.out HW2.out w3 HS3.out).mono ?_
        rintro e w4 ⟨A4, c4, rfl, ho4, hb4⟩
        have HO4 := Lib.hid ho4
        have HB4 := Lib.hid hb4
        clear ho4 hb4
        go_wp2
        refine bodyPost_ret (results_tmp3 rfl _ _ _) rfl ?_
        unfold SolvePost
        rw [HT1.out]
        have hbw3 : Bel w w3 := HB1.out.on (HB2.out.trans (by have h := HB3.out; rw [HKB.out.1] at h; exact h))
        exact ⟨w3.heap.size, A4, c4, hbw3.size, rfl, HO4.out, hbw3.on HB4.out⟩
    · have q3 : wr.cell? ⟨k.s, 3, none⟩ = some (.slice (some ⟨k.ga, 0, none⟩) k.n k.n) := by simp [World.cell?, HS.out.sol.hs, cellsS]
      rw [HKB.out.2.1] at q3
      go_wp2
      refine bodyPost_ret (results_tmp3 rfl _ _ _) rfl ?_
      have hT : T = run3 n low xs R := by rw [HT.out, if_pos H2.out]
      have hT1 : T.1 = none := by rw [hT]; exact H3.out
      unfold SolvePost
      rw [hT1, hT]
      have hbw : Bel w wr := HB1.out.on (HB2.out.trans (by have h := HBR.out; rw [HKB.out.1] at h; exact h))
      exact ⟨k.ga, rfl, HS.out.sol.ha, (by have h1 := HS.out.d.1.2.2.2.1; rw [HKB.out.1] at h1; exact Nat.le_trans HB1.out.size h1), hbw⟩
end Go.Proofs.Ytlbachjhhjjmfaa.Mu
namespace Go.Proofs.Ytlbachjhhjjmfaa.Mu
open Go

/-- The numbers from j on of the inequalities whose L is the variable v. -/
def rowFrom (xs : List Iq) (v j : Nat) : List Nat := (List.range' j (xs.length - j)).filter fun i => decide ((xs[i]?.getD iq0).m = 0 ∧ (xs[i]?.getD iq0).v = v)
def rowOf (xs : List Iq) (v : Nat) : List Nat := rowFrom xs v 0
theorem rowFrom_end (xs : List Iq) (v : Nat) {j : Nat} (h : xs.length ≤ j) : rowFrom xs v j = [] := by
  unfold rowFrom; rw [show xs.length - j = 0 by omega]; rfl
theorem rowFrom_step (xs : List Iq) (v : Nat) {j : Nat} (h : j < xs.length) : rowFrom xs v j = if (xs[j]?.getD iq0).m = 0 ∧ (xs[j]?.getD iq0).v = v then j :: rowFrom xs v (j + 1) else rowFrom xs v (j + 1) := by
  unfold rowFrom
  rw [show xs.length - j = (xs.length - (j + 1)) + 1 by omega, List.range'_succ, List.filter_cons]
  simp only [decide_eq_true_eq]
theorem rowFrom_ge (xs : List Iq) (v j : Nat) : ∀ i ∈ rowFrom xs v j, j ≤ i ∧ i < xs.length := by
  intro i hi
  have := (List.mem_filter.1 hi).1
  simp [List.mem_range'] at this
  omega
theorem mem_rowOf {xs : List Iq} {v i : Nat} : i ∈ rowOf xs v ↔ i < xs.length ∧ (xs[i]?.getD iq0).m = 0 ∧ (xs[i]?.getD iq0).v = v := by
  simp [rowOf, rowFrom, List.mem_range']
theorem Chain.set_ {N : List Int} {a : Nat} {y : Int} : ∀ {is : List Nat} {p : Int}, (∀ i ∈ is, i ≠ a) → Chain N p is → Chain (N.set a y) p is
  | [], _, _, h => h
  | i :: is, p, hne, ⟨h1, h2, h3, h4⟩ => by
    have e : (N.set a y)[i]?.getD 0 = N[i]?.getD 0 := by rw [List.getElem?_set_ne (fun e => hne i (by simp) e.symm)]
    refine ⟨h1, by simpa using h2, by rw [e]; exact h3, ?_⟩
    rw [e]
    exact Chain.set_ (fun j hj => hne j (List.mem_cons_of_mem _ hj)) h4
theorem rows_inv (n : Nat) (xs : List Iq) (hv : ∀ x ∈ xs, x.m = 0 → 0 ≤ x.v ∧ x.v < n) : ∀ k, k ≤ xs.length → ∀ v, v < n → Chain (foldFN n xs.length (backL xs k)).2 ((foldFN n xs.length (backL xs k)).1[v]?.getD 0) (rowFrom xs v (xs.length - k)) := by
  intro k
  induction k with
  | zero =>
    intro _ v hvn
    rw [rowFrom_end xs v (by omega)]
    show (List.replicate n (-1 : Int))[v]?.getD 0 = -1
    simp [hvn]
  | succ k ih =>
    intro hk v hvn
    have hlen := fold_len n xs.length (backL xs k)
    have hx : xs[xs.length - 1 - k]? = some (xs[xs.length - 1 - k]?.getD iq0) := by rw [List.getElem?_eq_getElem (by omega)]; rfl
    have hfold : foldFN n xs.length (backL xs (k + 1)) = stepFN (foldFN n xs.length (backL xs k)) (xs.length - 1 - k, xs[xs.length - 1 - k]?.getD iq0) := by
      rw [backL_succ]
      unfold foldFN
      rw [List.foldl_append]
      rfl
    obtain ⟨FN, hFN⟩ : ∃ FN, FN = foldFN n xs.length (backL xs k) := ⟨_, rfl⟩
    rw [← hFN] at hfold hlen
    have ihv : ∀ v, v < n → Chain FN.2 (FN.1[v]?.getD 0) (rowFrom xs v (xs.length - k)) := fun v hvn => by rw [hFN]; exact ih (by omega) v hvn
    obtain ⟨j, hj⟩ : ∃ j, j = xs.length - 1 - k := ⟨_, rfl⟩
    rw [← hj] at hfold hx
    have e1 : xs.length - (k + 1) = j := by omega
    have e2 : xs.length - k = j + 1 := by omega
    rw [hfold, e1, rowFrom_step xs v (by omega)]
    rw [e2] at ihv
    unfold stepFN
    dsimp only
    by_cases hm : (xs[j]?.getD iq0).m = 0
    · rw [if_pos hm]
      obtain ⟨v0, v1⟩ := hv _ (List.mem_of_getElem? hx) hm
      obtain ⟨u, hu⟩ : ∃ u : Nat, (xs[j]?.getD iq0).v = u := ⟨(xs[j]?.getD iq0).v.toNat, by omega⟩
      rw [hu]
      simp only [Int.toNat_natCast]
      by_cases e : u = v
      · subst e
        rw [if_pos ⟨hm, rfl⟩]
        have hc := ihv u hvn
        have ef : (FN.1.set u (j : Int))[u]?.getD 0 = (j : Int) := by rw [List.getElem?_set_self (by omega)]; rfl
        have en : (FN.2.set j (FN.1[u]?.getD 0))[j]?.getD 0 = FN.1[u]?.getD 0 := by rw [List.getElem?_set_self (by omega)]; rfl
        refine ⟨ef, by simp; omega, ?_, ?_⟩
        · rw [en]
          cases hr : rowFrom xs u (j + 1) with
          | nil => rw [hr] at hc; exact .inl hc
          | cons i is =>
            rw [hr] at hc
            have := (rowFrom_ge xs u (j + 1) i (by rw [hr]; simp)).1
            right
            rw [hc.1]; omega
        · rw [en]
          exact Chain.set_ (fun i hi => by have := (rowFrom_ge xs u (j + 1) i hi).1; omega) hc
      · rw [if_neg (fun h => e (by have := h.2; omega))]
        have ef : (FN.1.set u (j : Int))[v]?.getD 0 = FN.1[v]?.getD 0 := by rw [List.getElem?_set_ne e]
        rw [ef]
        exact Chain.set_ (fun i hi => by have := (rowFrom_ge xs v (j + 1) i hi).1; omega) (ihv v hvn)
    · rw [if_neg hm, if_neg (fun h => hm h.1)]
      exact ihv v hvn
theorem rows_ok (n : Nat) (xs : List Iq) (hv : ∀ x ∈ xs, x.m = 0 → 0 ≤ x.v ∧ x.v < n) (v : Nat) (hvn : v < n) : Chain (tabN n xs.length xs) ((tabF n xs.length xs)[v]?.getD 0) (rowOf xs v) := by
  have h := rows_inv n xs hv xs.length (Nat.le_refl _) v hvn
  rw [Nat.sub_self] at h
  exact h
end Go.Proofs.Ytlbachjhhjjmfaa.Mu
namespace Go.Proofs.Ytlbachjhhjjmfaa.Mu
open Go

section
variable {xs : List Iq} {n : Nat} {m : Int} {G : List Int}

/-- Why v is raised, those in pre being raised ahead of it. -/
def Why (xs : List Iq) (m : Int) (G B : List Int) (pre : List Nat) (v : Nat) : Prop :=
  (m ≤ G[v]?.getD 0 ∧ B[v]? = some (-2)) ∨
    (G[v]?.getD 0 < m ∧ ∃ (i : Nat) (x : Iq), B[v]? = some (i : Int) ∧ xs[i]? = some x ∧ x.c < m ∧ x.r = v ∧ (m ≤ x.m ∨ (x.m = 0 ∧ 0 ≤ x.v ∧ x.v.toNat ∈ pre)))
/-- The variables raised so far, in their order. -/
structure Ord (xs : List Iq) (n : Nat) (m : Int) (G B : List Int) (O : List Nat) : Prop where
  lb : B.length = n
  nd : O.Nodup
  rng : ∀ v ∈ O, v < n
  un : ∀ v, v < n → (B[v]?.getD 0 = -1 ↔ v ∉ O)
  all : ∀ v, v < n → m ≤ G[v]?.getD 0 → v ∈ O
  why : ∀ pre v post, O = pre ++ v :: post → Why xs m G B pre v
/-- L of the inequality must be m at least: it is such a constant, or a variable that is raised. -/
def Act_ (m : Int) (O : List Nat) (x : Iq) : Prop := m ≤ x.m ∨ (x.m = 0 ∧ 0 ≤ x.v ∧ x.v.toNat ∈ O)
theorem Act_.mono {O O' : List Nat} {x : Iq} (h : Act_ m O x) (hs : ∀ v ∈ O, v ∈ O') : Act_ m O' x := h.imp id (fun ⟨a, b, c⟩ => ⟨a, b, hs _ c⟩)
/-- What it asks of its other side is done. -/
def Done (m : Int) (O : List Nat) (x : Iq) : Prop := m ≤ x.c ∨ (0 ≤ x.r ∧ x.r.toNat ∈ O)
theorem Done.mono {O O' : List Nat} {x : Iq} (h : Done m O x) (hs : ∀ v ∈ O, v ∈ O') : Done m O' x := h.imp id (fun ⟨a, b⟩ => ⟨a, hs _ b⟩)

theorem BQ.room' {B Q : List Int} (h : BQ n B Q) {q : List Nat} (e : Q = ints q := by rfl) : B.count (-1) + q.length ≤ n := by
  have := h.room; rw [e] at this; simpa [ints] using this
theorem ints_snoc (q : List Nat) {r : Int} (h : 0 ≤ r) : ints q ++ [r] = ints (q ++ [r.toNat]) := by
  simp [ints]; omega

theorem ord_push {B : List Int} {O : List Nat} {i : Nat} {x : Iq} (h : Ord xs n m G B O) (hx : xs[i]? = some x) (hc : x.c < m) (hr0 : 0 ≤ x.r) (hrn : x.r < n) (hu : B[x.r.toNat]?.getD 0 = -1) (ha : Act_ m O x) :
    Ord xs n m G (B.set x.r.toNat i) (O ++ [x.r.toNat]) := by
  have hlt : x.r.toNat < n := by omega
  have hno : x.r.toNat ∉ O := (h.un _ hlt).1 hu
  have hsame : ∀ v, v ≠ x.r.toNat → (B.set x.r.toNat (i : Int))[v]? = B[v]? := fun v hv => List.getElem?_set_ne (fun e => hv e.symm)
  have hnew : (B.set x.r.toNat (i : Int))[x.r.toNat]? = some (i : Int) := List.getElem?_set_self (by rw [h.lb]; exact hlt)
  have hG : G[x.r.toNat]?.getD 0 < m := by
    rcases Int.lt_or_le (G[x.r.toNat]?.getD 0) m with h' | h'
    · exact h'
    · exact absurd (h.all _ hlt h') hno
  refine ⟨by simpa using h.lb, ?_, ?_, ?_, fun v hv hg => List.mem_append_left _ (h.all v hv hg), ?_⟩
  · rw [List.nodup_append]
    exact ⟨h.nd, by simp, fun a ha' b hb e => by rw [List.mem_singleton.1 hb] at e; subst e; exact hno ha'⟩
  · intro v hv
    rcases List.mem_append.1 hv with hv | hv
    · exact h.rng v hv
    · rw [List.mem_singleton.1 hv]; exact hlt
  · intro v hv
    by_cases e : v = x.r.toNat
    · subst e
      rw [hnew]
      simp
    · rw [hsame v e, h.un v hv]
      simp [e]
  · intro pre v post he
    rcases List.eq_nil_or_concat post with rfl | ⟨post', z, rfl⟩
    · have h1 := List.append_inj' he (by simp)
      obtain ⟨h2, h3⟩ := h1
      injection h3 with h3
      subst h2 h3
      right
      refine ⟨hG, i, x, hnew, hx, hc, by omega, ha⟩
    · have h1 : O ++ [x.r.toNat] = (pre ++ v :: post') ++ [z] := by rw [he]; simp
      obtain ⟨h2, h3⟩ := List.append_inj' h1 (by simp)
      have hne : v ≠ x.r.toNat := fun e => hno (by rw [h2, ← e]; simp)
      have hw := h.why pre v post' h2
      unfold Why at *
      rw [hsame v hne]
      exact hw
/-- handOn at an inequality whose L must be m at least. -/
theorem ord_hand {B : List Int} {d q : List Nat} {i : Nat} {x : Iq} (h : Ord xs n m G B (d ++ q)) (hx : xs[i]? = some x) (hr : x.r = -1 ∨ 0 ≤ x.r ∧ x.r < n) (ha : Act_ m (d ++ q) x) :
    ((handF B (ints q) x m i).1 = true ∧ ∃ q', (handF B (ints q) x m i).2.2 = ints (q ++ q') ∧ Ord xs n m G (handF B (ints q) x m i).2.1 (d ++ (q ++ q')) ∧ Done m (d ++ (q ++ q')) x) ∨
    ((handF B (ints q) x m i).1 = false ∧ x.c < m ∧ x.r = -1) := by
  unfold handF
  by_cases h1 : m ≤ x.c
  · left
    rw [if_pos h1]
    exact ⟨rfl, [], by simp, by simpa using h, .inl h1⟩
  · rw [if_neg h1]
    by_cases h2 : x.r = -1
    · right
      rw [if_pos h2]
      exact ⟨rfl, by omega, h2⟩
    · obtain ⟨r0, r1⟩ := hr.resolve_left h2
      left
      rw [if_neg h2]
      by_cases h3 : B[x.r.toNat]?.getD 0 = -1
      · rw [if_pos h3]
        refine ⟨rfl, [x.r.toNat], ints_snoc q r0, ?_, .inr ⟨r0, by simp⟩⟩
        have := ord_push h hx (by omega) r0 r1 h3 ha
        rwa [List.append_assoc] at this
      · rw [if_neg h3]
        refine ⟨rfl, [], by simp, by simpa using h, .inr ⟨r0, ?_⟩⟩
        have := (h.un x.r.toNat (by omega))
        simp only [List.append_nil]
        exact Classical.byContradiction fun hn => h3 (this.2 hn)
theorem ord_handL (hok : OkR n xs) : ∀ (is : List Nat) {B : List Int} {d q : List Nat}, Ord xs n m G B (d ++ q) → (∀ i ∈ is, ∃ x, xs[i]? = some x ∧ Act_ m (d ++ q) x) →
    ((handL xs m is B (ints q)).1 = none ∧ ∃ q', (handL xs m is B (ints q)).2.2 = ints (q ++ q') ∧ Ord xs n m G (handL xs m is B (ints q)).2.1 (d ++ (q ++ q')) ∧ ∀ i ∈ is, ∀ x, xs[i]? = some x → Done m (d ++ (q ++ q')) x) ∨
    (∃ i x q', (handL xs m is B (ints q)).1 = some i ∧ xs[i]? = some x ∧ x.c < m ∧ x.r = -1 ∧ Ord xs n m G (handL xs m is B (ints q)).2.1 (d ++ (q ++ q')) ∧ Act_ m (d ++ (q ++ q')) x) := by
  intro is
  induction is with
  | nil =>
    intro B d q h _
    left
    exact ⟨rfl, [], by simp [handL], by simpa [handL] using h, fun i hi => by cases hi⟩
  | cons i is ih =>
    intro B d q h hi
    obtain ⟨x, hx, ha⟩ := hi i (by simp)
    rw [handL_cons hx]
    rcases ord_hand h hx (hok.at_ hx) ha with ⟨h1, q', h2, h3, h4⟩ | ⟨h1, h2, h3⟩
    · rw [if_pos h1, h2]
      have sub : ∀ v ∈ d ++ q, v ∈ d ++ (q ++ q') := fun v hv => by
        rcases List.mem_append.1 hv with hv | hv
        · exact List.mem_append_left _ hv
        · exact List.mem_append_right _ (List.mem_append_left _ hv)
      rcases ih h3 (fun j hj => by obtain ⟨y, hy, hy2⟩ := hi j (List.mem_cons_of_mem _ hj); exact ⟨y, hy, hy2.mono sub⟩) with ⟨a, q2, b, c, e⟩ | ⟨j, y, q2, a, b, c, e, f, g⟩
      · left
        refine ⟨a, q' ++ q2, by rw [b, List.append_assoc], by rw [← List.append_assoc q]; exact c, fun j hj y hy => ?_⟩
        rcases List.mem_cons.1 hj with rfl | hj
        · rw [hx] at hy; cases hy
          exact h4.mono fun v hv => by
            rcases List.mem_append.1 hv with hv | hv
            · exact List.mem_append_left _ hv
            · rcases List.mem_append.1 hv with hv | hv
              · exact List.mem_append_right _ (List.mem_append_left _ hv)
              · exact List.mem_append_right _ (List.mem_append_right _ (List.mem_append_left _ hv))
        · rw [← List.append_assoc q]; exact e j hj y hy
      · right
        exact ⟨j, y, q' ++ q2, a, b, c, e, by rw [← List.append_assoc q]; exact f, by rw [← List.append_assoc q]; exact g⟩
    · right
      rw [h1]
      exact ⟨i, x, [], rfl, hx, h2, h3, by simpa using h, by simpa using ha⟩

/-- The way back from an inequality whose L is raised. -/
theorem way_of {B : List Int} {O : List Nat} (h : Ord xs n m G B O) (hm : 1 < m) : ∀ (p : Nat) (pre post : List Nat), pre.length = p → O = pre ++ post → ∀ (i : Nat) (x : Iq), xs[i]? = some x → Act_ m pre x → ∃ ws, ws.length ≤ p ∧ Way xs B i ws := by
  intro p
  induction p using Nat.strongRecOn with
  | ind p ih =>
    intro pre post hp hO i x hx ha
    rcases ha with ha | ⟨h0, h1, h2⟩
    · exact ⟨[], Nat.zero_le _, x, hx, .inl (by omega)⟩
    · obtain ⟨a, b, rfl⟩ := List.append_of_mem h2
      have hO' : O = a ++ x.v.toNat :: (b ++ post) := by rw [hO]; simp
      rcases h.why a x.v.toNat (b ++ post) hO' with ⟨_, hb⟩ | ⟨_, j, y, hb, hy, _, _, hact⟩
      · exact ⟨[], Nat.zero_le _, x, hx, .inr ⟨h0, h1, hb⟩⟩
      · have hlt : a.length < p := by rw [← hp]; simp
        obtain ⟨ws, hw1, hw2⟩ := ih a.length hlt a (x.v.toNat :: (b ++ post)) rfl hO' j y hy (hact.imp id (fun ⟨u, v, w⟩ => ⟨u, v, w⟩))
        exact ⟨j :: ws, by simp; omega, x, hx, h0, h1, hb, hw2⟩

theorem begQ_eq (G : List Int) (m : Int) (n : Nat) : begQ G m n = ints ((List.range n).filter fun v => decide (m ≤ G[v]?.getD 0)) := by
  induction n with
  | zero => rfl
  | succ n ih =>
    simp only [begQ, ih, List.range_succ, List.filter_append, ints, List.map_append]
    congr 1
    by_cases h : m ≤ G[n]?.getD 0 <;> simp [h]
theorem ord_begin {B : List Int} (hb : B.length = n) : ∃ q, begQ G m n = ints q ∧ Ord xs n m G (begB G m B n) q := by
  refine ⟨_, begQ_eq G m n, by rw [begB_len]; exact hb, List.nodup_range.filter _, fun v hv => by simpa using (List.mem_filter.1 hv).1, ?_, ?_, ?_⟩
  · intro v hv
    rw [beg_eq hb]
    by_cases h : m ≤ G[v]?.getD 0 <;> simp [h, hv]
  · intro v hv hg
    simp [hv, hg]
  · intro pre v post he
    have hv : v ∈ (List.range n).filter fun v => decide (m ≤ G[v]?.getD 0) := by rw [he]; simp
    obtain ⟨h1, h2⟩ := List.mem_filter.1 hv
    have h1' : v < n := by simpa using h1
    have h2' : m ≤ G[v]?.getD 0 := by simpa using h2
    left
    refine ⟨h2', ?_⟩
    rw [beg_eq hb]
    simp [h1', h2']

/-- The multiplicities behind raising these to m. -/
def up (m : Int) (G : List Int) (D : List Nat) : List Int := D.foldl (fun G v => G.set v (max (G[v]?.getD 0) m)) G
theorem up_snoc (D : List Nat) (v : Nat) (G : List Int) : up m G (D ++ [v]) = (up m G D).set v (max ((up m G D)[v]?.getD 0) m) := by simp [up, List.foldl_append]
theorem ord_todoL (hok : OkR n xs) : ∀ (f : Nat) {B : List Int} {d q : List Nat}, Ord xs n m G B (d ++ q) → B.count (-1) + q.length ≤ f →
    (∀ v ∈ d, ∀ i ∈ rowOf xs v, ∀ x, xs[i]? = some x → Done m (d ++ q) x) → BQ n B (ints q) →
    ((todoL xs m (rowOf xs) f (up m G d) B (ints q)).1 = none ∧ ∃ D, (todoL xs m (rowOf xs) f (up m G d) B (ints q)).2.1 = up m G D ∧ Ord xs n m G (todoL xs m (rowOf xs) f (up m G d) B (ints q)).2.2 D ∧ (∀ v ∈ d ++ q, v ∈ D) ∧ (∀ v ∈ D, ∀ i ∈ rowOf xs v, ∀ x, xs[i]? = some x → Done m D x)) ∨
    (∃ i x O, (todoL xs m (rowOf xs) f (up m G d) B (ints q)).1 = some i ∧ xs[i]? = some x ∧ x.c < m ∧ x.r = -1 ∧ Ord xs n m G (todoL xs m (rowOf xs) f (up m G d) B (ints q)).2.2 O ∧ Act_ m O x) := by
  intro f
  induction f with
  | zero =>
    intro B d q h hf hcl _
    obtain rfl : q = [] := by cases q with
      | nil => rfl
      | cons a b => simp at hf
    left
    exact ⟨rfl, d, rfl, by simpa [todoL] using h, by simp, by simpa using hcl⟩
  | succ f ih =>
    intro B d q h hf hcl hbq
    cases q with
    | nil =>
      left
      rw [show ints [] = [] from rfl, todoL_nil]
      exact ⟨rfl, d, rfl, by simpa using h, by simp, by simpa using hcl⟩
    | cons v q =>
      have hO : d ++ v :: q = (d ++ [v]) ++ q := by simp
      rw [hO] at h hcl
      have hvn : v < n := h.rng v (by simp)
      have hb3 : BQ n B (ints q) := ⟨hbq.lb, by have := hbq.room; simp [ints] at this ⊢; omega, fun u hu => hbq.ok u (List.mem_cons_of_mem _ hu)⟩
      have hrow : ∀ i ∈ rowOf xs v, ∃ x, xs[i]? = some x ∧ Act_ m ((d ++ [v]) ++ q) x := fun i hi => by
        obtain ⟨h1, h2, h3⟩ := mem_rowOf.1 hi
        rw [List.getElem?_eq_getElem h1] at h2 h3
        refine ⟨xs[i], List.getElem?_eq_getElem h1, .inr ⟨h2, by simp at h3; omega, ?_⟩⟩
        simp at h3
        have : (xs[i]).v.toNat = v := by omega
        rw [this]; simp
      have htot := handL_BQ hok (m := m) (rowOf xs v) (fun i hi => (mem_rowOf.1 hi).1) hb3
      have hup : (up m G d).set (v : Int).toNat (max ((up m G d)[(v : Int).toNat]?.getD 0) m) = up m G (d ++ [v]) := (up_snoc d v G).symm
      rw [show ints (v :: q) = (v : Int) :: ints q from rfl]
      simp only [todoL, Int.toNat_natCast] at *
      rcases ord_handL hok (rowOf xs v) h hrow with ⟨h1, q', h2, h3, h4⟩ | ⟨i, x, q', h1, h2, h3, h4, h5, h6⟩
      · obtain ⟨T, hT⟩ : ∃ T, T = handL xs m (rowOf xs v) B (ints q) := ⟨_, rfl⟩
        rw [← hT] at h1 h2 h3 htot ⊢
        obtain ⟨t1, t2, t3⟩ := T
        dsimp only at h1 h2 h3 htot ⊢
        subst h1 h2
        dsimp only
        rw [hup]
        have hsub : ∀ u ∈ (d ++ [v]) ++ q, u ∈ (d ++ [v]) ++ (q ++ q') := fun u hu => by
          rcases List.mem_append.1 hu with hu | hu
          · exact List.mem_append_left _ hu
          · exact List.mem_append_right _ (List.mem_append_left _ hu)
        have := ih h3 (by have := htot.2; simp [ints] at this hf ⊢; omega) (fun u hu i hi x hx => by
          rcases List.mem_append.1 hu with hu | hu
          · exact (hcl u hu i hi x hx).mono hsub
          · rw [List.mem_singleton.1 hu] at hi
            exact h4 i hi x hx) htot.1
        rcases this with ⟨a, D, b, c, e, g⟩ | this
        · left
          exact ⟨a, D, b, c, fun u hu => e u (hsub u (by rw [← hO]; exact hu)), g⟩
        · exact .inr this
      · right
        obtain ⟨T, hT⟩ : ∃ T, T = handL xs m (rowOf xs v) B (ints q) := ⟨_, rfl⟩
        rw [← hT] at h1 h5 ⊢
        obtain ⟨t1, t2, t3⟩ := T
        dsimp only at h1 h5 ⊢
        subst h1
        exact ⟨i, x, _, rfl, h2, h3, h4, h5, h6⟩
theorem mem_firstL {i : Nat} : i ∈ firstL xs m 0 ↔ i < xs.length ∧ m ≤ (xs[i]?.getD iq0).m := by
  simp [firstL, List.mem_range']
/-- What raise comes to. -/
def Raised (xs : List Iq) (n : Nat) (m : Int) (G : List Int) (T : Option Nat × List Int × List Int) : Prop :=
  (T.1 = none ∧ ∃ D, T.2.1 = up m G D ∧ Ord xs n m G T.2.2 D ∧ ∀ x ∈ xs, Act_ m D x → Done m D x) ∨
  (∃ i x O, T.1 = some i ∧ xs[i]? = some x ∧ x.c < m ∧ x.r = -1 ∧ Ord xs n m G T.2.2 O ∧ Act_ m O x)
theorem raise_ok (hok : OkR n xs) {B0 : List Int} (hb : B0.length = n) : Raised xs n m G (raiseF xs n m (rowOf xs) G B0) := by
  obtain ⟨q, hq, ho⟩ := ord_begin (xs := xs) (m := m) (G := G) hb
  have hact : ∀ i ∈ firstL xs m 0, ∃ x, xs[i]? = some x ∧ Act_ m ([] ++ q) x := fun i hi => by
    obtain ⟨h1, h2⟩ := mem_firstL.1 hi
    rw [List.getElem?_eq_getElem h1] at h2
    exact ⟨xs[i], List.getElem?_eq_getElem h1, .inl h2⟩
  have hbq := beg_BQ (G := G) (m := m) hb
  have htot := handL_BQ hok (m := m) (firstL xs m 0) (fun i hi => (mem_firstL.1 hi).1) hbq
  have h := ord_handL hok (firstL xs m 0) (d := []) (q := q) (by simpa using ho) hact
  unfold raiseF
  rw [hq] at htot ⊢
  obtain ⟨T, hT⟩ : ∃ T, T = handL xs m (firstL xs m 0) (begB G m B0 n) (ints q) := ⟨_, rfl⟩
  rw [← hT] at h htot ⊢
  obtain ⟨t1, t2, t3⟩ := T
  dsimp only at h htot ⊢
  rcases h with ⟨rfl, q', rfl, h3, h4⟩ | ⟨i, x, q', rfl, h2, h3, h4, h5, h6⟩
  · dsimp only
    have h7 := ord_todoL hok n (d := []) h3 htot.1.room' (by simp) htot.1
    rw [show up m G [] = G from rfl] at h7
    rcases h7 with ⟨a, D, b, c, e, g⟩ | h7
    · left
      refine ⟨a, D, b, c, fun x hx hact => ?_⟩
      obtain ⟨i, hi⟩ := List.getElem?_of_mem hx
      have hil := (List.getElem?_eq_some_iff.1 hi).1
      rcases hact with hc | ⟨h1, h2, h3'⟩
      · exact (h4 i (mem_firstL.2 ⟨hil, by rw [hi]; exact hc⟩) x hi).mono e
      · exact g _ h3' i (mem_rowOf.2 ⟨hil, by rw [hi]; exact h1, by rw [hi]; show x.v = _; omega⟩) x hi
    · exact .inr h7
  · exact .inr ⟨i, x, _, rfl, h2, h3, h4, h5, h6⟩
theorem up_len (D : List Nat) : ∀ (G : List Int), (up m G D).length = G.length := by
  induction D with
  | nil => intro G; rfl
  | cons v D ih => intro G; show (up m (G.set v _) D).length = _; rw [ih]; simp
theorem up_at (D : List Nat) {v : Nat} : ∀ (G : List Int), v < G.length → (up m G D)[v]?.getD 0 = if v ∈ D then max (G[v]?.getD 0) m else G[v]?.getD 0 := by
  induction D with
  | nil => intro G _; simp [up]
  | cons u D ih =>
    intro G hv
    show (up m (G.set u (max (G[u]?.getD 0) m)) D)[v]?.getD 0 = _
    rw [ih _ (by simpa using hv)]
    by_cases e : u = v
    · subst e
      rw [List.getElem?_set_self hv]
      simp only [Option.getD_some, List.mem_cons, true_or, if_true]
      split <;> omega
    · rw [List.getElem?_set_ne e]
      have e' : ¬ v = u := fun h => e h.symm
      have : (v ∈ u :: D) ↔ v ∈ D := by simp [e']
      simp only [this]
end
end Go.Proofs.Ytlbachjhhjjmfaa.Mu
namespace Go.Proofs.Ytlbachjhhjjmfaa.Mu
open Go

/-- L of an inequality under an assignment. -/
def lft (S : List Int) (x : Iq) : Int := if x.m = 0 then S[x.v.toNat]?.getD 0 else x.m
/-- The inequality holds under the assignment. -/
def SatQ (S : List Int) (x : Iq) : Prop := lft S x ≤ x.c ∨ (0 ≤ x.r ∧ lft S x ≤ S[x.r.toNat]?.getD 0)
/-- An inequality over n variables, as it may be. -/
def GoodQ (n : Nat) (x : Iq) : Prop := ((x.m = 0 ∧ 0 ≤ x.v ∧ x.v < n) ∨ (1 ≤ x.m ∧ x.m ≤ 3)) ∧ (1 ≤ x.c ∧ x.c ≤ 3) ∧ (x.r = -1 ∨ (0 ≤ x.r ∧ x.r < n))
section
variable {xs : List Iq} {n : Nat} {m : Int} {G : List Int}

theorem act_left {S : List Int} {O : List Nat} {x : Iq} (hm : 1 < m) (hO : ∀ v ∈ O, m ≤ S[v]?.getD 0) (h : Act_ m O x) : m ≤ lft S x := by
  unfold lft
  rcases h with h | ⟨h0, _, h2⟩
  · rw [if_neg (by omega)]; exact h
  · rw [if_pos h0]; exact hO _ h2
/-- What is raised to m is m at least in whatever solution is nowhere below G. -/
theorem ord_below {B S : List Int} {O : List Nat} (h : Ord xs n m G B O) (hm : 1 < m) (hS : ∀ x ∈ xs, SatQ S x) (hG : ∀ v, v < n → G[v]?.getD 0 ≤ S[v]?.getD 0) : ∀ v ∈ O, m ≤ S[v]?.getD 0 := by
  have key : ∀ (p : Nat) (pre post : List Nat), pre.length = p → O = pre ++ post → ∀ v ∈ pre, m ≤ S[v]?.getD 0 := by
    intro p
    induction p with
    | zero => intro pre post hp _ v hv; rw [List.eq_nil_of_length_eq_zero hp] at hv; cases hv
    | succ p ih =>
      intro pre post hp hO
      rcases List.eq_nil_or_concat pre with rfl | ⟨pre', z, rfl⟩
      · intro v hv; cases hv
      · simp only [List.concat_eq_append] at hp hO ⊢
        have hp' : pre'.length = p := by simpa using hp
        have hO' : O = pre' ++ z :: post := by rw [hO]; simp
        have hpre := ih pre' (z :: post) hp' hO'
        intro v hv
        rcases List.mem_append.1 hv with hv | hv
        · exact hpre v hv
        · rw [List.mem_singleton.1 hv]
          have hz : z < n := h.rng z (by rw [hO']; simp)
          rcases h.why pre' z post hO' with ⟨hg, _⟩ | ⟨_, i, x, _, hx, hc, hr, hact⟩
          · exact Int.le_trans hg (hG z hz)
          · have hl := act_left hm hpre hact
            rcases hS x (List.mem_of_getElem? hx) with h1 | ⟨_, h1⟩
            · omega
            · have : x.r.toNat = z := by omega
              rw [this] at h1; omega
  intro v hv
  exact key O.length O [] rfl (by simp) v hv
/-- Where there is a solution nowhere below G, raise meets no clash, and raises nothing above it. -/
theorem raised_below {S : List Int} {T : Option Nat × List Int × List Int} (h : Raised xs n m G T) (hm : 1 < m) (hgl : G.length = n) (hS : ∀ x ∈ xs, SatQ S x) (hG : ∀ v, v < n → G[v]?.getD 0 ≤ S[v]?.getD 0) :
    T.1 = none ∧ ∀ v, v < n → T.2.1[v]?.getD 0 ≤ S[v]?.getD 0 := by
  rcases h with ⟨h1, D, h2, h3, _⟩ | ⟨i, x, O, _, hx, hc, hr, h3, h4⟩
  · refine ⟨h1, fun v hv => ?_⟩
    rw [h2, up_at D G (by omega)]
    have := hG v hv
    split
    · rename_i hD
      have := ord_below h3 hm hS hG v hD
      omega
    · exact this
  · have hl := act_left hm (ord_below h3 hm hS hG) h4
    rcases hS x (List.mem_of_getElem? hx) with h | ⟨h, _⟩ <;> omega
theorem raised_above {T : Option Nat × List Int × List Int} (h : Raised xs n m G T) (hgl : G.length = n) (hn : T.1 = none) : T.2.1.length = n ∧ ∀ v, v < n → G[v]?.getD 0 ≤ T.2.1[v]?.getD 0 ∧ (T.2.1[v]?.getD 0 = G[v]?.getD 0 ∨ T.2.1[v]?.getD 0 = m) := by
  rcases h with ⟨_, D, h2, _, _⟩ | ⟨i, x, O, h1, _⟩
  · rw [h2]
    refine ⟨by rw [up_len]; exact hgl, fun v hv => ?_⟩
    rw [up_at D G (by omega)]
    split <;> omega
  · rw [hn] at h1; cases h1
/-- Behind raise to m: each inequality whose L is m at least has a right side that is. -/
theorem raised_holds {T : Option Nat × List Int × List Int} (h : Raised xs n m G T) (hgl : G.length = n) (hn : T.1 = none) : ∀ x ∈ xs, GoodQ n x → m ≤ lft T.2.1 x → m ≤ x.c ∨ (0 ≤ x.r ∧ m ≤ T.2.1[x.r.toNat]?.getD 0) := by
  rcases h with ⟨_, D, h2, h3, h4⟩ | ⟨i, x, O, h1, _⟩
  · intro x hx hg hl
    have hact : Act_ m D x := by
      unfold lft at hl
      by_cases h0 : x.m = 0
      · rw [if_pos h0] at hl
        obtain ⟨v0, v1⟩ : 0 ≤ x.v ∧ x.v < n := by rcases hg.1 with h | h <;> omega
        right
        refine ⟨h0, v0, ?_⟩
        by_cases hD : x.v.toNat ∈ D
        · exact hD
        · rw [h2, up_at D G (by omega), if_neg hD] at hl
          exact h3.all _ (by omega) hl
      · rw [if_neg h0] at hl
        exact .inl hl
    rcases h4 x hx hact with h5 | ⟨h5, h6⟩
    · exact .inl h5
    · right
      refine ⟨h5, ?_⟩
      have := h3.rng _ h6
      rw [h2, up_at D G (by omega), if_pos h6]
      omega
  · rw [hn] at h1; cases h1

/-- Raised to 2 and to 3, it is a solution. -/
theorem both_solve {T2 T3 : Option Nat × List Int × List Int} (h2 : Raised xs n 2 G T2) (hgl : G.length = n) (hn2 : T2.1 = none) (h3 : Raised xs n 3 T2.2.1 T3) (hn3 : T3.1 = none) (hgood : ∀ x ∈ xs, GoodQ n x) (hG : ∀ v, v < n → 1 ≤ G[v]?.getD 0 ∧ G[v]?.getD 0 ≤ 3) :
    ∀ x ∈ xs, SatQ T3.2.1 x := by
  intro x hx
  have hg := hgood x hx
  obtain ⟨l2, a2⟩ := raised_above h2 hgl hn2
  obtain ⟨l3, a3⟩ := raised_above h3 l2 hn3
  have hle : ∀ S : List Int, (∀ v, v < n → 1 ≤ S[v]?.getD 0 ∧ S[v]?.getD 0 ≤ 3) → 1 ≤ lft S x ∧ lft S x ≤ 3 := fun S hS => by
    unfold lft
    by_cases h0 : x.m = 0
    · rw [if_pos h0]
      exact hS _ (by rcases hg.1 with h | h <;> omega)
    · rw [if_neg h0]
      rcases hg.1 with h | h <;> omega
  have b3 : ∀ v, v < n → 1 ≤ T3.2.1[v]?.getD 0 ∧ T3.2.1[v]?.getD 0 ≤ 3 := fun v hv => by
    have := a3 v hv; have := a2 v hv; have := hG v hv; omega
  obtain ⟨k1, k3⟩ := hle _ b3
  unfold SatQ
  by_cases e3 : 3 ≤ lft T3.2.1 x
  · rcases raised_holds h3 l2 hn3 x hx hg e3 with h | ⟨h, h'⟩
    · left; omega
    · right; exact ⟨h, by omega⟩
  · by_cases e2 : 2 ≤ lft T3.2.1 x
    · have e2' : 2 ≤ lft T2.2.1 x := by
        unfold lft at e2 e3 ⊢
        by_cases h0 : x.m = 0
        · rw [if_pos h0] at e2 e3 ⊢
          have := a3 x.v.toNat (by rcases hg.1 with h | h <;> omega)
          omega
        · rw [if_neg h0] at e2 ⊢; exact e2
      rcases raised_holds h2 hgl hn2 x hx hg e2' with h | ⟨h, h'⟩
      · left; omega
      · right
        refine ⟨h, ?_⟩
        have := a3 x.r.toNat (by rcases hg.2.2 with h | h <;> omega)
        omega
    · left
      have := hg.2.1
      omega
end
end Go.Proofs.Ytlbachjhhjjmfaa.Mu
namespace Go.Proofs.Ytlbachjhhjjmfaa.Mu
open Go

section
variable {xs : List Iq} {n : Nat} {m : Int} {G : List Int}

/-- The way back from an inequality: the inequalities, and the variables that these raised. -/
def WayG (xs : List Iq) (n : Nat) (m : Int) (G : List Int) : Nat → List Nat → List Nat → Prop
  | i, [], [] => ∃ x, xs[i]? = some x ∧ (m ≤ x.m ∨ (x.m = 0 ∧ x.v.toNat < n ∧ m ≤ G[x.v.toNat]?.getD 0))
  | i, j :: ws, v :: vs => (∃ x, xs[i]? = some x ∧ x.m = 0 ∧ x.v = v ∧ G[v]?.getD 0 < m) ∧ (∃ y, xs[j]? = some y ∧ y.c < m ∧ y.r = v) ∧ WayG xs n m G j ws vs
  | _, [], _ :: _ => False
  | _, _ :: _, [] => False
theorem way_ofG {B : List Int} {O : List Nat} (h : Ord xs n m G B O) (hm : 1 < m) : ∀ (p : Nat) (pre post : List Nat), pre.length = p → O = pre ++ post → ∀ (i : Nat) (x : Iq), xs[i]? = some x → Act_ m pre x → ∃ ws vs, ws.length ≤ p ∧ Way xs B i ws ∧ WayG xs n m G i ws vs ∧ vs.Nodup ∧ ∀ v ∈ vs, v ∈ pre := by
  intro p
  induction p using Nat.strongRecOn with
  | ind p ih =>
    intro pre post hp hO i x hx ha
    rcases ha with ha | ⟨h0, h1, h2⟩
    · exact ⟨[], [], Nat.zero_le _, ⟨x, hx, .inl (by omega)⟩, ⟨x, hx, .inl ha⟩, List.nodup_nil, by simp⟩
    · obtain ⟨a, b, rfl⟩ := List.append_of_mem h2
      have hO' : O = a ++ x.v.toNat :: (b ++ post) := by rw [hO]; simp
      have hvn : x.v.toNat < n := h.rng _ (by rw [hO']; simp)
      have hva : x.v.toNat ∉ a := fun hv => by
        have := h.nd
        rw [hO', List.nodup_append] at this
        exact this.2.2 _ hv _ (by simp) rfl
      rcases h.why a x.v.toNat (b ++ post) hO' with ⟨hg, hb⟩ | ⟨hg, j, y, hb, hy, hc, hr, hact⟩
      · exact ⟨[], [], Nat.zero_le _, ⟨x, hx, .inr ⟨h0, h1, hb⟩⟩, ⟨x, hx, .inr ⟨h0, hvn, hg⟩⟩, List.nodup_nil, by simp⟩
      · have hlt : a.length < p := by rw [← hp]; simp
        obtain ⟨ws, vs, hw1, hw2, hw3, hw4, hw5⟩ := ih a.length hlt a (x.v.toNat :: (b ++ post)) rfl hO' j y hy (hact.imp id (fun ⟨u, v, w⟩ => ⟨u, v, w⟩))
        refine ⟨j :: ws, x.v.toNat :: vs, by simp; omega, ⟨x, hx, h0, h1, hb, hw2⟩, ⟨⟨x, hx, h0, by omega, hg⟩, ⟨y, hy, hc, hr⟩, hw3⟩, List.nodup_cons.2 ⟨fun hv => hva (hw5 _ hv), hw4⟩, fun v hv => ?_⟩
        rcases List.mem_cons.1 hv with rfl | hv
        · simp
        · exact List.mem_append_left _ (hw5 v hv)
/-- What the way back forces. -/
theorem wayg_forces {S : List Int} (hm : 1 < m) (hS : ∀ v, v < n → m ≤ G[v]?.getD 0 → m ≤ S[v]?.getD 0) : ∀ (ws : List Nat) (i : Nat) (vs : List Nat) (x : Iq), WayG xs n m G i ws vs → (∀ j ∈ ws, ∀ y, xs[j]? = some y → SatQ S y) → xs[i]? = some x → m ≤ lft S x := by
  intro ws
  induction ws with
  | nil =>
    intro i vs x h _ hx
    cases vs with
    | cons _ _ => exact h.elim
    | nil =>
      obtain ⟨x', hx', h⟩ := h
      rw [hx] at hx'; cases hx'
      unfold lft
      rcases h with h | ⟨h0, h1, h2⟩
      · rw [if_neg (by omega)]; exact h
      · rw [if_pos h0]; exact hS _ h1 h2
  | cons j ws ih =>
    intro i vs x h hsat hx
    cases vs with
    | nil => exact h.elim
    | cons v vs =>
      obtain ⟨⟨x', hx', h0, hv, _⟩, ⟨y, hy, hc, hr⟩, hw⟩ := h
      rw [hx] at hx'; cases hx'
      have h1 := ih j vs y hw (fun k hk => hsat k (List.mem_cons_of_mem _ hk)) hy
      unfold lft
      rw [if_pos h0, hv]
      rcases hsat j (by simp) y hy with h2 | ⟨_, h2⟩
      · omega
      · rw [hr] at h2
        exact Int.le_trans h1 h2
theorem wayg_len : ∀ (ws : List Nat) (i : Nat) (vs : List Nat), WayG xs n m G i ws vs → ws.length = vs.length := by
  intro ws
  induction ws with
  | nil => intro i vs h; cases vs with
    | nil => rfl
    | cons _ _ => exact h.elim
  | cons j ws ih => intro i vs h; cases vs with
    | nil => exact h.elim
    | cons v vs => simp [ih j vs h.2.2]
/-- What raised, and what it raised. -/
theorem wayg_by : ∀ (ws : List Nat) (i : Nat) (vs : List Nat), WayG xs n m G i ws vs → ∀ l, l < ws.length → ∃ y, xs[ws[l]?.getD 0]? = some y ∧ y.c < m ∧ y.r = ((vs[l]?.getD 0 : Nat) : Int) := by
  intro ws
  induction ws with
  | nil => intro i vs _ l hl; simp at hl
  | cons j ws ih => intro i vs h l hl; cases vs with
    | nil => exact h.elim
    | cons v vs =>
      cases l with
      | zero => simpa using h.2.1
      | succ l => simpa using ih j vs h.2.2 l (by simpa using hl)
theorem wayg_left : ∀ (ws : List Nat) (i : Nat) (vs : List Nat), WayG xs n m G i ws vs → ∀ l, l < ws.length → ∃ x, xs[(i :: ws)[l]?.getD 0]? = some x ∧ x.m = 0 ∧ x.v = ((vs[l]?.getD 0 : Nat) : Int) ∧ G[vs[l]?.getD 0]?.getD 0 < m := by
  intro ws
  induction ws with
  | nil => intro i vs _ l hl; simp at hl
  | cons j ws ih => intro i vs h l hl; cases vs with
    | nil => exact h.elim
    | cons v vs =>
      cases l with
      | zero => simpa using h.1
      | succ l => simpa using ih j vs h.2.2 l (by simpa using hl)
theorem wayg_lt : ∀ (ws : List Nat) (i : Nat) (vs : List Nat), WayG xs n m G i ws vs → ∀ j ∈ i :: ws, j < xs.length := by
  intro ws
  induction ws with
  | nil => intro i vs h j hj; cases vs with
    | nil => obtain ⟨x, hx, _⟩ := h; rw [List.mem_singleton.1 hj]; exact (List.getElem?_eq_some_iff.1 hx).1
    | cons _ _ => exact h.elim
  | cons k ws ih => intro i vs h j hj; cases vs with
    | nil => exact h.elim
    | cons v vs =>
      obtain ⟨⟨x, hx, _⟩, _, hw⟩ := h
      rcases List.mem_cons.1 hj with rfl | hj
      · exact (List.getElem?_eq_some_iff.1 hx).1
      · exact ih k vs hw j hj
theorem nd_inj {l : List Nat} (h : l.Nodup) {a b : Nat} (ha : a < l.length) (hb : b < l.length) (e : l[a]?.getD 0 = l[b]?.getD 0) : a = b := by
  rw [List.getElem?_eq_getElem ha, List.getElem?_eq_getElem hb] at e
  rw [List.nodup_iff_pairwise_ne, List.pairwise_iff_getElem] at h
  rcases Nat.lt_trichotomy a b with h1 | h1 | h1
  · exact absurd e (h a b ha hb h1)
  · exact h1
  · exact absurd e.symm (h b a hb ha h1)
theorem getD_mem {l : List Nat} {a : Nat} (ha : a < l.length) : l[a]?.getD 0 ∈ l := by
  rw [List.getElem?_eq_getElem ha]; exact List.getElem_mem ha
theorem wayg_nd (ws : List Nat) (i : Nat) (vs : List Nat) (h : WayG xs n m G i ws vs) (hv : vs.Nodup) {x : Iq} (hx : xs[i]? = some x) (hr : x.r = -1) : (i :: ws).Nodup := by
  have hl := wayg_len ws i vs h
  have hb := wayg_by ws i vs h
  refine List.nodup_cons.2 ⟨fun hi => ?_, ?_⟩
  · obtain ⟨l, hl1, rfl⟩ := List.getElem_of_mem hi
    obtain ⟨y, hy, _, hyr⟩ := hb l hl1
    rw [List.getElem?_eq_getElem hl1, Option.getD_some, hx] at hy
    cases hy
    omega
  · rw [List.nodup_iff_pairwise_ne, List.pairwise_iff_getElem]
    intro a b ha hb' hab e
    obtain ⟨y, hy, _, hyr⟩ := hb a ha
    obtain ⟨z, hz, _, hzr⟩ := hb b hb'
    rw [List.getElem?_eq_getElem ha, Option.getD_some, e] at hy
    rw [List.getElem?_eq_getElem hb', Option.getD_some, hy] at hz
    cases hz
    have := nd_inj hv (a := a) (b := b) (by omega) (by omega) (by omega)
    omega

/-- These alone have no solution, and without any one of them have some. -/
structure Cores (n : Nat) (L : List Int) (xs : List Iq) (is : List Nat) : Prop where
  nd : is.Nodup
  lt : ∀ i ∈ is, i < xs.length
  none : ∀ S : List Int, (∀ i ∈ is, ∀ x, xs[i]? = some x → SatQ S x) → (∀ v, v < n → L[v]?.getD 0 ≤ S[v]?.getD 0) → False
  some : ∀ j ∈ is, ∃ S : List Int, S.length = n ∧ (∀ v, v < n → L[v]?.getD 0 ≤ S[v]?.getD 0 ∧ 1 ≤ S[v]?.getD 0 ∧ S[v]?.getD 0 ≤ 3) ∧ ∀ i ∈ is, i ≠ j → ∀ x, xs[i]? = some x → SatQ S x

set_option maxHeartbeats 1000000 in
theorem cores_of {L : List Int} (hm : 1 < m) (hg : ∀ x ∈ xs, GoodQ n x) (hgl : G.length = n) (hG : ∀ v, v < n → 1 ≤ G[v]?.getD 0 ∧ G[v]?.getD 0 ≤ 3 ∧ L[v]?.getD 0 ≤ G[v]?.getD 0 ∧ (m ≤ G[v]?.getD 0 → m ≤ L[v]?.getD 0)) (hcl : ∀ x ∈ xs, lft G x < m → SatQ G x)
    {i0 : Nat} {ws vs : List Nat} {x0 : Iq} (hx0 : xs[i0]? = some x0) (hc : x0.c < m) (hr : x0.r = -1) (hw : WayG xs n m G i0 ws vs) (hnd : vs.Nodup) (hvn : ∀ v ∈ vs, v < n) : Cores n L xs (i0 :: ws) := by
  have hl := wayg_len ws i0 vs hw
  have hN := wayg_nd ws i0 vs hw hnd hx0 hr
  refine ⟨hN, wayg_lt ws i0 vs hw, fun S hS hL => ?_, fun j hj => ?_⟩
  · have h1 := wayg_forces (S := S) hm (fun v hv hgv => by have := (hG v hv).2.2.2 hgv; have := hL v hv; omega) ws i0 vs x0 hw (fun k hk => hS k (List.mem_cons_of_mem _ hk)) hx0
    rcases hS i0 (by simp) x0 hx0 with h2 | ⟨h2, _⟩ <;> omega
  · obtain ⟨p, hp, rfl⟩ := List.getElem_of_mem hj
    have hp' : p < ws.length + 1 := by simpa using hp
    have hat : ∀ v, v < n → (up 3 G (vs.drop p))[v]?.getD 0 = if v ∈ vs.drop p then max (G[v]?.getD 0) 3 else G[v]?.getD 0 := fun v hv => up_at _ G (by omega)
    have hge : ∀ v, v < n → G[v]?.getD 0 ≤ (up 3 G (vs.drop p))[v]?.getD 0 ∧ (up 3 G (vs.drop p))[v]?.getD 0 ≤ 3 := fun v hv => by
      rw [hat v hv]
      have := hG v hv
      split <;> omega
    refine ⟨up 3 G (vs.drop p), by rw [up_len]; exact hgl, fun v hv => by have := hG v hv; have := hge v hv; omega, fun i hi hne x hx => ?_⟩
    obtain ⟨l, hl1, rfl⟩ := List.getElem_of_mem hi
    have hxm := List.mem_of_getElem? hx
    have hgx := hg x hxm
    have hlp : l ≠ p := fun e => hne (by subst e; rfl)
    have hl1' : l < ws.length + 1 := by simpa using hl1
    have hle : lft (up 3 G (vs.drop p)) x ≤ 3 := by
      unfold lft
      by_cases h0 : x.m = 0
      · rw [if_pos h0]; exact (hge _ (by rcases hgx.1 with h | h <;> omega)).2
      · rw [if_neg h0]; rcases hgx.1 with h | h <;> omega
    rcases Nat.lt_or_gt_of_ne hlp with h | h
    · -- ahead: its L is as it was
      obtain ⟨y, hy, hy0, hyv, hyg⟩ := wayg_left ws i0 vs hw l (by omega)
      rw [List.getElem?_eq_getElem hl1, Option.getD_some, hx] at hy
      cases hy
      have hvl : vs[l]?.getD 0 < n := hvn _ (getD_mem (by omega))
      have hno : vs[l]?.getD 0 ∉ vs.drop p := fun hmem => by
        obtain ⟨q, hq, e⟩ := List.getElem_of_mem hmem
        rw [List.getElem_drop] at e
        simp at hq
        have := nd_inj hnd (a := l) (b := p + q) (by omega) (by omega) (by rw [List.getElem?_eq_getElem (i := p + q) (by omega), Option.getD_some]; exact e.symm)
        omega
      have e1 : lft (up 3 G (vs.drop p)) x = lft G x := by
        unfold lft
        rw [if_pos hy0, if_pos hy0, hyv, Int.toNat_natCast, hat _ hvl, if_neg hno]
      have e2 : lft G x < m := by
        unfold lft
        rw [if_pos hy0, hyv, Int.toNat_natCast]
        exact hyg
      rcases hcl x hxm e2 with h3 | ⟨h3, h4⟩
      · left; rw [e1]; exact h3
      · right
        refine ⟨h3, ?_⟩
        rw [e1]
        have := (hge x.r.toNat (by rcases hgx.2.2 with h | h <;> omega)).1
        omega
    · -- behind: its R is 3
      obtain ⟨l', rfl⟩ : ∃ l', l = l' + 1 := ⟨l - 1, by omega⟩
      obtain ⟨y, hy, _, hyr⟩ := wayg_by ws i0 vs hw l' (by omega)
      rw [List.getElem_cons_succ] at hx
      rw [List.getElem?_eq_getElem (show l' < ws.length by omega), Option.getD_some, hx] at hy
      cases hy
      right
      refine ⟨by omega, ?_⟩
      have hvl : vs[l']?.getD 0 < n := hvn _ (getD_mem (by omega))
      have hmem : vs[l']?.getD 0 ∈ vs.drop p := by
        rw [List.getElem?_eq_getElem (show l' < vs.length by omega), Option.getD_some, List.mem_iff_getElem]
        exact ⟨l' - p, by rw [List.length_drop]; omega, by rw [List.getElem_drop]; congr 1; omega⟩
      rw [hyr, Int.toNat_natCast, hat _ hvl, if_pos hmem]
      omega

/-- What raise comes to, told as a core where there is a clash. -/
theorem raised_core {L : List Int} {T : Option Nat × List Int × List Int} (h : Raised xs n m G T) (hm : 1 < m) (hg : ∀ x ∈ xs, GoodQ n x) (hgl : G.length = n) (hG : ∀ v, v < n → 1 ≤ G[v]?.getD 0 ∧ G[v]?.getD 0 ≤ 3 ∧ L[v]?.getD 0 ≤ G[v]?.getD 0 ∧ (m ≤ G[v]?.getD 0 → m ≤ L[v]?.getD 0)) (hcl : ∀ x ∈ xs, lft G x < m → SatQ G x) :
    ∃ ws : List Nat, ∀ i, T.1 = some i → ws.length ≤ n ∧ Way xs T.2.2 i ws ∧ Cores n L xs (i :: ws) := by
  rcases h with ⟨h, _⟩ | ⟨i, x, O, h1, hx, hc, hr, hO, ha⟩
  · exact ⟨[], fun i hi => by rw [h] at hi; cases hi⟩
  · obtain ⟨ws, vs, w1, w2, w3, w4, w5⟩ := way_ofG hO hm O.length O [] rfl (by simp) i x hx ha
    have hle : O.length ≤ n := by
      have := List.Nodup.length_le_of_subset hO.nd (l₂ := List.range n) (fun v hv => by simpa using hO.rng v hv)
      simpa using this
    exact ⟨ws, fun j hj => by rw [h1] at hj; cases hj; exact ⟨by omega, w2, cores_of hm hg hgl hG hcl hx hc hr w3 w4 (fun v hv => hO.rng v (w5 v hv))⟩⟩
end
end Go.Proofs.Ytlbachjhhjjmfaa.Mu
namespace Go.Proofs.Ytlbachjhhjjmfaa.Mu
open Go Go.RowKit

theorem may_good {n : Int} {low : List Int} {xs : List Iq} (h : mayF n low xs = 0) : ∃ N : Nat, n = N ∧ N ≤ 1048576 ∧ xs.length ≤ 1048576 ∧ (low.length = 0 ∨ low.length = N) ∧ (∀ m ∈ low, 1 ≤ m ∧ m ≤ 3) ∧ ∀ x ∈ xs, GoodQ N x := by
  unfold mayF at h
  split at h
  · cases h
  rename_i h1
  split at h
  · cases h
  rename_i h2
  split at h
  · cases h
  rename_i h3
  split at h
  · cases h
  rename_i h4
  have a1 : ¬ 1048576 < n ∧ ¬ 1048576 < xs.length := ⟨fun e => h1 (.inl e), fun e => h1 (.inr e)⟩
  have a2 : ¬ n < 0 ∧ ¬ (low.length ≠ 0 ∧ (low.length : Int) ≠ n) := ⟨fun e => h2 (.inl e), fun e => h2 (.inr e)⟩
  obtain ⟨N, rfl⟩ : ∃ N : Nat, n = N := ⟨n.toNat, by omega⟩
  refine ⟨N, rfl, by omega, by omega, ?_, fun m hm => ?_, fun x hx => ?_⟩
  · have := a2.2
    by_cases e : low.length = 0
    · exact .inl e
    · exact .inr (Classical.byContradiction fun e2 => this ⟨e, by omega⟩)
  · have : badM m = false := by
      cases hb : badM m
      · rfl
      · exact absurd (List.any_eq_true.2 ⟨m, hm, hb⟩) h3
    simp [badM] at this
    omega
  · have : badQ N x = false := by
      cases hb : badQ N x
      · rfl
      · exact absurd (List.any_eq_true.2 ⟨x, hx, hb⟩) h4
    simp only [badQ, Bool.or_eq_false_iff, Bool.not_eq_false', Bool.and_eq_false_iff] at this
    obtain ⟨⟨hmay, hv⟩, hr⟩ := this
    unfold Iq.may mayI at hmay
    simp only [Bool.and_eq_true, decide_eq_true_eq] at hmay
    obtain ⟨⟨⟨hb, hc⟩, hr0⟩, _⟩ := hmay
    have hr' : ¬ (N : Int) ≤ x.r := by simpa using hr
    have hc' : 1 ≤ x.c ∧ x.c ≤ 3 := by simpa [isMultB] using hc
    refine ⟨?_, hc', by omega⟩
    rcases isB_parts hb with ⟨e, v0, _⟩ | ⟨m1, m3, _⟩
    · left
      have hv' : ¬ (N : Int) ≤ x.v := by
        rcases hv with hv | hv
        · simp [e] at hv
        · simpa using hv
      exact ⟨e, v0, by omega⟩
    · exact .inr ⟨m1, m3⟩

/-- What is told is the least solution, or there is none. -/
structure Tells (n : Nat) (low : List Int) (xs : List Iq) (T : Option Nat × List Int × List Int) : Prop where
  solves : T.1 = none → T.2.1.length = n ∧ (∀ x ∈ xs, SatQ T.2.1 x) ∧ ∀ v, v < n → 1 ≤ T.2.1[v]?.getD 0 ∧ T.2.1[v]?.getD 0 ≤ 3 ∧ (low0 n low)[v]?.getD 0 ≤ T.2.1[v]?.getD 0
  least : ∀ S : List Int, (∀ x ∈ xs, SatQ S x) → (∀ v, v < n → (low0 n low)[v]?.getD 0 ≤ S[v]?.getD 0) → T.1 = none ∧ ∀ v, v < n → T.2.1[v]?.getD 0 ≤ S[v]?.getD 0

set_option maxHeartbeats 1000000 in
theorem solve_core (n : Nat) (G A : Option Addr) (ln lk len cap : Nat) (low : List Int) (xs : List Iq) (hlen : len = xs.length) (hln : ln = low.length) (hm : mayF n low xs = 0) :
    ∃ T ws, Tells n low xs T ∧ (∀ i, T.1 = some i → Cores n (low0 n low) xs (i :: ws)) ∧ ∀ w, RI .u8 w w.heap.size G ln low → RQ w w.heap.size A len xs → Calls Try.prog 24 #[.int .i64 n, .slice G ln lk, .slice A len cap] w (SolvePost T n ws w) := by
  obtain ⟨N, hN, n1, l1, lw, lr, good⟩ := may_good hm
  obtain rfl : n = N := by omega
  have hv : ∀ x ∈ xs, x.m = 0 → 0 ≤ x.v ∧ x.v < n := fun x hx h0 => by rcases (good x hx).1 with h | h <;> omega
  have hok : OkR n xs := fun x hx => (good x hx).2.2
  have hg0 : (low0 n low).length = n := by unfold low0; split <;> (try simp) <;> omega
  have hG : ∀ v, v < n → 1 ≤ (low0 n low)[v]?.getD 0 ∧ (low0 n low)[v]?.getD 0 ≤ 3 := fun v hvn => by
    unfold low0
    split
    · simp [hvn]
    · rename_i h0
      have hlt : v < low.length := by omega
      rw [List.getElem?_eq_getElem hlt]
      exact lr _ (List.getElem_mem hlt)
  have r2 : Raised xs n 2 (low0 n low) (run2 n low xs (rowOf xs)) := raise_ok hok (by simp)
  have hb2 : (run2 n low xs (rowOf xs)).2.2.length = n := by
    rcases r2 with ⟨_, D, _, h, _⟩ | ⟨_, _, _, _, _, _, _, h, _⟩ <;> exact h.lb
  have r3 : Raised xs n 3 (run2 n low xs (rowOf xs)).2.1 (run3 n low xs (rowOf xs)) := raise_ok hok hb2
  obtain ⟨T, hT⟩ : ∃ T, T = if (run2 n low xs (rowOf xs)).1 = none then run3 n low xs (rowOf xs) else run2 n low xs (rowOf xs) := ⟨_, rfl⟩
  have hway : ∃ ws : List Nat, ∀ i, T.1 = some i → ws.length ≤ 1048576 ∧ Way xs T.2.2 i ws ∧ Cores n (low0 n low) xs (i :: ws) := by
    rw [hT]
    split
    · rename_i h2
      obtain ⟨l2, a2⟩ := raised_above r2 hg0 h2
      obtain ⟨ws, hws⟩ := raised_core (L := low0 n low) r3 (by omega) good l2 (fun v hvn => by have := a2 v hvn; have := hG v hvn; omega) (fun x hx hlt => by
        have hgx := good x hx
        by_cases e2 : 2 ≤ lft (run2 n low xs (rowOf xs)).2.1 x
        · rcases raised_holds r2 hg0 h2 x hx hgx e2 with h | ⟨h, h'⟩
          · left; omega
          · right; exact ⟨h, by omega⟩
        · left; have := hgx.2.1; omega)
      exact ⟨ws, fun i hi => ⟨by have := (hws i hi).1; omega, (hws i hi).2⟩⟩
    · obtain ⟨ws, hws⟩ := raised_core (L := low0 n low) r2 (by omega) good hg0 (fun v hvn => by have := hG v hvn; omega) (fun x hx hlt => .inl (by have := (good x hx).2.1; omega))
      exact ⟨ws, fun i hi => ⟨by have := (hws i hi).1; omega, (hws i hi).2⟩⟩
  obtain ⟨ws, hws⟩ := hway
  refine ⟨T, ws, ⟨?_, ?_⟩, fun i hi => (hws i hi).2.2, fun w hg hq => solve_yes n G A ln lk len cap low xs (rowOf xs) w hg hq n1 (by omega) (by omega) hm hv hok (fun v hvn => by rw [hlen]; exact rows_ok n xs hv v hvn) T ws hT (fun i hi => ⟨(hws i hi).1, (hws i hi).2.1⟩)⟩
  · intro hn
    rw [hT] at hn ⊢
    split at hn
    · rename_i h2
      rw [if_pos h2]
      obtain ⟨l2, a2⟩ := raised_above r2 hg0 h2
      obtain ⟨l3, a3⟩ := raised_above r3 l2 hn
      exact ⟨l3, both_solve r2 hg0 h2 r3 hn good hG, fun v hvn => by have := a2 v hvn; have := a3 v hvn; have := hG v hvn; omega⟩
    · rename_i h2; exact absurd hn h2
  · intro S hS hlow
    obtain ⟨h2, b2⟩ := raised_below r2 (by omega) hg0 hS hlow
    obtain ⟨l2, _⟩ := raised_above r2 hg0 h2
    obtain ⟨h3, b3⟩ := raised_below r3 (by omega) l2 hS b2
    rw [hT, if_pos h2]
    exact ⟨h3, b3⟩
theorem solve_good (n : Nat) (G A : Option Addr) (ln lk len cap : Nat) (low : List Int) (xs : List Iq) (hlen : len = xs.length) (hln : ln = low.length) (hm : mayF n low xs = 0) :
    ∃ T ws, Tells n low xs T ∧ ∀ w, RI .u8 w w.heap.size G ln low → RQ w w.heap.size A len xs → Calls Try.prog 24 #[.int .i64 n, .slice G ln lk, .slice A len cap] w (SolvePost T n ws w) := by
  obtain ⟨T, ws, h1, _, h3⟩ := solve_core n G A ln lk len cap low xs hlen hln hm
  exact ⟨T, ws, h1, h3⟩
end Go.Proofs.Ytlbachjhhjjmfaa.Mu

