/-
  What may not be handed to Solve.
-/
import Derived.Test.YtjgpkolfcpoinaaCore
namespace Go.Proofs.Ytjgpkolfcpoinaa.Mu
open Go.ChangeShapes Go.WideShapes Go.ChangeAt Go.RowKit Go.Shelf

attribute [local go_sem] Oper.semAt_some

def badM (m : Int) : Bool := decide (m < 1) || decide (3 < m)
theorem mcl_any (m : Int) (w : World) : Calls Try.prog 60 #[.int .u8 m] w fun e w' => e = .returned (.bool (badM m)) ∧ Bel w w' := by
  unfold badM
  by_cases h1 : m < 1
  · have e : (decide (m < 1) || decide (3 < m)) = true := by simp [h1]
    rw [e]
    go_enter Try.func60, Try.ntmps60
    go_wp2
    go_ret
    exact ⟨rfl, Bel.refl _⟩
  · by_cases h2 : 3 < m
    · have e : (decide (m < 1) || decide (3 < m)) = true := by simp [h2]
      rw [e]
      go_enter Try.func60, Try.ntmps60
      go_wp2
      go_ret
      exact ⟨rfl, Bel.refl _⟩
    · have e : (decide (m < 1) || decide (3 < m)) = false := by simp [h1, h2]
      rw [e]
      go_enter Try.func60, Try.ntmps60
      go_wp2
      go_ret
      exact ⟨rfl, Bel.refl _⟩

set_option maxHeartbeats 1000000 in
theorem midx_any (A : Option Addr) (n cap : Nat) (low : List Int) (w : World) (hr : RI .u8 w w.heap.size A n low) (hmax : n ≤ 9223372036854775807) :
    Calls Try.prog 57 #[.slice A n cap, .func (.func 60) #[] #[]] w fun e w' => ∃ r : Int, e = .returned (.int .i64 r) ∧ ((low.any badM = true ∧ 0 ≤ r) ∨ (low.any badM = false ∧ r = -1)) ∧ Bel w w' := by
  have HR := Lib.hid hr
  have HL := Lib.hid hr.len
  clear hr
  go_enter Try.func57, Try.ntmps57
  go_wp2
  go_loopw [8] (fun i wr => ∃ j : Nat, j ≤ n ∧ i = .int .i64 (j : Int) ∧ Hid ((low.take j).any badM = false) ∧ Hid (Bel w wr)) (fun i _ => n - (intOf i).toNat)
  case atStart => exact ⟨0, Nat.zero_le _, rfl, Lib.hid (by simp), Lib.hid (Bel.refl _)⟩
  case round =>
    obtain ⟨j, hj, rfl, HT, HB⟩ := hrel
    by_cases hlt : j < n
    · obtain ⟨b, off, eA, hb, hc⟩ := (HR.out.bel HB.out).at_ (by omega)
      subst eA
      have c0 := hc j hlt
      have i1 : (0 : Int) ≤ (j : Int) := by omega
      have i2 : (j : Int) < (n : Int) := by omega
      obtain ⟨y, hy⟩ : ∃ y, low[j]? = some y := ⟨_, List.getElem?_eq_getElem (by rw [← HL.out]; exact hlt)⟩
      rw [hy, Option.getD_some] at c0
      have HY := Lib.hid hy
      clear hc hy
      obtain ⟨bb, hbb⟩ : ∃ bb, bb = badM y := ⟨_, rfl⟩
      have HC : Hid (∀ W, Calls Try.prog 60 #[.int .u8 y] W fun e w' => e = .returned (.bool bb) ∧ Bel W w') := Lib.hid fun W => by rw [hbb]; exact mcl_any y W
      have HBB := Lib.hid hbb
      clear hbb
      cases bb
      · go_wp2_with fail
        refine (HC.out _).mono ?_
        rintro e w2 ⟨rfl, hb2⟩
        have HB2 := Lib.hid (HB.out.on hb2)
        clear hb2
        go_wp2
        go_roundw
        case rel => exact ⟨j + 1, by omega, by go_num, Lib.hid (by rw [take_snoc_ HY.out, List.any_append, HT.out]; simp [← HBB.out]), HB2⟩
        case measure => simp [intOf]; omega
      · go_wp2_with fail
        refine (HC.out _).mono ?_
        rintro e w2 ⟨rfl, hb2⟩
        have HB2 := Lib.hid (HB.out.on hb2)
        clear hb2
        go_wp2
        go_ret
        exact ⟨_, rfl, .inl ⟨List.any_eq_true.2 ⟨y, List.mem_of_getElem? HY.out, HBB.out.symm⟩, by omega⟩, HB2.out⟩
    · obtain rfl : j = n := by omega
      go_wp2
      go_ret
      refine ⟨_, rfl, .inr ⟨?_, rfl⟩, HB.out⟩
      have h := HT.out
      rw [HL.out, List.take_length] at h
      exact h
theorem mcont_any (A : Option Addr) (n cap : Nat) (low : List Int) (w : World) (hr : RI .u8 w w.heap.size A n low) (hmax : n ≤ 9223372036854775807) :
    Calls Try.prog 34 #[.slice A n cap, .func (.func 60) #[] #[]] w fun e w' => e = .returned (.bool (low.any badM)) ∧ Bel w w' := by
  go_enter Try.func34, Try.ntmps34
  go_wp2_with fail
  refine (midx_any A n cap low w hr hmax).mono ?_
  rintro e w2 ⟨r, rfl, ⟨h1, h2⟩ | ⟨h1, h2⟩, hb⟩
  · go_wp2
    go_ret
    exact ⟨by rw [h1]; rfl, hb⟩
  · subst h2
    go_wp2
    go_ret
    exact ⟨by rw [h1]; rfl, hb⟩

def badQ (n : Int) (x : Iq) : Bool := !x.may || ((x.m == 0) && decide (n ≤ x.v)) || decide (n ≤ x.r)
def mayF (n : Int) (low : List Int) (xs : List Iq) : Int :=
  if 1048576 < n ∨ 1048576 < xs.length then 3 else if n < 0 ∨ (low.length ≠ 0 ∧ (low.length : Int) ≠ n) then 2 else if low.any badM = true then 2 else if xs.any (badQ n) = true then 2 else 0

set_option maxRecDepth 100000 in
set_option maxHeartbeats 2000000 in
theorem lmay_any (n : Int) (G A : Option Addr) (ln lk len cap : Nat) (low : List Int) (xs : List Iq) (w : World) (hg : RI .u8 w w.heap.size G ln low) (hq : RQ w w.heap.size A len xs) (hlm : ln ≤ 9223372036854775807) :
    Calls Try.prog 39 #[.int .i64 n, .slice G ln lk, .slice A len cap] w fun e w' => e = .returned (.int .i64 (mayF n low xs)) ∧ Bel w w' := by
  have HG := Lib.hid hg
  have HQ := Lib.hid hq
  have HLX := Lib.hid hq.len
  have HLG := Lib.hid hg.len
  clear hg hq
  obtain ⟨r, hr⟩ : ∃ r, r = mayF n low xs := ⟨_, rfl⟩
  rw [← hr]
  unfold mayF at hr
  rw [← HLX.out, ← HLG.out] at hr
  by_cases h1 : 1048576 < n
  · rw [if_pos (.inl h1)] at hr
    subst hr
    go_enter Try.func39, Try.ntmps39
    go_wp2
    go_ret
    exact ⟨rfl, Bel.refl _⟩
  by_cases h2 : 1048576 < len
  · rw [if_pos (.inr h2)] at hr
    subst hr
    have h2' : (1048576 : Int) < (len : Int) := by omega
    go_enter Try.func39, Try.ntmps39
    go_wp2
    go_ret
    exact ⟨rfl, Bel.refl _⟩
  have h2' : decide ((1048576 : Int) < (len : Int)) = false := by simp; omega
  rw [if_neg (fun h => h.elim h1 h2)] at hr
  by_cases h3 : n < 0
  · rw [if_pos (.inl h3)] at hr
    subst hr
    go_enter Try.func39, Try.ntmps39
    go_wp2
    go_ret
    exact ⟨rfl, Bel.refl _⟩
  by_cases h4 : ln ≠ 0 ∧ (ln : Int) ≠ n
  · rw [if_pos (.inr h4)] at hr
    subst hr
    have h5 : ((ln : Int) == 0) = false := by simpa using h4.1
    have h6 : ((ln : Int) == n) = false := by simpa using h4.2
    have h5' : ¬ (ln : Int) = 0 := by simpa using h4.1
    have h6' : ¬ (ln : Int) = n := h4.2
    clear h4
    go_enter Try.func39, Try.ntmps39
    go_wp2
    go_ret
    exact ⟨rfl, Bel.refl _⟩
  rw [if_neg (fun h => h.elim h3 h4)] at hr
  have HR := Lib.hid hr
  have h7 : ((ln : Int) = 0 ∧ n = 0) ∨ ((ln : Int) = 0 ∧ ¬ n = 0) ∨ (¬ (ln : Int) = 0 ∧ (ln : Int) = n ∧ ¬ n = 0) := by
    by_cases e : ln = 0
    · by_cases e2 : n = 0
      · exact .inl ⟨by omega, e2⟩
      · exact .inr (.inl ⟨by omega, e2⟩)
    · have e3 : (ln : Int) = n := Classical.byContradiction fun h => h4 ⟨e, h⟩
      exact .inr (.inr ⟨by omega, e3, by omega⟩)
  clear hr h4
  have h1' : n ≤ 1048576 := by omega
  rcases h7 with ⟨h7, rfl⟩ | ⟨h7, h8⟩ | ⟨h7, h8, h9⟩
  · go_enter Try.func39, Try.ntmps39
    go_wp2_with fail
    refine (mcont_any G ln lk low w HG.out hlm).mono ?_
    rintro e w2 ⟨rfl, hb2⟩
    have HB2 := Lib.hid hb2
    clear hb2
    obtain ⟨bb, hbb⟩ : ∃ bb, bb = low.any badM := ⟨_, rfl⟩
    have hr := HR.out
    rw [← hbb] at hr ⊢
    clear hbb HR h1' h7 h2'
    cases bb
    · rw [if_neg (by simp)] at hr
      have HR := Lib.hid hr
      clear hr
      go_wp2
      go_loopw [33] (fun i wr => ∃ j : Nat, j ≤ len ∧ i = .int .i64 (j : Int) ∧ Hid ((xs.take j).any (badQ 0) = false) ∧ Hid (Bel w wr)) (fun i _ => len - (intOf i).toNat)
      case atStart => exact ⟨0, Nat.zero_le _, rfl, Lib.hid (by simp), HB2⟩
      case round =>
        obtain ⟨j, hj, rfl, HT, HB⟩ := hrel
        by_cases hlt : j < len
        · obtain ⟨b, off, eA, hb, hc⟩ := (HQ.out.bel HB.out).at_ (by omega)
          subst eA
          obtain ⟨x, hx⟩ : ∃ x, xs[j]? = some x := ⟨_, List.getElem?_eq_getElem (by rw [← HLX.out]; exact hlt)⟩
          obtain ⟨c0, c1, c2, c3⟩ := hc j x hx
          have HX := Lib.hid hx
          have i1 : (0 : Int) ≤ (j : Int) := by omega
          have i2 : (j : Int) < (len : Int) := by omega
          clear hc hx
          have hbad : badQ 0 x = true → r = 2 := fun hbq => by
            rw [HR.out, if_pos (List.any_eq_true.2 ⟨x, List.mem_of_getElem? HX.out, hbq⟩)]
          have HBAD := Lib.hid hbad
          clear hbad
          have hbw := (Bel.refl wr).alloc (.cells #[.int .i64 x.v, .int .u8 x.m, .int .u8 x.c, .int .i64 x.r] 31)
          have HBA := Lib.hid hbw
          have HXB := Lib.hid (blk1 wr (.cells #[.int .i64 x.v, .int .u8 x.m, .int .u8 x.c, .int .i64 x.r] 31))
          clear hbw
          rcases Bool.eq_false_or_eq_true x.may with hv | hv
          · have HV := Lib.hid hv
            clear hv
            go_wp2_with fail
            refine (imay_yes HV.out _).mono ?_
            rintro e w3 ⟨rfl, hb3⟩
            have HB3 := Lib.hid (HB.out.on (HBA.out.on hb3))
            have HX3 := Lib.hid (hb3.blk HXB.out)
            obtain ⟨d0, d1, d2, d3⟩ := cells4 HX3.out
            clear hb3 c0 c1 c2 c3
            obtain ⟨bl, hbl⟩ : ∃ b, b = (x.m == 0) := ⟨_, rfl⟩
            have HLF : Hid (∀ W, Calls Try.prog 61 #[.agg #[.int .i64 x.v, .int .u8 x.m, .int .u8 x.c, .int .i64 x.r]] W fun e w' => e = .returned (.bool bl) ∧ Bel W w') := Lib.hid fun W => by have h := hasLeft_any x W; rw [← hbl] at h; exact h
            have HBL := Lib.hid hbl
            clear hbl
            cases bl
            · go_wp2_with fail
              refine (HLF.out _).mono ?_
              rintro e w4 ⟨rfl, hb4⟩
              have HB4 := Lib.hid (HB3.out.on hb4)
              obtain ⟨e0, e1, e2, e3⟩ := cells4 (hb4.blk HX3.out)
              clear hb4 d0 d1 d2 d3
              by_cases hr3 : 0 ≤ x.r
              · have h2 := HBAD.out (by unfold badQ; simp [hr3])
                go_wp2
                all_goals (go_ret; first | exact ⟨rfl, HB4.out⟩ | exact ⟨by rw [h2]; rfl, HB4.out⟩)
              · have HREL := Lib.hid (show (xs.take (j + 1)).any (badQ 0) = false by rw [take_snoc_ HX.out, List.any_append, HT.out]; unfold badQ; simp [HV.out, ← HBL.out] <;> omega)
                go_wp2
                all_goals (go_roundw; all_goals (first | exact ⟨j + 1, by omega, by go_num, HREL, HB4⟩ | (simp [intOf] <;> omega)))
            · go_wp2_with fail
              refine (HLF.out _).mono ?_
              rintro e w4 ⟨rfl, hb4⟩
              have HB4 := Lib.hid (HB3.out.on hb4)
              obtain ⟨e0, e1, e2, e3⟩ := cells4 (hb4.blk HX3.out)
              clear hb4 d0 d1 d2 d3
              by_cases hv3 : 0 ≤ x.v
              · have h2 := HBAD.out (by unfold badQ; simp [hv3, ← HBL.out])
                go_wp2
                all_goals (go_ret; first | exact ⟨rfl, HB4.out⟩ | exact ⟨by rw [h2]; rfl, HB4.out⟩)
              · by_cases hr3 : 0 ≤ x.r
                · have h2 := HBAD.out (by unfold badQ; simp [hr3])
                  go_wp2
                  all_goals (go_ret; first | exact ⟨rfl, HB4.out⟩ | exact ⟨by rw [h2]; rfl, HB4.out⟩)
                · have HREL := Lib.hid (show (xs.take (j + 1)).any (badQ 0) = false by rw [take_snoc_ HX.out, List.any_append, HT.out]; unfold badQ; simp [HV.out, ← HBL.out] <;> omega)
                  go_wp2
                  all_goals (go_roundw; all_goals (first | exact ⟨j + 1, by omega, by go_num, HREL, HB4⟩ | (simp [intOf] <;> omega)))
          · have HV := Lib.hid hv
            clear hv
            go_wp2_with fail
            refine (imay_no HV.out _).mono ?_
            rintro e w3 ⟨rfl, hb3⟩
            have HB3 := Lib.hid (HB.out.on (HBA.out.on hb3))
            clear hb3
            go_wp2
            go_ret
            have h2 := HBAD.out (by unfold badQ; rw [HV.out]; rfl)
            rw [h2]
            exact ⟨rfl, HB3.out⟩
        · obtain rfl : j = len := by omega
          go_wp2
          go_ret
          have h := HT.out
          have hr := HR.out
          rw [HLX.out, List.take_length] at h
          rw [h] at hr
          rw [hr]
          exact ⟨rfl, HB.out⟩
    · rw [if_pos rfl] at hr
      subst hr
      go_wp2
      go_ret
      exact ⟨rfl, HB2.out⟩
  · go_enter Try.func39, Try.ntmps39
    go_wp2_with fail
    refine (mcont_any G ln lk low w HG.out hlm).mono ?_
    rintro e w2 ⟨rfl, hb2⟩
    have HB2 := Lib.hid hb2
    clear hb2
    obtain ⟨bb, hbb⟩ : ∃ bb, bb = low.any badM := ⟨_, rfl⟩
    have hr := HR.out
    rw [← hbb] at hr ⊢
    clear hbb HR h1' h7 h2'
    clear h8
    cases bb
    · rw [if_neg (by simp)] at hr
      have HR := Lib.hid hr
      clear hr
      go_wp2
      go_loopw [33] (fun i wr => ∃ j : Nat, j ≤ len ∧ i = .int .i64 (j : Int) ∧ Hid ((xs.take j).any (badQ n) = false) ∧ Hid (Bel w wr)) (fun i _ => len - (intOf i).toNat)
      case atStart => exact ⟨0, Nat.zero_le _, rfl, Lib.hid (by simp), HB2⟩
      case round =>
        obtain ⟨j, hj, rfl, HT, HB⟩ := hrel
        by_cases hlt : j < len
        · obtain ⟨b, off, eA, hb, hc⟩ := (HQ.out.bel HB.out).at_ (by omega)
          subst eA
          obtain ⟨x, hx⟩ : ∃ x, xs[j]? = some x := ⟨_, List.getElem?_eq_getElem (by rw [← HLX.out]; exact hlt)⟩
          obtain ⟨c0, c1, c2, c3⟩ := hc j x hx
          have HX := Lib.hid hx
          have i1 : (0 : Int) ≤ (j : Int) := by omega
          have i2 : (j : Int) < (len : Int) := by omega
          clear hc hx
          have hbad : badQ n x = true → r = 2 := fun hbq => by
            rw [HR.out, if_pos (List.any_eq_true.2 ⟨x, List.mem_of_getElem? HX.out, hbq⟩)]
          have HBAD := Lib.hid hbad
          clear hbad
          have hbw := (Bel.refl wr).alloc (.cells #[.int .i64 x.v, .int .u8 x.m, .int .u8 x.c, .int .i64 x.r] 31)
          have HBA := Lib.hid hbw
          have HXB := Lib.hid (blk1 wr (.cells #[.int .i64 x.v, .int .u8 x.m, .int .u8 x.c, .int .i64 x.r] 31))
          clear hbw
          rcases Bool.eq_false_or_eq_true x.may with hv | hv
          · have HV := Lib.hid hv
            clear hv
            go_wp2_with fail
            refine (imay_yes HV.out _).mono ?_
            rintro e w3 ⟨rfl, hb3⟩
            have HB3 := Lib.hid (HB.out.on (HBA.out.on hb3))
            have HX3 := Lib.hid (hb3.blk HXB.out)
            obtain ⟨d0, d1, d2, d3⟩ := cells4 HX3.out
            clear hb3 c0 c1 c2 c3
            obtain ⟨bl, hbl⟩ : ∃ b, b = (x.m == 0) := ⟨_, rfl⟩
            have HLF : Hid (∀ W, Calls Try.prog 61 #[.agg #[.int .i64 x.v, .int .u8 x.m, .int .u8 x.c, .int .i64 x.r]] W fun e w' => e = .returned (.bool bl) ∧ Bel W w') := Lib.hid fun W => by have h := hasLeft_any x W; rw [← hbl] at h; exact h
            have HBL := Lib.hid hbl
            clear hbl
            cases bl
            · go_wp2_with fail
              refine (HLF.out _).mono ?_
              rintro e w4 ⟨rfl, hb4⟩
              have HB4 := Lib.hid (HB3.out.on hb4)
              obtain ⟨e0, e1, e2, e3⟩ := cells4 (hb4.blk HX3.out)
              clear hb4 d0 d1 d2 d3
              by_cases hr3 : n ≤ x.r
              · have h2 := HBAD.out (by unfold badQ; simp [hr3])
                go_wp2
                all_goals (go_ret; first | exact ⟨rfl, HB4.out⟩ | exact ⟨by rw [h2]; rfl, HB4.out⟩)
              · have HREL := Lib.hid (show (xs.take (j + 1)).any (badQ n) = false by rw [take_snoc_ HX.out, List.any_append, HT.out]; unfold badQ; simp [HV.out, ← HBL.out] <;> omega)
                go_wp2
                all_goals (go_roundw; all_goals (first | exact ⟨j + 1, by omega, by go_num, HREL, HB4⟩ | (simp [intOf] <;> omega)))
            · go_wp2_with fail
              refine (HLF.out _).mono ?_
              rintro e w4 ⟨rfl, hb4⟩
              have HB4 := Lib.hid (HB3.out.on hb4)
              obtain ⟨e0, e1, e2, e3⟩ := cells4 (hb4.blk HX3.out)
              clear hb4 d0 d1 d2 d3
              by_cases hv3 : n ≤ x.v
              · have h2 := HBAD.out (by unfold badQ; simp [hv3, ← HBL.out])
                go_wp2
                all_goals (go_ret; first | exact ⟨rfl, HB4.out⟩ | exact ⟨by rw [h2]; rfl, HB4.out⟩)
              · by_cases hr3 : n ≤ x.r
                · have h2 := HBAD.out (by unfold badQ; simp [hr3])
                  go_wp2
                  all_goals (go_ret; first | exact ⟨rfl, HB4.out⟩ | exact ⟨by rw [h2]; rfl, HB4.out⟩)
                · have HREL := Lib.hid (show (xs.take (j + 1)).any (badQ n) = false by rw [take_snoc_ HX.out, List.any_append, HT.out]; unfold badQ; simp [HV.out, ← HBL.out] <;> omega)
                  go_wp2
                  all_goals (go_roundw; all_goals (first | exact ⟨j + 1, by omega, by go_num, HREL, HB4⟩ | (simp [intOf] <;> omega)))
          · have HV := Lib.hid hv
            clear hv
            go_wp2_with fail
            refine (imay_no HV.out _).mono ?_
            rintro e w3 ⟨rfl, hb3⟩
            have HB3 := Lib.hid (HB.out.on (HBA.out.on hb3))
            clear hb3
            go_wp2
            go_ret
            have h2 := HBAD.out (by unfold badQ; rw [HV.out]; rfl)
            rw [h2]
            exact ⟨rfl, HB3.out⟩
        · obtain rfl : j = len := by omega
          go_wp2
          go_ret
          have h := HT.out
          have hr := HR.out
          rw [HLX.out, List.take_length] at h
          rw [h] at hr
          rw [hr]
          exact ⟨rfl, HB.out⟩
    · rw [if_pos rfl] at hr
      subst hr
      go_wp2
      go_ret
      exact ⟨rfl, HB2.out⟩
  · go_enter Try.func39, Try.ntmps39
    go_wp2_with fail
    refine (mcont_any G ln lk low w HG.out hlm).mono ?_
    rintro e w2 ⟨rfl, hb2⟩
    have HB2 := Lib.hid hb2
    clear hb2
    obtain ⟨bb, hbb⟩ : ∃ bb, bb = low.any badM := ⟨_, rfl⟩
    have hr := HR.out
    rw [← hbb] at hr ⊢
    clear hbb HR h1' h7 h2'
    clear h8
    cases bb
    · rw [if_neg (by simp)] at hr
      have HR := Lib.hid hr
      clear hr
      go_wp2
      go_loopw [33] (fun i wr => ∃ j : Nat, j ≤ len ∧ i = .int .i64 (j : Int) ∧ Hid ((xs.take j).any (badQ n) = false) ∧ Hid (Bel w wr)) (fun i _ => len - (intOf i).toNat)
      case atStart => exact ⟨0, Nat.zero_le _, rfl, Lib.hid (by simp), HB2⟩
      case round =>
        obtain ⟨j, hj, rfl, HT, HB⟩ := hrel
        by_cases hlt : j < len
        · obtain ⟨b, off, eA, hb, hc⟩ := (HQ.out.bel HB.out).at_ (by omega)
          subst eA
          obtain ⟨x, hx⟩ : ∃ x, xs[j]? = some x := ⟨_, List.getElem?_eq_getElem (by rw [← HLX.out]; exact hlt)⟩
          obtain ⟨c0, c1, c2, c3⟩ := hc j x hx
          have HX := Lib.hid hx
          have i1 : (0 : Int) ≤ (j : Int) := by omega
          have i2 : (j : Int) < (len : Int) := by omega
          clear hc hx
          have hbad : badQ n x = true → r = 2 := fun hbq => by
            rw [HR.out, if_pos (List.any_eq_true.2 ⟨x, List.mem_of_getElem? HX.out, hbq⟩)]
          have HBAD := Lib.hid hbad
          clear hbad
          have hbw := (Bel.refl wr).alloc (.cells #[.int .i64 x.v, .int .u8 x.m, .int .u8 x.c, .int .i64 x.r] 31)
          have HBA := Lib.hid hbw
          have HXB := Lib.hid (blk1 wr (.cells #[.int .i64 x.v, .int .u8 x.m, .int .u8 x.c, .int .i64 x.r] 31))
          clear hbw
          rcases Bool.eq_false_or_eq_true x.may with hv | hv
          · have HV := Lib.hid hv
            clear hv
            go_wp2_with fail
            refine (imay_yes HV.out _).mono ?_
            rintro e w3 ⟨rfl, hb3⟩
            have HB3 := Lib.hid (HB.out.on (HBA.out.on hb3))
            have HX3 := Lib.hid (hb3.blk HXB.out)
            obtain ⟨d0, d1, d2, d3⟩ := cells4 HX3.out
            clear hb3 c0 c1 c2 c3
            obtain ⟨bl, hbl⟩ : ∃ b, b = (x.m == 0) := ⟨_, rfl⟩
            have HLF : Hid (∀ W, Calls Try.prog 61 #[.agg #[.int .i64 x.v, .int .u8 x.m, .int .u8 x.c, .int .i64 x.r]] W fun e w' => e = .returned (.bool bl) ∧ Bel W w') := Lib.hid fun W => by have h := hasLeft_any x W; rw [← hbl] at h; exact h
            have HBL := Lib.hid hbl
            clear hbl
            cases bl
            · go_wp2_with fail
              refine (HLF.out _).mono ?_
              rintro e w4 ⟨rfl, hb4⟩
              have HB4 := Lib.hid (HB3.out.on hb4)
              obtain ⟨e0, e1, e2, e3⟩ := cells4 (hb4.blk HX3.out)
              clear hb4 d0 d1 d2 d3
              by_cases hr3 : n ≤ x.r
              · have h2 := HBAD.out (by unfold badQ; simp [hr3])
                go_wp2
                all_goals (go_ret; first | exact ⟨rfl, HB4.out⟩ | exact ⟨by rw [h2]; rfl, HB4.out⟩)
              · have HREL := Lib.hid (show (xs.take (j + 1)).any (badQ n) = false by rw [take_snoc_ HX.out, List.any_append, HT.out]; unfold badQ; simp [HV.out, ← HBL.out] <;> omega)
                go_wp2
                all_goals (go_roundw; all_goals (first | exact ⟨j + 1, by omega, by go_num, HREL, HB4⟩ | (simp [intOf] <;> omega)))
            · go_wp2_with fail
              refine (HLF.out _).mono ?_
              rintro e w4 ⟨rfl, hb4⟩
              have HB4 := Lib.hid (HB3.out.on hb4)
              obtain ⟨e0, e1, e2, e3⟩ := cells4 (hb4.blk HX3.out)
              clear hb4 d0 d1 d2 d3
              by_cases hv3 : n ≤ x.v
              · have h2 := HBAD.out (by unfold badQ; simp [hv3, ← HBL.out])
                go_wp2
                all_goals (go_ret; first | exact ⟨rfl, HB4.out⟩ | exact ⟨by rw [h2]; rfl, HB4.out⟩)
              · by_cases hr3 : n ≤ x.r
                · have h2 := HBAD.out (by unfold badQ; simp [hr3])
                  go_wp2
                  all_goals (go_ret; first | exact ⟨rfl, HB4.out⟩ | exact ⟨by rw [h2]; rfl, HB4.out⟩)
                · have HREL := Lib.hid (show (xs.take (j + 1)).any (badQ n) = false by rw [take_snoc_ HX.out, List.any_append, HT.out]; unfold badQ; simp [HV.out, ← HBL.out] <;> omega)
                  go_wp2
                  all_goals (go_roundw; all_goals (first | exact ⟨j + 1, by omega, by go_num, HREL, HB4⟩ | (simp [intOf] <;> omega)))
          · have HV := Lib.hid hv
            clear hv
            go_wp2_with fail
            refine (imay_no HV.out _).mono ?_
            rintro e w3 ⟨rfl, hb3⟩
            have HB3 := Lib.hid (HB.out.on (HBA.out.on hb3))
            clear hb3
            go_wp2
            go_ret
            have h2 := HBAD.out (by unfold badQ; rw [HV.out]; rfl)
            rw [h2]
            exact ⟨rfl, HB3.out⟩
        · obtain rfl : j = len := by omega
          go_wp2
          go_ret
          have h := HT.out
          have hr := HR.out
          rw [HLX.out, List.take_length] at h
          rw [h] at hr
          rw [hr]
          exact ⟨rfl, HB.out⟩
    · rw [if_pos rfl] at hr
      subst hr
      go_wp2
      go_ret
      exact ⟨rfl, HB2.out⟩
end Go.Proofs.Ytjgpkolfcpoinaa.Mu

