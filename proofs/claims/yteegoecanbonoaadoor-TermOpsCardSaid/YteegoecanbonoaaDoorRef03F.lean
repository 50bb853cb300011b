/-
  The document's own answers for layers 2 and 3 (packages usufructref02, usufructref03), walked: Is, Fits; slices.Equal at inequalities.
-/
import Derived.Test.YteegoecanbonoaaDoorIneqOrder
import Derived.Test.YteegoecanbonoaaDoorIneqEq
namespace Go.Proofs.YteegoecanbonoaaDoor.Mu
open Go.ChangeShapes Go.WideShapes Go.ChangeAt Go.RowKit

set_option maxRecDepth 100000 in
set_option maxHeartbeats 1000000 in
theorem ris_any (v c : Int) (w : World) : Calls Tryd.prog 22 #[.agg #[.int .i64 v, .int .u8 c]] w fun e w' => e = .returned (.bool (isB v c)) ∧ Bel w w' := by
  have E : Hid (isB v c = ((decide (c = 0) && (decide (0 ≤ v) && decide (v < 1048576))) || ((decide (1 ≤ c) && decide (c ≤ 3)) && decide (v = 0)))) := Lib.hid rfl
  go_enter Tryd.func22, Tryd.ntmps22
  go_wp2
  all_goals go_ret
  all_goals
    refine ⟨ret_bool ?_, (Bel.refl _).alloc _⟩
    clear E
    unfold isB isVarB isMultB
    first | (rw [Bool.eq_iff_iff]; simp only [Bool.or_eq_true, Bool.and_eq_true, decide_eq_true_eq, beq_iff_eq, Bool.false_eq_true, false_iff, true_iff]; omega) | (simp_all; done) | (simp_all; omega)

def GivesR (xs : List Iq) (w : World) (e : Ending) (w' : World) : Prop := ∃ A n k, e = .returned (.slice A n k) ∧ RQ w' w'.heap.size A n xs ∧ Bel w w'
theorem lay_const {c b r : Int} (hc : 1 ≤ c) : layL 0 c b r = if c ≤ b then [] else [⟨0, c, b, r⟩] := by
  obtain ⟨a1, a2⟩ := lcm hc
  unfold layL alwaysB
  rw [a1, a2]
  by_cases h : c ≤ b <;> simp [h]
theorem lay_var {v b r : Int} (hv : 0 ≤ v) : layL v 0 b r = if b = 3 ∨ v = r then [] else [⟨v, 0, b, r⟩] := by
  obtain ⟨q1, q2, q3⟩ := lcv v
  unfold layL alwaysB
  rw [q1, q2, q3]
  by_cases h : b = 3
  · simp [h]
  · by_cases h2 : v = r
    · subst h2
      have : rhB v = true := by unfold rhB; simp; omega
      simp [this]
    · have h3 : ¬ r = v := fun e => h2 e.symm
      simp [h, h2, h3]

set_option maxRecDepth 100000 in
set_option maxHeartbeats 4000000 in
theorem rfits_f0 (c : Int) (A : Option Addr) (n k : Nat) (l : List Int) (g v : Int) (w : World) (hr : RI .i64 w w.heap.size A n l) (hmax : n ≤ 10000) (ht : mayB false c l = true) (hgb : 1 ≤ g ∧ g ≤ 3)  :
    Calls Tryd.prog 40 #[.agg #[.bool false, .int .u8 c, .slice A n k], .int .u8 g, .agg #[.int .i64 v, .int .u8 0]] w (GivesR (eachL c l g v) w) := by
  have HR := Lib.hid hr
  have HL := Lib.hid hr.len
  have HV := Lib.hid (mayB_all ht)
  have hT : 1 ≤ c := by exact (mayB_c ht).1
  obtain ⟨hg1, hg3⟩ := hgb
  clear hr ht
  by_cases htop : c ≤ g
  case' pos =>
    have HP : Hid (layL 0 c g v = []) := Lib.hid (by rw [lay_const hT, if_pos htop])
    have hd0 : decide (g < c) = false := decide_eq_false (by omega)
  case' neg =>
    have HP : Hid (layL 0 c g v = [⟨0, c, g, v⟩]) := Lib.hid (by rw [lay_const hT, if_neg htop])
    have hd0 : decide (g < c) = true := decide_eq_true (by omega)
  all_goals first
  | (exfalso; omega)
  | skip
  all_goals
    go_enter Tryd.func40, Tryd.ntmps40
    go_wp2_with (at_builtin; refine wpList_append_one rfl _ _ 51 rfl (w.heap.size + 2) 50 _ 4 32 Tryd.underlying51 info_ineq rfl (by decide) (by decide) none 0 0 [] rfl (World.ownsRow_nil _ _ _ _) (w.heap.size + 2) [.int .i64 0, .int .u8 c, .int .u8 g, .int .i64 v] rfl rfl (by simpa using four_at ((w.alloc (.cells #[.bool false, .int .u8 c, .slice A n k] 25)).alloc (.cells #[.int .i64 v, .int .u8 0] 32)) _ _ _ _ _) (by simp [Value.oneCell']) (by omega) (by simp) ?_; intro V0 cv0 w2 hown0 hg0; (have hb0 : Bel ((w.alloc (.cells #[.bool false, .int .u8 c, .slice A n k] 25)).alloc (.cells #[.int .i64 v, .int .u8 0] 32)) w2 := Below.grown ((Bel.refl _).alloc _) hg0 (by simp) (fun x hx => by cases hx)); (obtain ⟨b0, b1, b2, _, _, _⟩ := cells3 (hb0.blk (blk2 w _ _).1)); (have HB0 := Lib.hid hb0); (have HO0 := Lib.hid hown0); clear hb0 hown0 hg0)
  all_goals
    try clear b0 b1 b2
    go_loopw [10, 11] (fun sv si wr => ∃ (j mv cv : Nat) (V : Option Addr), j ≤ n ∧ si = .int .i64 j ∧ sv = .slice V mv cv ∧ w.heap.size + 2 ≤ wr.heap.size ∧ Hid (wr.ownsRow (w.heap.size + 2) 50 4 (.slice V mv cv) mv (flatI (eachL c (l.take j) g v))) ∧ Hid (wr.heap[w.heap.size]? = some (.cells #[.bool false, .int .u8 c, .slice A n k] 25 (0, 0))) ∧ Hid (Bel w wr)) (fun _ i _ => n - (intOf i).toNat)
    case atStart =>
      first
      | exact ⟨0, 0, 0, none, Nat.zero_le _, rfl, rfl, by simp, Lib.hid (by have e : eachL c (l.take 0) g v = [] := (by unfold eachL; rw [HP.out]; simp); rw [e]; exact World.ownsRow_nil _ _ _ _), Lib.hid (blk2 w _ _).1, Lib.hid (((Bel.refl w).alloc _).alloc _)⟩
      | exact ⟨0, 1, cv0, V0, Nat.zero_le _, rfl, rfl, (by have := HB0.out.size; simpa using this), Lib.hid (by have e : eachL c (l.take 0) g v = [⟨0, c, g, v⟩] := (by unfold eachL; rw [HP.out]; simp); rw [e]; have h := HO0.out; simp only [Nat.zero_add, List.nil_append] at h; exact h), Lib.hid (HB0.out.blk (blk2 w _ _).1), Lib.hid ((((Bel.refl w).alloc _).alloc _).on HB0.out)⟩
    case round =>
      obtain ⟨j, mv, cv, V, hj, rfl, rfl, hwz, HOW, HKB, HB⟩ := hrel
      obtain ⟨p0, p1, p2, _, _, _⟩ := cells3 HKB.out
      by_cases hlt : j < n
      · obtain ⟨bb, off, eA, hb, hc⟩ := (HR.out.bel HB.out).at_ (by omega)
        subst eA
        obtain ⟨u, huk⟩ : ∃ u, l[j]? = some u := ⟨_, List.getElem?_eq_getElem (by rw [← HL.out]; exact hlt)⟩
        have hcell := hc j hlt
        rw [huk] at hcell
        simp only [Option.getD_some] at hcell
        have HK := Lib.hid huk
        have HU := Lib.hid (HV.out u (List.mem_of_getElem? huk)).1
        have HMV : Hid (mv ≤ 20000) := Lib.hid (by
          have h1 := own_n HOW.out
          have h2 := eachL_len c (l.take j) g v
          have h3 : (l.take j).length ≤ j := List.length_take_le _ _
          omega)
        clear hc huk
        by_cases h3 : g < 3
        · by_cases hq : u = v
          · have hq2 : (u != v) = false := by simpa using hq
            have HE : Hid (eachL c (l.take (j + 1)) g v = eachL c (l.take j) g v) := Lib.hid (by rw [eachL_snoc HK.out, lay_var HU.out, if_pos (.inr hq), List.append_nil])
            clear hq
            go_wp2_with fail
            go_roundw
            case rel => exact ⟨j + 1, mv, cv, V, by omega, by go_num, rfl, hwz, Lib.hid (by rw [HE.out]; exact HOW.out), HKB, HB⟩
            case measure => simp [intOf]; omega
          · have hq2 : (u != v) = true := by simpa using hq
            have HE : Hid (eachL c (l.take (j + 1)) g v = eachL c (l.take j) g v ++ [⟨u, 0, g, v⟩]) := Lib.hid (by rw [eachL_snoc HK.out, lay_var HU.out, if_neg (fun h => h.elim (fun h => by omega) (fun h => hq h))])
            clear hq
            go_wp2_with (at_builtin; refine wpList_append_one rfl _ _ 51 rfl (w.heap.size + 2) 50 _ 4 32 Tryd.underlying51 info_ineq rfl (by decide) (by decide) V mv cv _ rfl (HOW.out.alloc _) wr.heap.size [.int .i64 u, .int .u8 0, .int .u8 g, .int .i64 v] rfl rfl (four_at wr _ _ _ _ _) (by simp [Value.oneCell']) (by have := HMV.out; omega) (by simp; omega) ?_; intro V3 cv3 w5 hown5 hg5)
            go_roundw
            case rel => exact ⟨j + 1, mv + 1, cv3, V3, by omega, by go_num, rfl, (by have := hg5.size; simp at this; omega), Lib.hid (by rw [HE.out, flatI_snoc]; exact hown5), Lib.hid (blk_far hg5 (((Bel.refl wr).alloc _).blk HKB.out) (fun e => by have := (HOW.out.lt w.heap.size e.symm).1; omega)), Lib.hid (Below.grown (HB.out.alloc _) hg5 (by simp; omega) (fun x hx => by have := (HOW.out.lt x hx).1; omega))⟩
            case measure => simp [intOf]; omega
        · have HE : Hid (eachL c (l.take (j + 1)) g v = eachL c (l.take j) g v) := Lib.hid (by rw [eachL_snoc HK.out, lay_var HU.out, if_pos (.inl (by omega)), List.append_nil])
          have hd3 : decide (g < 3) = false := decide_eq_false h3
          go_wp2_with fail
          go_roundw
          case rel => exact ⟨j + 1, mv, cv, V, by omega, by go_num, rfl, hwz, Lib.hid (by rw [HE.out]; exact HOW.out), HKB, HB⟩
          case measure => simp [intOf]; omega
      · obtain rfl : j = n := by omega
        have e : l.take j = l := by rw [HL.out]; exact List.take_length
        rw [e] at HOW
        clear e
        go_wp2_with fail
        go_ret
        exact ⟨V, mv, cv, rfl, .of_own HOW.out, HB.out⟩

set_option maxRecDepth 100000 in
set_option maxHeartbeats 4000000 in
theorem rfits_n0 (c : Int) (A : Option Addr) (n k : Nat) (l : List Int) (g v : Int) (w : World) (hr : RI .i64 w w.heap.size A n l) (hmax : n ≤ 10000) (ht : mayB true c l = true) (hgb : 1 ≤ g ∧ g ≤ 3)  :
    Calls Tryd.prog 40 #[.agg #[.bool true, .int .u8 c, .slice A n k], .int .u8 g, .agg #[.int .i64 v, .int .u8 0]] w (GivesR (eachL 2 l g v) w) := by
  have HR := Lib.hid hr
  have HL := Lib.hid hr.len
  have HN : Hid (n = 0) := Lib.hid (by have h := hr.len; have h2 := ht; unfold mayB at h2; simp at h2; rw [h, h2.1.2]; rfl)
  have hT : (1 : Int) ≤ 2 := by omega
  obtain ⟨hg1, hg3⟩ := hgb
  clear hr ht
  by_cases htop : 2 ≤ g
  case' pos =>
    have HP : Hid (layL 0 2 g v = []) := Lib.hid (by rw [lay_const hT, if_pos htop])
    have hd0 : decide (g < 2) = false := decide_eq_false (by omega)
  case' neg =>
    have HP : Hid (layL 0 2 g v = [⟨0, 2, g, v⟩]) := Lib.hid (by rw [lay_const hT, if_neg htop])
    have hd0 : decide (g < 2) = true := decide_eq_true (by omega)
  all_goals first
  | (exfalso; omega)
  | skip
  all_goals
    go_enter Tryd.func40, Tryd.ntmps40
    go_wp2_with (at_builtin; refine wpList_append_one rfl _ _ 51 rfl (w.heap.size + 2) 50 _ 4 32 Tryd.underlying51 info_ineq rfl (by decide) (by decide) none 0 0 [] rfl (World.ownsRow_nil _ _ _ _) (w.heap.size + 2) [.int .i64 0, .int .u8 2, .int .u8 g, .int .i64 v] rfl rfl (by simpa using four_at ((w.alloc (.cells #[.bool true, .int .u8 c, .slice A n k] 25)).alloc (.cells #[.int .i64 v, .int .u8 0] 32)) _ _ _ _ _) (by simp [Value.oneCell']) (by omega) (by simp) ?_; intro V0 cv0 w2 hown0 hg0; (have hb0 : Bel ((w.alloc (.cells #[.bool true, .int .u8 c, .slice A n k] 25)).alloc (.cells #[.int .i64 v, .int .u8 0] 32)) w2 := Below.grown ((Bel.refl _).alloc _) hg0 (by simp) (fun x hx => by cases hx)); (obtain ⟨b0, b1, b2, _, _, _⟩ := cells3 (hb0.blk (blk2 w _ _).1)); (have HB0 := Lib.hid hb0); (have HO0 := Lib.hid hown0); clear hb0 hown0 hg0)
  all_goals
    try clear b0 b1 b2
    go_loopw [10, 11] (fun sv si wr => ∃ (j mv cv : Nat) (V : Option Addr), j ≤ n ∧ si = .int .i64 j ∧ sv = .slice V mv cv ∧ w.heap.size + 2 ≤ wr.heap.size ∧ Hid (wr.ownsRow (w.heap.size + 2) 50 4 (.slice V mv cv) mv (flatI (eachL 2 (l.take j) g v))) ∧ Hid (wr.heap[w.heap.size]? = some (.cells #[.bool true, .int .u8 c, .slice A n k] 25 (0, 0))) ∧ Hid (Bel w wr)) (fun _ i _ => n - (intOf i).toNat)
    case atStart =>
      first
      | exact ⟨0, 0, 0, none, Nat.zero_le _, rfl, rfl, by simp, Lib.hid (by have e : eachL 2 (l.take 0) g v = [] := (by unfold eachL; rw [HP.out]; simp); rw [e]; exact World.ownsRow_nil _ _ _ _), Lib.hid (blk2 w _ _).1, Lib.hid (((Bel.refl w).alloc _).alloc _)⟩
      | exact ⟨0, 1, cv0, V0, Nat.zero_le _, rfl, rfl, (by have := HB0.out.size; simpa using this), Lib.hid (by have e : eachL 2 (l.take 0) g v = [⟨0, 2, g, v⟩] := (by unfold eachL; rw [HP.out]; simp); rw [e]; have h := HO0.out; simp only [Nat.zero_add, List.nil_append] at h; exact h), Lib.hid (HB0.out.blk (blk2 w _ _).1), Lib.hid ((((Bel.refl w).alloc _).alloc _).on HB0.out)⟩
    case round =>
      obtain ⟨j, mv, cv, V, hj, rfl, rfl, hwz, HOW, HKB, HB⟩ := hrel
      obtain ⟨p0, p1, p2, _, _, _⟩ := cells3 HKB.out
      by_cases hlt : j < n
      · exact absurd hlt (by have := HN.out; omega)
      · obtain rfl : j = n := by omega
        have e : l.take j = l := by rw [HL.out]; exact List.take_length
        rw [e] at HOW
        clear e
        go_wp2_with fail
        go_ret
        exact ⟨V, mv, cv, rfl, .of_own HOW.out, HB.out⟩

set_option maxRecDepth 100000 in
set_option maxHeartbeats 4000000 in
theorem rfits_f1 (c : Int) (A : Option Addr) (n k : Nat) (l : List Int) (g v m : Int) (w : World) (hr : RI .i64 w w.heap.size A n l) (hmax : n ≤ 10000) (ht : mayB false c l = true) (hgb : 1 ≤ g ∧ g ≤ 3) (hm : 1 ≤ m) (hmg : g < m) (hm3 : m ≤ 3) :
    Calls Tryd.prog 40 #[.agg #[.bool false, .int .u8 c, .slice A n k], .int .u8 g, .agg #[.int .i64 v, .int .u8 m]] w (GivesR (eachL c l m (-1)) w) := by
  have HR := Lib.hid hr
  have HL := Lib.hid hr.len
  have HV := Lib.hid (mayB_all ht)
  have hT : 1 ≤ c := by exact (mayB_c ht).1
  obtain ⟨hg1, hg3⟩ := hgb
  clear hr ht
  have hmz : (m == 0) = false := by rw [beq_eq_false_iff_ne]; omega
  by_cases htop : c ≤ m
  case' pos =>
    have HP : Hid (layL 0 c m (-1) = []) := Lib.hid (by rw [lay_const hT, if_pos htop])
    have hd0 : decide (m < c) = false := decide_eq_false (by omega)
  case' neg =>
    have HP : Hid (layL 0 c m (-1) = [⟨0, c, m, (-1)⟩]) := Lib.hid (by rw [lay_const hT, if_neg htop])
    have hd0 : decide (m < c) = true := decide_eq_true (by omega)
  all_goals first
  | (exfalso; omega)
  | skip
  all_goals
    go_enter Tryd.func40, Tryd.ntmps40
    go_wp2_with (at_builtin; refine wpList_append_one rfl _ _ 51 rfl (w.heap.size + 2) 50 _ 4 32 Tryd.underlying51 info_ineq rfl (by decide) (by decide) none 0 0 [] rfl (World.ownsRow_nil _ _ _ _) (w.heap.size + 2) [.int .i64 0, .int .u8 c, .int .u8 m, .int .i64 (-1)] rfl rfl (by simpa using four_at ((w.alloc (.cells #[.bool false, .int .u8 c, .slice A n k] 25)).alloc (.cells #[.int .i64 v, .int .u8 m] 32)) _ _ _ _ _) (by simp [Value.oneCell']) (by omega) (by simp) ?_; intro V0 cv0 w2 hown0 hg0; (have hb0 : Bel ((w.alloc (.cells #[.bool false, .int .u8 c, .slice A n k] 25)).alloc (.cells #[.int .i64 v, .int .u8 m] 32)) w2 := Below.grown ((Bel.refl _).alloc _) hg0 (by simp) (fun x hx => by cases hx)); (obtain ⟨b0, b1, b2, _, _, _⟩ := cells3 (hb0.blk (blk2 w _ _).1)); (have HB0 := Lib.hid hb0); (have HO0 := Lib.hid hown0); clear hb0 hown0 hg0)
  all_goals
    try clear b0 b1 b2
    go_loopw [10, 11] (fun sv si wr => ∃ (j mv cv : Nat) (V : Option Addr), j ≤ n ∧ si = .int .i64 j ∧ sv = .slice V mv cv ∧ w.heap.size + 2 ≤ wr.heap.size ∧ Hid (wr.ownsRow (w.heap.size + 2) 50 4 (.slice V mv cv) mv (flatI (eachL c (l.take j) m (-1)))) ∧ Hid (wr.heap[w.heap.size]? = some (.cells #[.bool false, .int .u8 c, .slice A n k] 25 (0, 0))) ∧ Hid (Bel w wr)) (fun _ i _ => n - (intOf i).toNat)
    case atStart =>
      first
      | exact ⟨0, 0, 0, none, Nat.zero_le _, rfl, rfl, by simp, Lib.hid (by have e : eachL c (l.take 0) m (-1) = [] := (by unfold eachL; rw [HP.out]; simp); rw [e]; exact World.ownsRow_nil _ _ _ _), Lib.hid (blk2 w _ _).1, Lib.hid (((Bel.refl w).alloc _).alloc _)⟩
      | exact ⟨0, 1, cv0, V0, Nat.zero_le _, rfl, rfl, (by have := HB0.out.size; simpa using this), Lib.hid (by have e : eachL c (l.take 0) m (-1) = [⟨0, c, m, (-1)⟩] := (by unfold eachL; rw [HP.out]; simp); rw [e]; have h := HO0.out; simp only [Nat.zero_add, List.nil_append] at h; exact h), Lib.hid (HB0.out.blk (blk2 w _ _).1), Lib.hid ((((Bel.refl w).alloc _).alloc _).on HB0.out)⟩
    case round =>
      obtain ⟨j, mv, cv, V, hj, rfl, rfl, hwz, HOW, HKB, HB⟩ := hrel
      obtain ⟨p0, p1, p2, _, _, _⟩ := cells3 HKB.out
      by_cases hlt : j < n
      · obtain ⟨bb, off, eA, hb, hc⟩ := (HR.out.bel HB.out).at_ (by omega)
        subst eA
        obtain ⟨u, huk⟩ : ∃ u, l[j]? = some u := ⟨_, List.getElem?_eq_getElem (by rw [← HL.out]; exact hlt)⟩
        have hcell := hc j hlt
        rw [huk] at hcell
        simp only [Option.getD_some] at hcell
        have HK := Lib.hid huk
        have HU := Lib.hid (HV.out u (List.mem_of_getElem? huk)).1
        have HMV : Hid (mv ≤ 20000) := Lib.hid (by
          have h1 := own_n HOW.out
          have h2 := eachL_len c (l.take j) m (-1)
          have h3 : (l.take j).length ≤ j := List.length_take_le _ _
          omega)
        clear hc huk
        by_cases h3 : m < 3
        · by_cases hq : u = (-1)
          · have hq2 : (u != (-1)) = false := by simpa using hq
            have HE : Hid (eachL c (l.take (j + 1)) m (-1) = eachL c (l.take j) m (-1)) := Lib.hid (by rw [eachL_snoc HK.out, lay_var HU.out, if_pos (.inr hq), List.append_nil])
            clear hq
            go_wp2_with fail
            go_roundw
            case rel => exact ⟨j + 1, mv, cv, V, by omega, by go_num, rfl, hwz, Lib.hid (by rw [HE.out]; exact HOW.out), HKB, HB⟩
            case measure => simp [intOf]; omega
          · have hq2 : (u != (-1)) = true := by simpa using hq
            have HE : Hid (eachL c (l.take (j + 1)) m (-1) = eachL c (l.take j) m (-1) ++ [⟨u, 0, m, (-1)⟩]) := Lib.hid (by rw [eachL_snoc HK.out, lay_var HU.out, if_neg (fun h => h.elim (fun h => by omega) (fun h => hq h))])
            clear hq
            go_wp2_with (at_builtin; refine wpList_append_one rfl _ _ 51 rfl (w.heap.size + 2) 50 _ 4 32 Tryd.underlying51 info_ineq rfl (by decide) (by decide) V mv cv _ rfl (HOW.out.alloc _) wr.heap.size [.int .i64 u, .int .u8 0, .int .u8 m, .int .i64 (-1)] rfl rfl (four_at wr _ _ _ _ _) (by simp [Value.oneCell']) (by have := HMV.out; omega) (by simp; omega) ?_; intro V3 cv3 w5 hown5 hg5)
            go_roundw
            case rel => exact ⟨j + 1, mv + 1, cv3, V3, by omega, by go_num, rfl, (by have := hg5.size; simp at this; omega), Lib.hid (by rw [HE.out, flatI_snoc]; exact hown5), Lib.hid (blk_far hg5 (((Bel.refl wr).alloc _).blk HKB.out) (fun e => by have := (HOW.out.lt w.heap.size e.symm).1; omega)), Lib.hid (Below.grown (HB.out.alloc _) hg5 (by simp; omega) (fun x hx => by have := (HOW.out.lt x hx).1; omega))⟩
            case measure => simp [intOf]; omega
        · have HE : Hid (eachL c (l.take (j + 1)) m (-1) = eachL c (l.take j) m (-1)) := Lib.hid (by rw [eachL_snoc HK.out, lay_var HU.out, if_pos (.inl (by omega)), List.append_nil])
          have hd3 : decide (m < 3) = false := decide_eq_false h3
          go_wp2_with fail
          go_roundw
          case rel => exact ⟨j + 1, mv, cv, V, by omega, by go_num, rfl, hwz, Lib.hid (by rw [HE.out]; exact HOW.out), HKB, HB⟩
          case measure => simp [intOf]; omega
      · obtain rfl : j = n := by omega
        have e : l.take j = l := by rw [HL.out]; exact List.take_length
        rw [e] at HOW
        clear e
        go_wp2_with fail
        go_ret
        exact ⟨V, mv, cv, rfl, .of_own HOW.out, HB.out⟩

set_option maxRecDepth 100000 in
set_option maxHeartbeats 4000000 in
theorem rfits_n1 (c : Int) (A : Option Addr) (n k : Nat) (l : List Int) (g v m : Int) (w : World) (hr : RI .i64 w w.heap.size A n l) (hmax : n ≤ 10000) (ht : mayB true c l = true) (hgb : 1 ≤ g ∧ g ≤ 3) (hm : 1 ≤ m) (hmg : g < m) (hm3 : m ≤ 3) :
    Calls Tryd.prog 40 #[.agg #[.bool true, .int .u8 c, .slice A n k], .int .u8 g, .agg #[.int .i64 v, .int .u8 m]] w (GivesR (eachL 2 l m (-1)) w) := by
  have HR := Lib.hid hr
  have HL := Lib.hid hr.len
  have HN : Hid (n = 0) := Lib.hid (by have h := hr.len; have h2 := ht; unfold mayB at h2; simp at h2; rw [h, h2.1.2]; rfl)
  have hT : (1 : Int) ≤ 2 := by omega
  obtain ⟨hg1, hg3⟩ := hgb
  clear hr ht
  have hmz : (m == 0) = false := by rw [beq_eq_false_iff_ne]; omega
  by_cases htop : 2 ≤ m
  case' pos =>
    have HP : Hid (layL 0 2 m (-1) = []) := Lib.hid (by rw [lay_const hT, if_pos htop])
    have hd0 : decide (m < 2) = false := decide_eq_false (by omega)
  case' neg =>
    have HP : Hid (layL 0 2 m (-1) = [⟨0, 2, m, (-1)⟩]) := Lib.hid (by rw [lay_const hT, if_neg htop])
    have hd0 : decide (m < 2) = true := decide_eq_true (by omega)
  all_goals first
  | (exfalso; omega)
  | skip
  all_goals
    go_enter Tryd.func40, Tryd.ntmps40
    go_wp2_with (at_builtin; refine wpList_append_one rfl _ _ 51 rfl (w.heap.size + 2) 50 _ 4 32 Tryd.underlying51 info_ineq rfl (by decide) (by decide) none 0 0 [] rfl (World.ownsRow_nil _ _ _ _) (w.heap.size + 2) [.int .i64 0, .int .u8 2, .int .u8 m, .int .i64 (-1)] rfl rfl (by simpa using four_at ((w.alloc (.cells #[.bool true, .int .u8 c, .slice A n k] 25)).alloc (.cells #[.int .i64 v, .int .u8 m] 32)) _ _ _ _ _) (by simp [Value.oneCell']) (by omega) (by simp) ?_; intro V0 cv0 w2 hown0 hg0; (have hb0 : Bel ((w.alloc (.cells #[.bool true, .int .u8 c, .slice A n k] 25)).alloc (.cells #[.int .i64 v, .int .u8 m] 32)) w2 := Below.grown ((Bel.refl _).alloc _) hg0 (by simp) (fun x hx => by cases hx)); (obtain ⟨b0, b1, b2, _, _, _⟩ := cells3 (hb0.blk (blk2 w _ _).1)); (have HB0 := Lib.hid hb0); (have HO0 := Lib.hid hown0); clear hb0 hown0 hg0)
  all_goals
    try clear b0 b1 b2
    go_loopw [10, 11] (fun sv si wr => ∃ (j mv cv : Nat) (V : Option Addr), j ≤ n ∧ si = .int .i64 j ∧ sv = .slice V mv cv ∧ w.heap.size + 2 ≤ wr.heap.size ∧ Hid (wr.ownsRow (w.heap.size + 2) 50 4 (.slice V mv cv) mv (flatI (eachL 2 (l.take j) m (-1)))) ∧ Hid (wr.heap[w.heap.size]? = some (.cells #[.bool true, .int .u8 c, .slice A n k] 25 (0, 0))) ∧ Hid (Bel w wr)) (fun _ i _ => n - (intOf i).toNat)
    case atStart =>
      first
      | exact ⟨0, 0, 0, none, Nat.zero_le _, rfl, rfl, by simp, Lib.hid (by have e : eachL 2 (l.take 0) m (-1) = [] := (by unfold eachL; rw [HP.out]; simp); rw [e]; exact World.ownsRow_nil _ _ _ _), Lib.hid (blk2 w _ _).1, Lib.hid (((Bel.refl w).alloc _).alloc _)⟩
      | exact ⟨0, 1, cv0, V0, Nat.zero_le _, rfl, rfl, (by have := HB0.out.size; simpa using this), Lib.hid (by have e : eachL 2 (l.take 0) m (-1) = [⟨0, 2, m, (-1)⟩] := (by unfold eachL; rw [HP.out]; simp); rw [e]; have h := HO0.out; simp only [Nat.zero_add, List.nil_append] at h; exact h), Lib.hid (HB0.out.blk (blk2 w _ _).1), Lib.hid ((((Bel.refl w).alloc _).alloc _).on HB0.out)⟩
    case round =>
      obtain ⟨j, mv, cv, V, hj, rfl, rfl, hwz, HOW, HKB, HB⟩ := hrel
      obtain ⟨p0, p1, p2, _, _, _⟩ := cells3 HKB.out
      by_cases hlt : j < n
      · exact absurd hlt (by have := HN.out; omega)
      · obtain rfl : j = n := by omega
        have e : l.take j = l := by rw [HL.out]; exact List.take_length
        rw [e] at HOW
        clear e
        go_wp2_with fail
        go_ret
        exact ⟨V, mv, cv, rfl, .of_own HOW.out, HB.out⟩

set_option maxRecDepth 100000 in
set_option maxHeartbeats 4000000 in
theorem rfits_f2 (c : Int) (A : Option Addr) (n k : Nat) (l : List Int) (g v m : Int) (w : World) (hr : RI .i64 w w.heap.size A n l) (hmax : n ≤ 10000) (ht : mayB false c l = true) (hgb : 1 ≤ g ∧ g ≤ 3) (hm : 1 ≤ m) (hmg : m ≤ g) :
    Calls Tryd.prog 40 #[.agg #[.bool false, .int .u8 c, .slice A n k], .int .u8 g, .agg #[.int .i64 v, .int .u8 m]] w (GivesR (eachL c l g (-1)) w) := by
  have HR := Lib.hid hr
  have HL := Lib.hid hr.len
  have HV := Lib.hid (mayB_all ht)
  have hT : 1 ≤ c := by exact (mayB_c ht).1
  obtain ⟨hg1, hg3⟩ := hgb
  clear hr ht
  have hmz : (m == 0) = false := by rw [beq_eq_false_iff_ne]; omega
  by_cases htop : c ≤ g
  case' pos =>
    have HP : Hid (layL 0 c g (-1) = []) := Lib.hid (by rw [lay_const hT, if_pos htop])
    have hd0 : decide (g < c) = false := decide_eq_false (by omega)
  case' neg =>
    have HP : Hid (layL 0 c g (-1) = [⟨0, c, g, (-1)⟩]) := Lib.hid (by rw [lay_const hT, if_neg htop])
    have hd0 : decide (g < c) = true := decide_eq_true (by omega)
  all_goals first
  | (exfalso; omega)
  | skip
  all_goals
    go_enter Tryd.func40, Tryd.ntmps40
    go_wp2_with (at_builtin; refine wpList_append_one rfl _ _ 51 rfl (w.heap.size + 2) 50 _ 4 32 Tryd.underlying51 info_ineq rfl (by decide) (by decide) none 0 0 [] rfl (World.ownsRow_nil _ _ _ _) (w.heap.size + 2) [.int .i64 0, .int .u8 c, .int .u8 g, .int .i64 (-1)] rfl rfl (by simpa using four_at ((w.alloc (.cells #[.bool false, .int .u8 c, .slice A n k] 25)).alloc (.cells #[.int .i64 v, .int .u8 m] 32)) _ _ _ _ _) (by simp [Value.oneCell']) (by omega) (by simp) ?_; intro V0 cv0 w2 hown0 hg0; (have hb0 : Bel ((w.alloc (.cells #[.bool false, .int .u8 c, .slice A n k] 25)).alloc (.cells #[.int .i64 v, .int .u8 m] 32)) w2 := Below.grown ((Bel.refl _).alloc _) hg0 (by simp) (fun x hx => by cases hx)); (obtain ⟨b0, b1, b2, _, _, _⟩ := cells3 (hb0.blk (blk2 w _ _).1)); (have HB0 := Lib.hid hb0); (have HO0 := Lib.hid hown0); clear hb0 hown0 hg0)
  all_goals
    try clear b0 b1 b2
    go_loopw [10, 11] (fun sv si wr => ∃ (j mv cv : Nat) (V : Option Addr), j ≤ n ∧ si = .int .i64 j ∧ sv = .slice V mv cv ∧ w.heap.size + 2 ≤ wr.heap.size ∧ Hid (wr.ownsRow (w.heap.size + 2) 50 4 (.slice V mv cv) mv (flatI (eachL c (l.take j) g (-1)))) ∧ Hid (wr.heap[w.heap.size]? = some (.cells #[.bool false, .int .u8 c, .slice A n k] 25 (0, 0))) ∧ Hid (Bel w wr)) (fun _ i _ => n - (intOf i).toNat)
    case atStart =>
      first
      | exact ⟨0, 0, 0, none, Nat.zero_le _, rfl, rfl, by simp, Lib.hid (by have e : eachL c (l.take 0) g (-1) = [] := (by unfold eachL; rw [HP.out]; simp); rw [e]; exact World.ownsRow_nil _ _ _ _), Lib.hid (blk2 w _ _).1, Lib.hid (((Bel.refl w).alloc _).alloc _)⟩
      | exact ⟨0, 1, cv0, V0, Nat.zero_le _, rfl, rfl, (by have := HB0.out.size; simpa using this), Lib.hid (by have e : eachL c (l.take 0) g (-1) = [⟨0, c, g, (-1)⟩] := (by unfold eachL; rw [HP.out]; simp); rw [e]; have h := HO0.out; simp only [Nat.zero_add, List.nil_append] at h; exact h), Lib.hid (HB0.out.blk (blk2 w _ _).1), Lib.hid ((((Bel.refl w).alloc _).alloc _).on HB0.out)⟩
    case round =>
      obtain ⟨j, mv, cv, V, hj, rfl, rfl, hwz, HOW, HKB, HB⟩ := hrel
      obtain ⟨p0, p1, p2, _, _, _⟩ := cells3 HKB.out
      by_cases hlt : j < n
      · obtain ⟨bb, off, eA, hb, hc⟩ := (HR.out.bel HB.out).at_ (by omega)
        subst eA
        obtain ⟨u, huk⟩ : ∃ u, l[j]? = some u := ⟨_, List.getElem?_eq_getElem (by rw [← HL.out]; exact hlt)⟩
        have hcell := hc j hlt
        rw [huk] at hcell
        simp only [Option.getD_some] at hcell
        have HK := Lib.hid huk
        have HU := Lib.hid (HV.out u (List.mem_of_getElem? huk)).1
        have HMV : Hid (mv ≤ 20000) := Lib.hid (by
          have h1 := own_n HOW.out
          have h2 := eachL_len c (l.take j) g (-1)
          have h3 : (l.take j).length ≤ j := List.length_take_le _ _
          omega)
        clear hc huk
        by_cases h3 : g < 3
        · by_cases hq : u = (-1)
          · have hq2 : (u != (-1)) = false := by simpa using hq
            have HE : Hid (eachL c (l.take (j + 1)) g (-1) = eachL c (l.take j) g (-1)) := Lib.hid (by rw [eachL_snoc HK.out, lay_var HU.out, if_pos (.inr hq), List.append_nil])
            clear hq
            go_wp2_with fail
            go_roundw
            case rel => exact ⟨j + 1, mv, cv, V, by omega, by go_num, rfl, hwz, Lib.hid (by rw [HE.out]; exact HOW.out), HKB, HB⟩
            case measure => simp [intOf]; omega
          · have hq2 : (u != (-1)) = true := by simpa using hq
            have HE : Hid (eachL c (l.take (j + 1)) g (-1) = eachL c (l.take j) g (-1) ++ [⟨u, 0, g, (-1)⟩]) := Lib.hid (by rw [eachL_snoc HK.out, lay_var HU.out, if_neg (fun h => h.elim (fun h => by omega) (fun h => hq h))])
            clear hq
            go_wp2_with (at_builtin; refine wpList_append_one rfl _ _ 51 rfl (w.heap.size + 2) 50 _ 4 32 Tryd.underlying51 info_ineq rfl (by decide) (by decide) V mv cv _ rfl (HOW.out.alloc _) wr.heap.size [.int .i64 u, .int .u8 0, .int .u8 g, .int .i64 (-1)] rfl rfl (four_at wr _ _ _ _ _) (by simp [Value.oneCell']) (by have := HMV.out; omega) (by simp; omega) ?_; intro V3 cv3 w5 hown5 hg5)
            go_roundw
            case rel => exact ⟨j + 1, mv + 1, cv3, V3, by omega, by go_num, rfl, (by have := hg5.size; simp at this; omega), Lib.hid (by rw [HE.out, flatI_snoc]; exact hown5), Lib.hid (blk_far hg5 (((Bel.refl wr).alloc _).blk HKB.out) (fun e => by have := (HOW.out.lt w.heap.size e.symm).1; omega)), Lib.hid (Below.grown (HB.out.alloc _) hg5 (by simp; omega) (fun x hx => by have := (HOW.out.lt x hx).1; omega))⟩
            case measure => simp [intOf]; omega
        · have HE : Hid (eachL c (l.take (j + 1)) g (-1) = eachL c (l.take j) g (-1)) := Lib.hid (by rw [eachL_snoc HK.out, lay_var HU.out, if_pos (.inl (by omega)), List.append_nil])
          have hd3 : decide (g < 3) = false := decide_eq_false h3
          go_wp2_with fail
          go_roundw
          case rel => exact ⟨j + 1, mv, cv, V, by omega, by go_num, rfl, hwz, Lib.hid (by rw [HE.out]; exact HOW.out), HKB, HB⟩
          case measure => simp [intOf]; omega
      · obtain rfl : j = n := by omega
        have e : l.take j = l := by rw [HL.out]; exact List.take_length
        rw [e] at HOW
        clear e
        go_wp2_with fail
        go_ret
        exact ⟨V, mv, cv, rfl, .of_own HOW.out, HB.out⟩

set_option maxRecDepth 100000 in
set_option maxHeartbeats 4000000 in
theorem rfits_n2 (c : Int) (A : Option Addr) (n k : Nat) (l : List Int) (g v m : Int) (w : World) (hr : RI .i64 w w.heap.size A n l) (hmax : n ≤ 10000) (ht : mayB true c l = true) (hgb : 1 ≤ g ∧ g ≤ 3) (hm : 1 ≤ m) (hmg : m ≤ g) :
    Calls Tryd.prog 40 #[.agg #[.bool true, .int .u8 c, .slice A n k], .int .u8 g, .agg #[.int .i64 v, .int .u8 m]] w (GivesR (eachL 2 l g (-1)) w) := by
  have HR := Lib.hid hr
  have HL := Lib.hid hr.len
  have HN : Hid (n = 0) := Lib.hid (by have h := hr.len; have h2 := ht; unfold mayB at h2; simp at h2; rw [h, h2.1.2]; rfl)
  have hT : (1 : Int) ≤ 2 := by omega
  obtain ⟨hg1, hg3⟩ := hgb
  clear hr ht
  have hmz : (m == 0) = false := by rw [beq_eq_false_iff_ne]; omega
  by_cases htop : 2 ≤ g
  case' pos =>
    have HP : Hid (layL 0 2 g (-1) = []) := Lib.hid (by rw [lay_const hT, if_pos htop])
    have hd0 : decide (g < 2) = false := decide_eq_false (by omega)
  case' neg =>
    have HP : Hid (layL 0 2 g (-1) = [⟨0, 2, g, (-1)⟩]) := Lib.hid (by rw [lay_const hT, if_neg htop])
    have hd0 : decide (g < 2) = true := decide_eq_true (by omega)
  all_goals first
  | (exfalso; omega)
  | skip
  all_goals
    go_enter Tryd.func40, Tryd.ntmps40
    go_wp2_with (at_builtin; refine wpList_append_one rfl _ _ 51 rfl (w.heap.size + 2) 50 _ 4 32 Tryd.underlying51 info_ineq rfl (by decide) (by decide) none 0 0 [] rfl (World.ownsRow_nil _ _ _ _) (w.heap.size + 2) [.int .i64 0, .int .u8 2, .int .u8 g, .int .i64 (-1)] rfl rfl (by simpa using four_at ((w.alloc (.cells #[.bool true, .int .u8 c, .slice A n k] 25)).alloc (.cells #[.int .i64 v, .int .u8 m] 32)) _ _ _ _ _) (by simp [Value.oneCell']) (by omega) (by simp) ?_; intro V0 cv0 w2 hown0 hg0; (have hb0 : Bel ((w.alloc (.cells #[.bool true, .int .u8 c, .slice A n k] 25)).alloc (.cells #[.int .i64 v, .int .u8 m] 32)) w2 := Below.grown ((Bel.refl _).alloc _) hg0 (by simp) (fun x hx => by cases hx)); (obtain ⟨b0, b1, b2, _, _, _⟩ := cells3 (hb0.blk (blk2 w _ _).1)); (have HB0 := Lib.hid hb0); (have HO0 := Lib.hid hown0); clear hb0 hown0 hg0)
  all_goals
    try clear b0 b1 b2
    go_loopw [10, 11] (fun sv si wr => ∃ (j mv cv : Nat) (V : Option Addr), j ≤ n ∧ si = .int .i64 j ∧ sv = .slice V mv cv ∧ w.heap.size + 2 ≤ wr.heap.size ∧ Hid (wr.ownsRow (w.heap.size + 2) 50 4 (.slice V mv cv) mv (flatI (eachL 2 (l.take j) g (-1)))) ∧ Hid (wr.heap[w.heap.size]? = some (.cells #[.bool true, .int .u8 c, .slice A n k] 25 (0, 0))) ∧ Hid (Bel w wr)) (fun _ i _ => n - (intOf i).toNat)
    case atStart =>
      first
      | exact ⟨0, 0, 0, none, Nat.zero_le _, rfl, rfl, by simp, Lib.hid (by have e : eachL 2 (l.take 0) g (-1) = [] := (by unfold eachL; rw [HP.out]; simp); rw [e]; exact World.ownsRow_nil _ _ _ _), Lib.hid (blk2 w _ _).1, Lib.hid (((Bel.refl w).alloc _).alloc _)⟩
      | exact ⟨0, 1, cv0, V0, Nat.zero_le _, rfl, rfl, (by have := HB0.out.size; simpa using this), Lib.hid (by have e : eachL 2 (l.take 0) g (-1) = [⟨0, 2, g, (-1)⟩] := (by unfold eachL; rw [HP.out]; simp); rw [e]; have h := HO0.out; simp only [Nat.zero_add, List.nil_append] at h; exact h), Lib.hid (HB0.out.blk (blk2 w _ _).1), Lib.hid ((((Bel.refl w).alloc _).alloc _).on HB0.out)⟩
    case round =>
      obtain ⟨j, mv, cv, V, hj, rfl, rfl, hwz, HOW, HKB, HB⟩ := hrel
      obtain ⟨p0, p1, p2, _, _, _⟩ := cells3 HKB.out
      by_cases hlt : j < n
      · exact absurd hlt (by have := HN.out; omega)
      · obtain rfl : j = n := by omega
        have e : l.take j = l := by rw [HL.out]; exact List.take_length
        rw [e] at HOW
        clear e
        go_wp2_with fail
        go_ret
        exact ⟨V, mv, cv, rfl, .of_own HOW.out, HB.out⟩

theorem rfits_any (nv : Bool) (c : Int) (A : Option Addr) (n k : Nat) (l : List Int) (g v m : Int) (w : World) (hr : RI .i64 w w.heap.size A n l) (hmax : n ≤ 10000) (ht : mayB nv c l = true) (hg : isMultB g = true) (hm : isB v m = true) :
    Calls Tryd.prog 40 #[.agg #[.bool nv, .int .u8 c, .slice A n k], .int .u8 g, .agg #[.int .i64 v, .int .u8 m]] w (GivesR (fitsL nv c l g v m) w) := by
  have hgb := isMultB_bd hg
  unfold fitsL
  rcases isB_parts hm with ⟨p, q, s⟩ | ⟨p, q, s⟩
  · subst p
    rw [show max g 0 = g by omega, show bndF v 0 = v from rfl]
    cases nv
    · exact rfits_f0 c A n k l g v w hr hmax ht hgb
    · have e : l = [] := by unfold mayB at ht; simp at ht; exact ht.1.2
      have h := rfits_n0 c A n k l g v w hr hmax ht hgb
      rw [e] at h ⊢
      exact h
  · have e2 : bndF v m = -1 := by unfold bndF; rw [if_neg (by omega)]
    rw [e2]
    by_cases hmg : g < m
    · rw [show max g m = m by omega]
      cases nv
      · exact rfits_f1 c A n k l g v m w hr hmax ht hgb p hmg q
      · have e : l = [] := by unfold mayB at ht; simp at ht; exact ht.1.2
        have h := rfits_n1 c A n k l g v m w hr hmax ht hgb p hmg q
        rw [e] at h ⊢
        exact h
    · rw [show max g m = g by omega]
      cases nv
      · exact rfits_f2 c A n k l g v m w hr hmax ht hgb p (by omega)
      · have e : l = [] := by unfold mayB at ht; simp at ht; exact ht.1.2
        have h := rfits_n2 c A n k l g v m w hr hmax ht hgb p (by omega)
        rw [e] at h ⊢
        exact h
end Go.Proofs.YteegoecanbonoaaDoor.Mu
