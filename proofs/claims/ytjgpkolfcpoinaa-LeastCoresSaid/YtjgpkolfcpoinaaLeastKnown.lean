/-
  The core as Solve tells it; the statement LeastKnown: walked.
-/
import Derived.Test.YtjgpkolfcpoinaaRef04S
import Derived.Laws.MakeOwn
namespace Go.Proofs.Ytjgpkolfcpoinaa.Mu
open Go.ChangeShapes Go.WideShapes Go.ChangeAt Go.RowKit Go.Shelf

attribute [local go_sem] Oper.semAt_some

/-- The core's numbers, rising. -/
def coreL (is : List Nat) : List Int := (ints is).mergeSort fun x y => decide (x ≤ y)
theorem coreL_mem {is : List Nat} {x : Int} : x ∈ coreL is ↔ ∃ i ∈ is, x = (i : Int) := by
  unfold coreL
  rw [(List.mergeSort_perm (ints is) _).mem_iff]
  unfold ints
  rw [List.mem_map]
  exact ⟨fun ⟨i, h1, h2⟩ => ⟨i, h1, h2.symm⟩, fun ⟨i, h1, h2⟩ => ⟨i, h1, h2.symm⟩⟩
theorem coreL_len (is : List Nat) : (coreL is).length = is.length := by
  unfold coreL
  rw [(List.mergeSort_perm (ints is) _).length_eq]
  simp [ints]
theorem coreL_rises {is : List Nat} (h : is.Nodup) : (coreL is).Pairwise (· < ·) := by
  have hp : (coreL is).Pairwise (· ≤ ·) := by
    have := List.pairwise_mergeSort (le := fun x y : Int => decide (x ≤ y)) (by intro a b c; simp; omega) (by intro a b; simp; omega) (ints is)
    exact this.imp (by simp)
  have hn : (coreL is).Nodup := by
    unfold coreL
    rw [(List.mergeSort_perm (ints is) _).nodup_iff]
    unfold ints List.Nodup
    rw [List.pairwise_map]
    exact h.imp (fun hne e => hne (by omega))
  have := hp.and hn
  exact this.imp (fun ⟨h1, h2⟩ => by omega)
/-- A core is told. -/
def CoreOut (ns : List Int) (w : World) (e : Ending) (w' : World) : Prop :=
  ∃ A c, e = .returned (.tuple #[.slice none 0 0, .slice A ns.length c, .int .i64 40]) ∧ RI .i64 w' w'.heap.size A ns.length ns ∧ Bel w w'
theorem clash_out {is : List Nat} {w w' : World} {e : Ending} (h : ClashPost is w e w') : CoreOut (coreL is) w e w' := by
  obtain ⟨B, A, c, _, rfl, h2, h3⟩ := h
  have hl := coreL_len is
  refine ⟨A, c, by rw [hl], ?_, h3⟩
  rw [hl]
  exact RI.of_own h2

def kA : List Iq := [⟨0, 3, 1, 0⟩, ⟨0, 0, 2, 1⟩]
def kB : List Iq := [⟨0, 2, 1, 0⟩, ⟨0, 0, 1, 1⟩, ⟨0, 1, 1, 2⟩, ⟨1, 0, 1, -1⟩]
def kC : List Iq := [⟨0, 0, 1, 1⟩, ⟨1, 0, 1, -1⟩]
theorem kA_told {T : Option Nat × List Int × List Int} (h : Tells 2 [] kA T) : T.1 = none ∧ T.2.1 = [3, 3] := by
  obtain ⟨h1, h2⟩ := h.least [3, 3] (by intro x hx; simp [kA] at hx; rcases hx with rfl | rfl <;> simp [SatQ, lft]) (by
    intro v hv
    match v, hv with
    | 0, _ => simp [low0]
    | 1, _ => simp [low0])
  obtain ⟨h3, h4, h5⟩ := h.solves h1
  refine ⟨h1, ?_⟩
  obtain ⟨t1, t2, t3⟩ := T
  dsimp only at *
  match t2, h3 with
  | [a, b], _ =>
    have s0 := h4 ⟨0, 3, 1, 0⟩ (by simp [kA])
    have s1 := h4 ⟨0, 0, 2, 1⟩ (by simp [kA])
    have u0 := h2 0 (by omega)
    have u1 := h2 1 (by omega)
    simp [SatQ, lft] at s0 s1 u0 u1
    have e0 : a = 3 := by omega
    have e1 : b = 3 := by omega
    rw [e0, e1]
theorem kB_told {T : Option Nat × List Int × List Int} {ws : List Nat} (h : Tells 3 [] kB T) (hc : ∀ i, T.1 = some i → Cores 3 (low0 3 []) kB (i :: ws)) : ∃ i, T.1 = some i ∧ coreL (i :: ws) = [0, 1, 3] := by
  cases ht : T.1 with
  | none =>
    obtain ⟨_, h4, _⟩ := h.solves ht
    have s0 := h4 ⟨0, 2, 1, 0⟩ (by simp [kB])
    have s1 := h4 ⟨0, 0, 1, 1⟩ (by simp [kB])
    have s3 := h4 ⟨1, 0, 1, -1⟩ (by simp [kB])
    simp [SatQ, lft] at s0 s1 s3
    omega
  | some i =>
    refine ⟨i, rfl, ?_⟩
    have hk := hc i ht
    obtain ⟨is, his⟩ : ∃ is, is = i :: ws := ⟨_, rfl⟩
    rw [← his] at hk ⊢
    have hlt : ∀ j ∈ is, j < 4 := hk.lt
    have hno : ∀ j, j < 4 → j ≠ 2 → j ∈ is := fun j hj h2 => Classical.byContradiction fun hn => by
      have key : ∀ S : List Int, (∀ v, v < 3 → 1 ≤ S[v]?.getD 0) → (∀ k, k < 4 → k ≠ j → ∀ x, kB[k]? = some x → SatQ S x) → False := fun S h1 h3 =>
        hk.none S (fun k hk2 => h3 k (hlt k hk2) (fun e => hn (by rw [← e]; exact hk2))) (fun v hv => by
          have := h1 v hv
          match v, hv with
          | 0, _ => simpa [low0] using this
          | 1, _ => simpa [low0] using this
          | 2, _ => simpa [low0] using this)
      have pos : ∀ a b c : Int, 1 ≤ a → 1 ≤ b → 1 ≤ c → ∀ v, v < 3 → 1 ≤ ([a, b, c])[v]?.getD 0 := fun a b c h1 h2 h3 v hv => by
        match v, hv with
        | 0, _ => simpa using h1
        | 1, _ => simpa using h2
        | 2, _ => simpa using h3
      match j, hj, h2 with
      | 0, _, _ => exact key [1, 1, 1] (pos 1 1 1 (by omega) (by omega) (by omega)) (fun k hk4 hkn x hx => by
          match k, hk4, hkn with
          | 1, _, _ => simp [kB] at hx; subst hx; simp [SatQ, lft]
          | 2, _, _ => simp [kB] at hx; subst hx; simp [SatQ, lft]
          | 3, _, _ => simp [kB] at hx; subst hx; simp [SatQ, lft])
      | 1, _, _ => exact key [2, 1, 1] (pos 2 1 1 (by omega) (by omega) (by omega)) (fun k hk4 hkn x hx => by
          match k, hk4, hkn with
          | 0, _, _ => simp [kB] at hx; subst hx; simp [SatQ, lft]
          | 2, _, _ => simp [kB] at hx; subst hx; simp [SatQ, lft]
          | 3, _, _ => simp [kB] at hx; subst hx; simp [SatQ, lft])
      | 3, _, _ => exact key [2, 2, 1] (pos 2 2 1 (by omega) (by omega) (by omega)) (fun k hk4 hkn x hx => by
          match k, hk4, hkn with
          | 0, _, _ => simp [kB] at hx; subst hx; simp [SatQ, lft]
          | 1, _, _ => simp [kB] at hx; subst hx; simp [SatQ, lft]
          | 2, _, _ => simp [kB] at hx; subst hx; simp [SatQ, lft]
          | 3, _, h => exact absurd rfl h)
    have h0 := hno 0 (by omega) (by omega)
    have h1 := hno 1 (by omega) (by omega)
    have h3 := hno 3 (by omega) (by omega)
    have h2 : 2 ∉ is := fun h2 => by
      obtain ⟨S, _, _, hs⟩ := hk.some 2 h2
      have s0 := hs 0 h0 (by omega) ⟨0, 2, 1, 0⟩ (by simp [kB])
      have s1 := hs 1 h1 (by omega) ⟨0, 0, 1, 1⟩ (by simp [kB])
      have s3 := hs 3 h3 (by omega) ⟨1, 0, 1, -1⟩ (by simp [kB])
      simp [SatQ, lft] at s0 s1 s3
      omega
    refine rising_eq (coreL_rises hk.nd) (by simp) (fun x => ?_)
    rw [coreL_mem]
    constructor
    · rintro ⟨j, hj, rfl⟩
      have := hlt j hj
      match j, this with
      | 0, _ => simp
      | 1, _ => simp
      | 2, _ => exact absurd hj h2
      | 3, _ => simp
    · intro hx
      simp at hx
      rcases hx with rfl | rfl | rfl
      · exact ⟨0, h0, rfl⟩
      · exact ⟨1, h1, rfl⟩
      · exact ⟨3, h3, rfl⟩
theorem kC_told {T : Option Nat × List Int × List Int} {ws : List Nat} (h : Tells 2 [2, 1] kC T) (hc : ∀ i, T.1 = some i → Cores 2 (low0 2 [2, 1]) kC (i :: ws)) : ∃ i, T.1 = some i ∧ coreL (i :: ws) = [0, 1] := by
  have hl : low0 2 [2, 1] = [2, 1] := rfl
  cases ht : T.1 with
  | none =>
    obtain ⟨_, h4, h5⟩ := h.solves ht
    have s0 := h4 ⟨0, 0, 1, 1⟩ (by simp [kC])
    have s1 := h4 ⟨1, 0, 1, -1⟩ (by simp [kC])
    have s2 := (h5 0 (by omega)).2.2
    simp [SatQ, lft, hl] at s0 s1 s2
    omega
  | some i =>
    refine ⟨i, rfl, ?_⟩
    have hk := hc i ht
    rw [hl] at hk
    obtain ⟨is, his⟩ : ∃ is, is = i :: ws := ⟨_, rfl⟩
    rw [← his] at hk ⊢
    have hlt : ∀ j ∈ is, j < 2 := hk.lt
    have hno : ∀ j, j < 2 → j ∈ is := fun j hj => Classical.byContradiction fun hn => by
      have key : ∀ S : List Int, (∀ v, v < 2 → ([2, 1] : List Int)[v]?.getD 0 ≤ S[v]?.getD 0) → (∀ k, k < 2 → k ≠ j → ∀ x, kC[k]? = some x → SatQ S x) → False := fun S h1 h3 =>
        hk.none S (fun k hk2 => h3 k (hlt k hk2) (fun e => hn (by rw [← e]; exact hk2))) h1
      match j, hj with
      | 0, _ => exact key [2, 1] (fun v _ => Int.le_refl _) (fun k hk4 hkn x hx => by
          match k, hk4, hkn with
          | 1, _, _ => simp [kC] at hx; subst hx; simp [SatQ, lft])
      | 1, _ => exact key [2, 2] (fun v hv => by
          match v, hv with
          | 0, _ => simp
          | 1, _ => simp) (fun k hk4 hkn x hx => by
          match k, hk4, hkn with
          | 0, _, _ => simp [kC] at hx; subst hx; simp [SatQ, lft]
          | 1, _, h => exact absurd rfl h)
    refine rising_eq (coreL_rises hk.nd) (by simp) (fun x => ?_)
    rw [coreL_mem]
    constructor
    · rintro ⟨j, hj, rfl⟩
      have := hlt j hj
      match j, this with
      | 0, _ => simp
      | 1, _ => simp
    · intro hx
      simp at hx
      rcases hx with rfl | rfl
      · exact ⟨0, hno 0 (by omega), rfl⟩
      · exact ⟨1, hno 1 (by omega), rfl⟩
theorem rq_kA (w : World) : RQ (w.alloc (.cells #[.int .i64 0, .int .u8 3, .int .u8 1, .int .i64 0, .int .i64 0, .int .u8 0, .int .u8 2, .int .i64 1] 31)) (w.heap.size + 1) (some ⟨w.heap.size, 0, none⟩) 2 kA :=
  ⟨rfl, fun _ => ⟨_, 0, rfl, by omega, fun k x hx => by
    match k, hx with
    | 0, hx => simp [kA] at hx; subst hx; simp
    | 1, hx => simp [kA] at hx; subst hx; simp⟩⟩
theorem rq_kB (w : World) : RQ (w.alloc (.cells #[.int .i64 0, .int .u8 2, .int .u8 1, .int .i64 0, .int .i64 0, .int .u8 0, .int .u8 1, .int .i64 1, .int .i64 0, .int .u8 1, .int .u8 1, .int .i64 2, .int .i64 1, .int .u8 0, .int .u8 1, .int .i64 (-1)] 31)) (w.heap.size + 1) (some ⟨w.heap.size, 0, none⟩) 4 kB :=
  ⟨rfl, fun _ => ⟨_, 0, rfl, by omega, fun k x hx => by
    match k, hx with
    | 0, hx => simp [kB] at hx; subst hx; simp
    | 1, hx => simp [kB] at hx; subst hx; simp
    | 2, hx => simp [kB] at hx; subst hx; simp
    | 3, hx => simp [kB] at hx; subst hx; simp⟩⟩
theorem rq_kC (w : World) : RQ (w.alloc (.cells #[.int .i64 0, .int .u8 0, .int .u8 1, .int .i64 1, .int .i64 1, .int .u8 0, .int .u8 1, .int .i64 (-1)] 31)) (w.heap.size + 1) (some ⟨w.heap.size, 0, none⟩) 2 kC :=
  ⟨rfl, fun _ => ⟨_, 0, rfl, by omega, fun k x hx => by
    match k, hx with
    | 0, hx => simp [kC] at hx; subst hx; simp
    | 1, hx => simp [kC] at hx; subst hx; simp⟩⟩
theorem ri_mu2 (w : World) (x y : Int) : RI .u8 (w.alloc (.cells #[.int .u8 x, .int .u8 y] 27)) (w.heap.size + 1) (some ⟨w.heap.size, 0, none⟩) 2 [x, y] :=
  ⟨rfl, fun _ => ⟨_, 0, rfl, by omega, fun k hk => by
    match k, hk with
    | 0, _ => simp
    | 1, _ => simp⟩⟩
theorem ri_ints2 (w : World) (x y : Int) : RI .i64 (w.alloc (.cells #[.int .i64 x, .int .i64 y] 3)) (w.heap.size + 1) (some ⟨w.heap.size, 0, none⟩) 2 [x, y] :=
  ⟨rfl, fun _ => ⟨_, 0, rfl, by omega, fun k hk => by
    match k, hk with
    | 0, _ => simp
    | 1, _ => simp⟩⟩
theorem ri_ints3 (w : World) (x y z : Int) : RI .i64 (w.alloc (.cells #[.int .i64 x, .int .i64 y, .int .i64 z] 3)) (w.heap.size + 1) (some ⟨w.heap.size, 0, none⟩) 3 [x, y, z] :=
  ⟨rfl, fun _ => ⟨_, 0, rfl, by omega, fun k hk => by
    match k, hk with
    | 0, _ => simp
    | 1, _ => simp
    | 2, _ => simp⟩⟩
/-- Many inequalities of zero values. -/
def zeroQ : Array Value := madeCells #[.int .i64 0, .int .u8 0, .int .u8 0, .int .i64 0] 4194308
def manyQ : List Iq := List.replicate 1048577 iq0
theorem many_len : manyQ.length = 1048577 := List.length_replicate
theorem zero_at {i : Nat} (h : i < 4194308) : zeroQ[i]? = some ((#[Value.int .i64 0, .int .u8 0, .int .u8 0, .int .i64 0] : Array Value)[i % 4]!) := by
  unfold zeroQ madeCells
  rw [Array.getElem?_map, Array.getElem?_range, if_pos h]
  rfl
theorem make_many (W : World) : (Instr.makeSlice 35 (.int .i64 1048577) (.int .i64 1048577)).run Try.prog W = .ok (.slice (some ⟨W.heap.size, 0, none⟩) 1048577 1048577) (W.alloc (.cells zeroQ 31)) := by
  obtain ⟨i, hi, hz, hs, hb⟩ := info_parts info_ineq
  have h := run_make (P := Try.prog) W 35 31 i _ Try.underlying35 hi hz .i64 .i64 1048577 1048577 (by omega) (by omega) (by rw [hb]; omega) (by omega)
  rw [hs] at h
  exact h
theorem rq_many (w : World) : RQ (w.alloc (.cells zeroQ 31)) (w.heap.size + 1) (some ⟨w.heap.size, 0, none⟩) 1048577 manyQ := by
  refine ⟨many_len.symm, fun _ => ⟨_, 0, rfl, by omega, fun k x hx => ?_⟩⟩
  unfold manyQ at hx
  rw [List.getElem?_replicate] at hx
  split at hx
  · rename_i hk
    injection hx with hx
    subst hx
    have key : ∀ j, j < 4 → (w.alloc (.cells zeroQ 31)).cell? ⟨w.heap.size, 0 + k * 4 + j, none⟩ = some ((#[Value.int .i64 0, .int .u8 0, .int .u8 0, .int .i64 0] : Array Value)[j]!) := fun j hj => by
      have h1 := zero_at (i := k * 4 + j) (by omega)
      rw [show (k * 4 + j) % 4 = j by omega] at h1
      have h2 : (w.alloc (.cells zeroQ 31)).heap[w.heap.size]? = some (.cells zeroQ 31 (0, 0)) := blk1 w _
      rw [Nat.zero_add]
      simp only [World.cell?, h2, h1]
      rfl
    exact ⟨key 0 (by omega), key 1 (by omega), key 2 (by omega), key 3 (by omega)⟩
  · cases hx
theorem all_ones {T : Option Nat × List Int × List Int} (h : Tells 1048576 [] [] T) : T.1 = none :=
  (h.least (low0 1048576 []) (fun x hx => by cases hx) (fun _ _ => Int.le_refl _)).1
def AllOut (w : World) (e : Ending) (w' : World) : Prop := ∃ ga, e = .returned (.tuple #[.slice (some ⟨ga, 0, none⟩) 1048576 1048576, .slice none 0 0, .int .i64 0]) ∧ Bel w w'

set_option maxRecDepth 100000 in
set_option maxHeartbeats 4000000 in
theorem leastKnown_any (w : World) : Calls Try.prog 3 #[] w fun e w' => e = .returned (.bool true) ∧ Bel w w' := by
  have HSA : Hid (∀ (W : World) (A : Option Addr) (cap : Nat), RQ W W.heap.size A 2 kA → Calls Try.prog 12 #[.int .i64 2, .slice none 0 0, .slice A 2 cap] W (SolvedPost 2 [3, 3] W)) := Lib.hid fun W A cap hq => by
    obtain ⟨T, ws, ht, hc⟩ := solve_good 2 none A 0 0 2 cap [] kA rfl rfl (by decide +kernel)
    obtain ⟨e1, e2⟩ := kA_told ht
    refine (hc W RI.nil_ hq).mono fun e w' hp => ?_
    unfold SolvePost at hp
    rw [e1] at hp
    rw [e2] at hp
    exact hp
  have HSB : Hid (∀ (W : World) (A : Option Addr) (cap : Nat), RQ W W.heap.size A 4 kB → Calls Try.prog 12 #[.int .i64 3, .slice none 0 0, .slice A 4 cap] W (CoreOut [0, 1, 3] W)) := Lib.hid fun W A cap hq => by
    obtain ⟨T, ws, ht, hk, hc⟩ := solve_core 3 none A 0 0 4 cap [] kB rfl rfl (by decide +kernel)
    obtain ⟨i, e1, e2⟩ := kB_told ht hk
    refine (hc W RI.nil_ hq).mono fun e w' hp => ?_
    unfold SolvePost at hp
    rw [e1] at hp
    have h := clash_out hp
    rw [e2] at h
    exact h
  have HSC : Hid (∀ (W : World) (G A : Option Addr) (lk cap : Nat), RI .u8 W W.heap.size G 2 [2, 1] → RQ W W.heap.size A 2 kC → Calls Try.prog 12 #[.int .i64 2, .slice G 2 lk, .slice A 2 cap] W (CoreOut [0, 1] W)) := Lib.hid fun W G A lk cap hg hq => by
    obtain ⟨T, ws, ht, hk, hc⟩ := solve_core 2 G A 2 lk 2 cap [2, 1] kC rfl rfl (by decide +kernel)
    obtain ⟨i, e1, e2⟩ := kC_told ht hk
    refine (hc W hg hq).mono fun e w' hp => ?_
    unfold SolvePost at hp
    rw [e1] at hp
    have h := clash_out hp
    rw [e2] at h
    exact h
  have HSH : Hid (∀ W : World, Calls Try.prog 12 #[.int .i64 1048577, .slice none 0 0, .slice none 0 0] W fun e w' => e = .returned (.tuple #[.slice none 0 0, .slice none 0 0, .int .i64 3]) ∧ Bel W w') := Lib.hid fun W => by
    have hm : mayF 1048577 [] [] = 3 := by unfold mayF; rw [if_pos (.inl (by omega))]
    have h := solve_no 1048577 none none 0 0 0 0 [] [] W RI.nil_ RQ.nil_ (by omega) (by rw [hm]; omega)
    rw [hm] at h
    exact h
  have HSI : Hid (∀ (W : World) (A : Option Addr) (cap : Nat), RQ W W.heap.size A 1048577 manyQ → Calls Try.prog 12 #[.int .i64 1, .slice none 0 0, .slice A 1048577 cap] W fun e w' => e = .returned (.tuple #[.slice none 0 0, .slice none 0 0, .int .i64 3]) ∧ Bel W w') := Lib.hid fun W A cap hq => by
    have hl := many_len
    have hm : mayF 1 [] manyQ = 3 := by unfold mayF; rw [if_pos (.inr (by omega))]
    have h := solve_no 1 none A 0 0 1048577 cap [] manyQ W RI.nil_ hq (by omega) (by rw [hm]; omega)
    rw [hm] at h
    exact h
  have HSJ : Hid (∀ W : World, Calls Try.prog 12 #[.int .i64 1048576, .slice none 0 0, .slice none 0 0] W (AllOut W)) := Lib.hid fun W => by
    have hm : mayF 1048576 [] [] = 0 := by decide +kernel
    obtain ⟨T, ws, ht, hc⟩ := solve_good 1048576 none none 0 0 0 0 [] [] rfl rfl hm
    refine (hc W RI.nil_ RQ.nil_).mono fun e w' hp => ?_
    unfold SolvePost at hp
    rw [all_ones ht] at hp
    obtain ⟨ga, h1, _, _, h2⟩ := hp
    exact ⟨ga, h1, h2⟩
  have HEM : Hid (∀ (W : World) (A B : Option Addr) (c d : Nat), RI .u8 W W.heap.size A 2 [3, 3] → RI .u8 W W.heap.size B 2 [3, 3] → Calls Try.prog 17 #[.slice A 2 c, .slice B 2 d] W fun e w' => e = .returned (.bool true) ∧ Bel W w') := Lib.hid fun W A B c d h1 h2 => by
    have h := mequal_any A B 2 2 c d _ _ W h1 h2 (by omega) (by omega)
    rw [decide_eq_true rfl] at h
    exact h
  have HEI : Hid (∀ (W : World) (A B : Option Addr) (c d n : Nat) (l : List Int), n ≤ 10 → RI .i64 W W.heap.size A n l → RI .i64 W W.heap.size B n l → Calls Try.prog 18 #[.slice A n c, .slice B n d] W fun e w' => e = .returned (.bool true) ∧ Bel W w') := Lib.hid fun W A B c d n l hn h1 h2 => by
    have h := equal_any A B n n c d _ _ W h1 h2 (by omega) (by omega)
    rw [decide_eq_true rfl] at h
    exact h
  have HMK := Lib.hid make_many
  have HB0 : Hid (Bel w w) := Lib.hid (Bel.refl w)
  go_enter Try.func3, Try.ntmps3
  go_wp2_with fail
  refine (lk_any _ _).mono ?_
  rintro e w1 ⟨rfl, hb1⟩
  have HB1 := Lib.hid (HB0.out.on hb1)
  clear hb1
  go_wp2_with fail
  refine (lup_any _ _ _ _ _).mono ?_
  rintro e w2 ⟨rfl, hb2⟩
  have HB2 := Lib.hid (HB1.out.on hb2)
  clear hb2
  go_wp2_with fail
  refine (lv_any _ _).mono ?_
  rintro e w3 ⟨rfl, hb3⟩
  have HB3 := Lib.hid (HB2.out.on hb3)
  clear hb3
  go_wp2_with fail
  refine (lup_any _ _ _ _ _).mono ?_
  rintro e w4 ⟨rfl, hb4⟩
  have HB4 := Lib.hid (HB3.out.on hb4)
  clear hb4
  go_wp2_with fail
  refine (HSA.out _ _ _ (by simpa using rq_kA w4)).mono ?_
  rintro e w5 ⟨ga, rfl, ha, _, hb5⟩
  have HA := Lib.hid (ha.ri (n := 2) rfl)
  have HB5 := Lib.hid (HB4.out.on (((Bel.refl w4).alloc _).on hb5))
  clear ha hb5
  go_wp2_with fail
  refine (lk_any _ _).mono ?_
  rintro e w6 ⟨rfl, hb6⟩
  have HA6 := Lib.hid (HA.out.bel (hb6))
  have HB6 := Lib.hid (HB5.out.on hb6)
  clear hb6
  go_wp2_with fail
  refine (lup_any _ _ _ _ _).mono ?_
  rintro e w7 ⟨rfl, hb7⟩
  have HA7 := Lib.hid (HA6.out.bel (hb7))
  have HB7 := Lib.hid (HB6.out.on hb7)
  clear hb7
  go_wp2_with fail
  refine (lv_any _ _).mono ?_
  rintro e w8 ⟨rfl, hb8⟩
  have HA8 := Lib.hid (HA7.out.bel (hb8))
  have HB8 := Lib.hid (HB7.out.on hb8)
  clear hb8
  go_wp2_with fail
  refine (lup_any _ _ _ _ _).mono ?_
  rintro e w9 ⟨rfl, hb9⟩
  have HA9 := Lib.hid (HA8.out.bel (hb9))
  have HB9 := Lib.hid (HB8.out.on hb9)
  clear hb9
  go_wp2_with fail
  refine (lk_any _ _).mono ?_
  rintro e w10 ⟨rfl, hb10⟩
  have HA10 := Lib.hid (HA9.out.bel (hb10))
  have HB10 := Lib.hid (HB9.out.on hb10)
  clear hb10
  go_wp2_with fail
  refine (lup_any _ _ _ _ _).mono ?_
  rintro e w11 ⟨rfl, hb11⟩
  have HA11 := Lib.hid (HA10.out.bel (hb11))
  have HB11 := Lib.hid (HB10.out.on hb11)
  clear hb11
  go_wp2_with fail
  refine (lv_any _ _).mono ?_
  rintro e w12 ⟨rfl, hb12⟩
  have HA12 := Lib.hid (HA11.out.bel (hb12))
  have HB12 := Lib.hid (HB11.out.on hb12)
  clear hb12
  go_wp2_with fail
  refine (lup_any _ _ _ _ _).mono ?_
  rintro e w13 ⟨rfl, hb13⟩
  have HA13 := Lib.hid (HA12.out.bel (hb13))
  have HB13 := Lib.hid (HB12.out.on hb13)
  clear hb13
  go_wp2_with fail
  refine (HSB.out _ _ _ (by simpa using rq_kB w13)).mono ?_
  rintro e w14 ⟨Ab, cb, rfl, hab, hb14⟩
  have HAB := Lib.hid hab
  have HA14 := Lib.hid (HA13.out.bel ((((Bel.refl w13).alloc _).on hb14)))
  have HB14 := Lib.hid (HB13.out.on (((Bel.refl w13).alloc _).on hb14))
  clear hab hb14
  have HRM : Hid (RI .u8 (w14.alloc (.cells #[.int .u8 2, .int .u8 1] 27)) (w14.heap.size + 1) (some ⟨w14.heap.size, 0, none⟩) 2 [2, 1]) := Lib.hid (ri_mu2 w14 2 1)
  have HBM := Lib.hid (Bel.refl (w14.alloc (.cells #[.int .u8 2, .int .u8 1] 27)))
  go_wp2_with fail
  refine (lv_any _ _).mono ?_
  rintro e w15 ⟨rfl, hb15⟩
  have HM15 := Lib.hid (HBM.out.on hb15)
  have HA15 := Lib.hid (HA14.out.bel ((((Bel.refl w14).alloc _).on hb15)))
  have HAB15 := Lib.hid (HAB.out.bel ((((Bel.refl w14).alloc _).on hb15)))
  have HB15 := Lib.hid (HB14.out.on (((Bel.refl w14).alloc _).on hb15))
  clear hb15
  go_wp2_with fail
  refine (lup_any _ _ _ _ _).mono ?_
  rintro e w16 ⟨rfl, hb16⟩
  have HM16 := Lib.hid (HM15.out.on hb16)
  have HA16 := Lib.hid (HA15.out.bel (hb16))
  have HAB16 := Lib.hid (HAB15.out.bel (hb16))
  have HB16 := Lib.hid (HB15.out.on hb16)
  clear hb16
  go_wp2_with fail
  refine (lv_any _ _).mono ?_
  rintro e w17 ⟨rfl, hb17⟩
  have HM17 := Lib.hid (HM16.out.on hb17)
  have HA17 := Lib.hid (HA16.out.bel (hb17))
  have HAB17 := Lib.hid (HAB16.out.bel (hb17))
  have HB17 := Lib.hid (HB16.out.on hb17)
  clear hb17
  go_wp2_with fail
  refine (lup_any _ _ _ _ _).mono ?_
  rintro e w18 ⟨rfl, hb18⟩
  have HM18 := Lib.hid (HM17.out.on hb18)
  have HA18 := Lib.hid (HA17.out.bel (hb18))
  have HAB18 := Lib.hid (HAB17.out.bel (hb18))
  have HB18 := Lib.hid (HB17.out.on hb18)
  clear hb18
  go_wp2_with fail
  have hrm : RI .u8 (w18.alloc (.cells #[.int .i64 0, .int .u8 0, .int .u8 1, .int .i64 1, .int .i64 1, .int .u8 0, .int .u8 1, .int .i64 (-1)] 31)) (w18.alloc (.cells #[.int .i64 0, .int .u8 0, .int .u8 1, .int .i64 1, .int .i64 1, .int .u8 0, .int .u8 1, .int .i64 (-1)] 31)).heap.size (some ⟨w14.heap.size, 0, none⟩) 2 [2, 1] :=
    RI.bel (w := w14.alloc (.cells #[.int .u8 2, .int .u8 1] 27)) (by simpa using HRM.out) (HM18.out.alloc _)
  have HRM2 := Lib.hid hrm
  clear hrm
  refine (HSC.out _ _ _ _ _ HRM2.out (by simpa using rq_kC w18)).mono ?_
  rintro e w19 ⟨Ac, cc, rfl, hac, hb19⟩
  have HAC := Lib.hid hac
  have HA19 := Lib.hid (HA18.out.bel ((((Bel.refl w18).alloc _).on hb19)))
  have HAB19 := Lib.hid (HAB18.out.bel ((((Bel.refl w18).alloc _).on hb19)))
  have HB19 := Lib.hid (HB18.out.on (((Bel.refl w18).alloc _).on hb19))
  clear hac hb19
  go_wp2_with fail
  refine (HSH.out _).mono ?_
  rintro e w20 ⟨rfl, hb20⟩
  have HA20 := Lib.hid (HA19.out.bel (hb20))
  have HAB20 := Lib.hid (HAB19.out.bel (hb20))
  have HAC20 := Lib.hid (HAC.out.bel (hb20))
  have HB20 := Lib.hid (HB19.out.on hb20)
  clear hb20
  have hmk := HMK.out
  go_wp2_with fail
  refine (HSI.out _ _ _ (by simpa using rq_many w20)).mono ?_
  rintro e w21 ⟨rfl, hb21⟩
  have HA21 := Lib.hid (HA20.out.bel ((((Bel.refl w20).alloc _).on hb21)))
  have HAB21 := Lib.hid (HAB20.out.bel ((((Bel.refl w20).alloc _).on hb21)))
  have HAC21 := Lib.hid (HAC20.out.bel ((((Bel.refl w20).alloc _).on hb21)))
  have HB21 := Lib.hid (HB20.out.on (((Bel.refl w20).alloc _).on hb21))
  clear hb21 hmk
  go_wp2_with fail
  refine (HSJ.out _).mono ?_
  rintro e w22 ⟨gd, rfl, hb22⟩
  have HA22 := Lib.hid (HA21.out.bel (hb22))
  have HAB22 := Lib.hid (HAB21.out.bel (hb22))
  have HAC22 := Lib.hid (HAC21.out.bel (hb22))
  have HB22 := Lib.hid (HB21.out.on hb22)
  clear hb22
  go_wp2_with fail
  refine (works4_any _).mono ?_
  rintro e w23 ⟨rfl, hb23⟩
  have HA23 := Lib.hid (HA22.out.bel (hb23))
  have HAB23 := Lib.hid (HAB22.out.bel (hb23))
  have HAC23 := Lib.hid (HAC22.out.bel (hb23))
  have HB23 := Lib.hid (HB22.out.on hb23)
  clear hb23
  go_wp2_with fail
  refine (HEM.out _ _ _ _ _ (HA23.out.bel ((Bel.refl _).alloc _)) (by simpa using ri_mu2 w23 3 3)).mono ?_
  rintro e w24 ⟨rfl, hb24⟩
  have HA24 := Lib.hid (HA23.out.bel (((Bel.refl w23).alloc _).on hb24))
  have HAB24 := Lib.hid (HAB23.out.bel (((Bel.refl w23).alloc _).on hb24))
  have HAC24 := Lib.hid (HAC23.out.bel (((Bel.refl w23).alloc _).on hb24))
  have HB24 := Lib.hid (HB23.out.on (((Bel.refl w23).alloc _).on hb24))
  clear hb24
  go_wp2_with fail
  refine (HEI.out _ _ _ _ _ 3 _ (by omega) (HAB24.out.bel ((Bel.refl _).alloc _)) (by simpa using ri_ints3 w24 0 1 3)).mono ?_
  rintro e w25 ⟨rfl, hb25⟩
  have HA25 := Lib.hid (HA24.out.bel (((Bel.refl w24).alloc _).on hb25))
  have HAB25 := Lib.hid (HAB24.out.bel (((Bel.refl w24).alloc _).on hb25))
  have HAC25 := Lib.hid (HAC24.out.bel (((Bel.refl w24).alloc _).on hb25))
  have HB25 := Lib.hid (HB24.out.on (((Bel.refl w24).alloc _).on hb25))
  clear hb25
  go_wp2_with fail
  refine (HEI.out _ _ _ _ _ 2 _ (by omega) (HAC25.out.bel ((Bel.refl _).alloc _)) (by simpa using ri_ints2 w25 0 1)).mono ?_
  rintro e w26 ⟨rfl, hb26⟩
  have HA26 := Lib.hid (HA25.out.bel (((Bel.refl w25).alloc _).on hb26))
  have HAB26 := Lib.hid (HAB25.out.bel (((Bel.refl w25).alloc _).on hb26))
  have HAC26 := Lib.hid (HAC25.out.bel (((Bel.refl w25).alloc _).on hb26))
  have HB26 := Lib.hid (HB25.out.on (((Bel.refl w25).alloc _).on hb26))
  clear hb26
  go_wp2
  go_ret
  exact ⟨rfl, HB26.out⟩
end Go.Proofs.Ytjgpkolfcpoinaa.Mu

