/-
  Sets of places in a row, as mathematics; graphs that grow arrow by arrow.
-/
import Derived.Test.YtlbachjhhjjmfaaSetsF
import Derived.Test.YtlbachjhhjjmfaaTabMath
namespace Go.Proofs.Ytlbachjhhjjmfaa.Mu
open Go

/-- Whether j is in the set at v. -/
def memW (ws : List Nat) (v j : Nat) : Bool := mem3 (ws[v * 3]?.getD 0) (ws[v * 3 + 1]?.getD 0) (ws[v * 3 + 2]?.getD 0) j
theorem mem3_or (a b c x y z j : Nat) : mem3 (a ||| x) (b ||| y) (c ||| z) j = (mem3 a b c j || mem3 x y z j) := by
  unfold mem3
  split
  · simp [Nat.testBit_or]
  · split <;> simp [Nat.testBit_or]
theorem mem3_zero (j : Nat) : mem3 0 0 0 j = false := by
  unfold mem3
  simp
theorem or_lt64 {a b : Nat} (ha : a < 2 ^ 64) (hb : b < 2 ^ 64) : a ||| b < 2 ^ 64 := Nat.or_lt_two_pow ha hb
theorem bit_lt64 (i : Nat) : 2 ^ (i % 64) < 2 ^ 64 := Nat.pow_lt_pow_right (by decide) (Nat.mod_lt _ (by decide))
theorem memW_add {ws : List Nat} {u v i j : Nat} (hv : v * 3 + 2 < ws.length) (hi : i ≤ 150) (hj : j ≤ 150) : memW (ws.set (v * 3 + i / 64) ((ws[v * 3 + i / 64]?.getD 0) ||| 2 ^ (i % 64))) u j = (memW ws u j || (decide (u = v) && decide (j = i))) := by
  by_cases huv : u = v
  · subst huv
    have hk : ∀ k, k ≤ 2 → (ws.set (u * 3 + i / 64) ((ws[u * 3 + i / 64]?.getD 0) ||| 2 ^ (i % 64)))[u * 3 + k]?.getD 0 = if i / 64 = k then (ws[u * 3 + k]?.getD 0) ||| 2 ^ (i % 64) else ws[u * 3 + k]?.getD 0 := fun k hk2 => by
      by_cases e : i / 64 = k
      · rw [if_pos e, e, List.getElem?_set_self (by omega)]; rfl
      · rw [if_neg e, List.getElem?_set_ne (by omega)]
    have h0 := hk 0 (by omega)
    have h1 := hk 1 (by omega)
    have h2 := hk 2 (by omega)
    rw [Nat.add_zero] at h0
    have key : ∀ x : Nat, Nat.testBit (x ||| 2 ^ (i % 64)) (j % 64) = (Nat.testBit x (j % 64) || decide (j % 64 = i % 64)) := fun x => by
      rw [Nat.testBit_or, Nat.testBit_two_pow]
      congr 1
      exact decide_eq_decide.2 ⟨fun h => h.symm, fun h => h.symm⟩
    have hi3 : i / 64 = 0 ∨ i / 64 = 1 ∨ i / 64 = 2 := by omega
    unfold memW mem3
    rw [h0, h1, h2]
    simp only [decide_true, Bool.true_and]
    have yes : ∀ x : Nat, (j % 64 = i % 64 ↔ j = i) → Nat.testBit (x ||| 2 ^ (i % 64)) (j % 64) = (Nat.testBit x (j % 64) || decide (j = i)) := fun x h => by
      rw [key]
      congr 1
      exact decide_eq_decide.2 h
    have no : ∀ b : Bool, j ≠ i → b = (b || decide (j = i)) := fun b h => by rw [decide_eq_false h, Bool.or_false]
    by_cases j0 : j < 64
    · simp only [if_pos j0]
      by_cases e : i / 64 = 0
      · rw [if_pos e]; exact yes _ (by omega)
      · rw [if_neg e]; exact no _ (by omega)
    · simp only [if_neg j0]
      by_cases j1 : j < 128
      · simp only [if_pos j1]
        by_cases e : i / 64 = 1
        · rw [if_pos e]; exact yes _ (by omega)
        · rw [if_neg e]; exact no _ (by omega)
      · simp only [if_neg j1]
        by_cases e : i / 64 = 2
        · rw [if_pos e]; exact yes _ (by omega)
        · rw [if_neg e]; exact no _ (by omega)
  · unfold memW
    rw [List.getElem?_set_ne (by omega), List.getElem?_set_ne (by omega), List.getElem?_set_ne (by omega), decide_eq_false huv]
    simp
theorem memW_set3 {ws : List Nat} {u v x y z j : Nat} (hv : v * 3 + 2 < ws.length) : memW (((ws.set (v * 3) x).set (v * 3 + 1) y).set (v * 3 + 2) z) u j = if u = v then mem3 x y z j else memW ws u j := by
  unfold memW
  by_cases e : u = v
  · subst e
    rw [if_pos rfl, List.getElem?_set_ne (by omega), List.getElem?_set_ne (by omega), List.getElem?_set_self (by omega), List.getElem?_set_ne (by omega), List.getElem?_set_self (by simp; omega), List.getElem?_set_self (by simp; omega)]
    rfl
  · rw [if_neg e]
    simp only [List.getElem?_set_ne (show v * 3 ≠ u * 3 by omega), List.getElem?_set_ne (show v * 3 ≠ u * 3 + 1 by omega), List.getElem?_set_ne (show v * 3 ≠ u * 3 + 2 by omega), List.getElem?_set_ne (show v * 3 + 1 ≠ u * 3 by omega), List.getElem?_set_ne (show v * 3 + 1 ≠ u * 3 + 1 by omega), List.getElem?_set_ne (show v * 3 + 1 ≠ u * 3 + 2 by omega), List.getElem?_set_ne (show v * 3 + 2 ≠ u * 3 by omega), List.getElem?_set_ne (show v * 3 + 2 ≠ u * 3 + 1 by omega), List.getElem?_set_ne (show v * 3 + 2 ≠ u * 3 + 2 by omega)]
/-- The sets, at each variable. -/
structure GotW (n : Nat) (ws : List Nat) (f : Nat → Nat → Prop) : Prop where
  len : ws.length = n * 3
  lt : ∀ x ∈ ws, x < 2 ^ 64
  mem : ∀ v j, v < n → j ≤ 150 → (memW ws v j = true ↔ f v j)
theorem GotW.get {n : Nat} {ws : List Nat} {f : Nat → Nat → Prop} (h : GotW n ws f) {i : Nat} (hi : i < n * 3) : ∃ x, ws[i]? = some x ∧ x < 2 ^ 64 := by
  have hi' : i < ws.length := by rw [h.len]; exact hi
  exact ⟨ws[i], List.getElem?_eq_getElem hi', h.lt _ (List.getElem_mem hi')⟩
theorem GotW.add {n : Nat} {ws : List Nat} {f : Nat → Nat → Prop} (h : GotW n ws f) {v i : Nat} (hv : v < n) (hi : i ≤ 150) {x : Nat} (hx : ws[v * 3 + i / 64]? = some x) : GotW n (ws.set (v * 3 + i / 64) (x ||| 2 ^ (i % 64))) (fun u j => f u j ∨ (u = v ∧ j = i)) := by
  have hxl := h.lt x (List.mem_of_getElem? hx)
  have e : x = ws[v * 3 + i / 64]?.getD 0 := by rw [hx]; rfl
  refine ⟨by rw [List.length_set]; exact h.len, fun y hy => ?_, fun u j hu hj => ?_⟩
  · rcases List.mem_or_eq_of_mem_set hy with hy | rfl
    · exact h.lt y hy
    · exact or_lt64 hxl (bit_lt64 i)
  · rw [e, memW_add (by rw [h.len]; omega) hi hj]
    simp only [Bool.or_eq_true, Bool.and_eq_true, decide_eq_true_eq, h.mem u j hu hj]
theorem GotW.set3 {n : Nat} {ws : List Nat} {f : Nat → Nat → Prop} (h : GotW n ws f) {v x y z : Nat} (hv : v < n) (hx : x < 2 ^ 64) (hy : y < 2 ^ 64) (hz : z < 2 ^ 64) : GotW n (((ws.set (v * 3) x).set (v * 3 + 1) y).set (v * 3 + 2) z) (fun u j => if u = v then mem3 x y z j = true else f u j) := by
  refine ⟨by simp only [List.length_set]; exact h.len, fun t ht => ?_, fun u j hu hj => ?_⟩
  · rcases List.mem_or_eq_of_mem_set ht with ht | rfl
    · rcases List.mem_or_eq_of_mem_set ht with ht | rfl
      · rcases List.mem_or_eq_of_mem_set ht with ht | rfl
        · exact h.lt t ht
        · exact hx
      · exact hy
    · exact hz
  · rw [memW_set3 (by rw [h.len]; omega)]
    by_cases e : u = v
    · simp only [if_pos e]
    · simp only [if_neg e]; exact h.mem u j hu hj
theorem gotW_start (n : Nat) : GotW n (List.replicate (n * 3) 0) (fun _ _ => False) := by
  refine ⟨by simp, fun x hx => by rw [List.eq_of_mem_replicate hx]; decide, fun v j hv hj => ?_⟩
  have hg : ∀ k, (List.replicate (n * 3) 0)[k]?.getD 0 = 0 := fun k => by
    rw [List.getElem?_replicate]; split <;> rfl
  unfold memW
  rw [hg, hg, hg, mem3_zero]
  simp

/-! ### Graphs -/
/-- The places of a variable's arrows, the last one first. -/
def rOf (E : List (Nat × Nat)) (v : Nat) : List Nat := ((List.range E.length).filter fun i => decide ((E[i]?.getD (0, 0)).1 = v)).reverse
theorem rOf_snoc (E : List (Nat × Nat)) (p : Nat × Nat) (v : Nat) : rOf (E ++ [p]) v = if p.1 = v then E.length :: rOf E v else rOf E v := by
  have h1 : (List.range E.length).filter (fun i => decide (((E ++ [p])[i]?.getD (0, 0)).1 = v)) = (List.range E.length).filter fun i => decide ((E[i]?.getD (0, 0)).1 = v) := by
    refine List.filter_congr fun i hi => ?_
    rw [List.getElem?_append_left (List.mem_range.1 hi)]
  unfold rOf
  rw [List.length_append, List.length_singleton, List.range_succ, List.filter_append, h1]
  by_cases e : p.1 = v
  · rw [if_pos e]
    simp [e]
  · rw [if_neg e]
    simp [e]
/-- The first arrows of all variables. -/
def fOf (n : Nat) (E : List (Nat × Nat)) : List Int := (List.range n).map fun v => match rOf E v with
  | [] => -1
  | i :: _ => (i : Int)
/-- The next ones. -/
def nxOf (E : List (Nat × Nat)) : List Int := (List.range E.length).map fun i => match rOf (E.take i) (E[i]?.getD (0, 0)).1 with
    | [] => -1
    | k :: _ => (k : Int)
def toOf (E : List (Nat × Nat)) : List Int := E.map fun p => (p.2 : Int)
theorem nxOf_snoc (E : List (Nat × Nat)) (p : Nat × Nat) : nxOf (E ++ [p]) = nxOf E ++ [match rOf E p.1 with | [] => -1 | k :: _ => (k : Int)] := by
  unfold nxOf
  rw [List.length_append, List.length_singleton, List.range_succ, List.map_append]
  congr 1
  · refine List.map_congr_left fun i hi => ?_
    have hi' := List.mem_range.1 hi
    rw [List.getElem?_append_left hi', List.take_append_of_le_length (by omega)]
  · simp
theorem nxOf_len (E : List (Nat × Nat)) : (nxOf E).length = E.length := by simp [nxOf]
theorem fOf_at {n v : Nat} (E : List (Nat × Nat)) (hv : v < n) : (fOf n E)[v]?.getD 0 = match rOf E v with | [] => -1 | i :: _ => (i : Int) := by
  simp only [fOf, List.getElem?_map, List.getElem?_range hv, Option.map_some, Option.getD_some]
theorem fOf_len (n : Nat) (E : List (Nat × Nat)) : (fOf n E).length = n := by simp [fOf]
theorem nxOf_next {n : Nat} (E : List (Nat × Nat)) (p : Nat × Nat) (hv : p.1 < n) : nxOf (E ++ [p]) = nxOf E ++ [(fOf n E)[p.1]?.getD 0] := by rw [nxOf_snoc, fOf_at E hv]
theorem fOf_snoc {n : Nat} (E : List (Nat × Nat)) (p : Nat × Nat) : fOf n (E ++ [p]) = (fOf n E).set p.1 (E.length : Int) := by
  apply List.ext_getElem?
  intro k
  by_cases hk : k < n
  · simp only [fOf, List.getElem?_map, List.getElem?_range hk, Option.map_some, rOf_snoc]
    by_cases e : p.1 = k
    · rw [if_pos e, e, List.getElem?_set_self (by simpa using hk)]
    · rw [if_neg e, List.getElem?_set_ne e]
      simp [hk]
  · rw [List.getElem?_eq_none (by rw [fOf_len]; omega), List.getElem?_eq_none (by rw [List.length_set, fOf_len]; omega)]
theorem fOf_nil (n : Nat) : fOf n [] = List.replicate n (-1) := by
  apply List.ext_getElem?
  intro k
  by_cases hk : k < n
  · simp [fOf, rOf, hk]
  · rw [List.getElem?_eq_none (by rw [fOf_len]; omega), List.getElem?_eq_none (by simpa using hk)]
theorem toOf_snoc (E : List (Nat × Nat)) (p : Nat × Nat) : toOf (E ++ [p]) = toOf E ++ [(p.2 : Int)] := by simp [toOf]
theorem Ch.more {N M : List Int} : ∀ {is : List Nat} {p : Int}, Ch N p is → Ch (N ++ M) p is
  | [], _, h => h
  | i :: is, p, ⟨h1, h2, h3⟩ => ⟨h1, by rw [List.length_append]; omega, by rw [List.getElem?_append_left h2]; exact h3.more⟩
theorem chain_all (n : Nat) (E : List (Nat × Nat)) (h : ∀ p ∈ E, p.1 < n) : ∀ v, v < n → Ch (nxOf E) ((fOf n E)[v]?.getD 0) (rOf E v) := by
  suffices H : ∀ k, k ≤ E.length → ∀ v, v < n → Ch (nxOf (E.take k)) ((fOf n (E.take k))[v]?.getD 0) (rOf (E.take k) v) by
    have := H E.length (Nat.le_refl _)
    rwa [List.take_length] at this
  intro k
  induction k with
  | zero =>
    intro _ v hv
    rw [List.take_zero, fOf_at _ hv]
    show Ch _ (match rOf [] v with | [] => -1 | i :: _ => (i : Int)) []
    rfl
  | succ k ih =>
    intro hk v hv
    have hk' : k < E.length := by omega
    have ih := ih (by omega)
    have hp := h _ (List.getElem_mem hk')
    rw [List.take_succ_eq_append_getElem hk', fOf_at _ hv, rOf_snoc]
    by_cases e : E[k].1 = v
    · rw [if_pos e, nxOf_next (n := n) _ _ hp]
      have hl : (E.take k).length = k := by rw [List.length_take]; omega
      refine ⟨rfl, by rw [List.length_append, nxOf_len]; simp, ?_⟩
      rw [List.getElem?_append_right (by rw [nxOf_len]; omega), nxOf_len]
      simp only [Nat.sub_self, List.getElem?_cons_zero, Option.getD_some]
      rw [e]
      exact (ih v hv).more
    · rw [if_neg e, nxOf_next (n := n) _ _ hp]
      have := ih v hv
      rw [fOf_at _ hv] at this
      exact this.more
theorem mem_rOf {E : List (Nat × Nat)} {v i : Nat} : i ∈ rOf E v ↔ ∃ w, E[i]? = some (v, w) := by
  unfold rOf
  simp only [List.mem_reverse, List.mem_filter, List.mem_range, decide_eq_true_eq]
  constructor
  · rintro ⟨h1, h2⟩
    rw [List.getElem?_eq_getElem h1] at h2 ⊢
    exact ⟨E[i].2, by simp only [Option.getD_some] at h2; rw [← h2]⟩
  · rintro ⟨w, h⟩
    exact ⟨(List.getElem?_eq_some_iff.1 h).1, by rw [h]; rfl⟩
/-- A graph in memory is what its arrows say. -/
theorem grf_of {c : Dc} {E : List (Nat × Nat)} (h : ∀ p ∈ E, p.1 < c.n ∧ p.2 < c.n) (hF : c.F = fOf c.n E) (hN : c.N = nxOf E) (hT : c.TO = toOf E) (hl : c.ln = E.length) : Grf c (rOf E) :=
  ⟨fun v hv => by rw [hF, hN]; exact chain_all c.n E (fun p hp => (h p hp).1) v hv, fun i hi => by
    have hi' : i < E.length := by omega
    have := (h _ (List.getElem_mem hi')).2
    rw [hT]
    simp only [toOf, List.getElem?_map, List.getElem?_eq_getElem hi', Option.map_some, Option.getD_some]
    omega, by rw [hN, nxOf_len, hl]⟩
theorem mem_adj {c : Dc} {E : List (Nat × Nat)} (hT : c.TO = toOf E) {v w : Nat} : w ∈ adjG c (rOf E) v ↔ (v, w) ∈ E := by
  unfold adjG
  simp only [List.mem_map, mem_rOf]
  constructor
  · rintro ⟨i, ⟨w', hi⟩, rfl⟩
    have : tg c i = w' := by unfold tg; rw [hT]; simp [toOf, hi]
    rw [this]
    exact List.mem_of_getElem? hi
  · intro h
    obtain ⟨i, hi⟩ := List.getElem?_of_mem h
    exact ⟨i, ⟨w, hi⟩, by unfold tg; rw [hT]; simp [toOf, hi]⟩
/-- The arrows of a level. -/
def arrE (xs : List Iq) (m : Int) : List (Nat × Nat) := (xs.filter fun x => decide (x.m = 0 ∧ x.c < m ∧ x.r ≠ -1)).map fun x => (x.v.toNat, x.r.toNat)
def swE (E : List (Nat × Nat)) : List (Nat × Nat) := E.map fun p => (p.2, p.1)
theorem mem_swE {E : List (Nat × Nat)} {v w : Nat} : (v, w) ∈ swE E ↔ (w, v) ∈ E := by
  unfold swE
  constructor
  · intro h
    obtain ⟨⟨a, b⟩, h1, h2⟩ := List.mem_map.1 h
    cases h2
    exact h1
  · intro h; exact List.mem_map.2 ⟨_, h, rfl⟩
theorem mem_arrE {xs : List Iq} {n : Nat} (hg : ∀ x ∈ xs, GoodQ n x) {m : Int} {v w : Nat} : (v, w) ∈ arrE xs m ↔ w ∈ arrM xs m v := by
  rw [mem_arrM]
  unfold arrE
  simp only [List.mem_map, List.mem_filter, decide_eq_true_eq]
  constructor
  · rintro ⟨x, ⟨h1, h2, h3, h4⟩, h5⟩
    cases h5
    have := (hg x h1).1
    exact ⟨x, h1, ⟨h2, h3, h4, by omega⟩, rfl⟩
  · rintro ⟨x, h1, ⟨h2, h3, h4, h5⟩, rfl⟩
    exact ⟨x, ⟨h1, h2, h3, h4⟩, by rw [h5]; simp⟩
theorem arrE_lt {xs : List Iq} {n : Nat} (hg : ∀ x ∈ xs, GoodQ n x) {m : Int} : ∀ p ∈ arrE xs m, p.1 < n ∧ p.2 < n := by
  rintro ⟨v, w⟩ hp
  exact arr_lt hg ((mem_arrE hg).1 hp)
theorem arrE_len (xs : List Iq) (m : Int) : (arrE xs m).length ≤ xs.length := by
  unfold arrE
  rw [List.length_map]
  exact List.length_filter_le _ _
theorem arrE_snoc (xs : List Iq) (x : Iq) (m : Int) : arrE (xs ++ [x]) m = if x.m = 0 ∧ x.c < m ∧ x.r ≠ -1 then arrE xs m ++ [(x.v.toNat, x.r.toNat)] else arrE xs m := by
  unfold arrE
  rw [List.filter_append, List.map_append]
  split
  · rename_i h; simp [h]
  · rename_i h; simp [h]
end Go.Proofs.Ytlbachjhhjjmfaa.Mu

