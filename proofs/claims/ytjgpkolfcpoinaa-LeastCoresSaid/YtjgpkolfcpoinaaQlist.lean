/-
  Lists of inequalities: append of one behind the other; slices.Clone, slices.Delete.
  slices.Delete of one inequality out of a slice of the call's own.
-/
import Derived.Test.YtjgpkolfcpoinaaLeastSolves
import Derived.Deep.RegionLaw
import Derived.WalkSpells
import Derived.Test.YtjgpkolfcpoinaaMemC
namespace Go.Proofs.Ytjgpkolfcpoinaa.Mu
open Go.ChangeShapes Go.WideShapes Go.ChangeAt Go.RowKit Go.Shelf

attribute [local go_sem] Oper.semAt_some

theorem flatI_app (a b : List Iq) : flatI (a ++ b) = flatI a ++ flatI b := by simp [flatI]
theorem flatI_length : ∀ xs : List Iq, (flatI xs).length = xs.length * 4
  | [] => rfl
  | x :: xs => by
    have e : flatI (x :: xs) = x.cells ++ flatI xs := by simp [flatI]
    have h : x.cells.length = 4 := rfl
    rw [e, List.length_append, flatI_length xs, h, List.length_cons]
    omega
theorem flatI_one4 (xs : List Iq) : ∀ u ∈ flatI xs, u.oneCell' = true := by
  intro u hu
  simp only [flatI, List.mem_flatMap] at hu
  obtain ⟨x, _, hu⟩ := hu
  simp [Iq.cells] at hu
  rcases hu with rfl | rfl | rfl | rfl <;> rfl
/-- The cells, read flat. -/
theorem RQ.flat {w : World} {B n : Nat} {b off : Nat} {xs : List Iq} (h : RQ w B (some ⟨b, off, none⟩) n xs) : ∀ j u, (flatI xs)[j]? = some u → w.cell? ⟨b, off + j, none⟩ = some u := by
  intro j u hu
  have hj := (List.getElem?_eq_some_iff.1 hu).1
  rw [flatI_length] at hj
  have hk : j / 4 < xs.length := by omega
  obtain ⟨b', off', e, _, hc⟩ := h.at_ (by have := h.len; omega)
  injection e with e
  injection e with e1 e2
  subst e1 e2
  obtain ⟨c0, c1, c2, c3⟩ := hc (j / 4) xs[j / 4] (List.getElem?_eq_getElem hk)
  obtain ⟨d0, d1, d2, d3⟩ := flatI_get xs (j / 4) xs[j / 4] (List.getElem?_eq_getElem hk)
  have h4 : j % 4 = 0 ∨ j % 4 = 1 ∨ j % 4 = 2 ∨ j % 4 = 3 := by omega
  rcases h4 with h4 | h4 | h4 | h4
  · have e : j / 4 * 4 = j := by omega
    rw [e, hu] at d0; injection d0 with d0; subst d0
    rw [e] at c0; exact c0
  · have e : j / 4 * 4 + 1 = j := by omega
    rw [e, hu] at d1; injection d1 with d1; subst d1
    rw [Nat.add_assoc, e] at c1; exact c1
  · have e : j / 4 * 4 + 2 = j := by omega
    rw [e, hu] at d2; injection d2 with d2; subst d2
    rw [Nat.add_assoc, e] at c2; exact c2
  · have e : j / 4 * 4 + 3 = j := by omega
    rw [e, hu] at d3; injection d3 with d3; subst d3
    rw [Nat.add_assoc, e] at c3; exact c3
theorem RQ.of_flat {w : World} {B g n : Nat} {xs : List Iq} (hn : n = xs.length) (hg : g < B) (h : ∀ j u, (flatI xs)[j]? = some u → w.cell? ⟨g, j, none⟩ = some u) : RQ w B (some ⟨g, 0, none⟩) n xs :=
  ⟨hn, fun _ => ⟨g, 0, rfl, hg, fun k x hx => by
    obtain ⟨d0, d1, d2, d3⟩ := flatI_get xs k x hx
    rw [Nat.zero_add]
    exact ⟨h _ _ d0, h _ _ d1, h _ _ d2, h _ _ d3⟩⟩⟩

section
variable {P : Program} {w : World}
theorem run_append_nil4 (base : Nat) (t ty e : TypeId) (i : TypeInfo) (ht : P.underlying t = some (.slice e)) (hi : P.info? e = some i)
    (size : Nat) (v : Value) (n : Nat) (xs : List Value) (hown : w.ownsRow base e size v n xs) (d : Nat) : (Builtin.append_ #[t, t] ty #[v, .slice none 0 d]).run P w = .ok v w := by
  rcases hown.2 with ⟨rfl, _⟩ | ⟨g, cap, cur, rfl, _, _, hnc, _⟩
  · simp [Builtin.append_, run_underlying ht, sizeOf, typeInfo, hi, Builtin.lenOf, Builtin.firstCells]
  · simp [Builtin.append_, run_underlying ht, sizeOf, typeInfo, hi, Builtin.lenOf, Builtin.firstCells, hnc, storeCells]

/-- append of a slice of inequalities, nil and empty ones let in, onto a slice of the call's own. -/
theorem wpList_append_rq {ops : Array Oper} {rest : List Oper} {o : Oper} {a : Act} {Q : Exit → Act → World → Prop} (hgd : o.guard = none) (s x : Operand) (t : TypeId)
    (ho : o.op = .call { callee := .builtin .append, args := #[s, x], argTypes := #[t, t] })
    (base : Nat) (e : TypeId) (z : Value) (hzs : z.cells.size = 4) (ht : P.underlying t = some (.slice e)) (hinfo : (P.info? e).map (fun i => (i.zero, i.size, i.bytes)) = some (some z, 4, 32))
    (A : Option Addr) (n c : Nat) (xs : List Iq) (hs : a.eval s = .slice A n c) (hown : w.ownsRow base e 4 (.slice A n c) n (flatI xs))
    (B0 : Nat) (B : Option Addr) (m d : Nat) (ys : List Iq) (hx : a.eval x = .slice B m d) (hr : RQ w B0 B m ys)
    (hmax : n + m ≤ 1000000000) (hbase : base ≤ w.heap.size)
    (h : ∀ A' c' w', w'.ownsRow base e 4 (.slice A' (n + m) c') (n + m) (flatI (xs ++ ys)) → w.grownBy w' (Value.slice A n c).ownBlock → wpList P ops Q rest (a.put o.dst (.slice A' (n + m) c')) w') : wpList P ops Q (o :: rest) a w := by
  obtain ⟨i, hi, hz0, hz1, hz2⟩ := info_parts hinfo
  have hl := hr.len
  rcases B with _ | ad
  · have hm : m = 0 := by
      rcases Nat.eq_zero_or_pos m with h' | h'
      · exact h'
      · obtain ⟨_, _, h', _⟩ := hr.at_ h'; cases h'
    subst hm
    obtain rfl : ys = [] := List.eq_nil_of_length_eq_zero hl.symm
    refine wpList_plain hgd fun K hK => ?_
    have hrun := run_append_nil4 (P := P) base t o.type e i ht hi _ _ n _ hown d
    have h' := h A c w (by simpa using hown) (World.grownBy.refl _ _)
    unfold Oper.wp
    simp only [execOp, ho, resolve, invoke, builtin, Sem.run_bind, Sem.run_pure, Result.andThen_ok, List.map_toArray, List.map_cons, List.map_nil, hs, hx, hrun]
    exact hK _ _ h'
  · refine wpList_append_own w hgd s x t ho base e i z 4 32 ht hi hz0 hz1 hz2 hzs (by decide) _ n _ hs hown ad m d (flatI ys) hx (by rw [flatI_length, hl]) ?_ (flatI_one4 ys) (by unfold maxLen; omega) (by omega) hbase ?_
    · intro j u hu
      have hj : j < ys.length * 4 := by have := (List.getElem?_eq_some_iff.1 hu).1; rwa [flatI_length] at this
      obtain ⟨b, off, e', _, _⟩ := hr.at_ (by omega)
      injection e' with e'
      subst e'
      rw [Addr.add_lit]
      exact hr.flat j u hu
    · intro v' w' hown' hg _
      obtain ⟨A', c', rfl⟩ := own_form_n hown'
      exact h A' c' w' (by rw [flatI_app]; exact hown') hg
end

set_option maxHeartbeats 1000000 in
theorem cloneQ_any (A : Option Addr) (n cap : Nat) (xs : List Iq) (w : World) (hq : RQ w w.heap.size A n xs) (hn : n ≤ 1000000) :
    Calls Try.prog 23 #[.slice A n cap] w fun e w' => ∃ A' c', e = .returned (.slice A' n c') ∧ w'.ownsRow w.heap.size 31 4 (.slice A' n c') n (flatI xs) ∧ Bel w w' := by
  have q22 : ∀ (w : World) (a : Option Addr) (n c n' c' : Nat), (binOp .eql 35 (.slice a n c) (.slice none n' c')).run Try.prog w = .ok (.bool a.isNone) w := fun w a n c n' c' => Lib.run_eql_slice_nil w _ _ a n c n' c' Try.underlying35
  have HQ := Lib.hid hq
  clear hq
  rcases A with _ | a
  · have hn0 : n = 0 := by
      rcases Nat.eq_zero_or_pos n with h | h
      · exact h
      · obtain ⟨_, _, h', _⟩ := HQ.out.at_ h; cases h'
    subst hn0
    have hx : xs = [] := List.eq_nil_of_length_eq_zero HQ.out.len.symm
    have HX := Lib.hid hx
    clear hx
    go_enter Try.func23, Try.ntmps23
    go_wp2
    go_ret
    exact ⟨none, 0, rfl, by rw [HX.out]; exact World.ownsRow_nil _ _ _ _, Bel.refl _⟩
  · go_enter Try.func23, Try.ntmps23
    go_wp2_with (at_builtin; refine wpList_append_rq rfl _ _ 35 rfl w.heap.size 31 _ rfl Try.underlying35 info_ineq (some ⟨w.heap.size, 0, none⟩) 0 0 [] rfl (World.ownsRow_made w #[] 0 (Nat.le_refl _) (Nat.zero_le _) (by simp)) _ (some a) n cap xs rfl (HQ.out.bel ((Bel.refl w).alloc _)) (by omega) (by simp) ?_; intro A' c' w1 hown1 hg1)
    go_ret
    refine ⟨A', c', rfl, by simpa using hown1, ?_⟩
    exact Below.grown ((Bel.refl w).alloc _) hg1 (by simp) (fun x hx => by simp [Value.ownBlock] at hx; omega)
end Go.Proofs.Ytjgpkolfcpoinaa.Mu
namespace Go.Proofs.Ytjgpkolfcpoinaa.Mu
open Go.ChangeShapes Go.WideShapes Go.ChangeAt Go.RowKit Go.Shelf

attribute [local go_sem] Oper.semAt_some

theorem run_clear4 {P : Program} (w : World) (t e ty : TypeId) (z : Value) (ht : P.underlying t = some (.slice e)) (hv : ∀ w, (zeroValue e).run P w = .ok z w) (hz : z.cells.size = 4) (h1 : ∀ v ∈ z.cells.toList, v.oneCell' = true) (b o n c : Nat)
    (hc : ∀ j, j < n * 4 → (w.cell? ⟨b, o + j, none⟩).isSome = true) (hf : ∀ j, w.frozen? ⟨b, j, none⟩ = false) :
    (Builtin.clear_ #[t] ty #[.slice (some ⟨b, o, none⟩) n c]).run P w = .ok (.tuple #[]) (w.setCells b o (Builtin.zeroCells z.cells n).toList) := by
  have hl : (Builtin.zeroCells z.cells n).toList.length = n * 4 := by simp [Builtin.zeroCells, hz]
  have hst := run_storeCells_cells (P := P) b o (Builtin.zeroCells z.cells n).toList 0 w (by intro j hj; exact hc j (by omega)) (by intro j _; exact hf _) (by
    intro v hv'
    simp only [Builtin.zeroCells, Array.toList_map, List.mem_map] at hv'
    obtain ⟨i, _, rfl⟩ := hv'
    have hlt : i % z.cells.size < z.cells.size := Nat.mod_lt _ (by omega)
    rw [getElem!_pos z.cells _ hlt]
    exact h1 _ (by simp))
  simp only [Nat.add_zero] at hst
  rcases n with _ | m
  · simp [Builtin.clear_, run_underlying ht, Builtin.zeroCells, World.setCells]
  · simp [Builtin.clear_, run_underlying ht, hv, hst]
theorem zero_ineq (w : World) : (zeroValue 31).run Try.prog w = .ok (.agg #[.int .i64 0, .int .u8 0, .int .u8 0, .int .i64 0]) w := by kernel_rfl
theorem frozen_setCells_any (w : World) (g o : Nat) (vs : List Value) (h : ∀ j, w.frozen? ⟨g, j, none⟩ = false) (j : Nat) : (w.setCells g o vs).frozen? ⟨g, j, none⟩ = false := by
  rw [World.frozen?_setCells]; exact h j
theorem flatI_take_get {xs : List Iq} {k j : Nat} (hj : j < k * 4) : (flatI (xs.take k))[j]? = (flatI xs)[j]? := by
  by_cases hk : k ≤ xs.length
  · have e : flatI xs = flatI (xs.take k) ++ flatI (xs.drop k) := by rw [← flatI_app, List.take_append_drop]
    rw [e, List.getElem?_append_left (by rw [flatI_length, List.length_take]; omega)]
  · rw [List.take_of_length_le (by omega)]
/-- What stands in the block behind the elements from i + 1 on came to i, whatever is cleared behind them. -/
theorem deleted_flat {w : World} {g i : Nat} {xs : List Iq} {zs : List Value} {off : Nat} (hi : i < xs.length) (hoff : (xs.length - 1) * 4 ≤ off) (h : ∀ j u, (flatI xs)[j]? = some u → w.cell? ⟨g, j, none⟩ = some u) :
    ∀ j u, (flatI (xs.eraseIdx i))[j]? = some u → ((w.setCells g (i * 4) (flatI (xs.drop (i + 1)))).setCells g off zs).cell? ⟨g, j, none⟩ = some u := by
  intro j u hu
  have hj := (List.getElem?_eq_some_iff.1 hu).1
  rw [flatI_length, List.length_eraseIdx_of_lt hi] at hj
  rw [World.cell?_setCells_out _ _ _ _ _ (fun _ _ => .inl (by simp; omega))]
  rw [List.eraseIdx_eq_take_drop_succ, flatI_app] at hu
  have hl : (flatI (xs.take i)).length = i * 4 := by rw [flatI_length, List.length_take]; omega
  by_cases hji : j < i * 4
  · rw [List.getElem?_append_left (by omega), flatI_take_get hji] at hu
    rw [World.cell?_setCells_out _ _ _ _ _ (fun _ _ => .inl (by simp; omega))]
    exact h j u hu
  · rw [List.getElem?_append_right (by omega), hl] at hu
    have hj2 := (List.getElem?_eq_some_iff.1 hu).1
    have hin := World.cell?_setCells_in g (flatI (xs.drop (i + 1))) (i * 4) w (fun k hk => by
      rw [flatI_length, List.length_drop] at hk
      have hk' : i * 4 + k < (flatI xs).length := by rw [flatI_length]; omega
      rw [h (i * 4 + k) _ (List.getElem?_eq_getElem hk')]
      rfl) (j - i * 4) hj2
    rw [show i * 4 + (j - i * 4) = j by omega] at hin
    rw [hin]
    rw [← hu, List.getElem?_eq_getElem hj2]

set_option maxRecDepth 100000 in
set_option maxHeartbeats 2000000 in
theorem deleteQ_any (g i r cap base : Nat) (xs : List Iq) (w : World) (hown : w.ownsRow base 31 4 (.slice (some ⟨g, 0, none⟩) (i + 1 + r) cap) (i + 1 + r) (flatI xs)) (hn : i + 1 + r ≤ 1000) (hcap : i + 1 + r ≤ cap) (hc63 : cap ≤ 9223372036854775807) :
    Calls Try.prog 22 #[.slice (some ⟨g, 0, none⟩) (i + 1 + r) cap, .int .i64 (i : Int), .int .i64 ((i : Int) + 1)] w fun e w' => ∃ c', e = .returned (.slice (some ⟨g, 0, none⟩) (i + r) c') ∧ RQ w' (g + 1) (some ⟨g, 0, none⟩) (i + r) (xs.eraseIdx i) ∧ Only g w w' := by
  have hxl : xs.length = i + 1 + r := by
    have := hown.1
    rw [flatI_length] at this
    omega
  have hfl : ∀ j u, (flatI xs)[j]? = some u → w.cell? ⟨g, j, none⟩ = some u := fun j u hu => by
    have := hown.cells (g := g) rfl j u hu
    rwa [Addr.add_lit, Nat.zero_add] at this
  have HFL := Lib.hid hfl
  have HXL := Lib.hid hxl
  have hfz := fun j => hown.frozenAt j
  have HFZ := Lib.hid hfz
  obtain ⟨i0, hi0, hz0, hz1, hz2⟩ := info_parts info_ineq
  have HI0 := Lib.hid hi0
  have HZ1 := Lib.hid hz1
  clear hfl hxl hfz hown hi0 hz0 hz1 hz2
  have k1 : i ≤ cap := by omega
  have k2 : i + 1 ≤ i + 1 + r := by omega
  have k4 : (0 : Int) ≤ (i : Int) + 1 := by omega
  have k5 : (i : Int) + 1 ≤ (i : Int) + 1 + (r : Int) := by omega
  have n1 : (0 : Int) ≤ (i : Int) := by omega
  have n2 : (i : Int) ≤ (i : Int) + 1 := by omega
  have n3 : (i : Int) + 1 ≤ ((i + 1 + r : Nat) : Int) := by omega
  have n4 : ((i + 1 + r : Nat) : Int) ≤ (cap : Int) := by omega
  have n5 : ((i : Int) == (i : Int) + 1) = false := by simp; omega
  have hlen : Hid ((flatI (xs.drop (i + 1))).length = r * 4) := Lib.hid (by rw [flatI_length, List.length_drop, HXL.out]; omega)
  have hsrc : Hid (∀ j u, (flatI (xs.drop (i + 1)))[j]? = some u → w.cell? ⟨g, (i + 1) * 4 + j, none⟩ = some u) := Lib.hid (fun j u hu => by
    refine HFL.out _ _ ?_
    have e : flatI xs = flatI (xs.take (i + 1)) ++ flatI (xs.drop (i + 1)) := by rw [← flatI_app, List.take_append_drop]
    have hl : (flatI (xs.take (i + 1))).length = (i + 1) * 4 := by rw [flatI_length, List.length_take, HXL.out]; omega
    rw [e, List.getElem?_append_right (by omega), hl, Nat.add_sub_cancel_left]
    exact hu)
  have hspare : Hid (∀ j, j < (flatI (xs.drop (i + 1))).length → (w.cell? ⟨g, 0 + i * 4 + j, none⟩).isSome = true ∧ w.frozen? ⟨g, 0 + i * 4 + j, none⟩ = false) := Lib.hid (fun j hj => by
    rw [hlen.out] at hj
    have hk : 0 + i * 4 + j < (flatI xs).length := by rw [flatI_length, HXL.out]; omega
    exact ⟨by rw [HFL.out _ _ (List.getElem?_eq_getElem hk)]; rfl, HFZ.out _⟩)
  go_enter Try.func22, Try.ntmps22
  go_wp2_with fail
  by_cases hc1 : i + 1 < cap
  case pos =>
    have m1 : (i : Int) + 1 < (cap : Int) := by omega
    have m2 : ¬ cap = i + 1 := by omega
    go_region_law (refine step_append_room rfl (.tmp 22) (.tmp 25) 35 rfl 31 i0 4 Try.underlying35 HI0.out HZ1.out g 0 i cap (by simp [Act.eval, Act.put]) ⟨g, (i + 1) * 4, none⟩ r (cap - (i + 1)) (flatI (xs.drop (i + 1))) (by simp [Act.eval, Act.put]) hlen.out (fun j u hu => by rw [Addr.add_lit]; exact hsrc.out j u hu) (flatI_one4 _) (by omega) (by exact hspare.out) ?_)
    obtain ⟨vs, hvs⟩ : ∃ vs, ∀ ty, (Builtin.clear_ #[35] ty #[.slice (some ⟨g, (i + r) * 4, none⟩) (i + 1 + r - (i + r)) (cap - (i + r))]).run Try.prog (w.drew.setCells g (i * 4) (flatI (List.drop (i + 1) xs))) = .ok (.tuple #[]) ((w.drew.setCells g (i * 4) (flatI (List.drop (i + 1) xs))).setCells g ((i + r) * 4) vs) :=
      ⟨_, fun ty => run_clear4 _ _ _ ty _ Try.underlying35 zero_ineq rfl (by decide) g ((i + r) * 4) (i + 1 + r - (i + r)) (cap - (i + r)) (fun j hj => by
        rw [World.cell?_setCells_out _ _ _ _ _ (fun _ _ => .inr (by simp only [hlen.out]; omega))]
        have hk : (i + r) * 4 + j < (flatI xs).length := by rw [flatI_length, HXL.out]; omega
        have h := HFL.out _ _ (List.getElem?_eq_getElem hk)
        show (w.cell? ⟨g, (i + r) * 4 + j, none⟩).isSome = true
        rw [h]; rfl) (fun j => frozen_setCells_any w.drew g _ _ HFZ.out j)⟩
    have l1 : (0 : Int) ≤ (i : Int) + (r : Int) := by omega
    have l2 : (i : Int) + (r : Int) ≤ (i : Int) + 1 + (r : Int) := by omega
    go_wp2_with fail
    go_ret
    refine ⟨cap, rfl, ?_, ?_⟩
    · exact RQ.of_flat (by rw [List.length_eraseIdx_of_lt (by rw [HXL.out]; omega), HXL.out]; omega) (Nat.lt_succ_self g) (deleted_flat (w := w.drew) (by rw [HXL.out]; omega) (by rw [HXL.out]; omega) HFL.out)
    · exact (((Only.refl g w).bel (Bel.refl w).drew).setCells _ _).setCells _ _
  case neg =>
    obtain rfl : r = 0 := by omega
    obtain rfl : cap = i + 1 := by omega
    go_region_law (refine step_append_room rfl (.tmp 22) (.tmp 25) 35 rfl 31 i0 4 Try.underlying35 HI0.out HZ1.out g 0 i (i + 1) (by simp [Act.eval, Act.put]) ⟨g, 0, none⟩ 0 0 (flatI (xs.drop (i + 1))) (by simp [Act.eval, Act.put]) hlen.out (fun j u hu => by have := (List.getElem?_eq_some_iff.1 hu).1; rw [hlen.out] at this; omega) (flatI_one4 _) (by omega) (by exact hspare.out) ?_)
    obtain ⟨vs, hvs⟩ : ∃ vs, ∀ ty, (Builtin.clear_ #[35] ty #[.slice (some ⟨g, i * 4, none⟩) 1 1]).run Try.prog (w.drew.setCells g (i * 4) (flatI (List.drop (i + 1) xs))) = .ok (.tuple #[]) ((w.drew.setCells g (i * 4) (flatI (List.drop (i + 1) xs))).setCells g (i * 4) vs) :=
      ⟨_, fun ty => run_clear4 _ _ _ ty _ Try.underlying35 zero_ineq rfl (by decide) g (i * 4) 1 1 (fun j hj => by
        rw [World.cell?_setCells_out _ _ _ _ _ (fun _ _ => .inr (by simp only [hlen.out]; omega))]
        have hk : i * 4 + j < (flatI xs).length := by rw [flatI_length, HXL.out]; omega
        have h := HFL.out _ _ (List.getElem?_eq_getElem hk)
        show (w.cell? ⟨g, i * 4 + j, none⟩).isSome = true
        rw [h]; rfl) (fun j => frozen_setCells_any w.drew g _ _ HFZ.out j)⟩
    go_wp2_with fail
    go_ret
    refine ⟨i + 1, rfl, ?_, ?_⟩
    · exact RQ.of_flat (by rw [List.length_eraseIdx_of_lt (by rw [HXL.out]; omega), HXL.out]; omega) (Nat.lt_succ_self g) (deleted_flat (w := w.drew) (by rw [HXL.out]; omega) (by rw [HXL.out]; omega) HFL.out)
    · exact (((Only.refl g w).bel (Bel.refl w).drew).setCells _ _).setCells _ _
end Go.Proofs.Ytjgpkolfcpoinaa.Mu

