/-
  Lists of inequalities: append of one behind the other; slices.Clone, slices.Delete.
-/
import Derived.Test.YtjgpkolfcpoinaaLeastSolves
import Derived.Deep.RegionLaw
import Derived.WalkSpells
namespace Go.Proofs.Ytjgpkolfcpoinaa.Mu
open Go.ChangeShapes Go.WideShapes Go.ChangeAt Go.RowKit Go.Shelf

attribute [local go_sem] Oper.semAt_some

theorem flatI_app (a b : List Iq) : flatI (a ++ b) = flatI a ++ flatI b := by simp [flatI]
theorem flatI_length : ∀ xs : List Iq, (flatI xs).length = xs.length * 4
  | [] => rfl
  | x :: xs => by
    have e : flatI (x :: xs) = x.cells ++ flatI xs := by simp [flatI]
    have h : x.cells.length = 4 := rfl
    rw [e, List.length_append, flatI_length xs, h, List.length_cons]
    omega
theorem flatI_one4 (xs : List Iq) : ∀ u ∈ flatI xs, u.oneCell' = true := by
  intro u hu
  simp only [flatI, List.mem_flatMap] at hu
  obtain ⟨x, _, hu⟩ := hu
  simp [Iq.cells] at hu
  rcases hu with rfl | rfl | rfl | rfl <;> rfl
/-- The cells, read flat. -/
theorem RQ.flat {w : World} {B n : Nat} {b off : Nat} {xs : List Iq} (h : RQ w B (some ⟨b, off, none⟩) n xs) : ∀ j u, (flatI xs)[j]? = some u → w.cell? ⟨b, off + j, none⟩ = some u := by
  intro j u hu
  have hj := (List.getElem?_eq_some_iff.1 hu).1
  rw [flatI_length] at hj
  have hk : j / 4 < xs.length := by omega
  obtain ⟨b', off', e, _, hc⟩ := h.at_ (by have := h.len; omega)
  injection e with e
  injection e with e1 e2
  subst e1 e2
  obtain ⟨c0, c1, c2, c3⟩ := hc (j / 4) xs[j / 4] (List.getElem?_eq_getElem hk)
  obtain ⟨d0, d1, d2, d3⟩ := flatI_get xs (j / 4) xs[j / 4] (List.getElem?_eq_getElem hk)
  have h4 : j % 4 = 0 ∨ j % 4 = 1 ∨ j % 4 = 2 ∨ j % 4 = 3 := by omega
  rcases h4 with h4 | h4 | h4 | h4
  · have e : j / 4 * 4 = j := by omega
    rw [e, hu] at d0; injection d0 with d0; subst d0
    rw [e] at c0; exact c0
  · have e : j / 4 * 4 + 1 = j := by omega
    rw [e, hu] at d1; injection d1 with d1; subst d1
    rw [Nat.add_assoc, e] at c1; exact c1
  · have e : j / 4 * 4 + 2 = j := by omega
    rw [e, hu] at d2; injection d2 with d2; subst d2
    rw [Nat.add_assoc, e] at c2; exact c2
  · have e : j / 4 * 4 + 3 = j := by omega
    rw [e, hu] at d3; injection d3 with d3; subst d3
    rw [Nat.add_assoc, e] at c3; exact c3
theorem RQ.of_flat {w : World} {B g n : Nat} {xs : List Iq} (hn : n = xs.length) (hg : g < B) (h : ∀ j u, (flatI xs)[j]? = some u → w.cell? ⟨g, j, none⟩ = some u) : RQ w B (some ⟨g, 0, none⟩) n xs :=
  ⟨hn, fun _ => ⟨g, 0, rfl, hg, fun k x hx => by
    obtain ⟨d0, d1, d2, d3⟩ := flatI_get xs k x hx
    rw [Nat.zero_add]
    exact ⟨h _ _ d0, h _ _ d1, h _ _ d2, h _ _ d3⟩⟩⟩

section
variable {P : Program} {w : World}
theorem run_append_nil4 (base : Nat) (t ty e : TypeId) (i : TypeInfo) (ht : P.underlying t = some (.slice e)) (hi : P.info? e = some i)
    (size : Nat) (v : Value) (n : Nat) (xs : List Value) (hown : w.ownsRow base e size v n xs) (d : Nat) : (Builtin.append_ #[t, t] ty #[v, .slice none 0 d]).run P w = .ok v w := by
  rcases hown.2 with ⟨rfl, _⟩ | ⟨g, cap, cur, rfl, _, _, hnc, _⟩
  · simp [Builtin.append_, run_underlying ht, sizeOf, typeInfo, hi, Builtin.lenOf, Builtin.firstCells]
  · simp [Builtin.append_, run_underlying ht, sizeOf, typeInfo, hi, Builtin.lenOf, Builtin.firstCells, hnc, storeCells]

/-- append of a slice of inequalities, nil and empty ones let in, onto a slice of the call's own. -/
theorem wpList_append_rq {ops : Array Oper} {rest : List Oper} {o : Oper} {a : Act} {Q : Exit → Act → World → Prop} (hgd : o.guard = none) (s x : Operand) (t : TypeId)
    (ho : o.op = .call { callee := .builtin .append, args := #[s, x], argTypes := #[t, t] })
    (base : Nat) (e : TypeId) (z : Value) (hzs : z.cells.size = 4) (ht : P.underlying t = some (.slice e)) (hinfo : (P.info? e).map (fun i => (i.zero, i.size, i.bytes)) = some (some z, 4, 32))
    (A : Option Addr) (n c : Nat) (xs : List Iq) (hs : a.eval s = .slice A n c) (hown : w.ownsRow base e 4 (.slice A n c) n (flatI xs))
    (B0 : Nat) (B : Option Addr) (m d : Nat) (ys : List Iq) (hx : a.eval x = .slice B m d) (hr : RQ w B0 B m ys)
    (hmax : n + m ≤ 1000000000) (hbase : base ≤ w.heap.size)
    (h : ∀ A' c' w', w'.ownsRow base e 4 (.slice A' (n + m) c') (n + m) (flatI (xs ++ ys)) → w.grownBy w' (Value.slice A n c).ownBlock → wpList P ops Q rest (a.put o.dst (.slice A' (n + m) c')) w') : wpList P ops Q (o :: rest) a w := by
  obtain ⟨i, hi, hz0, hz1, hz2⟩ := info_parts hinfo
  have hl := hr.len
  rcases B with _ | ad
  · have hm : m = 0 := by
      rcases Nat.eq_zero_or_pos m with h' | h'
      · exact h'
      · obtain ⟨_, _, h', _⟩ := hr.at_ h'; cases h'
    subst hm
    obtain rfl : ys = [] := List.eq_nil_of_length_eq_zero hl.symm
    refine wpList_plain hgd fun K hK => ?_
    have hrun := run_append_nil4 (P := P) base t o.type e i ht hi _ _ n _ hown d
    have h' := h A c w (by simpa using hown) (World.grownBy.refl _ _)
    unfold Oper.wp
    simp only [execOp, ho, resolve, invoke, builtin, Sem.run_bind, Sem.run_pure, Result.andThen_ok, List.map_toArray, List.map_cons, List.map_nil, hs, hx, hrun]
    exact hK _ _ h'
  · refine wpList_append_own w hgd s x t ho base e i z 4 32 ht hi hz0 hz1 hz2 hzs (by decide) _ n _ hs hown ad m d (flatI ys) hx (by rw [flatI_length, hl]) ?_ (flatI_one4 ys) (by unfold maxLen; omega) (by omega) hbase ?_
    · intro j u hu
      have hj : j < ys.length * 4 := by have := (List.getElem?_eq_some_iff.1 hu).1; rwa [flatI_length] at this
      obtain ⟨b, off, e', _, _⟩ := hr.at_ (by omega)
      injection e' with e'
      subst e'
      rw [Addr.add_lit]
      exact hr.flat j u hu
    · intro v' w' hown' hg _
      obtain ⟨A', c', rfl⟩ := own_form_n hown'
      exact h A' c' w' (by rw [flatI_app]; exact hown') hg
end

set_option maxHeartbeats 1000000 in
theorem cloneQ_any (A : Option Addr) (n cap : Nat) (xs : List Iq) (w : World) (hq : RQ w w.heap.size A n xs) (hn : n ≤ 1000000) :
    Calls Try.prog 23 #[.slice A n cap] w fun e w' => ∃ A' c', e = .returned (.slice A' n c') ∧ w'.ownsRow w.heap.size 31 4 (.slice A' n c') n (flatI xs) ∧ Bel w w' := by
  have q22 : ∀ (w : World) (a : Option Addr) (n c n' c' : Nat), (binOp .eql 35 (.slice a n c) (.slice none n' c')).run Try.prog w = .ok (.bool a.isNone) w := fun w a n c n' c' => Lib.run_eql_slice_nil w _ _ a n c n' c' Try.underlying35
  have HQ := Lib.hid hq
  clear hq
  rcases A with _ | a
  · have hn0 : n = 0 := by
      rcases Nat.eq_zero_or_pos n with h | h
      · exact h
      · obtain ⟨_, _, h', _⟩ := HQ.out.at_ h; cases h'
    subst hn0
    have hx : xs = [] := List.eq_nil_of_length_eq_zero HQ.out.len.symm
    have HX := Lib.hid hx
    clear hx
    go_enter Try.func23, Try.ntmps23
    go_wp2
    go_ret
    exact ⟨none, 0, rfl, by rw [HX.out]; exact World.ownsRow_nil _ _ _ _, Bel.refl _⟩
  · go_enter Try.func23, Try.ntmps23
    go_wp2_with (at_builtin; refine wpList_append_rq rfl _ _ 35 rfl w.heap.size 31 _ rfl Try.underlying35 info_ineq (some ⟨w.heap.size, 0, none⟩) 0 0 [] rfl (World.ownsRow_made w #[] 0 (Nat.le_refl _) (Nat.zero_le _) (by simp)) _ (some a) n cap xs rfl (HQ.out.bel ((Bel.refl w).alloc _)) (by omega) (by simp) ?_; intro A' c' w1 hown1 hg1)
    go_ret
    refine ⟨A', c', rfl, by simpa using hown1, ?_⟩
    exact Below.grown ((Bel.refl w).alloc _) hg1 (by simp) (fun x hx => by simp [Value.ownBlock] at hx; omega)
end Go.Proofs.Ytjgpkolfcpoinaa.Mu

