/-
  slices.Backward at inequalities: what it hands to a loop, and the loop's rounds; and whether an inequality has a variable L.
  A block of the call's own that holds a list of integers, read and written by index.
  slices.Repeat of one element, at int and at api.Mult.
-/
import Derived.RangeFuncBox
import Derived.Shelf.Abstract
import Derived.WalkKit
import Derived.OwnWalkIn
import Derived.TacticsInMore
import Derived.LoopNIn
import Derived.LoopIn
import Derived.Test.YtblgligagngpfaaDoorRound
import Derived.Test.YtblgligagngpfaaDoorIneqFH
import Derived.Test.YtblgligagngpfaaDoorMemBC
import Derived.Test.YtblgligagngpfaaDoorApp
import Derived.Laws.OwnMore
import Derived.Test.YtblgligagngpfaaDoorTermFn
import Derived.Test.YtblgligagngpfaaDoorShelf
import Derived.Test.YtblgligagngpfaaDoorRows
import Derived.ChangeAt
import Derived.Deep.OwnRows
import Derived.Deep.RegionLaw
import Derived.Laws.CopyOwn
namespace Go.Proofs.YtblgligagngpfaaDoor.Mu
open Go.ChangeShapes Go.WideShapes Go.ChangeAt Go.RowKit Go.Shelf

attribute [local go_sem] Oper.semAt_some

/-- The inequalities, from the last one on, each with its number. -/
def backF (xs : List Iq) (k : Nat) : Nat × Iq := (xs.length - 1 - k, xs[xs.length - 1 - k]?.getD ⟨0, 0, 0, 0⟩)
def backL (xs : List Iq) (k : Nat) : List (Nat × Iq) := (List.range k).map (backF xs)
theorem backL_succ (xs : List Iq) (k : Nat) : backL xs (k + 1) = backL xs k ++ [backF xs k] := by simp [backL, List.range_succ]
theorem backL_len (xs : List Iq) (k : Nat) : (backL xs k).length = k := by simp [backL]
theorem backL_prefix (xs : List Iq) {k : Nat} (hk : k ≤ xs.length) : backL xs k <+: backL xs xs.length := by
  unfold backL
  refine List.IsPrefix.map _ ?_
  rw [show xs.length = k + (xs.length - k) by omega, List.range_add]
  exact List.prefix_append _ _
def encQ (x : Nat × Iq) : Array Value := #[.int .i64 x.1, .agg #[.int .i64 x.2.v, .int .u8 x.2.m, .int .u8 x.2.c, .int .i64 x.2.r]]

/-- What a loop over it is handed: a place, and an inequality whose variables are in range. -/
abbrev Item (len n : Nat) : Type := { p : Nat × Iq // p.1 < len ∧ (p.2.m = 0 → 0 ≤ p.2.v ∧ p.2.v < n) }
end Go.Proofs.YtblgligagngpfaaDoor.Mu
namespace Go.Proofs.YtblgligagngpfaaDoor.Mu
open Go.RowKit

/-- Block g holds these integers, and nothing else. -/
def Arr (kd : IntKind) (w : World) (g : Nat) (t : TypeId) (av : List Int) : Prop := w.heap[g]? = some (.cells (av.map (Value.int kd)).toArray t (0, 0))
section
variable {kd : IntKind} {w w' : World} {g : Nat} {t : TypeId} {av : List Int}
theorem Arr.lt (h : Arr kd w g t av) : g < w.heap.size := (Array.getElem?_eq_some_iff.1 h).1
theorem Arr.cell (h : Arr kd w g t av) {j : Nat} (hj : j < av.length) : w.cell? ⟨g, j, none⟩ = some (.int kd (av[j]?.getD 0)) := by
  unfold Arr at h
  simp [World.cell?, h, hj]
theorem Arr.frozen (h : Arr kd w g t av) (j : Nat) : w.frozen? ⟨g, j, none⟩ = false := by
  unfold Arr at h
  simp [World.frozen?, h]
theorem Arr.bel (h : Arr kd w g t av) (hb : Bel w w') : Arr kd w' g t av := hb.blk h
theorem Arr.off (h : Arr kd w g t av) {p : Addr} (hne : p.block ≠ g) (v : Value) : Arr kd (w.setCell p v) g t av := by
  unfold Arr at *
  rw [heap_setCell_other w p g v (fun e => hne e.symm)]
  exact h
theorem Arr.set_ (h : Arr kd w g t av) (j : Nat) (x : Int) : Arr kd (w.setCell ⟨g, j, none⟩ (.int kd x)) g t (av.set j x) := by
  unfold Arr at *
  rw [heap_setCell_same w g j _ t (.int kd x) h]
  simp [List.map_set]
theorem Arr.ri (h : Arr kd w g t av) {n : Nat} (hn : n = av.length) : RI kd w w.heap.size (some ⟨g, 0, none⟩) n av :=
  ⟨hn, fun _ => ⟨g, 0, rfl, h.lt, fun k hk => by rw [Nat.zero_add]; exact h.cell (by omega)⟩⟩
theorem Arr.made (w : World) (t : TypeId) (n : Nat) (x : Int) : Arr kd (w.alloc (.cells (madeCells #[.int kd x] n) t)) w.heap.size t (List.replicate n x) := by
  unfold Arr
  rw [heap_alloc_new]
  congr 2
  apply Array.ext'
  rw [toList_madeCells_one]
  simp
theorem blk_off {w : World} {g : Nat} {o : Obj} (h : w.heap[g]? = some o) {p : Addr} (hne : p.block ≠ g) (v : Value) : (w.setCell p v).heap[g]? = some o := by
  rw [heap_setCell_other w p g v (fun e => hne e.symm)]; exact h
end

/-- append of a slice of integers onto a slice of the call's own, inside a region that draws its order. -/
theorem step_append_ri {P : Program} {ops : Array Oper} {o : Oper} {a : Act} {w : World} {K : Act → World → Prop} {Q : Exit → Act → World → Prop} {E : Prop}
    (hg : o.guard = none) (s x : Operand) (t : TypeId) (ho : o.op = Op.call { callee := Callee.builtin Builtin.append, args := #[s, x], argTypes := #[t, t] })
    (base : Nat) (e : TypeId) (ht : P.underlying t = some (.slice e)) (hinfo : (P.info? e).map (fun i => (i.zero, i.size, i.bytes)) = some (some (.int .i64 0), 1, 8))
    (A : Option Addr) (n c : Nat) (xs : List Int) (hs : a.eval s = .slice A n c) (hown : w.ownsRow base e 1 (.slice A n c) n (xs.map (Value.int .i64)))
    (B : Option Addr) (m d : Nat) (l : List Int) (hx : a.eval x = .slice B m d) (hr : RI .i64 w w.heap.size B m l) (hmax : n + m ≤ 1000000000) (hbase : base ≤ w.heap.size)
    (hK : ∀ A' c' w', w'.ownsRow base e 1 (.slice A' (n + m) c') (n + m) ((xs ++ l).map (Value.int .i64)) → w.grownBy w' (Value.slice A n c).ownBlock → K (a.put o.dst (.slice A' (n + m) c')) w') :
    if Region.wanted o (yielded ops a.tmps) = true then Oper.wp P o a w K Q else E := by
  have hw : Region.wanted o (yielded ops a.tmps) = true := by simp [Region.wanted, hg]
  rw [if_pos hw]
  obtain ⟨i, hi, hz0, hz1, hz2⟩ := info_parts hinfo
  have hl := hr.len
  rcases B with _ | ad
  · have hm : m = 0 := by
      rcases Nat.eq_zero_or_pos m with h' | h'
      · exact h'
      · obtain ⟨_, _, h', _⟩ := hr.at_ h'; cases h'
    subst hm
    obtain rfl : l = [] := List.eq_nil_of_length_eq_zero hl.symm
    have hrun := run_append_nil (P := P) base t o.type e i ht hi _ n _ hown d
    have h' := hK A c w (by simpa using hown) (World.grownBy.refl _ _)
    unfold Oper.wp
    simp [execOp, ho, resolve, invoke, builtin, hs, hx, hrun, Result.andThen]
    exact h'
  · obtain ⟨v', w', hrun, r1, r2, _⟩ := run_append_own (P := P) w base t o.type e i (.int .i64 0) 1 8 ht hi hz0 hz1 hz2 rfl (by decide) (.slice A n c) n _ hown ad m d (l.map (Value.int .i64)) (by simp [hl]) (by
      intro j u hu
      have hj : j < l.length := by have := (List.getElem?_eq_some_iff.1 hu).1; simpa using this
      obtain ⟨b, off, e', _, hc⟩ := hr.at_ (by omega)
      injection e' with e'
      subst e'
      rw [Addr.add_lit, hc j (by omega)]
      simp [List.getElem?_eq_getElem hj] at hu
      rw [List.getElem?_eq_getElem hj]
      simp [hu]) (by
      intro u hu
      simp at hu
      obtain ⟨y, _, rfl⟩ := hu
      rfl) (by unfold maxLen; omega) (by omega) hbase
    obtain ⟨A', c', rfl⟩ := own_form r1
    have h' := hK A' c' w' (by simpa using r1) r2
    unfold Oper.wp
    simp [execOp, ho, resolve, invoke, builtin, hs, hx, hrun, Result.andThen]
    exact h'
end Go.Proofs.YtblgligagngpfaaDoor.Mu
namespace Go.Proofs.YtblgligagngpfaaDoor.Mu
open Go.ChangeShapes Go.WideShapes Go.ChangeAt Go.RowKit

theorem info_i64 : (Tryd.prog.info? 3).map (fun i => (i.zero, i.size, i.bytes)) = some (some (.int .i64 0), 1, 8) := by kernel_rfl
theorem info_mu8 : (Tryd.prog.info? 22).map (fun i => (i.zero, i.size, i.bytes)) = some (some (.int .u8 0), 1, 1) := by kernel_rfl
theorem sz_i64 : (Tryd.prog.info? 3).map (·.size) = some 1 := by kernel_rfl
theorem sz_mu8 : (Tryd.prog.info? 22).map (·.size) = some 1 := by kernel_rfl
theorem splice_rep {α : Type} {x : α} {z : α} {n k : Nat} (_hk : k < n) (j : Nat) (hj : j = min (n - k) k) : splice (List.replicate k x ++ List.replicate (n - k) z) k (List.replicate j x) = List.replicate (k + j) x ++ List.replicate (n - (k + j)) z := by
  unfold splice
  rw [List.take_left' (by simp), List.length_replicate, List.drop_append, List.length_replicate, List.drop_eq_nil_of_le (by simp), List.nil_append, List.drop_replicate]
  rw [← List.replicate_append_replicate, List.append_assoc]
  congr 3
  omega

/-- copy onto a block of the call's own. -/
theorem copy_arr {P : Program} {kd : IntKind} (T E ty : TypeId) (hu : P.underlying T = some (.slice E)) (hsz : (P.info? E).map (·.size) = some 1) (g off dl dc : Nat) (sp : Option Addr) (sl sc : Nat) (cur ys : List Int) (w : World) (ha : Arr kd w g E cur)
    (hn : ys.length = Nat.min sl dl) (hs : 0 < ys.length → ∃ b o, sp = some ⟨b, o, none⟩ ∧ ∀ j, j < ys.length → w.cell? ⟨b, o + j, none⟩ = some (.int kd (ys[j]?.getD 0))) (hfit : off + ys.length ≤ cur.length) :
    ∃ w2, (Builtin.copy_ #[T, T] ty #[.slice (some ⟨g, off, none⟩) dl dc, .slice sp sl sc]).run P w = .ok (.int .i64 (ys.length : Int)) w2 ∧ Arr kd w2 g E (splice cur off ys) ∧ w.grownBy w2 (some g) := by
  by_cases h0 : ys.length = 0
  · obtain rfl : ys = [] := List.eq_nil_of_length_eq_zero h0
    exact ⟨w, run_copy_none (P := P) w T T ty E (some ⟨g, off, none⟩) sp dl dc sl sc hu hsz (by simpa using hn.symm), by simpa [splice] using ha, World.grownBy.refl _ _⟩
  · obtain ⟨b, o, rfl, hc⟩ := hs (by omega)
    have hrun := run_copy_row (P := P) w T T ty E g off dl dc ⟨b, o, none⟩ sl sc (cur.map (Value.int kd)).toArray E (ys.map (Value.int kd)) hu hsz ha (by simpa using hn) (by
      intro j v hj
      have hlt : j < ys.length := by have := (List.getElem?_eq_some_iff.1 hj).1; simpa using this
      rw [Addr.add_lit, hc j hlt]
      simp [List.getElem?_eq_getElem hlt] at hj
      rw [List.getElem?_eq_getElem hlt]; simp [hj]) (by simpa using hfit) (by
      intro v hv
      obtain ⟨y, _, e⟩ := List.mem_map.1 hv
      rw [← e]; rfl)
    refine ⟨_, by simpa [goInt] using hrun, ?_, ?_⟩
    · unfold Arr
      rw [setRow_heap w g _ _ E _ ha]
      congr 2
      apply Array.ext'
      simp [splice, List.map_take, List.map_drop]
    · exact ⟨rfl, rfl, rfl, by simp [World.setRow], fun k hk hne => setRow_other w g k _ (fun e => hne (by rw [e]))⟩

end Go.Proofs.YtblgligagngpfaaDoor.Mu

