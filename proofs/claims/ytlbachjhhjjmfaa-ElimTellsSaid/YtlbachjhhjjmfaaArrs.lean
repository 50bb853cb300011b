/-
  slices.Backward at inequalities: what it hands to a loop, and the loop's rounds; and whether an inequality has a variable L.
  A block of the call's own that holds a list of integers, read and written by index.
  slices.Repeat of one element, at int and at api.Mult.
-/
import Derived.RangeFuncBox
import Derived.Shelf.Abstract
import Derived.WalkKit
import Derived.OwnWalkIn
import Derived.TacticsInMore
import Derived.LoopNIn
import Derived.LoopIn
import Derived.Test.YtlbachjhhjjmfaaRound
import Derived.Test.YtlbachjhhjjmfaaIneqFH
import Derived.Test.YtlbachjhhjjmfaaMemBC
import Derived.Test.YtlbachjhhjjmfaaApp
import Derived.Laws.OwnMore
import Derived.Test.YtlbachjhhjjmfaaTermFn
import Derived.Test.YtlbachjhhjjmfaaShelf
import Derived.Test.YtlbachjhhjjmfaaRows
import Derived.ChangeAt
import Derived.Deep.OwnRows
import Derived.Deep.RegionLaw
import Derived.Laws.CopyOwn
namespace Go.Proofs.Ytlbachjhhjjmfaa.Mu
open Go.ChangeShapes Go.WideShapes Go.ChangeAt Go.RowKit Go.Shelf

attribute [local go_sem] Oper.semAt_some

theorem hasLeft_any (x : Iq) (w : World) : Calls Try.prog 68 #[.agg #[.int .i64 x.v, .int .u8 x.m, .int .u8 x.c, .int .i64 x.r]] w fun e w' => e = .returned (.bool (x.m == 0)) ∧ Bel w w' := by
  go_enter Try.func68, Try.ntmps68
  go_wp2
  go_ret
  exact ⟨rfl, (Bel.refl _).alloc _⟩

/-- The inequalities, from the last one on, each with its number. -/
def backF (xs : List Iq) (k : Nat) : Nat × Iq := (xs.length - 1 - k, xs[xs.length - 1 - k]?.getD ⟨0, 0, 0, 0⟩)
def backL (xs : List Iq) (k : Nat) : List (Nat × Iq) := (List.range k).map (backF xs)
theorem backL_succ (xs : List Iq) (k : Nat) : backL xs (k + 1) = backL xs k ++ [backF xs k] := by simp [backL, List.range_succ]
theorem backL_len (xs : List Iq) (k : Nat) : (backL xs k).length = k := by simp [backL]
theorem backL_prefix (xs : List Iq) {k : Nat} (hk : k ≤ xs.length) : backL xs k <+: backL xs xs.length := by
  unfold backL
  refine List.IsPrefix.map _ ?_
  rw [show xs.length = k + (xs.length - k) by omega, List.range_add]
  exact List.prefix_append _ _
def encQ (x : Nat × Iq) : Array Value := #[.int .i64 x.1, .agg #[.int .i64 x.2.v, .int .u8 x.2.m, .int .u8 x.2.c, .int .i64 x.2.r]]

set_option maxRecDepth 100000 in
set_option maxHeartbeats 2000000 in
theorem back1_in (F : Fence) (n : Nat) (h7 : F.fn 84) (hro : F.round = none) (hn : 1 ≤ n) (l Bs n₀ len cap : Nat) (A : Option Addr) (xs : List Iq) (hmax : len ≤ 1048576) (Kp : World → World → Prop)
    (hkp : ∀ W W', Kp W W' → W'.heap[Bs]? = W.heap[Bs]? ∧ Below n₀ W W') (J Jx : List (Nat × Iq) → World → Prop)
    (hY : ∀ pre x W, J pre W → pre.length < len → x = backF xs pre.length → YieldAt F (n - 1) Try.prog l (encQ x) W fun e W' =>
      (e = .returned (.bool true) ∧ J (pre ++ [x]) W' ∧ Kp W W') ∨ (e = .returned (.bool false) ∧ Jx (pre ++ [x]) W'))
    (W : World) (hBs : W.heap[Bs]? = some (.cells #[.slice A len cap] 37 (0, 0))) (hq : RQ W n₀ A len xs) (h0 : J [] W) :
    CallsIn F n Try.prog 84 #[.func (.yield l) #[] #[], .pointer (some ⟨Bs, 0, none⟩)] W fun e W' => (∃ v, e = .returned v) ∧
      ((∃ ys, ys = backL xs len ∧ J ys W') ∨ (∃ pre, (∃ k, k ≤ len ∧ pre = backL xs k) ∧ Jx pre W')) := by
  have HL := Lib.hid hq.len
  have HQ := Lib.hid hq
  have HBS := Lib.hid hBs
  have c0 := cell1 hBs
  clear hq hBs
  refine callsIn_of_wp Try.func84 rfl h7 ?_ hro
  simp only [Try.ntmps84, List.size_toArray, List.length_cons, List.length_nil, Nat.reduceAdd, Nat.reduceSub, Array.replicate_succ, Array.replicate_zero, List.push_toArray, List.append_toArray, List.nil_append, List.cons_append]
  gi_wp2
  clear c0
  gi_loopw [3] (fun i wr => ∃ k : Nat, k ≤ len ∧ i = .int .i64 ((len : Int) - 1 - k) ∧ J (backL xs k) wr ∧ Hid (wr.heap[Bs]? = some (.cells #[.slice A len cap] 37 (0, 0))) ∧ Hid (RQ wr n₀ A len xs))
    (fun i _ => (intOf i + 1).toNat)
  case atStart => exact ⟨0, Nat.zero_le _, by go_num, h0, HBS, HQ⟩
  case round =>
    obtain ⟨k, hk, rfl, hJs, HBX, HQX⟩ := hrel
    by_cases hlt : k < len
    · obtain ⟨b, off, eA, hb, hc⟩ := HQX.out.at_ (by omega)
      subst eA
      obtain ⟨x, hx⟩ : ∃ x, xs[xs.length - 1 - k]? = some x := ⟨_, List.getElem?_eq_getElem (by have := HL.out; omega)⟩
      obtain ⟨d0, d1, d2, d3⟩ := hc _ x hx
      have HX := Lib.hid hx
      have hl2 : backF xs k = (len - 1 - k, x) := by unfold backF; rw [hx, ← HL.out]; rfl
      have HL2 := Lib.hid hl2
      obtain ⟨fn, tmps, assign, body, hy, hR⟩ := hY _ (len - 1 - k, x) wr hJs (by rw [backL_len]; exact hlt) (by rw [backL_len]; exact HL2.out.symm)
      unfold encQ at hy
      dsimp only at hy
      rw [← HL.out] at d0 d1 d2 d3
      obtain ⟨q, hq⟩ : ∃ q : Nat, q = len - 1 - k := ⟨_, rfl⟩
      rw [← hq] at d0 d1 d2 d3 hy
      have e1 : ((len : Int) - 1 - k) = (q : Int) := by omega
      rw [e1]
      have i1 : (0 : Int) ≤ (q : Int) := by omega
      have i2 : (q : Int) < (len : Int) := by omega
      have c0 := cell1 HBX.out
      have HQ2 := Lib.hid hq
      clear hc hx hl2 hq e1
      gi_wp2
      refine hR.mono ?_
      rw [HQ2.out, ← HL2.out, ← backL_succ] 
      rintro e W3 (⟨rfl, hJ3, hk3⟩ | ⟨rfl, hJx3⟩)
      · obtain ⟨hk1, hk2⟩ := hkp _ _ hk3
        have HB3 := Lib.hid (hk1.trans HBX.out)
        have HQ3 := Lib.hid (HQX.out.keep fun b o hb => hk2.cell (p := ⟨b, o, none⟩) hb)
        have HZ := HQ2.out
        clear hk1 hk2 hk3
        gi_wp2
        go_roundw
        case rel => exact ⟨k + 1, by omega, by go_num, hJ3, HB3, HQ3⟩
        case measure => simp [intOf]; omega
      · gi_wp2
        refine bodyPost_ret (results_none rfl _ _ _) rfl ?_
        exact ⟨⟨_, rfl⟩, .inr ⟨_, ⟨k + 1, by omega, rfl⟩, hJx3⟩⟩
    · obtain rfl : k = len := by omega
      gi_wp2
      go_end0
      exact ⟨⟨_, rfl⟩, .inl ⟨_, rfl, hJs⟩⟩

theorem back_any (A : Option Addr) (len cap : Nat) (w : World) : Calls Try.prog 70 #[.slice A len cap] w fun e w' => e = .returned (.func (.func 84) #[] #[.pointer (some ⟨w.heap.size, 0, none⟩)]) ∧ w' = w.alloc (.cells #[.slice A len cap] 37) := by
  go_enter Try.func70, Try.ntmps70
  go_wp2
  go_ret
  exact ⟨rfl, rfl⟩

/-- What a loop over it is handed: a place, and an inequality whose variables are in range. -/
abbrev Item (len n : Nat) : Type := { p : Nat × Iq // p.1 < len ∧ (p.2.m = 0 → 0 ≤ p.2.v ∧ p.2.v < n) }
theorem back_stops (Bs n₀ len cap n : Nat) (A : Option Addr) (xs : List Iq) (hmax : len ≤ 1048576) (hv : ∀ x ∈ xs, x.m = 0 → 0 ≤ x.v ∧ x.v < n) (Kp : World → World → Prop) (hkp : ∀ W W', Kp W W' → W'.heap[Bs]? = W.heap[Bs]? ∧ Below n₀ W W') (w : World) (hB : Bs < w.heap.size) (hn₀ : n₀ ≤ w.heap.size)
    (hBs : w.heap[Bs]? = some (.cells #[.slice A len cap] 37 (0, 0))) (hq : RQ w n₀ A len xs) :
    SeqStopsK Fence.wide 4 Try.prog 84 #[.pointer (some ⟨Bs, 0, none⟩)] (fun x : Item len n => encQ x.1) Kp (fun ys => ys.map (·.1) = backL xs len) (fun _ => True) len w := fun l J Jx W hW _ _ hY h0 => by
  have hl := hq.len
  refine (back1_in Fence.wide 4 trivial rfl (by omega) l Bs n₀ len cap A xs hmax Kp hkp (fun pre W => ∃ pre' : List (Item len n), pre'.map (·.1) = pre ∧ J pre' W) (fun pre W => ∃ pre' : List (Item len n), pre'.map (·.1) = pre ∧ Jx pre' W) ?_ W ((hW.block Bs hB).trans hBs) (hq.keep fun b o hb => hW.cell (p := ⟨b, o, none⟩) (show b < w.heap.size by omega)) ⟨[], rfl, h0⟩).mono ?_
  · rintro pre x W1 ⟨pre', rfl, hJ⟩ hlt hx
    have hlt' : pre'.length < len := by simpa using hlt
    have hx2 : xs[xs.length - 1 - pre'.length]? = some x.2 ∧ x.1 < len := by
      rw [hx]
      unfold backF
      simp only [List.length_map]
      have : xs.length - 1 - pre'.length < xs.length := by omega
      rw [List.getElem?_eq_getElem this]
      exact ⟨rfl, by omega⟩
    have hm := List.mem_of_getElem? hx2.1
    obtain ⟨fn, tmps, assign, body, hy, hR⟩ := hY pre' ⟨x, hx2.2, hv x.2 hm⟩ W1 hJ hlt'
    refine ⟨fn, tmps, assign, body, hy, hR.mono ?_⟩
    rintro e W' (⟨rfl, hJ', hk⟩ | ⟨rfl, hJx⟩)
    · exact .inl ⟨rfl, ⟨_, by simp, hJ'⟩, hk⟩
    · exact .inr ⟨rfl, _, by simp, hJx⟩
  · rintro e W' ⟨he, ⟨ys, rfl, pre', hp, hJ⟩ | ⟨pre, _, pre', _, hJ⟩⟩
    · exact ⟨he, .inl ⟨pre', hp, hJ⟩⟩
    · exact ⟨he, .inr ⟨pre', trivial, hJ⟩⟩
end Go.Proofs.Ytlbachjhhjjmfaa.Mu
namespace Go.Proofs.Ytlbachjhhjjmfaa.Mu
open Go.RowKit

/-- Block g holds these integers, and nothing else. -/
def Arr (kd : IntKind) (w : World) (g : Nat) (t : TypeId) (av : List Int) : Prop := w.heap[g]? = some (.cells (av.map (Value.int kd)).toArray t (0, 0))
section
variable {kd : IntKind} {w w' : World} {g : Nat} {t : TypeId} {av : List Int}
theorem Arr.lt (h : Arr kd w g t av) : g < w.heap.size := (Array.getElem?_eq_some_iff.1 h).1
theorem Arr.cell (h : Arr kd w g t av) {j : Nat} (hj : j < av.length) : w.cell? ⟨g, j, none⟩ = some (.int kd (av[j]?.getD 0)) := by
  unfold Arr at h
  simp [World.cell?, h, hj]
theorem Arr.frozen (h : Arr kd w g t av) (j : Nat) : w.frozen? ⟨g, j, none⟩ = false := by
  unfold Arr at h
  simp [World.frozen?, h]
theorem Arr.bel (h : Arr kd w g t av) (hb : Bel w w') : Arr kd w' g t av := hb.blk h
theorem Arr.off (h : Arr kd w g t av) {p : Addr} (hne : p.block ≠ g) (v : Value) : Arr kd (w.setCell p v) g t av := by
  unfold Arr at *
  rw [heap_setCell_other w p g v (fun e => hne e.symm)]
  exact h
theorem Arr.set_ (h : Arr kd w g t av) (j : Nat) (x : Int) : Arr kd (w.setCell ⟨g, j, none⟩ (.int kd x)) g t (av.set j x) := by
  unfold Arr at *
  rw [heap_setCell_same w g j _ t (.int kd x) h]
  simp [List.map_set]
theorem Arr.ri (h : Arr kd w g t av) {n : Nat} (hn : n = av.length) : RI kd w w.heap.size (some ⟨g, 0, none⟩) n av :=
  ⟨hn, fun _ => ⟨g, 0, rfl, h.lt, fun k hk => by rw [Nat.zero_add]; exact h.cell (by omega)⟩⟩
theorem Arr.made (w : World) (t : TypeId) (n : Nat) (x : Int) : Arr kd (w.alloc (.cells (madeCells #[.int kd x] n) t)) w.heap.size t (List.replicate n x) := by
  unfold Arr
  rw [heap_alloc_new]
  congr 2
  apply Array.ext'
  rw [toList_madeCells_one]
  simp
theorem blk_off {w : World} {g : Nat} {o : Obj} (h : w.heap[g]? = some o) {p : Addr} (hne : p.block ≠ g) (v : Value) : (w.setCell p v).heap[g]? = some o := by
  rw [heap_setCell_other w p g v (fun e => hne e.symm)]; exact h
end

/-- append of a slice of integers onto a slice of the call's own, inside a region that draws its order. -/
theorem step_append_ri {P : Program} {ops : Array Oper} {o : Oper} {a : Act} {w : World} {K : Act → World → Prop} {Q : Exit → Act → World → Prop} {E : Prop}
    (hg : o.guard = none) (s x : Operand) (t : TypeId) (ho : o.op = Op.call { callee := Callee.builtin Builtin.append, args := #[s, x], argTypes := #[t, t] })
    (base : Nat) (e : TypeId) (ht : P.underlying t = some (.slice e)) (hinfo : (P.info? e).map (fun i => (i.zero, i.size, i.bytes)) = some (some (.int .i64 0), 1, 8))
    (A : Option Addr) (n c : Nat) (xs : List Int) (hs : a.eval s = .slice A n c) (hown : w.ownsRow base e 1 (.slice A n c) n (xs.map (Value.int .i64)))
    (B : Option Addr) (m d : Nat) (l : List Int) (hx : a.eval x = .slice B m d) (hr : RI .i64 w w.heap.size B m l) (hmax : n + m ≤ 1000000000) (hbase : base ≤ w.heap.size)
    (hK : ∀ A' c' w', w'.ownsRow base e 1 (.slice A' (n + m) c') (n + m) ((xs ++ l).map (Value.int .i64)) → w.grownBy w' (Value.slice A n c).ownBlock → K (a.put o.dst (.slice A' (n + m) c')) w') :
    if Region.wanted o (yielded ops a.tmps) = true then Oper.wp P o a w K Q else E := by
  have hw : Region.wanted o (yielded ops a.tmps) = true := by simp [Region.wanted, hg]
  rw [if_pos hw]
  obtain ⟨i, hi, hz0, hz1, hz2⟩ := info_parts hinfo
  have hl := hr.len
  rcases B with _ | ad
  · have hm : m = 0 := by
      rcases Nat.eq_zero_or_pos m with h' | h'
      · exact h'
      · obtain ⟨_, _, h', _⟩ := hr.at_ h'; cases h'
    subst hm
    obtain rfl : l = [] := List.eq_nil_of_length_eq_zero hl.symm
    have hrun := run_append_nil (P := P) base t o.type e i ht hi _ n _ hown d
    have h' := hK A c w (by simpa using hown) (World.grownBy.refl _ _)
    unfold Oper.wp
    simp [execOp, ho, resolve, invoke, builtin, hs, hx, hrun, Result.andThen]
    exact h'
  · obtain ⟨v', w', hrun, r1, r2, _⟩ := run_append_own (P := P) w base t o.type e i (.int .i64 0) 1 8 ht hi hz0 hz1 hz2 rfl (by decide) (.slice A n c) n _ hown ad m d (l.map (Value.int .i64)) (by simp [hl]) (by
      intro j u hu
      have hj : j < l.length := by have := (List.getElem?_eq_some_iff.1 hu).1; simpa using this
      obtain ⟨b, off, e', _, hc⟩ := hr.at_ (by omega)
      injection e' with e'
      subst e'
      rw [Addr.add_lit, hc j (by omega)]
      simp [List.getElem?_eq_getElem hj] at hu
      rw [List.getElem?_eq_getElem hj]
      simp [hu]) (by
      intro u hu
      simp at hu
      obtain ⟨y, _, rfl⟩ := hu
      rfl) (by unfold maxLen; omega) (by omega) hbase
    obtain ⟨A', c', rfl⟩ := own_form r1
    have h' := hK A' c' w' (by simpa using r1) r2
    unfold Oper.wp
    simp [execOp, ho, resolve, invoke, builtin, hs, hx, hrun, Result.andThen]
    exact h'
end Go.Proofs.Ytlbachjhhjjmfaa.Mu
namespace Go.Proofs.Ytlbachjhhjjmfaa.Mu
open Go.ChangeShapes Go.WideShapes Go.ChangeAt Go.RowKit

theorem mul_one_any (n : Nat) (hn : n ≤ 1048576) (w : World) : Calls Try.prog 43 #[.int .u64 1, .int .u64 n] w fun e w' => e = .returned (.tuple #[.int .u64 0, .int .u64 n]) ∧ w = w' := by
  refine (Try.bits_Mul 1 n (by omega) (by omega) w).mono ?_
  rintro e w' ⟨rfl, rfl⟩
  have h1 : 1 * n / 18446744073709551616 = 0 := by omega
  have h2 : 1 * n % 18446744073709551616 = n := by omega
  rw [h1, h2]
  exact ⟨rfl, rfl⟩
theorem info_i64 : (Try.prog.info? 3).map (fun i => (i.zero, i.size, i.bytes)) = some (some (.int .i64 0), 1, 8) := by kernel_rfl
theorem info_mu8 : (Try.prog.info? 30).map (fun i => (i.zero, i.size, i.bytes)) = some (some (.int .u8 0), 1, 1) := by kernel_rfl
theorem sz_i64 : (Try.prog.info? 3).map (·.size) = some 1 := by kernel_rfl
theorem sz_mu8 : (Try.prog.info? 30).map (·.size) = some 1 := by kernel_rfl
theorem splice_rep {α : Type} {x : α} {z : α} {n k : Nat} (_hk : k < n) (j : Nat) (hj : j = min (n - k) k) : splice (List.replicate k x ++ List.replicate (n - k) z) k (List.replicate j x) = List.replicate (k + j) x ++ List.replicate (n - (k + j)) z := by
  unfold splice
  rw [List.take_left' (by simp), List.length_replicate, List.drop_append, List.length_replicate, List.drop_eq_nil_of_le (by simp), List.nil_append, List.drop_replicate]
  rw [← List.replicate_append_replicate, List.append_assoc]
  congr 3
  omega

/-- copy onto a block of the call's own. -/
theorem copy_arr {P : Program} {kd : IntKind} (T E ty : TypeId) (hu : P.underlying T = some (.slice E)) (hsz : (P.info? E).map (·.size) = some 1) (g off dl dc : Nat) (sp : Option Addr) (sl sc : Nat) (cur ys : List Int) (w : World) (ha : Arr kd w g E cur)
    (hn : ys.length = Nat.min sl dl) (hs : 0 < ys.length → ∃ b o, sp = some ⟨b, o, none⟩ ∧ ∀ j, j < ys.length → w.cell? ⟨b, o + j, none⟩ = some (.int kd (ys[j]?.getD 0))) (hfit : off + ys.length ≤ cur.length) :
    ∃ w2, (Builtin.copy_ #[T, T] ty #[.slice (some ⟨g, off, none⟩) dl dc, .slice sp sl sc]).run P w = .ok (.int .i64 (ys.length : Int)) w2 ∧ Arr kd w2 g E (splice cur off ys) ∧ w.grownBy w2 (some g) := by
  by_cases h0 : ys.length = 0
  · obtain rfl : ys = [] := List.eq_nil_of_length_eq_zero h0
    exact ⟨w, run_copy_none (P := P) w T T ty E (some ⟨g, off, none⟩) sp dl dc sl sc hu hsz (by simpa using hn.symm), by simpa [splice] using ha, World.grownBy.refl _ _⟩
  · obtain ⟨b, o, rfl, hc⟩ := hs (by omega)
    have hrun := run_copy_row (P := P) w T T ty E g off dl dc ⟨b, o, none⟩ sl sc (cur.map (Value.int kd)).toArray E (ys.map (Value.int kd)) hu hsz ha (by simpa using hn) (by
      intro j v hj
      have hlt : j < ys.length := by have := (List.getElem?_eq_some_iff.1 hj).1; simpa using this
      rw [Addr.add_lit, hc j hlt]
      simp [List.getElem?_eq_getElem hlt] at hj
      rw [List.getElem?_eq_getElem hlt]; simp [hj]) (by simpa using hfit) (by
      intro v hv
      obtain ⟨y, _, e⟩ := List.mem_map.1 hv
      rw [← e]; rfl)
    refine ⟨_, by simpa [goInt] using hrun, ?_, ?_⟩
    · unfold Arr
      rw [setRow_heap w g _ _ E _ ha]
      congr 2
      apply Array.ext'
      simp [splice, List.map_take, List.map_drop]
    · exact ⟨rfl, rfl, rfl, by simp [World.setRow], fun k hk hne => setRow_other w g k _ (fun e => hne (by rw [e]))⟩

set_option maxRecDepth 100000 in
set_option maxHeartbeats 1000000 in
theorem repeatI_any (g n : Nat) (x : Int) (hn : n ≤ 1048576) (w : World) (hx : Arr .i64 w g 3 [x]) :
    Calls Try.prog 69 #[.slice (some ⟨g, 0, none⟩) 1 1, .int .i64 n] w fun e w' => e = .returned (.slice (some ⟨w.heap.size, 0, none⟩) n n) ∧ Arr .i64 w' w.heap.size 3 (List.replicate n x) ∧ Bel w w' := by
  have HX := Lib.hid hx
  have hgl := hx.lt
  have hmk := fun W => run_make_row' (P := Try.prog) 22 3 (.int .i64 0) 8 Try.underlying22 info_i64 rfl .i64 .i64 n (by omega) (by omega) W
  have i0 : (0 : Int) ≤ (n : Int) := by omega
  clear hx
  obtain ⟨w1, hw1⟩ : ∃ w1, w1 = w.alloc (.cells (madeCells #[.int .i64 0] n) 3) := ⟨_, rfl⟩
  have HA1 := Lib.hid (show Arr .i64 w1 w.heap.size 3 (List.replicate n 0) by rw [hw1]; exact Arr.made w _ n 0)
  have HB1 := Lib.hid (show Bel w w1 by rw [hw1]; exact (Bel.refl w).alloc _)
  obtain ⟨w2, hcp, ha2, hg2⟩ := copy_arr (P := Try.prog) 22 3 3 Try.underlying22 sz_i64 w.heap.size 0 n n (some ⟨g, 0, none⟩) 1 1 (List.replicate n 0) (List.replicate (min 1 n) x) w1 HA1.out (by rw [List.length_replicate]) (fun _ => ⟨g, 0, rfl, fun j hj => by
    rw [List.length_replicate] at hj
    obtain rfl : j = 0 := by omega
    rw [List.getElem?_replicate, if_pos (by omega)]
    exact (HB1.out.cell (p := ⟨g, 0, none⟩) hgl).trans (HX.out.cell (j := 0) (by simp))⟩) (by simp; omega)
  have HA2 : Hid (Arr .i64 w2 w.heap.size 3 (List.replicate (min 1 n) x ++ List.replicate (n - min 1 n) 0)) := Lib.hid (by
    have e : splice (List.replicate n (0 : Int)) 0 (List.replicate (min 1 n) x) = List.replicate (min 1 n) x ++ List.replicate (n - min 1 n) 0 := by simp [splice]
    rw [e] at ha2; exact ha2)
  have HB2 : Hid (Bel w w2) := Lib.hid (Below.grown HB1.out hg2 (by rw [hw1]; simp) (fun k hk => by cases hk; exact Nat.le_refl _))
  obtain ⟨k0, hk0⟩ : ∃ k0 : Nat, k0 = min 1 n := ⟨_, rfl⟩
  have hl : ((List.replicate (min 1 n) x).length : Int) = (k0 : Int) := by rw [List.length_replicate, hk0]
  rw [hl] at hcp
  rw [← hk0] at HA2
  have hk1 : k0 ≤ n ∧ (k0 < n → 1 ≤ k0) := by omega
  rw [hw1] at hcp
  clear hl hk0 ha2 hg2 hw1 HA1 HB1
  go_enter Try.func69, Try.ntmps69
  go_wp2_with fail
  refine (mul_one_any n hn _).mono ?_
  rintro e w' ⟨rfl, rfl⟩
  go_wp2_with fail
  go_loopw [8] (fun i wr => ∃ k : Nat, k ≤ n ∧ (k < n → 1 ≤ k) ∧ i = .int .i64 k ∧ Hid (Arr .i64 wr w.heap.size 3 (List.replicate k x ++ List.replicate (n - k) 0)) ∧ Hid (Bel w wr)) (fun i _ => n - (intOf i).toNat)
  case atStart => exact ⟨k0, hk1.1, hk1.2, rfl, HA2, HB2⟩
  case round =>
    obtain ⟨k, hk, hkp, rfl, HA, HB⟩ := hrel
    by_cases hlt : k < n
    · have hk1 := hkp hlt
      obtain ⟨j, hj⟩ : ∃ j : Nat, j = min (n - k) k := ⟨_, rfl⟩
      obtain ⟨w3, hcp3, ha3, hg3⟩ := copy_arr (P := Try.prog) 22 3 3 Try.underlying22 sz_i64 w.heap.size k (n - k) (n - k) (some ⟨w.heap.size, 0, none⟩) k n (List.replicate k x ++ List.replicate (n - k) 0) (List.replicate j x) wr.drew HA.out (by rw [List.length_replicate, hj]; exact Nat.min_comm _ _) (fun _ => ⟨w.heap.size, 0, rfl, fun i hi => by
        rw [List.length_replicate] at hi
        rw [Nat.zero_add]
        refine (HA.out.cell (j := i) (by simp; omega)).trans ?_
        rw [List.getElem?_append_left (by simp; omega), List.getElem?_replicate, List.getElem?_replicate, if_pos (by omega), if_pos hi]⟩) (by simp; omega)
      rw [List.length_replicate] at hcp3
      have HA3 := Lib.hid (show Arr .i64 w3 w.heap.size 3 (List.replicate (k + j) x ++ List.replicate (n - (k + j)) 0) by rw [← splice_rep hlt j hj]; exact ha3)
      have HB3 : Hid (Bel w w3) := Lib.hid (Below.grown HB.out.drew hg3 HB.out.size (fun q hq => by cases hq; exact Nat.le_refl _))
      have HJ := Lib.hid hj
      have hjn : k + j ≤ n := by omega
      have hj1 : 1 ≤ j := by omega
      clear ha3 hg3 hj
      have i1 : (0 : Int) ≤ (k : Int) := by omega
      have i2 : (k : Int) ≤ (n : Int) := by omega
      have i3 : (k : Int) < (n : Int) := by omega
      go_wp2_with fail
      go_region
      all_goals
        go_wp2_with fail
        go_roundw
        case rel => exact ⟨k + j, by have := HJ.out; omega, fun _ => by omega, by go_num, HA3, HB3⟩
        case measure => have := HJ.out; simp [intOf]; omega
    · obtain rfl : k = n := by omega
      go_wp2_with fail
      go_ret
      exact ⟨rfl, by simpa using HA.out, HB.out⟩
set_option maxRecDepth 100000 in
set_option maxHeartbeats 1000000 in
theorem repeatM_any (g n : Nat) (x : Int) (hn : n ≤ 1048576) (w : World) (hx : Arr .u8 w g 30 [x]) :
    Calls Try.prog 22 #[.slice (some ⟨g, 0, none⟩) 1 1, .int .i64 n] w fun e w' => e = .returned (.slice (some ⟨w.heap.size, 0, none⟩) n n) ∧ Arr .u8 w' w.heap.size 30 (List.replicate n x) ∧ Bel w w' := by
  have HX := Lib.hid hx
  have hgl := hx.lt
  have hmk := fun W => run_make_row' (P := Try.prog) 23 30 (.int .u8 0) 1 Try.underlying23 info_mu8 rfl .i64 .i64 n (by omega) (by omega) W
  have i0 : (0 : Int) ≤ (n : Int) := by omega
  clear hx
  obtain ⟨w1, hw1⟩ : ∃ w1, w1 = w.alloc (.cells (madeCells #[.int .u8 0] n) 30) := ⟨_, rfl⟩
  have HA1 := Lib.hid (show Arr .u8 w1 w.heap.size 30 (List.replicate n 0) by rw [hw1]; exact Arr.made w _ n 0)
  have HB1 := Lib.hid (show Bel w w1 by rw [hw1]; exact (Bel.refl w).alloc _)
  obtain ⟨w2, hcp, ha2, hg2⟩ := copy_arr (P := Try.prog) 23 30 3 Try.underlying23 sz_mu8 w.heap.size 0 n n (some ⟨g, 0, none⟩) 1 1 (List.replicate n 0) (List.replicate (min 1 n) x) w1 HA1.out (by rw [List.length_replicate]) (fun _ => ⟨g, 0, rfl, fun j hj => by
    rw [List.length_replicate] at hj
    obtain rfl : j = 0 := by omega
    rw [List.getElem?_replicate, if_pos (by omega)]
    exact (HB1.out.cell (p := ⟨g, 0, none⟩) hgl).trans (HX.out.cell (j := 0) (by simp))⟩) (by simp; omega)
  have HA2 : Hid (Arr .u8 w2 w.heap.size 30 (List.replicate (min 1 n) x ++ List.replicate (n - min 1 n) 0)) := Lib.hid (by
    have e : splice (List.replicate n (0 : Int)) 0 (List.replicate (min 1 n) x) = List.replicate (min 1 n) x ++ List.replicate (n - min 1 n) 0 := by simp [splice]
    rw [e] at ha2; exact ha2)
  have HB2 : Hid (Bel w w2) := Lib.hid (Below.grown HB1.out hg2 (by rw [hw1]; simp) (fun k hk => by cases hk; exact Nat.le_refl _))
  obtain ⟨k0, hk0⟩ : ∃ k0 : Nat, k0 = min 1 n := ⟨_, rfl⟩
  have hl : ((List.replicate (min 1 n) x).length : Int) = (k0 : Int) := by rw [List.length_replicate, hk0]
  rw [hl] at hcp
  rw [← hk0] at HA2
  have hk1 : k0 ≤ n ∧ (k0 < n → 1 ≤ k0) := by omega
  rw [hw1] at hcp
  clear hl hk0 ha2 hg2 hw1 HA1 HB1
  go_enter Try.func22, Try.ntmps22
  go_wp2_with fail
  refine (mul_one_any n hn _).mono ?_
  rintro e w' ⟨rfl, rfl⟩
  go_wp2_with fail
  go_loopw [8] (fun i wr => ∃ k : Nat, k ≤ n ∧ (k < n → 1 ≤ k) ∧ i = .int .i64 k ∧ Hid (Arr .u8 wr w.heap.size 30 (List.replicate k x ++ List.replicate (n - k) 0)) ∧ Hid (Bel w wr)) (fun i _ => n - (intOf i).toNat)
  case atStart => exact ⟨k0, hk1.1, hk1.2, rfl, HA2, HB2⟩
  case round =>
    obtain ⟨k, hk, hkp, rfl, HA, HB⟩ := hrel
    by_cases hlt : k < n
    · have hk1 := hkp hlt
      obtain ⟨j, hj⟩ : ∃ j : Nat, j = min (n - k) k := ⟨_, rfl⟩
      obtain ⟨w3, hcp3, ha3, hg3⟩ := copy_arr (P := Try.prog) 23 30 3 Try.underlying23 sz_mu8 w.heap.size k (n - k) (n - k) (some ⟨w.heap.size, 0, none⟩) k n (List.replicate k x ++ List.replicate (n - k) 0) (List.replicate j x) wr.drew HA.out (by rw [List.length_replicate, hj]; exact Nat.min_comm _ _) (fun _ => ⟨w.heap.size, 0, rfl, fun i hi => by
        rw [List.length_replicate] at hi
        rw [Nat.zero_add]
        refine (HA.out.cell (j := i) (by simp; omega)).trans ?_
        rw [List.getElem?_append_left (by simp; omega), List.getElem?_replicate, List.getElem?_replicate, if_pos (by omega), if_pos hi]⟩) (by simp; omega)
      rw [List.length_replicate] at hcp3
      have HA3 := Lib.hid (show Arr .u8 w3 w.heap.size 30 (List.replicate (k + j) x ++ List.replicate (n - (k + j)) 0) by rw [← splice_rep hlt j hj]; exact ha3)
      have HB3 : Hid (Bel w w3) := Lib.hid (Below.grown HB.out.drew hg3 HB.out.size (fun q hq => by cases hq; exact Nat.le_refl _))
      have HJ := Lib.hid hj
      have hjn : k + j ≤ n := by omega
      have hj1 : 1 ≤ j := by omega
      clear ha3 hg3 hj
      have i1 : (0 : Int) ≤ (k : Int) := by omega
      have i2 : (k : Int) ≤ (n : Int) := by omega
      have i3 : (k : Int) < (n : Int) := by omega
      go_wp2_with fail
      go_region
      all_goals
        go_wp2_with fail
        go_roundw
        case rel => exact ⟨k + j, by have := HJ.out; omega, fun _ => by omega, by go_num, HA3, HB3⟩
        case measure => have := HJ.out; simp [intOf]; omega
    · obtain rfl : k = n := by omega
      go_wp2_with fail
      go_ret
      exact ⟨rfl, by simpa using HA.out, HB.out⟩
end Go.Proofs.Ytlbachjhhjjmfaa.Mu

