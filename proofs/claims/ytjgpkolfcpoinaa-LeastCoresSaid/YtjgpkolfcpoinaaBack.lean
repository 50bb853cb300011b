/-
  slices.Backward at inequalities: what it hands to a loop, and the loop's rounds; and whether an inequality has a variable L.
-/
import Derived.RangeFuncBox
import Derived.Shelf.Abstract
import Derived.WalkKit
import Derived.OwnWalkIn
import Derived.TacticsInMore
import Derived.LoopNIn
import Derived.LoopIn
import Derived.Test.YtjgpkolfcpoinaaRound
import Derived.Test.YtjgpkolfcpoinaaIneqH
namespace Go.Proofs.Ytjgpkolfcpoinaa.Mu
open Go.ChangeShapes Go.WideShapes Go.ChangeAt Go.RowKit Go.Shelf

attribute [local go_sem] Oper.semAt_some

theorem hasLeft_any (x : Iq) (w : World) : Calls Try.prog 61 #[.agg #[.int .i64 x.v, .int .u8 x.m, .int .u8 x.c, .int .i64 x.r]] w fun e w' => e = .returned (.bool (x.m == 0)) ∧ Bel w w' := by
  go_enter Try.func61, Try.ntmps61
  go_wp2
  go_ret
  exact ⟨rfl, (Bel.refl _).alloc _⟩

/-- The inequalities, from the last one on, each with its number. -/
def backF (xs : List Iq) (k : Nat) : Nat × Iq := (xs.length - 1 - k, xs[xs.length - 1 - k]?.getD ⟨0, 0, 0, 0⟩)
def backL (xs : List Iq) (k : Nat) : List (Nat × Iq) := (List.range k).map (backF xs)
theorem backL_succ (xs : List Iq) (k : Nat) : backL xs (k + 1) = backL xs k ++ [backF xs k] := by simp [backL, List.range_succ]
theorem backL_len (xs : List Iq) (k : Nat) : (backL xs k).length = k := by simp [backL]
theorem backL_prefix (xs : List Iq) {k : Nat} (hk : k ≤ xs.length) : backL xs k <+: backL xs xs.length := by
  unfold backL
  refine List.IsPrefix.map _ ?_
  rw [show xs.length = k + (xs.length - k) by omega, List.range_add]
  exact List.prefix_append _ _
def encQ (x : Nat × Iq) : Array Value := #[.int .i64 x.1, .agg #[.int .i64 x.2.v, .int .u8 x.2.m, .int .u8 x.2.c, .int .i64 x.2.r]]

set_option maxRecDepth 100000 in
set_option maxHeartbeats 2000000 in
theorem back1_in (F : Fence) (n : Nat) (h7 : F.fn 86) (hro : F.round = none) (hn : 1 ≤ n) (l Bs n₀ len cap : Nat) (A : Option Addr) (xs : List Iq) (hmax : len ≤ 1048576) (Kp : World → World → Prop)
    (hkp : ∀ W W', Kp W W' → W'.heap[Bs]? = W.heap[Bs]? ∧ Below n₀ W W') (J Jx : List (Nat × Iq) → World → Prop)
    (hY : ∀ pre x W, J pre W → pre.length < len → x = backF xs pre.length → YieldAt F (n - 1) Try.prog l (encQ x) W fun e W' =>
      (e = .returned (.bool true) ∧ J (pre ++ [x]) W' ∧ Kp W W') ∨ (e = .returned (.bool false) ∧ Jx (pre ++ [x]) W'))
    (W : World) (hBs : W.heap[Bs]? = some (.cells #[.slice A len cap] 35 (0, 0))) (hq : RQ W n₀ A len xs) (h0 : J [] W) :
    CallsIn F n Try.prog 86 #[.func (.yield l) #[] #[], .pointer (some ⟨Bs, 0, none⟩)] W fun e W' => (∃ v, e = .returned v) ∧
      ((∃ ys, ys = backL xs len ∧ J ys W') ∨ (∃ pre, (∃ k, k ≤ len ∧ pre = backL xs k) ∧ Jx pre W')) := by
  have HL := Lib.hid hq.len
  have HQ := Lib.hid hq
  have HBS := Lib.hid hBs
  have c0 := cell1 hBs
  clear hq hBs
  refine callsIn_of_wp Try.func86 rfl h7 ?_ hro
  simp only [Try.ntmps86, List.size_toArray, List.length_cons, List.length_nil, Nat.reduceAdd, Nat.reduceSub, Array.replicate_succ, Array.replicate_zero, List.push_toArray, List.append_toArray, List.nil_append, List.cons_append]
  gi_wp2
  clear c0
  gi_loopw [3] (fun i wr => ∃ k : Nat, k ≤ len ∧ i = .int .i64 ((len : Int) - 1 - k) ∧ J (backL xs k) wr ∧ Hid (wr.heap[Bs]? = some (.cells #[.slice A len cap] 35 (0, 0))) ∧ Hid (RQ wr n₀ A len xs))
    (fun i _ => (intOf i + 1).toNat)
  case atStart => exact ⟨0, Nat.zero_le _, by go_num, h0, HBS, HQ⟩
  case round =>
    obtain ⟨k, hk, rfl, hJs, HBX, HQX⟩ := hrel
    by_cases hlt : k < len
    · obtain ⟨b, off, eA, hb, hc⟩ := HQX.out.at_ (by omega)
      subst eA
      obtain ⟨x, hx⟩ : ∃ x, xs[xs.length - 1 - k]? = some x := ⟨_, List.getElem?_eq_getElem (by have := HL.out; omega)⟩
      obtain ⟨d0, d1, d2, d3⟩ := hc _ x hx
      have HX := Lib.hid hx
      have hl2 : backF xs k = (len - 1 - k, x) := by unfold backF; rw [hx, ← HL.out]; rfl
      have HL2 := Lib.hid hl2
      obtain ⟨fn, tmps, assign, body, hy, hR⟩ := hY _ (len - 1 - k, x) wr hJs (by rw [backL_len]; exact hlt) (by rw [backL_len]; exact HL2.out.symm)
      unfold encQ at hy
      dsimp only at hy
      rw [← HL.out] at d0 d1 d2 d3
      obtain ⟨q, hq⟩ : ∃ q : Nat, q = len - 1 - k := ⟨_, rfl⟩
      rw [← hq] at d0 d1 d2 d3 hy
      have e1 : ((len : Int) - 1 - k) = (q : Int) := by omega
      rw [e1]
      have i1 : (0 : Int) ≤ (q : Int) := by omega
      have i2 : (q : Int) < (len : Int) := by omega
      have c0 := cell1 HBX.out
      have HQ2 := Lib.hid hq
      clear hc hx hl2 hq e1
      gi_wp2
      refine hR.mono ?_
      rw [HQ2.out, ← HL2.out, ← backL_succ] 
      rintro e W3 (⟨rfl, hJ3, hk3⟩ | ⟨rfl, hJx3⟩)
      · obtain ⟨hk1, hk2⟩ := hkp _ _ hk3
        have HB3 := Lib.hid (hk1.trans HBX.out)
        have HQ3 := Lib.hid (HQX.out.keep fun b o hb => hk2.cell (p := ⟨b, o, none⟩) hb)
        have HZ := HQ2.out
        clear hk1 hk2 hk3
        gi_wp2
        go_roundw
        case rel => exact ⟨k + 1, by omega, by go_num, hJ3, HB3, HQ3⟩
        case measure => simp [intOf]; omega
      · gi_wp2
        refine bodyPost_ret (results_none rfl _ _ _) rfl ?_
        exact ⟨⟨_, rfl⟩, .inr ⟨_, ⟨k + 1, by omega, rfl⟩, hJx3⟩⟩
    · obtain rfl : k = len := by omega
      gi_wp2
      go_end0
      exact ⟨⟨_, rfl⟩, .inl ⟨_, rfl, hJs⟩⟩

theorem back_any (A : Option Addr) (len cap : Nat) (w : World) : Calls Try.prog 63 #[.slice A len cap] w fun e w' => e = .returned (.func (.func 86) #[] #[.pointer (some ⟨w.heap.size, 0, none⟩)]) ∧ w' = w.alloc (.cells #[.slice A len cap] 35) := by
  go_enter Try.func63, Try.ntmps63
  go_wp2
  go_ret
  exact ⟨rfl, rfl⟩

/-- What a loop over it is handed: a place, and an inequality whose variables are in range. -/
abbrev Item (len n : Nat) : Type := { p : Nat × Iq // p.1 < len ∧ (p.2.m = 0 → 0 ≤ p.2.v ∧ p.2.v < n) }
theorem back_stops (Bs n₀ len cap n : Nat) (A : Option Addr) (xs : List Iq) (hmax : len ≤ 1048576) (hv : ∀ x ∈ xs, x.m = 0 → 0 ≤ x.v ∧ x.v < n) (Kp : World → World → Prop) (hkp : ∀ W W', Kp W W' → W'.heap[Bs]? = W.heap[Bs]? ∧ Below n₀ W W') (w : World) (hB : Bs < w.heap.size) (hn₀ : n₀ ≤ w.heap.size)
    (hBs : w.heap[Bs]? = some (.cells #[.slice A len cap] 35 (0, 0))) (hq : RQ w n₀ A len xs) :
    SeqStopsK Fence.wide 4 Try.prog 86 #[.pointer (some ⟨Bs, 0, none⟩)] (fun x : Item len n => encQ x.1) Kp (fun ys => ys.map (·.1) = backL xs len) (fun _ => True) len w := fun l J Jx W hW _ _ hY h0 => by
  have hl := hq.len
  refine (back1_in Fence.wide 4 trivial rfl (by omega) l Bs n₀ len cap A xs hmax Kp hkp (fun pre W => ∃ pre' : List (Item len n), pre'.map (·.1) = pre ∧ J pre' W) (fun pre W => ∃ pre' : List (Item len n), pre'.map (·.1) = pre ∧ Jx pre' W) ?_ W ((hW.block Bs hB).trans hBs) (hq.keep fun b o hb => hW.cell (p := ⟨b, o, none⟩) (show b < w.heap.size by omega)) ⟨[], rfl, h0⟩).mono ?_
  · rintro pre x W1 ⟨pre', rfl, hJ⟩ hlt hx
    have hlt' : pre'.length < len := by simpa using hlt
    have hx2 : xs[xs.length - 1 - pre'.length]? = some x.2 ∧ x.1 < len := by
      rw [hx]
      unfold backF
      simp only [List.length_map]
      have : xs.length - 1 - pre'.length < xs.length := by omega
      rw [List.getElem?_eq_getElem this]
      exact ⟨rfl, by omega⟩
    have hm := List.mem_of_getElem? hx2.1
    obtain ⟨fn, tmps, assign, body, hy, hR⟩ := hY pre' ⟨x, hx2.2, hv x.2 hm⟩ W1 hJ hlt'
    refine ⟨fn, tmps, assign, body, hy, hR.mono ?_⟩
    rintro e W' (⟨rfl, hJ', hk⟩ | ⟨rfl, hJx⟩)
    · exact .inl ⟨rfl, ⟨_, by simp, hJ'⟩, hk⟩
    · exact .inr ⟨rfl, _, by simp, hJx⟩
  · rintro e W' ⟨he, ⟨ys, rfl, pre', hp, hJ⟩ | ⟨pre, _, pre', _, hJ⟩⟩
    · exact ⟨he, .inl ⟨pre', hp, hJ⟩⟩
    · exact ⟨he, .inr ⟨pre', trivial, hJ⟩⟩
end Go.Proofs.Ytjgpkolfcpoinaa.Mu

