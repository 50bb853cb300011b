/-
  slices.Repeat of one element, at int and at api.Mult.
-/
import Derived.Test.YtjgpkolfcpoinaaArr
import Derived.Test.YtjgpkolfcpoinaaTermFn
import Derived.Test.YtjgpkolfcpoinaaShelf
import Derived.Test.YtjgpkolfcpoinaaRows
import Derived.ChangeAt
import Derived.Deep.OwnRows
import Derived.Deep.RegionLaw
import Derived.Laws.CopyOwn
namespace Go.Proofs.Ytjgpkolfcpoinaa.Mu
open Go.ChangeShapes Go.WideShapes Go.ChangeAt Go.RowKit

theorem mul_one_any (n : Nat) (hn : n ≤ 1048576) (w : World) : Calls Try.prog 59 #[.int .u64 1, .int .u64 n] w fun e w' => e = .returned (.tuple #[.int .u64 0, .int .u64 n]) ∧ w = w' := by
  refine (Try.bits_Mul 1 n (by omega) (by omega) w).mono ?_
  rintro e w' ⟨rfl, rfl⟩
  have h1 : 1 * n / 18446744073709551616 = 0 := by omega
  have h2 : 1 * n % 18446744073709551616 = n := by omega
  rw [h1, h2]
  exact ⟨rfl, rfl⟩
theorem info_i64 : (Try.prog.info? 3).map (fun i => (i.zero, i.size, i.bytes)) = some (some (.int .i64 0), 1, 8) := by kernel_rfl
theorem info_mu8 : (Try.prog.info? 27).map (fun i => (i.zero, i.size, i.bytes)) = some (some (.int .u8 0), 1, 1) := by kernel_rfl
theorem sz_i64 : (Try.prog.info? 3).map (·.size) = some 1 := by kernel_rfl
theorem sz_mu8 : (Try.prog.info? 27).map (·.size) = some 1 := by kernel_rfl
theorem splice_rep {α : Type} {x : α} {z : α} {n k : Nat} (_hk : k < n) (j : Nat) (hj : j = min (n - k) k) : splice (List.replicate k x ++ List.replicate (n - k) z) k (List.replicate j x) = List.replicate (k + j) x ++ List.replicate (n - (k + j)) z := by
  unfold splice
  rw [List.take_left' (by simp), List.length_replicate, List.drop_append, List.length_replicate, List.drop_eq_nil_of_le (by simp), List.nil_append, List.drop_replicate]
  rw [← List.replicate_append_replicate, List.append_assoc]
  congr 3
  omega

/-- copy onto a block of the call's own. -/
theorem copy_arr {P : Program} {kd : IntKind} (T E ty : TypeId) (hu : P.underlying T = some (.slice E)) (hsz : (P.info? E).map (·.size) = some 1) (g off dl dc : Nat) (sp : Option Addr) (sl sc : Nat) (cur ys : List Int) (w : World) (ha : Arr kd w g E cur)
    (hn : ys.length = Nat.min sl dl) (hs : 0 < ys.length → ∃ b o, sp = some ⟨b, o, none⟩ ∧ ∀ j, j < ys.length → w.cell? ⟨b, o + j, none⟩ = some (.int kd (ys[j]?.getD 0))) (hfit : off + ys.length ≤ cur.length) :
    ∃ w2, (Builtin.copy_ #[T, T] ty #[.slice (some ⟨g, off, none⟩) dl dc, .slice sp sl sc]).run P w = .ok (.int .i64 (ys.length : Int)) w2 ∧ Arr kd w2 g E (splice cur off ys) ∧ w.grownBy w2 (some g) := by
  by_cases h0 : ys.length = 0
  · obtain rfl : ys = [] := List.eq_nil_of_length_eq_zero h0
    exact ⟨w, run_copy_none (P := P) w T T ty E (some ⟨g, off, none⟩) sp dl dc sl sc hu hsz (by simpa using hn.symm), by simpa [splice] using ha, World.grownBy.refl _ _⟩
  · obtain ⟨b, o, rfl, hc⟩ := hs (by omega)
    have hrun := run_copy_row (P := P) w T T ty E g off dl dc ⟨b, o, none⟩ sl sc (cur.map (Value.int kd)).toArray E (ys.map (Value.int kd)) hu hsz ha (by simpa using hn) (by
      intro j v hj
      have hlt : j < ys.length := by have := (List.getElem?_eq_some_iff.1 hj).1; simpa using this
      rw [Addr.add_lit, hc j hlt]
      simp [List.getElem?_eq_getElem hlt] at hj
      rw [List.getElem?_eq_getElem hlt]; simp [hj]) (by simpa using hfit) (by
      intro v hv
      obtain ⟨y, _, e⟩ := List.mem_map.1 hv
      rw [← e]; rfl)
    refine ⟨_, by simpa [goInt] using hrun, ?_, ?_⟩
    · unfold Arr
      rw [setRow_heap w g _ _ E _ ha]
      congr 2
      apply Array.ext'
      simp [splice, List.map_take, List.map_drop]
    · exact ⟨rfl, rfl, rfl, by simp [World.setRow], fun k hk hne => setRow_other w g k _ (fun e => hne (by rw [e]))⟩

set_option maxRecDepth 100000 in
set_option maxHeartbeats 1000000 in
theorem repeatI_any (g n : Nat) (x : Int) (hn : n ≤ 1048576) (w : World) (hx : Arr .i64 w g 3 [x]) :
    Calls Try.prog 62 #[.slice (some ⟨g, 0, none⟩) 1 1, .int .i64 n] w fun e w' => e = .returned (.slice (some ⟨w.heap.size, 0, none⟩) n n) ∧ Arr .i64 w' w.heap.size 3 (List.replicate n x) ∧ Bel w w' := by
  have HX := Lib.hid hx
  have hgl := hx.lt
  have hmk := fun W => run_make_row' (P := Try.prog) 23 3 (.int .i64 0) 8 Try.underlying23 info_i64 rfl .i64 .i64 n (by omega) (by omega) W
  have i0 : (0 : Int) ≤ (n : Int) := by omega
  clear hx
  obtain ⟨w1, hw1⟩ : ∃ w1, w1 = w.alloc (.cells (madeCells #[.int .i64 0] n) 3) := ⟨_, rfl⟩
  have HA1 := Lib.hid (show Arr .i64 w1 w.heap.size 3 (List.replicate n 0) by rw [hw1]; exact Arr.made w _ n 0)
  have HB1 := Lib.hid (show Bel w w1 by rw [hw1]; exact (Bel.refl w).alloc _)
  obtain ⟨w2, hcp, ha2, hg2⟩ := copy_arr (P := Try.prog) 23 3 3 Try.underlying23 sz_i64 w.heap.size 0 n n (some ⟨g, 0, none⟩) 1 1 (List.replicate n 0) (List.replicate (min 1 n) x) w1 HA1.out (by rw [List.length_replicate]) (fun _ => ⟨g, 0, rfl, fun j hj => by
    rw [List.length_replicate] at hj
    obtain rfl : j = 0 := by omega
    rw [List.getElem?_replicate, if_pos (by omega)]
    exact (HB1.out.cell (p := ⟨g, 0, none⟩) hgl).trans (HX.out.cell (j := 0) (by simp))⟩) (by simp; omega)
  have HA2 : Hid (Arr .i64 w2 w.heap.size 3 (List.replicate (min 1 n) x ++ List.replicate (n - min 1 n) 0)) := Lib.hid (by
    have e : splice (List.replicate n (0 : Int)) 0 (List.replicate (min 1 n) x) = List.replicate (min 1 n) x ++ List.replicate (n - min 1 n) 0 := by simp [splice]
    rw [e] at ha2; exact ha2)
  have HB2 : Hid (Bel w w2) := Lib.hid (Below.grown HB1.out hg2 (by rw [hw1]; simp) (fun k hk => by cases hk; exact Nat.le_refl _))
  obtain ⟨k0, hk0⟩ : ∃ k0 : Nat, k0 = min 1 n := ⟨_, rfl⟩
  have hl : ((List.replicate (min 1 n) x).length : Int) = (k0 : Int) := by rw [List.length_replicate, hk0]
  rw [hl] at hcp
  rw [← hk0] at HA2
  have hk1 : k0 ≤ n ∧ (k0 < n → 1 ≤ k0) := by omega
  rw [hw1] at hcp
  clear hl hk0 ha2 hg2 hw1 HA1 HB1
  go_enter Try.func62, Try.ntmps62
  go_wp2_with fail
  refine (mul_one_any n hn _).mono ?_
  rintro e w' ⟨rfl, rfl⟩
  go_wp2_with fail
  go_loopw [8] (fun i wr => ∃ k : Nat, k ≤ n ∧ (k < n → 1 ≤ k) ∧ i = .int .i64 k ∧ Hid (Arr .i64 wr w.heap.size 3 (List.replicate k x ++ List.replicate (n - k) 0)) ∧ Hid (Bel w wr)) (fun i _ => n - (intOf i).toNat)
  case atStart => exact ⟨k0, hk1.1, hk1.2, rfl, HA2, HB2⟩
  case round =>
    obtain ⟨k, hk, hkp, rfl, HA, HB⟩ := hrel
    by_cases hlt : k < n
    · have hk1 := hkp hlt
      obtain ⟨j, hj⟩ : ∃ j : Nat, j = min (n - k) k := ⟨_, rfl⟩
      obtain ⟨w3, hcp3, ha3, hg3⟩ := copy_arr (P := Try.prog) 23 3 3 Try.underlying23 sz_i64 w.heap.size k (n - k) (n - k) (some ⟨w.heap.size, 0, none⟩) k n (List.replicate k x ++ List.replicate (n - k) 0) (List.replicate j x) wr.drew HA.out (by rw [List.length_replicate, hj]; exact Nat.min_comm _ _) (fun _ => ⟨w.heap.size, 0, rfl, fun i hi => by
        rw [List.length_replicate] at hi
        rw [Nat.zero_add]
        refine (HA.out.cell (j := i) (by simp; omega)).trans ?_
        rw [List.getElem?_append_left (by simp; omega), List.getElem?_replicate, List.getElem?_replicate, if_pos (by omega), if_pos hi]⟩) (by simp; omega)
      rw [List.length_replicate] at hcp3
      have HA3 := Lib.hid (show Arr .i64 w3 w.heap.size 3 (List.replicate (k + j) x ++ List.replicate (n - (k + j)) 0) by rw [← splice_rep hlt j hj]; exact ha3)
      have HB3 : Hid (Bel w w3) := Lib.hid (Below.grown HB.out.drew hg3 HB.out.size (fun q hq => by cases hq; exact Nat.le_refl _))
      have HJ := Lib.hid hj
      have hjn : k + j ≤ n := by omega
      have hj1 : 1 ≤ j := by omega
      clear ha3 hg3 hj
      have i1 : (0 : Int) ≤ (k : Int) := by omega
      have i2 : (k : Int) ≤ (n : Int) := by omega
      have i3 : (k : Int) < (n : Int) := by omega
      go_wp2_with fail
      go_region
      all_goals
        go_wp2_with fail
        go_roundw
        case rel => exact ⟨k + j, by have := HJ.out; omega, fun _ => by omega, by go_num, HA3, HB3⟩
        case measure => have := HJ.out; simp [intOf]; omega
    · obtain rfl : k = n := by omega
      go_wp2_with fail
      go_ret
      exact ⟨rfl, by simpa using HA.out, HB.out⟩
set_option maxRecDepth 100000 in
set_option maxHeartbeats 1000000 in
theorem repeatM_any (g n : Nat) (x : Int) (hn : n ≤ 1048576) (w : World) (hx : Arr .u8 w g 27 [x]) :
    Calls Try.prog 37 #[.slice (some ⟨g, 0, none⟩) 1 1, .int .i64 n] w fun e w' => e = .returned (.slice (some ⟨w.heap.size, 0, none⟩) n n) ∧ Arr .u8 w' w.heap.size 27 (List.replicate n x) ∧ Bel w w' := by
  have HX := Lib.hid hx
  have hgl := hx.lt
  have hmk := fun W => run_make_row' (P := Try.prog) 22 27 (.int .u8 0) 1 Try.underlying22 info_mu8 rfl .i64 .i64 n (by omega) (by omega) W
  have i0 : (0 : Int) ≤ (n : Int) := by omega
  clear hx
  obtain ⟨w1, hw1⟩ : ∃ w1, w1 = w.alloc (.cells (madeCells #[.int .u8 0] n) 27) := ⟨_, rfl⟩
  have HA1 := Lib.hid (show Arr .u8 w1 w.heap.size 27 (List.replicate n 0) by rw [hw1]; exact Arr.made w _ n 0)
  have HB1 := Lib.hid (show Bel w w1 by rw [hw1]; exact (Bel.refl w).alloc _)
  obtain ⟨w2, hcp, ha2, hg2⟩ := copy_arr (P := Try.prog) 22 27 3 Try.underlying22 sz_mu8 w.heap.size 0 n n (some ⟨g, 0, none⟩) 1 1 (List.replicate n 0) (List.replicate (min 1 n) x) w1 HA1.out (by rw [List.length_replicate]) (fun _ => ⟨g, 0, rfl, fun j hj => by
    rw [List.length_replicate] at hj
    obtain rfl : j = 0 := by omega
    rw [List.getElem?_replicate, if_pos (by omega)]
    exact (HB1.out.cell (p := ⟨g, 0, none⟩) hgl).trans (HX.out.cell (j := 0) (by simp))⟩) (by simp; omega)
  have HA2 : Hid (Arr .u8 w2 w.heap.size 27 (List.replicate (min 1 n) x ++ List.replicate (n - min 1 n) 0)) := Lib.hid (by
    have e : splice (List.replicate n (0 : Int)) 0 (List.replicate (min 1 n) x) = List.replicate (min 1 n) x ++ List.replicate (n - min 1 n) 0 := by simp [splice]
    rw [e] at ha2; exact ha2)
  have HB2 : Hid (Bel w w2) := Lib.hid (Below.grown HB1.out hg2 (by rw [hw1]; simp) (fun k hk => by cases hk; exact Nat.le_refl _))
  obtain ⟨k0, hk0⟩ : ∃ k0 : Nat, k0 = min 1 n := ⟨_, rfl⟩
  have hl : ((List.replicate (min 1 n) x).length : Int) = (k0 : Int) := by rw [List.length_replicate, hk0]
  rw [hl] at hcp
  rw [← hk0] at HA2
  have hk1 : k0 ≤ n ∧ (k0 < n → 1 ≤ k0) := by omega
  rw [hw1] at hcp
  clear hl hk0 ha2 hg2 hw1 HA1 HB1
  go_enter Try.func37, Try.ntmps37
  go_wp2_with fail
  refine (mul_one_any n hn _).mono ?_
  rintro e w' ⟨rfl, rfl⟩
  go_wp2_with fail
  go_loopw [8] (fun i wr => ∃ k : Nat, k ≤ n ∧ (k < n → 1 ≤ k) ∧ i = .int .i64 k ∧ Hid (Arr .u8 wr w.heap.size 27 (List.replicate k x ++ List.replicate (n - k) 0)) ∧ Hid (Bel w wr)) (fun i _ => n - (intOf i).toNat)
  case atStart => exact ⟨k0, hk1.1, hk1.2, rfl, HA2, HB2⟩
  case round =>
    obtain ⟨k, hk, hkp, rfl, HA, HB⟩ := hrel
    by_cases hlt : k < n
    · have hk1 := hkp hlt
      obtain ⟨j, hj⟩ : ∃ j : Nat, j = min (n - k) k := ⟨_, rfl⟩
      obtain ⟨w3, hcp3, ha3, hg3⟩ := copy_arr (P := Try.prog) 22 27 3 Try.underlying22 sz_mu8 w.heap.size k (n - k) (n - k) (some ⟨w.heap.size, 0, none⟩) k n (List.replicate k x ++ List.replicate (n - k) 0) (List.replicate j x) wr.drew HA.out (by rw [List.length_replicate, hj]; exact Nat.min_comm _ _) (fun _ => ⟨w.heap.size, 0, rfl, fun i hi => by
        rw [List.length_replicate] at hi
        rw [Nat.zero_add]
        refine (HA.out.cell (j := i) (by simp; omega)).trans ?_
        rw [List.getElem?_append_left (by simp; omega), List.getElem?_replicate, List.getElem?_replicate, if_pos (by omega), if_pos hi]⟩) (by simp; omega)
      rw [List.length_replicate] at hcp3
      have HA3 := Lib.hid (show Arr .u8 w3 w.heap.size 27 (List.replicate (k + j) x ++ List.replicate (n - (k + j)) 0) by rw [← splice_rep hlt j hj]; exact ha3)
      have HB3 : Hid (Bel w w3) := Lib.hid (Below.grown HB.out.drew hg3 HB.out.size (fun q hq => by cases hq; exact Nat.le_refl _))
      have HJ := Lib.hid hj
      have hjn : k + j ≤ n := by omega
      have hj1 : 1 ≤ j := by omega
      clear ha3 hg3 hj
      have i1 : (0 : Int) ≤ (k : Int) := by omega
      have i2 : (k : Int) ≤ (n : Int) := by omega
      have i3 : (k : Int) < (n : Int) := by omega
      go_wp2_with fail
      go_region
      all_goals
        go_wp2_with fail
        go_roundw
        case rel => exact ⟨k + j, by have := HJ.out; omega, fun _ => by omega, by go_num, HA3, HB3⟩
        case measure => have := HJ.out; simp [intOf]; omega
    · obtain rfl : k = n := by omega
      go_wp2_with fail
      go_ret
      exact ⟨rfl, by simpa using HA.out, HB.out⟩
end Go.Proofs.Ytjgpkolfcpoinaa.Mu

