/-
  Layer 9's small functions, walked: the place behind a code point, how many bytes a code point has, its bytes; the document's own of these.
-/
import Derived.Test.YtaiogbokmglofaaUtfMath
import Derived.Test.YtaiogbokmglofaaOne
import Derived.Test.YtaiogbokmglofaaShelf
import Derived.WalkKit
import Derived.Deep.QuietTactic
import Derived.BigQuiet
import Derived.StillTailTactics
import Derived.Laws.StructEq
import Derived.IntWalk
import Derived.WalkLawsBesides
import Derived.Laws.BytesString
import Derived.Deep.OwnRows
import Derived.LoopN
namespace Go.Proofs.Ytaiogbokmglofaa.Mu
open Go.RowKit Go.Shelf

/-- A place. -/
structure Pl where
  a : Int
  l : Int
  c : Int
deriving DecidableEq
def Pl.next (p : Pl) (x : Int) : Pl := if x = 10 then ⟨p.a + wid x, p.l + 1, 1⟩ else ⟨p.a + wid x, p.l, p.c + 1⟩
def Pl.v (p : Pl) : Value := .agg #[.int .i64 p.a, .int .i64 p.l, .int .i64 p.c]
/-- A place's numbers are small. -/
def Pl.sm (p : Pl) (b : Int) : Prop := 0 ≤ p.a ∧ p.a ≤ b ∧ 0 ≤ p.l ∧ p.l ≤ b ∧ 0 ≤ p.c ∧ p.c ≤ b
theorem Pl.sm_next {p : Pl} {b x : Int} (h : p.sm b) : (p.next x).sm (b + 4) := by
  have hw := wid_pos x
  obtain ⟨h1, h2, h3, h4, h5, h6⟩ := h
  unfold Pl.next Pl.sm
  split <;> refine ⟨?_, ?_, ?_, ?_, ?_, ?_⟩ <;> simp <;> omega
theorem runeLen_wid {c : Int} (h : cpB c = true) : Lib.runeLen c = (wid c : Int) := by
  have h := (cpB_iff c).1 h
  unfold Lib.runeLen wid
  repeat' split
  all_goals omega
theorem validRune_cp (c : Int) : Lib.validRune c = cpB c := by
  rw [Bool.eq_iff_iff, cpB_iff]; simp [Lib.validRune]; omega
theorem ret_bool {a b : Bool} (h : a = b) : Ending.returned (.bool a) = .returned (.bool b) := by rw [h]
theorem ret_int {k : IntKind} {a b : Int} (h : a = b) : Ending.returned (.int k a) = .returned (.int k b) := by rw [h]
theorem rl_still {c : Int} (hc : cpB c = true) (w : World) : Calls Try.prog 19 #[.int .i32 c] w fun e w' => e = .returned (.int .i64 (wid c)) ∧ w' = w :=
  (Try.utf8_RuneLen c w).mono fun _ _ h => ⟨by rw [h.1, runeLen_wid hc], h.2⟩
theorem rl_any {c : Int} (hc : cpB c = true) (w : World) : Calls Try.prog 19 #[.int .i32 c] w fun e w' => e = .returned (.int .i64 (wid c)) ∧ w = w' :=
  (Try.utf8_RuneLen c w).mono fun _ _ h => ⟨by rw [h.1, runeLen_wid hc], h.2.symm⟩
theorem vr_any (c : Int) (w : World) : Calls Try.prog 18 #[.int .i32 c] w fun e w' => e = .returned (.bool (cpB c)) ∧ w = w' :=
  (Try.utf8_ValidRune c w).mono fun _ _ h => ⟨by rw [h.1, validRune_cp], h.2.symm⟩

set_option maxHeartbeats 1000000 in
theorem behind_any {p : Pl} {c : Int} (hc : cpB c = true) (hp : p.sm 1000000) (w : World) :
    Calls Try.prog 24 #[.agg #[.int .i64 p.a, .int .i64 p.l, .int .i64 p.c], .int .i32 c] w fun e w' => e = .returned (p.next c).v ∧ Bel w w' := by
  obtain ⟨h1, h2, h3, h4, h5, h6⟩ := hp
  have hw := wid_pos c
  obtain ⟨pa, pl, pc⟩ := p
  simp only at h1 h2 h3 h4 h5 h6
  have HC := Lib.hid hc
  have hx : IntKind.i64.wrap (pa + (wid c : Int)) = pa + (wid c : Int) := IntWalk.i64_in _ (by omega)
  clear hc
  go_enter Try.func24, Try.ntmps24
  go_wp2_with fail
  go_region_with (go_at_call 19; refine (rl_any HC.out _).mono ?_; rintro e w1 ⟨rfl, rfl⟩)
  all_goals
    by_cases h10 : c = 10
    · have e10 : (c == 10) = true := by simpa using h10
      go_wp2
      refine bodyPost_ret (v := (Pl.next ⟨pa, pl, pc⟩ c).v) ?_ rfl ⟨rfl, ?_⟩
      · simp [results, Try.results24, go_sem, Pl.v, Pl.next, h10]
      · repeat (first | exact Bel.refl _ | refine Bel.set_ ?_ (by simp) _ | refine Bel.alloc ?_ _ | refine Bel.drew ?_)
    · have e10 : (c == 10) = false := by simpa using h10
      go_wp2
      refine bodyPost_ret (v := (Pl.next ⟨pa, pl, pc⟩ c).v) ?_ rfl ⟨rfl, ?_⟩
      · simp [results, Try.results24, go_sem, Pl.v, Pl.next, h10]
      · repeat (first | exact Bel.refl _ | refine Bel.set_ ?_ (by simp) _ | refine Bel.alloc ?_ _ | refine Bel.drew ?_)
set_option maxHeartbeats 1000000 in
theorem rwidth_any (c : Int) (w : World) : Calls Try.prog 21 #[.int .i64 c] w fun e w' => e = .returned (.int .i64 (wid c)) ∧ w = w' := by
  unfold wid
  go_enter Try.func21, Try.ntmps21
  go_wp2
  all_goals (go_ret; refine ⟨ret_int ?_, rfl⟩; (repeat' split) <;> (first | rfl | omega))
theorem rwidth_still (c : Int) (w : World) : Calls Try.prog 21 #[.int .i64 c] w fun e w' => e = .returned (.int .i64 (wid c)) ∧ w' = w :=
  (rwidth_any c w).mono fun _ _ h => ⟨h.1, h.2.symm⟩
set_option maxHeartbeats 1000000 in
theorem rmay9_any (c : Int) (w : World) : Calls Try.prog 20 #[.int .i64 c] w fun e w' => e = .returned (.bool (cpB c)) ∧ w = w' := by
  go_enter Try.func20, Try.ntmps20
  go_wp2
  all_goals (go_ret; refine ⟨ret_bool ?_, rfl⟩; rw [Bool.eq_iff_iff, cpB_iff]; simp; try omega)

/-- A place and a code point, as they lie in memory. -/
structure Pn where
  r : Int
  p : Pl
deriving DecidableEq

set_option maxHeartbeats 1000000 in
theorem rnext_any {p : Pl} {c : Int} (hp : p.sm 1000000) (w : World) :
    Calls Try.prog 17 #[.agg #[.int .i64 p.a, .int .i64 p.l, .int .i64 p.c], .int .i64 c] w fun e w' => e = .returned (p.next c).v ∧ Bel w w' := by
  obtain ⟨h1, h2, h3, h4, h5, h6⟩ := hp
  have hw := wid_pos c
  obtain ⟨pa, pl, pc⟩ := p
  simp only at h1 h2 h3 h4 h5 h6
  have hx : IntKind.i64.wrap (pa + (wid c : Int)) = pa + (wid c : Int) := IntWalk.i64_in _ (by omega)
  have hy : IntKind.i64.wrap (pc + 1) = pc + 1 := IntWalk.i64_in _ (by omega)
  by_cases h10 : c = 10
  · have e10 : (c == 10) = true := by simpa using h10
    go_enter Try.func17, Try.ntmps17
    go_wp2
    refine bodyPost_ret (v := (Pl.next ⟨pa, pl, pc⟩ c).v) ?_ rfl ⟨rfl, ?_⟩
    · simp [results, Try.results17, go_sem, Pl.v, Pl.next, h10, wid]
    · repeat (first | exact Bel.refl _ | refine Bel.set_ ?_ (by simp) _ | refine Bel.alloc ?_ _ | refine Bel.drew ?_)
  · have e10 : (c == 10) = false := by simpa using h10
    go_enter Try.func17, Try.ntmps17
    go_wp2_with fail
    refine wp_region_still_tail 11 (by kernel_rfl) (by kernel_rfl) ?_
    simp only [List.take_succ_cons, List.take_zero, List.drop_succ_cons, List.drop_zero]
    obtain ⟨W, hW⟩ : ∃ W, ((w.alloc (.cells #[.int .i64 pa, .int .i64 pl, .int .i64 pc] 26)).alloc (.cells #[.int .i64 0, .int .i64 0, .int .i64 0] 26)).drew = W := ⟨_, rfl⟩
    change wpStill _ _ (World.drew ((w.alloc (.cells #[.int .i64 pa, .int .i64 pl, .int .i64 pc] 26)).alloc (.cells #[.int .i64 0, .int .i64 0, .int .i64 0] 26))) _ _ _
    rw [hW]
    have hb : Bel w W := by rw [← hW]; exact (((Bel.refl w).alloc _).alloc _).drew
    obtain ⟨k0, k1, k2, -, -, -⟩ := cells3 (w := W) (g := w.heap.size) (x := .int .i64 pa) (y := .int .i64 pl) (z := .int .i64 pc) (t := 26) (by rw [← hW]; exact (blk2 w _ _).1)
    obtain ⟨z0, z1, z2, f0, f1, f2⟩ := cells3 (w := W) (g := w.heap.size + 1) (x := .int .i64 0) (y := .int .i64 0) (z := .int .i64 0) (t := 26) (by rw [← hW]; exact (blk2 w _ _).2)
    have hs : w.heap.size + 1 < W.heap.size := by rw [← hW]; simp
    have HW := Lib.hid hW
    clear hW
    repeat still_step
    still_call (rwidth_still _ _)
    repeat still_step
    refine wpStill_nil ?_
    change wpList _ _ _ _ _ (World.drew ((w.alloc (.cells #[.int .i64 pa, .int .i64 pl, .int .i64 pc] 26)).alloc (.cells #[.int .i64 0, .int .i64 0, .int .i64 0] 26)))
    rw [HW.out]
    have HB := Lib.hid hb
    clear hb HW
    go_wp2
    refine bodyPost_ret (v := (Pl.next ⟨pa, pl, pc⟩ c).v) ?_ rfl ⟨rfl, ?_⟩
    · simp [results, Try.results17, go_sem, Pl.v, Pl.next, h10, z0, z1, z2]
    · repeat (first | exact HB.out | refine Bel.set_ ?_ (by simp) _)
theorem enc_eq (c : Int) : (⟨(enc c).toArray⟩ : ByteArray) = Utf8.encode c := by unfold enc; simp
/-- Bytes in memory, as a string. -/
theorem bytes_str {w : World} {g : Nat} {t : TypeId} (ns : List Int) (h : w.heap[g]? = some (.cells (ns.map (Value.int .u8)).toArray t (0, 0))) (n : Nat) (hn : n = ns.length) (c : Nat) :
    (convert 55 9 (.slice (some ⟨g, 0, none⟩) n c)).run Try.prog w = .ok (.string ⟨(ns.map fun x => UInt8.ofNat x.toNat).toArray⟩) w := by
  subst hn
  rw [run_convert_bytes_string w _ _ 5 _ _ _ Try.underlying55 Try.underlying5 Try.underlying9]
  rw [run_bytesToString w _ _ _ ns]
  · congr 2
    have : ∀ (l : List Int) (r : ByteArray), l.foldl (fun r n => r.push (UInt8.ofNat n.toNat)) r = ⟨r.data ++ (l.map fun x => UInt8.ofNat x.toNat).toArray⟩ := by
      intro l
      induction l with
      | nil => intro r; simp
      | cons x l ih => intro r; simp only [List.foldl_cons, ih]; simp [ByteArray.push]
    rw [this]
    simp
  · rw [run_loadCells w _ _ (fun j => (ns.map (Value.int .u8)).getD j undef)]
    · congr 1
      apply Array.ext'
      apply List.ext_getElem
      · simp
      · intro i h1 h2; simp at h1 h2; simp [h2]
    · intro j hj
      rw [Addr.add_lit]
      simp [World.cell?, h, hj]
theorem info_u8 : (Try.prog.info? 5).map (fun i => (i.zero, i.size, i.bytes)) = some (some (.int .u8 0), 1, 1) := by kernel_rfl
theorem mk_u8 (n : Nat) (hn : n ≤ 4) (W : World) : (Instr.makeSlice 55 (.int .i64 n) (.int .i64 n)).run Try.prog W = .ok (.slice (some ⟨W.heap.size, 0, none⟩) n n) (W.alloc (.cells (madeCells #[.int .u8 0] n) 5)) :=
  run_make_row' (P := Try.prog) 55 5 (.int .u8 0) 1 Try.underlying55 info_u8 rfl .i64 .i64 n (by omega) (by omega) W
end Go.Proofs.Ytaiogbokmglofaa.Mu

