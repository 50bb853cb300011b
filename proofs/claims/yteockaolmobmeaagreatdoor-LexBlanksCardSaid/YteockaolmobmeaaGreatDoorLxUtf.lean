/-
  Layer 9's small functions, walked: the place behind a code point, how many bytes a code point has, its bytes; the document's own of these.
  A code point's bytes, as the document's own function tells them.
  A drawn region whose operations read, or lay memory of their own, walked once in the text's order.
  The document's One: the code point whose bytes stand at a place, or none.
  Points in memory; what a text is: too long, code points, or code points and then bytes that are none.
  utf.read, walked: the code points with their places, and the place behind the last one; or the error.
  What two places, two errors with places, two points compare to.
  Points and End of utf, and the document's Points, walked; whether two lists of points are one.
  The document's Points, walked; whether two lists of points are one.
  Put of utf, and the document's Put, walked.
-/
import Derived.Test.YteockaolmobmeaaGreatDoorUtfMath
import Derived.Test.YteockaolmobmeaaGreatDoorLxBase
import Derived.Test.YteockaolmobmeaaGreatDoorShelf
import Derived.Lib.Small
import Derived.WalkKit
import Derived.Deep.QuietTactic
import Derived.BigQuiet
import Derived.StillTailTactics
import Derived.Laws.StructEq
import Derived.IntWalk
import Derived.WalkLawsBesides
import Derived.Laws.BytesString
import Derived.Deep.OwnRows
import Derived.LoopN
import Derived.Lib.Strings
import Derived.Laws.DeepStrings4
import Derived.Lib.OthersKept
import Derived.WalkSpells
import Derived.Laws.Cover4
import Derived.Laws.Concat
namespace Go.Proofs.YteockaolmobmeaaGreatDoor.Mu
open Go.RowKit Go.Shelf
set_option maxRecDepth 100000

/-- A place. -/
structure Pl where
  a : Int
  l : Int
  c : Int
deriving DecidableEq
def Pl.next (p : Pl) (x : Int) : Pl := if x = 10 then ⟨p.a + wid x, p.l + 1, 1⟩ else ⟨p.a + wid x, p.l, p.c + 1⟩
def Pl.v (p : Pl) : Value := .agg #[.int .i64 p.a, .int .i64 p.l, .int .i64 p.c]
/-- A place's numbers are small. -/
def Pl.sm (p : Pl) (b : Int) : Prop := 0 ≤ p.a ∧ p.a ≤ b ∧ 0 ≤ p.l ∧ p.l ≤ b ∧ 0 ≤ p.c ∧ p.c ≤ b
theorem Pl.sm_next {p : Pl} {b x : Int} (h : p.sm b) : (p.next x).sm (b + 4) := by
  have hw := wid_pos x
  obtain ⟨h1, h2, h3, h4, h5, h6⟩ := h
  unfold Pl.next Pl.sm
  split <;> refine ⟨?_, ?_, ?_, ?_, ?_, ?_⟩ <;> simp <;> omega
theorem runeLen_wid {c : Int} (h : cpB c = true) : Lib.runeLen c = (wid c : Int) := by
  have h := (cpB_iff c).1 h
  unfold Lib.runeLen wid
  repeat' split
  all_goals omega
theorem validRune_cp (c : Int) : Lib.validRune c = cpB c := by
  rw [Bool.eq_iff_iff, cpB_iff]; simp [Lib.validRune]; omega
theorem ret_bool {a b : Bool} (h : a = b) : Ending.returned (.bool a) = .returned (.bool b) := by rw [h]
theorem ret_int {k : IntKind} {a b : Int} (h : a = b) : Ending.returned (.int k a) = .returned (.int k b) := by rw [h]
theorem rl_still {c : Int} (hc : cpB c = true) (w : World) : Calls Tryz.prog 88 #[.int .i32 c] w fun e w' => e = .returned (.int .i64 (wid c)) ∧ w' = w :=
  (Tryz.utf8_RuneLen c w).mono fun _ _ h => ⟨by rw [h.1, runeLen_wid hc], h.2⟩
theorem rl_any {c : Int} (hc : cpB c = true) (w : World) : Calls Tryz.prog 88 #[.int .i32 c] w fun e w' => e = .returned (.int .i64 (wid c)) ∧ w = w' :=
  (Tryz.utf8_RuneLen c w).mono fun _ _ h => ⟨by rw [h.1, runeLen_wid hc], h.2.symm⟩
theorem vr_any (c : Int) (w : World) : Calls Tryz.prog 103 #[.int .i32 c] w fun e w' => e = .returned (.bool (cpB c)) ∧ w = w' :=
  (Tryz.utf8_ValidRune c w).mono fun _ _ h => ⟨by rw [h.1, validRune_cp], h.2.symm⟩

set_option maxHeartbeats 1000000 in
theorem behind_any {p : Pl} {c : Int} (hc : cpB c = true) (hp : p.sm 1000000) (w : World) :
    Calls Tryz.prog 70 #[.agg #[.int .i64 p.a, .int .i64 p.l, .int .i64 p.c], .int .i32 c] w fun e w' => e = .returned (p.next c).v ∧ Bel w w' := by
  obtain ⟨h1, h2, h3, h4, h5, h6⟩ := hp
  have hw := wid_pos c
  obtain ⟨pa, pl, pc⟩ := p
  simp only at h1 h2 h3 h4 h5 h6
  have HC := Lib.hid hc
  have hx : IntKind.i64.wrap (pa + (wid c : Int)) = pa + (wid c : Int) := IntWalk.i64_in _ (by omega)
  clear hc
  go_enter Tryz.func70, Tryz.ntmps70
  go_wp2_with fail
  go_region_with (go_at_call 88; refine (rl_any HC.out _).mono ?_; rintro e w1 ⟨rfl, rfl⟩)
  all_goals
    by_cases h10 : c = 10
    · have e10 : (c == 10) = true := by simpa using h10
      go_wp2
      refine bodyPost_ret (v := (Pl.next ⟨pa, pl, pc⟩ c).v) ?_ rfl ⟨rfl, ?_⟩
      · simp [results, Tryz.results70, go_sem, Pl.v, Pl.next, h10]
      · repeat (first | exact Bel.refl _ | refine Bel.set_ ?_ (by simp) _ | refine Bel.alloc ?_ _ | refine Bel.drew ?_)
    · have e10 : (c == 10) = false := by simpa using h10
      go_wp2
      refine bodyPost_ret (v := (Pl.next ⟨pa, pl, pc⟩ c).v) ?_ rfl ⟨rfl, ?_⟩
      · simp [results, Tryz.results70, go_sem, Pl.v, Pl.next, h10]
      · repeat (first | exact Bel.refl _ | refine Bel.set_ ?_ (by simp) _ | refine Bel.alloc ?_ _ | refine Bel.drew ?_)
set_option maxHeartbeats 1000000 in
theorem rwidth_any (c : Int) (w : World) : Calls Tryz.prog 69 #[.int .i64 c] w fun e w' => e = .returned (.int .i64 (wid c)) ∧ w = w' := by
  unfold wid
  go_enter Tryz.func69, Tryz.ntmps69
  go_wp2
  all_goals (go_ret; refine ⟨ret_int ?_, rfl⟩; (repeat' split) <;> (first | rfl | omega))
theorem rwidth_still (c : Int) (w : World) : Calls Tryz.prog 69 #[.int .i64 c] w fun e w' => e = .returned (.int .i64 (wid c)) ∧ w' = w :=
  (rwidth_any c w).mono fun _ _ h => ⟨h.1, h.2.symm⟩
set_option maxHeartbeats 1000000 in
theorem rmay9_any (c : Int) (w : World) : Calls Tryz.prog 86 #[.int .i64 c] w fun e w' => e = .returned (.bool (cpB c)) ∧ w = w' := by
  go_enter Tryz.func86, Tryz.ntmps86
  go_wp2
  all_goals (go_ret; refine ⟨ret_bool ?_, rfl⟩; rw [Bool.eq_iff_iff, cpB_iff]; simp; try omega)

/-- A place and a code point, as they lie in memory. -/
structure Pn where
  r : Int
  p : Pl
deriving DecidableEq

theorem enc_eq (c : Int) : (⟨(enc c).toArray⟩ : ByteArray) = Utf8.encode c := by unfold enc; simp
/-- Bytes in memory, as a string. -/
theorem bytes_str {w : World} {g : Nat} {t : TypeId} (ns : List Int) (h : w.heap[g]? = some (.cells (ns.map (Value.int .u8)).toArray t (0, 0))) (n : Nat) (hn : n = ns.length) (c : Nat) :
    (convert 40 9 (.slice (some ⟨g, 0, none⟩) n c)).run Tryz.prog w = .ok (.string ⟨(ns.map fun x => UInt8.ofNat x.toNat).toArray⟩) w := by
  subst hn
  rw [run_convert_bytes_string w _ _ 5 _ _ _ Tryz.underlying40 Tryz.underlying5 Tryz.underlying9]
  rw [run_bytesToString w _ _ _ ns]
  · congr 2
    have : ∀ (l : List Int) (r : ByteArray), l.foldl (fun r n => r.push (UInt8.ofNat n.toNat)) r = ⟨r.data ++ (l.map fun x => UInt8.ofNat x.toNat).toArray⟩ := by
      intro l
      induction l with
      | nil => intro r; simp
      | cons x l ih => intro r; simp only [List.foldl_cons, ih]; simp [ByteArray.push]
    rw [this]
    simp
  · rw [run_loadCells w _ _ (fun j => (ns.map (Value.int .u8)).getD j undef)]
    · congr 1
      apply Array.ext'
      apply List.ext_getElem
      · simp
      · intro i h1 h2; simp at h1 h2; simp [h2]
    · intro j hj
      rw [Addr.add_lit]
      simp [World.cell?, h, hj]
theorem info_u8 : (Tryz.prog.info? 5).map (fun i => (i.zero, i.size, i.bytes)) = some (some (.int .u8 0), 1, 1) := by kernel_rfl
theorem mk_u8 (n : Nat) (hn : n ≤ 4) (W : World) : (Instr.makeSlice 40 (.int .i64 n) (.int .i64 n)).run Tryz.prog W = .ok (.slice (some ⟨W.heap.size, 0, none⟩) n n) (W.alloc (.cells (madeCells #[.int .u8 0] n) 5)) :=
  run_make_row' (P := Tryz.prog) 40 5 (.int .u8 0) 1 Tryz.underlying40 info_u8 rfl .i64 .i64 n (by omega) (by omega) W
end Go.Proofs.YteockaolmobmeaaGreatDoor.Mu
namespace Go.Proofs.YteockaolmobmeaaGreatDoor.Mu
open Go.RowKit Go.Shelf
set_option maxRecDepth 100000

set_option maxHeartbeats 1000000 in
theorem rbytes_any {c : Int} (hc : cpB c = true) (w : World) :
    Calls Tryz.prog 87 #[.int .i64 c] w fun e w' => e = .returned (.string (Utf8.encode c)) ∧ Bel w w' := by
  have hb := (cpB_iff c).1 hc
  have h0 : 0 ≤ c := by omega
  have h9 : c ≤ 1114111 := by omega
  have HC := Lib.hid hc
  clear hc hb
  rcases Int.lt_or_le c 128 with h1 | h1
  · have hw : wid c = 1 := by unfold wid; rw [if_pos h1]
    go_enter Tryz.func87, Tryz.ntmps87
    go_wp2_with (go_at_call 69; refine (rwidth_any _ _).mono ?_; rintro e w1 ⟨rfl, rfl⟩)
    rw [bytes_str (t := 5) [c] (by simpa using blk1 w _) 1 rfl 1]
    go_wp2
    go_ret
    refine ⟨?_, (Bel.refl _).alloc _⟩
    rw [← enc_eq c, enc1 h0 h1]
    rfl
  rcases Int.lt_or_le c 2048 with h2 | h2
  · have hw : wid c = 2 := by unfold wid; rw [if_neg (by omega), if_pos h2]
    have hmk : (Instr.makeSlice 40 (.int .i64 2) (.int .i64 2)).run Tryz.prog w = .ok (.slice (some ⟨w.heap.size, 0, none⟩) 2 2) (w.alloc (.cells #[.int .u8 0, .int .u8 0] 5)) := by
      have h := mk_u8 2 (by omega) w
      rw [show madeCells #[Value.int .u8 0] 2 = #[.int .u8 0, .int .u8 0] by kernel_rfl] at h
      exact h
    go_enter Tryz.func87, Tryz.ntmps87
    go_wp2_with (go_at_call 69; refine (rwidth_any _ _).mono ?_; rintro e w1 ⟨rfl, rfl⟩)
    refine wp_loop_rounds 3 ?_; rw [rounds_succ]
    go_wp2_with (rw [rounds_succ])
    rw [bytes_str (t := 5) [192 + c / 64, 128 + c % 64] (by exact (blk2 w _ _).1) 2 rfl 2]
    go_wp2
    go_ret
    refine ⟨?_, by repeat (first | exact Bel.refl _ | refine Bel.set_ ?_ (by simp) _ | refine Bel.alloc ?_ _)⟩
    rw [← enc_eq c, enc2 h1 h2]
    have e0 : (192 + c / 64).toNat = 192 + c.toNat / 64 := by omega
    have e1 : (128 + c % 64).toNat = 128 + c.toNat % 64 := by omega
    simp only [e0, e1]
    rfl
  rcases Int.lt_or_le c 65536 with h3 | h3
  · have hw : wid c = 3 := by unfold wid; rw [if_neg (by omega), if_neg (by omega), if_pos h3]
    have hmk : (Instr.makeSlice 40 (.int .i64 3) (.int .i64 3)).run Tryz.prog w = .ok (.slice (some ⟨w.heap.size, 0, none⟩) 3 3) (w.alloc (.cells #[.int .u8 0, .int .u8 0, .int .u8 0] 5)) := by
      have h := mk_u8 3 (by omega) w
      rw [show madeCells #[Value.int .u8 0] 3 = #[.int .u8 0, .int .u8 0, .int .u8 0] by kernel_rfl] at h
      exact h
    go_enter Tryz.func87, Tryz.ntmps87
    go_wp2_with (go_at_call 69; refine (rwidth_any _ _).mono ?_; rintro e w1 ⟨rfl, rfl⟩)
    refine wp_loop_rounds 4 ?_; rw [rounds_succ]
    go_wp2_with (rw [rounds_succ])
    rw [bytes_str (t := 5) [224 + c / 64 / 64, 128 + c / 64 % 64, 128 + c % 64] (by exact (blk2 w _ _).1) 3 rfl 3]
    go_wp2
    go_ret
    refine ⟨?_, by repeat (first | exact Bel.refl _ | refine Bel.set_ ?_ (by simp) _ | refine Bel.alloc ?_ _)⟩
    rw [← enc_eq c, enc3 HC.out h2 h3]
    have e0 : (224 + c / 64 / 64).toNat = 224 + c.toNat / 4096 := by omega
    have e1 : (128 + c / 64 % 64).toNat = 128 + c.toNat / 64 % 64 := by omega
    have e2 : (128 + c % 64).toNat = 128 + c.toNat % 64 := by omega
    simp only [e0, e1, e2]
    rfl
  · have hw : wid c = 4 := by unfold wid; rw [if_neg (by omega), if_neg (by omega), if_neg (by omega)]
    have hmk : (Instr.makeSlice 40 (.int .i64 4) (.int .i64 4)).run Tryz.prog w = .ok (.slice (some ⟨w.heap.size, 0, none⟩) 4 4) (w.alloc (.cells #[.int .u8 0, .int .u8 0, .int .u8 0, .int .u8 0] 5)) := by
      have h := mk_u8 4 (by omega) w
      rw [show madeCells #[Value.int .u8 0] 4 = #[.int .u8 0, .int .u8 0, .int .u8 0, .int .u8 0] by kernel_rfl] at h
      exact h
    go_enter Tryz.func87, Tryz.ntmps87
    go_wp2_with (go_at_call 69; refine (rwidth_any _ _).mono ?_; rintro e w1 ⟨rfl, rfl⟩)
    refine wp_loop_rounds 5 ?_; rw [rounds_succ]
    go_wp2_with (rw [rounds_succ])
    rw [bytes_str (t := 5) [240 + c / 64 / 64 / 64, 128 + c / 64 / 64 % 64, 128 + c / 64 % 64, 128 + c % 64] (by exact (blk2 w _ _).1) 4 rfl 4]
    go_wp2
    go_ret
    refine ⟨?_, by repeat (first | exact Bel.refl _ | refine Bel.set_ ?_ (by simp) _ | refine Bel.alloc ?_ _)⟩
    rw [← enc_eq c, enc4 HC.out h3]
    have e0 : (240 + c / 64 / 64 / 64).toNat = 240 + c.toNat / 262144 := by omega
    have e1 : (128 + c / 64 / 64 % 64).toNat = 128 + c.toNat / 4096 % 64 := by omega
    have e2 : (128 + c / 64 % 64).toNat = 128 + c.toNat / 64 % 64 := by omega
    have e3 : (128 + c % 64).toNat = 128 + c.toNat % 64 := by omega
    simp only [e0, e1, e2, e3]
    rfl
end Go.Proofs.YteockaolmobmeaaGreatDoor.Mu
namespace Go.Proofs.YteockaolmobmeaaGreatDoor.Mu
open Go.RowKit

/-- A world in which all that was there is as it was. -/
structure Abv (w : World) where
  wd : World
  bel : Bel w wd
instance (w : World) : Nonempty (Abv w) := ⟨⟨w, Bel.refl w⟩⟩
/-- A region that draws its order and whose operations read, or lay memory of their own, walked once: whatever they lay, what was there is as it was. -/
theorem wp_region_above {P : Program} {id : Nat} {Q : Exit → Act → World → Prop} {a : Act} {w : World} {l : List Oper} (hm : P.follows .mixedOrders = true) (hB : Region.lexB .any l.toArray = true)
    (h : wpQuiet P l.toArray (fun w' => ∃ n : Abv w, w' = n.wd) (fun a' => ∀ w', (∃ n : Abv w, w' = n.wd) → Q .normal a' w') l a) : (Code.region id l.toArray true).wp P Q a w :=
  wp_region_quiet (C := fun w' => ∃ n : Abv w, w' = n.wd) hm hB ⟨⟨_, (Bel.refl w).drew⟩, rfl⟩ (by simpa using h)
end Go.Proofs.YteockaolmobmeaaGreatDoor.Mu
namespace Go.Proofs.YteockaolmobmeaaGreatDoor.Mu
open Go.RowKit Go.Shelf

/-- What One answers: a code point whose bytes stand there; -1 where none's do. -/
def OneP (s : ByteArray) (i : Nat) (w : World) (e : Ending) (w' : World) : Prop :=
  ∃ n : Int, e = .returned (.int .i64 n) ∧ Bel w w' ∧ ((cpB n = true ∧ enc n <+: s.data.toList.drop i) ∨ (n = -1 ∧ ∀ c, cpB c = true → ¬ enc c <+: s.data.toList.drop i))
/-- What the bytes of a code point of a width come to, reckoned back. -/
def backN (s : ByteArray) (i : Nat) : Nat → Int
  | 1 => (s.get! i).toNat
  | 2 => ((s.get! i).toNat - 192 : Int) * 64 + (s.get! (i + 1)).toNat - 128
  | 3 => (((s.get! i).toNat - 224 : Int) * 64 + (s.get! (i + 1)).toNat - 128) * 64 + (s.get! (i + 2)).toNat - 128
  | _ => ((((s.get! i).toNat - 240 : Int) * 64 + (s.get! (i + 1)).toNat - 128) * 64 + (s.get! (i + 2)).toNat - 128) * 64 + (s.get! (i + 3)).toNat - 128
theorem backN_enc {s : ByteArray} {i : Nat} {c : Int} (hc : cpB c = true) (h : enc c <+: s.data.toList.drop i) : backN s i (wid c) = c := by
  have hb := (cpB_iff c).1 hc
  have G := fun j u hj => get_drop h (j := j) (u := u) hj
  unfold wid
  split
  · rw [enc1 (by omega) (by omega)] at G
    obtain ⟨_, g0⟩ := G 0 _ rfl
    have e0 : (s.get! i).toNat = c.toNat := by rw [Nat.add_zero] at g0; rw [g0]; simp; omega
    simp only [backN, e0]; omega
  split
  · rw [enc2 (by omega) (by omega)] at G
    obtain ⟨_, g0⟩ := G 0 _ rfl
    obtain ⟨_, g1⟩ := G 1 _ rfl
    have e0 : (s.get! i).toNat = 192 + c.toNat / 64 := by rw [Nat.add_zero] at g0; rw [g0]; simp; omega
    have e1 : (s.get! (i + 1)).toNat = 128 + c.toNat % 64 := by rw [g1]; simp; omega
    simp only [backN, e0, e1]; omega
  split
  · rw [enc3 hc (by omega) (by omega)] at G
    obtain ⟨_, g0⟩ := G 0 _ rfl
    obtain ⟨_, g1⟩ := G 1 _ rfl
    obtain ⟨_, g2⟩ := G 2 _ rfl
    have e0 : (s.get! i).toNat = 224 + c.toNat / 4096 := by rw [Nat.add_zero] at g0; rw [g0]; simp; omega
    have e1 : (s.get! (i + 1)).toNat = 128 + c.toNat / 64 % 64 := by rw [g1]; simp; omega
    have e2 : (s.get! (i + 2)).toNat = 128 + c.toNat % 64 := by rw [g2]; simp; omega
    simp only [backN, e0, e1, e2]; omega
  · rw [enc4 hc (by omega)] at G
    obtain ⟨_, g0⟩ := G 0 _ rfl
    obtain ⟨_, g1⟩ := G 1 _ rfl
    obtain ⟨_, g2⟩ := G 2 _ rfl
    obtain ⟨_, g3⟩ := G 3 _ rfl
    have e0 : (s.get! i).toNat = 240 + c.toNat / 262144 := by rw [Nat.add_zero] at g0; rw [g0]; simp; omega
    have e1 : (s.get! (i + 1)).toNat = 128 + c.toNat / 4096 % 64 := by rw [g1]; simp; omega
    have e2 : (s.get! (i + 2)).toNat = 128 + c.toNat / 64 % 64 := by rw [g2]; simp; omega
    have e3 : (s.get! (i + 3)).toNat = 128 + c.toNat % 64 := by rw [g3]; simp; omega
    simp only [backN, e0, e1, e2, e3]; omega
/-- Whether the bytes from a place on, so many, are a code point's. -/
theorem pre_ext {s : ByteArray} {i k : Nat} {c : Int} (hk : i + k ≤ s.size) : ((Utf8.encode c).toList == (s.extract i (i + k)).toList) = true ↔ (enc c).length = k ∧ enc c <+: s.data.toList.drop i := by
  have e1 : (s.extract i (i + k)).toList = (s.data.toList.drop i).take k := by
    rw [Lib.extract_toList, show i + k - i = k by omega]
  have e2 : ((s.data.toList.drop i).take k).length = k := by
    rw [List.length_take, List.length_drop, Array.length_toList]
    have : s.data.size = s.size := rfl
    omega
  rw [e1, ByteArray.toList_eq, beq_iff_eq]
  constructor
  · intro h
    have h' : enc c = (s.data.toList.drop i).take k := h
    exact ⟨by rw [h', e2], by rw [h']; exact List.take_prefix _ _⟩
  · rintro ⟨h1, r, h2⟩
    show enc c = _
    rw [← h2, ← h1]; simp
theorem rmay9_yes {c : Int} (h : cpB c = true) (w : World) : Calls Tryz.prog 86 #[.int .i64 c] w fun e w' => e = .returned (.bool true) ∧ w = w' :=
  (rmay9_any c w).mono fun _ _ k => ⟨by rw [k.1, h], k.2⟩
theorem rmay9_no {c : Int} (h : cpB c = false) (w : World) : Calls Tryz.prog 86 #[.int .i64 c] w fun e w' => e = .returned (.bool false) ∧ w = w' :=
  (rmay9_any c w).mono fun _ _ k => ⟨by rw [k.1, h], k.2⟩
/-- Where a code point's bytes stand there is room for them. -/
theorem enc_fits {s : ByteArray} {i : Nat} {c : Int} (hc : cpB c = true) (h : enc c <+: s.data.toList.drop i) : i + wid c ≤ s.size := by
  have h1 := enc_len hc
  have h2 := wid_pos c
  have h3 : (enc c)[wid c - 1]? = some ((enc c)[wid c - 1]'(by omega)) := List.getElem?_eq_getElem (by omega)
  have := (get_drop h h3).1
  omega
theorem ext_run {s : ByteArray} {i k : Nat} (hk : i + k ≤ s.size) {j : Int} (hj : j = (i : Int) + (k : Nat)) (W : World) : (Instr.slice 9 (.string s) (some (.int .i64 (i : Int))) (some (.int .i64 j)) none).run Tryz.prog W = .ok (.string (s.extract i (i + k))) W := by
  rw [run_slice_string_if (h := Tryz.underlying9), if_pos (by omega), if_pos (by omega), show (i : Int).toNat = i by omega, show j.toNat = i + k by omega]
set_option maxRecDepth 100000 in
set_option maxHeartbeats 4000000 in
theorem rone_any {s : ByteArray} {i : Nat} (hi : i < s.size) (hs : s.size ≤ 4000000) (w : World) :
    Calls Tryz.prog 68 #[.string s, .int .i64 i] w (OneP s i w) := by
  go_enter Tryz.func68, Tryz.ntmps68
  go_wp2
  go_loopw [5] (fun v wr => ∃ k : Nat, 1 ≤ k ∧ k ≤ 5 ∧ v = .int .i64 k ∧ Hid (Bel w wr) ∧ Hid (∀ c, cpB c = true → enc c <+: s.data.toList.drop i → k ≤ wid c)) (fun v _ => 5 - (intOf v).toNat)
  case atStart => exact ⟨1, by omega, by omega, rfl, Bel.refl w, fun c _ _ => (wid_pos c).1⟩
  case round =>
    obtain ⟨k, hk1, hk5, rfl, HB, HN⟩ := hrel
    obtain rfl | rfl | rfl | rfl | rfl : k = 1 ∨ k = 2 ∨ k = 3 ∨ k = 4 ∨ k = 5 := by omega
    · -- 1
      have hsz : (i : Int) + 1 ≤ (s.size : Int) := by omega
      have hx0 : ((s[i]'hi).toNat : Int) ≤ 255 := by have := (s[i]'hi).toNat_lt; omega
      go_wp2
      refine wp_loop_rounds 2 ?_; rw [rounds_succ]
      go_wp2_with (rw [rounds_succ])
      have hN : ((s[i]'hi).toNat : Int) = backN s i 1 := by
        have q0 : s.get! i = s[i]'hi := get_at s i hi
        simp only [backN, q0]
      rw [hN]
      obtain ⟨n, hn⟩ : ∃ n, n = backN s i 1 := ⟨_, rfl⟩
      rw [← hn]
      have hsl : ∀ W : World, (Instr.slice 9 (.string s) (some (.int .i64 (i : Int))) (some (.int .i64 ((i : Int) + 1))) none).run Tryz.prog W = .ok (.string (s.extract i (i + 1))) W := fun W => ext_run (k := 1) (by omega) (by omega) W
      have HQ := Lib.hid hn
      clear hN hn hx0
      have hk : i + 1 ≤ s.size := by omega
      have HPE := Lib.hid (@pre_ext s i 1 n hk)
      have HW : Hid (∀ c, cpB c = true → enc c <+: s.data.toList.drop i → 1 + 1 ≤ wid c ∨ (n = c ∧ wid c = 1)) := Lib.hid (by
        intro c hc hp
        have h1 := HN.out c hc hp
        by_cases h2 : wid c = 1
        · exact Or.inr ⟨by have h3 := backN_enc hc hp; rw [h2] at h3; rw [HQ.out, h3], h2⟩
        · exact Or.inl (by omega))
      by_cases hc : cpB n = true
      · refine wp_region_above (by kernel_rfl) (by kernel_rfl) ?_
        have HC := Lib.hid hc
        clear hc
        obtain ⟨qb, hqb⟩ : ∃ qb, qb = ((Utf8.encode n).toList == (s.extract i (i + 1)).toList) := ⟨_, rfl⟩
        have hqb2 := hqb.symm
        clear hqb hk
        repeat (go_big_quiet_step (first | (go_at_call 86; exact (rmay9_yes HC.out _).mono fun e w' h => ⟨h.1, ⟨_, Abv.bel _⟩, h.2.symm⟩) | (go_at_call 87; exact (rbytes_any HC.out _).mono fun e w' h => ⟨h.1, ⟨_, (Abv.bel _).on h.2⟩, rfl⟩)))
        refine wpQuiet_nil ?_
        intro w4 hw4
        have HBE : Hid (Bel w w4) := Lib.hid (by obtain ⟨m, rfl⟩ := hw4; exact (by repeat (first | exact HB.out | refine Bel.alloc ?_ _) : Bel w _).on m.bel)
        have HQB := Lib.hid hqb2
        clear hw4 hqb2
        cases qb
        · go_wp2
          go_roundw
          case rel => exact ⟨2, by omega, by omega, by go_num, HBE.out, fun c hc hp => by
            rcases HW.out c hc hp with h | ⟨rfl, h⟩
            · exact h
            · have := HPE.out.2 ⟨by rw [enc_len hc, h], hp⟩
              rw [HQB.out] at this; cases this⟩
          case measure => (simp [intOf] <;> omega)
        · go_wp2
          go_ret
          exact ⟨n, rfl, HBE.out, Or.inl ⟨HC.out, (HPE.out.1 HQB.out).2⟩⟩
      · have hc : cpB n = false := by simpa using hc
        have HC := Lib.hid hc
        clear hc
        refine wp_region_above (by kernel_rfl) (by kernel_rfl) ?_
        repeat (go_big_quiet_step ((go_at_call 86; exact (rmay9_no HC.out _).mono fun e w' h => ⟨h.1, ⟨_, Abv.bel _⟩, h.2.symm⟩)))
        refine wpQuiet_nil ?_
        intro w4 hw4
        have HBE : Hid (Bel w w4) := Lib.hid (by obtain ⟨m, rfl⟩ := hw4; exact (by repeat (first | exact HB.out | refine Bel.alloc ?_ _) : Bel w _).on m.bel)
        clear hw4
        go_wp2
        go_roundw
        case rel => exact ⟨2, by omega, by omega, by go_num, HBE.out, fun c hc hp => by
          rcases HW.out c hc hp with h | ⟨rfl, h⟩
          · exact h
          · rw [HC.out] at hc; cases hc⟩
        case measure => (simp [intOf] <;> omega)
    · -- 2
      rcases (show (i : Int) + 2 ≤ (s.size : Int) ∨ (s.size : Int) < (i : Int) + 2 by omega) with hsz | hsz
      · have hsz' : i + 2 ≤ s.size := by omega
        have hs1 : i + 1 < s.size := by omega
        have hx0 : ((s[i]'hi).toNat : Int) ≤ 255 := by have := (s[i]'hi).toNat_lt; omega
        have hx1 : ((s[i + 1]'hs1).toNat : Int) ≤ 255 := by have := (s[i + 1]'hs1).toNat_lt; omega
        go_wp2
        refine wp_loop_rounds 3 ?_; rw [rounds_succ]
        go_wp2_with (rw [rounds_succ])
        have hN : (((s[i]'hi).toNat : Int) - 192) * 64 + ((s[i + 1]'hs1).toNat : Int) - 128 = backN s i 2 := by
          have q0 : s.get! i = s[i]'hi := get_at s i hi
          have q1 : s.get! (i + 1) = s[i + 1]'hs1 := get_at s (i + 1) hs1
          simp only [backN, q0, q1]
        rw [hN]
        obtain ⟨n, hn⟩ : ∃ n, n = backN s i 2 := ⟨_, rfl⟩
        rw [← hn]
        have hsl : ∀ W : World, (Instr.slice 9 (.string s) (some (.int .i64 (i : Int))) (some (.int .i64 ((i : Int) + 2))) none).run Tryz.prog W = .ok (.string (s.extract i (i + 2))) W := fun W => ext_run (k := 2) (by omega) (by omega) W
        have HQ := Lib.hid hn
        clear hN hn hx0 hx1
        have hk : i + 2 ≤ s.size := by omega
        have HPE := Lib.hid (@pre_ext s i 2 n hk)
        have HW : Hid (∀ c, cpB c = true → enc c <+: s.data.toList.drop i → 2 + 1 ≤ wid c ∨ (n = c ∧ wid c = 2)) := Lib.hid (by
          intro c hc hp
          have h1 := HN.out c hc hp
          by_cases h2 : wid c = 2
          · exact Or.inr ⟨by have h3 := backN_enc hc hp; rw [h2] at h3; rw [HQ.out, h3], h2⟩
          · exact Or.inl (by omega))
        by_cases hc : cpB n = true
        · refine wp_region_above (by kernel_rfl) (by kernel_rfl) ?_
          have HC := Lib.hid hc
          clear hc
          obtain ⟨qb, hqb⟩ : ∃ qb, qb = ((Utf8.encode n).toList == (s.extract i (i + 2)).toList) := ⟨_, rfl⟩
          have hqb2 := hqb.symm
          clear hqb hk
          repeat (go_big_quiet_step (first | (go_at_call 86; exact (rmay9_yes HC.out _).mono fun e w' h => ⟨h.1, ⟨_, Abv.bel _⟩, h.2.symm⟩) | (go_at_call 87; exact (rbytes_any HC.out _).mono fun e w' h => ⟨h.1, ⟨_, (Abv.bel _).on h.2⟩, rfl⟩)))
          refine wpQuiet_nil ?_
          intro w4 hw4
          have HBE : Hid (Bel w w4) := Lib.hid (by obtain ⟨m, rfl⟩ := hw4; exact (by repeat (first | exact HB.out | refine Bel.alloc ?_ _) : Bel w _).on m.bel)
          have HQB := Lib.hid hqb2
          clear hw4 hqb2
          cases qb
          · go_wp2
            go_roundw
            case rel => exact ⟨3, by omega, by omega, by go_num, HBE.out, fun c hc hp => by
              rcases HW.out c hc hp with h | ⟨rfl, h⟩
              · exact h
              · have := HPE.out.2 ⟨by rw [enc_len hc, h], hp⟩
                rw [HQB.out] at this; cases this⟩
            case measure => (simp [intOf] <;> omega)
          · go_wp2
            go_ret
            exact ⟨n, rfl, HBE.out, Or.inl ⟨HC.out, (HPE.out.1 HQB.out).2⟩⟩
        · have hc : cpB n = false := by simpa using hc
          have HC := Lib.hid hc
          clear hc
          refine wp_region_above (by kernel_rfl) (by kernel_rfl) ?_
          repeat (go_big_quiet_step ((go_at_call 86; exact (rmay9_no HC.out _).mono fun e w' h => ⟨h.1, ⟨_, Abv.bel _⟩, h.2.symm⟩)))
          refine wpQuiet_nil ?_
          intro w4 hw4
          have HBE : Hid (Bel w w4) := Lib.hid (by obtain ⟨m, rfl⟩ := hw4; exact (by repeat (first | exact HB.out | refine Bel.alloc ?_ _) : Bel w _).on m.bel)
          clear hw4
          go_wp2
          go_roundw
          case rel => exact ⟨3, by omega, by omega, by go_num, HBE.out, fun c hc hp => by
            rcases HW.out c hc hp with h | ⟨rfl, h⟩
            · exact h
            · rw [HC.out] at hc; cases hc⟩
          case measure => (simp [intOf] <;> omega)
      · go_wp2
        go_ret
        exact ⟨-1, rfl, HB.out, Or.inr ⟨rfl, fun c hc hp => by
          have h1 := HN.out c hc hp
          have h2 := (wid_pos c).2
          have h3 := enc_fits hc hp; omega⟩⟩
    · -- 3
      rcases (show (i : Int) + 3 ≤ (s.size : Int) ∨ (s.size : Int) < (i : Int) + 3 by omega) with hsz | hsz
      · have hsz' : i + 3 ≤ s.size := by omega
        have hs1 : i + 1 < s.size := by omega
        have hs2 : i + 2 < s.size := by omega
        have hx0 : ((s[i]'hi).toNat : Int) ≤ 255 := by have := (s[i]'hi).toNat_lt; omega
        have hx1 : ((s[i + 1]'hs1).toNat : Int) ≤ 255 := by have := (s[i + 1]'hs1).toNat_lt; omega
        have hx2 : ((s[i + 2]'hs2).toNat : Int) ≤ 255 := by have := (s[i + 2]'hs2).toNat_lt; omega
        go_wp2
        refine wp_loop_rounds 4 ?_; rw [rounds_succ]
        go_wp2_with (rw [rounds_succ])
        have hN : ((((s[i]'hi).toNat : Int) - 224) * 64 + ((s[i + 1]'hs1).toNat : Int) - 128) * 64 + ((s[i + 2]'hs2).toNat : Int) - 128 = backN s i 3 := by
          have q0 : s.get! i = s[i]'hi := get_at s i hi
          have q1 : s.get! (i + 1) = s[i + 1]'hs1 := get_at s (i + 1) hs1
          have q2 : s.get! (i + 2) = s[i + 2]'hs2 := get_at s (i + 2) hs2
          simp only [backN, q0, q1, q2]
        rw [hN]
        obtain ⟨n, hn⟩ : ∃ n, n = backN s i 3 := ⟨_, rfl⟩
        rw [← hn]
        have hsl : ∀ W : World, (Instr.slice 9 (.string s) (some (.int .i64 (i : Int))) (some (.int .i64 ((i : Int) + 3))) none).run Tryz.prog W = .ok (.string (s.extract i (i + 3))) W := fun W => ext_run (k := 3) (by omega) (by omega) W
        have HQ := Lib.hid hn
        clear hN hn hx0 hx1 hx2
        have hk : i + 3 ≤ s.size := by omega
        have HPE := Lib.hid (@pre_ext s i 3 n hk)
        have HW : Hid (∀ c, cpB c = true → enc c <+: s.data.toList.drop i → 3 + 1 ≤ wid c ∨ (n = c ∧ wid c = 3)) := Lib.hid (by
          intro c hc hp
          have h1 := HN.out c hc hp
          by_cases h2 : wid c = 3
          · exact Or.inr ⟨by have h3 := backN_enc hc hp; rw [h2] at h3; rw [HQ.out, h3], h2⟩
          · exact Or.inl (by omega))
        by_cases hc : cpB n = true
        · refine wp_region_above (by kernel_rfl) (by kernel_rfl) ?_
          have HC := Lib.hid hc
          clear hc
          obtain ⟨qb, hqb⟩ : ∃ qb, qb = ((Utf8.encode n).toList == (s.extract i (i + 3)).toList) := ⟨_, rfl⟩
          have hqb2 := hqb.symm
          clear hqb hk
          repeat (go_big_quiet_step (first | (go_at_call 86; exact (rmay9_yes HC.out _).mono fun e w' h => ⟨h.1, ⟨_, Abv.bel _⟩, h.2.symm⟩) | (go_at_call 87; exact (rbytes_any HC.out _).mono fun e w' h => ⟨h.1, ⟨_, (Abv.bel _).on h.2⟩, rfl⟩)))
          refine wpQuiet_nil ?_
          intro w4 hw4
          have HBE : Hid (Bel w w4) := Lib.hid (by obtain ⟨m, rfl⟩ := hw4; exact (by repeat (first | exact HB.out | refine Bel.alloc ?_ _) : Bel w _).on m.bel)
          have HQB := Lib.hid hqb2
          clear hw4 hqb2
          cases qb
          · go_wp2
            go_roundw
            case rel => exact ⟨4, by omega, by omega, by go_num, HBE.out, fun c hc hp => by
              rcases HW.out c hc hp with h | ⟨rfl, h⟩
              · exact h
              · have := HPE.out.2 ⟨by rw [enc_len hc, h], hp⟩
                rw [HQB.out] at this; cases this⟩
            case measure => (simp [intOf] <;> omega)
          · go_wp2
            go_ret
            exact ⟨n, rfl, HBE.out, Or.inl ⟨HC.out, (HPE.out.1 HQB.out).2⟩⟩
        · have hc : cpB n = false := by simpa using hc
          have HC := Lib.hid hc
          clear hc
          refine wp_region_above (by kernel_rfl) (by kernel_rfl) ?_
          repeat (go_big_quiet_step ((go_at_call 86; exact (rmay9_no HC.out _).mono fun e w' h => ⟨h.1, ⟨_, Abv.bel _⟩, h.2.symm⟩)))
          refine wpQuiet_nil ?_
          intro w4 hw4
          have HBE : Hid (Bel w w4) := Lib.hid (by obtain ⟨m, rfl⟩ := hw4; exact (by repeat (first | exact HB.out | refine Bel.alloc ?_ _) : Bel w _).on m.bel)
          clear hw4
          go_wp2
          go_roundw
          case rel => exact ⟨4, by omega, by omega, by go_num, HBE.out, fun c hc hp => by
            rcases HW.out c hc hp with h | ⟨rfl, h⟩
            · exact h
            · rw [HC.out] at hc; cases hc⟩
          case measure => (simp [intOf] <;> omega)
      · go_wp2
        go_ret
        exact ⟨-1, rfl, HB.out, Or.inr ⟨rfl, fun c hc hp => by
          have h1 := HN.out c hc hp
          have h2 := (wid_pos c).2
          have h3 := enc_fits hc hp; omega⟩⟩
    · -- 4
      rcases (show (i : Int) + 4 ≤ (s.size : Int) ∨ (s.size : Int) < (i : Int) + 4 by omega) with hsz | hsz
      · have hsz' : i + 4 ≤ s.size := by omega
        have hs1 : i + 1 < s.size := by omega
        have hs2 : i + 2 < s.size := by omega
        have hs3 : i + 3 < s.size := by omega
        have hx0 : ((s[i]'hi).toNat : Int) ≤ 255 := by have := (s[i]'hi).toNat_lt; omega
        have hx1 : ((s[i + 1]'hs1).toNat : Int) ≤ 255 := by have := (s[i + 1]'hs1).toNat_lt; omega
        have hx2 : ((s[i + 2]'hs2).toNat : Int) ≤ 255 := by have := (s[i + 2]'hs2).toNat_lt; omega
        have hx3 : ((s[i + 3]'hs3).toNat : Int) ≤ 255 := by have := (s[i + 3]'hs3).toNat_lt; omega
        go_wp2
        refine wp_loop_rounds 5 ?_; rw [rounds_succ]
        go_wp2_with (rw [rounds_succ])
        have hN : (((((s[i]'hi).toNat : Int) - 240) * 64 + ((s[i + 1]'hs1).toNat : Int) - 128) * 64 + ((s[i + 2]'hs2).toNat : Int) - 128) * 64 + ((s[i + 3]'hs3).toNat : Int) - 128 = backN s i 4 := by
          have q0 : s.get! i = s[i]'hi := get_at s i hi
          have q1 : s.get! (i + 1) = s[i + 1]'hs1 := get_at s (i + 1) hs1
          have q2 : s.get! (i + 2) = s[i + 2]'hs2 := get_at s (i + 2) hs2
          have q3 : s.get! (i + 3) = s[i + 3]'hs3 := get_at s (i + 3) hs3
          simp only [backN, q0, q1, q2, q3]
        rw [hN]
        obtain ⟨n, hn⟩ : ∃ n, n = backN s i 4 := ⟨_, rfl⟩
        rw [← hn]
        have hsl : ∀ W : World, (Instr.slice 9 (.string s) (some (.int .i64 (i : Int))) (some (.int .i64 ((i : Int) + 4))) none).run Tryz.prog W = .ok (.string (s.extract i (i + 4))) W := fun W => ext_run (k := 4) (by omega) (by omega) W
        have HQ := Lib.hid hn
        clear hN hn hx0 hx1 hx2 hx3
        have hk : i + 4 ≤ s.size := by omega
        have HPE := Lib.hid (@pre_ext s i 4 n hk)
        have HW : Hid (∀ c, cpB c = true → enc c <+: s.data.toList.drop i → 4 + 1 ≤ wid c ∨ (n = c ∧ wid c = 4)) := Lib.hid (by
          intro c hc hp
          have h1 := HN.out c hc hp
          by_cases h2 : wid c = 4
          · exact Or.inr ⟨by have h3 := backN_enc hc hp; rw [h2] at h3; rw [HQ.out, h3], h2⟩
          · exact Or.inl (by omega))
        by_cases hc : cpB n = true
        · refine wp_region_above (by kernel_rfl) (by kernel_rfl) ?_
          have HC := Lib.hid hc
          clear hc
          obtain ⟨qb, hqb⟩ : ∃ qb, qb = ((Utf8.encode n).toList == (s.extract i (i + 4)).toList) := ⟨_, rfl⟩
          have hqb2 := hqb.symm
          clear hqb hk
          repeat (go_big_quiet_step (first | (go_at_call 86; exact (rmay9_yes HC.out _).mono fun e w' h => ⟨h.1, ⟨_, Abv.bel _⟩, h.2.symm⟩) | (go_at_call 87; exact (rbytes_any HC.out _).mono fun e w' h => ⟨h.1, ⟨_, (Abv.bel _).on h.2⟩, rfl⟩)))
          refine wpQuiet_nil ?_
          intro w4 hw4
          have HBE : Hid (Bel w w4) := Lib.hid (by obtain ⟨m, rfl⟩ := hw4; exact (by repeat (first | exact HB.out | refine Bel.alloc ?_ _) : Bel w _).on m.bel)
          have HQB := Lib.hid hqb2
          clear hw4 hqb2
          cases qb
          · go_wp2
            go_roundw
            case rel => exact ⟨5, by omega, by omega, by go_num, HBE.out, fun c hc hp => by
              rcases HW.out c hc hp with h | ⟨rfl, h⟩
              · exact h
              · have := HPE.out.2 ⟨by rw [enc_len hc, h], hp⟩
                rw [HQB.out] at this; cases this⟩
            case measure => (simp [intOf] <;> omega)
          · go_wp2
            go_ret
            exact ⟨n, rfl, HBE.out, Or.inl ⟨HC.out, (HPE.out.1 HQB.out).2⟩⟩
        · have hc : cpB n = false := by simpa using hc
          have HC := Lib.hid hc
          clear hc
          refine wp_region_above (by kernel_rfl) (by kernel_rfl) ?_
          repeat (go_big_quiet_step ((go_at_call 86; exact (rmay9_no HC.out _).mono fun e w' h => ⟨h.1, ⟨_, Abv.bel _⟩, h.2.symm⟩)))
          refine wpQuiet_nil ?_
          intro w4 hw4
          have HBE : Hid (Bel w w4) := Lib.hid (by obtain ⟨m, rfl⟩ := hw4; exact (by repeat (first | exact HB.out | refine Bel.alloc ?_ _) : Bel w _).on m.bel)
          clear hw4
          go_wp2
          go_roundw
          case rel => exact ⟨5, by omega, by omega, by go_num, HBE.out, fun c hc hp => by
            rcases HW.out c hc hp with h | ⟨rfl, h⟩
            · exact h
            · rw [HC.out] at hc; cases hc⟩
          case measure => (simp [intOf] <;> omega)
      · go_wp2
        go_ret
        exact ⟨-1, rfl, HB.out, Or.inr ⟨rfl, fun c hc hp => by
          have h1 := HN.out c hc hp
          have h2 := (wid_pos c).2
          have h3 := enc_fits hc hp; omega⟩⟩
    · go_wp2
      go_ret
      exact ⟨-1, rfl, HB.out, Or.inr ⟨rfl, fun c hc hp => by
        have h1 := HN.out c hc hp
        have h2 := (wid_pos c).2
        omega⟩⟩
end Go.Proofs.YteockaolmobmeaaGreatDoor.Mu
namespace Go.Proofs.YteockaolmobmeaaGreatDoor.Mu
open Go.RowKit Go.Shelf
set_option maxRecDepth 100000

def Pn.cells (x : Pn) : List Value := [.int .i32 x.r, .int .i64 x.p.a, .int .i64 x.p.l, .int .i64 x.p.c]
def flatP (xs : List Pn) : List Value := xs.flatMap Pn.cells
theorem flatP_len (xs : List Pn) : (flatP xs).length = xs.length * 4 := by
  induction xs with
  | nil => rfl
  | cons x xs ih => simp only [flatP, List.flatMap_cons, List.length_append, List.length_cons, Pn.cells, List.length_nil] at *; omega
theorem flatP_snoc (xs : List Pn) (x : Pn) : flatP (xs ++ [x]) = flatP xs ++ x.cells := by simp [flatP]
theorem own_nP {w : World} {base n c : Nat} {e : TypeId} {A : Option Addr} {xs : List Pn} (h : w.ownsRow base e 4 (.slice A n c) n (flatP xs)) : n = xs.length := by
  have h1 := h.1; rw [flatP_len] at h1; omega

/-- A slice value reads as a list of points. -/
def RP (w : World) (B : Nat) (A : Option Addr) (n : Nat) (xs : List Pn) : Prop :=
  n = xs.length ∧ (0 < n → ∃ b off, A = some ⟨b, off, none⟩ ∧ b < B ∧ ∀ (k : Nat) (x : Pn), xs[k]? = some x → w.cell? ⟨b, off + k * 4, none⟩ = some (.int .i32 x.r) ∧ w.cell? ⟨b, off + k * 4 + 1, none⟩ = some (.int .i64 x.p.a) ∧ w.cell? ⟨b, off + k * 4 + 2, none⟩ = some (.int .i64 x.p.l) ∧ w.cell? ⟨b, off + k * 4 + 3, none⟩ = some (.int .i64 x.p.c))
section
variable {w w' : World} {B B' n : Nat} {A : Option Addr} {xs : List Pn}
theorem RP.nil_ : RP w B A 0 [] := ⟨rfl, fun h => absurd h (by omega)⟩
theorem RP.len (h : RP w B A n xs) : n = xs.length := h.1
theorem RP.at_ (h : RP w B A n xs) (hn : 0 < n) : ∃ b off, A = some ⟨b, off, none⟩ ∧ b < B ∧ ∀ (k : Nat) (x : Pn), xs[k]? = some x → w.cell? ⟨b, off + k * 4, none⟩ = some (.int .i32 x.r) ∧ w.cell? ⟨b, off + k * 4 + 1, none⟩ = some (.int .i64 x.p.a) ∧ w.cell? ⟨b, off + k * 4 + 2, none⟩ = some (.int .i64 x.p.l) ∧ w.cell? ⟨b, off + k * 4 + 3, none⟩ = some (.int .i64 x.p.c) := h.2 hn
theorem RP.keep (h : RP w B A n xs) (hk : ∀ b o, b < B → w'.cell? ⟨b, o, none⟩ = w.cell? ⟨b, o, none⟩) : RP w' B A n xs :=
  ⟨h.1, fun hn => by
    obtain ⟨b, off, e, hb, hc⟩ := h.2 hn
    exact ⟨b, off, e, hb, fun k x hx => by rw [hk _ _ hb, hk _ _ hb, hk _ _ hb, hk _ _ hb]; exact hc k x hx⟩⟩
theorem RP.more (h : RP w B A n xs) (hB : B ≤ B') : RP w B' A n xs :=
  ⟨h.1, fun hn => by
    obtain ⟨b, off, e, hb, hc⟩ := h.2 hn
    exact ⟨b, off, e, by omega, hc⟩⟩
theorem RP.bel (h : RP w w.heap.size A n xs) (hb : Bel w w') : RP w' w'.heap.size A n xs := (h.keep fun b o hp => hb.cell (p := ⟨b, o, none⟩) hp).more hb.size
theorem flatP_get : ∀ (xs : List Pn) (k : Nat) (x : Pn), xs[k]? = some x → (flatP xs)[k * 4]? = some (.int .i32 x.r) ∧ (flatP xs)[k * 4 + 1]? = some (.int .i64 x.p.a) ∧ (flatP xs)[k * 4 + 2]? = some (.int .i64 x.p.l) ∧ (flatP xs)[k * 4 + 3]? = some (.int .i64 x.p.c)
  | [], k, x, h => by simp at h
  | y :: xs, 0, x, h => by
    simp at h; subst h
    simp [flatP, Pn.cells]
  | y :: xs, k + 1, x, h => by
    have ih := flatP_get xs k x (by simpa using h)
    have e : flatP (y :: xs) = y.cells ++ flatP xs := by simp [flatP]
    have hl : y.cells.length = 4 := rfl
    rw [e]
    refine ⟨?_, ?_, ?_, ?_⟩
    · rw [List.getElem?_append_right (by omega), hl, show (k + 1) * 4 - 4 = k * 4 by omega]; exact ih.1
    · rw [List.getElem?_append_right (by omega), hl, show (k + 1) * 4 + 1 - 4 = k * 4 + 1 by omega]; exact ih.2.1
    · rw [List.getElem?_append_right (by omega), hl, show (k + 1) * 4 + 2 - 4 = k * 4 + 2 by omega]; exact ih.2.2.1
    · rw [List.getElem?_append_right (by omega), hl, show (k + 1) * 4 + 3 - 4 = k * 4 + 3 by omega]; exact ih.2.2.2
theorem RP.of_own {base c : Nat} {e : TypeId} (h : w.ownsRow base e 4 (.slice A n c) n (flatP xs)) : RP w w.heap.size A n xs := by
  refine ⟨own_nP h, fun hn => ?_⟩
  obtain ⟨g, cap, hv, _, hlt⟩ := h.form hn
  have hA : A = some ⟨g, 0, none⟩ := by injection hv
  subst hA
  refine ⟨g, 0, rfl, hlt, fun k x hx => ?_⟩
  obtain ⟨a0, a1, a2, a3⟩ := flatP_get xs k x hx
  have c0 := h.cells (g := g) rfl _ _ a0
  have c1 := h.cells (g := g) rfl _ _ a1
  have c2 := h.cells (g := g) rfl _ _ a2
  have c3 := h.cells (g := g) rfl _ _ a3
  rw [Addr.add_lit] at c0 c1 c2 c3
  exact ⟨c0, by rw [Nat.add_assoc]; exact c1, by rw [Nat.add_assoc]; exact c2, by rw [Nat.add_assoc]; exact c3⟩
end

/-- Code points with their places. -/
def place (p : Pl) : List Int → List Pn
  | [] => []
  | c :: cs => ⟨c, p⟩ :: place (p.next c) cs
def ends (p : Pl) (cs : List Int) : Pl := cs.foldl Pl.next p
theorem ends_snoc (p : Pl) (cs : List Int) (c : Int) : ends p (cs ++ [c]) = (ends p cs).next c := by simp [ends]
theorem ends_app (p : Pl) (cs ds : List Int) : ends p (cs ++ ds) = ends (ends p cs) ds := by simp [ends]
theorem place_app : ∀ (p : Pl) (cs ds : List Int), place p (cs ++ ds) = place p cs ++ place (ends p cs) ds
  | p, [], ds => rfl
  | p, c :: cs, ds => by
    show _ :: place (p.next c) (cs ++ ds) = _
    rw [place_app (p.next c) cs ds]; rfl
theorem place_snoc (p : Pl) (cs : List Int) (c : Int) : place p (cs ++ [c]) = place p cs ++ [⟨c, ends p cs⟩] := by rw [place_app]; rfl
theorem place_len : ∀ (p : Pl) (cs : List Int), (place p cs).length = cs.length
  | _, [] => rfl
  | p, c :: cs => by show (place (p.next c) cs).length + 1 = _; rw [place_len]; rfl
theorem place_get : ∀ (p : Pl) (cs : List Int) (k : Nat) (c : Int), cs[k]? = some c → (place p cs)[k]? = some ⟨c, ends p (cs.take k)⟩
  | p, d :: cs, 0, c, h => by simp at h; subst h; rfl
  | p, d :: cs, k + 1, c, h => by
    have := place_get (p.next d) cs k c (by simpa using h)
    simpa [place, ends] using this
def p0 : Pl := ⟨0, 1, 1⟩
def AllCp (cs : List Int) : Prop := ∀ c ∈ cs, cpB c = true
theorem AllCp.cons {c : Int} {cs : List Int} (h : AllCp (c :: cs)) : cpB c = true ∧ AllCp cs := ⟨h c (by simp), fun d hd => h d (by simp [hd])⟩
theorem AllCp.take {cs : List Int} (h : AllCp cs) (k : Nat) : AllCp (cs.take k) := fun c hc => h c (List.mem_of_mem_take hc)
theorem AllCp.app {cs ds : List Int} (h : AllCp cs) (k : AllCp ds) : AllCp (cs ++ ds) := fun c hc => (List.mem_append.1 hc).elim (h c) (k c)
theorem encs_cons (c : Int) (cs : List Int) : encs (c :: cs) = enc c ++ encs cs := rfl
theorem encs_app (cs ds : List Int) : encs (cs ++ ds) = encs cs ++ encs ds := by simp [encs]
theorem encs_len_ge {cs : List Int} (h : AllCp cs) : cs.length ≤ (encs cs).length := by
  induction cs with
  | nil => simp
  | cons c cs ih =>
    have h1 := enc_len h.cons.1
    have h2 := wid_pos c
    have := ih h.cons.2
    rw [encs_cons, List.length_append, List.length_cons]; omega
/-- The places' numbers, by the bytes ahead. -/
theorem ends_a {cs : List Int} (h : AllCp cs) (p : Pl) : (ends p cs).a = p.a + ((encs cs).length : Int) := by
  induction cs generalizing p with
  | nil => simp [ends, encs]
  | cons c cs ih =>
    have h1 := enc_len h.cons.1
    have e : (p.next c).a = p.a + wid c := by unfold Pl.next; split <;> rfl
    show (ends (p.next c) cs).a = _
    rw [ih h.cons.2, e, encs_cons, List.length_append, h1]; omega
theorem ends_lc (cs : List Int) (p : Pl) (hl : 0 ≤ p.l) (hc : 0 ≤ p.c) : 0 ≤ (ends p cs).l ∧ (ends p cs).l ≤ p.l + cs.length ∧ 0 ≤ (ends p cs).c ∧ (ends p cs).c ≤ p.c + 1 + cs.length := by
  induction cs generalizing p with
  | nil => simp [ends]; omega
  | cons c cs ih =>
    have h : 0 ≤ (p.next c).l ∧ (p.next c).l ≤ p.l + 1 ∧ 0 ≤ (p.next c).c ∧ (p.next c).c ≤ p.c + 1 := by unfold Pl.next; split <;> simp <;> omega
    have := ih (p.next c) h.1 h.2.2.1
    show 0 ≤ (ends (p.next c) cs).l ∧ _ ≤ _ ∧ 0 ≤ (ends (p.next c) cs).c ∧ _ ≤ _
    rw [List.length_cons]
    show 0 ≤ (ends (p.next c) cs).l ∧ (ends (p.next c) cs).l ≤ _ ∧ 0 ≤ (ends (p.next c) cs).c ∧ (ends (p.next c) cs).c ≤ _
    omega
theorem ends_sm {cs : List Int} (h : AllCp cs) {n : Nat} (hn : (encs cs).length ≤ n) : (ends p0 cs).sm (n + 2) := by
  have h1 := ends_a h p0
  have h2 := ends_lc cs p0 (by decide) (by decide)
  have h3 := encs_len_ge h
  have e1 : p0.a = 0 := rfl
  have e2 : p0.l = 1 := rfl
  have e3 : p0.c = 1 := rfl
  rw [e1] at h1
  rw [e2, e3] at h2
  unfold Pl.sm
  omega

/-- What a text's bytes are: code points, and bytes with which none begins. -/
structure Cps (L : List UInt8) (cs : List Int) (rest : List UInt8) : Prop where
  cp : AllCp cs
  eq : L = encs cs ++ rest
  no : ∀ c, cpB c = true → ¬ enc c <+: rest
theorem enc_ne {c : Int} (h : cpB c = true) : enc c ≠ [] := fun e => by
  have h1 := enc_len h
  have h2 := wid_pos c
  rw [e] at h1; simp at h1; omega
theorem Cps.nil {cs : List Int} (h : AllCp cs) : Cps (encs cs) cs [] := ⟨h, by simp, fun c hc hp => enc_ne hc (List.prefix_nil.1 hp)⟩
open Classical in
theorem cps_ex : ∀ (n : Nat) (L : List UInt8), L.length ≤ n → ∃ cs rest, Cps L cs rest
  | 0, L, h => ⟨[], L, fun c hc => by simp at hc, by simp [encs], fun c hc hp => by
    have : L = [] := List.eq_nil_of_length_eq_zero (by omega)
    rw [this] at hp
    exact enc_ne hc (List.prefix_nil.1 hp)⟩
  | n + 1, L, h => by
    by_cases hx : ∃ c, cpB c = true ∧ enc c <+: L
    · obtain ⟨c, hc, r, hr⟩ := hx
      have h1 := enc_len hc
      have h2 := wid_pos c
      have : r.length ≤ n := by rw [← hr, List.length_append] at h; omega
      obtain ⟨cs, rest, hcs⟩ := cps_ex n r this
      exact ⟨c :: cs, rest, fun d hd => (List.mem_cons.1 hd).elim (fun e => e ▸ hc) (hcs.cp d), by rw [encs_cons, List.append_assoc, ← hcs.eq, hr], hcs.no⟩
    · exact ⟨[], L, fun c hc => by simp at hc, by simp [encs], fun c hc hp => hx ⟨c, hc, hp⟩⟩
/-- One code point's bytes are not the beginning of another's. -/
theorem enc_pre {c d : Int} {L : List UInt8} (hc : cpB c = true) (hd : cpB d = true) (h1 : enc c <+: L) (h2 : enc d <+: L) : c = d := by
  have e1 := dec_of_enc (s := ⟨L.toArray⟩) (i := 0) hc (by simpa using h1)
  have e2 := dec_of_enc (s := ⟨L.toArray⟩) (i := 0) hd (by simpa using h2)
  rw [e1] at e2
  have := (Prod.mk.inj e2).1
  have b1 := (cpB_iff c).1 hc
  have b2 := (cpB_iff d).1 hd
  omega
theorem Cps.uniq {L : List UInt8} {cs ds : List Int} {r q : List UInt8} (h : Cps L cs r) (k : Cps L ds q) : cs = ds ∧ r = q := by
  induction cs generalizing L ds with
  | nil =>
    cases ds with
    | nil => exact ⟨rfl, by have := h.eq; rw [k.eq] at this; simpa [encs] using this.symm⟩
    | cons d ds =>
      exfalso
      have e := h.eq
      rw [k.eq, encs_cons, List.append_assoc] at e
      exact h.no d k.cp.cons.1 ⟨_, by simpa [encs] using e⟩
  | cons c cs ih =>
    cases ds with
    | nil =>
      exfalso
      have e := k.eq
      rw [h.eq, encs_cons, List.append_assoc] at e
      exact k.no c h.cp.cons.1 ⟨_, by simpa [encs] using e⟩
    | cons d ds =>
      have e : enc c ++ (encs cs ++ r) = enc d ++ (encs ds ++ q) := by
        have := h.eq
        rw [k.eq, encs_cons, encs_cons, List.append_assoc, List.append_assoc] at this
        exact this.symm
      have e1 := enc_pre h.cp.cons.1 k.cp.cons.1 (L := enc c ++ (encs cs ++ r)) ⟨_, rfl⟩ ⟨_, e.symm⟩
      subst e1
      have e2 := List.append_cancel_left e
      obtain ⟨a, b⟩ := ih (L := encs cs ++ r) (ds := ds) ⟨h.cp.cons.2, rfl, h.no⟩ ⟨k.cp.cons.2, e2, k.no⟩
      exact ⟨by rw [a], b⟩
/-- The code point at a number, where its bytes begin. -/
theorem Cps.at_ {s : ByteArray} {cs : List Int} {r : List UInt8} (h : Cps s.data.toList cs r) {k : Nat} {c : Int} (hk : cs[k]? = some c) :
    cpB c = true ∧ enc c <+: s.data.toList.drop (encs (cs.take k)).length ∧ (encs (cs.take (k + 1))).length = (encs (cs.take k)).length + wid c ∧ (encs (cs.take k)).length < s.size := by
  have hlt := (List.getElem?_eq_some_iff.1 hk).1
  have hc : cpB c = true := h.cp c (by rw [← (List.getElem?_eq_some_iff.1 hk).2]; exact List.getElem_mem hlt)
  have e1 : cs.take (k + 1) = cs.take k ++ [c] := by
    rw [List.take_succ_eq_append_getElem hlt, (List.getElem?_eq_some_iff.1 hk).2]
  have e2 : cs = cs.take k ++ c :: cs.drop (k + 1) := by
    conv => lhs; rw [← List.take_append_drop (k + 1) cs, e1]
    simp
  have e3 : s.data.toList = encs (cs.take k) ++ (enc c ++ (encs (cs.drop (k + 1)) ++ r)) := by
    conv => lhs; rw [h.eq, e2]
    simp [encs_app, encs_cons, List.append_assoc]
  have h1 := enc_len hc
  have h2 := wid_pos c
  refine ⟨hc, ?_, ?_, ?_⟩
  · rw [e3, List.drop_left]; exact ⟨_, rfl⟩
  · rw [e1, encs_app, List.length_append]; simp [encs, h1]
  · have : s.data.toList.length = s.size := by rw [Array.length_toList]; rfl
    rw [e3, List.length_append, List.length_append] at this
    omega
end Go.Proofs.YteockaolmobmeaaGreatDoor.Mu
namespace Go.Proofs.YteockaolmobmeaaGreatDoor.Mu
open Go.RowKit Go.Shelf

def dv (e : Int) (p : Pl) : Value := .agg #[.int .i64 e, .int .i64 p.a, .int .i64 p.l, .int .i64 p.c]
def z0 : Pl := ⟨0, 0, 0⟩
/-- What reading answers where no limit is passed. -/
def ReadP (cs : List Int) (rest : List UInt8) (w : World) (e : Ending) (w' : World) : Prop :=
  Bel w w' ∧ if rest = [] then ∃ A n c, e = .returned (.tuple #[.slice A n c, (ends p0 cs).v, dv 0 z0]) ∧ RP w' w'.heap.size A n (place p0 cs)
    else e = .returned (.tuple #[.slice none 0 0, z0.v, dv 90 (ends p0 cs)])
def ReadL (w : World) (e : Ending) (w' : World) : Prop := Bel w w' ∧ e = .returned (.tuple #[.slice none 0 0, z0.v, dv 3 z0])
theorem info_pt : (Tryz.prog.info? 68).map (fun i => (i.zero, i.size, i.bytes)) = some (some (.agg #[.int .i32 0, .int .i64 0, .int .i64 0, .int .i64 0]), 4, 32) := by kernel_rfl
theorem ownsRow_iterAt {w : World} {base : Nat} {e : TypeId} {size : Nat} {v : Value} {n : Nat} {xs : List Value} (h : w.ownsRow base e size v n xs) {k : Nat} (hk : k < base) (s : ByteArray) (p : Nat) : (w.iterAt k s p).ownsRow base e size v n xs := by
  obtain ⟨h1, h2⟩ := h
  refine ⟨h1, ?_⟩
  rcases h2 with h2 | ⟨g, cap, cur, a, b, c, d⟩
  · exact .inl h2
  · exact .inr ⟨g, cap, cur, a, b, by rw [Lib.iterAt_other _ _ _ _ _ (by omega)]; exact c, d⟩
theorem iterPos_of {w : World} {k : Nat} {s : ByteArray} {p : Nat} (h : w.heap[k]? = some (.stringIter s p)) : w.iterPos k = p := by simp [World.iterPos, h]
theorem blk4 (w : World) (o o2 o3 o4 : Obj) : ((((w.alloc o).alloc o2).alloc o3).alloc o4).heap[w.heap.size]? = some o ∧ ((((w.alloc o).alloc o2).alloc o3).alloc o4).heap[w.heap.size + 1]? = some o2 ∧ ((((w.alloc o).alloc o2).alloc o3).alloc o4).heap[w.heap.size + 2]? = some o3 ∧ ((((w.alloc o).alloc o2).alloc o3).alloc o4).heap[w.heap.size + 3]? = some o4 := by
  have h := blk3 w o o2 o3
  refine ⟨((Bel.refl _).alloc o4).blk h.1, ((Bel.refl _).alloc o4).blk h.2.1, ((Bel.refl _).alloc o4).blk h.2.2, ?_⟩
  have := blk1 (((w.alloc o).alloc o2).alloc o3) o4
  simpa using this
theorem cells4 {w : World} {g : Nat} {t : TypeId} {x y z u : Value} (h : w.heap[g]? = some (.cells #[x, y, z, u] t (0, 0))) :
    w.cell? ⟨g, 0, none⟩ = some x ∧ w.cell? ⟨g, 1, none⟩ = some y ∧ w.cell? ⟨g, 2, none⟩ = some z ∧ w.cell? ⟨g, 3, none⟩ = some u ∧ w.frozen? ⟨g, 0, none⟩ = false ∧ w.frozen? ⟨g, 1, none⟩ = false ∧ w.frozen? ⟨g, 2, none⟩ = false ∧ w.frozen? ⟨g, 3, none⟩ = false := by
  simp [World.cell?, World.frozen?, h]
theorem put3_blk {w : World} {g : Nat} {t : TypeId} {x y z : Value} (h : w.heap[g]? = some (.cells #[x, y, z] t (0, 0))) (u v r : Value) :
    (((w.setCell ⟨g, 0, none⟩ u).setCell ⟨g, 1, none⟩ v).setCell ⟨g, 2, none⟩ r).heap[g]? = some (.cells #[u, v, r] t (0, 0)) := by
  simp [World.setCell, Array.getElem?_modify, h]
theorem put3_other {w : World} {g k : Nat} (hk : k ≠ g) (u v r : Value) :
    (((w.setCell ⟨g, 0, none⟩ u).setCell ⟨g, 1, none⟩ v).setCell ⟨g, 2, none⟩ r).heap[k]? = w.heap[k]? := by
  rw [Below.heap_setCell _ _ _ _ hk, Below.heap_setCell _ _ _ _ hk, Below.heap_setCell _ _ _ _ hk]
theorem put3_own {w : World} {base : Nat} {e : TypeId} {size : Nat} {V : Value} {n : Nat} {xs : List Value} (h : w.ownsRow base e size V n xs) {g : Nat} (hg : g < base) (u v r : Value) :
    (((w.setCell ⟨g, 0, none⟩ u).setCell ⟨g, 1, none⟩ v).setCell ⟨g, 2, none⟩ r).ownsRow base e size V n xs := by
  obtain ⟨h1, h2⟩ := h
  refine ⟨h1, ?_⟩
  rcases h2 with h2 | ⟨k, cap, cur, a, b, c, d⟩
  · exact .inl h2
  · exact .inr ⟨k, cap, cur, a, b, by rw [put3_other (by omega)]; exact c, d⟩
theorem four_at (w : World) (a b c d : Value) (t : TypeId) : ∀ j u, [a, b, c, d][j]? = some u → (w.alloc (.cells #[a, b, c, d] t)).cell? ⟨w.heap.size, j, none⟩ = some u := by
  intro j u hu
  match j, hu with
  | 0, hu => simp at hu; subst hu; simp
  | 1, hu => simp at hu; subst hu; simp
  | 2, hu => simp at hu; subst hu; simp
  | 3, hu => simp at hu; subst hu; simp
/-- What a grown row leaves as it was. -/
theorem grown_keep {W w5 : World} {base : Nat} {e : TypeId} {size : Nat} {V : Value} {n : Nat} {xs : List Value} (hown : W.ownsRow base e size V n xs) {o : Obj} (hg : (W.alloc o).grownBy w5 V.ownBlock) {k : Nat} (hk : k < base) (hs : k < W.heap.size) : w5.heap[k]? = W.heap[k]? := by
  rw [hg.block k (by simp; omega) (fun h => by have := (hown.lt _ h.symm).1; omega), Below.heap_alloc _ _ _ hs]
theorem grown_bel {w W w5 : World} {base : Nat} {e : TypeId} {size : Nat} {V : Value} {n : Nat} {xs : List Value} (hown : W.ownsRow base e size V n xs) (hb : Bel w W) {o : Obj} (hg : (W.alloc o).grownBy w5 V.ownBlock) (hk : w.heap.size ≤ base) : Bel w w5 :=
  Below.grown (hb.alloc o) hg (by have := hb.size; simp; omega) (fun j hj => by have := (hown.lt _ hj).1; omega)
theorem behind_v {p : Pl} {c : Int} (hc : cpB c = true) (hp : p.sm 4002) (w : World) :
    Calls Tryz.prog 70 #[.agg #[.int .i64 p.a, .int .i64 p.l, .int .i64 p.c], .int .i32 c] w fun e w' => e = .returned (.agg #[.int .i64 (p.next c).a, .int .i64 (p.next c).l, .int .i64 (p.next c).c]) ∧ Bel w w' :=
  behind_any hc (by unfold Pl.sm at *; omega) w
theorem own_drew {w : World} {base : Nat} {e : TypeId} {size : Nat} {V : Value} {n : Nat} {xs : List Value} (h : w.ownsRow base e size V n xs) : w.drew.ownsRow base e size V n xs := h
theorem own_set {w : World} {base : Nat} {e : TypeId} {size : Nat} {V : Value} {n : Nat} {xs : List Value} (h : w.ownsRow base e size V n xs) {p : Addr} (hg : p.block < base) (u : Value) : (w.setCell p u).ownsRow base e size V n xs := by
  obtain ⟨h1, h2⟩ := h
  refine ⟨h1, ?_⟩
  rcases h2 with h2 | ⟨k, cap, cur, a, b, c, d⟩
  · exact .inl h2
  · exact .inr ⟨k, cap, cur, a, b, by rw [Below.heap_setCell _ _ _ _ (by omega)]; exact c, d⟩
theorem enc_ff : enc 65533 = [239, 191, 189] := by decide +kernel
theorem hasP (s : ByteArray) (i : Nat) (b : Bool) (h : b = true ↔ enc 65533 <+: s.data.toList.drop i) (w : World) :
    Calls Tryz.prog 38 #[.string (s.extract i s.size), .string { data := #[239, 191, 189] }] w fun e w' => e = .returned (.bool b) ∧ w = w' :=
  (Tryz.strings_HasPrefix _ _ w).mono fun _ _ k => ⟨by
    rw [k.1]
    refine ret_bool ?_
    rw [Bool.eq_iff_iff, h, enc_ff]
    have e : (s.extract i s.size).data.toList = s.data.toList.drop i := by
      have := Lib.extract_toList s i s.size
      rw [ByteArray.toList_eq] at this
      rw [this, List.take_of_length_le]
      rw [List.length_drop, Array.length_toList]; exact Nat.le_refl _
    rw [e]
    unfold Lib.hasPrefix
    exact List.isPrefixOf_iff_prefix, k.2.symm⟩
theorem read_long {s : ByteArray} (hs : 4000 < s.size) (w : World) : Calls Tryz.prog 48 #[.string s] w (ReadL w) := by
  have hs' : (4000 : Int) < (s.size : Int) := by omega
  go_enter Tryz.func48, Tryz.ntmps48
  go_wp2
  refine bodyPost_ret (v := .tuple #[.slice none 0 0, z0.v, dv 3 z0]) ?_ rfl ⟨?_, rfl⟩
  · simp [results, Tryz.results48, go_sem, Pl.v, dv, z0]
  · repeat (first | exact Bel.refl _ | refine Bel.set_ ?_ (by simp) _ | refine Bel.alloc ?_ _ | refine Bel.drew ?_)
set_option maxRecDepth 100000 in
set_option maxHeartbeats 4000000 in
theorem read_cps {s : ByteArray} {cs : List Int} {rest : List UInt8} (h : Cps s.data.toList cs rest) (hs : s.size ≤ 4000) (w : World) : Calls Tryz.prog 48 #[.string s] w (ReadP cs rest w) := by
  have hlen : s.data.toList.length = s.size := by rw [Array.length_toList]; rfl
  have hcl : (encs cs).length + rest.length = s.size := by rw [← hlen, h.eq, List.length_append]
  have HL := Lib.hid hcl
  have H := Lib.hid h
  have hs' : (s.size : Int) ≤ 4000 := by omega
  clear h hlen hcl
  go_enter Tryz.func48, Tryz.ntmps48
  go_wp2
  go_loopw [5] (fun v wr => ∃ (j : Nat) (A : Option Addr) (n c : Nat), j ≤ cs.length ∧ v = .slice A n c ∧ wr.heap[w.heap.size + 3]? = some (.stringIter s (encs (cs.take j)).length) ∧
      wr.heap[w.heap.size + 2]? = some (.cells #[.int .i64 (ends p0 (cs.take j)).a, .int .i64 (ends p0 (cs.take j)).l, .int .i64 (ends p0 (cs.take j)).c] 32 (0, 0)) ∧
      wr.heap[w.heap.size]? = some (.cells #[.int .i64 0, .int .i64 0, .int .i64 0] 32 (0, 0)) ∧
      wr.heap[w.heap.size + 1]? = some (.cells #[.int .i64 0, .int .i64 0, .int .i64 0, .int .i64 0] 34 (0, 0)) ∧
      wr.ownsRow (w.heap.size + 4) 68 4 (.slice A n c) n (flatP (place p0 (cs.take j))) ∧ Hid (Bel w wr)) (fun _ wr => s.size - wr.iterPos (w.heap.size + 3))
  case atStart =>
    have hb := blk4 w (.cells #[.int .i64 0, .int .i64 0, .int .i64 0] 32 (0, 0)) (.cells #[.int .i64 0, .int .i64 0, .int .i64 0, .int .i64 0] 34 (0, 0)) (.cells #[.int .i64 0, .int .i64 1, .int .i64 1] 32 (0, 0)) (.stringIter s 0)
    exact ⟨0, none, 0, 0, Nat.zero_le _, rfl, hb.2.2.2, hb.2.2.1, hb.1, hb.2.1, World.ownsRow_nil _ _ _ _, ((((Bel.refl w).alloc _).alloc _).alloc _).alloc _⟩
  case round =>
    obtain ⟨j, A, n, cc, hj, rfl, hit, hp, hz, hd, hown, HB⟩ := hrel
    have hpos0 := iterPos_of hit
    have HP0 := Lib.hid hpos0
    clear hpos0
    have hsm := ends_sm (cs := cs.take j) (H.out.cp.take j) (n := 4000) (by
      have h1 : encs cs = encs (cs.take j) ++ encs (cs.drop j) := by rw [← encs_app, List.take_append_drop]
      have h2 := congrArg List.length h1
      rw [List.length_append] at h2
      have := HL.out; omega)
    have HSM := Lib.hid hsm
    have hBlt := (Array.getElem?_eq_some_iff.1 hit).1
    clear hsm
    by_cases hlt : j < cs.length
    · obtain ⟨c, hcj⟩ : ∃ c, cs[j]? = some c := ⟨_, List.getElem?_eq_getElem hlt⟩
      obtain ⟨hcp, hpre, hnext, hposlt⟩ := H.out.at_ hcj
      have hdec := dec_of_enc hcp hpre
      have hcb := (cpB_iff c).1 hcp
      have htk : cs.take (j + 1) = cs.take j ++ [c] := by
        rw [List.take_succ_eq_append_getElem hlt]
        rw [List.getElem?_eq_getElem hlt] at hcj
        rw [Option.some.inj hcj]
      have hc1 : ((Utf8.decode s (encs (cs.take j)).length).1 : Int) = c := by rw [hdec]; show ((c.toNat : Nat) : Int) = c; omega
      have hc2 : (encs (cs.take j)).length + (Utf8.decode s (encs (cs.take j)).length).2 = (encs (cs.take (j + 1))).length := by rw [hdec, hnext]
      have hnx : ∀ ty, (Instr.next (.pointer (some ⟨w.heap.size + 3, 0, none⟩)) true ty).run Tryz.prog wr = _ := fun ty => Lib.run_next_any_at wr (w.heap.size + 3) s _ ty hit hposlt
      simp only [hc1, hc2] at hnx
      have hit2 := Lib.iterAt_heap wr (w.heap.size + 3) s _ (encs (cs.take (j + 1))).length hit
      have hp2 := hp
      rw [← Lib.iterAt_other wr (w.heap.size + 3) (w.heap.size + 2) s (encs (cs.take (j + 1))).length (by omega)] at hp2
      have hz2 := hz
      rw [← Lib.iterAt_other wr (w.heap.size + 3) (w.heap.size) s (encs (cs.take (j + 1))).length (by omega)] at hz2
      have hd2 := hd
      rw [← Lib.iterAt_other wr (w.heap.size + 3) (w.heap.size + 1) s (encs (cs.take (j + 1))).length (by omega)] at hd2
      have hown2 := ownsRow_iterAt hown (k := w.heap.size + 3) (by omega) s (encs (cs.take (j + 1))).length
      have HB2 : Hid (Bel w (wr.iterAt (w.heap.size + 3) s (encs (cs.take (j + 1))).length)) := Lib.hid (Lib.below_iterAt HB.out (by omega) s _)
      obtain ⟨W1, hW1⟩ : ∃ W1, W1 = wr.iterAt (w.heap.size + 3) s (encs (cs.take (j + 1))).length := ⟨_, rfl⟩
      rw [← hW1] at hnx hit2 hp2 hz2 hd2 hown2 HB2
      obtain ⟨pos, hpos⟩ : ∃ pos, pos = (encs (cs.take j)).length := ⟨_, rfl⟩
      rw [← hpos] at hnx hposlt hpre
      have hpos1 : (pos : Int) < (s.size : Int) := by omega
      clear hW1 hit hp hz hd hown HB hdec hc1 hc2 hcj
      have HT := Lib.hid htk
      have HCP := Lib.hid hcp
      have HPRE := Lib.hid hpre
      have HPOS := Lib.hid hpos
      have HNX := Lib.hid hnext
      clear htk hcp hpre hpos hnext
      obtain ⟨P, hP⟩ : ∃ P, P = ends p0 (cs.take j) := ⟨_, rfl⟩
      rw [← hP] at hp2 HSM
      have HPQ := Lib.hid hP
      clear hP
      have HOW := Lib.hid hown2
      have HIT := Lib.hid hit2
      have HZ := Lib.hid hz2
      have HD := Lib.hid hd2
      have HPP := Lib.hid hp2
      obtain ⟨k0, k1, k2, f0, f1, f2⟩ := cells3 hp2
      have hBl : w.heap.size + 3 < W1.heap.size := (Array.getElem?_eq_some_iff.1 hit2).1
      clear hown2 hit2 hz2 hd2 hp2 hBlt
      by_cases hff : c = 65533
      · subst hff
        have hln : n ≤ 4000 := by
          have h1 := HOW.out.1
          have h2 := HL.out
          have h3 := encs_len_ge H.out.cp
          rw [flatP_len, place_len, List.length_take] at h1
          omega
        go_wp2_with (first | (go_at_call 38; refine (hasP s pos true (by simp [HPRE.out]) _).mono ?_; rintro e w1 ⟨rfl, rfl⟩) | (at_builtin; refine wpList_append_one rfl _ _ 61 rfl (w.heap.size + 4) 68 _ 4 32 Tryz.underlying61 info_pt rfl (by decide) (by decide) A n cc _ rfl (HOW.out.alloc _) W1.heap.size [.int .i32 65533, .int .i64 P.a, .int .i64 P.l, .int .i64 P.c] rfl rfl (four_at W1 _ _ _ _ _) (by simp [Value.oneCell']) (by omega) (by simp; omega) ?_; intro V5 c5 w5 hown5 hg5; have HIT5 := Lib.hid ((grown_keep HOW.out hg5 (k := w.heap.size + 3) (by omega) (by omega)).trans HIT.out); have HP5 := Lib.hid ((grown_keep HOW.out hg5 (k := w.heap.size + 2) (by omega) (by omega)).trans HPP.out); have HZ5 := Lib.hid ((grown_keep HOW.out hg5 (k := w.heap.size) (by omega) (by omega)).trans HZ.out); have HD5 := Lib.hid ((grown_keep HOW.out hg5 (k := w.heap.size + 1) (by omega) (by omega)).trans HD.out); have HB5 := Lib.hid (grown_bel HOW.out HB2.out hg5 (by omega)); have HO5 := Lib.hid hown5; clear hown5 hg5 k0 k1 k2 f0 f1 f2; obtain ⟨k0, k1, k2, f0, f1, f2⟩ := cells3 HP5.out))
        refine (behind_v HCP.out HSM.out _).mono ?_
        rintro e w6 ⟨rfl, hb6⟩
        have HIT6 := Lib.hid (hb6.blk HIT5.out)
        have HP6 := Lib.hid (hb6.blk HP5.out)
        have HZ6 := Lib.hid (hb6.blk HZ5.out)
        have HD6 := Lib.hid (hb6.blk HD5.out)
        have HO6 := Lib.hid (owns_bel HO5.out hb6)
        have HB6 := Lib.hid (HB5.out.on hb6)
        clear hb6 k0 k1 k2 f0 f1 f2
        obtain ⟨k0, k1, k2, f0, f1, f2⟩ := cells3 HP6.out
        have hB6 : w.heap.size + 3 < w6.heap.size := (Array.getElem?_eq_some_iff.1 HIT6.out).1
        go_wp2
        have HIT7 := Lib.hid ((put3_other (w := w6) (g := w.heap.size + 2) (k := w.heap.size + 3) (by omega) (.int .i64 (P.next 65533).a) (.int .i64 (P.next 65533).l) (.int .i64 (P.next 65533).c)).trans HIT6.out)
        go_roundw
        case rel =>
          exact ⟨j + 1, V5, n + 1, c5, by omega, rfl, HIT7.out, by rw [HT.out, ends_snoc, ← HPQ.out]; exact put3_blk HP6.out _ _ _, (put3_other (by omega) _ _ _).trans HZ6.out, (put3_other (by omega) _ _ _).trans HD6.out, by
            have := put3_own (g := w.heap.size + 2) HO6.out (by omega) (.int .i64 (P.next 65533).a) (.int .i64 (P.next 65533).l) (.int .i64 (P.next 65533).c)
            rw [HT.out, place_snoc, flatP_snoc, ← HPQ.out]
            exact this, Bel.set_ (Bel.set_ (Bel.set_ HB6.out (by show w.heap.size ≤ w.heap.size + 2; omega) _) (by show w.heap.size ≤ w.heap.size + 2; omega) _) (by show w.heap.size ≤ w.heap.size + 2; omega) _⟩
        case measure =>
          have e1 := iterPos_of HIT7.out
          have e2 := HP0.out
          have e3 := HPOS.out
          have e4 := HNX.out
          have e5 := (wid_pos 65533).1
          rw [e1, e2]; omega
      · have e1 : (c == 65533) = false := by simpa using hff
        have hln : n ≤ 4000 := by
          have h1 := HOW.out.1
          have h2 := HL.out
          have h3 := encs_len_ge H.out.cp
          rw [flatP_len, place_len, List.length_take] at h1
          omega
        clear hff
        go_wp2_with (at_builtin; refine wpList_append_one rfl _ _ 61 rfl (w.heap.size + 4) 68 _ 4 32 Tryz.underlying61 info_pt rfl (by decide) (by decide) A n cc _ rfl (HOW.out.alloc _) W1.heap.size [.int .i32 c, .int .i64 P.a, .int .i64 P.l, .int .i64 P.c] rfl rfl (four_at W1 _ _ _ _ _) (by simp [Value.oneCell']) (by omega) (by simp; omega) ?_; intro V5 c5 w5 hown5 hg5; have HIT5 := Lib.hid ((grown_keep HOW.out hg5 (k := w.heap.size + 3) (by omega) (by omega)).trans HIT.out); have HP5 := Lib.hid ((grown_keep HOW.out hg5 (k := w.heap.size + 2) (by omega) (by omega)).trans HPP.out); have HZ5 := Lib.hid ((grown_keep HOW.out hg5 (k := w.heap.size) (by omega) (by omega)).trans HZ.out); have HD5 := Lib.hid ((grown_keep HOW.out hg5 (k := w.heap.size + 1) (by omega) (by omega)).trans HD.out); have HB5 := Lib.hid (grown_bel HOW.out HB2.out hg5 (by omega)); have HO5 := Lib.hid hown5; clear hown5 hg5 k0 k1 k2 f0 f1 f2; obtain ⟨k0, k1, k2, f0, f1, f2⟩ := cells3 HP5.out)
        refine (behind_v HCP.out HSM.out _).mono ?_
        rintro e w6 ⟨rfl, hb6⟩
        have HIT6 := Lib.hid (hb6.blk HIT5.out)
        have HP6 := Lib.hid (hb6.blk HP5.out)
        have HZ6 := Lib.hid (hb6.blk HZ5.out)
        have HD6 := Lib.hid (hb6.blk HD5.out)
        have HO6 := Lib.hid (owns_bel HO5.out hb6)
        have HB6 := Lib.hid (HB5.out.on hb6)
        clear hb6 k0 k1 k2 f0 f1 f2
        obtain ⟨k0, k1, k2, f0, f1, f2⟩ := cells3 HP6.out
        have hB6 : w.heap.size + 3 < w6.heap.size := (Array.getElem?_eq_some_iff.1 HIT6.out).1
        go_wp2
        have HIT7 := Lib.hid ((put3_other (w := w6) (g := w.heap.size + 2) (k := w.heap.size + 3) (by omega) (.int .i64 (P.next c).a) (.int .i64 (P.next c).l) (.int .i64 (P.next c).c)).trans HIT6.out)
        go_roundw
        case rel =>
          exact ⟨j + 1, V5, n + 1, c5, by omega, rfl, HIT7.out, by rw [HT.out, ends_snoc, ← HPQ.out]; exact put3_blk HP6.out _ _ _, (put3_other (by omega) _ _ _).trans HZ6.out, (put3_other (by omega) _ _ _).trans HD6.out, by
            have := put3_own (g := w.heap.size + 2) HO6.out (by omega) (.int .i64 (P.next c).a) (.int .i64 (P.next c).l) (.int .i64 (P.next c).c)
            rw [HT.out, place_snoc, flatP_snoc, ← HPQ.out]
            exact this, Bel.set_ (Bel.set_ (Bel.set_ HB6.out (by show w.heap.size ≤ w.heap.size + 2; omega) _) (by show w.heap.size ≤ w.heap.size + 2; omega) _) (by show w.heap.size ≤ w.heap.size + 2; omega) _⟩
        case measure =>
          have e1 := iterPos_of HIT7.out
          have e2 := HP0.out
          have e3 := HPOS.out
          have e4 := HNX.out
          have e5 := (wid_pos c).1
          rw [e1, e2]; omega
    · obtain rfl : j = cs.length := by omega
      simp only [List.take_length] at hit hp hown HSM HP0
      obtain ⟨k0, k1, k2, f0, f1, f2⟩ := cells3 hp
      obtain ⟨zz0, zz1, zz2, zf0, zf1, zf2⟩ := cells3 hz
      obtain ⟨d0, d1, d2, d3, df0, df1, df2, df3⟩ := cells4 hd
      obtain ⟨P, hP⟩ : ∃ P, P = ends p0 cs := ⟨_, rfl⟩
      rw [← hP] at k0 k1 k2
      have HPQ := Lib.hid hP
      clear hP
      by_cases hr : rest = []
      · have hnx : ∀ ty, (Instr.next (.pointer (some ⟨w.heap.size + 3, 0, none⟩)) true ty).run Tryz.prog wr = _ := fun ty => Lib.run_next_end_at wr (w.heap.size + 3) s _ ty hit (by have := HL.out; rw [hr] at this; simp at this; omega)
        have HR := Lib.hid hr
        have HO := Lib.hid hown
        have HIT := Lib.hid hit
        clear hr hown hit hp hz hd
        go_wp2_with fail
        go_region_with (fail)
        all_goals
          go_wp2
          refine bodyPost_ret (v := .tuple #[.slice A n cc, P.v, dv 0 Mu.z0]) ?_ rfl ⟨?_, ?_⟩
          · simp [results, Tryz.results48, go_sem, Pl.v, dv, Mu.z0, *]
          · repeat (first | with_reducible exact HB.out | with_reducible refine Bel.set_ ?_ (by simp) _ | with_reducible refine Bel.alloc ?_ _ | with_reducible refine Bel.drew ?_)
          · rw [if_pos HR.out]
            refine ⟨A, n, cc, by rw [HPQ.out], RP.of_own (base := w.heap.size + 4) (c := cc) (e := 68) ?_⟩
            repeat (first | with_reducible exact HO.out | with_reducible refine own_set ?_ (by show _ < w.heap.size + 4; simp) _ | with_reducible refine own_drew ?_)
      · have hdr : s.data.toList.drop (encs cs).length = rest := by rw [H.out.eq, List.drop_left]
        have hrl : 0 < rest.length := List.length_pos_iff.2 hr
        have hlt2 : (encs cs).length < s.size := by have := HL.out; omega
        have hdec : (Utf8.decode s (encs cs).length) = (65533, 1) := by
          rcases hd' : Utf8.decode s (encs cs).length with ⟨c, k⟩
          by_cases hb : c = 65533 ∧ k = 1
          · rw [hb.1, hb.2]
          · exfalso
            obtain ⟨h1, _, h3⟩ := enc_of_dec hlt2 hd' hb
            rw [hdr] at h3
            exact H.out.no _ h1 h3
        have hnx : ∀ ty, (Instr.next (.pointer (some ⟨w.heap.size + 3, 0, none⟩)) true ty).run Tryz.prog wr = _ := fun ty => Lib.run_next_any_at wr (w.heap.size + 3) s _ ty hit hlt2
        rw [hdec] at hnx
        have hnp : false = true ↔ enc 65533 <+: s.data.toList.drop (encs cs).length := ⟨(fun h => by cases h), (fun h => by rw [hdr] at h; exact absurd h (H.out.no _ (by decide +kernel)))⟩
        obtain ⟨pos, hpos⟩ : ∃ pos, pos = (encs cs).length := ⟨_, rfl⟩
        rw [← hpos] at hnx hlt2 hnp
        have hp2 := hp
        rw [← Lib.iterAt_other wr (w.heap.size + 3) (w.heap.size + 2) s (pos + 1) (by omega)] at hp2
        have hz2 := hz
        rw [← Lib.iterAt_other wr (w.heap.size + 3) (w.heap.size) s (pos + 1) (by omega)] at hz2
        have hd2 := hd
        rw [← Lib.iterAt_other wr (w.heap.size + 3) (w.heap.size + 1) s (pos + 1) (by omega)] at hd2
        have HB2 : Hid (Bel w (wr.iterAt (w.heap.size + 3) s (pos + 1))) := Lib.hid (Lib.below_iterAt HB.out (by omega) s _)
        obtain ⟨W1, hW1⟩ : ∃ W1, W1 = wr.iterAt (w.heap.size + 3) s (pos + 1) := ⟨_, rfl⟩
        have hnx' : ∀ ty, (Instr.next (.pointer (some ⟨w.heap.size + 3, 0, none⟩)) true ty).run Tryz.prog wr = .ok (.tuple #[.bool true, .int .i64 pos, .int .i32 65533]) W1 := fun ty => by rw [hW1]; exact hnx ty
        rw [← hW1] at hp2 hz2 hd2 HB2
        have hsz : W1.heap.size = wr.heap.size := by rw [hW1, Lib.iterAt_size]
        have hB1 : w.heap.size + 3 < W1.heap.size := by omega
        have hpos1 : (pos : Int) < (s.size : Int) := by omega
        have HNP := Lib.hid hnp
        have HR := Lib.hid hr
        rw [← HPQ.out] at hp2
        clear hnx hW1 hsz hit hp hz hd hown hnp hr hdr hrl hdec hpos k0 k1 k2 f0 f1 f2 zz0 zz1 zz2 zf0 zf1 zf2 d0 d1 d2 d3 df0 df1 df2 df3
        obtain ⟨k0, k1, k2, f0, f1, f2⟩ := cells3 hp2
        obtain ⟨zz0, zz1, zz2, zf0, zf1, zf2⟩ := cells3 hz2
        obtain ⟨d0, d1, d2, d3, df0, df1, df2, df3⟩ := cells4 hd2
        clear hp2 hz2 hd2
        go_wp2_with (go_at_call 38; refine (hasP s pos false HNP.out _).mono ?_; rintro e w1 ⟨rfl, rfl⟩)
        go_region_with (fail)
        all_goals
          go_wp2
          refine bodyPost_ret (v := .tuple #[.slice none 0 0, Mu.z0.v, dv 90 P]) ?_ rfl ⟨?_, ?_⟩
          · simp [results, Tryz.results48, go_sem, Pl.v, dv, Mu.z0, *]
          · repeat (first | with_reducible exact HB2.out | with_reducible refine Bel.set_ ?_ (by simp) _ | with_reducible refine Bel.alloc ?_ _ | with_reducible refine Bel.drew ?_)
          · rw [if_neg HR.out, HPQ.out]
end Go.Proofs.YteockaolmobmeaaGreatDoor.Mu
namespace Go.Proofs.YteockaolmobmeaaGreatDoor.Mu
open Go.RowKit

theorem fPos : ((Tryz.prog.fieldsOf 32).toList.map fun f => (f.name, f.type, f.offset)) = [("At", 3, 0), ("Line", 3, 1), ("Col", 3, 2)] := by kernel_rfl
theorem fDiag : ((Tryz.prog.fieldsOf 34).toList.map fun f => (f.name, f.type, f.offset)) = [("E", 28, 0), ("At", 32, 1)] := by kernel_rfl
theorem fPoint : ((Tryz.prog.fieldsOf 68).toList.map fun f => (f.name, f.type, f.offset)) = [("R", 21, 0), ("At", 32, 1)] := by kernel_rfl
theorem map2 {α β : Type} {f : α → β} {l : List α} {x y : β} (h : l.map f = [x, y]) : ∃ a b, l = [a, b] ∧ f a = x ∧ f b = y := by
  match l, h with
  | [a, b], h => simp at h; exact ⟨a, b, rfl, h.1, h.2⟩
theorem map3 {α β : Type} {f : α → β} {l : List α} {x y z : β} (h : l.map f = [x, y, z]) : ∃ a b c, l = [a, b, c] ∧ f a = x ∧ f b = y ∧ f c = z := by
  match l, h with
  | [a, b, c], h => simp at h; exact ⟨a, b, c, rfl, h.1, h.2.1, h.2.2⟩
set_option maxRecDepth 100000 in
theorem pos_eql (d : Nat) (x y : Pl) (w : World) : (Op.equalIn (d + 2) 32 (.agg #[.int .i64 x.a, .int .i64 x.l, .int .i64 x.c]) (.agg #[.int .i64 y.a, .int .i64 y.l, .int .i64 y.c])).run Tryz.prog w = .ok (decide (x = y)) w := by
  rw [run_equalIn_struct w (d + 1) 32 _ _ (by kernel_rfl) (by kernel_rfl)]
  obtain ⟨a, b, c, e, ea, eb, ec⟩ := map3 fPos
  simp only [Prod.mk.injEq] at ea eb ec
  obtain ⟨a0, a1, a2⟩ := ea
  obtain ⟨b0, b1, b2⟩ := eb
  obtain ⟨c0, c1, c2⟩ := ec
  rw [e]
  have p0 : ∀ x y z : Value, (part 3 #[x, y, z] 0).run Tryz.prog w = .ok x w := fun x y z => by kernel_rfl
  have q0 : ∀ x y z : Value, (part 3 #[x, y, z] 1).run Tryz.prog w = .ok y w := fun x y z => by kernel_rfl
  have r0 : ∀ x y z : Value, (part 3 #[x, y, z] 2).run Tryz.prog w = .ok z w := fun x y z => by kernel_rfl
  have n0 : ¬ ("At" : String) = "_" := by decide +kernel
  have n1 : ¬ ("Line" : String) = "_" := by decide +kernel
  have n2 : ¬ ("Col" : String) = "_" := by decide +kernel
  simp only [Op.eqFields, a0, a1, a2, b0, b1, b2, c0, c1, c2, ne_eq, n0, n1, n2, not_false_eq_true, if_true, Sem.run_bind, p0, q0, r0, Result.andThen_ok, run_equalIn_int w d 3 _ _ _ _ Tryz.underlying3, Sem.run_ite, Sem.run_pure]
  obtain ⟨v, m, c⟩ := x
  obtain ⟨v', m', c'⟩ := y
  by_cases h1 : v = v' <;> by_cases h2 : m = m' <;> by_cases h3 : c = c' <;> simp [h1, h2, h3]
theorem pos_in (x y : Pl) (w : World) : (Op.equalIn 10000 32 (.agg #[.int .i64 x.a, .int .i64 x.l, .int .i64 x.c]) (.agg #[.int .i64 y.a, .int .i64 y.l, .int .i64 y.c])).run Tryz.prog w = .ok (decide (x = y)) w := pos_eql 9998 x y w
set_option maxRecDepth 100000 in
theorem diag_in (i j : Int) (x y : Pl) (w : World) : (Op.equalIn 10000 34 (.agg #[.int .i64 i, .int .i64 x.a, .int .i64 x.l, .int .i64 x.c]) (.agg #[.int .i64 j, .int .i64 y.a, .int .i64 y.l, .int .i64 y.c])).run Tryz.prog w = .ok (decide (i = j) && decide (x = y)) w := by
  rw [run_equalIn_struct w 9999 34 _ _ (by kernel_rfl) (by kernel_rfl)]
  obtain ⟨a, b, e, ea, eb⟩ := map2 fDiag
  simp only [Prod.mk.injEq] at ea eb
  obtain ⟨a0, a1, a2⟩ := ea
  obtain ⟨b0, b1, b2⟩ := eb
  rw [e]
  have p0 : ∀ x y z u : Value, (part 28 #[x, y, z, u] 0).run Tryz.prog w = .ok x w := fun x y z u => by kernel_rfl
  have q0 : ∀ x y z u : Value, (part 32 #[x, y, z, u] 1).run Tryz.prog w = .ok (.agg #[y, z, u]) w := fun x y z u => by kernel_rfl
  have n0 : ¬ ("E" : String) = "_" := by decide +kernel
  have n1 : ¬ ("At" : String) = "_" := by decide +kernel
  have g1 := pos_eql 9997 x y w
  have g2 := run_equalIn_int (P := Tryz.prog) w 9998 28 .i64 .i64 i j Tryz.underlying28
  simp only [Op.eqFields, a0, a1, a2, b0, b1, b2, ne_eq, n0, n1, not_false_eq_true, if_true, Sem.run_bind, p0, q0, Result.andThen_ok, g1, g2, Sem.run_ite, Sem.run_pure]
  by_cases h1 : i = j <;> by_cases h2 : x = y <;> simp [h1, h2]
set_option maxRecDepth 100000 in
theorem point_in (x y : Pn) (w : World) : (Op.equalIn 10000 68 (.agg #[.int .i32 x.r, .int .i64 x.p.a, .int .i64 x.p.l, .int .i64 x.p.c]) (.agg #[.int .i32 y.r, .int .i64 y.p.a, .int .i64 y.p.l, .int .i64 y.p.c])).run Tryz.prog w = .ok (decide (x = y)) w := by
  rw [run_equalIn_struct w 9999 68 _ _ (by kernel_rfl) (by kernel_rfl)]
  obtain ⟨a, b, e, ea, eb⟩ := map2 fPoint
  simp only [Prod.mk.injEq] at ea eb
  obtain ⟨a0, a1, a2⟩ := ea
  obtain ⟨b0, b1, b2⟩ := eb
  rw [e]
  have p0 : ∀ x y z u : Value, (part 21 #[x, y, z, u] 0).run Tryz.prog w = .ok x w := fun x y z u => by kernel_rfl
  have q0 : ∀ x y z u : Value, (part 32 #[x, y, z, u] 1).run Tryz.prog w = .ok (.agg #[y, z, u]) w := fun x y z u => by kernel_rfl
  have n0 : ¬ ("R" : String) = "_" := by decide +kernel
  have n1 : ¬ ("At" : String) = "_" := by decide +kernel
  have g1 := pos_eql 9997 x.p y.p w
  have g2 := run_equalIn_int (P := Tryz.prog) w 9998 21 .i32 .i32 x.r y.r Tryz.underlying21
  simp only [Op.eqFields, a0, a1, a2, b0, b1, b2, ne_eq, n0, n1, not_false_eq_true, if_true, Sem.run_bind, p0, q0, Result.andThen_ok, g1, g2, Sem.run_ite, Sem.run_pure]
  obtain ⟨r, p⟩ := x
  obtain ⟨r', p'⟩ := y
  by_cases h1 : r = r' <;> by_cases h2 : p = p' <;> simp [h1, h2]
end Go.Proofs.YteockaolmobmeaaGreatDoor.Mu
namespace Go.Proofs.YteockaolmobmeaaGreatDoor.Mu
open Go.RowKit Go.Shelf
set_option maxRecDepth 100000

/-- What reading a text comes to: its points, the place behind them; an error's number and place. -/
structure Ot where
  xs : List Pn
  p : Pl
  e : Int
  q : Pl
def ot (n : Nat) (cs : List Int) (rest : List UInt8) : Ot :=
  if 4000 < n then ⟨[], z0, 3, z0⟩ else if rest = [] then ⟨place p0 cs, ends p0 cs, 0, z0⟩ else ⟨[], z0, 90, ends p0 cs⟩
/-- It tells that: three values, two of them, two others. -/
def GO3 (o : Ot) (w : World) (e : Ending) (w' : World) : Prop :=
  Bel w w' ∧ ∃ A n c, e = .returned (.tuple #[.slice A n c, .agg #[.int .i64 o.p.a, .int .i64 o.p.l, .int .i64 o.p.c], .agg #[.int .i64 o.e, .int .i64 o.q.a, .int .i64 o.q.l, .int .i64 o.q.c]]) ∧ RP w' w'.heap.size A n o.xs
def GO2 (o : Ot) (w : World) (e : Ending) (w' : World) : Prop :=
  Bel w w' ∧ ∃ A n c, e = .returned (.tuple #[.slice A n c, .agg #[.int .i64 o.e, .int .i64 o.q.a, .int .i64 o.q.l, .int .i64 o.q.c]]) ∧ RP w' w'.heap.size A n o.xs
def GOE (o : Ot) (w : World) (e : Ending) (w' : World) : Prop :=
  Bel w w' ∧ e = .returned (.tuple #[.agg #[.int .i64 o.p.a, .int .i64 o.p.l, .int .i64 o.p.c], .agg #[.int .i64 o.e, .int .i64 o.q.a, .int .i64 o.q.l, .int .i64 o.q.c]])
theorem read_o {s : ByteArray} {cs : List Int} {rest : List UInt8} (h : Cps s.data.toList cs rest) (w : World) : Calls Tryz.prog 48 #[.string s] w (GO3 (ot s.size cs rest) w) := by
  unfold ot
  by_cases h1 : 4000 < s.size
  · rw [if_pos h1]
    exact (read_long h1 w).mono fun e w' k => ⟨k.1, none, 0, 0, k.2, RP.nil_⟩
  · rw [if_neg h1]
    by_cases hr : rest = []
    · rw [if_pos hr]
      refine (read_cps h (by omega) w).mono fun e w' k => ⟨k.1, ?_⟩
      have := k.2
      rw [if_pos hr] at this
      exact this
    · rw [if_neg hr]
      refine (read_cps h (by omega) w).mono fun e w' k => ⟨k.1, none, 0, 0, ?_, RP.nil_⟩
      have := k.2
      rw [if_neg hr] at this
      exact this
theorem RP.put4 {w : World} {B n g : Nat} {A : Option Addr} {xs : List Pn} {t : TypeId} {a b c d : Int} (h : RP w B A n xs) (hg : w.heap[g]? = some (.cells #[.int .i64 a, .int .i64 b, .int .i64 c, .int .i64 d] t (0, 0))) (v0 v1 v2 v3 : Value) :
    RP ((((w.setCell ⟨g, 0, none⟩ v0).setCell ⟨g, 1, none⟩ v1).setCell ⟨g, 2, none⟩ v2).setCell ⟨g, 3, none⟩ v3) B A n xs := by
  refine ⟨h.1, fun hn => ?_⟩
  obtain ⟨b, off, e, hb, hc⟩ := h.2 hn
  obtain ⟨x, hx⟩ : ∃ x, xs[0]? = some x := ⟨_, List.getElem?_eq_getElem (by have := h.1; omega)⟩
  have hne : b ≠ g := by
    rintro rfl
    have h0 := (hc 0 x hx).1
    simp only [World.cell?, hg, Option.isSome_none, Bool.false_eq_true, if_false] at h0
    match off, h0 with
    | 0, h0 => simp at h0
    | 1, h0 => simp at h0
    | 2, h0 => simp at h0
    | 3, h0 => simp at h0
    | _ + 4, h0 => simp at h0
  refine ⟨b, off, e, hb, fun j y hy => ?_⟩
  have K : ∀ o, ((((w.setCell ⟨g, 0, none⟩ v0).setCell ⟨g, 1, none⟩ v1).setCell ⟨g, 2, none⟩ v2).setCell ⟨g, 3, none⟩ v3).cell? ⟨b, o, none⟩ = w.cell? ⟨b, o, none⟩ := fun o => by
    rw [World.cell?_setCell_other, World.cell?_setCell_other, World.cell?_setCell_other, World.cell?_setCell_other]
    all_goals (intro e; injection e; omega)
  rw [K, K, K, K]
  exact hc j y hy
theorem RP.drew {w : World} {B n : Nat} {A : Option Addr} {xs : List Pn} (h : RP w B A n xs) : RP w.drew B A n xs := h
set_option maxHeartbeats 2000000 in
theorem points_any {s : ByteArray} {cs : List Int} {rest : List UInt8} (h : Cps s.data.toList cs rest) (w : World) : Calls Tryz.prog 32 #[.string s] w (GO2 (ot s.size cs rest) w) := by
  obtain ⟨o, ho⟩ : ∃ o, o = ot s.size cs rest := ⟨_, rfl⟩
  have HC : Hid (∀ w, Calls Tryz.prog 48 #[.string s] w (GO3 o w)) := Lib.hid (fun w => by rw [ho]; exact read_o h w)
  rw [← ho]
  clear h ho
  go_enter Tryz.func32, Tryz.ntmps32
  go_wp2_with fail
  refine (HC.out _).mono ?_
  rintro e w1 ⟨hb, A, n, c, rfl, hq⟩
  have hb2 := (((Bel.refl w).alloc (.cells #[.int .i64 0, .int .i64 0, .int .i64 0, .int .i64 0] 34)).on hb)
  obtain ⟨d0, d1, d2, d3, df0, df1, df2, df3⟩ := cells4 (hb.blk (blk1 w (.cells #[.int .i64 0, .int .i64 0, .int .i64 0, .int .i64 0] 34)))
  have hsz : w.heap.size < w1.heap.size := by have := hb.size; simp at this; omega
  have HB := Lib.hid hb2
  have HQ := Lib.hid hq
  have HD := Lib.hid (hb.blk (blk1 w (.cells #[.int .i64 0, .int .i64 0, .int .i64 0, .int .i64 0] 34)))
  clear hb hb2 hq
  go_wp2_with fail
  go_region_with (fail)
  all_goals
    go_wp2
    refine bodyPost_ret (v := .tuple #[.slice A n c, .agg #[.int .i64 o.e, .int .i64 o.q.a, .int .i64 o.q.l, .int .i64 o.q.c]]) ?_ rfl ⟨?_, A, n, c, rfl, ?_⟩
    · simp [results, Tryz.results32, go_sem, *]
    · repeat (first | with_reducible exact HB.out | with_reducible refine Bel.set_ ?_ (by simp) _ | with_reducible refine Bel.alloc ?_ _ | with_reducible refine Bel.drew ?_)
    · have hr := (HQ.out.put4 HD.out (.int .i64 o.e) (.int .i64 o.q.a) (.int .i64 o.q.l) (.int .i64 o.q.c)).more (B' := ((((w1.setCell ⟨w.heap.size, 0, none⟩ (.int .i64 o.e)).setCell ⟨w.heap.size, 1, none⟩ (.int .i64 o.q.a)).setCell ⟨w.heap.size, 2, none⟩ (.int .i64 o.q.l)).setCell ⟨w.heap.size, 3, none⟩ (.int .i64 o.q.c)).heap.size) (by simp)
      exact hr.bel ((((Bel.refl _).alloc _).alloc _).drew)
end Go.Proofs.YteockaolmobmeaaGreatDoor.Mu
namespace Go.Proofs.YteockaolmobmeaaGreatDoor.Mu
open Go.RowKit Go.Shelf

def lenV : Value → Nat
  | .slice _ n _ => n
  | _ => 0
end Go.Proofs.YteockaolmobmeaaGreatDoor.Mu
namespace Go.Proofs.YteockaolmobmeaaGreatDoor.Mu
open Go.RowKit Go.Shelf
set_option maxRecDepth 100000

def allB (l : List Int) : Bool := l.all cpB
theorem allB_iff (l : List Int) : allB l = true ↔ AllCp l := by simp [allB, AllCp]
/-- What Put answers: the text and the error. -/
def putS (l : List Int) : List UInt8 := if allB l = true ∧ (encs l).length ≤ 4000 then encs l else []
def putE (l : List Int) : Int := if allB l = true then (if (encs l).length ≤ 4000 then 0 else 3) else 2
def GPut (l : List Int) (w : World) (e : Ending) (w' : World) : Prop := Bel w w' ∧ e = .returned (.tuple #[.string ⟨(putS l).toArray⟩, .int .i64 (putE l)])
theorem runes_encs (l : List Int) : runesBytes l = ⟨(encs l).toArray⟩ := by
  have : ∀ (l : List Int) (r : ByteArray), l.foldl (fun r n => r ++ Utf8.encode n) r = ⟨r.data ++ (encs l).toArray⟩ := by
    intro l
    induction l with
    | nil => intro r; simp [encs]
    | cons x l ih =>
      intro r
      rw [List.foldl_cons, ih]
      apply ByteArray.ext
      rw [encs_cons]
      apply Array.ext'
      simp [enc, ByteArray.data_append]
  unfold runesBytes
  rw [this]
  apply ByteArray.ext
  apply Array.ext'
  simp [ByteArray.empty, ByteArray.emptyWithCapacity]
  rfl
theorem runes_run {w : World} {A : Option Addr} {n c : Nat} {l : List Int} (h : RI .i32 w w.heap.size A n l) : (convert 126 9 (.slice A n c)).run Tryz.prog w = .ok (.string ⟨(encs l).toArray⟩) w := by
  rcases Nat.eq_zero_or_pos n with h0 | h0
  · have hl : l = [] := List.eq_nil_of_length_eq_zero (by have := h.len; omega)
    subst hl
    subst h0
    cases A with
    | none => rw [run_convert_runes_nil w _ _ 21 _ _ Tryz.underlying126 Tryz.underlying21 Tryz.underlying9]; rfl
    | some a =>
      rw [run_convert_runes w _ _ 21 a 0 c [] (by simp) Tryz.underlying126 Tryz.underlying21 Tryz.underlying9 (fun j hj => by simp at hj)]
      rfl
  · obtain ⟨b, off, rfl, hb, hc⟩ := h.at_ h0
    rw [run_convert_runes w _ _ 21 ⟨b, off, none⟩ n c l (by have := h.len; omega) Tryz.underlying126 Tryz.underlying21 Tryz.underlying9 (fun j hj => by
      rw [Addr.add_lit, hc j (by have := h.len; omega)]; simp [List.getD])]
    rw [List.take_of_length_le (by have := h.len; omega), runes_encs]
theorem allB_no {l : List Int} {j : Nat} {x : Int} (hx : l[j]? = some x) (h : cpB x = false) : allB l = false := by
  rw [Bool.eq_false_iff]; intro h'
  have := (allB_iff l).1 h' x (List.mem_of_getElem? hx)
  rw [h] at this; cases this
theorem allcp_take {l : List Int} {j : Nat} {x : Int} (h : AllCp (l.take j)) (hx : l[j]? = some x) (hc : cpB x = true) : AllCp (l.take (j + 1)) ∧ (encs (l.take (j + 1))).length = (encs (l.take j)).length + wid x ∧ encs (l.take (j + 1)) = encs (l.take j) ++ enc x := by
  have hlt := (List.getElem?_eq_some_iff.1 hx).1
  have e1 : l.take (j + 1) = l.take j ++ [x] := by
    rw [List.take_succ_eq_append_getElem hlt, (List.getElem?_eq_some_iff.1 hx).2]
  rw [e1, encs_app]
  refine ⟨h.app fun c hcc => by simp at hcc; subst hcc; exact hc, ?_, by simp [encs]⟩
  rw [List.length_append]; simp [encs, enc_len hc]
theorem enc_len4 (c : Int) : (enc c).length ≤ 4 := encode_size_le c
theorem encs_le (l : List Int) : (encs l).length ≤ 4 * l.length := by
  induction l with
  | nil => simp [encs]
  | cons x l ih => rw [encs_cons, List.length_append, List.length_cons]; have := enc_len4 x; omega
set_option maxHeartbeats 2000000 in
theorem put_any {A : Option Addr} {n c : Nat} {l : List Int} (hn : n ≤ 1000000000) (w : World) (h : RI .i32 w w.heap.size A n l) : Calls Tryz.prog 91 #[.slice A n c] w (GPut l w) := by
  have hcv := runes_run (c := c) h
  have H := Lib.hid h
  have hle := encs_le l
  rw [← h.len] at hle
  have HLE := Lib.hid hle
  clear h hle
  go_enter Tryz.func91, Tryz.ntmps91
  go_wp2
  go_loop [4, 9] (fun v i => ∃ j : Nat, j ≤ n ∧ i = .int .i64 j ∧ v = .int .i64 (encs (l.take j)).length ∧ Hid (AllCp (l.take j))) (fun _ i => n - (intOf i).toNat)
  case atStart => exact ⟨0, Nat.zero_le _, rfl, rfl, fun c hc => by simp at hc⟩
  case round =>
    obtain ⟨j, hj, rfl, rfl, HA⟩ := hrel
    by_cases hlt : j < n
    · obtain ⟨x, hx⟩ : ∃ x, l[j]? = some x := ⟨_, List.getElem?_eq_getElem (by have := H.out.len; omega)⟩
      obtain ⟨b, off, rfl, hb, hc⟩ := H.out.at_ (by omega)
      have hcx := hc j hlt
      rw [hx] at hcx
      simp only [Option.getD_some] at hcx
      have HX := Lib.hid hx
      have hel : (encs (l.take j)).length ≤ 4 * j := by
        have := encs_le (l.take j)
        rw [List.length_take] at this; omega
      obtain ⟨m, hm⟩ : ∃ m, m = (encs (l.take j)).length := ⟨_, rfl⟩
      rw [← hm] at hel ⊢
      have HM := Lib.hid hm
      clear hc hx hm
      by_cases hcp : cpB x = true
      · have hw := wid_pos x
        have HCP := Lib.hid hcp
        clear hcp
        go_wp2_with (first | (go_at_call 103; refine (show ∀ w, Calls Tryz.prog 103 #[.int .i32 x] w fun e w' => e = .returned (.bool true) ∧ w = w' from fun w => (vr_any x w).mono fun _ _ k => ⟨by rw [k.1, HCP.out], k.2⟩) _ |>.mono ?_; rintro e w' ⟨rfl, rfl⟩) | (go_at_call 88; refine (rl_any HCP.out _).mono ?_; rintro e w' ⟨rfl, rfl⟩))
        go_round
        case rel =>
          obtain ⟨a1, a2, -⟩ := allcp_take HA.out HX.out HCP.out
          exact ⟨j + 1, by omega, by go_num, by rw [a2, ← HM.out]; go_num, a1⟩
        case measure => simp [intOf]; omega
      · have hcp : cpB x = false := by simpa using hcp
        have HCP := Lib.hid hcp
        clear hcp
        go_wp2_with (go_at_call 103; refine (show ∀ w, Calls Tryz.prog 103 #[.int .i32 x] w fun e w' => e = .returned (.bool false) ∧ w = w' from fun w => (vr_any x w).mono fun _ _ k => ⟨by rw [k.1, HCP.out], k.2⟩) _ |>.mono ?_; rintro e w' ⟨rfl, rfl⟩)
        go_ret2
        refine ⟨Bel.refl _, ?_⟩
        have := allB_no HX.out HCP.out
        simp [putS, putE, this]
    · obtain rfl : j = n := by omega
      have hlj : l.take j = l := List.take_of_length_le (by have := H.out.len; omega)
      have hA : allB l = true := (allB_iff l).2 (by have := HA.out; rwa [hlj] at this)
      rw [hlj]
      have HAL := Lib.hid hA
      clear hA
      clear hlj
      by_cases hmax : (encs l).length ≤ 4000
      · have hm2 : ((encs l).length : Int) ≤ 4000 := by omega
        have HM := Lib.hid hmax
        clear hmax
        go_wp2
        go_ret2
        exact ⟨Bel.refl _, by simp [putS, putE, HAL.out, HM.out]⟩
      · have hm2 : (4000 : Int) < ((encs l).length : Int) := by omega
        have HM := Lib.hid hmax
        clear hmax
        go_wp2
        go_ret2
        exact ⟨Bel.refl _, by simp [putS, putE, HAL.out, HM.out]⟩
theorem RI.anyBel {kd : IntKind} {w w' : World} {A : Option Addr} {n : Nat} {l : List Int} (h : RI kd w w.heap.size A n l) (hb : Bel w w') : RI kd w' w'.heap.size A n l := h.bel hb
end Go.Proofs.YteockaolmobmeaaGreatDoor.Mu

