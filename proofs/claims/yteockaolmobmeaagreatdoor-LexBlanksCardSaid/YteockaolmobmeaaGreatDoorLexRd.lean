/-
  The reader of code points, in memory; what it looks at next: walked.
-/
import Derived.Test.YteockaolmobmeaaGreatDoorLxTok
import Derived.Test.YteockaolmobmeaaGreatDoorLxUtf
import Derived.Laws.RangeString
namespace Go.Proofs.YteockaolmobmeaaGreatDoor.Mu
open Go.RowKit Go.Shelf
set_option maxRecDepth 100000

/-- But for block g all that was there is as it was. -/
structure Kr (g : Nat) (w w' : World) : Prop where
  os : w'.os = w.os
  tape : w'.tape = w.tape
  output : w'.output = w.output
  size : w.heap.size ≤ w'.heap.size
  block : ∀ i, i < w.heap.size → i ≠ g → w'.heap[i]? = w.heap[i]?
section
variable {g : Nat} {a b c : World}
theorem Kr.refl (g : Nat) (w : World) : Kr g w w := ⟨rfl, rfl, rfl, Nat.le_refl _, fun _ _ _ => rfl⟩
theorem Kr.of_bel (h : Bel a b) : Kr g a b := ⟨h.os, h.tape, h.output, h.size, fun i hi _ => h.block i hi⟩
theorem Kr.on (h : Kr g a b) (k : Kr g b c) : Kr g a c :=
  ⟨k.os.trans h.os, k.tape.trans h.tape, k.output.trans h.output, Nat.le_trans h.size k.size, fun i hi hn => (k.block i (Nat.lt_of_lt_of_le hi h.size) hn).trans (h.block i hi hn)⟩
theorem Kr.bel (h : Kr g a b) (k : Bel b c) : Kr g a c := h.on (.of_bel k)
theorem Kr.set_ (h : Kr g a b) (o : Nat) (v : Value) : Kr g a (b.setCell ⟨g, o, none⟩ v) := by
  have k : Below g b (b.setCell ⟨g, o, none⟩ v) := Below.setCell (p := ⟨g, o, none⟩) (Below.refl _ _) (Nat.le_refl _) v
  refine ⟨k.os.trans h.os, k.tape.trans h.tape, k.output.trans h.output, by simpa using h.size, fun i hi hn => ?_⟩
  rw [Below.heap_setCell _ _ _ _ (by show i ≠ g; exact hn)]
  exact h.block i hi hn
theorem Kr.keep (h : Kr g a b) {i : Nat} {o : Obj} (hi : a.heap[i]? = some o) (hn : i ≠ g) : b.heap[i]? = some o := by
  rw [h.block i (Array.getElem?_eq_some_iff.1 hi).1 hn]; exact hi
theorem Kr.below (h : Kr g a b) (hg : g ≤ a.heap.size) : Below g a b := ⟨h.os, h.tape, h.output, h.size, fun i hi => h.block i (by omega) (by omega)⟩
/-- A world of its own: but for a block laid since, all is as it was. -/
theorem Kr.own (h : Kr g a b) (hg : a.heap.size ≤ g) : Bel a b := ⟨h.os, h.tape, h.output, h.size, fun i hi => h.block i hi (by omega)⟩
theorem Kr.weak {w : World} (h : Bel w a) (k : Kr g a b) (hg : w.heap.size ≤ g) : Bel w b :=
  ⟨k.os.trans h.os, k.tape.trans h.tape, k.output.trans h.output, Nat.le_trans h.size k.size, fun i hi => (k.block i (by have := h.size; omega) (by omega)).trans (h.block i hi)⟩
end

/-- The reader, in its block, at its place; the points lie below. -/
structure Rdr (w : World) (g : Nat) (A : Option Addr) (n c : Nat) (xs : List Pn) (i : Nat) : Prop where
  hp : w.heap[g]? = some (.cells #[.slice A n c, .int .i64 i] 66 (0, 0))
  rp : RP w g A n xs
  le : i ≤ n
  small : n ≤ 4000
section
variable {w w' : World} {g : Nat} {A : Option Addr} {n c : Nat} {xs : List Pn} {i : Nat}
theorem Rdr.bel (h : Rdr w g A n c xs i) (hb : Bel w w') : Rdr w' g A n c xs i :=
  ⟨hb.blk h.hp, h.rp.keep fun b o hbb => hb.cell (p := ⟨b, o, none⟩) (Nat.lt_trans hbb (Array.getElem?_eq_some_iff.1 h.hp).1), h.le, h.small⟩
theorem Rdr.lt (h : Rdr w g A n c xs i) : g < w.heap.size := (Array.getElem?_eq_some_iff.1 h.hp).1
theorem Rdr.set_ (h : Rdr w g A n c xs i) {k : Nat} (hk : k ≤ n) : Rdr (w.setCell ⟨g, 1, none⟩ (.int .i64 k)) g A n c xs k :=
  ⟨by simp [World.setCell, Array.getElem?_modify, h.hp], h.rp.keep fun b o hb => World.cell?_of_block (a := ⟨b, o, none⟩) (Below.heap_setCell _ _ _ _ (by show b ≠ g; omega)), hk, h.small⟩
theorem Rdr.len (h : Rdr w g A n c xs i) : n = xs.length := h.rp.len
theorem Rdr.cells (h : Rdr w g A n c xs i) : w.cell? ⟨g, 0, none⟩ = some (.slice A n c) ∧ w.cell? ⟨g, 1, none⟩ = some (.int .i64 i) ∧ w.frozen? ⟨g, 0, none⟩ = false ∧ w.frozen? ⟨g, 1, none⟩ = false := by
  simp [World.cell?, World.frozen?, h.hp]
/-- What stands next. -/
theorem Rdr.at_ (h : Rdr w g A n c xs i) (hi : i < n) : ∃ b off x, A = some ⟨b, off, none⟩ ∧ xs[i]? = some x ∧ w.cell? ⟨b, off + i * 4, none⟩ = some (.int .i32 x.r) ∧ w.cell? ⟨b, off + i * 4 + 1, none⟩ = some (.int .i64 x.p.a) ∧ w.cell? ⟨b, off + i * 4 + 2, none⟩ = some (.int .i64 x.p.l) ∧ w.cell? ⟨b, off + i * 4 + 3, none⟩ = some (.int .i64 x.p.c) := by
  obtain ⟨b, off, rfl, hb, hc⟩ := h.rp.at_ (by omega)
  obtain ⟨x, hx⟩ : ∃ x, xs[i]? = some x := ⟨_, List.getElem?_eq_getElem (by have := h.len; omega)⟩
  exact ⟨b, off, x, rfl, hx, hc i x hx⟩
end
/-- A code point's kind. -/
def kdN (c : Int) : Int := if isBl c = true then 1 else if isDig c = true then 2 else if isSm c = true then 3 else if isGr c = true then 4 else if c = 95 ∨ c = 39 then 5 else if c = 34 then 6 else 0
def kdL : List Int → Int
  | [] => 1
  | c :: _ => kdN c
def iwK (k : Int) : Bool := decide (k = 2 ∨ k = 3 ∨ k = 4 ∨ k = 5)
theorem iw_kd (c : Int) : iwK (kdN c) = isW c := by
  unfold iwK kdN isW isBl isDig isSm isGr
  rw [Bool.eq_iff_iff]
  simp only [decide_eq_true_eq, Bool.or_eq_true]
  repeat' split
  all_goals omega
theorem kindOf_any (c : Int) (w : World) : Calls Tryz.prog 71 #[.int .i32 c] w fun e w' => e = .returned (.int .u8 (kdN c)) ∧ w = w' := by
  go_enter Tryz.func71, Tryz.ntmps71
  go_wp2
  all_goals (go_ret; refine ⟨ret_int ?_, rfl⟩; unfold kdN isBl isDig isSm isGr; simp only [Bool.or_eq_true, decide_eq_true_eq]; repeat' split; all_goals (simp_all; try omega))
theorem kinW_any (k : Int) (w : World) : Calls Tryz.prog 89 #[.int .u8 k] w fun e w' => e = .returned (.bool (iwK k)) ∧ w = w' := by
  go_enter Tryz.func89, Tryz.ntmps89
  go_wp2
  all_goals (go_ret; refine ⟨ret_bool ?_, rfl⟩; unfold iwK; rw [Bool.eq_iff_iff]; simp_all; try omega)
theorem more_any {g : Nat} {A : Option Addr} {n c : Nat} {xs : List Pn} {i : Nat} (w : World) (h : Rdr w g A n c xs i) : Calls Tryz.prog 34 #[.pointer (some ⟨g, 0, none⟩)] w fun e w' => e = .returned (.bool (decide (i < n))) ∧ Bel w w' := by
  obtain ⟨c0, c1, f0, f1⟩ := h.cells
  have hs := h.small
  have hl := h.le
  clear h
  go_enter Tryz.func34, Tryz.ntmps34
  go_wp2
  all_goals go_region
  all_goals
    go_wp2
    all_goals (go_ret; exact ⟨ret_bool (by simp), (Bel.refl w).drew⟩)
theorem kind_any {g : Nat} {A : Option Addr} {n c : Nat} {xs : List Pn} {i : Nat} (w : World) (h : Rdr w g A n c xs i) : Calls Tryz.prog 49 #[.pointer (some ⟨g, 0, none⟩)] w fun e w' => e = .returned (.int .u8 (kdL ((xs.map Pn.r).drop i))) ∧ Bel w w' := by
  have HC : Hid (∀ w, Rdr w g A n c xs i → Calls Tryz.prog 34 #[.pointer (some ⟨g, 0, none⟩)] w fun e w' => e = .returned (.bool (decide (i < n))) ∧ Bel w w') := Lib.hid fun w h => more_any w h
  have H := Lib.hid h
  have hln := h.len
  have hle := h.le
  have hsm := h.small
  clear h
  by_cases hlt : i < n
  · obtain ⟨x, hx⟩ : ∃ x, xs[i]? = some x := ⟨_, List.getElem?_eq_getElem (by omega)⟩
    have hk : kdL ((xs.map Pn.r).drop i) = kdN x.r := by
      have e : (xs.map Pn.r)[i]? = some x.r := by simp [hx]
      obtain ⟨hl, e2⟩ := List.getElem?_eq_some_iff.1 e
      rw [List.drop_eq_getElem_cons hl, e2]; rfl
    have HX := Lib.hid hx
    rw [hk]
    obtain ⟨kk, hkk⟩ : ∃ kk, kk = kdN x.r := ⟨_, rfl⟩
    have HO : Hid (∀ w, Calls Tryz.prog 71 #[.int .i32 x.r] w fun e w' => e = .returned (.int .u8 kk) ∧ w = w') := Lib.hid fun w => by rw [hkk]; exact kindOf_any _ w
    rw [← hkk]
    clear hk hx hkk
    go_enter Tryz.func49, Tryz.ntmps49
    go_wp2_with fail
    refine (HC.out _ H.out).mono ?_
    rintro e w1 ⟨rfl, hb⟩
    rw [decide_eq_true hlt]
    have HD := Lib.hid (H.out.bel hb)
    have HB := Lib.hid hb
    clear hb
    obtain ⟨c0, c1, f0, f1⟩ := HD.out.cells
    obtain ⟨b, off, y, rfl, hy, c2, -, -, -⟩ := HD.out.at_ hlt
    obtain rfl : y = x := Option.some.inj (hy.symm.trans HX.out)
    go_wp2_with fail
    go_region_with (go_at_call 71; refine (HO.out _).mono ?_; rintro e w2 ⟨rfl, rfl⟩)
    all_goals
      go_wp2
      go_ret
      exact ⟨rfl, HB.out.drew⟩
  · have hk : kdL ((xs.map Pn.r).drop i) = 1 := by rw [List.drop_eq_nil_of_le (by rw [List.length_map]; omega)]; rfl
    rw [hk]
    clear hk
    go_enter Tryz.func49, Tryz.ntmps49
    go_wp2_with fail
    refine (HC.out _ H.out).mono ?_
    rintro e w1 ⟨rfl, hb⟩
    rw [decide_eq_false hlt]
    have HB := Lib.hid hb
    clear hb
    go_wp2
    go_ret
    exact ⟨rfl, HB.out⟩
/-- No token, at a place. -/
theorem wrong_any {g : Nat} {A : Option Addr} {n c : Nat} {xs : List Pn} {i : Nat} (ee : Int) {k : Nat} {x : Pn} (hx : xs[k]? = some x) (w : World) (h : Rdr w g A n c xs i) : Calls Tryz.prog 72 #[.pointer (some ⟨g, 0, none⟩), .int .i64 ee, .int .i64 k] w fun e w' => e = .returned (.tuple #[.agg #[.int .u8 0, .string ⟨#[]⟩, .int .i64 0, .int .i64 0, .int .i64 0, .int .i64 0], .agg #[.int .i64 ee, .int .i64 x.p.a, .int .i64 x.p.l, .int .i64 x.p.c]]) ∧ Bel w w' := by
  have hk : k < n := by
    rw [h.len]; exact (List.getElem?_eq_some_iff.1 hx).1
  obtain ⟨c0, c1, f0, f1⟩ := h.cells
  obtain ⟨b, off, rfl, hb, hcc⟩ := h.rp.at_ (by omega)
  obtain ⟨-, a1, a2, a3⟩ := hcc k x hx
  have hsm := h.small
  have hlt := h.lt
  have hle := h.le
  have hbl : b < w.heap.size := by omega
  clear h hcc hx
  go_enter Tryz.func72, Tryz.ntmps72
  go_wp2
  all_goals go_region
  all_goals
    go_wp2
    refine bodyPost_ret (v := .tuple #[.agg #[.int .u8 0, .string ⟨#[]⟩, .int .i64 0, .int .i64 0, .int .i64 0, .int .i64 0], .agg #[.int .i64 ee, .int .i64 x.p.a, .int .i64 x.p.l, .int .i64 x.p.c]]) ?_ rfl ⟨rfl, ?_⟩
    · simp [results, Tryz.results72, go_sem, *]
    · repeat (first | exact Bel.refl _ | with_reducible refine Bel.set_ ?_ (by simp) _ | with_reducible refine Bel.alloc ?_ _ | with_reducible refine Bel.drew ?_)
end Go.Proofs.YteockaolmobmeaaGreatDoor.Mu

