/-
  A token of code points; a name, a constructor's name, a word, a number: walked.
-/
import Derived.Test.YteockaolmobmeaaGreatDoorLexSkip
namespace Go.Proofs.YteockaolmobmeaaGreatDoor.Mu
open Go.RowKit Go.Shelf
set_option maxRecDepth 100000

theorem cells6 {w : World} {g : Nat} {t : TypeId} {x0 x1 x2 x3 x4 x5 : Value} (h : w.heap[g]? = some (.cells #[x0, x1, x2, x3, x4, x5] t (0, 0))) :
    (w.cell? ⟨g, 0, none⟩ = some x0 ∧ w.cell? ⟨g, 1, none⟩ = some x1 ∧ w.cell? ⟨g, 2, none⟩ = some x2 ∧ w.cell? ⟨g, 3, none⟩ = some x3 ∧ w.cell? ⟨g, 4, none⟩ = some x4 ∧ w.cell? ⟨g, 5, none⟩ = some x5) ∧
      w.frozen? ⟨g, 0, none⟩ = false ∧ w.frozen? ⟨g, 1, none⟩ = false ∧ w.frozen? ⟨g, 2, none⟩ = false ∧ w.frozen? ⟨g, 3, none⟩ = false ∧ w.frozen? ⟨g, 4, none⟩ = false ∧ w.frozen? ⟨g, 5, none⟩ = false := by
  simp [World.cell?, World.frozen?, h]
/-- The two boxes of what is answered. -/
def bxT : Obj := .cells #[.int .u8 0, .string ⟨#[]⟩, .int .i64 0, .int .i64 0, .int .i64 0, .int .i64 0] 44
def bxD : Obj := .cells #[.int .i64 0, .int .i64 0, .int .i64 0, .int .i64 0] 34
/-- A token and no error, as a call hands them back. -/
def tkV (k : Int) (s : List UInt8) (n : Int) : Value := .tuple #[.agg #[.int .u8 k, .string ⟨s.toArray⟩, .int .i64 n, .int .i64 0, .int .i64 0, .int .i64 0], .agg #[.int .i64 0, .int .i64 0, .int .i64 0, .int .i64 0]]
/-- An error at a place, as a call hands it back. -/
def erV (e : Int) (p : Pl) : Value := .tuple #[.agg #[.int .u8 0, .string ⟨#[]⟩, .int .i64 0, .int .i64 0, .int .i64 0, .int .i64 0], .agg #[.int .i64 e, .int .i64 p.a, .int .i64 p.l, .int .i64 p.c]]
theorem withText_any {A : Option Addr} {n c : Nat} {l : List Int} (k : Int) (hl : AllCp l) (hn : (encs l).length ≤ 4000) (w : World) (h : RI .i32 w w.heap.size A n l) :
    Calls Tryz.prog 75 #[.int .u8 k, .slice A n c] w fun e w' => e = .returned (tkV k (encs l) 0) ∧ Bel w w' := by
  have hn2 : n ≤ 1000000000 := by have := h.len; have := encs_len_ge hl; omega
  have HP : Hid (∀ w, RI .i32 w w.heap.size A n l → Calls Tryz.prog 91 #[.slice A n c] w (GPut l w)) := Lib.hid fun w h => put_any hn2 w h
  have H := Lib.hid h
  have HL := Lib.hid hl
  have HN := Lib.hid hn
  clear h hl hn
  go_enter Tryz.func75, Tryz.ntmps75
  go_wp2_with fail
  have hb2 : Bel w ((w.alloc bxT).alloc bxD) := ((Bel.refl w).alloc _).alloc _
  refine (HP.out _ (H.out.bel hb2)).mono ?_
  rintro e w1 ⟨hb, rfl⟩
  have hS : putS l = encs l := by unfold putS; rw [if_pos ⟨(allB_iff l).2 HL.out, HN.out⟩]
  have hE : putE l = 0 := by unfold putE; rw [if_pos ((allB_iff l).2 HL.out), if_pos HN.out]
  rw [hS, hE]
  clear hS hE
  obtain ⟨q1, q2⟩ := blk2 w bxT bxD
  obtain ⟨⟨c0, c1, c2, c3, c4, c5⟩, f0, f1, f2, f3, f4, f5⟩ := cells6 (hb.blk q1)
  obtain ⟨d0, d1, d2, d3, g0, g1, g2, g3⟩ := cells4 (hb.blk q2)
  have HB := Lib.hid (hb2.on hb)
  have hs1 : w.heap.size + 2 ≤ w1.heap.size := by have := hb.size; simpa using this
  clear hb hb2 q1 q2
  go_wp2
  refine bodyPost_ret (v := tkV k (encs l) 0) ?_ rfl ⟨rfl, ?_⟩
  · simp [tkV, results, Tryz.results75, go_sem, *]
  · repeat (first | with_reducible exact HB.out | with_reducible refine Bel.set_ ?_ (by simp) _ | with_reducible refine Bel.alloc ?_ _ | with_reducible refine Bel.drew ?_)
end Go.Proofs.YteockaolmobmeaaGreatDoor.Mu

