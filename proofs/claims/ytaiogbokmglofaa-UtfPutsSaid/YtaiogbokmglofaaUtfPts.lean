/-
  Points and End of utf, and the document's Points, walked; whether two lists of points are one.
-/
import Derived.Test.YtaiogbokmglofaaUtfRead
import Derived.Test.YtaiogbokmglofaaUtfEq
namespace Go.Proofs.Ytaiogbokmglofaa.Mu
open Go.RowKit Go.Shelf

/-- What reading a text comes to: its points, the place behind them; an error's number and place. -/
structure Ot where
  xs : List Pn
  p : Pl
  e : Int
  q : Pl
def ot (n : Nat) (cs : List Int) (rest : List UInt8) : Ot :=
  if 4000 < n then ⟨[], z0, 3, z0⟩ else if rest = [] then ⟨place p0 cs, ends p0 cs, 0, z0⟩ else ⟨[], z0, 90, ends p0 cs⟩
/-- It tells that: three values, two of them, two others. -/
def GO3 (o : Ot) (w : World) (e : Ending) (w' : World) : Prop :=
  Bel w w' ∧ ∃ A n c, e = .returned (.tuple #[.slice A n c, .agg #[.int .i64 o.p.a, .int .i64 o.p.l, .int .i64 o.p.c], .agg #[.int .i64 o.e, .int .i64 o.q.a, .int .i64 o.q.l, .int .i64 o.q.c]]) ∧ RP w' w'.heap.size A n o.xs
def GO2 (o : Ot) (w : World) (e : Ending) (w' : World) : Prop :=
  Bel w w' ∧ ∃ A n c, e = .returned (.tuple #[.slice A n c, .agg #[.int .i64 o.e, .int .i64 o.q.a, .int .i64 o.q.l, .int .i64 o.q.c]]) ∧ RP w' w'.heap.size A n o.xs
def GOE (o : Ot) (w : World) (e : Ending) (w' : World) : Prop :=
  Bel w w' ∧ e = .returned (.tuple #[.agg #[.int .i64 o.p.a, .int .i64 o.p.l, .int .i64 o.p.c], .agg #[.int .i64 o.e, .int .i64 o.q.a, .int .i64 o.q.l, .int .i64 o.q.c]])
theorem read_o {s : ByteArray} {cs : List Int} {rest : List UInt8} (h : Cps s.data.toList cs rest) (w : World) : Calls Try.prog 15 #[.string s] w (GO3 (ot s.size cs rest) w) := by
  unfold ot
  by_cases h1 : 4000 < s.size
  · rw [if_pos h1]
    exact (read_long h1 w).mono fun e w' k => ⟨k.1, none, 0, 0, k.2, RP.nil_⟩
  · rw [if_neg h1]
    by_cases hr : rest = []
    · rw [if_pos hr]
      refine (read_cps h (by omega) w).mono fun e w' k => ⟨k.1, ?_⟩
      have := k.2
      rw [if_pos hr] at this
      exact this
    · rw [if_neg hr]
      refine (read_cps h (by omega) w).mono fun e w' k => ⟨k.1, none, 0, 0, ?_, RP.nil_⟩
      have := k.2
      rw [if_neg hr] at this
      exact this
theorem RP.put4 {w : World} {B n g : Nat} {A : Option Addr} {xs : List Pn} {t : TypeId} {a b c d : Int} (h : RP w B A n xs) (hg : w.heap[g]? = some (.cells #[.int .i64 a, .int .i64 b, .int .i64 c, .int .i64 d] t (0, 0))) (v0 v1 v2 v3 : Value) :
    RP ((((w.setCell ⟨g, 0, none⟩ v0).setCell ⟨g, 1, none⟩ v1).setCell ⟨g, 2, none⟩ v2).setCell ⟨g, 3, none⟩ v3) B A n xs := by
  refine ⟨h.1, fun hn => ?_⟩
  obtain ⟨b, off, e, hb, hc⟩ := h.2 hn
  obtain ⟨x, hx⟩ : ∃ x, xs[0]? = some x := ⟨_, List.getElem?_eq_getElem (by have := h.1; omega)⟩
  have hne : b ≠ g := by
    rintro rfl
    have h0 := (hc 0 x hx).1
    simp only [World.cell?, hg, Option.isSome_none, Bool.false_eq_true, if_false] at h0
    match off, h0 with
    | 0, h0 => simp at h0
    | 1, h0 => simp at h0
    | 2, h0 => simp at h0
    | 3, h0 => simp at h0
    | _ + 4, h0 => simp at h0
  refine ⟨b, off, e, hb, fun j y hy => ?_⟩
  have K : ∀ o, ((((w.setCell ⟨g, 0, none⟩ v0).setCell ⟨g, 1, none⟩ v1).setCell ⟨g, 2, none⟩ v2).setCell ⟨g, 3, none⟩ v3).cell? ⟨b, o, none⟩ = w.cell? ⟨b, o, none⟩ := fun o => by
    rw [World.cell?_setCell_other, World.cell?_setCell_other, World.cell?_setCell_other, World.cell?_setCell_other]
    all_goals (intro e; injection e; omega)
  rw [K, K, K, K]
  exact hc j y hy
theorem RP.drew {w : World} {B n : Nat} {A : Option Addr} {xs : List Pn} (h : RP w B A n xs) : RP w.drew B A n xs := h
set_option maxHeartbeats 2000000 in
theorem points_any {s : ByteArray} {cs : List Int} {rest : List UInt8} (h : Cps s.data.toList cs rest) (w : World) : Calls Try.prog 9 #[.string s] w (GO2 (ot s.size cs rest) w) := by
  obtain ⟨o, ho⟩ : ∃ o, o = ot s.size cs rest := ⟨_, rfl⟩
  have HC : Hid (∀ w, Calls Try.prog 15 #[.string s] w (GO3 o w)) := Lib.hid (fun w => by rw [ho]; exact read_o h w)
  rw [← ho]
  clear h ho
  go_enter Try.func9, Try.ntmps9
  go_wp2_with fail
  refine (HC.out _).mono ?_
  rintro e w1 ⟨hb, A, n, c, rfl, hq⟩
  have hb2 := (((Bel.refl w).alloc (.cells #[.int .i64 0, .int .i64 0, .int .i64 0, .int .i64 0] 28)).on hb)
  obtain ⟨d0, d1, d2, d3, df0, df1, df2, df3⟩ := cells4 (hb.blk (blk1 w (.cells #[.int .i64 0, .int .i64 0, .int .i64 0, .int .i64 0] 28)))
  have hsz : w.heap.size < w1.heap.size := by have := hb.size; simp at this; omega
  have HB := Lib.hid hb2
  have HQ := Lib.hid hq
  have HD := Lib.hid (hb.blk (blk1 w (.cells #[.int .i64 0, .int .i64 0, .int .i64 0, .int .i64 0] 28)))
  clear hb hb2 hq
  go_wp2_with fail
  go_region_with (fail)
  all_goals
    go_wp2
    refine bodyPost_ret (v := .tuple #[.slice A n c, .agg #[.int .i64 o.e, .int .i64 o.q.a, .int .i64 o.q.l, .int .i64 o.q.c]]) ?_ rfl ⟨?_, A, n, c, rfl, ?_⟩
    · simp [results, Try.results9, go_sem, *]
    · repeat (first | with_reducible exact HB.out | with_reducible refine Bel.set_ ?_ (by simp) _ | with_reducible refine Bel.alloc ?_ _ | with_reducible refine Bel.drew ?_)
    · have hr := (HQ.out.put4 HD.out (.int .i64 o.e) (.int .i64 o.q.a) (.int .i64 o.q.l) (.int .i64 o.q.c)).more (B' := ((((w1.setCell ⟨w.heap.size, 0, none⟩ (.int .i64 o.e)).setCell ⟨w.heap.size, 1, none⟩ (.int .i64 o.q.a)).setCell ⟨w.heap.size, 2, none⟩ (.int .i64 o.q.l)).setCell ⟨w.heap.size, 3, none⟩ (.int .i64 o.q.c)).heap.size) (by simp)
      exact hr.bel ((((Bel.refl _).alloc _).alloc _).drew)
set_option maxHeartbeats 2000000 in
theorem end_any {s : ByteArray} {cs : List Int} {rest : List UInt8} (h : Cps s.data.toList cs rest) (w : World) : Calls Try.prog 10 #[.string s] w (GOE (ot s.size cs rest) w) := by
  obtain ⟨o, ho⟩ : ∃ o, o = ot s.size cs rest := ⟨_, rfl⟩
  have HC : Hid (∀ w, Calls Try.prog 15 #[.string s] w (GO3 o w)) := Lib.hid (fun w => by rw [ho]; exact read_o h w)
  rw [← ho]
  clear h ho
  go_enter Try.func10, Try.ntmps10
  go_wp2_with fail
  refine (HC.out _).mono ?_
  rintro e w1 ⟨hb, A, n, c, rfl, -⟩
  have hb2 := ((((Bel.refl w).alloc (.cells #[.int .i64 0, .int .i64 0, .int .i64 0] 26)).alloc (.cells #[.int .i64 0, .int .i64 0, .int .i64 0, .int .i64 0] 28)).on hb)
  have hk := blk2 w (.cells #[.int .i64 0, .int .i64 0, .int .i64 0] 26) (.cells #[.int .i64 0, .int .i64 0, .int .i64 0, .int .i64 0] 28)
  obtain ⟨d0, d1, d2, d3, df0, df1, df2, df3⟩ := cells4 (hb.blk hk.2)
  obtain ⟨z0, z1, z2, zf0, zf1, zf2⟩ := cells3 (hb.blk hk.1)
  have hsz : w.heap.size + 1 < w1.heap.size := by have := hb.size; simp at this; omega
  have hsz0 : w.heap.size < w1.heap.size := by omega
  have HB := Lib.hid hb2
  clear hb hb2 hk
  go_wp2_with fail
  go_region_with (fail)
  all_goals
    go_wp2
    refine bodyPost_ret (v := .tuple #[.agg #[.int .i64 o.p.a, .int .i64 o.p.l, .int .i64 o.p.c], .agg #[.int .i64 o.e, .int .i64 o.q.a, .int .i64 o.q.l, .int .i64 o.q.c]]) ?_ rfl ⟨?_, rfl⟩
    · simp [results, Try.results10, go_sem, *]
    · repeat (first | with_reducible exact HB.out | with_reducible refine Bel.set_ ?_ (by simp) _ | with_reducible refine Bel.alloc ?_ _ | with_reducible refine Bel.drew ?_)
end Go.Proofs.Ytaiogbokmglofaa.Mu

