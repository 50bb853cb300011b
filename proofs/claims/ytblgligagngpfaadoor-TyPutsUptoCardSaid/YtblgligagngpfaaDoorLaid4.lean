/-
  What the rows' four listed variables give the walks: the two tables that writing looks at, and that some block lies in memory.
-/
import Derived.Test.YtblgligagngpfaaDoorMultText
import Derived.Test.YtblgligagngpfaaDoorRows
import Derived.ProofKit
import Derived.LaidMore
import Derived.OpenShut
import Derived.Lib.LaidTab
import Derived.Stop.Joined
namespace Go.Proofs.YtblgligagngpfaaDoor.Mu
open Go.ChangeShapes Go.ChangeAt Go.WideMaps Go.WideElems Go.WideShapes Go.RowKit

abbrev laidList : List (String × DataW Unit) := [("math/bits.deBruijn32tab", Rows.laid_math_bits_deBruijn32tab), ("math/bits.deBruijn64tab", Rows.laid_math_bits_deBruijn64tab), ("internal/strconv.uint64pow10", Rows.laid_internal_strconv_uint64pow10), ("usufruct/mult.texts", Rows.laid_usufruct_mult_texts)]
theorem own : ownKnob Tryd.prog.godebug = none := by kernel_rfl
theorem laidOut : laidOutB Tryd.prog = true := by kernel_rfl
theorem gTexts : Tryd.prog.globalNamed "usufruct/mult.texts" = some 1 := by kernel_rfl
theorem tTexts : (Tryd.prog.globals[1]?).map (·.type) = some 125 := by kernel_rfl
theorem tPow : (Tryd.prog.globals[2]?).map (·.type) = some 134 := by kernel_rfl
theorem laid_tail {P : Program} {x : String × DataW Unit} {r : List (String × DataW Unit)} {w : World} (h : laidMet P (x :: r) w) : laidMet P r w := by
  obtain ⟨ps, hv, hnd, hrows⟩ := h
  obtain ⟨n, d⟩ := x
  obtain ⟨g, t, cs, fuel, p, q, _, _, _, _, hq, rfl⟩ := hv
  exact ⟨q, hq, List.Nodup.sublist (List.sublist_append_right _ _) hnd, fun b off hm => hrows b off (List.mem_append_right _ hm)⟩

theorem door_met (os : Os) (args : Array Value) : laidMetH Tryd.prog laidList ((World.doorLaid Tryd.prog 2000 os).forCall (fun _ _ => 0) ⟨#[], args, []⟩).memory :=
  laidMetH_of_parts3 (fuel := 8) (laidMet_of_run' 8 (by kernel_rfl) (by kernel_rfl)) (by kernel_rfl) (by kernel_rfl)

set_option maxRecDepth 100000 in
theorem table_of {W : World} (h : laidMet Tryd.prog [("usufruct/mult.texts", Rows.laid_usufruct_mult_texts)] W) : Table W := by
  obtain ⟨ps, ⟨g0, t0, cs0, f0, p0, q0, hg0, ht0, hv0, hd0, _, _⟩, _, _⟩ := h
  obtain rfl := Option.some.inj (gTexts.symm.trans hg0)
  obtain rfl := Option.some.inj (tTexts.symm.trans ht0)
  obtain ⟨xs, m1, _, hx1, hlen, hn3, hel⟩ := DataW.trod_array Tryd.underlying125 hd0
  have c9 : Tryd.prog.cellsOf 9 = 1 := by kernel_rfl
  have c3 : Tryd.prog.cellsOf 125 = 3 := by kernel_rfl
  have h0 := hel 0 (by decide)
  have h1 := hel 1 (by decide)
  have h2 := hel 2 (by decide)
  rw [c9] at h0 h1 h2
  rw [c3] at hlen
  simp only [Rows.laid_usufruct_mult_texts, Prod.mk.injEq, DataW.agg.injEq] at hx1
  obtain ⟨hx1, _⟩ := hx1
  have hv := World.var?_cell hg0 hv0
  obtain ⟨cl⟩ := cs0
  match xs, hn3, hx1, h0, h1, h2 with
  | [x0, x1, x2], _, hx1, h0, h1, h2 =>
    match cl, hlen with
    | [k0, k1, k2], _ =>
      simp only [List.map_cons, List.map_nil, List.cons.injEq] at hx1
      obtain ⟨s0, e0, d0, _⟩ := DataW.trod_string Tryd.underlying9 (show DataW.trod _ Tryd.prog W 0 _ false m1 9 [k0] = some x0 from h0)
      obtain ⟨s1, e1, d1, _⟩ := DataW.trod_string Tryd.underlying9 (show DataW.trod _ Tryd.prog W 0 _ false m1 9 [k1] = some x1 from h1)
      obtain ⟨s2, e2, d2, _⟩ := DataW.trod_string Tryd.underlying9 (show DataW.trod _ Tryd.prog W 0 _ false m1 9 [k2] = some x2 from h2)
      subst d0 d1 d2
      simp only [List.cons.injEq, and_true] at e0 e1 e2
      subst e0 e1 e2
      simp only [DataW.lit.injEq, Lit.string.injEq, and_true] at hx1
      obtain ⟨a0, a1, a2⟩ := hx1
      have b0 : s0 = ⟨#[49]⟩ := ByteArray.ext (Array.toList_inj.1 a0.symm)
      have b1 : s1 = ⟨#[63]⟩ := ByteArray.ext (Array.toList_inj.1 a1.symm)
      have b2 : s2 = ⟨#[42]⟩ := ByteArray.ext (Array.toList_inj.1 a2.symm)
      subst b0 b1 b2
      have t0 : W.cell? ⟨1, 0, none⟩ = some (.string ⟨#[49]⟩) := by simpa using hv 0
      exact ⟨Nat.lt_of_le_of_lt (Nat.zero_le _) (World.block_lt_of_cell? W _ t0), t0, by simpa using hv 1, by simpa using hv 2⟩
theorem powEq : (Rows.laid_internal_strconv_uint64pow10 : DataW Unit) = Lib.tabData .u64 Lib.pow10Tab := by
  unfold Rows.laid_internal_strconv_uint64pow10 Lib.tabData Lib.pow10Tab; rfl
theorem of_laid {W : World} (h : laidMetH Tryd.prog laidList W) : Tabs W := by
  rw [MakeChecks.laidMetH_plain _ _ _ (by kernel_rfl)] at h
  have h2 := laid_tail (laid_tail h)
  rw [powEq] at h2
  exact ⟨table_of (laid_tail h2), Lib.tabIs_of_head gPow tPow Tryd.underlying134 Tryd.underlying128 (by kernel_rfl) (by kernel_rfl) h2⟩
end Go.Proofs.YtblgligagngpfaaDoor.Mu

