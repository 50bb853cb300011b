/-
  Layer 3's functions: whether a side stands, what it is, Holds.
-/
import Derived.Test.YtjgpkolfcpoinaaIneqE
import Derived.Test.YtjgpkolfcpoinaaTermX
import Derived.Deep.QuietTactic
import Derived.BigQuiet
namespace Go.Proofs.Ytjgpkolfcpoinaa.Mu
open Go.ChangeShapes Go.WideShapes Go.ChangeAt Go.RowKit

def standsB (h : Bool) (v : Int) (av : List Int) : Bool := !h || okV av v
def atS (c : Int) (h : Bool) (v : Int) (av : List Int) : Int := if h then max c (av[v.toNat]?.getD 0) else c

set_option maxRecDepth 100000 in
theorem stands_any (c : Int) (h : Bool) (v : Int) (G : Option Addr) (gn gc : Nat) (av : List Int) (hv : h = true → 0 ≤ v ∧ v < 1048576) (w : World) (hg : RI .u8 w w.heap.size G gn av) (hmax : gn ≤ 9223372036854775807) :
    Calls Try.prog 47 #[.agg #[.int .u8 c, .bool h, .int .i64 v], .slice G gn gc] w fun e w' => e = .returned (.bool (standsB h v av)) ∧ Bel w w' := by
  have HG := Lib.hid (hg.alloc (.cells #[.int .u8 c, .bool h, .int .i64 v] 80))
  have HL := Lib.hid hg.len
  clear hg
  cases h
  case false =>
    go_enter Try.func47, Try.ntmps47
    go_wp2
    go_ret
    exact ⟨rfl, (Bel.refl _).alloc _⟩
  case true =>
    obtain ⟨v0, v1⟩ := hv rfl
    clear hv
    by_cases hlt : v < (gn : Int)
    · obtain ⟨b, off, rfl, hb, hc⟩ := HG.out.at_ (by omega)
      have hcell := hc v.toNat (by omega)
      obtain ⟨q, hq⟩ : ∃ q, av[v.toNat]?.getD 0 = q := ⟨_, rfl⟩
      rw [hq] at hcell
      have E : Hid (standsB true v av = isMultB q) := Lib.hid (by
        unfold standsB okV
        have : v < (av.length : Int) := by rw [← HL.out]; exact hlt
        simp [this, hq])
      clear hc hq
      go_enter Try.func47, Try.ntmps47
      go_wp2_with fail
      refine (iisMult_any q _).mono ?_
      rintro e w' ⟨rfl, rfl⟩
      go_wp2_with fail
      go_ret
      exact ⟨by rw [E.out]; rfl, (Bel.refl _).alloc _⟩
    · have E : Hid (standsB true v av = false) := Lib.hid (by
        unfold standsB okV
        have : ¬ v < (av.length : Int) := by rw [← HL.out]; exact hlt
        simp [this])
      have hd : decide (v < (gn : Int)) = false := decide_eq_false hlt
      clear HG HL
      go_enter Try.func47, Try.ntmps47
      go_wp2
      go_ret
      exact ⟨by rw [E.out]; rfl, (Bel.refl _).alloc _⟩

set_option maxRecDepth 100000 in
theorem sat_any (c : Int) (h : Bool) (v : Int) (G : Option Addr) (gn gc : Nat) (av : List Int) (hv : h = true → 0 ≤ v ∧ v < gn) (w : World) (hg : RI .u8 w w.heap.size G gn av) (hmax : gn ≤ 9223372036854775807) :
    Calls Try.prog 50 #[.agg #[.int .u8 c, .bool h, .int .i64 v], .slice G gn gc] w fun e w' => e = .returned (.int .u8 (atS c h v av)) ∧ Bel w w' := by
  have HG := Lib.hid (hg.alloc (.cells #[.int .u8 c, .bool h, .int .i64 v] 80))
  clear hg
  cases h
  case false =>
    clear HG
    go_enter Try.func50, Try.ntmps50
    go_wp2
    go_ret
    exact ⟨rfl, (Bel.refl _).alloc _⟩
  case true =>
    obtain ⟨v0, v1⟩ := hv rfl
    clear hv
    obtain ⟨b, off, rfl, hb, hc⟩ := HG.out.at_ (by omega)
    have hcell := hc v.toNat (by omega)
    obtain ⟨q, hq⟩ : ∃ q, av[v.toNat]?.getD 0 = q := ⟨_, rfl⟩
    rw [hq] at hcell
    have E : Hid (atS c true v av = max c q) := Lib.hid (by unfold atS; simp [hq])
    clear hc hq HG
    go_enter Try.func50, Try.ntmps50
    go_wp2_with fail
    go_region
    go_wp2
    go_ret
    exact ⟨by rw [E.out]; rfl, ((Bel.refl _).alloc _).drew⟩
end Go.Proofs.Ytjgpkolfcpoinaa.Mu

