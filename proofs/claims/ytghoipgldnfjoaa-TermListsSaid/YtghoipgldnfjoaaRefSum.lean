/-
  usufructref02.Sum, walked.
-/
import Derived.Test.YtghoipgldnfjoaaRefJoin
namespace Go.Proofs.Ytghoipgldnfjoaa.Mu
open Go.ChangeShapes Go.WideShapes Go.ChangeAt Go.RowKit

def rsC (n1 n2 : Bool) (c1 c2 : Int) : Int := if n1 then c2 else if n2 then c1 else 3
def rsL (n1 n2 : Bool) (l1 l2 : List Int) : List Int := if n1 then l2 else if n2 then l1 else []

theorem rsum_any (nv1 nv2 : Bool) (c1 c2 : Int) (A B : Option Addr) (n ca m cb : Nat) (la lb : List Int) (w : World) (ha : RI .i64 w w.heap.size A n la) (hb : RI .i64 w w.heap.size B m lb) :
    Calls Try.prog 24 #[.agg #[.bool nv1, .int .u8 c1, .slice A n ca], .agg #[.bool nv2, .int .u8 c2, .slice B m cb]] w (GivesT (nv1 && nv2) (rsC nv1 nv2 c1 c2) (rsL nv1 nv2 la lb) w.heap.size w) := by
  have HA := Lib.hid (((ha.alloc (.cells #[.bool nv1, .int .u8 c1, .slice A n ca] 33)).alloc (.cells #[.bool nv2, .int .u8 c2, .slice B m cb] 33)))
  have HB := Lib.hid (((hb.alloc (.cells #[.bool nv1, .int .u8 c1, .slice A n ca] 33)).alloc (.cells #[.bool nv2, .int .u8 c2, .slice B m cb] 33)))
  clear ha hb
  cases nv1
  · cases nv2
    · show Calls _ _ _ _ (GivesT false 3 [] w.heap.size w)
      go_enter Try.func24, Try.ntmps24
      go_wp2
      exact bodyPost_ret (v := .agg #[.bool false, .int .u8 3, .slice none 0 0]) (by simp [results, Try.results24, go_sem]) rfl ⟨_, _, _, rfl, RI.nil_, (((Bel.refl _).alloc _).alloc _).alloc _⟩
    · show Calls _ _ _ _ (GivesT false c1 la w.heap.size w)
      go_enter Try.func24, Try.ntmps24
      go_wp2
      exact bodyPost_ret (v := .agg #[.bool false, .int .u8 c1, .slice A n ca]) (by simp [results, Try.results24, go_sem]) rfl ⟨_, _, _, rfl, HA.out.alloc _, (((Bel.refl _).alloc _).alloc _).alloc _⟩
  · show Calls _ _ _ _ (GivesT nv2 c2 lb w.heap.size w)
    go_enter Try.func24, Try.ntmps24
    go_wp2
    exact bodyPost_ret (v := .agg #[.bool nv2, .int .u8 c2, .slice B m cb]) (by simp [results, Try.results24, go_sem]) rfl ⟨_, _, _, rfl, HB.out.alloc _, (((Bel.refl _).alloc _).alloc _).alloc _⟩
end Go.Proofs.Ytghoipgldnfjoaa.Mu
