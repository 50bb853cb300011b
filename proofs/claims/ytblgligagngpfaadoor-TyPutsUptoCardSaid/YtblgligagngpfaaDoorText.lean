/-
  Layer 2's own function Text, walked.
-/
import Derived.Test.YtblgligagngpfaaDoorTextM
import Derived.Test.YtblgligagngpfaaDoorMultText
import Derived.Test.YtblgligagngpfaaDoorShelf
import Derived.Test.YtblgligagngpfaaDoorOne
import Derived.BigGuardPart
namespace Go.Proofs.YtblgligagngpfaaDoor.Mu
open Go.ChangeShapes Go.WideShapes Go.ChangeAt Go.RowKit

theorem info_str : (Tryd.prog.info? 9).map (fun i => (i.zero, i.size, i.bytes)) = some (some (.string ⟨#[]⟩), 1, 16) := by kernel_rfl
theorem bel_grow (w : World) (k : Nat) (os : Array Obj) : Bel w (Go.Sort.grow (w.drewN k) os) :=
  ⟨rfl, rfl, rfl, by rw [Go.Sort.size_grow]; exact Nat.le_add_right _ _, fun i hi => Go.Sort.heap_grow_old (w.drewN k) os hi⟩
theorem itoa_any (n : Int) (h0 : 0 ≤ n) (h1 : n < 1048576) (w : World) (ht : Tabs w) :
    Calls Tryd.prog 82 #[.int .i64 n] w fun e w' => e = .returned (.string ⟨(Lib.itoa n).toArray⟩) ∧ Bel w w' :=
  (Tryd.strconv_Itoa n (by omega) (by omega) w ht.2).mono fun e w' ⟨he, k, os, hw⟩ => ⟨he, by rw [hw]; exact bel_grow w k os⟩
theorem mtext_any (c : Int) (h0 : 0 ≤ c) (h1 : c ≤ 255) (w : World) (ht : Tabs w) : Calls Tryd.prog 86 #[.int .u8 c] w fun e w' => e = .returned (.string ⟨(mulS c).toArray⟩) ∧ w = w' := by
  have h := text_any c h0 h1 w ht.1
  have e : textS c = ⟨(mulS c).toArray⟩ := by unfold textS mulS; (repeat' split) <;> rfl
  rw [e] at h; exact h

end Go.Proofs.YtblgligagngpfaaDoor.Mu

