/-
  The library's tables; texts that are valid, and what is no string as it is written: walked.
-/
import Derived.Test.YteockaolmobmeaaGreatDoorLexVal
import Derived.Test.YteockaolmobmeaaGreatDoorShelf
import Derived.Test.YteockaolmobmeaaGreatDoorShelfV
import Derived.Test.YteockaolmobmeaaGreatDoorLexWith
import Derived.Lib.SmallJoins
import Derived.Shelf.Unicode.DecodeSlow
namespace Go.Proofs.YteockaolmobmeaaGreatDoor.Mu
open Go.RowKit Go.Shelf
set_option maxRecDepth 100000

/-- The library's tables, as start-up lays them. -/
def Tbl (w : World) : Prop := Lib.TabIs Tryz.prog w "internal/strconv.uint64pow10" .u64 Lib.pow10Tab ∧ Lib.Utf8Tabs 0 1 w
theorem gPow : Tryz.prog.globalNamed "internal/strconv.uint64pow10" = some 3 := by kernel_rfl
theorem Tbl.bel {w w' : World} (h : Tbl w) (hb : Bel w w') : Tbl w' := ⟨Joins.tab_stays gPow h.1 hb (Nat.le_refl _), Utf8Tabs_below h.2 hb⟩
theorem bel_grow (w : World) (k : Nat) (os : Array Obj) : Bel w (Go.Sort.grow (w.drewN k) os) :=
  ⟨rfl, rfl, rfl, by rw [Go.Sort.size_grow]; exact Nat.le_add_right _ _, fun i hi => Go.Sort.heap_grow_old (w.drewN k) os hi⟩
theorem valid_any (s : List UInt8) (hs : s.length ≤ 9223372036854775807) (w : World) (ht : Tbl w) : Calls Tryz.prog 40 #[.string ⟨s.toArray⟩] w fun e w' => e = .returned (.bool (Lib.validD s)) ∧ Bel w w' :=
  Tryz.utf8_ValidString ⟨s.toArray⟩ w (by simpa [ByteArray.size] using hs) ht.2
/-- What a token is written as, whether it may be or not. -/
def wriB (k : Int) (s : List UInt8) (n : Int) : List UInt8 := if k = 3 then Lib.itoa n else if k = 4 then 34 :: (s.flatMap escB ++ [34]) else s
set_option maxHeartbeats 4000000 in
/-- What is no string, as it is written. -/
theorem written_plain (k : Int) (s : List UInt8) (n a l c : Int) (k4 : k ≠ 4) (h0 : -9223372036854775808 ≤ n) (h1 : n ≤ 9223372036854775807) (w : World) (htab : Tbl w) :
    Calls Tryz.prog 29 #[.agg #[.int .u8 k, .string ⟨s.toArray⟩, .int .i64 n, .int .i64 a, .int .i64 l, .int .i64 c]] w fun e w' => e = .returned (.string ⟨(wriB k s n).toArray⟩) ∧ Bel w w' := by
  have hb1 : Bel w (w.alloc (.cells #[.int .u8 k, .string ⟨s.toArray⟩, .int .i64 n, .int .i64 a, .int .i64 l, .int .i64 c] 44)) := (Bel.refl w).alloc _
  have HF : Hid (∀ W, Bel w W → Calls Tryz.prog 41 #[.int .i64 n, .int .i64 10] W fun e w' => e = .returned (.string ⟨(Lib.itoa n).toArray⟩) ∧ Bel W w') := Lib.hid fun W hW => by
    refine (Tryz.strconv_FormatInt_10 n h0 h1 W (htab.bel hW).1).mono fun e w' h => ⟨h.1, ?_⟩
    obtain ⟨k, os, rfl⟩ := h.2
    exact bel_grow _ _ _
  have HB1 := Lib.hid hb1
  clear htab hb1
  obtain ⟨ans, hans⟩ : ∃ ans, ans = wriB k s n := ⟨_, rfl⟩
  rw [← hans]
  have HANS := Lib.hid hans
  clear hans
  go_enter Tryz.func29, Tryz.ntmps29
  by_cases k3 : k = 3
  · have ha : ans = Lib.itoa n := by rw [HANS.out, wriB, if_pos k3]
    subst ha k3
    go_wp2_with (go_at_call 41; refine (HF.out _ HB1.out).mono ?_; rintro e w2 ⟨rfl, hb2⟩; (have HB2 := Lib.hid hb2); clear hb2)
    go_ret
    exact ⟨rfl, HB1.out.on HB2.out⟩
  have d3 : (k == 3) = false := by simp [k3]
  have d4 : (k == 4) = false := by simp [k4]
  have ha : ans = s := by rw [HANS.out, wriB, if_neg k3, if_neg k4]
  subst ha
  go_wp2
  go_ret
  exact ⟨rfl, HB1.out⟩
end Go.Proofs.YteockaolmobmeaaGreatDoor.Mu

