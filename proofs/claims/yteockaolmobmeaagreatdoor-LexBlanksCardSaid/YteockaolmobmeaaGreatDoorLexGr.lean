/-
  Whether tokens are more than are gone through; whether two lists are of one text: walked.
-/
import Derived.Test.YteockaolmobmeaaGreatDoorLxTok
import Derived.Test.YteockaolmobmeaaGreatDoorShelf
import Derived.IntWalk
namespace Go.Proofs.YteockaolmobmeaaGreatDoor.Mu
open Go.RowKit Go.Shelf
set_option maxRecDepth 100000

set_option maxHeartbeats 4000000 in
theorem great10_any {A : Option Addr} {n cp : Nat} {xs : List Tn} (w : World) (hr : RTn w w.heap.size A n xs) (hn : n ≤ 140737488355328) :
    Calls Tryz.prog 16 #[.slice A n cp] w fun e w' => (∃ b, e = .returned (.bool b) ∧ (b = false → n ≤ 20000)) ∧ Bel w w' := by
  have HR := Lib.hid hr
  have HLEN := Lib.hid hr.1
  clear hr
  go_enter Tryz.func16, Tryz.ntmps16
  go_wp2_with fail
  go_loopg [3, 5, 8] (n + 1) (fun gk s z i wr => ∃ (j : Nat) (q : Int), i = .int .i64 (j : Int) ∧ s = .int .i64 q ∧ Hid (j ≤ n ∧ n - j < gk) ∧ ((j : Int) ≤ q ∧ q ≤ 20000) ∧ Hid (Bel w wr))
  case atStart => exact ⟨0, 0, rfl, rfl, Lib.hid ⟨by omega, by omega⟩, ⟨by omega, by omega⟩, Lib.hid (Bel.refl w)⟩
  case round =>
    obtain ⟨j, q, rfl, rfl, HJ, hq, HB⟩ := hrel
    by_cases hj : j < n
    · obtain ⟨x, hx⟩ : ∃ x, xs[j]? = some x := ⟨_, List.getElem?_eq_getElem (by have := HLEN.out; omega)⟩
      obtain ⟨b, off, rfl, hb, hcc⟩ := (HR.out.bel HB.out).2 (by omega)
      obtain ⟨x0, x1, x2, x3, x4, x5⟩ := hcc j x hx
      obtain ⟨S, hS⟩ : ∃ S : ByteArray, S = ⟨x.s.toArray⟩ := ⟨_, rfl⟩
      rw [← hS] at x1
      clear hcc hx hS
      have hm0 : 0 ≤ min (S.size : Int) 16384 := by omega
      have hm1 : min (S.size : Int) 16384 ≤ 16384 := by omega
      have hw1 : IntKind.i64.wrap (min (S.size : Int) 16384 + 1) = min (S.size : Int) 16384 + 1 := by apply IntWalk.i64_in <;> omega
      have hw2 : IntKind.i64.wrap (q + (min (S.size : Int) 16384 + 1)) = q + (min (S.size : Int) 16384 + 1) := by apply IntWalk.i64_in <;> omega
      by_cases hbig : 20000 < q + (min (S.size : Int) 16384 + 1)
      · have hd := decide_eq_true hbig
        go_wp2
        go_ret
        exact ⟨⟨true, rfl, fun h => by cases h⟩, HB.out.alloc _⟩
      · have hd := decide_eq_false hbig
        go_wp2
        go_roundg (gk - 1)
        case rel => exact ⟨j + 1, q + (min (S.size : Int) 16384 + 1), by go_num, rfl, Lib.hid ⟨by omega, by have := HJ.out; omega⟩, ⟨by omega, by omega⟩, Lib.hid (HB.out.alloc _)⟩
        case measure => have := HJ.out; omega
    · have hjn : j = n := by have := HJ.out; omega
      have hn20 : n ≤ 20000 := by omega
      go_wp2
      go_ret
      exact ⟨⟨false, rfl, fun _ => hn20⟩, HB.out⟩
theorem alike_any {A B : Option Addr} {n : Nat} {ts : List (List UInt8)} (w : World) (ha : RL w w.heap.size A n ts) (hb : RL w w.heap.size B n ts) (hn0 : 0 < n) (hn : n ≤ 1000) (hl : (Lib.join ts [32]).length ≤ 1000000) :
    Calls Tryz.prog 9 #[.slice A n n, .slice B n n] w fun e w' => e = .returned (.bool true) ∧ Bel w w' := by
  obtain ⟨R, hR⟩ : ∃ R : ByteArray, R = ⟨(Lib.join ts [32]).toArray⟩ := ⟨_, rfl⟩
  have HJ : Hid (∀ (A : Option Addr) (W : World), RL W W.heap.size A n ts → Calls Tryz.prog 27 #[.slice A n n, .string ⟨#[32]⟩] W fun e w' => e = .returned (.string R) ∧ Bel W w') := Lib.hid fun A W hr => by
    obtain ⟨b, off, rfl, hbb, hc⟩ := hr.2 hn0
    have hlen : (ts.map fun s : List UInt8 => (⟨s.toArray⟩ : ByteArray)).length = n := by rw [List.length_map]; exact hr.1.symm
    have e : ((ts.map fun s : List UInt8 => (⟨s.toArray⟩ : ByteArray)).map fun x => x.data.toList) = ts := by
      rw [List.map_map]
      conv => rhs; rw [← List.map_id ts]
      rfl
    have := Tryz.strings_Join b off n (ts.map fun s => ⟨s.toArray⟩) ⟨#[32]⟩ W (fun j x hx => by
      rw [List.getElem?_map] at hx
      obtain ⟨s, hs, rfl⟩ := Option.map_eq_some_iff.1 hx
      exact hc j s hs) hbb (by omega) (by omega) (by rw [e]; show (Lib.join ts [32]).length ≤ _; omega)
    rw [hlen, e] at this
    refine this.mono fun e w' h => ⟨?_, h.2⟩
    rw [h.1, hR]
  have HA := Lib.hid ha
  have HB := Lib.hid hb
  clear ha hb hR
  go_enter Tryz.func9, Tryz.ntmps9
  go_wp2_with fail
  refine (HJ.out _ _ HA.out).mono ?_
  rintro e w1 ⟨rfl, hb1⟩
  have HB1 := Lib.hid hb1
  clear hb1
  go_wp2_with fail
  refine (HJ.out _ _ (HB.out.bel HB1.out)).mono ?_
  rintro e w2 ⟨rfl, hb2⟩
  have HB2 := Lib.hid (HB1.out.on hb2)
  clear hb2
  go_wp2
  go_ret
  exact ⟨by first | rfl | simp, HB2.out⟩
end Go.Proofs.YteockaolmobmeaaGreatDoor.Mu

