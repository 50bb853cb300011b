/-
  What stands next, held against a text: walked.
-/
import Derived.Test.YteockaolmobmeaaGreatDoorLexRd
import Derived.Lib.OthersKept
import Derived.Deep.LoopGhost
namespace Go.Proofs.YteockaolmobmeaaGreatDoor.Mu
open Go.RowKit Go.Shelf
set_option maxRecDepth 100000

theorem pre_step {p l : List Int} {j : Nat} {x y : Int} (hx : p[j]? = some x) (hy : l[j]? = some y) (h : p.take j = l.take j) : (p.take (j + 1) = l.take (j + 1) ↔ x = y) := by
  obtain ⟨h1, rfl⟩ := List.getElem?_eq_some_iff.1 hx
  obtain ⟨h2, rfl⟩ := List.getElem?_eq_some_iff.1 hy
  rw [List.take_succ_eq_append_getElem h1, List.take_succ_eq_append_getElem h2, h]
  exact ⟨fun e => by have := List.append_cancel_left e; simpa using this, fun e => by rw [e]⟩
theorem pre_iff (p l : List Int) : p.isPrefixOf l = decide (p.length ≤ l.length ∧ p.take p.length = l.take p.length) := by
  rw [Bool.eq_iff_iff, List.isPrefixOf_iff_prefix, List.prefix_iff_eq_take, decide_eq_true_iff, List.take_length]
  constructor
  · intro h
    refine ⟨?_, h⟩
    have := congrArg List.length h
    rw [List.length_take] at this; omega
  · exact fun h => h.2
theorem pre_no {p l : List Int} {j : Nat} (hj : j ≤ p.length) (h : p.take j ≠ l.take j) : p.isPrefixOf l = false := by
  rw [pre_iff, decide_eq_false_iff_not]
  rintro ⟨_, h2⟩
  apply h
  have := congrArg (List.take j) h2
  rwa [List.take_take, List.take_take, Nat.min_eq_left hj] at this
theorem drop_at' {L : List Int} {k : Nat} {r : Int} (h : L[k]? = some r) : L.drop k = r :: L.drop (k + 1) := by
  obtain ⟨hl, rfl⟩ := List.getElem?_eq_some_iff.1 h
  exact List.drop_eq_getElem_cons hl
theorem pre1 (a : Int) (L : List Int) (k : Nat) : [a].isPrefixOf (L.drop k) = decide (L[k]? = some a) := by
  cases e : L[k]? with
  | none =>
    have : L.drop k = [] := List.drop_eq_nil_of_le (by simpa using e)
    rw [this]; simp
  | some x =>
    rw [drop_at' e]
    by_cases hx : x = a
    · subst hx; simp
    · have h1 : (a == x) = false := by simpa using fun h : a = x => hx h.symm
      show ((a == x) && [].isPrefixOf _) = _
      rw [h1]; simp [hx]
theorem pre2 (a b : Int) (L : List Int) (k : Nat) : [a, b].isPrefixOf (L.drop k) = decide (L[k]? = some a ∧ L[k + 1]? = some b) := by
  cases e : L[k]? with
  | none =>
    have : L.drop k = [] := List.drop_eq_nil_of_le (by simpa using e)
    rw [this]; simp
  | some x =>
    have h := pre1 b L (k + 1)
    rw [drop_at' e]
    rw [show [a, b].isPrefixOf (x :: L.drop (k + 1)) = ((a == x) && [b].isPrefixOf (L.drop (k + 1))) by rfl, h]
    by_cases hx : x = a
    · subst hx; simp
    · have h1 : (a == x) = false := by simpa using fun h : a = x => hx h.symm
      rw [h1]; simp [hx]
set_option maxHeartbeats 4000000 in
theorem at_any {g : Nat} {A : Option Addr} {n c : Nat} {xs : List Pn} {i : Nat} (s : List UInt8) (hs : ∀ u ∈ s, u.toNat < 128) (hsz : s.length ≤ 100) (w : World) (h : Rdr w g A n c xs i) :
    Calls Tryz.prog 50 #[.pointer (some ⟨g, 0, none⟩), .string ⟨s.toArray⟩] w fun e w' => e = .returned (.bool ((asc s).isPrefixOf ((xs.map Pn.r).drop i))) ∧ Bel w w' := by
  obtain ⟨c0, c1, f0, f1⟩ := h.cells
  have hsm := h.small
  have hle := h.le
  have H := Lib.hid h
  have HS := Lib.hid hs
  have hz : (⟨s.toArray⟩ : ByteArray).size = s.length := by simp [ByteArray.size]
  have HZ := Lib.hid hz
  have hL : ((xs.map Pn.r).drop i).length = n - i := by rw [List.length_drop, List.length_map, ← h.len]
  have HL := Lib.hid hL
  have ha : (asc s).length = s.length := asc_len s
  have HA := Lib.hid ha
  clear h hs hz hL ha
  obtain ⟨ans, hans⟩ : ∃ ans, ans = (asc s).isPrefixOf ((xs.map Pn.r).drop i) := ⟨_, rfl⟩
  rw [← hans]
  have HANS := Lib.hid hans
  clear hans
  go_enter Tryz.func50, Tryz.ntmps50
  go_wp2
  all_goals go_region
  by_cases hlong : (n : Int) - i < (s.length : Int)
  · have hno : ans = false := by
      rw [HANS.out, pre_iff, decide_eq_false_iff_not]
      rintro ⟨h1, _⟩
      rw [HL.out, HA.out] at h1; omega
    subst hno
    go_wp2
    go_ret
    exact ⟨rfl, (Bel.refl w).drew⟩
  · have hlong2 : i + s.length ≤ n := by omega
    go_wp2
    go_loopg [] (s.length + 1) (fun gk wr => ∃ pos : Nat, Hid (pos ≤ s.length ∧ s.length - pos < gk) ∧ Hid (Bel w wr) ∧ Hid (wr.heap[w.heap.size]? = some (.stringIter ⟨s.toArray⟩ pos)) ∧ Hid ((asc s).take pos = ((xs.map Pn.r).drop i).take pos))
    case atStart =>
      exact ⟨0, Lib.hid ⟨by omega, by omega⟩, Lib.hid ((Bel.refl w).drew.alloc _), Lib.hid (by have := World.iter_heap w.drew ⟨s.toArray⟩ 0; simpa using this), Lib.hid (by simp)⟩
    case round =>
      obtain ⟨pos, HP, HB, HI, HT⟩ := hrel
      by_cases hp : pos < s.length
      · have hasc : (s[pos]'hp).toNat < 128 := HS.out _ (List.getElem_mem hp)
        obtain ⟨u, hu⟩ : ∃ u, u = (s[pos]'hp) := ⟨_, rfl⟩
        have hu2 : ((⟨s.toArray⟩ : ByteArray)[pos]'(by rw [HZ.out]; exact hp)) = u := by rw [hu]; show (s.toArray[pos]'_) = _; simp
        have hnx : ∀ ty, (Instr.next (.pointer (some ⟨w.heap.size, 0, none⟩)) true ty).run Tryz.prog wr = _ := fun ty => Lib.run_next_ascii_at wr w.heap.size ⟨s.toArray⟩ pos ty HI.out (by rw [HZ.out]; exact hp) (by rw [hu2, hu]; exact hasc)
        rw [hu2] at hnx
        obtain ⟨w2, hw2⟩ : ∃ w2, w2 = wr.iterAt w.heap.size ⟨s.toArray⟩ (pos + 1) := ⟨_, rfl⟩
        rw [← hw2] at hnx
        have hI2 : w2.heap[w.heap.size]? = some (.stringIter ⟨s.toArray⟩ (pos + 1)) := by rw [hw2]; exact Lib.iterAt_heap wr _ _ _ _ HI.out
        have hB2 : Bel w w2 := by
          rw [hw2]
          exact ⟨HB.out.os, HB.out.tape, HB.out.output, by simpa [World.iterAt] using HB.out.size, fun k hk => by rw [← HB.out.block k hk]; simp [World.iterAt, Array.getElem?_setIfInBounds]; omega⟩
        have HI2 := Lib.hid hI2
        have HB2 := Lib.hid hB2
        have HU := Lib.hid hu
        have HD := Lib.hid (H.out.bel hB2)
        clear hI2 hB2 hw2 hu2 hu hasc
        obtain ⟨e0, e1, g0, g1⟩ := HD.out.cells
        obtain ⟨b, off, rfl, hb, hcc⟩ := HD.out.rp.at_ (by omega)
        obtain ⟨y, hy⟩ : ∃ y, xs[i + pos]? = some y := ⟨_, List.getElem?_eq_getElem (by have := HD.out.len; omega)⟩
        obtain ⟨a0, -, -, -⟩ := hcc (i + pos) y hy
        have HY := Lib.hid hy
        clear hcc hy
        have ha2 : (asc s)[pos]? = some (u.toNat : Int) := by
          rw [asc, List.getElem?_map, List.getElem?_eq_getElem hp, HU.out]; rfl
        have hl2 : ((xs.map Pn.r).drop i)[pos]? = some y.r := by rw [List.getElem?_drop, List.getElem?_map, HY.out]; rfl
        have HST := Lib.hid (pre_step ha2 hl2 HT.out)
        clear ha2 hl2
        go_wp2
        all_goals go_region
        by_cases hyu : y.r = (u.toNat : Int)
        · have hst := HST.out.2 hyu.symm
          have HST2 := Lib.hid hst
          clear hst
          go_wp2
          have hgp := HP.out
          go_roundg (gk - 1)
          case rel => exact ⟨pos + 1, Lib.hid ⟨by omega, by omega⟩, Lib.hid HB2.out.drew, Lib.hid HI2.out, HST2⟩
          case measure => omega
        · have hno : ans = false := by
            rw [HANS.out]
            refine pre_no (j := pos + 1) (by rw [HA.out]; omega) fun h => hyu (HST.out.1 h).symm
          subst hno
          go_wp2
          go_ret
          exact ⟨rfl, HB2.out.drew⟩
      · obtain rfl : pos = s.length := by have := HP.out; omega
        have hnx : ∀ ty, (Instr.next (.pointer (some ⟨w.heap.size, 0, none⟩)) true ty).run Tryz.prog wr = _ := fun ty => Lib.run_next_end_at wr w.heap.size ⟨s.toArray⟩ s.length ty HI.out (by rw [HZ.out]; omega)
        have hyes : ans = true := by
          rw [HANS.out, pre_iff, decide_eq_true_iff, HL.out, HA.out]
          exact ⟨by omega, HT.out⟩
        subst hyes
        go_wp2
        go_ret
        exact ⟨rfl, HB.out⟩
end Go.Proofs.YteockaolmobmeaaGreatDoor.Mu

