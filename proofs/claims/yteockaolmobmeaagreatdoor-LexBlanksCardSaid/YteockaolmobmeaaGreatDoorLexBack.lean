/-
  LexBack, walked: what is written is read as it was, and what was read is written, and read as the same.
-/
import Derived.Test.YteockaolmobmeaaGreatDoorLexKn
import Derived.Test.YteockaolmobmeaaGreatDoorLexGr
import Derived.Test.YteockaolmobmeaaGreatDoorLexBkM
namespace Go.Proofs.YteockaolmobmeaaGreatDoor.Mu
open Go.RowKit Go.Shelf
set_option maxRecDepth 100000

/-- What is read of what was written. -/
theorem back_call {ts : List (Int × List UInt8 × Int)} (h : (wrO ts).2 = 0) : ∃ TL : List Tn, TL.map Tn.b = ts ∧ TL.length ≤ 4001 ∧ ∀ W, Calls Tryz.prog 19 #[.string ⟨(wrO ts).1.toArray⟩] W (GTo ⟨TL, 0, z0⟩ W) := by
  obtain ⟨cs, hc, he, hq, hb⟩ := back_write h
  refine ⟨(tokO (wrO ts).1.length cs []).l, hb, (read_small hc he).2, fun W => ?_⟩
  have := tokens_any (s := ⟨(wrO ts).1.toArray⟩) (cs := cs) (rest := []) hc W
  have hsz : (⟨(wrO ts).1.toArray⟩ : ByteArray).size = (wrO ts).1.length := by simp [ByteArray.size]
  rw [hsz] at this
  have e : tokO (wrO ts).1.length cs [] = ⟨(tokO (wrO ts).1.length cs []).l, 0, z0⟩ := by rw [← he, ← hq]
  rw [← e]; exact this
theorem dg_no {e : Int} (he : e ≠ 0) (q : Pl) (W : World) : (Op.equalIn 10000 34 (.agg #[.int .i64 e, .int .i64 q.a, .int .i64 q.l, .int .i64 q.c]) (.agg #[.int .i64 0, .int .i64 0, .int .i64 0, .int .i64 0])).run Tryz.prog W = .ok false W := by
  have := diag_in e 0 q ⟨0, 0, 0⟩ W
  rw [decide_eq_false he, Bool.false_and] at this
  exact this
set_option maxHeartbeats 8000000 in
theorem lexBack_any {A : Option Addr} {n cp : Nat} {xs : List Tn} (s : ByteArray) (w : World) (htab : Tbl w) (hr : RTn w w.heap.size A n xs) (hn : n ≤ 140737488355328) (hx : ∀ x ∈ xs, x.s.length ≤ 140737488355328 ∧ -9223372036854775808 ≤ x.n ∧ x.n ≤ 9223372036854775807) :
    Calls Tryz.prog 5 #[.slice A n cp, .string s] w fun e w' => e = .returned (.bool true) ∧ Bel w w' := by
  have HTB := Lib.hid htab
  have HR := Lib.hid hr
  have hed := dgq
  obtain ⟨RS, hRS⟩ : ∃ RS : ByteArray, RS = ⟨(wrO (xs.map Tn.b)).1.toArray⟩ := ⟨_, rfl⟩
  obtain ⟨RE, hRE⟩ : ∃ RE, RE = (wrO (xs.map Tn.b)).2 := ⟨_, rfl⟩
  have HW : Hid (∀ W, Tbl W → RTn W W.heap.size A n xs → Calls Tryz.prog 17 #[.slice A n cp] W fun e w' => e = .returned (.tuple #[.string RS, .int .i64 RE]) ∧ Bel W w') := Lib.hid fun W ht h => by rw [hRS, hRE]; exact write10_any W ht h hn hx
  have HT1 : Hid (RE = 0 → ∃ TL : List Tn, TL.map Tn.b = xs.map Tn.b ∧ TL.length ≤ 4001 ∧ ∀ W, Calls Tryz.prog 19 #[.string RS] W (GTo ⟨TL, 0, z0⟩ W)) := Lib.hid fun h => by rw [hRS]; exact back_call (hRE ▸ h)
  clear htab hr hx hRS hRE
  obtain ⟨cs, rest, hc⟩ := cps_ex _ s.data.toList (Nat.le_refl _)
  have hlen : s.data.toList.length = s.size := Array.length_toList
  have HC := Lib.hid hc
  have HLEN := Lib.hid hlen
  clear hc hlen
  go_enter Tryz.func5, Tryz.ntmps5
  go_wp2_with fail
  refine (known10_any _ HTB.out).mono ?_
  rintro e w1 ⟨rfl, hb1⟩
  have HB1 := Lib.hid hb1
  clear hb1
  go_wp2_with fail
  refine (great10_any _ (HR.out.bel HB1.out) hn).mono ?_
  rintro e w2 ⟨⟨b, rfl, -⟩, hb2⟩
  have HB2 := Lib.hid (HB1.out.on hb2)
  clear hb2 HB1
  cases b
  rotate_left
  · go_wp2
    go_ret
    exact ⟨rfl, HB2.out⟩
  have hbig : 8000 < s.size ∨ s.size ≤ 8000 := by omega
  rcases hbig with hbig | hbig
  · have hd : decide ((8000 : Int) < (s.size : Int)) = true := decide_eq_true (by omega)
    go_wp2
    go_ret
    exact ⟨rfl, HB2.out⟩
  have hd : decide ((8000 : Int) < (s.size : Int)) = false := decide_eq_false (by omega)
  go_wp2_with fail
  refine (HW.out _ (HTB.out.bel HB2.out) (HR.out.bel HB2.out)).mono ?_
  rintro e w3 ⟨rfl, hb3⟩
  have HB3 := Lib.hid (HB2.out.on hb3)
  clear hb3 HB2 hd
  go_upto_if 27 with fail
  obtain ⟨b27, hb27⟩ : ∃ b, b = (RE == 0) := ⟨_, rfl⟩
  rw [← hb27]
  have HB27 := Lib.hid hb27
  clear hb27
  go_cut [7] (fun v wx => Hid (Bel w wx))
  case first =>
    cases b27
    · go_wp2_with fail
      go_meet
      exact HB3
    · obtain ⟨TL, e1, e2, hT⟩ := HT1.out (by have := HB27.out; simpa using this.symm)
      have HT := Lib.hid hT
      have HE := Lib.hid (And.intro e1 e2)
      clear hT e1 e2
      go_wp2_with fail
      refine (HT.out _).mono ?_
      rintro e w4 ⟨hb4, A4, n4, c4, rfl, hr4⟩
      have HR4 := Lib.hid hr4
      have HB4 := Lib.hid (HB3.out.on hb4)
      have hn4 : n4 ≤ 1000000000 := by have h1 := hr4.1; have h2 := HE.out.2; have h3 : n4 = TL.length := h1; omega
      clear hb4 hr4
      go_wp2_with fail
      refine (rsame10_any false _ (HR4.out.bel ((Bel.refl w4).alloc _)) (HR.out.bel (HB4.out.alloc _)) hn4 ((samL_b _ _).2 HE.out.1)).mono ?_
      rintro e w5 ⟨rfl, hb5⟩
      have HB5 := Lib.hid ((HB4.out.alloc _).on hb5)
      clear hb5
      go_wp2_with fail
      go_meet
      exact HB5
  case rest =>
    have HBC := hcut
    clear HT1 HB27
    by_cases he : (tokO s.data.toList.length cs rest).e = 0
    · obtain ⟨L, hL⟩ : ∃ L, L = (tokO s.data.toList.length cs rest).l := ⟨_, rfl⟩
      have hsm := read_small HC.out he
      have hbr := (back_read HC.out.cp he).2
      rw [← hL] at hsm hbr
      have HT : Hid (∀ W, Calls Tryz.prog 19 #[.string s] W (GTo ⟨L, 0, z0⟩ W)) := Lib.hid fun W => by
        have := tokens_any HC.out W
        rw [← HLEN.out] at this
        obtain ⟨_, _, ps, _, h2⟩ := tok_ok he
        have e : tokO s.data.toList.length cs rest = ⟨L, 0, z0⟩ := by rw [hL, h2]
        rw [← e]; exact this
      obtain ⟨RS2, hRS2⟩ : ∃ RS : ByteArray, RS = ⟨(wrO (L.map Tn.b)).1.toArray⟩ := ⟨_, rfl⟩
      obtain ⟨RE2, hRE2⟩ : ∃ RE, RE = (wrO (L.map Tn.b)).2 := ⟨_, rfl⟩
      have HW2 : Hid (∀ W, Tbl W → ∀ A n c, RTn W W.heap.size A n L → Calls Tryz.prog 17 #[.slice A n c] W fun e w' => e = .returned (.tuple #[.string RS2, .int .i64 RE2]) ∧ Bel W w') := Lib.hid fun W ht A n c h => by
        rw [hRS2, hRE2]
        exact write10_any W ht h (by have := h.1; have := hsm.2; omega) hsm.1
      have HT2 : Hid (RE2 = 0 → ∃ TL : List Tn, TL.map Tn.b = L.map Tn.b ∧ TL.length ≤ 4001 ∧ ∀ W, Calls Tryz.prog 19 #[.string RS2] W (GTo ⟨TL, 0, z0⟩ W)) := Lib.hid fun h => by rw [hRS2]; exact back_call (hRE2 ▸ h)
      have HRE : Hid (RE2 = 0 ∨ RE2 = 3) := Lib.hid (by rw [hRE2]; exact hbr)
      clear hL hsm hbr hRS2 hRE2 he
      go_wp2_with fail
      refine (HT.out _).mono ?_
      rintro e w7 ⟨hb7, A7, n7, c7, rfl, hr7⟩
      have HR7 := Lib.hid hr7
      have HB7 := Lib.hid (HBC.out.on hb7)
      clear hb7 hr7
      go_wp2_with fail
      refine (HW2.out _ (HTB.out.bel (HB7.out.alloc _)) _ _ _ (HR7.out.bel ((Bel.refl w7).alloc _))).mono ?_
      rintro e w8 ⟨rfl, hb8⟩
      have HK8 := Lib.hid (hb8.blk (blk1 w7 (.cells #[.int .i64 0, .int .i64 0, .int .i64 0, .int .i64 0] 34)))
      have HR8 := Lib.hid (HR7.out.bel (((Bel.refl w7).alloc _).on hb8))
      have HB8 := Lib.hid ((HB7.out.alloc _).on hb8)
      have HS7 := Lib.hid HB7.out.size
      clear hb8
      rcases HRE.out with h0 | h0
      · obtain ⟨TL, e1, e2, hT⟩ := HT2.out h0
        have HT3 := Lib.hid hT
        have HE := Lib.hid (And.intro e1 e2)
        subst h0
        clear hT e1 e2 HT2
        go_wp2_with fail
        refine (HT3.out _).mono ?_
        rintro e w9 ⟨hb9, A9, n9, c9, rfl, hr9⟩
        have HR9 := Lib.hid hr9
        have HR8' := Lib.hid (HR8.out.bel hb9)
        have HB9 := Lib.hid (HB8.out.on hb9)
        have HK9 := Lib.hid (hb9.blk HK8.out)
        have hn9 : n9 ≤ 1000000000 := by have h1 := hr9.1; have h2 := HE.out.2; have h3 : n9 = TL.length := h1; omega
        clear hb9 hr9
        obtain ⟨g0, g1, g2, g3, f0, f1, f2, f3⟩ := cells4 HK9.out
        have s9 : w7.heap.size < w9.heap.size := (Array.getElem?_eq_some_iff.1 HK9.out).1
        go_upto_region 17 with fail
        refine wp_abs' ?_
        intro W hW
        have HKW : Hid (W.heap[w7.heap.size]? = some (.cells #[.int .i64 0, .int .i64 0, .int .i64 0, .int .i64 0] 34 (0, 0))) := Lib.hid (by rw [hW]; simp [World.setCell, Array.getElem?_modify, HK9.out])
        have hoth : ∀ k, k ≠ w7.heap.size → W.heap[k]? = w9.heap[k]? := fun k hk => by
          rw [hW, Below.heap_setCell _ _ _ _ hk, Below.heap_setCell _ _ _ _ hk, Below.heap_setCell _ _ _ _ hk, Below.heap_setCell _ _ _ _ hk]
        have hsz : w9.heap.size ≤ W.heap.size := by rw [hW]; simp
        have HRa := Lib.hid (HR9.out.other HK9.out hoth hsz)
        have HRb := Lib.hid (HR8'.out.other HK9.out hoth hsz)
        have HBW : Hid (Bel w W) := Lib.hid (by rw [hW]; exact (((HB9.out.set_ (p := ⟨w7.heap.size, 0, none⟩) HS7.out _).set_ (p := ⟨w7.heap.size, 1, none⟩) HS7.out _).set_ (p := ⟨w7.heap.size, 2, none⟩) HS7.out _).set_ (p := ⟨w7.heap.size, 3, none⟩) HS7.out _)
        clear hW hoth hsz g0 g1 g2 g3 f0 f1 f2 f3 s9
        obtain ⟨g0, g1, g2, g3, -, -, -, -⟩ := cells4 HKW.out
        go_wp2_with fail
        refine (rsame10_any false _ HRa.out HRb.out hn9 ((samL_b _ _).2 HE.out.1)).mono ?_
        rintro e w10 ⟨rfl, hb10⟩
        have HB10 := Lib.hid (HBW.out.on hb10)
        clear hb10 g0 g1 g2 g3
        go_wp2
        go_ret
        exact ⟨rfl, HB10.out⟩
      · subst h0
        go_wp2
        go_ret
        exact ⟨rfl, HB8.out⟩
    · obtain ⟨O, hO⟩ : ∃ O, O = tokO s.data.toList.length cs rest := ⟨_, rfl⟩
      have hl := tok_no he
      rw [← hO] at he hl
      have HT : Hid (∀ W, Calls Tryz.prog 19 #[.string s] W (GTo O W)) := Lib.hid fun W => by
        have := tokens_any HC.out W
        rw [← HLEN.out, ← hO] at this
        exact this
      have hno := dg_no he O.q
      clear hO
      go_wp2_with fail
      refine (HT.out _).mono ?_
      rintro e w7 ⟨hb7, A7, n7, c7, rfl, hr7⟩
      obtain rfl : n7 = 0 := by have := hr7.1; rw [hl] at this; exact this
      have HB7 := Lib.hid (HBC.out.on hb7)
      clear hb7 hr7 hl he
      go_wp2
      go_ret
      exact ⟨rfl, HB7.out.alloc _⟩
end Go.Proofs.YteockaolmobmeaaGreatDoor.Mu

