/-
  The chapter's rows, walked: known answers true.
-/
import Derived.Test.YtaiogbokmglofaaUtfRef
import Derived.Test.YtaiogbokmglofaaUtfPut
namespace Go.Proofs.Ytaiogbokmglofaa.Mu
open Go.RowKit Go.Shelf

theorem no_pre {L : List UInt8} (h : Utf8.decode ⟨L.toArray⟩ 0 = (65533, 1)) : ∀ c, cpB c = true → ¬ enc c <+: L := fun c hc hp => by
  have e := dec_of_enc (s := ⟨L.toArray⟩) (i := 0) hc (by simpa using hp)
  rw [h] at e
  have e1 := (Prod.mk.inj e).1
  have e2 := (Prod.mk.inj e).2
  have hb := (cpB_iff c).1 hc
  have : c = 65533 := by omega
  subst this
  exact absurd e2 (by decide)
theorem cp_ok {l : List Int} (h : allB l = true) : AllCp l := (allB_iff l).1 h
theorem cps1 : Cps [97] [97] [] := ⟨cp_ok (by decide), by decide +kernel, (Cps.nil (cp_ok (l := []) (by decide))).no⟩
theorem cps2 : Cps [97, 10, 98] [97, 10, 98] [] := ⟨cp_ok (by decide), by decide +kernel, (Cps.nil (cp_ok (l := []) (by decide))).no⟩
theorem cps3 : Cps [97, 195] [97] [195] := ⟨cp_ok (by decide), by decide +kernel, no_pre (by decide +kernel)⟩
theorem cps4 : Cps [192, 128] [] [192, 128] := ⟨cp_ok (by decide), by decide +kernel, no_pre (by decide +kernel)⟩
theorem cps5 : Cps [237, 160, 128] [] [237, 160, 128] := ⟨cp_ok (by decide), by decide +kernel, no_pre (by decide +kernel)⟩
theorem kp1 (w : World) : Calls Try.prog 9 #[.string { data := #[97] }] w fun e w' => Bel w w' ∧ ∃ A n c, e = .returned (.tuple #[.slice A n c, .agg #[.int .i64 0, .int .i64 0, .int .i64 0, .int .i64 0]]) ∧ RP w' w'.heap.size A n [⟨97, ⟨0, 1, 1⟩⟩] :=
  (points_any (s := { data := #[97] }) cps1 w).mono fun _ _ h => h
theorem kp2 (w : World) : Calls Try.prog 10 #[.string { data := #[97, 10, 98] }] w fun e w' => Bel w w' ∧ e = .returned (.tuple #[.agg #[.int .i64 3, .int .i64 2, .int .i64 2], .agg #[.int .i64 0, .int .i64 0, .int .i64 0, .int .i64 0]]) :=
  (end_any (s := { data := #[97, 10, 98] }) cps2 w).mono fun _ _ h => h
theorem kp3 (w : World) : Calls Try.prog 9 #[.string { data := #[97, 195] }] w fun e w' => Bel w w' ∧ ∃ A n c, e = .returned (.tuple #[.slice A n c, .agg #[.int .i64 90, .int .i64 1, .int .i64 1, .int .i64 2]]) ∧ RP w' w'.heap.size A n [] :=
  (points_any (s := { data := #[97, 195] }) cps3 w).mono fun _ _ h => h
theorem kp4 (w : World) : Calls Try.prog 9 #[.string { data := #[192, 128] }] w fun e w' => Bel w w' ∧ ∃ A n c, e = .returned (.tuple #[.slice A n c, .agg #[.int .i64 90, .int .i64 0, .int .i64 1, .int .i64 1]]) ∧ RP w' w'.heap.size A n [] :=
  (points_any (s := { data := #[192, 128] }) cps4 w).mono fun _ _ h => h
theorem kp5 (w : World) : Calls Try.prog 9 #[.string { data := #[237, 160, 128] }] w fun e w' => Bel w w' ∧ ∃ A n c, e = .returned (.tuple #[.slice A n c, .agg #[.int .i64 90, .int .i64 0, .int .i64 1, .int .i64 1]]) ∧ RP w' w'.heap.size A n [] :=
  (points_any (s := { data := #[237, 160, 128] }) cps5 w).mono fun _ _ h => h
/-- A literal of one number in memory. -/
theorem ri_one (w : World) (x : Int) (t : TypeId) : RI .i32 (w.alloc (.cells #[.int .i32 x] t)) (w.alloc (.cells #[.int .i32 x] t)).heap.size (some ⟨w.heap.size, 0, none⟩) 1 [x] :=
  ⟨rfl, fun _ => ⟨_, 0, rfl, by simp, fun k hk => by
    have : k = 0 := by omega
    subst this; simp⟩⟩
theorem ri_three (w : World) (x y z : Int) (t : TypeId) : RI .i32 (w.alloc (.cells #[.int .i32 x, .int .i32 y, .int .i32 z] t)) (w.alloc (.cells #[.int .i32 x, .int .i32 y, .int .i32 z] t)).heap.size (some ⟨w.heap.size, 0, none⟩) 3 [x, y, z] :=
  ⟨rfl, fun _ => ⟨_, 0, rfl, by simp, fun k hk => by
    rcases (show k = 0 ∨ k = 1 ∨ k = 2 by omega) with e | e | e <;> subst e <;> simp⟩⟩
theorem kq1 (w : World) (b : Nat) (hb : b = w.heap.size) : Calls Try.prog 13 #[.slice (some ⟨b, 0, none⟩) 3 3] (w.alloc (.cells #[.int .i32 228, .int .i32 8364, .int .i32 119070] 21)) fun e w' => Bel w w' ∧ e = .returned (.tuple #[.string { data := #[195, 164, 226, 130, 172, 240, 157, 132, 158] }, .int .i64 0]) := by
  subst hb
  exact (put_any (l := [228, 8364, 119070]) (by omega) _ (ri_three w _ _ _ _)).mono fun _ _ h => ⟨((Bel.refl w).alloc _).on h.1, by
    rw [h.2, show putS [228, 8364, 119070] = [195, 164, 226, 130, 172, 240, 157, 132, 158] by decide +kernel, show putE [228, 8364, 119070] = 0 by decide +kernel]⟩
theorem kq2 {x : Int} (hx : cpB x = false) (w : World) (b : Nat) (hb : b = w.heap.size) : Calls Try.prog 13 #[.slice (some ⟨b, 0, none⟩) 1 1] (w.alloc (.cells #[.int .i32 x] 21)) fun e w' => Bel w w' ∧ e = .returned (.tuple #[.string { data := #[] }, .int .i64 2]) := by
  subst hb
  exact (put_any (l := [x]) (by omega) _ (ri_one w _ _)).mono fun _ _ h => ⟨((Bel.refl w).alloc _).on h.1, by
    rw [h.2, show putS [x] = [] by simp [putS, allB, hx], show putE [x] = 2 by simp [putE, allB, hx]]⟩
theorem eq_pt (i a b c : Int) (w : World) : (Op.equalIn 10000 42 (.agg #[.int .i32 i, .int .i64 a, .int .i64 b, .int .i64 c]) (.agg #[.int .i32 i, .int .i64 a, .int .i64 b, .int .i64 c])).run Try.prog w = .ok true w := by
  have := point_in ⟨i, ⟨a, b, c⟩⟩ ⟨i, ⟨a, b, c⟩⟩ w
  simpa using this
theorem eq_dg (i a b c : Int) (w : World) : (Op.equalIn 10000 28 (.agg #[.int .i64 i, .int .i64 a, .int .i64 b, .int .i64 c]) (.agg #[.int .i64 i, .int .i64 a, .int .i64 b, .int .i64 c])).run Try.prog w = .ok true w := by
  have := diag_in i i ⟨a, b, c⟩ ⟨a, b, c⟩ w
  simpa using this
theorem eq_ps (a b c : Int) (w : World) : (Op.equalIn 10000 26 (.agg #[.int .i64 a, .int .i64 b, .int .i64 c]) (.agg #[.int .i64 a, .int .i64 b, .int .i64 c])).run Try.prog w = .ok true w := by
  have := pos_in ⟨a, b, c⟩ ⟨a, b, c⟩ w
  simpa using this
set_option maxRecDepth 100000 in
set_option maxHeartbeats 4000000 in
theorem known9_any (w : World) : Calls Try.prog 8 #[] w fun e w' => e = .returned (.bool true) ∧ Bel w w' := by
  have hep := eq_pt
  have hed := eq_dg
  have hes := eq_ps
  go_enter Try.func8, Try.ntmps8
  go_wp2_with fail
  refine (kp1 _).mono ?_
  rintro e w1 ⟨hb1, A, n, c, rfl, hq⟩
  obtain rfl : n = 1 := hq.len
  obtain ⟨b, off, rfl, hbb, hc⟩ := hq.at_ (by omega)
  obtain ⟨a0, a1, a2, a3⟩ := hc 0 ⟨97, ⟨0, 1, 1⟩⟩ rfl
  have HA := Lib.hid (And.intro hbb (And.intro a0 (And.intro a1 (And.intro a2 a3))))
  have HB1 := Lib.hid hb1
  clear hb1 hq hc a0 a1 a2 a3 hbb
  go_wp2_with fail
  refine (kp2 _).mono ?_
  rintro e w2 ⟨hb2, rfl⟩
  have HB2 := Lib.hid hb2
  have HK2 := Lib.hid (hb2.blk (blk1 w1 (.cells #[.int .i64 0, .int .i64 0, .int .i64 0, .int .i64 0] 28)))
  clear hb2
  go_wp2_with fail
  refine (kq1 _ _ (by simp)).mono ?_
  rintro e w3 ⟨hb3, rfl⟩
  have hk3 := blk2 w2 (.cells #[.int .i64 3, .int .i64 2, .int .i64 2] 26) (.cells #[.int .i64 0, .int .i64 0, .int .i64 0, .int .i64 0] 28)
  obtain ⟨e0, e1, e2, -, -, -⟩ := cells3 (hb3.blk hk3.1)
  obtain ⟨f0, f1, f2, f3, -, -, -, -⟩ := cells4 (hb3.blk hk3.2)
  have hb23 := (((Bel.refl w2).alloc (.cells #[.int .i64 3, .int .i64 2, .int .i64 2] 26)).alloc (.cells #[.int .i64 0, .int .i64 0, .int .i64 0, .int .i64 0] 28)).on hb3
  obtain ⟨d0, d1, d2, d3, -, -, -, -⟩ := cells4 (hb23.blk HK2.out)
  have hb13 := ((Bel.refl w1).alloc (.cells #[.int .i64 0, .int .i64 0, .int .i64 0, .int .i64 0] 28)).on (HB2.out.on hb23)
  obtain ⟨hbb, a0, a1, a2, a3⟩ := HA.out
  have c0 := (hb13.cells.1 b _ hbb).trans a0
  have c1 := (hb13.cells.1 b _ hbb).trans a1
  have c2 := (hb13.cells.1 b _ hbb).trans a2
  have c3 := (hb13.cells.1 b _ hbb).trans a3
  simp only [Nat.zero_mul, Nat.add_zero] at c0 c1 c2 c3
  have HBW := Lib.hid (HB1.out.on hb13)
  clear hb3 hk3 hb23 hb13 hbb a0 a1 a2 a3
  go_wp2_with fail
  refine (kp3 _).mono ?_
  rintro e w4 ⟨hb4, A4, n4, c4, rfl, hq4⟩
  obtain rfl : n4 = 0 := hq4.len
  have HB4 := Lib.hid (HBW.out.on hb4)
  clear hb4 hq4 c0 c1 c2 c3 d0 d1 d2 d3 e0 e1 e2 f0 f1 f2 f3
  go_wp2_with fail
  refine (kp4 _).mono ?_
  rintro e w5 ⟨hb5, A5, n5, c5, rfl, hq5⟩
  obtain rfl : n5 = 0 := hq5.len
  have HK5 := Lib.hid (hb5.blk (blk1 w4 (.cells #[.int .i64 90, .int .i64 1, .int .i64 1, .int .i64 2] 28)))
  have HB5 := Lib.hid ((HB4.out.alloc _).on hb5)
  clear hb5 hq5
  go_wp2_with fail
  refine (kp5 _).mono ?_
  rintro e w6 ⟨hb6, A6, n6, c6, rfl, hq6⟩
  obtain rfl : n6 = 0 := hq6.len
  have HK6 := Lib.hid (hb6.blk (blk1 w5 (.cells #[.int .i64 90, .int .i64 0, .int .i64 1, .int .i64 1] 28)))
  have HB56 := Lib.hid (((Bel.refl w5).alloc (.cells #[.int .i64 90, .int .i64 0, .int .i64 1, .int .i64 1] 28)).on hb6)
  clear hb6 hq6
  go_wp2_with fail
  refine (kq2 (by decide) _ _ (by simp)).mono ?_
  rintro e w7 ⟨hb7, rfl⟩
  have HB67 := Lib.hid (((Bel.refl w6).alloc (.cells #[.int .i64 90, .int .i64 0, .int .i64 1, .int .i64 1] 28)).on hb7)
  have HK7 := Lib.hid (hb7.blk (blk1 w6 (.cells #[.int .i64 90, .int .i64 0, .int .i64 1, .int .i64 1] 28)))
  clear hb7
  go_wp2_with fail
  refine (kq2 (by decide) _ _ (by simp)).mono ?_
  rintro e w8 ⟨hb8, rfl⟩
  have HB78 := Lib.hid hb8
  clear hb8
  go_wp2_with fail
  refine (kq2 (by decide) _ _ (by simp)).mono ?_
  rintro e w9 ⟨hb9, rfl⟩
  have hb79 := HB78.out.on hb9
  obtain ⟨g0, g1, g2, g3, -, -, -, -⟩ := cells4 (hb79.blk HK7.out)
  obtain ⟨h0, h1, h2, h3, -, -, -, -⟩ := cells4 ((HB67.out.on hb79).blk HK6.out)
  obtain ⟨i0, i1, i2, i3, -, -, -, -⟩ := cells4 ((HB56.out.on (HB67.out.on hb79)).blk HK5.out)
  have HB9 := Lib.hid (HB5.out.on (HB56.out.on (HB67.out.on hb79)))
  have s6 : w6.heap.size < w9.heap.size := (Array.getElem?_eq_some_iff.1 (hb79.blk HK7.out)).1
  have s5 : w5.heap.size < w9.heap.size := (Array.getElem?_eq_some_iff.1 ((HB67.out.on hb79).blk HK6.out)).1
  have s4 : w4.heap.size < w9.heap.size := (Array.getElem?_eq_some_iff.1 ((HB56.out.on (HB67.out.on hb79)).blk HK5.out)).1
  clear hb9 hb79
  go_wp2
  go_ret
  exact ⟨rfl, HB9.out.alloc _⟩
end Go.Proofs.Ytaiogbokmglofaa.Mu

