/-
  UtfPoints and UtfPuts, walked.
-/
import Derived.Test.YtaiogbokmglofaaUtfKnown
namespace Go.Proofs.Ytaiogbokmglofaa.Mu
open Go.RowKit Go.Shelf

theorem RP.alloc {w : World} {A : Option Addr} {n : Nat} {xs : List Pn} (h : RP w w.heap.size A n xs) (o : Obj) : RP (w.alloc o) (w.alloc o).heap.size A n xs := h.bel ((Bel.refl w).alloc o)
theorem dg_of (o : Ot) (w : World) (g : Nat) (t : TypeId) (h : w.heap[g]? = some (.cells #[.int .i64 o.e, .int .i64 o.q.a, .int .i64 o.q.l, .int .i64 o.q.c] t (0, 0))) :
    w.cell? ⟨g, 0, none⟩ = some (.int .i64 o.e) ∧ w.cell? ⟨g, 1, none⟩ = some (.int .i64 o.q.a) ∧ w.cell? ⟨g, 2, none⟩ = some (.int .i64 o.q.l) ∧ w.cell? ⟨g, 3, none⟩ = some (.int .i64 o.q.c) ∧ g < w.heap.size :=
  ⟨(cells4 h).1, (cells4 h).2.1, (cells4 h).2.2.1, (cells4 h).2.2.2.1, (Array.getElem?_eq_some_iff.1 h).1⟩
theorem ot_len {s : ByteArray} {cs : List Int} {rest : List UInt8} (h : Cps s.data.toList cs rest) : (ot s.size cs rest).xs.length ≤ 4000 := by
  unfold ot
  split
  · simp
  · split
    · rename_i h1 h2
      have hlen : s.data.toList.length = s.size := by rw [Array.length_toList]; rfl
      have hcl : (encs cs).length + rest.length = s.size := by rw [← hlen, h.eq, List.length_append]
      have := encs_len_ge h.cp
      show (place p0 cs).length ≤ 4000
      rw [place_len]; omega
    · simp
set_option maxRecDepth 100000 in
set_option maxHeartbeats 4000000 in
theorem utfPoints_any (s : ByteArray) (w : World) : Calls Try.prog 3 #[.string s] w fun e w' => e = .returned (.bool true) ∧ Bel w w' := by
  obtain ⟨cs, rest, hc⟩ := cps_ex _ s.data.toList (Nat.le_refl _)
  obtain ⟨o, ho⟩ : ∃ o, o = ot s.size cs rest := ⟨_, rfl⟩
  have HP : Hid (∀ w, Calls Try.prog 9 #[.string s] w (GO2 o w)) := Lib.hid (fun w => by rw [ho]; exact points_any hc w)
  have HE : Hid (∀ w, Calls Try.prog 10 #[.string s] w (GOE o w)) := Lib.hid (fun w => by rw [ho]; exact end_any hc w)
  have HR : Hid (∀ w, Calls Try.prog 11 #[.string s] w (GO3 o w)) := Lib.hid (fun w => by rw [ho]; exact rpoints_o hc w)
  have HL : Hid (o.xs.length ≤ 4000) := Lib.hid (by rw [ho]; exact ot_len hc)
  clear hc ho
  have hed := eq_dg
  have hes := eq_ps
  by_cases hbig : 10000 < s.size
  · have hb2 : (10000 : Int) < (s.size : Int) := by omega
    go_enter Try.func3, Try.ntmps3
    go_wp2_with (go_at_call 8; refine (known9_any _).mono ?_; rintro e w1 ⟨rfl, hb⟩; have HB := Lib.hid hb; clear hb)
    go_ret
    exact ⟨rfl, HB.out⟩
  · have hb2 : (s.size : Int) ≤ 10000 := by omega
    go_enter Try.func3, Try.ntmps3
    go_wp2_with (go_at_call 8; refine (known9_any _).mono ?_; rintro e w1 ⟨rfl, hb⟩; have HB := Lib.hid hb; clear hb)
    refine (HP.out _).mono ?_
    rintro e w2 ⟨hb2', A, n, c, rfl, hq⟩
    have HB2 := Lib.hid (HB.out.on hb2')
    have HQ := Lib.hid hq
    clear hb2' hq
    go_wp2_with fail
    refine (HE.out _).mono ?_
    rintro e w3 ⟨hb3, rfl⟩
    have HB23 := Lib.hid (((Bel.refl w2).alloc (.cells #[.int .i64 o.e, .int .i64 o.q.a, .int .i64 o.q.l, .int .i64 o.q.c] 28)).on hb3)
    have HK3 := Lib.hid (hb3.blk (blk1 w2 (.cells #[.int .i64 o.e, .int .i64 o.q.a, .int .i64 o.q.l, .int .i64 o.q.c] 28)))
    clear hb3
    go_wp2_with fail
    refine (HR.out _).mono ?_
    rintro e w4 ⟨hb4, A4, n4, c4, rfl, hq4⟩
    obtain rfl : n = n4 := by have := HQ.out.len; have := hq4.len; omega
    have hn : n ≤ 4000 := by have := HQ.out.len; have := HL.out; omega
    have hk4 := blk2 w3 (.cells #[.int .i64 o.p.a, .int .i64 o.p.l, .int .i64 o.p.c] 26) (.cells #[.int .i64 o.e, .int .i64 o.q.a, .int .i64 o.q.l, .int .i64 o.q.c] 28)
    have HB34 := Lib.hid ((((Bel.refl w3).alloc (.cells #[.int .i64 o.p.a, .int .i64 o.p.l, .int .i64 o.p.c] 26)).alloc (.cells #[.int .i64 o.e, .int .i64 o.q.a, .int .i64 o.q.l, .int .i64 o.q.c] 28)).on hb4)
    have HP4 := Lib.hid (hb4.blk hk4.1)
    have HD4 := Lib.hid (hb4.blk hk4.2)
    have HE4 := Lib.hid (HB34.out.blk HK3.out)
    have HQ4 := Lib.hid (HQ.out.bel (HB23.out.on HB34.out))
    have HR4 := Lib.hid hq4
    clear hb4 hq4 hk4
    go_wp2_with fail
    refine (rsame9_any _ ((HQ4.out.alloc _).alloc _) ((HR4.out.alloc _).alloc _) hn).mono ?_
    rintro e w5 ⟨rfl, k, hk5⟩
    have hbx : Bel w4 w5 := by rw [hk5]; exact (((Bel.refl w4).alloc _).alloc _).drewN k
    have hk4 := blk2 w4 (.cells #[.int .i64 o.p.a, .int .i64 o.p.l, .int .i64 o.p.c] 26) (.cells #[.int .i64 o.e, .int .i64 o.q.a, .int .i64 o.q.l, .int .i64 o.q.c] 28)
    obtain ⟨a0, a1, a2, -, -, -⟩ := cells3 (w := w5) (g := w4.heap.size) (x := .int .i64 o.p.a) (y := .int .i64 o.p.l) (z := .int .i64 o.p.c) (t := 26) (by rw [hk5]; exact hk4.1)
    obtain ⟨b0, b1, b2, b3, b4⟩ := dg_of o w5 (w4.heap.size + 1) 28 (by rw [hk5]; exact hk4.2)
    obtain ⟨c0, c1, c2, c3, c5⟩ := dg_of o w5 w2.heap.size 28 (hbx.blk HE4.out)
    obtain ⟨d0, d1, d2, d3, d4⟩ := dg_of o w5 (w3.heap.size + 1) 28 (hbx.blk HD4.out)
    obtain ⟨e0, e1, e2, -, -, -⟩ := cells3 (hbx.blk HP4.out)
    have hz3 : w3.heap.size < w5.heap.size := by omega
    have hz4 : w4.heap.size < w5.heap.size := by omega
    have HBF := Lib.hid (HB2.out.on (HB23.out.on (HB34.out.on hbx)))
    clear hk5 hbx hk4
    go_wp2
    go_ret
    exact ⟨rfl, HBF.out⟩
set_option maxRecDepth 100000 in
set_option maxHeartbeats 4000000 in
theorem utfPuts_any {A : Option Addr} {n c : Nat} {l : List Int} (w : World) (h : RI .i32 w w.heap.size A n l) (hr : ∀ x ∈ l, -2147483648 ≤ x ∧ x ≤ 2147483647) : Calls Try.prog 4 #[.slice A n c] w fun e w' => e = .returned (.bool true) ∧ Bel w w' := by
  have H := Lib.hid h
  have HR := Lib.hid hr
  clear h hr
  by_cases hbig : 5000 < n
  · have hb2 : (5000 : Int) < (n : Int) := by omega
    go_enter Try.func4, Try.ntmps4
    go_wp2_with (go_at_call 8; refine (known9_any _).mono ?_; rintro e w1 ⟨rfl, hb⟩; have HB := Lib.hid hb; clear hb)
    go_ret
    exact ⟨rfl, HB.out⟩
  · have hb2 : (n : Int) ≤ 5000 := by omega
    have hn : n ≤ 1000000000 := by omega
    go_enter Try.func4, Try.ntmps4
    go_wp2_with (go_at_call 8; refine (known9_any _).mono ?_; rintro e w1 ⟨rfl, hb⟩; have HB := Lib.hid hb; clear hb)
    refine (put_any hn _ (H.out.bel HB.out)).mono ?_
    rintro e w2 ⟨hb2', rfl⟩
    have HB2 := Lib.hid (HB.out.on hb2')
    clear hb2'
    go_wp2_with fail
    refine (rput_any hn HR.out _ (H.out.bel HB2.out)).mono ?_
    rintro e w3 ⟨hb3, rfl⟩
    have HB3 := Lib.hid (HB2.out.on hb3)
    clear hb3
    go_wp2
    go_ret
    exact ⟨by simp, HB3.out⟩
end Go.Proofs.Ytaiogbokmglofaa.Mu

