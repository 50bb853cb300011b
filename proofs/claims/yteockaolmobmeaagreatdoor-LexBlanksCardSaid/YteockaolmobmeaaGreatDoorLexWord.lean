/-
  Words and constructors' names are taken: walked.
-/
import Derived.Test.YteockaolmobmeaaGreatDoorLexName
import Derived.Test.YteockaolmobmeaaGreatDoorShelf
namespace Go.Proofs.YteockaolmobmeaaGreatDoor.Mu
open Go.RowKit Go.Shelf
set_option maxRecDepth 100000

theorem wp_abs {P : Program} {c : Code} {Q : Exit → Act → World → Prop} {a : Act} {w : World} (h : ∀ W, W = w → c.wp P Q a W) : c.wp P Q a w := h w rfl
theorem set6_blk {w : World} {g : Nat} {t : TypeId} {x0 x1 x2 x3 x4 x5 : Value} (h : w.heap[g]? = some (.cells #[x0, x1, x2, x3, x4, x5] t (0, 0))) (v0 v1 v2 v3 v4 v5 : Value) :
    ((((((w.setCell ⟨g, 0, none⟩ v0).setCell ⟨g, 1, none⟩ v1).setCell ⟨g, 2, none⟩ v2).setCell ⟨g, 3, none⟩ v3).setCell ⟨g, 4, none⟩ v4).setCell ⟨g, 5, none⟩ v5).heap[g]? = some (.cells #[v0, v1, v2, v3, v4, v5] t (0, 0)) := by
  simp [World.setCell, Array.getElem?_modify, h]
theorem set4_blk {w : World} {g : Nat} {t : TypeId} {x0 x1 x2 x3 : Value} (h : w.heap[g]? = some (.cells #[x0, x1, x2, x3] t (0, 0))) (v0 v1 v2 v3 : Value) :
    ((((w.setCell ⟨g, 0, none⟩ v0).setCell ⟨g, 1, none⟩ v1).setCell ⟨g, 2, none⟩ v2).setCell ⟨g, 3, none⟩ v3).heap[g]? = some (.cells #[v0, v1, v2, v3] t (0, 0)) := by
  simp [World.setCell, Array.getElem?_modify, h]
/-- Two boxes laid and written. -/
def bx2 (w : World) (v0 v1 v2 v3 v4 v5 d0 d1 d2 d3 : Value) : World :=
  (((((((((((w.alloc bxT).alloc bxD).setCell ⟨w.heap.size, 0, none⟩ v0).setCell ⟨w.heap.size, 1, none⟩ v1).setCell ⟨w.heap.size, 2, none⟩ v2).setCell ⟨w.heap.size, 3, none⟩ v3).setCell ⟨w.heap.size, 4, none⟩ v4).setCell ⟨w.heap.size, 5, none⟩ v5).setCell ⟨w.heap.size + 1, 0, none⟩ d0).setCell ⟨w.heap.size + 1, 1, none⟩ d1).setCell ⟨w.heap.size + 1, 2, none⟩ d2).setCell ⟨w.heap.size + 1, 3, none⟩ d3
theorem bx2_spec (w : World) (v0 v1 v2 v3 v4 v5 d0 d1 d2 d3 : Value) : (bx2 w v0 v1 v2 v3 v4 v5 d0 d1 d2 d3).heap[w.heap.size]? = some (.cells #[v0, v1, v2, v3, v4, v5] 44 (0, 0)) ∧
    (bx2 w v0 v1 v2 v3 v4 v5 d0 d1 d2 d3).heap[w.heap.size + 1]? = some (.cells #[d0, d1, d2, d3] 34 (0, 0)) ∧ Bel w (bx2 w v0 v1 v2 v3 v4 v5 d0 d1 d2 d3) := by
  obtain ⟨q1, q2⟩ := blk2 w bxT bxD
  obtain ⟨w2, hw2⟩ : ∃ w2, w2 = (w.alloc bxT).alloc bxD := ⟨_, rfl⟩
  have hb : Bel w w2 := by rw [hw2]; exact ((Bel.refl w).alloc _).alloc _
  unfold bx2
  rw [← hw2] at q1 q2 ⊢
  have r1 := set6_blk q1 v0 v1 v2 v3 v4 v5
  have r2 : (((((((w2.setCell ⟨w.heap.size, 0, none⟩ v0).setCell ⟨w.heap.size, 1, none⟩ v1).setCell ⟨w.heap.size, 2, none⟩ v2).setCell ⟨w.heap.size, 3, none⟩ v3).setCell ⟨w.heap.size, 4, none⟩ v4).setCell ⟨w.heap.size, 5, none⟩ v5)).heap[w.heap.size + 1]? = some bxD := by
    repeat rw [Below.heap_setCell _ _ _ _ (by show w.heap.size + 1 ≠ w.heap.size; omega)]
    exact q2
  refine ⟨?_, set4_blk r2 d0 d1 d2 d3, ?_⟩
  · repeat rw [Below.heap_setCell _ _ _ _ (by show w.heap.size ≠ w.heap.size + 1; omega)]
    exact r1
  · exact ((((((((((hb.set_ (Nat.le_refl _) _).set_ (Nat.le_refl _) _).set_ (Nat.le_refl _) _).set_ (Nat.le_refl _) _).set_ (Nat.le_refl _) _).set_ (Nat.le_refl _) _).set_ (Nat.le_succ _) _).set_ (Nat.le_succ _) _).set_ (Nat.le_succ _) _).set_ (Nat.le_succ _) _)
theorem contains_any {A : Option Addr} {n c : Nat} {ts : List (List UInt8)} (s : List UInt8) (hn : n ≤ 1000000) (w : World) (h : RL w w.heap.size A n ts) : Calls Tryz.prog 74 #[.slice A n c, .string ⟨s.toArray⟩] w fun e w' => e = .returned (.bool (decide (s ∈ ts))) ∧ w = w' := by
  obtain ⟨hl, hc⟩ := h
  by_cases h0 : n = 0
  · subst h0
    obtain rfl : ts = [] := List.eq_nil_of_length_eq_zero hl.symm
    exact (Tryz.slices_Contains_string_empty A c ⟨s.toArray⟩ w).mono fun e w' h => ⟨by simpa using h.1, h.2.symm⟩
  · obtain ⟨b, off, rfl, hb, hcell⟩ := hc (by omega)
    refine (Tryz.slices_Contains_string b off n c (ts.map fun s => ⟨s.toArray⟩) ⟨s.toArray⟩ w (by simp [hl]) (by omega) (fun j hj => ?_)).mono fun e w' h => ⟨?_, h.2.symm⟩
    · rw [List.length_map] at hj
      rw [hcell j _ (List.getElem?_eq_getElem hj)]
      simp [hj]
    · rw [h.1]
      congr 2
      rw [Bool.eq_iff_iff, Lib.containsS_iff, decide_eq_true_iff]
      have e : (ts.map fun s => (⟨s.toArray⟩ : ByteArray)).take n = ts.map fun s => ⟨s.toArray⟩ := List.take_of_length_le (by simp [hl])
      rw [e, List.mem_map]
      constructor
      · rintro ⟨t, ht, he⟩
        have : t.toArray = s.toArray := by injection he
        have h2 := congrArg Array.toList this
        simp at h2
        rw [← h2]; exact ht
      · intro hs; exact ⟨s, hs, rfl⟩
theorem words_any (w : World) : Calls Tryz.prog 10 #[] w fun e w' => (∃ A, e = .returned (.slice A 6 6) ∧ RL w' w'.heap.size A 6 wordsB) ∧ Bel w w' := by
  go_enter Tryz.func10, Tryz.ntmps10
  go_wp2
  go_ret
  refine ⟨⟨_, rfl, ?_⟩, (Bel.refl _).alloc _⟩
  exact RL.lit w wordsB _ (by kernel_rfl) 6 (by kernel_rfl) _
theorem prims_any (w : World) : Calls Tryz.prog 12 #[] w fun e w' => (∃ A, e = .returned (.slice A 10 10) ∧ RL w' w'.heap.size A 10 primsB) ∧ Bel w w' := by
  go_enter Tryz.func12, Tryz.ntmps12
  go_wp2
  go_ret
  refine ⟨⟨_, rfl, ?_⟩, (Bel.refl _).alloc _⟩
  exact RL.lit w primsB _ (by kernel_rfl) 10 (by kernel_rfl) _
theorem signs_any (w : World) : Calls Tryz.prog 14 #[] w fun e w' => (∃ A, e = .returned (.slice A 22 22) ∧ RL w' w'.heap.size A 22 signsB) ∧ Bel w w' := by
  go_enter Tryz.func14, Tryz.ntmps14
  go_wp2
  go_ret
  refine ⟨⟨_, rfl, ?_⟩, (Bel.refl _).alloc _⟩
  exact RL.lit w signsB _ (by kernel_rfl) 22 (by kernel_rfl) _
set_option maxHeartbeats 4000000 in
theorem con_any {g : Nat} {A : Option Addr} {n c : Nat} {xs : List Pn} {i : Nat} {x : Pn} (hx : xs[i]? = some x) (w : World) (h : Rdr w g A n c xs i) :
    Calls Tryz.prog 53 #[.pointer (some ⟨g, 0, none⟩)] w fun e w' =>
      e = .returned (if 24 < (((xs.map Pn.r).drop i).takeWhile isW).length then erV 3 x.p else tkV 2 (encs (((xs.map Pn.r).drop i).takeWhile isW)) 0) ∧ Rdr w' g A n c xs (i + (((xs.map Pn.r).drop i).takeWhile isW).length) ∧ Kr g w w' := by
  obtain ⟨T, hT⟩ : ∃ T, T = ((xs.map Pn.r).drop i).takeWhile isW := ⟨_, rfl⟩
  have HN : Hid (∀ w, Rdr w g A n c xs i → Calls Tryz.prog 73 #[.pointer (some ⟨g, 0, none⟩), .int .u8 2] w fun e w' =>
      e = .returned (if 24 < T.length then erV 3 x.p else tkV 2 (encs T) 0) ∧ Rdr w' g A n c xs (i + T.length) ∧ Kr g w w') := Lib.hid fun w hd => by rw [hT]; exact name_any 2 hx w hd
  rw [← hT]
  have H := Lib.hid h
  have hglt := h.lt
  clear h hT hx
  have hb2 : Bel w ((w.alloc bxT).alloc bxD) := ((Bel.refl w).alloc _).alloc _
  have HB2 := Lib.hid hb2
  obtain ⟨q1, q2⟩ := blk2 w bxT bxD
  have HQ1 := Lib.hid q1
  have HQ2 := Lib.hid q2
  clear hb2 q1 q2
  by_cases h24 : 24 < T.length
  · have hn : ∀ w, Rdr w g A n c xs i → Calls Tryz.prog 73 #[.pointer (some ⟨g, 0, none⟩), .int .u8 2] w fun e w' => e = .returned (erV 3 x.p) ∧ Rdr w' g A n c xs (i + T.length) ∧ Kr g w w' := fun w hd => by have := HN.out w hd; rwa [if_pos h24] at this
    rw [if_pos h24]
    have HNN := Lib.hid hn
    clear hn
    unfold erV at HNN ⊢
    go_enter Tryz.func53, Tryz.ntmps53
    go_wp2_with fail
    refine (HNN.out _ (H.out.bel HB2.out)).mono ?_
    rintro e w1 ⟨rfl, hd, hk⟩
    have HD := Lib.hid hd
    have hs : w.heap.size + 2 ≤ w1.heap.size := by have := hk.size; simpa using this
    obtain ⟨⟨t0, t1, t2, t3, t4, t5⟩, f0, f1, f2, f3, f4, f5⟩ := cells6 (hk.keep HQ1.out (by omega))
    obtain ⟨d0, d1, d2, d3, g0, g1, g2, g3⟩ := cells4 (hk.keep HQ2.out (by omega))
    have HK := Lib.hid (((Kr.of_bel HB2.out).on hk : Kr g w w1))
    clear hd hk
    go_wp2
    refine bodyPost_ret ?_ rfl ⟨rfl, ?_, ?_⟩
    · simp [results, Tryz.results53, go_sem, *]
    · repeat (first | with_reducible exact HD.out | with_reducible refine Rdr.setN ?_ (by show g < w.heap.size + _; omega) _ | with_reducible refine Rdr.setN ?_ (by show g < w.heap.size; omega) _)
    · repeat (first | with_reducible exact HK.out | with_reducible refine Kr.setN ?_ (by simp) _)
  · have hn : ∀ w, Rdr w g A n c xs i → Calls Tryz.prog 73 #[.pointer (some ⟨g, 0, none⟩), .int .u8 2] w fun e w' => e = .returned (tkV 2 (encs T) 0) ∧ Rdr w' g A n c xs (i + T.length) ∧ Kr g w w' := fun w hd => by have := HN.out w hd; rwa [if_neg h24] at this
    rw [if_neg h24]
    have HNN := Lib.hid hn
    clear hn
    unfold tkV at HNN ⊢
    go_enter Tryz.func53, Tryz.ntmps53
    go_wp2_with fail
    refine (HNN.out _ (H.out.bel HB2.out)).mono ?_
    rintro e w1 ⟨rfl, hd, hk⟩
    have HD := Lib.hid hd
    have hs : w.heap.size + 2 ≤ w1.heap.size := by have := hk.size; simpa using this
    obtain ⟨⟨t0, t1, t2, t3, t4, t5⟩, f0, f1, f2, f3, f4, f5⟩ := cells6 (hk.keep HQ1.out (by omega))
    obtain ⟨d0, d1, d2, d3, g0, g1, g2, g3⟩ := cells4 (hk.keep HQ2.out (by omega))
    have HK := Lib.hid (((Kr.of_bel HB2.out).on hk : Kr g w w1))
    clear hd hk
    go_wp2
    refine bodyPost_ret ?_ rfl ⟨rfl, ?_, ?_⟩
    · simp [results, Tryz.results53, go_sem, *]
    · repeat (first | with_reducible exact HD.out | with_reducible refine Rdr.setN ?_ (by show g < w.heap.size + _; omega) _ | with_reducible refine Rdr.setN ?_ (by show g < w.heap.size; omega) _)
    · repeat (first | with_reducible exact HK.out | with_reducible refine Kr.setN ?_ (by simp) _)
end Go.Proofs.YteockaolmobmeaaGreatDoor.Mu

