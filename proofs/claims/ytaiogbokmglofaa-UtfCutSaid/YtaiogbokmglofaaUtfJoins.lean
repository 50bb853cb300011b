/-
  UtfJoins, walked.
-/
import Derived.Test.YtaiogbokmglofaaUtfBack
namespace Go.Proofs.Ytaiogbokmglofaa.Mu
open Go.RowKit Go.Shelf

def Pl.shift (E Q : Pl) : Pl := ⟨Q.a + E.a, Q.l + (E.l - 1), if Q.l = 1 then Q.c + (E.c - 1) else Q.c⟩
theorem shift_next {E Q : Pl} (hq : 1 ≤ Q.l) (c : Int) : (E.shift Q).next c = E.shift (Q.next c) := by
  unfold Pl.next Pl.shift
  by_cases h : c = 10
  · simp only [h, if_true]
    have : ¬ Q.l + 1 = 1 := by omega
    simp [this]; omega
  · simp only [h, if_false]
    by_cases h1 : Q.l = 1
    · simp [h1]; omega
    · simp [h1]; omega
theorem ends_l1 (ds : List Int) : ∀ (Q : Pl), 1 ≤ Q.l → 1 ≤ (ends Q ds).l := by
  induction ds with
  | nil => intro Q h; exact h
  | cons d ds ih =>
    intro Q h
    refine ih (Q.next d) ?_
    unfold Pl.next; split <;> simp <;> omega
theorem ends_shift (E : Pl) (ds : List Int) : ∀ (Q : Pl), 1 ≤ Q.l → ends (E.shift Q) ds = E.shift (ends Q ds) := by
  induction ds with
  | nil => intro Q h; rfl
  | cons d ds ih =>
    intro Q h
    show ends ((E.shift Q).next d) ds = E.shift (ends (Q.next d) ds)
    rw [shift_next h, ih (Q.next d) (by unfold Pl.next; split <;> simp <;> omega)]
theorem Bel.alloc2 {a b : World} (h : Bel a b) (o p : Obj) : Bel a ((b.alloc o).alloc p) := (h.alloc o).alloc p
theorem ends_from (E : Pl) (ds : List Int) : ends E ds = E.shift (ends p0 ds) := by
  rw [← ends_shift E ds p0 (by decide)]
  congr 1
  unfold Pl.shift p0
  obtain ⟨a, l, c⟩ := E
  simp; omega
theorem points_o2 {s : ByteArray} {cs : List Int} {rest : List UInt8} (h : Cps s.data.toList cs rest) : ∃ o : Ot, (o.e = 0 ↔ (s.size ≤ 4000 ∧ rest = [])) ∧ (s.size ≤ 4000 ∧ rest = [] → o = ⟨place p0 cs, ends p0 cs, 0, z0⟩) ∧ (∀ w : World, Calls Try.prog 9 #[.string s] w (GO2 o w)) ∧ ∀ w : World, Calls Try.prog 10 #[.string s] w (GOE o w) := by
  refine ⟨ot s.size cs rest, ?_, ?_, fun w => points_any h w, fun w => end_any h w⟩
  · unfold ot
    by_cases h1 : 4000 < s.size
    · rw [if_pos h1]; constructor
      · intro h; cases h
      · intro h; omega
    · rw [if_neg h1]
      by_cases hr : rest = []
      · rw [if_pos hr]; exact ⟨fun _ => ⟨by omega, hr⟩, fun _ => rfl⟩
      · rw [if_neg hr]; constructor
        · intro h; cases h
        · intro h; exact absurd h.2 hr
  · intro h
    unfold ot
    rw [if_neg (by omega), if_pos h.2]
set_option maxRecDepth 100000 in
set_option maxHeartbeats 8000000 in
theorem utfJoins_any (s t : ByteArray) (w : World) : Calls Try.prog 6 #[.string s, .string t] w fun e w' => e = .returned (.bool true) ∧ Bel w w' := by
  obtain ⟨cs, rs, hcs⟩ := cps_ex _ s.data.toList (Nat.le_refl _)
  obtain ⟨ds, rt, hct⟩ := cps_ex _ t.data.toList (Nat.le_refl _)
  obtain ⟨dS, hs0, hs1, hs2, hs3⟩ := points_o2 hcs
  obtain ⟨dT, ht0, ht1, ht2, ht3⟩ := points_o2 hct
  have HS1 := Lib.hid hs2
  have HT1 := Lib.hid ht2
  have HE1 := Lib.hid hs3
  clear hs2 ht2 hs3 ht3
  have hep := eq_pt
  have hed := eq_dg
  by_cases hgs : s.size ≤ 4000 ∧ rs = []
  · obtain ⟨h4, rfl⟩ := hgs
    have hdS := hs1 ⟨h4, rfl⟩
    by_cases hgt : t.size ≤ 4000 ∧ rt = []
    · obtain ⟨h5, rfl⟩ := hgt
      have hdT := ht1 ⟨h5, rfl⟩
      subst hdS hdT
      have h4i : (s.size : Int) ≤ 4000 := by omega
      have h5i : (t.size : Int) ≤ 4000 := by omega
      clear hs0 hs1 ht0 ht1
      have HCS := Lib.hid hcs
      have HCT := Lib.hid hct
      clear hcs hct
      by_cases hsum : 4000 < s.size + t.size
      · have h6i : (4000 : Int) < (s.size : Int) + (t.size : Int) := by omega
        simp only [Mu.z0] at HS1 HT1 HE1
        go_enter Try.func6, Try.ntmps6
        go_wp2_with (go_at_call 8; refine (known9_any _).mono ?_; rintro e w1 ⟨rfl, hb⟩; have HB := Lib.hid hb; clear hb)
        refine (HS1.out _).mono ?_
        rintro e w2 ⟨hb2, A2, n2, c2, rfl, hq2⟩
        have HB2 := Lib.hid (HB.out.on hb2)
        have HQ2 := Lib.hid hq2
        clear hb2 hq2
        go_wp2_with fail
        refine (HT1.out _).mono ?_
        rintro e w3 ⟨hb3, A3, n3, c3, rfl, hq3⟩
        have HB23 := Lib.hid (((Bel.refl w2).alloc (.cells #[.int .i64 0, .int .i64 0, .int .i64 0, .int .i64 0] 28)).on hb3)
        have HK3 := Lib.hid (hb3.blk (blk1 w2 (.cells #[.int .i64 0, .int .i64 0, .int .i64 0, .int .i64 0] 28)))
        have HQ3 := Lib.hid hq3
        clear hb3 hq3
        go_wp2_with fail
        refine (HE1.out _).mono ?_
        rintro e w4 ⟨hb4, rfl⟩
        have HB34 := Lib.hid (((Bel.refl w3).alloc (.cells #[.int .i64 0, .int .i64 0, .int .i64 0, .int .i64 0] 28)).on hb4)
        have HK4 := Lib.hid (hb4.blk (blk1 w3 (.cells #[.int .i64 0, .int .i64 0, .int .i64 0, .int .i64 0] 28)))
        obtain ⟨a0, a1, a2, a3, a4⟩ := dg_of ⟨[], z0, 0, z0⟩ w4 w2.heap.size 28 (HB34.out.blk HK3.out)
        obtain ⟨b0, b1, b2, b3, b4⟩ := dg_of ⟨[], z0, 0, z0⟩ w4 w3.heap.size 28 HK4.out
        have HB4 := Lib.hid (HB2.out.on (HB23.out.on HB34.out))
        clear hb4
        go_wp2
        go_ret
        exact ⟨rfl, HB4.out.alloc2 _ _⟩
      · have h6i : (s.size : Int) + (t.size : Int) ≤ 4000 := by omega
        have hsz : (s ++ t).size = s.size + t.size := ByteArray.size_append ..
        have hcj : Cps (s ++ t).data.toList (cs ++ ds) [] := by
          have h1 := HCS.out.eq
          have h2 := HCT.out.eq
          rw [List.append_nil] at h1 h2
          refine ⟨HCS.out.cp.app HCT.out.cp, ?_, HCS.out.no⟩
          rw [ByteArray.data_append, Array.toList_append, h1, h2, encs_app, List.append_nil]
        have HJ := Lib.hid (points_good hcj (by omega))
        have hlc : cs.length ≤ 4000 := by
          have h1 := encs_len_ge HCS.out.cp
          have h2 := HCS.out.eq
          have h3 := congrArg List.length h2
          rw [size_of, List.length_append] at h3
          omega
        have hld : ds.length ≤ 4000 := by
          have h1 := encs_len_ge HCT.out.cp
          have h2 := HCT.out.eq
          have h3 := congrArg List.length h2
          rw [size_of, List.length_append] at h3
          omega
        have hsmE := ends_sm (cs := cs) HCS.out.cp (n := 4000) (by
          have h3 := congrArg List.length HCS.out.eq
          rw [size_of, List.length_append] at h3
          omega)
        have HCT4 : Hid ((encs ds).length ≤ 4000) := Lib.hid (by
          have h3 := congrArg List.length HCT.out.eq
          rw [size_of, List.length_append] at h3
          omega)
        obtain ⟨E, hE⟩ : ∃ E, E = ends p0 cs := ⟨_, rfl⟩
        have HE := Lib.hid hE
        have HSM := Lib.hid hsmE
        clear hsz hcj hsmE
        simp only [Mu.z0] at HS1 HT1 HE1
        rw [← hE] at HE1 HSM
        clear hE
        go_enter Try.func6, Try.ntmps6
        go_wp2_with (go_at_call 8; refine (known9_any _).mono ?_; rintro e w1 ⟨rfl, hb⟩; have HB := Lib.hid hb; clear hb)
        refine (HS1.out _).mono ?_
        rintro e w2 ⟨hb2, A2, n2, c2, rfl, hq2⟩
        have HB2 := Lib.hid (HB.out.on hb2)
        have HQ2 := Lib.hid hq2
        clear hb2 hq2
        go_wp2_with fail
        refine (HT1.out _).mono ?_
        rintro e w3 ⟨hb3, A3, n3, c3, rfl, hq3⟩
        have HB23 := Lib.hid (((Bel.refl w2).alloc (.cells #[.int .i64 0, .int .i64 0, .int .i64 0, .int .i64 0] 28)).on hb3)
        have HK3 := Lib.hid (hb3.blk (blk1 w2 (.cells #[.int .i64 0, .int .i64 0, .int .i64 0, .int .i64 0] 28)))
        have HQ3 := Lib.hid hq3
        clear hb3 hq3
        go_wp2_with fail
        refine (HE1.out _).mono ?_
        rintro e w4 ⟨hb4, rfl⟩
        have HB34 := Lib.hid (((Bel.refl w3).alloc (.cells #[.int .i64 0, .int .i64 0, .int .i64 0, .int .i64 0] 28)).on hb4)
        have HK4 := Lib.hid (hb4.blk (blk1 w3 (.cells #[.int .i64 0, .int .i64 0, .int .i64 0, .int .i64 0] 28)))
        obtain ⟨a0, a1, a2, a3, a4⟩ := dg_of ⟨[], z0, 0, z0⟩ w4 w2.heap.size 28 (HB34.out.blk HK3.out)
        obtain ⟨b0, b1, b2, b3, b4⟩ := dg_of ⟨[], z0, 0, z0⟩ w4 w3.heap.size 28 HK4.out
        have HB4 := Lib.hid (HB2.out.on (HB23.out.on HB34.out))
        clear hb4
        have hn2 : n2 = cs.length := by have h1 := HQ2.out.len; rw [place_len] at h1; exact h1
        have hn3 : n3 = ds.length := by have h1 := HQ3.out.len; rw [place_len] at h1; exact h1
        subst hn2 hn3
        go_wp2_with fail
        refine (HJ.out _).mono ?_
        rintro e w5 ⟨hb5, A5, n5, c5, rfl, hq5⟩
        have hn5 : n5 = cs.length + ds.length := by have h1 := hq5.len; rw [place_len, List.length_append] at h1; exact h1
        subst hn5
        have hk5 := blk2 w4 (.cells #[.int .i64 E.a, .int .i64 E.l, .int .i64 E.c] 26) (.cells #[.int .i64 0, .int .i64 0, .int .i64 0, .int .i64 0] 28)
        have HE5 := Lib.hid (hb5.blk hk5.1)
        obtain ⟨d0, d1, d2, d3, d4⟩ := dg_of ⟨[], z0, 0, z0⟩ w5 (w4.heap.size + 1) 28 (hb5.blk hk5.2)
        have HB45 := Lib.hid ((((Bel.refl w4).alloc (.cells #[.int .i64 E.a, .int .i64 E.l, .int .i64 E.c] 26)).alloc (.cells #[.int .i64 0, .int .i64 0, .int .i64 0, .int .i64 0] 28)).on hb5)
        have HQA := Lib.hid (HQ2.out.bel (HB23.out.on (HB34.out.on HB45.out)))
        have HQB := Lib.hid (HQ3.out.bel (HB34.out.on HB45.out))
        have HQC := Lib.hid hq5
        have HB5 := Lib.hid (HB4.out.on HB45.out)
        clear hb5 hq5 hk5 a0 a1 a2 a3 a4 b0 b1 b2 b3 b4
        simp only [Mu.z0] at d0 d1 d2 d3
        go_wp2
        go_loopw [76] (fun i wr => ∃ j : Nat, j ≤ cs.length + ds.length ∧ i = .int .i64 j ∧ Hid (Bel w5 wr)) (fun i _ => cs.length + ds.length - (intOf i).toNat)
        case atStart => exact ⟨0, Nat.zero_le _, rfl, (Bel.refl w5).alloc _⟩
        case round =>
          obtain ⟨j, hj, rfl, HBR⟩ := hrel
          by_cases hlt : j < cs.length + ds.length
          · obtain ⟨b5, o5, hA5, hbl5, hc5⟩ := (HQC.out.bel HBR.out).at_ (by omega)
            subst hA5
            by_cases hlo : j < cs.length
            · obtain ⟨c, hc⟩ : ∃ c, cs[j]? = some c := ⟨_, List.getElem?_eq_getElem hlo⟩
              obtain ⟨bA, oA, hAA, hblA, hcA⟩ := (HQA.out.bel HBR.out).at_ (by omega)
              subst hAA
              obtain ⟨a0, a1, a2, a3⟩ := hcA j _ (place_get p0 cs j c hc)
              have hx := place_get p0 (cs ++ ds) j c (by rw [List.getElem?_append_left hlo]; exact hc)
              rw [List.take_append_of_le_length (by omega)] at hx
              obtain ⟨b0, b1, b2, b3⟩ := hc5 j _ hx
              obtain ⟨P, hP⟩ : ∃ P, P = ends p0 (cs.take j) := ⟨_, rfl⟩
              simp only [← hP] at a0 a1 a2 a3 b0 b1 b2 b3
              clear hP hx hc hcA hc5
              go_wp2
              go_roundw
              case rel => exact ⟨j + 1, by omega, by go_num, HBR.out.alloc2 _ _⟩
              case measure => simp [intOf]; omega
            · obtain ⟨k, hk⟩ : ∃ k, j = cs.length + k := ⟨j - cs.length, by omega⟩
              have hkl : k < ds.length := by omega
              obtain ⟨c, hc⟩ : ∃ c, ds[k]? = some c := ⟨_, List.getElem?_eq_getElem hkl⟩
              obtain ⟨bA, oA, hAA, hblA, hcA⟩ := (HQB.out.bel HBR.out).at_ (by omega)
              subst hAA
              obtain ⟨a0, a1, a2, a3⟩ := hcA k _ (place_get p0 ds k c hc)
              have hx := place_get p0 (cs ++ ds) j c (by rw [List.getElem?_append_right (by omega), show j - cs.length = k by omega]; exact hc)
              rw [hk, List.take_length_add_append, ends_app, ← HE.out, ends_from E] at hx
              rw [← hk] at hx
              obtain ⟨b0, b1, b2, b3⟩ := hc5 j _ hx
              have hsmQ := ends_sm (cs := ds.take k) (HCT.out.cp.take k) (n := 4000) (by
                have h1 : encs ds = encs (ds.take k) ++ encs (ds.drop k) := by rw [← encs_app, List.take_append_drop]
                have h2 := congrArg List.length h1
                rw [List.length_append] at h2
                have := HCT4.out; omega)
              obtain ⟨Q, hQ⟩ : ∃ Q, Q = ends p0 (ds.take k) := ⟨_, rfl⟩
              simp only [← hQ] at a0 a1 a2 a3 b0 b1 b2 b3 hsmQ
              obtain ⟨s1, s2, s3, s4, s5, s6⟩ := hsmQ
              obtain ⟨r1, r2, r3, r4, r5, r6⟩ := HSM.out
              have hki : (j : Int) - (cs.length : Int) = (k : Int) := by omega
              obtain ⟨g0, g1, g2, -, -, -⟩ := cells3 (HBR.out.blk HE5.out)
              have g3 : w4.heap.size < wr.heap.size := (Array.getElem?_eq_some_iff.1 (HBR.out.blk HE5.out)).1
              have hd : decide (j < cs.length) = false := by simpa using hlo
              have HKI := Lib.hid hk
              clear hQ hx hc hcA hc5 hk
              by_cases hl1 : Q.l = 1
              · have e1 : (Q.l == 1) = true := by simpa using hl1
                have f0 : (E.shift Q).a = Q.a + E.a := rfl
                have f1 : (E.shift Q).l = Q.l + (E.l - 1) := rfl
                have f2 : (E.shift Q).c = Q.c + (E.c - 1) := by unfold Pl.shift; simp [hl1]
                simp only [f0, f1, f2] at b1 b2 b3
                have HQ1 := Lib.hid hl1
                clear f0 f1 f2 hl1
                go_wp2
                go_roundw
                case rel => exact ⟨j + 1, by omega, by go_num, HBR.out.alloc2 _ _⟩
                case measure => simp [intOf]; omega
              · have e1 : (Q.l == 1) = false := by simpa using hl1
                have f0 : (E.shift Q).a = Q.a + E.a := rfl
                have f1 : (E.shift Q).l = Q.l + (E.l - 1) := rfl
                have f2 : (E.shift Q).c = Q.c := by unfold Pl.shift; simp [hl1]
                simp only [f0, f1, f2] at b1 b2 b3
                have HQ1 := Lib.hid hl1
                clear f0 f1 f2 hl1
                go_wp2
                go_roundw
                case rel => exact ⟨j + 1, by omega, by go_num, HBR.out.alloc2 _ _⟩
                case measure => simp [intOf]; omega
          · go_wp2
            go_ret
            exact ⟨rfl, HB5.out.on HBR.out⟩
    · have hne : dT.e ≠ 0 := fun h => hgt (ht0.1 h)
      subst hdS
      have hdn := dg_ne hne dT.q.a dT.q.l dT.q.c
      clear hs0 hs1 ht0 ht1 hgt hne hcs hct
      simp only [Mu.z0] at HS1 HE1
      go_enter Try.func6, Try.ntmps6
      go_wp2_with (go_at_call 8; refine (known9_any _).mono ?_; rintro e w1 ⟨rfl, hb⟩; have HB := Lib.hid hb; clear hb)
      refine (HS1.out _).mono ?_
      rintro e w2 ⟨hb2, A2, n2, c2, rfl, hq2⟩
      have HB2 := Lib.hid (HB.out.on hb2)
      have HQ2 := Lib.hid hq2
      clear hb2 hq2
      go_wp2_with fail
      refine (HT1.out _).mono ?_
      rintro e w3 ⟨hb3, A3, n3, c3, rfl, hq3⟩
      have HB23 := Lib.hid (((Bel.refl w2).alloc (.cells #[.int .i64 0, .int .i64 0, .int .i64 0, .int .i64 0] 28)).on hb3)
      have HK3 := Lib.hid (hb3.blk (blk1 w2 (.cells #[.int .i64 0, .int .i64 0, .int .i64 0, .int .i64 0] 28)))
      have HQ3 := Lib.hid hq3
      clear hb3 hq3
      go_wp2_with fail
      refine (HE1.out _).mono ?_
      rintro e w4 ⟨hb4, rfl⟩
      have HB34 := Lib.hid (((Bel.refl w3).alloc (.cells #[.int .i64 dT.e, .int .i64 dT.q.a, .int .i64 dT.q.l, .int .i64 dT.q.c] 28)).on hb4)
      have HK4 := Lib.hid (hb4.blk (blk1 w3 (.cells #[.int .i64 dT.e, .int .i64 dT.q.a, .int .i64 dT.q.l, .int .i64 dT.q.c] 28)))
      obtain ⟨a0, a1, a2, a3, a4⟩ := dg_of ⟨[], z0, 0, z0⟩ w4 w2.heap.size 28 (HB34.out.blk HK3.out)
      obtain ⟨b0, b1, b2, b3, b4⟩ := dg_of dT w4 w3.heap.size 28 HK4.out
      have HB4 := Lib.hid (HB2.out.on (HB23.out.on HB34.out))
      clear hb4
      go_wp2
      go_ret
      exact ⟨rfl, HB4.out.alloc2 _ _⟩
  · have hne : dS.e ≠ 0 := fun h => hgs (hs0.1 h)
    have hdn := dg_ne hne dS.q.a dS.q.l dS.q.c
    clear hs0 hs1 ht0 ht1 hgs hne hcs hct
    go_enter Try.func6, Try.ntmps6
    go_wp2_with (go_at_call 8; refine (known9_any _).mono ?_; rintro e w1 ⟨rfl, hb⟩; have HB := Lib.hid hb; clear hb)
    refine (HS1.out _).mono ?_
    rintro e w2 ⟨hb2, A2, n2, c2, rfl, hq2⟩
    have HB2 := Lib.hid (HB.out.on hb2)
    have HQ2 := Lib.hid hq2
    clear hb2 hq2
    go_wp2_with fail
    refine (HT1.out _).mono ?_
    rintro e w3 ⟨hb3, A3, n3, c3, rfl, hq3⟩
    have HB23 := Lib.hid (((Bel.refl w2).alloc (.cells #[.int .i64 dS.e, .int .i64 dS.q.a, .int .i64 dS.q.l, .int .i64 dS.q.c] 28)).on hb3)
    have HK3 := Lib.hid (hb3.blk (blk1 w2 (.cells #[.int .i64 dS.e, .int .i64 dS.q.a, .int .i64 dS.q.l, .int .i64 dS.q.c] 28)))
    have HQ3 := Lib.hid hq3
    clear hb3 hq3
    go_wp2_with fail
    refine (HE1.out _).mono ?_
    rintro e w4 ⟨hb4, rfl⟩
    have HB34 := Lib.hid (((Bel.refl w3).alloc (.cells #[.int .i64 dT.e, .int .i64 dT.q.a, .int .i64 dT.q.l, .int .i64 dT.q.c] 28)).on hb4)
    have HK4 := Lib.hid (hb4.blk (blk1 w3 (.cells #[.int .i64 dT.e, .int .i64 dT.q.a, .int .i64 dT.q.l, .int .i64 dT.q.c] 28)))
    obtain ⟨a0, a1, a2, a3, a4⟩ := dg_of dS w4 w2.heap.size 28 (HB34.out.blk HK3.out)
    obtain ⟨b0, b1, b2, b3, b4⟩ := dg_of dT w4 w3.heap.size 28 HK4.out
    have HB4 := Lib.hid (HB2.out.on (HB23.out.on HB34.out))
    clear hb4
    go_wp2
    go_ret
    exact ⟨rfl, HB4.out.alloc2 _ _⟩
end Go.Proofs.Ytaiogbokmglofaa.Mu

