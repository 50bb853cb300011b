/-
  Signs are taken: walked.
-/
import Derived.Test.YteockaolmobmeaaGreatDoorLexQuo
import Derived.Test.YteockaolmobmeaaGreatDoorLexWord
namespace Go.Proofs.YteockaolmobmeaaGreatDoor.Mu
open Go.RowKit Go.Shelf
set_option maxRecDepth 100000

def lngS (l acc s : List Int) : List Int := if acc.length < s.length ∧ s.isPrefixOf l = true then s else acc
def lng (l : List Int) (ss : List (List Int)) : List Int := ss.foldl (lngS l) []
theorem lng_snoc (l : List Int) (ss : List (List Int)) (s : List Int) : lng l (ss ++ [s]) = lngS l (lng l ss) s := by simp [lng]
theorem lng_gen (l : List Int) : ∀ (ss done : List (List Int)) (acc : List Int), ((acc = [] ∨ (acc ∈ done ∧ acc <+: l)) ∧ ∀ s ∈ done, s <+: l → s.length ≤ acc.length) →
    (ss.foldl (lngS l) acc = [] ∨ (ss.foldl (lngS l) acc ∈ done ++ ss ∧ ss.foldl (lngS l) acc <+: l)) ∧ ∀ s ∈ done ++ ss, s <+: l → s.length ≤ (ss.foldl (lngS l) acc).length
  | [], done, acc, h => by simpa using h
  | s :: ss, done, acc, ⟨h1, h2⟩ => by
    rw [List.foldl_cons, show done ++ s :: ss = (done ++ [s]) ++ ss by simp]
    refine lng_gen l ss (done ++ [s]) _ ?_
    unfold lngS
    split
    · rename_i h
      refine ⟨.inr ⟨by simp, List.isPrefixOf_iff_prefix.1 h.2⟩, fun t ht hp => ?_⟩
      rcases List.mem_append.1 ht with ht | ht
      · have := h2 t ht hp; omega
      · simp at ht; rw [ht]; exact Nat.le_refl _
    · rename_i h
      refine ⟨h1.imp id fun h => ⟨by simp [h.1], h.2⟩, fun t ht hp => ?_⟩
      rcases List.mem_append.1 ht with ht | ht
      · exact h2 t ht hp
      · simp at ht
        rw [ht] at hp ⊢
        rcases Nat.lt_or_ge acc.length s.length with hl | hl
        · exact absurd ⟨hl, List.isPrefixOf_iff_prefix.2 hp⟩ h
        · exact hl
theorem lng_facts (l : List Int) (ss : List (List Int)) : (lng l ss = [] ∨ (lng l ss ∈ ss ∧ lng l ss <+: l)) ∧ ∀ s ∈ ss, s <+: l → s.length ≤ (lng l ss).length := by
  have := lng_gen l ss [] [] ⟨.inl rfl, by simp⟩
  simpa [lng] using this
theorem sign_len : ∀ s ∈ signsL, 1 ≤ s.length ∧ s.length ≤ 3 := by decide +kernel
theorem sign_lng (l : List Int) : signL l = if lng l signsL = [] then .err 100 0 else .ok ⟨5, lng l signsL, 0⟩ (l.drop (lng l signsL).length) := by
  obtain ⟨h1, h2⟩ := lng_facts l signsL
  obtain ⟨m, hm⟩ : ∃ m, m = lng l signsL := ⟨_, rfl⟩
  rw [← hm] at h1 h2 ⊢
  have hge : ∀ k, 1 ≤ k → k ≤ l.length → l.take k ∈ signsL → k ≤ m.length := fun k _ hk hs => by
    have := h2 _ hs (List.take_prefix k l)
    rwa [List.length_take, Nat.min_eq_left hk] at this
  have hle : m ≠ [] → m ∈ signsL ∧ m = l.take m.length ∧ m.length ≤ l.length ∧ 1 ≤ m.length ∧ m.length ≤ 3 := fun hne => by
    rcases h1 with h1 | ⟨h1, h3⟩
    · exact absurd h1 hne
    · exact ⟨h1, List.prefix_iff_eq_take.1 h3, h3.length_le, (sign_len m h1).1, (sign_len m h1).2⟩
  have hm0 : m.length ≤ 3 := by
    rcases h1 with h1 | ⟨h1, _⟩
    · rw [h1]; simp
    · exact (sign_len m h1).2
  unfold signL
  by_cases c3 : 3 ≤ l.length ∧ l.take 3 ∈ signsL
  · rw [if_pos c3]
    have hk := hge 3 (by omega) c3.1 c3.2
    have hne : m ≠ [] := fun e => by rw [e] at hk; simp at hk
    have hl3 : m.length = 3 := by omega
    have := (hle hne).2.1
    rw [hl3] at this
    rw [if_neg hne, hl3, this]
  rw [if_neg c3]
  have n3 : m.length ≠ 3 := fun e => by
    have hne : m ≠ [] := fun e2 => by rw [e2] at e; simp at e
    obtain ⟨a, b, d, _⟩ := hle hne
    rw [e] at b d
    exact c3 ⟨d, by rw [← b]; exact a⟩
  by_cases c2 : 2 ≤ l.length ∧ l.take 2 ∈ signsL
  · rw [if_pos c2]
    have hk := hge 2 (by omega) c2.1 c2.2
    have hne : m ≠ [] := fun e => by rw [e] at hk; simp at hk
    have hl3 : m.length = 2 := by omega
    have := (hle hne).2.1
    rw [hl3] at this
    rw [if_neg hne, hl3, this]
  rw [if_neg c2]
  have n2 : m.length ≠ 2 := fun e => by
    have hne : m ≠ [] := fun e2 => by rw [e2] at e; simp at e
    obtain ⟨a, b, d, _⟩ := hle hne
    rw [e] at b d
    exact c2 ⟨d, by rw [← b]; exact a⟩
  by_cases c1 : 1 ≤ l.length ∧ l.take 1 ∈ signsL
  · rw [if_pos c1]
    have hk := hge 1 (by omega) c1.1 c1.2
    have hne : m ≠ [] := fun e => by rw [e] at hk; simp at hk
    have hl3 : m.length = 1 := by omega
    have := (hle hne).2.1
    rw [hl3] at this
    rw [if_neg hne, hl3, this]
  rw [if_neg c1]
  have n1 : m.length ≠ 1 := fun e => by
    have hne : m ≠ [] := fun e2 => by rw [e2] at e; simp at e
    obtain ⟨a, b, d, _⟩ := hle hne
    rw [e] at b d
    exact c1 ⟨d, by rw [← b]; exact a⟩
  rw [if_pos (List.eq_nil_of_length_eq_zero (by omega))]
theorem lng_low (l : List Int) (j : Nat) : ∀ c ∈ lng l (signsL.take j), 0 ≤ c ∧ c < 128 := fun c hc => by
  rcases (lng_facts l (signsL.take j)).1 with h | ⟨h, _⟩
  · rw [h] at hc; simp at hc
  · exact signs_low _ (List.mem_of_mem_take h) c hc
theorem byt_len (l : List Int) : (byt l).length = l.length := by simp [byt]
theorem byt_low (l : List Int) (h : ∀ c ∈ l, 0 ≤ c ∧ c < 128) : ∀ u ∈ byt l, u.toNat < 128 := fun u hu => by
  obtain ⟨c, hc, rfl⟩ := List.mem_map.1 hu
  have := h c hc
  rw [show (UInt8.ofNat c.toNat).toNat = c.toNat % 256 by rfl]; omega
set_option maxHeartbeats 8000000 in
theorem sign_any {g : Nat} {A : Option Addr} {n c : Nat} {xs : List Pn} {i : Nat} {x : Pn} (hx : xs[i]? = some x) (w : World) (h : Rdr w g A n c xs i) :
    Calls Tryz.prog 55 #[.pointer (some ⟨g, 0, none⟩)] w fun e w' =>
      e = .returned (rdV xs i (signL ((xs.map Pn.r).drop i))) ∧ Kr g w w' ∧ (∀ t r, signL ((xs.map Pn.r).drop i) = .ok t r → ∃ k, r = (xs.map Pn.r).drop k ∧ i ≤ k ∧ Rdr w' g A n c xs k) := by
  obtain ⟨L, hL⟩ : ∃ L, L = xs.map Pn.r := ⟨_, rfl⟩
  obtain ⟨R, hR⟩ : ∃ R, R = signL (L.drop i) := ⟨_, rfl⟩
  have HSI : Hid (∀ w, Calls Tryz.prog 14 #[] w fun e w' => (∃ A, e = .returned (.slice A 22 22) ∧ RL w' w'.heap.size A 22 signsB) ∧ Bel w w') := Lib.hid signs_any
  have HAT : Hid (∀ (w : World) (s : List Int), s ∈ signsL → Rdr w g A n c xs i → Calls Tryz.prog 50 #[.pointer (some ⟨g, 0, none⟩), .string ⟨(byt s).toArray⟩] w fun e w' => e = .returned (.bool (s.isPrefixOf (L.drop i))) ∧ Bel w w') := Lib.hid fun w s hs hd => by
    have := at_any (byt s) (byt_low s (signs_low s hs)) (by rw [byt_len]; have := (sign_len s hs).2; omega) w hd
    rwa [asc_byt (signs_low s hs), ← hL] at this
  have HWR : Hid (∀ (w : World), Rdr w g A n c xs i → Calls Tryz.prog 72 #[.pointer (some ⟨g, 0, none⟩), .int .i64 100, .int .i64 i] w fun e w' => e = .returned (erV 100 x.p) ∧ Bel w w') := Lib.hid fun w hd => wrong_any 100 hx w hd
  have hln : L.length = n := by rw [hL, List.length_map, ← h.len]
  rw [← hL, ← hR]
  obtain ⟨ans, hans⟩ : ∃ ans, ans = rdV xs i R := ⟨_, rfl⟩
  rw [← hans]
  have HANS := Lib.hid hans
  rw [sign_lng] at hR
  have HR := Lib.hid hR
  have HLN := Lib.hid hln
  have HX := Lib.hid hx
  have hsm := h.small
  have hle := h.le
  have H := Lib.hid h
  have hglt := h.lt
  clear h hL hR hans hln hx
  have hb2 : Bel w ((w.alloc bxT).alloc bxD) := ((Bel.refl w).alloc _).alloc _
  have hs2 : ((w.alloc bxT).alloc bxD).heap.size = w.heap.size + 2 := by simp
  obtain ⟨q1, q2⟩ := blk2 w bxT bxD
  have H2 := Lib.hid (H.out.bel hb2)
  obtain ⟨w0, hw0⟩ : ∃ w0, w0 = (w.alloc bxT).alloc bxD := ⟨_, rfl⟩
  have HW0 := Lib.hid hw0
  rw [← hw0] at H2 hb2 hs2 q1 q2
  have HBB := Lib.hid hb2
  have HQ1 := Lib.hid q1
  have HQ2 := Lib.hid q2
  have HS2 := Lib.hid hs2
  clear hb2 q1 q2 hs2
  go_enter Tryz.func55, Tryz.ntmps55
  go_wp2_with fail
  refine (HSI.out _).mono ?_
  rintro e w1 ⟨⟨A1, rfl, hrl⟩, hb⟩
  have hb1 : Bel w0 w1 := by rw [HW0.out]; exact hb
  have HB1 := Lib.hid hb1
  have HRL := Lib.hid hrl
  have HD1 := Lib.hid (H2.out.bel hb1)
  clear hb hb1 hrl
  go_wp2_with fail
  go_loopg [4, 9] 23 (fun gk v u wr => ∃ (j : Nat), v = .string ⟨(byt (lng (L.drop i) (signsL.take j))).toArray⟩ ∧ u = .int .i64 j ∧ Hid (j ≤ 22 ∧ 22 - j < gk) ∧ Hid (Bel w1 wr))
  case atStart => exact ⟨0, rfl, rfl, Lib.hid ⟨by omega, by omega⟩, Lib.hid (Bel.refl _)⟩
  case round =>
    obtain ⟨j, rfl, rfl, HJ, HB⟩ := hrel
    have hjj := HJ.out
    have HD := Lib.hid (HD1.out.bel HB.out)
    obtain ⟨m, hm⟩ : ∃ m, m = lng (L.drop i) (signsL.take j) := ⟨_, rfl⟩
    rw [← hm]
    have HMM := Lib.hid hm
    clear hm
    have hbl : (byt m).length = m.length := byt_len m
    by_cases hj : j < 22
    · obtain ⟨s, hs⟩ : ∃ s, signsL[j]? = some s := ⟨_, List.getElem?_eq_getElem (by exact hj)⟩
      have hss : s ∈ signsL := List.mem_of_getElem? hs
      obtain ⟨-, hrl2⟩ := HRL.out.bel HB.out
      obtain ⟨b1, o1, rfl, hb1, hc1⟩ := hrl2 (by omega)
      have hcj := hc1 j (byt s) (by unfold signsB; rw [List.getElem?_map, hs]; rfl)
      have hnx : lng (L.drop i) (signsL.take (j + 1)) = lngS (L.drop i) m s := by
        obtain ⟨hl, e⟩ := List.getElem?_eq_some_iff.1 hs
        rw [List.take_succ_eq_append_getElem hl, e, lng_snoc, HMM.out]
      have HNX := Lib.hid hnx
      have hsl : (byt s).length = s.length := byt_len s
      have HA2 := Lib.hid (HAT.out _ s hss HD.out)
      clear hc1 hnx hs
      by_cases hlt : m.length < s.length
      · have hltb : (m.length : Int) < (s.length : Int) := by omega
        go_wp2_with fail
        refine (HA2.out).mono ?_
        rintro e w2 ⟨rfl, hb⟩
        have HB2 := Lib.hid (HB.out.on hb)
        clear hb
        by_cases hpre : s.isPrefixOf (L.drop i) = true
        · have hl2 : lng (L.drop i) (signsL.take (j + 1)) = s := by rw [HNX.out, lngS, if_pos ⟨hlt, hpre⟩]
          rw [hpre]
          go_wp2
          go_roundg (gk - 1)
          case rel => exact ⟨j + 1, by rw [hl2], rfl, Lib.hid ⟨by omega, by omega⟩, HB2⟩
          case measure => omega
        · have hl2 : lng (L.drop i) (signsL.take (j + 1)) = m := by rw [HNX.out, lngS, if_neg (fun h => hpre h.2)]
          have hpf : s.isPrefixOf (L.drop i) = false := Bool.eq_false_iff.2 hpre
          rw [hpf]
          go_wp2
          go_roundg (gk - 1)
          case rel => exact ⟨j + 1, by rw [hl2], rfl, Lib.hid ⟨by omega, by omega⟩, HB2⟩
          case measure => omega
      · have hltb : ¬ (m.length : Int) < (s.length : Int) := by omega
        have hl2 : lng (L.drop i) (signsL.take (j + 1)) = m := by rw [HNX.out, lngS, if_neg (fun h => hlt h.1)]
        go_wp2
        go_roundg (gk - 1)
        case rel => exact ⟨j + 1, by rw [hl2], rfl, Lib.hid ⟨by omega, by omega⟩, HB⟩
        case measure => omega
    · have hj22 : j = 22 := by omega
      have hmm : m = lng (L.drop i) signsL := by rw [HMM.out, hj22]; rfl
      have hk3 : Kr g w0 wr := Kr.of_bel (HB1.out.on HB.out)
      have HK3' := Lib.hid hk3
      have HBW := Lib.hid (HBB.out.on (HB1.out.on HB.out))
      have hpm := (lng_facts (L.drop i) signsL).1
      rw [← hmm] at hpm
      have hreq : R = if m = [] then .err 100 0 else .ok ⟨5, m, 0⟩ (L.drop (i + m.length)) := by rw [HR.out, ← hmm, List.drop_drop]
      have hlow : ∀ c ∈ m, 0 ≤ c ∧ c < 128 := by rw [HMM.out]; exact lng_low _ _
      clear hk3
      by_cases hm0 : m = []
      · have hre : R = .err 100 0 := by rw [hreq, if_pos hm0]
        have HRE := Lib.hid hre
        have ha : ans = erV 100 x.p := by rw [HANS.out, hre]; simp [rdV, HX.out]
        subst ha
        have hz : (⟨(byt m).toArray⟩ : ByteArray) = ⟨#[]⟩ := by rw [hm0]; rfl
        rw [hz]
        clear hre hreq hpm hlow hmm hbl hz
        obtain ⟨c0, c1, f0, f1⟩ := HD.out.cells
        go_wp2_with fail
        refine (HWR.out _ HD.out).mono ?_
        rintro e w3 ⟨rfl, hb⟩
        have HK3 := Lib.hid (HK3'.out.bel hb)
        clear hb c0 c1 f0 f1
        obtain ⟨⟨t0, t1, t2, t3, t4, t5⟩, f0, f1, f2, f3, f4, f5⟩ := cells6 (HK3.out.keep HQ1.out (by omega))
        obtain ⟨d0, d1, d2, d3, g0, g1, g2, g3⟩ := cells4 (HK3.out.keep HQ2.out (by omega))
        unfold erV
        go_wp2
        refine bodyPost_ret (v := erV 100 x.p) ?_ rfl ⟨rfl, ?_, ?_⟩
        · simp [erV, results, Tryz.results55, go_sem, t0, t1, t2, t3, t4, t5, d0, d1, d2, d3]
        · have hk : Kr g w w3 := (Kr.of_bel HBB.out).on HK3.out
          repeat (first | with_reducible exact hk | with_reducible refine Kr.setN ?_ (by simp) _)
        · intro t r htr
          rw [HRE.out] at htr; cases htr
      · have hre : R = .ok ⟨5, m, 0⟩ (L.drop (i + m.length)) := by rw [hreq, if_neg hm0]
        have HRE := Lib.hid hre
        have ha : ans = tkV 5 (byt m) 0 := by rw [HANS.out, hre]; simp only [rdV]; rw [encs_low hlow]
        subst ha
        have hin : i + m.length ≤ n := by
          rcases hpm with h | ⟨_, h⟩
          · exact absurd h hm0
          · have := h.length_le
            rw [List.length_drop, HLN.out] at this; omega
        have hie : (byt m).isEmpty = false := by
          rw [Bool.eq_false_iff]
          intro e
          have e2 : byt m = [] := by simpa using e
          have := congrArg List.length e2
          rw [byt_len] at this
          exact hm0 (List.eq_nil_of_length_eq_zero this)
        clear hre hreq hpm hlow hmm
        obtain ⟨c0, c1, f0, f1⟩ := HD.out.cells
        obtain ⟨⟨t0, t1, t2, t3, t4, t5⟩, f2, f3, f4, f5, f6, f7⟩ := cells6 (HK3'.out.keep HQ1.out (by omega))
        obtain ⟨d0, d1, d2, d3, g0, g1, g2, g3⟩ := cells4 (HK3'.out.keep HQ2.out (by omega))
        have hng : g ≠ w.heap.size := by omega
        have hng1 : g ≠ w.heap.size + 1 := by omega
        go_wp2
        refine bodyPost_ret (v := tkV 5 (byt m) 0) ?_ rfl ⟨rfl, ?_, ?_⟩
        · simp [tkV, results, Tryz.results55, go_sem, *]
        · have hk : Kr g w wr := Kr.of_bel HBW.out
          repeat (first | with_reducible exact hk | with_reducible refine Kr.set_ ?_ _ _ | with_reducible refine Kr.setN ?_ (by simp) _)
        · intro t r htr
          rw [HRE.out] at htr
          injection htr with _ h2
          have hq : ((i : Int) + (m.length : Int)) = ((i + m.length : Nat) : Int) := by omega
          refine ⟨i + m.length, h2.symm, by omega, ?_⟩
          first
            | (rw [hq]; repeat (first | with_reducible exact HD.out.set_ hin | with_reducible refine Rdr.setN ?_ (by show g < w.heap.size + _; omega) _ | with_reducible refine Rdr.setN ?_ (by show g < w.heap.size; omega) _))
            | trace_state
end Go.Proofs.YteockaolmobmeaaGreatDoor.Mu

