/-
  UtfCut, walked.
-/
import Derived.Test.YtaiogbokmglofaaUtfJoins
namespace Go.Proofs.Ytaiogbokmglofaa.Mu
open Go.RowKit Go.Shelf

def posN (cs : List Int) (k : Nat) : Nat := (encs (cs.take k)).length
theorem posN_succ {cs : List Int} (h : AllCp cs) {k : Nat} (hk : k < cs.length) : posN cs k < posN cs (k + 1) := by
  have hc : cpB cs[k] = true := h _ (List.getElem_mem hk)
  have := enc_len hc
  have := wid_pos cs[k]
  unfold posN
  rw [List.take_succ_eq_append_getElem hk, encs_app, List.length_append]
  simp [encs]; omega
theorem posN_mono {cs : List Int} (h : AllCp cs) {j k : Nat} (hjk : j ≤ k) (hk : k ≤ cs.length) : posN cs j ≤ posN cs k := by
  induction k with
  | zero => have : j = 0 := by omega
            subst this; exact Nat.le_refl _
  | succ k ih =>
    by_cases e : j = k + 1
    · subst e; exact Nat.le_refl _
    · have := ih (by omega) (by omega)
      have := posN_succ h (k := k) (by omega)
      omega
/-- Between which two places a cut falls. -/
theorem cut_ex {cs : List Int} (h : AllCp cs) {c : Nat} : ∀ (m : Nat), m ≤ cs.length → c < posN cs m → ∃ n, n < m ∧ posN cs n ≤ c ∧ c < posN cs (n + 1)
  | 0, _, hc => by simp [posN, encs] at hc
  | m + 1, hm, hc => by
    by_cases h1 : c < posN cs m
    · obtain ⟨n, a, b, d⟩ := cut_ex h m (by omega) h1
      exact ⟨n, by omega, b, d⟩
    · exact ⟨m, by omega, by omega, hc⟩
theorem cut_good {s : ByteArray} {cs : List Int} (h : Cps s.data.toList cs []) (n : Nat) : Cps (s.extract 0 (posN cs n)).data.toList (cs.take n) [] := by
  have e : (s.extract 0 (posN cs n)).data.toList = encs (cs.take n) := by
    have := Lib.extract_toList s 0 (posN cs n)
    rw [ByteArray.toList_eq] at this
    rw [this, h.eq, List.append_nil]
    have e2 : encs cs = encs (cs.take n) ++ encs (cs.drop n) := by rw [← encs_app, List.take_append_drop]
    rw [e2]
    simp [posN]
  rw [e]
  exact Cps.nil (h.cp.take n)
theorem cut_bad {s : ByteArray} {cs : List Int} (h : Cps s.data.toList cs []) {n c : Nat} (hn : n < cs.length) (h1 : posN cs n < c) (h2 : c < posN cs (n + 1)) : ∃ r, r ≠ [] ∧ Cps (s.extract 0 c).data.toList (cs.take n) r := by
  have hc : cpB cs[n] = true := h.cp _ (List.getElem_mem hn)
  have e1 : cs.take (n + 1) = cs.take n ++ [cs[n]] := List.take_succ_eq_append_getElem hn
  have e2 : cs = cs.take n ++ cs[n] :: cs.drop (n + 1) := by
    conv => lhs; rw [← List.take_append_drop (n + 1) cs, e1]
    simp
  have e3 : encs cs = encs (cs.take n) ++ (enc cs[n] ++ encs (cs.drop (n + 1))) := by
    conv => lhs; rw [e2]
    rw [encs_app, encs_cons]
  have hp : posN cs (n + 1) = posN cs n + (enc cs[n]).length := by
    unfold posN; rw [e1, encs_app, List.length_append]; simp [encs]
  have e : (s.extract 0 c).data.toList = encs (cs.take n) ++ (enc cs[n]).take (c - posN cs n) := by
    have := Lib.extract_toList s 0 c
    rw [ByteArray.toList_eq] at this
    rw [this, h.eq, List.append_nil, e3]
    simp only [List.drop_zero, Nat.sub_zero]
    rw [List.take_append, List.take_of_length_le (by unfold posN at h1; omega), List.take_append_of_le_length (by unfold posN at *; omega)]
    rfl
  refine ⟨(enc cs[n]).take (c - posN cs n), ?_, h.cp.take n, e, fun d hd hpre => ?_⟩
  · intro h0
    have hl := congrArg List.length h0
    rw [List.length_take, List.length_nil] at hl
    rcases Nat.le_total (c - posN cs n) (enc cs[n]).length with h3 | h3
    · rw [Nat.min_eq_left h3] at hl; omega
    · rw [Nat.min_eq_right h3] at hl
      have := enc_len hc
      have := wid_pos cs[n]
      omega
  · have hpre2 : enc d <+: enc cs[n] := hpre.trans (List.take_prefix _ _)
    have hdc := enc_pre hd hc hpre2 (List.prefix_refl _)
    have hl := hpre.length_le
    rw [hdc, List.length_take] at hl
    have hl2 := Nat.le_trans hl (Nat.min_le_left _ _)
    omega
set_option maxRecDepth 100000 in
set_option maxHeartbeats 8000000 in
theorem utfCut_any (s : ByteArray) (cut : Int) (w : World) : Calls Try.prog 7 #[.string s, .int .i64 cut] w fun e w' => e = .returned (.bool true) ∧ Bel w w' := by
  obtain ⟨cs, rs, hcs⟩ := cps_ex _ s.data.toList (Nat.le_refl _)
  have hep := eq_pt
  have hed := eq_dg
  by_cases hgs : s.size ≤ 4000 ∧ rs = []
  · obtain ⟨h4, rfl⟩ := hgs
    have HS1 := Lib.hid (points_good hcs h4)
    have h4i : (s.size : Int) ≤ 4000 := by omega
    have HCS := Lib.hid hcs
    clear hcs
    by_cases hneg : cut < 0
    · go_enter Try.func7, Try.ntmps7
      go_wp2_with (go_at_call 8; refine (known9_any _).mono ?_; rintro e w1 ⟨rfl, hb⟩; have HB := Lib.hid hb; clear hb)
      refine (HS1.out _).mono ?_
      rintro e w2 ⟨hb2, A2, n2, c2, rfl, -⟩
      have HB2 := Lib.hid (HB.out.on hb2)
      clear hb2
      go_wp2
      go_ret
      exact ⟨rfl, HB2.out.alloc _⟩
    obtain ⟨c, rfl⟩ : ∃ c : Nat, cut = c := ⟨cut.toNat, by omega⟩
    by_cases hbig : s.size < c
    · have hbi : (s.size : Int) < (c : Int) := by omega
      go_enter Try.func7, Try.ntmps7
      go_wp2_with (go_at_call 8; refine (known9_any _).mono ?_; rintro e w1 ⟨rfl, hb⟩; have HB := Lib.hid hb; clear hb)
      refine (HS1.out _).mono ?_
      rintro e w2 ⟨hb2, A2, n2, c2, rfl, -⟩
      have HB2 := Lib.hid (HB.out.on hb2)
      clear hb2
      go_wp2
      go_ret
      exact ⟨rfl, HB2.out.alloc _⟩
    have hbi : (c : Int) ≤ (s.size : Int) := by omega
    have hex : (s.extract 0 c).size = c := by rw [ByteArray.size_extract]; omega
    have hel : (encs cs).length = s.size := by
      have h3 := congrArg List.length HCS.out.eq
      rw [size_of, List.length_append] at h3
      simp at h3; omega
    have hlc : cs.length ≤ 4000 := by
      have h1 := encs_len_ge HCS.out.cp
      omega
    by_cases hall : c = s.size
    · have HS2 : Hid (∀ w, Calls Try.prog 9 #[.string (s.extract 0 c)] w fun e w' => Bel w w' ∧ ∃ A n k, e = .returned (.tuple #[.slice A n k, .agg #[.int .i64 0, .int .i64 0, .int .i64 0, .int .i64 0]]) ∧ RP w' w'.heap.size A n (place p0 cs)) := Lib.hid (by
        have := cut_good HCS.out cs.length
        rw [List.take_length, show posN cs cs.length = c by unfold posN; rw [List.take_length, hel, hall]] at this
        exact points_good this (by omega))
      have hci : (c : Int) = (s.size : Int) := by omega
      have HCI := Lib.hid hci
      have hce : ((c : Int) == (s.size : Int)) = true := by simpa using hci
      clear hall hel hex hci
      go_enter Try.func7, Try.ntmps7
      go_wp2_with (go_at_call 8; refine (known9_any _).mono ?_; rintro e w1 ⟨rfl, hb⟩; have HB := Lib.hid hb; clear hb)
      refine (HS1.out _).mono ?_
      rintro e w2 ⟨hb2, A2, n2, c2, rfl, hq2⟩
      have HB2 := Lib.hid (HB.out.on hb2)
      have hn2 : n2 = cs.length := by have h1 := hq2.len; rw [place_len] at h1; exact h1
      subst hn2
      clear hb2 hq2
      go_wp2_with fail
      refine (HS2.out _).mono ?_
      rintro e w3 ⟨hb3, A3, n3, c3, rfl, hq3⟩
      have HB3 := Lib.hid ((HB2.out.alloc _).on hb3)
      have hn3 : n3 = cs.length := by have h1 := hq3.len; rw [place_len] at h1; exact h1
      subst hn3
      clear hb3 hq3
      go_wp2
      go_ret
      exact ⟨by simp, HB3.out.alloc _⟩
    · have hlt : c < s.size := by omega
      obtain ⟨n, hn, hp1, hp2⟩ := cut_ex HCS.out.cp (c := c) cs.length (Nat.le_refl _) (by unfold posN; rw [List.take_length]; omega)
      have hc4 : c ≤ 4000 := by omega
      have hnl : n ≤ 4000 := by omega
      have hcne : ((c : Int) == (s.size : Int)) = false := by simp; omega
      have HPA : Hid (∀ k, (ends p0 (cs.take k)).a = (posN cs k : Int)) := Lib.hid (fun k => by rw [ends_a (HCS.out.cp.take k)]; show 0 + _ = _; unfold posN; omega)
      have HMO : Hid (∀ k, k ≤ n → posN cs k ≤ c) := Lib.hid (fun k hk => Nat.le_trans (posN_mono HCS.out.cp hk (by omega)) hp1)
      have HMX : Hid (∀ k, posN cs k ≤ 4000 ∨ cs.length < k) := Lib.hid (fun k => by
        by_cases hk : k ≤ cs.length
        · left
          have := posN_mono HCS.out.cp hk (Nat.le_refl _)
          unfold posN at this ⊢
          rw [List.take_length] at this
          omega
        · right; omega)
      have HP2 := Lib.hid hp2
      obtain ⟨o, ho, HS2⟩ : ∃ o : Ot, (if posN cs n = c then o = ⟨place p0 (cs.take n), ends p0 (cs.take n), 0, z0⟩ else o = ⟨[], z0, 90, ends p0 (cs.take n)⟩) ∧ Hid (∀ w, Calls Try.prog 9 #[.string (s.extract 0 c)] w (GO2 o w)) := by
        by_cases he : posN cs n = c
        · have hcp := cut_good HCS.out n
          rw [he] at hcp
          refine ⟨_, by rw [if_pos he], Lib.hid fun w => ?_⟩
          have := points_any hcp w
          unfold ot at this
          rw [if_neg (by omega), if_pos rfl] at this
          exact this
        · obtain ⟨r, hr, hcp⟩ := cut_bad HCS.out hn (by omega) hp2
          refine ⟨_, by rw [if_neg he], Lib.hid fun w => ?_⟩
          have := points_any hcp w
          unfold ot at this
          rw [if_neg (by omega), if_neg hr] at this
          exact this
      have HO := Lib.hid ho
      have HN := Lib.hid hn
      clear ho hp1 hp2 hel hex hall
      go_enter Try.func7, Try.ntmps7
      go_wp2_with (go_at_call 8; refine (known9_any _).mono ?_; rintro e w1 ⟨rfl, hb⟩; have HB := Lib.hid hb; clear hb)
      refine (HS1.out _).mono ?_
      rintro e w2 ⟨hb2, A2, n2, c2, rfl, hq2⟩
      have HB2 := Lib.hid (HB.out.on hb2)
      have hn2 : n2 = cs.length := by have h1 := hq2.len; rw [place_len] at h1; exact h1
      subst hn2
      have HQ2 := Lib.hid hq2
      clear hb2 hq2
      go_wp2_with fail
      refine (HS2.out _).mono ?_
      rintro e w3 ⟨hb3, A3, n3, c3, rfl, hq3⟩
      have HB23 := Lib.hid (((Bel.refl w2).alloc (.cells #[.int .i64 0, .int .i64 0, .int .i64 0, .int .i64 0] 28)).on hb3)
      have HQ3 := Lib.hid hq3
      have hn3 := hq3.len
      clear hb3 hq3
      go_wp2
      obtain ⟨W, hW⟩ : ∃ W, W = w3.alloc (.cells #[.int .i64 o.e, .int .i64 o.q.a, .int .i64 o.q.l, .int .i64 o.q.c] 28) := ⟨_, rfl⟩
      have HBW := Lib.hid (show Bel w2 W by rw [hW]; exact HB23.out.alloc _)
      have HKW := Lib.hid (show W.heap[w3.heap.size]? = some (.cells #[.int .i64 o.e, .int .i64 o.q.a, .int .i64 o.q.l, .int .i64 o.q.c] 28 (0, 0)) by rw [hW]; exact blk1 w3 _)
      rw [← hW]
      have HN3 := Lib.hid hn3
      clear hW hn3
      obtain ⟨b5, o5, hA5, hbl5, hc5⟩ := (HQ2.out.bel HBW.out).at_ (by omega)
      subst hA5
      have HC5 := Lib.hid hc5
      clear hc5
      go_loop [9] (fun i => ∃ k : Nat, k ≤ n ∧ i = .int .i64 k) (fun i => n - (intOf i).toNat)
      case atStart => exact ⟨0, Nat.zero_le _, rfl⟩
      case round =>
        obtain ⟨k, hk, rfl⟩ := hrel
        have hnn := HN.out
        by_cases hlast : k + 1 < cs.length
        · have hx := HC5.out (k + 1) _ (place_get p0 cs (k + 1) _ (List.getElem?_eq_getElem hlast))
          obtain ⟨a0, a1, a2, a3⟩ := hx
          rw [HPA.out] at a1
          have hpx := HMX.out (k + 1)
          have hli : (k : Int) + 1 < (cs.length : Int) := by omega
          by_cases hkn : k < n
          · have hle := HMO.out (k + 1) (by omega)
            have hle2 : (posN cs (k + 1) : Int) ≤ (c : Int) := by omega
            clear a0 a2 a3 hpx
            go_wp2
            go_round
            case rel => exact ⟨k + 1, by omega, by go_num⟩
            case measure => simp [intOf]; omega
          · obtain rfl : k = n := by omega
            have hgt := HP2.out
            have hgt2 : (c : Int) < (posN cs (k + 1) : Int) := by omega
            clear a0 a2 a3 hpx
            have hnn2 := HN.out
            have a9 := a1
            clear a1
            have hcn := HC5.out k _ (place_get p0 cs k _ (List.getElem?_eq_getElem hnn2))
            obtain ⟨a0, a1, a2, a3⟩ := hcn
            rw [HPA.out] at a1
            obtain ⟨P, hP⟩ : ∃ P, P = ends p0 (cs.take k) := ⟨_, rfl⟩
            have hPa : P.a = (posN cs k : Int) := by rw [hP]; exact HPA.out k
            simp only [← hP] at a2 a3
            obtain ⟨x0, x1, x2, x3, x4⟩ := dg_of o W w3.heap.size 28 HKW.out
            by_cases he : posN cs k = c
            · have heq : ((posN cs k : Int) == (c : Int)) = true := by simp; omega
              have hoo := HO.out
              rw [if_pos he] at hoo
              have hxl : o.xs.length = k := by rw [hoo]; show (place p0 _).length = k; rw [place_len, List.length_take]; omega
              have f0 : o.e = 0 := by rw [hoo]
              have f1 : o.q = z0 := by rw [hoo]
              rw [f0] at x0
              rw [f1] at x1 x2 x3
              simp only [z0] at x1 x2 x3
              have HXL := Lib.hid hxl
              clear he hoo f0 f1 hP hPa hxl
              rw [HXL.out]
              go_wp2
              go_ret
              exact ⟨by simp, HB2.out.on HBW.out⟩
            · have heq : ((posN cs k : Int) == (c : Int)) = false := by simp; omega
              have hoo := HO.out
              rw [if_neg he, ← hP] at hoo
              have hxl : o.xs.length = 0 := by rw [hoo]; rfl
              have f0 : o.e = 90 := by rw [hoo]
              have f1 : o.q = P := by rw [hoo]
              rw [f0] at x0
              rw [f1] at x1 x2 x3
              rw [hPa] at x1
              have HXL := Lib.hid hxl
              clear he hoo f0 f1 hP hPa hxl
              rw [HXL.out]
              go_wp2_with fail
              go_quiet (fail)
              go_wp2
              go_ret
              exact ⟨by simp, (HB2.out.on HBW.out).drewN _⟩
        · obtain rfl : k = n := by omega
          have hli : (cs.length : Int) ≤ (k : Int) + 1 := by omega
          have hnn2 := HN.out
          have hcn := HC5.out k _ (place_get p0 cs k _ (List.getElem?_eq_getElem hnn2))
          obtain ⟨a0, a1, a2, a3⟩ := hcn
          rw [HPA.out] at a1
          obtain ⟨P, hP⟩ : ∃ P, P = ends p0 (cs.take k) := ⟨_, rfl⟩
          have hPa : P.a = (posN cs k : Int) := by rw [hP]; exact HPA.out k
          simp only [← hP] at a2 a3
          obtain ⟨x0, x1, x2, x3, x4⟩ := dg_of o W w3.heap.size 28 HKW.out
          by_cases he : posN cs k = c
          · have heq : ((posN cs k : Int) == (c : Int)) = true := by simp; omega
            have hoo := HO.out
            rw [if_pos he] at hoo
            have hxl : o.xs.length = k := by rw [hoo]; show (place p0 _).length = k; rw [place_len, List.length_take]; omega
            have f0 : o.e = 0 := by rw [hoo]
            have f1 : o.q = z0 := by rw [hoo]
            rw [f0] at x0
            rw [f1] at x1 x2 x3
            simp only [z0] at x1 x2 x3
            have HXL := Lib.hid hxl
            clear he hoo f0 f1 hP hPa hxl
            rw [HXL.out]
            go_wp2
            go_ret
            exact ⟨by simp, HB2.out.on HBW.out⟩
          · have heq : ((posN cs k : Int) == (c : Int)) = false := by simp; omega
            have hoo := HO.out
            rw [if_neg he, ← hP] at hoo
            have hxl : o.xs.length = 0 := by rw [hoo]; rfl
            have f0 : o.e = 90 := by rw [hoo]
            have f1 : o.q = P := by rw [hoo]
            rw [f0] at x0
            rw [f1] at x1 x2 x3
            rw [hPa] at x1
            have HXL := Lib.hid hxl
            clear he hoo f0 f1 hP hPa hxl
            rw [HXL.out]
            go_wp2_with fail
            go_quiet (fail)
            go_wp2
            go_ret
            exact ⟨by simp, (HB2.out.on HBW.out).drewN _⟩
  · obtain ⟨x, q, hx0, hcall⟩ := points_err hcs hgs
    have HCALL := Lib.hid hcall
    have hdn := dg_ne hx0 q.a q.l q.c
    clear hcall hx0 hgs hcs
    go_enter Try.func7, Try.ntmps7
    go_wp2_with (go_at_call 8; refine (known9_any _).mono ?_; rintro e w1 ⟨rfl, hb⟩; have HB := Lib.hid hb; clear hb)
    refine (HCALL.out _).mono ?_
    rintro e w2 ⟨hb2, A2, c2, rfl⟩
    have HB2 := Lib.hid (HB.out.on hb2)
    clear hb2
    go_wp2
    go_ret
    exact ⟨rfl, HB2.out.alloc _⟩
end Go.Proofs.Ytaiogbokmglofaa.Mu

