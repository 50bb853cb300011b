/-
  The statement LeastBelow: walked.
-/
import Derived.Test.YtjgpkolfcpoinaaLeastGreat
import Derived.Test.YtjgpkolfcpoinaaLeastWorks
namespace Go.Proofs.Ytjgpkolfcpoinaa.Mu
open Go.ChangeShapes Go.WideShapes Go.ChangeAt Go.RowKit Go.Shelf

attribute [local go_sem] Oper.semAt_some

/-- What Solve tells where asg is a solution above low. -/
structure Belows (n : Nat) (low av sv : List Int) (xs : List Iq) : Prop where
  len : sv.length = n
  each : ∀ v, v < n → 1 ≤ sv[v]?.getD 0 ∧ sv[v]?.getD 0 ≤ 3 ∧ sv[v]?.getD 0 ≤ av[v]?.getD 0 ∧ (low.length ≠ 0 → low[v]?.getD 0 ≤ sv[v]?.getD 0)
  holds : holdsE sv xs = 0 ∧ holdsN sv xs = -1

theorem below_solve (n : Nat) (G A : Option Addr) (ln lk len cap : Nat) (low av : List Int) (xs : List Iq) (hlen : len = xs.length) (hln : ln = low.length) (hav : n = av.length) (hn : n ≤ 1000) (hl : len ≤ 1000) (hlow : ln = 0 ∨ ln = n) (he : holdsE av xs = 0) (hN : holdsN av xs < 0) (hp : ∀ j, j < n → passB low av j = true) :
    ∃ sv, Belows n low av sv xs ∧ ∀ W, RI .u8 W W.heap.size G ln low → RQ W W.heap.size A len xs → Calls Try.prog 12 #[.int .i64 n, .slice G ln lk, .slice A len cap] W (SolvedPost n sv W) := by
  have hx := holds_parts he hN
  have hm : ∀ m ∈ low, 1 ≤ m ∧ m ≤ 3 := fun m hm => by
    obtain ⟨j, hj, rfl⟩ := List.getElem_of_mem hm
    have h := hp j (by omega)
    unfold passB at h
    have e0 : low[j]?.getD 0 = low[j] := by rw [List.getElem?_eq_getElem hj]; rfl
    have hne : ¬ low.length = 0 := by omega
    simp only [e0, hne, decide_false, Bool.false_or, Bool.and_eq_true, decide_eq_true_eq] at h
    omega
  have h0 : mayF n low xs = 0 := mayF_ok (by omega) (by omega) (by omega) hm (fun x h => ⟨(hx x h).1, by rw [hav]; exact (hx x h).2.1⟩)
  obtain ⟨T, ws, hT, hc⟩ := solve_good n G A ln lk len cap low xs hlen hln h0
  have hlo : ∀ v, v < n → (low0 n low)[v]?.getD 0 ≤ av[v]?.getD 0 ∧ (low.length ≠ 0 → (low0 n low)[v]?.getD 0 = low[v]?.getD 0) := fun v hv => by
    have h := hp v hv
    unfold passB at h
    unfold low0
    by_cases e : low.length = 0
    · simp only [e, decide_true, Bool.true_or, Bool.and_true, Bool.and_eq_true, decide_eq_true_eq] at h
      rw [if_pos e]
      exact ⟨by simp [hv]; exact h.1, fun hn => absurd e hn⟩
    · simp only [e, decide_false, Bool.false_or, Bool.and_eq_true, decide_eq_true_eq] at h
      rw [if_neg e]
      exact ⟨h.2.2, fun _ => rfl⟩
  obtain ⟨t1, t2⟩ := hT.least av (fun x h => (hx x h).2.2) (fun v hv => (hlo v hv).1)
  obtain ⟨t3, t4, t5⟩ := hT.solves t1
  refine ⟨T.2.1, ⟨t3, fun v hv => ⟨(t5 v hv).1, (t5 v hv).2.1, t2 v hv, fun hne => ?_⟩, ?_⟩, fun W h1 h2 => ?_⟩
  · rw [← (hlo v hv).2 hne]; exact (t5 v hv).2.2
  · exact holds_of (fun v hv => ⟨(t5 v (by omega)).1, (t5 v (by omega)).2.1⟩) (fun x h => ⟨(hx x h).1, by rw [t3, hav]; exact (hx x h).2.1, t4 x h⟩)
  · refine (hc W h1 h2).mono fun e w' h => ?_
    unfold SolvePost at h
    rw [t1] at h
    exact h

theorem pass_yes0 {low av : List Int} {j : Nat} {m : Int} (hl : low.length = 0) (hm : av[j]? = some m) (h1 : 1 ≤ m) (h3 : m ≤ 3) : passB low av j = true := by
  unfold passB; rw [hm]; simp [hl, h1, h3]
theorem pass_yes {low av : List Int} {j : Nat} {y m : Int} (hy : low[j]? = some y) (hm : av[j]? = some m) (h1 : 1 ≤ m) (h3 : m ≤ 3) (h4 : 1 ≤ y) (h5 : y ≤ m) : passB low av j = true := by
  unfold passB; rw [hm, hy]; simp [h1, h3, h4, h5]
theorem pass_more {low av : List Int} {k : Nat} (h : ∀ j, j < k → passB low av j = true) (hk : passB low av k = true) : ∀ j, j < k + 1 → passB low av j = true := fun j hj => by
  by_cases e : j = k
  · rw [e]; exact hk
  · exact h j (by omega)

set_option maxRecDepth 100000 in
set_option maxHeartbeats 4000000 in
theorem leastBelow_any (G A H : Option Addr) (ln lk len cap an ak : Nat) (low : List Int) (xs : List Iq) (av : List Int) (w : World) (hl : RI .u8 w w.heap.size G ln low) (hlm : ln ≤ 9223372036854775807) (hq : RQ w w.heap.size A len xs) (hqm : len ≤ 9223372036854775807) (ha : RI .u8 w w.heap.size H an av) (ham : an ≤ 9223372036854775807) :
    Calls Try.prog 6 #[.slice G ln lk, .slice A len cap, .slice H an ak] w fun e w' => e = .returned (.bool true) ∧ Bel w w' := by
  have HG := Lib.hid hl
  have HQ := Lib.hid hq
  have HA := Lib.hid ha
  clear hl hq ha
  obtain ⟨g, hg⟩ : ∃ g, g = (decide ((200:Int) < (an:Int)) || decide (300 < ln) || decide (400 < len)) := ⟨_, rfl⟩
  have hgr := fun W => lgreat_any (an : Int) G A ln lk len cap W
  rw [← hg] at hgr
  have HGR := Lib.hid hgr
  clear hgr
  cases g with
  | true =>
    clear hg
    go_enter Try.func6, Try.ntmps6
    go_wp2_with fail
    refine (HGR.out _).mono ?_
    rintro e w1 ⟨rfl, hb1⟩
    have HB1 := Lib.hid hb1
    clear hb1
    go_wp2_with fail
    refine (works4_any _).mono ?_
    rintro e w2 ⟨rfl, hb2⟩
    have HB2 := Lib.hid (HB1.out.on hb2)
    clear hb2
    go_wp2
    go_ret
    exact ⟨rfl, HB2.out⟩
  | false =>
    obtain ⟨s1, s2, s3⟩ : an ≤ 200 ∧ ln ≤ 300 ∧ len ≤ 400 := by simp at hg; omega
    clear hg hlm hqm ham
    by_cases hbad : 0 < ln ∧ ln ≠ an
    · obtain ⟨z1, z2⟩ := hbad
      have z3 : (0 : Int) < (ln : Int) := by omega
      have z4 : ((ln : Int) != (an : Int)) = true := by simp; omega
      have z5 : ¬ (ln : Int) = (an : Int) := by omega
      go_enter Try.func6, Try.ntmps6
      go_wp2_with fail
      refine (HGR.out _).mono ?_
      rintro e w1 ⟨rfl, hb1⟩
      have HB1 := Lib.hid hb1
      clear hb1
      go_wp2_with fail
      refine (works4_any _).mono ?_
      rintro e w2 ⟨rfl, hb2⟩
      have HB2 := Lib.hid (HB1.out.on hb2)
      clear hb2
      go_wp2
      go_ret
      exact ⟨rfl, HB2.out⟩
    · have hln : ln = 0 ∨ (0 < ln ∧ ln = an) := by omega
      clear hbad
      have HHO := Lib.hid (fun W (hW : Bel w W) => holds_any A len cap xs H an ak av W (HQ.out.bel hW) (by omega) (HA.out.bel hW) (by omega))
      have HBS := Lib.hid (below_solve an G A ln lk len cap low av xs HQ.out.len HG.out.len HA.out.len (by omega) (by omega) (by omega))
      obtain ⟨N, hN⟩ : ∃ N, N = holdsN av xs := ⟨_, rfl⟩
      obtain ⟨E, hE⟩ : ∃ E, E = holdsE av xs := ⟨_, rfl⟩
      rw [← hN, ← hE] at HHO HBS
      clear hN hE
      have HLA := Lib.hid HA.out.len
      have HLL := Lib.hid HG.out.len
      rcases hln with z0 | ⟨z1, z2⟩
      case' inl =>
        have z1 : ¬ 0 < ln := by omega
        have z3 : decide ((0 : Int) < (ln : Int)) = false := by simp; omega
        have z4 : decide (0 < ln) = false := by simp; omega
        have HZ : Hid (low.length = 0) := Lib.hid (by rw [← HLL.out]; exact z0)
        have HZ2 : Hid (0 < ln → ln = an) := Lib.hid (fun h => absurd h z1)
        clear z0
      case' inr =>
        have z3 : (0 : Int) < (ln : Int) := by omega
        have z4 : ((ln : Int) != (an : Int)) = false := by simp; omega
        have z5 : decide (ln = an) = true := by simp; omega
        have HZ : Hid (low.length ≠ 0) := Lib.hid (by rw [← HLL.out]; omega)
        have HZ2 : Hid (0 < ln → ln = an) := Lib.hid (fun _ => z2)
        clear z2
      all_goals
        go_enter Try.func6, Try.ntmps6
        go_wp2_with fail
        refine (HGR.out _).mono ?_
        rintro e w1 ⟨rfl, hb1⟩
        have HB1 := Lib.hid hb1
        clear hb1
        go_wp2_with fail
        refine (HHO.out _ HB1.out).mono ?_
        rintro e w2 ⟨rfl, hb2⟩
        have HB2 := Lib.hid (HB1.out.on hb2)
        clear hb2
        by_cases h1 : 0 ≤ N
        case pos =>
          go_wp2_with fail
          refine (works4_any _).mono ?_
          rintro e w3 ⟨rfl, hb3⟩
          have HB3 := Lib.hid (HB2.out.on hb3)
          clear hb3
          go_wp2
          go_ret
          exact ⟨rfl, HB3.out⟩
        case neg =>
          have h1' : decide (0 ≤ N) = false := by simpa using h1
          by_cases h2 : E = 0
          case neg =>
            have h2' : (E != 0) = true := by simpa using h2
            go_wp2_with fail
            refine (works4_any _).mono ?_
            rintro e w3 ⟨rfl, hb3⟩
            have HB3 := Lib.hid (HB2.out.on hb3)
            clear hb3
            go_wp2
            go_ret
            exact ⟨rfl, HB3.out⟩
          case pos =>
            subst h2
            have HBS2 := Lib.hid (HBS.out rfl (by omega))
            go_wp2_with fail
            go_loopw [50] (fun kv wr => ∃ k : Nat, k ≤ an ∧ kv = .int .i64 (k : Int) ∧ Hid (∀ j, j < k → passB low av j = true) ∧ Hid (Bel w wr)) (fun kv _ => an - (intOf kv).toNat)
            case atStart => exact ⟨0, Nat.zero_le _, rfl, Lib.hid (fun j hj => absurd hj (by omega)), HB2⟩
            case round =>
              obtain ⟨k, hk, rfl, HP, HBW⟩ := hrel
              by_cases hlt : k < an
              case pos =>
                obtain ⟨b, off, eH, hb, hc⟩ := (HA.out.bel HBW.out).at_ (by omega)
                obtain ⟨m, hm⟩ : ∃ m, av[k]? = some m := ⟨_, List.getElem?_eq_getElem (by rw [← HLA.out]; exact hlt)⟩
                have c0 := hc k hlt
                rw [hm, Option.getD_some] at c0
                have HM := Lib.hid hm
                have i1 : (0 : Int) ≤ (k : Int) := by omega
                have i2 : (k : Int) < (an : Int) := by omega
                subst eH
                clear hc hm
                by_cases q1 : m < 1
                case pos =>
                  go_wp2_with fail
                  refine (works4_any _).mono ?_
                  rintro e w4 ⟨rfl, hb4⟩
                  have HB4 := Lib.hid (HBW.out.on hb4)
                  clear hb4
                  go_wp2
                  go_ret
                  exact ⟨rfl, HB4.out⟩
                case neg =>
                  have q1' : decide (m < 1) = false := by simpa using q1
                  by_cases q2 : 3 < m
                  case pos =>
                    go_wp2_with fail
                    refine (works4_any _).mono ?_
                    rintro e w4 ⟨rfl, hb4⟩
                    have HB4 := Lib.hid (HBW.out.on hb4)
                    clear hb4
                    go_wp2
                    go_ret
                    exact ⟨rfl, HB4.out⟩
                  case neg =>
                    have q2' : decide (3 < m) = false := by simpa using q2
                    by_cases hz : 0 < ln
                    case neg =>
                      first
                        | (exfalso; omega)
                        | (go_wp2_with fail
                           go_roundw
                           case rel => exact ⟨k + 1, by omega, by go_num, Lib.hid (pass_more HP.out (pass_yes0 HZ.out HM.out (by omega) (by omega))), HBW⟩
                           case measure => simp [intOf]; omega)
                    case pos =>
                      first
                        | (exfalso; omega)
                        | (have hle := HZ2.out hz
                           obtain ⟨b2, off2, eG, hb2, hc2⟩ := (HG.out.bel HBW.out).at_ hz
                           obtain ⟨y, hy⟩ : ∃ y, low[k]? = some y := ⟨_, List.getElem?_eq_getElem (by rw [← HLL.out]; omega)⟩
                           have c2 := hc2 k (by omega)
                           rw [hy, Option.getD_some] at c2
                           have HY := Lib.hid hy
                           have i3 : (k : Int) < (ln : Int) := by omega
                           subst eG
                           clear hc2 hy hle
                           by_cases q3 : y < 1
                           case pos =>
                             go_wp2_with fail
                             refine (works4_any _).mono ?_
                             rintro e w4 ⟨rfl, hb4⟩
                             have HB4 := Lib.hid (HBW.out.on hb4)
                             clear hb4
                             go_wp2
                             go_ret
                             exact ⟨rfl, HB4.out⟩
                           case neg =>
                             have q3' : decide (y < 1) = false := by simpa using q3
                             by_cases q4 : m < y
                             case pos =>
                               go_wp2_with fail
                               refine (works4_any _).mono ?_
                               rintro e w4 ⟨rfl, hb4⟩
                               have HB4 := Lib.hid (HBW.out.on hb4)
                               clear hb4
                               go_wp2
                               go_ret
                               exact ⟨rfl, HB4.out⟩
                             case neg =>
                               have q4' : decide (m < y) = false := by simpa using q4
                               go_wp2_with fail
                               go_roundw
                               case rel => exact ⟨k + 1, by omega, by go_num, Lib.hid (pass_more HP.out (pass_yes HY.out HM.out (by omega) (by omega) (by omega) (by omega))), HBW⟩
                               case measure => simp [intOf]; omega)
              case neg =>
                obtain rfl : k = an := by omega
                obtain ⟨sv, hsv, hcs⟩ := HBS2.out HP.out
                have HSV := Lib.hid hsv
                have HCS := Lib.hid hcs
                clear hsv hcs
                go_wp2_with fail
                refine (HCS.out _ (HG.out.bel HBW.out) (HQ.out.bel HBW.out)).mono ?_
                rintro e w4 ⟨ga, rfl, ha4, _, hb4⟩
                have HR4 := Lib.hid (ha4.ri (n := k) (by rw [HSV.out.len]))
                have HB4 := Lib.hid (HBW.out.on hb4)
                clear ha4 hb4
                go_wp2_with fail
                go_loopw [103] (fun kv wr => ∃ j : Nat, j ≤ k ∧ kv = .int .i64 (j : Int) ∧ Hid (Bel w4 wr)) (fun kv _ => k - (intOf kv).toNat)
                case atStart => exact ⟨0, Nat.zero_le _, rfl, Lib.hid (Bel.refl _)⟩
                case round =>
                  obtain ⟨j, hj, rfl, HBX⟩ := hrel
                  by_cases hlt : j < k
                  case pos =>
                    obtain ⟨e1, e2, e3, e4⟩ := HSV.out.each j hlt
                    obtain ⟨b, off, eH, hb, hc⟩ := (HA.out.bel (HB4.out.on HBX.out)).at_ (by omega)
                    obtain ⟨b3, off3, eS, hb3, hc3⟩ := (HR4.out.bel HBX.out).at_ (by omega)
                    have c0 := hc j hlt
                    have c3 := hc3 j hlt
                    obtain ⟨m, hm⟩ : ∃ m, av[j]?.getD 0 = m := ⟨_, rfl⟩
                    obtain ⟨z, hz⟩ : ∃ z, sv[j]?.getD 0 = z := ⟨_, rfl⟩
                    rw [hm] at c0 e3
                    rw [hz] at c3 e3 e4
                    have i1 : (0 : Int) ≤ (j : Int) := by omega
                    have i2 : (j : Int) < (k : Int) := by omega
                    have q1 : ¬ m < z := by omega
                    have q1' : decide (m < z) = false := by simpa using q1
                    subst eH
                    injection eS with eS; injection eS with eS1 eS2 eS3
                    subst eS1 eS2
                    rw [Nat.zero_add] at c3
                    have HE4 := Lib.hid e4
                    clear hc hc3 hm hz e1 e2 e3 e4 eS3
                    by_cases hz : 0 < ln
                    case neg =>
                      first
                        | (exfalso; omega)
                        | (go_wp2_with fail
                           go_roundw
                           case rel => exact ⟨j + 1, by omega, by go_num, HBX⟩
                           case measure => simp [intOf]; omega)
                    case pos =>
                      first
                        | (exfalso; omega)
                        | (have hle := HZ2.out hz
                           obtain ⟨b2, off2, eG, hb2, hc2⟩ := (HG.out.bel (HB4.out.on HBX.out)).at_ hz
                           have c2 := hc2 j (by omega)
                           obtain ⟨y, hy⟩ : ∃ y, low[j]?.getD 0 = y := ⟨_, rfl⟩
                           have q3 := HE4.out (by rw [← HLL.out]; omega)
                           rw [hy] at c2 q3
                           have i3 : (j : Int) < (ln : Int) := by omega
                           have q4 : ¬ z < y := by omega
                           have q4' : decide (z < y) = false := by simpa using q4
                           subst eG
                           clear hc2 hy hle q3
                           go_wp2_with fail
                           go_roundw
                           case rel => exact ⟨j + 1, by omega, by go_num, HBX⟩
                           case measure => simp [intOf]; omega)
                  case neg =>
                    obtain rfl : j = k := by omega
                    have HHO2 := Lib.hid (holds_any A len cap xs (some ⟨ga, 0, none⟩) j j sv wr (HQ.out.bel (HB4.out.on HBX.out)) (by omega) (HR4.out.bel HBX.out) (by omega))
                    rw [HSV.out.holds.1, HSV.out.holds.2] at HHO2
                    go_wp2_with fail
                    refine HHO2.out.mono ?_
                    rintro e w5 ⟨rfl, hb5⟩
                    have HB5 := Lib.hid ((HB4.out.on HBX.out).on hb5)
                    clear hb5
                    go_wp2_with fail
                    refine (works4_any _).mono ?_
                    rintro e w6 ⟨rfl, hb6⟩
                    have HB6 := Lib.hid (HB5.out.on hb6)
                    clear hb6
                    go_wp2
                    go_ret
                    exact ⟨rfl, HB6.out⟩
end Go.Proofs.Ytjgpkolfcpoinaa.Mu

