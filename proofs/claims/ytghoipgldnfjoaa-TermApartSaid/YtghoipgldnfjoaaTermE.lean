/-
  Layer 2's own function At: what a term is under an assignment.
-/
import Derived.Test.YtghoipgldnfjoaaTermB
namespace Go.Proofs.Ytghoipgldnfjoaa.Mu
open Go.ChangeShapes Go.WideShapes Go.ChangeAt Go.RowKit

/-- Has a variable its place, at which a multiplicity stands? -/
def okV (av : List Int) (v : Int) : Bool := decide (v < av.length) && isMultB (av[v.toNat]?.getD 0)
def atV (c : Int) (l av : List Int) : Int := l.foldl (fun m v => max m (av[v.toNat]?.getD 0)) c
def atE (nv : Bool) (c : Int) (l av : List Int) : Int := if mayB nv c l then (if l.all (okV av) then 0 else 5) else 2
def atR (nv : Bool) (c : Int) (l av : List Int) : Int := if mayB nv c l && l.all (okV av) && !nv then atV c l av else 0
def Tells2 (u x : Int) (w : World) (e : Ending) (w' : World) : Prop := e = .returned (.tuple #[.int .u8 u, .int .i64 x]) ∧ Bel w w'

theorem mayB_vars {nv : Bool} {c : Int} {l : List Int} (h : mayB nv c l = true) : mayVarsB l = true := by
  unfold mayB at h; rw [Bool.and_eq_true] at h; exact h.2
theorem mayB_c {c : Int} {l : List Int} (h : mayB false c l = true) : 1 ≤ c ∧ c ≤ 3 := by
  unfold mayB at h; simp [isMultB] at h; omega
theorem var_bd {l : List Int} (h : mayVarsB l = true) {k : Nat} {v : Int} (hk : l[k]? = some v) : 0 ≤ v ∧ v < 1048576 := by
  have hlt := (List.getElem?_eq_some_iff.1 hk).1
  have h2 := (mayVarsB_iff l).1 h k hlt
  unfold mayAt isVarB at h2
  simp [hk] at h2
  omega
theorem scale_max {m u : Int} (hm : 1 ≤ m) (hm2 : m ≤ 3) (hu : 1 ≤ u) (hu2 : u ≤ 3) : scaleF m u = max u m := by
  have h1 : m = 1 ∨ m = 2 ∨ m = 3 := by omega
  have h2 : u = 1 ∨ u = 2 ∨ u = 3 := by omega
  rcases h1 with rfl | rfl | rfl <;> rcases h2 with rfl | rfl | rfl <;> decide +kernel
theorem atV_snoc (c : Int) (l av : List Int) (v : Int) : atV c (l ++ [v]) av = max (atV c l av) (av[v.toNat]?.getD 0) := by simp [atV]
theorem atV_bd {c : Int} {l av : List Int} (h1 : 1 ≤ c) (h3 : c ≤ 3) (h : l.all (okV av) = true) : 1 ≤ atV c l av ∧ atV c l av ≤ 3 := by
  induction l generalizing c with
  | nil => exact ⟨h1, h3⟩
  | cons v l ih =>
    simp only [List.all_cons, Bool.and_eq_true] at h
    obtain ⟨hv, hl⟩ := h
    unfold okV isMultB at hv
    simp at hv
    exact ih (c := max c (av[v.toNat]?.getD 0)) (by omega) (by omega) hl

theorem okV_parts {av : List Int} {v : Int} (h : okV av v = true) : v < av.length ∧ 1 ≤ av[v.toNat]?.getD 0 ∧ av[v.toNat]?.getD 0 ≤ 3 := by
  unfold okV isMultB at h
  simpa using h
theorem all_take {α : Type} {p : α → Bool} {l : List α} (h : l.all p = true) (k : Nat) : (l.take k).all p = true := by
  rw [List.all_eq_true] at h ⊢
  exact fun x hx => h x (List.mem_of_mem_take hx)

set_option maxRecDepth 100000 in
set_option maxHeartbeats 1000000 in
theorem at_any (nv : Bool) (c : Int) (A G : Option Addr) (n cap gn gc : Nat) (l av : List Int) (w : World) (hr : RI .i64 w w.heap.size A n l) (hg : RI .u8 w w.heap.size G gn av) (hmax : n ≤ 1000000000) (hmax2 : gn ≤ 9223372036854775807) :
    Calls Try.prog 26 #[.agg #[.bool nv, .int .u8 c, .slice A n cap], .slice G gn gc] w (Tells2 (atR nv c l av) (atE nv c l av) w) := by
  have HR := Lib.hid (hr.bel ((Bel.refl _).alloc (.cells #[.bool nv, .int .u8 c, .slice A n cap] 33)))
  have HG := Lib.hid (hg.bel ((Bel.refl _).alloc (.cells #[.bool nv, .int .u8 c, .slice A n cap] 33)))
  have HL := Lib.hid hr.len
  have HGL := Lib.hid hg.len
  have hcall := may_any nv c A n cap l (w.alloc (.cells #[.bool nv, .int .u8 c, .slice A n cap] 33)) HR.out (by omega)
  clear hr hg
  rcases Bool.eq_false_or_eq_true (mayB nv c l) with hm | hm
  case' inr =>
    rw [hm, show errF false = 2 from rfl] at hcall
    have HM := Lib.hid hm
    have HC := Lib.hid hcall
    have E1 : Hid (atE nv c l av = 2) := Lib.hid (by unfold atE; rw [hm]; rfl)
    have E2 : Hid (atR nv c l av = 0) := Lib.hid (by unfold atR; rw [hm]; rfl)
    clear hm hcall
    go_enter Try.func26, Try.ntmps26
    go_wp2_with (go_at_call 34; refine HC.out.mono ?_; rintro e w1 ⟨rfl, hb1⟩)
    go_ret2
    exact ⟨by rw [E1.out, E2.out]; rfl, ((Bel.refl _).alloc _).on hb1⟩
  case' inl =>
    rw [hm, show errF true = 0 from rfl] at hcall
    have HM := Lib.hid hm
    have HC := Lib.hid hcall
    have HV := Lib.hid (mayB_vars hm)
    clear hm hcall
    have HY : Hid (l.all (okV av) = true → atE nv c l av = 0 ∧ atR nv c l av = if nv then 0 else atV c l av) := Lib.hid (fun h => by
      unfold atE atR; rw [HM.out, h]; cases nv <;> simp)
    have HNO : Hid (l.all (okV av) = false → atE nv c l av = 5 ∧ atR nv c l av = 0) := Lib.hid (fun h => by
      unfold atE atR; rw [HM.out, h]; simp)
    cases nv
    case' false => obtain ⟨hc1, hc3⟩ := mayB_c HM.out
    all_goals
      go_enter Try.func26, Try.ntmps26
      go_wp2_with (go_at_call 34; refine HC.out.mono ?_; rintro e w1 ⟨rfl, hb1⟩; (have HB1 := Lib.hid hb1); clear hb1; (obtain ⟨b0, b1, b2, g0, g1, g2⟩ := cells3 (HB1.out.blk (blk1 _ _))))
      have HR1 := Lib.hid (HR.out.bel HB1.out)
      have HG1 := Lib.hid (HG.out.bel HB1.out)
      go_loop [20] (fun i => ∃ k : Nat, k ≤ n ∧ i = .int .i64 k ∧ Hid ((l.take k).all (okV av) = true)) (fun i => n - (intOf i).toNat)
      case atStart => exact ⟨0, Nat.zero_le _, rfl, Lib.hid rfl⟩
      case round =>
        obtain ⟨k, hk, rfl, HA⟩ := hrel
        by_cases hlt : k < n
        · obtain ⟨b, off, rfl, hb, hc⟩ := HR1.out.at_ (by omega)
          obtain ⟨v, hv⟩ : ∃ v, l[k]? = some v := ⟨_, List.getElem?_eq_getElem (by rw [← HL.out]; exact hlt)⟩
          have hcell := hc k hlt
          rw [hv] at hcell
          simp only [Option.getD_some] at hcell
          obtain ⟨v0, v1⟩ := var_bd HV.out hv
          have HK := Lib.hid hv
          have HC2 := Lib.hid hc
          clear hv hc
          by_cases hvl : v < (gn : Int)
          · obtain ⟨b', off', rfl, hb', hc'⟩ := HG1.out.at_ (by omega)
            have hcell' := hc' v.toNat (by omega)
            obtain ⟨q, hq⟩ : ∃ q, av[v.toNat]?.getD 0 = q := ⟨_, rfl⟩
            rw [hq] at hcell'
            have HQ := Lib.hid hq
            have HVL : Hid (v < (av.length : Int)) := Lib.hid (by rw [← HGL.out]; exact hvl)
            clear hc' hq
            rcases Bool.eq_false_or_eq_true (isMultB q) with hm | hm
            all_goals
              have HMM := Lib.hid hm
              have hi := isMult_any q w1
              rw [hm] at hi
              have HI := Lib.hid hi
              clear hm hi
              go_wp2_with (go_at_call 62; refine HI.out.mono ?_; rintro e w2 ⟨rfl, rfl⟩)
            all_goals first
              | (go_round
                 case rel => exact ⟨k + 1, by omega, by go_num, Lib.hid (by rw [take_snoc_ HK.out, List.all_append, HA.out]; simp [okV, HVL.out, HQ.out, HMM.out])⟩
                 case measure => simp [intOf]; omega)
              | (go_ret2
                 obtain ⟨h1, h2⟩ := HNO.out (by rw [List.all_eq_false]; exact ⟨v, List.mem_of_getElem? HK.out, by simp [okV, HQ.out, HMM.out]⟩)
                 exact ⟨by rw [h1, h2]; rfl, ((Bel.refl _).alloc _).on HB1.out⟩)
          · have HVL : Hid (¬ v < (av.length : Int)) := Lib.hid (by rw [← HGL.out]; exact hvl)
            have hvg : (gn : Int) ≤ v := by omega
            clear hvl
            go_wp2_with (go_at_call 62; refine (isMult_any _ _).mono ?_; rintro e w2 ⟨rfl, rfl⟩)
            obtain ⟨h1, h2⟩ := HNO.out (by rw [List.all_eq_false]; exact ⟨v, List.mem_of_getElem? HK.out, by simp [okV]; intro h; have := HVL.out; omega⟩)
            go_ret2
            exact ⟨by rw [h1, h2]; rfl, ((Bel.refl _).alloc _).on HB1.out⟩
        · obtain rfl : k = n := by omega
          have e : l.take k = l := by rw [HL.out]; exact List.take_length
          have HA2 : Hid (l.all (okV av) = true) := Lib.hid (by rw [← e]; exact HA.out)
          clear e
          first
            | (go_wp2_with fail
               go_ret2
               obtain ⟨h1, h2⟩ := HY.out HA2.out
               exact ⟨by rw [h1, h2]; rfl, ((Bel.refl _).alloc _).on HB1.out⟩)
            | (go_wp2_with (go_at_call 33; refine (scale_any _ _ (by omega) (by omega) _).mono ?_; rintro e w2 ⟨rfl, rfl⟩)
               go_loop [9, 45] (fun u i => ∃ j : Nat, j ≤ k ∧ i = .int .i64 j ∧ u = .int .u8 (atV c (l.take j) av)) (fun _ i => k - (intOf i).toNat)
               case atStart => exact ⟨0, Nat.zero_le _, rfl, by rw [scale_max hc1 hc3 (by omega) (by omega)]; simp [atV]; omega⟩
               case round =>
                 obtain ⟨j, hj, rfl, rfl⟩ := hrel
                 by_cases hlt2 : j < k
                 · obtain ⟨b, off, rfl, hb, hc⟩ := HR1.out.at_ (by omega)
                   obtain ⟨v, hv⟩ : ∃ v, l[j]? = some v := ⟨_, List.getElem?_eq_getElem (by rw [← HL.out]; exact hlt2)⟩
                   have hcell := hc j hlt2
                   rw [hv] at hcell
                   simp only [Option.getD_some] at hcell
                   obtain ⟨v0, v1⟩ := var_bd HV.out hv
                   have hok := List.all_eq_true.1 HA2.out v (List.mem_of_getElem? hv)
                   obtain ⟨o1, o2, o3⟩ := okV_parts hok
                   obtain ⟨b', off', rfl, hb', hc'⟩ := HG1.out.at_ (by have := HGL.out; omega)
                   have hcell' := hc' v.toNat (by have := HGL.out; omega)
                   have hvg : v < (gn : Int) := by have := HGL.out; omega
                   obtain ⟨q, hq⟩ : ∃ q, av[v.toNat]?.getD 0 = q := ⟨_, rfl⟩
                   rw [hq] at hcell' o2 o3
                   have hbd := atV_bd hc1 hc3 (all_take HA2.out j)
                   have hsm := scale_max o2 o3 hbd.1 hbd.2
                   have HSM := Lib.hid hsm
                   have HQ := Lib.hid hq
                   have HK := Lib.hid hv
                   clear hv hc hc' hq hok hsm o1
                   go_wp2_with (go_at_call 33; refine (scale_any _ _ (by omega) (by omega) _).mono ?_; rintro e w2 ⟨rfl, rfl⟩)
                   go_round
                   case rel => exact ⟨j + 1, by omega, by go_num, by rw [take_snoc_ HK.out, atV_snoc, HQ.out, HSM.out]⟩
                   case measure => simp [intOf]; omega
                 · obtain rfl : j = k := by omega
                   have e : l.take j = l := by rw [HL.out]; exact List.take_length
                   have E := Lib.hid e
                   clear e
                   go_wp2
                   go_ret2
                   obtain ⟨h1, h2⟩ := HY.out HA2.out
                   exact ⟨by rw [h1, h2, E.out]; rfl, ((Bel.refl _).alloc _).on HB1.out⟩)
end Go.Proofs.Ytghoipgldnfjoaa.Mu
