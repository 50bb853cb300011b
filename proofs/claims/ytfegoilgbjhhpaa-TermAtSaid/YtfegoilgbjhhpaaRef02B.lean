/-
  The document's own answers for layer 2 (package usufructref02), walked: what a term is under an assignment, and whether two are the same.
-/
import Derived.Test.YtfegoilgbjhhpaaTermE
namespace Go.Proofs.Ytfegoilgbjhhpaa.Mu
open Go.ChangeShapes Go.WideShapes Go.ChangeAt Go.RowKit

theorem of_ref (m : Int) (h1 : 1 ≤ m) (h3 : m ≤ 3) (w : World) : Calls Try.prog 35 #[.int .u8 m] w fun e w' => e = .returned (.int .u8 m) ∧ w = w' := by
  have h : m = 1 ∨ m = 2 ∨ m = 3 := by omega
  clear h1 h3
  rcases h with rfl | rfl | rfl
  all_goals
    go_enter Try.func35, Try.ntmps35
    go_wp2
    go_ret
    exact ⟨rfl, rfl⟩

set_option maxRecDepth 100000 in
set_option maxHeartbeats 1000000 in
theorem rat_any (nv : Bool) (c : Int) (A G : Option Addr) (n cap gn gc : Nat) (l av : List Int) (w : World) (hr : RI .i64 w w.heap.size A n l) (hg : RI .u8 w w.heap.size G gn av) (hmax : n ≤ 1000000000) (hmax2 : gn ≤ 9223372036854775807) (hm : mayB nv c l = true) :
    Calls Try.prog 16 #[.agg #[.bool nv, .int .u8 c, .slice A n cap], .slice G gn gc] w (Tells2 (atR nv c l av) (atE nv c l av) w) := by
  have HR := Lib.hid (hr.bel ((Bel.refl _).alloc (.cells #[.bool nv, .int .u8 c, .slice A n cap] 28)))
  have HG := Lib.hid (hg.bel ((Bel.refl _).alloc (.cells #[.bool nv, .int .u8 c, .slice A n cap] 28)))
  have HL := Lib.hid hr.len
  have HGL := Lib.hid hg.len
  clear hr hg
  have HM := Lib.hid hm
  have HV := Lib.hid (mayB_vars hm)
  clear hm
  have HY : Hid (l.all (okV av) = true → atE nv c l av = 0 ∧ atR nv c l av = if nv then 0 else atV c l av) := Lib.hid (fun h => by
    unfold atE atR; rw [HM.out, h]; cases nv <;> simp)
  have HNO : Hid (l.all (okV av) = false → atE nv c l av = 5 ∧ atR nv c l av = 0) := Lib.hid (fun h => by
    unfold atE atR; rw [HM.out, h]; simp)
  cases nv
  case true =>
    have hn0 : Hid (l.all (okV av) = true) := Lib.hid (by
      have h := HM.out
      unfold mayB at h
      simp at h
      rw [h.1.2]; rfl)
    go_enter Try.func16, Try.ntmps16
    go_wp2
    go_ret2
    obtain ⟨h1, h2⟩ := HY.out hn0.out
    exact ⟨by rw [h1, h2]; rfl, (Bel.refl _).alloc _⟩
  case false =>
    obtain ⟨hc1, hc3⟩ := mayB_c HM.out
    go_enter Try.func16, Try.ntmps16
    go_wp2
    go_loop [6, 7] (fun t i => ∃ k : Nat, k ≤ n ∧ i = .int .i64 k ∧ t = .int .u8 (atV c (l.take k) av) ∧ Hid ((l.take k).all (okV av) = true)) (fun _ i => n - (intOf i).toNat)
    case atStart => exact ⟨0, Nat.zero_le _, rfl, rfl, Lib.hid rfl⟩
    case round =>
      obtain ⟨k, hk, rfl, rfl, HA⟩ := hrel
      by_cases hlt : k < n
      · obtain ⟨b, off, rfl, hb, hc⟩ := HR.out.at_ (by omega)
        obtain ⟨v, hv⟩ : ∃ v, l[k]? = some v := ⟨_, List.getElem?_eq_getElem (by rw [← HL.out]; exact hlt)⟩
        have hcell := hc k hlt
        rw [hv] at hcell
        simp only [Option.getD_some] at hcell
        obtain ⟨v0, v1⟩ := var_bd HV.out hv
        have HK := Lib.hid hv
        have HC2 := Lib.hid hc
        clear hv hc
        by_cases hvl : v < (gn : Int)
        · obtain ⟨b', off', rfl, hb', hc'⟩ := HG.out.at_ (by omega)
          have hcell' := hc' v.toNat (by omega)
          obtain ⟨q, hq⟩ : ∃ q, av[v.toNat]?.getD 0 = q := ⟨_, rfl⟩
          rw [hq] at hcell'
          have HQ := Lib.hid hq
          have HVL : Hid (v < (av.length : Int)) := Lib.hid (by rw [← HGL.out]; exact hvl)
          clear hc' hq
          have hqc : q < 1 ∨ 3 < q ∨ (1 ≤ q ∧ q ≤ 3) := by omega
          rcases hqc with hq1 | hq1 | ⟨hq1, hq2⟩
          all_goals
            go_wp2
          all_goals first
            | (go_ret2
               obtain ⟨h1, h2⟩ := HNO.out (by rw [List.all_eq_false]; exact ⟨v, List.mem_of_getElem? HK.out, by simp [okV, isMultB, HQ.out]; omega⟩)
               exact ⟨by rw [h1, h2]; rfl, (Bel.refl _).alloc _⟩)
            | (go_round
               case rel => exact ⟨k + 1, by omega, by go_num, by rw [take_snoc_ HK.out, atV_snoc, HQ.out]; congr 1; omega, Lib.hid (by rw [take_snoc_ HK.out, List.all_append, HA.out]; simp [okV, isMultB, HVL.out, HQ.out, hq1, hq2])⟩
               case measure => simp [intOf]; omega)
        · have HVL : Hid (¬ v < (av.length : Int)) := Lib.hid (by rw [← HGL.out]; exact hvl)
          have hvg : (gn : Int) ≤ v := by omega
          clear hvl
          go_wp2
          all_goals
            go_ret2
            obtain ⟨h1, h2⟩ := HNO.out (by rw [List.all_eq_false]; exact ⟨v, List.mem_of_getElem? HK.out, by simp [okV]; intro h; have := HVL.out; omega⟩)
            exact ⟨by rw [h1, h2]; rfl, (Bel.refl _).alloc _⟩
      · obtain rfl : k = n := by omega
        have e : l.take k = l := by rw [HL.out]; exact List.take_length
        have HA2 : Hid (l.all (okV av) = true) := Lib.hid (by rw [← e]; exact HA.out)
        have hbd := atV_bd hc1 hc3 HA2.out
        rw [e]
        have E := Lib.hid e
        clear e
        obtain ⟨hb1, hb3⟩ := hbd
        go_wp2_with (go_at_call 35; refine (of_ref _ hb1 hb3 _).mono ?_; rintro e w2 ⟨rfl, rfl⟩)
        go_ret2
        obtain ⟨h1, h2⟩ := HY.out HA2.out
        exact ⟨by rw [h1, h2]; rfl, (Bel.refl _).alloc _⟩
end Go.Proofs.Ytfegoilgbjhhpaa.Mu
