/-
  ElimExact, walked.
-/
import Derived.Test.YtlbachjhhjjmfaaElimEx
import Derived.Deep.DeepCutAuto
namespace Go.Proofs.Ytlbachjhhjjmfaa.Mu
open Go.ChangeShapes Go.WideShapes Go.ChangeAt Go.RowKit Go.Shelf

attribute [local go_sem] Oper.semAt_some

/-- What is handed to Solve: the inequalities, and that each variable that is kept is not above its own. -/
def freeQ (kp : List Nat) (g : List Int) : List Iq := (List.range kp.length).map fun i => ⟨(kp[i]?.getD 0 : Nat), 0, g[i]?.getD 0, -1⟩
def lowQ (n : Nat) (kp : List Nat) (g : List Int) (k : Nat) : List Int := (List.range k).foldl (fun l i => l.set (kp[i]?.getD 0) (g[i]?.getD 0)) (List.replicate n 1)
theorem freeQ_take {kp : List Nat} {g : List Int} {j v : Nat} (h : kp[j]? = some v) : (freeQ kp g).take (j + 1) = (freeQ kp g).take j ++ [⟨(v : Int), 0, g[j]?.getD 0, -1⟩] := by
  have hj := (List.getElem?_eq_some_iff.1 h).1
  rw [List.take_add_one]
  unfold freeQ
  rw [List.getElem?_map, List.getElem?_range hj]
  simp [h]
theorem freeQ_len (kp : List Nat) (g : List Int) : (freeQ kp g).length = kp.length := by simp [freeQ]
theorem lowQ_len (n : Nat) (kp : List Nat) (g : List Int) (k : Nat) : (lowQ n kp g k).length = n := by
  unfold lowQ
  induction k with
  | zero => simp
  | succ k ih => rw [List.range_succ, List.foldl_append]; simp only [List.foldl_cons, List.foldl_nil, List.length_set]; exact ih
theorem lowQ_succ (n : Nat) (kp : List Nat) (g : List Int) (k : Nat) : lowQ n kp g (k + 1) = (lowQ n kp g k).set (kp[k]?.getD 0) (g[k]?.getD 0) := by
  unfold lowQ
  rw [List.range_succ, List.foldl_append]
  rfl
theorem lowQ_at {n : Nat} {kp : List Nat} {g : List Int} : ∀ k, k ≤ kp.length → ∀ v, v < n → ((∃ i, i < k ∧ kp[i]? = some v ∧ (lowQ n kp g k)[v]?.getD 0 = g[i]?.getD 0) ∨ ((∀ i, i < k → kp[i]? ≠ some v) ∧ (lowQ n kp g k)[v]?.getD 0 = 1)) := by
  intro k
  induction k with
  | zero =>
    intro _ v hv
    right
    refine ⟨fun i hi => by omega, ?_⟩
    unfold lowQ
    simp [hv]
  | succ k ih =>
    intro hkl v hv
    rw [lowQ_succ]
    have hkk : kp[k]? = some kp[k] := List.getElem?_eq_getElem (by omega)
    rw [hkk]
    simp only [Option.getD_some]
    by_cases e : kp[k] = v
    · left
      refine ⟨k, by omega, by rw [hkk, e], ?_⟩
      rw [e, List.getElem?_set_self (by rw [lowQ_len]; exact hv)]
      rfl
    · rw [List.getElem?_set_ne e]
      rcases ih (by omega) v hv with ⟨i, h1, h2, h3⟩ | ⟨h1, h2⟩
      · exact .inl ⟨i, by omega, h2, h3⟩
      · refine .inr ⟨fun i hi => ?_, h2⟩
        by_cases e2 : i = k
        · subst e2; rw [hkk]; intro h; exact e (Option.some.inj h)
        · exact h1 i (by omega)
/-- The solution that is asked for is told. -/
theorem exact_solve {N : Nat} {xs : List Iq} {G g : List Int} {kp : List Nat} (hN : N ≤ 1048576) (hxl : xs.length + kp.length ≤ 1048576) (hm : mayF N [] xs = 0) (hg : ∀ x ∈ xs, GoodQ N x) (hG : SolQ N xs G) (hnd : kp.Nodup) (hk : ∀ v ∈ kp, v < N) (hl : LetM xs G kp g) :
    mayF N (lowQ N kp g kp.length) (xs ++ freeQ kp g) = 0 ∧ ∀ T, Tells N (lowQ N kp g kp.length) (xs ++ freeQ kp g) T → T.1 = none ∧ ∀ (i v : Nat), kp[i]? = some v → T.2.1[v]?.getD 0 = g[i]?.getD 0 := by
  have hgb : ∀ (i v : Nat), kp[i]? = some v → 1 ≤ g[i]?.getD 0 ∧ g[i]?.getD 0 ≤ 3 := fun i v hi => by
    have hv := hk v (List.mem_of_getElem? hi)
    have := hl.low i v hi
    have := (hG.mult v hv).1
    have := hl.up i v hi
    have := (gr_bd fun m => ¬ Hits xs m v).2
    unfold upM at *
    omega
  have hlow : ∀ v, v < N → 1 ≤ (lowQ N kp g kp.length)[v]?.getD 0 ∧ (lowQ N kp g kp.length)[v]?.getD 0 ≤ 3 := fun v hv => by
    rcases lowQ_at (g := g) kp.length (Nat.le_refl _) v hv with ⟨i, _, h2, h3⟩ | ⟨_, h3⟩
    · rw [h3]; exact hgb i v h2
    · rw [h3]; omega
  obtain ⟨S, hS, hSa⟩ := let_exact hg hG hk hl
  have hfree : ∀ x ∈ freeQ kp g, ∃ (i v : Nat), kp[i]? = some v ∧ x = ⟨(v : Int), 0, g[i]?.getD 0, -1⟩ := fun x hx => by
    obtain ⟨i, hi, rfl⟩ := List.mem_map.1 hx
    have hil := List.mem_range.1 hi
    have h1 : kp[i]? = some kp[i] := List.getElem?_eq_getElem hil
    exact ⟨i, kp[i], h1, by rw [h1]; rfl⟩
  refine ⟨mayF_ok hN (by rw [List.length_append]; simp [freeQ]; omega) (.inr (lowQ_len _ _ _ _)) (fun m hm' => ?_) (fun x hx => ?_), fun T hT => ?_⟩
  · obtain ⟨v, hv⟩ := List.getElem?_of_mem hm'
    have hvl := (List.getElem?_eq_some_iff.1 hv).1
    rw [lowQ_len] at hvl
    have := hlow v hvl
    rw [hv] at this
    exact this
  · rcases List.mem_append.1 hx with hx | hx
    · exact ⟨mayx hm x hx, hg x hx⟩
    · obtain ⟨i, v, hi, rfl⟩ := hfree x hx
      have hv := hk v (List.mem_of_getElem? hi)
      have hb := hgb i v hi
      refine ⟨?_, .inl ⟨rfl, by simp, by simp; omega⟩, hb, .inl rfl⟩
      unfold Iq.may mayI isB isVarB isMultB
      simp
      omega
  · have hsat : ∀ x ∈ xs ++ freeQ kp g, SatQ S x := fun x hx => by
      rcases List.mem_append.1 hx with hx | hx
      · exact hS.sat x hx
      · obtain ⟨i, v, hi, rfl⟩ := hfree x hx
        left
        unfold lft
        simp only [if_true, Int.toNat_natCast]
        rw [hSa i v hi]
        exact Int.le_refl _
    have hle : ∀ v, v < N → (low0 N (lowQ N kp g kp.length))[v]?.getD 0 ≤ S[v]?.getD 0 := fun v hv => by
      have e : (low0 N (lowQ N kp g kp.length)) = lowQ N kp g kp.length := by unfold low0; rw [lowQ_len, if_neg (by omega)]
      rw [e]
      rcases lowQ_at (g := g) kp.length (Nat.le_refl _) v hv with ⟨i, _, h2, h3⟩ | ⟨_, h3⟩
      · rw [h3, hSa i v h2]; exact Int.le_refl _
      · rw [h3]; exact (hS.mult v hv).1
    obtain ⟨h1, h2⟩ := hT.least S hsat hle
    refine ⟨h1, fun i v hi => ?_⟩
    have hv := hk v (List.mem_of_getElem? hi)
    have ha := h2 v hv
    rw [hSa i v hi] at ha
    have hb := ((hT.solves h1).2.2 v hv).2.2
    have e : (low0 N (lowQ N kp g kp.length)) = lowQ N kp g kp.length := by unfold low0; rw [lowQ_len, if_neg (by omega)]
    rw [e] at hb
    rcases lowQ_at (g := g) kp.length (Nat.le_refl _) v hv with ⟨j, _, h4, h5⟩ | ⟨h4, _⟩
    · have hij : i = j := by
        have h6 := (List.getElem?_eq_some_iff.1 hi)
        have h7 := (List.getElem?_eq_some_iff.1 h4)
        exact (List.getElem_inj (h₀ := h6.1) (h₁ := h7.1) hnd).1 (h6.2.trans h7.2.symm)
      subst hij
      omega
    · exact absurd hi (h4 i (List.getElem?_eq_some_iff.1 hi).1)

set_option maxRecDepth 100000 in
set_option maxHeartbeats 4000000 in
theorem elimExact_any (n : Int) (A KA GA HA : Option Addr) (len cap kn kc gn gc hn hc : Nat) (xs : List Iq) (keep g h : List Int) (w : World) (hq : RQ w w.heap.size A len xs) (hqm : len ≤ 9223372036854775807) (hK : RI .i64 w w.heap.size KA kn keep) (hkc : kn ≤ kc) (hkm : kn ≤ 9223372036854775807) (hG : RI .u8 w w.heap.size GA gn g) (hgm : gn ≤ 9223372036854775807) (hH : RI .u8 w w.heap.size HA hn h) (hhm : hn ≤ 9223372036854775807) :
    Calls Try.prog 5 #[.int .i64 n, .slice A len cap, .slice KA kn kc, .slice GA gn gc, .slice HA hn hc] w fun e w' => e = .returned (.bool true) ∧ Bel w w' := by
  have HQ := Lib.hid hq
  have HK := Lib.hid hK
  have HG := Lib.hid hG
  have HH := Lib.hid hH
  have hgr := eGreat_any n A KA len cap kn kc w
  by_cases hgt : (decide (30 < n) || decide (60 < len) || decide (6 < kn)) = true
  · rw [hgt] at hgr
    have HGR := Lib.hid hgr
    clear hgr hgt hq hK hG hH
    go_enter Try.func5, Try.ntmps5
    go_wp2_with fail
    refine HGR.out.mono ?_
    rintro e w1 ⟨rfl, hb1⟩
    go_wp2_with fail
    refine (works5_any w1).mono ?_
    rintro e w2 ⟨rfl, hb2⟩
    have HB := Lib.hid (hb1.on hb2)
    clear hb1 hb2
    go_wp2
    go_ret
    exact ⟨rfl, HB.out⟩
  · have hgf : (decide (30 < n) || decide (60 < len) || decide (6 < kn)) = false := by simpa using hgt
    rw [hgf] at hgr
    have hn30 : n ≤ 30 ∧ len ≤ 60 ∧ kn ≤ 6 := by simp at hgf; omega
    have HGR := Lib.hid hgr
    clear hgr hgt hgf
    rcases proj_cases n A KA len cap kn kc xs keep hq.len hK.1 (by omega) hkc (by omega) (by omega) with ⟨c, hc0, hc2, _, _, hP⟩ | ⟨N, kp, G, rfl, n1, hm, rfl, hko, hnd, hkl, hgood, hGs, hGl, hP⟩
    · have HP := Lib.hid hP
      have HC := Lib.hid hc2
      clear hP hq hK hG hH hc2
      go_enter Try.func5, Try.ntmps5
      go_wp2_with fail
      refine HGR.out.mono ?_
      rintro e w1 ⟨rfl, hb1⟩
      have HB1 := Lib.hid hb1
      clear hb1
      go_wp2_with fail
      refine (HP.out w1 (HQ.out.bel HB1.out) (HK.out.bel HB1.out)).mono ?_
      rintro e w2 ⟨rfl, hb2⟩
      have HB2 := Lib.hid (HB1.out.on hb2)
      clear hb2
      have hne : (c != 0) = true := by simpa using hc0
      go_wp2_with fail
      refine (works5_any _).mono ?_
      rintro e w3 ⟨rfl, hb3⟩
      have HB := Lib.hid ((HB2.out.alloc _).on hb3)
      clear hb3
      go_wp2
      go_ret
      exact ⟨rfl, HB.out⟩
    · have HP := Lib.hid hP
      have HGS := Lib.hid hGs
      have HGLs := Lib.hid hGl
      have HGOOD := Lib.hid hgood
      have HM := Lib.hid hm
      have HND := Lib.hid hnd
      have HKL := Lib.hid hkl
      have hkk : kn = kp.length := by have := hK.1; simpa using this
      have HKN := Lib.hid hkk
      have HQL := Lib.hid hq.len
      have HGL2 := Lib.hid hG.len
      have HHL := Lib.hid hH.len
      have HHO := Lib.hid (fun (W : World) (hb : Bel w W) => holds_any A len cap xs HA hn hc h W (HQ.out.bel hb) (by omega) (HH.out.bel hb) hhm)
      obtain ⟨he, hhe⟩ : ∃ he, he = holdsE h xs := ⟨_, rfl⟩
      obtain ⟨hN, hhN⟩ : ∃ hN, hN = holdsN h xs := ⟨_, rfl⟩
      rw [← hhe, ← hhN] at HHO
      have HHE := Lib.hid (And.intro hhe hhN)
      clear hP hq hK hG hH hGs hGl hgood hm hnd hkl hkk hko hhe hhN
      go_enter Try.func5, Try.ntmps5
      go_wp2_with fail
      refine HGR.out.mono ?_
      rintro e w1 ⟨rfl, hb1⟩
      have HB1 := Lib.hid hb1
      clear hb1
      go_wp2_with fail
      refine (HP.out w1 (HQ.out.bel HB1.out) (HK.out.bel HB1.out)).mono ?_
      rintro e w2 ⟨LA, lc, UA, uc, PA, pc, L, U, rows, rfl, hL, hU, hPr, hrl, hT, hb2⟩
      have HB2 := Lib.hid (HB1.out.on hb2)
      have HTV : Hid (TabV LA lc UA uc PA pc kn L U rows w2) := Lib.hid ⟨hL, hU, hPr, hrl⟩
      have HT := Lib.hid hT
      clear hL hU hPr hrl hT hb2
      go_wp2_with fail
      have hb3 : Bel w2 (w2.alloc (.cells #[.slice LA kn lc, .slice UA kn uc, .slice PA kn pc] 26)) := (Bel.refl w2).alloc _
      have hq3 := blk1 w2 (.cells #[.slice LA kn lc, .slice UA kn uc, .slice PA kn pc] 26)
      obtain ⟨w3, hw3⟩ : ∃ w3, w3 = w2.alloc (.cells #[.slice LA kn lc, .slice UA kn uc, .slice PA kn pc] 26) := ⟨_, rfl⟩
      obtain ⟨tb, htb⟩ : ∃ tb, tb = w2.heap.size := ⟨_, rfl⟩
      rw [← hw3] at hb3 hq3 ⊢
      rw [← htb] at hq3 ⊢
      have HB3 := Lib.hid (HB2.out.on hb3)
      have HTV3 := Lib.hid (HTV.out.bel hb3)
      have HQ3 := Lib.hid hq3
      clear hw3 htb hb3 hq3 HTV
      refine (HHO.out w3 HB3.out).mono ?_
      rintro e w4 ⟨rfl, hb4⟩
      have HB4 := Lib.hid (HB3.out.on hb4)
      have HTV4 := Lib.hid (HTV3.out.bel hb4)
      have HQ4 := Lib.hid (hb4.blk HQ3.out)
      clear hb4 HTV3 HQ3
      go_upto_region 7 with fail
      go_cut [60] (fun c wx => c = .bool (decide (he = 0 ∧ hN < 0 ∧ (hn : Int) = N)) ∧ Hid (Bel w4 wx))
      case first =>
        by_cases c1 : he = 0
        · subst c1
          by_cases c2 : hN < 0
          · by_cases c3 : (hn : Int) = N
            · have d3 : ((hn : Int) == (N : Int)) = true := by simp [c3]
              have HC3 := Lib.hid c3
              clear c3
              go_wp2_with fail
              go_meet
              case rel => exact ⟨by simp [c2, HC3.out], Lib.hid (Bel.refl _)⟩
            · have d3 : ((hn : Int) == (N : Int)) = false := by simp [c3]
              have HC3 := Lib.hid c3
              clear c3
              go_wp2_with fail
              go_meet
              case rel => exact ⟨congrArg Value.bool (decide_eq_false (fun h => HC3.out h.2.2)).symm, Lib.hid (Bel.refl _)⟩
          · have HC2 := Lib.hid c2
            have d2 : decide (hN < 0) = false := decide_eq_false c2
            clear c2
            go_wp2_with fail
            go_meet
            case rel => exact ⟨congrArg Value.bool (decide_eq_false (fun h => absurd h.2.1 (by have := HC2.out; omega))).symm, Lib.hid (Bel.refl _)⟩
        · have d1 : (he == 0) = false := by simp [c1]
          go_wp2_with fail
          go_meet
          case rel => exact ⟨by simp [c1], Lib.hid (Bel.refl _)⟩
      case rest =>
        obtain ⟨rfl, HB5⟩ := hcut
        obtain ⟨cb, hcb⟩ : ∃ cb, cb = decide (he = 0 ∧ hN < 0 ∧ (hn : Int) = N) := ⟨_, rfl⟩
        rw [← hcb]
        have HCB := Lib.hid hcb
        clear hcb
        rename World => w5
        have HK5 := Lib.hid (HK.out.bel (HB4.out.on HB5.out))
        have HH5 := Lib.hid (HH.out.bel (HB4.out.on HB5.out))
        have HG5 := Lib.hid (HG.out.bel (HB4.out.on HB5.out))
        have HQ5 := Lib.hid (HB5.out.blk HQ4.out)
        have HTV5 := Lib.hid (HTV4.out.bel HB5.out)
        go_upto_if 60 with fail
        go_cut [] (fun wx => Hid (Bel w5 wx))
        case first =>
          cases cb
          · go_wp2_with fail
            go_meet
            case rel => exact Lib.hid (Bel.refl _)
          · have hct := of_decide_eq_true HCB.out.symm
            have hnN : hn = N := by omega
            have HS := Lib.hid (holds_sol (n := N) (by rw [← HHL.out]; exact hnN) (HHE.out.1.symm.trans hct.1) (by rw [← HHE.out.2]; exact hct.2.1))
            have HNN := Lib.hid hnN
            clear hct hnN
            go_wp2_with fail
            go_loopw [15, 63] (fun ov i wr => ∃ j : Nat, j ≤ kn ∧ i = .int .i64 (j : Int) ∧ ∃ A' c', ov = .slice A' j c' ∧ Hid (wr.ownsRow w5.heap.size 30 1 (.slice A' j c') j (((kp.take j).map fun v => h[v]?.getD 0).map (Value.int .u8))) ∧ Hid (Bel w5 wr)) (fun _ i _ => kn - (intOf i).toNat)
            case atStart => exact ⟨0, Nat.zero_le _, rfl, none, 0, rfl, Lib.hid (World.ownsRow_nil _ _ _ _), Lib.hid (Bel.refl _)⟩
            case round =>
              obtain ⟨j, hj, rfl, A', c', rfl, HO, HBr⟩ := hrel
              by_cases hlt : j < kn
              · have hkj : kp[j]? = some kp[j] := List.getElem?_eq_getElem (by rw [← HKN.out]; exact hlt)
                obtain ⟨v, hv⟩ : ∃ v, v = kp[j] := ⟨_, rfl⟩
                rw [← hv] at hkj
                have hvN : v < hn := by rw [HNN.out]; exact HKL.out v (List.mem_of_getElem? hkj)
                obtain ⟨b, off, eA, hb, hc⟩ := (HK5.out.bel HBr.out).at_ (by omega)
                subst eA
                have c0 := hc j hlt
                rw [List.getElem?_map, hkj] at c0
                simp only [Option.map_some, Option.getD_some] at c0
                obtain ⟨b2, off2, eA, hb2, hc2⟩ := (HH5.out.bel HBr.out).at_ (by omega)
                subst eA
                have c2 := hc2 v hvN
                obtain ⟨hx, hhx⟩ : ∃ hx, hx = h[v]?.getD 0 := ⟨_, rfl⟩
                rw [← hhx] at c2
                have i1 : (0 : Int) ≤ (j : Int) := by omega
                have i2 : (j : Int) < (kn : Int) := by omega
                have i3 : (0 : Int) ≤ (v : Int) := by omega
                have i4 : (v : Int) < (hn : Int) := by omega
                have HKJ := Lib.hid hkj
                have HHX := Lib.hid hhx
                clear hv hkj hc hc2 hhx
                obtain ⟨i0, hi0, hz0, hz1, hz2⟩ := info_parts info_mu8'
                go_wp2_with (at_builtin; refine stopW ?_)
                unfold StopW
                have hszr := HBr.out.size
                refine wpList_append_own_at _ rfl _ _ 23 rfl w5.heap.size 30 i0 (.int .u8 0) 1 1 Try.underlying23 hi0 hz0 hz1 hz2 rfl (by decide) (.slice A' j c') j _ rfl (HO.out.alloc _) ⟨wr.heap.size, 0, none⟩ 1 1 [.int .u8 hx] rfl rfl (fun j u hu => by rw [Addr.add_lit, Nat.zero_add]; exact one_cell_at _ _ _ j u hu) (by simp [Value.oneCell']) (by unfold maxLen; omega) (by omega) (by simp; omega) ?_
                intro v' w3 hown3 hg3 _ hat3
                obtain ⟨g3, c3', rfl⟩ := ownsRow_succ hown3
                have HO3 : Hid (w3.ownsRow w5.heap.size 30 1 (.slice (some ⟨g3, 0, none⟩) (j + 1) c3') (j + 1) (((kp.take (j + 1)).map fun v => h[v]?.getD 0).map (Value.int .u8))) := Lib.hid (by
                  rw [List.take_add_one, HKJ.out, List.map_append, List.map_append]
                  rw [HHX.out] at hown3
                  exact hown3)
                have HB3 : Hid (Bel w5 w3) := Lib.hid (by
                  refine ⟨hg3.os.trans HBr.out.os, hg3.tape.trans HBr.out.tape, hg3.output.trans HBr.out.output, by have := hg3.size; simp at this; omega, fun j hj => (hg3.block j (by simp; omega) (fun e => ?_)).trans ((Below.heap_alloc _ _ _ (by omega)).trans (HBr.out.block j hj))⟩
                  have := (HO.out.lt j e.symm).1
                  omega)
                clear hown3 hg3 hat3 c0 c2 i1 i2 i3 i4
                go_wp2_with fail
                go_roundw
                case rel => exact ⟨j + 1, by omega, by go_num, _, _, rfl, HO3, HB3⟩
                case measure => simp [intOf]; omega
              · obtain rfl : j = kn := by omega
                have HRO := HO.out
                rw [List.take_of_length_le (by rw [← HKN.out]; exact Nat.le_refl _)] at HRO
                have HOR := Lib.hid (RI.of_own HRO)
                have hxc := fun W => xcont_any A' j c' (kp.map fun v => h[v]?.getD 0) W
                obtain ⟨bb, hbb⟩ : ∃ bb, bb = (kp.map fun v => h[v]?.getD 0).any badM := ⟨_, rfl⟩
                rw [← hbb] at hxc
                have HXC := Lib.hid hxc
                have HBB := Lib.hid hbb
                clear hxc hbb HRO
                go_wp2_with fail
                refine (HXC.out _ HOR.out (by omega)).mono ?_
                rintro e w2 ⟨rfl, hb2⟩
                have HB2 := Lib.hid (HBr.out.on hb2)
                have HOR2 := Lib.hid (HOR.out.bel hb2)
                clear hb2
                cases bb
                · have hlt2 : LetsP L U rows (kp.map fun v => h[v]?.getD 0) := by
                    refine (tab_lets HGS.out HKL.out (by rw [← HKN.out]; omega) HT.out).2 ?_
                    have h1 := let_sol HGLs.out HS.out HKL.out
                    have e : (kp.map fun v => (clampS h)[v]?.getD 0) = kp.map fun v => h[v]?.getD 0 := by
                      apply List.map_congr_left
                      intro v hv
                      have hb := HBB.out.symm
                      rw [List.any_eq_false] at hb
                      have := hb _ (List.mem_map.2 ⟨v, hv, rfl⟩)
                      unfold badM at this
                      simp at this
                      exact clamp_same (by rw [← HHL.out, HNN.out]; exact HKL.out v hv) ⟨by omega, by omega⟩
                    rw [e] at h1
                    exact h1
                  have HLT := Lib.hid hlt2
                  obtain ⟨t0, t1, t2, _, _, _⟩ := cells3 (HB2.out.blk HQ5.out)
                  have HTV2 := Lib.hid (HTV5.out.bel HB2.out)
                  clear hlt2
                  go_wp2_with fail
                  refine (lets_yes LA UA PA A' lc uc pc j c' L U _ j rows _ HTV2.out HOR2.out (by omega) HLT.out).mono ?_
                  rintro e w3 ⟨rfl, hb3⟩
                  have HB3 := Lib.hid (HB2.out.on hb3)
                  clear hb3 t0 t1 t2
                  go_wp2_with fail
                  go_meet
                  case rel => exact HB3
                · go_wp2_with fail
                  go_meet
                  case rel => exact HB2
        case rest =>
          have HB6 := Lib.hid (HB4.out.on (HB5.out.on hcut.out))
          have HK6 := Lib.hid (HK5.out.bel hcut.out)
          have HG6 := Lib.hid (HG5.out.bel hcut.out)
          have HTV6 := Lib.hid (HTV5.out.bel hcut.out)
          obtain ⟨t0, t1, t2, _, _, _⟩ := cells3 (hcut.out.blk HQ5.out)
          clear hcut
          rename World => w6
          by_cases hlets : LetsP L U rows g
          · have HL := Lib.hid hlets
            clear hlets
            go_wp2_with fail
            refine (lets_yes LA UA PA GA lc uc pc gn gc L U g kn rows _ HTV6.out HG6.out (by omega) HL.out).mono ?_
            rintro e w7 ⟨rfl, hb7⟩
            have HB7 := Lib.hid hb7
            clear hb7 t0 t1 t2
            have HLM := Lib.hid ((tab_lets HGS.out HKL.out (by rw [← HKN.out]; omega) HT.out).1 HL.out)
            have hgk : gn = kn := by
              have h1 := HL.out.2.1
              have h2 := HTV6.out.1.len
              have h3 := HGL2.out
              omega
            have HGK := Lib.hid hgk
            clear hgk
            go_wp2_with fail
            refine (repeatM_any w7.heap.size N 1 n1 (w7.alloc (.cells #[.int .u8 1] 30)) (blk1 w7 _)).mono ?_
            rintro e w8 ⟨rfl, hA8, hb8⟩
            have hb78 : Bel w7 w8 := ((Bel.refl w7).alloc _).on hb8
            have hs8 : w8.heap.size > (w7.alloc (.cells #[.int .u8 1] 30)).heap.size := hA8.lt
            obtain ⟨lg, hlg⟩ : ∃ lg, lg = (w7.alloc (.cells #[.int .u8 1] 30)).heap.size := ⟨_, rfl⟩
            have hlg7 : w7.heap.size ≤ lg := by rw [hlg]; simp
            rw [← hlg] at hA8 hs8 ⊢
            have HB8 := Lib.hid (HB7.out.on hb78)
            have HA8 := Lib.hid hA8
            have HLG := Lib.hid hlg7
            clear hlg hA8 hb78 hb8 hlg7
            go_wp2_with fail
            refine (cloneQ_any A len cap xs _ (HQ.out.bel (HB6.out.on HB8.out)) (by omega)).mono ?_
            rintro e w9 ⟨A9, c9, rfl, hO9, hb9⟩
            have HB9 := Lib.hid (HB8.out.on hb9)
            have HA9 := Lib.hid (HA8.out.bel hb9)
            have HO9 := Lib.hid (own_mono hO9 hs8)
            clear hO9 hb9 hs8
            go_wp2_with fail
            go_loopw [20, 97] (fun qv iv wr => ∃ j : Nat, j ≤ kn ∧ iv = .int .i64 (j : Int) ∧ ∃ A' c', qv = .slice A' (len + j) c' ∧ Hid (Bel w6 wr) ∧ Hid (Arr .u8 wr lg 30 (lowQ N kp g j)) ∧ Hid (wr.ownsRow (lg + 1) 34 4 (.slice A' (len + j) c') (len + j) (flatI (xs ++ (freeQ kp g).take j)))) (fun _ i _ => kn - (intOf i).toNat)
            case atStart => exact ⟨0, Nat.zero_le _, rfl, A9, c9, rfl, HB9, Lib.hid (by have := HA9.out; simpa [lowQ] using this), Lib.hid (by have := HO9.out; simpa using this)⟩
            case round =>
              obtain ⟨j, hj, rfl, A', c', rfl, HBr, HAr, HOr⟩ := hrel
              clear HA9 HO9 HB9
              by_cases hlt : j < kn
              · have hkj : kp[j]? = some kp[j] := List.getElem?_eq_getElem (by rw [← HKN.out]; exact hlt)
                obtain ⟨v, hv⟩ : ∃ v, v = kp[j] := ⟨_, rfl⟩
                rw [← hv] at hkj
                have hvN : v < N := HKL.out v (List.mem_of_getElem? hkj)
                obtain ⟨b, off, eA, hb, hc⟩ := (HK6.out.bel HBr.out).at_ (by omega)
                subst eA
                have c0 := hc j hlt
                rw [List.getElem?_map, hkj] at c0
                simp only [Option.map_some, Option.getD_some] at c0
                have hgn : j < gn := by rw [HGK.out]; exact hlt
                obtain ⟨bg, og, eA, hbg, hcg⟩ := HG6.out.at_ (by omega)
                subst eA
                have cg := (HBr.out.cell (p := ⟨bg, og + j, none⟩) hbg).trans (hcg j hgn)
                obtain ⟨gj, hgj⟩ : ∃ gj, gj = g[j]?.getD 0 := ⟨_, rfl⟩
                rw [← hgj] at cg
                have i1 : (0 : Int) ≤ (j : Int) := by omega
                have i2 : (j : Int) < (kn : Int) := by omega
                have i3 : (0 : Int) ≤ (v : Int) := by omega
                have i4 : (v : Int) < (N : Int) := by omega
                have i5 : (j : Int) < (gn : Int) := by omega
                have hsz6 : w6.heap.size ≤ lg := Nat.le_trans HB7.out.size HLG.out
                have hbgr : bg < wr.heap.size := by have := HAr.out.lt; omega
                have hlgr : lg + 1 ≤ wr.heap.size := HAr.out.lt
                have hbl : bg < lg := by omega
                have HKJ := Lib.hid hkj
                have HGJ := Lib.hid hgj
                have HVN := Lib.hid hvN
                clear hv hkj hc hcg hgj
                go_wp2_with fail
                go_region_law (first | (refine step_append_own rfl (.tmp 112) (.tmp 119) 37 rfl (lg + 1) 34 _ 4 32 Try.underlying37 info_ineq rfl (by decide) (by decide) A' (len + j) c' (flatI (xs ++ (freeQ kp g).take j)) (by simp [Act.eval]) (by exact HO2.out.alloc _) w2.heap.size [.int .i64 v, .int .u8 0, .int .u8 gj, .int .i64 (-1)] (by simp [Act.eval]) rfl (by exact four_at w2 _ _ _ _ _) (by simp [Value.oneCell']) (by omega) (by simp; omega) ?_; intro A5 c5 w5' hown5 hg5; (have hne : some bg ≠ (Value.slice A' (len + j) c').ownBlock := fun e => by have := (HO2.out.lt bg e.symm).1; omega); (have hnl : some lg ≠ (Value.slice A' (len + j) c').ownBlock := fun e => by have := (HO2.out.lt lg e.symm).1; omega); (have cg5 := ((far hg5 (b := bg) (by simp; omega) hne).1 (og + j)).trans (by exact (((Bel.refl w2).alloc _).cell (p := ⟨bg, og + j, none⟩) hbg2).trans cg2)); (have HA5 : Hid (Arr .u8 w5' lg 30 (lowQ N kp g j)) := Lib.hid ((hg5.block lg (by simp; omega) hnl).trans ((((Bel.refl w2).alloc _).block lg (by omega)).trans HA2.out))); (have HO5 := Lib.hid hown5); (have HG5' := Lib.hid hg5); (have cl5 := HA5.out.cell (j := v) (by rw [lowQ_len]; exact HVN.out)); (have cf5 := HA5.out.frozen v); clear hown5 hg5 hne hnl) | (refine step_call rfl 9 #[.int .i64 v, .int .u8 gj, .int .i64 (-1)] (by simp [go_sem]) ((eBelow_any v gj (-1) _).mono ?_); rintro e w2 ⟨rfl, hb2⟩; refine ⟨_, rfl, ?_⟩; (have hbr2 : Bel wr w2 := (Bel.refl wr).drew.on hb2); (have HB2 := Lib.hid hbr2); (have HO2 := Lib.hid (owns_bel HOr.out hbr2)); (have HA2 := Lib.hid (HAr.out.bel hbr2)); (have cg2 := (hbr2.cell (p := ⟨bg, og + j, none⟩) hbgr).trans cg); (have hbg2 : bg < w2.heap.size := by have := hbr2.size; omega); (have hlg2 : lg + 1 ≤ w2.heap.size := by have := hbr2.size; omega); clear hb2 hbr2))
                all_goals
                  obtain ⟨wz, hwz⟩ : ∃ wz, wz = w5'.setCell ⟨lg, v, none⟩ (.int .u8 gj) := ⟨_, rfl⟩
                  rw [← hwz]
                  have HBz : Hid (Bel w6 wz) := Lib.hid (by
                    rw [hwz]
                    refine Bel.set_ ?_ hsz6 _
                    have hg := HG5'.out
                    have hb2 := HBr.out.on HB2.out
                    refine ⟨hg.os.trans hb2.os, hg.tape.trans hb2.tape, hg.output.trans hb2.output, by have := hg.size; have := hb2.size; simp at *; omega, fun q hq => (hg.block q (by have := hb2.size; simp; omega) (fun e => ?_)).trans ((((Bel.refl w2).alloc _).block q (by have := hb2.size; omega)).trans (hb2.block q hq))⟩
                    have := (HO2.out.lt q e.symm).1
                    omega)
                  have HAz : Hid (Arr .u8 wz lg 30 (lowQ N kp g (j + 1))) := Lib.hid (by
                    rw [hwz, lowQ_succ, HKJ.out, Option.getD_some, ← HGJ.out]
                    exact HA5.out.set_ v gj)
                  have HOz : Hid (wz.ownsRow (lg + 1) 34 4 (.slice A5 (len + (j + 1)) c5) (len + (j + 1)) (flatI (xs ++ (freeQ kp g).take (j + 1)))) := Lib.hid (by
                    have h := HO5.out
                    have e : flatI (xs ++ (freeQ kp g).take (j + 1)) = flatI (xs ++ (freeQ kp g).take j) ++ [.int .i64 v, .int .u8 0, .int .u8 gj, .int .i64 (-1)] := by
                      rw [freeQ_take HKJ.out, ← HGJ.out, ← List.append_assoc]
                      simp [flatI, Iq.cells]
                    rw [e]
                    rw [hwz]
                    exact own_blk h fun x hx => heap_setCell_other _ _ x _ (fun e => by have := (h.lt x hx).1; simp at e; omega))
                  clear hwz HA5 HO5 HG5' cg5 cl5 cf5 cg2 c0 cg i1 i2 i3 i4 i5
                  go_wp2_with fail
                  go_roundw
                  case rel => exact ⟨j + 1, by omega, by go_num, _, _, rfl, HBz, HAz, HOz⟩
                  case measure => simp [intOf]; omega
              · obtain rfl : j = kn := by omega
                have hRL := Lib.hid (HAr.out.ri (n := N) (lowQ_len _ _ _ _).symm)
                have hRQ := Lib.hid (RQ.of_own HOr.out)
                rw [HKN.out, List.take_of_length_le (by rw [freeQ_len]; exact Nat.le_refl _)] at hRQ
                rw [HKN.out] at hRL
                obtain ⟨hmay, hsol⟩ := exact_solve n1 (by rw [← HKN.out, ← HQL.out]; omega) HM.out HGOOD.out HGS.out HND.out HKL.out HLM.out
                obtain ⟨T, ws, hT, hC⟩ := solve_good N (some ⟨lg, 0, none⟩) A' N N (len + j) c' (lowQ N kp g kp.length) (xs ++ freeQ kp g) (by rw [List.length_append, freeQ_len, ← HKN.out, ← HQL.out]) (lowQ_len _ _ _ _).symm hmay
                obtain ⟨hT1, hTa⟩ := hsol T hT
                have hTl := (hT.solves hT1).1
                have HC : Hid (Calls Try.prog 24 #[.int .i64 N, .slice (some ⟨lg, 0, none⟩) N N, .slice A' (len + j) c'] wr (SolvedPost N T.2.1 wr)) := Lib.hid (by
                  have h := hC wr hRL.out (by have := hRQ.out; rwa [HKN.out])
                  unfold SolvePost at h
                  rw [hT1] at h
                  exact h)
                obtain ⟨sv, hsv⟩ : ∃ sv, sv = T.2.1 := ⟨_, rfl⟩
                rw [← hsv] at HC hTa hTl
                have HTA := Lib.hid hTa
                have HTL := Lib.hid hTl
                clear hT hC hTa hTl hsv hT1 hsol hmay hRL hRQ
                go_wp2_with fail
                refine HC.out.mono ?_
                rintro e w10 ⟨ga, rfl, hAg, _, hb10⟩
                have HB10 := Lib.hid (HBr.out.on hb10)
                have HAG := Lib.hid hAg
                clear hAg hb10
                go_wp2_with fail
                go_loopw [135] (fun iv wx => ∃ p : Nat, p ≤ j ∧ iv = .int .i64 (p : Int) ∧ Hid (Bel w10 wx)) (fun i _ => j - (intOf i).toNat)
                case atStart => exact ⟨0, Nat.zero_le _, rfl, Lib.hid (Bel.refl _)⟩
                case round =>
                  obtain ⟨p, hp, rfl, HBx⟩ := hrel
                  by_cases hlt : p < j
                  · have hkj : kp[p]? = some kp[p] := List.getElem?_eq_getElem (by rw [← HKN.out]; exact hlt)
                    obtain ⟨v, hv⟩ : ∃ v, v = kp[p] := ⟨_, rfl⟩
                    rw [← hv] at hkj
                    have hvN : v < N := HKL.out v (List.mem_of_getElem? hkj)
                    obtain ⟨b, off, eA, hb, hc⟩ := (HK6.out.bel (HB10.out.on HBx.out)).at_ (by omega)
                    subst eA
                    have c0 := hc p hlt
                    rw [List.getElem?_map, hkj] at c0
                    simp only [Option.map_some, Option.getD_some] at c0
                    obtain ⟨bg, og, eA, hbg, hcg⟩ := (HG6.out.bel (HB10.out.on HBx.out)).at_ (by rw [HGK.out]; omega)
                    subst eA
                    have cg := hcg p (by rw [HGK.out]; exact hlt)
                    have cs := (HAG.out.bel HBx.out).cell (j := v) (by rw [HTL.out]; exact hvN)
                    rw [HTA.out p v hkj] at cs
                    obtain ⟨gj, hgj⟩ : ∃ gj, gj = g[p]?.getD 0 := ⟨_, rfl⟩
                    rw [← hgj] at cg cs
                    have i1 : (0 : Int) ≤ (p : Int) := by omega
                    have i2 : (p : Int) < (j : Int) := by omega
                    have i3 : (0 : Int) ≤ (v : Int) := by omega
                    have i4 : (v : Int) < (N : Int) := by omega
                    have i5 : (p : Int) < (gn : Int) := by rw [HGK.out]; omega
                    clear hv hkj hc hcg hgj
                    go_wp2_with fail
                    go_region_law (fail)
                    all_goals
                      go_wp2_with fail
                      go_roundw
                      case rel => exact ⟨p + 1, by omega, by go_num, Lib.hid HBx.out.drew⟩
                      case measure => simp [intOf]; omega
                  · obtain rfl : p = j := by omega
                    go_wp2_with fail
                    refine (works5_any _).mono ?_
                    rintro e w11 ⟨rfl, hb11⟩
                    have HB := Lib.hid (HB6.out.on (HB10.out.on (HBx.out.on hb11)))
                    clear hb11
                    go_wp2_with fail
                    go_ret
                    exact ⟨rfl, HB.out⟩
          · have HL := Lib.hid hlets
            clear hlets
            go_wp2_with fail
            refine (lets_no LA UA PA GA lc uc pc gn gc L U g kn rows _ HTV6.out HG6.out (by omega) HL.out).mono ?_
            rintro e w7 ⟨rfl, hb7⟩
            have HB7 := Lib.hid hb7
            clear hb7 t0 t1 t2
            go_wp2_with fail
            refine (works5_any _).mono ?_
            rintro e w8 ⟨rfl, hb8⟩
            have HB := Lib.hid (HB6.out.on (HB7.out.on hb8))
            clear hb8
            go_wp2_with fail
            go_ret
            exact ⟨rfl, HB.out⟩
end Go.Proofs.Ytlbachjhhjjmfaa.Mu

