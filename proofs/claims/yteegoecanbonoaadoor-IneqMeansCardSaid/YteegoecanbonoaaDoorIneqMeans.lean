/-
  The statement IneqMeans: walked; what the listed tables hold is a premise.
-/
import Derived.Test.YteegoecanbonoaaDoorIneqOrder
namespace Go.Proofs.YteegoecanbonoaaDoor.Mu
open Go.ChangeShapes Go.WideShapes Go.ChangeAt Go.RowKit

theorem atR_bd {nv : Bool} {c : Int} {l av : List Int} (ht : mayB nv c l = true) (ha : l.all (okV av) = true) : 0 ≤ atR nv c l av ∧ atR nv c l av ≤ 3 := by
  unfold atR
  rw [ht, ha]
  cases nv with
  | true => simp
  | false =>
    obtain ⟨k1, k3⟩ := mayB_c ht
    obtain ⟨a1, a3⟩ := atV_bd k1 k3 ha
    simp only [Bool.and_self, Bool.not_false, if_true]; omega
theorem atE_ok {nv : Bool} {c : Int} {l av : List Int} (h : atE nv c l av = 0) : mayB nv c l = true ∧ l.all (okV av) = true := by
  unfold atE at h
  cases h1 : mayB nv c l with
  | false => rw [h1] at h; simp at h
  | true =>
    rw [h1] at h
    cases h2 : l.all (okV av) with
    | false => rw [h2] at h; simp at h
    | true => exact ⟨rfl, rfl⟩

set_option maxRecDepth 100000 in
set_option maxHeartbeats 4000000 in
theorem ineqMeans_any (nv : Bool) (c : Int) (A : Option Addr) (n k : Nat) (l : List Int) (g v m : Int) (G : Option Addr) (gn gc : Nat) (av : List Int) (w : World) (hr : RI .i64 w w.heap.size A n l) (hn : n ≤ 9223372036854775807) (hg : RI .u8 w w.heap.size G gn av) (hgm : gn ≤ 9223372036854775807) (hg0 : 0 ≤ g) (hg1 : g ≤ 255) (hm0 : 0 ≤ m) (hm1 : m ≤ 255) (ht : Tabs w) :
    Calls Tryd.prog 9 #[.agg #[.bool nv, .int .u8 c, .slice A n k], .int .u8 g, .agg #[.int .i64 v, .int .u8 m], .slice G gn gc] w fun e w' => e = .returned (.bool true) ∧ Bel w w' := by
  have HR := Lib.hid hr
  have HG := Lib.hid hg
  have HT := Lib.hid ht
  clear hr hg ht
  by_cases hbig : 5000 < n
  · go_enter Tryd.func9, Tryd.ntmps9
    go_wp2_with fail
    refine (works3_any _ (HT.out.bel (((Bel.refl _).alloc _).alloc _))).mono ?_
    rintro e w1 ⟨rfl, hb1⟩
    have HB1 : Hid (Bel w w1) := Lib.hid ((((Bel.refl w).alloc _).alloc _).on hb1)
    clear hb1
    go_wp2_with fail
    go_ret
    exact ⟨rfl, HB1.out⟩
  · have hsm : n ≤ 5000 := by omega
    clear hbig
    have HF : Hid (∀ W, RI .i64 W W.heap.size A n l → Calls Tryd.prog 38 #[.agg #[.bool nv, .int .u8 c, .slice A n k], .int .u8 g, .agg #[.int .i64 v, .int .u8 m]] W (GivesQ (if okF nv c l g v m then fitsL nv c l g v m else []) (if okF nv c l g v m then 0 else 2) W)) := Lib.hid fun W hW => by
      cases ho : okF nv c l g v m
      · exact fits_no nv c A n k l g v m W hW (by omega) ho
      · exact fits_ok ho A n k W hW (by omega)
    obtain ⟨xa, hxa⟩ : ∃ x, (if okF nv c l g v m then fitsL nv c l g v m else []) = x := ⟨_, rfl⟩
    obtain ⟨ea, hea⟩ : ∃ x, (if okF nv c l g v m then (0 : Int) else 2) = x := ⟨_, rfl⟩
    rw [hxa, hea] at HF
    have HA1 : Hid (ea = 0 → okF nv c l g v m = true ∧ xa = fitsL nv c l g v m) := Lib.hid (by
      intro h0
      rw [h0] at hea
      cases ho : okF nv c l g v m with
      | false => rw [ho] at hea; simp at hea
      | true => rw [ho] at hxa; exact ⟨rfl, hxa.symm⟩)
    have HLN : Hid (l.length ≤ 5000) := Lib.hid (by rw [← HR.out.len]; exact hsm)
    have HLA : Hid (xa.length ≤ 10000) := Lib.hid (by
      rw [← hxa]; split
      · have h1 := eachL_len (leastC nv c) (leastL nv l) (max g m) (bndF v m)
        have h2 := leastL_len nv l
        have h3 := HLN.out
        unfold fitsL; omega
      · simp)
    obtain ⟨u, hu⟩ : ∃ x, atR nv c l av = x := ⟨_, rfl⟩
    obtain ⟨f, hf⟩ : ∃ x, atE nv c l av = x := ⟨_, rfl⟩
    have HAT : Hid (∀ W, RI .i64 W W.heap.size A n l → RI .u8 W W.heap.size G gn av → Calls Tryd.prog 41 #[.agg #[.bool nv, .int .u8 c, .slice A n k], .slice G gn gc] W (Tells2 u f W)) := Lib.hid fun W h1 h2 => by
      have h := at_any nv c A G n k gn gc l av W h1 h2 (by omega) hgm
      rw [hu, hf] at h; exact h
    obtain ⟨bb, hbb⟩ : ∃ x, boundF v m av = x := ⟨_, rfl⟩
    have HBB := Lib.hid hbb
    have HM : Hid (ea = 0 → f = 0 → 1 ≤ bb → bb ≤ 3 → holdsE av xa = 0 ∧ decide (holdsN av xa < 0) = fitsF u (max g bb) ∧ 0 ≤ u ∧ u ≤ 3) := Lib.hid (by
      intro h1 h2 h3 h4
      obtain ⟨o1, e1⟩ := HA1.out h1
      unfold okF at o1
      simp only [Bool.and_eq_true] at o1
      rw [← hf] at h2
      obtain ⟨p, q⟩ := atE_ok h2
      rw [← hbb] at h3 h4 ⊢
      rw [e1, ← hu]
      have hbd := atR_bd p q
      exact ⟨(means p q o1.1.2 o1.2 h3 h4).1, (means p q o1.1.2 o1.2 h3 h4).2, hbd⟩)
    have HGL := Lib.hid HG.out.len
    clear hxa hea HA1 hu hf hbb
    go_enter Tryd.func9, Tryd.ntmps9
    go_wp2_with fail
    refine (HF.out _ ((HR.out.alloc _).alloc _)).mono ?_
    rintro e w1 ⟨Aa, na, ka, rfl, hqa, hb1⟩
    have HQA := Lib.hid hqa
    have HB1 : Hid (Bel w w1) := Lib.hid ((((Bel.refl w).alloc _).alloc _).on hb1)
    have HK1 := Lib.hid (hb1.blk (blk2 w _ _).2)
    obtain ⟨a0, a1, a2, _, _, _⟩ := cells3 (hb1.blk (blk2 w _ _).1)
    clear hqa hb1
    go_wp2_with fail
    refine (HAT.out _ (HR.out.bel HB1.out) (HG.out.bel HB1.out)).mono ?_
    rintro e w2 ⟨rfl, hb2⟩
    have HB2 := Lib.hid (HB1.out.on hb2)
    have HQA2 := Lib.hid (HQA.out.bel hb2)
    obtain ⟨d0, d1⟩ := cells2 (hb2.blk HK1.out)
    clear hb2 a0 a1 a2
    -- the bound as it is there
    have hcase : (m = 0 ∧ 0 ≤ v ∧ v < (gn : Int)) ∨ (m = 0 ∧ v < 0) ∨ (m = 0 ∧ 0 ≤ v ∧ (gn : Int) ≤ v) ∨ ¬ m = 0 := by omega
    rcases hcase with ⟨hm, hv0, hv1⟩ | ⟨hm, hv0⟩ | ⟨hm, hv0, hv1⟩ | hm
    case' inl =>
      subst hm
      obtain ⟨b, off, eG, hb, hc⟩ := (HG.out.bel HB2.out).at_ (by omega)
      subst eG
      have hcell := hc v.toNat (by omega)
      have e : boundF v 0 av = av[v.toNat]?.getD 0 := by unfold boundF; rw [if_pos ⟨rfl, hv0, by have := HGL.out; omega⟩]
      rw [← e, HBB.out] at hcell
      clear hc e
    case' inr.inl =>
      subst hm
      obtain rfl : bb = 0 := by have e := HBB.out; unfold boundF at e; rw [if_neg (by omega)] at e; exact e.symm
    case' inr.inr.inl =>
      subst hm
      obtain rfl : bb = 0 := by have e := HBB.out; unfold boundF at e; rw [if_neg (by have := HGL.out; omega)] at e; exact e.symm
      have hd : decide (v < (gn : Int)) = false := decide_eq_false (by omega)
    case' inr.inr.inr =>
      obtain rfl : bb = m := by have e := HBB.out; unfold boundF at e; rw [if_neg (by omega)] at e; exact e.symm
      have hz0 : (bb == 0) = false := by simpa using hm
    all_goals go_wp2_with fail
    all_goals first
    | (refine (works3_any _ (HT.out.bel HB2.out)).mono ?_
       rintro e w3 ⟨rfl, hb3⟩
       have HB3 := Lib.hid (HB2.out.on hb3)
       clear hb3
       go_wp2_with fail
       go_ret
       exact ⟨rfl, HB3.out⟩)
    | (obtain ⟨q1, q2, q3, q4⟩ := HM.out (by assumption) (by assumption) (by omega) (by omega)
       have HH1 := Lib.hid (holds_any Aa na ka xa _ gn gc av w2 HQA2.out (by have := HQA2.out.len; have := HLA.out; omega) (HG.out.bel HB2.out) hgm)
       obtain ⟨n1, hn1⟩ : ∃ x, holdsN av xa = x := ⟨_, rfl⟩
       rw [hn1, q1] at HH1
       rw [hn1] at q2
       clear hn1 q1
       by_cases h5 : n1 < 0
       case' pos =>
         rw [decide_eq_true h5] at q2
         have hd5 : decide (n1 < 0) = true := decide_eq_true h5
       case' neg =>
         rw [decide_eq_false h5] at q2
         have hd5 : decide (n1 < 0) = false := decide_eq_false h5
       all_goals
         have HFT : Hid (∀ W, Calls Tryd.prog 42 #[.int .u8 u, .int .u8 (max g bb)] W fun e w' => e = .returned (.bool _) ∧ W = w') := Lib.hid fun W => by
           have h := fits_any u (max g bb) (by omega) (by omega) W
           rw [← q2] at h; exact h
         clear q2
         go_wp2_with fail
         refine HH1.out.mono ?_
         rintro e w3 ⟨rfl, hb3⟩
         have HB3 := Lib.hid (HB2.out.on hb3)
         clear hb3
         go_wp2_with fail
         refine (HFT.out _).mono ?_
         rintro e w' ⟨rfl, rfl⟩
         go_wp2_with fail
         all_goals first
         | (exfalso; omega)
         | skip
         refine (works3_any _ (HT.out.bel HB3.out)).mono ?_
         rintro e w5 ⟨rfl, hb5⟩
         have HB5 := Lib.hid (HB3.out.on hb5)
         clear hb5
         go_wp2_with fail
         go_ret
         exact ⟨rfl, HB5.out⟩)
end Go.Proofs.YteegoecanbonoaaDoor.Mu
