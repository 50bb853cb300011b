/-
  The statement IneqOrder: walked; what the listed tables hold is a premise.
-/
import Derived.Test.YteegoecanbonoaaDoorIneqX
import Derived.Test.YteegoecanbonoaaDoorIneqMath
namespace Go.Proofs.YteegoecanbonoaaDoor.Mu
open Go.ChangeShapes Go.WideShapes Go.ChangeAt Go.RowKit

def okF (nv : Bool) (c : Int) (l : List Int) (g v m : Int) : Bool := mayB nv c l && isMultB g && isB v m
theorem fits_ok {nv : Bool} {c : Int} {l : List Int} {g v m : Int} (h : okF nv c l g v m = true) (A : Option Addr) (n k : Nat) (w : World) (hr : RI .i64 w w.heap.size A n l) (hmax : n ≤ 10000) :
    Calls Tryd.prog 38 #[.agg #[.bool nv, .int .u8 c, .slice A n k], .int .u8 g, .agg #[.int .i64 v, .int .u8 m]] w (GivesQ (fitsL nv c l g v m) 0 w) := by
  unfold okF at h
  simp only [Bool.and_eq_true] at h
  exact fits_yes nv c A n k l g v m w hr hmax h.1.1 h.1.2 h.2

set_option maxRecDepth 100000 in
set_option maxHeartbeats 4000000 in
theorem ineqOrder_any (nv : Bool) (c : Int) (A : Option Addr) (n k : Nat) (l : List Int) (g h v m : Int) (G : Option Addr) (gn gc : Nat) (av : List Int) (w : World) (hr : RI .i64 w w.heap.size A n l) (hn : n ≤ 9223372036854775807) (hg : RI .u8 w w.heap.size G gn av) (hgm : gn ≤ 9223372036854775807) (ht : Tabs w) :
    Calls Tryd.prog 10 #[.agg #[.bool nv, .int .u8 c, .slice A n k], .int .u8 g, .int .u8 h, .agg #[.int .i64 v, .int .u8 m], .slice G gn gc] w fun e w' => e = .returned (.bool true) ∧ Bel w w' := by
  have HR := Lib.hid hr
  have HG := Lib.hid hg
  have HT := Lib.hid ht
  clear hr hg ht
  by_cases hbig : 5000 < n
  · go_enter Tryd.func10, Tryd.ntmps10
    go_wp2_with fail
    refine (works3_any _ (HT.out.bel (((Bel.refl _).alloc _).alloc _))).mono ?_
    rintro e w1 ⟨rfl, hb1⟩
    have HB1 : Hid (Bel w w1) := Lib.hid ((((Bel.refl w).alloc _).alloc _).on hb1)
    clear hb1
    go_wp2_with fail
    go_ret
    exact ⟨rfl, HB1.out⟩
  · have hsm : n ≤ 5000 := by omega
    clear hbig
    obtain ⟨gh, hgh⟩ : ∃ x, max g h = x := ⟨_, rfl⟩
    have HF : Hid (∀ W, RI .i64 W W.heap.size A n l → Calls Tryd.prog 38 #[.agg #[.bool nv, .int .u8 c, .slice A n k], .int .u8 g, .agg #[.int .i64 v, .int .u8 m]] W (GivesQ (if okF nv c l g v m then fitsL nv c l g v m else []) (if okF nv c l g v m then 0 else 2) W)) := Lib.hid fun W hW => by
      cases ho : okF nv c l g v m
      · exact fits_no nv c A n k l g v m W hW (by omega) ho
      · exact fits_ok ho A n k W hW (by omega)
    have HF2 : Hid (∀ W, RI .i64 W W.heap.size A n l → Calls Tryd.prog 38 #[.agg #[.bool nv, .int .u8 c, .slice A n k], .int .u8 gh, .agg #[.int .i64 v, .int .u8 m]] W (GivesQ (if okF nv c l gh v m then fitsL nv c l gh v m else []) (if okF nv c l gh v m then 0 else 2) W)) := Lib.hid fun W hW => by
      cases ho : okF nv c l gh v m
      · exact fits_no nv c A n k l gh v m W hW (by omega) ho
      · exact fits_ok ho A n k W hW (by omega)
    obtain ⟨xa, hxa⟩ : ∃ x, (if okF nv c l g v m then fitsL nv c l g v m else []) = x := ⟨_, rfl⟩
    obtain ⟨ea, hea⟩ : ∃ x, (if okF nv c l g v m then (0 : Int) else 2) = x := ⟨_, rfl⟩
    obtain ⟨xb, hxb⟩ : ∃ x, (if okF nv c l gh v m then fitsL nv c l gh v m else []) = x := ⟨_, rfl⟩
    obtain ⟨eb, heb⟩ : ∃ x, (if okF nv c l gh v m then (0 : Int) else 2) = x := ⟨_, rfl⟩
    rw [hxa, hea] at HF
    rw [hxb, heb] at HF2
    have HA1 : Hid (ea = 0 → okF nv c l g v m = true ∧ xa = fitsL nv c l g v m) := Lib.hid (by
      intro h0
      rw [h0] at hea
      cases ho : okF nv c l g v m with
      | false => rw [ho] at hea; simp at hea
      | true => rw [ho] at hxa; exact ⟨rfl, hxa.symm⟩)
    have HA2 : Hid (eb = 0 → okF nv c l gh v m = true ∧ xb = fitsL nv c l gh v m) := Lib.hid (by
      intro h0
      rw [h0] at heb
      cases ho : okF nv c l gh v m with
      | false => rw [ho] at heb; simp at heb
      | true => rw [ho] at hxb; exact ⟨rfl, hxb.symm⟩)
    have HLN : Hid (l.length ≤ 5000) := Lib.hid (by rw [← HR.out.len]; exact hsm)
    have HLA : Hid (xa.length ≤ 10000) := Lib.hid (by
      rw [← hxa]; split
      · have h1 := eachL_len (leastC nv c) (leastL nv l) (max g m) (bndF v m)
        have h2 := leastL_len nv l
        have h3 := HLN.out
        unfold fitsL; omega
      · simp)
    have HLB : Hid (xb.length ≤ 10000) := Lib.hid (by
      rw [← hxb]; split
      · have h1 := eachL_len (leastC nv c) (leastL nv l) (max gh m) (bndF v m)
        have h2 := leastL_len nv l
        have h3 := HLN.out
        unfold fitsL; omega
      · simp)
    have HO : Hid (ea = 0 → eb = 0 → holdsE av xa = 0 → holdsE av xb = 0 ∧ (0 ≤ holdsN av xa ∨ holdsN av xb < 0) ∧ xb.length ≤ xa.length) := Lib.hid (by
      intro h1 h2 h3
      obtain ⟨o1, e1⟩ := HA1.out h1
      obtain ⟨o2, e2⟩ := HA2.out h2
      unfold okF at o1 o2
      simp only [Bool.and_eq_true] at o1 o2
      rw [← hgh] at o2 e2
      rw [e1] at h3 ⊢
      rw [e2]
      obtain ⟨p, q⟩ := order o1.1.1 o1.1.2 o2.1.2 o1.2 h3
      exact ⟨p, q, order_len o2.1.2 o1.2⟩)
    clear hxa hea hxb heb HA1 HA2
    go_enter Tryd.func10, Tryd.ntmps10
    go_wp2_with fail
    refine (HF.out _ ((HR.out.alloc _).alloc _)).mono ?_
    rintro e w1 ⟨Aa, na, ka, rfl, hqa, hb1⟩
    have HQA := Lib.hid hqa
    have HB1 : Hid (Bel w w1) := Lib.hid ((((Bel.refl w).alloc _).alloc _).on hb1)
    obtain ⟨a0, a1, a2, _, _, _⟩ := cells3 (hb1.blk (blk2 w _ _).1)
    obtain ⟨d0, d1⟩ := cells2 (hb1.blk (blk2 w _ _).2)
    clear hqa hb1
    go_wp2_with fail
    refine (HF2.out _ (HR.out.bel HB1.out)).mono ?_
    rintro e w2 ⟨Ab, nb, kb, rfl, hqb, hb2⟩
    have HQB := Lib.hid hqb
    have HB2 := Lib.hid (HB1.out.on hb2)
    have HQA2 := Lib.hid (HQA.out.bel hb2)
    clear hqb hb2 a0 a1 a2 d0 d1 hgh
    by_cases ha : ea = 0
    case neg =>
      have hz1 : (ea != 0) = true := by simpa using ha
      clear ha
      go_wp2_with fail
      refine (works3_any _ (HT.out.bel HB2.out)).mono ?_
      rintro e w3 ⟨rfl, hb3⟩
      have HB3 := Lib.hid (HB2.out.on hb3)
      clear hb3
      go_wp2_with fail
      go_ret
      exact ⟨rfl, HB3.out⟩
    case pos =>
      subst ha
      by_cases hb : eb = 0
      case neg =>
        have hz1 : (eb != 0) = true := by simpa using hb
        clear hb
        go_wp2_with fail
        refine (works3_any _ (HT.out.bel HB2.out)).mono ?_
        rintro e w3 ⟨rfl, hb3⟩
        have HB3 := Lib.hid (HB2.out.on hb3)
        clear hb3
        go_wp2_with fail
        go_ret
        exact ⟨rfl, HB3.out⟩
      case pos =>
        subst hb
        obtain ⟨n1, hn1⟩ : ∃ x, holdsN av xa = x := ⟨_, rfl⟩
        obtain ⟨e1, he1⟩ : ∃ x, holdsE av xa = x := ⟨_, rfl⟩
        obtain ⟨n2, hn2⟩ : ∃ x, holdsN av xb = x := ⟨_, rfl⟩
        obtain ⟨e2, he2⟩ : ∃ x, holdsE av xb = x := ⟨_, rfl⟩
        have HH1 := Lib.hid (holds_any Aa na ka xa G gn gc av w2 HQA2.out (by have := HQA2.out.len; have := HLA.out; omega) (HG.out.bel HB2.out) hgm)
        rw [hn1, he1] at HH1
        have HO2 : Hid (e1 = 0 → e2 = 0 ∧ (0 ≤ n1 ∨ n2 < 0) ∧ nb ≤ na) := Lib.hid (by
          intro h0
          rw [← he1] at h0
          have h1 := HO.out rfl rfl h0
          rw [hn1, hn2, he2] at h1
          have q1 := HQA.out.len
          have q2 := HQB.out.len
          exact ⟨h1.1, h1.2.1, by omega⟩)
        have HN2 := Lib.hid hn2
        have HE2 := Lib.hid he2
        clear hn1 he1 hn2 he2
        go_wp2_with fail
        refine HH1.out.mono ?_
        rintro e w3 ⟨rfl, hb3⟩
        have HB3 := Lib.hid (HB2.out.on hb3)
        have HQB3 := Lib.hid (HQB.out.bel hb3)
        clear hb3
        by_cases h1 : e1 = 0
        case neg =>
          have hz1 : (e1 != 0) = true := by simpa using h1
          clear h1
          go_wp2_with fail
          refine (works3_any _ (HT.out.bel HB3.out)).mono ?_
          rintro e w4 ⟨rfl, hb4⟩
          have HB4 := Lib.hid (HB3.out.on hb4)
          clear hb4
          go_wp2_with fail
          go_ret
          exact ⟨rfl, HB4.out⟩
        case pos =>
          subst h1
          obtain ⟨h2, h3, h4⟩ := HO2.out rfl
          subst h2
          have HH2 := Lib.hid (holds_any Ab nb kb xb G gn gc av w3 HQB3.out (by have := HQB3.out.len; have := HLB.out; omega) (HG.out.bel HB3.out) hgm)
          rw [HN2.out, HE2.out] at HH2
          go_wp2_with fail
          refine HH2.out.mono ?_
          rintro e w4 ⟨rfl, hb4⟩
          have HB4 := Lib.hid (HB3.out.on hb4)
          clear hb4
          by_cases h5 : 0 ≤ n1
          case' pos => clear h3
          case' neg => replace h3 : n2 < 0 := by omega
          all_goals
            go_wp2_with fail
            refine (works3_any _ (HT.out.bel HB4.out)).mono ?_
            rintro e w5 ⟨rfl, hb5⟩
            have HB5 := Lib.hid (HB4.out.on hb5)
            clear hb5
            go_wp2_with fail
            go_ret
            exact ⟨rfl, HB5.out⟩
end Go.Proofs.YteegoecanbonoaaDoor.Mu
