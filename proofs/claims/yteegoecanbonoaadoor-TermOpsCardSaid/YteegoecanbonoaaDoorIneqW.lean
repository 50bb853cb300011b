/-
  The statements' own words of layer 3: the texts of what must hold, and the first question.
-/
import Derived.Test.YteegoecanbonoaaDoorIneqH
namespace Go.Proofs.YteegoecanbonoaaDoor.Mu
open Go.ChangeShapes Go.WideShapes Go.ChangeAt Go.RowKit

theorem mayB_all {nv : Bool} {c : Int} {l : List Int} (h : mayB nv c l = true) : ∀ v ∈ l, 0 ≤ v ∧ v < 1048576 := by
  intro v hv
  obtain ⟨i, hi⟩ := List.mem_iff_getElem?.1 hv
  exact var_bd (mayB_vars h) hi
theorem leastC_bd {nv : Bool} {c : Int} {l : List Int} (h : mayB nv c l = true) : 1 ≤ leastC nv c ∧ leastC nv c ≤ 3 := by
  unfold leastC; cases nv
  · simpa using mayB_c h
  · simp
theorem isMultB_bd {g : Int} (h : isMultB g = true) : 1 ≤ g ∧ g ≤ 3 := by unfold isMultB at h; simpa using h
theorem isMultB_mk {g : Int} (h1 : 1 ≤ g) (h3 : g ≤ 3) : isMultB g = true := by unfold isMultB; simp [h1, h3]
theorem isB_var {v : Int} (h0 : 0 ≤ v) (h1 : v < 1048576) : isB v 0 = true := by unfold isB isVarB; simp [h0, h1]
theorem isB_mult {c : Int} (h0 : 1 ≤ c) (h1 : c ≤ 3) : isB 0 c = true := by unfold isB isMultB; simp [h0, h1]
theorem max_bd {g v m : Int} (hg : isMultB g = true) (hm : isB v m = true) : isMultB (max g m) = true := by
  obtain ⟨a, b⟩ := isMultB_bd hg
  rcases isB_parts hm with ⟨p, q, r⟩ | ⟨p, q, r⟩ <;> exact isMultB_mk (by omega) (by omega)
theorem bnd_bd {v m : Int} (hm : isB v m = true) : -1 ≤ bndF v m ∧ bndF v m < 1048576 := by
  unfold bndF
  rcases isB_parts hm with ⟨p, q, r⟩ | ⟨p, q, r⟩
  · rw [if_pos p]; omega
  · rw [if_neg (by omega)]; omega
theorem lay_may {v m b r : Int} (hi : isB v m = true) (hb : isMultB b = true) (h0 : -1 ≤ r) (h1 : r < 1048576) : (layL v m b r).all Iq.may = true := by
  unfold layL; split
  · rfl
  · simp [Iq.may, mayI, hi, hb, h0, h1]
theorem fits_may {nv : Bool} {c : Int} {l : List Int} {g v m : Int} (ht : mayB nv c l = true) (hg : isMultB g = true) (hm : isB v m = true) : (fitsL nv c l g v m).all Iq.may = true := by
  obtain ⟨c1, c3⟩ := leastC_bd ht
  obtain ⟨r0, r1⟩ := bnd_bd hm
  have hb := max_bd hg hm
  unfold fitsL eachL
  rw [List.all_append, lay_may (isB_mult c1 c3) hb r0 r1, Bool.true_and, List.all_eq_true]
  intro x hx
  obtain ⟨u, hu, hx⟩ := List.mem_flatMap.1 hx
  have hu' : u ∈ l := by unfold leastL at hu; cases nv <;> simp_all
  obtain ⟨u0, u1⟩ := mayB_all ht u hu'
  exact List.all_eq_true.1 (lay_may (isB_var u0 u1) hb r0 r1) x hx

def Iq.text (x : Iq) : List UInt8 := textI x.v x.m x.c x.r
/-- A slice value reads as a list of strings. -/
def RS (w : World) (B : Nat) (A : Option Addr) (n : Nat) (ts : List (List UInt8)) : Prop :=
  n = ts.length ∧ (0 < n → ∃ b off, A = some ⟨b, off, none⟩ ∧ b < B ∧ ∀ (j : Nat) (s : List UInt8), ts[j]? = some s → w.cell? ⟨b, off + j, none⟩ = some (.string ⟨s.toArray⟩))
theorem RS.nil_ {w : World} {B : Nat} {A : Option Addr} : RS w B A 0 [] := ⟨rfl, fun h => absurd h (by omega)⟩
theorem RS.bel {w w' : World} {A : Option Addr} {n : Nat} {ts : List (List UInt8)} (h : RS w w.heap.size A n ts) (hb : Bel w w') : RS w' w'.heap.size A n ts :=
  ⟨h.1, fun hn => by
    obtain ⟨b, off, e, hbb, hc⟩ := h.2 hn
    exact ⟨b, off, e, Nat.lt_of_lt_of_le hbb hb.size, fun j s hs => (hb.cell (p := ⟨b, off + j, none⟩) hbb).trans (hc j s hs)⟩⟩
theorem RS.of_own {w : World} {base e n c : Nat} {A : Option Addr} {ts : List (List UInt8)} (h : w.ownsRow base e 1 (.slice A n c) n (strs ts)) : RS w w.heap.size A n ts := by
  have hl : n = ts.length := by have h1 := h.1; rw [strs_len] at h1; omega
  refine ⟨hl, fun hn => ?_⟩
  obtain ⟨g, rfl, hg, _, _, hc⟩ := strs_reads h (by intro e; rw [e] at hl; simp at hl; omega)
  exact ⟨g, 0, rfl, hg, fun j s hs => hc j ⟨s.toArray⟩ (by simp [List.getElem?_map, hs])⟩
def GivesS (ts : List (List UInt8)) (x : Int) (w : World) (e : Ending) (w' : World) : Prop :=
  ∃ A n k, e = .returned (.tuple #[.slice A n k, .int .i64 x]) ∧ RS w' w'.heap.size A n ts ∧ Bel w w'

set_option maxRecDepth 100000 in
set_option maxHeartbeats 2000000 in
theorem below_any (nv : Bool) (c : Int) (A : Option Addr) (n k : Nat) (l : List Int) (g v m : Int) (w : World) (hr : RI .i64 w w.heap.size A n l) (hmax : n ≤ 10000) (ht : mayB nv c l = true) (hg : isMultB g = true) (hm : isB v m = true) (hT : Tabs w) :
    Calls Tryd.prog 29 #[.agg #[.bool nv, .int .u8 c, .slice A n k], .int .u8 g, .agg #[.int .i64 v, .int .u8 m]] w (GivesS ((fitsL nv c l g v m).map Iq.text) 0 w) := by
  obtain ⟨xs, hxs⟩ : ∃ xs, fitsL nv c l g v m = xs := ⟨_, rfl⟩
  have HXM : Hid (xs.all Iq.may = true) := Lib.hid (by rw [← hxs]; exact fits_may ht hg hm)
  have HXL : Hid (xs.length ≤ 20000) := Lib.hid (by
    rw [← hxs]; unfold fitsL
    have h1 := eachL_len (leastC nv c) (leastL nv l) (max g m) (bndF v m)
    have h2 := leastL_len nv l
    have h3 := hr.len
    omega)
  have HF : Hid (∀ W, Bel w W → Calls Tryd.prog 38 #[.agg #[.bool nv, .int .u8 c, .slice A n k], .int .u8 g, .agg #[.int .i64 v, .int .u8 m]] W (GivesQ xs 0 W)) := Lib.hid fun W hW => by
    have h := fits_yes nv c A n k l g v m W (hr.bel hW) hmax ht hg hm
    rw [hxs] at h; exact h
  have HT := Lib.hid hT
  rw [hxs]
  clear hr ht hg hm hT hxs
  go_enter Tryd.func29, Tryd.ntmps29
  go_wp2_with fail
  refine (HF.out _ (((Bel.refl w).alloc _).alloc _)).mono ?_
  rintro e w1 ⟨A1, n1, k1, rfl, hq1, hb1⟩
  have HQ := Lib.hid hq1
  have HL := Lib.hid hq1.len
  have HB1 : Hid (Bel w w1) := Lib.hid ((((Bel.refl w).alloc _).alloc _).on hb1)
  have hn1 : n1 ≤ 20000 := by rw [hq1.len]; exact HXL.out
  clear hq1 hb1
  go_wp2_with fail
  go_loopw [10, 22] (fun sv si wr => ∃ (j mv cv : Nat) (V : Option Addr), j ≤ n1 ∧ si = .int .i64 j ∧ sv = .slice V mv cv ∧ Hid (wr.ownsRow w1.heap.size 9 1 (.slice V mv cv) mv (strs ((xs.take j).map Iq.text))) ∧ Hid (Bel w1 wr)) (fun _ i _ => n1 - (intOf i).toNat)
  case atStart => exact ⟨0, 0, 0, none, Nat.zero_le _, rfl, rfl, Lib.hid (World.ownsRow_nil _ _ _ _), Lib.hid (Bel.refl _)⟩
  case round =>
    obtain ⟨j, mv, cv, V, hj, rfl, rfl, HOW, HB⟩ := hrel
    by_cases hlt : j < n1
    · obtain ⟨b, off, eA, hb, hc⟩ := (HQ.out.bel HB.out).at_ (by omega)
      subst eA
      obtain ⟨x, hxk⟩ : ∃ x, xs[j]? = some x := ⟨_, List.getElem?_eq_getElem (by rw [← HL.out]; exact hlt)⟩
      obtain ⟨c0, c1, c2, c3⟩ := hc j x hxk
      have HK := Lib.hid hxk
      have HMX := Lib.hid (List.all_eq_true.1 HXM.out x (List.mem_of_getElem? hxk))
      have HTX : Hid (∀ W, Tabs W → Calls Tryd.prog 32 #[.agg #[.int .i64 x.v, .int .u8 x.m, .int .u8 x.c, .int .i64 x.r]] W fun e w' => e = .returned (.string ⟨x.text.toArray⟩) ∧ Bel W w') := Lib.hid fun W hW => by
        have h := HMX.out
        unfold Iq.may mayI at h
        simp only [Bool.and_eq_true, decide_eq_true_eq] at h
        have hc' := isMultB_bd h.1.1.2
        exact itext_any x.v x.m x.c x.r h.1.1.1 (by omega) (by omega) h.1.2 h.2 W hW
      have HMV : Hid (mv ≤ n1) := Lib.hid (by
        have h1 := HOW.out.1
        rw [strs_len] at h1
        simp at h1
        omega)
      have HW1 : Hid (w1.heap.size ≤ wr.heap.size) := Lib.hid HB.out.size
      clear hc hxk
      go_wp2_with fail
      refine (HTX.out _ (HT.out.bel ((HB1.out.on HB.out).alloc _))).mono ?_
      rintro e w2 ⟨rfl, hb2⟩
      have HB2 : Hid (Bel wr w2) := Lib.hid (((Bel.refl wr).alloc _).on hb2)
      clear hb2
      go_wp2_with (at_builtin; refine wpList_append_one rfl _ _ 44 rfl w1.heap.size 9 _ 1 16 Tryd.underlying44 info_str rfl (by decide) (by decide) V mv cv _ rfl ((owns_bel HOW.out HB2.out).alloc _) w2.heap.size [.string ⟨x.text.toArray⟩] rfl rfl (one_cell_at _ _ _) (by simp [Value.oneCell']) (by have := HMV.out; omega) (by have := HW1.out; have := HB2.out.size; simp; omega) ?_; intro V3 cv3 w5 hown5 hg5)
      go_roundw
      case rel => exact ⟨j + 1, _, cv3, V3, by omega, by go_num, rfl, Lib.hid (by rw [take_snoc_ HK.out]; simpa [strs_snoc, strs, List.append_assoc] using hown5), Lib.hid (Below.grown ((HB.out.on HB2.out).alloc _) hg5 (by have := HW1.out; have := HB2.out.size; simp; omega) (fun g hg => (HOW.out.lt g hg).1))⟩
      case measure => simp [intOf]; omega
    · obtain rfl : j = n1 := by omega
      have e : xs.take j = xs := by rw [HL.out]; exact List.take_length
      rw [e] at HOW
      clear e
      go_wp2
      go_ret2
      exact ⟨V, mv, cv, rfl, .of_own HOW.out, HB1.out.on HB.out⟩
end Go.Proofs.YteegoecanbonoaaDoor.Mu
