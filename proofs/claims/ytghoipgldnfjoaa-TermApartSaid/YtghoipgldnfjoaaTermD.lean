/-
  Layer 2's own functions that make terms: whether all may be, Join, Sum, Scale; and At.
-/
import Derived.Test.YtghoipgldnfjoaaTermC
import Derived.Test.YtghoipgldnfjoaaApp
namespace Go.Proofs.Ytghoipgldnfjoaa.Mu
open Go.ChangeShapes Go.WideShapes Go.ChangeAt Go.RowKit

/-- A term as it lies in memory, and the list that its third part reads as. -/
structure Tm where
  r : Raw
  l : List Int
def Lies (w : World) (ts : List Tm) : Prop := ∀ t ∈ ts, RI .i64 w w.heap.size t.r.A t.r.n t.l
theorem Lies.bel {w w' : World} {ts : List Tm} (h : Lies w ts) (hb : Bel w w') : Lies w' ts := fun t ht => (h t ht).bel hb
def raws (ts : List Tm) : List Raw := ts.map (·.r)
def mayT (t : Tm) : Bool := mayB t.r.nv t.r.c t.l
def leftT (ts : List Tm) : List Tm := ts.filter fun t => !t.r.nv
theorem raws_left (ts : List Tm) : leftR (raws ts) = raws (leftT ts) := by
  unfold leftR raws leftT; rw [List.filter_map]; rfl
theorem Lies.left {w : World} {ts : List Tm} (h : Lies w ts) : Lies w (leftT ts) := fun t ht => h t (List.mem_filter.1 ht).1

set_option maxRecDepth 100000 in
theorem mayAll_any (A : Option Addr) (n cap : Nat) (ts : List Tm) (w : World) (hr : RT w w.heap.size A n (raws ts)) (hL : Lies w ts) (hmax : n ≤ 1000000000) (hlen : ∀ t ∈ ts, t.l.length ≤ 1000000000) :
    Calls Try.prog 57 #[.slice A n cap] w fun e w' => e = .returned (.int .i64 (errF (ts.all mayT))) ∧ Bel w w' := by
  have HR := Lib.hid hr
  have HL := Lib.hid (show n = ts.length by rw [hr.len]; simp [raws])
  have HT := Lib.hid hL
  have HM := Lib.hid hlen
  clear hr hL hlen
  go_enter Try.func57, Try.ntmps57
  go_wp2
  go_loopw [8] (fun i wr => ∃ k : Nat, k ≤ n ∧ i = .int .i64 k ∧ Hid ((ts.take k).all mayT = true) ∧ Bel w wr) (fun i _ => n - (intOf i).toNat)
  case atStart => exact ⟨0, Nat.zero_le _, rfl, Lib.hid (by simp), Bel.refl _⟩
  case round =>
    obtain ⟨k, hk, rfl, HN, hB⟩ := hrel
    by_cases hlt : k < n
    · obtain ⟨b, off, rfl, hb, hc⟩ := (HR.out.bel hB).at_ (by omega)
      obtain ⟨t, htk⟩ : ∃ t, ts[k]? = some t := ⟨_, List.getElem?_eq_getElem (by rw [← HL.out]; exact hlt)⟩
      obtain ⟨c0, c1, c2⟩ := hc k t.r (by simp [raws, htk])
      have hri := (HT.out.bel hB) t (List.mem_of_getElem? htk)
      have HRI := Lib.hid hri
      have HLE : Hid (t.r.n ≤ 9223372036854775807) := Lib.hid (by have := HM.out t (List.mem_of_getElem? htk); have := hri.len; omega)
      have HK := Lib.hid htk
      clear hc htk hri
      rcases Bool.eq_false_or_eq_true (mayB t.r.nv t.r.c t.l) with hm | hm
      all_goals
        have HMM := Lib.hid hm
        have hcall := may_any t.r.nv t.r.c t.r.A t.r.n t.r.k t.l (wr.alloc (.cells #[.bool t.r.nv, .int .u8 t.r.c, .slice t.r.A t.r.n t.r.k] 33)) (HRI.out.alloc _) HLE.out
        rw [hm] at hcall
        first | rw [show errF true = 0 from rfl] at hcall | rw [show errF false = 2 from rfl] at hcall
        have HCALL := Lib.hid hcall
        clear hm hcall
        go_wp2_with (go_at_call 34; refine HCALL.out.mono ?_; rintro e w1 ⟨rfl, hb1⟩)
      · go_roundw
        case rel => exact ⟨k + 1, by omega, by go_num, Lib.hid (by rw [take_snoc_ HK.out, List.all_append, HN.out]; simp [mayT, HMM.out]), (hB.alloc _).on hb1⟩
        case measure => simp [intOf]; omega
      · go_ret
        exact ⟨ret_int (errF_no (by rw [List.all_eq_false]; exact ⟨t, List.mem_of_getElem? HK.out, by simp [mayT, HMM.out]⟩)), (hB.alloc _).on hb1⟩
    · obtain rfl : k = n := by omega
      have e : ts.take k = ts := by rw [HL.out]; exact List.take_length
      have E := Lib.hid e
      clear e
      go_wp2
      all_goals
        go_ret
        exact ⟨ret_int (errF_yes (by rw [← E.out]; exact HN.out)), hB⟩

def maxC (c : Int) (ts : List Tm) : Int := ts.foldl (fun c t => max c t.r.c) c
def varsT (ts : List Tm) : List Int := ts.flatMap (·.l)
def joinC (ts : List Tm) : Int := if (leftT ts).length = 0 then 0 else maxC (if (leftT ts).length < ts.length then 2 else 1) (leftT ts)
def joinL (ts : List Tm) : List Int := if (leftT ts).length = 0 then [] else greatL (joinC ts) (varsT (leftT ts))
/-- It tells a term and an error. -/
def GivesTE (nv : Bool) (c : Int) (l : List Int) (x : Int) (w : World) (e : Ending) (w' : World) : Prop :=
  ∃ A' n' c', e = .returned (.tuple #[.agg #[.bool nv, .int .u8 c, .slice A' n' c'], .int .i64 x]) ∧ RI .i64 w' w'.heap.size A' n' l ∧ Bel w w'

set_option maxRecDepth 100000 in
theorem join_no (A : Option Addr) (n cap : Nat) (ts : List Tm) (w : World) (hr : RT w w.heap.size A n (raws ts)) (hL : Lies w ts) (hmax : n ≤ 1000000000) (hlen : ∀ t ∈ ts, t.l.length ≤ 1000000000) (hno : ts.all mayT = false) :
    Calls Try.prog 20 #[.slice A n cap] w (GivesTE false 0 [] 2 w) := by
  have hcall := mayAll_any A n cap ts (w.alloc (.cells #[.bool false, .int .u8 0, .slice none 0 0] 33)) (hr.bel ((Bel.refl _).alloc _)) (hL.bel ((Bel.refl _).alloc _)) hmax hlen
  rw [hno, show errF false = 2 from rfl] at hcall
  have HC := Lib.hid hcall
  clear hcall hno hr hL hlen
  go_enter Try.func20, Try.ntmps20
  go_wp2_with (go_at_call 57; refine HC.out.mono ?_; rintro e w1 ⟨rfl, hb1⟩; (obtain ⟨b0, b1, b2, g0, g1, g2⟩ := cells3 (hb1.blk (blk1 _ _))))
  refine bodyPost_ret (v := .tuple #[.agg #[.bool false, .int .u8 0, .slice none 0 0], .int .i64 2]) (by simp [results, Try.results20, go_sem, *]) rfl ⟨_, _, _, rfl, RI.nil_, ?_⟩
  exact (((Bel.refl _).alloc _).on hb1).put3 (by simp) _ _ _

theorem varsT_take {us : List Tm} {k : Nat} {t : Tm} (h : us[k]? = some t) : (varsT (us.take k)).length + t.l.length ≤ (varsT us).length := by
  have e := take_snoc_ h
  have h2 : varsT us = varsT (us.take (k + 1)) ++ varsT (us.drop (k + 1)) := by
    unfold varsT; rw [← List.flatMap_append, List.take_append_drop]
  rw [h2, e]
  simp [varsT]
theorem varsT_left (ts : List Tm) : (varsT (leftT ts)).length ≤ (varsT ts).length := by
  induction ts with
  | nil => simp [leftT, varsT]
  | cons t ts ih =>
    unfold leftT varsT at *
    rw [List.filter_cons]
    split <;> simp <;> simp at ih <;> omega

set_option maxRecDepth 100000 in
set_option maxHeartbeats 1000000 in
theorem join_yes (A : Option Addr) (n cap : Nat) (ts : List Tm) (w : World) (hr : RT w w.heap.size A n (raws ts)) (hL : Lies w ts) (hmax : n ≤ 1000000) (hlen : ∀ t ∈ ts, t.l.length ≤ 1000000000) (hsum : (varsT ts).length ≤ 1000000) (hyes : ts.all mayT = true) :
    Calls Try.prog 20 #[.slice A n cap] w (GivesTE (decide ((leftT ts).length = 0)) (joinC ts) (joinL ts) 0 w) := by
  have hcall := mayAll_any A n cap ts (w.alloc (.cells #[.bool false, .int .u8 0, .slice none 0 0] 33)) (hr.bel ((Bel.refl _).alloc _)) (hL.bel ((Bel.refl _).alloc _)) (by omega) hlen
  rw [hyes, show errF true = 0 from rfl] at hcall
  have HC := Lib.hid hcall
  have HR := Lib.hid hr
  have HT := Lib.hid hL
  have HN := Lib.hid (show n = ts.length by rw [hr.len]; simp [raws])
  have HS := Lib.hid hsum
  clear hcall hyes hr hL hlen hsum
  obtain ⟨us, hus⟩ : ∃ us, us = leftT ts := ⟨_, rfl⟩
  obtain ⟨m, hm⟩ : ∃ m, m = us.length := ⟨_, rfl⟩
  have HU := Lib.hid hus
  have HM := Lib.hid hm
  have HLft : Hid (∀ W, Bel w W → Calls Try.prog 58 #[.slice A n cap] W fun e w' => ∃ A' c', e = .returned (.slice A' m c') ∧ RT w' w'.heap.size A' m (raws us) ∧ Bel W w') := Lib.hid fun W hb => by
    have h := left_any A n cap (raws ts) W (HR.out.bel hb) (by omega)
    rw [raws_left, ← HU.out, show (raws us).length = m by rw [HM.out]; simp [raws]] at h
    exact h
  have HTU : Hid (Lies w us) := Lib.hid (by rw [HU.out]; exact HT.out.left)
  have HP : Hid (GivesTE (decide ((leftT ts).length = 0)) (joinC ts) (joinL ts) 0 w = GivesTE (decide (m = 0)) (if m = 0 then 0 else maxC (if m < n then 2 else 1) us) (if m = 0 then [] else greatL (maxC (if m < n then 2 else 1) us) (varsT us)) 0 w) := Lib.hid (by
    unfold joinL joinC; rw [← HU.out, ← HM.out, HN.out]
    by_cases h : m = 0
    · simp only [if_pos h]
    · simp only [if_neg h])
  rw [HP.out]
  have HVB : Hid (∀ k t, us[k]? = some t → (varsT (us.take k)).length + t.l.length ≤ 1000000) := Lib.hid fun k t hk => by
    have h1 := varsT_take hk
    have h2 := varsT_left ts
    have h3 := HS.out
    rw [← HU.out] at h2
    omega
  have hmle : m ≤ 1000000 := by
    have h1 : (leftT ts).length ≤ ts.length := List.length_filter_le _ _
    have h2 := HN.out
    rw [← HU.out, ← HM.out] at h1
    omega
  clear hus hm HP HT
  by_cases h0 : m = 0
  · have HZ := Lib.hid h0
    subst h0
    show Calls _ _ _ _ (GivesTE true 0 [] 0 w)
    go_enter Try.func20, Try.ntmps20
    go_wp2_with (first | (go_at_call 57; refine HC.out.mono ?_; rintro e w1 ⟨rfl, hb1⟩; (have HB1 := Lib.hid hb1); clear hb1) | (go_at_call 58; refine (HLft.out _ (((Bel.refl _).alloc _).on HB1.out)).mono ?_; rintro e w2 ⟨A2, c2, rfl, hrt, hb2⟩; (have HB2 := Lib.hid (HB1.out.on hb2)); clear hb2 hrt; (obtain ⟨b0, b1, b2, g0, g1, g2⟩ := cells3 (HB2.out.blk (blk1 _ _)))))
    refine bodyPost_ret (v := .tuple #[.agg #[.bool true, .int .u8 0, .slice none 0 0], .int .i64 0]) (by simp [results, Try.results20, go_sem, *]) rfl ⟨_, _, _, rfl, RI.nil_, ?_⟩
    exact (((Bel.refl _).alloc _).on HB2.out).put3 (by simp) _ _ _
  · rw [decide_eq_false h0, if_neg h0, if_neg h0]
    have i0 : ((m : Int) == 0) = false := beq_eq_false_iff_ne.2 (by omega)
    have hm0 : 0 < m := by omega
    clear h0
    by_cases hmn : m < n
    case' pos =>
      rw [if_pos hmn]
      have i1 : (m : Int) < (n : Int) := by omega
      obtain ⟨x0, hx0⟩ : ∃ x0 : Int, x0 = 2 := ⟨_, rfl⟩
    case' neg =>
      rw [if_neg hmn]
      have i1 : decide (m < n) = false := decide_eq_false hmn
      obtain ⟨x0, hx0⟩ : ∃ x0 : Int, x0 = 1 := ⟨_, rfl⟩
    all_goals
      have HX := Lib.hid hx0
      rw [← hx0]
      clear hx0 hmn
      go_enter Try.func20, Try.ntmps20
      go_wp2_with (first | (go_at_call 57; refine HC.out.mono ?_; rintro e w1 ⟨rfl, hb1⟩; (have HB1 := Lib.hid hb1); clear hb1) | (go_at_call 58; refine (HLft.out _ (((Bel.refl _).alloc _).on HB1.out)).mono ?_; rintro e w2 ⟨A2, c2, rfl, hrt, hb2⟩; (have HB2 := Lib.hid (HB1.out.on hb2)); clear hb2; (have HRT := Lib.hid hrt); clear hrt))
      have hz1 : w.heap.size < w2.heap.size := by have := HB2.out.size; simp at this; omega
      have HBW : Hid (Bel w w2) := Lib.hid (((Bel.refl _).alloc _).on HB2.out)
      go_loopw [6, 7, 29] (fun sc sv si wr => ∃ (k mv cv : Nat) (V : Option Addr), k ≤ m ∧ si = .int .i64 k ∧ sc = .int .u8 (maxC x0 (us.take k)) ∧ sv = .slice V mv cv ∧ Hid (wr.ownsRow w2.heap.size 3 1 (.slice V mv cv) mv ((varsT (us.take k)).map (Value.int .i64))) ∧ Bel w2 wr) (fun _ _ i _ => m - (intOf i).toNat)
      case atStart => exact ⟨0, 0, 0, none, Nat.zero_le _, rfl, by rw [HX.out]; rfl, rfl, Lib.hid (World.ownsRow_nil _ _ _ _), Bel.refl _⟩
      case round =>
        obtain ⟨k, mv, cv, V, hk, rfl, rfl, rfl, HOW, hB⟩ := hrel
        by_cases hlt : k < m
        · obtain ⟨b, off, rfl, hb, hc⟩ := (HRT.out.bel hB).at_ (by omega)
          obtain ⟨t, htk⟩ : ∃ t, us[k]? = some t := ⟨_, List.getElem?_eq_getElem (by rw [← HM.out]; exact hlt)⟩
          obtain ⟨c0, c1, c2'⟩ := hc k t.r (by simp [raws, htk])
          have HRI := Lib.hid (((HTU.out.bel (HBW.out.on hB)) t (List.mem_of_getElem? htk)).alloc (.cells #[.bool t.r.nv, .int .u8 t.r.c, .slice t.r.A t.r.n t.r.k] 33))
          have HBD : Hid (mv + t.r.n ≤ 1000000000) := Lib.hid (by
            have h1 := HVB.out k t htk
            have h2 := HRI.out.len
            have h3 : (varsT (us.take k)).length = mv := by simpa using HOW.out.1
            omega)
          have HK := Lib.hid htk
          have HHB : Hid (w2.heap.size ≤ wr.heap.size) := Lib.hid hB.size
          clear hc htk
          go_wp2_with (at_builtin; refine wpList_append_ri rfl _ _ 31 rfl w2.heap.size 3 Try.underlying31 info_int V mv cv (varsT (us.take k)) rfl (HOW.out.alloc _) _ t.r.A t.r.n t.r.k t.l rfl HRI.out HBD.out (by have := HHB.out; simp; omega) ?_; intro V3 cv3 w3 hown3 hg3)
          go_roundw
          case rel => exact ⟨k + 1, _, cv3, V3, by omega, by go_num, by rw [take_snoc_ HK.out]; simp [maxC], rfl, Lib.hid (by rw [take_snoc_ HK.out]; simpa [varsT] using hown3), Below.grown (hB.alloc _) hg3 (by have := HHB.out; simp; omega) (fun g hg => (HOW.out.lt g hg).1)⟩
          case measure => simp [intOf]; omega
        · obtain rfl : k = m := by omega
          have e : us.take k = us := by rw [HM.out]; exact List.take_length
          have E := Lib.hid e
          clear e
          have HHB : Hid (w2.heap.size ≤ wr.heap.size) := Lib.hid hB.size
          have HGR := Lib.hid (greatest_any (maxC x0 (us.take k)) V mv cv w2.heap.size (varsT (us.take k)) wr HOW.out HHB.out (by
            have h2 := varsT_left ts
            have h3 := HS.out
            have h4 : (varsT (us.take k)).length = mv := by simpa using HOW.out.1
            rw [E.out, HU.out] at h4
            omega))
          go_wp2_with (go_at_call 59; refine HGR.out.mono ?_; rintro e w4 ⟨A4, n4, c4, rfl, hri4, hb4⟩; (have HBL := Lib.hid (Below.trans hB hb4)); clear hb4; (have HRI4 := Lib.hid hri4); clear hri4; (have HBK := Lib.hid (Bel.blk HBL.out (HB2.out.blk (blk1 _ _)))); (obtain ⟨b0, b1, b2, g0, g1, g2⟩ := cells3 HBK.out))
          refine bodyPost_ret (v := .tuple #[.agg #[.bool false, .int .u8 (maxC x0 (us.take k)), .slice A4 n4 c4], .int .i64 0]) (by simp [results, Try.results20, go_sem, *]) rfl ⟨_, _, _, by rw [E.out], ?_, ?_⟩
          · have h := HRI4.out.put3 HBK.out (.bool false) (.int .u8 (maxC x0 (us.take k))) (.slice A4 n4 c4)
            rw [E.out] at h ⊢
            simpa using h
          · exact (HBW.out.on HBL.out).put3 (by simp) _ _ _
end Go.Proofs.Ytghoipgldnfjoaa.Mu
