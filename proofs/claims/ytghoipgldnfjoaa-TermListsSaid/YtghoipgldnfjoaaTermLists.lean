/-
  The statement TermLists, walked.
-/
import Derived.Test.YtghoipgldnfjoaaTermListsM
import Derived.Test.YtghoipgldnfjoaaTermX
import Derived.Test.YtghoipgldnfjoaaRef02
import Derived.Test.YtghoipgldnfjoaaRef02C
import Derived.Test.YtghoipgldnfjoaaTail
namespace Go.Proofs.Ytghoipgldnfjoaa.Mu
open Go.ChangeShapes Go.WideShapes Go.ChangeAt Go.RowKit

theorem great_no {w : World} {ts : List Tm} (hL : Lies w ts) (h : greatB (raws ts) = false) : (varsT ts).length ≤ 5000 ∧ ∀ t ∈ ts, t.l.length ≤ 5000 := by
  have key : ∀ us : List Tm, (∀ t ∈ us, t.r.n = t.l.length) → greatN (raws us) ≤ 5000 → ((varsT us).length : Int) + us.length ≤ greatN (raws us) ∧ ∀ t ∈ us, t.l.length ≤ 5000 := by
    intro us
    induction us with
    | nil => intro _ _; simp [varsT, raws, greatN]
    | cons t us ih =>
      intro hl hg
      have e : greatN (raws (t :: us)) = (1 + (if 5000 < (t.r.n : Int) then 5000 else (t.r.n : Int))) + greatN (raws us) := by simp [greatN, raws]
      have hb := (greatN_bd (raws us)).1
      have ht := hl t List.mem_cons_self
      rw [e] at hg
      have h1 : ¬ 5000 < (t.r.n : Int) := by intro h; rw [if_pos h] at hg; omega
      rw [if_neg h1] at hg e
      obtain ⟨i1, i2⟩ := ih (fun x hx => hl x (List.mem_cons_of_mem _ hx)) (by omega)
      refine ⟨?_, fun x hx => ?_⟩
      · rw [e]
        have : (varsT (t :: us)).length = t.l.length + (varsT us).length := by simp [varsT]
        rw [this, List.length_cons]
        omega
      · rcases List.mem_cons.1 hx with rfl | hx
        · omega
        · exact i2 x hx
  have hg : greatN (raws ts) ≤ 5000 := by
    unfold greatB at h
    have := of_decide_eq_false h
    omega
  obtain ⟨a, b⟩ := key ts (fun t ht => (hL t ht).len) hg
  exact ⟨by omega, b⟩

theorem joinL_rises (ts : List Tm) : (joinL ts).Pairwise (· < ·) ∧ (joinL ts).length ≤ (varsT ts).length := by
  have h := varsT_left ts
  unfold joinL
  split
  · simp
  · unfold greatL
    split
    · simp
    · exact ⟨(srt_spec _).1, Nat.le_trans (srt_length _) h⟩
theorem sumL_len (ts : List Tm) : (sumL ts).length ≤ (varsT ts).length := by
  have h := varsT_left ts
  unfold sumL
  rcases e : leftT ts with _ | ⟨t, _ | ⟨u, us⟩⟩
  · simp
  · simp only; rw [e] at h; simpa [varsT] using h
  · simp

/-- Two boxes of a term's, written anew. -/
def put6 (w : World) (g h : Nat) (a b c a' b' c' : Value) : World := (((((w.setCell ⟨g, 0, none⟩ a).setCell ⟨g, 1, none⟩ b).setCell ⟨g, 2, none⟩ c).setCell ⟨h, 0, none⟩ a').setCell ⟨h, 1, none⟩ b').setCell ⟨h, 2, none⟩ c'
theorem put3_at {w : World} {g : Nat} {t : TypeId} {x y z : Value} (h : w.heap[g]? = some (.cells #[x, y, z] t (0, 0))) (a b c : Value) : (((w.setCell ⟨g, 0, none⟩ a).setCell ⟨g, 1, none⟩ b).setCell ⟨g, 2, none⟩ c).heap[g]? = some (.cells #[a, b, c] t (0, 0)) := by
  have hg := (Array.getElem?_eq_some_iff.1 h).1
  have h' := (Array.getElem?_eq_some_iff.1 h).2
  simp [World.setCell, Array.getElem?_modify, h]
theorem put3_off {w : World} {g k : Nat} (hne : k ≠ g) (a b c : Value) : (((w.setCell ⟨g, 0, none⟩ a).setCell ⟨g, 1, none⟩ b).setCell ⟨g, 2, none⟩ c).heap[k]? = w.heap[k]? := by
  have hne2 : g ≠ k := fun e => hne e.symm
  simp [World.setCell, Array.getElem?_modify, hne2]
theorem put6_facts {w w0 : World} {g h n m : Nat} {t : TypeId} {x y : Bool} {x1 y1 : Int} {A B : Option Addr} {l l' : List Int} {a b c a' b' c' : Value} {p q : Nat} {C D : Option Addr} {u v : Nat} (hg : w.heap[g]? = some (.cells #[.bool x, .int .u8 x1, .slice C p u] t (0, 0))) (hh : w.heap[h]? = some (.cells #[.bool y, .int .u8 y1, .slice D q v] t (0, 0))) (hne : g ≠ h)
    (hA : RI .i64 w w.heap.size A n l) (hB : RI .i64 w w.heap.size B m l') (hbel : Bel w0 w) (h1 : w0.heap.size ≤ g) (h2 : w0.heap.size ≤ h) :
    (put6 w g h a b c a' b' c').heap[g]? = some (.cells #[a, b, c] t (0, 0)) ∧ (put6 w g h a b c a' b' c').heap[h]? = some (.cells #[a', b', c'] t (0, 0)) ∧ RI .i64 (put6 w g h a b c a' b' c') (put6 w g h a b c a' b' c').heap.size A n l ∧ RI .i64 (put6 w g h a b c a' b' c') (put6 w g h a b c a' b' c').heap.size B m l' ∧ Bel w0 (put6 w g h a b c a' b' c') := by
  have e : (put6 w g h a b c a' b' c').heap.size = w.heap.size := by simp [put6]
  have hh' := (put3_off (w := w) (fun e => hne e.symm : h ≠ g) a b c).trans hh
  exact ⟨(put3_off hne _ _ _).trans (put3_at hg _ _ _), put3_at hh' _ _ _, by rw [e]; exact (hA.put3 hg _ _ _).put3 hh' _ _ _, by rw [e]; exact (hB.put3 hg _ _ _).put3 hh' _ _ _, (hbel.put3 h1 _ _ _).put3 h2 _ _ _⟩
theorem held9 {W W' : World} {p q r : Nat} {a b c d e f g h i : Value} (hb : Bel W W') (zp : p < W.heap.size) (zq : q < W.heap.size) (zr : r < W.heap.size)
    (H : W.cell? ⟨p, 0, none⟩ = some a ∧ W.cell? ⟨p, 1, none⟩ = some b ∧ W.cell? ⟨p, 2, none⟩ = some c ∧ W.cell? ⟨q, 0, none⟩ = some d ∧ W.cell? ⟨q, 1, none⟩ = some e ∧ W.cell? ⟨q, 2, none⟩ = some f ∧ W.cell? ⟨r, 0, none⟩ = some g ∧ W.cell? ⟨r, 1, none⟩ = some h ∧ W.cell? ⟨r, 2, none⟩ = some i) :
    W'.cell? ⟨p, 0, none⟩ = some a ∧ W'.cell? ⟨p, 1, none⟩ = some b ∧ W'.cell? ⟨p, 2, none⟩ = some c ∧ W'.cell? ⟨q, 0, none⟩ = some d ∧ W'.cell? ⟨q, 1, none⟩ = some e ∧ W'.cell? ⟨q, 2, none⟩ = some f ∧ W'.cell? ⟨r, 0, none⟩ = some g ∧ W'.cell? ⟨r, 1, none⟩ = some h ∧ W'.cell? ⟨r, 2, none⟩ = some i := by
  obtain ⟨h0, h1, h2, h3, h4, h5, h6, h7, h8⟩ := H
  exact ⟨(hb.cell zp).trans h0, (hb.cell zp).trans h1, (hb.cell zp).trans h2, (hb.cell zq).trans h3, (hb.cell zq).trans h4, (hb.cell zq).trans h5, (hb.cell zr).trans h6, (hb.cell zr).trans h7, (hb.cell zr).trans h8⟩

theorem rmay_is {t : Tm} {b : Bool} (h : mayT t = b) (A : Option Addr) (n cap : Nat) (w : World) (hr : RI .i64 w w.heap.size A n t.l) (hmax : n ≤ 9223372036854775807) :
    Calls Try.prog 22 #[.agg #[.bool t.r.nv, .int .u8 t.r.c, .slice A n cap]] w fun e w' => e = .returned (.bool b) ∧ Bel w w' := by
  have := rmay_any t.r.nv t.r.c A n cap t.l w hr hmax
  rw [show mayB t.r.nv t.r.c t.l = b from h] at this; exact this

set_option maxRecDepth 100000 in
set_option maxHeartbeats 4000000 in
theorem termLists_any (A : Option Addr) (n cap : Nat) (ts : List Tm) (w : World) (hr : RT w w.heap.size A n (raws ts)) (hL : Lies w ts) (hmax : n ≤ 9223372036854775807) :
    Calls Try.prog 4 #[.slice A n cap] w fun e w' => e = .returned (.bool true) ∧ Bel w w' := by
  have HR := Lib.hid hr
  have HT := Lib.hid hL
  have HN := Lib.hid (show n = ts.length by rw [hr.len]; simp [raws])
  clear hr hL
  by_cases h60 : 60 < n
  · have i0 : (60 : Int) < (n : Int) := by omega
    go_enter Try.func4, Try.ntmps4
    go_wp2_with fail
    refine (works2_any _).mono ?_
    rintro e w1 ⟨rfl, hb⟩
    have HB := Lib.hid hb
    clear hb
    go_wp2_with fail
    go_ret
    exact ⟨rfl, HB.out⟩
  · have i0 : decide ((60 : Int) < (n : Int)) = false := decide_eq_false (by omega)
    have i1 : n ≤ 60 := by omega
    clear h60
    rcases Bool.eq_false_or_eq_true (greatB (raws ts)) with hg | hg
    · have HG : Hid (Calls Try.prog 18 #[.slice A n cap] w fun e w' => e = .returned (.bool true) ∧ Bel w w') := Lib.hid (by
        have h := great_any A n cap (raws ts) w HR.out (by omega); rw [hg] at h; exact h)
      clear hg
      go_enter Try.func4, Try.ntmps4
      go_wp2_with fail
      refine HG.out.mono ?_
      rintro e w1 ⟨rfl, hb1⟩
      have HB1 := Lib.hid hb1
      clear hb1
      go_wp2_with fail
      refine (works2_any _).mono ?_
      rintro e w2 ⟨rfl, hb⟩
      have HB := Lib.hid (HB1.out.on hb)
      clear hb
      go_wp2_with fail
      go_ret
      exact ⟨rfl, HB.out⟩
    · have HG : Hid (Calls Try.prog 18 #[.slice A n cap] w fun e w' => e = .returned (.bool false) ∧ Bel w w') := Lib.hid (by
        have h := great_any A n cap (raws ts) w HR.out (by omega); rw [hg] at h; exact h)
      obtain ⟨s1, s2⟩ := great_no HT.out hg
      have HS1 := Lib.hid s1
      have HS2 := Lib.hid s2
      clear hg s1 s2
      -- what Join and Sum tell, by letters
      have HJS : ∃ nv cj lj cs ls ev, Hid (∀ W, Bel w W → Calls Try.prog 20 #[.slice A n cap] W (GivesTE nv cj lj ev W)) ∧ Hid (∀ W, Bel w W → Calls Try.prog 21 #[.slice A n cap] W (GivesTE nv cs ls ev W)) ∧ Hid (ev = errF (ts.all mayT)) ∧ Hid (ts.all mayT = true → nv = decide ((leftT ts).length = 0) ∧ cj = joinC ts ∧ lj = joinL ts ∧ cs = sumC ts ∧ ls = sumL ts) ∧ Hid (lj.length ≤ 5000 ∧ ls.length ≤ 5000) := by
        rcases Bool.eq_false_or_eq_true (ts.all mayT) with ha | ha
        · refine ⟨decide ((leftT ts).length = 0), joinC ts, joinL ts, sumC ts, sumL ts, 0, Lib.hid fun W hW => ?_, Lib.hid fun W hW => ?_, Lib.hid (by rw [ha]; rfl), Lib.hid fun _ => ⟨rfl, rfl, rfl, rfl, rfl⟩, Lib.hid ⟨Nat.le_trans (joinL_rises ts).2 HS1.out, Nat.le_trans (sumL_len ts) HS1.out⟩⟩
          · exact join_yes A n cap ts W (HR.out.bel hW) (HT.out.bel hW) (by omega) (fun t ht => by have := HS2.out t ht; omega) (by have := HS1.out; omega) ha
          · exact sum_yes A n cap ts W (HR.out.bel hW) (HT.out.bel hW) (by omega) (fun t ht => by have := HS2.out t ht; omega) ha
        · refine ⟨false, 0, [], 0, [], 2, Lib.hid fun W hW => ?_, Lib.hid fun W hW => ?_, Lib.hid (by rw [ha]; rfl), Lib.hid fun h => (by rw [ha] at h; cases h), Lib.hid (by simp)⟩
          · exact join_no A n cap ts W (HR.out.bel hW) (HT.out.bel hW) (by omega) (fun t ht => by have := HS2.out t ht; omega) ha
          · exact sum_no A n cap ts W (HR.out.bel hW) (HT.out.bel hW) (by omega) (fun t ht => by have := HS2.out t ht; omega) ha
      obtain ⟨nv, cj, lj, cs, ls, ev, HJ, HS, HE, HY, HLL⟩ := HJS
      go_enter Try.func4, Try.ntmps4
      go_wp2_with fail
      refine HG.out.mono ?_
      rintro e w1 ⟨rfl, hb⟩
      have HB1 := Lib.hid hb
      clear hb
      go_wp2_with fail
      refine (HJ.out _ HB1.out).mono ?_
      rintro e w2 ⟨Ax, mx, kx, rfl, hx, hb⟩
      have HX := Lib.hid (hx.alloc (.cells #[.bool nv, .int .u8 cj, .slice Ax mx kx] 33))
      have HB2 := Lib.hid ((HB1.out.on hb).alloc (.cells #[.bool nv, .int .u8 cj, .slice Ax mx kx] 33))
      clear hx hb
      go_wp2_with fail
      obtain ⟨w3, hw3⟩ : ∃ w3, w3 = w2.alloc (.cells #[.bool nv, .int .u8 cj, .slice Ax mx kx] 33) := ⟨_, rfl⟩
      rw [← hw3] at HX HB2 ⊢
      have HKX := Lib.hid (show w3.heap[w2.heap.size]? = some (.cells #[.bool nv, .int .u8 cj, .slice Ax mx kx] 33 (0, 0)) by rw [hw3]; exact blk1 w2 _)
      clear hw3
      obtain ⟨gx, hgx⟩ : ∃ gx, gx = w2.heap.size := ⟨_, rfl⟩
      rw [← hgx] at HKX ⊢
      clear hgx
      go_wp2_with fail
      refine (HS.out _ HB2.out).mono ?_
      rintro e w4 ⟨Ay, my, ky, rfl, hy, hb⟩
      have HX4 := Lib.hid ((HX.out.bel hb).alloc (.cells #[.bool nv, .int .u8 cs, .slice Ay my ky] 33))
      have HKX4 := Lib.hid (((Bel.refl w4).alloc (.cells #[.bool nv, .int .u8 cs, .slice Ay my ky] 33)).blk (hb.blk HKX.out))
      have HY4 := Lib.hid (hy.alloc (.cells #[.bool nv, .int .u8 cs, .slice Ay my ky] 33))
      have HB4 := Lib.hid ((HB2.out.on hb).alloc (.cells #[.bool nv, .int .u8 cs, .slice Ay my ky] 33))
      clear hy hb HX HKX
      go_wp2_with fail
      obtain ⟨w5, hw5⟩ : ∃ w5, w5 = w4.alloc (.cells #[.bool nv, .int .u8 cs, .slice Ay my ky] 33) := ⟨_, rfl⟩
      rw [← hw5] at HX4 HY4 HKX4 HB4 ⊢
      have HKY4 := Lib.hid (show w5.heap[w4.heap.size]? = some (.cells #[.bool nv, .int .u8 cs, .slice Ay my ky] 33 (0, 0)) by rw [hw5]; exact blk1 w4 _)
      have e5 : w4.heap.size + 1 = w5.heap.size := by rw [hw5]; simp
      simp only [e5]
      clear hw5
      obtain ⟨gy, hgy⟩ : ∃ gy, gy = w4.heap.size := ⟨_, rfl⟩
      rw [← hgy] at HKY4 ⊢
      clear hgy e5
      go_loopw [33] (fun i wr => ∃ (k n7 c7 n8 c8 : Nat) (A7 A8 : Option Addr), k ≤ n ∧ i = .int .i64 k ∧ Hid ((ts.take k).all mayT = true) ∧ Hid (wr.heap[w5.heap.size]? = some (.cells #[.bool (decide ((leftT (ts.take k)).length = 0)), .int .u8 (joinC (ts.take k)), .slice A7 n7 c7] 33 (0, 0))) ∧ Hid (wr.heap[w5.heap.size + 1]? = some (.cells #[.bool (decide ((leftT (ts.take k)).length = 0)), .int .u8 (sumC (ts.take k)), .slice A8 n8 c8] 33 (0, 0))) ∧ Hid (RI .i64 wr wr.heap.size A7 n7 (joinL (ts.take k))) ∧ Hid (RI .i64 wr wr.heap.size A8 n8 (sumL (ts.take k))) ∧ Hid (Bel w5 wr)) (fun i _ => n - (intOf i).toNat)
      case atStart => exact ⟨0, 0, 0, 0, 0, none, none, Nat.zero_le _, rfl, Lib.hid rfl, Lib.hid (blk2 w5 _ _).1, Lib.hid (blk2 w5 _ _).2, Lib.hid RI.nil_, Lib.hid RI.nil_, Lib.hid (((Bel.refl _).alloc _).alloc _)⟩
      case round =>
        obtain ⟨k, n7, c7, n8, c8, A7, A8, hk, rfl, HP, HKJ, HKS, HRJ, HRS, HB⟩ := hrel
        by_cases hlt : k < n
        · obtain ⟨b, off, eA, hb, hc⟩ := (HR.out.bel (HB4.out.on HB.out)).at_ (by omega)
          subst eA
          obtain ⟨t, htk⟩ : ∃ t, ts[k]? = some t := ⟨_, List.getElem?_eq_getElem (by rw [← HN.out]; exact hlt)⟩
          obtain ⟨c0, c1, c2⟩ := hc k t.r (by simp [raws, htk])
          have HK := Lib.hid htk
          have HRT := Lib.hid ((HT.out.bel (HB4.out.on HB.out)) t (List.mem_of_getElem? htk))
          have HLT := Lib.hid (HS2.out t (List.mem_of_getElem? htk))
          clear hc htk
          rcases Bool.eq_false_or_eq_true (mayT t) with hm | hm
          · have HM := Lib.hid hm
            clear hm
            go_wp2_with fail
            refine (rmay_is HM.out _ _ _ _ (HRT.out.alloc _) (by have := HLT.out; have := HRT.out.len; omega)).mono ?_
            rintro e w7 ⟨rfl, hb7⟩
            have HB7 := Lib.hid (((Bel.refl wr).alloc (.cells #[.bool t.r.nv, .int .u8 t.r.c, .slice t.r.A t.r.n t.r.k] 33)).on hb7)
            have HKT := Lib.hid (hb7.blk (blk1 wr (.cells #[.bool t.r.nv, .int .u8 t.r.c, .slice t.r.A t.r.n t.r.k] 33)))
            clear hb7 c0 c1 c2 hb
            have HKJ7 := Lib.hid (HB7.out.blk HKJ.out)
            have HKS7 := Lib.hid (HB7.out.blk HKS.out)
            obtain ⟨t0, t1, t2, ft0, ft1, ft2⟩ := cells3 HKT.out
            obtain ⟨j0, j1, j2, fj0, fj1, fj2⟩ := cells3 HKJ7.out
            obtain ⟨s0, s1, s2, fs0, fs1, fs2⟩ := cells3 HKS7.out
            have zt := (Array.getElem?_eq_some_iff.1 HKT.out).1
            have zj := (Array.getElem?_eq_some_iff.1 HKJ7.out).1
            have zs := (Array.getElem?_eq_some_iff.1 HKS7.out).1
            have zw := (Array.getElem?_eq_some_iff.1 HKS.out).1
            have ne1 : wr.heap.size ≠ w5.heap.size := by omega
            have ne2 : wr.heap.size ≠ w5.heap.size + 1 := by omega
            have ne3 : w5.heap.size ≠ wr.heap.size := by omega
            have ne4 : w5.heap.size + 1 ≠ wr.heap.size := by omega
            by_cases hk0 : k = 0
            · subst hk0
              go_wp2_with fail
              go_region
              obtain ⟨wf, hwf⟩ : ∃ wf, wf = put6 w7 w5.heap.size (w5.heap.size + 1) (.bool t.r.nv) (.int .u8 t.r.c) (.slice t.r.A t.r.n t.r.k) (.bool t.r.nv) (.int .u8 t.r.c) (.slice t.r.A t.r.n t.r.k) := ⟨_, rfl⟩
              have hgoal : wf.drew = (put6 w7 w5.heap.size (w5.heap.size + 1) (.bool t.r.nv) (.int .u8 t.r.c) (.slice t.r.A t.r.n t.r.k) (.bool t.r.nv) (.int .u8 t.r.c) (.slice t.r.A t.r.n t.r.k)).drew := by rw [hwf]
              unfold put6 at hgoal
              rw [← hgoal]
              have HF := Lib.hid (put6_facts (a := .bool t.r.nv) (b := .int .u8 t.r.c) (c := .slice t.r.A t.r.n t.r.k) (a' := .bool t.r.nv) (b' := .int .u8 t.r.c) (c' := .slice t.r.A t.r.n t.r.k) HKJ7.out HKS7.out (by omega) (HRT.out.bel HB7.out) (HRT.out.bel HB7.out) (HB.out.on HB7.out) (Nat.le_refl _) (by omega))
              rw [← hwf] at HF
              clear hgoal hwf
              go_wp2_with fail
              go_roundw
              case rel =>
                obtain ⟨q1, q2, q3⟩ := join_one HM.out
                obtain ⟨q4, q5⟩ := sum_one HM.out
                obtain ⟨p1, p2, p3, p4, p5⟩ := HF.out
                have e1 : ts.take (0 + 1) = [t] := by rw [take_snoc_ HK.out]; rfl
                exact ⟨0 + 1, t.r.n, t.r.k, t.r.n, t.r.k, t.r.A, t.r.A, by omega, by go_num, Lib.hid (by rw [e1]; simp [HM.out]), Lib.hid (by rw [e1, q1, q2]; exact p1), Lib.hid (by rw [e1, q1, q4]; exact p2), Lib.hid (by rw [e1, q3]; exact p3), Lib.hid (by rw [e1, q5]; exact p4), Lib.hid p5.drew⟩
              case measure => simp [intOf]; omega
            · have k0 : ((k : Int) == 0) = false := beq_eq_false_iff_ne.2 (by omega)
              have HTK := Lib.hid (take_snoc_ HK.out)
              have hne : ts.take k ≠ [] := by
                intro h
                have h1 := congrArg List.length h
                have h2 := HN.out
                rw [List.length_take, List.length_nil] at h1
                omega
              obtain ⟨q1, q2, q3⟩ := join_snoc hne HP.out HM.out
              obtain ⟨q4, q5⟩ := sum_snoc (ts := ts.take k) HM.out
              rw [← HTK.out] at q1 q2 q3 q4 q5
              have HV : Hid ((varsT (ts.take k)).length + t.l.length ≤ 5000) := Lib.hid (Nat.le_trans (varsT_take HK.out) HS1.out)
              have HRISE := Lib.hid (joinL_rises (ts.take k))
              have HSL := Lib.hid (sumL_len (ts.take k))
              have HTR : Hid (t.l.Pairwise (· < ·)) := Lib.hid (by
                have := HM.out
                unfold mayT at this
                cases hn : t.r.nv
                · rw [hn] at this; exact (mayB_false.1 this).2.2.2
                · rw [hn] at this; rw [(mayB_true.1 this).2]; simp)
              obtain ⟨nj, hnj⟩ : ∃ x, x = decide ((leftT (ts.take k)).length = 0) := ⟨_, rfl⟩
              obtain ⟨cJ, hcJ⟩ : ∃ x, x = joinC (ts.take k) := ⟨_, rfl⟩
              obtain ⟨lJ, hlJ⟩ : ∃ x, x = joinL (ts.take k) := ⟨_, rfl⟩
              obtain ⟨cS, hcS⟩ : ∃ x, x = sumC (ts.take k) := ⟨_, rfl⟩
              obtain ⟨lS, hlS⟩ : ∃ x, x = sumL (ts.take k) := ⟨_, rfl⟩
              rw [← hnj] at q1 q2 q3 q4 q5 j0 s0 HKJ7 HKS7
              rw [← hcJ] at q2 q3 j1 HKJ7
              rw [← hlJ] at q3 HRJ HRISE
              rw [← hcS] at q4 s1 HKS7
              rw [← hlS] at q5 HRS HSL
              clear hnj hcJ hlJ hcS hlS hne
              obtain ⟨nj', hnj⟩ : ∃ x, x = (nj && t.r.nv) := ⟨_, rfl⟩
              obtain ⟨cJ', hcJ⟩ : ∃ x, x = rjC nj t.r.nv cJ t.r.c := ⟨_, rfl⟩
              obtain ⟨lJ', hlJ⟩ : ∃ x, x = rjL nj t.r.nv cJ t.r.c lJ t.l := ⟨_, rfl⟩
              obtain ⟨cS', hcS⟩ : ∃ x, x = rsC nj t.r.nv cS t.r.c := ⟨_, rfl⟩
              obtain ⟨lS', hlS⟩ : ∃ x, x = rsL nj t.r.nv lS t.l := ⟨_, rfl⟩
              rw [← hnj] at q1; rw [← hcJ] at q2; rw [← hlJ] at q3; rw [← hcS] at q4; rw [← hlS] at q5
              have HE1 := Lib.hid q1.symm
              have HE2 := Lib.hid q2.symm
              have HE3 := Lib.hid q3.symm
              have HE4 := Lib.hid q4.symm
              have HE5 := Lib.hid q5.symm
              clear q1 q2 q3 q4 q5
              have HJn : Hid (∀ W, Bel w7 W → Calls Try.prog 23 #[.agg #[.bool nj, .int .u8 cJ, .slice A7 n7 c7], .agg #[.bool t.r.nv, .int .u8 t.r.c, .slice t.r.A t.r.n t.r.k]] W (GivesT nj' cJ' lJ' W.heap.size W)) := Lib.hid fun W hW => by
                rw [hnj, hcJ, hlJ]
                exact rjoin_any nj t.r.nv cJ t.r.c A7 t.r.A n7 c7 t.r.n t.r.k lJ t.l W (HRJ.out.bel (HB7.out.on hW)) (HRT.out.bel (HB7.out.on hW)) HRISE.out.1 HTR.out (by
                  have a := HRJ.out.len
                  have b := HRT.out.len
                  have c := HRISE.out.2
                  have d := HV.out
                  omega)
              have HSn : Hid (∀ W, Bel w7 W → Calls Try.prog 24 #[.agg #[.bool nj, .int .u8 cS, .slice A8 n8 c8], .agg #[.bool t.r.nv, .int .u8 t.r.c, .slice t.r.A t.r.n t.r.k]] W (GivesT nj' cS' lS' W.heap.size W)) := Lib.hid fun W hW => by
                rw [hnj, hcS, hlS]
                exact rsum_any nj t.r.nv cS t.r.c A8 t.r.A n8 c8 t.r.n t.r.k lS t.l W (HRS.out.bel (HB7.out.on hW)) (HRT.out.bel (HB7.out.on hW))
              clear hnj hcJ hlJ hcS hlS
              go_wp2_with fail
              refine wp_region_T (S := fun w' => w'.cell? ⟨wr.heap.size, 0, none⟩ = some (.bool t.r.nv) ∧ w'.cell? ⟨wr.heap.size, 1, none⟩ = some (.int .u8 t.r.c) ∧ w'.cell? ⟨wr.heap.size, 2, none⟩ = some (.slice t.r.A t.r.n t.r.k) ∧ w'.cell? ⟨w5.heap.size, 0, none⟩ = some (.bool nj) ∧ w'.cell? ⟨w5.heap.size, 1, none⟩ = some (.int .u8 cJ) ∧ w'.cell? ⟨w5.heap.size, 2, none⟩ = some (.slice A7 n7 c7) ∧ w'.cell? ⟨w5.heap.size + 1, 0, none⟩ = some (.bool nj) ∧ w'.cell? ⟨w5.heap.size + 1, 1, none⟩ = some (.int .u8 cS) ∧ w'.cell? ⟨w5.heap.size + 1, 2, none⟩ = some (.slice A8 n8 c8)) 6 (by kernel_rfl) (by kernel_rfl) (fun hHeld => ?_) ?_
              rotate_left
              · exact ⟨t0, t1, t2, j0, j1, j2, s0, s1, s2⟩
              refine wpT_take (i := 0) (oi := { dst := some 54, op := Op.load 33 (Operand.tmp 7), type := 33, pos := "law.go:78", after := #[], guard := none }) (v := ?_) rfl (by kernel_rfl) (by kernel_rfl) (by kernel_rfl) (by omega) (by kernel_rfl) (fun _ _ _ h => h) (Or.inl ⟨by rfl, ?_⟩) (by assumption) ?_
              rotate_left
              · ((intro w hSw; (try dsimp only at hSw); go_simp); all_goals with_reducible rfl)
              simp only [Act.put, List.setIfInBounds_toArray, List.set_cons_zero, List.set_cons_succ]
              refine wpT_take (i := 1) (oi := { dst := some 55, op := Op.load 33 (Operand.tmp 10), type := 33, pos := "law.go:78", after := #[], guard := none }) (v := ?_) rfl (by kernel_rfl) (by kernel_rfl) (by kernel_rfl) (by omega) (by kernel_rfl) (fun _ _ _ h => h) (Or.inl ⟨by rfl, ?_⟩) (by assumption) ?_
              rotate_left
              · ((intro w hSw; (try dsimp only at hSw); go_simp); all_goals with_reducible rfl)
              simp only [Act.put, List.setIfInBounds_toArray, List.set_cons_zero, List.set_cons_succ]
              refine wpT_take (i := 3) (oi := { dst := some 57, op := Op.load 33 (Operand.tmp 8), type := 33, pos := "law.go:78", after := #[], guard := none }) (v := ?_) rfl (by kernel_rfl) (by kernel_rfl) (by kernel_rfl) (by omega) (by kernel_rfl) (fun _ _ _ h => h) (Or.inl ⟨by rfl, ?_⟩) (by assumption) ?_
              rotate_left
              · ((intro w hSw; (try dsimp only at hSw); go_simp); all_goals with_reducible rfl)
              simp only [Act.put, List.setIfInBounds_toArray, List.set_cons_zero, List.set_cons_succ]
              refine wpT_take (i := 4) (oi := { dst := some 58, op := Op.load 33 (Operand.tmp 10), type := 33, pos := "law.go:78", after := #[], guard := none }) (v := ?_) rfl (by kernel_rfl) (by kernel_rfl) (by kernel_rfl) (by omega) (by kernel_rfl) (fun _ _ _ h => h) (Or.inl ⟨by rfl, ?_⟩) (by assumption) ?_
              rotate_left
              · ((intro w hSw; (try dsimp only at hSw); go_simp); all_goals with_reducible rfl)
              simp only [Act.put, List.setIfInBounds_toArray, List.set_cons_zero, List.set_cons_succ]
              refine wpT_one (i := 2) (oi := { dst := some 56, op := Op.call { callee := Callee.value (Operand.func 23), args := #[Operand.tmp 54, Operand.tmp 55], argTypes := #[33, 33] }, type := 33, pos := "law.go:78", after := #[{ on := 0, ground := Ground.data }, { on := 1, ground := Ground.data }], guard := none }) rfl rfl (by kernel_rfl) (by omega) (fun K hK => ?_)
              go_simp
              refine (HJn.out _ ((Bel.refl w7).drew)).mono ?_
              rintro e w8 ⟨A9, n9, c9, rfl, hri, hb⟩
              have HB8 := Lib.hid (show Bel w7 w8 from (Bel.refl w7).drew.on hb)
              have HR8 := Lib.hid hri
              clear hri hb
              refine hK _ _ ?_ ?_
              · exact held9 HB8.out zt zj zs hHeld
              clear hK K
              replace hHeld := held9 HB8.out zt zj zs hHeld
              (try simp only [Act.put, List.setIfInBounds_toArray, List.set_cons_zero, List.set_cons_succ])
              refine wpT_one (i := 5) (oi := { dst := some 59, op := Op.call { callee := Callee.value (Operand.func 24), args := #[Operand.tmp 57, Operand.tmp 58], argTypes := #[33, 33] }, type := 33, pos := "law.go:78", after := #[{ on := 3, ground := Ground.data }, { on := 4, ground := Ground.data }, { on := 2, ground := Ground.chain }], guard := none }) rfl rfl (by kernel_rfl) (by omega) (fun K hK => ?_)
              go_simp
              refine (HSn.out _ HB8.out).mono ?_
              rintro e w9 ⟨A10, n10, c10, rfl, hri, hb⟩
              have HB9 := Lib.hid (show Bel w8 w9 from hb)
              have HR9 := Lib.hid hri
              clear hri hb
              refine hK _ _ ?_ ?_
              · exact held9 HB9.out (Nat.lt_of_lt_of_le zt HB8.out.size) (Nat.lt_of_lt_of_le zj HB8.out.size) (Nat.lt_of_lt_of_le zs HB8.out.size) hHeld
              clear hK K hHeld
              (try simp only [Act.put, List.setIfInBounds_toArray, List.set_cons_zero, List.set_cons_succ])
              refine wpT_tail (by kernel_rfl) ?_
              simp only [List.drop_succ_cons, List.drop_zero]
              have HKJ9 := Lib.hid ((HB8.out.on HB9.out).blk HKJ7.out)
              have HKS9 := Lib.hid ((HB8.out.on HB9.out).blk HKS7.out)
              clear j0 j1 j2 fj0 fj1 fj2 s0 s1 s2 fs0 fs1 fs2 t0 t1 t2 ft0 ft1 ft2
              obtain ⟨j0, j1, j2, fj0, fj1, fj2⟩ := cells3 HKJ9.out
              obtain ⟨s0, s1, s2, fs0, fs1, fs2⟩ := cells3 HKS9.out
              go_wp2_with fail
              obtain ⟨wf, hwf⟩ : ∃ wf, wf = put6 w9 w5.heap.size (w5.heap.size + 1) (.bool nj') (.int .u8 cJ') (.slice A9 n9 c9) (.bool nj') (.int .u8 cS') (.slice A10 n10 c10) := ⟨_, rfl⟩
              have hgoal : wf = put6 w9 w5.heap.size (w5.heap.size + 1) (.bool nj') (.int .u8 cJ') (.slice A9 n9 c9) (.bool nj') (.int .u8 cS') (.slice A10 n10 c10) := hwf
              unfold put6 at hgoal
              rw [← hgoal]
              have HF := Lib.hid (put6_facts (a := .bool nj') (b := .int .u8 cJ') (c := .slice A9 n9 c9) (a' := .bool nj') (b' := .int .u8 cS') (c' := .slice A10 n10 c10) HKJ9.out HKS9.out (by omega) (HR8.out.bel HB9.out) HR9.out ((HB.out.on HB7.out).on (HB8.out.on HB9.out)) (Nat.le_refl _) (by omega))
              rw [← hwf] at HF
              clear hgoal hwf
              go_wp2_with fail
              go_roundw
              case rel =>
                obtain ⟨p1, p2, p3, p4, p5⟩ := HF.out
                exact ⟨k + 1, n9, c9, n10, c10, A9, A10, by omega, by go_num, Lib.hid (by rw [HTK.out, List.all_append, HP.out]; simp [HM.out]), Lib.hid (by rw [← HE1.out, ← HE2.out]; exact p1), Lib.hid (by rw [← HE1.out, ← HE4.out]; exact p2), Lib.hid (by rw [← HE3.out]; exact p3), Lib.hid (by rw [← HE5.out]; exact p4), Lib.hid p5⟩
              case measure => simp [intOf]; omega
          · have HM := Lib.hid hm
            clear hm
            go_wp2_with fail
            refine (rmay_is HM.out _ _ _ _ (HRT.out.alloc _) (by have := HLT.out; have := HRT.out.len; omega)).mono ?_
            rintro e w7 ⟨rfl, hb7⟩
            have HB7 := Lib.hid (((Bel.refl wr).alloc (.cells #[.bool t.r.nv, .int .u8 t.r.c, .slice t.r.A t.r.n t.r.k] 33)).on hb7)
            clear hb7 c0 c1 c2 hb
            have hev : ev = 2 := by
              rw [HE.out, show ts.all mayT = false by
                rw [Bool.eq_false_iff]; intro h
                have := List.all_eq_true.1 h t (List.mem_of_getElem? HK.out)
                rw [HM.out] at this; cases this]; rfl
            subst hev
            go_wp2_with fail
            refine (works2_any _).mono ?_
            rintro e w8 ⟨rfl, hb⟩
            have HB8 := Lib.hid (HB7.out.on hb)
            clear hb
            go_wp2_with fail
            go_ret
            exact ⟨rfl, (HB4.out.on HB.out).on HB8.out⟩
        · obtain rfl : n = k := by omega
          have e : ts.take n = ts := by rw [HN.out]; exact List.take_length
          rw [e] at HP HKJ HKS HRJ HRS
          obtain ⟨q1, q2, q3, q4, q5⟩ := HY.out HP.out
          have hev : ev = 0 := by rw [HE.out, HP.out]; rfl
          clear e hlt
          subst hev
          have HKX5 := Lib.hid (HB.out.blk HKX4.out)
          have HKY5 := Lib.hid (HB.out.blk HKY4.out)
          rw [← q1, ← q2] at HKJ
          rw [← q1, ← q4] at HKS
          rw [← q3] at HRJ
          rw [← q5] at HRS
          clear q1 q2 q3 q4 q5 HE HY HJ HS
          have HS1' : Hid (∀ W, Bel wr W → Calls Try.prog 25 #[.agg #[.bool nv, .int .u8 cj, .slice Ax mx kx], .agg #[.bool nv, .int .u8 cj, .slice A7 n7 c7]] W fun e w' => e = .returned (.bool true) ∧ Bel W w') := Lib.hid fun W hW => by
            have h := rsame_any nv nv cj cj Ax A7 mx n7 kx c7 lj lj W ((HX4.out.bel HB.out).bel hW) (HRJ.out.bel hW) (by have := HX4.out.len; have := HLL.out.1; omega) (by have := HRJ.out.len; have := HLL.out.1; omega)
            rw [show rsameB nv nv cj cj lj lj = true by simp [rsameB]] at h; exact h
          have HS2' : Hid (∀ W, Bel wr W → Calls Try.prog 25 #[.agg #[.bool nv, .int .u8 cs, .slice Ay my ky], .agg #[.bool nv, .int .u8 cs, .slice A8 n8 c8]] W fun e w' => e = .returned (.bool true) ∧ Bel W w') := Lib.hid fun W hW => by
            have h := rsame_any nv nv cs cs Ay A8 my n8 ky c8 ls ls W ((HY4.out.bel HB.out).bel hW) (HRS.out.bel hW) (by have := HY4.out.len; have := HLL.out.2; omega) (by have := HRS.out.len; have := HLL.out.2; omega)
            rw [show rsameB nv nv cs cs ls ls = true by simp [rsameB]] at h; exact h
          obtain ⟨x0, x1, x2, _, _, _⟩ := cells3 HKX5.out
          obtain ⟨j0, j1, j2, _, _, _⟩ := cells3 HKJ.out
          go_wp2_with fail
          refine (HS1'.out _ (Bel.refl _)).mono ?_
          clear x0 x1 x2 j0 j1 j2
          rintro e w10 ⟨rfl, hb10⟩
          have HB10 := Lib.hid hb10
          obtain ⟨y0, y1, y2, _, _, _⟩ := cells3 (HB10.out.blk HKY5.out)
          obtain ⟨s0, s1, s2, _, _, _⟩ := cells3 (HB10.out.blk HKS.out)
          clear hb10
          go_wp2_with fail
          refine (HS2'.out _ HB10.out).mono ?_
          clear y0 y1 y2 s0 s1 s2
          rintro e w11 ⟨rfl, hb11⟩
          have HB11 := Lib.hid (HB10.out.on hb11)
          clear hb11
          go_wp2_with fail
          refine (works2_any _).mono ?_
          rintro e w12 ⟨rfl, hb12⟩
          have HB12 := Lib.hid (HB11.out.on hb12)
          clear hb12
          go_wp2_with fail
          go_ret
          exact ⟨rfl, (HB4.out.on HB.out).on HB12.out⟩
end Go.Proofs.Ytghoipgldnfjoaa.Mu
