/-
  The statement TyCanons, walked.
-/
import Derived.Test.YtomojelaookacaaDoorTyCanB
import Derived.Test.YtomojelaookacaaDoorTyEqs
namespace Go.Proofs.YtomojelaookacaaDoor.Mu
open Go.ChangeShapes Go.WideShapes Go.ChangeAt Go.RowKit Go.Shelf

attribute [local go_sem] Oper.semAt_some
set_option linter.unusedVariables false

def CanO (g : Fo) (T M : List Int) (w : World) (e : Ending) (w' : World) : Prop := ∃ k n v c kids A cap A1 c1 A2 c2, g = .cons k n v c kids .nil ∧ e = .returned (.tuple #[.agg #[.int .u8 k, .int .i64 n, .int .i64 v, .int .u8 c, .slice A kids.len cap], .slice A1 T.length c1, .slice A2 M.length c2]) ∧ KidsAt w' (Old w') A kids.len cap kids ∧ RI .i64 w' w'.heap.size A1 T.length T ∧ RI .i64 w' w'.heap.size A2 M.length M ∧ Bel w w'
theorem canon_of {f : Fo} (he : tyErr f = 0) {k n v c : Int} {kids : Fo} (hf : f = .cons k n v c kids .nil) (A : Option Addr) (len cap : Nat) (w : World) (h : KidsAt w (Old w) A len cap kids) :
    Calls Tryd.prog 28 #[.agg #[.int .u8 k, .int .i64 n, .int .i64 v, .int .u8 c, .slice A len cap]] w (CanO f.canW.1 f.varsF.1 f.varsF.2 w) := by
  obtain ⟨hs, hw⟩ := err_parts he
  have hv := can_vars (f := f)
  have hl := f.nv_len
  subst hf
  refine (canon_any (Fo.cons k n v c kids .nil).nv (by omega) k n v c A len cap kids w h (by simp only [Fo.size] at hs; omega) (well_in _ _ hw fun x hx => hx)).mono ?_
  rintro e w1 ⟨k1, n1, v1, c1, kids1, A1, cap1, A2, c2, A3, c3, h1, rfl, h2, h3, h4, h5⟩
  rw [hv] at h3 h4
  exact ⟨k1, n1, v1, c1, kids1, A1, cap1, A2, c2, A3, c3, h1, by rw [hv], h2.wide fun j hj => hj.2, h3, h4, h5⟩
theorem range5 {w : World} {b : Nat} {x0 x1 x2 x3 x4 : Value} (h : w.rangeAt b 0 #[x0, x1, x2, x3, x4].toList) : w.cell? ⟨b, 0, none⟩ = some x0 ∧ w.cell? ⟨b, 1, none⟩ = some x1 ∧ w.cell? ⟨b, 2, none⟩ = some x2 ∧ w.cell? ⟨b, 3, none⟩ = some x3 ∧ w.cell? ⟨b, 4, none⟩ = some x4 :=
  ⟨h 0 _ rfl, h 1 _ rfl, h 2 _ rfl, h 3 _ rfl, h 4 _ rfl⟩
theorem back_of {f : Fo} (he : tyErr f = 0) (s : Int) (hs0 : 0 ≤ s) (hs1 : s ≤ 5) {tn mn : Nat} (htn : tn = f.varsF.1.length) (hmn : mn = f.varsF.2.length) (A1 : Option Addr) (c1 : Nat) (A2 : Option Addr) (c2 : Nat) (b5 : Nat) (w : World) (k1 : w.heap[b5 + 1]? = some (.cells #[.slice A1 tn c1] 46 (0, 0))) (k2 : w.heap[b5 + 1 + 1]? = some (.cells #[.slice A2 mn c2] 46 (0, 0))) (h1 : RI .i64 w w.heap.size A1 tn f.varsF.1) (h2 : RI .i64 w w.heap.size A2 mn f.varsF.2) :
    Calls Tryd.prog 39 #[.int .i64 s, .pointer (some ⟨b5 + 1, 0, none⟩), .pointer (some ⟨b5 + 1 + 1, 0, none⟩)] w (BackQ tn mn (vlist (f.varsF.1.map (shiftB s))) (mlist (f.varsF.2.map (shiftB s))) w) := by
  subst htn hmn
  obtain ⟨hs, hw⟩ := err_parts he
  have hl := varsF_len f
  refine (back_any f.varsF.1 f.varsF.2 s A1 c1 A2 c2 (b5 + 1) (b5 + 1 + 1) w (by simp [World.cell?, k1]) (by simp [World.cell?, k2]) h1 h2 (Array.getElem?_eq_some_iff.1 k1).1 (Array.getElem?_eq_some_iff.1 k2).1 hs0 hs1 (varsF_in hw).1 (varsF_in hw).2 (by omega) (by omega)).mono ?_
  rintro e w1 ⟨A, c, A', c', rfl, hk, hu, hb⟩
  exact ⟨A, c, A', c', rfl, hk.wide fun j hj => hj.2, hu, hb⟩
theorem put_of {f : Fo} (he : tyErr f = 0) (s : Int) {tn mn : Nat} (htn : tn = f.varsF.1.length) (hmn : mn = f.varsF.2.length) {kg ng vg cg : Int} {kidsg : Fo} (hg : f.canW.1 = .cons kg ng vg cg kidsg .nil) (Ag : Option Addr) (gn capg : Nat) {kx nx vx cx : Int} {kidsx : Fo} (hx : f.ren (shiftB s) (shiftB s) = .cons kx nx vx cx kidsx .nil) (w : World) (hk : KidsAt w (Old w) Ag gn capg kidsg) (A : Option Addr) (c : Nat) (A' : Option Addr) (c' : Nat) (ht : KidsAt w (Old w) A tn c (vlist (f.varsF.1.map (shiftB s)))) (hu : RMu w A' mn (mlist (f.varsF.2.map (shiftB s)))) :
    Calls Tryd.prog 24 #[.agg #[.int .u8 kg, .int .i64 ng, .int .i64 vg, .int .u8 cg, .slice Ag gn capg], .slice A tn c, .slice A' mn c'] w (PutQ kx nx vx cx kidsx.len kidsx w) := by
  subst htn hmn
  obtain ⟨hs, hw⟩ := err_parts he
  have hl := varsF_len f
  have hz := can_size (f := f)
  obtain ⟨b1, b2, b3⟩ := back_ok he s
  rw [hg] at hz b1 b2 b3
  simp only [Fo.size] at hz
  refine (put_any kg ng vg cg Ag gn capg kidsg A f.varsF.1.length c _ A' f.varsF.2.length c' _ w hk (by omega) ht (by rw [vlist_size, List.length_map]; omega) hu (by omega)).mono ?_
  rintro e w1 ⟨h, hb⟩
  rw [if_neg (by rw [b1]; simp), if_neg b2] at h
  obtain ⟨k1, n1, v1, c1, kids1, A1, cap1, h1, rfl, h2⟩ := h
  rw [b3, hx] at h1
  injection h1 with q1 q2 q3 q4 q5 _
  subst q1 q2 q3 q4 q5
  exact ⟨A1, cap1, rfl, h2.wide fun j hj => hj.2, hb⟩
set_option maxRecDepth 100000 in
set_option maxHeartbeats 4000000 in
theorem tyCanons_any (k n v c : Int) (A : Option Addr) (len cap : Nat) (kids : Fo) (sp : Int) (w : World) (h : KidsAt w (Old w) A len cap kids) (hsz : kids.size ≤ 1300000) (ht : Tabs w) :
    Calls Tryd.prog 7 #[.agg #[.int .u8 k, .int .i64 n, .int .i64 v, .int .u8 c, .slice A len cap], .int .i64 sp] w (SameP true w) := by
  obtain ⟨w1, hw1⟩ : ∃ w1, w1 = w.alloc (.cells #[.int .u8 k, .int .i64 n, .int .i64 v, .int .u8 c, .slice A len cap] 27) := ⟨_, rfl⟩
  have q1 := blk1 w (.cells #[.int .u8 k, .int .i64 n, .int .i64 v, .int .u8 c, .slice A len cap] 27)
  have hb1 : Bel w w1 := by rw [hw1]; exact (Bel.refl w).alloc _
  have hs1 : w1.heap.size = w.heap.size + 1 := by rw [hw1]; simp
  rw [← hw1] at q1
  have hk1 := h.bel hb1
  have ht1 := ht.bel hb1
  have HW : Hid (∀ W, Bel w1 W → Calls Tryd.prog 11 #[] W (SameP true W)) := Lib.hid fun W hW => works6_any W (ht1.bel hW)
  have HGr : Hid (∀ W gb, Bel w1 W → W.heap[gb]? = some (.cells #[.int .u8 k, .int .i64 n, .int .i64 v, .int .u8 c, .slice A len cap] 27 (0, 0)) → Calls Tryd.prog 17 #[.slice (some ⟨gb, 0, none⟩) 1 1] W fun e w' => e = .returned (.bool (decide (5000 < (Fo.cons k n v c kids .nil).grt))) ∧ Bel W w') := Lib.hid fun W gb hW hg =>
    great6_any (some ⟨gb, 0, none⟩) 1 1 _ W (kids_one hg (Array.getElem?_eq_some_iff.1 hg).1 (Nat.le_refl _) (hk1.bel hW)) (by simp only [Fo.size]; omega)
  have HM1 : Hid (∀ W, Bel w1 W → Calls Tryd.prog 20 #[.agg #[.int .u8 k, .int .i64 n, .int .i64 v, .int .u8 c, .slice A len cap]] W fun e w' => e = .returned (.int .i64 (tyErr (.cons k n v c kids .nil))) ∧ Bel W w') := Lib.hid fun W hW => tmay_any k n v c A len cap kids W (hk1.bel hW) (by omega)
  obtain ⟨f, hf⟩ : ∃ f, f = Fo.cons k n v c kids .nil := ⟨_, rfl⟩
  have HF := Lib.hid hf
  have HC1 : Hid (tyErr f = 0 → ∀ W, Bel w1 W → Calls Tryd.prog 28 #[.agg #[.int .u8 k, .int .i64 n, .int .i64 v, .int .u8 c, .slice A len cap]] W (CanO f.canW.1 f.varsF.1 f.varsF.2 W)) := Lib.hid fun he W hW => canon_of he hf A len cap W (hk1.bel hW)
  have HK := Lib.hid hk1
  rw [← hf] at HGr HM1
  obtain ⟨g, hg⟩ : ∃ g, g = decide (5000 < f.grt) := ⟨_, rfl⟩
  obtain ⟨e1, he1⟩ : ∃ e1, e1 = tyErr f := ⟨_, rfl⟩
  rw [← hg] at HGr
  rw [← he1] at HM1
  have HE := Lib.hid he1
  have HB1 := Lib.hid hb1
  have HQ1 := Lib.hid q1
  have HS1 := Lib.hid hs1
  clear ht1 h ht hg he1 hk1 hf
  go_enter Tryd.func7, Tryd.ntmps7
  go_wp2_with fail
  rw [← hw1]
  clear hw1
  refine (HGr.out _ _ ((Bel.refl w1).alloc _) (blk_at (by have := HS1.out; omega))).mono ?_
  rintro e w3 ⟨rfl, hb3⟩
  have HB3 := Lib.hid ((((Bel.refl w1).alloc _)).on hb3)
  clear hb3 q1 HGr
  cases g
  case true =>
    go_wp2_with fail
    refine (HW.out _ HB3.out).mono ?_
    rintro e w9 ⟨rfl, hb9⟩
    have HB9 := Lib.hid (HB3.out.on hb9)
    clear hb9
    go_wp2_with fail
    go_ret
    exact ⟨rfl, HB1.out.on HB9.out⟩
  have hlt3 : w.heap.size < w3.heap.size := by have := HB3.out.size; omega
  obtain ⟨⟨m0, m1, m2, m3, m4⟩, _⟩ := cells5 (HB3.out.blk HQ1.out)
  go_wp2_with fail
  refine (HM1.out _ HB3.out).mono ?_
  rintro e w4 ⟨rfl, hb4⟩
  have HB4 := Lib.hid (HB3.out.on hb4)
  clear hb4 m0 m1 m2 m3 m4 hlt3 HB3 hb1 hs1 HM1
  by_cases d1 : e1 = 0
  case neg =>
    have d1' : (e1 != 0) = true := by simp [d1]
    go_wp2_with fail
    refine (HW.out _ HB4.out).mono ?_
    rintro e w9 ⟨rfl, hb9⟩
    have HB9 := Lib.hid (HB4.out.on hb9)
    clear hb9
    go_wp2_with fail
    go_ret
    exact ⟨rfl, HB1.out.on HB9.out⟩
  have d1' : (e1 != 0) = false := by simp [d1]
  by_cases d2 : sp < 1
  case pos =>
    have d2' : decide (sp < 1) = true := by simp [d2]
    go_wp2_with fail
    refine (HW.out _ HB4.out).mono ?_
    rintro e w9 ⟨rfl, hb9⟩
    have HB9 := Lib.hid (HB4.out.on hb9)
    clear hb9
    go_wp2_with fail
    go_ret
    exact ⟨rfl, HB1.out.on HB9.out⟩
  have d2' : decide (sp < 1) = false := by simp [d2]
  by_cases d3 : 5 < sp
  case pos =>
    have d3' : decide (5 < sp) = true := by simp [d3]
    go_wp2_with fail
    refine (HW.out _ HB4.out).mono ?_
    rintro e w9 ⟨rfl, hb9⟩
    have HB9 := Lib.hid (HB4.out.on hb9)
    clear hb9
    go_wp2_with fail
    go_ret
    exact ⟨rfl, HB1.out.on HB9.out⟩
  have d3' : decide (5 < sp) = false := by simp [d3]
  have hlt4 : w.heap.size < w4.heap.size := by have := HB4.out.size; have := HS1.out; omega
  obtain ⟨⟨m0, m1, m2, m3, m4⟩, _⟩ := cells5 (HB4.out.blk HQ1.out)
  go_wp2_with fail
  have HE0 : Hid (tyErr f = 0) := Lib.hid (by rw [← HE.out]; exact d1)
  subst d1
  clear HE m0 m1 m2 m3 m4 d1' d2' d3'
  refine (HC1.out HE0.out _ HB4.out).mono ?_
  rintro e w5 ⟨kg, ng, vg, cg, kidsg, Ag, capg, At, ct, Am, cm, eg, rfl, hkg, hT, hM, hb5⟩
  obtain ⟨tn, htn⟩ : ∃ n, n = f.varsF.1.length := ⟨_, rfl⟩
  obtain ⟨mn, hmn⟩ : ∃ n, n = f.varsF.2.length := ⟨_, rfl⟩
  obtain ⟨gn, hgn⟩ : ∃ n, n = kidsg.len := ⟨_, rfl⟩
  rw [← htn] at hT
  rw [← hmn] at hM
  rw [← hgn] at hkg
  rw [← htn, ← hmn, ← hgn]
  have HB5 := Lib.hid (HB4.out.on hb5)
  have HKG := Lib.hid hkg
  have HT := Lib.hid hT
  have HM := Lib.hid hM
  have HEG := Lib.hid eg
  have HTN := Lib.hid htn
  have HMN := Lib.hid hmn
  clear hkg hT hM eg htn hmn hgn hb5 HC1
  go_wp2_with fail
  obtain ⟨p1, p2, p3⟩ := blk3 w5 (.cells #[.int .u8 kg, .int .i64 ng, .int .i64 vg, .int .u8 cg, .slice Ag gn capg] 27) (.cells #[.slice At tn ct] 46) (.cells #[.slice Am mn cm] 46)
  obtain ⟨w6, hw6⟩ : ∃ w6, w6 = ((w5.alloc (.cells #[.int .u8 kg, .int .i64 ng, .int .i64 vg, .int .u8 cg, .slice Ag gn capg] 27)).alloc (.cells #[.slice At tn ct] 46)).alloc (.cells #[.slice Am mn cm] 46) := ⟨_, rfl⟩
  have hb6 : Bel w5 w6 := by rw [hw6]; exact (((Bel.refl w5).alloc _).alloc _).alloc _
  have hs6 : w6.heap.size = w5.heap.size + 3 := by rw [hw6]; simp
  rw [← hw6] at p1 p2 p3 ⊢
  obtain ⟨b5, hb5⟩ : ∃ b, b = w5.heap.size := ⟨_, rfl⟩
  rw [← hb5] at p1 p2 p3 hs6 ⊢
  have HP := Lib.hid (And.intro p1 (And.intro p2 p3))
  have HB6 := Lib.hid (HB5.out.on hb6)
  have HS6 := Lib.hid hs6
  have hkg6 := HKG.out.bel hb6
  have HKG6 := Lib.hid hkg6
  have HT6 := Lib.hid (HT.out.bel hb6)
  have HM6 := Lib.hid (HM.out.bel hb6)
  have HEG0 : Hid (tyErr f.canW.1 = 0) := Lib.hid (err_of (by rw [can_size]; exact (err_parts HE0.out).1) (can_well (err_parts HE0.out).1 (err_parts HE0.out).2))
  have HC2 : Hid (∀ W, Bel w6 W → Calls Tryd.prog 28 #[.agg #[.int .u8 kg, .int .i64 ng, .int .i64 vg, .int .u8 cg, .slice Ag gn capg]] W (CanO f.canW.1.canW.1 f.canW.1.varsF.1 f.canW.1.varsF.2 W)) := Lib.hid fun W hW => canon_of HEG0.out HEG.out Ag gn capg W (HKG6.out.bel hW)
  clear p1 p2 p3 hb6 hs6 hkg6 hw6 hb5 HKG HT HM HB4
  refine (HC2.out _ (Bel.refl _)).mono ?_
  rintro e w7 ⟨k7, n7, v7, c7, kids7, A7, cap7, At7, ct7, Am7, cm7, eg7, rfl, hkg7, _, _, hb7⟩
  have e7 : f.canW.1.varsF.1.length = tn ∧ f.canW.1.varsF.2.length = mn := by
    have h1 := can_lens (f := f)
    have h2 := can_vars (f := f.canW.1)
    rw [h2] at h1
    rw [HTN.out, HMN.out]
    exact h1.2
  rw [can_lens.1, HEG.out] at eg7
  injection eg7 with e1 e2 e3 e4 e5 _
  subst e1 e2 e3 e4 e5
  rw [e7.1, e7.2]
  clear e7 HC2
  rw [show kidsg.len = gn from (HKG6.out.1).symm] at hkg7 ⊢
  have HKG7 := Lib.hid hkg7
  have HB7 := Lib.hid (HB6.out.on hb7)
  have hp : w7.heap[b5]? = some (.cells #[.int .u8 kg, .int .i64 ng, .int .i64 vg, .int .u8 cg, .slice Ag gn capg] 27 (0, 0)) ∧ w7.heap[b5 + 1]? = some (.cells #[.slice At tn ct] 46 (0, 0)) ∧ w7.heap[b5 + 1 + 1]? = some (.cells #[.slice Am mn cm] 46 (0, 0)) := ⟨hb7.blk HP.out.1, hb7.blk HP.out.2.1, hb7.blk HP.out.2.2⟩
  have l7 : b5 + 1 + 1 < w7.heap.size := by have := HS6.out; have := hb7.size; omega
  have l7a : b5 < w7.heap.size := by omega
  have l7b : b5 + 1 < w7.heap.size := by omega
  obtain ⟨⟨m0, m1, m2, m3, m4⟩, _⟩ := cells5 hp.1
  have m5 : w7.cell? ⟨b5 + 1, 0, none⟩ = some (.slice At tn ct) := by simp [World.cell?, hp.2.1]
  have m6 : w7.cell? ⟨b5 + 1 + 1, 0, none⟩ = some (.slice Am mn cm) := by simp [World.cell?, hp.2.2]
  have HP7 := Lib.hid hp
  have HKG67 := Lib.hid (HKG6.out.bel hb7)
  have HT7 := Lib.hid (HT6.out.bel hb7)
  have HM7 := Lib.hid (HM6.out.bel hb7)
  clear hp hkg7 hb7 HKG6 HT6 HM6 HP HS6 HB6 HB5
  go_wp2_with fail
  have hsa := same_any kg ng vg cg Ag gn capg kidsg kg ng vg cg A7 gn cap7 kidsg (w7.alloc (.cells #[.int .u8 kg, .int .i64 ng, .int .i64 vg, .int .u8 cg, .slice A7 gn cap7] 27)) (HKG67.out.bel ((Bel.refl _).alloc _)) (HKG7.out.bel ((Bel.refl _).alloc _)) (by have h := can_size (f := f); rw [HEG.out] at h; simp only [Fo.size] at h; have := (err_parts HE0.out).1; omega) (by have h := can_size (f := f); rw [HEG.out] at h; simp only [Fo.size] at h; have := (err_parts HE0.out).1; omega)
  rw [Fo.eqB_refl] at hsa
  refine hsa.mono ?_
  rintro e w8 ⟨rfl, hb8⟩
  have hb78 : Bel w7 w8 := ((Bel.refl w7).alloc _).on hb8
  have HB8 := Lib.hid (HB7.out.on hb78)
  have hp : w8.heap[b5]? = some (.cells #[.int .u8 kg, .int .i64 ng, .int .i64 vg, .int .u8 cg, .slice Ag gn capg] 27 (0, 0)) ∧ w8.heap[b5 + 1]? = some (.cells #[.slice At tn ct] 46 (0, 0)) ∧ w8.heap[b5 + 1 + 1]? = some (.cells #[.slice Am mn cm] 46 (0, 0)) := ⟨hb78.blk HP7.out.1, hb78.blk HP7.out.2.1, hb78.blk HP7.out.2.2⟩
  have HL8 : Hid (b5 + 1 + 1 < w8.heap.size) := Lib.hid (by have := hb78.size; omega)
  have HKG8 := Lib.hid (HKG67.out.bel hb78)
  have HT8 := Lib.hid (HT7.out.bel hb78)
  have HM8 := Lib.hid (HM7.out.bel hb78)
  clear m0 m1 m2 m3 m4 m5 m6
  have m5 : w8.cell? ⟨b5 + 1, 0, none⟩ = some (.slice At tn ct) := by simp [World.cell?, hp.2.1]
  have m6 : w8.cell? ⟨b5 + 1 + 1, 0, none⟩ = some (.slice Am mn cm) := by simp [World.cell?, hp.2.2]
  have HP8 := Lib.hid hp
  clear hp hsa hb8 hb78 HKG67 HT7 HM7 HKG7 HB7 HP7 l7 l7a l7b
  go_wp2_with fail
  have sp0 : 0 ≤ sp := by omega
  have sp5 : sp ≤ 5 := by omega
  have hx0 : f.ren (shiftB 0) (shiftB 0) = .cons k n v c kids .nil := (back_zero HE0.out).trans HF.out
  obtain ⟨ky, ny, vy, cy, kidsy, hy0⟩ : ∃ ky ny vy cy kidsy, f.ren (shiftB sp) (shiftB sp) = .cons ky ny vy cy kidsy .nil := by rw [HF.out]; exact ⟨_, _, _, _, _, rfl⟩
  have hwx : kids.well = true := by have h := (err_parts HE0.out).2; rw [HF.out] at h; simp only [Fo.well, Bool.and_eq_true] at h; exact h.2.1
  have hwy : kidsy.well = true := by have h := back_well HE0.out sp; rw [hy0] at h; simp only [Fo.well, Bool.and_eq_true] at h; exact h.2.1
  have HBK : Hid (∀ s : Int, 0 ≤ s → s ≤ 5 → ∀ W, Bel w8 W → Calls Tryd.prog 39 #[.int .i64 s, .pointer (some ⟨b5 + 1, 0, none⟩), .pointer (some ⟨b5 + 1 + 1, 0, none⟩)] W (BackQ tn mn (vlist (f.varsF.1.map (shiftB s))) (mlist (f.varsF.2.map (shiftB s))) W)) := Lib.hid fun s h0 h1 W hW => back_of HE0.out s h0 h1 HTN.out HMN.out At ct Am cm b5 W (hW.blk HP8.out.2.1) (hW.blk HP8.out.2.2) (HT8.out.bel hW) (HM8.out.bel hW)
  have HPT : Hid (∀ (s kx nx vx cx : Int) (kidsx : Fo), f.ren (shiftB s) (shiftB s) = .cons kx nx vx cx kidsx .nil → ∀ W A c A' c', Bel w8 W → KidsAt W (Old W) A tn c (vlist (f.varsF.1.map (shiftB s))) → RMu W A' mn (mlist (f.varsF.2.map (shiftB s))) → Calls Tryd.prog 24 #[.agg #[.int .u8 kg, .int .i64 ng, .int .i64 vg, .int .u8 cg, .slice Ag gn capg], .slice A tn c, .slice A' mn c'] W (PutQ kx nx vx cx kidsx.len kidsx W)) := Lib.hid fun s kx nx vx cx kidsx hx W A c A' c' hW h1 h2 => put_of HE0.out s HTN.out HMN.out HEG.out Ag gn capg hx W (HKG8.out.bel hW) A c A' c' h1 h2
  have HX0 := Lib.hid hx0
  have HY0 := Lib.hid hy0
  have HWX := Lib.hid hwx
  have HWY := Lib.hid hwy
  have HR8 := Lib.hid (regC8_any (id := 8) b5 kg ng vg cg Ag gn capg tn mn (vlist (f.varsF.1.map (shiftB 0))) (mlist (f.varsF.2.map (shiftB 0))) k n v c kids.len kids sp w8.drew.heap.size)
  clear hx0 hy0 hwx hwy m5 m6
  refine HR8.out _ _ _ _ _ _ _ _ _ _ _ _ _ _ _ _ _ _ _ _ _ _ _ _ _ _ _ _ _ _ _ _ _ _ _ _ _ _ _ _ _ _ _ _ _ _ _ _ _ _ _ _ _ _ _ _ _ _ _ _ _ _ _ _ _ _ _ _ _ _ _ _ _ _ _ _ _ _ _ _ _ _ _ _ _ _ _ _ _ _ _ _ _ _ _ _ _ _ _ _ _ _ _ _ _ _ _ _ _ _ _ _ _ _ _ _ _ _ _ _ _ _ w8 rfl HWX.out (((Bel.refl w8).drew).blk HP8.out.1) (fun W hW => HBK.out 0 (by omega) (by omega) W (((Bel.refl w8).drew).on hW)) (fun W A' a' B' b' hW h1 h2 => HPT.out 0 k n v c kids HX0.out W A' a' B' b' (((Bel.refl w8).drew).on hW) h1 h2) _ ?_
  intro V w9 bx Ax capx hb9 hvx hlx hbx hrx hkx hve
  have HB9 := Lib.hid (((Bel.refl w8).drew).on hb9)
  have HRX := Lib.hid hrx
  have HKX := Lib.hid hkx
  simp only [regC8, List.drop_succ_cons, List.drop_zero, acVC8, hvx, hve]
  clear hb9 hvx hve HR8 hrx hkx
  go_wp2_with fail
  have HR9 := Lib.hid (regC9_any (id := 9) b5 kg ng vg cg Ag gn capg tn mn (vlist (f.varsF.1.map (shiftB sp))) (mlist (f.varsF.2.map (shiftB sp))) ky ny vy cy kidsy.len kidsy sp w9.drew.heap.size)
  have HD9 := Lib.hid (HB9.out.drew)
  refine HR9.out _ _ _ _ _ _ _ _ _ _ _ _ _ _ _ _ _ _ _ _ _ _ _ _ _ _ _ _ _ _ _ _ _ _ _ _ _ _ _ _ _ _ _ _ _ _ _ _ _ _ _ _ _ _ _ _ _ _ _ _ _ _ _ _ _ _ _ _ _ _ _ _ _ _ _ _ _ _ _ _ _ _ _ _ _ _ _ _ _ _ _ _ _ _ _ _ _ _ _ _ _ _ _ _ _ _ _ _ _ _ _ _ _ _ _ _ _ _ _ _ _ _ w9 rfl HWY.out (HD9.out.blk HP8.out.1) (fun W hW => HBK.out sp sp0 sp5 W (HD9.out.on hW)) (fun W A' a' B' b' hW h1 h2 => HPT.out sp ky ny vy cy kidsy HY0.out W A' a' B' b' (HD9.out.on hW) h1 h2) _ ?_
  intro V' w10 by_ Ay capy hb10 hvy hly hby hry hky hve
  have HB10 := Lib.hid (HD9.out.on hb10)
  have HB910 := Lib.hid (((Bel.refl w9).drew).on hb10)
  have HRY := Lib.hid hry
  have HKY := Lib.hid hky
  simp only [regC9, List.drop_succ_cons, List.drop_zero, acVC9, hvy, hve]
  clear hb10 hvy hve HR9 hky
  obtain ⟨m0, m1, m2, m3, m4⟩ := range5 hry
  clear hry
  go_wp2_with fail
  have hey : tyErr (f.ren (shiftB sp) (shiftB sp)) = 0 := err_of (by rw [ren_size]; exact (err_parts HE0.out).1) (back_well HE0.out sp)
  refine (canon_of hey HY0.out Ay kidsy.len capy w10 HKY.out).mono ?_
  rintro e w11 ⟨kz, nz, vz, cz, kidsz, Az, capz, Atz, ctz, Amz, cmz, ez, rfl, hkz, _, _, hb11⟩
  rw [back_can HE0.out, HEG.out] at ez
  injection ez with e1 e2 e3 e4 e5 _
  subst e1 e2 e3 e4 e5
  have HB11 := Lib.hid (HB10.out.on hb11)
  have HB911 := Lib.hid (HB910.out.on hb11)
  have HKZ := Lib.hid hkz
  obtain ⟨tz, htz⟩ : ∃ n, n = (f.ren (shiftB sp) (shiftB sp)).varsF.1.length := ⟨_, rfl⟩
  obtain ⟨mz, hmz⟩ : ∃ n, n = (f.ren (shiftB sp) (shiftB sp)).varsF.2.length := ⟨_, rfl⟩
  rw [← htz, ← hmz]
  clear m0 m1 m2 m3 m4 htz hmz hkz hb11 hey
  have hbx11 : bx < w11.heap.size := Nat.lt_of_lt_of_le hbx HB911.out.size
  obtain ⟨r0, r1, r2, r3, r4⟩ := range5 HRX.out
  have m0 := (HB911.out.cell (p := ⟨bx, 0, none⟩) hbx).trans r0
  have m1 := (HB911.out.cell (p := ⟨bx, 1, none⟩) hbx).trans r1
  have m2 := (HB911.out.cell (p := ⟨bx, 2, none⟩) hbx).trans r2
  have m3 := (HB911.out.cell (p := ⟨bx, 3, none⟩) hbx).trans r3
  have m4 := (HB911.out.cell (p := ⟨bx, 4, none⟩) hbx).trans r4
  have hq := HB11.out.blk HP8.out.1
  have hb5l := (Array.getElem?_eq_some_iff.1 hq).1
  obtain ⟨⟨o0, o1, o2, o3, o4⟩, _⟩ := cells5 hq
  have ht := HB11.out.blk (HB8.out.blk HQ1.out)
  have htl := (Array.getElem?_eq_some_iff.1 ht).1
  obtain ⟨⟨t0, t1, t2, t3, t4⟩, _⟩ := cells5 ht
  clear r0 r1 r2 r3 r4 hq ht
  go_wp2_with fail
  clear m0 m1 m2 m3 m4 o0 o1 o2 o3 o4 t0 t1 t2 t3 t4 htl hb5l hbx11
  have hs1' : kids.size ≤ 1400000 := by omega
  have hs2' : kidsg.size ≤ 1400000 := by have h := can_size (f := f); rw [HEG.out] at h; simp only [Fo.size] at h; have := (err_parts HE0.out).1; omega
  have h111 : Bel w1 w11 := HB8.out.on HB11.out
  have hsa := same_any k n v c Ax kids.len capx kids k n v c A len cap kids (w11.alloc (.cells #[.int .u8 kg, .int .i64 ng, .int .i64 vg, .int .u8 cg, .slice Az kidsg.len capz] 27)) (HKX.out.bel (HB911.out.alloc _)) (HK.out.bel (h111.alloc _)) hs1' hs1'
  rw [Fo.eqB_refl] at hsa
  refine hsa.mono ?_
  rintro e w12 ⟨rfl, hb12⟩
  have hz := hb12.blk (blk1 w11 (.cells #[.int .u8 kg, .int .i64 ng, .int .i64 vg, .int .u8 cg, .slice Az kidsg.len capz] 27))
  have HZ := Lib.hid hz
  have hb1112 : Bel w11 w12 := ((Bel.refl w11).alloc _).on hb12
  have HB12 := Lib.hid (HB11.out.on hb1112)
  have HKZ12 := Lib.hid (HKZ.out.bel hb1112)
  have hq := HB12.out.blk HP8.out.1
  obtain ⟨⟨o0, o1, o2, o3, o4⟩, _⟩ := cells5 hq
  obtain ⟨⟨m0, m1, m2, m3, m4⟩, _⟩ := cells5 hz
  clear hsa hb12 hz hb1112 hq h111
  go_wp2_with fail
  have hsa := same_any kg ng vg cg Az kidsg.len capz kidsg kg ng vg cg Ag gn capg kidsg w12 HKZ12.out (HKG8.out.bel HB12.out) hs2' hs2'
  rw [Fo.eqB_refl] at hsa
  refine hsa.mono ?_
  rintro e w13 ⟨rfl, hb13⟩
  have HB13 := Lib.hid (HB8.out.on (HB12.out.on hb13))
  clear hsa hb13 m0 m1 m2 m3 m4 o0 o1 o2 o3 o4
  go_wp2_with fail
  refine (HW.out _ HB13.out).mono ?_
  rintro e w14 ⟨rfl, hb14⟩
  have HB14 := Lib.hid (HB13.out.on hb14)
  clear hb14
  go_wp2_with fail
  go_ret
  exact ⟨rfl, HB1.out.on HB14.out⟩
end Go.Proofs.YtomojelaookacaaDoor.Mu

