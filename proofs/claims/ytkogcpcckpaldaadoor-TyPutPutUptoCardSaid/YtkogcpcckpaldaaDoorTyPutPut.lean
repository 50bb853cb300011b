/-
  The statement TyPutPut, walked.
-/
import Derived.Test.YtkogcpcckpaldaaDoorTyPpM
import Derived.Test.YtkogcpcckpaldaaDoorTyEqs
namespace Go.Proofs.YtkogcpcckpaldaaDoor.Mu
open Go.ChangeShapes Go.WideShapes Go.ChangeAt Go.RowKit Go.Shelf

attribute [local go_sem] Oper.semAt_some
set_option linter.unusedVariables false

theorem all_in : ∀ (f : Fo) (VS : List Int), f.All (fun _ n v _ _ => (Lit.int .i64 n).wf = true ∧ (Lit.int .i64 v).wf = true) → (∀ x ∈ f.nv, x ∈ VS) → f.All (inVS VS)
  | .nil, _, _, _ => trivial
  | .cons k n v c kids rest, VS, hw, hs => ⟨⟨⟨hs n (by simp [Fo.nv]), hs v (by simp [Fo.nv])⟩, hw.1⟩, all_in kids VS hw.2.1 fun x hx => hs x (by simp [Fo.nv, hx]), all_in rest VS hw.2.2 fun x hx => hs x (by simp [Fo.nv, hx])⟩
/-- What Put answers. -/
def PutR (f ts : Fo) (ms : List (Int × Int)) (w : World) (e : Ending) (w' : World) : Prop :=
  ∃ k n v c A l cap kids r, e = .returned (.tuple #[.agg #[.int .u8 k, .int .i64 n, .int .i64 v, .int .u8 c, .slice A l cap], .int .i64 r]) ∧ KidsAt w' (fun j => w.heap.size ≤ j ∧ j < w'.heap.size) A l cap kids ∧ kids.size ≤ 1400000 ∧
    (r = 0 → PutMay f ts ms ∧ Fo.subst ts ts.len ms f = .cons k n v c kids .nil) ∧ (r ≠ 0 → ¬ PutMay f ts ms) ∧ Bel w w'
theorem put_R {f : Fo} {k n v c : Int} {kids : Fo} (hf : f = .cons k n v c kids .nil) (A : Option Addr) (len cap : Nat) (T : Option Addr) (tn tc : Nat) (ts : Fo) (U : Option Addr) (un uc : Nat) (ms : List (Int × Int)) (w : World) (h : KidsAt w (Old w) A len cap kids) (hsz : kids.size ≤ 1400000) (ht : KidsAt w (Old w) T tn tc ts) (hts : TsOk ts) (hu : RMu w U un ms) (hun : un ≤ 9223372036854775807) :
    Calls Tryd.prog 7 #[.agg #[.int .u8 k, .int .i64 n, .int .i64 v, .int .u8 c, .slice A len cap], .slice T tn tc, .slice U un uc] w (PutR f ts ms w) := by
  subst hf
  have htn := ht.1
  refine (put_any k n v c A len cap kids T tn tc ts U un uc ms w h hsz ht hts hu hun).mono ?_
  rintro e w1 ⟨hp, hb⟩
  subst htn
  by_cases h1 : okPut (.cons k n v c kids .nil) ts ms = false
  · rw [if_pos h1] at hp
    exact ⟨0, 0, 0, 0, none, 0, 0, .nil, 2, hp, ⟨rfl, Nat.le_refl _, fun h => absurd h (by omega)⟩, Nat.zero_le _, fun h => absurd h (by decide), fun _ h => (by rw [h.1] at h1; cases h1), hb⟩
  · rw [if_neg h1] at hp
    by_cases h2 : 300 < Fo.putSize ts ts.len (.cons k n v c kids .nil)
    · rw [if_pos h2] at hp
      exact ⟨0, 0, 0, 0, none, 0, 0, .nil, 3, hp, ⟨rfl, Nat.le_refl _, fun h => absurd h (by omega)⟩, Nat.zero_le _, fun h => absurd h (by decide), fun _ h => (by have := h.2; omega), hb⟩
    · rw [if_neg h2] at hp
      obtain ⟨k1, n1, v1, c1, kids1, A1, cap1, e1, rfl, h3⟩ := hp
      rw [puts_eq] at e1
      have h1' : okPut (.cons k n v c kids .nil) ts ms = true := by simpa using h1
      have hs := subst_size (ts := ts) (ms := ms) _ (okPut_parts h1').1
      rw [e1] at hs
      simp only [Fo.size] at hs
      exact ⟨k1, n1, v1, c1, A1, kids1.len, cap1, kids1, 0, rfl, h3, by omega, fun _ => ⟨⟨h1', by omega⟩, e1⟩, fun h => absurd rfl h, hb⟩
theorem grt_len : ∀ f : Fo, f.len ≤ f.grt
  | .nil => Nat.le_refl _
  | .cons k n v c kids rest => by have := grt_len rest; simp only [Fo.len, Fo.grt]; omega
set_option maxRecDepth 100000 in
set_option maxHeartbeats 4000000 in
theorem tyPutPut_any (k n v c : Int) (A : Option Addr) (len cap : Nat) (kids : Fo) (T : Option Addr) (tn tc : Nat) (ts : Fo) (U : Option Addr) (un uc : Nat) (us : Fo) (M : Option Addr) (mn mc : Nat) (ms : List (Int × Int)) (N : Option Addr) (nn nc : Nat) (ns : List (Int × Int)) (w : World)
    (h : KidsAt w (Old w) A len cap kids) (hT : KidsAt w (Old w) T tn tc ts) (hU : KidsAt w (Old w) U un uc us) (hM : RMu w M mn ms) (hN : RMu w N nn ns) (hsz : kids.size + ts.size + us.size + mn + nn ≤ 1300000) (hwf : (Fo.cons k n v c kids .nil).All (fun _ n v _ _ => (Lit.int .i64 n).wf = true ∧ (Lit.int .i64 v).wf = true)) (ht : Tabs w) :
    Calls Tryd.prog 4 #[.agg #[.int .u8 k, .int .i64 n, .int .i64 v, .int .u8 c, .slice A len cap], .slice T tn tc, .slice U un uc, .slice M mn mc, .slice N nn nc] w (SameP true w) := by
  obtain ⟨w1, hw1⟩ : ∃ w1, w1 = ((w.alloc (.cells #[.int .u8 k, .int .i64 n, .int .i64 v, .int .u8 c, .slice A len cap] 27)).alloc (.cells #[.slice T tn tc] 25)).alloc (.cells #[.slice M mn mc] 28) := ⟨_, rfl⟩
  have q1 := blk3 w (.cells #[.int .u8 k, .int .i64 n, .int .i64 v, .int .u8 c, .slice A len cap] 27) (.cells #[.slice T tn tc] 25) (.cells #[.slice M mn mc] 28)
  have hb1 : Bel w w1 := by rw [hw1]; exact (((Bel.refl w).alloc _).alloc _).alloc _
  have hs1 : w1.heap.size = w.heap.size + 3 := by rw [hw1]; simp
  rw [← hw1] at q1
  have hk1 := h.bel hb1
  have ht1 := ht.bel hb1
  obtain ⟨f, hf⟩ : ∃ f, f = Fo.cons k n v c kids .nil := ⟨_, rfl⟩
  have HF := Lib.hid hf
  have HW : Hid (∀ W, Bel w1 W → Calls Tryd.prog 6 #[] W (SameP true W)) := Lib.hid fun W hW => works6_any W (ht1.bel hW)
  have HGr : Hid (∀ W gb, Bel w1 W → W.heap[gb]? = some (.cells #[.int .u8 k, .int .i64 n, .int .i64 v, .int .u8 c, .slice A len cap] 27 (0, 0)) → Calls Tryd.prog 5 #[.slice (some ⟨gb, 0, none⟩) 1 1] W fun e w' => e = .returned (.bool (decide (5000 < f.grt))) ∧ Bel W w') := Lib.hid fun W gb hW hg => by
    rw [hf]
    exact great6_any (some ⟨gb, 0, none⟩) 1 1 _ W (kids_one hg (Array.getElem?_eq_some_iff.1 hg).1 (Nat.le_refl _) (hk1.bel hW)) (by simp only [Fo.size]; omega)
  have HGt : Hid (∀ W, Bel w1 W → Calls Tryd.prog 5 #[.slice T tn tc] W fun e w' => e = .returned (.bool (decide (5000 < ts.grt))) ∧ Bel W w') := Lib.hid fun W hW => great6_any T tn tc ts W (hT.bel (hb1.on hW)) (by omega)
  have HGu : Hid (∀ W, Bel w1 W → Calls Tryd.prog 5 #[.slice U un uc] W fun e w' => e = .returned (.bool (decide (5000 < us.grt))) ∧ Bel W w') := Lib.hid fun W hW => great6_any U un uc us W (hU.bel (hb1.on hW)) (by omega)
  have HM1 : Hid (∀ W, Bel w1 W → Calls Tryd.prog 21 #[.agg #[.int .u8 k, .int .i64 n, .int .i64 v, .int .u8 c, .slice A len cap]] W fun e w' => e = .returned (.int .i64 (tyErr f)) ∧ Bel W w') := Lib.hid fun W hW => by
    rw [hf]
    exact tmay_any k n v c A len cap kids W (hk1.bel hW) (by omega)
  have HVa : Hid (∀ W, Bel w1 W → Calls Tryd.prog 13 #[.agg #[.int .u8 k, .int .i64 n, .int .i64 v, .int .u8 c, .slice A len cap]] W (VarsP f.varsF.1 f.varsF.2 W)) := Lib.hid fun W hW => by
    rw [hf]
    exact vars_any (Fo.cons k n v c kids .nil).nv (by rw [Fo.nv_len]; simp only [Fo.size]; omega) k n v c A len cap kids W (hk1.bel hW) (by omega) (all_in _ _ hwf fun x hx => hx)
  have HB1 := Lib.hid hb1
  have HQ1 := Lib.hid q1
  have HS1 := Lib.hid hs1
  have HK := Lib.hid hk1
  have HT := Lib.hid (hT.bel hb1)
  have HU := Lib.hid (hU.bel hb1)
  have HM := Lib.hid (hM.bel hb1)
  have HN := Lib.hid (hN.bel hb1)
  obtain ⟨g1, hg1⟩ : ∃ g, g = decide (5000 < f.grt) := ⟨_, rfl⟩
  obtain ⟨g2, hg2⟩ : ∃ g, g = decide (5000 < ts.grt) := ⟨_, rfl⟩
  obtain ⟨g3, hg3⟩ : ∃ g, g = decide (5000 < us.grt) := ⟨_, rfl⟩
  rw [← hg1] at HGr
  rw [← hg2] at HGt
  rw [← hg3] at HGu
  have HG2 := Lib.hid hg2
  clear ht1 h ht hk1 hf hwf hT hU hM hN hg1 hg2 hg3
  go_enter Tryd.func4, Tryd.ntmps4
  go_wp2_with fail
  rw [← hw1]
  clear hw1
  refine (HGr.out _ _ ((Bel.refl w1).alloc _) (blk_at (by have := HS1.out; omega))).mono ?_
  rintro e w2 ⟨rfl, hb2⟩
  have HB2 := Lib.hid ((((Bel.refl w1).alloc _)).on hb2)
  clear hb2 q1 HGr
  have hlt2 : w.heap.size + 1 < w2.heap.size := by have := HB2.out.size; have := HS1.out; omega
  obtain ⟨m0, _⟩ := one_of (HB2.out.blk HQ1.out.2.1)
  cases g1
  case true =>
    go_wp2_with fail
    refine (HW.out _ HB2.out).mono ?_
    rintro e w9 ⟨rfl, hb9⟩
    have HB9 := Lib.hid (HB2.out.on hb9)
    clear hb9
    go_wp2_with fail
    go_ret
    exact ⟨rfl, HB1.out.on HB9.out⟩
  go_wp2_with fail
  refine (HGt.out _ HB2.out).mono ?_
  rintro e w3 ⟨rfl, hb3⟩
  have HB3 := Lib.hid (HB2.out.on hb3)
  clear hb3 m0 hlt2 HGt HB2
  cases g2
  case true =>
    go_wp2_with fail
    refine (HW.out _ HB3.out).mono ?_
    rintro e w9 ⟨rfl, hb9⟩
    have HB9 := Lib.hid (HB3.out.on hb9)
    clear hb9
    go_wp2_with fail
    go_ret
    exact ⟨rfl, HB1.out.on HB9.out⟩
  go_wp2_with fail
  refine (HGu.out _ HB3.out).mono ?_
  rintro e w4 ⟨rfl, hb4⟩
  have HB4 := Lib.hid (HB3.out.on hb4)
  clear hb4 HGu HB3
  cases g3
  case true =>
    go_wp2_with fail
    refine (HW.out _ HB4.out).mono ?_
    rintro e w9 ⟨rfl, hb9⟩
    have HB9 := Lib.hid (HB4.out.on hb9)
    clear hb9
    go_wp2_with fail
    go_ret
    exact ⟨rfl, HB1.out.on HB9.out⟩
  have hlt4 : w.heap.size + 1 + 1 < w4.heap.size := by have := HB4.out.size; have := HS1.out; omega
  obtain ⟨m0, _⟩ := one_of (HB4.out.blk HQ1.out.2.2)
  by_cases d1 : 1000 < mn + nn
  case pos =>
    have d1' : decide ((1000 : Int) < (mn : Int) + (nn : Int)) = true := by rw [decide_eq_true_eq]; omega
    go_wp2_with fail
    refine (HW.out _ HB4.out).mono ?_
    rintro e w9 ⟨rfl, hb9⟩
    have HB9 := Lib.hid (HB4.out.on hb9)
    clear hb9
    go_wp2_with fail
    go_ret
    exact ⟨rfl, HB1.out.on HB9.out⟩
  have d1' : decide ((1000 : Int) < (mn : Int) + (nn : Int)) = false := by rw [decide_eq_false_iff_not]; omega
  have hlt4a : w.heap.size < w4.heap.size := by omega
  obtain ⟨⟨t0, t1, t2, t3, t4⟩, _⟩ := cells5 (HB4.out.blk HQ1.out.1)
  go_wp2_with fail
  refine (HVa.out _ HB4.out).mono ?_
  rintro e w5 ⟨V1, vc1, V2, vc2, rfl, hv1, hv2, hb5⟩
  obtain ⟨l1, hl1⟩ : ∃ n, n = f.varsF.1.length := ⟨_, rfl⟩
  obtain ⟨l2, hl2⟩ : ∃ n, n = f.varsF.2.length := ⟨_, rfl⟩
  rw [← hl1] at hv1 ⊢
  rw [← hl2] at hv2 ⊢
  have HL : Hid (l1 ≤ 2600002 ∧ l2 ≤ 2600002) := Lib.hid (by have := varsF_len f; rw [HF.out] at this; simp only [Fo.size] at this; rw [hl1, hl2, HF.out]; omega)
  have HB5 := Lib.hid (HB4.out.on hb5)
  have HV1 := Lib.hid hv1
  have HV2 := Lib.hid hv2
  clear hb5 hv1 hv2 hl1 hl2 t0 t1 t2 t3 t4 m0 hlt4 hlt4a d1' HVa
  have hlt5 : w.heap.size < w5.heap.size := by have := HB5.out.size; have := HS1.out; omega
  obtain ⟨⟨t0, t1, t2, t3, t4⟩, _⟩ := cells5 (HB5.out.blk HQ1.out.1)
  obtain ⟨e1, he1⟩ : ∃ e1, e1 = tyErr f := ⟨_, rfl⟩
  rw [← he1] at HM1
  have HE1 := Lib.hid he1
  clear he1
  go_wp2_with fail
  refine (HM1.out _ HB5.out).mono ?_
  rintro e w6 ⟨rfl, hb6⟩
  have HB6 := Lib.hid (HB5.out.on hb6)
  have HV1' := Lib.hid (HV1.out.bel hb6)
  have HV2' := Lib.hid (HV2.out.bel hb6)
  clear hb6 t0 t1 t2 t3 t4 hlt5 HV1 HV2 HB5 HB4
  by_cases d2 : e1 = 0
  case neg =>
    have d2' : (e1 != 0) = true := by simp [d2]
    go_wp2_with fail
    refine (HW.out _ HB6.out).mono ?_
    rintro e w9 ⟨rfl, hb9⟩
    have HB9 := Lib.hid (HB6.out.on hb9)
    clear hb9
    go_wp2_with fail
    go_ret
    exact ⟨rfl, HB1.out.on HB9.out⟩
  subst d2
  obtain ⟨a1, ha1⟩ : ∃ a, a = anyGe tn f.varsF.1 := ⟨_, rfl⟩
  have HA1 := Lib.hid ha1
  have HC1 : Hid (∀ W, Bel w6 W → Calls Tryd.prog 22 #[.slice V1 l1 vc1, .func (.func 23) #[] #[.pointer (some ⟨w.heap.size + 1, 0, none⟩)]] W fun e w' => e = .returned (.bool a1) ∧ Bel W w') := Lib.hid fun W hW => by
    rw [ha1]
    exact icont1_any (w.heap.size + 1) tn V1 l1 vc1 f.varsF.1 W (HV1'.out.bel hW) (by have := HL.out; omega) fun x W' hW' => pp1_any x (w.heap.size + 1) T tn tc W' ((HB6.out.on (hW.on hW')).blk HQ1.out.2.1)
  obtain ⟨a2, ha2⟩ : ∃ a, a = anyGe mn f.varsF.2 := ⟨_, rfl⟩
  have HA2 := Lib.hid ha2
  have HC2 : Hid (∀ W, Bel w6 W → Calls Tryd.prog 22 #[.slice V2 l2 vc2, .func (.func 24) #[] #[.pointer (some ⟨w.heap.size + 1 + 1, 0, none⟩)]] W fun e w' => e = .returned (.bool a2) ∧ Bel W w') := Lib.hid fun W hW => by
    rw [ha2]
    exact icont2_any (w.heap.size + 1 + 1) mn V2 l2 vc2 f.varsF.2 W (HV2'.out.bel hW) (by have := HL.out; omega) fun x W' hW' => pp2_any x (w.heap.size + 1 + 1) M mn mc W' ((HB6.out.on (hW.on hW')).blk HQ1.out.2.2)
  clear ha1 ha2
  go_wp2_with fail
  refine (HC1.out _ (Bel.refl _)).mono ?_
  rintro e w7 ⟨rfl, hb7⟩
  have HB67 := Lib.hid hb7
  have HB7 := Lib.hid (HB6.out.on hb7)
  clear hb7
  cases a1
  case true =>
    go_wp2_with fail
    refine (HW.out _ HB7.out).mono ?_
    rintro e w9 ⟨rfl, hb9⟩
    have HB9 := Lib.hid (HB7.out.on hb9)
    clear hb9
    go_wp2_with fail
    go_ret
    exact ⟨rfl, HB1.out.on HB9.out⟩
  go_wp2_with fail
  refine (HC2.out _ HB67.out).mono ?_
  rintro e w8 ⟨rfl, hb8⟩
  have HB8 := Lib.hid (HB7.out.on hb8)
  have HB68 := Lib.hid (HB67.out.on hb8)
  clear hb8
  cases a2
  case true =>
    go_wp2_with fail
    refine (HW.out _ HB8.out).mono ?_
    rintro e w9 ⟨rfl, hb9⟩
    have HB9 := Lib.hid (HB8.out.on hb9)
    clear hb9
    go_wp2_with fail
    go_ret
    exact ⟨rfl, HB1.out.on HB9.out⟩
  have HP : Hid (w8.heap[w.heap.size]? = some (.cells #[.int .u8 k, .int .i64 n, .int .i64 v, .int .u8 c, .slice A len cap] 27 (0, 0)) ∧ w8.heap[w.heap.size + 1]? = some (.cells #[.slice T tn tc] 25 (0, 0)) ∧ w8.heap[w.heap.size + 1 + 1]? = some (.cells #[.slice M mn mc] 28 (0, 0))) := Lib.hid ⟨HB8.out.blk HQ1.out.1, HB8.out.blk HQ1.out.2.1, HB8.out.blk HQ1.out.2.2⟩
  have hK8 := HK.out.bel HB8.out
  have hT8 := HT.out.bel HB8.out
  have hM8 := HM.out.bel HB8.out
  have HU8 := Lib.hid (HU.out.bel HB8.out)
  have HN8 := Lib.hid (HN.out.bel HB8.out)
  have HV18 := Lib.hid (HV1'.out.bel HB68.out)
  have HPut := Lib.hid (put_R HF.out A len cap T tn tc ts M mn mc ms w8 hK8 (by omega) hT8 (TsOk.of (by omega)) hM8 (by omega))
  have HK8 := Lib.hid hK8
  have HT8 := Lib.hid hT8
  have HM8 := Lib.hid hM8
  clear HC1 HC2 HV1' HV2' HB68 HB67 HB7 HB6 HK HT HM HU HN hK8 hT8 hM8
  obtain ⟨⟨t0, t1, t2, t3, t4⟩, _⟩ := cells5 HP.out.1
  obtain ⟨m0, _⟩ := one_of HP.out.2.1
  obtain ⟨m1, _⟩ := one_of HP.out.2.2
  go_wp2_with fail
  refine HPut.out.mono ?_
  rintro e w10 ⟨kx, nx, vx, cx, Ax, lx, capx, kidsx, rx, rfl, hkx, hsx, hx0, hx1, hb10⟩
  have HB10 := Lib.hid hb10
  have hkx := hkx.down
  have HKX := Lib.hid hkx
  have HX := Lib.hid (And.intro hx0 hx1)
  have hU10 := (HU8.out.bel hb10).bel ((Bel.refl w10).alloc (.cells #[.int .u8 kx, .int .i64 nx, .int .i64 vx, .int .u8 cx, .slice Ax lx capx] 27))
  have hN10 := (HN8.out.bel hb10).bel ((Bel.refl w10).alloc (.cells #[.int .u8 kx, .int .i64 nx, .int .i64 vx, .int .u8 cx, .slice Ax lx capx] 27))
  have hX10 := hkx.bel ((Bel.refl w10).alloc (.cells #[.int .u8 kx, .int .i64 nx, .int .i64 vx, .int .u8 cx, .slice Ax lx capx] 27))
  have HPut2 := Lib.hid (put_R (f := .cons kx nx vx cx kidsx .nil) rfl Ax lx capx U un uc us N nn nc ns _ hX10 hsx hU10 (TsOk.of (by omega)) hN10 (by omega))
  clear hkx hx0 hx1 hb10 hU10 hN10 hX10 t0 t1 t2 t3 t4 m0 m1 HPut
  go_wp2_with fail
  refine HPut2.out.mono ?_
  rintro e w11 ⟨ky, ny, vy, cy, Ay, ly, capy, kidsy, ry, rfl, hky, hsy, hy0, hy1, hb11⟩
  have HB11 := Lib.hid (((Bel.refl w10).alloc _).on hb11)
  have HKY := Lib.hid (hky.wide (Ok' := Old w11) fun j hj => hj.2)
  have HY := Lib.hid (And.intro hy0 hy1)
  have HB811 : Hid (Bel w8 w11) := Lib.hid (HB10.out.on HB11.out)
  have HB111 : Hid (Bel w1 w11) := Lib.hid (HB8.out.on HB811.out)
  have HBA : Hid (Bel w1 (w11.alloc (.cells #[.int .u8 ky, .int .i64 ny, .int .i64 vy, .int .u8 cy, .slice Ay ly capy] 27))) := Lib.hid (HB111.out.alloc _)
  clear hky hy0 hy1 hb11 HPut2
  by_cases d3 : rx = 0
  case neg =>
    have d3' : (rx != 0) = true := by simp [d3]
    go_wp2_with fail
    refine (HW.out _ HBA.out).mono ?_
    rintro e w9 ⟨rfl, hb9⟩
    have HB9 := Lib.hid (HBA.out.on hb9)
    clear hb9
    go_wp2_with fail
    go_ret
    exact ⟨rfl, HB1.out.on HB9.out⟩
  subst d3
  by_cases d4 : ry = 0
  case neg =>
    have d4' : (ry != 0) = true := by simp [d4]
    go_wp2_with fail
    refine (HW.out _ HBA.out).mono ?_
    rintro e w9 ⟨rfl, hb9⟩
    have HB9 := Lib.hid (HBA.out.on hb9)
    clear hb9
    go_wp2_with fail
    go_ret
    exact ⟨rfl, HB1.out.on HB9.out⟩
  subst d4
  obtain ⟨w12, hw12⟩ : ∃ W, W = w11.alloc (.cells #[.int .u8 ky, .int .i64 ny, .int .i64 vy, .int .u8 cy, .slice Ay ly capy] 27) := ⟨_, rfl⟩
  have HYB : Hid (w12.heap[w11.heap.size]? = some (.cells #[.int .u8 ky, .int .i64 ny, .int .i64 vy, .int .u8 cy, .slice Ay ly capy] 27 (0, 0))) := Lib.hid (by rw [hw12]; exact blk_at rfl)
  have HB12 : Hid (Bel w8 w12) := Lib.hid (by rw [hw12]; exact HB811.out.alloc _)
  have HB112 : Hid (Bel w1 w12) := Lib.hid (by rw [hw12]; exact HBA.out)
  have HKY12 : Hid (KidsAt w12 (Old w12) Ay ly capy kidsy) := Lib.hid (by rw [hw12]; exact HKY.out.bel ((Bel.refl w11).alloc _))
  clear HBA HB111 HB811 HB11 HKY
  have HPX : Hid (PutMay f ts ms) := Lib.hid (HX.out.1 rfl).1
  have HPS : Hid (Fo.subst ts ts.len ms f = .cons kx nx vx cx kidsx .nil) := Lib.hid (HX.out.1 rfl).2
  have HPY : Hid (PutMay (Fo.subst ts ts.len ms f) us ns) := Lib.hid (by rw [HPS.out]; exact (HY.out.1 rfl).1)
  have HYS : Hid (Fo.subst us us.len ns (Fo.subst ts ts.len ms f) = .cons ky ny vy cy kidsy .nil) := Lib.hid (by rw [HPS.out]; exact (HY.out.1 rfl).2)
  have HTN : Hid (tn = ts.len) := Lib.hid HT8.out.1
  have HMN : Hid (mn = ms.length) := Lib.hid HM8.out.1
  have HLV : Hid (∀ x ∈ f.varsF.1, x < (ts.len : Int)) := Lib.hid fun x hx => by
    have h := HA1.out
    have h2 := List.any_eq_false.1 h.symm x hx
    rw [decide_eq_true_eq] at h2
    have := HTN.out
    omega
  have HLM : Hid (∀ x ∈ f.varsF.2, x < (ms.length : Int)) := Lib.hid fun x hx => by
    have h := HA2.out
    have h2 := List.any_eq_false.1 h.symm x hx
    rw [decide_eq_true_eq] at h2
    have := HMN.out
    omega
  clear HX HY HA1 HA2
  have htn : tn ≤ 1300000 := by have h1 := HTN.out; have h2 := ts.len_le; omega
  have hlt12 : w.heap.size + 1 < w12.heap.size := by have := HB112.out.size; have := HS1.out; omega
  obtain ⟨m0, _⟩ := one_of (HB12.out.blk HP.out.2.1)
  rw [hw12] at hlt12 m0
  go_wp2_with fail
  rw [← hw12]
  clear m0 hlt12 hw12
  go_loopw [17, 88] (fun qv iv wr => ∃ (j : Nat) (g : Fo), j ≤ tn ∧ iv = .int .i64 (j : Int) ∧ Hid (RowF (fun _ => True) w12 wr qv j g) ∧ Hid (∀ i, i < j → PpEl f.varsF.1 ts us ns i (g.nth i))) (fun _ i _ => tn - (intOf i).toNat)
  case atStart => exact ⟨0, .nil, Nat.zero_le _, rfl, Lib.hid (RowF.start _ _), Lib.hid fun i hi => absurd hi (by omega)⟩
  case round =>
    obtain ⟨j, g, hj, rfl, HR, HE⟩ := hrel
    by_cases hlt : j < tn
    · obtain ⟨xs, ⟨A5, c5, rfl, hO5, hb5⟩, hl5, hc5⟩ := HR.out
      have HO5 := Lib.hid hO5
      have HB5 := Lib.hid hb5
      have HL5 := Lib.hid hl5
      have HC5 := Lib.hid hc5
      clear hO5 hb5 hl5 hc5 HR
      have HB8r := Lib.hid (HB12.out.on HB5.out)
      obtain ⟨b, o, eA, hb, hfo⟩ := (HT8.out.keep fun i hi => HB8r.out.block i hi).2.2 (by omega)
      subst eA
      obtain ⟨k', n', v', c', kids', A', cap', en, e1, e2, e3, e4, e5, hk'⟩ := FoAt.nth ts j b o hfo (by have := HT8.out.1; omega)
      have hsz' : kids'.size ≤ 1300000 := by have := Fo.nth_size ts j; rw [en] at this; simp only [Fo.size] at this; omega
      obtain ⟨wb, hwb⟩ : ∃ W, W = wr.alloc (.cells #[.int .u8 k', .int .i64 n', .int .i64 v', .int .u8 c', .slice A' kids'.len cap'] 27) := ⟨_, rfl⟩
      have HBrb : Hid (Bel wr wb) := Lib.hid (by rw [hwb]; exact (Bel.refl wr).alloc _)
      have HZB : Hid (wb.heap[wr.heap.size]? = some (.cells #[.int .u8 k', .int .i64 n', .int .i64 v', .int .u8 c', .slice A' kids'.len cap'] 27 (0, 0))) := Lib.hid (by rw [hwb]; exact blk_at rfl)
      have HPE := Lib.hid (put_R (f := .cons k' n' v' c' kids' .nil) rfl A' kids'.len cap' U un uc us N nn nc ns wb ((hk'.wide fun i hi => Nat.lt_of_lt_of_le hi HB8r.out.size).bel HBrb.out) (by omega) (HU8.out.bel (HB8r.out.on HBrb.out)) (TsOk.of (by omega)) (HN8.out.bel (HB8r.out.on HBrb.out)) (by omega))
      have HK' := Lib.hid hk'
      have HEN := Lib.hid en
      have i1 : (0 : Int) ≤ (j : Int) := by omega
      have i2 : (j : Int) < (tn : Int) := by omega
      clear hk' hfo en
      go_wp2_with fail
      rw [← hwb]
      clear hwb e1 e2 e3 e4 e5
      refine HPE.out.mono ?_
      rintro e w13 ⟨kz, nz, vz, cz, Az, lz, capz, kidsz, rz, rfl, hkz, hsz, hz0, hz1, hb13⟩
      have HB13 := Lib.hid hb13
      have HKZ := Lib.hid hkz
      have HZ := Lib.hid (And.intro hz0 hz1)
      clear hkz hz0 hz1 hb13 HPE
      obtain ⟨w14, hw14⟩ : ∃ W, W = w13.alloc (.cells #[.int .u8 kz, .int .i64 nz, .int .i64 vz, .int .u8 cz, .slice Az lz capz] 27) := ⟨_, rfl⟩
      have HZ20 : Hid (w14.heap[w13.heap.size]? = some (.cells #[.int .u8 kz, .int .i64 nz, .int .i64 vz, .int .u8 cz, .slice Az lz capz] 27 (0, 0))) := Lib.hid (by rw [hw14]; exact blk_at rfl)
      have HB1314 : Hid (Bel w13 w14) := Lib.hid (by rw [hw14]; exact (Bel.refl w13).alloc _)
      have HBr14 : Hid (Bel wr w14) := Lib.hid ((HBrb.out.on HB13.out).on HB1314.out)
      have HLT5 : Hid (∀ i, (Value.slice A5 j c5).ownBlock = some i → i < wr.heap.size ∧ w12.heap.size ≤ i) := Lib.hid fun i hi => by
        have h := HO5.out.lt i hi
        omega
      obtain ⟨i0, hi0, hz0', hz1', hz2'⟩ := info_parts info_tyB
      have hszs := (HB5.out.on HBr14.out).size
      by_cases d5 : rz = 0
      · subst d5
        go_wp2_with (at_builtin; refine stopW ?_)
        rw [← hw14]
        have hsz14 : w14.heap.size = w13.heap.size + 1 := by rw [hw14]; simp
        clear hw14
        have HO14 := Lib.hid (owns_bel HO5.out HBr14.out)
        have HC14 := Lib.hid (HC5.out.bel HBr14.out)
        unfold StopW
        refine wpList_append_own_at _ rfl _ _ 25 rfl w12.heap.size 27 i0 _ 5 56 Tryd.underlying25 hi0 hz0' hz1' hz2' rfl (by decide) (.slice A5 j c5) j _ rfl (HO14.out.alloc _) ⟨w13.heap.size + 1, 0, none⟩ 1 1 [.int .u8 kz, .int .i64 nz, .int .i64 vz, .int .u8 cz, .slice Az lz capz] rfl rfl (fun j u hu => by rw [Addr.add_lit, Nat.zero_add, ← hsz14]; exact five_at _ _ _ _ _ _ _ j u hu) (by simp [Value.oneCell']) (by unfold maxLen; omega) (by omega) (by simp; omega) ?_
        intro v' w3 hown3 hg3 _ hat3
        have H3 := Lib.hid (RowF.step (X := fun _ => True) _ HO14.out (HB5.out.on HBr14.out) HL5.out HC14.out ((HKZ.out.keep fun i hi => HB1314.out.block i hi.2).wide fun i hi => ⟨Nat.lt_of_lt_of_le hi.2 HB1314.out.size, fun e => by have h1 := HLT5.out i e; have h2 := HBrb.out.size; have h3 := hi.1; omega, trivial⟩) hown3 hg3 hat3)
        clear hown3 hg3 hat3
        go_wp2_with fail
        go_roundw
        case rel => exact ⟨j + 1, _, by omega, by go_num, H3, Lib.hid fun i hi => by
          rcases Nat.lt_or_ge i j with h | h
          · rw [Fo.snoc_nth g _ i (by rw [HL5.out]; exact h)]
            exact HE.out i h
          · obtain rfl : i = j := by omega
            have e := Fo.snoc_last g kz nz vz cz kidsz
            rw [HL5.out] at e
            rw [e, ← (HZ.out.1 (by trivial)).2]
            have hp := (HZ.out.1 (by trivial)).1
            rw [← HEN.out] at hp ⊢
            exact pp_yes hp⟩
        case measure => simp [intOf]; omega
      · have d5' : (rz != 0) = true := by simp [d5]
        go_wp2_with fail
        rw [← hw14]
        clear hw14
        have hno : decide ((j : Int) ∈ f.varsF.1) = false := by
          rw [decide_eq_false_iff_not]
          exact fun h => HZ.out.2 d5 (by rw [← HEN.out]; exact pp_may HPX.out HPY.out HLV.out h)
        refine (ppcont_any V1 l1 vc1 (j : Int) f.varsF.1 w14 (HV18.out.bel (HB8r.out.on HBr14.out)) (by have := HL.out; omega)).mono ?_
        rintro e w15 ⟨rfl, hb15⟩
        rw [hno]
        have HNO : Hid ((j : Int) ∉ f.varsF.1) := Lib.hid (by simpa using hno)
        have HB1415 := Lib.hid hb15
        have HBr15 := Lib.hid (HBr14.out.on hb15)
        have hszw := HBr15.out.size
        have hb1315 := HB1314.out.on hb15
        obtain ⟨⟨t0, t1, t2, t3, t4⟩, _⟩ := cells5 (hb1315.blk (HB13.out.blk HZB.out))
        obtain ⟨⟨s0, s1, s2, s3, s4⟩, sf⟩ := cells5 (hb15.blk HZ20.out)
        have hl19 : wr.heap.size < w15.heap.size := (Array.getElem?_eq_some_iff.1 (hb1315.blk (HB13.out.blk HZB.out))).1
        have hl20 : w13.heap.size < w15.heap.size := (Array.getElem?_eq_some_iff.1 (hb15.blk HZ20.out)).1
        clear hno hb15 hb1315
        go_wp2_with (at_builtin; refine stopW ?_)
        obtain ⟨wS, hwS⟩ : ∃ W, W = ((((w15.setCell ⟨w13.heap.size, 0, none⟩ (.int .u8 k')).setCell ⟨w13.heap.size, 1, none⟩ (.int .i64 n')).setCell ⟨w13.heap.size, 2, none⟩ (.int .i64 v')).setCell ⟨w13.heap.size, 3, none⟩ (.int .u8 c')).setCell ⟨w13.heap.size, 4, none⟩ (.slice A' kids'.len cap') := ⟨_, rfl⟩
        have hszS : wS.heap.size = w15.heap.size := by rw [hwS]; simp [World.setCell]
        have hge : wr.heap.size ≤ w13.heap.size := (HBrb.out.on HB13.out).size
        have HBrS : Hid (Bel wr wS) := Lib.hid (by rw [hwS]; exact ((((HBr15.out.set_ hge _).set_ hge _).set_ hge _).set_ hge _).set_ hge _)
        rw [← hwS]
        clear hwS t0 t1 t2 t3 t4 s0 s1 s2 s3 s4 sf hl19 hl20
        have HOS := Lib.hid (owns_bel HO5.out HBrS.out)
        have HCS := Lib.hid (HC5.out.bel HBrS.out)
        have hszT := (HB5.out.on HBrS.out).size
        unfold StopW
        refine wpList_append_own_at _ rfl _ _ 25 rfl w12.heap.size 27 i0 _ 5 56 Tryd.underlying25 hi0 hz0' hz1' hz2' rfl (by decide) (.slice A5 j c5) j _ rfl (HOS.out.alloc _) ⟨w15.heap.size, 0, none⟩ 1 1 [.int .u8 k', .int .i64 n', .int .i64 v', .int .u8 c', .slice A' kids'.len cap'] rfl rfl (fun j u hu => by rw [Addr.add_lit, Nat.zero_add, ← hszS]; exact five_at _ _ _ _ _ _ _ j u hu) (by simp [Value.oneCell']) (by unfold maxLen; omega) (by omega) (by simp; omega) ?_
        intro vN w3 hown3 hg3 _ hat3
        have H3 := Lib.hid (RowF.step (X := fun _ => True) _ HOS.out (HB5.out.on HBrS.out) HL5.out HCS.out ((HK'.out.keep fun i hi => HBrS.out.block i (Nat.lt_of_lt_of_le hi HB8r.out.size)).wide fun i hi => ⟨Nat.lt_of_lt_of_le hi (Nat.le_trans HB8r.out.size HBrS.out.size), fun e => by have h1 := HLT5.out i e; have h2 := HB12.out.size; have h3 : i < w8.heap.size := hi; omega, trivial⟩) hown3 hg3 hat3)
        clear hown3 hg3 hat3
        go_wp2_with fail
        go_roundw
        case rel => exact ⟨j + 1, _, by omega, by go_num, H3, Lib.hid fun i hi => by
          rcases Nat.lt_or_ge i j with h | h
          · rw [Fo.snoc_nth g _ i (by rw [HL5.out]; exact h)]
            exact HE.out i h
          · obtain rfl : i = j := by omega
            have e := Fo.snoc_last g k' n' v' c' kids'
            rw [HL5.out] at e
            rw [e, ← HEN.out]
            exact pp_no (okPut_three HPX.out.1).2.1 (by rw [← HTN.out]; exact hlt) HNO.out⟩
        case measure => simp [intOf]; omega
    · obtain rfl : tn = j := by omega
      rename World => wv
      obtain ⟨xs, ⟨A5, c5, rfl, hO5, hb5⟩, hl5, hc5⟩ := HR.out
      have HKV : Hid (KidsAt wv (Old wv) A5 tn c5 g) := Lib.hid (RowF.kids (X := fun _ => True) (w2 := w12) ⟨xs, ⟨A5, c5, rfl, hO5, hb5⟩, hl5, hc5⟩)
      have HLG := Lib.hid hl5
      have HBw := Lib.hid hb5
      clear hO5 hb5 hl5 hc5
      have HTG : Hid (TsOk g) := Lib.hid (el_ok (by rw [HLG.out, HTN.out]; exact Nat.le_trans (grt_len ts) (by have := HG2.out; simpa using this)) fun i hi => HE.out i (by rw [← HLG.out]; exact hi))
      have HB8w := Lib.hid (HB12.out.on HBw.out)
      have hltw : w.heap.size + 1 + 1 < wv.heap.size := by have h1 := HB8w.out.size; have h2 := HB1.out.size; have h3 := HS1.out; have h4 := HB8.out.size; omega
      obtain ⟨m1, _⟩ := one_of (HB8w.out.blk HP.out.2.2)
      clear HR
      go_wp2_with fail
      refine (cloneM_any M mn mc ms wv (HM8.out.bel HB8w.out) (by omega)).mono ?_
      rintro e w20 ⟨v22, rfl, ho⟩
      obtain ⟨A6, c6, rfl, hO6, hb6⟩ := ho
      have HO6 : Hid (OwnR 24 2 wv w20 (.slice A6 mn c6) mn (flatM ms)) := Lib.hid ⟨A6, c6, rfl, hO6, hb6⟩
      have HB6 := Lib.hid hb6
      clear hO6 hb6 m1 hltw
      go_wp2_with fail
      go_loopw [115] (fun iv wl => ∃ j : Nat, j ≤ mn ∧ iv = .int .i64 (j : Int) ∧ Hid (Bel wv wl) ∧ Hid (0 < mn → ∃ gb, A6 = some ⟨gb, 0, none⟩ ∧ M2 wv wl gb (putTo ms ns j))) (fun i _ => mn - (intOf i).toNat)
      case atStart => exact ⟨0, Nat.zero_le _, rfl, HB6, Lib.hid fun h0 => by rw [putTo_zero]; exact M2.of HO6.out h0⟩
      case round =>
        obtain ⟨j, hj, rfl, HBl, HM2⟩ := hrel
        by_cases hlt : j < mn
        · obtain ⟨gb, rfl, hm2⟩ := HM2.out (by omega)
          have HM3 := Lib.hid hm2
          obtain ⟨⟨xv, xc⟩, hx⟩ : ∃ x, ms[j]? = some x := ⟨_, List.getElem?_eq_getElem (by rw [← HMN.out]; exact hlt)⟩
          obtain ⟨c0, c1⟩ := hm2.2.2.2.2 j _ (putTo_at hx)
          have HXJ := Lib.hid hx
          have i1 : (0 : Int) ≤ (j : Int) := by omega
          have i2 : (j : Int) < (mn : Int) := by omega
          clear hm2 hx HM2
          by_cases d6 : xc = 0
          case neg =>
            have d6' : (xc == 0) = false := by simp [d6]
            go_wp2_with fail
            go_roundw
            case rel => exact ⟨j + 1, by omega, by go_num, Lib.hid (HBl.out.alloc _), Lib.hid fun _ => ⟨gb, rfl, by rw [putTo_same HXJ.out (putU_no fun h => d6 h.1)]; exact HM3.out.bel ((Bel.refl _).alloc _)⟩⟩
            case measure => simp [intOf]; omega
          subst d6
          by_cases d7 : xv < (nn : Int)
          case neg =>
            have d7' : decide (xv < (nn : Int)) = false := by rw [decide_eq_false_iff_not]; exact d7
            go_wp2_with fail
            go_roundw
            case rel => exact ⟨j + 1, by omega, by go_num, Lib.hid (HBl.out.alloc _), Lib.hid fun _ => ⟨gb, rfl, by rw [putTo_same HXJ.out (putU_no fun h => d7 (by have := HN8.out.1; omega))]; exact HM3.out.bel ((Bel.refl _).alloc _)⟩⟩
            case measure => simp [intOf]; omega
          obtain ⟨xi, rfl⟩ : ∃ i : Nat, xv = i := ⟨xv.toNat, by have := mus_at (okPut_three HPX.out.1).2.2 HXJ.out; omega⟩
          have hn1 := HN8.out.1
          obtain ⟨nb, no, rfl, hnl, hcs⟩ := (HN8.out.bel (HB8w.out.on HBl.out)).2 (by omega)
          obtain ⟨⟨yv, yc⟩, hy⟩ : ∃ y, ns[xi]? = some y := ⟨_, List.getElem?_eq_getElem (by omega)⟩
          obtain ⟨y0, y1⟩ := hcs xi _ hy
          have HYJ := Lib.hid hy
          have d7' : decide ((xi : Int) < (nn : Int)) = true := by rw [decide_eq_true_eq]; exact d7
          have dl2 : decide (xi < nn) = true := by simp; omega
          have i3 : (0 : Int) ≤ (xi : Int) := by omega
          have hfz := HM3.out.2.2.2.1
          have f0 := hfz (j * 2)
          have f1 := hfz (j * 2 + 1)
          have hgl := HM3.out.2.2.1
          clear hcs hy hfz
          go_wp2_with fail
          have HM4 : Hid (M2 wv ((wr.setCell ⟨gb, j * 2, none⟩ (.int .i64 yv)).setCell ⟨gb, j * 2 + 1, none⟩ (.int .u8 yc)) gb (putTo ms ns (j + 1))) := Lib.hid (by
            rw [← putTo_next HXJ.out, putU_yes (by omega) (by rw [Int.toNat_natCast]; exact HYJ.out)]
            exact HM3.out.set (y := (yv, yc)) (by rw [putTo_len, ← HMN.out]; exact hlt))
          go_roundw
          case rel => exact ⟨j + 1, by omega, by go_num, Lib.hid (HM4.out.1.alloc _), Lib.hid fun _ => ⟨gb, rfl, HM4.out.bel ((Bel.refl _).alloc _)⟩⟩
          case measure => simp [intOf]; omega
        · obtain rfl : mn = j := by omega
          rename World => wl
          have HMU : Hid (RMu wl A6 mn (putL ms ns)) := Lib.hid (by
            rcases Nat.eq_zero_or_pos mn with h0 | h0
            · exact ⟨by simp [putL, ← HMN.out], fun h => absurd h (by omega)⟩
            · obtain ⟨gb, rfl, hm⟩ := HM2.out h0
              have e : putTo ms ns mn = putL ms ns := by rw [HMN.out]; exact putTo_all
              rw [e] at hm
              exact hm.mu (by simp [putL, ← HMN.out]))
          have HE' := Lib.hid (pp_end HPX.out HPY.out HLV.out HLM.out (HLG.out.trans HTN.out) fun i hi => HE.out i (by rw [HTN.out]; exact hi))
          have HB8l := Lib.hid (HB8w.out.on HBl.out)
          have hltl : w.heap.size < wl.heap.size := (Array.getElem?_eq_some_iff.1 (HB8l.out.blk HP.out.1)).1
          obtain ⟨⟨t0, t1, t2, t3, t4⟩, _⟩ := cells5 (HB8l.out.blk HP.out.1)
          have HPZ := Lib.hid (put_R HF.out A len cap A5 tn c5 g A6 mn c6 (putL ms ns) wl (HK8.out.bel HB8l.out) (by omega) (HKV.out.bel HBl.out) HTG.out HMU.out (by omega))
          clear HMU HM2
          go_wp2_with fail
          refine HPZ.out.mono ?_
          rintro e w22 ⟨kz, nz, vz, cz, Az, lz, capz, kidsz, rz, rfl, hkz, hsz', hz0, hz1, hb22⟩
          by_cases d8 : rz = 0
          case neg => exact absurd HE'.out.1 (hz1 d8)
          subst d8
          have eqs := (hz0 rfl).2
          rw [HE'.out.2, HYS.out] at eqs
          injection eqs with e1 e2 e3 e4 e5 e6
          subst e1 e2 e3 e4 e5
          clear e6 hz0 hz1 HPZ
          have HB22 := Lib.hid ((HBw.out.on HBl.out).on hb22)
          have hbz := HB22.out.alloc (.cells #[.int .u8 ky, .int .i64 ny, .int .i64 vy, .int .u8 cy, .slice Az lz capz] 27)
          have HBZ := Lib.hid hbz
          obtain ⟨⟨u0, u1, u2, u3, u4⟩, _⟩ := cells5 (hbz.blk HYB.out)
          have hl15 := (Array.getElem?_eq_some_iff.1 (hbz.blk HYB.out)).1
          have HSAME := Lib.hid (same_any ky ny vy cy Ay ly capy kidsy ky ny vy cy Az lz capz kidsy _ (HKY12.out.bel hbz) (hkz.down.bel ((Bel.refl w22).alloc (.cells #[.int .u8 ky, .int .i64 ny, .int .i64 vy, .int .u8 cy, .slice Az lz capz] 27))) (by omega) (by omega))
          rw [Fo.eqB_refl] at HSAME
          clear hbz hkz hb22
          go_wp2_with fail
          refine HSAME.out.mono ?_
          rintro e w23 ⟨rfl, hb23⟩
          have HB23 := Lib.hid ((HB112.out.on HBZ.out).on hb23)
          clear hb23 u0 u1 u2 u3 u4 hl15 HSAME
          go_wp2_with fail
          refine (HW.out _ HB23.out).mono ?_
          rintro e w24 ⟨rfl, hb24⟩
          have HB24 := Lib.hid (HB23.out.on hb24)
          clear hb24
          go_wp2_with fail
          go_ret
          exact ⟨rfl, HB1.out.on HB24.out⟩
end Go.Proofs.YtkogcpcckpaldaaDoor.Mu

