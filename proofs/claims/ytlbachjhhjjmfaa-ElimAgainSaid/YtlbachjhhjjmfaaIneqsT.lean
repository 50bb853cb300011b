/-
  Ineqs, walked: the inequalities of a table.
-/
import Derived.Test.YtlbachjhhjjmfaaElimEx
import Derived.Deep.DeepCutAuto
namespace Go.Proofs.Ytlbachjhhjjmfaa.Mu
open Go.ChangeShapes Go.WideShapes Go.ChangeAt Go.RowKit Go.Shelf

attribute [local go_sem] Oper.semAt_some

def inqLow (i : Nat) (lo : Int) : List Iq := if lo = 1 then [] else [⟨0, lo, 1, i⟩]
def inqUp (i : Nat) (up : Int) : List Iq := if up = 3 then [] else [⟨i, 0, up, -1⟩]
def inqPair (i j : Nat) (p : Int) : List Iq := if j = i ∨ p = 3 then [] else [⟨i, 0, p, j⟩]
def inqRow (i : Nat) (row : List Int) (k : Nat) : List Iq := (List.range k).flatMap fun j => inqPair i j (row[j]?.getD 0)
def inqAt (L U : List Int) (rows : List (Option Addr × Nat × Nat × List Int)) (kn i : Nat) : List Iq := inqLow i (L[i]?.getD 0) ++ inqUp i (U[i]?.getD 0) ++ inqRow i (rowL rows i) kn
/-- The inequalities of a table. -/
def inqs (L U : List Int) (rows : List (Option Addr × Nat × Nat × List Int)) (kn k : Nat) : List Iq := (List.range k).flatMap (inqAt L U rows kn)
theorem inqRow_succ (i : Nat) (row : List Int) (k : Nat) : inqRow i row (k + 1) = inqRow i row k ++ inqPair i k (row[k]?.getD 0) := by
  unfold inqRow
  rw [List.range_succ, List.flatMap_append]
  simp
theorem inqs_succ (L U : List Int) (rows : List (Option Addr × Nat × Nat × List Int)) (kn k : Nat) : inqs L U rows kn (k + 1) = inqs L U rows kn k ++ inqAt L U rows kn k := by
  unfold inqs
  rw [List.range_succ, List.flatMap_append]
  simp
/-- A row of inequalities of the call's own. -/
def OwnQ (w2 wr : World) (v : Value) (ys : List Iq) (bd : Nat) : Prop :=
  ∃ A c, v = .slice A ys.length c ∧ ys.length ≤ bd ∧ wr.ownsRow w2.heap.size 34 4 (.slice A ys.length c) ys.length (flatI ys) ∧ Bel w2 wr
theorem OwnQ.start (w : World) : OwnQ w w (.slice none 0 0) [] 0 := ⟨none, 0, rfl, Nat.le_refl _, World.ownsRow_nil _ _ _ _, Bel.refl _⟩
theorem OwnQ.step {w2 wr w3 : World} {A : Option Addr} {c bd : Nat} {ys : List Iq} {v' : Value} (x : Iq) (o : Obj) (hl : ys.length ≤ bd) (hO : wr.ownsRow w2.heap.size 34 4 (.slice A ys.length c) ys.length (flatI ys)) (hb : Bel w2 wr)
    (hown : w3.ownsRow w2.heap.size 34 4 v' (ys.length + 1) (flatI ys ++ x.cells)) (hg : (wr.alloc o).grownBy w3 (Value.slice A ys.length c).ownBlock) : OwnQ w2 w3 v' (ys ++ [x]) (bd + 1) := by
  obtain ⟨g3, c3, rfl⟩ := ownsRow_succ hown
  have e : flatI (ys ++ [x]) = flatI ys ++ x.cells := by simp [flatI]
  have el : (ys ++ [x]).length = ys.length + 1 := by simp
  refine ⟨some ⟨g3, 0, none⟩, c3, by rw [el], by omega, by rw [el, e]; exact hown, ?_⟩
  refine ⟨hg.os.trans hb.os, hg.tape.trans hb.tape, hg.output.trans hb.output, by have := hg.size; have := hb.size; simp at *; omega, fun j hj => (hg.block j (by have := hb.size; simp; omega) (fun e => ?_)).trans ((Below.heap_alloc _ _ _ (by have := hb.size; omega)).trans (hb.block j hj))⟩
  have := (hO.lt j e.symm).1
  omega
def IneqsPost (ys : List Iq) (w : World) (e : Ending) (w' : World) : Prop := ∃ A c, e = .returned (.tuple #[.slice A ys.length c, .int .i64 0]) ∧ RQ w' w'.heap.size A ys.length ys ∧ ys.length ≤ 60000 ∧ Bel w w'
set_option maxRecDepth 100000 in
set_option maxHeartbeats 4000000 in
theorem ineqs_any (LA UA PA : Option Addr) (lc uc pc kn : Nat) (L U : List Int) (rows : List (Option Addr × Nat × Nat × List Int)) (w : World) (h : TabV LA lc UA uc PA pc kn L U rows w) (hm : mayTab L U rows = 0) (hkn : kn ≤ 150) :
    Calls Try.prog 25 #[.agg #[.slice LA kn lc, .slice UA kn uc, .slice PA kn pc]] w (IneqsPost (inqs L U rows kn kn) w) := by
  have hmc := fun (W : World) (hb : Bel w W) => mayTab_any LA UA PA kn lc kn uc kn pc L U rows W (h.1.bel hb) (h.2.1.bel hb) (h.2.2.1.bel hb) (by omega) (by omega)
  rw [hm] at hmc
  have HM := Lib.hid hmc
  have HT := Lib.hid h
  clear hmc hm h
  go_enter Try.func25, Try.ntmps25
  go_wp2_with fail
  refine (HM.out _ ((Bel.refl w).alloc _)).mono ?_
  rintro e w2 ⟨rfl, hb2⟩
  have hbx := hb2.blk (blk1 w _)
  obtain ⟨tb, htb⟩ : ∃ tb, tb = w.heap.size := ⟨_, rfl⟩
  rw [← htb] at hbx ⊢
  have HBX := Lib.hid hbx
  have HB2 := Lib.hid (((Bel.refl w).alloc _).on hb2)
  have HT2 := Lib.hid (HT.out.bel HB2.out)
  obtain ⟨c0, c1, c2, _, _, _⟩ := cells3 hbx
  clear hb2 hbx htb HT HM
  go_wp2_with fail
  clear c0 c1 c2
  go_loopw [5, 19] (fun qv iv wr => ∃ i : Nat, i ≤ kn ∧ iv = .int .i64 (i : Int) ∧ Hid (OwnQ w2 wr qv (inqs L U rows kn i) (400 * i))) (fun _ i _ => kn - (intOf i).toNat)
  case atStart => exact ⟨0, Nat.zero_le _, rfl, Lib.hid (OwnQ.start _)⟩
  case round =>
    obtain ⟨i, hi, rfl, HO⟩ := hrel
    by_cases hlt : i < kn
    · obtain ⟨A5, c5, rfl, hl5, hO5, hb5⟩ := HO.out
      have HO5 := Lib.hid hO5
      have HB5 := Lib.hid hb5
      clear hO5 hb5 HO
      obtain ⟨lb, lo, eL, hlb, hcL⟩ := HT2.out.1.at_ (by omega)
      obtain ⟨ub, uo, eU, hub, hcU⟩ := HT2.out.2.1.at_ (by omega)
      obtain ⟨pb, po, eP, hpb, hcP⟩ := HT2.out.2.2.1.2 (by omega)
      obtain ⟨y, hy⟩ : ∃ y, rows[i]? = some y := ⟨_, List.getElem?_eq_getElem (by rw [← HT2.out.2.2.1.1]; exact hlt)⟩
      obtain ⟨k0, k1, _⟩ := hcP i y hy
      have l0 := hcL i hlt
      have u0 := hcU i hlt
      have hyr : rowL rows i = y.2.2.2 := by unfold rowL; rw [hy]; rfl
      have hyn : y.2.1 = kn := (HT2.out.2.2.2 y (List.mem_of_getElem? hy)).1
      obtain ⟨c0, c1, c2, _, _, _⟩ := cells3 HBX.out
      have hbl := (Array.getElem?_eq_some_iff.1 HBX.out).1
      obtain ⟨lo_, hlo⟩ : ∃ a, a = L[i]?.getD 0 := ⟨_, rfl⟩
      obtain ⟨up_, hup⟩ : ∃ a, a = U[i]?.getD 0 := ⟨_, rfl⟩
      rw [← hlo] at l0
      rw [← hup] at u0
      rw [hyn] at k0 k1
      subst eL eU eP
      have HAT : Hid (inqAt L U rows kn i = inqLow i lo_ ++ inqUp i up_ ++ inqRow i y.2.2.2 kn) := Lib.hid (by unfold inqAt; rw [← hlo, ← hup, hyr])
      have HTR : Hid (∀ W, Bel w2 W → W.cell? ⟨tb, 0, none⟩ = some (.slice (some ⟨lb, lo, none⟩) kn lc) ∧ W.cell? ⟨tb, 1, none⟩ = some (.slice (some ⟨ub, uo, none⟩) kn uc) ∧ W.cell? ⟨tb, 2, none⟩ = some (.slice (some ⟨pb, po, none⟩) kn pc) ∧ W.cell? ⟨lb, lo + i, none⟩ = some (.int .u8 lo_) ∧ W.cell? ⟨ub, uo + i, none⟩ = some (.int .u8 up_) ∧ W.cell? ⟨pb, po + i, none⟩ = some (.slice y.1 kn y.2.2.1) ∧ RI .u8 W W.heap.size y.1 kn y.2.2.2) := Lib.hid fun W hb =>
        ⟨(hb.cell (p := ⟨tb, 0, none⟩) hbl).trans c0, (hb.cell (p := ⟨tb, 1, none⟩) hbl).trans c1, (hb.cell (p := ⟨tb, 2, none⟩) hbl).trans c2, (hb.cell (p := ⟨lb, lo + i, none⟩) hlb).trans l0, (hb.cell (p := ⟨ub, uo + i, none⟩) hub).trans u0, (hb.cell (p := ⟨pb, po + i, none⟩) hpb).trans k0, k1.bel hb⟩
      have i1 : (0 : Int) ≤ (i : Int) := by omega
      have i2 : (i : Int) < (kn : Int) := by omega
      clear hcL hcU hcP k0 k1 l0 u0 hyr hyn c0 c1 c2 hbl hlo hup hlb hub hpb hy
      obtain ⟨ys, hys⟩ : ∃ ys, ys = inqs L U rows kn i := ⟨_, rfl⟩
      rw [← hys] at HO5 hl5 ⊢
      have HYS := Lib.hid hys
      clear hys
      obtain ⟨c0, c1, c2, l0, u0, k0, _⟩ := HTR.out wr HB5.out
      go_upto_if 25 with fail
      go_cut [5] (fun v wx => Hid (OwnQ w2 wx v (ys ++ inqLow i lo_) (400 * i + 1)))
      case first =>
        by_cases d : lo_ = 1
        · have d1 : (lo_ != 1) = false := by simp [d]
          have HD := Lib.hid d
          clear d
          go_wp2_with fail
          go_meet
          case rel =>
            refine Lib.hid ?_
            unfold inqLow
            rw [if_pos HD.out, List.append_nil]
            exact ⟨A5, c5, rfl, by omega, HO5.out, HB5.out⟩
        · have d1 : (lo_ != 1) = true := by simp [d]
          have HD := Lib.hid d
          clear d
          obtain ⟨i0, hi0, hz0, hz1, hz2⟩ := info_parts info_ineq
          have hszr := HB5.out.size
          go_wp2_with (at_builtin; refine stopW ?_)
          unfold StopW
          refine wpList_append_own_at _ rfl _ _ 37 rfl w2.heap.size 34 i0 _ 4 32 Try.underlying37 hi0 hz0 hz1 hz2 rfl (by decide) (.slice A5 ys.length c5) ys.length _ rfl (HO5.out.alloc _) ⟨wr.heap.size, 0, none⟩ 1 1 [.int .i64 0, .int .u8 lo_, .int .u8 1, .int .i64 i] rfl rfl (fun j u hu => by rw [Addr.add_lit, Nat.zero_add]; exact four_at _ _ _ _ _ _ j u hu) (by simp [Value.oneCell']) (by unfold maxLen; omega) (by omega) (by simp; omega) ?_
          intro v' w3 hown3 hg3 _ hat3
          have H3 := Lib.hid (OwnQ.step ⟨0, lo_, 1, i⟩ _ hl5 HO5.out HB5.out hown3 hg3)
          clear hown3 hg3 hat3
          go_wp2_with fail
          go_meet
          case rel =>
            refine Lib.hid ?_
            unfold inqLow
            rw [if_neg HD.out]
            exact H3.out
      case rest =>
        obtain ⟨A6, c6, rfl, hl6, hO6, hb6⟩ := hcut.out
        have HO6 := Lib.hid hO6
        have HB6 := Lib.hid hb6
        clear hcut hO6 hb6 c0 c1 c2 l0 u0 k0 HO5 HB5 hl5
        rename World => w6
        obtain ⟨zs, hzs⟩ : ∃ zs, zs = ys ++ inqLow i lo_ := ⟨_, rfl⟩
        rw [← hzs] at HO6 hl6 ⊢
        have HZS := Lib.hid hzs
        clear hzs
        obtain ⟨c0, c1, c2, l0, u0, k0, _⟩ := HTR.out w6 HB6.out
        go_upto_if 39 with fail
        go_cut [5] (fun v wx => Hid (OwnQ w2 wx v (zs ++ inqUp i up_) (400 * i + 2)))
        case first =>
          by_cases d : up_ = 3
          · have d1 : (up_ != 3) = false := by simp [d]
            have HD := Lib.hid d
            clear d
            go_wp2_with fail
            go_meet
            case rel =>
              refine Lib.hid ?_
              unfold inqUp
              rw [if_pos HD.out, List.append_nil]
              exact ⟨A6, c6, rfl, by omega, HO6.out, HB6.out⟩
          · have d1 : (up_ != 3) = true := by simp [d]
            have HD := Lib.hid d
            clear d
            obtain ⟨i0, hi0, hz0, hz1, hz2⟩ := info_parts info_ineq
            have hszr := HB6.out.size
            go_wp2_with (at_builtin; refine stopW ?_)
            unfold StopW
            refine wpList_append_own_at _ rfl _ _ 37 rfl w2.heap.size 34 i0 _ 4 32 Try.underlying37 hi0 hz0 hz1 hz2 rfl (by decide) (.slice A6 zs.length c6) zs.length _ rfl (HO6.out.alloc _) ⟨w6.heap.size, 0, none⟩ 1 1 [.int .i64 i, .int .u8 0, .int .u8 up_, .int .i64 (-1)] rfl rfl (fun j u hu => by rw [Addr.add_lit, Nat.zero_add]; exact four_at _ _ _ _ _ _ j u hu) (by simp [Value.oneCell']) (by unfold maxLen; omega) (by omega) (by simp; omega) ?_
            intro v' w3 hown3 hg3 _ hat3
            have H3 := Lib.hid (OwnQ.step ⟨i, 0, up_, -1⟩ _ hl6 HO6.out HB6.out hown3 hg3)
            clear hown3 hg3 hat3
            go_wp2_with fail
            go_meet
            case rel =>
              refine Lib.hid ?_
              unfold inqUp
              rw [if_neg HD.out]
              exact H3.out
        case rest =>
          have HO7 := hcut
          clear hcut c0 c1 c2 l0 u0 k0 HO6 HB6 hl6
          rename World => w7
          obtain ⟨us, hus⟩ : ∃ us, us = zs ++ inqUp i up_ := ⟨_, rfl⟩
          rw [← hus] at HO7
          have HUS := Lib.hid hus
          clear hus
          rename Value => v7
          obtain ⟨A7, c7, rfl, hl7, hO7, hb7⟩ := HO7.out
          obtain ⟨c0, c1, c2, l0, u0, k0, _⟩ := HTR.out w7 hb7
          have HB7 := Lib.hid hb7
          clear hl7 hO7 hb7
          go_wp2_with fail
          clear c0 c1 c2 l0 u0 k0
          go_loopw [5, 53] (fun qv jv wr' => ∃ q : Nat, q ≤ kn ∧ jv = .int .i64 (q : Int) ∧ Hid (OwnQ w2 wr' qv (us ++ inqRow i y.2.2.2 q) (400 * i + 2 + q))) (fun _ j _ => kn - (intOf j).toNat)
          case atStart => exact ⟨0, Nat.zero_le _, rfl, Lib.hid (by have := HO7.out; simpa [inqRow] using this)⟩
          case round =>
            obtain ⟨q, hq, rfl, HO⟩ := hrel
            clear HO7
            obtain ⟨A5, c5, rfl, hl5, hO5, hb5⟩ := HO.out
            rename World => w8
            have HO5 := Lib.hid hO5
            have HB5 := Lib.hid hb5
            clear hO5 hb5 HO
            by_cases hqt : q < kn
            · obtain ⟨vs, hvs⟩ : ∃ vs, vs = us ++ inqRow i y.2.2.2 q := ⟨_, rfl⟩
              rw [← hvs] at HO5 hl5 ⊢
              have HVS := Lib.hid hvs
              clear hvs
              obtain ⟨rb, ro, eR, _, hcR⟩ := (HTR.out w8 HB5.out).2.2.2.2.2.2.at_ (by omega)
              have r0 := hcR q hqt
              obtain ⟨a_, ha⟩ : ∃ a, a = y.2.2.2[q]?.getD 0 := ⟨_, rfl⟩
              rw [← ha] at r0
              have HAA := Lib.hid ha
              have HSU : Hid (us ++ inqRow i y.2.2.2 (q + 1) = vs ++ inqPair i q a_) := Lib.hid (by rw [inqRow_succ, ← ha, ← List.append_assoc, HVS.out])
              have q1 : (0 : Int) ≤ (q : Int) := by omega
              have q2 : (q : Int) < (kn : Int) := by omega
              simp only [eR]
              clear hcR ha
              by_cases d : q = i
              · have d1 : ((q : Int) != (i : Int)) = false := by simp [d]
                have HD := Lib.hid d
                have HOE : Hid (OwnQ w2 w8 (.slice A5 vs.length c5) (us ++ inqRow i y.2.2.2 (q + 1)) (400 * i + 2 + (q + 1))) := Lib.hid (by
                  rw [HSU.out]
                  unfold inqPair
                  rw [if_pos (.inl d), List.append_nil]
                  exact ⟨A5, c5, rfl, by omega, HO5.out, HB5.out⟩)
                clear d
                go_wp2_with fail
                go_roundw
                case rel => exact ⟨q + 1, by omega, by go_num, HOE⟩
                case measure => simp [intOf]; omega
              · have d1 : ((q : Int) != (i : Int)) = true := by simp; omega
                have HD := Lib.hid d
                clear d
                by_cases t : a_ = 3
                · have t1 : (a_ != 3) = false := by simp [t]
                  have HOE : Hid (OwnQ w2 w8 (.slice A5 vs.length c5) (us ++ inqRow i y.2.2.2 (q + 1)) (400 * i + 2 + (q + 1))) := Lib.hid (by
                    rw [HSU.out]
                    unfold inqPair
                    rw [if_pos (.inr t), List.append_nil]
                    exact ⟨A5, c5, rfl, by omega, HO5.out, HB5.out⟩)
                  clear t
                  go_wp2_with fail
                  go_roundw
                  case rel => exact ⟨q + 1, by omega, by go_num, HOE⟩
                  case measure => simp [intOf]; omega
                · have t1 : (a_ != 3) = true := by simp [t]
                  have HT3 := Lib.hid t
                  clear t
                  obtain ⟨i0, hi0, hz0, hz1, hz2⟩ := info_parts info_ineq
                  have hszr := HB5.out.size
                  go_wp2_with (at_builtin; refine stopW ?_)
                  unfold StopW
                  refine wpList_append_own_at _ rfl _ _ 37 rfl w2.heap.size 34 i0 _ 4 32 Try.underlying37 hi0 hz0 hz1 hz2 rfl (by decide) (.slice A5 vs.length c5) vs.length _ rfl (HO5.out.alloc _) ⟨w8.heap.size, 0, none⟩ 1 1 [.int .i64 i, .int .u8 0, .int .u8 a_, .int .i64 q] rfl rfl (fun j u hu => by rw [Addr.add_lit, Nat.zero_add]; exact four_at _ _ _ _ _ _ j u hu) (by simp [Value.oneCell']) (by unfold maxLen; omega) (by omega) (by simp; omega) ?_
                  intro v' w3 hown3 hg3 _ hat3
                  have H3 := OwnQ.step ⟨i, 0, a_, q⟩ _ hl5 HO5.out HB5.out hown3 hg3
                  have HOE : Hid (OwnQ w2 w3 v' (us ++ inqRow i y.2.2.2 (q + 1)) (400 * i + 2 + (q + 1))) := Lib.hid (by
                    rw [HSU.out]
                    unfold inqPair
                    rw [if_neg (fun e => e.elim HD.out HT3.out)]
                    obtain ⟨A, c, e, hl, hh⟩ := H3
                    exact ⟨A, c, e, by omega, hh⟩)
                  clear hown3 hg3 hat3 H3
                  go_wp2_with fail
                  go_roundw
                  case rel => exact ⟨q + 1, by omega, by go_num, HOE⟩
                  case measure => simp [intOf]; omega
            · obtain rfl : q = kn := by omega
              have hE : inqs L U rows q (i + 1) = us ++ inqRow i y.2.2.2 q := by
                rw [inqs_succ, HAT.out, ← HYS.out, HUS.out, HZS.out]
                simp only [List.append_assoc]
              have HOE : Hid (OwnQ w2 w8 (.slice A5 (us ++ inqRow i y.2.2.2 q).length c5) (inqs L U rows q (i + 1)) (400 * (i + 1))) := Lib.hid (by
                rw [hE]
                exact ⟨A5, c5, rfl, by omega, HO5.out, HB5.out⟩)
              clear hE
              go_wp2_with fail
              go_roundw
              case rel => exact ⟨i + 1, by omega, by go_num, HOE⟩
              case measure => simp [intOf]; omega
    · obtain rfl : i = kn := by omega
      obtain ⟨A5, c5, rfl, hl5, hO5, hb5⟩ := HO.out
      have HR := Lib.hid (RQ.of_own hO5)
      have HB := Lib.hid (HB2.out.on hb5)
      clear hO5 hb5 HO
      go_wp2_with fail
      exact bodyPost_ret (v := .tuple #[.slice A5 (inqs L U rows i i).length c5, .int .i64 0]) (by simp [results, Try.results25, go_sem]) rfl ⟨_, _, rfl, HR.out, by omega, HB.out⟩
end Go.Proofs.Ytlbachjhhjjmfaa.Mu

