/-
  The reference of layer 5, walked: Free, May, Two.
  The reference of layer 5, walked: May.
  The reference of layer 5, walked: Two.
  The reference of layer 5: what its Project reckons; rows of a call's own, apart from each other.
-/
import Derived.Test.YtlbachjhhjjmfaaElimExact
import Derived.BigQuiet
namespace Go.Proofs.Ytlbachjhhjjmfaa.Mu
open Go.ChangeShapes Go.WideShapes Go.ChangeAt Go.RowKit Go.Shelf

attribute [local go_sem] Oper.semAt_some

set_option maxRecDepth 100000 in
set_option maxHeartbeats 4000000 in
theorem free5_any (A KA GA : Option Addr) (len cap kn kc gn gc : Nat) (xs : List Iq) (kp : List Nat) (g : List Int) (w : World) (hq : RQ w w.heap.size A len xs) (hK : RI .i64 w w.heap.size KA kn (kp.map fun (x : Nat) => (x : Int))) (hG : RI .u8 w w.heap.size GA gn g) (hgk : gn = kn) (hl : len ≤ 1000) (hk : kn ≤ 1000) :
    Calls Try.prog 80 #[.slice A len cap, .slice KA kn kc, .slice GA gn gc] w fun e w' => ∃ A' c', e = .returned (.slice A' (len + kn) c') ∧ RQ w' w'.heap.size A' (len + kn) (xs ++ freeQ kp g) ∧ Bel w w' := by
  have HQ := Lib.hid hq
  have HK := Lib.hid hK
  have HG := Lib.hid hG
  have HKN : Hid (kn = kp.length) := Lib.hid (by have := hK.1; simpa using this)
  clear hq hK hG
  go_enter Try.func80, Try.ntmps80
  go_wp2_with (at_builtin; refine wpList_append_rq rfl _ _ 37 rfl w.heap.size 34 _ rfl Try.underlying37 info_ineq (some ⟨w.heap.size, 0, none⟩) 0 0 [] rfl (World.ownsRow_made w #[] 0 (Nat.le_refl _) (Nat.zero_le _) (by simp)) _ A len cap xs rfl (HQ.out.bel ((Bel.refl w).alloc _)) (by omega) (by simp) ?_; intro A' c' w1 hown1 hg1)
  have HO1 : Hid (w1.ownsRow w.heap.size 34 4 (.slice A' (0 + len) c') (0 + len) (flatI ([] ++ xs))) := Lib.hid hown1
  have HB1 : Hid (Bel w w1) := Lib.hid (Below.grown ((Bel.refl w).alloc _) hg1 (by simp) (fun x hx => by simp [Value.ownBlock] at hx; omega))
  clear hown1 hg1
  go_loopw [7, 8] (fun qv iv wr => ∃ j : Nat, j ≤ kn ∧ iv = .int .i64 (j : Int) ∧ ∃ A' c', qv = .slice A' (len + j) c' ∧ Hid (Bel w wr) ∧ Hid (wr.ownsRow w.heap.size 34 4 (.slice A' (len + j) c') (len + j) (flatI (xs ++ (freeQ kp g).take j)))) (fun _ i _ => kn - (intOf i).toNat)
  case atStart => exact ⟨0, Nat.zero_le _, rfl, A', c', by simp, HB1, Lib.hid (by have := HO1.out; simpa using this)⟩
  case round =>
    clear HO1 HB1
    obtain ⟨j, hj, rfl, A5, c5, rfl, HBr, HOr⟩ := hrel
    by_cases hlt : j < kn
    · have hkj : kp[j]? = some kp[j] := List.getElem?_eq_getElem (by rw [← HKN.out]; exact hlt)
      obtain ⟨v, hv⟩ : ∃ v, v = kp[j] := ⟨_, rfl⟩
      rw [← hv] at hkj
      obtain ⟨b, off, eA, hb, hc⟩ := (HK.out.bel HBr.out).at_ (by omega)
      subst eA
      have c0 := hc j hlt
      rw [List.getElem?_map, hkj] at c0
      simp only [Option.map_some, Option.getD_some] at c0
      obtain ⟨bg, og, eA, hbg, hcg⟩ := (HG.out.bel HBr.out).at_ (by omega)
      subst eA
      have cg := hcg j (by omega)
      obtain ⟨gj, hgj⟩ : ∃ gj, gj = g[j]?.getD 0 := ⟨_, rfl⟩
      rw [← hgj] at cg
      have i1 : (0 : Int) ≤ (j : Int) := by omega
      have i2 : (j : Int) < (kn : Int) := by omega
      have i5 : (j : Int) < (gn : Int) := by omega
      have HKJ := Lib.hid hkj
      have HGJ := Lib.hid hgj
      have HGK := Lib.hid hgk
      have hszr := HBr.out.size
      clear hv hkj hc hcg hgj hgk
      go_wp2_with fail
      go_region_law (refine step_append_own rfl (.tmp 18) (.tmp 29) 37 rfl w.heap.size 34 _ 4 32 Try.underlying37 info_ineq rfl (by decide) (by decide) A5 (len + j) c5 (flatI (xs ++ (freeQ kp g).take j)) (by simp [Act.eval]) (by exact HOr.out.alloc _) wr.heap.size [.int .i64 v, .int .u8 0, .int .u8 gj, .int .i64 (-1)] (by simp [Act.eval]) rfl (by exact four_at wr _ _ _ _ _) (by simp [Value.oneCell']) (by omega) (by simp; omega) ?_; intro A6 c6 w5 hown5 hg5; (have HO5 := Lib.hid hown5); (have HG5 := Lib.hid hg5); clear hown5 hg5)
      all_goals
        have HOz : Hid (w5.ownsRow w.heap.size 34 4 (.slice A6 (len + (j + 1)) c6) (len + (j + 1)) (flatI (xs ++ (freeQ kp g).take (j + 1)))) := Lib.hid (by
          have h := HO5.out
          have e : flatI (xs ++ (freeQ kp g).take (j + 1)) = flatI (xs ++ (freeQ kp g).take j) ++ [.int .i64 v, .int .u8 0, .int .u8 gj, .int .i64 (-1)] := by
            rw [freeQ_take HKJ.out, ← HGJ.out, ← List.append_assoc]
            simp [flatI, Iq.cells]
          rw [e]
          exact h)
        have HBz : Hid (Bel w w5) := Lib.hid (by
          have hg := HG5.out
          have hb2 := HBr.out
          refine ⟨hg.os.trans hb2.os, hg.tape.trans hb2.tape, hg.output.trans hb2.output, by have := hg.size; have := hb2.size; simp at *; omega, fun q hq => (hg.block q (by have := hb2.size; simp; omega) (fun e => ?_)).trans ((((Bel.refl wr).alloc _).block q (by have := hb2.size; omega)).trans (hb2.block q hq))⟩
          have := (HOr.out.lt q e.symm).1
          omega)
        clear HO5 HG5 c0 cg i1 i2 i5
        go_wp2_with fail
        go_roundw
        case rel => exact ⟨j + 1, by omega, by go_num, _, _, rfl, HBz, HOz⟩
        case measure => simp [intOf]; omega
    · obtain rfl : j = kn := by omega
      go_wp2_with fail
      go_ret
      have h := HOr.out
      rw [List.take_of_length_le (by rw [freeQ_len, ← HKN.out]; exact Nat.le_refl _)] at h
      exact ⟨_, _, rfl, RQ.of_own h, HBr.out⟩
/-- The bound of what a variable may be at least: 1, or as it is asked. -/
theorem lowQ_bd {N : Nat} {kp : List Nat} {g : List Int} (hg3 : ∀ (i v : Nat), kp[i]? = some v → 1 ≤ g[i]?.getD 0 ∧ g[i]?.getD 0 ≤ 3) : ∀ v, v < N → 1 ≤ (lowQ N kp g kp.length)[v]?.getD 0 ∧ (lowQ N kp g kp.length)[v]?.getD 0 ≤ 3 := fun v hv => by
  rcases lowQ_at (g := g) kp.length (Nat.le_refl _) v hv with ⟨i, _, h2, h3⟩ | ⟨_, h3⟩
  · rw [h3]; exact hg3 i v h2
  · rw [h3]; omega
theorem freeQ_mem {kp : List Nat} {g : List Int} {x : Iq} (hx : x ∈ freeQ kp g) : ∃ (i v : Nat), kp[i]? = some v ∧ x = ⟨(v : Int), 0, g[i]?.getD 0, -1⟩ := by
  obtain ⟨i, hi, rfl⟩ := List.mem_map.1 hx
  have hil := List.mem_range.1 hi
  have h1 : kp[i]? = some kp[i] := List.getElem?_eq_getElem hil
  exact ⟨i, kp[i], h1, by rw [h1]; rfl⟩
theorem mem_freeQ {kp : List Nat} {g : List Int} {i v : Nat} (h : kp[i]? = some v) : (⟨(v : Int), 0, g[i]?.getD 0, -1⟩ : Iq) ∈ freeQ kp g :=
  List.mem_map.2 ⟨i, List.mem_range.2 (List.getElem?_eq_some_iff.1 h).1, by rw [h]; rfl⟩
/-- What is asked of Solve, and what it tells: whether there is a solution that is just so at the variables that are kept. -/
theorem free_solve {N : Nat} {xs : List Iq} {g : List Int} {kp : List Nat} (hN : N ≤ 1048576) (hxl : xs.length + kp.length ≤ 1048576) (hm : mayF N [] xs = 0) (hg : ∀ x ∈ xs, GoodQ N x) (hnd : kp.Nodup) (hk : ∀ v ∈ kp, v < N) (hg3 : ∀ (i v : Nat), kp[i]? = some v → 1 ≤ g[i]?.getD 0 ∧ g[i]?.getD 0 ≤ 3) :
    mayF N (lowQ N kp g kp.length) (xs ++ freeQ kp g) = 0 ∧ ∀ T, Tells N (lowQ N kp g kp.length) (xs ++ freeQ kp g) T → (T.1 = none ↔ ∃ S, SolQ N xs S ∧ ∀ (i v : Nat), kp[i]? = some v → S[v]?.getD 0 = g[i]?.getD 0) := by
  have hlow := lowQ_bd (N := N) hg3
  refine ⟨mayF_ok hN (by rw [List.length_append]; simp [freeQ]; omega) (.inr (lowQ_len _ _ _ _)) (fun m hm' => ?_) (fun x hx => ?_), fun T hT => ⟨fun h1 => ?_, fun ⟨S, hS, hSa⟩ => ?_⟩⟩
  · obtain ⟨v, hv⟩ := List.getElem?_of_mem hm'
    have hvl := (List.getElem?_eq_some_iff.1 hv).1
    rw [lowQ_len] at hvl
    have := hlow v hvl
    rw [hv] at this
    exact this
  · rcases List.mem_append.1 hx with hx | hx
    · exact ⟨mayx hm x hx, hg x hx⟩
    · obtain ⟨i, v, hi, rfl⟩ := freeQ_mem hx
      have hv := hk v (List.mem_of_getElem? hi)
      have hb := hg3 i v hi
      refine ⟨?_, .inl ⟨rfl, by simp, by simp; omega⟩, hb, .inl rfl⟩
      unfold Iq.may mayI isB isVarB isMultB
      simp
      omega
  · obtain ⟨s1, s2, s3⟩ := hT.solves h1
    have e : (low0 N (lowQ N kp g kp.length)) = lowQ N kp g kp.length := by
      unfold low0
      rw [lowQ_len]
      by_cases h0 : N = 0
      · subst h0
        rw [if_pos rfl]
        have := lowQ_len 0 kp g kp.length
        rw [List.eq_nil_of_length_eq_zero this]
        rfl
      · rw [if_neg h0]
    refine ⟨T.2.1, ⟨s1, fun v hv => ⟨(s3 v hv).1, (s3 v hv).2.1⟩, fun x hx => s2 x (List.mem_append_left _ hx)⟩, fun i v hi => ?_⟩
    have hv := hk v (List.mem_of_getElem? hi)
    have hb := (s3 v hv).2.2
    rw [e] at hb
    have hc := s2 _ (List.mem_append_right _ (mem_freeQ (g := g) hi))
    unfold SatQ lft at hc
    simp only [if_true, Int.toNat_natCast] at hc
    have hc : T.2.1[v]?.getD 0 ≤ g[i]?.getD 0 := by
      rcases hc with hc | ⟨hc, _⟩
      · exact hc
      · exact absurd hc (by omega)
    rcases lowQ_at (n := N) (g := g) kp.length (Nat.le_refl _) v hv with ⟨j, _, h4, h5⟩ | ⟨h4, _⟩
    · have hij : i = j := by
        have h6 := (List.getElem?_eq_some_iff.1 hi)
        have h7 := (List.getElem?_eq_some_iff.1 h4)
        exact (List.getElem_inj (h₀ := h6.1) (h₁ := h7.1) hnd).1 (h6.2.trans h7.2.symm)
      subst hij
      omega
    · exact absurd hi (h4 i (List.getElem?_eq_some_iff.1 hi).1)
  · refine (hT.least S (fun x hx => ?_) (fun v hv => ?_)).1
    · rcases List.mem_append.1 hx with hx | hx
      · exact hS.sat x hx
      · obtain ⟨i, v, hi, rfl⟩ := freeQ_mem hx
        left
        unfold lft
        simp only [if_true, Int.toNat_natCast]
        rw [hSa i v hi]
        exact Int.le_refl _
    · have e : (low0 N (lowQ N kp g kp.length)) = lowQ N kp g kp.length := by unfold low0; rw [lowQ_len, if_neg (by omega)]
      rw [e]
      rcases lowQ_at (g := g) kp.length (Nat.le_refl _) v hv with ⟨i, _, h2, h3⟩ | ⟨_, h3⟩
      · rw [h3, hSa i v h2]; exact Int.le_refl _
      · rw [h3]; exact (hS.mult v hv).1
end Go.Proofs.Ytlbachjhhjjmfaa.Mu
namespace Go.Proofs.Ytlbachjhhjjmfaa.Mu
open Go.ChangeShapes Go.WideShapes Go.ChangeAt Go.RowKit Go.Shelf

attribute [local go_sem] Oper.semAt_some

def IsThere (N : Nat) (xs : List Iq) (kp : List Nat) (g : List Int) (b : Bool) : Prop := b = true ↔ ∃ S, SolQ N xs S ∧ ∀ (i v : Nat), kp[i]? = some v → S[v]?.getD 0 = g[i]?.getD 0
set_option maxRecDepth 100000 in
set_option maxHeartbeats 4000000 in
theorem rmay5_any (N : Nat) (A KA GA : Option Addr) (len cap kn kc gn gc : Nat) (xs : List Iq) (kp : List Nat) (g : List Int) (b : Bool) (hb : IsThere N xs kp g b) (hm : mayF N [] xs = 0) (hgood : ∀ x ∈ xs, GoodQ N x) (hnd : kp.Nodup) (hkl : ∀ v ∈ kp, v < N) (hg3 : ∀ (i v : Nat), kp[i]? = some v → 1 ≤ g[i]?.getD 0 ∧ g[i]?.getD 0 ≤ 3) (hgk : gn = kn) (hl : len ≤ 60) (hk : kn ≤ 6) (hN : N ≤ 30) (w : World) (hq : RQ w w.heap.size A len xs) (hK : RI .i64 w w.heap.size KA kn (kp.map fun (x : Nat) => (x : Int))) (hG : RI .u8 w w.heap.size GA gn g) :
    Calls Try.prog 61 #[.int .i64 N, .slice A len cap, .slice KA kn kc, .slice GA gn gc] w fun e w' => e = .returned (.bool b) ∧ Bel w w' := by
  have HQ := Lib.hid hq
  have HK := Lib.hid hK
  have HG := Lib.hid hG
  have hkn : kn = kp.length := by have := hK.1; simpa using this
  have HKN := Lib.hid hkn
  have hfs := free_solve (g := g) (by omega) (by have := hq.len; omega) hm hgood hnd hkl hg3
  have HFS := Lib.hid hfs
  have HB := Lib.hid hb
  have HVL := Lib.hid hkl
  have HQL := Lib.hid hq.len
  have hmk := fun W => run_make_row' (P := Try.prog) 23 30 (.int .u8 0) 1 Try.underlying23 info_mu8 rfl .i64 .i64 N (by omega) (by omega) W
  have HGK := Lib.hid hgk
  have hgn6 : gn ≤ 6 := by omega
  clear hq hK hG hfs hb hm hgood hnd hkl hg3 hkn hgk
  go_enter Try.func61, Try.ntmps61
  go_wp2_with fail
  have hA1 := Arr.made (kd := .u8) w 30 N 0
  have HA1 := Lib.hid hA1
  obtain ⟨w1, hw1⟩ : ∃ w1, w1 = w.alloc (.cells (madeCells #[.int .u8 0] N) 30) := ⟨_, rfl⟩
  have HB1 : Hid (Bel w w1) := Lib.hid (by rw [hw1]; exact (Bel.refl w).alloc _)
  obtain ⟨lg, hlg⟩ : ∃ lg, lg = w.heap.size := ⟨_, rfl⟩
  have HLG := Lib.hid hlg
  rw [← hw1, ← hlg] at HA1
  rw [← hw1]
  rw [← hlg]
  clear hw1 hlg hmk hA1
  go_loopw [10] (fun iv wr => ∃ j : Nat, j ≤ N ∧ iv = .int .i64 (j : Int) ∧ Hid (Bel w wr) ∧ Hid (Arr .u8 wr lg 30 (List.replicate j 1 ++ List.replicate (N - j) 0))) (fun i _ => N - (intOf i).toNat)
  case atStart => exact ⟨0, Nat.zero_le _, rfl, HB1, Lib.hid (by simpa using HA1.out)⟩
  case round =>
    clear HA1 HB1
    obtain ⟨j, hj, rfl, HBr, HAr⟩ := hrel
    by_cases hlt : j < N
    · have i1 : (0 : Int) ≤ (j : Int) := by omega
      have i2 : (j : Int) < (N : Int) := by omega
      have c0 := HAr.out.cell (j := j) (by simp; omega)
      have f0 := HAr.out.frozen j
      go_wp2_with fail
      go_roundw
      case rel => exact ⟨j + 1, by omega, by go_num, Lib.hid (HBr.out.set_ (by rw [HLG.out]; exact Nat.le_refl _) _), Lib.hid (by
        have h := HAr.out.set_ j 1
        have e : (List.replicate j (1 : Int) ++ List.replicate (N - j) 0).set j 1 = List.replicate (j + 1) 1 ++ List.replicate (N - (j + 1)) 0 := by
          apply List.ext_getElem
          · simp; omega
          · intro q h1 h2
            rw [List.getElem_set]
            simp only [List.getElem_append, List.getElem_replicate, List.length_replicate]
            repeat' split
            all_goals first | rfl | omega
        rw [e] at h
        exact h)⟩
      case measure => simp [intOf]; omega
    · obtain rfl : j = N := by omega
      have HAq : Hid (Arr .u8 wr lg 30 (lowQ j kp g 0)) := Lib.hid (by
        have h := HAr.out
        simpa [lowQ] using h)
      clear HAr
      go_wp2_with fail
      go_loopw [11] (fun iv wr => ∃ q : Nat, q ≤ kn ∧ iv = .int .i64 (q : Int) ∧ Hid (Bel w wr) ∧ Hid (Arr .u8 wr lg 30 (lowQ j kp g q))) (fun i _ => kn - (intOf i).toNat)
      case atStart => exact ⟨0, Nat.zero_le _, rfl, HBr, HAq⟩
      case round =>
        clear HAq HBr
        obtain ⟨q, hq, rfl, HBs, HAs⟩ := hrel
        by_cases hlt : q < kn
        · have hkj : kp[q]? = some kp[q] := List.getElem?_eq_getElem (by rw [← HKN.out]; exact hlt)
          obtain ⟨v, hv⟩ : ∃ v, v = kp[q] := ⟨_, rfl⟩
          rw [← hv] at hkj
          have hvN : v < j := HVL.out v (List.mem_of_getElem? hkj)
          obtain ⟨bk, ok, eA, hbk, hck⟩ := (HK.out.bel HBs.out).at_ (by omega)
          subst eA
          have c0 := hck q hlt
          rw [List.getElem?_map, hkj] at c0
          simp only [Option.map_some, Option.getD_some] at c0
          obtain ⟨bg, og, eA, hbg, hcg⟩ := (HG.out.bel HBs.out).at_ (by have := HGK.out; omega)
          subst eA
          have cg := hcg q (by have := HGK.out; omega)
          obtain ⟨gj, hgj⟩ : ∃ gj, gj = g[q]?.getD 0 := ⟨_, rfl⟩
          rw [← hgj] at cg
          have i1 : (0 : Int) ≤ (q : Int) := by omega
          have i2 : (q : Int) < (kn : Int) := by omega
          have i3 : (0 : Int) ≤ (v : Int) := by omega
          have i4 : (v : Int) < (j : Int) := by omega
          have i5 : (q : Int) < (gn : Int) := by have := HGK.out; omega
          have HKJ := Lib.hid hkj
          have HGJ := Lib.hid hgj
          have cl := HAs.out.cell (j := v) (by rw [lowQ_len]; exact hvN)
          have fl := HAs.out.frozen v
          clear hv hkj hck hcg hgj hvN
          go_wp2_with fail
          go_region
          all_goals
            go_wp2_with fail
            go_roundw
            case rel => exact ⟨q + 1, by omega, by go_num, Lib.hid (HBs.out.set_ (p := ⟨lg, v, none⟩) (by rw [HLG.out]; exact Nat.le_refl _) (.int .u8 gj)).drew, Lib.hid (by
              rw [lowQ_succ, HKJ.out, Option.getD_some, ← HGJ.out]
              exact HAs.out.set_ v gj)⟩
            case measure => simp [intOf]; omega
        · obtain rfl : q = kn := by omega
          have hri := HAs.out.ri (n := j) (by rw [lowQ_len])
          have HRI := Lib.hid hri
          clear hri
          go_wp2_with fail
          refine (free5_any A KA GA len cap q kc gn gc xs kp g _ (HQ.out.bel HBs.out) (HK.out.bel HBs.out) (HG.out.bel HBs.out) HGK.out (by omega) (by omega)).mono ?_
          rintro e w2 ⟨A2, c2, rfl, hq2, hb2⟩
          have HQ2 := Lib.hid hq2
          have HB2 := Lib.hid (HBs.out.on hb2)
          have HR2 := Lib.hid (HRI.out.bel hb2)
          clear hq2 hb2
          obtain ⟨T, ws, hT, _, _⟩ := solve_core j none none j 0 (len + q) 0 (lowQ j kp g q) (xs ++ freeQ kp g) (by rw [List.length_append, freeQ_len, ← HKN.out, ← HQL.out]) (by rw [lowQ_len]) (by have h := HFS.out.1; rwa [← HKN.out] at h)
          have HT := Lib.hid hT
          have HTB : Hid (T.1 = none ↔ b = true) := Lib.hid ((HFS.out.2 T (by rw [← HKN.out]; exact hT)).trans HB.out.symm)
          clear hT
          go_wp2_with fail
          refine (rsolve4_any j (some ⟨lg, 0, none⟩) A2 j j (len + q) c2 (lowQ j kp g q) (xs ++ freeQ kp g) T HT.out (by have h := HFS.out.1; rwa [← HKN.out] at h) w2 HR2.out HQ2.out (by omega) (by omega) (by omega)).mono ?_
          intro e w3 hp
          unfold RPost at hp
          cases hT1 : T.1 with
          | none =>
            rw [hT1] at hp
            obtain ⟨A3, c3, rfl, _, hb3⟩ := hp
            have hbt : b = true := HTB.out.1 hT1
            have HB3 := Lib.hid (HB2.out.on hb3)
            clear hb3
            subst hbt
            go_wp2_with fail
            go_ret
            exact ⟨rfl, HB3.out⟩
          | some i =>
            rw [hT1] at hp
            obtain ⟨rfl, hb3⟩ := hp
            have hbf : b = false := by
              cases hb' : b
              · rfl
              · have := HTB.out.2 hb'; rw [hT1] at this; cases this
            have HB3 := Lib.hid (HB2.out.on hb3)
            clear hb3
            subst hbf
            go_wp2_with fail
            go_ret
            exact ⟨rfl, HB3.out⟩
end Go.Proofs.Ytlbachjhhjjmfaa.Mu
namespace Go.Proofs.Ytlbachjhhjjmfaa.Mu
open Go.ChangeShapes Go.WideShapes Go.ChangeAt Go.RowKit Go.Shelf

attribute [local go_sem] Oper.semAt_some

theorem ri_ik1 {kd : IntKind} {w : World} {g : Nat} {x : Int} {t : TypeId} (h : w.heap[g]? = some (.cells #[.int kd x] t (0, 0))) : RI kd w w.heap.size (some ⟨g, 0, none⟩) 1 [x] :=
  ⟨rfl, fun _ => ⟨g, 0, rfl, (Array.getElem?_eq_some_iff.1 h).1, fun k hk => by
    match k, hk with
    | 0, _ => simp [World.cell?, h]⟩⟩
theorem ri_ikk {kd : IntKind} {w : World} {g : Nat} {x y : Int} {t : TypeId} (h : w.heap[g]? = some (.cells #[.int kd x, .int kd y] t (0, 0))) : RI kd w w.heap.size (some ⟨g, 0, none⟩) 2 [x, y] :=
  ⟨rfl, fun _ => ⟨g, 0, rfl, (Array.getElem?_eq_some_iff.1 h).1, fun k hk => by
    match k, hk with
    | 0, _ => simp [World.cell?, h]
    | 1, _ => simp [World.cell?, h]⟩⟩
def TwoIs (N : Nat) (xs : List Iq) (u v : Nat) (a b : Int) (t : Bool) : Prop := t = true ↔ ∃ S, SolQ N xs S ∧ S[u]?.getD 0 = a ∧ S[v]?.getD 0 = b
set_option maxRecDepth 100000 in
set_option maxHeartbeats 4000000 in
theorem rtwo5_any (N : Nat) (A : Option Addr) (len cap u v : Nat) (xs : List Iq) (a b : Int) (t : Bool) (ht : TwoIs N xs u v a b t) (hm : mayF N [] xs = 0) (hgood : ∀ x ∈ xs, GoodQ N x) (hu : u < N) (hv : v < N) (ha : 1 ≤ a ∧ a ≤ 3) (hb : 1 ≤ b ∧ b ≤ 3) (hl : len ≤ 60) (hN : N ≤ 30) (w : World) (hq : RQ w w.heap.size A len xs) :
    Calls Try.prog 34 #[.int .i64 N, .slice A len cap, .int .i64 u, .int .u8 a, .int .i64 v, .int .u8 b] w fun e w' => e = .returned (.bool t) ∧ Bel w w' := by
  have HQ := Lib.hid hq
  by_cases huv : u = v
  · subst huv
    by_cases hab : a = b
    · subst hab
      have hi : IsThere N xs [u] [a] t := by
        refine ht.trans ⟨fun ⟨S, h1, h2, _⟩ => ⟨S, h1, fun i w hi => ?_⟩, fun ⟨S, h1, h2⟩ => ⟨S, h1, h2 0 u rfl, h2 0 u rfl⟩⟩
        match i, hi with
        | 0, hi => cases hi; exact h2
        | k + 1, hi => simp at hi
      have HC : Hid (∀ W (KA GA : Option Addr), RQ W W.heap.size A len xs → RI .i64 W W.heap.size KA 1 [(u : Int)] → RI .u8 W W.heap.size GA 1 [a] → Calls Try.prog 61 #[.int .i64 N, .slice A len cap, .slice KA 1 1, .slice GA 1 1] W fun e w' => e = .returned (.bool t) ∧ Bel W w') := Lib.hid fun W KA GA h1 h2 h3 =>
        rmay5_any N A KA GA len cap 1 1 1 1 xs [u] [a] t hi hm hgood (by simp) (by simpa using hu) (fun i w hi => by
          match i, hi with
          | 0, hi => exact ha
          | k + 1, hi => simp at hi) rfl hl (by omega) hN W h1 h2 h3
      clear ht hq hgood hm hi
      go_enter Try.func34, Try.ntmps34
      go_wp2_with fail
      refine (HC.out _ _ _ (HQ.out.bel (((Bel.refl w).alloc _).alloc _)) (ri_ik1 (blk2 w _ _).1) (ri_ik1 (by have := (blk2 w (.cells #[.int .i64 (u : Int)] 3) (.cells #[.int .u8 a] 30)).2; simpa using this))).mono ?_
      rintro e w2 ⟨rfl, hb2⟩
      have HB2 := Lib.hid ((((Bel.refl w).alloc _).alloc _).on hb2)
      clear hb2
      go_wp2_with fail
      go_ret
      exact ⟨rfl, HB2.out⟩
    · have htf : t = false := by
        cases h : t
        · rfl
        · obtain ⟨S, _, h2, h3⟩ := ht.1 h
          exact absurd (h2.symm.trans h3) hab
      subst htf
      have d0 : (a == b) = false := by simpa using hab
      clear ht hq hgood hm
      go_enter Try.func34, Try.ntmps34
      go_wp2_with fail
      go_ret
      exact ⟨rfl, Bel.refl _⟩
  · have hi : IsThere N xs [u, v] [a, b] t := by
      refine ht.trans ⟨fun ⟨S, h1, h2, h3⟩ => ⟨S, h1, fun i w hi => ?_⟩, fun ⟨S, h1, h2⟩ => ⟨S, h1, h2 0 u rfl, h2 1 v rfl⟩⟩
      match i, hi with
      | 0, hi => cases hi; exact h2
      | 1, hi => cases hi; exact h3
      | k + 2, hi => simp at hi
    have HC : Hid (∀ W (KA GA : Option Addr), RQ W W.heap.size A len xs → RI .i64 W W.heap.size KA 2 [(u : Int), (v : Int)] → RI .u8 W W.heap.size GA 2 [a, b] → Calls Try.prog 61 #[.int .i64 N, .slice A len cap, .slice KA 2 2, .slice GA 2 2] W fun e w' => e = .returned (.bool t) ∧ Bel W w') := Lib.hid fun W KA GA h1 h2 h3 =>
      rmay5_any N A KA GA len cap 2 2 2 2 xs [u, v] [a, b] t hi hm hgood (by simpa using huv) (by simpa using ⟨hu, hv⟩) (fun i w hi => by
        match i, hi with
        | 0, hi => exact ha
        | 1, hi => exact hb
        | k + 2, hi => simp at hi) rfl hl (by omega) hN W h1 h2 h3
    have d0 : ((u : Int) == (v : Int)) = false := by simp; omega
    clear ht hq hgood hm hi huv
    go_enter Try.func34, Try.ntmps34
    go_wp2_with fail
    refine (HC.out _ _ _ (HQ.out.bel (((Bel.refl w).alloc _).alloc _)) (ri_ikk (blk2 w _ _).1) (ri_ikk (by have := (blk2 w (.cells #[.int .i64 (u : Int), .int .i64 (v : Int)] 3) (.cells #[.int .u8 a, .int .u8 b] 30)).2; simpa using this))).mono ?_
    rintro e w2 ⟨rfl, hb2⟩
    have HB2 := Lib.hid ((((Bel.refl w).alloc _).alloc _).on hb2)
    clear hb2
    go_wp2_with fail
    go_ret
    exact ⟨rfl, HB2.out⟩
end Go.Proofs.Ytlbachjhhjjmfaa.Mu
namespace Go.Proofs.Ytlbachjhhjjmfaa.Mu
open Go.ChangeShapes Go.WideShapes Go.ChangeAt Go.RowKit Go.Shelf

attribute [local go_sem] Oper.semAt_some

/-- A world in which all that was there is as it was. -/
structure Abv (w : World) where
  wd : World
  bel : Bel w wd
instance (w : World) : Nonempty (Abv w) := ⟨⟨w, Bel.refl w⟩⟩
/-- A region that draws its order and whose operations read, or lay memory of their own, walked once: whatever they lay, what was there is as it was. -/
theorem wp_region_above {P : Program} {id : Nat} {Q : Exit → Act → World → Prop} {a : Act} {w : World} {l : List Oper} (hm : P.follows .mixedOrders = true) (hB : Region.lexB .any l.toArray = true)
    (h : wpQuiet P l.toArray (fun w' => ∃ n : Abv w, w' = n.wd) (fun a' => ∀ w', (∃ n : Abv w, w' = n.wd) → Q .normal a' w') l a) : (Code.region id l.toArray true).wp P Q a w :=
  wp_region_quiet (C := fun w' => ∃ n : Abv w, w' = n.wd) hm hB ⟨⟨_, (Bel.refl w).drew⟩, rfl⟩ (by simpa using h)
def loF (p : Int → Bool) : Nat → Int
  | 0 => 0
  | k + 1 => if p ((k : Int) + 1) = true ∧ loF p k = 0 then (k : Int) + 1 else loF p k
def upF5 (p : Int → Bool) : Nat → Int
  | 0 => 0
  | k + 1 => if p ((k : Int) + 1) = true then (k : Int) + 1 else upF5 p k
def cIn (q : Int → Int → Bool) (a c : Int) : Nat → Int
  | 0 => c
  | l + 1 => if (l : Int) + 1 < a ∧ cIn q a c l < a ∧ q a ((l : Int) + 1) = true then a else cIn q a c l
def cOut (q : Int → Int → Bool) : Nat → Int
  | 0 => 1
  | k + 1 => cIn q ((k : Int) + 1) (cOut q k) 3
theorem loF_bd (p : Int → Bool) : ∀ k : Nat, 0 ≤ loF p k ∧ loF p k ≤ k
  | 0 => ⟨Int.le_refl _, Int.le_refl _⟩
  | k + 1 => by
    have := loF_bd p k
    unfold loF
    split <;> omega
theorem cIn_bd {q : Int → Int → Bool} {a c : Int} (ha : 1 ≤ a ∧ a ≤ 3) (hc : 1 ≤ c ∧ c ≤ 3) : ∀ l : Nat, 1 ≤ cIn q a c l ∧ cIn q a c l ≤ 3
  | 0 => hc
  | l + 1 => by
    have := cIn_bd (q := q) ha hc l
    unfold cIn
    split <;> omega
theorem cOut_bd (q : Int → Int → Bool) : ∀ k : Nat, k ≤ 3 → 1 ≤ cOut q k ∧ cOut q k ≤ 3
  | 0, _ => by unfold cOut; omega
  | k + 1, h => cIn_bd (by omega) (cOut_bd q k (by omega)) 3
open Classical in
noncomputable def oneB (N : Nat) (xs : List Iq) (v : Nat) (m : Int) : Bool := decide (∃ S, SolQ N xs S ∧ S[v]?.getD 0 = m)
open Classical in
noncomputable def twoB (N : Nat) (xs : List Iq) (v w : Nat) (a b : Int) : Bool := decide (∃ S, SolQ N xs S ∧ S[v]?.getD 0 = a ∧ S[w]?.getD 0 = b)
theorem oneB_iff {N : Nat} {xs : List Iq} {v : Nat} {m : Int} : oneB N xs v m = true ↔ ∃ S, SolQ N xs S ∧ S[v]?.getD 0 = m := by
  unfold oneB
  exact ⟨@of_decide_eq_true _ (Classical.propDecidable _), @decide_eq_true _ (Classical.propDecidable _)⟩
theorem twoB_iff {N : Nat} {xs : List Iq} {v w : Nat} {a b : Int} : twoB N xs v w a b = true ↔ ∃ S, SolQ N xs S ∧ S[v]?.getD 0 = a ∧ S[w]?.getD 0 = b := by
  unfold twoB
  exact ⟨@of_decide_eq_true _ (Classical.propDecidable _), @decide_eq_true _ (Classical.propDecidable _)⟩
theorem oneB_is {N : Nat} {xs : List Iq} {v : Nat} {m : Int} : TwoIs N xs v v m m (oneB N xs v m) :=
  oneB_iff.trans ⟨fun ⟨S, a, b⟩ => ⟨S, a, b, b⟩, fun ⟨S, a, b, _⟩ => ⟨S, a, b⟩⟩
theorem twoB_is {N : Nat} {xs : List Iq} {v w : Nat} {a b : Int} : TwoIs N xs v w a b (twoB N xs v w a b) := twoB_iff
section
variable {N : Nat} {xs : List Iq} {G : List Int} (hg : ∀ x ∈ xs, GoodQ N x) (hG : SolQ N xs G) (hGl : ∀ S, SolQ N xs S → ∀ v, v < N → G[v]?.getD 0 ≤ S[v]?.getD 0)
include hG hGl in
theorem lo_is {v : Nat} (hv : v < N) : loF (oneB N xs v) 3 = G[v]?.getD 0 := by
  have hb := hG.mult v hv
  have h0 : oneB N xs v (G[v]?.getD 0) = true := oneB_iff.2 ⟨G, hG, rfl⟩
  have h1 : ∀ m, oneB N xs v m = true → G[v]?.getD 0 ≤ m := fun m h => by
    obtain ⟨S, a, b⟩ := oneB_iff.1 h
    rw [← b]
    exact hGl S a v hv
  generalize oneB N xs v = p at h0 h1 ⊢
  generalize G[v]?.getD 0 = g at hb h0 h1 ⊢
  have c : g = 1 ∨ g = 2 ∨ g = 3 := by omega
  have a1 := h1 1
  have a2 := h1 2
  rcases c with rfl | rfl | rfl
  · simp [loF, h0]
  · have : p 1 = false := by cases h : p 1; rfl; exact absurd (a1 h) (by omega)
    simp [loF, h0, this]
  · have e1 : p 1 = false := by cases h : p 1; rfl; exact absurd (a1 h) (by omega)
    have e2 : p 2 = false := by cases h : p 2; rfl; exact absurd (a2 h) (by omega)
    simp [loF, h0, e1, e2]
include hg hG in
theorem up_is {v : Nat} (hv : v < N) : upF5 (oneB N xs v) 3 = upM xs v := by
  have hb := gr_bd fun m => ¬ Hits xs m v
  have h0 : oneB N xs v (upM xs v) = true := oneB_iff.2 (up_met hg hG hv)
  have h1 : ∀ m, oneB N xs v m = true → m ≤ upM xs v := fun m h => by
    obtain ⟨S, a, b⟩ := oneB_iff.1 h
    rw [← b]
    exact up_above a hv
  have e : (gr fun m => ¬ Hits xs m v) = upM xs v := rfl
  rw [e] at hb
  generalize oneB N xs v = p at h0 h1 ⊢
  generalize upM xs v = g at h0 h1 hb ⊢
  have c : g = 1 ∨ g = 2 ∨ g = 3 := by omega
  have a2 := h1 2
  have a3 := h1 3
  rcases c with rfl | rfl | rfl
  · have e1 : p 2 = false := by cases h : p 2; rfl; exact absurd (a2 h) (by omega)
    have e2 : p 3 = false := by cases h : p 3; rfl; exact absurd (a3 h) (by omega)
    simp [upF5, h0, e1, e2]
  · have e2 : p 3 = false := by cases h : p 3; rfl; exact absurd (a3 h) (by omega)
    simp [upF5, h0, e2]
  · simp [upF5, h0]
include hg hG hGl in
theorem pair_is {v w : Nat} (hv : v < N) (hw : w < N) : cOut (twoB N xs v w) 3 = pairM xs G v w := by
  have hb : 1 ≤ pairM xs G v w ∧ pairM xs G v w ≤ 3 := gr_bd _
  have h1 : ∀ a b, b < a → twoB N xs v w a b = true → a ≤ pairM xs G v w := fun a b hlt h => by
    obtain ⟨S, s1, s2, s3⟩ := twoB_iff.1 h
    rw [← s2]
    exact pair_above s1 (hGl S s1) hv hw (by omega)
  have h0 : pairM xs G v w ≠ 1 → ∃ b, 1 ≤ b ∧ b < pairM xs G v w ∧ twoB N xs v w (pairM xs G v w) b = true := fun h => by
    obtain ⟨S, s1, s2, s3, _⟩ := pair_met hg hG hv hw h
    exact ⟨S[w]?.getD 0, (s1.mult w hw).1, s3, twoB_iff.2 ⟨S, s1, s2, rfl⟩⟩
  generalize twoB N xs v w = q at h0 h1 ⊢
  generalize pairM xs G v w = g at h0 h1 hb ⊢
  have c : g = 1 ∨ g = 2 ∨ g = 3 := by omega
  have a1 := h1 2 1 (by omega)
  have a2 := h1 3 1 (by omega)
  have a3 := h1 3 2 (by omega)
  rcases c with rfl | rfl | rfl
  · have e1 : q 2 1 = false := by cases h : q 2 1; rfl; exact absurd (a1 h) (by omega)
    have e2 : q 3 1 = false := by cases h : q 3 1; rfl; exact absurd (a2 h) (by omega)
    have e3 : q 3 2 = false := by cases h : q 3 2; rfl; exact absurd (a3 h) (by omega)
    simp [cOut, cIn, e1, e2, e3]
  · have e2 : q 3 1 = false := by cases h : q 3 1; rfl; exact absurd (a2 h) (by omega)
    have e3 : q 3 2 = false := by cases h : q 3 2; rfl; exact absurd (a3 h) (by omega)
    obtain ⟨b, b1, b2, b3⟩ := h0 (by omega)
    obtain rfl : b = 1 := by omega
    simp [cOut, cIn, b3, e2, e3]
  · obtain ⟨b, b1, b2, b3⟩ := h0 (by omega)
    have hbb : b = 1 ∨ b = 2 := by omega
    have hc : cOut q 2 < 3 := by
      simp only [cOut, cIn]
      repeat' split
      all_goals omega
    show cIn q 3 (cOut q 2) 3 = 3
    generalize cOut q 2 = c at *
    rcases hbb with rfl | rfl
    · simp [cIn, b3, hc]
    · cases h31 : q 3 1
      · simp [cIn, b3, hc, h31]
      · simp [cIn, b3, hc, h31]
end
/-- Rows of the call's own, apart from each other. -/
structure Ow where
  t : TypeId
  A : Option Addr
  n : Nat
  c : Nat
  xs : List Value
def Ow.own (s : Ow) (w : World) (base : Nat) : Prop := w.ownsRow base s.t 1 (.slice s.A s.n s.c) s.n s.xs
def OwnAll (w : World) (base : Nat) (S : List Ow) : Prop := (∀ s ∈ S, s.own w base) ∧ S.Pairwise fun s u => ∀ j, Bk s.A j → ¬ Bk u.A j
theorem bk_own {A : Option Addr} {n c k : Nat} (h : Bk A k) : (Value.slice A n c).ownBlock = some k := by obtain ⟨o, rfl⟩ := h; rfl
section
variable {w w' : World} {base : Nat} {S : List Ow} {s : Ow}
theorem OwnAll.far (h : OwnAll w base S) (hk : ∀ j, base ≤ j → j < w.heap.size → w'.heap[j]? = w.heap[j]?) : OwnAll w' base S :=
  ⟨fun s hs => own_blk (h.1 s hs) fun x hx => by have := own_lt_bk (h.1 s hs) (own_bk (h.1 s hs) hx); exact hk x this.1 this.2, h.2⟩
theorem OwnAll.bel (h : OwnAll w base S) (hb : Bel w w') : OwnAll w' base S := h.far fun j _ hj => hb.block j hj
theorem OwnAll.snoc (h : OwnAll w base S) (hs : s.own w base) (hd : ∀ u ∈ S, ∀ j, Bk u.A j → ¬ Bk s.A j) : OwnAll w base (S ++ [s]) := by
  refine ⟨fun u hu => ?_, List.pairwise_append.2 ⟨h.2, List.pairwise_singleton _ _, fun a ha b hb => ?_⟩⟩
  · rcases List.mem_append.1 hu with hu | hu
    · exact h.1 u hu
    · rw [List.mem_singleton.1 hu]; exact hs
  · rw [List.mem_singleton.1 hb]; exact hd a ha
end
theorem OwnAll.app {w wa w5 : World} {base : Nat} {pre post : List Ow} {s s' : Ow} (h : OwnAll w base (pre ++ s :: post)) (hba : Bel w wa) (hg : wa.grownBy w5 (Value.slice s.A s.n s.c).ownBlock) (hown : s'.own w5 base)
    (hat : ∀ j, Bk s'.A j → Bk s.A j ∨ w.heap.size ≤ j) : OwnAll w5 base (pre ++ s' :: post) := by
  obtain ⟨h1, h2⟩ := h
  have p := List.pairwise_append.1 h2
  have p2 := List.pairwise_cons.1 p.2.1
  have hs := h1 s (by simp)
  have keep : ∀ u ∈ pre ++ s :: post, (∀ j, Bk u.A j → ¬ Bk s.A j) → u.own w5 base := fun u hu hd => by
    refine own_blk (h1 u hu) fun x hx => ?_
    have hx' := own_bk (h1 u hu) hx
    have hl := own_lt_bk (h1 u hu) hx'
    refine (hg.block x (by have := hba.size; omega) (fun e => hd x hx' (own_bk hs e.symm))).trans (hba.block x hl.2)
  have far : ∀ u ∈ pre ++ s :: post, (∀ j, Bk u.A j → ¬ Bk s.A j) → ∀ j, Bk u.A j → ¬ Bk s'.A j := fun u hu hd j hj hj' => by
    rcases hat j hj' with e | e
    · exact hd j hj e
    · have := own_lt_bk (h1 u hu) hj
      omega
  refine ⟨fun u hu => ?_, List.pairwise_append.2 ⟨p.1, List.pairwise_cons.2 ⟨fun u hu j hj hj' => ?_, p2.2⟩, fun a ha b hb => ?_⟩⟩
  · rcases List.mem_append.1 hu with hu | hu
    · exact keep u (List.mem_append_left _ hu) (fun j a b => p.2.2 u hu s (by simp) j a b)
    · rcases List.mem_cons.1 hu with rfl | hu
      · exact hown
      · exact keep u (by simp [hu]) (fun j a b => p2.1 u hu j b a)
  · exact far u (by simp [hu]) (fun j a b => p2.1 u hu j b a) j hj' hj
  · rcases List.mem_cons.1 hb with rfl | hb
    · exact far a (by simp [ha]) (fun j x y => p.2.2 a ha s (by simp) j x y)
    · exact p.2.2 a ha b (by simp [hb])
theorem core5 {W w wa w5 : World} {b i : Nat} {x y z v : Value} {O : Obj} {T : TypeId} {pre post : List Ow} {s s' : Ow} (hW : b = W.heap.size) (bel : Bel W w) (rs : w.heap[b]? = some O) (tb : w.heap[b + 1]? = some (.cells #[x, y, z] T (0, 0))) (all : OwnAll w (b + 2) (pre ++ s :: post)) (hba : Bel w wa)
    (hg : wa.grownBy w5 (Value.slice s.A s.n s.c).ownBlock) (hown : s'.own w5 (b + 2)) (hat : (Value.slice s'.A s'.n s'.c).ownBlock = (Value.slice s.A s.n s.c).ownBlock ∨ (Value.slice s'.A s'.n s'.c).ownBlock = some wa.heap.size) :
    Bel W (w5.setCell ⟨b + 1, i, none⟩ v) ∧ (w5.setCell ⟨b + 1, i, none⟩ v).heap[b]? = some O ∧ w5.heap[b + 1]? = some (.cells #[x, y, z] T (0, 0)) ∧ OwnAll (w5.setCell ⟨b + 1, i, none⟩ v) (b + 2) (pre ++ s' :: post) := by
  have hs := all.1 s (by simp)
  have hsz : b + 1 < w.heap.size := (Array.getElem?_eq_some_iff.1 tb).1
  have hnl : ∀ j, j < b + 2 → some j ≠ (Value.slice s.A s.n s.c).ownBlock := fun j hj e => by have := own_lt_bk hs (own_bk hs e.symm); omega
  have hk : ∀ j, j < b + 2 → w5.heap[j]? = w.heap[j]? := fun j hj => (hg.block j (by have := hba.size; omega) (hnl j hj)).trans (hba.block j (by omega))
  have ho : ∀ j, j ≠ b + 1 → (w5.setCell ⟨b + 1, i, none⟩ v).heap[j]? = w5.heap[j]? := fun j hj => heap_setCell_other w5 _ j _ (fun e => hj e)
  have ha := all.app hba hg hown (fun j hj => by
    rcases hat with e | e
    · exact .inl (own_bk hs (e.symm.trans (bk_own hj)))
    · have := (bk_own (n := s'.n) (c := s'.c) hj).symm.trans e
      injection this with this
      have := hba.size
      exact .inr (by omega))
  refine ⟨⟨hg.os.trans (hba.os.trans bel.os), hg.tape.trans (hba.tape.trans bel.tape), hg.output.trans (hba.output.trans bel.output), ?_, fun j hj => ?_⟩, ?_, (hk _ (by omega)).trans tb, ha.far fun j hj _ => ho j (by omega)⟩
  · have := hg.size; have := hba.size; have := bel.size; simp [World.setCell]; omega
  · rw [ho j (by omega), hk j (by omega)]; exact bel.block j hj
  · rw [ho b (by omega), hk b (by omega)]; exact rs
def sOf (r : Option Addr × Nat × Nat × List Int) : Value := .slice r.1 r.2.1 r.2.2.1
def owL (A : Option Addr) (k c : Nat) (l : List Int) : Ow := ⟨30, A, k, c, (l.take k).map (Value.int .u8)⟩
def owP (A : Option Addr) (k c : Nat) (rows : List (Option Addr × Nat × Nat × List Int)) : Ow := ⟨23, A, k, c, (rows.take k).map sOf⟩
def owR (r : Option Addr × Nat × Nat × List Int) : Ow := ⟨30, r.1, r.2.1, r.2.2.1, r.2.2.2.map (Value.int .u8)⟩
/-- Where Project stands. -/
structure StP (W : World) (b kn : Nat) (lows ups : List Int) (rowF : Nat → List Int) (LA UA PA : Option Addr) (kl ku kp kr lc uc pc : Nat) (rows : List (Option Addr × Nat × Nat × List Int)) (w : World) : Prop where
  bel : Bel W w
  rs : w.heap[b]? = some (.cells #[.slice none 0 0, .slice none 0 0, .slice none 0 0] 26 (0, 0))
  tb : w.heap[b + 1]? = some (.cells #[.slice LA kl lc, .slice UA ku uc, .slice PA kp pc] 26 (0, 0))
  all : OwnAll w (b + 2) (owL LA kl lc lows :: owL UA ku uc ups :: owP PA kp pc rows :: rows.map owR)
  rn : ∀ r ∈ rows, r.2.1 = kn
  ct : rows.map (fun r => r.2.2.2) = (List.range kr).map rowF
section
variable {W w wa w5 : World} {b kn kl ku kp kr lc uc pc g c' : Nat} {lows ups : List Int} {rowF : Nat → List Int} {LA UA PA : Option Addr} {rows : List (Option Addr × Nat × Nat × List Int)} {x : Int}
theorem StP.bel_ {w' : World} (h : StP W b kn lows ups rowF LA UA PA kl ku kp kr lc uc pc rows w) (hb : Bel w w') : StP W b kn lows ups rowF LA UA PA kl ku kp kr lc uc pc rows w' :=
  ⟨h.bel.on hb, hb.blk h.rs, hb.blk h.tb, h.all.bel hb, h.rn, h.ct⟩
theorem StP.low (h : StP W b kn lows ups rowF LA UA PA kl ku kp kr lc uc pc rows w) (hW : b = W.heap.size) (hx : lows[kl]? = some x) (hba : Bel w wa) (hg : wa.grownBy w5 (Value.slice LA kl lc).ownBlock) (hown : w5.ownsRow (b + 2) 30 1 (.slice (some ⟨g, 0, none⟩) (kl + 1) c') (kl + 1) ((lows.take kl).map (Value.int .u8) ++ [.int .u8 x]))
    (hat : (Value.slice (some ⟨g, 0, none⟩) (kl + 1) c').ownBlock = (Value.slice LA kl lc).ownBlock ∨ (Value.slice (some ⟨g, 0, none⟩) (kl + 1) c').ownBlock = some wa.heap.size) :
    StP W b kn lows ups rowF (some ⟨g, 0, none⟩) UA PA (kl + 1) ku kp kr c' uc pc rows (w5.setCell ⟨b + 1, 0, none⟩ (.slice (some ⟨g, 0, none⟩) (kl + 1) c')) := by
  have e : (lows.take (kl + 1)).map (Value.int .u8) = (lows.take kl).map (Value.int .u8) ++ [.int .u8 x] := by rw [List.take_add_one, hx]; simp
  obtain ⟨h1, h2, h3, h4⟩ := core5 (i := 0) (v := .slice (some ⟨g, 0, none⟩) (kl + 1) c') (pre := []) (s := owL LA kl lc lows) (s' := owL (some ⟨g, 0, none⟩) (kl + 1) c' lows) hW h.bel h.rs h.tb h.all hba hg (by show w5.ownsRow _ _ _ _ _ ((lows.take (kl + 1)).map (Value.int .u8)); rw [e]; exact hown) hat
  exact ⟨h1, h2, by rw [heap_setCell_same w5 (b + 1) 0 _ _ _ h3]; simp, h4, h.rn, h.ct⟩
theorem StP.upp (h : StP W b kn lows ups rowF LA UA PA kl ku kp kr lc uc pc rows w) (hW : b = W.heap.size) (hx : ups[ku]? = some x) (hba : Bel w wa) (hg : wa.grownBy w5 (Value.slice UA ku uc).ownBlock) (hown : w5.ownsRow (b + 2) 30 1 (.slice (some ⟨g, 0, none⟩) (ku + 1) c') (ku + 1) ((ups.take ku).map (Value.int .u8) ++ [.int .u8 x]))
    (hat : (Value.slice (some ⟨g, 0, none⟩) (ku + 1) c').ownBlock = (Value.slice UA ku uc).ownBlock ∨ (Value.slice (some ⟨g, 0, none⟩) (ku + 1) c').ownBlock = some wa.heap.size) :
    StP W b kn lows ups rowF LA (some ⟨g, 0, none⟩) PA kl (ku + 1) kp kr lc c' pc rows (w5.setCell ⟨b + 1, 1, none⟩ (.slice (some ⟨g, 0, none⟩) (ku + 1) c')) := by
  have e : (ups.take (ku + 1)).map (Value.int .u8) = (ups.take ku).map (Value.int .u8) ++ [.int .u8 x] := by rw [List.take_add_one, hx]; simp
  obtain ⟨h1, h2, h3, h4⟩ := core5 (i := 1) (v := .slice (some ⟨g, 0, none⟩) (ku + 1) c') (pre := [owL LA kl lc lows]) (s := owL UA ku uc ups) (s' := owL (some ⟨g, 0, none⟩) (ku + 1) c' ups) hW h.bel h.rs h.tb h.all hba hg (by show w5.ownsRow _ _ _ _ _ ((ups.take (ku + 1)).map (Value.int .u8)); rw [e]; exact hown) hat
  exact ⟨h1, h2, by rw [heap_setCell_same w5 (b + 1) 1 _ _ _ h3]; simp, h4, h.rn, h.ct⟩
theorem StP.pap {r : Option Addr × Nat × Nat × List Int} (h : StP W b kn lows ups rowF LA UA PA kl ku kp kr lc uc pc rows w) (hW : b = W.heap.size) (hx : rows[kp]? = some r) (hba : Bel w wa) (hg : wa.grownBy w5 (Value.slice PA kp pc).ownBlock) (hown : w5.ownsRow (b + 2) 23 1 (.slice (some ⟨g, 0, none⟩) (kp + 1) c') (kp + 1) ((rows.take kp).map sOf ++ [sOf r]))
    (hat : (Value.slice (some ⟨g, 0, none⟩) (kp + 1) c').ownBlock = (Value.slice PA kp pc).ownBlock ∨ (Value.slice (some ⟨g, 0, none⟩) (kp + 1) c').ownBlock = some wa.heap.size) :
    StP W b kn lows ups rowF LA UA (some ⟨g, 0, none⟩) kl ku (kp + 1) kr lc uc c' rows (w5.setCell ⟨b + 1, 2, none⟩ (.slice (some ⟨g, 0, none⟩) (kp + 1) c')) := by
  have e : (rows.take (kp + 1)).map sOf = (rows.take kp).map sOf ++ [sOf r] := by rw [List.take_add_one, hx]; simp
  obtain ⟨h1, h2, h3, h4⟩ := core5 (i := 2) (v := .slice (some ⟨g, 0, none⟩) (kp + 1) c') (pre := [owL LA kl lc lows, owL UA ku uc ups]) (s := owP PA kp pc rows) (s' := owP (some ⟨g, 0, none⟩) (kp + 1) c' rows) hW h.bel h.rs h.tb h.all hba hg (by show w5.ownsRow _ _ _ _ _ ((rows.take (kp + 1)).map sOf); rw [e]; exact hown) hat
  exact ⟨h1, h2, by rw [heap_setCell_same w5 (b + 1) 2 _ _ _ h3]; simp, h4, h.rn, h.ct⟩
/-- The row that was made beside goes in. -/
theorem StP.row {RA : Option Addr} {rc : Nat} {row : List Int} (h : StP W b kn lows ups rowF LA UA PA kl ku kp kr lc uc pc rows w) (hkp : kp ≤ rows.length) {base : Nat} (hb : Bel w wa) (hbase : base = w.heap.size) (hr : wa.ownsRow base 30 1 (.slice RA kn rc) kn (row.map (Value.int .u8))) (hrow : row = rowF kr) :
    StP W b kn lows ups rowF LA UA PA kl ku kp (kr + 1) lc uc pc (rows ++ [(RA, kn, rc, row)]) wa := by
  have h2 := h.bel_ hb
  have hbz : b + 1 < w.heap.size := (Array.getElem?_eq_some_iff.1 h.tb).1
  have hal := h2.all.snoc (s := owR (RA, kn, rc, row)) (own_mono hr (by omega)) (fun u hu j hj hj' => by
    have h3 := own_lt_bk (h.all.1 u hu) hj
    have h4 := own_lt_bk hr hj'
    omega)
  have e : owP PA kp pc (rows ++ [(RA, kn, rc, row)]) = owP PA kp pc rows := by unfold owP; rw [List.take_append_of_le_length hkp]
  refine ⟨h2.bel, h2.rs, h2.tb, by rw [e, List.map_append]; exact hal, fun r hr' => ?_, by rw [List.map_append, h2.ct, List.range_succ, List.map_append, hrow]; rfl⟩
  rcases List.mem_append.1 hr' with hr' | hr'
  · exact h2.rn r hr'
  · rw [List.mem_singleton.1 hr']
end
end Go.Proofs.Ytlbachjhhjjmfaa.Mu

