/-
  ElimExact, walked: what it needs.
-/
import Derived.Test.YtlbachjhhjjmfaaElimW
namespace Go.Proofs.Ytlbachjhhjjmfaa.Mu
open Go.ChangeShapes Go.WideShapes Go.ChangeAt Go.RowKit Go.Shelf

attribute [local go_sem] Oper.semAt_some

theorem xcl_any (m : Int) (w : World) : Calls Try.prog 20 #[.int .u8 m] w fun e w' => e = .returned (.bool (badM m)) ∧ Bel w w' := by
  unfold badM
  by_cases h1 : m < 1
  · have e : (decide (m < 1) || decide (3 < m)) = true := by simp [h1]
    rw [e]
    go_enter Try.func20, Try.ntmps20
    go_wp2
    go_ret
    exact ⟨rfl, Bel.refl _⟩
  · by_cases h2 : 3 < m
    · have e : (decide (m < 1) || decide (3 < m)) = true := by simp [h2]
      rw [e]
      go_enter Try.func20, Try.ntmps20
      go_wp2
      go_ret
      exact ⟨rfl, Bel.refl _⟩
    · have e : (decide (m < 1) || decide (3 < m)) = false := by simp [h1, h2]
      rw [e]
      go_enter Try.func20, Try.ntmps20
      go_wp2
      go_ret
      exact ⟨rfl, Bel.refl _⟩

set_option maxHeartbeats 1000000 in
theorem xidx_any (A : Option Addr) (n cap : Nat) (low : List Int) (w : World) (hr : RI .u8 w w.heap.size A n low) (hmax : n ≤ 9223372036854775807) :
    Calls Try.prog 41 #[.slice A n cap, .func (.func 20) #[] #[]] w fun e w' => ∃ r : Int, e = .returned (.int .i64 r) ∧ ((low.any badM = true ∧ 0 ≤ r) ∨ (low.any badM = false ∧ r = -1)) ∧ Bel w w' := by
  have HR := Lib.hid hr
  have HL := Lib.hid hr.len
  clear hr
  go_enter Try.func41, Try.ntmps41
  go_wp2
  go_loopw [8] (fun i wr => ∃ j : Nat, j ≤ n ∧ i = .int .i64 (j : Int) ∧ Hid ((low.take j).any badM = false) ∧ Hid (Bel w wr)) (fun i _ => n - (intOf i).toNat)
  case atStart => exact ⟨0, Nat.zero_le _, rfl, Lib.hid (by simp), Lib.hid (Bel.refl _)⟩
  case round =>
    obtain ⟨j, hj, rfl, HT, HB⟩ := hrel
    by_cases hlt : j < n
    · obtain ⟨b, off, eA, hb, hc⟩ := (HR.out.bel HB.out).at_ (by omega)
      subst eA
      have c0 := hc j hlt
      have i1 : (0 : Int) ≤ (j : Int) := by omega
      have i2 : (j : Int) < (n : Int) := by omega
      obtain ⟨y, hy⟩ : ∃ y, low[j]? = some y := ⟨_, List.getElem?_eq_getElem (by rw [← HL.out]; exact hlt)⟩
      rw [hy, Option.getD_some] at c0
      have HY := Lib.hid hy
      clear hc hy
      obtain ⟨bb, hbb⟩ : ∃ bb, bb = badM y := ⟨_, rfl⟩
      have HC : Hid (∀ W, Calls Try.prog 20 #[.int .u8 y] W fun e w' => e = .returned (.bool bb) ∧ Bel W w') := Lib.hid fun W => by rw [hbb]; exact xcl_any y W
      have HBB := Lib.hid hbb
      clear hbb
      cases bb
      · go_wp2_with fail
        refine (HC.out _).mono ?_
        rintro e w2 ⟨rfl, hb2⟩
        have HB2 := Lib.hid (HB.out.on hb2)
        clear hb2
        go_wp2
        go_roundw
        case rel => exact ⟨j + 1, by omega, by go_num, Lib.hid (by rw [take_snoc_ HY.out, List.any_append, HT.out]; simp [← HBB.out]), HB2⟩
        case measure => simp [intOf]; omega
      · go_wp2_with fail
        refine (HC.out _).mono ?_
        rintro e w2 ⟨rfl, hb2⟩
        have HB2 := Lib.hid (HB.out.on hb2)
        clear hb2
        go_wp2
        go_ret
        exact ⟨_, rfl, .inl ⟨List.any_eq_true.2 ⟨y, List.mem_of_getElem? HY.out, HBB.out.symm⟩, by omega⟩, HB2.out⟩
    · obtain rfl : j = n := by omega
      go_wp2
      go_ret
      refine ⟨_, rfl, .inr ⟨?_, rfl⟩, HB.out⟩
      have h := HT.out
      rw [HL.out, List.take_length] at h
      exact h
theorem xcont_any (A : Option Addr) (n cap : Nat) (low : List Int) (w : World) (hr : RI .u8 w w.heap.size A n low) (hmax : n ≤ 9223372036854775807) :
    Calls Try.prog 19 #[.slice A n cap, .func (.func 20) #[] #[]] w fun e w' => e = .returned (.bool (low.any badM)) ∧ Bel w w' := by
  go_enter Try.func19, Try.ntmps19
  go_wp2_with fail
  refine (xidx_any A n cap low w hr hmax).mono ?_
  rintro e w2 ⟨r, rfl, ⟨h1, h2⟩ | ⟨h1, h2⟩, hb⟩
  · go_wp2
    go_ret
    exact ⟨by rw [h1]; rfl, hb⟩
  · subst h2
    go_wp2
    go_ret
    exact ⟨by rw [h1]; rfl, hb⟩

/-- What Project comes to: an error, or a table. -/
theorem proj_cases (n : Int) (A KA : Option Addr) (len cap kn kc : Nat) (xs : List Iq) (keep : List Int) (hlen : len = xs.length) (_hkl : kn = keep.length) (hkn : kn ≤ 150) (hkc : kn ≤ kc) (hn : n ≤ 1000) (hl : len ≤ 1000) :
    (∃ c : Int, c ≠ 0 ∧ (c = 2 ∨ c = 40) ∧ (c = 40 → mayF n [] xs = 0 ∧ ∀ S, ¬ SolQ n.toNat xs S) ∧ (c = 2 → mayF n [] xs = 2 ∨ (mayF n [] xs = 0 ∧ (∃ S, SolQ n.toNat xs S) ∧ ¬ KeepOk n keep)) ∧ ∀ w, RQ w w.heap.size A len xs → RI .i64 w w.heap.size KA kn keep → Calls Try.prog 7 #[.int .i64 n, .slice A len cap, .slice KA kn kc] w (ErrPost c w)) ∨
    ∃ (N : Nat) (kp : List Nat) (G : List Int), n = N ∧ N ≤ 1048576 ∧ mayF n [] xs = 0 ∧ keep = kp.map (fun (x : Nat) => (x : Int)) ∧ KeepOk n keep ∧ kp.Nodup ∧ (∀ v ∈ kp, v < N) ∧ (∀ x ∈ xs, GoodQ N x) ∧ SolQ N xs G ∧ (∀ S, SolQ N xs S → ∀ v, v < N → G[v]?.getD 0 ≤ S[v]?.getD 0) ∧ ∀ w, RQ w w.heap.size A len xs → RI .i64 w w.heap.size KA kn keep → Calls Try.prog 7 #[.int .i64 n, .slice A len cap, .slice KA kn kc] w (OkPost xs G kp kn w) := by
  by_cases hm : mayF n [] xs = 0
  · obtain ⟨N, hN, n1, l1, _, _, good⟩ := may_good hm
    subst hN
    obtain ⟨T, hT, hC⟩ := project_good N A KA len cap kn kc xs keep hlen hkn hkc hm
    cases hT1 : T.1 with
    | some i =>
      refine .inl ⟨40, by omega, .inr rfl, fun _ => ⟨hm, fun S hS => ?_⟩, fun h => by omega, fun w hq hK => (hC w hq hK).mono fun e w' h => ?_⟩
      · rw [Int.toNat_natCast] at hS
        have := tells_none hT hS
        rw [hT1] at this; cases this
      · unfold ProjPost at h
        rw [if_neg (by simp [hm]), hT1] at h
        exact h
    | none =>
      obtain ⟨h1, h2⟩ := tells_sol hT hT1
      by_cases hk : KeepOk (N : Int) keep
      · right
        have hkm : keep = (keep.map Int.toNat).map fun (x : Nat) => (x : Int) := by
          rw [List.map_map]
          apply List.ext_getElem?
          intro i
          rw [List.getElem?_map]
          cases hi : keep[i]? with
          | none => rfl
          | some x =>
            have := hk.1 x (List.mem_of_getElem? hi)
            simp only [Option.map_some, Function.comp, Option.some.injEq]
            omega
        have hkl' : ∀ v ∈ keep.map Int.toNat, v < N := fun v hv => by
          obtain ⟨x, hx, rfl⟩ := List.mem_map.1 hv
          have := hk.1 x hx
          omega
        have hnd : (keep.map Int.toNat).Nodup := by
          have h := hk.2
          rw [hkm] at h
          exact h.of_map _ (fun a b h e => h (by rw [e]))
        refine ⟨N, keep.map Int.toNat, T.2.1, rfl, n1, hm, hkm, hk, hnd, hkl', good, h1, h2, fun w hq hK => (hC w hq hK).mono fun e w' h => ?_⟩
        unfold ProjPost at h
        rw [if_neg (by simp [hm]), hT1] at h
        simp only [if_pos hk] at h
        exact h
      · refine .inl ⟨2, by omega, .inl rfl, fun h => by omega, fun _ => .inr ⟨hm, ⟨_, by rw [Int.toNat_natCast]; exact h1⟩, hk⟩, fun w hq hK => (hC w hq hK).mono fun e w' h => ?_⟩
        unfold ProjPost at h
        rw [if_neg (by simp [hm]), hT1] at h
        simp only [if_neg hk] at h
        exact h
  · have hm2 : mayF n [] xs = 2 := mayF_two (by omega) (by omega) hm
    refine .inl ⟨2, by omega, .inl rfl, fun h => by omega, fun _ => .inl hm2, fun w hq hK => ?_⟩
    have := project_no n A KA len cap kn kc xs w hq hkn hm
    rwa [hm2] at this
theorem mayx {n : Nat} {xs : List Iq} (h : mayF n [] xs = 0) : ∀ x ∈ xs, x.may = true := fun x hx => by
  obtain ⟨N, hN, n1, l1, _⟩ := may_good h
  have h2 := ((mayF_zero (by omega) (by omega)).1 h).2.2.2
  rw [List.any_eq_false] at h2
  have := h2 x hx
  exact (badQ_of.1 (by simpa using this)).1
/-! ### What holds under an assignment, and what the table says of it -/
def clampS (S : List Int) : List Int := S.map fun x => if 1 ≤ x ∧ x ≤ 3 then x else 1
theorem clamp_at {S : List Int} {v : Nat} (hv : v < S.length) : (clampS S)[v]?.getD 0 = if 1 ≤ S[v]?.getD 0 ∧ S[v]?.getD 0 ≤ 3 then S[v]?.getD 0 else 1 := by
  unfold clampS
  rw [List.getElem?_map, List.getElem?_eq_getElem hv]
  rfl
theorem clamp_same {S : List Int} {v : Nat} (hv : v < S.length) (h : 1 ≤ S[v]?.getD 0 ∧ S[v]?.getD 0 ≤ 3) : (clampS S)[v]?.getD 0 = S[v]?.getD 0 := by rw [clamp_at hv, if_pos h]
theorem holds_sol {n : Nat} {S : List Int} {xs : List Iq} (hl : S.length = n) (he : holdsE S xs = 0) (hn : holdsN S xs < 0) : SolQ n xs (clampS S) := by
  have hp := holds_parts he hn
  have hst : ∀ x ∈ xs, x.stands S = true := by
    unfold holdsE at he
    split at he
    · split at he
      · rename_i h; exact fun x hx => List.all_eq_true.1 h x hx
      · omega
    · omega
  refine ⟨by simp [clampS, hl], fun v hv => ?_, fun x hx => ?_⟩
  · rw [clamp_at (by omega)]
    split <;> omega
  · obtain ⟨h1, ⟨g1, g2, g3⟩, h3⟩ := hp x hx
    have hs := hst x hx
    unfold Iq.stands standsB at hs
    simp only [Bool.and_eq_true, Bool.or_eq_true, Bool.not_eq_true'] at hs
    have hL : x.m = 0 → (clampS S)[x.v.toNat]?.getD 0 = S[x.v.toNat]?.getD 0 := fun h0 => by
      have h := hs.1
      unfold lhB lvF at h
      simp [h0, okV, isMultB] at h
      rcases g1 with ⟨_, a, b⟩ | ⟨a, _⟩
      · exact clamp_same (by omega) ⟨h.2.1, h.2.2⟩
      · omega
    have hR : x.r ≠ -1 → (clampS S)[x.r.toNat]?.getD 0 = S[x.r.toNat]?.getD 0 := fun h0 => by
      have h := hs.2
      unfold rhB at h
      simp [h0, okV, isMultB] at h
      rcases g3 with a | ⟨a, b⟩
      · exact absurd a h0
      · exact clamp_same (by omega) ⟨h.2.1, h.2.2⟩
    have hl2 : lft (clampS S) x = lft S x := by
      unfold lft
      by_cases h0 : x.m = 0
      · rw [if_pos h0, if_pos h0, hL h0]
      · rw [if_neg h0, if_neg h0]
    unfold SatQ at h3 ⊢
    rw [hl2]
    rcases h3 with h | ⟨a, b⟩
    · exact .inl h
    · exact .inr ⟨a, by rw [hR (by omega)]; exact b⟩
theorem areM_map {α : Type} (l : List α) (f : α → Int) (k : Nat) (hk : l.length = k) (h : ∀ x ∈ l, 1 ≤ f x ∧ f x ≤ 3) : areM k (l.map f) = true := by
  unfold areM
  have : (l.map f).any badM = false := by
    rw [List.any_eq_false]
    intro y hy
    obtain ⟨x, hx, rfl⟩ := List.mem_map.1 hy
    have := h x hx
    unfold badM
    simp
    omega
  rw [this]
  simp [hk]
theorem tab_may {n : Nat} {xs : List Iq} {G L U : List Int} {kp : List Nat} {rows : List (Option Addr × Nat × Nat × List Int)} (hG : SolQ n xs G) (hk : ∀ v ∈ kp, v < n) (hkn : kp.length ≤ 150) (h : TabIs xs G kp L U (rows.map fun r => r.2.2.2)) : mayTab L U rows = 0 := by
  have hrl : rows.length = kp.length := by have := congrArg List.length h.pair; simpa using this
  have hL : L.length = kp.length := by rw [h.low]; simp
  have hU : U.length = kp.length := by rw [h.up]; simp
  unfold mayTab
  rw [if_neg (by omega), if_neg, if_neg]
  · intro hany
    obtain ⟨r, hr, hb⟩ := List.any_eq_true.1 hany
    have hmem : r.2.2.2 ∈ rows.map fun r => r.2.2.2 := List.mem_map.2 ⟨r, hr, rfl⟩
    rw [h.pair] at hmem
    obtain ⟨v, hv, e⟩ := List.mem_map.1 hmem
    rw [← e, hL, areM_map kp (fun w => pairM xs G v w) _ rfl (fun w _ => gr_bd _)] at hb
    cases hb
  · rw [hL]
    rintro (e | e | e)
    · exact e hrl
    · rw [h.low, areM_map kp (fun v => G[v]?.getD 0) _ rfl (fun v hv => hG.mult v (hk v hv))] at e; cases e
    · rw [h.up, areM_map kp (fun v => upM xs v) _ rfl (fun v _ => gr_bd _)] at e; cases e
theorem tab_lets {n : Nat} {xs : List Iq} {G L U g : List Int} {kp : List Nat} {rows : List (Option Addr × Nat × Nat × List Int)} (hG : SolQ n xs G) (hk : ∀ v ∈ kp, v < n) (hkn : kp.length ≤ 150) (h : TabIs xs G kp L U (rows.map fun r => r.2.2.2)) : LetsP L U rows g ↔ LetM xs G kp g := by
  have hL : L.length = kp.length := by rw [h.low]; simp
  have atL : ∀ (i v : Nat), kp[i]? = some v → L[i]?.getD 0 = G[v]?.getD 0 := fun i v hi => by rw [h.low, List.getElem?_map, hi]; rfl
  have atU : ∀ (i v : Nat), kp[i]? = some v → U[i]?.getD 0 = upM xs v := fun i v hi => by rw [h.up, List.getElem?_map, hi]; rfl
  have atP : ∀ (i j v w : Nat), kp[i]? = some v → kp[j]? = some w → (rowL rows i)[j]?.getD 0 = pairM xs G v w := fun i j v w hi hj => by
    have e : (rows.map fun r => r.2.2.2)[i]? = (kp.map fun v => kp.map fun w => pairM xs G v w)[i]? := by rw [h.pair]
    rw [List.getElem?_map, List.getElem?_map, hi] at e
    unfold rowL
    rw [e]
    simp only [Option.map_some, Option.getD_some]
    rw [List.getElem?_map, hj]
    rfl
  constructor
  · rintro ⟨_, hl, ha⟩
    refine ⟨hl.trans hL, fun i v hi => ?_, fun i v hi => ?_, fun i j v w hi hj => ?_⟩
    · have hil := (List.getElem?_eq_some_iff.1 hi).1
      have := (ha i (by omega)).1
      rwa [atL i v hi] at this
    · have hil := (List.getElem?_eq_some_iff.1 hi).1
      have := (ha i (by omega)).2.1
      rwa [atU i v hi] at this
    · have hil := (List.getElem?_eq_some_iff.1 hi).1
      have hjl := (List.getElem?_eq_some_iff.1 hj).1
      have := (ha i (by omega)).2.2 j (by omega)
      rwa [atP i j v w hi hj] at this
  · rintro hm
    refine ⟨tab_may hG hk hkn h, hm.len.trans hL.symm, fun i hi => ?_⟩
    have hil : i < kp.length := by rw [hm.len] at hi; exact hi
    have hi' : kp[i]? = some kp[i] := List.getElem?_eq_getElem hil
    refine ⟨by rw [atL i _ hi']; exact hm.low i _ hi', by rw [atU i _ hi']; exact hm.up i _ hi', fun j hj => ?_⟩
    have hjl : j < kp.length := by rw [hm.len] at hj; exact hj
    have hj' : kp[j]? = some kp[j] := List.getElem?_eq_getElem hjl
    rw [atP i j _ _ hi' hj']
    exact hm.pair i j _ _ hi' hj'
end Go.Proofs.Ytlbachjhhjjmfaa.Mu

