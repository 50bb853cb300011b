/-
  Layer 5's laws: what they are made of.
  Tables by their solutions; the document's examples.
  works, walked.
-/
import Derived.Test.YtlbachjhhjjmfaaProject
import Derived.Test.YtlbachjhhjjmfaaLetsK
import Derived.Test.YtlbachjhhjjmfaaLeastG
import Derived.Test.YtlbachjhhjjmfaaTabMath
namespace Go.Proofs.Ytlbachjhhjjmfaa.Mu
open Go.ChangeShapes Go.WideShapes Go.ChangeAt Go.RowKit Go.Shelf

attribute [local go_sem] Oper.semAt_some

theorem eAbove_any (m v : Int) (w : World) : Calls Try.prog 8 #[.int .u8 m, .int .i64 v] w fun e w' => e = .returned (.agg #[.int .i64 0, .int .u8 m, .int .u8 1, .int .i64 v]) ∧ Bel w w' := by
  go_enter Try.func8, Try.ntmps8
  go_wp2
  exact bodyPost_ret (v := .agg #[.int .i64 0, .int .u8 m, .int .u8 1, .int .i64 v]) (by simp [results, Try.results8, go_sem]) rfl ⟨rfl, (Bel.refl w).alloc _⟩
theorem eBelow_any (v c r : Int) (w : World) : Calls Try.prog 9 #[.int .i64 v, .int .u8 c, .int .i64 r] w fun e w' => e = .returned (.agg #[.int .i64 v, .int .u8 0, .int .u8 c, .int .i64 r]) ∧ Bel w w' := by
  go_enter Try.func9, Try.ntmps9
  go_wp2
  exact bodyPost_ret (v := .agg #[.int .i64 v, .int .u8 0, .int .u8 c, .int .i64 r]) (by simp [results, Try.results9, go_sem]) rfl ⟨rfl, (Bel.refl w).alloc _⟩
theorem eGreat_any (n : Int) (A KA : Option Addr) (len cap kn kc : Nat) (w : World) : Calls Try.prog 13 #[.int .i64 n, .slice A len cap, .slice KA kn kc] w fun e w' => e = .returned (.bool (decide (30 < n) || decide (60 < len) || decide (6 < kn))) ∧ Bel w w' := by
  have hb : Bel w w := Bel.refl w
  by_cases h1 : 30 < n
  · go_enter Try.func13, Try.ntmps13
    go_wp2
    go_ret
    exact ⟨by simp [h1], hb⟩
  · by_cases h2 : 60 < len
    · have h2' : (60 : Int) < (len : Int) := by omega
      go_enter Try.func13, Try.ntmps13
      go_wp2
      go_ret
      exact ⟨by simp, hb⟩
    · have h2' : ¬ (60 : Int) < (len : Int) := by omega
      by_cases h3 : 6 < kn
      · have h3' : (6 : Int) < (kn : Int) := by omega
        go_enter Try.func13, Try.ntmps13
        go_wp2
        go_ret
        exact ⟨by simp, hb⟩
      · have h3' : ¬ (6 : Int) < (kn : Int) := by omega
        go_enter Try.func13, Try.ntmps13
        go_wp2
        go_ret
        exact ⟨by simp; omega, hb⟩
/-- A table of two variables. -/
def ToldIs (l0 l1 u0 u1 ac ca : Int) (w : World) (v : Value) : Prop :=
  ∃ LB UB PB rows, v = .agg #[.slice LB 2 2, .slice UB 2 2, .slice PB 2 2] ∧ RI .u8 w w.heap.size LB 2 [l0, l1] ∧ RI .u8 w w.heap.size UB 2 [u0, u1] ∧ RP w w.heap.size PB 2 rows ∧ listsOf rows = [[1, ac], [ca, 1]] ∧ ∀ r ∈ rows, r.2.1 = 2
theorem ToldIs.bel {l0 l1 u0 u1 ac ca : Int} {w w' : World} {v : Value} (h : ToldIs l0 l1 u0 u1 ac ca w v) (hb : Bel w w') : ToldIs l0 l1 u0 u1 ac ca w' v := by
  obtain ⟨LB, UB, PB, rows, e, h1, h2, h3, h4, h5⟩ := h
  exact ⟨LB, UB, PB, rows, e, h1.bel hb, h2.bel hb, h3.bel hb, h4, h5⟩
theorem ri_blk2 (w : World) (g : Nat) (x y : Int) (t : TypeId) (h : w.heap[g]? = some (.cells #[.int .u8 x, .int .u8 y] t (0, 0))) : RI .u8 w w.heap.size (some ⟨g, 0, none⟩) 2 [x, y] :=
  ⟨rfl, fun _ => ⟨g, 0, rfl, (Array.getElem?_eq_some_iff.1 h).1, fun k hk => by
    match k, hk with
    | 0, _ => simp [World.cell?, h]
    | 1, _ => simp [World.cell?, h]⟩⟩
theorem al6 (w : World) (o1 o2 o3 o4 o5 o6 : Obj) : ∃ w6, w6 = (((((w.alloc o1).alloc o2).alloc o3).alloc o4).alloc o5).alloc o6 ∧ w6.heap.size = w.heap.size + 6 ∧ w6.heap[w.heap.size]? = some o1 ∧ w6.heap[w.heap.size + 1]? = some o2 ∧ w6.heap[w.heap.size + 2]? = some o3 ∧ w6.heap[w.heap.size + 3]? = some o4 ∧ w6.heap[w.heap.size + 4]? = some o5 ∧ w6.heap[w.heap.size + 5]? = some o6 ∧ Bel w w6 := by
  obtain ⟨w4, e4, s4, q1, q2, q3, q4, b4⟩ := al4 w o1 o2 o3 o4
  have b5 : Bel w4 ((w4.alloc o5).alloc o6) := ((Bel.refl w4).alloc o5).alloc o6
  refine ⟨(w4.alloc o5).alloc o6, by rw [e4], by simp [s4], b5.blk q1, b5.blk q2, b5.blk q3, b5.blk q4, ?_, ?_, b4.on b5⟩
  · have := ((Bel.refl (w4.alloc o5)).alloc o6).blk (World.alloc_heap_new w4 o5)
    rwa [s4] at this
  · have := World.alloc_heap_new (w4.alloc o5) o6
    rwa [World.size_alloc, s4] at this
theorem told_end (l0 l1 u0 u1 ac ca : Int) (w w6 : World) (g r1 r2 : Nat) {t1 t2 t3 t4 t5 : TypeId} (h1 : w6.heap[w.heap.size]? = some (.cells #[.int .u8 l0, .int .u8 l1] t1 (0, 0))) (h2 : w6.heap[w.heap.size + 1]? = some (.cells #[.int .u8 u0, .int .u8 u1] t2 (0, 0))) (h3 : w6.heap[g]? = some (.cells #[.slice (some ⟨r1, 0, none⟩) 2 2, .slice (some ⟨r2, 0, none⟩) 2 2] t3 (0, 0)))
    (h4 : w6.heap[r1]? = some (.cells #[.int .u8 1, .int .u8 ac] t4 (0, 0))) (h5 : w6.heap[r2]? = some (.cells #[.int .u8 ca, .int .u8 1] t5 (0, 0))) : ToldIs l0 l1 u0 u1 ac ca w6 (.agg #[.slice (some ⟨w.heap.size, 0, none⟩) 2 2, .slice (some ⟨w.heap.size + 1, 0, none⟩) 2 2, .slice (some ⟨g, 0, none⟩) 2 2]) :=
  ⟨_, _, _, [(some ⟨r1, 0, none⟩, 2, 2, [1, ac]), (some ⟨r2, 0, none⟩, 2, 2, [ca, 1])], rfl, ri_blk2 _ _ _ _ _ h1, ri_blk2 _ _ _ _ _ h2, ⟨rfl, fun _ => ⟨g, 0, rfl, (Array.getElem?_eq_some_iff.1 h3).1, fun k r hr => by
    match k, hr with
    | 0, hr => simp at hr; subst hr; exact ⟨by simp [World.cell?, h3], ri_blk2 _ _ _ _ _ h4, by show (2 : Nat) ≤ _; omega⟩
    | 1, hr => simp at hr; subst hr; exact ⟨by simp [World.cell?, h3], ri_blk2 _ _ _ _ _ h5, by show (2 : Nat) ≤ _; omega⟩⟩⟩, rfl, fun r hr => by
    simp at hr
    rcases hr with rfl | rfl <;> rfl⟩
set_option maxHeartbeats 1000000 in
theorem told_any (l0 l1 u0 u1 ac ca : Int) (w : World) : Calls Try.prog 12 #[.agg #[.int .u8 l0, .int .u8 l1], .agg #[.int .u8 u0, .int .u8 u1], .int .u8 ac, .int .u8 ca] w fun e w' => ∃ v, e = .returned v ∧ ToldIs l0 l1 u0 u1 ac ca w' v ∧ Bel w w' := by
  go_enter Try.func12, Try.ntmps12
  go_wp2
  go_region
  all_goals
    go_wp2_with fail
    first
    | (obtain ⟨w6, e6, s6, q1, q2, q3, q4, q5, q6, b6⟩ := al6 w (.cells #[.int .u8 l0, .int .u8 l1] 41) (.cells #[.int .u8 u0, .int .u8 u1] 41) (.cells #[.slice (some ⟨w.heap.size, 0, none⟩) 2 2, .slice (some ⟨w.heap.size + 1, 0, none⟩) 2 2, .slice (some ⟨w.heap.size + 1 + 1 + 1 + 1 + 1, 0, none⟩) 2 2] 26) (.cells #[.int .u8 1, .int .u8 ac] 30) (.cells #[.int .u8 ca, .int .u8 1] 30) (.cells #[.slice (some ⟨w.heap.size + 1 + 1 + 1, 0, none⟩) 2 2, .slice (some ⟨w.heap.size + 1 + 1 + 1 + 1, 0, none⟩) 2 2] 23)
       rw [← e6]
       obtain ⟨k0, k1, k2, _, _, _⟩ := cells3 q3
       exact bodyPost_ret (v := .agg #[.slice (some ⟨w.heap.size, 0, none⟩) 2 2, .slice (some ⟨w.heap.size + 1, 0, none⟩) 2 2, .slice (some ⟨w.heap.size + 1 + 1 + 1 + 1 + 1, 0, none⟩) 2 2]) (by simp [results, Try.results12, go_sem, k0, k1, k2]) rfl ⟨_, rfl, told_end l0 l1 u0 u1 ac ca w w6.drew (w.heap.size + 5) (w.heap.size + 3) (w.heap.size + 4) q1 q2 q6 q4 q5, b6.drew⟩)
    | (obtain ⟨w6, e6, s6, q1, q2, q3, q4, q5, q6, b6⟩ := al6 w (.cells #[.int .u8 l0, .int .u8 l1] 41) (.cells #[.int .u8 u0, .int .u8 u1] 41) (.cells #[.slice (some ⟨w.heap.size, 0, none⟩) 2 2, .slice (some ⟨w.heap.size + 1, 0, none⟩) 2 2, .slice (some ⟨w.heap.size + 1 + 1 + 1 + 1 + 1, 0, none⟩) 2 2] 26) (.cells #[.int .u8 ca, .int .u8 1] 30) (.cells #[.int .u8 1, .int .u8 ac] 30) (.cells #[.slice (some ⟨w.heap.size + 1 + 1 + 1 + 1, 0, none⟩) 2 2, .slice (some ⟨w.heap.size + 1 + 1 + 1, 0, none⟩) 2 2] 23)
       rw [← e6]
       obtain ⟨k0, k1, k2, _, _, _⟩ := cells3 q3
       exact bodyPost_ret (v := .agg #[.slice (some ⟨w.heap.size, 0, none⟩) 2 2, .slice (some ⟨w.heap.size + 1, 0, none⟩) 2 2, .slice (some ⟨w.heap.size + 1 + 1 + 1 + 1 + 1, 0, none⟩) 2 2]) (by simp [results, Try.results12, go_sem, k0, k1, k2]) rfl ⟨_, rfl, told_end l0 l1 u0 u1 ac ca w w6.drew (w.heap.size + 5) (w.heap.size + 4) (w.heap.size + 3) q1 q2 q6 q5 q4, b6.drew⟩)
end Go.Proofs.Ytlbachjhhjjmfaa.Mu
namespace Go.Proofs.Ytlbachjhhjjmfaa.Mu
open Go

instance (S : List Int) (x : Iq) : Decidable (SatQ S x) := by unfold SatQ; infer_instance
section
variable {n : Nat} {xs : List Iq} {G : List Int}
theorem up_eq (hg : ∀ x ∈ xs, GoodQ n x) (hG : SolQ n xs G) {v : Nat} (hv : v < n) {c : Int} (h1 : ∃ S, SolQ n xs S ∧ S[v]?.getD 0 = c) (h2 : ∀ S, SolQ n xs S → S[v]?.getD 0 ≤ c) : upM xs v = c := by
  obtain ⟨S, hS, e⟩ := up_met hg hG hv
  obtain ⟨S1, hS1, e1⟩ := h1
  have := h2 S hS
  have := up_above hS1 hv
  omega
theorem pair_eq (hg : ∀ x ∈ xs, GoodQ n x) (hG : SolQ n xs G) (hl : ∀ S, SolQ n xs S → ∀ v, v < n → G[v]?.getD 0 ≤ S[v]?.getD 0) {v w : Nat} (hv : v < n) (hw : w < n) {c : Int} (h1 : ∃ S, SolQ n xs S ∧ S[v]?.getD 0 = c ∧ S[w]?.getD 0 < c) (h2 : ∀ S, SolQ n xs S → S[w]?.getD 0 < S[v]?.getD 0 → S[v]?.getD 0 ≤ c) : pairM xs G v w = c := by
  obtain ⟨S1, hS1, e1, e2⟩ := h1
  have q1 := pair_above hS1 (hl S1 hS1) hv hw (by omega)
  have q0 := (hS1.mult w hw).1
  obtain ⟨S, hS, e, e', _⟩ := pair_met hg hG hv hw (show pairM xs G v w ≠ 1 by omega)
  have := h2 S hS (by omega)
  omega
theorem pair_one (hg : ∀ x ∈ xs, GoodQ n x) (hG : SolQ n xs G) {v w : Nat} (hv : v < n) (hw : w < n) (h : ∀ S, SolQ n xs S → S[v]?.getD 0 ≤ S[w]?.getD 0) : pairM xs G v w = 1 := by
  by_cases e : pairM xs G v w = 1
  · exact e
  · obtain ⟨S, hS, e1, e2, _⟩ := pair_met hg hG hv hw e
    have := h S hS
    omega
/-- What Solve tells of no bounds is a least solution. -/
theorem tells_sol {T : Option Nat × List Int × List Int} (h : Tells n [] xs T) (hn : T.1 = none) : SolQ n xs T.2.1 ∧ ∀ S, SolQ n xs S → ∀ v, v < n → T.2.1[v]?.getD 0 ≤ S[v]?.getD 0 := by
  obtain ⟨h1, h2, h3⟩ := h.solves hn
  refine ⟨⟨h1, fun v hv => ⟨(h3 v hv).1, (h3 v hv).2.1⟩, h2⟩, fun S hS v hv => ?_⟩
  refine (h.least S hS.sat (fun u hu => ?_)).2 v hv
  have := (hS.mult u hu).1
  simp only [low0, List.length_nil, if_true]
  simp [hu]
  omega
theorem tells_none {T : Option Nat × List Int × List Int} (h : Tells n [] xs T) {S : List Int} (hS : SolQ n xs S) : T.1 = none := by
  refine (h.least S hS.sat (fun u hu => ?_)).1
  have := (hS.mult u hu).1
  simp only [low0, List.length_nil, if_true]
  simp [hu]
  omega
theorem tells_some {T : Option Nat × List Int × List Int} (h : Tells n [] xs T) (hno : ∀ S, ¬ SolQ n xs S) : ∃ i, T.1 = some i := by
  cases hT : T.1 with
  | none => exact absurd (tells_sol h hT).1 (hno _)
  | some i => exact ⟨i, rfl⟩
end
def exW : List Iq := [⟨0, 0, 1, 1⟩, ⟨1, 0, 2, 2⟩]
def exA : List Iq := [⟨0, 2, 1, 0⟩, ⟨0, 0, 1, 1⟩, ⟨1, 0, 1, 2⟩]
def exB : List Iq := [⟨2, 0, 2, -1⟩, ⟨2, 0, 1, 0⟩]
def exC : List Iq := [⟨0, 3, 1, 1⟩, ⟨1, 0, 1, -1⟩]
instance (n : Nat) (x : Iq) : Decidable (GoodQ n x) := by unfold GoodQ; infer_instance
theorem exW_good : ∀ x ∈ exW, GoodQ 4 x := by decide
theorem exA_good : ∀ x ∈ exA, GoodQ 4 x := by decide
theorem exB_good : ∀ x ∈ exB, GoodQ 4 x := by decide
theorem sol_lit (n : Nat) (xs : List Iq) (S : List Int) (h : S.length = n ∧ (∀ v, v < n → 1 ≤ S[v]?.getD 0 ∧ S[v]?.getD 0 ≤ 3) ∧ ∀ x ∈ xs, SatQ S x) : SolQ n xs S := ⟨h.1, h.2.1, h.2.2⟩
theorem exW_tab {G L U : List Int} {rows : List (List Int)} (hG : SolQ 4 exW G) (hl : ∀ S, SolQ 4 exW S → ∀ v, v < 4 → G[v]?.getD 0 ≤ S[v]?.getD 0) (h : TabIs exW G [0, 2] L U rows) : L = [1, 1] ∧ U = [3, 3] ∧ rows = [[1, 2], [3, 1]] := by
  have s1 : SolQ 4 exW [1, 1, 1, 1] := sol_lit _ _ _ (by decide)
  have s2 : SolQ 4 exW [3, 3, 3, 1] := sol_lit _ _ _ (by decide)
  have s3 : SolQ 4 exW [2, 2, 1, 1] := sol_lit _ _ _ (by decide)
  have s4 : SolQ 4 exW [1, 1, 3, 1] := sol_lit _ _ _ (by decide)
  have l0 := hl _ s1 0 (by omega)
  have l2 := hl _ s1 2 (by omega)
  have m0 := hG.mult 0 (by omega)
  have m2 := hG.mult 2 (by omega)
  simp at l0 l2
  have key : ∀ S : List Int, SolQ 4 exW S → S[0]?.getD 0 ≤ 2 ∨ S[0]?.getD 0 ≤ S[2]?.getD 0 := fun S hS => by
    have a1 := hS.sat ⟨0, 0, 1, 1⟩ (by simp [exW])
    have a2 := hS.sat ⟨1, 0, 2, 2⟩ (by simp [exW])
    have a3 := hS.mult 0 (by omega)
    have a4 := hS.mult 2 (by omega)
    simp [SatQ, lft] at a1 a2
    omega
  have u0 : upM exW 0 = 3 := up_eq exW_good hG (by omega) ⟨_, s2, rfl⟩ (fun S hS => (hS.mult 0 (by omega)).2)
  have u2 : upM exW 2 = 3 := up_eq exW_good hG (by omega) ⟨_, s2, rfl⟩ (fun S hS => (hS.mult 2 (by omega)).2)
  have p02 : pairM exW G 0 2 = 2 := pair_eq exW_good hG hl (by omega) (by omega) ⟨_, s3, rfl, by decide⟩ (fun S hS hlt => by have := key S hS; omega)
  have p20 : pairM exW G 2 0 = 3 := pair_eq exW_good hG hl (by omega) (by omega) ⟨_, s4, rfl, by decide⟩ (fun S hS _ => (hS.mult 2 (by omega)).2)
  refine ⟨?_, ?_, ?_⟩
  · rw [h.low]; simp only [List.map_cons, List.map_nil]; rw [show G[0]?.getD 0 = 1 by omega, show G[2]?.getD 0 = 1 by omega]
  · rw [h.up]; simp only [List.map_cons, List.map_nil, u0, u2]
  · rw [h.pair]; simp only [List.map_cons, List.map_nil, pair_self, p02, p20]
theorem exA_tab {G L U : List Int} {rows : List (List Int)} (hG : SolQ 4 exA G) (hl : ∀ S, SolQ 4 exA S → ∀ v, v < 4 → G[v]?.getD 0 ≤ S[v]?.getD 0) (h : TabIs exA G [0, 2] L U rows) : L = [2, 2] ∧ U = [3, 3] ∧ rows = [[1, 1], [3, 1]] := by
  have s1 : SolQ 4 exA [2, 2, 2, 1] := sol_lit _ _ _ (by decide)
  have s2 : SolQ 4 exA [3, 3, 3, 1] := sol_lit _ _ _ (by decide)
  have s4 : SolQ 4 exA [2, 2, 3, 1] := sol_lit _ _ _ (by decide)
  have l0 := hl _ s1 0 (by omega)
  have l2 := hl _ s1 2 (by omega)
  simp at l0 l2
  have key : ∀ S : List Int, SolQ 4 exA S → (2 : Int) ≤ S[0]?.getD 0 ∧ S[0]?.getD 0 ≤ S[2]?.getD 0 := fun S hS => by
    have a0 := hS.sat ⟨0, 2, 1, 0⟩ (by simp [exA])
    have a1 := hS.sat ⟨0, 0, 1, 1⟩ (by simp [exA])
    have a2 := hS.sat ⟨1, 0, 1, 2⟩ (by simp [exA])
    have a3 := hS.mult 0 (by omega)
    have a4 := hS.mult 2 (by omega)
    simp [SatQ, lft] at a0 a1 a2
    omega
  have kG := key G hG
  have u0 : upM exA 0 = 3 := up_eq exA_good hG (by omega) ⟨_, s2, rfl⟩ (fun S hS => (hS.mult 0 (by omega)).2)
  have u2 : upM exA 2 = 3 := up_eq exA_good hG (by omega) ⟨_, s2, rfl⟩ (fun S hS => (hS.mult 2 (by omega)).2)
  have p02 : pairM exA G 0 2 = 1 := pair_one exA_good hG (by omega) (by omega) (fun S hS => (key S hS).2)
  have p20 : pairM exA G 2 0 = 3 := pair_eq exA_good hG hl (by omega) (by omega) ⟨_, s4, rfl, by decide⟩ (fun S hS _ => (hS.mult 2 (by omega)).2)
  refine ⟨?_, ?_, ?_⟩
  · rw [h.low]; simp only [List.map_cons, List.map_nil]; rw [show G[0]?.getD 0 = 2 by omega, show G[2]?.getD 0 = 2 by omega]
  · rw [h.up]; simp only [List.map_cons, List.map_nil, u0, u2]
  · rw [h.pair]; simp only [List.map_cons, List.map_nil, pair_self, p02, p20]
theorem exB_tab {G L U : List Int} {rows : List (List Int)} (hG : SolQ 4 exB G) (hl : ∀ S, SolQ 4 exB S → ∀ v, v < 4 → G[v]?.getD 0 ≤ S[v]?.getD 0) (h : TabIs exB G [0, 2] L U rows) : L = [1, 1] ∧ U = [3, 2] ∧ rows = [[1, 3], [1, 1]] := by
  have s1 : SolQ 4 exB [1, 1, 1, 1] := sol_lit _ _ _ (by decide)
  have s2 : SolQ 4 exB [3, 1, 1, 1] := sol_lit _ _ _ (by decide)
  have s3 : SolQ 4 exB [3, 1, 2, 1] := sol_lit _ _ _ (by decide)
  have l0 := hl _ s1 0 (by omega)
  have l2 := hl _ s1 2 (by omega)
  have m0 := hG.mult 0 (by omega)
  have m2 := hG.mult 2 (by omega)
  simp at l0 l2
  have key : ∀ S : List Int, SolQ 4 exB S → S[2]?.getD 0 ≤ 2 ∧ S[2]?.getD 0 ≤ S[0]?.getD 0 := fun S hS => by
    have a1 := hS.sat ⟨2, 0, 2, -1⟩ (by simp [exB])
    have a2 := hS.sat ⟨2, 0, 1, 0⟩ (by simp [exB])
    have a3 := hS.mult 0 (by omega)
    have a4 := hS.mult 2 (by omega)
    simp [SatQ, lft] at a1 a2
    omega
  have u0 : upM exB 0 = 3 := up_eq exB_good hG (by omega) ⟨_, s2, rfl⟩ (fun S hS => (hS.mult 0 (by omega)).2)
  have u2 : upM exB 2 = 2 := up_eq exB_good hG (by omega) ⟨_, s3, rfl⟩ (fun S hS => (key S hS).1)
  have p20 : pairM exB G 2 0 = 1 := pair_one exB_good hG (by omega) (by omega) (fun S hS => (key S hS).2)
  have p02 : pairM exB G 0 2 = 3 := pair_eq exB_good hG hl (by omega) (by omega) ⟨_, s2, rfl, by decide⟩ (fun S hS _ => (hS.mult 0 (by omega)).2)
  refine ⟨?_, ?_, ?_⟩
  · rw [h.low]; simp only [List.map_cons, List.map_nil]; rw [show G[0]?.getD 0 = 1 by omega, show G[2]?.getD 0 = 1 by omega]
  · rw [h.up]; simp only [List.map_cons, List.map_nil, u0, u2]
  · rw [h.pair]; simp only [List.map_cons, List.map_nil, pair_self, p02, p20]
theorem exC_no : ∀ S, ¬ SolQ 4 exC S := fun S hS => by
  have a1 := hS.sat ⟨0, 3, 1, 1⟩ (by simp [exC])
  have a2 := hS.sat ⟨1, 0, 1, -1⟩ (by simp [exC])
  simp [SatQ, lft] at a1 a2
  omega
end Go.Proofs.Ytlbachjhhjjmfaa.Mu
namespace Go.Proofs.Ytlbachjhhjjmfaa.Mu
open Go.ChangeShapes Go.WideShapes Go.ChangeAt Go.RowKit Go.Shelf

attribute [local go_sem] Oper.semAt_some

/-- A call as a step of a region that draws its order, behind a guard that is so. -/
theorem step_callG {P : Program} {ops : Array Oper} {o : Oper} {a : Act} {w : World} {K : Act → World → Prop} {Q : Exit → Act → World → Prop} {E : Prop} (hw : Region.wanted o (yielded ops a.tmps) = true) (f : FuncId) (args : Array Value) (hrun : (execOp a.eval o).run P w = .ok (.enter f args) w)
    (h : Calls P f args w fun e w' => ∃ v, e = .returned v ∧ K (a.put o.dst v) w') : if Region.wanted o (yielded ops a.tmps) = true then Oper.wp P o a w K Q else E := by
  rw [if_pos hw]
  unfold Oper.wp
  rw [hrun]
  refine h.mono ?_
  rintro e w' ⟨v, rfl, hk⟩
  exact hk
theorem rq_exW (w : World) (g : Nat) (t : TypeId) (h : w.heap[g]? = some (.cells #[.int .i64 0, .int .u8 0, .int .u8 1, .int .i64 1, .int .i64 1, .int .u8 0, .int .u8 2, .int .i64 2] t (0, 0))) : RQ w w.heap.size (some ⟨g, 0, none⟩) 2 exW :=
  ⟨rfl, fun _ => ⟨g, 0, rfl, (Array.getElem?_eq_some_iff.1 h).1, fun k x hx => by
    match k, hx with
    | 0, hx => cases hx; simp [World.cell?, h]
    | 1, hx => cases hx; simp [World.cell?, h]⟩⟩
theorem ri_ik2 (w : World) (g : Nat) (x y : Int) (t : TypeId) (h : w.heap[g]? = some (.cells #[.int .i64 x, .int .i64 y] t (0, 0))) : RI .i64 w w.heap.size (some ⟨g, 0, none⟩) 2 [x, y] :=
  ⟨rfl, fun _ => ⟨g, 0, rfl, (Array.getElem?_eq_some_iff.1 h).1, fun k hk => by
    match k, hk with
    | 0, _ => simp [World.cell?, h]
    | 1, _ => simp [World.cell?, h]⟩⟩
/-- A table in memory, by value. -/
def TabV (LA : Option Addr) (_lc : Nat) (UA : Option Addr) (_uc : Nat) (PA : Option Addr) (_pc kn : Nat) (L U : List Int) (rows : List (Option Addr × Nat × Nat × List Int)) (w : World) : Prop :=
  RI .u8 w w.heap.size LA kn L ∧ RI .u8 w w.heap.size UA kn U ∧ RP w w.heap.size PA kn rows ∧ (∀ r ∈ rows, r.2.1 = kn ∧ kn ≤ r.2.2.1)
theorem TabV.bel {LA UA PA : Option Addr} {lc uc pc kn : Nat} {L U : List Int} {rows : List (Option Addr × Nat × Nat × List Int)} {w w' : World} (h : TabV LA lc UA uc PA pc kn L U rows w) (hb : Bel w w') : TabV LA lc UA uc PA pc kn L U rows w' :=
  ⟨h.1.bel hb, h.2.1.bel hb, h.2.2.1.bel hb, h.2.2.2⟩
/-- What Same says of a table and one of two. -/
theorem same_told (LA UA PA : Option Addr) (lc uc pc : Nat) (L U : List Int) (rows : List (Option Addr × Nat × Nat × List Int)) (w : World) (h : TabV LA lc UA uc PA pc 2 L U rows w) (v : Value) {l0 l1 u0 u1 ac ca : Int} (ht : ToldIs l0 l1 u0 u1 ac ca w v) :
    Calls Try.prog 11 #[.agg #[.slice LA 2 lc, .slice UA 2 uc, .slice PA 2 pc], v] w fun e w' => e = .returned (.bool (decide (L = [l0, l1]) && decide (U = [u0, u1]) && decide (listsOf rows = [[1, ac], [ca, 1]]))) ∧ Bel w w' := by
  obtain ⟨LB, UB, PB, rows2, rfl, h1, h2, h3, h4, h5⟩ := ht
  have := tabSame_any LA UA PA LB UB PB 2 lc 2 uc 2 pc 2 2 2 2 2 2 L U [l0, l1] [u0, u1] rows rows2 w h.1 h.2.1 h.2.2.1 h1 h2 h3 ⟨by omega, by omega, by omega, by omega, by omega⟩ (fun r hr => by rw [(h.2.2.2 r hr).1]; omega) (fun r hr => by rw [h5 r hr]; omega)
  rw [h4] at this
  exact this
/-- Project where there is a solution and what is kept may be. -/
theorem proj_ok (n : Nat) (A KA : Option Addr) (len cap kn kc : Nat) (xs : List Iq) (kp : List Nat) (hlen : len = xs.length) (hkn : kn ≤ 150) (hkc : kn ≤ kc) (hm : mayF n [] xs = 0) {S : List Int} (hS : SolQ n xs S) (hk : KeepOk n (kp.map fun (x : Nat) => (x : Int))) :
    ∃ G, SolQ n xs G ∧ (∀ S, SolQ n xs S → ∀ v, v < n → G[v]?.getD 0 ≤ S[v]?.getD 0) ∧ ∀ w, RQ w w.heap.size A len xs → RI .i64 w w.heap.size KA kn (kp.map fun (x : Nat) => (x : Int)) → Calls Try.prog 7 #[.int .i64 n, .slice A len cap, .slice KA kn kc] w (OkPost xs G kp kn w) := by
  obtain ⟨T, hT, hC⟩ := project_good n A KA len cap kn kc xs (kp.map fun (x : Nat) => (x : Int)) hlen hkn hkc hm
  have hn := tells_none hT hS
  obtain ⟨h1, h2⟩ := tells_sol hT hn
  refine ⟨T.2.1, h1, h2, fun w hq hK => (hC w hq hK).mono fun e w' h => ?_⟩
  unfold ProjPost at h
  rw [if_neg (by simp [hm]), hn] at h
  simp only [if_pos hk] at h
  have hkp : (kp.map fun (x : Nat) => (x : Int)).map Int.toNat = kp := by rw [List.map_map]; exact (List.map_congr_left (fun a _ => Int.toNat_natCast a)).trans (List.map_id _)
  rw [hkp] at h
  exact h
theorem rows_two {rows : List (Option Addr × Nat × Nat × List Int)} {a b : List Int} (h : rows.map (fun r => r.2.2.2) = [a, b]) : ∃ A1 n1 c1 A2 n2 c2, rows = [(A1, n1, c1, a), (A2, n2, c2, b)] := by
  match rows, h with
  | [(A1, n1, c1, x), (A2, n2, c2, y)], h =>
    simp at h
    obtain ⟨rfl, rfl⟩ := h
    exact ⟨A1, n1, c1, A2, n2, c2, rfl⟩
theorem letsW_yes {rows : List (Option Addr × Nat × Nat × List Int)} (h : rows.map (fun r => r.2.2.2) = [[1, 2], [3, 1]]) : LetsP [1, 1] [3, 3] rows [2, 1] := by
  obtain ⟨A1, n1, c1, A2, n2, c2, rfl⟩ := rows_two h
  refine ⟨rfl, rfl, fun i hi => ?_⟩
  match i, hi with
  | 0, _ => exact ⟨by decide, by decide, fun j hj => by match j, hj with | 0, _ => (first | (simp [rowL]; done) | (simp [rowL]; omega)) | 1, _ => (first | (simp [rowL]; done) | (simp [rowL]; omega))⟩
  | 1, _ => exact ⟨by decide, by decide, fun j hj => by match j, hj with | 0, _ => (first | (simp [rowL]; done) | (simp [rowL]; omega)) | 1, _ => (first | (simp [rowL]; done) | (simp [rowL]; omega))⟩
theorem letsW_no {rows : List (Option Addr × Nat × Nat × List Int)} (h : rows.map (fun r => r.2.2.2) = [[1, 2], [3, 1]]) : ¬ LetsP [1, 1] [3, 3] rows [3, 2] := by
  obtain ⟨A1, n1, c1, A2, n2, c2, rfl⟩ := rows_two h
  intro hl
  have := (hl.2.2 0 (by decide)).2.2 1 (by decide)
  simp [rowL] at this
theorem lets_yes (LA UA PA GA : Option Addr) (lc uc pc gn gc : Nat) (L U g : List Int) (kn : Nat) (rows : List (Option Addr × Nat × Nat × List Int)) (w : World) (h : TabV LA lc UA uc PA pc kn L U rows w) (hG : RI .u8 w w.heap.size GA gn g) (hk : kn ≤ 1000) (hl : LetsP L U rows g) : Calls Try.prog 21 #[.agg #[.slice LA kn lc, .slice UA kn uc, .slice PA kn pc], .slice GA gn gc] w fun e w' => e = .returned (.bool true) ∧ Bel w w' :=
  (lets_any LA UA PA GA kn lc kn uc kn pc gn gc L U g rows w h.1 h.2.1 h.2.2.1 hG (by omega) (by omega)).mono fun e w' ⟨b, he, hb, hB⟩ => ⟨by rw [he, hb.2 hl], hB⟩
theorem lets_no (LA UA PA GA : Option Addr) (lc uc pc gn gc : Nat) (L U g : List Int) (kn : Nat) (rows : List (Option Addr × Nat × Nat × List Int)) (w : World) (h : TabV LA lc UA uc PA pc kn L U rows w) (hG : RI .u8 w w.heap.size GA gn g) (hk : kn ≤ 1000) (hl : ¬ LetsP L U rows g) : Calls Try.prog 21 #[.agg #[.slice LA kn lc, .slice UA kn uc, .slice PA kn pc], .slice GA gn gc] w fun e w' => e = .returned (.bool false) ∧ Bel w w' :=
  (lets_any LA UA PA GA kn lc kn uc kn pc gn gc L U g rows w h.1 h.2.1 h.2.2.1 hG (by omega) (by omega)).mono fun e w' ⟨b, he, hb, hB⟩ => ⟨by cases b with | false => exact he | true => exact absurd (hb.1 rfl) hl, hB⟩
theorem keep02 : KeepOk 4 (([0, 2] : List Nat).map fun (x : Nat) => (x : Int)) := by decide
set_option maxRecDepth 100000 in
set_option maxHeartbeats 4000000 in
theorem works5_any (w : World) : Calls Try.prog 10 #[] w fun e w' => e = .returned (.bool true) ∧ Bel w w' := by
  go_enter Try.func10, Try.ntmps10
  go_wp2_with fail
  refine (eBelow_any _ _ _ _).mono ?_
  rintro e w1 ⟨rfl, hb1⟩
  have HB1 := Lib.hid hb1
  clear hb1
  go_wp2_with fail
  refine (eBelow_any _ _ _ _).mono ?_
  rintro e w2 ⟨rfl, hb2⟩
  have HB2 := Lib.hid (HB1.out.on hb2)
  clear hb2
  go_wp2_with fail
  obtain ⟨G, hG, hGl, hP⟩ := proj_ok 4 (some ⟨w2.heap.size, 0, none⟩) (some ⟨w2.heap.size + 1, 0, none⟩) 2 2 2 2 exW [0, 2] rfl (by omega) (by omega) rfl (S := [1, 1, 1, 1]) (sol_lit _ _ _ (by decide)) keep02
  have hba : Bel w2 ((w2.alloc (.cells #[.int .i64 0, .int .u8 0, .int .u8 1, .int .i64 1, .int .i64 1, .int .u8 0, .int .u8 2, .int .i64 2] 34)).alloc (.cells #[.int .i64 0, .int .i64 2] 3)) := ((Bel.refl w2).alloc _).alloc _
  refine (hP _ (rq_exW _ _ 34 (((Bel.refl _).alloc _).blk (blk1 w2 _))) (ri_ik2 _ _ 0 2 3 (by
    have := blk1 (w2.alloc (.cells #[.int .i64 0, .int .u8 0, .int .u8 1, .int .i64 1, .int .i64 1, .int .u8 0, .int .u8 2, .int .i64 2] 34)) (.cells #[.int .i64 0, .int .i64 2] 3)
    rwa [World.size_alloc] at this))).mono ?_
  rintro e w3 ⟨LA, lc, UA, uc, PA, pc, L, U, rows, rfl, hL, hU, hPr, hrl, hT, hb3⟩
  obtain ⟨rfl, rfl, hrows⟩ := exW_tab hG hGl hT
  have HB3 := Lib.hid (HB2.out.on (hba.on hb3))
  have HTV : Hid (TabV LA lc UA uc PA pc 2 [1, 1] [3, 3] rows w3) := Lib.hid ⟨hL, hU, hPr, hrl⟩
  have HRW := Lib.hid hrows
  clear hG hGl hP hba hL hU hPr hrl hT hb3 hrows
  go_wp2_with fail
  have hb4 : Bel w3 (w3.alloc (.cells #[.slice LA 2 lc, .slice UA 2 uc, .slice PA 2 pc] 26)) := (Bel.refl w3).alloc _
  have hq4 := blk1 w3 (.cells #[.slice LA 2 lc, .slice UA 2 uc, .slice PA 2 pc] 26)
  obtain ⟨w4, hw4⟩ : ∃ w4, w4 = w3.alloc (.cells #[.slice LA 2 lc, .slice UA 2 uc, .slice PA 2 pc] 26) := ⟨_, rfl⟩
  rw [← hw4] at hb4 hq4 ⊢
  obtain ⟨tb, htb⟩ : ∃ tb, tb = w3.heap.size := ⟨_, rfl⟩
  rw [← htb] at hq4 ⊢
  have HQ4 := Lib.hid hq4
  have HB4 := Lib.hid hb4
  have htl : tb < w4.heap.size := (Array.getElem?_eq_some_iff.1 hq4).1
  obtain ⟨t0, t1, t2, _, _, _⟩ := cells3 hq4
  clear hw4 htb hb4 hq4
  go_region_law (first
    | (refine step_callG rfl 12 #[.agg #[.int .u8 1, .int .u8 1], .agg #[.int .u8 3, .int .u8 3], .int .u8 2, .int .u8 3] (by simp [go_sem, Act.eval]) ((told_any 1 1 3 3 2 3 _).mono ?_); rintro e w5 ⟨v5, rfl, ht5, hb5⟩; refine ⟨_, rfl, ?_⟩; (have hb45 : Bel w4 w5 := (Bel.refl w4).drew.on hb5); (have HB5 := Lib.hid hb45); (have htl5 : tb < w5.heap.size := Nat.lt_of_lt_of_le htl hb45.size); (have HT5 := Lib.hid ht5); (have t0' := (hb45.cell (p := ⟨tb, 0, none⟩) htl).trans t0); (have t1' := (hb45.cell (p := ⟨tb, 1, none⟩) htl).trans t1); (have t2' := (hb45.cell (p := ⟨tb, 2, none⟩) htl).trans t2); clear hb5 hb45 ht5)
    | (refine step_callG rfl 11 #[.agg #[.slice LA 2 lc, .slice UA 2 uc, .slice PA 2 pc], v5] (by simp [go_sem, Act.eval]) ((same_told LA UA PA lc uc pc _ _ rows w5 (HTV.out.bel (HB4.out.on HB5.out)) v5 HT5.out).mono ?_); rintro e w6 ⟨rfl, hb6⟩; refine ⟨_, rfl, ?_⟩; (have hs6 : (decide (([1, 1] : List Int) = [1, 1]) && decide (([3, 3] : List Int) = [3, 3]) && decide (listsOf rows = [[1, 2], [3, 1]])) = true := by unfold listsOf; rw [HRW.out]; rfl); rw [hs6]; (have hb46 : Bel w4 w6 := HB5.out.on hb6); (have HB6 := Lib.hid hb46); (have htl6 : tb < w6.heap.size := Nat.lt_of_lt_of_le htl hb46.size); (have t0'' := (hb46.cell (p := ⟨tb, 0, none⟩) htl).trans t0); (have t1'' := (hb46.cell (p := ⟨tb, 1, none⟩) htl).trans t1); (have t2'' := (hb46.cell (p := ⟨tb, 2, none⟩) htl).trans t2); clear hb6 hb46 hs6)
    | (refine step_callG rfl 21 #[.agg #[.slice LA 2 lc, .slice UA 2 uc, .slice PA 2 pc], .slice (some ⟨w6.heap.size, 0, none⟩) 2 2] (by simp [go_sem, Act.eval]) ((lets_yes LA UA PA (some ⟨w6.heap.size, 0, none⟩) lc uc pc 2 2 _ _ [2, 1] 2 rows (w6.alloc (.cells #[.int .u8 2, .int .u8 1] 30)) (HTV.out.bel ((HB4.out.on HB6.out).alloc _)) (ri_blk2 _ _ 2 1 30 (blk1 w6 _)) (by omega) (letsW_yes HRW.out)).mono ?_); rintro e w7 ⟨rfl, hb7⟩; refine ⟨_, rfl, ?_⟩; (have hb47 : Bel w4 w7 := (HB6.out.alloc _).on hb7); (have HB7 := Lib.hid hb47); (have htl7 : tb < w7.heap.size := Nat.lt_of_lt_of_le htl hb47.size); (have t0c := (hb47.cell (p := ⟨tb, 0, none⟩) htl).trans t0); (have t1c := (hb47.cell (p := ⟨tb, 1, none⟩) htl).trans t1); (have t2c := (hb47.cell (p := ⟨tb, 2, none⟩) htl).trans t2); clear hb7 hb47)
    | (refine step_callG rfl 21 #[.agg #[.slice LA 2 lc, .slice UA 2 uc, .slice PA 2 pc], .slice (some ⟨w7.heap.size, 0, none⟩) 2 2] (by simp [go_sem, Act.eval]) ((lets_no LA UA PA (some ⟨w7.heap.size, 0, none⟩) lc uc pc 2 2 _ _ [3, 2] 2 rows (w7.alloc (.cells #[.int .u8 3, .int .u8 2] 30)) (HTV.out.bel ((HB4.out.on HB7.out).alloc _)) (ri_blk2 _ _ 3 2 30 (blk1 w7 _)) (by omega) (letsW_no HRW.out)).mono ?_); rintro e w8 ⟨rfl, hb8⟩; refine ⟨_, rfl, ?_⟩; (have hb48 : Bel w4 w8 := (HB7.out.alloc _).on hb8); (have HB8 := Lib.hid hb48); clear hb8 hb48))
  all_goals
    have HBF := Lib.hid (HB3.out.on (HB4.out.on HB8.out))
    go_wp2_with fail
    go_ret
    exact ⟨rfl, HBF.out⟩
end Go.Proofs.Ytlbachjhhjjmfaa.Mu

