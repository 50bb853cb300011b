/-
  What TyCanons puts back: variables as types and as multiplicities, moved on.
  What TyCanons asks of Canon and Put, in plain words.
  A region that draws its order, whose last operation but the tail is a store that one of the others need not wait for.
  TyCanons' two drawn regions: what is put back.
-/
import Derived.Test.YtblgligagngpfaaDoorTyCanM
import Derived.Test.YtblgligagngpfaaDoorTyMkW
import Derived.Test.YtblgligagngpfaaDoorSolversG
import Derived.Deep.MidRow
import Derived.Deep.Upon
namespace Go.Proofs.YtblgligagngpfaaDoor.Mu
open Go.ChangeShapes Go.WideShapes Go.ChangeAt Go.RowKit Go.Shelf

attribute [local go_sem] Oper.semAt_some
set_option linter.unusedVariables false

theorem info_tyB : (Tryd.prog.info? 27).map (fun i => (i.zero, i.size, i.bytes)) = some (some (.agg #[.int .u8 0, .int .i64 0, .int .i64 0, .int .u8 0, .slice none 0 0]), 5, 56) := by kernel_rfl
theorem info_muB : (Tryd.prog.info? 24).map (fun i => (i.zero, i.size, i.bytes)) = some (some (.agg #[.int .i64 0, .int .u8 0]), 2, 16) := by kernel_rfl
/-- The cells of variables. -/
def vcell (n : Int) : List Value := [.int .u8 1, .int .i64 n, .int .i64 0, .int .u8 0, .slice none 0 0]
def flatV (l : List Int) : List Value := l.flatMap vcell
def ucell (n : Int) : List Value := [.int .i64 n, .int .u8 0]
def flatU (l : List Int) : List Value := l.flatMap ucell
theorem flatV_len : ∀ l : List Int, (flatV l).length = l.length * 5
  | [] => rfl
  | n :: l => by
    have := flatV_len l
    simp only [flatV, List.flatMap_cons, List.length_append, List.length_cons] at *
    simp only [vcell, List.length_cons, List.length_nil]
    omega
theorem five_at (w : World) (a b c d e : Value) (t : TypeId) : ∀ j u, [a, b, c, d, e][j]? = some u → (w.alloc (.cells #[a, b, c, d, e] t)).cell? ⟨w.heap.size, j, none⟩ = some u := by
  intro j u hu
  match j, hu with
  | 0, hu => simp at hu; subst hu; simp
  | 1, hu => simp at hu; subst hu; simp
  | 2, hu => simp at hu; subst hu; simp
  | 3, hu => simp at hu; subst hu; simp
  | 4, hu => simp at hu; subst hu; simp
theorem pair_at (w : World) (a b : Value) (t : TypeId) : ∀ j u, [a, b][j]? = some u → (w.alloc (.cells #[a, b] t)).cell? ⟨w.heap.size, j, none⟩ = some u := by
  intro j u hu
  match j, hu with
  | 0, hu => simp at hu; subst hu; simp
  | 1, hu => simp at hu; subst hu; simp
theorem foAt_vlist {w : World} {Ok : Nat → Prop} {b : Nat} : ∀ (l : List Int) (o : Nat), (∀ j u, (flatV l)[j]? = some u → w.cell? ⟨b, o + j, none⟩ = some u) → FoAt w Ok (vlist l) b o
  | [], _, _ => trivial
  | n :: l, o, h => by
    have e : flatV (n :: l) = vcell n ++ flatV l := by simp [flatV]
    rw [e] at h
    refine ⟨none, 0, h 0 _ rfl, h 1 _ rfl, h 2 _ rfl, h 3 _ rfl, h 4 _ rfl, Nat.le_refl _, fun h0 => absurd h0 (by simp [Fo.len]), foAt_vlist l (o + 5) fun j u hu => ?_⟩
    have := h (5 + j) u (by rw [List.getElem?_append_right (by simp [vcell])]; simpa [vcell] using hu)
    rw [show o + 5 + j = o + (5 + j) by omega]
    exact this
theorem rmu_mlist {w : World} {b : Nat} : ∀ (l : List Int) (o : Nat), (∀ j u, (flatU l)[j]? = some u → w.cell? ⟨b, o + j, none⟩ = some u) → ∀ (i : Nat) (x : Int × Int), (mlist l)[i]? = some x → w.cell? ⟨b, o + i * 2, none⟩ = some (.int .i64 x.1) ∧ w.cell? ⟨b, o + i * 2 + 1, none⟩ = some (.int .u8 x.2)
  | [], _, _, i, x, h => by simp [mlist] at h
  | n :: l, o, h, i, x, hx => by
    have e : flatU (n :: l) = ucell n ++ flatU l := by simp [flatU]
    rw [e] at h
    cases i with
    | zero =>
      simp [mlist] at hx
      subst hx
      exact ⟨h 0 _ rfl, h 1 _ rfl⟩
    | succ i =>
      have := rmu_mlist l (o + 2) (fun j u hu => by
        have := h (2 + j) u (by rw [List.getElem?_append_right (by simp [ucell])]; simpa [ucell] using hu)
        rw [show o + 2 + j = o + (2 + j) by omega]
        exact this) i x (by simpa [mlist] using hx)
      rw [show o + (i + 1) * 2 = o + 2 + i * 2 by omega]
      exact this
/-- A row of cells of the call's own, and what was there is kept. -/
def OwnR (t : TypeId) (s : Nat) (w2 wr : World) (v : Value) (n : Nat) (xs : List Value) : Prop :=
  ∃ A c, v = .slice A n c ∧ wr.ownsRow w2.heap.size t s (.slice A n c) n xs ∧ Bel w2 wr
theorem OwnR.start (t : TypeId) (s : Nat) (w : World) : OwnR t s w w (.slice none 0 0) 0 [] := ⟨none, 0, rfl, World.ownsRow_nil _ _ _ _, Bel.refl _⟩
theorem OwnR.step {t : TypeId} {s : Nat} {w2 wr w3 : World} {A : Option Addr} {c n : Nat} {xs news : List Value} {v' : Value} (o : Obj) (hO : wr.ownsRow w2.heap.size t s (.slice A n c) n xs) (hb : Bel w2 wr)
    (hown : w3.ownsRow w2.heap.size t s v' (n + 1) (xs ++ news)) (hg : (wr.alloc o).grownBy w3 (Value.slice A n c).ownBlock) : OwnR t s w2 w3 v' (n + 1) (xs ++ news) := by
  obtain ⟨g3, c3, rfl⟩ := ownsRow_succ hown
  refine ⟨some ⟨g3, 0, none⟩, c3, rfl, hown, ?_⟩
  refine ⟨hg.os.trans hb.os, hg.tape.trans hb.tape, hg.output.trans hb.output, by have := hg.size; have := hb.size; simp at *; omega, fun j hj => (hg.block j (by have := hb.size; simp; omega) (fun e => ?_)).trans ((Below.heap_alloc _ _ _ (by have := hb.size; omega)).trans (hb.block j hj))⟩
  have := (hO.lt j e.symm).1
  omega
theorem OwnR.bel {t : TypeId} {s : Nat} {w2 wr w' : World} {v : Value} {n : Nat} {xs : List Value} (h : OwnR t s w2 wr v n xs) (hb : Bel wr w') : OwnR t s w2 w' v n xs := by
  obtain ⟨A, c, e, h1, h2⟩ := h
  exact ⟨A, c, e, owns_bel h1 hb, h2.on hb⟩
def shiftB (s n : Int) : Int := (n + s) % 1048576
/-- What back answers. -/
def BackP (T M : List Int) (s : Int) (w : World) (e : Ending) (w' : World) : Prop :=
  ∃ A c A' c', e = .returned (.tuple #[.slice A T.length c, .slice A' M.length c']) ∧ KidsAt w' (fun j => w.heap.size ≤ j ∧ j < w'.heap.size) A T.length c (vlist (T.map (shiftB s))) ∧ RMu w' A' M.length (mlist (M.map (shiftB s))) ∧ Bel w w'
end Go.Proofs.YtblgligagngpfaaDoor.Mu
namespace Go.Proofs.YtblgligagngpfaaDoor.Mu
open Go.RowKit Go

set_option linter.unusedVariables false

/-- All numbers in a type. -/
def Fo.nv : Fo → List Int
  | .nil => []
  | .cons k n v c kids rest => n :: v :: (kids.nv ++ rest.nv)
theorem Fo.nv_len : ∀ f : Fo, f.nv.length = 2 * f.size
  | .nil => rfl
  | .cons k n v c kids rest => by
    simp only [Fo.nv, Fo.size, List.length_cons, List.length_append, Fo.nv_len kids, Fo.nv_len rest]
    omega
theorem wf_small {n : Int} (h0 : 0 ≤ n) (h1 : n < 1048576) : (Lit.int .i64 n).wf = true := by
  simp [Lit.wf, IntKind.min, IntKind.max, IntKind.signed, IntKind.bits]
  omega
theorem nodeB_small {k n v c : Int} {len : Nat} (h : nodeB k n v c len = true) : (0 ≤ n ∧ n < 1048576) ∧ 0 ≤ v ∧ v < 1048576 := by
  unfold nodeB isB isVarB at h
  simp only [Bool.and_eq_true, Bool.or_eq_true, decide_eq_true_eq] at h
  by_cases k1 : k = 1 <;> by_cases k2 : k = 2 ∨ k = 3 ∨ k = 4 ∨ k = 5 <;> by_cases k6 : k = 6 <;> by_cases k7 : k = 7 <;> by_cases k8 : k = 8 <;> simp [k1, k2, k6, k7, k8] at h <;> omega
theorem well_in : ∀ (f : Fo) (VS : List Int), f.well = true → (∀ x ∈ f.nv, x ∈ VS) → f.All (inVS VS)
  | .nil, _, _, _ => trivial
  | .cons k n v c kids rest, VS, hw, hs => by
    simp only [Fo.well, Bool.and_eq_true] at hw
    obtain ⟨⟨a, b⟩, d, e⟩ := nodeB_small hw.1
    refine ⟨⟨⟨hs n (by simp [Fo.nv]), hs v (by simp [Fo.nv])⟩, wf_small a b, wf_small d e⟩, well_in kids VS hw.2.1 fun x hx => hs x (by simp [Fo.nv, hx]), well_in rest VS hw.2.2 fun x hx => hs x (by simp [Fo.nv, hx])⟩
def pmAll (P R : Int → Prop) : Option (Int × Int) → Prop
  | none => True
  | some p => p.2 = 0 → R p.1
theorem addL_all {P : Int → Prop} {l : List Int} {x : Int} (h : ∀ y ∈ l, P y) (hx : P x) : ∀ y ∈ addL l x, P y := by
  intro y hy
  unfold addL at hy
  split at hy
  · exact h y hy
  · rcases List.mem_append.1 hy with hy | hy
    · exact h y hy
    · rw [List.mem_singleton] at hy; subst hy; exact hx
theorem pmD_only {P R : Int → Prop} (pm : Option (Int × Int)) (s : List Int × List Int) (hp : pmAll P R pm) (h1 : ∀ y ∈ s.1, P y) (h2 : ∀ y ∈ s.2, R y) : (∀ y ∈ (pmD pm s).1, P y) ∧ ∀ y ∈ (pmD pm s).2, R y := by
  cases pm with
  | none => exact ⟨h1, h2⟩
  | some p =>
    show (∀ y ∈ (varU s p.1 p.2).1, P y) ∧ ∀ y ∈ (varU s p.1 p.2).2, R y
    unfold varU
    split
    · rename_i h0
      exact ⟨h1, addL_all h2 (hp h0)⟩
    · exact ⟨h1, h2⟩
/-- The lists hold none but the type's variables. -/
theorem vrun_only {P R : Int → Prop} : ∀ (f : Fo) (pm : Option (Int × Int)) (s : List Int × List Int), f.Vall P R → pmAll P R pm → (∀ y ∈ s.1, P y) → (∀ y ∈ s.2, R y) → (∀ y ∈ (vrun f pm s).1, P y) ∧ ∀ y ∈ (vrun f pm s).2, R y
  | .nil, pm, s, _, hp, h1, h2 => by rw [vrun_nil]; exact pmD_only pm s hp h1 h2
  | .cons k n v c kids rest, pm, s, hv, hp, h1, h2 => by
    rw [vrun_cons]
    have a : (∀ y ∈ (varN s k n v c kids.len).1.1, P y) ∧ ∀ y ∈ (varN s k n v c kids.len).1.2, R y := by
      unfold varN
      refine ⟨?_, h2⟩
      simp only
      split
      · rename_i hk
        exact addL_all h1 (hv.1 hk)
      · exact h1
    have b := vrun_only kids (if k = 7 then some (v, c) else none) _ hv.2.2.1 (by
      by_cases h7 : k = 7
      · rw [if_pos h7]
        exact fun h0 => hv.2.1 h7 h0
      · rw [if_neg h7]
        trivial) a.1 a.2
    have d := pmD_only pm _ hp b.1 b.2
    exact vrun_only rest none _ hv.2.2.2 trivial d.1 d.2
theorem well_vall : ∀ f : Fo, f.well = true → f.Vall (fun x => 0 ≤ x ∧ x < 1048576) (fun x => 0 ≤ x ∧ x < 1048576)
  | .nil, _ => trivial
  | .cons k n v c kids rest, hw => by
    simp only [Fo.well, Bool.and_eq_true] at hw
    obtain ⟨a, b⟩ := nodeB_small hw.1
    exact ⟨fun _ => a, fun _ _ => b, well_vall kids hw.2.1, well_vall rest hw.2.2⟩
theorem vall_nv : ∀ f : Fo, f.Vall (· ∈ f.nv) (· ∈ f.nv)
  | .nil => trivial
  | .cons k n v c kids rest => ⟨fun _ => by simp [Fo.nv], fun _ _ => by simp [Fo.nv], Fo.Vall.mono (fun x hx => by simp [Fo.nv, hx]) (fun x hx => by simp [Fo.nv, hx]) kids (vall_nv kids), Fo.Vall.mono (fun x hx => by simp [Fo.nv, hx]) (fun x hx => by simp [Fo.nv, hx]) rest (vall_nv rest)⟩
theorem varsF_in {f : Fo} (hw : f.well = true) : (∀ x ∈ f.varsF.1, 0 ≤ x ∧ x < 1048576) ∧ ∀ x ∈ f.varsF.2, 0 ≤ x ∧ x < 1048576 :=
  vrun_only f none ([], []) (well_vall f hw) trivial (by simp) (by simp)
theorem varsF_len (f : Fo) : f.varsF.1.length ≤ 2 * f.size ∧ f.varsF.2.length ≤ 2 * f.size := by
  have h := vrun_only f none ([], []) (vall_nv f) trivial (by simp) (by simp)
  rw [← Fo.nv_len]
  exact ⟨nodup_le _ _ (varsF_ndp f).1 h.1, nodup_le _ _ (varsF_ndp f).2 h.2⟩
theorem shiftB_in (s x : Int) : 0 ≤ shiftB s x ∧ shiftB s x < 1048576 := by
  unfold shiftB
  omega
theorem shiftB_zero {x : Int} (h : 0 ≤ x ∧ x < 1048576) : shiftB 0 x = x := by
  unfold shiftB
  omega
theorem shiftB_inj {s : Int} {l : List Int} (h : ∀ x ∈ l, 0 ≤ x ∧ x < 1048576) : InjOn (shiftB s) l := by
  intro x hx y hy e
  have h1 := h x hx
  have h2 := h y hy
  unfold shiftB at e
  omega
section
variable {f : Fo}
theorem err_parts (h : tyErr f = 0) : f.size ≤ 300 ∧ f.well = true := by
  unfold tyErr at h
  split at h
  · cases h
  · split at h
    · exact ⟨by omega, by assumption⟩
    · cases h
theorem err_of (h1 : f.size ≤ 300) (h2 : f.well = true) : tyErr f = 0 := by
  unfold tyErr
  rw [if_neg (by omega), if_pos h2]
/-- The canonical type: it is well, and as long. -/
theorem can_size : f.canW.1.size = f.size := by rw [canW_eq]; exact ren_size _ _ _
theorem can_well (hs : f.size ≤ 300) (hw : f.well = true) : f.canW.1.well = true := by
  rw [canW_eq]
  refine ren_well (fun x hx => ?_) (fun x hx => ?_) f hw (varsF_all f)
  · have := List.idxOf_lt_length_iff.2 hx
    have := (varsF_len f).1
    omega
  · have := List.idxOf_lt_length_iff.2 hx
    have := (varsF_len f).2
    omega
/-- What back is put in the canonical type: it may be, it is not too long, and what comes. -/
theorem back_ok (he : tyErr f = 0) (s : Int) : okPut f.canW.1 (vlist (f.varsF.1.map (shiftB s))) (mlist (f.varsF.2.map (shiftB s))) = true ∧ ¬ 300 < Fo.putSize (vlist (f.varsF.1.map (shiftB s))) f.varsF.1.length f.canW.1 ∧ Fo.puts (vlist (f.varsF.1.map (shiftB s))) f.varsF.1.length (mlist (f.varsF.2.map (shiftB s))) f.canW.1 = f.ren (shiftB s) (shiftB s) := by
  obtain ⟨hs, hw⟩ := err_parts he
  have hc := can_size (f := f)
  have hcw := can_well hs hw
  refine ⟨?_, ?_, ?_⟩
  · unfold okPut
    rw [err_of (by omega) hcw, vlist_bad _ (fun n hn => ?_), mlist_bad _ (fun n hn => ?_)]
    · rfl
    · obtain ⟨x, _, rfl⟩ := List.mem_map.1 hn
      exact shiftB_in _ _
    · obtain ⟨x, _, rfl⟩ := List.mem_map.1 hn
      exact shiftB_in _ _
  · have := putSize_ren (σ := shiftB s) (μ := fun x => (f.varsF.2.idxOf x : Int)) f (varsF_all f)
    rw [canW_eq]
    simp only
    rw [this]
    omega
  · rw [puts_eq, canW_eq]
    exact subst_ren f hw (varsF_all f)
theorem back_zero (he : tyErr f = 0) : f.ren (shiftB 0) (shiftB 0) = f := by
  obtain ⟨hs, hw⟩ := err_parts he
  have h := ren_congr f (Fo.Vall.mono (P' := fun x => shiftB 0 x = (fun y => y) x) (R' := fun x => shiftB 0 x = (fun y => y) x) (fun x hx => shiftB_zero hx) (fun x hx => shiftB_zero hx) f (well_vall f hw))
  rw [h, ren_id]
theorem back_can (he : tyErr f = 0) (s : Int) : (f.ren (shiftB s) (shiftB s)).canW.1 = f.canW.1 := by
  obtain ⟨hs, hw⟩ := err_parts he
  rw [canW_ren f (shiftB_inj (varsF_in hw).1) (shiftB_inj (varsF_in hw).2)]
theorem back_well (he : tyErr f = 0) (s : Int) : (f.ren (shiftB s) (shiftB s)).well = true :=
  ren_well (fun x _ => shiftB_in _ _) (fun x _ => shiftB_in _ _) f (err_parts he).2 (varsF_all f)
theorem can_lens : f.canW.1.canW.1 = f.canW.1 ∧ f.canW.1.canW.2.2.1.length = f.varsF.1.length ∧ f.canW.1.canW.2.2.2.length = f.varsF.2.length := by
  rw [canW_canW]
  exact ⟨rfl, by simp, by simp⟩
theorem can_vars : f.canW.2.2 = f.varsF := by rw [canW_eq]
end
end Go.Proofs.YtblgligagngpfaaDoor.Mu
namespace Go.Proofs.YtblgligagngpfaaDoor.Mu
open Go

section
variable {P : Program} {Q : Exit → Act → World → Prop}
theorem wp_region_invS {id : Nat} {l : List Oper} (st late : Nat) (a0 : Act) (w0 : World) (F : Nat → Value → World → Prop) (Z : (Nat → Value) → World → Prop) (L : Value → Prop) (hm : P.follows .mixedOrders = true) (hB : tailB .any l.toArray (st + 1) = true) (hf : fwdB l.toArray (st + 1) = true) (hsl : slotsB l.toArray a0.tmps.size = true)
    (hq : Region.seqB .any l.toArray (l.length - (st + 1)) (st + 1) (Array.replicate (st + 1) true ++ Array.replicate (l.length - (st + 1)) false) = true)
    (hcov : ((List.range st).all fun i => decide (i = late) || ((l.toArray[st]?).map fun o => o.after.any fun e => decide (e.on = i) && Region.binds .any e).getD false) = true) (hlt : late < st)
    (hmono : ∀ i v w w', i < st → F i v w → Bel w w' → F i v w')
    (hstep : ∀ i o, i < st → l.toArray[i]? = some o → ∀ (a : Act) (w : World) (V : Nat → Value), Bel w0.drew w →
      (∀ e ∈ o.after, Region.binds .any e = true → F e.on (V e.on) w ∧ ∀ d, (l.toArray[e.on]?).bind (·.dst) = some d → a.eval (.tmp d) = V e.on) → (∀ s, s < a0.tmps.size → slotAt l.toArray s = none → a.eval (.tmp s) = a0.eval (.tmp s)) →
      ∀ K : Act → World → Prop, (∀ v w', Bel w w' → F i v w' → K (a.put o.dst v) w') → (Region.wanted o (yielded l.toArray a.tmps) = true → Oper.wp P o a w K Q) ∧ (Region.wanted o (yielded l.toArray a.tmps) = false → F i undef w))
    (hstore : ∀ o, l.toArray[st]? = some o → ∀ (a : Act) (w : World) (V : Nat → Value), Bel w0.drew w → (∀ i, i < st → i ≠ late → F i (V i) w ∧ ∀ d, (l.toArray[i]?).bind (·.dst) = some d → a.eval (.tmp d) = V i) →
      Region.wanted o (yielded l.toArray a.tmps) = true ∧ ∀ K : Act → World → Prop, (∀ v w', Z V w' → K (a.put o.dst v) w') → Oper.wp P o a w K Q)
    (hlate : ∀ o, l.toArray[late]? = some o → ∀ (a : Act) (w : World) (V : Nat → Value), Z V w → (∀ i, i < st → i ≠ late → ∀ d, (l.toArray[i]?).bind (·.dst) = some d → a.eval (.tmp d) = V i) →
      Region.wanted o (yielded l.toArray a.tmps) = true ∧ ∀ K : Act → World → Prop, (∀ v, L v → K (a.put o.dst v) w) → Oper.wp P o a w K Q)
    (hZ : ∀ V j v w, j = late ∨ j = st → Z V w → Z (fun i => if i = j then v else V i) w)
    (hL : ∀ v w, F late v w → L v)
    (hend : ∀ (V : Nat → Value) (w : World), Z V w → L (V late) → wpList P l.toArray Q (l.drop (st + 1)) (finA l.toArray (st + 1) V a0) w) :
    (Code.region id l.toArray true).wp P Q a0 w0 := by
  have hn' : st + 1 < l.length := by
    simp only [tailB, Bool.and_eq_true, decide_eq_true_eq] at hB
    simpa using hB.1.1.2
  refine wp_region_any hm ?_
  have inv0 : HeadInv .any l.toArray (st + 1) (Array.replicate l.length false) :=
    ⟨by simp, fun j oj _ hl => (by rw [getD_replicate_false] at hl; cases hl), fun t _ ht => getD_in (by simpa using ht) (getD_replicate_false _ _)⟩
  have key := wpAny_invT (P := P) (Q := Q) (l := l) (n := st + 1) (fun listed a w => listed.size = l.length ∧ (∀ t, st + 1 ≤ t → listed.getD t false = false) ∧ ∃ (V : Nat → Value), Filled l.toArray listed V a0 a ∧
    ((listed.getD st false = false ∧ Bel w0.drew w ∧ ∀ i, i < st → listed.getD i false = true → F i (V i) w) ∨ (listed.getD st false = true ∧ Z V w ∧ (∀ i, i < st → i ≠ late → listed.getD i false = true) ∧ (listed.getD late false = true → L (V late))))) hB hf hq ?_ ?_ (st + 1) (Array.replicate l.length false) a0 w0.drew (cnt_new (by omega)) inv0 ⟨by simp, fun t _ => getD_replicate_false _ _, fun _ => undef, ⟨rfl, rfl, fun s hs => by cases slotAt l.toArray s <;> simp only [getD_replicate_false, Bool.false_eq_true, if_false]⟩, .inl ⟨getD_replicate_false _ _, Bel.refl _, fun i _ hi => by rw [getD_replicate_false] at hi; cases hi⟩⟩
  · have e : st + 1 + (l.length - (st + 1)) = l.length := by omega
    rw [e] at key
    simpa using key
  · rintro listed a w i inv ⟨hsz, htl, V, hfill, hI⟩ hin hun hr
    obtain ⟨_, o, ho, hall⟩ := mem_ready.1 hr
    have hset : ∀ j, (listed.setIfInBounds i true).getD j false = if j = i then true else listed.getD j false := fun j => by
      by_cases e : j = i
      · subst e; simp [show j < listed.size by omega]
      · rw [if_neg e]; exact getD_set_ne false (fun e' => e e'.symm)
    have hs' : (listed.setIfInBounds i true).size = l.length := by simpa using hsz
    have ht' : ∀ t, st + 1 ≤ t → (listed.setIfInBounds i true).getD t false = false := fun t ht => by rw [getD_set_ne false (by omega)]; exact htl t ht
    have huf : listed.getD i false = false := by
      have h1 : i < listed.size := by omega
      simp [h1] at hun ⊢
      exact hun
    unfold wpOp
    simp only [ho]
    rcases hI with ⟨hst, hbel, hF⟩ | ⟨hst, hz, hothers, hlt'⟩
    · rcases Nat.lt_or_ge i st with hi | hi
      · have hKK : ∀ v w', Bel w w' → F i v w' → (listed.setIfInBounds i true).size = l.length ∧ (∀ t, st + 1 ≤ t → (listed.setIfInBounds i true).getD t false = false) ∧ ∃ (V : Nat → Value), Filled l.toArray (listed.setIfInBounds i true) V a0 (a.put o.dst v) ∧ (((listed.setIfInBounds i true).getD st false = false ∧ Bel w0.drew w' ∧ ∀ j, j < st → (listed.setIfInBounds i true).getD j false = true → F j (V j) w') ∨ ((listed.setIfInBounds i true).getD st false = true ∧ Z V w' ∧ (∀ i_1, i_1 < st → i_1 ≠ late → (listed.setIfInBounds i true).getD i_1 false = true) ∧ ((listed.setIfInBounds i true).getD late false = true → L (V late)))) :=
          fun v w' hb hFi => ⟨hs', ht', fun j => if j = i then v else V j, hfill.put hsl ho (by omega) v, .inl ⟨by rw [hset, if_neg (by omega)]; exact hst, hbel.on hb, fun j hj hl => by
            by_cases e : j = i
            · subst e; simp only [if_true]; exact hFi
            · simp only [if_neg e]
              rw [hset, if_neg e] at hl
              exact hmono j _ w w' hj (hF j hj hl) hb⟩⟩
        have hK := hstep i o hi ho a w V hbel (fun e he hb => by
          have hl := hall e he hb
          have hen : e.on < st := by
            rcases Nat.lt_trichotomy e.on st with h | h | h
            · exact h
            · rw [h, hst] at hl; cases hl
            · rw [htl _ h] at hl; cases hl
          exact ⟨hF _ hen hl, fun d hd => hfill.eval hsl hl hd⟩) (fun s hs hn => hfill.par hn hs) (fun a' w' => (listed.setIfInBounds i true).size = l.length ∧ (∀ t, st + 1 ≤ t → (listed.setIfInBounds i true).getD t false = false) ∧ ∃ (V : Nat → Value), Filled l.toArray (listed.setIfInBounds i true) V a0 a' ∧ (((listed.setIfInBounds i true).getD st false = false ∧ Bel w0.drew w' ∧ ∀ j, j < st → (listed.setIfInBounds i true).getD j false = true → F j (V j) w') ∨ ((listed.setIfInBounds i true).getD st false = true ∧ Z V w' ∧ (∀ i_1, i_1 < st → i_1 ≠ late → (listed.setIfInBounds i true).getD i_1 false = true) ∧ ((listed.setIfInBounds i true).getD late false = true → L (V late))))) hKK
        by_cases hw : Region.wanted o (yielded l.toArray a.tmps) = true
        · rw [if_pos hw]
          exact .inl (hK.1 hw)
        · rw [if_neg hw]
          exact hKK undef w (Bel.refl _) (hK.2 (by simpa using hw))
      · obtain rfl : i = st := by omega
        have hlis : ∀ j, j < i → j ≠ late → listed.getD j false = true := fun j hj hne => by
          have h := List.all_eq_true.1 hcov j (List.mem_range.2 hj)
          rw [ho] at h
          simp only [Option.map_some, Option.getD_some, Bool.or_eq_true, decide_eq_true_eq, hne, false_or] at h
          obtain ⟨e, he, h2⟩ := Array.any_eq_true'.1 h
          simp only [Bool.and_eq_true, decide_eq_true_eq] at h2
          rw [← h2.1]
          exact hall e he h2.2
        obtain ⟨hw, hK⟩ := hstore o ho a w V hbel (fun j hj hne => ⟨hF j hj (hlis j hj hne), fun d hd => hfill.eval hsl (hlis j hj hne) hd⟩)
        rw [if_pos hw]
        refine .inl (hK _ fun v w' hz => ⟨hs', ht', fun j => if j = i then v else V j, hfill.put hsl ho (by omega) v, .inr ⟨by rw [hset, if_pos rfl], hZ V i v w' (.inr rfl) hz, fun j hj hne => by rw [hset, if_neg (by omega)]; exact hlis j hj hne, fun hl => ?_⟩⟩)
        rw [hset, if_neg (by omega)] at hl
        simp only [if_neg (show ¬ late = i by omega)]
        exact hL _ _ (hF late hlt hl)
    · have hil : i = late := by
        rcases Nat.lt_trichotomy i st with h | h | h
        · rcases Nat.decEq i late with h' | h'
          · rw [hothers i h h'] at huf; cases huf
          · exact h'
        · rw [h, hst] at huf; cases huf
        · omega
      subst hil
      obtain ⟨hw, hK⟩ := hlate o ho a w V hz (fun j hj hne d hd => hfill.eval hsl (hothers j hj hne) hd)
      rw [if_pos hw]
      refine .inl (hK _ fun v hl => ⟨hs', ht', fun j => if j = i then v else V j, hfill.put hsl ho (by omega) v, .inr ⟨by rw [hset, if_neg (by omega)]; exact hst, hZ V i v w (.inl rfl) hz, fun j hj hne => by rw [hset, if_neg hne]; exact hothers j hj hne, fun _ => ?_⟩⟩)
      simp only [if_true]
      exact hl
  · rintro listed a w ⟨hsz, htl, V, hfill, hI⟩ hall
    rw [hfill.fin hall htl]
    rcases hI with ⟨hst, _⟩ | ⟨_, hz, _, hl⟩
    · rw [hall st (by omega)] at hst; cases hst
    · exact hend V w hz (hl (hall late (by omega)))
end
end Go.Proofs.YtblgligagngpfaaDoor.Mu
namespace Go.Proofs.YtblgligagngpfaaDoor.Mu
open Go.ChangeShapes Go.WideShapes Go.ChangeAt Go.RowKit Go.Shelf

attribute [local go_sem] Oper.semAt_some
set_option linter.unusedVariables false

theorem FoAt.apart {w : World} {b : Nat} {t : TypeId} (hz : w.heap[b]? = some (.cells #[.int .u8 0, .int .i64 0, .int .i64 0, .int .u8 0, .slice none 0 0] t (0, 0))) : ∀ (f : Fo) (b' o' : Nat), f.well = true → FoAt w (Old w) f b' o' → (0 < f.len → b' ≠ b) ∧ FoAt w (fun j => Old w j ∧ j ≠ b) f b' o'
  | .nil, _, _, _, _ => ⟨fun h => absurd h (by simp [Fo.len]), trivial⟩
  | .cons k n v c kids rest, b', o', hw, hf => by
    obtain ⟨A, cap, a1, a2, a3, a4, a5, a6, a7, a8⟩ := hf
    simp only [Fo.well, Bool.and_eq_true] at hw
    refine ⟨fun _ e => ?_, A, cap, a1, a2, a3, a4, a5, a6, fun h0 => ?_, (FoAt.apart hz rest b' (o' + 5) hw.2.2 a8).2⟩
    · subst e
      have hk : k = 0 := by
        simp only [World.cell?, hz] at a1
        match o', a1 with
        | 0, a1 => simp at a1; exact a1.symm
        | 1, a1 => simp at a1
        | 2, a1 => simp at a1
        | 3, a1 => simp at a1; exact a1.symm
        | 4, a1 => simp at a1
        | q + 5, a1 => simp at a1
      subst hk
      have h := hw.1
      simp [nodeB] at h
    · obtain ⟨b2, o2, e, h1, h2⟩ := a7 h0
      have h3 := FoAt.apart hz kids b2 o2 hw.2.1 h2
      exact ⟨b2, o2, e, ⟨h1, h3.1 h0⟩, h3.2⟩
theorem KidsAt.apart {w : World} {b : Nat} {t : TypeId} {A : Option Addr} {len cap : Nat} {kids : Fo} (h : KidsAt w (Old w) A len cap kids) (hw : kids.well = true) (hz : w.heap[b]? = some (.cells #[.int .u8 0, .int .i64 0, .int .i64 0, .int .u8 0, .slice none 0 0] t (0, 0))) : KidsAt w (fun j => Old w j ∧ j ≠ b) A len cap kids :=
  ⟨h.1, h.2.1, fun h0 => by
    obtain ⟨b2, o2, e, h1, h2⟩ := h.2.2 h0
    have h3 := FoAt.apart hz kids b2 o2 hw h2
    exact ⟨b2, o2, e, ⟨h1, h3.1 (by have := h.1; omega)⟩, h3.2⟩⟩
theorem there_zero {w : World} {b : Nat} {t : TypeId} {x0 x1 x2 x3 x4 : Value} (hz : w.heap[b]? = some (.cells #[x0, x1, x2, x3, x4] t (0, 0))) : w.there b 0 5 := by
  intro j hj
  obtain ⟨⟨m0, m1, m2, m3, m4⟩, hf⟩ := cells5 hz
  rw [Nat.zero_add]
  refine ⟨?_, hf _⟩
  match j, hj with
  | 0, _ => rw [m0]; rfl
  | 1, _ => rw [m1]; rfl
  | 2, _ => rw [m2]; rfl
  | 3, _ => rw [m3]; rfl
  | 4, _ => rw [m4]; rfl
theorem setCells_all (g : Nat) : ∀ (vs : List Value) (o : Nat) (w : World), (w.setCells g o vs).heap.size = w.heap.size ∧ (w.setCells g o vs).tape = w.tape
  | [], _, _ => ⟨rfl, rfl⟩
  | v :: r, o, w => by
    rw [World.setCells]
    have h := setCells_all g r (o + 1) (w.setCell ⟨g, o, none⟩ v)
    exact ⟨h.1.trans (by simp [World.setCell]), h.2.trans rfl⟩
theorem setCells_size {g o : Nat} {vs : List Value} {w : World} : (w.setCells g o vs).heap.size = w.heap.size := (setCells_all g vs o w).1
theorem bel_setCells {w0 w : World} {g o : Nat} {vs : List Value} (hb : Bel w0 w) (hg : w0.heap.size ≤ g) : Bel w0 (w.setCells g o vs) :=
  ⟨(World.os_setCells _ _ _ _).trans hb.os, (setCells_all g vs o w).2.trans hb.tape, (World.output_setCells _ _ _ _).trans hb.output, by rw [setCells_size]; exact hb.size, fun j hj => (World.heap_setCells_other _ _ _ _ (Nat.lt_of_lt_of_le hj hb.size) (by omega)).trans (hb.block j hj)⟩
/-- What back answers, by its parts. -/
def BackQ (tn mn : Nat) (vl : Fo) (ml : List (Int × Int)) (w : World) (e : Ending) (w' : World) : Prop :=
  ∃ A c A' c', e = .returned (.tuple #[.slice A tn c, .slice A' mn c']) ∧ KidsAt w' (Old w') A tn c vl ∧ RMu w' A' mn ml ∧ Bel w w'
/-- What Put answers where it may. -/
def PutQ (kx nx vx cx : Int) (xn : Nat) (kidsx : Fo) (w : World) (e : Ending) (w' : World) : Prop :=
  ∃ A c, e = .returned (.tuple #[.agg #[.int .u8 kx, .int .i64 nx, .int .i64 vx, .int .u8 cx, .slice A xn c], .int .i64 0]) ∧ KidsAt w' (Old w') A xn c kidsx ∧ Bel w w'
end Go.Proofs.YtblgligagngpfaaDoor.Mu

