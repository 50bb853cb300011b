/-
  A range over a function whose iterator writes memory that was there before the loop: who owns which blocks is said, and each side leaves the other's alone. Over whatever program.
  Going through a graph in memory: the questions whether a variable is open; the way's next stop.
  Going through a graph in memory: the iterator.
  Rings: what is parted.
  slices.Backward at numbers: what it hands to a loop.
  rings, walked.
-/
import Derived.RangeFuncNested
import Derived.RangeFuncBound
import Derived.RangeFuncCalls
import Derived.RangeFuncLeaves
import Derived.Test.YtlbachjhhjjmfaaMem
import Derived.Test.YtlbachjhhjjmfaaDfs
import Derived.Test.YtlbachjhhjjmfaaArrs
import Derived.Test.YtlbachjhhjjmfaaOne
import Derived.Test.YtlbachjhhjjmfaaTermFG
import Derived.Test.YtlbachjhhjjmfaaIneqC
import Derived.Deep.RegionLaw
import Derived.RangeFuncBox
import Derived.Shelf.Abstract
import Derived.WalkKit
import Derived.OwnWalkIn
import Derived.TacticsInMore
import Derived.LoopNIn
import Derived.LoopIn
import Derived.WalkSmall
import Derived.Test.YtlbachjhhjjmfaaRound
import Derived.LoopTactic
import Derived.Maps.OwnIn
import Derived.Deep.OwnRows
namespace Go.Proofs.Ytlbachjhhjjmfaa.Mu
open Go Go.RowKit

/-- At most what is in Z has turned, and there are new blocks. -/
structure Mv (Z : Nat → Prop) (W W' : World) : Prop where
  os : W'.os = W.os
  tape : W'.tape = W.tape
  output : W'.output = W.output
  size : W.heap.size ≤ W'.heap.size
  block : ∀ k, k < W.heap.size → ¬ Z k → W'.heap[k]? = W.heap[k]?
section
variable {Z Z' : Nat → Prop} {A B C : World}
theorem Mv.refl (Z : Nat → Prop) (W : World) : Mv Z W W := ⟨rfl, rfl, rfl, Nat.le_refl _, fun _ _ _ => rfl⟩
theorem Mv.more (h : Mv Z A B) (hz : ∀ k, k < A.heap.size → Z k → Z' k) : Mv Z' A B := ⟨h.os, h.tape, h.output, h.size, fun k hk hn => h.block k hk (fun hz' => hn (hz k hk hz'))⟩
theorem Mv.trans (h : Mv Z A B) (k : Mv Z' B C) (hz : ∀ j, Z' j → Z j ∨ A.heap.size ≤ j) : Mv Z A C :=
  ⟨k.os.trans h.os, k.tape.trans h.tape, k.output.trans h.output, Nat.le_trans h.size k.size, fun j hj hn =>
    (k.block j (Nat.lt_of_lt_of_le hj h.size) (fun hz' => by rcases hz j hz' with e | e; exact hn e; omega)).trans (h.block j hj hn)⟩
theorem Mv.bel (h : Mv (fun _ => False) A B) : Bel A B := ⟨h.os, h.tape, h.output, h.size, fun k hk => h.block k hk (fun f => f)⟩
theorem Mv.of_bel (h : Bel A B) : Mv Z A B := ⟨h.os, h.tape, h.output, h.size, fun k hk _ => h.block k hk⟩
theorem Mv.alloc (h : Mv Z A B) (o : Obj) : Mv Z A (B.alloc o) := h.trans (Z' := fun _ => False) (.of_bel ((Bel.refl B).alloc o)) (fun _ f => f.elim)
theorem Mv.set_ (h : Mv Z A B) {p : Addr} (hp : Z p.block ∨ A.heap.size ≤ p.block) (v : Value) : Mv Z A (B.setCell p v) :=
  ⟨h.os, h.tape, h.output, by have := h.size; simpa [World.setCell] using this, fun k hk hn => (Below.heap_setCell B p v k (by
    rintro rfl
    rcases hp with hp | hp
    · exact hn hp
    · omega)).trans (h.block k hk hn)⟩
theorem Mv.putObj (h : Mv Z A B) {l : Nat} (hp : Z l ∨ A.heap.size ≤ l) (o : Obj) : Mv Z A (B.putObj l o) :=
  ⟨h.os, h.tape, h.output, by have := h.size; simpa using this, fun k hk hn => (World.putObj_heap_other (by
    rintro rfl
    rcases hp with hp | hp
    · exact hn hp
    · omega)).trans (h.block k hk hn)⟩
theorem Mv.grown (h : Mv Z A B) {row : Option Nat} (hg : B.grownBy C row) (hr : ∀ k, row = some k → Z k ∨ A.heap.size ≤ k) : Mv Z A C :=
  ⟨hg.os.trans h.os, hg.tape.trans h.tape, hg.output.trans h.output, Nat.le_trans h.size hg.size, fun k hk hn =>
    (hg.block k (Nat.lt_of_lt_of_le hk h.size) (fun e => by
      rcases hr k e.symm with e | e
      · exact hn e
      · omega)).trans (h.block k hk hn)⟩
theorem Mv.drew (h : Mv Z A B) : Mv Z A B.drew := ⟨h.os, h.tape, h.output, h.size, h.block⟩
theorem Mv.drewN (h : Mv Z A B) (n : Nat) : Mv Z A (B.drewN n) := ⟨h.os, h.tape, h.output, h.size, h.block⟩
end

/-- What is said of a world holds on wherever these blocks are as they were. -/
def Stable {α : Type} (J : α → (Nat → Prop) → World → Prop) : Prop := ∀ s Y W W', J s Y W → W.heap.size ≤ W'.heap.size → (∀ k, Y k → W'.heap[k]? = W.heap[k]?) → J s Y W'
/-- An iterator that owns the blocks in Mine, and what it makes; its rounds own the blocks in Y, and what they make. -/
def SeqF {α : Type} (F : Fence) (n : Nat) (P : Program) (g : Nat) (lb : Array Value) (encs : α → Array Value) (Mine : Nat → Prop) (Ok : World → Prop) (S : List α → World → Prop) (N : Nat) : Prop :=
  ∀ (l : Nat) (J : List α → (Nat → Prop) → World → Prop) (Y : Nat → Prop) (W : World), Ok W → (∀ k, Y k → k < W.heap.size ∧ ¬ Mine k) → Stable J →
    (∀ pre x Y W1, J pre Y W1 → (∀ k, Y k → k < W1.heap.size) → pre.length < N → YieldAt F (n - 1) P l (encs x) W1 fun e W' =>
      e = .returned (.bool true) ∧ Mv Y W1 W' ∧ ∃ Y', J (pre ++ [x]) Y' W' ∧ ∀ k, Y' k → k < W'.heap.size ∧ (Y k ∨ W1.heap.size ≤ k)) →
    J [] Y W →
    CallsIn F n P g (#[.func (.yield l) #[] #[]] ++ lb) W fun e W' => (∃ v, e = .returned v) ∧ ∃ xs Y', S xs W' ∧ J xs Y' W' ∧ (∀ k, Y' k → k < W'.heap.size ∧ (Y k ∨ W.heap.size ≤ k)) ∧ Mv (fun k => Y k ∨ Mine k) W W'

section
variable {F : Fence} {n : Nat} {P : Program}
/-- How the body of a round ends: it goes on. -/
def bodyEnds (R : World → Prop) : Exit → Act → World → Prop
  | .normal, _, W' => R W'
  | _, _, _ => False
theorem range_core {α : Type} {g : Operand} {ps : Array Tmp} {assign body : Code} {Q : Exit → Act → World → Prop} {a : Act} {w : World}
    {l dd : Nat} {mark : List Deferred} {dk : Nat → Prop} (V : FuncId → World)
    (henter : ∀ fn, F.fn fn → (Instr.enterLoop fn a.tmps ps assign body F.round).run P w = .ok (l, mark) (V fn) ∧ Bel w (V fn) ∧ (V fn).heap[l]? = some (.loop { state := .ready, pending := none, fn, tmps := a.tmps, params := ps, assign, body, defers := dd }) ∧ ∀ k, dk k → (V fn).heap[k]? = some (.deferred (some [])))
    (hl : w.heap.size ≤ l) (hdk : ∀ k, dk k → w.heap.size ≤ k ∧ k ≠ l)
    (h1 : 1 ≤ n) {gf : Nat} {lb : Array Value} (hg : a.eval g = .func (.func gf) #[] lb) (hFg : F.fn gf) (eg : ∀ args w, (callFunc gf args).run P w = .ok (.enter gf args) w)
    {encs : α → Array Value} {Mine : Nat → Prop} {Ok : World → Prop} {S : List α → World → Prop} {N : Nat} (hseq : SeqF F (n - 1) P gf lb encs Mine Ok S N) (hok : ∀ W, Bel w W → Ok W) (hmine : ∀ k, Mine k → k < w.heap.size) (hps : ∀ x, (encs x).size = ps.size)
    (I : List α → (Nat → Prop) → World → Prop) (hI : Stable I) {Y0 : Nat → Prop} (hY0 : ∀ k, Y0 k → k < w.heap.size ∧ ¬ Mine k) (h0 : I [] Y0 w) (a₁ : α → Act)
    (hassign : ∀ (l : Nat) (x : α) (W : World) (K : Act → World → Prop), K (a₁ x) W → assign.wpIn (F.inRound l) (n - 1 - 1) P (Exit.then K (fun _ _ _ => False)) { tmps := (ps.zip (encs x)).foldl (fun t (p, v) => t.setIfInBounds p v) a.tmps, defers := [] } W)
    (hbody : ∀ (pre : List α) (x : α) (Y : Nat → Prop) (W : World), w.heap.size ≤ W.heap.size → (∃ r, W.heap[l]? = some (.loop r)) → ¬ Y l → I pre Y W → (∀ k, Y k → k < W.heap.size) → pre.length < N →
      body.wpIn (F.inRound l) (n - 1 - 1) P (bodyEnds fun W' => Mv Y W W' ∧ ∃ Y', I (pre ++ [x]) Y' W' ∧ ∀ k, Y' k → k < W'.heap.size ∧ (Y k ∨ W.heap.size ≤ k)) (a₁ x) W)
    (hS : ∀ xs W W', S xs W → W.heap.size ≤ W'.heap.size → (∀ k, k < w.heap.size → W'.heap[k]? = W.heap[k]?) → S xs W')
    (hdone : ∀ (xs : List α) (Y : Nat → Prop) (W : World), S xs W → I xs Y W → Mv (fun k => Y0 k ∨ Mine k) w W → (∀ k, Y k → k < W.heap.size ∧ (Y0 k ∨ w.heap.size ≤ k)) → (∀ k, dk k → W.heap[k]? = some (.deferred (some [])) ∧ ¬ Y k) → Q .normal { a with defers := mark ++ a.defers } W) :
    (Code.rangeFunc g ps assign body).wpIn F n P Q a w := by
  refine wpIn_rangeFunc ?_
  intro fn hfn
  obtain ⟨he, hb, hL, hD⟩ := henter fn hfn
  obtain ⟨rec, hrec⟩ : ∃ rec : LoopState → Option Code → Loop, rec = fun st pe => { state := st, pending := pe, fn, tmps := a.tmps, params := ps, assign, body, defers := dd } := ⟨_, rfl⟩
  have hL' : (V fn).heap[l]? = some (.loop (rec .ready none)) := by rw [hrec]; exact hL
  obtain ⟨J, hJ⟩ : ∃ J : List α → (Nat → Prop) → World → Prop, J = fun pre Y W => ∃ Z : Nat → Prop, (∀ k, Y k ↔ (Z k ∨ k = l ∨ dk k)) ∧ (∀ k, Z k → k ≠ l ∧ ¬ dk k) ∧ I pre Z W ∧ W.heap[l]? = some (.loop (rec .ready none)) ∧ ∀ k, dk k → W.heap[k]? = some (.deferred (some [])) := ⟨_, rfl⟩
  refine ⟨l, mark, V fn, { target := .fn (.func gf) lb, args := #[.func (.yield l) #[] #[]] }, V fn, gf, #[.func (.yield l) #[] #[]] ++ lb, V fn, he, ?_, ?_, ?_, fun _ => h1, ?_⟩
  · simp only [resolve, hg]
    simp [go_sem]
  · intro f' hf'; simp [Target.leads] at hf'; subst hf'; exact hFg
  · simp [invoke, go_sem, eg]
  · have hlV : l < (V fn).heap.size := (Array.getElem?_eq_some_iff.1 hL).1
    refine (hseq l J (fun k => Y0 k ∨ k = l ∨ dk k) (V fn) (hok _ hb) ?_ ?_ ?_ ?_).mono ?_
    · rintro k (h | rfl | h)
      · exact ⟨Nat.lt_of_lt_of_le (hY0 k h).1 hb.size, (hY0 k h).2⟩
      · exact ⟨hlV, fun hm => by have := hmine _ hm; omega⟩
      · exact ⟨(Array.getElem?_eq_some_iff.1 (hD k h)).1, fun hm => by have := hmine k hm; have := (hdk k h).1; omega⟩
    · rw [hJ]
      rintro s Y A B ⟨Z, z1, z2, z3, z4, z5⟩ hsz hk
      exact ⟨Z, z1, z2, hI s Z A B z3 hsz (fun k hz => hk k ((z1 k).2 (.inl hz))), (hk l ((z1 l).2 (.inr (.inl rfl)))).trans z4, fun k hd => (hk k ((z1 k).2 (.inr (.inr hd)))).trans (z5 k hd)⟩
    · -- one round
      rw [hJ]
      rintro pre x Y W ⟨Z, z1, z2, z3, z4, z5⟩ hYs hlen
      have hlt : l < W.heap.size := (Array.getElem?_eq_some_iff.1 z4).1
      have hy := run_yield (P := P) (args := encs x) z4 (by rw [hrec]; exact hps x)
      rw [hrec] at hy
      refine ⟨fn, _, assign, body, hy, roundIn_of_wpIn hfn (hassign _ x W _ ?_)⟩
      clear hy
      refine ⟨_, run_beginRound z4 (by rw [hrec]), ?_⟩
      obtain ⟨W2, hW2⟩ : ∃ W2, W2 = W.putObj l (.loop { rec .ready none with state := .busy }) := ⟨_, rfl⟩
      rw [← hW2]
      have l2 : W2.heap[l]? = some (.loop { rec .ready none with state := .busy }) := by rw [hW2]; exact World.putObj_heap_same hlt
      have s2 : W2.heap.size = W.heap.size := by rw [hW2]; simp
      have o2 : ∀ k, k ≠ l → W2.heap[k]? = W.heap[k]? := fun k hk => by rw [hW2]; exact World.putObj_heap_other hk
      refine wpIn_mono (hbody pre x Z W2 (by rw [s2]; omega) ⟨_, l2⟩ (fun hz => (z2 l hz).1 rfl) (hI _ _ _ _ z3 (by omega) (fun k hz => o2 k (z2 k hz).1)) (fun k hz => by rw [s2]; exact hYs k ((z1 k).2 (.inl hz))) hlen) ?_
      rintro e a3 W3 hp
      cases e with
      | normal =>
        obtain ⟨hmv, Y', hi3, hy3⟩ := hp
        have l3 : W3.heap[l]? = some (.loop { rec .ready none with state := .busy }) := (hmv.block l (by omega) (fun hz => (z2 l hz).1 rfl)).trans l2
        have hr := run_endRound (P := P) none l3
        rw [hrec] at hr
        obtain ⟨W4, hW4⟩ : ∃ W4, W4 = W3.putObj l (.loop (rec .ready none)) := ⟨_, rfl⟩
        have s4 : W4.heap.size = W3.heap.size := by rw [hW4]; simp
        have o4 : ∀ k, k ≠ l → W4.heap[k]? = W3.heap[k]? := fun k hk => by rw [hW4]; exact World.putObj_heap_other hk
        have hl3 : l < W3.heap.size := (Array.getElem?_eq_some_iff.1 l3).1
        have hnl : ∀ k, Y' k → k ≠ l ∧ ¬ dk k := fun k hk => by
          rcases (hy3 k hk).2 with h | h
          · exact z2 k h
          · refine ⟨fun e => by omega, fun hd => ?_⟩
            have := (Array.getElem?_eq_some_iff.1 (z5 k hd)).1
            omega
        have d3 : ∀ k, dk k → W3.heap[k]? = some (.deferred (some [])) := fun k hd =>
          (hmv.block k (by rw [s2]; exact (Array.getElem?_eq_some_iff.1 (z5 k hd)).1) (fun hz => (z2 k hz).2 hd)).trans ((o2 k (hdk k hd).2).trans (z5 k hd))
        refine ⟨.bool true, W4, by rw [hW4, hrec]; exact hr, rfl, ?_, fun k => Y' k ∨ k = l ∨ dk k, ⟨Y', fun k => Iff.rfl, hnl, hI _ _ _ _ hi3 (by omega) (fun k hk => o4 k (hnl k hk).1), by rw [hW4]; exact World.putObj_heap_same hl3, fun k hd => (o4 k (hdk k hd).2).trans (d3 k hd)⟩, ?_⟩
        · have m1 : Mv Y W W2 := by rw [hW2]; exact (Mv.refl Y W).putObj (.inl ((z1 l).2 (.inr (.inl rfl)))) _
          have m2 : Mv Y W W3 := m1.trans hmv (fun k hz => .inl ((z1 k).2 (.inl hz)))
          rw [hW4]
          exact m2.putObj (.inl ((z1 l).2 (.inr (.inl rfl)))) _
        · rintro k (h | rfl | h)
          · obtain ⟨q1, q2⟩ := hy3 k h
            exact ⟨by omega, q2.imp (fun hz => (z1 k).2 (.inl hz)) (fun hz => by omega)⟩
          · exact ⟨by omega, .inl ((z1 _).2 (.inr (.inl rfl)))⟩
          · exact ⟨by rw [s4]; exact (Array.getElem?_eq_some_iff.1 (d3 k h)).1, .inl ((z1 k).2 (.inr (.inr h)))⟩
      | ret => exact hp.elim
      | exit id => exact hp.elim
      | goto t => exact hp.elim
      | panic ch => exact hp.elim
      | outgrown => exact hp.elim
    · rw [hJ]
      exact ⟨Y0, fun k => Iff.rfl, fun k hk => ⟨fun e => by have := (hY0 k hk).1; omega, fun hd => by have := (hY0 k hk).1; have := (hdk k hd).1; omega⟩, hI _ _ _ _ h0 hb.size (fun k hk => hb.block k (hY0 k hk).1), hL', hD⟩
    · -- behind the iterator
      rw [hJ]
      rintro e W2 ⟨⟨v, rfl⟩, xs, Y', hs, ⟨Z, z1, z2, z3, z4, z5⟩, hY', hmv⟩
      have hr := run_endLoop (P := P) z4 (by rw [hrec]; simp)
      rw [hrec] at hr
      have hlt : l < W2.heap.size := (Array.getElem?_eq_some_iff.1 z4).1
      refine ⟨none, _, hr, hdone xs Z _ (hS xs _ _ hs (by simp) (fun k hk => World.putObj_heap_other (by omega))) (hI _ _ _ _ z3 (by simp) (fun k hz => World.putObj_heap_other (z2 k hz).1)) ?_ (fun k hz => ?_) (fun k hd => ⟨(World.putObj_heap_other (hdk k hd).2).trans (z5 k hd), fun hz => (z2 k hz).2 hd⟩)⟩
      · refine Mv.putObj ?_ (.inr hl) _
        have m1 : Mv (fun k => Y0 k ∨ Mine k) w (V fn) := .of_bel hb
        refine m1.trans hmv (fun k hk => ?_)
        rcases hk with (h | rfl | h) | h
        · exact .inl (.inl h)
        · exact .inr hl
        · exact .inr (hdk k h).1
        · exact .inl (.inr h)
      · obtain ⟨q1, q2⟩ := hY' k ((z1 k).2 (.inl hz))
        refine ⟨by simpa using q1, ?_⟩
        rcases q2 with (h | h | h) | h
        · exact .inl h
        · exact absurd h (z2 k hz).1
        · exact absurd h (z2 k hz).2
        · exact .inr (Nat.le_trans hb.size h)
end
end Go.Proofs.Ytlbachjhhjjmfaa.Mu
namespace Go.Proofs.Ytlbachjhhjjmfaa.Mu
open Go.ChangeShapes Go.WideShapes Go.ChangeAt Go.RowKit

attribute [local go_sem] Oper.semAt_some

/-- Block g holds these truth values, and nothing else. -/
def ArrB (W : World) (g : Nat) (sl : List Bool) : Prop := W.heap[g]? = some (.cells (sl.map Value.bool).toArray 4 (0, 0))
section
variable {W : World} {g : Nat} {sl : List Bool}
theorem ArrB.cell (h : ArrB W g sl) {j : Nat} {b : Bool} (hb : sl[j]? = some b) : W.cell? ⟨g, j, none⟩ = some (.bool b) := by
  unfold ArrB at h
  simp [World.cell?, h, hb]
theorem ArrB.frozen (h : ArrB W g sl) (j : Nat) : W.frozen? ⟨g, j, none⟩ = false := by
  unfold ArrB at h
  simp [World.frozen?, h]
theorem ArrB.set_ (h : ArrB W g sl) (j : Nat) (b : Bool) : ArrB (W.setCell ⟨g, j, none⟩ (.bool b)) g (sl.set j b) := by
  unfold ArrB at *
  rw [heap_setCell_same W g j _ 4 (.bool b) h]
  simp [List.map_set]
end
/-- What is not come to yet: t stands where it is. -/
def whOf (t : Bool) (sl : List Bool) (u : Nat) : Bool := match sl[u]? with
  | some b => b != t
  | none => false
theorem whOf_at {t : Bool} {sl : List Bool} {u : Nat} {b : Bool} (h : sl[u]? = some b) : whOf t sl u = (b != t) := by unfold whOf; rw [h]
theorem whOf_set {t : Bool} {sl : List Bool} {u : Nat} (h : u < sl.length) : whOf t (sl.set u t) = off (whOf t sl) u := by
  funext k
  unfold whOf off
  by_cases e : k = u
  · subst e
    rw [List.getElem?_set_self h, if_pos rfl]
    simp
  · rw [List.getElem?_set_ne (fun e' => e e'.symm), if_neg e]

theorem open1_any (u n sb sbx : Nat) (sl : List Bool) (b : Bool) (W : World) (hx : W.cell? ⟨sbx, 0, none⟩ = some (.slice (some ⟨sb, 0, none⟩) n n)) (hs : ArrB W sb sl) (hn : sl.length = n) (hb : sl[u]? = some b) :
    Calls Try.prog 75 #[.int .i64 u, .pointer (some ⟨sbx, 0, none⟩)] W fun e W' => e = .returned (.bool (whOf true sl u)) ∧ W' = W.setCell ⟨sb, u, none⟩ (.bool true) := by
  have hu : u < n := by have := (List.getElem?_eq_some_iff.1 hb).1; omega
  have c0 := hs.cell hb
  have f0 := hs.frozen u
  have i1 : (0 : Int) ≤ (u : Int) := by omega
  have i2 : (u : Int) < (n : Int) := by omega
  have HW := Lib.hid (whOf_at (t := true) hb)
  clear hb hs hn
  cases b
  all_goals
    go_enter Try.func75, Try.ntmps75
    go_wp2
    go_ret
    exact ⟨by rw [HW.out]; rfl, rfl⟩
theorem open2_any (u n sb sbx : Nat) (sl : List Bool) (b : Bool) (W : World) (hx : W.cell? ⟨sbx, 0, none⟩ = some (.slice (some ⟨sb, 0, none⟩) n n)) (hs : ArrB W sb sl) (hn : sl.length = n) (hb : sl[u]? = some b) :
    Calls Try.prog 77 #[.int .i64 u, .pointer (some ⟨sbx, 0, none⟩)] W fun e W' => e = .returned (.bool (whOf false sl u)) ∧ W' = W.setCell ⟨sb, u, none⟩ (.bool false) := by
  have hu : u < n := by have := (List.getElem?_eq_some_iff.1 hb).1; omega
  have c0 := hs.cell hb
  have f0 := hs.frozen u
  have i1 : (0 : Int) ≤ (u : Int) := by omega
  have i2 : (u : Int) < (n : Int) := by omega
  have HW := Lib.hid (whOf_at (t := false) hb)
  clear hb hs hn
  cases b
  all_goals
    go_enter Try.func77, Try.ntmps77
    go_wp2
    go_ret
    exact ⟨by rw [HW.out]; rfl, rfl⟩

theorem cell1_ {w : World} {g : Nat} {t : TypeId} {x : Value} (h : w.heap[g]? = some (.cells #[x] t (0, 0))) : w.cell? ⟨g, 0, none⟩ = some x := by simp [World.cell?, h]
theorem frz1_ {w : World} {g : Nat} {t : TypeId} {x : Value} (h : w.heap[g]? = some (.cells #[x] t (0, 0))) : w.frozen? ⟨g, 0, none⟩ = false := by simp [World.frozen?, h]
/-! ### The memory that is read -/
/-- The block of an address. -/
def Bk (A : Option Addr) (k : Nat) : Prop := ∃ off, A = some ⟨k, off, none⟩
/-- A slice value reads as a list of integers. -/
def Rs (W : World) (A : Option Addr) (n : Nat) (l : List Int) : Prop := n = l.length ∧ (0 < n → ∃ b off, A = some ⟨b, off, none⟩ ∧ ∀ k, k < n → W.cell? ⟨b, off + k, none⟩ = some (.int .i64 (l[k]?.getD 0)))
theorem Rs.keep {W W' : World} {A : Option Addr} {n : Nat} {l : List Int} (h : Rs W A n l) (hk : ∀ k, Bk A k → W'.heap[k]? = W.heap[k]?) : Rs W' A n l :=
  ⟨h.1, fun hn => by
    obtain ⟨b, off, e, hc⟩ := h.2 hn
    exact ⟨b, off, e, fun k hk' => (World.cell?_of_block (a := ⟨b, off + k, none⟩) (hk b ⟨off, e⟩)).trans (hc k hk')⟩⟩
theorem Rs.of_ri {W : World} {B : Nat} {A : Option Addr} {n : Nat} {l : List Int} (h : RI .i64 W B A n l) : Rs W A n l := ⟨h.1, fun hn => by
  obtain ⟨b, off, e, _, hc⟩ := h.2 hn
  exact ⟨b, off, e, hc⟩⟩
/-- Where things lie. -/
structure Dc where
  ab : Nat
  ob : Nat
  sbx : Nat
  sb : Nat
  n : Nat
  ln : Nat
  fc : Nat
  nc : Nat
  tc : Nat
  FA : Option Addr
  NA : Option Addr
  TA : Option Addr
  F : List Int
  N : List Int
  TO : List Int
/-- What is read, and written by nobody. -/
def Dc.reads (c : Dc) (k : Nat) : Prop := k = c.ab ∨ k = c.ob ∨ k = c.sbx ∨ Bk c.FA k ∨ Bk c.NA k ∨ Bk c.TA k
structure Rd (c : Dc) (fo : Nat) (W : World) : Prop where
  c0 : W.cell? ⟨c.ab, 0, none⟩ = some (.slice c.FA c.n c.fc)
  c1 : W.cell? ⟨c.ab, 1, none⟩ = some (.slice c.NA c.ln c.nc)
  c2 : W.cell? ⟨c.ab, 2, none⟩ = some (.slice c.TA c.ln c.tc)
  rf : Rs W c.FA c.n c.F
  rn : Rs W c.NA c.ln c.N
  rt : Rs W c.TA c.ln c.TO
  ho : W.cell? ⟨c.ob, 0, none⟩ = some (.func (.func fo) #[] #[.pointer (some ⟨c.sbx, 0, none⟩)])
  hx : W.cell? ⟨c.sbx, 0, none⟩ = some (.slice (some ⟨c.sb, 0, none⟩) c.n c.n)
theorem Rd.keep {c : Dc} {fo : Nat} {W W' : World} (h : Rd c fo W) (hk : ∀ k, c.reads k → W'.heap[k]? = W.heap[k]?) : Rd c fo W' := by
  have hc : ∀ k o, c.reads k → W'.cell? ⟨k, o, none⟩ = W.cell? ⟨k, o, none⟩ := fun k o hr => World.cell?_of_block (a := ⟨k, o, none⟩) (hk k hr)
  exact ⟨(hc _ _ (.inl rfl)).trans h.c0, (hc _ _ (.inl rfl)).trans h.c1, (hc _ _ (.inl rfl)).trans h.c2, h.rf.keep fun k hb => hk k (.inr (.inr (.inr (.inl hb)))), h.rn.keep fun k hb => hk k (.inr (.inr (.inr (.inr (.inl hb))))), h.rt.keep fun k hb => hk k (.inr (.inr (.inr (.inr (.inr hb))))), (hc _ _ (.inr (.inl rfl))).trans h.ho, (hc _ _ (.inr (.inr (.inl rfl)))).trans h.hx⟩

/-! ### The way -/
def flatS (st : List (Nat × Int)) : List Value := st.flatMap fun p => [.int .i64 p.1, .int .i64 p.2]
theorem flatS_snoc (st : List (Nat × Int)) (v : Nat) (p : Int) : flatS (st ++ [(v, p)]) = flatS st ++ [.int .i64 v, .int .i64 p] := by simp [flatS]
theorem flatS_len (st : List (Nat × Int)) : (flatS st).length = st.length * 2 := by
  induction st with
  | nil => rfl
  | cons p st ih => simp only [flatS, List.flatMap_cons, List.length_append, List.length_cons, List.length_nil] at *; omega
theorem info_stop : (Try.prog.info? 140).map (fun i => (i.zero, i.size, i.bytes)) = some (some (.agg #[.int .i64 0, .int .i64 0]), 2, 16) := by kernel_rfl
theorem two_at (w : World) (a b : Value) (t : TypeId) : ∀ j u, [a, b][j]? = some u → (w.alloc (.cells #[a, b] t)).cell? ⟨w.heap.size, j, none⟩ = some u := by
  intro j u hu
  match j, hu with
  | 0, hu => simp at hu; subst hu; simp
  | 1, hu => simp at hu; subst hu; simp
theorem own_bk {w : World} {base e size n k c : Nat} {V : Option Addr} {xs : List Value} (h : w.ownsRow base e size (.slice V k c) n xs) {x : Nat} (hx : (Value.slice V k c).ownBlock = some x) : Bk V x := by
  rcases h.2 with ⟨h', _⟩ | ⟨g, cap, cur, h', _⟩
  · cases h'; cases hx
  · cases h'; cases hx; exact ⟨0, rfl⟩
/-- The way lies so: its box, its row. -/
structure Way_ (W : World) (wb base : Nat) (V : Option Addr) (k c : Nat) (st : List (Nat × Int)) : Prop where
  box : W.heap[wb]? = some (.cells #[.slice V k c] 138 (0, 0))
  own : W.ownsRow base 140 2 (.slice V k c) k (flatS st)
  ne : (Value.slice V k c).ownBlock ≠ some wb
/-- The blocks that are the way's. -/
def wayB (wb : Nat) (V : Option Addr) (k : Nat) : Prop := k = wb ∨ Bk V k
/-- How to ask whether a variable is open, and shut it. -/
def Opens (c : Dc) (fo : Nat) (t : Bool) : Prop := ∀ (u : Nat) (sl : List Bool) (W : World), Rd c fo W → ArrB W c.sb sl → sl.length = c.n → u < c.n → Calls Try.prog fo #[.int .i64 u, .pointer (some ⟨c.sbx, 0, none⟩)] W fun e W' => e = .returned (.bool (whOf t sl u)) ∧ W' = W.setCell ⟨c.sb, u, none⟩ (.bool t)

def EnterPost (c : Dc) (t : Bool) (sl : List Bool) (u wb base : Nat) (V : Option Addr) (st : List (Nat × Int)) (W : World) (e : Ending) (W' : World) : Prop :=
  (∃ v, e = .returned v) ∧ ∃ V' k' c', Way_ W' wb base V' k' c' (if whOf t sl u = true then st ++ [(u, c.F[u]?.getD 0)] else st) ∧ ArrB W' c.sb (sl.set u t) ∧ Mv (fun j => j = c.sb ∨ wayB wb V j) W W' ∧ ∀ j, Bk V' j → Bk V j ∨ W.heap.size ≤ j

set_option maxRecDepth 100000 in
set_option maxHeartbeats 2000000 in
theorem enter_any (c : Dc) (fo : Nat) (t : Bool) (hop : Opens c fo t) (eg : ∀ args w, (callFunc fo args).run Try.prog w = .ok (.enter fo args) w) (u wb base k cc : Nat) (V : Option Addr) (st : List (Nat × Int)) (sl : List Bool) (W : World) (hr : Rd c fo W) (hs : ArrB W c.sb sl) (hsl : sl.length = c.n) (hu : u < c.n) (hn : c.n ≤ 1048576) (hw : Way_ W wb base V k cc st) (hk : k ≤ 1048576)
    (hbase : base ≤ W.heap.size) (hsb : ¬ wayB wb V c.sb) (hrs : ¬ c.reads c.sb) (hrw : ∀ j, c.reads j → ¬ wayB wb V j) :
    Calls Try.prog 88 #[.int .i64 u, .pointer (some ⟨c.ob, 0, none⟩), .pointer (some ⟨wb, 0, none⟩), .pointer (some ⟨c.ab, 0, none⟩)] W (EnterPost c t sl u wb base V st W) := by
  have HOP := Lib.hid (hop u sl W hr hs hsl hu)
  have ho := hr.ho
  have HR := Lib.hid hr
  have HS := Lib.hid hs
  have HSL := Lib.hid hsl
  have HWAY := Lib.hid hw
  have HSB := Lib.hid hsb
  have HRS := Lib.hid hrs
  have HRW := Lib.hid hrw
  obtain ⟨b, hb⟩ : ∃ b, b = whOf t sl u := ⟨_, rfl⟩
  rw [← hb] at HOP
  have HB := Lib.hid hb
  have HU := Lib.hid hu
  clear hop hr hs hsl hw hsb hrs hrw hb hu
  go_enter Try.func88, Try.ntmps88
  go_wp2_with fail
  refine HOP.out.mono ?_
  rintro e w1 ⟨rfl, rfl⟩
  obtain ⟨w1, hw1⟩ : ∃ w1, w1 = W.setCell ⟨c.sb, u, none⟩ (.bool t) := ⟨_, rfl⟩
  rw [← hw1]
  have o1 : ∀ j, j ≠ c.sb → w1.heap[j]? = W.heap[j]? := fun j hj => by rw [hw1]; exact Below.heap_setCell W _ _ j (fun e => hj e)
  have s1 : w1.heap.size = W.heap.size := by rw [hw1]; simp
  have HM1 : Hid (Mv (fun j => j = c.sb ∨ wayB wb V j) W w1) := Lib.hid (by rw [hw1]; exact (Mv.refl _ W).set_ (.inl (.inl rfl)) _)
  have HS1 : Hid (ArrB w1 c.sb (sl.set u t)) := Lib.hid (by rw [hw1]; exact HS.out.set_ u t)
  have HR1 := Lib.hid (HR.out.keep (W' := w1) fun j hj => o1 j (fun e => HRS.out (by rw [← e]; exact hj)))
  have HW1 : Hid (Way_ w1 wb base V k cc st) := Lib.hid (by
    refine ⟨(o1 wb (fun e => HSB.out (.inl e.symm))).trans HWAY.out.box, ?_, HWAY.out.ne⟩
    rw [hw1]
    refine HWAY.out.own.kept (row := some c.sb) ⟨rfl, rfl, rfl, by simp, fun j _ hj => Below.heap_setCell W _ _ j (fun e => hj (by rw [e]))⟩ ?_
    cases hV : (Value.slice V k cc).ownBlock with
    | none => exact .inl rfl
    | some x =>
      refine .inr (fun e => ?_)
      cases e
      cases V with
      | none => cases hV
      | some ad =>
        obtain ⟨bb, oo, sp⟩ := ad
        rcases HWAY.out.own.2 with ⟨h, _⟩ | ⟨g, cap, cur, h, _⟩
        · cases h
        · injection h with h _ _
          injection h with h
          cases h
          cases hV
          exact HSB.out (.inr ⟨0, rfl⟩))
  have HSZ := Lib.hid s1
  clear hw1 o1 s1 HOP ho
  cases b with
  | false =>
    go_wp2_with fail
    go_end0
    refine ⟨⟨_, rfl⟩, V, k, cc, ?_, HS1.out, HM1.out, fun j h => .inl h⟩
    rw [← HB.out]
    exact HW1.out
  | true =>
    have q0 := HR1.out.c0
    obtain ⟨fb, foff, eF, fcs⟩ := HR1.out.rf.2 (by have := HU.out; omega)
    have fu := fcs u HU.out
    obtain ⟨p, hp⟩ : ∃ p, p = c.F[u]?.getD 0 := ⟨_, rfl⟩
    rw [← hp] at fu
    rw [eF] at q0
    have HP := Lib.hid hp
    have b0 := cell1_ HW1.out.box
    have bf := frz1_ HW1.out.box
    have i1 : (0 : Int) ≤ (u : Int) := by omega
    have i2 : (u : Int) < (c.n : Int) := by have := HU.out; omega
    have hwlt : wb < w1.heap.size := (Array.getElem?_eq_some_iff.1 HW1.out.box).1
    have hbase1 : base ≤ w1.heap.size := by rw [HSZ.out]; exact hbase
    have HO1 := Lib.hid HW1.out.own
    have HNE := Lib.hid HW1.out.ne
    clear fcs hp eF hbase
    go_wp2_with fail
    obtain ⟨i0, hi0, hz0, hz1, hz2⟩ := info_parts info_stop
    go_region_law (refine step_append_lies (w := _) rfl (.tmp 8) (.tmp 16) 138 rfl base 140 i0 _ 2 16 Try.underlying138 hi0 hz0 hz1 hz2 rfl (by decide) (.slice V k cc) k (flatS st) (by simp [Act.eval]) (by exact HO1.out.alloc _) ⟨w1.heap.size, 0, none⟩ 1 1 [.int .i64 u, .int .i64 p] (by simp [Act.eval]) rfl (by intro j u hu; rw [Addr.add_lit, Nat.zero_add]; exact two_at w1 _ _ _ j u hu) (by simp [Value.oneCell']) (by omega) (by unfold maxLen; omega) (by omega) (by simp; omega) (w1.heap.size + 1) (by simp) ?_; intro g5 c' w5 hown5 hg5 hg6 _; (have hne : some wb ≠ (Value.slice V k cc).ownBlock := fun e => HNE.out e.symm); (have s2 := ((far hg5 (b := wb) (by simp; omega) hne).1 0).trans (by exact (((Bel.refl w1).alloc _).cell (p := ⟨wb, 0, none⟩) hwlt).trans b0)); (have s3 := ((far hg5 (b := wb) (by simp; omega) hne).2 0).trans (by exact (((Bel.refl w1).alloc _).frozen (p := ⟨wb, 0, none⟩) hwlt).trans bf)); (have HO5 := Lib.hid hown5); (have HG5 := Lib.hid hg5); (have HG6 := Lib.hid hg6); clear hown5 hg5 hg6 hne)
    all_goals
      go_end0
      have hbx : Boxed w5 wb 138 (.slice V k cc) := blk_far HG5.out ((((Bel.refl w1).alloc _).drew).blk HW1.out.box) (fun e => HNE.out e.symm)
      have hsbV : some c.sb ≠ (Value.slice V k cc).ownBlock := fun e => HSB.out (.inr (own_bk HO1.out e.symm))
      have hsbwb : c.sb ≠ wb := fun e => HSB.out (.inl e)
      refine ⟨⟨_, rfl⟩, some ⟨g5, 0, none⟩, k + 1, c', ⟨hbx.set _, ?_, fun e => hbx.not_row (by decide) HO5.out e.symm⟩, ?_, ?_, ?_⟩
      · rw [← HB.out, if_pos rfl, flatS_snoc, ← HP.out]
        exact HO5.out.kept (grownBy_setCell' w5 wb _) (.inr (hbx.not_row (by decide) HO5.out).symm)
      · unfold ArrB
        rw [heap_setCell_other w5 _ c.sb _ hsbwb]
        exact blk_far HG5.out ((((Bel.refl w1).alloc _).drew).blk HS1.out) hsbV
      · exact (((HM1.out.alloc _).drew).grown HG5.out (fun x hx => .inl (.inr (.inr (own_bk HO1.out hx))))).set_ (.inl (.inr (.inl rfl))) _
      · rintro j ⟨off, hj⟩
        cases hj
        rcases HG6.out with h | h
        · exact .inl (own_bk HO1.out h)
        · exact .inr (by rw [h, HSZ.out]; omega)
end Go.Proofs.Ytlbachjhhjjmfaa.Mu
namespace Go.Proofs.Ytlbachjhhjjmfaa.Mu
open Go.ChangeShapes Go.WideShapes Go.ChangeAt Go.RowKit Go.Shelf

attribute [local go_sem] Oper.semAt_some

/-- The arrows that begin at p, as next has them. -/
def Ch (N : List Int) : Int → List Nat → Prop
  | p, [] => p = -1
  | p, i :: is => p = i ∧ i < N.length ∧ Ch N (N[i]?.getD 0) is
theorem Ch.one {N : List Int} : ∀ {is js : List Nat} {p : Int}, Ch N p is → Ch N p js → is = js
  | [], [], _, _, _ => rfl
  | [], j :: js, p, h, ⟨h1, _⟩ => by have : p = -1 := h; omega
  | i :: is, [], p, ⟨h1, _⟩, h => by have : p = -1 := h; omega
  | i :: is, j :: js, p, ⟨h1, _, h3⟩, ⟨k1, _, k3⟩ => by
    have e : i = j := by omega
    subst e
    rw [Ch.one h3 k3]
/-- Where an arrow leads. -/
def tg (c : Dc) (i : Nat) : Nat := (c.TO[i]?.getD 0).toNat
structure Grf (c : Dc) (R : Nat → List Nat) : Prop where
  chain : ∀ v, v < c.n → Ch c.N (c.F[v]?.getD 0) (R v)
  tgt : ∀ i, i < c.ln → 0 ≤ c.TO[i]?.getD 0 ∧ c.TO[i]?.getD 0 < c.n
  lenN : c.N.length = c.ln
def adjG (c : Dc) (R : Nat → List Nat) (v : Nat) : List Nat := (R v).map (tg c)
theorem Ch.lt {N : List Int} : ∀ {is : List Nat} {p : Int}, Ch N p is → ∀ i ∈ is, i < N.length
  | [], _, _, _, h => by cases h
  | j :: js, _, ⟨_, h1, h2⟩, i, hi => by
    rcases List.mem_cons.1 hi with rfl | hi
    · exact h1
    · exact h2.lt i hi
/-- A stop: the variable, the next arrow, all that are left. -/
abbrev Stp : Type := Nat × Int × List Nat
def stM (st : List Stp) : List (Nat × Int) := st.map fun e => (e.1, e.2.1)
def stD (c : Dc) (st : List Stp) : List (Nat × List Nat) := (st.map fun e => (e.1, e.2.2.map (tg c))).reverse
def stOk (c : Dc) (st : List Stp) : Prop := ∀ e ∈ st, Ch c.N e.2.1 e.2.2 ∧ e.1 < c.n
theorem stM_snoc (st : List Stp) (e : Stp) : stM (st ++ [e]) = stM st ++ [(e.1, e.2.1)] := by simp [stM]
theorem stD_snoc (c : Dc) (st : List Stp) (e : Stp) : stD c (st ++ [e]) = (e.1, e.2.2.map (tg c)) :: stD c st := by simp [stD]
theorem stM_len (st : List Stp) : (stM st).length = st.length := by simp [stM]
theorem stM_one {c : Dc} {st st' : List Stp} (h : stOk c st) (h' : stOk c st') (e : stM st = stM st') : st = st' := by
  induction st generalizing st' with
  | nil => cases st' with
    | nil => rfl
    | cons a b => simp [stM] at e
  | cons a b ih => cases st' with
    | nil => simp [stM] at e
    | cons a' b' =>
      obtain ⟨x, p, is⟩ := a
      obtain ⟨x', p', is'⟩ := a'
      simp only [stM, List.map_cons, List.cons.injEq, Prod.mk.injEq] at e
      obtain ⟨⟨rfl, rfl⟩, e2⟩ := e
      have := Ch.one (h (x, p, is) (by simp)).1 (h' (x, p, is') (by simp)).1
      dsimp only at this
      subst this
      rw [ih (fun e he => h e (List.mem_cons_of_mem _ he)) (fun e he => h' e (List.mem_cons_of_mem _ he)) e2]

/-- How much there is to do still. -/
def leftW (c : Dc) (R : Nat → List Nat) (t : Bool) (sl : List Bool) : Nat := ((List.range c.n).map fun u => if whOf t sl u = true then (R u).length + 2 else 0).sum
def leftSt (st : List Stp) : Nat := (st.map fun e => e.2.2.length + 1).sum
theorem leftSt_snoc (st : List Stp) (e : Stp) : leftSt (st ++ [e]) = leftSt st + (e.2.2.length + 1) := by simp [leftSt]
theorem sum_map_le {l : List Nat} {f g : Nat → Nat} (h : ∀ x ∈ l, f x ≤ g x) : (l.map f).sum ≤ (l.map g).sum := by
  induction l with
  | nil => simp
  | cons a l ih =>
    simp only [List.map_cons, List.sum_cons]
    have := h a (by simp)
    have := ih (fun x hx => h x (List.mem_cons_of_mem _ hx))
    omega
theorem sum_map_at {l : List Nat} {f g : Nat → Nat} {u d : Nat} (hu : u ∈ l) (h : ∀ x ∈ l, f x ≤ g x) (hd : f u + d ≤ g u) : (l.map f).sum + d ≤ (l.map g).sum := by
  induction l with
  | nil => cases hu
  | cons a l ih =>
    simp only [List.map_cons, List.sum_cons]
    rcases List.mem_cons.1 hu with rfl | hu
    · have := sum_map_le (l := l) (f := f) (g := g) (fun x hx => h x (List.mem_cons_of_mem _ hx))
      omega
    · have := h a (by simp)
      have := ih hu (fun x hx => h x (List.mem_cons_of_mem _ hx))
      omega
theorem leftW_set {c : Dc} {R : Nat → List Nat} {t : Bool} {sl : List Bool} {u : Nat} (hsl : sl.length = c.n) (hu : u < c.n) : leftW c R t (sl.set u t) ≤ leftW c R t sl ∧ (whOf t sl u = true → leftW c R t (sl.set u t) + ((R u).length + 2) ≤ leftW c R t sl) := by
  have hw := whOf_set (t := t) (sl := sl) (u := u) (by omega)
  have hle : ∀ x ∈ List.range c.n, (if whOf t (sl.set u t) x = true then (R x).length + 2 else 0) ≤ (if whOf t sl x = true then (R x).length + 2 else 0) := fun x _ => by
    rw [hw]
    by_cases h : off (whOf t sl) u x = true
    · rw [if_pos h, if_pos (off_true.1 h).2]; exact Nat.le_refl _
    · rw [if_neg h]; exact Nat.zero_le _
  refine ⟨sum_map_le hle, fun h => sum_map_at (u := u) (by simpa using hu) hle ?_⟩
  rw [hw, if_neg (by simp [off]), if_pos h]
  omega
theorem pick {α : Type} {P : α → Nat → Prop} (h : ∀ a m m', P a m → P a m' → m = m') : ∃ f : α → Nat, ∀ a m, P a m → f a = m := by
  classical
  refine ⟨fun a => if h : ∃ m, P a m then Classical.choose h else 0, fun a m hm => ?_⟩
  have hex : ∃ m, P a m := ⟨m, hm⟩
  simp only [dif_pos hex]
  exact h a _ _ (Classical.choose_spec hex) hm
theorem flatS_one : ∀ {a b : List (Nat × Int)}, flatS a = flatS b → a = b
  | [], [], _ => rfl
  | [], x :: b, h => by simp [flatS] at h
  | x :: a, [], h => by simp [flatS] at h
  | (x, p) :: a, (y, q) :: b, h => by
    simp only [flatS, List.flatMap_cons, List.cons_append, List.nil_append, List.cons.injEq, Value.int.injEq, true_and] at h
    obtain ⟨h1, h2, h3⟩ := h
    have e : x = y := by omega
    subst e h2
    rw [flatS_one (a := a) (b := b) h3]
theorem own_one {w : World} {base e size n : Nat} {v : Value} {xs ys : List Value} (h : w.ownsRow base e size v n xs) (h' : w.ownsRow base e size v n ys) : xs = ys := by
  have l1 := h.1
  have l2 := h'.1
  rcases h.2 with ⟨rfl, h0⟩ | ⟨g, cap, cur, rfl, _, hg, _, _, _, ht⟩
  · subst h0
    simp at l1 l2
    rw [l1, l2]
  · rcases h'.2 with ⟨h2, _⟩ | ⟨g', cap', cur', h2, _, hg', _, _, _, ht'⟩
    · simp at h2
    · simp only [Value.slice.injEq, Option.some.injEq, Addr.mk.injEq, and_true, true_and] at h2
      obtain ⟨rfl, rfl⟩ := h2
      rw [hg] at hg'
      cases hg'
      rw [← ht, ← ht']
/-- What the measure reads off memory. -/
def msrP (c : Dc) (R : Nat → List Nat) (t : Bool) (wb base : Nat) (W : World) (m : Nat) : Prop :=
  ∃ st sl V k cc, Way_ W wb base V k cc (stM st) ∧ stOk c st ∧ ArrB W c.sb sl ∧ m = leftSt st + leftW c R t sl
theorem msr_one {c : Dc} {R : Nat → List Nat} {t : Bool} {wb base : Nat} : ∀ W m m', msrP c R t wb base W m → msrP c R t wb base W m' → m = m' := by
  rintro W m m' ⟨st, sl, V, k, cc, h1, h2, h3, rfl⟩ ⟨st', sl', V', k', cc', h1', h2', h3', rfl⟩
  have e := h1.box.symm.trans h1'.box
  simp at e
  obtain ⟨rfl, rfl, rfl⟩ := e
  have e2 := stM_one h2 h2' (flatS_one (own_one h1.own h1'.own))
  subst e2
  have e3 := (show W.heap[c.sb]? = _ from h3).symm.trans h3'
  simp at e3
  have e4 : sl = sl' := by
    have := congrArg (List.map (fun v => match v with | Value.bool b => b | _ => false)) e3
    simpa [List.map_map, Function.comp_def] using this
  subst e4
  rfl

/-- What the iterator owns, or reads. -/
def Dc.mine (c : Dc) (vb : Nat) (k : Nat) : Prop := c.reads k ∨ k = c.sb ∨ k = vb
/-- The state of affairs in a round of reached's own loop. -/
structure DfsSt (c : Dc) (fo vb v wb base : Nat) (R : Nat → List Nat) (t : Bool) (wh0 : Nat → Bool) (Y0 : Nat → Prop) (W0 : World) (B : List Nat) (J : List Nat → (Nat → Prop) → World → Prop)
    (V : Option Addr) (k cc : Nat) (st : List Stp) (sl : List Bool) (ys : List Nat) (Y : Nat → Prop) (W : World) : Prop where
  way : Way_ W wb base V k cc (stM st)
  ok : stOk c st
  arr : ArrB W c.sb sl
  len : sl.length = c.n
  rd : Rd c fo W
  deep : Deep (adjG c R) v wh0 (whOf t sl) (stD c st) B ys
  ord : (∀ u, u < c.n → wh0 u = true ∨ u ∈ B) → Order (adjG c R) (fun _ => False) B → Order (adjG c R) (fun g => g ∈ (stD c st).map Prod.fst) (B ++ ys)
  j : J ys Y W
  y1 : ∀ j, Y j → j < W.heap.size ∧ ¬ c.mine vb j ∧ ¬ wayB wb V j ∧ (Y0 j ∨ W0.heap.size ≤ j)
  wn : ∀ j, wayB wb V j → W0.heap.size ≤ j
  mv : Mv (fun j => Y0 j ∨ c.mine vb j) W0 W
  root : whOf t sl v = false
theorem DfsSt.klen {c : Dc} {fo vb v wb base : Nat} {R : Nat → List Nat} {t : Bool} {wh0 : Nat → Bool} {Y0 : Nat → Prop} {W0 : World} {B : List Nat} {J : List Nat → (Nat → Prop) → World → Prop} {V : Option Addr} {k cc : Nat} {st : List Stp} {sl : List Bool} {ys : List Nat} {Y : Nat → Prop} {W : World}
    (h : DfsSt c fo vb v wb base R t wh0 Y0 W0 B J V k cc st sl ys Y W) : k = st.length := by
  have := h.way.own.1
  rw [flatS_len, stM_len] at this
  omega
/-- How many there can be. -/
theorem nd_len {l : List Nat} {n : Nat} (h : l.Nodup) (hl : ∀ x ∈ l, x < n) : l.length ≤ n := by
  have := List.Nodup.length_le_of_subset h (l₂ := List.range n) (fun v hv => by simpa using hl v hv)
  simpa using this
theorem wh_lt {t : Bool} {sl : List Bool} {u : Nat} (h : whOf t sl u = true) : u < sl.length := by
  unfold whOf at h
  cases hg : sl[u]? with
  | none => rw [hg] at h; cases h
  | some b => exact (List.getElem?_eq_some_iff.1 hg).1
def SeqOut (c : Dc) (fo : Nat) (R : Nat → List Nat) (t : Bool) (v : Nat) (sl0 : List Bool) (B xs : List Nat) (W : World) : Prop :=
  ∃ sl', ArrB W c.sb sl' ∧ sl'.length = c.n ∧ Rd c fo W ∧ Over (adjG c R) v (whOf t sl0) (whOf t sl') xs ∧ ((∀ u, u < c.n → whOf t sl0 u = true ∨ u ∈ B) → Order (adjG c R) (fun _ => False) B → Order (adjG c R) (fun _ => False) (B ++ xs))
structure SeqOk (c : Dc) (fo vb v : Nat) (sl0 : List Bool) (W : World) : Prop where
  rd : Rd c fo W
  arr : ArrB W c.sb sl0
  hv : W.cell? ⟨vb, 0, none⟩ = some (.int .i64 v)
  lt : ∀ k, c.mine vb k → k < W.heap.size

theorem own_cap2 {w : World} {base e size n g cap : Nat} {xs : List Value} (h : w.ownsRow base e size (.slice (some ⟨g, 0, none⟩) n cap) n xs) : n ≤ cap ∧ cap ≤ 9223372036854775807 := by
  rcases h.2 with ⟨h', _⟩ | ⟨g', cap', cur, h', hb, hg, hnc, hcm, hcs, htake⟩
  · simp at h'
  · simp only [Value.slice.injEq, Option.some.injEq, Addr.mk.injEq, and_true, true_and] at h'
    obtain ⟨rfl, rfl⟩ := h'
    unfold maxLen at hcm
    exact ⟨hnc, by omega⟩
section
variable {c : Dc} {fo vb v wb base : Nat} {R : Nat → List Nat} {t : Bool} {wh0 : Nat → Bool} {Y0 : Nat → Prop} {W0 : World} {B : List Nat} {J : List Nat → (Nat → Prop) → World → Prop}
theorem off_same {wh : Nat → Bool} {u : Nat} (h : wh u = false) : off wh u = wh := by
  funext k
  unfold off
  split
  · rename_i e; rw [e, h]
  · rfl
/-- The way, what is read, and what is seen, of a stop that goes on to its next arrow. -/
theorem way_next {W : World} {g k cc : Nat} {st : List (Nat × Int)} {x : Nat} {p q : Int} (h : Way_ W wb base (some ⟨g, 0, none⟩) (k + 1) cc (st ++ [(x, p)])) (hk : k = st.length) : Way_ (W.setCell ⟨g, k * 2 + 1, none⟩ (.int .i64 q)) wb base (some ⟨g, 0, none⟩) (k + 1) cc (st ++ [(x, q)]) := by
  have hne : g ≠ wb := fun e => h.ne (by rw [e]; rfl)
  refine ⟨(heap_setCell_other W _ wb _ (fun e => hne e.symm)).trans h.box, ?_, h.ne⟩
  have h2 := (World.ownsRow.stored h.own (k * 2 + 1) (.int .i64 q)).1
  rw [flatS_snoc] at h2 ⊢
  have hl : (flatS st).length = k * 2 := by rw [flatS_len, hk]
  rw [List.set_append_right _ _ (by omega), hl, show k * 2 + 1 - k * 2 = 1 by omega] at h2
  exact h2
/-- An arrow is tried. -/
theorem DfsSt.arrow {V V' : Option Addr} {g k cc k' c' : Nat} {st : List Stp} {sl : List Bool} {ys : List Nat} {Y : Nat → Prop} {W W2 W3 : World} {x i : Nat} {is : List Nat}
    (hG : Grf c R) (h : DfsSt c fo vb v wb base R t wh0 Y0 W0 B J V k cc (st ++ [(x, (i : Int), i :: is)]) sl ys Y W) (hV : V = some ⟨g, 0, none⟩) (hJ : Stable J) (hi : i < c.ln) (hsb : ¬ c.reads c.sb) (hwb : W0.heap.size ≤ wb) (hmine : ∀ j, c.mine vb j → j < W0.heap.size)
    (h2 : W2 = W.setCell ⟨g, st.length * 2 + 1, none⟩ (.int .i64 (c.N[i]?.getD 0)))
    (hw3 : Way_ W3 wb base V' k' c' (if whOf t sl (tg c i) = true then stM (st ++ [(x, c.N[i]?.getD 0, is)]) ++ [(tg c i, c.F[tg c i]?.getD 0)] else stM (st ++ [(x, c.N[i]?.getD 0, is)])))
    (ha3 : ArrB W3 c.sb (sl.set (tg c i) t)) (hm3 : Mv (fun j => j = c.sb ∨ wayB wb V j) W2 W3) (hb3 : ∀ j, Bk V' j → Bk V j ∨ W2.heap.size ≤ j) :
    ∃ st3, DfsSt c fo vb v wb base R t wh0 Y0 W0 B J V' k' c' st3 (sl.set (tg c i) t) ys Y W3 ∧ leftSt st3 + leftW c R t (sl.set (tg c i) t) < leftSt (st ++ [(x, (i : Int), i :: is)]) + leftW c R t sl := by
  have hu : tg c i < c.n := by have := hG.tgt i hi; unfold tg; omega
  obtain ⟨hch, hx⟩ := h.ok (x, (i : Int), i :: is) (by simp)
  dsimp only at hch hx
  obtain ⟨_, _, hch2⟩ := hch
  have hgV : Bk V g := ⟨0, hV⟩
  have s2 : W2.heap.size = W.heap.size := by rw [h2]; simp
  have o2 : ∀ j, j ≠ g → W2.heap[j]? = W.heap[j]? := fun j hj => by rw [h2]; exact heap_setCell_other W _ j _ hj
  have o3 : ∀ j, j < W.heap.size → j ≠ c.sb → ¬ wayB wb V j → W3.heap[j]? = W.heap[j]? := fun j hj h1 h2' => (hm3.block j (by omega) (by rintro (e | e); exact h1 e; exact h2' e)).trans (o2 j (fun e => h2' (.inr (by rw [e]; exact hgV))))
  have hrd : ∀ j, c.reads j → j < W.heap.size ∧ j ≠ c.sb ∧ ¬ wayB wb V j := fun j hj => by
    have := hmine j (.inl hj)
    exact ⟨Nat.lt_of_lt_of_le this h.mv.size, fun e => hsb (by rw [← e]; exact hj), fun hw => by have := h.wn j hw; omega⟩
  have hle := leftW_set (R := R) (t := t) h.len hu
  have hbase : ∀ st3 : List Stp, stM st3 = (if whOf t sl (tg c i) = true then stM (st ++ [(x, c.N[i]?.getD 0, is)]) ++ [(tg c i, c.F[tg c i]?.getD 0)] else stM (st ++ [(x, c.N[i]?.getD 0, is)])) → stOk c st3 →
      Deep (adjG c R) v wh0 (whOf t (sl.set (tg c i) t)) (stD c st3) B ys → (∀ g, g ∈ (stD c (st ++ [(x, (i : Int), i :: is)])).map Prod.fst → g ∈ (stD c st3).map Prod.fst) → DfsSt c fo vb v wb base R t wh0 Y0 W0 B J V' k' c' st3 (sl.set (tg c i) t) ys Y W3 := fun st3 e1 e2 e3 e4 => by
    refine ⟨by rw [e1]; exact hw3, e2, ha3, by simpa using h.len, h.rd.keep fun j hj => o3 j (hrd j hj).1 (hrd j hj).2.1 (hrd j hj).2.2, e3, fun q1 q2 => (h.ord q1 q2).grey e4, ?_, fun j hj => ?_, fun j hj => ?_, ?_, ?_⟩
    · exact hJ _ _ _ _ h.j (by have := hm3.size; omega) (fun j hj => o3 j (h.y1 j hj).1 (fun e => (h.y1 j hj).2.1 (.inr (.inl e))) (h.y1 j hj).2.2.1)
    · obtain ⟨q1, q2, q3, q4⟩ := h.y1 j hj
      refine ⟨by have := hm3.size; omega, q2, ?_, q4⟩
      rintro (e | e)
      · exact q3 (.inl e)
      · rcases hb3 j e with e | e
        · exact q3 (.inr e)
        · omega
    · rcases hj with e | e
      · rw [e]; exact hwb
      · rcases hb3 j e with e | e
        · exact h.wn j (.inr e)
        · have := h.mv.size; omega
    · have m2 : Mv (fun j => Y0 j ∨ c.mine vb j) W0 W2 := by
        rw [h2]
        exact h.mv.set_ (p := ⟨g, _, none⟩) (.inr (h.wn g (.inr hgV))) _
      refine m2.trans hm3 (fun j hj => ?_)
      rcases hj with e | e
      · exact .inl (.inr (.inr (.inl e)))
      · exact .inr (h.wn j e)
    · rw [whOf_set (by rw [h.len]; exact hu)]
      exact off_false h.root
  have hd := h.deep
  rw [stD_snoc] at hd
  dsimp only [List.map_cons] at hd
  by_cases hwh : whOf t sl (tg c i) = true
  · refine ⟨st ++ [(x, c.N[i]?.getD 0, is)] ++ [(tg c i, c.F[tg c i]?.getD 0, R (tg c i))], hbase _ (by rw [if_pos hwh, stM_snoc _ (tg c i, _, _)]) (fun e he => ?_) ?_ (fun y hy => ?_), ?_⟩
    · rcases List.mem_append.1 he with he | he
      · rcases List.mem_append.1 he with he | he
        · exact h.ok e (List.mem_append_left _ he)
        · rw [List.mem_singleton.1 he]; exact ⟨hch2, hx⟩
      · rw [List.mem_singleton.1 he]; exact ⟨hG.chain _ hu, hu⟩
    · rw [stD_snoc, stD_snoc, whOf_set (by rw [h.len]; exact hu)]
      exact deep_push hd hwh
    · rw [stD_snoc] at hy
      rw [stD_snoc, stD_snoc]
      simp only [List.map_cons, List.mem_cons] at hy ⊢
      exact .inr hy
    · rw [leftSt_snoc, leftSt_snoc, leftSt_snoc]
      have := hle.2 hwh
      simp only [List.length_cons]
      omega
  · have hwf : whOf t sl (tg c i) = false := by simpa using hwh
    refine ⟨st ++ [(x, c.N[i]?.getD 0, is)], hbase _ (by rw [if_neg hwh]) (fun e he => ?_) ?_ (fun y hy => ?_), ?_⟩
    · rcases List.mem_append.1 he with he | he
      · exact h.ok e (List.mem_append_left _ he)
      · rw [List.mem_singleton.1 he]; exact ⟨hch2, hx⟩
    · rw [stD_snoc, whOf_set (by rw [h.len]; exact hu), off_same hwf]
      exact deep_skip hd hwf
    · rw [stD_snoc] at hy ⊢
      exact hy
    · rw [leftSt_snoc, leftSt_snoc]
      have := hle.1
      simp only [List.length_cons]
      omega
end

section
variable {c : Dc} {fo vb v wb base : Nat} {R : Nat → List Nat} {t : Bool} {wh0 : Nat → Bool} {Y0 : Nat → Prop} {W0 : World} {B : List Nat} {J : List Nat → (Nat → Prop) → World → Prop}
theorem own_blk {w w' : World} {base e size n : Nat} {u : Value} {xs : List Value} (h : w.ownsRow base e size u n xs) (hk : ∀ x, u.ownBlock = some x → w'.heap[x]? = w.heap[x]?) : w'.ownsRow base e size u n xs := by
  refine ⟨h.1, ?_⟩
  rcases h.2 with h2 | ⟨g, cap, cur, rfl, hb, hg, rest⟩
  · exact .inl h2
  · exact .inr ⟨g, cap, cur, rfl, hb, (hk g rfl).trans hg, rest⟩
theorem adj_lt (hG : Grf c R) {x u : Nat} (hx : x < c.n) (hu : u ∈ adjG c R x) : u < c.n := by
  unfold adjG at hu
  obtain ⟨i, hi, rfl⟩ := List.mem_map.1 hu
  have := (hG.chain x hx).lt i hi
  have := hG.tgt i (by rw [← hG.lenN]; exact this)
  unfold tg
  omega
/-- The last stop is done. -/
theorem DfsSt.pop {g k cc : Nat} {st : List Stp} {sl : List Bool} {ys : List Nat} {Y Y' : Nat → Prop} {W W2 W3 : World} {x : Nat} {p : Int}
    (hG : Grf c R) (h : DfsSt c fo vb v wb base R t wh0 Y0 W0 B J (some ⟨g, 0, none⟩) (k + 1) cc (st ++ [(x, p, [])]) sl ys Y W) (hmine : ∀ j, c.mine vb j → j < W0.heap.size) (hw0 : ∀ u, wh0 u = true → u < c.n) (hBn : ∀ u ∈ B, u < c.n)
    (h2 : W2 = W.setCell ⟨wb, 0, none⟩ (.slice (some ⟨g, 0, none⟩) k cc)) (hm3 : Mv Y W2 W3) (hj3 : J (ys ++ [x]) Y' W3) (hy3 : ∀ j, Y' j → j < W3.heap.size ∧ (Y j ∨ W2.heap.size ≤ j)) :
    DfsSt c fo vb v wb base R t wh0 Y0 W0 B J (some ⟨g, 0, none⟩) k cc st sl (ys ++ [x]) Y' W3 ∧ leftSt st < leftSt (st ++ [(x, p, [])]) := by
  have hk : k = st.length := by have := h.klen; simp at this; omega
  have s2 : W2.heap.size = W.heap.size := by rw [h2]; simp
  have o2 : ∀ j, j ≠ wb → W2.heap[j]? = W.heap[j]? := fun j hj => by rw [h2]; exact heap_setCell_other W _ j _ hj
  have hne : g ≠ wb := fun e => h.way.ne (by rw [e]; rfl)
  have hwY : ¬ Y wb := fun hy => (h.y1 wb hy).2.2.1 (.inl rfl)
  have hgY : ¬ Y g := fun hy => (h.y1 g hy).2.2.1 (.inr ⟨0, rfl⟩)
  have hbx : Boxed W2 wb 138 (.slice (some ⟨g, 0, none⟩) k cc) := by rw [h2]; exact Boxed.set _ h.way.box
  have hwl : wb < W2.heap.size := hbx.lt
  have hgl : g < W2.heap.size := by rw [s2]; exact (h.way.own.lt g rfl).2
  have hml : ∀ j, c.mine vb j → j < W2.heap.size ∧ ¬ Y j ∧ j ≠ wb := fun j hj => by
    have := hmine j hj
    exact ⟨by rw [s2]; exact Nat.lt_of_lt_of_le this h.mv.size, fun hy => (h.y1 j hy).2.1 hj, fun e => by have := h.wn wb (.inl rfl); omega⟩
  have o3 : ∀ j, c.mine vb j → W3.heap[j]? = W.heap[j]? := fun j hj => (hm3.block j (hml j hj).1 (hml j hj).2.1).trans (o2 j (hml j hj).2.2)
  have hown : W3.ownsRow base 140 2 (.slice (some ⟨g, 0, none⟩) k cc) k (flatS (stM st)) := by
    have h1 := h.way.own
    rw [stM_snoc, flatS_snoc] at h1
    have h3 := ownsRow_pop (by rw [flatS_len, stM_len, hk]) h1
    refine own_blk h3 (fun j hj => ?_)
    cases hj
    exact (hm3.block g hgl hgY).trans (o2 g hne)
  have hd := h.deep
  rw [stD_snoc] at hd
  dsimp only [List.map_nil] at hd
  refine ⟨⟨⟨(hm3.block wb hwl hwY).trans hbx, hown, h.way.ne⟩, fun e he => h.ok e (List.mem_append_left _ he), ?_, h.len, h.rd.keep fun j hj => o3 j (.inl hj), deep_pop hd, fun q1 q2 => ?_, hj3, fun j hj => ?_, h.wn, ?_, h.root⟩, ?_⟩
  · unfold ArrB
    rw [o3 c.sb (.inr (.inl rfl))]
    exact h.arr
  · have ho := h.ord q1 q2
    rw [stD_snoc] at ho
    refine order_pop hd (fun y hy u hu hwu => ?_) ho
    have hyn : y < c.n := by
      rcases hy with hy | hy | hy
      · exact hBn y hy
      · exact hw0 y ((hd.part y).2 (.inr (.inr hy)))
      · exact hw0 y ((hd.part y).2 (.inr (.inl (by rw [hy]; simp))))
    rcases q1 u (adj_lt hG hyn hu) with e | e
    · rcases (hd.part u).1 e with e | e | e
      · rw [hwu] at e; cases e
      · simp only [List.map_cons, List.mem_cons] at e
        rcases e with e | e
        · exact .inr (.inr (.inl e))
        · exact .inr (.inr (.inr e))
      · exact .inr (.inl e)
    · exact .inl e
  · obtain ⟨q1, q2⟩ := hy3 j hj
    refine ⟨q1, ?_⟩
    rcases q2 with q2 | q2
    · exact (h.y1 j q2).2
    · refine ⟨fun hm => by have := (hml j hm).1; omega, ?_, .inr (by have := h.mv.size; omega)⟩
      rintro (e | ⟨off, e⟩)
      · omega
      · cases e; omega
  · have m2 : Mv (fun j => Y0 j ∨ c.mine vb j) W0 W2 := by
      rw [h2]
      exact h.mv.set_ (p := ⟨wb, 0, none⟩) (.inr (h.wn wb (.inl rfl))) _
    refine m2.trans hm3 (fun j hj => ?_)
    rcases (h.y1 j hj).2.2.2 with e | e
    · exact .inl (.inl e)
    · exact .inr e
  · rw [leftSt_snoc]; omega
/-- It begins. -/
theorem dfs_start {V' : Option Addr} {k' c' : Nat} {sl0 : List Bool} {W1 W2 : World} (hG : Grf c R) (hJ : Stable J) (hok : SeqOk c fo vb v sl0 W0) (hsl : sl0.length = c.n) (hv : v < c.n) (hsb : ¬ c.reads c.sb) (hB : ∀ x ∈ B, ∀ u ∈ adjG c R x, whOf t sl0 u = false) (hY0 : ∀ k, Y0 k → k < W0.heap.size ∧ ¬ c.mine vb k) (h0 : J [] Y0 W0)
    (h1 : W1 = W0.alloc (.cells #[.slice none 0 0] 138)) (hwb : wb = W0.heap.size)
    (hw : Way_ W2 wb base V' k' c' (if whOf t sl0 v = true then ([] : List (Nat × Int)) ++ [(v, c.F[v]?.getD 0)] else [])) (ha : ArrB W2 c.sb (sl0.set v t)) (hm : Mv (fun j => j = c.sb ∨ wayB wb none j) W1 W2) (hb : ∀ j, Bk V' j → Bk none j ∨ W1.heap.size ≤ j) :
    ∃ st, DfsSt c fo vb v wb base R t (whOf t sl0) Y0 W0 B J V' k' c' st (sl0.set v t) [] Y0 W2 := by
  have s1 : W1.heap.size = W0.heap.size + 1 := by rw [h1]; simp
  have o1 : ∀ j, j < W0.heap.size → W1.heap[j]? = W0.heap[j]? := fun j hj => by rw [h1]; exact Below.heap_alloc _ _ _ hj
  have o2 : ∀ j, j < W0.heap.size → j ≠ c.sb → W2.heap[j]? = W0.heap[j]? := fun j hj hne => (hm.block j (by omega) (by
    rintro (e | e | ⟨off, e⟩)
    · exact hne e
    · omega
    · cases e)).trans (o1 j hj)
  have hset := whOf_set (t := t) (sl := sl0) (u := v) (by omega)
  have hbase : ∀ st : List Stp, stM st = (if whOf t sl0 v = true then ([] : List (Nat × Int)) ++ [(v, c.F[v]?.getD 0)] else []) → stOk c st → Deep (adjG c R) v (whOf t sl0) (off (whOf t sl0) v) (stD c st) B [] → DfsSt c fo vb v wb base R t (whOf t sl0) Y0 W0 B J V' k' c' st (sl0.set v t) [] Y0 W2 := fun st e1 e2 e3 => by
    refine ⟨by rw [e1]; exact hw, e2, ha, by simpa using hsl, hok.rd.keep fun j hj => o2 j (hok.lt j (.inl hj)) (fun e => hsb (by rw [← e]; exact hj)), by rw [hset]; exact e3, fun _ q2 => by rw [List.append_nil]; exact q2.grey (fun _ f => f.elim), ?_, fun j hj => ?_, fun j hj => ?_, ?_, by rw [hset]; unfold off; simp⟩
    · exact hJ _ _ _ _ h0 (by have := hm.size; omega) (fun j hj => o2 j (hY0 j hj).1 (fun e => (hY0 j hj).2 (.inr (.inl e))))
    · obtain ⟨q1, q2⟩ := hY0 j hj
      refine ⟨by have := hm.size; omega, q2, ?_, .inl hj⟩
      rintro (e | e)
      · omega
      · rcases hb j e with ⟨off, e⟩ | e
        · cases e
        · omega
    · rcases hj with e | e
      · omega
      · rcases hb j e with ⟨off, e⟩ | e
        · cases e
        · omega
    · have m1 : Mv (fun j => Y0 j ∨ c.mine vb j) W0 W1 := by rw [h1]; exact .of_bel ((Bel.refl _).alloc _)
      refine m1.trans hm (fun j hj => ?_)
      rcases hj with e | e | ⟨off, e⟩
      · exact .inl (.inr (.inr (.inl e)))
      · exact .inr (by omega)
      · cases e
  by_cases hwh : whOf t sl0 v = true
  · refine ⟨[(v, c.F[v]?.getD 0, R v)], hbase _ (by rw [if_pos hwh]; rfl) (fun e he => ?_) (deep_start hwh hB)⟩
    rw [List.mem_singleton.1 he]
    exact ⟨hG.chain v hv, hv⟩
  · have hwf : whOf t sl0 v = false := by simpa using hwh
    exact ⟨[], hbase _ (by rw [if_neg hwh]; rfl) (fun e he => by cases he) (by rw [off_same hwf]; exact deep_start_no hwf hB)⟩
theorem DfsSt.done {V : Option Addr} {k cc : Nat} {sl0 sl : List Bool} {ys : List Nat} {Y : Nat → Prop} {W : World} (h : DfsSt c fo vb v wb base R t (whOf t sl0) Y0 W0 B J V k cc [] sl ys Y W) : SeqOut c fo R t v sl0 B ys W :=
  ⟨sl, h.arr, h.len, h.rd, deep_over h.deep h.root, fun q1 q2 => (h.ord q1 q2).grey (fun _ e => by simp [stD] at e)⟩
end

set_option maxRecDepth 100000 in
set_option maxHeartbeats 4000000 in
theorem reached_seq (c : Dc) (fo vb v : Nat) (R : Nat → List Nat) (t : Bool) (sl0 : List Bool) (B : List Nat) (hop : Opens c fo t) (eg : ∀ args w, (callFunc fo args).run Try.prog w = .ok (.enter fo args) w) (hG : Grf c R) (hn : c.n ≤ 1048576) (hln : c.ln ≤ 1048576) (hv : v < c.n) (hsl : sl0.length = c.n)
    (hsb : ¬ c.reads c.sb) (hvsb : vb ≠ c.sb) (hB : ∀ x ∈ B, ∀ u ∈ adjG c R x, whOf t sl0 u = false) (hBn : ∀ u ∈ B, u < c.n) (n : Nat) (h1 : 1 ≤ n) :
    SeqF Fence.wide n Try.prog 87 #[.pointer (some ⟨c.ob, 0, none⟩), .pointer (some ⟨c.ab, 0, none⟩), .pointer (some ⟨vb, 0, none⟩)] (fun x : Nat => #[.int .i64 x]) (c.mine vb) (SeqOk c fo vb v sl0) (SeqOut c fo R t v sl0 B) c.n := by
  intro l J Y0 W0 hok hY0 hJ hY h0
  obtain ⟨msr, hmsr⟩ := pick (P := msrP c R t W0.heap.size W0.heap.size) msr_one
  have HOP := Lib.hid hop
  have HEG := Lib.hid eg
  have HG := Lib.hid hG
  have HSL := Lib.hid hsl
  have HSB := Lib.hid hsb
  have HBB := Lib.hid hB
  have HOK := Lib.hid hok
  have HY0 := Lib.hid hY0
  have HJ := Lib.hid hJ
  have HY := Lib.hid hY
  have H0 := Lib.hid h0
  have HM := Lib.hid hmsr
  have HV := Lib.hid hv
  have HVSB := Lib.hid hvsb
  have HBN := Lib.hid hBn
  have HW0 : Hid (∀ u, whOf t sl0 u = true → u < c.n) := Lib.hid (fun u h => by have := wh_lt h; rw [hsl] at this; exact this)
  clear hop hG hsl hsb hB hok hY0 hJ hY h0 hmsr hv hvsb hBn
  refine callsIn_of_wp Try.func87 rfl trivial ?_ rfl
  simp only [Try.ntmps87, List.size_toArray, List.length_cons, List.length_nil, Nat.reduceAdd, Nat.reduceSub, Array.replicate_succ, Array.replicate_zero, List.push_toArray, List.append_toArray, List.nil_append, List.cons_append]
  have c3 := HOK.out.hv
  have hvb := HOK.out.lt vb (.inr (.inr rfl))
  have hent : Hid (Calls Try.prog 88 #[.int .i64 v, .pointer (some ⟨c.ob, 0, none⟩), .pointer (some ⟨W0.heap.size, 0, none⟩), .pointer (some ⟨c.ab, 0, none⟩)] (W0.alloc (.cells #[.slice none 0 0] 138)) (EnterPost c t sl0 v W0.heap.size W0.heap.size none [] (W0.alloc (.cells #[.slice none 0 0] 138)))) := Lib.hid (by
    have hb := (Bel.refl W0).alloc (.cells #[.slice none 0 0] 138)
    have hno : ∀ j, j < W0.heap.size → ¬ wayB W0.heap.size none j := by
      rintro j hj (e | ⟨off, e⟩)
      · omega
      · cases e
    exact enter_any c fo t HOP.out HEG.out v W0.heap.size W0.heap.size 0 0 none [] sl0 _ (HOK.out.rd.keep fun j hj => hb.block j (HOK.out.lt j (.inl hj))) (hb.blk HOK.out.arr) HSL.out HV.out hn
      ⟨blk1 W0 _, World.ownsRow_nil _ _ _ _, fun e => by cases e⟩ (by omega) (by simp) (hno c.sb (HOK.out.lt c.sb (.inr (.inl rfl)))) HSB.out (fun j hj => hno j (HOK.out.lt j (.inl hj))))
  gi_wp2_with (refine ⟨trivial, ?_⟩; gi_at_call 88; refine (callsIn_wide.2 hent.out).mono ?_; rintro e w2 ⟨⟨ve, rfl⟩, V2, k2, cc2, hway2, harr2, hmv2, hbk2⟩)
  have hst := dfs_start (vb := vb) (v := v) (wb := W0.heap.size) (base := W0.heap.size) (B := B) (J := J) HG.out HJ.out HOK.out HSL.out HV.out HSB.out HBB.out HY0.out H0.out rfl rfl hway2 harr2 hmv2 hbk2
  have HST := Lib.hid hst
  clear hst hway2 harr2 hmv2 hbk2 c3 hvb hent
  gi_loopw [] (fun wr => ∃ V k cc st sl ys Y, Hid (DfsSt c fo vb v W0.heap.size W0.heap.size R t (whOf t sl0) Y0 W0 B J V k cc st sl ys Y wr)) (fun wr => msr wr)
  case atStart =>
    obtain ⟨st, h⟩ := HST.out
    exact ⟨_, _, _, st, _, _, _, Lib.hid h⟩
  case round =>
    clear HST
    obtain ⟨V, k, cc, st, sl, ys, Y, HD⟩ := hrel
    have hmm := HM.out wr _ ⟨st, sl, V, k, cc, HD.out.way, HD.out.ok, HD.out.arr, rfl⟩
    have HMM := Lib.hid hmm
    have hbx := HD.out.way.box
    have b0 := cell1_ hbx
    have bf := frz1_ hbx
    have HBX := Lib.hid hbx
    have hkl := HD.out.klen
    clear hmm hbx
    rcases List.eq_nil_or_concat st with rfl | ⟨st', e, rfl⟩
    case inl =>
      obtain rfl : k = 0 := hkl
      gi_wp2
      go_end0
      exact ⟨⟨_, rfl⟩, ys, Y, HD.out.done, HD.out.j, fun j hj => ⟨(HD.out.y1 j hj).1, (HD.out.y1 j hj).2.2.2⟩, HD.out.mv⟩
    case inr =>
      obtain ⟨x, p, is⟩ := e
      simp only [List.concat_eq_append] at HD HMM hkl
      obtain ⟨m, hm⟩ : ∃ m, m = st'.length := ⟨_, rfl⟩
      have hk2 : k = m + 1 := by rw [hkl, hm]; simp
      subst hk2
      have HMS := Lib.hid hm
      obtain ⟨g, cap', hv, _, _⟩ := HD.out.way.own.form (by omega)
      injection hv with e1 e2 e3
      subst e1
      have how := HD.out.way.own
      rw [stM_snoc, flatS_snoc] at how
      have hl : (flatS (stM st')).length = m * 2 := by rw [flatS_len, stM_len, hm]
      have d0 : wr.cell? ⟨g, m * 2, none⟩ = some (.int .i64 x) := by
        have := how.cells (g := g) rfl (m * 2) (.int .i64 x) (by rw [List.getElem?_append_right (by omega), hl, Nat.sub_self]; rfl)
        rwa [Addr.add_lit, Nat.zero_add] at this
      have d1 : wr.cell? ⟨g, m * 2 + 1, none⟩ = some (.int .i64 p) := by
        have := how.cells (g := g) rfl (m * 2 + 1) (.int .i64 p) (by rw [List.getElem?_append_right (by omega), hl, show m * 2 + 1 - m * 2 = 1 by omega]; rfl)
        rwa [Addr.add_lit, Nat.zero_add] at this
      have f1 : wr.frozen? ⟨g, m * 2 + 1, none⟩ = false := how.frozenAt _
      obtain ⟨hcc, hcm⟩ := own_cap2 how
      have hne : g ≠ W0.heap.size := fun e => HD.out.way.ne (by rw [e]; rfl)
      have hxn : x < c.n := (HD.out.ok (x, p, is) (by simp)).2
      have hmn : m + 1 ≤ c.n := by
        have h := HD.out.deep.nd
        have h2 := nd_len (n := c.n) (List.nodup_append.1 h).1 (fun u hu => HW0.out u ((HD.out.deep.part u).2 (.inr (.inl hu))))
        have h3 : ((stD c (st' ++ [(x, p, is)])).map Prod.fst).length = m + 1 := by simp [stD, hm]
        omega
      have n1 : (0 : Int) ≤ (m : Int) := by omega
      have n2 : (m : Int) < ((m + 1 : Nat) : Int) := by omega
      have n3 : (0 : Int) < ((m + 1 : Nat) : Int) := by omega
      have n4 : m ≤ cc := by omega
      clear how hl e2 e3 hm hkl
      cases is with
      | nil =>
        have hp : p = -1 := (HD.out.ok (x, p, []) (by simp)).1
        subst hp
        obtain ⟨W2, hW2⟩ : ∃ W2, W2 = wr.setCell ⟨W0.heap.size, 0, none⟩ (.slice (some ⟨g, 0, none⟩) m cc) := ⟨_, rfl⟩
        have hlen : ys.length < c.n := by
          have h := HD.out.deep.nd
          have h2 := nd_len (n := c.n) h (fun u hu => HW0.out u ((HD.out.deep.part u).2 (.inr (List.mem_append.1 hu))))
          rw [stD_snoc] at h2
          simp at h2
          omega
        obtain ⟨fn, tmps, assign, body, hy, hR⟩ := HY.out ys x Y W2 (HJ.out _ _ _ _ HD.out.j (by rw [hW2]; simp) (fun j hj => by rw [hW2]; exact heap_setCell_other wr _ j _ (fun e => (HD.out.y1 j hj).2.2.1 (.inl e)))) (fun j hj => by have := (HD.out.y1 j hj).1; rw [hW2]; simpa using this) hlen
        rw [hW2] at hy
        have HW2 := Lib.hid hW2
        rw [hW2] at hR
        clear hW2 hlen
        gi_wp2
        refine hR.mono ?_
        rintro e W3 ⟨rfl, hmv3, Y3, hj3, hy3⟩
        rw [← HW2.out] at hmv3 hy3
        obtain ⟨hd3, hlt3⟩ := HD.out.pop HG.out (fun j hj => HOK.out.lt j hj) HW0.out HBN.out HW2.out hmv3 hj3 hy3
        have HD3 := Lib.hid hd3
        have HLT3 := Lib.hid hlt3
        clear hd3 hlt3 hmv3 hj3 hy3 hR
        gi_wp2
        go_roundw
        case rel => exact ⟨_, _, _, _, _, _, _, HD3⟩
        case measure =>
          rw [HMM.out, HM.out W3 _ ⟨_, _, _, _, _, HD3.out.way, HD3.out.ok, HD3.out.arr, rfl⟩]
          have := HLT3.out
          omega
      | cons i is =>
        obtain ⟨hpi, hiN, _⟩ := (HD.out.ok (x, p, i :: is) (by simp)).1
        dsimp only at hpi
        subst hpi
        have hil : i < c.ln := by rw [← HG.out.lenN]; exact hiN
        have q1 := HD.out.rd.c1
        obtain ⟨nb, noff, eN, ncs⟩ := HD.out.rd.rn.2 (by omega)
        have qn := ncs i hil
        rw [eN] at q1
        have q2 := HD.out.rd.c2
        obtain ⟨tb, toff, eT, tcs⟩ := HD.out.rd.rt.2 (by omega)
        have qt := tcs i hil
        rw [eT] at q2
        have hti := HG.out.tgt i hil
        obtain ⟨y, hy⟩ : ∃ y, y = c.N[i]?.getD 0 := ⟨_, rfl⟩
        obtain ⟨u, hu⟩ : ∃ u, u = tg c i := ⟨_, rfl⟩
        have hun : u < c.n := by rw [hu]; unfold tg; omega
        have hut : c.TO[i]?.getD 0 = (u : Int) := by rw [hu]; unfold tg; omega
        rw [← hy] at qn
        rw [hut] at qt
        have hrw : ∀ j, c.reads j → j ≠ g := fun j hj e => by
          have h1 := HOK.out.lt j (.inl hj)
          have h2 := HD.out.wn j (.inr ⟨0, by rw [e]⟩)
          omega
        have gab : c.ab ≠ g := hrw c.ab (.inl rfl)
        have gtb : tb ≠ g := hrw tb (.inr (.inr (.inr (.inr (.inr ⟨toff, eT⟩)))))
        obtain ⟨W2, hW2⟩ : ∃ W2, W2 = wr.setCell ⟨g, m * 2 + 1, none⟩ (.int .i64 y) := ⟨_, rfl⟩
        have r1 : (wr.setCell ⟨g, m * 2 + 1, none⟩ (.int .i64 y)).cell? ⟨c.ab, 2, none⟩ = some (.slice (some ⟨tb, toff, none⟩) c.ln c.tc) := (World.cell?_setCell_far _ _ _ _ (fun e => gab e.symm)).trans q2
        have r2 : (wr.setCell ⟨g, m * 2 + 1, none⟩ (.int .i64 y)).cell? ⟨tb, toff + i, none⟩ = some (.int .i64 u) := (World.cell?_setCell_far _ _ _ _ (fun e => gtb e.symm)).trans qt
        have j1 : (0 : Int) ≤ (i : Int) := by omega
        have j2 : (i : Int) < (c.ln : Int) := by omega
        have j3 : ((i : Int) != -1) = true := by simp
        have j4 : ¬ (i : Int) = -1 := by omega
        have hwn2 : Way_ W2 W0.heap.size W0.heap.size (some ⟨g, 0, none⟩) (m + 1) cc (stM (st' ++ [(x, y, is)])) := by
          rw [hW2, stM_snoc]
          have h := HD.out.way
          rw [stM_snoc] at h
          exact way_next h (by rw [stM_len]; exact HMS.out)
        have o2 : ∀ j, j ≠ g → W2.heap[j]? = wr.heap[j]? := fun j hj => by rw [hW2]; exact heap_setCell_other wr _ j _ hj
        have hle : W0.heap.size ≤ wr.heap.size := HD.out.mv.size
        have hno : ∀ j, c.mine vb j → ¬ wayB W0.heap.size (some ⟨g, 0, none⟩) j := fun j hj hw => by
          have h1 := HOK.out.lt j hj
          have h2 := HD.out.wn j hw
          omega
        have hent := enter_any c fo t HOP.out HEG.out u W0.heap.size W0.heap.size (m + 1) cc (some ⟨g, 0, none⟩) (stM (st' ++ [(x, y, is)])) sl W2 (HD.out.rd.keep fun j hj => o2 j (hrw j hj))
          (by unfold ArrB; rw [o2 c.sb (fun e => hno c.sb (.inr (.inl rfl)) (.inr ⟨0, by rw [e]⟩))]; exact HD.out.arr) HD.out.len hun hn hwn2 (by omega) (by rw [hW2]; simpa using hle) (hno c.sb (.inr (.inl rfl))) HSB.out (fun j hj => hno j (.inl hj))
        have HENT := Lib.hid hent
        rw [hW2] at HENT
        have HW2 := Lib.hid hW2
        have HYN := Lib.hid hy
        have HUT := Lib.hid hu
        have HIL := Lib.hid hil
        clear hent hW2 hy hu hil hiN eN ncs eT tcs hti hut hrw hwn2 o2 hle hno q2 qt
        gi_wp2_with (refine ⟨trivial, ?_⟩; gi_at_call 88; refine (callsIn_wide.2 HENT.out).mono ?_; rintro e w3 ⟨⟨ve, rfl⟩, V3, k3, cc3, hway3, harr3, hmv3, hbk3⟩)
        rw [← HW2.out] at hmv3 hbk3
        rw [HUT.out, HYN.out] at hway3
        rw [HUT.out] at harr3
        obtain ⟨st3, hd3, hlt3⟩ := HD.out.arrow HG.out rfl HJ.out HIL.out HSB.out (Nat.le_refl _) (fun j hj => HOK.out.lt j hj) (by rw [HW2.out, HMS.out, HYN.out]) hway3 harr3 hmv3 hbk3
        have HD3 := Lib.hid hd3
        have HLT3 := Lib.hid hlt3
        clear hd3 hlt3 hway3 harr3 hmv3 hbk3
        go_roundw
        case rel => exact ⟨_, _, _, st3, _, _, _, HD3⟩
        case measure =>
          rw [HMM.out, HM.out w3 _ ⟨_, _, _, _, _, HD3.out.way, HD3.out.ok, HD3.out.arr, rfl⟩]
          exact HLT3.out
end Go.Proofs.Ytlbachjhhjjmfaa.Mu
namespace Go.Proofs.Ytlbachjhhjjmfaa.Mu
open Go.ChangeShapes Go.WideShapes Go.ChangeAt Go.RowKit Go.Shelf

attribute [local go_sem] Oper.semAt_some

/-- A mark among the deferred calls: the block for a loop's rounds. -/
def mkM (D : Nat) : Deferred := { target := .collected D, args := #[] }
/-- A function leaves by its marks. -/
theorem leaves_marks {F : Fence} {n : Nat} {P : Program} {fn : Func} {tmps : Array Value} {R : Ending → World → Prop} : ∀ {Ds : List Nat} {w : World}, Ds.Nodup → (∀ D ∈ Ds, w.heap[D]? = some (.deferred (some []))) →
    (∀ w', Mv (fun k => k ∈ Ds) w w' → LeavesInM F n P fn tmps R [] .returning w') → LeavesInM F n P fn tmps R (Ds.map mkM) .returning w
  | [], w, _, _, h => h w (Mv.refl _ w)
  | D :: Ds, w, hnd, hD, h => by
    rw [List.nodup_cons] at hnd
    have hk := hD D (by simp)
    refine ⟨by simp, .inl ⟨D, _, rfl, run_takeDeferred hk, ?_⟩⟩
    refine leaves_marks hnd.2 (fun E hE => ?_) (fun w' hm => h w' ?_)
    · rw [World.putObj_heap_other (fun e => hnd.1 (by rw [← e]; exact hE))]
      exact hD E (List.mem_cons_of_mem _ hE)
    · have m1 : Mv (fun k => k ∈ D :: Ds) w (w.putObj D (.deferred none)) := (Mv.refl _ w).putObj (.inl (by simp)) _
      exact m1.trans hm (fun j hj => .inl (List.mem_cons_of_mem _ hj))

section
variable {n : Nat} {P : Program}
/-- A loop over such a function, in a function of its own. -/
theorem range_outer {α : Type} {g : Operand} {ps : Array Tmp} {assign body : Code} {Q : Exit → Act → World → Prop} {a : Act} {w : World}
    (h1 : 1 ≤ n) {gf : Nat} {lb : Array Value} (hg : a.eval g = .func (.func gf) #[] lb) (eg : ∀ args w, (callFunc gf args).run P w = .ok (.enter gf args) w)
    {encs : α → Array Value} {Mine : Nat → Prop} {Ok : World → Prop} {S : List α → World → Prop} {N : Nat} (hseq : SeqF Fence.wide (n - 1) P gf lb encs Mine Ok S N) (hok : ∀ W, Bel w W → Ok W) (hmine : ∀ k, Mine k → k < w.heap.size) (hps : ∀ x, (encs x).size = ps.size)
    (I : List α → (Nat → Prop) → World → Prop) (hI : Stable I) {Y0 : Nat → Prop} (hY0 : ∀ k, Y0 k → k < w.heap.size ∧ ¬ Mine k) (h0 : I [] Y0 w) (a₁ : α → Act)
    (hassign : ∀ (l : Nat) (x : α) (W : World) (K : Act → World → Prop), K (a₁ x) W → assign.wpIn (Fence.wide.inRound l) (n - 1 - 1) P (Exit.then K (fun _ _ _ => False)) { tmps := (ps.zip (encs x)).foldl (fun t (p, v) => t.setIfInBounds p v) a.tmps, defers := [] } W)
    (hbody : ∀ (l : Nat) (pre : List α) (x : α) (Y : Nat → Prop) (W : World), w.heap.size ≤ W.heap.size → (∃ r, W.heap[l]? = some (.loop r)) → ¬ Y l → I pre Y W → (∀ k, Y k → k < W.heap.size) → pre.length < N →
      body.wpIn (Fence.wide.inRound l) (n - 1 - 1) P (bodyEnds fun W' => Mv Y W W' ∧ ∃ Y', I (pre ++ [x]) Y' W' ∧ ∀ k, Y' k → k < W'.heap.size ∧ (Y k ∨ W.heap.size ≤ k)) (a₁ x) W)
    (hS : ∀ xs W W', S xs W → W.heap.size ≤ W'.heap.size → (∀ k, k < w.heap.size → W'.heap[k]? = W.heap[k]?) → S xs W')
    (hdone : ∀ (D : Nat) (xs : List α) (Y : Nat → Prop) (W : World), w.heap.size ≤ D → S xs W → I xs Y W → Mv (fun k => Y0 k ∨ Mine k) w W → (∀ k, Y k → k < W.heap.size ∧ (Y0 k ∨ w.heap.size ≤ k)) → W.heap[D]? = some (.deferred (some [])) → ¬ Y D → Q .normal { a with defers := mkM D :: a.defers } W) :
    (Code.rangeFunc g ps assign body).wpIn Fence.wide n P Q a w := by
  refine range_core (w := w) (l := w.heap.size + 1) (dd := w.heap.size) (mark := [mkM w.heap.size]) (dk := fun k => k = w.heap.size) (fun fn => (w.alloc (.deferred (some []))).alloc (.loop { state := .ready, pending := none, fn, tmps := a.tmps, params := ps, assign, body, defers := w.heap.size })) (fun fn _ => ⟨run_enterLoop_outer _ _ _ _ _, ((Bel.refl w).alloc _).alloc _, ?_, ?_⟩) (by omega) (fun k hk => by subst hk; exact ⟨Nat.le_refl _, by omega⟩) h1 hg trivial eg hseq hok hmine hps I hI hY0 h0 a₁ hassign (fun pre x Y W q1 q2 q3 q4 q5 q6 => hbody _ pre x Y W q1 q2 q3 q4 q5 q6) hS (fun xs Y W q1 q2 q3 q4 q5 => hdone w.heap.size xs Y W (Nat.le_refl _) q1 q2 q3 q4 (q5 _ rfl).1 (q5 _ rfl).2)
  · have := World.alloc_heap_new (w.alloc (.deferred (some []))) (.loop { state := .ready, pending := none, fn, tmps := a.tmps, params := ps, assign, body, defers := w.heap.size })
    rwa [World.size_alloc] at this
  · rintro k rfl
    exact (Below.heap_alloc _ _ _ (by simp)).trans (World.alloc_heap_new w _)
/-- The same within a round of another. -/
theorem range_inner {α : Type} {g : Operand} {ps : Array Tmp} {assign body : Code} {Q : Exit → Act → World → Prop} {a : Act} {w : World}
    {l₀ : Nat} {r₀ : Loop} (hl₀ : w.heap[l₀]? = some (.loop r₀)) (h1 : 1 ≤ n) {gf : Nat} {lb : Array Value} (hg : a.eval g = .func (.func gf) #[] lb) (eg : ∀ args w, (callFunc gf args).run P w = .ok (.enter gf args) w)
    {encs : α → Array Value} {Mine : Nat → Prop} {Ok : World → Prop} {S : List α → World → Prop} {N : Nat} (hseq : SeqF (Fence.wide.inRound l₀) (n - 1) P gf lb encs Mine Ok S N) (hok : ∀ W, Bel w W → Ok W) (hmine : ∀ k, Mine k → k < w.heap.size) (hps : ∀ x, (encs x).size = ps.size)
    (I : List α → (Nat → Prop) → World → Prop) (hI : Stable I) {Y0 : Nat → Prop} (hY0 : ∀ k, Y0 k → k < w.heap.size ∧ ¬ Mine k) (h0 : I [] Y0 w) (a₁ : α → Act)
    (hassign : ∀ (l : Nat) (x : α) (W : World) (K : Act → World → Prop), K (a₁ x) W → assign.wpIn ((Fence.wide.inRound l₀).inRound l) (n - 1 - 1) P (Exit.then K (fun _ _ _ => False)) { tmps := (ps.zip (encs x)).foldl (fun t (p, v) => t.setIfInBounds p v) a.tmps, defers := [] } W)
    (hbody : ∀ (l : Nat) (pre : List α) (x : α) (Y : Nat → Prop) (W : World), w.heap.size ≤ W.heap.size → (∃ r, W.heap[l]? = some (.loop r)) → ¬ Y l → I pre Y W → (∀ k, Y k → k < W.heap.size) → pre.length < N →
      body.wpIn ((Fence.wide.inRound l₀).inRound l) (n - 1 - 1) P (bodyEnds fun W' => Mv Y W W' ∧ ∃ Y', I (pre ++ [x]) Y' W' ∧ ∀ k, Y' k → k < W'.heap.size ∧ (Y k ∨ W.heap.size ≤ k)) (a₁ x) W)
    (hS : ∀ xs W W', S xs W → W.heap.size ≤ W'.heap.size → (∀ k, k < w.heap.size → W'.heap[k]? = W.heap[k]?) → S xs W')
    (hdone : ∀ (xs : List α) (Y : Nat → Prop) (W : World), S xs W → I xs Y W → Mv (fun k => Y0 k ∨ Mine k) w W → (∀ k, Y k → k < W.heap.size ∧ (Y0 k ∨ w.heap.size ≤ k)) → Q .normal a W) :
    (Code.rangeFunc g ps assign body).wpIn (Fence.wide.inRound l₀) n P Q a w := by
  refine range_core (w := w) (l := w.heap.size) (dd := r₀.defers) (mark := []) (dk := fun _ => False) (fun fn => w.alloc (.loop { state := .ready, pending := none, fn, tmps := a.tmps, params := ps, assign, body, defers := r₀.defers })) (fun fn _ => ⟨run_enterLoop_inner hl₀ _ _ _ _ _, (Bel.refl w).alloc _, World.alloc_heap_new w _, fun _ f => f.elim⟩) (Nat.le_refl _) (fun k hk => hk.elim) h1 hg trivial eg hseq hok hmine hps I hI hY0 h0 a₁ hassign (fun pre x Y W q1 q2 q3 q4 q5 q6 => hbody _ pre x Y W q1 q2 q3 q4 q5 q6) hS (fun xs Y W q1 q2 q3 q4 _ => hdone xs Y W q1 q2 q3 q4)
end

/-- What reached hands out. -/
theorem reached_any (FA NA TA : Option Addr) (n fc ln nc tc : Nat) (v : Int) (fo : Nat) (caps : Array Value) (w : World) : Calls Try.prog 76 #[.agg #[.slice FA n fc, .slice NA ln nc, .slice TA ln tc], .int .i64 v, .func (.func fo) #[] caps] w fun e w' =>
    e = .returned (.func (.func 87) #[] #[.pointer (some ⟨w.heap.size + 2, 0, none⟩), .pointer (some ⟨w.heap.size, 0, none⟩), .pointer (some ⟨w.heap.size + 1, 0, none⟩)]) ∧ w' = ((w.alloc (.cells #[.slice FA n fc, .slice NA ln nc, .slice TA ln tc] 97)).alloc (.cells #[.int .i64 v] 3)).alloc (.cells #[.func (.func fo) #[] caps] 95) := by
  go_enter Try.func76, Try.ntmps76
  go_wp2
  go_ret
  exact ⟨rfl, rfl⟩
end Go.Proofs.Ytlbachjhhjjmfaa.Mu
namespace Go.Proofs.Ytlbachjhhjjmfaa.Mu
open Go.ChangeShapes Go.WideShapes Go.ChangeAt Go.RowKit Go.Shelf

attribute [local go_sem] Oper.semAt_some

/-- The numbers, from the last one on, each with its place. -/
def backN {m : Nat} (O : List (Fin m)) (k : Nat) : List (Fin m × Nat) := O.zipIdx.reverse.take k
theorem backN_succ {m : Nat} (O : List (Fin m)) {k q : Nat} (hk : k < O.length) (hq : q = O.length - 1 - k) (hl : q < O.length) : backN O (k + 1) = backN O k ++ [(O[q], q)] := by
  unfold backN
  rw [List.take_add_one]
  have : O.zipIdx.reverse[k]? = some (O[q], q) := by
    rw [List.getElem?_reverse (by simpa using hk)]
    simp only [List.length_zipIdx, ← hq]
    simp [List.getElem?_eq_getElem hl]
  rw [this]
  rfl
theorem backN_len {m : Nat} (O : List (Fin m)) {k : Nat} (hk : k ≤ O.length) : (backN O k).length = k := by simp [backN]; omega
def ints2 {m : Nat} (O : List (Fin m)) : List Int := O.map fun x => ((x.val : Nat) : Int)
structure BackOk {m : Nat} (Bs len cap : Nat) (A : Option Addr) (O : List (Fin m)) (W : World) : Prop where
  box : W.heap[Bs]? = some (.cells #[.slice A len cap] 22 (0, 0))
  rs : Rs W A len (ints2 O)
  lt : ∀ k, Bk A k → k < W.heap.size
theorem backI_any (A : Option Addr) (len cap : Nat) (w : World) : Calls Try.prog 78 #[.slice A len cap] w fun e w' => e = .returned (.func (.func 89) #[] #[.pointer (some ⟨w.heap.size, 0, none⟩)]) ∧ w' = w.alloc (.cells #[.slice A len cap] 22) := by
  go_enter Try.func78, Try.ntmps78
  go_wp2
  go_ret
  exact ⟨rfl, rfl⟩

set_option maxRecDepth 100000 in
set_option maxHeartbeats 2000000 in
theorem backI_seq {m : Nat} (Bs len cap : Nat) (A : Option Addr) (O : List (Fin m)) (hmax : len ≤ 1048576) (n : Nat) (h1 : 1 ≤ n) :
    SeqF Fence.wide n Try.prog 89 #[.pointer (some ⟨Bs, 0, none⟩)] (fun x : Fin m × Nat => #[.int .i64 x.2, .int .i64 x.1.val]) (fun k => k = Bs ∨ Bk A k) (BackOk Bs len cap A O) (fun xs _ => xs = backN O len) len := by
  intro l J Y0 W0 hok hY0 hJ hY h0
  have HOK := Lib.hid hok
  have HY0 := Lib.hid hY0
  have HJ := Lib.hid hJ
  have HY := Lib.hid hY
  have H0 := Lib.hid h0
  have HOL : Hid (len = O.length) := Lib.hid (by have := hok.rs.1; simpa [ints2] using this)
  have c0 := cell1_ hok.box
  clear hok hY0 hJ hY h0
  refine callsIn_of_wp Try.func89 rfl trivial ?_ rfl
  simp only [Try.ntmps89, List.size_toArray, List.length_cons, List.length_nil, Nat.reduceAdd, Nat.reduceSub, Array.replicate_succ, Array.replicate_zero, List.push_toArray, List.append_toArray, List.nil_append, List.cons_append]
  gi_wp2
  clear c0
  gi_loopw [3] (fun i wr => ∃ (k : Nat) (Y : Nat → Prop), k ≤ len ∧ i = .int .i64 ((len : Int) - 1 - k) ∧ Hid (J (backN O k) Y wr) ∧ Hid (∀ j, Y j → j < wr.heap.size ∧ (Y0 j ∨ W0.heap.size ≤ j)) ∧ Hid (Mv (fun j => Y0 j ∨ (j = Bs ∨ Bk A j)) W0 wr) ∧ Hid (∀ j, (j = Bs ∨ Bk A j) → wr.heap[j]? = W0.heap[j]?))
    (fun i _ => (intOf i + 1).toNat)
  case atStart => exact ⟨0, Y0, Nat.zero_le _, by go_num, H0, Lib.hid (fun j hj => ⟨(HY0.out j hj).1, .inl hj⟩), Lib.hid (Mv.refl _ _), Lib.hid (fun _ _ => rfl)⟩
  case round =>
    obtain ⟨k, Y, hk, rfl, HJR, HYR, HMV, HKP⟩ := hrel
    by_cases hlt : k < len
    · have hbox : wr.heap[Bs]? = some (.cells #[.slice A len cap] 22 (0, 0)) := (HKP.out Bs (.inl rfl)).trans HOK.out.box
      obtain ⟨b, off, eA, hc⟩ := (HOK.out.rs.keep (W' := wr) fun j hj => HKP.out j (.inr hj)).2 (by omega)
      obtain ⟨q, hq⟩ : ∃ q : Nat, q = len - 1 - k := ⟨_, rfl⟩
      have d0 := hc q (by omega)
      have hqO : q < O.length := by have := HOL.out; omega
      obtain ⟨z, hz⟩ : ∃ z : Fin m, z = O[q] := ⟨_, rfl⟩
      have hzi : (ints2 O)[q]?.getD 0 = ((z.val : Nat) : Int) := by
        rw [hz]
        simp [ints2, List.getElem?_eq_getElem hqO]
      rw [hzi] at d0
      have e1 : ((len : Int) - 1 - k) = (q : Int) := by omega
      rw [e1]
      have hbk : backN O (k + 1) = backN O k ++ [(z, q)] := by rw [hz]; exact backN_succ O (by rw [← HOL.out]; exact hlt) (by rw [← HOL.out]; exact hq) hqO
      have HBK := Lib.hid hbk
      have i1 : (0 : Int) ≤ (q : Int) := by omega
      have i2 : (q : Int) < (len : Int) := by omega
      obtain ⟨fn, tmps, assign, body, hy, hR⟩ := HY.out (backN O k) (z, q) Y wr HJR.out (fun j hj => (HYR.out j hj).1) (by rw [backN_len O (by rw [← HOL.out]; exact hk)]; exact hlt)
      dsimp only at hy
      have c0 := cell1_ hbox
      have HQ2 := Lib.hid hq
      rw [eA] at c0
      have HEA := Lib.hid eA
      clear hc hq hz hzi e1 hbk hbox eA
      gi_wp2
      refine hR.mono ?_
      rintro e W3 ⟨rfl, hmv3, Y3, hj3, hy3⟩
      have hnm : ∀ j, (j = Bs ∨ Bk A j) → j < wr.heap.size ∧ ¬ Y j := fun j hj => by
        have hl : j < W0.heap.size := by
          rcases hj with rfl | h
          · exact (Array.getElem?_eq_some_iff.1 HOK.out.box).1
          · exact HOK.out.lt j h
        refine ⟨Nat.lt_of_lt_of_le hl HMV.out.size, fun hy' => ?_⟩
        rcases (HYR.out j hy').2 with h | h
        · exact (HY0.out j h).2 hj
        · omega
      have HJ3 : Hid (J (backN O (k + 1)) Y3 W3) := Lib.hid (by rw [HBK.out]; exact hj3)
      have HY3 : Hid (∀ j, Y3 j → j < W3.heap.size ∧ (Y0 j ∨ W0.heap.size ≤ j)) := Lib.hid (fun j hj => by
        obtain ⟨q1, q2⟩ := hy3 j hj
        refine ⟨q1, ?_⟩
        rcases q2 with h | h
        · exact (HYR.out j h).2
        · exact .inr (Nat.le_trans HMV.out.size h))
      have HM3 : Hid (Mv (fun j => Y0 j ∨ (j = Bs ∨ Bk A j)) W0 W3) := Lib.hid (HMV.out.trans hmv3 (fun j hj => (HYR.out j hj).2.imp .inl id))
      have HK3 : Hid (∀ j, (j = Bs ∨ Bk A j) → W3.heap[j]? = W0.heap[j]?) := Lib.hid (fun j hj => (hmv3.block j (hnm j hj).1 (hnm j hj).2).trans (HKP.out j hj))
      have HZ := HQ2.out
      clear hmv3 hj3 hy3 hnm hR
      gi_wp2
      go_roundw
      case rel => exact ⟨k + 1, Y3, by omega, by go_num, HJ3, HY3, HM3, HK3⟩
      case measure => simp [intOf]; omega
    · obtain rfl : k = len := by omega
      gi_wp2
      go_end0
      exact ⟨⟨_, rfl⟩, _, Y, rfl, HJR.out, HYR.out, HMV.out⟩
end Go.Proofs.Ytlbachjhhjjmfaa.Mu
namespace Go.Proofs.Ytlbachjhhjjmfaa.Mu
open Go.ChangeShapes Go.WideShapes Go.ChangeAt Go.RowKit Go.Shelf

attribute [local go_sem] Oper.semAt_some

theorem run_store_func {P : Program} {w : World} {a : Addr} {m : Mode} (f : Fn) (t b : Array Value) : (store a (.func f t b) m).run P w = stored P w a (.func f t b) m := run_store P w a _ m rfl
attribute [local go_sem] run_store_func
theorem info_bl : (Try.prog.info? 4).map (fun i => (i.zero, i.size, i.bytes)) = some (some (.bool false), 1, 1) := by kernel_rfl
theorem info_i64' : (Try.prog.info? 3).map (fun i => (i.zero, i.size, i.bytes)) = some (some (.int .i64 0), 1, 8) := by kernel_rfl
theorem info_sl : (Try.prog.info? 22).map (fun i => (i.zero, i.size, i.bytes)) = some (some (.slice none 0 0), 1, 24) := by kernel_rfl
theorem mk_bool (k : Nat) (hk : k ≤ 1048576) (W : World) : (Instr.makeSlice 129 (.int .i64 (k : Int)) (.int .i64 (k : Int))).run Try.prog W = .ok (.slice (some ⟨W.heap.size, 0, none⟩) k k) (W.alloc (.cells (madeCells #[.bool false] k) 4)) :=
  run_make_row' (P := Try.prog) 129 4 (.bool false) 1 Try.underlying129 info_bl rfl .i64 .i64 k (by omega) (by omega) W
theorem ArrB.made (w : World) (n : Nat) : ArrB (w.alloc (.cells (madeCells #[.bool false] n) 4)) w.heap.size (List.replicate n false) := by
  unfold ArrB
  rw [heap_alloc_new]
  congr 2
  apply Array.ext'
  rw [toList_madeCells_one]
  simp
/-- A box that holds a slice of numbers of the call's own. -/
structure Oi (W : World) (ox base : Nat) (V : Option Addr) (k c : Nat) (O : List Nat) : Prop where
  box : W.heap[ox]? = some (.cells #[.slice V k c] 22 (0, 0))
  own : W.ownsRow base 3 1 (.slice V k c) k (O.map fun (x : Nat) => Value.int .i64 (x : Int))
  ne : (Value.slice V k c).ownBlock ≠ some ox
theorem Oi.keep {W W' : World} {ox base k c : Nat} {V : Option Addr} {O : List Nat} (h : Oi W ox base V k c O) (hk : ∀ j, wayB ox V j → W'.heap[j]? = W.heap[j]?) : Oi W' ox base V k c O :=
  ⟨(hk ox (.inl rfl)).trans h.box, own_blk h.own (fun x hx => hk x (.inr (own_bk h.own hx))), h.ne⟩
theorem Oi.len {W : World} {ox base k c : Nat} {V : Option Addr} {O : List Nat} (h : Oi W ox base V k c O) : k = O.length := by
  have := h.own.1
  simp at this
  omega
/-- What is read of a graph. -/
def gB (c : Dc) (k : Nat) : Prop := Bk c.FA k ∨ Bk c.NA k ∨ Bk c.TA k
structure Gr (c : Dc) (W : World) : Prop where
  rf : Rs W c.FA c.n c.F
  rn : Rs W c.NA c.ln c.N
  rt : Rs W c.TA c.ln c.TO
theorem Gr.keep {c : Dc} {W W' : World} (h : Gr c W) (hk : ∀ k, gB c k → W'.heap[k]? = W.heap[k]?) : Gr c W' :=
  ⟨h.rf.keep fun k hb => hk k (.inl hb), h.rn.keep fun k hb => hk k (.inr (.inl hb)), h.rt.keep fun k hb => hk k (.inr (.inr hb))⟩
def aggG (c : Dc) : Value := .agg #[.slice c.FA c.n c.fc, .slice c.NA c.ln c.nc, .slice c.TA c.ln c.tc]
/-- rings, in the first loop. -/
def actA (c d : Dc) (KA : Option Addr) (kn kc b : Nat) (i : Int) (u : Nat → Value) (Ds : List Nat) : Act :=
  { tmps := #[aggG c, aggG d, .slice KA kn kc, .pointer (some ⟨b, 0, none⟩), .pointer (some ⟨b + 1, 0, none⟩), undef, .slice none 0 0, .pointer (some ⟨b + 3, 0, none⟩), .func (.func 75) #[] #[.pointer (some ⟨b + 3, 0, none⟩)], .pointer (some ⟨b + 4, 0, none⟩), undef, u 11, undef, undef, undef, undef, undef, undef, undef,
      .pointer (some ⟨b, 0, none⟩), .slice c.FA c.n c.fc, .int .i64 c.n, .slice (some ⟨b + 2, 0, none⟩) c.n c.n, .func (.func 75) #[] #[.pointer (some ⟨b + 3, 0, none⟩)], .slice KA kn kc, .int .i64 kn, .int .i64 i, u 27, u 28, u 29, u 30, u 31, u 32, u 33, undef, undef, undef, undef, undef, u 39,
      undef, undef, undef, undef, undef, undef, undef, undef, undef, undef, undef, undef, undef, undef, undef, undef, undef, undef, undef, undef, undef, undef], defers := Ds.map mkM }

def uA (u : Nat → Value) (v i kb koff s b : Nat) (c : Dc) (j : Nat) : Value :=
  if j = 11 then .int .i64 v else if j = 27 then .bool true else if j = 28 then .pointer (some ⟨kb, koff + i, none⟩) else if j = 29 then .int .i64 v else if j = 30 then aggG c else if j = 31 then .int .i64 v
  else if j = 32 then .func (.func 75) #[] #[.pointer (some ⟨b + 3, 0, none⟩)] else if j = 33 then .func (.func 87) #[] #[.pointer (some ⟨s + 2, 0, none⟩), .pointer (some ⟨s, 0, none⟩), .pointer (some ⟨s + 1, 0, none⟩)] else u j
/-- The walk stops here. -/
def StopW (p : Prop) : Prop := p
theorem stopW {p : Prop} (h : StopW p) : p := h
/-- What is seen so far. -/
structure SeenA (n : Nat) (adj : Nat → List Nat) (sl : List Bool) (O keep : List Nat) (i : Nat) : Prop where
  nd : O.Nodup
  part : ∀ u, u < n → whOf true sl u = true ∨ u ∈ O
  dis : ∀ u, whOf true sl u = true → u ∉ O
  lt : ∀ u ∈ O, u < n
  closed : ∀ x ∈ O, ∀ t ∈ adj x, whOf true sl t = false
  ord : Order adj (fun _ => False) O
  from_ : ∀ u ∈ O, ∃ v ∈ keep, Rch adj v u
  got : ∀ v ∈ keep.take i, whOf true sl v = false
theorem SeenA.step {n i v : Nat} {adj : Nat → List Nat} {sl sl' : List Bool} {O keep xs : List Nat} (h : SeenA n adj sl O keep i) (hsl : sl.length = n) (hv : keep[i]? = some v) (ho : Over adj v (whOf true sl) (whOf true sl') xs) (hord : (∀ u, u < n → whOf true sl u = true ∨ u ∈ O) → Order adj (fun _ => False) O → Order adj (fun _ => False) (O ++ xs)) : SeenA n adj sl' (O ++ xs) keep (i + 1) := by
  have hw : ∀ u, whOf true sl u = false → whOf true sl' u = false := fun u hu => by
    cases h' : whOf true sl' u with
    | false => rfl
    | true => have := (ho.part u).2 (.inl h'); rw [hu] at this; cases this
  have hxs : ∀ u ∈ xs, whOf true sl u = true := fun u hu => (ho.part u).2 (.inr hu)
  refine ⟨List.nodup_append.2 ⟨h.nd, ho.nd, fun x hx y hy e => ?_⟩, fun u hu => ?_, fun u hu hm => ?_, fun u hu => ?_, fun x hx t ht => ?_, hord h.part h.ord, fun u hu => ?_, fun w hw' => ?_⟩
  · subst e
    exact h.dis x (hxs x hy) hx
  · rcases h.part u hu with e | e
    · rcases (ho.part u).1 e with e | e
      · exact .inl e
      · exact .inr (List.mem_append_right _ e)
    · exact .inr (List.mem_append_left _ e)
  · rcases List.mem_append.1 hm with e | e
    · exact h.dis u ((ho.part u).2 (.inl hu)) e
    · exact ho.dis u hu e
  · rcases List.mem_append.1 hu with e | e
    · exact h.lt u e
    · have := wh_lt (hxs u e); omega
  · rcases List.mem_append.1 hx with e | e
    · exact hw t (h.closed x e t ht)
    · exact ho.closed x e t ht
  · rcases List.mem_append.1 hu with e | e
    · exact h.from_ u e
    · exact ⟨v, List.mem_of_getElem? hv, ho.from_ u e⟩
  · rw [List.take_add_one, hv] at hw'
    rcases List.mem_append.1 hw' with e | e
    · exact hw w (h.got w e)
    · simp at e
      rw [e]
      exact ho.root
theorem seenA_start {n : Nat} {adj : Nat → List Nat} {keep : List Nat} : SeenA n adj (List.replicate n false) [] keep 0 :=
  ⟨List.nodup_nil, fun u hu => .inl (by rw [whOf_at (b := false) (by simp [hu])]; rfl), fun u _ h => (by cases h), fun u h => (by cases h), fun u h => (by cases h), fun u h => (by cases h), fun u h => (by cases h), fun u h => (by simp at h)⟩
def cellsG (c : Dc) : Array Value := #[.slice c.FA c.n c.fc, .slice c.NA c.ln c.nc, .slice c.TA c.ln c.tc]
/-- The world in the first loop. -/
structure StA (c d : Dc) (R : Nat → List Nat) (keep : List Nat) (W : World) (i : Nat) (Ds : List Nat) (V : Option Addr) (k cc : Nat) (sl : List Bool) (O : List Nat) (wr : World) : Prop where
  mv : Mv (gB c) W wr
  on : wr.heap[W.heap.size]? = some (.cells (cellsG c) 97 (0, 0))
  bk : wr.heap[W.heap.size + 1]? = some (.cells (cellsG d) 97 (0, 0))
  sx : wr.cell? ⟨W.heap.size + 3, 0, none⟩ = some (.slice (some ⟨W.heap.size + 2, 0, none⟩) c.n c.n)
  gr : Gr c wr
  arr : ArrB wr (W.heap.size + 2) sl
  len : sl.length = c.n
  oi : Oi wr (W.heap.size + 4) (W.heap.size + 5) V k cc O
  base : W.heap.size + 5 ≤ wr.heap.size
  nd : Ds.Nodup
  ds : ∀ D ∈ Ds, W.heap.size + 5 ≤ D ∧ wr.heap[D]? = some (.deferred (some []))
  seen : SeenA c.n (adjG c R) sl O keep i
/-- A graph in hand, behind reached's own boxes. -/
def cA (c : Dc) (b s : Nat) : Dc := { c with ab := s, ob := s + 2, sbx := b + 3, sb := b + 2 }

theorem Oi.rs {W : World} {ox base k c m : Nat} {V : Option Addr} {O : List (Fin m)} (h : Oi W ox base V k c (O.map Fin.val)) : Rs W V k (ints2 O) := by
  have hl := h.len
  rw [List.length_map] at hl
  refine ⟨by simpa [ints2] using hl, fun hp => ?_⟩
  rcases h.own.2 with ⟨h', h0⟩ | ⟨g, cap, cur, h', _⟩
  · exact absurd h0 (by omega)
  · cases h'
    refine ⟨g, 0, rfl, fun j hj => ?_⟩
    have hj' : j < O.length := by omega
    have := h.own.cells (g := g) rfl j (.int .i64 ((ints2 O)[j]?.getD 0)) (by simp [ints2, List.getElem?_eq_getElem hj'])
    rwa [Addr.add_lit] at this
theorem own_lt_bk {w : World} {base e size n k c : Nat} {V : Option Addr} {xs : List Value} (h : w.ownsRow base e size (.slice V k c) n xs) {j : Nat} (hj : Bk V j) : base ≤ j ∧ j < w.heap.size := by
  obtain ⟨off, hj⟩ := hj
  rcases h.2 with ⟨h', _⟩ | ⟨g, cap, cur, h', _⟩
  · rw [hj] at h'; cases h'
  · refine h.lt j ?_
    rw [hj] at h' ⊢
    cases h'
    rfl
theorem own_mono {w : World} {base base' e size n : Nat} {v : Value} {xs : List Value} (h : w.ownsRow base e size v n xs) (hb : base' ≤ base) : w.ownsRow base' e size v n xs := by
  refine ⟨h.1, ?_⟩
  rcases h.2 with h2 | ⟨g, cap, cur, e1, e2, rest⟩
  · exact .inl h2
  · exact .inr ⟨g, cap, cur, e1, Nat.le_trans hb e2, rest⟩
theorem own_obj {w : World} {base e size n : Nat} {v : Value} {xs : List Value} (h : w.ownsRow base e size v n xs) {x : Nat} (hx : v.ownBlock = some x) : ∃ cur, w.heap[x]? = some (.cells cur e (0, 0)) := by
  rcases h.2 with ⟨rfl, _⟩ | ⟨g, cap, cur, rfl, _, hg, _⟩
  · cases hx
  · cases hx; exact ⟨cur, hg⟩
theorem row_other {w : World} {base e e' size n k c g : Nat} {V : Option Addr} {xs : List Value} {cur : Array Value} (hg : w.heap[g]? = some (.cells cur e' (0, 0))) (h : w.ownsRow base e size (.slice V k c) n xs) (hne : e ≠ e') : ¬ Bk V g := by
  rintro ⟨off, hj⟩
  rcases h.2 with ⟨h', _⟩ | ⟨g', cap, cur', h', _, hg', _⟩
  · rw [hj] at h'; cases h'
  · rw [hj] at h'
    cases h'
    rw [hg] at hg'
    cases hg'
    exact hne rfl
theorem al4 (w : World) (o1 o2 o3 o4 : Obj) : ∃ w4, w4 = (((w.alloc o1).alloc o2).alloc o3).alloc o4 ∧ w4.heap.size = w.heap.size + 4 ∧ w4.heap[w.heap.size]? = some o1 ∧ w4.heap[w.heap.size + 1]? = some o2 ∧ w4.heap[w.heap.size + 2]? = some o3 ∧ w4.heap[w.heap.size + 3]? = some o4 ∧ Bel w w4 := by
  refine ⟨_, rfl, by simp, ?_, ?_, ?_, ?_, ((((Bel.refl w).alloc _).alloc _).alloc _).alloc _⟩
  · exact ((((Bel.refl _).alloc o2).alloc o3).alloc o4).blk (World.alloc_heap_new w o1)
  · have := (((Bel.refl _).alloc o3).alloc o4).blk (World.alloc_heap_new (w.alloc o1) o2)
    rwa [World.size_alloc] at this
  · have := ((Bel.refl _).alloc o4).blk (World.alloc_heap_new ((w.alloc o1).alloc o2) o3)
    rwa [World.size_alloc, World.size_alloc] at this
  · have := World.alloc_heap_new (((w.alloc o1).alloc o2).alloc o3) o4
    rwa [World.size_alloc, World.size_alloc, World.size_alloc] at this
theorem parted_step {adj adjB : Nat → List Nat} {O p q ys : List Nat} {wh wh' : Nat → Bool} {L : List (List Nat)} {v : Nat} (h : Parted adj O wh L) (hO : ∀ x ∈ O, ∀ t ∈ adj x, t ∈ O) (hnd : O.Nodup) (hord : Order adj (fun _ => False) O)
    (hB : ∀ u w, w ∈ adjB u ↔ u ∈ adj w) (he : O = p ++ v :: q) (hq : ∀ u ∈ q, wh u = false) (hov : Over adjB v wh wh' ys) : (ys = [] → Parted adj O wh' L) ∧ (ys ≠ [] → Parted adj O wh' (L ++ [ys])) ∧ ∀ u, u = v ∨ u ∈ q → wh' u = false := by
  have hw : ∀ u, wh u = false → wh' u = false := fun u hu => by
    cases h' : wh' u with
    | false => rfl
    | true => have := (hov.part u).2 (.inl h'); rw [hu] at this; cases this
  refine ⟨fun hy => ?_, fun hy => ?_, fun u hu => ?_⟩
  · subst hy
    have : wh' = wh := funext fun u => by
      cases hu : wh u with
      | false => exact hw u hu
      | true =>
        rcases (hov.part u).1 hu with e | e
        · exact e
        · cases e
    rw [this]
    exact h
  · cases hwv : wh v with
    | true => exact parted_ring h hO hnd hord hB he hq hov hwv
    | false =>
      exfalso
      obtain ⟨u, hu⟩ := List.exists_mem_of_ne_nil ys hy
      have hwu : wh u = true := (hov.part u).2 (.inr hu)
      have back : ∀ {a b : Nat}, Rch adjB a b → Rch adj b a := by
        intro a b hr
        induction hr with
        | refl => exact .refl _
        | step h1 _ ih => exact ih.snoc ((hB _ _).1 h1)
      have := parted_back h hO (back (hov.from_ u hu)) (h.inO u hwu) hwv
      rw [hwu] at this
      cases this
  · rcases hu with rfl | hu
    · exact hov.root
    · exact hw u (hq u hu)
theorem seen_wh {n i : Nat} {adj : Nat → List Nat} {sl : List Bool} {O keep : List Nat} (h : SeenA n adj sl O keep i) (hsl : sl.length = n) (u : Nat) : whOf false sl u = true ↔ u ∈ O := by
  cases hu : sl[u]? with
  | none =>
    have hn : n ≤ u := by rw [← hsl]; exact List.getElem?_eq_none_iff.1 hu
    constructor
    · intro e; unfold whOf at e; rw [hu] at e; cases e
    · intro e; have := h.lt u e; omega
  | some x =>
    have hn : u < n := by rw [← hsl]; exact (List.getElem?_eq_some_iff.1 hu).1
    rw [whOf_at hu]
    have hp := h.part u hn
    have hd := h.dis u
    rw [whOf_at hu] at hp hd
    cases x
    · refine ⟨fun e => (by cases e), fun e => ?_⟩
      exact absurd e (hd rfl)
    · refine ⟨fun _ => ?_, fun _ => rfl⟩
      rcases hp with e | e
      · cases e
      · exact e
theorem seen_closed {n i : Nat} {adj : Nat → List Nat} {sl : List Bool} {O keep : List Nat} (h : SeenA n adj sl O keep i) (hlt : ∀ x, x < n → ∀ t ∈ adj x, t < n) : ∀ x ∈ O, ∀ t ∈ adj x, t ∈ O := fun x hx t ht => by
  rcases h.part t (hlt x (h.lt x hx) t ht) with e | e
  · rw [h.closed x hx t ht] at e; cases e
  · exact e
theorem backN_here {m : Nat} {O : List (Fin m)} {pre : List (Fin m × Nat)} {x : Fin m} {q : Nat} (h : pre ++ [(x, q)] = backN O (pre.length + 1)) (hl : pre.length < O.length) : pre = backN O pre.length ∧ q = O.length - 1 - pre.length ∧ ∃ hq : q < O.length, x = O[q] := by
  have hq : O.length - 1 - pre.length < O.length := by omega
  rw [backN_succ O hl rfl hq] at h
  obtain ⟨h1, h2⟩ := List.append_inj' h rfl
  simp only [List.cons.injEq, Prod.mk.injEq, and_true] at h2
  obtain ⟨h2, h3⟩ := h2
  subst h3
  exact ⟨h1, rfl, hq, h2⟩
/-- What the second loop owns. -/
def YB (b s : Nat) (d : Dc) (U : Option Addr) (vals : List Value) (j : Nat) : Prop := j = b + 1 ∨ j = b + 2 ∨ j = b + 3 ∨ j = s ∨ j = s + 1 ∨ gB d j ∨ Bk U j ∨ ∃ v ∈ vals, v.ownBlock = some j
/-- A list of lists, of the call's own. -/
structure LL (base : Nat) (U : Option Addr) (m mc : Nat) (vals : List Value) (L : List (List Nat)) (W : World) : Prop where
  own : W.ownsRow base 22 1 (.slice U m mc) m vals
  lls : vals.length = L.length
  row : ∀ (i : Nat) (v : Value), vals[i]? = some v → ∃ (r : List Nat) (A : Option Addr) (c : Nat), L[i]? = some r ∧ v = .slice A r.length c ∧ W.ownsRow base 3 1 v r.length (r.map fun (x : Nat) => Value.int .i64 (x : Int))
theorem LL.keep {base m mc : Nat} {U : Option Addr} {vals : List Value} {L : List (List Nat)} {W W' : World} (h : LL base U m mc vals L W) (hk : ∀ j, (Bk U j ∨ ∃ v ∈ vals, v.ownBlock = some j) → W'.heap[j]? = W.heap[j]?) : LL base U m mc vals L W' :=
  ⟨own_blk h.own (fun x hx => hk x (.inl (own_bk h.own hx))), h.lls, fun i v hv => by
    obtain ⟨r, A, c, e1, e2, e3⟩ := h.row i v hv
    exact ⟨r, A, c, e1, e2, own_blk e3 (fun x hx => hk x (.inr ⟨v, List.mem_of_getElem? hv, hx⟩))⟩⟩
theorem LL.lt {base m mc : Nat} {U : Option Addr} {vals : List Value} {L : List (List Nat)} {W : World} (h : LL base U m mc vals L W) (j : Nat) (hj : Bk U j ∨ ∃ v ∈ vals, v.ownBlock = some j) : base ≤ j ∧ j < W.heap.size := by
  rcases hj with hj | ⟨v, hv, hj⟩
  · exact own_lt_bk h.own hj
  · obtain ⟨i, hi⟩ := List.getElem?_of_mem hv
    obtain ⟨r, A, c, e1, e2, e3⟩ := h.row i v hi
    exact e3.lt j hj
/-- The world in the second loop. -/
structure StB (d : Dc) (n b s : Nat) (U : Option Addr) (m mc : Nat) (vals : List Value) (sl : List Bool) (L : List (List Nat)) (W : World) : Prop where
  bk : W.heap[b + 1]? = some (.cells (cellsG d) 97 (0, 0))
  fx : W.heap[s]? = some (.cells #[.func (.func 77) #[] #[.pointer (some ⟨b + 3, 0, none⟩)]] 95 (0, 0))
  sx : W.cell? ⟨b + 3, 0, none⟩ = some (.slice (some ⟨b + 2, 0, none⟩) n n)
  gr : Gr d W
  arr : ArrB W (b + 2) sl
  len : sl.length = n
  box : W.heap[s + 1]? = some (.cells #[.slice U m mc] 104 (0, 0))
  ne : (Value.slice U m mc).ownBlock ≠ some (s + 1)
  ll : LL s U m mc vals L W
theorem StB.keep {d : Dc} {n b s m mc : Nat} {U : Option Addr} {vals : List Value} {sl : List Bool} {L : List (List Nat)} {W W' : World} (h : StB d n b s U m mc vals sl L W) (hk : ∀ j, YB b s d U vals j → W'.heap[j]? = W.heap[j]?) : StB d n b s U m mc vals sl L W' :=
  ⟨(hk _ (.inl rfl)).trans h.bk, (hk _ (.inr (.inr (.inr (.inl rfl))))).trans h.fx, (World.cell?_of_block (a := ⟨b + 3, 0, none⟩) (hk _ (.inr (.inr (.inl rfl))))).trans h.sx, h.gr.keep fun j hj => hk j (.inr (.inr (.inr (.inr (.inr (.inl hj)))))), by unfold ArrB; rw [hk _ (.inr (.inl rfl))]; exact h.arr, h.len, (hk _ (.inr (.inr (.inr (.inr (.inl rfl)))))).trans h.box, h.ne, h.ll.keep fun j hj => hk j (.inr (.inr (.inr (.inr (.inr (.inr hj))))))⟩
def actB (c d : Dc) (KA : Option Addr) (kn kc b s : Nat) (V : Option Addr) (k cc : Nat) (u : Nat → Value) (Ds : List Nat) : Act :=
  { tmps := #[aggG c, aggG d, .slice KA kn kc, .pointer (some ⟨b, 0, none⟩), .pointer (some ⟨b + 1, 0, none⟩), undef, .slice none 0 0, .pointer (some ⟨b + 3, 0, none⟩), .func (.func 75) #[] #[.pointer (some ⟨b + 3, 0, none⟩)], .pointer (some ⟨b + 4, 0, none⟩), undef, u 11, undef, .pointer (some ⟨s, 0, none⟩), .pointer (some ⟨s + 1, 0, none⟩), undef, undef, undef, undef,
      .pointer (some ⟨b, 0, none⟩), .slice c.FA c.n c.fc, .int .i64 c.n, .slice (some ⟨b + 2, 0, none⟩) c.n c.n, .func (.func 75) #[] #[.pointer (some ⟨b + 3, 0, none⟩)], .slice KA kn kc, .int .i64 kn, .int .i64 kn, .bool false, u 28, u 29, u 30, u 31, u 32, u 33, undef, undef, undef, undef, undef, u 39,
      .func (.func 77) #[] #[.pointer (some ⟨b + 3, 0, none⟩)], .slice V k cc, .func (.func 89) #[] #[.pointer (some ⟨s + 2, 0, none⟩)], undef, undef, undef, undef, undef, undef, undef, undef, undef, undef, undef, undef, undef, undef, undef, undef, undef, undef, undef], defers := Ds.map mkM }

def actC (c d : Dc) (KA : Option Addr) (kn kc b s : Nat) (V : Option Addr) (k cc : Nat) (u : Nat → Value) (x qx t y : Nat) : Act :=
  { tmps := #[aggG c, aggG d, .slice KA kn kc, .pointer (some ⟨b, 0, none⟩), .pointer (some ⟨b + 1, 0, none⟩), undef, .slice none 0 0, .pointer (some ⟨b + 3, 0, none⟩), .func (.func 75) #[] #[.pointer (some ⟨b + 3, 0, none⟩)], .pointer (some ⟨b + 4, 0, none⟩), undef, u 11, undef, .pointer (some ⟨s, 0, none⟩), .pointer (some ⟨s + 1, 0, none⟩), undef, .int .i64 x, .pointer (some ⟨t, 0, none⟩), .int .i64 y,
      .pointer (some ⟨b, 0, none⟩), .slice c.FA c.n c.fc, .int .i64 c.n, .slice (some ⟨b + 2, 0, none⟩) c.n c.n, .func (.func 75) #[] #[.pointer (some ⟨b + 3, 0, none⟩)], .slice KA kn kc, .int .i64 kn, .int .i64 kn, .bool false, u 28, u 29, u 30, u 31, u 32, u 33, undef, undef, undef, undef, undef, u 39,
      .func (.func 77) #[] #[.pointer (some ⟨b + 3, 0, none⟩)], .slice V k cc, .func (.func 89) #[] #[.pointer (some ⟨s + 2, 0, none⟩)], .int .i64 qx, .int .i64 x, aggG d, .int .i64 x, .func (.func 77) #[] #[.pointer (some ⟨b + 3, 0, none⟩)], .func (.func 87) #[] #[.pointer (some ⟨t + 3, 0, none⟩), .pointer (some ⟨t + 1, 0, none⟩), .pointer (some ⟨t + 2, 0, none⟩)], .int .i64 y,
      undef, undef, undef, undef, undef, undef, undef, undef, undef, undef, undef, undef], defers := [] }

/-- What rings tells. -/
def RingsPost (c d : Dc) (R : Nat → List Nat) (keep : List Nat) (W : World) (e : Ending) (w' : World) : Prop :=
  ∃ U m mc vals L O s, e = .returned (.slice U m mc) ∧ Mv (fun j => gB c j ∨ gB d j) W w' ∧ Gr c w' ∧ Gr d w' ∧ W.heap.size ≤ s ∧ LL s U m mc vals L w' ∧ m ≤ c.n ∧ Parted (adjG c R) O (fun _ => false) L ∧ (∀ v ∈ keep, v ∈ O) ∧ (∀ u ∈ O, u < c.n) ∧ ∀ x ∈ O, ∀ t ∈ adjG c R x, t ∈ O

set_option maxRecDepth 100000 in
set_option maxHeartbeats 1000000 in
theorem rings_any (c d : Dc) (R S : Nat → List Nat) (hG : Grf c R) (hH : Grf d S) (hdn : d.n = c.n) (hn : c.n ≤ 1048576) (hcl : c.ln ≤ 1048576) (hdl : d.ln ≤ 1048576) (KA : Option Addr) (kn kc : Nat) (keep : List Nat) (hkn : kn ≤ 1048576) (hkeep : ∀ v ∈ keep, v < c.n) (W : World) (hc : Gr c W) (hd : Gr d W) (hK : Rs W KA kn (keep.map fun (x : Nat) => (x : Int)))
    (hlt : ∀ j, gB c j ∨ gB d j ∨ (0 < kn ∧ Bk KA j) → j < W.heap.size) (hBF : ∀ u w, w ∈ adjG d S u ↔ u ∈ adjG c R w) (hcd : ∀ j, gB c j → ¬ gB d j) (hck : ∀ j, gB c j → ¬ (0 < kn ∧ Bk KA j)) :
    Calls Try.prog 56 #[aggG c, aggG d, .slice KA kn kc] W (RingsPost c d R keep W) := by
  have HG := Lib.hid hG
  have HH := Lib.hid hH
  have HKEEP := Lib.hid hkeep
  have HC := Lib.hid hc
  have HD := Lib.hid hd
  have HK := Lib.hid hK
  have HLT := Lib.hid hlt
  have HCD := Lib.hid hcd
  have HCK := Lib.hid hck
  have hmk := mk_bool c.n hn
  have HKL : Hid (kn = keep.length) := Lib.hid (by have := hK.1; simpa using this)
  have HDN := Lib.hid hdn
  have HBF := Lib.hid hBF
  have HCL : Hid (∀ x, x < c.n → ∀ t ∈ adjG c R x, t < c.n) := Lib.hid (fun x hx t ht => adj_lt hG hx ht)
  clear hG hH hkeep hc hd hK hlt hcd hck hdn hBF
  refine (callsIn_wide (n := 6)).1 ?_
  refine callsIn_of_wp_marks Try.func56 rfl trivial ?_ rfl
  refine wpIn_wide.2 ?_
  simp only [Try.ntmps56, List.size_toArray, List.length_cons, List.length_nil, Nat.reduceAdd, Nat.reduceSub, Array.replicate_succ, Array.replicate_zero, List.push_toArray, List.append_toArray, List.nil_append, List.cons_append, aggG]
  go_wp2_with fail
  clear hmk
  refine wp_loop (fun a wr => ∃ (i : Nat) (u : Nat → Value) (Ds : List Nat), a = actA c d KA kn kc W.heap.size i u Ds ∧ i ≤ kn ∧ ∃ V k cc sl O, Hid (StA c d R keep W i Ds V k cc sl O wr)) (fun a _ => kn - (intOf (a.tmps[26]?.getD undef)).toNat) ?_ ?_
  · refine ⟨0, fun _ => undef, [], rfl, Nat.zero_le _, none, 0, 0, List.replicate c.n false, [], Lib.hid ?_⟩
    have hb5 : Bel W (((((W.alloc (.cells (cellsG c) 97)).alloc (.cells (cellsG d) 97)).alloc (.cells (madeCells #[Value.bool false] c.n) 4)).alloc (.cells #[.slice (some ⟨W.heap.size + 1 + 1, 0, none⟩) c.n c.n] 129)).alloc (.cells #[.slice none 0 0] 22)) := ((((((Bel.refl W).alloc _).alloc _).alloc _).alloc _).alloc _)
    refine ⟨.of_bel hb5, ?_, ?_, ?_, HC.out.keep fun j hj => hb5.block j (HLT.out j (.inl hj)), ?_, by simp, ⟨?_, World.ownsRow_nil _ _ _ _, fun e => (by cases e)⟩, by simp, List.nodup_nil, fun D hD => (by cases hD), seenA_start⟩
    · exact (((((Bel.refl _).alloc _).alloc _).alloc _).alloc _).blk (blk1 W _)
    · have := ((((Bel.refl _).alloc (.cells (madeCells #[Value.bool false] c.n) 4)).alloc (.cells #[.slice (some ⟨W.heap.size + 1 + 1, 0, none⟩) c.n c.n] 129)).alloc (.cells #[.slice none 0 0] 22)).blk (blk1 (W.alloc (.cells (cellsG c) 97)) (.cells (cellsG d) 97))
      rwa [World.size_alloc] at this
    · have := cell1_ (((Bel.refl _).alloc (.cells #[.slice none 0 0] 22)).blk (blk1 (((W.alloc (.cells (cellsG c) 97)).alloc (.cells (cellsG d) 97)).alloc (.cells (madeCells #[Value.bool false] c.n) 4)) (.cells #[.slice (some ⟨W.heap.size + 1 + 1, 0, none⟩) c.n c.n] 129)))
      rwa [World.size_alloc, World.size_alloc, World.size_alloc] at this
    · have h := ArrB.made ((W.alloc (.cells (cellsG c) 97)).alloc (.cells (cellsG d) 97)) c.n
      have := (((Bel.refl _).alloc (.cells #[.slice (some ⟨W.heap.size + 1 + 1, 0, none⟩) c.n c.n] 129)).alloc (.cells #[.slice none 0 0] 22)).blk h
      rwa [World.size_alloc, World.size_alloc] at this
    · have := blk1 ((((W.alloc (.cells (cellsG c) 97)).alloc (.cells (cellsG d) 97)).alloc (.cells (madeCells #[Value.bool false] c.n) 4)).alloc (.cells #[.slice (some ⟨W.heap.size + 1 + 1, 0, none⟩) c.n c.n] 129)) (.cells #[.slice none 0 0] 22)
      rwa [World.size_alloc, World.size_alloc, World.size_alloc, World.size_alloc] at this
  · rintro a wr ⟨i, u, Ds, rfl, hi, V, k, cc, sl, O, HS⟩
    obtain ⟨b, hb⟩ : ∃ b, b = W.heap.size := ⟨_, rfl⟩
    have HBB := Lib.hid hb
    rw [← hb]
    have q3 : wr.heap[b]? = some (.cells #[.slice c.FA c.n c.fc, .slice c.NA c.ln c.nc, .slice c.TA c.ln c.tc] 97 (0, 0)) := by rw [hb]; exact HS.out.on
    clear hb
    obtain ⟨e0, e1, e2, _, _, _⟩ := cells3 q3
    by_cases hlt : i < kn
    · obtain ⟨kb, koff, eK, kcs⟩ := HK.out.2 (by omega)
      obtain ⟨v, hv⟩ : ∃ v, keep[i]? = some v := ⟨keep[i]'(by rw [← HKL.out]; exact hlt), by simp⟩
      have k0 := (World.cell?_of_block (a := ⟨kb, koff + i, none⟩) (HS.out.mv.block kb (HLT.out kb (.inr (.inr ⟨by omega, koff, eK⟩))) (fun hg => HCK.out kb hg ⟨by omega, koff, eK⟩))).trans (kcs i hlt)
      rw [show ((keep.map fun (x : Nat) => (x : Int))[i]?.getD 0) = (v : Int) by simp [hv]] at k0
      have i1 : (0 : Int) ≤ (i : Int) := by omega
      have i2 : (i : Int) < (kn : Int) := by omega
      have HV := Lib.hid hv
      have HQ3 := Lib.hid q3
      clear kcs hv q3
      subst eK
      simp only [actA]
      go_wp2_with fail
      refine (reached_any c.FA c.NA c.TA c.n c.fc c.ln c.nc c.tc v 75 #[.pointer (some ⟨b + 3, 0, none⟩)] wr).mono ?_
      rintro e W1 ⟨rfl, hw1⟩
      go_wp2_with fail
      have hbs : b + 5 ≤ wr.heap.size := by
        rw [HBB.out]
        exact HS.out.base
      have hb1 := ((Bel.refl wr).alloc (.cells (cellsG c) 97)).alloc (.cells #[.int .i64 v] 3)
      have hb3 := hb1.alloc (.cells #[.func (.func 75) #[] #[.pointer (some ⟨b + 3, 0, none⟩)]] 95)
      have HA : Hid (((((wr.alloc (.cells (cellsG c) 97)).alloc (.cells #[.int .i64 v] 3)).alloc (.cells #[.func (.func 75) #[] #[.pointer (some ⟨b + 3, 0, none⟩)]] 95)).heap.size = wr.heap.size + 3) ∧ (((wr.alloc (.cells (cellsG c) 97)).alloc (.cells #[.int .i64 v] 3)).alloc (.cells #[.func (.func 75) #[] #[.pointer (some ⟨b + 3, 0, none⟩)]] 95)).heap[wr.heap.size]? = some (.cells (cellsG c) 97 (0, 0)) ∧ (((wr.alloc (.cells (cellsG c) 97)).alloc (.cells #[.int .i64 v] 3)).alloc (.cells #[.func (.func 75) #[] #[.pointer (some ⟨b + 3, 0, none⟩)]] 95)).heap[wr.heap.size + 1]? = some (.cells #[.int .i64 v] 3 (0, 0)) ∧ (((wr.alloc (.cells (cellsG c) 97)).alloc (.cells #[.int .i64 v] 3)).alloc (.cells #[.func (.func 75) #[] #[.pointer (some ⟨b + 3, 0, none⟩)]] 95)).heap[wr.heap.size + 2]? = some (.cells #[.func (.func 75) #[] #[.pointer (some ⟨b + 3, 0, none⟩)]] 95 (0, 0))) := Lib.hid (by
        refine ⟨by simp, ?_, ?_, ?_⟩
        · exact ((Bel.refl _).alloc _).alloc _ |>.blk (blk1 wr _)
        · have := ((Bel.refl _).alloc (.cells #[.func (.func 75) #[] #[.pointer (some ⟨b + 3, 0, none⟩)]] 95)).blk (blk1 (wr.alloc (.cells (cellsG c) 97)) (.cells #[.int .i64 v] 3))
          rwa [World.size_alloc] at this
        · have := blk1 ((wr.alloc (.cells (cellsG c) 97)).alloc (.cells #[.int .i64 v] 3)) (.cells #[.func (.func 75) #[] #[.pointer (some ⟨b + 3, 0, none⟩)]] 95)
          rwa [World.size_alloc, World.size_alloc] at this)
      have HB3 := Lib.hid hb3
      clear hb1 hb3 i1 i2 k0 e0 e1 e2
      refine (wpIn_wide (n := 5)).1 ?_
      change Code.wpIn _ _ _ _ _ _ (((wr.alloc (.cells (cellsG c) 97)).alloc (.cells #[.int .i64 v] 3)).alloc (.cells #[.func (.func 75) #[] #[.pointer (some ⟨b + 3, 0, none⟩)]] 95))
      obtain ⟨w1, hw1⟩ : ∃ w1, w1 = ((wr.alloc (.cells (cellsG c) 97)).alloc (.cells #[.int .i64 v] 3)).alloc (.cells #[.func (.func 75) #[] #[.pointer (some ⟨b + 3, 0, none⟩)]] 95) := ⟨_, rfl⟩
      rw [← hw1] at HA HB3 ⊢
      clear hw1
      obtain ⟨s, hs⟩ : ∃ s, s = wr.heap.size := ⟨_, rfl⟩
      have HSZ := Lib.hid hs
      rw [← hs] at HA hbs ⊢
      clear hs
      have hvn : v < c.n := HKEEP.out v (List.mem_of_getElem? HV.out)
      -- the boxes behind
      have HWB : Hid (∀ j, wayB (b + 4) V j → b + 4 ≤ j ∧ j < s) := Lib.hid (by
        rintro j (rfl | hj)
        · omega
        · obtain ⟨off, hj⟩ := hj
          have := HS.out.oi.own.lt j (by rw [hj]; rcases HS.out.oi.own.2 with ⟨h, _⟩ | ⟨g, cap, cur, h, _⟩; (rw [hj] at h; cases h); (rw [hj] at h; cases h; rfl))
          rw [← HBB.out, ← HSZ.out] at this
          omega)
      have HGL : Hid (∀ j, gB c j → j < b) := Lib.hid (fun j hj => by rw [HBB.out]; exact HLT.out j (.inl hj))
      have HOI1 : Hid (Oi w1 (b + 4) (b + 5) V k cc O) := Lib.hid (by
        have h := HS.out.oi
        rw [← HBB.out] at h
        refine h.keep fun j hj => HB3.out.block j ?_
        have := HWB.out j hj
        rw [← HSZ.out]; omega)
      have hmine : ∀ j, (cA c b s).mine (s + 1) j → j < s + 3 ∧ ¬ wayB (b + 4) V j := by
        rintro j ((h | h | h | h | h | h) | h | h)
        all_goals first | (have := HGL.out j (by first | exact .inl h | exact .inr (.inl h) | exact .inr (.inr h)); exact ⟨by omega, fun hw => by have := HWB.out j hw; omega⟩) | ((try simp only [cA] at h); exact ⟨by omega, fun hw => by have := HWB.out j hw; omega⟩)
      have hsb : ¬ (cA c b s).reads (cA c b s).sb := by
        rintro (h | h | h | h | h | h)
        all_goals first | (have := HGL.out _ (by first | exact .inl h | exact .inr (.inl h) | exact .inr (.inr h)); simp only [cA] at this; omega) | ((try simp only [cA] at h); omega)
      have hop : Opens (cA c b s) 75 true := fun u' sl' W' hr ha hl hu => open1_any u' c.n (b + 2) (b + 3) sl' (sl'[u']'(by rw [hl]; exact hu)) W' hr.hx ha hl (by simp)
      have hG' : Grf (cA c b s) R := ⟨HG.out.chain, HG.out.tgt, HG.out.lenN⟩
      have hk1 : ∀ j, j < s → w1.heap[j]? = wr.heap[j]? := fun j hj => HB3.out.block j (by rw [← HSZ.out]; exact hj)
      have HRD : Hid (Rd (cA c b s) 75 w1 ∧ ArrB w1 (b + 2) sl) := Lib.hid (by
        obtain ⟨a0, a1, a2, _, _, _⟩ := cells3 (w := w1) (g := s) HA.out.2.1
        have hgr := HS.out.gr.keep (W' := w1) fun j hj => hk1 j (by have := HGL.out j hj; omega)
        have hsx := HS.out.sx
        have har := HS.out.arr
        rw [← HBB.out] at hsx har
        refine ⟨⟨a0, a1, a2, hgr.rf, hgr.rn, hgr.rt, cell1_ HA.out.2.2.2, (World.cell?_of_block (a := ⟨b + 3, 0, none⟩) (hk1 (b + 3) (by omega))).trans hsx⟩, ?_⟩
        unfold ArrB
        rw [hk1 (b + 2) (by omega)]
        exact har)
      refine range_outer (w := w1) (by omega) (gf := 87) (lb := #[.pointer (some ⟨s + 2, 0, none⟩), .pointer (some ⟨s, 0, none⟩), .pointer (some ⟨s + 1, 0, none⟩)]) rfl (enters_of Try.func87 (by kernel_rfl) rfl)
        (reached_seq (cA c b s) 75 (s + 1) v R true sl O hop (enters_of Try.func75 (by kernel_rfl) rfl) hG' hn hcl hvn HS.out.len hsb (by simp only [cA]; omega) HS.out.seen.closed HS.out.seen.lt _ (by omega))
        ?hok (fun j hj => by rw [HA.out.1]; exact (hmine j hj).1) (fun _ => rfl)
        (fun pre Y W' => ∃ V' k' c', Oi W' (b + 4) (b + 5) V' k' c' (O ++ pre) ∧ ∀ j, wayB (b + 4) V' j → Y j)
        ?hI (Y0 := wayB (b + 4) V) (fun j hj => ⟨by rw [HA.out.1]; have := HWB.out j hj; omega, fun hm => (hmine j hm).2 hj⟩) ?h0
        (fun x => { tmps := ((actA c d (some ⟨kb, koff, none⟩) kn kc b i (uA u v i kb koff s b c) Ds).tmps.setIfInBounds 34 (.int .i64 (x : Nat))).setIfInBounds 12 (.int .i64 (x : Nat)), defers := [] }) ?hassign ?hbody ?hS ?hdone
      case hok =>
        intro W' hb'
        have hk : ∀ j, (cA c b s).mine (s + 1) j → W'.heap[j]? = w1.heap[j]? := fun j hj => hb'.block j (by rw [HA.out.1]; exact (hmine j hj).1)
        exact ⟨HRD.out.1.keep fun j hj => hk j (.inl hj), by unfold ArrB; rw [hk _ (.inr (.inl rfl))]; exact HRD.out.2, cell1_ ((hk (s + 1) (.inr (.inr rfl))).trans HA.out.2.2.1), fun j hj => Nat.lt_of_lt_of_le (hmine j hj).1 (by rw [← HA.out.1]; exact hb'.size)⟩
      case hI =>
        rintro pre Y A B ⟨V', k', c', ho, hy⟩ _ hk
        exact ⟨V', k', c', ho.keep fun j hj => hk j (hy j hj), hy⟩
      case h0 =>
        exact ⟨V, k, cc, by rw [List.append_nil]; exact HOI1.out, fun j hj => hj⟩
      case hassign =>
        rintro l x W' K hK
        have HKK := Lib.hid hK
        clear hK
        simp only
        gi_wp2
        exact HKK.out

      case hbody =>
        rintro l pre x Y W' hl' ⟨r, hr⟩ hYl ⟨V', k', c', ho, hy⟩ hYs hlen
        have c0 := cell1_ ho.box
        have f0 := frz1_ ho.box
        have HO := Lib.hid ho
        have HY := Lib.hid hy
        have HYS := Lib.hid hYs
        have hkn' := ho.len
        have hol : O.length ≤ c.n := nd_len HS.out.seen.nd HS.out.seen.lt
        rw [List.length_append] at hkn'
        change pre.length < c.n at hlen
        have hsz : b + 5 ≤ W'.heap.size := by rw [HA.out.1] at hl'; omega
        have hkb : k' ≤ 4194304 := by omega
        clear ho hy hYs hr hkn' hol hlen
        simp only [actA]
        obtain ⟨i0, hi0, hz0, hz1, hz2⟩ := info_parts info_i64'
        gi_wp2_with (gi_at_builtin; refine stopW ?_)
        unfold StopW
        refine wpListIn_append_own_at _ rfl _ _ 22 rfl (b + 5) 3 i0 (.int .i64 0) 1 8 Try.underlying22 hi0 hz0 hz1 hz2 rfl (by decide) (.slice V' k' c') k' _ rfl (HO.out.own.alloc _) ⟨W'.heap.size, 0, none⟩ 1 1 [.int .i64 x] rfl rfl (fun j u hu => by rw [Addr.add_lit, Nat.zero_add]; exact one_cell_at _ _ _ j u hu) (by simp [Value.oneCell']) (by unfold maxLen; omega) (by omega) (by simp; omega) ?_; intro v' w5 hown5 hg5 _ hat5; obtain ⟨g5, c5, rfl⟩ := ownsRow_succ hown5; (have HO5 := Lib.hid hown5); (have HG5 := Lib.hid hg5); (have HA5 := Lib.hid hat5); clear hown5 hg5 hat5
        have hox : b + 4 < W'.heap.size := (Array.getElem?_eq_some_iff.1 HO.out.box).1
        have hbx : w5.heap[b + 4]? = some (.cells #[.slice V' k' c'] 22 (0, 0)) := blk_far HG5.out (((Bel.refl W').alloc _).blk HO.out.box) (fun e => HO.out.ne e.symm)
        have HBX := Lib.hid hbx
        have f5 := frz1_ hbx
        have d5 := cell1_ hbx
        clear c0 f0 hbx
        gi_wp2
        have hbo : Boxed w5 (b + 4) 22 (.slice V' k' c') := HBX.out
        refine ⟨(((Mv.refl Y W').alloc _).grown HG5.out (fun q hq => .inl (HY.out q (.inr (own_bk HO.out.own hq))))).set_ (.inl (HY.out (b + 4) (.inl rfl))) _, wayB (b + 4) (some ⟨g5, 0, none⟩), ⟨_, k' + 1, c5, ⟨hbo.set _, ?_, fun e => hbo.not_row (by decide) HO5.out e.symm⟩, fun j hj => hj⟩, ?_⟩
        · rw [← List.append_assoc, List.map_append]
          exact HO5.out.kept (grownBy_setCell' w5 (b + 4) _) (.inr (hbo.not_row (by decide) HO5.out).symm)
        · rintro j (rfl | ⟨off, hj⟩)
          · exact ⟨by have := hbo.lt; simpa using this, .inl (HY.out _ (.inl rfl))⟩
          · cases hj
            refine ⟨by have := (HO5.out.lt g5 rfl).2; simpa using this, ?_⟩
            rcases HA5.out with h | h
            · exact .inl (HY.out _ (.inr (own_bk HO.out.own h.symm)))
            · right
              have h2 : g5 = W'.heap.size + 1 := by simpa [Value.ownBlock] using h
              omega
      case hS =>
        rintro xs A B ⟨sl', a1, a2, a3, a4, a5⟩ _ hk
        exact ⟨sl', by unfold ArrB; rw [hk _ (by rw [HA.out.1]; exact (hmine _ (.inr (.inl rfl))).1)]; exact a1, a2, a3.keep fun j hj => hk j (by rw [HA.out.1]; exact (hmine j (.inl hj)).1), a4, a5⟩
      case hdone =>
        rintro D xs Y W' hD ⟨sl', a1, a2, a3, a4, a5⟩ ⟨V', k', c', ho, hy⟩ hmv hYs hdf hYD
        have hST : StA c d R keep W (i + 1) (D :: Ds) V' k' c' sl' (O ++ xs) W' := by
          have hz : ∀ j, (wayB (b + 4) V j ∨ (cA c b s).mine (s + 1) j) → gB c j ∨ b ≤ j := by
            rintro j (hj | (h | h | h | h | h | h) | h | h)
            · have := HWB.out j hj; exact .inr (by omega)
            all_goals first | exact .inl (.inl h) | exact .inl (.inr (.inl h)) | exact .inl (.inr (.inr h)) | ((try simp only [cA] at h); exact .inr (by omega))
          have hs1 : s + 3 ≤ W'.heap.size := by rw [← HA.out.1]; exact hmv.size
          have hkp : ∀ j, j < s → j ≠ b + 2 → j ≠ b + 3 → ¬ gB c j → ¬ wayB (b + 4) V j → W'.heap[j]? = wr.heap[j]? := fun j h1 h2 h3 h4 h5 => (hmv.block j (by rw [HA.out.1]; omega) (by
            rintro (hj | (h | h | h | h | h | h) | h | h)
            · exact h5 hj
            all_goals first | exact h4 (.inl h) | exact h4 (.inr (.inl h)) | exact h4 (.inr (.inr h)) | ((try simp only [cA] at h); omega))).trans (hk1 j h1)
          have hnb : ∀ j, b ≤ j → ¬ gB c j := fun j hj hg => by have := HGL.out j hg; omega
          have hnw : ∀ j, j < b + 4 → ¬ wayB (b + 4) V j := fun j hj hw => by have := HWB.out j hw; omega
          have hbE := HBB.out
          refine ⟨(HS.out.mv.trans (Mv.of_bel (Z := fun _ => False) HB3.out) (fun _ (f : False) => f.elim)).trans hmv (fun j hj => (hz j hj).imp id (fun h => by omega)), ?_, ?_, ?_, ⟨a3.rf, a3.rn, a3.rt⟩, ?_, a2, ?_, by omega, ?_, ?_, ?_⟩
          · rw [← hbE, hkp b (by omega) (by omega) (by omega) (hnb b (by omega)) (hnw b (by omega)), hbE]
            exact HS.out.on
          · rw [← hbE, hkp (b + 1) (by omega) (by omega) (by omega) (hnb _ (by omega)) (hnw _ (by omega)), hbE]
            exact HS.out.bk
          · rw [← hbE]; exact a3.hx
          · rw [← hbE]; exact a1
          · rw [← hbE]; exact ho
          · refine List.nodup_cons.2 ⟨fun hm => ?_, HS.out.nd⟩
            have h1 := (Array.getElem?_eq_some_iff.1 (HS.out.ds D hm).2).1
            rw [← HSZ.out] at h1
            rw [HA.out.1] at hD
            omega
          · intro E hE
            rcases List.mem_cons.1 hE with rfl | hE
            · rw [HA.out.1] at hD
              exact ⟨by omega, hdf⟩
            · obtain ⟨g1, g2⟩ := HS.out.ds E hE
              refine ⟨g1, ?_⟩
              rw [← hbE] at g1
              have h1 := (Array.getElem?_eq_some_iff.1 g2).1
              rw [← HSZ.out] at h1
              rw [hkp E h1 (by omega) (by omega) (hnb _ (by omega)) ?_]
              · exact g2
              · rintro (h | ⟨off, h⟩)
                · omega
                · rcases HS.out.oi.own.2 with ⟨h', _⟩ | ⟨g, cap, cur, h', _, hg, _⟩
                  · rw [h] at h'; cases h'
                  · rw [h] at h'
                    cases h'
                    rw [hg] at g2
                    cases g2
          · exact HS.out.seen.step HS.out.len HV.out a4 a5
        have HST := Lib.hid hST
        clear hST ho hy hmv hYs hdf hYD a1 a2 a3 a4 a5 hD
        (try dsimp only)
        go_wp2_with fail
        refine ⟨⟨i + 1, fun j => if j = 39 then .int .i64 ((i : Int) + 1) else uA u v i kb koff s b c j, D :: Ds, rfl, by omega, V', k', c', sl', O ++ xs, HST⟩, ?_⟩
        simp [intOf]
        omega
    · obtain rfl : i = kn := by omega
      obtain ⟨O', hO'⟩ : ∃ O' : List (Fin c.n), O = O'.map Fin.val := ⟨O.pmap (fun x h => ⟨x, h⟩) HS.out.seen.lt, by simp [List.map_pmap]⟩
      subst hO'
      have hoi := HS.out.oi
      have hba := HS.out.base
      rw [← HBB.out] at hoi hba
      have o0 := cell1_ hoi.box
      have HOI := Lib.hid hoi
      have HBA := Lib.hid hba
      have HQ3 := Lib.hid q3
      have ol : b + 4 < wr.heap.size := by omega
      clear q3 e0 e1 e2 hoi hba
      simp only [actA]
      go_wp2_with fail
      refine (backI_any V k cc _).mono ?_
      rintro e w3 ⟨rfl, rfl⟩
      go_wp2_with fail
      have hb3 : Bel wr (((wr.alloc (.cells #[.func (.func 77) #[] #[.pointer (some ⟨b + 3, 0, none⟩)]] 95)).alloc (.cells #[.slice none 0 0] 104)).alloc (.cells #[.slice V k cc] 22)) := (((Bel.refl wr).alloc _).alloc _).alloc _
      have HA : Hid ((((wr.alloc (.cells #[.func (.func 77) #[] #[.pointer (some ⟨b + 3, 0, none⟩)]] 95)).alloc (.cells #[.slice none 0 0] 104)).alloc (.cells #[.slice V k cc] 22)).heap.size = wr.heap.size + 3 ∧ (((wr.alloc (.cells #[.func (.func 77) #[] #[.pointer (some ⟨b + 3, 0, none⟩)]] 95)).alloc (.cells #[.slice none 0 0] 104)).alloc (.cells #[.slice V k cc] 22)).heap[wr.heap.size]? = some (.cells #[.func (.func 77) #[] #[.pointer (some ⟨b + 3, 0, none⟩)]] 95 (0, 0)) ∧ (((wr.alloc (.cells #[.func (.func 77) #[] #[.pointer (some ⟨b + 3, 0, none⟩)]] 95)).alloc (.cells #[.slice none 0 0] 104)).alloc (.cells #[.slice V k cc] 22)).heap[wr.heap.size + 1]? = some (.cells #[.slice none 0 0] 104 (0, 0)) ∧ (((wr.alloc (.cells #[.func (.func 77) #[] #[.pointer (some ⟨b + 3, 0, none⟩)]] 95)).alloc (.cells #[.slice none 0 0] 104)).alloc (.cells #[.slice V k cc] 22)).heap[wr.heap.size + 2]? = some (.cells #[.slice V k cc] 22 (0, 0))) := Lib.hid (by
        refine ⟨by simp, ?_, ?_, ?_⟩
        · exact (((Bel.refl _).alloc _).alloc _).blk (blk1 wr _)
        · have := ((Bel.refl _).alloc (.cells #[.slice V k cc] 22)).blk (blk1 (wr.alloc (.cells #[.func (.func 77) #[] #[.pointer (some ⟨b + 3, 0, none⟩)]] 95)) (.cells #[.slice none 0 0] 104))
          rwa [World.size_alloc] at this
        · have := blk1 ((wr.alloc (.cells #[.func (.func 77) #[] #[.pointer (some ⟨b + 3, 0, none⟩)]] 95)).alloc (.cells #[.slice none 0 0] 104)) (.cells #[.slice V k cc] 22)
          rwa [World.size_alloc, World.size_alloc] at this)
      have HB3 := Lib.hid hb3
      clear hb3 o0
      refine (wpIn_wide (n := 5)).1 ?_
      obtain ⟨w3, hw3⟩ : ∃ w3, w3 = ((wr.alloc (.cells #[.func (.func 77) #[] #[.pointer (some ⟨b + 3, 0, none⟩)]] 95)).alloc (.cells #[.slice none 0 0] 104)).alloc (.cells #[.slice V k cc] 22) := ⟨_, rfl⟩
      rw [← hw3] at HA HB3 ⊢
      clear hw3
      obtain ⟨s, hs⟩ : ∃ s, s = wr.heap.size := ⟨_, rfl⟩
      have HSZ := Lib.hid hs
      rw [← hs] at HA ⊢
      clear hs
      have hok5 := HOI.out.len
      rw [List.length_map] at hok5
      have hko : k ≤ c.n := by
        have := nd_len HS.out.seen.nd HS.out.seen.lt
        rw [List.length_map] at this
        omega
      have HWB : Hid (∀ j, Bk V j → b + 5 ≤ j ∧ j < s) := Lib.hid (by
        rintro j ⟨off, hj⟩
        have := HOI.out.own.lt j (by rw [hj]; rcases HOI.out.own.2 with ⟨h, _⟩ | ⟨g, cap, cur, h, _⟩; (rw [hj] at h; cases h); (rw [hj] at h; cases h; rfl))
        rw [← HSZ.out] at this
        exact this)
      have HGL : Hid (∀ j, gB c j ∨ gB d j → j < b) := Lib.hid (fun j hj => by rw [HBB.out]; exact HLT.out j (hj.imp id .inl))
      have hbs : b + 5 ≤ s := by rw [HSZ.out]; exact HBA.out
      have hk3 : ∀ j, j < s → w3.heap[j]? = wr.heap[j]? := fun j hj => HB3.out.block j (by rw [← HSZ.out]; exact hj)
      have hbE := HBB.out
      have HST : Hid (StB d c.n b s none 0 0 [] sl [] w3) := Lib.hid (by
        have h1 := HS.out.bk
        have h2 := HS.out.sx
        have h3 := HS.out.arr
        rw [← hbE] at h1 h2 h3
        refine ⟨(hk3 (b + 1) (by omega)).trans h1, HA.out.2.1, (World.cell?_of_block (a := ⟨b + 3, 0, none⟩) (hk3 (b + 3) (by omega))).trans h2, HD.out.keep fun j hj => ?_, ?_, HS.out.len, HA.out.2.2.1, fun e => (by cases e), ⟨World.ownsRow_nil _ _ _ _, rfl, fun i v h => (by simp at h)⟩⟩
        · have := HGL.out j (.inr hj)
          exact (hk3 j (by omega)).trans (HS.out.mv.block j (HLT.out j (.inr (.inl hj))) (fun hc => HCD.out j hc hj))
        · unfold ArrB
          rw [hk3 (b + 2) (by omega)]
          exact h3)
      have HOK := Lib.hid hok5
      clear hbE hk3 hok5
      refine range_outer (w := w3) (by omega) (gf := 89) (lb := #[.pointer (some ⟨s + 2, 0, none⟩)]) rfl (enters_of Try.func89 (by kernel_rfl) rfl)
        (backI_seq (s + 2) k cc V O' (by omega) _ (by omega)) ?hok (fun j hj => ?hmine) (fun _ => rfl)
        (fun pre Y W' => ∃ sl U m mc vals L, StB d c.n b s U m mc vals sl L W' ∧ (∀ j, YB b s d U vals j → Y j) ∧ m ≤ pre.length ∧ (pre = backN O' pre.length → Parted (adjG c R) (O'.map Fin.val) (whOf false sl) L ∧ ∀ j, O'.length ≤ j + pre.length → ∀ v, (O'.map Fin.val)[j]? = some v → whOf false sl v = false))
        ?hI (Y0 := YB b s d none []) (fun j hj => ?hY0) ?h0
        (fun x => { tmps := (((actB c d KA i kc b s V k cc u Ds).tmps.setIfInBounds 43 (.int .i64 (x.2 : Nat))).setIfInBounds 44 (.int .i64 (x.1.val : Nat))).setIfInBounds 16 (.int .i64 (x.1.val : Nat)), defers := [] }) ?hassign ?hbody (fun xs A B h _ _ => h) ?hdone
      case hok =>
        intro W' hb'
        refine ⟨hb'.blk HA.out.2.2.2, HOI.out.rs.keep fun j hj => ?_, fun j hj => ?_⟩
        · have h1 := HWB.out j hj
          exact (hb'.block j (by rw [HA.out.1]; omega)).trans (HB3.out.block j (by rw [← HSZ.out]; exact h1.2))
        · have h1 := HWB.out j hj
          have h2 := hb'.size
          rw [HA.out.1] at h2
          omega
      case hmine =>
        rw [HA.out.1]
        rcases hj with rfl | hj
        · omega
        · have := HWB.out j hj; omega
      case hI =>
        rintro pre Y A B ⟨sl, U, m, mc, vals, L, h1, h2, h3, h4⟩ _ hk
        exact ⟨sl, U, m, mc, vals, L, h1.keep fun j hj => hk j (h2 j hj), h2, h3, h4⟩
      case hY0 =>
        rw [HA.out.1]
        have hV : ∀ j, Bk V j → b + 5 ≤ j ∧ j < s := HWB.out
        rcases hj with rfl | rfl | rfl | rfl | rfl | hj | ⟨off, hj⟩ | ⟨v, hv, _⟩
        · exact ⟨by omega, by rintro (e | e); omega; have := hV _ e; omega⟩
        · exact ⟨by omega, by rintro (e | e); omega; have := hV _ e; omega⟩
        · exact ⟨by omega, by rintro (e | e); omega; have := hV _ e; omega⟩
        · exact ⟨by omega, by rintro (e | e); omega; have := hV _ e; omega⟩
        · exact ⟨by omega, by rintro (e | e); omega; have := hV _ e; omega⟩
        · have h1 := HGL.out j (.inr hj)
          exact ⟨by omega, by rintro (e | e); omega; have := hV _ e; omega⟩
        · cases hj
        · cases hv
      case h0 =>
        refine ⟨sl, none, 0, 0, [], [], HST.out, fun j hj => hj, Nat.le_refl _, fun _ => ⟨parted_start (seen_wh HS.out.seen HS.out.len), fun j hj v hv => ?_⟩⟩
        have := (List.getElem?_eq_some_iff.1 hv).1
        rw [List.length_map] at this
        simp at hj
        omega
      case hassign =>
        rintro l x W' K hK
        have HKK := Lib.hid hK
        clear hK
        simp only
        gi_wp2
        exact HKK.out
      case hbody =>
        rintro l pre ⟨x, qx⟩ Y W' hl' ⟨r0, hr0⟩ hYl ⟨sl, U, m, mc, vals, L, hB, hy, hm, hmath⟩ hYs hlen
        have HB := Lib.hid hB
        have HYY := Lib.hid hy
        have HMT := Lib.hid hmath
        have HYS := Lib.hid hYs
        have HR0 := Lib.hid hr0
        have p3 : W'.heap[b + 1]? = some (.cells #[.slice d.FA d.n d.fc, .slice d.NA d.ln d.nc, .slice d.TA d.ln d.tc] 97 (0, 0)) := hB.bk
        obtain ⟨e0, e1, e2, _, _, _⟩ := cells3 p3
        have g0 := cell1_ hB.fx
        have hsw : s + 3 ≤ W'.heap.size := by rw [← HA.out.1]; exact hl'
        have z1 : b + 1 < W'.heap.size := by omega
        have z2 : s < W'.heap.size := by omega
        clear hB hy hmath hYs hr0 p3
        simp only [actB]
        gi_wp2_with (refine ⟨trivial, ?_⟩; gi_at_call 76; refine (CallsIn.inRound l (callsIn_wide.2 (reached_any d.FA d.NA d.TA d.n d.fc d.ln d.nc d.tc x.val 77 #[.pointer (some ⟨b + 3, 0, none⟩)] _))).mono ?_; rintro e w4 ⟨rfl, rfl⟩)
        obtain ⟨w4, hw4, hz4, q1, q2, q3, q4, hb4⟩ := al4 W' (.cells #[.slice none 0 0] 22) (.cells #[.slice d.FA d.n d.fc, .slice d.NA d.ln d.nc, .slice d.TA d.ln d.tc] 97) (.cells #[.int .i64 ((x.val : Nat) : Int)] 3) (.cells #[.func (.func 77) #[] #[.pointer (some ⟨b + 3, 0, none⟩)]] 95)
        rw [← hw4]
        have HB4 := Lib.hid hb4
        have HQ := Lib.hid (And.intro q1 (And.intro q2 (And.intro q3 q4)))
        have HZ4 := Lib.hid hz4
        have HW4 := Lib.hid hw4
        clear hw4 q1 q2 q3 q4 hb4 e0 e1 e2 g0 hz4
        obtain ⟨t, ht⟩ : ∃ t, t = W'.heap.size := ⟨_, rfl⟩
        have HTT := Lib.hid ht
        rw [← ht] at HQ HZ4 hsw ⊢
        clear ht
        have hdn2 : x.val < d.n := by rw [HDN.out]; exact x.isLt
        have hsn : sl.length = d.n := by rw [HDN.out]; exact HB.out.len
        have HLL : Hid (∀ j, (Bk U j ∨ ∃ v ∈ vals, v.ownBlock = some j) → s ≤ j ∧ j < t) := Lib.hid (fun j hj => by rw [HTT.out]; exact HB.out.ll.lt j hj)
        have hmine2 : ∀ j, (cA d b (t + 1)).mine (t + 2) j → j < t + 4 ∧ j ≠ t ∧ (gB d j ∨ j = b + 2 ∨ j = b + 3 ∨ t < j) := by
          rintro j ((h | h | h | h | h | h) | h | h)
          all_goals first | (have := HGL.out j (.inr (by first | exact .inl h | exact .inr (.inl h) | exact .inr (.inr h))); exact ⟨by omega, by omega, .inl (by first | exact .inl h | exact .inr (.inl h) | exact .inr (.inr h))⟩) | ((try simp only [cA] at h); exact ⟨by omega, by omega, .inr (by omega)⟩)
        have hsb2 : ¬ (cA d b (t + 1)).reads (cA d b (t + 1)).sb := by
          rintro (h | h | h | h | h | h)
          all_goals first | (have := HGL.out _ (.inr (by first | exact .inl h | exact .inr (.inl h) | exact .inr (.inr h))); simp only [cA] at this; omega) | ((try simp only [cA] at h); omega)
        have hop2 : Opens (cA d b (t + 1)) 77 false := fun u' sl' W' hr ha hl hu => open2_any u' d.n (b + 2) (b + 3) sl' (sl'[u']'(by rw [hl]; exact hu)) W' hr.hx ha hl (by simp)
        have hH' : Grf (cA d b (t + 1)) S := ⟨HH.out.chain, HH.out.tgt, HH.out.lenN⟩
        have HM2 := Lib.hid hmine2
        have hk4 : ∀ j, j < t → w4.heap[j]? = W'.heap[j]? := fun j hj => HB4.out.block j (by rw [← HTT.out]; exact hj)
        have HRD2 : Hid (Rd (cA d b (t + 1)) 77 w4 ∧ ArrB w4 (b + 2) sl) := Lib.hid (by
          obtain ⟨a0, a1, a2, _, _, _⟩ := cells3 (w := w4) (g := t + 1) HQ.out.2.1
          have hgr := HB.out.gr.keep (W' := w4) fun j hj => hk4 j (by have := HGL.out j (.inr hj); omega)
          refine ⟨⟨a0, a1, a2, hgr.rf, hgr.rn, hgr.rt, cell1_ HQ.out.2.2.2, ?_⟩, ?_⟩
          · rw [show (cA d b (t + 1)).n = c.n from HDN.out]
            exact (World.cell?_of_block (a := ⟨b + 3, 0, none⟩) (hk4 (b + 3) (by omega))).trans HB.out.sx
          · unfold ArrB
            rw [hk4 (b + 2) (by omega)]
            exact HB.out.arr)
        have HK4 := Lib.hid hk4
        clear hk4
        refine range_inner (w := w4) (l₀ := l) (r₀ := r0) ((HK4.out l (by rw [HTT.out]; exact (Array.getElem?_eq_some_iff.1 HR0.out).1)).trans HR0.out) (by omega) (gf := 87) (lb := #[.pointer (some ⟨t + 3, 0, none⟩), .pointer (some ⟨t + 1, 0, none⟩), .pointer (some ⟨t + 2, 0, none⟩)]) rfl (enters_of Try.func87 (by kernel_rfl) rfl)
          (reached_seq (cA d b (t + 1)) 77 (t + 2) x.val S false sl [] hop2 (enters_of Try.func77 (by kernel_rfl) rfl) hH' (by simp only [cA]; rw [HDN.out]; exact hn) hdl hdn2 hsn hsb2 (by simp only [cA]; omega) (fun x hx => by cases hx) (fun x hx => by cases hx) _ (by omega))
          ?hok2 (fun j hj => by rw [HZ4.out]; exact (HM2.out j hj).1) (fun _ => rfl)
          (fun pre Y W' => ∃ V' k' c', Oi W' t (t + 1) V' k' c' pre ∧ ∀ j, wayB t V' j → Y j)
          ?hI2 (Y0 := wayB t none) (fun j hj => ?hY2) ?h02
          (fun y => actC c d KA i kc b s V k cc u x.val qx t y) ?hassign2 ?hbody2 ?hS2 ?hdone2
        case hok2 =>
          intro W5 hb'
          have hk : ∀ j, (cA d b (t + 1)).mine (t + 2) j → W5.heap[j]? = w4.heap[j]? := fun j hj => hb'.block j (by rw [HZ4.out]; exact (HM2.out j hj).1)
          exact ⟨HRD2.out.1.keep fun j hj => hk j (.inl hj), by unfold ArrB; rw [hk _ (.inr (.inl rfl))]; exact HRD2.out.2, cell1_ ((hk (t + 2) (.inr (.inr rfl))).trans HQ.out.2.2.1), fun j hj => Nat.lt_of_lt_of_le (HM2.out j hj).1 (by rw [← HZ4.out]; exact hb'.size)⟩
        case hI2 =>
          rintro pre Y A B ⟨V', k', c', ho, hy⟩ _ hk
          exact ⟨V', k', c', ho.keep fun j hj => hk j (hy j hj), hy⟩
        case hY2 =>
          rcases hj with rfl | ⟨off, hj⟩
          · exact ⟨by rw [HZ4.out]; omega, fun hm => (HM2.out _ hm).2.1 rfl⟩
          · cases hj
        case h02 =>
          exact ⟨none, 0, 0, ⟨HQ.out.1, World.ownsRow_nil _ _ _ _, fun e => (by cases e)⟩, fun j hj => hj⟩
        case hassign2 =>
          rintro l x W' K hK
          have HKK := Lib.hid hK
          clear hK
          simp only
          gi_wp2
          exact HKK.out
        case hbody2 =>
          rintro l pre x Y W' hl' ⟨r, hr⟩ hYl ⟨V', k', c', ho, hy⟩ hYs hlen
          have c0 := cell1_ ho.box
          have f0 := frz1_ ho.box
          have HOi := Lib.hid ho
          have HYi := Lib.hid hy
          have HYiS := Lib.hid hYs
          have hkn' := ho.len
          change pre.length < d.n at hlen
          have hdn4 := HDN.out
          have hsz : t + 1 ≤ W'.heap.size := by rw [HZ4.out] at hl'; omega
          have hkb : k' ≤ 4194304 := by omega
          clear ho hy hYs hr hkn' hlen hdn4
          simp only [actC]
          obtain ⟨i0, hi0, hz0, hz1, hz2⟩ := info_parts info_i64'
          gi_wp2_with (gi_at_builtin; refine stopW ?_)
          unfold StopW
          refine wpListIn_append_own_at _ rfl _ _ 22 rfl (t + 1) 3 i0 (.int .i64 0) 1 8 Try.underlying22 hi0 hz0 hz1 hz2 rfl (by decide) (.slice V' k' c') k' _ rfl (HOi.out.own.alloc _) ⟨W'.heap.size, 0, none⟩ 1 1 [.int .i64 x] rfl rfl (fun j u hu => by rw [Addr.add_lit, Nat.zero_add]; exact one_cell_at _ _ _ j u hu) (by simp [Value.oneCell']) (by unfold maxLen; omega) (by omega) (by simp; omega) ?_; intro v' w5 hown5 hg5 _ hat5; obtain ⟨g5, c5, rfl⟩ := ownsRow_succ hown5; (have HOi5 := Lib.hid hown5); (have HG5 := Lib.hid hg5); (have HAi5 := Lib.hid hat5); clear hown5 hg5 hat5
          have hox : t < W'.heap.size := (Array.getElem?_eq_some_iff.1 HOi.out.box).1
          have hbx : w5.heap[t]? = some (.cells #[.slice V' k' c'] 22 (0, 0)) := blk_far HG5.out (((Bel.refl W').alloc _).blk HOi.out.box) (fun e => HOi.out.ne e.symm)
          have HBX := Lib.hid hbx
          have f5 := frz1_ hbx
          have d5 := cell1_ hbx
          clear c0 f0 hbx
          gi_wp2
          have hbo : Boxed w5 (t) 22 (.slice V' k' c') := HBX.out
          refine ⟨(((Mv.refl Y W').alloc _).grown HG5.out (fun q hq => .inl (HYi.out q (.inr (own_bk HOi.out.own hq))))).set_ (.inl (HYi.out (t) (.inl rfl))) _, wayB (t) (some ⟨g5, 0, none⟩), ⟨_, k' + 1, c5, ⟨hbo.set _, ?_, fun e => hbo.not_row (by decide) HOi5.out e.symm⟩, fun j hj => hj⟩, ?_⟩
          · rw [List.map_append]
            exact HOi5.out.kept (grownBy_setCell' w5 (t) _) (.inr (hbo.not_row (by decide) HOi5.out).symm)
          · rintro j (rfl | ⟨off, hj⟩)
            · exact ⟨by have := hbo.lt; simpa using this, .inl (HYi.out _ (.inl rfl))⟩
            · cases hj
              refine ⟨by have := (HOi5.out.lt g5 rfl).2; simpa using this, ?_⟩
              rcases HAi5.out with h | h
              · exact .inl (HYi.out _ (.inr (own_bk HOi.out.own h.symm)))
              · right
                have h2 : g5 = W'.heap.size + 1 := by simpa [Value.ownBlock] using h
                omega
        case hS2 =>
          rintro xs A B ⟨sl', a1, a2, a3, a4, a5⟩ _ hk
          exact ⟨sl', by unfold ArrB; rw [hk _ (by rw [HZ4.out]; exact (HM2.out _ (.inr (.inl rfl))).1)]; exact a1, a2, a3.keep fun j hj => hk j (by rw [HZ4.out]; exact (HM2.out j (.inl hj)).1), a4, a5⟩
        case hdone2 =>
          rintro xs Y2 W5 ⟨sl', a1, a2, a3, a4, a5⟩ ⟨V', k', c', ho, hy2⟩ hmv hYs2
          have hsz5 : t + 4 ≤ W5.heap.size := by rw [← HZ4.out]; exact hmv.size
          have hkp : ∀ j, j < t → ¬ gB d j → j ≠ b + 2 → j ≠ b + 3 → W5.heap[j]? = W'.heap[j]? := fun j h1 h2 h3 h4 => (hmv.block j (by rw [HZ4.out]; omega) (by
            rintro (hj | hj)
            · rcases hj with e | ⟨off, e⟩
              · omega
              · cases e
            · rcases (HM2.out j hj).2.2 with e | e | e | e
              · exact h2 e
              all_goals omega)).trans (HK4.out j h1)
          have hng : ∀ j, b ≤ j → ¬ gB d j := fun j hj hg => by have := HGL.out j (.inr hg); omega
          have hB5 : StB d c.n b s U m mc vals sl' L W5 := by
            refine ⟨(hkp (b + 1) (by omega) (hng _ (by omega)) (by omega) (by omega)).trans HB.out.bk, (hkp s (by omega) (hng _ (by omega)) (by omega) (by omega)).trans HB.out.fx, ?_, ⟨a3.rf, a3.rn, a3.rt⟩, a1, by rw [← HDN.out]; exact a2, (hkp (s + 1) (by omega) (hng _ (by omega)) (by omega) (by omega)).trans HB.out.box, HB.out.ne, HB.out.ll.keep fun j hj => ?_⟩
            · have := a3.hx
              rw [show (cA d b (t + 1)).n = c.n from HDN.out] at this
              exact this
            · have := HLL.out j hj
              exact hkp j this.2 (hng _ (by omega)) (by omega) (by omega)
          have hmv5 : Mv Y W' W5 := (Mv.of_bel (Z := Y) HB4.out).trans hmv (fun j hj => by
            rw [← HTT.out]
            rcases hj with hj | hj
            · rcases hj with e | ⟨off, e⟩
              · exact .inr (by omega)
              · cases e
            · rcases (HM2.out j hj).2.2 with e | e | e | e
              · exact .inl (HYY.out j (.inr (.inr (.inr (.inr (.inr (.inl e)))))))
              · exact .inl (HYY.out j (.inr (.inl e)))
              · exact .inl (HYY.out j (.inr (.inr (.inl e))))
              · exact .inr (by omega))
          have hmath5 : pre ++ [(x, qx)] = backN O' (pre.length + 1) → (xs = [] → Parted (adjG c R) (O'.map Fin.val) (whOf false sl') L) ∧ (xs ≠ [] → Parted (adjG c R) (O'.map Fin.val) (whOf false sl') (L ++ [xs])) ∧ ∀ j, O'.length ≤ j + (pre.length + 1) → ∀ v, (O'.map Fin.val)[j]? = some v → whOf false sl' v = false := by
            intro he
            have hlen' : pre.length < O'.length := by rw [← HOK.out]; exact hlen
            obtain ⟨h1, h2, hq, hxq⟩ := backN_here he hlen'
            obtain ⟨m1, m2⟩ := HMT.out h1
            have hlo : qx < (O'.map Fin.val).length := by simpa using hq
            have hsp : O'.map Fin.val = (O'.map Fin.val).take qx ++ x.val :: (O'.map Fin.val).drop (qx + 1) := by
              have e1 := List.drop_eq_getElem_cons hlo
              rw [List.getElem_map, ← hxq] at e1
              rw [← e1, List.take_append_drop]
            obtain ⟨s1, s2, s3⟩ := parted_step m1 (seen_closed HS.out.seen HCL.out) HS.out.seen.nd HS.out.seen.ord HBF.out hsp (fun u hu => by
              obtain ⟨j, hj⟩ := List.getElem?_of_mem hu
              rw [List.getElem?_drop] at hj
              exact m2 _ (by omega) u hj) a4
            refine ⟨s1, s2, fun j hj v hv => ?_⟩
            by_cases e : j = qx
            · subst e
              rw [List.getElem?_eq_getElem hlo, List.getElem_map, ← hxq] at hv
              exact s3 v (.inl (Option.some.inj hv).symm)
            · refine s3 v (.inr (List.mem_of_getElem? (i := j - (qx + 1)) ?_))
              rw [List.getElem?_drop, show qx + 1 + (j - (qx + 1)) = j by omega]
              exact hv
          have c17 := cell1_ ho.box
          have c14 := cell1_ hB5.box
          have f14 := frz1_ hB5.box
          have hkl := ho.len
          have HB5 := Lib.hid hB5
          have HO5 := Lib.hid ho
          have HMV5 := Lib.hid hmv5
          have HMA := Lib.hid hmath5
          have HKL := Lib.hid hkl
          have HLE := Lib.hid hlen
          clear a1 a2 a3 a4 a5 ho hy2 hmv hYs2 hkp hng hB5 hmv5 hmath5 hlen
          by_cases hk0 : k' = 0
          · subst hk0
            have hx0 : xs = [] := List.eq_nil_of_length_eq_zero hkl.symm
            have HX0 := Lib.hid hx0
            clear hx0 hkl
            gi_wp2
            refine ⟨HMV5.out, YB b s d U vals, ⟨sl', U, m, mc, vals, L, HB5.out, fun j hj => hj, by simp; omega, fun he => ?_⟩, fun j hj => ?_⟩
            · rw [List.length_append] at he ⊢
              obtain ⟨s1, s2, s3⟩ := HMA.out he
              exact ⟨s1 HX0.out, s3⟩
            · exact ⟨Nat.lt_of_lt_of_le (HYS.out j (HYY.out j hj)) HMV5.out.size, .inl (HYY.out j hj)⟩
          · have p1 : 0 < k' := by omega
            have p2 : (0 : Int) < (k' : Int) := by omega
            have zz1 : s + 1 < W5.heap.size := by omega
            have zz2 : t < W5.heap.size := by omega
            clear hkl
            obtain ⟨i0, hi0, hz0, hz1, hz2⟩ := info_parts info_sl
            gi_wp2_with (gi_at_builtin; refine stopW ?_)
            unfold StopW
            have hml : m ≤ 1048576 := by have h1 := hm; have h2 := HLE.out; change pre.length < k at h2; omega
            refine wpListIn_append_own_at _ rfl _ _ 104 rfl s 22 i0 (.slice none 0 0) 1 24 Try.underlying104 hi0 hz0 hz1 hz2 rfl (by decide) (.slice U m mc) m _ rfl (HB5.out.ll.own.alloc _) ⟨W5.heap.size, 0, none⟩ 1 1 [.slice V' k' c'] rfl rfl (fun j u hu => by rw [Addr.add_lit, Nat.zero_add]; exact one_cell_at _ _ _ j u hu) (by simp [Value.oneCell']) (by unfold maxLen; omega) (by omega) (by simp; omega) ?_
            intro v' w6 hown6 hg6 _ hat6
            obtain ⟨g6, c6, rfl⟩ := ownsRow_succ hown6
            have HO6 := Lib.hid hown6
            have HG6 := Lib.hid hg6
            have HA6 := Lib.hid hat6
            clear hown6 hg6 hat6
            have hbx : w6.heap[s + 1]? = some (.cells #[.slice U m mc] 104 (0, 0)) := blk_far HG6.out (((Bel.refl W5).alloc _).blk HB5.out.box) (fun e => HB5.out.ne e.symm)
            have HBX := Lib.hid hbx
            have f6 := frz1_ hbx
            have d6 := cell1_ hbx
            clear c14 f14 c17 hbx
            gi_wp2
            have hbo : Boxed w6 (s + 1) 104 (.slice U m mc) := HBX.out
            have hbo5 : Boxed W5 (s + 1) 104 (.slice U m mc) := HB5.out.box
            have hs6 : W5.heap.size < w6.heap.size := by have := HG6.out.size; simp at this; omega
            have hk7 : ∀ j, j < W5.heap.size → j ≠ s + 1 → ¬ Bk U j → (w6.setCell ⟨s + 1, 0, none⟩ (.slice (some ⟨g6, 0, none⟩) (m + 1) c6)).heap[j]? = W5.heap[j]? := fun j h1 h2 h3 => by
              rw [heap_setCell_other w6 _ j _ (fun e => h2 e)]
              refine (HG6.out.block j (by simp; omega) (fun e => h3 (own_bk HB5.out.ll.own e.symm))).trans (Below.heap_alloc _ _ _ h1)
            have hUs : ∀ j, Bk U j → s ≤ j ∧ j < t := fun j hj => HLL.out j (.inl hj)
            have hVt : ∀ j, Bk V' j → t + 1 ≤ j ∧ j < W5.heap.size := fun j hj => own_lt_bk HO5.out.own hj
            have hnd : ∀ j, j < s → j < W5.heap.size ∧ j ≠ s + 1 ∧ ¬ Bk U j := fun j hj => ⟨by omega, by omega, fun e => by have := hUs j e; omega⟩
            have hst : StB d c.n b s (some ⟨g6, 0, none⟩) (m + 1) c6 (vals ++ [.slice V' k' c']) sl' (L ++ [xs]) (w6.setCell ⟨s + 1, 0, none⟩ (.slice (some ⟨g6, 0, none⟩) (m + 1) c6)) := by
              have hk8 : ∀ j, j < s → (w6.setCell ⟨s + 1, 0, none⟩ (.slice (some ⟨g6, 0, none⟩) (m + 1) c6)).heap[j]? = W5.heap[j]? := fun j hj => hk7 j (hnd j hj).1 (hnd j hj).2.1 (hnd j hj).2.2
              refine ⟨(hk8 (b + 1) (by omega)).trans HB5.out.bk, (hk7 s (by omega) (by omega) ?_).trans HB5.out.fx, (World.cell?_of_block (a := ⟨b + 3, 0, none⟩) (hk8 (b + 3) (by omega))).trans HB5.out.sx, HB5.out.gr.keep fun j hj => hk8 j (by have := HGL.out j (.inr hj); omega), ?_, HB5.out.len, hbo.set _, fun e => hbo.not_row (by decide) HO6.out e.symm, ⟨HO6.out.kept (grownBy_setCell' w6 (s + 1) _) (.inr (hbo.not_row (by decide) HO6.out).symm), by simp [HB5.out.ll.lls], fun i v hv => ?_⟩⟩
              · exact row_other HB5.out.fx HB5.out.ll.own (by decide)
              · unfold ArrB
                rw [hk8 (b + 2) (by omega)]
                exact HB5.out.arr
              · rcases Nat.lt_or_ge i vals.length with hi | hi
                · rw [List.getElem?_append_left hi] at hv
                  obtain ⟨r, A, c', e1, e2, e3⟩ := HB5.out.ll.row i v hv
                  refine ⟨r, A, c', by rw [List.getElem?_append_left (by rw [← HB5.out.ll.lls]; exact hi)]; exact e1, e2, own_blk e3 (fun x hx => ?_)⟩
                  obtain ⟨h1, h2⟩ := HLL.out x (.inr ⟨v, List.mem_of_getElem? hv, hx⟩)
                  obtain ⟨cur, hcur⟩ := own_obj e3 hx
                  exact hk7 x (by omega) (fun e => hbo5.not_row (by decide) e3 (by rw [hx, e])) (row_other hcur HB5.out.ll.own (by decide))
                · have hi2 : i = vals.length := by
                    have := (List.getElem?_eq_some_iff.1 hv).1
                    simp at this
                    omega
                  subst hi2
                  simp at hv
                  subst hv
                  refine ⟨xs, V', c', by rw [HB5.out.ll.lls]; simp, by rw [HKL.out], ?_⟩
                  have ho := HO5.out.own
                  rw [HKL.out] at ho ⊢
                  refine own_blk (own_mono ho (by omega)) (fun x hx => ?_)
                  have h1 := hVt x (own_bk ho hx)
                  exact hk7 x h1.2 (by omega) (fun e => by have := hUs x e; omega)
            have hYU : ∀ q, Bk U q → Y q := fun q hq => HYY.out q (.inr (.inr (.inr (.inr (.inr (.inr (.inl hq)))))))
            refine ⟨((HMV5.out.alloc _).grown HG6.out (fun q hq => .inl (hYU q (own_bk HB5.out.ll.own hq)))).set_ (.inl (HYY.out (s + 1) (.inr (.inr (.inr (.inr (.inl rfl))))))) _, YB b s d (some ⟨g6, 0, none⟩) (vals ++ [.slice V' k' c']), ⟨sl', some ⟨g6, 0, none⟩, m + 1, c6, vals ++ [.slice V' k' c'], L ++ [xs], hst, fun j hj => hj, by simp; omega, fun he => ?_⟩, fun j hj => ?_⟩
            · rw [List.length_append] at he ⊢
              obtain ⟨s1, s2, s3⟩ := HMA.out he
              exact ⟨s2 (fun e => by have := HKL.out; rw [e] at this; exact hk0 this), s3⟩
            · have hold : Y j → j < (w6.setCell ⟨s + 1, 0, none⟩ (.slice (some ⟨g6, 0, none⟩) (m + 1) c6)).heap.size ∧ (Y j ∨ W'.heap.size ≤ j) := fun h => by
                have := HYS.out j h
                rw [← HTT.out] at this
                exact ⟨by simp; omega, .inl h⟩
              rcases hj with h | h | h | h | h | h | ⟨off, h⟩ | ⟨v, hv, h⟩
              · exact hold (HYY.out j (.inl h))
              · exact hold (HYY.out j (.inr (.inl h)))
              · exact hold (HYY.out j (.inr (.inr (.inl h))))
              · exact hold (HYY.out j (.inr (.inr (.inr (.inl h)))))
              · exact hold (HYY.out j (.inr (.inr (.inr (.inr (.inl h))))))
              · exact hold (HYY.out j (.inr (.inr (.inr (.inr (.inr (.inl h)))))))
              · cases h
                rcases HA6.out with h | h
                · exact hold (hYU _ (own_bk HB5.out.ll.own h.symm))
                · have h2 : g6 = W5.heap.size + 1 := by simpa [Value.ownBlock] using h
                  have h3 := (HO6.out.lt g6 rfl).2
                  exact ⟨by simpa using h3, .inr (by rw [← HTT.out]; omega)⟩
              · rcases List.mem_append.1 hv with hv | hv
                · exact hold (HYY.out _ (.inr (.inr (.inr (.inr (.inr (.inr (.inr ⟨v, hv, h⟩))))))))
                · rw [List.mem_singleton.1 hv] at h
                  have h1 := hVt j (own_bk HO5.out.own h)
                  exact ⟨by simp; omega, .inr (by rw [← HTT.out]; omega)⟩
      case hdone =>
        rintro D xs Y W6 hD hxs ⟨sl', U, m, mc, vals, L, hB, hy, hm, hmath⟩ hmv hYs hdf hYD
        have c14 := cell1_ hB.box
        have HB6 := Lib.hid hB
        have HMV6 := Lib.hid hmv
        have HMA := Lib.hid hmath
        have HDF := Lib.hid hdf
        have HXS := Lib.hid hxs
        rw [HA.out.1] at hD
        have hmk : m ≤ c.n := by
          have h1 := congrArg List.length hxs
          rw [backN_len O' (by rw [HOK.out]; exact Nat.le_refl _)] at h1
          omega
        clear hB hy hmath hmv hYs hdf hYD hxs hm
        (try dsimp only)
        go_wp2_with fail
        have hk6 : ∀ j, j < s + 3 → ¬ YB b s d none [] j → j ≠ s + 2 → ¬ Bk V j → W6.heap[j]? = w3.heap[j]? := fun j h1 h2 h3 h4 => HMV6.out.block j (by rw [HA.out.1]; exact h1) (by
          rintro (h | h | h)
          · exact h2 h
          · exact h3 h
          · exact h4 h)
        have hkr : ∀ j, j < s → w3.heap[j]? = wr.heap[j]? := fun j hj => HB3.out.block j (by rw [← HSZ.out]; exact hj)
        have hs6 : s + 3 ≤ W6.heap.size := by rw [← HA.out.1]; exact HMV6.out.size
        have hE : ∀ E ∈ Ds, b + 5 ≤ E ∧ E < s ∧ W6.heap[E]? = some (.deferred (some [])) := fun E hE => by
          obtain ⟨g1, g2⟩ := HS.out.ds E hE
          rw [← HBB.out] at g1
          have h1 := (Array.getElem?_eq_some_iff.1 g2).1
          rw [← HSZ.out] at h1
          refine ⟨g1, h1, ?_⟩
          rw [hk6 E (by omega) ?_ (by omega) ?_, hkr E h1]
          · exact g2
          · rintro (h | h | h | h | h | h | ⟨off, h⟩ | ⟨v, hv, _⟩)
            · omega
            · omega
            · omega
            · omega
            · omega
            · have := HGL.out E (.inr h); omega
            · cases h
            · cases hv
          · rintro ⟨off, h⟩
            rcases HS.out.oi.own.2 with ⟨h', _⟩ | ⟨g, cap, cur, h', _, hg, _⟩
            · rw [h] at h'; cases h'
            · rw [h] at h'
              cases h'
              rw [hg] at g2
              cases g2
        refine leaves_marks (Ds := D :: Ds) (List.nodup_cons.2 ⟨fun hm => by have := hE D hm; omega, HS.out.nd⟩) (fun E hm => by
          rcases List.mem_cons.1 hm with rfl | hm
          · exact HDF.out
          · exact (hE E hm).2.2) (fun w' hmw => ⟨_, results_tmp rfl _ _ _, ?_⟩)
        have hDE : ∀ E, E ∈ D :: Ds → b + 5 ≤ E ∧ W6.heap[E]? = some (.deferred (some [])) := fun E hm => by
          rcases List.mem_cons.1 hm with rfl | hm
          · exact ⟨by omega, HDF.out⟩
          · exact ⟨(hE E hm).1, (hE E hm).2.2⟩
        have hno : ∀ (j : Nat) (cur : Array Value) (t : TypeId), W6.heap[j]? = some (.cells cur t (0, 0)) → w'.heap[j]? = W6.heap[j]? := fun j cur t hc => hmw.block j (Array.getElem?_eq_some_iff.1 hc).1 (fun hm => by
          have := (hDE j hm).2
          rw [hc] at this
          cases this)
        have hbl : ∀ j, j < b → w'.heap[j]? = W6.heap[j]? := fun j hj => hmw.block j (by omega) (fun hm => by have := (hDE j hm).1; omega)
        have hgc : ∀ j, gB c j → W6.heap[j]? = wr.heap[j]? := fun j hj => by
          have h1 := HGL.out j (.inl hj)
          refine (hk6 j (by omega) ?_ (by omega) (fun h => by have := HWB.out j h; omega)).trans (hkr j (by omega))
          rintro (h | h | h | h | h | h | ⟨off, h⟩ | ⟨v, hv, _⟩)
          · omega
          · omega
          · omega
          · omega
          · omega
          · exact HCD.out j hj h
          · cases h
          · cases hv
        have hXL : xs.length = O'.length := by rw [HXS.out, backN_len O' (by rw [HOK.out]; exact Nat.le_refl _), HOK.out]
        obtain ⟨m1, m2⟩ := HMA.out (by rw [hXL, HXS.out, HOK.out])
        have hwf : whOf false sl' = fun _ => false := funext fun u' => by
          cases hu : whOf false sl' u' with
          | false => rfl
          | true =>
            obtain ⟨j, hj⟩ := List.getElem?_of_mem (m1.inO u' hu)
            rw [m2 j (by omega) u' hj] at hu
            cases hu
        rw [hwf] at m1
        have hcl := seen_closed HS.out.seen HCL.out
        refine ⟨U, m, mc, vals, L, O'.map Fin.val, s, rfl, ?_, (HS.out.gr.keep hgc).keep fun j hj => hbl j (HGL.out j (.inl hj)), HB6.out.gr.keep fun j hj => hbl j (HGL.out j (.inr hj)), by rw [← HBB.out]; omega, HB6.out.ll.keep fun j hj => ?_, hmk, m1, fun v hv => ?_, HS.out.seen.lt, hcl⟩
        · have k1 : Mv (fun j => gB c j ∨ gB d j) W wr := HS.out.mv.more (fun _ _ h => .inl h)
          refine ((k1.trans (Mv.of_bel (Z := fun _ => False) HB3.out) (fun _ (f : False) => f.elim)).trans HMV6.out (fun j hj => ?_)).trans hmw (fun j hj => .inr (by rw [← HBB.out]; have := (hDE j hj).1; omega))
          rw [← HBB.out]
          rcases hj with (h | h | h | h | h | h | ⟨off, h⟩ | ⟨v, hv, _⟩) | h | h
          · exact .inr (by omega)
          · exact .inr (by omega)
          · exact .inr (by omega)
          · exact .inr (by omega)
          · exact .inr (by omega)
          · exact .inl (.inr h)
          · cases h
          · cases hv
          · exact .inr (by omega)
          · have := HWB.out j h; exact .inr (by omega)
        · rcases hj with hj | ⟨v, hv, hj⟩
          · obtain ⟨off, hj⟩ := hj
            have hob : (Value.slice U m mc).ownBlock = some j := by rw [hj]; rfl
            obtain ⟨cur, hc⟩ := own_obj HB6.out.ll.own hob
            exact hno j cur _ hc
          · obtain ⟨i', hi'⟩ := List.getElem?_of_mem hv
            obtain ⟨r, A, c', e1, e2, e3⟩ := HB6.out.ll.row i' v hi'
            obtain ⟨cur, hc⟩ := own_obj e3 hj
            exact hno j cur _ hc
        · have hg := HS.out.seen.got v (by rw [HKL.out, List.take_length]; exact hv)
          rcases HS.out.seen.part v (HKEEP.out v hv) with e | e
          · rw [hg] at e; cases e
          · exact e
end Go.Proofs.Ytlbachjhhjjmfaa.Mu

