/-
  A range over a function whose iterator writes memory that was there before the loop: who owns which blocks is said, and each side leaves the other's alone. Over whatever program.
  Going through a graph in memory: the questions whether a variable is open; the way's next stop.
  Going through a graph in memory: the iterator.
  Rings: what is parted.
  slices.Backward at numbers: what it hands to a loop.
  rings, walked.
-/
import Derived.RangeFuncNested
import Derived.RangeFuncBound
import Derived.RangeFuncCalls
import Derived.RangeFuncLeaves
import Derived.Test.YtblgligagngpfaaDoorMem
import Derived.Test.YtblgligagngpfaaDoorDfs
import Derived.Test.YtblgligagngpfaaDoorArrs
import Derived.Test.YtblgligagngpfaaDoorOne
import Derived.Test.YtblgligagngpfaaDoorTermFG
import Derived.Test.YtblgligagngpfaaDoorIneqC
import Derived.Deep.RegionLaw
import Derived.RangeFuncBox
import Derived.Shelf.Abstract
import Derived.WalkKit
import Derived.OwnWalkIn
import Derived.TacticsInMore
import Derived.LoopNIn
import Derived.LoopIn
import Derived.WalkSmall
import Derived.Test.YtblgligagngpfaaDoorRound
import Derived.LoopTactic
import Derived.Maps.OwnIn
import Derived.Deep.OwnRows
namespace Go.Proofs.YtblgligagngpfaaDoor.Mu
open Go Go.RowKit

/-- At most what is in Z has turned, and there are new blocks. -/
structure Mv (Z : Nat → Prop) (W W' : World) : Prop where
  os : W'.os = W.os
  tape : W'.tape = W.tape
  output : W'.output = W.output
  size : W.heap.size ≤ W'.heap.size
  block : ∀ k, k < W.heap.size → ¬ Z k → W'.heap[k]? = W.heap[k]?
section
variable {Z Z' : Nat → Prop} {A B C : World}
theorem Mv.refl (Z : Nat → Prop) (W : World) : Mv Z W W := ⟨rfl, rfl, rfl, Nat.le_refl _, fun _ _ _ => rfl⟩
theorem Mv.more (h : Mv Z A B) (hz : ∀ k, k < A.heap.size → Z k → Z' k) : Mv Z' A B := ⟨h.os, h.tape, h.output, h.size, fun k hk hn => h.block k hk (fun hz' => hn (hz k hk hz'))⟩
theorem Mv.trans (h : Mv Z A B) (k : Mv Z' B C) (hz : ∀ j, Z' j → Z j ∨ A.heap.size ≤ j) : Mv Z A C :=
  ⟨k.os.trans h.os, k.tape.trans h.tape, k.output.trans h.output, Nat.le_trans h.size k.size, fun j hj hn =>
    (k.block j (Nat.lt_of_lt_of_le hj h.size) (fun hz' => by rcases hz j hz' with e | e; exact hn e; omega)).trans (h.block j hj hn)⟩
theorem Mv.bel (h : Mv (fun _ => False) A B) : Bel A B := ⟨h.os, h.tape, h.output, h.size, fun k hk => h.block k hk (fun f => f)⟩
theorem Mv.of_bel (h : Bel A B) : Mv Z A B := ⟨h.os, h.tape, h.output, h.size, fun k hk _ => h.block k hk⟩
theorem Mv.alloc (h : Mv Z A B) (o : Obj) : Mv Z A (B.alloc o) := h.trans (Z' := fun _ => False) (.of_bel ((Bel.refl B).alloc o)) (fun _ f => f.elim)
theorem Mv.set_ (h : Mv Z A B) {p : Addr} (hp : Z p.block ∨ A.heap.size ≤ p.block) (v : Value) : Mv Z A (B.setCell p v) :=
  ⟨h.os, h.tape, h.output, by have := h.size; simpa [World.setCell] using this, fun k hk hn => (Below.heap_setCell B p v k (by
    rintro rfl
    rcases hp with hp | hp
    · exact hn hp
    · omega)).trans (h.block k hk hn)⟩
theorem Mv.putObj (h : Mv Z A B) {l : Nat} (hp : Z l ∨ A.heap.size ≤ l) (o : Obj) : Mv Z A (B.putObj l o) :=
  ⟨h.os, h.tape, h.output, by have := h.size; simpa using this, fun k hk hn => (World.putObj_heap_other (by
    rintro rfl
    rcases hp with hp | hp
    · exact hn hp
    · omega)).trans (h.block k hk hn)⟩
theorem Mv.grown (h : Mv Z A B) {row : Option Nat} (hg : B.grownBy C row) (hr : ∀ k, row = some k → Z k ∨ A.heap.size ≤ k) : Mv Z A C :=
  ⟨hg.os.trans h.os, hg.tape.trans h.tape, hg.output.trans h.output, Nat.le_trans h.size hg.size, fun k hk hn =>
    (hg.block k (Nat.lt_of_lt_of_le hk h.size) (fun e => by
      rcases hr k e.symm with e | e
      · exact hn e
      · omega)).trans (h.block k hk hn)⟩
theorem Mv.drew (h : Mv Z A B) : Mv Z A B.drew := ⟨h.os, h.tape, h.output, h.size, h.block⟩
theorem Mv.drewN (h : Mv Z A B) (n : Nat) : Mv Z A (B.drewN n) := ⟨h.os, h.tape, h.output, h.size, h.block⟩
end

/-- What is said of a world holds on wherever these blocks are as they were. -/
def Stable {α : Type} (J : α → (Nat → Prop) → World → Prop) : Prop := ∀ s Y W W', J s Y W → W.heap.size ≤ W'.heap.size → (∀ k, Y k → W'.heap[k]? = W.heap[k]?) → J s Y W'
/-- An iterator that owns the blocks in Mine, and what it makes; its rounds own the blocks in Y, and what they make. -/
def SeqF {α : Type} (F : Fence) (n : Nat) (P : Program) (g : Nat) (lb : Array Value) (encs : α → Array Value) (Mine : Nat → Prop) (Ok : World → Prop) (S : List α → World → Prop) (N : Nat) : Prop :=
  ∀ (l : Nat) (J : List α → (Nat → Prop) → World → Prop) (Y : Nat → Prop) (W : World), Ok W → (∀ k, Y k → k < W.heap.size ∧ ¬ Mine k) → Stable J →
    (∀ pre x Y W1, J pre Y W1 → (∀ k, Y k → k < W1.heap.size) → pre.length < N → YieldAt F (n - 1) P l (encs x) W1 fun e W' =>
      e = .returned (.bool true) ∧ Mv Y W1 W' ∧ ∃ Y', J (pre ++ [x]) Y' W' ∧ ∀ k, Y' k → k < W'.heap.size ∧ (Y k ∨ W1.heap.size ≤ k)) →
    J [] Y W →
    CallsIn F n P g (#[.func (.yield l) #[] #[]] ++ lb) W fun e W' => (∃ v, e = .returned v) ∧ ∃ xs Y', S xs W' ∧ J xs Y' W' ∧ (∀ k, Y' k → k < W'.heap.size ∧ (Y k ∨ W.heap.size ≤ k)) ∧ Mv (fun k => Y k ∨ Mine k) W W'

section
variable {F : Fence} {n : Nat} {P : Program}
/-- How the body of a round ends: it goes on. -/
def bodyEnds (R : World → Prop) : Exit → Act → World → Prop
  | .normal, _, W' => R W'
  | _, _, _ => False
theorem range_core {α : Type} {g : Operand} {ps : Array Tmp} {assign body : Code} {Q : Exit → Act → World → Prop} {a : Act} {w : World}
    {l dd : Nat} {mark : List Deferred} {dk : Nat → Prop} (V : FuncId → World)
    (henter : ∀ fn, F.fn fn → (Instr.enterLoop fn a.tmps ps assign body F.round).run P w = .ok (l, mark) (V fn) ∧ Bel w (V fn) ∧ (V fn).heap[l]? = some (.loop { state := .ready, pending := none, fn, tmps := a.tmps, params := ps, assign, body, defers := dd }) ∧ ∀ k, dk k → (V fn).heap[k]? = some (.deferred (some [])))
    (hl : w.heap.size ≤ l) (hdk : ∀ k, dk k → w.heap.size ≤ k ∧ k ≠ l)
    (h1 : 1 ≤ n) {gf : Nat} {lb : Array Value} (hg : a.eval g = .func (.func gf) #[] lb) (hFg : F.fn gf) (eg : ∀ args w, (callFunc gf args).run P w = .ok (.enter gf args) w)
    {encs : α → Array Value} {Mine : Nat → Prop} {Ok : World → Prop} {S : List α → World → Prop} {N : Nat} (hseq : SeqF F (n - 1) P gf lb encs Mine Ok S N) (hok : ∀ W, Bel w W → Ok W) (hmine : ∀ k, Mine k → k < w.heap.size) (hps : ∀ x, (encs x).size = ps.size)
    (I : List α → (Nat → Prop) → World → Prop) (hI : Stable I) {Y0 : Nat → Prop} (hY0 : ∀ k, Y0 k → k < w.heap.size ∧ ¬ Mine k) (h0 : I [] Y0 w) (a₁ : α → Act)
    (hassign : ∀ (l : Nat) (x : α) (W : World) (K : Act → World → Prop), K (a₁ x) W → assign.wpIn (F.inRound l) (n - 1 - 1) P (Exit.then K (fun _ _ _ => False)) { tmps := (ps.zip (encs x)).foldl (fun t (p, v) => t.setIfInBounds p v) a.tmps, defers := [] } W)
    (hbody : ∀ (pre : List α) (x : α) (Y : Nat → Prop) (W : World), w.heap.size ≤ W.heap.size → (∃ r, W.heap[l]? = some (.loop r)) → ¬ Y l → I pre Y W → (∀ k, Y k → k < W.heap.size) → pre.length < N →
      body.wpIn (F.inRound l) (n - 1 - 1) P (bodyEnds fun W' => Mv Y W W' ∧ ∃ Y', I (pre ++ [x]) Y' W' ∧ ∀ k, Y' k → k < W'.heap.size ∧ (Y k ∨ W.heap.size ≤ k)) (a₁ x) W)
    (hS : ∀ xs W W', S xs W → W.heap.size ≤ W'.heap.size → (∀ k, k < w.heap.size → W'.heap[k]? = W.heap[k]?) → S xs W')
    (hdone : ∀ (xs : List α) (Y : Nat → Prop) (W : World), S xs W → I xs Y W → Mv (fun k => Y0 k ∨ Mine k) w W → (∀ k, Y k → k < W.heap.size ∧ (Y0 k ∨ w.heap.size ≤ k)) → (∀ k, dk k → W.heap[k]? = some (.deferred (some [])) ∧ ¬ Y k) → Q .normal { a with defers := mark ++ a.defers } W) :
    (Code.rangeFunc g ps assign body).wpIn F n P Q a w := by
  refine wpIn_rangeFunc ?_
  intro fn hfn
  obtain ⟨he, hb, hL, hD⟩ := henter fn hfn
  obtain ⟨rec, hrec⟩ : ∃ rec : LoopState → Option Code → Loop, rec = fun st pe => { state := st, pending := pe, fn, tmps := a.tmps, params := ps, assign, body, defers := dd } := ⟨_, rfl⟩
  have hL' : (V fn).heap[l]? = some (.loop (rec .ready none)) := by rw [hrec]; exact hL
  obtain ⟨J, hJ⟩ : ∃ J : List α → (Nat → Prop) → World → Prop, J = fun pre Y W => ∃ Z : Nat → Prop, (∀ k, Y k ↔ (Z k ∨ k = l ∨ dk k)) ∧ (∀ k, Z k → k ≠ l ∧ ¬ dk k) ∧ I pre Z W ∧ W.heap[l]? = some (.loop (rec .ready none)) ∧ ∀ k, dk k → W.heap[k]? = some (.deferred (some [])) := ⟨_, rfl⟩
  refine ⟨l, mark, V fn, { target := .fn (.func gf) lb, args := #[.func (.yield l) #[] #[]] }, V fn, gf, #[.func (.yield l) #[] #[]] ++ lb, V fn, he, ?_, ?_, ?_, fun _ => h1, ?_⟩
  · simp only [resolve, hg]
    simp [go_sem]
  · intro f' hf'; simp [Target.leads] at hf'; subst hf'; exact hFg
  · simp [invoke, go_sem, eg]
  · have hlV : l < (V fn).heap.size := (Array.getElem?_eq_some_iff.1 hL).1
    refine (hseq l J (fun k => Y0 k ∨ k = l ∨ dk k) (V fn) (hok _ hb) ?_ ?_ ?_ ?_).mono ?_
    · rintro k (h | rfl | h)
      · exact ⟨Nat.lt_of_lt_of_le (hY0 k h).1 hb.size, (hY0 k h).2⟩
      · exact ⟨hlV, fun hm => by have := hmine _ hm; omega⟩
      · exact ⟨(Array.getElem?_eq_some_iff.1 (hD k h)).1, fun hm => by have := hmine k hm; have := (hdk k h).1; omega⟩
    · rw [hJ]
      rintro s Y A B ⟨Z, z1, z2, z3, z4, z5⟩ hsz hk
      exact ⟨Z, z1, z2, hI s Z A B z3 hsz (fun k hz => hk k ((z1 k).2 (.inl hz))), (hk l ((z1 l).2 (.inr (.inl rfl)))).trans z4, fun k hd => (hk k ((z1 k).2 (.inr (.inr hd)))).trans (z5 k hd)⟩
    · -- one round
      rw [hJ]
      rintro pre x Y W ⟨Z, z1, z2, z3, z4, z5⟩ hYs hlen
      have hlt : l < W.heap.size := (Array.getElem?_eq_some_iff.1 z4).1
      have hy := run_yield (P := P) (args := encs x) z4 (by rw [hrec]; exact hps x)
      rw [hrec] at hy
      refine ⟨fn, _, assign, body, hy, roundIn_of_wpIn hfn (hassign _ x W _ ?_)⟩
      clear hy
      refine ⟨_, run_beginRound z4 (by rw [hrec]), ?_⟩
      obtain ⟨W2, hW2⟩ : ∃ W2, W2 = W.putObj l (.loop { rec .ready none with state := .busy }) := ⟨_, rfl⟩
      rw [← hW2]
      have l2 : W2.heap[l]? = some (.loop { rec .ready none with state := .busy }) := by rw [hW2]; exact World.putObj_heap_same hlt
      have s2 : W2.heap.size = W.heap.size := by rw [hW2]; simp
      have o2 : ∀ k, k ≠ l → W2.heap[k]? = W.heap[k]? := fun k hk => by rw [hW2]; exact World.putObj_heap_other hk
      refine wpIn_mono (hbody pre x Z W2 (by rw [s2]; omega) ⟨_, l2⟩ (fun hz => (z2 l hz).1 rfl) (hI _ _ _ _ z3 (by omega) (fun k hz => o2 k (z2 k hz).1)) (fun k hz => by rw [s2]; exact hYs k ((z1 k).2 (.inl hz))) hlen) ?_
      rintro e a3 W3 hp
      cases e with
      | normal =>
        obtain ⟨hmv, Y', hi3, hy3⟩ := hp
        have l3 : W3.heap[l]? = some (.loop { rec .ready none with state := .busy }) := (hmv.block l (by omega) (fun hz => (z2 l hz).1 rfl)).trans l2
        have hr := run_endRound (P := P) none l3
        rw [hrec] at hr
        obtain ⟨W4, hW4⟩ : ∃ W4, W4 = W3.putObj l (.loop (rec .ready none)) := ⟨_, rfl⟩
        have s4 : W4.heap.size = W3.heap.size := by rw [hW4]; simp
        have o4 : ∀ k, k ≠ l → W4.heap[k]? = W3.heap[k]? := fun k hk => by rw [hW4]; exact World.putObj_heap_other hk
        have hl3 : l < W3.heap.size := (Array.getElem?_eq_some_iff.1 l3).1
        have hnl : ∀ k, Y' k → k ≠ l ∧ ¬ dk k := fun k hk => by
          rcases (hy3 k hk).2 with h | h
          · exact z2 k h
          · refine ⟨fun e => by omega, fun hd => ?_⟩
            have := (Array.getElem?_eq_some_iff.1 (z5 k hd)).1
            omega
        have d3 : ∀ k, dk k → W3.heap[k]? = some (.deferred (some [])) := fun k hd =>
          (hmv.block k (by rw [s2]; exact (Array.getElem?_eq_some_iff.1 (z5 k hd)).1) (fun hz => (z2 k hz).2 hd)).trans ((o2 k (hdk k hd).2).trans (z5 k hd))
        refine ⟨.bool true, W4, by rw [hW4, hrec]; exact hr, rfl, ?_, fun k => Y' k ∨ k = l ∨ dk k, ⟨Y', fun k => Iff.rfl, hnl, hI _ _ _ _ hi3 (by omega) (fun k hk => o4 k (hnl k hk).1), by rw [hW4]; exact World.putObj_heap_same hl3, fun k hd => (o4 k (hdk k hd).2).trans (d3 k hd)⟩, ?_⟩
        · have m1 : Mv Y W W2 := by rw [hW2]; exact (Mv.refl Y W).putObj (.inl ((z1 l).2 (.inr (.inl rfl)))) _
          have m2 : Mv Y W W3 := m1.trans hmv (fun k hz => .inl ((z1 k).2 (.inl hz)))
          rw [hW4]
          exact m2.putObj (.inl ((z1 l).2 (.inr (.inl rfl)))) _
        · rintro k (h | rfl | h)
          · obtain ⟨q1, q2⟩ := hy3 k h
            exact ⟨by omega, q2.imp (fun hz => (z1 k).2 (.inl hz)) (fun hz => by omega)⟩
          · exact ⟨by omega, .inl ((z1 _).2 (.inr (.inl rfl)))⟩
          · exact ⟨by rw [s4]; exact (Array.getElem?_eq_some_iff.1 (d3 k h)).1, .inl ((z1 k).2 (.inr (.inr h)))⟩
      | ret => exact hp.elim
      | exit id => exact hp.elim
      | goto t => exact hp.elim
      | panic ch => exact hp.elim
      | outgrown => exact hp.elim
    · rw [hJ]
      exact ⟨Y0, fun k => Iff.rfl, fun k hk => ⟨fun e => by have := (hY0 k hk).1; omega, fun hd => by have := (hY0 k hk).1; have := (hdk k hd).1; omega⟩, hI _ _ _ _ h0 hb.size (fun k hk => hb.block k (hY0 k hk).1), hL', hD⟩
    · -- behind the iterator
      rw [hJ]
      rintro e W2 ⟨⟨v, rfl⟩, xs, Y', hs, ⟨Z, z1, z2, z3, z4, z5⟩, hY', hmv⟩
      have hr := run_endLoop (P := P) z4 (by rw [hrec]; simp)
      rw [hrec] at hr
      have hlt : l < W2.heap.size := (Array.getElem?_eq_some_iff.1 z4).1
      refine ⟨none, _, hr, hdone xs Z _ (hS xs _ _ hs (by simp) (fun k hk => World.putObj_heap_other (by omega))) (hI _ _ _ _ z3 (by simp) (fun k hz => World.putObj_heap_other (z2 k hz).1)) ?_ (fun k hz => ?_) (fun k hd => ⟨(World.putObj_heap_other (hdk k hd).2).trans (z5 k hd), fun hz => (z2 k hz).2 hd⟩)⟩
      · refine Mv.putObj ?_ (.inr hl) _
        have m1 : Mv (fun k => Y0 k ∨ Mine k) w (V fn) := .of_bel hb
        refine m1.trans hmv (fun k hk => ?_)
        rcases hk with (h | rfl | h) | h
        · exact .inl (.inl h)
        · exact .inr hl
        · exact .inr (hdk k h).1
        · exact .inl (.inr h)
      · obtain ⟨q1, q2⟩ := hY' k ((z1 k).2 (.inl hz))
        refine ⟨by simpa using q1, ?_⟩
        rcases q2 with (h | h | h) | h
        · exact .inl h
        · exact absurd h (z2 k hz).1
        · exact absurd h (z2 k hz).2
        · exact .inr (Nat.le_trans hb.size h)
end
end Go.Proofs.YtblgligagngpfaaDoor.Mu
namespace Go.Proofs.YtblgligagngpfaaDoor.Mu
open Go.ChangeShapes Go.WideShapes Go.ChangeAt Go.RowKit

attribute [local go_sem] Oper.semAt_some

/-- Block g holds these truth values, and nothing else. -/
def ArrB (W : World) (g : Nat) (sl : List Bool) : Prop := W.heap[g]? = some (.cells (sl.map Value.bool).toArray 4 (0, 0))
section
variable {W : World} {g : Nat} {sl : List Bool}
theorem ArrB.cell (h : ArrB W g sl) {j : Nat} {b : Bool} (hb : sl[j]? = some b) : W.cell? ⟨g, j, none⟩ = some (.bool b) := by
  unfold ArrB at h
  simp [World.cell?, h, hb]
theorem ArrB.frozen (h : ArrB W g sl) (j : Nat) : W.frozen? ⟨g, j, none⟩ = false := by
  unfold ArrB at h
  simp [World.frozen?, h]
theorem ArrB.set_ (h : ArrB W g sl) (j : Nat) (b : Bool) : ArrB (W.setCell ⟨g, j, none⟩ (.bool b)) g (sl.set j b) := by
  unfold ArrB at *
  rw [heap_setCell_same W g j _ 4 (.bool b) h]
  simp [List.map_set]
end
/-- What is not come to yet: t stands where it is. -/
def whOf (t : Bool) (sl : List Bool) (u : Nat) : Bool := match sl[u]? with
  | some b => b != t
  | none => false
theorem whOf_at {t : Bool} {sl : List Bool} {u : Nat} {b : Bool} (h : sl[u]? = some b) : whOf t sl u = (b != t) := by unfold whOf; rw [h]
theorem whOf_set {t : Bool} {sl : List Bool} {u : Nat} (h : u < sl.length) : whOf t (sl.set u t) = off (whOf t sl) u := by
  funext k
  unfold whOf off
  by_cases e : k = u
  · subst e
    rw [List.getElem?_set_self h, if_pos rfl]
    simp
  · rw [List.getElem?_set_ne (fun e' => e e'.symm), if_neg e]

theorem cell1_ {w : World} {g : Nat} {t : TypeId} {x : Value} (h : w.heap[g]? = some (.cells #[x] t (0, 0))) : w.cell? ⟨g, 0, none⟩ = some x := by simp [World.cell?, h]
theorem frz1_ {w : World} {g : Nat} {t : TypeId} {x : Value} (h : w.heap[g]? = some (.cells #[x] t (0, 0))) : w.frozen? ⟨g, 0, none⟩ = false := by simp [World.frozen?, h]
/-! ### The memory that is read -/
/-- The block of an address. -/
def Bk (A : Option Addr) (k : Nat) : Prop := ∃ off, A = some ⟨k, off, none⟩
/-- A slice value reads as a list of integers. -/
def Rs (W : World) (A : Option Addr) (n : Nat) (l : List Int) : Prop := n = l.length ∧ (0 < n → ∃ b off, A = some ⟨b, off, none⟩ ∧ ∀ k, k < n → W.cell? ⟨b, off + k, none⟩ = some (.int .i64 (l[k]?.getD 0)))
theorem Rs.keep {W W' : World} {A : Option Addr} {n : Nat} {l : List Int} (h : Rs W A n l) (hk : ∀ k, Bk A k → W'.heap[k]? = W.heap[k]?) : Rs W' A n l :=
  ⟨h.1, fun hn => by
    obtain ⟨b, off, e, hc⟩ := h.2 hn
    exact ⟨b, off, e, fun k hk' => (World.cell?_of_block (a := ⟨b, off + k, none⟩) (hk b ⟨off, e⟩)).trans (hc k hk')⟩⟩
theorem Rs.of_ri {W : World} {B : Nat} {A : Option Addr} {n : Nat} {l : List Int} (h : RI .i64 W B A n l) : Rs W A n l := ⟨h.1, fun hn => by
  obtain ⟨b, off, e, _, hc⟩ := h.2 hn
  exact ⟨b, off, e, hc⟩⟩
/-- Where things lie. -/
structure Dc where
  ab : Nat
  ob : Nat
  sbx : Nat
  sb : Nat
  n : Nat
  ln : Nat
  fc : Nat
  nc : Nat
  tc : Nat
  FA : Option Addr
  NA : Option Addr
  TA : Option Addr
  F : List Int
  N : List Int
  TO : List Int
/-- What is read, and written by nobody. -/
def Dc.reads (c : Dc) (k : Nat) : Prop := k = c.ab ∨ k = c.ob ∨ k = c.sbx ∨ Bk c.FA k ∨ Bk c.NA k ∨ Bk c.TA k
structure Rd (c : Dc) (fo : Nat) (W : World) : Prop where
  c0 : W.cell? ⟨c.ab, 0, none⟩ = some (.slice c.FA c.n c.fc)
  c1 : W.cell? ⟨c.ab, 1, none⟩ = some (.slice c.NA c.ln c.nc)
  c2 : W.cell? ⟨c.ab, 2, none⟩ = some (.slice c.TA c.ln c.tc)
  rf : Rs W c.FA c.n c.F
  rn : Rs W c.NA c.ln c.N
  rt : Rs W c.TA c.ln c.TO
  ho : W.cell? ⟨c.ob, 0, none⟩ = some (.func (.func fo) #[] #[.pointer (some ⟨c.sbx, 0, none⟩)])
  hx : W.cell? ⟨c.sbx, 0, none⟩ = some (.slice (some ⟨c.sb, 0, none⟩) c.n c.n)
theorem Rd.keep {c : Dc} {fo : Nat} {W W' : World} (h : Rd c fo W) (hk : ∀ k, c.reads k → W'.heap[k]? = W.heap[k]?) : Rd c fo W' := by
  have hc : ∀ k o, c.reads k → W'.cell? ⟨k, o, none⟩ = W.cell? ⟨k, o, none⟩ := fun k o hr => World.cell?_of_block (a := ⟨k, o, none⟩) (hk k hr)
  exact ⟨(hc _ _ (.inl rfl)).trans h.c0, (hc _ _ (.inl rfl)).trans h.c1, (hc _ _ (.inl rfl)).trans h.c2, h.rf.keep fun k hb => hk k (.inr (.inr (.inr (.inl hb)))), h.rn.keep fun k hb => hk k (.inr (.inr (.inr (.inr (.inl hb))))), h.rt.keep fun k hb => hk k (.inr (.inr (.inr (.inr (.inr hb))))), (hc _ _ (.inr (.inl rfl))).trans h.ho, (hc _ _ (.inr (.inr (.inl rfl)))).trans h.hx⟩

/-! ### The way -/
def flatS (st : List (Nat × Int)) : List Value := st.flatMap fun p => [.int .i64 p.1, .int .i64 p.2]
theorem flatS_snoc (st : List (Nat × Int)) (v : Nat) (p : Int) : flatS (st ++ [(v, p)]) = flatS st ++ [.int .i64 v, .int .i64 p] := by simp [flatS]
theorem flatS_len (st : List (Nat × Int)) : (flatS st).length = st.length * 2 := by
  induction st with
  | nil => rfl
  | cons p st ih => simp only [flatS, List.flatMap_cons, List.length_append, List.length_cons, List.length_nil] at *; omega
theorem two_at (w : World) (a b : Value) (t : TypeId) : ∀ j u, [a, b][j]? = some u → (w.alloc (.cells #[a, b] t)).cell? ⟨w.heap.size, j, none⟩ = some u := by
  intro j u hu
  match j, hu with
  | 0, hu => simp at hu; subst hu; simp
  | 1, hu => simp at hu; subst hu; simp
theorem own_bk {w : World} {base e size n k c : Nat} {V : Option Addr} {xs : List Value} (h : w.ownsRow base e size (.slice V k c) n xs) {x : Nat} (hx : (Value.slice V k c).ownBlock = some x) : Bk V x := by
  rcases h.2 with ⟨h', _⟩ | ⟨g, cap, cur, h', _⟩
  · cases h'; cases hx
  · cases h'; cases hx; exact ⟨0, rfl⟩
/-- The blocks that are the way's. -/
def wayB (wb : Nat) (V : Option Addr) (k : Nat) : Prop := k = wb ∨ Bk V k
/-- How to ask whether a variable is open, and shut it. -/
def Opens (c : Dc) (fo : Nat) (t : Bool) : Prop := ∀ (u : Nat) (sl : List Bool) (W : World), Rd c fo W → ArrB W c.sb sl → sl.length = c.n → u < c.n → Calls Tryd.prog fo #[.int .i64 u, .pointer (some ⟨c.sbx, 0, none⟩)] W fun e W' => e = .returned (.bool (whOf t sl u)) ∧ W' = W.setCell ⟨c.sb, u, none⟩ (.bool t)

end Go.Proofs.YtblgligagngpfaaDoor.Mu
namespace Go.Proofs.YtblgligagngpfaaDoor.Mu
open Go.ChangeShapes Go.WideShapes Go.ChangeAt Go.RowKit Go.Shelf

attribute [local go_sem] Oper.semAt_some

/-- The arrows that begin at p, as next has them. -/
def Ch (N : List Int) : Int → List Nat → Prop
  | p, [] => p = -1
  | p, i :: is => p = i ∧ i < N.length ∧ Ch N (N[i]?.getD 0) is
theorem Ch.one {N : List Int} : ∀ {is js : List Nat} {p : Int}, Ch N p is → Ch N p js → is = js
  | [], [], _, _, _ => rfl
  | [], j :: js, p, h, ⟨h1, _⟩ => by have : p = -1 := h; omega
  | i :: is, [], p, ⟨h1, _⟩, h => by have : p = -1 := h; omega
  | i :: is, j :: js, p, ⟨h1, _, h3⟩, ⟨k1, _, k3⟩ => by
    have e : i = j := by omega
    subst e
    rw [Ch.one h3 k3]
/-- Where an arrow leads. -/
def tg (c : Dc) (i : Nat) : Nat := (c.TO[i]?.getD 0).toNat
structure Grf (c : Dc) (R : Nat → List Nat) : Prop where
  chain : ∀ v, v < c.n → Ch c.N (c.F[v]?.getD 0) (R v)
  tgt : ∀ i, i < c.ln → 0 ≤ c.TO[i]?.getD 0 ∧ c.TO[i]?.getD 0 < c.n
  lenN : c.N.length = c.ln
def adjG (c : Dc) (R : Nat → List Nat) (v : Nat) : List Nat := (R v).map (tg c)
theorem Ch.lt {N : List Int} : ∀ {is : List Nat} {p : Int}, Ch N p is → ∀ i ∈ is, i < N.length
  | [], _, _, _, h => by cases h
  | j :: js, _, ⟨_, h1, h2⟩, i, hi => by
    rcases List.mem_cons.1 hi with rfl | hi
    · exact h1
    · exact h2.lt i hi
/-- A stop: the variable, the next arrow, all that are left. -/
abbrev Stp : Type := Nat × Int × List Nat
def stM (st : List Stp) : List (Nat × Int) := st.map fun e => (e.1, e.2.1)
def stD (c : Dc) (st : List Stp) : List (Nat × List Nat) := (st.map fun e => (e.1, e.2.2.map (tg c))).reverse
def stOk (c : Dc) (st : List Stp) : Prop := ∀ e ∈ st, Ch c.N e.2.1 e.2.2 ∧ e.1 < c.n
theorem stM_snoc (st : List Stp) (e : Stp) : stM (st ++ [e]) = stM st ++ [(e.1, e.2.1)] := by simp [stM]
theorem stD_snoc (c : Dc) (st : List Stp) (e : Stp) : stD c (st ++ [e]) = (e.1, e.2.2.map (tg c)) :: stD c st := by simp [stD]
theorem stM_len (st : List Stp) : (stM st).length = st.length := by simp [stM]
theorem stM_one {c : Dc} {st st' : List Stp} (h : stOk c st) (h' : stOk c st') (e : stM st = stM st') : st = st' := by
  induction st generalizing st' with
  | nil => cases st' with
    | nil => rfl
    | cons a b => simp [stM] at e
  | cons a b ih => cases st' with
    | nil => simp [stM] at e
    | cons a' b' =>
      obtain ⟨x, p, is⟩ := a
      obtain ⟨x', p', is'⟩ := a'
      simp only [stM, List.map_cons, List.cons.injEq, Prod.mk.injEq] at e
      obtain ⟨⟨rfl, rfl⟩, e2⟩ := e
      have := Ch.one (h (x, p, is) (by simp)).1 (h' (x, p, is') (by simp)).1
      dsimp only at this
      subst this
      rw [ih (fun e he => h e (List.mem_cons_of_mem _ he)) (fun e he => h' e (List.mem_cons_of_mem _ he)) e2]

/-- How much there is to do still. -/
def leftW (c : Dc) (R : Nat → List Nat) (t : Bool) (sl : List Bool) : Nat := ((List.range c.n).map fun u => if whOf t sl u = true then (R u).length + 2 else 0).sum
def leftSt (st : List Stp) : Nat := (st.map fun e => e.2.2.length + 1).sum
theorem leftSt_snoc (st : List Stp) (e : Stp) : leftSt (st ++ [e]) = leftSt st + (e.2.2.length + 1) := by simp [leftSt]
theorem sum_map_le {l : List Nat} {f g : Nat → Nat} (h : ∀ x ∈ l, f x ≤ g x) : (l.map f).sum ≤ (l.map g).sum := by
  induction l with
  | nil => simp
  | cons a l ih =>
    simp only [List.map_cons, List.sum_cons]
    have := h a (by simp)
    have := ih (fun x hx => h x (List.mem_cons_of_mem _ hx))
    omega
theorem sum_map_at {l : List Nat} {f g : Nat → Nat} {u d : Nat} (hu : u ∈ l) (h : ∀ x ∈ l, f x ≤ g x) (hd : f u + d ≤ g u) : (l.map f).sum + d ≤ (l.map g).sum := by
  induction l with
  | nil => cases hu
  | cons a l ih =>
    simp only [List.map_cons, List.sum_cons]
    rcases List.mem_cons.1 hu with rfl | hu
    · have := sum_map_le (l := l) (f := f) (g := g) (fun x hx => h x (List.mem_cons_of_mem _ hx))
      omega
    · have := h a (by simp)
      have := ih hu (fun x hx => h x (List.mem_cons_of_mem _ hx))
      omega
theorem leftW_set {c : Dc} {R : Nat → List Nat} {t : Bool} {sl : List Bool} {u : Nat} (hsl : sl.length = c.n) (hu : u < c.n) : leftW c R t (sl.set u t) ≤ leftW c R t sl ∧ (whOf t sl u = true → leftW c R t (sl.set u t) + ((R u).length + 2) ≤ leftW c R t sl) := by
  have hw := whOf_set (t := t) (sl := sl) (u := u) (by omega)
  have hle : ∀ x ∈ List.range c.n, (if whOf t (sl.set u t) x = true then (R x).length + 2 else 0) ≤ (if whOf t sl x = true then (R x).length + 2 else 0) := fun x _ => by
    rw [hw]
    by_cases h : off (whOf t sl) u x = true
    · rw [if_pos h, if_pos (off_true.1 h).2]; exact Nat.le_refl _
    · rw [if_neg h]; exact Nat.zero_le _
  refine ⟨sum_map_le hle, fun h => sum_map_at (u := u) (by simpa using hu) hle ?_⟩
  rw [hw, if_neg (by simp [off]), if_pos h]
  omega
theorem pick {α : Type} {P : α → Nat → Prop} (h : ∀ a m m', P a m → P a m' → m = m') : ∃ f : α → Nat, ∀ a m, P a m → f a = m := by
  classical
  refine ⟨fun a => if h : ∃ m, P a m then Classical.choose h else 0, fun a m hm => ?_⟩
  have hex : ∃ m, P a m := ⟨m, hm⟩
  simp only [dif_pos hex]
  exact h a _ _ (Classical.choose_spec hex) hm
theorem flatS_one : ∀ {a b : List (Nat × Int)}, flatS a = flatS b → a = b
  | [], [], _ => rfl
  | [], x :: b, h => by simp [flatS] at h
  | x :: a, [], h => by simp [flatS] at h
  | (x, p) :: a, (y, q) :: b, h => by
    simp only [flatS, List.flatMap_cons, List.cons_append, List.nil_append, List.cons.injEq, Value.int.injEq, true_and] at h
    obtain ⟨h1, h2, h3⟩ := h
    have e : x = y := by omega
    subst e h2
    rw [flatS_one (a := a) (b := b) h3]
theorem own_one {w : World} {base e size n : Nat} {v : Value} {xs ys : List Value} (h : w.ownsRow base e size v n xs) (h' : w.ownsRow base e size v n ys) : xs = ys := by
  have l1 := h.1
  have l2 := h'.1
  rcases h.2 with ⟨rfl, h0⟩ | ⟨g, cap, cur, rfl, _, hg, _, _, _, ht⟩
  · subst h0
    simp at l1 l2
    rw [l1, l2]
  · rcases h'.2 with ⟨h2, _⟩ | ⟨g', cap', cur', h2, _, hg', _, _, _, ht'⟩
    · simp at h2
    · simp only [Value.slice.injEq, Option.some.injEq, Addr.mk.injEq, and_true, true_and] at h2
      obtain ⟨rfl, rfl⟩ := h2
      rw [hg] at hg'
      cases hg'
      rw [← ht, ← ht']
/-- What the iterator owns, or reads. -/
def Dc.mine (c : Dc) (vb : Nat) (k : Nat) : Prop := c.reads k ∨ k = c.sb ∨ k = vb
/-- How many there can be. -/
theorem nd_len {l : List Nat} {n : Nat} (h : l.Nodup) (hl : ∀ x ∈ l, x < n) : l.length ≤ n := by
  have := List.Nodup.length_le_of_subset h (l₂ := List.range n) (fun v hv => by simpa using hl v hv)
  simpa using this
theorem wh_lt {t : Bool} {sl : List Bool} {u : Nat} (h : whOf t sl u = true) : u < sl.length := by
  unfold whOf at h
  cases hg : sl[u]? with
  | none => rw [hg] at h; cases h
  | some b => exact (List.getElem?_eq_some_iff.1 hg).1
def SeqOut (c : Dc) (fo : Nat) (R : Nat → List Nat) (t : Bool) (v : Nat) (sl0 : List Bool) (B xs : List Nat) (W : World) : Prop :=
  ∃ sl', ArrB W c.sb sl' ∧ sl'.length = c.n ∧ Rd c fo W ∧ Over (adjG c R) v (whOf t sl0) (whOf t sl') xs ∧ ((∀ u, u < c.n → whOf t sl0 u = true ∨ u ∈ B) → Order (adjG c R) (fun _ => False) B → Order (adjG c R) (fun _ => False) (B ++ xs))
structure SeqOk (c : Dc) (fo vb v : Nat) (sl0 : List Bool) (W : World) : Prop where
  rd : Rd c fo W
  arr : ArrB W c.sb sl0
  hv : W.cell? ⟨vb, 0, none⟩ = some (.int .i64 v)
  lt : ∀ k, c.mine vb k → k < W.heap.size

theorem own_cap2 {w : World} {base e size n g cap : Nat} {xs : List Value} (h : w.ownsRow base e size (.slice (some ⟨g, 0, none⟩) n cap) n xs) : n ≤ cap ∧ cap ≤ 9223372036854775807 := by
  rcases h.2 with ⟨h', _⟩ | ⟨g', cap', cur, h', hb, hg, hnc, hcm, hcs, htake⟩
  · simp at h'
  · simp only [Value.slice.injEq, Option.some.injEq, Addr.mk.injEq, and_true, true_and] at h'
    obtain ⟨rfl, rfl⟩ := h'
    unfold maxLen at hcm
    exact ⟨hnc, by omega⟩
section
variable {c : Dc} {fo vb v wb base : Nat} {R : Nat → List Nat} {t : Bool} {wh0 : Nat → Bool} {Y0 : Nat → Prop} {W0 : World} {B : List Nat} {J : List Nat → (Nat → Prop) → World → Prop}
theorem off_same {wh : Nat → Bool} {u : Nat} (h : wh u = false) : off wh u = wh := by
  funext k
  unfold off
  split
  · rename_i e; rw [e, h]
  · rfl
end

section
variable {c : Dc} {fo vb v wb base : Nat} {R : Nat → List Nat} {t : Bool} {wh0 : Nat → Bool} {Y0 : Nat → Prop} {W0 : World} {B : List Nat} {J : List Nat → (Nat → Prop) → World → Prop}
theorem own_blk {w w' : World} {base e size n : Nat} {u : Value} {xs : List Value} (h : w.ownsRow base e size u n xs) (hk : ∀ x, u.ownBlock = some x → w'.heap[x]? = w.heap[x]?) : w'.ownsRow base e size u n xs := by
  refine ⟨h.1, ?_⟩
  rcases h.2 with h2 | ⟨g, cap, cur, rfl, hb, hg, rest⟩
  · exact .inl h2
  · exact .inr ⟨g, cap, cur, rfl, hb, (hk g rfl).trans hg, rest⟩
theorem adj_lt (hG : Grf c R) {x u : Nat} (hx : x < c.n) (hu : u ∈ adjG c R x) : u < c.n := by
  unfold adjG at hu
  obtain ⟨i, hi, rfl⟩ := List.mem_map.1 hu
  have := (hG.chain x hx).lt i hi
  have := hG.tgt i (by rw [← hG.lenN]; exact this)
  unfold tg
  omega
end

end Go.Proofs.YtblgligagngpfaaDoor.Mu
namespace Go.Proofs.YtblgligagngpfaaDoor.Mu
open Go.ChangeShapes Go.WideShapes Go.ChangeAt Go.RowKit Go.Shelf

attribute [local go_sem] Oper.semAt_some

/-- A mark among the deferred calls: the block for a loop's rounds. -/
def mkM (D : Nat) : Deferred := { target := .collected D, args := #[] }
/-- A function leaves by its marks. -/
theorem leaves_marks {F : Fence} {n : Nat} {P : Program} {fn : Func} {tmps : Array Value} {R : Ending → World → Prop} : ∀ {Ds : List Nat} {w : World}, Ds.Nodup → (∀ D ∈ Ds, w.heap[D]? = some (.deferred (some []))) →
    (∀ w', Mv (fun k => k ∈ Ds) w w' → LeavesInM F n P fn tmps R [] .returning w') → LeavesInM F n P fn tmps R (Ds.map mkM) .returning w
  | [], w, _, _, h => h w (Mv.refl _ w)
  | D :: Ds, w, hnd, hD, h => by
    rw [List.nodup_cons] at hnd
    have hk := hD D (by simp)
    refine ⟨by simp, .inl ⟨D, _, rfl, run_takeDeferred hk, ?_⟩⟩
    refine leaves_marks hnd.2 (fun E hE => ?_) (fun w' hm => h w' ?_)
    · rw [World.putObj_heap_other (fun e => hnd.1 (by rw [← e]; exact hE))]
      exact hD E (List.mem_cons_of_mem _ hE)
    · have m1 : Mv (fun k => k ∈ D :: Ds) w (w.putObj D (.deferred none)) := (Mv.refl _ w).putObj (.inl (by simp)) _
      exact m1.trans hm (fun j hj => .inl (List.mem_cons_of_mem _ hj))

section
variable {n : Nat} {P : Program}
/-- A loop over such a function, in a function of its own. -/
theorem range_outer {α : Type} {g : Operand} {ps : Array Tmp} {assign body : Code} {Q : Exit → Act → World → Prop} {a : Act} {w : World}
    (h1 : 1 ≤ n) {gf : Nat} {lb : Array Value} (hg : a.eval g = .func (.func gf) #[] lb) (eg : ∀ args w, (callFunc gf args).run P w = .ok (.enter gf args) w)
    {encs : α → Array Value} {Mine : Nat → Prop} {Ok : World → Prop} {S : List α → World → Prop} {N : Nat} (hseq : SeqF Fence.wide (n - 1) P gf lb encs Mine Ok S N) (hok : ∀ W, Bel w W → Ok W) (hmine : ∀ k, Mine k → k < w.heap.size) (hps : ∀ x, (encs x).size = ps.size)
    (I : List α → (Nat → Prop) → World → Prop) (hI : Stable I) {Y0 : Nat → Prop} (hY0 : ∀ k, Y0 k → k < w.heap.size ∧ ¬ Mine k) (h0 : I [] Y0 w) (a₁ : α → Act)
    (hassign : ∀ (l : Nat) (x : α) (W : World) (K : Act → World → Prop), K (a₁ x) W → assign.wpIn (Fence.wide.inRound l) (n - 1 - 1) P (Exit.then K (fun _ _ _ => False)) { tmps := (ps.zip (encs x)).foldl (fun t (p, v) => t.setIfInBounds p v) a.tmps, defers := [] } W)
    (hbody : ∀ (l : Nat) (pre : List α) (x : α) (Y : Nat → Prop) (W : World), w.heap.size ≤ W.heap.size → (∃ r, W.heap[l]? = some (.loop r)) → ¬ Y l → I pre Y W → (∀ k, Y k → k < W.heap.size) → pre.length < N →
      body.wpIn (Fence.wide.inRound l) (n - 1 - 1) P (bodyEnds fun W' => Mv Y W W' ∧ ∃ Y', I (pre ++ [x]) Y' W' ∧ ∀ k, Y' k → k < W'.heap.size ∧ (Y k ∨ W.heap.size ≤ k)) (a₁ x) W)
    (hS : ∀ xs W W', S xs W → W.heap.size ≤ W'.heap.size → (∀ k, k < w.heap.size → W'.heap[k]? = W.heap[k]?) → S xs W')
    (hdone : ∀ (D : Nat) (xs : List α) (Y : Nat → Prop) (W : World), w.heap.size ≤ D → S xs W → I xs Y W → Mv (fun k => Y0 k ∨ Mine k) w W → (∀ k, Y k → k < W.heap.size ∧ (Y0 k ∨ w.heap.size ≤ k)) → W.heap[D]? = some (.deferred (some [])) → ¬ Y D → Q .normal { a with defers := mkM D :: a.defers } W) :
    (Code.rangeFunc g ps assign body).wpIn Fence.wide n P Q a w := by
  refine range_core (w := w) (l := w.heap.size + 1) (dd := w.heap.size) (mark := [mkM w.heap.size]) (dk := fun k => k = w.heap.size) (fun fn => (w.alloc (.deferred (some []))).alloc (.loop { state := .ready, pending := none, fn, tmps := a.tmps, params := ps, assign, body, defers := w.heap.size })) (fun fn _ => ⟨run_enterLoop_outer _ _ _ _ _, ((Bel.refl w).alloc _).alloc _, ?_, ?_⟩) (by omega) (fun k hk => by subst hk; exact ⟨Nat.le_refl _, by omega⟩) h1 hg trivial eg hseq hok hmine hps I hI hY0 h0 a₁ hassign (fun pre x Y W q1 q2 q3 q4 q5 q6 => hbody _ pre x Y W q1 q2 q3 q4 q5 q6) hS (fun xs Y W q1 q2 q3 q4 q5 => hdone w.heap.size xs Y W (Nat.le_refl _) q1 q2 q3 q4 (q5 _ rfl).1 (q5 _ rfl).2)
  · have := World.alloc_heap_new (w.alloc (.deferred (some []))) (.loop { state := .ready, pending := none, fn, tmps := a.tmps, params := ps, assign, body, defers := w.heap.size })
    rwa [World.size_alloc] at this
  · rintro k rfl
    exact (Below.heap_alloc _ _ _ (by simp)).trans (World.alloc_heap_new w _)
/-- The same within a round of another. -/
theorem range_inner {α : Type} {g : Operand} {ps : Array Tmp} {assign body : Code} {Q : Exit → Act → World → Prop} {a : Act} {w : World}
    {l₀ : Nat} {r₀ : Loop} (hl₀ : w.heap[l₀]? = some (.loop r₀)) (h1 : 1 ≤ n) {gf : Nat} {lb : Array Value} (hg : a.eval g = .func (.func gf) #[] lb) (eg : ∀ args w, (callFunc gf args).run P w = .ok (.enter gf args) w)
    {encs : α → Array Value} {Mine : Nat → Prop} {Ok : World → Prop} {S : List α → World → Prop} {N : Nat} (hseq : SeqF (Fence.wide.inRound l₀) (n - 1) P gf lb encs Mine Ok S N) (hok : ∀ W, Bel w W → Ok W) (hmine : ∀ k, Mine k → k < w.heap.size) (hps : ∀ x, (encs x).size = ps.size)
    (I : List α → (Nat → Prop) → World → Prop) (hI : Stable I) {Y0 : Nat → Prop} (hY0 : ∀ k, Y0 k → k < w.heap.size ∧ ¬ Mine k) (h0 : I [] Y0 w) (a₁ : α → Act)
    (hassign : ∀ (l : Nat) (x : α) (W : World) (K : Act → World → Prop), K (a₁ x) W → assign.wpIn ((Fence.wide.inRound l₀).inRound l) (n - 1 - 1) P (Exit.then K (fun _ _ _ => False)) { tmps := (ps.zip (encs x)).foldl (fun t (p, v) => t.setIfInBounds p v) a.tmps, defers := [] } W)
    (hbody : ∀ (l : Nat) (pre : List α) (x : α) (Y : Nat → Prop) (W : World), w.heap.size ≤ W.heap.size → (∃ r, W.heap[l]? = some (.loop r)) → ¬ Y l → I pre Y W → (∀ k, Y k → k < W.heap.size) → pre.length < N →
      body.wpIn ((Fence.wide.inRound l₀).inRound l) (n - 1 - 1) P (bodyEnds fun W' => Mv Y W W' ∧ ∃ Y', I (pre ++ [x]) Y' W' ∧ ∀ k, Y' k → k < W'.heap.size ∧ (Y k ∨ W.heap.size ≤ k)) (a₁ x) W)
    (hS : ∀ xs W W', S xs W → W.heap.size ≤ W'.heap.size → (∀ k, k < w.heap.size → W'.heap[k]? = W.heap[k]?) → S xs W')
    (hdone : ∀ (xs : List α) (Y : Nat → Prop) (W : World), S xs W → I xs Y W → Mv (fun k => Y0 k ∨ Mine k) w W → (∀ k, Y k → k < W.heap.size ∧ (Y0 k ∨ w.heap.size ≤ k)) → Q .normal a W) :
    (Code.rangeFunc g ps assign body).wpIn (Fence.wide.inRound l₀) n P Q a w := by
  refine range_core (w := w) (l := w.heap.size) (dd := r₀.defers) (mark := []) (dk := fun _ => False) (fun fn => w.alloc (.loop { state := .ready, pending := none, fn, tmps := a.tmps, params := ps, assign, body, defers := r₀.defers })) (fun fn _ => ⟨run_enterLoop_inner hl₀ _ _ _ _ _, (Bel.refl w).alloc _, World.alloc_heap_new w _, fun _ f => f.elim⟩) (Nat.le_refl _) (fun k hk => hk.elim) h1 hg trivial eg hseq hok hmine hps I hI hY0 h0 a₁ hassign (fun pre x Y W q1 q2 q3 q4 q5 q6 => hbody _ pre x Y W q1 q2 q3 q4 q5 q6) hS (fun xs Y W q1 q2 q3 q4 _ => hdone xs Y W q1 q2 q3 q4)
end

end Go.Proofs.YtblgligagngpfaaDoor.Mu
namespace Go.Proofs.YtblgligagngpfaaDoor.Mu
open Go.ChangeShapes Go.WideShapes Go.ChangeAt Go.RowKit Go.Shelf

attribute [local go_sem] Oper.semAt_some

/-- The numbers, from the last one on, each with its place. -/
def backN {m : Nat} (O : List (Fin m)) (k : Nat) : List (Fin m × Nat) := O.zipIdx.reverse.take k
theorem backN_succ {m : Nat} (O : List (Fin m)) {k q : Nat} (hk : k < O.length) (hq : q = O.length - 1 - k) (hl : q < O.length) : backN O (k + 1) = backN O k ++ [(O[q], q)] := by
  unfold backN
  rw [List.take_add_one]
  have : O.zipIdx.reverse[k]? = some (O[q], q) := by
    rw [List.getElem?_reverse (by simpa using hk)]
    simp only [List.length_zipIdx, ← hq]
    simp [List.getElem?_eq_getElem hl]
  rw [this]
  rfl
theorem backN_len {m : Nat} (O : List (Fin m)) {k : Nat} (hk : k ≤ O.length) : (backN O k).length = k := by simp [backN]; omega
def ints2 {m : Nat} (O : List (Fin m)) : List Int := O.map fun x => ((x.val : Nat) : Int)
structure BackOk {m : Nat} (Bs len cap : Nat) (A : Option Addr) (O : List (Fin m)) (W : World) : Prop where
  box : W.heap[Bs]? = some (.cells #[.slice A len cap] 40 (0, 0))
  rs : Rs W A len (ints2 O)
  lt : ∀ k, Bk A k → k < W.heap.size
end Go.Proofs.YtblgligagngpfaaDoor.Mu
namespace Go.Proofs.YtblgligagngpfaaDoor.Mu
open Go.ChangeShapes Go.WideShapes Go.ChangeAt Go.RowKit Go.Shelf

attribute [local go_sem] Oper.semAt_some

theorem run_store_func {P : Program} {w : World} {a : Addr} {m : Mode} (f : Fn) (t b : Array Value) : (store a (.func f t b) m).run P w = stored P w a (.func f t b) m := run_store P w a _ m rfl
attribute [local go_sem] run_store_func
theorem info_bl : (Tryd.prog.info? 4).map (fun i => (i.zero, i.size, i.bytes)) = some (some (.bool false), 1, 1) := by kernel_rfl
theorem info_i64' : (Tryd.prog.info? 3).map (fun i => (i.zero, i.size, i.bytes)) = some (some (.int .i64 0), 1, 8) := by kernel_rfl
theorem info_sl : (Tryd.prog.info? 40).map (fun i => (i.zero, i.size, i.bytes)) = some (some (.slice none 0 0), 1, 24) := by kernel_rfl
theorem ArrB.made (w : World) (n : Nat) : ArrB (w.alloc (.cells (madeCells #[.bool false] n) 4)) w.heap.size (List.replicate n false) := by
  unfold ArrB
  rw [heap_alloc_new]
  congr 2
  apply Array.ext'
  rw [toList_madeCells_one]
  simp
/-- A box that holds a slice of numbers of the call's own. -/
structure Oi (W : World) (ox base : Nat) (V : Option Addr) (k c : Nat) (O : List Nat) : Prop where
  box : W.heap[ox]? = some (.cells #[.slice V k c] 40 (0, 0))
  own : W.ownsRow base 3 1 (.slice V k c) k (O.map fun (x : Nat) => Value.int .i64 (x : Int))
  ne : (Value.slice V k c).ownBlock ≠ some ox
theorem Oi.keep {W W' : World} {ox base k c : Nat} {V : Option Addr} {O : List Nat} (h : Oi W ox base V k c O) (hk : ∀ j, wayB ox V j → W'.heap[j]? = W.heap[j]?) : Oi W' ox base V k c O :=
  ⟨(hk ox (.inl rfl)).trans h.box, own_blk h.own (fun x hx => hk x (.inr (own_bk h.own hx))), h.ne⟩
theorem Oi.len {W : World} {ox base k c : Nat} {V : Option Addr} {O : List Nat} (h : Oi W ox base V k c O) : k = O.length := by
  have := h.own.1
  simp at this
  omega
/-- What is read of a graph. -/
def gB (c : Dc) (k : Nat) : Prop := Bk c.FA k ∨ Bk c.NA k ∨ Bk c.TA k
structure Gr (c : Dc) (W : World) : Prop where
  rf : Rs W c.FA c.n c.F
  rn : Rs W c.NA c.ln c.N
  rt : Rs W c.TA c.ln c.TO
theorem Gr.keep {c : Dc} {W W' : World} (h : Gr c W) (hk : ∀ k, gB c k → W'.heap[k]? = W.heap[k]?) : Gr c W' :=
  ⟨h.rf.keep fun k hb => hk k (.inl hb), h.rn.keep fun k hb => hk k (.inr (.inl hb)), h.rt.keep fun k hb => hk k (.inr (.inr hb))⟩
def aggG (c : Dc) : Value := .agg #[.slice c.FA c.n c.fc, .slice c.NA c.ln c.nc, .slice c.TA c.ln c.tc]
/-- The walk stops here. -/
def StopW (p : Prop) : Prop := p
theorem stopW {p : Prop} (h : StopW p) : p := h
/-- What is seen so far. -/
structure SeenA (n : Nat) (adj : Nat → List Nat) (sl : List Bool) (O keep : List Nat) (i : Nat) : Prop where
  nd : O.Nodup
  part : ∀ u, u < n → whOf true sl u = true ∨ u ∈ O
  dis : ∀ u, whOf true sl u = true → u ∉ O
  lt : ∀ u ∈ O, u < n
  closed : ∀ x ∈ O, ∀ t ∈ adj x, whOf true sl t = false
  ord : Order adj (fun _ => False) O
  from_ : ∀ u ∈ O, ∃ v ∈ keep, Rch adj v u
  got : ∀ v ∈ keep.take i, whOf true sl v = false
theorem SeenA.step {n i v : Nat} {adj : Nat → List Nat} {sl sl' : List Bool} {O keep xs : List Nat} (h : SeenA n adj sl O keep i) (hsl : sl.length = n) (hv : keep[i]? = some v) (ho : Over adj v (whOf true sl) (whOf true sl') xs) (hord : (∀ u, u < n → whOf true sl u = true ∨ u ∈ O) → Order adj (fun _ => False) O → Order adj (fun _ => False) (O ++ xs)) : SeenA n adj sl' (O ++ xs) keep (i + 1) := by
  have hw : ∀ u, whOf true sl u = false → whOf true sl' u = false := fun u hu => by
    cases h' : whOf true sl' u with
    | false => rfl
    | true => have := (ho.part u).2 (.inl h'); rw [hu] at this; cases this
  have hxs : ∀ u ∈ xs, whOf true sl u = true := fun u hu => (ho.part u).2 (.inr hu)
  refine ⟨List.nodup_append.2 ⟨h.nd, ho.nd, fun x hx y hy e => ?_⟩, fun u hu => ?_, fun u hu hm => ?_, fun u hu => ?_, fun x hx t ht => ?_, hord h.part h.ord, fun u hu => ?_, fun w hw' => ?_⟩
  · subst e
    exact h.dis x (hxs x hy) hx
  · rcases h.part u hu with e | e
    · rcases (ho.part u).1 e with e | e
      · exact .inl e
      · exact .inr (List.mem_append_right _ e)
    · exact .inr (List.mem_append_left _ e)
  · rcases List.mem_append.1 hm with e | e
    · exact h.dis u ((ho.part u).2 (.inl hu)) e
    · exact ho.dis u hu e
  · rcases List.mem_append.1 hu with e | e
    · exact h.lt u e
    · have := wh_lt (hxs u e); omega
  · rcases List.mem_append.1 hx with e | e
    · exact hw t (h.closed x e t ht)
    · exact ho.closed x e t ht
  · rcases List.mem_append.1 hu with e | e
    · exact h.from_ u e
    · exact ⟨v, List.mem_of_getElem? hv, ho.from_ u e⟩
  · rw [List.take_add_one, hv] at hw'
    rcases List.mem_append.1 hw' with e | e
    · exact hw w (h.got w e)
    · simp at e
      rw [e]
      exact ho.root
theorem seenA_start {n : Nat} {adj : Nat → List Nat} {keep : List Nat} : SeenA n adj (List.replicate n false) [] keep 0 :=
  ⟨List.nodup_nil, fun u hu => .inl (by rw [whOf_at (b := false) (by simp [hu])]; rfl), fun u _ h => (by cases h), fun u h => (by cases h), fun u h => (by cases h), fun u h => (by cases h), fun u h => (by cases h), fun u h => (by simp at h)⟩
def cellsG (c : Dc) : Array Value := #[.slice c.FA c.n c.fc, .slice c.NA c.ln c.nc, .slice c.TA c.ln c.tc]
/-- A graph in hand, behind reached's own boxes. -/
def cA (c : Dc) (b s : Nat) : Dc := { c with ab := s, ob := s + 2, sbx := b + 3, sb := b + 2 }

theorem Oi.rs {W : World} {ox base k c m : Nat} {V : Option Addr} {O : List (Fin m)} (h : Oi W ox base V k c (O.map Fin.val)) : Rs W V k (ints2 O) := by
  have hl := h.len
  rw [List.length_map] at hl
  refine ⟨by simpa [ints2] using hl, fun hp => ?_⟩
  rcases h.own.2 with ⟨h', h0⟩ | ⟨g, cap, cur, h', _⟩
  · exact absurd h0 (by omega)
  · cases h'
    refine ⟨g, 0, rfl, fun j hj => ?_⟩
    have hj' : j < O.length := by omega
    have := h.own.cells (g := g) rfl j (.int .i64 ((ints2 O)[j]?.getD 0)) (by simp [ints2, List.getElem?_eq_getElem hj'])
    rwa [Addr.add_lit] at this
theorem own_lt_bk {w : World} {base e size n k c : Nat} {V : Option Addr} {xs : List Value} (h : w.ownsRow base e size (.slice V k c) n xs) {j : Nat} (hj : Bk V j) : base ≤ j ∧ j < w.heap.size := by
  obtain ⟨off, hj⟩ := hj
  rcases h.2 with ⟨h', _⟩ | ⟨g, cap, cur, h', _⟩
  · rw [hj] at h'; cases h'
  · refine h.lt j ?_
    rw [hj] at h' ⊢
    cases h'
    rfl
theorem own_mono {w : World} {base base' e size n : Nat} {v : Value} {xs : List Value} (h : w.ownsRow base e size v n xs) (hb : base' ≤ base) : w.ownsRow base' e size v n xs := by
  refine ⟨h.1, ?_⟩
  rcases h.2 with h2 | ⟨g, cap, cur, e1, e2, rest⟩
  · exact .inl h2
  · exact .inr ⟨g, cap, cur, e1, Nat.le_trans hb e2, rest⟩
theorem own_obj {w : World} {base e size n : Nat} {v : Value} {xs : List Value} (h : w.ownsRow base e size v n xs) {x : Nat} (hx : v.ownBlock = some x) : ∃ cur, w.heap[x]? = some (.cells cur e (0, 0)) := by
  rcases h.2 with ⟨rfl, _⟩ | ⟨g, cap, cur, rfl, _, hg, _⟩
  · cases hx
  · cases hx; exact ⟨cur, hg⟩
theorem row_other {w : World} {base e e' size n k c g : Nat} {V : Option Addr} {xs : List Value} {cur : Array Value} (hg : w.heap[g]? = some (.cells cur e' (0, 0))) (h : w.ownsRow base e size (.slice V k c) n xs) (hne : e ≠ e') : ¬ Bk V g := by
  rintro ⟨off, hj⟩
  rcases h.2 with ⟨h', _⟩ | ⟨g', cap, cur', h', _, hg', _⟩
  · rw [hj] at h'; cases h'
  · rw [hj] at h'
    cases h'
    rw [hg] at hg'
    cases hg'
    exact hne rfl
theorem al4 (w : World) (o1 o2 o3 o4 : Obj) : ∃ w4, w4 = (((w.alloc o1).alloc o2).alloc o3).alloc o4 ∧ w4.heap.size = w.heap.size + 4 ∧ w4.heap[w.heap.size]? = some o1 ∧ w4.heap[w.heap.size + 1]? = some o2 ∧ w4.heap[w.heap.size + 2]? = some o3 ∧ w4.heap[w.heap.size + 3]? = some o4 ∧ Bel w w4 := by
  refine ⟨_, rfl, by simp, ?_, ?_, ?_, ?_, ((((Bel.refl w).alloc _).alloc _).alloc _).alloc _⟩
  · exact ((((Bel.refl _).alloc o2).alloc o3).alloc o4).blk (World.alloc_heap_new w o1)
  · have := (((Bel.refl _).alloc o3).alloc o4).blk (World.alloc_heap_new (w.alloc o1) o2)
    rwa [World.size_alloc] at this
  · have := ((Bel.refl _).alloc o4).blk (World.alloc_heap_new ((w.alloc o1).alloc o2) o3)
    rwa [World.size_alloc, World.size_alloc] at this
  · have := World.alloc_heap_new (((w.alloc o1).alloc o2).alloc o3) o4
    rwa [World.size_alloc, World.size_alloc, World.size_alloc] at this
theorem parted_step {adj adjB : Nat → List Nat} {O p q ys : List Nat} {wh wh' : Nat → Bool} {L : List (List Nat)} {v : Nat} (h : Parted adj O wh L) (hO : ∀ x ∈ O, ∀ t ∈ adj x, t ∈ O) (hnd : O.Nodup) (hord : Order adj (fun _ => False) O)
    (hB : ∀ u w, w ∈ adjB u ↔ u ∈ adj w) (he : O = p ++ v :: q) (hq : ∀ u ∈ q, wh u = false) (hov : Over adjB v wh wh' ys) : (ys = [] → Parted adj O wh' L) ∧ (ys ≠ [] → Parted adj O wh' (L ++ [ys])) ∧ ∀ u, u = v ∨ u ∈ q → wh' u = false := by
  have hw : ∀ u, wh u = false → wh' u = false := fun u hu => by
    cases h' : wh' u with
    | false => rfl
    | true => have := (hov.part u).2 (.inl h'); rw [hu] at this; cases this
  refine ⟨fun hy => ?_, fun hy => ?_, fun u hu => ?_⟩
  · subst hy
    have : wh' = wh := funext fun u => by
      cases hu : wh u with
      | false => exact hw u hu
      | true =>
        rcases (hov.part u).1 hu with e | e
        · exact e
        · cases e
    rw [this]
    exact h
  · cases hwv : wh v with
    | true => exact parted_ring h hO hnd hord hB he hq hov hwv
    | false =>
      exfalso
      obtain ⟨u, hu⟩ := List.exists_mem_of_ne_nil ys hy
      have hwu : wh u = true := (hov.part u).2 (.inr hu)
      have back : ∀ {a b : Nat}, Rch adjB a b → Rch adj b a := by
        intro a b hr
        induction hr with
        | refl => exact .refl _
        | step h1 _ ih => exact ih.snoc ((hB _ _).1 h1)
      have := parted_back h hO (back (hov.from_ u hu)) (h.inO u hwu) hwv
      rw [hwu] at this
      cases this
  · rcases hu with rfl | hu
    · exact hov.root
    · exact hw u (hq u hu)
theorem seen_wh {n i : Nat} {adj : Nat → List Nat} {sl : List Bool} {O keep : List Nat} (h : SeenA n adj sl O keep i) (hsl : sl.length = n) (u : Nat) : whOf false sl u = true ↔ u ∈ O := by
  cases hu : sl[u]? with
  | none =>
    have hn : n ≤ u := by rw [← hsl]; exact List.getElem?_eq_none_iff.1 hu
    constructor
    · intro e; unfold whOf at e; rw [hu] at e; cases e
    · intro e; have := h.lt u e; omega
  | some x =>
    have hn : u < n := by rw [← hsl]; exact (List.getElem?_eq_some_iff.1 hu).1
    rw [whOf_at hu]
    have hp := h.part u hn
    have hd := h.dis u
    rw [whOf_at hu] at hp hd
    cases x
    · refine ⟨fun e => (by cases e), fun e => ?_⟩
      exact absurd e (hd rfl)
    · refine ⟨fun _ => ?_, fun _ => rfl⟩
      rcases hp with e | e
      · cases e
      · exact e
theorem seen_closed {n i : Nat} {adj : Nat → List Nat} {sl : List Bool} {O keep : List Nat} (h : SeenA n adj sl O keep i) (hlt : ∀ x, x < n → ∀ t ∈ adj x, t < n) : ∀ x ∈ O, ∀ t ∈ adj x, t ∈ O := fun x hx t ht => by
  rcases h.part t (hlt x (h.lt x hx) t ht) with e | e
  · rw [h.closed x hx t ht] at e; cases e
  · exact e
theorem backN_here {m : Nat} {O : List (Fin m)} {pre : List (Fin m × Nat)} {x : Fin m} {q : Nat} (h : pre ++ [(x, q)] = backN O (pre.length + 1)) (hl : pre.length < O.length) : pre = backN O pre.length ∧ q = O.length - 1 - pre.length ∧ ∃ hq : q < O.length, x = O[q] := by
  have hq : O.length - 1 - pre.length < O.length := by omega
  rw [backN_succ O hl rfl hq] at h
  obtain ⟨h1, h2⟩ := List.append_inj' h rfl
  simp only [List.cons.injEq, Prod.mk.injEq, and_true] at h2
  obtain ⟨h2, h3⟩ := h2
  subst h3
  exact ⟨h1, rfl, hq, h2⟩
/-- What the second loop owns. -/
def YB (b s : Nat) (d : Dc) (U : Option Addr) (vals : List Value) (j : Nat) : Prop := j = b + 1 ∨ j = b + 2 ∨ j = b + 3 ∨ j = s ∨ j = s + 1 ∨ gB d j ∨ Bk U j ∨ ∃ v ∈ vals, v.ownBlock = some j
/-- A list of lists, of the call's own. -/
structure LL (base : Nat) (U : Option Addr) (m mc : Nat) (vals : List Value) (L : List (List Nat)) (W : World) : Prop where
  own : W.ownsRow base 40 1 (.slice U m mc) m vals
  lls : vals.length = L.length
  row : ∀ (i : Nat) (v : Value), vals[i]? = some v → ∃ (r : List Nat) (A : Option Addr) (c : Nat), L[i]? = some r ∧ v = .slice A r.length c ∧ W.ownsRow base 3 1 v r.length (r.map fun (x : Nat) => Value.int .i64 (x : Int))
theorem LL.keep {base m mc : Nat} {U : Option Addr} {vals : List Value} {L : List (List Nat)} {W W' : World} (h : LL base U m mc vals L W) (hk : ∀ j, (Bk U j ∨ ∃ v ∈ vals, v.ownBlock = some j) → W'.heap[j]? = W.heap[j]?) : LL base U m mc vals L W' :=
  ⟨own_blk h.own (fun x hx => hk x (.inl (own_bk h.own hx))), h.lls, fun i v hv => by
    obtain ⟨r, A, c, e1, e2, e3⟩ := h.row i v hv
    exact ⟨r, A, c, e1, e2, own_blk e3 (fun x hx => hk x (.inr ⟨v, List.mem_of_getElem? hv, hx⟩))⟩⟩
theorem LL.lt {base m mc : Nat} {U : Option Addr} {vals : List Value} {L : List (List Nat)} {W : World} (h : LL base U m mc vals L W) (j : Nat) (hj : Bk U j ∨ ∃ v ∈ vals, v.ownBlock = some j) : base ≤ j ∧ j < W.heap.size := by
  rcases hj with hj | ⟨v, hv, hj⟩
  · exact own_lt_bk h.own hj
  · obtain ⟨i, hi⟩ := List.getElem?_of_mem hv
    obtain ⟨r, A, c, e1, e2, e3⟩ := h.row i v hi
    exact e3.lt j hj
/-- What rings tells. -/
def RingsPost (c d : Dc) (R : Nat → List Nat) (keep : List Nat) (W : World) (e : Ending) (w' : World) : Prop :=
  ∃ U m mc vals L O s, e = .returned (.slice U m mc) ∧ Mv (fun j => gB c j ∨ gB d j) W w' ∧ Gr c w' ∧ Gr d w' ∧ W.heap.size ≤ s ∧ LL s U m mc vals L w' ∧ m ≤ c.n ∧ Parted (adjG c R) O (fun _ => false) L ∧ (∀ v ∈ keep, v ∈ O) ∧ (∀ u ∈ O, u < c.n) ∧ ∀ x ∈ O, ∀ t ∈ adjG c R x, t ∈ O

end Go.Proofs.YtblgligagngpfaaDoor.Mu

