/-
  The reference's Size.
  Whether two types are the same: the plain function, and the reference's Same.
  ty.Same, walked: a list of pairs that are still to be compared.
  The statements' great: whether types are more than are gone through.
-/
import Derived.Test.YtblgligagngpfaaDoorTyPuta
import Derived.Test.YtblgligagngpfaaDoorTyMayN
import Derived.Test.YtblgligagngpfaaDoorTyWrite
import Derived.BigQuiet
import Derived.Test.YtblgligagngpfaaDoorIneqC
import Derived.Deep.DeepCutAuto
namespace Go.Proofs.YtblgligagngpfaaDoor.Mu
open Go.ChangeShapes Go.WideShapes Go.ChangeAt Go.RowKit Go.Shelf

attribute [local go_sem] Oper.semAt_some
set_option linter.unusedVariables false

/-- How many nodes the first ones have. -/
def Fo.upto : Fo → Nat → Nat
  | .nil, _ => 0
  | .cons _ _ _ _ _ _, 0 => 0
  | .cons _ _ _ _ kids rest, j + 1 => 1 + kids.size + rest.upto j
theorem Fo.upto_succ : ∀ (f : Fo) (j : Nat), j < f.len → f.upto (j + 1) = f.upto j + (f.nth j).size
  | .nil, j, h => by simp [Fo.len] at h
  | .cons k n v c kids rest, 0, _ => by cases rest <;> simp [Fo.upto, Fo.nth, Fo.size]
  | .cons k n v c kids rest, j + 1, h => by
    have := Fo.upto_succ rest j (by simp only [Fo.len] at h; omega)
    simp only [Fo.upto, Fo.nth] at this ⊢
    rw [this]
    omega
theorem Fo.upto_zero (f : Fo) : f.upto 0 = 0 := by cases f <;> rfl
theorem Fo.upto_all : ∀ f : Fo, f.upto f.len = f.size
  | .nil => rfl
  | .cons k n v c kids rest => by
    simp only [Fo.len, Fo.size, Nat.add_comm 1, Fo.upto, Fo.upto_all rest]
theorem Fo.upto_le : ∀ (f : Fo) (j : Nat), f.upto j ≤ f.size
  | .nil, j => by simp [Fo.upto]
  | .cons k n v c kids rest, 0 => by simp [Fo.upto]
  | .cons k n v c kids rest, j + 1 => by
    have := Fo.upto_le rest j
    simp only [Fo.upto, Fo.size]
    omega
set_option maxRecDepth 100000 in
set_option maxHeartbeats 1000000 in
theorem rsize_any (N : Nat) : ∀ (k n v c : Int) (A : Option Addr) (len cap : Nat) (kids : Fo) (w : World), kids.size = N → KidsAt w (Old w) A len cap kids → kids.size ≤ 1400000 →
    Calls Tryd.prog 11 #[.agg #[.int .u8 k, .int .i64 n, .int .i64 v, .int .u8 c, .slice A len cap]] w fun e w' => e = .returned (.int .i64 ((1 + kids.size : Nat) : Int)) ∧ Bel w w' := by
  induction N using Nat.strongRecOn with
  | _ N ih =>
    intro k n v c A len cap kids w hN h hsz
    have H := Lib.hid h
    have IH := Lib.hid ih
    have HL : Hid (len = kids.len) := Lib.hid h.1
    have HN := Lib.hid hN
    have hlen : len ≤ 1400000 := by have := h.1; have := kids.len_le; omega
    clear h ih hN
    go_enter Tryd.func11, Tryd.ntmps11
    go_wp2_with fail
    have q1 := blk1 w (.cells #[.int .u8 k, .int .i64 n, .int .i64 v, .int .u8 c, .slice A len cap] 27)
    have hb1 : Bel w (w.alloc (.cells #[.int .u8 k, .int .i64 n, .int .i64 v, .int .u8 c, .slice A len cap] 27)) := (Bel.refl w).alloc _
    have hs1 : (w.alloc (.cells #[.int .u8 k, .int .i64 n, .int .i64 v, .int .u8 c, .slice A len cap] 27)).heap.size = w.heap.size + 1 := by simp
    obtain ⟨w1, hw1⟩ : ∃ w1, w1 = w.alloc (.cells #[.int .u8 k, .int .i64 n, .int .i64 v, .int .u8 c, .slice A len cap] 27) := ⟨_, rfl⟩
    rw [← hw1] at q1 hb1 hs1 ⊢
    have HQ := Lib.hid q1
    have HB1 := Lib.hid hb1
    have HS1 := Lib.hid hs1
    clear q1 hb1 hs1 hw1
    go_loopw [3, 4] (fun s i wr => ∃ j : Nat, j ≤ len ∧ i = .int .i64 (j : Int) ∧ s = .int .i64 ((1 + kids.upto j : Nat) : Int) ∧ Hid (Bel w1 wr)) (fun _ i _ => len - (intOf i).toNat)
    case atStart => exact ⟨0, Nat.zero_le _, rfl, by rw [Fo.upto_zero]; rfl, Lib.hid (Bel.refl _)⟩
    case round =>
      obtain ⟨j, hj, rfl, rfl, HB⟩ := hrel
      have hbx := (HB.out.block w.heap.size (by have := HS1.out; omega)).trans HQ.out
      obtain ⟨⟨x0, x1, x2, x3, x4⟩, _⟩ := cells5 hbx
      clear hbx
      by_cases hlt : j < len
      · have hkr : KidsAt wr (Old w) A len cap kids := H.out.keep fun i hi => (HB.out.block i (Nat.lt_of_lt_of_le hi HB1.out.size)).trans (HB1.out.block i hi)
        obtain ⟨ub, uo, eA, hob, hfo⟩ := hkr.2.2 (by omega)
        subst eA
        obtain ⟨k', n', v', c', kids', A', cap', en, e1, e2, e3, e4, e5, hk'⟩ := FoAt.nth kids j ub uo hfo (by rw [← HL.out]; exact hlt)
        have hsn := Fo.nth_size kids j
        rw [en] at hsn
        simp only [Fo.size] at hsn
        have HU : Hid (kids.upto (j + 1) = kids.upto j + (1 + kids'.size)) := Lib.hid (by rw [Fo.upto_succ kids j (by rw [← HL.out]; exact hlt), en]; simp [Fo.size])
        have HUL := Lib.hid (Fo.upto_le kids (j + 1))
        have HC : Hid (Calls Tryd.prog 11 #[.agg #[.int .u8 k', .int .i64 n', .int .i64 v', .int .u8 c', .slice A' kids'.len cap']] wr fun e w' => e = .returned (.int .i64 ((1 + kids'.size : Nat) : Int)) ∧ Bel wr w') := Lib.hid (IH.out kids'.size (by have := HN.out; omega) k' n' v' c' A' kids'.len cap' kids' wr rfl (hk'.wide fun i hi => Nat.lt_of_lt_of_le hi (Nat.le_trans HB1.out.size HB.out.size)) (by omega))
        obtain ⟨z, hz⟩ : ∃ z : Int, z = ((1 + kids'.size : Nat) : Int) := ⟨_, rfl⟩
        obtain ⟨y, hy⟩ : ∃ y : Int, y = ((1 + kids.upto j : Nat) : Int) := ⟨_, rfl⟩
        rw [← hz] at HC
        rw [← hy]
        have HZ := Lib.hid (And.intro hz hy)
        have i1 : (0 : Int) ≤ (j : Int) := by omega
        have i2 : (j : Int) < (len : Int) := by omega
        clear hkr hfo en hk' hsn hz hy
        go_wp2_with fail
        refine HC.out.mono ?_
        rintro e w2 ⟨rfl, hb2⟩
        have HB2 := Lib.hid (HB.out.on hb2)
        clear hb2
        go_wp2_with fail
        go_roundw
        case rel =>
          refine ⟨j + 1, by omega, by go_num, ?_, HB2⟩
          have g1 := HZ.out.1
          have g2 := HZ.out.2
          have g3 := HU.out
          have g4 := HUL.out
          rw [wrap64_id (by omega) (by omega)]
          congr 1
          omega
        case measure => simp [intOf]; omega
      · obtain rfl : j = len := by omega
        go_wp2_with fail
        go_ret
        exact ⟨by rw [HL.out, Fo.upto_all]; rfl, HB1.out.on HB.out⟩
end Go.Proofs.YtblgligagngpfaaDoor.Mu
namespace Go.Proofs.YtblgligagngpfaaDoor.Mu
open Go.ChangeShapes Go.WideShapes Go.ChangeAt Go.RowKit Go.Shelf

attribute [local go_sem] Oper.semAt_some
set_option linter.unusedVariables false

/-- Whether two lists of types are the same. -/
def Fo.eqB : Fo → Fo → Bool
  | .nil, .nil => true
  | .cons k n v c a r, .cons k' n' v' c' a' r' => (decide (k = k') && decide (n = n') && (decide (v = v') && decide (c = c'))) && (Fo.eqB a a' && Fo.eqB r r')
  | .nil, .cons _ _ _ _ _ _ => false
  | .cons _ _ _ _ _ _, .nil => false
theorem Fo.eqB_iff : ∀ f g : Fo, Fo.eqB f g = true ↔ f = g
  | .nil, .nil => by simp [Fo.eqB]
  | .nil, .cons _ _ _ _ _ _ => by simp [Fo.eqB]
  | .cons _ _ _ _ _ _, .nil => by simp [Fo.eqB]
  | .cons k n v c a r, .cons k' n' v' c' a' r' => by
    have h1 := Fo.eqB_iff a a'
    have h2 := Fo.eqB_iff r r'
    simp only [Fo.eqB, Bool.and_eq_true, decide_eq_true_eq, h1, h2, Fo.cons.injEq]
    constructor
    · rintro ⟨⟨⟨e1, e2⟩, e3, e4⟩, e5, e6⟩; exact ⟨e1, e2, e3, e4, e5, e6⟩
    · rintro ⟨e1, e2, e3, e4, e5, e6⟩; exact ⟨⟨⟨e1, e2⟩, e3, e4⟩, e5, e6⟩
theorem Fo.eqB_refl (f : Fo) : Fo.eqB f f = true := (Fo.eqB_iff f f).2 rfl
theorem Fo.eqB_no {f g : Fo} (h : f ≠ g) : Fo.eqB f g = false := by
  cases e : Fo.eqB f g
  · rfl
  · exact absurd ((Fo.eqB_iff f g).1 e) h
theorem Fo.nth_ext : ∀ f g : Fo, f.len = g.len → (∀ i, i < f.len → f.nth i = g.nth i) → f = g
  | .nil, .nil, _, _ => rfl
  | .nil, .cons _ _ _ _ _ _, h, _ => by simp [Fo.len] at h
  | .cons _ _ _ _ _ _, .nil, h, _ => by simp [Fo.len] at h
  | .cons k n v c a r, .cons k' n' v' c' a' r', hl, h => by
    have h0 := h 0 (by simp [Fo.len])
    simp only [Fo.nth, Fo.cons.injEq, and_true] at h0
    obtain ⟨rfl, rfl, rfl, rfl, rfl⟩ := h0
    have := Fo.nth_ext r r' (by simp only [Fo.len] at hl; omega) (fun i hi => h (i + 1) (by simp only [Fo.len]; omega))
    rw [this]
def SameP (r : Bool) (w : World) (e : Ending) (w' : World) : Prop := e = .returned (.bool r) ∧ Bel w w'
end Go.Proofs.YtblgligagngpfaaDoor.Mu
namespace Go.Proofs.YtblgligagngpfaaDoor.Mu
open Go.ChangeShapes Go.WideShapes Go.ChangeAt Go.RowKit Go.Shelf

attribute [local go_sem] Oper.semAt_some
set_option linter.unusedVariables false

/-- Two nodes that are still to be compared, with where they lie. -/
structure Pr2 where
  b1 : Nat
  o1 : Nat
  b2 : Nat
  o2 : Nat
  f1 : Fo
  f2 : Fo
def Pr2.cells (p : Pr2) : List Value := [.pointer (some ⟨p.b1, p.o1, none⟩), .pointer (some ⟨p.b2, p.o2, none⟩)]
def flat2 (S : List Pr2) : List Value := S.reverse.flatMap Pr2.cells
theorem flat2_cons (x : Pr2) (S : List Pr2) : flat2 (x :: S) = flat2 S ++ x.cells := by simp [flat2]
theorem flat2_len : ∀ S : List Pr2, (flat2 S).length = S.length * 2
  | [] => rfl
  | x :: S => by rw [flat2_cons, List.length_append, flat2_len S, show x.cells.length = 2 from rfl, List.length_cons]; omega
def RowS (w : World) (base : Nat) (S : List Pr2) (A : Option Addr) (c : Nat) : Prop := w.ownsRow base 67 2 (.slice A S.length c) S.length (flat2 S)
theorem RowS.pop {w : World} {base : Nat} {x : Pr2} {S : List Pr2} {A : Option Addr} {c : Nat} (h1 : RowS w base (x :: S) A c) : ∃ g, A = some ⟨g, 0, none⟩ ∧ base ≤ g ∧ g < w.heap.size ∧ S.length + 1 ≤ c ∧ c ≤ maxLen ∧ RowS w base S (some ⟨g, 0, none⟩) c ∧ ∀ j u, x.cells[j]? = some u → w.cell? ⟨g, S.length * 2 + j, none⟩ = some u := by
  unfold RowS at h1 ⊢
  rw [List.length_cons] at h1
  have h1' := h1
  obtain ⟨hl, hr⟩ := h1
  rcases hr with ⟨_, h0⟩ | ⟨g, cap, cur, hv, hb, hh, hnc, hm, hcs, ht⟩
  · omega
  · cases hv
    refine ⟨g, rfl, hb, (Array.getElem?_eq_some_iff.1 hh).1, hnc, hm, ⟨flat2_len S, .inr ⟨g, c, cur, rfl, hb, hh, by omega, hm, hcs, ?_⟩⟩, fun j u hu => ?_⟩
    · have h4 := congrArg (List.take (S.length * 2)) ht
      rw [List.take_take, flat2_cons, List.take_append_of_le_length (by rw [flat2_len]; exact Nat.le_refl _), List.take_of_length_le (l := flat2 S) (by rw [flat2_len]; exact Nat.le_refl _)] at h4
      rw [← h4]
      congr 1
      omega
    · have h5 := h1'.cells (g := g) rfl (S.length * 2 + j) u (by rw [flat2_cons, List.getElem?_append_right (by rw [flat2_len]; omega), flat2_len, Nat.add_sub_cancel_left]; exact hu)
      rwa [Addr.add_lit, Nat.zero_add] at h5
/-- What is within both, of the first ones, the last one first. -/
def prs (k1 k2 : Fo) (b1 o1 b2 o2 : Nat) : Nat → List Pr2
  | 0 => []
  | q + 1 => ⟨b1, o1 + q * 5, b2, o2 + q * 5, k1.nth q, k2.nth q⟩ :: prs k1 k2 b1 o1 b2 o2 q
theorem prs_len (k1 k2 : Fo) (b1 o1 b2 o2 : Nat) : ∀ q, (prs k1 k2 b1 o1 b2 o2 q).length = q
  | 0 => rfl
  | q + 1 => by rw [prs, List.length_cons, prs_len k1 k2 b1 o1 b2 o2 q]
def sz2 (S : List Pr2) : Nat := (S.map fun p => p.f1.size).sum
theorem sz2_append (P S : List Pr2) : sz2 (P ++ S) = sz2 P + sz2 S := by simp [sz2]
theorem prs_sz (k1 k2 : Fo) (b1 o1 b2 o2 : Nat) : ∀ q, q ≤ k1.len → sz2 (prs k1 k2 b1 o1 b2 o2 q) = k1.upto q
  | 0, _ => by rw [Fo.upto_zero]; rfl
  | q + 1, h => by
    have := prs_sz k1 k2 b1 o1 b2 o2 q (by omega)
    rw [Fo.upto_succ k1 q (by omega), ← this]
    simp only [prs, sz2, List.map_cons, List.sum_cons]
    omega
theorem prs_mem (k1 k2 : Fo) (b1 o1 b2 o2 : Nat) : ∀ (q : Nat) (p : Pr2), p ∈ prs k1 k2 b1 o1 b2 o2 q ↔ ∃ i, i < q ∧ p = ⟨b1, o1 + i * 5, b2, o2 + i * 5, k1.nth i, k2.nth i⟩
  | 0, p => by simp [prs]
  | q + 1, p => by
    rw [prs, List.mem_cons, prs_mem k1 k2 b1 o1 b2 o2 q p]
    constructor
    · rintro (h | ⟨i, hi, h⟩)
      · exact ⟨q, by omega, h⟩
      · exact ⟨i, by omega, h⟩
    · rintro ⟨i, hi, h⟩
      by_cases e : i = q
      · subst e; exact .inl h
      · exact .inr ⟨i, by omega, h⟩
/-- A node lies in memory that was there. -/
def NdOk (w : World) (f : Fo) (b o : Nat) : Prop := ∃ k n v c kids A cap, f = .cons k n v c kids .nil ∧ b < w.heap.size ∧ w.cell? ⟨b, o, none⟩ = some (.int .u8 k) ∧ w.cell? ⟨b, o + 1, none⟩ = some (.int .i64 n) ∧ w.cell? ⟨b, o + 2, none⟩ = some (.int .i64 v) ∧ w.cell? ⟨b, o + 3, none⟩ = some (.int .u8 c) ∧ w.cell? ⟨b, o + 4, none⟩ = some (.slice A kids.len cap) ∧ KidsAt w (Old w) A kids.len cap kids
theorem ndok_nth {w : World} {f : Fo} {b o i : Nat} (hb : b < w.heap.size) (h : FoAt w (Old w) f b o) (hi : i < f.len) : NdOk w (f.nth i) b (o + i * 5) := by
  obtain ⟨k', n', v', c', kids', A', cap', en, e1, e2, e3, e4, e5, hk'⟩ := FoAt.nth f i b o h hi
  exact ⟨k', n', v', c', kids', A', cap', en, hb, e1, e2, e3, e4, e5, hk'⟩
def PairOk (w : World) (p : Pr2) : Prop := NdOk w p.f1 p.b1 p.o1 ∧ NdOk w p.f2 p.b2 p.o2
def AllEq (S : List Pr2) : Prop := ∀ p ∈ S, p.f1 = p.f2
theorem alleq_kids {k1 k2 : Fo} (b1 o1 b2 o2 : Nat) (hl : k1.len = k2.len) (S : List Pr2) : AllEq (prs k1 k2 b1 o1 b2 o2 k1.len ++ S) ↔ (k1 = k2 ∧ AllEq S) := by
  constructor
  · intro h
    refine ⟨Fo.nth_ext k1 k2 hl fun i hi => ?_, fun p hp => h p (by simp [hp])⟩
    exact h ⟨b1, o1 + i * 5, b2, o2 + i * 5, k1.nth i, k2.nth i⟩ (by rw [List.mem_append, prs_mem]; exact .inl ⟨i, hi, rfl⟩)
  · rintro ⟨rfl, h⟩ p hp
    rw [List.mem_append, prs_mem] at hp
    rcases hp with ⟨i, _, rfl⟩ | hp
    · rfl
    · exact h p hp
theorem info_pair : (Tryd.prog.info? 67).map (fun i => (i.zero, i.size, i.bytes)) = some (some (.agg #[.pointer none, .pointer none]), 2, 16) := by kernel_rfl
theorem bel_push {w1 w w5 : World} {A : Option Addr} {n c : Nat} {xs : List Value} {e size : Nat} (hb : Bel w1 w) (ho : w.ownsRow w1.heap.size e size (.slice A n c) n xs) (hg : w.grownBy w5 (Value.slice A n c).ownBlock) : Bel w1 w5 :=
  ⟨hg.os.trans hb.os, hg.tape.trans hb.tape, hg.output.trans hb.output, Nat.le_trans hb.size hg.size, fun j hj => (hg.block j (Nat.lt_of_lt_of_le hj hb.size) (fun e => by have := (ho.lt j e.symm).1; omega)).trans (hb.block j hj)⟩
set_option maxRecDepth 100000 in
set_option maxHeartbeats 4000000 in
theorem same_any (k n v c : Int) (A : Option Addr) (len cap : Nat) (kids : Fo) (k2 n2 v2 c2 : Int) (A2 : Option Addr) (len2 cap2 : Nat) (kids2 : Fo) (w : World) (h : KidsAt w (Old w) A len cap kids) (h2 : KidsAt w (Old w) A2 len2 cap2 kids2) (hsz : kids.size ≤ 1400000) (hsz2 : kids2.size ≤ 1400000) :
    Calls Tryd.prog 9 #[.agg #[.int .u8 k, .int .i64 n, .int .i64 v, .int .u8 c, .slice A len cap], .agg #[.int .u8 k2, .int .i64 n2, .int .i64 v2, .int .u8 c2, .slice A2 len2 cap2]] w (SameP (Fo.eqB (.cons k n v c kids .nil) (.cons k2 n2 v2 c2 kids2 .nil)) w) := by
  have H := Lib.hid h
  have H2 := Lib.hid h2
  have HSZ := Lib.hid hsz
  obtain ⟨r, hr⟩ : ∃ r, r = Fo.eqB (.cons k n v c kids .nil) (.cons k2 n2 v2 c2 kids2 .nil) := ⟨_, rfl⟩
  rw [← hr]
  have HR : Hid (r = true ↔ Fo.cons k n v c kids .nil = .cons k2 n2 v2 c2 kids2 .nil) := Lib.hid (by rw [hr, Fo.eqB_iff])
  clear h h2 hr
  go_enter Tryd.func9, Tryd.ntmps9
  go_wp2_with fail
  obtain ⟨w1, hw1⟩ : ∃ w1, w1 = (w.alloc (.cells #[.int .u8 k, .int .i64 n, .int .i64 v, .int .u8 c, .slice A len cap] 27)).alloc (.cells #[.int .u8 k2, .int .i64 n2, .int .i64 v2, .int .u8 c2, .slice A2 len2 cap2] 27) := ⟨_, rfl⟩
  have q1 := blk2 w (.cells #[.int .u8 k, .int .i64 n, .int .i64 v, .int .u8 c, .slice A len cap] 27) (.cells #[.int .u8 k2, .int .i64 n2, .int .i64 v2, .int .u8 c2, .slice A2 len2 cap2] 27)
  have hb1 : Bel w w1 := by rw [hw1]; exact ((Bel.refl w).alloc _).alloc _
  have hs1 : w1.heap.size = w.heap.size + 2 := by rw [hw1]; simp
  rw [← hw1] at q1 ⊢
  have q3 := blk1 w1 (.cells #[.pointer (some ⟨w.heap.size, 0, none⟩), .pointer (some ⟨w.heap.size + 1, 0, none⟩)] 67)
  have hb2 : Bel w1 (w1.alloc (.cells #[.pointer (some ⟨w.heap.size, 0, none⟩), .pointer (some ⟨w.heap.size + 1, 0, none⟩)] 67)) := (Bel.refl w1).alloc _
  obtain ⟨w2, hw2⟩ : ∃ w2, w2 = w1.alloc (.cells #[.pointer (some ⟨w.heap.size, 0, none⟩), .pointer (some ⟨w.heap.size + 1, 0, none⟩)] 67) := ⟨_, rfl⟩
  rw [← hw2] at q3 hb2 ⊢
  obtain ⟨base, hbase⟩ : ∃ base, base = w1.heap.size := ⟨_, rfl⟩
  rw [← hbase] at q3
  rw [show w.heap.size + 1 + 1 = base by omega]
  have hn1 : NdOk w1 (.cons k n v c kids .nil) w.heap.size 0 := by
    obtain ⟨⟨x0, x1, x2, x3, x4⟩, _⟩ := cells5 q1.1
    exact ⟨k, n, v, c, kids, A, cap, rfl, by omega, x0, x1, x2, x3, by rw [← H.out.1]; exact x4, by have h := H.out.bel hb1; rw [← H.out.1]; exact h⟩
  have hn2 : NdOk w1 (.cons k2 n2 v2 c2 kids2 .nil) (w.heap.size + 1) 0 := by
    obtain ⟨⟨x0, x1, x2, x3, x4⟩, _⟩ := cells5 q1.2
    exact ⟨k2, n2, v2, c2, kids2, A2, cap2, rfl, by omega, x0, x1, x2, x3, by rw [← H2.out.1]; exact x4, by have h := H2.out.bel hb1; rw [← H2.out.1]; exact h⟩
  have HP0 : Hid (∀ p ∈ [Pr2.mk w.heap.size 0 (w.heap.size + 1) 0 (.cons k n v c kids .nil) (.cons k2 n2 v2 c2 kids2 .nil)], PairOk w1 p) := Lib.hid fun p hp => by
    rw [List.mem_singleton] at hp
    subst hp
    exact ⟨hn1, hn2⟩
  have HROW : Hid (RowS w2 base [⟨w.heap.size, 0, w.heap.size + 1, 0, .cons k n v c kids .nil, .cons k2 n2 v2 c2 kids2 .nil⟩] (some ⟨base, 0, none⟩) 1) := Lib.hid ⟨rfl, .inr ⟨base, 1, _, rfl, Nat.le_refl _, q3, Nat.le_refl _, by unfold maxLen; omega, rfl, rfl⟩⟩
  have HG0 : Hid (AllEq [⟨w.heap.size, 0, w.heap.size + 1, 0, .cons k n v c kids .nil, .cons k2 n2 v2 c2 kids2 .nil⟩] ↔ r = true) := Lib.hid (by
    rw [HR.out]
    constructor
    · intro h; exact h _ (List.mem_singleton.2 rfl)
    · intro h p hp
      rw [List.mem_singleton] at hp
      subst hp
      exact h)
  have HSZ0 : Hid (sz2 [⟨w.heap.size, 0, w.heap.size + 1, 0, .cons k n v c kids .nil, .cons k2 n2 v2 c2 kids2 .nil⟩] ≤ 1 + kids.size) := Lib.hid (by simp [sz2, Fo.size])
  have HB1 := Lib.hid hb1
  have HB2 := Lib.hid hb2
  have HBS := Lib.hid hbase
  clear q1 q3 hn1 hn2 hw1 hw2 hb1 hb2 hs1 hbase H H2 HR
  go_loopg [5] (1 + kids.size) (fun gk v wr => ∃ (S : List Pr2) (A : Option Addr) (c m : Nat), v = .slice A m c ∧ Hid (m = S.length) ∧ Hid (RowS wr base S A c) ∧ Hid (∀ p ∈ S, PairOk w1 p) ∧ Hid (AllEq S ↔ r = true) ∧ Hid (sz2 S ≤ gk ∧ gk ≤ 1 + kids.size) ∧ Hid (Bel w1 wr))
  case atStart => exact ⟨_, _, 1, 1, rfl, Lib.hid rfl, HROW, HP0, HG0, Lib.hid ⟨HSZ0.out, Nat.le_refl _⟩, HB2⟩
  case round =>
    clear HROW HP0 HG0 HSZ0 HB2
    obtain ⟨S, A, c, m, rfl, HM, HRow, HPS, HG, HSK, HB⟩ := hrel
    cases S with
    | nil =>
      have hm : m = 0 := HM.out
      subst hm
      have hr1 : r = true := HG.out.1 (fun p hp => by cases hp)
      subst hr1
      go_wp2_with fail
      go_ret
      exact ⟨rfl, HB1.out.on HB.out⟩
    | cons x S =>
      obtain ⟨m', hm'⟩ : ∃ m', m' = S.length := ⟨_, rfl⟩
      have hmm : m = m' + 1 := by rw [hm']; exact HM.out
      subst hmm
      obtain ⟨g, rfl, hgb, hgl, hc1, hc2, hpop, hcell⟩ := HRow.out.pop
      rw [← hm'] at hc1 hcell
      obtain ⟨b1, o1, b2, o2, f1, f2⟩ := x
      obtain ⟨⟨ka, na, va, ca, ka', Aa, pa, ef, hlb1, a1, a2, a3, a4, a5, hka⟩, ⟨kb, nb, vb, cb, kb', Ab, pb, ef2, hlb2, z1, z2, z3, z4, z5, hkb⟩⟩ := HPS.out _ (List.mem_cons_self ..)
      simp only at ef ef2 hlb1 hlb2 a1 a2 a3 a4 a5 z1 z2 z3 z4 z5
      subst ef ef2
      have c0 := hcell 0 _ rfl
      have c1 := hcell 1 _ rfl
      simp only [Nat.add_zero] at c0 c1
      have hm63 : m' + 1 ≤ 9223372036854775807 := by unfold maxLen at hc2; omega
      have i0 : (0 : Int) ≤ (m' : Int) := by omega
      have i1 : (m' : Int) < (m' : Int) + 1 := by omega
      have i4 : (m' : Int) ≤ (c : Int) := by omega
      have HPOP := Lib.hid hpop
      have HMS := Lib.hid hm'
      have HKA := Lib.hid hka
      have HKB := Lib.hid hkb
      replace a1 := (HB.out.cell (p := ⟨b1, o1, none⟩) hlb1).trans a1
      replace a2 := (HB.out.cell (p := ⟨b1, o1 + 1, none⟩) hlb1).trans a2
      replace a3 := (HB.out.cell (p := ⟨b1, o1 + 2, none⟩) hlb1).trans a3
      replace a4 := (HB.out.cell (p := ⟨b1, o1 + 3, none⟩) hlb1).trans a4
      replace a5 := (HB.out.cell (p := ⟨b1, o1 + 4, none⟩) hlb1).trans a5
      replace z1 := (HB.out.cell (p := ⟨b2, o2, none⟩) hlb2).trans z1
      replace z2 := (HB.out.cell (p := ⟨b2, o2 + 1, none⟩) hlb2).trans z2
      replace z3 := (HB.out.cell (p := ⟨b2, o2 + 2, none⟩) hlb2).trans z3
      replace z4 := (HB.out.cell (p := ⟨b2, o2 + 3, none⟩) hlb2).trans z4
      replace z5 := (HB.out.cell (p := ⟨b2, o2 + 4, none⟩) hlb2).trans z5
      have HGS : Hid (r = true ↔ (ka = kb ∧ na = nb ∧ (va = vb ∧ ca = cb) ∧ ka' = kb') ∧ AllEq S) := Lib.hid (by
        rw [← HG.out]
        unfold AllEq
        simp only [List.forall_mem_cons, Fo.cons.injEq, and_true]
        constructor
        · rintro ⟨⟨e1, e2, e3, e4, e5⟩, h⟩; exact ⟨⟨e1, e2, ⟨e3, e4⟩, e5⟩, h⟩
        · rintro ⟨⟨e1, e2, ⟨e3, e4⟩, e5⟩, h⟩; exact ⟨⟨e1, e2, e3, e4, e5⟩, h⟩)
      have NO : Hid (¬ (ka = kb ∧ na = nb ∧ (va = vb ∧ ca = cb) ∧ ka'.len = kb'.len) → r = false) := Lib.hid (fun hno => by
        cases r
        · rfl
        · exfalso
          obtain ⟨⟨e1, e2, e3, e4⟩, _⟩ := HGS.out.1 rfl
          exact hno ⟨e1, e2, e3, by rw [e4]⟩)
      have HPS' : Hid (∀ p ∈ S, PairOk w1 p) := Lib.hid fun p hp => HPS.out p (List.mem_cons_of_mem _ hp)
      have HSK' : Hid (1 + ka'.size + sz2 S ≤ gk ∧ gk ≤ 1 + kids.size) := Lib.hid (by
        have h := HSK.out
        simp only [sz2, List.map_cons, List.sum_cons, Fo.size] at h ⊢
        omega)
      have hll := ka'.len_le
      have hll2 : ka'.len ≤ 1400000 := by have := HSK'.out; have := HSZ.out; omega
      have qm := fun W => mu_eql 9998 va ca vb cb W
      obtain ⟨la, hla⟩ : ∃ l, l = ka'.len := ⟨_, rfl⟩
      obtain ⟨lb, hlb⟩ : ∃ l, l = kb'.len := ⟨_, rfl⟩
      rw [← hla] at a5 hll2
      rw [← hlb] at z5
      have HLA := Lib.hid hla
      have HLB := Lib.hid hlb
      clear hpop hcell hm' HM HRow hka hkb HG HPS HSK hla hlb hll
      go_upto_region 3 with fail
      go_region
      clear c0 c1
      obtain ⟨wq, hwq⟩ : ∃ wq, wq = wr.drew := ⟨_, rfl⟩
      have hbq : Bel wr wq := by rw [hwq]; exact (Bel.refl wr).drew
      rw [← hwq]
      have A1 := cell_above (Nat.lt_of_lt_of_le hlb1 (HB.out.on hbq).size) (hbq.cell (p := ⟨b1, o1, none⟩) (Nat.lt_of_lt_of_le hlb1 HB.out.size) |>.trans a1)
      have A2 := cell_above (Nat.lt_of_lt_of_le hlb1 (HB.out.on hbq).size) (hbq.cell (p := ⟨b1, o1 + 1, none⟩) (Nat.lt_of_lt_of_le hlb1 HB.out.size) |>.trans a2)
      have A3 := cell_above (Nat.lt_of_lt_of_le hlb1 (HB.out.on hbq).size) (hbq.cell (p := ⟨b1, o1 + 2, none⟩) (Nat.lt_of_lt_of_le hlb1 HB.out.size) |>.trans a3)
      have A4 := cell_above (Nat.lt_of_lt_of_le hlb1 (HB.out.on hbq).size) (hbq.cell (p := ⟨b1, o1 + 3, none⟩) (Nat.lt_of_lt_of_le hlb1 HB.out.size) |>.trans a4)
      have A5 := cell_above (Nat.lt_of_lt_of_le hlb1 (HB.out.on hbq).size) (hbq.cell (p := ⟨b1, o1 + 4, none⟩) (Nat.lt_of_lt_of_le hlb1 HB.out.size) |>.trans a5)
      have Z1 := cell_above (Nat.lt_of_lt_of_le hlb2 (HB.out.on hbq).size) (hbq.cell (p := ⟨b2, o2, none⟩) (Nat.lt_of_lt_of_le hlb2 HB.out.size) |>.trans z1)
      have Z2 := cell_above (Nat.lt_of_lt_of_le hlb2 (HB.out.on hbq).size) (hbq.cell (p := ⟨b2, o2 + 1, none⟩) (Nat.lt_of_lt_of_le hlb2 HB.out.size) |>.trans z2)
      have Z3 := cell_above (Nat.lt_of_lt_of_le hlb2 (HB.out.on hbq).size) (hbq.cell (p := ⟨b2, o2 + 2, none⟩) (Nat.lt_of_lt_of_le hlb2 HB.out.size) |>.trans z3)
      have Z4 := cell_above (Nat.lt_of_lt_of_le hlb2 (HB.out.on hbq).size) (hbq.cell (p := ⟨b2, o2 + 3, none⟩) (Nat.lt_of_lt_of_le hlb2 HB.out.size) |>.trans z4)
      have Z5 := cell_above (Nat.lt_of_lt_of_le hlb2 (HB.out.on hbq).size) (hbq.cell (p := ⟨b2, o2 + 4, none⟩) (Nat.lt_of_lt_of_le hlb2 HB.out.size) |>.trans z5)
      clear a1 a2 a3 a4 z1 z2 z3 z4 hwq
      by_cases dk : ka = kb
      case neg =>
        obtain rfl := NO.out (fun h => dk h.1)
        have ek : (ka != kb) = true := by simpa using dk
        go_wp2_with fail
        refine wp_region_above_tail 43 (by kernel_rfl) (by kernel_rfl) ?_
        simp only [List.take_succ_cons, List.take_zero, List.drop_succ_cons, List.drop_zero]
        repeat (go_big_quiet_step (fail))
        refine wpQuiet_nil ?_
        rintro w4 ⟨⟨w4, hb4⟩, rfl⟩
        go_wp2_with fail
        go_ret
        exact ⟨rfl, HB1.out.on ((HB.out.on hbq).on hb4)⟩
      subst dk
      by_cases dn : na = nb
      case neg =>
        obtain rfl := NO.out (fun h => dn h.2.1)
        have en : (na != nb) = true := by simpa using dn
        go_wp2_with fail
        refine wp_region_above_tail 43 (by kernel_rfl) (by kernel_rfl) ?_
        simp only [List.take_succ_cons, List.take_zero, List.drop_succ_cons, List.drop_zero]
        repeat (go_big_quiet_step (fail))
        refine wpQuiet_nil ?_
        rintro w4 ⟨⟨w4, hb4⟩, rfl⟩
        go_wp2_with fail
        go_ret
        exact ⟨rfl, HB1.out.on ((HB.out.on hbq).on hb4)⟩
      subst dn
      by_cases dm : va = vb ∧ ca = cb
      case neg =>
        obtain rfl := NO.out (fun h => dm h.2.2.1)
        have em : (decide (va = vb) && decide (ca = cb)) = false := by
          rw [Bool.and_eq_false_iff, decide_eq_false_iff_not, decide_eq_false_iff_not]
          by_cases e : va = vb
          · exact .inr fun e' => dm ⟨e, e'⟩
          · exact .inl e
        rw [em] at qm
        go_wp2_with fail
        refine wp_region_above_tail 43 (by kernel_rfl) (by kernel_rfl) ?_
        simp only [List.take_succ_cons, List.take_zero, List.drop_succ_cons, List.drop_zero]
        repeat (go_big_quiet_step (fail))
        refine wpQuiet_nil ?_
        rintro w4 ⟨⟨w4, hb4⟩, rfl⟩
        go_wp2_with fail
        go_ret
        exact ⟨rfl, HB1.out.on ((HB.out.on hbq).on hb4)⟩
      obtain ⟨rfl, rfl⟩ := dm
      have em : (decide (va = va) && decide (ca = ca)) = true := by simp
      rw [em] at qm
      by_cases dl : la = lb
      case neg =>
        obtain rfl := NO.out (fun h => dl (by rw [HLA.out, HLB.out]; exact h.2.2.2))
        have el : ((la : Int) == (lb : Int)) = false := by simp; omega
        go_wp2_with fail
        refine wp_region_above_tail 43 (by kernel_rfl) (by kernel_rfl) ?_
        simp only [List.take_succ_cons, List.take_zero, List.drop_succ_cons, List.drop_zero]
        repeat (go_big_quiet_step (fail))
        refine wpQuiet_nil ?_
        rintro w4 ⟨⟨w4, hb4⟩, rfl⟩
        go_wp2_with fail
        go_ret
        exact ⟨rfl, HB1.out.on ((HB.out.on hbq).on hb4)⟩
      subst dl
      go_wp2_with fail
      refine wp_region_above_tail 43 (by kernel_rfl) (by kernel_rfl) ?_
      simp only [List.take_succ_cons, List.take_zero, List.drop_succ_cons, List.drop_zero]
      repeat (go_big_quiet_step (fail))
      refine wpQuiet_nil ?_
      rintro w4 ⟨⟨w4, hb4⟩, rfl⟩
      have HB4 := Lib.hid ((HB.out.on hbq).on hb4)
      replace a5 := ((hbq.on hb4).cell (p := ⟨b1, o1 + 4, none⟩) (Nat.lt_of_lt_of_le hlb1 HB.out.size)).trans a5
      replace z5 := ((hbq.on hb4).cell (p := ⟨b2, o2 + 4, none⟩) (Nat.lt_of_lt_of_le hlb2 HB.out.size)).trans z5
      have hrow : RowS w4 base S (some ⟨g, 0, none⟩) c := owns_bel HPOP.out (hbq.on hb4)
      have HROW := Lib.hid hrow
      clear hb4 hbq A1 A2 A3 A4 A5 Z1 Z2 Z3 Z4 Z5 hrow
      go_wp2_with fail
      have HGB := Lib.hid (And.intro hgb hgl)
      have hlen4 : w1.heap.size ≤ w4.heap.size := HB4.out.size
      have HROW' : Hid (RowS w4 base (prs ka' kb' 0 0 0 0 0 ++ S) (some ⟨g, 0, none⟩) c) := Lib.hid HROW.out
      have HM0 : Hid (m' = S.length) := HMS
      have HLB1 := Lib.hid hlb1
      have HLB2 := Lib.hid hlb2
      obtain ⟨ub, uo, hub⟩ : ∃ ub uo, 0 < la → Aa = some ⟨ub, uo, none⟩ ∧ ub < w1.heap.size ∧ FoAt w1 (Old w1) ka' ub uo := by
        by_cases h0 : 0 < la
        · obtain ⟨b', o', e, h1, h2⟩ := HKA.out.2.2 (by rw [← HLA.out]; exact h0)
          exact ⟨b', o', fun _ => ⟨e, h1, h2⟩⟩
        · exact ⟨0, 0, fun h => absurd h h0⟩
      obtain ⟨vb, vo, hvb⟩ : ∃ ub uo, 0 < la → Ab = some ⟨ub, uo, none⟩ ∧ ub < w1.heap.size ∧ FoAt w1 (Old w1) kb' ub uo := by
        by_cases h0 : 0 < la
        · obtain ⟨b', o', e, h1, h2⟩ := HKB.out.2.2 (by rw [← HLB.out]; exact h0)
          exact ⟨b', o', fun _ => ⟨e, h1, h2⟩⟩
        · exact ⟨0, 0, fun h => absurd h h0⟩
      have HUB := Lib.hid hub
      have HVB := Lib.hid hvb
      replace a5 := (HB4.out.cell (p := ⟨b1, o1 + 4, none⟩) hlb1).symm.trans a5
      replace z5 := (HB4.out.cell (p := ⟨b2, o2 + 4, none⟩) hlb2).symm.trans z5
      clear hgb hgl hub hvb HROW NO
      go_loopw [5, 82] (fun v iv wx => ∃ (q : Nat) (A5 : Option Addr) (c5 m5 : Nat), q ≤ la ∧ iv = .int .i64 (q : Int) ∧ v = .slice A5 m5 c5 ∧ Hid (m5 = q + S.length) ∧ Hid (RowS wx base (prs ka' kb' ub uo vb vo q ++ S) A5 c5) ∧ Hid (Bel w1 wx)) (fun _ i _ => la - (intOf i).toNat)
      case atStart => exact ⟨0, _, c, m', Nat.zero_le _, rfl, rfl, Lib.hid (by rw [HM0.out]; omega), HROW', HB4⟩
      case round =>
        obtain ⟨q, A5, c5, m5, hq, rfl, rfl, HM5, HR5, HB5⟩ := hrel
        obtain ⟨wx, rfl⟩ : ∃ wx : World, wx = wr := ⟨_, rfl⟩
        have x5 := (HB5.out.cell (p := ⟨b1, o1 + 4, none⟩) HLB1.out).trans a5
        have y5 := (HB5.out.cell (p := ⟨b2, o2 + 4, none⟩) HLB2.out).trans z5
        by_cases hlt : q < la
        · obtain ⟨rfl, hu1, hu2⟩ := HUB.out (by omega)
          obtain ⟨rfl, hv1, hv2⟩ := HVB.out (by omega)
          have i5 : (0 : Int) ≤ (q : Int) := by omega
          have i6 : (q : Int) < (la : Int) := by omega
          have hrow5 : wx.ownsRow base 67 2 (.slice A5 m5 c5) m5 (flat2 (prs ka' kb' ub uo vb vo q ++ S)) := by
            have h := HR5.out
            unfold RowS at h
            rw [List.length_append, prs_len, ← HM5.out] at h
            exact h
          have HROW5 := Lib.hid hrow5
          have hm5 : m5 ≤ 5000000 := by
            have h1 := HM5.out
            have h2 := HMS.out
            have h3 := HSK'.out
            have h4 := HSZ.out
            have h5 : S.length ≤ sz2 S := by
              have : ∀ S : List Pr2, (∀ p ∈ S, PairOk w1 p) → S.length ≤ sz2 S := fun S hS => by
                induction S with
                | nil => exact Nat.le_refl _
                | cons p S ih =>
                  obtain ⟨k, n, v, c, kids, A, cap, e, _⟩ := (hS p (List.mem_cons_self ..)).1
                  have := ih fun p hp => hS p (List.mem_cons_of_mem _ hp)
                  simp only [sz2, List.map_cons, List.sum_cons, List.length_cons] at this ⊢
                  rw [e]
                  simp only [Fo.size]
                  omega
              exact this S HPS'.out
            omega
          have hbw5 : base ≤ wx.heap.size := by have h1 := HBS.out; have h2 := HB5.out.size; omega
          clear hrow5
          go_wp2_with fail
          go_region_law (refine step_append_own rfl (.tmp 85) (.tmp 99) 68 rfl base 67 _ 2 16 Tryd.underlying68 info_pair rfl (by decide) (by decide) A5 m5 c5 (flat2 (prs ka' kb' ub uo vb vo q ++ S)) (by simp [Act.eval]) (by exact HROW5.out.alloc _) wx.heap.size [.pointer (some ⟨ub, uo + q * 5, none⟩), .pointer (some ⟨vb, vo + q * 5, none⟩)] (by simp [Act.eval]) rfl (by exact two_at _ _ _ _) (by simp [Value.oneCell']) (by omega) (by simp; omega) ?_; intro A6 c6 w6 hown6 hg6; (have HO6 := Lib.hid hown6); (have HG6 := Lib.hid hg6); clear hown6 hg6)
          all_goals
            have hb6 : Bel w1 w6 := bel_push (((HB5.out).alloc _).drew) (by rw [← HBS.out]; exact HROW5.out.alloc _) HG6.out
            have HB6 := Lib.hid hb6
            have hr6 : RowS w6 base (prs ka' kb' ub uo vb vo (q + 1) ++ S) A6 c6 := by
              unfold RowS
              rw [List.length_append, prs_len, show q + 1 + S.length = m5 + 1 by have := HM5.out; omega]
              have e : prs ka' kb' ub uo vb vo (q + 1) ++ S = ⟨ub, uo + q * 5, vb, vo + q * 5, ka'.nth q, kb'.nth q⟩ :: (prs ka' kb' ub uo vb vo q ++ S) := rfl
              rw [e, flat2_cons]
              exact HO6.out
            have HR6 := Lib.hid hr6
            clear hb6 hr6
            go_wp2_with fail
            go_roundw
            case rel => exact ⟨q + 1, A6, c6, m5 + 1, by omega, by go_num, rfl, Lib.hid (by have := HM5.out; omega), HR6, HB6⟩
            case measure => simp [intOf]; omega
        · obtain rfl : q = la := by omega
          go_wp2_with fail
          go_roundg (gk - 1)
          case measure => have := HSK'.out; omega
          case rel =>
            refine ⟨prs ka' kb' ub uo vb vo q ++ S, A5, c5, m5, rfl, Lib.hid (by rw [List.length_append, prs_len]; exact HM5.out), HR5, Lib.hid (fun p hp => ?_), Lib.hid ?_, Lib.hid ?_, HB5⟩
            · rw [List.mem_append, prs_mem] at hp
              rcases hp with ⟨i, hi, rfl⟩ | hp
              · obtain ⟨_, h1, h2⟩ := HUB.out (by omega)
                obtain ⟨_, h3, h4⟩ := HVB.out (by omega)
                exact ⟨ndok_nth h1 h2 (by rw [← HLA.out]; exact hi), ndok_nth h3 h4 (by rw [← HLB.out]; exact hi)⟩
              · exact HPS'.out p hp
            · have h1 := HGS.out
              have e : AllEq (prs ka' kb' ub uo vb vo q ++ S) ↔ (ka' = kb' ∧ AllEq S) := by
                have h := alleq_kids (k1 := ka') (k2 := kb') ub uo vb vo (by rw [← HLA.out, ← HLB.out]) S
                rw [← HLA.out] at h
                exact h
              rw [e]
              simpa using h1.symm
            · have h1 := HSK'.out
              have h2 := prs_sz ka' kb' ub uo vb vo q (by rw [← HLA.out]; exact Nat.le_refl _)
              have h3 : ka'.upto q = ka'.size := by rw [HLA.out, Fo.upto_all]
              rw [sz2_append, h2, h3]
              omega
end Go.Proofs.YtblgligagngpfaaDoor.Mu
namespace Go.Proofs.YtblgligagngpfaaDoor.Mu
open Go.ChangeShapes Go.WideShapes Go.ChangeAt Go.RowKit Go.Shelf

attribute [local go_sem] Oper.semAt_some
set_option linter.unusedVariables false

/-- As many nodes as great counts of a list. -/
def Fo.grt : Fo → Nat
  | .nil => 0
  | .cons _ _ _ _ kids rest => min (1 + kids.size) 5000 + rest.grt
def Fo.grtTo : Fo → Nat → Nat
  | .nil, _ => 0
  | .cons _ _ _ _ _ _, 0 => 0
  | .cons _ _ _ _ kids rest, j + 1 => min (1 + kids.size) 5000 + rest.grtTo j
theorem Fo.grtTo_zero (f : Fo) : f.grtTo 0 = 0 := by cases f <;> rfl
theorem Fo.grtTo_succ : ∀ (f : Fo) (j : Nat), j < f.len → f.grtTo (j + 1) = f.grtTo j + min (f.nth j).size 5000
  | .nil, j, h => by simp [Fo.len] at h
  | .cons k n v c kids rest, 0, _ => by simp [Fo.grtTo, Fo.nth, Fo.size, Fo.grtTo_zero]
  | .cons k n v c kids rest, j + 1, h => by
    have := Fo.grtTo_succ rest j (by simp only [Fo.len] at h; omega)
    simp only [Fo.grtTo, Fo.nth] at this ⊢
    rw [this]
    omega
theorem Fo.grtTo_all : ∀ f : Fo, f.grtTo f.len = f.grt
  | .nil => rfl
  | .cons k n v c kids rest => by simp only [Fo.len, Fo.grt, Fo.grtTo, Fo.grtTo_all rest]
theorem Fo.grtTo_le : ∀ (f : Fo) (j : Nat), f.grtTo j ≤ j * 5000
  | .nil, j => by simp [Fo.grtTo]
  | .cons k n v c kids rest, 0 => by simp [Fo.grtTo]
  | .cons k n v c kids rest, j + 1 => by
    have := Fo.grtTo_le rest j
    simp only [Fo.grtTo]
    omega
theorem Fo.grt_size : ∀ f : Fo, f.grt ≤ 5000 → f.size ≤ f.grt ∨ 5000 ≤ f.grt
  | .nil, _ => .inl (Nat.le_refl _)
  | .cons k n v c kids rest, h => by
    simp only [Fo.grt, Fo.size] at h ⊢
    rcases Fo.grt_size rest (by omega) with h1 | h1
    · by_cases h2 : 1 + kids.size ≤ 5000
      · left; omega
      · right; omega
    · right; omega
set_option maxRecDepth 100000 in
set_option maxHeartbeats 2000000 in
theorem great6_any (A : Option Addr) (len cap : Nat) (f : Fo) (w : World) (h : KidsAt w (Old w) A len cap f) (hsz : f.size ≤ 1400000) :
    Calls Tryd.prog 4 #[.slice A len cap] w fun e w' => e = .returned (.bool (decide (5000 < f.grt))) ∧ Bel w w' := by
  have H := Lib.hid h
  have HL : Hid (len = f.len) := Lib.hid h.1
  have hlen : len ≤ 1400000 := by have := h.1; have := f.len_le; omega
  have HSZ := Lib.hid hsz
  clear h
  go_enter Tryd.func4, Tryd.ntmps4
  go_wp2_with fail
  go_loopw [3, 8] (fun s i wr => ∃ j : Nat, j ≤ len ∧ i = .int .i64 (j : Int) ∧ s = .int .i64 (f.grtTo j : Int) ∧ Hid (Bel w wr)) (fun _ i _ => len - (intOf i).toNat)
  case atStart => exact ⟨0, Nat.zero_le _, rfl, by rw [Fo.grtTo_zero]; rfl, Lib.hid (Bel.refl _)⟩
  case round =>
    obtain ⟨j, hj, rfl, rfl, HB⟩ := hrel
    by_cases hlt : j < len
    · have hkr : KidsAt wr (Old w) A len cap f := H.out.keep fun i hi => HB.out.block i hi
      obtain ⟨ub, uo, eA, hob, hfo⟩ := hkr.2.2 (by omega)
      subst eA
      obtain ⟨k', n', v', c', kids', A', cap', en, e1, e2, e3, e4, e5, hk'⟩ := FoAt.nth f j ub uo hfo (by rw [← HL.out]; exact hlt)
      have hsn := Fo.nth_size f j
      rw [en] at hsn
      simp only [Fo.size] at hsn
      have HU : Hid (f.grtTo (j + 1) = f.grtTo j + min (1 + kids'.size) 5000) := Lib.hid (by rw [Fo.grtTo_succ f j (by rw [← HL.out]; exact hlt), en]; simp [Fo.size])
      have HUL := Lib.hid (Fo.grtTo_le f (j + 1))
      have HC : Hid (∀ W, Bel wr W → Calls Tryd.prog 11 #[.agg #[.int .u8 k', .int .i64 n', .int .i64 v', .int .u8 c', .slice A' kids'.len cap']] W fun e w' => e = .returned (.int .i64 ((1 + kids'.size : Nat) : Int)) ∧ Bel W w') := Lib.hid fun W hW => rsize_any kids'.size k' n' v' c' A' kids'.len cap' kids' W rfl ((hk'.wide fun i hi => Nat.lt_of_lt_of_le hi HB.out.size).bel hW) (by have := HSZ.out; omega)
      obtain ⟨z, hz⟩ : ∃ z : Int, z = ((1 + kids'.size : Nat) : Int) := ⟨_, rfl⟩
      obtain ⟨y, hy⟩ : ∃ y : Int, y = (f.grtTo j : Int) := ⟨_, rfl⟩
      rw [← hz] at HC
      rw [← hy]
      obtain ⟨l', hl'⟩ : ∃ l', l' = kids'.len := ⟨_, rfl⟩
      rw [← hl'] at e5 HC
      have HZ := Lib.hid (And.intro hz hy)
      have i1 : (0 : Int) ≤ (j : Int) := by omega
      have i2 : (j : Int) < (len : Int) := by omega
      clear hkr hfo en hk' hsn hz hy hl'
      obtain ⟨x, hx⟩ : ∃ x : Int, x = min z 5000 := ⟨_, rfl⟩
      have mx : min z 5000 = x := hx.symm
      have mx2 : (if (5000 : Int) < z then 5000 else z) = x := by rw [hx]; split <;> omega
      have HX := Lib.hid hx
      clear hx
      go_wp2_with fail
      refine (HC.out _ ((Bel.refl wr).alloc _)).mono ?_
      rintro e w2 ⟨rfl, hb2⟩
      have HB2 := Lib.hid ((HB.out.alloc _).on hb2)
      clear hb2
      go_wp2_with fail
      go_roundw
      case rel =>
        refine ⟨j + 1, by omega, by go_num, ?_, HB2⟩
        have g1 := HZ.out.1
        have g2 := HZ.out.2
        have g3 := HU.out
        have g4 := HUL.out
        have g5 := HX.out
        have g6 : (j + 1) * 5000 ≤ 1400001 * 5000 := Nat.mul_le_mul_right _ (by omega)
        rw [wrap64_id (by omega) (by omega)]
        congr 1
        omega
      case measure => simp [intOf]; omega
    · obtain rfl : j = len := by omega
      have HGL : Hid (f.grtTo j = f.grt) := Lib.hid (by rw [HL.out, Fo.grtTo_all])
      obtain ⟨y, hy⟩ : ∃ y : Int, y = (f.grtTo j : Int) := ⟨_, rfl⟩
      rw [← hy]
      have HY := Lib.hid hy
      clear hy
      go_wp2_with fail
      go_ret
      exact ⟨by rw [← HGL.out]; have := HY.out; congr 3; simp; omega, HB.out⟩
end Go.Proofs.YtblgligagngpfaaDoor.Mu

