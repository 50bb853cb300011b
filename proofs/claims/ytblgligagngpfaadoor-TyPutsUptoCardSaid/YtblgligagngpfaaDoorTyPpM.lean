/-
  Put after Put, in plain words.
  The small functions that TyPutPut calls: whether one of the integers is so large; whether it is among them; a clone of multiplicities.
  A row of types of a call's own, what is within them elsewhere.
-/
import Derived.Test.YtblgligagngpfaaDoorTyPuta
import Derived.Test.YtblgligagngpfaaDoorTyCanM
import Derived.Test.YtblgligagngpfaaDoorTyCanB
namespace Go.Proofs.YtblgligagngpfaaDoor.Mu
open Go.RowKit Go

set_option linter.unusedVariables false

/-- The first node's answer does not hang on what follows it. -/
theorem subst_head (us : Fo) (un : Nat) (ns : List (Int × Int)) (k n v c : Int) (kids : Fo) : ∃ k' n' v' c' kids', ∀ r, Fo.subst us un ns (.cons k n v c kids r) = .cons k' n' v' c' kids' (Fo.subst us un ns r) := by
  by_cases hp : putB k n un = true
  · cases h : us.nth n.toNat with
    | nil => exact ⟨k, n, v, c, .nil, fun r => by simp only [Fo.subst, hp, if_true, h]⟩
    | cons k' n' v' c' kids' _ => exact ⟨k', n', v', c', kids', fun r => by simp only [Fo.subst, hp, if_true, h]⟩
  · by_cases h7 : k = 7
    · exact ⟨k, n, (putU ns v c).1, (putU ns v c).2, Fo.subst us un ns kids, fun r => by simp only [Fo.subst]; rw [if_neg hp, if_pos h7]⟩
    · exact ⟨k, n, v, c, Fo.subst us un ns kids, fun r => by simp only [Fo.subst]; rw [if_neg hp, if_neg h7]⟩
theorem nth_cons : ∀ (f : Fo) (i : Nat), i < f.len → ∃ k n v c kids, f.nth i = .cons k n v c kids .nil
  | .nil, i, h => absurd h (by simp [Fo.len])
  | .cons k n v c kids rest, 0, _ => ⟨k, n, v, c, kids, rfl⟩
  | .cons k n v c kids rest, i + 1, h => nth_cons rest i (by simp only [Fo.len] at h; omega)
theorem var_kids {n v c : Int} {kids : Fo} (h : nodeB 1 n v c kids.len = true) : kids = .nil := by
  obtain ⟨_, _, hc⟩ := node_cases h (by decide)
  rcases hc with ⟨_, _, h⟩ | ⟨h, _⟩ | ⟨h, _⟩ | ⟨h, _⟩
  · exact Fo.len_zero h
  · omega
  · omega
  · omega
theorem putB_no {k n : Int} {tn : Nat} (h : k ≠ 1) : putB k n tn = false := by simp [putB, h]
theorem putB_yes {n : Int} {tn : Nat} (h : n < (tn : Int)) : putB 1 n tn = true := by simp [putB, h]
/-- Put after Put is one Put. -/
theorem subst_subst {ts us vs : Fo} {un : Nat} {ms ns os : List (Int × Int)} : ∀ f : Fo, f.well = true →
    f.Vall (fun n => 0 ≤ n ∧ n < (ts.len : Int) ∧ vs.nth n.toNat = Fo.subst us un ns (ts.nth n.toNat)) (fun v => putU os v 0 = putU ns (putU ms v 0).1 (putU ms v 0).2) →
    Fo.subst vs ts.len os f = Fo.subst us un ns (Fo.subst ts ts.len ms f)
  | .nil, _, _ => rfl
  | .cons k n v c kids rest, hw, hv => by
    simp only [Fo.well, Bool.and_eq_true] at hw
    have i1 := subst_subst kids hw.2.1 hv.2.2.1
    have i2 := subst_subst rest hw.2.2 hv.2.2.2
    by_cases h1 : k = 1
    · subst h1
      obtain ⟨h0, hlt, hn⟩ := hv.1 rfl
      obtain ⟨k', n', v', c', kids', e⟩ := nth_cons ts n.toNat (by omega)
      obtain ⟨a1, a2, a3, a4, a5, ha⟩ := subst_head us un ns k' n' v' c' kids'
      rw [e, ha] at hn
      have l : Fo.subst vs ts.len os (.cons 1 n v c kids rest) = .cons a1 a2 a3 a4 a5 (Fo.subst vs ts.len os rest) := by
        simp only [Fo.subst, putB_yes hlt, if_true, hn]
      have r : Fo.subst ts ts.len ms (.cons 1 n v c kids rest) = .cons k' n' v' c' kids' (Fo.subst ts ts.len ms rest) := by
        simp only [Fo.subst, putB_yes hlt, if_true, e]
      rw [l, r, ha, i2]
    · by_cases h7 : k = 7
      · subst h7
        have hp : putU os v c = putU ns (putU ms v c).1 (putU ms v c).2 := by
          by_cases h0 : c = 0
          · subst h0
            exact hv.2.1 rfl rfl
          · simp only [putU, h0, false_and, if_false]
        have e : ∀ (q : Fo) (qn : Nat) (l : List (Int × Int)) (x y : Int) (z r : Fo), Fo.subst q qn l (.cons 7 n x y z r) = .cons 7 n (putU l x y).1 (putU l x y).2 (Fo.subst q qn l z) (Fo.subst q qn l r) := fun q qn l x y z r => by
          simp only [Fo.subst, putB_no (show (7 : Int) ≠ 1 by decide), Bool.false_eq_true, if_false, if_true]
        rw [e, e, e, hp, i1, i2]
      · have e : ∀ (q : Fo) (qn : Nat) (l : List (Int × Int)) (z r : Fo), Fo.subst q qn l (.cons k n v c z r) = .cons k n v c (Fo.subst q qn l z) (Fo.subst q qn l r) := fun q qn l z r => by
          simp only [Fo.subst, putB_no h1, Bool.false_eq_true, if_false, h7]
        rw [e, e, e, i1, i2]
/-- How long it is. -/
theorem subst_size {ts : Fo} {ms : List (Int × Int)} : ∀ f : Fo, f.well = true → (Fo.subst ts ts.len ms f).size = Fo.putSize ts ts.len f
  | .nil, _ => rfl
  | .cons k n v c kids rest, hw => by
    simp only [Fo.well, Bool.and_eq_true] at hw
    have i1 := subst_size (ts := ts) (ms := ms) kids hw.2.1
    have i2 := subst_size (ts := ts) (ms := ms) rest hw.2.2
    by_cases h1 : k = 1
    · subst h1
      have hk := var_kids hw.1
      subst hk
      by_cases hlt : n < (ts.len : Int)
      · have h0 := (nodeB_at hw.1).1 rfl
        obtain ⟨k', n', v', c', kids', e⟩ := nth_cons ts n.toNat (by omega)
        simp only [Fo.subst, Fo.putSize, putB_yes hlt, if_true, e, Fo.size, i2]
        omega
      · have hp : putB 1 n ts.len = false := by simp [putB]; omega
        simp [Fo.subst, Fo.putSize, hp, Fo.size, i2]
    · by_cases h7 : k = 7
      · subst h7
        simp [Fo.subst, Fo.putSize, putB_no (show (7 : Int) ≠ 1 by decide), Fo.size, i1, i2]
      · simp [Fo.subst, Fo.putSize, putB_no h1, h7, Fo.size, i1, i2]
theorem putU_is {ms : List (Int × Int)} (hm : musBad ms = false) {v c : Int} (h : isB v c = true) : isB (putU ms v c).1 (putU ms v c).2 = true := by
  unfold putU
  split
  · cases e : ms[v.toNat]? with
    | none => exact h
    | some x =>
      have hx := List.mem_of_getElem? e
      unfold musBad at hm
      rw [List.any_eq_false] at hm
      simpa using hm x hx
  · exact h
/-- It is well. -/
theorem subst_well {ts : Fo} {ms : List (Int × Int)} (ht : ts.bad = false) (hm : musBad ms = false) : ∀ f : Fo, f.well = true → (Fo.subst ts ts.len ms f).len = f.len ∧ (Fo.subst ts ts.len ms f).well = true
  | .nil, _ => ⟨rfl, rfl⟩
  | .cons k n v c kids rest, hw => by
    simp only [Fo.well, Bool.and_eq_true] at hw
    obtain ⟨l1, i1⟩ := subst_well ht hm kids hw.2.1
    obtain ⟨l2, i2⟩ := subst_well ht hm rest hw.2.2
    by_cases h1 : k = 1
    · subst h1
      have hk := var_kids hw.1
      subst hk
      by_cases hlt : n < (ts.len : Int)
      · have h0 := (nodeB_at hw.1).1 rfl
        obtain ⟨k', n', v', c', kids', e⟩ := nth_cons ts n.toNat (by omega)
        have hb := bad_nth ts n.toNat k' n' v' c' kids' .nil ht e
        simp only [Fo.well, Bool.and_eq_true] at hb
        simp only [Fo.subst, putB_yes hlt, if_true, e, Fo.len, Fo.well, Bool.and_eq_true, l2, i2, and_true, true_and]
        exact ⟨hb.1, hb.2.1⟩
      · have hp : putB 1 n ts.len = false := by simp [putB]; omega
        simp [Fo.subst, hp, Fo.len, Fo.well, l2, i2]
        exact hw.1
    · by_cases h7 : k = 7
      · subst h7
        have hb := hw.1
        have hi : isB v c = true := by
          simp [nodeB] at hb
          exact hb.2.2
        have hi' := putU_is hm hi
        simp only [Fo.subst, putB_no (show (7 : Int) ≠ 1 by decide), Bool.false_eq_true, if_false, if_true, Fo.len, Fo.well, Bool.and_eq_true, l1, l2, i1, i2, and_true, true_and]
        simp [nodeB] at hb ⊢
        exact ⟨hb.1, hb.2.1, hi'⟩
      · simp only [Fo.subst, putB_no h1, Bool.false_eq_true, if_false, h7, Fo.len, Fo.well, Bool.and_eq_true, l1, l2, i1, i2, and_true, true_and]
        exact hw.1
theorem putSize_cons (us : Fo) (un : Nat) (k n v c : Int) (kids r : Fo) : Fo.putSize us un (.cons k n v c kids r) = Fo.putSize us un (.cons k n v c kids .nil) + Fo.putSize us un r := by
  simp only [Fo.putSize, Nat.add_zero]
/-- What is put is no longer, put again, than the whole. -/
theorem put_part {ts us : Fo} {un : Nat} {ms : List (Int × Int)} : ∀ f : Fo, f.well = true → f.Vall (fun n => n < (ts.len : Int)) (fun _ => True) →
    f.Vall (fun n => Fo.putSize us un (ts.nth n.toNat) ≤ Fo.putSize us un (Fo.subst ts ts.len ms f)) (fun _ => True)
  | .nil, _, _ => trivial
  | .cons k n v c kids rest, hw, hv => by
    simp only [Fo.well, Bool.and_eq_true] at hw
    have i1 := put_part (ts := ts) (us := us) (un := un) (ms := ms) kids hw.2.1 hv.2.2.1
    have i2 := put_part (ts := ts) (us := us) (un := un) (ms := ms) rest hw.2.2 hv.2.2.2
    by_cases h1 : k = 1
    · subst h1
      have hlt := hv.1 rfl
      have hk := var_kids hw.1
      subst hk
      have h0 := (nodeB_at hw.1).1 rfl
      obtain ⟨k', n', v', c', kids', e⟩ := nth_cons ts n.toNat (by omega)
      have hs : Fo.subst ts ts.len ms (.cons 1 n v c .nil rest) = .cons k' n' v' c' kids' (Fo.subst ts ts.len ms rest) := by
        simp only [Fo.subst, putB_yes hlt, if_true, e]
      rw [hs, putSize_cons]
      refine ⟨fun _ => by show Fo.putSize us un (ts.nth n.toNat) ≤ _; rw [e]; omega, fun _ _ => trivial, trivial, Fo.Vall.mono (fun x hx => ?_) (fun _ _ => trivial) rest i2⟩
      omega
    · obtain ⟨v', c', hs⟩ : ∃ v' c', Fo.subst ts ts.len ms (.cons k n v c kids rest) = .cons k n v' c' (Fo.subst ts ts.len ms kids) (Fo.subst ts ts.len ms rest) := by
        by_cases h7 : k = 7
        · subst h7
          exact ⟨(putU ms v c).1, (putU ms v c).2, by simp only [Fo.subst, putB_no h1, Bool.false_eq_true, if_false, if_true]⟩
        · exact ⟨v, c, by simp only [Fo.subst, putB_no h1, Bool.false_eq_true, if_false, h7]⟩
      rw [hs]
      have hz : Fo.putSize us un (.cons k n v' c' (Fo.subst ts ts.len ms kids) (Fo.subst ts ts.len ms rest)) = 1 + Fo.putSize us un (Fo.subst ts ts.len ms kids) + Fo.putSize us un (Fo.subst ts ts.len ms rest) := by
        simp only [Fo.putSize, putB_no h1, Bool.false_eq_true, if_false]
      rw [hz]
      exact ⟨fun h => absurd h h1, fun _ _ => trivial, Fo.Vall.mono (fun x hx => by omega) (fun _ _ => trivial) kids i1, Fo.Vall.mono (fun x hx => by omega) (fun _ _ => trivial) rest i2⟩
end Go.Proofs.YtblgligagngpfaaDoor.Mu
namespace Go.Proofs.YtblgligagngpfaaDoor.Mu
open Go.ChangeShapes Go.WideShapes Go.ChangeAt Go.RowKit Go.Shelf

attribute [local go_sem] Oper.semAt_some
set_option linter.unusedVariables false

/-- One of them is as large as that. -/
def anyGe (m : Nat) (l : List Int) : Bool := l.any fun x => decide ((m : Int) ≤ x)
/-- The cells of multiplicities. -/
def flatM (ms : List (Int × Int)) : List Value := ms.flatMap fun x => [.int .i64 x.1, .int .u8 x.2]
theorem flatM_len : ∀ ms : List (Int × Int), (flatM ms).length = ms.length * 2
  | [] => rfl
  | x :: ms => by
    have := flatM_len ms
    simp only [flatM, List.flatMap_cons, List.length_append, List.length_cons, List.length_nil] at *
    omega
theorem flatM_read {w : World} {b : Nat} : ∀ (ms : List (Int × Int)) (o : Nat), (∀ (i : Nat) (x : Int × Int), ms[i]? = some x → w.cell? ⟨b, o + i * 2, none⟩ = some (.int .i64 x.1) ∧ w.cell? ⟨b, o + i * 2 + 1, none⟩ = some (.int .u8 x.2)) → ∀ j u, (flatM ms)[j]? = some u → w.cell? ⟨b, o + j, none⟩ = some u
  | [], _, _, j, u, hu => by simp [flatM] at hu
  | x :: ms, o, h, j, u, hu => by
    have e : flatM (x :: ms) = [.int .i64 x.1, .int .u8 x.2] ++ flatM ms := by simp [flatM]
    rw [e] at hu
    match j, hu with
    | 0, hu => cases hu; exact (h 0 x rfl).1
    | 1, hu => cases hu; exact (h 0 x rfl).2
    | j + 2, hu =>
      have := flatM_read ms (o + 2) (fun i y hy => by
        have := h (i + 1) y hy
        rw [show o + 2 + i * 2 = o + (i + 1) * 2 by omega]
        exact this) j u (by simpa using hu)
      rw [show o + (j + 2) = o + 2 + j by omega]
      exact this
theorem flatM_one (ms : List (Int × Int)) : ∀ u ∈ flatM ms, u.oneCell' = true := by
  intro u hu
  obtain ⟨x, _, hx⟩ := List.mem_flatMap.1 hu
  simp only [List.mem_cons, List.not_mem_nil, or_false] at hx
  rcases hx with rfl | rfl <;> rfl
end Go.Proofs.YtblgligagngpfaaDoor.Mu
namespace Go.Proofs.YtblgligagngpfaaDoor.Mu
open Go.ChangeShapes Go.WideShapes Go.ChangeAt Go.RowKit Go.Shelf

set_option linter.unusedVariables false

def Fo.snoc : Fo → Fo → Fo
  | .nil, g => g
  | .cons k n v c kids rest, g => .cons k n v c kids (Fo.snoc rest g)
theorem Fo.snoc_len : ∀ f g : Fo, (f.snoc g).len = f.len + g.len
  | .nil, g => by simp [Fo.snoc, Fo.len]
  | .cons k n v c kids rest, g => by have := Fo.snoc_len rest g; simp only [Fo.snoc, Fo.len]; omega
theorem Fo.snoc_size : ∀ f g : Fo, (f.snoc g).size = f.size + g.size
  | .nil, g => by simp [Fo.snoc, Fo.size]
  | .cons k n v c kids rest, g => by have := Fo.snoc_size rest g; simp only [Fo.snoc, Fo.size]; omega
theorem Fo.snoc_nth : ∀ (f g : Fo) (i : Nat), i < f.len → (f.snoc g).nth i = f.nth i
  | .nil, _, _, h => absurd h (by simp [Fo.len])
  | .cons k n v c kids rest, g, 0, _ => rfl
  | .cons k n v c kids rest, g, i + 1, h => Fo.snoc_nth rest g i (by simp only [Fo.len] at h; omega)
theorem Fo.snoc_last : ∀ (f : Fo) (k n v c : Int) (kids : Fo), (f.snoc (.cons k n v c kids .nil)).nth f.len = .cons k n v c kids .nil
  | .nil, _, _, _, _, _ => rfl
  | .cons k' n' v' c' kids' rest, k, n, v, c, kids => Fo.snoc_last rest k n v c kids
theorem Fo.nth_out : ∀ (f : Fo) (i : Nat), f.len ≤ i → f.nth i = .nil
  | .nil, _, _ => rfl
  | .cons k n v c kids rest, 0, h => absurd h (by simp [Fo.len])
  | .cons k n v c kids rest, i + 1, h => Fo.nth_out rest i (by simp only [Fo.len] at h; omega)
/-- The cells of types, one behind the other, with what is within them. -/
def CellsOf (w : World) (Ok : Nat → Prop) : Fo → List Value → Prop
  | .nil, xs => xs = []
  | .cons k n v c kids rest, xs => ∃ A cap tl, xs = [.int .u8 k, .int .i64 n, .int .i64 v, .int .u8 c, .slice A kids.len cap] ++ tl ∧ KidsAt w Ok A kids.len cap kids ∧ CellsOf w Ok rest tl
theorem CellsOf.to {w w' : World} {Ok Ok' : Nat → Prop} (hk : ∀ j, Ok j → w'.heap[j]? = w.heap[j]?) (hw : ∀ j, Ok j → Ok' j) : ∀ (f : Fo) (xs : List Value), CellsOf w Ok f xs → CellsOf w' Ok' f xs
  | .nil, _, h => h
  | .cons k n v c kids rest, xs, h => by
    obtain ⟨A, cap, tl, e, h1, h2⟩ := h
    exact ⟨A, cap, tl, e, (h1.keep hk).wide hw, CellsOf.to hk hw rest tl h2⟩
theorem CellsOf.snoc {w : World} {Ok : Nat → Prop} {k n v c : Int} {A : Option Addr} {len cap : Nat} {kids : Fo} (hk : KidsAt w Ok A len cap kids) : ∀ (f : Fo) (xs : List Value), CellsOf w Ok f xs → CellsOf w Ok (f.snoc (.cons k n v c kids .nil)) (xs ++ [.int .u8 k, .int .i64 n, .int .i64 v, .int .u8 c, .slice A len cap])
  | .nil, xs, h => by
    have h' : xs = [] := h
    have e := hk.1
    subst h' e
    exact ⟨A, cap, [], rfl, hk, rfl⟩
  | .cons k' n' v' c' kids' rest, xs, h => by
    obtain ⟨A', cap', tl, rfl, h1, h2⟩ := h
    exact ⟨A', cap', _, by simp, h1, CellsOf.snoc hk rest tl h2⟩
theorem CellsOf.foAt {w : World} {Ok : Nat → Prop} {b : Nat} : ∀ (f : Fo) (xs : List Value) (o : Nat), CellsOf w Ok f xs → (∀ j u, xs[j]? = some u → w.cell? ⟨b, o + j, none⟩ = some u) → FoAt w Ok f b o
  | .nil, _, _, _, _ => trivial
  | .cons k n v c kids rest, xs, o, h, hc => by
    obtain ⟨A, cap, tl, rfl, h1, h2⟩ := h
    refine ⟨A, cap, hc 0 _ rfl, hc 1 _ rfl, hc 2 _ rfl, hc 3 _ rfl, hc 4 _ rfl, h1.2.1, h1.2.2, CellsOf.foAt rest tl (o + 5) h2 fun j u hu => ?_⟩
    have := hc (5 + j) u (by rw [List.getElem?_append_right (by simp)]; simpa using hu)
    rw [show o + 5 + j = o + (5 + j) by omega]
    exact this
/-- A row of types of the call's own; what is within them lies in blocks of X. -/
def RowF (X : Nat → Prop) (w2 wr : World) (v : Value) (n : Nat) (g : Fo) : Prop :=
  ∃ xs, OwnR 27 5 w2 wr v n xs ∧ g.len = n ∧ CellsOf wr (fun j => j < wr.heap.size ∧ v.ownBlock ≠ some j ∧ X j) g xs
theorem RowF.start (X : Nat → Prop) (w : World) : RowF X w w (.slice none 0 0) 0 .nil := ⟨[], OwnR.start _ _ _, rfl, rfl⟩
theorem CellsOf.bel {X : Nat → Prop} {v : Value} {wr w' : World} {g : Fo} {xs : List Value} (h : CellsOf wr (fun j => j < wr.heap.size ∧ v.ownBlock ≠ some j ∧ X j) g xs) (hb : Bel wr w') : CellsOf w' (fun j => j < w'.heap.size ∧ v.ownBlock ≠ some j ∧ X j) g xs :=
  CellsOf.to (fun j hj => hb.block j hj.1) (fun j hj => ⟨Nat.lt_of_lt_of_le hj.1 hb.size, hj.2⟩) g xs h
theorem RowF.bel {X : Nat → Prop} {w2 wr w' : World} {v : Value} {n : Nat} {g : Fo} (h : RowF X w2 wr v n g) (hb : Bel wr w') : RowF X w2 w' v n g := by
  obtain ⟨xs, h1, h2, h3⟩ := h
  exact ⟨xs, h1.bel hb, h2, h3.bel hb⟩
theorem RowF.step {X : Nat → Prop} {w2 wr w3 : World} {A : Option Addr} {cp n : Nat} {g : Fo} {xs : List Value} {v' : Value} {k m u c : Int} {A' : Option Addr} {len cap : Nat} {kids : Fo} (o : Obj) (hO : wr.ownsRow w2.heap.size 27 5 (.slice A n cp) n xs) (hb : Bel w2 wr) (hl : g.len = n)
    (hc : CellsOf wr (fun j => j < wr.heap.size ∧ (Value.slice A n cp).ownBlock ≠ some j ∧ X j) g xs) (hk : KidsAt wr (fun j => j < wr.heap.size ∧ (Value.slice A n cp).ownBlock ≠ some j ∧ X j) A' len cap kids)
    (hown : w3.ownsRow w2.heap.size 27 5 v' (n + 1) (xs ++ [.int .u8 k, .int .i64 m, .int .i64 u, .int .u8 c, .slice A' len cap])) (hg : (wr.alloc o).grownBy w3 (Value.slice A n cp).ownBlock) (hv : v'.ownBlock = (Value.slice A n cp).ownBlock ∨ v'.ownBlock = some (wr.alloc o).heap.size) :
    RowF X w2 w3 v' (n + 1) (g.snoc (.cons k m u c kids .nil)) := by
  refine ⟨_, OwnR.step o hO hb hown hg, by rw [Fo.snoc_len, hl]; rfl, CellsOf.to (fun j hj => ?_) (fun j hj => ⟨?_, ?_, hj.2.2⟩) _ _ (CellsOf.snoc hk g xs hc)⟩
  · have h1 := hg.block j (by have := hj.1; simp; omega) (fun e => hj.2.1 e.symm)
    exact h1.trans ((Below.heap_alloc wr o _ hj.1))
  · have := hg.size
    have := hj.1
    simp at *
    omega
  · rcases hv with h | h
    · rw [h]; exact hj.2.1
    · rw [h]
      intro e
      have := hj.1
      simp at e
      omega
/-- Behind the loop: the types in memory. -/
theorem RowF.kids {X : Nat → Prop} {w2 wr : World} {A : Option Addr} {cp n : Nat} {g : Fo} (h : RowF X w2 wr (.slice A n cp) n g) : KidsAt wr (Old wr) A n cp g := by
  obtain ⟨xs, ⟨A2, c2, e, hO, hb⟩, h2, h3⟩ := h
  cases e
  rcases hO with ⟨hl, ⟨e, h0⟩ | ⟨b, cap, cur, e, hbb, hh, h4, h5, h6, h7⟩⟩
  · cases e
    exact ⟨h2.symm, Nat.le_refl _, fun h => absurd h (by omega)⟩
  · cases e
    refine ⟨h2.symm, h4, fun _ => ⟨b, 0, rfl, (Array.getElem?_eq_some_iff.1 hh).1, FoAt.wide (fun j hj => hj.1) g b 0 (CellsOf.foAt g xs 0 h3 fun j u hu => ?_)⟩⟩
    rw [Nat.zero_add]
    subst h7
    have hu' : cur.toList[j]? = some u := by
      have := List.getElem?_take (l := cur.toList) (i := n * 5) (j := j)
      rw [hu] at this
      by_cases hj : j < n * 5
      · rw [if_pos hj] at this; exact this.symm
      · rw [if_neg hj] at this; cases this
    simp only [Array.getElem?_toList] at hu'
    simp [World.cell?, hh, hu']
/-- The cells of a row of multiplicities, one after the other. -/
def M2 (w0 w : World) (g : Nat) (l : List (Int × Int)) : Prop :=
  Bel w0 w ∧ w0.heap.size ≤ g ∧ g < w.heap.size ∧ (∀ x, w.frozen? ⟨g, x, none⟩ = false) ∧ ∀ (i : Nat) (x : Int × Int), l[i]? = some x → w.cell? ⟨g, i * 2, none⟩ = some (.int .i64 x.1) ∧ w.cell? ⟨g, i * 2 + 1, none⟩ = some (.int .u8 x.2)
theorem M2.bel {w0 w w' : World} {g : Nat} {l : List (Int × Int)} (h : M2 w0 w g l) (hb : Bel w w') : M2 w0 w' g l := by
  obtain ⟨h1, h2, h3, h4, h5⟩ := h
  exact ⟨h1.on hb, h2, Nat.lt_of_lt_of_le h3 hb.size, fun x => (World.frozen?_of_block (a := ⟨g, x, none⟩) (hb.block g h3)).trans (h4 x), fun i x hx => ⟨(hb.cell (p := ⟨g, i * 2, none⟩) h3).trans (h5 i x hx).1, (hb.cell (p := ⟨g, i * 2 + 1, none⟩) h3).trans (h5 i x hx).2⟩⟩
theorem flatM_cells {w : World} {b : Nat} : ∀ (ms : List (Int × Int)) (o : Nat), (∀ j u, (flatM ms)[j]? = some u → w.cell? ⟨b, o + j, none⟩ = some u) → ∀ (i : Nat) (x : Int × Int), ms[i]? = some x → w.cell? ⟨b, o + i * 2, none⟩ = some (.int .i64 x.1) ∧ w.cell? ⟨b, o + i * 2 + 1, none⟩ = some (.int .u8 x.2)
  | [], _, _, i, x, h => by simp at h
  | y :: ms, o, h, i, x, hx => by
    have e : flatM (y :: ms) = [.int .i64 y.1, .int .u8 y.2] ++ flatM ms := by simp [flatM]
    rw [e] at h
    cases i with
    | zero =>
      simp at hx
      subst hx
      exact ⟨h 0 _ rfl, h 1 _ rfl⟩
    | succ i =>
      have := flatM_cells ms (o + 2) (fun j u hu => by
        have := h (2 + j) u (by rw [List.getElem?_append_right (by simp)]; simpa using hu)
        rw [show o + 2 + j = o + (2 + j) by omega]
        exact this) i x (by simpa using hx)
      rw [show o + (i + 1) * 2 = o + 2 + i * 2 by omega]
      exact this
/-- A clone's cells. -/
theorem M2.of {w0 w : World} {A : Option Addr} {n c : Nat} {l : List (Int × Int)} (h : OwnR 24 2 w0 w (.slice A n c) n (flatM l)) (h0 : 0 < n) : ∃ g, A = some ⟨g, 0, none⟩ ∧ M2 w0 w g l := by
  obtain ⟨A2, c2, e, hO, hb⟩ := h
  cases e
  rcases hO with ⟨hl, ⟨e, h00⟩ | ⟨b, cap, cur, e, hbb, hh, h4, h5, h6, h7⟩⟩
  · omega
  · cases e
    refine ⟨b, rfl, hb, hbb, (Array.getElem?_eq_some_iff.1 hh).1, fun x => by simp [World.frozen?, hh], fun i x hx => ?_⟩
    have := flatM_cells (w := w) (b := b) l 0 (fun j u hu => ?_) i x hx
    · simpa using this
    · rw [Nat.zero_add]
      rw [← h7] at hu
      have hu' : cur.toList[j]? = some u := by
        have := List.getElem?_take (l := cur.toList) (i := n * 2) (j := j)
        rw [hu] at this
        by_cases hj : j < n * 2
        · rw [if_pos hj] at this; exact this.symm
        · rw [if_neg hj] at this; cases this
      simp only [Array.getElem?_toList] at hu'
      simp [World.cell?, hh, hu']
theorem M2.set {w0 w : World} {g j : Nat} {l : List (Int × Int)} {y : Int × Int} (h : M2 w0 w g l) (hj : j < l.length) : M2 w0 ((w.setCell ⟨g, j * 2, none⟩ (.int .i64 y.1)).setCell ⟨g, j * 2 + 1, none⟩ (.int .u8 y.2)) g (l.set j y) := by
  obtain ⟨h1, h2, h3, h4, h5⟩ := h
  have hn : ∀ (W : World) (x z : Nat) (v : Value), x ≠ z → (W.setCell ⟨g, x, none⟩ v).cell? ⟨g, z, none⟩ = W.cell? ⟨g, z, none⟩ := fun W x z v h => World.cell?_setCell_other W _ ⟨g, z, none⟩ _ (fun e => h (by injection e))
  obtain ⟨a0, a1⟩ := h5 j l[j] (List.getElem?_eq_getElem hj)
  refine ⟨⟨h1.os, h1.tape, h1.output, by simpa [World.setCell] using h1.size, fun i hi => ?_⟩, h2, by simpa [World.setCell] using h3, fun x => by rw [World.frozen?_setCell, World.frozen?_setCell]; exact h4 x, fun i x hx => ?_⟩
  · rw [heap_setCell_other _ _ _ _ (by show i ≠ g; omega), heap_setCell_other _ _ _ _ (by show i ≠ g; omega)]
    exact h1.block i hi
  · by_cases e : i = j
    · subst e
      rw [List.getElem?_set_self hj] at hx
      cases hx
      refine ⟨(hn _ _ _ _ (by omega)).trans (World.cell?_setCell_same _ _ _ a0), World.cell?_setCell_same _ _ _ ((hn _ _ _ _ (by omega)).trans a1)⟩
    · rw [List.getElem?_set_ne (fun h => e h.symm)] at hx
      obtain ⟨b0, b1⟩ := h5 i x hx
      exact ⟨((hn _ _ _ _ (by omega)).trans (hn _ _ _ _ (by omega))).trans b0, ((hn _ _ _ _ (by omega)).trans (hn _ _ _ _ (by omega))).trans b1⟩
theorem M2.mu {w0 w : World} {g n : Nat} {l : List (Int × Int)} (h : M2 w0 w g l) (hn : n = l.length) : RMu w (some ⟨g, 0, none⟩) n l :=
  ⟨hn, fun _ => ⟨g, 0, rfl, h.2.2.1, fun i x hx => by simpa using h.2.2.2.2 i x hx⟩⟩
theorem err_zero {f : Fo} (h1 : f.size ≤ 300) (h2 : f.well = true) : tyErr f = 0 := by
  unfold tyErr
  rw [if_neg (by omega), if_pos h2]
theorem err_small {f : Fo} (h : tyErr f = 0) : f.size ≤ 300 ∧ f.well = true := by
  unfold tyErr at h
  by_cases h1 : 300 < f.size
  · rw [if_pos h1] at h; cases h
  · rw [if_neg h1] at h
    by_cases h2 : f.well = true
    · exact ⟨by omega, h2⟩
    · rw [if_neg h2] at h; cases h
theorem okPut_of {x us : Fo} {ns : List (Int × Int)} (h1 : tyErr x = 0) (h2 : us.bad = false) (h3 : musBad ns = false) : okPut x us ns = true := by
  simp [okPut, h1, h2, h3]
theorem okPut_three {x us : Fo} {ns : List (Int × Int)} (h : okPut x us ns = true) : tyErr x = 0 ∧ us.bad = false ∧ musBad ns = false := by
  simpa [okPut, and_assoc] using h
/-- What Put answers, by its parts: it may be, or it errs. -/
def PutMay (f ts : Fo) (ms : List (Int × Int)) : Prop := okPut f ts ms = true ∧ Fo.putSize ts ts.len f ≤ 300
theorem pp_sub {x us : Fo} {ns : List (Int × Int)} (h : PutMay x us ns) : tyErr (Fo.subst us us.len ns x) = 0 := by
  obtain ⟨h1, h2, h3⟩ := okPut_three h.1
  refine err_zero ?_ (subst_well h2 h3 x (err_small h1).2).2
  rw [subst_size x (err_small h1).2]
  exact h.2
/-- Of each of the types: it may be, and where it is put in it is put. -/
def PpEl (V : List Int) (ts us : Fo) (ns : List (Int × Int)) (i : Nat) (x : Fo) : Prop := tyErr x = 0 ∧ ((i : Int) ∈ V → x = Fo.subst us us.len ns (ts.nth i))
theorem pp_yes {V : List Int} {ts us : Fo} {ns : List (Int × Int)} {i : Nat} (h : PutMay (ts.nth i) us ns) : PpEl V ts us ns i (Fo.subst us us.len ns (ts.nth i)) := ⟨pp_sub h, fun _ => rfl⟩
theorem bad_at {ts : Fo} (h : ts.bad = false) {i : Nat} (hi : i < ts.len) : tyErr (ts.nth i) = 0 := by
  by_cases h0 : tyErr (ts.nth i) = 0
  · exact h0
  · rw [Fo.bad_of ts i hi h0] at h; cases h
theorem pp_no {V : List Int} {ts us : Fo} {ns : List (Int × Int)} {i : Nat} (h : ts.bad = false) (hi : i < ts.len) (hv : (i : Int) ∉ V) : PpEl V ts us ns i (ts.nth i) := ⟨bad_at h hi, fun h => absurd h hv⟩
theorem vall_lt {f : Fo} {m : Nat} (h : ∀ x ∈ f.varsF.1, x < (m : Int)) : f.Vall (fun n => n < (m : Int)) (fun _ => True) := Fo.Vall.mono h (fun _ _ => trivial) f (varsF_all f)
/-- Where it stands in the whole it can be put. -/
theorem pp_may {f ts us : Fo} {ms ns : List (Int × Int)} (hx : PutMay f ts ms) (hy : PutMay (Fo.subst ts ts.len ms f) us ns) (hV : ∀ x ∈ f.varsF.1, x < (ts.len : Int)) {i : Nat} (hi : (i : Int) ∈ f.varsF.1) : PutMay (ts.nth i) us ns := by
  obtain ⟨h1, h2, h3⟩ := okPut_three hx.1
  obtain ⟨g1, g2, g3⟩ := okPut_three hy.1
  have hl := hV _ hi
  refine ⟨okPut_of (bad_at h2 (by omega)) g2 g3, ?_⟩
  have := (vrun_only (R := fun _ => True) f none ([], []) (put_part (us := us) (un := us.len) (ms := ms) f (err_small h1).2 (vall_lt hV)) trivial (by simp) (by simp)).1 _ hi
  have e : ((i : Int)).toNat = i := by omega
  rw [e] at this
  exact Nat.le_trans this hy.2
/-- The multiplicities, put. -/
def putL (ms ns : List (Int × Int)) : List (Int × Int) := ms.map fun x => putU ns x.1 x.2
theorem putL_bad {ms ns : List (Int × Int)} (h1 : musBad ms = false) (h2 : musBad ns = false) : musBad (putL ms ns) = false := by
  unfold musBad putL at *
  rw [List.any_eq_false] at h1 ⊢
  intro x hx
  obtain ⟨y, hy, rfl⟩ := List.mem_map.1 hx
  have := putU_is (v := y.1) (c := y.2) (ms := ns) (by unfold musBad; exact h2) (by simpa using h1 y hy)
  simp only [this]
  decide
theorem putL_at {ms ns : List (Int × Int)} {v : Int} (h0 : 0 ≤ v) (h : v < (ms.length : Int)) : putU (putL ms ns) v 0 = putU ns (putU ms v 0).1 (putU ms v 0).2 := by
  have hl : v.toNat < ms.length := by omega
  have e : ms[v.toNat]? = some ms[v.toNat] := List.getElem?_eq_getElem hl
  have a : putU ms v 0 = ms[v.toNat] := by unfold putU; rw [if_pos ⟨rfl, h⟩, e]; rfl
  have b : putU (putL ms ns) v 0 = putU ns (ms[v.toNat]).1 (ms[v.toNat]).2 := by
    unfold putU putL
    rw [if_pos ⟨rfl, by simpa using h⟩, List.getElem?_map, e]
    rfl
  rw [a, b]
/-- Put behind Put. -/
theorem pp_end {f ts us vs : Fo} {ms ns : List (Int × Int)} (hx : PutMay f ts ms) (hy : PutMay (Fo.subst ts ts.len ms f) us ns) (hV : ∀ x ∈ f.varsF.1, x < (ts.len : Int)) (hM : ∀ x ∈ f.varsF.2, x < (ms.length : Int)) (hl : vs.len = ts.len)
    (hvs : ∀ i, i < ts.len → PpEl f.varsF.1 ts us ns i (vs.nth i)) : PutMay f vs (putL ms ns) ∧ Fo.subst vs vs.len (putL ms ns) f = Fo.subst us us.len ns (Fo.subst ts ts.len ms f) := by
  obtain ⟨h1, h2, h3⟩ := okPut_three hx.1
  obtain ⟨g1, g2, g3⟩ := okPut_three hy.1
  have hw := (err_small h1).2
  have hin := varsF_in hw
  have e : Fo.subst vs vs.len (putL ms ns) f = Fo.subst us us.len ns (Fo.subst ts ts.len ms f) := by
    rw [hl]
    refine subst_subst f hw (Fo.Vall.mono (fun x hx => ?_) (fun x hx => putL_at (hin.2 x hx).1 (hM x hx)) f (varsF_all f))
    have h0 := (hin.1 x hx).1
    have hlt := hV x hx
    exact ⟨h0, hlt, (hvs x.toNat (by omega)).2 (by rw [Int.toNat_of_nonneg h0]; exact hx)⟩
  refine ⟨⟨okPut_of h1 (Fo.bad_no vs fun i hi => (hvs i (by omega)).1) (putL_bad h3 g3), ?_⟩, e⟩
  rw [← subst_size (ms := putL ms ns) f hw, e, subst_size _ (err_small g1).2]
  exact hy.2
theorem el_ok {V : List Int} {ts us vs : Fo} {ns : List (Int × Int)} (hl : vs.len ≤ 5000) (h : ∀ i, i < vs.len → PpEl V ts us ns i (vs.nth i)) : TsOk vs := by
  have h1 : ∀ i, (vs.nth i).size ≤ 300 := fun i => by
    by_cases hi : i < vs.len
    · exact (err_small (h i hi).1).1
    · rw [Fo.nth_out vs i (by omega)]; simp [Fo.size]
  have h2 : ∀ (f : Fo), (∀ i, (f.nth i).size ≤ 300) → f.size ≤ f.len * 300 := by
    intro f
    induction f with
    | nil => intro _; simp [Fo.size, Fo.len]
    | cons k n v c kids rest _ ih =>
      intro h
      have a := h 0
      have b := ih fun i => h (i + 1)
      simp only [Fo.nth, Fo.size, Fo.len] at a b ⊢
      omega
  refine ⟨by omega, ?_, fun i => Nat.le_trans (h1 i) (by decide)⟩
  have := h2 vs h1
  omega
/-- The multiplicities, as far as they are put. -/
def putTo (ms ns : List (Int × Int)) (j : Nat) : List (Int × Int) := (putL ms ns).take j ++ ms.drop j
theorem putTo_len {ms ns : List (Int × Int)} {j : Nat} : (putTo ms ns j).length = ms.length := by
  unfold putTo
  simp [putL]
  omega
theorem putTo_zero {ms ns : List (Int × Int)} : putTo ms ns 0 = ms := by simp [putTo]
theorem putTo_all {ms ns : List (Int × Int)} : putTo ms ns ms.length = putL ms ns := by
  unfold putTo
  rw [List.drop_length, List.append_nil, List.take_of_length_le (by simp [putL])]
theorem putTo_at {ms ns : List (Int × Int)} {j : Nat} {x : Int × Int} (hx : ms[j]? = some x) : (putTo ms ns j)[j]? = some x := by
  have hl := (List.getElem?_eq_some_iff.1 hx).1
  have e : ((putL ms ns).take j).length = j := by simp [putL]; omega
  unfold putTo
  rw [List.getElem?_append_right (by omega), e, Nat.sub_self, List.getElem?_drop]
  exact hx
theorem putTo_next {ms ns : List (Int × Int)} {j : Nat} {x : Int × Int} (hx : ms[j]? = some x) : (putTo ms ns j).set j (putU ns x.1 x.2) = putTo ms ns (j + 1) := by
  have hl := (List.getElem?_eq_some_iff.1 hx).1
  have e : ((putL ms ns).take j).length = j := by simp [putL]; omega
  have hp : (putL ms ns)[j]? = some (putU ns x.1 x.2) := by unfold putL; rw [List.getElem?_map, hx]; rfl
  have hd : ms.drop j = x :: ms.drop (j + 1) := by
    rw [List.drop_eq_getElem_cons hl]
    congr 1
    have := List.getElem?_eq_getElem hl
    rw [hx] at this
    exact (Option.some.inj this).symm
  unfold putTo
  rw [List.set_append_right _ _ (by omega), e, Nat.sub_self, hd, List.set_cons_zero, take_snoc_ hp, List.append_assoc]
  rfl
theorem putTo_same {ms ns : List (Int × Int)} {j : Nat} {x : Int × Int} (hx : ms[j]? = some x) (h : putU ns x.1 x.2 = x) : putTo ms ns (j + 1) = putTo ms ns j := by
  rw [← putTo_next hx, h]
  apply List.ext_getElem?
  intro i
  by_cases e : j = i
  · subst e
    rw [List.getElem?_set_self (by rw [putTo_len]; exact (List.getElem?_eq_some_iff.1 hx).1), putTo_at hx]
  · rw [List.getElem?_set_ne e]
theorem putU_no {ns : List (Int × Int)} {v c : Int} (h : ¬ (c = 0 ∧ v < (ns.length : Int))) : putU ns v c = (v, c) := by
  unfold putU
  rw [if_neg h]
theorem putU_yes {ns : List (Int × Int)} {v : Int} {y : Int × Int} (h : v < (ns.length : Int)) (hy : ns[v.toNat]? = some y) : putU ns v 0 = y := by
  unfold putU
  rw [if_pos ⟨rfl, h⟩, hy]
  rfl
theorem mus_at {ms : List (Int × Int)} (h : musBad ms = false) {j : Nat} {v : Int} (hx : ms[j]? = some (v, 0)) : 0 ≤ v := by
  unfold musBad at h
  rw [List.any_eq_false] at h
  have := h _ (List.mem_of_getElem? hx)
  simp [isB, isVarB, isMultB] at this
  omega
end Go.Proofs.YtblgligagngpfaaDoor.Mu

