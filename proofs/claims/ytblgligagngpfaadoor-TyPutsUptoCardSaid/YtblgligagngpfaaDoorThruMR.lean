/-
  Going through a type: what is still to be gone to, and what the walk itself changes.
  Types in memory, as forests; going through one that is only looked at.
-/
import Derived.Test.YtblgligagngpfaaDoorGraph
import Derived.Deep.LoopGhost
namespace Go.Proofs.YtblgligagngpfaaDoor.Mu
open Go.ChangeShapes Go.WideShapes Go.ChangeAt Go.RowKit Go.Shelf

/-- What is still to be gone to: a node, or a multiplicity. -/
inductive Itm where
  | nd (b o : Nat)
  | mu (b o : Nat)
def Itm.cells : Itm → List Value
  | .nd b o => [.pointer (some ⟨b, o, none⟩), .pointer none]
  | .mu b o => [.pointer none, .pointer (some ⟨b, o, none⟩)]
theorem Itm.cells_len (x : Itm) : x.cells.length = 2 := by cases x <;> rfl
def flatT (S : List Itm) : List Value := S.reverse.flatMap Itm.cells
theorem flatT_cons (x : Itm) (S : List Itm) : flatT (x :: S) = flatT S ++ x.cells := by simp [flatT]
theorem flatT_len : ∀ S : List Itm, (flatT S).length = S.length * 2
  | [] => rfl
  | x :: S => by rw [flatT_cons, List.length_append, flatT_len S, x.cells_len, List.length_cons]; omega
/-- What the walk itself changes: memory of its own, O. -/
structure Thru (w : World) (O : Nat → Prop) (w' : World) (O' : Nat → Prop) : Prop where
  os : w'.os = w.os
  tape : w'.tape = w.tape
  output : w'.output = w.output
  size : w.heap.size ≤ w'.heap.size
  keep : ∀ j, j < w.heap.size → ¬ O j → w'.heap[j]? = w.heap[j]?
  own : ∀ j, O' j → (O j ∨ w.heap.size ≤ j) ∧ j < w'.heap.size
theorem Thru.refl {w : World} {O : Nat → Prop} (h : ∀ j, O j → j < w.heap.size) : Thru w O w O := ⟨rfl, rfl, rfl, Nat.le_refl _, fun _ _ _ => rfl, fun j hj => ⟨.inl hj, h j hj⟩⟩
theorem Thru.trans {w w1 w2 : World} {O O1 O2 : Nat → Prop} (h : Thru w O w1 O1) (k : Thru w1 O1 w2 O2) : Thru w O w2 O2 :=
  ⟨k.os.trans h.os, k.tape.trans h.tape, k.output.trans h.output, Nat.le_trans h.size k.size, fun j hj hn => (k.keep j (Nat.lt_of_lt_of_le hj h.size) (fun e => by rcases (h.own j e).1 with e | e; exact hn e; omega)).trans (h.keep j hj hn),
   fun j hj => ⟨by
    rcases (k.own j hj).1 with e | e
    · exact (h.own j e).1
    · exact .inr (Nat.le_trans h.size e), (k.own j hj).2⟩⟩
/-- A call leaves what is the walk's own as it was. -/
structure Spare (w : World) (O : Nat → Prop) (w1 : World) : Prop where
  size : w.heap.size ≤ w1.heap.size
  keep : ∀ j, O j → w1.heap[j]? = w.heap[j]?
def NodeAt (w : World) (b o : Nat) (kd : Int) (A : Option Addr) (n c : Nat) : Prop :=
  w.cell? ⟨b, o, none⟩ = some (.int .u8 kd) ∧ w.cell? ⟨b, o + 4, none⟩ = some (.slice A n c) ∧ (0 < n → ∃ b' o', A = some ⟨b', o', none⟩)
def muOf (hm : Bool) (kd : Int) (b o : Nat) : List Itm := if kd = 7 ∧ hm = true then [.mu b (o + 2)] else []
/-- The nodes of a list from its i-th on. -/
def ndsOf (A : Option Addr) (i n : Nat) : List Itm := match A with
  | some ad => (List.range' i (n - i)).map fun q => .nd ad.block (ad.off + q * 5)
  | none => []
def kidsOf (hm : Bool) (kd : Int) (b o : Nat) (A : Option Addr) (n : Nat) : List Itm := (ndsOf A 0 n).take 1 ++ (muOf hm kd b o ++ ndsOf A 1 n)
theorem ndsOf_step {b o i n : Nat} (h : i < n) : ndsOf (some ⟨b, o, none⟩) i n = .nd b (o + i * 5) :: ndsOf (some ⟨b, o, none⟩) (i + 1) n := by
  unfold ndsOf
  have e : n - i = (n - (i + 1)) + 1 := by omega
  simp only [e, List.range'_succ, List.map_cons]
theorem ndsOf_end {A : Option Addr} {i n : Nat} (h : n ≤ i) : ndsOf A i n = [] := by
  unfold ndsOf
  cases A with
  | none => rfl
  | some ad => simp only [show n - i = 0 by omega, List.range'_zero, List.map_nil]
section
variable (P : Program) (fo : Nat) (caps : Array Value) (M : Option (Nat × Array Value)) (F : World → Prop)
/-- What is to be gone to can be gone through in at most so many steps, and then F holds. -/
def Runs : Nat → List Itm → World → (Nat → Prop) → Prop
  | _, [], w, O => ∀ w' O', Thru w O w' O' → F w'
  | 0, _ :: _, _, _ => False
  | k + 1, .mu b o :: is, w, O => ∃ gm cm, M = some (gm, cm) ∧ ∀ w' O', Thru w O w' O' → Calls P gm (#[.pointer (some ⟨b, o, none⟩)] ++ cm) w' fun e w1 => e = .returned (.tuple #[]) ∧ Spare w' O' w1 ∧ Runs k is w1 O'
  | k + 1, .nd b o :: is, w, O => ∀ w' O', Thru w O w' O' → Calls P fo (#[.pointer (some ⟨b, o, none⟩)] ++ caps) w' fun e w1 => ∃ g : Bool, e = .returned (.bool g) ∧ Spare w' O' w1 ∧ (g = false → Runs k is w1 O') ∧ (g = true → ∃ kd A n c, NodeAt w1 b o kd A n c ∧ ¬ O' b ∧ n + is.length ≤ 4000000 ∧ Runs k (kidsOf M.isSome kd b o A n ++ is) w1 O')
theorem Runs.on {k : Nat} {S : List Itm} {w w' : World} {O O' : Nat → Prop} (h : Runs P fo caps M F k S w O) (ht : Thru w O w' O') : Runs P fo caps M F k S w' O' := by
  match k, S, h with
  | 0, [], h => exact fun w2 O2 h2 => h w2 O2 (ht.trans h2)
  | k + 1, [], h => exact fun w2 O2 h2 => h w2 O2 (ht.trans h2)
  | k + 1, .mu b o :: is, h =>
    obtain ⟨gm, cm, e, h⟩ := h
    exact ⟨gm, cm, e, fun w2 O2 h2 => h w2 O2 (ht.trans h2)⟩
  | k + 1, .nd b o :: is, h => exact fun w2 O2 h2 => h w2 O2 (ht.trans h2)
end
def mval : Option (Nat × Array Value) → Value
  | none => .nilFunc
  | some (g, c) => .func (.func g) #[] c
/-- The list of what is still to be gone to, in memory: the walk's own. -/
def RowT (w : World) (base : Nat) (S : List Itm) (v : Value) (O : Nat → Prop) : Prop :=
  ∃ A c, v = .slice A S.length c ∧ w.ownsRow base 99 2 (.slice A S.length c) S.length (flatT S) ∧ (∀ j, Bk A j → O j) ∧ ∀ j, O j → j < w.heap.size
section
variable {w w' : World} {base : Nat} {S : List Itm} {v : Value} {O : Nat → Prop}
theorem RowT.bel (h : RowT w base S v O) (hs : w.heap.size ≤ w'.heap.size) (hk : ∀ j, O j → w'.heap[j]? = w.heap[j]?) : RowT w' base S v O := by
  obtain ⟨A, c, e, h1, h2, h3⟩ := h
  exact ⟨A, c, e, own_blk h1 fun x hx => hk x (h2 x (own_bk h1 hx)), h2, fun j hj => Nat.lt_of_lt_of_le (h3 j hj) hs⟩
theorem RowT.pop {x : Itm} (h : RowT w base (x :: S) v O) : ∃ g c, v = .slice (some ⟨g, 0, none⟩) (S.length + 1) c ∧ O g ∧ S.length + 1 ≤ c ∧ c ≤ maxLen ∧ RowT w base S (.slice (some ⟨g, 0, none⟩) S.length c) O ∧ ∀ j u, x.cells[j]? = some u → w.cell? ⟨g, S.length * 2 + j, none⟩ = some u := by
  obtain ⟨A, c, e, h1, h2, h3⟩ := h
  rw [List.length_cons] at h1 e
  have h1' := h1
  obtain ⟨hl, hr⟩ := h1
  rcases hr with ⟨_, h0⟩ | ⟨g, cap, cur, hv, hb, hh, hnc, hm, hcs, ht⟩
  · omega
  · cases hv
    refine ⟨g, c, e, h2 g ⟨0, rfl⟩, hnc, hm, ⟨some ⟨g, 0, none⟩, c, rfl, ⟨flatT_len S, .inr ⟨g, c, cur, rfl, hb, hh, by omega, hm, hcs, ?_⟩⟩, h2, h3⟩, fun j u hu => ?_⟩
    · have h4 := congrArg (List.take (S.length * 2)) ht
      rw [List.take_take, flatT_cons, List.take_append_of_le_length (by rw [flatT_len]; exact Nat.le_refl _), List.take_of_length_le (l := flatT S) (by rw [flatT_len]; exact Nat.le_refl _)] at h4
      rw [← h4]
      congr 1
      omega
    · have h5 := h1'.cells (g := g) rfl (S.length * 2 + j) u (by rw [flatT_cons, List.getElem?_append_right (by rw [flatT_len]; omega), flatT_len, Nat.add_sub_cancel_left]; exact hu)
      rwa [Addr.add_lit, Nat.zero_add] at h5
theorem RowT.push {wa : World} {A : Option Addr} {c : Nat} {x : Itm} {v' : Value} (h : RowT w base S (.slice A S.length c) O) (hba : Bel w wa) (hown : w'.ownsRow base 99 2 v' (S.length + 1) (flatT S ++ x.cells)) (hg : wa.grownBy w' (Value.slice A S.length c).ownBlock) (hat : v'.ownBlock = (Value.slice A S.length c).ownBlock ∨ v'.ownBlock = some wa.heap.size) :
    ∃ g5 c5 O', v' = .slice (some ⟨g5, 0, none⟩) (S.length + 1) c5 ∧ RowT w' base (x :: S) v' O' ∧ Thru w O w' O' ∧ (∀ j, j < w.heap.size → ¬ Bk A j → w'.heap[j]? = w.heap[j]?) ∧ (Bk A g5 ∨ w.heap.size ≤ g5) ∧ ∀ j, O j → O' j := by
  obtain ⟨A0, c0, e, h1, h2, h3⟩ := h
  cases e
  obtain ⟨g5, c5, rfl⟩ := ownsRow_succ hown
  have hl := (own_lt_bk hown ⟨0, rfl⟩)
  have hlt : ∀ j, (Value.slice A S.length c).ownBlock = some j → O j := fun j hj => h2 j (own_bk h1 hj)
  have hg5 : Bk A g5 ∨ w.heap.size ≤ g5 := by
    rcases hat with e | e
    · exact .inl (own_bk h1 (by rw [← e]; rfl))
    · right
      have : some g5 = some wa.heap.size := e
      injection this with this
      have := hba.size
      omega
  refine ⟨g5, c5, fun j => O j ∨ j = g5, rfl, ⟨some ⟨g5, 0, none⟩, c5, rfl, by rw [List.length_cons, flatT_cons]; exact hown, fun j hj => ?_, fun j hj => ?_⟩, ⟨hg.os.trans hba.os, hg.tape.trans hba.tape, hg.output.trans hba.output, Nat.le_trans hba.size hg.size, fun j hj hn => ?_, fun j hj => ⟨?_, ?_⟩⟩, fun j hj hn => ?_, hg5, fun j hj => .inl hj⟩
  · obtain ⟨o, ho⟩ := hj
    cases ho
    exact .inr rfl
  · rcases hj with hj | rfl
    · have := h3 j hj; have := hba.size; have := hg.size; omega
    · exact hl.2
  · exact (hg.block j (Nat.lt_of_lt_of_le hj hba.size) (fun e => hn (hlt j e.symm))).trans (hba.block j hj)
  · rcases hj with hj | rfl
    · exact .inl hj
    · rcases hg5 with e | e
      · exact .inl (h2 _ e)
      · exact .inr e
  · rcases hj with hj | rfl
    · have := h3 j hj; have := hba.size; have := hg.size; omega
    · exact hl.2
  · exact (hg.block j (Nat.lt_of_lt_of_le hj hba.size) (fun e => hn (own_bk h1 e.symm))).trans (hba.block j hj)
end
theorem RowT.more {w w' : World} {base : Nat} {S : List Itm} {v : Value} {O O' : Nat → Prop} (h : RowT w base S v O) (hb : Bel w w') (ho : ∀ j, O j → O' j) (hl : ∀ j, O' j → j < w'.heap.size) : RowT w' base S v O' := by
  obtain ⟨A, c, e, h1, h2, h3⟩ := h
  exact ⟨A, c, e, owns_bel h1 hb, fun j hj => ho j (h2 j hj), hl⟩
theorem RowT.own' {w : World} {base n c : Nat} {S : List Itm} {A : Option Addr} {O : Nat → Prop} (h : RowT w base S (.slice A n c) O) : n = S.length ∧ w.ownsRow base 99 2 (.slice A n c) n (flatT S) := by
  obtain ⟨A0, c0, e, h1, _, _⟩ := h
  injection e with e1 e2 e3
  subst e1 e2 e3
  exact ⟨rfl, h1⟩
theorem RowT.push' {w wa w' : World} {base n c : Nat} {S : List Itm} {A : Option Addr} {O : Nat → Prop} {x : Itm} {v' : Value} (h : RowT w base S (.slice A n c) O) (hba : Bel w wa) (hown : w'.ownsRow base 99 2 v' (n + 1) (flatT S ++ x.cells)) (hg : wa.grownBy w' (Value.slice A n c).ownBlock) (hat : v'.ownBlock = (Value.slice A n c).ownBlock ∨ v'.ownBlock = some wa.heap.size) :
    ∃ g5 c5 O', v' = .slice (some ⟨g5, 0, none⟩) (n + 1) c5 ∧ n = S.length ∧ RowT w' base (x :: S) v' O' ∧ Thru w O w' O' ∧ (∀ j, j < w.heap.size → ¬ Bk A j → w'.heap[j]? = w.heap[j]?) ∧ (Bk A g5 ∨ w.heap.size ≤ g5) ∧ ∀ j, O j → O' j := by
  obtain ⟨e, _⟩ := h.own'
  subst e
  obtain ⟨g5, c5, O', a1, a2, a3, a4, a5, a6⟩ := h.push hba hown hg hat
  exact ⟨g5, c5, O', a1, rfl, a2, a3, a4, a5, a6⟩
theorem ndsOf_len (A : Option Addr) (i n : Nat) : (ndsOf A i n).length ≤ n - i := by
  unfold ndsOf
  cases A with
  | none => simp
  | some ad => simp
/-- Where a step stands in a box of its own. -/
theorem box_thru {w : World} {O : Nat → Prop} (hl : ∀ j, O j → j < w.heap.size) (o : Obj) : Thru w O (w.alloc o) (fun j => O j ∨ j = w.heap.size) :=
  have hb : Bel w (w.alloc o) := (Bel.refl w).alloc o
  ⟨hb.os, hb.tape, hb.output, hb.size, fun j hj _ => hb.block j hj, fun j hj => by
    rcases hj with hj | rfl
    · exact ⟨.inl hj, Nat.lt_of_lt_of_le (hl j hj) hb.size⟩
    · exact ⟨.inr (Nat.le_refl _), by simp⟩⟩
theorem cellsT2 {w : World} {g : Nat} {t : TypeId} {x y : Value} (h : w.heap[g]? = some (.cells #[x, y] t (0, 0))) :
    w.cell? ⟨g, 0, none⟩ = some x ∧ w.cell? ⟨g, 1, none⟩ = some y ∧ w.frozen? ⟨g, 0, none⟩ = false ∧ w.frozen? ⟨g, 1, none⟩ = false := by
  simp [World.cell?, World.frozen?, h]
theorem nil97 (w : World) : (binOp .neq 65 .nilFunc .nilFunc).run Tryd.prog w = .ok (.bool false) w := by kernel_rfl
theorem fun97 (gm : Nat) (cm : Array Value) (w : World) : (binOp .neq 65 (.func (.func gm) #[] cm) .nilFunc).run Tryd.prog w = .ok (.bool true) w := by kernel_rfl
theorem info_step : (Tryd.prog.info? 99).map (fun i => (i.zero, i.size, i.bytes)) = some (some (.agg #[.pointer none, .pointer none]), 2, 16) := by kernel_rfl
end Go.Proofs.YtblgligagngpfaaDoor.Mu
namespace Go.Proofs.YtblgligagngpfaaDoor.Mu
open Go.ChangeShapes Go.WideShapes Go.ChangeAt Go.RowKit Go.Shelf

/-- A list of types: the first one's fields, what is within it, the others. -/
inductive Fo where
  | nil
  | cons (k n v c : Int) (kids rest : Fo)
def Fo.len : Fo → Nat
  | .nil => 0
  | .cons _ _ _ _ _ r => r.len + 1
/-- How many nodes. -/
def Fo.size : Fo → Nat
  | .nil => 0
  | .cons _ _ _ _ k r => 1 + k.size + r.size
theorem Fo.len_le : ∀ f : Fo, f.len ≤ f.size
  | .nil => Nat.le_refl _
  | .cons _ _ _ _ k r => by have := Fo.len_le r; simp only [Fo.len, Fo.size]; omega
/-- Of all nodes it is so. -/
def Fo.All (G : Int → Int → Int → Int → Nat → Prop) : Fo → Prop
  | .nil => True
  | .cons k n v c kids rest => G k n v c kids.len ∧ kids.All G ∧ rest.All G
theorem Fo.all_true : ∀ f : Fo, f.All (fun _ _ _ _ _ => True)
  | .nil => trivial
  | .cons _ _ _ _ kids rest => ⟨trivial, kids.all_true, rest.all_true⟩
/-- It lies in memory from there on; what is within lies in such blocks. -/
def FoAt (w : World) (Ok : Nat → Prop) : Fo → Nat → Nat → Prop
  | .nil, _, _ => True
  | .cons k n v c kids rest, b, o => ∃ A cap, w.cell? ⟨b, o, none⟩ = some (.int .u8 k) ∧ w.cell? ⟨b, o + 1, none⟩ = some (.int .i64 n) ∧ w.cell? ⟨b, o + 2, none⟩ = some (.int .i64 v) ∧ w.cell? ⟨b, o + 3, none⟩ = some (.int .u8 c) ∧ w.cell? ⟨b, o + 4, none⟩ = some (.slice A kids.len cap) ∧ kids.len ≤ cap ∧ (0 < kids.len → ∃ b' o', A = some ⟨b', o', none⟩ ∧ Ok b' ∧ FoAt w Ok kids b' o') ∧ FoAt w Ok rest b (o + 5)
theorem FoAt.keep {w w' : World} {Ok : Nat → Prop} (hk : ∀ j, Ok j → w'.heap[j]? = w.heap[j]?) : ∀ (f : Fo) (b o : Nat), Ok b → FoAt w Ok f b o → FoAt w' Ok f b o
  | .nil, _, _, _, _ => trivial
  | .cons k n v c kids rest, b, o, hb, h => by
    obtain ⟨A, cap, a1, a2, a3, a4, a5, a6, a7, a8⟩ := h
    have hc : ∀ o', w'.cell? ⟨b, o', none⟩ = w.cell? ⟨b, o', none⟩ := fun o' => World.cell?_of_block (a := ⟨b, o', none⟩) (hk b hb)
    refine ⟨A, cap, (hc _).trans a1, (hc _).trans a2, (hc _).trans a3, (hc _).trans a4, (hc _).trans a5, a6, fun h0 => ?_, FoAt.keep hk rest b (o + 5) hb a8⟩
    obtain ⟨b', o', e, h1, h2⟩ := a7 h0
    exact ⟨b', o', e, h1, FoAt.keep hk kids b' o' h1 h2⟩
section
variable {P : Program} {fo : Nat} {caps : Array Value} {M : Option (Nat × Array Value)} {F : World → Prop}
theorem Runs.up : ∀ {k : Nat} {S : List Itm} {w : World} {O : Nat → Prop}, Runs P fo caps M F k S w O → Runs P fo caps M F (k + 1) S w O
  | 0, [], _, _, h => h
  | _ + 1, [], _, _, h => h
  | k + 1, .mu b o :: is, w, O, h => by
    obtain ⟨gm, cm, e, h⟩ := h
    exact ⟨gm, cm, e, fun w' O' ht => (h w' O' ht).mono fun e w1 ⟨h1, h2, h3⟩ => ⟨h1, h2, h3.up⟩⟩
  | k + 1, .nd b o :: is, w, O, h => fun w' O' ht => (h w' O' ht).mono fun e w1 ⟨g, h1, h2, h3, h4⟩ => ⟨g, h1, h2, fun hg => (h3 hg).up, fun hg => by
    obtain ⟨kd, A, n, c, a1, a2, a3, a4⟩ := h4 hg
    exact ⟨kd, A, n, c, a1, a2, a3, a4.up⟩⟩
theorem Runs.le {k j : Nat} {S : List Itm} {w : World} {O : Nat → Prop} (h : Runs P fo caps M F k S w O) (hkj : k ≤ j) : Runs P fo caps M F j S w O := by
  obtain ⟨d, rfl⟩ := Nat.exists_eq_add_of_le hkj
  induction d with
  | zero => exact h
  | succ d ih => exact (ih (by omega)).up
end
section
variable {σ : Type}
/-- What going through a list comes to: N at each node, then what is within, if N says so; U at a multiplicity, which stands behind the first one within. -/
def runF (N : σ → Int → Int → Int → Int → Nat → σ × Bool) (U : σ → Int → Int → σ) (hm : Bool) : Fo → Option (Int × Int) → σ → σ
  | .nil, none, s => s
  | .nil, some m, s => U s m.1 m.2
  | .cons k n v c kids rest, pm, s =>
    let r := N s k n v c kids.len
    let s2 := if r.2 = true then runF N U hm kids (if k = 7 ∧ hm = true then some (v, c) else none) r.1 else r.1
    let s3 := match pm with
      | none => s2
      | some m => U s2 m.1 m.2
    runF N U hm rest none s3
end
theorem kids_cons {b o m : Nat} (ms : List Itm) : (ndsOf (some ⟨b, o, none⟩) 0 (m + 1)).take 1 ++ (ms ++ ndsOf (some ⟨b, o, none⟩) 1 (m + 1)) = .nd b o :: (ms ++ ((ndsOf (some ⟨b, o + 5, none⟩) 0 m).take 1 ++ ([] ++ ndsOf (some ⟨b, o + 5, none⟩) 1 m))) := by
  have e : ndsOf (some ⟨b, o, none⟩) 1 (m + 1) = ndsOf (some ⟨b, o + 5, none⟩) 0 m := by
    unfold ndsOf
    simp only [Nat.add_sub_cancel, Nat.sub_zero]
    apply List.ext_getElem
    · simp
    · intro i h1 h2
      simp only [List.getElem_map, List.getElem_range', Itm.nd.injEq, true_and]
      omega
  rw [ndsOf_step (by omega), e]
  simp only [Nat.zero_mul, Nat.add_zero, List.take_succ_cons, List.take_zero, List.nil_append, List.cons_append, List.cons.injEq, true_and, List.append_cancel_left_eq]
  cases m with
  | zero => rw [ndsOf_end (Nat.le_refl _), ndsOf_end (by omega)]; rfl
  | succ m => rw [ndsOf_step (by omega)]; rfl
theorem Fo.len_zero : ∀ {f : Fo}, f.len = 0 → f = .nil
  | .nil, _ => rfl
  | .cons _ _ _ _ _ r, h => by simp [Fo.len] at h
/-- What a call leaves alone: all but what is mine, m; what is mine behind it was mine, or is new. -/
structure Fr (m : Nat → Prop) (w w' : World) (m' : Nat → Prop) : Prop where
  os : w'.os = w.os
  tape : w'.tape = w.tape
  output : w'.output = w.output
  size : w.heap.size ≤ w'.heap.size
  keep : ∀ j, j < w.heap.size → ¬ m j → w'.heap[j]? = w.heap[j]?
  mn : ∀ j, m' j → m j ∨ w.heap.size ≤ j
/-- What the walk and what is called change together. -/
structure ExtR (w : World) (O m : Nat → Prop) (w' : World) (O' m' : Nat → Prop) : Prop where
  os : w'.os = w.os
  tape : w'.tape = w.tape
  output : w'.output = w.output
  size : w.heap.size ≤ w'.heap.size
  keep : ∀ j, j < w.heap.size → ¬ O j → ¬ m j → w'.heap[j]? = w.heap[j]?
  own : ∀ j, O' j → (O j ∨ w.heap.size ≤ j) ∧ j < w'.heap.size
  mn : ∀ j, m' j → m j ∨ w.heap.size ≤ j
section
variable {w w1 w2 : World} {O O1 O2 m m1 m2 : Nat → Prop}
theorem ExtR.refl (h : ∀ j, O j → j < w.heap.size) : ExtR w O m w O m := ⟨rfl, rfl, rfl, Nat.le_refl _, fun _ _ _ _ => rfl, fun j hj => ⟨.inl hj, h j hj⟩, fun _ h => .inl h⟩
theorem ExtR.trans (h : ExtR w O m w1 O1 m1) (k : ExtR w1 O1 m1 w2 O2 m2) : ExtR w O m w2 O2 m2 :=
  ⟨k.os.trans h.os, k.tape.trans h.tape, k.output.trans h.output, Nat.le_trans h.size k.size, fun j hj hn hm => (k.keep j (Nat.lt_of_lt_of_le hj h.size) (fun e => by rcases (h.own j e).1 with e | e; exact hn e; omega) (fun e => by rcases h.mn j e with e | e; exact hm e; omega)).trans (h.keep j hj hn hm),
   fun j hj => ⟨by
    rcases (k.own j hj).1 with e | e
    · exact (h.own j e).1
    · exact .inr (Nat.le_trans h.size e), (k.own j hj).2⟩, fun j hj => by
    rcases k.mn j hj with e | e
    · exact h.mn j e
    · exact .inr (Nat.le_trans h.size e)⟩
theorem ExtR.of (h : Thru w O w1 O1) (k : Fr m w1 w2 m2) : ExtR w O m w2 O1 m2 :=
  ⟨k.os.trans h.os, k.tape.trans h.tape, k.output.trans h.output, Nat.le_trans h.size k.size, fun j hj hn hm => (k.keep j (Nat.lt_of_lt_of_le hj h.size) hm).trans (h.keep j hj hn),
   fun j hj => ⟨(h.own j hj).1, Nat.lt_of_lt_of_le (h.own j hj).2 k.size⟩, fun j hj => by
    rcases k.mn j hj with e | e
    · exact .inl e
    · exact .inr (Nat.le_trans h.size e)⟩
end
/-- Blocks: what is the walk's own is neither the type's nor mine. -/
structure Sep (Ok m O : Nat → Prop) (w : World) : Prop where
  own : ∀ j, O j → j < w.heap.size ∧ ¬ Ok j ∧ ¬ m j
  ok : ∀ j, Ok j → j < w.heap.size ∧ ¬ m j
  mn : ∀ j, m j → j < w.heap.size
theorem ExtR.okk {Ok O m O' m' : Nat → Prop} {w w' : World} (hx : ExtR w O m w' O' m') (h : Sep Ok m O w) : ∀ j, Ok j → w'.heap[j]? = w.heap[j]? := fun j hj => hx.keep j (h.ok j hj).1 (fun e => (h.own j e).2.1 hj) (h.ok j hj).2
/-- Behind the walk's own steps and a call. -/
theorem Sep.of {Ok O m O1 m2 : Nat → Prop} {w w1 w2 : World} (h : Sep Ok m O w) (ht : Thru w O w1 O1) (k : Fr m w1 w2 m2) (hl : ∀ j, m2 j → j < w2.heap.size) : Sep Ok m2 O1 w2 :=
  ⟨fun j hj => by
    have hj2 := ht.own j hj
    refine ⟨Nat.lt_of_lt_of_le hj2.2 k.size, fun e => ?_, fun e => ?_⟩
    · rcases hj2.1 with h1 | h1
      · exact (h.own j h1).2.1 e
      · have := (h.ok j e).1; omega
    · rcases k.mn j e with h2 | h2
      · rcases hj2.1 with h1 | h1
        · exact (h.own j h1).2.2 h2
        · have := h.mn j h2; omega
      · omega,
   fun j hj => ⟨Nat.lt_of_lt_of_le (Nat.lt_of_lt_of_le (h.ok j hj).1 ht.size) k.size, fun e => by
    rcases k.mn j e with h2 | h2
    · exact (h.ok j hj).2 h2
    · have := (h.ok j hj).1; have := ht.size; omega⟩, hl⟩
/-- What is called only looks at the type, and keeps its own account. -/
structure ReadC (P : Program) (fo : Nat) (caps : Array Value) (M : Option (Nat × Array Value)) {σ : Type} (N : σ → Int → Int → Int → Int → Nat → σ × Bool) (U : σ → Int → Int → σ) (G : Int → Int → Int → Int → Nat → Prop) (Ok : Nat → Prop) (Inv : σ → (Nat → Prop) → World → Prop) : Prop where
  keep : ∀ s m w w', Inv s m w → w.heap.size ≤ w'.heap.size → (∀ j, m j → w'.heap[j]? = w.heap[j]?) → (∀ j, Ok j → w'.heap[j]? = w.heap[j]?) → Inv s m w'
  lt : ∀ s m w, Inv s m w → ∀ j, m j → j < w.heap.size
  node : ∀ s m w b o k n v c A len cap, Inv s m w → G k n v c len → w.cell? ⟨b, o, none⟩ = some (.int .u8 k) → w.cell? ⟨b, o + 1, none⟩ = some (.int .i64 n) → w.cell? ⟨b, o + 2, none⟩ = some (.int .i64 v) → w.cell? ⟨b, o + 3, none⟩ = some (.int .u8 c) → w.cell? ⟨b, o + 4, none⟩ = some (.slice A len cap) → ¬ m b →
    Calls P fo (#[.pointer (some ⟨b, o, none⟩)] ++ caps) w fun e w1 => e = .returned (.bool (N s k n v c len).2) ∧ ∃ m', Inv (N s k n v c len).1 m' w1 ∧ Fr m w w1 m'
  mu : ∀ gm cm, M = some (gm, cm) → ∀ s m w b o v c, Inv s m w → w.cell? ⟨b, o, none⟩ = some (.int .i64 v) → w.cell? ⟨b, o + 1, none⟩ = some (.int .u8 c) → ¬ m b →
    Calls P gm (#[.pointer (some ⟨b, o, none⟩)] ++ cm) w fun e w1 => e = .returned (.tuple #[]) ∧ ∃ m', Inv (U s v c) m' w1 ∧ Fr m w w1 m'
def pmS {σ : Type} (U : σ → Int → Int → σ) : Option (Nat × Nat × Int × Int) → σ → σ
  | none, s => s
  | some m, s => U s m.2.2.1 m.2.2.2
def pmI : Option (Nat × Nat × Int × Int) → List Itm
  | none => []
  | some (b, o, _, _) => [.mu b o]
section
variable {P : Program} {fo : Nat} {caps : Array Value} {M : Option (Nat × Array Value)} {F : World → Prop} {σ : Type} {N : σ → Int → Int → Int → Int → Nat → σ × Bool} {U : σ → Int → Int → σ} {Ok : Nat → Prop} {G : Int → Int → Int → Int → Nat → Prop} {Inv : σ → (Nat → Prop) → World → Prop}
theorem runs_pm (C : ReadC P fo caps M N U G Ok Inv) (pm : Option (Nat × Nat × Int × Int)) (is : List Itm) (k : Nat) (w : World) (O m : Nat → Prop) (s : σ)
    (hpm : ∀ b o v c, pm = some (b, o, v, c) → M.isSome = true ∧ Ok b ∧ w.cell? ⟨b, o, none⟩ = some (.int .i64 v) ∧ w.cell? ⟨b, o + 1, none⟩ = some (.int .u8 c)) (hI : Inv s m w) (hS : Sep Ok m O w)
    (cont : ∀ w' O' m', ExtR w O m w' O' m' → Sep Ok m' O' w' → Inv (pmS U pm s) m' w' → Runs P fo caps M F k is w' O') : Runs P fo caps M F (k + (pmI pm).length) (pmI pm ++ is) w O := by
  match pm, hpm, cont with
  | none, _, cont => exact cont w O m (ExtR.refl fun j hj => (hS.own j hj).1) hS hI
  | some (b, o, v, c), hpm, cont =>
    obtain ⟨hm, hb, c0, c1⟩ := hpm b o v c rfl
    obtain ⟨⟨gm, cm⟩, hM⟩ := Option.isSome_iff_exists.1 hm
    refine ⟨gm, cm, hM, fun w1 O1 ht => ?_⟩
    have hbl := (hS.ok b hb).1
    have hbk := ht.keep b hbl (fun e => (hS.own b e).2.1 hb)
    have hI1 : Inv s m w1 := C.keep s m w w1 hI ht.size (fun j hj => ht.keep j (hS.mn j hj) (fun e => (hS.own j e).2.2 hj)) (fun j hj => ht.keep j (hS.ok j hj).1 (fun e => (hS.own j e).2.1 hj))
    refine (C.mu gm cm hM s m w1 b o v c hI1 ((World.cell?_of_block (a := ⟨b, o, none⟩) hbk).trans c0) ((World.cell?_of_block (a := ⟨b, o + 1, none⟩) hbk).trans c1) (hS.ok b hb).2).mono ?_
    rintro e w2 ⟨h1, m2, h2, h3⟩
    have hx := ExtR.of ht h3
    have hS2 := hS.of ht h3 (C.lt _ _ _ h2)
    exact ⟨h1, ⟨h3.size, fun j hj => h3.keep j (ht.own j hj).2 (fun e => by
      rcases (ht.own j hj).1 with h | h
      · exact (hS.own j h).2.2 e
      · have := hS.mn j e; omega)⟩, cont w2 O1 m2 hx hS2 h2⟩
theorem runs_fo (C : ReadC P fo caps M N U G Ok Inv) : ∀ (f : Fo) (pm : Option (Nat × Nat × Int × Int)) (b o : Nat) (is : List Itm) (k : Nat) (w : World) (O m : Nat → Prop) (s : σ), FoAt w Ok f b o → f.All G → (f ≠ .nil → Ok b) →
    (∀ b o v c, pm = some (b, o, v, c) → M.isSome = true ∧ Ok b ∧ w.cell? ⟨b, o, none⟩ = some (.int .i64 v) ∧ w.cell? ⟨b, o + 1, none⟩ = some (.int .u8 c)) → Inv s m w → Sep Ok m O w → 2 * f.size + is.length ≤ 3000000 →
    (∀ w' O' m', ExtR w O m w' O' m' → Sep Ok m' O' w' → Inv (runF N U M.isSome f (pm.map fun m => (m.2.2.1, m.2.2.2)) s) m' w' → Runs P fo caps M F k is w' O') →
    Runs P fo caps M F (k + 2 * f.size + (pmI pm).length) ((ndsOf (some ⟨b, o, none⟩) 0 f.len).take 1 ++ (pmI pm ++ ndsOf (some ⟨b, o, none⟩) 1 f.len) ++ is) w O
  | .nil, pm, b, o, is, k, w, O, m, s, _, _, _, hpm, hI, hS, _, cont => by
    simp only [Fo.len, Fo.size, ndsOf_end (Nat.le_refl 0), ndsOf_end (Nat.zero_le 1), List.take_nil, List.nil_append, List.append_nil, Nat.mul_zero, Nat.add_zero]
    refine runs_pm C pm is k w O m s hpm hI hS fun w' O' m' hx hs hi => cont w' O' m' hx hs ?_
    cases pm <;> exact hi
  | .cons kk n v c kids rest, pm, b, o, is, k, w, O, m, s, hf, hG, hb, hpm, hI, hS, hsz, cont => by
    obtain ⟨A, cap, a1, a2, a3, a4, a5, a6, a7, a8⟩ := hf
    have hOb := hb (by simp)
    simp only [Fo.len]
    rw [kids_cons, List.cons_append, List.append_assoc]
    simp only [Fo.size] at hsz ⊢
    have hlen : ((ndsOf (some ⟨b, o + 5, none⟩) 0 rest.len).take 1 ++ ([] ++ ndsOf (some ⟨b, o + 5, none⟩) 1 rest.len)).length ≤ rest.len := by
      cases hr : rest.len with
      | zero => rw [ndsOf_end (Nat.le_refl _), ndsOf_end (by omega)]; simp
      | succ m =>
        have := ndsOf_len (some ⟨b, o + 5, none⟩) 1 (m + 1)
        simp only [List.length_append, List.length_take, List.nil_append] at *
        omega
    have hrl := rest.len_le
    have hkl := kids.len_le
    -- what comes behind the node and what is within
    have behind : ∀ (w2 : World) (O2 m2 : Nat → Prop) (s2 : σ), ExtR w O m w2 O2 m2 → Sep Ok m2 O2 w2 → Inv s2 m2 w2 → (runF N U M.isSome rest none (pmS U pm s2) = runF N U M.isSome (.cons kk n v c kids rest) (pm.map fun m => (m.2.2.1, m.2.2.2)) s) →
        Runs P fo caps M F (k + 2 * rest.size + (pmI pm).length) (pmI pm ++ (((ndsOf (some ⟨b, o + 5, none⟩) 0 rest.len).take 1 ++ ([] ++ ndsOf (some ⟨b, o + 5, none⟩) 1 rest.len)) ++ is)) w2 O2 := fun w2 O2 m2 s2 hx hS2 hi he => by
      have hk2 := hx.okk hS
      refine runs_pm (Ok := Ok) C pm _ _ w2 O2 m2 s2 (fun b' o' v' c' e => ?_) hi hS2 fun w3 O3 m3 hx3 hS3 hi3 => ?_
      · obtain ⟨h1, h2, h3, h4⟩ := hpm b' o' v' c' e
        exact ⟨h1, h2, (World.cell?_of_block (a := ⟨b', o', none⟩) (hk2 b' h2)).trans h3, (World.cell?_of_block (a := ⟨b', o' + 1, none⟩) (hk2 b' h2)).trans h4⟩
      · have hx13 := hx.trans hx3
        have h := runs_fo C rest none b (o + 5) is k w3 O3 m3 _ (FoAt.keep (hx13.okk hS) rest b (o + 5) hOb a8) hG.2.2 (fun _ => hOb) (fun _ _ _ _ e => by cases e) hi3 hS3 (by omega) (fun w4 O4 m4 hx4 hS4 hi4 => cont w4 O4 m4 (hx13.trans hx4) hS4 (by rw [← he]; exact hi4))
        simpa [pmI] using h
    rw [show k + 2 * (1 + kids.size + rest.size) + (pmI pm).length = (k + 2 * rest.size + (pmI pm).length + 2 * kids.size + 1) + 1 by omega]
    intro w1 O1 ht
    have hbk := ht.keep b (hS.ok b hOb).1 (fun e => (hS.own b e).2.1 hOb)
    have cc : ∀ o', w1.cell? ⟨b, o', none⟩ = w.cell? ⟨b, o', none⟩ := fun o' => World.cell?_of_block (a := ⟨b, o', none⟩) hbk
    have hI1 : Inv s m w1 := C.keep s m w w1 hI ht.size (fun j hj => ht.keep j (hS.mn j hj) (fun e => (hS.own j e).2.2 hj)) (fun j hj => ht.keep j (hS.ok j hj).1 (fun e => (hS.own j e).2.1 hj))
    refine (C.node s m w1 b o kk n v c A kids.len cap hI1 hG.1 ((cc _).trans a1) ((cc _).trans a2) ((cc _).trans a3) ((cc _).trans a4) ((cc _).trans a5) (hS.ok b hOb).2).mono ?_
    rintro e w2 ⟨h1, m2, h2, h3⟩
    have hx := ExtR.of ht h3
    have hS2 := hS.of ht h3 (C.lt _ _ _ h2)
    have hk2 := hx.okk hS
    have c2 : ∀ o', w2.cell? ⟨b, o', none⟩ = w.cell? ⟨b, o', none⟩ := fun o' => World.cell?_of_block (a := ⟨b, o', none⟩) (hk2 b hOb)
    refine ⟨_, h1, ⟨h3.size, fun j hj => h3.keep j (ht.own j hj).2 (fun e => by
      rcases (ht.own j hj).1 with h | h
      · exact (hS.own j h).2.2 e
      · have := hS.mn j e; omega)⟩, fun hg => ?_, fun hg => ?_⟩
    · refine (behind w2 O1 m2 _ hx hS2 h2 ?_).le (by omega)
      simp only [runF, hg]
      cases pm <;> rfl
    · refine ⟨kk, A, kids.len, cap, ⟨(c2 _).trans a1, (c2 _).trans a5, fun h0 => ?_⟩, fun e => (hS2.own b e).2.1 hOb, ?_, ?_⟩
      · obtain ⟨b', o', e, _⟩ := a7 h0
        exact ⟨b', o', e⟩
      · have : (pmI pm).length ≤ 1 := by unfold pmI; split <;> simp
        rw [List.length_append, List.length_append]
        omega
      · have hit : kidsOf M.isSome kk b o A kids.len = (ndsOf A 0 kids.len).take 1 ++ (muOf M.isSome kk b o ++ ndsOf A 1 kids.len) := rfl
        rw [hit]
        obtain ⟨b', o', hk1, hk2', hk3, hk4⟩ : ∃ b' o', FoAt w2 Ok kids b' o' ∧ (kids ≠ .nil → Ok b') ∧ ndsOf A 0 kids.len = ndsOf (some ⟨b', o', none⟩) 0 kids.len ∧ ndsOf A 1 kids.len = ndsOf (some ⟨b', o', none⟩) 1 kids.len := by
          by_cases h0 : kids.len = 0
          · obtain rfl := Fo.len_zero h0
            refine ⟨0, 0, trivial, fun h => absurd rfl h, ?_, ?_⟩
            · show ndsOf A 0 0 = ndsOf _ 0 0
              rw [ndsOf_end (Nat.le_refl _), ndsOf_end (Nat.le_refl _)]
            · show ndsOf A 1 0 = ndsOf _ 1 0
              rw [ndsOf_end (Nat.zero_le _), ndsOf_end (Nat.zero_le _)]
          · obtain ⟨b', o', e, h5, h6⟩ := a7 (by omega)
            subst e
            exact ⟨b', o', FoAt.keep hk2 kids b' o' h5 h6, fun _ => h5, rfl, rfl⟩
        rw [hk3, hk4]
        obtain ⟨pm', hpm'⟩ : ∃ pm', pm' = if kk = 7 ∧ M.isSome = true then some (b, o + 2, v, c) else none := ⟨_, rfl⟩
        have hmu : muOf M.isSome kk b o = pmI pm' := by
          rw [hpm']
          unfold muOf
          split <;> rfl
        rw [hmu]
        have hpl : (pmI pm').length ≤ 1 := by unfold pmI; split <;> simp
        have hpl2 : (pmI pm).length ≤ 1 := by unfold pmI; split <;> simp
        refine (runs_fo C kids pm' b' o' _ (k + 2 * rest.size + (pmI pm).length) w2 O1 m2 _ hk1 hG.2.1 hk2' (fun b5 o5 v5 c5 e5 => ?_) h2 hS2 (by rw [List.length_append, List.length_append]; omega) fun w3 O3 m3 hx3 hS3 hi3 => behind w3 O3 m3 _ (hx.trans hx3) hS3 hi3 ?_).le (by omega)
        · rw [hpm'] at e5
          split at e5
          · rename_i h7
            cases e5
            exact ⟨h7.2, hOb, (c2 _).trans a3, (c2 _).trans a4⟩
          · cases e5
        · simp only [runF, hg, if_true]
          have e6 : (pm'.map fun m => (m.2.2.1, m.2.2.2)) = if kk = 7 ∧ M.isSome = true then some (v, c) else none := by
            rw [hpm']
            split <;> rfl
          rw [e6]
          cases pm <;> rfl
end
end Go.Proofs.YtblgligagngpfaaDoor.Mu

