/-
  Going through a type of one's own, which is written on the way.
  ty.through over a type of one's own that is written on the way: the contract that its callers use.
  slices.Clone of a list of types, walked; ty.copied.
-/
import Derived.Test.YtblgligagngpfaaDoorThruS
namespace Go.Proofs.YtblgligagngpfaaDoor.Mu
open Go.ChangeShapes Go.WideShapes Go.ChangeAt Go.RowKit Go.Shelf

/-- What going through a list comes to: at a node N tells its new fields, and, if it is not gone into, what is within; U a multiplicity's. -/
def runW {σ : Type} (N : σ → Int → Int → Int → Int → Fo → σ × (Int × Int × Int × Int) × Option Fo) (U : σ → Int → Int → σ × Int × Int) (hm : Bool) : Fo → Option (Int × Int) → σ → Fo × Option (Int × Int) × σ
  | .nil, none, s => (.nil, none, s)
  | .nil, some p, s => (.nil, some (U s p.1 p.2).2, (U s p.1 p.2).1)
  | .cons k n v c kids rest, pm, s =>
    let r := N s k n v c kids
    let q : Fo × (Int × Int) × σ := match r.2.2 with
      | some ks => (ks, r.2.1.2.2, r.1)
      | none =>
        let t := runW N U hm kids (if r.2.1.1 = 7 ∧ hm = true then some r.2.1.2.2 else none) r.1
        (t.1, t.2.1.getD r.2.1.2.2, t.2.2)
    let p : Option (Int × Int) × σ := match pm with
      | none => (none, q.2.2)
      | some m => (some (U q.2.2 m.1 m.2).2, (U q.2.2 m.1 m.2).1)
    let t2 := runW N U hm rest none p.2
    (.cons r.2.1.1 r.2.1.2.1 q.2.1.1 q.2.1.2 q.1 t2.1, p.1, t2.2.2)
/-- A call changes these cells, and what is mine. -/
structure FrC (ch : Nat → Nat → Prop) (m : Nat → Prop) (w w' : World) (m' : Nat → Prop) : Prop where
  os : w'.os = w.os
  tape : w'.tape = w.tape
  output : w'.output = w.output
  size : w.heap.size ≤ w'.heap.size
  keep : ∀ j, j < w.heap.size → ¬ m j → (∀ x, ¬ ch j x) → w'.heap[j]? = w.heap[j]?
  cell : ∀ j x, j < w.heap.size → ¬ m j → ¬ ch j x → w'.cell? ⟨j, x, none⟩ = w.cell? ⟨j, x, none⟩
  fro : ∀ j x, j < w.heap.size → ¬ m j → w'.frozen? ⟨j, x, none⟩ = w.frozen? ⟨j, x, none⟩
  mn : ∀ j, m' j → m j ∨ w.heap.size ≤ j
structure ExtW (ch : Nat → Nat → Prop) (w : World) (O m : Nat → Prop) (w' : World) (O' m' : Nat → Prop) : Prop where
  os : w'.os = w.os
  tape : w'.tape = w.tape
  output : w'.output = w.output
  size : w.heap.size ≤ w'.heap.size
  keep : ∀ j, j < w.heap.size → ¬ O j → ¬ m j → (∀ x, ¬ ch j x) → w'.heap[j]? = w.heap[j]?
  cell : ∀ j x, j < w.heap.size → ¬ O j → ¬ m j → ¬ ch j x → w'.cell? ⟨j, x, none⟩ = w.cell? ⟨j, x, none⟩
  fro : ∀ j x, j < w.heap.size → ¬ O j → ¬ m j → w'.frozen? ⟨j, x, none⟩ = w.frozen? ⟨j, x, none⟩
  own : ∀ j, O' j → (O j ∨ w.heap.size ≤ j) ∧ j < w'.heap.size
  mn : ∀ j, m' j → m j ∨ w.heap.size ≤ j
section
variable {ch ch1 : Nat → Nat → Prop} {w w1 w2 : World} {O O1 O2 m m1 m2 : Nat → Prop}
theorem ExtW.refl (h : ∀ j, O j → j < w.heap.size) : ExtW ch w O m w O m := ⟨rfl, rfl, rfl, Nat.le_refl _, fun _ _ _ _ _ => rfl, fun _ _ _ _ _ _ => rfl, fun _ _ _ _ _ => rfl, fun j hj => ⟨.inl hj, h j hj⟩, fun _ h => .inl h⟩
theorem ExtW.no (h : ExtW ch w O m w1 O1 m1) {j : Nat} (hj : j < w.heap.size) (ho : ¬ O j) (hm : ¬ m j) : ¬ O1 j ∧ ¬ m1 j :=
  ⟨fun e => by rcases (h.own j e).1 with e | e; exact ho e; omega, fun e => by rcases h.mn j e with e | e; exact hm e; omega⟩
theorem ExtW.trans (h : ExtW ch w O m w1 O1 m1) (k : ExtW ch1 w1 O1 m1 w2 O2 m2) (hc : ∀ j x, j < w.heap.size → ch1 j x → ch j x) : ExtW ch w O m w2 O2 m2 :=
  ⟨k.os.trans h.os, k.tape.trans h.tape, k.output.trans h.output, Nat.le_trans h.size k.size,
   fun j hj ho hm hn => (k.keep j (Nat.lt_of_lt_of_le hj h.size) (h.no hj ho hm).1 (h.no hj ho hm).2 (fun x hx => hn x (hc j x hj hx))).trans (h.keep j hj ho hm hn),
   fun j x hj ho hm hn => (k.cell j x (Nat.lt_of_lt_of_le hj h.size) (h.no hj ho hm).1 (h.no hj ho hm).2 (fun hx => hn (hc j x hj hx))).trans (h.cell j x hj ho hm hn),
   fun j x hj ho hm => (k.fro j x (Nat.lt_of_lt_of_le hj h.size) (h.no hj ho hm).1 (h.no hj ho hm).2).trans (h.fro j x hj ho hm),
   fun j hj => ⟨by
    rcases (k.own j hj).1 with e | e
    · exact (h.own j e).1
    · exact .inr (Nat.le_trans h.size e), (k.own j hj).2⟩, fun j hj => by
    rcases k.mn j hj with e | e
    · exact h.mn j e
    · exact .inr (Nat.le_trans h.size e)⟩
theorem ExtW.of (h : Thru w O w1 O1) (k : FrC ch m w1 w2 m2) : ExtW ch w O m w2 O1 m2 :=
  ⟨k.os.trans h.os, k.tape.trans h.tape, k.output.trans h.output, Nat.le_trans h.size k.size,
   fun j hj ho hm hn => (k.keep j (Nat.lt_of_lt_of_le hj h.size) hm hn).trans (h.keep j hj ho),
   fun j x hj ho hm hn => (k.cell j x (Nat.lt_of_lt_of_le hj h.size) hm hn).trans (World.cell?_of_block (a := ⟨j, x, none⟩) (h.keep j hj ho)),
   fun j x hj ho hm => (k.fro j x (Nat.lt_of_lt_of_le hj h.size) hm).trans (World.frozen?_of_block (a := ⟨j, x, none⟩) (h.keep j hj ho)),
   fun j hj => ⟨(h.own j hj).1, Nat.lt_of_lt_of_le (h.own j hj).2 k.size⟩, fun j hj => by
    rcases k.mn j hj with e | e
    · exact .inl e
    · exact .inr (Nat.le_trans h.size e)⟩
theorem Sep.ofC {Pr : Nat → Prop} (h : Sep Pr m O w) (ht : Thru w O w1 O1) (k : FrC ch m w1 w2 m2) (hl : ∀ j, m2 j → j < w2.heap.size) : Sep Pr m2 O1 w2 :=
  ⟨fun j hj => by
    have hj2 := ht.own j hj
    refine ⟨Nat.lt_of_lt_of_le hj2.2 k.size, fun e => ?_, fun e => ?_⟩
    · rcases hj2.1 with h1 | h1
      · exact (h.own j h1).2.1 e
      · have := (h.ok j e).1; omega
    · rcases k.mn j e with h2 | h2
      · rcases hj2.1 with h1 | h1
        · exact (h.own j h1).2.2 h2
        · have := h.mn j h2; omega
      · omega,
   fun j hj => ⟨Nat.lt_of_lt_of_le (Nat.lt_of_lt_of_le (h.ok j hj).1 ht.size) k.size, fun e => by
    rcases k.mn j e with h2 | h2
    · exact (h.ok j hj).2 h2
    · have := (h.ok j hj).1; have := ht.size; omega⟩, hl⟩
theorem Sep.add {Pr : Nat → Prop} (h : Sep Pr m O w) {b : Nat} (h1 : b < w.heap.size) (h2 : ¬ O b) (h3 : ¬ m b) : Sep (fun j => Pr j ∨ j = b) m O w :=
  ⟨fun j hj => ⟨(h.own j hj).1, fun e => by rcases e with e | rfl; exact (h.own j hj).2.1 e; exact h2 hj, (h.own j hj).2.2⟩, fun j hj => by
    rcases hj with hj | rfl
    · exact h.ok j hj
    · exact ⟨h1, h3⟩, h.mn⟩
theorem Sep.less {Pr Pr' : Nat → Prop} (h : Sep Pr' m O w) (hp : ∀ j, Pr j → Pr' j) : Sep Pr m O w :=
  ⟨fun j hj => ⟨(h.own j hj).1, fun e => (h.own j hj).2.1 (hp j e), (h.own j hj).2.2⟩, fun j hj => h.ok j (hp j hj), h.mn⟩
end
theorem FoAt.keepc {w w' : World} {Ok : Nat → Prop} (hk : ∀ j, Ok j → ∀ x, w'.cell? ⟨j, x, none⟩ = w.cell? ⟨j, x, none⟩) : ∀ (f : Fo) (b o : Nat), (∀ x, o ≤ x → x < o + 5 * f.len → w'.cell? ⟨b, x, none⟩ = w.cell? ⟨b, x, none⟩) → FoAt w Ok f b o → FoAt w' Ok f b o
  | .nil, _, _, _, _ => trivial
  | .cons k n v c kids rest, b, o, hc, h => by
    obtain ⟨A, cap, a1, a2, a3, a4, a5, a6, a7, a8⟩ := h
    simp only [Fo.len] at hc
    refine ⟨A, cap, (hc o (by omega) (by omega)).trans a1, (hc (o + 1) (by omega) (by omega)).trans a2, (hc (o + 2) (by omega) (by omega)).trans a3, (hc (o + 3) (by omega) (by omega)).trans a4, (hc (o + 4) (by omega) (by omega)).trans a5, a6, fun h0 => ?_, FoAt.keepc hk rest b (o + 5) (fun x h1 h2 => hc x (by omega) (by omega)) a8⟩
    obtain ⟨b', o', e, h1, h2⟩ := a7 h0
    exact ⟨b', o', e, h1, FoAt.keepc hk kids b' o' (fun x _ _ => hk b' h1 x) h2⟩
/-- Blocks that are new, and neither the walk's own nor mine. -/
def New (w w' : World) (O m : Nat → Prop) (j : Nat) : Prop := w.heap.size ≤ j ∧ j < w'.heap.size ∧ ¬ O j ∧ ¬ m j
/-- What is called writes the node that it is handed, or the multiplicity, and keeps its own account. -/
structure WriteC (P : Program) (fo : Nat) (caps : Array Value) (M : Option (Nat × Array Value)) {σ : Type} (N : σ → Int → Int → Int → Int → Fo → σ × (Int × Int × Int × Int) × Option Fo) (U : σ → Int → Int → σ × Int × Int) (G : Int → Int → Int → Int → Nat → Prop) (Gm : Int → Int → Prop) (Ok : Nat → Prop) (Inv : σ → (Nat → Prop) → World → Prop) : Prop where
  keep : ∀ s m w w', Inv s m w → w.heap.size ≤ w'.heap.size → (∀ j, m j → w'.heap[j]? = w.heap[j]?) → (∀ j, Ok j → w'.heap[j]? = w.heap[j]?) → Inv s m w'
  lt : ∀ s m w, Inv s m w → ∀ j, m j → j < w.heap.size
  node : ∀ s m w b o k n v c kids, Inv s m w → G k n v c kids.len → FoAt w Ok (.cons k n v c kids .nil) b o → (∀ x, w.frozen? ⟨b, x, none⟩ = false) → b < w.heap.size → ¬ m b → ¬ Ok b → kids.size ≤ 1500000 →
    Calls P fo (#[.pointer (some ⟨b, o, none⟩)] ++ caps) w fun e w1 => e = .returned (.bool (N s k n v c kids).2.2.isNone) ∧ ∃ m', Inv (N s k n v c kids).1 m' w1 ∧ FrC (fun j x => j = b ∧ o ≤ x ∧ x < o + 5) m w w1 m' ∧
      ∃ A len cap, w1.cell? ⟨b, o, none⟩ = some (.int .u8 (N s k n v c kids).2.1.1) ∧ w1.cell? ⟨b, o + 1, none⟩ = some (.int .i64 (N s k n v c kids).2.1.2.1) ∧ w1.cell? ⟨b, o + 2, none⟩ = some (.int .i64 (N s k n v c kids).2.1.2.2.1) ∧ w1.cell? ⟨b, o + 3, none⟩ = some (.int .u8 (N s k n v c kids).2.1.2.2.2) ∧ w1.cell? ⟨b, o + 4, none⟩ = some (.slice A len cap) ∧
        (∀ ks, (N s k n v c kids).2.2 = some ks → KidsAt w1 (fun j => w.heap.size ≤ j ∧ j < w1.heap.size ∧ ¬ m' j) A len cap ks) ∧
        ((N s k n v c kids).2.2 = none → len = kids.len ∧ len ≤ cap ∧ (0 < len → ∃ b', A = some ⟨b', 0, none⟩ ∧ w.heap.size ≤ b' ∧ b' < w1.heap.size ∧ ¬ m' b' ∧ (∀ x, w1.frozen? ⟨b', x, none⟩ = false) ∧ FoAt w1 Ok kids b' 0))
  gm : ∀ s k n v c kids, G k n v c kids.len → (N s k n v c kids).2.1.1 = 7 → Gm (N s k n v c kids).2.1.2.2.1 (N s k n v c kids).2.1.2.2.2
  mu : ∀ gm cm, M = some (gm, cm) → ∀ s m w b o v c, Inv s m w → Gm v c → w.cell? ⟨b, o, none⟩ = some (.int .i64 v) → w.cell? ⟨b, o + 1, none⟩ = some (.int .u8 c) → (∀ x, w.frozen? ⟨b, x, none⟩ = false) → b < w.heap.size → ¬ m b → ¬ Ok b →
    Calls P gm (#[.pointer (some ⟨b, o, none⟩)] ++ cm) w fun e w1 => e = .returned (.tuple #[]) ∧ ∃ m', Inv (U s v c).1 m' w1 ∧ FrC (fun j x => j = b ∧ o ≤ x ∧ x < o + 2) m w w1 m' ∧ w1.cell? ⟨b, o, none⟩ = some (.int .i64 (U s v c).2.1) ∧ w1.cell? ⟨b, o + 1, none⟩ = some (.int .u8 (U s v c).2.2)
def pmW {σ : Type} (U : σ → Int → Int → σ × Int × Int) : Option (Nat × Nat × Int × Int) → σ → Option (Int × Int) × σ
  | none, s => (none, s)
  | some m, s => (some (U s m.2.2.1 m.2.2.2).2, (U s m.2.2.1 m.2.2.2).1)
def chP : Option (Nat × Nat × Int × Int) → Nat → Nat → Prop
  | none, _, _ => False
  | some (b, o, _, _), j, x => j = b ∧ o ≤ x ∧ x < o + 2
/-- The multiplicity that stands between is told so. -/
def PmAt (w : World) (pm : Option (Nat × Nat × Int × Int)) (r : Option (Int × Int)) : Prop := ∀ b o v c, pm = some (b, o, v, c) → ∃ y, r = some y ∧ w.cell? ⟨b, o, none⟩ = some (.int .i64 y.1) ∧ w.cell? ⟨b, o + 1, none⟩ = some (.int .u8 y.2)
section
variable {P : Program} {fo : Nat} {caps : Array Value} {M : Option (Nat × Array Value)} {F : World → Prop} {σ : Type} {N : σ → Int → Int → Int → Int → Fo → σ × (Int × Int × Int × Int) × Option Fo} {U : σ → Int → Int → σ × Int × Int} {G : Int → Int → Int → Int → Nat → Prop} {Gm : Int → Int → Prop} {Ok Pr : Nat → Prop} {Inv : σ → (Nat → Prop) → World → Prop}
theorem runs_pmW (C : WriteC P fo caps M N U G Gm Ok Inv) (hOP : ∀ j, Ok j → Pr j) (pm : Option (Nat × Nat × Int × Int)) (is : List Itm) (k : Nat) (w : World) (O m : Nat → Prop) (s : σ)
    (hpm : ∀ b o v c, pm = some (b, o, v, c) → M.isSome = true ∧ Pr b ∧ ¬ Ok b ∧ (∀ x, w.frozen? ⟨b, x, none⟩ = false) ∧ w.cell? ⟨b, o, none⟩ = some (.int .i64 v) ∧ w.cell? ⟨b, o + 1, none⟩ = some (.int .u8 c)) (hgm : ∀ b o v c, pm = some (b, o, v, c) → Gm v c) (hI : Inv s m w) (hS : Sep Pr m O w)
    (cont : ∀ w' O' m', ExtW (chP pm) w O m w' O' m' → Sep Pr m' O' w' → PmAt w' pm (pmW U pm s).1 → Inv (pmW U pm s).2 m' w' → Runs P fo caps M F k is w' O') : Runs P fo caps M F (k + (pmI pm).length) (pmI pm ++ is) w O := by
  match pm, hpm, hgm, cont with
  | none, _, _, cont => exact cont w O m (ExtW.refl fun j hj => (hS.own j hj).1) hS (fun _ _ _ _ e => by cases e) hI
  | some (b, o, v, c), hpm, hgm, cont =>
    obtain ⟨hm, hb, hnb, hfz, c0, c1⟩ := hpm b o v c rfl
    obtain ⟨⟨gm, cm⟩, hM⟩ := Option.isSome_iff_exists.1 hm
    refine ⟨gm, cm, hM, fun w1 O1 ht => ?_⟩
    have hbl := (hS.ok b hb).1
    have hbk := ht.keep b hbl (fun e => (hS.own b e).2.1 hb)
    have hI1 : Inv s m w1 := C.keep s m w w1 hI ht.size (fun j hj => ht.keep j (hS.mn j hj) (fun e => (hS.own j e).2.2 hj)) (fun j hj => ht.keep j (hS.ok j (hOP j hj)).1 (fun e => (hS.own j e).2.1 (hOP j hj)))
    refine (C.mu gm cm hM s m w1 b o v c hI1 (hgm b o v c rfl) ((World.cell?_of_block (a := ⟨b, o, none⟩) hbk).trans c0) ((World.cell?_of_block (a := ⟨b, o + 1, none⟩) hbk).trans c1) (fun x => (World.frozen?_of_block (a := ⟨b, x, none⟩) hbk).trans (hfz x)) (Nat.lt_of_lt_of_le hbl ht.size) (hS.ok b hb).2 hnb).mono ?_
    rintro e w2 ⟨h1, m2, h2, h3, h4, h5⟩
    have hx := ExtW.of ht h3
    have hS2 := hS.ofC ht h3 (C.lt _ _ _ h2)
    exact ⟨h1, ⟨h3.size, fun j hj => h3.keep j (ht.own j hj).2 (fun e => by
      rcases (ht.own j hj).1 with h | h
      · exact (hS.own j h).2.2 e
      · have := hS.mn j e; omega) (fun x e => by
      rcases (ht.own j hj).1 with h | h
      · exact (hS.own j h).2.1 (e.1 ▸ hb)
      · have := e.1; omega)⟩, cont w2 O1 m2 hx hS2 (fun b' o' v' c' e => by cases e; exact ⟨_, rfl, h4, h5⟩) h2⟩
def chF (b o n : Nat) (j x : Nat) : Prop := j = b ∧ o ≤ x ∧ x < o + 5 * n
def pmV : Option (Nat × Nat × Int × Int) → Option (Int × Int) := Option.map fun m => (m.2.2.1, m.2.2.2)
theorem runW_len {hm : Bool} : ∀ (f : Fo) (pm : Option (Int × Int)) (s : σ), (runW N U hm f pm s).1.len = f.len
  | .nil, none, s => rfl
  | .nil, some p, s => rfl
  | .cons k n v c kids rest, pm, s => by
    simp only [runW, Fo.len]
    rw [runW_len rest]
theorem runs_w (C : WriteC P fo caps M N U G Gm Ok Inv) : ∀ (f : Fo) (pm : Option (Nat × Nat × Int × Int)) (b o : Nat) (is : List Itm) (k : Nat) (w : World) (O m Pr : Nat → Prop) (s : σ), FoAt w Ok f b o → f.All G → (∀ j, Ok j → Pr j) → (f ≠ .nil → Pr b ∧ ¬ Ok b ∧ ∀ x, w.frozen? ⟨b, x, none⟩ = false) →
    (∀ b' o v c, pm = some (b', o, v, c) → M.isSome = true ∧ Pr b' ∧ ¬ Ok b' ∧ b' ≠ b ∧ (∀ x, w.frozen? ⟨b', x, none⟩ = false) ∧ w.cell? ⟨b', o, none⟩ = some (.int .i64 v) ∧ w.cell? ⟨b', o + 1, none⟩ = some (.int .u8 c)) → (∀ b o v c, pm = some (b, o, v, c) → Gm v c) → Inv s m w → Sep Pr m O w → 2 * f.size + is.length ≤ 3000000 →
    (∀ w' O' m', ExtW (fun j x => chF b o f.len j x ∨ chP pm j x) w O m w' O' m' → Sep Pr m' O' w' → FoAt w' (New w w' O' m') (runW N U M.isSome f (pmV pm) s).1 b o → PmAt w' pm (runW N U M.isSome f (pmV pm) s).2.1 → Inv (runW N U M.isSome f (pmV pm) s).2.2 m' w' → Runs P fo caps M F k is w' O') →
    Runs P fo caps M F (k + 2 * f.size + (pmI pm).length) ((ndsOf (some ⟨b, o, none⟩) 0 f.len).take 1 ++ (pmI pm ++ ndsOf (some ⟨b, o, none⟩) 1 f.len) ++ is) w O
  | .nil, pm, b, o, is, k, w, O, m, Pr, s, _, _, hOP, _, hpm, hgm, hI, hS, _, cont => by
    simp only [Fo.len, Fo.size, ndsOf_end (Nat.le_refl 0), ndsOf_end (Nat.zero_le 1), List.take_nil, List.nil_append, List.append_nil, Nat.mul_zero, Nat.add_zero]
    refine runs_pmW C hOP pm is k w O m s (fun b o v c e => by obtain ⟨h1, h2, h3, _, h4⟩ := hpm b o v c e; exact ⟨h1, h2, h3, h4⟩) hgm hI hS fun w' O' m' hx hs hp hi => ?_
    have hx' : ExtW (fun j x => chF b o 0 j x ∨ chP pm j x) w O m w' O' m' := (ExtW.refl (fun j hj => (hS.own j hj).1)).trans hx fun j x _ h => .inr h
    match pm, hp, hi, hx', cont with
    | none, hp, hi, hx', cont => exact cont w' O' m' hx' hs trivial hp hi
    | some q, hp, hi, hx', cont => exact cont w' O' m' hx' hs trivial hp hi
  | .cons kk n v c kids rest, pm, b, o, is, k, w, O, m, Pr, s, hf, hG, hOP, hb, hpm, hgm, hI, hS, hsz, cont => by
    have hf0 := hf
    obtain ⟨A, cap, a1, a2, a3, a4, a5, a6, a7, a8⟩ := hf
    obtain ⟨hPb, hnb, hfz⟩ := hb (by simp)
    simp only [Fo.len]
    rw [kids_cons, List.cons_append, List.append_assoc]
    simp only [Fo.size] at hsz ⊢
    have hlen : ((ndsOf (some ⟨b, o + 5, none⟩) 0 rest.len).take 1 ++ ([] ++ ndsOf (some ⟨b, o + 5, none⟩) 1 rest.len)).length ≤ rest.len := by
      cases hr : rest.len with
      | zero => rw [ndsOf_end (Nat.le_refl _), ndsOf_end (by omega)]; simp
      | succ m =>
        have := ndsOf_len (some ⟨b, o + 5, none⟩) 1 (m + 1)
        simp only [List.length_append, List.length_take, List.nil_append] at *
        omega
    have hrl := rest.len_le
    have hkl := kids.len_le
    have hbl := (hS.ok b hPb).1
    have hbm := (hS.ok b hPb).2
    have hbO : ¬ O b := fun e => (hS.own b e).2.1 hPb
    have hpl2 : (pmI pm).length ≤ 1 := by unfold pmI; split <;> simp
    obtain ⟨r, hr⟩ : ∃ r, r = N s kk n v c kids := ⟨_, rfl⟩
    -- what comes behind the node and what is within
    have behind : ∀ (w3 : World) (O3 m3 : Nat → Prop) (s3 : σ) (kout : Fo) (v' c' : Int) (A' : Option Addr) (cap' : Nat), ExtW (fun j x => j = b ∧ o ≤ x ∧ x < o + 5) w O m w3 O3 m3 → Sep Pr m3 O3 w3 → Inv s3 m3 w3 →
        w3.cell? ⟨b, o, none⟩ = some (.int .u8 r.2.1.1) → w3.cell? ⟨b, o + 1, none⟩ = some (.int .i64 r.2.1.2.1) → w3.cell? ⟨b, o + 2, none⟩ = some (.int .i64 v') → w3.cell? ⟨b, o + 3, none⟩ = some (.int .u8 c') → w3.cell? ⟨b, o + 4, none⟩ = some (.slice A' kout.len cap') → KidsAt w3 (New w w3 O3 m3) A' kout.len cap' kout →
        runW N U M.isSome (.cons kk n v c kids rest) (pmV pm) s = (.cons r.2.1.1 r.2.1.2.1 v' c' kout (runW N U M.isSome rest none (pmW U pm s3).2).1, (pmW U pm s3).1, (runW N U M.isSome rest none (pmW U pm s3).2).2.2) →
        Runs P fo caps M F (k + 2 * rest.size + (pmI pm).length) (pmI pm ++ (((ndsOf (some ⟨b, o + 5, none⟩) 0 rest.len).take 1 ++ ([] ++ ndsOf (some ⟨b, o + 5, none⟩) 1 rest.len)) ++ is)) w3 O3 := fun w3 O3 m3 s3 kout v' c' A' cap' hx hS3 hi c0 c1 c2 c3 c4 hK he => by
      refine runs_pmW (Pr := Pr) C hOP pm _ _ w3 O3 m3 s3 (fun b' o' v' c' e => ?_) hgm hi hS3 fun w4 O4 m4 hx4 hS4 hp4 hi4 => ?_
      · obtain ⟨h1, h2, h3, hne, h4, h5, h6⟩ := hpm b' o' v' c' e
        have hl := (hS.ok b' h2).1
        have hO' : ¬ O b' := fun e => (hS.own b' e).2.1 h2
        exact ⟨h1, h2, h3, fun x => (hx.fro b' x hl hO' (hS.ok b' h2).2).trans (h4 x), (hx.cell b' o' hl hO' (hS.ok b' h2).2 (fun e => hne e.1)).trans h5, (hx.cell b' (o' + 1) hl hO' (hS.ok b' h2).2 (fun e => hne e.1)).trans h6⟩
      · have hcb : ∀ x, ¬ chP pm b x := fun x e => by
          match pm, e, hpm with
          | some (b', o', v', c'), e, hpm => exact (hpm b' o' v' c' rfl).2.2.2.1 e.1.symm
        have hPl : ∀ j x, chP pm j x → Pr j := fun j x e => by
          match pm, e, hpm with
          | some (b', o', v', c'), e, hpm => rw [e.1]; exact (hpm b' o' v' c' rfl).2.1
        have hx14 : ExtW (fun j x => chF b o 1 j x ∨ chP pm j x) w O m w4 O4 m4 := ((ExtW.refl (fun j hj => (hS.own j hj).1)).trans hx (ch := fun j x => chF b o 1 j x ∨ chP pm j x) (fun j x _ h => .inl ⟨h.1, h.2.1, by omega⟩)).trans hx4 fun j x _ h => .inr h
        have cc4 : ∀ x, w4.cell? ⟨b, x, none⟩ = w3.cell? ⟨b, x, none⟩ := fun x => hx4.cell b x (hS3.ok b hPb).1 (fun e => (hS3.own b e).2.1 hPb) (hS3.ok b hPb).2 (hcb x)
        have hrest4 : FoAt w4 Ok rest b (o + 5) := FoAt.keepc (fun j hj x => hx14.cell j x (hS.ok j (hOP j hj)).1 (fun e => (hS.own j e).2.1 (hOP j hj)) (hS.ok j (hOP j hj)).2 (fun e => by
          rcases e with e | e
          · exact hnb (e.1 ▸ hj)
          · match pm, e, hpm with
            | some (b', o', v', c'), e, hpm => exact (hpm b' o' v' c' rfl).2.2.1 (e.1 ▸ hj))) rest b (o + 5) (fun x h1 h2 => hx14.cell b x hbl hbO hbm (fun e => by
          rcases e with e | e
          · have := e.2.2; omega
          · exact hcb x e)) a8
        have h := runs_w C rest none b (o + 5) is k w4 O4 m4 Pr _ hrest4 hG.2.2 hOP (fun _ => ⟨hPb, hnb, fun x => (hx14.fro b x hbl hbO hbm).trans (hfz x)⟩) (fun _ _ _ _ e => by cases e) (fun _ _ _ _ e => by cases e) hi4 hS4 (by omega) (fun w5 O5 m5 hx5 hS5 hf5 _ hi5 => by
          have hx45 : ExtW (fun j x => chF b o (rest.len + 1) j x ∨ chP pm j x) w O m w5 O5 m5 := ((ExtW.refl (fun j hj => (hS.own j hj).1)).trans hx14 (ch := fun j x => chF b o (rest.len + 1) j x ∨ chP pm j x) (fun j x _ h => h.imp (fun h => ⟨h.1, h.2.1, by have := h.2.2; omega⟩) id)).trans hx5 fun j x _ h => by
            rcases h with h | h
            · exact .inl ⟨h.1, by have := h.2.1; omega, by have := h.2.2; omega⟩
            · exact h.elim
          have cc5 : ∀ x, x < o + 5 → w5.cell? ⟨b, x, none⟩ = w4.cell? ⟨b, x, none⟩ := fun x hx => hx5.cell b x (hS4.ok b hPb).1 (fun e => (hS4.own b e).2.1 hPb) (hS4.ok b hPb).2 (fun e => by
            rcases e with e | e
            · have := e.2.1; omega
            · exact e.elim)
          have hx35 : ExtW (fun j x => chF b (o + 5) rest.len j x ∨ chP pm j x) w3 O3 m3 w5 O5 m5 := ((ExtW.refl (fun j hj => (hS3.own j hj).1)).trans hx4 (ch := fun j x => chF b (o + 5) rest.len j x ∨ chP pm j x) (fun j x _ h => .inr h)).trans hx5 fun j x _ h => by
            rcases h with h | h
            · exact .inl h
            · exact h.elim
          have hN3 : ∀ j, New w w3 O3 m3 j → (∀ x, w5.cell? ⟨j, x, none⟩ = w3.cell? ⟨j, x, none⟩) ∧ New w w5 O5 m5 j := fun j hj => by
            obtain ⟨n1, n2, n3, n4⟩ := hj
            have hno := hx35.no n2 n3 n4
            refine ⟨fun x => hx35.cell j x n2 n3 n4 (fun e => ?_), n1, Nat.lt_of_lt_of_le n2 hx35.size, hno.1, hno.2⟩
            rcases e with e | e
            · have := e.1; omega
            · have := (hS.ok j (hPl j x e)).1; omega
          refine cont w5 O5 m5 hx45 hS5 ?_ ?_ ?_
          · rw [he]
            refine ⟨A', cap', ((cc5 _ (by omega)).trans (cc4 _)).trans c0, ((cc5 _ (by omega)).trans (cc4 _)).trans c1, ((cc5 _ (by omega)).trans (cc4 _)).trans c2, ((cc5 _ (by omega)).trans (cc4 _)).trans c3, ((cc5 _ (by omega)).trans (cc4 _)).trans c4, hK.2.1, fun h0 => ?_, ?_⟩
            · obtain ⟨b', o', e, h1, h2⟩ := hK.2.2 h0
              exact ⟨b', o', e, (hN3 b' h1).2, FoAt.wide (fun j hj => (hN3 j hj).2) _ _ _ (FoAt.keepc (fun j hj x => (hN3 j hj).1 x) kout b' o' (fun x _ _ => (hN3 b' h1).1 x) h2)⟩
            · exact FoAt.wide (fun j hj => ⟨Nat.le_trans hx14.size hj.1, hj.2⟩) _ _ _ hf5
          · rw [he]
            intro b' o' v' c' e
            obtain ⟨y, h1, h2, h3⟩ := hp4 b' o' v' c' e
            obtain ⟨_, g2, g3, hne, _⟩ := hpm b' o' v' c' e
            have hk : ∀ x, w5.cell? ⟨b', x, none⟩ = w4.cell? ⟨b', x, none⟩ := fun x => hx5.cell b' x (hS4.ok b' g2).1 (fun e => (hS4.own b' e).2.1 g2) (hS4.ok b' g2).2 (fun e => by
              rcases e with e | e
              · exact hne e.1
              · exact e.elim)
            exact ⟨y, h1, (hk _).trans h2, (hk _).trans h3⟩
          · rw [he]; exact hi5)
        simpa [pmI] using h
    rw [show k + 2 * (1 + kids.size + rest.size) + (pmI pm).length = (k + 2 * rest.size + (pmI pm).length + 2 * kids.size + 1) + 1 by omega]
    intro w1 O1 ht
    have hbk := ht.keep b hbl hbO
    have hI1 : Inv s m w1 := C.keep s m w w1 hI ht.size (fun j hj => ht.keep j (hS.mn j hj) (fun e => (hS.own j e).2.2 hj)) (fun j hj => ht.keep j (hS.ok j (hOP j hj)).1 (fun e => (hS.own j e).2.1 (hOP j hj)))
    have hcb1 : ∀ x, w1.cell? ⟨b, x, none⟩ = w.cell? ⟨b, x, none⟩ := fun x => World.cell?_of_block (a := ⟨b, x, none⟩) hbk
    have hf1 : FoAt w1 Ok (.cons kk n v c kids .nil) b o := FoAt.keepc (fun j hj x => World.cell?_of_block (a := ⟨j, x, none⟩) (ht.keep j (hS.ok j (hOP j hj)).1 (fun e => (hS.own j e).2.1 (hOP j hj)))) _ b o (fun x _ _ => hcb1 x) ⟨A, cap, a1, a2, a3, a4, a5, a6, a7, trivial⟩
    have hnode := C.node s m w1 b o kk n v c kids hI1 hG.1 hf1 (fun x => (World.frozen?_of_block (a := ⟨b, x, none⟩) hbk).trans (hfz x)) (Nat.lt_of_lt_of_le hbl ht.size) hbm hnb (by omega)
    rw [← hr] at hnode
    refine hnode.mono ?_
    rintro e w2 ⟨h1, m2, h2, h3, A2, len2, cap2, d0, d1, d2, d3, d4, hstop, hgo⟩
    have hx := ExtW.of ht h3
    have hS2 := hS.ofC ht h3 (C.lt _ _ _ h2)
    refine ⟨_, h1, ⟨h3.size, fun j hj => h3.keep j (ht.own j hj).2 (fun e => by
      rcases (ht.own j hj).1 with h | h
      · exact (hS.own j h).2.2 e
      · have := hS.mn j e; omega) (fun x e => by
      rcases (ht.own j hj).1 with h | h
      · exact hbO (e.1 ▸ h)
      · have := e.1; omega)⟩, fun hg => ?_, fun hg => ?_⟩
    · -- it is not gone into
      cases hr2 : r.2.2 with
      | none => rw [hr2] at hg; cases hg
      | some ks =>
        have hk := hstop ks hr2
        obtain ⟨rfl, hk2, hk3⟩ := hk
        refine (behind w2 O1 m2 r.1 ks r.2.1.2.2.1 r.2.1.2.2.2 A2 cap2 hx hS2 h2 d0 d1 d2 d3 d4 ⟨rfl, hk2, fun h0 => ?_⟩ ?_).le (by omega)
        · obtain ⟨b', o', e, q1, q2⟩ := hk3 h0
          have hw : ∀ j, (w1.heap.size ≤ j ∧ j < w2.heap.size ∧ ¬ m2 j) → New w w2 O1 m2 j := fun j hj => ⟨Nat.le_trans ht.size hj.1, hj.2.1, fun e => by have := (ht.own j e).2; omega, hj.2.2⟩
          exact ⟨b', o', e, hw b' q1, FoAt.wide hw ks b' o' q2⟩
        · simp only [runW, ← hr, hr2]
          cases pm <;> rfl
    · cases hr2 : r.2.2 with
      | some ks => rw [hr2] at hg; cases hg
      | none =>
        obtain ⟨hl2, hc2, hA2⟩ := hgo hr2
        have hcb2 : b < w2.heap.size := Nat.lt_of_lt_of_le (Nat.lt_of_lt_of_le hbl ht.size) h3.size
        refine ⟨r.2.1.1, A2, len2, cap2, ⟨d0, d4, fun h0 => ?_⟩, fun e => (hS2.own b e).2.1 hPb, ?_, ?_⟩
        · obtain ⟨b', e, _⟩ := hA2 h0
          exact ⟨b', 0, e⟩
        · rw [List.length_append, List.length_append]
          omega
        · subst hl2
          have hit : kidsOf M.isSome r.2.1.1 b o A2 kids.len = (ndsOf A2 0 kids.len).take 1 ++ (muOf M.isSome r.2.1.1 b o ++ ndsOf A2 1 kids.len) := rfl
          rw [hit]
          obtain ⟨b', Pr', hk1, hk2, hk3, hk4, hk5, hk6, hk7, hk8⟩ : ∃ (b' : Nat) (Pr' : Nat → Prop), FoAt w2 Ok kids b' 0 ∧ (kids ≠ .nil → Pr' b' ∧ ¬ Ok b' ∧ (∀ x, w2.frozen? ⟨b', x, none⟩ = false)) ∧ ndsOf A2 0 kids.len = ndsOf (some ⟨b', 0, none⟩) 0 kids.len ∧ ndsOf A2 1 kids.len = ndsOf (some ⟨b', 0, none⟩) 1 kids.len ∧ (∀ j, Pr j → Pr' j) ∧ Sep Pr' m2 O1 w2 ∧ (b' ≠ b ∧ w.heap.size ≤ b') ∧ (0 < kids.len → A2 = some ⟨b', 0, none⟩ ∧ b' < w2.heap.size ∧ ¬ O1 b' ∧ ¬ m2 b') := by
            by_cases h0 : kids.len = 0
            · have hk0 := Fo.len_zero h0
              rw [hk0]
              refine ⟨w.heap.size, Pr, trivial, fun h => absurd rfl h, ?_, ?_, fun _ h => h, hS2, ⟨by omega, Nat.le_refl _⟩, fun h => absurd h (by simp [Fo.len])⟩
              · show ndsOf A2 0 0 = ndsOf _ 0 0
                rw [ndsOf_end (Nat.le_refl _), ndsOf_end (Nat.le_refl _)]
              · show ndsOf A2 1 0 = ndsOf _ 1 0
                rw [ndsOf_end (Nat.zero_le _), ndsOf_end (Nat.zero_le _)]
            · obtain ⟨b', e, q1, q2, q3, q4, q5⟩ := hA2 (by omega)
              subst e
              have hbO1 : ¬ O1 b' := fun e => by have := (ht.own b' e).2; omega
              have hnOk : ¬ Ok b' := fun e => by have := (hS.ok b' (hOP b' e)).1; have := ht.size; omega
              exact ⟨b', fun j => Pr j ∨ j = b', q5, fun _ => ⟨.inr rfl, hnOk, q4⟩, rfl, rfl, fun _ h => .inl h, hS2.add q2 hbO1 q3, ⟨by have := ht.size; omega, by have := ht.size; omega⟩, fun _ => ⟨rfl, q2, hbO1, q3⟩⟩
          rw [hk3, hk4]
          obtain ⟨pm', hpm'⟩ : ∃ pm', pm' = if r.2.1.1 = 7 ∧ M.isSome = true then some (b, o + 2, r.2.1.2.2.1, r.2.1.2.2.2) else none := ⟨_, rfl⟩
          have hmu : muOf M.isSome r.2.1.1 b o = pmI pm' := by
            rw [hpm']
            unfold muOf
            split <;> rfl
          have hpv : pmV pm' = if r.2.1.1 = 7 ∧ M.isSome = true then some r.2.1.2.2 else none := by
            rw [hpm']
            split <;> rfl
          rw [hmu]
          have hpl : (pmI pm').length ≤ 1 := by unfold pmI; split <;> simp
          have hch : ∀ j x, chP pm' j x → j = b ∧ o + 2 ≤ x ∧ x < o + 4 := fun j x e => by
            rw [hpm'] at e
            split at e
            · exact e
            · exact e.elim
          refine (runs_w C kids pm' b' 0 _ (k + 2 * rest.size + (pmI pm).length) w2 O1 m2 Pr' _ hk1 hG.2.1 (fun j hj => hk5 j (hOP j hj)) hk2 (fun b5 o5 v5 c5 e5 => ?_) (fun b5 o5 v5 c5 e5 => ?_) h2 hk6 (by rw [List.length_append, List.length_append]; omega) fun w3 O3 m3 hx3 hS3 hf3 hp3 hi3 => ?_).le (by omega)
          · rw [hpm'] at e5
            split at e5
            · rename_i h7
              cases e5
              exact ⟨h7.2, hk5 b hPb, hnb, fun e => hk7.1 e.symm, fun x => (hx.fro b x hbl hbO hbm).trans (hfz x), d2, d3⟩
            · cases e5
          · rw [hpm'] at e5
            split at e5
            · rename_i h7
              cases e5
              have := C.gm s kk n v c kids hG.1 (by rw [← hr]; exact h7.1)
              rwa [← hr] at this
            · cases e5
          · have hxb : ExtW (fun j x => j = b ∧ o ≤ x ∧ x < o + 5) w O m w3 O3 m3 := hx.trans hx3 fun j x hj h => by
              rcases h with h | h
              · have := h.1; have := hk7.2; omega
              · have := hch j x h; exact ⟨this.1, by omega, by omega⟩
            have cc3 : ∀ x, ¬ (o + 2 ≤ x ∧ x < o + 4) → w3.cell? ⟨b, x, none⟩ = w2.cell? ⟨b, x, none⟩ := fun x hx' => hx3.cell b x hcb2 (fun e => (hS2.own b e).2.1 hPb) (hS2.ok b hPb).2 (fun e => by
              rcases e with e | e
              · exact hk7.1 e.1.symm
              · exact hx' (hch b x e).2)
            have hKK : KidsAt w3 (New w w3 O3 m3) A2 (runW N U M.isSome kids (pmV pm') r.1).1.len cap2 (runW N U M.isSome kids (pmV pm') r.1).1 := by
              refine ⟨rfl, by rw [runW_len]; exact hc2, fun h0 => ?_⟩
              rw [runW_len] at h0
              obtain ⟨e, q2, q3, q4⟩ := hk8 h0
              have hno := hx3.no q2 q3 q4
              exact ⟨b', 0, e, ⟨hk7.2, Nat.lt_of_lt_of_le q2 hx3.size, hno.1, hno.2⟩, FoAt.wide (fun j hj => ⟨Nat.le_trans hx.size hj.1, hj.2⟩) _ _ _ hf3⟩
            have hd4 : w3.cell? ⟨b, o + 4, none⟩ = some (.slice A2 (runW N U M.isSome kids (pmV pm') r.1).1.len cap2) := by rw [runW_len]; exact (cc3 _ (by omega)).trans d4
            by_cases h7 : r.2.1.1 = 7 ∧ M.isSome = true
            · obtain ⟨y, y1, y2, y3⟩ := hp3 b (o + 2) r.2.1.2.2.1 r.2.1.2.2.2 (by rw [hpm', if_pos h7])
              refine behind w3 O3 m3 _ _ y.1 y.2 A2 cap2 hxb (hS3.less hk5) hi3 ((cc3 _ (by omega)).trans d0) ((cc3 _ (by omega)).trans d1) y2 y3 hd4 hKK ?_
              have hpv2 := hpv
              rw [if_pos h7] at hpv2
              simp only [runW, ← hr, hr2, if_pos h7]
              rw [← hpv2, y1]
              cases pm <;> rfl
            · have hpn : pm' = none := by rw [hpm', if_neg h7]
              refine behind w3 O3 m3 _ _ r.2.1.2.2.1 r.2.1.2.2.2 A2 cap2 hxb (hS3.less hk5) hi3 ((cc3 _ (by omega)).trans d0) ((cc3 _ (by omega)).trans d1) ?_ ?_ hd4 hKK ?_
              · refine (hx3.cell b (o + 2) hcb2 (fun e => (hS2.own b e).2.1 hPb) (hS2.ok b hPb).2 (fun e => ?_)).trans d2
                rcases e with e | e
                · exact hk7.1 e.1.symm
                · rw [hpn] at e; exact e
              · refine (hx3.cell b (o + 3) hcb2 (fun e => (hS2.own b e).2.1 hPb) (hS2.ok b hPb).2 (fun e => ?_)).trans d3
                rcases e with e | e
                · exact hk7.1 e.1.symm
                · rw [hpn] at e; exact e
              · have hpv2 := hpv
                rw [if_neg h7] at hpv2
                have hn2 : (runW N U M.isSome kids none r.1).2.1 = none := by
                  cases kids <;> rfl
                simp only [runW, ← hr, hr2, if_neg h7]
                rw [hpv2, hn2]
                cases pm <;> rfl
end
end Go.Proofs.YtblgligagngpfaaDoor.Mu
namespace Go.Proofs.YtblgligagngpfaaDoor.Mu
open Go.ChangeShapes Go.WideShapes Go.ChangeAt Go.RowKit Go.Shelf

theorem through_write {M : Option (Nat × Array Value)} {fo : Nat} {caps : Array Value} {σ : Type} {N : σ → Int → Int → Int → Int → Fo → σ × (Int × Int × Int × Int) × Option Fo} {U : σ → Int → Int → σ × Int × Int} {G : Int → Int → Int → Int → Nat → Prop} {Gm : Int → Int → Prop} {Ok : Nat → Prop} {Inv : σ → (Nat → Prop) → World → Prop} (C : WriteC Tryd.prog fo caps M N U G Gm Ok Inv) (eg : ∀ args w, (callFunc fo args).run Tryd.prog w = .ok (.enter fo args) w) (em : ∀ gm cm, M = some (gm, cm) → ∀ args w, (callFunc gm args).run Tryd.prog w = .ok (.enter gm args) w)
    (k n v c : Int) (kids : Fo) (b o : Nat) (w : World) (m : Nat → Prop) (s : σ) (hf : FoAt w Ok (.cons k n v c kids .nil) b o) (hG : (Fo.cons k n v c kids .nil).All G) (hb : b < w.heap.size ∧ ¬ Ok b ∧ ¬ m b) (hfz : ∀ x, w.frozen? ⟨b, x, none⟩ = false) (hI : Inv s m w) (hOk : ∀ j, Ok j → j < w.heap.size ∧ ¬ m j) (hsz : kids.size ≤ 1400000) :
    Calls Tryd.prog 27 #[.pointer (some ⟨b, o, none⟩), .func (.func fo) #[] caps, mval M] w fun e w' => e = .returned (.tuple #[]) ∧ ∃ m', Inv (runW N U M.isSome (.cons k n v c kids .nil) none s).2.2 m' w' ∧ FoAt w' (fun j => w.heap.size ≤ j ∧ j < w'.heap.size ∧ ¬ m' j) (runW N U M.isSome (.cons k n v c kids .nil) none s).1 b o ∧ FrC (chF b o 1) m w w' m' := by
  have hR : Runs Tryd.prog fo caps M (fun w' => ∃ m', Inv (runW N U M.isSome (.cons k n v c kids .nil) none s).2.2 m' w' ∧ FoAt w' (fun j => w.heap.size ≤ j ∧ j < w'.heap.size ∧ ¬ m' j) (runW N U M.isSome (.cons k n v c kids .nil) none s).1 b o ∧ FrC (chF b o 1) m w w' m') (0 + 2 * (Fo.cons k n v c kids .nil).size + (pmI none).length) ((ndsOf (some ⟨b, o, none⟩) 0 (Fo.cons k n v c kids .nil).len).take 1 ++ (pmI none ++ ndsOf (some ⟨b, o, none⟩) 1 (Fo.cons k n v c kids .nil).len) ++ []) w (fun _ => False) := by
    refine runs_w C (.cons k n v c kids .nil) none b o [] 0 w (fun _ => False) m (fun j => Ok j ∨ j = b) s hf hG (fun _ h => .inl h) (fun _ => ⟨.inr rfl, hb.2.1, hfz⟩) (fun _ _ _ _ e => by cases e) (fun _ _ _ _ e => by cases e) hI ⟨fun _ h => h.elim, fun j hj => ?_, C.lt s m w hI⟩ (by simp only [Fo.size, List.length_nil]; omega) fun w' O' m' hx hS hfo _ hi => ?_
    · rcases hj with hj | rfl
      · exact hOk j hj
      · exact ⟨hb.1, hb.2.2⟩
    intro w2 O2 ht
    have hmn : ∀ j, m' j → w2.heap[j]? = w'.heap[j]? := fun j hj => ht.keep j (C.lt _ _ _ hi j hj) (fun e => (hS.own j e).2.2 hj)
    have hok : ∀ j, (Ok j ∨ j = b) → w2.heap[j]? = w'.heap[j]? := fun j hj => ht.keep j (hS.ok j hj).1 (fun e => (hS.own j e).2.1 hj)
    have hnO : ∀ j, j < w.heap.size → ¬ O' j := fun j hj e => by
      rcases (hx.own j e).1 with h | h
      · exact h
      · omega
    have hch : ∀ j x, ¬ chF b o 1 j x → ¬ (chF b o (Fo.cons k n v c kids .nil).len j x ∨ chP none j x) := fun j x h e => by
      rcases e with e | e
      · exact h e
      · exact e.elim
    refine ⟨m', C.keep _ _ _ _ hi ht.size hmn (fun j hj => hok j (.inl hj)), ?_, ht.os.trans hx.os, ht.tape.trans hx.tape, ht.output.trans hx.output, Nat.le_trans hx.size ht.size, fun j hj hn hc => (ht.keep j (Nat.lt_of_lt_of_le hj hx.size) (hnO j hj)).trans (hx.keep j hj (fun h => h) hn (fun x => hch j x (hc x))), fun j x hj hn hc => (World.cell?_of_block (a := ⟨j, x, none⟩) (ht.keep j (Nat.lt_of_lt_of_le hj hx.size) (hnO j hj))).trans (hx.cell j x hj (fun h => h) hn (hch j x hc)), fun j x hj hn => (World.frozen?_of_block (a := ⟨j, x, none⟩) (ht.keep j (Nat.lt_of_lt_of_le hj hx.size) (hnO j hj))).trans (hx.fro j x hj (fun h => h) hn), hx.mn⟩
    refine FoAt.wide (Ok := New w w' O' m') (fun j hj => ⟨hj.1, Nat.lt_of_lt_of_le hj.2.1 ht.size, hj.2.2.2⟩) _ _ _ (FoAt.keepc (fun j hj x => World.cell?_of_block (a := ⟨j, x, none⟩) (ht.keep j hj.2.1 hj.2.2.1)) _ b o (fun x _ _ => World.cell?_of_block (a := ⟨b, x, none⟩) (hok b (.inr rfl))) hfo)
  have e : (ndsOf (some ⟨b, o, none⟩) 0 (Fo.cons k n v c kids .nil).len).take 1 ++ (pmI none ++ ndsOf (some ⟨b, o, none⟩) 1 (Fo.cons k n v c kids .nil).len) ++ [] = [.nd b o] := by
    simp [Fo.len, pmI, ndsOf]
  rw [e] at hR
  match M, C, em, hR with
  | none, C, _, hR => exact through_one fo caps _ eg _ b o w hR
  | some (gm, cm), C, em, hR => exact through_two fo caps _ eg gm cm (em gm cm rfl) _ b o w hR
end Go.Proofs.YtblgligagngpfaaDoor.Mu
namespace Go.Proofs.YtblgligagngpfaaDoor.Mu
open Go.ChangeShapes Go.WideShapes Go.ChangeAt Go.RowKit Go.Shelf

attribute [local go_sem] Oper.semAt_some

theorem info_ty : (Tryd.prog.info? 27).map (fun i => (i.zero, i.size, i.bytes)) = some (some (.agg #[.int .u8 0, .int .i64 0, .int .i64 0, .int .u8 0, .slice none 0 0]), 5, 56) := by kernel_rfl
theorem own_cap0 {w : World} {base e s n c : Nat} {A : Option Addr} {xs : List Value} (h : w.ownsRow base e s (.slice A n c) n xs) : n ≤ c := by
  rcases h.2 with ⟨hv, h0⟩ | ⟨g, cap, cur, hv, _, _, hnc, _⟩
  · cases hv; exact Nat.le_refl _
  · cases hv; exact hnc
/-- The cells of a list's nodes, and that they tell the list wherever they lie. -/
theorem FoAt.cells {w : World} {Ok : Nat → Prop} : ∀ (f : Fo) (b o : Nat), FoAt w Ok f b o → ∃ vs : List Value, vs.length = f.len * 5 ∧ (∀ j u, vs[j]? = some u → w.cell? ⟨b, o + j, none⟩ = some u) ∧ (∀ u ∈ vs, u.oneCell' = true) ∧
    ∀ (w' : World) (b' o' : Nat), (∀ j u, vs[j]? = some u → w'.cell? ⟨b', o' + j, none⟩ = some u) → (∀ j, Ok j → ∀ x, w'.cell? ⟨j, x, none⟩ = w.cell? ⟨j, x, none⟩) → FoAt w' Ok f b' o'
  | .nil, b, o, _ => ⟨[], rfl, fun j u h => (by simp at h), fun u h => (by cases h), fun _ _ _ _ _ => trivial⟩
  | .cons k n v c kids rest, b, o, h => by
    obtain ⟨A, cap, a1, a2, a3, a4, a5, a6, a7, a8⟩ := h
    obtain ⟨vs, h1, h2, h3, h4⟩ := FoAt.cells rest b (o + 5) a8
    refine ⟨[.int .u8 k, .int .i64 n, .int .i64 v, .int .u8 c, .slice A kids.len cap] ++ vs, by simp only [List.length_append, List.length_cons, List.length_nil, h1, Fo.len]; omega, fun j u hu => ?_, fun u hu => ?_, fun w' b' o' hc hk => ?_⟩
    · match j, hu with
      | 0, hu => cases hu; exact a1
      | 1, hu => cases hu; exact a2
      | 2, hu => cases hu; exact a3
      | 3, hu => cases hu; exact a4
      | 4, hu => cases hu; exact a5
      | j + 5, hu =>
        have := h2 j u (by simpa using hu)
        rwa [show o + 5 + j = o + (j + 5) by omega] at this
    · rcases List.mem_append.1 hu with hu | hu
      · simp at hu
        rcases hu with rfl | rfl | rfl | rfl | rfl <;> rfl
      · exact h3 u hu
    · refine ⟨A, cap, hc 0 _ rfl, hc 1 _ rfl, hc 2 _ rfl, hc 3 _ rfl, hc 4 _ rfl, a6, fun h0 => ?_, h4 w' b' (o' + 5) (fun j u hu => ?_) hk⟩
      · obtain ⟨b2, o2, e, q1, q2⟩ := a7 h0
        exact ⟨b2, o2, e, q1, FoAt.keepc hk kids b2 o2 (fun x _ _ => hk b2 q1 x) q2⟩
      · have := hc (j + 5) u (by simpa using hu)
        rwa [show o' + (j + 5) = o' + 5 + j by omega] at this
/-- A list of one's own, told again: what is within lies where it lay. -/
def CloneIs (w : World) (Ok : Nat → Prop) (n : Nat) (kids : Fo) (e : Ending) (w' : World) : Prop :=
  ∃ A' c', e = .returned (.slice A' n c') ∧ n ≤ c' ∧ (0 < n → ∃ b', A' = some ⟨b', 0, none⟩ ∧ w.heap.size ≤ b' ∧ b' < w'.heap.size ∧ (∀ x, w'.frozen? ⟨b', x, none⟩ = false) ∧ FoAt w' Ok kids b' 0) ∧ Bel w w'
set_option maxHeartbeats 1000000 in
theorem cloneT_any (A : Option Addr) (n cap : Nat) (kids : Fo) (Ok : Nat → Prop) (w : World) (h : KidsAt w Ok A n cap kids) (hOk : ∀ j, Ok j → j < w.heap.size) (hn : n ≤ 2000000) :
    Calls Tryd.prog 31 #[.slice A n cap] w (CloneIs w Ok n kids) := by
  have q22 : ∀ (w : World) (a : Option Addr) (n c n' c' : Nat), (binOp .eql 25 (.slice a n c) (.slice none n' c')).run Tryd.prog w = .ok (.bool a.isNone) w := fun w a n c n' c' => Lib.run_eql_slice_nil w _ _ a n c n' c' Tryd.underlying25
  have H := Lib.hid h
  have HOK := Lib.hid hOk
  clear h hOk
  rcases A with _ | a
  · have hn0 : n = 0 := by
      rcases Nat.eq_zero_or_pos n with h' | h'
      · exact h'
      · obtain ⟨_, _, e, _⟩ := H.out.2.2 h'; cases e
    subst hn0
    go_enter Tryd.func31, Tryd.ntmps31
    go_wp2
    go_ret
    exact ⟨none, 0, rfl, Nat.le_refl _, fun h => absurd h (by omega), Bel.refl _⟩
  · obtain ⟨i, hi, hz0, hz1, hz2⟩ := info_parts info_ty
    obtain ⟨vs, hvl, hvc, hv1, hvr⟩ : ∃ vs : List Value, vs.length = n * 5 ∧ (∀ j u, vs[j]? = some u → w.cell? (a.add j) = some u) ∧ (∀ u ∈ vs, u.oneCell' = true) ∧ (0 < n → ∀ (w' : World) (b' o' : Nat), (∀ j u, vs[j]? = some u → w'.cell? ⟨b', o' + j, none⟩ = some u) → (∀ j, Ok j → ∀ x, w'.cell? ⟨j, x, none⟩ = w.cell? ⟨j, x, none⟩) → FoAt w' Ok kids b' o') := by
      rcases Nat.eq_zero_or_pos n with h0 | h0
      · exact ⟨[], by rw [h0]; rfl, fun j u hu => (by simp at hu), fun u hu => (by cases hu), fun h => absurd h (by omega)⟩
      · obtain ⟨b, o, e, q1, q2⟩ := H.out.2.2 h0
        cases e
        obtain ⟨vs, h1, h2, h3, h4⟩ := FoAt.cells kids b o q2
        exact ⟨vs, by rw [h1, H.out.1], fun j u hu => by rw [Addr.add_lit]; exact h2 j u hu, h3, fun _ => h4⟩
    have HV := Lib.hid (And.intro hvl (And.intro hvc (And.intro hv1 hvr)))
    clear hvl hvc hv1 hvr
    go_enter Tryd.func31, Tryd.ntmps31
    go_wp2_with (at_builtin; refine stopW ?_)
    unfold StopW
    refine wpList_append_own _ rfl _ _ 25 rfl w.heap.size 27 i _ 5 56 Tryd.underlying25 hi hz0 hz1 hz2 rfl (by decide) (.slice (some ⟨w.heap.size, 0, none⟩) 0 0) 0 [] rfl (World.ownsRow_made w #[] 0 (Nat.le_refl _) (Nat.zero_le _) (by simp)) a n cap vs rfl HV.out.1 (fun j u hu => ?_) HV.out.2.2.1 (by unfold maxLen; omega) (by omega) (by simp) ?_
    · have := HV.out.2.1 j u hu
      exact (((Bel.refl w).alloc _).cell (World.block_lt_of_cell? w _ this)).trans this
    · intro v' w1 hown1 hg1 _
      obtain ⟨A', c', rfl⟩ := own_form_n hown1
      have hb1 : Bel w w1 := Below.grown ((Bel.refl w).alloc _) hg1 (by simp) (fun x hx => by simp [Value.ownBlock] at hx; omega)
      have HB1 := Lib.hid hb1
      have HO1 := Lib.hid hown1
      clear hown1 hg1 hb1
      go_wp2_with fail
      go_ret
      have h0 := HO1.out
      rw [Nat.zero_add] at h0
      refine ⟨A', c', rfl, own_cap0 h0, fun hn0 => ?_, HB1.out⟩
      obtain ⟨g, cp, hv, hgb, hgl⟩ := h0.form hn0
      cases hv
      refine ⟨g, rfl, hgb, hgl, fun x => h0.frozenAt x, HV.out.2.2.2 hn0 w1 g 0 (fun j u hu => ?_) (fun j hj x => HB1.out.cell (p := ⟨j, x, none⟩) (HOK.out j hj))⟩
      have h2 := h0.cells (g := g) rfl j u (by simpa using hu)
      rwa [Addr.add_lit] at h2
theorem FrC.of_bel {ch : Nat → Nat → Prop} {m : Nat → Prop} {w w1 : World} (h : Bel w w1) : FrC ch m w w1 m :=
  ⟨h.os, h.tape, h.output, h.size, fun j hj _ _ => h.block j hj, fun j x hj _ _ => h.cell (p := ⟨j, x, none⟩) hj, fun j x hj _ => h.frozen (p := ⟨j, x, none⟩) hj, fun _ h => .inl h⟩
theorem FrC.set {ch : Nat → Nat → Prop} {m m' : Nat → Prop} {w w1 : World} (h : FrC ch m w w1 m') {b x0 : Nat} (hc : ch b x0) (v : Value) : FrC ch m w (w1.setCell ⟨b, x0, none⟩ v) m' :=
  ⟨h.os, h.tape, h.output, by have := h.size; simpa [World.setCell] using this, fun j hj hm hn => (heap_setCell_other w1 _ j _ (fun e => hn x0 (by have : j = b := e; rw [this]; exact hc))).trans (h.keep j hj hm hn),
   fun j x hj hm hn => (World.cell?_setCell_other w1 _ ⟨j, x, none⟩ _ (fun e => hn (by cases e; exact hc))).trans (h.cell j x hj hm hn), fun j x hj hm => by rw [World.frozen?_setCell]; exact h.fro j x hj hm, h.mn⟩
/-- copied: each list is cloned on the way. -/
def copyN (s : Unit) (k n v c : Int) (_ : Fo) : Unit × (Int × Int × Int × Int) × Option Fo := (s, (k, n, v, c), none)
def noW {σ : Type} (s : σ) (v c : Int) : σ × Int × Int := (s, v, c)
theorem copy_run : ∀ (f : Fo), runW copyN noW false f none () = (f, none, ())
  | .nil => rfl
  | .cons k n v c kids rest => by
    simp only [runW, copyN, Bool.false_eq_true, and_false, if_false]
    rw [copy_run kids, copy_run rest]
    rfl
set_option maxRecDepth 100000 in
set_option maxHeartbeats 1000000 in
theorem copy_closure (k n v c : Int) (kids : Fo) (Ok : Nat → Prop) (b o : Nat) (w : World) (hf : FoAt w Ok (.cons k n v c kids .nil) b o) (hfz : ∀ x, w.frozen? ⟨b, x, none⟩ = false) (hb : b < w.heap.size) (hnb : ¬ Ok b) (hOk : ∀ j, Ok j → j < w.heap.size) (hn : kids.len ≤ 2000000) :
    Calls Tryd.prog 57 #[.pointer (some ⟨b, o, none⟩)] w fun e w1 => e = .returned (.bool true) ∧ FrC (fun j x => j = b ∧ o ≤ x ∧ x < o + 5) (fun _ => False) w w1 (fun _ => False) ∧ ∃ A cap, w1.cell? ⟨b, o, none⟩ = some (.int .u8 k) ∧ w1.cell? ⟨b, o + 1, none⟩ = some (.int .i64 n) ∧ w1.cell? ⟨b, o + 2, none⟩ = some (.int .i64 v) ∧ w1.cell? ⟨b, o + 3, none⟩ = some (.int .u8 c) ∧ w1.cell? ⟨b, o + 4, none⟩ = some (.slice A kids.len cap) ∧ kids.len ≤ cap ∧
      (0 < kids.len → ∃ b', A = some ⟨b', 0, none⟩ ∧ w.heap.size ≤ b' ∧ b' < w1.heap.size ∧ (∀ x, w1.frozen? ⟨b', x, none⟩ = false) ∧ FoAt w1 Ok kids b' 0) := by
  obtain ⟨A, cap, a1, a2, a3, a4, a5, a6, a7, _⟩ := hf
  have HK : Hid (KidsAt w Ok A kids.len cap kids) := Lib.hid ⟨rfl, a6, a7⟩
  have HC := Lib.hid (And.intro a1 (And.intro a2 (And.intro a3 a4)))
  have f4 := hfz (o + 4)
  have HF := Lib.hid hfz
  have HOK := Lib.hid hOk
  have HN := Lib.hid hnb
  obtain ⟨l, hl⟩ : ∃ l, l = kids.len := ⟨_, rfl⟩
  have HL := Lib.hid hl
  rw [← hl] at a5 hn HK
  clear a1 a2 a3 a4 a6 a7 hfz hOk hnb hl
  go_enter Tryd.func57, Tryd.ntmps57
  go_wp2_with fail
  refine (cloneT_any A l cap kids Ok w HK.out HOK.out hn).mono ?_
  rintro e w1 ⟨A', c', rfl, hc', hA', hb1⟩
  have c4 := (hb1.cell (p := ⟨b, o + 4, none⟩) hb).trans a5
  have f4' := (hb1.frozen (p := ⟨b, o + 4, none⟩) hb).trans f4
  have HB1 := Lib.hid hb1
  have HA' := Lib.hid hA'
  have hb' : b < w1.heap.size := Nat.lt_of_lt_of_le hb hb1.size
  clear hb1 hA'
  go_wp2_with fail
  go_ret
  have hne : ∀ x, x ≠ o + 4 → (w1.setCell ⟨b, o + 4, none⟩ (.slice A' l c')).cell? ⟨b, x, none⟩ = w.cell? ⟨b, x, none⟩ := fun x hx => (World.cell?_setCell_other w1 _ ⟨b, x, none⟩ _ (fun e => by injection e; omega)).trans (HB1.out.cell (p := ⟨b, x, none⟩) hb)
  obtain ⟨a1, a2, a3, a4⟩ := HC.out
  refine ⟨rfl, (FrC.of_bel HB1.out).set ⟨rfl, by omega, by omega⟩ _, A', c', (hne _ (by omega)).trans a1, (hne _ (by omega)).trans a2, (hne _ (by omega)).trans a3, (hne _ (by omega)).trans a4, by rw [← HL.out]; exact World.cell?_setCell_same _ _ _ c4, by rw [← HL.out]; exact hc', fun h0 => ?_⟩
  obtain ⟨b', e, q1, q2, q3, q4⟩ := HA'.out (by rw [HL.out]; exact h0)
  refine ⟨b', e, q1, by simpa [World.setCell] using q2, fun x => by rw [World.frozen?_setCell]; exact q3 x, FoAt.keepc (fun j hj x => World.cell?_setCell_other w1 _ ⟨j, x, none⟩ _ (fun e => ?_)) kids b' 0 (fun x _ _ => World.cell?_setCell_other w1 _ ⟨b', x, none⟩ _ (fun e => by injection e; omega)) q4⟩
  injection e with e1 _ _
  exact HN.out (e1 ▸ hj)
theorem copy_write (Ok : Nat → Prop) : WriteC Tryd.prog 57 #[] none copyN noW (fun _ _ _ _ _ => True) (fun _ _ => True) Ok (fun _ m w => (∀ j, Ok j → j < w.heap.size) ∧ m = fun _ => False) where
  keep := fun s m w w' h hs _ _ => ⟨fun j hj => Nat.lt_of_lt_of_le (h.1 j hj) hs, h.2⟩
  lt := fun s m w h j hj => by rw [h.2] at hj; exact hj.elim
  node := fun s m w b o k n v c kids hI _ hf hfz hb hm hnb hsz => by
    obtain ⟨hok, rfl⟩ := hI
    refine (copy_closure k n v c kids Ok b o w hf hfz hb hnb hok (by have := kids.len_le; omega)).mono ?_
    rintro e w1 ⟨h1, h2, A, cap, d0, d1, d2, d3, d4, hc, hA⟩
    refine ⟨h1, _, ⟨fun j hj => Nat.lt_of_lt_of_le (hok j hj) h2.size, rfl⟩, h2, A, _, cap, d0, d1, d2, d3, d4, fun ks e => (by cases e), fun _ => ⟨rfl, hc, fun h0 => ?_⟩⟩
    obtain ⟨b', e, q1, q2, q3, q4⟩ := hA h0
    exact ⟨b', e, q1, q2, fun h => h, q3, q4⟩
  gm := fun _ _ _ _ _ _ _ _ => trivial
  mu := fun gm cm e => by cases e
theorem put5 {w : World} {g : Nat} {t : TypeId} {o0 o1 o2 o3 o4 x0 x1 x2 x3 x4 : Value} (h : w.heap[g]? = some (.cells #[o0, o1, o2, o3, o4] t (0, 0))) :
    ∃ w', w' = (((((w.setCell ⟨g, 0, none⟩ x0).setCell ⟨g, 1, none⟩ x1).setCell ⟨g, 2, none⟩ x2).setCell ⟨g, 3, none⟩ x3).setCell ⟨g, 4, none⟩ x4) ∧ w'.heap[g]? = some (.cells #[x0, x1, x2, x3, x4] t (0, 0)) ∧ (∀ w0, Bel w0 w → w0.heap.size ≤ g → Bel w0 w') ∧ (∀ j, j ≠ g → w'.heap[j]? = w.heap[j]?) ∧ w'.heap.size = w.heap.size := by
  have ho : ∀ j, j ≠ g → (((((w.setCell ⟨g, 0, none⟩ x0).setCell ⟨g, 1, none⟩ x1).setCell ⟨g, 2, none⟩ x2).setCell ⟨g, 3, none⟩ x3).setCell ⟨g, 4, none⟩ x4).heap[j]? = w.heap[j]? := fun j hj => by
    have hne : ∀ o, j ≠ (⟨g, o, none⟩ : Addr).block := fun o e => hj e
    rw [heap_setCell_other _ _ j _ (hne 4), heap_setCell_other _ _ j _ (hne 3), heap_setCell_other _ _ j _ (hne 2), heap_setCell_other _ _ j _ (hne 1), heap_setCell_other _ _ j _ (hne 0)]
  have hs : (((((w.setCell ⟨g, 0, none⟩ x0).setCell ⟨g, 1, none⟩ x1).setCell ⟨g, 2, none⟩ x2).setCell ⟨g, 3, none⟩ x3).setCell ⟨g, 4, none⟩ x4).heap.size = w.heap.size := by simp [World.setCell]
  refine ⟨_, rfl, ?_, fun w0 hb hg => ?_, ho, hs⟩
  · have a0 : (w.setCell ⟨g, 0, none⟩ x0).heap[g]? = some (.cells #[x0, o1, o2, o3, o4] t (0, 0)) := by rw [heap_setCell_same w g 0 _ _ x0 h]; rfl
    clear ho hs
    generalize w.setCell ⟨g, 0, none⟩ x0 = u0 at a0 ⊢
    have a1 : (u0.setCell ⟨g, 1, none⟩ x1).heap[g]? = some (.cells #[x0, x1, o2, o3, o4] t (0, 0)) := by rw [heap_setCell_same u0 g 1 _ _ x1 a0]; rfl
    generalize u0.setCell ⟨g, 1, none⟩ x1 = u1 at a1 ⊢
    have a2 : (u1.setCell ⟨g, 2, none⟩ x2).heap[g]? = some (.cells #[x0, x1, x2, o3, o4] t (0, 0)) := by rw [heap_setCell_same u1 g 2 _ _ x2 a1]; rfl
    generalize u1.setCell ⟨g, 2, none⟩ x2 = u2 at a2 ⊢
    have a3 : (u2.setCell ⟨g, 3, none⟩ x3).heap[g]? = some (.cells #[x0, x1, x2, x3, o4] t (0, 0)) := by rw [heap_setCell_same u2 g 3 _ _ x3 a2]; rfl
    generalize u2.setCell ⟨g, 3, none⟩ x3 = u3 at a3 ⊢
    rw [heap_setCell_same u3 g 4 _ _ x4 a3]
    rfl
  · exact ((((hb.set_ (p := ⟨g, 0, none⟩) hg x0).set_ (p := ⟨g, 1, none⟩) hg x1).set_ (p := ⟨g, 2, none⟩) hg x2).set_ (p := ⟨g, 3, none⟩) hg x3).set_ (p := ⟨g, 4, none⟩) hg x4
theorem cells5 {w : World} {g : Nat} {t : TypeId} {x0 x1 x2 x3 x4 : Value} (h : w.heap[g]? = some (.cells #[x0, x1, x2, x3, x4] t (0, 0))) :
    (w.cell? ⟨g, 0, none⟩ = some x0 ∧ w.cell? ⟨g, 1, none⟩ = some x1 ∧ w.cell? ⟨g, 2, none⟩ = some x2 ∧ w.cell? ⟨g, 3, none⟩ = some x3 ∧ w.cell? ⟨g, 4, none⟩ = some x4) ∧ ∀ x, w.frozen? ⟨g, x, none⟩ = false := by
  simp [World.cell?, World.frozen?, h]
/-- A type by value, in memory of one's own. -/
def TyOut (w w' : World) (f : Fo) (e : Ending) : Prop := ∃ k n v c kids A cap, f = .cons k n v c kids .nil ∧ e = .returned (.agg #[.int .u8 k, .int .i64 n, .int .i64 v, .int .u8 c, .slice A kids.len cap]) ∧ KidsAt w' (fun j => w.heap.size ≤ j ∧ j < w'.heap.size) A kids.len cap kids
set_option maxRecDepth 100000 in
set_option maxHeartbeats 1000000 in
theorem copied_any (k n v c : Int) (A : Option Addr) (len cap : Nat) (kids : Fo) (w : World) (h : KidsAt w (Old w) A len cap kids) (hsz : kids.size ≤ 1400000) :
    Calls Tryd.prog 30 #[.agg #[.int .u8 k, .int .i64 n, .int .i64 v, .int .u8 c, .slice A len cap]] w fun e w' => TyOut w w' (.cons k n v c kids .nil) e ∧ Bel w w' := by
  have H := Lib.hid h
  clear h
  go_enter Tryd.func30, Tryd.ntmps30
  go_wp2_with fail
  obtain ⟨q1, q2⟩ := blk2 w (.cells #[.int .u8 k, .int .i64 n, .int .i64 v, .int .u8 c, .slice A len cap] 27) (.cells #[.int .u8 0, .int .i64 0, .int .i64 0, .int .u8 0, .slice none 0 0] 27)
  have hb2 : Bel w ((w.alloc (.cells #[.int .u8 k, .int .i64 n, .int .i64 v, .int .u8 c, .slice A len cap] 27)).alloc (.cells #[.int .u8 0, .int .i64 0, .int .i64 0, .int .u8 0, .slice none 0 0] 27)) := ((Bel.refl w).alloc _).alloc _
  have hs2 : ((w.alloc (.cells #[.int .u8 k, .int .i64 n, .int .i64 v, .int .u8 c, .slice A len cap] 27)).alloc (.cells #[.int .u8 0, .int .i64 0, .int .i64 0, .int .u8 0, .slice none 0 0] 27)).heap.size = w.heap.size + 2 := by simp
  obtain ⟨w2, hw2⟩ : ∃ w2, w2 = (w.alloc (.cells #[.int .u8 k, .int .i64 n, .int .i64 v, .int .u8 c, .slice A len cap] 27)).alloc (.cells #[.int .u8 0, .int .i64 0, .int .i64 0, .int .u8 0, .slice none 0 0] 27) := ⟨_, rfl⟩
  rw [← hw2] at q1 q2 hb2 hs2 ⊢
  have hk2 : KidsAt w2 (Old w) A len cap kids := H.out.keep fun _ hj => hb2.block _ hj
  refine (through_write (M := none) (copy_write (Old w)) (enters_of Tryd.func57 (by kernel_rfl) rfl) (fun _ _ e => by cases e) k n v c kids w.heap.size 0 w2 (fun _ => False) () (box_fo q1 hk2) (Fo.all_true _) ⟨by omega, by simp [Old], fun h => h⟩ (cells5 q1).2 ⟨fun j hj => Nat.lt_of_lt_of_le hj hb2.size, rfl⟩ (fun j hj => ⟨Nat.lt_of_lt_of_le hj hb2.size, fun h => h⟩) hsz).mono ?_
  rintro e w3 ⟨rfl, m3, ⟨_, rfl⟩, hfo, hfr⟩
  have e0 : (runW copyN noW (none : Option (Nat × Array Value)).isSome (.cons k n v c kids .nil) none ()).1 = .cons k n v c kids .nil := by
    have := copy_run (.cons k n v c kids .nil)
    exact congrArg (·.1) this
  rw [e0] at hfo
  obtain ⟨A3, cap3, c0, c1, c2, c3, c4, hcap3, hA3, _⟩ := hfo
  have hbx := (hfr.keep (w.heap.size + 1) (by omega) (fun h => h) (fun x e => by have := e.1; omega)).trans q2
  obtain ⟨⟨d0, d1, d2, d3, d4⟩, hfz⟩ := cells5 hbx
  have z0 := hfz 0
  have z1 := hfz 1
  have z2 := hfz 2
  have z3 := hfz 3
  have z4 := hfz 4
  have hb3 : Bel w w3 := ⟨hfr.os.trans hb2.os, hfr.tape.trans hb2.tape, hfr.output.trans hb2.output, Nat.le_trans hb2.size hfr.size, fun j hj => (hfr.keep j (by omega) (fun h => h) (fun x e => by have := e.1; omega)).trans (hb2.block j hj)⟩
  have HP := Lib.hid (put5 (x0 := .int .u8 k) (x1 := .int .i64 n) (x2 := .int .i64 v) (x3 := .int .u8 c) (x4 := .slice A3 kids.len cap3) hbx)
  have HB3 := Lib.hid hb3
  have HA3 := Lib.hid hA3
  have HS2 := Lib.hid hs2
  obtain ⟨l, hl⟩ : ∃ l, l = kids.len := ⟨_, rfl⟩
  have HL := Lib.hid hl
  rw [← hl] at c4 hcap3
  clear q1 q2 hb2 hs2 hw2 hk2 hfr e0 hbx hfz hb3 hA3 hl
  go_wp2_with fail
  obtain ⟨w9, hw9, h9, hbel9, ho9, hs9⟩ := HP.out
  rw [← HL.out] at hw9 h9
  rw [← hw9]
  obtain ⟨⟨k0, k1, k2, k3, k4⟩, _⟩ := cells5 h9
  refine bodyPost_ret (v := .agg #[.int .u8 k, .int .i64 n, .int .i64 v, .int .u8 c, .slice A3 l cap3]) (by simp [results, Tryd.results30, go_sem, k0, k1, k2, k3, k4]) rfl ?_
  refine ⟨⟨k, n, v, c, kids, A3, cap3, rfl, by rw [HL.out], rfl, by rw [← HL.out]; exact hcap3, fun h0 => ?_⟩, hbel9 w HB3.out (by omega)⟩
  obtain ⟨b', o', e, q1, q2⟩ := HA3.out h0
  have hw : ∀ j, (w2.heap.size ≤ j ∧ j < w3.heap.size ∧ ¬ False) → (w.heap.size ≤ j ∧ j < w9.heap.size) := fun j hj => ⟨by have := HS2.out; have := hj.1; omega, by rw [hs9]; exact hj.2.1⟩
  exact ⟨b', o', e, hw b' q1, FoAt.wide hw _ _ _ (FoAt.keep (fun j hj => ho9 j (by have := HS2.out; have := hj.1; omega)) kids b' o' q1 q2)⟩
end Go.Proofs.YtblgligagngpfaaDoor.Mu

