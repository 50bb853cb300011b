/-
  Going through a graph, deep first: what is come to, in which order; rings. Plain mathematics.
-/
import Derived.Below
namespace Go.Proofs.YtblgligagngpfaaDoor.Mu

/-- There is a way from the first to the second. -/
inductive Rch (adj : Nat → List Nat) : Nat → Nat → Prop
  | refl (v : Nat) : Rch adj v v
  | step {v w u : Nat} : w ∈ adj v → Rch adj w u → Rch adj v u
section
variable {adj : Nat → List Nat}
theorem Rch.trans {a b c : Nat} (h : Rch adj a b) (k : Rch adj b c) : Rch adj a c := by
  induction h with
  | refl => exact k
  | step h1 _ ih => exact .step h1 (ih k)
theorem Rch.one {a b : Nat} (h : b ∈ adj a) : Rch adj a b := .step h (.refl b)
theorem Rch.snoc {a b c : Nat} (h : Rch adj a b) (k : c ∈ adj b) : Rch adj a c := h.trans (.one k)
/-- On a way out of a set there is a first step out of it. -/
theorem Rch.leaves {S : Nat → Prop} {a b : Nat} (h : Rch adj a b) (ha : S a) (hb : ¬ S b) : ∃ u w, S u ∧ ¬ S w ∧ w ∈ adj u ∧ Rch adj a u ∧ Rch adj w b := by
  induction h with
  | refl => exact absurd ha hb
  | @step v w u h1 h2 ih =>
    by_cases hw : S w
    · obtain ⟨x, y, h3, h4, h5, h6, h7⟩ := ih hw hb
      exact ⟨x, y, h3, h4, h5, .step h1 h6, h7⟩
    · exact ⟨v, w, ha, hw, h1, .refl v, h2⟩
/-- The same at its end: a last step out of the set. -/
theorem Rch.last {S : Nat → Prop} {a b : Nat} (h : Rch adj a b) (ha : S a) (hb : ¬ S b) : ∃ u w, S u ∧ ¬ S w ∧ w ∈ adj u ∧ Rch adj a u ∧ Rch adj w b ∧ True := by
  obtain ⟨u, w, h1, h2, h3, h4, h5⟩ := h.leaves ha hb
  exact ⟨u, w, h1, h2, h3, h4, h5, trivial⟩

/-- From one another. -/
def Both (adj : Nat → List Nat) (a b : Nat) : Prop := Rch adj a b ∧ Rch adj b a
theorem Both.refl (a : Nat) : Both adj a a := ⟨.refl a, .refl a⟩
theorem Both.symm {a b : Nat} (h : Both adj a b) : Both adj b a := ⟨h.2, h.1⟩
theorem Both.trans {a b c : Nat} (h : Both adj a b) (k : Both adj b c) : Both adj a c := ⟨h.1.trans k.1, k.2.trans h.2⟩

/-- y stands ahead of z in the list, or is it. -/
def Upto (O : List Nat) (y z : Nat) : Prop := ∃ p q, O = p ++ z :: q ∧ (y ∈ p ∨ y = z)
theorem Upto.more {O : List Nat} {y z : Nat} (h : Upto O y z) (M : List Nat) : Upto (O ++ M) y z := by
  obtain ⟨p, q, rfl, h⟩ := h
  exact ⟨p, q ++ M, by simp, h⟩
theorem Upto.mem {O : List Nat} {y z : Nat} (h : Upto O y z) : y ∈ O ∧ z ∈ O := by
  obtain ⟨p, q, rfl, h⟩ := h
  refine ⟨?_, by simp⟩
  rcases h with h | rfl
  · exact List.mem_append_left _ h
  · simp
theorem Upto.end_ {O : List Nat} {y z : Nat} (h : y ∈ O ∨ y = z) : Upto (O ++ [z]) y z := ⟨O, [], rfl, h⟩

/-- Under way: wh: what is not come to yet; st: what stands on the way, the last one first, each with the arrows that are not tried yet; O: what is done, in order. -/
structure Deep (adj : Nat → List Nat) (v : Nat) (wh0 wh : Nat → Bool) (st : List (Nat × List Nat)) (B ys : List Nat) : Prop where
  nd : (st.map Prod.fst ++ ys).Nodup
  part : ∀ u, wh0 u = true ↔ (wh u = true ∨ u ∈ st.map Prod.fst ∨ u ∈ ys)
  dis : ∀ u, wh u = true → u ∉ st.map Prod.fst ∧ u ∉ ys
  from_ : ∀ u, u ∈ st.map Prod.fst ∨ u ∈ ys → Rch adj v u
  chain : ∀ pre a ra post, st = pre ++ (a, ra) :: post → ∀ x ∈ pre.map Prod.fst, Rch adj a x
  tried : ∀ a ra, (a, ra) ∈ st → ∃ tr, adj a = tr ++ ra ∧ ∀ t ∈ tr, wh t = false
  closed : ∀ x, x ∈ B ∨ x ∈ ys → ∀ t ∈ adj x, wh t = false
  dark : ∀ x, wh0 x = false → wh x = false
/-- What holds of the order: whatever is come to from u stands ahead of something that is with u in a ring, or such stands on the way. -/
def Order (adj : Nat → List Nat) (grey : Nat → Prop) (O : List Nat) : Prop := ∀ u ∈ O, ∀ y, Rch adj u y → (∃ z ∈ O, Both adj z u ∧ Upto O y z) ∨ ∃ g, grey g ∧ Both adj g u

def off (wh : Nat → Bool) (t : Nat) : Nat → Bool := fun u => if u = t then false else wh u
theorem off_false {wh : Nat → Bool} {t u : Nat} (h : wh u = false) : off wh t u = false := by unfold off; split <;> simp [h]
theorem off_true {wh : Nat → Bool} {t u : Nat} : off wh t u = true ↔ u ≠ t ∧ wh u = true := by unfold off; split <;> simp [*]

theorem deep_start_no {wh : Nat → Bool} {v : Nat} {B : List Nat} (_h : wh v = false) (hB : ∀ x ∈ B, ∀ t ∈ adj x, wh t = false) : Deep adj v wh wh [] B [] :=
  ⟨List.nodup_nil, fun u => by simp, fun u _ => by simp, fun u h => by simp at h, fun pre a ra post h => by simp at h, fun a ra h => by simp at h, fun x hx => hB x (by simpa using hx), fun _ h => h⟩
theorem deep_start {wh : Nat → Bool} {v : Nat} {B : List Nat} (h : wh v = true) (hB : ∀ x ∈ B, ∀ t ∈ adj x, wh t = false) : Deep adj v wh (off wh v) [(v, adj v)] B [] := by
  refine ⟨by simp, fun u => ?_, fun u hu => ?_, fun u hu => ?_, fun pre a ra post he x hx => ?_, fun a ra hm => ?_, fun x hx t ht => off_false (hB x (by simpa using hx) t ht), fun x hx => off_false hx⟩
  · rw [off_true]
    by_cases e : u = v
    · subst e; simp [h]
    · simp [e]
  · have := (off_true.1 hu).1
    simp [this]
  · simp at hu; subst hu; exact .refl u
  · rcases pre with _ | ⟨y, pre⟩
    · simp at hx
    · simp at he
  · simp at hm
    obtain ⟨rfl, rfl⟩ := hm
    exact ⟨[], rfl, by simp⟩
theorem deep_skip {v : Nat} {wh0 wh : Nat → Bool} {st : List (Nat × List Nat)} {B ys : List Nat} {a t : Nat} {ra : List Nat} (h : Deep adj v wh0 wh ((a, t :: ra) :: st) B ys) (ht : wh t = false) : Deep adj v wh0 wh ((a, ra) :: st) B ys := by
  refine ⟨h.nd, h.part, h.dis, h.from_, fun pre b rb post he x hx => ?_, fun b rb hm => ?_, h.closed, h.dark⟩
  · rcases pre with _ | ⟨y, pre⟩
    · simp at hx
    · simp only [List.cons_append, List.cons.injEq] at he
      obtain ⟨rfl, rfl⟩ := he
      exact h.chain ((a, t :: ra) :: pre) b rb post rfl x (by simpa using hx)
  · rcases List.mem_cons.1 hm with hm | hm
    · injection hm with e1 e2
      subst e1 e2
      obtain ⟨tr, h1, h2⟩ := h.tried b (t :: rb) (by simp)
      exact ⟨tr ++ [t], by rw [h1]; simp, fun u hu => by
        rcases List.mem_append.1 hu with hu | hu
        · exact h2 u hu
        · rw [List.mem_singleton.1 hu]; exact ht⟩
    · exact h.tried b rb (List.mem_cons_of_mem _ hm)
theorem deep_push {v : Nat} {wh0 wh : Nat → Bool} {st : List (Nat × List Nat)} {B ys : List Nat} {a t : Nat} {ra : List Nat} (h : Deep adj v wh0 wh ((a, t :: ra) :: st) B ys) (ht : wh t = true) : Deep adj v wh0 (off wh t) ((t, adj t) :: (a, ra) :: st) B ys := by
  have hta : t ∈ adj a := by
    obtain ⟨tr, h1, _⟩ := h.tried a (t :: ra) (by simp)
    rw [h1]; simp
  have hno := h.dis t ht
  have hrv : ∀ u, u ∈ ((a, t :: ra) :: st).map Prod.fst → Rch adj u t := fun u hu => by
    simp only [List.map_cons, List.mem_cons] at hu
    rcases hu with rfl | hu
    · exact .one hta
    · obtain ⟨⟨u', ru⟩, hm, rfl⟩ := List.mem_map.1 hu
      obtain ⟨p, q, rfl⟩ := List.append_of_mem hm
      exact (h.chain ((a, t :: ra) :: p) u' ru q rfl a (by simp)).snoc hta
  refine ⟨?_, fun u => ?_, fun u hu => ?_, fun u hu => ?_, fun pre b rb post he x hx => ?_, fun b rb hm => ?_, fun x hx w hw => off_false (h.closed x hx w hw), fun x hx => off_false (h.dark x hx)⟩
  · have := h.nd
    simp only [List.map_cons, List.cons_append] at this hno ⊢
    refine List.nodup_cons.2 ⟨?_, this⟩
    simp only [List.mem_cons, List.mem_append, not_or] at hno ⊢
    exact ⟨hno.1.1, hno.1.2, hno.2⟩
  · have := h.part u
    simp only [List.map_cons, List.mem_cons] at this ⊢
    rw [off_true, this]
    by_cases e : u = t
    · subst e; simp [ht]
    · simp [e]
  · obtain ⟨hne, hw⟩ := off_true.1 hu
    have := h.dis u hw
    simp only [List.map_cons, List.mem_cons, not_or] at this ⊢
    exact ⟨⟨hne, this.1⟩, this.2⟩
  · simp only [List.map_cons, List.mem_cons] at hu
    rcases hu with (rfl | hu) | hu
    · exact (h.from_ a (by simp)).snoc hta
    · exact h.from_ u (.inl (by simpa using hu))
    · exact h.from_ u (.inr hu)
  · rcases pre with _ | ⟨y, pre⟩
    · simp at hx
    · simp only [List.cons_append, List.cons.injEq] at he
      obtain ⟨rfl, he⟩ := he
      have hb : b ∈ ((a, t :: ra) :: st).map Prod.fst := by
        have : (b, rb) ∈ (a, ra) :: st := by rw [he]; simp
        rcases List.mem_cons.1 this with e | e
        · injection e with e _; subst e; simp
        · simp only [List.map_cons, List.mem_cons]; exact .inr (List.mem_map.2 ⟨_, e, rfl⟩)
      simp only [List.map_cons, List.mem_cons] at hx
      rcases hx with rfl | hx
      · exact hrv b hb
      · rcases pre with _ | ⟨z, pre⟩
        · simp at hx
        · simp only [List.cons_append, List.cons.injEq] at he
          obtain ⟨rfl, rfl⟩ := he
          exact h.chain ((a, t :: ra) :: pre) b rb post rfl x (by simpa using hx)
  · rcases List.mem_cons.1 hm with hm | hm
    · injection hm with e1 e2
      subst e1 e2
      exact ⟨[], rfl, by simp⟩
    · rcases List.mem_cons.1 hm with hm | hm
      · injection hm with e1 e2
        subst e1 e2
        obtain ⟨tr, h1, h2⟩ := h.tried b (t :: rb) (by simp)
        exact ⟨tr ++ [t], by rw [h1]; simp, fun u hu => by
          rcases List.mem_append.1 hu with hu | hu
          · exact off_false (h2 u hu)
          · rw [List.mem_singleton.1 hu]; unfold off; simp⟩
      · obtain ⟨tr, h1, h2⟩ := h.tried b rb (List.mem_cons_of_mem _ hm)
        exact ⟨tr, h1, fun u hu => off_false (h2 u hu)⟩
theorem deep_pop {v : Nat} {wh0 wh : Nat → Bool} {st : List (Nat × List Nat)} {B ys : List Nat} {a : Nat} (h : Deep adj v wh0 wh ((a, []) :: st) B ys) : Deep adj v wh0 wh st B (ys ++ [a]) := by
  refine ⟨?_, fun u => ?_, fun u hu => ?_, fun u hu => ?_, fun pre b rb post he x hx => ?_, fun b rb hm => h.tried b rb (List.mem_cons_of_mem _ hm), fun x hx t ht => ?_, h.dark⟩
  · have := h.nd
    simp only [List.map_cons, List.cons_append] at this
    rw [List.nodup_cons] at this
    rw [← List.append_assoc]
    refine List.nodup_append.2 ⟨this.2, by simp, fun x hx y hy e => ?_⟩
    rw [List.mem_singleton.1 hy] at e
    subst e
    exact this.1 hx
  · rw [h.part u]
    simp only [List.map_cons, List.mem_cons, List.mem_append, List.not_mem_nil, or_false]
    constructor
    · rintro (h | (h | h) | h)
      · exact .inl h
      · exact .inr (.inr (.inr h))
      · exact .inr (.inl h)
      · exact .inr (.inr (.inl h))
    · rintro (h | h | h | h)
      · exact .inl h
      · exact .inr (.inl (.inr h))
      · exact .inr (.inr h)
      · exact .inr (.inl (.inl h))
  · have := h.dis u hu
    simp only [List.map_cons, List.mem_cons, not_or] at this
    simp only [List.mem_append, List.mem_singleton, not_or]
    exact ⟨this.1.2, this.2, this.1.1⟩
  · rcases hu with hu | hu
    · exact h.from_ u (.inl (by simp [hu]))
    · rcases List.mem_append.1 hu with hu | hu
      · exact h.from_ u (.inr hu)
      · rw [List.mem_singleton.1 hu]; exact h.from_ a (by simp)
  · subst he
    exact h.chain ((a, []) :: pre) b rb post rfl x (by simp [hx])
  · rcases hx with hx | hx
    · exact h.closed x (.inl hx) t ht
    · rcases List.mem_append.1 hx with hx | hx
      · exact h.closed x (.inr hx) t ht
      · rw [List.mem_singleton.1 hx] at ht
        obtain ⟨tr, h1, h2⟩ := h.tried a [] (by simp)
        rw [h1, List.append_nil] at ht
        exact h2 t ht
/-- What is done, is so in the right order. All that is come to lies in dom. -/
theorem order_pop {v : Nat} {wh0 wh : Nat → Bool} {st : List (Nat × List Nat)} {B ys : List Nat} {a : Nat} (h : Deep adj v wh0 wh ((a, []) :: st) B ys) (dom : ∀ x, x ∈ B ∨ x ∈ ys ∨ x = a → ∀ t ∈ adj x, wh t = false → t ∈ B ∨ t ∈ ys ∨ t = a ∨ t ∈ st.map Prod.fst)
    (ho : Order adj (fun g => g ∈ ((a, ([] : List Nat)) :: st).map Prod.fst) (B ++ ys)) : Order adj (fun g => g ∈ st.map Prod.fst) (B ++ (ys ++ [a])) := by
  rw [← List.append_assoc]
  have h2 := deep_pop h
  have key : ∀ y, Rch adj a y → Upto (B ++ ys ++ [a]) y a ∨ ∃ g, g ∈ st.map Prod.fst ∧ Both adj g a := fun y hy => by
    by_cases hin : y ∈ B ++ ys ++ [a]
    · left
      refine Upto.end_ ?_
      rcases List.mem_append.1 hin with h | h
      · exact .inl h
      · exact .inr (List.mem_singleton.1 h)
    · right
      obtain ⟨u, w, h3, h4, h5, h6, _⟩ := hy.leaves (S := fun x => x ∈ B ++ ys ++ [a]) (by simp) hin
      have hu : u ∈ B ∨ u ∈ ys ∨ u = a := by simpa [or_assoc] using h3
      have hw := h2.closed u (by
        rcases hu with hu | hu | hu
        · exact .inl hu
        · exact .inr (List.mem_append_left _ hu)
        · exact .inr (by rw [hu]; simp)) w h5
      have := dom u hu w h5 hw
      have hg : w ∈ st.map Prod.fst := by
        rcases this with e | e | e | e
        · exact absurd (by simp [e]) h4
        · exact absurd (by simp [e]) h4
        · exact absurd (by simp [e]) h4
        · exact e
      refine ⟨w, hg, ?_, h6.snoc h5⟩
      obtain ⟨⟨w', rw_⟩, hm, rfl⟩ := List.mem_map.1 hg
      obtain ⟨p, q, rfl⟩ := List.append_of_mem hm
      exact h.chain ((a, []) :: p) w' rw_ q rfl a (by simp)
  intro u hu y hy
  rcases List.mem_append.1 hu with hu | hu
  · rcases ho u hu y hy with ⟨z, h3, h4, h5⟩ | ⟨g, h3, h4⟩
    · exact .inl ⟨z, List.mem_append_left _ h3, h4, h5.more _⟩
    · simp only [List.map_cons, List.mem_cons] at h3
      rcases h3 with rfl | h3
      · rcases key y (h4.1.trans hy) with h5 | ⟨g', h5, h6⟩
        · exact .inl ⟨g, by simp, h4, h5⟩
        · exact .inr ⟨g', h5, h6.trans h4⟩
      · exact .inr ⟨g, h3, h4⟩
  · rw [List.mem_singleton.1 hu] at hy ⊢
    rcases key y hy with h5 | h5
    · exact .inl ⟨a, by simp, Both.refl a, h5⟩
    · exact .inr h5
theorem Order.grey {g g' : Nat → Prop} {O : List Nat} (h : Order adj g O) (hg : ∀ x, g x → g' x) : Order adj g' O := fun u hu y hy => (h u hu y hy).imp id (fun ⟨x, h1, h2⟩ => ⟨x, hg x h1, h2⟩)

/-- What is gone over. -/
structure Over (adj : Nat → List Nat) (v : Nat) (wh0 wh : Nat → Bool) (ys : List Nat) : Prop where
  nd : ys.Nodup
  part : ∀ u, wh0 u = true ↔ (wh u = true ∨ u ∈ ys)
  dis : ∀ u, wh u = true → u ∉ ys
  from_ : ∀ u ∈ ys, Rch adj v u
  closed : ∀ x ∈ ys, ∀ t ∈ adj x, wh t = false
  root : wh v = false
theorem deep_over {v : Nat} {wh0 wh : Nat → Bool} {B ys : List Nat} (h : Deep adj v wh0 wh [] B ys) (hr : wh v = false) : Over adj v wh0 wh ys :=
  ⟨by simpa using h.nd, fun u => by simpa using h.part u, fun u hu => (h.dis u hu).2, fun u hu => h.from_ u (.inr hu), fun x hx => h.closed x (.inr hx), hr⟩

/-! ### Rings -/
/-- What is parted into rings so far, in the order in which they were made; wh: what is not parted yet. -/
structure Parted (adj : Nat → List Nat) (O : List Nat) (wh : Nat → Bool) (L : List (List Nat)) : Prop where
  both : ∀ r ∈ L, ∀ a ∈ r, ∀ b ∈ r, Both adj a b
  ne : ∀ r ∈ L, r ≠ []
  mem : ∀ u, u ∈ L.flatten ↔ u ∈ O ∧ wh u = false
  inO : ∀ u, wh u = true → u ∈ O
  nd : L.flatten.Nodup
  pred : ∀ pre post, L = pre ++ post → ∀ w ∈ pre.flatten, ∀ u ∈ O, w ∈ adj u → u ∈ pre.flatten
theorem parted_start {O : List Nat} {wh : Nat → Bool} (h : ∀ u, wh u = true ↔ u ∈ O) : Parted adj O wh [] :=
  ⟨by simp, by simp, fun u => by
    simp only [List.flatten_nil, List.not_mem_nil, false_iff, not_and]
    intro hu
    simp [(h u).2 hu], fun u => (h u).1, by simp, fun pre post he w hw => by
    have : pre = [] := by
      rcases pre with _ | ⟨a, b⟩
      · rfl
      · simp at he
    subst this
    simp at hw⟩
/-- Whatever leads to what is parted is parted. -/
theorem parted_back {O : List Nat} {wh : Nat → Bool} {L : List (List Nat)} (h : Parted adj O wh L) (hO : ∀ x ∈ O, ∀ t ∈ adj x, t ∈ O) {u z : Nat} (hr : Rch adj u z) (hu : u ∈ O) (hz : wh z = false) : wh u = false := by
  induction hr with
  | refl => exact hz
  | @step v w x h1 _ ih =>
    have hw := ih (hO v hu w h1) hz
    have hwL : w ∈ L.flatten := (h.mem w).2 ⟨hO v hu w h1, hw⟩
    exact ((h.mem v).1 (h.pred L [] (by simp) w hwL v hu h1)).2
theorem parted_ring {O : List Nat} {wh wh' : Nat → Bool} {L : List (List Nat)} {adjB : Nat → List Nat} {v : Nat} {p q ys : List Nat} (h : Parted adj O wh L) (hO : ∀ x ∈ O, ∀ t ∈ adj x, t ∈ O) (hnd : O.Nodup) (hord : Order adj (fun _ => False) O)
    (hB : ∀ u w, w ∈ adjB u ↔ u ∈ adj w) (he : O = p ++ v :: q) (hq : ∀ u ∈ q, wh u = false) (hov : Over adjB v wh wh' ys) (hwv : wh v = true) : Parted adj O wh' (L ++ [ys]) := by
  have back : ∀ {a b : Nat}, Rch adjB a b → Rch adj b a := by
    intro a b hr
    induction hr with
    | refl => exact .refl _
    | step h1 _ ih => exact ih.snoc ((hB _ _).1 h1)
  have hvO : v ∈ O := by rw [he]; simp
  have hwh : ∀ u, u ∈ ys → wh u = true := fun u hu => (hov.part u).2 (.inr hu)
  have toV : ∀ u ∈ ys, Both adj u v := fun u hu => by
    have huv : Rch adj u v := back (hov.from_ u hu)
    have huO := h.inO u (hwh u hu)
    rcases hord u huO v huv with ⟨z, hz, hzu, hup⟩ | ⟨_, hf, _⟩
    · have hzw : wh z = true := by
        cases hz' : wh z
        · have := parted_back h hO hzu.2 huO hz'
          rw [hwh u hu] at this; cases this
        · rfl
      obtain ⟨p', q', he', hvp⟩ := hup
      rcases hvp with hvp | rfl
      · -- z stands behind v
        exfalso
        obtain ⟨a, b, rfl⟩ := List.append_of_mem hvp
        have e2 : p ++ v :: q = a ++ v :: (b ++ z :: q') := by rw [← he, he']; simp
        have hnd2 := hnd
        rw [he] at hnd2
        have : q = b ++ z :: q' := by
          have hva : v ∉ p := by
            rw [List.nodup_append] at hnd2
            exact fun hm => hnd2.2.2 v hm v (by simp) rfl
          have hva2 : v ∉ a := by
            rw [e2, List.nodup_append] at hnd2
            exact fun hm => hnd2.2.2 v hm v (by simp) rfl
          rcases List.append_eq_append_iff.1 e2 with ⟨c, h1, h2⟩ | ⟨c, h1, h2⟩
          · rcases c with _ | ⟨x, c⟩
            · simpa using h2
            · simp only [List.cons_append, List.cons.injEq] at h2
              exact absurd (by rw [h1, ← h2.1]; simp) hva2
          · rcases c with _ | ⟨x, c⟩
            · simp at h2; exact h2.symm
            · simp only [List.cons_append, List.cons.injEq] at h2
              exact absurd (by rw [h1, ← h2.1]; simp) hva
        have := hq z (by rw [this]; simp)
        rw [hzw] at this; cases this
      · exact hzu.symm
    · exact hf.elim
  have hvys : v ∈ ys := by
    rcases (hov.part v).1 hwv with e | e
    · rw [hov.root] at e; cases e
    · exact e
  refine ⟨fun r hr a ha b hb => ?_, fun r hr => ?_, fun u => ?_, fun u hu => h.inO u ((hov.part u).2 (.inl hu)), ?_, fun pre post hpp w hw u huO hwu => ?_⟩
  · rcases List.mem_append.1 hr with hr | hr
    · exact h.both r hr a ha b hb
    · rw [List.mem_singleton.1 hr] at ha hb
      exact (toV a ha).trans (toV b hb).symm
  · rcases List.mem_append.1 hr with hr | hr
    · exact h.ne r hr
    · rw [List.mem_singleton.1 hr]; exact List.ne_nil_of_mem hvys
  · rw [List.flatten_append, List.mem_append, h.mem u]
    simp only [List.flatten_cons, List.flatten_nil, List.append_nil]
    constructor
    · rintro (⟨h1, h2⟩ | h1)
      · refine ⟨h1, ?_⟩
        cases hw : wh' u
        · rfl
        · have := (hov.part u).2 (.inl hw)
          rw [h2] at this; cases this
      · refine ⟨h.inO u (hwh u h1), ?_⟩
        cases hw : wh' u
        · rfl
        · exact absurd h1 (hov.dis u hw)
    · rintro ⟨h1, h2⟩
      cases hw : wh u
      · exact .inl ⟨h1, rfl⟩
      · rcases (hov.part u).1 hw with e | e
        · rw [h2] at e; cases e
        · exact .inr e
  · rw [List.flatten_append]
    refine List.nodup_append.2 ⟨h.nd, by simpa using hov.nd, fun x hx y hy e => ?_⟩
    subst e
    have h1 := ((h.mem x).1 hx).2
    rw [hwh x (by simpa using hy)] at h1
    cases h1
  · rcases List.eq_nil_or_concat post with rfl | ⟨post', z, rfl⟩
    · rw [List.append_nil] at hpp
      subst hpp
      rw [List.flatten_append, List.mem_append] at hw ⊢
      simp only [List.flatten_cons, List.flatten_nil, List.append_nil] at hw ⊢
      rcases hw with hw | hw
      · exact .inl (h.pred L [] (by simp) w hw u huO hwu)
      · have hc := hov.closed w hw u ((hB w u).2 hwu)
        cases hwu' : wh u
        · exact .inl ((h.mem u).2 ⟨huO, hwu'⟩)
        · rcases (hov.part u).1 hwu' with e | e
          · rw [hc] at e; cases e
          · exact .inr e
    · have e3 : L = pre ++ post' := by
        rw [List.concat_eq_append, ← List.append_assoc] at hpp
        exact (List.append_inj' hpp (by simp)).1
      exact h.pred pre post' e3 w hw u huO hwu

/-! ### What is reached, ring by ring -/
/-- What is come to from v. -/
def Full (adj : Nat → List Nat) (G0 : Nat → Nat → Prop) (v j : Nat) : Prop := ∃ u, Rch adj v u ∧ G0 u j
/-- The rings in post are gone through. -/
def Gots (adj : Nat → List Nat) (O : List Nat) (G0 : Nat → Nat → Prop) (post : List (List Nat)) (got : Nat → Nat → Prop) : Prop :=
  ∀ v ∈ O, (v ∈ post.flatten → ∀ j, got v j ↔ Full adj G0 v j) ∧ (v ∉ post.flatten → ∀ j, got v j ↔ G0 v j)
theorem gots_start {O : List Nat} {G0 : Nat → Nat → Prop} : Gots adj O G0 [] G0 := fun v _ => ⟨fun h => by simp at h, fun _ _ => Iff.rfl⟩
theorem gots_ring {O : List Nat} {wh : Nat → Bool} {L : List (List Nat)} {G0 got got' : Nat → Nat → Prop} {pre post : List (List Nat)} {r : List Nat} (h : Parted adj O wh L) (hO : ∀ x ∈ O, ∀ t ∈ adj x, t ∈ O) (hall : ∀ u ∈ O, wh u = false) (he : L = pre ++ r :: post)
    (hg : Gots adj O G0 post got) (hn : ∀ v, v ∉ r → ∀ j, got' v j ↔ got v j) (hs : ∀ v ∈ r, ∀ j, got' v j ↔ ∃ u ∈ r, got u j ∨ ∃ w ∈ adj u, got w j) : Gots adj O G0 (r :: post) got' := by
  have hrL : r ∈ L := by rw [he]; simp
  have hnd := h.nd
  rw [he, List.flatten_append, List.flatten_cons, List.nodup_append] at hnd
  have hrp : ∀ u ∈ r, u ∉ post.flatten := fun u hu hp => (List.nodup_append.1 hnd.2.1).2.2 u hu u hp rfl
  have hrO : ∀ u ∈ r, u ∈ O := fun u hu => ((h.mem u).1 (List.mem_flatten.2 ⟨r, hrL, hu⟩)).1
  -- an arrow from the ring leads into it, or into post
  have hto : ∀ u, u ∈ r ∨ u ∈ post.flatten → ∀ w ∈ adj u, u ∈ O → w ∈ r ∨ w ∈ post.flatten := fun u hu w hw huO => by
    have hwO := hO u huO w hw
    have hwL : w ∈ L.flatten := (h.mem w).2 ⟨hwO, hall w hwO⟩
    rw [he, List.flatten_append, List.flatten_cons, List.mem_append, List.mem_append] at hwL
    rcases hwL with hwL | hwL | hwL
    · have := h.pred pre (r :: post) he w hwL u huO hw
      rcases hu with hu | hu
      · exact absurd rfl (hnd.2.2 u this u (List.mem_append_left _ hu))
      · exact absurd rfl (hnd.2.2 u this u (List.mem_append_right _ hu))
    · exact .inl hwL
    · exact .inr hwL
  have hring : ∀ v ∈ r, ∀ j, (∃ u ∈ r, got u j ∨ ∃ w ∈ adj u, got w j) ↔ Full adj G0 v j := fun v hv j => by
    constructor
    · rintro ⟨u, hu, hgu | ⟨w, hw, hgw⟩⟩
      · exact ⟨u, (h.both r hrL v hv u hu).1, ((hg u (hrO u hu)).2 (hrp u hu) j).1 hgu⟩
      · have hwO := hO u (hrO u hu) w hw
        have hvw := (h.both r hrL v hv u hu).1.snoc hw
        rcases hto u (.inl hu) w hw (hrO u hu) with hwr | hwp
        · exact ⟨w, hvw, ((hg w hwO).2 (hrp w hwr) j).1 hgw⟩
        · obtain ⟨x, hx1, hx2⟩ := ((hg w hwO).1 hwp j).1 hgw
          exact ⟨x, hvw.trans hx1, hx2⟩
    · rintro ⟨x, hx1, hx2⟩
      by_cases hxr : x ∈ r
      · exact ⟨x, hxr, .inl (((hg x (hrO x hxr)).2 (hrp x hxr) j).2 hx2)⟩
      · obtain ⟨u, w, h1, h2, h3, _, h5⟩ := hx1.leaves (S := fun y => y ∈ r) hv hxr
        refine ⟨u, h1, .inr ⟨w, h3, ?_⟩⟩
        rcases hto u (.inl h1) w h3 (hrO u h1) with e | e
        · exact absurd e h2
        · exact ((hg w (hO u (hrO u h1) w h3)).1 e j).2 ⟨x, h5, hx2⟩
  intro v hv
  rw [List.flatten_cons]
  constructor
  · intro hm j
    by_cases hvr : v ∈ r
    · rw [hs v hvr j]; exact hring v hvr j
    · rw [hn v hvr j]
      exact (hg v hv).1 ((List.mem_append.1 hm).resolve_left hvr) j
  · intro hm j
    rw [List.mem_append, not_or] at hm
    rw [hn v hm.1 j]
    exact (hg v hv).2 hm.2 j
end
end Go.Proofs.YtblgligagngpfaaDoor.Mu

