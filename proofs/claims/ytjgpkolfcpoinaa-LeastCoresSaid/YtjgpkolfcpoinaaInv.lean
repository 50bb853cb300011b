/-
  A region that draws its order and makes memory: gone through by what is known of each operation's value, whatever order is picked; each operation's step is shown once. What stands from n on comes in a forced order and is walked as a list. Over whatever program.
-/
import Derived.Test.YtjgpkolfcpoinaaTail
import Derived.Test.YtjgpkolfcpoinaaMem
namespace Go.Proofs.Ytjgpkolfcpoinaa.Mu
open Go

/-- How many of the first n are not listed yet. -/
def cnt : Nat → Array Bool → Nat
  | 0, _ => 0
  | n + 1, l => cnt n l + if l.getD n true then 0 else 1
theorem cnt_same {n i : Nat} {l : Array Bool} (h : n ≤ i) : cnt n (l.setIfInBounds i true) = cnt n l := by
  induction n with
  | zero => rfl
  | succ n ih => simp only [cnt]; rw [ih (by omega), getD_set_ne true (by omega)]
theorem cnt_set {n i : Nat} {l : Array Bool} (h : i < n) (hs : i < l.size) (hu : l.getD i true = false) : cnt n (l.setIfInBounds i true) + 1 = cnt n l := by
  induction n with
  | zero => omega
  | succ n ih =>
    simp only [cnt]
    by_cases e : i = n
    · subst e
      rw [cnt_same (Nat.le_refl _), hu]
      simp [hs]
    · have := ih (by omega)
      rw [getD_set_ne true e]
      omega
theorem cnt_zero {n : Nat} {l : Array Bool} (h : cnt n l = 0) : ∀ i, i < n → l.getD i true = true := by
  induction n with
  | zero => intro i hi; omega
  | succ n ih =>
    simp only [cnt] at h
    intro i hi
    by_cases e : i = n
    · subst e
      by_cases hb : l.getD i true = true
      · exact hb
      · rw [if_neg hb] at h; omega
    · exact ih (by omega) i (by omega)
theorem cnt_pos {n : Nat} {l : Array Bool} (h : 0 < cnt n l) : ∃ i, i < n ∧ l.getD i true = false := by
  induction n with
  | zero => simp [cnt] at h
  | succ n ih =>
    simp only [cnt] at h
    by_cases hb : l.getD n true = true
    · rw [if_pos hb] at h
      obtain ⟨i, hi, hu⟩ := ih (by omega)
      exact ⟨i, by omega, hu⟩
    · exact ⟨n, by omega, by simpa using hb⟩
theorem cnt_le (n : Nat) (l : Array Bool) : cnt n l ≤ n := by
  induction n with
  | zero => simp [cnt]
  | succ n ih => simp only [cnt]; split <;> omega
theorem cnt_new {n m : Nat} (h : n ≤ m) : cnt n (Array.replicate m false) = n := by
  induction n with
  | zero => rfl
  | succ n ih => simp only [cnt]; rw [ih (by omega), getD_in (by simp; omega) (getD_replicate_false _ _)]; simp

/-- Each of the first n waits for none but such as stand ahead of it. -/
def fwdB (ops : Array Oper) (n : Nat) : Bool := (List.range n).all fun i => ((ops[i]?).map fun o => o.after.all fun e => !Region.binds .any e || decide (e.on < i)).getD false
theorem fwd_ready {ops : Array Oper} {n i : Nat} {listed : Array Bool} (h : fwdB ops n = true) (hi : i < n) (hu : listed.getD i true = false) (hl : ∀ j, j < i → listed.getD j true = true) (hsz : n ≤ listed.size) : i ∈ Region.ready .any ops listed := by
  have h1 := List.all_eq_true.1 h i (List.mem_range.2 hi)
  cases ho : ops[i]? with
  | none => rw [ho] at h1; cases h1
  | some o =>
    rw [ho] at h1
    simp only [Option.map_some, Option.getD_some] at h1
    refine mem_ready.2 ⟨hu, o, ho, fun e he hb => ?_⟩
    have h2 := Array.all_eq_true'.1 h1 e he
    rw [hb] at h2
    simp only [Bool.not_true, Bool.false_or, decide_eq_true_eq] at h2
    have h3 := hl e.on h2
    have h4 : e.on < listed.size := by omega
    simp [h4] at h3 ⊢; exact h3

section
variable {P : Program} {Q : Exit → Act → World → Prop}

theorem wpAny_invT {l : List Oper} {n : Nat} (I : Array Bool → Act → World → Prop) (hB : tailB .any l.toArray n = true) (hf : fwdB l.toArray n = true) (hq : Region.seqB .any l.toArray (l.length - n) n (Array.replicate n true ++ Array.replicate (l.length - n) false) = true)
    (hstep : ∀ listed a w i, HeadInv .any l.toArray n listed → I listed a w → i < n → listed.getD i true = false → i ∈ Region.ready .any l.toArray listed → wpOp P l.toArray Q i (I (listed.setIfInBounds i true)) a w)
    (hend : ∀ listed a w, I listed a w → (∀ i, i < n → listed.getD i false = true) → wpList P l.toArray Q (l.drop n) a w) :
    ∀ (c : Nat) (listed : Array Bool) (a : Act) (w : World), cnt n listed = c → HeadInv .any l.toArray n listed → I listed a w → wpAny P .any l.toArray Q (c + (l.length - n)) listed a w := by
  simp only [tailB, Bool.and_eq_true, decide_eq_true_eq] at hB
  obtain ⟨⟨⟨_, hn⟩, hs⟩, hc⟩ := hB
  have hn' : n < l.length := by simpa using hn
  intro c
  induction c with
  | zero =>
    intro listed a w hc0 inv hI
    have hall := cnt_zero hc0
    have hsz : listed.size = l.length := by simpa using inv.size
    have e : listed = Array.replicate n true ++ Array.replicate (l.length - n) false := by
      apply Array.ext
      · simp [hsz]; omega
      · intro i h1 h2
        by_cases hi : i < n
        · have := hall i hi
          rw [Array.getElem_append_left (by simpa using hi)]
          simpa [h1] using this
        · have := inv.tail i (by omega) (by simpa [hsz] using h1)
          rw [Array.getElem_append_right (by simp; omega)]
          simpa [h1] using this
    have hdl : (l.drop n).length = l.length - n := by simp
    have h := wpAny_of_seq (md := .any) (Q' := Q) (l.drop n) n listed a w (fun j => by simp [List.getElem?_drop]) (by rw [hdl, e]; exact hq) (hend listed a w hI fun i hi => by
      have h1 := hall i hi
      have h2 : i < listed.size := by omega
      simp [h2] at h1 ⊢; exact h1)
    rw [hdl] at h
    rw [Nat.zero_add]; exact h
  | succ c ih =>
    intro listed a w hcc inv hI
    obtain ⟨i0, hi0, hu0⟩ := cnt_pos (show 0 < cnt n listed by omega)
    have hnot := tail_waits hs hc hn inv _ i0 rfl hi0 hu0
    rw [show c + 1 + (l.length - n) = (c + (l.length - n)) + 1 by omega]
    refine ⟨fun hr => ?_, fun i hi => ?_⟩
    · -- the first that is not listed is ready
      exfalso
      have hmin : ∃ i, i < n ∧ listed.getD i true = false ∧ ∀ j, j < i → listed.getD j true = true := by
        have key : ∀ m, (∃ i, i < m ∧ listed.getD i true = false) → ∃ i, i < m ∧ listed.getD i true = false ∧ ∀ j, j < i → listed.getD j true = true := by
          intro m
          induction m with
          | zero => rintro ⟨i, hi, _⟩; omega
          | succ m ihm =>
            rintro ⟨i, hi, hu⟩
            by_cases hex : ∃ i, i < m ∧ listed.getD i true = false
            · obtain ⟨i, hi, h⟩ := ihm hex
              exact ⟨i, by omega, h⟩
            · obtain rfl : i = m := by
                by_cases e : i = m
                · exact e
                · exact absurd ⟨i, by omega, hu⟩ hex
              refine ⟨i, hi, hu, fun j hj => ?_⟩
              by_cases hb : listed.getD j true = true
              · exact hb
              · exact absurd ⟨j, hj, by simpa using hb⟩ hex
        exact key n ⟨i0, hi0, hu0⟩
      obtain ⟨i, hi, hu, hless⟩ := hmin
      have h := fwd_ready hf hi hu hless (by have := inv.size; simp at this; omega)
      rw [hr] at h; cases h
    · have hin : i < n := by
        rcases Nat.lt_or_ge i n with h | h
        · exact h
        · exact absurd hi (hnot i h)
      have hun := (mem_ready.1 hi).1
      have hsz : i < listed.size := by have := inv.size; simp at this; omega
      refine wpOp_mono (fun a' w' h' => ih _ a' w' ?_ (inv.set hi hin) h') (hstep listed a w i inv hI hin hun hi)
      have := cnt_set hin hsz hun
      omega

/-- Which operation writes this slot. -/
def slotAt (ops : Array Oper) (s : Nat) : Option Nat := (List.range ops.size).find? fun i => ((ops[i]?).bind (·.dst)) == some s
/-- Each operation writes a slot of its own. -/
def slotsB (ops : Array Oper) (size : Nat) : Bool := (List.range ops.size).all fun i => match (ops[i]?).bind (·.dst) with
  | some d => (slotAt ops d == some i) && decide (d < size)
  | none => true
theorem slots_spec {ops : Array Oper} {size i d : Nat} (h : slotsB ops size = true) (hd : (ops[i]?).bind (·.dst) = some d) : slotAt ops d = some i ∧ d < size := by
  have hi : i < ops.size := by
    rcases Nat.lt_or_ge i ops.size with h' | h'
    · exact h'
    · rw [Array.getElem?_eq_none h'] at hd; cases hd
  have := List.all_eq_true.1 h i (List.mem_range.2 hi)
  rw [hd] at this
  simpa using this

def Filled (ops : Array Oper) (listed : Array Bool) (V : Nat → Value) (a0 a : Act) : Prop :=
  a.defers = a0.defers ∧ a.tmps.size = a0.tmps.size ∧ ∀ s, s < a0.tmps.size → a.tmps.getD s undef = match slotAt ops s with
    | some i => if listed.getD i false then V i else a0.tmps.getD s undef
    | none => a0.tmps.getD s undef
theorem Filled.eval {ops : Array Oper} {listed : Array Bool} {V : Nat → Value} {a0 a : Act} (h : Filled ops listed V a0 a) (hB : slotsB ops a0.tmps.size = true) {i d : Nat} (hi : listed.getD i false = true) (hd : (ops[i]?).bind (·.dst) = some d) : a.eval (.tmp d) = V i := by
  obtain ⟨h1, h2⟩ := slots_spec hB hd
  show a.tmps.getD d undef = V i
  rw [h.2.2 d h2, h1]
  simp only [hi, if_true]
theorem Filled.par {ops : Array Oper} {listed : Array Bool} {V : Nat → Value} {a0 a : Act} (h : Filled ops listed V a0 a) {s : Nat} (hs : slotAt ops s = none) (hlt : s < a0.tmps.size) : a.eval (.tmp s) = a0.eval (.tmp s) := by
  show a.tmps.getD s undef = a0.tmps.getD s undef
  rw [h.2.2 s hlt, hs]
theorem Filled.put {ops : Array Oper} {listed : Array Bool} {V : Nat → Value} {a0 a : Act} {i : Nat} {o : Oper} (h : Filled ops listed V a0 a) (hB : slotsB ops a0.tmps.size = true) (ho : ops[i]? = some o) (hsz : i < listed.size) (v : Value) :
    Filled ops (listed.setIfInBounds i true) (fun j => if j = i then v else V j) a0 (a.put o.dst v) := by
  have hset : ∀ j, (listed.setIfInBounds i true).getD j false = if j = i then true else listed.getD j false := fun j => by
    by_cases e : j = i
    · subst e; simp [hsz]
    · rw [getD_set_ne false (fun e' => e e'.symm), if_neg e]
  cases hd : o.dst with
  | none =>
    refine ⟨h.1, h.2.1, fun s hs => ?_⟩
    show a.tmps.getD s undef = _
    rw [h.2.2 s hs]
    cases hk : slotAt ops s with
    | none => rfl
    | some k =>
      have hne : k ≠ i := by
        rintro rfl
        have := List.find?_some hk
        simp [ho, hd] at this
      simp only [hset, if_neg hne]
  | some d =>
    obtain ⟨h1, h2⟩ := slots_spec hB (show (ops[i]?).bind (·.dst) = some d by rw [ho]; exact hd)
    refine ⟨h.1, by show (a.tmps.setIfInBounds d v).size = _; rw [Array.size_setIfInBounds]; exact h.2.1, fun s hs => ?_⟩
    show (a.tmps.setIfInBounds d v).getD s undef = _
    by_cases e : s = d
    · subst e
      rw [h1]
      have : s < a.tmps.size := by rw [h.2.1]; exact hs
      simp [hset, this]
    · rw [Array.getD_eq_getD_getElem?, Array.getElem?_setIfInBounds_ne (fun e' => e e'.symm), ← Array.getD_eq_getD_getElem?, h.2.2 s hs]
      cases hk : slotAt ops s with
      | none => rfl
      | some k =>
        have hne : k ≠ i := by
          rintro rfl
          have := List.find?_some hk
          simp [ho, hd] at this
          exact e this.symm
        simp only [hset, if_neg hne]
/-- The slots behind the first n operations. -/
def finA (ops : Array Oper) (n : Nat) (V : Nat → Value) (a0 : Act) : Act :=
  { tmps := ((List.range a0.tmps.size).map fun s => match slotAt ops s with
      | some i => if i < n then V i else a0.tmps.getD s undef
      | none => a0.tmps.getD s undef).toArray, defers := a0.defers }
theorem Filled.fin {ops : Array Oper} {listed : Array Bool} {V : Nat → Value} {a0 a : Act} {n : Nat} (h : Filled ops listed V a0 a) (hall : ∀ i, i < n → listed.getD i false = true) (htail : ∀ i, n ≤ i → listed.getD i false = false) : a = finA ops n V a0 := by
  obtain ⟨h1, h2, h3⟩ := h
  cases a with
  | mk tmps defers =>
    simp only at h1 h2 h3
    subst h1
    unfold finA
    congr 1
    apply Array.ext
    · simp [h2]
    · intro s hs1 hs2
      have := h3 s (by omega)
      rw [Array.getD_eq_getD_getElem?, Array.getElem?_eq_getElem hs1, Option.getD_some] at this
      rw [this]
      simp only [List.getElem_toArray, List.getElem_map, List.getElem_range]
      cases hk : slotAt ops s with
      | none => rfl
      | some k =>
        by_cases hkn : k < n
        · simp only [hall k hkn, if_true, if_pos hkn]
        · simp only [htail k (by omega), Bool.false_eq_true, if_false, if_neg hkn]

/-- The world has grown: what is known is known still. -/
def ext (own : Nat → Nat) (w : World) (i : Nat) : Nat → Nat := fun x => if x < w.heap.size then own x else i

theorem wp_region_inv {id : Nat} {l : List Oper} (n : Nat) (a0 : Act) (w0 : World) (F : Nat → Value → World → (Nat → Nat) → Prop) (hm : P.follows .mixedOrders = true) (hB : tailB .any l.toArray n = true) (hf : fwdB l.toArray n = true) (hsl : slotsB l.toArray a0.tmps.size = true)
    (hq : Region.seqB .any l.toArray (l.length - n) n (Array.replicate n true ++ Array.replicate (l.length - n) false) = true)
    (hmono : ∀ i v w w' own own', i < n → F i v w own → Bel w w' → (∀ x, x < w.heap.size → own' x = own x) → F i v w' own')
    (hstep : ∀ i o, i < n → l.toArray[i]? = some o → ∀ (a : Act) (w : World) (own : Nat → Nat) (V : Nat → Value), Bel w0.drew w →
      (∀ e ∈ o.after, Region.binds .any e = true → F e.on (V e.on) w own ∧ ∀ d, (l.toArray[e.on]?).bind (·.dst) = some d → a.eval (.tmp d) = V e.on) → (∀ s, s < a0.tmps.size → slotAt l.toArray s = none → a.eval (.tmp s) = a0.eval (.tmp s)) →
      ∀ K : Act → World → Prop, (∀ v w', Bel w w' → F i v w' (ext own w i) → K (a.put o.dst v) w') → o.guard = none ∧ Oper.wp P o a w K Q)
    (hend : ∀ (V : Nat → Value) (w : World) (own : Nat → Nat), Bel w0.drew w → (∀ i, i < n → F i (V i) w own) → wpList P l.toArray Q (l.drop n) (finA l.toArray n V a0) w) :
    (Code.region id l.toArray true).wp P Q a0 w0 := by
  have hn' : n < l.length := by
    simp only [tailB, Bool.and_eq_true, decide_eq_true_eq] at hB
    simpa using hB.1.1.2
  refine wp_region_any hm ?_
  have inv0 : HeadInv .any l.toArray n (Array.replicate l.length false) :=
    ⟨by simp, fun j oj _ hl => (by rw [getD_replicate_false] at hl; cases hl), fun t _ ht => getD_in (by simpa using ht) (getD_replicate_false _ _)⟩
  have key := wpAny_invT (P := P) (Q := Q) (l := l) (n := n) (fun listed a w => listed.size = l.length ∧ (∀ t, n ≤ t → listed.getD t false = false) ∧ Bel w0.drew w ∧ ∃ (V : Nat → Value) (own : Nat → Nat), Filled l.toArray listed V a0 a ∧ ∀ i, i < n → listed.getD i false = true → F i (V i) w own) hB hf hq ?_ ?_ n (Array.replicate l.length false) a0 w0.drew (cnt_new (by omega)) inv0 ⟨by simp, fun t _ => getD_replicate_false _ _, Bel.refl _, fun _ => undef, fun _ => 0, ⟨rfl, rfl, fun s hs => by cases slotAt l.toArray s <;> simp only [getD_replicate_false, Bool.false_eq_true, if_false]⟩, fun i _ hi => by rw [getD_replicate_false] at hi; cases hi⟩
  · have e : n + (l.length - n) = l.length := by omega
    rw [e] at key
    simpa using key
  · rintro listed a w i inv ⟨hsz, htl, hbel, V, own, hfill, hF⟩ hin hun hr
    obtain ⟨_, o, ho, hall⟩ := mem_ready.1 hr
    have hK := hstep i o hin ho a w own V hbel (fun e he hb => by
      have hl := hall e he hb
      have hen : e.on < n := by
        rcases Nat.lt_or_ge e.on n with h | h
        · exact h
        · rw [htl _ h] at hl; cases hl
      exact ⟨hF _ hen hl, fun d hd => hfill.eval hsl hl hd⟩) (fun s hs hn => hfill.par hn hs)
      (fun a' w' => (listed.setIfInBounds i true).size = l.length ∧ (∀ t, n ≤ t → (listed.setIfInBounds i true).getD t false = false) ∧ Bel w0.drew w' ∧ ∃ (V : Nat → Value) (own : Nat → Nat), Filled l.toArray (listed.setIfInBounds i true) V a0 a' ∧ ∀ j, j < n → (listed.setIfInBounds i true).getD j false = true → F j (V j) w' own)
      (fun v w' hb hFi => ⟨by simpa using hsz, fun t ht => by rw [getD_set_ne false (by omega)]; exact htl t ht, hbel.on hb, fun j => if j = i then v else V j, ext own w i, hfill.put hsl ho (by omega) v, fun j hj hl => by
        by_cases e : j = i
        · subst e; simp only [if_true]; exact hFi
        · simp only [if_neg e]
          rw [getD_set_ne false (fun e' => e e'.symm)] at hl
          exact hmono j _ w w' own _ hj (hF j hj hl) hb (fun x hx => by simp [ext, hx])⟩)
    unfold wpOp
    simp only [ho]
    rw [if_pos (by simp [Region.wanted, hK.1])]
    exact .inl hK.2
  · rintro listed a w ⟨hsz, htl, hbel, V, own, hfill, hF⟩ hall
    rw [hfill.fin hall htl]
    exact hend V w own hbel fun i hi => hF i hi (hall i hi)
end
end Go.Proofs.Ytjgpkolfcpoinaa.Mu

