/-
  How a term is written: the text as a list of bytes. Nothing of the translation is used here.
  What a Mu that may be is, by its parts.
  Texts tell terms, and inequalities, apart: plain mathematics on lists of bytes. Nothing of the translation is used here.
-/
import Derived.Test.YtblgligagngpfaaDoorTermFn
import Derived.Lib.ItoaNum
import Derived.Lib.Join
import Derived.Lib.ItoaMem
import Derived.Lib.ItoaLen
namespace Go.Proofs.YtblgligagngpfaaDoor.Mu
open Go.RowKit Go
/-- The text of a multiplicity. -/
def mulS (c : Int) : List UInt8 := if knownF c = 1 then [49] else if knownF c = 2 then [63] else [42]
def varS (v : Int) : List UInt8 := 109 :: Lib.itoa v
def partsS (c : Int) (l : List Int) : List (List UInt8) := (if l.length = 0 ∨ mulS c ≠ [49] then [mulS c] else []) ++ l.map varS
def textT (nv : Bool) (c : Int) (l : List Int) : List UInt8 := if nv then [48] else Lib.join (partsS c l) [124]
end Go.Proofs.YtblgligagngpfaaDoor.Mu
namespace Go.Proofs.YtblgligagngpfaaDoor.Mu

def mayI (v m c r : Int) : Bool := isB v m && isMultB c && decide (-1 ≤ r) && decide (r < 1048576)
theorem isB_parts {v m : Int} (h : isB v m = true) : (m = 0 ∧ 0 ≤ v ∧ v < 1048576) ∨ (1 ≤ m ∧ m ≤ 3 ∧ v = 0) := by
  unfold isB isVarB isMultB at h; simp at h; omega
end Go.Proofs.YtblgligagngpfaaDoor.Mu
namespace Go.Proofs.YtblgligagngpfaaDoor.Mu
open Go.RowKit Go

def valD (l : List UInt8) : Nat := l.foldl (fun a d => 10 * a + (d.toNat - 48)) 0
theorem valD_snoc (l : List UInt8) (d : UInt8) : valD (l ++ [d]) = 10 * valD l + (d.toNat - 48) := by simp [valD]
theorem ofNat_dig {k : Nat} (h : k < 10) : (UInt8.ofNat (48 + k)).toNat = 48 + k := by
  rw [UInt8.toNat_ofNat']; omega
theorem valD_dec (u : Nat) : valD (Lib.decDigits u) = u := by
  induction u using Nat.strongRecOn with
  | ind u ih =>
    rw [Lib.decDigits]
    by_cases h : u < 10
    · rw [dif_pos h]; have := ofNat_dig h; simp only [valD, List.foldl_cons, List.foldl_nil, this]; omega
    · rw [dif_neg h, valD_snoc, ih (u / 10) (by omega), ofNat_dig (Nat.mod_lt _ (by omega))]; omega
theorem dec_dig (u : Nat) : ∀ d ∈ Lib.decDigits u, 48 ≤ d.toNat ∧ d.toNat ≤ 57 := by
  induction u using Nat.strongRecOn with
  | ind u ih =>
    rw [Lib.decDigits]
    by_cases h : u < 10
    · rw [dif_pos h]
      intro d hd
      obtain rfl := List.mem_singleton.1 hd
      rw [ofNat_dig h]; omega
    · rw [dif_neg h]
      intro d hd
      rcases List.mem_append.1 hd with hd | hd
      · exact ih (u / 10) (by omega) d hd
      · obtain rfl := List.mem_singleton.1 hd
        rw [ofNat_dig (Nat.mod_lt _ (by omega))]
        have := Nat.mod_lt u (show 0 < 10 by omega)
        omega
theorem itoa_dec {v : Int} (h : 0 ≤ v) : Lib.itoa v = Lib.decDigits v.toNat := by
  unfold Lib.itoa; rw [if_neg (by omega)]
theorem itoa_inj {v u : Int} (hv : 0 ≤ v) (hu : 0 ≤ u) (h : Lib.itoa v = Lib.itoa u) : v = u := by
  rw [itoa_dec hv, itoa_dec hu] at h
  have := congrArg valD h
  rw [valD_dec, valD_dec] at this
  omega
/-- A byte that is no digit and no m. -/
theorem varS_no {v : Int} (h : 0 ≤ v) {s : UInt8} (h1 : s ≠ 109) (h2 : s.toNat < 48 ∨ 57 < s.toNat) : s ∉ varS v := by
  unfold varS
  rw [itoa_dec h]
  intro hm
  rcases List.mem_cons.1 hm with hm | hm
  · exact h1 hm
  · have := dec_dig _ _ hm; omega
theorem varS_inj {v u : Int} (hv : 0 ≤ v) (hu : 0 ≤ u) (h : varS v = varS u) : v = u := by
  unfold varS at h
  injection h with _ h
  exact itoa_inj hv hu h
theorem mulS_cases {c : Int} (h1 : 1 ≤ c) (h3 : c ≤ 3) : (c = 1 ∧ mulS c = [49]) ∨ (c = 2 ∧ mulS c = [63]) ∨ (c = 3 ∧ mulS c = [42]) := by
  have h : c = 1 ∨ c = 2 ∨ c = 3 := by omega
  rcases h with rfl | rfl | rfl
  · exact .inl ⟨rfl, by decide +kernel⟩
  · exact .inr (.inl ⟨rfl, by decide +kernel⟩)
  · exact .inr (.inr ⟨rfl, by decide +kernel⟩)
theorem sep_inj {s : UInt8} : ∀ {a b x y : List UInt8}, s ∉ a → s ∉ b → a ++ s :: x = b ++ s :: y → a = b ∧ x = y
  | [], [], x, y, _, _, h => by simpa using h
  | [], d :: b, x, y, _, hb, h => by
    simp at h; exact absurd (by simp [h.1]) hb
  | d :: a, [], x, y, ha, _, h => by
    simp at h; exact absurd (by simp [h.1]) ha
  | d :: a, f :: b, x, y, ha, hb, h => by
    simp only [List.cons_append, List.cons.injEq] at h
    have := sep_inj (s := s) (a := a) (b := b) (fun hm => ha (List.mem_cons_of_mem _ hm)) (fun hm => hb (List.mem_cons_of_mem _ hm)) h.2
    exact ⟨by rw [h.1, this.1], this.2⟩
theorem tail_cons (s : UInt8) (y : List UInt8) (r : List (List UInt8)) : Lib.joinTail [s] (y :: r) = s :: (y ++ Lib.joinTail [s] r) := by simp [Lib.joinTail]
theorem tail_nil (s : UInt8) : Lib.joinTail [s] [] = [] := rfl
theorem tails_inj {s : UInt8} : ∀ {r q : List (List UInt8)} {x y : List UInt8}, s ∉ x → s ∉ y → (∀ z ∈ r, s ∉ z) → (∀ z ∈ q, s ∉ z) → x ++ Lib.joinTail [s] r = y ++ Lib.joinTail [s] q → x = y ∧ r = q
  | [], [], x, y, _, _, _, _, h => by simpa [tail_nil] using h
  | [], z :: q, x, y, hx, hy, _, _, h => by
    rw [tail_nil, tail_cons, List.append_nil] at h
    exact absurd (by rw [h]; simp) hx
  | z :: r, [], x, y, hx, hy, _, _, h => by
    rw [tail_nil, tail_cons, List.append_nil] at h
    exact absurd (by rw [← h]; simp) hy
  | z :: r, u :: q, x, y, hx, hy, hr, hq, h => by
    rw [tail_cons, tail_cons] at h
    obtain ⟨e, h⟩ := sep_inj hx hy h
    obtain ⟨e2, h⟩ := tails_inj (hr z (by simp)) (hq u (by simp)) (fun w hw => hr w (by simp [hw])) (fun w hw => hq w (by simp [hw])) h
    exact ⟨e, by rw [e2, h]⟩
theorem join_inj {s : UInt8} {xs ys : List (List UInt8)} (hx : xs ≠ []) (hy : ys ≠ []) (h1 : ∀ z ∈ xs, s ∉ z) (h2 : ∀ z ∈ ys, s ∉ z) (h : Lib.join xs [s] = Lib.join ys [s]) : xs = ys := by
  match xs, ys, hx, hy with
  | x :: r, y :: q, _, _ =>
    rw [Lib.join_cons, Lib.join_cons] at h
    obtain ⟨e, h⟩ := tails_inj (h1 x (by simp)) (h2 y (by simp)) (fun w hw => h1 w (by simp [hw])) (fun w hw => h2 w (by simp [hw])) h
    rw [e, h]
theorem varsS_inj : ∀ {l k : List Int}, (∀ v ∈ l, 0 ≤ v) → (∀ v ∈ k, 0 ≤ v) → l.map varS = k.map varS → l = k
  | [], [], _, _, _ => rfl
  | [], u :: k, _, _, h => by simp at h
  | v :: l, [], _, _, h => by simp at h
  | v :: l, u :: k, h1, h2, h => by
    simp only [List.map_cons, List.cons.injEq] at h
    rw [varS_inj (h1 v (by simp)) (h2 u (by simp)) h.1, varsS_inj (fun w hw => h1 w (by simp [hw])) (fun w hw => h2 w (by simp [hw])) h.2]
theorem mulS_no109 (c : Int) (r : List UInt8) : mulS c ≠ 109 :: r := by
  unfold mulS
  split
  · simp
  · split <;> simp
theorem partsS_ne {c : Int} {l : List Int} : partsS c l ≠ [] := by
  unfold partsS
  cases l <;> simp
theorem partsS_no {c : Int} {l : List Int} (h1 : 1 ≤ c) (h3 : c ≤ 3) (hl : ∀ v ∈ l, 0 ≤ v) : ∀ z ∈ partsS c l, (124 : UInt8) ∉ z := by
  intro z hz
  unfold partsS at hz
  rcases List.mem_append.1 hz with hz | hz
  · split at hz
    · obtain rfl := List.mem_singleton.1 hz
      rcases mulS_cases h1 h3 with ⟨_, e⟩ | ⟨_, e⟩ | ⟨_, e⟩ <;> rw [e] <;> decide
    · simp at hz
  · obtain ⟨v, hv, rfl⟩ := List.mem_map.1 hz
    exact varS_no (hl v hv) (by decide) (by decide)
theorem mulS_inj {c d : Int} (h1 : 1 ≤ c) (h3 : c ≤ 3) (k1 : 1 ≤ d) (k3 : d ≤ 3) (h : mulS c = mulS d) : c = d := by
  rcases mulS_cases h1 h3 with ⟨a, e⟩ | ⟨a, e⟩ | ⟨a, e⟩ <;> rcases mulS_cases k1 k3 with ⟨b, f⟩ | ⟨b, f⟩ | ⟨b, f⟩ <;> rw [e, f] at h <;> first | omega | (simp at h)
theorem mulS_one {c : Int} (h1 : 1 ≤ c) (h3 : c ≤ 3) : mulS c = [49] ↔ c = 1 := by
  rcases mulS_cases h1 h3 with ⟨a, e⟩ | ⟨a, e⟩ | ⟨a, e⟩ <;> rw [e, a] <;> simp
theorem partsS_inj {c d : Int} {l k : List Int} (h1 : 1 ≤ c) (h3 : c ≤ 3) (k1 : 1 ≤ d) (k3 : d ≤ 3) (hl : ∀ v ∈ l, 0 ≤ v) (hk : ∀ v ∈ k, 0 ≤ v) (h : partsS c l = partsS d k) : c = d ∧ l = k := by
  unfold partsS at h
  simp only [ne_eq, mulS_one h1 h3, mulS_one k1 k3] at h
  by_cases a : l.length = 0 ∨ ¬ c = 1 <;> by_cases b : k.length = 0 ∨ ¬ d = 1
  · rw [if_pos a, if_pos b] at h
    simp only [List.singleton_append, List.cons.injEq] at h
    exact ⟨mulS_inj h1 h3 k1 k3 h.1, varsS_inj hl hk h.2⟩
  · rw [if_pos a, if_neg b] at h
    match k, b with
    | [], b => simp at b
    | u :: k, b =>
      simp only [List.singleton_append, List.nil_append, List.map_cons, List.cons.injEq] at h
      exact absurd h.1 (mulS_no109 _ _)
  · rw [if_neg a, if_pos b] at h
    match l, a with
    | [], a => simp at a
    | u :: l, a =>
      simp only [List.singleton_append, List.nil_append, List.map_cons, List.cons.injEq] at h
      exact absurd h.1.symm (mulS_no109 _ _)
  · rw [if_neg a, if_neg b] at h
    simp only [List.nil_append] at h
    have ha : c = 1 := by simp at a; exact a.2
    have hb : d = 1 := by simp at b; exact b.2
    exact ⟨by omega, varsS_inj hl hk h⟩
theorem join_inj_parts {c d : Int} {l k : List Int} (h1 : 1 ≤ c) (h3 : c ≤ 3) (k1 : 1 ≤ d) (k3 : d ≤ 3) (hl : ∀ v ∈ l, 0 ≤ v) (hk : ∀ v ∈ k, 0 ≤ v) (h : Lib.join (partsS c l) [124] = Lib.join (partsS d k) [124]) : c = d ∧ l = k :=
  partsS_inj h1 h3 k1 k3 hl hk (join_inj partsS_ne partsS_ne (partsS_no h1 h3 hl) (partsS_no k1 k3 hk) h)
theorem join_not0 {c : Int} {l : List Int} (h1 : 1 ≤ c) (h3 : c ≤ 3) : Lib.join (partsS c l) [124] ≠ [48] := by
  unfold partsS
  simp only [ne_eq, mulS_one h1 h3]
  by_cases a : l.length = 0 ∨ ¬ c = 1
  · rw [if_pos a, List.singleton_append, Lib.join_cons]
    rcases mulS_cases h1 h3 with ⟨_, e⟩ | ⟨_, e⟩ | ⟨_, e⟩ <;> rw [e] <;> simp
  · rw [if_neg a]
    match l, a with
    | [], a => simp at a
    | u :: l, a => simp [Lib.join_cons, varS]
/-- Texts tell terms that may be apart. -/
theorem textT_inj {n1 n2 : Bool} {c d : Int} {l k : List Int} (h1 : mayB n1 c l = true) (h2 : mayB n2 d k = true) : (textT n1 c l = textT n2 d k) ↔ (n1 = n2 ∧ c = d ∧ l = k) := by
  refine ⟨fun h => ?_, fun ⟨a, b, e⟩ => by rw [a, b, e]⟩
  have hv : ∀ {nv : Bool} {c : Int} {l : List Int}, mayB nv c l = true → ∀ v ∈ l, 0 ≤ v := by
    intro nv c l hm v hv
    obtain ⟨i, hi⟩ := List.mem_iff_getElem?.1 hv
    unfold mayB at hm
    rw [Bool.and_eq_true] at hm
    have hlt := (List.getElem?_eq_some_iff.1 hi).1
    have h2 := (mayVarsB_iff l).1 hm.2 i hlt
    unfold mayAt isVarB at h2
    rw [hi] at h2
    simp at h2
    exact h2.1.1
  have hN : ∀ {c : Int} {l : List Int}, mayB true c l = true → c = 0 ∧ l = [] := by
    intro c l hm; unfold mayB at hm; simp at hm; exact hm.1
  have hC : ∀ {c : Int} {l : List Int}, mayB false c l = true → 1 ≤ c ∧ c ≤ 3 := by
    intro c l hm; unfold mayB isMultB at hm; simp at hm; omega
  cases n1 <;> cases n2
  · obtain ⟨a, b⟩ := hC h1
    obtain ⟨a', b'⟩ := hC h2
    have := join_inj_parts a b a' b' (hv h1) (hv h2) (by simpa [textT] using h)
    exact ⟨rfl, this⟩
  · obtain ⟨a, b⟩ := hC h1
    exact absurd (by simpa [textT] using h) (join_not0 a b)
  · obtain ⟨a, b⟩ := hC h2
    exact absurd (by simpa [textT] using h.symm) (join_not0 a b)
  · obtain ⟨a, b⟩ := hN h1
    obtain ⟨a', b'⟩ := hN h2
    exact ⟨rfl, by rw [a, a'], by rw [b, b']⟩

/-- The text of an inequality. -/
def leftS (v c : Int) : List UInt8 := if c = 0 then varS v else mulS c
def rightL (r : Int) : List Int := if r = -1 then [] else [r]
def textI (v m c r : Int) : List UInt8 := leftS v m ++ [32, 60, 61, 32] ++ textT false c (rightL r)
theorem leftS_no {v m : Int} (h : isB v m = true) : (32 : UInt8) ∉ leftS v m := by
  unfold leftS
  rcases isB_parts h with ⟨a, b, c⟩ | ⟨a, b, c⟩
  · rw [if_pos a]; exact varS_no b (by decide) (by decide)
  · rw [if_neg (by omega)]
    rcases mulS_cases a b with ⟨_, e⟩ | ⟨_, e⟩ | ⟨_, e⟩ <;> rw [e] <;> decide
theorem leftS_inj {v m u k : Int} (h1 : isB v m = true) (h2 : isB u k = true) (h : leftS v m = leftS u k) : v = u ∧ m = k := by
  unfold leftS at h
  rcases isB_parts h1 with ⟨a, b, c⟩ | ⟨a, b, c⟩ <;> rcases isB_parts h2 with ⟨a', b', c'⟩ | ⟨a', b', c'⟩
  · rw [if_pos a, if_pos a'] at h
    exact ⟨varS_inj b b' h, by omega⟩
  · rw [if_pos a, if_neg (by omega)] at h
    exact absurd h.symm (mulS_no109 _ _)
  · rw [if_neg (by omega), if_pos a'] at h
    exact absurd h (mulS_no109 _ _)
  · rw [if_neg (by omega), if_neg (by omega)] at h
    exact ⟨by omega, mulS_inj a b a' b' h⟩
theorem textI_inj {v m c r u k d q : Int} (h1 : mayI v m c r = true) (h2 : mayI u k d q = true) : textI v m c r = textI u k d q ↔ (v = u ∧ m = k ∧ c = d ∧ r = q) := by
  refine ⟨fun h => ?_, fun ⟨a, b, e, f⟩ => by rw [a, b, e, f]⟩
  unfold mayI isMultB at h1 h2
  simp only [Bool.and_eq_true, decide_eq_true_eq] at h1 h2
  unfold textI at h
  rw [List.append_assoc, List.append_assoc] at h
  obtain ⟨e, h⟩ := sep_inj (leftS_no h1.1.1.1) (leftS_no h2.1.1.1) h
  have h : textT false c (rightL r) = textT false d (rightL q) := List.append_cancel_left (as := [60, 61, 32]) h
  obtain ⟨a, b⟩ := leftS_inj h1.1.1.1 h2.1.1.1 e
  unfold textT at h
  simp only [Bool.false_eq_true, if_false] at h
  have hr : ∀ {r : Int}, -1 ≤ r → ∀ v ∈ rightL r, 0 ≤ v := by
    intro r hr v hv
    unfold rightL at hv
    split at hv
    · simp at hv
    · obtain rfl := List.mem_singleton.1 hv; omega
  obtain ⟨e1, e2⟩ := join_inj_parts h1.1.1.2.1 h1.1.1.2.2 h2.1.1.2.1 h2.1.1.2.2 (hr h1.1.2) (hr h2.1.2) h
  refine ⟨a, b, e1, ?_⟩
  unfold rightL at e2
  split at e2 <;> split at e2 <;> simp at e2 <;> omega
theorem lens_le {xs : List (List UInt8)} {m : Nat} (h : ∀ z ∈ xs, z.length ≤ m) : Lib.lens xs ≤ xs.length * m := by
  induction xs with
  | nil => simp [Lib.lens]
  | cons x xs ih =>
    have a := h x (by simp)
    have b := ih fun z hz => h z (by simp [hz])
    simp only [Lib.lens, List.map_cons, List.sum_cons, List.length_cons] at *
    rw [Nat.add_mul]; omega
theorem join_len {xs : List (List UInt8)} {m : Nat} (h : ∀ z ∈ xs, z.length ≤ m) : (Lib.join xs [124]).length ≤ xs.length * (m + 1) := by
  match xs with
  | [] => simp [Lib.join_nil]
  | x :: r =>
    have a := h x (by simp)
    have b := lens_le (xs := r) fun z hz => h z (by simp [hz])
    rw [Lib.join_cons, List.length_append, Lib.joinTail_length]
    simp only [List.length_cons, List.length_nil]
    have e : (r.length + 1) * (m + 1) = r.length * m + r.length + m + 1 := by rw [Nat.add_mul, Nat.mul_add]; omega
    omega
theorem varS_len {v : Int} (h0 : 0 ≤ v) (h1 : v < 1048576) : (varS v).length ≤ 22 := by
  have := Lib.itoa_length_le v (by omega) (by omega)
  unfold varS; simp; omega
theorem mulS_len (c : Int) : (mulS c).length ≤ 22 := by
  unfold mulS; split
  · simp
  · split <;> simp
theorem partsS_len {c : Int} {l : List Int} (hl : ∀ v ∈ l, 0 ≤ v ∧ v < 1048576) : (∀ z ∈ partsS c l, z.length ≤ 22) ∧ (partsS c l).length ≤ l.length + 1 := by
  unfold partsS
  refine ⟨fun z hz => ?_, ?_⟩
  · rcases List.mem_append.1 hz with hz | hz
    · split at hz
      · obtain rfl := List.mem_singleton.1 hz; exact mulS_len _
      · simp at hz
    · obtain ⟨v, hv, rfl⟩ := List.mem_map.1 hz
      exact varS_len (hl v hv).1 (hl v hv).2
  · split <;> simp
theorem textT_len {c : Int} {l : List Int} (hl : ∀ v ∈ l, 0 ≤ v ∧ v < 1048576) (hn : l.length ≤ 1000000) : (Lib.join (partsS c l) [124]).length ≤ 140737488355328 := by
  obtain ⟨a, b⟩ := partsS_len (c := c) hl
  have := join_len a
  omega
end Go.Proofs.YtblgligagngpfaaDoor.Mu

