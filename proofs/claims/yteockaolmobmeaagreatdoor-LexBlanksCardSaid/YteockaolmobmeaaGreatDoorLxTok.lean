/-
  Tokens, as lists of code points: what is read of a text, what a token is written as, and that what is written is read. Plain mathematics; nothing of the translation is used here.
  Tokens' texts as bytes: what is written of a token, byte by byte, is what is written code point by code point; words and names are bytes below 128. Plain mathematics.
  What Write and Tokens answer, told of bytes; and the laws of tokens as mathematics. Nothing is walked here.
  The document's own functions on code points, walked: their kinds, the one at a place, lists of texts.
  Tokens in memory; what the comparison of two lists of them comes to.
  What the chapter's texts are read as, and what its tokens are written as: plain mathematics.
-/
import Derived.Test.YteockaolmobmeaaGreatDoorUtfMath
import Derived.Test.YteockaolmobmeaaGreatDoorLxUtf
import Derived.KernelRfl
namespace Go.Proofs.YteockaolmobmeaaGreatDoor.Mu
open Go

def isDig (c : Int) : Bool := decide (48 ≤ c ∧ c ≤ 57)
def isSm (c : Int) : Bool := decide (97 ≤ c ∧ c ≤ 122)
def isGr (c : Int) : Bool := decide (65 ≤ c ∧ c ≤ 90)
def isW (c : Int) : Bool := isDig c || isSm c || isGr c || decide (c = 95) || decide (c = 39)
def isBl (c : Int) : Bool := decide (c = 32) || decide (c = 9) || decide (c = 10) || decide (c = 13)
/-- A token: its kind, its text as code points, its number. -/
structure Tk where
  k : Int
  x : List Int
  n : Int
deriving DecidableEq
def wordsL : List (List Int) := [[108, 101, 116], [114, 101, 99], [105, 110], [99, 97, 115, 101], [111, 102], [100, 97, 116, 97]]
def primsL : List (List Int) := [[111, 112, 101, 110], [114, 101, 97, 100], [119, 114, 105, 116, 101], [99, 108, 111, 115, 101], [97, 114, 114, 97, 121], [103, 101, 116], [115, 101, 116], [115, 105, 122, 101], [102, 97, 105, 108], [108, 101, 110]]
def signsL : List (List Int) := [[92], [45, 62], [45, 49, 62], [45, 63, 62], [45, 42, 62], [61], [61, 61], [59], [123], [125], [40], [41], [124], [60], [43, 43], [43], [45], [42], [47], [37], [95], [63]]

theorem dropWhile_len {α : Type} (p : α → Bool) (l : List α) : (l.dropWhile p).length ≤ l.length := by
  induction l with
  | nil => simp
  | cons a l ih =>
    rw [List.dropWhile_cons]
    split
    · exact Nat.le_succ_of_le ih
    · exact Nat.le_refl _
/-- Behind blanks and remarks. -/
def skipL : List Int → List Int
  | [] => []
  | c :: l => if isBl c = true then skipL l else if c = 45 ∧ l.head? = some 45 then skipL (l.dropWhile fun x => decide (x ≠ 10)) else c :: l
termination_by l => l.length
decreasing_by
  · simp
  · exact Nat.lt_succ_of_le (dropWhile_len _ l)
theorem skipL_nil : skipL [] = [] := by rw [skipL]
theorem skipL_bl {c : Int} (h : isBl c = true) (l : List Int) : skipL (c :: l) = skipL l := by rw [skipL, if_pos h]
theorem skipL_rem (l : List Int) : skipL (45 :: 45 :: l) = skipL ((45 :: l).dropWhile fun x => decide (x ≠ 10)) := by
  rw [skipL, if_neg (by decide), if_pos ⟨rfl, rfl⟩]
theorem skipL_stop {c : Int} {l : List Int} (h1 : isBl c = false) (h2 : ¬ (c = 45 ∧ l.head? = some 45)) : skipL (c :: l) = c :: l := by
  rw [skipL, if_neg (by simp [h1]), if_neg h2]
theorem skipL_len : ∀ (n : Nat) (l : List Int), l.length ≤ n → (skipL l).length ≤ l.length
  | _, [], _ => by rw [skipL_nil]; exact Nat.le_refl _
  | 0, c :: l, h => by simp at h
  | n + 1, c :: l, h => by
    have hl : l.length ≤ n := by simpa using h
    rw [skipL]
    split
    · exact Nat.le_succ_of_le (skipL_len n l hl)
    split
    · have h1 := dropWhile_len (fun x : Int => decide (x ≠ 10)) l
      have h2 := skipL_len n (l.dropWhile fun x => decide (x ≠ 10)) (by omega)
      simp only [List.length_cons]
      omega
    · exact Nat.le_refl _
/-- Blanks, and remarks with their ends. -/
inductive Blanks : List Int → Prop
  | nil : Blanks []
  | bl {c : Int} {b : List Int} (h : isBl c = true) (hb : Blanks b) : Blanks (c :: b)
  | rem {u b : List Int} (h : ∀ x ∈ u, x ≠ 10) (hb : Blanks b) : Blanks (45 :: 45 :: (u ++ 10 :: b))
theorem Blanks.app {a b : List Int} (h : Blanks a) (k : Blanks b) : Blanks (a ++ b) := by
  induction h with
  | nil => exact k
  | bl h _ ih => exact .bl h ih
  | rem h _ ih =>
    rename_i u c hc
    have := Blanks.rem h ih
    simpa using this
theorem drop_rem {u : List Int} (h : ∀ x ∈ u, x ≠ 10) (r : List Int) : (u ++ 10 :: r).dropWhile (fun x => decide (x ≠ 10)) = 10 :: r := by
  induction u with
  | nil => simp
  | cons a u ih =>
    have ha : a ≠ 10 := h a (by simp)
    rw [List.cons_append, List.dropWhile_cons, if_pos (by simpa using ha)]
    exact ih fun x hx => h x (by simp [hx])
theorem skip_blanks {b : List Int} (h : Blanks b) (r : List Int) : skipL (b ++ r) = skipL r := by
  induction h with
  | nil => rfl
  | bl hc _ ih => rw [List.cons_append, skipL_bl hc, ih]
  | rem hu _ ih =>
    rename_i u c hk
    rw [List.cons_append, List.cons_append, skipL_rem, List.append_assoc, List.cons_append, List.dropWhile_cons, if_pos (by decide), drop_rem hu, skipL_bl (by decide), ih]

/-- What is read at a place: a token and what stands behind, or an error and how far on it is. -/
inductive Rd where
  | ok (t : Tk) (r : List Int)
  | err (e : Int) (d : Nat)
def wordL (l : List Int) : Rd :=
  if l.takeWhile isW ∈ wordsL then .ok ⟨5, l.takeWhile isW, 0⟩ (l.dropWhile isW)
  else if l.takeWhile isW ∈ primsL then .ok ⟨6, l.takeWhile isW, 0⟩ (l.dropWhile isW)
  else if 24 < (l.takeWhile isW).length then .err 3 0
  else if isGr (l.headD 0) = true then .ok ⟨2, l.takeWhile isW, 0⟩ (l.dropWhile isW) else .ok ⟨1, l.takeWhile isW, 0⟩ (l.dropWhile isW)
def valN (l : List Int) : Int := l.foldl (fun n c => 10 * n + (c - 48)) 0
def numL (l : List Int) : Rd :=
  if l.headD 0 = 48 ∧ isDig (l.tail.headD 0) = true then .err 100 0
  else if 1099511627776 < valN (l.takeWhile isDig) then .err 101 0
  else .ok ⟨3, [], valN (l.takeWhile isDig)⟩ (l.dropWhile isDig)
/-- What stands for a code point behind a 92; 0: none. -/
def escV (c : Int) : Int := if c = 110 then 10 else if c = 116 then 9 else if c = 34 then 34 else if c = 92 then 92 else 0
/-- What a string holds, from behind its first quote on; d: how far on that is. -/
def quoL : List Int → List Int → Nat → Rd
  | [], _, _ => .err 102 0
  | c :: l, acc, d =>
    if c = 34 then .ok ⟨4, acc, 0⟩ l
    else if c = 10 then .err 102 0
    else if c = 92 then (if escV (l.headD 0) = 0 then .err 100 d else quoL l.tail (acc ++ [escV (l.headD 0)]) (d + 2))
    else quoL l (acc ++ [c]) (d + 1)
termination_by l => l.length
decreasing_by
  · simp only [List.length_tail, List.length_cons]; omega
  · simp
def signL (l : List Int) : Rd :=
  if 3 ≤ l.length ∧ l.take 3 ∈ signsL then .ok ⟨5, l.take 3, 0⟩ (l.drop 3)
  else if 2 ≤ l.length ∧ l.take 2 ∈ signsL then .ok ⟨5, l.take 2, 0⟩ (l.drop 2)
  else if 1 ≤ l.length ∧ l.take 1 ∈ signsL then .ok ⟨5, l.take 1, 0⟩ (l.drop 1)
  else .err 100 0
def oneL (l : List Int) : Rd :=
  if isSm (l.headD 0) = true ∨ isGr (l.headD 0) = true then wordL l
  else if isDig (l.headD 0) = true then numL l
  else if l.headD 0 = 34 then quoL l.tail [] 1
  else signL l

/-- What a token is written as. -/
def digL (n : Nat) : List Int := if h : n < 10 then [48 + (n : Int)] else digL (n / 10) ++ [48 + ((n % 10 : Nat) : Int)]
termination_by n
decreasing_by omega
def escC (c : Int) : List Int := if c = 10 then [92, 110] else if c = 9 then [92, 116] else if c = 34 ∨ c = 92 then [92, c] else [c]
def putL (t : Tk) : List Int := if t.k = 3 then digL t.n.toNat else if t.k = 4 then 34 :: (t.x.flatMap escC ++ [34]) else t.x
def nameB (x : List Int) (big : Bool) : Prop := x ≠ [] ∧ x.length ≤ 24 ∧ (∀ c ∈ x, isW c = true) ∧ (if big = true then isGr (x.headD 0) = true else isSm (x.headD 0) = true) ∧ x ∉ wordsL ∧ x ∉ primsL
/-- A token that may be. -/
def MayT (t : Tk) : Prop :=
  (t.k = 1 ∧ nameB t.x false ∧ t.n = 0) ∨ (t.k = 2 ∧ nameB t.x true ∧ t.n = 0) ∨ (t.k = 3 ∧ 0 ≤ t.n ∧ t.n ≤ 1099511627776 ∧ t.x = []) ∨ (t.k = 4 ∧ (∀ c ∈ t.x, cpB c = true) ∧ t.n = 0) ∨
    (t.k = 5 ∧ (t.x ∈ wordsL ∨ t.x ∈ signsL) ∧ t.n = 0) ∨ (t.k = 6 ∧ t.x ∈ primsL ∧ t.n = 0)
/-- What ends a token for sure: the end, or a blank. -/
def Ends (r : List Int) : Prop := r = [] ∨ ∃ c l, r = c :: l ∧ isBl c = true
theorem isW_of {c : Int} (h : isSm c = true ∨ isGr c = true) : isW c = true := by unfold isW; rcases h with h | h <;> simp [h]
theorem bl_cases {c : Int} (h : isBl c = true) : c = 32 ∨ c = 9 ∨ c = 10 ∨ c = 13 := by simpa [isBl, or_assoc] using h
theorem bl_notW {c : Int} (h : isBl c = true) : isW c = false ∧ isDig c = false := by rcases bl_cases h with rfl | rfl | rfl | rfl <;> decide
theorem take_all {p : Int → Bool} {x r : List Int} (h : ∀ c ∈ x, p c = true) (hr : r = [] ∨ ∃ c l, r = c :: l ∧ p c = false) : (x ++ r).takeWhile p = x ∧ (x ++ r).dropWhile p = r := by
  induction x with
  | nil =>
    rcases hr with rfl | ⟨c, l, rfl, hc⟩
    · simp
    · simp [hc]
  | cons a x ih =>
    obtain ⟨h1, h2⟩ := ih fun c hc => h c (by simp [hc])
    have ha := h a (by simp)
    rw [List.cons_append, List.takeWhile_cons, List.dropWhile_cons, if_pos ha, if_pos ha, h1, h2]
    exact ⟨rfl, rfl⟩
theorem Ends.w {r : List Int} (h : Ends r) : r = [] ∨ ∃ c l, r = c :: l ∧ isW c = false := h.elim .inl fun ⟨c, l, e, k⟩ => .inr ⟨c, l, e, (bl_notW k).1⟩
theorem Ends.d {r : List Int} (h : Ends r) : r = [] ∨ ∃ c l, r = c :: l ∧ isDig c = false := h.elim .inl fun ⟨c, l, e, k⟩ => .inr ⟨c, l, e, (bl_notW k).2⟩
theorem head_app {x r : List Int} (h : x ≠ []) : (x ++ r).headD 0 = x.headD 0 := by cases x with
  | nil => exact absurd rfl h
  | cons a x => rfl
theorem word_list : ∀ x ∈ wordsL ++ primsL, x ≠ [] ∧ (∀ c ∈ x, isW c = true) ∧ isSm (x.headD 0) = true := by decide +kernel
theorem name_one {x r : List Int} (hx : x ≠ []) (hw : ∀ c ∈ x, isW c = true) (hh : isSm (x.headD 0) = true ∨ isGr (x.headD 0) = true) (hr : Ends r) : oneL (x ++ r) = (if x ∈ wordsL then .ok ⟨5, x, 0⟩ r else if x ∈ primsL then .ok ⟨6, x, 0⟩ r else if 24 < x.length then .err 3 0 else if isGr (x.headD 0) = true then .ok ⟨2, x, 0⟩ r else .ok ⟨1, x, 0⟩ r) := by
  obtain ⟨h1, h2⟩ := take_all hw hr.w
  unfold oneL
  rw [head_app hx, if_pos hh]
  unfold wordL
  rw [h1, h2, head_app hx]
theorem digL_ne (n : Nat) : digL n ≠ [] := by rw [digL]; split <;> simp
theorem digL_dig : ∀ (n : Nat), ∀ c ∈ digL n, isDig c = true := by
  intro n
  induction n using Nat.strongRecOn with
  | _ n ih =>
    intro c hc
    rw [digL] at hc
    split at hc
    · obtain rfl := List.mem_singleton.1 hc
      unfold isDig; rw [decide_eq_true_eq]; omega
    · rcases List.mem_append.1 hc with hc | hc
      · exact ih (n / 10) (by omega) c hc
      · obtain rfl := List.mem_singleton.1 hc
        unfold isDig; rw [decide_eq_true_eq]; omega
theorem valN_snoc (l : List Int) (c : Int) : valN (l ++ [c]) = 10 * valN l + (c - 48) := by simp [valN]
theorem valN_dig (n : Nat) : valN (digL n) = (n : Int) := by
  induction n using Nat.strongRecOn with
  | _ n ih =>
    rw [digL]
    split
    · show 10 * (0 : Int) + (48 + (n : Int) - 48) = n
      omega
    · rw [valN_snoc, ih (n / 10) (by omega)]; omega
/-- No nought ahead. -/
theorem digL_head : ∀ (n : Nat), (digL n).headD 0 = 48 → n = 0 := by
  intro n
  induction n using Nat.strongRecOn with
  | _ n ih =>
    intro h
    rw [digL] at h
    split at h
    · have : (48 : Int) + (n : Int) = 48 := h
      omega
    · rw [head_app (digL_ne _)] at h
      have := ih (n / 10) (by omega) h
      omega
theorem num_one (n : Nat) (hn : n ≤ 1099511627776) {r : List Int} (hr : Ends r) : oneL (digL n ++ r) = .ok ⟨3, [], (n : Int)⟩ r := by
  obtain ⟨h1, h2⟩ := take_all (digL_dig n) hr.d
  have hd : isDig ((digL n).headD 0) = true := by
    cases e : digL n with
    | nil => exact absurd e (digL_ne n)
    | cons a l => exact digL_dig n a (by rw [e]; simp)
  have hb := of_decide_eq_true (show decide (48 ≤ (digL n).headD 0 ∧ (digL n).headD 0 ≤ 57) = true from hd)
  unfold oneL
  rw [head_app (digL_ne n), if_neg (by
    rintro (h | h)
    · have := of_decide_eq_true (show decide (97 ≤ (digL n).headD 0 ∧ (digL n).headD 0 ≤ 122) = true from h); omega
    · have := of_decide_eq_true (show decide (65 ≤ (digL n).headD 0 ∧ (digL n).headD 0 ≤ 90) = true from h); omega), if_pos hd]
  unfold numL
  rw [h1, h2, valN_dig, head_app (digL_ne n), if_neg, if_neg (by omega)]
  rintro ⟨h3, h4⟩
  have h5 := digL_head n h3
  subst h5
  have h6 : digL 0 = [48] := by rw [digL]; rfl
  rw [h6] at h4
  rcases hr.d with rfl | ⟨c, l, rfl, hc⟩
  · revert h4; decide
  · have : isDig c = true := h4
    rw [hc] at this; cases this
theorem quo_esc : ∀ (x acc r : List Int) (d : Nat), quoL (x.flatMap escC ++ 34 :: r) acc d = .ok ⟨4, acc ++ x, 0⟩ r
  | [], acc, r, d => by rw [List.flatMap_nil, List.nil_append, quoL, if_pos rfl, List.append_nil]
  | c :: x, acc, r, d => by
    rw [List.flatMap_cons, List.append_assoc]
    have ih := fun d => quo_esc x (acc ++ [c]) r d
    have e : acc ++ [c] ++ x = acc ++ c :: x := by simp
    rw [e] at ih
    unfold escC
    by_cases h10 : c = 10
    · subst h10
      rw [if_pos rfl]
      show quoL (92 :: 110 :: _) acc d = _
      rw [quoL, if_neg (by decide), if_neg (by decide), if_pos rfl, if_neg (by rw [List.headD_cons]; decide)]
      exact ih _
    rw [if_neg h10]
    by_cases h9 : c = 9
    · subst h9
      rw [if_pos rfl]
      show quoL (92 :: 116 :: _) acc d = _
      rw [quoL, if_neg (by decide), if_neg (by decide), if_pos rfl, if_neg (by rw [List.headD_cons]; decide)]
      exact ih _
    rw [if_neg h9]
    by_cases h34 : c = 34
    · subst h34
      rw [if_pos (.inl rfl)]
      show quoL (92 :: 34 :: _) acc d = _
      rw [quoL, if_neg (by decide), if_neg (by decide), if_pos rfl, if_neg (by rw [List.headD_cons]; decide)]
      exact ih _
    by_cases h92 : c = 92
    · subst h92
      rw [if_pos (.inr rfl)]
      show quoL (92 :: 92 :: _) acc d = _
      rw [quoL, if_neg (by decide), if_neg (by decide), if_pos rfl, if_neg (by rw [List.headD_cons]; decide)]
      exact ih _
    rw [if_neg (by rintro (h | h); exact h34 h; exact h92 h)]
    show quoL (c :: _) acc d = _
    rw [quoL, if_neg h34, if_neg h10, if_neg h92]
    exact ih _
theorem str_one (x : List Int) (r : List Int) : oneL (34 :: (x.flatMap escC ++ [34]) ++ r) = .ok ⟨4, x, 0⟩ r := by
  have := quo_esc x [] r 1
  rw [List.nil_append] at this
  unfold oneL
  rw [List.cons_append, List.headD_cons, if_neg (by decide), if_neg (by decide), if_pos rfl, List.tail_cons, List.append_assoc]
  exact this
theorem sign_facts : ∀ x ∈ signsL, x ≠ [] ∧ x.length ≤ 3 ∧ isSm (x.headD 0) = false ∧ isGr (x.headD 0) = false ∧ isDig (x.headD 0) = false ∧ x.headD 0 ≠ 34 ∧ isBl (x.headD 0) = false ∧ (∀ c ∈ x, isBl c = false) ∧ ¬ (x.headD 0 = 45 ∧ x.tail.head? = some 45) := by decide +kernel
theorem sign_no {x : List Int} {c : Int} (hc : isBl c = true) (h : c ∈ x) : x ∉ signsL := fun hx => by
  have := (sign_facts x hx).2.2.2.2.2.2.2.1 c h
  rw [hc] at this; cases this
theorem take_end {x r : List Int} (hr : Ends r) {k : Nat} (hk : x.length < k) (hl : k ≤ (x ++ r).length) : (x ++ r).take k ∉ signsL := by
  rcases hr with rfl | ⟨c, l, rfl, hc⟩
  · rw [List.append_nil] at hl; omega
  · refine sign_no hc ?_
    have e : x ++ c :: l = (x ++ [c]) ++ l := by simp
    rw [e, List.take_append, List.take_of_length_le (by simp; omega)]
    simp
theorem sign_one {x r : List Int} (hx : x ∈ signsL) (hr : Ends r) : oneL (x ++ r) = .ok ⟨5, x, 0⟩ r := by
  obtain ⟨h1, h2, h3, h4, h5, h6, -⟩ := sign_facts x hx
  have hp : 0 < x.length := List.length_pos_iff.2 h1
  have hl : (x ++ r).length = x.length + r.length := List.length_append
  unfold oneL
  rw [head_app h1, if_neg (by rw [h3, h4]; simp), if_neg (by rw [h5]; simp), if_neg h6]
  have ht : (x ++ r).take x.length = x := by simp
  have hd : (x ++ r).drop x.length = r := by simp
  unfold signL
  have hc : x.length = 1 ∨ x.length = 2 ∨ x.length = 3 := by omega
  rcases hc with hc | hc | hc
  · rw [if_neg (fun h => take_end hr (by omega) h.1 h.2), if_neg (fun h => take_end hr (by omega) h.1 h.2)]
    rw [hc] at ht hd
    rw [ht, hd, if_pos ⟨by omega, hx⟩]
  · rw [if_neg (fun h => take_end hr (by omega) h.1 h.2)]
    rw [hc] at ht hd
    rw [ht, hd, if_pos ⟨by omega, hx⟩]
  · rw [hc] at ht hd
    rw [ht, hd, if_pos ⟨by omega, hx⟩]
/-- What is written of a token that may be is read as it, where what stands behind ends it for sure. -/
theorem put_one {t : Tk} (ht : MayT t) {r : List Int} (hr : Ends r) : oneL (putL t ++ r) = .ok t r := by
  obtain ⟨k, x, n⟩ := t
  rcases ht with ⟨rfl, ⟨h1, h2, h3, h4, h5, h6⟩, rfl⟩ | ⟨rfl, ⟨h1, h2, h3, h4, h5, h6⟩, rfl⟩ | ⟨rfl, h1, h2, rfl⟩ | ⟨rfl, h1, rfl⟩ | ⟨rfl, h1, rfl⟩ | ⟨rfl, h1, rfl⟩
  · show oneL (x ++ r) = _
    have h4' : isSm (x.headD 0) = true := h4
    rw [name_one h1 h3 (.inl h4') hr, if_neg h5, if_neg h6, if_neg (by omega), if_neg]
    have := of_decide_eq_true (show decide (97 ≤ x.headD 0 ∧ x.headD 0 ≤ 122) = true from h4')
    intro h
    have := of_decide_eq_true (show decide (65 ≤ x.headD 0 ∧ x.headD 0 ≤ 90) = true from h)
    omega
  · show oneL (x ++ r) = _
    have h4' : isGr (x.headD 0) = true := h4
    rw [name_one h1 h3 (.inr h4') hr, if_neg h5, if_neg h6, if_neg (by omega), if_pos h4']
  · show oneL (digL n.toNat ++ r) = _
    have h1' : 0 ≤ n := h1
    have h2' : n ≤ 1099511627776 := h2
    rw [num_one n.toNat (by omega) hr, Int.toNat_of_nonneg h1']
  · exact str_one x r
  · show oneL (x ++ r) = _
    rcases h1 with h1 | h1
    · obtain ⟨a1, a2, a3⟩ := word_list x (List.mem_append.2 (.inl h1))
      rw [name_one a1 a2 (.inl a3) hr, if_pos h1]
    · exact sign_one h1 hr
  · show oneL (x ++ r) = _
    have h1' : x ∈ primsL := h1
    obtain ⟨a1, a2, a3⟩ := word_list x (List.mem_append.2 (.inr h1'))
    have hn : x ∉ wordsL := by
      have : ∀ y ∈ primsL, y ∉ wordsL := by decide +kernel
      exact this x h1'
    rw [name_one a1 a2 (.inl a3) hr, if_neg hn, if_pos h1']
/-- What a text is read as: tokens, each with how many code points stand ahead, or an error and where it is. -/
inductive Rs where
  | ok (ps : List (Tk × Nat))
  | err (e : Int) (o : Nat)
def Rs.cons (p : Tk × Nat) : Rs → Rs
  | .ok ps => .ok (p :: ps)
  | .err e o => .err e o
def toksF : Nat → List Int → Nat → Rs
  | 0, _, _ => .ok []
  | f + 1, l, o =>
    if skipL l = [] then .ok []
    else match oneL (skipL l) with
      | .err e d => .err e (o + (l.length - (skipL l).length) + d)
      | .ok t r => (toksF f r (o + (l.length - r.length))).cons (t, o + (l.length - (skipL l).length))
theorem skip_suf : ∀ (n : Nat) (l : List Int), l.length ≤ n → ∃ u, l = u ++ skipL l
  | _, [], _ => ⟨[], by rw [skipL_nil]; rfl⟩
  | 0, c :: l, h => by simp at h
  | n + 1, c :: l, h => by
    have hl : l.length ≤ n := by simpa using h
    rw [skipL]
    split
    · obtain ⟨u, hu⟩ := skip_suf n l hl
      exact ⟨c :: u, by rw [List.cons_append, ← hu]⟩
    split
    · have h1 := dropWhile_len (fun x : Int => decide (x ≠ 10)) l
      obtain ⟨u, hu⟩ := skip_suf n (l.dropWhile fun x => decide (x ≠ 10)) (by omega)
      exact ⟨c :: (l.takeWhile (fun x => decide (x ≠ 10)) ++ u), by rw [List.cons_append, List.append_assoc, ← hu, List.takeWhile_append_dropWhile]⟩
    · exact ⟨[], rfl⟩
/-- Behind blanks and remarks stands the end, or what is neither. -/
theorem skip_head : ∀ (n : Nat) (l : List Int), l.length ≤ n → skipL l = [] ∨ (∃ c r, skipL l = c :: r ∧ isBl c = false)
  | _, [], _ => .inl skipL_nil
  | 0, c :: l, h => by simp at h
  | n + 1, c :: l, h => by
    have hl : l.length ≤ n := by simpa using h
    rw [skipL]
    split
    · exact skip_head n l hl
    split
    · have h1 := dropWhile_len (fun x : Int => decide (x ≠ 10)) l
      exact skip_head n _ (by omega)
    · rename_i h2 _
      exact .inr ⟨c, l, rfl, by simpa using h2⟩
theorem drop_suf {l u : List Int} {r : List Int} (h : l = u ++ r) : r = l.drop (l.length - r.length) := by
  subst h
  rw [List.length_append, show u.length + r.length - r.length = u.length by omega, List.drop_left]
theorem quo_facts : ∀ (n : Nat) (l acc : List Int) (d : Nat) (t : Tk) (r : List Int), l.length ≤ n → quoL l acc d = .ok t r → (∀ c ∈ l, cpB c = true) → (∀ c ∈ acc, cpB c = true) → (t.k = 4 ∧ t.n = 0 ∧ ∀ c ∈ t.x, cpB c = true) ∧ (∃ u, l = u ++ r) ∧ r.length < l.length
  | _, [], acc, d, t, r, _, h, _, _ => by rw [quoL] at h; cases h
  | 0, c :: l, _, _, _, _, h, _, _, _ => by simp at h
  | n + 1, c :: l, acc, d, t, r, hn, h, hl, ha => by
    have hn' : l.length ≤ n := by simpa using hn
    rw [quoL] at h
    split at h
    · injection h with h1 h2
      subst h1 h2
      exact ⟨⟨rfl, rfl, ha⟩, ⟨[c], rfl⟩, by simp⟩
    split at h
    · cases h
    split at h
    · split at h
      · cases h
      · rename_i hv
        have hlt : l.tail.length ≤ n := by rw [List.length_tail]; omega
        have hne : l ≠ [] := fun e => hv (by rw [e]; decide)
        have hev : cpB (escV (l.headD 0)) = true := by
          unfold escV at hv ⊢
          repeat' split
          all_goals first | decide | simp_all
        obtain ⟨h1, ⟨u, hu⟩, h3⟩ := quo_facts n l.tail _ _ t r hlt h (fun x hx => hl x (by simp [List.mem_of_mem_tail hx])) (fun x hx => by
          rcases List.mem_append.1 hx with hx | hx
          · exact ha x hx
          · obtain rfl := List.mem_singleton.1 hx; exact hev)
        cases l with
        | nil => exact absurd rfl hne
        | cons e l => exact ⟨h1, ⟨c :: e :: u, by rw [List.cons_append, List.cons_append, ← hu]; rfl⟩, by simp only [List.tail_cons] at h3; simp only [List.length_cons]; omega⟩
    · obtain ⟨h1, ⟨u, hu⟩, h3⟩ := quo_facts n l _ _ t r hn' h (fun x hx => hl x (by simp [hx])) (fun x hx => by
        rcases List.mem_append.1 hx with hx | hx
        · exact ha x hx
        · obtain rfl := List.mem_singleton.1 hx; exact hl _ (by simp))
      exact ⟨h1, ⟨c :: u, by rw [List.cons_append, ← hu]⟩, by simp only [List.length_cons]; omega⟩
theorem valN_nonneg (l : List Int) (h : ∀ c ∈ l, isDig c = true) : 0 ≤ valN l := by
  have : ∀ (l : List Int) (a : Int), 0 ≤ a → (∀ c ∈ l, isDig c = true) → 0 ≤ l.foldl (fun n c => 10 * n + (c - 48)) a := by
    intro l
    induction l with
    | nil => intro a ha _; exact ha
    | cons c l ih =>
      intro a ha hc
      have h1 := of_decide_eq_true (show decide (48 ≤ c ∧ c ≤ 57) = true from hc c (by simp))
      exact ih _ (by show 0 ≤ 10 * a + (c - 48); omega) fun x hx => hc x (by simp [hx])
  exact this l 0 (by omega) h
theorem takeWhile_all (p : Int → Bool) : ∀ l : List Int, ∀ c ∈ l.takeWhile p, p c = true
  | [], c, h => by simp at h
  | a :: l, c, h => by
    rw [List.takeWhile_cons] at h
    split at h
    · rcases List.mem_cons.1 h with rfl | h
      · assumption
      · exact takeWhile_all p l c h
    · simp at h
theorem take_head {p : Int → Bool} {l : List Int} (h : p (l.headD 0) = true) (hne : l ≠ []) : l.takeWhile p ≠ [] ∧ (l.takeWhile p).headD 0 = l.headD 0 ∧ (l.dropWhile p).length < l.length := by
  cases l with
  | nil => exact absurd rfl hne
  | cons a l =>
    have ha : p a = true := h
    rw [List.takeWhile_cons, if_pos ha, List.dropWhile_cons, if_pos ha]
    exact ⟨by simp, rfl, by have := dropWhile_len p l; simp only [List.length_cons]; omega⟩
/-- What is read is a token that may be, and what stands behind stands behind. -/
theorem one_facts {l : List Int} {t : Tk} {r : List Int} (hne : l ≠ []) (h : oneL l = .ok t r) (hl : ∀ c ∈ l, cpB c = true) : MayT t ∧ (∃ u, l = u ++ r) ∧ r.length < l.length := by
  unfold oneL at h
  split at h
  · rename_i hh
    have hw : isW (l.headD 0) = true := isW_of hh
    obtain ⟨h1, h2, h3⟩ := take_head (p := isW) hw hne
    have hsuf : ∃ u, l = u ++ l.dropWhile isW := ⟨l.takeWhile isW, (List.takeWhile_append_dropWhile).symm⟩
    have hall := takeWhile_all isW l
    unfold wordL at h
    split at h
    · injection h with e1 e2; subst e1 e2
      exact ⟨.inr (.inr (.inr (.inr (.inl ⟨rfl, .inl ‹_›, rfl⟩)))), hsuf, h3⟩
    split at h
    · injection h with e1 e2; subst e1 e2
      exact ⟨.inr (.inr (.inr (.inr (.inr ⟨rfl, ‹_›, rfl⟩)))), hsuf, h3⟩
    split at h
    · cases h
    rename_i n1 n2 n3
    split at h
    · rename_i hg
      injection h with e1 e2; subst e1 e2
      exact ⟨.inr (.inl ⟨rfl, ⟨h1, by show (l.takeWhile isW).length ≤ 24; omega, hall, by show (if true = true then isGr ((l.takeWhile isW).headD 0) = true else _); rw [if_pos rfl, h2]; exact hg, n1, n2⟩, rfl⟩), hsuf, h3⟩
    · rename_i hg
      injection h with e1 e2; subst e1 e2
      exact ⟨.inl ⟨rfl, ⟨h1, by show (l.takeWhile isW).length ≤ 24; omega, hall, by show (if false = true then _ else isSm ((l.takeWhile isW).headD 0) = true); rw [if_neg (by decide), h2]; exact hh.resolve_right hg, n1, n2⟩, rfl⟩, hsuf, h3⟩
  split at h
  · rename_i hd
    obtain ⟨h1, h2, h3⟩ := take_head (p := isDig) hd hne
    unfold numL at h
    split at h
    · cases h
    split at h
    · cases h
    injection h with e1 e2; subst e1 e2
    exact ⟨.inr (.inr (.inl ⟨rfl, valN_nonneg _ (takeWhile_all isDig l), by show valN _ ≤ _; omega, rfl⟩)), ⟨l.takeWhile isDig, (List.takeWhile_append_dropWhile).symm⟩, h3⟩
  split at h
  · have hlt : l.tail.length < l.length := by
      cases l with
      | nil => exact absurd rfl hne
      | cons a l => simp
    obtain ⟨⟨a1, a2, a3⟩, ⟨u, hu⟩, h3⟩ := quo_facts _ l.tail [] 1 t r (Nat.le_refl _) h (fun x hx => hl x (List.mem_of_mem_tail hx)) (fun x hx => by simp at hx)
    refine ⟨.inr (.inr (.inr (.inl ⟨a1, a3, a2⟩))), ?_, by omega⟩
    cases l with
    | nil => exact absurd rfl hne
    | cons a l => exact ⟨a :: u, by rw [List.cons_append, ← hu]; rfl⟩
  · unfold signL at h
    split at h
    · rename_i hc
      injection h with e1 e2; subst e1 e2
      exact ⟨.inr (.inr (.inr (.inr (.inl ⟨rfl, .inr hc.2, rfl⟩)))), ⟨l.take 3, (List.take_append_drop 3 l).symm⟩, by rw [List.length_drop]; omega⟩
    split at h
    · rename_i hc
      injection h with e1 e2; subst e1 e2
      exact ⟨.inr (.inr (.inr (.inr (.inl ⟨rfl, .inr hc.2, rfl⟩)))), ⟨l.take 2, (List.take_append_drop 2 l).symm⟩, by rw [List.length_drop]; omega⟩
    split at h
    · rename_i hc
      injection h with e1 e2; subst e1 e2
      exact ⟨.inr (.inr (.inr (.inr (.inl ⟨rfl, .inr hc.2, rfl⟩)))), ⟨l.take 1, (List.take_append_drop 1 l).symm⟩, by rw [List.length_drop]; omega⟩
    · cases h
theorem cp_suf {l u r : List Int} (h : l = u ++ r) (hl : ∀ c ∈ l, cpB c = true) : ∀ c ∈ r, cpB c = true := fun c hc => hl c (by rw [h]; simp [hc])
theorem skip_cp {l : List Int} (hl : ∀ c ∈ l, cpB c = true) : ∀ c ∈ skipL l, cpB c = true := by
  obtain ⟨u, hu⟩ := skip_suf _ l (Nat.le_refl _)
  exact cp_suf hu hl
theorem toks_step {f : Nat} {l : List Int} {o : Nat} (h : skipL l ≠ []) : toksF (f + 1) l o = (match oneL (skipL l) with
      | .err e d => .err e (o + (l.length - (skipL l).length) + d)
      | .ok t r => (toksF f r (o + (l.length - r.length))).cons (t, o + (l.length - (skipL l).length))) := by
  rw [toksF, if_neg h]
theorem toks_end {f : Nat} {l : List Int} {o : Nat} (h : skipL l = []) : toksF (f + 1) l o = .ok [] := by rw [toksF, if_pos h]
/-- As many rounds as there are code points, and one more, are enough. -/
theorem toks_fuel : ∀ (f g : Nat) (l : List Int) (o : Nat), (∀ c ∈ l, cpB c = true) → l.length < f → l.length < g → toksF f l o = toksF g l o
  | 0, _, _, _, _, h, _ => by omega
  | _, 0, _, _, _, _, h => by omega
  | f + 1, g + 1, l, o, hc, hf, hg => by
    by_cases h : skipL l = []
    · rw [toks_end h, toks_end h]
    · rw [toks_step h, toks_step h]
      have hs := skipL_len _ l (Nat.le_refl _)
      cases e : oneL (skipL l) with
      | err x d => rfl
      | ok t r =>
        obtain ⟨_, ⟨u, hu⟩, hr⟩ := one_facts h e (skip_cp hc)
        show Rs.cons _ (toksF f r _) = Rs.cons _ (toksF g r _)
        rw [toks_fuel f g r _ (cp_suf hu (skip_cp hc)) (by omega) (by omega)]
/-- A list of tokens, each once. -/
inductive Wr : List Tk → List Int → Prop
  | nil {e : List Int} (h : Blanks e) : Wr [] e
  | cons {g l : List Int} {t : Tk} {ts : List Tk} (hg : Blanks g) (ht : MayT t) (hw : Wr ts l) (he : Ends l) : Wr (t :: ts) (g ++ (putL t ++ l))
theorem put_head {t : Tk} (ht : MayT t) {r : List Int} (hr : Ends r) : ∃ c l, putL t ++ r = c :: l ∧ isBl c = false ∧ ¬ (c = 45 ∧ l.head? = some 45) := by
  have hW : ∀ c, isW c = true → isBl c = false ∧ c ≠ 45 := fun c h => by
    have : c = 32 ∨ c = 9 ∨ c = 10 ∨ c = 13 ∨ c = 45 → isW c = false := by rintro (rfl | rfl | rfl | rfl | rfl) <;> decide
    refine ⟨?_, fun e => ?_⟩
    · cases hb : isBl c
      · rfl
      · have := this (by rcases bl_cases hb with e | e | e | e <;> simp [e])
        rw [h] at this; cases this
    · have := this (by simp [e])
      rw [h] at this; cases this
  have name : ∀ x : List Int, x ≠ [] → (∀ c ∈ x, isW c = true) → ∃ c l, x ++ r = c :: l ∧ isBl c = false ∧ ¬ (c = 45 ∧ l.head? = some 45) := fun x h1 h2 => by
    cases x with
    | nil => exact absurd rfl h1
    | cons a x =>
      have := hW a (h2 a (by simp))
      exact ⟨a, x ++ r, rfl, this.1, fun h => this.2 h.1⟩
  obtain ⟨k, x, n⟩ := t
  rcases ht with ⟨rfl, ⟨h1, h2, h3, h4, h5, h6⟩, rfl⟩ | ⟨rfl, ⟨h1, h2, h3, h4, h5, h6⟩, rfl⟩ | ⟨rfl, h1, h2, rfl⟩ | ⟨rfl, h1, rfl⟩ | ⟨rfl, h1, rfl⟩ | ⟨rfl, h1, rfl⟩
  · exact name x h1 h3
  · exact name x h1 h3
  · exact name (digL n.toNat) (digL_ne _) fun c hc => by have := digL_dig _ c hc; unfold isW; simp [this]
  · exact ⟨34, _, rfl, by decide, by rintro ⟨h, -⟩; cases h⟩
  · show ∃ c l, x ++ r = c :: l ∧ _
    rcases h1 with h1 | h1
    · obtain ⟨a1, a2, -⟩ := word_list x (List.mem_append.2 (.inl h1))
      exact name x a1 a2
    · obtain ⟨a1, -, -, -, -, -, a7, -, a9⟩ := sign_facts x h1
      cases x with
      | nil => exact absurd rfl a1
      | cons a x =>
        refine ⟨a, x ++ r, rfl, a7, ?_⟩
        rintro ⟨b1, b2⟩
        cases x with
        | nil =>
          rcases hr with rfl | ⟨c, l, rfl, hc⟩
          · cases b2
          · injection b2 with b2
            rw [b2] at hc; revert hc; decide
        | cons b x => exact a9 ⟨b1, b2⟩
  · have h1' : x ∈ primsL := h1
    obtain ⟨a1, a2, -⟩ := word_list x (List.mem_append.2 (.inr h1'))
    exact name x a1 a2
theorem put_skip {t : Tk} (ht : MayT t) {r : List Int} (hr : Ends r) : skipL (putL t ++ r) = putL t ++ r ∧ putL t ++ r ≠ [] := by
  obtain ⟨c, l, e, h1, h2⟩ := put_head ht hr
  rw [e]
  exact ⟨skipL_stop h1 h2, by simp⟩
/-- What is written is read as it was. -/
theorem wr_toks {ts : List Tk} {l : List Int} (h : Wr ts l) : ∀ (f o : Nat), l.length < f → ∃ ps, toksF f l o = .ok ps ∧ ps.map (·.1) = ts := by
  induction h with
  | nil he =>
    intro f o hf
    cases f with
    | zero => omega
    | succ f =>
      have := skip_blanks he []
      rw [List.append_nil, skipL_nil] at this
      exact ⟨[], toks_end this, rfl⟩
  | cons hg ht hw he ih =>
    rename_i g l t ts
    intro f o hf
    cases f with
    | zero => omega
    | succ f =>
      obtain ⟨h1, h2⟩ := put_skip ht he
      have hs : skipL (g ++ (putL t ++ l)) = putL t ++ l := by rw [skip_blanks hg, h1]
      have hp : 0 < (putL t).length := by
        rcases Nat.eq_zero_or_pos (putL t).length with h0 | h0
        · have h3 := List.eq_nil_of_length_eq_zero h0
          obtain ⟨c, q, e, h4, -⟩ := put_head ht (r := []) (.inl rfl)
          rw [h3] at e; cases e
        · exact h0
      obtain ⟨ps, h3, h4⟩ := ih f (o + ((g ++ (putL t ++ l)).length - l.length)) (by simp only [List.length_append] at hf; omega)
      refine ⟨(t, o + ((g ++ (putL t ++ l)).length - (putL t ++ l).length)) :: ps, ?_, by rw [List.map_cons, h4]⟩
      rw [toks_step (by rw [hs]; exact h2), hs, put_one ht he]
      show Rs.cons _ (toksF f l _) = _
      rw [h3]; rfl
theorem skip_skip : ∀ (n : Nat) (l : List Int), l.length ≤ n → skipL (skipL l) = skipL l
  | _, [], _ => by rw [skipL_nil, skipL_nil]
  | 0, c :: l, h => by simp at h
  | n + 1, c :: l, h => by
    have hl : l.length ≤ n := by simpa using h
    by_cases h1 : isBl c = true
    · rw [skipL_bl h1]; exact skip_skip n l hl
    · have h1' : isBl c = false := by simpa using h1
      by_cases h2 : c = 45 ∧ l.head? = some 45
      · have e : skipL (c :: l) = skipL (l.dropWhile fun x => decide (x ≠ 10)) := by rw [skipL, if_neg h1, if_pos h2]
        have h3 := dropWhile_len (fun x : Int => decide (x ≠ 10)) l
        rw [e]; exact skip_skip n _ (by omega)
      · rw [skipL_stop h1' h2, skipL_stop h1' h2]
/-- What was read may be. -/
theorem toks_may : ∀ (f : Nat) (l : List Int) (o : Nat) (ps : List (Tk × Nat)), (∀ c ∈ l, cpB c = true) → toksF f l o = .ok ps → ∀ p ∈ ps, MayT p.1
  | 0, l, o, ps, _, h, p, hp => by injection h with h; subst h; simp at hp
  | f + 1, l, o, ps, hc, h, p, hp => by
    by_cases hs : skipL l = []
    · rw [toks_end hs] at h; injection h with h; subst h; simp at hp
    · rw [toks_step hs] at h
      cases e : oneL (skipL l) with
      | err x d => rw [e] at h; cases h
      | ok t r =>
        rw [e] at h
        obtain ⟨hm, ⟨u, hu⟩, hr⟩ := one_facts hs e (skip_cp hc)
        cases e2 : toksF f r (o + (l.length - r.length)) with
        | err x d =>
          have h' : Rs.cons (t, o + (l.length - (skipL l).length)) (toksF f r (o + (l.length - r.length))) = .ok ps := h
          rw [e2] at h'; cases h'
        | ok qs =>
          have h' : Rs.cons (t, o + (l.length - (skipL l).length)) (toksF f r (o + (l.length - r.length))) = .ok ps := h
          rw [e2] at h'
          injection h' with h'
          subst h'
          rcases List.mem_cons.1 hp with rfl | hp
          · exact hm
          · exact toks_may f r _ qs (cp_suf hu (skip_cp hc)) e2 p hp
/-- Tokens with one blank between two. -/
def writeL : List Tk → List Int
  | [] => []
  | [t] => putL t
  | t :: u :: ts => putL t ++ (32 :: writeL (u :: ts))
theorem write_wr : ∀ (ts : List Tk), (∀ t ∈ ts, MayT t) → ∀ g, Blanks g → Wr ts (g ++ writeL ts)
  | [], _, g, hg => by rw [show writeL [] = [] from rfl, List.append_nil]; exact .nil hg
  | [t], h, g, hg => by
    have := Wr.cons hg (h t (by simp)) (.nil .nil) (.inl rfl)
    rwa [List.append_nil] at this
  | t :: u :: ts, h, g, hg => .cons hg (h t (by simp)) (write_wr (u :: ts) (fun x hx => h x (by simp [List.mem_cons.1 hx])) [32] (.bl (by decide) .nil)) (.inr ⟨32, _, rfl, by decide⟩)
/-- Further on a text is read likewise. -/
theorem toks_shift : ∀ (f : Nat) (l : List Int) (o k : Nat), toksF f l (o + k) = (match toksF f l o with | .ok ps => .ok (ps.map fun p => (p.1, p.2 + k)) | .err e d => .err e (d + k))
  | 0, l, o, k => rfl
  | f + 1, l, o, k => by
    by_cases hs : skipL l = []
    · rw [toks_end hs, toks_end hs]; rfl
    · rw [toks_step hs, toks_step hs]
      cases e : oneL (skipL l) with
      | err x d =>
        show Rs.err _ _ = Rs.err _ _
        congr 1; omega
      | ok t r =>
        show Rs.cons _ (toksF f r _) = _
        have ih := toks_shift f r (o + (l.length - r.length)) k
        rw [show o + k + (l.length - r.length) = o + (l.length - r.length) + k by omega, ih]
        show _ = (match Rs.cons _ (toksF f r (o + (l.length - r.length))) with | .ok ps => _ | .err e d => _)
        cases toksF f r (o + (l.length - r.length)) with
        | err x d => rfl
        | ok qs =>
          show Rs.ok _ = Rs.ok _
          rw [List.map_cons]
          congr 2
          show (t, _) = (t, _)
          congr 1; omega
/-- From a token's place on a text tells that token first, and those behind it. -/
theorem toks_tail : ∀ (f : Nat) (l : List Int) (o : Nat) (ps : List (Tk × Nat)), (∀ c ∈ l, cpB c = true) → l.length < f → toksF f l o = .ok ps → ∀ (n : Nat) (p : Tk × Nat), ps[n]? = some p → o ≤ p.2 ∧ p.2 < o + l.length ∧ ∀ g, (l.drop (p.2 - o)).length < g → toksF g (l.drop (p.2 - o)) p.2 = .ok (ps.drop n)
  | 0, l, o, ps, _, hf, _, _, _, _ => by omega
  | f + 1, l, o, ps, hc, hf, h, n, p, hp => by
    by_cases hs : skipL l = []
    · rw [toks_end hs] at h; injection h with h; subst h; simp at hp
    · have h0 := h
      rw [toks_step hs] at h
      cases e : oneL (skipL l) with
      | err x d => rw [e] at h; cases h
      | ok t r =>
        rw [e] at h
        have h' : Rs.cons (t, o + (l.length - (skipL l).length)) (toksF f r (o + (l.length - r.length))) = .ok ps := h
        obtain ⟨hm, ⟨u, hu⟩, hr⟩ := one_facts hs e (skip_cp hc)
        obtain ⟨u0, hu0⟩ := skip_suf _ l (Nat.le_refl _)
        have hsl := skipL_len _ l (Nat.le_refl _)
        have hpos : 0 < (skipL l).length := List.length_pos_iff.2 hs
        cases e2 : toksF f r (o + (l.length - r.length)) with
        | err x d => rw [e2] at h'; cases h'
        | ok qs =>
          rw [e2] at h'
          injection h' with h'
          cases n with
          | zero =>
            subst h'
            simp only [List.getElem?_cons_zero, Option.some.injEq] at hp
            subst hp
            refine ⟨by show o ≤ o + _; omega, by show o + (l.length - (skipL l).length) < _; omega, fun g hg => ?_⟩
            show toksF g (l.drop (o + (l.length - (skipL l).length) - o)) (o + (l.length - (skipL l).length)) = _
            have hd : l.drop (o + (l.length - (skipL l).length) - o) = skipL l := by rw [show o + (l.length - (skipL l).length) - o = l.length - (skipL l).length by omega]; exact (drop_suf hu0).symm
            have hg' : (skipL l).length < g := by
              have : (l.drop (o + (l.length - (skipL l).length) - o)).length < g := hg
              rwa [hd] at this
            rw [hd]
            cases g with
            | zero => omega
            | succ g =>
              have hss : skipL (skipL l) = skipL l := skip_skip _ l (Nat.le_refl _)
              rw [toks_step (by rw [hss]; exact hs), hss, e]
              show Rs.cons _ (toksF g r _) = _
              rw [show o + (l.length - (skipL l).length) + ((skipL l).length - r.length) = o + (l.length - r.length) by omega]
              rw [toks_fuel g f r _ (cp_suf hu (skip_cp hc)) (by omega) (by omega), e2]
              show Rs.ok _ = Rs.ok _
              rw [Nat.sub_self, Nat.add_zero]; rfl
          | succ n =>
            subst h'
            simp only [List.getElem?_cons_succ] at hp
            obtain ⟨g1, g2, g3⟩ := toks_tail f r _ qs (cp_suf hu (skip_cp hc)) (by omega) e2 n p hp
            refine ⟨by omega, by omega, fun g hg => ?_⟩
            have hlr : l = (u0 ++ u) ++ r := by rw [List.append_assoc, ← hu, ← hu0]
            have hd : l.drop (p.2 - o) = r.drop (p.2 - (o + (l.length - r.length))) := by
              have hll : l.length = (u0 ++ u).length + r.length := by conv => lhs; rw [hlr, List.length_append]
              have hle : l.length - r.length = (u0 ++ u).length := by omega
              have hdr : List.drop (l.length - r.length) l = r := by
                rw [hle]; exact (congrArg (List.drop (u0 ++ u).length) hlr).trans List.drop_left
              rw [show p.2 - o = (l.length - r.length) + (p.2 - (o + (l.length - r.length))) by omega, ← List.drop_drop, hdr]
            rw [hd] at hg ⊢
            rw [g3 g hg]; rfl
end Go.Proofs.YteockaolmobmeaaGreatDoor.Mu
namespace Go.Proofs.YteockaolmobmeaaGreatDoor.Mu
open Go
set_option maxRecDepth 100000

/-- Bytes as numbers. -/
def asc (s : List UInt8) : List Int := s.map fun u => (u.toNat : Int)
def byt (l : List Int) : List UInt8 := l.map fun c => UInt8.ofNat c.toNat
theorem encs_low : ∀ {l : List Int}, (∀ c ∈ l, 0 ≤ c ∧ c < 128) → encs l = byt l
  | [], _ => rfl
  | c :: l, h => by
    rw [encs_cons, encs_low fun x hx => h x (by simp [hx]), enc1 (h c (by simp)).1 (h c (by simp)).2]; rfl
theorem asc_byt : ∀ {l : List Int}, (∀ c ∈ l, 0 ≤ c ∧ c < 128) → asc (byt l) = l
  | [], _ => rfl
  | c :: l, h => by
    have h1 := h c (by simp)
    have ih := asc_byt (l := l) fun x hx => h x (by simp [hx])
    show ((UInt8.ofNat c.toNat).toNat : Int) :: asc (byt l) = c :: l
    rw [ih, UInt8.toNat_ofNat']
    congr 1
    rw [Nat.mod_eq_of_lt (by omega)]
    omega
theorem byt_asc : ∀ (s : List UInt8), byt (asc s) = s
  | [] => rfl
  | u :: s => by
    show UInt8.ofNat ((u.toNat : Int)).toNat :: byt (asc s) = u :: s
    rw [byt_asc s]; simp
theorem asc_low {s : List UInt8} (h : ∀ u ∈ s, u.toNat < 128) : ∀ c ∈ asc s, 0 ≤ c ∧ c < 128 := fun c hc => by
  obtain ⟨u, hu, rfl⟩ := List.mem_map.1 hc
  have := h u hu
  omega
theorem encs_asc {s : List UInt8} (h : ∀ u ∈ s, u.toNat < 128) : encs (asc s) = s := by
  rw [encs_low (asc_low h), byt_asc]
theorem cp_low {c : Int} (h : 0 ≤ c ∧ c < 128) : cpB c = true := (cpB_iff c).2 (.inl ⟨h.1, by omega⟩)
theorem asc_cps {s : List UInt8} (h : ∀ u ∈ s, u.toNat < 128) : Cps s (asc s) [] := by
  have := Cps.nil (cs := asc s) fun c hc => cp_low (asc_low h c hc)
  rwa [encs_asc h] at this
/-- The bytes of a code point that is none of ASCII's are 128 and above. -/
theorem enc_hi {c : Int} (hc : cpB c = true) (h : 128 ≤ c) : ∀ u ∈ enc c, 128 ≤ u.toNat := by
  have hb := (cpB_iff c).1 hc
  intro u hu
  by_cases h2 : c < 2048
  · rw [enc2 h h2] at hu
    simp only [List.mem_cons, List.mem_nil_iff, or_false] at hu
    rcases hu with rfl | rfl <;> rw [UInt8.toNat_ofNat'] <;> omega
  by_cases h3 : c < 65536
  · rw [enc3 hc (by omega) h3] at hu
    simp only [List.mem_cons, List.mem_nil_iff, or_false] at hu
    rcases hu with rfl | rfl | rfl <;> rw [UInt8.toNat_ofNat'] <;> omega
  · rw [enc4 hc (by omega)] at hu
    simp only [List.mem_cons, List.mem_nil_iff, or_false] at hu
    rcases hu with rfl | rfl | rfl | rfl <;> rw [UInt8.toNat_ofNat'] <;> omega
/-- What is written for a byte of a string. -/
def escB (u : UInt8) : List UInt8 := if u = 10 then [92, 110] else if u = 9 then [92, 116] else if u = 34 ∨ u = 92 then [92, u] else [u]
theorem escB_hi {u : UInt8} (h : 128 ≤ u.toNat) : escB u = [u] := by
  unfold escB
  rw [if_neg (by rintro rfl; revert h; decide), if_neg (by rintro rfl; revert h; decide), if_neg (by rintro (rfl | rfl) <;> revert h <;> decide)]
theorem esc_hi : ∀ {l : List UInt8}, (∀ u ∈ l, 128 ≤ u.toNat) → l.flatMap escB = l
  | [], _ => rfl
  | u :: l, h => by
    rw [List.flatMap_cons, escB_hi (h u (by simp)), esc_hi fun x hx => h x (by simp [hx])]; rfl
theorem esc_one {c : Int} (hc : cpB c = true) : encs (escC c) = (enc c).flatMap escB := by
  by_cases h : c < 128
  · have h0 : 0 ≤ c := by have := (cpB_iff c).1 hc; omega
    have key : ∀ n : Fin 128, encs (escC (n.val : Int)) = (enc (n.val : Int)).flatMap escB := by decide +kernel
    have := key ⟨c.toNat, by omega⟩
    rwa [show (((⟨c.toNat, by omega⟩ : Fin 128).val : Nat) : Int) = c from Int.toNat_of_nonneg h0] at this
  · rw [esc_hi (enc_hi hc (by omega))]
    unfold escC
    rw [if_neg (by omega), if_neg (by omega), if_neg (by omega)]
    simp [encs]
theorem esc_bytes : ∀ {cs : List Int}, AllCp cs → encs (cs.flatMap escC) = (encs cs).flatMap escB
  | [], _ => rfl
  | c :: cs, h => by
    rw [List.flatMap_cons, encs_app, esc_one h.cons.1, esc_bytes h.cons.2, encs_cons, List.flatMap_append]
theorem escC_cp {c : Int} (hc : cpB c = true) : AllCp (escC c) := by
  unfold escC
  repeat' split
  · intro x hx; simp at hx; rcases hx with rfl | rfl <;> decide
  · intro x hx; simp at hx; rcases hx with rfl | rfl <;> decide
  · intro x hx; simp at hx; rcases hx with rfl | rfl
    · decide
    · exact hc
  · intro x hx; simp at hx; subst hx; exact hc
theorem esc_cp {cs : List Int} (h : AllCp cs) : AllCp (cs.flatMap escC) := fun x hx => by
  obtain ⟨c, hc, hx⟩ := List.mem_flatMap.1 hx
  exact escC_cp (h c hc) x hx
/-- A number's digits, as bytes. -/
def digB (n : Nat) : List UInt8 := byt (digL n)
theorem dig_low {c : Int} (h : isDig c = true) : 0 ≤ c ∧ c < 128 := by
  have : 48 ≤ c ∧ c ≤ 57 := by simpa [isDig] using h
  omega
theorem digB_enc (n : Nat) : encs (digL n) = digB n := encs_low fun c hc => dig_low (digL_dig n c hc)
theorem digB_small {n : Nat} (h : n < 10) : digB n = [UInt8.ofNat (48 + n)] := by
  unfold digB; rw [digL, dif_pos h]
  show [UInt8.ofNat (48 + (n : Int)).toNat] = _
  rw [show (48 + (n : Int)).toNat = 48 + n by omega]
theorem digB_more {n : Nat} (h : ¬ n < 10) : digB n = digB (n / 10) ++ [UInt8.ofNat (48 + n % 10)] := by
  unfold digB; conv => lhs; rw [digL, dif_neg h]
  rw [show byt (digL (n / 10) ++ [48 + ((n % 10 : Nat) : Int)]) = byt (digL (n / 10)) ++ [UInt8.ofNat (48 + ((n % 10 : Nat) : Int)).toNat] from List.map_append ..]
  rw [show (48 + ((n % 10 : Nat) : Int)).toNat = 48 + n % 10 by omega]
theorem digB_len : ∀ (k n : Nat), n < 10 ^ (k + 1) → (digB n).length ≤ k + 1
  | 0, n, h => by rw [digB_small (by simpa using h)]; simp
  | k + 1, n, h => by
    by_cases h1 : n < 10
    · rw [digB_small h1]; simp
    · rw [digB_more h1, List.length_append]
      have := digB_len k (n / 10) (by rw [Nat.div_lt_iff_lt_mul (by decide)]; rw [Nat.pow_succ] at h; exact h)
      simp only [List.length_singleton]; omega
theorem isW_low {c : Int} (h : isW c = true) : 0 ≤ c ∧ c < 128 := by
  simp only [isW, isDig, isSm, isGr, Bool.or_eq_true, decide_eq_true_eq] at h
  omega
/-- What is written of a token, as bytes; s: its text's bytes. -/
def putB (k : Int) (s : List UInt8) (n : Int) : List UInt8 := if k = 3 then digB n.toNat else if k = 4 then 34 :: (s.flatMap escB ++ [34]) else s
theorem put_enc {t : Tk} (h : AllCp t.x) : encs (putL t) = putB t.k (encs t.x) t.n := by
  unfold putL putB
  split
  · exact digB_enc _
  split
  · rw [encs_cons, encs_app, esc_bytes h]; rfl
  · rfl
theorem put_cp {t : Tk} (h : AllCp t.x) : AllCp (putL t) := by
  unfold putL
  split
  · exact fun c hc => cp_low (dig_low (digL_dig _ c hc))
  split
  · intro c hc
    rcases List.mem_cons.1 hc with rfl | hc
    · decide
    rcases List.mem_append.1 hc with hc | hc
    · exact esc_cp h c hc
    · simp at hc; subst hc; decide
  · exact h
/-- Tokens with one blank between two, as bytes. -/
def writeB : List (Int × List UInt8 × Int) → List UInt8
  | [] => []
  | [t] => putB t.1 t.2.1 t.2.2
  | t :: u :: ts => putB t.1 t.2.1 t.2.2 ++ (32 :: writeB (u :: ts))
def Tk.b (t : Tk) : Int × List UInt8 × Int := (t.k, encs t.x, t.n)
theorem write_enc : ∀ {ts : List Tk}, (∀ t ∈ ts, AllCp t.x) → encs (writeL ts) = writeB (ts.map Tk.b)
  | [], _ => rfl
  | [t], h => put_enc (h t (by simp))
  | t :: u :: ts, h => by
    show encs (putL t ++ (32 :: writeL (u :: ts))) = putB t.k (encs t.x) t.n ++ (32 :: writeB ((u :: ts).map Tk.b))
    rw [encs_app, put_enc (h t (by simp)), encs_cons, write_enc (ts := u :: ts) fun x hx => h x (by simp [List.mem_cons.1 hx])]
    rfl
theorem write_cp : ∀ {ts : List Tk}, (∀ t ∈ ts, AllCp t.x) → AllCp (writeL ts)
  | [], _ => fun c hc => by simp [writeL] at hc
  | [t], h => put_cp (h t (by simp))
  | t :: u :: ts, h => by
    have h1 := put_cp (h t (by simp))
    have h2 := write_cp (ts := u :: ts) fun x hx => h x (by simp [List.mem_cons.1 hx])
    exact h1.app fun c hc => (List.mem_cons.1 hc).elim (fun e => by rw [e]; decide) (h2 c)
end Go.Proofs.YteockaolmobmeaaGreatDoor.Mu
namespace Go.Proofs.YteockaolmobmeaaGreatDoor.Mu
open Go
set_option maxRecDepth 100000

def wordsB : List (List UInt8) := wordsL.map byt
def primsB : List (List UInt8) := primsL.map byt
def signsB : List (List UInt8) := signsL.map byt
theorem words_low : ∀ x ∈ wordsL, ∀ c ∈ x, 0 ≤ c ∧ c < 128 := by decide +kernel
theorem prims_low : ∀ x ∈ primsL, ∀ c ∈ x, 0 ≤ c ∧ c < 128 := by decide +kernel
theorem signs_low : ∀ x ∈ signsL, ∀ c ∈ x, 0 ≤ c ∧ c < 128 := by decide +kernel
theorem mem_low {L : List (List Int)} (hL : ∀ x ∈ L, ∀ c ∈ x, 0 ≤ c ∧ c < 128) {s : List UInt8} {cs : List Int} {rest : List UInt8} (h : Cps s cs rest) : s ∈ L.map byt ↔ rest = [] ∧ cs ∈ L := by
  constructor
  · intro hs
    obtain ⟨x, hx, rfl⟩ := List.mem_map.1 hs
    have k : Cps (byt x) x [] := by
      have := Cps.nil (cs := x) fun c hc => cp_low (hL x hx c hc)
      rwa [encs_low (hL x hx)] at this
    obtain ⟨rfl, rfl⟩ := h.uniq k
    exact ⟨rfl, hx⟩
  · rintro ⟨rfl, hx⟩
    rw [h.eq, encs_low (hL cs hx), List.append_nil]
    exact List.mem_map_of_mem hx
def nameP (s : List UInt8) (big : Bool) : Prop := s ≠ [] ∧ s.length ≤ 24 ∧ (∀ u ∈ s, isW (u.toNat : Int) = true) ∧ (if big = true then isGr ((asc s).headD 0) = true else isSm ((asc s).headD 0) = true) ∧ s ∉ wordsB ∧ s ∉ primsB
theorem asc_len (s : List UInt8) : (asc s).length = s.length := by simp [asc]
theorem name_cps {s : List UInt8} {cs : List Int} {rest : List UInt8} (h : Cps s cs rest) (big : Bool) : nameP s big ↔ rest = [] ∧ nameB cs big := by
  constructor
  · rintro ⟨h1, h2, h3, h4, h5, h6⟩
    have hlow : ∀ u ∈ s, u.toNat < 128 := fun u hu => by have := isW_low (h3 u hu); omega
    obtain ⟨rfl, rfl⟩ := h.uniq (asc_cps hlow)
    refine ⟨rfl, fun e => h1 (List.eq_nil_of_length_eq_zero (by rw [← asc_len, e]; rfl)), by rw [asc_len]; exact h2, fun c hc => ?_, h4, fun hx => h5 ((mem_low words_low h).2 ⟨rfl, hx⟩), fun hx => h6 ((mem_low prims_low h).2 ⟨rfl, hx⟩)⟩
    obtain ⟨u, hu, rfl⟩ := List.mem_map.1 hc
    exact h3 u hu
  · rintro ⟨rfl, h1, h2, h3, h4, h5, h6⟩
    have hl : ∀ c ∈ cs, 0 ≤ c ∧ c < 128 := fun c hc => isW_low (h3 c hc)
    have hs : s = byt cs := by rw [h.eq, encs_low hl, List.append_nil]
    have ha : asc s = cs := by rw [hs, asc_byt hl]
    refine ⟨fun e => h1 (by rw [← ha, e]; rfl), by rw [← asc_len, ha]; exact h2, fun u hu => ?_, by rw [ha]; exact h4, fun hx => h5 ((mem_low words_low h).1 hx).2, fun hx => h6 ((mem_low prims_low h).1 hx).2⟩
    exact h3 _ (by rw [← ha]; exact List.mem_map_of_mem hu)
/-- A token that may be; s: its text's bytes. -/
def mayTk (t : Int × List UInt8 × Int) : Prop :=
  (t.1 = 1 ∧ nameP t.2.1 false ∧ t.2.2 = 0) ∨ (t.1 = 2 ∧ nameP t.2.1 true ∧ t.2.2 = 0) ∨ (t.1 = 3 ∧ 0 ≤ t.2.2 ∧ t.2.2 ≤ 1099511627776 ∧ t.2.1 = []) ∨ (t.1 = 4 ∧ (∃ ds, Cps t.2.1 ds []) ∧ t.2.2 = 0) ∨
    (t.1 = 5 ∧ (t.2.1 ∈ wordsB ∨ t.2.1 ∈ signsB) ∧ t.2.2 = 0) ∨ (t.1 = 6 ∧ t.2.1 ∈ primsB ∧ t.2.2 = 0)
theorem nil_cps {s : List UInt8} {cs : List Int} {rest : List UInt8} (h : Cps s cs rest) : s = [] ↔ rest = [] ∧ cs = [] := by
  constructor
  · intro e
    have e1 := h.eq
    rw [e] at e1
    obtain ⟨e2, e3⟩ := List.append_eq_nil_iff.1 e1.symm
    refine ⟨e3, ?_⟩
    cases cs with
    | nil => rfl
    | cons c cs => exact absurd (List.append_eq_nil_iff.1 e2).1 (enc_ne h.cp.cons.1)
  · rintro ⟨rfl, rfl⟩; rw [h.eq]; rfl
theorem may_cps {s : List UInt8} {cs : List Int} {rest : List UInt8} (h : Cps s cs rest) (k n : Int) : mayTk (k, s, n) ↔ rest = [] ∧ MayT ⟨k, cs, n⟩ := by
  unfold mayTk MayT
  simp only [name_cps h, nil_cps h, wordsB, signsB, primsB, mem_low words_low h, mem_low signs_low h, mem_low prims_low h]
  have h4 : (∃ ds, Cps s ds []) ↔ rest = [] ∧ ∀ c ∈ cs, cpB c = true := by
    constructor
    · rintro ⟨ds, hd⟩
      obtain ⟨rfl, rfl⟩ := h.uniq hd
      exact ⟨rfl, h.cp⟩
    · rintro ⟨rfl, _⟩; exact ⟨cs, h⟩
  rw [h4]
  constructor
  · rintro (⟨a, ⟨b, c⟩, d⟩ | ⟨a, ⟨b, c⟩, d⟩ | ⟨a, b, c, d, e⟩ | ⟨a, ⟨b, c⟩, d⟩ | ⟨a, (⟨b, c⟩ | ⟨b, c⟩), d⟩ | ⟨a, ⟨b, c⟩, d⟩)
    · exact ⟨b, .inl ⟨a, c, d⟩⟩
    · exact ⟨b, .inr (.inl ⟨a, c, d⟩)⟩
    · exact ⟨d, .inr (.inr (.inl ⟨a, b, c, e⟩))⟩
    · exact ⟨b, .inr (.inr (.inr (.inl ⟨a, c, d⟩)))⟩
    · exact ⟨b, .inr (.inr (.inr (.inr (.inl ⟨a, .inl c, d⟩))))⟩
    · exact ⟨b, .inr (.inr (.inr (.inr (.inl ⟨a, .inr c, d⟩))))⟩
    · exact ⟨b, .inr (.inr (.inr (.inr (.inr ⟨a, c, d⟩))))⟩
  · rintro ⟨b, (⟨a, c, d⟩ | ⟨a, c, d⟩ | ⟨a, e, c, d⟩ | ⟨a, c, d⟩ | ⟨a, (c | c), d⟩ | ⟨a, c, d⟩)⟩
    · exact .inl ⟨a, ⟨b, c⟩, d⟩
    · exact .inr (.inl ⟨a, ⟨b, c⟩, d⟩)
    · exact .inr (.inr (.inl ⟨a, e, c, b, d⟩))
    · exact .inr (.inr (.inr (.inl ⟨a, ⟨b, c⟩, d⟩)))
    · exact .inr (.inr (.inr (.inr (.inl ⟨a, .inl ⟨b, c⟩, d⟩))))
    · exact .inr (.inr (.inr (.inr (.inl ⟨a, .inr ⟨b, c⟩, d⟩))))
    · exact .inr (.inr (.inr (.inr (.inr ⟨a, ⟨b, c⟩, d⟩))))
theorem may_cp {t : Tk} (h : MayT t) : AllCp t.x := by
  intro c hc
  rcases h with ⟨_, h, _⟩ | ⟨_, h, _⟩ | ⟨_, _, _, h⟩ | ⟨_, h, _⟩ | ⟨_, (h | h), _⟩ | ⟨_, h, _⟩
  · exact cp_low (isW_low (h.2.2.1 c hc))
  · exact cp_low (isW_low (h.2.2.1 c hc))
  · rw [h] at hc; simp at hc
  · exact h c hc
  · exact cp_low (words_low _ h c hc)
  · exact cp_low (signs_low _ h c hc)
  · exact cp_low (prims_low _ h c hc)
theorem may_b {t : Tk} (h : MayT t) : mayTk t.b := (may_cps (Cps.nil (may_cp h)) t.k t.n).2 ⟨rfl, h⟩
theorem may_ex {t : Int × List UInt8 × Int} (h : mayTk t) : ∃ u : Tk, MayT u ∧ u.b = t := by
  obtain ⟨cs, rest, hc⟩ := cps_ex _ t.2.1 (Nat.le_refl _)
  obtain ⟨rfl, hm⟩ := (may_cps hc t.1 t.2.2).1 h
  refine ⟨⟨t.1, cs, t.2.2⟩, hm, ?_⟩
  have := hc.eq
  rw [List.append_nil] at this
  show (t.1, encs cs, t.2.2) = t
  rw [← this]
theorem all_ex : ∀ {ts : List (Int × List UInt8 × Int)}, (∀ t ∈ ts, mayTk t) → ∃ us : List Tk, (∀ u ∈ us, MayT u) ∧ us.map Tk.b = ts
  | [], _ => ⟨[], by simp, rfl⟩
  | t :: ts, h => by
    obtain ⟨u, hu, e⟩ := may_ex (h t (by simp))
    obtain ⟨us, hus, e2⟩ := all_ex (ts := ts) fun x hx => h x (by simp [hx])
    exact ⟨u :: us, fun x hx => (List.mem_cons.1 hx).elim (fun e => e ▸ hu) (hus x), by rw [List.map_cons, e, e2]⟩
open Classical in
/-- What Write answers: the text and the error. -/
noncomputable def wrO (ts : List (Int × List UInt8 × Int)) : List UInt8 × Int :=
  if ∀ t ∈ ts, mayTk t then (if (writeB ts).length ≤ 4000 then (writeB ts, 0) else ([], 3)) else ([], 2)
theorem wr_ok {ts : List (Int × List UInt8 × Int)} (h : (wrO ts).2 = 0) : (∀ t ∈ ts, mayTk t) ∧ (wrO ts).1 = writeB ts ∧ (writeB ts).length ≤ 4000 := by
  unfold wrO at h ⊢
  split at h
  · rename_i h1
    rw [if_pos h1]
    split at h
    · rename_i h2
      rw [if_pos h2]
      exact ⟨h1, rfl, h2⟩
    · exact absurd h (by decide)
  · exact absurd h (by decide)
/-- A token with its place; what Tokens answers. -/
structure Tn where
  k : Int
  s : List UInt8
  n : Int
  p : Pl
def Tn.b (t : Tn) : Int × List UInt8 × Int := (t.k, t.s, t.n)
def tn (cs : List Int) (p : Tk × Nat) : Tn := ⟨p.1.k, encs p.1.x, p.1.n, ends p0 (cs.take p.2)⟩
theorem tn_b (cs : List Int) (p : Tk × Nat) : (tn cs p).b = p.1.b := rfl
structure To where
  l : List Tn
  e : Int
  q : Pl
def rsO (cs : List Int) : Rs → To
  | .ok ps => ⟨ps.map (tn cs), 0, z0⟩
  | .err e d => ⟨[], e, ends p0 (cs.take d)⟩
def tokO (n : Nat) (cs : List Int) (rest : List UInt8) : To :=
  if (ot n cs rest).e = 0 then rsO cs (toksF (cs.length + 1) cs 0) else ⟨[], (ot n cs rest).e, (ot n cs rest).q⟩
theorem ot_ok {n : Nat} {cs : List Int} {rest : List UInt8} : (ot n cs rest).e = 0 ↔ n ≤ 4000 ∧ rest = [] := by
  unfold ot
  split
  · rename_i h
    constructor
    · intro h'; exact absurd h' (by decide)
    · rintro ⟨h', _⟩; omega
  split
  · rename_i h h2; exact ⟨fun _ => ⟨by omega, h2⟩, fun _ => rfl⟩
  · rename_i h h2
    constructor
    · intro h'; exact absurd h' (by show ¬ (90 : Int) = 0; decide)
    · rintro ⟨_, h'⟩; exact absurd h' h2
theorem quo_err : ∀ (n : Nat) (l acc : List Int) (d : Nat) (e : Int) (o : Nat), l.length ≤ n → quoL l acc d = .err e o → e ≠ 0
  | _, [], acc, d, e, o, _, h => by rw [quoL] at h; injection h with h _; rw [← h]; decide
  | 0, c :: l, acc, d, e, o, hl, _ => by simp at hl
  | n + 1, c :: l, acc, d, e, o, hl, h => by
    have hl' : l.length ≤ n := by simpa using hl
    rw [quoL] at h
    split at h
    · cases h
    split at h
    · injection h with h _; rw [← h]; decide
    split at h
    · split at h
      · injection h with h _; rw [← h]; decide
      · exact quo_err n _ _ _ e o (by rw [List.length_tail]; omega) h
    · exact quo_err n _ _ _ e o hl' h
theorem one_err {l : List Int} {e : Int} {o : Nat} (h : oneL l = .err e o) : e ≠ 0 := by
  unfold oneL at h
  split at h
  · unfold wordL at h
    repeat' split at h
    all_goals first | cases h; done | (injection h with h _; rw [← h]; decide)
  split at h
  · unfold numL at h
    repeat' split at h
    all_goals first | cases h; done | (injection h with h _; rw [← h]; decide)
  split at h
  · exact quo_err _ _ _ _ e o (Nat.le_refl _) h
  · unfold signL at h
    repeat' split at h
    all_goals first | cases h; done | (injection h with h _; rw [← h]; decide)
theorem toks_err : ∀ (f : Nat) (l : List Int) (o : Nat) (e : Int) (d : Nat), toksF f l o = .err e d → e ≠ 0
  | 0, l, o, e, d, h => by cases h
  | f + 1, l, o, e, d, h => by
    by_cases hs : skipL l = []
    · rw [toks_end hs] at h; cases h
    · rw [toks_step hs] at h
      cases e1 : oneL (skipL l) with
      | err x y =>
        rw [e1] at h
        injection h with h _
        rw [← h]; exact one_err e1
      | ok t r =>
        rw [e1] at h
        have h' : Rs.cons (t, o + (l.length - (skipL l).length)) (toksF f r (o + (l.length - r.length))) = .err e d := h
        cases e2 : toksF f r (o + (l.length - r.length)) with
        | ok qs => rw [e2] at h'; cases h'
        | err x y =>
          rw [e2] at h'
          have h2 : Rs.err x y = .err e d := h'
          injection h2 with h2 _
          rw [← h2]; exact toks_err f r _ x y e2
theorem tok_ok {n : Nat} {cs : List Int} {rest : List UInt8} (h : (tokO n cs rest).e = 0) : n ≤ 4000 ∧ rest = [] ∧ ∃ ps, toksF (cs.length + 1) cs 0 = .ok ps ∧ tokO n cs rest = ⟨ps.map (tn cs), 0, z0⟩ := by
  unfold tokO at h ⊢
  split at h
  · rename_i h1
    rw [if_pos h1]
    obtain ⟨h2, h3⟩ := ot_ok.1 h1
    refine ⟨h2, h3, ?_⟩
    cases e : toksF (cs.length + 1) cs 0 with
    | ok ps => exact ⟨ps, rfl, rfl⟩
    | err x y =>
      rw [e] at h
      exact absurd h (toks_err _ _ _ _ _ e)
  · rename_i h1; exact absurd h h1
theorem tok_no {n : Nat} {cs : List Int} {rest : List UInt8} (h : (tokO n cs rest).e ≠ 0) : (tokO n cs rest).l = [] := by
  unfold tokO at h ⊢
  split
  · rename_i h1
    rw [if_pos h1] at h
    cases e : toksF (cs.length + 1) cs 0 with
    | ok ps => rw [e] at h; exact absurd rfl h
    | err x y => rfl
  · rfl
/-- Tokens written, with blanks and remarks between, are read as they were. -/
theorem read_wr {us : List Tk} {cs : List Int} (hw : Wr us cs) (hl : (encs cs).length ≤ 4000) : tokO (encs cs).length cs [] = ⟨(tokO (encs cs).length cs []).l, 0, z0⟩ ∧ (tokO (encs cs).length cs []).l.map Tn.b = us.map Tk.b := by
  obtain ⟨ps, h1, h2⟩ := wr_toks hw (cs.length + 1) 0 (by omega)
  have e : tokO (encs cs).length cs [] = ⟨ps.map (tn cs), 0, z0⟩ := by
    unfold tokO
    rw [if_pos (ot_ok.2 ⟨hl, rfl⟩), h1]; rfl
  rw [e]
  refine ⟨rfl, ?_⟩
  rw [← h2, List.map_map, List.map_map]
  rfl
/-- LexBack, one way. -/
theorem back_write {ts : List (Int × List UInt8 × Int)} (h : (wrO ts).2 = 0) : ∃ cs, Cps (wrO ts).1 cs [] ∧ (tokO (wrO ts).1.length cs []).e = 0 ∧ (tokO (wrO ts).1.length cs []).q = z0 ∧ (tokO (wrO ts).1.length cs []).l.map Tn.b = ts := by
  obtain ⟨hm, e, hl⟩ := wr_ok h
  obtain ⟨us, hu, rfl⟩ := all_ex hm
  have hx : ∀ t ∈ us, AllCp t.x := fun t ht => may_cp (hu t ht)
  have e2 : (wrO (us.map Tk.b)).1 = encs (writeL us) := by rw [e, write_enc hx]
  rw [← write_enc hx] at hl
  rw [e2]
  obtain ⟨h1, h2⟩ := read_wr (by simpa using write_wr us hu [] .nil) hl
  exact ⟨writeL us, Cps.nil (write_cp hx), by rw [h1], by rw [h1], h2⟩
/-- LexBack, the other way: what was read is written, or too long. -/
theorem back_read {n : Nat} {cs : List Int} {rest : List UInt8} (hc : AllCp cs) (h : (tokO n cs rest).e = 0) : (∀ t ∈ (tokO n cs rest).l.map Tn.b, mayTk t) ∧ ((wrO ((tokO n cs rest).l.map Tn.b)).2 = 0 ∨ (wrO ((tokO n cs rest).l.map Tn.b)).2 = 3) := by
  obtain ⟨_, _, ps, h1, h2⟩ := tok_ok h
  rw [h2]
  have hm : ∀ t ∈ (ps.map (tn cs)).map Tn.b, mayTk t := by
    intro t ht
    obtain ⟨x, hx, rfl⟩ := List.mem_map.1 ht
    obtain ⟨p, hp, rfl⟩ := List.mem_map.1 hx
    exact may_b (toks_may _ _ _ _ hc h1 p hp)
  refine ⟨hm, ?_⟩
  unfold wrO
  rw [if_pos hm]
  split
  · exact .inl rfl
  · exact .inr rfl
/-- A gap's bytes, each for a blank or a remark. -/
def gapC (u : Nat) : List Int := if u % 5 = 4 then [32, 45, 45, 32, 105, 116, 39, 115, 32, 34, 10] else if u % 5 = 0 then [32] else if u % 5 = 1 then [9] else if u % 5 = 2 then [10] else [13]
theorem gapC_bl (u : Nat) (b : List Int) (h : Blanks b) : Blanks (gapC u ++ b) := by
  unfold gapC
  split
  · exact .bl (by decide) (Blanks.rem (u := [32, 105, 116, 39, 115, 32, 34]) (by decide) h)
  repeat' split
  all_goals exact .bl (by decide) h
theorem gap_bl : ∀ (g : List Nat) (b : List Int), Blanks b → Blanks (g.flatMap gapC ++ b)
  | [], b, h => h
  | u :: g, b, h => by rw [List.flatMap_cons, List.append_assoc]; exact gapC_bl u _ (gap_bl g b h)
theorem gap_ends (g : List Nat) (l : List Int) : Ends (g.flatMap gapC ++ 32 :: l) := by
  cases g with
  | nil => exact .inr ⟨32, l, rfl, by decide⟩
  | cons u g =>
    rw [List.flatMap_cons, List.append_assoc]
    unfold gapC
    split
    · exact .inr ⟨32, _, rfl, by decide⟩
    repeat' split
    all_goals exact .inr ⟨_, _, rfl, by decide⟩
theorem gap_low (g : List Nat) : ∀ c ∈ g.flatMap gapC, 0 ≤ c ∧ c < 128 := by
  intro c hc
  obtain ⟨u, _, hc⟩ := List.mem_flatMap.1 hc
  unfold gapC at hc
  repeat' split at hc
  all_goals (simp only [List.mem_cons, List.mem_nil_iff, or_false] at hc; omega)
/-- LexBlanks' text. -/
def blkL : List Tk → List (List Nat) → List Int
  | [], _ => []
  | t :: ts, gs => (gs.headD []).flatMap gapC ++ 32 :: (putL t ++ blkL ts gs.tail)
theorem blk_ends : ∀ (ts : List Tk) (gs : List (List Nat)), Ends (blkL ts gs)
  | [], _ => .inl rfl
  | _ :: _, _ => gap_ends _ _
theorem blk_wr : ∀ (ts : List Tk) (gs : List (List Nat)), (∀ t ∈ ts, MayT t) → Wr ts (blkL ts gs)
  | [], _, _ => .nil .nil
  | t :: ts, gs, h => by
    have := Wr.cons (gap_bl (gs.headD []) [32] (.bl (by decide) .nil)) (h t (by simp)) (blk_wr ts gs.tail fun x hx => h x (by simp [hx])) (blk_ends ts gs.tail)
    simpa [blkL, List.append_assoc] using this
theorem blk_cp : ∀ (ts : List Tk) (gs : List (List Nat)), (∀ t ∈ ts, AllCp t.x) → AllCp (blkL ts gs)
  | [], _, _ => fun c hc => by simp [blkL] at hc
  | t :: ts, gs, h => by
    intro c hc
    rcases List.mem_append.1 hc with hc | hc
    · exact cp_low (gap_low _ c hc)
    rcases List.mem_cons.1 hc with rfl | hc
    · decide
    exact ((put_cp (h t (by simp))).app (blk_cp ts gs.tail fun x hx => h x (by simp [hx]))) c hc
/-- The same text, as bytes. -/
def blkB : List (Int × List UInt8 × Int) → List (List Nat) → List UInt8
  | [], _ => []
  | t :: ts, gs => byt ((gs.headD []).flatMap gapC) ++ 32 :: (putB t.1 t.2.1 t.2.2 ++ blkB ts gs.tail)
theorem blk_enc : ∀ (ts : List Tk) (gs : List (List Nat)), (∀ t ∈ ts, AllCp t.x) → encs (blkL ts gs) = blkB (ts.map Tk.b) gs
  | [], _, _ => rfl
  | t :: ts, gs, h => by
    show encs ((gs.headD []).flatMap gapC ++ 32 :: (putL t ++ blkL ts gs.tail)) = byt ((gs.headD []).flatMap gapC) ++ 32 :: (putB t.k (encs t.x) t.n ++ blkB (ts.map Tk.b) gs.tail)
    rw [encs_app, encs_low (gap_low _), encs_cons, encs_app, put_enc (h t (by simp)), blk_enc ts gs.tail fun x hx => h x (by simp [hx])]
    rfl
/-- LexBlanks. -/
theorem blanks_read {ts : List (Int × List UInt8 × Int)} (hm : ∀ t ∈ ts, mayTk t) (gs : List (List Nat)) (hl : (blkB ts gs).length ≤ 4000) : ∃ cs, Cps (blkB ts gs) cs [] ∧ (tokO (blkB ts gs).length cs []).e = 0 ∧ (tokO (blkB ts gs).length cs []).q = z0 ∧ (tokO (blkB ts gs).length cs []).l.map Tn.b = ts := by
  obtain ⟨us, hu, rfl⟩ := all_ex hm
  have hx : ∀ t ∈ us, AllCp t.x := fun t ht => may_cp (hu t ht)
  rw [← blk_enc us gs hx] at hl ⊢
  obtain ⟨h1, h2⟩ := read_wr (blk_wr us gs hu) hl
  exact ⟨blkL us gs, Cps.nil (blk_cp us gs hx), by rw [h1], by rw [h1], h2⟩
/-- Places grow. -/
theorem toks_inc : ∀ (f : Nat) (l : List Int) (o : Nat) (ps : List (Tk × Nat)), (∀ c ∈ l, cpB c = true) → toksF f l o = .ok ps → (∀ p ∈ ps, o ≤ p.2) ∧ ps.Pairwise fun a b => a.2 < b.2
  | 0, l, o, ps, _, h => by injection h with h; subst h; exact ⟨by simp, .nil⟩
  | f + 1, l, o, ps, hc, h => by
    by_cases hs : skipL l = []
    · rw [toks_end hs] at h; injection h with h; subst h; exact ⟨by simp, .nil⟩
    · rw [toks_step hs] at h
      cases e1 : oneL (skipL l) with
      | err x y => rw [e1] at h; cases h
      | ok t r =>
        rw [e1] at h
        have h' : Rs.cons (t, o + (l.length - (skipL l).length)) (toksF f r (o + (l.length - r.length))) = .ok ps := h
        obtain ⟨_, ⟨u, hu⟩, hr⟩ := one_facts hs e1 (skip_cp hc)
        have hsl := skipL_len _ l (Nat.le_refl _)
        cases e2 : toksF f r (o + (l.length - r.length)) with
        | err x y => rw [e2] at h'; cases h'
        | ok qs =>
          rw [e2] at h'
          injection h' with h'
          subst h'
          obtain ⟨i1, i2⟩ := toks_inc f r _ qs (cp_suf hu (skip_cp hc)) e2
          refine ⟨fun p hp => ?_, List.Pairwise.cons (fun p hp => ?_) i2⟩
          · rcases List.mem_cons.1 hp with rfl | hp
            · show o ≤ o + _; omega
            · have := i1 p hp; omega
          · have := i1 p hp
            show o + (l.length - (skipL l).length) < p.2
            omega
def Pl.mv (E Q : Pl) : Pl := ⟨Q.a + E.a, Q.l + (E.l - 1), if Q.l = 1 then Q.c + (E.c - 1) else Q.c⟩
theorem mv_next {E Q : Pl} (hq : 1 ≤ Q.l) (c : Int) : (E.mv Q).next c = E.mv (Q.next c) := by
  unfold Pl.next Pl.mv
  by_cases h : c = 10
  · simp only [h, if_true]
    have : ¬ Q.l + 1 = 1 := by omega
    simp [this]; omega
  · simp only [h, if_false]
    by_cases h1 : Q.l = 1
    · simp [h1]; omega
    · simp [h1]; omega
theorem ends_l (ds : List Int) : ∀ (Q : Pl), 1 ≤ Q.l → 1 ≤ (ends Q ds).l := by
  induction ds with
  | nil => intro Q h; exact h
  | cons d ds ih =>
    intro Q h
    refine ih (Q.next d) ?_
    unfold Pl.next; split <;> simp <;> omega
theorem ends_mv1 (E : Pl) (ds : List Int) : ∀ (Q : Pl), 1 ≤ Q.l → ends (E.mv Q) ds = E.mv (ends Q ds) := by
  induction ds with
  | nil => intro Q h; rfl
  | cons d ds ih =>
    intro Q h
    show ends ((E.mv Q).next d) ds = E.mv (ends (Q.next d) ds)
    rw [mv_next h, ih (Q.next d) (by unfold Pl.next; split <;> simp <;> omega)]
theorem ends_mv (E : Pl) (ds : List Int) : ends E ds = E.mv (ends p0 ds) := by
  rw [← ends_mv1 E ds p0 (by decide)]
  congr 1
  unfold Pl.mv p0
  obtain ⟨a, l, c⟩ := E
  simp; omega
theorem take_bytes {cs : List Int} (hc : AllCp cs) {a b : Nat} (h : a < b) (hb : a < cs.length) : (encs (cs.take a)).length < (encs (cs.take b)).length := by
  have e : cs.take b = cs.take a ++ (cs.take b).drop a := by
    conv => lhs; rw [← List.take_append_drop a (cs.take b)]
    rw [List.take_take, Nat.min_eq_left (by omega)]
  rw [e, encs_app, List.length_append]
  have h1 := encs_len_ge (cs := (cs.take b).drop a) fun c hcc => hc c (List.mem_of_mem_take (List.mem_of_mem_drop hcc))
  rw [List.length_drop, List.length_take] at h1
  omega
/-- LexTail: of the token numbered n, its place's bytes are E.a. -/
theorem tail_read {s : List UInt8} {cs : List Int} {rest : List UInt8} (h : Cps s cs rest) (he : (tokO s.length cs rest).e = 0) {n : Nat} {y : Tn} (hy : (tokO s.length cs rest).l[n]? = some y) :
    0 ≤ y.p.a ∧ y.p.a < s.length ∧ (∀ m z, m < n → (tokO s.length cs rest).l[m]? = some z → z.p.a < y.p.a) ∧
    ∃ ds, Cps (s.drop y.p.a.toNat) ds [] ∧ (tokO (s.drop y.p.a.toNat).length ds []).e = 0 ∧ (tokO (s.drop y.p.a.toNat).length ds []).q = z0 ∧
      (tokO (s.drop y.p.a.toNat).length ds []).l.length = (tokO s.length cs rest).l.length - n ∧
      ∀ (i : Nat) (x z : Tn), (tokO (s.drop y.p.a.toNat).length ds []).l[i]? = some x → (tokO s.length cs rest).l[n + i]? = some z → x.b = z.b ∧ z.p = y.p.mv x.p ∧ 1 ≤ x.p.l := by
  obtain ⟨hn, rfl, ps, h1, h2⟩ := tok_ok he
  have hs : s = encs cs := by rw [h.eq, List.append_nil]
  rw [h2] at hy ⊢
  have hy' : (ps.map (tn cs))[n]? = some y := hy
  rw [List.getElem?_map, Option.map_eq_some_iff] at hy'
  obtain ⟨p, hp, rfl⟩ := hy'
  obtain ⟨g1, g2, g3⟩ := toks_tail _ cs 0 ps h.cp (by omega) h1 n p hp
  rw [Nat.zero_add] at g2
  rw [Nat.sub_zero] at g3
  have ha : ∀ k, (ends p0 (cs.take k)).a = ((encs (cs.take k)).length : Int) := fun k => by
    rw [ends_a (h.cp.take k)]
    show (0 : Int) + _ = _
    omega
  have hpa : (tn cs p).p.a = ((encs (cs.take p.2)).length : Int) := ha p.2
  have hlt : (encs (cs.take p.2)).length < s.length := by
    have := take_bytes h.cp (a := p.2) (b := cs.length) g2 g2
    rwa [List.take_length, ← hs] at this
  refine ⟨by rw [hpa]; omega, by rw [hpa]; omega, fun m z hm hz => ?_, ?_⟩
  · have hz' : (ps.map (tn cs))[m]? = some z := hz
    rw [List.getElem?_map, Option.map_eq_some_iff] at hz'
    obtain ⟨q, hq, rfl⟩ := hz'
    have hi := (toks_inc _ cs 0 ps h.cp h1).2
    obtain ⟨lm, em⟩ := List.getElem?_eq_some_iff.1 hq
    obtain ⟨ln, en⟩ := List.getElem?_eq_some_iff.1 hp
    have := List.pairwise_iff_getElem.1 hi m n lm ln hm
    rw [em, en] at this
    rw [hpa, show (tn cs q).p.a = ((encs (cs.take q.2)).length : Int) from ha q.2]
    exact Int.ofNat_lt.2 (take_bytes h.cp this (by omega))
  · rw [hpa, Int.toNat_natCast]
    have hd : s.drop (encs (cs.take p.2)).length = encs (cs.drop p.2) := by
      conv => lhs; rw [hs, ← List.take_append_drop p.2 cs]
      rw [encs_app, List.take_append_drop, List.drop_left]
    have hcd : AllCp (cs.drop p.2) := fun c hc => h.cp c (List.mem_of_mem_drop hc)
    rw [hd]
    have e1 := g3 ((cs.drop p.2).length + 1) (by omega)
    have e2 := toks_shift ((cs.drop p.2).length + 1) (cs.drop p.2) 0 p.2
    rw [Nat.zero_add, e1] at e2
    cases e3 : toksF ((cs.drop p.2).length + 1) (cs.drop p.2) 0 with
    | err x d => rw [e3] at e2; cases e2
    | ok qs =>
      rw [e3] at e2
      have e4 : ps.drop n = qs.map fun q => (q.1, q.2 + p.2) := by injection e2
      have hsz : (encs (cs.drop p.2)).length ≤ 4000 := by
        rw [← hd, List.length_drop]; omega
      have e5 : tokO (encs (cs.drop p.2)).length (cs.drop p.2) [] = ⟨qs.map (tn (cs.drop p.2)), 0, z0⟩ := by
        unfold tokO
        rw [if_pos (ot_ok.2 ⟨hsz, rfl⟩), e3]; rfl
      refine ⟨cs.drop p.2, Cps.nil hcd, by rw [e5], by rw [e5], ?_, fun i x z hx hz => ?_⟩
      · rw [e5]
        show (qs.map _).length = (ps.map _).length - n
        have := congrArg List.length e4
        rw [List.length_drop, List.length_map] at this
        rw [List.length_map, List.length_map, this]
      · rw [e5] at hx
        have hx' : (qs.map (tn (cs.drop p.2)))[i]? = some x := hx
        have hz' : (ps.map (tn cs))[n + i]? = some z := hz
        rw [List.getElem?_map, Option.map_eq_some_iff] at hx' hz'
        obtain ⟨a, ha1, rfl⟩ := hx'
        obtain ⟨b, hb1, rfl⟩ := hz'
        rw [← List.getElem?_drop, e4, List.getElem?_map, ha1] at hb1
        have hb2 : (a.1, a.2 + p.2) = b := by injection hb1
        subst hb2
        refine ⟨rfl, ?_, ends_l _ _ (by decide)⟩
        show ends p0 (cs.take (a.2 + p.2)) = (ends p0 (cs.take p.2)).mv (ends p0 ((cs.drop p.2).take a.2))
        rw [← ends_mv, ← ends_app]
        congr 1
        rw [Nat.add_comm, List.take_add]
end Go.Proofs.YteockaolmobmeaaGreatDoor.Mu
namespace Go.Proofs.YteockaolmobmeaaGreatDoor.Mu
open Go.RowKit Go.Shelf
set_option maxRecDepth 100000

theorem rdigit_any (c : Int) (w : World) : Calls Tryz.prog 85 #[.int .i32 c] w fun e w' => e = .returned (.bool (isDig c)) ∧ w = w' := by
  go_enter Tryz.func85, Tryz.ntmps85
  go_wp2
  all_goals (go_ret; refine ⟨ret_bool ?_, rfl⟩; rw [Bool.eq_iff_iff]; simp [isDig]; try omega)
theorem rsmall_any (c : Int) (w : World) : Calls Tryz.prog 66 #[.int .i32 c] w fun e w' => e = .returned (.bool (isSm c)) ∧ w = w' := by
  go_enter Tryz.func66, Tryz.ntmps66
  go_wp2
  all_goals (go_ret; refine ⟨ret_bool ?_, rfl⟩; rw [Bool.eq_iff_iff]; simp [isSm]; try omega)
theorem rgreat_any (c : Int) (w : World) : Calls Tryz.prog 65 #[.int .i32 c] w fun e w' => e = .returned (.bool (isGr c)) ∧ w = w' := by
  go_enter Tryz.func65, Tryz.ntmps65
  go_wp2
  all_goals (go_ret; refine ⟨ret_bool ?_, rfl⟩; rw [Bool.eq_iff_iff]; simp [isGr]; try omega)
theorem rword_any (c : Int) (w : World) : Calls Tryz.prog 67 #[.int .i32 c] w fun e w' => e = .returned (.bool (isW c)) ∧ w = w' := by
  have hI : isW c = (isDig c || isSm c || isGr c || decide (c = 95) || decide (c = 39)) := rfl
  have HI := Lib.hid hI
  clear hI
  obtain ⟨d, hd⟩ : ∃ d, d = isDig c := ⟨_, rfl⟩
  obtain ⟨s, hs⟩ : ∃ s, s = isSm c := ⟨_, rfl⟩
  obtain ⟨g, hg⟩ : ∃ g, g = isGr c := ⟨_, rfl⟩
  have H1 := Lib.hid hd
  have H2 := Lib.hid hs
  have H3 := Lib.hid hg
  clear hd hs hg
  have hD : ∀ w, Calls Tryz.prog 85 #[.int .i32 c] w fun e w' => e = .returned (.bool d) ∧ w = w' := fun w => by rw [H1.out]; exact rdigit_any c w
  have hS : ∀ w, Calls Tryz.prog 66 #[.int .i32 c] w fun e w' => e = .returned (.bool s) ∧ w = w' := fun w => by rw [H2.out]; exact rsmall_any c w
  have hG : ∀ w, Calls Tryz.prog 65 #[.int .i32 c] w fun e w' => e = .returned (.bool g) ∧ w = w' := fun w => by rw [H3.out]; exact rgreat_any c w
  have HD := Lib.hid hD
  have HS := Lib.hid hS
  have HG := Lib.hid hG
  clear hD hS hG
  go_enter Tryz.func67, Tryz.ntmps67
  cases d <;> cases s <;> cases g
  all_goals
    go_wp2_with (first | (go_at_call 85; refine (HD.out _).mono ?_; rintro e w1 ⟨rfl, rfl⟩) | (go_at_call 66; refine (HS.out _).mono ?_; rintro e w1 ⟨rfl, rfl⟩) | (go_at_call 65; refine (HG.out _).mono ?_; rintro e w1 ⟨rfl, rfl⟩))
    all_goals (go_ret; refine ⟨ret_bool ?_, rfl⟩; rw [HI.out, ← H1.out, ← H2.out, ← H3.out]; rw [Bool.eq_iff_iff]; simp; try omega)
/-- The code point at a place; -1: there is none. -/
def atP (cs : List Int) (i : Nat) : Int := (cs[i]?).getD (-1)
/-- A row of texts in memory. -/
def RL (w : World) (B : Nat) (A : Option Addr) (n : Nat) (ts : List (List UInt8)) : Prop :=
  n = ts.length ∧ (0 < n → ∃ b off, A = some ⟨b, off, none⟩ ∧ b < B ∧ ∀ (j : Nat) (s : List UInt8), ts[j]? = some s → w.cell? ⟨b, off + j, none⟩ = some (.string ⟨s.toArray⟩))
theorem RL.bel {w w' : World} {A : Option Addr} {n : Nat} {ts : List (List UInt8)} (h : RL w w.heap.size A n ts) (hb : Bel w w') : RL w' w'.heap.size A n ts :=
  ⟨h.1, fun hn => by
    obtain ⟨b, off, e, hbb, hc⟩ := h.2 hn
    exact ⟨b, off, e, Nat.lt_of_lt_of_le hbb hb.size, fun j s hs => (hb.cell (p := ⟨b, off + j, none⟩) hbb).trans (hc j s hs)⟩⟩
theorem str_eq (s t : List UInt8) : ((⟨s.toArray⟩ : ByteArray) == ⟨t.toArray⟩) = decide (s = t) := by
  show (s.toArray == t.toArray) = decide (s = t)
  rw [Bool.eq_iff_iff, beq_iff_eq, decide_eq_true_iff]
  exact ⟨fun h => by simpa using congrArg Array.toList h, fun h => by rw [h]⟩
theorem rhas_any {A : Option Addr} {n c : Nat} {ts : List (List UInt8)} (s : List UInt8) (hn : n ≤ 1000000) (w : World) (h : RL w w.heap.size A n ts) : Calls Tryz.prog 46 #[.slice A n c, .string ⟨s.toArray⟩] w fun e w' => e = .returned (.bool (decide (s ∈ ts))) ∧ w = w' := by
  have H := Lib.hid h
  clear h
  go_enter Tryz.func46, Tryz.ntmps46
  go_wp2
  go_loopw [5] (fun v wr => ∃ j : Nat, j ≤ n ∧ v = .int .i64 j ∧ wr = w ∧ Hid (∀ x ∈ ts.take j, x ≠ s)) (fun v _ => n - (intOf v).toNat)
  case atStart => exact ⟨0, Nat.zero_le _, rfl, rfl, Lib.hid (by simp)⟩
  case round =>
    obtain ⟨j, hj, rfl, rfl, HT⟩ := hrel
    by_cases hlt : j < n
    · obtain ⟨x, hx⟩ : ∃ x, ts[j]? = some x := ⟨_, List.getElem?_eq_getElem (by have := H.out.1; omega)⟩
      obtain ⟨b1, o1, rfl, hb1, hc1⟩ := H.out.2 (by omega)
      have a0 := hc1 j x hx
      have HX := Lib.hid hx
      clear hc1 hx
      by_cases hxs : x = s
      · subst hxs
        go_wp2
        go_ret
        exact ⟨ret_bool (by simp [List.mem_of_getElem? HX.out]), rfl⟩
      · have hq : (x == s) = false := by simp [hxs]
        have HN := Lib.hid hxs
        clear hxs
        go_wp2
        go_roundw
        case rel =>
          refine ⟨j + 1, by omega, by go_num, trivial, Lib.hid fun y hy => ?_⟩
          have hjl := (List.getElem?_eq_some_iff.1 HX.out).1
          rw [List.take_succ_eq_append_getElem hjl, (List.getElem?_eq_some_iff.1 HX.out).2] at hy
          rcases List.mem_append.1 hy with hy | hy
          · exact HT.out y hy
          · simp at hy; rw [hy]; exact HN.out
        case measure => simp [intOf]; omega
    · have hjn : j = n := by omega
      subst hjn
      have hno : s ∉ ts := fun hs => by
        have := H.out.1
        rw [this, List.take_length] at HT
        exact HT.out s hs rfl
      have HN := Lib.hid hno
      clear hno
      go_wp2
      go_ret
      exact ⟨ret_bool (by simp [HN.out]), rfl⟩
theorem RL.lit (w : World) (ts : List (List UInt8)) (L : Array Value) (hL : (ts.map fun s => Value.string ⟨s.toArray⟩).toArray = L) (n : Nat) (hn : n = ts.length) (t : TypeId) : RL (w.alloc (.cells L t)) (w.alloc (.cells L t)).heap.size (some ⟨w.heap.size, 0, none⟩) n ts := by
  have hb := blk1 w (.cells L t)
  refine ⟨hn, fun _ => ⟨w.heap.size, 0, rfl, (Array.getElem?_eq_some_iff.1 hb).1, fun j s hs => ?_⟩⟩
  unfold World.cell?
  rw [hb, ← hL]
  simp [hs]
theorem rwords_any (w : World) : Calls Tryz.prog 11 #[] w fun e w' => (∃ A, e = .returned (.slice A 6 6) ∧ RL w' w'.heap.size A 6 wordsB) ∧ Bel w w' := by
  go_enter Tryz.func11, Tryz.ntmps11
  go_wp2
  go_ret
  refine ⟨⟨_, rfl, ?_⟩, (Bel.refl _).alloc _⟩
  exact RL.lit w wordsB _ (by kernel_rfl) 6 (by kernel_rfl) _
theorem rprims_any (w : World) : Calls Tryz.prog 13 #[] w fun e w' => (∃ A, e = .returned (.slice A 10 10) ∧ RL w' w'.heap.size A 10 primsB) ∧ Bel w w' := by
  go_enter Tryz.func13, Tryz.ntmps13
  go_wp2
  go_ret
  refine ⟨⟨_, rfl, ?_⟩, (Bel.refl _).alloc _⟩
  exact RL.lit w primsB _ (by kernel_rfl) 10 (by kernel_rfl) _
theorem rsigns_any (w : World) : Calls Tryz.prog 15 #[] w fun e w' => (∃ A, e = .returned (.slice A 22 22) ∧ RL w' w'.heap.size A 22 signsB) ∧ Bel w w' := by
  go_enter Tryz.func15, Tryz.ntmps15
  go_wp2
  go_ret
  refine ⟨⟨_, rfl, ?_⟩, (Bel.refl _).alloc _⟩
  exact RL.lit w signsB _ (by kernel_rfl) 22 (by kernel_rfl) _
end Go.Proofs.YteockaolmobmeaaGreatDoor.Mu
namespace Go.Proofs.YteockaolmobmeaaGreatDoor.Mu
open Go.RowKit Go.Shelf
set_option maxRecDepth 100000

def Tn.cells (t : Tn) : List Value := [.int .u8 t.k, .string ⟨t.s.toArray⟩, .int .i64 t.n, .int .i64 t.p.a, .int .i64 t.p.l, .int .i64 t.p.c]
def flatT (xs : List Tn) : List Value := xs.flatMap Tn.cells
theorem flatT_len (xs : List Tn) : (flatT xs).length = xs.length * 6 := by
  induction xs with
  | nil => rfl
  | cons x xs ih => rw [flatT, List.flatMap_cons, List.length_append]; rw [flatT] at ih; rw [ih, List.length_cons]; show 6 + _ = _; omega
theorem flatT_snoc (xs : List Tn) (x : Tn) : flatT (xs ++ [x]) = flatT xs ++ x.cells := by simp [flatT]
/-- What six cells from a place on hold. -/
def TnAt (w : World) (b o : Nat) (x : Tn) : Prop :=
  w.cell? ⟨b, o, none⟩ = some (.int .u8 x.k) ∧ w.cell? ⟨b, o + 1, none⟩ = some (.string ⟨x.s.toArray⟩) ∧ w.cell? ⟨b, o + 2, none⟩ = some (.int .i64 x.n) ∧ w.cell? ⟨b, o + 3, none⟩ = some (.int .i64 x.p.a) ∧ w.cell? ⟨b, o + 4, none⟩ = some (.int .i64 x.p.l) ∧ w.cell? ⟨b, o + 5, none⟩ = some (.int .i64 x.p.c)
/-- A row of tokens in memory. -/
def RTn (w : World) (B : Nat) (A : Option Addr) (n : Nat) (xs : List Tn) : Prop :=
  n = xs.length ∧ (0 < n → ∃ b off, A = some ⟨b, off, none⟩ ∧ b < B ∧ ∀ (k : Nat) (x : Tn), xs[k]? = some x → TnAt w b (off + k * 6) x)
theorem RTn.nil_ {w : World} {B : Nat} {A : Option Addr} : RTn w B A 0 [] := ⟨rfl, fun h => absurd h (by omega)⟩
theorem RTn.bel {w w' : World} {A : Option Addr} {n : Nat} {xs : List Tn} (h : RTn w w.heap.size A n xs) (hb : Bel w w') : RTn w' w'.heap.size A n xs :=
  ⟨h.1, fun hn => by
    obtain ⟨b, off, e, hbb, hc⟩ := h.2 hn
    have key : ∀ o, w'.cell? ⟨b, o, none⟩ = w.cell? ⟨b, o, none⟩ := fun o => hb.cell (p := ⟨b, o, none⟩) hbb
    refine ⟨b, off, e, Nat.lt_of_lt_of_le hbb hb.size, fun k x hx => ?_⟩
    obtain ⟨a0, a1, a2, a3, a4, a5⟩ := hc k x hx
    exact ⟨(key _).trans a0, (key _).trans a1, (key _).trans a2, (key _).trans a3, (key _).trans a4, (key _).trans a5⟩⟩
theorem flatT_get : ∀ (xs : List Tn) (k : Nat) (x : Tn), xs[k]? = some x → ∀ j v, x.cells[j]? = some v → (flatT xs)[k * 6 + j]? = some v
  | [], k, x, h, _, _, _ => by simp at h
  | y :: xs, 0, x, h, j, v, hv => by
    simp at h; subst h
    have hl : j < y.cells.length := (List.getElem?_eq_some_iff.1 hv).1
    show (y.cells ++ flatT xs)[0 * 6 + j]? = some v
    rw [show 0 * 6 + j = j by omega, List.getElem?_append_left hl]; exact hv
  | y :: xs, k + 1, x, h, j, v, hv => by
    have ih := flatT_get xs k x (by simpa using h) j v hv
    have hl : y.cells.length = 6 := rfl
    show (y.cells ++ flatT xs)[(k + 1) * 6 + j]? = some v
    rw [List.getElem?_append_right (by omega), hl, show (k + 1) * 6 + j - 6 = k * 6 + j by omega]; exact ih
theorem RTn.of_own {w : World} {base n c : Nat} {A : Option Addr} {xs : List Tn} {e : TypeId} (h : w.ownsRow base e 6 (.slice A n c) n (flatT xs)) : RTn w w.heap.size A n xs := by
  have hl : n = xs.length := by have h1 := h.1; rw [flatT_len] at h1; omega
  refine ⟨hl, fun hn => ?_⟩
  obtain ⟨g, cap, hv, _, hlt⟩ := h.form hn
  have hA : A = some ⟨g, 0, none⟩ := by injection hv
  subst hA
  refine ⟨g, 0, rfl, hlt, fun k x hx => ?_⟩
  have key : ∀ j v, x.cells[j]? = some v → w.cell? ⟨g, 0 + k * 6 + j, none⟩ = some v := fun j v hv => by
    have := h.cells (g := g) rfl _ _ (flatT_get xs k x hx j v hv)
    rw [Addr.add_lit] at this
    rw [Nat.add_assoc]; exact this
  exact ⟨key 0 _ rfl, key 1 _ rfl, key 2 _ rfl, key 3 _ rfl, key 4 _ rfl, key 5 _ rfl⟩
def samO (at_ : Bool) (x y : Tn) : Bool := decide (x.k = y.k) && decide (x.s = y.s) && decide (x.n = y.n) && (!at_ || decide (x.p = y.p))
def samL (at_ : Bool) : List Tn → List Tn → Bool
  | [], [] => true
  | x :: xs, y :: ys => samO at_ x y && samL at_ xs ys
  | _, _ => false
theorem samL_len (a : Bool) : ∀ (xs ys : List Tn), xs.length ≠ ys.length → samL a xs ys = false
  | [], [], h => absurd rfl h
  | [], _ :: _, _ => rfl
  | _ :: _, [], _ => rfl
  | x :: xs, y :: ys, h => by
    show (samO a x y && samL a xs ys) = false
    rw [samL_len a xs ys (by simpa using h), Bool.and_false]
theorem samL_b : ∀ (xs ys : List Tn), samL false xs ys = true ↔ xs.map Tn.b = ys.map Tn.b
  | [], [] => by simp [samL]
  | [], _ :: _ => by simp [samL]
  | _ :: _, [] => by simp [samL]
  | x :: xs, y :: ys => by
    have ih := samL_b xs ys
    simp only [samL, samO, Bool.and_eq_true, decide_eq_true_eq, ih, List.map_cons, List.cons.injEq, Tn.b, Prod.mk.injEq, Bool.not_false, Bool.true_or, and_true, and_assoc]
theorem sam_step {a : Bool} {xs ys : List Tn} {j : Nat} {x y : Tn} (hx : xs[j]? = some x) (hy : ys[j]? = some y) : samL a (xs.drop j) (ys.drop j) = (samO a x y && samL a (xs.drop (j + 1)) (ys.drop (j + 1))) := by
  obtain ⟨h1, rfl⟩ := List.getElem?_eq_some_iff.1 hx
  obtain ⟨h2, rfl⟩ := List.getElem?_eq_some_iff.1 hy
  rw [List.drop_eq_getElem_cons h1, List.drop_eq_getElem_cons h2]; rfl
end Go.Proofs.YteockaolmobmeaaGreatDoor.Mu
namespace Go.Proofs.YteockaolmobmeaaGreatDoor.Mu
open Go Go.RowKit
set_option maxRecDepth 100000

theorem low_ok {l : List Int} (h : l.all (fun c => decide (0 ≤ c ∧ c < 128)) = true) : ∀ c ∈ l, 0 ≤ c ∧ c < 128 := fun c hc => by simpa using List.all_eq_true.1 h c hc
theorem cps_low {s : List UInt8} {cs : List Int} (h : cs.all (fun c => decide (0 ≤ c ∧ c < 128)) = true) (hs : s = byt cs) : Cps s cs [] := by
  have k := Cps.nil (cs := cs) fun c hc => cp_low (low_ok h c hc)
  rw [encs_low (low_ok h)] at k
  rw [hs]; exact k
theorem tok_of {n : Nat} {cs : List Int} {ps : List (Tk × Nat)} (hn : n ≤ 4000) (h : toksF (cs.length + 1) cs 0 = .ok ps) : tokO n cs [] = ⟨ps.map (tn cs), 0, z0⟩ := by
  unfold tokO
  rw [if_pos (ot_ok.2 ⟨hn, rfl⟩), h]; rfl
theorem tok_er {n : Nat} {cs : List Int} {e : Int} {d : Nat} (hn : n ≤ 4000) (h : toksF (cs.length + 1) cs 0 = .err e d) : tokO n cs [] = ⟨[], e, ends p0 (cs.take d)⟩ := by
  unfold tokO
  rw [if_pos (ot_ok.2 ⟨hn, rfl⟩), h]; rfl
def kx1 : List Tn := [⟨5, [108, 101, 116], 0, ⟨0, 1, 1⟩⟩, ⟨1, [102, 39], 0, ⟨4, 1, 5⟩⟩, ⟨5, [61], 0, ⟨7, 1, 8⟩⟩, ⟨3, [], 1, ⟨9, 1, 10⟩⟩, ⟨1, [97], 0, ⟨10, 1, 11⟩⟩]
def kx2 : List Tn := [⟨1, [97], 0, ⟨0, 1, 1⟩⟩, ⟨5, [45, 49, 62], 0, ⟨2, 1, 3⟩⟩, ⟨2, [66], 0, ⟨6, 1, 7⟩⟩]
def kx3 : List Tn := [⟨4, [97, 10, 34], 0, ⟨0, 1, 1⟩⟩]
def ky2 : List Tn := [⟨1, [97], 0, ⟨0, 0, 0⟩⟩, ⟨5, [45, 49, 62], 0, ⟨0, 0, 0⟩⟩, ⟨2, [66], 0, ⟨0, 0, 0⟩⟩]
def ky3 : List Tn := [⟨4, [97, 10, 34], 0, ⟨0, 0, 0⟩⟩]
theorem kt1 : tokO 11 [108, 101, 116, 32, 102, 39, 32, 61, 32, 49, 97] [] = ⟨kx1, 0, z0⟩ := by
  rw [tok_of (ps := [(⟨5, [108, 101, 116], 0⟩, 0), (⟨1, [102, 39], 0⟩, 4), (⟨5, [61], 0⟩, 7), (⟨3, [], 1⟩, 9), (⟨1, [97], 0⟩, 10)]) (by decide) (by
    simp +decide [toksF, skipL, oneL, wordL, numL, signL, wordsL, primsL, signsL, valN, isW, isDig, isSm, isGr, List.takeWhile, List.dropWhile, Rs.cons])]
  kernel_rfl
theorem kt2 : tokO 10 [97, 32, 45, 49, 62, 32, 66, 45, 45, 99] [] = ⟨kx2, 0, z0⟩ := by
  rw [tok_of (ps := [(⟨1, [97], 0⟩, 0), (⟨5, [45, 49, 62], 0⟩, 2), (⟨2, [66], 0⟩, 6)]) (by decide) (by
    simp +decide [toksF, skipL, oneL, wordL, signL, wordsL, primsL, signsL, isW, isDig, isSm, isGr, List.takeWhile, List.dropWhile, Rs.cons])]
  kernel_rfl
theorem kt3 : tokO 7 [34, 97, 92, 110, 92, 34, 34] [] = ⟨kx3, 0, z0⟩ := by
  rw [tok_of (ps := [(⟨4, [97, 10, 34], 0⟩, 0)]) (by decide) (by
    simp +decide [toksF, skipL, oneL, quoL, isDig, isSm, isGr, Rs.cons, escV])]
  kernel_rfl
theorem ke0 : tokO 2 [48, 49] [] = ⟨[], 100, ⟨0, 1, 1⟩⟩ := by
  rw [tok_er (e := 100) (d := 0) (by decide) (by simp +decide [toksF, skipL, oneL, numL, isDig, isSm, isGr])]
  kernel_rfl
theorem ke1 : tokO 3 [97, 32, 33] [] = ⟨[], 100, ⟨2, 1, 3⟩⟩ := by
  rw [tok_er (e := 100) (d := 2) (by decide) (by simp +decide [toksF, skipL, oneL, wordL, signL, wordsL, primsL, signsL, isW, isDig, isSm, isGr, List.takeWhile, List.dropWhile, Rs.cons])]
  kernel_rfl
theorem ke2 : tokO 4 [34, 92, 97, 34] [] = ⟨[], 100, ⟨1, 1, 2⟩⟩ := by
  rw [tok_er (e := 100) (d := 1) (by decide) (by simp +decide [toksF, skipL, oneL, quoL, isDig, isSm, isGr])]
  kernel_rfl
theorem ke3 : tokO 2 [34, 97] [] = ⟨[], 102, ⟨0, 1, 1⟩⟩ := by
  rw [tok_er (e := 102) (d := 0) (by decide) (by simp +decide [toksF, skipL, oneL, quoL, isDig, isSm, isGr])]
  kernel_rfl
theorem ke4 : tokO 13 [49, 48, 57, 57, 53, 49, 49, 54, 50, 55, 55, 55, 55] [] = ⟨[], 101, ⟨0, 1, 1⟩⟩ := by
  rw [tok_er (e := 101) (d := 0) (by decide) (by simp +decide [toksF, skipL, oneL, numL, valN, isDig, isSm, isGr, List.takeWhile])]
  kernel_rfl
theorem ke5 : tokO 25 (List.replicate 25 97) [] = ⟨[], 3, ⟨0, 1, 1⟩⟩ := by
  rw [tok_er (e := 3) (d := 0) (by decide) (by simp +decide [List.replicate, toksF, skipL, oneL, wordL, wordsL, primsL, isW, isDig, isSm, isGr, List.takeWhile])]
  kernel_rfl
theorem ks1 : samL true kx1 kx1 = true := by kernel_rfl
theorem ks2 : samL false kx2 ky2 = true := by kernel_rfl
theorem ks3 : samL false kx3 ky3 = true := by kernel_rfl
theorem kw1 : wrO [(1, [97], 0), (4, [10], 0)] = ([97, 32, 34, 92, 110, 34], 0) := by
  have e : writeB [(1, [97], 0), (4, [10], 0)] = [97, 32, 34, 92, 110, 34] := by kernel_rfl
  have h : ∀ t ∈ [((1 : Int), ([97] : List UInt8), (0 : Int)), (4, [10], 0)], mayTk t := by
    intro t ht
    simp only [List.mem_cons, List.mem_nil_iff, or_false] at ht
    rcases ht with rfl | rfl
    · refine .inl ⟨rfl, ⟨by decide, by decide, by decide +kernel, by decide +kernel, by decide +kernel, by decide +kernel⟩, rfl⟩
    · exact .inr (.inr (.inr (.inl ⟨rfl, ⟨[10], cps_low (by decide +kernel) (by kernel_rfl)⟩, rfl⟩)))
  unfold wrO
  rw [if_pos h, e, if_pos (by decide)]
theorem kw2 : wrO [(1, [65], 0)] = ([], 2) := by
  unfold wrO
  rw [if_neg fun h => ?_]
  have := h (1, [65], 0) (by simp)
  rcases this with ⟨_, h, _⟩ | ⟨e, _⟩ | ⟨e, _⟩ | ⟨e, _⟩ | ⟨e, _⟩ | ⟨e, _⟩
  · exact absurd h.2.2.2.1 (by decide +kernel)
  all_goals exact absurd e (by decide)
/-- A literal of tokens in memory. -/
theorem RTn.lit {w : World} (xs : List Tn) (L : Array Value) (hL : (flatT xs).toArray = L) (n : Nat) (hn : n = xs.length) (t : TypeId) : RTn (w.alloc (.cells L t)) (w.alloc (.cells L t)).heap.size (some ⟨w.heap.size, 0, none⟩) n xs := by
  have hb := blk1 w (.cells L t)
  refine ⟨hn, fun _ => ⟨w.heap.size, 0, rfl, (Array.getElem?_eq_some_iff.1 hb).1, fun k x hx => ?_⟩⟩
  have key : ∀ j v, x.cells[j]? = some v → (w.alloc (.cells L t)).cell? ⟨w.heap.size, 0 + k * 6 + j, none⟩ = some v := fun j v hv => by
    unfold World.cell?
    rw [hb, ← hL]
    simpa [Nat.add_assoc] using flatT_get xs k x hx j v hv
  exact ⟨key 0 _ rfl, key 1 _ rfl, key 2 _ rfl, key 3 _ rfl, key 4 _ rfl, key 5 _ rfl⟩
end Go.Proofs.YteockaolmobmeaaGreatDoor.Mu

