/-
  Types that may be have the same text just if they are the same.
  How long the text of a type is.
-/
import Derived.Test.YtomojelaookacaaDoorTextMath
import Derived.Test.YtomojelaookacaaDoorTyWrite
import Derived.Test.YtomojelaookacaaDoorTyMayN
import Derived.Lib.ItoaLen
namespace Go.Proofs.YtomojelaookacaaDoor.Mu
open Go.RowKit Go

set_option linter.unusedVariables false

abbrev clean (x : UInt8) : Prop := x ≠ 32 ∧ x ≠ 40 ∧ x ≠ 41
def Ends (r : List UInt8) : Prop := r = [] ∨ ∃ x t, r = x :: t ∧ ¬ clean x
theorem word_split : ∀ {a b r s : List UInt8}, (∀ x ∈ a, clean x) → (∀ x ∈ b, clean x) → Ends r → Ends s → a ++ r = b ++ s → a = b ∧ r = s
  | [], [], r, s, _, _, _, _, h => ⟨rfl, h⟩
  | [], y :: b, r, s, _, hb, hr, _, h => by
    rcases hr with rfl | ⟨x, t, rfl, hx⟩
    · simp at h
    · simp only [List.nil_append, List.cons_append, List.cons.injEq] at h
      exact absurd (h.1 ▸ hb y (by simp)) hx
  | x :: a, [], r, s, ha, _, _, hs, h => by
    rcases hs with rfl | ⟨y, t, rfl, hy⟩
    · simp at h
    · simp only [List.nil_append, List.cons_append, List.cons.injEq] at h
      exact absurd (h.1 ▸ ha x (by simp)) hy
  | x :: a, y :: b, r, s, ha, hb, hr, hs, h => by
    simp only [List.cons_append, List.cons.injEq] at h
    obtain ⟨e1, e2⟩ := word_split (fun z hz => ha z (by simp [hz])) (fun z hz => hb z (by simp [hz])) hr hs h.2
    exact ⟨by rw [h.1, e1], e2⟩
def nm2 : List (List UInt8) := [[66, 111, 111, 108], [76, 105, 115, 116]]
/-- The word that a type begins with which is no function. -/
def headW (k n : Int) : List UInt8 := if k = 1 then 97 :: Lib.itoa n else if k = 6 then [65, 114, 114] else if k = 8 then nameT nm2 n else wordT k
theorem dig_clean {x : UInt8} (h : 48 ≤ x.toNat ∧ x.toNat ≤ 57) : clean x := by
  refine ⟨?_, ?_, ?_⟩ <;> rintro rfl <;> revert h <;> decide
theorem itoa_clean {n : Int} (h : 0 ≤ n) : ∀ x ∈ Lib.itoa n, clean x := by
  rw [itoa_dec h]
  exact fun x hx => dig_clean (dec_dig _ x hx)
theorem nameT_cases {n : Int} (h : 0 ≤ n) : (n = 0 ∧ nameT nm2 n = [66, 111, 111, 108]) ∨ (n = 1 ∧ nameT nm2 n = [76, 105, 115, 116]) ∨ (2 ≤ n ∧ nameT nm2 n = 35 :: Lib.itoa n) := by
  by_cases h0 : n = 0
  · subst h0; exact .inl ⟨rfl, rfl⟩
  by_cases h1 : n = 1
  · subst h1; exact .inr (.inl ⟨rfl, rfl⟩)
  refine .inr (.inr ⟨by omega, ?_⟩)
  unfold nameT
  have : nm2[n.toNat]? = none := by
    rw [List.getElem?_eq_none_iff]
    simp [nm2]
    omega
  rw [this]
/-- What a node that is no function is, by its kind. -/
theorem node_cases {k n v c : Int} {len : Nat} (h : nodeB k n v c len = true) (h7 : k ≠ 7) : v = 0 ∧ c = 0 ∧ ((k = 1 ∧ 0 ≤ n ∧ len = 0) ∨ ((k = 2 ∨ k = 3 ∨ k = 4 ∨ k = 5) ∧ n = 0 ∧ len = 0) ∨ (k = 6 ∧ n = 0 ∧ len = 1) ∨ (k = 8 ∧ 0 ≤ n ∧ len ≤ 4)) := by
  unfold nodeB at h
  simp only [Bool.and_eq_true, Bool.or_eq_true, decide_eq_true_eq] at h
  obtain ⟨⟨h1, h2⟩, h3⟩ := h
  have hvc : v = 0 ∧ c = 0 := by
    rcases h1 with h1 | h1
    · exact absurd h1 h7
    · exact h1
  refine ⟨hvc.1, hvc.2, ?_⟩
  by_cases k1 : k = 1
  · rw [if_pos k1] at h3
    simp only [Bool.and_eq_true, decide_eq_true_eq] at h3
    exact .inl ⟨k1, h3.1.1, h3.2⟩
  rw [if_neg k1] at h3
  by_cases k2 : k = 2 ∨ k = 3 ∨ k = 4 ∨ k = 5
  · rw [if_pos k2] at h3
    simp only [decide_eq_true_eq] at h3
    exact .inr (.inl ⟨k2, by omega, h3⟩)
  rw [if_neg k2] at h3
  by_cases k6 : k = 6
  · rw [if_pos k6] at h3
    simp only [decide_eq_true_eq] at h3
    exact .inr (.inr (.inl ⟨k6, by omega, h3⟩))
  rw [if_neg k6, if_neg h7] at h3
  by_cases k8 : k = 8
  · rw [if_pos k8] at h3
    simp only [Bool.and_eq_true, decide_eq_true_eq] at h3
    exact .inr (.inr (.inr ⟨k8, h3.1.1, h3.2⟩))
  · rw [if_neg k8] at h3
    cases h3
theorem node_fun {n v c : Int} {len : Nat} (h : nodeB 7 n v c len = true) : n = 0 ∧ len = 2 ∧ isB v c = true := by
  unfold nodeB at h
  simp at h
  exact ⟨by omega, by omega, by simp_all⟩
theorem word_first {k n v c : Int} {len : Nat} (h : nodeB k n v c len = true) (h7 : k ≠ 7) : ∃ x t, headW k n = x :: t ∧ clean x ∧ x ≠ 45 := by
  obtain ⟨_, _, h⟩ := node_cases h h7
  rcases h with ⟨rfl, h0, _⟩ | ⟨hk, rfl, _⟩ | ⟨rfl, rfl, _⟩ | ⟨rfl, h0, _⟩
  · exact ⟨97, Lib.itoa n, rfl, by decide, by decide⟩
  · rcases hk with rfl | rfl | rfl | rfl
    · exact ⟨73, [110, 116], rfl, by decide, by decide⟩
    · exact ⟨83, [116, 114], rfl, by decide, by decide⟩
    · exact ⟨73, [111], rfl, by decide, by decide⟩
    · exact ⟨70, [105, 108, 101], rfl, by decide, by decide⟩
  · exact ⟨65, [114, 114], rfl, by decide, by decide⟩
  · have e : headW 8 n = nameT nm2 n := rfl
    rw [e]
    rcases nameT_cases h0 with ⟨_, e⟩ | ⟨_, e⟩ | ⟨_, e⟩
    · exact ⟨66, [111, 111, 108], e, by decide, by decide⟩
    · exact ⟨76, [105, 115, 116], e, by decide, by decide⟩
    · exact ⟨35, Lib.itoa n, e, by decide, by decide⟩
theorem word_clean {k n v c : Int} {len : Nat} (h : nodeB k n v c len = true) (h7 : k ≠ 7) : ∀ x ∈ headW k n, clean x := by
  obtain ⟨_, _, h⟩ := node_cases h h7
  rcases h with ⟨rfl, h0, _⟩ | ⟨hk, rfl, _⟩ | ⟨rfl, rfl, _⟩ | ⟨rfl, h0, _⟩
  · intro x hx
    have hx' : x ∈ 97 :: Lib.itoa n := hx
    rcases List.mem_cons.1 hx' with rfl | hx'
    · decide
    · exact itoa_clean h0 x hx'
  · rcases hk with rfl | rfl | rfl | rfl <;> decide
  · decide
  · have e : headW 8 n = nameT nm2 n := rfl
    rw [e]
    rcases nameT_cases h0 with ⟨_, e⟩ | ⟨_, e⟩ | ⟨_, e⟩
    · rw [e]; decide
    · rw [e]; decide
    · rw [e]
      intro x hx
      rcases List.mem_cons.1 hx with rfl | hx'
      · decide
      · exact itoa_clean h0 x hx'
/-- The word's first letters tell the kind. -/
theorem word_shape {k n v c : Int} {len : Nat} (h : nodeB k n v c len = true) (h7 : k ≠ 7) : (k = 1 ∧ 0 ≤ n ∧ headW k n = 97 :: Lib.itoa n) ∨ (k = 8 ∧ 2 ≤ n ∧ headW k n = 35 :: Lib.itoa n) ∨ (k, n, headW k n) ∈ ([(2, 0, [73, 110, 116]), (3, 0, [83, 116, 114]), (4, 0, [73, 111]), (5, 0, [70, 105, 108, 101]), (6, 0, [65, 114, 114]), (8, 0, [66, 111, 111, 108]), (8, 1, [76, 105, 115, 116])] : List (Int × Int × List UInt8)) := by
  obtain ⟨_, _, h⟩ := node_cases h h7
  rcases h with ⟨rfl, h0, _⟩ | ⟨hk, rfl, _⟩ | ⟨rfl, rfl, _⟩ | ⟨rfl, h0, _⟩
  · exact .inl ⟨rfl, h0, rfl⟩
  · rcases hk with rfl | rfl | rfl | rfl <;> exact .inr (.inr (by decide +kernel))
  · exact .inr (.inr (by decide +kernel))
  · rcases nameT_cases h0 with ⟨rfl, e⟩ | ⟨rfl, e⟩ | ⟨h2, e⟩
    · exact .inr (.inr (by decide +kernel))
    · exact .inr (.inr (by decide +kernel))
    · exact .inr (.inl ⟨rfl, h2, e⟩)
theorem seven_first : ∀ x ∈ ([(2, 0, [73, 110, 116]), (3, 0, [83, 116, 114]), (4, 0, [73, 111]), (5, 0, [70, 105, 108, 101]), (6, 0, [65, 114, 114]), (8, 0, [66, 111, 111, 108]), (8, 1, [76, 105, 115, 116])] : List (Int × Int × List UInt8)), x.2.2.head? ≠ some 97 ∧ x.2.2.head? ≠ some 35 := by decide +kernel
theorem seven_inj : ∀ x ∈ ([(2, 0, [73, 110, 116]), (3, 0, [83, 116, 114]), (4, 0, [73, 111]), (5, 0, [70, 105, 108, 101]), (6, 0, [65, 114, 114]), (8, 0, [66, 111, 111, 108]), (8, 1, [76, 105, 115, 116])] : List (Int × Int × List UInt8)), ∀ y ∈ ([(2, 0, [73, 110, 116]), (3, 0, [83, 116, 114]), (4, 0, [73, 111]), (5, 0, [70, 105, 108, 101]), (6, 0, [65, 114, 114]), (8, 0, [66, 111, 111, 108]), (8, 1, [76, 105, 115, 116])] : List (Int × Int × List UInt8)), x.2.2 = y.2.2 → x.1 = y.1 ∧ x.2.1 = y.2.1 := by decide +kernel
theorem word_inj {k n v c k' n' v' c' : Int} {len len' : Nat} (h : nodeB k n v c len = true) (h7 : k ≠ 7) (h' : nodeB k' n' v' c' len' = true) (h7' : k' ≠ 7) (e : headW k n = headW k' n') : k = k' ∧ n = n' := by
  rcases word_shape h h7 with ⟨rfl, h0, a⟩ | ⟨rfl, h0, a⟩ | a
  · rcases word_shape h' h7' with ⟨rfl, h0', b⟩ | ⟨rfl, h0', b⟩ | b
    · rw [a, b] at e
      simp only [List.cons.injEq, true_and] at e
      exact ⟨rfl, itoa_inj h0 h0' e⟩
    · rw [a, b] at e
      simp at e
    · exact absurd (by rw [← e, a]; rfl) (seven_first _ b).1
  · rcases word_shape h' h7' with ⟨rfl, h0', b⟩ | ⟨rfl, h0', b⟩ | b
    · rw [a, b] at e
      simp at e
    · rw [a, b] at e
      simp only [List.cons.injEq, true_and] at e
      exact ⟨rfl, itoa_inj (by omega) (by omega) e⟩
    · exact absurd (by rw [← e, a]; rfl) (seven_first _ b).2
  · rcases word_shape h' h7' with ⟨rfl, h0', b⟩ | ⟨rfl, h0', b⟩ | b
    · exact absurd (by rw [e, b]; rfl) (seven_first _ a).1
    · exact absurd (by rw [e, b]; rfl) (seven_first _ a).2
    · exact seven_inj _ a _ b e
/-- What may stand behind a type, by its place. -/
def TRd (r : List UInt8) : Prop := r = [] ∨ ∃ t, r = 41 :: t
def TRa (r : List UInt8) : Prop := TRd r ∨ ∃ t, r = 32 :: t
def TRb (r : List UInt8) : Prop := TRd r ∨ ∃ t, r = 32 :: 45 :: t
theorem TRb.ra {r : List UInt8} (h : TRb r) : TRa r := h.imp id fun ⟨t, e⟩ => ⟨45 :: t, e⟩
theorem TRa.ends {r : List UInt8} (h : TRa r) : Ends r := by
  rcases h with (h | ⟨t, h⟩) | ⟨t, h⟩
  · exact .inl h
  · exact .inr ⟨41, t, h, by decide⟩
  · exact .inr ⟨32, t, h, by decide⟩
/-- A node's own text, without brackets. -/
def bdyT (k n v c : Int) (kids : Fo) : List UInt8 := bodyT nm2 k n v c (kids.txt nm2 (plK k))
theorem one_eq (k n v c : Int) (kids rest : Fo) (pl : Int) : Fo.one nm2 (.cons k n v c kids rest) pl = brkT (brkB pl k kids.len) (bdyT k n v c kids) := rfl
theorem bdy_word {k n v c : Int} {kids : Fo} (h : nodeB k n v c kids.len = true) (h7 : k ≠ 7) : bdyT k n v c kids = headW k n ++ argsT (kids.txt nm2 2) := by
  have hp : plK k = 2 := if_neg h7
  obtain ⟨_, _, h⟩ := node_cases h h7
  unfold bdyT bodyT headW
  rw [hp]
  rcases h with ⟨rfl, _, h⟩ | ⟨h', _, h⟩ | ⟨rfl, _, h⟩ | ⟨rfl, _, h⟩
  · rw [Fo.len_zero h]; simp [Fo.txt, argsT]
  · rw [Fo.len_zero h]
    rcases h' with rfl | rfl | rfl | rfl <;> simp [Fo.txt, argsT]
  · simp
  · simp
theorem args_cons (k n v c : Int) (kids rest : Fo) : argsT ((Fo.cons k n v c kids rest).txt nm2 2) = 32 :: (Fo.one nm2 (.cons k n v c kids .nil) 2 ++ argsT (rest.txt nm2 2)) := by
  simp [argsT, Fo.txt, Fo.one, plN]
theorem brk_no (b : Bool) (s : List UInt8) (h : b = false) : brkT b s = s := by rw [h]; rfl
theorem brk_yes (b : Bool) (s : List UInt8) (h : b = true) : brkT b s = 40 :: (s ++ [41]) := by rw [h]; rfl
theorem brk2 (k : Int) (len : Nat) : brkB 2 k len = (decide (k = 7) || decide (k = 6) || (decide (k = 8) && decide (0 < len))) := by simp [brkB]
theorem brk1 (k : Int) (len : Nat) : brkB 1 k len = decide (k = 7) := by simp [brkB]
theorem brk0 (k : Int) (len : Nat) : brkB 0 k len = false := by simp [brkB]
theorem atom_first {k n v c : Int} {kids rest : Fo} (h : nodeB k n v c kids.len = true) : ∃ x t, Fo.one nm2 (.cons k n v c kids rest) 2 = x :: t ∧ x ≠ 45 ∧ x ≠ 32 ∧ x ≠ 41 := by
  rw [one_eq]
  cases hb : brkB 2 k kids.len
  · have h7 : k ≠ 7 := by
      rintro rfl
      simp [brk2] at hb
    obtain ⟨x, t, e, h1, h2⟩ := word_first h h7
    rw [brk_no _ _ rfl, bdy_word h h7, e]
    exact ⟨x, _, rfl, h2, h1.1, h1.2.2⟩
  · exact ⟨40, _, brk_yes _ _ rfl, by decide, by decide, by decide⟩
/-- The same node. -/
def SameN (k n v c : Int) (kids : Fo) (k' n' v' c' : Int) (kids' : Fo) : Prop := k = k' ∧ n = n' ∧ v = v' ∧ c = c' ∧ kids = kids'
def Atoms (N : Nat) : Prop := ∀ (k n v c : Int) (kids : Fo) (k' n' v' c' : Int) (kids' : Fo) (r s : List UInt8), 1 + kids.size ≤ N → (Fo.cons k n v c kids .nil).well = true → (Fo.cons k' n' v' c' kids' .nil).well = true → TRa r → TRa s → Fo.one nm2 (.cons k n v c kids .nil) 2 ++ r = Fo.one nm2 (.cons k' n' v' c' kids' .nil) 2 ++ s → SameN k n v c kids k' n' v' c' kids' ∧ r = s
theorem args_ra (f : Fo) {r : List UInt8} (h : TRb r) : TRa (argsT (f.txt nm2 2) ++ r) := by
  cases f with
  | nil => exact h.ra
  | cons k n v c kids rest => rw [args_cons]; exact .inr ⟨_, rfl⟩
theorem args_split {N : Nat} (IH : Atoms N) : ∀ (f g : Fo) (r s : List UInt8), f.size ≤ N → f.well = true → g.well = true → TRb r → TRb s → argsT (f.txt nm2 2) ++ r = argsT (g.txt nm2 2) ++ s → f = g ∧ r = s
  | .nil, .nil, r, s, _, _, _, _, _, h => ⟨rfl, h⟩
  | .nil, .cons k n v c kids rest, r, s, _, _, hg, hr, _, h => by
    exfalso
    simp only [Fo.well, Bool.and_eq_true] at hg
    obtain ⟨x, t, e, h1, _⟩ := atom_first (rest := .nil) hg.1
    rw [args_cons, e] at h
    have h' : r = 32 :: x :: (t ++ argsT (rest.txt nm2 2) ++ s) := by
      rw [show r = argsT (Fo.nil.txt nm2 2) ++ r from rfl, h]
      simp
    rcases hr with (rfl | ⟨u, rfl⟩) | ⟨u, rfl⟩
    · cases h'
    · injection h' with a _
      exact absurd a (by decide)
    · injection h' with _ b
      injection b with b _
      exact h1 b.symm
  | .cons k n v c kids rest, .nil, r, s, _, hf, _, _, hs, h => by
    exfalso
    simp only [Fo.well, Bool.and_eq_true] at hf
    obtain ⟨x, t, e, h1, _⟩ := atom_first (rest := .nil) hf.1
    rw [args_cons, e] at h
    have h' : s = 32 :: x :: (t ++ argsT (rest.txt nm2 2) ++ r) := by
      rw [show s = argsT (Fo.nil.txt nm2 2) ++ s from rfl, ← h]
      simp
    rcases hs with (rfl | ⟨u, rfl⟩) | ⟨u, rfl⟩
    · cases h'
    · injection h' with a _
      exact absurd a (by decide)
    · injection h' with _ b
      injection b with b _
      exact h1 b.symm
  | .cons k n v c kids rest, .cons k' n' v' c' kids' rest', r, s, hN, hf, hg, hr, hs, h => by
    simp only [Fo.well, Bool.and_eq_true] at hf hg
    simp only [Fo.size] at hN
    rw [args_cons, args_cons] at h
    simp only [List.cons_append, List.cons.injEq, true_and, List.append_assoc] at h
    obtain ⟨⟨rfl, rfl, rfl, rfl, rfl⟩, e2⟩ := IH k n v c kids k' n' v' c' kids' _ _ (by omega) (by simp [Fo.well, hf.1, hf.2.1]) (by simp [Fo.well, hg.1, hg.2.1]) (args_ra rest hr) (args_ra rest' hs) h
    obtain ⟨rfl, e3⟩ := args_split IH rest rest' r s (by omega) hf.2.2 hg.2.2 hr hs e2
    exact ⟨rfl, e3⟩
theorem bdy_split {N : Nat} (IH : Atoms N) {k n v c : Int} {kids : Fo} {k' n' v' c' : Int} {kids' : Fo} {r s : List UInt8} (hN : kids.size ≤ N) (hf : (Fo.cons k n v c kids .nil).well = true) (hg : (Fo.cons k' n' v' c' kids' .nil).well = true) (h7 : k ≠ 7) (h7' : k' ≠ 7) (hr : TRb r) (hs : TRb s) (h : bdyT k n v c kids ++ r = bdyT k' n' v' c' kids' ++ s) : SameN k n v c kids k' n' v' c' kids' ∧ r = s := by
  simp only [Fo.well, Bool.and_eq_true] at hf hg
  rw [bdy_word hf.1 h7, bdy_word hg.1 h7', List.append_assoc, List.append_assoc] at h
  obtain ⟨e1, e2⟩ := word_split (word_clean hf.1 h7) (word_clean hg.1 h7') (args_ra kids hr).ends (args_ra kids' hs).ends h
  obtain ⟨rfl, rfl⟩ := word_inj hf.1 h7 hg.1 h7' e1
  obtain ⟨rfl, rfl, _⟩ := node_cases hf.1 h7
  obtain ⟨rfl, rfl, _⟩ := node_cases hg.1 h7'
  obtain ⟨rfl, e3⟩ := args_split IH kids kids' r s hN hf.2.1 hg.2.1 hr hs e2
  exact ⟨⟨rfl, rfl, rfl, rfl, rfl⟩, e3⟩
theorem muT_left (v c : Int) : muT v c = leftS v c := rfl
theorem muT_no {v c : Int} (h : isB v c = true) : (62 : UInt8) ∉ muT v c := by
  rcases isB_parts h with ⟨rfl, h0, _⟩ | ⟨h1, h3, rfl⟩
  · rw [show muT v 0 = varS v from rfl]
    exact varS_no h0 (by decide) (by decide)
  · rw [show muT 0 c = mulS c from if_neg (by omega)]
    rcases mulS_cases h1 h3 with ⟨_, e⟩ | ⟨_, e⟩ | ⟨_, e⟩ <;> rw [e] <;> decide
def Alone (N : Nat) : Prop := ∀ (k n v c : Int) (kids : Fo) (k' n' v' c' : Int) (kids' : Fo) (r s : List UInt8), 1 + kids.size ≤ N → (Fo.cons k n v c kids .nil).well = true → (Fo.cons k' n' v' c' kids' .nil).well = true → TRd r → TRd s → bdyT k n v c kids ++ r = bdyT k' n' v' c' kids' ++ s → SameN k n v c kids k' n' v' c' kids' ∧ r = s
/-- A function's text. -/
theorem fun_two {n v c : Int} {kids : Fo} (h : (Fo.cons 7 n v c kids .nil).well = true) : ∃ k1 n1 v1 c1 d1 k2 n2 v2 c2 d2, kids = .cons k1 n1 v1 c1 d1 (.cons k2 n2 v2 c2 d2 .nil) ∧ n = 0 ∧ isB v c = true ∧ (Fo.cons k1 n1 v1 c1 d1 .nil).well = true ∧ (Fo.cons k2 n2 v2 c2 d2 .nil).well = true ∧ bdyT 7 n v c kids = brkT (decide (k1 = 7)) (bdyT k1 n1 v1 c1 d1) ++ (32 :: 45 :: (muT v c ++ 62 :: (32 :: bdyT k2 n2 v2 c2 d2))) := by
  simp only [Fo.well, Bool.and_eq_true] at h
  obtain ⟨h0, hl, hB⟩ := node_fun h.1
  match kids, hl, h with
  | .cons k1 n1 v1 c1 d1 (.cons k2 n2 v2 c2 d2 .nil), _, h =>
    simp only [Fo.well, Bool.and_eq_true] at h
    refine ⟨k1, n1, v1, c1, d1, k2, n2, v2, c2, d2, rfl, h0, hB, by simp [Fo.well, h.2.1.1, h.2.1.2.1], by simp [Fo.well, h.2.1.2.2.1, h.2.1.2.2.2.1], ?_⟩
    have e7 : ∀ ts, bodyT nm2 7 n v c ts = funT v c ts := fun ts => by simp [bodyT]
    unfold bdyT
    rw [e7, show plK 7 = 1 from rfl]
    simp [funT, Fo.txt, show plN 1 = 0 from rfl, brk1, brk0, arrowT, brkT]
theorem left_split {N : Nat} (IA : Atoms N) (JO : Alone N) {k n v c : Int} {kids : Fo} {k' n' v' c' : Int} {kids' : Fo} {r s : List UInt8} (hN : 1 + kids.size ≤ N) (hf : (Fo.cons k n v c kids .nil).well = true) (hg : (Fo.cons k' n' v' c' kids' .nil).well = true) (hr : TRb r) (hs : TRb s) (h : brkT (decide (k = 7)) (bdyT k n v c kids) ++ r = brkT (decide (k' = 7)) (bdyT k' n' v' c' kids') ++ s) : SameN k n v c kids k' n' v' c' kids' ∧ r = s := by
  have hf' := hf
  have hg' := hg
  simp only [Fo.well, Bool.and_eq_true] at hf' hg'
  by_cases h7 : k = 7
  · by_cases h7' : k' = 7
    · rw [brk_yes _ _ (by simp [h7]), brk_yes _ _ (by simp [h7'])] at h
      simp only [List.cons_append, List.cons.injEq, true_and, List.append_assoc, List.nil_append] at h
      obtain ⟨e1, e2⟩ := JO k n v c kids k' n' v' c' kids' _ _ hN hf hg (.inr ⟨_, rfl⟩) (.inr ⟨_, rfl⟩) h
      injection e2 with _ e2
      exact ⟨e1, e2⟩
    · exfalso
      obtain ⟨x, t, e, h1, _⟩ := word_first hg'.1 h7'
      rw [brk_yes _ _ (by simp [h7]), brk_no _ _ (by simp [h7']), bdy_word hg'.1 h7', e] at h
      injection h with h _
      exact h1.2.1 h.symm
  · by_cases h7' : k' = 7
    · exfalso
      obtain ⟨x, t, e, h1, _⟩ := word_first hf'.1 h7
      rw [brk_no _ _ (by simp [h7]), brk_yes _ _ (by simp [h7']), bdy_word hf'.1 h7, e] at h
      injection h with h _
      exact h1.2.1 h
    · rw [brk_no _ _ (by simp [h7]), brk_no _ _ (by simp [h7'])] at h
      exact bdy_split IA (by omega) hf hg h7 h7' hr hs h
theorem TRd.rb {r : List UInt8} (h : TRd r) : TRb r := .inl h
theorem rd_not {r t : List UInt8} (h : TRd r) : r ≠ 32 :: t := by
  rintro rfl
  rcases h with h | ⟨u, h⟩
  · cases h
  · injection h with h _
    exact absurd h (by decide)
theorem alone_step {N : Nat} (IA : Atoms N) (JO : Alone N) : Alone (N + 1) := by
  intro k n v c kids k' n' v' c' kids' r s hN hf hg hr hs h
  have hf' := hf
  have hg' := hg
  simp only [Fo.well, Bool.and_eq_true] at hf' hg'
  by_cases h7 : k = 7
  · subst h7
    obtain ⟨k1, n1, v1, c1, d1, k2, n2, v2, c2, d2, rfl, rfl, hB, hw1, hw2, e⟩ := fun_two hf
    simp only [Fo.size] at hN
    rw [e] at h
    by_cases h7' : k' = 7
    · subst h7'
      obtain ⟨k1', n1', v1', c1', d1', k2', n2', v2', c2', d2', rfl, rfl, hB', hw1', hw2', e'⟩ := fun_two hg
      rw [e', List.append_assoc, List.append_assoc] at h
      obtain ⟨⟨rfl, rfl, rfl, rfl, rfl⟩, h3⟩ := left_split IA JO (by omega) hw1 hw1' (.inr ⟨_, rfl⟩) (.inr ⟨_, rfl⟩) h
      injection h3 with _ h3
      injection h3 with _ h3
      have h3 : (muT v c ++ 62 :: (32 :: bdyT k2 n2 v2 c2 d2)) ++ r = (muT v' c' ++ 62 :: (32 :: bdyT k2' n2' v2' c2' d2')) ++ s := h3
      simp only [List.append_assoc, List.cons_append] at h3
      obtain ⟨em, h4⟩ := sep_inj (muT_no hB) (muT_no hB') h3
      rw [muT_left, muT_left] at em
      obtain ⟨rfl, rfl⟩ := leftS_inj hB hB' em
      simp only [List.cons.injEq, true_and] at h4
      obtain ⟨⟨rfl, rfl, rfl, rfl, rfl⟩, h5⟩ := JO _ _ _ _ _ _ _ _ _ _ _ _ (by omega) hw2 hw2' hr hs h4
      exact ⟨⟨rfl, rfl, rfl, rfl, rfl⟩, h5⟩
    · exfalso
      rw [List.append_assoc] at h
      have hb : bdyT k' n' v' c' kids' = brkT (decide (k' = 7)) (bdyT k' n' v' c' kids') := (brk_no _ _ (by simp [h7'])).symm
      rw [hb] at h
      have := (left_split IA JO (by omega) hw1 hg (.inr ⟨_, rfl⟩) hs.rb h).2
      exact rd_not hs this.symm
  · by_cases h7' : k' = 7
    · exfalso
      subst h7'
      obtain ⟨k1', n1', v1', c1', d1', k2', n2', v2', c2', d2', rfl, rfl, hB', hw1', hw2', e'⟩ := fun_two hg
      rw [e', List.append_assoc] at h
      by_cases h71 : k1' = 7
      · obtain ⟨x, t, e, h1, _⟩ := word_first hf'.1 h7
        rw [bdy_word hf'.1 h7, e, brk_yes _ _ (by simp [h71])] at h
        injection h with h _
        exact h1.2.1 h
      · rw [brk_no _ _ (by simp [h71])] at h
        have := (bdy_split IA (by omega) hf hw1' h7 h71 hr.rb (.inr ⟨_, rfl⟩) h).2
        exact rd_not hr this
    · exact bdy_split IA (by omega) hf hg h7 h7' hr.rb hs.rb h
theorem atoms_step {N : Nat} (IA : Atoms N) (JO : Alone (N + 1)) : Atoms (N + 1) := by
  intro k n v c kids k' n' v' c' kids' r s hN hf hg hr hs h
  have hf' := hf
  have hg' := hg
  simp only [Fo.well, Bool.and_eq_true] at hf' hg'
  rw [one_eq, one_eq] at h
  cases hb : brkB 2 k kids.len
  · have h7 : k ≠ 7 := by rintro rfl; simp [brk2] at hb
    rw [hb, brk_no _ _ rfl] at h
    cases hb' : brkB 2 k' kids'.len
    · have h7' : k' ≠ 7 := by rintro rfl; simp [brk2] at hb'
      have hk : ∀ (k n v c : Int) (kids : Fo), nodeB k n v c kids.len = true → brkB 2 k kids.len = false → kids = .nil := fun k n v c kids hn hb => by
        have h7 : k ≠ 7 := by rintro rfl; simp [brk2] at hb
        rw [brk2] at hb
        obtain ⟨_, _, h⟩ := node_cases hn h7
        apply Fo.len_zero
        rcases h with ⟨rfl, _, h⟩ | ⟨_, _, h⟩ | ⟨rfl, _, h⟩ | ⟨rfl, _, h⟩
        · exact h
        · exact h
        · simp at hb
        · simp at hb
          omega
      rw [hb', brk_no _ _ rfl, bdy_word hf'.1 h7, bdy_word hg'.1 h7'] at h
      obtain rfl := hk k n v c kids hf'.1 hb
      obtain rfl := hk k' n' v' c' kids' hg'.1 hb'
      simp only [Fo.txt, argsT, List.flatMap_nil, List.append_nil] at h
      obtain ⟨e1, e2⟩ := word_split (word_clean hf'.1 h7) (word_clean hg'.1 h7') hr.ends hs.ends h
      obtain ⟨rfl, rfl⟩ := word_inj hf'.1 h7 hg'.1 h7' e1
      obtain ⟨rfl, rfl, _⟩ := node_cases hf'.1 h7
      obtain ⟨rfl, rfl, _⟩ := node_cases hg'.1 h7'
      exact ⟨⟨rfl, rfl, rfl, rfl, rfl⟩, e2⟩
    · exfalso
      obtain ⟨x, t, e, h1, _⟩ := word_first hf'.1 h7
      rw [hb', brk_yes _ _ rfl, bdy_word hf'.1 h7, e] at h
      injection h with h _
      exact h1.2.1 h
  · rw [hb, brk_yes _ _ rfl] at h
    cases hb' : brkB 2 k' kids'.len
    · exfalso
      have h7' : k' ≠ 7 := by rintro rfl; simp [brk2] at hb'
      obtain ⟨x, t, e, h1, _⟩ := word_first hg'.1 h7'
      rw [hb', brk_no _ _ rfl, bdy_word hg'.1 h7', e] at h
      injection h with h _
      exact h1.2.1 h.symm
    · rw [hb', brk_yes _ _ rfl] at h
      simp only [List.cons_append, List.cons.injEq, true_and, List.append_assoc, List.nil_append] at h
      obtain ⟨e1, e2⟩ := JO _ _ _ _ _ _ _ _ _ _ _ _ hN hf hg (.inr ⟨_, rfl⟩) (.inr ⟨_, rfl⟩) h
      injection e2 with _ e2
      exact ⟨e1, e2⟩
theorem both_all : ∀ N : Nat, Atoms N ∧ Alone N
  | 0 => ⟨fun _ _ _ _ _ _ _ _ _ _ _ _ h => by omega, fun _ _ _ _ _ _ _ _ _ _ _ _ h => by omega⟩
  | N + 1 => by
    obtain ⟨h1, h2⟩ := both_all N
    have h3 := alone_step h1 h2
    exact ⟨atoms_step h1 h3, h3⟩
/-- The text of a type that stands alone tells the type. -/
theorem text_inj {k n v c : Int} {kids : Fo} {k' n' v' c' : Int} {kids' : Fo} (hf : (Fo.cons k n v c kids .nil).well = true) (hg : (Fo.cons k' n' v' c' kids' .nil).well = true) : Fo.one nm2 (.cons k n v c kids .nil) 0 = Fo.one nm2 (.cons k' n' v' c' kids' .nil) 0 ↔ Fo.cons k n v c kids .nil = .cons k' n' v' c' kids' .nil := by
  constructor
  · intro h
    rw [one_eq, one_eq, brk_no _ _ (brk0 _ _), brk_no _ _ (brk0 _ _)] at h
    obtain ⟨⟨rfl, rfl, rfl, rfl, rfl⟩, _⟩ := (both_all (1 + kids.size)).2 k n v c kids k' n' v' c' kids' [] [] (Nat.le_refl _) hf hg (.inl rfl) (.inl rfl) (by simpa using h)
    rfl
  · intro h
    rw [h]
end Go.Proofs.YtomojelaookacaaDoor.Mu
namespace Go.Proofs.YtomojelaookacaaDoor.Mu
open Go.RowKit Go

def lenS (ts : List (List UInt8)) : Nat := (ts.map List.length).sum
theorem lenS_cons (t : List UInt8) (ts : List (List UInt8)) : lenS (t :: ts) = t.length + lenS ts := by simp [lenS]
theorem args_len : ∀ ts : List (List UInt8), (argsT ts).length = lenS ts + ts.length
  | [] => rfl
  | t :: ts => by
    have := args_len ts
    simp only [argsT] at this
    simp only [argsT, List.flatMap_cons, List.length_append, List.length_cons, this, lenS_cons]
    omega
theorem mul_len (c : Int) : (mulS c).length ≤ 22 := mulS_len c
theorem mu_len {v c : Int} (h : isB v c = true) : (muT v c).length ≤ 23 := by
  rcases isB_parts h with ⟨rfl, h0, h1⟩ | ⟨h1, h3, rfl⟩
  · rw [show muT v 0 = varS v from rfl]
    have := varS_len h0 h1
    omega
  · rw [show muT 0 c = mulS c from if_neg (by omega)]
    have := mulS_len c
    omega
theorem name_len {nm : List (List UInt8)} {K : Nat} (hK : ∀ s ∈ nm, s.length ≤ K) {n : Int} (h0 : 0 ≤ n) (h1 : n < 1048576) : (nameT nm n).length ≤ K + 23 := by
  unfold nameT
  split
  · rename_i s hs
    have := hK s (List.mem_of_getElem? hs)
    omega
  · have := varS_len h0 h1
    simp only [varS, List.length_cons] at this ⊢
    omega
theorem brk_len (b : Bool) (s : List UInt8) : (brkT b s).length ≤ s.length + 2 := by
  cases b
  · rw [brk_no _ _ rfl]; omega
  · rw [brk_yes _ _ rfl]; simp
theorem fun_len (v c : Int) (ts : List (List UInt8)) (h : isB v c = true) : (funT v c ts).length ≤ lenS ts + 30 := by
  have hm := mu_len h
  match ts with
  | [] => simp [funT, arrowT, lenS]; omega
  | [a] => simp [funT, arrowT, lenS]; omega
  | a :: b :: r => simp [funT, arrowT, lenS]; omega
theorem body_len {nm : List (List UInt8)} {K : Nat} (hK : ∀ s ∈ nm, s.length ≤ K) {k n v c : Int} {kids : Fo} (h : nodeB k n v c kids.len = true) (pl : Int) : (bodyT nm k n v c (kids.txt nm pl)).length ≤ K + 40 + lenS (kids.txt nm pl) := by
  have hl := Fo.txt_len nm kids pl
  by_cases h7 : k = 7
  · subst h7
    obtain ⟨_, _, hB⟩ := node_fun h
    have := fun_len v c (kids.txt nm pl) hB
    have e : bodyT nm 7 n v c (kids.txt nm pl) = funT v c (kids.txt nm pl) := by simp [bodyT]
    rw [e]
    omega
  · have hn : k = 1 ∨ k = 8 → n < 1048576 := by
      intro hk
      unfold nodeB at h
      rcases hk with rfl | rfl <;> simp at h <;> omega
    obtain ⟨_, _, hc⟩ := node_cases h h7
    rcases hc with ⟨rfl, h0, _⟩ | ⟨hk, _, _⟩ | ⟨rfl, _, h1⟩ | ⟨rfl, h0, h1⟩
    · have := varS_len h0 (hn (.inl rfl))
      have e : bodyT nm 1 n v c (kids.txt nm pl) = 97 :: Lib.itoa n := rfl
      rw [e]
      simp only [varS, List.length_cons] at this ⊢
      omega
    · rcases hk with rfl | rfl | rfl | rfl <;> simp [bodyT, wordT] <;> omega
    · have e : bodyT nm 6 n v c (kids.txt nm pl) = [65, 114, 114] ++ argsT (kids.txt nm pl) := by simp [bodyT]
      rw [e, List.length_append, args_len, hl]
      simp only [List.length_cons, List.length_nil]
      omega
    · have e : bodyT nm 8 n v c (kids.txt nm pl) = nameT nm n ++ argsT (kids.txt nm pl) := by simp [bodyT]
      have := name_len hK h0 (hn (.inr rfl))
      rw [e, List.length_append, args_len, hl]
      omega
theorem txt_sum {nm : List (List UInt8)} {K : Nat} (hK : ∀ s ∈ nm, s.length ≤ K) : ∀ (f : Fo) (pl : Int), f.well = true → lenS (f.txt nm pl) ≤ f.size * (K + 60)
  | .nil, _, _ => by simp [Fo.txt, lenS]
  | .cons k n v c kids rest, pl, h => by
    simp only [Fo.well, Bool.and_eq_true] at h
    have h1 := txt_sum hK kids (plK k) h.2.1
    have h2 := txt_sum hK rest (plN pl) h.2.2
    have h3 := body_len hK h.1 (plK k)
    have h4 := brk_len (brkB pl k kids.len) (bodyT nm k n v c (kids.txt nm (plK k)))
    simp only [Fo.txt, lenS_cons, Fo.size]
    have e : (1 + kids.size + rest.size) * (K + 60) = (K + 60) + kids.size * (K + 60) + rest.size * (K + 60) := by rw [Nat.add_mul, Nat.add_mul, Nat.one_mul]
    omega
/-- The text of one type. -/
theorem one_len {nm : List (List UInt8)} {K : Nat} (hK : ∀ s ∈ nm, s.length ≤ K) {k n v c : Int} {kids : Fo} (h : (Fo.cons k n v c kids .nil).well = true) (pl : Int) : (Fo.one nm (.cons k n v c kids .nil) pl).length ≤ (1 + kids.size) * (K + 60) := by
  have := txt_sum hK (.cons k n v c kids .nil) pl h
  simp only [Fo.txt, lenS_cons, Fo.size, Nat.add_zero] at this
  exact Nat.le_trans (Nat.le_add_right _ _) this
theorem one_len2 {k n v c : Int} {kids : Fo} (h : (Fo.cons k n v c kids .nil).well = true) (hs : kids.size ≤ 1400000) (pl : Int) : (Fo.one nm2 (.cons k n v c kids .nil) pl).length ≤ 140737488355328 := by
  have h1 := one_len (nm := nm2) (K := 4) (by decide) h pl
  have h2 : (1 + kids.size) * (4 + 60) ≤ 1400001 * 64 := Nat.mul_le_mul (by omega) (by omega)
  omega
end Go.Proofs.YtomojelaookacaaDoor.Mu

