/-
  What is written of a row of tokens, token by token; the builder where only new memory is laid.
-/
import Derived.Test.YteockaolmobmeaaGreatDoorLexWri
import Derived.Test.YteockaolmobmeaaGreatDoorLexBuf
import Derived.Test.YteockaolmobmeaaGreatDoorLexIsT
namespace Go.Proofs.YteockaolmobmeaaGreatDoor.Mu
open Go.RowKit Go.Shelf
set_option maxRecDepth 100000

theorem writeB_snoc (t : Int × List UInt8 × Int) : ∀ (ts : List (Int × List UInt8 × Int)), ts ≠ [] → writeB (ts ++ [t]) = writeB ts ++ ([32] ++ putB t.1 t.2.1 t.2.2)
  | [], h => absurd rfl h
  | [u], _ => by simp [writeB]
  | u :: v :: ts, _ => by
    have ih := writeB_snoc t (v :: ts) (by simp)
    simp only [List.cons_append] at ih ⊢
    simp only [writeB, ih]
    simp
theorem writeB_take {ts : List (Int × List UInt8 × Int)} {j : Nat} {x : Int × List UInt8 × Int} (hx : ts[j]? = some x) : writeB (ts.take (j + 1)) = writeB (ts.take j) ++ ((if 0 < j then [32] else []) ++ putB x.1 x.2.1 x.2.2) := by
  have hlt := (List.getElem?_eq_some_iff.1 hx).1
  rw [List.take_succ_eq_append_getElem hlt, (List.getElem?_eq_some_iff.1 hx).2]
  rcases Nat.eq_zero_or_pos j with h0 | h0
  · subst h0; simp [writeB]
  · rw [if_pos h0]
    exact writeB_snoc x _ (by intro h; have := congrArg List.length h; rw [List.length_take, List.length_nil] at this; omega)
theorem writeB_grow (ts : List (Int × List UInt8 × Int)) : ∀ (d j : Nat), j + d = ts.length → (writeB (ts.take j)).length ≤ (writeB ts).length
  | 0, j, h => by rw [List.take_of_length_le (by omega)]; exact Nat.le_refl _
  | d + 1, j, h => by
    have ih := writeB_grow ts d (j + 1) (by omega)
    rw [writeB_take (List.getElem?_eq_getElem (by omega : j < ts.length)), List.length_append] at ih
    omega
/-- What is written of a token that may be is no shorter than its text. -/
theorem putB_ge {t : Int × List UInt8 × Int} (h : mayTk t) : t.2.1.length ≤ (putB t.1 t.2.1 t.2.2).length := by
  obtain ⟨k, s, n⟩ := t
  unfold putB
  by_cases k3 : k = 3
  · have hs : s = [] := by
      unfold mayTk at h
      simp only [k3] at h
      rcases h with ⟨h, _⟩ | ⟨h, _⟩ | ⟨_, _, _, h⟩ | ⟨h, _⟩ | ⟨h, _⟩ | ⟨h, _⟩
      all_goals first | exact absurd h (by decide) | exact h
    simp [hs]
  · by_cases k4 : k = 4
    · have := (escL_ge s).1
      rw [if_neg k3, if_pos k4, List.length_cons, List.length_append]
      show s.length ≤ (s.flatMap escB).length + _ + 1
      omega
    · rw [if_neg k3, if_neg k4]; exact Nat.le_refl _
theorem wri_put {t : Int × List UInt8 × Int} (h : mayTk t) : wriB t.1 t.2.1 t.2.2 = putB t.1 t.2.1 t.2.2 := by
  obtain ⟨k, s, n⟩ := t
  unfold putB wriB
  by_cases k3 : k = 3
  · have hn : 0 ≤ n := by
      unfold mayTk at h
      simp only [k3] at h
      rcases h with ⟨h, _⟩ | ⟨h, _⟩ | ⟨_, h, _⟩ | ⟨h, _⟩ | ⟨h, _⟩ | ⟨h, _⟩
      all_goals first | exact absurd h (by decide) | exact h
    simp only [k3, if_true]
    exact itoa_dig hn
  · simp only [k3, if_false]
theorem over_long {ts : List (Int × List UInt8 × Int)} {j : Nat} {x : Int × List UInt8 × Int} (hx : ts[j]? = some x) (h : mayTk x) : (writeB (ts.take j)).length + x.2.1.length ≤ (writeB ts).length := by
  have hlt := (List.getElem?_eq_some_iff.1 hx).1
  have h1 := writeB_grow ts (ts.length - (j + 1)) (j + 1) (by omega)
  rw [writeB_take hx, List.length_append, List.length_append] at h1
  have := putB_ge h
  omega
theorem BufF.bel {base b : Nat} {bs : List UInt8} {w w' : World} (h : BufF base b bs w) (hb : Bel w w') : BufF base b bs w' := by
  have key : ∀ p, Lib.BuilderAtF 42 5 base b p (Lib.byteCells bs) w → Lib.BuilderAtF 42 5 base b p (Lib.byteCells bs) w' := by
    rintro p ⟨hB, v, hbk, hown, hne⟩
    refine ⟨hB, v, hb.blk hbk, ⟨hown.1, ?_⟩, hne⟩
    rcases hown.2 with h0 | ⟨g, cap, cur, fz, e, hg, hc, r⟩
    · exact .inl h0
    · exact .inr ⟨g, cap, cur, fz, e, hg, hb.blk hc, r⟩
  rcases h with h | h
  · exact .inl (key _ h)
  · exact .inr (key _ h)
theorem BufF.new_ {base b : Nat} {w : World} (hB : base ≤ b) (hb : w.heap[b]? = some (.cells #[.pointer none, .slice none 0 0] 42 (0, 0))) : BufF base b [] w :=
  .inl ⟨hB, _, hb, ⟨rfl, .inl ⟨rfl, rfl⟩⟩, by simp [Value.ownBlock]⟩
end Go.Proofs.YteockaolmobmeaaGreatDoor.Mu

