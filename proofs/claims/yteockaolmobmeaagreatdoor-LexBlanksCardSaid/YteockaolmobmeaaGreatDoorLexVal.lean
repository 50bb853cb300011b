/-
  Texts that are valid; numerals; what is a token is read as itself: mathematics.
-/
import Derived.Test.YteockaolmobmeaaGreatDoorLxTok
import Derived.Lib.ValidU
import Derived.Lib.ItoaNum
namespace Go.Proofs.YteockaolmobmeaaGreatDoor.Mu
open Go

theorem dec_dig : ∀ (k n : Nat), n ≤ k → Lib.decDigits n = digB n
  | k, n, h => by
    rw [Lib.decDigits]
    by_cases h1 : n < 10
    · rw [dif_pos h1, digB_small h1]
    · rw [dif_neg h1, digB_more h1]
      match k, h with
      | 0, h => omega
      | k + 1, h => rw [dec_dig k (n / 10) (by omega)]
theorem itoa_dig {n : Int} (h : 0 ≤ n) : Lib.itoa n = digB n.toNat := by
  unfold Lib.itoa
  rw [if_neg (by omega), dec_dig n.toNat n.toNat (Nat.le_refl _)]
theorem valid_go : ∀ (n : Nat) (l : List UInt8) (cs : List Int) (rest : List UInt8), l.length ≤ n → Cps l cs rest → (Lib.validGoD n l = true ↔ rest = [])
  | 0, l, cs, rest, hl, h => by
    have : l = [] := List.eq_nil_of_length_eq_zero (by omega)
    have e := h.eq
    rw [this] at e
    have e2 := (List.append_eq_nil_iff.1 e.symm).2
    simp [Lib.validGoD, e2]
  | n + 1, l, cs, rest, hl, h => by
    rw [Lib.validGoD]
    by_cases h0 : l = []
    · rw [if_pos h0]
      have e := h.eq
      rw [h0] at e
      have e2 := (List.append_eq_nil_iff.1 e.symm).2
      simp [e2]
    · rw [if_neg h0]
      cases cs with
      | nil =>
        have e := h.eq
        have hlr : l = rest := by rw [e]; rfl
        have hne : rest ≠ [] := fun e => h0 (hlr.trans e)
        have hsz : 0 < (⟨l.toArray⟩ : ByteArray).size := by
          have : (⟨l.toArray⟩ : ByteArray).size = l.length := by simp [ByteArray.size]
          rw [this]
          cases l with
          | nil => exact absurd rfl h0
          | cons a b => simp
        by_cases hd : (Lib.decodeL l).1 = 65533 ∧ (Lib.decodeL l).2 = 1
        · rw [if_pos hd]; simp [hne]
        · exfalso
          obtain ⟨c1, -, c3⟩ := enc_of_dec (s := ⟨l.toArray⟩) (i := 0) hsz (show Utf8.decode ⟨l.toArray⟩ 0 = ((Lib.decodeL l).1, (Lib.decodeL l).2) from rfl) hd
          refine h.no _ c1 ?_
          rw [← hlr]
          simpa using c3
      | cons c cs =>
        have hc := h.cp.cons
        have e := h.eq
        rw [encs_cons, List.append_assoc] at e
        have hdec : Lib.decodeL l = (c.toNat, wid c) := dec_of_enc (s := ⟨l.toArray⟩) (i := 0) hc.1 (by rw [e]; simp)
        have hw := enc_len hc.1
        have hb := (cpB_iff c).1 hc.1
        rw [hdec, if_neg (by
          rintro ⟨h1, h2⟩
          have h1' : c.toNat = 65533 := h1
          have : c = 65533 := by omega
          rw [this] at h2
          revert h2; decide)]
        have hdrop : l.drop (wid c) = encs cs ++ rest := by rw [e, ← hw, List.drop_left]
        show Lib.validGoD n (l.drop (wid c)) = true ↔ _
        have hp := wid_pos c
        exact valid_go n _ cs rest (by rw [List.length_drop]; omega) ⟨hc.2, hdrop, h.no⟩
theorem valid_cps (s : List UInt8) : Lib.validD s = true ↔ ∃ ds, Cps s ds [] := by
  obtain ⟨cs, rest, h⟩ := cps_ex _ s (Nat.le_refl _)
  unfold Lib.validD
  rw [valid_go _ s cs rest (Nat.le_refl _) h]
  constructor
  · rintro rfl; exact ⟨cs, h⟩
  · rintro ⟨ds, hd⟩; exact (h.uniq hd).2
/-- What is no string is a token, just if it is what its own writing is read as. -/
theorem tok_iff {k n : Int} {s wr rest : List UInt8} {cs : List Int} (hk : k ≠ 4) (hw : 0 ≤ n → wr = putB k s n) (hc : Cps wr cs rest) : ((tokO wr.length cs rest).e = 0 ∧ (tokO wr.length cs rest).l.map Tn.b = [(k, s, n)]) ↔ mayTk (k, s, n) := by
  constructor
  · rintro ⟨he, hl⟩
    have := (back_read hc.cp he).1
    exact this _ (by rw [hl]; simp)
  · intro hm
    have hn : 0 ≤ n := by rcases hm with ⟨_, _, h⟩ | ⟨_, _, h⟩ | ⟨_, h, _⟩ | ⟨_, _, h⟩ | ⟨_, _, h⟩ | ⟨_, _, h⟩ <;> simp at h <;> omega
    have hlen : (putB k s n).length ≤ 4000 := by
      unfold putB
      rcases hm with ⟨h1, h2, _⟩ | ⟨h1, h2, _⟩ | ⟨h1, _, h2, _⟩ | ⟨h1, _⟩ | ⟨h1, h2, _⟩ | ⟨h1, h2, _⟩
      · simp only at h1; rw [if_neg (by omega), if_neg (by omega)]; have := h2.2.1; simp only at this; omega
      · simp only at h1; rw [if_neg (by omega), if_neg (by omega)]; have := h2.2.1; simp only at this; omega
      · simp only at h1 h2; rw [if_pos h1]; have := digB_len 13 n.toNat (by omega); omega
      · exact absurd h1 hk
      · simp only at h1; rw [if_neg (by omega), if_neg (by omega)]
        rcases h2 with h2 | h2
        · exact (show ∀ x ∈ wordsB, x.length ≤ 4000 by decide +kernel) s h2
        · exact (show ∀ x ∈ signsB, x.length ≤ 4000 by decide +kernel) s h2
      · simp only at h1; rw [if_neg (by omega), if_neg (by omega)]
        exact (show ∀ x ∈ primsB, x.length ≤ 4000 by decide +kernel) s h2
    have hall : ∀ t ∈ [(k, s, n)], mayTk t := fun t ht => by simp at ht; rw [ht]; exact hm
    have hwl : writeB [(k, s, n)] = putB k s n := rfl
    have hwr : wrO [(k, s, n)] = (putB k s n, 0) := by unfold wrO; rw [if_pos hall, hwl, if_pos hlen]
    obtain ⟨cs', h1, h2, -, h4⟩ := back_write (ts := [(k, s, n)]) (by rw [hwr])
    rw [hwr] at h1 h2 h4
    rw [hw hn] at hc ⊢
    obtain ⟨rfl, rfl⟩ := hc.uniq h1
    exact ⟨h2, h4⟩
end Go.Proofs.YteockaolmobmeaaGreatDoor.Mu

