/-
  One token is taken, whichever: walked; the method value that takes it.
-/
import Derived.Test.YteockaolmobmeaaGreatDoorLexSign
import Derived.Test.YteockaolmobmeaaGreatDoorLexNum
import Derived.Test.YteockaolmobmeaaGreatDoorLexWrd
namespace Go.Proofs.YteockaolmobmeaaGreatDoor.Mu
open Go.RowKit Go.Shelf
set_option maxRecDepth 100000

/-- What taking a token comes to. -/
def Took (g : Nat) (A : Option Addr) (n c : Nat) (xs : List Pn) (i : Nat) (R : Rd) (w : World) (e : Ending) (w' : World) : Prop :=
  e = .returned (rdV xs i R) ∧ Kr g w w' ∧ (∀ t r, R = .ok t r → ∃ k, r = (xs.map Pn.r).drop k ∧ i ≤ k ∧ Rdr w' g A n c xs k)
/-- The method that takes a token of a kind. -/
def tkF (k : Int) : Nat := if k = 2 then 51 else if k = 3 then 52 else if k = 4 then 53 else if k = 6 then 54 else 55
theorem taker_any {g : Nat} {A : Option Addr} {n c : Nat} {xs : List Pn} {i : Nat} (w : World) (h : Rdr w g A n c xs i) :
    Calls Tryz.prog 35 #[.pointer (some ⟨g, 0, none⟩)] w fun e w' => e = .returned (.func (Fn.func (tkF (kdL ((xs.map Pn.r).drop i)))) #[.pointer (some ⟨g, 0, none⟩)] #[]) ∧ Bel w w' := by
  have HK : Hid (∀ (w : World), Rdr w g A n c xs i → Calls Tryz.prog 49 #[.pointer (some ⟨g, 0, none⟩)] w fun e w' => e = .returned (.int .u8 (kdL ((xs.map Pn.r).drop i))) ∧ Bel w w') := Lib.hid fun w hd => kind_any w hd
  obtain ⟨kk, hkk⟩ : ∃ kk, kk = kdL ((xs.map Pn.r).drop i) := ⟨_, rfl⟩
  rw [← hkk] at HK ⊢
  obtain ⟨ff, hff⟩ : ∃ ff, ff = tkF kk := ⟨_, rfl⟩
  rw [← hff]
  have HF := Lib.hid hff
  have H := Lib.hid h
  clear h hkk hff
  go_enter Tryz.func35, Tryz.ntmps35
  go_wp2_with fail
  refine (HK.out _ H.out).mono ?_
  rintro e w1 ⟨rfl, hb⟩
  have HB := Lib.hid hb
  clear hb
  by_cases k2 : kk = 2
  · have d2 : (kk == 2) = true := by simp [k2]
    have hf : ff = 51 := by rw [HF.out, tkF, if_pos k2]
    subst hf
    clear k2
    go_wp2
    go_ret
    exact ⟨rfl, HB.out⟩
  have d2 : (kk == 2) = false := by simp [k2]
  by_cases k3 : kk = 3
  · have d3 : (kk == 3) = true := by simp [k3]
    have hf : ff = 52 := by rw [HF.out, tkF, if_neg k2, if_pos k3]
    subst hf
    clear k2 k3
    go_wp2
    go_ret
    exact ⟨rfl, HB.out⟩
  have d3 : (kk == 3) = false := by simp [k3]
  by_cases k4 : kk = 4
  · have d4 : (kk == 4) = true := by simp [k4]
    have hf : ff = 53 := by rw [HF.out, tkF, if_neg k2, if_neg k3, if_pos k4]
    subst hf
    clear k2 k3 k4
    go_wp2
    go_ret
    exact ⟨rfl, HB.out⟩
  have d4 : (kk == 4) = false := by simp [k4]
  by_cases k6 : kk = 6
  · have d6 : (kk == 6) = true := by simp [k6]
    have hf : ff = 54 := by rw [HF.out, tkF, if_neg k2, if_neg k3, if_neg k4, if_pos k6]
    subst hf
    clear k2 k3 k4 k6
    go_wp2
    go_ret
    exact ⟨rfl, HB.out⟩
  have d6 : (kk == 6) = false := by simp [k6]
  have hf : ff = 55 := by rw [HF.out, tkF, if_neg k2, if_neg k3, if_neg k4, if_neg k6]
  subst hf
  clear k2 k3 k4 k6
  go_wp2
  go_ret
  exact ⟨rfl, HB.out⟩
theorem dw_drop (p : Int → Bool) (l : List Int) : l.dropWhile p = l.drop (l.takeWhile p).length := by
  have e := List.takeWhile_append_dropWhile (p := p) (l := l)
  have : (l.takeWhile p ++ l.dropWhile p).drop (l.takeWhile p).length = l.dropWhile p := List.drop_left
  rw [e] at this; exact this.symm
theorem kd_cases (x : Int) : (kdN x = 2 ↔ isDig x = true) ∧ (kdN x = 3 ↔ isSm x = true) ∧ (kdN x = 4 ↔ isGr x = true) ∧ (kdN x = 6 ↔ x = 34) := by
  unfold kdN isBl isDig isSm isGr
  simp only [Bool.or_eq_true, decide_eq_true_eq]
  refine ⟨?_, ?_, ?_, ?_⟩
  all_goals
    constructor
    · intro h; repeat' split at h
      all_goals omega
    · intro h; repeat' split
      all_goals omega
theorem words_prims : ∀ x ∈ wordsL, x ∉ primsL := by decide +kernel
theorem words_short : ∀ x ∈ wordsL ++ primsL, x.length ≤ 24 := by decide +kernel
theorem encs_memW {T : List Int} (h : AllCp T) : (encs T ∈ wordsB ↔ T ∈ wordsL) ∧ (encs T ∈ primsB ↔ T ∈ primsL) :=
  ⟨(mem_low words_low (Cps.nil h)).trans (by simp), (mem_low prims_low (Cps.nil h)).trans (by simp)⟩
theorem one_any {g : Nat} {A : Option Addr} {n c : Nat} {xs : List Pn} {i : Nat} {x : Pn} (hx : xs[i]? = some x) (hcp : AllCp (xs.map Pn.r)) (h4 : (encs (xs.map Pn.r)).length ≤ 4000) (w : World) (h : Rdr w g A n c xs i) :
    Calls Tryz.prog (tkF (kdL ((xs.map Pn.r).drop i))) #[.pointer (some ⟨g, 0, none⟩)] w (Took g A n c xs i (oneL ((xs.map Pn.r).drop i)) w) := by
  obtain ⟨L, hL⟩ : ∃ L, L = xs.map Pn.r := ⟨_, rfl⟩
  have hLx : L[i]? = some x.r := by rw [hL]; simp [hx]
  have hl : L.drop i = x.r :: L.drop (i + 1) := drop_at' hLx
  have hhd : (L.drop i).headD 0 = x.r := by rw [hl]; rfl
  have hne : L.drop i ≠ [] := by rw [hl]; simp
  obtain ⟨k2, k3, k4, k6⟩ := kd_cases x.r
  have hp0 : ∀ e, rdV xs i (.err e 0) = erV e x.p := fun e => by simp [rdV, hx]
  unfold Took
  rw [← hL]
  rw [kind_cs hLx]
  obtain ⟨T, hT⟩ : ∃ T, T = (L.drop i).takeWhile isW := ⟨_, rfl⟩
  have hall : ∀ c ∈ T, isW c = true := by rw [hT]; exact takeWhile_all _ _
  obtain ⟨mw, mp⟩ := encs_memW (low_cp hall)
  by_cases c2 : isDig x.r = true
  · have e2 := k2.2 c2
    have hns : isSm x.r = false ∧ isGr x.r = false := by
      refine ⟨Bool.eq_false_iff.2 fun h => ?_, Bool.eq_false_iff.2 fun h => ?_⟩
      · have := k3.2 h; omega
      · have := k4.2 h; omega
    have ho : oneL (L.drop i) = numL (L.drop i) := by
      unfold oneL; rw [hhd, if_neg (by simp [hns]), if_pos c2]
    rw [ho, e2]
    obtain ⟨D, hD⟩ : ∃ D, D = (L.drop i).takeWhile isDig := ⟨_, rfl⟩
    have hcond : ((L.drop i).headD 0 = 48 ∧ isDig ((L.drop i).tail.headD 0) = true) ↔ (x.r = 48 ∧ 1 < D.length) := by
      rw [hhd, hD, hl, List.tail_cons, List.takeWhile_cons, if_pos c2, List.length_cons]
      refine and_congr_right fun _ => ?_
      cases hr : L.drop (i + 1) with
      | nil => simp [isDig]
      | cons y ys =>
        rw [List.headD_cons, List.takeWhile_cons]
        by_cases hy : isDig y = true
        · rw [if_pos hy, List.length_cons]; simp [hy]
        · rw [if_neg hy]; simp [hy]
    refine (number_any hx w h).mono fun e w' hh => ?_
    obtain ⟨h1, h2, h3⟩ := hh
    rw [← hL, ← hD] at h1 h2
    unfold numL
    rw [← hD]
    by_cases hc : x.r = 48 ∧ 1 < D.length
    · rw [if_pos (hcond.2 hc), hp0]
      rw [if_pos hc] at h1
      exact ⟨h1, h3, fun t r ht => by cases ht⟩
    rw [if_neg fun hh => hc (hcond.1 hh)]
    rw [if_neg hc] at h1
    by_cases hb : 1099511627776 < valN D
    · rw [if_pos hb, hp0]
      rw [if_pos hb] at h1
      exact ⟨h1, h3, fun t r ht => by cases ht⟩
    rw [if_neg hb]
    rw [if_neg hb] at h1
    refine ⟨h1, h3, fun t r ht => ?_⟩
    injection ht with _ hr
    exact ⟨i + D.length, by rw [← hr, dw_drop, ← hD, List.drop_drop], by omega, h2⟩
  by_cases c3 : isSm x.r = true
  · have e3 := k3.2 c3
    have ho : oneL (L.drop i) = wordL (L.drop i) := by
      unfold oneL; rw [hhd, if_pos (.inl c3)]
    have hng : isGr x.r = false := Bool.eq_false_iff.2 fun h => by have := k4.2 h; omega
    rw [ho, e3]
    unfold wordL
    rw [← hT, hhd, if_neg (by simp [hng] : ¬ isGr x.r = true)]
    by_cases h24 : 24 < T.length
    · have n1 : T ∉ wordsL := fun h => by have := words_short T (by simp [h]); omega
      have n2 : T ∉ primsL := fun h => by have := words_short T (by simp [h]); omega
      have hN : ∀ w, Rdr w g A n c xs i → Calls Tryz.prog 73 #[.pointer (some ⟨g, 0, none⟩), .int .u8 1] w fun e w' => e = .returned (.tuple #[.agg #[.int .u8 0, .string ⟨(([] : List UInt8)).toArray⟩, .int .i64 0, .int .i64 0, .int .i64 0, .int .i64 0], .agg #[.int .i64 3, .int .i64 x.p.a, .int .i64 x.p.l, .int .i64 x.p.c]]) ∧ Rdr w' g A n c xs (i + T.length) ∧ Kr g w w' := fun w hd => by
        have := name_any 1 hx w hd
        rw [← hL, ← hT, if_pos h24] at this
        exact this
      refine (word_gen 0 [] 3 _ _ _ hN w h).mono fun e w' hh => ?_
      rw [if_neg n1, if_neg n2, if_pos h24, hp0]
      exact ⟨hh.1, hh.2.2, fun t r ht => by cases ht⟩
    · have hN : ∀ w, Rdr w g A n c xs i → Calls Tryz.prog 73 #[.pointer (some ⟨g, 0, none⟩), .int .u8 1] w fun e w' => e = .returned (.tuple #[.agg #[.int .u8 1, .string ⟨(encs T).toArray⟩, .int .i64 0, .int .i64 0, .int .i64 0, .int .i64 0], .agg #[.int .i64 0, .int .i64 0, .int .i64 0, .int .i64 0]]) ∧ Rdr w' g A n c xs (i + T.length) ∧ Kr g w w' := fun w hd => by
        have := name_any 1 hx w hd
        rw [← hL, ← hT, if_neg h24] at this
        exact this
      have hrest : (L.drop i).dropWhile isW = L.drop (i + T.length) := by rw [dw_drop, ← hT, List.drop_drop]
      refine (word_gen 1 (encs T) 0 0 0 0 hN w h).mono fun e w' hh => ?_
      obtain ⟨h1, h2, h3⟩ := hh
      rw [hrest]
      by_cases m1 : T ∈ wordsL
      · rw [if_pos m1]
        rw [if_neg (fun h => words_prims T m1 (mp.1 h)), if_pos (mw.2 m1)] at h1
        exact ⟨h1, h3, fun t r ht => by injection ht with _ hr; exact ⟨_, hr.symm, by omega, h2⟩⟩
      rw [if_neg m1]
      by_cases m2 : T ∈ primsL
      · rw [if_pos m2]
        rw [if_pos (mp.2 m2)] at h1
        exact ⟨h1, h3, fun t r ht => by injection ht with _ hr; exact ⟨_, hr.symm, by omega, h2⟩⟩
      rw [if_neg m2, if_neg h24]
      rw [if_neg (fun h => m2 (mp.1 h)), if_neg (fun h => m1 (mw.1 h))] at h1
      exact ⟨h1, h3, fun t r ht => by injection ht with _ hr; exact ⟨_, hr.symm, by omega, h2⟩⟩
  by_cases c4 : isGr x.r = true
  · have e4 := k4.2 c4
    have ho : oneL (L.drop i) = wordL (L.drop i) := by
      unfold oneL; rw [hhd, if_pos (.inr c4)]
    rw [ho, e4]
    unfold wordL
    have hTh : T ≠ [] ∧ T.headD 0 = x.r := by
      have := take_head (p := isW) (l := L.drop i) (by rw [hhd]; exact isW_of (.inr c4)) hne
      rw [← hT] at this
      exact ⟨this.1, this.2.1.trans hhd⟩
    have nw : T ∉ wordsL ++ primsL := fun h => by
      have := (word_list T h).2.2
      rw [hTh.2] at this
      exact c3 this
    have n1 : T ∉ wordsL := fun h => nw (by simp [h])
    have n2 : T ∉ primsL := fun h => nw (by simp [h])
    have hrest : (L.drop i).dropWhile isW = L.drop (i + T.length) := by rw [dw_drop, ← hT, List.drop_drop]
    refine (con_any hx w h).mono fun e w' hh => ?_
    obtain ⟨h1, h2, h3⟩ := hh
    rw [← hL, ← hT] at h1 h2
    rw [← hT, hhd, if_neg n1, if_neg n2, hrest]
    by_cases h24 : 24 < T.length
    · rw [if_pos h24, hp0]
      rw [if_pos h24] at h1
      exact ⟨h1, h3, fun t r ht => by cases ht⟩
    rw [if_neg h24, if_pos c4]
    rw [if_neg h24] at h1
    exact ⟨h1, h3, fun t r ht => by injection ht with _ hr; exact ⟨_, hr.symm, by omega, h2⟩⟩
  by_cases c6 : x.r = 34
  · have e6 := k6.2 c6
    have ho : oneL (L.drop i) = quoL (L.drop (i + 1)) [] 1 := by
      unfold oneL; rw [hhd, if_neg (by simp [c3, c4]), if_neg (by simp [c2]), if_pos c6, hl, List.tail_cons]
    rw [ho, e6]
    have := quoted_any hx hcp h4 w h
    rw [← hL] at this
    exact this
  · have ho : oneL (L.drop i) = signL (L.drop i) := by
      unfold oneL; rw [hhd, if_neg (by simp [c3, c4]), if_neg (by simp [c2]), if_neg c6]
    have hf : tkF (kdN x.r) = 55 := by
      unfold tkF
      rw [if_neg fun h => c2 (k2.1 h), if_neg fun h => c3 (k3.1 h), if_neg fun h => c4 (k4.1 h), if_neg fun h => c6 (k6.1 h)]
    rw [ho, hf]
    have := sign_any hx w h
    rw [← hL] at this
    exact this
end Go.Proofs.YteockaolmobmeaaGreatDoor.Mu

