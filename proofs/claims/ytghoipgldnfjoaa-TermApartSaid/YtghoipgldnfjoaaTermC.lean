/-
  The library's functions that layer 2 calls at the terms (Clone, IndexFunc, DeleteFunc), and what is left of them.
-/
import Derived.Test.YtghoipgldnfjoaaTermB
import Derived.Test.YtghoipgldnfjoaaMemC
import Derived.KernelRfl
namespace Go.Proofs.Ytghoipgldnfjoaa.Mu
open Go.ChangeShapes Go.WideShapes Go.ChangeAt Go.RowKit

theorem info_term : (Try.prog.info? 33).map (fun i => (i.zero, i.size, i.bytes)) = some (some (.agg #[.bool false, .int .u8 0, .slice none 0 0]), 3, 32) := by kernel_rfl
theorem zero_term : ∀ w, (zeroValue 33).run Try.prog w = .ok (.agg #[.bool false, .int .u8 0, .slice none 0 0]) w := fun _ => by kernel_rfl

theorem never_any (nv : Bool) (c : Int) (A : Option Addr) (n k : Nat) (w : World) : Calls Try.prog 82 #[.agg #[.bool nv, .int .u8 c, .slice A n k]] w fun e w' => e = .returned (.bool nv) ∧ Bel w w' := by
  go_enter Try.func82, Try.ntmps82
  go_wp2
  go_ret
  exact ⟨rfl, (Bel.refl _).alloc _⟩

/-- The place of the first one that is Never, or -1. -/
def IsIdx (rs : List Raw) (x : Int) : Prop := (x = -1 ∧ ∀ r ∈ rs, r.nv = false) ∨ ∃ (k : Nat) (r : Raw), x = k ∧ rs[k]? = some r ∧ r.nv = true ∧ ∀ r ∈ rs.take k, r.nv = false

set_option maxRecDepth 100000 in
theorem index_any (A : Option Addr) (n cap : Nat) (rs : List Raw) (w : World) (hr : RT w w.heap.size A n rs) (hmax : n ≤ 1000000000) :
    Calls Try.prog 97 #[.slice A n cap, .func (.func 82) #[] #[]] w fun e w' => ∃ x, e = .returned (.int .i64 x) ∧ Hid (IsIdx rs x) ∧ Bel w w' := by
  have HR := Lib.hid hr
  have HL := Lib.hid hr.len
  clear hr
  go_enter Try.func97, Try.ntmps97
  go_wp2
  go_loopw [8] (fun i wr => ∃ k : Nat, k ≤ n ∧ i = .int .i64 k ∧ Hid (∀ r ∈ rs.take k, r.nv = false) ∧ Bel w wr) (fun i _ => n - (intOf i).toNat)
  case atStart => exact ⟨0, Nat.zero_le _, rfl, Lib.hid (by simp), Bel.refl _⟩
  case round =>
    obtain ⟨k, hk, rfl, HN, hB⟩ := hrel
    by_cases hlt : k < n
    · obtain ⟨b, off, rfl, hb, hc⟩ := (HR.out.bel hB).at_ (by omega)
      obtain ⟨r, hrk⟩ : ∃ r, rs[k]? = some r := ⟨_, List.getElem?_eq_getElem (by rw [← HL.out]; exact hlt)⟩
      obtain ⟨c0, c1, c2⟩ := hc k r hrk
      have HC := Lib.hid hc
      have HK := Lib.hid hrk
      clear hc hrk
      rcases Bool.eq_false_or_eq_true r.nv with hv | hv
      all_goals
        go_wp2_with (go_at_call 82; refine (never_any _ _ _ _ _ _).mono ?_; rintro e w1 ⟨rfl, hb1⟩)
      · go_ret
        exact ⟨_, rfl, Lib.hid (.inr ⟨k, r, rfl, HK.out, hv, HN.out⟩), hB.on hb1⟩
      · go_roundw
        case rel => exact ⟨k + 1, by omega, by go_num, Lib.hid (by
          intro q hq
          rw [take_snoc_ HK.out, List.mem_append] at hq
          rcases hq with hq | hq
          · exact HN.out q hq
          · simp at hq; rw [hq]; exact hv), hB.on hb1⟩
        case measure => simp [intOf]; omega
    · obtain rfl : k = n := by omega
      have e : rs.take k = rs := by rw [HL.out]; exact List.take_length
      have E := Lib.hid e
      clear e
      go_wp2
      all_goals
        go_ret
        exact ⟨_, rfl, Lib.hid (.inl ⟨rfl, by rw [← E.out]; exact HN.out⟩), hB⟩

/-- Those that are not Never. -/
def leftR (rs : List Raw) : List Raw := rs.filter fun r => !r.nv
theorem leftR_snoc {rs : List Raw} {k : Nat} {r : Raw} (h : rs[k]? = some r) : leftR (rs.take (k + 1)) = leftR (rs.take k) ++ (if r.nv then [] else [r]) := by
  rw [take_snoc_ h]; unfold leftR; rw [List.filter_append]; cases h : r.nv <;> simp [h]
theorem leftR_all {rs : List Raw} (h : ∀ r ∈ rs, r.nv = false) : leftR rs = rs := by
  unfold leftR; exact List.filter_eq_self.2 (fun r hr => by simp [h r hr])
theorem leftR_len (rs : List Raw) : (leftR rs).length ≤ rs.length := List.length_filter_le _ _
/-- While it goes on: what stands ahead is what is left, what stands behind is as it was. -/
def Doing (rs ys : List Raw) (i j : Nat) : Prop := ys.length = rs.length ∧ i < j ∧ j ≤ rs.length ∧ ys.take i = leftR (rs.take j) ∧ ∀ t, j ≤ t → ys[t]? = rs[t]?

theorem first_never {rs : List Raw} (h : ¬ ∀ r ∈ rs, r.nv = false) : ∃ (k : Nat) (r : Raw), rs[k]? = some r ∧ r.nv = true ∧ ∀ r ∈ rs.take k, r.nv = false := by
  induction rs with
  | nil => exact absurd (by simp) h
  | cons x rs ih =>
    rcases Bool.eq_false_or_eq_true x.nv with hx | hx
    · exact ⟨0, x, rfl, hx, by simp⟩
    · obtain ⟨k, r, h1, h2, h3⟩ := ih (fun h' => h (by simpa [hx] using h'))
      exact ⟨k + 1, r, by simpa using h1, h2, by simpa [hx] using h3⟩
theorem first_same {rs : List Raw} {k m : Nat} {r q : Raw} (hk : rs[k]? = some r) (hr : r.nv = true) (hb : ∀ r ∈ rs.take k, r.nv = false) (hm : rs[m]? = some q) (hq : q.nv = true) (hc : ∀ r ∈ rs.take m, r.nv = false) : k = m := by
  have key : ∀ {a b : Nat} {r : Raw}, rs[a]? = some r → r.nv = true → (∀ r ∈ rs.take b, r.nv = false) → b ≤ a := by
    intro a b r ha hr hb
    rcases Nat.lt_or_ge a b with h | h
    · have := hb r (List.mem_of_getElem? (i := a) (by rw [List.getElem?_take_of_lt h]; exact ha))
      rw [hr] at this; cases this
    · exact h
  have h1 := key hk hr hc
  have h2 := key hm hq hb
  omega
theorem doing_start {rs : List Raw} {k : Nat} {r : Raw} (hk : rs[k]? = some r) (hr : r.nv = true) (hb : ∀ r ∈ rs.take k, r.nv = false) : Doing rs rs k (k + 1) := by
  have hlt := (List.getElem?_eq_some_iff.1 hk).1
  refine ⟨rfl, by omega, by omega, ?_, fun _ _ => rfl⟩
  rw [leftR_snoc hk, leftR_all hb, hr]; simp
theorem doing_skip {rs ys : List Raw} {i j : Nat} {r : Raw} (h : Doing rs ys i j) (hk : rs[j]? = some r) (hr : r.nv = true) : Doing rs ys i (j + 1) := by
  obtain ⟨h1, h2, h3, h4, h5⟩ := h
  have hlt := (List.getElem?_eq_some_iff.1 hk).1
  refine ⟨h1, by omega, by omega, ?_, fun t ht => h5 t (by omega)⟩
  rw [leftR_snoc hk, hr, h4]; simp
theorem doing_keep {rs ys : List Raw} {i j : Nat} {r : Raw} (h : Doing rs ys i j) (hk : rs[j]? = some r) (hr : r.nv = false) : Doing rs (ys.set i r) (i + 1) (j + 1) := by
  obtain ⟨h1, h2, h3, h4, h5⟩ := h
  have hlt := (List.getElem?_eq_some_iff.1 hk).1
  refine ⟨by simpa using h1, by omega, by omega, ?_, fun t ht => ?_⟩
  · rw [leftR_snoc hk, hr, ← h4]
    have hi : i < ys.length := by omega
    rw [List.take_add_one, List.getElem?_set_self hi, List.take_set_of_le (Nat.le_refl _)]
    simp
  · rw [List.getElem?_set_ne (by omega)]; exact h5 t (by omega)

set_option maxRecDepth 100000 in
set_option maxHeartbeats 1000000 in
theorem delete_any (g n cap : Nat) (rs : List Raw) (w : World) (hrow : Row3 w g rs) (hn : n = rs.length) (hg : g < w.heap.size) (hcap : n ≤ cap) (hmax : n ≤ 1000000000) :
    Calls Try.prog 80 #[.slice (some ⟨g, 0, none⟩) n cap, .func (.func 82) #[] #[]] w fun e w' => e = .returned (.slice (some ⟨g, 0, none⟩) (leftR rs).length cap) ∧ Row3 w' g (leftR rs) ∧ Only g w w' := by
  have HN := Lib.hid hn
  have HR := Lib.hid hrow
  clear hn hrow
  have hi := index_any (some ⟨g, 0, none⟩) n cap rs w (by rw [HN.out]; exact HR.out.reads hg) hmax
  by_cases hall : ∀ r ∈ rs, r.nv = false
  · have E := Lib.hid (leftR_all hall)
    have hi2 : Calls Try.prog 97 #[.slice (some ⟨g, 0, none⟩) n cap, .func (.func 82) #[] #[]] w fun e w' => e = .returned (.int .i64 (-1)) ∧ Bel w w' :=
      hi.mono fun e w' ⟨x, he, hx, hb⟩ => by
        rcases hx.out with ⟨h, _⟩ | ⟨k, r, _, hk, hv, _⟩
        · exact ⟨by rw [he, h], hb⟩
        · have := hall r (List.mem_of_getElem? hk); rw [hv] at this; cases this
    have HI := Lib.hid hi2
    clear hi hi2 hall
    go_enter Try.func80, Try.ntmps80
    go_wp2_with (go_at_call 97; refine HI.out.mono ?_; rintro e w1 ⟨rfl, hb1⟩)
    go_ret
    exact ⟨by rw [E.out, HN.out]; rfl, by rw [E.out]; exact HR.out.bel hb1 hg, (Only.refl _ _).bel hb1⟩
  · obtain ⟨k0, hk0, HS, HI⟩ : ∃ k0 : Nat, k0 < n ∧ Hid (Doing rs rs k0 (k0 + 1)) ∧ Hid (Calls Try.prog 97 #[.slice (some ⟨g, 0, none⟩) n cap, .func (.func 82) #[] #[]] w fun e w' => e = .returned (.int .i64 k0) ∧ Bel w w') := by
      obtain ⟨k0, r0, hk0, hv0, hbefore⟩ := first_never hall
      refine ⟨k0, by rw [HN.out]; exact (List.getElem?_eq_some_iff.1 hk0).1, Lib.hid (doing_start hk0 hv0 hbefore), Lib.hid (hi.mono fun e w' ⟨x, he, hx, hb⟩ => ?_)⟩
      rcases hx.out with ⟨_, h⟩ | ⟨k, r, hx, hk, hv, hbef⟩
      · exact absurd h hall
      · rw [first_same hk0 hv0 hbefore hk hv hbef]
        exact ⟨by rw [he, hx], hb⟩
    clear hi hall
    have i4 : ((k0 : Int) == -1) = false := beq_eq_false_iff_ne.2 (by omega)
    go_enter Try.func80, Try.ntmps80
    go_wp2_with (go_at_call 97; refine HI.out.mono ?_; rintro e w1 ⟨rfl, hb1⟩)
    go_loopw [5, 6] (fun si sj wr => ∃ (i j : Nat) (ys : List Raw), si = .int .i64 i ∧ sj = .int .i64 j ∧ j ≤ n ∧ i < j ∧ Hid (Doing rs ys i j) ∧ Row3 wr g ys ∧ Only g w wr) (fun _ j _ => n - (intOf j).toNat)
    case atStart => exact ⟨k0, k0 + 1, rs, rfl, by go_num, by omega, by omega, HS, HR.out.bel hb1 hg, (Only.refl _ _).bel hb1⟩
    case round =>
      obtain ⟨i, j, ys, rfl, rfl, hj, hij, HD, hrow, hO⟩ := hrel
      have hOs := hO.size
      have HW := Lib.hid hrow
      have HO := Lib.hid hO
      clear hrow hO
      by_cases hlt : j < n
      · obtain ⟨r, hrj⟩ : ∃ r, rs[j]? = some r := ⟨_, List.getElem?_eq_getElem (by rw [← HN.out]; exact hlt)⟩
        have hyj : ys[j]? = some r := by rw [HD.out.2.2.2.2 j (Nat.le_refl _)]; exact hrj
        obtain ⟨c0, c1, c2⟩ := HW.out.1 j r hyj
        obtain ⟨q, hyi⟩ : ∃ q, ys[i]? = some q := ⟨_, List.getElem?_eq_getElem (by rw [HD.out.1, ← HN.out]; omega)⟩
        have hil : Hid (i < ys.length) := Lib.hid (by rw [HD.out.1, ← HN.out]; omega)
        have HJ := Lib.hid hrj
        have HYI := Lib.hid hyi
        clear hrj hyj hyi
        rcases Bool.eq_false_or_eq_true r.nv with hv | hv
        · go_wp2_with (go_at_call 82; refine (never_any _ _ _ _ _ _).mono ?_; rintro e w2 ⟨rfl, hb2⟩)
          go_roundw
          case rel => exact ⟨i, j + 1, ys, rfl, by go_num, by omega, by omega, Lib.hid (doing_skip HD.out HJ.out hv), (HW.out.bel ((Bel.refl _).alloc _) (by omega)).bel hb2 (by simp; omega), (HO.out.bel ((Bel.refl _).alloc _)).bel hb2⟩
          case measure => simp [intOf]; omega
        · have E0 : Hid (r.nv = false) := Lib.hid hv
          go_wp2_with (go_at_call 82; refine (never_any _ _ _ _ _ _).mono ?_; rintro e w2 ⟨rfl, hb2⟩; (have HW2 := Lib.hid ((HW.out.bel ((Bel.refl _).alloc _) (by omega)).bel hb2 (by simp; omega))); (obtain ⟨a0, a1, a2, _, _, _⟩ := cells3 (hb2.blk (blk1 _ _))); (obtain ⟨d0, d1, d2⟩ := HW2.out.1 i q HYI.out); (have hfr := HW2.out.2); (have HO2 := Lib.hid ((HO.out.bel ((Bel.refl _).alloc _)).bel hb2)); clear hb2)
          go_roundw
          case rel => exact ⟨i + 1, j + 1, ys.set i r, by go_num, by go_num, by omega, by omega, Lib.hid (doing_keep HD.out HJ.out E0.out), (by have h := HW2.out.set_ hil.out r; rw [E0.out] at h; exact h), ((HO2.out.set_ (.inl rfl) _).set_ (.inl rfl) _).set_ (.inl rfl) _⟩
          case measure => simp [intOf]; omega
      · obtain rfl : j = n := by omega
        obtain ⟨vs, hvs⟩ : ∃ vs, ∀ ty, (Builtin.clear_ #[28] ty #[.slice (some ⟨g, i * 3, none⟩) (j - i) (cap - i)]).run Try.prog wr = .ok (.tuple #[]) (wr.setCells g (i * 3) vs) :=
          ⟨_, fun ty => run_clear3 wr _ _ ty _ Try.underlying28 zero_term rfl (by decide) g (i * 3) (j - i) (cap - i) (HW.out.some_ (by rw [HD.out.1, ← HN.out])) HW.out.2⟩
        have i5 : (i : Int) < (cap : Int) := by omega
        go_wp2
        go_ret
        have h := HD.out
        have e : ys.take i = leftR rs := by rw [h.2.2.2.1, HN.out, List.take_length]
        have e2 : i = (leftR rs).length := by rw [← e, List.length_take]; have := h.1; have := HN.out; omega
        exact ⟨by rw [← e2]; rfl, by rw [← e]; exact HW.out.setCells i vs, HO.out.setCells vs _⟩

/-- The cells of terms one behind the other. -/
def flat (rs : List Raw) : List Value := rs.flatMap fun r => [.bool r.nv, .int .u8 r.c, .slice r.A r.n r.k]
theorem flat_len (rs : List Raw) : (flat rs).length = rs.length * 3 := by
  induction rs with
  | nil => rfl
  | cons r rs ih => simp only [flat, List.flatMap_cons, List.length_append, List.length_cons, List.length_nil] at *; omega
theorem flat_get : ∀ (rs : List Raw) (k : Nat) (r : Raw), rs[k]? = some r → (flat rs)[k * 3]? = some (.bool r.nv) ∧ (flat rs)[k * 3 + 1]? = some (.int .u8 r.c) ∧ (flat rs)[k * 3 + 2]? = some (.slice r.A r.n r.k)
  | [], k, r, h => by simp at h
  | x :: rs, 0, r, h => by
    simp at h; subst h
    simp [flat]
  | x :: rs, k + 1, r, h => by
    have := flat_get rs k r (by simpa using h)
    have e : flat (x :: rs) = [.bool x.nv, .int .u8 x.c, .slice x.A x.n x.k] ++ flat rs := by simp [flat]
    rw [e, List.getElem?_append_right (by simp; omega), List.getElem?_append_right (by simp; omega), List.getElem?_append_right (by simp; omega)]
    simp only [List.length_cons, List.length_nil]
    rw [show (k + 1) * 3 - 3 = k * 3 by omega, show (k + 1) * 3 + 1 - 3 = k * 3 + 1 by omega, show (k + 1) * 3 + 2 - 3 = k * 3 + 2 by omega]
    exact this
theorem flat_one (rs : List Raw) : ∀ u ∈ flat rs, u.oneCell' = true := by
  intro u hu
  simp only [flat, List.mem_flatMap] at hu
  obtain ⟨r, _, h⟩ := hu
  simp at h
  rcases h with rfl | rfl | rfl <;> rfl
theorem flat_reads {w : World} {b off : Nat} {rs : List Raw} (h : ∀ k r, rs[k]? = some r → w.cell? ⟨b, off + k * 3, none⟩ = some (.bool r.nv) ∧ w.cell? ⟨b, off + k * 3 + 1, none⟩ = some (.int .u8 r.c) ∧ w.cell? ⟨b, off + k * 3 + 2, none⟩ = some (.slice r.A r.n r.k)) :
    ∀ j u, (flat rs)[j]? = some u → w.cell? ⟨b, off + j, none⟩ = some u := by
  intro j u hu
  have hlt : j < (flat rs).length := (List.getElem?_eq_some_iff.1 hu).1
  rw [flat_len] at hlt
  have hk : j / 3 < rs.length := by omega
  obtain ⟨a0, a1, a2⟩ := h (j / 3) rs[j / 3] (List.getElem?_eq_getElem hk)
  obtain ⟨b0, b1, b2⟩ := flat_get rs (j / 3) rs[j / 3] (List.getElem?_eq_getElem hk)
  have h3 : j % 3 = 0 ∨ j % 3 = 1 ∨ j % 3 = 2 := by omega
  rcases h3 with h3 | h3 | h3
  · rw [show j / 3 * 3 = j by omega] at b0
    rw [show off + j / 3 * 3 = off + j by omega] at a0
    rw [hu] at b0; rw [a0, ← b0]
  · rw [show j / 3 * 3 + 1 = j by omega] at b1
    rw [show off + j / 3 * 3 + 1 = off + j by omega] at a1
    rw [hu] at b1; rw [a1, ← b1]
  · rw [show j / 3 * 3 + 2 = j by omega] at b2
    rw [show off + j / 3 * 3 + 2 = off + j by omega] at a2
    rw [hu] at b2; rw [a2, ← b2]
theorem row_of_own {w : World} {base g n cap : Nat} {e : TypeId} {rs : List Raw} (h : w.ownsRow base e 3 (.slice (some ⟨g, 0, none⟩) n cap) n (flat rs)) (hl : n = rs.length) : Row3 w g rs := by
  refine ⟨fun k r hk => ?_, fun o => h.frozenAt o⟩
  have hlt := (List.getElem?_eq_some_iff.1 hk).1
  obtain ⟨b0, b1, b2⟩ := flat_get rs k r hk
  unfold Raw.lies
  rw [h.cellAt _ (by omega), h.cellAt _ (by omega), h.cellAt _ (by omega)]
  exact ⟨b0, b1, b2⟩

theorem cloneT_some (a : Addr) (n c : Nat) (news : List Value) (w : World) (hl : news.length = n * 3) (hn : n ≤ 1000000000) (hc : ∀ j u, news[j]? = some u → w.cell? (a.add j) = some u) (h1 : ∀ u ∈ news, u.oneCell' = true) :
    Calls Try.prog 81 #[.slice (some a) n c] w fun e w' => ∃ v', e = .returned v' ∧ w'.ownsRow w.heap.size 33 3 v' n news ∧ v' ≠ .slice none 0 0 ∧ Below w.heap.size w w' := by
  obtain ⟨i0, hi, hz0, hz1, hz2⟩ := info_parts info_term
  have q22 : ∀ (w : World) (a : Option Addr) (n c n' c' : Nat), (binOp .eql 28 (.slice a n c) (.slice none n' c')).run Try.prog w = .ok (.bool a.isNone) w := fun w a n c n' c' => Lib.run_eql_slice_nil w _ _ a n c n' c' Try.underlying28
  have HC := Lib.hid hc
  clear hc
  go_enter Try.func81, Try.ntmps81
  go_wp2_with (at_builtin; refine wpList_append_own _ rfl _ _ 28 rfl w.heap.size 33 i0 (.agg #[.bool false, .int .u8 0, .slice none 0 0]) 3 32 Try.underlying28 hi hz0 hz1 hz2 rfl (by decide) _ _ _ rfl (World.ownsRow_made w #[] 0 (Nat.le_refl _) (Nat.zero_le _) (by simp)) a n c news rfl ?qc1 ?qc2 ?qc3 ?qc4 ?qc5 ?qc6 ?_)
  case qc1 => exact hl
  case qc2 =>
    intro j u hj
    exact Lib.cell?_alloc_some _ (HC.out j u hj)
  case qc3 => exact h1
  case qc4 => unfold maxLen; omega
  case qc5 => omega
  case qc6 => simp
  intro v' w1 hown hgrow hnil
  go_wp2
  go_ret
  refine ⟨v', rfl, by simpa using hown, ?_, ?_⟩
  · exact hnil
  · exact ((Below.refl _ w).alloc (Nat.le_refl _) _).grown hgrow (by simp) (by intro k hk; simp [Value.ownBlock] at hk; omega)

/-- slices.Clone at the terms: nil, or a slice of the call's own. -/
theorem cloneT_any (A : Option Addr) (n cap : Nat) (rs : List Raw) (w : World) (hr : RT w w.heap.size A n rs) (hmax : n ≤ 1000000000) :
    Calls Try.prog 81 #[.slice A n cap] w fun e w' => ((e = .returned (.slice none 0 0) ∧ n = 0) ∨ ∃ g c', e = .returned (.slice (some ⟨g, 0, none⟩) n c') ∧ w.heap.size ≤ g ∧ g < w'.heap.size ∧ n ≤ c' ∧ Row3 w' g rs) ∧ Bel w w' := by
  have hl := hr.len
  rcases A with _ | a
  · have hn : n = 0 := by
      rcases Nat.eq_zero_or_pos n with h | h
      · exact h
      · obtain ⟨_, _, h', _⟩ := hr.at_ h; cases h'
    subst hn
    have q22 : ∀ (w : World) (a : Option Addr) (n c n' c' : Nat), (binOp .eql 28 (.slice a n c) (.slice none n' c')).run Try.prog w = .ok (.bool a.isNone) w := fun w a n c n' c' => Lib.run_eql_slice_nil w _ _ a n c n' c' Try.underlying28
    clear hl hr
    go_enter Try.func81, Try.ntmps81
    go_wp2
    go_ret
    exact ⟨.inl ⟨rfl, trivial⟩, Bel.refl _⟩
  · have hc : ∀ j u, (flat rs)[j]? = some u → w.cell? (a.add j) = some u := by
      intro j u hj
      have hlt : j < (flat rs).length := (List.getElem?_eq_some_iff.1 hj).1
      rw [flat_len] at hlt
      obtain ⟨b, off, e, _, h⟩ := hr.at_ (by omega)
      injection e with e
      subst e
      rw [Addr.add_lit]
      exact flat_reads h j u hj
    refine (cloneT_some a n cap (flat rs) w (by rw [flat_len, hl]) hmax hc (flat_one rs)).mono ?_
    rintro e w' ⟨v', rfl, hown, hne, hb⟩
    refine ⟨.inr ?_, hb⟩
    rcases hown.2 with ⟨h, _⟩ | ⟨g, c', cur, rfl, hg, hgg, hnc, _⟩
    · exact absurd h hne
    · refine ⟨g, c', rfl, hg, ?_, hnc, row_of_own hown hl⟩
      rcases Nat.lt_or_ge g w'.heap.size with h' | h'
      · exact h'
      · rw [Array.getElem?_eq_none h'] at hgg; cases hgg

theorem delete_none (n cap : Nat) (hn : n = 0) (w : World) :
    Calls Try.prog 80 #[.slice none n cap, .func (.func 82) #[] #[]] w fun e w' => e = .returned (.slice none n cap) ∧ Bel w w' := by
  have hi : Calls Try.prog 97 #[.slice none n cap, .func (.func 82) #[] #[]] w fun e w' => e = .returned (.int .i64 (-1)) ∧ Bel w w' :=
    (index_any none n cap [] w (by subst hn; exact RT.nil_) (by omega)).mono fun e w' ⟨x, he, hx, hb⟩ => by
      rcases hx.out with ⟨h, _⟩ | ⟨k, r, _, hk, _⟩
      · exact ⟨by rw [he, h], hb⟩
      · simp at hk
  have HI := Lib.hid hi
  clear hi hn
  go_enter Try.func80, Try.ntmps80
  go_wp2_with (go_at_call 97; refine HI.out.mono ?_; rintro e w1 ⟨rfl, hb1⟩)
  go_ret
  exact ⟨rfl, hb1⟩

theorem left_any (A : Option Addr) (n cap : Nat) (rs : List Raw) (w : World) (hr : RT w w.heap.size A n rs) (hmax : n ≤ 1000000000) :
    Calls Try.prog 58 #[.slice A n cap] w fun e w' => ∃ A' c', e = .returned (.slice A' (leftR rs).length c') ∧ RT w' w'.heap.size A' (leftR rs).length (leftR rs) ∧ Bel w w' := by
  have HL := Lib.hid hr.len
  have HC := Lib.hid (cloneT_any A n cap rs w hr hmax)
  clear hr
  go_enter Try.func58, Try.ntmps58
  go_wp2_with (go_at_call 81; refine HC.out.mono ?_; rintro e w1 ⟨(⟨rfl, hn0⟩ | ⟨g, c', rfl, hg0, hg1, hnc, hrow⟩), hb1⟩)
  · have HB1 := Lib.hid hb1
    have HN := Lib.hid hn0
    clear hn0 hb1
    go_wp2_with (go_at_call 80; refine (delete_none _ _ rfl _).mono ?_; rintro e w2 ⟨rfl, hb2⟩)
    go_ret
    have e : rs = [] := List.eq_nil_of_length_eq_zero (by rw [← HL.out, HN.out])
    subst e
    exact ⟨none, 0, rfl, RT.nil_, HB1.out.on hb2⟩
  · have HB1 := Lib.hid hb1
    have HW := Lib.hid hrow
    clear hb1 hrow
    go_wp2_with (go_at_call 80; refine (delete_any _ _ _ _ _ HW.out HL.out hg1 hnc hmax).mono ?_; rintro e w2 ⟨rfl, hrow2, hO⟩)
    go_ret
    exact ⟨_, _, rfl, hrow2.reads (Nat.lt_of_lt_of_le hg1 hO.size), Below.trans HB1.out (hO.below hg0 HB1.out.size)⟩
end Go.Proofs.Ytghoipgldnfjoaa.Mu
