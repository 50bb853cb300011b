/-
  The reference's Text: where it puts brackets.
  The reference's Text, walked.
  Digits and the text of a multiplicity, as the document's own functions tell them.
-/
import Derived.Test.YtblgligagngpfaaDoorTySeeV
import Derived.Test.YtblgligagngpfaaDoorTyInjL
import Derived.Test.YtblgligagngpfaaDoorTextM
import Derived.Test.YtblgligagngpfaaDoorText
namespace Go.Proofs.YtblgligagngpfaaDoor.Mu
open Go.ChangeShapes Go.WideShapes Go.ChangeAt Go.RowKit Go.Shelf

attribute [local go_sem] Oper.semAt_some
set_option linter.unusedVariables false

theorem itoa_no32 {n : Int} (h : 0 ≤ n) : (32 : UInt8) ∉ Lib.itoa n := fun h32 => (itoa_clean h _ h32).1 rfl
theorem argsT_32 {ts : List (List UInt8)} (h : 0 < ts.length) : (32 : UInt8) ∈ argsT ts := by
  match ts, h with
  | t :: r, _ => simp [argsT]
/-- A type's text has a blank just where it stands in brackets behind a word. -/
theorem body_space {nm : List (List UInt8)} (hnm : ∀ s ∈ nm, (32 : UInt8) ∉ s) {k n v c : Int} {kids : Fo} (hw : nodeB k n v c kids.len = true) : (32 : UInt8) ∈ bodyT nm k n v c (Fo.txt nm kids (plK k)) ↔ brkB 2 k kids.len = true := by
  have hl := Fo.txt_len nm kids (plK k)
  by_cases h1 : k = 1
  · subst h1
    have hn := (nodeB_at hw).1 rfl
    have : bodyT nm 1 n v c (Fo.txt nm kids (plK 1)) = 97 :: Lib.itoa n := by simp [bodyT]
    rw [this]
    simp [brkB, itoa_no32 hn]
  · by_cases h6 : k = 6
    · subst h6
      have hk : kids.len = 1 := by simp [nodeB] at hw; omega
      have : bodyT nm 6 n v c (Fo.txt nm kids (plK 6)) = [65, 114, 114] ++ argsT (Fo.txt nm kids (plK 6)) := by simp [bodyT]
      rw [this]
      have := argsT_32 (ts := Fo.txt nm kids (plK 6)) (by omega)
      simp [brkB, this]
    · by_cases h7 : k = 7
      · subst h7
        have : bodyT nm 7 n v c (Fo.txt nm kids (plK 7)) = funT v c (Fo.txt nm kids (plK 7)) := by simp [bodyT]
        rw [this]
        simp [brkB, funT, arrowT]
      · by_cases h8 : k = 8
        · subst h8
          have : bodyT nm 8 n v c (Fo.txt nm kids (plK 8)) = nameT nm n ++ argsT (Fo.txt nm kids (plK 8)) := by simp [bodyT]
          rw [this]
          have hn : 0 ≤ n := by simp [nodeB] at hw; omega
          have hname : (32 : UInt8) ∉ nameT nm n := by
            unfold nameT
            cases e : nm[n.toNat]? with
            | none => simp [itoa_no32 hn]
            | some s => exact hnm s (List.mem_of_getElem? e)
          by_cases h0 : kids.len = 0
          · have : Fo.txt nm kids (plK 8) = [] := List.eq_nil_of_length_eq_zero (by omega)
            rw [this]
            simp [brkB, h0, argsT, hname]
          · have := argsT_32 (ts := Fo.txt nm kids (plK 8)) (by omega)
            simp [brkB, this]
            omega
        · have : bodyT nm k n v c (Fo.txt nm kids (plK k)) = wordT k := by simp [bodyT, h1, h6, h7, h8]
          rw [this]
          unfold wordT
          simp only [brkB, h6, h7, h8, decide_false, Bool.and_false, Bool.or_false, Bool.false_and, Bool.false_eq_true, iff_false]
          repeat' split
          all_goals decide
theorem one_zero (nm : List (List UInt8)) (k n v c : Int) (kids : Fo) : Fo.one nm (.cons k n v c kids .nil) 0 = bodyT nm k n v c (Fo.txt nm kids (plK k)) := by
  show brkT (brkB 0 k kids.len) _ = _
  simp [brkB, brkT]
/-- An atom's text. -/
theorem atom_one {nm : List (List UInt8)} (hnm : ∀ s ∈ nm, (32 : UInt8) ∉ s) {k n v c : Int} {kids : Fo} (hw : nodeB k n v c kids.len = true) : Fo.one nm (.cons k n v c kids .nil) 2 = (if (32 : UInt8) ∈ Fo.one nm (.cons k n v c kids .nil) 0 then 40 :: (Fo.one nm (.cons k n v c kids .nil) 0 ++ [41]) else Fo.one nm (.cons k n v c kids .nil) 0) := by
  rw [one_zero]
  show brkT (brkB 2 k kids.len) _ = _
  have h := body_space hnm hw
  unfold brkT
  by_cases hb : brkB 2 k kids.len = true
  · rw [if_pos hb, if_pos (h.2 hb)]
  · rw [if_neg hb, if_neg (fun e => hb (h.1 e))]
set_option maxRecDepth 100000 in
set_option maxHeartbeats 2000000 in
theorem ratom_any (t : List UInt8) (ht : t.length ≤ 1000000000) (k n v c : Int) (A : Option Addr) (len cap : Nat) (Nm : Option Addr) (nn nc : Nat) (w : World)
    (HT : ∀ W, Bel w W → Calls Tryd.prog 19 #[.agg #[.int .u8 k, .int .i64 n, .int .i64 v, .int .u8 c, .slice A len cap], .slice Nm nn nc] W fun e w' => e = .returned (.string ⟨t.toArray⟩) ∧ Bel W w') :
    Calls Tryd.prog 47 #[.agg #[.int .u8 k, .int .i64 n, .int .i64 v, .int .u8 c, .slice A len cap], .slice Nm nn nc] w fun e w' => e = .returned (.string ⟨(if (32 : UInt8) ∈ t then 40 :: (t ++ [41]) else t).toArray⟩) ∧ Bel w w' := by
  have H := Lib.hid HT
  clear HT
  obtain ⟨R, hR⟩ : ∃ R, R = (if (32 : UInt8) ∈ t then 40 :: (t ++ [41]) else t) := ⟨_, rfl⟩
  rw [← hR]
  have HRR := Lib.hid hR
  clear hR
  go_enter Tryd.func47, Tryd.ntmps47
  go_wp2_with fail
  refine (H.out _ ((Bel.refl w).alloc _)).mono ?_
  rintro e w2 ⟨rfl, hb2⟩
  have HB2 := Lib.hid (((Bel.refl w).alloc _).on hb2)
  clear hb2
  obtain ⟨S, hS⟩ : ∃ S : ByteArray, S = ⟨t.toArray⟩ := ⟨_, rfl⟩
  have hsz : S.size = t.length := by rw [hS]; exact List.size_toArray
  have HSS := Lib.hid hS
  have HSZ := Lib.hid hsz
  rw [← hS]
  clear hS
  go_wp2_with fail
  go_loopw [6] (fun i wr => ∃ j : Nat, j ≤ t.length ∧ i = .int .i64 (j : Int) ∧ Hid ((32 : UInt8) ∉ t.take j) ∧ Hid (wr = w2)) (fun i _ => t.length - (intOf i).toNat)
  case atStart => exact ⟨0, Nat.zero_le _, rfl, Lib.hid (by simp), Lib.hid rfl⟩
  case round =>
    obtain ⟨j, hj, rfl, HN, HW⟩ := hrel
    by_cases hlt : j < t.length
    · have i1 : (0 : Int) ≤ (j : Int) := by omega
      have i2 : (j : Int) < (S.size : Int) := by omega
      have d9 : decide ((j : Int) < (S.size : Int)) = true := by rw [decide_eq_true_eq]; exact i2
      have hj' : j < S.size := by omega
      have hx : (S[j]'hj').toNat = (t[j]'hlt).toNat := by
        have h := HSS.out
        subst h
        rfl
      by_cases h32 : t[j]'hlt = 32
      · have hb : (((S[j]'hj').toNat : Int) == 32) = true := by rw [hx, h32]; rfl
        have HM : Hid ((32 : UInt8) ∈ t) := Lib.hid (h32 ▸ List.getElem_mem hlt)
        clear hx h32
        go_wp2_with fail
        go_ret
        refine ⟨?_, by rw [HW.out]; exact HB2.out⟩
        have e : (⟨#[40]⟩ : ByteArray) ++ S ++ ⟨#[41]⟩ = ⟨R.toArray⟩ := by
          rw [HRR.out, if_pos HM.out, HSS.out]
          apply ByteArray.ext
          simp
        rw [← e]
        rfl
      · have hb : (((S[j]'hj').toNat : Int) == 32) = false := by
          rw [hx]
          simp only [beq_eq_false_iff_ne, ne_eq]
          intro e
          exact h32 (UInt8.toNat_inj.1 (by have : ((t[j]'hlt).toNat : Int) = 32 := e; show _ = 32; omega))
        have HT32 := Lib.hid h32
        clear hx h32
        go_wp2_with fail
        go_roundw
        case rel => exact ⟨j + 1, by omega, by go_num, Lib.hid (by rw [List.take_add_one, List.getElem?_eq_getElem hlt, List.mem_append]; simp only [Option.toList_some, List.mem_singleton]; exact fun h => h.elim HN.out (fun e => HT32.out e.symm)), HW⟩
        case measure => simp [intOf]; omega
    · have hje : j = t.length := by omega
      have d9 : decide ((j : Int) < (S.size : Int)) = false := by rw [decide_eq_false_iff_not]; omega
      go_wp2_with fail
      go_ret
      refine ⟨?_, by rw [HW.out]; exact HB2.out⟩
      have h := HN.out
      rw [hje, List.take_length] at h
      rw [HRR.out, if_neg h, ← HSS.out]
      rfl
end Go.Proofs.YtblgligagngpfaaDoor.Mu
namespace Go.Proofs.YtblgligagngpfaaDoor.Mu
open Go.ChangeShapes Go.WideShapes Go.ChangeAt Go.RowKit Go.Shelf

attribute [local go_sem] Oper.semAt_some
set_option linter.unusedVariables false

theorem barr (l r : List UInt8) : (⟨l.toArray⟩ : ByteArray) ++ ⟨r.toArray⟩ = ⟨(l ++ r).toArray⟩ := by
  apply ByteArray.ext
  simp
theorem txt_at (nm : List (List UInt8)) : ∀ (f : Fo) (j : Nat), j < f.len → (Fo.txt nm f 2)[j]? = some (Fo.one nm (f.nth j) 2)
  | .nil, _, h => absurd h (by simp [Fo.len])
  | .cons k n v c kids rest, 0, _ => rfl
  | .cons k n v c kids rest, j + 1, h => by
    have := txt_at nm rest j (by simp only [Fo.len] at h; omega)
    show (Fo.txt nm rest (plN 2))[j]? = _
    exact this
theorem argsT_snoc (l : List (List UInt8)) (t : List UInt8) : argsT (l ++ [t]) = argsT l ++ (32 :: t) := by simp [argsT]
def StrP (t : List UInt8) (w : World) (e : Ending) (w' : World) : Prop := e = .returned (.string ⟨t.toArray⟩) ∧ Bel w w'
set_option maxRecDepth 100000 in
set_option maxHeartbeats 4000000 in
theorem rtext_any (nm : List (List UInt8)) (hK : ∀ s ∈ nm, s.length ≤ 1000) (hsp : ∀ s ∈ nm, (32 : UInt8) ∉ s) (w0 : World) (Nm : Option Addr) (nn nc : Nat) (hnm : RNm w0 w0.heap.size Nm nn nm)
    (hD : ∀ (x : Int) (W : World), 0 ≤ x → x < 1048576 → Calls Tryd.prog 46 #[.int .i64 x] W (StrP (Lib.itoa x) W)) (hM : ∀ (x : Int) (W : World), 0 ≤ x → x ≤ 255 → Calls Tryd.prog 48 #[.int .u8 x] W (StrP (mulS x) W)) (N : Nat) :
    ∀ (k n v c : Int) (A : Option Addr) (len cap : Nat) (kids : Fo) (w : World), kids.size = N → Bel w0 w → KidsAt w (Old w) A len cap kids → (Fo.cons k n v c kids .nil).well = true → kids.size ≤ 400 →
    Calls Tryd.prog 19 #[.agg #[.int .u8 k, .int .i64 n, .int .i64 v, .int .u8 c, .slice A len cap], .slice Nm nn nc] w (StrP (Fo.one nm (.cons k n v c kids .nil) 0) w) := by
  have HD := Lib.hid hD
  have HMM := Lib.hid hM
  have HNM := Lib.hid hnm
  clear hD hM hnm
  induction N using Nat.strongRecOn with
  | _ N ih =>
    intro k n v c A len cap kids w hN hb0 h hw hsz
    have hw' := hw
    simp only [Fo.well, Bool.and_eq_true] at hw'
    have hnode := hw'.1
    have H := Lib.hid h
    have IH := Lib.hid ih
    have HN := Lib.hid hN
    have HB0 := Lib.hid hb0
    have HL : Hid (len = kids.len) := Lib.hid h.1
    have HW := Lib.hid hw'.1
    have HWK := Lib.hid hw'.2.1
    obtain ⟨w1, hw1⟩ : ∃ W, W = w.alloc (.cells #[.int .u8 k, .int .i64 n, .int .i64 v, .int .u8 c, .slice A len cap] 27) := ⟨_, rfl⟩
    have HQ1 : Hid (w1.heap[w.heap.size]? = some (.cells #[.int .u8 k, .int .i64 n, .int .i64 v, .int .u8 c, .slice A len cap] 27 (0, 0))) := Lib.hid (by rw [hw1]; exact blk1 w _)
    have HB1 : Hid (Bel w w1) := Lib.hid (by rw [hw1]; exact (Bel.refl w).alloc _)
    rw [one_zero]
    have HKID : Hid (∀ (j : Nat) (k' n' v' c' : Int) (kids' : Fo) (A' : Option Addr) (cap' : Nat) (W : World), j < len → kids.nth j = .cons k' n' v' c' kids' .nil → KidsAt W (Old W) A' kids'.len cap' kids' → Bel w0 W → Calls Tryd.prog 19 #[.agg #[.int .u8 k', .int .i64 n', .int .i64 v', .int .u8 c', .slice A' kids'.len cap'], .slice Nm nn nc] W (StrP (Fo.one nm (.cons k' n' v' c' kids' .nil) 0) W)) := Lib.hid fun j k' n' v' c' kids' A' cap' W hj he hk hb => by
      have hsn := Fo.nth_size kids j
      rw [he] at hsn
      simp only [Fo.size] at hsn
      exact IH.out kids'.size (by have := HN.out; omega) k' n' v' c' A' kids'.len cap' kids' W rfl hb hk (by rw [← he]; exact well_nth kids j HWK.out) (by omega)
    have HATOM : Hid (∀ (j : Nat) (k' n' v' c' : Int) (kids' : Fo) (A' : Option Addr) (cap' : Nat) (W : World), j < len → kids.nth j = .cons k' n' v' c' kids' .nil → KidsAt W (Old W) A' kids'.len cap' kids' → Bel w0 W → Calls Tryd.prog 47 #[.agg #[.int .u8 k', .int .i64 n', .int .i64 v', .int .u8 c', .slice A' kids'.len cap'], .slice Nm nn nc] W (StrP (Fo.one nm (.cons k' n' v' c' kids' .nil) 2) W)) := Lib.hid fun j k' n' v' c' kids' A' cap' W hj he hk hb => by
      have hwk : (Fo.cons k' n' v' c' kids' .nil).well = true := by rw [← he]; exact well_nth kids j HWK.out
      have hsn := Fo.nth_size kids j
      rw [he] at hsn
      simp only [Fo.size] at hsn
      have hnk : nodeB k' n' v' c' kids'.len = true := by simp only [Fo.well, Bool.and_eq_true] at hwk; exact hwk.1
      rw [atom_one hsp hnk]
      have hlen := one_len hK hwk 0
      have h2 : (1 + kids'.size) * (1000 + 60) ≤ 401 * 1060 := Nat.mul_le_mul (by omega) (by omega)
      exact ratom_any _ (by omega) k' n' v' c' A' kids'.len cap' Nm nn nc W fun W' hW' => HKID.out j k' n' v' c' kids' A' cap' W' hj he (hk.bel hW') (hb.on hW')
    clear h hb0 ih hN hw hw'
    obtain ⟨R, hR⟩ : ∃ R, R = bodyT nm k n v c (Fo.txt nm kids (plK k)) := ⟨_, rfl⟩
    have HR := Lib.hid hR
    rw [← hR]
    clear hR
    have hcs : k = 1 ∨ k = 2 ∨ k = 3 ∨ k = 4 ∨ k = 5 ∨ k = 6 ∨ k = 7 ∨ k = 8 := by
      by_cases h7 : k = 7
      · omega
      · obtain ⟨_, _, hc⟩ := node_cases hnode h7
        omega
    rcases hcs with rfl | rfl | rfl | rfl | rfl | rfl | rfl | rfl
    · have hn0 : 0 ≤ n ∧ n < 1048576 := by simp [nodeB] at hnode; omega
      go_enter Tryd.func19, Tryd.ntmps19
      go_wp2_with fail
      refine (HD.out n _ hn0.1 hn0.2).mono ?_
      rintro e w2 ⟨rfl, hb2⟩
      have HB2 := Lib.hid (((Bel.refl w).alloc _).on hb2)
      obtain ⟨S, hS⟩ : ∃ S : ByteArray, S = ⟨(Lib.itoa n).toArray⟩ := ⟨_, rfl⟩
      have hsz : S.size ≤ 21 := by
        have h := Lib.itoa_length_le n (by omega) (by omega)
        rw [hS]
        show (Lib.itoa n).toArray.size ≤ 21
        rw [List.size_toArray]
        exact h
      have HSS := Lib.hid hS
      rw [← hS]
      clear hS hb2
      go_wp2_with fail
      go_ret
      refine ⟨?_, HB2.out⟩
      have e : (⟨#[97]⟩ : ByteArray) ++ S = ⟨R.toArray⟩ := by
        rw [HR.out, HSS.out]
        exact barr [97] (Lib.itoa n)
      rw [← e]
      rfl
    · go_enter Tryd.func19, Tryd.ntmps19
      go_wp2_with fail
      go_ret
      exact ⟨by rw [HR.out]; rfl, (Bel.refl w).alloc _⟩
    · go_enter Tryd.func19, Tryd.ntmps19
      go_wp2_with fail
      go_ret
      exact ⟨by rw [HR.out]; rfl, (Bel.refl w).alloc _⟩
    · go_enter Tryd.func19, Tryd.ntmps19
      go_wp2_with fail
      go_ret
      exact ⟨by rw [HR.out]; rfl, (Bel.refl w).alloc _⟩
    · go_enter Tryd.func19, Tryd.ntmps19
      go_wp2_with fail
      go_ret
      exact ⟨by rw [HR.out]; rfl, (Bel.refl w).alloc _⟩
    · have hk1 : kids.len = 1 := by simp [nodeB] at hnode; omega
      have hl1 : len = 1 := HL.out.trans hk1
      subst hl1
      obtain ⟨b, o, rfl, hbo, hfo⟩ := (H.out.bel HB1.out).2.2 (by omega)
      obtain ⟨k', n', v', c', kids', A', cap', en, e1, e2, e3, e4, e5, hk'⟩ := FoAt.nth kids 0 b o hfo (by omega)
      have hkk : kids = .cons k' n' v' c' kids' .nil := by
        match kids, hk1, en with
        | .cons _ _ _ _ _ .nil, _, en => exact en
        | .cons _ _ _ _ _ (.cons _ _ _ _ _ r), h, _ => exact absurd h (by simp only [Fo.len]; omega)
      have HC := Lib.hid (HATOM.out 0 k' n' v' c' kids' A' cap' w1 (by omega) en hk' (HB0.out.on HB1.out))
      have HKK := Lib.hid hkk
      have hwk : (Fo.cons k' n' v' c' kids' .nil).well = true := by rw [← hkk]; exact HWK.out
      have hs2 : 1 + kids'.size ≤ 401 := by rw [hkk] at hsz; simp only [Fo.size] at hsz; omega
      have hlen := one_len hK hwk 2
      have h2 : (1 + kids'.size) * (1000 + 60) ≤ 401 * 1060 := Nat.mul_le_mul hs2 (by omega)
      obtain ⟨t, ht⟩ : ∃ t, t = Fo.one nm (.cons k' n' v' c' kids' .nil) 2 := ⟨_, rfl⟩
      rw [← ht] at HC hlen
      have HT := Lib.hid ht
      have htl : t.length ≤ 500000 := by omega
      rw [hw1] at e1 e2 e3 e4 e5 hbo
      simp only [Nat.zero_mul, Nat.add_zero] at e1 e2 e3 e4 e5
      clear hfo hk' en hkk hwk hlen h2 ht
      go_enter Tryd.func19, Tryd.ntmps19
      go_wp2_with fail
      rw [← hw1]
      refine HC.out.mono ?_
      rintro e w2 ⟨rfl, hb2⟩
      have HB2 := Lib.hid (HB1.out.on hb2)
      obtain ⟨S, hS⟩ : ∃ S : ByteArray, S = ⟨t.toArray⟩ := ⟨_, rfl⟩
      have hsz : S.size ≤ 500000 := by rw [hS]; show t.toArray.size ≤ _; rw [List.size_toArray]; exact htl
      have HSS := Lib.hid hS
      rw [← hS]
      clear hS hb2
      go_wp2_with fail
      go_ret
      refine ⟨?_, HB2.out⟩
      have e : (⟨#[65, 114, 114, 32]⟩ : ByteArray) ++ S = ⟨R.toArray⟩ := by
        rw [HR.out, HSS.out]
        refine (barr [65, 114, 114, 32] t).trans ?_
        rw [HKK.out, HT.out]
        congr 2
        simp [bodyT, argsT, Fo.txt, Fo.one, plK]
      rw [← e]
      rfl
    · have hk2 : kids.len = 2 ∧ (0 ≤ v ∧ v < 1048576) ∧ 0 ≤ c ∧ c ≤ 255 := by
        simp [nodeB, isB, isVarB, isMultB] at hnode
        omega
      obtain ⟨hk2, hv, hc⟩ := hk2
      have hl2 : len = 2 := HL.out.trans hk2
      subst hl2
      obtain ⟨b, o, rfl, hbo, hfo⟩ := (H.out.bel HB1.out).2.2 (by omega)
      obtain ⟨k1, n1, v1, c1, kd1, A1, q1, en1, e1, e2, e3, e4, e5, hk1⟩ := FoAt.nth kids 0 b o hfo (by omega)
      obtain ⟨k2, n2, v2, c2, kd2, A2, q2, en2, f1, f2, f3, f4, f5, hkd2⟩ := FoAt.nth kids 1 b o hfo (by omega)
      have hkk : kids = .cons k1 n1 v1 c1 kd1 (.cons k2 n2 v2 c2 kd2 .nil) := Fo.nth_ext _ _ (by rw [hk2]; rfl) fun i hi => by
        match i, hi with
        | 0, _ => exact en1
        | 1, _ => exact en2
        | i + 2, h => omega
      have HKK := Lib.hid hkk
      have HC1 := Lib.hid (fun W (hW : Bel w1 W) => HKID.out 0 k1 n1 v1 c1 kd1 A1 q1 W (by omega) en1 (hk1.bel hW) ((HB0.out.on HB1.out).on hW))
      have HC2 := Lib.hid (fun W (hW : Bel w1 W) => HKID.out 1 k2 n2 v2 c2 kd2 A2 q2 W (by omega) en2 (hkd2.bel hW) ((HB0.out.on HB1.out).on hW))
      have hwk := HWK.out
      rw [hkk] at hwk hsz
      simp only [Fo.well, Bool.and_eq_true, Fo.size] at hwk hsz
      obtain ⟨t1, ht1⟩ : ∃ t, t = Fo.one nm (.cons k1 n1 v1 c1 kd1 .nil) 0 := ⟨_, rfl⟩
      obtain ⟨t2, ht2⟩ : ∃ t, t = Fo.one nm (.cons k2 n2 v2 c2 kd2 .nil) 0 := ⟨_, rfl⟩
      have hlen1 := one_len hK (k := k1) (n := n1) (v := v1) (c := c1) (kids := kd1) (by simp [Fo.well, hwk.1, hwk.2.1]) 0
      have hlen2 := one_len hK (k := k2) (n := n2) (v := v2) (c := c2) (kids := kd2) (by simp [Fo.well, hwk.2.2.1, hwk.2.2.2.1]) 0
      have hm1 : (1 + kd1.size) * (1000 + 60) ≤ 401 * 1060 := Nat.mul_le_mul (by omega) (by omega)
      have hm2 : (1 + kd2.size) * (1000 + 60) ≤ 401 * 1060 := Nat.mul_le_mul (by omega) (by omega)
      rw [← ht1] at HC1 hlen1
      rw [← ht2] at HC2 hlen2
      have htl1 : t1.length ≤ 500000 := by omega
      have htl2 : t2.length ≤ 500000 := by omega
      have HT1 := Lib.hid ht1
      have HT2 := Lib.hid ht2
      simp only [Nat.zero_mul, Nat.add_zero, Nat.one_mul] at e1 e2 e3 e4 e5 f1 f2 f3 f4 f5
      have HE := Lib.hid (And.intro e1 (And.intro e2 (And.intro e3 (And.intro e4 e5))))
      have HF := Lib.hid (And.intro f1 (And.intro f2 (And.intro f3 (And.intro f4 f5))))
      have HRE : Hid (R = (if k1 = 7 then 40 :: (t1 ++ [41]) else t1) ++ ([32, 45] ++ muT v c ++ [62, 32]) ++ t2) := Lib.hid (by
        rw [HR.out, HKK.out, HT1.out, HT2.out]
        by_cases h7 : k1 = 7
        · simp [bodyT, funT, arrowT, Fo.txt, Fo.one, plK, plN, brkB, brkT, h7]
        · simp [bodyT, funT, arrowT, Fo.txt, Fo.one, plK, plN, brkB, brkT, h7])
      clear hfo hk1 hkd2 en1 en2 hkk hwk hlen1 hlen2 hm1 hm2 ht1 ht2 e1 e2 e3 e4 e5 f1 f2 f3 f4 f5
      have HBO := Lib.hid hbo
      have hdl : (Lib.itoa v).length ≤ 21 := Lib.itoa_length_le v (by omega) (by omega)
      have hml : (mulS c).length ≤ 21 := by unfold mulS; (repeat' split) <;> simp
      by_cases hc0 : c = 0
      · subst hc0
        by_cases h71 : k1 = 7
        · subst h71
          go_enter Tryd.func19, Tryd.ntmps19
          go_wp2_with fail
          rw [← hw1]
          refine (HD.out v w1 hv.1 hv.2).mono ?_
          rintro e w2 ⟨rfl, hb2⟩
          have HB2 := Lib.hid hb2
          obtain ⟨S1, hS1⟩ : ∃ S : ByteArray, S = ⟨(Lib.itoa v).toArray⟩ := ⟨_, rfl⟩
          have zS1 : S1.size ≤ 21 := by
            rw [hS1]
            show (Lib.itoa v).toArray.size ≤ _
            rw [List.size_toArray]
            exact hdl
          have HS1 := Lib.hid hS1
          rw [← hS1]
          clear hS1 hb2
          obtain ⟨⟨x0, x1, x2, x3, x4⟩, _⟩ := cells5 (HB2.out.blk HQ1.out)
          have hlw := (Array.getElem?_eq_some_iff.1 (HB2.out.blk HQ1.out)).1
          have hlb : b < _ := Nat.lt_of_lt_of_le HBO.out HB2.out.size
          have y0 := (HB2.out.cell (p := ⟨b, o, none⟩) HBO.out).trans HE.out.1
          have y1 := (HB2.out.cell (p := ⟨b, o + 1, none⟩) HBO.out).trans HE.out.2.1
          have y2 := (HB2.out.cell (p := ⟨b, o + 2, none⟩) HBO.out).trans HE.out.2.2.1
          have y3 := (HB2.out.cell (p := ⟨b, o + 3, none⟩) HBO.out).trans HE.out.2.2.2.1
          have y4 := (HB2.out.cell (p := ⟨b, o + 4, none⟩) HBO.out).trans HE.out.2.2.2.2
          have r0 := (HB2.out.cell (p := ⟨b, o + 5, none⟩) HBO.out).trans HF.out.1
          have r1 := (HB2.out.cell (p := ⟨b, o + 5 + 1, none⟩) HBO.out).trans HF.out.2.1
          have r2 := (HB2.out.cell (p := ⟨b, o + 5 + 2, none⟩) HBO.out).trans HF.out.2.2.1
          have r3 := (HB2.out.cell (p := ⟨b, o + 5 + 3, none⟩) HBO.out).trans HF.out.2.2.2.1
          have r4 := (HB2.out.cell (p := ⟨b, o + 5 + 4, none⟩) HBO.out).trans HF.out.2.2.2.2
          go_wp2_with fail
          clear x0 x1 x2 x3 x4 hlw hlb y0 y1 y2 y3 y4 r0 r1 r2 r3 r4
          refine (HC1.out _ HB2.out).mono ?_
          rintro e w4 ⟨rfl, hb4⟩
          have HB4 := Lib.hid (HB2.out.on hb4)
          obtain ⟨S3, hS3⟩ : ∃ S : ByteArray, S = ⟨(t1).toArray⟩ := ⟨_, rfl⟩
          have zS3 : S3.size ≤ 500000 := by
            rw [hS3]
            show (t1).toArray.size ≤ _
            rw [List.size_toArray]
            exact htl1
          have HS3 := Lib.hid hS3
          rw [← hS3]
          clear hS3 hb4
          obtain ⟨⟨x0, x1, x2, x3, x4⟩, _⟩ := cells5 (HB4.out.blk HQ1.out)
          have hlw := (Array.getElem?_eq_some_iff.1 (HB4.out.blk HQ1.out)).1
          have hlb : b < _ := Nat.lt_of_lt_of_le HBO.out HB4.out.size
          have y0 := (HB4.out.cell (p := ⟨b, o, none⟩) HBO.out).trans HE.out.1
          have y1 := (HB4.out.cell (p := ⟨b, o + 1, none⟩) HBO.out).trans HE.out.2.1
          have y2 := (HB4.out.cell (p := ⟨b, o + 2, none⟩) HBO.out).trans HE.out.2.2.1
          have y3 := (HB4.out.cell (p := ⟨b, o + 3, none⟩) HBO.out).trans HE.out.2.2.2.1
          have y4 := (HB4.out.cell (p := ⟨b, o + 4, none⟩) HBO.out).trans HE.out.2.2.2.2
          have r0 := (HB4.out.cell (p := ⟨b, o + 5, none⟩) HBO.out).trans HF.out.1
          have r1 := (HB4.out.cell (p := ⟨b, o + 5 + 1, none⟩) HBO.out).trans HF.out.2.1
          have r2 := (HB4.out.cell (p := ⟨b, o + 5 + 2, none⟩) HBO.out).trans HF.out.2.2.1
          have r3 := (HB4.out.cell (p := ⟨b, o + 5 + 3, none⟩) HBO.out).trans HF.out.2.2.2.1
          have r4 := (HB4.out.cell (p := ⟨b, o + 5 + 4, none⟩) HBO.out).trans HF.out.2.2.2.2
          go_wp2_with fail
          clear x0 x1 x2 x3 x4 hlw hlb y0 y1 y2 y3 y4 r0 r1 r2 r3 r4
          refine (HC2.out _ HB4.out).mono ?_
          rintro e w5 ⟨rfl, hb5⟩
          have HB5 := Lib.hid (HB4.out.on hb5)
          obtain ⟨S4, hS4⟩ : ∃ S : ByteArray, S = ⟨(t2).toArray⟩ := ⟨_, rfl⟩
          have zS4 : S4.size ≤ 500000 := by
            rw [hS4]
            show (t2).toArray.size ≤ _
            rw [List.size_toArray]
            exact htl2
          have HS4 := Lib.hid hS4
          rw [← hS4]
          clear hS4 hb5
          go_wp2_with fail
          go_ret
          refine ⟨?_, HB1.out.on HB5.out⟩
          have e : (⟨#[40]⟩ : ByteArray) ++ S3 ++ ⟨#[41]⟩ ++ ⟨#[32, 45]⟩ ++ (⟨#[109]⟩ ++ S1) ++ ⟨#[62, 32]⟩ ++ S4 = ⟨R.toArray⟩ := by
            rw [HRE.out, HS1.out, HS3.out, HS4.out]
            apply ByteArray.ext
            simp [muT]
          rw [← e]
          rfl
        · have d71 : (k1 == 7) = false := by simp [h71]
          go_enter Tryd.func19, Tryd.ntmps19
          go_wp2_with fail
          rw [← hw1]
          refine (HD.out v w1 hv.1 hv.2).mono ?_
          rintro e w2 ⟨rfl, hb2⟩
          have HB2 := Lib.hid hb2
          obtain ⟨S1, hS1⟩ : ∃ S : ByteArray, S = ⟨(Lib.itoa v).toArray⟩ := ⟨_, rfl⟩
          have zS1 : S1.size ≤ 21 := by
            rw [hS1]
            show (Lib.itoa v).toArray.size ≤ _
            rw [List.size_toArray]
            exact hdl
          have HS1 := Lib.hid hS1
          rw [← hS1]
          clear hS1 hb2
          obtain ⟨⟨x0, x1, x2, x3, x4⟩, _⟩ := cells5 (HB2.out.blk HQ1.out)
          have hlw := (Array.getElem?_eq_some_iff.1 (HB2.out.blk HQ1.out)).1
          have hlb : b < _ := Nat.lt_of_lt_of_le HBO.out HB2.out.size
          have y0 := (HB2.out.cell (p := ⟨b, o, none⟩) HBO.out).trans HE.out.1
          have y1 := (HB2.out.cell (p := ⟨b, o + 1, none⟩) HBO.out).trans HE.out.2.1
          have y2 := (HB2.out.cell (p := ⟨b, o + 2, none⟩) HBO.out).trans HE.out.2.2.1
          have y3 := (HB2.out.cell (p := ⟨b, o + 3, none⟩) HBO.out).trans HE.out.2.2.2.1
          have y4 := (HB2.out.cell (p := ⟨b, o + 4, none⟩) HBO.out).trans HE.out.2.2.2.2
          have r0 := (HB2.out.cell (p := ⟨b, o + 5, none⟩) HBO.out).trans HF.out.1
          have r1 := (HB2.out.cell (p := ⟨b, o + 5 + 1, none⟩) HBO.out).trans HF.out.2.1
          have r2 := (HB2.out.cell (p := ⟨b, o + 5 + 2, none⟩) HBO.out).trans HF.out.2.2.1
          have r3 := (HB2.out.cell (p := ⟨b, o + 5 + 3, none⟩) HBO.out).trans HF.out.2.2.2.1
          have r4 := (HB2.out.cell (p := ⟨b, o + 5 + 4, none⟩) HBO.out).trans HF.out.2.2.2.2
          go_wp2_with fail
          clear x0 x1 x2 x3 x4 hlw hlb y0 y1 y2 y3 y4 r0 r1 r2 r3 r4
          refine (HC1.out _ HB2.out).mono ?_
          rintro e w4 ⟨rfl, hb4⟩
          have HB4 := Lib.hid (HB2.out.on hb4)
          obtain ⟨S3, hS3⟩ : ∃ S : ByteArray, S = ⟨(t1).toArray⟩ := ⟨_, rfl⟩
          have zS3 : S3.size ≤ 500000 := by
            rw [hS3]
            show (t1).toArray.size ≤ _
            rw [List.size_toArray]
            exact htl1
          have HS3 := Lib.hid hS3
          rw [← hS3]
          clear hS3 hb4
          obtain ⟨⟨x0, x1, x2, x3, x4⟩, _⟩ := cells5 (HB4.out.blk HQ1.out)
          have hlw := (Array.getElem?_eq_some_iff.1 (HB4.out.blk HQ1.out)).1
          have hlb : b < _ := Nat.lt_of_lt_of_le HBO.out HB4.out.size
          have y0 := (HB4.out.cell (p := ⟨b, o, none⟩) HBO.out).trans HE.out.1
          have y1 := (HB4.out.cell (p := ⟨b, o + 1, none⟩) HBO.out).trans HE.out.2.1
          have y2 := (HB4.out.cell (p := ⟨b, o + 2, none⟩) HBO.out).trans HE.out.2.2.1
          have y3 := (HB4.out.cell (p := ⟨b, o + 3, none⟩) HBO.out).trans HE.out.2.2.2.1
          have y4 := (HB4.out.cell (p := ⟨b, o + 4, none⟩) HBO.out).trans HE.out.2.2.2.2
          have r0 := (HB4.out.cell (p := ⟨b, o + 5, none⟩) HBO.out).trans HF.out.1
          have r1 := (HB4.out.cell (p := ⟨b, o + 5 + 1, none⟩) HBO.out).trans HF.out.2.1
          have r2 := (HB4.out.cell (p := ⟨b, o + 5 + 2, none⟩) HBO.out).trans HF.out.2.2.1
          have r3 := (HB4.out.cell (p := ⟨b, o + 5 + 3, none⟩) HBO.out).trans HF.out.2.2.2.1
          have r4 := (HB4.out.cell (p := ⟨b, o + 5 + 4, none⟩) HBO.out).trans HF.out.2.2.2.2
          go_wp2_with fail
          clear x0 x1 x2 x3 x4 hlw hlb y0 y1 y2 y3 y4 r0 r1 r2 r3 r4
          refine (HC2.out _ HB4.out).mono ?_
          rintro e w5 ⟨rfl, hb5⟩
          have HB5 := Lib.hid (HB4.out.on hb5)
          obtain ⟨S4, hS4⟩ : ∃ S : ByteArray, S = ⟨(t2).toArray⟩ := ⟨_, rfl⟩
          have zS4 : S4.size ≤ 500000 := by
            rw [hS4]
            show (t2).toArray.size ≤ _
            rw [List.size_toArray]
            exact htl2
          have HS4 := Lib.hid hS4
          rw [← hS4]
          clear hS4 hb5
          go_wp2_with fail
          go_ret
          refine ⟨?_, HB1.out.on HB5.out⟩
          have e : S3 ++ ⟨#[32, 45]⟩ ++ (⟨#[109]⟩ ++ S1) ++ ⟨#[62, 32]⟩ ++ S4 = ⟨R.toArray⟩ := by
            rw [HRE.out, HS1.out, HS3.out, HS4.out]
            apply ByteArray.ext
            simp [muT, h71]
          rw [← e]
          rfl
      · have dc : (c != 0) = true := by simp [hc0]
        by_cases h71 : k1 = 7
        · subst h71
          go_enter Tryd.func19, Tryd.ntmps19
          go_wp2_with fail
          rw [← hw1]
          refine (HD.out v w1 hv.1 hv.2).mono ?_
          rintro e w2 ⟨rfl, hb2⟩
          have HB2 := Lib.hid hb2
          obtain ⟨S1, hS1⟩ : ∃ S : ByteArray, S = ⟨(Lib.itoa v).toArray⟩ := ⟨_, rfl⟩
          have zS1 : S1.size ≤ 21 := by
            rw [hS1]
            show (Lib.itoa v).toArray.size ≤ _
            rw [List.size_toArray]
            exact hdl
          have HS1 := Lib.hid hS1
          rw [← hS1]
          clear hS1 hb2
          obtain ⟨⟨x0, x1, x2, x3, x4⟩, _⟩ := cells5 (HB2.out.blk HQ1.out)
          have hlw := (Array.getElem?_eq_some_iff.1 (HB2.out.blk HQ1.out)).1
          have hlb : b < _ := Nat.lt_of_lt_of_le HBO.out HB2.out.size
          have y0 := (HB2.out.cell (p := ⟨b, o, none⟩) HBO.out).trans HE.out.1
          have y1 := (HB2.out.cell (p := ⟨b, o + 1, none⟩) HBO.out).trans HE.out.2.1
          have y2 := (HB2.out.cell (p := ⟨b, o + 2, none⟩) HBO.out).trans HE.out.2.2.1
          have y3 := (HB2.out.cell (p := ⟨b, o + 3, none⟩) HBO.out).trans HE.out.2.2.2.1
          have y4 := (HB2.out.cell (p := ⟨b, o + 4, none⟩) HBO.out).trans HE.out.2.2.2.2
          have r0 := (HB2.out.cell (p := ⟨b, o + 5, none⟩) HBO.out).trans HF.out.1
          have r1 := (HB2.out.cell (p := ⟨b, o + 5 + 1, none⟩) HBO.out).trans HF.out.2.1
          have r2 := (HB2.out.cell (p := ⟨b, o + 5 + 2, none⟩) HBO.out).trans HF.out.2.2.1
          have r3 := (HB2.out.cell (p := ⟨b, o + 5 + 3, none⟩) HBO.out).trans HF.out.2.2.2.1
          have r4 := (HB2.out.cell (p := ⟨b, o + 5 + 4, none⟩) HBO.out).trans HF.out.2.2.2.2
          go_wp2_with fail
          clear x0 x1 x2 x3 x4 hlw hlb y0 y1 y2 y3 y4 r0 r1 r2 r3 r4
          refine (HMM.out c _ hc.1 hc.2).mono ?_
          rintro e w3 ⟨rfl, hb3⟩
          have HB3 := Lib.hid (HB2.out.on hb3)
          obtain ⟨S2, hS2⟩ : ∃ S : ByteArray, S = ⟨(mulS c).toArray⟩ := ⟨_, rfl⟩
          have zS2 : S2.size ≤ 21 := by
            rw [hS2]
            show (mulS c).toArray.size ≤ _
            rw [List.size_toArray]
            exact hml
          have HS2 := Lib.hid hS2
          rw [← hS2]
          clear hS2 hb3
          obtain ⟨⟨x0, x1, x2, x3, x4⟩, _⟩ := cells5 (HB3.out.blk HQ1.out)
          have hlw := (Array.getElem?_eq_some_iff.1 (HB3.out.blk HQ1.out)).1
          have hlb : b < _ := Nat.lt_of_lt_of_le HBO.out HB3.out.size
          have y0 := (HB3.out.cell (p := ⟨b, o, none⟩) HBO.out).trans HE.out.1
          have y1 := (HB3.out.cell (p := ⟨b, o + 1, none⟩) HBO.out).trans HE.out.2.1
          have y2 := (HB3.out.cell (p := ⟨b, o + 2, none⟩) HBO.out).trans HE.out.2.2.1
          have y3 := (HB3.out.cell (p := ⟨b, o + 3, none⟩) HBO.out).trans HE.out.2.2.2.1
          have y4 := (HB3.out.cell (p := ⟨b, o + 4, none⟩) HBO.out).trans HE.out.2.2.2.2
          have r0 := (HB3.out.cell (p := ⟨b, o + 5, none⟩) HBO.out).trans HF.out.1
          have r1 := (HB3.out.cell (p := ⟨b, o + 5 + 1, none⟩) HBO.out).trans HF.out.2.1
          have r2 := (HB3.out.cell (p := ⟨b, o + 5 + 2, none⟩) HBO.out).trans HF.out.2.2.1
          have r3 := (HB3.out.cell (p := ⟨b, o + 5 + 3, none⟩) HBO.out).trans HF.out.2.2.2.1
          have r4 := (HB3.out.cell (p := ⟨b, o + 5 + 4, none⟩) HBO.out).trans HF.out.2.2.2.2
          go_wp2_with fail
          clear x0 x1 x2 x3 x4 hlw hlb y0 y1 y2 y3 y4 r0 r1 r2 r3 r4
          refine (HC1.out _ HB3.out).mono ?_
          rintro e w4 ⟨rfl, hb4⟩
          have HB4 := Lib.hid (HB3.out.on hb4)
          obtain ⟨S3, hS3⟩ : ∃ S : ByteArray, S = ⟨(t1).toArray⟩ := ⟨_, rfl⟩
          have zS3 : S3.size ≤ 500000 := by
            rw [hS3]
            show (t1).toArray.size ≤ _
            rw [List.size_toArray]
            exact htl1
          have HS3 := Lib.hid hS3
          rw [← hS3]
          clear hS3 hb4
          obtain ⟨⟨x0, x1, x2, x3, x4⟩, _⟩ := cells5 (HB4.out.blk HQ1.out)
          have hlw := (Array.getElem?_eq_some_iff.1 (HB4.out.blk HQ1.out)).1
          have hlb : b < _ := Nat.lt_of_lt_of_le HBO.out HB4.out.size
          have y0 := (HB4.out.cell (p := ⟨b, o, none⟩) HBO.out).trans HE.out.1
          have y1 := (HB4.out.cell (p := ⟨b, o + 1, none⟩) HBO.out).trans HE.out.2.1
          have y2 := (HB4.out.cell (p := ⟨b, o + 2, none⟩) HBO.out).trans HE.out.2.2.1
          have y3 := (HB4.out.cell (p := ⟨b, o + 3, none⟩) HBO.out).trans HE.out.2.2.2.1
          have y4 := (HB4.out.cell (p := ⟨b, o + 4, none⟩) HBO.out).trans HE.out.2.2.2.2
          have r0 := (HB4.out.cell (p := ⟨b, o + 5, none⟩) HBO.out).trans HF.out.1
          have r1 := (HB4.out.cell (p := ⟨b, o + 5 + 1, none⟩) HBO.out).trans HF.out.2.1
          have r2 := (HB4.out.cell (p := ⟨b, o + 5 + 2, none⟩) HBO.out).trans HF.out.2.2.1
          have r3 := (HB4.out.cell (p := ⟨b, o + 5 + 3, none⟩) HBO.out).trans HF.out.2.2.2.1
          have r4 := (HB4.out.cell (p := ⟨b, o + 5 + 4, none⟩) HBO.out).trans HF.out.2.2.2.2
          go_wp2_with fail
          clear x0 x1 x2 x3 x4 hlw hlb y0 y1 y2 y3 y4 r0 r1 r2 r3 r4
          refine (HC2.out _ HB4.out).mono ?_
          rintro e w5 ⟨rfl, hb5⟩
          have HB5 := Lib.hid (HB4.out.on hb5)
          obtain ⟨S4, hS4⟩ : ∃ S : ByteArray, S = ⟨(t2).toArray⟩ := ⟨_, rfl⟩
          have zS4 : S4.size ≤ 500000 := by
            rw [hS4]
            show (t2).toArray.size ≤ _
            rw [List.size_toArray]
            exact htl2
          have HS4 := Lib.hid hS4
          rw [← hS4]
          clear hS4 hb5
          go_wp2_with fail
          go_ret
          refine ⟨?_, HB1.out.on HB5.out⟩
          have e : (⟨#[40]⟩ : ByteArray) ++ S3 ++ ⟨#[41]⟩ ++ ⟨#[32, 45]⟩ ++ S2 ++ ⟨#[62, 32]⟩ ++ S4 = ⟨R.toArray⟩ := by
            rw [HRE.out, HS3.out, HS4.out, HS2.out]
            apply ByteArray.ext
            simp [muT, hc0]
          rw [← e]
          rfl
        · have d71 : (k1 == 7) = false := by simp [h71]
          go_enter Tryd.func19, Tryd.ntmps19
          go_wp2_with fail
          rw [← hw1]
          refine (HD.out v w1 hv.1 hv.2).mono ?_
          rintro e w2 ⟨rfl, hb2⟩
          have HB2 := Lib.hid hb2
          obtain ⟨S1, hS1⟩ : ∃ S : ByteArray, S = ⟨(Lib.itoa v).toArray⟩ := ⟨_, rfl⟩
          have zS1 : S1.size ≤ 21 := by
            rw [hS1]
            show (Lib.itoa v).toArray.size ≤ _
            rw [List.size_toArray]
            exact hdl
          have HS1 := Lib.hid hS1
          rw [← hS1]
          clear hS1 hb2
          obtain ⟨⟨x0, x1, x2, x3, x4⟩, _⟩ := cells5 (HB2.out.blk HQ1.out)
          have hlw := (Array.getElem?_eq_some_iff.1 (HB2.out.blk HQ1.out)).1
          have hlb : b < _ := Nat.lt_of_lt_of_le HBO.out HB2.out.size
          have y0 := (HB2.out.cell (p := ⟨b, o, none⟩) HBO.out).trans HE.out.1
          have y1 := (HB2.out.cell (p := ⟨b, o + 1, none⟩) HBO.out).trans HE.out.2.1
          have y2 := (HB2.out.cell (p := ⟨b, o + 2, none⟩) HBO.out).trans HE.out.2.2.1
          have y3 := (HB2.out.cell (p := ⟨b, o + 3, none⟩) HBO.out).trans HE.out.2.2.2.1
          have y4 := (HB2.out.cell (p := ⟨b, o + 4, none⟩) HBO.out).trans HE.out.2.2.2.2
          have r0 := (HB2.out.cell (p := ⟨b, o + 5, none⟩) HBO.out).trans HF.out.1
          have r1 := (HB2.out.cell (p := ⟨b, o + 5 + 1, none⟩) HBO.out).trans HF.out.2.1
          have r2 := (HB2.out.cell (p := ⟨b, o + 5 + 2, none⟩) HBO.out).trans HF.out.2.2.1
          have r3 := (HB2.out.cell (p := ⟨b, o + 5 + 3, none⟩) HBO.out).trans HF.out.2.2.2.1
          have r4 := (HB2.out.cell (p := ⟨b, o + 5 + 4, none⟩) HBO.out).trans HF.out.2.2.2.2
          go_wp2_with fail
          clear x0 x1 x2 x3 x4 hlw hlb y0 y1 y2 y3 y4 r0 r1 r2 r3 r4
          refine (HMM.out c _ hc.1 hc.2).mono ?_
          rintro e w3 ⟨rfl, hb3⟩
          have HB3 := Lib.hid (HB2.out.on hb3)
          obtain ⟨S2, hS2⟩ : ∃ S : ByteArray, S = ⟨(mulS c).toArray⟩ := ⟨_, rfl⟩
          have zS2 : S2.size ≤ 21 := by
            rw [hS2]
            show (mulS c).toArray.size ≤ _
            rw [List.size_toArray]
            exact hml
          have HS2 := Lib.hid hS2
          rw [← hS2]
          clear hS2 hb3
          obtain ⟨⟨x0, x1, x2, x3, x4⟩, _⟩ := cells5 (HB3.out.blk HQ1.out)
          have hlw := (Array.getElem?_eq_some_iff.1 (HB3.out.blk HQ1.out)).1
          have hlb : b < _ := Nat.lt_of_lt_of_le HBO.out HB3.out.size
          have y0 := (HB3.out.cell (p := ⟨b, o, none⟩) HBO.out).trans HE.out.1
          have y1 := (HB3.out.cell (p := ⟨b, o + 1, none⟩) HBO.out).trans HE.out.2.1
          have y2 := (HB3.out.cell (p := ⟨b, o + 2, none⟩) HBO.out).trans HE.out.2.2.1
          have y3 := (HB3.out.cell (p := ⟨b, o + 3, none⟩) HBO.out).trans HE.out.2.2.2.1
          have y4 := (HB3.out.cell (p := ⟨b, o + 4, none⟩) HBO.out).trans HE.out.2.2.2.2
          have r0 := (HB3.out.cell (p := ⟨b, o + 5, none⟩) HBO.out).trans HF.out.1
          have r1 := (HB3.out.cell (p := ⟨b, o + 5 + 1, none⟩) HBO.out).trans HF.out.2.1
          have r2 := (HB3.out.cell (p := ⟨b, o + 5 + 2, none⟩) HBO.out).trans HF.out.2.2.1
          have r3 := (HB3.out.cell (p := ⟨b, o + 5 + 3, none⟩) HBO.out).trans HF.out.2.2.2.1
          have r4 := (HB3.out.cell (p := ⟨b, o + 5 + 4, none⟩) HBO.out).trans HF.out.2.2.2.2
          go_wp2_with fail
          clear x0 x1 x2 x3 x4 hlw hlb y0 y1 y2 y3 y4 r0 r1 r2 r3 r4
          refine (HC1.out _ HB3.out).mono ?_
          rintro e w4 ⟨rfl, hb4⟩
          have HB4 := Lib.hid (HB3.out.on hb4)
          obtain ⟨S3, hS3⟩ : ∃ S : ByteArray, S = ⟨(t1).toArray⟩ := ⟨_, rfl⟩
          have zS3 : S3.size ≤ 500000 := by
            rw [hS3]
            show (t1).toArray.size ≤ _
            rw [List.size_toArray]
            exact htl1
          have HS3 := Lib.hid hS3
          rw [← hS3]
          clear hS3 hb4
          obtain ⟨⟨x0, x1, x2, x3, x4⟩, _⟩ := cells5 (HB4.out.blk HQ1.out)
          have hlw := (Array.getElem?_eq_some_iff.1 (HB4.out.blk HQ1.out)).1
          have hlb : b < _ := Nat.lt_of_lt_of_le HBO.out HB4.out.size
          have y0 := (HB4.out.cell (p := ⟨b, o, none⟩) HBO.out).trans HE.out.1
          have y1 := (HB4.out.cell (p := ⟨b, o + 1, none⟩) HBO.out).trans HE.out.2.1
          have y2 := (HB4.out.cell (p := ⟨b, o + 2, none⟩) HBO.out).trans HE.out.2.2.1
          have y3 := (HB4.out.cell (p := ⟨b, o + 3, none⟩) HBO.out).trans HE.out.2.2.2.1
          have y4 := (HB4.out.cell (p := ⟨b, o + 4, none⟩) HBO.out).trans HE.out.2.2.2.2
          have r0 := (HB4.out.cell (p := ⟨b, o + 5, none⟩) HBO.out).trans HF.out.1
          have r1 := (HB4.out.cell (p := ⟨b, o + 5 + 1, none⟩) HBO.out).trans HF.out.2.1
          have r2 := (HB4.out.cell (p := ⟨b, o + 5 + 2, none⟩) HBO.out).trans HF.out.2.2.1
          have r3 := (HB4.out.cell (p := ⟨b, o + 5 + 3, none⟩) HBO.out).trans HF.out.2.2.2.1
          have r4 := (HB4.out.cell (p := ⟨b, o + 5 + 4, none⟩) HBO.out).trans HF.out.2.2.2.2
          go_wp2_with fail
          clear x0 x1 x2 x3 x4 hlw hlb y0 y1 y2 y3 y4 r0 r1 r2 r3 r4
          refine (HC2.out _ HB4.out).mono ?_
          rintro e w5 ⟨rfl, hb5⟩
          have HB5 := Lib.hid (HB4.out.on hb5)
          obtain ⟨S4, hS4⟩ : ∃ S : ByteArray, S = ⟨(t2).toArray⟩ := ⟨_, rfl⟩
          have zS4 : S4.size ≤ 500000 := by
            rw [hS4]
            show (t2).toArray.size ≤ _
            rw [List.size_toArray]
            exact htl2
          have HS4 := Lib.hid hS4
          rw [← hS4]
          clear hS4 hb5
          go_wp2_with fail
          go_ret
          refine ⟨?_, HB1.out.on HB5.out⟩
          have e : S3 ++ ⟨#[32, 45]⟩ ++ S2 ++ ⟨#[62, 32]⟩ ++ S4 = ⟨R.toArray⟩ := by
            rw [HRE.out, HS3.out, HS4.out, HS2.out]
            apply ByteArray.ext
            simp [muT, h71, hc0]
          rw [← e]
          rfl
    · have hn : 0 ≤ n ∧ n < 1048576 := by simp [nodeB] at hnode; omega
      have hl4 : len ≤ 4 := by have h1 := HL.out; simp [nodeB] at hnode; omega
      have hdl : (Lib.itoa n).length ≤ 21 := Lib.itoa_length_le n (by omega) (by omega)
      obtain ⟨T0, hT0⟩ : ∃ T, Hid (T = nameT nm n) := ⟨_, Lib.hid rfl⟩
      have HRE : Hid (R = T0 ++ argsT (Fo.txt nm kids 2)) := Lib.hid (by rw [HR.out, hT0.out]; simp [bodyT, plK])
      go_enter Tryd.func19, Tryd.ntmps19
      go_wp2_with fail
      rw [← hw1]
      refine (HD.out n w1 hn.1 hn.2).mono ?_
      rintro e w2 ⟨rfl, hb2⟩
      have HB2 := Lib.hid hb2
      obtain ⟨S1, hS1⟩ : ∃ S : ByteArray, S = ⟨(Lib.itoa n).toArray⟩ := ⟨_, rfl⟩
      have zS1 : S1.size ≤ 21 := by
        rw [hS1]
        show (Lib.itoa n).toArray.size ≤ _
        rw [List.size_toArray]
        exact hdl
      have HS1 := Lib.hid hS1
      rw [← hS1]
      clear hS1 hb2
      obtain ⟨⟨x0, x1, x2, x3, x4⟩, _⟩ := cells5 (HB2.out.blk HQ1.out)
      have hlw := (Array.getElem?_eq_some_iff.1 (HB2.out.blk HQ1.out)).1
      obtain ⟨S0, HS0, hz0⟩ : ∃ S : ByteArray, Hid (S = ⟨T0.toArray⟩) ∧ S.size ≤ 1000 := by
        refine ⟨_, Lib.hid rfl, ?_⟩
        show T0.toArray.size ≤ _
        rw [List.size_toArray, hT0.out]
        unfold nameT
        cases e : nm[n.toNat]? with
        | none => simp only [List.length_cons]; omega
        | some x => exact hK x (List.mem_of_getElem? e)
      by_cases hlt : n < (nn : Int)
      case' pos =>
        have hnn := HNM.out.1
        obtain ⟨i, rfl⟩ : ∃ i : Nat, n = i := ⟨n.toNat, by omega⟩
        obtain ⟨nb, no, rfl, hnb, hnc⟩ := HNM.out.2 (by omega)
        obtain ⟨t, ht⟩ : ∃ t, nm[i]? = some t := ⟨_, List.getElem?_eq_getElem (by omega)⟩
        have g0 := (((HB0.out.on HB1.out).on HB2.out).cell (p := ⟨nb, no + i, none⟩) hnb).trans (hnc i t ht)
        have hgl : nb < w2.heap.size := Nat.lt_of_lt_of_le hnb ((HB0.out.on HB1.out).on HB2.out).size
        have hst : (⟨t.toArray⟩ : ByteArray) = S0 := by rw [HS0.out, hT0.out]; simp [nameT, ht]
        rw [hst] at g0
        have d1 : decide ((i : Int) < (nn : Int)) = true := by rw [decide_eq_true_eq]; exact hlt
        have i1 : (0 : Int) ≤ (i : Int) := by omega
        have dl2 : decide (i < nn) = true := by simp; omega
        clear hnc ht hst hnn
      case' neg =>
        have d1 : decide (n < (nn : Int)) = false := by rw [decide_eq_false_iff_not]; exact hlt
        have hst : (⟨#[35]⟩ : ByteArray) ++ S1 = S0 := by
          rw [HS0.out, HS1.out, hT0.out]
          have e : nm[n.toNat]? = none := List.getElem?_eq_none (by have hnn := HNM.out.1; omega)
          simp only [nameT, e]
          exact barr [35] (Lib.itoa n)
        have HST := Lib.hid hst
        clear hst
      all_goals
        go_wp2_with fail
        try rw [HST.out]
        clear x0 x1 x2 x3 x4 hlw
        go_loopw [7, 8] (fun sv iv wr => ∃ (j : Nat) (S : ByteArray), j ≤ len ∧ iv = .int .i64 (j : Int) ∧ sv = .string S ∧ S.size ≤ 2000 + j * 500010 ∧ Hid (S = ⟨(T0 ++ argsT ((Fo.txt nm kids 2).take j)).toArray⟩) ∧ Hid (Bel w1 wr)) (fun _ iv _ => len - (intOf iv).toNat)
        case atStart => exact ⟨0, S0, Nat.zero_le _, rfl, rfl, by omega, Lib.hid (by rw [HS0.out]; simp [argsT]), HB2⟩
        case round =>
          obtain ⟨j, S, hj, rfl, rfl, hz, HSJ, HB⟩ := hrel
          have hbw := HB.out.blk HQ1.out
          obtain ⟨⟨x0, x1, x2, x3, x4⟩, _⟩ := cells5 hbw
          have hlw := (Array.getElem?_eq_some_iff.1 hbw).1
          clear hbw
          by_cases hlj : j < len
          · obtain ⟨b, o, rfl, hbo, hfo⟩ := (H.out.bel (HB1.out.on HB.out)).2.2 (by omega)
            obtain ⟨k', n', v', c', kids', A', cap', en, e1, e2, e3, e4, e5, hk'⟩ := FoAt.nth kids j b o hfo (by rw [← HL.out]; exact hlj)
            have HC := Lib.hid (HATOM.out j k' n' v' c' kids' A' cap' wr hlj en hk' ((HB0.out.on HB1.out).on HB.out))
            have hwk : (Fo.cons k' n' v' c' kids' .nil).well = true := by rw [← en]; exact well_nth kids j HWK.out
            have hsn := Fo.nth_size kids j
            rw [en] at hsn
            simp only [Fo.size] at hsn
            have hlen := one_len hK hwk 2
            have h2 : (1 + kids'.size) * (1000 + 60) ≤ 401 * 1060 := Nat.mul_le_mul (by omega) (by omega)
            obtain ⟨t, ht⟩ : ∃ t, t = Fo.one nm (.cons k' n' v' c' kids' .nil) 2 := ⟨_, rfl⟩
            rw [← ht] at HC hlen
            have HTJ : Hid ((Fo.txt nm kids 2)[j]? = some t) := Lib.hid (by rw [txt_at nm kids j (by rw [← HL.out]; exact hlj), en, ht])
            have htl : t.length ≤ 500000 := by omega
            have i1 : (0 : Int) ≤ (j : Int) := by omega
            have i2 : (j : Int) < (len : Int) := by omega
            have hz2 : S.size ≤ 3000000 := by have : j * 500010 ≤ 4 * 500010 := Nat.mul_le_mul (by omega) (Nat.le_refl _); omega
            have HZ := Lib.hid hz
            have HJL := Lib.hid (And.intro hlj hl4)
            clear hfo en hk' hwk hsn hlen h2 ht hz
            go_wp2_with fail
            refine HC.out.mono ?_
            rintro e w5 ⟨rfl, hb5⟩
            have HB5 := Lib.hid (HB.out.on hb5)
            obtain ⟨S4, hS4⟩ : ∃ S : ByteArray, S = ⟨t.toArray⟩ := ⟨_, rfl⟩
            have zS4 : S4.size ≤ 500000 := by
              rw [hS4]
              show t.toArray.size ≤ _
              rw [List.size_toArray]
              exact htl
            have HS4 := Lib.hid hS4
            rw [← hS4]
            clear hS4 hb5 x0 x1 x2 x3 x4 hlw e1 e2 e3 e4 e5 i1 i2
            go_wp2_with fail
            go_roundw
            case rel =>
              refine ⟨j + 1, _, by omega, by go_num, rfl, ?_, Lib.hid ?_, HB5⟩
              · simp only [ByteArray.size_append]
                have : (⟨#[32]⟩ : ByteArray).size = 1 := rfl
                have hz := HZ.out
                omega
              · rw [take_snoc_ HTJ.out, argsT_snoc, HSJ.out, HS4.out]
                apply ByteArray.ext
                simp
            case measure => simp [intOf]; omega
          · have hje : j = len := by omega
            go_wp2_with fail
            go_ret
            refine ⟨?_, HB1.out.on HB.out⟩
            have e : S = ⟨R.toArray⟩ := by
              rw [HSJ.out, HRE.out, List.take_of_length_le (by rw [Fo.txt_len, hje, HL.out]; exact Nat.le_refl _)]
            rw [← e]
            rfl
end Go.Proofs.YtblgligagngpfaaDoor.Mu
namespace Go.Proofs.YtblgligagngpfaaDoor.Mu
open Go.ChangeShapes Go.WideShapes Go.ChangeAt Go.RowKit

theorem ret_str {a b : ByteArray} (h : a = b) : Ending.returned (.string a) = .returned (.string b) := by rw [h]
def digS (k : Nat) : ByteArray := ⟨(Lib.decDigits k).toArray⟩
theorem digit_any (n : Int) (h0 : 0 ≤ n) (h9 : n < 10) (w : World) : Calls Tryd.prog 46 #[.int .i64 n] w fun e w' => e = .returned (.string (digS n.toNat)) ∧ w = w' := by
  have h : n = 0 ∨ n = 1 ∨ n = 2 ∨ n = 3 ∨ n = 4 ∨ n = 5 ∨ n = 6 ∨ n = 7 ∨ n = 8 ∨ n = 9 := by omega
  clear h0 h9
  rcases h with rfl | rfl | rfl | rfl | rfl | rfl | rfl | rfl | rfl | rfl
  all_goals
    go_enter Tryd.func46, Tryd.ntmps46
    go_wp2_with fail
    go_ret
    exact ⟨ret_str (by decide +kernel), rfl⟩
theorem digits_any (k : Nat) : ∀ (n : Int) (w : World), n.toNat ≤ k → 0 ≤ n → n < 1048576 → Calls Tryd.prog 46 #[.int .i64 n] w fun e w' => e = .returned (.string (digS n.toNat)) ∧ w = w' := by
  induction k with
  | zero =>
    intro n w hk h0 h1
    exact digit_any n h0 (by omega) w
  | succ k ih =>
    intro n w hk h0 h1
    by_cases h10 : n < 10
    · exact digit_any n h0 h10 w
    · have E : Hid (digS n.toNat = digS (n / 10).toNat ++ digS (n % 10).toNat) := Lib.hid (by
        unfold digS
        have e1 : (n / 10).toNat = n.toNat / 10 := by omega
        have e2 : (n % 10).toNat = n.toNat % 10 := by omega
        rw [e1, e2]
        apply ByteArray.ext
        rw [Lib.decDigits, dif_neg (show ¬ n.toNat < 10 by omega)]
        have : Lib.decDigits (n.toNat % 10) = [UInt8.ofNat (48 + n.toNat % 10)] := by rw [Lib.decDigits, dif_pos (Nat.mod_lt _ (by omega))]
        rw [this]; simp)
      have hl1 : (digS (n / 10).toNat).size ≤ 21 := by
        have h := Lib.itoa_length_le (n / 10) (by omega) (by omega)
        rw [itoa_dec (by omega)] at h
        show (Lib.decDigits _).toArray.size ≤ 21
        rw [List.size_toArray]; exact h
      have hl2 : (digS (n % 10).toNat).size ≤ 21 := by
        have h := Lib.itoa_length_le (n % 10) (by omega) (by omega)
        rw [itoa_dec (by omega)] at h
        show (Lib.decDigits _).toArray.size ≤ 21
        rw [List.size_toArray]; exact h
      go_enter Tryd.func46, Tryd.ntmps46
      go_wp2_with fail
      refine (ih (n / 10) _ (by omega) (by omega) (by omega)).mono ?_
      rintro e w' ⟨rfl, rfl⟩
      go_wp2_with fail
      refine (digit_any (n % 10) (by omega) (by omega) _).mono ?_
      rintro e w' ⟨rfl, rfl⟩
      go_wp2_with fail
      go_ret
      exact ⟨by rw [E.out]; rfl, rfl⟩
theorem rdig_any (n : Int) (h0 : 0 ≤ n) (h1 : n < 1048576) (w : World) : Calls Tryd.prog 46 #[.int .i64 n] w fun e w' => e = .returned (.string (digS n.toNat)) ∧ w = w' := digits_any n.toNat n w (Nat.le_refl _) h0 h1

theorem of_ref (m : Int) (h0 : 0 ≤ m) (h1 : m ≤ 255) (w : World) : Calls Tryd.prog 63 #[.int .u8 m] w fun e w' => e = .returned (.int .u8 (knownF m)) ∧ w = w' := by
  by_cases c0 : m = 0
  · subst c0
    go_enter Tryd.func63, Tryd.ntmps63
    go_wp2
    go_ret
    exact ⟨rfl, rfl⟩
  by_cases c1 : m = 1
  · subst c1
    go_enter Tryd.func63, Tryd.ntmps63
    go_wp2
    go_ret
    exact ⟨rfl, rfl⟩
  by_cases c2 : m = 2
  · subst c2
    go_enter Tryd.func63, Tryd.ntmps63
    go_wp2
    go_ret
    exact ⟨rfl, rfl⟩
  have e0 : (m == 0) = false := by simpa using c0
  have e1 : (m == 1) = false := by simpa using c1
  have e2 : (m == 2) = false := by simpa using c2
  have e : knownF m = 3 := by unfold knownF; rw [if_neg (by omega), if_neg (by omega)]
  have E := Lib.hid e
  clear e c0 c1 c2
  go_enter Tryd.func63, Tryd.ntmps63
  go_wp2
  go_ret
  exact ⟨by rw [E.out]; rfl, rfl⟩

theorem text_ref (m : Int) (h0 : 0 ≤ m) (h1 : m ≤ 255) (w : World) : Calls Tryd.prog 48 #[.int .u8 m] w fun e w' => e = .returned (.string (textS m)) ∧ w = w' := by
  obtain ⟨r, e⟩ : ∃ r, textS m = r := ⟨_, rfl⟩
  have E := Lib.hid e
  rcases cm_cases m with y | y | y
  all_goals
    simp only [textS, y] at e
    have E2 := Lib.hid e
    clear e
    go_enter Tryd.func48, Tryd.ntmps48
    go_wp2_with (first | (go_at_call 63; refine (of_ref _ (by omega) (by omega) _).mono ?_; rintro e w' ⟨rfl, rfl⟩))
    go_ret
    exact ⟨by rw [E.out, ← E2.out]; rfl, rfl⟩
theorem rdigP_any (x : Int) (W : World) (h0 : 0 ≤ x) (h1 : x < 1048576) : Calls Tryd.prog 46 #[.int .i64 x] W (StrP (Lib.itoa x) W) :=
  (rdig_any x h0 h1 W).mono fun e w' h => ⟨by rw [h.1, itoa_dec h0]; rfl, by rw [← h.2]; exact Bel.refl _⟩
theorem textS_mul (x : Int) : textS x = ⟨(mulS x).toArray⟩ := by
  unfold textS mulS
  rcases cm_cases x with y | y | y <;> simp [y]
theorem rmulP_any (x : Int) (W : World) (h0 : 0 ≤ x) (h1 : x ≤ 255) : Calls Tryd.prog 48 #[.int .u8 x] W (StrP (mulS x) W) :=
  (text_ref x h0 h1 W).mono fun e w' h => ⟨by rw [h.1, textS_mul x], by rw [← h.2]; exact Bel.refl _⟩
end Go.Proofs.YtblgligagngpfaaDoor.Mu

