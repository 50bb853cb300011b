/-
  The document's One: the code point whose bytes stand at a place, or none.
-/
import Derived.Test.YtaiogbokmglofaaUtfB
import Derived.Test.YtaiogbokmglofaaAbv
import Derived.Lib.Strings
import Derived.Laws.DeepStrings4
namespace Go.Proofs.Ytaiogbokmglofaa.Mu
open Go.RowKit Go.Shelf

/-- What One answers: a code point whose bytes stand there; -1 where none's do. -/
def OneP (s : ByteArray) (i : Nat) (w : World) (e : Ending) (w' : World) : Prop :=
  ∃ n : Int, e = .returned (.int .i64 n) ∧ Bel w w' ∧ ((cpB n = true ∧ enc n <+: s.data.toList.drop i) ∨ (n = -1 ∧ ∀ c, cpB c = true → ¬ enc c <+: s.data.toList.drop i))
/-- What the bytes of a code point of a width come to, reckoned back. -/
def backN (s : ByteArray) (i : Nat) : Nat → Int
  | 1 => (s.get! i).toNat
  | 2 => ((s.get! i).toNat - 192 : Int) * 64 + (s.get! (i + 1)).toNat - 128
  | 3 => (((s.get! i).toNat - 224 : Int) * 64 + (s.get! (i + 1)).toNat - 128) * 64 + (s.get! (i + 2)).toNat - 128
  | _ => ((((s.get! i).toNat - 240 : Int) * 64 + (s.get! (i + 1)).toNat - 128) * 64 + (s.get! (i + 2)).toNat - 128) * 64 + (s.get! (i + 3)).toNat - 128
theorem backN_enc {s : ByteArray} {i : Nat} {c : Int} (hc : cpB c = true) (h : enc c <+: s.data.toList.drop i) : backN s i (wid c) = c := by
  have hb := (cpB_iff c).1 hc
  have G := fun j u hj => get_drop h (j := j) (u := u) hj
  unfold wid
  split
  · rw [enc1 (by omega) (by omega)] at G
    obtain ⟨_, g0⟩ := G 0 _ rfl
    have e0 : (s.get! i).toNat = c.toNat := by rw [Nat.add_zero] at g0; rw [g0]; simp; omega
    simp only [backN, e0]; omega
  split
  · rw [enc2 (by omega) (by omega)] at G
    obtain ⟨_, g0⟩ := G 0 _ rfl
    obtain ⟨_, g1⟩ := G 1 _ rfl
    have e0 : (s.get! i).toNat = 192 + c.toNat / 64 := by rw [Nat.add_zero] at g0; rw [g0]; simp; omega
    have e1 : (s.get! (i + 1)).toNat = 128 + c.toNat % 64 := by rw [g1]; simp; omega
    simp only [backN, e0, e1]; omega
  split
  · rw [enc3 hc (by omega) (by omega)] at G
    obtain ⟨_, g0⟩ := G 0 _ rfl
    obtain ⟨_, g1⟩ := G 1 _ rfl
    obtain ⟨_, g2⟩ := G 2 _ rfl
    have e0 : (s.get! i).toNat = 224 + c.toNat / 4096 := by rw [Nat.add_zero] at g0; rw [g0]; simp; omega
    have e1 : (s.get! (i + 1)).toNat = 128 + c.toNat / 64 % 64 := by rw [g1]; simp; omega
    have e2 : (s.get! (i + 2)).toNat = 128 + c.toNat % 64 := by rw [g2]; simp; omega
    simp only [backN, e0, e1, e2]; omega
  · rw [enc4 hc (by omega)] at G
    obtain ⟨_, g0⟩ := G 0 _ rfl
    obtain ⟨_, g1⟩ := G 1 _ rfl
    obtain ⟨_, g2⟩ := G 2 _ rfl
    obtain ⟨_, g3⟩ := G 3 _ rfl
    have e0 : (s.get! i).toNat = 240 + c.toNat / 262144 := by rw [Nat.add_zero] at g0; rw [g0]; simp; omega
    have e1 : (s.get! (i + 1)).toNat = 128 + c.toNat / 4096 % 64 := by rw [g1]; simp; omega
    have e2 : (s.get! (i + 2)).toNat = 128 + c.toNat / 64 % 64 := by rw [g2]; simp; omega
    have e3 : (s.get! (i + 3)).toNat = 128 + c.toNat % 64 := by rw [g3]; simp; omega
    simp only [backN, e0, e1, e2, e3]; omega
/-- Whether the bytes from a place on, so many, are a code point's. -/
theorem pre_ext {s : ByteArray} {i k : Nat} {c : Int} (hk : i + k ≤ s.size) : ((Utf8.encode c).toList == (s.extract i (i + k)).toList) = true ↔ (enc c).length = k ∧ enc c <+: s.data.toList.drop i := by
  have e1 : (s.extract i (i + k)).toList = (s.data.toList.drop i).take k := by
    rw [Lib.extract_toList, show i + k - i = k by omega]
  have e2 : ((s.data.toList.drop i).take k).length = k := by
    rw [List.length_take, List.length_drop, Array.length_toList]
    have : s.data.size = s.size := rfl
    omega
  rw [e1, ByteArray.toList_eq, beq_iff_eq]
  constructor
  · intro h
    have h' : enc c = (s.data.toList.drop i).take k := h
    exact ⟨by rw [h', e2], by rw [h']; exact List.take_prefix _ _⟩
  · rintro ⟨h1, r, h2⟩
    show enc c = _
    rw [← h2, ← h1]; simp
theorem rmay9_yes {c : Int} (h : cpB c = true) (w : World) : Calls Try.prog 20 #[.int .i64 c] w fun e w' => e = .returned (.bool true) ∧ w = w' :=
  (rmay9_any c w).mono fun _ _ k => ⟨by rw [k.1, h], k.2⟩
theorem rmay9_no {c : Int} (h : cpB c = false) (w : World) : Calls Try.prog 20 #[.int .i64 c] w fun e w' => e = .returned (.bool false) ∧ w = w' :=
  (rmay9_any c w).mono fun _ _ k => ⟨by rw [k.1, h], k.2⟩
/-- Where a code point's bytes stand there is room for them. -/
theorem enc_fits {s : ByteArray} {i : Nat} {c : Int} (hc : cpB c = true) (h : enc c <+: s.data.toList.drop i) : i + wid c ≤ s.size := by
  have h1 := enc_len hc
  have h2 := wid_pos c
  have h3 : (enc c)[wid c - 1]? = some ((enc c)[wid c - 1]'(by omega)) := List.getElem?_eq_getElem (by omega)
  have := (get_drop h h3).1
  omega
theorem ext_run {s : ByteArray} {i k : Nat} (hk : i + k ≤ s.size) {j : Int} (hj : j = (i : Int) + (k : Nat)) (W : World) : (Instr.slice 9 (.string s) (some (.int .i64 (i : Int))) (some (.int .i64 j)) none).run Try.prog W = .ok (.string (s.extract i (i + k))) W := by
  rw [run_slice_string_if (h := Try.underlying9), if_pos (by omega), if_pos (by omega), show (i : Int).toNat = i by omega, show j.toNat = i + k by omega]
set_option maxRecDepth 100000 in
set_option maxHeartbeats 4000000 in
theorem rone_any {s : ByteArray} {i : Nat} (hi : i < s.size) (hs : s.size ≤ 1000000) (w : World) :
    Calls Try.prog 16 #[.string s, .int .i64 i] w (OneP s i w) := by
  go_enter Try.func16, Try.ntmps16
  go_wp2
  go_loopw [5] (fun v wr => ∃ k : Nat, 1 ≤ k ∧ k ≤ 5 ∧ v = .int .i64 k ∧ Hid (Bel w wr) ∧ Hid (∀ c, cpB c = true → enc c <+: s.data.toList.drop i → k ≤ wid c)) (fun v _ => 5 - (intOf v).toNat)
  case atStart => exact ⟨1, by omega, by omega, rfl, Bel.refl w, fun c _ _ => (wid_pos c).1⟩
  case round =>
    obtain ⟨k, hk1, hk5, rfl, HB, HN⟩ := hrel
    obtain rfl | rfl | rfl | rfl | rfl : k = 1 ∨ k = 2 ∨ k = 3 ∨ k = 4 ∨ k = 5 := by omega
    · -- 1
      have hsz : (i : Int) + 1 ≤ (s.size : Int) := by omega
      have hx0 : ((s[i]'hi).toNat : Int) ≤ 255 := by have := (s[i]'hi).toNat_lt; omega
      go_wp2
      refine wp_loop_rounds 2 ?_; rw [rounds_succ]
      go_wp2_with (rw [rounds_succ])
      have hN : ((s[i]'hi).toNat : Int) = backN s i 1 := by
        have q0 : s.get! i = s[i]'hi := get_at s i hi
        simp only [backN, q0]
      rw [hN]
      obtain ⟨n, hn⟩ : ∃ n, n = backN s i 1 := ⟨_, rfl⟩
      rw [← hn]
      have hsl : ∀ W : World, (Instr.slice 9 (.string s) (some (.int .i64 (i : Int))) (some (.int .i64 ((i : Int) + 1))) none).run Try.prog W = .ok (.string (s.extract i (i + 1))) W := fun W => ext_run (k := 1) (by omega) (by omega) W
      have HQ := Lib.hid hn
      clear hN hn hx0
      have hk : i + 1 ≤ s.size := by omega
      have HPE := Lib.hid (@pre_ext s i 1 n hk)
      have HW : Hid (∀ c, cpB c = true → enc c <+: s.data.toList.drop i → 1 + 1 ≤ wid c ∨ (n = c ∧ wid c = 1)) := Lib.hid (by
        intro c hc hp
        have h1 := HN.out c hc hp
        by_cases h2 : wid c = 1
        · exact Or.inr ⟨by have h3 := backN_enc hc hp; rw [h2] at h3; rw [HQ.out, h3], h2⟩
        · exact Or.inl (by omega))
      by_cases hc : cpB n = true
      · refine wp_region_above (by kernel_rfl) (by kernel_rfl) ?_
        have HC := Lib.hid hc
        clear hc
        obtain ⟨qb, hqb⟩ : ∃ qb, qb = ((Utf8.encode n).toList == (s.extract i (i + 1)).toList) := ⟨_, rfl⟩
        have hqb2 := hqb.symm
        clear hqb hk
        repeat (go_big_quiet_step (first | (go_at_call 20; exact (rmay9_yes HC.out _).mono fun e w' h => ⟨h.1, ⟨_, Abv.bel _⟩, h.2.symm⟩) | (go_at_call 22; exact (rbytes_any HC.out _).mono fun e w' h => ⟨h.1, ⟨_, (Abv.bel _).on h.2⟩, rfl⟩)))
        refine wpQuiet_nil ?_
        intro w4 hw4
        have HBE : Hid (Bel w w4) := Lib.hid (by obtain ⟨m, rfl⟩ := hw4; exact (by repeat (first | exact HB.out | refine Bel.alloc ?_ _) : Bel w _).on m.bel)
        have HQB := Lib.hid hqb2
        clear hw4 hqb2
        cases qb
        · go_wp2
          go_roundw
          case rel => exact ⟨2, by omega, by omega, by go_num, HBE.out, fun c hc hp => by
            rcases HW.out c hc hp with h | ⟨rfl, h⟩
            · exact h
            · have := HPE.out.2 ⟨by rw [enc_len hc, h], hp⟩
              rw [HQB.out] at this; cases this⟩
          case measure => (simp [intOf] <;> omega)
        · go_wp2
          go_ret
          exact ⟨n, rfl, HBE.out, Or.inl ⟨HC.out, (HPE.out.1 HQB.out).2⟩⟩
      · have hc : cpB n = false := by simpa using hc
        have HC := Lib.hid hc
        clear hc
        refine wp_region_above (by kernel_rfl) (by kernel_rfl) ?_
        repeat (go_big_quiet_step ((go_at_call 20; exact (rmay9_no HC.out _).mono fun e w' h => ⟨h.1, ⟨_, Abv.bel _⟩, h.2.symm⟩)))
        refine wpQuiet_nil ?_
        intro w4 hw4
        have HBE : Hid (Bel w w4) := Lib.hid (by obtain ⟨m, rfl⟩ := hw4; exact (by repeat (first | exact HB.out | refine Bel.alloc ?_ _) : Bel w _).on m.bel)
        clear hw4
        go_wp2
        go_roundw
        case rel => exact ⟨2, by omega, by omega, by go_num, HBE.out, fun c hc hp => by
          rcases HW.out c hc hp with h | ⟨rfl, h⟩
          · exact h
          · rw [HC.out] at hc; cases hc⟩
        case measure => (simp [intOf] <;> omega)
    · -- 2
      rcases (show (i : Int) + 2 ≤ (s.size : Int) ∨ (s.size : Int) < (i : Int) + 2 by omega) with hsz | hsz
      · have hsz' : i + 2 ≤ s.size := by omega
        have hs1 : i + 1 < s.size := by omega
        have hx0 : ((s[i]'hi).toNat : Int) ≤ 255 := by have := (s[i]'hi).toNat_lt; omega
        have hx1 : ((s[i + 1]'hs1).toNat : Int) ≤ 255 := by have := (s[i + 1]'hs1).toNat_lt; omega
        go_wp2
        refine wp_loop_rounds 3 ?_; rw [rounds_succ]
        go_wp2_with (rw [rounds_succ])
        have hN : (((s[i]'hi).toNat : Int) - 192) * 64 + ((s[i + 1]'hs1).toNat : Int) - 128 = backN s i 2 := by
          have q0 : s.get! i = s[i]'hi := get_at s i hi
          have q1 : s.get! (i + 1) = s[i + 1]'hs1 := get_at s (i + 1) hs1
          simp only [backN, q0, q1]
        rw [hN]
        obtain ⟨n, hn⟩ : ∃ n, n = backN s i 2 := ⟨_, rfl⟩
        rw [← hn]
        have hsl : ∀ W : World, (Instr.slice 9 (.string s) (some (.int .i64 (i : Int))) (some (.int .i64 ((i : Int) + 2))) none).run Try.prog W = .ok (.string (s.extract i (i + 2))) W := fun W => ext_run (k := 2) (by omega) (by omega) W
        have HQ := Lib.hid hn
        clear hN hn hx0 hx1
        have hk : i + 2 ≤ s.size := by omega
        have HPE := Lib.hid (@pre_ext s i 2 n hk)
        have HW : Hid (∀ c, cpB c = true → enc c <+: s.data.toList.drop i → 2 + 1 ≤ wid c ∨ (n = c ∧ wid c = 2)) := Lib.hid (by
          intro c hc hp
          have h1 := HN.out c hc hp
          by_cases h2 : wid c = 2
          · exact Or.inr ⟨by have h3 := backN_enc hc hp; rw [h2] at h3; rw [HQ.out, h3], h2⟩
          · exact Or.inl (by omega))
        by_cases hc : cpB n = true
        · refine wp_region_above (by kernel_rfl) (by kernel_rfl) ?_
          have HC := Lib.hid hc
          clear hc
          obtain ⟨qb, hqb⟩ : ∃ qb, qb = ((Utf8.encode n).toList == (s.extract i (i + 2)).toList) := ⟨_, rfl⟩
          have hqb2 := hqb.symm
          clear hqb hk
          repeat (go_big_quiet_step (first | (go_at_call 20; exact (rmay9_yes HC.out _).mono fun e w' h => ⟨h.1, ⟨_, Abv.bel _⟩, h.2.symm⟩) | (go_at_call 22; exact (rbytes_any HC.out _).mono fun e w' h => ⟨h.1, ⟨_, (Abv.bel _).on h.2⟩, rfl⟩)))
          refine wpQuiet_nil ?_
          intro w4 hw4
          have HBE : Hid (Bel w w4) := Lib.hid (by obtain ⟨m, rfl⟩ := hw4; exact (by repeat (first | exact HB.out | refine Bel.alloc ?_ _) : Bel w _).on m.bel)
          have HQB := Lib.hid hqb2
          clear hw4 hqb2
          cases qb
          · go_wp2
            go_roundw
            case rel => exact ⟨3, by omega, by omega, by go_num, HBE.out, fun c hc hp => by
              rcases HW.out c hc hp with h | ⟨rfl, h⟩
              · exact h
              · have := HPE.out.2 ⟨by rw [enc_len hc, h], hp⟩
                rw [HQB.out] at this; cases this⟩
            case measure => (simp [intOf] <;> omega)
          · go_wp2
            go_ret
            exact ⟨n, rfl, HBE.out, Or.inl ⟨HC.out, (HPE.out.1 HQB.out).2⟩⟩
        · have hc : cpB n = false := by simpa using hc
          have HC := Lib.hid hc
          clear hc
          refine wp_region_above (by kernel_rfl) (by kernel_rfl) ?_
          repeat (go_big_quiet_step ((go_at_call 20; exact (rmay9_no HC.out _).mono fun e w' h => ⟨h.1, ⟨_, Abv.bel _⟩, h.2.symm⟩)))
          refine wpQuiet_nil ?_
          intro w4 hw4
          have HBE : Hid (Bel w w4) := Lib.hid (by obtain ⟨m, rfl⟩ := hw4; exact (by repeat (first | exact HB.out | refine Bel.alloc ?_ _) : Bel w _).on m.bel)
          clear hw4
          go_wp2
          go_roundw
          case rel => exact ⟨3, by omega, by omega, by go_num, HBE.out, fun c hc hp => by
            rcases HW.out c hc hp with h | ⟨rfl, h⟩
            · exact h
            · rw [HC.out] at hc; cases hc⟩
          case measure => (simp [intOf] <;> omega)
      · go_wp2
        go_ret
        exact ⟨-1, rfl, HB.out, Or.inr ⟨rfl, fun c hc hp => by
          have h1 := HN.out c hc hp
          have h2 := (wid_pos c).2
          have h3 := enc_fits hc hp; omega⟩⟩
    · -- 3
      rcases (show (i : Int) + 3 ≤ (s.size : Int) ∨ (s.size : Int) < (i : Int) + 3 by omega) with hsz | hsz
      · have hsz' : i + 3 ≤ s.size := by omega
        have hs1 : i + 1 < s.size := by omega
        have hs2 : i + 2 < s.size := by omega
        have hx0 : ((s[i]'hi).toNat : Int) ≤ 255 := by have := (s[i]'hi).toNat_lt; omega
        have hx1 : ((s[i + 1]'hs1).toNat : Int) ≤ 255 := by have := (s[i + 1]'hs1).toNat_lt; omega
        have hx2 : ((s[i + 2]'hs2).toNat : Int) ≤ 255 := by have := (s[i + 2]'hs2).toNat_lt; omega
        go_wp2
        refine wp_loop_rounds 4 ?_; rw [rounds_succ]
        go_wp2_with (rw [rounds_succ])
        have hN : ((((s[i]'hi).toNat : Int) - 224) * 64 + ((s[i + 1]'hs1).toNat : Int) - 128) * 64 + ((s[i + 2]'hs2).toNat : Int) - 128 = backN s i 3 := by
          have q0 : s.get! i = s[i]'hi := get_at s i hi
          have q1 : s.get! (i + 1) = s[i + 1]'hs1 := get_at s (i + 1) hs1
          have q2 : s.get! (i + 2) = s[i + 2]'hs2 := get_at s (i + 2) hs2
          simp only [backN, q0, q1, q2]
        rw [hN]
        obtain ⟨n, hn⟩ : ∃ n, n = backN s i 3 := ⟨_, rfl⟩
        rw [← hn]
        have hsl : ∀ W : World, (Instr.slice 9 (.string s) (some (.int .i64 (i : Int))) (some (.int .i64 ((i : Int) + 3))) none).run Try.prog W = .ok (.string (s.extract i (i + 3))) W := fun W => ext_run (k := 3) (by omega) (by omega) W
        have HQ := Lib.hid hn
        clear hN hn hx0 hx1 hx2
        have hk : i + 3 ≤ s.size := by omega
        have HPE := Lib.hid (@pre_ext s i 3 n hk)
        have HW : Hid (∀ c, cpB c = true → enc c <+: s.data.toList.drop i → 3 + 1 ≤ wid c ∨ (n = c ∧ wid c = 3)) := Lib.hid (by
          intro c hc hp
          have h1 := HN.out c hc hp
          by_cases h2 : wid c = 3
          · exact Or.inr ⟨by have h3 := backN_enc hc hp; rw [h2] at h3; rw [HQ.out, h3], h2⟩
          · exact Or.inl (by omega))
        by_cases hc : cpB n = true
        · refine wp_region_above (by kernel_rfl) (by kernel_rfl) ?_
          have HC := Lib.hid hc
          clear hc
          obtain ⟨qb, hqb⟩ : ∃ qb, qb = ((Utf8.encode n).toList == (s.extract i (i + 3)).toList) := ⟨_, rfl⟩
          have hqb2 := hqb.symm
          clear hqb hk
          repeat (go_big_quiet_step (first | (go_at_call 20; exact (rmay9_yes HC.out _).mono fun e w' h => ⟨h.1, ⟨_, Abv.bel _⟩, h.2.symm⟩) | (go_at_call 22; exact (rbytes_any HC.out _).mono fun e w' h => ⟨h.1, ⟨_, (Abv.bel _).on h.2⟩, rfl⟩)))
          refine wpQuiet_nil ?_
          intro w4 hw4
          have HBE : Hid (Bel w w4) := Lib.hid (by obtain ⟨m, rfl⟩ := hw4; exact (by repeat (first | exact HB.out | refine Bel.alloc ?_ _) : Bel w _).on m.bel)
          have HQB := Lib.hid hqb2
          clear hw4 hqb2
          cases qb
          · go_wp2
            go_roundw
            case rel => exact ⟨4, by omega, by omega, by go_num, HBE.out, fun c hc hp => by
              rcases HW.out c hc hp with h | ⟨rfl, h⟩
              · exact h
              · have := HPE.out.2 ⟨by rw [enc_len hc, h], hp⟩
                rw [HQB.out] at this; cases this⟩
            case measure => (simp [intOf] <;> omega)
          · go_wp2
            go_ret
            exact ⟨n, rfl, HBE.out, Or.inl ⟨HC.out, (HPE.out.1 HQB.out).2⟩⟩
        · have hc : cpB n = false := by simpa using hc
          have HC := Lib.hid hc
          clear hc
          refine wp_region_above (by kernel_rfl) (by kernel_rfl) ?_
          repeat (go_big_quiet_step ((go_at_call 20; exact (rmay9_no HC.out _).mono fun e w' h => ⟨h.1, ⟨_, Abv.bel _⟩, h.2.symm⟩)))
          refine wpQuiet_nil ?_
          intro w4 hw4
          have HBE : Hid (Bel w w4) := Lib.hid (by obtain ⟨m, rfl⟩ := hw4; exact (by repeat (first | exact HB.out | refine Bel.alloc ?_ _) : Bel w _).on m.bel)
          clear hw4
          go_wp2
          go_roundw
          case rel => exact ⟨4, by omega, by omega, by go_num, HBE.out, fun c hc hp => by
            rcases HW.out c hc hp with h | ⟨rfl, h⟩
            · exact h
            · rw [HC.out] at hc; cases hc⟩
          case measure => (simp [intOf] <;> omega)
      · go_wp2
        go_ret
        exact ⟨-1, rfl, HB.out, Or.inr ⟨rfl, fun c hc hp => by
          have h1 := HN.out c hc hp
          have h2 := (wid_pos c).2
          have h3 := enc_fits hc hp; omega⟩⟩
    · -- 4
      rcases (show (i : Int) + 4 ≤ (s.size : Int) ∨ (s.size : Int) < (i : Int) + 4 by omega) with hsz | hsz
      · have hsz' : i + 4 ≤ s.size := by omega
        have hs1 : i + 1 < s.size := by omega
        have hs2 : i + 2 < s.size := by omega
        have hs3 : i + 3 < s.size := by omega
        have hx0 : ((s[i]'hi).toNat : Int) ≤ 255 := by have := (s[i]'hi).toNat_lt; omega
        have hx1 : ((s[i + 1]'hs1).toNat : Int) ≤ 255 := by have := (s[i + 1]'hs1).toNat_lt; omega
        have hx2 : ((s[i + 2]'hs2).toNat : Int) ≤ 255 := by have := (s[i + 2]'hs2).toNat_lt; omega
        have hx3 : ((s[i + 3]'hs3).toNat : Int) ≤ 255 := by have := (s[i + 3]'hs3).toNat_lt; omega
        go_wp2
        refine wp_loop_rounds 5 ?_; rw [rounds_succ]
        go_wp2_with (rw [rounds_succ])
        have hN : (((((s[i]'hi).toNat : Int) - 240) * 64 + ((s[i + 1]'hs1).toNat : Int) - 128) * 64 + ((s[i + 2]'hs2).toNat : Int) - 128) * 64 + ((s[i + 3]'hs3).toNat : Int) - 128 = backN s i 4 := by
          have q0 : s.get! i = s[i]'hi := get_at s i hi
          have q1 : s.get! (i + 1) = s[i + 1]'hs1 := get_at s (i + 1) hs1
          have q2 : s.get! (i + 2) = s[i + 2]'hs2 := get_at s (i + 2) hs2
          have q3 : s.get! (i + 3) = s[i + 3]'hs3 := get_at s (i + 3) hs3
          simp only [backN, q0, q1, q2, q3]
        rw [hN]
        obtain ⟨n, hn⟩ : ∃ n, n = backN s i 4 := ⟨_, rfl⟩
        rw [← hn]
        have hsl : ∀ W : World, (Instr.slice 9 (.string s) (some (.int .i64 (i : Int))) (some (.int .i64 ((i : Int) + 4))) none).run Try.prog W = .ok (.string (s.extract i (i + 4))) W := fun W => ext_run (k := 4) (by omega) (by omega) W
        have HQ := Lib.hid hn
        clear hN hn hx0 hx1 hx2 hx3
        have hk : i + 4 ≤ s.size := by omega
        have HPE := Lib.hid (@pre_ext s i 4 n hk)
        have HW : Hid (∀ c, cpB c = true → enc c <+: s.data.toList.drop i → 4 + 1 ≤ wid c ∨ (n = c ∧ wid c = 4)) := Lib.hid (by
          intro c hc hp
          have h1 := HN.out c hc hp
          by_cases h2 : wid c = 4
          · exact Or.inr ⟨by have h3 := backN_enc hc hp; rw [h2] at h3; rw [HQ.out, h3], h2⟩
          · exact Or.inl (by omega))
        by_cases hc : cpB n = true
        · refine wp_region_above (by kernel_rfl) (by kernel_rfl) ?_
          have HC := Lib.hid hc
          clear hc
          obtain ⟨qb, hqb⟩ : ∃ qb, qb = ((Utf8.encode n).toList == (s.extract i (i + 4)).toList) := ⟨_, rfl⟩
          have hqb2 := hqb.symm
          clear hqb hk
          repeat (go_big_quiet_step (first | (go_at_call 20; exact (rmay9_yes HC.out _).mono fun e w' h => ⟨h.1, ⟨_, Abv.bel _⟩, h.2.symm⟩) | (go_at_call 22; exact (rbytes_any HC.out _).mono fun e w' h => ⟨h.1, ⟨_, (Abv.bel _).on h.2⟩, rfl⟩)))
          refine wpQuiet_nil ?_
          intro w4 hw4
          have HBE : Hid (Bel w w4) := Lib.hid (by obtain ⟨m, rfl⟩ := hw4; exact (by repeat (first | exact HB.out | refine Bel.alloc ?_ _) : Bel w _).on m.bel)
          have HQB := Lib.hid hqb2
          clear hw4 hqb2
          cases qb
          · go_wp2
            go_roundw
            case rel => exact ⟨5, by omega, by omega, by go_num, HBE.out, fun c hc hp => by
              rcases HW.out c hc hp with h | ⟨rfl, h⟩
              · exact h
              · have := HPE.out.2 ⟨by rw [enc_len hc, h], hp⟩
                rw [HQB.out] at this; cases this⟩
            case measure => (simp [intOf] <;> omega)
          · go_wp2
            go_ret
            exact ⟨n, rfl, HBE.out, Or.inl ⟨HC.out, (HPE.out.1 HQB.out).2⟩⟩
        · have hc : cpB n = false := by simpa using hc
          have HC := Lib.hid hc
          clear hc
          refine wp_region_above (by kernel_rfl) (by kernel_rfl) ?_
          repeat (go_big_quiet_step ((go_at_call 20; exact (rmay9_no HC.out _).mono fun e w' h => ⟨h.1, ⟨_, Abv.bel _⟩, h.2.symm⟩)))
          refine wpQuiet_nil ?_
          intro w4 hw4
          have HBE : Hid (Bel w w4) := Lib.hid (by obtain ⟨m, rfl⟩ := hw4; exact (by repeat (first | exact HB.out | refine Bel.alloc ?_ _) : Bel w _).on m.bel)
          clear hw4
          go_wp2
          go_roundw
          case rel => exact ⟨5, by omega, by omega, by go_num, HBE.out, fun c hc hp => by
            rcases HW.out c hc hp with h | ⟨rfl, h⟩
            · exact h
            · rw [HC.out] at hc; cases hc⟩
          case measure => (simp [intOf] <;> omega)
      · go_wp2
        go_ret
        exact ⟨-1, rfl, HB.out, Or.inr ⟨rfl, fun c hc hp => by
          have h1 := HN.out c hc hp
          have h2 := (wid_pos c).2
          have h3 := enc_fits hc hp; omega⟩⟩
    · go_wp2
      go_ret
      exact ⟨-1, rfl, HB.out, Or.inr ⟨rfl, fun c hc hp => by
        have h1 := HN.out c hc hp
        have h2 := (wid_pos c).2
        omega⟩⟩
end Go.Proofs.Ytaiogbokmglofaa.Mu

