/-
  Put of utf, and the document's Put, walked.
-/
import Derived.Test.YtaiogbokmglofaaUtfPts
import Derived.Laws.Cover4
import Derived.Laws.Concat
namespace Go.Proofs.Ytaiogbokmglofaa.Mu
open Go.RowKit Go.Shelf

def allB (l : List Int) : Bool := l.all cpB
theorem allB_iff (l : List Int) : allB l = true ↔ AllCp l := by simp [allB, AllCp]
/-- What Put answers: the text and the error. -/
def putS (l : List Int) : List UInt8 := if allB l = true ∧ (encs l).length ≤ 4000 then encs l else []
def putE (l : List Int) : Int := if allB l = true then (if (encs l).length ≤ 4000 then 0 else 3) else 2
def GPut (l : List Int) (w : World) (e : Ending) (w' : World) : Prop := Bel w w' ∧ e = .returned (.tuple #[.string ⟨(putS l).toArray⟩, .int .i64 (putE l)])
theorem runes_encs (l : List Int) : runesBytes l = ⟨(encs l).toArray⟩ := by
  have : ∀ (l : List Int) (r : ByteArray), l.foldl (fun r n => r ++ Utf8.encode n) r = ⟨r.data ++ (encs l).toArray⟩ := by
    intro l
    induction l with
    | nil => intro r; simp [encs]
    | cons x l ih =>
      intro r
      rw [List.foldl_cons, ih]
      apply ByteArray.ext
      rw [encs_cons]
      apply Array.ext'
      simp [enc, ByteArray.data_append]
  unfold runesBytes
  rw [this]
  apply ByteArray.ext
  apply Array.ext'
  simp [ByteArray.empty, ByteArray.emptyWithCapacity]
  rfl
theorem runes_run {w : World} {A : Option Addr} {n c : Nat} {l : List Int} (h : RI .i32 w w.heap.size A n l) : (convert 37 9 (.slice A n c)).run Try.prog w = .ok (.string ⟨(encs l).toArray⟩) w := by
  rcases Nat.eq_zero_or_pos n with h0 | h0
  · have hl : l = [] := List.eq_nil_of_length_eq_zero (by have := h.len; omega)
    subst hl
    subst h0
    cases A with
    | none => rw [run_convert_runes_nil w _ _ 21 _ _ Try.underlying37 Try.underlying21 Try.underlying9]; rfl
    | some a =>
      rw [run_convert_runes w _ _ 21 a 0 c [] (by simp) Try.underlying37 Try.underlying21 Try.underlying9 (fun j hj => by simp at hj)]
      rfl
  · obtain ⟨b, off, rfl, hb, hc⟩ := h.at_ h0
    rw [run_convert_runes w _ _ 21 ⟨b, off, none⟩ n c l (by have := h.len; omega) Try.underlying37 Try.underlying21 Try.underlying9 (fun j hj => by
      rw [Addr.add_lit, hc j (by have := h.len; omega)]; simp [List.getD])]
    rw [List.take_of_length_le (by have := h.len; omega), runes_encs]
theorem allB_no {l : List Int} {j : Nat} {x : Int} (hx : l[j]? = some x) (h : cpB x = false) : allB l = false := by
  rw [Bool.eq_false_iff]; intro h'
  have := (allB_iff l).1 h' x (List.mem_of_getElem? hx)
  rw [h] at this; cases this
theorem allcp_take {l : List Int} {j : Nat} {x : Int} (h : AllCp (l.take j)) (hx : l[j]? = some x) (hc : cpB x = true) : AllCp (l.take (j + 1)) ∧ (encs (l.take (j + 1))).length = (encs (l.take j)).length + wid x ∧ encs (l.take (j + 1)) = encs (l.take j) ++ enc x := by
  have hlt := (List.getElem?_eq_some_iff.1 hx).1
  have e1 : l.take (j + 1) = l.take j ++ [x] := by
    rw [List.take_succ_eq_append_getElem hlt, (List.getElem?_eq_some_iff.1 hx).2]
  rw [e1, encs_app]
  refine ⟨h.app fun c hcc => by simp at hcc; subst hcc; exact hc, ?_, by simp [encs]⟩
  rw [List.length_append]; simp [encs, enc_len hc]
theorem enc_len4 (c : Int) : (enc c).length ≤ 4 := encode_size_le c
theorem encs_le (l : List Int) : (encs l).length ≤ 4 * l.length := by
  induction l with
  | nil => simp [encs]
  | cons x l ih => rw [encs_cons, List.length_append, List.length_cons]; have := enc_len4 x; omega
set_option maxHeartbeats 2000000 in
theorem put_any {A : Option Addr} {n c : Nat} {l : List Int} (hn : n ≤ 1000000000) (w : World) (h : RI .i32 w w.heap.size A n l) : Calls Try.prog 13 #[.slice A n c] w (GPut l w) := by
  have hcv := runes_run (c := c) h
  have H := Lib.hid h
  have hle := encs_le l
  rw [← h.len] at hle
  have HLE := Lib.hid hle
  clear h hle
  go_enter Try.func13, Try.ntmps13
  go_wp2
  go_loop [4, 9] (fun v i => ∃ j : Nat, j ≤ n ∧ i = .int .i64 j ∧ v = .int .i64 (encs (l.take j)).length ∧ Hid (AllCp (l.take j))) (fun _ i => n - (intOf i).toNat)
  case atStart => exact ⟨0, Nat.zero_le _, rfl, rfl, fun c hc => by simp at hc⟩
  case round =>
    obtain ⟨j, hj, rfl, rfl, HA⟩ := hrel
    by_cases hlt : j < n
    · obtain ⟨x, hx⟩ : ∃ x, l[j]? = some x := ⟨_, List.getElem?_eq_getElem (by have := H.out.len; omega)⟩
      obtain ⟨b, off, rfl, hb, hc⟩ := H.out.at_ (by omega)
      have hcx := hc j hlt
      rw [hx] at hcx
      simp only [Option.getD_some] at hcx
      have HX := Lib.hid hx
      have hel : (encs (l.take j)).length ≤ 4 * j := by
        have := encs_le (l.take j)
        rw [List.length_take] at this; omega
      obtain ⟨m, hm⟩ : ∃ m, m = (encs (l.take j)).length := ⟨_, rfl⟩
      rw [← hm] at hel ⊢
      have HM := Lib.hid hm
      clear hc hx hm
      by_cases hcp : cpB x = true
      · have hw := wid_pos x
        have HCP := Lib.hid hcp
        clear hcp
        go_wp2_with (first | (go_at_call 18; refine (show ∀ w, Calls Try.prog 18 #[.int .i32 x] w fun e w' => e = .returned (.bool true) ∧ w = w' from fun w => (vr_any x w).mono fun _ _ k => ⟨by rw [k.1, HCP.out], k.2⟩) _ |>.mono ?_; rintro e w' ⟨rfl, rfl⟩) | (go_at_call 19; refine (rl_any HCP.out _).mono ?_; rintro e w' ⟨rfl, rfl⟩))
        go_round
        case rel =>
          obtain ⟨a1, a2, -⟩ := allcp_take HA.out HX.out HCP.out
          exact ⟨j + 1, by omega, by go_num, by rw [a2, ← HM.out]; go_num, a1⟩
        case measure => simp [intOf]; omega
      · have hcp : cpB x = false := by simpa using hcp
        have HCP := Lib.hid hcp
        clear hcp
        go_wp2_with (go_at_call 18; refine (show ∀ w, Calls Try.prog 18 #[.int .i32 x] w fun e w' => e = .returned (.bool false) ∧ w = w' from fun w => (vr_any x w).mono fun _ _ k => ⟨by rw [k.1, HCP.out], k.2⟩) _ |>.mono ?_; rintro e w' ⟨rfl, rfl⟩)
        go_ret2
        refine ⟨Bel.refl _, ?_⟩
        have := allB_no HX.out HCP.out
        simp [putS, putE, this]
    · obtain rfl : j = n := by omega
      have hlj : l.take j = l := List.take_of_length_le (by have := H.out.len; omega)
      have hA : allB l = true := (allB_iff l).2 (by have := HA.out; rwa [hlj] at this)
      rw [hlj]
      have HAL := Lib.hid hA
      clear hA
      clear hlj
      by_cases hmax : (encs l).length ≤ 4000
      · have hm2 : ((encs l).length : Int) ≤ 4000 := by omega
        have HM := Lib.hid hmax
        clear hmax
        go_wp2
        go_ret2
        exact ⟨Bel.refl _, by simp [putS, putE, HAL.out, HM.out]⟩
      · have hm2 : (4000 : Int) < ((encs l).length : Int) := by omega
        have HM := Lib.hid hmax
        clear hmax
        go_wp2
        go_ret2
        exact ⟨Bel.refl _, by simp [putS, putE, HAL.out, HM.out]⟩
theorem RI.anyBel {kd : IntKind} {w w' : World} {A : Option Addr} {n : Nat} {l : List Int} (h : RI kd w w.heap.size A n l) (hb : Bel w w') : RI kd w' w'.heap.size A n l := h.bel hb
set_option maxHeartbeats 2000000 in
theorem rput_any {A : Option Addr} {n c : Nat} {l : List Int} (hn : n ≤ 1000000000) (hr : ∀ x ∈ l, -2147483648 ≤ x ∧ x ≤ 2147483647) (w : World) (h : RI .i32 w w.heap.size A n l) : Calls Try.prog 14 #[.slice A n c] w (GPut l w) := by
  have H := Lib.hid h
  have hle := encs_le l
  rw [← h.len] at hle
  have HLE := Lib.hid hle
  have HR := Lib.hid hr
  clear h hle hr
  go_enter Try.func14, Try.ntmps14
  go_wp2
  go_loop [4, 5] (fun v i => ∃ j : Nat, j ≤ n ∧ i = .int .i64 j ∧ v = .int .i64 (encs (l.take j)).length ∧ Hid (AllCp (l.take j))) (fun _ i => n - (intOf i).toNat)
  case atStart => exact ⟨0, Nat.zero_le _, rfl, rfl, fun c hc => by simp at hc⟩
  case round =>
    obtain ⟨j, hj, rfl, rfl, HA⟩ := hrel
    by_cases hlt : j < n
    · obtain ⟨x, hx⟩ : ∃ x, l[j]? = some x := ⟨_, List.getElem?_eq_getElem (by have := H.out.len; omega)⟩
      obtain ⟨b, off, rfl, hb, hc⟩ := H.out.at_ (by omega)
      have hcx := hc j hlt
      rw [hx] at hcx
      simp only [Option.getD_some] at hcx
      have HX := Lib.hid hx
      have hel : (encs (l.take j)).length ≤ 4 * j := by
        have := encs_le (l.take j)
        rw [List.length_take] at this; omega
      obtain ⟨m, hm⟩ : ∃ m, m = (encs (l.take j)).length := ⟨_, rfl⟩
      rw [← hm] at hel ⊢
      have HM := Lib.hid hm
      clear hc hx hm
      by_cases hcp : cpB x = true
      · have hw := wid_pos x
        have hxb := (cpB_iff x).1 hcp
        have hx0 : 0 ≤ x := by omega
        have hx9 : x ≤ 1114111 := by omega
        have HCP := Lib.hid hcp
        clear hcp hxb
        go_wp2_with (first | (go_at_call 20; refine (rmay9_yes HCP.out _).mono ?_; rintro e w' ⟨rfl, rfl⟩) | (go_at_call 21; refine (rwidth_any _ _).mono ?_; rintro e w' ⟨rfl, rfl⟩))
        go_round
        case rel =>
          obtain ⟨a1, a2, -⟩ := allcp_take HA.out HX.out HCP.out
          exact ⟨j + 1, by omega, by go_num, by rw [a2, ← HM.out]; go_num, a1⟩
        case measure => simp [intOf]; omega
      · have hcp : cpB x = false := by simpa using hcp
        have HCP := Lib.hid hcp
        clear hcp
        obtain ⟨hx1, hx2⟩ := HR.out x (List.mem_of_getElem? HX.out)
        go_wp2_with (go_at_call 20; refine (rmay9_no HCP.out _).mono ?_; rintro e w' ⟨rfl, rfl⟩)
        go_ret2
        refine ⟨Bel.refl _, ?_⟩
        have := allB_no HX.out HCP.out
        simp [putS, putE, this]
    · obtain rfl : j = n := by omega
      have hlj : l.take j = l := List.take_of_length_le (by have := H.out.len; omega)
      have hA : allB l = true := (allB_iff l).2 (by have := HA.out; rwa [hlj] at this)
      rw [hlj]
      have HAL := Lib.hid hA
      clear hA
      clear hlj
      by_cases hmax : (encs l).length ≤ 4000
      · have hm2 : ((encs l).length : Int) ≤ 4000 := by omega
        have HM := Lib.hid hmax
        clear hmax
        go_wp2
        go_loopw [6, 7] (fun v i wr => ∃ k : Nat, k ≤ j ∧ i = .int .i64 k ∧ v = .string ⟨(encs (l.take k)).toArray⟩ ∧ Hid (Bel w wr)) (fun _ i _ => j - (intOf i).toNat)
        case atStart => exact ⟨0, Nat.zero_le _, rfl, rfl, Bel.refl w⟩
        case round =>
          obtain ⟨k, hk, rfl, rfl, HB⟩ := hrel
          by_cases hlt2 : k < j
          · obtain ⟨x, hx⟩ : ∃ x, l[k]? = some x := ⟨_, List.getElem?_eq_getElem (by have := H.out.len; omega)⟩
            obtain ⟨b, off, rfl, hb, hc⟩ := (H.out.anyBel HB.out).at_ (by omega)
            have hcx := hc k hlt2
            rw [hx] at hcx
            simp only [Option.getD_some] at hcx
            have HX := Lib.hid hx
            have hcp : cpB x = true := (allB_iff l).1 HAL.out x (List.mem_of_getElem? hx)
            have hxb := (cpB_iff x).1 hcp
            have hx0 : 0 ≤ x := by omega
            have hx9 : x ≤ 1114111 := by omega
            have HCP := Lib.hid hcp
            obtain ⟨M, hM⟩ : ∃ M : ByteArray, M = ⟨(encs (l.take k)).toArray⟩ := ⟨_, rfl⟩
            have hms : M.size ≤ 4000000000 := by
              have h1 := encs_le (l.take k)
              rw [List.length_take] at h1
              have h2 : M.size = (encs (l.take k)).length := by rw [hM]; rfl
              omega
            have hes : (Utf8.encode x).size ≤ 4 := encode_size_le x
            rw [← hM]
            have HMM := Lib.hid hM
            clear hc hx hcp hxb hM
            go_wp2_with (go_at_call 22; refine (rbytes_any HCP.out _).mono ?_; rintro e w2 ⟨rfl, hb2⟩; have HB2 := Lib.hid (HB.out.on hb2); clear hb2)
            go_roundw
            case rel =>
              obtain ⟨-, -, a3⟩ := allcp_take (fun c hc => (allB_iff l).1 HAL.out c (List.mem_of_mem_take hc)) HX.out HCP.out
              exact ⟨k + 1, by omega, by go_num, by
                rw [a3, HMM.out]
                congr 1, HB2.out⟩
            case measure => simp [intOf]; omega
          · obtain rfl : k = j := by omega
            go_wp2
            go_ret2
            refine ⟨HB.out, ?_⟩
            have hlj : l.take k = l := List.take_of_length_le (by have := H.out.len; omega)
            simp [putS, putE, HAL.out, HM.out, hlj]
      · have hm2 : (4000 : Int) < ((encs l).length : Int) := by omega
        have HM := Lib.hid hmax
        clear hmax
        go_wp2
        go_ret2
        exact ⟨Bel.refl _, by simp [putS, putE, HAL.out, HM.out]⟩
end Go.Proofs.Ytaiogbokmglofaa.Mu

