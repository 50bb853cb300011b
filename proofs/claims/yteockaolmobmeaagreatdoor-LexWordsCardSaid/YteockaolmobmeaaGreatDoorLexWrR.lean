/-
  Write of the document, walked.
-/
import Derived.Test.YteockaolmobmeaaGreatDoorLexSgn
import Derived.Test.YteockaolmobmeaaGreatDoorLexPtR
import Derived.Test.YteockaolmobmeaaGreatDoorLexWrt
namespace Go.Proofs.YteockaolmobmeaaGreatDoor.Mu
open Go.RowKit Go.Shelf
set_option maxRecDepth 100000
theorem bytes_app (a b : List UInt8) : (⟨a.toArray⟩ ++ ⟨b.toArray⟩ : ByteArray) = ⟨(a ++ b).toArray⟩ := by
  apply ByteArray.ext
  simp
theorem put_len {k : Int} {s : List UInt8} {n : Int} (h : mayTk (k, s, n)) : (putB k s n).length ≤ 2 * s.length + 30 := by
  have h1 := wri_put h
  unfold mayTk at h
  by_cases k3 : k = 3
  · have hn : 0 ≤ n ∧ n ≤ 1099511627776 := by
      rcases h with ⟨e, _⟩ | ⟨e, _⟩ | ⟨_, h0, h1, _⟩ | ⟨e, _⟩ | ⟨e, _⟩ | ⟨e, _⟩
      all_goals first | exact ⟨h0, h1⟩ | (simp at e; omega)
    have := wri_len (k := k) (s := s) (n := n) (by omega) (by omega)
    rw [h1] at this
    exact this
  · by_cases k4 : k = 4
    · unfold putB
      rw [if_neg k3, if_pos k4]
      have := (escL_ge s).2
      rw [List.length_cons, List.length_append, List.length_singleton]; omega
    · unfold putB
      rw [if_neg k3, if_neg k4]; omega
open Classical in
set_option maxHeartbeats 8000000 in
/-- What Write of the document answers. -/
theorem rwrite10_any {A : Option Addr} {n cp : Nat} {xs : List Tn} (w : World) (hr : RTn w w.heap.size A n xs) (hn : n ≤ 1000000000) (hx : ∀ x ∈ xs, x.s.length ≤ 4000000 ∧ -9223372036854775808 ≤ x.n ∧ x.n ≤ 9223372036854775807) :
    Calls Tryz.prog 18 #[.slice A n cp] w fun e w' => e = .returned (.tuple #[.string ⟨(wrO (xs.map Tn.b)).1.toArray⟩, .int .i64 (wrO (xs.map Tn.b)).2]) ∧ Bel w w' := by
  obtain ⟨RS, hRS⟩ : ∃ RS : ByteArray, RS = ⟨(wrO (xs.map Tn.b)).1.toArray⟩ := ⟨_, rfl⟩
  obtain ⟨RE, hRE⟩ : ∃ RE, RE = (wrO (xs.map Tn.b)).2 := ⟨_, rfl⟩
  rw [← hRS, ← hRE]
  have HRS := Lib.hid hRS
  have HRE := Lib.hid hRE
  have HR := Lib.hid hr
  have HX := Lib.hid hx
  have hlen := hr.1
  have HLEN := Lib.hid hlen
  have HIS : Hid (∀ (j : Nat) (x : Tn), xs[j]? = some x → ∀ W, Calls Tryz.prog 30 #[.agg #[.int .u8 x.k, .string ⟨x.s.toArray⟩, .int .i64 x.n, .int .i64 x.p.a, .int .i64 x.p.l, .int .i64 x.p.c]] W fun e w' => e = .returned (.bool (decide (mayTk x.b))) ∧ Bel W w') := Lib.hid fun j x hj W => by
    obtain ⟨b1, b2, b3⟩ := hx x (List.mem_of_getElem? hj)
    have := rmay10_any x.k ⟨x.s.toArray⟩ (by simpa [ByteArray.size] using b1) x.n x.p.a x.p.l x.p.c W
    exact this
  have HWR : Hid (∀ (j : Nat) (x : Tn), xs[j]? = some x → mayTk x.b → ∀ W, Calls Tryz.prog 31 #[.agg #[.int .u8 x.k, .string ⟨x.s.toArray⟩, .int .i64 x.n, .int .i64 x.p.a, .int .i64 x.p.l, .int .i64 x.p.c]] W fun e w' => e = .returned (.string ⟨(putB x.k x.s x.n).toArray⟩) ∧ Bel W w') := Lib.hid fun j x hj hm W => by
    obtain ⟨b1, b2, b3⟩ := hx x (List.mem_of_getElem? hj)
    have := rput10_any x.k ⟨x.s.toArray⟩ (by simpa [ByteArray.size] using b1) x.n x.p.a x.p.l x.p.c (fun k3 => by
      have : 0 ≤ x.n := by
        rcases hm with ⟨e, _⟩ | ⟨e, _⟩ | ⟨_, h0, h1, _⟩ | ⟨e, _⟩ | ⟨e, _⟩ | ⟨e, _⟩
        all_goals first | exact h0 | (have e' : x.k = _ := e; omega)
      exact ⟨this, b3⟩) W
    exact this
  clear hRS hRE hr hx hlen
  go_enter Tryz.func18, Tryz.ntmps18
  go_wp2_with fail
  go_loopg [4] (n + 1) (fun gk v wr => ∃ j : Nat, v = .int .i64 (j : Int) ∧ Hid (j ≤ n ∧ n - j < gk) ∧ Hid (∀ t ∈ (xs.map Tn.b).take j, mayTk t) ∧ Hid (Bel w wr))
  case atStart =>
    exact ⟨0, rfl, Lib.hid ⟨by omega, by omega⟩, Lib.hid (by simp), Lib.hid (Bel.refl w)⟩
  case round =>
    obtain ⟨j, rfl, HJ, HM, HB⟩ := hrel
    by_cases hj : j < n
    · obtain ⟨x, hx⟩ : ∃ x, xs[j]? = some x := ⟨_, List.getElem?_eq_getElem (by have := HLEN.out; omega)⟩
      obtain ⟨b, off, rfl, hb, hcc⟩ := (HR.out.bel HB.out).2 (by omega)
      obtain ⟨x0, x1, x2, x3, x4, x5⟩ := hcc j x hx
      have HXX := Lib.hid hx
      clear hcc hx
      go_wp2_with fail
      refine (HIS.out j x HXX.out _).mono ?_
      rintro e w1 ⟨rfl, hb1⟩
      have HB1 := Lib.hid (HB.out.on hb1)
      clear hb1 x0 x1 x2 x3 x4 x5
      have hxb : (xs.map Tn.b)[j]? = some x.b := by rw [List.getElem?_map, HXX.out]; rfl
      have HXB := Lib.hid hxb
      clear hxb
      by_cases hm : mayTk x.b
      · rw [decide_eq_true hm]
        go_wp2
        go_roundg (gk - 1)
        case rel =>
          refine ⟨j + 1, rfl, Lib.hid ⟨by omega, by have := HJ.out; omega⟩, Lib.hid ?_, HB1⟩
          have hlt := (List.getElem?_eq_some_iff.1 HXB.out).1
          rw [List.take_succ_eq_append_getElem hlt, (List.getElem?_eq_some_iff.1 HXB.out).2]
          intro t ht
          rcases List.mem_append.1 ht with h | h
          · exact HM.out t h
          · rw [List.mem_singleton.1 h]; exact hm
        case measure => have := HJ.out; omega
      · rw [decide_eq_false hm]
        have hno := wrO_no (List.mem_of_getElem? HXB.out) hm
        have e1 : RS = ⟨#[]⟩ := by rw [HRS.out, hno]
        have e2 : RE = 2 := by rw [HRE.out, hno]
        clear hno
        subst e1 e2
        go_wp2
        go_ret2
        exact ⟨rfl, HB1.out⟩
    · have hjn : j = n := by have := HJ.out; omega
      subst hjn
      have HALL : Hid (∀ t ∈ xs.map Tn.b, mayTk t) := by
        have := HM.out
        rw [List.take_of_length_le (by rw [List.length_map, ← HLEN.out]; exact Nat.le_refl _)] at this
        exact Lib.hid this
      clear HM HIS
      go_wp2_with fail
      go_loopg [5, 6] (j + 1) (fun gk v i wr => ∃ (q : Nat) (S : ByteArray), v = .string S ∧ i = .int .i64 (q : Int) ∧ Hid (q ≤ j ∧ j - q < gk) ∧ Hid (S = ⟨(writeB ((xs.map Tn.b).take q)).toArray⟩) ∧ S.size ≤ 9000000 ∧ Hid (Bel w wr))
      case atStart =>
        exact ⟨0, _, rfl, rfl, Lib.hid ⟨by omega, by omega⟩, Lib.hid (by simp [writeB]), by decide, HB⟩
      case round =>
        obtain ⟨q, S, rfl, rfl, HI, HS, hS9, HC⟩ := hrel
        obtain ⟨bs, hbs⟩ : ∃ bs, bs = writeB ((xs.map Tn.b).take q) := ⟨_, rfl⟩
        rw [← hbs] at HS
        have hsz : S.size = bs.length := by rw [HS.out]; simp [ByteArray.size]
        have HBS := Lib.hid hbs
        have HSZ := Lib.hid hsz
        clear hbs hsz
        by_cases hi : q < j
        · obtain ⟨x, hx⟩ : ∃ x, xs[q]? = some x := ⟨_, List.getElem?_eq_getElem (by have := HLEN.out; omega)⟩
          obtain ⟨b, off, rfl, hb, hcc⟩ := (HR.out.bel HC.out).2 (by omega)
          obtain ⟨x0, x1, x2, x3, x4, x5⟩ := hcc q x hx
          have HXX := Lib.hid hx
          have HXB : Hid ((xs.map Tn.b)[q]? = some x.b) := Lib.hid (by rw [List.getElem?_map, HXX.out]; rfl)
          have hmx := HALL.out x.b (List.mem_of_getElem? HXB.out)
          have HEQ : Hid (writeB ((xs.map Tn.b).take (q + 1)) = bs ++ ((if 0 < q then [32] else []) ++ putB x.k x.s x.n)) := by
            rw [HBS.out, writeB_take HXB.out]
            exact Lib.hid rfl
          have hwx := fun V => HWR.out q x HXX.out hmx V
          have hpl : (putB x.k x.s x.n).length ≤ 8000030 := by
            have h1 := put_len (k := x.k) (s := x.s) (n := x.n) hmx
            have h2 := (HX.out x (List.mem_of_getElem? HXX.out)).1
            omega
          obtain ⟨P, hP⟩ : ∃ P, P = putB x.k x.s x.n := ⟨_, rfl⟩
          rw [← hP] at HEQ hwx hpl
          obtain ⟨PB, hPB⟩ : ∃ PB : ByteArray, PB = ⟨P.toArray⟩ := ⟨_, rfl⟩
          rw [← hPB] at hwx
          have hps : PB.size ≤ 8000030 := by rw [hPB]; simpa [ByteArray.size] using hpl
          have HPB := Lib.hid hPB
          have HWX := Lib.hid hwx
          clear hcc hx hmx hwx hpl hP hPB
          have hov : S.size ≤ 4000 ∨ 4000 < S.size := by omega
          rcases hov with hov | hov
          · have d1 : decide ((S.size : Int) ≤ 4000) = true := decide_eq_true (by omega)
            have hc1 : ¬ (9223372036854775807 < S.size + 1) := by omega
            have hc2 : ¬ (9223372036854775807 < S.size + PB.size) := by omega
            have hc3 : ¬ (9223372036854775807 < S.size + 1 + PB.size) := by omega
            have HF1 := Lib.hid (⟨hov, hps⟩ : S.size ≤ 4000 ∧ PB.size ≤ 8000030)
            have hq0 : 0 < q ∨ q = 0 := by omega
            rcases hq0 with hq0 | hq0
            · have HNX : Hid (writeB ((xs.map Tn.b).take (q + 1)) = bs ++ ([32] ++ P)) := Lib.hid (by rw [HEQ.out, if_pos hq0])
              have dq : decide ((0 : Int) < (q : Int)) = true := decide_eq_true (by omega)
              clear HEQ
              go_wp2_with fail
              refine (HWX.out _).mono ?_
              rintro e w2 ⟨rfl, hb2⟩
              have HC2 := Lib.hid (HC.out.on hb2)
              clear hb2
              go_wp2
              have hi2 := HI.out
              have hz : (S ++ (⟨#[32]⟩ : ByteArray) ++ PB).size = S.size + 1 + PB.size := by rw [ByteArray.size_append, ByteArray.size_append]; rfl
              go_roundg (gk - 1)
              case rel =>
                refine ⟨q + 1, S ++ ⟨#[32]⟩ ++ PB, by first | rfl | simp [ByteArray.append_assoc], by go_num, Lib.hid ⟨by omega, by omega⟩, Lib.hid ?_, by have := HF1.out; omega, HC2⟩
                rw [HNX.out, HS.out, HPB.out]
                rw [show (⟨#[32]⟩ : ByteArray) = ⟨([32] : List UInt8).toArray⟩ from rfl, bytes_app, bytes_app, List.append_assoc]
              case measure => omega
            · have dq : ¬ (0 < q) := by omega
              have HNX : Hid (writeB ((xs.map Tn.b).take (q + 1)) = bs ++ P) := Lib.hid (by rw [HEQ.out, if_neg (by omega)]; rfl)
              clear HEQ hq0
              go_wp2_with fail
              refine (HWX.out _).mono ?_
              rintro e w2 ⟨rfl, hb2⟩
              have HC2 := Lib.hid (HC.out.on hb2)
              clear hb2
              go_wp2
              have hi2 := HI.out
              have hz : (S ++ PB).size = S.size + PB.size := by rw [ByteArray.size_append]
              go_roundg (gk - 1)
              case rel =>
                refine ⟨q + 1, S ++ PB, by first | rfl | simp, by go_num, Lib.hid ⟨by omega, by omega⟩, Lib.hid ?_, by have := HF1.out; omega, HC2⟩
                rw [HNX.out, HS.out, HPB.out, bytes_app]
              case measure => omega
          · have d1 : decide ((S.size : Int) ≤ 4000) = false := decide_eq_false (by omega)
            have d2 : decide ((4000 : Int) < (S.size : Int)) = true := decide_eq_true (by omega)
            have hlong : 4000 < (writeB (xs.map Tn.b)).length := by
              have h1 := writeB_grow (xs.map Tn.b) (j - q) q (by rw [List.length_map, ← HLEN.out]; omega)
              rw [← HBS.out] at h1
              have h2 := HSZ.out
              omega
            have hno := wrO_long HALL.out hlong
            have e1 : RS = ⟨#[]⟩ := by rw [HRS.out, hno]
            have e2 : RE = 3 := by rw [HRE.out, hno]
            clear hno hlong HEQ
            subst e1 e2
            go_wp2
            go_ret2
            exact ⟨rfl, HC.out⟩
        · have hqj : q = j := by have := HI.out; omega
          subst hqj
          have hall : bs = writeB (xs.map Tn.b) := by rw [HBS.out, List.take_of_length_le (by rw [List.length_map, ← HLEN.out]; exact Nat.le_refl _)]
          have hov : S.size ≤ 4000 ∨ 4000 < S.size := by omega
          rcases hov with hov | hov
          · have d2 : decide ((4000 : Int) < (S.size : Int)) = false := decide_eq_false (by omega)
            have hno := wrO_yes HALL.out (by rw [← hall, ← HSZ.out]; exact hov)
            have e1 : RS = S := by rw [HS.out, HRS.out, hno, hall]
            have e2 : RE = 0 := by rw [HRE.out, hno]
            clear hno hall
            subst e1 e2
            go_wp2
            go_ret2
            exact ⟨rfl, HC.out⟩
          · have d2 : decide ((4000 : Int) < (S.size : Int)) = true := decide_eq_true (by omega)
            have hno := wrO_long HALL.out (by rw [← hall, ← HSZ.out]; exact hov)
            have e1 : RS = ⟨#[]⟩ := by rw [HRS.out, hno]
            have e2 : RE = 3 := by rw [HRE.out, hno]
            clear hno hall
            subst e1 e2
            go_wp2
            go_ret2
            exact ⟨rfl, HC.out⟩
end Go.Proofs.YteockaolmobmeaaGreatDoor.Mu

