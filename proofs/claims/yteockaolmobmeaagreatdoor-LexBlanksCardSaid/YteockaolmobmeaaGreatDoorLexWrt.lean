/-
  lex.Write, walked.
-/
import Derived.Test.YteockaolmobmeaaGreatDoorLexWto
import Derived.Deep.DeepCutAuto
import Derived.IntWalk
import Derived.Lib.ItoaLen
namespace Go.Proofs.YteockaolmobmeaaGreatDoor.Mu
open Go.RowKit Go.Shelf
set_option maxRecDepth 100000

theorem wrO_no {ts : List (Int × List UInt8 × Int)} {t : Int × List UInt8 × Int} (h : t ∈ ts) (hm : ¬ mayTk t) : wrO ts = ([], 2) := by
  unfold wrO; rw [if_neg fun h' => hm (h' t h)]
theorem wrO_long {ts : List (Int × List UInt8 × Int)} (h : ∀ t ∈ ts, mayTk t) (hl : 4000 < (writeB ts).length) : wrO ts = ([], 3) := by
  unfold wrO; rw [if_pos h, if_neg (by omega)]
theorem wrO_yes {ts : List (Int × List UInt8 × Int)} (h : ∀ t ∈ ts, mayTk t) (hl : (writeB ts).length ≤ 4000) : wrO ts = (writeB ts, 0) := by
  unfold wrO; rw [if_pos h, if_pos hl]
theorem wri_len {k : Int} {s : List UInt8} {n : Int} (h0 : -9223372036854775808 ≤ n) (h1 : n ≤ 9223372036854775807) : (wriB k s n).length ≤ 2 * s.length + 30 := by
  unfold wriB
  by_cases k3 : k = 3
  · rw [if_pos k3]
    have := Lib.itoa_length_le n h0 h1
    omega
  · rw [if_neg k3]
    by_cases k4 : k = 4
    · rw [if_pos k4, List.length_cons, List.length_append]
      have := (escL_ge s).2
      show (s.flatMap escB).length + 1 + 1 ≤ _
      omega
    · rw [if_neg k4]; omega
open Classical in
set_option maxHeartbeats 8000000 in
theorem write10_any {A : Option Addr} {n cp : Nat} {xs : List Tn} (w : World) (htab : Tbl w) (hr : RTn w w.heap.size A n xs) (hn : n ≤ 140737488355328) (hx : ∀ x ∈ xs, x.s.length ≤ 140737488355328 ∧ -9223372036854775808 ≤ x.n ∧ x.n ≤ 9223372036854775807) :
    Calls Tryz.prog 17 #[.slice A n cp] w fun e w' => e = .returned (.tuple #[.string ⟨(wrO (xs.map Tn.b)).1.toArray⟩, .int .i64 (wrO (xs.map Tn.b)).2]) ∧ Bel w w' := by
  obtain ⟨RS, hRS⟩ : ∃ RS, RS = (wrO (xs.map Tn.b)).1 := ⟨_, rfl⟩
  obtain ⟨RE, hRE⟩ : ∃ RE, RE = (wrO (xs.map Tn.b)).2 := ⟨_, rfl⟩
  rw [← hRS, ← hRE]
  have HRS := Lib.hid hRS
  have HRE := Lib.hid hRE
  have HTB := Lib.hid htab
  have HR := Lib.hid hr
  have HX := Lib.hid hx
  have hlen := hr.1
  have HLEN := Lib.hid hlen
  have HIS : Hid (∀ (j : Nat) (x : Tn), xs[j]? = some x → ∀ W, Bel w W → Calls Tryz.prog 28 #[.agg #[.int .u8 x.k, .string ⟨x.s.toArray⟩, .int .i64 x.n, .int .i64 x.p.a, .int .i64 x.p.l, .int .i64 x.p.c]] W fun e w' => e = .returned (.bool (decide (mayTk x.b))) ∧ Bel W w') := Lib.hid fun j x hj W hW => by
    obtain ⟨b1, b2, b3⟩ := hx x (List.mem_of_getElem? hj)
    exact isToken_any x.k x.s x.n x.p.a x.p.l x.p.c (by omega) b2 b3 W (htab.bel hW)
  have HWR : Hid (∀ (j : Nat) (x : Tn), xs[j]? = some x → x.s.length ≤ 100000 → ∀ W, Bel w W → Calls Tryz.prog 29 #[.agg #[.int .u8 x.k, .string ⟨x.s.toArray⟩, .int .i64 x.n, .int .i64 x.p.a, .int .i64 x.p.l, .int .i64 x.p.c]] W fun e w' => e = .returned (.string ⟨(wriB x.k x.s x.n).toArray⟩) ∧ Bel W w') := Lib.hid fun j x hj hs W hW => by
    obtain ⟨b1, b2, b3⟩ := hx x (List.mem_of_getElem? hj)
    exact written_any x.k x.s x.n x.p.a x.p.l x.p.c (fun _ => hs) b2 b3 W (htab.bel hW)
  clear hRS hRE htab hr hx hlen
  go_enter Tryz.func17, Tryz.ntmps17
  go_wp2_with fail
  go_loopg [11] (n + 1) (fun gk v wr => ∃ j : Nat, v = .int .i64 (j : Int) ∧ Hid (j ≤ n ∧ n - j < gk) ∧ Hid (∀ t ∈ (xs.map Tn.b).take j, mayTk t) ∧ Hid (Bel w wr))
  case atStart =>
    exact ⟨0, rfl, Lib.hid ⟨by omega, by omega⟩, Lib.hid (by simp), Lib.hid (Bel.refl w)⟩
  case round =>
    obtain ⟨j, rfl, HJ, HM, HB⟩ := hrel
    by_cases hj : j < n
    · obtain ⟨x, hx⟩ : ∃ x, xs[j]? = some x := ⟨_, List.getElem?_eq_getElem (by have := HLEN.out; omega)⟩
      obtain ⟨b, off, rfl, hb, hcc⟩ := (HR.out.bel HB.out).2 (by omega)
      obtain ⟨x0, x1, x2, x3, x4, x5⟩ := hcc j x hx
      have HXX := Lib.hid hx
      clear hcc hx
      go_wp2_with fail
      refine (HIS.out j x HXX.out _ (HB.out.alloc _)).mono ?_
      rintro e w1 ⟨rfl, hb1⟩
      have HB1 := Lib.hid ((HB.out.alloc _).on hb1)
      clear hb1 x0 x1 x2 x3 x4 x5
      have hxb : (xs.map Tn.b)[j]? = some x.b := by rw [List.getElem?_map, HXX.out]; rfl
      have HXB := Lib.hid hxb
      clear hxb
      by_cases hm : mayTk x.b
      · rw [decide_eq_true hm]
        go_wp2
        go_roundg (gk - 1)
        case rel =>
          refine ⟨j + 1, rfl, Lib.hid ⟨by omega, by have := HJ.out; omega⟩, Lib.hid ?_, HB1⟩
          have hlt := (List.getElem?_eq_some_iff.1 HXB.out).1
          rw [List.take_succ_eq_append_getElem hlt, (List.getElem?_eq_some_iff.1 HXB.out).2]
          intro t ht
          rcases List.mem_append.1 ht with h | h
          · exact HM.out t h
          · rw [List.mem_singleton.1 h]; exact hm
        case measure => have := HJ.out; omega
      · rw [decide_eq_false hm]
        have hno := wrO_no (List.mem_of_getElem? HXB.out) hm
        have e1 : RS = [] := by rw [HRS.out, hno]
        have e2 : RE = 2 := by rw [HRE.out, hno]
        clear hno
        subst e1 e2
        go_wp2
        go_ret2
        exact ⟨rfl, HB1.out⟩
    · have hjn : j = n := by have := HJ.out; omega
      subst hjn
      have HALL : Hid (∀ t ∈ xs.map Tn.b, mayTk t) := by
        have := HM.out
        rw [List.take_of_length_le (by rw [List.length_map, ← HLEN.out]; exact Nat.le_refl _)] at this
        exact Lib.hid this
      clear HM HIS
      go_wp2_with fail
      obtain ⟨w0, hw0⟩ : ∃ w0, w0 = wr := ⟨_, rfl⟩
      subst hw0
      have HN0 := Lib.hid ((Bel.refl w0).alloc (.cells #[.pointer none, .slice none 0 0] 42))
      have HSZ := Lib.hid HB.out.size
      go_loopg [21] (j + 1) (fun gk v wr => ∃ i : Nat, v = .int .i64 (i : Int) ∧ Hid (i ≤ j ∧ j - i < gk) ∧ Hid (BufF w.heap.size w0.heap.size (writeB ((xs.map Tn.b).take i)) wr ∧ (writeB ((xs.map Tn.b).take i)).length ≤ 20000 ∧ w0.heap.size < wr.heap.size) ∧ Hid (Bel w wr))
      case atStart =>
        refine ⟨0, rfl, Lib.hid ⟨by omega, by omega⟩, Lib.hid ⟨?_, ?_, ?_⟩, Lib.hid (HB.out.alloc _)⟩
        · exact BufF.new_ HSZ.out (blk1 w0 _)
        · simp [writeB]
        · simp
      case round =>
        obtain ⟨i, rfl, HI, HF, HC⟩ := hrel
        by_cases hi : i < j
        · obtain ⟨x, hx⟩ : ∃ x, xs[i]? = some x := ⟨_, List.getElem?_eq_getElem (by have := HLEN.out; omega)⟩
          obtain ⟨b, off, rfl, hb, hcc⟩ := (HR.out.bel HC.out).2 (by omega)
          obtain ⟨x0, x1, x2, x3, x4, x5⟩ := hcc i x hx
          have HXX := Lib.hid hx
          clear hcc hx
          go_wp2_with fail
          refine wp_abs' ?_
          intro W hW
          have HCW : Hid (Bel w W) := by rw [hW]; exact Lib.hid (HC.out.alloc _)
          have hrW : Bel wr W := by rw [hW]; exact (Bel.refl wr).alloc _
          have hqW : W.heap[wr.heap.size]? = some (.cells #[.int .u8 x.k, .string ⟨x.s.toArray⟩, .int .i64 x.n, .int .i64 x.p.a, .int .i64 x.p.l, .int .i64 x.p.c] 44 (0, 0)) := by rw [hW]; exact blk1 wr _
          have HQW := Lib.hid hqW
          obtain ⟨bs, hbs⟩ : ∃ bs, bs = writeB ((xs.map Tn.b).take i) := ⟨_, rfl⟩
          have hf := HF.out
          rw [← hbs] at hf
          have HBS := Lib.hid hbs
          have HFW := Lib.hid (hf.1.bel hrW)
          have hb20 := hf.2.1
          have hw0r := hf.2.2
          have HL : Hid (∀ V, BufF w.heap.size w0.heap.size bs V → Calls Tryz.prog 23 #[.pointer (some ⟨w0.heap.size, 0, none⟩)] V fun e w' => e = .returned (.int .i64 (bs.length : Int)) ∧ w' = V) := Lib.hid fun V h => by
            have := Tryz.Builder_Len_f _ _ _ V h
            rw [Lib.byteCells_length] at this
            exact this
          have hxs := (HX.out x (List.mem_of_getElem? HXX.out)).1
          obtain ⟨S, hS⟩ : ∃ S, S = x.s.length := ⟨_, rfl⟩
          rw [← hS] at hxs
          have hsz : (⟨x.s.toArray⟩ : ByteArray).size = S := by rw [hS]; simp [ByteArray.size]
          have HS := Lib.hid hS
          have hsum : IntKind.i64.wrap ((bs.length : Int) + (S : Int)) = (bs.length : Int) + (S : Int) := by apply IntWalk.i64_in <;> omega
          clear hW hqW hbs hf hrW hS x0 x1 x2 x3 x4 x5 hb
          obtain ⟨⟨t0, t1, t2, t3, t4, t5⟩, -⟩ := cells6 HQW.out
          have HLW := Lib.hid (HL.out W.drew HFW.out)
          go_cut [31] (fun v wx => Hid (v = .bool (decide (4000 < (bs.length : Int) + (S : Int))) ∧ wx = W.drew))
          case first =>
            go_region_with (go_at_call 23; refine HLW.out.mono ?_; rintro e w' ⟨rfl, rfl⟩)
            all_goals go_wp2_with fail
            all_goals go_meet
            all_goals exact Lib.hid ⟨rfl, rfl⟩
          case rest =>
            obtain ⟨rfl, rfl⟩ := hcut.out
            have HXB : Hid ((xs.map Tn.b)[i]? = some x.b) := Lib.hid (by rw [List.getElem?_map, HXX.out]; rfl)
            have HMX := Lib.hid (HALL.out x.b (List.mem_of_getElem? HXB.out))
            clear HL HLW hsum hsz
            by_cases hov : (4000 : Int) < (bs.length : Int) + (S : Int)
            · have hlong : 4000 < (writeB (xs.map Tn.b)).length := by
                have h1 := over_long HXB.out HMX.out
                rw [← HBS.out] at h1
                have h2 : x.b.2.1.length = S := HS.out.symm
                omega
              have hno := wrO_long HALL.out hlong
              have e1 : RS = [] := by rw [HRS.out, hno]
              have e2 : RE = 3 := by rw [HRE.out, hno]
              clear hno hlong
              subst e1 e2
              rw [decide_eq_true hov]
              go_wp2
              go_ret2
              exact ⟨rfl, HCW.out.drew⟩
            · rw [decide_eq_false hov]
              have hS4 : S ≤ 4000 := by omega
              have hb4 : bs.length ≤ 4000 := by omega
              have hsl : x.s.length ≤ 4000 := by rw [← HS.out]; exact hS4
              clear hov
              have HPL : Hid ((wriB x.k x.s x.n).length ≤ 9000) := by
                have h2 := HX.out x (List.mem_of_getElem? HXX.out)
                have h3 := wri_len (k := x.k) (s := x.s) h2.2.1 h2.2.2
                exact Lib.hid (by omega)
              have HEQ : Hid (writeB ((xs.map Tn.b).take (i + 1)) = bs ++ ((if 0 < i then [32] else []) ++ wriB x.k x.s x.n)) := by
                rw [HBS.out, writeB_take HXB.out, show wriB x.k x.s x.n = putB x.b.1 x.b.2.1 x.b.2.2 from wri_put HMX.out]
                exact Lib.hid rfl
              have HWX := Lib.hid (fun V hV => HWR.out i x HXX.out (by omega) V hV)
              obtain ⟨P, hP⟩ : ∃ P, P = wriB x.k x.s x.n := ⟨_, rfl⟩
              rw [← hP] at HPL HEQ HWX
              have hpl := HPL.out
              have hsW : w0.heap.size < W.drew.heap.size := by
                have h1 := (Array.getElem?_eq_some_iff.1 HQW.out).1
                show w0.heap.size < W.heap.size
                omega
              have hwW : w.heap.size ≤ w0.heap.size := HSZ.out
              clear hP
              by_cases h0 : 0 < i
              · have d0 : decide ((0 : Int) < (i : Int)) = true := decide_eq_true (by omega)
                have HE2 : Hid (writeB ((xs.map Tn.b).take (i + 1)) = bs ++ [32] ++ P) := Lib.hid (by rw [HEQ.out, if_pos h0, List.append_assoc])
                clear HEQ
                go_wp2_with fail
                refine (wb10_any w.heap.size w0.heap.size bs 32 32 rfl W.drew HFW.out (by omega) (by omega)).mono ?_
                rintro e w3 ⟨rfl, hf3, hk3⟩
                have HC3 : Hid (Bel w w3) := Lib.hid (Below.trans HCW.out.drew hk3.1)
                have HF3 := Lib.hid hf3
                have hq3 := hk3.2 wr.heap.size _ HQW.out (by intro e; injection e; omega) (by intro c fz e; injection e with e1 e2 e3; exact absurd e2 (by decide))
                have hs3 : w0.heap.size < w3.heap.size := Nat.lt_of_lt_of_le hsW hk3.1.size
                clear t0 t1 t2 t3 t4 t5 hf3 hk3 d0
                obtain ⟨⟨t0, t1, t2, t3, t4, t5⟩, -⟩ := cells6 hq3
                clear hq3
                go_wp2_with fail
                refine (HWX.out _ HC3.out).mono ?_
                rintro e w4 ⟨rfl, hb4'⟩
                have HC4 := Lib.hid (HC3.out.on hb4')
                have HF4 := Lib.hid (HF3.out.bel hb4')
                have hs4 : w0.heap.size < w4.heap.size := Nat.lt_of_lt_of_le hs3 hb4'.size
                clear hb4' t0 t1 t2 t3 t4 t5
                go_wp2_with fail
                refine (ws10_any w.heap.size w0.heap.size (bs ++ [32]) P w4 HF4.out (by rw [List.length_append]; simp only [List.length_cons, List.length_nil]; omega) (by omega)).mono ?_
                rintro e w5 ⟨rfl, hf5, hk5⟩
                have HC5 : Hid (Bel w w5) := Lib.hid (Below.trans HC4.out hk5.1)
                have HF5 := Lib.hid hf5
                have hs5 : w0.heap.size < w5.heap.size := Nat.lt_of_lt_of_le hs4 hk5.1.size
                clear hf5 hk5
                go_wp2
                go_roundg (gk - 1)
                case rel =>
                  refine ⟨i + 1, rfl, Lib.hid ⟨by omega, by have := HI.out; omega⟩, Lib.hid ⟨?_, ?_, hs5⟩, HC5⟩
                  · rw [HE2.out]; exact HF5.out
                  · rw [HE2.out, List.length_append, List.length_append]; simp only [List.length_cons, List.length_nil]; omega
                case measure => have := HI.out; omega
              · have d0 : decide ((0 : Int) < (i : Int)) = false := decide_eq_false (by omega)
                have HE2 : Hid (writeB ((xs.map Tn.b).take (i + 1)) = bs ++ [] ++ P) := Lib.hid (by rw [HEQ.out, if_neg h0, List.append_assoc])
                clear HEQ
                obtain ⟨w3, hw3⟩ : ∃ w3, w3 = W.drew := ⟨_, rfl⟩
                have HC3 : Hid (Bel w w3) := by rw [hw3]; exact Lib.hid HCW.out.drew
                have HF3 : Hid (BufF w.heap.size w0.heap.size (bs ++ []) w3) := by rw [hw3, List.append_nil]; exact Lib.hid HFW.out
                have hs3 : w0.heap.size < w3.heap.size := by rw [hw3]; exact hsW
                rw [← hw3]
                have hq3 : w3.heap[wr.heap.size]? = some (.cells #[.int .u8 x.k, .string ⟨x.s.toArray⟩, .int .i64 x.n, .int .i64 x.p.a, .int .i64 x.p.l, .int .i64 x.p.c] 44 (0, 0)) := by rw [hw3]; exact HQW.out
                clear t0 t1 t2 t3 t4 t5 hw3
                obtain ⟨⟨t0, t1, t2, t3, t4, t5⟩, -⟩ := cells6 hq3
                clear hq3
                go_wp2_with fail
                refine (HWX.out _ HC3.out).mono ?_
                rintro e w4 ⟨rfl, hb4'⟩
                have HC4 := Lib.hid (HC3.out.on hb4')
                have HF4 := Lib.hid (HF3.out.bel hb4')
                have hs4 : w0.heap.size < w4.heap.size := Nat.lt_of_lt_of_le hs3 hb4'.size
                clear hb4' t0 t1 t2 t3 t4 t5
                go_wp2_with fail
                refine (ws10_any w.heap.size w0.heap.size (bs ++ []) P w4 HF4.out (by rw [List.length_append]; simp only [List.length_nil]; omega) (by omega)).mono ?_
                rintro e w5 ⟨rfl, hf5, hk5⟩
                have HC5 : Hid (Bel w w5) := Lib.hid (Below.trans HC4.out hk5.1)
                have HF5 := Lib.hid hf5
                have hs5 : w0.heap.size < w5.heap.size := Nat.lt_of_lt_of_le hs4 hk5.1.size
                clear hf5 hk5
                go_wp2
                go_roundg (gk - 1)
                case rel =>
                  refine ⟨i + 1, rfl, Lib.hid ⟨by omega, by have := HI.out; omega⟩, Lib.hid ⟨?_, ?_, hs5⟩, HC5⟩
                  · rw [HE2.out]; exact HF5.out
                  · rw [HE2.out, List.length_append, List.length_append]; simp only [List.length_nil]; omega
                case measure => have := HI.out; omega
        · have hin : i = j := by have := HI.out; omega
          subst hin
          obtain ⟨bs, hbs⟩ : ∃ bs, bs = writeB (xs.map Tn.b) := ⟨_, rfl⟩
          have hf := HF.out
          rw [List.take_of_length_le (by rw [List.length_map, ← HLEN.out]; exact Nat.le_refl _), ← hbs] at hf
          have HBS := Lib.hid hbs
          have HFW := Lib.hid hf.1
          have hl2 : bs.length ≤ 20000 := hf.2.1
          have hbw : w.heap.size ≤ wr.heap.size := HC.out.size
          have HL : Hid (Calls Tryz.prog 23 #[.pointer (some ⟨w0.heap.size, 0, none⟩)] wr fun e w' => e = .returned (.int .i64 (bs.length : Int)) ∧ w' = wr) := by
            have := Tryz.Builder_Len_f _ _ _ wr HFW.out
            rw [Lib.byteCells_length] at this
            exact Lib.hid this
          have HST : Hid (Calls Tryz.prog 24 #[.pointer (some ⟨w0.heap.size, 0, none⟩)] wr fun e w' => e = .returned (.string ⟨bs.toArray⟩) ∧ Bel w w') :=
            Lib.hid ((Tryz.Builder_String_any_f _ _ bs wr HFW.out hbw).mono fun e w' h => ⟨h.1, Below.trans HC.out h.2.2⟩)
          clear hf hbs
          go_wp2_with fail
          refine HL.out.mono ?_
          rintro e w' ⟨rfl, hww⟩
          subst hww
          by_cases hov : (4000 : Int) < (bs.length : Int)
          · have hno := wrO_long HALL.out (by rw [← HBS.out]; omega)
            have e1 : RS = [] := by rw [HRS.out, hno]
            have e2 : RE = 3 := by rw [HRE.out, hno]
            clear hno
            subst e1 e2
            have d0 := decide_eq_true hov
            go_wp2
            go_ret2
            exact ⟨rfl, HC.out⟩
          · have hno := wrO_yes HALL.out (by rw [← HBS.out]; omega)
            have e1 : RS = bs := by rw [HRS.out, hno, HBS.out]
            have e2 : RE = 0 := by rw [HRE.out, hno]
            clear hno
            subst e1 e2
            have d0 := decide_eq_false hov
            go_wp2_with fail
            refine HST.out.mono ?_
            rintro e w3 ⟨rfl, hb3⟩
            have HB3 := Lib.hid hb3
            clear hb3
            go_wp2
            go_ret2
            exact ⟨rfl, HB3.out⟩
end Go.Proofs.YteockaolmobmeaaGreatDoor.Mu

