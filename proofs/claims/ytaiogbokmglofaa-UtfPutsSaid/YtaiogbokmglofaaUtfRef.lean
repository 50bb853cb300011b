/-
  The document's Points, walked; whether two lists of points are one.
-/
import Derived.Test.YtaiogbokmglofaaUtfPts
namespace Go.Proofs.Ytaiogbokmglofaa.Mu
open Go.RowKit Go.Shelf

def lenV : Value → Nat
  | .slice _ n _ => n
  | _ => 0
theorem rnext_v {p : Pl} {c : Int} (hp : p.sm 4002) (w : World) :
    Calls Try.prog 17 #[.agg #[.int .i64 p.a, .int .i64 p.l, .int .i64 p.c], .int .i64 c] w fun e w' => e = .returned (.agg #[.int .i64 (p.next c).a, .int .i64 (p.next c).l, .int .i64 (p.next c).c]) ∧ Bel w w' :=
  rnext_any (by unfold Pl.sm at *; omega) w
theorem rpoints_long {s : ByteArray} (hs : 4000 < s.size) (w : World) : Calls Try.prog 11 #[.string s] w (ReadL w) := by
  have hs' : (4000 : Int) < (s.size : Int) := by omega
  go_enter Try.func11, Try.ntmps11
  go_wp2
  refine bodyPost_ret (v := .tuple #[.slice none 0 0, z0.v, dv 3 z0]) ?_ rfl ⟨?_, rfl⟩
  · simp [results, Try.results11, go_sem, Pl.v, dv, z0]
  · repeat (first | exact Bel.refl _ | refine Bel.set_ ?_ (by simp) _ | refine Bel.alloc ?_ _ | refine Bel.drew ?_)
set_option maxRecDepth 100000 in
set_option maxHeartbeats 4000000 in
theorem rpoints_cps {s : ByteArray} {cs : List Int} {rest : List UInt8} (h : Cps s.data.toList cs rest) (hs : s.size ≤ 4000) (w : World) : Calls Try.prog 11 #[.string s] w (ReadP cs rest w) := by
  have hlen : s.data.toList.length = s.size := by rw [Array.length_toList]; rfl
  have hcl : (encs cs).length + rest.length = s.size := by rw [← hlen, h.eq, List.length_append]
  have HL := Lib.hid hcl
  have H := Lib.hid h
  have hs' : (s.size : Int) ≤ 4000 := by omega
  clear h hlen hcl
  go_enter Try.func11, Try.ntmps11
  go_wp2
  go_loopw [5] (fun v wr => ∃ (j : Nat) (A : Option Addr) (c : Nat), j ≤ cs.length ∧ v = .slice A j c ∧
      wr.heap[w.heap.size + 2]? = some (.cells #[.int .i64 (ends p0 (cs.take j)).a, .int .i64 (ends p0 (cs.take j)).l, .int .i64 (ends p0 (cs.take j)).c] 26 (0, 0)) ∧
      wr.heap[w.heap.size]? = some (.cells #[.int .i64 0, .int .i64 0, .int .i64 0] 26 (0, 0)) ∧
      wr.heap[w.heap.size + 1]? = some (.cells #[.int .i64 0, .int .i64 0, .int .i64 0, .int .i64 0] 28 (0, 0)) ∧
      wr.ownsRow (w.heap.size + 3) 42 4 (.slice A j c) j (flatP (place p0 (cs.take j))) ∧ Hid (Bel w wr)) (fun v _ => cs.length - lenV v)
  case atStart =>
    have hb := blk3 w (.cells #[.int .i64 0, .int .i64 0, .int .i64 0] 26 (0, 0)) (.cells #[.int .i64 0, .int .i64 0, .int .i64 0, .int .i64 0] 28 (0, 0)) (.cells #[.int .i64 0, .int .i64 1, .int .i64 1] 26 (0, 0))
    exact ⟨0, none, 0, Nat.zero_le _, rfl, hb.2.2, hb.1, hb.2.1, World.ownsRow_nil _ _ _ _, (((Bel.refl w).alloc _).alloc _).alloc _⟩
  case round =>
    obtain ⟨j, A, cc, hj, rfl, hp, hz, hd, hown, HB⟩ := hrel
    have hsm := ends_sm (cs := cs.take j) (H.out.cp.take j) (n := 4000) (by
      have h1 : encs cs = encs (cs.take j) ++ encs (cs.drop j) := by rw [← encs_app, List.take_append_drop]
      have h2 := congrArg List.length h1
      rw [List.length_append] at h2
      have := HL.out; omega)
    have HSM := Lib.hid hsm
    have hBl : w.heap.size + 2 < wr.heap.size := (Array.getElem?_eq_some_iff.1 hp).1
    have hpa : (ends p0 (cs.take j)).a = ((encs (cs.take j)).length : Int) := by
      rw [ends_a (H.out.cp.take j)]; show 0 + _ = _; omega
    have hjl : j ≤ 4000 := by
      have := encs_len_ge H.out.cp
      have := HL.out
      omega
    clear hsm
    obtain ⟨pos, hpos⟩ : ∃ pos, pos = (encs (cs.take j)).length := ⟨_, rfl⟩
    obtain ⟨P, hP⟩ : ∃ P, P = ends p0 (cs.take j) := ⟨_, rfl⟩
    rw [← hpos] at hpa
    rw [← hP] at hp HSM hpa
    have HPQ := Lib.hid hP
    have HPA := Lib.hid hpa
    rw [hpa] at hp
    have HOW := Lib.hid hown
    have HZ := Lib.hid hz
    have HD := Lib.hid hd
    have HPP := Lib.hid hp
    obtain ⟨k0, k1, k2, f0, f1, f2⟩ := cells3 hp
    clear hP hpa hown hp
    by_cases hlt : j < cs.length
    · obtain ⟨c, hcj⟩ : ∃ c, cs[j]? = some c := ⟨_, List.getElem?_eq_getElem hlt⟩
      obtain ⟨hcp, hpre, hnext, hposlt⟩ := H.out.at_ hcj
      have hcb := (cpB_iff c).1 hcp
      have htk : cs.take (j + 1) = cs.take j ++ [c] := by
        rw [List.take_succ_eq_append_getElem hlt]
        rw [List.getElem?_eq_getElem hlt] at hcj
        rw [Option.some.inj hcj]
      rw [← hpos] at hposlt hpre
      have hpos1 : (pos : Int) < (s.size : Int) := by omega
      have HT := Lib.hid htk
      have HCP := Lib.hid hcp
      have HPRE := Lib.hid hpre
      clear htk hcp hpre hpos hnext hcj hz hd
      have hc0 : 0 ≤ c := by omega
      have hc9 : c ≤ 1114111 := by omega
      clear hcb
      go_wp2_with fail
      refine (rone_any hposlt (by omega) _).mono ?_
      rintro e w2 ⟨n, rfl, hb2, hn⟩
      have hnc : n = c := by
        rcases hn with ⟨h1, h2⟩ | ⟨-, h2⟩
        · exact enc_pre h1 HCP.out h2 HPRE.out
        · exact absurd HPRE.out (h2 c HCP.out)
      subst hnc
      have HP2 := Lib.hid (hb2.blk HPP.out)
      have HZ2 := Lib.hid (hb2.blk HZ.out)
      have HD2 := Lib.hid (hb2.blk HD.out)
      have HO2 := Lib.hid (owns_bel HOW.out hb2)
      have HB2 := Lib.hid (HB.out.on hb2)
      have hB2 : w.heap.size + 2 < w2.heap.size := by have := hb2.size; omega
      clear hb2 hn k0 k1 k2 f0 f1 f2
      obtain ⟨k0, k1, k2, f0, f1, f2⟩ := cells3 HP2.out
      go_wp2_with (at_builtin; refine wpList_append_one rfl _ _ 23 rfl (w.heap.size + 3) 42 _ 4 32 Try.underlying23 info_pt rfl (by decide) (by decide) A j cc _ rfl (HO2.out.alloc _) w2.heap.size [.int .i32 n, .int .i64 pos, .int .i64 P.l, .int .i64 P.c] rfl rfl (four_at w2 _ _ _ _ _) (by simp [Value.oneCell']) (by omega) (by simp; omega) ?_; intro V5 c5 w5 hown5 hg5; have HP5 := Lib.hid ((grown_keep HO2.out hg5 (k := w.heap.size + 2) (by omega) (by omega)).trans HP2.out); have HZ5 := Lib.hid ((grown_keep HO2.out hg5 (k := w.heap.size) (by omega) (by omega)).trans HZ2.out); have HD5 := Lib.hid ((grown_keep HO2.out hg5 (k := w.heap.size + 1) (by omega) (by omega)).trans HD2.out); have HB5 := Lib.hid (grown_bel HO2.out HB2.out hg5 (by omega)); have HO5 := Lib.hid hown5; clear hown5 hg5 k0 k1 k2 f0 f1 f2; obtain ⟨k0, k1, k2, f0, f1, f2⟩ := cells3 HP5.out)
      refine (show ∀ w, Calls Try.prog 17 #[.agg #[.int .i64 pos, .int .i64 P.l, .int .i64 P.c], .int .i64 n] w fun e w' => e = .returned (.agg #[.int .i64 (P.next n).a, .int .i64 (P.next n).l, .int .i64 (P.next n).c]) ∧ Bel w w' from fun w => by have := rnext_v (p := P) (c := n) HSM.out w; rw [HPA.out] at this; exact this) _ |>.mono ?_
      rintro e w6 ⟨rfl, hb6⟩
      have HP6 := Lib.hid (hb6.blk HP5.out)
      have HZ6 := Lib.hid (hb6.blk HZ5.out)
      have HD6 := Lib.hid (hb6.blk HD5.out)
      have HO6 := Lib.hid (owns_bel HO5.out hb6)
      have HB6 := Lib.hid (HB5.out.on hb6)
      clear hb6 k0 k1 k2 f0 f1 f2
      obtain ⟨k0, k1, k2, f0, f1, f2⟩ := cells3 HP6.out
      have hB6 : w.heap.size + 2 < w6.heap.size := (Array.getElem?_eq_some_iff.1 HP6.out).1
      go_wp2
      go_roundw
      case rel =>
        exact ⟨j + 1, V5, c5, by omega, rfl, by rw [HT.out, ends_snoc, ← HPQ.out]; exact put3_blk HP6.out _ _ _, (put3_other (by omega) _ _ _).trans HZ6.out, (put3_other (by omega) _ _ _).trans HD6.out, by
          have := put3_own (g := w.heap.size + 2) HO6.out (by omega) (.int .i64 (P.next n).a) (.int .i64 (P.next n).l) (.int .i64 (P.next n).c)
          rw [HT.out, place_snoc, flatP_snoc, ← HPQ.out]
          show World.ownsRow _ _ _ _ _ _ (_ ++ [.int .i32 n, .int .i64 P.a, .int .i64 P.l, .int .i64 P.c])
          rw [HPA.out]
          exact this, Bel.set_ (Bel.set_ (Bel.set_ HB6.out (by show w.heap.size ≤ w.heap.size + 2; omega) _) (by show w.heap.size ≤ w.heap.size + 2; omega) _) (by show w.heap.size ≤ w.heap.size + 2; omega) _⟩
      case measure => simp [lenV]; omega
    · obtain rfl : j = cs.length := by omega
      simp only [List.take_length] at HOW HPQ hpos
      obtain ⟨zz0, zz1, zz2, zf0, zf1, zf2⟩ := cells3 hz
      obtain ⟨d0, d1, d2, d3, df0, df1, df2, df3⟩ := cells4 hd
      have hBl0 : w.heap.size < wr.heap.size := by omega
      have hBl1 : w.heap.size + 1 < wr.heap.size := by omega
      by_cases hr : rest = []
      · have hend : (s.size : Int) ≤ (pos : Int) := by have := HL.out; rw [hr] at this; simp at this; omega
        have HR := Lib.hid hr
        clear hr hz hd hpos
        go_wp2_with fail
        go_region_with (fail)
        all_goals
          go_wp2
          refine bodyPost_ret (v := .tuple #[.slice A cs.length cc, .agg #[.int .i64 pos, .int .i64 P.l, .int .i64 P.c], dv 0 Mu.z0]) ?_ rfl ⟨?_, ?_⟩
          · simp [results, Try.results11, go_sem, dv, Mu.z0, *]
          · repeat (first | with_reducible exact HB.out | with_reducible refine Bel.set_ ?_ (by simp) _ | with_reducible refine Bel.alloc ?_ _ | with_reducible refine Bel.drew ?_)
          · rw [if_pos HR.out]
            refine ⟨A, cs.length, cc, by rw [← HPQ.out, ← HPA.out]; rfl, RP.of_own (base := w.heap.size + 3) (c := cc) (e := 42) ?_⟩
            repeat (first | with_reducible exact HOW.out | with_reducible refine own_set ?_ (by show _ < w.heap.size + 3; simp) _ | with_reducible refine own_drew ?_)
      · have hrl : 0 < rest.length := List.length_pos_iff.2 hr
        have hlt2 : pos < s.size := by have := HL.out; omega
        have hpos1 : (pos : Int) < (s.size : Int) := by omega
        have hno : ∀ c, cpB c = true → ¬ enc c <+: s.data.toList.drop pos := fun c hc hp => by
          rw [hpos, H.out.eq, List.drop_left] at hp
          exact H.out.no c hc hp
        have HNO := Lib.hid hno
        have HR := Lib.hid hr
        clear hno hr hrl hpos
        go_wp2_with fail
        refine (rone_any hlt2 (by omega) _).mono ?_
        rintro e w2 ⟨n, rfl, hb2, hn⟩
        have hn1 : n = -1 := by
          rcases hn with ⟨h1, h2⟩ | ⟨h1, -⟩
          · exact absurd h2 (HNO.out n h1)
          · exact h1
        subst hn1
        have HB2 := Lib.hid (HB.out.on hb2)
        have hB2 : w.heap.size + 2 < w2.heap.size := by have := hb2.size; omega
        have hB20 : w.heap.size < w2.heap.size := by omega
        have hB21 : w.heap.size + 1 < w2.heap.size := by omega
        have hp2 := hb2.blk HPP.out
        have hz2 := hb2.blk hz
        have hd2 := hb2.blk hd
        clear hb2 hn hz hd k0 k1 k2 f0 f1 f2 zz0 zz1 zz2 zf0 zf1 zf2 d0 d1 d2 d3 df0 df1 df2 df3
        obtain ⟨k0, k1, k2, f0, f1, f2⟩ := cells3 hp2
        obtain ⟨zz0, zz1, zz2, zf0, zf1, zf2⟩ := cells3 hz2
        obtain ⟨d0, d1, d2, d3, df0, df1, df2, df3⟩ := cells4 hd2
        clear hp2 hz2 hd2
        go_wp2_with fail
        go_region_with (fail)
        all_goals
          go_wp2
          refine bodyPost_ret (v := .tuple #[.slice none 0 0, Mu.z0.v, .agg #[.int .i64 90, .int .i64 pos, .int .i64 P.l, .int .i64 P.c]]) ?_ rfl ⟨?_, ?_⟩
          · simp [results, Try.results11, go_sem, Pl.v, Mu.z0, *]
          · repeat (first | with_reducible exact HB2.out | with_reducible refine Bel.set_ ?_ (by simp) _ | with_reducible refine Bel.alloc ?_ _ | with_reducible refine Bel.drew ?_)
          · rw [if_neg HR.out, ← HPQ.out, ← HPA.out]; rfl
theorem rpoints_o {s : ByteArray} {cs : List Int} {rest : List UInt8} (h : Cps s.data.toList cs rest) (w : World) : Calls Try.prog 11 #[.string s] w (GO3 (ot s.size cs rest) w) := by
  unfold ot
  by_cases h1 : 4000 < s.size
  · rw [if_pos h1]
    exact (rpoints_long h1 w).mono fun e w' k => ⟨k.1, none, 0, 0, k.2, RP.nil_⟩
  · rw [if_neg h1]
    by_cases hr : rest = []
    · rw [if_pos hr]
      refine (rpoints_cps h (by omega) w).mono fun e w' k => ⟨k.1, ?_⟩
      have := k.2
      rw [if_pos hr] at this
      exact this
    · rw [if_neg hr]
      refine (rpoints_cps h (by omega) w).mono fun e w' k => ⟨k.1, none, 0, 0, ?_, RP.nil_⟩
      have := k.2
      rw [if_neg hr] at this
      exact this
set_option maxHeartbeats 2000000 in
theorem rsame9_any {A B : Option Addr} {n ca cb : Nat} {xs : List Pn} (w : World) (ha : RP w w.heap.size A n xs) (hb : RP w w.heap.size B n xs) (hn : n ≤ 4000) :
    Calls Try.prog 12 #[.slice A n ca, .slice B n cb] w fun e w' => e = .returned (.bool true) ∧ ∃ k, w' = w.drewN k := by
  have HA := Lib.hid ha
  have HB := Lib.hid hb
  clear ha hb
  go_enter Try.func12, Try.ntmps12
  go_wp2
  go_loopw [5] (fun v wr => ∃ j k : Nat, j ≤ n ∧ v = .int .i64 j ∧ wr = w.drewN k) (fun v _ => n - (intOf v).toNat)
  case atStart => exact ⟨0, 0, Nat.zero_le _, rfl, rfl⟩
  case round =>
    obtain ⟨j, k, hj, rfl, rfl⟩ := hrel
    by_cases hlt : j < n
    · obtain ⟨x, hx⟩ : ∃ x, xs[j]? = some x := ⟨_, List.getElem?_eq_getElem (by have := HA.out.len; omega)⟩
      obtain ⟨b1, o1, rfl, hb1, hc1⟩ := HA.out.at_ (by omega)
      obtain ⟨b2, o2, rfl, hb2, hc2⟩ := HB.out.at_ (by omega)
      obtain ⟨a0, a1, a2, a3⟩ := hc1 j x hx
      obtain ⟨e0, e1, e2, e3⟩ := hc2 j x hx
      have hq : ∀ w, (Op.equalIn 10000 42 (.agg #[.int .i32 x.r, .int .i64 x.p.a, .int .i64 x.p.l, .int .i64 x.p.c]) (.agg #[.int .i32 x.r, .int .i64 x.p.a, .int .i64 x.p.l, .int .i64 x.p.c])).run Try.prog w = .ok true w := fun w => by rw [point_in]; simp
      clear hc1 hc2 hx
      go_wp2_with fail
      go_quiet (fail)
      go_wp2
      go_roundw
      case rel => exact ⟨j + 1, _, by omega, by go_num, rfl⟩
      case measure => simp [intOf]; omega
    · go_wp2
      go_ret
      exact ⟨rfl, k, rfl⟩
end Go.Proofs.Ytaiogbokmglofaa.Mu

