/-
  UtfBack, the theorem of stage 9, walked.
-/
import Derived.Test.YtaiogbokmglofaaUtfLaws
namespace Go.Proofs.Ytaiogbokmglofaa.Mu
open Go.RowKit Go.Shelf

theorem size_of (s : ByteArray) : s.data.toList.length = s.size := by rw [Array.length_toList]; rfl
theorem points_good {s : ByteArray} {cs : List Int} (h : Cps s.data.toList cs []) (hs : s.size ≤ 4000) (w : World) : Calls Try.prog 9 #[.string s] w fun e w' => Bel w w' ∧ ∃ A n c, e = .returned (.tuple #[.slice A n c, .agg #[.int .i64 0, .int .i64 0, .int .i64 0, .int .i64 0]]) ∧ RP w' w'.heap.size A n (place p0 cs) := by
  have := points_any h w
  unfold ot at this
  rw [if_neg (by omega), if_pos rfl] at this
  exact this
theorem end_good {s : ByteArray} {cs : List Int} (h : Cps s.data.toList cs []) (hs : s.size ≤ 4000) (w : World) : Calls Try.prog 10 #[.string s] w fun e w' => Bel w w' ∧ e = .returned (.tuple #[.agg #[.int .i64 (ends p0 cs).a, .int .i64 (ends p0 cs).l, .int .i64 (ends p0 cs).c], .agg #[.int .i64 0, .int .i64 0, .int .i64 0, .int .i64 0]]) := by
  have := end_any h w
  unfold ot at this
  rw [if_neg (by omega), if_pos rfl] at this
  exact this
theorem points_err {s : ByteArray} {cs : List Int} {rest : List UInt8} (h : Cps s.data.toList cs rest) (hs : ¬ (s.size ≤ 4000 ∧ rest = [])) : ∃ (x : Int) (q : Pl), x ≠ 0 ∧ ∀ w : World, Calls Try.prog 9 #[.string s] w fun e w' => Bel w w' ∧ ∃ A c, e = .returned (.tuple #[.slice A 0 c, .agg #[.int .i64 x, .int .i64 q.a, .int .i64 q.l, .int .i64 q.c]]) := by
  by_cases h1 : 4000 < s.size
  · refine ⟨3, z0, by decide, fun w => (points_any h w).mono fun e w' k => ?_⟩
    unfold ot at k
    rw [if_pos h1] at k
    obtain ⟨hb, A, n, c, he, hq⟩ := k
    obtain rfl : n = 0 := hq.len
    exact ⟨hb, A, c, he⟩
  · have hr : ¬ rest = [] := fun e => hs ⟨by omega, e⟩
    refine ⟨90, ends p0 cs, by decide, fun w => (points_any h w).mono fun e w' k => ?_⟩
    unfold ot at k
    rw [if_neg h1, if_neg hr] at k
    obtain ⟨hb, A, n, c, he, hq⟩ := k
    obtain rfl : n = 0 := hq.len
    exact ⟨hb, A, c, he⟩
theorem dg_ne {x : Int} (hx : x ≠ 0) (a b c : Int) (w : World) : (Op.equalIn 10000 28 (.agg #[.int .i64 x, .int .i64 a, .int .i64 b, .int .i64 c]) (.agg #[.int .i64 0, .int .i64 0, .int .i64 0, .int .i64 0])).run Try.prog w = .ok false w := by
  have := diag_in x 0 ⟨a, b, c⟩ ⟨0, 0, 0⟩ w
  simpa [hx] using this
theorem info_r32 : (Try.prog.info? 21).map (fun i => (i.zero, i.size, i.bytes)) = some (some (.int .i32 0), 1, 4) := by kernel_rfl
theorem put_one {x : Int} (hx : cpB x = true) (w : World) (b : Nat) (hb : b = w.heap.size) : Calls Try.prog 13 #[.slice (some ⟨b, 0, none⟩) 1 1] (w.alloc (.cells #[.int .i32 x] 21)) fun e w' => Bel w w' ∧ e = .returned (.tuple #[.string (Utf8.encode x), .int .i64 0]) := by
  subst hb
  have hl := enc_len4 x
  exact (put_any (l := [x]) (by omega) _ (ri_one w _ _)).mono fun _ _ h => ⟨((Bel.refl w).alloc _).on h.1, by
    rw [h.2, show putS [x] = enc x by simp [putS, allB, hx, encs]; omega, show putE [x] = 0 by simp [putE, allB, hx, encs]; omega, enc_eq]⟩
theorem put4_blk {w : World} {g : Nat} {t : TypeId} {x y z : Value} (h : w.heap[g]? = some (.cells #[x, y, z] t (0, 0))) (u v r q : Value) :
    ((((w.setCell ⟨g, 0, none⟩ u).setCell ⟨g, 2, none⟩ v).setCell ⟨g, 1, none⟩ r).setCell ⟨g, 2, none⟩ q).heap[g]? = some (.cells #[u, r, q] t (0, 0)) := by
  simp [World.setCell, Array.getElem?_modify, h]
theorem put4_other {w : World} {g k : Nat} (hk : k ≠ g) (u v r q : Value) :
    ((((w.setCell ⟨g, 0, none⟩ u).setCell ⟨g, 2, none⟩ v).setCell ⟨g, 1, none⟩ r).setCell ⟨g, 2, none⟩ q).heap[k]? = w.heap[k]? := by
  rw [Below.heap_setCell _ _ _ _ hk, Below.heap_setCell _ _ _ _ hk, Below.heap_setCell _ _ _ _ hk, Below.heap_setCell _ _ _ _ hk]
theorem put2_blk {w : World} {g : Nat} {t : TypeId} {x y z : Value} (h : w.heap[g]? = some (.cells #[x, y, z] t (0, 0))) (u v : Value) :
    ((w.setCell ⟨g, 0, none⟩ u).setCell ⟨g, 2, none⟩ v).heap[g]? = some (.cells #[u, y, v] t (0, 0)) := by
  simp [World.setCell, Array.getElem?_modify, h]
theorem four_pt {w : World} {g : Nat} {t : TypeId} {x y z u : Value} (h : w.heap[g]? = some (.cells #[x, y, z, u] t (0, 0))) :
    w.cell? ⟨g, 0, none⟩ = some x ∧ w.cell? ⟨g, 1, none⟩ = some y ∧ w.cell? ⟨g, 2, none⟩ = some z ∧ w.cell? ⟨g, 3, none⟩ = some u :=
  ⟨(cells4 h).1, (cells4 h).2.1, (cells4 h).2.2.1, (cells4 h).2.2.2.1⟩
set_option maxRecDepth 100000 in
set_option maxHeartbeats 8000000 in
theorem utfBack_any {A : Option Addr} {n c : Nat} {l : List Int} (s : ByteArray) (w : World) (h : RI .i32 w w.heap.size A n l) : Calls Try.prog 5 #[.slice A n c, .string s] w fun e w' => e = .returned (.bool true) ∧ Bel w w' := by
  have H := Lib.hid h
  clear h
  obtain ⟨cs, rest, hcp⟩ := cps_ex _ s.data.toList (Nat.le_refl _)
  have HCS := Lib.hid hcp
  clear hcp
  have hep := eq_pt
  have hed := eq_dg
  have hes := eq_ps
  by_cases hb1 : 5000 < n
  · have hb2 : (5000 : Int) < (n : Int) := by omega
    go_enter Try.func5, Try.ntmps5
    go_wp2_with (go_at_call 8; refine (known9_any _).mono ?_; rintro e w1 ⟨rfl, hb⟩; have HB := Lib.hid hb; clear hb)
    go_ret
    exact ⟨rfl, HB.out⟩
  by_cases hb3 : 10000 < s.size
  · have hb2 : (n : Int) ≤ 5000 := by omega
    have hb4 : (10000 : Int) < (s.size : Int) := by omega
    go_enter Try.func5, Try.ntmps5
    go_wp2_with (go_at_call 8; refine (known9_any _).mono ?_; rintro e w1 ⟨rfl, hb⟩; have HB := Lib.hid hb; clear hb)
    go_ret
    exact ⟨rfl, HB.out⟩
  have hb2 : (n : Int) ≤ 5000 := by omega
  have hb4 : (s.size : Int) ≤ 10000 := by omega
  have hn : n ≤ 1000000000 := by omega
  by_cases hok : putE l = 0
  · have hall : allB l = true ∧ (encs l).length ≤ 4000 := by
      unfold putE at hok
      by_cases h1 : allB l = true
      · rw [if_pos h1] at hok
        by_cases h2 : (encs l).length ≤ 4000
        · exact ⟨h1, h2⟩
        · rw [if_neg h2] at hok; cases hok
      · rw [if_neg h1] at hok; cases hok
    have hps : putS l = encs l := by unfold putS; rw [if_pos hall]
    have HPUT : Hid (∀ c w, RI .i32 w w.heap.size A n l → Calls Try.prog 13 #[.slice A n c] w fun e w' => Bel w w' ∧ e = .returned (.tuple #[.string ⟨(encs l).toArray⟩, .int .i64 0])) := Lib.hid (fun c w hr => (put_any hn w hr).mono fun e w' k => ⟨k.1, by rw [k.2, hps, hok]⟩)
    have HTP := Lib.hid (points_good (s := ⟨(encs l).toArray⟩) (cs := l) (by simpa using Cps.nil ((allB_iff l).1 hall.1)) (by simpa [ByteArray.size] using hall.2))
    clear hok hall hps
    go_enter Try.func5, Try.ntmps5
    go_wp2_with (go_at_call 8; refine (known9_any _).mono ?_; rintro e w1 ⟨rfl, hb⟩; have HB := Lib.hid hb; clear hb)
    refine (HPUT.out _ _ (H.out.bel HB.out)).mono ?_
    rintro e w2 ⟨hbb, rfl⟩
    have HB2 := Lib.hid (HB.out.on hbb)
    clear hbb
    go_wp2_with fail
    refine (HTP.out _).mono ?_
    rintro e w3 ⟨hbb, B, m, k, rfl, hq⟩
    obtain rfl : m = n := by have h1 := hq.len; rw [place_len] at h1; have := H.out.len; omega
    have HB3 := Lib.hid (HB2.out.on hbb)
    have HQ := Lib.hid hq
    clear hbb hq
    go_wp2
    obtain ⟨W3, hW3⟩ : ∃ W, W = w3.alloc (.cells #[.int .i64 0, .int .i64 0, .int .i64 0, .int .i64 0] 28) := ⟨_, rfl⟩
    have HB4 : Hid (Bel w W3) := Lib.hid (by rw [hW3]; exact HB3.out.alloc _)
    have HQ4 : Hid (RP W3 W3.heap.size B m (place p0 l)) := Lib.hid (by rw [hW3]; exact HQ.out.alloc _)
    rw [← hW3]
    clear hW3
    go_loopw [53] (fun i wr => ∃ j k : Nat, j ≤ m ∧ i = .int .i64 j ∧ wr = W3.drewN k) (fun i _ => m - (intOf i).toNat)
    case atStart => exact ⟨0, 0, Nat.zero_le _, rfl, rfl⟩
    case round =>
      obtain ⟨j, kd, hj, rfl, rfl⟩ := hrel
      by_cases hlt : j < m
      · obtain ⟨x, hx⟩ : ∃ x, l[j]? = some x := ⟨_, List.getElem?_eq_getElem (by have := H.out.len; omega)⟩
        obtain ⟨b1, o1, hA1, hbl1, hc1⟩ := HQ4.out.at_ (by omega)
        obtain ⟨b2, o2, hA2, hbl2, hc2⟩ := (H.out.bel HB4.out).at_ (by omega)
        subst hA1
        subst hA2
        have a0 := (hc1 j _ (place_get p0 l j x hx)).1
        have a1 := hc2 j hlt
        rw [hx] at a1
        simp only [Option.getD_some] at a1
        clear hc1 hc2 hx
        go_wp2_with fail
        go_quiet (fail)
        go_wp2
        go_roundw
        case rel => exact ⟨j + 1, _, by omega, by go_num, rfl⟩
        case measure => simp [intOf]; omega
      · obtain ⟨W4, hW4⟩ : ∃ W, W = W3.drewN kd := ⟨_, rfl⟩
        have HB5 : Hid (Bel w W4) := Lib.hid (by rw [hW4]; exact HB4.out.drewN _)
        rw [← hW4]
        clear hW4
        clear HB4
        have HB4 := HB5
        clear HB5
        go_wp2_with fail
        by_cases hgd : s.size ≤ 4000 ∧ rest = []
        · obtain ⟨hs4, rfl⟩ := hgd
          have hss := HCS.out.eq
          rw [List.append_nil] at hss
          have hel : (encs cs).length = s.size := by rw [← size_of s, hss]
          have HSS := Lib.hid hss
          have hcl := encs_len_ge HCS.out.cp
          have hcl4 : cs.length ≤ 4000 := by omega
          have HEL := Lib.hid hel
          clear hss hel hcl
          refine (points_good HCS.out hs4 _).mono ?_
          rintro e w5 ⟨hbb, A5, n5, c5, rfl, hq⟩
          have hn5 : n5 = cs.length := by have h1 := hq.len; rw [place_len] at h1; exact h1
          subst hn5
          have HB5 := Lib.hid (HB4.out.on hbb)
          have HQ5 := Lib.hid hq
          clear hbb hq
          go_wp2
          obtain ⟨X, hX⟩ : ∃ X, X = w5.heap.size + 1 := ⟨_, rfl⟩
          have HX := Lib.hid hX
          go_loopw [12, 81] (fun v i wr => ∃ (j : Nat) (A2 : Option Addr) (c2 : Nat), j ≤ cs.length ∧ i = .int .i64 j ∧ v = .slice A2 j c2 ∧
              wr.heap[w5.heap.size + 1]? = some (.cells #[.int .i64 (ends p0 (cs.take j)).a, .int .i64 (ends p0 (cs.take j)).l, .int .i64 (ends p0 (cs.take j)).c] 26 (0, 0)) ∧
              wr.heap[w5.heap.size]? = some (.cells #[.int .i64 0, .int .i64 0, .int .i64 0, .int .i64 0] 28 (0, 0)) ∧
              wr.ownsRow (w5.heap.size + 2) 21 1 (.slice A2 j c2) j ((cs.take j).map (Value.int .i32)) ∧ Hid (Bel w5 wr)) (fun _ i _ => cs.length - (intOf i).toNat)
          case atStart =>
            have hk := blk2 w5 (.cells #[.int .i64 0, .int .i64 0, .int .i64 0, .int .i64 0] 28 (0, 0)) (.cells #[.int .i64 0, .int .i64 1, .int .i64 1] 26 (0, 0))
            exact ⟨0, none, 0, Nat.zero_le _, rfl, rfl, hk.2, hk.1, World.ownsRow_nil _ _ _ _, ((Bel.refl w5).alloc _).alloc _⟩
          case round =>
            obtain ⟨j, A2, c2, hj, rfl, rfl, hp, hd, hown, HBR⟩ := hrel
            have hsm := ends_sm (cs := cs.take j) (HCS.out.cp.take j) (n := 4000) (by
              have h1 : encs cs = encs (cs.take j) ++ encs (cs.drop j) := by rw [← encs_app, List.take_append_drop]
              have h2 := congrArg List.length h1
              rw [List.length_append] at h2
              have := HEL.out; omega)
            have hBl : w5.heap.size + 1 < wr.heap.size := (Array.getElem?_eq_some_iff.1 hp).1
            have HQR := Lib.hid (HQ5.out.bel HBR.out)
            by_cases hlt : j < cs.length
            · obtain ⟨x, hx⟩ : ∃ x, cs[j]? = some x := ⟨_, List.getElem?_eq_getElem hlt⟩
              have hxc : cpB x = true := HCS.out.cp x (List.mem_of_getElem? hx)
              have htk : cs.take (j + 1) = cs.take j ++ [x] := by
                rw [List.take_succ_eq_append_getElem hlt, (List.getElem?_eq_some_iff.1 hx).2]
              obtain ⟨b1, o1, hA1, hbl1, hc1⟩ := HQR.out.at_ (by omega)
              subst hA1
              obtain ⟨a0, a1, a2, a3⟩ := hc1 j _ (place_get p0 cs j x hx)
              simp only at a0 a1 a2 a3
              obtain ⟨P, hP⟩ : ∃ P, P = ends p0 (cs.take j) := ⟨_, rfl⟩
              rw [← hP] at hp a1 a2 a3 hsm
              have HPQ := Lib.hid hP
              have HT := Lib.hid htk
              have HXC := Lib.hid hxc
              have HOW := Lib.hid hown
              have HPP := Lib.hid hp
              have HDD := Lib.hid hd
              obtain ⟨s1, s2, s3, s4, s5, s6⟩ := hsm
              have hes2 : (Utf8.encode x).size = wid x := enc_len hxc
              have hwx := wid_pos x
              clear hc1 hx hP htk hxc hown hp hd
              go_wp2_with (at_builtin; refine wpList_append_one rfl _ _ 37 rfl (w5.heap.size + 2) 21 _ 1 4 Try.underlying37 info_r32 rfl (by decide) (by decide) A2 j c2 _ rfl ((HOW.out.alloc _).alloc _) (wr.heap.size + 1) [.int .i32 x] rfl rfl (by intro q u hu; match q, hu with | 0, hu => (simp at hu; subst hu; simp)) (by simp [Value.oneCell']) (by omega) (by simp; omega) ?_; intro V6 c6 w6 hown6 hg6; have HP6 := Lib.hid ((grown_keep (HOW.out.alloc _) hg6 (k := w5.heap.size + 1) (by omega) (by simp; omega)).trans (((Bel.refl wr).alloc _).blk HPP.out)); have HD6 := Lib.hid ((grown_keep (HOW.out.alloc _) hg6 (k := w5.heap.size) (by omega) (by simp; omega)).trans (((Bel.refl wr).alloc _).blk HDD.out)); have HB6 := Lib.hid (grown_bel (HOW.out.alloc _) (HBR.out.alloc _) hg6 (by omega)); have HO6 := Lib.hid hown6; have HX6 : Hid (w6.heap[wr.heap.size]? = some (.cells #[.int .i32 x, .int .i64 P.a, .int .i64 P.l, .int .i64 P.c] 42 (0, 0))) := Lib.hid (by rw [hg6.block wr.heap.size (by simp; omega) (fun h => by have := (HOW.out.lt _ h.symm).2; omega), Below.heap_alloc _ _ _ (by simp)]; exact blk1 wr _); clear hown6 hg6 a0 a1 a2 a3; obtain ⟨a0, a1, a2, a3⟩ := four_pt HX6.out; have hs6 : wr.heap.size < w6.heap.size := (Array.getElem?_eq_some_iff.1 HX6.out).1)
              refine (put_one HXC.out _ _ (by simp)).mono ?_
              rintro e w7 ⟨hb7, rfl⟩
              have HP7 := Lib.hid (hb7.blk HP6.out)
              have HD7 := Lib.hid (hb7.blk HD6.out)
              have HB7 := Lib.hid (HB6.out.on hb7)
              have HO7 := Lib.hid (owns_bel HO6.out hb7)
              obtain ⟨k0, k1, k2, f0, f1, f2⟩ := cells3 HP7.out
              have hs7 : w5.heap.size + 1 < w7.heap.size := (Array.getElem?_eq_some_iff.1 HP7.out).1
              have hs8 : wr.heap.size < w7.heap.size := by have := hb7.size; omega
              have hX7 := hb7.blk HX6.out
              clear a0 a1 a2 a3
              obtain ⟨a0, a1, a2, a3⟩ := four_pt hX7
              have hne1 : ¬ wr.heap.size = w5.heap.size + 1 := by omega
              have hne2 : ¬ w5.heap.size + 1 = wr.heap.size := by omega
              clear hb7 hX7
              by_cases h10 : x = 10
              · have e10 : (x == 10) = true := by simpa using h10
                have HH := Lib.hid h10
                clear h10
                go_wp2
                go_roundw
                case rel =>
                  exact ⟨j + 1, V6, c6, by omega, by go_num, rfl, by rw [HT.out, ends_snoc, ← HPQ.out]; unfold Pl.next; rw [if_pos HH.out]; exact put4_blk HP7.out _ _ _ _, by rw [put4_other (by omega)]; exact HD7.out, by
                    rw [HT.out, List.map_append]
                    exact own_set (own_set (own_set (own_set HO7.out (by show w5.heap.size + 1 < _; omega) _) (by show w5.heap.size + 1 < _; omega) _) (by show w5.heap.size + 1 < _; omega) _) (by show w5.heap.size + 1 < _; omega) _, Bel.set_ (Bel.set_ (Bel.set_ (Bel.set_ HB7.out (by show _ ≤ w5.heap.size + 1; omega) _) (by show _ ≤ w5.heap.size + 1; omega) _) (by show _ ≤ w5.heap.size + 1; omega) _) (by show _ ≤ w5.heap.size + 1; omega) _⟩
                case measure => simp [intOf]; omega
              · have e10 : (x == 10) = false := by simpa using h10
                have HH := Lib.hid h10
                clear h10
                go_wp2
                go_roundw
                case rel =>
                  exact ⟨j + 1, V6, c6, by omega, by go_num, rfl, by rw [HT.out, ends_snoc, ← HPQ.out]; unfold Pl.next; rw [if_neg HH.out]; exact put2_blk HP7.out _ _, by rw [Below.heap_setCell _ _ _ _ (by show _ ≠ w5.heap.size + 1; omega), Below.heap_setCell _ _ _ _ (by show _ ≠ w5.heap.size + 1; omega)]; exact HD7.out, by
                    rw [HT.out, List.map_append]
                    exact own_set (own_set HO7.out (by show w5.heap.size + 1 < _; omega) _) (by show w5.heap.size + 1 < _; omega) _, Bel.set_ (Bel.set_ HB7.out (by show _ ≤ w5.heap.size + 1; omega) _) (by show _ ≤ w5.heap.size + 1; omega) _⟩
                case measure => simp [intOf]; omega
            · obtain rfl : j = cs.length := by omega
              simp only [List.take_length] at hp hown
              have hall : allB cs = true := (allB_iff cs).2 HCS.out.cp
              have hle : (encs cs).length ≤ 4000 := by have := HEL.out; omega
              have hse : (⟨(encs cs).toArray⟩ : ByteArray) = s := by rw [← HSS.out]
              have HPB := Lib.hid (show Calls Try.prog 13 #[.slice A2 cs.length c2] wr fun e w' => Bel wr w' ∧ e = .returned (.tuple #[.string s, .int .i64 0]) from (put_any (by omega) wr (RI.of_own hown)).mono fun e w' k => ⟨k.1, by
                rw [k.2, show putS cs = encs cs from if_pos ⟨hall, hle⟩, show putE cs = 0 by unfold putE; rw [if_pos hall, if_pos hle], hse]⟩)
              have HPP := Lib.hid hp
              have HDD := Lib.hid hd
              obtain ⟨P, hP⟩ : ∃ P, P = ends p0 cs := ⟨_, rfl⟩
              rw [← hP] at HPP
              have HEN : Hid (∀ w, Calls Try.prog 10 #[.string s] w fun e w' => Bel w w' ∧ e = .returned (.tuple #[.agg #[.int .i64 P.a, .int .i64 P.l, .int .i64 P.c], .agg #[.int .i64 0, .int .i64 0, .int .i64 0, .int .i64 0]])) := Lib.hid (fun w => by rw [hP]; exact end_good HCS.out hs4 w)
              clear hall hle hse hp hd hown hP hsm
              go_wp2_with fail
              refine HPB.out.mono ?_
              rintro e w8 ⟨hb8, rfl⟩
              have HP8 := Lib.hid (hb8.blk HPP.out)
              have HD8 := Lib.hid (hb8.blk HDD.out)
              have HB8 := Lib.hid (HBR.out.on hb8)
              clear hb8
              go_wp2_with fail
              refine (HEN.out _).mono ?_
              rintro e w9 ⟨hb9, rfl⟩
              obtain ⟨k0, k1, k2, f0, f1, f2⟩ := cells3 (hb9.blk HP8.out)
              obtain ⟨d0, d1, d2, d3, g0, g1, g2, g3⟩ := cells4 (hb9.blk HD8.out)
              have hz : w5.heap.size + 1 < w9.heap.size := (Array.getElem?_eq_some_iff.1 (hb9.blk HP8.out)).1
              have hz0 : w5.heap.size < w9.heap.size := by omega
              have HB9 := Lib.hid (HB5.out.on (HB8.out.on hb9))
              have hwz : w.heap.size ≤ w5.heap.size := HB5.out.size
              clear hb9
              go_wp2
              go_ret
              refine ⟨by simp, ?_⟩
              repeat (first | with_reducible exact HB9.out | with_reducible refine Bel.set_ ?_ (by first | exact hwz | (simp; omega)) _ | with_reducible refine Bel.alloc ?_ _)
        · obtain ⟨x, q, hx0, hcall⟩ := points_err HCS.out hgd
          have HCALL := Lib.hid hcall
          have hdn := dg_ne hx0 q.a q.l q.c
          clear hcall hx0 hgd
          refine (HCALL.out _).mono ?_
          rintro e w5 ⟨hbb, A5, c5, rfl⟩
          have HB5 := Lib.hid (HB4.out.on hbb)
          clear hbb
          go_wp2
          go_ret
          exact ⟨rfl, HB5.out.alloc _⟩
  · have HPUT : Hid (∀ c w, RI .i32 w w.heap.size A n l → Calls Try.prog 13 #[.slice A n c] w fun e w' => Bel w w' ∧ e = .returned (.tuple #[.string ⟨(putS l).toArray⟩, .int .i64 (putE l)])) := Lib.hid (fun c w hr => put_any hn w hr)
    obtain ⟨pe, hpe⟩ : ∃ pe, pe = putE l := ⟨_, rfl⟩
    rw [← hpe] at HPUT hok
    have hok2 : (pe == 0) = false := by simpa using hok
    clear hok hpe
    go_enter Try.func5, Try.ntmps5
    go_wp2_with (go_at_call 8; refine (known9_any _).mono ?_; rintro e w1 ⟨rfl, hb⟩; have HB := Lib.hid hb; clear hb)
    refine (HPUT.out _ _ (H.out.bel HB.out)).mono ?_
    rintro e W3 ⟨hbb, rfl⟩
    have HB4 := Lib.hid (HB.out.on hbb)
    clear hbb
    go_wp2_with fail
    by_cases hgd : s.size ≤ 4000 ∧ rest = []
    · obtain ⟨hs4, rfl⟩ := hgd
      have hss := HCS.out.eq
      rw [List.append_nil] at hss
      have hel : (encs cs).length = s.size := by rw [← size_of s, hss]
      have HSS := Lib.hid hss
      have hcl := encs_len_ge HCS.out.cp
      have hcl4 : cs.length ≤ 4000 := by omega
      have HEL := Lib.hid hel
      clear hss hel hcl
      refine (points_good HCS.out hs4 _).mono ?_
      rintro e w5 ⟨hbb, A5, n5, c5, rfl, hq⟩
      have hn5 : n5 = cs.length := by have h1 := hq.len; rw [place_len] at h1; exact h1
      subst hn5
      have HB5 := Lib.hid (HB4.out.on hbb)
      have HQ5 := Lib.hid hq
      clear hbb hq
      go_wp2
      obtain ⟨X, hX⟩ : ∃ X, X = w5.heap.size + 1 := ⟨_, rfl⟩
      have HX := Lib.hid hX
      go_loopw [12, 81] (fun v i wr => ∃ (j : Nat) (A2 : Option Addr) (c2 : Nat), j ≤ cs.length ∧ i = .int .i64 j ∧ v = .slice A2 j c2 ∧
          wr.heap[w5.heap.size + 1]? = some (.cells #[.int .i64 (ends p0 (cs.take j)).a, .int .i64 (ends p0 (cs.take j)).l, .int .i64 (ends p0 (cs.take j)).c] 26 (0, 0)) ∧
          wr.heap[w5.heap.size]? = some (.cells #[.int .i64 0, .int .i64 0, .int .i64 0, .int .i64 0] 28 (0, 0)) ∧
          wr.ownsRow (w5.heap.size + 2) 21 1 (.slice A2 j c2) j ((cs.take j).map (Value.int .i32)) ∧ Hid (Bel w5 wr)) (fun _ i _ => cs.length - (intOf i).toNat)
      case atStart =>
        have hk := blk2 w5 (.cells #[.int .i64 0, .int .i64 0, .int .i64 0, .int .i64 0] 28 (0, 0)) (.cells #[.int .i64 0, .int .i64 1, .int .i64 1] 26 (0, 0))
        exact ⟨0, none, 0, Nat.zero_le _, rfl, rfl, hk.2, hk.1, World.ownsRow_nil _ _ _ _, ((Bel.refl w5).alloc _).alloc _⟩
      case round =>
        obtain ⟨j, A2, c2, hj, rfl, rfl, hp, hd, hown, HBR⟩ := hrel
        have hsm := ends_sm (cs := cs.take j) (HCS.out.cp.take j) (n := 4000) (by
          have h1 : encs cs = encs (cs.take j) ++ encs (cs.drop j) := by rw [← encs_app, List.take_append_drop]
          have h2 := congrArg List.length h1
          rw [List.length_append] at h2
          have := HEL.out; omega)
        have hBl : w5.heap.size + 1 < wr.heap.size := (Array.getElem?_eq_some_iff.1 hp).1
        have HQR := Lib.hid (HQ5.out.bel HBR.out)
        by_cases hlt : j < cs.length
        · obtain ⟨x, hx⟩ : ∃ x, cs[j]? = some x := ⟨_, List.getElem?_eq_getElem hlt⟩
          have hxc : cpB x = true := HCS.out.cp x (List.mem_of_getElem? hx)
          have htk : cs.take (j + 1) = cs.take j ++ [x] := by
            rw [List.take_succ_eq_append_getElem hlt, (List.getElem?_eq_some_iff.1 hx).2]
          obtain ⟨b1, o1, hA1, hbl1, hc1⟩ := HQR.out.at_ (by omega)
          subst hA1
          obtain ⟨a0, a1, a2, a3⟩ := hc1 j _ (place_get p0 cs j x hx)
          simp only at a0 a1 a2 a3
          obtain ⟨P, hP⟩ : ∃ P, P = ends p0 (cs.take j) := ⟨_, rfl⟩
          rw [← hP] at hp a1 a2 a3 hsm
          have HPQ := Lib.hid hP
          have HT := Lib.hid htk
          have HXC := Lib.hid hxc
          have HOW := Lib.hid hown
          have HPP := Lib.hid hp
          have HDD := Lib.hid hd
          obtain ⟨s1, s2, s3, s4, s5, s6⟩ := hsm
          have hes2 : (Utf8.encode x).size = wid x := enc_len hxc
          have hwx := wid_pos x
          clear hc1 hx hP htk hxc hown hp hd
          go_wp2_with (at_builtin; refine wpList_append_one rfl _ _ 37 rfl (w5.heap.size + 2) 21 _ 1 4 Try.underlying37 info_r32 rfl (by decide) (by decide) A2 j c2 _ rfl ((HOW.out.alloc _).alloc _) (wr.heap.size + 1) [.int .i32 x] rfl rfl (by intro q u hu; match q, hu with | 0, hu => (simp at hu; subst hu; simp)) (by simp [Value.oneCell']) (by omega) (by simp; omega) ?_; intro V6 c6 w6 hown6 hg6; have HP6 := Lib.hid ((grown_keep (HOW.out.alloc _) hg6 (k := w5.heap.size + 1) (by omega) (by simp; omega)).trans (((Bel.refl wr).alloc _).blk HPP.out)); have HD6 := Lib.hid ((grown_keep (HOW.out.alloc _) hg6 (k := w5.heap.size) (by omega) (by simp; omega)).trans (((Bel.refl wr).alloc _).blk HDD.out)); have HB6 := Lib.hid (grown_bel (HOW.out.alloc _) (HBR.out.alloc _) hg6 (by omega)); have HO6 := Lib.hid hown6; have HX6 : Hid (w6.heap[wr.heap.size]? = some (.cells #[.int .i32 x, .int .i64 P.a, .int .i64 P.l, .int .i64 P.c] 42 (0, 0))) := Lib.hid (by rw [hg6.block wr.heap.size (by simp; omega) (fun h => by have := (HOW.out.lt _ h.symm).2; omega), Below.heap_alloc _ _ _ (by simp)]; exact blk1 wr _); clear hown6 hg6 a0 a1 a2 a3; obtain ⟨a0, a1, a2, a3⟩ := four_pt HX6.out; have hs6 : wr.heap.size < w6.heap.size := (Array.getElem?_eq_some_iff.1 HX6.out).1)
          refine (put_one HXC.out _ _ (by simp)).mono ?_
          rintro e w7 ⟨hb7, rfl⟩
          have HP7 := Lib.hid (hb7.blk HP6.out)
          have HD7 := Lib.hid (hb7.blk HD6.out)
          have HB7 := Lib.hid (HB6.out.on hb7)
          have HO7 := Lib.hid (owns_bel HO6.out hb7)
          obtain ⟨k0, k1, k2, f0, f1, f2⟩ := cells3 HP7.out
          have hs7 : w5.heap.size + 1 < w7.heap.size := (Array.getElem?_eq_some_iff.1 HP7.out).1
          have hs8 : wr.heap.size < w7.heap.size := by have := hb7.size; omega
          have hX7 := hb7.blk HX6.out
          clear a0 a1 a2 a3
          obtain ⟨a0, a1, a2, a3⟩ := four_pt hX7
          have hne1 : ¬ wr.heap.size = w5.heap.size + 1 := by omega
          have hne2 : ¬ w5.heap.size + 1 = wr.heap.size := by omega
          clear hb7 hX7
          by_cases h10 : x = 10
          · have e10 : (x == 10) = true := by simpa using h10
            have HH := Lib.hid h10
            clear h10
            go_wp2
            go_roundw
            case rel =>
              exact ⟨j + 1, V6, c6, by omega, by go_num, rfl, by rw [HT.out, ends_snoc, ← HPQ.out]; unfold Pl.next; rw [if_pos HH.out]; exact put4_blk HP7.out _ _ _ _, by rw [put4_other (by omega)]; exact HD7.out, by
                rw [HT.out, List.map_append]
                exact own_set (own_set (own_set (own_set HO7.out (by show w5.heap.size + 1 < _; omega) _) (by show w5.heap.size + 1 < _; omega) _) (by show w5.heap.size + 1 < _; omega) _) (by show w5.heap.size + 1 < _; omega) _, Bel.set_ (Bel.set_ (Bel.set_ (Bel.set_ HB7.out (by show _ ≤ w5.heap.size + 1; omega) _) (by show _ ≤ w5.heap.size + 1; omega) _) (by show _ ≤ w5.heap.size + 1; omega) _) (by show _ ≤ w5.heap.size + 1; omega) _⟩
            case measure => simp [intOf]; omega
          · have e10 : (x == 10) = false := by simpa using h10
            have HH := Lib.hid h10
            clear h10
            go_wp2
            go_roundw
            case rel =>
              exact ⟨j + 1, V6, c6, by omega, by go_num, rfl, by rw [HT.out, ends_snoc, ← HPQ.out]; unfold Pl.next; rw [if_neg HH.out]; exact put2_blk HP7.out _ _, by rw [Below.heap_setCell _ _ _ _ (by show _ ≠ w5.heap.size + 1; omega), Below.heap_setCell _ _ _ _ (by show _ ≠ w5.heap.size + 1; omega)]; exact HD7.out, by
                rw [HT.out, List.map_append]
                exact own_set (own_set HO7.out (by show w5.heap.size + 1 < _; omega) _) (by show w5.heap.size + 1 < _; omega) _, Bel.set_ (Bel.set_ HB7.out (by show _ ≤ w5.heap.size + 1; omega) _) (by show _ ≤ w5.heap.size + 1; omega) _⟩
            case measure => simp [intOf]; omega
        · obtain rfl : j = cs.length := by omega
          simp only [List.take_length] at hp hown
          have hall : allB cs = true := (allB_iff cs).2 HCS.out.cp
          have hle : (encs cs).length ≤ 4000 := by have := HEL.out; omega
          have hse : (⟨(encs cs).toArray⟩ : ByteArray) = s := by rw [← HSS.out]
          have HPB := Lib.hid (show Calls Try.prog 13 #[.slice A2 cs.length c2] wr fun e w' => Bel wr w' ∧ e = .returned (.tuple #[.string s, .int .i64 0]) from (put_any (by omega) wr (RI.of_own hown)).mono fun e w' k => ⟨k.1, by
            rw [k.2, show putS cs = encs cs from if_pos ⟨hall, hle⟩, show putE cs = 0 by unfold putE; rw [if_pos hall, if_pos hle], hse]⟩)
          have HPP := Lib.hid hp
          have HDD := Lib.hid hd
          obtain ⟨P, hP⟩ : ∃ P, P = ends p0 cs := ⟨_, rfl⟩
          rw [← hP] at HPP
          have HEN : Hid (∀ w, Calls Try.prog 10 #[.string s] w fun e w' => Bel w w' ∧ e = .returned (.tuple #[.agg #[.int .i64 P.a, .int .i64 P.l, .int .i64 P.c], .agg #[.int .i64 0, .int .i64 0, .int .i64 0, .int .i64 0]])) := Lib.hid (fun w => by rw [hP]; exact end_good HCS.out hs4 w)
          clear hall hle hse hp hd hown hP hsm
          go_wp2_with fail
          refine HPB.out.mono ?_
          rintro e w8 ⟨hb8, rfl⟩
          have HP8 := Lib.hid (hb8.blk HPP.out)
          have HD8 := Lib.hid (hb8.blk HDD.out)
          have HB8 := Lib.hid (HBR.out.on hb8)
          clear hb8
          go_wp2_with fail
          refine (HEN.out _).mono ?_
          rintro e w9 ⟨hb9, rfl⟩
          obtain ⟨k0, k1, k2, f0, f1, f2⟩ := cells3 (hb9.blk HP8.out)
          obtain ⟨d0, d1, d2, d3, g0, g1, g2, g3⟩ := cells4 (hb9.blk HD8.out)
          have hz : w5.heap.size + 1 < w9.heap.size := (Array.getElem?_eq_some_iff.1 (hb9.blk HP8.out)).1
          have hz0 : w5.heap.size < w9.heap.size := by omega
          have HB9 := Lib.hid (HB5.out.on (HB8.out.on hb9))
          have hwz : w.heap.size ≤ w5.heap.size := HB5.out.size
          clear hb9
          go_wp2
          go_ret
          refine ⟨by simp, ?_⟩
          repeat (first | with_reducible exact HB9.out | with_reducible refine Bel.set_ ?_ (by first | exact hwz | (simp; omega)) _ | with_reducible refine Bel.alloc ?_ _)
    · obtain ⟨x, q, hx0, hcall⟩ := points_err HCS.out hgd
      have HCALL := Lib.hid hcall
      have hdn := dg_ne hx0 q.a q.l q.c
      clear hcall hx0 hgd
      refine (HCALL.out _).mono ?_
      rintro e w5 ⟨hbb, A5, c5, rfl⟩
      have HB5 := Lib.hid (HB4.out.on hbb)
      clear hbb
      go_wp2
      go_ret
      exact ⟨rfl, HB5.out.alloc _⟩
end Go.Proofs.Ytaiogbokmglofaa.Mu

