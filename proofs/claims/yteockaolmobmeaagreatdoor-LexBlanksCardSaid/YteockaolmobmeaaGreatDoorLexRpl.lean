/-
  The built replacer replaces: walked.
-/
import Derived.Test.YteockaolmobmeaaGreatDoorLexEsc
import Derived.Deep.DeepCutAuto
import Derived.Laws.Cover4
import Derived.Laws.IdiomCopy
namespace Go.Proofs.YteockaolmobmeaaGreatDoor.Mu
open Go.RowKit Go.Shelf
set_option maxRecDepth 100000

/-- What the table says of a byte. -/
theorem Tab.byte {w : World} {g : Nat} {S : Value} (h : Tab w g S 0) (u : UInt8) : ∃ (A : Option Addr) (n c : Nat), w.cell? ⟨g, u.toNat, none⟩ = some (.slice A n c) ∧ ((A = none ∧ escB u = [u]) ∨ (n = 2 ∧ (escB u).length = 2 ∧ ∃ bk, A = some ⟨bk, 0, none⟩ ∧ bk < w.heap.size ∧ ∀ q x, (escB u)[q]? = some x → w.cell? ⟨bk, q, none⟩ = some (.int .u8 x.toNat))) := by
  obtain ⟨C, h1, h2, h3, h4⟩ := h.ex
  have hc : ∀ v, C[u.toNat]? = some v → w.cell? ⟨g, u.toNat, none⟩ = some v := fun v hv => by simp [World.cell?, h1, hv]
  rcases esc_cases u with ⟨e1, e2⟩ | ⟨e1, e2⟩
  · exact ⟨none, 0, 0, hc _ ((h4 _ u.toNat_lt).1 e1), .inl ⟨rfl, e2⟩⟩
  · obtain ⟨bk, ck, Cb, fr, a1, a2, a3⟩ := (h4 _ u.toNat_lt).2 _ e1
    exact ⟨_, _, ck, hc _ a1, .inr ⟨e2, e2, bk, rfl, (Array.getElem?_eq_some_iff.1 a2).1, a3⟩⟩
theorem Tab.bel {w w' : World} {g : Nat} {S : Value} {j : Nat} (h : Tab w g S j) (hb : Bel w w') : Tab w' g S j := by
  obtain ⟨C, h1, h2, h3, h4⟩ := h.ex
  refine ⟨C, hb.blk h1, h2, h3, fun u hu => ⟨(h4 u hu).1, fun bs hbs => ?_⟩⟩
  obtain ⟨bk, ck, Cb, f, a1, a2, a3⟩ := (h4 u hu).2 bs hbs
  exact ⟨bk, ck, Cb, f, a1, hb.blk a2, fun q x hq => (hb.cell (p := ⟨bk, q, none⟩) (Array.getElem?_eq_some_iff.1 a2).1).trans (a3 q x hq)⟩
theorem Tab.rep {w : World} {g : Nat} {S : Value} {j : Nat} (h : Tab w g S j) : w.cell? ⟨g, 256, none⟩ = some S ∧ g < w.heap.size := by
  obtain ⟨C, h1, h2, h3, h4⟩ := h.ex
  exact ⟨by simp [World.cell?, h1, h3], (Array.getElem?_eq_some_iff.1 h1).1⟩
def cnts (s : List UInt8) : List Nat := [cnt s 92, cnt s 34, cnt s 9, cnt s 10]
theorem tr0_at (s : List UInt8) : ∀ k, k < 4 → ∃ c : UInt8, (tr 0)[k]? = some [c] ∧ (cnts s)[k]? = some (cnt s c) ∧ (escB c).length = 2
  | 0, _ => ⟨92, rfl, rfl, by decide⟩
  | 1, _ => ⟨34, rfl, rfl, by decide⟩
  | 2, _ => ⟨9, rfl, rfl, by decide⟩
  | 3, _ => ⟨10, rfl, rfl, by decide⟩
  | k + 4, h => by omega
theorem take_sum {l : List Nat} {k x : Nat} (h : l[k]? = some x) : (l.take (k + 1)).sum = (l.take k).sum + x := by
  obtain ⟨hl, e⟩ := List.getElem?_eq_some_iff.1 h
  rw [List.take_succ_eq_append_getElem hl, e]; simp
theorem take_esc {s : List UInt8} {k : Nat} {x : UInt8} (h : s[k]? = some x) : (s.take (k + 1)).flatMap escB = (s.take k).flatMap escB ++ escB x := by
  obtain ⟨hl, e⟩ := List.getElem?_eq_some_iff.1 h
  rw [List.take_succ_eq_append_getElem hl, e]; simp
theorem made_rep (N : Nat) : madeCells #[Value.int .u8 0] N = (List.replicate N (Value.int .u8 0)).toArray := by
  unfold madeCells
  apply Array.ext
  · simp
  · intro i h1 h2; simp [Nat.mod_one]
/-- A buffer of N bytes, of which so many are written. -/
def BufAt (w : World) (b : Nat) (L : List UInt8) (N : Nat) : Prop :=
  w.heap[b]? = some (.cells ((L.map fun x : UInt8 => Value.int .u8 x.toNat) ++ List.replicate (N - L.length) (Value.int .u8 0)).toArray 5 (0, 0))
theorem BufAt.zero {w : World} {b N : Nat} {L : List UInt8} (h : BufAt w b L N) {j : Nat} (hN : L.length + j < N) : w.cell? ⟨b, L.length + j, none⟩ = some (.int .u8 0) ∧ w.frozen? ⟨b, L.length + j, none⟩ = false := by
  unfold BufAt at h
  refine ⟨?_, by simp [World.frozen?, h]⟩
  unfold World.cell?
  rw [h]
  show ((L.map fun x : UInt8 => Value.int .u8 x.toNat) ++ List.replicate (N - L.length) (Value.int .u8 0)).toArray[L.length + j]? = _
  rw [List.getElem?_toArray, List.getElem?_append_right (by rw [List.length_map]; omega), List.length_map, List.getElem?_replicate, if_pos (by omega)]
theorem BufAt.put {w : World} {b N : Nat} {L : List UInt8} (h : BufAt w b L N) (hN : L.length < N) (x : UInt8) : BufAt (w.setCell ⟨b, L.length, none⟩ (.int .u8 x.toNat)) b (L ++ [x]) N := by
  unfold BufAt at h ⊢
  obtain ⟨q, hq⟩ : ∃ q, N - L.length = q + 1 := ⟨N - L.length - 1, by omega⟩
  rw [hq, List.replicate_succ] at h
  have hq2 : N - (L ++ [x]).length = q := by rw [List.length_append, List.length_singleton]; omega
  rw [hq2]
  simp only [World.setCell, Array.getElem?_modify, if_true, h]
  simp [List.set_append_right]
set_option maxHeartbeats 8000000 in
theorem rpl_any {g gt c4 : Nat} (s : List UInt8) (hs : s.length ≤ 100000) (w : World) (ht : Tab w g (.slice (some ⟨gt, 0, none⟩) 4 c4) 0) (hts : ∀ j x, (tr 0)[j]? = some x → w.cell? ⟨gt, 0 + j, none⟩ = some (.string ⟨x.toArray⟩)) (hgt : gt < w.heap.size) :
    Calls Tryz.prog 153 #[.pointer (some ⟨g, 0, none⟩), .string ⟨s.toArray⟩] w fun e w' => e = .returned (.string ⟨(s.flatMap escB).toArray⟩) ∧ Bel w w' := by
  obtain ⟨st, hst⟩ : ∃ st : ByteArray, st = ⟨s.toArray⟩ := ⟨_, rfl⟩
  have hz : st.size = s.length := by rw [hst]; simp [ByteArray.size]
  have hby : ∀ i (h : i < st.size), s[i]? = some (st[i]'h) := fun i h => by
    subst hst
    rw [List.getElem?_eq_getElem (by rw [← hz]; exact h)]
    rfl
  obtain ⟨ans, hans⟩ : ∃ ans, ans = s.flatMap escB := ⟨_, rfl⟩
  have hlen := esc_cnt s
  rw [← hans] at hlen ⊢
  have HCNT : Hid (∀ (c : UInt8) (w : World), Calls Tryz.prog 155 #[.string st, .string ⟨#[c]⟩] w fun e w' => e = .returned (.int .i64 (cnt s c)) ∧ w = w') := Lib.hid fun c w => (Tryz.strings_Count_one st c w).mono fun e w' h => ⟨by rw [h.1, hst]; rfl, h.2.symm⟩
  obtain ⟨hr1, hgl⟩ := ht.rep
  rw [← hst]
  have HST := Lib.hid hst
  have HZ := Lib.hid hz
  have HBY := Lib.hid hby
  have HT := Lib.hid ht
  have HTS := Lib.hid hts
  have HANS := Lib.hid hans
  have HLEN := Lib.hid hlen
  obtain ⟨N, hN⟩ : ∃ N, N = ans.length := ⟨_, rfl⟩
  have hge := escL_ge s
  rw [← hans, ← hN] at hge
  have HNL := Lib.hid hN
  clear hst hz hby ht hts hans hlen hN
  have hsz : st.size ≤ 100000 := by rw [HZ.out]; exact hs
  go_enter Tryz.func153, Tryz.ntmps153
  go_upto_if 26 with fail
  obtain ⟨b32, hb32⟩ : ∃ b32, b32 = decide ((32 : Int) ≤ (st.size : Int)) := ⟨_, rfl⟩
  rw [← hb32]
  clear hb32
  go_cut [5, 6] (fun v a wx => v = .int .i64 N ∧ a = .bool (decide (N ≠ st.size)) ∧ Hid (Bel w wx))
  case first =>
    cases b32
    rotate_left
    · go_wp2_with fail
      go_loopg [5, 6, 8, 9, 32] 5 (fun gk v a z1 z2 i wr => ∃ k : Nat, (k ≤ 4 ∧ 4 - k < gk) ∧ v = .int .i64 (st.size + (((cnts s).take k).sum : Nat)) ∧ a = .bool (decide (((cnts s).take k).sum ≠ 0)) ∧ i = .int .i64 k ∧ Hid (Bel w wr))
      case atStart => exact ⟨0, ⟨by omega, by omega⟩, by simp, by simp, rfl, Lib.hid (Bel.refl w)⟩
      case round =>
        obtain ⟨k, ⟨hk, hkg⟩, rfl, rfl, rfl, HB⟩ := hrel
        obtain ⟨q, hq⟩ : ∃ q, q = ((cnts s).take k).sum := ⟨_, rfl⟩
        rw [← hq]
        have HQ := Lib.hid hq
        have hq4 : q ≤ 400000 := by
          have h1 : ((cnts s).take k).sum ≤ (cnts s).sum := by
            have := congrArg List.sum (List.take_append_drop k (cnts s))
            rw [List.sum_append] at this; omega
          have h2 : (cnts s).sum ≤ 400000 := by
            have h3 : ∀ c, cnt s c ≤ s.length := fun c => List.count_le_length
            have := h3 92; have := h3 34; have := h3 9; have := h3 10
            simp [cnts]; omega
          omega
        clear hq
        by_cases hk4 : k < 4
        · obtain ⟨c, hc1, hc2, hc3⟩ := tr0_at s k hk4
          have hts1 := HTS.out k [c] hc1
          have hts2 := (HB.out.cell (p := ⟨gt, 0 + k, none⟩) hgt).trans hts1
          rw [Nat.zero_add] at hts2
          have hr3 := (HB.out.cell (p := ⟨g, 256, none⟩) hgl).trans hr1
          obtain ⟨A, n, cc, hcell, hor⟩ := (HT.out.bel HB.out).byte c
          have hn2 : n = 2 := by
            rcases hor with ⟨_, e⟩ | ⟨e, _⟩
            · rw [e] at hc3; simp at hc3
            · exact e
          subst hn2
          obtain ⟨m, hm⟩ : ∃ m, m = cnt s c := ⟨_, rfl⟩
          have hm4 : m ≤ 100000 := by rw [hm]; exact Nat.le_trans List.count_le_length hs
          have HCC : Hid (∀ (w : World), Calls Tryz.prog 155 #[.string st, .string ⟨#[c]⟩] w fun e w' => e = .returned (.int .i64 m) ∧ w = w') := Lib.hid fun w => by rw [hm]; exact HCNT.out c w
          have hsum : ((cnts s).take (k + 1)).sum = q + m := by rw [take_sum hc2, ← HQ.out, hm]
          have HSUM := Lib.hid hsum
          clear hc1 hc2 hc3 hts1 hor hm hsum
          have hc8 : (((⟨#[c]⟩ : ByteArray)[0]'(by show 0 < 1; decide)).toNat : Int) < 256 := by have := c.toNat_lt; show (c.toNat : Int) < 256; omega
          have hcell2 : wr.cell? ⟨g, ((⟨#[c]⟩ : ByteArray)[0]'(by show 0 < 1; decide)).toNat, none⟩ = some (.slice A 2 cc) := hcell
          go_upto_region 7 with fail
          go_wp2_with fail
          refine (HCC.out _).mono ?_
          rintro e w4 ⟨rfl, rfl⟩
          by_cases hm0 : m = 0
          · subst hm0
            go_wp2
            go_roundg (gk - 1)
            case rel => exact ⟨k + 1, ⟨by omega, by omega⟩, by rw [HSUM.out]; rfl, by rw [HSUM.out]; simp, by go_num, HB⟩
            case measure => omega
          · have hm1 : ((m : Int) != 0) = true := by simpa using hm0
            go_wp2_with fail
            go_cut [5] (fun v wx => v = .int .i64 ((st.size : Int) + q + m) ∧ Hid (Bel w wx))
            case first =>
              go_region
              all_goals (go_wp2_with fail; go_meet)
              all_goals exact ⟨by first | rfl | (congr 1; done) | (congr 1; omega), Lib.hid HB.out.drew⟩
            case rest =>
              obtain ⟨rfl, HB2⟩ := hcut
              go_wp2
              go_roundg (gk - 1)
              case rel => exact ⟨k + 1, ⟨by omega, by omega⟩, by rw [HSUM.out]; congr 1; omega, by rw [HSUM.out, decide_eq_true (by omega)], by go_num, HB2⟩
              case measure => omega
        · obtain rfl : k = 4 := by omega
          have hq5 : N = st.size + q := by
            rw [HNL.out, HLEN.out, HZ.out, HQ.out]; simp [cnts]
          go_wp2_with fail
          go_meet
          exact ⟨by rw [hq5]; first | rfl | (congr 1; done) | (congr 1; omega), by rw [hq5]; first | exact congrArg Value.bool (decide_eq_decide.2 (by omega)) | (congr 1; simp) | simp, HB⟩
    · go_wp2_with fail
      go_loopg [5, 6, 10, 11] (st.size + 1) (fun gk v a i z1 wr => ∃ k : Nat, (k ≤ st.size ∧ st.size - k < gk) ∧ v = .int .i64 ((st.size - k + ((s.take k).flatMap escB).length : Nat)) ∧ a = .bool (decide (((s.take k).flatMap escB).length ≠ k)) ∧ i = .int .i64 k ∧ Hid (Bel w wr))
      case atStart => exact ⟨0, ⟨by omega, by omega⟩, by simp, by simp, rfl, Lib.hid (Bel.refl w)⟩
      case round =>
        obtain ⟨k, ⟨hk, hkg⟩, rfl, rfl, rfl, HB⟩ := hrel
        obtain ⟨q, hq⟩ : ∃ q, q = ((s.take k).flatMap escB).length := ⟨_, rfl⟩
        rw [← hq]
        have HQ := Lib.hid hq
        have hq4 : q ≤ 2 * k ∧ k ≤ q := by
          have := escL_ge (s.take k)
          rw [← hq, List.length_take, Nat.min_eq_left (by rw [← HZ.out]; exact hk)] at this
          omega
        clear hq
        by_cases hks : k < st.size
        · have hx := HBY.out k hks
          obtain ⟨A, n, cc, hcell, hor⟩ := (HT.out.bel HB.out).byte (st[k]'hks)
          have hnx : ((s.take (k + 1)).flatMap escB).length = q + (escB (st[k]'hks)).length := by rw [take_esc hx, List.length_append, ← HQ.out]
          have HNX := Lib.hid hnx
          have hc8 := (st[k]'hks).toNat_lt
          clear hx hnx
          rcases hor with ⟨rfl, e⟩ | ⟨rfl, e, bk, rfl, _, _⟩
          · have hl1 : (escB (st[k]'hks)).length = 1 := by rw [e]; rfl
            clear e
            rw [hl1] at HNX
            clear hl1
            go_wp2
            go_roundg (gk - 1)
            case rel => exact ⟨k + 1, ⟨by omega, by omega⟩, by rw [HNX.out]; congr 1; omega, by rw [HNX.out]; congr 1; simp, by go_num, HB⟩
            case measure => omega
          · rw [e] at HNX
            clear e
            go_wp2
            go_roundg (gk - 1)
            case rel => exact ⟨k + 1, ⟨by omega, by omega⟩, by rw [HNX.out]; congr 1; omega, by rw [HNX.out, decide_eq_true (by omega)], by go_num, HB⟩
            case measure => omega
        · have hk2 : k = st.size := by omega
          have hq5 : N = q := by
            rw [HNL.out, HANS.out, HQ.out, hk2, HZ.out, List.take_length]
          go_wp2_with fail
          go_meet
          exact ⟨by rw [hq5, hk2]; congr 1; omega, by rw [hq5, hk2], HB⟩
  case rest =>
    obtain ⟨rfl, rfl, HB⟩ := hcut
    by_cases hNe : N = st.size
    · have hd : decide (N ≠ st.size) = false := by simp [hNe]
      rw [hd]
      have ha : ans = s := by
        rw [HANS.out]; exact esc_same (by rw [← HANS.out, ← HNL.out, hNe, HZ.out])
      clear hd
      go_wp2
      go_ret
      exact ⟨by rw [ha, HST.out]; rfl, HB.out⟩
    · have hd : decide (N ≠ st.size) = true := by simp [hNe]
      rw [hd]
      have hmk := run_make_row' (P := Tryz.prog) 40 5 (.int .u8 0) 1 Tryz.underlying40 info_u8 rfl .i64 .i64 N (by omega) (by omega) wc
      obtain ⟨bb, hbb⟩ : ∃ bb, bb = wc.heap.size := ⟨_, rfl⟩
      rw [made_rep] at hmk
      have HB0 : Hid (BufAt (wc.alloc (.cells (List.replicate N (Value.int .u8 0)).toArray 5)) bb [] N) := Lib.hid (by rw [hbb]; exact blk1 wc _)
      rw [← hbb] at hmk
      have HBB := Lib.hid hbb
      clear hbb hd
      go_wp2_with fail
      go_loopg [13, 14, 15] (st.size + 1) (fun gk v i z1 wr => ∃ k : Nat, (k ≤ st.size ∧ st.size - k < gk) ∧ i = .int .i64 k ∧ v = .int .i64 (((s.take k).flatMap escB).length : Nat) ∧ Hid (BufAt wr bb ((s.take k).flatMap escB) N) ∧ Hid (Bel wc wr))
      case atStart => exact ⟨0, ⟨by omega, by omega⟩, rfl, by simp, HB0, Lib.hid ((Bel.refl wc).alloc _)⟩
      case round =>
        obtain ⟨k, ⟨hk, hkg⟩, rfl, rfl, HU, HW⟩ := hrel
        obtain ⟨L, hL⟩ : ∃ L, L = (s.take k).flatMap escB := ⟨_, rfl⟩
        rw [← hL] at HU ⊢
        by_cases hks : k < st.size
        · have hx := HBY.out k hks
          obtain ⟨u, hu⟩ : ∃ u, u = st[k]'hks := ⟨_, rfl⟩
          have hnx : (s.take (k + 1)).flatMap escB = L ++ escB u := by rw [take_esc hx, ← hL, hu]
          have hNle : ((s.take (k + 1)).flatMap escB).length ≤ N := by
            have e : ans = (s.take (k + 1)).flatMap escB ++ (s.drop (k + 1)).flatMap escB := by rw [HANS.out, ← List.flatMap_append, List.take_append_drop]
            rw [HNL.out, e, List.length_append]; omega
          rw [hnx, List.length_append] at hNle
          obtain ⟨A, n, cc, hcell, hor⟩ := (HT.out.bel (HB.out.on HW.out)).byte u
          have HNX := Lib.hid hnx
          have HLL := Lib.hid hL
          have hc8 := u.toNat_lt
          have hbs : bb < wr.heap.size := (Array.getElem?_eq_some_iff.1 HU.out).1
          obtain ⟨l, hl⟩ : ∃ l, l = L.length := ⟨_, rfl⟩
          rw [← hl] at hNle ⊢
          have HL2 := Lib.hid hl
          clear hx hnx hL hl
          rcases hor with ⟨rfl, e⟩ | ⟨rfl, e, bk, rfl, hbk, hbc⟩
          · rw [e] at hNle HNX
            simp at hNle
            have hput := HU.out.put (by rw [← HL2.out]; omega) u
            rw [← HL2.out] at hput
            have HPUT := Lib.hid hput
            obtain ⟨hcb, hfb⟩ := HU.out.zero (j := 0) (by rw [← HL2.out]; omega)
            rw [← HL2.out, Nat.add_zero] at hcb hfb
            rw [hu] at hcell hc8
            clear e hput
            go_wp2
            go_roundg (gk - 1)
            case rel => exact ⟨k + 1, ⟨by omega, by omega⟩, by go_num, by rw [HNX.out, List.length_append, ← HL2.out]; congr 1, by rw [HNX.out, ← hu]; exact HPUT, Lib.hid (HW.out.set_ (p := ⟨bb, l, none⟩) (by have := HBB.out; show wc.heap.size ≤ bb; omega) _)⟩
            case measure => omega
          · obtain ⟨a1, a2, ea⟩ : ∃ a1 a2, escB u = [a1, a2] := by
              match escB u, e with
              | [a1, a2], _ => exact ⟨a1, a2, rfl⟩
            rw [ea] at hbc HNX
            rw [e] at hNle
            have hb1 := hbc 0 a1 rfl
            have hb2 := hbc 1 a2 rfl
            rw [hu] at hcell hc8
            clear e ea hbc
            obtain ⟨hc0, hf0⟩ := HU.out.zero (j := 0) (by rw [← HL2.out]; omega)
            obtain ⟨hc1, hf1⟩ := HU.out.zero (j := 1) (by rw [← HL2.out]; omega)
            rw [← HL2.out] at hc0 hf0 hc1 hf1
            have hp1 := HU.out.put (by rw [← HL2.out]; omega) a1
            have hp2 := hp1.put (by rw [List.length_append, List.length_singleton, ← HL2.out]; omega) a2
            rw [List.length_append, List.length_singleton, ← HL2.out, List.append_assoc] at hp2
            have HPUT := Lib.hid hp2
            have hcpy := run_copy_cells (P := Tryz.prog) wr.drew 40 40 3 5 bb l (N - l) (N - l) ⟨bk, 0, none⟩ 2 cc [.int .u8 a1.toNat, .int .u8 a2.toNat] Tryz.underlying40 (by kernel_rfl) (by show 2 = min 2 (N - l); omega) (by
              intro j v hv
              rw [Addr.add_lit, Nat.zero_add]
              match j, hv with
              | 0, hv => injection hv with hv; rw [← hv]; exact hb1
              | 1, hv => injection hv with hv; rw [← hv]; exact hb2) (by
              intro j hj
              match j, hj with
              | 0, _ => have := hc0; rw [World.cell?_drew]; rw [this]; rfl
              | 1, _ => have := hc1; rw [World.cell?_drew]; rw [this]; rfl) (by
              intro j hj
              match j, hj with
              | 0, _ => exact hf0
              | 1, _ => exact hf1) (by simp [Value.oneCell'])
            have hNl : ¬ N = l := by omega
            clear hp1 hp2 hc0 hf0 hc1 hf1
            have HKK := Lib.hid (⟨hk, hkg, hks⟩ : k ≤ st.size ∧ st.size - k < gk ∧ k < st.size)
            go_upto_region 28 with fail
            have HPW := Lib.hid ((((HW.out.drew).set_ (p := ⟨bb, l, none⟩) (by have := HBB.out; show wc.heap.size ≤ bb; omega) (.int .u8 a1.toNat)).set_ (p := ⟨bb, l + 1, none⟩) (by have := HBB.out; show wc.heap.size ≤ bb; omega) (.int .u8 a2.toNat)))
            go_region
            all_goals
              go_wp2
              have hkk := HKK.out
              go_roundg (gk - 1)
              case rel => exact ⟨k + 1, ⟨by omega, by omega⟩, by go_num, by rw [HNX.out, List.length_append, ← HL2.out]; first | rfl | (congr 1; done) | (congr 1; simp; omega), by rw [HNX.out]; exact HPUT, HPW⟩
              case measure => omega
        · have hk2 : k = st.size := by omega
          have hLa : L = ans := by rw [hL, hk2, HZ.out, List.take_length, HANS.out]
          have hcl : wr.heap[bb]? = some (.cells ((ans.map fun x : UInt8 => (x.toNat : Int)).map (Value.int .u8)).toArray 5 (0, 0)) := by
            have h := HU.out
            unfold BufAt at h
            rw [hLa, ← HNL.out, Nat.sub_self] at h
            rw [h, List.map_map]
            simp [Function.comp_def]
          have hcv := bytes_str (w := wr) (g := bb) (t := 5) (ans.map fun x : UInt8 => (x.toNat : Int)) hcl N (by rw [List.length_map]; exact HNL.out) N
          have hmm : ((ans.map fun x : UInt8 => (x.toNat : Int)).map fun x => UInt8.ofNat x.toNat) = ans := by
            rw [List.map_map]
            conv => rhs; rw [← List.map_id ans]
            refine List.map_congr_left fun x _ => ?_
            simp
          rw [hmm] at hcv
          clear hcl hmm hLa hL
          go_wp2
          go_ret
          exact ⟨rfl, HB.out.on HW.out⟩
end Go.Proofs.YteockaolmobmeaaGreatDoor.Mu

