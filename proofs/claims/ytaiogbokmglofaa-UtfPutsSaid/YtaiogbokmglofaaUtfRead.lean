/-
  utf.read, walked: the code points with their places, and the place behind the last one; or the error.
-/
import Derived.Test.YtaiogbokmglofaaUtfP
import Derived.Lib.OthersKept
import Derived.WalkSpells
namespace Go.Proofs.Ytaiogbokmglofaa.Mu
open Go.RowKit Go.Shelf

def dv (e : Int) (p : Pl) : Value := .agg #[.int .i64 e, .int .i64 p.a, .int .i64 p.l, .int .i64 p.c]
def z0 : Pl := ⟨0, 0, 0⟩
/-- What reading answers where no limit is passed. -/
def ReadP (cs : List Int) (rest : List UInt8) (w : World) (e : Ending) (w' : World) : Prop :=
  Bel w w' ∧ if rest = [] then ∃ A n c, e = .returned (.tuple #[.slice A n c, (ends p0 cs).v, dv 0 z0]) ∧ RP w' w'.heap.size A n (place p0 cs)
    else e = .returned (.tuple #[.slice none 0 0, z0.v, dv 90 (ends p0 cs)])
def ReadL (w : World) (e : Ending) (w' : World) : Prop := Bel w w' ∧ e = .returned (.tuple #[.slice none 0 0, z0.v, dv 3 z0])
theorem info_pt : (Try.prog.info? 42).map (fun i => (i.zero, i.size, i.bytes)) = some (some (.agg #[.int .i32 0, .int .i64 0, .int .i64 0, .int .i64 0]), 4, 32) := by kernel_rfl
theorem ownsRow_iterAt {w : World} {base : Nat} {e : TypeId} {size : Nat} {v : Value} {n : Nat} {xs : List Value} (h : w.ownsRow base e size v n xs) {k : Nat} (hk : k < base) (s : ByteArray) (p : Nat) : (w.iterAt k s p).ownsRow base e size v n xs := by
  obtain ⟨h1, h2⟩ := h
  refine ⟨h1, ?_⟩
  rcases h2 with h2 | ⟨g, cap, cur, a, b, c, d⟩
  · exact .inl h2
  · exact .inr ⟨g, cap, cur, a, b, by rw [Lib.iterAt_other _ _ _ _ _ (by omega)]; exact c, d⟩
theorem iterPos_of {w : World} {k : Nat} {s : ByteArray} {p : Nat} (h : w.heap[k]? = some (.stringIter s p)) : w.iterPos k = p := by simp [World.iterPos, h]
theorem blk4 (w : World) (o o2 o3 o4 : Obj) : ((((w.alloc o).alloc o2).alloc o3).alloc o4).heap[w.heap.size]? = some o ∧ ((((w.alloc o).alloc o2).alloc o3).alloc o4).heap[w.heap.size + 1]? = some o2 ∧ ((((w.alloc o).alloc o2).alloc o3).alloc o4).heap[w.heap.size + 2]? = some o3 ∧ ((((w.alloc o).alloc o2).alloc o3).alloc o4).heap[w.heap.size + 3]? = some o4 := by
  have h := blk3 w o o2 o3
  refine ⟨((Bel.refl _).alloc o4).blk h.1, ((Bel.refl _).alloc o4).blk h.2.1, ((Bel.refl _).alloc o4).blk h.2.2, ?_⟩
  have := blk1 (((w.alloc o).alloc o2).alloc o3) o4
  simpa using this
theorem cells4 {w : World} {g : Nat} {t : TypeId} {x y z u : Value} (h : w.heap[g]? = some (.cells #[x, y, z, u] t (0, 0))) :
    w.cell? ⟨g, 0, none⟩ = some x ∧ w.cell? ⟨g, 1, none⟩ = some y ∧ w.cell? ⟨g, 2, none⟩ = some z ∧ w.cell? ⟨g, 3, none⟩ = some u ∧ w.frozen? ⟨g, 0, none⟩ = false ∧ w.frozen? ⟨g, 1, none⟩ = false ∧ w.frozen? ⟨g, 2, none⟩ = false ∧ w.frozen? ⟨g, 3, none⟩ = false := by
  simp [World.cell?, World.frozen?, h]
theorem put3_blk {w : World} {g : Nat} {t : TypeId} {x y z : Value} (h : w.heap[g]? = some (.cells #[x, y, z] t (0, 0))) (u v r : Value) :
    (((w.setCell ⟨g, 0, none⟩ u).setCell ⟨g, 1, none⟩ v).setCell ⟨g, 2, none⟩ r).heap[g]? = some (.cells #[u, v, r] t (0, 0)) := by
  simp [World.setCell, Array.getElem?_modify, h]
theorem put3_other {w : World} {g k : Nat} (hk : k ≠ g) (u v r : Value) :
    (((w.setCell ⟨g, 0, none⟩ u).setCell ⟨g, 1, none⟩ v).setCell ⟨g, 2, none⟩ r).heap[k]? = w.heap[k]? := by
  rw [Below.heap_setCell _ _ _ _ hk, Below.heap_setCell _ _ _ _ hk, Below.heap_setCell _ _ _ _ hk]
theorem put3_own {w : World} {base : Nat} {e : TypeId} {size : Nat} {V : Value} {n : Nat} {xs : List Value} (h : w.ownsRow base e size V n xs) {g : Nat} (hg : g < base) (u v r : Value) :
    (((w.setCell ⟨g, 0, none⟩ u).setCell ⟨g, 1, none⟩ v).setCell ⟨g, 2, none⟩ r).ownsRow base e size V n xs := by
  obtain ⟨h1, h2⟩ := h
  refine ⟨h1, ?_⟩
  rcases h2 with h2 | ⟨k, cap, cur, a, b, c, d⟩
  · exact .inl h2
  · exact .inr ⟨k, cap, cur, a, b, by rw [put3_other (by omega)]; exact c, d⟩
theorem four_at (w : World) (a b c d : Value) (t : TypeId) : ∀ j u, [a, b, c, d][j]? = some u → (w.alloc (.cells #[a, b, c, d] t)).cell? ⟨w.heap.size, j, none⟩ = some u := by
  intro j u hu
  match j, hu with
  | 0, hu => simp at hu; subst hu; simp
  | 1, hu => simp at hu; subst hu; simp
  | 2, hu => simp at hu; subst hu; simp
  | 3, hu => simp at hu; subst hu; simp
/-- What a grown row leaves as it was. -/
theorem grown_keep {W w5 : World} {base : Nat} {e : TypeId} {size : Nat} {V : Value} {n : Nat} {xs : List Value} (hown : W.ownsRow base e size V n xs) {o : Obj} (hg : (W.alloc o).grownBy w5 V.ownBlock) {k : Nat} (hk : k < base) (hs : k < W.heap.size) : w5.heap[k]? = W.heap[k]? := by
  rw [hg.block k (by simp; omega) (fun h => by have := (hown.lt _ h.symm).1; omega), Below.heap_alloc _ _ _ hs]
theorem grown_bel {w W w5 : World} {base : Nat} {e : TypeId} {size : Nat} {V : Value} {n : Nat} {xs : List Value} (hown : W.ownsRow base e size V n xs) (hb : Bel w W) {o : Obj} (hg : (W.alloc o).grownBy w5 V.ownBlock) (hk : w.heap.size ≤ base) : Bel w w5 :=
  Below.grown (hb.alloc o) hg (by have := hb.size; simp; omega) (fun j hj => by have := (hown.lt _ hj).1; omega)
theorem behind_v {p : Pl} {c : Int} (hc : cpB c = true) (hp : p.sm 4002) (w : World) :
    Calls Try.prog 24 #[.agg #[.int .i64 p.a, .int .i64 p.l, .int .i64 p.c], .int .i32 c] w fun e w' => e = .returned (.agg #[.int .i64 (p.next c).a, .int .i64 (p.next c).l, .int .i64 (p.next c).c]) ∧ Bel w w' :=
  behind_any hc (by unfold Pl.sm at *; omega) w
theorem own_drew {w : World} {base : Nat} {e : TypeId} {size : Nat} {V : Value} {n : Nat} {xs : List Value} (h : w.ownsRow base e size V n xs) : w.drew.ownsRow base e size V n xs := h
theorem own_set {w : World} {base : Nat} {e : TypeId} {size : Nat} {V : Value} {n : Nat} {xs : List Value} (h : w.ownsRow base e size V n xs) {p : Addr} (hg : p.block < base) (u : Value) : (w.setCell p u).ownsRow base e size V n xs := by
  obtain ⟨h1, h2⟩ := h
  refine ⟨h1, ?_⟩
  rcases h2 with h2 | ⟨k, cap, cur, a, b, c, d⟩
  · exact .inl h2
  · exact .inr ⟨k, cap, cur, a, b, by rw [Below.heap_setCell _ _ _ _ (by omega)]; exact c, d⟩
theorem enc_ff : enc 65533 = [239, 191, 189] := by decide +kernel
theorem hasP (s : ByteArray) (i : Nat) (b : Bool) (h : b = true ↔ enc 65533 <+: s.data.toList.drop i) (w : World) :
    Calls Try.prog 23 #[.string (s.extract i s.size), .string { data := #[239, 191, 189] }] w fun e w' => e = .returned (.bool b) ∧ w = w' :=
  (Try.strings_HasPrefix _ _ w).mono fun _ _ k => ⟨by
    rw [k.1]
    refine ret_bool ?_
    rw [Bool.eq_iff_iff, h, enc_ff]
    have e : (s.extract i s.size).data.toList = s.data.toList.drop i := by
      have := Lib.extract_toList s i s.size
      rw [ByteArray.toList_eq] at this
      rw [this, List.take_of_length_le]
      rw [List.length_drop, Array.length_toList]; exact Nat.le_refl _
    rw [e]
    unfold Lib.hasPrefix
    exact List.isPrefixOf_iff_prefix, k.2.symm⟩
theorem read_long {s : ByteArray} (hs : 4000 < s.size) (w : World) : Calls Try.prog 15 #[.string s] w (ReadL w) := by
  have hs' : (4000 : Int) < (s.size : Int) := by omega
  go_enter Try.func15, Try.ntmps15
  go_wp2
  refine bodyPost_ret (v := .tuple #[.slice none 0 0, z0.v, dv 3 z0]) ?_ rfl ⟨?_, rfl⟩
  · simp [results, Try.results15, go_sem, Pl.v, dv, z0]
  · repeat (first | exact Bel.refl _ | refine Bel.set_ ?_ (by simp) _ | refine Bel.alloc ?_ _ | refine Bel.drew ?_)
set_option maxRecDepth 100000 in
set_option maxHeartbeats 4000000 in
theorem read_cps {s : ByteArray} {cs : List Int} {rest : List UInt8} (h : Cps s.data.toList cs rest) (hs : s.size ≤ 4000) (w : World) : Calls Try.prog 15 #[.string s] w (ReadP cs rest w) := by
  have hlen : s.data.toList.length = s.size := by rw [Array.length_toList]; rfl
  have hcl : (encs cs).length + rest.length = s.size := by rw [← hlen, h.eq, List.length_append]
  have HL := Lib.hid hcl
  have H := Lib.hid h
  have hs' : (s.size : Int) ≤ 4000 := by omega
  clear h hlen hcl
  go_enter Try.func15, Try.ntmps15
  go_wp2
  go_loopw [5] (fun v wr => ∃ (j : Nat) (A : Option Addr) (n c : Nat), j ≤ cs.length ∧ v = .slice A n c ∧ wr.heap[w.heap.size + 3]? = some (.stringIter s (encs (cs.take j)).length) ∧
      wr.heap[w.heap.size + 2]? = some (.cells #[.int .i64 (ends p0 (cs.take j)).a, .int .i64 (ends p0 (cs.take j)).l, .int .i64 (ends p0 (cs.take j)).c] 26 (0, 0)) ∧
      wr.heap[w.heap.size]? = some (.cells #[.int .i64 0, .int .i64 0, .int .i64 0] 26 (0, 0)) ∧
      wr.heap[w.heap.size + 1]? = some (.cells #[.int .i64 0, .int .i64 0, .int .i64 0, .int .i64 0] 28 (0, 0)) ∧
      wr.ownsRow (w.heap.size + 4) 42 4 (.slice A n c) n (flatP (place p0 (cs.take j))) ∧ Hid (Bel w wr)) (fun _ wr => s.size - wr.iterPos (w.heap.size + 3))
  case atStart =>
    have hb := blk4 w (.cells #[.int .i64 0, .int .i64 0, .int .i64 0] 26 (0, 0)) (.cells #[.int .i64 0, .int .i64 0, .int .i64 0, .int .i64 0] 28 (0, 0)) (.cells #[.int .i64 0, .int .i64 1, .int .i64 1] 26 (0, 0)) (.stringIter s 0)
    exact ⟨0, none, 0, 0, Nat.zero_le _, rfl, hb.2.2.2, hb.2.2.1, hb.1, hb.2.1, World.ownsRow_nil _ _ _ _, ((((Bel.refl w).alloc _).alloc _).alloc _).alloc _⟩
  case round =>
    obtain ⟨j, A, n, cc, hj, rfl, hit, hp, hz, hd, hown, HB⟩ := hrel
    have hpos0 := iterPos_of hit
    have HP0 := Lib.hid hpos0
    clear hpos0
    have hsm := ends_sm (cs := cs.take j) (H.out.cp.take j) (n := 4000) (by
      have h1 : encs cs = encs (cs.take j) ++ encs (cs.drop j) := by rw [← encs_app, List.take_append_drop]
      have h2 := congrArg List.length h1
      rw [List.length_append] at h2
      have := HL.out; omega)
    have HSM := Lib.hid hsm
    have hBlt := (Array.getElem?_eq_some_iff.1 hit).1
    clear hsm
    by_cases hlt : j < cs.length
    · obtain ⟨c, hcj⟩ : ∃ c, cs[j]? = some c := ⟨_, List.getElem?_eq_getElem hlt⟩
      obtain ⟨hcp, hpre, hnext, hposlt⟩ := H.out.at_ hcj
      have hdec := dec_of_enc hcp hpre
      have hcb := (cpB_iff c).1 hcp
      have htk : cs.take (j + 1) = cs.take j ++ [c] := by
        rw [List.take_succ_eq_append_getElem hlt]
        rw [List.getElem?_eq_getElem hlt] at hcj
        rw [Option.some.inj hcj]
      have hc1 : ((Utf8.decode s (encs (cs.take j)).length).1 : Int) = c := by rw [hdec]; show ((c.toNat : Nat) : Int) = c; omega
      have hc2 : (encs (cs.take j)).length + (Utf8.decode s (encs (cs.take j)).length).2 = (encs (cs.take (j + 1))).length := by rw [hdec, hnext]
      have hnx : ∀ ty, (Instr.next (.pointer (some ⟨w.heap.size + 3, 0, none⟩)) true ty).run Try.prog wr = _ := fun ty => Lib.run_next_any_at wr (w.heap.size + 3) s _ ty hit hposlt
      simp only [hc1, hc2] at hnx
      have hit2 := Lib.iterAt_heap wr (w.heap.size + 3) s _ (encs (cs.take (j + 1))).length hit
      have hp2 := hp
      rw [← Lib.iterAt_other wr (w.heap.size + 3) (w.heap.size + 2) s (encs (cs.take (j + 1))).length (by omega)] at hp2
      have hz2 := hz
      rw [← Lib.iterAt_other wr (w.heap.size + 3) (w.heap.size) s (encs (cs.take (j + 1))).length (by omega)] at hz2
      have hd2 := hd
      rw [← Lib.iterAt_other wr (w.heap.size + 3) (w.heap.size + 1) s (encs (cs.take (j + 1))).length (by omega)] at hd2
      have hown2 := ownsRow_iterAt hown (k := w.heap.size + 3) (by omega) s (encs (cs.take (j + 1))).length
      have HB2 : Hid (Bel w (wr.iterAt (w.heap.size + 3) s (encs (cs.take (j + 1))).length)) := Lib.hid (Lib.below_iterAt HB.out (by omega) s _)
      obtain ⟨W1, hW1⟩ : ∃ W1, W1 = wr.iterAt (w.heap.size + 3) s (encs (cs.take (j + 1))).length := ⟨_, rfl⟩
      rw [← hW1] at hnx hit2 hp2 hz2 hd2 hown2 HB2
      obtain ⟨pos, hpos⟩ : ∃ pos, pos = (encs (cs.take j)).length := ⟨_, rfl⟩
      rw [← hpos] at hnx hposlt hpre
      have hpos1 : (pos : Int) < (s.size : Int) := by omega
      clear hW1 hit hp hz hd hown HB hdec hc1 hc2 hcj
      have HT := Lib.hid htk
      have HCP := Lib.hid hcp
      have HPRE := Lib.hid hpre
      have HPOS := Lib.hid hpos
      have HNX := Lib.hid hnext
      clear htk hcp hpre hpos hnext
      obtain ⟨P, hP⟩ : ∃ P, P = ends p0 (cs.take j) := ⟨_, rfl⟩
      rw [← hP] at hp2 HSM
      have HPQ := Lib.hid hP
      clear hP
      have HOW := Lib.hid hown2
      have HIT := Lib.hid hit2
      have HZ := Lib.hid hz2
      have HD := Lib.hid hd2
      have HPP := Lib.hid hp2
      obtain ⟨k0, k1, k2, f0, f1, f2⟩ := cells3 hp2
      have hBl : w.heap.size + 3 < W1.heap.size := (Array.getElem?_eq_some_iff.1 hit2).1
      clear hown2 hit2 hz2 hd2 hp2 hBlt
      by_cases hff : c = 65533
      · subst hff
        have hln : n ≤ 4000 := by
          have h1 := HOW.out.1
          have h2 := HL.out
          have h3 := encs_len_ge H.out.cp
          rw [flatP_len, place_len, List.length_take] at h1
          omega
        go_wp2_with (first | (go_at_call 23; refine (hasP s pos true (by simp [HPRE.out]) _).mono ?_; rintro e w1 ⟨rfl, rfl⟩) | (at_builtin; refine wpList_append_one rfl _ _ 23 rfl (w.heap.size + 4) 42 _ 4 32 Try.underlying23 info_pt rfl (by decide) (by decide) A n cc _ rfl (HOW.out.alloc _) W1.heap.size [.int .i32 65533, .int .i64 P.a, .int .i64 P.l, .int .i64 P.c] rfl rfl (four_at W1 _ _ _ _ _) (by simp [Value.oneCell']) (by omega) (by simp; omega) ?_; intro V5 c5 w5 hown5 hg5; have HIT5 := Lib.hid ((grown_keep HOW.out hg5 (k := w.heap.size + 3) (by omega) (by omega)).trans HIT.out); have HP5 := Lib.hid ((grown_keep HOW.out hg5 (k := w.heap.size + 2) (by omega) (by omega)).trans HPP.out); have HZ5 := Lib.hid ((grown_keep HOW.out hg5 (k := w.heap.size) (by omega) (by omega)).trans HZ.out); have HD5 := Lib.hid ((grown_keep HOW.out hg5 (k := w.heap.size + 1) (by omega) (by omega)).trans HD.out); have HB5 := Lib.hid (grown_bel HOW.out HB2.out hg5 (by omega)); have HO5 := Lib.hid hown5; clear hown5 hg5 k0 k1 k2 f0 f1 f2; obtain ⟨k0, k1, k2, f0, f1, f2⟩ := cells3 HP5.out))
        refine (behind_v HCP.out HSM.out _).mono ?_
        rintro e w6 ⟨rfl, hb6⟩
        have HIT6 := Lib.hid (hb6.blk HIT5.out)
        have HP6 := Lib.hid (hb6.blk HP5.out)
        have HZ6 := Lib.hid (hb6.blk HZ5.out)
        have HD6 := Lib.hid (hb6.blk HD5.out)
        have HO6 := Lib.hid (owns_bel HO5.out hb6)
        have HB6 := Lib.hid (HB5.out.on hb6)
        clear hb6 k0 k1 k2 f0 f1 f2
        obtain ⟨k0, k1, k2, f0, f1, f2⟩ := cells3 HP6.out
        have hB6 : w.heap.size + 3 < w6.heap.size := (Array.getElem?_eq_some_iff.1 HIT6.out).1
        go_wp2
        have HIT7 := Lib.hid ((put3_other (w := w6) (g := w.heap.size + 2) (k := w.heap.size + 3) (by omega) (.int .i64 (P.next 65533).a) (.int .i64 (P.next 65533).l) (.int .i64 (P.next 65533).c)).trans HIT6.out)
        go_roundw
        case rel =>
          exact ⟨j + 1, V5, n + 1, c5, by omega, rfl, HIT7.out, by rw [HT.out, ends_snoc, ← HPQ.out]; exact put3_blk HP6.out _ _ _, (put3_other (by omega) _ _ _).trans HZ6.out, (put3_other (by omega) _ _ _).trans HD6.out, by
            have := put3_own (g := w.heap.size + 2) HO6.out (by omega) (.int .i64 (P.next 65533).a) (.int .i64 (P.next 65533).l) (.int .i64 (P.next 65533).c)
            rw [HT.out, place_snoc, flatP_snoc, ← HPQ.out]
            exact this, Bel.set_ (Bel.set_ (Bel.set_ HB6.out (by show w.heap.size ≤ w.heap.size + 2; omega) _) (by show w.heap.size ≤ w.heap.size + 2; omega) _) (by show w.heap.size ≤ w.heap.size + 2; omega) _⟩
        case measure =>
          have e1 := iterPos_of HIT7.out
          have e2 := HP0.out
          have e3 := HPOS.out
          have e4 := HNX.out
          have e5 := (wid_pos 65533).1
          rw [e1, e2]; omega
      · have e1 : (c == 65533) = false := by simpa using hff
        have hln : n ≤ 4000 := by
          have h1 := HOW.out.1
          have h2 := HL.out
          have h3 := encs_len_ge H.out.cp
          rw [flatP_len, place_len, List.length_take] at h1
          omega
        clear hff
        go_wp2_with (at_builtin; refine wpList_append_one rfl _ _ 23 rfl (w.heap.size + 4) 42 _ 4 32 Try.underlying23 info_pt rfl (by decide) (by decide) A n cc _ rfl (HOW.out.alloc _) W1.heap.size [.int .i32 c, .int .i64 P.a, .int .i64 P.l, .int .i64 P.c] rfl rfl (four_at W1 _ _ _ _ _) (by simp [Value.oneCell']) (by omega) (by simp; omega) ?_; intro V5 c5 w5 hown5 hg5; have HIT5 := Lib.hid ((grown_keep HOW.out hg5 (k := w.heap.size + 3) (by omega) (by omega)).trans HIT.out); have HP5 := Lib.hid ((grown_keep HOW.out hg5 (k := w.heap.size + 2) (by omega) (by omega)).trans HPP.out); have HZ5 := Lib.hid ((grown_keep HOW.out hg5 (k := w.heap.size) (by omega) (by omega)).trans HZ.out); have HD5 := Lib.hid ((grown_keep HOW.out hg5 (k := w.heap.size + 1) (by omega) (by omega)).trans HD.out); have HB5 := Lib.hid (grown_bel HOW.out HB2.out hg5 (by omega)); have HO5 := Lib.hid hown5; clear hown5 hg5 k0 k1 k2 f0 f1 f2; obtain ⟨k0, k1, k2, f0, f1, f2⟩ := cells3 HP5.out)
        refine (behind_v HCP.out HSM.out _).mono ?_
        rintro e w6 ⟨rfl, hb6⟩
        have HIT6 := Lib.hid (hb6.blk HIT5.out)
        have HP6 := Lib.hid (hb6.blk HP5.out)
        have HZ6 := Lib.hid (hb6.blk HZ5.out)
        have HD6 := Lib.hid (hb6.blk HD5.out)
        have HO6 := Lib.hid (owns_bel HO5.out hb6)
        have HB6 := Lib.hid (HB5.out.on hb6)
        clear hb6 k0 k1 k2 f0 f1 f2
        obtain ⟨k0, k1, k2, f0, f1, f2⟩ := cells3 HP6.out
        have hB6 : w.heap.size + 3 < w6.heap.size := (Array.getElem?_eq_some_iff.1 HIT6.out).1
        go_wp2
        have HIT7 := Lib.hid ((put3_other (w := w6) (g := w.heap.size + 2) (k := w.heap.size + 3) (by omega) (.int .i64 (P.next c).a) (.int .i64 (P.next c).l) (.int .i64 (P.next c).c)).trans HIT6.out)
        go_roundw
        case rel =>
          exact ⟨j + 1, V5, n + 1, c5, by omega, rfl, HIT7.out, by rw [HT.out, ends_snoc, ← HPQ.out]; exact put3_blk HP6.out _ _ _, (put3_other (by omega) _ _ _).trans HZ6.out, (put3_other (by omega) _ _ _).trans HD6.out, by
            have := put3_own (g := w.heap.size + 2) HO6.out (by omega) (.int .i64 (P.next c).a) (.int .i64 (P.next c).l) (.int .i64 (P.next c).c)
            rw [HT.out, place_snoc, flatP_snoc, ← HPQ.out]
            exact this, Bel.set_ (Bel.set_ (Bel.set_ HB6.out (by show w.heap.size ≤ w.heap.size + 2; omega) _) (by show w.heap.size ≤ w.heap.size + 2; omega) _) (by show w.heap.size ≤ w.heap.size + 2; omega) _⟩
        case measure =>
          have e1 := iterPos_of HIT7.out
          have e2 := HP0.out
          have e3 := HPOS.out
          have e4 := HNX.out
          have e5 := (wid_pos c).1
          rw [e1, e2]; omega
    · obtain rfl : j = cs.length := by omega
      simp only [List.take_length] at hit hp hown HSM HP0
      obtain ⟨k0, k1, k2, f0, f1, f2⟩ := cells3 hp
      obtain ⟨zz0, zz1, zz2, zf0, zf1, zf2⟩ := cells3 hz
      obtain ⟨d0, d1, d2, d3, df0, df1, df2, df3⟩ := cells4 hd
      obtain ⟨P, hP⟩ : ∃ P, P = ends p0 cs := ⟨_, rfl⟩
      rw [← hP] at k0 k1 k2
      have HPQ := Lib.hid hP
      clear hP
      by_cases hr : rest = []
      · have hnx : ∀ ty, (Instr.next (.pointer (some ⟨w.heap.size + 3, 0, none⟩)) true ty).run Try.prog wr = _ := fun ty => Lib.run_next_end_at wr (w.heap.size + 3) s _ ty hit (by have := HL.out; rw [hr] at this; simp at this; omega)
        have HR := Lib.hid hr
        have HO := Lib.hid hown
        have HIT := Lib.hid hit
        clear hr hown hit hp hz hd
        go_wp2_with fail
        go_region_with (fail)
        all_goals
          go_wp2
          refine bodyPost_ret (v := .tuple #[.slice A n cc, P.v, dv 0 Mu.z0]) ?_ rfl ⟨?_, ?_⟩
          · simp [results, Try.results15, go_sem, Pl.v, dv, Mu.z0, *]
          · repeat (first | with_reducible exact HB.out | with_reducible refine Bel.set_ ?_ (by simp) _ | with_reducible refine Bel.alloc ?_ _ | with_reducible refine Bel.drew ?_)
          · rw [if_pos HR.out]
            refine ⟨A, n, cc, by rw [HPQ.out], RP.of_own (base := w.heap.size + 4) (c := cc) (e := 42) ?_⟩
            repeat (first | with_reducible exact HO.out | with_reducible refine own_set ?_ (by show _ < w.heap.size + 4; simp) _ | with_reducible refine own_drew ?_)
      · have hdr : s.data.toList.drop (encs cs).length = rest := by rw [H.out.eq, List.drop_left]
        have hrl : 0 < rest.length := List.length_pos_iff.2 hr
        have hlt2 : (encs cs).length < s.size := by have := HL.out; omega
        have hdec : (Utf8.decode s (encs cs).length) = (65533, 1) := by
          rcases hd' : Utf8.decode s (encs cs).length with ⟨c, k⟩
          by_cases hb : c = 65533 ∧ k = 1
          · rw [hb.1, hb.2]
          · exfalso
            obtain ⟨h1, _, h3⟩ := enc_of_dec hlt2 hd' hb
            rw [hdr] at h3
            exact H.out.no _ h1 h3
        have hnx : ∀ ty, (Instr.next (.pointer (some ⟨w.heap.size + 3, 0, none⟩)) true ty).run Try.prog wr = _ := fun ty => Lib.run_next_any_at wr (w.heap.size + 3) s _ ty hit hlt2
        rw [hdec] at hnx
        have hnp : false = true ↔ enc 65533 <+: s.data.toList.drop (encs cs).length := ⟨(fun h => by cases h), (fun h => by rw [hdr] at h; exact absurd h (H.out.no _ (by decide +kernel)))⟩
        obtain ⟨pos, hpos⟩ : ∃ pos, pos = (encs cs).length := ⟨_, rfl⟩
        rw [← hpos] at hnx hlt2 hnp
        have hp2 := hp
        rw [← Lib.iterAt_other wr (w.heap.size + 3) (w.heap.size + 2) s (pos + 1) (by omega)] at hp2
        have hz2 := hz
        rw [← Lib.iterAt_other wr (w.heap.size + 3) (w.heap.size) s (pos + 1) (by omega)] at hz2
        have hd2 := hd
        rw [← Lib.iterAt_other wr (w.heap.size + 3) (w.heap.size + 1) s (pos + 1) (by omega)] at hd2
        have HB2 : Hid (Bel w (wr.iterAt (w.heap.size + 3) s (pos + 1))) := Lib.hid (Lib.below_iterAt HB.out (by omega) s _)
        obtain ⟨W1, hW1⟩ : ∃ W1, W1 = wr.iterAt (w.heap.size + 3) s (pos + 1) := ⟨_, rfl⟩
        have hnx' : ∀ ty, (Instr.next (.pointer (some ⟨w.heap.size + 3, 0, none⟩)) true ty).run Try.prog wr = .ok (.tuple #[.bool true, .int .i64 pos, .int .i32 65533]) W1 := fun ty => by rw [hW1]; exact hnx ty
        rw [← hW1] at hp2 hz2 hd2 HB2
        have hsz : W1.heap.size = wr.heap.size := by rw [hW1, Lib.iterAt_size]
        have hB1 : w.heap.size + 3 < W1.heap.size := by omega
        have hpos1 : (pos : Int) < (s.size : Int) := by omega
        have HNP := Lib.hid hnp
        have HR := Lib.hid hr
        rw [← HPQ.out] at hp2
        clear hnx hW1 hsz hit hp hz hd hown hnp hr hdr hrl hdec hpos k0 k1 k2 f0 f1 f2 zz0 zz1 zz2 zf0 zf1 zf2 d0 d1 d2 d3 df0 df1 df2 df3
        obtain ⟨k0, k1, k2, f0, f1, f2⟩ := cells3 hp2
        obtain ⟨zz0, zz1, zz2, zf0, zf1, zf2⟩ := cells3 hz2
        obtain ⟨d0, d1, d2, d3, df0, df1, df2, df3⟩ := cells4 hd2
        clear hp2 hz2 hd2
        go_wp2_with (go_at_call 23; refine (hasP s pos false HNP.out _).mono ?_; rintro e w1 ⟨rfl, rfl⟩)
        go_region_with (fail)
        all_goals
          go_wp2
          refine bodyPost_ret (v := .tuple #[.slice none 0 0, Mu.z0.v, dv 90 P]) ?_ rfl ⟨?_, ?_⟩
          · simp [results, Try.results15, go_sem, Pl.v, dv, Mu.z0, *]
          · repeat (first | with_reducible exact HB2.out | with_reducible refine Bel.set_ ?_ (by simp) _ | with_reducible refine Bel.alloc ?_ _ | with_reducible refine Bel.drew ?_)
          · rw [if_neg HR.out, HPQ.out]
end Go.Proofs.Ytaiogbokmglofaa.Mu

