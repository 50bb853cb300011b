/-
  LexTail, walked: from each token's place on a text tells that token first, and the others behind it.
-/
import Derived.Test.YteockaolmobmeaaGreatDoorLexKn
import Derived.Test.YteockaolmobmeaaGreatDoorLexBack
import Derived.Test.YteockaolmobmeaaGreatDoorLexTr
import Derived.Test.YteockaolmobmeaaGreatDoorLexTc
namespace Go.Proofs.YteockaolmobmeaaGreatDoor.Mu
open Go.RowKit Go.Shelf
set_option maxRecDepth 100000

theorem endsL_sm : ∀ (ds : List Int) (p : Pl) (b : Int), p.sm b → (ends p ds).sm (b + 4 * ds.length)
  | [], p, b, h => by simpa [ends] using h
  | d :: ds, p, b, h => by
    have := endsL_sm ds (p.next d) (b + 4) (Pl.sm_next h)
    rw [List.length_cons, show (b + 4 * ((ds.length + 1 : Nat) : Int)) = b + 4 + 4 * (ds.length : Int) by omega]
    exact this
/-- The places of what was read are small. -/
theorem read_places {s : List UInt8} {cs : List Int} {rest : List UInt8} (hc : Cps s cs rest) (he : (tokO s.length cs rest).e = 0) : ∀ y ∈ (tokO s.length cs rest).l, y.p.sm 20000 := by
  obtain ⟨hn, rfl, ps, h1, h2⟩ := tok_ok he
  have hcl : cs.length ≤ 4000 := by
    have h3 := encs_len_ge hc.cp
    have h4 := congrArg List.length hc.eq
    rw [List.length_append] at h4
    omega
  rw [h2]
  intro y hy
  obtain ⟨p, hp, rfl⟩ := List.mem_map.1 hy
  have h3 := endsL_sm (cs.take p.2) p0 1 (by unfold Pl.sm p0; decide)
  have h4 : (cs.take p.2).length ≤ 4000 := by rw [List.length_take]; omega
  obtain ⟨a1, a2, a3, a4, a5, a6⟩ := h3
  show (ends p0 (cs.take p.2)).sm 20000
  exact ⟨a1, by omega, a3, by omega, a5, by omega⟩
theorem RTn.drop {w : World} {B b o n : Nat} {xs : List Tn} (h : RTn w B (some ⟨b, o, none⟩) n xs) (k : Nat) (hk : k < n) : RTn w B (some ⟨b, o + k * 6, none⟩) (n - k) (xs.drop k) := by
  refine ⟨by rw [List.length_drop, ← h.1], fun _ => ?_⟩
  obtain ⟨b', o', e, hb, hc⟩ := h.2 (by omega)
  injection e with e
  injection e with e1 e2
  subst e1 e2
  refine ⟨b, o + k * 6, rfl, hb, fun i x hx => ?_⟩
  rw [List.getElem?_drop] at hx
  have := hc (k + i) x hx
  rw [show o + (k + i) * 6 = o + k * 6 + i * 6 by omega] at this
  exact this
theorem ext_drop (s : ByteArray) (a : Nat) : (s.extract a s.size).data.toList = s.data.toList.drop a := by
  rw [ByteArray.data_extract, Array.toList_extract]
  show (s.data.toList.drop a).take (s.size - a) = _
  refine List.take_of_length_le ?_
  rw [List.length_drop, Array.length_toList]
  exact Nat.le_refl _
theorem rel_num {i : Nat} (h : i ≤ 1000000) : Value.int .i64 (wrap64 ((i : Int) + 1)) = Value.int .i64 ((i + 1 : Nat) : Int) := by
  rw [IntWalk.wrap64_in _ (by omega)]; rfl
/-- The tail's tokens, and how their places go with the whole text's. -/
def TailOk (L TL : List Tn) (k : Nat) (y : Tn) : Prop :=
  TL.length = L.length - k ∧ TL.length ≤ 4001 ∧ TL.map Tn.b = (L.drop k).map Tn.b ∧ (∀ (i : Nat) (x z : Tn), TL[i]? = some x → L[k + i]? = some z → z.p = y.p.mv x.p ∧ 1 ≤ x.p.l ∧ x.p.sm 20000)
theorem tail_call {s : ByteArray} {cs : List Int} {rest : List UInt8} (h : Cps s.data.toList cs rest) (he : (tokO s.data.toList.length cs rest).e = 0) {k : Nat} {y : Tn} (hy : (tokO s.data.toList.length cs rest).l[k]? = some y) :
    0 ≤ y.p.a ∧ y.p.a < s.size ∧ (∀ m z, m < k → (tokO s.data.toList.length cs rest).l[m]? = some z → z.p.a < y.p.a) ∧
    ∃ TL, TailOk (tokO s.data.toList.length cs rest).l TL k y ∧ ∀ W, Calls Tryz.prog 19 #[.string (s.extract y.p.a.toNat s.size)] W (GTo ⟨TL, 0, z0⟩ W) := by
  obtain ⟨h1, h2, h3, ds, hd, he2, hq2, hl, hall⟩ := tail_read h he hy
  have hsz : s.data.toList.length = s.size := Array.length_toList
  have hex := ext_drop s y.p.a.toNat
  rw [← hex] at hd he2 hq2 hl hall
  refine ⟨h1, by rw [← hsz]; exact h2, h3, (tokO (s.extract y.p.a.toNat s.size).data.toList.length ds []).l, ⟨hl, (read_small hd he2).2, ?_, fun i x z hx hz => ?_⟩, fun W => ?_⟩
  · apply List.ext_getElem?
    intro i
    rw [List.getElem?_map, List.getElem?_map, List.getElem?_drop]
    rcases Nat.lt_or_ge i (tokO (s.extract y.p.a.toNat s.size).data.toList.length ds []).l.length with hi | hi
    · obtain ⟨x, hx⟩ : ∃ x, (tokO (s.extract y.p.a.toNat s.size).data.toList.length ds []).l[i]? = some x := ⟨_, List.getElem?_eq_getElem hi⟩
      obtain ⟨z, hz⟩ : ∃ z, (tokO s.data.toList.length cs rest).l[k + i]? = some z := ⟨_, List.getElem?_eq_getElem (by omega)⟩
      rw [hx, hz]
      simp [(hall i x z hx hz).1]
    · have hk := (List.getElem?_eq_some_iff.1 hy).1
      rw [List.getElem?_eq_none hi, List.getElem?_eq_none (by omega)]
  · obtain ⟨_, b2, b3⟩ := hall i x z hx hz
    exact ⟨b2, b3, read_places hd he2 x (List.mem_of_getElem? hx)⟩
  · have := tokens_any hd W
    have hs2 : (s.extract y.p.a.toNat s.size).data.toList.length = (s.extract y.p.a.toNat s.size).size := Array.length_toList
    rw [← hs2] at this
    have e : tokO (s.extract y.p.a.toNat s.size).data.toList.length ds [] = ⟨(tokO (s.extract y.p.a.toNat s.size).data.toList.length ds []).l, 0, z0⟩ := by rw [← he2, ← hq2]
    rw [← e]; exact this
set_option maxHeartbeats 8000000 in
theorem lexTail_any (s : ByteArray) (nI : Int) (w : World) (htab : Tbl w) :
    Calls Tryz.prog 7 #[.string s, .int .i64 nI] w fun e w' => e = .returned (.bool true) ∧ Bel w w' := by
  have HTB := Lib.hid htab
  have hed := dgq
  clear htab
  obtain ⟨cs, rest, hc⟩ := cps_ex _ s.data.toList (Nat.le_refl _)
  have hlen : s.data.toList.length = s.size := Array.length_toList
  have HC := Lib.hid hc
  have HLEN := Lib.hid hlen
  clear hc hlen
  by_cases he : (tokO s.data.toList.length cs rest).e = 0
  · obtain ⟨L, hL⟩ : ∃ L, L = (tokO s.data.toList.length cs rest).l := ⟨_, rfl⟩
    have hsm := read_small HC.out he
    have hrp := read_places HC.out he
    rw [← hL] at hsm hrp
    have HSM := Lib.hid hsm
    have HRP := Lib.hid hrp
    have HT : Hid (∀ W, Calls Tryz.prog 19 #[.string s] W (GToC ⟨L, 0, z0⟩ W)) := Lib.hid fun W => by
      have := tokens_anyC HC.out W
      rw [← HLEN.out] at this
      obtain ⟨_, _, ps, _, h2⟩ := tok_ok he
      have e : tokO s.data.toList.length cs rest = ⟨L, 0, z0⟩ := by rw [hL, h2]
      rw [← e]; exact this
    have HTC : Hid (∀ (k : Nat) (y : Tn), L[k]? = some y → 0 ≤ y.p.a ∧ y.p.a < s.size ∧ (∀ m z, m < k → L[m]? = some z → z.p.a < y.p.a) ∧ ∃ TL, TailOk L TL k y ∧ ∀ W, Calls Tryz.prog 19 #[.string (s.extract y.p.a.toNat s.size)] W (GTo ⟨TL, 0, z0⟩ W)) := Lib.hid fun k y hy => by
      rw [hL] at hy ⊢
      exact tail_call HC.out he hy
    have hs4 : s.size ≤ 4000 := by rw [← HLEN.out]; exact (tok_ok he).1
    clear hL hsm hrp he HC
    go_enter Tryz.func7, Tryz.ntmps7
    go_wp2_with fail
    refine (known10_any _ HTB.out).mono ?_
    rintro e w1 ⟨rfl, hb1⟩
    have HB1 := Lib.hid hb1
    clear hb1
    go_wp2_with fail
    refine (HT.out _).mono ?_
    rintro e w2 ⟨hb2, A1, n1, c1, rfl, hr2, hcap⟩
    have HR2 := Lib.hid hr2
    have HB2 := Lib.hid (HB1.out.on hb2)
    have hnl : n1 = L.length := hr2.1
    have HNL := Lib.hid hnl
    have hn4 : n1 ≤ 4001 := by have := HSM.out.2; omega
    clear hb2 hr2 HB1 hnl
    have hneg : nI < 0 ∨ 0 ≤ nI := by omega
    rcases hneg with hneg | hneg
    · have hd := decide_eq_true hneg
      go_wp2
      go_ret
      exact ⟨rfl, HB2.out.alloc _⟩
    obtain ⟨k, rfl⟩ : ∃ k : Nat, nI = (k : Int) := ⟨nI.toNat, by omega⟩
    have hd : decide ((k : Int) < 0) = false := decide_eq_false (by omega)
    have hkn : n1 ≤ k ∨ k < n1 := by omega
    rcases hkn with hkn | hkn
    · have hd2 : decide ((n1 : Int) ≤ (k : Int)) = true := decide_eq_true (by omega)
      go_wp2
      go_ret
      exact ⟨rfl, HB2.out.alloc _⟩
    have hd2 : decide ((n1 : Int) ≤ (k : Int)) = false := decide_eq_false (by omega)
    obtain ⟨y, hy⟩ : ∃ y, L[k]? = some y := ⟨_, List.getElem?_eq_getElem (by have := HNL.out; omega)⟩
    obtain ⟨ya0, yas, ylt, TL, hTL, hTT⟩ := HTC.out k y hy
    have HTL := Lib.hid hTL
    have HTT := Lib.hid hTT
    have HYL := Lib.hid ylt
    have hysm := HRP.out y (List.mem_of_getElem? hy)
    obtain ⟨b1, o1, rfl, hbb, hcc⟩ := HR2.out.2 (by omega)
    obtain ⟨x0, x1, x2, x3, x4, x5⟩ := hcc k y hy
    have HY := Lib.hid hy
    have HYS := Lib.hid hysm
    have HCC : Hid (∀ W, Bel w2 W → b1 < W.heap.size ∧ ∀ (i : Nat) (x : Tn), L[i]? = some x → TnAt W b1 (o1 + i * 6) x) := Lib.hid fun W hW => by
      obtain ⟨b', o', e, hb', hc'⟩ := (HR2.out.bel hW).2 (by omega)
      injection e with e
      injection e with e1 e2
      subst e1 e2
      exact ⟨hb', hc'⟩
    clear hcc hTL hTT ylt hysm hy HTC HT
    go_upto_region 7 with fail
    refine wp_abs' ?_
    intro V hV
    have HK1 : Hid (V.heap[w2.heap.size]? = some (.cells #[.int .i64 0, .int .i64 0, .int .i64 0, .int .i64 0] 34 (0, 0))) := Lib.hid (by rw [hV]; exact (blk2 w2 _ _).1)
    have HK7 : Hid (V.heap[w2.heap.size + 1]? = some (.cells #[.int .i64 y.p.a, .int .i64 y.p.l, .int .i64 y.p.c] 32 (0, 0))) := Lib.hid (by rw [hV]; exact (blk2 w2 _ _).2)
    have HBV : Hid (Bel w2 V) := Lib.hid (by rw [hV]; exact ((Bel.refl w2).alloc _).alloc _)
    clear hV x0 x1 x2 x3 x4 x5 hbb
    go_cut [63] (fun v wx => v = .bool false ∧ Hid (Bel V wx))
    case first =>
      obtain ⟨t0, t1, t2, -, -, -⟩ := cells3 (w := V.drew) HK7.out
      have h7 : w2.heap.size + 1 < V.drew.heap.size := (Array.getElem?_eq_some_iff.1 HK7.out).1
      have hk0 : k = 0 ∨ 0 < k := by omega
      rcases hk0 with hk0 | hk0
      · refine regTa_any (w2.heap.size + 1) b1 o1 n1 c1 k 0 s y.p.a 0 _ _ _ _ _ _ _ _ _ _ _ _ _ _ _ _ _ _ _ _ _ _ _ _ _ _ _ _ _ _ _ _ _ _ _ _ _ _ _ _ _ _ _ _ _ _ _ _ _ _ _ _ _ _ _ _ _ _ _ _ _ _ _ _ _ _ _ _ _ _ _ _ _ _ _ _ _ _ _ _ _ _ _ _ _ _ _ _ _ _ _ _ _ _ _ _ _ _ _ _ _ _ _ _ _ _ _ _ _ _ _ _ _ _ _ _ _ _ _ _ _ _ _ _ _ _ _ _ _ _ _ _ _ _ _ _ _ _ _ _ _ _ _ _ V h7 t0 (by omega) (by omega) hk0 _ ?_
        intro Vs w4 hb4 hv1 hv2
        simp only [regTa, List.drop_succ_cons, List.drop_zero, acVTa, hv1, hv2]
        have HB4 := Lib.hid ((Bel.refl V).drew.on hb4)
        clear hb4 hv1 hv2 t0 t1 t2 h7
        go_wp2_with fail
        go_meet
        exact ⟨rfl, HB4⟩
      · obtain ⟨z, hz⟩ : ∃ z, L[k - 1]? = some z := ⟨_, List.getElem?_eq_getElem (by have := HNL.out; omega)⟩
        have hzl := HYL.out (k - 1) z (by omega) hz
        obtain ⟨hb1V, hcV⟩ := HCC.out V.drew HBV.out.drew
        obtain ⟨-, -, -, e3, -, -⟩ := hcV (k - 1) z hz
        have z3 : IntKind.i64.wrap ((k : Int) - 1) = ((k - 1 : Nat) : Int) := by rw [IntWalk.i64_in _ (by omega)]; omega
        refine regTb_any (w2.heap.size + 1) b1 o1 n1 c1 k (k - 1) s y.p.a z.p.a _ _ _ _ _ _ _ _ _ _ _ _ _ _ _ _ _ _ _ _ _ _ _ _ _ _ _ _ _ _ _ _ _ _ _ _ _ _ _ _ _ _ _ _ _ _ _ _ _ _ _ _ _ _ _ _ _ _ _ _ _ _ _ _ _ _ _ _ _ _ _ _ _ _ _ _ _ _ _ _ _ _ _ _ _ _ _ _ _ _ _ _ _ _ _ _ _ _ _ _ _ _ _ _ _ _ _ _ _ _ _ _ _ _ _ _ _ _ _ _ _ _ _ _ _ _ _ _ _ _ _ _ _ _ _ _ _ _ _ _ _ _ _ _ V h7 t0 (by omega) (by omega) hk0 z3 (by omega) (by omega) hb1V e3 (by omega) _ ?_
        intro Vs w4 hb4 hv1 hv2
        simp only [regTb, List.drop_succ_cons, List.drop_zero, acVTb, hv1, hv2]
        have HB4 := Lib.hid ((Bel.refl V).drew.on hb4)
        clear hb4 hv1 hv2 t0 t1 t2 h7 hcV e3 z3 hz hzl
        go_wp2_with fail
        go_meet
        exact ⟨rfl, HB4⟩
    case rest =>
      obtain ⟨rfl, HBX⟩ := hcut
      obtain ⟨t0, t1, t2, -, -, -⟩ := cells3 (HBX.out.blk HK7.out)
      have h7 : w2.heap.size + 1 < wc.heap.size := (Array.getElem?_eq_some_iff.1 (HBX.out.blk HK7.out)).1
      have yas2 : y.p.a ≤ (s.size : Int) := by omega
      clear hd hd2
      go_wp2_with fail
      refine (HTT.out _).mono ?_
      rintro e w5 ⟨hb5, A5, n5, c5, rfl, hr5⟩
      have HR5 := Lib.hid hr5
      have HB5 := Lib.hid (HBX.out.on hb5)
      have HN5 : Hid (n5 = TL.length) := Lib.hid hr5.1
      have hn5 : n5 ≤ 4001 := by have h1 := HN5.out; have h2 := HTL.out.2.1; omega
      have HN5K : Hid (n5 = n1 - k) := Lib.hid (by have h1 := HN5.out; have h2 := HTL.out.1; have h3 := HNL.out; omega)
      have HK15 := Lib.hid (HB5.out.blk HK1.out)
      have HK75 := Lib.hid (HB5.out.blk HK7.out)
      clear hb5 hr5 t0 t1 t2 h7
      obtain ⟨g0, g1, g2, g3, f0, f1, f2, f3⟩ := cells4 HK15.out
      have s9 : w2.heap.size < w5.heap.size := (Array.getElem?_eq_some_iff.1 HK15.out).1
      go_upto_region 10 with fail
      refine wp_abs' ?_
      intro V2 hV2
      have HKW : Hid (V2.heap[w2.heap.size]? = some (.cells #[.int .i64 0, .int .i64 0, .int .i64 0, .int .i64 0] 34 (0, 0))) := Lib.hid (by rw [hV2]; simp [World.setCell, Array.getElem?_modify, HK15.out])
      have hoth : ∀ q, q ≠ w2.heap.size → V2.heap[q]? = w5.heap[q]? := fun q hq => by
        rw [hV2, Below.heap_setCell _ _ _ _ hq, Below.heap_setCell _ _ _ _ hq, Below.heap_setCell _ _ _ _ hq, Below.heap_setCell _ _ _ _ hq]
      have hsz : w5.heap.size ≤ V2.heap.size := by rw [hV2]; simp
      have HRa := Lib.hid (HR5.out.other HK15.out hoth hsz)
      have HK72 : Hid (V2.heap[w2.heap.size + 1]? = some (.cells #[.int .i64 y.p.a, .int .i64 y.p.l, .int .i64 y.p.c] 32 (0, 0))) := Lib.hid (by rw [hoth _ (by omega)]; exact HK75.out)
      have hb25 : Bel w2 w5 := HBV.out.on HB5.out
      have HBW : Hid (Bel w2 V2) := Lib.hid (by rw [hV2]; exact (((hb25.set_ (p := ⟨w2.heap.size, 0, none⟩) (Nat.le_refl _) _).set_ (p := ⟨w2.heap.size, 1, none⟩) (Nat.le_refl _) _).set_ (p := ⟨w2.heap.size, 2, none⟩) (Nat.le_refl _) _).set_ (p := ⟨w2.heap.size, 3, none⟩) (Nat.le_refl _) _)
      clear hV2 hoth hsz hb25 g0 g1 g2 g3 f0 f1 f2 f3 s9
      obtain ⟨g0, g1, g2, g3, -, -, -, -⟩ := cells4 HKW.out
      have hck : ¬ (c1 = k) := by omega
      have i1 : (0 : Int) ≤ (k : Int) := by omega
      have i2 : (k : Int) ≤ (n1 : Int) := by omega
      go_wp2_with fail
      refine (rsame10_any false _ HRa.out ((HR2.out.bel HBW.out).drop k hkn) (by omega) ((samL_b _ _).2 HTL.out.2.2.1)).mono ?_
      rintro e w6 ⟨rfl, hb6⟩
      have HB6 := Lib.hid hb6
      clear hb6 g0 g1 g2 g3
      go_wp2_with fail
      go_loopg [85] (n5 + 1) (fun gk v wr => ∃ i : Nat, v = .int .i64 (i : Int) ∧ Hid (i ≤ n5 ∧ n5 - i < gk) ∧ Hid (Bel V2 wr))
      case atStart => exact ⟨0, rfl, Lib.hid ⟨by omega, by omega⟩, HB6⟩
      case round =>
        obtain ⟨i, rfl, HI, HB⟩ := hrel
        by_cases hi : i < n5
        · obtain ⟨x, hx⟩ : ∃ x, TL[i]? = some x := ⟨_, List.getElem?_eq_getElem (by have := HN5.out; omega)⟩
          obtain ⟨z, hz⟩ : ∃ z, L[k + i]? = some z := ⟨_, List.getElem?_eq_getElem (by have := HNL.out; have := HN5K.out; omega)⟩
          obtain ⟨hzp, hxl, hxs⟩ := HTL.out.2.2.2 i x z hx hz
          obtain ⟨bx, ox, rfl, hbx, hcx⟩ := (HRa.out.bel HB.out).2 (by omega)
          obtain ⟨x0, x1, x2, x3, x4, x5⟩ := hcx i x hx
          obtain ⟨hbz, hcz⟩ := HCC.out wr (HBW.out.on HB.out)
          obtain ⟨-, -, -, z3, z4, z5⟩ := hcz (k + i) z hz
          obtain ⟨t0, t1, t2, -, -, -⟩ := cells3 (HB.out.blk HK72.out)
          have h7 : w2.heap.size + 1 < wr.heap.size := (Array.getElem?_eq_some_iff.1 (HB.out.blk HK72.out)).1
          have hki : IntKind.i64.wrap ((k : Int) + (i : Int)) = ((k + i : Nat) : Int) := by rw [IntWalk.i64_in _ (by omega)]; omega
          have j1 : (0 : Int) ≤ ((k + i : Nat) : Int) := by omega
          have j2 : ((k + i : Nat) : Int) < (n1 : Int) := by have := HN5K.out; omega
          obtain ⟨px, hpx⟩ : ∃ p, p = x.p := ⟨_, rfl⟩
          obtain ⟨pz, hpz⟩ : ∃ p, p = z.p := ⟨_, rfl⟩
          obtain ⟨py, hpy⟩ : ∃ p, p = y.p := ⟨_, rfl⟩
          rw [← hpx] at x3 x4 x5 hzp hxl hxs
          rw [← hpz] at z3 z4 z5 hzp
          rw [← hpy] at t0 t1 t2 hzp
          have HPY := Lib.hid hpy
          have hys := HYS.out
          rw [← hpy] at hys
          obtain ⟨u1, u2, u3, u4, u5, u6⟩ := hxs
          obtain ⟨v1, v2, v3, v4, v5, v6⟩ := hys
          have hza : pz.a = px.a + py.a := by rw [hzp]; rfl
          have hzl : pz.l = px.l + (py.l - 1) := by rw [hzp]; rfl
          have hzc : pz.c = if px.l = 1 then px.c + (py.c - 1) else px.c := by rw [hzp]; rfl
          have m1 : IntKind.i64.wrap (px.a + py.a) = pz.a := by rw [hza]; exact IntWalk.i64_in _ (by omega)
          have m2 : IntKind.i64.wrap (px.l + py.l) = px.l + py.l := IntWalk.i64_in _ (by omega)
          have m3 : IntKind.i64.wrap (px.l + py.l - 1) = pz.l := by rw [hzl, IntWalk.i64_in _ (by omega)]; omega
          have m5 : IntKind.i64.wrap (px.c + py.c) = px.c + py.c := IntWalk.i64_in _ (by omega)
          have HZC := Lib.hid hzc
          have HXL := Lib.hid hxl
          have HSM2 := Lib.hid (⟨⟨u5, u6⟩, v5, v6⟩ : (0 ≤ px.c ∧ px.c ≤ 20000) ∧ 0 ≤ py.c ∧ py.c ≤ 20000)
          have HII := Lib.hid (⟨HI.out, hi⟩ : (i ≤ n5 ∧ n5 - i < gk) ∧ i < n5)
          have HPX := Lib.hid hpx
          clear hpz hpy hpx hzp hza hzl hzc hxl u1 u2 u3 u4 u5 u6 v1 v2 v3 v4 v5 v6 hx hz
          go_upto_region 15 with fail
          refine wp_abs' ?_
          intro V3 hV3
          have hb3 : Bel wr V3 := by rw [hV3]; exact (Bel.refl wr).alloc _
          have hq3 : V3.heap[wr.heap.size]? = some (.cells #[.int .u8 x.k, .string ⟨x.s.toArray⟩, .int .i64 x.n, .int .i64 px.a, .int .i64 px.l, .int .i64 px.c] 44 (0, 0)) := by rw [hV3]; first | exact blk1 wr _ | (rw [HPX.out]; exact blk1 wr _)
          have HB3 := Lib.hid (HB.out.on hb3)
          obtain ⟨⟨-, -, -, r3, r4, r5⟩, -⟩ := cells6 (w := V3.drew) hq3
          have w3 := (hb3.drew.cell (p := ⟨b1, o1 + (k + i) * 6 + 3, none⟩) hbz).trans z3
          have w4 := (hb3.drew.cell (p := ⟨b1, o1 + (k + i) * 6 + 4, none⟩) hbz).trans z4
          have w5' := (hb3.drew.cell (p := ⟨b1, o1 + (k + i) * 6 + 5, none⟩) hbz).trans z5
          have l8 : wr.heap.size < V3.drew.heap.size := (Array.getElem?_eq_some_iff.1 hq3).1
          have l9 : b1 < V3.drew.heap.size := Nat.lt_of_lt_of_le hbz hb3.size
          obtain ⟨gw, hgw⟩ : ∃ gw, gw = wr.heap.size := ⟨_, rfl⟩
          rw [← hgw] at r3 r4 r5 l8 ⊢
          clear hV3 hb3 hq3 x0 x1 x2 x3 x4 x5 z3 z4 z5 t0 t1 t2 h7 hbz hbx hcx hcz hgw HI hi
          refine regTc_any gw b1 o1 n1 c1 k i (k + i) px pz _ _ _ _ _ _ _ _ _ _ _ _ _ _ _ _ _ _ _ _ _ _ _ _ _ _ _ _ _ _ _ _ _ _ _ _ _ _ _ _ _ _ _ _ _ _ _ _ _ _ _ _ _ _ _ _ _ _ _ _ _ _ _ _ _ _ _ _ _ _ _ _ _ _ _ _ _ _ _ _ _ _ _ _ _ _ _ _ _ _ _ _ _ _ _ _ _ _ _ _ _ _ _ _ _ _ _ _ _ _ _ _ _ _ _ _ _ _ _ _ _ _ _ _ _ _ _ _ _ _ _ _ _ _ _ _ _ _ _ _ _ _ _ _ V3 l8 l9 j1 j2 hki r3 r4 r5 w3 w4 w5' _ ?_
          intro Vs w9 ga gb hb9 hga hgb hne hpa hpb hv9 hv10 hv8
          simp only [regTc, List.drop_succ_cons, List.drop_zero, acVTc, hv9, hv10, hv8]
          have HB9 := Lib.hid (HB3.out.on ((Bel.refl V3).drew.on hb9))
          have hpb' := Lib.hid hpb
          obtain ⟨y0, y1, y2, -, -, -⟩ := cells3 hpa
          obtain ⟨d0, d1, d2, f0, f1, f2⟩ := cells3 hpb
          have hq9 := HB9.out.blk HK72.out
          rw [← show py = y.p from HPY.out] at hq9
          obtain ⟨l0', l1', l2', -, -, -⟩ := cells3 hq9
          have s1 : w2.heap.size + 1 < w9.heap.size := (Array.getElem?_eq_some_iff.1 hq9).1
          have s2 : ga < w9.heap.size := (Array.getElem?_eq_some_iff.1 hpa).1
          have s3 : gb < w9.heap.size := (Array.getElem?_eq_some_iff.1 hpb).1
          have hVs : V2.heap.size ≤ V3.heap.size := HB3.out.size
          have s5 : w2.heap.size + 1 ≠ gb := by have := (Array.getElem?_eq_some_iff.1 HK72.out).1; omega
          have s6 : V2.heap.size ≤ gb := by omega
          clear hb9 hv9 hv10 hv8 hpa hpb hq9 l8 l9 r3 r4 r5 w3 w4 w5' hki j1 j2 hga hgb hVs
          go_upto_region 16 with fail
          refine wp_abs' ?_
          intro W hW
          have HBW9 : Hid (Bel V2 W) := Lib.hid (by rw [hW]; exact ((HB9.out.set_ (p := ⟨gb, 0, none⟩) s6 _).set_ (p := ⟨gb, 1, none⟩) s6 _).set_ (p := ⟨gb, 2, none⟩) s6 _)
          have ho : ∀ q, q ≠ gb → W.heap[q]? = w9.heap[q]? := fun q hq => by rw [hW, Below.heap_setCell _ _ _ _ hq, Below.heap_setCell _ _ _ _ hq, Below.heap_setCell _ _ _ _ hq]
          have hc : ∀ q o v, q ≠ gb → w9.cell? ⟨q, o, none⟩ = some v → W.cell? ⟨q, o, none⟩ = some v := fun q o v hq h => by unfold World.cell? at h ⊢; rw [ho q hq]; exact h
          have ca0 := hc _ _ _ hne y0
          have ca1 := hc _ _ _ hne y1
          have ca2 := hc _ _ _ hne y2
          have cb0 := hc _ _ _ s5 l0'
          have cb1 := hc _ _ _ s5 l1'
          have cb2 := hc _ _ _ s5 l2'
          have hgbo : W.heap[gb]? = some (.cells #[.int .i64 pz.a, .int .i64 pz.l, .int .i64 pz.c] 32 (0, 0)) := by
            have h := hpb'.out
            unfold posO at h
            rw [hW]
            simp [World.setCell, Array.getElem?_modify, h]
          obtain ⟨cd0, cd1, cd2, -, -, -⟩ := cells3 hgbo
          clear hW y0 y1 y2 d0 d1 d2 f0 f1 f2 l0' l1' l2' s1 s2 s3 s5 s6 hne ho hc hgbo
          have hl1 : px.l = 1 ∨ 1 < px.l := by have := HXL.out; omega
          rcases hl1 with hl1 | hl1
          · have m4 : (px.l == 1) = true := by rw [hl1]; rfl
            have m6 : IntKind.i64.wrap (px.c + py.c - 1) = pz.c := by rw [HZC.out, if_pos hl1, IntWalk.i64_in _ (by have := HSM2.out; omega)]; omega
            have m7 : decide (1 < px.l) = false := decide_eq_false (by omega)
            clear hl1
            go_wp2
            obtain ⟨⟨hj1, hj2⟩, hj3⟩ := HII.out
            have hj4 : i ≤ 1000000 := by omega
            go_roundg (gk - 1)
            case rel => exact ⟨i + 1, rel_num hj4, Lib.hid ⟨by omega, by omega⟩, HBW9⟩
            case measure => omega
          · have m4 : (px.l == 1) = false := beq_eq_false_iff_ne.2 (by omega)
            have m6 : px.c = pz.c := by rw [HZC.out, if_neg (by omega)]
            have m7 : decide (1 < px.l) = true := decide_eq_true hl1
            have m8 : (px.c != pz.c) = false := by rw [m6]; simp
            clear hl1 m6
            go_wp2
            obtain ⟨⟨hj1, hj2⟩, hj3⟩ := HII.out
            have hj4 : i ≤ 1000000 := by omega
            go_roundg (gk - 1)
            case rel => exact ⟨i + 1, rel_num hj4, Lib.hid ⟨by omega, by omega⟩, HBW9⟩
            case measure => omega
        · go_wp2
          go_ret
          exact ⟨rfl, HB2.out.on (HBW.out.on HB.out)⟩
  · obtain ⟨O, hO⟩ : ∃ O, O = tokO s.data.toList.length cs rest := ⟨_, rfl⟩
    have hl := tok_no he
    rw [← hO] at he hl
    have HT : Hid (∀ W, Calls Tryz.prog 19 #[.string s] W (GTo O W)) := Lib.hid fun W => by
      have := tokens_any HC.out W
      rw [← HLEN.out, ← hO] at this
      exact this
    have hno := dg_no he O.q
    clear hO
    go_enter Tryz.func7, Tryz.ntmps7
    go_wp2_with fail
    refine (known10_any _ HTB.out).mono ?_
    rintro e w1 ⟨rfl, hb1⟩
    have HB1 := Lib.hid hb1
    clear hb1
    go_wp2_with fail
    refine (HT.out _).mono ?_
    rintro e w7 ⟨hb7, A7, n7, c7, rfl, hr7⟩
    have HB7 := Lib.hid (HB1.out.on hb7)
    clear hb7 hl he hr7
    go_wp2
    go_ret
    exact ⟨rfl, HB7.out.alloc _⟩
end Go.Proofs.YteockaolmobmeaaGreatDoor.Mu


