/-
  Project, walked.
-/
import Derived.Test.YtlbachjhhjjmfaaTable
import Derived.Test.YtlbachjhhjjmfaaLetsK
import Derived.Test.YtlbachjhhjjmfaaLeastG
namespace Go.Proofs.Ytlbachjhhjjmfaa.Mu
open Go.ChangeShapes Go.WideShapes Go.ChangeAt Go.RowKit Go.Shelf

attribute [local go_sem] Oper.semAt_some

theorem greatP_gr {p : Int → Bool} {P : Int → Prop} (h3 : p 3 = true ↔ P 3) (h2 : p 2 = true ↔ P 2) : greatP p = gr P := by
  unfold greatP
  rcases gr_cases P with ⟨e, h⟩ | ⟨e, h, h'⟩ | ⟨e, h, h'⟩
  · rw [e, if_pos (h3.2 h)]
  · rw [e, if_neg (fun q => h' (h3.1 q)), if_pos (h2.2 h)]
  · rw [e, if_neg (fun q => h' (h3.1 q)), if_neg (fun q => h (h2.1 q))]
/-- What a table holds. -/
structure TabIs (xs : List Iq) (G : List Int) (keep : List Nat) (L U : List Int) (rows : List (List Int)) : Prop where
  low : L = keep.map fun v => G[v]?.getD 0
  up : U = keep.map fun v => upM xs v
  pair : rows = keep.map fun v => keep.map fun w => pairM xs G v w
theorem own_cap {w : World} {base e n c : Nat} {A : Option Addr} {xs : List Value} (h : w.ownsRow base e 1 (.slice A n c) n xs) : n ≤ c := by
  rcases h.2 with ⟨hv, h0⟩ | ⟨g, cap, cur, hv, _, _, hnc, _⟩
  · cases hv; exact Nat.le_refl _
  · cases hv; exact hnc
def ErrPost (c : Int) (w : World) (e : Ending) (w' : World) : Prop := e = .returned (.tuple #[.agg #[.slice none 0 0, .slice none 0 0, .slice none 0 0], .int .i64 c]) ∧ Bel w w'
def OkPost (xs : List Iq) (G : List Int) (keep : List Nat) (kn : Nat) (w : World) (e : Ending) (w' : World) : Prop :=
  ∃ LA lc UA uc PA pc L U rows, e = .returned (.tuple #[.agg #[.slice LA kn lc, .slice UA kn uc, .slice PA kn pc], .int .i64 0]) ∧ RI .u8 w' w'.heap.size LA kn L ∧ RI .u8 w' w'.heap.size UA kn U ∧ RP w' w'.heap.size PA kn rows ∧ (∀ r ∈ rows, r.2.1 = kn ∧ kn ≤ r.2.2.1) ∧ TabIs xs G keep L U (rows.map fun r => r.2.2.2) ∧ Bel w w'
theorem tab_is {xs : List Iq} {G : List Int} {keep os2 os3 : List Nat} {kn : Nat} (hk : kn = keep.length)
    (h2 : ∀ (i v : Nat), keep[i]? = some v → (memW os2 i 150 = true ↔ Hits xs 2 v) ∧ ∀ (j w : Nat), keep[j]? = some w → (memW os2 i j = true ↔ Rch (arrM xs 2) v w))
    (h3 : ∀ (i v : Nat), keep[i]? = some v → (memW os3 i 150 = true ↔ Hits xs 3 v) ∧ ∀ (j w : Nat), keep[j]? = some w → (memW os3 i j = true ↔ Rch (arrM xs 3) v w)) :
    TabIs xs G keep (lowsT G keep) (upsT os2 os3 kn) ((List.range kn).map (rowT G keep os2 os3 kn)) := by
  have hup : ∀ (i v : Nat), keep[i]? = some v → upT os2 os3 i = upM xs v := fun i v hi => greatP_gr (by
      show (!memW (osM os2 os3 3) i 150) = true ↔ _
      rw [show osM os2 os3 3 = os3 from rfl, ← (h3 i v hi).1]; simp) (by
      show (!memW (osM os2 os3 2) i 150) = true ↔ _
      rw [show osM os2 os3 2 = os2 from rfl, ← (h2 i v hi).1]; simp)
  refine ⟨rfl, ?_, ?_⟩
  · apply List.ext_getElem?
    intro i
    unfold upsT
    rw [List.getElem?_map, List.getElem?_map]
    cases hi : keep[i]? with
    | none => rw [List.getElem?_eq_none (by rw [List.length_range, hk]; exact List.getElem?_eq_none_iff.1 hi)]; rfl
    | some v =>
      have hl := (List.getElem?_eq_some_iff.1 hi).1
      rw [List.getElem?_range (by omega)]
      simp only [Option.map_some]
      rw [hup i v hi]
  · apply List.ext_getElem?
    intro i
    rw [List.getElem?_map, List.getElem?_map]
    cases hi : keep[i]? with
    | none => rw [List.getElem?_eq_none (by rw [List.length_range, hk]; exact List.getElem?_eq_none_iff.1 hi)]; rfl
    | some v =>
      have hl := (List.getElem?_eq_some_iff.1 hi).1
      rw [List.getElem?_range (by omega)]
      simp only [Option.map_some, Option.some.injEq]
      unfold rowT
      apply List.ext_getElem?
      intro j
      rw [List.getElem?_map, List.getElem?_map]
      cases hj : keep[j]? with
      | none => rw [List.getElem?_eq_none (by rw [List.length_range, hk]; exact List.getElem?_eq_none_iff.1 hj)]; rfl
      | some w =>
        have hl2 := (List.getElem?_eq_some_iff.1 hj).1
        rw [List.getElem?_range (by omega)]
        simp only [Option.map_some, Option.some.injEq]
        have hlow : (lowsT G keep)[j]?.getD 0 = G[w]?.getD 0 := by unfold lowsT; rw [List.getElem?_map, hj]; rfl
        rw [hup i v hi, hlow]
        unfold prT pairM
        refine greatP_gr ?_ ?_
        · show ((decide _ && decide _) && !memW (osM os2 os3 3) i j) = true ↔ _
          rw [show osM os2 os3 3 = os3 from rfl, ← (h3 i v hi).2 j w hj]
          simp [and_assoc]
        · show ((decide _ && decide _) && !memW (osM os2 os3 2) i j) = true ↔ _
          rw [show osM os2 os3 2 = os2 from rfl, ← (h2 i v hi).2 j w hj]
          simp [and_assoc]
def ProjPost (n : Int) (xs : List Iq) (keep : List Int) (kn : Nat) (T : Option Nat × List Int × List Int) (w : World) (e : Ending) (w' : World) : Prop :=
  if mayF n [] xs ≠ 0 then ErrPost (mayF n [] xs) w e w' else match T.1 with
    | some _ => ErrPost 40 w e w'
    | none => if KeepOk n keep then OkPost xs T.2.1 (keep.map Int.toNat) kn w e w' else ErrPost 2 w e w'

theorem put3 {w : World} {g : Nat} {t : TypeId} {o0 o1 o2 x y z : Value} (h : w.heap[g]? = some (.cells #[o0, o1, o2] t (0, 0))) :
    ∃ w', w' = (((w.setCell ⟨g, 0, none⟩ x).setCell ⟨g, 1, none⟩ y).setCell ⟨g, 2, none⟩ z) ∧ w'.heap[g]? = some (.cells #[x, y, z] t (0, 0)) ∧ (∀ w0, Bel w0 w → w0.heap.size ≤ g → Bel w0 w') ∧ ∀ j, j ≠ g → w'.heap[j]? = w.heap[j]? := by
  refine ⟨_, rfl, ?_, fun w0 hb hg => ?_, fun j hj => ?_⟩
  · have a1 := heap_setCell_same w g 0 _ _ x h
    have a2 := heap_setCell_same _ g 1 _ _ y a1
    exact heap_setCell_same _ g 2 _ _ z a2
  · refine ⟨hb.os, hb.tape, hb.output, by have := hb.size; simpa [World.setCell] using this, fun j hj => ?_⟩
    have hne : ∀ o, j ≠ (⟨g, o, none⟩ : Addr).block := fun o e => by have : j = g := e; omega
    rw [heap_setCell_other _ _ j _ (hne 2), heap_setCell_other _ _ j _ (hne 1), heap_setCell_other _ _ j _ (hne 0)]
    exact hb.block j hj
  · have hne : ∀ o, j ≠ (⟨g, o, none⟩ : Addr).block := fun o e => hj e
    rw [heap_setCell_other _ _ j _ (hne 2), heap_setCell_other _ _ j _ (hne 1), heap_setCell_other _ _ j _ (hne 0)]
theorem project_long (n : Int) (A KA : Option Addr) (len cap kn kc : Nat) (w : World) (hk : 150 < kn) : Calls Try.prog 7 #[.int .i64 n, .slice A len cap, .slice KA kn kc] w (ErrPost 3 w) := by
  have h1 : (150 : Int) < (kn : Int) := by omega
  go_enter Try.func7, Try.ntmps7
  go_wp2
  exact bodyPost_ret (v := .tuple #[.agg #[.slice none 0 0, .slice none 0 0, .slice none 0 0], .int .i64 3]) (by simp [results, Try.results7, go_sem]) rfl ⟨rfl, (Bel.refl w).alloc _⟩
set_option maxRecDepth 100000 in
set_option maxHeartbeats 1000000 in
theorem project_no (n : Int) (A KA : Option Addr) (len cap kn kc : Nat) (xs : List Iq) (w : World) (hq : RQ w w.heap.size A len xs) (hk : kn ≤ 150) (hm : mayF n [] xs ≠ 0) : Calls Try.prog 7 #[.int .i64 n, .slice A len cap, .slice KA kn kc] w (ErrPost (mayF n [] xs) w) := by
  have hc := solve_no n none A 0 0 len cap [] xs (w.alloc (.cells #[.slice none 0 0, .slice none 0 0, .slice none 0 0] 26)) RI.nil_ (hq.bel ((Bel.refl w).alloc _)) (by omega) hm
  obtain ⟨r, hr⟩ : ∃ r, r = mayF n [] xs := ⟨_, rfl⟩
  rw [← hr] at hm hc ⊢
  have HC := Lib.hid hc
  have h1 : ¬ (150 : Int) < (kn : Int) := by omega
  have h2 : decide ((150 : Int) < (kn : Int)) = false := by simpa using h1
  clear hc hr hq
  go_enter Try.func7, Try.ntmps7
  go_wp2_with fail
  refine HC.out.mono ?_
  rintro e w2 ⟨rfl, hb2⟩
  have hc0 := hb2.blk (blk1 w (.cells #[.slice none 0 0, .slice none 0 0, .slice none 0 0] 26))
  obtain ⟨t0, t1, t2, f0, f1, f2⟩ := cells3 hc0
  have HB2 := Lib.hid (((Bel.refl w).alloc _).on hb2)
  have hzz : w.heap.size < w2.heap.size := (Array.getElem?_eq_some_iff.1 hc0).1
  have HC0 := Lib.hid hc0
  clear hc0 hb2 HC
  go_wp2
  obtain ⟨w3, hw3, h3, hB, _⟩ := put3 (x := .slice none 0 0) (y := .slice none 0 0) (z := .slice none 0 0) HC0.out
  rw [← hw3]
  obtain ⟨k0, k1, k2, _, _, _⟩ := cells3 h3
  clear hw3 t0 t1 t2 f0 f1 f2
  exact bodyPost_ret (v := .tuple #[.agg #[.slice none 0 0, .slice none 0 0, .slice none 0 0], .int .i64 r]) (by simp [results, Try.results7, go_sem, k0, k1, k2]) rfl ⟨rfl, hB w HB2.out (Nat.le_refl _)⟩
set_option maxRecDepth 100000 in
set_option maxHeartbeats 2000000 in
theorem project_good (n : Nat) (A KA : Option Addr) (len cap kn kc : Nat) (xs : List Iq) (keep : List Int) (hlen : len = xs.length) (hk : kn ≤ 150) (hkc : kn ≤ kc) (hm : mayF n [] xs = 0) :
    ∃ T, Tells n [] xs T ∧ ∀ w, RQ w w.heap.size A len xs → RI .i64 w w.heap.size KA kn keep → Calls Try.prog 7 #[.int .i64 n, .slice A len cap, .slice KA kn kc] w (ProjPost n xs keep kn T w) := by
  obtain ⟨T, ws, hT, hC⟩ := solve_good n none A 0 0 len cap [] xs hlen rfl hm
  refine ⟨T, hT, fun w hq hK => ?_⟩
  obtain ⟨N, hN, n1, l1, _, _, good⟩ := may_good hm
  obtain rfl : n = N := by omega
  have hb0 : Bel w (w.alloc (.cells #[.slice none 0 0, .slice none 0 0, .slice none 0 0] 26)) := (Bel.refl w).alloc _
  have hc := hC _ (RI.nil_) (hq.bel hb0)
  have HC := Lib.hid hc
  have HG := Lib.hid good
  have HT := Lib.hid hT
  have HQ := Lib.hid hq
  have HK := Lib.hid hK
  have HN1 := Lib.hid n1
  have HL1 : Hid (len ≤ 1048576) := Lib.hid (by omega)
  have HPP : Hid (∀ e w', ProjPost n xs keep kn T w e w' ↔ (match T.1 with | some _ => ErrPost 40 w e w' | none => if KeepOk n keep then OkPost xs T.2.1 (keep.map Int.toNat) kn w e w' else ErrPost 2 w e w')) := Lib.hid (fun e w' => by unfold ProjPost; rw [if_neg (by simp [hm])])
  have h1 : ¬ (150 : Int) < (kn : Int) := by omega
  have h2 : decide ((150 : Int) < (kn : Int)) = false := by simpa using h1
  obtain ⟨T1, T2, T3⟩ := T
  clear hc hC hT hq hK good hlen hm hN n1 l1 hb0
  cases T1 with
  | some i =>
    go_enter Try.func7, Try.ntmps7
    go_wp2_with fail
    refine HC.out.mono ?_
    rintro e w2 ⟨B, A2, c2, _, rfl, _, hb2⟩
    have hc0 := hb2.blk (blk1 w (.cells #[.slice none 0 0, .slice none 0 0, .slice none 0 0] 26))
    obtain ⟨t0, t1, t2, f0, f1, f2⟩ := cells3 hc0
    have HB2 := Lib.hid (((Bel.refl w).alloc _).on hb2)
    have hzz : w.heap.size < w2.heap.size := (Array.getElem?_eq_some_iff.1 hc0).1
    have HC0 := Lib.hid hc0
    clear hc0 hb2 HC
    go_wp2
    obtain ⟨w3, hw3, h3, hB, _⟩ := put3 (x := .slice none 0 0) (y := .slice none 0 0) (z := .slice none 0 0) HC0.out
    rw [← hw3]
    obtain ⟨k0, k1, k2, _, _, _⟩ := cells3 h3
    clear hw3 t0 t1 t2 f0 f1 f2
    exact bodyPost_ret (v := .tuple #[.agg #[.slice none 0 0, .slice none 0 0, .slice none 0 0], .int .i64 40]) (by simp [results, Try.results7, go_sem, k0, k1, k2]) rfl ((HPP.out _ _).2 ⟨rfl, hB w HB2.out (Nat.le_refl _)⟩)
  | none =>
    obtain ⟨hsl, hss, hsm⟩ := HT.out.solves rfl
    have HSL := Lib.hid hsl
    clear hsl hss hsm
    by_cases hkeep : KeepOk n keep
    · obtain ⟨kp, rfl⟩ : ∃ kp : List Nat, keep = kp.map fun (x : Nat) => (x : Int) := ⟨keep.map Int.toNat, by
        rw [List.map_map]
        apply List.ext_getElem?
        intro i
        rw [List.getElem?_map]
        cases hi : keep[i]? with
        | none => rfl
        | some x =>
          have := hkeep.1 x (List.mem_of_getElem? hi)
          simp only [Option.map_some, Function.comp, Option.some.injEq]
          omega⟩
      have hkp : (kp.map fun (x : Nat) => (x : Int)).map Int.toNat = kp := by rw [List.map_map]; exact (List.map_congr_left (fun a _ => Int.toNat_natCast a)).trans (List.map_id _)
      have hkl : ∀ v ∈ kp, v < n := fun v hv => by have := (hkeep.1 (v : Int) (List.mem_map.2 ⟨v, hv, rfl⟩)).2; omega
      have hknd : kp.Nodup := hkeep.2.of_map _ (fun a b h e => h (by rw [e]))
      have HMK := Lib.hid (fun W (hb : Bel w W) => mayKeep_any n KA kn kc _ W (HK.out.bel hb) (by omega) hkc)
      rw [show decide (KeepOk n (kp.map fun (x : Nat) => (x : Int))) = true from decide_eq_true hkeep] at HMK
      have HR2 := Lib.hid (fun W (hb : Bel w W) => reach_any n A KA len cap kn kc xs kp 2 W (HQ.out.bel hb) (HK.out.bel hb) HN1.out HL1.out HG.out hkl hknd hk)
      have HR3 := Lib.hid (fun W (hb : Bel w W) => reach_any n A KA len cap kn kc xs kp 3 W (HQ.out.bel hb) (HK.out.bel hb) HN1.out HL1.out HG.out hkl hknd hk)
      have HKP := Lib.hid hkp
      have HKLL := Lib.hid hkl
      have HKO := Lib.hid hkeep
      clear hkp hkl hknd hkeep
      go_enter Try.func7, Try.ntmps7
      go_wp2_with fail
      refine HC.out.mono ?_
      rintro e w2 ⟨ga, rfl, harr, _, hb2⟩
      have hbw2 : Bel w w2 := ((Bel.refl w).alloc _).on hb2
      have HC2 := Lib.hid (hb2.blk (blk1 w (.cells #[.slice none 0 0, .slice none 0 0, .slice none 0 0] 26)))
      have HB2 := Lib.hid hbw2
      have HARR := Lib.hid harr
      clear harr hb2 hbw2
      go_wp2_with fail
      refine (HMK.out _ HB2.out).mono ?_
      rintro e w3 ⟨rfl, hb3⟩
      have HB3 := Lib.hid hb3
      clear hb3
      go_wp2_with fail
      refine (HR2.out _ (HB2.out.on HB3.out)).mono ?_
      rintro e w4 ⟨V2, c2, os2, rfl, ho2, hl2, hn2, hr2, hb4⟩
      have HB4 := Lib.hid hb4
      have HO2 := Lib.hid (RW3.of_own ho2 hl2)
      have HR2' := Lib.hid hr2
      clear hb4 ho2 hl2 hn2 hr2
      go_wp2_with fail
      refine (HR3.out _ ((HB2.out.on HB3.out).on HB4.out)).mono ?_
      rintro e w5 ⟨V3, c3, os3, rfl, ho3, hl3, hn3, hr3, hb5⟩
      have HB5 := Lib.hid hb5
      have HO3 := Lib.hid (RW3.of_own ho3 hl3)
      have HR3' := Lib.hid hr3
      clear hb5 ho3 hl3 hn3 hr3
      have hzero : True := trivial
      go_wp2_with fail
      have hb25 : Bel w2 w5 := (HB3.out.on HB4.out).on HB5.out
      refine (table_any (some ⟨ga, 0, none⟩) KA V2 V3 n n kn kc c2 c3 T2 kp os2 os3 w5 ((HARR.out.bel hb25).ri HSL.out.symm) (HK.out.bel (HB2.out.on hb25)) HN1.out hk HKLL.out (HO2.out.bel HB5.out) HO3.out).mono ?_
      rintro e w6 ⟨LA, lc, UA, uc, PA, pc, rows, rfl, hL, hU, hP, hrl, hrc, hb6⟩
      have hc6 := (hb25.on hb6).blk HC2.out
      obtain ⟨t0, t1, t2, f0, f1, f2⟩ := cells3 hc6
      have hbw6 : Bel w w6 := HB2.out.on (hb25.on hb6)
      have HL := Lib.hid hL
      have HU := Lib.hid hU
      have HP := Lib.hid hP
      have HRC := Lib.hid hrc
      have HRL := Lib.hid hrl
      have HC6 := Lib.hid hc6
      have HBW6 := Lib.hid hbw6
      have hkl2 : kn = kp.length := by have := HK.out.1; simpa using this
      have hz25 : w.heap.size < w5.heap.size := by have h1 := (Array.getElem?_eq_some_iff.1 HC2.out).1; have h2 := hb25.size; omega
      have HTI := Lib.hid (tab_is (G := T2) hkl2 HR2'.out HR3'.out)
      clear hL hU hP hrc hrl hc6 hbw6 hb6 hb25 hkl2
      go_wp2_with fail
      obtain ⟨w7, hw7, h7, hB, hO7⟩ := put3 (x := .slice LA kn lc) (y := .slice UA kn uc) (z := .slice PA kn pc) HC6.out
      rw [← hw7]
      obtain ⟨k0, k1, k2, _, _, _⟩ := cells3 h7
      have HO7 := Lib.hid hO7
      clear hw7 t0 t1 t2 f0 f1 f2 hO7
      refine bodyPost_ret (v := .tuple #[.agg #[.slice LA kn lc, .slice UA kn uc, .slice PA kn pc], .int .i64 0]) (by simp [results, Try.results7, go_sem, k0, k1, k2]) rfl ((HPP.out _ _).2 ?_)
      show if KeepOk (n : Int) (kp.map fun (x : Nat) => (x : Int)) then _ else _
      rw [if_pos HKO.out, HKP.out]
      have hmu : ∀ (e : TypeId) (A : Option Addr) (n c : Nat) (xs : List Value), w6.ownsRow w5.heap.size e 1 (.slice A n c) n xs → w7.ownsRow w5.heap.size e 1 (.slice A n c) n xs := fun e A n c xs hx => own_blk hx (fun z hz => HO7.out z (by have := own_lt_bk hx (own_bk hx hz); omega))
      refine ⟨LA, lc, UA, uc, PA, pc, _, _, rows, rfl, RI.of_own (hmu _ _ _ _ _ HL.out), RI.of_own (hmu _ _ _ _ _ HU.out), RP.of_own (by omega) (hmu _ _ _ _ _ HP.out) (fun r hr => ?_), fun r hr => ⟨(HRL.out r hr).1, by have h := (HRL.out r hr).2; rw [(HRL.out r hr).1] at h; exact own_cap h⟩, by rw [HRC.out]; exact HTI.out, hB w HBW6.out (Nat.le_refl _)⟩
      obtain ⟨e, hx⟩ := HRL.out r hr
      refine ⟨e, ?_⟩
      rw [e] at hx ⊢
      exact hmu _ _ _ _ _ hx
    · have HMK := Lib.hid (fun W (hb : Bel w W) => mayKeep_any n KA kn kc _ W (HK.out.bel hb) (by omega) hkc)
      rw [show decide (KeepOk n keep) = false from decide_eq_false hkeep] at HMK
      have HKO := Lib.hid hkeep
      clear hkeep
      go_enter Try.func7, Try.ntmps7
      go_wp2_with fail
      refine HC.out.mono ?_
      rintro e w2 ⟨ga, rfl, harr, _, hb2⟩
      have hbw2 : Bel w w2 := ((Bel.refl w).alloc _).on hb2
      have HC2 := Lib.hid (hb2.blk (blk1 w (.cells #[.slice none 0 0, .slice none 0 0, .slice none 0 0] 26)))
      have HB2 := Lib.hid hbw2
      clear harr hb2 hbw2
      go_wp2_with fail
      refine (HMK.out _ HB2.out).mono ?_
      rintro e w3 ⟨rfl, hb3⟩
      have HB3 := Lib.hid hb3
      have hc3 := hb3.blk HC2.out
      have HC3 := Lib.hid hc3
      obtain ⟨t0, t1, t2, f0, f1, f2⟩ := cells3 hc3
      clear hb3 hc3
      go_wp2_with fail
      obtain ⟨w4, hw4, h4, hB, _⟩ := put3 (x := .slice none 0 0) (y := .slice none 0 0) (z := .slice none 0 0) HC3.out
      rw [← hw4]
      obtain ⟨k0, k1, k2, _, _, _⟩ := cells3 h4
      clear hw4 t0 t1 t2 f0 f1 f2
      exact bodyPost_ret (v := .tuple #[.agg #[.slice none 0 0, .slice none 0 0, .slice none 0 0], .int .i64 2]) (by simp [results, Try.results7, go_sem, k0, k1, k2]) rfl ((HPP.out _ _).2 (by
        show if KeepOk (n : Int) keep then _ else _
        rw [if_neg HKO.out]
        exact ⟨rfl, hB w (HB2.out.on HB3.out) (Nat.le_refl _)⟩))
end Go.Proofs.Ytlbachjhhjjmfaa.Mu

