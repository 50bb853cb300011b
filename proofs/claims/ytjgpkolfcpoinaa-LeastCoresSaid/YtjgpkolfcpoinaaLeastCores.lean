/-
  The statement LeastCores: walked.
-/
import Derived.Test.YtjgpkolfcpoinaaQlist
import Derived.Test.YtjgpkolfcpoinaaLeastKnown
import Derived.Test.YtjgpkolfcpoinaaLeastAgain
namespace Go.Proofs.Ytjgpkolfcpoinaa.Mu
open Go.ChangeShapes Go.WideShapes Go.ChangeAt Go.RowKit Go.Shelf

attribute [local go_sem] Oper.semAt_some

theorem may_sub {n : Nat} {low : List Int} {xs zs : List Iq} (hm : mayF n low xs = 0) (hs : ∀ z ∈ zs, z ∈ xs) (hl : zs.length ≤ 1048576) : mayF n low zs = 0 := by
  obtain ⟨N, hN, n1, l1, _, _, _⟩ := may_good hm
  obtain rfl : n = N := by omega
  obtain ⟨h0, h1, h2, h3⟩ := (mayF_zero (by omega) l1).1 hm
  refine (mayF_zero (by omega) hl).2 ⟨h0, h1, h2, ?_⟩
  rw [List.any_eq_false] at h3 ⊢
  exact fun z hz => h3 z (hs z hz)
/-- The core's inequalities. -/
def selL (xs : List Iq) (ns : List Int) : List Iq := ns.map fun x => xs[x.toNat]?.getD iq0
/-- What the core's numbers are. -/
theorem core_at {n : Nat} {L : List Int} {xs : List Iq} {is : List Nat} (hk : Cores n L xs is) {k : Nat} (hlt : k < (coreL is).length) : ∃ (j : Nat) (x : Iq), (coreL is)[k]? = some (j : Int) ∧ j ∈ is ∧ j < xs.length ∧ xs[j]? = some x ∧ (selL xs (coreL is))[k]? = some x := by
  obtain ⟨j, hj, e⟩ := coreL_mem.1 (List.getElem_mem hlt)
  have hjl := hk.lt j hj
  refine ⟨j, xs[j], by rw [List.getElem?_eq_getElem hlt, e], hj, hjl, List.getElem?_eq_getElem hjl, ?_⟩
  unfold selL
  rw [List.getElem?_map, List.getElem?_eq_getElem hlt, e]
  simp [hjl]
theorem core_up {n : Nat} {L : List Int} {xs : List Iq} {is : List Nat} (hk : Cores n L xs is) {a b : Nat} (hab : a < b) (hb : b < (coreL is).length) : ((coreL is)[a]?.getD 0) < ((coreL is)[b]?.getD 0) := by
  have h := coreL_rises hk.nd
  rw [List.pairwise_iff_getElem] at h
  rw [List.getElem?_eq_getElem (show a < (coreL is).length by omega), List.getElem?_eq_getElem hb]
  exact h a b (by omega) hb hab
theorem sel_len (xs : List Iq) (ns : List Int) : (selL xs ns).length = ns.length := by simp [selL]
theorem sel_sub {n : Nat} {L : List Int} {xs : List Iq} {is : List Nat} (hk : Cores n L xs is) : ∀ z ∈ selL xs (coreL is), z ∈ xs := by
  intro z hz
  obtain ⟨k, hlt, rfl⟩ := List.getElem_of_mem hz
  rw [sel_len] at hlt
  obtain ⟨j, x, _, _, _, h4, h5⟩ := core_at hk hlt
  rw [List.getElem?_eq_getElem (by rw [sel_len]; exact hlt)] at h5
  injection h5 with h5
  rw [h5]
  exact List.mem_of_getElem? h4
theorem sel_none {n : Nat} {low : List Int} {xs : List Iq} {is : List Nat} (hk : Cores n (low0 n low) xs is) {T : Option Nat × List Int × List Int} (hT : Tells n low (selL xs (coreL is)) T) : T.1 ≠ none := by
  intro ht
  obtain ⟨_, h2, h3⟩ := hT.solves ht
  refine hk.none T.2.1 (fun i hi x hx => ?_) (fun v hv => (h3 v hv).2.2)
  have hmem : (i : Int) ∈ coreL is := coreL_mem.2 ⟨i, hi, rfl⟩
  refine h2 x ?_
  unfold selL
  rw [List.mem_map]
  exact ⟨i, hmem, by simp [hx]⟩
theorem sel_some {n : Nat} {low : List Int} {xs : List Iq} {is : List Nat} (hk : Cores n (low0 n low) xs is) {i : Nat} (hi : i < (coreL is).length) {T : Option Nat × List Int × List Int} (hT : Tells n low ((selL xs (coreL is)).eraseIdx i) T) : T.1 = none := by
  obtain ⟨j, x, h1, h2, _, _, _⟩ := core_at hk hi
  obtain ⟨S, _, hs1, hs2⟩ := hk.some j h2
  refine (hT.least S (fun z hz => ?_) (fun v hv => (hs1 v hv).1)).1
  rw [List.mem_eraseIdx_iff_getElem?] at hz
  obtain ⟨k, hki, hz⟩ := hz
  have hkl := (List.getElem?_eq_some_iff.1 hz).1
  rw [sel_len] at hkl
  obtain ⟨j', x', h1', h2', _, h4', h5'⟩ := core_at hk hkl
  rw [h5'] at hz
  cases hz
  refine hs2 j' h2' (fun e => ?_) _ h4'
  subst e
  have e1 : (coreL is)[i]?.getD 0 = (coreL is)[k]?.getD 0 := by rw [h1, h1']
  rcases Nat.lt_or_gt_of_ne hki with h | h
  · have := core_up hk h hi; omega
  · have := core_up hk h hkl; omega
theorem own_caps {w : World} {base e size n g cap : Nat} {xs : List Value} (h : w.ownsRow base e size (.slice (some ⟨g, 0, none⟩) n cap) n xs) : n ≤ cap ∧ cap ≤ 9223372036854775807 ∧ base ≤ g ∧ g < w.heap.size := by
  have hl := h.lt g rfl
  rcases h.2 with ⟨h', _⟩ | ⟨g', cap', cur, h', hb, hg, hnc, hcm, hcs, htake⟩
  · simp at h'
  · simp only [Value.slice.injEq, Option.some.injEq, Addr.mk.injEq, and_true, true_and] at h'
    obtain ⟨rfl, rfl⟩ := h'
    unfold maxLen at hcm
    exact ⟨hnc, by omega, hl.1, hl.2⟩
def RefNo (w : World) (e : Ending) (w' : World) : Prop := e = .returned (.tuple #[.slice none 0 0, .bool false]) ∧ Bel w w'
def RefYes (n : Nat) (w : World) (e : Ending) (w' : World) : Prop := ∃ A c, e = .returned (.tuple #[.slice A n c, .bool true]) ∧ Bel w w'

set_option maxRecDepth 100000 in
set_option maxHeartbeats 8000000 in
theorem leastCores_any (n : Int) (G A : Option Addr) (ln lk len cap : Nat) (low : List Int) (xs : List Iq) (w : World) (hl : RI .u8 w w.heap.size G ln low) (hlm : ln ≤ 9223372036854775807) (hq : RQ w w.heap.size A len xs) (hqm : len ≤ 9223372036854775807) :
    Calls Try.prog 5 #[.int .i64 n, .slice G ln lk, .slice A len cap] w fun e w' => e = .returned (.bool true) ∧ Bel w w' := by
  have HG := Lib.hid hl
  have HQ := Lib.hid hq
  have HLQ := Lib.hid hq.len
  have HLL := Lib.hid hl.len
  have HB0 := Lib.hid (Bel.refl w)
  clear hl hq
  obtain ⟨g, hg⟩ : ∃ g, g = (decide (200 < n) || decide (300 < ln) || decide (400 < len)) := ⟨_, rfl⟩
  have hgr := fun W => lgreat_any n G A ln lk len cap W
  rw [← hg] at hgr
  have HGR := Lib.hid hgr
  clear hgr
  cases g with
  | true =>
    clear hg
    go_enter Try.func5, Try.ntmps5
    go_wp2_with fail
    refine (HGR.out _).mono ?_
    rintro e w1 ⟨rfl, hb1⟩
    have HB1 := Lib.hid (HB0.out.on hb1)
    clear hb1
    go_wp2_with fail
    refine (works4_any _).mono ?_
    rintro e w2 ⟨rfl, hb2⟩
    have HB2 := Lib.hid (HB1.out.on hb2)
    clear hb2
    go_wp2
    go_ret
    exact ⟨rfl, HB2.out⟩
  | false =>
    obtain ⟨s1, s2, s3⟩ : n ≤ 200 ∧ ln ≤ 300 ∧ len ≤ 400 := by simp at hg; omega
    clear hg hqm hlm
    have HMY := Lib.hid (fun W (hW : Bel w W) => rmay4_any n G A ln lk len cap low xs W (HG.out.bel hW) (HQ.out.bel hW) (by omega) (by omega) (by omega))
    by_cases hm : mayF n low xs = 0
    case neg =>
      rw [decide_eq_false hm] at HMY
      clear hm
      go_enter Try.func5, Try.ntmps5
      go_wp2_with fail
      refine (HGR.out _).mono ?_
      rintro e w1 ⟨rfl, hb1⟩
      have HB1 := Lib.hid (HB0.out.on hb1)
      clear hb1
      go_wp2_with fail
      refine (HMY.out _ HB1.out).mono ?_
      rintro e w2 ⟨rfl, hb2⟩
      have HB2 := Lib.hid (HB1.out.on hb2)
      clear hb2
      go_wp2_with fail
      refine (works4_any _).mono ?_
      rintro e w3 ⟨rfl, hb3⟩
      have HB3 := Lib.hid (HB2.out.on hb3)
      clear hb3
      go_wp2
      go_ret
      exact ⟨rfl, HB3.out⟩
    case pos =>
      obtain ⟨N, rfl, _⟩ := may_good hm
      rw [decide_eq_true hm] at HMY
      obtain ⟨T, ws, hT, hk, hc⟩ := solve_core N G A ln lk len cap low xs HLQ.out HLL.out hm
      have HSV := Lib.hid (fun W (hW : Bel w W) => hc W (HG.out.bel hW) (HQ.out.bel hW))
      unfold SolvePost at HSV
      obtain ⟨t1, t2, t3⟩ := T
      dsimp only at HSV hk
      cases t1 with
      | none =>
        clear hT hk hc hm
        go_enter Try.func5, Try.ntmps5
        go_wp2_with fail
        refine (HGR.out _).mono ?_
        rintro e w1 ⟨rfl, hb1⟩
        have HB1 := Lib.hid (HB0.out.on hb1)
        clear hb1
        go_wp2_with fail
        refine (HMY.out _ HB1.out).mono ?_
        rintro e w2 ⟨rfl, hb2⟩
        have HB2 := Lib.hid (HB1.out.on hb2)
        clear hb2
        go_wp2_with fail
        refine (HSV.out _ HB2.out).mono ?_
        rintro e w3 ⟨ga, rfl, _, _, hb3⟩
        have HB3 := Lib.hid (HB2.out.on hb3)
        clear hb3
        go_wp2_with fail
        refine (works4_any _).mono ?_
        rintro e w4 ⟨rfl, hb4⟩
        have HB4 := Lib.hid (HB3.out.on hb4)
        clear hb4
        go_wp2
        go_ret
        exact ⟨rfl, HB4.out⟩
      | some i0 =>
        have hcore := hk i0 rfl
        obtain ⟨is, his⟩ : ∃ is, is = i0 :: ws := ⟨_, rfl⟩
        rw [← his] at hcore
        have HOUT : Hid (∀ W, Bel w W → Calls Try.prog 12 #[.int .i64 N, .slice G ln lk, .slice A len cap] W (CoreOut (coreL is) W)) := Lib.hid fun W hW => by
          have h := HSV.out W hW
          exact h.mono fun e w' hp => clash_out (is := is) (by rw [his]; exact hp)
        clear HSV hc hk hT
        obtain ⟨ns, hns⟩ : ∃ ns, ns = coreL is := ⟨_, rfl⟩
        obtain ⟨sel, hsel⟩ : ∃ sel, sel = selL xs ns := ⟨_, rfl⟩
        have hsl : sel.length = ns.length := by rw [hsel, sel_len]
        have hnl : ns.length ≤ len := by
          rw [hns, coreL_len, HLQ.out]
          have := List.Nodup.length_le_of_subset hcore.nd (l₂ := List.range xs.length) (fun v hv => by simpa using hcore.lt v hv)
          simpa using this
        have hsub : ∀ z ∈ sel, z ∈ xs := by rw [hsel, hns]; exact sel_sub hcore
        have hms : mayF N low sel = 0 := may_sub hm hsub (by omega)
        obtain ⟨T1, hT1⟩ := tells_of hms
        have hT1n : T1.1 ≠ none := by rw [hsel, hns] at hT1; exact sel_none hcore hT1
        have HNO : Hid (∀ W A' c', Bel w W → RQ W W.heap.size A' ns.length sel → Calls Try.prog 21 #[.int .i64 N, .slice G ln lk, .slice A' ns.length c'] W (RefNo W)) := Lib.hid fun W A' c' hW hr => by
          refine (rsolve4_any N G A' ln lk ns.length c' low sel T1 hT1 hms W (HG.out.bel hW) hr (by omega) (by omega) (by omega)).mono fun e w' hp => ?_
          unfold RPost at hp
          cases h : T1.1 with
          | none => exact absurd h hT1n
          | some i => rw [h] at hp; exact hp
        have HYES : Hid (∀ i W A' c', i < ns.length → Bel w W → RQ W W.heap.size A' (ns.length - 1) (sel.eraseIdx i) → Calls Try.prog 21 #[.int .i64 N, .slice G ln lk, .slice A' (ns.length - 1) c'] W (RefYes N W)) := Lib.hid fun i W A' c' hi hW hr => by
          have hme : mayF N low (sel.eraseIdx i) = 0 := may_sub hm (fun z hz => hsub z (List.mem_of_mem_eraseIdx hz)) (by have := List.length_eraseIdx_le sel i; omega)
          obtain ⟨T2, hT2⟩ := tells_of hme
          have hn2 : T2.1 = none := by rw [hsel, hns] at hT2; exact sel_some hcore (by rw [← hns]; exact hi) hT2
          refine (rsolve4_any N G A' ln lk (ns.length - 1) c' low (sel.eraseIdx i) T2 hT2 hme W (HG.out.bel hW) hr (by omega) (by omega) (by omega)).mono fun e w' hp => ?_
          unfold RPost at hp
          rw [hn2] at hp
          obtain ⟨A2, c2, h1, _, h3⟩ := hp
          exact ⟨A2, c2, h1, h3⟩
        have HAT : Hid (∀ k, k < ns.length → ∃ (j : Nat) (x : Iq), ns[k]? = some (j : Int) ∧ j < len ∧ xs[j]? = some x ∧ sel[k]? = some x) := Lib.hid fun k hk => by
          rw [hns] at hk
          obtain ⟨j, x, h1, _, h3, h4, h5⟩ := core_at hcore hk
          exact ⟨j, x, by rw [hns]; exact h1, by rw [HLQ.out]; exact h3, h4, by rw [hsel, hns]; exact h5⟩
        have HUP : Hid (∀ k, k + 1 < ns.length → ns[k]?.getD 0 < ns[k + 1]?.getD 0) := Lib.hid fun k hk => by
          rw [hns] at hk ⊢
          exact core_up hcore (Nat.lt_succ_self k) hk
        rw [← hns] at HOUT
        have HSL := Lib.hid hsl
        obtain ⟨L, hL⟩ : ∃ L, L = ns.length := ⟨_, rfl⟩
        have HDEL : Hid (∀ i W g c' base, i < L → W.ownsRow base 31 4 (.slice (some ⟨g, 0, none⟩) L c') L (flatI sel) → Calls Try.prog 22 #[.slice (some ⟨g, 0, none⟩) L c', .int .i64 (i : Int), .int .i64 ((i : Int) + 1)] W fun e w' => ∃ c2, e = .returned (.slice (some ⟨g, 0, none⟩) (L - 1) c2) ∧ RQ w' (g + 1) (some ⟨g, 0, none⟩) (L - 1) (sel.eraseIdx i) ∧ Only g W w') := Lib.hid fun i W g c' base hi hown => by
          obtain ⟨r, hr⟩ : ∃ r, L = i + 1 + r := ⟨L - (i + 1), by omega⟩
          obtain ⟨p1, p2, _, _⟩ := own_caps hown
          have e : L - 1 = i + r := by omega
          rw [e]
          rw [hr] at hown p1 ⊢
          exact deleteQ_any g i r c' base sel W hown (by omega) p1 p2
        have hL400 : L ≤ 400 := by omega
        rw [← hL] at HNO HYES HAT HUP HSL
        unfold CoreOut at HOUT
        rw [← hL] at HOUT
        clear hcore his hsel hns hsl hnl hsub hms hT1 hT1n hL hm
        go_enter Try.func5, Try.ntmps5
        go_wp2_with fail
        refine (HGR.out _).mono ?_
        rintro e w1 ⟨rfl, hb1⟩
        have HB1 := Lib.hid (HB0.out.on hb1)
        clear hb1
        go_wp2_with fail
        refine (HMY.out _ HB1.out).mono ?_
        rintro e w2 ⟨rfl, hb2⟩
        have HB2 := Lib.hid (HB1.out.on hb2)
        clear hb2
        go_wp2_with fail
        refine (HOUT.out _ HB2.out).mono ?_
        rintro e w3 ⟨A3, c3, rfl, hr3, hb3⟩
        have HR3 := Lib.hid hr3
        have HB3 := Lib.hid (HB2.out.on hb3)
        have HZ3 : Hid (w.heap.size ≤ w3.heap.size) := Lib.hid HB3.out.size
        clear hr3 hb3
        go_wp2_with fail
        go_loopw [10, 43] (fun sl kv wr => ∃ (k c : Nat) (V : Option Addr), k ≤ L ∧ kv = .int .i64 (k : Int) ∧ sl = .slice V k c ∧ Hid (wr.ownsRow w3.heap.size 31 4 (.slice V k c) k (flatI (sel.take k))) ∧ Hid (Bel w3 wr)) (fun _ kv _ => L - (intOf kv).toNat)
        case atStart => exact ⟨0, 0, none, Nat.zero_le _, rfl, rfl, Lib.hid (World.ownsRow_nil _ _ _ _), Lib.hid (Bel.refl _)⟩
        case round =>
          obtain ⟨k, c, V, hk, rfl, rfl, HOW, HBW⟩ := hrel
          have HSZ : Hid (w3.heap.size ≤ wr.heap.size) := Lib.hid HBW.out.size
          by_cases hlt : k < L
          case pos =>
            obtain ⟨j, x, n1, j1, x1, x2⟩ := HAT.out k hlt
            obtain ⟨b, off, e3, _, hc⟩ := (HR3.out.bel HBW.out).at_ (by omega)
            have c0 := hc k hlt
            rw [n1, Option.getD_some] at c0
            obtain ⟨qb, qo, eA, _, qc⟩ := (HQ.out.bel (HB3.out.on HBW.out)).at_ (by omega)
            obtain ⟨d0, d1, d2, d3⟩ := qc j x x1
            have HX2 := Lib.hid x2
            have HN1 := Lib.hid n1
            have HC := Lib.hid hc
            have i1 : (0 : Int) ≤ (k : Int) := by omega
            have i2 : (k : Int) < (L : Int) := by omega
            have i3 : ¬ (j : Int) < 0 := by omega
            have i4 : decide ((j : Int) < 0) = false := by simp
            have i5 : (0 : Int) ≤ (j : Int) := by omega
            have i6 : (j : Int) < (len : Int) := by omega
            have i7 : ¬ (len : Int) ≤ (j : Int) := by omega
            have i8 : decide ((len : Int) ≤ (j : Int)) = false := by simp; omega
            have i9 : decide (len ≤ j) = false := by simp; omega
            subst e3
            subst eA
            clear hc qc n1 x1 x2
            cases k with
            | zero =>
              rw [Nat.add_zero] at c0
              go_wp2_with (at_builtin; refine wpList_append_one rfl _ _ 35 rfl w3.heap.size 31 _ 4 32 Try.underlying35 info_ineq rfl (by decide) (by decide) V 0 c _ rfl (HOW.out.alloc _) wr.heap.size [.int .i64 x.v, .int .u8 x.m, .int .u8 x.c, .int .i64 x.r] rfl rfl (four_at wr _ _ _ _ _) (by simp [Value.oneCell']) (by omega) (by have := HSZ.out; simp; omega) ?_; intro V5 c5 w5 hown5 hg5)
              go_roundw
              case rel => exact ⟨1, c5, V5, by omega, rfl, rfl, Lib.hid (by rw [take_snoc_ HX2.out, flatI_snoc]; exact hown5), Lib.hid (Below.grown (HBW.out.alloc _) hg5 (by have := HSZ.out; simp; omega) (fun x hx => (HOW.out.lt x hx).1))⟩
              case measure => simp [intOf]; omega
            | succ k =>
              have c1 := HC.out k (by omega)
              obtain ⟨y, hy⟩ : ∃ y, ns[k]?.getD 0 = y := ⟨_, rfl⟩
              have hup := HUP.out k (by omega)
              rw [HN1.out, Option.getD_some, hy] at hup
              rw [hy] at c1
              have p1 : ¬ (j : Int) ≤ y := by omega
              have p2 : decide ((j : Int) ≤ y) = false := by simpa using p1
              have p3 : (0 : Int) < ((k + 1 : Nat) : Int) := by omega
              have p4 : (k : Int) < (L : Int) := by omega
              have p5 : (0 : Int) ≤ (k : Int) := by omega
              clear hy hup
              go_wp2_with (at_builtin; refine wpList_append_one rfl _ _ 35 rfl w3.heap.size 31 _ 4 32 Try.underlying35 info_ineq rfl (by decide) (by decide) V (k + 1) c _ rfl (HOW.out.alloc _) wr.heap.size [.int .i64 x.v, .int .u8 x.m, .int .u8 x.c, .int .i64 x.r] rfl rfl (four_at wr _ _ _ _ _) (by simp [Value.oneCell']) (by omega) (by have := HSZ.out; simp; omega) ?_; intro V5 c5 w5 hown5 hg5)
              go_roundw
              case rel => exact ⟨k + 1 + 1, c5, V5, by omega, by go_num, rfl, Lib.hid (by rw [take_snoc_ HX2.out, flatI_snoc]; exact hown5), Lib.hid (Below.grown (HBW.out.alloc _) hg5 (by have := HSZ.out; simp; omega) (fun x hx => (HOW.out.lt x hx).1))⟩
              case measure => simp [intOf]; omega
          case neg =>
            obtain rfl : k = L := by omega
            have HO4 : Hid (wr.ownsRow w3.heap.size 31 4 (.slice V k c) k (flatI sel)) := Lib.hid (by have h := HOW.out; rwa [List.take_of_length_le (by rw [HSL.out]; exact Nat.le_refl _)] at h)
            have HB4 := Lib.hid (HB3.out.on HBW.out)
            clear HOW
            go_wp2_with fail
            refine (HNO.out _ _ _ HB4.out (RQ.of_own HO4.out)).mono ?_
            rintro e w5 ⟨rfl, hb5⟩
            have HO5 := Lib.hid (owns_bel HO4.out hb5)
            have HB5 := Lib.hid (HB4.out.on hb5)
            clear hb5
            go_wp2_with fail
            go_loopw [87] (fun kv wo => ∃ i : Nat, i ≤ k ∧ kv = .int .i64 (i : Int) ∧ Hid (Bel w5 wo)) (fun kv _ => k - (intOf kv).toNat)
            case atStart => exact ⟨0, Nat.zero_le _, rfl, Lib.hid (Bel.refl _)⟩
            case round =>
              obtain ⟨i, hi, rfl, HBX⟩ := hrel
              obtain ⟨wo, rfl⟩ : ∃ wo : World, wo = wr := ⟨_, rfl⟩
              by_cases hlt : i < k
              case pos =>
                have HO6 := Lib.hid (owns_bel HO5.out HBX.out)
                have HCL := Lib.hid (cloneQ_any V k c sel wo (RQ.of_own HO6.out) (by omega))
                go_wp2_with fail
                refine HCL.out.mono ?_
                rintro e w7 ⟨A7, c7, rfl, ho7, hb7⟩
                obtain ⟨g, cap', hv, hgb, hgl⟩ := ho7.form (by omega)
                injection hv with e1 e2 e3
                subst e1
                have HO7 := Lib.hid ho7
                have HB7 := Lib.hid hb7
                have HGB := Lib.hid (own_caps ho7)
                clear ho7 hb7 e2 e3 hgb hgl
                go_wp2_with fail
                refine (HDEL.out i _ _ _ _ hlt HO7.out).mono ?_
                rintro e w8 ⟨c8, rfl, hq8, ho8⟩
                have hb8 : Bel wo w8 := Below.trans HB7.out (ho8.below HGB.out.2.2.1 HB7.out.size)
                have HQ8 := Lib.hid (hq8.more (B' := w8.heap.size) (by have := HGB.out.2.2.2; have := ho8.size; omega))
                have HB8 := Lib.hid hb8
                have HBW8 := Lib.hid ((HB5.out.on HBX.out).on hb8)
                clear hq8 ho8 hb8
                go_wp2_with fail
                refine (HYES.out i _ _ _ hlt HBW8.out HQ8.out).mono ?_
                rintro e w9 ⟨A9, c9, rfl, hb9⟩
                have HB9 := Lib.hid ((HBX.out.on HB8.out).on hb9)
                clear hb9
                go_wp2_with fail
                go_roundw
                case rel => exact ⟨i + 1, by omega, by go_num, HB9⟩
                case measure => simp [intOf]; omega
              case neg =>
                obtain rfl : i = k := by omega
                have HB6 := Lib.hid (HB5.out.on HBX.out)
                go_wp2_with fail
                refine (works4_any _).mono ?_
                rintro e w7 ⟨rfl, hb7⟩
                have HB7 := Lib.hid (HB6.out.on hb7)
                clear hb7
                go_wp2
                go_ret
                exact ⟨rfl, HB7.out⟩
end Go.Proofs.Ytjgpkolfcpoinaa.Mu

