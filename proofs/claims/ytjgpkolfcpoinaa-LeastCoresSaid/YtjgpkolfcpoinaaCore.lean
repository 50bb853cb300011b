/-
  core.
-/
import Derived.Test.YtjgpkolfcpoinaaRaise
import Derived.Test.YtjgpkolfcpoinaaLib
import Derived.Test.YtjgpkolfcpoinaaOne
namespace Go.Proofs.Ytjgpkolfcpoinaa.Mu
open Go.ChangeShapes Go.WideShapes Go.ChangeAt Go.RowKit Go.Shelf

attribute [local go_sem] Oper.semAt_some

/-- The way back from an inequality: what raised its L, and so on, till something that nothing raised. -/
def Way (xs : List Iq) (B : List Int) : Nat → List Nat → Prop
  | i, [] => ∃ x, xs[i]? = some x ∧ (x.m ≠ 0 ∨ (x.m = 0 ∧ 0 ≤ x.v ∧ B[x.v.toNat]? = some (-2)))
  | i, j :: ws => ∃ x, xs[i]? = some x ∧ x.m = 0 ∧ 0 ≤ x.v ∧ B[x.v.toNat]? = some (j : Int) ∧ Way xs B j ws
theorem own_ge {w : World} {base e size n : Nat} {v : Value} {xs : List Value} (h : w.ownsRow base e size v n xs) {k : Nat} (hk : v.ownBlock = some k) : base ≤ k := by
  rcases h.2 with ⟨rfl, _⟩ | ⟨g, cap, cur, rfl, hb, _⟩
  · cases hk
  · cases hk; exact hb
def lenV : Value → Nat
  | .slice _ n _ => n
  | _ => 0
def ints (ws : List Nat) : List Int := ws.map fun (i : Nat) => (i : Int)

def CorePost (L : Nat) (ws : List Nat) (w : World) (e : Ending) (w' : World) : Prop :=
  ∃ A c, e = .returned (.slice A L c) ∧ w'.ownsRow w.heap.size 3 1 (.slice A L c) L (((ints ws).mergeSort fun x y => decide (x ≤ y)).map (Value.int .i64)) ∧ Bel w w'

set_option maxRecDepth 100000 in
set_option maxHeartbeats 2000000 in
theorem core_any (k : Bk) (xs : List Iq) (F N G B Q : List Int) (i0 : Nat) (ws0 : List Nat) (hl : k.len ≤ 1048576) (hn : k.n ≤ 1048576) (hL : ws0.length ≤ 1048576) (hw : Way xs B i0 ws0) (w : World) (h : St w k xs F N G B Q) :
    Calls Try.prog 42 #[.pointer (some ⟨k.s, 0, none⟩), .int .i64 i0] w (CorePost (ws0.length + 1) (i0 :: ws0) w) := by
  have HS := Lib.hid h
  have HW := Lib.hid hw
  have HLX := Lib.hid h.q.len
  have HL := Lib.hid hl
  have HN := Lib.hid hn
  clear h hw
  go_enter Try.func42, Try.ntmps42
  go_wp2_with fail
  have hown0 : (w.alloc (.cells #[.int .i64 i0] 3)).ownsRow w.heap.size 3 1 (.slice (some ⟨w.heap.size, 0, none⟩) 1 1) 1 ([(i0 : Int)].map (Value.int .i64)) := World.ownsRow_lit w #[.int .i64 i0] 1 (Nat.le_refl _) (by unfold maxLen; omega) rfl
  have HO0 := Lib.hid hown0
  clear hown0
  go_loopw [1, 5] (fun iv way wr => ∃ (i : Nat) (ws : List Nat) (A : Option Addr) (c : Nat) (dn : List Int), iv = .int .i64 (i : Int) ∧ way = .slice A dn.length c ∧ Hid (Way xs B i ws) ∧ Hid (dn ++ ints ws = ints (i0 :: ws0)) ∧ Hid (wr.ownsRow w.heap.size 3 1 (.slice A dn.length c) dn.length (dn.map (Value.int .i64))) ∧ Hid (Bel w wr))
    (fun _ way _ => ws0.length + 2 - lenV way)
  case atStart => exact ⟨i0, ws0, _, _, [(i0 : Int)], rfl, rfl, HW, Lib.hid rfl, HO0, Lib.hid ((Bel.refl w).alloc _)⟩
  case round =>
    obtain ⟨i, ws, A, c, dn, rfl, rfl, HWY, HD, HO, HB⟩ := hrel
    have HS1 := Lib.hid (HS.out.bel HB.out)
    obtain ⟨x, hx⟩ : ∃ x, xs[i]? = some x := by
      have := HWY.out
      cases ws with
      | nil => obtain ⟨x, hx, _⟩ := this; exact ⟨x, hx⟩
      | cons j js => obtain ⟨x, hx, _⟩ := this; exact ⟨x, hx⟩
    have hi : i < k.len := by rw [HLX.out]; exact (List.getElem?_eq_some_iff.1 hx).1
    obtain ⟨qb, qo, eA, qlt, qc⟩ := HS1.out.q.at_ (by omega)
    obtain ⟨c0, c1, c2, c3⟩ := qc i x hx
    have q0 : wr.cell? ⟨k.s, 0, none⟩ = some (.slice (some ⟨qb, qo, none⟩) k.len k.cap) := by rw [← eA]; simp [World.cell?, HS1.out.sol.hs, cellsS]
    have i1 : (0 : Int) ≤ (i : Int) := by omega
    have i2 : (i : Int) < (k.len : Int) := by omega
    have HX := Lib.hid hx
    have HQB : Hid (qb < wr.heap.size) := Lib.hid (Nat.lt_of_lt_of_le qlt HS1.out.sz)
    clear qc hx eA qlt
    by_cases hm : x.m = 0
    · have hb0 : (x.m == 0) = true := by simpa using hm
      have HHL : Hid (∀ W, Calls Try.prog 61 #[.agg #[.int .i64 x.v, .int .u8 x.m, .int .u8 x.c, .int .i64 x.r]] W fun e w' => e = .returned (.bool true) ∧ Bel W w') := Lib.hid fun W => by have h := hasLeft_any x W; rw [hb0] at h; exact h
      have HM := Lib.hid hm
      clear hb0 hm
      go_wp2_with fail
      refine (HHL.out _).mono ?_
      rintro e w2 ⟨rfl, hb2⟩
      have hB2 := HB.out.on hb2
      have HB2 := Lib.hid hB2
      have HS2 := Lib.hid (HS.out.bel hB2)
      have HO2 := Lib.hid (owns_bel HO.out hb2)
      obtain ⟨qb', qo', eA', qlt', qc'⟩ := HS2.out.q.at_ (by omega)
      obtain ⟨d0, d1, d2, d3⟩ := qc' i x HX.out
      have r0 : w2.cell? ⟨k.s, 0, none⟩ = some (.slice (some ⟨qb', qo', none⟩) k.len k.cap) := by rw [← eA']; simp [World.cell?, HS2.out.sol.hs, cellsS]
      have r4 : w2.cell? ⟨k.s, 4, none⟩ = some (.slice (some ⟨k.gb, 0, none⟩) k.n k.n) := by simp [World.cell?, HS2.out.sol.hs, cellsS]
      clear hb2 hB2 qc' eA' qlt' c0 c1 c2 c3 q0
      obtain ⟨hv0, b, hbv, hcase⟩ : 0 ≤ x.v ∧ ∃ b : Int, B[x.v.toNat]? = some b ∧ ((b = -2 ∧ ws = []) ∨ ∃ (j : Nat) (js : List Nat), b = j ∧ ws = j :: js ∧ Way xs B j js) := by
        have hw := HWY.out
        have hx := HX.out
        cases ws with
        | nil =>
          obtain ⟨y, hy, hh⟩ := hw
          rw [hx] at hy; cases hy
          rcases hh with hh | ⟨_, h0, h2⟩
          · exact absurd HM.out hh
          · exact ⟨h0, _, h2, .inl ⟨rfl, rfl⟩⟩
        | cons j js =>
          obtain ⟨y, hy, _, h0, h2, h3⟩ := hw
          rw [hx] at hy; cases hy
          exact ⟨h0, _, h2, .inr ⟨j, js, rfl, rfl, h3⟩⟩
      have hvn : x.v < (k.n : Int) := by
        have h1 := (List.getElem?_eq_some_iff.1 hbv).1
        have h2 := HS2.out.lb
        omega
      have qB := HS2.out.sol.hb.cell (j := x.v.toNat) (by have := HS2.out.lb; omega)
      rw [hbv, Option.getD_some] at qB
      have HCS := Lib.hid hcase
      clear hcase hbv
      go_wp2_with fail
      go_region
      clear d0 d1 d2 d3 r0 r4 qB
      rcases HCS.out with ⟨rfl, rfl⟩ | ⟨j, js, rfl, rfl, hwj⟩
      · go_wp2_with fail
        have hd := HD.out
        simp only [ints, List.map_nil, List.append_nil] at hd
        have hdl : dn.length = ws0.length + 1 := by rw [hd]; simp
        have HDD := Lib.hid hd
        clear hd
        refine (sort_any _ _ _ _ dn _ (owns_bel HO2.out (Bel.refl w2).drew) (by omega)).mono ?_
        rintro e w3 ⟨rfl, hs3, hg3⟩
        have HS3 := Lib.hid hs3
        have HB3 := Lib.hid (HB2.out.drew.grown hg3 HB2.out.size (fun k hk => own_ge HO2.out hk))
        clear hs3 hg3
        go_wp2
        go_ret
        have h3 := HS3.out
        have hf := HB3.out
        rw [hdl] at h3
        rw [HDD.out] at h3
        exact ⟨_, _, rfl, h3, hf⟩
      · have HWJ := Lib.hid hwj
        clear hwj
        have n1 : ¬ ((j : Int) = -2) := by omega
        have hbb : Bel w2 (w2.drew.alloc (.cells #[.int .i64 j] 3)) := (Bel.refl w2).drew.alloc _
        have HO3 := Lib.hid (owns_bel HO2.out hbb)
        have HB3 := Lib.hid (HB2.out.on hbb)
        have HRI := Lib.hid (ri_one w2.drew j)
        have hdl : dn.length + 1 ≤ 1000000000 := by
          have h := congrArg List.length HD.out
          simp [ints] at h
          omega
        have hdl2 : dn.length < ws0.length + 1 := by
          have h := congrArg List.length HD.out
          simp [ints] at h
          omega
        clear hbb
        go_wp2_with (at_builtin; refine wpList_append_ri rfl _ _ 23 rfl w.heap.size 3 Try.underlying23 info_int A dn.length c dn rfl HO3.out _ _ 1 1 [(j : Int)] rfl HRI.out hdl HB3.out.size ?_; intro V3 cv3 w3 hown3 hg3)
        have hlen : dn.length + 1 = (dn ++ [(j : Int)]).length := by simp
        have HO4 : Hid (w3.ownsRow w.heap.size 3 1 (.slice V3 (dn ++ [(j : Int)]).length cv3) (dn ++ [(j : Int)]).length ((dn ++ [(j : Int)]).map (Value.int .i64))) := Lib.hid (by rw [← hlen]; exact hown3)
        have HB4 := Lib.hid (HB3.out.grown hg3 HB3.out.size (fun k hk => own_ge HO3.out hk))
        clear hown3 hg3
        go_roundw
        case rel => exact ⟨j, js, V3, cv3, dn ++ [(j : Int)], rfl, by simp, HWJ, Lib.hid (by have h := HD.out; simpa [ints] using h), HO4, HB4⟩
        case measure => simp [lenV]; omega
    · have hb0 : (x.m == 0) = false := by simpa using hm
      have HHL : Hid (∀ W, Calls Try.prog 61 #[.agg #[.int .i64 x.v, .int .u8 x.m, .int .u8 x.c, .int .i64 x.r]] W fun e w' => e = .returned (.bool false) ∧ Bel W w') := Lib.hid fun W => by have h := hasLeft_any x W; rw [hb0] at h; exact h
      have HM := Lib.hid hm
      clear hb0 hm
      go_wp2_with fail
      refine (HHL.out _).mono ?_
      rintro e w2 ⟨rfl, hb2⟩
      have HB2 := Lib.hid (HB.out.on hb2)
      have HO2 := Lib.hid (owns_bel HO.out hb2)
      clear hb2
      have hws : ws = [] := by
        have hw := HWY.out
        cases ws with
        | nil => rfl
        | cons j js =>
          obtain ⟨y, hy, hh, _⟩ := hw
          rw [HX.out] at hy; cases hy
          exact absurd hh HM.out
      subst hws
      go_wp2_with fail
      have hd := HD.out
      simp only [ints, List.map_nil, List.append_nil] at hd
      have hdl : dn.length = ws0.length + 1 := by rw [hd]; simp
      have HDD := Lib.hid hd
      clear hd
      refine (sort_any _ _ _ _ dn _ HO2.out (by omega)).mono ?_
      rintro e w3 ⟨rfl, hs3, hg3⟩
      have HS3 := Lib.hid hs3
      have HB3 := Lib.hid (HB2.out.grown hg3 HB2.out.size (fun k hk => own_ge HO2.out hk))
      clear hs3 hg3
      go_wp2
      go_ret
      have h3 := HS3.out
      have hf := HB3.out
      rw [hdl] at h3
      rw [HDD.out] at h3
      exact ⟨_, _, rfl, h3, hf⟩
end Go.Proofs.Ytjgpkolfcpoinaa.Mu

