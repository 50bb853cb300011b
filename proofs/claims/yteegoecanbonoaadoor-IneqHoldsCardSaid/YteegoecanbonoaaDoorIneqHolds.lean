/-
  The statement IneqHolds: walked; what the listed tables hold is a premise.
-/
import Derived.Test.YteegoecanbonoaaDoorRef03I
import Derived.Deep.RegionHeld3
namespace Go.Proofs.YteegoecanbonoaaDoor.Mu
open Go.ChangeShapes Go.WideShapes Go.ChangeAt Go.RowKit

theorem ba_refl (a : List UInt8) : ((⟨a.toArray⟩ : ByteArray) == ⟨a.toArray⟩) = true := by
  rw [beq_toListBytes]; simp
theorem rtext_is {x : Iq} (h : x.may = true) (w : World) : Calls Tryd.prog 37 #[.agg #[.int .i64 x.v, .int .u8 x.m, .int .u8 x.c, .int .i64 x.r]] w fun e w' => e = .returned (.string ⟨x.text.toArray⟩) ∧ Bel w w' :=
  rtext_any x.v x.m x.c x.r h w

set_option maxRecDepth 100000 in
set_option maxHeartbeats 4000000 in
theorem ineqHolds_any (A : Option Addr) (n k : Nat) (xs : List Iq) (G : Option Addr) (gn gc : Nat) (av : List Int) (w : World) (hr : RQ w w.heap.size A n xs) (hn : n ≤ 9223372036854775807) (hg : RI .u8 w w.heap.size G gn av) (hgm : gn ≤ 9223372036854775807) (ht : Tabs w) :
    Calls Tryd.prog 7 #[.slice A n k, .slice G gn gc] w fun e w' => e = .returned (.bool true) ∧ Bel w w' := by
  have HR := Lib.hid hr
  have HL := Lib.hid hr.len
  have HG := Lib.hid hg
  have HT := Lib.hid ht
  clear hr hg ht
  by_cases hbig : 1000 < n
  · go_enter Tryd.func7, Tryd.ntmps7
    go_wp2_with fail
    refine (works3_any _ HT.out).mono ?_
    rintro e w1 ⟨rfl, hb1⟩
    have HB1 := Lib.hid hb1
    clear hb1
    go_wp2_with fail
    go_ret
    exact ⟨rfl, HB1.out⟩
  · have hsm : n ≤ 1000 := by omega
    clear hbig
    obtain ⟨hN, hhN⟩ : ∃ x, holdsN av xs = x := ⟨_, rfl⟩
    obtain ⟨hE, hhE⟩ : ∃ x, holdsE av xs = x := ⟨_, rfl⟩
    have HH : Hid (∀ W, Bel w W → Calls Tryd.prog 33 #[.slice A n k, .slice G gn gc] W (TellsN hN hE W)) := Lib.hid fun W hW => by
      have h := holds_any A n k xs G gn gc av W (HR.out.bel hW) (by omega) (HG.out.bel hW) hgm
      rw [hhN, hhE] at h; exact h
    have HRH : Hid (∀ W, Bel w W → Calls Tryd.prog 34 #[.slice A n k, .slice G gn gc] W (TellsN hN hE W)) := Lib.hid fun W hW => by
      have h := rholds_any A n k xs G gn gc av W (HR.out.bel hW) (by omega) (HG.out.bel hW) hgm
      rw [hhN, hhE] at h; exact h
    clear hhN hhE
    go_enter Tryd.func7, Tryd.ntmps7
    go_wp2_with fail
    refine (HH.out _ (Bel.refl _)).mono ?_
    rintro e w1 ⟨rfl, hb1⟩
    have HB1 := Lib.hid hb1
    clear hb1
    go_wp2_with fail
    refine (HRH.out _ HB1.out).mono ?_
    rintro e w2 ⟨rfl, hb2⟩
    have HB2 := Lib.hid (HB1.out.on hb2)
    clear hb2
    go_wp2_with fail
    go_loopw [29] (fun i wr => ∃ j : Nat, j ≤ n ∧ i = .int .i64 j ∧ Hid (Bel w wr)) (fun i _ => n - (intOf i).toNat)
    case atStart => exact ⟨0, Nat.zero_le _, rfl, HB2⟩
    case round =>
      obtain ⟨j, hj, rfl, HB⟩ := hrel
      by_cases hlt : j < n
      · obtain ⟨b, off, eA, hb, hc⟩ := (HR.out.bel HB.out).at_ (by omega)
        subst eA
        obtain ⟨x, hxk⟩ : ∃ x, xs[j]? = some x := ⟨_, List.getElem?_eq_getElem (by rw [← HL.out]; exact hlt)⟩
        obtain ⟨c0, c1, c2, c3⟩ := hc j x hxk
        clear hc hxk
        cases hv : x.may
        all_goals
          have HV := Lib.hid hv
          clear hv
          go_wp2_with fail
          clear c0 c1 c2 c3 hb
          obtain ⟨w10, hW⟩ : ∃ W, W = wr.alloc (.cells #[.int .i64 x.v, .int .u8 x.m, .int .u8 x.c, .int .i64 x.r] 50) := ⟨_, rfl⟩
          rw [← hW]
          have HC10 : Hid (Bel w w10) := Lib.hid (by rw [hW]; exact HB.out.alloc _)
          have HD10 : Hid (Bel w10 w10) := Lib.hid (Bel.refl _)
          obtain ⟨k0, k1, k2, k3⟩ := cells4 (w := w10) (by rw [hW]; exact blk1 wr _)
          have hz : wr.heap.size < w10.heap.size := by rw [hW]; simp
          clear hW
          have tk1 : True := trivial
          have tk2 : True := trivial
          have tk3 : True := trivial
          have tk4 : True := trivial
          have tk5 : True := trivial
        · refine wp_region_held_drew (S := fun w' => w'.cell? ⟨wr.heap.size, 0, none⟩ = some (.int .i64 x.v) ∧ w'.cell? ⟨wr.heap.size, 1, none⟩ = some (.int .u8 x.m) ∧ w'.cell? ⟨wr.heap.size, 2, none⟩ = some (.int .u8 x.c) ∧ w'.cell? ⟨wr.heap.size, 3, none⟩ = some (.int .i64 x.r)) (by kernel_rfl) ?_ (fun hHeld => ?_)
          · ((try dsimp only); go_keep)
          refine wpAnyH_take (i := 0) (oi := { dst := some 33, op := Op.load 50 (Operand.tmp 10), type := 50, pos := "law.go:50", after := #[], guard := none }) (v := ?_) rfl (by kernel_rfl) (by kernel_rfl) (by kernel_rfl) (fun _ _ _ h => h) (Or.inl ⟨by rfl, ?_⟩) (by assumption) ?_
          rotate_left
          · ((intro w hSw; (try dsimp only at hSw); go_simp); all_goals with_reducible rfl)
          (try simp only [Act.put, List.setIfInBounds_toArray, List.set_cons_zero, List.set_cons_succ])
          refine wpAnyH_take (i := 3) (oi := { dst := some 36, op := Op.load 50 (Operand.tmp 10), type := 50, pos := "law.go:50", after := #[], guard := none }) (v := ?_) rfl (by kernel_rfl) (by kernel_rfl) (by kernel_rfl) (fun _ _ _ h => h) (Or.inl ⟨by rfl, ?_⟩) (by assumption) ?_
          rotate_left
          · ((intro w hSw; (try dsimp only at hSw); go_simp); all_goals with_reducible rfl)
          (try simp only [Act.put, List.setIfInBounds_toArray, List.set_cons_zero, List.set_cons_succ])
          refine wpAnyH_ready (rs := [1]) (by kernel_rfl) (by simp) ?_
          refine AllReadyH.cons (o := { dst := some 34, op := Op.call { callee := Callee.value (Operand.func 35), args := #[Operand.tmp 33], argTypes := #[50] }, type := 26, pos := "law.go:50", after := #[{ on := 0, ground := Ground.data }], guard := none }) rfl (fun K hK => ?_) AllReadyH.nil
          go_simp
          (refine (imay_no HV.out _).mono ?_; rintro e w11 ⟨rfl, hb⟩; (have hbp : Bel w10 w11 := by first | exact hb | exact (Bel.refl _).drew.on hb); (have HC11 : Hid (Bel w w11) := Lib.hid (HC10.out.on hbp)); (have HD11 : Hid (Bel w10 w11) := Lib.hid (HD10.out.on hbp)); (have k0 := (hbp.cell (p := ⟨wr.heap.size, 0, none⟩) hz).trans k0); (have k1 := (hbp.cell (p := ⟨wr.heap.size, 1, none⟩) hz).trans k1); (have k2 := (hbp.cell (p := ⟨wr.heap.size, 2, none⟩) hz).trans k2); (have k3 := (hbp.cell (p := ⟨wr.heap.size, 3, none⟩) hz).trans k3); (have hz : wr.heap.size < w11.heap.size := Nat.lt_of_lt_of_le hz hbp.size); clear hb hbp)
          (first | refine hK.out _ _ ?_ (fun hHeld => ?_) | (go_wp2_with fail; refine hK.out _ _ ?_ (fun hHeld => ?_)))
          · ((try dsimp only); go_keep)
          clear hK K
          (try simp only [Act.put, List.setIfInBounds_toArray, List.set_cons_zero, List.set_cons_succ])
          refine wpAnyH_take (i := 2) (oi := { dst := some 35, op := Op.binOp BinOp.eql 26 (Operand.tmp 34) (Operand.const (Value.int IntKind.i64 0)) 26, type := 4, pos := "law.go:50", after := #[{ on := 1, ground := Ground.data }], guard := none }) (v := ?_) rfl (by kernel_rfl) (by kernel_rfl) (by kernel_rfl) (fun _ _ _ h => h) (Or.inl ⟨by rfl, ?_⟩) (by assumption) ?_
          rotate_left
          · ((intro w hSw; (try dsimp only at hSw); go_simp); all_goals with_reducible rfl)
          (try simp only [Act.put, List.setIfInBounds_toArray, List.set_cons_zero, List.set_cons_succ])
          refine wpAnyH_ready (rs := [4]) (by kernel_rfl) (by simp) ?_
          refine AllReadyH.cons (o := { dst := some 37, op := Op.call { callee := Callee.value (Operand.func 36), args := #[Operand.tmp 36], argTypes := #[50] }, type := 4, pos := "law.go:50", after := #[{ on := 3, ground := Ground.data }, { on := 1, ground := Ground.chain }], guard := none }) rfl (fun K hK => ?_) AllReadyH.nil
          go_simp
          (refine (rmay3_is HV.out _).mono ?_; rintro e w12 ⟨rfl, hb⟩; (have hbp : Bel w11 w12 := by first | exact hb | exact (Bel.refl _).drew.on hb); (have HC12 : Hid (Bel w w12) := Lib.hid (HC11.out.on hbp)); (have HD12 : Hid (Bel w10 w12) := Lib.hid (HD11.out.on hbp)); (have k0 := (hbp.cell (p := ⟨wr.heap.size, 0, none⟩) hz).trans k0); (have k1 := (hbp.cell (p := ⟨wr.heap.size, 1, none⟩) hz).trans k1); (have k2 := (hbp.cell (p := ⟨wr.heap.size, 2, none⟩) hz).trans k2); (have k3 := (hbp.cell (p := ⟨wr.heap.size, 3, none⟩) hz).trans k3); (have hz : wr.heap.size < w12.heap.size := Nat.lt_of_lt_of_le hz hbp.size); clear hb hbp)
          (first | refine hK.out _ _ ?_ (fun hHeld => ?_) | (go_wp2_with fail; refine hK.out _ _ ?_ (fun hHeld => ?_)))
          · ((try dsimp only); go_keep)
          clear hK K
          (try simp only [Act.put, List.setIfInBounds_toArray, List.set_cons_zero, List.set_cons_succ])
          refine wpAnyH_take (i := 5) (oi := { dst := some 38, op := Op.binOp BinOp.neq 4 (Operand.tmp 35) (Operand.tmp 37) 4, type := 4, pos := "law.go:50", after := #[{ on := 2, ground := Ground.data }, { on := 4, ground := Ground.data }], guard := none }) (v := ?_) rfl (by kernel_rfl) (by kernel_rfl) (by kernel_rfl) (fun _ _ _ h => h) (Or.inl ⟨by rfl, ?_⟩) (by assumption) ?_
          rotate_left
          · ((intro w hSw; (try dsimp only at hSw); go_simp); all_goals with_reducible rfl)
          (try simp only [Act.put, List.setIfInBounds_toArray, List.set_cons_zero, List.set_cons_succ])
          refine wpAnyH_take (i := 6) (oi := { dst := some 39, op := Op.move (Operand.tmp 38), type := 4, pos := "law.go:50", after := #[{ on := 5, ground := Ground.data }, { on := 4, ground := Ground.chain }], guard := none }) (v := ?_) rfl (by kernel_rfl) (by kernel_rfl) (by kernel_rfl) (fun _ _ _ h => h) (Or.inl ⟨by rfl, ?_⟩) (by assumption) ?_
          rotate_left
          · ((intro w hSw; (try dsimp only at hSw); go_simp); all_goals with_reducible rfl)
          (try simp only [Act.put, List.setIfInBounds_toArray, List.set_cons_zero, List.set_cons_succ])
          refine wpAnyH_take (i := 7) (oi := { dst := some 40, op := Op.load 50 (Operand.tmp 10), type := 50, pos := "law.go:50", after := #[{ on := 6, ground := Ground.guard }], guard := some (6, false) }) (v := ?_) rfl (by kernel_rfl) (by kernel_rfl) (by kernel_rfl) (fun _ _ _ h => h) (Or.inl ⟨by rfl, ?_⟩) (by assumption) ?_
          rotate_left
          · ((intro w hSw; (try dsimp only at hSw); go_simp); all_goals with_reducible rfl)
          (try simp only [Act.put, List.setIfInBounds_toArray, List.set_cons_zero, List.set_cons_succ])
          refine wpAnyH_ready (rs := [8]) (by kernel_rfl) (by simp) ?_
          refine AllReadyH.cons (o := { dst := some 41, op := Op.call { callee := Callee.value (Operand.func 36), args := #[Operand.tmp 40], argTypes := #[50] }, type := 4, pos := "law.go:50", after := #[{ on := 7, ground := Ground.data }, { on := 6, ground := Ground.chain }, { on := 6, ground := Ground.guard }], guard := some (6, false) }) rfl (fun K hK => ?_) AllReadyH.nil
          go_simp
          (refine (rmay3_is HV.out _).mono ?_; rintro e w13 ⟨rfl, hb⟩; (have hbp : Bel w12 w13 := by first | exact hb | exact (Bel.refl _).drew.on hb); (have HC13 : Hid (Bel w w13) := Lib.hid (HC12.out.on hbp)); (have HD13 : Hid (Bel w10 w13) := Lib.hid (HD12.out.on hbp)); (have k0 := (hbp.cell (p := ⟨wr.heap.size, 0, none⟩) hz).trans k0); (have k1 := (hbp.cell (p := ⟨wr.heap.size, 1, none⟩) hz).trans k1); (have k2 := (hbp.cell (p := ⟨wr.heap.size, 2, none⟩) hz).trans k2); (have k3 := (hbp.cell (p := ⟨wr.heap.size, 3, none⟩) hz).trans k3); (have hz : wr.heap.size < w13.heap.size := Nat.lt_of_lt_of_le hz hbp.size); clear hb hbp)
          (first | refine hK.out _ _ ?_ (fun hHeld => ?_) | (go_wp2_with fail; refine hK.out _ _ ?_ (fun hHeld => ?_)))
          · ((try dsimp only); go_keep)
          clear hK K
          (try simp only [Act.put, List.setIfInBounds_toArray, List.set_cons_zero, List.set_cons_succ])
          refine wpAnyH_take (i := 9) (oi := { dst := some 42, op := Op.move (Operand.tmp 41), type := 4, pos := "law.go:50", after := #[{ on := 8, ground := Ground.data }, { on := 8, ground := Ground.chain }, { on := 6, ground := Ground.guard }], guard := some (6, false) }) (v := ?_) rfl (by kernel_rfl) (by kernel_rfl) (by kernel_rfl) (fun _ _ _ h => h) (Or.inl ⟨by rfl, ?_⟩) (by assumption) ?_
          rotate_left
          · ((intro w hSw; (try dsimp only at hSw); go_simp); all_goals with_reducible rfl)
          (try simp only [Act.put, List.setIfInBounds_toArray, List.set_cons_zero, List.set_cons_succ])
          refine wpAnyH_take (i := 10) (oi := { dst := some 43, op := Op.load 50 (Operand.tmp 10), type := 50, pos := "law.go:50", after := #[{ on := 9, ground := Ground.guard }], guard := some (9, true) }) (v := undef) rfl (by kernel_rfl) (by kernel_rfl) (by kernel_rfl) (fun _ _ _ h => h) (Or.inr ⟨by rfl, rfl⟩) (by assumption) ?_
          (try simp only [Act.put, List.setIfInBounds_toArray, List.set_cons_zero, List.set_cons_succ])
          refine wpAnyH_take (i := 11) (oi := { dst := some 44, op := Op.call { callee := Callee.value (Operand.func 32), args := #[Operand.tmp 43], argTypes := #[50] }, type := 9, pos := "law.go:50", after := #[{ on := 10, ground := Ground.data }, { on := 9, ground := Ground.chain }, { on := 9, ground := Ground.guard }], guard := some (9, true) }) (v := undef) rfl (by kernel_rfl) (by kernel_rfl) (by kernel_rfl) (fun _ _ _ h => h) (Or.inr ⟨by rfl, rfl⟩) (by assumption) ?_
          (try simp only [Act.put, List.setIfInBounds_toArray, List.set_cons_zero, List.set_cons_succ])
          refine wpAnyH_take (i := 12) (oi := { dst := some 45, op := Op.load 50 (Operand.tmp 10), type := 50, pos := "law.go:50", after := #[{ on := 9, ground := Ground.guard }], guard := some (9, true) }) (v := undef) rfl (by kernel_rfl) (by kernel_rfl) (by kernel_rfl) (fun _ _ _ h => h) (Or.inr ⟨by rfl, rfl⟩) (by assumption) ?_
          (try simp only [Act.put, List.setIfInBounds_toArray, List.set_cons_zero, List.set_cons_succ])
          refine wpAnyH_take (i := 13) (oi := { dst := some 46, op := Op.call { callee := Callee.value (Operand.func 37), args := #[Operand.tmp 45], argTypes := #[50] }, type := 9, pos := "law.go:50", after := #[{ on := 12, ground := Ground.data }, { on := 11, ground := Ground.chain }, { on := 9, ground := Ground.guard }], guard := some (9, true) }) (v := undef) rfl (by kernel_rfl) (by kernel_rfl) (by kernel_rfl) (fun _ _ _ h => h) (Or.inr ⟨by rfl, rfl⟩) (by assumption) ?_
          (try simp only [Act.put, List.setIfInBounds_toArray, List.set_cons_zero, List.set_cons_succ])
          refine wpAnyH_take (i := 14) (oi := { dst := some 47, op := Op.binOp BinOp.neq 9 (Operand.tmp 44) (Operand.tmp 46) 9, type := 4, pos := "law.go:50", after := #[{ on := 11, ground := Ground.data }, { on := 13, ground := Ground.data }, { on := 9, ground := Ground.guard }], guard := some (9, true) }) (v := undef) rfl (by kernel_rfl) (by kernel_rfl) (by kernel_rfl) (fun _ _ _ h => h) (Or.inr ⟨by rfl, rfl⟩) (by assumption) ?_
          (try simp only [Act.put, List.setIfInBounds_toArray, List.set_cons_zero, List.set_cons_succ])
          refine wpAnyH_take (i := 15) (oi := { dst := some 48, op := Op.pick (Operand.tmp 42) (Operand.tmp 47) (Operand.const (Value.bool false)), type := 4, pos := "law.go:50", after := #[{ on := 9, ground := Ground.data }, { on := 14, ground := Ground.data }, { on := 6, ground := Ground.guard }], guard := some (6, false) }) (v := ?_) rfl (by kernel_rfl) (by kernel_rfl) (by kernel_rfl) (fun _ _ _ h => h) (Or.inl ⟨by rfl, ?_⟩) (by assumption) ?_
          rotate_left
          · ((intro w hSw; (try dsimp only at hSw); go_simp); all_goals with_reducible rfl)
          (try simp only [Act.put, List.setIfInBounds_toArray, List.set_cons_zero, List.set_cons_succ])
          refine wpAnyH_take (i := 16) (oi := { dst := some 49, op := Op.pick (Operand.tmp 39) (Operand.const (Value.bool true)) (Operand.tmp 48), type := 4, pos := "law.go:50", after := #[{ on := 6, ground := Ground.data }, { on := 15, ground := Ground.data }], guard := none }) (v := ?_) rfl (by kernel_rfl) (by kernel_rfl) (by kernel_rfl) (fun _ _ _ h => h) (Or.inl ⟨by rfl, ?_⟩) (by assumption) ?_
          rotate_left
          · ((intro w hSw; (try dsimp only at hSw); go_simp); all_goals with_reducible rfl)
          (try simp only [Act.put, List.setIfInBounds_toArray, List.set_cons_zero, List.set_cons_succ])
          refine wpAnyH_done (by kernel_rfl) ?_ _
          go_wp2
          go_roundw
          case rel => exact ⟨j + 1, by omega, by go_num, HC13⟩
          case measure => simp [intOf]; omega
        · have q1 := ba_refl x.text
          have q2 : (x.text == x.text) = true := by simp
          go_region_held3 (fun w' => w'.cell? ⟨wr.heap.size, 0, none⟩ = some (.int .i64 x.v) ∧ w'.cell? ⟨wr.heap.size, 1, none⟩ = some (.int .u8 x.m) ∧ w'.cell? ⟨wr.heap.size, 2, none⟩ = some (.int .u8 x.c) ∧ w'.cell? ⟨wr.heap.size, 3, none⟩ = some (.int .i64 x.r)) (go_keep)
            (first | (go_at_call 35; have _t := tk1; refine (imay_yes HV.out _).mono ?_; rintro e w11 ⟨rfl, hb⟩; clear _t tk1; (have hbp : Bel w10 w11 := by first | exact hb | exact (Bel.refl _).drew.on hb); (have HC11 : Hid (Bel w w11) := Lib.hid (HC10.out.on hbp)); (have HD11 : Hid (Bel w10 w11) := Lib.hid (HD10.out.on hbp)); (have k0 := (hbp.cell (p := ⟨wr.heap.size, 0, none⟩) hz).trans k0); (have k1 := (hbp.cell (p := ⟨wr.heap.size, 1, none⟩) hz).trans k1); (have k2 := (hbp.cell (p := ⟨wr.heap.size, 2, none⟩) hz).trans k2); (have k3 := (hbp.cell (p := ⟨wr.heap.size, 3, none⟩) hz).trans k3); (have hz : wr.heap.size < w11.heap.size := Nat.lt_of_lt_of_le hz hbp.size); clear hb hbp) | (go_at_call 36; have _t := tk2; refine (rmay3_is HV.out _).mono ?_; rintro e w12 ⟨rfl, hb⟩; clear _t tk2; (have hbp : Bel w11 w12 := by first | exact hb | exact (Bel.refl _).drew.on hb); (have HC12 : Hid (Bel w w12) := Lib.hid (HC11.out.on hbp)); (have HD12 : Hid (Bel w10 w12) := Lib.hid (HD11.out.on hbp)); (have k0 := (hbp.cell (p := ⟨wr.heap.size, 0, none⟩) hz).trans k0); (have k1 := (hbp.cell (p := ⟨wr.heap.size, 1, none⟩) hz).trans k1); (have k2 := (hbp.cell (p := ⟨wr.heap.size, 2, none⟩) hz).trans k2); (have k3 := (hbp.cell (p := ⟨wr.heap.size, 3, none⟩) hz).trans k3); (have hz : wr.heap.size < w12.heap.size := Nat.lt_of_lt_of_le hz hbp.size); clear hb hbp) | (go_at_call 36; have _t := tk3; refine (rmay3_is HV.out _).mono ?_; rintro e w13 ⟨rfl, hb⟩; clear _t tk3; (have hbp : Bel w12 w13 := by first | exact hb | exact (Bel.refl _).drew.on hb); (have HC13 : Hid (Bel w w13) := Lib.hid (HC12.out.on hbp)); (have HD13 : Hid (Bel w10 w13) := Lib.hid (HD12.out.on hbp)); (have k0 := (hbp.cell (p := ⟨wr.heap.size, 0, none⟩) hz).trans k0); (have k1 := (hbp.cell (p := ⟨wr.heap.size, 1, none⟩) hz).trans k1); (have k2 := (hbp.cell (p := ⟨wr.heap.size, 2, none⟩) hz).trans k2); (have k3 := (hbp.cell (p := ⟨wr.heap.size, 3, none⟩) hz).trans k3); (have hz : wr.heap.size < w13.heap.size := Nat.lt_of_lt_of_le hz hbp.size); clear hb hbp) | (go_at_call 32; have _t := tk4; refine (may_text HV.out _ (HT.out.bel (by first | exact HC13.out | exact HC13.out.drew))).mono ?_; rintro e w14 ⟨rfl, hb⟩; clear _t tk4; (have hbp : Bel w13 w14 := by first | exact hb | exact (Bel.refl _).drew.on hb); (have HC14 : Hid (Bel w w14) := Lib.hid (HC13.out.on hbp)); (have HD14 : Hid (Bel w10 w14) := Lib.hid (HD13.out.on hbp)); (have k0 := (hbp.cell (p := ⟨wr.heap.size, 0, none⟩) hz).trans k0); (have k1 := (hbp.cell (p := ⟨wr.heap.size, 1, none⟩) hz).trans k1); (have k2 := (hbp.cell (p := ⟨wr.heap.size, 2, none⟩) hz).trans k2); (have k3 := (hbp.cell (p := ⟨wr.heap.size, 3, none⟩) hz).trans k3); (have hz : wr.heap.size < w14.heap.size := Nat.lt_of_lt_of_le hz hbp.size); clear hb hbp) | (go_at_call 37; have _t := tk5; refine (rtext_is HV.out _).mono ?_; rintro e w15 ⟨rfl, hb⟩; clear _t tk5; (have hbp : Bel w14 w15 := by first | exact hb | exact (Bel.refl _).drew.on hb); (have HC15 : Hid (Bel w w15) := Lib.hid (HC14.out.on hbp)); (have HD15 : Hid (Bel w10 w15) := Lib.hid (HD14.out.on hbp)); (have k0 := (hbp.cell (p := ⟨wr.heap.size, 0, none⟩) hz).trans k0); (have k1 := (hbp.cell (p := ⟨wr.heap.size, 1, none⟩) hz).trans k1); (have k2 := (hbp.cell (p := ⟨wr.heap.size, 2, none⟩) hz).trans k2); (have k3 := (hbp.cell (p := ⟨wr.heap.size, 3, none⟩) hz).trans k3); (have hz : wr.heap.size < w15.heap.size := Nat.lt_of_lt_of_le hz hbp.size); clear hb hbp))
          all_goals
            go_wp2
            go_roundw
            case rel => exact ⟨j + 1, by omega, by go_num, HC15⟩
            case measure => simp [intOf]; omega
      · obtain rfl : j = n := by omega
        go_wp2_with fail
        refine (works3_any _ (HT.out.bel HB.out)).mono ?_
        rintro e w5 ⟨rfl, hb5⟩
        have HB5 := Lib.hid (HB.out.on hb5)
        clear hb5
        go_wp2_with fail
        go_ret
        exact ⟨rfl, HB5.out⟩
end Go.Proofs.YteegoecanbonoaaDoor.Mu
