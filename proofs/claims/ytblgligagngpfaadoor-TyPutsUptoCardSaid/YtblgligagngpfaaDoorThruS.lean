/-
  ty.through, walked.
  ty.through over a type that is only looked at: the contract that its callers use.
  ty.Size, walked.
-/
import Derived.Test.YtblgligagngpfaaDoorThruMR
import Derived.Deep.DeepCutAuto
namespace Go.Proofs.YtblgligagngpfaaDoor.Mu
open Go.ChangeShapes Go.WideShapes Go.ChangeAt Go.RowKit Go.Shelf

attribute [local go_sem] Oper.semAt_some

set_option maxRecDepth 100000 in
set_option maxHeartbeats 4000000 in
theorem through_one (fo : Nat) (caps : Array Value) (F : World → Prop) (eg : ∀ args w, (callFunc fo args).run Tryd.prog w = .ok (.enter fo args) w) (k b o : Nat) (w : World) (hR : Runs Tryd.prog fo caps none F k [.nd b o] w (fun _ => False)) :
    Calls Tryd.prog 27 #[.pointer (some ⟨b, o, none⟩), .func (.func fo) #[] caps, .nilFunc] w fun e w' => e = .returned (.tuple #[]) ∧ F w' := by
  have HR := Lib.hid hR
  clear hR
  obtain ⟨i0, hi0, hz0, hz1, hz2⟩ := info_parts info_step
  have q97 := nil97
  go_enter Tryd.func27, Tryd.ntmps27
  go_wp2_with fail
  obtain ⟨base, hbase⟩ : ∃ base, base = w.heap.size := ⟨_, rfl⟩
  have hb1 : Bel w (w.alloc (.cells #[.pointer (some ⟨b, o, none⟩), .pointer none] 99)) := (Bel.refl w).alloc _
  have hq1 := blk1 w (.cells #[.pointer (some ⟨b, o, none⟩), .pointer none] 99)
  have hz1' : (w.alloc (.cells #[.pointer (some ⟨b, o, none⟩), .pointer none] 99)).heap.size = w.heap.size + 1 := by simp
  obtain ⟨w1, hw1⟩ : ∃ w1, w1 = w.alloc (.cells #[.pointer (some ⟨b, o, none⟩), .pointer none] 99) := ⟨_, rfl⟩
  rw [← hw1] at hb1 hq1 hz1' ⊢
  rw [← hbase] at hq1 hz1' ⊢
  have HR1 : Hid (Runs Tryd.prog fo caps none F k [.nd b o] w1 (fun j => j = base)) := Lib.hid (HR.out.on _ _ _ _ _ ⟨hb1.os, hb1.tape, hb1.output, hb1.size, fun j hj _ => hb1.block j hj, fun j hj => ⟨.inr (by rw [hj, hbase]; exact Nat.le_refl _), by rw [hj, hz1']; omega⟩⟩)
  have HW1 : Hid (RowT w1 base [.nd b o] (.slice (some ⟨base, 0, none⟩) 1 1) (fun j => j = base)) := Lib.hid ⟨some ⟨base, 0, none⟩, 1, rfl, ⟨rfl, .inr ⟨base, 1, _, rfl, Nat.le_refl _, hq1, Nat.le_refl _, by unfold maxLen; omega, rfl, rfl⟩⟩, fun j hj => (by obtain ⟨o', e⟩ := hj; cases e; rfl), fun j hj => by rw [hj, hz1']; omega⟩
  have HB1 : Hid (base ≤ w1.heap.size) := Lib.hid (by omega)
  clear hbase hb1 hq1 hz1' hw1 HR
  go_loopg [6] k (fun gk v wr => ∃ (S : List Itm) (O : Nat → Prop) (A : Option Addr) (c m : Nat), v = .slice A m c ∧ Hid (m = S.length) ∧ Hid (RowT wr base S (.slice A m c) O) ∧ Hid (Runs Tryd.prog fo caps none F gk S wr O) ∧ Hid (base ≤ wr.heap.size))
  case atStart => exact ⟨[.nd b o], _, _, 1, 1, rfl, Lib.hid rfl, HW1, HR1, HB1⟩
  case round =>
    clear HW1 HR1 HB1
    obtain ⟨S, O, A, c, m, rfl, HM, HRow, HRun, HB⟩ := hrel
    cases S with
    | nil =>
      have hm : m = 0 := HM.out
      subst hm
      go_wp2_with fail
      go_end0
      refine ⟨rfl, ?_⟩
      have hl : ∀ j, O j → j < wr.heap.size := by obtain ⟨_, _, _, _, _, h⟩ := HRow.out; exact h
      cases gk
      · exact HRun.out _ _ (Thru.refl hl)
      · exact HRun.out _ _ (Thru.refl hl)
    | cons x S =>
      obtain ⟨m', hm'⟩ : ∃ m', m' = S.length := ⟨_, rfl⟩
      have hmm : m = m' + 1 := by rw [hm']; exact HM.out
      subst hmm
      have hrow := HRow.out
      rw [show m' + 1 = (x :: S).length by rw [hm']; rfl] at hrow
      obtain ⟨g, c', hv, hOg, hc1, hc2, hpop, hcell⟩ := hrow.pop
      rw [← hm'] at hv hc1 hpop hcell
      have hAc : A = some ⟨g, 0, none⟩ ∧ c = c' := by
        rw [List.length_cons, ← hm'] at hv
        injection hv with e1 e2 e3
        exact ⟨e1, e3⟩
      obtain ⟨rfl, rfl⟩ := hAc
      have HPOP := Lib.hid hpop
      have HOG := Lib.hid hOg
      have HMS := Lib.hid hm'
      cases gk with
      | zero => exact HRun.out.elim
      | succ gk =>
        cases x with
        | mu b2 o2 =>
          obtain ⟨_, _, e, _⟩ := HRun.out
          cases e
        | nd b2 o2 =>
          have c0 := hcell 0 _ rfl
          have c1 := hcell 1 _ rfl
          simp only [Nat.add_zero] at c0
          have hm63 : m' + 1 ≤ 9223372036854775807 := by unfold maxLen at hc2; omega
          have i0' : (0 : Int) ≤ (m' : Int) := by omega
          have i1 : (m' : Int) < (m' : Int) + 1 := by omega
          have hgl : g < wr.heap.size := by obtain ⟨_, _, _, _, _, h⟩ := HRow.out; exact h g hOg
          have HOL : Hid (∀ j, O j → j < wr.heap.size) := Lib.hid (by obtain ⟨_, _, _, _, _, h⟩ := HRow.out; exact h)
          clear hv hpop hcell hrow hm' hOg HM HRow
          have hOl : ∀ j, O j → j < wr.heap.size := HOL.out
          go_upto_region 3 with fail
          have hth := box_thru hOl (.cells #[.pointer (some ⟨b2, o2, none⟩), .pointer none] 99)
          have hbx := blk1 wr (.cells #[.pointer (some ⟨b2, o2, none⟩), .pointer none] 99)
          have hbl : Bel wr (wr.alloc (.cells #[.pointer (some ⟨b2, o2, none⟩), .pointer none] 99)) := (Bel.refl wr).alloc _
          obtain ⟨w2, hw2⟩ : ∃ w2, w2 = wr.alloc (.cells #[.pointer (some ⟨b2, o2, none⟩), .pointer none] 99) := ⟨_, rfl⟩
          obtain ⟨sb, hsb⟩ : ∃ sb, sb = wr.heap.size := ⟨_, rfl⟩
          rw [← hw2] at hth hbx hbl ⊢
          rw [← hsb] at hth hbx ⊢
          have HTH := Lib.hid hth
          have HC := Lib.hid (HRun.out w2 _ hth)
          have HP2 : Hid (RowT w2 base S (.slice (some ⟨g, 0, none⟩) m' c) (fun j => O j ∨ j = sb)) := Lib.hid (by
            have h := HPOP.out.more hbl (fun j hj => Or.inl hj) (O' := fun j => O j ∨ j = sb) (fun j hj => (hth.own j hj).2)
            exact h)
          have HBX := Lib.hid hbx
          have HB2 : Hid (base ≤ w2.heap.size) := Lib.hid (Nat.le_trans HB.out hbl.size)
          have hsg : sb ≠ g := by omega
          have HSG := Lib.hid hsg
          obtain ⟨t0, t1, f0, f1⟩ := cellsT2 hbx
          have i4 : (m' : Int) ≤ (c : Int) := by omega
          clear hth hbx hbl hw2 hsb hsg c0 c1 hOl HPOP HRun HB
          go_wp2_with fail
          refine HC.out.mono ?_
          rintro e w3 ⟨gb, rfl, hsp, hno, hyes⟩
          have HBX3 := Lib.hid ((hsp.keep sb (Or.inr rfl)).trans HBX.out)
          have HP3 := Lib.hid (HP2.out.bel hsp.size hsp.keep)
          have HB3 : Hid (base ≤ w3.heap.size) := Lib.hid (Nat.le_trans HB2.out hsp.size)
          have HS3 := Lib.hid hsp.size
          obtain ⟨t0, t1, f0, f1⟩ := cellsT2 HBX3.out
          clear hsp HBX HP2 HB2 HC
          cases gb
          · have HNO := Lib.hid (hno rfl)
            clear hno hyes
            go_wp2_with fail
            go_roundg gk
            case rel => exact ⟨S, _, _, c, m', rfl, HMS, HP3, HNO, HB3⟩
            case measure => omega
          · obtain ⟨kd, A3, n3, c3, hnode, hnob, hn3, hrun⟩ := hyes rfl
            obtain ⟨n0, n4, nA⟩ := hnode
            have HRUN := Lib.hid hrun
            have HNOB := Lib.hid hnob
            have HN4 := Lib.hid n4
            have HN0 := Lib.hid n0
            obtain ⟨n3l, hn3⟩ := (show True ∧ n3 + S.length ≤ 4000000 from ⟨trivial, hn3⟩)
            clear n3l
            have HNA := Lib.hid nA
            clear hno hyes hrun hnob nA
            by_cases h7 : kd = 7
            · subst h7
              have hS3 := HS3.out
              have hs2l : sb < w2.heap.size := by have := (HTH.out.own sb (Or.inr rfl)).2; exact this
              go_wp2_with fail
              go_loopw [6, 9] (fun v iv wx => ∃ (q : Nat) (O2 : Nat → Prop) (A5 : Option Addr) (c5 m5 : Nat), q ≤ n3 ∧ iv = .int .i64 ((q : Int) - 1) ∧ v = .slice A5 m5 c5 ∧ Hid (q = 0 → n3 = 0) ∧ Hid (RowT wx base (ndsOf A3 q n3 ++ S) (.slice A5 m5 c5) O2) ∧ Hid (Thru w3 (fun j => O j ∨ j = sb) wx O2) ∧ Hid (wx.heap[sb]? = some (.cells #[.pointer (some ⟨b2, o2, none⟩), .pointer none] 99 (0, 0)) ∧ ¬ Bk A5 sb ∧ O2 sb)) (fun _ i _ => (intOf i).toNat)
              case atStart => exact ⟨n3, _, _, c, m', Nat.le_refl _, rfl, rfl, Lib.hid id, Lib.hid (by rw [ndsOf_end (Nat.le_refl _)]; exact HP3.out), Lib.hid (Thru.refl (by obtain ⟨_, _, _, _, _, h⟩ := HP3.out; exact h)), Lib.hid ⟨HBX3.out, (by rintro ⟨o', e⟩; cases e; exact HSG.out rfl), Or.inr rfl⟩⟩
              case round =>
                obtain ⟨q, O2, A5, c5, m5, hq, rfl, rfl, HQ0, HP5, HT5, HX5⟩ := hrel
                obtain ⟨wx, rfl⟩ : ∃ wx : World, wx = wr := ⟨_, rfl⟩
                obtain ⟨hx1, hx2, hx3⟩ := HX5.out
                obtain ⟨t0, t1, f0, f1⟩ := cellsT2 hx1
                have hb2l : b2 < w3.heap.size := World.block_lt_of_cell? w3 _ HN4.out
                have hkb := HT5.out.keep b2 hb2l HNOB.out
                have n4 := (World.cell?_of_block (a := ⟨b2, o2 + 4, none⟩) hkb).trans HN4.out
                have n0 := (World.cell?_of_block (a := ⟨b2, o2, none⟩) hkb).trans HN0.out
                obtain ⟨hm5, hown⟩ := HP5.out.own'
                have hm5l : m5 ≤ n3 + S.length := by rw [hm5, List.length_append]; have := ndsOf_len A3 q n3; omega
                have hszx : base ≤ wx.heap.size := Nat.le_trans HB3.out HT5.out.size
                have HOWN := Lib.hid hown
                have HKB := Lib.hid hkb
                have HSX : Hid (sb < wx.heap.size) := Lib.hid (HT5.out.own sb hx3).2
                clear hx1 hkb hown hm5
                by_cases hq2 : 2 ≤ q
                · obtain ⟨r, rfl⟩ : ∃ r, q = r + 1 := ⟨q - 1, by omega⟩
                  obtain ⟨b3, o3, rfl⟩ := HNA.out (by omega)
                  rw [show (((r + 1 : Nat) : Int) - 1) = (r : Int) by omega]
                  have r1 : (0 : Int) < (r : Int) := by omega
                  have r2 : (0 : Int) ≤ (r : Int) := by omega
                  have r3 : (r : Int) < (n3 : Int) := by omega
                  clear hx2 hx3
                  go_wp2_with (at_builtin; refine stopW ?_)
                  unfold StopW
                  refine wpList_append_own_at _ rfl _ _ 100 rfl base 99 i0 (.agg #[.pointer none, .pointer none]) 2 16 Tryd.underlying100 hi0 hz0 hz1 hz2 rfl (by decide) (.slice A5 m5 c5) m5 _ rfl (HOWN.out.alloc _) ⟨wx.heap.size, 0, none⟩ 1 1 [.pointer (some ⟨b3, o3 + r * 5, none⟩), .pointer none] rfl rfl (fun j u hu => by rw [Addr.add_lit, Nat.zero_add]; exact two_at _ _ _ _ j u hu) (by simp [Value.oneCell']) (by unfold maxLen; omega) (by omega) (by simp; omega) ?_
                  intro v' w5 hown5 hg5 _ hat5
                  obtain ⟨g5, c6, O5, rfl, hml, hr5, ht5, hk5, hg6, ho5⟩ := HP5.out.push' (x := .nd b3 (o3 + r * 5)) ((Bel.refl wx).alloc _) hown5 hg5 hat5
                  have HR5 : Hid (RowT w5 base (ndsOf (some ⟨b3, o3, none⟩) r n3 ++ S) (.slice (some ⟨g5, 0, none⟩) (m5 + 1) c6) O5) := Lib.hid (by rw [ndsOf_step (by omega)]; exact hr5)
                  have HT6 := Lib.hid (HT5.out.trans ht5)
                  have HX6 : Hid (w5.heap[sb]? = some (.cells #[.pointer (some ⟨b2, o2, none⟩), .pointer none] 99 (0, 0)) ∧ ¬ Bk (some ⟨g5, 0, none⟩) sb ∧ O5 sb) := Lib.hid (by
                    obtain ⟨hx1, hx2, hx3⟩ := HX5.out
                    refine ⟨(hk5 sb HSX.out hx2).trans hx1, ?_, ho5 sb hx3⟩
                    rintro ⟨o', e⟩
                    cases e
                    rcases hg6 with h | h
                    · exact hx2 h
                    · have := HSX.out; omega)
                  clear hml hown5 hg5 hat5 hr5 ht5 hk5 hg6 ho5
                  go_wp2_with fail
                  go_roundw
                  case rel => exact ⟨r, O5, _, c6, m5 + 1, by omega, by go_num, rfl, Lib.hid (fun h => by omega), HR5, HT6, HX6⟩
                  case measure => simp [intOf]; omega
                · have hnd : ndsOf A3 q n3 = ndsOf A3 1 n3 := by
                    rcases Nat.eq_zero_or_pos q with h | h
                    · rw [h, HQ0.out h, ndsOf_end (Nat.le_refl _), ndsOf_end (by omega)]
                    · rw [show q = 1 by omega]
                  have d1 : decide ((0 : Int) < (q : Int) - 1) = false := by simp; omega
                  rw [hnd] at HP5
                  have HM1 : Hid (muOf false 7 b2 o2 = []) := Lib.hid (by unfold muOf; rw [if_neg (by simp)])
                  have HPM : Hid (RowT wx base (muOf false 7 b2 o2 ++ ndsOf A3 1 n3 ++ S) (.slice A5 m5 c5) O2) := Lib.hid (by rw [HM1.out]; exact HP5.out)
                  clear HP5 HM1 hnd
                  by_cases hn0 : n3 = 0
                  · subst hn0
                    go_wp2_with fail
                    go_roundg gk
                    case rel => exact ⟨kidsOf false 7 b2 o2 A3 0 ++ S, O2, A5, c5, m5, rfl, Lib.hid (by have h := HPM.out.own'.1; rw [h]; unfold kidsOf; rw [ndsOf_end (Nat.le_refl 0)]; rfl), Lib.hid (by have h := HPM.out; unfold kidsOf; rw [ndsOf_end (Nat.le_refl 0)]; exact h), Lib.hid (HRUN.out.on _ _ _ _ _ HT5.out), Lib.hid hszx⟩
                    case measure => omega
                  · obtain ⟨b3, o3, rfl⟩ := HNA.out (by omega)
                    have r3 : (0 : Int) < (n3 : Int) := by omega
                    have HOWN := Lib.hid HPM.out.own'.2
                    clear hx2 hx3
                    go_wp2_with (at_builtin; refine stopW ?_)
                    unfold StopW
                    refine wpList_append_own_at _ rfl _ _ 100 rfl base 99 i0 (.agg #[.pointer none, .pointer none]) 2 16 Tryd.underlying100 hi0 hz0 hz1 hz2 rfl (by decide) (.slice A5 m5 c5) m5 _ rfl (HOWN.out.alloc _) ⟨wx.heap.size, 0, none⟩ 1 1 [.pointer (some ⟨b3, o3, none⟩), .pointer none] rfl rfl (fun j u hu => by rw [Addr.add_lit, Nat.zero_add]; exact two_at _ _ _ _ j u hu) (by simp [Value.oneCell']) (by unfold maxLen; omega) (by omega) (by simp; omega) ?_
                    intro v' w5 hown5 hg5 _ hat5
                    obtain ⟨g5, c6, O5, rfl, hml, hr5, ht5, hk5, hg6, ho5⟩ := HPM.out.push' (x := .nd b3 o3) ((Bel.refl wx).alloc _) hown5 hg5 hat5
                    have hks : kidsOf false 7 b2 o2 (some ⟨b3, o3, none⟩) n3 ++ S = .nd b3 o3 :: (muOf false 7 b2 o2 ++ ndsOf (some ⟨b3, o3, none⟩) 1 n3 ++ S) := by
                      unfold kidsOf
                      rw [ndsOf_step (by omega)]
                      simp
                    have HR5 : Hid (RowT w5 base (kidsOf false 7 b2 o2 (some ⟨b3, o3, none⟩) n3 ++ S) (.slice (some ⟨g5, 0, none⟩) (m5 + 1) c6) O5) := Lib.hid (by rw [hks]; exact hr5)
                    have HT6 := Lib.hid (HT5.out.trans ht5)
                    have HSZ : Hid (base ≤ w5.heap.size) := Lib.hid (Nat.le_trans HB3.out HT6.out.size)
                    clear hml hown5 hg5 hat5 hr5 ht5 hks hk5 hg6 ho5
                    go_wp2_with fail
                    go_roundg gk
                    case rel => exact ⟨_, O5, _, c6, m5 + 1, rfl, Lib.hid HR5.out.own'.1, HR5, Lib.hid (HRUN.out.on _ _ _ _ _ HT6.out), HSZ⟩
                    case measure => omega

            · have d7 : (kd == 7) = false := by simpa using h7
              have hS3 := HS3.out
              have hs2l : sb < w2.heap.size := by have := (HTH.out.own sb (Or.inr rfl)).2; exact this
              go_wp2_with fail
              go_loopw [6, 9] (fun v iv wx => ∃ (q : Nat) (O2 : Nat → Prop) (A5 : Option Addr) (c5 m5 : Nat), q ≤ n3 ∧ iv = .int .i64 ((q : Int) - 1) ∧ v = .slice A5 m5 c5 ∧ Hid (q = 0 → n3 = 0) ∧ Hid (RowT wx base (ndsOf A3 q n3 ++ S) (.slice A5 m5 c5) O2) ∧ Hid (Thru w3 (fun j => O j ∨ j = sb) wx O2) ∧ Hid (wx.heap[sb]? = some (.cells #[.pointer (some ⟨b2, o2, none⟩), .pointer none] 99 (0, 0)) ∧ ¬ Bk A5 sb ∧ O2 sb)) (fun _ i _ => (intOf i).toNat)
              case atStart => exact ⟨n3, _, _, c, m', Nat.le_refl _, rfl, rfl, Lib.hid id, Lib.hid (by rw [ndsOf_end (Nat.le_refl _)]; exact HP3.out), Lib.hid (Thru.refl (by obtain ⟨_, _, _, _, _, h⟩ := HP3.out; exact h)), Lib.hid ⟨HBX3.out, (by rintro ⟨o', e⟩; cases e; exact HSG.out rfl), Or.inr rfl⟩⟩
              case round =>
                obtain ⟨q, O2, A5, c5, m5, hq, rfl, rfl, HQ0, HP5, HT5, HX5⟩ := hrel
                obtain ⟨wx, rfl⟩ : ∃ wx : World, wx = wr := ⟨_, rfl⟩
                obtain ⟨hx1, hx2, hx3⟩ := HX5.out
                obtain ⟨t0, t1, f0, f1⟩ := cellsT2 hx1
                have hb2l : b2 < w3.heap.size := World.block_lt_of_cell? w3 _ HN4.out
                have hkb := HT5.out.keep b2 hb2l HNOB.out
                have n4 := (World.cell?_of_block (a := ⟨b2, o2 + 4, none⟩) hkb).trans HN4.out
                have n0 := (World.cell?_of_block (a := ⟨b2, o2, none⟩) hkb).trans HN0.out
                obtain ⟨hm5, hown⟩ := HP5.out.own'
                have hm5l : m5 ≤ n3 + S.length := by rw [hm5, List.length_append]; have := ndsOf_len A3 q n3; omega
                have hszx : base ≤ wx.heap.size := Nat.le_trans HB3.out HT5.out.size
                have HOWN := Lib.hid hown
                have HKB := Lib.hid hkb
                have HSX : Hid (sb < wx.heap.size) := Lib.hid (HT5.out.own sb hx3).2
                clear hx1 hkb hown hm5
                by_cases hq2 : 2 ≤ q
                · obtain ⟨r, rfl⟩ : ∃ r, q = r + 1 := ⟨q - 1, by omega⟩
                  obtain ⟨b3, o3, rfl⟩ := HNA.out (by omega)
                  rw [show (((r + 1 : Nat) : Int) - 1) = (r : Int) by omega]
                  have r1 : (0 : Int) < (r : Int) := by omega
                  have r2 : (0 : Int) ≤ (r : Int) := by omega
                  have r3 : (r : Int) < (n3 : Int) := by omega
                  clear hx2 hx3
                  go_wp2_with (at_builtin; refine stopW ?_)
                  unfold StopW
                  refine wpList_append_own_at _ rfl _ _ 100 rfl base 99 i0 (.agg #[.pointer none, .pointer none]) 2 16 Tryd.underlying100 hi0 hz0 hz1 hz2 rfl (by decide) (.slice A5 m5 c5) m5 _ rfl (HOWN.out.alloc _) ⟨wx.heap.size, 0, none⟩ 1 1 [.pointer (some ⟨b3, o3 + r * 5, none⟩), .pointer none] rfl rfl (fun j u hu => by rw [Addr.add_lit, Nat.zero_add]; exact two_at _ _ _ _ j u hu) (by simp [Value.oneCell']) (by unfold maxLen; omega) (by omega) (by simp; omega) ?_
                  intro v' w5 hown5 hg5 _ hat5
                  obtain ⟨g5, c6, O5, rfl, hml, hr5, ht5, hk5, hg6, ho5⟩ := HP5.out.push' (x := .nd b3 (o3 + r * 5)) ((Bel.refl wx).alloc _) hown5 hg5 hat5
                  have HR5 : Hid (RowT w5 base (ndsOf (some ⟨b3, o3, none⟩) r n3 ++ S) (.slice (some ⟨g5, 0, none⟩) (m5 + 1) c6) O5) := Lib.hid (by rw [ndsOf_step (by omega)]; exact hr5)
                  have HT6 := Lib.hid (HT5.out.trans ht5)
                  have HX6 : Hid (w5.heap[sb]? = some (.cells #[.pointer (some ⟨b2, o2, none⟩), .pointer none] 99 (0, 0)) ∧ ¬ Bk (some ⟨g5, 0, none⟩) sb ∧ O5 sb) := Lib.hid (by
                    obtain ⟨hx1, hx2, hx3⟩ := HX5.out
                    refine ⟨(hk5 sb HSX.out hx2).trans hx1, ?_, ho5 sb hx3⟩
                    rintro ⟨o', e⟩
                    cases e
                    rcases hg6 with h | h
                    · exact hx2 h
                    · have := HSX.out; omega)
                  clear hml hown5 hg5 hat5 hr5 ht5 hk5 hg6 ho5
                  go_wp2_with fail
                  go_roundw
                  case rel => exact ⟨r, O5, _, c6, m5 + 1, by omega, by go_num, rfl, Lib.hid (fun h => by omega), HR5, HT6, HX6⟩
                  case measure => simp [intOf]; omega
                · have hnd : ndsOf A3 q n3 = ndsOf A3 1 n3 := by
                    rcases Nat.eq_zero_or_pos q with h | h
                    · rw [h, HQ0.out h, ndsOf_end (Nat.le_refl _), ndsOf_end (by omega)]
                    · rw [show q = 1 by omega]
                  have d1 : decide ((0 : Int) < (q : Int) - 1) = false := by simp; omega
                  rw [hnd] at HP5
                  have HM1 : Hid (muOf false kd b2 o2 = []) := Lib.hid (by unfold muOf; rw [if_neg (by omega)])
                  have HPM : Hid (RowT wx base (muOf false kd b2 o2 ++ ndsOf A3 1 n3 ++ S) (.slice A5 m5 c5) O2) := Lib.hid (by rw [HM1.out]; exact HP5.out)
                  clear HP5 HM1 hnd
                  by_cases hn0 : n3 = 0
                  · subst hn0
                    go_wp2_with fail
                    go_roundg gk
                    case rel => exact ⟨kidsOf false kd b2 o2 A3 0 ++ S, O2, A5, c5, m5, rfl, Lib.hid (by have h := HPM.out.own'.1; rw [h]; unfold kidsOf; rw [ndsOf_end (Nat.le_refl 0)]; rfl), Lib.hid (by have h := HPM.out; unfold kidsOf; rw [ndsOf_end (Nat.le_refl 0)]; exact h), Lib.hid (HRUN.out.on _ _ _ _ _ HT5.out), Lib.hid hszx⟩
                    case measure => omega
                  · obtain ⟨b3, o3, rfl⟩ := HNA.out (by omega)
                    have r3 : (0 : Int) < (n3 : Int) := by omega
                    have HOWN := Lib.hid HPM.out.own'.2
                    clear hx2 hx3
                    go_wp2_with (at_builtin; refine stopW ?_)
                    unfold StopW
                    refine wpList_append_own_at _ rfl _ _ 100 rfl base 99 i0 (.agg #[.pointer none, .pointer none]) 2 16 Tryd.underlying100 hi0 hz0 hz1 hz2 rfl (by decide) (.slice A5 m5 c5) m5 _ rfl (HOWN.out.alloc _) ⟨wx.heap.size, 0, none⟩ 1 1 [.pointer (some ⟨b3, o3, none⟩), .pointer none] rfl rfl (fun j u hu => by rw [Addr.add_lit, Nat.zero_add]; exact two_at _ _ _ _ j u hu) (by simp [Value.oneCell']) (by unfold maxLen; omega) (by omega) (by simp; omega) ?_
                    intro v' w5 hown5 hg5 _ hat5
                    obtain ⟨g5, c6, O5, rfl, hml, hr5, ht5, hk5, hg6, ho5⟩ := HPM.out.push' (x := .nd b3 o3) ((Bel.refl wx).alloc _) hown5 hg5 hat5
                    have hks : kidsOf false kd b2 o2 (some ⟨b3, o3, none⟩) n3 ++ S = .nd b3 o3 :: (muOf false kd b2 o2 ++ ndsOf (some ⟨b3, o3, none⟩) 1 n3 ++ S) := by
                      unfold kidsOf
                      rw [ndsOf_step (by omega)]
                      simp
                    have HR5 : Hid (RowT w5 base (kidsOf false kd b2 o2 (some ⟨b3, o3, none⟩) n3 ++ S) (.slice (some ⟨g5, 0, none⟩) (m5 + 1) c6) O5) := Lib.hid (by rw [hks]; exact hr5)
                    have HT6 := Lib.hid (HT5.out.trans ht5)
                    have HSZ : Hid (base ≤ w5.heap.size) := Lib.hid (Nat.le_trans HB3.out HT6.out.size)
                    clear hml hown5 hg5 hat5 hr5 ht5 hks hk5 hg6 ho5
                    go_wp2_with fail
                    go_roundg gk
                    case rel => exact ⟨_, O5, _, c6, m5 + 1, rfl, Lib.hid HR5.out.own'.1, HR5, Lib.hid (HRUN.out.on _ _ _ _ _ HT6.out), HSZ⟩
                    case measure => omega

set_option maxRecDepth 100000 in
set_option maxHeartbeats 4000000 in
theorem through_two (fo : Nat) (caps : Array Value) (F : World → Prop) (eg : ∀ args w, (callFunc fo args).run Tryd.prog w = .ok (.enter fo args) w) (gm : Nat) (cm : Array Value) (em : ∀ args w, (callFunc gm args).run Tryd.prog w = .ok (.enter gm args) w) (k b o : Nat) (w : World) (hR : Runs Tryd.prog fo caps (some (gm, cm)) F k [.nd b o] w (fun _ => False)) :
    Calls Tryd.prog 27 #[.pointer (some ⟨b, o, none⟩), .func (.func fo) #[] caps, .func (.func gm) #[] cm] w fun e w' => e = .returned (.tuple #[]) ∧ F w' := by
  have HR := Lib.hid hR
  clear hR
  obtain ⟨i0, hi0, hz0, hz1, hz2⟩ := info_parts info_step
  have q97 := fun97 gm cm
  go_enter Tryd.func27, Tryd.ntmps27
  go_wp2_with fail
  obtain ⟨base, hbase⟩ : ∃ base, base = w.heap.size := ⟨_, rfl⟩
  have hb1 : Bel w (w.alloc (.cells #[.pointer (some ⟨b, o, none⟩), .pointer none] 99)) := (Bel.refl w).alloc _
  have hq1 := blk1 w (.cells #[.pointer (some ⟨b, o, none⟩), .pointer none] 99)
  have hz1' : (w.alloc (.cells #[.pointer (some ⟨b, o, none⟩), .pointer none] 99)).heap.size = w.heap.size + 1 := by simp
  obtain ⟨w1, hw1⟩ : ∃ w1, w1 = w.alloc (.cells #[.pointer (some ⟨b, o, none⟩), .pointer none] 99) := ⟨_, rfl⟩
  rw [← hw1] at hb1 hq1 hz1' ⊢
  rw [← hbase] at hq1 hz1' ⊢
  have HR1 : Hid (Runs Tryd.prog fo caps (some (gm, cm)) F k [.nd b o] w1 (fun j => j = base)) := Lib.hid (HR.out.on _ _ _ _ _ ⟨hb1.os, hb1.tape, hb1.output, hb1.size, fun j hj _ => hb1.block j hj, fun j hj => ⟨.inr (by rw [hj, hbase]; exact Nat.le_refl _), by rw [hj, hz1']; omega⟩⟩)
  have HW1 : Hid (RowT w1 base [.nd b o] (.slice (some ⟨base, 0, none⟩) 1 1) (fun j => j = base)) := Lib.hid ⟨some ⟨base, 0, none⟩, 1, rfl, ⟨rfl, .inr ⟨base, 1, _, rfl, Nat.le_refl _, hq1, Nat.le_refl _, by unfold maxLen; omega, rfl, rfl⟩⟩, fun j hj => (by obtain ⟨o', e⟩ := hj; cases e; rfl), fun j hj => by rw [hj, hz1']; omega⟩
  have HB1 : Hid (base ≤ w1.heap.size) := Lib.hid (by omega)
  clear hbase hb1 hq1 hz1' hw1 HR
  go_loopg [6] k (fun gk v wr => ∃ (S : List Itm) (O : Nat → Prop) (A : Option Addr) (c m : Nat), v = .slice A m c ∧ Hid (m = S.length) ∧ Hid (RowT wr base S (.slice A m c) O) ∧ Hid (Runs Tryd.prog fo caps (some (gm, cm)) F gk S wr O) ∧ Hid (base ≤ wr.heap.size))
  case atStart => exact ⟨[.nd b o], _, _, 1, 1, rfl, Lib.hid rfl, HW1, HR1, HB1⟩
  case round =>
    clear HW1 HR1 HB1
    obtain ⟨S, O, A, c, m, rfl, HM, HRow, HRun, HB⟩ := hrel
    cases S with
    | nil =>
      have hm : m = 0 := HM.out
      subst hm
      go_wp2_with fail
      go_end0
      refine ⟨rfl, ?_⟩
      have hl : ∀ j, O j → j < wr.heap.size := by obtain ⟨_, _, _, _, _, h⟩ := HRow.out; exact h
      cases gk
      · exact HRun.out _ _ (Thru.refl hl)
      · exact HRun.out _ _ (Thru.refl hl)
    | cons x S =>
      obtain ⟨m', hm'⟩ : ∃ m', m' = S.length := ⟨_, rfl⟩
      have hmm : m = m' + 1 := by rw [hm']; exact HM.out
      subst hmm
      have hrow := HRow.out
      rw [show m' + 1 = (x :: S).length by rw [hm']; rfl] at hrow
      obtain ⟨g, c', hv, hOg, hc1, hc2, hpop, hcell⟩ := hrow.pop
      rw [← hm'] at hv hc1 hpop hcell
      have hAc : A = some ⟨g, 0, none⟩ ∧ c = c' := by
        rw [List.length_cons, ← hm'] at hv
        injection hv with e1 e2 e3
        exact ⟨e1, e3⟩
      obtain ⟨rfl, rfl⟩ := hAc
      have HPOP := Lib.hid hpop
      have HOG := Lib.hid hOg
      have HMS := Lib.hid hm'
      cases gk with
      | zero => exact HRun.out.elim
      | succ gk =>
        cases x with
        | mu b2 o2 =>
          obtain ⟨gm2, cm2, e, hcm⟩ := HRun.out
          cases e
          have c0 := hcell 0 _ rfl
          have c1 := hcell 1 _ rfl
          simp only [Nat.add_zero] at c0
          have hm63 : m' + 1 ≤ 9223372036854775807 := by unfold maxLen at hc2; omega
          have i0' : (0 : Int) ≤ (m' : Int) := by omega
          have i1 : (m' : Int) < (m' : Int) + 1 := by omega
          have hgl : g < wr.heap.size := by obtain ⟨_, _, _, _, _, h⟩ := HRow.out; exact h g hOg
          have HOL : Hid (∀ j, O j → j < wr.heap.size) := Lib.hid (by obtain ⟨_, _, _, _, _, h⟩ := HRow.out; exact h)
          have HCM := Lib.hid hcm
          clear hv hpop hcell hrow hm' hOg HM HRow hcm
          have hOl : ∀ j, O j → j < wr.heap.size := HOL.out
          go_upto_region 3 with fail
          have hth := box_thru hOl (.cells #[.pointer none, .pointer (some ⟨b2, o2, none⟩)] 99)
          have hbx := blk1 wr (.cells #[.pointer none, .pointer (some ⟨b2, o2, none⟩)] 99)
          have hbl : Bel wr (wr.alloc (.cells #[.pointer none, .pointer (some ⟨b2, o2, none⟩)] 99)) := (Bel.refl wr).alloc _
          obtain ⟨w2, hw2⟩ : ∃ w2, w2 = wr.alloc (.cells #[.pointer none, .pointer (some ⟨b2, o2, none⟩)] 99) := ⟨_, rfl⟩
          obtain ⟨sb, hsb⟩ : ∃ sb, sb = wr.heap.size := ⟨_, rfl⟩
          rw [← hw2] at hth hbx hbl ⊢
          rw [← hsb] at hth hbx ⊢
          have HC := Lib.hid (HCM.out w2 _ hth)
          have HP2 : Hid (RowT w2 base S (.slice (some ⟨g, 0, none⟩) m' c) (fun j => O j ∨ j = sb)) := Lib.hid (by
            have h := HPOP.out.more hbl (fun j hj => Or.inl hj) (O' := fun j => O j ∨ j = sb) (fun j hj => (hth.own j hj).2)
            exact h)
          have HB2 : Hid (base ≤ w2.heap.size) := Lib.hid (Nat.le_trans HB.out hbl.size)
          obtain ⟨t0, t1, f0, f1⟩ := cellsT2 hbx
          have i4 : (m' : Int) ≤ (c : Int) := by omega
          clear hth hbx hbl hw2 hsb c0 c1 hOl HPOP HRun HB HCM
          go_wp2_with fail
          refine HC.out.mono ?_
          rintro e w3 ⟨rfl, hsp, hrun⟩
          have HP3 := Lib.hid (HP2.out.bel hsp.size hsp.keep)
          have HB3 : Hid (base ≤ w3.heap.size) := Lib.hid (Nat.le_trans HB2.out hsp.size)
          have HRN := Lib.hid hrun
          clear hsp hrun HP2 HB2 HC
          go_wp2_with fail
          go_roundg gk
          case rel => exact ⟨S, _, _, c, m', rfl, HMS, HP3, HRN, HB3⟩
          case measure => omega
        | nd b2 o2 =>
          have c0 := hcell 0 _ rfl
          have c1 := hcell 1 _ rfl
          simp only [Nat.add_zero] at c0
          have hm63 : m' + 1 ≤ 9223372036854775807 := by unfold maxLen at hc2; omega
          have i0' : (0 : Int) ≤ (m' : Int) := by omega
          have i1 : (m' : Int) < (m' : Int) + 1 := by omega
          have hgl : g < wr.heap.size := by obtain ⟨_, _, _, _, _, h⟩ := HRow.out; exact h g hOg
          have HOL : Hid (∀ j, O j → j < wr.heap.size) := Lib.hid (by obtain ⟨_, _, _, _, _, h⟩ := HRow.out; exact h)
          clear hv hpop hcell hrow hm' hOg HM HRow
          have hOl : ∀ j, O j → j < wr.heap.size := HOL.out
          go_upto_region 3 with fail
          have hth := box_thru hOl (.cells #[.pointer (some ⟨b2, o2, none⟩), .pointer none] 99)
          have hbx := blk1 wr (.cells #[.pointer (some ⟨b2, o2, none⟩), .pointer none] 99)
          have hbl : Bel wr (wr.alloc (.cells #[.pointer (some ⟨b2, o2, none⟩), .pointer none] 99)) := (Bel.refl wr).alloc _
          obtain ⟨w2, hw2⟩ : ∃ w2, w2 = wr.alloc (.cells #[.pointer (some ⟨b2, o2, none⟩), .pointer none] 99) := ⟨_, rfl⟩
          obtain ⟨sb, hsb⟩ : ∃ sb, sb = wr.heap.size := ⟨_, rfl⟩
          rw [← hw2] at hth hbx hbl ⊢
          rw [← hsb] at hth hbx ⊢
          have HTH := Lib.hid hth
          have HC := Lib.hid (HRun.out w2 _ hth)
          have HP2 : Hid (RowT w2 base S (.slice (some ⟨g, 0, none⟩) m' c) (fun j => O j ∨ j = sb)) := Lib.hid (by
            have h := HPOP.out.more hbl (fun j hj => Or.inl hj) (O' := fun j => O j ∨ j = sb) (fun j hj => (hth.own j hj).2)
            exact h)
          have HBX := Lib.hid hbx
          have HB2 : Hid (base ≤ w2.heap.size) := Lib.hid (Nat.le_trans HB.out hbl.size)
          have hsg : sb ≠ g := by omega
          have HSG := Lib.hid hsg
          obtain ⟨t0, t1, f0, f1⟩ := cellsT2 hbx
          have i4 : (m' : Int) ≤ (c : Int) := by omega
          clear hth hbx hbl hw2 hsb hsg c0 c1 hOl HPOP HRun HB
          go_wp2_with fail
          refine HC.out.mono ?_
          rintro e w3 ⟨gb, rfl, hsp, hno, hyes⟩
          have HBX3 := Lib.hid ((hsp.keep sb (Or.inr rfl)).trans HBX.out)
          have HP3 := Lib.hid (HP2.out.bel hsp.size hsp.keep)
          have HB3 : Hid (base ≤ w3.heap.size) := Lib.hid (Nat.le_trans HB2.out hsp.size)
          have HS3 := Lib.hid hsp.size
          obtain ⟨t0, t1, f0, f1⟩ := cellsT2 HBX3.out
          clear hsp HBX HP2 HB2 HC
          cases gb
          · have HNO := Lib.hid (hno rfl)
            clear hno hyes
            go_wp2_with fail
            go_roundg gk
            case rel => exact ⟨S, _, _, c, m', rfl, HMS, HP3, HNO, HB3⟩
            case measure => omega
          · obtain ⟨kd, A3, n3, c3, hnode, hnob, hn3, hrun⟩ := hyes rfl
            obtain ⟨n0, n4, nA⟩ := hnode
            have HRUN := Lib.hid hrun
            have HNOB := Lib.hid hnob
            have HN4 := Lib.hid n4
            have HN0 := Lib.hid n0
            obtain ⟨n3l, hn3⟩ := (show True ∧ n3 + S.length ≤ 4000000 from ⟨trivial, hn3⟩)
            clear n3l
            have HNA := Lib.hid nA
            clear hno hyes hrun hnob nA
            by_cases h7 : kd = 7
            · subst h7
              have hS3 := HS3.out
              have hs2l : sb < w2.heap.size := by have := (HTH.out.own sb (Or.inr rfl)).2; exact this
              go_wp2_with fail
              go_loopw [6, 9] (fun v iv wx => ∃ (q : Nat) (O2 : Nat → Prop) (A5 : Option Addr) (c5 m5 : Nat), q ≤ n3 ∧ iv = .int .i64 ((q : Int) - 1) ∧ v = .slice A5 m5 c5 ∧ Hid (q = 0 → n3 = 0) ∧ Hid (RowT wx base (ndsOf A3 q n3 ++ S) (.slice A5 m5 c5) O2) ∧ Hid (Thru w3 (fun j => O j ∨ j = sb) wx O2) ∧ Hid (wx.heap[sb]? = some (.cells #[.pointer (some ⟨b2, o2, none⟩), .pointer none] 99 (0, 0)) ∧ ¬ Bk A5 sb ∧ O2 sb)) (fun _ i _ => (intOf i).toNat)
              case atStart => exact ⟨n3, _, _, c, m', Nat.le_refl _, rfl, rfl, Lib.hid id, Lib.hid (by rw [ndsOf_end (Nat.le_refl _)]; exact HP3.out), Lib.hid (Thru.refl (by obtain ⟨_, _, _, _, _, h⟩ := HP3.out; exact h)), Lib.hid ⟨HBX3.out, (by rintro ⟨o', e⟩; cases e; exact HSG.out rfl), Or.inr rfl⟩⟩
              case round =>
                obtain ⟨q, O2, A5, c5, m5, hq, rfl, rfl, HQ0, HP5, HT5, HX5⟩ := hrel
                obtain ⟨wx, rfl⟩ : ∃ wx : World, wx = wr := ⟨_, rfl⟩
                obtain ⟨hx1, hx2, hx3⟩ := HX5.out
                obtain ⟨t0, t1, f0, f1⟩ := cellsT2 hx1
                have hb2l : b2 < w3.heap.size := World.block_lt_of_cell? w3 _ HN4.out
                have hkb := HT5.out.keep b2 hb2l HNOB.out
                have n4 := (World.cell?_of_block (a := ⟨b2, o2 + 4, none⟩) hkb).trans HN4.out
                have n0 := (World.cell?_of_block (a := ⟨b2, o2, none⟩) hkb).trans HN0.out
                obtain ⟨hm5, hown⟩ := HP5.out.own'
                have hm5l : m5 ≤ n3 + S.length := by rw [hm5, List.length_append]; have := ndsOf_len A3 q n3; omega
                have hszx : base ≤ wx.heap.size := Nat.le_trans HB3.out HT5.out.size
                have HOWN := Lib.hid hown
                have HKB := Lib.hid hkb
                have HSX : Hid (sb < wx.heap.size) := Lib.hid (HT5.out.own sb hx3).2
                clear hx1 hkb hown hm5
                by_cases hq2 : 2 ≤ q
                · obtain ⟨r, rfl⟩ : ∃ r, q = r + 1 := ⟨q - 1, by omega⟩
                  obtain ⟨b3, o3, rfl⟩ := HNA.out (by omega)
                  rw [show (((r + 1 : Nat) : Int) - 1) = (r : Int) by omega]
                  have r1 : (0 : Int) < (r : Int) := by omega
                  have r2 : (0 : Int) ≤ (r : Int) := by omega
                  have r3 : (r : Int) < (n3 : Int) := by omega
                  clear hx2 hx3
                  go_wp2_with (at_builtin; refine stopW ?_)
                  unfold StopW
                  refine wpList_append_own_at _ rfl _ _ 100 rfl base 99 i0 (.agg #[.pointer none, .pointer none]) 2 16 Tryd.underlying100 hi0 hz0 hz1 hz2 rfl (by decide) (.slice A5 m5 c5) m5 _ rfl (HOWN.out.alloc _) ⟨wx.heap.size, 0, none⟩ 1 1 [.pointer (some ⟨b3, o3 + r * 5, none⟩), .pointer none] rfl rfl (fun j u hu => by rw [Addr.add_lit, Nat.zero_add]; exact two_at _ _ _ _ j u hu) (by simp [Value.oneCell']) (by unfold maxLen; omega) (by omega) (by simp; omega) ?_
                  intro v' w5 hown5 hg5 _ hat5
                  obtain ⟨g5, c6, O5, rfl, hml, hr5, ht5, hk5, hg6, ho5⟩ := HP5.out.push' (x := .nd b3 (o3 + r * 5)) ((Bel.refl wx).alloc _) hown5 hg5 hat5
                  have HR5 : Hid (RowT w5 base (ndsOf (some ⟨b3, o3, none⟩) r n3 ++ S) (.slice (some ⟨g5, 0, none⟩) (m5 + 1) c6) O5) := Lib.hid (by rw [ndsOf_step (by omega)]; exact hr5)
                  have HT6 := Lib.hid (HT5.out.trans ht5)
                  have HX6 : Hid (w5.heap[sb]? = some (.cells #[.pointer (some ⟨b2, o2, none⟩), .pointer none] 99 (0, 0)) ∧ ¬ Bk (some ⟨g5, 0, none⟩) sb ∧ O5 sb) := Lib.hid (by
                    obtain ⟨hx1, hx2, hx3⟩ := HX5.out
                    refine ⟨(hk5 sb HSX.out hx2).trans hx1, ?_, ho5 sb hx3⟩
                    rintro ⟨o', e⟩
                    cases e
                    rcases hg6 with h | h
                    · exact hx2 h
                    · have := HSX.out; omega)
                  clear hml hown5 hg5 hat5 hr5 ht5 hk5 hg6 ho5
                  go_wp2_with fail
                  go_roundw
                  case rel => exact ⟨r, O5, _, c6, m5 + 1, by omega, by go_num, rfl, Lib.hid (fun h => by omega), HR5, HT6, HX6⟩
                  case measure => simp [intOf]; omega
                · have hnd : ndsOf A3 q n3 = ndsOf A3 1 n3 := by
                    rcases Nat.eq_zero_or_pos q with h | h
                    · rw [h, HQ0.out h, ndsOf_end (Nat.le_refl _), ndsOf_end (by omega)]
                    · rw [show q = 1 by omega]
                  have d1 : decide ((0 : Int) < (q : Int) - 1) = false := by simp; omega
                  rw [hnd] at HP5
                  have HX7 := HX5
                  clear hx2 hx3 hnd
                  go_wp2_with (at_builtin; refine stopW ?_)
                  unfold StopW
                  refine wpList_append_own_at _ rfl _ _ 100 rfl base 99 i0 (.agg #[.pointer none, .pointer none]) 2 16 Tryd.underlying100 hi0 hz0 hz1 hz2 rfl (by decide) (.slice A5 m5 c5) m5 _ rfl (HP5.out.own'.2.alloc _) ⟨wx.heap.size, 0, none⟩ 1 1 [.pointer none, .pointer (some ⟨b2, o2 + 2, none⟩)] rfl rfl (fun j u hu => by rw [Addr.add_lit, Nat.zero_add]; exact two_at _ _ _ _ j u hu) (by simp [Value.oneCell']) (by unfold maxLen; omega) (by omega) (by simp; omega) ?_
                  intro v' w7 hown7 hg7 _ hat7
                  obtain ⟨g7, c7, O7, rfl, hml, hr7, ht7, hk7, hg8, ho7⟩ := HP5.out.push' (x := .mu b2 (o2 + 2)) ((Bel.refl wx).alloc _) hown7 hg7 hat7
                  have HPM : Hid (RowT w7 base (muOf true 7 b2 o2 ++ ndsOf A3 1 n3 ++ S) (.slice (some ⟨g7, 0, none⟩) (m5 + 1) c7) O7) := Lib.hid (by unfold muOf; rw [if_pos ⟨rfl, rfl⟩]; exact hr7)
                  have HT7 := Lib.hid (HT5.out.trans ht7)
                  obtain ⟨u0, u1, _, _⟩ := cellsT2 ((hk7 sb HSX.out HX5.out.2.1).trans HX5.out.1)
                  have hkb7 := HT7.out.keep b2 hb2l HNOB.out
                  have p4 := (World.cell?_of_block (a := ⟨b2, o2 + 4, none⟩) hkb7).trans HN4.out
                  have hszx7 : base ≤ w7.heap.size := Nat.le_trans HB3.out HT7.out.size
                  clear hml hown7 hg7 hat7 hr7 ht7 hk7 hg8 ho7 hkb7 t0 t1 f0 f1 n4 n0 HP5
                  by_cases hn0 : n3 = 0
                  · subst hn0
                    go_wp2_with fail
                    go_roundg gk
                    case rel => exact ⟨kidsOf true 7 b2 o2 A3 0 ++ S, O7, _, c7, m5 + 1, rfl, Lib.hid (by have h := HPM.out.own'.1; rw [h]; unfold kidsOf; rw [ndsOf_end (Nat.le_refl 0)]; rfl), Lib.hid (by have h := HPM.out; unfold kidsOf; rw [ndsOf_end (Nat.le_refl 0)]; exact h), Lib.hid (HRUN.out.on _ _ _ _ _ HT7.out), Lib.hid hszx7⟩
                    case measure => omega
                  · obtain ⟨b3, o3, rfl⟩ := HNA.out (by omega)
                    have r3 : (0 : Int) < (n3 : Int) := by omega
                    have HOWN := Lib.hid HPM.out.own'.2
                    skip
                    go_wp2_with (at_builtin; refine stopW ?_)
                    unfold StopW
                    refine wpList_append_own_at _ rfl _ _ 100 rfl base 99 i0 (.agg #[.pointer none, .pointer none]) 2 16 Tryd.underlying100 hi0 hz0 hz1 hz2 rfl (by decide) (.slice (some ⟨g7, 0, none⟩) (m5 + 1) c7) (m5 + 1) _ rfl (HOWN.out.alloc _) ⟨w7.heap.size, 0, none⟩ 1 1 [.pointer (some ⟨b3, o3, none⟩), .pointer none] rfl rfl (fun j u hu => by rw [Addr.add_lit, Nat.zero_add]; exact two_at _ _ _ _ j u hu) (by simp [Value.oneCell']) (by unfold maxLen; omega) (by omega) (by simp; omega) ?_
                    intro v' w5 hown5 hg5 _ hat5
                    obtain ⟨g5, c6, O5, rfl, hml, hr5, ht5, hk5, hg6, ho5⟩ := HPM.out.push' (x := .nd b3 o3) ((Bel.refl w7).alloc _) hown5 hg5 hat5
                    have hks : kidsOf true 7 b2 o2 (some ⟨b3, o3, none⟩) n3 ++ S = .nd b3 o3 :: (muOf true 7 b2 o2 ++ ndsOf (some ⟨b3, o3, none⟩) 1 n3 ++ S) := by
                      unfold kidsOf
                      rw [ndsOf_step (by omega)]
                      simp
                    have HR5 : Hid (RowT w5 base (kidsOf true 7 b2 o2 (some ⟨b3, o3, none⟩) n3 ++ S) (.slice (some ⟨g5, 0, none⟩) (m5 + 1 + 1) c6) O5) := Lib.hid (by rw [hks]; exact hr5)
                    have HT6 := Lib.hid (HT7.out.trans ht5)
                    have HSZ : Hid (base ≤ w5.heap.size) := Lib.hid (Nat.le_trans HB3.out HT6.out.size)
                    clear hml hown5 hg5 hat5 hr5 ht5 hks hk5 hg6 ho5
                    go_wp2_with fail
                    go_roundg gk
                    case rel => exact ⟨_, O5, _, c6, m5 + 1 + 1, rfl, Lib.hid HR5.out.own'.1, HR5, Lib.hid (HRUN.out.on _ _ _ _ _ HT6.out), HSZ⟩
                    case measure => omega

            · have d7 : (kd == 7) = false := by simpa using h7
              have hS3 := HS3.out
              have hs2l : sb < w2.heap.size := by have := (HTH.out.own sb (Or.inr rfl)).2; exact this
              go_wp2_with fail
              go_loopw [6, 9] (fun v iv wx => ∃ (q : Nat) (O2 : Nat → Prop) (A5 : Option Addr) (c5 m5 : Nat), q ≤ n3 ∧ iv = .int .i64 ((q : Int) - 1) ∧ v = .slice A5 m5 c5 ∧ Hid (q = 0 → n3 = 0) ∧ Hid (RowT wx base (ndsOf A3 q n3 ++ S) (.slice A5 m5 c5) O2) ∧ Hid (Thru w3 (fun j => O j ∨ j = sb) wx O2) ∧ Hid (wx.heap[sb]? = some (.cells #[.pointer (some ⟨b2, o2, none⟩), .pointer none] 99 (0, 0)) ∧ ¬ Bk A5 sb ∧ O2 sb)) (fun _ i _ => (intOf i).toNat)
              case atStart => exact ⟨n3, _, _, c, m', Nat.le_refl _, rfl, rfl, Lib.hid id, Lib.hid (by rw [ndsOf_end (Nat.le_refl _)]; exact HP3.out), Lib.hid (Thru.refl (by obtain ⟨_, _, _, _, _, h⟩ := HP3.out; exact h)), Lib.hid ⟨HBX3.out, (by rintro ⟨o', e⟩; cases e; exact HSG.out rfl), Or.inr rfl⟩⟩
              case round =>
                obtain ⟨q, O2, A5, c5, m5, hq, rfl, rfl, HQ0, HP5, HT5, HX5⟩ := hrel
                obtain ⟨wx, rfl⟩ : ∃ wx : World, wx = wr := ⟨_, rfl⟩
                obtain ⟨hx1, hx2, hx3⟩ := HX5.out
                obtain ⟨t0, t1, f0, f1⟩ := cellsT2 hx1
                have hb2l : b2 < w3.heap.size := World.block_lt_of_cell? w3 _ HN4.out
                have hkb := HT5.out.keep b2 hb2l HNOB.out
                have n4 := (World.cell?_of_block (a := ⟨b2, o2 + 4, none⟩) hkb).trans HN4.out
                have n0 := (World.cell?_of_block (a := ⟨b2, o2, none⟩) hkb).trans HN0.out
                obtain ⟨hm5, hown⟩ := HP5.out.own'
                have hm5l : m5 ≤ n3 + S.length := by rw [hm5, List.length_append]; have := ndsOf_len A3 q n3; omega
                have hszx : base ≤ wx.heap.size := Nat.le_trans HB3.out HT5.out.size
                have HOWN := Lib.hid hown
                have HKB := Lib.hid hkb
                have HSX : Hid (sb < wx.heap.size) := Lib.hid (HT5.out.own sb hx3).2
                clear hx1 hkb hown hm5
                by_cases hq2 : 2 ≤ q
                · obtain ⟨r, rfl⟩ : ∃ r, q = r + 1 := ⟨q - 1, by omega⟩
                  obtain ⟨b3, o3, rfl⟩ := HNA.out (by omega)
                  rw [show (((r + 1 : Nat) : Int) - 1) = (r : Int) by omega]
                  have r1 : (0 : Int) < (r : Int) := by omega
                  have r2 : (0 : Int) ≤ (r : Int) := by omega
                  have r3 : (r : Int) < (n3 : Int) := by omega
                  clear hx2 hx3
                  go_wp2_with (at_builtin; refine stopW ?_)
                  unfold StopW
                  refine wpList_append_own_at _ rfl _ _ 100 rfl base 99 i0 (.agg #[.pointer none, .pointer none]) 2 16 Tryd.underlying100 hi0 hz0 hz1 hz2 rfl (by decide) (.slice A5 m5 c5) m5 _ rfl (HOWN.out.alloc _) ⟨wx.heap.size, 0, none⟩ 1 1 [.pointer (some ⟨b3, o3 + r * 5, none⟩), .pointer none] rfl rfl (fun j u hu => by rw [Addr.add_lit, Nat.zero_add]; exact two_at _ _ _ _ j u hu) (by simp [Value.oneCell']) (by unfold maxLen; omega) (by omega) (by simp; omega) ?_
                  intro v' w5 hown5 hg5 _ hat5
                  obtain ⟨g5, c6, O5, rfl, hml, hr5, ht5, hk5, hg6, ho5⟩ := HP5.out.push' (x := .nd b3 (o3 + r * 5)) ((Bel.refl wx).alloc _) hown5 hg5 hat5
                  have HR5 : Hid (RowT w5 base (ndsOf (some ⟨b3, o3, none⟩) r n3 ++ S) (.slice (some ⟨g5, 0, none⟩) (m5 + 1) c6) O5) := Lib.hid (by rw [ndsOf_step (by omega)]; exact hr5)
                  have HT6 := Lib.hid (HT5.out.trans ht5)
                  have HX6 : Hid (w5.heap[sb]? = some (.cells #[.pointer (some ⟨b2, o2, none⟩), .pointer none] 99 (0, 0)) ∧ ¬ Bk (some ⟨g5, 0, none⟩) sb ∧ O5 sb) := Lib.hid (by
                    obtain ⟨hx1, hx2, hx3⟩ := HX5.out
                    refine ⟨(hk5 sb HSX.out hx2).trans hx1, ?_, ho5 sb hx3⟩
                    rintro ⟨o', e⟩
                    cases e
                    rcases hg6 with h | h
                    · exact hx2 h
                    · have := HSX.out; omega)
                  clear hml hown5 hg5 hat5 hr5 ht5 hk5 hg6 ho5
                  go_wp2_with fail
                  go_roundw
                  case rel => exact ⟨r, O5, _, c6, m5 + 1, by omega, by go_num, rfl, Lib.hid (fun h => by omega), HR5, HT6, HX6⟩
                  case measure => simp [intOf]; omega
                · have hnd : ndsOf A3 q n3 = ndsOf A3 1 n3 := by
                    rcases Nat.eq_zero_or_pos q with h | h
                    · rw [h, HQ0.out h, ndsOf_end (Nat.le_refl _), ndsOf_end (by omega)]
                    · rw [show q = 1 by omega]
                  have d1 : decide ((0 : Int) < (q : Int) - 1) = false := by simp; omega
                  rw [hnd] at HP5
                  have HM1 : Hid (muOf true kd b2 o2 = []) := Lib.hid (by unfold muOf; rw [if_neg (by omega)])
                  have HPM : Hid (RowT wx base (muOf true kd b2 o2 ++ ndsOf A3 1 n3 ++ S) (.slice A5 m5 c5) O2) := Lib.hid (by rw [HM1.out]; exact HP5.out)
                  clear HP5 HM1 hnd
                  by_cases hn0 : n3 = 0
                  · subst hn0
                    go_wp2_with fail
                    go_roundg gk
                    case rel => exact ⟨kidsOf true kd b2 o2 A3 0 ++ S, O2, A5, c5, m5, rfl, Lib.hid (by have h := HPM.out.own'.1; rw [h]; unfold kidsOf; rw [ndsOf_end (Nat.le_refl 0)]; rfl), Lib.hid (by have h := HPM.out; unfold kidsOf; rw [ndsOf_end (Nat.le_refl 0)]; exact h), Lib.hid (HRUN.out.on _ _ _ _ _ HT5.out), Lib.hid hszx⟩
                    case measure => omega
                  · obtain ⟨b3, o3, rfl⟩ := HNA.out (by omega)
                    have r3 : (0 : Int) < (n3 : Int) := by omega
                    have HOWN := Lib.hid HPM.out.own'.2
                    clear hx2 hx3
                    go_wp2_with (at_builtin; refine stopW ?_)
                    unfold StopW
                    refine wpList_append_own_at _ rfl _ _ 100 rfl base 99 i0 (.agg #[.pointer none, .pointer none]) 2 16 Tryd.underlying100 hi0 hz0 hz1 hz2 rfl (by decide) (.slice A5 m5 c5) m5 _ rfl (HOWN.out.alloc _) ⟨wx.heap.size, 0, none⟩ 1 1 [.pointer (some ⟨b3, o3, none⟩), .pointer none] rfl rfl (fun j u hu => by rw [Addr.add_lit, Nat.zero_add]; exact two_at _ _ _ _ j u hu) (by simp [Value.oneCell']) (by unfold maxLen; omega) (by omega) (by simp; omega) ?_
                    intro v' w5 hown5 hg5 _ hat5
                    obtain ⟨g5, c6, O5, rfl, hml, hr5, ht5, hk5, hg6, ho5⟩ := HPM.out.push' (x := .nd b3 o3) ((Bel.refl wx).alloc _) hown5 hg5 hat5
                    have hks : kidsOf true kd b2 o2 (some ⟨b3, o3, none⟩) n3 ++ S = .nd b3 o3 :: (muOf true kd b2 o2 ++ ndsOf (some ⟨b3, o3, none⟩) 1 n3 ++ S) := by
                      unfold kidsOf
                      rw [ndsOf_step (by omega)]
                      simp
                    have HR5 : Hid (RowT w5 base (kidsOf true kd b2 o2 (some ⟨b3, o3, none⟩) n3 ++ S) (.slice (some ⟨g5, 0, none⟩) (m5 + 1) c6) O5) := Lib.hid (by rw [hks]; exact hr5)
                    have HT6 := Lib.hid (HT5.out.trans ht5)
                    have HSZ : Hid (base ≤ w5.heap.size) := Lib.hid (Nat.le_trans HB3.out HT6.out.size)
                    clear hml hown5 hg5 hat5 hr5 ht5 hks hk5 hg6 ho5
                    go_wp2_with fail
                    go_roundg gk
                    case rel => exact ⟨_, O5, _, c6, m5 + 1, rfl, Lib.hid HR5.out.own'.1, HR5, Lib.hid (HRUN.out.on _ _ _ _ _ HT6.out), HSZ⟩
                    case measure => omega

end Go.Proofs.YtblgligagngpfaaDoor.Mu
namespace Go.Proofs.YtblgligagngpfaaDoor.Mu
open Go.ChangeShapes Go.WideShapes Go.ChangeAt Go.RowKit Go.Shelf

theorem through_read {M : Option (Nat × Array Value)} {fo : Nat} {caps : Array Value} {σ : Type} {N : σ → Int → Int → Int → Int → Nat → σ × Bool} {U : σ → Int → Int → σ} {Ok : Nat → Prop} {G : Int → Int → Int → Int → Nat → Prop} {Inv : σ → (Nat → Prop) → World → Prop} (C : ReadC Tryd.prog fo caps M N U G Ok Inv) (eg : ∀ args w, (callFunc fo args).run Tryd.prog w = .ok (.enter fo args) w) (em : ∀ gm cm, M = some (gm, cm) → ∀ args w, (callFunc gm args).run Tryd.prog w = .ok (.enter gm args) w)
    (k n v c : Int) (kids : Fo) (b o : Nat) (w : World) (m : Nat → Prop) (s : σ) (hf : FoAt w Ok (.cons k n v c kids .nil) b o) (hG : (Fo.cons k n v c kids .nil).All G) (hb : Ok b) (hI : Inv s m w) (hOk : ∀ j, Ok j → j < w.heap.size ∧ ¬ m j) (hsz : kids.size ≤ 1400000) :
    Calls Tryd.prog 27 #[.pointer (some ⟨b, o, none⟩), .func (.func fo) #[] caps, mval M] w fun e w' => e = .returned (.tuple #[]) ∧ ∃ m', Inv (runF N U M.isSome (.cons k n v c kids .nil) none s) m' w' ∧ Fr m w w' m' := by
  have hR : Runs Tryd.prog fo caps M (fun w' => ∃ m', Inv (runF N U M.isSome (.cons k n v c kids .nil) none s) m' w' ∧ Fr m w w' m') (0 + 2 * (Fo.cons k n v c kids .nil).size + (pmI none).length) ((ndsOf (some ⟨b, o, none⟩) 0 (Fo.cons k n v c kids .nil).len).take 1 ++ (pmI none ++ ndsOf (some ⟨b, o, none⟩) 1 (Fo.cons k n v c kids .nil).len) ++ []) w (fun _ => False) := by
    refine runs_fo C (.cons k n v c kids .nil) none b o [] 0 w (fun _ => False) m s hf hG (fun _ => hb) (fun _ _ _ _ e => by cases e) hI ⟨fun _ h => h.elim, hOk, C.lt s m w hI⟩ (by simp only [Fo.size, List.length_nil]; omega) fun w' O' m' hx hS hi => ?_
    intro w2 O2 ht
    have hmn : ∀ j, m' j → w2.heap[j]? = w'.heap[j]? := fun j hj => ht.keep j (C.lt _ _ _ hi j hj) (fun e => (hS.own j e).2.2 hj)
    exact ⟨m', C.keep _ _ _ _ hi ht.size hmn (fun j hj => ht.keep j (hS.ok j hj).1 (fun e => (hS.own j e).2.1 hj)), ht.os.trans hx.os, ht.tape.trans hx.tape, ht.output.trans hx.output, Nat.le_trans hx.size ht.size, fun j hj hn => (ht.keep j (Nat.lt_of_lt_of_le hj hx.size) (fun e => by rcases (hx.own j e).1 with h | h; exact h; omega)).trans (hx.keep j hj (fun h => h) hn), hx.mn⟩
  have e : (ndsOf (some ⟨b, o, none⟩) 0 (Fo.cons k n v c kids .nil).len).take 1 ++ (pmI none ++ ndsOf (some ⟨b, o, none⟩) 1 (Fo.cons k n v c kids .nil).len) ++ [] = [.nd b o] := by
    simp [Fo.len, pmI, ndsOf]
  rw [e] at hR
  match M, C, em, hR with
  | none, C, _, hR => exact through_one fo caps _ eg _ b o w hR
  | some (gm, cm), C, em, hR => exact through_two fo caps _ eg gm cm (em gm cm rfl) _ b o w hR
end Go.Proofs.YtblgligagngpfaaDoor.Mu
namespace Go.Proofs.YtblgligagngpfaaDoor.Mu
open Go.ChangeShapes Go.WideShapes Go.ChangeAt Go.RowKit Go.Shelf

attribute [local go_sem] Oper.semAt_some

/-- What is within a type, by its list's three parts. -/
def KidsAt (w : World) (Ok : Nat → Prop) (A : Option Addr) (len cap : Nat) (kids : Fo) : Prop := len = kids.len ∧ len ≤ cap ∧ (0 < len → ∃ b o, A = some ⟨b, o, none⟩ ∧ Ok b ∧ FoAt w Ok kids b o)
theorem FoAt.wide {w : World} {Ok Ok' : Nat → Prop} (h : ∀ j, Ok j → Ok' j) : ∀ (f : Fo) (b o : Nat), FoAt w Ok f b o → FoAt w Ok' f b o
  | .nil, _, _, _ => trivial
  | .cons k n v c kids rest, b, o, hf => by
    obtain ⟨A, cap, a1, a2, a3, a4, a5, a6, a7, a8⟩ := hf
    refine ⟨A, cap, a1, a2, a3, a4, a5, a6, fun h0 => ?_, FoAt.wide h rest b (o + 5) a8⟩
    obtain ⟨b', o', e, h1, h2⟩ := a7 h0
    exact ⟨b', o', e, h b' h1, FoAt.wide h kids b' o' h2⟩
theorem KidsAt.keep {w w' : World} {Ok : Nat → Prop} {A : Option Addr} {len cap : Nat} {kids : Fo} (h : KidsAt w Ok A len cap kids) (hk : ∀ j, Ok j → w'.heap[j]? = w.heap[j]?) : KidsAt w' Ok A len cap kids :=
  ⟨h.1, h.2.1, fun h0 => by
    obtain ⟨b, o, e, h1, h2⟩ := h.2.2 h0
    exact ⟨b, o, e, h1, FoAt.keep hk kids b o h1 h2⟩⟩
theorem KidsAt.wide {w : World} {Ok Ok' : Nat → Prop} {A : Option Addr} {len cap : Nat} {kids : Fo} (h : KidsAt w Ok A len cap kids) (hw : ∀ j, Ok j → Ok' j) : KidsAt w Ok' A len cap kids :=
  ⟨h.1, h.2.1, fun h0 => by
    obtain ⟨b, o, e, h1, h2⟩ := h.2.2 h0
    exact ⟨b, o, e, hw b h1, FoAt.wide hw kids b o h2⟩⟩
abbrev Old (w : World) (j : Nat) : Prop := j < w.heap.size
theorem KidsAt.bel {w w' : World} {A : Option Addr} {len cap : Nat} {kids : Fo} (h : KidsAt w (Old w) A len cap kids) (hb : Bel w w') : KidsAt w' (Old w') A len cap kids :=
  (h.keep fun _ hj => hb.block _ hj).wide fun _ hj => Nat.lt_of_lt_of_le hj hb.size
/-- A type in a box. -/
theorem box_fo {w : World} {Ok : Nat → Prop} {b : Nat} {k n v c : Int} {A : Option Addr} {len cap : Nat} {kids : Fo} {t : TypeId} (hb : w.heap[b]? = some (.cells #[.int .u8 k, .int .i64 n, .int .i64 v, .int .u8 c, .slice A len cap] t (0, 0))) (h : KidsAt w Ok A len cap kids) : FoAt w Ok (.cons k n v c kids .nil) b 0 := by
  obtain ⟨e, h1, h2⟩ := h
  subst e
  exact ⟨A, cap, by simp [World.cell?, hb], by simp [World.cell?, hb], by simp [World.cell?, hb], by simp [World.cell?, hb], by simp [World.cell?, hb], h1, h2, trivial⟩

theorem wrap64_id {x : Int} (h0 : -9223372036854775808 ≤ x) (h1 : x ≤ 9223372036854775807) : wrap64 x = x := by unfold wrap64; omega
def cntN (s : Int) (_ _ _ _ : Int) (_ : Nat) : Int × Bool := (wrap64 (s + 1), true)
def noU {σ : Type} (s : σ) (_ _ : Int) : σ := s
def CntI (cb : Nat) (s : Int) (w : World) : Prop := w.heap[cb]? = some (.cells #[.int .i64 s] 3 (0, 0))
theorem cnt_run : ∀ (f : Fo) (s : Int), 0 ≤ s → s + f.size ≤ 9223372036854775807 → runF cntN noU false f none s = s + f.size
  | .nil, s, _, _ => by simp [runF, Fo.size]
  | .cons k n v c kids rest, s, h0, h1 => by
    simp only [Fo.size] at h1
    have hw : wrap64 (s + 1) = s + 1 := wrap64_id (by omega) (by omega)
    simp only [runF, cntN, hw, if_true, Bool.false_eq_true, and_false, if_false, Fo.size]
    rw [cnt_run kids (s + 1) (by omega) (by omega), cnt_run rest _ (by omega) (by omega)]
    omega
set_option maxHeartbeats 1000000 in
theorem cnt_closure (cb : Nat) (s : Int) (p : Value) (w : World) (h : CntI cb s w) : Calls Tryd.prog 49 #[p, .pointer (some ⟨cb, 0, none⟩)] w fun e w1 => e = .returned (.bool true) ∧ CntI cb (wrap64 (s + 1)) w1 ∧ Fr (fun j => j = cb) w w1 (fun j => j = cb) := by
  have c0 : w.cell? ⟨cb, 0, none⟩ = some (.int .i64 s) := by unfold CntI at h; simp [World.cell?, h]
  have f0 : w.frozen? ⟨cb, 0, none⟩ = false := by unfold CntI at h; simp [World.frozen?, h]
  have H := Lib.hid h
  clear h
  go_enter Tryd.func49, Tryd.ntmps49
  go_wp2_with fail
  go_ret
  exact ⟨rfl, by unfold CntI; rw [heap_setCell_same w cb 0 _ _ _ H.out]; simp, rfl, rfl, rfl, by simp [World.setCell], fun j _ hn => heap_setCell_other w _ j _ (fun e => hn e), fun j h => .inl h⟩
theorem cnt_read (cb : Nat) (Ok : Nat → Prop) : ReadC Tryd.prog 49 #[.pointer (some ⟨cb, 0, none⟩)] none cntN noU (fun _ _ _ _ _ => True) Ok (fun s m w => CntI cb s w ∧ m = fun j => j = cb) where
  keep := fun s m w w' h _ hk _ => ⟨(hk cb (by rw [h.2])).trans h.1, h.2⟩
  lt := fun s m w h j hj => by rw [h.2] at hj; rw [show j = cb from hj]; exact (Array.getElem?_eq_some_iff.1 h.1).1
  node := fun s m w b o k n v c A len cap hI _ _ _ _ _ _ _ => (cnt_closure cb s _ w hI.1).mono fun e w1 ⟨h1, h2, h3⟩ => ⟨h1, _, ⟨h2, rfl⟩, by rw [hI.2]; exact h3⟩
  mu := fun gm cm e => by cases e
set_option maxRecDepth 100000 in
set_option maxHeartbeats 1000000 in
theorem size_any (k n v c : Int) (A : Option Addr) (len cap : Nat) (kids : Fo) (w : World) (h : KidsAt w (Old w) A len cap kids) (hsz : kids.size ≤ 1400000) :
    Calls Tryd.prog 24 #[.agg #[.int .u8 k, .int .i64 n, .int .i64 v, .int .u8 c, .slice A len cap]] w fun e w' => e = .returned (.int .i64 (1 + kids.size : Nat)) ∧ Bel w w' := by
  have H := Lib.hid h
  clear h
  go_enter Tryd.func24, Tryd.ntmps24
  go_wp2_with fail
  obtain ⟨q1, q2⟩ := blk2 w (.cells #[.int .u8 k, .int .i64 n, .int .i64 v, .int .u8 c, .slice A len cap] 27) (.cells #[.int .i64 0] 3)
  have hb2 : Bel w ((w.alloc (.cells #[.int .u8 k, .int .i64 n, .int .i64 v, .int .u8 c, .slice A len cap] 27)).alloc (.cells #[.int .i64 0] 3)) := ((Bel.refl w).alloc _).alloc _
  have hs2 : ((w.alloc (.cells #[.int .u8 k, .int .i64 n, .int .i64 v, .int .u8 c, .slice A len cap] 27)).alloc (.cells #[.int .i64 0] 3)).heap.size = w.heap.size + 2 := by simp
  obtain ⟨w2, hw2⟩ : ∃ w2, w2 = (w.alloc (.cells #[.int .u8 k, .int .i64 n, .int .i64 v, .int .u8 c, .slice A len cap] 27)).alloc (.cells #[.int .i64 0] 3) := ⟨_, rfl⟩
  rw [← hw2] at q1 q2 hb2 hs2 ⊢
  have hk2 : KidsAt w2 (fun j => j ≤ w.heap.size) A len cap kids := (H.out.keep fun _ hj => hb2.block _ hj).wide fun _ hj => Nat.le_of_lt hj
  refine (through_read (M := none) (cnt_read (w.heap.size + 1) _) (enters_of Tryd.func49 (by kernel_rfl) rfl) (fun _ _ e => by cases e) k n v c kids w.heap.size 0 w2 (fun j => j = w.heap.size + 1) 0 (Ok := fun j => j ≤ w.heap.size) (box_fo q1 hk2) (Fo.all_true _) (Nat.le_refl _) ⟨q2, rfl⟩ (fun j hj => ⟨by omega, fun e => by omega⟩) hsz).mono ?_
  rintro e w3 ⟨rfl, m3, ⟨hI3, _⟩, hfr⟩
  have e3 : runF cntN noU false (.cons k n v c kids .nil) none 0 = ((1 + kids.size : Nat) : Int) := by
    rw [cnt_run _ 0 (Int.le_refl _) (by simp only [Fo.size]; omega)]
    simp [Fo.size]
  have hI4 : CntI (w.heap.size + 1) ((1 + kids.size : Nat) : Int) w3 := by rw [← e3]; exact hI3
  have c3 : w3.cell? ⟨w.heap.size + 1, 0, none⟩ = some (.int .i64 ((1 + kids.size : Nat) : Int)) := by unfold CntI at hI4; simp [World.cell?, hI4]
  have hB3 : Bel w w3 := ⟨hfr.os.trans hb2.os, hfr.tape.trans hb2.tape, hfr.output.trans hb2.output, Nat.le_trans hb2.size hfr.size, fun j hj => (hfr.keep j (by omega) (by omega)).trans (hb2.block j hj)⟩
  have HB3 := Lib.hid hB3
  obtain ⟨r, hr⟩ : ∃ r, r = ((1 + kids.size : Nat) : Int) := ⟨_, rfl⟩
  rw [← hr] at c3
  have HR := Lib.hid hr
  clear q1 q2 hb2 hs2 hw2 hk2 hI3 hfr e3 hI4 hB3 hr
  go_wp2_with fail
  go_ret
  exact ⟨by rw [← HR.out]; rfl, HB3.out⟩
end Go.Proofs.YtblgligagngpfaaDoor.Mu

