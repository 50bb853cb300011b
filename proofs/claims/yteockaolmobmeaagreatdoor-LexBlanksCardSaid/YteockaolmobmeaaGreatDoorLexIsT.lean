/-
  Whether a token is one: walked.
-/
import Derived.Test.YteockaolmobmeaaGreatDoorLexTab
import Derived.Deep.DeepCutAuto
import Derived.Lib.SmallJoins
import Derived.Test.YteockaolmobmeaaGreatDoorLexVal
import Derived.Test.YteockaolmobmeaaGreatDoorLexToks
import Derived.Test.YteockaolmobmeaaGreatDoorLxUtf
namespace Go.Proofs.YteockaolmobmeaaGreatDoor.Mu
open Go.RowKit Go.Shelf
set_option maxRecDepth 100000

theorem fTok : ((Tryz.prog.fieldsOf 44).toList.map fun f => (f.name, f.type, f.offset)) = [("Kind", 5, 0), ("Text", 9, 1), ("N", 2, 2), ("At", 32, 3)] := by kernel_rfl
theorem map4 {α β : Type} {f : α → β} {l : List α} {x y z u : β} (h : l.map f = [x, y, z, u]) : ∃ a b c d, l = [a, b, c, d] ∧ f a = x ∧ f b = y ∧ f c = z ∧ f d = u := by
  match l, h with
  | [a, b, c, d], h => simp at h; exact ⟨a, b, c, d, rfl, h.1, h.2.1, h.2.2.1, h.2.2.2⟩
theorem tok_in (x y : Tn) (w : World) : (Op.equalIn 10000 44 (.agg #[.int .u8 x.k, .string ⟨x.s.toArray⟩, .int .i64 x.n, .int .i64 x.p.a, .int .i64 x.p.l, .int .i64 x.p.c]) (.agg #[.int .u8 y.k, .string ⟨y.s.toArray⟩, .int .i64 y.n, .int .i64 y.p.a, .int .i64 y.p.l, .int .i64 y.p.c])).run Tryz.prog w = .ok (samO true x y) w := by
  rw [run_equalIn_struct w 9999 44 _ _ (by kernel_rfl) (by kernel_rfl)]
  obtain ⟨a, b, c, d, e, ea, eb, ec, ed⟩ := map4 fTok
  simp only [Prod.mk.injEq] at ea eb ec ed
  obtain ⟨a0, a1, a2⟩ := ea
  obtain ⟨b0, b1, b2⟩ := eb
  obtain ⟨c0, c1, c2⟩ := ec
  obtain ⟨d0, d1, d2⟩ := ed
  rw [e]
  have p0 : ∀ x0 x1 x2 x3 x4 x5 : Value, (part 5 #[x0, x1, x2, x3, x4, x5] 0).run Tryz.prog w = .ok x0 w := fun _ _ _ _ _ _ => by kernel_rfl
  have p1 : ∀ x0 x1 x2 x3 x4 x5 : Value, (part 9 #[x0, x1, x2, x3, x4, x5] 1).run Tryz.prog w = .ok x1 w := fun _ _ _ _ _ _ => by kernel_rfl
  have p2 : ∀ x0 x1 x2 x3 x4 x5 : Value, (part 2 #[x0, x1, x2, x3, x4, x5] 2).run Tryz.prog w = .ok x2 w := fun _ _ _ _ _ _ => by kernel_rfl
  have p3 : ∀ x0 x1 x2 x3 x4 x5 : Value, (part 32 #[x0, x1, x2, x3, x4, x5] 3).run Tryz.prog w = .ok (.agg #[x3, x4, x5]) w := fun _ _ _ _ _ _ => by kernel_rfl
  have n0 : ¬ ("Kind" : String) = "_" := by decide +kernel
  have n1 : ¬ ("Text" : String) = "_" := by decide +kernel
  have n2 : ¬ ("N" : String) = "_" := by decide +kernel
  have n3 : ¬ ("At" : String) = "_" := by decide +kernel
  have g0 := run_equalIn_int (P := Tryz.prog) w 9998 5 .u8 .u8 x.k y.k Tryz.underlying5
  have g1 := run_equalIn_string (P := Tryz.prog) w 9998 9 ⟨x.s.toArray⟩ ⟨y.s.toArray⟩ Tryz.underlying9
  have g2 := run_equalIn_int (P := Tryz.prog) w 9998 2 .i64 .i64 x.n y.n Tryz.underlying2
  have g3 := pos_eql 9997 x.p y.p w
  simp only [Op.eqFields, a0, a1, a2, b0, b1, b2, c0, c1, c2, d0, d1, d2, ne_eq, n0, n1, n2, n3, not_false_eq_true, if_true, Sem.run_bind, p0, p1, p2, p3, Result.andThen_ok, g0, g1, g2, g3, Sem.run_ite, Sem.run_pure]
  have hs : ((⟨x.s.toArray⟩ : ByteArray).toList == (⟨y.s.toArray⟩ : ByteArray).toList) = decide (x.s = y.s) := by
    rw [Bool.eq_iff_iff, beq_iff_eq, decide_eq_true_iff, ByteArray.toList_eq, ByteArray.toList_eq]
  simp only [hs]
  obtain ⟨k, s, n, p⟩ := x
  obtain ⟨k', s', n', p'⟩ := y
  unfold samO
  by_cases h1 : k = k' <;> by_cases h2 : s = s' <;> by_cases h3 : n = n' <;> by_cases h4 : p = p' <;> simp [h1, h2, h3, h4]
open Classical in
set_option maxHeartbeats 4000000 in
theorem isToken_any (k : Int) (s : List UInt8) (n a l c : Int) (hs : s.length ≤ 9223372036854775807) (h0 : -9223372036854775808 ≤ n) (h1 : n ≤ 9223372036854775807) (w : World) (htab : Tbl w) :
    Calls Tryz.prog 28 #[.agg #[.int .u8 k, .string ⟨s.toArray⟩, .int .i64 n, .int .i64 a, .int .i64 l, .int .i64 c]] w fun e w' => e = .returned (.bool (decide (mayTk (k, s, n)))) ∧ Bel w w' := by
  obtain ⟨ans, hans⟩ : ∃ ans, ans = decide (mayTk (k, s, n)) := ⟨_, rfl⟩
  rw [← hans]
  have hb1 : Bel w (w.alloc (.cells #[.int .u8 k, .string ⟨s.toArray⟩, .int .i64 n, .int .i64 a, .int .i64 l, .int .i64 c] 44)) := (Bel.refl w).alloc _
  have q1 := blk1 w (.cells #[.int .u8 k, .string ⟨s.toArray⟩, .int .i64 n, .int .i64 a, .int .i64 l, .int .i64 c] 44)
  have HB1 := Lib.hid hb1
  have HQ1 := Lib.hid q1
  have HTB := Lib.hid htab
  by_cases k4 : k = 4
  · have hv : Hid (∀ W, Bel w W → Calls Tryz.prog 40 #[.string ⟨s.toArray⟩] W fun e w' => e = .returned (.bool (Lib.validD s)) ∧ Bel W w') := Lib.hid fun W hW => valid_any s hs W (htab.bel hW)
    have ha : ans = (decide (n = 0) && Lib.validD s) := by
      rw [hans, Bool.eq_iff_iff, decide_eq_true_iff, Bool.and_eq_true, decide_eq_true_iff, valid_cps]
      unfold mayTk
      simp only [k4]
      constructor
      · rintro (⟨h, _⟩ | ⟨h, _⟩ | ⟨h, _⟩ | ⟨_, h, h2⟩ | ⟨h, _⟩ | ⟨h, _⟩)
        all_goals first | exact absurd h (by decide) | exact ⟨h2, h⟩
      · rintro ⟨h2, h⟩; exact .inr (.inr (.inr (.inl ⟨trivial, h, h2⟩)))
    have HA := Lib.hid ha
    clear ha hans hb1 q1 htab
    subst k4
    go_enter Tryz.func28, Tryz.ntmps28
    by_cases hn : n = 0
    · subst hn
      have ha : ans = Lib.validD s := by rw [HA.out]; simp
      subst ha
      go_wp2_with (go_at_call 40; refine (hv.out _ HB1.out).mono ?_; rintro e w2 ⟨rfl, hb2⟩; (have HB2 := Lib.hid hb2); clear hb2)
      go_ret
      exact ⟨rfl, HB1.out.on HB2.out⟩
    · have dn : (n == 0) = false := by simp [hn]
      have ha : ans = false := by rw [HA.out]; simp [hn]
      subst ha
      go_wp2
      go_ret
      exact ⟨rfl, HB1.out⟩
  · have hwr : Hid (∀ W, Bel w W → Calls Tryz.prog 29 #[.agg #[.int .u8 k, .string ⟨s.toArray⟩, .int .i64 n, .int .i64 a, .int .i64 l, .int .i64 c]] W fun e w' => e = .returned (.string ⟨(wriB k s n).toArray⟩) ∧ Bel W w') := Lib.hid fun W hW => written_plain k s n a l c k4 h0 h1 W (htab.bel hW)
    obtain ⟨wr, hwrq⟩ : ∃ wr, wr = wriB k s n := ⟨_, rfl⟩
    rw [← hwrq] at hwr
    obtain ⟨cs, rest, hc⟩ := cps_ex _ wr (Nat.le_refl _)
    have hiff := tok_iff (k := k) (n := n) (s := s) (wr := wr) (rest := rest) (cs := cs) k4 (fun hn0 => by
      rw [hwrq]; unfold wriB putB
      by_cases k3 : k = 3
      · rw [if_pos k3, if_pos k3, itoa_dig hn0]
      · rw [if_neg k3, if_neg k3, if_neg k4]) hc
    obtain ⟨O, hO⟩ : ∃ O, O = tokO wr.length cs rest := ⟨_, rfl⟩
    rw [← hO] at hiff
    have HTO : Hid (∀ W, Calls Tryz.prog 19 #[.string ⟨wr.toArray⟩] W (GTo O W)) := Lib.hid fun W => by
      have := tokens_any (s := ⟨wr.toArray⟩) (cs := cs) (rest := rest) hc W
      rw [show (⟨wr.toArray⟩ : ByteArray).size = wr.length by simp [ByteArray.size], ← hO] at this
      exact this
    have ha : ans = decide (O.e = 0 ∧ O.l.map Tn.b = [(k, s, n)]) := by rw [hans]; exact decide_eq_decide.2 hiff.symm
    have HA := Lib.hid ha
    have d4 : (k == 4) = false := by simp [k4]
    clear ha hans hb1 q1 htab hwrq hc hiff hO
    go_enter Tryz.func28, Tryz.ntmps28
    obtain ⟨⟨t0, t1, t2, t3, t4, t5⟩, f0, f1, f2, f3, f4, f5⟩ := cells6 HQ1.out
    go_wp2_with fail
    refine (hwr.out _ HB1.out).mono ?_
    rintro e w2 ⟨rfl, hb2⟩
    have HQ2 := Lib.hid (hb2.blk HQ1.out)
    have HB2 := Lib.hid (HB1.out.on hb2)
    clear hb2 t0 t1 t2 t3 t4 t5 f0 f1 f2 f3 f4 f5
    go_wp2_with fail
    refine (HTO.out _).mono ?_
    rintro e w3 ⟨hb3, A, m, cc, rfl, hrt⟩
    have HQ3 := Lib.hid (hb3.blk HQ2.out)
    have HB3 := Lib.hid (HB2.out.on hb3)
    have HRT := Lib.hid hrt
    have hml := hrt.1
    have HML := Lib.hid hml
    clear hb3 hrt
    by_cases he : O.e = 0
    · by_cases hm1 : m = 1
      · subst hm1
        obtain ⟨b, off, rfl, hb, hcc⟩ := HRT.out.2 (by omega)
        obtain ⟨x, hx⟩ : ∃ x, O.l = [x] := by
          match hl : O.l, hml with
          | [x], _ => exact ⟨x, rfl⟩
        have hx0 := hcc 0 x (by rw [hx]; rfl)
        have HX := Lib.hid hx
        obtain ⟨x0, x1, x2, x3, x4, x5⟩ := hx0
        simp only [Nat.zero_mul, Nat.add_zero] at x0 x1 x2 x3 x4 x5
        have hqlt := (Array.getElem?_eq_some_iff.1 HQ3.out).1
        clear hcc hml hx
        obtain ⟨⟨t0, t1, t2, t3, t4, t5⟩, f0, f1, f2, f3, f4, f5⟩ := cells6 HQ3.out
        go_wp2_with fail
        refine wp_abs' ?_
        intro W hW
        have HBW : Hid (Bel w W) := by
          rw [hW]
          exact Lib.hid ((((HB3.out.set_ (Nat.le_refl _) _).set_ (Nat.le_refl _) _).set_ (Nat.le_refl _) _).alloc _)
        have HQ7 : Hid (W.heap[w.heap.size]? = some (.cells #[.int .u8 k, .string ⟨s.toArray⟩, .int .i64 n, .int .i64 x.p.a, .int .i64 x.p.l, .int .i64 x.p.c] 44 (0, 0))) := by
          rw [hW]
          exact Lib.hid (Bel.blk ((Bel.refl _).alloc _) (Joins.block_setCell (Joins.block_setCell (Joins.block_setCell HQ3.out _) _) _))
        have HXW : Hid (TnAt W b off x) := by
          by_cases hbb : b = w.heap.size
          · subst hbb
            have ho : off = 0 := by
              have := x5
              unfold World.cell? at this
              rw [HQ3.out] at this
              have := (Array.getElem?_eq_some_iff.1 this).1
              simp at this; omega
            subst ho
            obtain ⟨⟨u0, u1, u2, u3, u4, u5⟩, -⟩ := cells6 HQ7.out
            simp only [Nat.zero_add] at x0 x1 x2 x3 x4 x5
            have e0 := x0.symm.trans t0
            have e1 := x1.symm.trans t1
            have e2 := x2.symm.trans t2
            exact Lib.hid ⟨u0.trans e0.symm, u1.trans e1.symm, u2.trans e2.symm, u3, u4, u5⟩
          · have key : ∀ o, W.cell? ⟨b, o, none⟩ = w3.cell? ⟨b, o, none⟩ := fun o => by
              rw [hW]
              unfold World.cell?
              rw [show ∀ (V : World) (o : Obj), b < V.heap.size → (V.alloc o).heap[b]? = V.heap[b]? from fun V o h => ((Bel.refl V).alloc o).block b h]
              · rw [Below.heap_setCell _ _ _ _ hbb, Below.heap_setCell _ _ _ _ hbb, Below.heap_setCell _ _ _ _ hbb]
              · exact Nat.lt_of_lt_of_le hb (by simp [World.setCell])
            exact Lib.hid ⟨(key _).trans x0, (key _).trans x1, (key _).trans x2, (key _).trans x3, (key _).trans x4, (key _).trans x5⟩
        have ha : ans = samO true x ⟨k, s, n, x.p⟩ := by
          rw [HA.out, HX.out]
          unfold samO Tn.b
          simp [he, Bool.and_assoc]
        have hq : ∀ w, (Op.equalIn 10000 44 (.agg #[.int .u8 x.k, .string ⟨x.s.toArray⟩, .int .i64 x.n, .int .i64 x.p.a, .int .i64 x.p.l, .int .i64 x.p.c]) (.agg #[.int .u8 k, .string ⟨s.toArray⟩, .int .i64 n, .int .i64 x.p.a, .int .i64 x.p.l, .int .i64 x.p.c])).run Tryz.prog w = .ok ans w := fun w => by rw [ha]; exact tok_in x ⟨k, s, n, x.p⟩ w
        clear hW x0 x1 x2 x3 x4 x5 t0 t1 t2 t3 t4 t5 f0 f1 f2 f3 f4 f5 hb ha
        obtain ⟨x0, x1, x2, x3, x4, x5⟩ := HXW.out
        obtain ⟨⟨t0, t1, t2, t3, t4, t5⟩, -⟩ := cells6 HQ7.out
        go_region
        go_wp2
        go_ret
        exact ⟨rfl, HBW.out.drew⟩
      · have ha : ans = false := by
          rw [HA.out]
          refine decide_eq_false_iff_not.2 fun h => hm1 ?_
          have := congrArg List.length h.2
          rw [List.length_map] at this
          rw [HML.out, this]; rfl
        subst ha
        have dm : ((m : Int) == 1) = false := by simp; omega
        obtain ⟨⟨t0, t1, t2, t3, t4, t5⟩, f0, f1, f2, f3, f4, f5⟩ := cells6 HQ3.out
        go_wp2
        go_ret
        exact ⟨rfl, HB3.out.alloc _⟩
    · have ha : ans = false := by
        rw [HA.out]
        exact decide_eq_false_iff_not.2 fun h => he h.1
      subst ha
      have de : (O.e == 0) = false := by simp [he]
      obtain ⟨⟨t0, t1, t2, t3, t4, t5⟩, f0, f1, f2, f3, f4, f5⟩ := cells6 HQ3.out
      go_wp2
      go_ret
      exact ⟨rfl, HB3.out.alloc _⟩
end Go.Proofs.YteockaolmobmeaaGreatDoor.Mu

