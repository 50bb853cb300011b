/-
  Sets of places: a bit each, in three words.
  What from hands to a loop: where the arrows from a variable lead.
  slices.Backward at lists of numbers: what it hands to a loop.
-/
import Derived.Test.YtlbachjhhjjmfaaGraph
import Derived.Laws.BitsLemmas
namespace Go.Proofs.Ytlbachjhhjjmfaa.Mu
open Go.ChangeShapes Go.WideShapes Go.ChangeAt Go.RowKit Go.Shelf

attribute [local go_sem] Oper.semAt_some

theorem wraps64 (n : Int) (h₀ : 0 ≤ n) (h₁ : n < 2 ^ 64) : IntKind.u64.wrap n = n := by rw [IntKind.wrap_u64]; omega
theorem and64 (a b : Nat) (ha : a < 2 ^ 64) (hb : b < 2 ^ 64) : bits .and .u64 (a : Int) (b : Int) = ((a &&& b : Nat) : Int) := (bits_nat .u64 64 (by decide) wraps64 a b ha hb).1
theorem or64 (a b : Nat) (ha : a < 2 ^ 64) (hb : b < 2 ^ 64) : bits .or .u64 (a : Int) (b : Int) = ((a ||| b : Nat) : Int) := (bits_nat .u64 64 (by decide) wraps64 a b ha hb).2
theorem has_bit (x r : Nat) (hx : x < 2 ^ 64) : (bits .and .u64 ((x : Int) / 2 ^ r) 1 == 1) = x.testBit r := by
  have e : ((x : Int) / 2 ^ r) = ((x / 2 ^ r : Nat) : Int) := by simp
  have h := and64 (x / 2 ^ r) 1 (Nat.lt_of_le_of_lt (Nat.div_le_self _ _) hx) (by decide)
  rw [e]
  have h' : bits .and .u64 ((x / 2 ^ r : Nat) : Int) 1 = (((x / 2 ^ r) &&& 1 : Nat) : Int) := h
  rw [h', Nat.and_one_is_mod, Nat.testBit_eq_decide_div_mod_eq]
  have := Nat.mod_lt (x / 2 ^ r) (y := 2) (by decide)
  rcases Nat.mod_two_eq_zero_or_one (x / 2 ^ r) with e | e
  · rw [e]; rfl
  · rw [e]; rfl
/-- Whether i is in the set. -/
def mem3 (x y z i : Nat) : Bool := Nat.testBit (if i < 64 then x else if i < 128 then y else z) (i % 64)
set_option maxRecDepth 100000 in
theorem has_any (x y z : Nat) (hx : x < 2 ^ 64) (hy : y < 2 ^ 64) (hz : z < 2 ^ 64) (i : Nat) (hi : i ≤ 150) (w : World) : Calls Try.prog 50 #[.agg #[.int .u64 x, .int .u64 y, .int .u64 z], .int .i64 i] w fun e w' => e = .returned (.bool (mem3 x y z i)) ∧ Bel w w' := by
  obtain ⟨r, hr⟩ : ∃ r : Nat, r = i % 64 := ⟨_, rfl⟩
  have e2 : (i : Int) % 64 = (r : Int) := by omega
  have hr0 : (0 : Int) ≤ (r : Int) := by omega
  have hr1 : (r : Int) < 64 := by omega
  have HR := Lib.hid hr
  have HX := Lib.hid hx
  have HY := Lib.hid hy
  have HZ := Lib.hid hz
  clear hr hx hy hz
  have hcases : i / 64 = 0 ∨ i / 64 = 1 ∨ i / 64 = 2 := by omega
  rcases hcases with e1 | e1 | e1
  · have e1' : (i : Int) / 64 = 0 := by omega
    have HE := Lib.hid e1
    go_enter Try.func50, Try.ntmps50
    go_wp2_with fail
    go_ret
    refine ⟨?_, (Bel.refl w).alloc _⟩
    have h1 := HE.out
    rw [has_bit x r HX.out, mem3, if_pos (by omega), HR.out]
    rfl
  · have e1' : (i : Int) / 64 = 1 := by omega
    have HE := Lib.hid e1
    go_enter Try.func50, Try.ntmps50
    go_wp2_with fail
    go_ret
    refine ⟨?_, (Bel.refl w).alloc _⟩
    have h1 := HE.out
    rw [has_bit y r HY.out, mem3, if_neg (by omega), if_pos (by omega), HR.out]
    rfl
  · have e1' : (i : Int) / 64 = 2 := by omega
    have HE := Lib.hid e1
    go_enter Try.func50, Try.ntmps50
    go_wp2_with fail
    go_ret
    refine ⟨?_, (Bel.refl w).alloc _⟩
    have h1 := HE.out
    rw [has_bit z r HZ.out, mem3, if_neg (by omega), if_neg (by omega), HR.out]
    rfl
/-- Sets in memory: three words each. -/
def ArrS (W : World) (g : Nat) (ws : List Nat) : Prop := W.heap[g]? = some (.cells (ws.map fun (x : Nat) => Value.int .u64 (x : Int)).toArray 94 (0, 0))
theorem ArrS.cell {W : World} {g : Nat} {ws : List Nat} (h : ArrS W g ws) {j x : Nat} (hx : ws[j]? = some x) : W.cell? ⟨g, j, none⟩ = some (.int .u64 x) := by
  unfold ArrS at h
  simp [World.cell?, h, hx]
theorem ArrS.frozen {W : World} {g : Nat} {ws : List Nat} (h : ArrS W g ws) (j : Nat) : W.frozen? ⟨g, j, none⟩ = false := by
  unfold ArrS at h
  simp [World.frozen?, h]
theorem ArrS.set_ {W : World} {g : Nat} {ws : List Nat} (h : ArrS W g ws) (j x : Nat) : ArrS (W.setCell ⟨g, j, none⟩ (.int .u64 x)) g (ws.set j x) := by
  unfold ArrS at *
  rw [heap_setCell_same W g j _ 94 (.int .u64 x) h]
  simp [List.map_set]
theorem grown_set {w : World} (g j : Nat) (v : Value) : w.grownBy (w.setCell ⟨g, j, none⟩ v) (some g) := ⟨rfl, rfl, rfl, by simp [World.setCell], fun k _ hne => heap_setCell_other w _ k v (fun e => hne (by rw [e]))⟩
theorem grown_trans {A B C : World} {g : Nat} (h : A.grownBy B (some g)) (k : B.grownBy C (some g)) : A.grownBy C (some g) := ⟨k.os.trans h.os, k.tape.trans h.tape, k.output.trans h.output, Nat.le_trans h.size k.size, fun j hj hn => (k.block j (Nat.lt_of_lt_of_le hj h.size) hn).trans (h.block j hj hn)⟩
theorem grown_drew {A B : World} {g : Nat} (h : A.grownBy B (some g)) : A.grownBy B.drew (some g) := ⟨h.os, h.tape, h.output, h.size, h.block⟩
set_option maxRecDepth 100000 in
theorem setAdd_any (g off i x : Nat) (ws : List Nat) (hi : i ≤ 150) (w : World) (hs : ArrS w g ws) (hx : ws[off + i / 64]? = some x) (hxl : x < 2 ^ 64) : Calls Try.prog 53 #[.pointer (some ⟨g, off, none⟩), .int .i64 i] w fun e w' => (∃ v, e = .returned v) ∧ ArrS w' g (ws.set (off + i / 64) (x ||| 2 ^ (i % 64))) ∧ w.grownBy w' (some g) := by
  obtain ⟨r, hr⟩ : ∃ r : Nat, r = i % 64 := ⟨_, rfl⟩
  obtain ⟨q, hq⟩ : ∃ q : Nat, q = i / 64 := ⟨_, rfl⟩
  rw [← hq] at hx
  rw [← hr, ← hq]
  have e2 : (i : Int) % 64 = (r : Int) := by omega
  have e1 : (i : Int) / 64 = (q : Int) := by omega
  have hr0 : (0 : Int) ≤ (r : Int) := by omega
  have hr1 : (r : Int) < 64 := by omega
  have hq0 : (0 : Int) ≤ (q : Int) := by omega
  have hq1 : (q : Int) < 3 := by omega
  have c0 := hs.cell hx
  have f0 := hs.frozen (off + q)
  have HS := Lib.hid hs
  have HX := Lib.hid hxl
  clear hr hq hs hx hxl
  go_enter Try.func53, Try.ntmps53
  go_wp2_with fail
  go_region
  all_goals
    go_end0
    have h1 : (IntKind.u64.wrap (2 ^ r) : Int) = ((2 ^ r : Nat) : Int) := by
      have e : ((2 : Int) ^ r) = ((2 ^ r : Nat) : Int) := by simp
      rw [e]
      exact wraps64 _ (Int.natCast_nonneg _) (by exact_mod_cast Nat.pow_lt_pow_right (by decide) (by omega))
    rw [h1, or64 x (2 ^ r) HX.out (Nat.pow_lt_pow_right (by decide) (by omega))]
    have h2 := grown_set (w := w) g (off + q) (.int .u64 ((x ||| 2 ^ r : Nat) : Int))
    exact ⟨⟨_, rfl⟩, HS.out.set_ (off + q) (x ||| 2 ^ r), ⟨h2.os, h2.tape, h2.output, h2.size, h2.block⟩⟩
/-- k words of a set are joined in. -/
def orW (ws : List Nat) (off a b c x y z : Nat) (k : Nat) : List Nat :=
  if k = 0 then ws else if k = 1 then ws.set off (a ||| x) else if k = 2 then (ws.set off (a ||| x)).set (off + 1) (b ||| y) else ((ws.set off (a ||| x)).set (off + 1) (b ||| y)).set (off + 2) (c ||| z)
theorem ix_any (x y z : Int) (W : World) : (Instr.index 94 (.agg #[.int .u64 x, .int .u64 y, .int .u64 z]) (.int .i64 0)).run Try.prog W = .ok (.int .u64 x) W ∧ (Instr.index 94 (.agg #[.int .u64 x, .int .u64 y, .int .u64 z]) (.int .i64 1)).run Try.prog W = .ok (.int .u64 y) W ∧ (Instr.index 94 (.agg #[.int .u64 x, .int .u64 y, .int .u64 z]) (.int .i64 2)).run Try.prog W = .ok (.int .u64 z) W :=
  ⟨by simp [Instr.index, go_sem], by simp [Instr.index, go_sem], by simp [Instr.index, go_sem]⟩
set_option maxRecDepth 100000 in
set_option maxHeartbeats 1000000 in
theorem join_any (g off x y z a b c : Nat) (ws : List Nat) (w : World) (hs : ArrS w g ws) (ha : ws[off]? = some a) (hb : ws[off + 1]? = some b) (hc : ws[off + 2]? = some c) (hl : a < 2 ^ 64 ∧ b < 2 ^ 64 ∧ c < 2 ^ 64) (hx : x < 2 ^ 64 ∧ y < 2 ^ 64 ∧ z < 2 ^ 64) : Calls Try.prog 57 #[.pointer (some ⟨g, off, none⟩), .agg #[.int .u64 x, .int .u64 y, .int .u64 z]] w fun e w' => (∃ v, e = .returned v) ∧ ArrS w' g (orW ws off a b c x y z 3) ∧ Mv (fun j => j = g) w w' := by
  have HS := Lib.hid hs
  have HL := Lib.hid hl
  have HX := Lib.hid hx
  have HA := Lib.hid (And.intro ha (And.intro hb hc))
  clear hs hl hx ha hb hc
  go_enter Try.func57, Try.ntmps57
  go_wp2_with fail
  go_loopw [7] (fun i wr => ∃ k : Nat, k ≤ 3 ∧ i = .int .i64 k ∧ Hid (ArrS wr g (orW ws off a b c x y z k)) ∧ Hid ((w.alloc (.cells #[.int .u64 (x : Int), .int .u64 (y : Int), .int .u64 (z : Int)] 94)).grownBy wr (some g))) (fun i _ => 3 - (intOf i).toNat)
  case atStart => exact ⟨0, Nat.zero_le _, rfl, Lib.hid (by have h := ((Bel.refl w).alloc (.cells #[.int .u64 (x : Int), .int .u64 (y : Int), .int .u64 (z : Int)] 94)).blk HS.out; exact h), Lib.hid ⟨rfl, rfl, rfl, Nat.le_refl _, fun _ _ _ => rfl⟩⟩
  case round =>
    obtain ⟨k, hk, rfl, HAR, HGR⟩ := hrel
    have hk4 : k = 0 ∨ k = 1 ∨ k = 2 ∨ k = 3 := by omega
    rcases hk4 with rfl | rfl | rfl | rfl
    · have hc0 : (orW ws off a b c x y z 0)[off]? = some a := HA.out.1
      have c0 := HAR.out.cell hc0
      have f0 := HAR.out.frozen (off)
      have hix := fun W => (ix_any (x : Int) y z W).1
      clear hc0
      go_wp2_with fail
      go_region
      all_goals
        have h2 := HAR.out.set_ (off) (a ||| x)
        have h3 := grown_drew (grown_trans HGR.out (grown_set (w := wr) g (off) (.int .u64 ((a ||| x : Nat) : Int))))
        rw [or64 a x HL.out.1 HX.out.1]
        have HA2 := Lib.hid h2
        have HG2 := Lib.hid h3
        clear h2 h3
        go_wp2_with fail
        exact ⟨⟨1, by omega, rfl, Lib.hid (by have h := HA2.out; simp only [orW] at h ⊢; exact h), HG2⟩, by simp [intOf]⟩
    · have hc0 : (orW ws off a b c x y z 1)[off + 1]? = some b := by show (ws.set off (a ||| x))[off + 1]? = some b; rw [List.getElem?_set_ne (by omega)]; exact HA.out.2.1
      have c0 := HAR.out.cell hc0
      have f0 := HAR.out.frozen (off + 1)
      have hix := fun W => (ix_any (x : Int) y z W).2.1
      clear hc0
      go_wp2_with fail
      go_region
      all_goals
        have h2 := HAR.out.set_ (off + 1) (b ||| y)
        have h3 := grown_drew (grown_trans HGR.out (grown_set (w := wr) g (off + 1) (.int .u64 ((b ||| y : Nat) : Int))))
        rw [or64 b y HL.out.2.1 HX.out.2.1]
        have HA2 := Lib.hid h2
        have HG2 := Lib.hid h3
        clear h2 h3
        go_wp2_with fail
        exact ⟨⟨2, by omega, rfl, Lib.hid (by have h := HA2.out; simp only [orW] at h ⊢; exact h), HG2⟩, by simp [intOf]⟩
    · have hc0 : (orW ws off a b c x y z 2)[off + 2]? = some c := by show ((ws.set off (a ||| x)).set (off + 1) (b ||| y))[off + 2]? = some c; rw [List.getElem?_set_ne (by omega), List.getElem?_set_ne (by omega)]; exact HA.out.2.2
      have c0 := HAR.out.cell hc0
      have f0 := HAR.out.frozen (off + 2)
      have hix := fun W => (ix_any (x : Int) y z W).2.2
      clear hc0
      go_wp2_with fail
      go_region
      all_goals
        have h2 := HAR.out.set_ (off + 2) (c ||| z)
        have h3 := grown_drew (grown_trans HGR.out (grown_set (w := wr) g (off + 2) (.int .u64 ((c ||| z : Nat) : Int))))
        rw [or64 c z HL.out.2.2 HX.out.2.2]
        have HA2 := Lib.hid h2
        have HG2 := Lib.hid h3
        clear h2 h3
        go_wp2_with fail
        exact ⟨⟨3, by omega, rfl, Lib.hid (by have h := HA2.out; simp only [orW] at h ⊢; exact h), HG2⟩, by simp [intOf]⟩
    · go_wp2_with fail
      go_end0
      exact ⟨⟨_, rfl⟩, HAR.out, (Mv.of_bel (Z := fun j => j = g) ((Bel.refl w).alloc _)).grown HGR.out (fun k hk => .inl (Option.some.inj hk).symm)⟩
end Go.Proofs.Ytlbachjhhjjmfaa.Mu
namespace Go.Proofs.Ytlbachjhhjjmfaa.Mu
open Go.ChangeShapes Go.WideShapes Go.ChangeAt Go.RowKit Go.Shelf

attribute [local go_sem] Oper.semAt_some

open Classical in
noncomputable def lenC (N : List Int) (p : Int) : Nat := if h : ∃ is, Ch N p is then h.choose.length else 0
theorem lenC_eq {N : List Int} {p : Int} {is : List Nat} (h : Ch N p is) : lenC N p = is.length := by
  unfold lenC
  have hx : ∃ is, Ch N p is := ⟨is, h⟩
  rw [dif_pos hx, Ch.one hx.choose_spec h]
structure FromOk (c : Dc) (vb v : Nat) (W : World) : Prop where
  bx : W.heap[c.ab]? = some (.cells (cellsG c) 97 (0, 0))
  hv : W.cell? ⟨vb, 0, none⟩ = some (.int .i64 v)
  gr : Gr c W
  lt : ∀ k, (k = c.ab ∨ k = vb ∨ gB c k) → k < W.heap.size
theorem from_any (FA NA TA : Option Addr) (n fc ln nc tc : Nat) (v : Int) (w : World) : Calls Try.prog 58 #[.agg #[.slice FA n fc, .slice NA ln nc, .slice TA ln tc], .int .i64 v] w fun e w' =>
    e = .returned (.func (.func 79) #[] #[.pointer (some ⟨w.heap.size, 0, none⟩), .pointer (some ⟨w.heap.size + 1, 0, none⟩)]) ∧ w' = (w.alloc (.cells #[.slice FA n fc, .slice NA ln nc, .slice TA ln tc] 97)).alloc (.cells #[.int .i64 v] 3) := by
  go_enter Try.func58, Try.ntmps58
  go_wp2
  go_ret
  exact ⟨rfl, rfl⟩
/-- Where the arrows lead, each below n. -/
theorem tgs (c : Dc) (R : Nat → List Nat) (hG : Grf c R) {v : Nat} (hv : v < c.n) : ∃ O : List (Fin c.n), O.map Fin.val = adjG c R v :=
  ⟨(adjG c R v).pmap (fun x h => ⟨x, h⟩) (fun _ h => adj_lt hG hv h), by simp [List.map_pmap]⟩

set_option maxRecDepth 100000 in
set_option maxHeartbeats 2000000 in
theorem from_seq (c : Dc) (R : Nat → List Nat) (vb v : Nat) (hG : Grf c R) (hv : v < c.n) (n : Nat) (h1 : 1 ≤ n) :
    SeqF Fence.wide n Try.prog 79 #[.pointer (some ⟨c.ab, 0, none⟩), .pointer (some ⟨vb, 0, none⟩)] (fun x : Fin c.n => #[.int .i64 x.val]) (fun k => k = c.ab ∨ k = vb ∨ gB c k) (FromOk c vb v) (fun xs W => xs.map Fin.val = adjG c R v ∧ Gr c W) (R v).length := by
  intro l J Y0 W0 hok hY0 hJ hY h0
  have HOK := Lib.hid hok
  have HY0 := Lib.hid hY0
  have HJ := Lib.hid hJ
  have HY := Lib.hid hY
  have H0 := Lib.hid h0
  have HG := Lib.hid hG
  obtain ⟨O, hO⟩ := tgs c R hG hv
  have HO := Lib.hid hO
  have q3 : W0.heap[c.ab]? = some (.cells #[.slice c.FA c.n c.fc, .slice c.NA c.ln c.nc, .slice c.TA c.ln c.tc] 97 (0, 0)) := hok.bx
  obtain ⟨e0, e1, e2, _, _, _⟩ := cells3 q3
  obtain ⟨fb, foff, eF, hcF⟩ := hok.gr.rf.2 (by omega)
  have cF := hcF v hv
  have cv := hok.hv
  obtain ⟨p, hp⟩ : ∃ p, p = c.F[v]?.getD 0 := ⟨_, rfl⟩
  rw [← hp] at cF
  have HCH : Hid (Ch c.N p (R v)) := Lib.hid (by rw [hp]; exact hG.chain v hv)
  have i1 : (0 : Int) ≤ (v : Int) := by omega
  have i2 : (v : Int) < (c.n : Int) := by omega
  rw [eF] at e0
  clear hok hY0 hJ hY h0 hG hcF hp eF hO q3
  refine callsIn_of_wp Try.func79 rfl trivial ?_ rfl
  simp only [Try.ntmps79, List.size_toArray, List.length_cons, List.length_nil, Nat.reduceAdd, Nat.reduceSub, Array.replicate_succ, Array.replicate_zero, List.push_toArray, List.append_toArray, List.nil_append, List.cons_append]
  gi_wp2
  clear e0 e1 e2 cF cv i1 i2
  gi_loopw [4] (fun i wr => ∃ (p : Int) (k : Nat) (Y : Nat → Prop), i = .int .i64 p ∧ Hid (Ch c.N p ((R v).drop k)) ∧ k ≤ (R v).length ∧ Hid (J (O.take k) Y wr) ∧ Hid (∀ j, Y j → j < wr.heap.size ∧ (Y0 j ∨ W0.heap.size ≤ j)) ∧ Hid (Mv (fun j => Y0 j ∨ (j = c.ab ∨ j = vb ∨ gB c j)) W0 wr) ∧ Hid (∀ j, (j = c.ab ∨ j = vb ∨ gB c j) → wr.heap[j]? = W0.heap[j]?))
    (fun i _ => lenC c.N (intOf i))
  case atStart => exact ⟨p, 0, Y0, rfl, Lib.hid (by simpa using HCH.out), Nat.zero_le _, H0, Lib.hid (fun j hj => ⟨(HY0.out j hj).1, .inl hj⟩), Lib.hid (Mv.refl _ _), Lib.hid (fun _ _ => rfl)⟩
  case round =>
    obtain ⟨p, k, Y, rfl, HC, hk, HJR, HYR, HMV, HKP⟩ := hrel
    have hol : O.length = (R v).length := by
      have := congrArg List.length HO.out
      simpa [adjG] using this
    have HOL := Lib.hid hol
    clear hol HCH
    by_cases hlt : k < (R v).length
    · obtain ⟨i, hi⟩ : ∃ i, i = (R v)[k] := ⟨_, rfl⟩
      have hdr : (R v).drop k = i :: (R v).drop (k + 1) := by rw [hi]; exact List.drop_eq_getElem_cons hlt
      have hch := HC.out
      rw [hdr] at hch
      obtain ⟨hpi, hiN, hch2⟩ := hch
      have hil : i < c.ln := by rw [← HG.out.lenN]; exact hiN
      have hbx : wr.heap[c.ab]? = some (.cells #[.slice c.FA c.n c.fc, .slice c.NA c.ln c.nc, .slice c.TA c.ln c.tc] 97 (0, 0)) := (HKP.out _ (.inl rfl)).trans HOK.out.bx
      have hgr := HOK.out.gr.keep (W' := wr) fun j hj => HKP.out j (.inr (.inr hj))
      obtain ⟨e0, e1, e2, _, _, _⟩ := cells3 hbx
      obtain ⟨tb, toff, eT, hcT⟩ := hgr.rt.2 (by omega)
      have cT := hcT i hil
      have hgt := HG.out.tgt i hil
      obtain ⟨z, hz⟩ : ∃ z : Fin c.n, z = O[k]'(by rw [HOL.out]; exact hlt) := ⟨_, rfl⟩
      have hzt : z.val = tg c i := by
        have h1 : (O.map Fin.val)[k]? = (adjG c R v)[k]? := by rw [HO.out]
        rw [List.getElem?_map, List.getElem?_eq_getElem (by rw [HOL.out]; exact hlt), adjG, List.getElem?_map, List.getElem?_eq_getElem hlt, ← hi, ← hz] at h1
        simpa using h1
      have hzi : c.TO[i]?.getD 0 = ((z.val : Nat) : Int) := by rw [hzt]; unfold tg; omega
      rw [hzi] at cT
      have htk : O.take (k + 1) = O.take k ++ [z] := by rw [List.take_add_one, List.getElem?_eq_getElem (by rw [HOL.out]; exact hlt), ← hz]; rfl
      have HTK := Lib.hid htk
      obtain ⟨fn, tmps, assign, body, hy, hR⟩ := HY.out (O.take k) z Y wr HJR.out (fun j hj => (HYR.out j hj).1) (by rw [List.length_take, HOL.out]; omega)
      have i1 : (0 : Int) ≤ (i : Int) := by omega
      have i2 : (i : Int) < (c.ln : Int) := by omega
      have j3 : ((i : Int) != -1) = true := by simp
      have j4 : ¬ (i : Int) = -1 := by omega
      have HCH2 := Lib.hid hch2
      have HPI := Lib.hid hpi
      have HLC : Hid (lenC c.N (i : Int) = ((R v).drop k).length) := Lib.hid (by rw [← hpi]; exact lenC_eq HC.out)
      rw [eT] at e2
      have HIL := Lib.hid hil
      subst hpi
      clear hcT hgt hz hzt hzi htk hch2 hdr hgr eT hi hil hiN hbx HC HPI
      gi_wp2
      refine hR.mono ?_
      rintro e W3 ⟨rfl, hmv3, Y3, hj3, hy3⟩
      have hnm : ∀ j, (j = c.ab ∨ j = vb ∨ gB c j) → j < wr.heap.size ∧ ¬ Y j := fun j hj => by
        refine ⟨Nat.lt_of_lt_of_le (HOK.out.lt j hj) HMV.out.size, fun hy' => ?_⟩
        rcases (HYR.out j hy').2 with h | h
        · exact (HY0.out j h).2 hj
        · have := HOK.out.lt j hj; omega
      have hk3 : ∀ j, (j = c.ab ∨ j = vb ∨ gB c j) → W3.heap[j]? = W0.heap[j]? := fun j hj => (hmv3.block j (hnm j hj).1 (hnm j hj).2).trans (HKP.out j hj)
      have HJ3 : Hid (J (O.take (k + 1)) Y3 W3) := Lib.hid (by rw [HTK.out]; exact hj3)
      have HY3 : Hid (∀ j, Y3 j → j < W3.heap.size ∧ (Y0 j ∨ W0.heap.size ≤ j)) := Lib.hid (fun j hj => by
        obtain ⟨q1, q2⟩ := hy3 j hj
        refine ⟨q1, ?_⟩
        rcases q2 with h | h
        · exact (HYR.out j h).2
        · exact .inr (Nat.le_trans HMV.out.size h))
      have HM3 : Hid (Mv (fun j => Y0 j ∨ (j = c.ab ∨ j = vb ∨ gB c j)) W0 W3) := Lib.hid (HMV.out.trans hmv3 (fun j hj => (HYR.out j hj).2.imp .inl id))
      have HK3 := Lib.hid hk3
      have hbx : W3.heap[c.ab]? = some (.cells #[.slice c.FA c.n c.fc, .slice c.NA c.ln c.nc, .slice c.TA c.ln c.tc] 97 (0, 0)) := (hk3 _ (.inl rfl)).trans HOK.out.bx
      have hgr := HOK.out.gr.keep (W' := W3) fun j hj => hk3 j (.inr (.inr hj))
      obtain ⟨r0, r1, r2, _, _, _⟩ := cells3 hbx
      obtain ⟨nb, noff, eN, hcN⟩ := hgr.rn.2 (by omega)
      have cN := hcN i HIL.out
      rw [eN] at r1
      clear hmv3 hj3 hy3 hnm hR hk3 hbx hgr hcN eN e0 e1 e2 cT
      gi_wp2
      go_roundw
      case rel => exact ⟨_, k + 1, Y3, rfl, HCH2, by omega, HJ3, HY3, HM3, HK3⟩
      case measure =>
        have h1 := lenC_eq HCH2.out
        have h2 := HLC.out
        simp only [List.length_drop] at h1 h2
        show lenC c.N _ < lenC c.N _
        simp only [intOf]
        omega
    · obtain rfl : k = (R v).length := by omega
      have hp : p = -1 := by
        have := HC.out
        rw [List.drop_length] at this
        exact this
      subst hp
      gi_wp2
      go_end0
      exact ⟨⟨_, rfl⟩, _, Y, by rw [List.take_of_length_le (by rw [HOL.out]; exact Nat.le_refl _)]; exact ⟨HO.out, HOK.out.gr.keep fun j hj => HKP.out j (.inr (.inr hj))⟩, HJR.out, HYR.out, HMV.out⟩
end Go.Proofs.Ytlbachjhhjjmfaa.Mu
namespace Go.Proofs.Ytlbachjhhjjmfaa.Mu
open Go.ChangeShapes Go.WideShapes Go.ChangeAt Go.RowKit Go.Shelf

attribute [local go_sem] Oper.semAt_some

/-- The places, from the last one on. -/
def backLF (m k : Nat) : List (Fin m) := (List.finRange m).reverse.take k
theorem backLF_succ {m k : Nat} (q : Fin m) (hk : k < m) (hq : q.val = m - 1 - k) : backLF m (k + 1) = backLF m k ++ [q] := by
  unfold backLF
  rw [List.take_add_one]
  have : (List.finRange m).reverse[k]? = some q := by
    rw [List.getElem?_reverse (by simpa using hk)]
    simp only [List.length_finRange, ← hq]
    rw [List.getElem?_eq_getElem (by simp)]
    simp
  rw [this]
  rfl
theorem backLF_len {m k : Nat} (hk : k ≤ m) : (backLF m k).length = k := by simp [backLF]; omega
structure BackLOk (Bs len cap : Nat) (A : Option Addr) (vals : List Value) (W : World) : Prop where
  box : W.heap[Bs]? = some (.cells #[.slice A len cap] 104 (0, 0))
  rs : 0 < len → ∃ b off, A = some ⟨b, off, none⟩ ∧ ∀ k v, vals[k]? = some v → W.cell? ⟨b, off + k, none⟩ = some v
  lt : ∀ k, Bk A k → k < W.heap.size
theorem backL_any (A : Option Addr) (len cap : Nat) (w : World) : Calls Try.prog 55 #[.slice A len cap] w fun e w' => e = .returned (.func (.func 74) #[] #[.pointer (some ⟨w.heap.size, 0, none⟩)]) ∧ w' = w.alloc (.cells #[.slice A len cap] 104) := by
  go_enter Try.func55, Try.ntmps55
  go_wp2
  go_ret
  exact ⟨rfl, rfl⟩

set_option maxRecDepth 100000 in
set_option maxHeartbeats 2000000 in
theorem backL_seq (Bs len cap : Nat) (A : Option Addr) (vals : List Value) (hvl : vals.length = len) (hmax : len ≤ 1048576) (n : Nat) (h1 : 1 ≤ n) :
    SeqF Fence.wide n Try.prog 74 #[.pointer (some ⟨Bs, 0, none⟩)] (fun x : Fin len => #[.int .i64 x.val, vals[x.val]?.getD undef]) (fun k => k = Bs ∨ Bk A k) (BackLOk Bs len cap A vals) (fun xs _ => xs = backLF len len) len := by
  intro l J Y0 W0 hok hY0 hJ hY h0
  have HOK := Lib.hid hok
  have HY0 := Lib.hid hY0
  have HJ := Lib.hid hJ
  have HY := Lib.hid hY
  have H0 := Lib.hid h0
  have HOL : Hid (vals.length = len) := Lib.hid hvl
  have c0 := cell1_ hok.box
  clear hok hY0 hJ hY h0 hvl
  refine callsIn_of_wp Try.func74 rfl trivial ?_ rfl
  simp only [Try.ntmps74, List.size_toArray, List.length_cons, List.length_nil, Nat.reduceAdd, Nat.reduceSub, Array.replicate_succ, Array.replicate_zero, List.push_toArray, List.append_toArray, List.nil_append, List.cons_append]
  gi_wp2
  clear c0
  gi_loopw [3] (fun i wr => ∃ (k : Nat) (Y : Nat → Prop), k ≤ len ∧ i = .int .i64 ((len : Int) - 1 - k) ∧ Hid (J (backLF len k) Y wr) ∧ Hid (∀ j, Y j → j < wr.heap.size ∧ (Y0 j ∨ W0.heap.size ≤ j)) ∧ Hid (Mv (fun j => Y0 j ∨ (j = Bs ∨ Bk A j)) W0 wr) ∧ Hid (∀ j, (j = Bs ∨ Bk A j) → wr.heap[j]? = W0.heap[j]?))
    (fun i _ => (intOf i + 1).toNat)
  case atStart => exact ⟨0, Y0, Nat.zero_le _, by go_num, H0, Lib.hid (fun j hj => ⟨(HY0.out j hj).1, .inl hj⟩), Lib.hid (Mv.refl _ _), Lib.hid (fun _ _ => rfl)⟩
  case round =>
    obtain ⟨k, Y, hk, rfl, HJR, HYR, HMV, HKP⟩ := hrel
    by_cases hlt : k < len
    · have hbox : wr.heap[Bs]? = some (.cells #[.slice A len cap] 104 (0, 0)) := (HKP.out Bs (.inl rfl)).trans HOK.out.box
      obtain ⟨b, off, eA, hc0⟩ := HOK.out.rs (by omega)
      have hc : ∀ k v, vals[k]? = some v → wr.cell? ⟨b, off + k, none⟩ = some v := fun k v hv => (World.cell?_of_block (a := ⟨b, off + k, none⟩) (HKP.out b (.inr ⟨off, eA⟩))).trans (hc0 k v hv)
      obtain ⟨q, hq⟩ : ∃ q : Nat, q = len - 1 - k := ⟨_, rfl⟩
      have hqO : q < vals.length := by have := HOL.out; omega
      obtain ⟨z, hz⟩ : ∃ z : Value, vals[q]? = some z := ⟨vals[q], List.getElem?_eq_getElem hqO⟩
      have d0 := hc q z hz
      have e1 : ((len : Int) - 1 - k) = (q : Int) := by omega
      rw [e1]
      obtain ⟨qf, hqf⟩ : ∃ qf : Fin len, qf.val = q := ⟨⟨q, by omega⟩, rfl⟩
      have hbk : backLF len (k + 1) = backLF len k ++ [qf] := backLF_succ qf hlt (by rw [hqf]; exact hq)
      have HBK := Lib.hid hbk
      have i1 : (0 : Int) ≤ (q : Int) := by omega
      have i2 : (q : Int) < (len : Int) := by omega
      obtain ⟨fn, tmps, assign, body, hy, hR⟩ := HY.out (backLF len k) qf Y wr HJR.out (fun j hj => (HYR.out j hj).1) (by rw [backLF_len hk]; exact hlt)
      simp only [hqf, hz, Option.getD_some] at hy
      have c0 := cell1_ hbox
      have HQ2 := Lib.hid hq
      rw [eA] at c0
      have HEA := Lib.hid eA
      clear hc hc0 hq hz e1 hbk hbox eA hqf hqO
      gi_wp2
      refine hR.mono ?_
      rintro e W3 ⟨rfl, hmv3, Y3, hj3, hy3⟩
      have hnm : ∀ j, (j = Bs ∨ Bk A j) → j < wr.heap.size ∧ ¬ Y j := fun j hj => by
        have hl : j < W0.heap.size := by
          rcases hj with rfl | h
          · exact (Array.getElem?_eq_some_iff.1 HOK.out.box).1
          · exact HOK.out.lt j h
        refine ⟨Nat.lt_of_lt_of_le hl HMV.out.size, fun hy' => ?_⟩
        rcases (HYR.out j hy').2 with h | h
        · exact (HY0.out j h).2 hj
        · omega
      have HJ3 : Hid (J (backLF len (k + 1)) Y3 W3) := Lib.hid (by rw [HBK.out]; exact hj3)
      have HY3 : Hid (∀ j, Y3 j → j < W3.heap.size ∧ (Y0 j ∨ W0.heap.size ≤ j)) := Lib.hid (fun j hj => by
        obtain ⟨q1, q2⟩ := hy3 j hj
        refine ⟨q1, ?_⟩
        rcases q2 with h | h
        · exact (HYR.out j h).2
        · exact .inr (Nat.le_trans HMV.out.size h))
      have HM3 : Hid (Mv (fun j => Y0 j ∨ (j = Bs ∨ Bk A j)) W0 W3) := Lib.hid (HMV.out.trans hmv3 (fun j hj => (HYR.out j hj).2.imp .inl id))
      have HK3 : Hid (∀ j, (j = Bs ∨ Bk A j) → W3.heap[j]? = W0.heap[j]?) := Lib.hid (fun j hj => (hmv3.block j (hnm j hj).1 (hnm j hj).2).trans (HKP.out j hj))
      have HZ := HQ2.out
      clear hmv3 hj3 hy3 hnm hR
      gi_wp2
      go_roundw
      case rel => exact ⟨k + 1, Y3, by omega, by go_num, HJ3, HY3, HM3, HK3⟩
      case measure => simp [intOf]; omega
    · obtain rfl : k = len := by omega
      gi_wp2
      go_end0
      exact ⟨⟨_, rfl⟩, _, Y, rfl, HJR.out, HYR.out, HMV.out⟩
end Go.Proofs.Ytlbachjhhjjmfaa.Mu

