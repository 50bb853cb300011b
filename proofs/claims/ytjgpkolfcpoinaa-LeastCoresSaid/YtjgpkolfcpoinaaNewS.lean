/-
  newSolver, walked.
-/
import Derived.Test.YtjgpkolfcpoinaaSolver
namespace Go.Proofs.Ytjgpkolfcpoinaa.Mu
open Go.ChangeShapes Go.WideShapes Go.ChangeAt Go.RowKit Go.Shelf

attribute [local go_sem] Oper.semAt_some

/-- A solver as it lies in memory, but for its channel. -/
structure Sol (w : World) (s gf gn ga gb gc : Nat) (A : Option Addr) (len cap n : Nat) (F N G B : List Int) : Prop where
  hs : w.heap[s]? = some (.cells (cellsS A len cap n gf gn ga gb gc) 75 (0, 0))
  hf : Arr .i64 w gf 3 F
  hn : Arr .i64 w gn 3 N
  ha : Arr .u8 w ga 27 G
  hb : Arr .i64 w gb 3 B
/-- Its blocks are its own, and apart. -/
def Dist (base s gf gn ga gb gc : Nat) : Prop :=
  (base ≤ s ∧ base ≤ gf ∧ base ≤ gn ∧ base ≤ ga ∧ base ≤ gb ∧ base ≤ gc) ∧ (s ≠ gf ∧ s ≠ gn ∧ s ≠ ga ∧ s ≠ gb ∧ s ≠ gc) ∧ (gf ≠ gn ∧ gf ≠ ga ∧ gf ≠ gb ∧ gf ≠ gc) ∧ (gn ≠ ga ∧ gn ≠ gb ∧ gn ≠ gc) ∧ (ga ≠ gb ∧ ga ≠ gc) ∧ gb ≠ gc
def stepFN (p : List Int × List Int) (x : Nat × Iq) : List Int × List Int := if x.2.m = 0 then (p.1.set x.2.v.toNat x.1, p.2.set x.1 (p.1[x.2.v.toNat]?.getD 0)) else p
def foldFN (n len : Nat) (ys : List (Nat × Iq)) : List Int × List Int := ys.foldl stepFN (List.replicate n (-1), List.replicate len 0)

theorem step_len (p : List Int × List Int) (x : Nat × Iq) : (stepFN p x).1.length = p.1.length ∧ (stepFN p x).2.length = p.2.length := by
  unfold stepFN; split <;> simp
theorem fold_len (n len : Nat) (ys : List (Nat × Iq)) : (foldFN n len ys).1.length = n ∧ (foldFN n len ys).2.length = len := by
  have key : ∀ (ys : List (Nat × Iq)) (p : List Int × List Int), (ys.foldl stepFN p).1.length = p.1.length ∧ (ys.foldl stepFN p).2.length = p.2.length := by
    intro ys
    induction ys with
    | nil => intro p; exact ⟨rfl, rfl⟩
    | cons y ys ih => intro p; obtain ⟨a, b⟩ := ih (stepFN p y); obtain ⟨c, d⟩ := step_len p y; exact ⟨a.trans c, b.trans d⟩
  have h := key ys (List.replicate n (-1), List.replicate len 0)
  simp only [List.length_replicate] at h
  exact h
def actR (n len cap : Nat) (lowA A : Option Addr) (ln lk : Nat) (V : Nat → Value) (ll : Int) (g7 gs ga bx : Nat) (u8 u9 u34 u35 : Value) : Act :=
  { tmps := #[.int .i64 n, .slice lowA ln lk, .slice A len cap, undef, undef, undef, .pointer none, .pointer (some ⟨g7, 0, none⟩), u8, u9, V 0, V 1, V 2, V 3, V 4, V 5, V 6, V 7, V 8, V 9, V 10, V 11, V 12, V 13, V 14, .pointer (some ⟨gs, 0, none⟩),
      .pointer (some ⟨gs, 0, none⟩), .pointer (some ⟨gs, 0, none⟩), .pointer (some ⟨gs, 3, none⟩), .slice (some ⟨ga, 0, none⟩) n n, .slice lowA ln lk, .int .i64 ll, .slice A len cap, .func (.func 86) #[] #[.pointer (some ⟨bx, 0, none⟩)], u34, u35, undef, undef, undef, undef, undef, undef, undef, undef, undef, undef, undef, undef, undef, undef, undef, undef, undef, undef, undef, undef, undef, undef, undef, undef, undef, undef, undef], defers := [] }
def agg4 (x : Iq) : Value := .agg #[.int .i64 x.v, .int .u8 x.m, .int .u8 x.c, .int .i64 x.r]

def NewPost (n len cap : Nat) (A : Option Addr) (xs : List Iq) (low : List Int) (w : World) (e : Ending) (w' : World) : Prop :=
  ∃ s gf gn ga gb gc, e = .returned (.pointer (some ⟨s, 0, none⟩)) ∧ Dist w.heap.size s gf gn ga gb gc ∧ Sol w' s gf gn ga gb gc A len cap n (foldFN n len (backL xs len)).1 (foldFN n len (backL xs len)).2 (if low.length = 0 then List.replicate n 1 else low) (List.replicate n 0) ∧ w'.heap[gc]? = some (.chan n #[] false 0 0 false) ∧ Bel w w'

set_option maxRecDepth 100000 in
set_option maxHeartbeats 4000000 in
theorem newSolver_any (n len cap : Nat) (lowA A : Option Addr) (ln lk : Nat) (low : List Int) (xs : List Iq) (hn : n ≤ 1048576) (hl : len ≤ 1048576) (w : World) (hlow : RI .u8 w w.heap.size lowA ln low) (hln : ln = 0 ∨ ln = n) (hq : RQ w w.heap.size A len xs) (hv : ∀ x ∈ xs, x.m = 0 → 0 ≤ x.v ∧ x.v < n) :
    Calls Try.prog 40 #[.int .i64 n, .slice lowA ln lk, .slice A len cap] w (NewPost n len cap A xs low w) := by
  have HLOW := Lib.hid hlow
  have HQ := Lib.hid hq
  have HV := Lib.hid hv
  clear hlow hq hv
  refine (callsIn_wide (n := 6)).1 ?_
  refine callsIn_of_wp_marks Try.func40 rfl trivial ?_ rfl
  refine wpIn_wide.2 ?_
  simp only [Try.ntmps40, List.size_toArray, List.length_cons, List.length_nil, Nat.reduceAdd, Nat.reduceSub, Array.replicate_succ, Array.replicate_zero, List.push_toArray, List.append_toArray, List.nil_append, List.cons_append]
  go_wp2_with fail
  refine regN_any n len cap lowA A ln lk hn hl w _ ?_
  intro V w1 own hb1 hF
  have HL := Lib.hid HLOW.out.len
  have hmin : low.length = Nat.min ln n := by rw [← HL.out]; rcases hln with h | h <;> rw [h] <;> simp
  have hfit : 0 + low.length ≤ (List.replicate n (1 : Int)).length := by rw [← HL.out, List.length_replicate]; rcases hln with h | h <;> omega
  have hspl : splice (List.replicate n (1 : Int)) 0 low = if low.length = 0 then List.replicate n 1 else low := by
    unfold splice
    by_cases h0 : low.length = 0
    · rw [if_pos h0, List.eq_nil_of_length_eq_zero h0]; simp
    · have := HL.out
      rw [if_neg h0]
      simp only [List.take_zero, List.nil_append, Nat.zero_add]
      rw [List.drop_eq_nil_of_le (by simp; omega), List.append_nil]
  obtain ⟨gs, gf, gn, ga, gb, gc, e15, hS, hA, ls, os⟩ := hF 15 (by omega)
  obtain ⟨g7, e16, h7, l7, o7⟩ := hF 16 (by omega)
  simp only [regN, List.drop_succ_cons, List.drop_zero, actN, e15, e16]
  have HD : Hid (Dist w.heap.size gs gf gn ga gb gc ∧ (g7 ≠ gs ∧ g7 ≠ gf ∧ g7 ≠ gn ∧ g7 ≠ ga ∧ g7 ≠ gb ∧ g7 ≠ gc) ∧ w.heap.size ≤ g7) := Lib.hid (by
    obtain ⟨o1, o2, o3, o4, o5⟩ := hA.of
    obtain ⟨l1, l2, l3, l4, l5⟩ := hA.lo
    have key : ∀ {x y : Nat} {i j : Nat}, own x = i → own y = j → i ≠ j → x ≠ y := fun h1 h2 h3 e => h3 (by rw [← h1, ← h2, e])
    exact ⟨⟨⟨ls, l1, l2, l3, l4, l5⟩, ⟨key os o1 (by decide), key os o2 (by decide), key os o3 (by decide), key os o4 (by decide), key os o5 (by decide)⟩, ⟨key o1 o2 (by decide), key o1 o3 (by decide), key o1 o4 (by decide), key o1 o5 (by decide)⟩, ⟨key o2 o3 (by decide), key o2 o4 (by decide), key o2 o5 (by decide)⟩, ⟨key o3 o4 (by decide), key o3 o5 (by decide)⟩, key o4 o5 (by decide)⟩, ⟨key o7 os (by decide), key o7 o1 (by decide), key o7 o2 (by decide), key o7 o3 (by decide), key o7 o4 (by decide), key o7 o5 (by decide)⟩, l7⟩)
  obtain ⟨⟨⟨_, _, _, da1, _, _⟩, ⟨d1, d2, d3, d4, d5⟩, ⟨d6, d7, d8, d9⟩, ⟨d10, d11, d12⟩, ⟨d13, d14⟩, d15⟩, ⟨k1, k2, k3, k4, k5, k6⟩, k7⟩ := HD.out
  have HS0 : Hid (Sol w1 gs gf gn ga gb gc A len cap n (List.replicate n (-1)) (List.replicate len 0) (List.replicate n 1) (List.replicate n 0)) := Lib.hid ⟨hS, hA.hf, hA.hn, hA.ha, hA.hb⟩
  have HC0 := Lib.hid hA.hc
  have HB1 := Lib.hid (show Bel w w1 from (Bel.refl w).drew.on hb1)
  obtain ⟨b7, f7⟩ : w1.cell? ⟨g7, 0, none⟩ = some (.pointer none) ∧ w1.frozen? ⟨g7, 0, none⟩ = false := by simp [World.cell?, World.frozen?, h7]
  clear hF hb1 hA hS
  -- the store into the variable
  have HS1 : Hid (Sol (w1.setCell ⟨g7, 0, none⟩ (.pointer (some ⟨gs, 0, none⟩))) gs gf gn ga gb gc A len cap n (List.replicate n (-1)) (List.replicate len 0) (List.replicate n 1) (List.replicate n 0)) := Lib.hid ⟨blk_off HS0.out.hs (by simpa using k1) _, HS0.out.hf.off (by simpa using k2) _, HS0.out.hn.off (by simpa using k3) _, HS0.out.ha.off (by simpa using k4) _, HS0.out.hb.off (by simpa using k5) _⟩
  have HC1 := Lib.hid (blk_off HC0.out (p := ⟨g7, 0, none⟩) (by simpa using k6) (.pointer (some ⟨gs, 0, none⟩)))
  have H71 : Hid ((w1.setCell ⟨g7, 0, none⟩ (.pointer (some ⟨gs, 0, none⟩))).heap[g7]? = some (.cells #[.pointer (some ⟨gs, 0, none⟩)] 69 (0, 0))) := Lib.hid (heap_setCell_same w1 g7 0 _ _ _ h7)
  have HB2 : Hid (Bel w (w1.setCell ⟨g7, 0, none⟩ (.pointer (some ⟨gs, 0, none⟩)))) := Lib.hid (HB1.out.set_ k7 _)
  obtain ⟨w2, hw2⟩ : ∃ w2, w2 = w1.setCell ⟨g7, 0, none⟩ (.pointer (some ⟨gs, 0, none⟩)) := ⟨_, rfl⟩
  rw [← hw2] at HS1 HC1 H71 HB2
  obtain ⟨w3, hcp, ha3, hg3⟩ := copy_arr (P := Try.prog) 22 27 3 Try.underlying22 sz_mu8 ga 0 n n lowA ln lk (List.replicate n 1) low w2 HS1.out.ha hmin (fun hp => by
    obtain ⟨b, o, e, hb, hc⟩ := (HLOW.out.bel HB2.out).at_ (by rw [HL.out]; exact hp)
    exact ⟨b, o, e, fun j hj => hc j (by rw [HL.out]; exact hj)⟩) hfit
  rw [hw2] at hcp
  have HS3 : Hid (Sol w3 gs gf gn ga gb gc A len cap n (List.replicate n (-1)) (List.replicate len 0) (if low.length = 0 then List.replicate n 1 else low) (List.replicate n 0)) := Lib.hid (by
    rw [hspl] at ha3
    have far : ∀ g o, w2.heap[g]? = some o → g ≠ ga → w3.heap[g]? = some o := fun g o h hne => blk_far hg3 h (fun e => hne (by cases e; rfl))
    exact ⟨far _ _ HS1.out.hs d3, far _ _ HS1.out.hf d7, far _ _ HS1.out.hn d10, ha3, far _ _ HS1.out.hb fun e => d13 e.symm⟩)
  obtain ⟨G0, hG0⟩ : ∃ G0, G0 = if low.length = 0 then List.replicate n (1 : Int) else low := ⟨_, rfl⟩
  have HG0 := Lib.hid hG0
  rw [← hG0] at HS3
  clear hG0
  have HC3 := Lib.hid (blk_far hg3 HC1.out (fun e => d14 (Option.some.inj e).symm))
  have H73 := Lib.hid (blk_far hg3 H71.out (fun e => k4 (Option.some.inj e)))
  have HB3 : Hid (Bel w w3) := Lib.hid (Below.grown HB2.out hg3 HB2.out.size (fun k hk => by cases hk; exact da1))
  obtain ⟨b7', _⟩ : w2.cell? ⟨g7, 0, none⟩ = some (.pointer (some ⟨gs, 0, none⟩)) ∧ w2.frozen? ⟨g7, 0, none⟩ = false := by simp [World.cell?, World.frozen?, H71.out]
  have b3 : w2.cell? ⟨gs, 3, none⟩ = some (.slice (some ⟨ga, 0, none⟩) n n) := by simp [World.cell?, HS1.out.hs, cellsS]
  rw [hw2] at b7' b3
  clear ha3 hg3 d1 d2 d3 d4 d5 d6 d7 d8 d9 d10 d11 d12 d13 d14 d15 k1 k2 k3 k4 k5 k6 k7 da1 h7 e15 e16 ls os l7 o7 hw2 hmin hfit hspl
  go_wp2_with fail
  refine (back_any A len cap _).mono ?_
  clear b7 f7 b7' b3 hcp
  rintro e w4 ⟨rfl, rfl⟩
  go_wp2_with fail
  have HS4 : Hid (Sol (w3.alloc (.cells #[.slice A len cap] 35)) gs gf gn ga gb gc A len cap n (List.replicate n (-1)) (List.replicate len 0) G0 (List.replicate n 0)) := Lib.hid (by
    have hb := (Bel.refl w3).alloc (.cells #[.slice A len cap] 35)
    exact ⟨hb.blk HS3.out.hs, HS3.out.hf.bel hb, HS3.out.hn.bel hb, HS3.out.ha.bel hb, HS3.out.hb.bel hb⟩)
  have HC4 := Lib.hid (((Bel.refl w3).alloc (.cells #[.slice A len cap] 35)).blk HC3.out)
  have H74 := Lib.hid (((Bel.refl w3).alloc (.cells #[.slice A len cap] 35)).blk H73.out)
  have HB4 := Lib.hid (HB3.out.alloc (.cells #[.slice A len cap] 35))
  have HBX := Lib.hid (blk1 w3 (.cells #[.slice A len cap] 35))
  have hx1 : w3.heap.size + 1 = (w3.alloc (.cells #[.slice A len cap] 35)).heap.size := by simp
  obtain ⟨w4, hw4⟩ : ∃ w4, w4 = w3.alloc (.cells #[.slice A len cap] 35) := ⟨_, rfl⟩
  rw [← hw4] at HS4 HC4 H74 HB4 HBX hx1 ⊢
  have hsz3 : w.heap.size ≤ w3.heap.size := HB3.out.size
  obtain ⟨bx, hbx⟩ : ∃ bx, bx = w3.heap.size := ⟨_, rfl⟩
  have HBD : Hid (gs < bx ∧ gf < bx ∧ gn < bx ∧ ga < bx ∧ gb < bx ∧ gc < bx ∧ g7 < bx) := Lib.hid (by rw [hbx]; exact ⟨blk_lt HS3.out.hs, HS3.out.hf.lt, HS3.out.hn.lt, HS3.out.ha.lt, HS3.out.hb.lt, blk_lt HC3.out, blk_lt H73.out⟩)
  rw [← hbx] at HBX hx1 hsz3 ⊢
  clear hw4 hbx HS3 HC3 H73 HB3
  have hlts : gs < w4.heap.size ∧ gf < w4.heap.size ∧ gn < w4.heap.size ∧ ga < w4.heap.size ∧ gb < w4.heap.size ∧ gc < w4.heap.size ∧ g7 < w4.heap.size ∧ bx < w4.heap.size := ⟨blk_lt HS4.out.hs, HS4.out.hf.lt, HS4.out.hn.lt, HS4.out.ha.lt, HS4.out.hb.lt, blk_lt HC4.out, blk_lt H74.out, blk_lt HBX.out⟩
  have HLT := Lib.hid hlts
  have hbase : w.heap.size ≤ w4.heap.size := HB4.out.size
  refine (wpIn_wide (n := 5)).1 ?_
  show Code.wpIn _ _ _ _ _ (actR n len cap lowA A ln lk V low.length g7 gs ga bx undef undef undef undef) _
  refine wpIn_rangeFunc_ownH (α := Item len n) (w := w4) (w0 := w4) rfl (by omega) (gf := 86) (lb := #[.pointer (some ⟨bx, 0, none⟩)]) rfl trivial (enters_of Try.func86 (by kernel_rfl) rfl)
    (back_stops bx w.heap.size len cap n A xs hl HV.out (fun W W' => W'.heap[bx]? = W.heap[bx]? ∧ Below w.heap.size W W') (fun _ _ h => h) w4 HLT.out.2.2.2.2.2.2.2 hbase HBX.out ((HQ.out.keep fun b o hb => HB4.out.cell (p := ⟨b, o, none⟩) hb)))
    (fun h k => ⟨k.1.trans h.1, h.2.trans k.2⟩) (fun W l o o' hl' h1 h2 h3 => ⟨World.putObj_heap_other (fun e => by have := HLT.out.2.2.2.2.2.2.2; omega), belowK_b hbase W l o o' hl' h1 h2 h3⟩) (Below.refl _ _) (fun _ => rfl)
    (fun pre W => (Sol W gs gf gn ga gb gc A len cap n (foldFN n len (pre.map (·.1))).1 (foldFN n len (pre.map (·.1))).2 G0 (List.replicate n 0) ∧ W.heap[gc]? = some (.chan n #[] false 0 0 false) ∧ W.heap[g7]? = some (.cells #[.pointer (some ⟨gs, 0, none⟩)] 69 (0, 0)) ∧ W.heap[bx]? = some (.cells #[.slice A len cap] 35 (0, 0))) ∧ Below w.heap.size w W ∧ w4.heap.size ≤ W.heap.size)
    (fun _ _ _ => False) ?hI (fun _ _ _ _ _ h _ _ => h) ⟨⟨HS4.out, HC4.out, H74.out, HBX.out⟩, HB4.out, Nat.le_refl _⟩
    (fun x a' W => ∃ Bx, w4.heap.size ≤ Bx ∧ W.heap[Bx]? = some (.cells #[.int .i64 x.1.2.v, .int .u8 x.1.2.m, .int .u8 x.1.2.c, .int .i64 x.1.2.r] 31 (0, 0)) ∧ a' = actR n len cap lowA A ln lk V low.length g7 gs ga bx (.int .i64 x.1.1) (.pointer (some ⟨Bx, 0, none⟩)) (.int .i64 x.1.1) (agg4 x.1.2)) ?hAx ?hassign ?hbody ?hdone (fun _ _ _ _ _ _ h _ => h.elim)
  case hI =>
    rintro pre W W' row ⟨⟨hs, h1, h2, h3⟩, hb, hz⟩ hg hr
    have far : ∀ g o, W.heap[g]? = some o → g < w4.heap.size → W'.heap[g]? = some o := fun g o h hlt => blk_far hg h (fun e => by have := (hr g e.symm).1; omega)
    obtain ⟨t1, t2, t3, t4, t5, t6, t7, t8⟩ := HLT.out
    exact ⟨⟨⟨far _ _ hs.hs t1, far _ _ hs.hf t2, far _ _ hs.hn t3, far _ _ hs.ha t4, far _ _ hs.hb t5⟩, far _ _ h1 t6, far _ _ h2 t7, far _ _ h3 t8⟩, hb.grown hg hb.size (fun k e => Nat.le_trans hbase (hr k e).1), Nat.le_trans hz hg.size⟩
  case hAx =>
    rintro x a' u W W' row ⟨Bx, hB, hc, rfl⟩ hg hr
    exact ⟨Bx, hB, blk_far hg hc (fun e => by
      obtain ⟨_, o, ho, hno⟩ := hr Bx e.symm
      rw [hc] at ho
      cases ho
      cases hno), rfl⟩
  case hassign =>
    rintro l pre x W K ⟨⟨hs, h1, h2, h3⟩, hb, hz⟩ hK
    have hbb := (Bel.refl W).alloc (.cells #[.int .i64 x.1.2.v, .int .u8 x.1.2.m, .int .u8 x.1.2.c, .int .i64 x.1.2.r] 31)
    have hI2 := hK (actR n len cap lowA A ln lk V low.length g7 gs ga bx (.int .i64 x.1.1) (.pointer (some ⟨W.heap.size, 0, none⟩)) (.int .i64 x.1.1) (agg4 x.1.2)) (W.alloc (.cells #[.int .i64 x.1.2.v, .int .u8 x.1.2.m, .int .u8 x.1.2.c, .int .i64 x.1.2.r] 31)) ((KeepsOthers.alloc _ _).from _) ⟨hbb.block bx (blk_lt h3), Below.mono hbb hb.size⟩
      ⟨⟨⟨hbb.blk hs.hs, hs.hf.bel hbb, hs.hn.bel hbb, hs.ha.bel hbb, hs.hb.bel hbb⟩, hbb.blk h1, hbb.blk h2, hbb.blk h3⟩, hb.trans (Below.mono hbb hb.size), Nat.le_trans hz hbb.size⟩ ⟨W.heap.size, hz, blk1 W _, rfl⟩
    have HK := Lib.hid hI2
    clear hI2 hK hs h1 h2 h3 hb hz hbb
    simp only [actR, encQ]
    gi_wp2
    exact HK.out
  case hbody =>
    rintro l pre x a' W hl' ⟨r, hr⟩ ⟨⟨hs, h1, h2, h3⟩, hb, hz⟩ ⟨Bx, hBx, hcell, rfl⟩ hlt
    obtain ⟨c0, c1, c2, c3⟩ := cells4 hcell
    have HSW := Lib.hid hs
    have HCW := Lib.hid h1
    have H7W := Lib.hid h2
    have HXW := Lib.hid h3
    have HBW := Lib.hid hb
    have HZW := Lib.hid hz
    have HCE := Lib.hid hcell
    clear hs h1 h2 h3 hb hz hcell hr
    obtain ⟨bm, hbm⟩ : ∃ b, (x.1.2.m == 0) = b := ⟨_, rfl⟩
    have HBM := Lib.hid hbm
    have HH : Hid (∀ W, Calls Try.prog 61 #[.agg #[.int .i64 x.1.2.v, .int .u8 x.1.2.m, .int .u8 x.1.2.c, .int .i64 x.1.2.r]] W fun e w' => e = .returned (.bool bm) ∧ Bel W w') := Lib.hid fun W => by
      have h := hasLeft_any x.1.2 W; rw [hbm] at h; exact h
    clear hbm
    have efold : foldFN n len ((pre ++ [x]).map (·.1)) = stepFN (foldFN n len (pre.map (·.1))) x.1 := by simp [foldFN]
    obtain ⟨FN, hFN⟩ : ∃ FN, FN = foldFN n len (pre.map (·.1)) := ⟨_, rfl⟩
    rw [← hFN] at HSW efold
    have HLEN : Hid (FN.1.length = n ∧ FN.2.length = len) := Lib.hid (by rw [hFN]; exact fold_len n len _)
    clear hFN
    have HEF := Lib.hid efold
    clear efold
    cases bm
    all_goals
      simp only [actR, agg4]
      gi_wp2_with (refine ⟨trivial, ?_⟩; gi_at_call 61; refine (CallsIn.inRound l (callsIn_wide.2 (HH.out _))).mono ?_; rintro e w5 ⟨rfl, hb5⟩; (have HB5 := Lib.hid hb5); clear hb5 c0 c1 c2 c3)
      have HS5 : Hid (Sol w5 gs gf gn ga gb gc A len cap n FN.1 FN.2 G0 (List.replicate n 0)) := Lib.hid ⟨HB5.out.blk HSW.out.hs, HSW.out.hf.bel HB5.out, HSW.out.hn.bel HB5.out, HSW.out.ha.bel HB5.out, HSW.out.hb.bel HB5.out⟩
      have HC5 := Lib.hid (HB5.out.blk HCW.out)
      have H75 := Lib.hid (HB5.out.blk H7W.out)
      have HX5 := Lib.hid (HB5.out.blk HXW.out)
      have HBW5 : Hid (Below w.heap.size w w5) := Lib.hid (HBW.out.trans (Below.mono HB5.out HBW.out.size))
      have HK5 : Hid (KeepsFrom w4.heap.size W w5) := Lib.hid (KeepsFrom.of_grownBy (row := none) ⟨HB5.out.os, HB5.out.tape, HB5.out.output, HB5.out.size, fun k hk _ => HB5.out.block k hk⟩ (fun j e => by cases e))
      have HXE : Hid (w5.heap[bx]? = W.heap[bx]?) := Lib.hid (HB5.out.block bx (blk_lt HXW.out))
      have HKB : Hid (Below w.heap.size W w5) := Lib.hid (Below.mono HB5.out HBW.out.size)
      have HZ5 : Hid (w4.heap.size ≤ w5.heap.size) := Lib.hid (Nat.le_trans HZW.out HB5.out.size)
    · have hm : ¬ x.1.2.m = 0 := by have := HBM.out; simpa using this
      have hfin : Sol w5 gs gf gn ga gb gc A len cap n (foldFN n len ((pre ++ [x]).map (·.1))).1 (foldFN n len ((pre ++ [x]).map (·.1))).2 G0 (List.replicate n 0) := by
        rw [HEF.out]
        unfold stepFN
        rw [if_neg hm]
        exact HS5.out
      have HFIN := Lib.hid hfin
      clear hm hfin
      exact ⟨HK5.out, ⟨HXE.out, HKB.out⟩, ⟨⟨HFIN.out, HC5.out, H75.out, HX5.out⟩, HBW5.out, HZ5.out⟩⟩
    · have hm : x.1.2.m = 0 := by have := HBM.out; simpa using this
      obtain ⟨v0, v1⟩ := x.2.2 hm
      have xlt := x.2.1
      have q7 : w5.cell? ⟨g7, 0, none⟩ = some (.pointer (some ⟨gs, 0, none⟩)) := by simp [World.cell?, H75.out]
      have q1 : w5.cell? ⟨gs, 1, none⟩ = some (.slice (some ⟨gf, 0, none⟩) n n) := by simp [World.cell?, HS5.out.hs, cellsS]
      have q2 : w5.cell? ⟨gs, 2, none⟩ = some (.slice (some ⟨gn, 0, none⟩) len len) := by simp [World.cell?, HS5.out.hs, cellsS]
      have qx : w5.cell? ⟨Bx, 0, none⟩ = some (.int .i64 x.1.2.v) := by simp [World.cell?, HB5.out.blk HCE.out]
      have qf := HS5.out.hf.cell (j := x.1.2.v.toNat) (by have := HLEN.out.1; omega)
      have qff := HS5.out.hf.frozen x.1.2.v.toNat
      have qn := HS5.out.hn.cell (j := x.1.1) (by have := HLEN.out.2; omega)
      have qnf := HS5.out.hn.frozen x.1.1
      have i1 : ((x.1.1 : Nat) : Int) < (len : Int) := by omega
      have i2 : (0 : Int) ≤ ((x.1.1 : Nat) : Int) := by omega
      obtain ⟨y, hy⟩ : ∃ y, y = FN.1[x.1.2.v.toNat]?.getD 0 := ⟨_, rfl⟩
      rw [← hy] at qf
      have n1 : gf ≠ gn := HD.out.1.2.2.1.1
      have hfin : Sol ((w5.setCell ⟨gn, x.1.1, none⟩ (.int .i64 y)).setCell ⟨gf, x.1.2.v.toNat, none⟩ (.int .i64 x.1.1)) gs gf gn ga gb gc A len cap n (foldFN n len ((pre ++ [x]).map (·.1))).1 (foldFN n len ((pre ++ [x]).map (·.1))).2 G0 (List.replicate n 0) := by
        rw [HEF.out]
        unfold stepFN
        rw [if_pos hm, ← hy]
        exact ⟨blk_off (blk_off HS5.out.hs (fun e => HD.out.1.2.1.2.1 e.symm) _) (fun e => HD.out.1.2.1.1 e.symm) _, (HS5.out.hf.off (fun e => n1 e.symm) _).set_ _ _, (HS5.out.hn.set_ _ _).off n1 _, (HS5.out.ha.off HD.out.1.2.2.2.1.1 _).off HD.out.1.2.2.1.2.1 _, (HS5.out.hb.off HD.out.1.2.2.2.1.2.1 _).off HD.out.1.2.2.1.2.2.1 _⟩
      have HFIN := Lib.hid hfin
      have HC6 := Lib.hid (blk_off (blk_off HC5.out (p := ⟨gn, x.1.1, none⟩) HD.out.1.2.2.2.1.2.2 (.int .i64 y)) (p := ⟨gf, x.1.2.v.toNat, none⟩) HD.out.1.2.2.1.2.2.2 (.int .i64 x.1.1))
      have H76 := Lib.hid (blk_off (blk_off H75.out (p := ⟨gn, x.1.1, none⟩) (fun e => HD.out.2.1.2.2.1 e.symm) (.int .i64 y)) (p := ⟨gf, x.1.2.v.toNat, none⟩) (fun e => HD.out.2.1.2.1 e.symm) (.int .i64 x.1.1))
      have HX6 := Lib.hid (blk_off (blk_off HX5.out (p := ⟨gn, x.1.1, none⟩) (Nat.ne_of_lt HBD.out.2.2.1) (.int .i64 y)) (p := ⟨gf, x.1.2.v.toNat, none⟩) (Nat.ne_of_lt HBD.out.2.1) (.int .i64 x.1.1))
      have HKB6 : Hid (Below w.heap.size W ((w5.setCell ⟨gn, x.1.1, none⟩ (.int .i64 y)).setCell ⟨gf, x.1.2.v.toNat, none⟩ (.int .i64 x.1.1))) := Lib.hid ((HKB.out.setCell (p := ⟨gn, x.1.1, none⟩) HD.out.1.1.2.2.1 _).setCell (p := ⟨gf, x.1.2.v.toNat, none⟩) HD.out.1.1.2.1 _)
      have HK6 : Hid (KeepsFrom w4.heap.size W ((w5.setCell ⟨gn, x.1.1, none⟩ (.int .i64 y)).setCell ⟨gf, x.1.2.v.toNat, none⟩ (.int .i64 x.1.1))) := Lib.hid ((HK5.out.trans ((KeepsOthers.setCell _ _ _).from _)).trans ((KeepsOthers.setCell _ _ _).from _))
      have hBne : Bx ≠ gn ∧ Bx ≠ gf := ⟨fun e => by have := HLT.out.2.2.1; omega, fun e => by have := HLT.out.2.1; omega⟩
      have hS1 : (w5.setCell ⟨gn, x.1.1, none⟩ (.int .i64 y)).cell? ⟨g7, 0, none⟩ = some (.pointer (some ⟨gs, 0, none⟩)) ∧ (w5.setCell ⟨gn, x.1.1, none⟩ (.int .i64 y)).cell? ⟨gs, 1, none⟩ = some (.slice (some ⟨gf, 0, none⟩) n n) ∧ (w5.setCell ⟨gn, x.1.1, none⟩ (.int .i64 y)).cell? ⟨gs, 2, none⟩ = some (.slice (some ⟨gn, 0, none⟩) len len) ∧ (w5.setCell ⟨gn, x.1.1, none⟩ (.int .i64 y)).cell? ⟨Bx, 0, none⟩ = some (.int .i64 x.1.2.v) :=
        ⟨(World.cell?_setCell_far _ _ _ _ (fun e => HD.out.2.1.2.2.1 e.symm)).trans q7, (World.cell?_setCell_far _ _ _ _ (fun e => HD.out.1.2.1.2.1 e.symm)).trans q1, (World.cell?_setCell_far _ _ _ _ (fun e => HD.out.1.2.1.2.1 e.symm)).trans q2, (World.cell?_setCell_far _ _ _ _ (fun e => hBne.1 e.symm)).trans qx⟩
      have hS2 : ((w5.setCell ⟨gn, x.1.1, none⟩ (.int .i64 y)).setCell ⟨gf, x.1.2.v.toNat, none⟩ (.int .i64 x.1.1)).cell? ⟨g7, 0, none⟩ = some (.pointer (some ⟨gs, 0, none⟩)) ∧ ((w5.setCell ⟨gn, x.1.1, none⟩ (.int .i64 y)).setCell ⟨gf, x.1.2.v.toNat, none⟩ (.int .i64 x.1.1)).cell? ⟨gs, 1, none⟩ = some (.slice (some ⟨gf, 0, none⟩) n n) ∧ ((w5.setCell ⟨gn, x.1.1, none⟩ (.int .i64 y)).setCell ⟨gf, x.1.2.v.toNat, none⟩ (.int .i64 x.1.1)).cell? ⟨gs, 2, none⟩ = some (.slice (some ⟨gn, 0, none⟩) len len) ∧ ((w5.setCell ⟨gn, x.1.1, none⟩ (.int .i64 y)).setCell ⟨gf, x.1.2.v.toNat, none⟩ (.int .i64 x.1.1)).cell? ⟨Bx, 0, none⟩ = some (.int .i64 x.1.2.v) :=
        ⟨(World.cell?_setCell_far _ _ _ _ (fun e => HD.out.2.1.2.1 e.symm)).trans hS1.1, (World.cell?_setCell_far _ _ _ _ (fun e => HD.out.1.2.1.1 e.symm)).trans hS1.2.1, (World.cell?_setCell_far _ _ _ _ (fun e => HD.out.1.2.1.1 e.symm)).trans hS1.2.2.1, (World.cell?_setCell_far _ _ _ _ (fun e => hBne.2 e.symm)).trans hS1.2.2.2⟩
      have qf2 : (w5.setCell ⟨gn, x.1.1, none⟩ (.int .i64 y)).cell? ⟨gf, x.1.2.v.toNat, none⟩ = some (.int .i64 y) := (World.cell?_setCell_far _ _ _ _ (fun e => n1 e.symm)).trans qf
      have HS1' := Lib.hid hS1
      have HS2' := Lib.hid hS2
      clear hy hfin hBne hS1 hS2 n1
      refine region_round (by kernel_rfl) (by kernel_rfl) (by rintro ⟨_, _, h⟩; exact h) ?_
      refine wpAny_of_held (S := fun w' => w'.cell? ⟨g7, 0, none⟩ = some (.pointer (some ⟨gs, 0, none⟩)) ∧ w'.cell? ⟨gs, 1, none⟩ = some (.slice (some ⟨gf, 0, none⟩) n n) ∧ w'.cell? ⟨gs, 2, none⟩ = some (.slice (some ⟨gn, 0, none⟩) len len) ∧ w'.cell? ⟨Bx, 0, none⟩ = some (.int .i64 x.1.2.v)) _ _ _ _ ?_
      have hHeld : (fun w' : World => w'.cell? ⟨g7, 0, none⟩ = some (.pointer (some ⟨gs, 0, none⟩)) ∧ w'.cell? ⟨gs, 1, none⟩ = some (.slice (some ⟨gf, 0, none⟩) n n) ∧ w'.cell? ⟨gs, 2, none⟩ = some (.slice (some ⟨gn, 0, none⟩) len len) ∧ w'.cell? ⟨Bx, 0, none⟩ = some (.int .i64 x.1.2.v)) w5.drew := ⟨q7, q1, q2, qx⟩
      refine wpAnyH_take (i := 0) (oi := { dst := some 38, op := Op.load 69 (Operand.tmp 7), type := 69, pos := "least.go:78", after := #[], guard := none }) (v := ?_) rfl (by kernel_rfl) (by kernel_rfl) (by kernel_rfl) (fun _ _ _ h => h) (Or.inl ⟨by rfl, ?_⟩) (by assumption) ?_
      rotate_left
      · ((intro w hSw; (try dsimp only at hSw); go_simp); all_goals with_reducible rfl)
      simp only [Act.put, List.setIfInBounds_toArray, List.set_cons_zero, List.set_cons_succ]
      refine wpAnyH_take (i := 1) (oi := { dst := some 39, op := Op.nilCheck (Operand.tmp 38), type := 0, pos := "least.go:78", after := #[{ on := 0, ground := Ground.data }], guard := none }) (v := ?_) rfl (by kernel_rfl) (by kernel_rfl) (by kernel_rfl) (fun _ _ _ h => h) (Or.inl ⟨by rfl, ?_⟩) (by assumption) ?_
      rotate_left
      · ((intro w hSw; (try dsimp only at hSw); go_simp); all_goals with_reducible rfl)
      simp only [Act.put, List.setIfInBounds_toArray, List.set_cons_zero, List.set_cons_succ]
      refine wpAnyH_take (i := 2) (oi := { dst := some 40, op := Op.fieldAddr 75 (Operand.tmp 39) 2, type := 0, pos := "least.go:78", after := #[{ on := 1, ground := Ground.data }], guard := none }) (v := ?_) rfl (by kernel_rfl) (by kernel_rfl) (by kernel_rfl) (fun _ _ _ h => h) (Or.inl ⟨by rfl, ?_⟩) (by assumption) ?_
      rotate_left
      · ((intro w hSw; (try dsimp only at hSw); go_simp); all_goals with_reducible rfl)
      simp only [Act.put, List.setIfInBounds_toArray, List.set_cons_zero, List.set_cons_succ]
      refine wpAnyH_take (i := 3) (oi := { dst := some 41, op := Op.load 23 (Operand.tmp 40), type := 23, pos := "least.go:78", after := #[{ on := 2, ground := Ground.data }], guard := none }) (v := ?_) rfl (by kernel_rfl) (by kernel_rfl) (by kernel_rfl) (fun _ _ _ h => h) (Or.inl ⟨by rfl, ?_⟩) (by assumption) ?_
      rotate_left
      · ((intro w hSw; (try dsimp only at hSw); go_simp); all_goals with_reducible rfl)
      simp only [Act.put, List.setIfInBounds_toArray, List.set_cons_zero, List.set_cons_succ]
      refine wpAnyH_take (i := 4) (oi := { dst := some 42, op := Op.move (Operand.tmp 8), type := 3, pos := "least.go:78", after := #[], guard := none }) (v := ?_) rfl (by kernel_rfl) (by kernel_rfl) (by kernel_rfl) (fun _ _ _ h => h) (Or.inl ⟨by rfl, ?_⟩) (by assumption) ?_
      rotate_left
      · ((intro w hSw; (try dsimp only at hSw); go_simp); all_goals with_reducible rfl)
      simp only [Act.put, List.setIfInBounds_toArray, List.set_cons_zero, List.set_cons_succ]
      refine wpAnyH_take (i := 5) (oi := { dst := some 43, op := Op.load 69 (Operand.tmp 7), type := 69, pos := "least.go:78", after := #[], guard := none }) (v := ?_) rfl (by kernel_rfl) (by kernel_rfl) (by kernel_rfl) (fun _ _ _ h => h) (Or.inl ⟨by rfl, ?_⟩) (by assumption) ?_
      rotate_left
      · ((intro w hSw; (try dsimp only at hSw); go_simp); all_goals with_reducible rfl)
      simp only [Act.put, List.setIfInBounds_toArray, List.set_cons_zero, List.set_cons_succ]
      refine wpAnyH_take (i := 6) (oi := { dst := some 44, op := Op.nilCheck (Operand.tmp 43), type := 0, pos := "least.go:78", after := #[{ on := 5, ground := Ground.data }], guard := none }) (v := ?_) rfl (by kernel_rfl) (by kernel_rfl) (by kernel_rfl) (fun _ _ _ h => h) (Or.inl ⟨by rfl, ?_⟩) (by assumption) ?_
      rotate_left
      · ((intro w hSw; (try dsimp only at hSw); go_simp); all_goals with_reducible rfl)
      simp only [Act.put, List.setIfInBounds_toArray, List.set_cons_zero, List.set_cons_succ]
      refine wpAnyH_take (i := 7) (oi := { dst := some 45, op := Op.fieldAddr 75 (Operand.tmp 44) 1, type := 0, pos := "least.go:78", after := #[{ on := 6, ground := Ground.data }], guard := none }) (v := ?_) rfl (by kernel_rfl) (by kernel_rfl) (by kernel_rfl) (fun _ _ _ h => h) (Or.inl ⟨by rfl, ?_⟩) (by assumption) ?_
      rotate_left
      · ((intro w hSw; (try dsimp only at hSw); go_simp); all_goals with_reducible rfl)
      simp only [Act.put, List.setIfInBounds_toArray, List.set_cons_zero, List.set_cons_succ]
      refine wpAnyH_take (i := 8) (oi := { dst := some 46, op := Op.load 23 (Operand.tmp 45), type := 23, pos := "least.go:78", after := #[{ on := 7, ground := Ground.data }], guard := none }) (v := ?_) rfl (by kernel_rfl) (by kernel_rfl) (by kernel_rfl) (fun _ _ _ h => h) (Or.inl ⟨by rfl, ?_⟩) (by assumption) ?_
      rotate_left
      · ((intro w hSw; (try dsimp only at hSw); go_simp); all_goals with_reducible rfl)
      simp only [Act.put, List.setIfInBounds_toArray, List.set_cons_zero, List.set_cons_succ]
      refine wpAnyH_take (i := 9) (oi := { dst := some 47, op := Op.fieldAddr 31 (Operand.tmp 9) 0, type := 0, pos := "least.go:78", after := #[{ on := 23, ground := Ground.gcOnly Departure.lateStores }], guard := none }) (v := ?_) rfl (by kernel_rfl) (by kernel_rfl) (by kernel_rfl) (fun _ _ _ h => h) (Or.inl ⟨by rfl, ?_⟩) (by assumption) ?_
      rotate_left
      · ((intro w hSw; (try dsimp only at hSw); go_simp); all_goals with_reducible rfl)
      simp only [Act.put, List.setIfInBounds_toArray, List.set_cons_zero, List.set_cons_succ]
      refine wpAnyH_take (i := 10) (oi := { dst := some 48, op := Op.fieldAddr 29 (Operand.tmp 47) 0, type := 0, pos := "least.go:78", after := #[{ on := 9, ground := Ground.data }, { on := 23, ground := Ground.gcOnly Departure.lateStores }], guard := none }) (v := ?_) rfl (by kernel_rfl) (by kernel_rfl) (by kernel_rfl) (fun _ _ _ h => h) (Or.inl ⟨by rfl, ?_⟩) (by assumption) ?_
      rotate_left
      · ((intro w hSw; (try dsimp only at hSw); go_simp); all_goals with_reducible rfl)
      simp only [Act.put, List.setIfInBounds_toArray, List.set_cons_zero, List.set_cons_succ]
      refine wpAnyH_take (i := 11) (oi := { dst := some 49, op := Op.load 3 (Operand.tmp 48), type := 3, pos := "least.go:78", after := #[{ on := 10, ground := Ground.data }, { on := 23, ground := Ground.gcOnly Departure.lateStores }], guard := none }) (v := ?_) rfl (by kernel_rfl) (by kernel_rfl) (by kernel_rfl) (fun _ _ _ h => h) (Or.inl ⟨by rfl, ?_⟩) (by assumption) ?_
      rotate_left
      · ((intro w hSw; (try dsimp only at hSw); go_simp); all_goals with_reducible rfl)
      simp only [Act.put, List.setIfInBounds_toArray, List.set_cons_zero, List.set_cons_succ]
      refine wpAnyH_take (i := 12) (oi := { dst := some 50, op := Op.load 69 (Operand.tmp 7), type := 69, pos := "least.go:78", after := #[], guard := none }) (v := ?_) rfl (by kernel_rfl) (by kernel_rfl) (by kernel_rfl) (fun _ _ _ h => h) (Or.inl ⟨by rfl, ?_⟩) (by assumption) ?_
      rotate_left
      · ((intro w hSw; (try dsimp only at hSw); go_simp); all_goals with_reducible rfl)
      simp only [Act.put, List.setIfInBounds_toArray, List.set_cons_zero, List.set_cons_succ]
      refine wpAnyH_take (i := 13) (oi := { dst := some 51, op := Op.nilCheck (Operand.tmp 50), type := 0, pos := "least.go:78", after := #[{ on := 12, ground := Ground.data }], guard := none }) (v := ?_) rfl (by kernel_rfl) (by kernel_rfl) (by kernel_rfl) (fun _ _ _ h => h) (Or.inl ⟨by rfl, ?_⟩) (by assumption) ?_
      rotate_left
      · ((intro w hSw; (try dsimp only at hSw); go_simp); all_goals with_reducible rfl)
      simp only [Act.put, List.setIfInBounds_toArray, List.set_cons_zero, List.set_cons_succ]
      refine wpAnyH_take (i := 14) (oi := { dst := some 52, op := Op.fieldAddr 75 (Operand.tmp 51) 1, type := 0, pos := "least.go:78", after := #[{ on := 13, ground := Ground.data }], guard := none }) (v := ?_) rfl (by kernel_rfl) (by kernel_rfl) (by kernel_rfl) (fun _ _ _ h => h) (Or.inl ⟨by rfl, ?_⟩) (by assumption) ?_
      rotate_left
      · ((intro w hSw; (try dsimp only at hSw); go_simp); all_goals with_reducible rfl)
      simp only [Act.put, List.setIfInBounds_toArray, List.set_cons_zero, List.set_cons_succ]
      refine wpAnyH_take (i := 15) (oi := { dst := some 53, op := Op.load 23 (Operand.tmp 52), type := 23, pos := "least.go:78", after := #[{ on := 14, ground := Ground.data }], guard := none }) (v := ?_) rfl (by kernel_rfl) (by kernel_rfl) (by kernel_rfl) (fun _ _ _ h => h) (Or.inl ⟨by rfl, ?_⟩) (by assumption) ?_
      rotate_left
      · ((intro w hSw; (try dsimp only at hSw); go_simp); all_goals with_reducible rfl)
      simp only [Act.put, List.setIfInBounds_toArray, List.set_cons_zero, List.set_cons_succ]
      refine wpAnyH_take (i := 16) (oi := { dst := some 54, op := Op.fieldAddr 31 (Operand.tmp 9) 0, type := 0, pos := "least.go:78", after := #[], guard := none }) (v := ?_) rfl (by kernel_rfl) (by kernel_rfl) (by kernel_rfl) (fun _ _ _ h => h) (Or.inl ⟨by rfl, ?_⟩) (by assumption) ?_
      rotate_left
      · ((intro w hSw; (try dsimp only at hSw); go_simp); all_goals with_reducible rfl)
      simp only [Act.put, List.setIfInBounds_toArray, List.set_cons_zero, List.set_cons_succ]
      refine wpAnyH_take (i := 17) (oi := { dst := some 55, op := Op.fieldAddr 29 (Operand.tmp 54) 0, type := 0, pos := "least.go:78", after := #[{ on := 16, ground := Ground.data }], guard := none }) (v := ?_) rfl (by kernel_rfl) (by kernel_rfl) (by kernel_rfl) (fun _ _ _ h => h) (Or.inl ⟨by rfl, ?_⟩) (by assumption) ?_
      rotate_left
      · ((intro w hSw; (try dsimp only at hSw); go_simp); all_goals with_reducible rfl)
      simp only [Act.put, List.setIfInBounds_toArray, List.set_cons_zero, List.set_cons_succ]
      refine wpAnyH_take (i := 18) (oi := { dst := some 56, op := Op.load 3 (Operand.tmp 55), type := 3, pos := "least.go:78", after := #[{ on := 17, ground := Ground.data }], guard := none }) (v := ?_) rfl (by kernel_rfl) (by kernel_rfl) (by kernel_rfl) (fun _ _ _ h => h) (Or.inl ⟨by rfl, ?_⟩) (by assumption) ?_
      rotate_left
      · ((intro w hSw; (try dsimp only at hSw); go_simp); all_goals with_reducible rfl)
      simp only [Act.put, List.setIfInBounds_toArray, List.set_cons_zero, List.set_cons_succ]
      refine wpAnyH_take (i := 19) (oi := { dst := some 57, op := Op.indexAddr 23 (Operand.tmp 53) (Operand.tmp 56), type := 0, pos := "least.go:78", after := #[{ on := 15, ground := Ground.data }, { on := 18, ground := Ground.data }], guard := none }) (v := ?_) rfl (by kernel_rfl) (by kernel_rfl) (by kernel_rfl) (fun _ _ _ h => h) (Or.inl ⟨by rfl, ?_⟩) (by assumption) ?_
      rotate_left
      · ((intro w hSw; (try dsimp only at hSw); go_simp); all_goals with_reducible rfl)
      simp only [Act.put, List.setIfInBounds_toArray, List.set_cons_zero, List.set_cons_succ]
      refine wpAnyH_take (i := 21) (oi := { dst := some 59, op := Op.move (Operand.tmp 8), type := 3, pos := "least.go:78", after := #[{ on := 23, ground := Ground.gcOnly Departure.lateStores }], guard := none }) (v := ?_) rfl (by kernel_rfl) (by kernel_rfl) (by kernel_rfl) (fun _ _ _ h => h) (Or.inl ⟨by rfl, ?_⟩) (by assumption) ?_
      rotate_left
      · ((intro w hSw; (try dsimp only at hSw); go_simp); all_goals with_reducible rfl)
      simp only [Act.put, List.setIfInBounds_toArray, List.set_cons_zero, List.set_cons_succ]
      refine wpAnyH_ready (rs := [20]) (by kernel_rfl) (by simp) ?_
      refine AllReadyH.cons (o := { dst := some 58, op := Op.load 3 (Operand.tmp 57), type := 3, pos := "least.go:78", after := #[{ on := 19, ground := Ground.data }], guard := none }) rfl (fun K hK => ?_) AllReadyH.nil
      go_simp
      refine hK.out _ _ ?_ (fun hHeld => ?_)
      · exact ⟨q7, q1, q2, qx⟩
      clear hK K
      (try simp only [Act.put, List.setIfInBounds_toArray, List.set_cons_zero, List.set_cons_succ])
      refine wpAnyH_take (i := 22) (oi := { dst := some 60, op := Op.indexAddr 23 (Operand.tmp 41) (Operand.tmp 42), type := 0, pos := "least.go:78", after := #[{ on := 3, ground := Ground.data }, { on := 4, ground := Ground.data }, { on := 0, ground := Ground.phase }, { on := 1, ground := Ground.phase }, { on := 2, ground := Ground.phase }, { on := 3, ground := Ground.phase }, { on := 4, ground := Ground.phase }, { on := 5, ground := Ground.textOnly Departure.lateStores }, { on := 6, ground := Ground.textOnly Departure.lateStoresUnsure }, { on := 7, ground := Ground.textOnly Departure.lateStoresUnsure }, { on := 8, ground := Ground.phase }, { on := 9, ground := Ground.textOnly Departure.lateStores }, { on := 10, ground := Ground.textOnly Departure.lateStores }, { on := 11, ground := Ground.textOnly Departure.lateStores }, { on := 12, ground := Ground.phase }, { on := 13, ground := Ground.phase }, { on := 14, ground := Ground.phase }, { on := 15, ground := Ground.phase }, { on := 16, ground := Ground.phase }, { on := 17, ground := Ground.phase }, { on := 18, ground := Ground.phase }, { on := 19, ground := Ground.phase }, { on := 20, ground := Ground.phase }, { on := 21, ground := Ground.textOnly Departure.lateStores }], guard := none }) (v := ?_) rfl (by kernel_rfl) (by kernel_rfl) (by kernel_rfl) (fun _ _ _ h => h) (Or.inl ⟨by rfl, ?_⟩) (by assumption) ?_
      rotate_left
      · ((intro w hSw; (try dsimp only at hSw); go_simp); all_goals with_reducible rfl)
      simp only [Act.put, List.setIfInBounds_toArray, List.set_cons_zero, List.set_cons_succ]
      refine wpAnyH_ready (rs := [23]) (by kernel_rfl) (by simp) ?_
      refine AllReadyH.cons (o := { dst := none, op := Op.store 3 (Operand.tmp 60) (Operand.tmp 58), type := 0, pos := "least.go:78", after := #[{ on := 22, ground := Ground.data }, { on := 20, ground := Ground.data }, { on := 0, ground := Ground.phase }, { on := 1, ground := Ground.phase }, { on := 2, ground := Ground.phase }, { on := 3, ground := Ground.phase }, { on := 4, ground := Ground.phase }, { on := 5, ground := Ground.textOnly Departure.lateStores }, { on := 6, ground := Ground.textOnly Departure.lateStoresUnsure }, { on := 7, ground := Ground.textOnly Departure.lateStoresUnsure }, { on := 8, ground := Ground.phase }, { on := 9, ground := Ground.textOnly Departure.lateStores }, { on := 10, ground := Ground.textOnly Departure.lateStores }, { on := 11, ground := Ground.textOnly Departure.lateStores }, { on := 12, ground := Ground.phase }, { on := 13, ground := Ground.phase }, { on := 14, ground := Ground.phase }, { on := 15, ground := Ground.phase }, { on := 16, ground := Ground.phase }, { on := 17, ground := Ground.phase }, { on := 18, ground := Ground.phase }, { on := 19, ground := Ground.phase }, { on := 20, ground := Ground.phase }, { on := 21, ground := Ground.textOnly Departure.lateStores }], guard := none }) rfl (fun K hK => ?_) AllReadyH.nil
      go_simp
      refine hK.out _ _ ?_ (fun hHeld => ?_)
      · exact HS1'.out
      clear hK K
      (try simp only [Act.put, List.setIfInBounds_toArray, List.set_cons_zero, List.set_cons_succ])
      refine wpAnyH_take (i := 24) (oi := { dst := some 61, op := Op.indexAddr 23 (Operand.tmp 46) (Operand.tmp 49), type := 0, pos := "least.go:78", after := #[{ on := 8, ground := Ground.data }, { on := 11, ground := Ground.data }, { on := 0, ground := Ground.phase }, { on := 1, ground := Ground.phase }, { on := 2, ground := Ground.phase }, { on := 3, ground := Ground.phase }, { on := 4, ground := Ground.phase }, { on := 5, ground := Ground.phase }, { on := 6, ground := Ground.phase }, { on := 7, ground := Ground.phase }, { on := 8, ground := Ground.phase }, { on := 9, ground := Ground.phase }, { on := 10, ground := Ground.phase }, { on := 11, ground := Ground.phase }, { on := 12, ground := Ground.phase }, { on := 13, ground := Ground.phase }, { on := 14, ground := Ground.phase }, { on := 15, ground := Ground.phase }, { on := 16, ground := Ground.phase }, { on := 17, ground := Ground.phase }, { on := 18, ground := Ground.phase }, { on := 19, ground := Ground.phase }, { on := 20, ground := Ground.phase }, { on := 21, ground := Ground.phase }, { on := 22, ground := Ground.phase }, { on := 23, ground := Ground.phase }], guard := none }) (v := ?_) rfl (by kernel_rfl) (by kernel_rfl) (by kernel_rfl) (fun _ _ _ h => h) (Or.inl ⟨by rfl, ?_⟩) (by assumption) ?_
      rotate_left
      · ((intro w hSw; (try dsimp only at hSw); go_simp); all_goals with_reducible rfl)
      simp only [Act.put, List.setIfInBounds_toArray, List.set_cons_zero, List.set_cons_succ]
      refine wpAnyH_ready (rs := [25]) (by kernel_rfl) (by simp) ?_
      refine AllReadyH.cons (o := { dst := none, op := Op.store 3 (Operand.tmp 61) (Operand.tmp 59), type := 0, pos := "least.go:78", after := #[{ on := 24, ground := Ground.data }, { on := 21, ground := Ground.data }, { on := 23, ground := Ground.chain }, { on := 0, ground := Ground.phase }, { on := 1, ground := Ground.phase }, { on := 2, ground := Ground.phase }, { on := 3, ground := Ground.phase }, { on := 4, ground := Ground.phase }, { on := 5, ground := Ground.phase }, { on := 6, ground := Ground.phase }, { on := 7, ground := Ground.phase }, { on := 8, ground := Ground.phase }, { on := 9, ground := Ground.phase }, { on := 10, ground := Ground.phase }, { on := 11, ground := Ground.phase }, { on := 12, ground := Ground.phase }, { on := 13, ground := Ground.phase }, { on := 14, ground := Ground.phase }, { on := 15, ground := Ground.phase }, { on := 16, ground := Ground.phase }, { on := 17, ground := Ground.phase }, { on := 18, ground := Ground.phase }, { on := 19, ground := Ground.phase }, { on := 20, ground := Ground.phase }, { on := 21, ground := Ground.phase }, { on := 22, ground := Ground.phase }, { on := 23, ground := Ground.phase }], guard := none }) rfl (fun K hK => ?_) AllReadyH.nil
      go_simp
      refine hK.out _ _ ?_ (fun hHeld => ?_)
      · exact HS2'.out
      clear hK K
      (try simp only [Act.put, List.setIfInBounds_toArray, List.set_cons_zero, List.set_cons_succ])
      refine wpAnyH_done (by kernel_rfl) ?_ _
      exact ⟨HK6.out.trans ((KeepsOthers.drew _).from _), ⟨HX6.out.trans HXW.out.symm, ⟨HKB6.out.os, HKB6.out.tape, HKB6.out.output, HKB6.out.size, HKB6.out.block⟩⟩, ⟨⟨⟨HFIN.out.hs, HFIN.out.hf, HFIN.out.hn, HFIN.out.ha, HFIN.out.hb⟩, HC6.out, H76.out, HX6.out⟩, (let h := HBW.out.trans HKB6.out; ⟨h.os, h.tape, h.output, h.size, h.block⟩), (by
        have h := HZ5.out
        show w4.heap.size ≤ ((w5.setCell ⟨gn, x.1.1, none⟩ (.int .i64 y)).setCell ⟨gf, x.1.2.v.toNat, none⟩ (.int .i64 x.1.1)).heap.size
        simpa using h)⟩⟩
  case hdone =>
    rintro D ys W hD hy ⟨⟨hs, h1, h2, h3⟩, hb, hz⟩ hK
    rw [hy] at hs
    have q7 : W.cell? ⟨g7, 0, none⟩ = some (.pointer (some ⟨gs, 0, none⟩)) := by simp [World.cell?, h2]
    have HSW := Lib.hid hs
    have HCW := Lib.hid h1
    have HBW := Lib.hid hb
    have HKD := Lib.hid hK
    have HDD := Lib.hid hD
    clear hs h1 h2 h3 hb hz hK hD hy
    simp only [actR]
    go_wp2_with fail
    refine ⟨by simp, .inl ⟨_, _, rfl, run_takeDeferred HKD.out, ?_⟩⟩
    refine ⟨_, results_tmp rfl _ _ _, ?_⟩
    have hgb : W.grownBy (W.putObj D (.deferred none)) (some D) := grownBy_putObj' W D _
    have hd : w4.heap.size ≤ D := by first | exact HDD.out | exact Nat.le_of_lt HDD.out
    have far : ∀ g o, W.heap[g]? = some o → g < w4.heap.size → (W.putObj D (.deferred none)).heap[g]? = some o := fun g o h hlt => blk_far hgb h (fun e => by have := Option.some.inj e; omega)
    obtain ⟨t1, t2, t3, t4, t5, t6, t7, t8⟩ := HLT.out
    have hG := HG0.out
    refine ⟨gs, gf, gn, ga, gb, gc, rfl, HD.out.1, ?_, far _ _ HCW.out t6, ?_⟩
    · rw [← hG]
      exact ⟨far _ _ HSW.out.hs t1, far _ _ HSW.out.hf t2, far _ _ HSW.out.hn t3, far _ _ HSW.out.ha t4, far _ _ HSW.out.hb t5⟩
    · exact HBW.out.grown hgb HBW.out.size (fun k hk => by cases hk; omega)
end Go.Proofs.Ytjgpkolfcpoinaa.Mu

