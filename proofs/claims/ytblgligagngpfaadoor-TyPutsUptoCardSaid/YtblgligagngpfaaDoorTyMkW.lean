/-
  The statements' own small makers of types; the names.
  The statements' own small test of layer 6, walked.
-/
import Derived.Test.YtblgligagngpfaaDoorTyWrite
import Derived.Test.YtblgligagngpfaaDoorTyPuta
namespace Go.Proofs.YtblgligagngpfaaDoor.Mu
open Go.ChangeShapes Go.WideShapes Go.ChangeAt Go.RowKit Go.Shelf

attribute [local go_sem] Oper.semAt_some
set_option linter.unusedVariables false

theorem blk_at {w : World} {g : Nat} {cs : Array Value} {t : TypeId} (h : g = w.heap.size) : (w.alloc (.cells cs t)).heap[g]? = some (.cells cs t (0, 0)) := by
  subst h
  exact blk1 w _
set_option maxRecDepth 100000 in
theorem mkV_any (n : Int) (w : World) : Calls Tryd.prog 21 #[.int .i64 n] w fun e w' => e = .returned (.agg #[.int .u8 1, .int .i64 n, .int .i64 0, .int .u8 0, .slice none 0 0]) ∧ Bel w w' := by
  go_enter Tryd.func21, Tryd.ntmps21
  go_wp2_with fail
  refine bodyPost_ret (v := .agg #[.int .u8 1, .int .i64 n, .int .i64 0, .int .u8 0, .slice none 0 0]) (by simp [results, Tryd.results21, go_sem]) rfl ?_
  refine ⟨rfl, ?_⟩
  repeat (first | exact Bel.refl _ | apply Bel.alloc | apply Bel.drew)
set_option maxRecDepth 100000 in
theorem mkOf_any (k : Int) (A : Option Addr) (len cap : Nat) (w : World) : Calls Tryd.prog 22 #[.int .u8 k, .slice A len cap] w fun e w' => e = .returned (.agg #[.int .u8 k, .int .i64 0, .int .i64 0, .int .u8 0, .slice A len cap]) ∧ Bel w w' := by
  go_enter Tryd.func22, Tryd.ntmps22
  go_wp2_with fail
  refine bodyPost_ret (v := .agg #[.int .u8 k, .int .i64 0, .int .i64 0, .int .u8 0, .slice A len cap]) (by simp [results, Tryd.results22, go_sem]) rfl ?_
  refine ⟨rfl, ?_⟩
  repeat (first | exact Bel.refl _ | apply Bel.alloc | apply Bel.drew)
/-- A function of the first to the second, in a new list. -/
def FunP (m0 m1 k1 n1 v1 c1 k2 n2 v2 c2 : Int) (A1 : Option Addr) (l1 p1 : Nat) (A2 : Option Addr) (l2 p2 : Nat) (w : World) (e : Ending) (w' : World) : Prop :=
  ∃ g, e = .returned (.agg #[.int .u8 7, .int .i64 0, .int .i64 m0, .int .u8 m1, .slice (some ⟨g, 0, none⟩) 2 2]) ∧ w.heap.size ≤ g ∧ w'.heap[g]? = some (.cells #[.int .u8 k1, .int .i64 n1, .int .i64 v1, .int .u8 c1, .slice A1 l1 p1, .int .u8 k2, .int .i64 n2, .int .i64 v2, .int .u8 c2, .slice A2 l2 p2] 27 (0, 0)) ∧ Bel w w'
set_option maxRecDepth 100000 in
theorem mkFun_any (m0 m1 k1 n1 v1 c1 k2 n2 v2 c2 : Int) (A1 : Option Addr) (l1 p1 : Nat) (A2 : Option Addr) (l2 p2 : Nat) (w : World) : Calls Tryd.prog 20 #[.agg #[.int .u8 k1, .int .i64 n1, .int .i64 v1, .int .u8 c1, .slice A1 l1 p1], .agg #[.int .i64 m0, .int .u8 m1], .agg #[.int .u8 k2, .int .i64 n2, .int .i64 v2, .int .u8 c2, .slice A2 l2 p2]] w (FunP m0 m1 k1 n1 v1 c1 k2 n2 v2 c2 A1 l1 p1 A2 l2 p2 w) := by
  go_enter Tryd.func20, Tryd.ntmps20
  go_wp2_with fail
  refine bodyPost_ret (v := .agg #[.int .u8 7, .int .i64 0, .int .i64 m0, .int .u8 m1, .slice (some ⟨w.heap.size + 4, 0, none⟩) 2 2]) (by simp [results, Tryd.results20, go_sem]) rfl ?_
  refine ⟨w.heap.size + 4, rfl, by omega, ?_, ?_⟩
  · exact blk_at (by simp)
  · repeat (first | exact Bel.refl _ | apply Bel.alloc | apply Bel.drew)
/-- The names, in a new list. -/
def NamesP (w : World) (e : Ending) (w' : World) : Prop := ∃ g, e = .returned (.slice (some ⟨g, 0, none⟩) 2 2) ∧ RNm w' w'.heap.size (some ⟨g, 0, none⟩) 2 [[66, 111, 111, 108], [76, 105, 115, 116]] ∧ Bel w w'
set_option maxRecDepth 100000 in
theorem names_any (w : World) : Calls Tryd.prog 23 #[] w (NamesP w) := by
  go_enter Tryd.func23, Tryd.ntmps23
  go_wp2_with fail
  go_ret
  refine ⟨w.heap.size, rfl, ⟨rfl, fun _ => ⟨w.heap.size, 0, rfl, by simp, fun j s hs => ?_⟩⟩, (Bel.refl w).alloc _⟩
  match j, hs with
  | 0, hs => simp at hs; subst hs; simp
  | 1, hs => simp at hs; subst hs; simp
/-- The type whose parts a value bears, in memory. -/
theorem kids_nil (w : World) (Ok : Nat → Prop) (A : Option Addr) (cap : Nat) : KidsAt w Ok A 0 cap .nil := ⟨rfl, Nat.zero_le _, fun h => by omega⟩
theorem kids_one {w : World} {g cap : Nat} {Ok : Nat → Prop} {k n v c : Int} {A : Option Addr} {l p : Nat} {kids : Fo} {t : TypeId} (h : w.heap[g]? = some (.cells #[.int .u8 k, .int .i64 n, .int .i64 v, .int .u8 c, .slice A l p] t (0, 0))) (hg : Ok g) (hc : 1 ≤ cap) (hk : KidsAt w Ok A l p kids) : KidsAt w Ok (some ⟨g, 0, none⟩) 1 cap (.cons k n v c kids .nil) :=
  ⟨rfl, hc, fun _ => ⟨g, 0, rfl, hg, box_fo h hk⟩⟩
theorem kids_two {w : World} {g cap : Nat} {Ok : Nat → Prop} {k1 n1 v1 c1 k2 n2 v2 c2 : Int} {A1 A2 : Option Addr} {l1 p1 l2 p2 : Nat} {f1 f2 : Fo} {t : TypeId} (h : w.heap[g]? = some (.cells #[.int .u8 k1, .int .i64 n1, .int .i64 v1, .int .u8 c1, .slice A1 l1 p1, .int .u8 k2, .int .i64 n2, .int .i64 v2, .int .u8 c2, .slice A2 l2 p2] t (0, 0))) (hg : Ok g) (hc : 2 ≤ cap) (hk1 : KidsAt w Ok A1 l1 p1 f1) (hk2 : KidsAt w Ok A2 l2 p2 f2) : KidsAt w Ok (some ⟨g, 0, none⟩) 2 cap (.cons k1 n1 v1 c1 f1 (.cons k2 n2 v2 c2 f2 .nil)) := by
  obtain ⟨e1, a1, b1⟩ := hk1
  obtain ⟨e2, a2, b2⟩ := hk2
  subst e1 e2
  exact ⟨rfl, hc, fun _ => ⟨g, 0, rfl, hg, ⟨A1, p1, by simp [World.cell?, h], by simp [World.cell?, h], by simp [World.cell?, h], by simp [World.cell?, h], by simp [World.cell?, h], a1, b1, ⟨A2, p2, by simp [World.cell?, h], by simp [World.cell?, h], by simp [World.cell?, h], by simp [World.cell?, h], by simp [World.cell?, h], a2, b2, trivial⟩⟩⟩⟩
theorem KidsAt.down {w w' : World} {A : Option Addr} {len cap : Nat} {kids : Fo} (h : KidsAt w' (fun j => w.heap.size ≤ j ∧ j < w'.heap.size) A len cap kids) : KidsAt w' (Old w') A len cap kids := h.wide fun j hj => hj.2
theorem rmu_one {w : World} {g : Nat} {v c : Int} {t : TypeId} (h : w.heap[g]? = some (.cells #[.int .i64 v, .int .u8 c] t (0, 0))) : RMu w (some ⟨g, 0, none⟩) 1 [(v, c)] :=
  ⟨rfl, fun _ => ⟨g, 0, rfl, (Array.getElem?_eq_some_iff.1 h).1, fun i x hx => by
    match i, hx with
    | 0, hx => simp at hx; subst hx; exact ⟨by simp [World.cell?, h], by simp [World.cell?, h]⟩⟩⟩
/-- What the small test puts. -/
def exT : Fo := .cons 7 0 0 0 (.cons 1 0 0 0 .nil (.cons 1 1 0 0 .nil .nil)) .nil
def exPut : Fo := .cons 7 0 0 3 (.cons 2 0 0 0 .nil (.cons 1 1 0 0 .nil .nil)) .nil
theorem ex_ok : okPut exT (.cons 2 0 0 0 .nil .nil) [(0, 3)] = true := by decide +kernel
theorem ex_size : Fo.putSize (.cons 2 0 0 0 .nil .nil) 1 exT = 3 := by decide +kernel
theorem ex_puts : Fo.puts (.cons 2 0 0 0 .nil .nil) 1 [(0, 3)] exT = exPut := by rw [puts_eq]; rfl
theorem ex_text : Fo.one [[66, 111, 111, 108], [76, 105, 115, 116]] exPut 0 = [73, 110, 116, 32, 45, 42, 62, 32, 97, 49] := by decide +kernel
/-- It puts what the small test puts. -/
def ExP (w : World) (e : Ending) (w' : World) : Prop := ∃ A cap, e = .returned (.tuple #[.agg #[.int .u8 7, .int .i64 0, .int .i64 0, .int .u8 3, .slice A 2 cap], .int .i64 0]) ∧ KidsAt w' (Old w') A 2 cap (.cons 2 0 0 0 .nil (.cons 1 1 0 0 .nil .nil)) ∧ Bel w w'
theorem exPut_any (g h u : Nat) (p : Nat) (w : World) (hg : w.heap[g]? = some (.cells #[.int .u8 1, .int .i64 0, .int .i64 0, .int .u8 0, .slice none 0 0, .int .u8 1, .int .i64 1, .int .i64 0, .int .u8 0, .slice none 0 0] 27 (0, 0))) (hh : w.heap[h]? = some (.cells #[.int .u8 2, .int .i64 0, .int .i64 0, .int .u8 0, .slice none 0 0] 27 (0, 0))) (hu : w.heap[u]? = some (.cells #[.int .i64 0, .int .u8 3] 24 (0, 0))) :
    Calls Tryd.prog 6 #[.agg #[.int .u8 7, .int .i64 0, .int .i64 0, .int .u8 0, .slice (some ⟨g, 0, none⟩) 2 2], .slice (some ⟨h, 0, none⟩) 1 1, .slice (some ⟨u, 0, none⟩) 1 1] w (ExP w) := by
  have hgl := (Array.getElem?_eq_some_iff.1 hg).1
  have hhl := (Array.getElem?_eq_some_iff.1 hh).1
  refine (put_any 7 0 0 0 _ 2 2 (.cons 1 0 0 0 .nil (.cons 1 1 0 0 .nil .nil)) _ 1 1 (.cons 2 0 0 0 .nil .nil) _ 1 1 [(0, 3)] w (kids_two hg hgl (Nat.le_refl _) (kids_nil _ _ _ _) (kids_nil _ _ _ _)) (by decide) (kids_one hh hhl (Nat.le_refl _) (kids_nil _ _ _ _)) (TsOk.of (by decide)) (rmu_one hu) (by omega)).mono ?_
  rintro e w' ⟨h1, h2⟩
  rw [if_neg (by rw [show (Fo.cons 7 0 0 0 (.cons 1 0 0 0 .nil (.cons 1 1 0 0 .nil .nil)) .nil) = exT from rfl, ex_ok]; simp), show (Fo.cons 7 0 0 0 (.cons 1 0 0 0 .nil (.cons 1 1 0 0 .nil .nil)) .nil) = exT from rfl, ex_size, if_neg (by omega), ex_puts] at h1
  obtain ⟨k, n, v, c, kids, A, cap, e1, e2, e3⟩ := h1
  unfold exPut at e1
  cases e1
  exact ⟨A, cap, e2, e3.down, h2⟩
end Go.Proofs.YtblgligagngpfaaDoor.Mu
namespace Go.Proofs.YtblgligagngpfaaDoor.Mu
open Go.ChangeShapes Go.WideShapes Go.ChangeAt Go.RowKit Go.Shelf

attribute [local go_sem] Oper.semAt_some
set_option linter.unusedVariables false

theorem step_callH {P : Program} {ops : Array Oper} {o : Oper} {a : Act} {w : World} {K : Act → World → Prop} {Q : Exit → Act → World → Prop} {E : Prop} (hw : Region.wanted o (yielded ops a.tmps) = true) (f : FuncId) (args : Array Value) (hrun : (execOp a.eval o).run P w = .ok (.enter f args) w)
    (h : Calls P f args w fun e w' => ∃ v, e = .returned v ∧ K (a.put o.dst v) w') : if Region.wanted o (yielded ops a.tmps) = true then Oper.wp P o a w K Q else E := by
  rw [if_pos hw]
  unfold Oper.wp
  rw [hrun]
  refine h.mono ?_
  rintro e w' ⟨v, rfl, hk⟩
  exact hk
set_option maxRecDepth 100000 in
set_option maxHeartbeats 2000000 in
theorem works6_any (w : World) (ht : Tabs w) : Calls Tryd.prog 5 #[] w fun e w' => e = .returned (.bool true) ∧ Bel w w' := by
  have HT := Lib.hid ht
  clear ht
  have HV := Lib.hid mkV_any
  have HF := Lib.hid mkFun_any
  have HO := Lib.hid mkOf_any
  go_enter Tryd.func5, Tryd.ntmps5
  go_wp2_with fail
  refine (HV.out 0 w).mono ?_
  rintro e w1 ⟨rfl, b1⟩
  have B1 := Lib.hid b1
  clear b1
  go_wp2_with fail
  refine (HV.out 1 w1).mono ?_
  rintro e w2 ⟨rfl, b2⟩
  have B2 := Lib.hid (B1.out.on b2)
  clear b2
  go_wp2_with fail
  refine (HF.out 0 0 1 0 0 0 1 1 0 0 none 0 0 none 0 0 w2).mono ?_
  rintro e w3 ⟨g, rfl, hg1, hg2, b3⟩
  have B3 := Lib.hid (B2.out.on b3)
  have G3 := Lib.hid hg2
  clear b3 hg1 hg2
  go_wp2_with fail
  refine (HO.out 2 none 0 0 w3).mono ?_
  rintro e w4 ⟨rfl, b4⟩
  have B4 := Lib.hid (B3.out.on b4)
  have G4 := Lib.hid (b4.blk G3.out)
  clear b4
  go_wp2_with fail
  refine (exPut_any g w4.heap.size (w4.heap.size + 1) 0 _ ((((Bel.refl w4).alloc _).alloc _).blk G4.out) (((Bel.refl _).alloc _).blk (blk1 w4 _)) (blk_at (by simp))).mono ?_
  rintro e w5 ⟨A, cap, rfl, hk5, b5⟩
  have B5 := Lib.hid ((((Bel.refl w4).alloc _).alloc _).on b5 |> B4.out.on)
  have K5 := Lib.hid hk5
  clear b5 hk5
  go_wp2_with fail
  have hb6 : Bel w5 (w5.alloc (.cells #[.int .u8 7, .int .i64 0, .int .i64 0, .int .u8 3, .slice A 2 cap] 27)) := (Bel.refl w5).alloc _
  have hq6 := blk1 w5 (.cells #[.int .u8 7, .int .i64 0, .int .i64 0, .int .u8 3, .slice A 2 cap] 27)
  have hs6 : (w5.alloc (.cells #[.int .u8 7, .int .i64 0, .int .i64 0, .int .u8 3, .slice A 2 cap] 27)).heap.size = w5.heap.size + 1 := by simp
  obtain ⟨w6, hw6⟩ : ∃ w6, w6 = w5.alloc (.cells #[.int .u8 7, .int .i64 0, .int .i64 0, .int .u8 3, .slice A 2 cap] 27) := ⟨_, rfl⟩
  obtain ⟨tb, htb⟩ : ∃ tb, tb = w5.heap.size := ⟨_, rfl⟩
  rw [← hw6] at hb6 hq6 hs6 ⊢
  rw [← htb] at hq6 hs6 ⊢
  have htl : tb < w6.heap.size := by omega
  have HT6 := Lib.hid (HT.out.bel (B5.out.on hb6))
  have HK6 := Lib.hid (K5.out.bel hb6)
  have HB6 := Lib.hid (B5.out.on hb6)
  have HN : Hid (∀ W, Calls Tryd.prog 23 #[] W (NamesP W)) := Lib.hid names_any
  have HTx : Hid (∀ W gn, Bel w6 W → RNm W W.heap.size (some ⟨gn, 0, none⟩) 2 [[66, 111, 111, 108], [76, 105, 115, 116]] → Calls Tryd.prog 18 #[.agg #[.int .u8 7, .int .i64 0, .int .i64 0, .int .u8 3, .slice A 2 cap], .slice (some ⟨gn, 0, none⟩) 2 2] W fun e w' => e = .returned (.string ⟨#[73, 110, 116, 32, 45, 42, 62, 32, 97, 49]⟩) ∧ Bel W w') := Lib.hid fun W gn hW hn => by
    have h := ttext_any 7 0 0 3 A 2 cap _ _ (some ⟨gn, 0, none⟩) 2 2 W (HK6.out.bel hW) (by decide +kernel) (by decide +kernel) (HT6.out.bel hW) hn (by omega) (by decide +kernel)
    rw [show (Fo.cons 7 0 0 3 (.cons 2 0 0 0 .nil (.cons 1 1 0 0 .nil .nil)) .nil) = exPut from rfl, ex_text] at h
    exact h
  have HSz : Hid (∀ W, Bel w6 W → Calls Tryd.prog 24 #[.agg #[.int .u8 7, .int .i64 0, .int .i64 0, .int .u8 3, .slice A 2 cap]] W fun e w' => e = .returned (.int .i64 3) ∧ Bel W w') := Lib.hid fun W hW => size_any 7 0 0 3 A 2 cap _ W (HK6.out.bel hW) (by decide +kernel)
  obtain ⟨⟨t0, t1, t2, t3, t4⟩, _⟩ := cells5 hq6
  have HQ6 := Lib.hid hq6
  clear hb6 hq6 hs6 hw6 htb
  go_region_law (first
    | (refine step_callH rfl 23 #[] (by simp [go_sem, Act.eval]) ((HN.out _).mono ?_); rintro e w7 ⟨gn, rfl, hn7, hb7⟩; refine ⟨_, rfl, ?_⟩; (have hb67 : Bel w6 w7 := (Bel.refl w6).drew.on hb7); (have HB7 := Lib.hid hb67); (have HN7 := Lib.hid hn7); (have htl7 : tb < w7.heap.size := Nat.lt_of_lt_of_le htl hb67.size); (obtain ⟨⟨s0, s1, s2, s3, s4⟩, _⟩ := cells5 (hb67.blk HQ6.out)); clear hb7 hb67 hn7)
    | (refine step_callH rfl 18 #[.agg #[.int .u8 7, .int .i64 0, .int .i64 0, .int .u8 3, .slice A 2 cap], .slice (some ⟨gn, 0, none⟩) 2 2] (by simp [go_sem, Act.eval]) ((HTx.out _ gn HB7.out HN7.out).mono ?_); rintro e w8 ⟨rfl, hb8⟩; refine ⟨_, rfl, ?_⟩; (have hb68 : Bel w6 w8 := HB7.out.on hb8); (have HB8 := Lib.hid hb68); (have htl8 : tb < w8.heap.size := Nat.lt_of_lt_of_le htl hb68.size); (obtain ⟨⟨r0, r1, r2, r3, r4⟩, _⟩ := cells5 (hb68.blk HQ6.out)); clear hb8 hb68)
    | (refine step_callH rfl 24 #[.agg #[.int .u8 7, .int .i64 0, .int .i64 0, .int .u8 3, .slice A 2 cap]] (by simp [go_sem, Act.eval]) ((HSz.out _ HB8.out).mono ?_); rintro e w9 ⟨rfl, hb9⟩; refine ⟨_, rfl, ?_⟩; (have HB9 := Lib.hid (HB8.out.on hb9)); clear hb9))
  all_goals
    have HBF := Lib.hid (HB6.out.on HB9.out)
    go_wp2_with fail
    go_ret
    exact ⟨rfl, HBF.out⟩
end Go.Proofs.YtblgligagngpfaaDoor.Mu

