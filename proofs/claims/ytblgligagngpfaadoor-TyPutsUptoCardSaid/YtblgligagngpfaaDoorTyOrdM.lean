/-
  Numbers in the order in which they came first: ty's order, walked.
  order's number, where the map is not there yet.
-/
import Derived.Test.YtblgligagngpfaaDoorRunsWC
import Derived.Maps.OwnSet
import Derived.Maps.OwnOps
namespace Go.Proofs.YtblgligagngpfaaDoor.Mu
open Go.ChangeShapes Go.WideShapes Go.ChangeAt Go.RowKit Go.Shelf Go.Maps

attribute [local go_sem] Oper.semAt_some
set_option linter.unusedVariables false

/-- The numbers, the last one first, as the map has them. -/
def posR : List Int → DataW Unit
  | [] => .map []
  | x :: r => (posR r).put (.int .i64 x) (.lit (.int .i64 r.length))
def posIn : List Int → Int → Nat
  | [], _ => 0
  | y :: r, x => if x = y then r.length else posIn r x
theorem posR_map : ∀ r, IsMap (posR r)
  | [] => ⟨_, rfl⟩
  | x :: r => (posR_map r).put _ _
theorem key_ne {x y : Int} (h : x ≠ y) : (Lit.int .i64 x) ≠ (Lit.int .i64 y) := fun e => by injection e with _ e; exact h e
theorem posR_at : ∀ (r : List Int) (x : Int) (z : DataW Unit), (posR r).atKey (.int .i64 x) z = if x ∈ r then .lit (.int .i64 (posIn r x)) else z
  | [], x, z => by simp [posR]; rfl
  | y :: r, x, z => by
    by_cases e : x = y
    · subst e
      rw [posR, atKey_put_same (posR_map r) (by trivial)]
      simp [posIn]
    · rw [posR, atKey_put_other (key_ne e), posR_at r x z]
      simp [posIn, e]
theorem posR_has : ∀ (r : List Int) (x : Int), Maps.has (posR r) (.int .i64 x) = decide (x ∈ r)
  | [], x => by simp [posR]; rfl
  | y :: r, x => by
    by_cases e : x = y
    · subst e
      rw [posR, has_put_same (posR_map r) (by trivial)]
      simp
    · rw [posR, has_put_other (key_ne e), posR_has r x]
      simp [e]
def posD (l : List Int) : DataW Unit := posR l.reverse
def posL (l : List Int) (x : Int) : Nat := posIn l.reverse x
theorem posD_snoc (l : List Int) (x : Int) : posD (l ++ [x]) = (posD l).put (.int .i64 x) (.lit (.int .i64 l.length)) := by
  simp [posD, posR]
theorem posL_new (l : List Int) (x : Int) : posL (l ++ [x]) x = l.length := by simp [posL, posIn]
def addL (l : List Int) (x : Int) : List Int := if x ∈ l then l else l ++ [x]

abbrev ordMap (w : World) (mb n : Nat) (D : DataW Unit) : Prop := w.ownsMap Tryd.prog 3 (plainElem Tryd.prog 3) mb n D
/-- An order's two fields: its list, its map; which blocks are its own. -/
def OrdAt (w : World) (ob : Nat) (l : List Int) (m : Nat → Prop) : Prop :=
  l.Nodup ∧ l.length ≤ 4000000 ∧ ∃ A cap M, w.heap[ob]? = some (.cells #[.slice A l.length cap, .map M] 71 (0, 0)) ∧ w.ownsRow (ob + 1) 3 1 (.slice A l.length cap) l.length (l.map (Value.int .i64)) ∧
    (M = none → l = []) ∧ (∀ mb, M = some mb → ordMap w mb l.length (posD l)) ∧ ∀ j, m j ↔ (j = ob ∨ some j = (Value.slice A l.length cap).ownBlock ∨ M = some j)
theorem OrdAt.lt {w : World} {ob : Nat} {l : List Int} {m : Nat → Prop} (h : OrdAt w ob l m) : ∀ j, m j → j < w.heap.size := by
  obtain ⟨_, _, A, cap, M, hb, ho, hn, hm, hj⟩ := h
  intro j hmj
  rcases (hj j).1 hmj with rfl | e | e
  · exact (Array.getElem?_eq_some_iff.1 hb).1
  · exact (ho.lt j e.symm).2
  · exact (hm j e).lt
theorem OrdAt.keep {w w' : World} {ob : Nat} {l : List Int} {m : Nat → Prop} (h : OrdAt w ob l m) (hk : ∀ j, m j → w'.heap[j]? = w.heap[j]?) : OrdAt w' ob l m := by
  obtain ⟨h1, h2, A, cap, M, hb, ho, hn, hm, hj⟩ := h
  refine ⟨h1, h2, A, cap, M, (hk ob ((hj ob).2 (.inl rfl))).trans hb, own_blk ho fun x hx => hk x ((hj x).2 (.inr (.inl hx.symm))), hn, fun mb e => ?_, hj⟩
  obtain ⟨es, clock, a, b⟩ := hm mb e
  exact ⟨es, clock, (hk mb ((hj mb).2 (.inr (.inr e)))).trans a, b⟩
theorem ord_new (w : World) {ob : Nat} (h : w.heap[ob]? = some (.cells #[.slice none 0 0, .map none] 71 (0, 0))) : OrdAt w ob [] (fun j => j = ob) :=
  ⟨List.nodup_nil, by simp, none, 0, none, h, ⟨rfl, .inl ⟨rfl, rfl⟩⟩, fun _ => rfl, fun mb e => (by cases e), fun j => by simp [Value.ownBlock]⟩
/-- What number answers. -/
def NumP (l : List Int) (v : Int) (ob : Nat) (m : Nat → Prop) (w : World) (e : Ending) (w' : World) : Prop :=
  e = .returned (.int .i64 (posL (addL l v) v : Int)) ∧ ∃ m', OrdAt w' ob (addL l v) m' ∧ Fr m w w' m'
theorem zero_int (w : World) : (zeroValue 3).run Tryd.prog w = .ok (.int .i64 0) w := by kernel_rfl
set_option maxRecDepth 100000 in
set_option maxHeartbeats 2000000 in
theorem number_old (l : List Int) (v : Int) (ob : Nat) (m : Nat → Prop) (w : World) (h : OrdAt w ob l m) (hv : v ∈ l) (hwf : (Lit.int .i64 v).wf = true) :
    Calls Tryd.prog 35 #[.pointer (some ⟨ob, 0, none⟩), .int .i64 v] w (NumP l v ob m w) := by
  have ha : addL l v = l := by simp [addL, hv]
  rw [show NumP l v ob m w = fun e w' => e = .returned (.int .i64 (posL l v : Int)) ∧ ∃ m', OrdAt w' ob l m' ∧ Fr m w w' m' from by funext e w'; unfold NumP; rw [ha]]
  have H := Lib.hid h
  obtain ⟨h1, h2, A, cap, M, hb, ho, hn, hm, hj⟩ := h
  cases M with
  | none => rw [hn rfl] at hv; cases hv
  | some mb =>
    have hown := hm mb rfl
    have c0 : w.cell? ⟨ob, 0, none⟩ = some (.slice A l.length cap) := by simp [World.cell?, hb]
    have c1 : w.cell? ⟨ob, 1, none⟩ = some (.map (some mb)) := by simp [World.cell?, hb]
    have hkey : keyOf Tryd.prog 3 (.int .i64 v) = some (.int .i64 v) := keyOf_int_mk Tryd.underlying3 hwf
    have hpos : (posD l).atKey (.int .i64 v) (.lit (.int .i64 0)) = .lit (.int .i64 (posL l v)) := by
      unfold posD posL
      rw [posR_at, if_pos (by simpa using hv)]
    have hhas : Maps.has (posD l) (.int .i64 v) = true := by
      unfold posD
      rw [posR_has]
      simpa using hv
    have HP := Lib.hid hpos
    have HJ := Lib.hid hj
    clear hj ho hb hn hm h1 h2 hpos
    go_enter Tryd.func35, Tryd.ntmps35
    go_wp2_with (at_lookup; refine wpList_lookup_own_ok_int _ rfl _ _ 69 rfl 3 3 .i64 (int_keyed Tryd.underlying3) Tryd.underlying69 Tryd.underlying3 (zero_int _) mb l.length (posD l) rfl hown _ _ rfl hkey ?_; intro c hat hwc; rw [hhas])
    go_ret
    have hc : c = (posL l v : Int) := by
      have e := hat.symm.trans HP.out
      injection e with e
      injection e
    exact ⟨by rw [hc]; rfl, m, H.out, rfl, rfl, rfl, Nat.le_refl _, fun _ _ _ => rfl, fun _ h => .inl h⟩
theorem info_intO : (Tryd.prog.info? 3).map (fun i => (i.zero, i.size, i.bytes)) = some (some (.int .i64 0), 1, 8) := by kernel_rfl
theorem mapEq_no (mb : Nat) (w : World) : (binOp .eql 69 (.map (some mb)) (.map none)).run Tryd.prog w = .ok (.bool false) w := by kernel_rfl
theorem mapEq_yes (w : World) : (binOp .eql 69 (.map none) (.map none)).run Tryd.prog w = .ok (.bool true) w := by kernel_rfl
theorem row_map {w : World} {base e size n : Nat} {v : Value} {xs : List Value} (ho : w.ownsRow base e size v n xs) {mb clock : Nat} {es : Array MapEntry} (hm : w.heap[mb]? = some (.map es clock)) : v.ownBlock ≠ some mb := by
  rcases ho.2 with ⟨rfl, _⟩ | ⟨g, cap, cur, rfl, _, hg, _⟩
  · simp [Value.ownBlock]
  · intro h
    have h' : g = mb := by simpa [Value.ownBlock] using h
    subst h'
    rw [hm] at hg
    cases hg
theorem set2_0 {w : World} {b : Nat} {x y u : Value} {t : TypeId} (h : w.heap[b]? = some (.cells #[x, y] t (0, 0))) : (w.setCell ⟨b, 0, none⟩ u).heap[b]? = some (.cells #[u, y] t (0, 0)) := by
  rw [heap_setCell_same w b 0 _ _ _ h]
  simp
theorem set2_1 {w : World} {b : Nat} {x y u : Value} {t : TypeId} (h : w.heap[b]? = some (.cells #[x, y] t (0, 0))) : (w.setCell ⟨b, 1, none⟩ u).heap[b]? = some (.cells #[x, u] t (0, 0)) := by
  rw [heap_setCell_same w b 1 _ _ _ h]
  simp
set_option maxRecDepth 100000 in
set_option maxHeartbeats 2000000 in
/-- The map is there. -/
theorem number_some (l : List Int) (v : Int) (ob : Nat) (m : Nat → Prop) (w : World) (A : Option Addr) (cap mb : Nat) (hnd : l.Nodup) (hlen : l.length ≤ 3900000) (hb : w.heap[ob]? = some (.cells #[.slice A l.length cap, .map (some mb)] 71 (0, 0))) (ho : w.ownsRow (ob + 1) 3 1 (.slice A l.length cap) l.length (l.map (Value.int .i64)))
    (hown : ordMap w mb l.length (posD l)) (hj : ∀ j, m j ↔ (j = ob ∨ some j = (Value.slice A l.length cap).ownBlock ∨ some mb = some j)) (hv : v ∉ l) (hwf : (Lit.int .i64 v).wf = true) :
    Calls Tryd.prog 35 #[.pointer (some ⟨ob, 0, none⟩), .int .i64 v] w (NumP l v ob m w) := by
  have ha : addL l v = l ++ [v] := by simp [addL, hv]
  have hp : posL (addL l v) v = l.length := by rw [ha, posL_new]
  obtain ⟨i0, hi0, hz0, hz1, hz2⟩ := info_parts info_intO
  have c0 : w.cell? ⟨ob, 0, none⟩ = some (.slice A l.length cap) := by simp [World.cell?, hb]
  have c1 : w.cell? ⟨ob, 1, none⟩ = some (.map (some mb)) := by simp [World.cell?, hb]
  have hkey : keyOf Tryd.prog 3 (.int .i64 v) = some (.int .i64 v) := keyOf_int_mk Tryd.underlying3 hwf
  have hhas : Maps.has (posD l) (.int .i64 v) = false := by
    unfold posD
    rw [posR_has]
    simpa using hv
  have hlw : (Lit.int .i64 (l.length : Int)).wf = true := WalkArith.wf_i64 (by omega)
  have HNV := Lib.hid hv
  have hob : ob < w.heap.size := (Array.getElem?_eq_some_iff.1 hb).1
  have HB := Lib.hid hb
  have HO := Lib.hid ho
  have HJ := Lib.hid hj
  have HHP := Lib.hid hp
  have HHA := Lib.hid ha
  have HND := Lib.hid hnd
  have hmo : mb ≠ ob := by
    rintro rfl
    obtain ⟨es, clock, e, _⟩ := hown
    rw [hb] at e
    cases e
  have qn := mapEq_no mb
  obtain ⟨n, hn⟩ : ∃ n, n = l.length := ⟨_, rfl⟩
  rw [← hn] at c0 hlw hown hlen
  have HNL := Lib.hid hn
  clear hj ho hb hv hp ha hnd hn
  go_enter Tryd.func35, Tryd.ntmps35
  go_wp2_with (first
    | (at_lookup; refine wpList_lookup_own_ok_int _ rfl _ _ 69 rfl 3 3 .i64 (int_keyed Tryd.underlying3) Tryd.underlying69 Tryd.underlying3 (zero_int _) mb n (posD l) rfl hown _ _ rfl hkey ?_; intro c hat hwc; rw [hhas])
    | (at_mapUpdate; refine wpList_mapUpdate_own _ rfl _ _ _ 69 rfl 3 3 (int_keyed Tryd.underlying3) Tryd.underlying69 _ mb n (posD l) rfl hown (by unfold maxLen; omega) _ _ _ rfl rfl hkey _ [] (plainElem_int Tryd.underlying3 hlw) ?_; intro w1 hown1 hg1; refine stopW ?_))
  unfold StopW
  have hg1b : w1.heap[ob]? = some (.cells #[.slice A n cap, .map (some mb)] 71 (0, 0)) := (hg1.block ob hob (fun e => hmo (by injection e with e; exact e.symm))).trans (by rw [HNL.out]; exact HB.out)
  have hrow1 : w1.ownsRow (ob + 1) 3 1 (.slice A n cap) n (l.map (Value.int .i64)) := by
    have h := HO.out
    rw [← HNL.out] at h
    obtain ⟨es, clock, em, _⟩ := hown
    exact h.kept hg1 (.inr fun e => row_map h em e)
  obtain ⟨k0, k1, g0, g1⟩ := cellsT2 hg1b
  have hob1 : ob < w1.heap.size := Nat.lt_of_lt_of_le hob hg1.size
  have HG1 := Lib.hid hg1
  have HB1 := Lib.hid hg1b
  have HR1 := Lib.hid hrow1
  have HM1 := Lib.hid hown1
  have HMO := Lib.hid hmo
  have HOW := Lib.hid hown
  clear hg1 hg1b hrow1 hown1 hown hmo c0 c1
  go_wp2_with (at_builtin; refine stopW ?_)
  unfold StopW
  refine wpList_append_own_at _ rfl _ _ 40 rfl (ob + 1) 3 i0 (.int .i64 0) 1 8 Tryd.underlying40 hi0 hz0 hz1 hz2 rfl (by decide) (.slice A n cap) n _ rfl (HR1.out.alloc _) ⟨w1.heap.size, 0, none⟩ 1 1 [.int .i64 v] rfl rfl (cell_one_new _ _ _) (ints_oneCell .i64 [v]) (by unfold maxLen; omega) (by omega) (by simp; omega) ?_
  intro v' w5 hown5 hg5 _ hat5
  obtain ⟨g5, c5, rfl⟩ := ownsRow_succ hown5
  have hsz5 : w1.heap.size + 1 ≤ w5.heap.size := by have := hg5.size; simpa using this
  have hne : some ob ≠ (Value.slice A n cap).ownBlock := fun e => by have := (HR1.out.lt ob e.symm).1; omega
  have hb5 : w5.heap[ob]? = some (.cells #[.slice A n cap, .map (some mb)] 71 (0, 0)) := (hg5.block ob (by simp; omega) hne).trans (((Bel.refl w1).alloc _).blk HB1.out)
  obtain ⟨m0, m1, f0, f1⟩ := cellsT2 hb5
  have HB5 := Lib.hid hb5
  have HG5 := Lib.hid hg5
  have HO5 := Lib.hid hown5
  have HAT := Lib.hid hat5
  have hob5 : ob < w5.heap.size := by omega
  clear hb5 hg5 hown5 hat5 hne k0 k1 g0 g1
  go_wp2_with fail
  go_ret
  obtain ⟨es1, clock1, hm1, _⟩ := HM1.out
  have hmw : mb < w.heap.size := by
    obtain ⟨es, clock, e, _⟩ := HOW.out
    exact (Array.getElem?_eq_some_iff.1 e).1
  have hml : mb < w1.heap.size := Nat.lt_of_lt_of_le hmw HG1.out.size
  have hrm : (Value.slice A n cap).ownBlock ≠ some mb := row_map HR1.out hm1
  have hm5 : ordMap w5 mb (n + 1) ((posD l).put (.int .i64 v) (.lit (.int .i64 n))) := (HM1.out.alloc _).kept HG5.out (fun e => hrm e.symm)
  have hlen : (l ++ [v]).length = n + 1 := by rw [List.length_append, ← HNL.out]; rfl
  have hg5 : some g5 = (Value.slice A n cap).ownBlock ∨ w1.heap.size ≤ g5 := by
    rcases HAT.out with e | e
    · exact .inl (by rw [← e]; rfl)
    · right
      have e' : g5 = w1.heap.size + 1 := by
        have : (some g5 : Option Nat) = some (w1.heap.size + 1) := by
          have h2 : (Value.slice (some ⟨g5, 0, none⟩) (n + 1) c5).ownBlock = some g5 := rfl
          rw [← h2, e]
          simp
        injection this
      omega
  have hgob : g5 ≠ ob := fun e => by
    have := (HO5.out.lt g5 rfl).1
    omega
  refine ⟨by rw [HHP.out, ← HNL.out]; rfl, fun j => j = ob ∨ j = g5 ∨ j = mb, ?_, ?_⟩
  · rw [HHA.out]
    refine ⟨?_, by rw [hlen]; omega, some ⟨g5, 0, none⟩, c5, some mb, ?_, ?_, fun e => (by cases e), fun mb' e => ?_, fun j => ?_⟩
    · rw [List.nodup_append]
      exact ⟨HND.out, by simp, fun a ha b hb => by rw [List.mem_singleton] at hb; subst hb; intro e; subst e; exact HNV.out ha⟩
    · rw [hlen]
      exact set2_0 HB5.out
    · rw [hlen, List.map_append]
      exact own_blk HO5.out fun x hx => heap_setCell_other _ _ x _ (fun e => by have := (HO5.out.lt x hx).1; have e' : x = ob := e; omega)
    · injection e with e
      subst e
      rw [hlen, posD_snoc, ← HNL.out]
      exact hm5.setCell HMO.out _
    · constructor
      · rintro (h | h | h)
        · exact .inl h
        · exact .inr (.inl (by rw [h]; rfl))
        · exact .inr (.inr (by rw [h]))
      · rintro (h | h | h)
        · exact .inl h
        · have e : (some j : Option Nat) = some g5 := h
          injection e with e
          exact .inr (.inl e)
        · injection h with h
          exact .inr (.inr h.symm)
  · refine ⟨(show (w5.setCell _ _).os = _ from rfl).trans (HG5.out.os.trans HG1.out.os), (show (w5.setCell _ _).tape = _ from rfl).trans (HG5.out.tape.trans HG1.out.tape), (show (w5.setCell _ _).output = _ from rfl).trans (HG5.out.output.trans HG1.out.output), ?_, fun j hj hnm => ?_, fun j hj => ?_⟩
    · have h1 := HG1.out.size
      have h2 : (w5.setCell ⟨ob, 0, none⟩ (.slice (some ⟨g5, 0, none⟩) (n + 1) c5)).heap.size = w5.heap.size := by simp [World.setCell]
      omega
    · have hnm' := fun h => hnm ((HJ.out j).2 h)
      have n1 : j ≠ ob := fun e => hnm' (.inl e)
      have n2 : some j ≠ (Value.slice A n cap).ownBlock := fun e => hnm' (.inr (.inl (by rw [HNL.out] at e; exact e)))
      have n3 : some j ≠ some mb := fun e => hnm' (.inr (.inr e.symm))
      have hj1 : j < w1.heap.size := Nat.lt_of_lt_of_le hj HG1.out.size
      exact (heap_setCell_other _ _ j _ n1).trans ((HG5.out.block j (by simp; omega) n2).trans ((((Bel.refl w1).alloc _).block j hj1).trans (HG1.out.block j hj n3)))
    · rcases hj with h | h | h
      · exact .inl ((HJ.out j).2 (.inl h))
      · subst h
        rcases hg5 with e | e
        · exact .inl ((HJ.out j).2 (.inr (.inl (by rw [e, HNL.out]))))
        · exact .inr (Nat.le_trans HG1.out.size e)
      · exact .inl ((HJ.out j).2 (.inr (.inr (by rw [h]))))
end Go.Proofs.YtblgligagngpfaaDoor.Mu
namespace Go.Proofs.YtblgligagngpfaaDoor.Mu
open Go.ChangeShapes Go.WideShapes Go.ChangeAt Go.RowKit Go.Shelf Go.Maps

attribute [local go_sem] Oper.semAt_some
set_option linter.unusedVariables false

theorem look_nil (v : Int) (w : World) : (Instr.lookup 69 (.map none) (.int .i64 v) true).run Tryd.prog w = .ok (.tuple #[.int .i64 0, .bool false]) w := by kernel_rfl
set_option maxRecDepth 100000 in
set_option maxHeartbeats 2000000 in
/-- The map is not there yet. -/
theorem number_none (l : List Int) (v : Int) (ob : Nat) (m : Nat → Prop) (w : World) (A : Option Addr) (cap : Nat) (hl0 : l = []) (hnd : l.Nodup) (hlen : l.length ≤ 3900000) (hb : w.heap[ob]? = some (.cells #[.slice A l.length cap, .map none] 71 (0, 0))) (ho : w.ownsRow (ob + 1) 3 1 (.slice A l.length cap) l.length (l.map (Value.int .i64)))
    (hj : ∀ j, m j ↔ (j = ob ∨ some j = (Value.slice A l.length cap).ownBlock ∨ none = some j)) (hv : v ∉ l) (hwf : (Lit.int .i64 v).wf = true) :
    Calls Tryd.prog 35 #[.pointer (some ⟨ob, 0, none⟩), .int .i64 v] w (NumP l v ob m w) := by
  have ha : addL l v = l ++ [v] := by simp [addL, hv]
  have hp : posL (addL l v) v = l.length := by rw [ha, posL_new]
  obtain ⟨i0, hi0, hz0, hz1, hz2⟩ := info_parts info_intO
  have c0 : w.cell? ⟨ob, 0, none⟩ = some (.slice A l.length cap) := by simp [World.cell?, hb]
  have c1 : w.cell? ⟨ob, 1, none⟩ = some (.map none) :=
    by simp [World.cell?, hb]
  have hkey : keyOf Tryd.prog 3 (.int .i64 v) = some (.int .i64 v) := keyOf_int_mk Tryd.underlying3 hwf
  have hlw : (Lit.int .i64 (l.length : Int)).wf = true := WalkArith.wf_i64 (by omega)
  have HNV := Lib.hid hv
  have hob : ob < w.heap.size := (Array.getElem?_eq_some_iff.1 hb).1
  have HB := Lib.hid hb
  have HO := Lib.hid ho
  have HJ := Lib.hid hj
  have HHP := Lib.hid hp
  have HHA := Lib.hid ha
  have HND := Lib.hid hnd
  have qy := mapEq_yes
  have fz1 : w.frozen? ⟨ob, 1, none⟩ = false := by simp [World.frozen?, hb]
  have hmm := @run_makeMap Tryd.prog
  have ql := look_nil v
  have HL0 := Lib.hid hl0
  obtain ⟨n, hn⟩ : ∃ n, n = l.length := ⟨_, rfl⟩
  rw [← hn] at c0 hlw hlen
  have HNL := Lib.hid hn
  clear hj ho hb hv hp ha hnd hn hl0
  go_enter Tryd.func35, Tryd.ntmps35
  go_wp2_with (at_mapUpdate; refine stopW ?_)
  have hb1 : (w.setCell ⟨ob, 1, none⟩ (.map (some w.heap.size))).heap[ob]? = some (.cells #[.slice A n cap, .map (some w.heap.size)] 71 (0, 0)) := by rw [HNL.out]; exact set2_1 HB.out
  have hsz1 : (w.setCell ⟨ob, 1, none⟩ (.map (some w.heap.size))).heap.size = w.heap.size := by simp [World.setCell]
  have hown0 : ordMap ((w.setCell ⟨ob, 1, none⟩ (.map (some w.heap.size))).alloc (.map #[] 0)) w.heap.size n (posD l) := by
    have h := World.ownsMap_made (H := Unit) (w.setCell ⟨ob, 1, none⟩ (.map (some w.heap.size))) Tryd.prog 3 (plainElem Tryd.prog 3)
    rw [hsz1] at h
    rw [HNL.out, HL0.out]
    exact h
  have hrow0 : ((w.setCell ⟨ob, 1, none⟩ (.map (some w.heap.size))).alloc (.map #[] 0)).ownsRow (ob + 1) 3 1 (.slice A n cap) n (l.map (Value.int .i64)) := by
    have h := HO.out
    rw [← HNL.out] at h
    exact own_blk h fun x hx => (((Bel.refl _).alloc _).block x (by rw [hsz1]; exact (h.lt x hx).2)).trans (heap_setCell_other _ _ x _ (fun e => by have := (h.lt x hx).1; have e' : x = ob := e; omega))
  have hb0 : ((w.setCell ⟨ob, 1, none⟩ (.map (some w.heap.size))).alloc (.map #[] 0)).heap[ob]? = some (.cells #[.slice A n cap, .map (some w.heap.size)] 71 (0, 0)) := ((Bel.refl _).alloc _).blk hb1
  have hf0 : ((w.setCell ⟨ob, 1, none⟩ (.map (some w.heap.size))).alloc (.map #[] 0)).os = w.os ∧ ((w.setCell ⟨ob, 1, none⟩ (.map (some w.heap.size))).alloc (.map #[] 0)).tape = w.tape ∧ ((w.setCell ⟨ob, 1, none⟩ (.map (some w.heap.size))).alloc (.map #[] 0)).output = w.output ∧ w.heap.size + 1 ≤ ((w.setCell ⟨ob, 1, none⟩ (.map (some w.heap.size))).alloc (.map #[] 0)).heap.size ∧ ∀ j, j < w.heap.size → j ≠ ob → ((w.setCell ⟨ob, 1, none⟩ (.map (some w.heap.size))).alloc (.map #[] 0)).heap[j]? = w.heap[j]? :=
    ⟨rfl, rfl, rfl, by simp [World.setCell], fun j hj hne => (((Bel.refl _).alloc _).block j (by rw [hsz1]; exact hj)).trans (heap_setCell_other _ _ j _ hne)⟩
  obtain ⟨w0, hw0⟩ : ∃ w0, w0 = (w.setCell ⟨ob, 1, none⟩ (.map (some w.heap.size))).alloc (.map #[] 0) := ⟨_, rfl⟩
  unfold StopW
  rw [← hw0] at hown0 hrow0 hb0 hf0 ⊢
  obtain ⟨mb, hmb⟩ : ∃ mb, mb = w.heap.size := ⟨_, rfl⟩
  rw [← hmb] at hown0 hb0 ⊢
  have HB0 := Lib.hid hb0
  have HO0 := Lib.hid hrow0
  have HF0 := Lib.hid hf0
  have HMB := Lib.hid hmb
  have hob0 : ob < w0.heap.size := by have := hf0.2.2.2.1; omega
  have hmo : mb ≠ ob := by omega
  have hown := hown0
  clear hb0 hrow0 hf0 hw0 hb1 hsz1 hmb hown0 c0 c1 fz1
  refine wpList_mapUpdate_own _ rfl _ _ _ 69 rfl 3 3 (int_keyed Tryd.underlying3) Tryd.underlying69 _ mb n (posD l) rfl hown (by unfold maxLen; omega) _ _ _ rfl rfl hkey _ [] (plainElem_int Tryd.underlying3 hlw) ?_
  intro w1 hown1 hg1
  have hg1b : w1.heap[ob]? = some (.cells #[.slice A n cap, .map (some mb)] 71 (0, 0)) := (hg1.block ob hob0 (fun e => hmo (by injection e with e; exact e.symm))).trans HB0.out
  have hrow1 : w1.ownsRow (ob + 1) 3 1 (.slice A n cap) n (l.map (Value.int .i64)) := by
    have h := HO0.out
    obtain ⟨es, clock, em, _⟩ := hown
    exact h.kept hg1 (.inr fun e => row_map h em e)
  obtain ⟨k0, k1, g0, g1⟩ := cellsT2 hg1b
  have hob1 : ob < w1.heap.size := Nat.lt_of_lt_of_le hob0 hg1.size
  have HG1 := Lib.hid hg1
  have HB1 := Lib.hid hg1b
  have HR1 := Lib.hid hrow1
  have HM1 := Lib.hid hown1
  have HMO := Lib.hid hmo
  have HOW := Lib.hid hown
  clear hg1 hg1b hrow1 hown1 hown hmo
  go_wp2_with (at_builtin; refine stopW ?_)
  unfold StopW
  refine wpList_append_own_at _ rfl _ _ 40 rfl (ob + 1) 3 i0 (.int .i64 0) 1 8 Tryd.underlying40 hi0 hz0 hz1 hz2 rfl (by decide) (.slice A n cap) n _ rfl (HR1.out.alloc _) ⟨w1.heap.size, 0, none⟩ 1 1 [.int .i64 v] rfl rfl (cell_one_new _ _ _) (ints_oneCell .i64 [v]) (by unfold maxLen; omega) (by omega) (by simp; omega) ?_
  intro v' w5 hown5 hg5 _ hat5
  obtain ⟨g5, c5, rfl⟩ := ownsRow_succ hown5
  have hsz5 : w1.heap.size + 1 ≤ w5.heap.size := by have := hg5.size; simpa using this
  have hne : some ob ≠ (Value.slice A n cap).ownBlock := fun e => by have := (HR1.out.lt ob e.symm).1; omega
  have hb5 : w5.heap[ob]? = some (.cells #[.slice A n cap, .map (some mb)] 71 (0, 0)) := (hg5.block ob (by simp; omega) hne).trans (((Bel.refl w1).alloc _).blk HB1.out)
  obtain ⟨m0, m1, f0, f1⟩ := cellsT2 hb5
  have HB5 := Lib.hid hb5
  have HG5 := Lib.hid hg5
  have HO5 := Lib.hid hown5
  have HAT := Lib.hid hat5
  have hob5 : ob < w5.heap.size := by omega
  clear hb5 hg5 hown5 hat5 hne k0 k1 g0 g1
  go_wp2_with fail
  go_ret
  obtain ⟨es1, clock1, hm1, _⟩ := HM1.out
  have hmw : mb < w0.heap.size := by
    obtain ⟨es, clock, e, _⟩ := HOW.out
    exact (Array.getElem?_eq_some_iff.1 e).1
  have hml : mb < w1.heap.size := Nat.lt_of_lt_of_le hmw HG1.out.size
  have hrm : (Value.slice A n cap).ownBlock ≠ some mb := row_map HR1.out hm1
  have hm5 : ordMap w5 mb (n + 1) ((posD l).put (.int .i64 v) (.lit (.int .i64 n))) := (HM1.out.alloc _).kept HG5.out (fun e => hrm e.symm)
  have hlen : (l ++ [v]).length = n + 1 := by rw [List.length_append, ← HNL.out]; rfl
  have hg5 : some g5 = (Value.slice A n cap).ownBlock ∨ w1.heap.size ≤ g5 := by
    rcases HAT.out with e | e
    · exact .inl (by rw [← e]; rfl)
    · right
      have e' : g5 = w1.heap.size + 1 := by
        have : (some g5 : Option Nat) = some (w1.heap.size + 1) := by
          have h2 : (Value.slice (some ⟨g5, 0, none⟩) (n + 1) c5).ownBlock = some g5 := rfl
          rw [← h2, e]
          simp
        injection this
      omega
  have hgob : g5 ≠ ob := fun e => by
    have := (HO5.out.lt g5 rfl).1
    omega
  refine ⟨by rw [HHP.out, ← HNL.out]; rfl, fun j => j = ob ∨ j = g5 ∨ j = mb, ?_, ?_⟩
  · rw [HHA.out]
    refine ⟨?_, by rw [hlen]; omega, some ⟨g5, 0, none⟩, c5, some mb, ?_, ?_, fun e => (by cases e), fun mb' e => ?_, fun j => ?_⟩
    · rw [List.nodup_append]
      exact ⟨HND.out, by simp, fun a ha b hb => by rw [List.mem_singleton] at hb; subst hb; intro e; subst e; exact HNV.out ha⟩
    · rw [hlen]
      exact set2_0 HB5.out
    · rw [hlen, List.map_append]
      exact own_blk HO5.out fun x hx => heap_setCell_other _ _ x _ (fun e => by have := (HO5.out.lt x hx).1; have e' : x = ob := e; omega)
    · injection e with e
      subst e
      rw [hlen, posD_snoc, ← HNL.out]
      exact hm5.setCell HMO.out _
    · constructor
      · rintro (h | h | h)
        · exact .inl h
        · exact .inr (.inl (by rw [h]; rfl))
        · exact .inr (.inr (by rw [h]))
      · rintro (h | h | h)
        · exact .inl h
        · have e : (some j : Option Nat) = some g5 := h
          injection e with e
          exact .inr (.inl e)
        · injection h with h
          exact .inr (.inr h.symm)
  · have h0 := HF0.out
    refine ⟨(show (w5.setCell _ _).os = _ from rfl).trans (HG5.out.os.trans (HG1.out.os.trans h0.1)), (show (w5.setCell _ _).tape = _ from rfl).trans (HG5.out.tape.trans (HG1.out.tape.trans h0.2.1)), (show (w5.setCell _ _).output = _ from rfl).trans (HG5.out.output.trans (HG1.out.output.trans h0.2.2.1)), ?_, fun j hj hnm => ?_, fun j hj => ?_⟩
    · have h1 := HG1.out.size
      have h2 : (w5.setCell ⟨ob, 0, none⟩ (.slice (some ⟨g5, 0, none⟩) (n + 1) c5)).heap.size = w5.heap.size := by simp [World.setCell]
      have h3 := h0.2.2.2.1
      omega
    · have hnm' := fun h => hnm ((HJ.out j).2 h)
      have n1 : j ≠ ob := fun e => hnm' (.inl e)
      have n2 : some j ≠ (Value.slice A n cap).ownBlock := fun e => hnm' (.inr (.inl (by rw [HNL.out] at e; exact e)))
      have n3 : some j ≠ some mb := fun e => by
        injection e with e
        have := HMB.out
        omega
      have hj0 : j < w0.heap.size := by have := h0.2.2.2.1; omega
      have hj1 : j < w1.heap.size := Nat.lt_of_lt_of_le hj0 HG1.out.size
      exact (heap_setCell_other _ _ j _ n1).trans ((HG5.out.block j (by simp; omega) n2).trans ((((Bel.refl w1).alloc _).block j hj1).trans ((HG1.out.block j hj0 n3).trans (h0.2.2.2.2 j hj n1))))
    · rcases hj with h | h | h
      · exact .inl ((HJ.out j).2 (.inl h))
      · subst h
        rcases hg5 with e | e
        · exact .inl ((HJ.out j).2 (.inr (.inl (by rw [e, HNL.out]))))
        · exact .inr (by have := h0.2.2.2.1; have := HG1.out.size; omega)
      · exact .inr (by rw [h, HMB.out]; exact Nat.le_refl _)
/-- The place of a number. -/
theorem number_any (l : List Int) (v : Int) (ob : Nat) (m : Nat → Prop) (w : World) (h : OrdAt w ob l m) (hlen : l.length ≤ 3900000) (hwf : (Lit.int .i64 v).wf = true) :
    Calls Tryd.prog 35 #[.pointer (some ⟨ob, 0, none⟩), .int .i64 v] w (NumP l v ob m w) := by
  by_cases hv : v ∈ l
  · exact number_old l v ob m w h hv hwf
  · obtain ⟨h1, h2, A, cap, M, hb, ho, hn, hm, hj⟩ := h
    cases M with
    | none => exact number_none l v ob m w A cap (hn rfl) h1 hlen hb ho hj hv hwf
    | some mb => exact number_some l v ob m w A cap mb h1 hlen hb ho (hm mb rfl) hj hv hwf
end Go.Proofs.YtblgligagngpfaaDoor.Mu

