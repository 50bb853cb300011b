/-
  ty.Put's parts, walked.
  mayPut, walked.
  sizeOfPut, walked.
  sizeOfPut walked; Put's two closures.
  Put's first closure.
  What Put's two closures write.
  Put: where it may not, and where it is too long.
  Put: where it puts.
  Put, whole.
  What is put, as one function on types.
-/
import Derived.Test.YtblgligagngpfaaDoorRunsWC
import Derived.Test.YtblgligagngpfaaDoorTyMayN
namespace Go.Proofs.YtblgligagngpfaaDoor.Mu
open Go.ChangeShapes Go.WideShapes Go.ChangeAt Go.RowKit Go.Shelf

attribute [local go_sem] Oper.semAt_some
set_option linter.unusedVariables false

/-- The i-th of a list, alone. -/
def Fo.nth : Fo → Nat → Fo
  | .nil, _ => .nil
  | .cons k n v c kids _, 0 => .cons k n v c kids .nil
  | .cons _ _ _ _ _ rest, i + 1 => rest.nth i
theorem FoAt.nth {w : World} {Ok : Nat → Prop} : ∀ (f : Fo) (i b o : Nat), FoAt w Ok f b o → i < f.len → ∃ k n v c kids A cap, f.nth i = .cons k n v c kids .nil ∧ w.cell? ⟨b, o + i * 5, none⟩ = some (.int .u8 k) ∧ w.cell? ⟨b, o + i * 5 + 1, none⟩ = some (.int .i64 n) ∧ w.cell? ⟨b, o + i * 5 + 2, none⟩ = some (.int .i64 v) ∧ w.cell? ⟨b, o + i * 5 + 3, none⟩ = some (.int .u8 c) ∧ w.cell? ⟨b, o + i * 5 + 4, none⟩ = some (.slice A kids.len cap) ∧ KidsAt w Ok A kids.len cap kids
  | .nil, i, b, o, _, h => by simp [Fo.len] at h
  | .cons k n v c kids rest, 0, b, o, hf, _ => by
    obtain ⟨A, cap, a1, a2, a3, a4, a5, a6, a7, a8⟩ := hf
    exact ⟨k, n, v, c, kids, A, cap, rfl, by simpa using a1, by simpa using a2, by simpa using a3, by simpa using a4, by simpa using a5, rfl, a6, a7⟩
  | .cons k n v c kids rest, i + 1, b, o, hf, h => by
    obtain ⟨A, cap, a1, a2, a3, a4, a5, a6, a7, a8⟩ := hf
    obtain ⟨k', n', v', c', kids', A', cap', e, h1, h2, h3, h4, h5, h6⟩ := FoAt.nth rest i b (o + 5) a8 (by simp only [Fo.len] at h; omega)
    refine ⟨k', n', v', c', kids', A', cap', e, ?_, ?_, ?_, ?_, ?_, h6⟩
    · rw [show o + (i + 1) * 5 = o + 5 + i * 5 by omega]; exact h1
    · rw [show o + (i + 1) * 5 + 1 = o + 5 + i * 5 + 1 by omega]; exact h2
    · rw [show o + (i + 1) * 5 + 2 = o + 5 + i * 5 + 2 by omega]; exact h3
    · rw [show o + (i + 1) * 5 + 3 = o + 5 + i * 5 + 3 by omega]; exact h4
    · rw [show o + (i + 1) * 5 + 4 = o + 5 + i * 5 + 4 by omega]; exact h5
def putB (k n : Int) (tn : Nat) : Bool := decide (k = 1) && decide (n < (tn : Int))
set_option maxHeartbeats 1000000 in
theorem isPut_any (k n : Int) (T : Option Addr) (tn tc b o : Nat) (w : World) (a1 : w.cell? ⟨b, o, none⟩ = some (.int .u8 k)) (a2 : w.cell? ⟨b, o + 1, none⟩ = some (.int .i64 n)) :
    Calls Tryd.prog 29 #[.pointer (some ⟨b, o, none⟩), .slice T tn tc] w fun e w' => e = .returned (.bool (putB k n tn)) ∧ w' = w := by
  by_cases h1 : k = 1
  · subst h1
    by_cases h2 : n < (tn : Int)
    · have d2 : decide (n < (tn : Int)) = true := by simpa using h2
      have hr : putB 1 n tn = true := by simp [putB, h2]
      rw [hr]
      clear hr
      go_enter Tryd.func29, Tryd.ntmps29
      go_wp2_with fail
      go_ret
      exact ⟨rfl, rfl⟩
    · have d2 : decide (n < (tn : Int)) = false := by simpa using h2
      have hr : putB 1 n tn = false := by simp [putB, h2]
      rw [hr]
      clear hr
      go_enter Tryd.func29, Tryd.ntmps29
      go_wp2_with fail
      go_ret
      exact ⟨rfl, rfl⟩
  · have d1 : (k == 1) = false := by simpa using h1
    have hr : putB k n tn = false := by simp [putB, h1]
    rw [hr]
    clear hr
    go_enter Tryd.func29, Tryd.ntmps29
    go_wp2_with fail
    go_ret
    exact ⟨rfl, rfl⟩
/-- mayPut's question of a type. -/
theorem mayPut1_any (k n v c : Int) (A : Option Addr) (len cap : Nat) (kids : Fo) (w : World) (h : KidsAt w (Old w) A len cap kids) (hsz : kids.size ≤ 1400000) :
    Calls Tryd.prog 52 #[.agg #[.int .u8 k, .int .i64 n, .int .i64 v, .int .u8 c, .slice A len cap]] w fun e w' => e = .returned (.bool (decide (tyErr (.cons k n v c kids .nil) ≠ 0))) ∧ Bel w w' := by
  have H := Lib.hid (fun (W : World) (hb : Bel w W) => tmay_any k n v c A len cap kids W (h.bel hb) hsz)
  clear h
  obtain ⟨x, hx⟩ : ∃ x, x = tyErr (.cons k n v c kids .nil) := ⟨_, rfl⟩
  rw [← hx] at H ⊢
  clear hx
  by_cases h0 : x = 0
  · subst h0
    go_enter Tryd.func52, Tryd.ntmps52
    go_wp2_with fail
    refine (H.out _ ((Bel.refl w).alloc _)).mono ?_
    rintro e w1 ⟨rfl, hb⟩
    have HB := Lib.hid (((Bel.refl w).alloc _).on hb)
    clear hb
    go_wp2_with fail
    go_ret
    exact ⟨rfl, HB.out⟩
  · have d0 : (x != 0) = true := by simpa using h0
    have e0 : decide (x ≠ 0) = true := by simpa using h0
    rw [e0]
    go_enter Tryd.func52, Tryd.ntmps52
    go_wp2_with fail
    refine (H.out _ ((Bel.refl w).alloc _)).mono ?_
    rintro e w1 ⟨rfl, hb⟩
    have HB := Lib.hid (((Bel.refl w).alloc _).on hb)
    clear hb
    go_wp2_with fail
    go_ret
    exact ⟨rfl, HB.out⟩
theorem Fo.nth_size : ∀ (f : Fo) (i : Nat), (f.nth i).size ≤ f.size
  | .nil, _ => Nat.le_refl _
  | .cons k n v c kids rest, 0 => by simp only [Fo.nth, Fo.size]; omega
  | .cons k n v c kids rest, i + 1 => by have := Fo.nth_size rest i; simp only [Fo.nth, Fo.size]; omega
/-- A list of types none of which is too long. -/
def TsOk (f : Fo) : Prop := f.len ≤ 1400000 ∧ f.size ≤ 100000000 ∧ ∀ i, (f.nth i).size ≤ 1400000
theorem TsOk.of {f : Fo} (h : f.size ≤ 1400000) : TsOk f := ⟨Nat.le_trans f.len_le h, by omega, fun i => Nat.le_trans (f.nth_size i) h⟩
/-- One of a list is no type. -/
def Fo.bad : Fo → Bool
  | .nil => false
  | .cons k n v c kids rest => decide (tyErr (.cons k n v c kids .nil) ≠ 0) || rest.bad
theorem Fo.bad_of : ∀ (f : Fo) (i : Nat), i < f.len → tyErr (f.nth i) ≠ 0 → f.bad = true
  | .nil, i, h, _ => by simp [Fo.len] at h
  | .cons k n v c kids rest, 0, _, h => by simp only [Fo.bad, Fo.nth] at *; simp [h]
  | .cons k n v c kids rest, i + 1, hi, h => by
    simp only [Fo.bad, Bool.or_eq_true]
    exact .inr (Fo.bad_of rest i (by simp only [Fo.len] at hi; omega) h)
theorem Fo.bad_no : ∀ (f : Fo), (∀ i, i < f.len → tyErr (f.nth i) = 0) → f.bad = false
  | .nil, _ => rfl
  | .cons k n v c kids rest, h => by
    have h0 := h 0 (by simp [Fo.len])
    have h1 := Fo.bad_no rest (fun i hi => h (i + 1) (by simp only [Fo.len]; omega))
    simp only [Fo.nth] at h0
    simp [Fo.bad, h0, h1]
set_option maxRecDepth 100000 in
set_option maxHeartbeats 1000000 in
theorem tidx_any (A : Option Addr) (n cap : Nat) (f : Fo) (w : World) (h : KidsAt w (Old w) A n cap f) (hn : TsOk f) :
    Calls Tryd.prog 66 #[.slice A n cap, .func (.func 52) #[] #[]] w fun e w' => ∃ r : Int, e = .returned (.int .i64 r) ∧ ((f.bad = true ∧ 0 ≤ r) ∨ (f.bad = false ∧ r = -1)) ∧ Bel w w' := by
  have H := Lib.hid h
  have HL : Hid (n = f.len) := Lib.hid h.1
  have hnl : n ≤ 2000000 := by have := hn.1; have := h.1; omega
  clear h
  go_enter Tryd.func66, Tryd.ntmps66
  go_wp2
  go_loopw [8] (fun i wr => ∃ j : Nat, j ≤ n ∧ i = .int .i64 (j : Int) ∧ Hid (∀ i, i < j → tyErr (f.nth i) = 0) ∧ Hid (Bel w wr)) (fun i _ => n - (intOf i).toNat)
  case atStart => exact ⟨0, Nat.zero_le _, rfl, Lib.hid (fun i hi => by omega), Lib.hid (Bel.refl _)⟩
  case round =>
    obtain ⟨j, hj, rfl, HT, HB⟩ := hrel
    by_cases hlt : j < n
    · obtain ⟨b, o, eA, hb, hfo⟩ := (H.out.bel HB.out).2.2 (by omega)
      subst eA
      obtain ⟨k', n', v', c', kids', A', cap', en, e1, e2, e3, e4, e5, hk'⟩ := FoAt.nth f j b o hfo (by rw [← HL.out]; exact hlt)
      have hsz' : kids'.size ≤ 1400000 := by have := hn.2.2 j; rw [en] at this; simp only [Fo.size] at this; omega
      have HC : Hid (∀ W, Bel wr W → Calls Tryd.prog 52 #[.agg #[.int .u8 k', .int .i64 n', .int .i64 v', .int .u8 c', .slice A' kids'.len cap']] W fun e w' => e = .returned (.bool (decide (tyErr (f.nth j) ≠ 0))) ∧ Bel W w') := Lib.hid fun W hW => by
        rw [en]
        exact mayPut1_any k' n' v' c' A' kids'.len cap' kids' W (hk'.bel hW) hsz'
      have i1 : (0 : Int) ≤ (j : Int) := by omega
      have i2 : (j : Int) < (n : Int) := by omega
      obtain ⟨bb, hbb⟩ : ∃ bb, bb = decide (tyErr (f.nth j) ≠ 0) := ⟨_, rfl⟩
      rw [← hbb] at HC
      have HBB := Lib.hid hbb
      obtain ⟨l', hl'⟩ : ∃ l', l' = kids'.len := ⟨_, rfl⟩
      rw [← hl'] at e5 HC
      clear hfo en hk' hsz' hbb hl'
      cases bb
      · go_wp2_with fail
        refine (HC.out _ (Bel.refl _)).mono ?_
        rintro e w2 ⟨rfl, hb2⟩
        have HB2 := Lib.hid (HB.out.on hb2)
        clear hb2
        go_wp2
        go_roundw
        case rel => exact ⟨j + 1, by omega, by go_num, Lib.hid (fun i hi => by
          by_cases hij : i = j
          · subst hij
            have := HBB.out
            simpa using this.symm
          · exact HT.out i (by omega)), HB2⟩
        case measure => simp [intOf]; omega
      · go_wp2_with fail
        refine (HC.out _ (Bel.refl _)).mono ?_
        rintro e w2 ⟨rfl, hb2⟩
        have HB2 := Lib.hid (HB.out.on hb2)
        clear hb2
        go_wp2
        go_ret
        exact ⟨_, rfl, .inl ⟨Fo.bad_of f j (by rw [← HL.out]; exact hlt) (by have := HBB.out; simpa using this.symm), by omega⟩, HB2.out⟩
    · obtain rfl : j = n := by omega
      go_wp2
      go_ret
      exact ⟨_, rfl, .inr ⟨Fo.bad_no f (fun i hi => HT.out i (by rw [HL.out]; exact hi)), rfl⟩, HB.out⟩
theorem tcont_any (A : Option Addr) (n cap : Nat) (f : Fo) (w : World) (h : KidsAt w (Old w) A n cap f) (hn : TsOk f) :
    Calls Tryd.prog 51 #[.slice A n cap, .func (.func 52) #[] #[]] w fun e w' => e = .returned (.bool f.bad) ∧ Bel w w' := by
  go_enter Tryd.func51, Tryd.ntmps51
  go_wp2_with fail
  refine (tidx_any A n cap f w h hn).mono ?_
  rintro e w2 ⟨r, rfl, ⟨h1, h2⟩ | ⟨h1, h2⟩, hb⟩
  · go_wp2
    go_ret
    exact ⟨by rw [h1]; rfl, hb⟩
  · subst h2
    go_wp2
    go_ret
    exact ⟨by rw [h1]; rfl, hb⟩
end Go.Proofs.YtblgligagngpfaaDoor.Mu
namespace Go.Proofs.YtblgligagngpfaaDoor.Mu
open Go.ChangeShapes Go.WideShapes Go.ChangeAt Go.RowKit Go.Shelf

attribute [local go_sem] Oper.semAt_some
set_option linter.unusedVariables false

/-- A slice value reads as a list of Mus. -/
def RMu (w : World) (A : Option Addr) (n : Nat) (ms : List (Int × Int)) : Prop := n = ms.length ∧ (0 < n → ∃ b o, A = some ⟨b, o, none⟩ ∧ b < w.heap.size ∧ ∀ (i : Nat) (x : Int × Int), ms[i]? = some x → w.cell? ⟨b, o + i * 2, none⟩ = some (.int .i64 x.1) ∧ w.cell? ⟨b, o + i * 2 + 1, none⟩ = some (.int .u8 x.2))
theorem RMu.bel {w w' : World} {A : Option Addr} {n : Nat} {ms : List (Int × Int)} (h : RMu w A n ms) (hb : Bel w w') : RMu w' A n ms :=
  ⟨h.1, fun h0 => by
    obtain ⟨b, o, e, hl, hc⟩ := h.2 h0
    exact ⟨b, o, e, Nat.lt_of_lt_of_le hl hb.size, fun i x hx => ⟨(hb.cell (p := ⟨b, o + i * 2, none⟩) hl).trans (hc i x hx).1, (hb.cell (p := ⟨b, o + i * 2 + 1, none⟩) hl).trans (hc i x hx).2⟩⟩⟩
theorem mayPut2_any (v c : Int) (w : World) : Calls Tryd.prog 54 #[.agg #[.int .i64 v, .int .u8 c]] w fun e w' => e = .returned (.bool (!isB v c)) ∧ Bel w w' := by
  have H := Lib.hid (fun (W : World) => is_any v c W)
  cases hi : isB v c
  · have e0 : errF false = 2 := rfl
    rw [hi, e0] at H
    go_enter Tryd.func54, Tryd.ntmps54
    go_wp2_with fail
    refine (H.out _).mono ?_
    rintro e w1 ⟨rfl, hb⟩
    have HB := Lib.hid (((Bel.refl w).alloc _).on hb)
    clear hb
    go_wp2_with fail
    go_ret
    exact ⟨rfl, HB.out⟩
  · have e0 : errF true = 0 := rfl
    rw [hi, e0] at H
    go_enter Tryd.func54, Tryd.ntmps54
    go_wp2_with fail
    refine (H.out _).mono ?_
    rintro e w1 ⟨rfl, hb⟩
    have HB := Lib.hid (((Bel.refl w).alloc _).on hb)
    clear hb
    go_wp2_with fail
    go_ret
    exact ⟨rfl, HB.out⟩
def musBad (ms : List (Int × Int)) : Bool := ms.any fun x => !isB x.1 x.2
set_option maxRecDepth 100000 in
set_option maxHeartbeats 1000000 in
theorem midx_any (A : Option Addr) (n cap : Nat) (ms : List (Int × Int)) (w : World) (h : RMu w A n ms) (hn : n ≤ 9223372036854775807) :
    Calls Tryd.prog 67 #[.slice A n cap, .func (.func 54) #[] #[]] w fun e w' => ∃ r : Int, e = .returned (.int .i64 r) ∧ ((musBad ms = true ∧ 0 ≤ r) ∨ (musBad ms = false ∧ r = -1)) ∧ Bel w w' := by
  have H := Lib.hid h
  have HL : Hid (n = ms.length) := Lib.hid h.1
  clear h
  go_enter Tryd.func67, Tryd.ntmps67
  go_wp2
  go_loopw [8] (fun i wr => ∃ j : Nat, j ≤ n ∧ i = .int .i64 (j : Int) ∧ Hid ((ms.take j).any (fun x => !isB x.1 x.2) = false) ∧ Hid (Bel w wr)) (fun i _ => n - (intOf i).toNat)
  case atStart => exact ⟨0, Nat.zero_le _, rfl, Lib.hid (by simp), Lib.hid (Bel.refl _)⟩
  case round =>
    obtain ⟨j, hj, rfl, HT, HB⟩ := hrel
    by_cases hlt : j < n
    · obtain ⟨b, o, eA, hb, hc⟩ := (H.out.bel HB.out).2 (by omega)
      subst eA
      obtain ⟨x, hx⟩ : ∃ x, ms[j]? = some x := ⟨_, List.getElem?_eq_getElem (by rw [← HL.out]; exact hlt)⟩
      obtain ⟨c0, c1⟩ := hc j x hx
      have HX := Lib.hid hx
      obtain ⟨xv, xc⟩ := x
      have i1 : (0 : Int) ≤ (j : Int) := by omega
      have i2 : (j : Int) < (n : Int) := by omega
      obtain ⟨bb, hbb⟩ : ∃ bb, bb = !isB xv xc := ⟨_, rfl⟩
      have HC : Hid (∀ W, Calls Tryd.prog 54 #[.agg #[.int .i64 xv, .int .u8 xc]] W fun e w' => e = .returned (.bool bb) ∧ Bel W w') := Lib.hid fun W => by rw [hbb]; exact mayPut2_any xv xc W
      have HBB := Lib.hid hbb
      clear hc hx hbb
      cases bb
      · go_wp2_with fail
        refine (HC.out _).mono ?_
        rintro e w2 ⟨rfl, hb2⟩
        have HB2 := Lib.hid (HB.out.on hb2)
        clear hb2
        go_wp2
        go_roundw
        case rel => exact ⟨j + 1, by omega, by go_num, Lib.hid (by rw [List.take_add_one, HX.out, List.any_append, HT.out]; simp; have := HBB.out; simpa using this), HB2⟩
        case measure => simp [intOf]; omega
      · go_wp2_with fail
        refine (HC.out _).mono ?_
        rintro e w2 ⟨rfl, hb2⟩
        have HB2 := Lib.hid (HB.out.on hb2)
        clear hb2
        go_wp2
        go_ret
        exact ⟨_, rfl, .inl ⟨List.any_eq_true.2 ⟨_, List.mem_of_getElem? HX.out, HBB.out.symm⟩, by omega⟩, HB2.out⟩
    · obtain rfl : j = n := by omega
      go_wp2
      go_ret
      refine ⟨_, rfl, .inr ⟨?_, rfl⟩, HB.out⟩
      have h := HT.out
      rw [HL.out, List.take_length] at h
      exact h
theorem mcont_any (A : Option Addr) (n cap : Nat) (ms : List (Int × Int)) (w : World) (h : RMu w A n ms) (hn : n ≤ 9223372036854775807) :
    Calls Tryd.prog 53 #[.slice A n cap, .func (.func 54) #[] #[]] w fun e w' => e = .returned (.bool (musBad ms)) ∧ Bel w w' := by
  go_enter Tryd.func53, Tryd.ntmps53
  go_wp2_with fail
  refine (midx_any A n cap ms w h hn).mono ?_
  rintro e w2 ⟨r, rfl, ⟨h1, h2⟩ | ⟨h1, h2⟩, hb⟩
  · go_wp2
    go_ret
    exact ⟨by rw [h1]; rfl, hb⟩
  · subst h2
    go_wp2
    go_ret
    exact ⟨by rw [h1]; rfl, hb⟩
/-- What may be put. -/
def okPut (t ts : Fo) (ms : List (Int × Int)) : Bool := decide (tyErr t = 0) && !ts.bad && !musBad ms
set_option maxRecDepth 100000 in
set_option maxHeartbeats 1000000 in
theorem mayPut_any (k n v c : Int) (A : Option Addr) (len cap : Nat) (kids : Fo) (T : Option Addr) (tn tc : Nat) (ts : Fo) (U : Option Addr) (un uc : Nat) (ms : List (Int × Int)) (w : World) (h : KidsAt w (Old w) A len cap kids) (hsz : kids.size ≤ 1400000) (ht : KidsAt w (Old w) T tn tc ts) (hts : TsOk ts) (hu : RMu w U un ms) (hun : un ≤ 9223372036854775807) :
    Calls Tryd.prog 25 #[.agg #[.int .u8 k, .int .i64 n, .int .i64 v, .int .u8 c, .slice A len cap], .slice T tn tc, .slice U un uc] w fun e w' => e = .returned (.bool (okPut (.cons k n v c kids .nil) ts ms)) ∧ Bel w w' := by
  have H1 := Lib.hid (fun (W : World) (hb : Bel w W) => tmay_any k n v c A len cap kids W (h.bel hb) hsz)
  have H2 := Lib.hid (fun (W : World) (hb : Bel w W) => tcont_any T tn tc ts W (ht.bel hb) hts)
  have H3 := Lib.hid (fun (W : World) (hb : Bel w W) => mcont_any U un uc ms W (hu.bel hb) hun)
  obtain ⟨x, hx⟩ : ∃ x, x = tyErr (.cons k n v c kids .nil) := ⟨_, rfl⟩
  obtain ⟨y, hy⟩ : ∃ y, y = ts.bad := ⟨_, rfl⟩
  obtain ⟨z, hz⟩ : ∃ z, z = musBad ms := ⟨_, rfl⟩
  have hr : okPut (.cons k n v c kids .nil) ts ms = (decide (x = 0) && !y && !z) := by rw [hx, hy, hz]; rfl
  rw [hr]
  rw [← hx] at H1
  rw [← hy] at H2
  rw [← hz] at H3
  clear h ht hu hx hy hz hr
  by_cases h0 : x = 0
  · subst h0
    cases y
    · cases z
      all_goals
        go_enter Tryd.func25, Tryd.ntmps25
        go_wp2_with fail
        refine (H1.out _ ((Bel.refl w).alloc _)).mono ?_
        rintro e w1 ⟨rfl, hb⟩
        have HB := Lib.hid (((Bel.refl w).alloc _).on hb)
        clear hb
        go_wp2_with fail
        refine (H2.out _ HB.out).mono ?_
        rintro e w2 ⟨rfl, hb⟩
        have HB2 := Lib.hid (HB.out.on hb)
        clear hb
        go_wp2_with fail
        refine (H3.out _ HB2.out).mono ?_
        rintro e w3 ⟨rfl, hb⟩
        have HB3 := Lib.hid (HB2.out.on hb)
        clear hb
        go_wp2_with fail
        go_ret
        exact ⟨rfl, HB3.out⟩
    · go_enter Tryd.func25, Tryd.ntmps25
      go_wp2_with fail
      refine (H1.out _ ((Bel.refl w).alloc _)).mono ?_
      rintro e w1 ⟨rfl, hb⟩
      have HB := Lib.hid (((Bel.refl w).alloc _).on hb)
      clear hb
      go_wp2_with fail
      refine (H2.out _ HB.out).mono ?_
      rintro e w2 ⟨rfl, hb⟩
      have HB2 := Lib.hid (HB.out.on hb)
      clear hb
      go_wp2_with fail
      go_ret
      exact ⟨rfl, HB2.out⟩
  · have d0 : (x == 0) = false := by simpa using h0
    have e0 : (decide (x = 0) && !y && !z) = false := by simp [h0]
    rw [e0]
    go_enter Tryd.func25, Tryd.ntmps25
    go_wp2_with fail
    refine (H1.out _ ((Bel.refl w).alloc _)).mono ?_
    rintro e w1 ⟨rfl, hb⟩
    have HB := Lib.hid (((Bel.refl w).alloc _).on hb)
    clear hb
    go_wp2_with fail
    go_ret
    exact ⟨rfl, HB.out⟩
end Go.Proofs.YtblgligagngpfaaDoor.Mu
namespace Go.Proofs.YtblgligagngpfaaDoor.Mu
open Go.ChangeShapes Go.WideShapes Go.ChangeAt Go.RowKit Go.Shelf

attribute [local go_sem] Oper.semAt_some
set_option linter.unusedVariables false

/-- A call as a step of a region that draws its order. -/
theorem step_callT {P : Program} {ops : Array Oper} {o : Oper} {a : Act} {w : World} {K : Act → World → Prop} {Q : Exit → Act → World → Prop} {E : Prop} (hgd : o.guard = none) (f : FuncId) (args : Array Value) (hrun : (execOp a.eval o).run P w = .ok (.enter f args) w)
    (h : Calls P f args w fun e w' => ∃ v, e = .returned v ∧ K (a.put o.dst v) w') : if Region.wanted o (yielded ops a.tmps) = true then Oper.wp P o a w K Q else E := by
  have hw : Region.wanted o (yielded ops a.tmps) = true := by simp [Region.wanted, hgd]
  rw [if_pos hw]
  unfold Oper.wp
  rw [hrun]
  refine h.mono ?_
  rintro e w' ⟨v, rfl, hk⟩
  exact hk
theorem wrapEq (x : Int) : IntKind.i64.wrap x = wrap64 x := IntWalk.i64_left x
/-- How many nodes a type has when types are put in it, so far. -/
def szN (ts : Fo) (tn : Nat) (s : Int) (k n v c : Int) (_ : Nat) : Int × Bool := (if putB k n tn = true then wrap64 (s + ((ts.nth n.toNat).size : Int)) else wrap64 (s + 1), true)
def SzI (tb cb : Nat) (Ok : Nat → Prop) (T : Option Addr) (tn tc : Nat) (ts : Fo) (s : Int) (w : World) : Prop := CntI cb s w ∧ w.heap[tb]? = some (.cells #[.slice T tn tc] 25 (0, 0)) ∧ KidsAt w Ok T tn tc ts ∧ (∀ j, Ok j → j < w.heap.size ∧ j ≠ cb)
set_option maxRecDepth 100000 in
set_option maxHeartbeats 1000000 in
theorem sz_put (tb cb : Nat) (Ok : Nat → Prop) (T : Option Addr) (tn tc : Nat) (ts : Fo) (s n : Int) (b o : Nat) (w : World) (hI : SzI tb cb Ok T tn tc ts s w) (a1 : w.cell? ⟨b, o, none⟩ = some (.int .u8 1)) (a2 : w.cell? ⟨b, o + 1, none⟩ = some (.int .i64 n)) (hn0 : 0 ≤ n) (hn : n < (tn : Int)) (hts : TsOk ts) (hb : b ≠ cb) (htb : tb ≠ cb) :
    Calls Tryd.prog 56 #[.pointer (some ⟨b, o, none⟩), .pointer (some ⟨tb, 0, none⟩), .pointer (some ⟨cb, 0, none⟩)] w fun e w1 => e = .returned (.bool true) ∧ CntI cb (wrap64 (s + ((ts.nth n.toNat).size : Int))) w1 ∧ Fr (fun j => j = cb) w w1 (fun j => j = cb) := by
  obtain ⟨h0, h1, h2, h3⟩ := hI
  obtain ⟨c0, f0⟩ := one_of h0
  obtain ⟨c1, f1⟩ := one_of h1
  obtain ⟨i, hi⟩ : ∃ i : Nat, n = i := ⟨n.toNat, by omega⟩
  subst hi
  have hit : i < tn := by omega
  obtain ⟨tb', to', eT, hob, hfo⟩ := h2.2.2 (by omega)
  subst eT
  obtain ⟨k', n', v', c', kids', A', cap', en, e1, e2, e3, e4, e5, hk'⟩ := FoAt.nth ts i tb' to' hfo (by rw [← h2.1]; exact hit)
  have hsz' : kids'.size ≤ 1400000 := by have := hts.2.2 i; rw [en] at this; simp only [Fo.size] at this; omega
  have hsn : ((ts.nth i).size : Int) = ((1 + kids'.size : Nat) : Int) := by rw [en]; simp [Fo.size]
  have HSN : Hid ((ts.nth (i : Int).toNat).size = 1 + kids'.size) := Lib.hid (by rw [Int.toNat_natCast, en]; simp [Fo.size])
  have HSZ : Hid (∀ W, Bel w W → Calls Tryd.prog 24 #[.agg #[.int .u8 k', .int .i64 n', .int .i64 v', .int .u8 c', .slice A' kids'.len cap']] W fun e w' => e = .returned (.int .i64 ((1 + kids'.size : Nat) : Int)) ∧ Bel W w') := Lib.hid fun W hW => size_any k' n' v' c' A' kids'.len cap' kids' W ((hk'.wide fun j hj => (h3 j hj).1).bel hW) hsz'
  obtain ⟨l', hl'⟩ : ∃ l', l' = kids'.len := ⟨_, rfl⟩
  obtain ⟨z, hz⟩ : ∃ z : Int, z = ((1 + kids'.size : Nat) : Int) := ⟨_, rfl⟩
  rw [← hl'] at e5 HSZ
  rw [← hz] at HSZ
  have HZ : Hid (((ts.nth (i : Int).toNat).size : Int) = z) := Lib.hid (by rw [HSN.out, hz])
  have H0 := Lib.hid h0
  have hcl : cb < w.heap.size := (Array.getElem?_eq_some_iff.1 h0).1
  have hip := fun (W : World) (x1 : W.cell? ⟨b, o, none⟩ = some (.int .u8 1)) (x2 : W.cell? ⟨b, o + 1, none⟩ = some (.int .i64 i)) => isPut_any 1 i (some ⟨tb', to', none⟩) tn tc b o W x1 x2
  have ep : putB 1 (i : Int) tn = true := by simp [putB, hit]
  rw [ep] at hip
  have HIP := Lib.hid (hip w a1 a2)
  have htl : tb' < w.heap.size := (h3 tb' hob).1
  have hbl : b < w.heap.size := World.block_lt_of_cell? w _ a1
  have htbl : tb < w.heap.size := (Array.getElem?_eq_some_iff.1 h1).1
  have i1 : (0 : Int) ≤ (i : Int) := by omega
  clear hip hk' hsz' en hfo h0 h1 h2 h3 hsn hl' hz ep HSN
  go_enter Tryd.func56, Tryd.ntmps56
  go_wp2_with fail
  refine HIP.out.mono ?_
  rintro e w1 ⟨rfl, rfl⟩
  go_wp2_with fail
  go_region_law (refine step_callT rfl 24 #[.agg #[.int .u8 k', .int .i64 n', .int .i64 v', .int .u8 c', .slice A' l' cap']] (by simp [go_sem]) ((HSZ.out _ (Bel.refl w1).drew).mono ?_); rintro e w2 ⟨rfl, hb2⟩; refine ⟨_, rfl, ?_⟩; (have hb12 : Bel w1 w2 := (Bel.refl w1).drew.on hb2); (have HB2 := Lib.hid hb12); (have c0' := (hb12.cell (p := ⟨cb, 0, none⟩) hcl).trans c0); (have f0' := (hb12.frozen (p := ⟨cb, 0, none⟩) hcl).trans f0); clear hb2 hb12)
  all_goals
    go_wp2_with fail
    go_ret
    have hq := HB2.out.blk (show w1.heap[cb]? = some (.cells #[.int .i64 s] 3 (0, 0)) from H0.out)
    refine ⟨rfl, by unfold CntI; rw [HZ.out, ← wrapEq]; exact put_one hq, HB2.out.os, HB2.out.tape, HB2.out.output, by have := HB2.out.size; simpa [World.setCell] using this, fun j hj hne => ?_, fun j h => .inl h⟩
    exact (heap_setCell_other w2 _ j _ (fun e => hne e)).trans (HB2.out.block j hj)
set_option maxHeartbeats 1000000 in
theorem sz_no (tb cb : Nat) (T : Option Addr) (tn tc : Nat) (s k n : Int) (b o : Nat) (w : World) (h0 : CntI cb s w) (h1 : w.heap[tb]? = some (.cells #[.slice T tn tc] 25 (0, 0))) (a1 : w.cell? ⟨b, o, none⟩ = some (.int .u8 k)) (a2 : w.cell? ⟨b, o + 1, none⟩ = some (.int .i64 n)) (hp : putB k n tn = false) :
    Calls Tryd.prog 56 #[.pointer (some ⟨b, o, none⟩), .pointer (some ⟨tb, 0, none⟩), .pointer (some ⟨cb, 0, none⟩)] w fun e w1 => e = .returned (.bool true) ∧ CntI cb (wrap64 (s + 1)) w1 ∧ Fr (fun j => j = cb) w w1 (fun j => j = cb) := by
  obtain ⟨c0, f0⟩ := one_of h0
  obtain ⟨c1, f1⟩ := one_of h1
  have hip := isPut_any k n T tn tc b o w a1 a2
  rw [hp] at hip
  have HIP := Lib.hid hip
  have H0 := Lib.hid h0
  clear hip h0 h1 a1 a2 hp
  go_enter Tryd.func56, Tryd.ntmps56
  go_wp2_with fail
  refine HIP.out.mono ?_
  rintro e w1 ⟨rfl, rfl⟩
  go_wp2_with fail
  go_ret
  exact ⟨rfl, put_one H0.out, rfl, rfl, rfl, by simp [World.setCell], fun j _ hne => heap_setCell_other w1 _ j _ (fun e => hne e), fun j h => .inl h⟩
theorem sz_read (tb cb : Nat) (Okt Ok : Nat → Prop) (T : Option Addr) (tn tc : Nat) (ts : Fo) (hts : TsOk ts) (htb : tb ≠ cb) (hO : ∀ j, Okt j → Ok j) (hOt : Ok tb) : ReadC Tryd.prog 56 #[.pointer (some ⟨tb, 0, none⟩), .pointer (some ⟨cb, 0, none⟩)] none (szN ts tn) noU (fun k n _ _ _ => k = 1 → 0 ≤ n) Ok (fun s m w => SzI tb cb Okt T tn tc ts s w ∧ m = fun j => j = cb) where
  keep := fun s m w w' h hs hk ho => ⟨⟨(hk cb (by rw [h.2])).trans h.1.1, (ho tb hOt).trans h.1.2.1, h.1.2.2.1.keep fun j hj => ho j (hO j hj), fun j hj => ⟨Nat.lt_of_lt_of_le (h.1.2.2.2 j hj).1 hs, (h.1.2.2.2 j hj).2⟩⟩, h.2⟩
  lt := fun s m w h j hj => by rw [h.2] at hj; rw [show j = cb from hj]; exact (Array.getElem?_eq_some_iff.1 h.1.1).1
  node := fun s m w b o k n v c A len cap hI hG a1 a2 a3 a4 a5 hm => by
    obtain ⟨hI, rfl⟩ := hI
    have hkeep : ∀ w1, Fr (fun j => j = cb) w w1 (fun j => j = cb) → ∀ s', CntI cb s' w1 → SzI tb cb Okt T tn tc ts s' w1 := fun w1 h3 s' h2 =>
      ⟨h2, (h3.keep tb (Array.getElem?_eq_some_iff.1 hI.2.1).1 htb).trans hI.2.1, hI.2.2.1.keep fun j hj => h3.keep j (hI.2.2.2 j hj).1 (fun e => (hI.2.2.2 j hj).2 e), fun j hj => ⟨Nat.lt_of_lt_of_le (hI.2.2.2 j hj).1 h3.size, (hI.2.2.2 j hj).2⟩⟩
    cases hp : putB k n tn
    · refine (sz_no tb cb T tn tc s k n b o w hI.1 hI.2.1 a1 a2 hp).mono ?_
      rintro e w1 ⟨h1, h2, h3⟩
      have e1 : (szN ts tn s k n v c len).1 = wrap64 (s + 1) := by simp [szN, hp]
      exact ⟨h1, _, ⟨by rw [e1]; exact hkeep w1 h3 _ h2, rfl⟩, h3⟩
    · have hp' : k = 1 ∧ n < (tn : Int) := by simpa [putB] using hp
      obtain ⟨rfl, hn⟩ := hp'
      refine (sz_put tb cb Okt T tn tc ts s n b o w hI a1 a2 (hG rfl) hn hts (fun e => hm e) htb).mono ?_
      rintro e w1 ⟨h1, h2, h3⟩
      have e1 : (szN ts tn s 1 n v c len).1 = wrap64 (s + ((ts.nth n.toNat).size : Int)) := by simp [szN, hp]
      exact ⟨h1, _, ⟨by rw [e1]; exact hkeep w1 h3 _ h2, rfl⟩, h3⟩
  mu := fun gm cm e => by cases e
end Go.Proofs.YtblgligagngpfaaDoor.Mu
namespace Go.Proofs.YtblgligagngpfaaDoor.Mu
open Go.ChangeShapes Go.WideShapes Go.ChangeAt Go.RowKit Go.Shelf

attribute [local go_sem] Oper.semAt_some
set_option linter.unusedVariables false

/-- How many nodes it has when types are put in it. -/
def Fo.putSize (ts : Fo) (tn : Nat) : Fo → Nat
  | .nil => 0
  | .cons k n v c kids rest => (if putB k n tn = true then (ts.nth n.toNat).size else 1) + Fo.putSize ts tn kids + Fo.putSize ts tn rest
theorem Fo.putSize_le (ts : Fo) (tn : Nat) : ∀ f : Fo, Fo.putSize ts tn f ≤ f.size * (ts.size + 1)
  | .nil => by simp [Fo.putSize]
  | .cons k n v c kids rest => by
    have h1 := Fo.putSize_le ts tn kids
    have h2 := Fo.putSize_le ts tn rest
    have h3 := Fo.nth_size ts n.toNat
    simp only [Fo.putSize, Fo.size, Nat.add_mul, Nat.one_mul]
    split <;> omega
theorem sz_run (ts : Fo) (tn : Nat) : ∀ (f : Fo) (s : Int), 0 ≤ s → s + Fo.putSize ts tn f ≤ 9223372036854775807 → runF (szN ts tn) noU false f none s = s + Fo.putSize ts tn f
  | .nil, s, _, _ => by simp [runF, Fo.putSize]
  | .cons k n v c kids rest, s, h0, h1 => by
    simp only [Fo.putSize] at h1
    simp only [runF, szN, if_true, Bool.false_eq_true, and_false, if_false, Fo.putSize]
    by_cases hp : putB k n tn = true
    · simp only [hp, if_true] at h1 ⊢
      rw [wrap64_id (by omega) (by omega), sz_run ts tn kids _ (by omega) (by omega), sz_run ts tn rest _ (by omega) (by omega)]
      omega
    · simp only [hp] at h1 ⊢
      rw [if_neg (by simp)] at h1
      rw [if_neg (by simp), wrap64_id (by omega) (by omega), sz_run ts tn kids _ (by omega) (by omega), sz_run ts tn rest _ (by omega) (by omega), if_neg (by simp)]
      omega
set_option maxRecDepth 100000 in
set_option maxHeartbeats 1000000 in
theorem sizeOfPut_any (k n v c : Int) (A : Option Addr) (len cap : Nat) (kids : Fo) (T : Option Addr) (tn tc : Nat) (ts : Fo) (w : World) (h : KidsAt w (Old w) A len cap kids) (hsz : kids.size ≤ 1400000) (ht : KidsAt w (Old w) T tn tc ts) (hts : TsOk ts) (hG : (Fo.cons k n v c kids .nil).All (fun k n _ _ _ => k = 1 → 0 ≤ n)) :
    Calls Tryd.prog 26 #[.agg #[.int .u8 k, .int .i64 n, .int .i64 v, .int .u8 c, .slice A len cap], .slice T tn tc] w fun e w' => e = .returned (.int .i64 (Fo.putSize ts tn (.cons k n v c kids .nil) : Nat)) ∧ Bel w w' := by
  have H := Lib.hid h
  have HT := Lib.hid ht
  have HG := Lib.hid hG
  clear h ht hG
  go_enter Tryd.func26, Tryd.ntmps26
  go_wp2_with fail
  obtain ⟨q1, q2, q3⟩ := blk3 w (.cells #[.int .u8 k, .int .i64 n, .int .i64 v, .int .u8 c, .slice A len cap] 27) (.cells #[.slice T tn tc] 25) (.cells #[.int .i64 0] 3)
  have hb2 : Bel w (((w.alloc (.cells #[.int .u8 k, .int .i64 n, .int .i64 v, .int .u8 c, .slice A len cap] 27)).alloc (.cells #[.slice T tn tc] 25)).alloc (.cells #[.int .i64 0] 3)) := (((Bel.refl w).alloc _).alloc _).alloc _
  have hs2 : (((w.alloc (.cells #[.int .u8 k, .int .i64 n, .int .i64 v, .int .u8 c, .slice A len cap] 27)).alloc (.cells #[.slice T tn tc] 25)).alloc (.cells #[.int .i64 0] 3)).heap.size = w.heap.size + 3 := by simp
  obtain ⟨w2, hw2⟩ : ∃ w2, w2 = ((w.alloc (.cells #[.int .u8 k, .int .i64 n, .int .i64 v, .int .u8 c, .slice A len cap] 27)).alloc (.cells #[.slice T tn tc] 25)).alloc (.cells #[.int .i64 0] 3) := ⟨_, rfl⟩
  rw [← hw2] at q1 q2 q3 hb2 hs2 ⊢
  have hk2 : KidsAt w2 (fun j => j ≤ w.heap.size + 1) A len cap kids := (H.out.keep fun _ hj => hb2.block _ hj).wide fun _ hj => by unfold Old at hj; omega
  have ht2 : KidsAt w2 (Old w) T tn tc ts := HT.out.keep fun _ hj => hb2.block _ hj
  refine (through_read (M := none) (sz_read (w.heap.size + 1) (w.heap.size + 2) (Old w) (fun j => j ≤ w.heap.size + 1) T tn tc ts hts (by omega) (fun j hj => by unfold Old at hj; omega) (Nat.le_refl _)) (enters_of Tryd.func56 (by kernel_rfl) rfl) (fun _ _ e => by cases e) k n v c kids w.heap.size 0 w2 (fun j => j = w.heap.size + 2) 0 (box_fo q1 hk2) HG.out (by omega) ⟨⟨q3, q2, ht2, fun j hj => by unfold Old at hj; omega⟩, rfl⟩ (fun j hj => ⟨by omega, fun e => by omega⟩) hsz).mono ?_
  rintro e w3 ⟨rfl, m3, ⟨⟨hI3, _⟩, _⟩, hfr⟩
  have hle := Fo.putSize_le ts tn (.cons k n v c kids .nil)
  have hfs : (Fo.cons k n v c kids .nil).size ≤ 1400001 := by simp only [Fo.size]; omega
  have hmul : (Fo.cons k n v c kids .nil).size * (ts.size + 1) ≤ 1400001 * 100000001 := Nat.mul_le_mul hfs (by have := hts.2.1; omega)
  have hI4 : CntI (w.heap.size + 2) ((Fo.putSize ts tn (.cons k n v c kids .nil) : Nat) : Int) w3 := by
    have := sz_run ts tn (.cons k n v c kids .nil) 0 (Int.le_refl _) (by omega)
    rw [Int.zero_add] at this
    rw [← this]
    exact hI3
  have c3 := (one_of hI4).1
  have hB3 : Bel w w3 := ⟨hfr.os.trans hb2.os, hfr.tape.trans hb2.tape, hfr.output.trans hb2.output, Nat.le_trans hb2.size hfr.size, fun j hj => (hfr.keep j (by omega) (fun e => by omega)).trans (hb2.block j hj)⟩
  have HB3 := Lib.hid hB3
  obtain ⟨r, hr⟩ : ∃ r, r = ((Fo.putSize ts tn (.cons k n v c kids .nil) : Nat) : Int) := ⟨_, rfl⟩
  rw [← hr] at c3
  have HR := Lib.hid hr
  clear q1 q2 q3 hb2 hs2 hw2 hk2 ht2 hI3 hfr hle hfs hmul hI4 hB3 hr
  go_wp2_with fail
  go_ret
  exact ⟨by rw [← HR.out]; rfl, HB3.out⟩
/-- What is put for a multiplicity. -/
def putU (ms : List (Int × Int)) (v c : Int) : Int × Int := if c = 0 ∧ v < (ms.length : Int) then ms[v.toNat]?.getD (v, c) else (v, c)
def Mu2 (b o : Nat) (y : Int × Int) (w : World) (e : Ending) (w1 : World) : Prop := e = .returned (.tuple #[]) ∧ FrC (fun j x => j = b ∧ o ≤ x ∧ x < o + 2) (fun _ => False) w w1 (fun _ => False) ∧ w1.cell? ⟨b, o, none⟩ = some (.int .i64 y.1) ∧ w1.cell? ⟨b, o + 1, none⟩ = some (.int .u8 y.2)
theorem Mu2.same {b o : Nat} {v c : Int} {w : World} {e : Ending} (k : Nat) (he : e = .returned (.tuple #[])) (a1 : w.cell? ⟨b, o, none⟩ = some (.int .i64 v)) (a2 : w.cell? ⟨b, o + 1, none⟩ = some (.int .u8 c)) : Mu2 b o (v, c) w e (w.drewN k) :=
  ⟨he, FrC.of_bel ((Bel.refl w).drewN k), a1, a2⟩
set_option maxRecDepth 100000 in
set_option maxHeartbeats 1000000 in
theorem put2_any (mb : Nat) (U : Option Addr) (un uc : Nat) (ms : List (Int × Int)) (b o : Nat) (v c : Int) (w : World) (hm : w.heap[mb]? = some (.cells #[.slice U un uc] 28 (0, 0))) (hu : RMu w U un ms) (hv : c = 0 → 0 ≤ v) (a1 : w.cell? ⟨b, o, none⟩ = some (.int .i64 v)) (a2 : w.cell? ⟨b, o + 1, none⟩ = some (.int .u8 c)) (hfz : ∀ x, w.frozen? ⟨b, x, none⟩ = false) :
    Calls Tryd.prog 32 #[.pointer (some ⟨b, o, none⟩), .pointer (some ⟨mb, 0, none⟩)] w (Mu2 b o (putU ms v c) w) := by
  obtain ⟨c1, f1⟩ := one_of hm
  have HA := Lib.hid (And.intro a1 a2)
  by_cases hc : c = 0
  · subst hc
    have hv0 := hv rfl
    by_cases hlt : v < (un : Int)
    · obtain ⟨i, hi⟩ : ∃ i : Nat, v = i := ⟨v.toNat, by omega⟩
      subst hi
      obtain ⟨ub, uo, eU, hul, hcs⟩ := hu.2 (by omega)
      subst eU
      have hil : i < ms.length := by have := hu.1; omega
      obtain ⟨x, hx⟩ : ∃ x, ms[i]? = some x := ⟨_, List.getElem?_eq_getElem hil⟩
      obtain ⟨d0, d1⟩ := hcs i x hx
      have hp : putU ms (i : Int) 0 = x := by
        unfold putU
        rw [if_pos ⟨rfl, by omega⟩, Int.toNat_natCast, hx]
        rfl
      rw [hp]
      obtain ⟨xv, xc⟩ := x
      have dl : decide ((i : Int) < (un : Int)) = true := by simpa using hlt
      have dl2 : decide (i < un) = true := by simp; omega
      have i1 : (0 : Int) ≤ (i : Int) := by omega
      have f0 := hfz o
      have f2 := hfz (o + 1)
      have HF := Lib.hid hfz
      clear hm hu hcs hx hp hv hfz
      go_enter Tryd.func32, Tryd.ntmps32
      go_wp2_with fail
      go_quiet (fail)
      go_wp2_with fail
      go_region
      all_goals
        go_end0
        refine ⟨rfl, ((FrC.of_bel ((Bel.refl w).drewN _)).set ⟨rfl, by omega, by omega⟩ _).set ⟨rfl, by omega, by omega⟩ _, ?_, ?_⟩
        · exact (World.cell?_setCell_other _ _ _ _ (by simp)).trans (World.cell?_setCell_same (w := w.drewN _) _ _ a1)
        · exact World.cell?_setCell_same _ _ _ ((World.cell?_setCell_other (w.drewN _) _ _ _ (by simp)).trans a2)
    · have dl : decide (v < (un : Int)) = false := by simpa using hlt
      have hp : putU ms v 0 = (v, 0) := by
        unfold putU
        rw [if_neg (by have := hu.1; omega)]
      rw [hp]
      clear hp hm hu hv hfz
      go_enter Tryd.func32, Tryd.ntmps32
      go_wp2_with fail
      go_quiet (fail)
      go_wp2_with fail
      go_end0
      exact Mu2.same _ rfl HA.out.1 HA.out.2
  · have dc : (c == 0) = false := by simpa using hc
    have hp : putU ms v c = (v, c) := by
      unfold putU
      rw [if_neg (fun h => hc h.1)]
    rw [hp]
    clear hp hm hu hv hfz
    go_enter Tryd.func32, Tryd.ntmps32
    go_wp2_with fail
    go_quiet (fail)
    go_wp2_with fail
    go_end0
    exact Mu2.same _ rfl HA.out.1 HA.out.2
end Go.Proofs.YtblgligagngpfaaDoor.Mu
namespace Go.Proofs.YtblgligagngpfaaDoor.Mu
open Go.ChangeShapes Go.WideShapes Go.ChangeAt Go.RowKit Go.Shelf

attribute [local go_sem] Oper.semAt_some
set_option linter.unusedVariables false

/-- Five cells are written. -/
theorem set5 {w : World} {b o : Nat} {o0 o1 o2 o3 o4 : Value} (x0 x1 x2 x3 x4 : Value) (a0 : w.cell? ⟨b, o, none⟩ = some o0) (a1 : w.cell? ⟨b, o + 1, none⟩ = some o1) (a2 : w.cell? ⟨b, o + 2, none⟩ = some o2) (a3 : w.cell? ⟨b, o + 3, none⟩ = some o3) (a4 : w.cell? ⟨b, o + 4, none⟩ = some o4) :
    ∃ w', w' = (((((w.setCell ⟨b, o, none⟩ x0).setCell ⟨b, o + 1, none⟩ x1).setCell ⟨b, o + 2, none⟩ x2).setCell ⟨b, o + 3, none⟩ x3).setCell ⟨b, o + 4, none⟩ x4) ∧ (w'.cell? ⟨b, o, none⟩ = some x0 ∧ w'.cell? ⟨b, o + 1, none⟩ = some x1 ∧ w'.cell? ⟨b, o + 2, none⟩ = some x2 ∧ w'.cell? ⟨b, o + 3, none⟩ = some x3 ∧ w'.cell? ⟨b, o + 4, none⟩ = some x4) ∧
      (∀ w0, Bel w0 w → FrC (fun j x => j = b ∧ o ≤ x ∧ x < o + 5) (fun _ => False) w0 w' (fun _ => False)) ∧ (∀ j, j ≠ b → w'.heap[j]? = w.heap[j]?) ∧ w'.heap.size = w.heap.size := by
  have hn : ∀ (W : World) (x y : Nat) (v : Value), x ≠ y → (W.setCell ⟨b, x, none⟩ v).cell? ⟨b, y, none⟩ = W.cell? ⟨b, y, none⟩ := fun W x y v h => World.cell?_setCell_other W _ ⟨b, y, none⟩ _ (fun e => h (by injection e))
  have ho : ∀ j, j ≠ b → (((((w.setCell ⟨b, o, none⟩ x0).setCell ⟨b, o + 1, none⟩ x1).setCell ⟨b, o + 2, none⟩ x2).setCell ⟨b, o + 3, none⟩ x3).setCell ⟨b, o + 4, none⟩ x4).heap[j]? = w.heap[j]? := fun j hj => by
    have hne : ∀ o, j ≠ (⟨b, o, none⟩ : Addr).block := fun o e => hj e
    rw [heap_setCell_other _ _ j _ (hne (o + 4)), heap_setCell_other _ _ j _ (hne (o + 3)), heap_setCell_other _ _ j _ (hne (o + 2)), heap_setCell_other _ _ j _ (hne (o + 1)), heap_setCell_other _ _ j _ (hne o)]
  refine ⟨_, rfl, ⟨?_, ?_, ?_, ?_, ?_⟩, fun w0 hb => (((((FrC.of_bel hb).set ⟨rfl, by omega, by omega⟩ _).set ⟨rfl, by omega, by omega⟩ _).set ⟨rfl, by omega, by omega⟩ _).set ⟨rfl, by omega, by omega⟩ _).set ⟨rfl, by omega, by omega⟩ _, ho, by simp [World.setCell]⟩
  · rw [hn _ _ _ _ (by omega), hn _ _ _ _ (by omega), hn _ _ _ _ (by omega), hn _ _ _ _ (by omega)]
    exact World.cell?_setCell_same _ _ _ a0
  · rw [hn _ _ _ _ (by omega), hn _ _ _ _ (by omega), hn _ _ _ _ (by omega)]
    exact World.cell?_setCell_same _ _ _ ((hn _ _ _ _ (by omega)).trans a1)
  · rw [hn _ _ _ _ (by omega), hn _ _ _ _ (by omega)]
    exact World.cell?_setCell_same _ _ _ ((hn _ _ _ _ (by omega)).trans ((hn _ _ _ _ (by omega)).trans a2))
  · rw [hn _ _ _ _ (by omega)]
    exact World.cell?_setCell_same _ _ _ ((hn _ _ _ _ (by omega)).trans ((hn _ _ _ _ (by omega)).trans ((hn _ _ _ _ (by omega)).trans a3)))
  · exact World.cell?_setCell_same _ _ _ ((hn _ _ _ _ (by omega)).trans ((hn _ _ _ _ (by omega)).trans ((hn _ _ _ _ (by omega)).trans ((hn _ _ _ _ (by omega)).trans a4))))
set_option maxRecDepth 100000 in
set_option maxHeartbeats 1000000 in
/-- A variable that is put: a copy of its type stands there. -/
theorem put1_yes (tb : Nat) (Ok : Nat → Prop) (T : Option Addr) (tn tc : Nat) (ts : Fo) (n : Int) (b o : Nat) (o2 o3 o4 : Value) (w : World) (h1 : w.heap[tb]? = some (.cells #[.slice T tn tc] 25 (0, 0))) (h2 : KidsAt w Ok T tn tc ts) (h3 : ∀ j, Ok j → j < w.heap.size) (a1 : w.cell? ⟨b, o, none⟩ = some (.int .u8 1)) (a2 : w.cell? ⟨b, o + 1, none⟩ = some (.int .i64 n)) (a3 : w.cell? ⟨b, o + 2, none⟩ = some o2) (a4 : w.cell? ⟨b, o + 3, none⟩ = some o3) (a5 : w.cell? ⟨b, o + 4, none⟩ = some o4) (hfz : ∀ x, w.frozen? ⟨b, x, none⟩ = false) (hn0 : 0 ≤ n) (hn : n < (tn : Int)) (hts : TsOk ts) :
    Calls Tryd.prog 28 #[.pointer (some ⟨b, o, none⟩), .pointer (some ⟨tb, 0, none⟩)] w fun e w1 => e = .returned (.bool false) ∧ FrC (fun j x => j = b ∧ o ≤ x ∧ x < o + 5) (fun _ => False) w w1 (fun _ => False) ∧
      ∃ k' n' v' c' kids' A cap, ts.nth n.toNat = .cons k' n' v' c' kids' .nil ∧ w1.cell? ⟨b, o, none⟩ = some (.int .u8 k') ∧ w1.cell? ⟨b, o + 1, none⟩ = some (.int .i64 n') ∧ w1.cell? ⟨b, o + 2, none⟩ = some (.int .i64 v') ∧ w1.cell? ⟨b, o + 3, none⟩ = some (.int .u8 c') ∧ w1.cell? ⟨b, o + 4, none⟩ = some (.slice A kids'.len cap) ∧ KidsAt w1 (fun j => w.heap.size ≤ j ∧ j < w1.heap.size) A kids'.len cap kids' := by
  obtain ⟨c1, f1⟩ := one_of h1
  obtain ⟨i, hi⟩ : ∃ i : Nat, n = i := ⟨n.toNat, by omega⟩
  subst hi
  have hit : i < tn := by omega
  obtain ⟨tb', to', eT, hob, hfo⟩ := h2.2.2 (by omega)
  subst eT
  obtain ⟨k', n', v', c', kids', A', cap', en, e1, e2, e3, e4, e5, hk'⟩ := FoAt.nth ts i tb' to' hfo (by rw [← h2.1]; exact hit)
  have hsz' : kids'.size ≤ 1400000 := by have := hts.2.2 i; rw [en] at this; simp only [Fo.size] at this; omega
  have HEN : Hid (ts.nth (i : Int).toNat = .cons k' n' v' c' kids' .nil) := Lib.hid (by rw [Int.toNat_natCast, en])
  have HCP : Hid (∀ W, Bel w W → Calls Tryd.prog 30 #[.agg #[.int .u8 k', .int .i64 n', .int .i64 v', .int .u8 c', .slice A' kids'.len cap']] W fun e w' => TyOut W w' (.cons k' n' v' c' kids' .nil) e ∧ Bel W w') := Lib.hid fun W hW => copied_any k' n' v' c' A' kids'.len cap' kids' W ((hk'.wide fun j hj => h3 j hj).bel hW) hsz'
  obtain ⟨l', hl'⟩ : ∃ l', l' = kids'.len := ⟨_, rfl⟩
  have HL := Lib.hid hl'
  rw [← hl'] at e5 HCP
  have hip := isPut_any 1 (i : Int) (some ⟨tb', to', none⟩) tn tc b o w a1 a2
  have ep : putB 1 (i : Int) tn = true := by simp [putB, hit]
  rw [ep] at hip
  have HIP := Lib.hid hip
  have htl : tb' < w.heap.size := h3 tb' hob
  have hbl : b < w.heap.size := World.block_lt_of_cell? w _ a1
  have htbl : tb < w.heap.size := (Array.getElem?_eq_some_iff.1 h1).1
  have i1 : (0 : Int) ≤ (i : Int) := by omega
  have dl2 : decide (i < tn) = true := by simp; omega
  have z0 := hfz o
  have z1 := hfz (o + 1)
  have z2 := hfz (o + 2)
  have z3 := hfz (o + 3)
  have z4 := hfz (o + 4)
  clear hip hk' hsz' en hfo h1 h2 h3 hl' ep hfz
  go_enter Tryd.func28, Tryd.ntmps28
  go_wp2_with fail
  refine HIP.out.mono ?_
  rintro e w1 ⟨rfl, rfl⟩
  go_wp2_with fail
  go_region_law (refine step_callT rfl 30 #[.agg #[.int .u8 k', .int .i64 n', .int .i64 v', .int .u8 c', .slice A' l' cap']] (by simp [go_sem]) ((HCP.out _ (Bel.refl w1).drew).mono ?_); rintro e w2 ⟨⟨k2, n2, v2, c2, kids2, A2, cap2, e0, rfl, hk2⟩, hb2⟩; refine ⟨_, rfl, ?_⟩; (cases e0); (have hb12 : Bel w1 w2 := (Bel.refl w1).drew.on hb2); (have HB2 := Lib.hid hb12); (have HK2 := Lib.hid hk2); (have y1 := (hb12.cell (p := ⟨b, o, none⟩) hbl).trans a1); (have y2 := (hb12.cell (p := ⟨b, o + 1, none⟩) hbl).trans a2); (have y3 := (hb12.cell (p := ⟨b, o + 2, none⟩) hbl).trans a3); (have y4 := (hb12.cell (p := ⟨b, o + 3, none⟩) hbl).trans a4); (have y5 := (hb12.cell (p := ⟨b, o + 4, none⟩) hbl).trans a5); (have u0 := (hb12.frozen (p := ⟨b, o, none⟩) hbl).trans z0); (have u1 := (hb12.frozen (p := ⟨b, o + 1, none⟩) hbl).trans z1); (have u2 := (hb12.frozen (p := ⟨b, o + 2, none⟩) hbl).trans z2); (have u3 := (hb12.frozen (p := ⟨b, o + 3, none⟩) hbl).trans z3); (have u4 := (hb12.frozen (p := ⟨b, o + 4, none⟩) hbl).trans z4); clear hb2 hb12 hk2)
  all_goals
    go_wp2_with fail
    go_ret
    obtain ⟨w9, hw9, hc9, hf9, ho9, hs9⟩ := set5 (w := w2) (.int .u8 k') (.int .i64 n') (.int .i64 v') (.int .u8 c') (.slice A2 kids'.len cap2) y1 y2 y3 y4 y5
    rw [← hw9]
    refine ⟨rfl, hf9 _ HB2.out, k', n', v', c', kids', A2, cap2, HEN.out, hc9.1, hc9.2.1, hc9.2.2.1, hc9.2.2.2.1, hc9.2.2.2.2, ?_⟩
    refine KidsAt.wide (KidsAt.keep HK2.out fun j hj => ho9 j fun e => ?_) fun j hj => ⟨hj.1, by rw [hs9]; exact hj.2⟩
    have h0 : w1.heap.size ≤ j := hj.1
    omega
set_option maxRecDepth 100000 in
set_option maxHeartbeats 1000000 in
/-- Where nothing is put, what is within is cloned. -/
theorem put1_no (tb : Nat) (T : Option Addr) (tn tc : Nat) (k n v c : Int) (kids : Fo) (Ok : Nat → Prop) (b o : Nat) (w : World) (h1 : w.heap[tb]? = some (.cells #[.slice T tn tc] 25 (0, 0))) (hf : FoAt w Ok (.cons k n v c kids .nil) b o) (hfz : ∀ x, w.frozen? ⟨b, x, none⟩ = false) (hb : b < w.heap.size) (hnb : ¬ Ok b) (hOk : ∀ j, Ok j → j < w.heap.size) (hn : kids.len ≤ 2000000) (hp : putB k n tn = false) :
    Calls Tryd.prog 28 #[.pointer (some ⟨b, o, none⟩), .pointer (some ⟨tb, 0, none⟩)] w fun e w1 => e = .returned (.bool true) ∧ FrC (fun j x => j = b ∧ o ≤ x ∧ x < o + 5) (fun _ => False) w w1 (fun _ => False) ∧ ∃ A cap, w1.cell? ⟨b, o, none⟩ = some (.int .u8 k) ∧ w1.cell? ⟨b, o + 1, none⟩ = some (.int .i64 n) ∧ w1.cell? ⟨b, o + 2, none⟩ = some (.int .i64 v) ∧ w1.cell? ⟨b, o + 3, none⟩ = some (.int .u8 c) ∧ w1.cell? ⟨b, o + 4, none⟩ = some (.slice A kids.len cap) ∧ kids.len ≤ cap ∧
      (0 < kids.len → ∃ b', A = some ⟨b', 0, none⟩ ∧ w.heap.size ≤ b' ∧ b' < w1.heap.size ∧ (∀ x, w1.frozen? ⟨b', x, none⟩ = false) ∧ FoAt w1 Ok kids b' 0) := by
  obtain ⟨cc1, ff1⟩ := one_of h1
  obtain ⟨A, cap, a1, a2, a3, a4, a5, a6, a7, _⟩ := hf
  have hip := isPut_any k n T tn tc b o w a1 a2
  rw [hp] at hip
  have HIP := Lib.hid hip
  have HK : Hid (KidsAt w Ok A kids.len cap kids) := Lib.hid ⟨rfl, a6, a7⟩
  have HC := Lib.hid (And.intro a1 (And.intro a2 (And.intro a3 a4)))
  have f4 := hfz (o + 4)
  have HF := Lib.hid hfz
  have HOK := Lib.hid hOk
  have HN := Lib.hid hnb
  obtain ⟨l, hl⟩ : ∃ l, l = kids.len := ⟨_, rfl⟩
  have HL := Lib.hid hl
  rw [← hl] at a5 hn HK
  clear a1 a2 a3 a4 a6 a7 hfz hOk hnb hl hip h1 hp
  go_enter Tryd.func28, Tryd.ntmps28
  go_wp2_with fail
  refine HIP.out.mono ?_
  rintro e w0 ⟨rfl, rfl⟩
  go_wp2_with fail
  refine (cloneT_any A l cap kids Ok w0 HK.out HOK.out hn).mono ?_
  rintro e w1 ⟨A', c', rfl, hc', hA', hb1⟩
  have c4 := (hb1.cell (p := ⟨b, o + 4, none⟩) hb).trans a5
  have f4' := (hb1.frozen (p := ⟨b, o + 4, none⟩) hb).trans f4
  have HB1 := Lib.hid hb1
  have HA' := Lib.hid hA'
  have hb' : b < w1.heap.size := Nat.lt_of_lt_of_le hb hb1.size
  clear hb1 hA'
  go_wp2_with fail
  go_ret
  have hne : ∀ x, x ≠ o + 4 → (w1.setCell ⟨b, o + 4, none⟩ (.slice A' l c')).cell? ⟨b, x, none⟩ = w0.cell? ⟨b, x, none⟩ := fun x hx => (World.cell?_setCell_other w1 _ ⟨b, x, none⟩ _ (fun e => by injection e; omega)).trans (HB1.out.cell (p := ⟨b, x, none⟩) hb)
  obtain ⟨a1, a2, a3, a4⟩ := HC.out
  refine ⟨rfl, (FrC.of_bel HB1.out).set ⟨rfl, by omega, by omega⟩ _, A', c', (hne _ (by omega)).trans a1, (hne _ (by omega)).trans a2, (hne _ (by omega)).trans a3, (hne _ (by omega)).trans a4, by rw [← HL.out]; exact World.cell?_setCell_same _ _ _ c4, by rw [← HL.out]; exact hc', fun h0 => ?_⟩
  obtain ⟨b', e, q1, q2, q3, q4⟩ := HA'.out (by rw [HL.out]; exact h0)
  refine ⟨b', e, q1, by simpa [World.setCell] using q2, fun x => by rw [World.frozen?_setCell]; exact q3 x, FoAt.keepc (fun j hj x => World.cell?_setCell_other w1 _ ⟨j, x, none⟩ _ (fun e => ?_)) kids b' 0 (fun x _ _ => World.cell?_setCell_other w1 _ ⟨b', x, none⟩ _ (fun e => by injection e; omega)) q4⟩
  injection e with e1 _ _
  exact HN.out (e1 ▸ hj)
end Go.Proofs.YtblgligagngpfaaDoor.Mu
namespace Go.Proofs.YtblgligagngpfaaDoor.Mu
open Go.ChangeShapes Go.WideShapes Go.ChangeAt Go.RowKit Go.Shelf

attribute [local go_sem] Oper.semAt_some
set_option linter.unusedVariables false

theorem RMu.keep {w w' : World} {A : Option Addr} {n : Nat} {ms : List (Int × Int)} (h : RMu w A n ms) (hs : w.heap.size ≤ w'.heap.size) (hk : ∀ j, j < w.heap.size → w'.heap[j]? = w.heap[j]?) : RMu w' A n ms :=
  ⟨h.1, fun h0 => by
    obtain ⟨b, o, e, hl, hc⟩ := h.2 h0
    have hcell : ∀ x, w'.cell? ⟨b, x, none⟩ = w.cell? ⟨b, x, none⟩ := fun x => by simp [World.cell?, hk b hl]
    exact ⟨b, o, e, Nat.lt_of_lt_of_le hl hs, fun i x hx => ⟨(hcell _).trans (hc i x hx).1, (hcell _).trans (hc i x hx).2⟩⟩⟩
/-- What Put writes at a node. -/
def putN (ts : Fo) (tn : Nat) (s : Unit) (k n v c : Int) (_ : Fo) : Unit × (Int × Int × Int × Int) × Option Fo :=
  if putB k n tn = true then (match ts.nth n.toNat with
    | .cons k' n' v' c' kids' _ => (s, (k', n', v', c'), some kids')
    | .nil => (s, (k, n, v, c), some .nil)) else (s, (k, n, v, c), none)
def putUW (ms : List (Int × Int)) (s : Unit) (v c : Int) : Unit × Int × Int := (s, putU ms v c)
def PutOk (w0 : World) (tb mb j : Nat) : Prop := j < w0.heap.size ∨ j = tb ∨ j = mb
def PutInv (w0 : World) (tb mb : Nat) (T : Option Addr) (tn tc : Nat) (U : Option Addr) (un uc : Nat) (_ : Unit) (m : Nat → Prop) (w : World) : Prop :=
  w0.heap.size ≤ w.heap.size ∧ (∀ j, j < w0.heap.size → w.heap[j]? = w0.heap[j]?) ∧ w.heap[tb]? = some (.cells #[.slice T tn tc] 25 (0, 0)) ∧ w.heap[mb]? = some (.cells #[.slice U un uc] 28 (0, 0)) ∧ m = fun _ => False
theorem PutInv.ok {w0 : World} {tb mb : Nat} {T : Option Addr} {tn tc : Nat} {U : Option Addr} {un uc : Nat} {s : Unit} {m : Nat → Prop} {w : World} (h : PutInv w0 tb mb T tn tc U un uc s m w) : ∀ j, PutOk w0 tb mb j → j < w.heap.size := by
  rintro j (hj | rfl | rfl)
  · exact Nat.lt_of_lt_of_le hj h.1
  · exact (Array.getElem?_eq_some_iff.1 h.2.2.1).1
  · exact (Array.getElem?_eq_some_iff.1 h.2.2.2.1).1
theorem PutInv.kept {w0 : World} {tb mb : Nat} {T : Option Addr} {tn tc : Nat} {U : Option Addr} {un uc : Nat} {s s' : Unit} {m : Nat → Prop} {w w' : World} (h : PutInv w0 tb mb T tn tc U un uc s m w) (hs : w.heap.size ≤ w'.heap.size) (hk : ∀ j, PutOk w0 tb mb j → w'.heap[j]? = w.heap[j]?) : PutInv w0 tb mb T tn tc U un uc s' m w' :=
  ⟨Nat.le_trans h.1 hs, fun j hj => (hk j (.inl hj)).trans (h.2.1 j hj), (hk tb (.inr (.inl rfl))).trans h.2.2.1, (hk mb (.inr (.inr rfl))).trans h.2.2.2.1, h.2.2.2.2⟩
theorem put_write (w0 : World) (tb mb : Nat) (T : Option Addr) (tn tc : Nat) (ts : Fo) (U : Option Addr) (un uc : Nat) (ms : List (Int × Int)) (hts : TsOk ts) (ht : KidsAt w0 (Old w0) T tn tc ts) (hu : RMu w0 U un ms) (hT : ∀ i k n v c kids r, ts.nth i = .cons k n v c kids r → k = 7 → c = 0 → 0 ≤ v) :
    WriteC Tryd.prog 28 #[.pointer (some ⟨tb, 0, none⟩)] (some (32, #[.pointer (some ⟨mb, 0, none⟩)])) (putN ts tn) (putUW ms) (fun k n v c _ => (k = 1 → 0 ≤ n) ∧ (k = 7 → c = 0 → 0 ≤ v)) (fun v c => c = 0 → 0 ≤ v) (PutOk w0 tb mb) (PutInv w0 tb mb T tn tc U un uc) where
  keep := fun s m w w' h hs _ ho => h.kept hs ho
  lt := fun s m w h j hj => by rw [h.2.2.2.2] at hj; exact hj.elim
  node := fun s m w b o k n v c kids hI hG hf hfz hb hm hnb hsz => by
    have hOk := hI.ok
    have hm0 := hI.2.2.2.2
    subst hm0
    have hkeep : ∀ w1, FrC (fun j x => j = b ∧ o ≤ x ∧ x < o + 5) (fun _ => False) w w1 (fun _ => False) → ∀ s', PutInv w0 tb mb T tn tc U un uc s' (fun _ => False) w1 := fun w1 h s' =>
      hI.kept h.size fun j hj => h.keep j (hOk j hj) (fun e => e) fun x e => hnb (e.1 ▸ hj)
    cases hp : putB k n tn
    · have en : putN ts tn s k n v c kids = (s, (k, n, v, c), none) := by simp [putN, hp]
      rw [en]
      refine (put1_no tb T tn tc k n v c kids (PutOk w0 tb mb) b o w hI.2.2.1 hf hfz hb hnb hOk (by have := kids.len_le; omega) hp).mono ?_
      rintro e w1 ⟨h1, h2, A, cap, d0, d1, d2, d3, d4, hc, hA⟩
      refine ⟨h1, _, hkeep w1 h2 _, h2, A, _, cap, d0, d1, d2, d3, d4, fun ks e => (by cases e), fun _ => ⟨rfl, hc, fun h0 => ?_⟩⟩
      obtain ⟨b', e, q1, q2, q3, q4⟩ := hA h0
      exact ⟨b', e, q1, q2, fun h => h, q3, q4⟩
    · obtain ⟨A0, cap0, a1, a2, a3, a4, a5, _⟩ := hf
      have hp' : k = 1 ∧ n < (tn : Int) := by simpa [putB] using hp
      obtain ⟨rfl, hn⟩ := hp'
      have ht1 : KidsAt w (Old w0) T tn tc ts := ht.keep fun j hj => hI.2.1 j hj
      refine (put1_yes tb (Old w0) T tn tc ts n b o _ _ _ w hI.2.2.1 ht1 (fun j hj => hOk j (.inl hj)) a1 a2 a3 a4 a5 hfz (hG.1 rfl) hn hts).mono ?_
      rintro e w1 ⟨h1, h2, k', n', v', c', kids', A, cap, e1, d0, d1, d2, d3, d4, hK⟩
      have en : putN ts tn s 1 n v c kids = (s, (k', n', v', c'), some kids') := by simp [putN, hp, e1]
      rw [en]
      refine ⟨h1, _, hkeep w1 h2 _, h2, A, _, cap, d0, d1, d2, d3, d4, fun ks e => ?_, fun e => (by cases e)⟩
      cases e
      exact hK.wide fun j hj => ⟨hj.1, hj.2, fun e => e⟩
  gm := fun s k n v c kids hG h7 => by
    by_cases hp : putB k n tn = true
    · unfold putN at h7 ⊢
      rw [if_pos hp] at h7 ⊢
      cases e : ts.nth n.toNat with
      | nil => rw [e] at h7; exact hG.2 h7
      | cons k' n' v' c' kids' r => rw [e] at h7; exact hT _ _ _ _ _ _ _ e h7
    · unfold putN at h7 ⊢
      rw [if_neg hp] at h7 ⊢
      exact hG.2 h7
  mu := fun gm cm e s m w b o v c hI hv a1 a2 hfz hb _ hnb => by
    cases e
    have hOk := hI.ok
    have hm0 := hI.2.2.2.2
    subst hm0
    refine (put2_any mb U un uc ms b o v c w hI.2.2.2.1 (RMu.keep hu hI.1 hI.2.1) hv a1 a2 hfz).mono ?_
    rintro e w1 ⟨h1, h2, h3, h4⟩
    exact ⟨h1, _, hI.kept h2.size fun j hj => h2.keep j (hOk j hj) (fun e => e) fun x e => hnb (e.1 ▸ hj), h2, h3, h4⟩
end Go.Proofs.YtblgligagngpfaaDoor.Mu
namespace Go.Proofs.YtblgligagngpfaaDoor.Mu
open Go.ChangeShapes Go.WideShapes Go.ChangeAt Go.RowKit Go.Shelf

attribute [local go_sem] Oper.semAt_some
set_option linter.unusedVariables false

theorem blk4 (w : World) (o o2 o3 o4 : Obj) : ((((w.alloc o).alloc o2).alloc o3).alloc o4).heap[w.heap.size]? = some o ∧ ((((w.alloc o).alloc o2).alloc o3).alloc o4).heap[w.heap.size + 1]? = some o2 ∧ ((((w.alloc o).alloc o2).alloc o3).alloc o4).heap[w.heap.size + 2]? = some o3 ∧ ((((w.alloc o).alloc o2).alloc o3).alloc o4).heap[w.heap.size + 3]? = some o4 := by
  obtain ⟨h1, h2, h3⟩ := blk3 w o o2 o3
  have hb := (Bel.refl (((w.alloc o).alloc o2).alloc o3)).alloc o4
  have hs : (((w.alloc o).alloc o2).alloc o3).heap.size = w.heap.size + 3 := by simp
  refine ⟨(hb.block _ (by omega)).trans h1, (hb.block _ (by omega)).trans h2, (hb.block _ (by omega)).trans h3, ?_⟩
  rw [← hs]
  exact heap_alloc_new _ o4
/-- No type. -/
def noTy : Value := .agg #[.int .u8 0, .int .i64 0, .int .i64 0, .int .u8 0, .slice none 0 0]
set_option maxRecDepth 100000 in
set_option maxHeartbeats 1000000 in
theorem put_no (k n v c : Int) (A : Option Addr) (len cap : Nat) (kids : Fo) (T : Option Addr) (tn tc : Nat) (ts : Fo) (U : Option Addr) (un uc : Nat) (ms : List (Int × Int)) (w : World) (h : KidsAt w (Old w) A len cap kids) (hsz : kids.size ≤ 1400000) (ht : KidsAt w (Old w) T tn tc ts) (hts : TsOk ts) (hu : RMu w U un ms) (hun : un ≤ 9223372036854775807) (hok : okPut (.cons k n v c kids .nil) ts ms = false) :
    Calls Tryd.prog 6 #[.agg #[.int .u8 k, .int .i64 n, .int .i64 v, .int .u8 c, .slice A len cap], .slice T tn tc, .slice U un uc] w fun e w' => e = .returned (.tuple #[noTy, .int .i64 2]) ∧ Bel w w' := by
  have HM : Hid (∀ W, Bel w W → Calls Tryd.prog 25 #[.agg #[.int .u8 k, .int .i64 n, .int .i64 v, .int .u8 c, .slice A len cap], .slice T tn tc, .slice U un uc] W fun e w' => e = .returned (.bool false) ∧ Bel W w') := Lib.hid fun W hb => by
    have := mayPut_any k n v c A len cap kids T tn tc ts U un uc ms W (h.bel hb) hsz (ht.bel hb) hts (hu.bel hb) hun
    rwa [hok] at this
  clear h ht hu hok
  go_enter Tryd.func6, Tryd.ntmps6
  go_wp2_with fail
  obtain ⟨q1, q2, q3, q4⟩ := blk4 w (.cells #[.int .u8 k, .int .i64 n, .int .i64 v, .int .u8 c, .slice A len cap] 27) (.cells #[.slice T tn tc] 25) (.cells #[.slice U un uc] 28) (.cells #[.int .u8 0, .int .i64 0, .int .i64 0, .int .u8 0, .slice none 0 0] 27)
  have hb2 : Bel w ((((w.alloc (.cells #[.int .u8 k, .int .i64 n, .int .i64 v, .int .u8 c, .slice A len cap] 27)).alloc (.cells #[.slice T tn tc] 25)).alloc (.cells #[.slice U un uc] 28)).alloc (.cells #[.int .u8 0, .int .i64 0, .int .i64 0, .int .u8 0, .slice none 0 0] 27)) := ((((Bel.refl w).alloc _).alloc _).alloc _).alloc _
  have hs2 : ((((w.alloc (.cells #[.int .u8 k, .int .i64 n, .int .i64 v, .int .u8 c, .slice A len cap] 27)).alloc (.cells #[.slice T tn tc] 25)).alloc (.cells #[.slice U un uc] 28)).alloc (.cells #[.int .u8 0, .int .i64 0, .int .i64 0, .int .u8 0, .slice none 0 0] 27)).heap.size = w.heap.size + 4 := by simp
  refine (HM.out _ hb2).mono ?_
  rintro e w3 ⟨rfl, hb⟩
  have hb3 := hb2.on hb
  have hbx := (hb.block (w.heap.size + 3) (by omega)).trans q4
  obtain ⟨⟨d0, d1, d2, d3, d4⟩, hfz⟩ := cells5 hbx
  have z0 := hfz 0
  have z1 := hfz 1
  have z2 := hfz 2
  have z3 := hfz 3
  have z4 := hfz 4
  have HP := Lib.hid (put5 (x0 := .int .u8 0) (x1 := .int .i64 0) (x2 := .int .i64 0) (x3 := .int .u8 0) (x4 := .slice none 0 0) hbx)
  have HB3 := Lib.hid hb3
  clear q1 q2 q3 q4 hb2 hs2 hb hb3 hbx hfz
  go_wp2_with fail
  obtain ⟨w9, hw9, h9, hbel9, ho9, hs9⟩ := HP.out
  rw [show w.heap.size + 1 + 1 + 1 = w.heap.size + 3 from rfl, ← hw9]
  obtain ⟨⟨k0, k1, k2, k3, k4⟩, _⟩ := cells5 h9
  refine bodyPost_ret (v := .tuple #[noTy, .int .i64 2]) (by simp [results, Tryd.results6, go_sem, k0, k1, k2, k3, k4, noTy]) rfl ?_
  exact ⟨rfl, hbel9 w HB3.out (by omega)⟩
set_option maxRecDepth 100000 in
set_option maxHeartbeats 1000000 in
theorem put_long (k n v c : Int) (A : Option Addr) (len cap : Nat) (kids : Fo) (T : Option Addr) (tn tc : Nat) (ts : Fo) (U : Option Addr) (un uc : Nat) (ms : List (Int × Int)) (w : World) (h : KidsAt w (Old w) A len cap kids) (hsz : kids.size ≤ 1400000) (ht : KidsAt w (Old w) T tn tc ts) (hts : TsOk ts) (hu : RMu w U un ms) (hun : un ≤ 9223372036854775807) (hok : okPut (.cons k n v c kids .nil) ts ms = true) (hG : (Fo.cons k n v c kids .nil).All (fun k n _ _ _ => k = 1 → 0 ≤ n)) (hlong : 300 < Fo.putSize ts tn (.cons k n v c kids .nil)) :
    Calls Tryd.prog 6 #[.agg #[.int .u8 k, .int .i64 n, .int .i64 v, .int .u8 c, .slice A len cap], .slice T tn tc, .slice U un uc] w fun e w' => e = .returned (.tuple #[noTy, .int .i64 3]) ∧ Bel w w' := by
  have HM : Hid (∀ W, Bel w W → Calls Tryd.prog 25 #[.agg #[.int .u8 k, .int .i64 n, .int .i64 v, .int .u8 c, .slice A len cap], .slice T tn tc, .slice U un uc] W fun e w' => e = .returned (.bool true) ∧ Bel W w') := Lib.hid fun W hb => by
    have := mayPut_any k n v c A len cap kids T tn tc ts U un uc ms W (h.bel hb) hsz (ht.bel hb) hts (hu.bel hb) hun
    rwa [hok] at this
  have HS : Hid (∀ W, Bel w W → Calls Tryd.prog 26 #[.agg #[.int .u8 k, .int .i64 n, .int .i64 v, .int .u8 c, .slice A len cap], .slice T tn tc] W fun e w' => e = .returned (.int .i64 (Fo.putSize ts tn (.cons k n v c kids .nil) : Nat)) ∧ Bel W w') := Lib.hid fun W hb => sizeOfPut_any k n v c A len cap kids T tn tc ts W (h.bel hb) hsz (ht.bel hb) hts hG
  obtain ⟨z, hz⟩ : ∃ z : Int, z = ((Fo.putSize ts tn (.cons k n v c kids .nil) : Nat) : Int) := ⟨_, rfl⟩
  rw [← hz] at HS
  have dz : decide ((300 : Int) < z) = true := by simp; omega
  clear h ht hu hok hG hz hlong
  go_enter Tryd.func6, Tryd.ntmps6
  go_wp2_with fail
  obtain ⟨q1, q2, q3, q4⟩ := blk4 w (.cells #[.int .u8 k, .int .i64 n, .int .i64 v, .int .u8 c, .slice A len cap] 27) (.cells #[.slice T tn tc] 25) (.cells #[.slice U un uc] 28) (.cells #[.int .u8 0, .int .i64 0, .int .i64 0, .int .u8 0, .slice none 0 0] 27)
  have hb2 : Bel w ((((w.alloc (.cells #[.int .u8 k, .int .i64 n, .int .i64 v, .int .u8 c, .slice A len cap] 27)).alloc (.cells #[.slice T tn tc] 25)).alloc (.cells #[.slice U un uc] 28)).alloc (.cells #[.int .u8 0, .int .i64 0, .int .i64 0, .int .u8 0, .slice none 0 0] 27)) := ((((Bel.refl w).alloc _).alloc _).alloc _).alloc _
  have hs2 : ((((w.alloc (.cells #[.int .u8 k, .int .i64 n, .int .i64 v, .int .u8 c, .slice A len cap] 27)).alloc (.cells #[.slice T tn tc] 25)).alloc (.cells #[.slice U un uc] 28)).alloc (.cells #[.int .u8 0, .int .i64 0, .int .i64 0, .int .u8 0, .slice none 0 0] 27)).heap.size = w.heap.size + 4 := by simp
  refine (HM.out _ hb2).mono ?_
  rintro e w3 ⟨rfl, hb⟩
  have hb3 := hb2.on hb
  have hbx := (hb.block (w.heap.size + 3) (by omega)).trans q4
  have b0 := (hb.block (w.heap.size) (by omega)).trans q1
  have b1 := (hb.block (w.heap.size + 1) (by omega)).trans q2
  obtain ⟨⟨m0, m1, m2, m3, m4⟩, hfm⟩ := cells5 b0
  obtain ⟨cT, fT⟩ := one_of b1
  have hs3 : w.heap.size + 4 ≤ w3.heap.size := by have := hb.size; omega
  have HB3 := Lib.hid hb3
  have HX := Lib.hid hbx
  have H3 := Lib.hid hs3
  clear q1 q2 q3 q4 hb2 hs2 hb hb3 hbx b0 b1 hs3 hfm
  go_wp2_with fail
  refine (HS.out _ HB3.out).mono ?_
  rintro e w4 ⟨rfl, hb⟩
  have hb4 := HB3.out.on hb
  have hbx := (hb.block (w.heap.size + 3) (by have := H3.out; omega)).trans HX.out
  obtain ⟨⟨d0, d1, d2, d3, d4⟩, hfz⟩ := cells5 hbx
  have z0 := hfz 0
  have z1 := hfz 1
  have z2 := hfz 2
  have z3 := hfz 3
  have z4 := hfz 4
  have HP := Lib.hid (put5 (x0 := .int .u8 0) (x1 := .int .i64 0) (x2 := .int .i64 0) (x3 := .int .u8 0) (x4 := .slice none 0 0) hbx)
  have HB4 := Lib.hid hb4
  clear hb hb4 hbx hfz
  go_wp2_with fail
  obtain ⟨w9, hw9, h9, hbel9, ho9, hs9⟩ := HP.out
  rw [show w.heap.size + 1 + 1 + 1 = w.heap.size + 3 from rfl, ← hw9]
  obtain ⟨⟨k0, k1, k2, k3, k4⟩, _⟩ := cells5 h9
  refine bodyPost_ret (v := .tuple #[noTy, .int .i64 3]) (by simp [results, Tryd.results6, go_sem, k0, k1, k2, k3, k4, noTy]) rfl ?_
  exact ⟨rfl, hbel9 w HB4.out (by omega)⟩
end Go.Proofs.YtblgligagngpfaaDoor.Mu
namespace Go.Proofs.YtblgligagngpfaaDoor.Mu
open Go.ChangeShapes Go.WideShapes Go.ChangeAt Go.RowKit Go.Shelf

attribute [local go_sem] Oper.semAt_some
set_option linter.unusedVariables false

/-- A type and no error, in memory of one's own. -/
def TyOutE (w w' : World) (f : Fo) (e : Ending) : Prop := ∃ k n v c kids A cap, f = .cons k n v c kids .nil ∧ e = .returned (.tuple #[.agg #[.int .u8 k, .int .i64 n, .int .i64 v, .int .u8 c, .slice A kids.len cap], .int .i64 0]) ∧ KidsAt w' (fun j => w.heap.size ≤ j ∧ j < w'.heap.size) A kids.len cap kids
/-- What is put, in the program's own words. -/
def Fo.puts (ts : Fo) (tn : Nat) (ms : List (Int × Int)) (f : Fo) : Fo := (runW (putN ts tn) (putUW ms) true f none ()).1
set_option maxRecDepth 100000 in
set_option maxHeartbeats 1000000 in
theorem put_yes (k n v c : Int) (A : Option Addr) (len cap : Nat) (kids : Fo) (T : Option Addr) (tn tc : Nat) (ts : Fo) (U : Option Addr) (un uc : Nat) (ms : List (Int × Int)) (w : World) (h : KidsAt w (Old w) A len cap kids) (hsz : kids.size ≤ 1400000) (ht : KidsAt w (Old w) T tn tc ts) (hts : TsOk ts) (hu : RMu w U un ms) (hun : un ≤ 9223372036854775807) (hok : okPut (.cons k n v c kids .nil) ts ms = true) (hG : (Fo.cons k n v c kids .nil).All (fun k n v c _ => (k = 1 → 0 ≤ n) ∧ (k = 7 → c = 0 → 0 ≤ v))) (hG1 : (Fo.cons k n v c kids .nil).All (fun k n _ _ _ => k = 1 → 0 ≤ n)) (hT : ∀ i k n v c kids r, ts.nth i = .cons k n v c kids r → k = 7 → c = 0 → 0 ≤ v) (hshort : ¬ 300 < Fo.putSize ts tn (.cons k n v c kids .nil)) :
    Calls Tryd.prog 6 #[.agg #[.int .u8 k, .int .i64 n, .int .i64 v, .int .u8 c, .slice A len cap], .slice T tn tc, .slice U un uc] w fun e w' => TyOutE w w' (Fo.puts ts tn ms (.cons k n v c kids .nil)) e ∧ Bel w w' := by
  have HM : Hid (∀ W, Bel w W → Calls Tryd.prog 25 #[.agg #[.int .u8 k, .int .i64 n, .int .i64 v, .int .u8 c, .slice A len cap], .slice T tn tc, .slice U un uc] W fun e w' => e = .returned (.bool true) ∧ Bel W w') := Lib.hid fun W hb => by
    have := mayPut_any k n v c A len cap kids T tn tc ts U un uc ms W (h.bel hb) hsz (ht.bel hb) hts (hu.bel hb) hun
    rwa [hok] at this
  have HS : Hid (∀ W, Bel w W → Calls Tryd.prog 26 #[.agg #[.int .u8 k, .int .i64 n, .int .i64 v, .int .u8 c, .slice A len cap], .slice T tn tc] W fun e w' => e = .returned (.int .i64 (Fo.putSize ts tn (.cons k n v c kids .nil) : Nat)) ∧ Bel W w') := Lib.hid fun W hb => sizeOfPut_any k n v c A len cap kids T tn tc ts W (h.bel hb) hsz (ht.bel hb) hts hG1
  obtain ⟨z, hz⟩ : ∃ z : Int, z = ((Fo.putSize ts tn (.cons k n v c kids .nil) : Nat) : Int) := ⟨_, rfl⟩
  rw [← hz] at HS
  have dz : decide ((300 : Int) < z) = false := by simp; omega
  have H := Lib.hid h
  have HT := Lib.hid ht
  have HU := Lib.hid hu
  have HG := Lib.hid hG
  have HNT := Lib.hid hT
  clear h ht hu hok hG hG1 hz hshort hT
  go_enter Tryd.func6, Tryd.ntmps6
  go_wp2_with fail
  obtain ⟨q1, q2, q3, q4⟩ := blk4 w (.cells #[.int .u8 k, .int .i64 n, .int .i64 v, .int .u8 c, .slice A len cap] 27) (.cells #[.slice T tn tc] 25) (.cells #[.slice U un uc] 28) (.cells #[.int .u8 0, .int .i64 0, .int .i64 0, .int .u8 0, .slice none 0 0] 27)
  have hb2 : Bel w ((((w.alloc (.cells #[.int .u8 k, .int .i64 n, .int .i64 v, .int .u8 c, .slice A len cap] 27)).alloc (.cells #[.slice T tn tc] 25)).alloc (.cells #[.slice U un uc] 28)).alloc (.cells #[.int .u8 0, .int .i64 0, .int .i64 0, .int .u8 0, .slice none 0 0] 27)) := ((((Bel.refl w).alloc _).alloc _).alloc _).alloc _
  have hs2 : ((((w.alloc (.cells #[.int .u8 k, .int .i64 n, .int .i64 v, .int .u8 c, .slice A len cap] 27)).alloc (.cells #[.slice T tn tc] 25)).alloc (.cells #[.slice U un uc] 28)).alloc (.cells #[.int .u8 0, .int .i64 0, .int .i64 0, .int .u8 0, .slice none 0 0] 27)).heap.size = w.heap.size + 4 := by simp
  refine (HM.out _ hb2).mono ?_
  rintro e w3 ⟨rfl, hb⟩
  have hb3 := hb2.on hb
  have hbx := (hb.block (w.heap.size + 3) (by omega)).trans q4
  have b0 := (hb.block (w.heap.size) (by omega)).trans q1
  have b1 := (hb.block (w.heap.size + 1) (by omega)).trans q2
  have b2 := (hb.block (w.heap.size + 2) (by omega)).trans q3
  have HB := Lib.hid (And.intro b0 (And.intro b1 b2))
  obtain ⟨⟨m0, m1, m2, m3, m4⟩, hfm⟩ := cells5 b0
  obtain ⟨cT, fT⟩ := one_of b1
  have hs3 : w.heap.size + 4 ≤ w3.heap.size := by have := hb.size; omega
  have HB3 := Lib.hid hb3
  have HX := Lib.hid hbx
  have H3 := Lib.hid hs3
  clear q1 q2 q3 q4 hb2 hs2 hb hb3 hbx b0 b1 b2 hs3 hfm
  go_wp2_with fail
  refine (HS.out _ HB3.out).mono ?_
  rintro e w4 ⟨rfl, hb⟩
  have hb4 := HB3.out.on hb
  have hbx := (hb.block (w.heap.size + 3) (by have := H3.out; omega)).trans HX.out
  have b0 := (hb.block (w.heap.size) (by have := H3.out; omega)).trans HB.out.1
  have b1 := (hb.block (w.heap.size + 1) (by have := H3.out; omega)).trans HB.out.2.1
  have b2 := (hb.block (w.heap.size + 2) (by have := H3.out; omega)).trans HB.out.2.2
  have hs4 : w.heap.size + 4 ≤ w4.heap.size := by have := hb.size; have := H3.out; omega
  have HB4 := Lib.hid hb4
  have HX4 := Lib.hid hbx
  have HB5 := Lib.hid (And.intro b0 (And.intro b1 b2))
  have H4 := Lib.hid hs4
  clear hb hb4 hbx b0 b1 b2 hs4
  go_wp2_with fail
  have hI : PutInv w (w.heap.size + 1) (w.heap.size + 2) T tn tc U un uc () (fun _ => False) w4 := ⟨HB4.out.size, fun j hj => HB4.out.block j hj, HB5.out.2.1, HB5.out.2.2, rfl⟩
  have hkb : KidsAt w4 (PutOk w (w.heap.size + 1) (w.heap.size + 2)) A len cap kids := (H.out.keep fun _ hj => HB4.out.block _ hj).wide fun _ hj => .inl hj
  have hnb : ¬ PutOk w (w.heap.size + 1) (w.heap.size + 2) w.heap.size := by unfold PutOk; omega
  refine (through_write (put_write w (w.heap.size + 1) (w.heap.size + 2) T tn tc ts U un uc ms hts HT.out HU.out HNT.out) (enters_of Tryd.func28 (by kernel_rfl) rfl) (fun _ _ e => by cases e; exact enters_of Tryd.func32 (by kernel_rfl) rfl) k n v c kids w.heap.size 0 w4 (fun _ => False) () (box_fo HB5.out.1 hkb) HG.out ⟨by have := H4.out; omega, hnb, fun h => h⟩ (cells5 HB5.out.1).2 hI (fun j hj => ⟨hI.ok j hj, fun h => h⟩) hsz).mono ?_
  rintro e w5 ⟨rfl, m3, hI5, hfo, hfr⟩
  have hm5 := hI5.2.2.2.2
  subst hm5
  obtain ⟨k3, n3, v3, c3, kids3, hF⟩ : ∃ k3 n3 v3 c3 kids3, Fo.puts ts tn ms (.cons k n v c kids .nil) = .cons k3 n3 v3 c3 kids3 .nil := ⟨_, _, _, _, _, rfl⟩
  have hfo' : FoAt w5 (fun j => w4.heap.size ≤ j ∧ j < w5.heap.size ∧ ¬ False) (Fo.puts ts tn ms (.cons k n v c kids .nil)) w.heap.size 0 := hfo
  rw [hF] at hfo'
  obtain ⟨A3, cap3, c0, c1, c2, c3', c4, hcap3, hA3, _⟩ := hfo'
  have hbx := (hfr.keep (w.heap.size + 3) (by have := H4.out; omega) (fun h => h) (fun x e => by have := e.1; omega)).trans HX4.out
  obtain ⟨⟨d0, d1, d2, d3, d4⟩, hfz⟩ := cells5 hbx
  have z0 := hfz 0
  have z1 := hfz 1
  have z2 := hfz 2
  have z3 := hfz 3
  have z4 := hfz 4
  have hb5 : Bel w w5 := ⟨hfr.os.trans HB4.out.os, hfr.tape.trans HB4.out.tape, hfr.output.trans HB4.out.output, Nat.le_trans HB4.out.size hfr.size, fun j hj => (hfr.keep j (by have := H4.out; omega) (fun h => h) (fun x e => by have := e.1; omega)).trans (HB4.out.block j hj)⟩
  have HP := Lib.hid (put5 (x0 := .int .u8 k3) (x1 := .int .i64 n3) (x2 := .int .i64 v3) (x3 := .int .u8 c3) (x4 := .slice A3 kids3.len cap3) hbx)
  have HB6 := Lib.hid hb5
  have HA3 := Lib.hid hA3
  have HF := Lib.hid hF
  obtain ⟨l, hl⟩ : ∃ l, l = kids3.len := ⟨_, rfl⟩
  have HL := Lib.hid hl
  rw [← hl] at c4 hcap3
  clear hI hkb hnb hfr hfo hI5 hF hbx hfz hb5 hA3 hl
  go_wp2_with fail
  obtain ⟨w9, hw9, h9, hbel9, ho9, hs9⟩ := HP.out
  rw [← HL.out] at hw9 h9
  rw [show w.heap.size + 1 + 1 + 1 = w.heap.size + 3 from rfl, ← hw9]
  obtain ⟨⟨k0, k1, k2, k3', k4⟩, _⟩ := cells5 h9
  refine bodyPost_ret (v := .tuple #[.agg #[.int .u8 k3, .int .i64 n3, .int .i64 v3, .int .u8 c3, .slice A3 l cap3], .int .i64 0]) (by simp [results, Tryd.results6, go_sem, k0, k1, k2, k3', k4]) rfl ?_
  refine ⟨⟨k3, n3, v3, c3, kids3, A3, cap3, HF.out, by rw [HL.out], rfl, by rw [← HL.out]; exact hcap3, fun h0 => ?_⟩, hbel9 w HB6.out (by omega)⟩
  obtain ⟨b', o', e, q1, q2⟩ := HA3.out h0
  have hw : ∀ j, (w4.heap.size ≤ j ∧ j < w5.heap.size ∧ ¬ False) → (w.heap.size ≤ j ∧ j < w9.heap.size) := fun j hj => ⟨by have := H4.out; have := hj.1; omega, by rw [hs9]; exact hj.2.1⟩
  exact ⟨b', o', e, hw b' q1, FoAt.wide hw _ _ _ (FoAt.keep (fun j hj => ho9 j (by have := H4.out; have := hj.1; omega)) kids3 b' o' q1 q2)⟩
end Go.Proofs.YtblgligagngpfaaDoor.Mu
namespace Go.Proofs.YtblgligagngpfaaDoor.Mu
open Go.ChangeShapes Go.WideShapes Go.ChangeAt Go.RowKit Go.Shelf

attribute [local go_sem] Oper.semAt_some
set_option linter.unusedVariables false

theorem isB_var {v c : Int} (h : isB v c = true) (hc : c = 0) : 0 ≤ v := by
  subst hc
  simp [isB, isVarB, isMultB] at h
  omega
theorem nodeB_at {k n v c : Int} {len : Nat} (h : nodeB k n v c len = true) : (k = 1 → 0 ≤ n) ∧ (k = 7 → c = 0 → 0 ≤ v) := by
  constructor
  · rintro rfl
    simp [nodeB] at h
    omega
  · rintro rfl hc
    have h' : isB v c = true := by
      simp [nodeB] at h
      exact h.2.2
    exact isB_var h' hc
theorem Fo.well_all : ∀ f : Fo, f.well = true → f.All (fun k n v c _ => (k = 1 → 0 ≤ n) ∧ (k = 7 → c = 0 → 0 ≤ v))
  | .nil, _ => trivial
  | .cons k n v c kids rest, h => by
    simp only [Fo.well, Bool.and_eq_true] at h
    exact ⟨nodeB_at h.1, Fo.well_all kids h.2.1, Fo.well_all rest h.2.2⟩
theorem Fo.All.mono {G G' : Int → Int → Int → Int → Nat → Prop} (hG : ∀ k n v c l, G k n v c l → G' k n v c l) : ∀ f : Fo, f.All G → f.All G'
  | .nil, _ => trivial
  | .cons k n v c kids rest, h => ⟨hG _ _ _ _ _ h.1, Fo.All.mono hG kids h.2.1, Fo.All.mono hG rest h.2.2⟩
theorem well_of_err {f : Fo} (h : tyErr f = 0) : f.well = true := by
  unfold tyErr at h
  split at h
  · cases h
  · split at h
    · assumption
    · cases h
theorem bad_nth : ∀ (f : Fo) (i : Nat) (k n v c : Int) (kids r : Fo), f.bad = false → f.nth i = .cons k n v c kids r → (Fo.cons k n v c kids .nil).well = true
  | .nil, i, k, n, v, c, kids, r, _, h => by simp [Fo.nth] at h
  | .cons k0 n0 v0 c0 kids0 rest, 0, k, n, v, c, kids, r, hb, h => by
    simp only [Fo.bad, Bool.or_eq_false_iff, decide_eq_false_iff_not, Decidable.not_not] at hb
    simp only [Fo.nth, Fo.cons.injEq] at h
    obtain ⟨rfl, rfl, rfl, rfl, rfl, _⟩ := h
    exact well_of_err hb.1
  | .cons k0 n0 v0 c0 kids0 rest, i + 1, k, n, v, c, kids, r, hb, h => by
    simp only [Fo.bad, Bool.or_eq_false_iff] at hb
    exact bad_nth rest i k n v c kids r hb.2 h
theorem okPut_parts {t ts : Fo} {ms : List (Int × Int)} (h : okPut t ts ms = true) : t.well = true ∧ ts.bad = false ∧ musBad ms = false := by
  simp only [okPut, Bool.and_eq_true, decide_eq_true_eq, Bool.not_eq_true'] at h
  exact ⟨well_of_err h.1.1, h.1.2, h.2⟩
/-- What Put answers. -/
def PutPost (ts : Fo) (tn : Nat) (ms : List (Int × Int)) (f : Fo) (w : World) (e : Ending) (w' : World) : Prop :=
  (if okPut f ts ms = false then e = .returned (.tuple #[noTy, .int .i64 2])
   else if 300 < Fo.putSize ts tn f then e = .returned (.tuple #[noTy, .int .i64 3])
   else TyOutE w w' (Fo.puts ts tn ms f) e) ∧ Bel w w'
theorem put_any (k n v c : Int) (A : Option Addr) (len cap : Nat) (kids : Fo) (T : Option Addr) (tn tc : Nat) (ts : Fo) (U : Option Addr) (un uc : Nat) (ms : List (Int × Int)) (w : World) (h : KidsAt w (Old w) A len cap kids) (hsz : kids.size ≤ 1400000) (ht : KidsAt w (Old w) T tn tc ts) (hts : TsOk ts) (hu : RMu w U un ms) (hun : un ≤ 9223372036854775807) :
    Calls Tryd.prog 6 #[.agg #[.int .u8 k, .int .i64 n, .int .i64 v, .int .u8 c, .slice A len cap], .slice T tn tc, .slice U un uc] w (PutPost ts tn ms (.cons k n v c kids .nil) w) := by
  cases hok : okPut (.cons k n v c kids .nil) ts ms
  · refine (put_no k n v c A len cap kids T tn tc ts U un uc ms w h hsz ht hts hu hun hok).mono ?_
    rintro e w1 ⟨h1, h2⟩
    exact ⟨by rw [if_pos hok]; exact h1, h2⟩
  · obtain ⟨p1, p2, p3⟩ := okPut_parts hok
    have hG := Fo.well_all _ p1
    have hG1 := Fo.All.mono (G' := fun k n _ _ _ => k = 1 → 0 ≤ n) (fun _ _ _ _ _ h => h.1) _ hG
    have hno : ¬ okPut (.cons k n v c kids .nil) ts ms = false := by rw [hok]; simp
    by_cases hl : 300 < Fo.putSize ts tn (.cons k n v c kids .nil)
    · refine (put_long k n v c A len cap kids T tn tc ts U un uc ms w h hsz ht hts hu hun hok hG1 hl).mono ?_
      rintro e w1 ⟨h1, h2⟩
      exact ⟨by rw [if_neg hno, if_pos hl]; exact h1, h2⟩
    · refine (put_yes k n v c A len cap kids T tn tc ts U un uc ms w h hsz ht hts hu hun hok hG hG1 (fun i k n v c kids r e => ?_) hl).mono ?_
      · exact (Fo.well_all _ (bad_nth ts i k n v c kids r p2 e)).1.2
      · rintro e w1 ⟨h1, h2⟩
        exact ⟨by rw [if_neg hno, if_neg hl]; exact h1, h2⟩
end Go.Proofs.YtblgligagngpfaaDoor.Mu
namespace Go.Proofs.YtblgligagngpfaaDoor.Mu
open Go.ChangeShapes Go.WideShapes Go.ChangeAt Go.RowKit Go.Shelf

set_option linter.unusedVariables false

/-- All are put at once. -/
def Fo.subst (ts : Fo) (tn : Nat) (ms : List (Int × Int)) : Fo → Fo
  | .nil => .nil
  | .cons k n v c kids rest =>
    if putB k n tn = true then
      (match ts.nth n.toNat with
      | .cons k' n' v' c' kids' _ => .cons k' n' v' c' kids' (Fo.subst ts tn ms rest)
      | .nil => .cons k n v c .nil (Fo.subst ts tn ms rest))
    else if k = 7 then .cons k n (putU ms v c).1 (putU ms v c).2 (Fo.subst ts tn ms kids) (Fo.subst ts tn ms rest)
    else .cons k n v c (Fo.subst ts tn ms kids) (Fo.subst ts tn ms rest)
theorem subst_run (ts : Fo) (tn : Nat) (ms : List (Int × Int)) : ∀ (f : Fo) (pm : Option (Int × Int)), runW (putN ts tn) (putUW ms) true f pm () = (Fo.subst ts tn ms f, pm.map fun p => putU ms p.1 p.2, ())
  | .nil, none => rfl
  | .nil, some p => rfl
  | .cons k n v c kids rest, pm => by
    have h2 := subst_run ts tn ms rest none
    by_cases hp : putB k n tn = true
    · cases e : ts.nth n.toNat with
      | nil => cases pm <;> simp [runW, putN, Fo.subst, hp, e, h2, putUW]
      | cons k' n' v' c' kids' r => cases pm <;> simp [runW, putN, Fo.subst, hp, e, h2, putUW]
    · by_cases h7 : k = 7
      · have h1 := subst_run ts tn ms kids (some (v, c))
        subst h7
        cases pm <;> simp [runW, putN, Fo.subst, hp, h1, h2, putUW]
      · have h1 := subst_run ts tn ms kids none
        cases pm <;> simp [runW, putN, Fo.subst, hp, h7, h1, h2, putUW]
theorem puts_eq (ts : Fo) (tn : Nat) (ms : List (Int × Int)) (f : Fo) : Fo.puts ts tn ms f = Fo.subst ts tn ms f := by
  unfold Fo.puts
  rw [subst_run]
end Go.Proofs.YtblgligagngpfaaDoor.Mu

