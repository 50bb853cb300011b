/-
  How a type is written: the text as a list of bytes; and what is still to be written.
  What is written by a writer: the builder within it.
  What a writer has written, as a text; and what is left to be written later.
  A region that draws its order and ends in operations whose order is forced: what stands ahead of them only looks, or lays memory of its own, and is walked once; they themselves are walked as a list. Over whatever program.
  What a writer's methods write of a type.
  What a writer's methods write of an array, a data type, a function.
  What a writer writes of a data type; whether in brackets; of whatever type.
  What a writer writes of whatever type.
  ty.Text, walked: the text of a type that may be.
-/
import Derived.Test.YtblgligagngpfaaDoorTextM
import Derived.Test.YtblgligagngpfaaDoorThruMR
import Derived.Lib.Builder
import Derived.Lib.AppendStr
import Derived.Lib.UnsafeStr
import Derived.Laws.Externs
import Derived.KernelRfl
import Derived.Deep.Quiet
import Derived.Deep.RegionHeld3
import Derived.StillTail
import Derived.BigQuiet
import Derived.Test.YtblgligagngpfaaDoorMem
import Derived.Test.YtblgligagngpfaaDoorTyMayN
import Derived.Test.YtblgligagngpfaaDoorText
import Derived.Lib.ItoaLen
namespace Go.Proofs.YtblgligagngpfaaDoor.Mu
open Go.RowKit Go

/-- The words of the types that have nothing within. -/
def wordT (k : Int) : List UInt8 := if k = 2 then [73, 110, 116] else if k = 3 then [83, 116, 114] else if k = 4 then [73, 111] else if k = 5 then [70, 105, 108, 101] else []
def muT (v c : Int) : List UInt8 := if c = 0 then 109 :: Lib.itoa v else mulS c
def argsT (ts : List (List UInt8)) : List UInt8 := ts.flatMap fun t => 32 :: t
def arrowT (v c : Int) : List UInt8 := [32, 45] ++ muT v c ++ [62, 32]
def funT (v c : Int) (ts : List (List UInt8)) : List UInt8 := (ts.head?.getD []) ++ arrowT v c ++ (ts.tail.head?.getD [])
def nameT (nm : List (List UInt8)) (n : Int) : List UInt8 := match nm[n.toNat]? with
  | some s => s
  | none => 35 :: Lib.itoa n
def bodyT (nm : List (List UInt8)) (k n v c : Int) (ts : List (List UInt8)) : List UInt8 :=
  if k = 1 then 97 :: Lib.itoa n else if k = 6 then [65, 114, 114] ++ argsT ts else if k = 7 then funT v c ts else if k = 8 then nameT nm n ++ argsT ts else wordT k
/-- Whether it stands in brackets: at 0 alone, at 1 as the first type of a function, at 2 behind a word. -/
def brkB (pl k : Int) (len : Nat) : Bool := (decide (pl = 1) && decide (k = 7)) || (decide (pl = 2) && (decide (k = 7) || decide (k = 6) || (decide (k = 8) && decide (0 < len))))
def brkT (b : Bool) (s : List UInt8) : List UInt8 := if b = true then 40 :: (s ++ [41]) else s
/-- Where those stand that are behind the first one. -/
def plN (pl : Int) : Int := if pl = 1 then 0 else pl
def plK (k : Int) : Int := if k = 7 then 1 else 2
/-- The texts of a list's types; the first one stands at pl. -/
def Fo.txt (nm : List (List UInt8)) : Fo → Int → List (List UInt8)
  | .nil, _ => []
  | .cons k n v c kids rest, pl => brkT (brkB pl k kids.len) (bodyT nm k n v c (Fo.txt nm kids (plK k))) :: Fo.txt nm rest (plN pl)
theorem Fo.txt_len (nm : List (List UInt8)) : ∀ (f : Fo) (pl : Int), (f.txt nm pl).length = f.len
  | .nil, _ => rfl
  | .cons k n v c kids rest, pl => by simp only [Fo.txt, Fo.len, List.length_cons, Fo.txt_len nm rest]
/-- The text of a list's first type. -/
def Fo.one (nm : List (List UInt8)) (f : Fo) (pl : Int) : List UInt8 := match f with
  | .nil => []
  | .cons k n v c kids _ => brkT (brkB pl k kids.len) (bodyT nm k n v c (Fo.txt nm kids (plK k)))
/-- What is still to be written: a text, and a type behind it, if there is one. -/
structure Prt where
  s : List UInt8
  t : Option (Nat × Nat × Fo)
  pl : Int
def Prt.ptr (p : Prt) : Value := .pointer (p.t.map fun x => ⟨x.1, x.2.1, none⟩)
def Prt.cells (p : Prt) : List Value := [.string ⟨p.s.toArray⟩, p.ptr, .int .i64 p.pl]
theorem Prt.cells_len (p : Prt) : p.cells.length = 3 := rfl
def Prt.text (nm : List (List UInt8)) (p : Prt) : List UInt8 := p.s ++ match p.t with
  | none => []
  | some x => x.2.2.one nm p.pl
def Prt.size (p : Prt) : Nat := match p.t with
  | none => 0
  | some (_, _, .nil) => 0
  | some (_, _, .cons _ _ _ _ kids _) => 1 + kids.size
def flatP (S : List Prt) : List Value := S.reverse.flatMap Prt.cells
theorem flatP_cons (x : Prt) (S : List Prt) : flatP (x :: S) = flatP S ++ x.cells := by simp [flatP]
theorem flatP_len : ∀ S : List Prt, (flatP S).length = S.length * 3
  | [] => rfl
  | x :: S => by rw [flatP_cons, List.length_append, flatP_len S, x.cells_len, List.length_cons]; omega
/-- What is left to be written. -/
def restT (nm : List (List UInt8)) (S : List Prt) : List UInt8 := S.flatMap (Prt.text nm)
/-- How much is left to do. -/
def restN (S : List Prt) : Nat := (S.map fun p => 1 + 6 * p.size).sum
end Go.Proofs.YtblgligagngpfaaDoor.Mu
namespace Go.Proofs.YtblgligagngpfaaDoor.Mu
open Go.ChangeShapes Go.WideShapes Go.ChangeAt Go.RowKit Go.Shelf

attribute [local go_sem] Oper.semAt_some
set_option linter.unusedVariables false

/-- A writer in its box: what is written so far, the names, and what is still to be written. -/
def WrAt (w : World) (base b : Nat) (bs : List UInt8) (nm : Value) (S : List Prt) : Prop :=
  base ≤ b ∧ ∃ p v u, (p = .pointer none ∨ p = .pointer (some ⟨b, 0, none⟩)) ∧ w.heap[b]? = some (.cells #[p, v, nm, u] 82 (0, 0)) ∧ w.ownsRow base 5 1 v bs.length (Lib.byteCells bs) ∧ w.ownsRow base 86 3 u S.length (flatP S)
theorem cellsW {w : World} {g : Nat} {t : TypeId} {x y z u : Value} (h : w.heap[g]? = some (.cells #[x, y, z, u] t (0, 0))) :
    w.cell? ⟨g, 0, none⟩ = some x ∧ w.cell? ⟨g, 1, none⟩ = some y ∧ w.cell? ⟨g, 2, none⟩ = some z ∧ w.cell? ⟨g, 3, none⟩ = some u ∧ (∀ j, w.frozen? ⟨g, j, none⟩ = false) ∧ w.shape? g = some (t, 4) ∧ g < w.heap.size :=
  ⟨by simp [World.cell?, h], by simp [World.cell?, h], by simp [World.cell?, h], by simp [World.cell?, h], fun j => by simp [World.frozen?, h], by simp [World.shape?, h], (Array.getElem?_eq_some_iff.1 h).1⟩
theorem setW0 {w : World} {b : Nat} {x y z u q : Value} {t : TypeId} (h : w.heap[b]? = some (.cells #[x, y, z, u] t (0, 0))) : (w.setCell ⟨b, 0, none⟩ q).heap[b]? = some (.cells #[q, y, z, u] t (0, 0)) := by rw [heap_setCell_same w b 0 _ _ _ h]; rfl
theorem setW1 {w : World} {b : Nat} {x y z u q : Value} {t : TypeId} (h : w.heap[b]? = some (.cells #[x, y, z, u] t (0, 0))) : (w.setCell ⟨b, 1, none⟩ q).heap[b]? = some (.cells #[x, q, z, u] t (0, 0)) := by rw [heap_setCell_same w b 1 _ _ _ h]; rfl
theorem setW3 {w : World} {b : Nat} {x y z u q : Value} {t : TypeId} (h : w.heap[b]? = some (.cells #[x, y, z, u] t (0, 0))) : (w.setCell ⟨b, 3, none⟩ q).heap[b]? = some (.cells #[x, y, z, q] t (0, 0)) := by rw [heap_setCell_same w b 3 _ _ _ h]; rfl
/-- The block of a row is none of another type. -/
theorem row_ne {w : World} {B s : Nat} {e T : TypeId} {v : Value} {n : Nat} {xs : List Value} {b : Nat} {cs : Array Value} {fr : Nat × Nat} (hown : w.ownsRow B e s v n xs) (hb : w.heap[b]? = some (.cells cs T fr)) (hTe : T ≠ e) : v.ownBlock ≠ some b := by
  rcases hown.2 with ⟨rfl, _⟩ | ⟨g, cap, cur, rfl, _, hg, _⟩
  · simp [Value.ownBlock]
  · intro h
    simp only [Value.ownBlock, Option.some.injEq] at h
    subst h
    rw [hg] at hb
    simp only [Option.some.injEq, Obj.cells.injEq] at hb
    exact hTe hb.2.1.symm
theorem rows_ne {w : World} {B B' s s' : Nat} {e e' : TypeId} {v v' : Value} {n n' : Nat} {xs xs' : List Value} (h : w.ownsRow B e s v n xs) (h' : w.ownsRow B' e' s' v' n' xs') (he : e ≠ e') : ∀ j, v'.ownBlock = some j → v.ownBlock ≠ some j := by
  intro j hj
  rcases h'.2 with ⟨rfl, _⟩ | ⟨g, cap, cur, rfl, _, hg, _⟩
  · simp [Value.ownBlock] at hj
  · simp only [Value.ownBlock, Option.some.injEq] at hj
    subst hj
    exact row_ne h hg (fun e => he e.symm)
/-- A row stays where no block of it is changed. -/
theorem row_keep {w w' : World} {B s : Nat} {e : TypeId} {v : Value} {n : Nat} {xs : List Value} (h : w.ownsRow B e s v n xs) (hk : ∀ j, v.ownBlock = some j → w'.heap[j]? = w.heap[j]?) : w'.ownsRow B e s v n xs := by
  refine ⟨h.1, ?_⟩
  rcases h.2 with h0 | ⟨g, cap, cur, rfl, hb, hg, r⟩
  · exact .inl h0
  · exact .inr ⟨g, cap, cur, rfl, hb, (hk g rfl).trans hg, r⟩
theorem lies_w : liesAt Tryd.prog Tryd.prog.depth 82 (4 / Tryd.prog.cellsOf 82) 0 79 1 = true := by kernel_rfl
theorem size_w : (Tryd.prog.info? 79).map (·.size) = some 2 := by kernel_rfl
theorem info_u8 : (Tryd.prog.info? 5).map (fun i => (i.zero, i.size, i.bytes)) = some (some (.int .u8 0), 1, 1) := by kernel_rfl
set_option maxHeartbeats 1000000 in
set_option maxRecDepth 100000 in
theorem ccu_any (b : Nat) (w : World) (h0 : w.cell? ⟨b, 0, none⟩ = some (.pointer (some ⟨b, 0, none⟩))) : Calls Tryd.prog 60 #[.pointer (some ⟨b, 0, none⟩)] w fun e w' => e = .returned (.tuple #[]) ∧ w' = w := by
  obtain ⟨j, hj, _⟩ := Option.map_eq_some_iff.1 size_w
  go_enter Tryd.func60, Tryd.ntmps60
  go_wp2
  rw [Lib.run_neq_ptr_same w _ (by kernel_rfl) hj]
  go_wp2
  go_end0
  exact ⟨rfl, rfl⟩
set_option maxHeartbeats 1000000 in
set_option maxRecDepth 100000 in
theorem ccf_any (b : Nat) (w : World) (h0 : w.cell? ⟨b, 0, none⟩ = some (.pointer none)) (hsh : w.shape? b = some (82, 4)) (hfz : w.frozen? ⟨b, 0, none⟩ = false) :
    Calls Tryd.prog 60 #[.pointer (some ⟨b, 0, none⟩)] w fun e w' => e = .returned (.tuple #[]) ∧ w' = w.setCell ⟨b, 0, none⟩ (.pointer (some ⟨b, 0, none⟩)) := by
  obtain ⟨j, hj, hjs⟩ := Option.map_eq_some_iff.1 size_w
  go_enter Tryd.func60, Tryd.ntmps60
  go_wp2
  rw [Lib.run_to_unsafe w ⟨b, 0, none⟩ (t := 79) (by kernel_rfl) (by kernel_rfl) hj (by rw [hjs]; decide) hsh (Nat.zero_lt_succ 3)]
  simp only [Result.andThen]
  rw [Oper.upon_value]
  go_wp2
  rw [run_callFunc_extern Tryd.func74 (by kernel_rfl) (by kernel_rfl) (by kernel_rfl) (e := Extern.AbiNoEscape.same) (by kernel_rfl)]
  rw [Lib.run_noEscape]
  simp only [Result.andThen]
  rw [Oper.upon_value]
  go_wp2
  rw [Lib.run_from_unsafe w ⟨b, 0, none⟩ (u := 79) (by kernel_rfl) (by kernel_rfl) hj hsh lies_w]
  simp only [Result.andThen]
  rw [Oper.upon_value]
  go_wp2
  go_end0
  exact ⟨rfl, rfl⟩
theorem setW_row {w : World} {B s b o : Nat} {e : TypeId} {v q : Value} {n : Nat} {xs : List Value} (h : w.ownsRow B e s v n xs) (hn : v.ownBlock ≠ some b) : (w.setCell ⟨b, o, none⟩ q).ownsRow B e s v n xs :=
  row_keep h fun j hj => heap_setCell_other w _ j _ (fun e => hn (hj.trans (congrArg some e)))
/-- But for the writer's block, and its bytes, all is as it was. -/
def Spared (b : Nat) (w w' : World) : Prop := ∀ (j : Nat) (cs : Array Value) (T : TypeId), j ≠ b → T ≠ 5 → w.heap[j]? = some (.cells cs T (0, 0)) → w'.heap[j]? = some (.cells cs T (0, 0))
theorem cc_any (base b : Nat) (bs : List UInt8) (nm : Value) (S : List Prt) (w : World) (h : WrAt w base b bs nm S) :
    Calls Tryd.prog 60 #[.pointer (some ⟨b, 0, none⟩)] w fun e w' => e = .returned (.tuple #[]) ∧ WrAt w' base b bs nm S ∧ Below base w w' ∧ Spared b w w' := by
  obtain ⟨hB, p, v, u, hp, hb, h1, h2⟩ := h
  obtain ⟨c0, c1, c2, c3, fz, sh, hlt⟩ := cellsW hb
  rcases hp with rfl | rfl
  · refine (ccf_any b w c0 sh (fz 0)).mono ?_
    rintro e w' ⟨rfl, rfl⟩
    exact ⟨rfl, ⟨hB, _, v, u, .inr rfl, setW0 hb, setW_row h1 (row_ne h1 hb (by decide)), setW_row h2 (row_ne h2 hb (by decide))⟩, (Below.refl base w).setCell (p := ⟨b, 0, none⟩) hB _, fun j cs T hj _ h => (heap_setCell_other w _ j _ hj).trans h⟩
  · refine (ccu_any b w c0).mono ?_
    rintro e w' ⟨rfl, rfl⟩
    exact ⟨rfl, ⟨hB, _, v, u, .inr rfl, hb, h1, h2⟩, Below.refl base _, fun j cs T _ _ h => h⟩
set_option maxHeartbeats 2000000 in
set_option maxRecDepth 100000 in
/-- A text is written behind what was written. -/
theorem wrs_anyK (base b : Nat) (bs : List UInt8) (nm : Value) (S : List Prt) (s : ByteArray) (w : World) (h : WrAt w base b bs nm S) (hlen : bs.length + s.size ≤ 140737488355328) :
    Calls Tryd.prog 43 #[.pointer (some ⟨b, 0, none⟩), .string s] w fun e w' => e = .returned (.tuple #[.int .i64 s.size, .nilIface]) ∧ WrAt w' base b (bs ++ s.data.toList) nm S ∧ Below base w w' ∧ Spared b w w' := by
  obtain ⟨i0, hi, hz0, hz1, hz2⟩ := info_parts info_u8
  go_enter Tryd.func43, Tryd.ntmps43
  go_wp2_with (go_at_call 60; refine (cc_any base b bs nm S _ h).mono ?_)
  rintro e w1 ⟨rfl, h1, hb1, hsp1⟩
  have HSP := Lib.hid hsp1
  clear hsp1
  obtain ⟨hB, p, v, u, hp, hbk, hown, hown2⟩ := h1
  obtain ⟨c0, c1, c2, c3, fz, sh, hlt⟩ := cellsW hbk
  have hne := row_ne hown hbk (by decide)
  have hne2 := row_ne hown2 hbk (by decide)
  have hrr := rows_ne hown hown2 (by decide)
  clear c0 c2 c3
  go_wp2_with (at_builtin; refine Lib.wpList_append_own_string _ rfl _ _ 77 9 rfl base 5 i0 Tryd.underlying77 Tryd.underlying9 hi hz0 hz1 hz2 _ _ _ rfl hown s rfl ?c3 ?c4 ?c5 ?_)
  case c3 => unfold maxLen; omega
  case c4 => omega
  case c5 => omega
  intro v' w2 hown' hgrow _
  have hb2 : w2.heap[b]? = some (.cells #[p, v, nm, u] 82 (0, 0)) := by
    rw [hgrow.block b hlt (fun e => hne e.symm)]
    exact hbk
  have hown2' := row_keep hown2 (w' := w2) fun j hj => hgrow.block j ((hown2.lt j hj).2) (fun e => hrr j hj e.symm)
  obtain ⟨d0, d1, d2, d3, fz2, sh2, hlt2⟩ := cellsW hb2
  have f1 := fz2 1
  clear d0 d2 d3 c1
  obtain ⟨ao, n', cap, rfl⟩ : ∃ ao n' cap, v' = .slice ao n' cap := by
    rcases hown'.2 with ⟨hv, _⟩ | ⟨g, cap, cur, hv, _⟩
    · exact ⟨_, _, _, hv⟩
    · exact ⟨_, _, _, hv⟩
  go_wp2
  go_ret2
  refine ⟨rfl, ⟨hB, p, _, u, hp, setW1 hb2, ?_, setW_row hown2' (row_ne hown2' hb2 (by decide))⟩, ?_, ?_⟩
  · have h5 := setW_row (o := 1) (q := .slice ao n' cap) hown' (row_ne hown' hb2 (by decide))
    rw [List.length_append, Lib.byteCells_append, ← Lib.strCells_eq]
    rw [Lib.size_eq] at h5
    exact h5
  · exact (hb1.grown hgrow (by have := hb1.size; omega) (fun k hk => (hown.lt k hk).1)).setCell (p := ⟨b, 1, none⟩) hB _
  · intro j cs T hj hT h
    have h1 := HSP.out j cs T hj hT h
    exact (heap_setCell_other w2 _ j _ hj).trans ((hgrow.block j (Array.getElem?_eq_some_iff.1 h1).1 (fun e => row_ne hown h1 hT e.symm)).trans h1)
theorem wrs_any (base b : Nat) (bs : List UInt8) (nm : Value) (S : List Prt) (s : ByteArray) (w : World) (h : WrAt w base b bs nm S) (hlen : bs.length + s.size ≤ 140737488355328) :
    Calls Tryd.prog 43 #[.pointer (some ⟨b, 0, none⟩), .string s] w fun e w' => e = .returned (.tuple #[.int .i64 s.size, .nilIface]) ∧ WrAt w' base b (bs ++ s.data.toList) nm S ∧ Below base w w' :=
  (wrs_anyK base b bs nm S s w h hlen).mono fun e w' h => ⟨h.1, h.2.1, h.2.2.1⟩
end Go.Proofs.YtblgligagngpfaaDoor.Mu
namespace Go.Proofs.YtblgligagngpfaaDoor.Mu
open Go.ChangeShapes Go.WideShapes Go.ChangeAt Go.RowKit Go.Shelf

attribute [local go_sem] Oper.semAt_some
set_option linter.unusedVariables false

theorem cells_u8 : Tryd.prog.cellsOf 5 = 1 := by kernel_rfl
set_option maxHeartbeats 2000000 in
set_option maxRecDepth 100000 in
theorem str_some (base b : Nat) (l : List UInt8) (nm : Value) (S : List Prt) (w : World) (h : WrAt w base b l nm S) (h0 : l ≠ []) :
    Calls Tryd.prog 45 #[.pointer (some ⟨b, 0, none⟩)] w fun e w' => e = .returned (.string ⟨l.toArray⟩) ∧ Below base w w' := by
  obtain ⟨hB, p, v, u, hp, hbk, hown, hown2⟩ := h
  have hl0 : l.length ≠ 0 := by simpa using h0
  obtain ⟨g, cap, cur, rfl, hbg, hg, hnc, hcm, hcs, htake⟩ : ∃ g cap cur, v = .slice (some ⟨g, 0, none⟩) l.length cap ∧ base ≤ g ∧ w.heap[g]? = some (.cells cur 5 (0, 0)) ∧ l.length ≤ cap ∧ cap ≤ maxLen ∧ cur.size = cap * 1 ∧ cur.toList.take (l.length * 1) = Lib.byteCells l := by
    rcases hown.2 with ⟨_, hz⟩ | ⟨g, cap, cur, hv, r⟩
    · exact absurd hz hl0
    · exact ⟨g, cap, cur, hv, r⟩
  have c1 : w.drew.cell? ⟨b, 1, none⟩ = some (.slice (some ⟨g, 0, none⟩) l.length cap) := (cellsW (w := w.drew) hbk).2.1
  have hSD : (Builtin.unsafeSliceData_ #[77] 108 #[.slice (some ⟨g, 0, none⟩) l.length cap]).run Tryd.prog w.drew = .ok (.pointer (some ⟨g, 0, none⟩)) w.drew :=
    Lib.run_unsafeSliceData_row _ _ _ _ _ _ (by omega)
  have hUS : (Builtin.unsafeString_ #[108, 3] 9 #[.pointer (some ⟨g, 0, none⟩), .int .i64 l.length]).run Tryd.prog w.drew = .ok (.string ⟨l.toArray⟩) (w.drew.freeze ⟨g, 0, none⟩ l.length) := by
    refine Lib.run_unsafeString_row w.drew 108 3 9 5 (by kernel_rfl) cells_u8 g cur.size (by have hg' : w.drew.heap[g]? = some (.cells cur 5 (0, 0)) := hg; simp [World.shape?, hg']) l h0 (by omega) (by unfold maxLen at hcm; omega) ?_
    intro j x hx
    exact hown.cells (g := g) rfl j (.int .u8 x.toNat) (by simp [Lib.byteCells, hx])
  clear hp hbk hown hown2 hg hnc hcm hcs htake hl0
  go_enter Tryd.func45, Tryd.ntmps45
  go_wp2
  go_region
  all_goals (go_wp2; go_ret; exact ⟨rfl, Lib.below_freeze (Below.drew (Below.refl base w)) (p := ⟨g, 0, none⟩) hbg _⟩)
theorem us_none (W : World) (q : Option Addr) : (Builtin.unsafeString_ #[108, 3] 9 #[.pointer q, .int .i64 0]).run Tryd.prog W = .ok (.string .empty) W :=
  Lib.run_unsafeString_none W _ _ _ q
set_option maxHeartbeats 2000000 in
set_option maxRecDepth 100000 in
theorem str_none (base b : Nat) (nm : Value) (S : List Prt) (w : World) (h : WrAt w base b [] nm S) :
    Calls Tryd.prog 45 #[.pointer (some ⟨b, 0, none⟩)] w fun e w' => e = .returned (.string ⟨#[]⟩) ∧ Below base w w' := by
  obtain ⟨hB, p, v, u, hp, hbk, hown, hown2⟩ := h
  have hUS := us_none
  have hlt := (Array.getElem?_eq_some_iff.1 hbk).1
  rcases hown.2 with ⟨rfl, _⟩ | ⟨g, cap, cur, rfl, hbg, hg, hnc, hcm, hcs, htake⟩
  · have c1 : w.drew.cell? ⟨b, 1, none⟩ = some (.slice none 0 0) := (cellsW (w := w.drew) hbk).2.1
    have hSD : (Builtin.unsafeSliceData_ #[77] 108 #[.slice none 0 0]).run Tryd.prog w.drew = .ok (.pointer none) w.drew := rfl
    clear hp hbk hown hown2
    go_enter Tryd.func45, Tryd.ntmps45
    go_wp2
    go_region
    all_goals (go_wp2; go_ret; exact ⟨rfl, Below.drew (Below.refl base w)⟩)
  · simp only [List.length_nil] at hbk hown hnc htake
    by_cases hc0 : cap = 0
    · subst hc0
      have c1 : w.drew.cell? ⟨b, 1, none⟩ = some (.slice (some ⟨g, 0, none⟩) 0 0) := (cellsW (w := w.drew) hbk).2.1
      have hSD : (Builtin.unsafeSliceData_ #[77] 108 #[.slice (some ⟨g, 0, none⟩) 0 0]).run Tryd.prog w.drew = .ok (.pointer (some ⟨w.drew.heap.size, 0, none⟩)) (w.drew.alloc (.view ⟨g, 0, none⟩ 5)) :=
        Lib.run_unsafeSliceData_zero w.drew _ _ 5 (by kernel_rfl) ⟨g, 0, none⟩ 0 (5, cur.size) (by have hg' : w.drew.heap[g]? = some (.cells cur 5 (0, 0)) := hg; simp [World.shape?, hg'])
      have c2 : (w.drew.alloc (.view ⟨g, 0, none⟩ 5)).cell? ⟨b, 1, none⟩ = some (.slice (some ⟨g, 0, none⟩) 0 0) := by
        have h9 : (w.drew.alloc (.view ⟨g, 0, none⟩ 5)).heap[b]? = _ := (Lib.alloc_old w.drew _ b hlt).trans hbk
        exact (cellsW h9).2.1
      have c3 : (w.alloc (.view ⟨g, 0, none⟩ 5)).drew.cell? ⟨b, 1, none⟩ = some (.slice (some ⟨g, 0, none⟩) 0 0) := c2
      have c0 : w.cell? ⟨b, 1, none⟩ = some (.slice (some ⟨g, 0, none⟩) 0 0) := c1
      have hbw : base ≤ w.heap.size := by omega
      clear hp hbk hown hown2 hg
      go_enter Tryd.func45, Tryd.ntmps45
      go_wp2
      go_region
      all_goals (go_wp2; go_ret; exact ⟨rfl, (Below.drew (Below.refl base w)).alloc hbw _⟩)
    · have c1 : w.drew.cell? ⟨b, 1, none⟩ = some (.slice (some ⟨g, 0, none⟩) 0 cap) := (cellsW (w := w.drew) hbk).2.1
      have hSD : (Builtin.unsafeSliceData_ #[77] 108 #[.slice (some ⟨g, 0, none⟩) 0 cap]).run Tryd.prog w.drew = .ok (.pointer (some ⟨g, 0, none⟩)) w.drew :=
        Lib.run_unsafeSliceData_row _ _ _ _ _ _ hc0
      clear hc0 hp hbk hown hown2 hg hcs
      go_enter Tryd.func45, Tryd.ntmps45
      go_wp2
      go_region
      all_goals (go_wp2; go_ret; exact ⟨rfl, Below.drew (Below.refl base w)⟩)
theorem str_any (base b : Nat) (l : List UInt8) (nm : Value) (S : List Prt) (w : World) (h : WrAt w base b l nm S) :
    Calls Tryd.prog 45 #[.pointer (some ⟨b, 0, none⟩)] w fun e w' => e = .returned (.string ⟨l.toArray⟩) ∧ Below base w w' := by
  by_cases h0 : l = []
  · subst h0
    exact str_none base b nm S w h
  · exact str_some base b l nm S w h h0
theorem info_part : (Tryd.prog.info? 86).map (fun i => (i.zero, i.size, i.bytes)) = some (some (.agg #[.string ⟨#[]⟩, .pointer none, .int .i64 0]), 3, 32) := by kernel_rfl
theorem three_at (w : World) (a b c : Value) (t : TypeId) : ∀ j u, [a, b, c][j]? = some u → (w.alloc (.cells #[a, b, c] t)).cell? ⟨w.heap.size, j, none⟩ = some u := by
  intro j u hu
  match j, hu with
  | 0, hu => simp at hu; subst hu; simp
  | 1, hu => simp at hu; subst hu; simp
  | 2, hu => simp at hu; subst hu; simp
set_option maxRecDepth 100000 in
set_option maxHeartbeats 2000000 in
/-- One part more is left to be written, ahead of the others. -/
theorem later_any (base b : Nat) (bs : List UInt8) (nm : Value) (S : List Prt) (x : Prt) (w : World) (h : WrAt w base b bs nm S) (hS : S.length ≤ 100000000) :
    Calls Tryd.prog 42 #[.pointer (some ⟨b, 0, none⟩), .agg #[.string ⟨x.s.toArray⟩, x.ptr, .int .i64 x.pl]] w fun e w' => e = .returned (.tuple #[]) ∧ WrAt w' base b bs nm (x :: S) ∧ Below base w w' := by
  obtain ⟨hB, p, v, u, hp, hbk, hown, hown2⟩ := h
  obtain ⟨A, cap, rfl⟩ : ∃ A cap, u = .slice A S.length cap := by
    rcases hown2.2 with ⟨hv, h0⟩ | ⟨g, cap, cur, hv, _⟩
    · exact ⟨none, 0, by rw [hv, h0]⟩
    · exact ⟨_, _, hv⟩
  have HB := Lib.hid hbk
  have HO := Lib.hid hown
  have HO2 := Lib.hid hown2
  have HP := Lib.hid hp
  obtain ⟨c0, c1, c2, c3, fz, sh, hlt⟩ := cellsW hbk
  have f3 := fz 3
  have hne : some b ≠ (Value.slice A S.length cap).ownBlock := fun e => row_ne hown2 hbk (by decide) e.symm
  have HNE := Lib.hid hne
  have HRR := Lib.hid (rows_ne hown2 hown (by decide))
  obtain ⟨xs, xt, xp⟩ := x
  obtain ⟨q, hq⟩ : ∃ q, q = Prt.ptr ⟨xs, xt, xp⟩ := ⟨_, rfl⟩
  rw [← hq]
  have HQ := Lib.hid hq
  have hq1 : q.oneCell' = true := by rw [hq]; rfl
  have hbw : base ≤ w.heap.size := by omega
  clear hbk hown hown2 hp c0 c1 c2 fz sh hne hq
  go_enter Tryd.func42, Tryd.ntmps42
  go_wp2_with fail
  have hb1 : Bel w (w.alloc (.cells #[.string ⟨xs.toArray⟩, q, .int .i64 xp] 86)) := (Bel.refl w).alloc _
  have hs1 : (w.alloc (.cells #[.string ⟨xs.toArray⟩, q, .int .i64 xp] 86)).heap.size = w.heap.size + 1 := by simp
  have q1 := blk1 w (.cells #[.string ⟨xs.toArray⟩, q, .int .i64 xp] 86)
  obtain ⟨w1, hw1⟩ : ∃ w1, w1 = w.alloc (.cells #[.string ⟨xs.toArray⟩, q, .int .i64 xp] 86) := ⟨_, rfl⟩
  rw [← hw1] at hb1 hs1 q1 ⊢
  obtain ⟨m0, m1, m2, _⟩ := cells3 q1
  have k3 := (hb1.cell (p := ⟨b, 3, none⟩) hlt).trans c3
  have g3 := (hb1.frozen (p := ⟨b, 3, none⟩) hlt).trans f3
  have HO1 := Lib.hid (row_keep HO2.out (w' := w1) fun j hj => hb1.block j (HO2.out.lt j hj).2)
  have hlt1 : b < w1.heap.size := by omega
  have HB1 := Lib.hid hb1
  have HS1 := Lib.hid hs1
  have H1C : Hid (∀ u ∈ [Value.string ⟨xs.toArray⟩, q, .int .i64 xp], u.oneCell' = true) := Lib.hid (fun u hu => by simp only [List.mem_cons, List.not_mem_nil, or_false] at hu; rcases hu with rfl | rfl | rfl; rfl; exact hq1; rfl)
  clear q1 hb1 hw1 c3 f3 hs1 hq1
  go_region_law (refine step_append_own rfl (.tmp 8) (.tmp 10) 80 rfl base 86 _ 3 32 Tryd.underlying80 info_part rfl (by decide) (by decide) A S.length cap (flatP S) (by simp [Act.eval]) (by exact HO1.out.alloc _) w1.heap.size [.string ⟨xs.toArray⟩, q, .int .i64 xp] (by simp [Act.eval]) rfl (by exact three_at w1 _ _ _ _) H1C.out (by omega) (by have := HS1.out; simp; omega) ?_; intro A' c' w5 hown5 hg5; (have hne : some b ≠ (Value.slice A S.length cap).ownBlock := HNE.out); (have s2 := ((far hg5 (b := b) (by simp; omega) hne).1 3).trans (by exact (((Bel.refl w1).alloc _).cell (p := ⟨b, 3, none⟩) hlt1).trans k3)); (have s3 := ((far hg5 (b := b) (by simp; omega) hne).2 3).trans (by exact (((Bel.refl w1).alloc _).frozen (p := ⟨b, 3, none⟩) hlt1).trans g3)); (have HO5 := Lib.hid hown5); (have HG5 := Lib.hid hg5); clear hown5 hg5 hne)
  all_goals
    go_wp2
    go_end0
    have hb5 : w5.heap[b]? = some (.cells #[p, v, nm, .slice A S.length cap] 82 (0, 0)) := blk_far HG5.out (((Bel.refl w1).alloc _).blk (HB1.out.blk HB.out)) HNE.out
    have ho5 : w5.ownsRow base 5 1 v bs.length (Lib.byteCells bs) := row_keep HO.out fun j hj => (HG5.out.block j (by have := (HO.out.lt j hj).2; have := HS1.out; simp; omega) (fun e => HRR.out j hj e.symm)).trans ((((Bel.refl w1).alloc _).block j (by have := (HO.out.lt j hj).2; have := HS1.out; omega)).trans (HB1.out.block j (HO.out.lt j hj).2))
    refine ⟨rfl, ⟨hB, p, v, _, HP.out, setW3 hb5, setW_row ho5 (row_ne ho5 hb5 (by decide)), ?_⟩, ?_⟩
    · have h5 := HO5.out
      have e : flatP (⟨xs, xt, xp⟩ :: S) = flatP S ++ [.string ⟨xs.toArray⟩, q, .int .i64 xp] := by rw [flatP_cons, HQ.out]; rfl
      rw [e]
      exact setW_row h5 (row_ne h5 hb5 (by decide))
    · have h1 : Below base w w1 := ⟨HB1.out.os, HB1.out.tape, HB1.out.output, HB1.out.size, fun i hi => HB1.out.block i (by omega)⟩
      exact ((Below.drew (h1.alloc (by have := HS1.out; omega) _)).grown HG5.out (by have := HS1.out; simp; omega) (fun k hk => (HO1.out.lt k hk).1)).setCell (p := ⟨b, 3, none⟩) hB _
end Go.Proofs.YtblgligagngpfaaDoor.Mu
namespace Go.Proofs.YtblgligagngpfaaDoor.Mu
open Go

section
variable {P : Program} {ops : Array Oper} {md : Region.Mode} {C : World → Prop}

def wpAnyK (P : Program) (md : Region.Mode) (ops : Array Oper) (C : World → Prop) (n : Nat) (L : Array Bool → Act → Prop) : Nat → Array Bool → Act → Prop
  | 0, listed, a => L listed a
  | f + 1, listed, a => Region.ready md ops listed ≠ [] ∧ ∀ i ∈ Region.ready md ops listed, i < n ∧ qOp P ops C i (wpAnyK P md ops C n L f (listed.setIfInBounds i true)) a
theorem wpAny_of_K {n g : Nat} {L : Array Bool → Act → Prop} {Q' : Exit → Act → World → Prop} (hL : ∀ listed a w, C w → L listed a → wpAny P md ops Q' g listed a w) :
    ∀ (f : Nat) (listed : Array Bool) (a : Act) (w : World), C w → wpAnyK P md ops C n L f listed a → wpAny P md ops Q' (f + g) listed a w
  | 0, listed, a, w, hw, h => by rw [Nat.zero_add]; exact hL _ _ _ hw h
  | f + 1, listed, a, w, hw, h => by
    rw [show f + 1 + g = (f + g) + 1 by omega]
    exact ⟨fun h0 => absurd h0 h.1, fun i hi => wpOp_of_qOp hw (fun a' w' hw' h' => wpAny_of_K hL f _ a' w' hw' h') (h.2 i hi).2⟩
theorem wpAnyK_first {n i : Nat} {oi : Oper} {v : Value} {L : Array Bool → Act → Prop} (hi : ops[i]? = some oi) (hsel : ∀ (j : Nat) (o : Oper) cs b, ops[j]? = some o → o.op ≠ .select cs b)
    (hs : Region.sinkB md ops n = true) (hc : Region.chainB md ops n = true) (hn : n < ops.size) (hin : i < n)
    (hdone : ∀ listed a, L listed a → ∀ j ∈ Region.ready md ops listed, n ≤ j) :
    ∀ (f : Nat) (listed : Array Bool) (a : Act), HeadInv md ops n listed →
      (∀ j oj, ops[j]? = some oj → j ≠ i → listed.getD j true = false → (∀ e ∈ oj.after, Region.binds md e = true → e.on ≠ i) → oi.apart ops oj = true) →
      i ∈ Region.ready md ops listed → YieldsIn P ops C oi v a →
      wpAnyK P md ops C n L f (listed.setIfInBounds i true) (a.put oi.dst v) → wpAnyK P md ops C n L (f + 1) listed a := by
  intro f
  induction f with
  | zero =>
    intro listed a inv _ hr hy H
    have hun := (mem_ready.1 hr).1
    refine ⟨fun h => (by rw [h] at hr; cases hr), fun j hj => ?_⟩
    have hjn : j < n := by
      rcases Nat.lt_or_ge j n with h | h
      · exact h
      · exact absurd hj (tail_waits hs hc hn inv _ i rfl hin hun j h)
    refine ⟨hjn, ?_⟩
    by_cases hji : j = i
    · subst hji; exact hy.qOp hi H
    · have := hdone _ _ H j (ready_mono hj hji)
      omega
  | succ f ih =>
    intro listed a inv hfree hr hy H
    have hun := (mem_ready.1 hr).1
    refine ⟨fun h => (by rw [h] at hr; cases hr), fun j hj => ?_⟩
    have hjn : j < n := by
      rcases Nat.lt_or_ge j n with h | h
      · exact h
      · exact absurd hj (tail_waits hs hc hn inv _ i rfl hin hun j h)
    refine ⟨hjn, ?_⟩
    by_cases hji : j = i
    · subst hji; exact hy.qOp hi H
    · have h1 := (H.2 j (ready_mono hj hji)).2
      obtain ⟨hjun, oj, hoj, hall⟩ := mem_ready.1 hj
      have hnot : ∀ e ∈ oj.after, Region.binds md e = true → e.on ≠ i := fun e he hb heq => by
        have h1 := hall e he hb
        rw [heq, getD_both hun] at h1
        cases h1
      have h2 := qOp_put hoj (hfree j oj hoj hji hjun hnot) (fun cs b => hsel i oi cs b hi) (fun cs b => hsel j oj cs b hoj) hy h1
      have hfree' : ∀ k ok, ops[k]? = some ok → k ≠ i → (listed.setIfInBounds j true).getD k true = false →
          (∀ e ∈ ok.after, Region.binds md e = true → e.on ≠ i) → oi.apart ops ok = true := fun k ok hk hki hkun hno => by
        refine hfree k ok hk hki ?_ hno
        by_cases hjk : j = k
        · subst hjk; exact hjun
        · rw [getD_set_ne true hjk] at hkun; exact hkun
      refine qOp_mono (fun a' h3 => ih (listed.setIfInBounds j true) a' (inv.set hj hjn) hfree' (ready_mono hr (Ne.symm hji)) h3.1 ?_) h2
      rw [Array.setIfInBounds_comm _ _ hji]
      exact h3.2
theorem wpAnyK_lex {n g : Nat} {Lq : Act → Prop} (hsel : Region.noSelect ops = true) (hs : Region.sinkB md ops n = true) (hc : Region.chainB md ops n = true) (hn : n < ops.size) :
    ∀ (l : List Oper) (k : Nat) (listed : Array Bool) (a : Act), (∀ j, j < l.length → l[j]? = ops[k + j]?) → k + l.length = n → HeadInv md ops n listed →
    Region.lexHead md ops g l.length k listed = true → wpQuiet P ops C Lq l a →
    wpAnyK P md ops C n (fun listed' a' => Region.seqB md ops g n listed' = true ∧ Lq a') l.length listed a
  | [], k, listed, a, _, hk, _, hB, h => by
    have : k = n := by simpa using hk
    subst this
    exact ⟨by simpa [Region.lexHead] using hB, h⟩
  | o :: l, k, listed, a, hl, hk, inv, hB, h => by
    have h0 : ops[k]? = some o := by simpa using (hl 0 (by simp)).symm
    simp only [List.length_cons, Region.lexHead, Bool.and_eq_true] at hB
    obtain ⟨⟨hr, hf⟩, hB'⟩ := hB
    have hkn : k < n := by simp only [List.length_cons] at hk; omega
    have hr' : k ∈ Region.ready md ops listed := by simpa using hr
    have hst : qOp P ops C k (wpQuiet P ops C Lq l) a := by unfold qOp; simp only [h0]; exact h
    obtain ⟨v, hy, hK⟩ := yieldsIn_of_qOp h0 hst
    exact wpAnyK_first h0 (Region.noSelect_spec hsel) hs hc hn hkn (fun listed' a' hL => seqB_ready hL.1) l.length listed a inv (Region.free_spec h0 hf) hr' hy
      (wpAnyK_lex hsel hs hc hn l (k + 1) _ _ (fun j hj => by have := hl (j + 1) (by simp; omega); simpa [Nat.add_assoc, Nat.add_comm 1 j] using this) (by simp only [List.length_cons] at hk; omega) (inv.set hr' hkn) hB' hK)
theorem wp_region_quiet_tail {id : Nat} {Q : Exit → Act → World → Prop} {a : Act} {w : World} {l : List Oper} (n : Nat) (hm : P.follows .mixedOrders = true) (hB : Region.lexTailB .any l.toArray n = true) (hC : C w.drew)
    (h : wpQuiet P l.toArray C (fun a' => ∀ w', C w' → wpList P l.toArray Q (l.drop n) a' w') (l.take n) a) : (Code.region id l.toArray true).wp P Q a w := by
  simp only [Region.lexTailB, Bool.and_eq_true, decide_eq_true_eq] at hB
  obtain ⟨⟨⟨⟨hsel, hn⟩, hs⟩, hc⟩, hlex⟩ := hB
  have hn' : n < l.length := by simpa using hn
  have htl : (l.take n).length = n := by simp; omega
  have hdl : (l.drop n).length = l.toArray.size - n := by simp
  have inv0 : HeadInv .any l.toArray n (Array.replicate l.toArray.size false) :=
    ⟨by simp, fun j oj _ hl => (by rw [getD_replicate_false] at hl; cases hl), fun t _ ht => getD_in (by simpa using ht) (getD_replicate_false _ _)⟩
  have H := wpAnyK_lex (md := .any) (g := l.toArray.size - n) hsel hs hc hn (l.take n) 0 _ a (fun j hj => by
    have hj' : j < n := by rw [htl] at hj; exact hj
    simp [hj']) (by simpa using htl) inv0 (by rw [htl]; exact hlex) h
  refine wp_region_any hm ?_
  have := wpAny_of_K (Q' := Q) (g := l.toArray.size - n) (fun listed a' w' hw' hL => by
    have := wpAny_of_seq (md := .any) (Q' := Q) (l.drop n) n listed a' w' (fun j => by simp [List.getElem?_drop]) (by rw [hdl]; exact hL.1) (hL.2 w' hw')
    rwa [hdl] at this) _ _ _ w.drew hC H
  rw [htl, show n + (l.toArray.size - n) = l.toArray.size by omega] at this
  exact this
end
/-- A world in which all that was there is as it was. -/
structure Abw (w : World) where
  wd : World
  bel : Bel w wd
instance (w : World) : Nonempty (Abw w) := ⟨⟨w, Bel.refl w⟩⟩
theorem wp_region_above_tail {P : Program} {id : Nat} {Q : Exit → Act → World → Prop} {a : Act} {w : World} {l : List Oper} (n : Nat) (hm : P.follows .mixedOrders = true) (hB : Region.lexTailB .any l.toArray n = true)
    (h : wpQuiet P l.toArray (fun w' => ∃ n : Abw w, w' = n.wd) (fun a' => ∀ w', (∃ n : Abw w, w' = n.wd) → wpList P l.toArray Q (l.drop n) a' w') (l.take n) a) : (Code.region id l.toArray true).wp P Q a w :=
  wp_region_quiet_tail n hm hB ⟨⟨_, (Bel.refl w).drew⟩, rfl⟩ h
end Go.Proofs.YtblgligagngpfaaDoor.Mu
namespace Go.Proofs.YtblgligagngpfaaDoor.Mu
open Go.ChangeShapes Go.WideShapes Go.ChangeAt Go.RowKit Go.Shelf

attribute [local go_sem] Oper.semAt_some
set_option linter.unusedVariables false

/-- A slice reads as these names. -/
def RNm (w : World) (B : Nat) (A : Option Addr) (n : Nat) (ts : List (List UInt8)) : Prop :=
  n = ts.length ∧ (0 < n → ∃ b off, A = some ⟨b, off, none⟩ ∧ b < B ∧ ∀ (j : Nat) (s : List UInt8), ts[j]? = some s → w.cell? ⟨b, off + j, none⟩ = some (.string ⟨s.toArray⟩))
/-- What stands below base stays: the tables, the names. -/
structure Env (w0 : World) (base : Nat) (nm : List (List UInt8)) (N : Option Addr) (nn : Nat) : Prop where
  tabs : ∀ W, Below base w0 W → Tabs W
  names : RNm w0 base N nn nm
  nn : nn ≤ 9223372036854775807
theorem Below.toBel {B : Nat} {w w' : World} (h : Below B w w') (hB : w.heap.size ≤ B) : Bel w w' := ⟨h.os, h.tape, h.output, h.size, fun i hi => h.block i (by omega)⟩
theorem bel_below {B : Nat} {w w' : World} (h : Bel w w') (hB : B ≤ w.heap.size) : Below B w w' := ⟨h.os, h.tape, h.output, h.size, fun i hi => h.block i (by omega)⟩
theorem WrAt.lt {w : World} {base b : Nat} {bs : List UInt8} {nm : Value} {S : List Prt} (h : WrAt w base b bs nm S) : base ≤ b ∧ b < w.heap.size := by
  obtain ⟨hB, p, v, u, _, hb, _⟩ := h
  exact ⟨hB, (Array.getElem?_eq_some_iff.1 hb).1⟩
/-- Where only new memory is laid, the writer is as it was. -/
theorem WrAt.bel {w w' : World} {base b : Nat} {bs : List UInt8} {nm : Value} {S : List Prt} (h : WrAt w base b bs nm S) (hb : Bel w w') : WrAt w' base b bs nm S := by
  obtain ⟨hB, p, v, u, hp, hbk, h1, h2⟩ := h
  exact ⟨hB, p, v, u, hp, hb.blk hbk, row_keep h1 fun j hj => hb.block j (h1.lt j hj).2, row_keep h2 fun j hj => hb.block j (h2.lt j hj).2⟩
theorem step_callY {P : Program} {ops : Array Oper} {o : Oper} {a : Act} {w : World} {K : Act → World → Prop} {Q : Exit → Act → World → Prop} {E : Prop} (hgd : o.guard = none) (f : FuncId) (args : Array Value) (hrun : (execOp a.eval o).run P w = .ok (.enter f args) w)
    (h : Calls P f args w fun e w' => ∃ v, e = .returned v ∧ K (a.put o.dst v) w') : if Region.wanted o (yielded ops a.tmps) = true then Oper.wp P o a w K Q else E := by
  have hw : Region.wanted o (yielded ops a.tmps) = true := by simp [Region.wanted, hgd]
  rw [if_pos hw]
  unfold Oper.wp
  rw [hrun]
  refine h.mono ?_
  rintro e w' ⟨v, rfl, hk⟩
  exact hk
def WroteP (base b : Nat) (bs : List UInt8) (nm : Value) (S : List Prt) (w : World) (e : Ending) (w' : World) : Prop := e = .returned (.tuple #[]) ∧ WrAt w' base b bs nm S ∧ Below base w w'
set_option maxRecDepth 100000 in
set_option maxHeartbeats 2000000 in
theorem var_any {w0 : World} {base : Nat} {nm : List (List UInt8)} {N : Option Addr} {nn nc : Nat} (E : Env w0 base nm N nn) (b : Nat) (bs : List UInt8) (S : List Prt) (w : World) (hbel : Below base w0 w) (hW : WrAt w base b bs (.slice N nn nc) S) (bn on : Nat) (n : Int) (hb : bn < base)
    (c1 : w0.cell? ⟨bn, on + 1, none⟩ = some (.int .i64 n)) (h0 : 0 ≤ n) (h1 : n < 1048576) (hlen : bs.length + (97 :: Lib.itoa n).length ≤ 140737488355328) :
    Calls Tryd.prog 75 #[.pointer (some ⟨b, 0, none⟩), .pointer (some ⟨bn, on, none⟩)] w (WroteP base b (bs ++ 97 :: Lib.itoa n) (.slice N nn nc) S w) := by
  have c := (hbel.cell (p := ⟨bn, on + 1, none⟩) hb).trans c1
  obtain ⟨hB, hlt⟩ := hW.lt
  have HI : Hid (∀ W, Below base w W → Calls Tryd.prog 82 #[.int .i64 n] W fun e w' => e = .returned (.string ⟨(Lib.itoa n).toArray⟩) ∧ Bel W w') := Lib.hid fun W hw => itoa_any n h0 h1 W (E.tabs W (hbel.trans hw))
  have HW := Lib.hid hW
  have HWR : Hid (∀ W, Bel w W → Calls Tryd.prog 43 #[.pointer (some ⟨b, 0, none⟩), .string (⟨#[97]⟩ ++ ⟨(Lib.itoa n).toArray⟩)] W fun e w' => e = .returned (.tuple #[.int .i64 (1 + (Lib.itoa n).length : Nat), .nilIface]) ∧ WrAt w' base b (bs ++ 97 :: Lib.itoa n) (.slice N nn nc) S ∧ Below base W w') := Lib.hid fun W hw => by
    have e1 : (⟨#[97]⟩ ++ ⟨(Lib.itoa n).toArray⟩ : ByteArray).data.toList = 97 :: Lib.itoa n := by simp
    have e2 : (⟨#[97]⟩ ++ ⟨(Lib.itoa n).toArray⟩ : ByteArray).size = 1 + (Lib.itoa n).length := by rw [Lib.size_eq, e1]; simp; omega
    have h := wrs_any base b bs (.slice N nn nc) S (⟨#[97]⟩ ++ ⟨(Lib.itoa n).toArray⟩) W (HW.out.bel hw) (by rw [e2]; simp at hlen; omega)
    rw [e1, e2] at h
    exact h
  have hbw : base ≤ w.heap.size := by omega
  have hno : ¬ 9223372036854775807 < 1 + (Lib.itoa n).length := by simp at hlen; omega
  clear hW hbel c1 hlen h0 h1 E
  obtain ⟨t, ht⟩ : ∃ t, t = Lib.itoa n := ⟨_, rfl⟩
  rw [← ht] at HI HWR hno ⊢
  clear ht
  have cc : ∀ q : Abw w, q.wd.cell? ⟨bn, on + 1, none⟩ = some (.int .i64 n) := fun q => (q.bel.cell (p := ⟨bn, on + 1, none⟩) (show bn < w.heap.size by omega)).trans c
  clear c
  go_enter Tryd.func75, Tryd.ntmps75
  go_wp2_with fail
  refine wp_region_above_tail 9 (by kernel_rfl) (by kernel_rfl) ?_
  simp only [List.take_succ_cons, List.take_zero, List.drop_succ_cons, List.drop_zero]
  repeat (go_big_quiet_step (exact (HI.out _ (bel_below (Abw.bel _) hbw)).mono fun e w h => ⟨h.1, ⟨_, (Abw.bel _).on h.2⟩, rfl⟩))
  refine wpQuiet_nil ?_
  rintro w4 ⟨⟨w4, hb4⟩, rfl⟩
  go_wp2_with fail
  refine (HWR.out _ hb4).mono ?_
  rintro e w5 ⟨rfl, h5, b5⟩
  have H5 := Lib.hid h5
  have B5 := Lib.hid ((bel_below hb4 hbw).trans b5)
  clear h5 b5 hb4
  go_wp2_with fail
  go_end0
  exact ⟨rfl, H5.out, B5.out⟩
/-- One part: a text alone. -/
theorem wstr_any {base b : Nat} {bs : List UInt8} {nm : Value} {S : List Prt} (s : List UInt8) {w : World} (hW : WrAt w base b bs nm S) (hlen : bs.length + s.length ≤ 140737488355328) :
    Calls Tryd.prog 43 #[.pointer (some ⟨b, 0, none⟩), .string ⟨s.toArray⟩] w fun e w' => e = .returned (.tuple #[.int .i64 s.length, .nilIface]) ∧ WrAt w' base b (bs ++ s) nm S ∧ Below base w w' := by
  have e2 : (⟨s.toArray⟩ : ByteArray).size = s.length := by rw [Lib.size_eq]
  have h := wrs_any base b bs nm S ⟨s.toArray⟩ w hW (by rw [e2]; exact hlen)
  rw [e2] at h
  exact h
theorem wstr_anyK {base b : Nat} {bs : List UInt8} {nm : Value} {S : List Prt} (s : List UInt8) {w : World} (hW : WrAt w base b bs nm S) (hlen : bs.length + s.length ≤ 140737488355328) :
    Calls Tryd.prog 43 #[.pointer (some ⟨b, 0, none⟩), .string ⟨s.toArray⟩] w fun e w' => e = .returned (.tuple #[.int .i64 s.length, .nilIface]) ∧ WrAt w' base b (bs ++ s) nm S ∧ Below base w w' ∧ Spared b w w' := by
  have e2 : (⟨s.toArray⟩ : ByteArray).size = s.length := by rw [Lib.size_eq]
  have h := wrs_anyK base b bs nm S ⟨s.toArray⟩ w hW (by rw [e2]; exact hlen)
  rw [e2] at h
  exact h
/-- What a writer's method does to what is written and to what is left. -/
def DidP (w0 : World) (base b : Nat) (bs : List UInt8) (nm : List (List UInt8)) (nv : Value) (S : List Prt) (s : List UInt8) (P : List Prt) (w : World) (e : Ending) (w' : World) : Prop := e = .returned (.tuple #[]) ∧ WrAt w' base b (bs ++ s) nv (P ++ S) ∧ Below base w w'
set_option maxRecDepth 100000 in
set_option maxHeartbeats 2000000 in
theorem word_any {base b : Nat} {bs : List UInt8} {nv : Value} {S : List Prt} (w : World) (hW : WrAt w base b bs nv S) (bn on : Nat) (k : Int) (c0 : w.cell? ⟨bn, on, none⟩ = some (.int .u8 k)) (hk : k = 2 ∨ k = 3 ∨ k = 4 ∨ k = 5) (hlen : bs.length + (wordT k).length ≤ 140737488355328) :
    Calls Tryd.prog 79 #[.pointer (some ⟨b, 0, none⟩), .pointer (some ⟨bn, on, none⟩)] w (WroteP base b (bs ++ wordT k) nv S w) := by
  have HC : Hid (Calls Tryd.prog 43 #[.pointer (some ⟨b, 0, none⟩), .string ⟨(wordT k).toArray⟩] w fun e w' => e = .returned (.tuple #[.int .i64 (wordT k).length, .nilIface]) ∧ WrAt w' base b (bs ++ wordT k) nv S ∧ Below base w w') := Lib.hid (wstr_any (wordT k) hW hlen)
  clear hW hlen
  rcases hk with rfl | rfl | rfl | rfl
  all_goals
    go_enter Tryd.func79, Tryd.ntmps79
    go_wp2_with fail
    refine HC.out.mono ?_
    rintro e w5 ⟨rfl, h5, b5⟩
    have H5 := Lib.hid h5
    have B5 := Lib.hid b5
    clear h5 b5
    go_wp2_with fail
    go_end0
    exact ⟨rfl, H5.out, B5.out⟩
end Go.Proofs.YtblgligagngpfaaDoor.Mu
namespace Go.Proofs.YtblgligagngpfaaDoor.Mu
open Go.ChangeShapes Go.WideShapes Go.ChangeAt Go.RowKit Go.Shelf

attribute [local go_sem] Oper.semAt_some
set_option linter.unusedVariables false

def Fo.drop : Fo → Nat → Fo
  | f, 0 => f
  | .nil, _ + 1 => .nil
  | .cons _ _ _ _ _ r, j + 1 => r.drop j
theorem Fo.drop_len : ∀ (f : Fo) (j : Nat), j ≤ f.len → (f.drop j).len = f.len - j
  | .nil, 0, _ => rfl
  | .nil, _ + 1, _ => by simp [Fo.drop, Fo.len]
  | .cons _ _ _ _ _ r, 0, _ => rfl
  | .cons _ _ _ _ _ r, j + 1, h => by
    simp only [Fo.drop, Fo.len] at h ⊢
    rw [Fo.drop_len r j (by omega)]
    omega
theorem Fo.drop_cons : ∀ (f : Fo) (j : Nat), j < f.len → ∃ k n v c kids, f.drop j = .cons k n v c kids (f.drop (j + 1))
  | .nil, _, h => by simp [Fo.len] at h
  | .cons k n v c kids r, 0, _ => ⟨k, n, v, c, kids, by simp [Fo.drop]⟩
  | .cons _ _ _ _ _ r, j + 1, h => by
    simp only [Fo.len] at h
    exact Fo.drop_cons r j (by omega)
/-- The arguments, each behind a blank. -/
def argP : Fo → Nat → Nat → List Prt
  | .nil, _, _ => []
  | .cons k n v c kids rest, b, o => ⟨[32], some (b, o, .cons k n v c kids rest), 2⟩ :: argP rest b (o + 5)
theorem argP_len : ∀ (f : Fo) (b o : Nat), (argP f b o).length = f.len
  | .nil, _, _ => rfl
  | .cons _ _ _ _ _ r, b, o => by simp only [argP, List.length_cons, Fo.len, argP_len r]
set_option maxRecDepth 100000 in
set_option maxHeartbeats 2000000 in
theorem args_any {base b : Nat} {bs : List UInt8} {nv : Value} {S : List Prt} (A : Option Addr) (len cap b' o' : Nat) (kids : Fo) (w : World) (hW : WrAt w base b bs nv S) (hl : len = kids.len) (hcap : len ≤ cap) (hA : 0 < len → A = some ⟨b', o', none⟩) (hS : S.length + len ≤ 100000000) :
    Calls Tryd.prog 83 #[.pointer (some ⟨b, 0, none⟩), .slice A len cap] w (WroteP base b bs nv (argP kids b' o' ++ S) w) := by
  have HW := Lib.hid hW
  have HL := Lib.hid hl
  have HA := Lib.hid hA
  clear hW hl hA
  go_enter Tryd.func83, Tryd.ntmps83
  go_wp2_with fail
  go_loopw [4] (fun i wr => ∃ j : Nat, j ≤ len ∧ i = .int .i64 ((j : Int) - 1) ∧ Hid (WrAt wr base b bs nv (argP (kids.drop j) b' (o' + j * 5) ++ S)) ∧ Hid (Below base w wr)) (fun i _ => (intOf i + 1).toNat)
  case atStart =>
    refine ⟨len, Nat.le_refl _, by congr 1; try omega, Lib.hid ?_, Lib.hid (Below.refl _ _)⟩
    have : kids.drop len = .nil := Fo.len_zero (by rw [Fo.drop_len _ _ (by rw [HL.out]; exact Nat.le_refl _), HL.out]; omega)
    rw [this]
    exact HW.out
  case round =>
    obtain ⟨j, hj, rfl, HR, HB⟩ := hrel
    by_cases h0 : 0 < j
    · obtain ⟨i, rfl⟩ : ∃ i, j = i + 1 := ⟨j - 1, by omega⟩
      have eA := HA.out (by omega)
      subst eA
      obtain ⟨k', n', v', c', kids', en⟩ := Fo.drop_cons kids i (by rw [← HL.out]; omega)
      have HC : Hid (Calls Tryd.prog 42 #[.pointer (some ⟨b, 0, none⟩), .agg #[.string ⟨#[32]⟩, .pointer (some ⟨b', o' + i * 5, none⟩), .int .i64 2]] wr fun e w' => e = .returned (.tuple #[]) ∧ WrAt w' base b bs nv (argP (kids.drop i) b' (o' + i * 5) ++ S) ∧ Below base wr w') := Lib.hid (by
        have h := later_any base b bs nv (argP (kids.drop (i + 1)) b' (o' + (i + 1) * 5) ++ S) ⟨[32], some (b', o' + i * 5, kids.drop i), 2⟩ wr HR.out (by rw [List.length_append, argP_len, Fo.drop_len _ _ (by rw [← HL.out]; exact hj), ← HL.out]; omega)
        rw [show o' + (i + 1) * 5 = o' + i * 5 + 5 by omega] at h
        have e : argP (kids.drop i) b' (o' + i * 5) = ⟨[32], some (b', o' + i * 5, kids.drop i), 2⟩ :: argP (kids.drop (i + 1)) b' (o' + i * 5 + 5) := by
          rw [en]
          simp only [argP]
        rw [e]
        exact h)
      have i1 : (0 : Int) ≤ ((i : Int) + 1) - 1 := by omega
      have i2 : ((i : Int) + 1) - 1 < (len : Int) := by omega
      have i3 : ((i : Int) + 1) - 1 = (i : Int) := by omega
      have i4 : (0 : Int) ≤ (i : Int) := by omega
      have i5 : (i : Int) < (len : Int) := by omega
      clear en
      go_wp2_with fail
      refine HC.out.mono ?_
      rintro e w2 ⟨rfl, h2, b2⟩
      have H2 := Lib.hid h2
      have B2 := Lib.hid (HB.out.trans b2)
      clear h2 b2
      go_wp2_with fail
      go_roundw
      case rel => exact ⟨i, by omega, by go_num, H2, B2⟩
      case measure => simp [intOf]
    · obtain rfl : j = 0 := by omega
      go_wp2_with fail
      go_end0
      have h := HR.out
      exact ⟨rfl, by simpa [Fo.drop] using h, HB.out⟩
set_option maxRecDepth 100000 in
set_option maxHeartbeats 2000000 in
theorem mut_any (v c : Int) (hb : isB v c = true) (w : World) (ht : Tabs w) : Calls Tryd.prog 84 #[.agg #[.int .i64 v, .int .u8 c]] w fun e w' => e = .returned (.string ⟨(muT v c).toArray⟩) ∧ Bel w w' := by
  by_cases hc : c = 0
  · subst hc
    have hv : 0 ≤ v ∧ v < 1048576 := by simp [isB, isVarB, isMultB] at hb; omega
    have HI : Hid (∀ W, Bel w W → Calls Tryd.prog 82 #[.int .i64 v] W fun e w' => e = .returned (.string ⟨(Lib.itoa v).toArray⟩) ∧ Bel W w') := Lib.hid fun W hw => itoa_any v hv.1 hv.2 W (ht.bel hw)
    have hno : ¬ 9223372036854775807 < 1 + (Lib.itoa v).length := by have := Lib.itoa_length_le v (by omega) (by omega); omega
    have HM : Hid (muT v 0 = 109 :: Lib.itoa v) := Lib.hid (by unfold muT; rw [if_pos rfl])
    obtain ⟨t, ht⟩ : ∃ t, t = Lib.itoa v := ⟨_, rfl⟩
    rw [← ht] at HI hno HM
    clear ht hb hv
    go_enter Tryd.func84, Tryd.ntmps84
    go_wp2_with fail
    refine (HI.out _ ((Bel.refl w).alloc _)).mono ?_
    rintro e w2 ⟨rfl, b2⟩
    have B2 := Lib.hid (((Bel.refl w).alloc _).on b2)
    clear b2
    go_wp2_with fail
    go_ret
    exact ⟨by rw [HM.out]; congr 1, B2.out⟩
  · have hc1 : 0 ≤ c ∧ c ≤ 255 := by simp [isB, isVarB, isMultB, hc] at hb; omega
    have HI : Hid (∀ W, Bel w W → Calls Tryd.prog 86 #[.int .u8 c] W fun e w' => e = .returned (.string ⟨(mulS c).toArray⟩) ∧ W = w') := Lib.hid fun W hw => mtext_any c hc1.1 hc1.2 W (ht.bel hw)
    have HM : Hid (muT v c = mulS c) := Lib.hid (by unfold muT; rw [if_neg hc])
    have d0 : (c == 0) = false := by simpa using hc
    clear hb ht hc1
    go_enter Tryd.func84, Tryd.ntmps84
    go_wp2_with fail
    refine (HI.out _ ((Bel.refl w).alloc _)).mono ?_
    rintro e w2 ⟨rfl, rfl⟩
    go_wp2_with fail
    go_ret
    exact ⟨by rw [HM.out]; rfl, (Bel.refl w).alloc _⟩
theorem cell_above {w : World} {b o : Nat} {x : Value} (hb : b < w.heap.size) (h : w.cell? ⟨b, o, none⟩ = some x) : ∀ q : Abw w, q.wd.cell? ⟨b, o, none⟩ = some x := fun q => (q.bel.cell (p := ⟨b, o, none⟩) hb).trans h
theorem WrAt.cell2 {w : World} {base b : Nat} {bs : List UInt8} {nv : Value} {S : List Prt} (h : WrAt w base b bs nv S) : w.cell? ⟨b, 2, none⟩ = some nv := by
  obtain ⟨hB, p, v, u, _, hb, _⟩ := h
  exact (cellsW hb).2.2.1
set_option maxRecDepth 100000 in
set_option maxHeartbeats 2000000 in
theorem arr_any {base b : Nat} {bs : List UInt8} {nv : Value} {S : List Prt} (bn on : Nat) (A : Option Addr) (len cap b' o' : Nat) (kids : Fo) (w : World) (hW : WrAt w base b bs nv S) (hb : bn < base) (c4 : w.cell? ⟨bn, on + 4, none⟩ = some (.slice A len cap)) (hl : len = kids.len) (hcap : len ≤ cap) (hA : 0 < len → A = some ⟨b', o', none⟩) (hS : S.length + len ≤ 100000000) (hlen : bs.length + 3 ≤ 140737488355328) :
    Calls Tryd.prog 76 #[.pointer (some ⟨b, 0, none⟩), .pointer (some ⟨bn, on, none⟩)] w (WroteP base b (bs ++ [65, 114, 114]) nv (argP kids b' o' ++ S) w) := by
  have HC : Hid (Calls Tryd.prog 43 #[.pointer (some ⟨b, 0, none⟩), .string ⟨#[65, 114, 114]⟩] w fun e w' => e = .returned (.tuple #[.int .i64 3, .nilIface]) ∧ WrAt w' base b (bs ++ [65, 114, 114]) nv S ∧ Below base w w') := Lib.hid (wstr_any [65, 114, 114] hW hlen)
  have HA : Hid (∀ W, WrAt W base b (bs ++ [65, 114, 114]) nv S → Calls Tryd.prog 83 #[.pointer (some ⟨b, 0, none⟩), .slice A len cap] W (WroteP base b (bs ++ [65, 114, 114]) nv (argP kids b' o' ++ S) W)) := Lib.hid fun W h => args_any A len cap b' o' kids W h hl hcap hA hS
  clear hW hlen hA hl hcap hS
  go_enter Tryd.func76, Tryd.ntmps76
  go_wp2_with fail
  refine HC.out.mono ?_
  rintro e w5 ⟨rfl, h5, b5⟩
  have HC5 := Lib.hid (HA.out w5 h5)
  have B5 := Lib.hid b5
  have d4 := (b5.cell (p := ⟨bn, on + 4, none⟩) hb).trans c4
  clear h5 b5 c4
  go_wp2_with fail
  refine HC5.out.mono ?_
  rintro e w6 ⟨rfl, h6, b6⟩
  have H6 := Lib.hid h6
  have B6 := Lib.hid (B5.out.trans b6)
  clear h6 b6
  go_wp2_with fail
  go_end0
  exact ⟨rfl, H6.out, B6.out⟩
set_option maxRecDepth 100000 in
set_option maxHeartbeats 2000000 in
theorem fun_any {w0 : World} {base : Nat} {nm : List (List UInt8)} {N : Option Addr} {nn : Nat} (E : Env w0 base nm N nn) {b : Nat} {bs : List UInt8} {nv : Value} {S : List Prt} (bn on : Nat) (v c : Int) (A : Option Addr) (cap b' o' : Nat) (f1 f2 : Fo) (w : World) (hbel : Below base w0 w) (hW : WrAt w base b bs nv S) (hb : bn < base)
    (c2 : w.cell? ⟨bn, on + 2, none⟩ = some (.int .i64 v)) (c3 : w.cell? ⟨bn, on + 3, none⟩ = some (.int .u8 c)) (c4 : w.cell? ⟨bn, on + 4, none⟩ = some (.slice A 2 cap)) (hcap : 2 ≤ cap) (hA : A = some ⟨b', o', none⟩) (hi : isB v c = true) (hS : S.length + 2 ≤ 100000000) :
    Calls Tryd.prog 77 #[.pointer (some ⟨b, 0, none⟩), .pointer (some ⟨bn, on, none⟩)] w (WroteP base b bs nv (⟨[], some (b', o', f1), 1⟩ :: ⟨arrowT v c, some (b', o' + 5, f2), 0⟩ :: S) w) := by
  subst hA
  obtain ⟨hB, hlt⟩ := hW.lt
  have HM : Hid (∀ W, Below base w W → Calls Tryd.prog 84 #[.agg #[.int .i64 v, .int .u8 c]] W fun e w' => e = .returned (.string ⟨(muT v c).toArray⟩) ∧ Bel W w') := Lib.hid fun W hw => mut_any v c hi W (E.tabs W (hbel.trans hw))
  have HL1 : Hid (∀ W, WrAt W base b bs nv S → Calls Tryd.prog 42 #[.pointer (some ⟨b, 0, none⟩), .agg #[.string ⟨(arrowT v c).toArray⟩, .pointer (some ⟨b', o' + 5, none⟩), .int .i64 0]] W fun e w' => e = .returned (.tuple #[]) ∧ WrAt w' base b bs nv (⟨arrowT v c, some (b', o' + 5, f2), 0⟩ :: S) ∧ Below base W w') := Lib.hid fun W h => later_any base b bs nv S ⟨arrowT v c, some (b', o' + 5, f2), 0⟩ W h (by omega)
  have HL2 : Hid (∀ W, WrAt W base b bs nv (⟨arrowT v c, some (b', o' + 5, f2), 0⟩ :: S) → Calls Tryd.prog 42 #[.pointer (some ⟨b, 0, none⟩), .agg #[.string ⟨#[]⟩, .pointer (some ⟨b', o', none⟩), .int .i64 1]] W fun e w' => e = .returned (.tuple #[]) ∧ WrAt w' base b bs nv (⟨[], some (b', o', f1), 1⟩ :: ⟨arrowT v c, some (b', o' + 5, f2), 0⟩ :: S) ∧ Below base W w') := Lib.hid fun W h => later_any base b bs nv _ ⟨[], some (b', o', f1), 1⟩ W h (by simp; omega)
  have HAT : Hid (arrowT v c = [32, 45] ++ muT v c ++ [62, 32]) := Lib.hid rfl
  have hml : (muT v c).length ≤ 22 := by
    unfold muT
    split
    · rename_i h0
      have h2 : 0 ≤ v ∧ v < 1048576 := by rw [h0] at hi; simp [isB, isVarB, isMultB] at hi; omega
      have := Lib.itoa_length_le v (by omega) (by omega)
      simp; omega
    · unfold mulS
      split
      · simp
      · split <;> simp
  obtain ⟨m, hm⟩ : ∃ m, m = muT v c := ⟨_, rfl⟩
  rw [← hm] at HM HAT hml
  have HW := Lib.hid hW
  have hbw : base ≤ w.heap.size := by omega
  obtain ⟨t, ht⟩ : ∃ t, t = arrowT v c := ⟨_, rfl⟩
  rw [← ht] at HL1 HL2 HAT ⊢
  have eS : (⟨t.toArray⟩ : ByteArray) = ⟨#[32, 45]⟩ ++ ⟨m.toArray⟩ ++ ⟨#[62, 32]⟩ := by rw [HAT.out]; apply ByteArray.ext; simp
  rw [eS] at HL1
  clear hm ht hi hW hbel E hS eS
  go_enter Tryd.func77, Tryd.ntmps77
  go_wp2_with fail
  refine (HM.out _ (Below.refl _ _)).mono ?_
  rintro e w2 ⟨rfl, b2⟩
  have n1 : ¬ 9223372036854775807 < 2 + m.length := by omega
  have n2 : ¬ 9223372036854775807 < 2 + m.length + 2 := by omega
  have B2 := Lib.hid b2
  have d4 := (b2.cell (p := ⟨bn, on + 4, none⟩) (show bn < w.heap.size by omega)).trans c4
  have hbn2 : bn < w2.heap.size := by have := b2.size; omega
  have e0 : (2 : Int) ≤ (cap : Int) := by omega
  clear b2 c4
  go_wp2_with fail
  refine (HL1.out _ (HW.out.bel (B2.out.alloc _))).mono ?_
  rintro e w3 ⟨rfl, h3, b3⟩
  have hb2 : Below base w w2 := bel_below B2.out hbw
  have b4 := (hb2.alloc (by have := B2.out.size; omega) _).trans b3
  have B4 := Lib.hid b4
  have d5 := (b3.cell (p := ⟨bn, on + 4, none⟩) hb).trans ((((Bel.refl w2).alloc _).cell (p := ⟨bn, on + 4, none⟩) hbn2).trans d4)
  have H3 := Lib.hid h3
  clear b4 b3 h3 hb2 d4
  go_wp2_with fail
  refine (HL2.out _ H3.out).mono ?_
  rintro e w6 ⟨rfl, h6, b6⟩
  have H6 := Lib.hid h6
  have B6 := Lib.hid (B4.out.trans b6)
  clear h6 b6
  go_wp2_with fail
  go_end0
  exact ⟨rfl, H6.out, B6.out⟩
end Go.Proofs.YtblgligagngpfaaDoor.Mu
namespace Go.Proofs.YtblgligagngpfaaDoor.Mu
open Go.ChangeShapes Go.WideShapes Go.ChangeAt Go.RowKit Go.Shelf

attribute [local go_sem] Oper.semAt_some
set_option linter.unusedVariables false

set_option maxRecDepth 100000 in
set_option maxHeartbeats 2000000 in
theorem brk_any (bn on : Nat) (k pl : Int) (A : Option Addr) (len cap : Nat) (w : World) (c0 : w.cell? ⟨bn, on, none⟩ = some (.int .u8 k)) (c4 : w.cell? ⟨bn, on + 4, none⟩ = some (.slice A len cap)) (hp : pl = 0 ∨ pl = 1 ∨ pl = 2) :
    Calls Tryd.prog 61 #[.pointer (some ⟨bn, on, none⟩), .int .i64 pl] w fun e w' => e = .returned (.bool (brkB pl k len)) ∧ w' = w := by
  obtain ⟨r, hr⟩ : ∃ r, r = brkB pl k len := ⟨_, rfl⟩
  rw [← hr]
  have HR := Lib.hid hr
  clear hr
  rcases hp with rfl | rfl | rfl
  · go_enter Tryd.func61, Tryd.ntmps61
    go_wp2_with fail
    go_ret
    exact ⟨by rw [HR.out]; simp [brkB], rfl⟩
  · go_enter Tryd.func61, Tryd.ntmps61
    go_wp2_with fail
    go_ret
    exact ⟨ret_bool (by rw [HR.out]; simp [brkB]; rfl), rfl⟩
  · by_cases h7 : k = 7
    · subst h7
      go_enter Tryd.func61, Tryd.ntmps61
      go_wp2_with fail
      go_ret
      exact ⟨by rw [HR.out]; simp [brkB], rfl⟩
    · by_cases h6 : k = 6
      · subst h6
        go_enter Tryd.func61, Tryd.ntmps61
        go_wp2_with fail
        go_ret
        exact ⟨by rw [HR.out]; simp [brkB], rfl⟩
      · have d7 : (k == 7) = false := by simpa using h7
        have d6 : (k == 6) = false := by simpa using h6
        by_cases h8 : k = 8
        · subst h8
          go_enter Tryd.func61, Tryd.ntmps61
          go_wp2_with fail
          go_ret
          exact ⟨ret_bool (by rw [HR.out]; simp [brkB]), rfl⟩
        · have d8 : (k == 8) = false := by simpa using h8
          go_enter Tryd.func61, Tryd.ntmps61
          go_wp2_with fail
          go_ret
          exact ⟨by rw [HR.out]; simp [brkB, h6, h7, h8], rfl⟩
set_option maxRecDepth 100000 in
set_option maxHeartbeats 2000000 in
theorem data_any {w0 : World} {base : Nat} {nm : List (List UInt8)} {N : Option Addr} {nn nc : Nat} (E : Env w0 base nm N nn) {b : Nat} {bs : List UInt8} {S : List Prt} (bn on i : Nat) (A : Option Addr) (len cap b' o' : Nat) (kids : Fo) (w : World) (hbel : Below base w0 w) (hW : WrAt w base b bs (.slice N nn nc) S) (hb : bn < base)
    (c1 : w.cell? ⟨bn, on + 1, none⟩ = some (.int .i64 (i : Int))) (c4 : w.cell? ⟨bn, on + 4, none⟩ = some (.slice A len cap)) (hi : i < 1048576) (hl : len = kids.len) (hcap : len ≤ cap) (hA : 0 < len → A = some ⟨b', o', none⟩) (hS : S.length + len ≤ 100000000) (hlen : bs.length + (nameT nm (i : Int)).length ≤ 140737488355328) :
    Calls Tryd.prog 78 #[.pointer (some ⟨b, 0, none⟩), .pointer (some ⟨bn, on, none⟩)] w (WroteP base b (bs ++ nameT nm (i : Int)) (.slice N nn nc) (argP kids b' o' ++ S) w) := by
  obtain ⟨hB, hlt⟩ := hW.lt
  have hbw : base ≤ w.heap.size := by omega
  have hbn : bn < w.heap.size := by omega
  obtain ⟨nmS, hnm⟩ : ∃ s, s = nameT nm (i : Int) := ⟨_, rfl⟩
  have HAr : Hid (∀ W, WrAt W base b (bs ++ nmS) (.slice N nn nc) S → Calls Tryd.prog 83 #[.pointer (some ⟨b, 0, none⟩), .slice A len cap] W (WroteP base b (bs ++ nmS) (.slice N nn nc) (argP kids b' o' ++ S) W)) := Lib.hid fun W h => args_any A len cap b' o' kids W h hl hcap hA hS
  have HI : Hid (∀ W, Below base w W → Calls Tryd.prog 82 #[.int .i64 (i : Int)] W fun e w' => e = .returned (.string ⟨(Lib.itoa (i : Int)).toArray⟩) ∧ Bel W w') := Lib.hid fun W hw => itoa_any (i : Int) (by omega) (by omega) W (E.tabs W (hbel.trans hw))
  have HWR : Hid (∀ W, Bel w W → Calls Tryd.prog 43 #[.pointer (some ⟨b, 0, none⟩), .string ⟨nmS.toArray⟩] W fun e w' => e = .returned (.tuple #[.int .i64 nmS.length, .nilIface]) ∧ WrAt w' base b (bs ++ nmS) (.slice N nn nc) S ∧ Below base W w') := Lib.hid fun W hw => wstr_any nmS (hW.bel hw) (by rw [hnm]; exact hlen)
  have c2 := hW.cell2
  have k1 := cell_above hbn c1
  have k2 := cell_above hlt c2
  have k4 := c4
  have hnn := E.nn
  have e0 : decide ((0 : Int) ≤ (i : Int)) = true := by simp
  rw [← hnm]
  by_cases hin : i < nn
  · obtain ⟨gb, go, eN, hgb, hgc⟩ := E.names.2 (by omega)
    obtain ⟨s, hs⟩ : ∃ s, nm[i]? = some s := ⟨_, List.getElem?_eq_getElem (by rw [← E.names.1]; exact hin)⟩
    have en : nmS = s := by rw [hnm]; unfold nameT; simp [hs]
    have cN := (hbel.cell (p := ⟨gb, go + i, none⟩) hgb).trans (hgc i s hs)
    subst eN
    rw [en] at HWR HAr ⊢
    have kN := cell_above (show gb < w.heap.size by omega) cN
    have e1 : decide ((i : Int) < (nn : Int)) = true := by simp; exact hin
    have e2 : (i : Int) < (nn : Int) := by omega
    have e3 : (0 : Int) ≤ (i : Int) := by omega
    have hgw : gb < w.heap.size := by omega
    clear hs hgc hgb hnm en E hW hbel hlen hS hA hl
    go_enter Tryd.func78, Tryd.ntmps78
    go_wp2_with fail
    go_quiet (fail)
    obtain ⟨w1, hw1⟩ : ∃ w1, w1 = w.drewN nq := ⟨_, rfl⟩
    have hb1 : Bel w w1 := by rw [hw1]; exact (Bel.refl w).drewN nq
    have hs1 : w.heap.size ≤ w1.heap.size := hb1.size
    rw [← hw1]
    have k1 := cell_above (show bn < w1.heap.size by omega) ((hb1.cell (p := ⟨bn, on + 1, none⟩) hbn).trans c1)
    have k2 := cell_above (show b < w1.heap.size by omega) ((hb1.cell (p := ⟨b, 2, none⟩) hlt).trans c2)
    have kN := cell_above (show gb < w1.heap.size by omega) ((hb1.cell (p := ⟨gb, go + i, none⟩) hgw).trans cN)
    clear cN
    go_wp2_with fail
    refine wp_region_above_tail 13 (by kernel_rfl) (by kernel_rfl) ?_
    simp only [List.take_succ_cons, List.take_zero, List.drop_succ_cons, List.drop_zero]
    repeat (go_big_quiet_step (fail))
    refine wpQuiet_nil ?_
    rintro w4 ⟨⟨w4, hb4⟩, rfl⟩
    have hb4' := hb1.on hb4
    have HB4 := Lib.hid hb4'
    clear hb4 hb1 hw1 c1 c2 k1 k2 hs1 kN
    go_wp2_with fail
    refine (HWR.out _ HB4.out).mono ?_
    rintro e w5 ⟨rfl, h5, b5⟩
    have b6 := (bel_below HB4.out hbw).trans b5
    have HC5 := Lib.hid (HAr.out w5 h5)
    have d4 := (b6.cell (p := ⟨bn, on + 4, none⟩) hb).trans c4
    have B6 := Lib.hid b6
    clear h5 b5 b6
    go_wp2_with fail
    refine HC5.out.mono ?_
    rintro e w7 ⟨rfl, h7, b7⟩
    have H7 := Lib.hid h7
    have B7 := Lib.hid (B6.out.trans b7)
    clear h7 b7
    go_wp2_with fail
    go_end0
    exact ⟨rfl, H7.out, B7.out⟩
  · have en : nmS = 35 :: Lib.itoa (i : Int) := by
      rw [hnm]
      unfold nameT
      have : nm[i]? = none := by rw [List.getElem?_eq_none_iff, ← E.names.1]; omega
      simp [this]
    have e1 : decide ((i : Int) < (nn : Int)) = false := by simp; omega
    have hno : ¬ 9223372036854775807 < 1 + (Lib.itoa (i : Int)).length := by have := Lib.itoa_length_le (i : Int) (by omega) (by omega); omega
    obtain ⟨t, ht⟩ : ∃ t, t = Lib.itoa (i : Int) := ⟨_, rfl⟩
    rw [← ht] at HI hno en
    have eS : (⟨nmS.toArray⟩ : ByteArray) = ⟨#[35]⟩ ++ ⟨t.toArray⟩ := by rw [en]; apply ByteArray.ext; simp
    rw [eS] at HWR
    clear hnm ht E hW hbel hlen hS hA hl eS
    go_enter Tryd.func78, Tryd.ntmps78
    go_wp2_with fail
    go_quiet (fail)
    obtain ⟨w1, hw1⟩ : ∃ w1, w1 = w.drewN nq := ⟨_, rfl⟩
    have hb1 : Bel w w1 := by rw [hw1]; exact (Bel.refl w).drewN nq
    have hs1 : w.heap.size ≤ w1.heap.size := hb1.size
    rw [← hw1]
    have k1 := cell_above (show bn < w1.heap.size by omega) ((hb1.cell (p := ⟨bn, on + 1, none⟩) hbn).trans c1)
    have k2 := cell_above (show b < w1.heap.size by omega) ((hb1.cell (p := ⟨b, 2, none⟩) hlt).trans c2)
    go_wp2_with fail
    refine wp_region_above_tail 9 (by kernel_rfl) (by kernel_rfl) ?_
    simp only [List.take_succ_cons, List.take_zero, List.drop_succ_cons, List.drop_zero]
    repeat (go_big_quiet_step (exact (HI.out _ (bel_below (hb1.on (Abw.bel _)) hbw)).mono fun e w h => ⟨h.1, ⟨_, (Abw.bel _).on h.2⟩, rfl⟩))
    refine wpQuiet_nil ?_
    rintro w4 ⟨⟨w4, hb4⟩, rfl⟩
    have hb4' := hb1.on hb4
    have HB4 := Lib.hid hb4'
    clear hb4 hb1 hw1 c1 c2 k1 k2 hs1
    go_wp2_with fail
    refine (HWR.out _ HB4.out).mono ?_
    rintro e w5 ⟨rfl, h5, b5⟩
    have b6 := (bel_below HB4.out hbw).trans b5
    have HC5 := Lib.hid (HAr.out w5 h5)
    have d4 := (b6.cell (p := ⟨bn, on + 4, none⟩) hb).trans c4
    have B6 := Lib.hid b6
    clear h5 b5 b6
    go_wp2_with fail
    refine HC5.out.mono ?_
    rintro e w7 ⟨rfl, h7, b7⟩
    have H7 := Lib.hid h7
    have B7 := Lib.hid (B6.out.trans b7)
    clear h7 b7
    go_wp2_with fail
    go_end0
    exact ⟨rfl, H7.out, B7.out⟩
end Go.Proofs.YtblgligagngpfaaDoor.Mu
namespace Go.Proofs.YtblgligagngpfaaDoor.Mu
open Go.ChangeShapes Go.WideShapes Go.ChangeAt Go.RowKit Go.Shelf

attribute [local go_sem] Oper.semAt_some
set_option linter.unusedVariables false

/-- What of a type is written at once, and what is left. -/
def bodyS (nm : List (List UInt8)) (k n : Int) : List UInt8 := if k = 1 then 97 :: Lib.itoa n else if k = 6 then [65, 114, 114] else if k = 7 then [] else if k = 8 then nameT nm n else wordT k
def bodyP (k v c : Int) (kids : Fo) (b o : Nat) : List Prt := if k = 7 then [⟨[], some (b, o, kids), 1⟩, ⟨arrowT v c, some (b, o + 5, kids.drop 1), 0⟩] else if k = 6 ∨ k = 8 then argP kids b o else []
def methF (k : Int) : Nat := if k = 1 then 75 else if k = 6 then 76 else if k = 7 then 77 else if k = 8 then 78 else 79
theorem node_kind {k n v c : Int} {len : Nat} (h : nodeB k n v c len = true) : k = 1 ∨ k = 2 ∨ k = 3 ∨ k = 4 ∨ k = 5 ∨ k = 6 ∨ k = 7 ∨ k = 8 := by
  by_cases h1 : k = 1; · exact .inl h1
  by_cases h2 : k = 2; · exact .inr (.inl h2)
  by_cases h3 : k = 3; · exact .inr (.inr (.inl h3))
  by_cases h4 : k = 4; · exact .inr (.inr (.inr (.inl h4)))
  by_cases h5 : k = 5; · exact .inr (.inr (.inr (.inr (.inl h5))))
  by_cases h6 : k = 6; · exact .inr (.inr (.inr (.inr (.inr (.inl h6)))))
  by_cases h7 : k = 7; · exact .inr (.inr (.inr (.inr (.inr (.inr (.inl h7))))))
  by_cases h8 : k = 8; · exact .inr (.inr (.inr (.inr (.inr (.inr (.inr h8))))))
  simp [nodeB, h1, h2, h3, h4, h5, h6, h7, h8] at h
/-- A node of a type that may be, in memory below base. -/
structure NodeW (w0 : World) (base bn on : Nat) (k n v c : Int) (kids : Fo) (b' o' : Nat) : Prop where
  lt : bn < base
  ok : nodeB k n v c kids.len = true
  c0 : w0.cell? ⟨bn, on, none⟩ = some (.int .u8 k)
  c1 : w0.cell? ⟨bn, on + 1, none⟩ = some (.int .i64 n)
  c2 : w0.cell? ⟨bn, on + 2, none⟩ = some (.int .i64 v)
  c3 : w0.cell? ⟨bn, on + 3, none⟩ = some (.int .u8 c)
  c4 : ∃ A cap, w0.cell? ⟨bn, on + 4, none⟩ = some (.slice A kids.len cap) ∧ kids.len ≤ cap ∧ (0 < kids.len → A = some ⟨b', o', none⟩)
set_option maxRecDepth 100000 in
theorem meth_any {w0 : World} {base : Nat} {nm : List (List UInt8)} {N : Option Addr} {nn nc : Nat} (E : Env w0 base nm N nn) {b : Nat} {bs : List UInt8} {S : List Prt} {bn on b' o' : Nat} {k n v c : Int} {kids : Fo} (X : NodeW w0 base bn on k n v c kids b' o') (w : World) (hbel : Below base w0 w) (hW : WrAt w base b bs (.slice N nn nc) S)
    (hS : S.length ≤ 90000000) (hlen : bs.length + (bodyS nm k n).length ≤ 140737488355328) :
    Calls Tryd.prog (methF k) #[.pointer (some ⟨b, 0, none⟩), .pointer (some ⟨bn, on, none⟩)] w (WroteP base b (bs ++ bodyS nm k n) (.slice N nn nc) (bodyP k v c kids b' o' ++ S) w) := by
  obtain ⟨lt, ok, c0, c1, c2, c3, A, cap, c4, hcap, hA⟩ := X
  have d0 := (hbel.cell (p := ⟨bn, on, none⟩) lt).trans c0
  have d1 := (hbel.cell (p := ⟨bn, on + 1, none⟩) lt).trans c1
  have d2 := (hbel.cell (p := ⟨bn, on + 2, none⟩) lt).trans c2
  have d3 := (hbel.cell (p := ⟨bn, on + 3, none⟩) lt).trans c3
  have d4 := (hbel.cell (p := ⟨bn, on + 4, none⟩) lt).trans c4
  rcases node_kind ok with rfl | rfl | rfl | rfl | rfl | rfl | rfl | rfl
  · simp [nodeB] at ok
    exact var_any E b bs S w hbel hW bn on n lt c1 (by omega) (by omega) hlen
  · exact word_any w hW bn on 2 d0 (by omega) hlen
  · exact word_any w hW bn on 3 d0 (by omega) hlen
  · exact word_any w hW bn on 4 d0 (by omega) hlen
  · exact word_any w hW bn on 5 d0 (by omega) hlen
  · simp [nodeB] at ok
    exact arr_any bn on A kids.len cap b' o' kids w hW lt d4 rfl hcap hA (by omega) hlen
  · simp [nodeB] at ok
    obtain ⟨_, hl2, hib⟩ := ok
    rw [hl2] at d4 hcap hA
    show Calls _ 77 _ _ (WroteP base b (bs ++ []) _ _ _)
    rw [List.append_nil]
    exact fun_any (S := S) E bn on v c A cap b' o' kids (kids.drop 1) w hbel hW lt d2 d3 d4 hcap (hA (by omega)) hib (by omega)
  · simp [nodeB] at ok
    obtain ⟨i, rfl⟩ : ∃ i : Nat, n = (i : Int) := ⟨n.toNat, by omega⟩
    exact data_any E bn on i A kids.len cap b' o' kids w hbel hW lt d1 d4 (by omega) rfl hcap hA (by omega) hlen
set_option maxRecDepth 100000 in
theorem writing_any (b : Nat) (k : Int) (w : World) (hk : k = 1 ∨ k = 2 ∨ k = 3 ∨ k = 4 ∨ k = 5 ∨ k = 6 ∨ k = 7 ∨ k = 8) :
    Calls Tryd.prog 62 #[.pointer (some ⟨b, 0, none⟩), .int .u8 k] w fun e w' => e = .returned (.func (.func (methF k)) #[.pointer (some ⟨b, 0, none⟩)] #[]) ∧ w' = w := by
  rcases hk with rfl | rfl | rfl | rfl | rfl | rfl | rfl | rfl
  all_goals
    go_enter Tryd.func62, Tryd.ntmps62
    go_wp2_with fail
    go_ret
    exact ⟨rfl, rfl⟩
theorem enters_meth (k : Int) (hk : k = 1 ∨ k = 2 ∨ k = 3 ∨ k = 4 ∨ k = 5 ∨ k = 6 ∨ k = 7 ∨ k = 8) : ∀ args w, (callFunc (methF k) args).run Tryd.prog w = .ok (.enter (methF k) args) w := by
  rcases hk with rfl | rfl | rfl | rfl | rfl | rfl | rfl | rfl
  · exact enters_of Tryd.func75 (by kernel_rfl) rfl
  · exact enters_of Tryd.func79 (by kernel_rfl) rfl
  · exact enters_of Tryd.func79 (by kernel_rfl) rfl
  · exact enters_of Tryd.func79 (by kernel_rfl) rfl
  · exact enters_of Tryd.func79 (by kernel_rfl) rfl
  · exact enters_of Tryd.func76 (by kernel_rfl) rfl
  · exact enters_of Tryd.func77 (by kernel_rfl) rfl
  · exact enters_of Tryd.func78 (by kernel_rfl) rfl
def putS (nm : List (List UInt8)) (pl k n : Int) (len : Nat) : List UInt8 := if brkB pl k len = true then 40 :: bodyS nm k n else bodyS nm k n
def putPp (pl k v c : Int) (kids : Fo) (b o : Nat) : List Prt := bodyP k v c kids b o ++ if brkB pl k kids.len = true then [⟨[41], none, 0⟩] else []
set_option maxRecDepth 100000 in
set_option maxHeartbeats 2000000 in
theorem tput_any {w0 : World} {base : Nat} {nm : List (List UInt8)} {N : Option Addr} {nn nc : Nat} (E : Env w0 base nm N nn) {b : Nat} {bs : List UInt8} {S : List Prt} {bn on b' o' : Nat} {k n v c pl : Int} {kids : Fo} (X : NodeW w0 base bn on k n v c kids b' o') (hp : pl = 0 ∨ pl = 1 ∨ pl = 2) (w : World) (hbel : Below base w0 w) (hW : WrAt w base b bs (.slice N nn nc) S)
    (hS : S.length + 1 ≤ 90000000) (hlen : bs.length + (putS nm pl k n kids.len).length ≤ 140737488355328) :
    Calls Tryd.prog 44 #[.pointer (some ⟨b, 0, none⟩), .pointer (some ⟨bn, on, none⟩), .int .i64 pl] w (WroteP base b (bs ++ putS nm pl k n kids.len) (.slice N nn nc) (putPp pl k v c kids b' o' ++ S) w) := by
  obtain ⟨A, cap, c4, _, _⟩ := X.c4
  have HBk : Hid (Calls Tryd.prog 61 #[.pointer (some ⟨bn, on, none⟩), .int .i64 pl] w fun e w' => e = .returned (.bool (brkB pl k kids.len)) ∧ w' = w) := Lib.hid (brk_any bn on k pl A kids.len cap w ((hbel.cell (p := ⟨bn, on, none⟩) X.lt).trans X.c0) ((hbel.cell (p := ⟨bn, on + 4, none⟩) X.lt).trans c4) hp)
  have hkd := node_kind X.ok
  have HWt : Hid (∀ W, Calls Tryd.prog 62 #[.pointer (some ⟨b, 0, none⟩), .int .u8 k] W fun e w' => e = .returned (.func (.func (methF k)) #[.pointer (some ⟨b, 0, none⟩)] #[]) ∧ w' = W) := Lib.hid fun W => writing_any b k W hkd
  have HEn := enters_meth k hkd
  have HM : Hid (∀ W bs' S', Below base w W → WrAt W base b bs' (.slice N nn nc) S' → S'.length ≤ 90000000 → bs'.length + (bodyS nm k n).length ≤ 140737488355328 → Calls Tryd.prog (methF k) #[.pointer (some ⟨b, 0, none⟩), .pointer (some ⟨bn, on, none⟩)] W (WroteP base b (bs' ++ bodyS nm k n) (.slice N nn nc) (bodyP k v c kids b' o' ++ S') W)) := Lib.hid fun W bs' S' hw hW' hS' hl' => meth_any E X W (hbel.trans hw) hW' hS' hl'
  have HC0 : Hid (∀ W, Below base w W → W.cell? ⟨bn, on, none⟩ = some (.int .u8 k)) := Lib.hid fun W hw => ((hbel.trans hw).cell (p := ⟨bn, on, none⟩) X.lt).trans X.c0
  have HW := Lib.hid hW
  obtain ⟨r, hr⟩ : ∃ r, r = brkB pl k kids.len := ⟨_, rfl⟩
  have HP : Hid (putPp pl k v c kids b' o' = bodyP k v c kids b' o' ++ if r = true then [⟨[41], none, 0⟩] else []) := Lib.hid (by unfold putPp; rw [hr])
  have HS : Hid (putS nm pl k n kids.len = if r = true then 40 :: bodyS nm k n else bodyS nm k n) := Lib.hid (by unfold putS; rw [hr])
  rw [HS.out] at hlen
  rw [← hr] at HBk
  obtain ⟨ps, hps⟩ : ∃ ps, ps = putS nm pl k n kids.len := ⟨_, rfl⟩
  obtain ⟨pp, hpp⟩ : ∃ pp, pp = putPp pl k v c kids b' o' := ⟨_, rfl⟩
  rw [← hps] at HS ⊢
  rw [← hpp] at HP ⊢
  obtain ⟨m, hm⟩ : ∃ m, m = methF k := ⟨_, rfl⟩
  rw [← hm] at HWt HEn HM
  obtain ⟨bo, hbo⟩ : ∃ bo, bo = bodyS nm k n := ⟨_, rfl⟩
  rw [← hbo] at HM HS hlen
  obtain ⟨bp, hbp⟩ : ∃ bp, bp = bodyP k v c kids b' o' := ⟨_, rfl⟩
  rw [← hbp] at HM HP
  clear hr hps hpp hm hbo hbp hbel hW X c4 E hp hkd
  cases r
  · simp only [Bool.false_eq_true, if_false, List.append_nil] at HS HP hlen
    have d0 := HC0.out w (Below.refl _ _)
    have HC := Lib.hid (HM.out w bs S (Below.refl _ _) HW.out (by omega) hlen)
    go_enter Tryd.func44, Tryd.ntmps44
    go_wp2_with fail
    refine HBk.out.mono ?_
    rintro e w2 ⟨rfl, rfl⟩
    go_wp2_with fail
    refine (HWt.out _).mono ?_
    rintro e w3 ⟨rfl, rfl⟩
    go_wp2_with fail
    refine HC.out.mono ?_
    rintro e w7 ⟨rfl, h7, b7⟩
    have H7 := Lib.hid h7
    have B7 := Lib.hid b7
    clear h7 b7
    go_wp2_with fail
    go_end0
    exact ⟨rfl, by rw [HS.out, HP.out]; exact H7.out, B7.out⟩
  · simp only [if_true] at HS HP hlen
    have HC1 : Hid (Calls Tryd.prog 43 #[.pointer (some ⟨b, 0, none⟩), .string ⟨#[40]⟩] w fun e w' => e = .returned (.tuple #[.int .i64 1, .nilIface]) ∧ WrAt w' base b (bs ++ [40]) (.slice N nn nc) S ∧ Below base w w') := Lib.hid (wstr_any [40] HW.out (by simp at hlen ⊢; omega))
    have HC2 : Hid (∀ W, WrAt W base b (bs ++ [40]) (.slice N nn nc) S → Calls Tryd.prog 42 #[.pointer (some ⟨b, 0, none⟩), .agg #[.string ⟨#[41]⟩, .pointer none, .int .i64 0]] W fun e w' => e = .returned (.tuple #[]) ∧ WrAt w' base b (bs ++ [40]) (.slice N nn nc) (⟨[41], none, 0⟩ :: S) ∧ Below base W w') := Lib.hid fun W h => later_any base b (bs ++ [40]) (.slice N nn nc) S ⟨[41], none, 0⟩ W h (by omega)
    have hl2 : (bs ++ [40]).length + bo.length ≤ 140737488355328 := by simp at hlen ⊢; omega
    have hl3 : ((⟨[41], none, 0⟩ : Prt) :: S).length ≤ 90000000 := by simpa using hS
    have HL2 := Lib.hid hl2
    have HL3 := Lib.hid hl3
    clear hl2 hl3
    go_enter Tryd.func44, Tryd.ntmps44
    go_wp2_with fail
    refine HBk.out.mono ?_
    rintro e w2 ⟨rfl, rfl⟩
    go_wp2_with fail
    refine HC1.out.mono ?_
    rintro e w3 ⟨rfl, h3, b3⟩
    have HC2' := Lib.hid (HC2.out _ h3)
    have B3 := Lib.hid b3
    clear h3 b3
    go_wp2_with fail
    refine HC2'.out.mono ?_
    rintro e w4 ⟨rfl, h4, b4⟩
    have H4 := Lib.hid h4
    have b5 := B3.out.trans b4
    have d0 := HC0.out w4 b5
    have HC := Lib.hid (HM.out w4 _ _ b5 H4.out HL3.out HL2.out)
    have B5 := Lib.hid b5
    clear h4 b4 b5
    go_wp2_with fail
    refine (HWt.out _).mono ?_
    rintro e w6 ⟨rfl, rfl⟩
    go_wp2_with fail
    refine HC.out.mono ?_
    rintro e w7 ⟨rfl, h7, b7⟩
    have H7 := Lib.hid h7
    have B7 := Lib.hid (B5.out.trans b7)
    clear h7 b7
    go_wp2_with fail
    go_end0
    exact ⟨rfl, by rw [HS.out, HP.out]; have h := H7.out; simpa using h, B7.out⟩
end Go.Proofs.YtblgligagngpfaaDoor.Mu
namespace Go.Proofs.YtblgligagngpfaaDoor.Mu
open Go.ChangeShapes Go.WideShapes Go.ChangeAt Go.RowKit Go.Shelf

attribute [local go_sem] Oper.semAt_some
set_option linter.unusedVariables false

/-- What is left to be written may be written. -/
def PrtOk (w0 : World) (base : Nat) (p : Prt) : Prop := (p.pl = 0 ∨ p.pl = 1 ∨ p.pl = 2) ∧ ∀ b o f, p.t = some (b, o, f) → b < base ∧ FoAt w0 (fun j => j < base) f b o ∧ f.well = true ∧ f ≠ .nil
theorem restT_append (nm : List (List UInt8)) (P S : List Prt) : restT nm (P ++ S) = restT nm P ++ restT nm S := by simp [restT]
theorem restN_append (P S : List Prt) : restN (P ++ S) = restN P + restN S := by simp [restN]
theorem restN_len : ∀ S : List Prt, S.length ≤ restN S
  | [] => Nat.le_refl _
  | p :: S => by
    have := restN_len S
    simp only [restN, List.map_cons, List.sum_cons, List.length_cons] at this ⊢
    omega
theorem argP_text (nm : List (List UInt8)) : ∀ (f : Fo) (b o : Nat), restT nm (argP f b o) = argsT (f.txt nm 2)
  | .nil, _, _ => rfl
  | .cons k n v c kids rest, b, o => by
    have h := argP_text nm rest b (o + 5)
    simp only [restT, argsT] at h
    simp only [argP, restT, List.flatMap_cons, h, Fo.txt, argsT, Prt.text, Fo.one, plN, List.cons_append, List.nil_append]
    simp
theorem argP_size : ∀ (f : Fo) (b o : Nat), restN (argP f b o) = f.len + 6 * f.size
  | .nil, _, _ => rfl
  | .cons k n v c kids rest, b, o => by
    have h := argP_size rest b (o + 5)
    simp only [restN] at h
    have e : Prt.size ⟨[32], some (b, o, .cons k n v c kids rest), 2⟩ = 1 + kids.size := rfl
    simp only [argP, restN, List.map_cons, List.sum_cons, Fo.size, Fo.len, e, h]
    omega
theorem argP_ok (w0 : World) (base : Nat) : ∀ (f : Fo) (b o : Nat), b < base → FoAt w0 (fun j => j < base) f b o → f.well = true → ∀ p ∈ argP f b o, PrtOk w0 base p
  | .nil, _, _, _, _, _ => by simp [argP]
  | .cons k n v c kids rest, b, o, hb, hf, hw => by
    have hf' := hf
    obtain ⟨A, cap, a1, a2, a3, a4, a5, a6, a7, a8⟩ := hf'
    have hw' := hw
    simp only [Fo.well, Bool.and_eq_true] at hw'
    have h := argP_ok w0 base rest b (o + 5) hb a8 hw'.2.2
    intro p hp
    simp only [argP, List.mem_cons] at hp
    rcases hp with rfl | hp
    · refine ⟨.inr (.inr rfl), fun b1 o1 f1 e => ?_⟩
      simp only [Option.some.injEq, Prod.mk.injEq] at e
      obtain ⟨rfl, rfl, rfl⟩ := e
      exact ⟨hb, hf, hw, by simp⟩
    · exact h p hp
theorem two_kids {kids : Fo} (h : kids.len = 2) : ∃ k1 n1 v1 c1 f1 k2 n2 v2 c2 f2, kids = .cons k1 n1 v1 c1 f1 (.cons k2 n2 v2 c2 f2 .nil) := by
  match kids, h with
  | .cons k1 n1 v1 c1 f1 (.cons k2 n2 v2 c2 f2 .nil), _ => exact ⟨_, _, _, _, _, _, _, _, _, _, rfl⟩
  | .cons _ _ _ _ _ .nil, h => simp [Fo.len] at h
  | .cons _ _ _ _ _ (.cons _ _ _ _ _ (.cons _ _ _ _ _ _)), h => simp [Fo.len] at h
  | .nil, h => simp [Fo.len] at h
/-- What is written at once, and what is left, are the type's text. -/
theorem put_text (nm : List (List UInt8)) (pl k n v c : Int) (kids rest : Fo) (b o : Nat) (ok : nodeB k n v c kids.len = true) :
    putS nm pl k n kids.len ++ restT nm (putPp pl k v c kids b o) = Fo.one nm (.cons k n v c kids rest) pl := by
  have hb : bodyS nm k n ++ restT nm (bodyP k v c kids b o) = bodyT nm k n v c (Fo.txt nm kids (plK k)) := by
    rcases node_kind ok with rfl | rfl | rfl | rfl | rfl | rfl | rfl | rfl
    · simp [bodyS, bodyP, bodyT, restT]
    · simp [bodyS, bodyP, bodyT, restT]
    · simp [bodyS, bodyP, bodyT, restT]
    · simp [bodyS, bodyP, bodyT, restT]
    · simp [bodyS, bodyP, bodyT, restT]
    · simp [bodyS, bodyP, bodyT, plK, argP_text]
    · simp [nodeB] at ok
      obtain ⟨k1, n1, v1, c1, f1, k2, n2, v2, c2, f2, rfl⟩ := two_kids ok.2.1
      simp [bodyS, bodyP, bodyT, plK, restT, Prt.text, Fo.one, Fo.drop, Fo.txt, funT, plN]
    · simp [bodyS, bodyP, bodyT, plK, argP_text]
  unfold putS putPp
  simp only [Fo.one, brkT]
  cases brkB pl k kids.len
  · simpa using hb
  · simp only [if_true, restT_append]
    rw [← hb]
    simp [restT, Prt.text]
theorem put_size (pl k v c n : Int) (kids : Fo) (b o : Nat) (ok : nodeB k n v c kids.len = true) : restN (putPp pl k v c kids b o) ≤ 5 + 6 * kids.size := by
  have hb : restN (bodyP k v c kids b o) ≤ 4 + 6 * kids.size := by
    have ha := argP_size kids b o
    unfold bodyP
    split
    · rename_i h7
      subst h7
      simp [nodeB] at ok
      obtain ⟨k1, n1, v1, c1, f1, k2, n2, v2, c2, f2, rfl⟩ := two_kids ok.2.1
      simp [restN, Prt.size, Fo.drop, Fo.size]
      omega
    · split
      · rename_i h68
        have : kids.len ≤ 4 := by
          rcases h68 with rfl | rfl
          · simp [nodeB] at ok
            omega
          · simp [nodeB] at ok
            omega
        omega
      · simp [restN]
  unfold putPp
  rw [restN_append]
  split
  · have : restN [(⟨[41], none, 0⟩ : Prt)] = 1 := by simp [restN, Prt.size]
    omega
  · have : restN ([] : List Prt) = 0 := by simp [restN]
    omega
theorem put_ok (w0 : World) (base : Nat) (pl k v c n : Int) (kids : Fo) (b o : Nat) (ok : nodeB k n v c kids.len = true) (hb : 0 < kids.len → b < base ∧ FoAt w0 (fun j => j < base) kids b o) (hw : kids.well = true) : ∀ p ∈ putPp pl k v c kids b o, PrtOk w0 base p := by
  intro p hp
  unfold putPp at hp
  simp only [List.mem_append] at hp
  rcases hp with hp | hp
  · unfold bodyP at hp
    split at hp
    · rename_i h7
      subst h7
      simp [nodeB] at ok
      obtain ⟨hb1, hb2⟩ := hb (by omega)
      obtain ⟨k1, n1, v1, c1, f1, k2, n2, v2, c2, f2, rfl⟩ := two_kids ok.2.1
      have hw' := hw
      simp only [Fo.well, Bool.and_eq_true] at hw'
      have hb2' := hb2
      obtain ⟨A, cap, a1, a2, a3, a4, a5, a6, a7, a8⟩ := hb2'
      simp only [List.mem_cons, List.not_mem_nil, or_false] at hp
      rcases hp with rfl | rfl
      · refine ⟨.inr (.inl rfl), fun b1 o1 g1 e => ?_⟩
        simp only [Option.some.injEq, Prod.mk.injEq] at e
        obtain ⟨rfl, rfl, rfl⟩ := e
        exact ⟨hb1, hb2, hw, by simp⟩
      · refine ⟨.inl rfl, fun b1 o1 g1 e => ?_⟩
        simp only [Option.some.injEq, Prod.mk.injEq, Fo.drop] at e
        obtain ⟨rfl, rfl, rfl⟩ := e
        exact ⟨hb1, a8, by simp only [Fo.well, Bool.and_eq_true]; exact hw'.2.2, by simp⟩
    · split at hp
      · by_cases h0 : 0 < kids.len
        · exact argP_ok w0 base kids b o (hb h0).1 (hb h0).2 hw p hp
        · obtain rfl := Fo.len_zero (f := kids) (by omega)
          simp [argP] at hp
      · simp at hp
  · split at hp
    · simp only [List.mem_singleton] at hp
      subst hp
      exact ⟨.inl rfl, fun _ _ _ e => by cases e⟩
    · simp at hp
theorem WrAt.parts {w : World} {base b : Nat} {bs : List UInt8} {nm : Value} {S : List Prt} (h : WrAt w base b bs nm S) : ∃ A cap, w.cell? ⟨b, 3, none⟩ = some (.slice A S.length cap) ∧ w.frozen? ⟨b, 3, none⟩ = false ∧ S.length ≤ cap ∧ b < w.heap.size ∧ (0 < S.length → ∃ g, A = some ⟨g, 0, none⟩ ∧ base ≤ g ∧ g ≠ b ∧ g < w.heap.size ∧ ∀ (x : Prt) (R : List Prt), S = x :: R → (∀ j u, x.cells[j]? = some u → w.cell? ⟨g, R.length * 3 + j, none⟩ = some u)) := by
  obtain ⟨hB, p, v, u, hp, hbk, h1, h2⟩ := h
  obtain ⟨c0, c1, c2, c3, fz, sh, hlt⟩ := cellsW hbk
  rcases h2.2 with ⟨hv, h0⟩ | ⟨g, cap, cur, hv, hg0, hg, hnc, hm, hcs, ht⟩
  · exact ⟨none, 0, by rw [c3, hv, h0], fz 3, by omega, hlt, fun h => by omega⟩
  · refine ⟨some ⟨g, 0, none⟩, cap, by rw [c3, hv], fz 3, hnc, hlt, fun h => ⟨g, rfl, hg0, fun e => row_ne h2 hbk (by decide) (by rw [hv, e]; rfl), (Array.getElem?_eq_some_iff.1 hg).1, fun x R e j u hu => ?_⟩⟩
    subst hv e
    have h5 := h2.cells (g := g) rfl (R.length * 3 + j) u (by rw [flatP_cons, List.getElem?_append_right (by rw [flatP_len]; omega), flatP_len, Nat.add_sub_cancel_left]; exact hu)
    rwa [Addr.add_lit, Nat.zero_add] at h5
/-- One part less is left. -/
theorem WrAt.pop {w : World} {base b g cap : Nat} {bs : List UInt8} {nm : Value} {x : Prt} {S : List Prt} (h : WrAt w base b bs nm (x :: S)) (hc : w.cell? ⟨b, 3, none⟩ = some (.slice (some ⟨g, 0, none⟩) (S.length + 1) cap)) : WrAt (w.setCell ⟨b, 3, none⟩ (.slice (some ⟨g, 0, none⟩) S.length cap)) base b bs nm S := by
  obtain ⟨hB, p, v, u, hp, hbk, h1, h2⟩ := h
  obtain ⟨c0, c1, c2, c3, fz, sh, hlt⟩ := cellsW hbk
  rw [c3] at hc
  cases hc
  have h2' : w.ownsRow base 86 3 (.slice (some ⟨g, 0, none⟩) S.length cap) S.length (flatP S) := by
    obtain ⟨hl, hr⟩ := h2
    rcases hr with ⟨_, h0⟩ | ⟨g', cap', cur, hv, hg0, hg, hnc, hm, hcs, ht⟩
    · simp at h0
    · cases hv
      refine ⟨flatP_len S, .inr ⟨g, cap, cur, rfl, hg0, hg, by simp only [List.length_cons] at hnc; omega, hm, hcs, ?_⟩⟩
      have h4 := congrArg (List.take (S.length * 3)) ht
      rw [List.take_take, flatP_cons, List.take_append_of_le_length (by rw [flatP_len]; exact Nat.le_refl _), List.take_of_length_le (l := flatP S) (by rw [flatP_len]; exact Nat.le_refl _)] at h4
      rw [← h4]
      congr 1
      simp only [List.length_cons]
      omega
  exact ⟨hB, p, v, _, hp, setW3 hbk, setW_row h1 (row_ne h1 hbk (by decide)), setW_row h2' (row_ne h2' hbk (by decide))⟩
set_option maxRecDepth 100000 in
set_option maxHeartbeats 4000000 in
theorem ttext_any (k n v c : Int) (A : Option Addr) (len cap : Nat) (kids : Fo) (nm : List (List UInt8)) (N : Option Addr) (nn nc : Nat) (w : World) (h : KidsAt w (Old w) A len cap kids) (hwell : (Fo.cons k n v c kids .nil).well = true) (hsz : kids.size ≤ 1400000) (hT : Tabs w) (hnm : RNm w w.heap.size N nn nm) (hnn : nn ≤ 9223372036854775807)
    (hlen : (Fo.one nm (.cons k n v c kids .nil) 0).length ≤ 140737488355328) :
    Calls Tryd.prog 18 #[.agg #[.int .u8 k, .int .i64 n, .int .i64 v, .int .u8 c, .slice A len cap], .slice N nn nc] w fun e w' => e = .returned (.string ⟨(Fo.one nm (.cons k n v c kids .nil) 0).toArray⟩) ∧ Bel w w' := by
  obtain ⟨w1, hw1⟩ : ∃ w1, w1 = w.alloc (.cells #[.int .u8 k, .int .i64 n, .int .i64 v, .int .u8 c, .slice A len cap] 27) := ⟨_, rfl⟩
  have hb1 : Bel w w1 := by rw [hw1]; exact (Bel.refl w).alloc _
  have hs1 : w1.heap.size = w.heap.size + 1 := by rw [hw1]; simp
  have q1 : w1.heap[w.heap.size]? = some (.cells #[.int .u8 k, .int .i64 n, .int .i64 v, .int .u8 c, .slice A len cap] 27 (0, 0)) := by rw [hw1]; exact blk1 w _
  have hk1 : KidsAt w1 (fun j => j < w1.heap.size) A len cap kids := (h.keep fun _ hj => hb1.block _ hj).wide fun j hj => by have : j < w.heap.size := hj; omega
  have hf1 : FoAt w1 (fun j => j < w1.heap.size) (.cons k n v c kids .nil) w.heap.size 0 := box_fo q1 hk1
  have E : Env w1 w1.heap.size nm N nn := ⟨fun W hW => (hT.bel hb1).bel (Below.toBel hW (Nat.le_refl _)), ⟨hnm.1, fun h0 => by
    obtain ⟨b, off, e, hb, hc⟩ := hnm.2 h0
    exact ⟨b, off, e, by omega, fun j s hs => (hb1.cell (p := ⟨b, off + j, none⟩) hb).trans (hc j s hs)⟩⟩, hnn⟩
  obtain ⟨fin, hfin⟩ : ∃ fin, fin = Fo.one nm (.cons k n v c kids .nil) 0 := ⟨_, rfl⟩
  rw [← hfin] at hlen ⊢
  have HP0 : Hid (PrtOk w1 (w.heap.size + 1) ⟨[], some (w.heap.size, 0, .cons k n v c kids .nil), 0⟩) := Lib.hid ⟨.inl rfl, fun b o f e => by
    simp only [Option.some.injEq, Prod.mk.injEq] at e
    obtain ⟨rfl, rfl, rfl⟩ := e
    exact ⟨by omega, by rw [← hs1]; exact hf1, hwell, by simp⟩⟩
  have HT0 : Hid (restT nm [⟨[], some (w.heap.size, 0, .cons k n v c kids .nil), 0⟩] = fin) := Lib.hid (by rw [hfin]; simp [restT, Prt.text])
  have HN0 : Hid (restN [⟨[], some (w.heap.size, 0, .cons k n v c kids .nil), 0⟩] ≤ 9000000) := Lib.hid (by simp [restN, Prt.size]; omega)
  rw [hs1] at E
  have HE := Lib.hid E
  have HB1 := Lib.hid hb1
  have HS1 := Lib.hid hs1
  have HLEN := Lib.hid hlen
  have HW1 := Lib.hid hw1
  clear h hwell hsz hT hnm hnn hlen hfin E hb1 hk1 hf1 q1
  go_enter Tryd.func18, Tryd.ntmps18
  go_wp2_with fail
  rw [← HW1.out]
  have hs1' := HS1.out
  have hX0 : WrAt (w1.alloc (.cells #[.pointer none, .slice none 0 0, .slice N nn nc, .slice none 0 0] 82)) (w.heap.size + 1) (w.heap.size + 1) [] (.slice N nn nc) [] := ⟨Nat.le_refl _, _, _, _, .inl rfl, (by rw [← hs1']; exact blk1 w1 _), World.ownsRow_nil _ _ _ _, World.ownsRow_nil _ _ _ _⟩
  obtain ⟨x0, hx0⟩ : ∃ x0 : Prt, x0 = ⟨[], some (w.heap.size, 0, .cons k n v c kids .nil), 0⟩ := ⟨_, rfl⟩
  have hL0 : ∀ W, WrAt W (w.heap.size + 1) (w.heap.size + 1) [] (.slice N nn nc) [] → Calls Tryd.prog 42 #[.pointer (some ⟨(w.heap.size + 1), 0, none⟩), .agg #[.string ⟨#[]⟩, .pointer (some ⟨w.heap.size, 0, none⟩), .int .i64 0]] W fun e w' => e = .returned (.tuple #[]) ∧ WrAt w' (w.heap.size + 1) (w.heap.size + 1) [] (.slice N nn nc) [x0] ∧ Below (w.heap.size + 1) W w' := fun W hW => by
    have h := later_any (w.heap.size + 1) (w.heap.size + 1) [] (.slice N nn nc) [] x0 W hW (by simp)
    rw [hx0] at h
    rw [hx0]
    exact h
  rw [← hx0] at HP0 HT0 HN0
  have HX0' := Lib.hid hX0
  clear hx0 hX0
  refine (hL0 _ HX0'.out).mono ?_
  rintro e w2 ⟨rfl, h2, b2⟩
  have H2 := Lib.hid h2
  have B2 := Lib.hid (((Below.refl (w.heap.size + 1) w1).alloc (by omega) _).trans b2)
  clear h2 b2 hL0
  go_wp2_with fail
  go_loopg [] 9000001 (fun gk wr => ∃ (bs : List UInt8) (S : List Prt), Hid (restN S < gk) ∧ Hid (gk ≤ 9000001) ∧ Hid (WrAt wr (w.heap.size + 1) (w.heap.size + 1) bs (.slice N nn nc) S) ∧ Hid (Below (w.heap.size + 1) w1 wr) ∧ Hid (bs ++ restT nm S = fin) ∧ Hid (∀ p ∈ S, PrtOk w1 (w.heap.size + 1) p))
  case atStart => exact ⟨_, _, Lib.hid (Nat.lt_succ_of_le HN0.out), Lib.hid (Nat.le_refl _), H2, B2, Lib.hid (by rw [List.nil_append]; exact HT0.out), Lib.hid (fun p hp => by simp only [List.mem_singleton] at hp; rw [hp]; exact HP0.out)⟩
  case round =>
    obtain ⟨bs, S, HN, HG, HW, HB, HT, HP⟩ := hrel
    obtain ⟨A3, cap3, c3, f3, hcap3, hlt3, hg3⟩ := HW.out.parts
    cases S with
    | nil =>
      have HC : Hid (Calls Tryd.prog 45 #[.pointer (some ⟨w.heap.size + 1, 0, none⟩)] wr fun e w' => e = .returned (.string ⟨fin.toArray⟩) ∧ Below (w.heap.size + 1) wr w') := Lib.hid (by
        have e : bs = fin := by have h := HT.out; simpa [restT] using h
        rw [← e]
        exact str_any _ _ bs _ _ wr HW.out)
      simp only [List.length_nil] at c3
      go_wp2_with fail
      refine HC.out.mono ?_
      rintro e w5 ⟨rfl, b5⟩
      have B5 := Lib.hid (HB.out.trans b5)
      clear b5
      go_wp2_with fail
      go_ret
      exact ⟨rfl, HB1.out.on (Below.toBel B5.out (by have := HS1.out; omega))⟩
    | cons x S =>
      obtain ⟨g, rfl, hg0, hgb, hgl, hgc⟩ := hg3 (by simp)
      have hx := hgc x S rfl
      have HPX := Lib.hid (HP.out x (by simp))
      have HPS : Hid (∀ p ∈ S, PrtOk w1 (w.heap.size + 1) p) := Lib.hid fun p hp => HP.out p (by simp [hp])
      have HTX : Hid (bs ++ x.text nm ++ restT nm S = fin) := Lib.hid (by have h := HT.out; simpa [restT, List.append_assoc] using h)
      have HNX : Hid (1 + 6 * x.size + restN S < gk) := Lib.hid (by have h := HN.out; simpa [restN] using h)
      simp only [List.length_cons] at c3 hcap3
      obtain ⟨m, hm⟩ : ∃ m, m = S.length := ⟨_, rfl⟩
      have HMS := Lib.hid hm
      rw [← hm] at c3 hcap3 hx
      have hp0 := hx 0 _ rfl
      have hp1 := hx 1 _ rfl
      have hp2 := hx 2 _ rfl
      simp only [Nat.add_zero] at hp0
      have HPOP : Hid (∀ W, Bel wr W → WrAt (W.setCell ⟨w.heap.size + 1, 3, none⟩ (.slice (some ⟨g, 0, none⟩) m cap3)) (w.heap.size + 1) (w.heap.size + 1) bs (.slice N nn nc) S) := Lib.hid fun W hW => by
        rw [hm]
        exact (HW.out.bel hW).pop (by rw [← hm]; exact (hW.cell (p := ⟨w.heap.size + 1, 3, none⟩) hlt3).trans c3)
      obtain ⟨xs, xt, xp⟩ := x
      obtain ⟨q, hq⟩ : ∃ q : Option Addr, q = xt.map fun x => ⟨x.1, x.2.1, none⟩ := ⟨_, rfl⟩
      replace hp1 : wr.cell? ⟨g, m * 3 + 1, none⟩ = some (.pointer q) := by rw [hq]; exact hp1
      have HQ := Lib.hid hq
      have hm63 : m + 1 ≤ 9223372036854775807 := by have h1 := HNX.out; have h2 := HG.out; have h3 := restN_len S; have h4 := HMS.out; omega
      have HM6 : Hid (m + 10 ≤ 90000000) := Lib.hid (by have h1 := HNX.out; have h2 := HG.out; have h3 := restN_len S; have h4 := HMS.out; omega)
      have i0 : (0 : Int) ≤ (m : Int) := by omega
      have i1 : (m : Int) < (m : Int) + 1 := by omega
      have i4 : (m : Int) ≤ (cap3 : Int) := by omega
      have HCAP := Lib.hid hcap3
      have HG0 := Lib.hid hg0
      have HGB := Lib.hid hgb
      clear hx hgc hg3 hm hq HN HT HP HW hcap3 hg0 hgb
      go_upto_region 4 with fail
      go_region
      have hb3 : Bel wr (wr.alloc (.cells #[.string ⟨xs.toArray⟩, .pointer q, .int .i64 xp] 86)).drew := ((Bel.refl wr).alloc _).drew
      have hq3 : (wr.alloc (.cells #[.string ⟨xs.toArray⟩, .pointer q, .int .i64 xp] 86)).drew.heap[wr.heap.size]? = some (.cells #[.string ⟨xs.toArray⟩, .pointer q, .int .i64 xp] 86 (0, 0)) := blk1 wr _
      have hz3 : (wr.alloc (.cells #[.string ⟨xs.toArray⟩, .pointer q, .int .i64 xp] 86)).drew.heap.size = wr.heap.size + 1 := by simp
      obtain ⟨w3, hw3⟩ : ∃ w3, w3 = (wr.alloc (.cells #[.string ⟨xs.toArray⟩, .pointer q, .int .i64 xp] 86)).drew := ⟨_, rfl⟩
      obtain ⟨sb, hsb⟩ : ∃ sb, sb = wr.heap.size := ⟨_, rfl⟩
      rw [← hw3] at hb3 hq3 hz3 ⊢
      rw [← hsb] at hq3 hz3 ⊢
      have c3' := (hb3.cell (p := ⟨w.heap.size + 1, 3, none⟩) hlt3).trans c3
      have f3' := (hb3.frozen (p := ⟨w.heap.size + 1, 3, none⟩) hlt3).trans f3
      have hwb : w.heap.size + 1 < w3.heap.size := by omega
      have HB3 := Lib.hid hb3
      have HQ3 := Lib.hid hq3
      have HZ3 := Lib.hid hz3
      have HSB : Hid (w.heap.size + 1 < sb ∧ sb = wr.heap.size) := Lib.hid ⟨by omega, hsb⟩
      clear hb3 hq3 hz3 hw3 hsb c3 f3 hp0 hp1 hp2 hlt3 hgl
      go_upto_region 5 with fail
      go_region
      have h4 := (HPOP.out _ HB3.out).bel (Bel.refl _).drew
      have b4 : Below (w.heap.size + 1) w1 (w3.setCell ⟨w.heap.size + 1, 3, none⟩ (.slice (some ⟨g, 0, none⟩) m cap3)).drew := Below.drew ((HB.out.trans (bel_below HB3.out (by have := HSB.out; omega))).setCell (p := ⟨w.heap.size + 1, 3, none⟩) (Nat.le_refl _) _)
      have q4 : (w3.setCell ⟨w.heap.size + 1, 3, none⟩ (.slice (some ⟨g, 0, none⟩) m cap3)).drew.heap[sb]? = some (.cells #[.string ⟨xs.toArray⟩, .pointer q, .int .i64 xp] 86 (0, 0)) := (heap_setCell_other w3 _ sb _ (fun e => by have := HSB.out; have e' : sb = w.heap.size + 1 := e; omega)).trans HQ3.out
      obtain ⟨w4, hw4⟩ : ∃ w4, w4 = (w3.setCell ⟨w.heap.size + 1, 3, none⟩ (.slice (some ⟨g, 0, none⟩) m cap3)).drew := ⟨_, rfl⟩
      rw [← hw4] at h4 b4 q4 ⊢
      obtain ⟨t0, t1, t2, _⟩ := cells3 q4
      have hsl : sb < w4.heap.size := (Array.getElem?_eq_some_iff.1 q4).1
      have k0 := cell_above hsl t0
      have HT4 : Hid (bs ++ xs ++ Prt.text nm ⟨[], xt, xp⟩ ++ restT nm S = fin) := Lib.hid (by have h := HTX.out; simpa [Prt.text, List.append_assoc] using h)
      have HWS : Hid (∀ W, Bel w4 W → Calls Tryd.prog 43 #[.pointer (some ⟨w.heap.size + 1, 0, none⟩), .string ⟨xs.toArray⟩] W fun e w' => e = .returned (.tuple #[.int .i64 xs.length, .nilIface]) ∧ WrAt w' (w.heap.size + 1) (w.heap.size + 1) (bs ++ xs) (.slice N nn nc) S ∧ Below (w.heap.size + 1) W w' ∧ Spared (w.heap.size + 1) W w') := Lib.hid fun W hW => wstr_anyK xs (h4.bel hW) (by have e := congrArg List.length HT4.out; simp only [List.length_append] at e; have := HLEN.out; omega)
      have HB4 := Lib.hid b4
      have HQ4 := Lib.hid q4
      have HH4 : Hid (w.heap.size + 1 < w4.heap.size ∧ w.heap.size + 1 ≠ sb) := Lib.hid ⟨h4.lt.2, by have := HSB.out; omega⟩
      clear h4 b4 q4 hw4 c3' f3' hwb t0 t1 t2
      go_upto_region 6 with fail
      refine wp_region_above_tail 5 (by kernel_rfl) (by kernel_rfl) ?_
      simp only [List.take_succ_cons, List.take_zero, List.drop_succ_cons, List.drop_zero]
      repeat (go_big_quiet_step (fail))
      refine wpQuiet_nil ?_
      rintro w5 ⟨⟨w5, hb5⟩, rfl⟩
      have HB5 := Lib.hid hb5
      clear hb5 k0
      go_wp2_with fail
      refine (HWS.out _ HB5.out).mono ?_
      rintro e w6 ⟨rfl, h6, b6, sp6⟩
      have b46 := (bel_below HB5.out (Nat.le_of_lt HH4.out.1)).trans b6
      have H6 := Lib.hid h6
      have B6 := Lib.hid (HB4.out.trans b46)
      have HS6 : Hid (w4.heap.size ≤ w6.heap.size) := Lib.hid b46.size
      have q6 : w6.heap[sb]? = some (.cells #[.string ⟨xs.toArray⟩, .pointer q, .int .i64 xp] 86 (0, 0)) := sp6 sb _ _ (fun e => HH4.out.2 e.symm) (by decide) (HB5.out.blk HQ4.out)
      obtain ⟨t0, t1, t2, _⟩ := cells3 q6
      clear h6 b6 b46 sp6 q6
      cases xt with
      | none =>
        have hq0 : q = none := HQ.out
        subst hq0
        go_wp2_with fail
        go_roundg (restN S + 1)
        case measure => have h1 := HNX.out; omega
        case rel => exact ⟨bs ++ xs, S, Lib.hid (Nat.lt_succ_self _), Lib.hid (by have h1 := HNX.out; have h2 := HG.out; omega), H6, B6, Lib.hid (by have h := HT4.out; simpa [Prt.text] using h), HPS⟩
      | some y =>
        obtain ⟨b2, o2, f2⟩ := y
        have hq0 : q = some ⟨b2, o2, none⟩ := HQ.out
        subst hq0
        obtain ⟨hpl, hpt⟩ := HPX.out
        obtain ⟨hb2, hf2, hw2, hn2⟩ := hpt b2 o2 f2 rfl
        cases f2 with
        | nil => exact absurd rfl hn2
        | cons k2 n2 v2 c2 kids2 rest2 =>
          obtain ⟨A2, cap2, a1, a2, a3, a4, a5, a6, a7, a8⟩ := hf2
          simp only [Fo.well, Bool.and_eq_true] at hw2
          obtain ⟨b', o', hbo⟩ : ∃ b' o', 0 < kids2.len → A2 = some ⟨b', o', none⟩ ∧ b' < w.heap.size + 1 ∧ FoAt w1 (fun j => j < w.heap.size + 1) kids2 b' o' := by
            by_cases h0 : 0 < kids2.len
            · obtain ⟨b', o', e1, e2, e3⟩ := a7 h0
              exact ⟨b', o', fun _ => ⟨e1, e2, e3⟩⟩
            · exact ⟨0, 0, fun h => absurd h h0⟩
          have X : NodeW w1 (w.heap.size + 1) b2 o2 k2 n2 v2 c2 kids2 b' o' := ⟨hb2, hw2.1, a1, a2, a3, a4, A2, cap2, a5, a6, fun h => (hbo h).1⟩
          have hsz2 := put_size xp k2 v2 c2 n2 kids2 b' o' hw2.1
          have htx := put_text nm xp k2 n2 v2 c2 kids2 rest2 b' o' hw2.1
          have hok := put_ok w1 (w.heap.size + 1) xp k2 v2 c2 n2 kids2 b' o' hw2.1 (fun h => (hbo h).2) hw2.2.1
          have HT5 : Hid (bs ++ xs ++ putS nm xp k2 n2 kids2.len ++ restT nm (putPp xp k2 v2 c2 kids2 b' o' ++ S) = fin) := Lib.hid (by
            have h := HT4.out
            simp only [Prt.text, List.nil_append] at h
            rw [← htx] at h
            rw [restT_append]
            simpa [List.append_assoc] using h)
          have HC : Hid (Calls Tryd.prog 44 #[.pointer (some ⟨w.heap.size + 1, 0, none⟩), .pointer (some ⟨b2, o2, none⟩), .int .i64 xp] w6 (WroteP (w.heap.size + 1) (w.heap.size + 1) (bs ++ xs ++ putS nm xp k2 n2 kids2.len) (.slice N nn nc) (putPp xp k2 v2 c2 kids2 b' o' ++ S) w6)) := Lib.hid (tput_any HE.out X hpl w6 B6.out H6.out (by have := HM6.out; have := HMS.out; omega) (by have e := congrArg List.length HT5.out; simp only [List.length_append] at e ⊢; have := HLEN.out; omega))
          have HN7 : Hid (restN (putPp xp k2 v2 c2 kids2 b' o' ++ S) + 1 < gk) := Lib.hid (by
            have h1 := HNX.out
            have e : Prt.size ⟨xs, some (b2, o2, .cons k2 n2 v2 c2 kids2 rest2), xp⟩ = 1 + kids2.size := rfl
            rw [e] at h1
            rw [restN_append]
            omega)
          have HOK : Hid (∀ p ∈ putPp xp k2 v2 c2 kids2 b' o' ++ S, PrtOk w1 (w.heap.size + 1) p) := Lib.hid fun p hp => by
            rcases List.mem_append.1 hp with hp | hp
            · exact hok p hp
            · exact HPS.out p hp
          clear hpl hpt hn2 a1 a2 a3 a4 a5 a6 a7 a8 hw2 hbo X hsz2 htx hok hb2
          go_wp2_with fail
          refine HC.out.mono ?_
          rintro e w7 ⟨rfl, h7, b7⟩
          have H7 := Lib.hid h7
          have B7 := Lib.hid (B6.out.trans b7)
          clear h7 b7
          go_wp2_with fail
          go_roundg (restN (putPp xp k2 v2 c2 kids2 b' o' ++ S) + 1)
          case measure => exact HN7.out
          case rel => exact ⟨_, _, Lib.hid (Nat.lt_succ_self _), Lib.hid (by have h1 := HN7.out; have h2 := HG.out; omega), H7, B7, HT5, HOK⟩
end Go.Proofs.YtblgligagngpfaaDoor.Mu

