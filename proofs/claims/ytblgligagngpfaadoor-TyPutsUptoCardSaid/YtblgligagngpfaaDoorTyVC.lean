/-
  ty.Vars, walked: the variables in the order in which they stand first.
  ty.Canon, walked: a type with its variables numbered anew.
-/
import Derived.Test.YtblgligagngpfaaDoorTyOrdM
import Derived.Test.YtblgligagngpfaaDoorThruG
namespace Go.Proofs.YtblgligagngpfaaDoor.Mu
open Go.ChangeShapes Go.WideShapes Go.ChangeAt Go.RowKit Go.Shelf Go.Maps

attribute [local go_sem] Oper.semAt_some
set_option linter.unusedVariables false

theorem nodup_le : ∀ (l L : List Int), l.Nodup → (∀ x ∈ l, x ∈ L) → l.length ≤ L.length
  | [], L, _, _ => Nat.zero_le _
  | x :: l, L, hn, hs => by
    rw [List.nodup_cons] at hn
    have hx := hs x (List.mem_cons_self ..)
    have h := nodup_le l (L.erase x) hn.2 (fun y hy => by
      have hne : y ≠ x := fun e => hn.1 (e ▸ hy)
      exact (List.mem_erase_of_ne hne).2 (hs y (List.mem_cons_of_mem _ hy)))
    rw [List.length_erase_of_mem hx] at h
    have : 0 < L.length := List.length_pos_of_mem hx
    rw [List.length_cons]
    omega
/-- What going through the nodes comes to: the variables, types' and multiplicities'. -/
def varN (s : List Int × List Int) (k n v c : Int) (len : Nat) : (List Int × List Int) × Bool := ((if k = 1 then addL s.1 n else s.1, s.2), true)
def varU (s : List Int × List Int) (v c : Int) : List Int × List Int := if c = 0 then (s.1, addL s.2 v) else s
def Fo.varsF (f : Fo) : List Int × List Int := runF varN varU true f none ([], [])
theorem Fr.refl (m : Nat → Prop) (w : World) : Fr m w w m := ⟨rfl, rfl, rfl, Nat.le_refl _, fun _ _ _ => rfl, fun _ h => .inl h⟩
/-- An order's answer: its list behind a call. -/
def OrdP (r : Ending) (l' : List Int) (ob : Nat) (m : Nat → Prop) (w : World) (e : Ending) (w' : World) : Prop := e = r ∧ ∃ m', OrdAt w' ob l' m' ∧ Fr m w w' m'
set_option maxRecDepth 100000 in
set_option maxHeartbeats 1000000 in
theorem vars1_any (ob : Nat) (l : List Int) (m : Nat → Prop) (k n : Int) (b o : Nat) (w : World) (h : OrdAt w ob l m) (hlen : l.length ≤ 3900000) (hwf : (Lit.int .i64 n).wf = true) (a1 : w.cell? ⟨b, o, none⟩ = some (.int .u8 k)) (a2 : w.cell? ⟨b, o + 1, none⟩ = some (.int .i64 n)) :
    Calls Tryd.prog 34 #[.pointer (some ⟨b, o, none⟩), .pointer (some ⟨ob, 0, none⟩)] w (OrdP (.returned (.bool true)) (if k = 1 then addL l n else l) ob m w) := by
  have H := Lib.hid h
  have HN := Lib.hid (number_any l n ob m w h hlen hwf)
  clear h
  by_cases hk : k = 1
  · subst hk
    rw [if_pos rfl]
    go_enter Tryd.func34, Tryd.ntmps34
    go_wp2_with fail
    refine HN.out.mono ?_
    rintro e w1 ⟨rfl, h1⟩
    have H1 := Lib.hid h1
    clear h1
    go_wp2_with fail
    go_ret
    exact ⟨rfl, H1.out⟩
  · have dk : (k == 1) = false := by simpa using hk
    rw [if_neg hk]
    go_enter Tryd.func34, Tryd.ntmps34
    go_wp2_with fail
    go_ret
    exact ⟨rfl, m, H.out, Fr.refl m w⟩
set_option maxRecDepth 100000 in
set_option maxHeartbeats 1000000 in
theorem vars2_any (ob : Nat) (l : List Int) (m : Nat → Prop) (v c : Int) (b o : Nat) (w : World) (h : OrdAt w ob l m) (hlen : l.length ≤ 3900000) (hwf : (Lit.int .i64 v).wf = true) (a1 : w.cell? ⟨b, o, none⟩ = some (.int .i64 v)) (a2 : w.cell? ⟨b, o + 1, none⟩ = some (.int .u8 c)) :
    Calls Tryd.prog 36 #[.pointer (some ⟨b, o, none⟩), .pointer (some ⟨ob, 0, none⟩)] w (OrdP (.returned (.tuple #[])) (if c = 0 then addL l v else l) ob m w) := by
  have H := Lib.hid h
  have HN := Lib.hid (number_any l v ob m w h hlen hwf)
  clear h
  by_cases hk : c = 0
  · subst hk
    rw [if_pos rfl]
    go_enter Tryd.func36, Tryd.ntmps36
    go_wp2_with fail
    refine HN.out.mono ?_
    rintro e w1 ⟨rfl, h1⟩
    have H1 := Lib.hid h1
    clear h1
    go_wp2_with fail
    go_end0
    exact ⟨rfl, H1.out⟩
  · have dk : (c == 0) = false := by simpa using hk
    rw [if_neg hk]
    go_enter Tryd.func36, Tryd.ntmps36
    go_wp2_with fail
    go_end0
    exact ⟨rfl, m, H.out, Fr.refl m w⟩
/-- Two orders beside each other. -/
def Ords (VS : List Int) (o1 o2 : Nat) (s : List Int × List Int) (m : Nat → Prop) (w : World) : Prop := ∃ m1 m2 : Nat → Prop, OrdAt w o1 s.1 m1 ∧ OrdAt w o2 s.2 m2 ∧ (∀ j, m1 j → ¬ m2 j) ∧ (∀ j, m j ↔ (m1 j ∨ m2 j)) ∧ (∀ x ∈ s.1, x ∈ VS) ∧ ∀ x ∈ s.2, x ∈ VS
theorem addL_sub {l : List Int} {x : Int} {VS : List Int} (h : ∀ y ∈ l, y ∈ VS) (hx : x ∈ VS) : ∀ y ∈ addL l x, y ∈ VS := by
  unfold addL
  split
  · exact h
  · intro y hy
    rcases List.mem_append.1 hy with hy | hy
    · exact h y hy
    · rw [List.mem_singleton] at hy
      exact hy ▸ hx
theorem OrdAt.nodup {w : World} {ob : Nat} {l : List Int} {m : Nat → Prop} (h : OrdAt w ob l m) : l.Nodup := h.1
/-- The first order goes on. -/
theorem Ords.one {VS : List Int} {o1 o2 : Nat} {s : List Int × List Int} {m m1 m2 m1' : Nat → Prop} {w w' : World} {l' : List Int} (h2 : OrdAt w o2 s.2 m2) (hd : ∀ j, m1 j → ¬ m2 j) (hm : ∀ j, m j ↔ (m1 j ∨ m2 j)) (hs2 : ∀ x ∈ s.2, x ∈ VS) (h1' : OrdAt w' o1 l' m1') (hf : Fr m1 w w' m1') (hl' : ∀ x ∈ l', x ∈ VS) :
    ∃ m', Ords VS o1 o2 (l', s.2) m' w' ∧ Fr m w w' m' :=
  ⟨fun j => m1' j ∨ m2 j, ⟨m1', m2, h1', h2.keep fun j hj => hf.keep j (h2.lt j hj) (fun e => hd j e hj), fun j a b => by
    rcases hf.mn j a with e | e
    · exact hd j e b
    · have := h2.lt j b; omega, fun j => Iff.rfl, hl', hs2⟩, hf.os, hf.tape, hf.output, hf.size, fun j hj hn => hf.keep j hj (fun e => hn ((hm j).2 (.inl e))), fun j hj => by
    rcases hj with e | e
    · rcases hf.mn j e with e | e
      · exact .inl ((hm j).2 (.inl e))
      · exact .inr e
    · exact .inl ((hm j).2 (.inr e))⟩
theorem Ords.two {VS : List Int} {o1 o2 : Nat} {s : List Int × List Int} {m m1 m2 m2' : Nat → Prop} {w w' : World} {l' : List Int} (h1 : OrdAt w o1 s.1 m1) (hd : ∀ j, m1 j → ¬ m2 j) (hm : ∀ j, m j ↔ (m1 j ∨ m2 j)) (hs1 : ∀ x ∈ s.1, x ∈ VS) (h2' : OrdAt w' o2 l' m2') (hf : Fr m2 w w' m2') (hl' : ∀ x ∈ l', x ∈ VS) :
    ∃ m', Ords VS o1 o2 (s.1, l') m' w' ∧ Fr m w w' m' :=
  ⟨fun j => m1 j ∨ m2' j, ⟨m1, m2', h1.keep fun j hj => hf.keep j (h1.lt j hj) (fun e => hd j hj e), h2', fun j a b => by
    rcases hf.mn j b with e | e
    · exact hd j a e
    · have := h1.lt j a; omega, fun j => Iff.rfl, hs1, hl'⟩, hf.os, hf.tape, hf.output, hf.size, fun j hj hn => hf.keep j hj (fun e => hn ((hm j).2 (.inr e))), fun j hj => by
    rcases hj with e | e
    · exact .inl ((hm j).2 (.inl e))
    · rcases hf.mn j e with e | e
      · exact .inl ((hm j).2 (.inr e))
      · exact .inr e⟩
/-- The numbers within are among these, and are numbers of 64 bits. -/
def inVS (VS : List Int) (k n v c : Int) (len : Nat) : Prop := (n ∈ VS ∧ v ∈ VS) ∧ (Lit.int .i64 n).wf = true ∧ (Lit.int .i64 v).wf = true
theorem vars_read (VS : List Int) (hVS : VS.length ≤ 3900000) (o1 o2 : Nat) (Ok : Nat → Prop) : ReadG Tryd.prog 34 #[.pointer (some ⟨o1, 0, none⟩)] (some (36, #[.pointer (some ⟨o2, 0, none⟩)])) varN varU (inVS VS) (fun v _ => v ∈ VS ∧ (Lit.int .i64 v).wf = true) Ok (Ords VS o1 o2) where
  keep := fun s m w w' ⟨m1, m2, h1, h2, hd, hm, hs⟩ _ hk _ => ⟨m1, m2, h1.keep fun j hj => hk j ((hm j).2 (.inl hj)), h2.keep fun j hj => hk j ((hm j).2 (.inr hj)), hd, hm, hs⟩
  lt := fun s m w ⟨m1, m2, h1, h2, hd, hm, hs⟩ j hj => by
    rcases (hm j).1 hj with e | e
    · exact h1.lt j e
    · exact h2.lt j e
  node := fun s m w b o k n v c A len cap hI hG a1 a2 a3 a4 a5 hb => by
    obtain ⟨m1, m2, h1, h2, hd, hm, hs1, hs2⟩ := hI
    refine (vars1_any o1 s.1 m1 k n b o w h1 (Nat.le_trans (nodup_le _ _ h1.nodup hs1) hVS) hG.2.1 a1 a2).mono ?_
    rintro e w1 ⟨rfl, m1', h1', hf⟩
    refine ⟨rfl, Ords.one h2 hd hm hs2 h1' hf ?_⟩
    split
    · exact addL_sub hs1 hG.1.1
    · exact hs1
  gm := fun k n v c len h _ => ⟨h.1.2, h.2.2⟩
  mu := fun gm cm e s m w b o v c hI hG a1 a2 hb => by
    injection e with e
    injection e with e1 e2
    subst e1 e2
    obtain ⟨m1, m2, h1, h2, hd, hm, hs1, hs2⟩ := hI
    refine (vars2_any o2 s.2 m2 v c b o w h2 (Nat.le_trans (nodup_le _ _ h2.nodup hs2) hVS) hG.2 a1 a2).mono ?_
    rintro e w1 ⟨rfl, m2', h2', hf⟩
    have h := Ords.two h1 hd hm hs1 h2' hf (by
      split
      · exact addL_sub hs2 hG.1
      · exact hs2)
    have e : (s.1, if c = 0 then addL s.2 v else s.2) = varU s v c := by
      unfold varU
      split <;> rfl
    rw [e] at h
    exact ⟨rfl, h⟩
theorem cell_upV {w : World} {b o : Nat} {x : Value} (hb : b < w.heap.size) (h : w.cell? ⟨b, o, none⟩ = some x) : ∀ n : Nat, (w.drewN n).cell? ⟨b, o, none⟩ = some x := fun n => ((Bel.refl w).drewN n).cell (p := ⟨b, o, none⟩) hb |>.trans h
/-- What Vars answers: two lists of numbers. -/
def VarsP (l1 l2 : List Int) (w : World) (e : Ending) (w' : World) : Prop := ∃ A1 c1 A2 c2, e = .returned (.tuple #[.slice A1 l1.length c1, .slice A2 l2.length c2]) ∧ RI .i64 w' w'.heap.size A1 l1.length l1 ∧ RI .i64 w' w'.heap.size A2 l2.length l2 ∧ Bel w w'
theorem OrdAt.read {w : World} {ob : Nat} {l : List Int} {m : Nat → Prop} (h : OrdAt w ob l m) : ∃ A cap, w.cell? ⟨ob, 0, none⟩ = some (.slice A l.length cap) ∧ RI .i64 w w.heap.size A l.length l := by
  obtain ⟨_, _, A, cap, M, hb, ho, _⟩ := h
  exact ⟨A, cap, by simp [World.cell?, hb], RI.of_own ho⟩
set_option maxRecDepth 100000 in
set_option maxHeartbeats 1000000 in
theorem vars_any (VS : List Int) (hVS : VS.length ≤ 3900000) (k n v c : Int) (A : Option Addr) (len cap : Nat) (kids : Fo) (w : World) (h : KidsAt w (Old w) A len cap kids) (hsz : kids.size ≤ 1400000) (hG : (Fo.cons k n v c kids .nil).All (inVS VS)) :
    Calls Tryd.prog 12 #[.agg #[.int .u8 k, .int .i64 n, .int .i64 v, .int .u8 c, .slice A len cap]] w (VarsP (Fo.cons k n v c kids .nil).varsF.1 (Fo.cons k n v c kids .nil).varsF.2 w) := by
  have H := Lib.hid h
  have HG := Lib.hid hG
  clear h hG
  go_enter Tryd.func12, Tryd.ntmps12
  go_wp2_with fail
  obtain ⟨q1, q2⟩ := blk2 w (.cells #[.int .u8 k, .int .i64 n, .int .i64 v, .int .u8 c, .slice A len cap] 27) (.cells #[.slice none 0 0, .map none] 71)
  have q3 := blk1 ((w.alloc (.cells #[.int .u8 k, .int .i64 n, .int .i64 v, .int .u8 c, .slice A len cap] 27)).alloc (.cells #[.slice none 0 0, .map none] 71)) (.cells #[.slice none 0 0, .map none] 71)
  have q1' := ((Bel.refl _).alloc (.cells #[.slice none 0 0, .map none] 71)).blk q1
  have q2' := ((Bel.refl _).alloc (.cells #[.slice none 0 0, .map none] 71)).blk q2
  have hb2 : Bel w (((w.alloc (.cells #[.int .u8 k, .int .i64 n, .int .i64 v, .int .u8 c, .slice A len cap] 27)).alloc (.cells #[.slice none 0 0, .map none] 71)).alloc (.cells #[.slice none 0 0, .map none] 71)) := (((Bel.refl w).alloc _).alloc _).alloc _
  have hs2 : (((w.alloc (.cells #[.int .u8 k, .int .i64 n, .int .i64 v, .int .u8 c, .slice A len cap] 27)).alloc (.cells #[.slice none 0 0, .map none] 71)).alloc (.cells #[.slice none 0 0, .map none] 71)).heap.size = w.heap.size + 3 := by simp
  have hs3 : ((w.alloc (.cells #[.int .u8 k, .int .i64 n, .int .i64 v, .int .u8 c, .slice A len cap] 27)).alloc (.cells #[.slice none 0 0, .map none] 71)).heap.size = w.heap.size + 1 + 1 := by simp
  rw [hs3] at q3
  obtain ⟨w2, hw2⟩ : ∃ w2, w2 = ((w.alloc (.cells #[.int .u8 k, .int .i64 n, .int .i64 v, .int .u8 c, .slice A len cap] 27)).alloc (.cells #[.slice none 0 0, .map none] 71)).alloc (.cells #[.slice none 0 0, .map none] 71) := ⟨_, rfl⟩
  rw [← hw2] at q1' q2' q3 hb2 hs2 ⊢
  clear q1 q2 hs3 hw2
  have hk2 : KidsAt w2 (fun j => j ≤ w.heap.size) A len cap kids := (H.out.keep fun _ hj => hb2.block _ hj).wide fun _ hj => Nat.le_of_lt hj
  have hI : Ords VS (w.heap.size + 1) (w.heap.size + 1 + 1) ([], []) (fun j => j = w.heap.size + 1 ∨ j = w.heap.size + 1 + 1) w2 :=
    ⟨_, _, ord_new w2 q2', ord_new w2 q3, fun j a b => by have e1 : j = _ := a; have e2 : j = _ := b; omega, fun j => Iff.rfl, fun x hx => (by cases hx), fun x hx => (by cases hx)⟩
  refine (through_readG (M := some (36, #[.pointer (some ⟨w.heap.size + 1 + 1, 0, none⟩)])) (vars_read VS hVS (w.heap.size + 1) (w.heap.size + 1 + 1) _) (enters_of Tryd.func34 (by kernel_rfl) rfl) (fun gm cm e => by injection e with e; injection e with e1 e2; subst e1; exact enters_of Tryd.func36 (by kernel_rfl) rfl) k n v c kids w.heap.size 0 w2 (fun j => j = w.heap.size + 1 ∨ j = w.heap.size + 1 + 1) ([], []) (Ok := fun j => j ≤ w.heap.size) (box_fo q1' hk2) HG.out (Nat.le_refl _) hI (fun j hj => ⟨by omega, fun e => by rcases e with e | e <;> omega⟩) hsz).mono ?_
  rintro e w3 ⟨rfl, m3, hI3, hfr⟩
  have hI4 : Ords VS (w.heap.size + 1) (w.heap.size + 1 + 1) (Fo.cons k n v c kids .nil).varsF m3 w3 := hI3
  obtain ⟨m1, m2, ho1, ho2, hd, hm, _, _⟩ := hI4
  obtain ⟨A1, p1, k1, r1⟩ := ho1.read
  obtain ⟨A2, p2, k2, r2⟩ := ho2.read
  have hb3 : Bel w w3 := ⟨hfr.os.trans hb2.os, hfr.tape.trans hb2.tape, hfr.output.trans hb2.output, Nat.le_trans hb2.size hfr.size, fun j hj => (hfr.keep j (by omega) (fun e => by rcases e with e | e <;> omega)).trans (hb2.block j hj)⟩
  have hl1 : w.heap.size + 1 < w3.heap.size := World.block_lt_of_cell? w3 _ k1
  have hl2 : w.heap.size + 1 + 1 < w3.heap.size := World.block_lt_of_cell? w3 _ k2
  have K1 := cell_upV hl1 k1
  have K2 := cell_upV hl2 k2
  have HB3 := Lib.hid hb3
  have HR1 := Lib.hid r1
  have HR2 := Lib.hid r2
  obtain ⟨l1, hl1'⟩ : ∃ l1, l1 = (Fo.cons k n v c kids .nil).varsF.1 := ⟨_, rfl⟩
  obtain ⟨l2, hl2'⟩ : ∃ l2, l2 = (Fo.cons k n v c kids .nil).varsF.2 := ⟨_, rfl⟩
  rw [← hl1'] at k1 K1 HR1
  rw [← hl2'] at k2 K2 HR2
  have HL := Lib.hid (And.intro hl1' hl2')
  clear q1' q2' q3 hb2 hs2 hk2 hI hI3 hfr ho1 ho2 hd hm r1 r2 hb3 hl1 hl2 hl1' hl2'
  go_wp2_with fail
  go_quiet (fail)
  go_wp2_with fail
  refine bodyPost_ret (v := .tuple #[.slice A1 l1.length p1, .slice A2 l2.length p2]) (by simp [results, Tryd.results12, go_sem]) rfl ?_
  rw [← HL.out.1, ← HL.out.2]
  exact ⟨A1, p1, A2, p2, rfl, HR1.out.bel ((Bel.refl w3).drewN _), HR2.out.bel ((Bel.refl w3).drewN _), HB3.out.on ((Bel.refl w3).drewN _)⟩
end Go.Proofs.YtblgligagngpfaaDoor.Mu
namespace Go.Proofs.YtblgligagngpfaaDoor.Mu
open Go.ChangeShapes Go.WideShapes Go.ChangeAt Go.RowKit Go.Shelf Go.Maps

attribute [local go_sem] Oper.semAt_some
set_option linter.unusedVariables false

theorem FrC.of_fr {ch : Nat → Nat → Prop} {m m' : Nat → Prop} {w w1 : World} (h : Fr m w w1 m') : FrC ch m w w1 m' :=
  ⟨h.os, h.tape, h.output, h.size, fun j hj hm _ => h.keep j hj hm, fun j x hj hm _ => World.cell?_of_block (a := ⟨j, x, none⟩) (h.keep j hj hm), fun j x hj hm => World.frozen?_of_block (a := ⟨j, x, none⟩) (h.keep j hj hm), h.mn⟩
theorem FrC.bel {ch : Nat → Nat → Prop} {m m' : Nat → Prop} {w w1 w2 : World} (h : FrC ch m w w1 m') (hb : Bel w1 w2) : FrC ch m w w2 m' :=
  ⟨hb.os.trans h.os, hb.tape.trans h.tape, hb.output.trans h.output, Nat.le_trans h.size hb.size, fun j hj hm hn => (hb.block j (Nat.lt_of_lt_of_le hj h.size)).trans (h.keep j hj hm hn), fun j x hj hm hn => (hb.cell (p := ⟨j, x, none⟩) (Nat.lt_of_lt_of_le hj h.size)).trans (h.cell j x hj hm hn), fun j x hj hm => (hb.frozen (p := ⟨j, x, none⟩) (Nat.lt_of_lt_of_le hj h.size)).trans (h.fro j x hj hm), h.mn⟩
/-- What going through the nodes writes. -/
def canN (s : List Int × List Int) (k n v c : Int) (_ : Fo) : (List Int × List Int) × (Int × Int × Int × Int) × Option Fo := ((if k = 1 then addL s.1 n else s.1, s.2), (k, if k = 1 then (posL (addL s.1 n) n : Int) else n, v, c), none)
def canU (s : List Int × List Int) (v c : Int) : (List Int × List Int) × Int × Int := if c = 0 then ((s.1, addL s.2 v), (posL (addL s.2 v) v : Int), c) else (s, v, c)
/-- What the first closure leaves. -/
def Can1 (k n v c : Int) (kids : Fo) (Ok : Nat → Prop) (b o ob : Nat) (l : List Int) (m : Nat → Prop) (w : World) (e : Ending) (w1 : World) : Prop :=
  e = .returned (.bool true) ∧ ∃ m', OrdAt w1 ob (if k = 1 then addL l n else l) m' ∧ FrC (fun j x => j = b ∧ o ≤ x ∧ x < o + 5) m w w1 m' ∧ ∃ A cap, w1.cell? ⟨b, o, none⟩ = some (.int .u8 k) ∧ w1.cell? ⟨b, o + 1, none⟩ = some (.int .i64 (if k = 1 then (posL (addL l n) n : Int) else n)) ∧ w1.cell? ⟨b, o + 2, none⟩ = some (.int .i64 v) ∧ w1.cell? ⟨b, o + 3, none⟩ = some (.int .u8 c) ∧ w1.cell? ⟨b, o + 4, none⟩ = some (.slice A kids.len cap) ∧ kids.len ≤ cap ∧
      (0 < kids.len → ∃ b', A = some ⟨b', 0, none⟩ ∧ w.heap.size ≤ b' ∧ b' < w1.heap.size ∧ ¬ m' b' ∧ (∀ x, w1.frozen? ⟨b', x, none⟩ = false) ∧ FoAt w1 Ok kids b' 0)
set_option maxRecDepth 100000 in
set_option maxHeartbeats 2000000 in
theorem can1_any (k n v c : Int) (kids : Fo) (Ok : Nat → Prop) (b o ob : Nat) (l : List Int) (m : Nat → Prop) (w : World) (h : OrdAt w ob l m) (hlen : l.length ≤ 3900000) (hwf : (Lit.int .i64 n).wf = true) (hf : FoAt w Ok (.cons k n v c kids .nil) b o) (hfz : ∀ x, w.frozen? ⟨b, x, none⟩ = false) (hb : b < w.heap.size) (hbm : ¬ m b) (hnb : ¬ Ok b) (hOk : ∀ j, Ok j → j < w.heap.size ∧ ¬ m j) (hn : kids.len ≤ 2000000) :
    Calls Tryd.prog 37 #[.pointer (some ⟨b, o, none⟩), .pointer (some ⟨ob, 0, none⟩)] w (Can1 k n v c kids Ok b o ob l m w) := by
  obtain ⟨A, cap, a1, a2, a3, a4, a5, a6, a7, _⟩ := hf
  have HK : Hid (KidsAt w Ok A kids.len cap kids) := Lib.hid ⟨rfl, a6, a7⟩
  have HC := Lib.hid (And.intro a1 (And.intro a2 (And.intro a3 a4)))
  have HF := Lib.hid hfz
  have HOK := Lib.hid hOk
  have HN := Lib.hid hnb
  have HM := Lib.hid hbm
  have H := Lib.hid h
  have HNU := Lib.hid (number_any l n ob m w h hlen hwf)
  have f1 := hfz (o + 1)
  have f4 := hfz (o + 4)
  obtain ⟨ln, hl⟩ : ∃ l, l = kids.len := ⟨_, rfl⟩
  have HL := Lib.hid hl
  rw [← hl] at a5 hn HK
  clear a3 a4 a6 a7 hfz hOk hnb hl h hbm
  -- what follows behind the number
  have fin : ∀ (w2 : World) (nn : Int) (m' : Nat → Prop) (l' : List Int), l' = (if k = 1 then addL l n else l) → nn = (if k = 1 then (posL (addL l n) n : Int) else n) → OrdAt w2 ob l' m' → FrC (fun j x => j = b ∧ o ≤ x ∧ x < o + 5) m w w2 m' → w2.cell? ⟨b, o + 1, none⟩ = some (.int .i64 nn) → (∀ x, x ≠ o + 1 → w2.cell? ⟨b, x, none⟩ = w.cell? ⟨b, x, none⟩) → (∀ x, w2.frozen? ⟨b, x, none⟩ = false) →
      ∀ w3, ∀ A' c', ln ≤ c' → (0 < ln → ∃ b', A' = some ⟨b', 0, none⟩ ∧ w2.heap.size ≤ b' ∧ b' < w3.heap.size ∧ (∀ x, w3.frozen? ⟨b', x, none⟩ = false) ∧ FoAt w3 Ok kids b' 0) → Bel w2 w3 → Can1 k n v c kids Ok b o ob l m w (.returned (.bool true)) (w3.setCell ⟨b, o + 4, none⟩ (.slice A' ln c')) := by
    intro w2 nn m' l' el en ho hfr c1 cx hfz2 w3 A' c' hc' hA' hb3
    have hb2 : b < w2.heap.size := Nat.lt_of_lt_of_le hb hfr.size
    have hnm : ¬ m' b := fun e => by
      rcases hfr.mn b e with e | e
      · exact HM.out e
      · omega
    have hne : ∀ x, x ≠ o + 4 → (w3.setCell ⟨b, o + 4, none⟩ (.slice A' ln c')).cell? ⟨b, x, none⟩ = w2.cell? ⟨b, x, none⟩ := fun x hx => (World.cell?_setCell_other w3 _ ⟨b, x, none⟩ _ (fun e => by injection e; omega)).trans (hb3.cell (p := ⟨b, x, none⟩) hb2)
    obtain ⟨a1, a2, a3, a4⟩ := HC.out
    have c4 : w3.cell? ⟨b, o + 4, none⟩ = some (.slice A ln cap) := (hb3.cell (p := ⟨b, o + 4, none⟩) hb2).trans ((cx _ (by omega)).trans a5)
    refine ⟨rfl, m', ?_, (hfr.bel hb3).set ⟨rfl, by omega, by omega⟩ _, A', c', (hne _ (by omega)).trans ((cx _ (by omega)).trans a1), ?_, (hne _ (by omega)).trans ((cx _ (by omega)).trans a3), (hne _ (by omega)).trans ((cx _ (by omega)).trans a4), by rw [← HL.out]; exact World.cell?_setCell_same _ _ _ c4, by rw [← HL.out]; exact hc', fun h0 => ?_⟩
    · rw [← el]
      exact ho.keep fun j hj => (heap_setCell_other _ _ j _ (fun e => by have e' : j = b := e; subst e'; exact hnm hj)).trans (hb3.block j (ho.lt j hj))
    · rw [← en]
      exact (hne _ (by omega)).trans c1
    · obtain ⟨b', e, q1, q2, q3, q4⟩ := hA' (by rw [HL.out]; exact h0)
      have hnb' : b' ≠ b := by omega
      refine ⟨b', e, Nat.le_trans hfr.size q1, by simpa [World.setCell] using q2, fun e => by have := ho.lt b' e; omega, fun x => by rw [World.frozen?_setCell]; exact q3 x, FoAt.keepc (fun j hj x => World.cell?_setCell_other w3 _ ⟨j, x, none⟩ _ (fun e => ?_)) kids b' 0 (fun x _ _ => World.cell?_setCell_other w3 _ ⟨b', x, none⟩ _ (fun e => by injection e; omega)) q4⟩
      injection e with e1 _ _
      exact HN.out (e1 ▸ hj)
  have HFIN := Lib.hid fin
  clear fin
  by_cases hk : k = 1
  · subst hk
    go_enter Tryd.func37, Tryd.ntmps37
    go_wp2_with fail
    refine HNU.out.mono ?_
    rintro e w1 ⟨rfl, m1, ho1, hf1⟩
    have hb1 : b < w1.heap.size := Nat.lt_of_lt_of_le hb hf1.size
    have hbk := hf1.keep b hb HM.out
    have d1 := (World.cell?_of_block (a := ⟨b, o + 1, none⟩) hbk).trans a2
    have d4 := (World.cell?_of_block (a := ⟨b, o + 4, none⟩) hbk).trans a5
    have g1 := (World.frozen?_of_block (a := ⟨b, o + 1, none⟩) hbk).trans f1
    have g4 := (World.frozen?_of_block (a := ⟨b, o + 4, none⟩) hbk).trans f4
    have HO1 := Lib.hid ho1
    have HF1 := Lib.hid hf1
    have HBK := Lib.hid hbk
    clear ho1 hf1 hbk f1 f4
    obtain ⟨w2, hw2⟩ : ∃ w2, w2 = w1.setCell ⟨b, o + 1, none⟩ (.int .i64 (posL (addL l n) n : Int)) := ⟨_, rfl⟩
    have hs2 : w2.heap.size = w1.heap.size := by rw [hw2]; simp [World.setCell]
    have hk2 : KidsAt w2 Ok A ln cap kids := HK.out.keep fun j hj => by
      rw [hw2]
      exact (heap_setCell_other _ _ j _ (fun e => by have e' : j = b := e; subst e'; exact HN.out hj)).trans (HF1.out.keep j (HOK.out j hj).1 (HOK.out j hj).2)
    have ho2 : OrdAt w2 ob (addL l n) m1 := HO1.out.keep fun j hj => by
      rw [hw2]
      exact heap_setCell_other _ _ j _ (fun e => by
        have e' : j = b := e
        subst e'
        rcases HF1.out.mn j hj with e | e
        · exact HM.out e
        · omega)
    have hfr2 : FrC (fun j x => j = b ∧ o ≤ x ∧ x < o + 5) m w w2 m1 := by rw [hw2]; exact (FrC.of_fr HF1.out).set ⟨rfl, by omega, by omega⟩ _
    have c1 : w2.cell? ⟨b, o + 1, none⟩ = some (.int .i64 (posL (addL l n) n : Int)) := by rw [hw2]; exact World.cell?_setCell_same _ _ _ d1
    have cx : ∀ x, x ≠ o + 1 → w2.cell? ⟨b, x, none⟩ = w.cell? ⟨b, x, none⟩ := fun x hx => by
      rw [hw2]
      exact (World.cell?_setCell_other w1 _ ⟨b, x, none⟩ _ (fun e => by injection e; omega)).trans (World.cell?_of_block (a := ⟨b, x, none⟩) HBK.out)
    have cf : ∀ x, w2.frozen? ⟨b, x, none⟩ = false := fun x => by rw [hw2, World.frozen?_setCell]; exact (World.frozen?_of_block (a := ⟨b, x, none⟩) HBK.out).trans (HF.out x)
    have HCL := Lib.hid (cloneT_any A ln cap kids Ok w2 hk2 (fun j hj => by rw [hs2]; exact Nat.lt_of_lt_of_le (HOK.out j hj).1 HF1.out.size) hn)
    have HFIN2 := Lib.hid (HFIN.out w2 _ m1 _ (by simp) (by simp) ho2 hfr2 c1 cx cf)
    have e4 := (cx (o + 4) (by omega)).trans a5
    have z4 := cf (o + 4)
    have hb2 : b < w2.heap.size := by omega
    have HW2 := Lib.hid hw2
    clear hk2 ho2 hfr2 c1 cx cf HFIN hs2
    go_wp2_with fail
    rw [← hw2]
    clear hw2
    refine HCL.out.mono ?_
    rintro e w3 ⟨A', c', rfl, hc', hA', hb3⟩
    have r4 := (hb3.cell (p := ⟨b, o + 4, none⟩) hb2).trans e4
    have s4 := (hb3.frozen (p := ⟨b, o + 4, none⟩) hb2).trans z4
    have HR := Lib.hid (HFIN2.out w3 A' c' hc' hA' hb3)
    clear hc' hA' hb3
    go_wp2_with fail
    go_ret
    exact HR.out
  · have dk : (k == 1) = false := by simpa using hk
    have HCL := Lib.hid (cloneT_any A ln cap kids Ok w HK.out (fun j hj => (HOK.out j hj).1) hn)
    have HFIN2 := Lib.hid (HFIN.out w n m l (by simp [hk]) (by simp [hk]) H.out (FrC.of_fr (Fr.refl m w)) a2 (fun x _ => rfl) HF.out)
    clear HFIN
    go_enter Tryd.func37, Tryd.ntmps37
    go_wp2_with fail
    refine HCL.out.mono ?_
    rintro e w3 ⟨A', c', rfl, hc', hA', hb3⟩
    have r4 := (hb3.cell (p := ⟨b, o + 4, none⟩) hb).trans a5
    have s4 := (hb3.frozen (p := ⟨b, o + 4, none⟩) hb).trans f4
    have HR := Lib.hid (HFIN2.out w3 A' c' hc' hA' hb3)
    clear hc' hA' hb3
    go_wp2_with fail
    go_ret
    exact HR.out
/-- What the second closure leaves. -/
def Can2 (v c : Int) (b o ob : Nat) (l : List Int) (m : Nat → Prop) (w : World) (e : Ending) (w1 : World) : Prop :=
  e = .returned (.tuple #[]) ∧ ∃ m', OrdAt w1 ob (if c = 0 then addL l v else l) m' ∧ FrC (fun j x => j = b ∧ o ≤ x ∧ x < o + 2) m w w1 m' ∧ w1.cell? ⟨b, o, none⟩ = some (.int .i64 (if c = 0 then (posL (addL l v) v : Int) else v)) ∧ w1.cell? ⟨b, o + 1, none⟩ = some (.int .u8 c)
set_option maxRecDepth 100000 in
set_option maxHeartbeats 2000000 in
theorem can2_any (v c : Int) (b o ob : Nat) (l : List Int) (m : Nat → Prop) (w : World) (h : OrdAt w ob l m) (hlen : l.length ≤ 3900000) (hwf : (Lit.int .i64 v).wf = true) (a1 : w.cell? ⟨b, o, none⟩ = some (.int .i64 v)) (a2 : w.cell? ⟨b, o + 1, none⟩ = some (.int .u8 c)) (hfz : ∀ x, w.frozen? ⟨b, x, none⟩ = false) (hb : b < w.heap.size) (hbm : ¬ m b) :
    Calls Tryd.prog 38 #[.pointer (some ⟨b, o, none⟩), .pointer (some ⟨ob, 0, none⟩)] w (Can2 v c b o ob l m w) := by
  have HF := Lib.hid hfz
  have HM := Lib.hid hbm
  have H := Lib.hid h
  have HNU := Lib.hid (number_any l v ob m w h hlen hwf)
  have HA := Lib.hid (And.intro a1 a2)
  clear h hfz hbm
  by_cases hk : c = 0
  · subst hk
    go_enter Tryd.func38, Tryd.ntmps38
    go_wp2_with fail
    refine HNU.out.mono ?_
    rintro e w1 ⟨rfl, m1, ho1, hf1⟩
    have hb1 : b < w1.heap.size := Nat.lt_of_lt_of_le hb hf1.size
    have hbk := hf1.keep b hb HM.out
    have d1 := (World.cell?_of_block (a := ⟨b, o, none⟩) hbk).trans a1
    have g1 := (World.frozen?_of_block (a := ⟨b, o, none⟩) hbk).trans (HF.out o)
    have HO1 := Lib.hid ho1
    have HF1 := Lib.hid hf1
    have HBK := Lib.hid hbk
    clear ho1 hf1 hbk
    go_wp2_with fail
    go_end0
    refine ⟨rfl, m1, ?_, (FrC.of_fr HF1.out).set ⟨rfl, by omega, by omega⟩ _, by simpa using World.cell?_setCell_same _ _ _ d1, (World.cell?_setCell_other w1 _ ⟨b, o + 1, none⟩ _ (fun e => by injection e; omega)).trans ((World.cell?_of_block (a := ⟨b, o + 1, none⟩) HBK.out).trans HA.out.2)⟩
    rw [if_pos rfl]
    exact HO1.out.keep fun j hj => heap_setCell_other _ _ j _ (fun e => by
      have e' : j = b := e
      subst e'
      rcases HF1.out.mn j hj with e | e
      · exact HM.out e
      · omega)
  · have dk : (c == 0) = false := by simpa using hk
    go_enter Tryd.func38, Tryd.ntmps38
    go_wp2_with fail
    go_end0
    exact ⟨rfl, m, by rw [if_neg hk]; exact H.out, FrC.of_fr (Fr.refl m w), by rw [if_neg hk]; exact HA.out.1, HA.out.2⟩
theorem FrC.ords {VS : List Int} {o1 o2 : Nat} {s : List Int × List Int} {m m1 m2 m1' : Nat → Prop} {ch : Nat → Nat → Prop} {w w' : World} {l' : List Int} (h2 : OrdAt w o2 s.2 m2) (hd : ∀ j, m1 j → ¬ m2 j) (hm : ∀ j, m j ↔ (m1 j ∨ m2 j)) (hs2 : ∀ x ∈ s.2, x ∈ VS) (h1' : OrdAt w' o1 l' m1') (hf : FrC ch m1 w w' m1') (hch : ∀ j x, ch j x → ¬ m2 j) (hl' : ∀ x ∈ l', x ∈ VS) :
    ∃ m', Ords VS o1 o2 (l', s.2) m' w' ∧ FrC ch m w w' m' ∧ ∀ j, m' j → m1' j ∨ j < w.heap.size ∧ m j :=
  ⟨fun j => m1' j ∨ m2 j, ⟨m1', m2, h1', h2.keep fun j hj => hf.keep j (h2.lt j hj) (fun e => hd j e hj) (fun x hx => hch j x hx hj), fun j a b => by
    rcases hf.mn j a with e | e
    · exact hd j e b
    · have := h2.lt j b; omega, fun j => Iff.rfl, hl', hs2⟩, ⟨hf.os, hf.tape, hf.output, hf.size, fun j hj hn hc => hf.keep j hj (fun e => hn ((hm j).2 (.inl e))) hc, fun j x hj hn hc => hf.cell j x hj (fun e => hn ((hm j).2 (.inl e))) hc, fun j x hj hn => hf.fro j x hj (fun e => hn ((hm j).2 (.inl e))), fun j hj => by
    rcases hj with e | e
    · rcases hf.mn j e with e | e
      · exact .inl ((hm j).2 (.inl e))
      · exact .inr e
    · exact .inl ((hm j).2 (.inr e))⟩, fun j hj => by
    rcases hj with e | e
    · exact .inl e
    · exact .inr ⟨h2.lt j e, (hm j).2 (.inr e)⟩⟩
theorem FrC.ords2 {VS : List Int} {o1 o2 : Nat} {s : List Int × List Int} {m m1 m2 m2' : Nat → Prop} {ch : Nat → Nat → Prop} {w w' : World} {l' : List Int} (h1 : OrdAt w o1 s.1 m1) (hd : ∀ j, m1 j → ¬ m2 j) (hm : ∀ j, m j ↔ (m1 j ∨ m2 j)) (hs1 : ∀ x ∈ s.1, x ∈ VS) (h2' : OrdAt w' o2 l' m2') (hf : FrC ch m2 w w' m2') (hch : ∀ j x, ch j x → ¬ m1 j) (hl' : ∀ x ∈ l', x ∈ VS) :
    ∃ m', Ords VS o1 o2 (s.1, l') m' w' ∧ FrC ch m w w' m' :=
  ⟨fun j => m1 j ∨ m2' j, ⟨m1, m2', h1.keep fun j hj => hf.keep j (h1.lt j hj) (fun e => hd j hj e) (fun x hx => hch j x hx hj), h2', fun j a b => by
    rcases hf.mn j b with e | e
    · exact hd j a e
    · have := h1.lt j a; omega, fun j => Iff.rfl, hs1, hl'⟩, ⟨hf.os, hf.tape, hf.output, hf.size, fun j hj hn hc => hf.keep j hj (fun e => hn ((hm j).2 (.inr e))) hc, fun j x hj hn hc => hf.cell j x hj (fun e => hn ((hm j).2 (.inr e))) hc, fun j x hj hn => hf.fro j x hj (fun e => hn ((hm j).2 (.inr e))), fun j hj => by
    rcases hj with e | e
    · exact .inl ((hm j).2 (.inl e))
    · rcases hf.mn j e with e | e
      · exact .inl ((hm j).2 (.inr e))
      · exact .inr e⟩⟩
theorem can_write (VS : List Int) (hVS : VS.length ≤ 3900000) (o1 o2 : Nat) (Ok : Nat → Prop) : WriteC Tryd.prog 37 #[.pointer (some ⟨o1, 0, none⟩)] (some (38, #[.pointer (some ⟨o2, 0, none⟩)])) canN canU (inVS VS) (fun v _ => v ∈ VS ∧ (Lit.int .i64 v).wf = true) Ok (fun s m w => Ords VS o1 o2 s m w ∧ ∀ j, Ok j → j < w.heap.size ∧ ¬ m j) where
  keep := fun s m w w' ⟨⟨m1, m2, h1, h2, hd, hm, hs⟩, hok⟩ hsz hk _ => ⟨⟨m1, m2, h1.keep fun j hj => hk j ((hm j).2 (.inl hj)), h2.keep fun j hj => hk j ((hm j).2 (.inr hj)), hd, hm, hs⟩, fun j hj => ⟨Nat.lt_of_lt_of_le (hok j hj).1 hsz, (hok j hj).2⟩⟩
  lt := fun s m w ⟨⟨m1, m2, h1, h2, hd, hm, hs⟩, _⟩ j hj => by
    rcases (hm j).1 hj with e | e
    · exact h1.lt j e
    · exact h2.lt j e
  node := fun s m w b o k n v c kids hI hG hf hfz hb hbm hnb hsz => by
    obtain ⟨⟨m1, m2, h1, h2, hd, hm, hs1, hs2⟩, hok⟩ := hI
    refine (can1_any k n v c kids Ok b o o1 s.1 m1 w h1 (Nat.le_trans (nodup_le _ _ h1.nodup hs1) hVS) hG.2.1 hf hfz hb (fun e => hbm ((hm b).2 (.inl e))) hnb (fun j hj => ⟨(hok j hj).1, fun e => (hok j hj).2 ((hm j).2 (.inl e))⟩) (by have := kids.len_le; omega)).mono ?_
    rintro e w1 ⟨rfl, m1', h1', hfr, A, cap, d0, d1, d2, d3, d4, hc, hA⟩
    obtain ⟨m', hO, hF, hm'⟩ := FrC.ords h2 hd hm hs2 h1' hfr (fun j x hx e => hbm ((hm b).2 (.inr (hx.1 ▸ e)))) (by
      split
      · exact addL_sub hs1 hG.1.1
      · exact hs1)
    refine ⟨rfl, m', ⟨hO, fun j hj => ⟨Nat.lt_of_lt_of_le (hok j hj).1 hF.size, fun e => ?_⟩⟩, hF, A, _, cap, d0, d1, d2, d3, d4, fun ks e => (by cases e), fun _ => ⟨rfl, hc, fun h0 => ?_⟩⟩
    · rcases hF.mn j e with e | e
      · exact (hok j hj).2 e
      · have := (hok j hj).1; omega
    · obtain ⟨b', e, q1, q2, q3, q4, q5⟩ := hA h0
      refine ⟨b', e, q1, q2, fun e => ?_, q4, q5⟩
      rcases hm' b' e with e | e
      · exact q3 e
      · omega
  gm := fun s k n v c kids h _ => ⟨h.1.2, h.2.2⟩
  mu := fun gm cm e s m w b o v c hI hG a1 a2 hfz hb hbm hnb => by
    injection e with e
    injection e with e1 e2
    subst e1 e2
    obtain ⟨⟨m1, m2, h1, h2, hd, hm, hs1, hs2⟩, hok⟩ := hI
    refine (can2_any v c b o o2 s.2 m2 w h2 (Nat.le_trans (nodup_le _ _ h2.nodup hs2) hVS) hG.2 a1 a2 hfz hb (fun e => hbm ((hm b).2 (.inr e)))).mono ?_
    rintro e w1 ⟨rfl, m2', h2', hfr, d0, d1⟩
    obtain ⟨m', hO, hF⟩ := FrC.ords2 h1 hd hm hs1 h2' hfr (fun j x hx e => hbm ((hm b).2 (.inl (hx.1 ▸ e)))) (by
      split
      · exact addL_sub hs2 hG.1
      · exact hs2)
    have e1 : (canU s v c).1 = (s.1, if c = 0 then addL s.2 v else s.2) := by unfold canU; split <;> rfl
    have e2 : (canU s v c).2.1 = if c = 0 then (posL (addL s.2 v) v : Int) else v := by unfold canU; split <;> rfl
    have e3 : (canU s v c).2.2 = c := by unfold canU; split <;> rfl
    rw [e1, e2, e3]
    refine ⟨rfl, m', ⟨hO, fun j hj => ⟨Nat.lt_of_lt_of_le (hok j hj).1 hF.size, fun e => ?_⟩⟩, hF, d0, d1⟩
    rcases hF.mn j e with e | e
    · exact (hok j hj).2 e
    · have := (hok j hj).1; omega
theorem OrdAt.ri {w : World} {ob : Nat} {l : List Int} {m : Nat → Prop} (h : OrdAt w ob l m) {A : Option Addr} {n p : Nat} (hc : w.cell? ⟨ob, 0, none⟩ = some (.slice A n p)) : RI .i64 w w.heap.size A l.length l := by
  obtain ⟨A', cap, h1, h2⟩ := h.read
  rw [h1] at hc
  injection hc with hc
  injection hc with e1 e2 e3
  subst e1
  exact h2
def Fo.canW (f : Fo) : Fo × Option (Int × Int) × (List Int × List Int) := runW canN canU true f none ([], [])
/-- What Canon answers. -/
def CanonP (f : Fo) (w : World) (e : Ending) (w' : World) : Prop := ∃ k n v c kids A cap A1 c1 A2 c2, f.canW.1 = .cons k n v c kids .nil ∧ e = .returned (.tuple #[.agg #[.int .u8 k, .int .i64 n, .int .i64 v, .int .u8 c, .slice A kids.len cap], .slice A1 f.canW.2.2.1.length c1, .slice A2 f.canW.2.2.2.length c2]) ∧ KidsAt w' (fun j => w.heap.size ≤ j ∧ j < w'.heap.size) A kids.len cap kids ∧ RI .i64 w' w'.heap.size A1 f.canW.2.2.1.length f.canW.2.2.1 ∧ RI .i64 w' w'.heap.size A2 f.canW.2.2.2.length f.canW.2.2.2 ∧ Bel w w'
theorem canW_cons (k n v c : Int) (kids : Fo) : ∃ k' n' v' c' kids', (Fo.cons k n v c kids .nil).canW.1 = .cons k' n' v' c' kids' .nil := ⟨_, _, _, _, _, rfl⟩
set_option maxRecDepth 100000 in
set_option maxHeartbeats 2000000 in
theorem canon_any (VS : List Int) (hVS : VS.length ≤ 3900000) (k n v c : Int) (A : Option Addr) (len cap : Nat) (kids : Fo) (w : World) (h : KidsAt w (Old w) A len cap kids) (hsz : kids.size ≤ 1400000) (hG : (Fo.cons k n v c kids .nil).All (inVS VS)) :
    Calls Tryd.prog 13 #[.agg #[.int .u8 k, .int .i64 n, .int .i64 v, .int .u8 c, .slice A len cap]] w (CanonP (.cons k n v c kids .nil) w) := by
  have H := Lib.hid h
  have HG := Lib.hid hG
  clear h hG
  go_enter Tryd.func13, Tryd.ntmps13
  go_wp2_with fail
  obtain ⟨q1, q2⟩ := blk2 w (.cells #[.int .u8 k, .int .i64 n, .int .i64 v, .int .u8 c, .slice A len cap] 27) (.cells #[.int .u8 0, .int .i64 0, .int .i64 0, .int .u8 0, .slice none 0 0] 27)
  have q1' := ((Bel.refl _).alloc (.cells #[.slice none 0 0, .map none] 71)).blk q1
  have q2' := ((Bel.refl _).alloc (.cells #[.slice none 0 0, .map none] 71)).blk q2
  have q1'' := ((Bel.refl _).alloc (.cells #[.slice none 0 0, .map none] 71)).blk q1'
  have q2'' := ((Bel.refl _).alloc (.cells #[.slice none 0 0, .map none] 71)).blk q2'
  obtain ⟨q3, q4⟩ := blk2 ((w.alloc (.cells #[.int .u8 k, .int .i64 n, .int .i64 v, .int .u8 c, .slice A len cap] 27)).alloc (.cells #[.int .u8 0, .int .i64 0, .int .i64 0, .int .u8 0, .slice none 0 0] 27)) (.cells #[.slice none 0 0, .map none] 71) (.cells #[.slice none 0 0, .map none] 71)
  have hb2 : Bel w ((((w.alloc (.cells #[.int .u8 k, .int .i64 n, .int .i64 v, .int .u8 c, .slice A len cap] 27)).alloc (.cells #[.int .u8 0, .int .i64 0, .int .i64 0, .int .u8 0, .slice none 0 0] 27)).alloc (.cells #[.slice none 0 0, .map none] 71)).alloc (.cells #[.slice none 0 0, .map none] 71)) := ((((Bel.refl w).alloc _).alloc _).alloc _).alloc _
  have hs2 : ((((w.alloc (.cells #[.int .u8 k, .int .i64 n, .int .i64 v, .int .u8 c, .slice A len cap] 27)).alloc (.cells #[.int .u8 0, .int .i64 0, .int .i64 0, .int .u8 0, .slice none 0 0] 27)).alloc (.cells #[.slice none 0 0, .map none] 71)).alloc (.cells #[.slice none 0 0, .map none] 71)).heap.size = w.heap.size + 4 := by simp
  have hs3 : ((w.alloc (.cells #[.int .u8 k, .int .i64 n, .int .i64 v, .int .u8 c, .slice A len cap] 27)).alloc (.cells #[.int .u8 0, .int .i64 0, .int .i64 0, .int .u8 0, .slice none 0 0] 27)).heap.size = w.heap.size + 1 + 1 := by simp
  rw [hs3] at q3 q4
  obtain ⟨w2, hw2⟩ : ∃ w2, w2 = (((w.alloc (.cells #[.int .u8 k, .int .i64 n, .int .i64 v, .int .u8 c, .slice A len cap] 27)).alloc (.cells #[.int .u8 0, .int .i64 0, .int .i64 0, .int .u8 0, .slice none 0 0] 27)).alloc (.cells #[.slice none 0 0, .map none] 71)).alloc (.cells #[.slice none 0 0, .map none] 71) := ⟨_, rfl⟩
  rw [← hw2] at q1'' q2'' q3 q4 hb2 hs2 ⊢
  clear q1 q2 q1' q2' hs3 hw2
  have hk2 : KidsAt w2 (Old w) A len cap kids := H.out.keep fun _ hj => hb2.block _ hj
  have hI : Ords VS (w.heap.size + 1 + 1) (w.heap.size + 1 + 1 + 1) ([], []) (fun j => j = w.heap.size + 1 + 1 ∨ j = w.heap.size + 1 + 1 + 1) w2 :=
    ⟨_, _, ord_new w2 q3, ord_new w2 q4, fun j a b => by have e1 : j = _ := a; have e2 : j = _ := b; omega, fun j => Iff.rfl, fun x hx => (by cases hx), fun x hx => (by cases hx)⟩
  refine (through_write (M := some (38, #[.pointer (some ⟨w.heap.size + 1 + 1 + 1, 0, none⟩)])) (can_write VS hVS (w.heap.size + 1 + 1) (w.heap.size + 1 + 1 + 1) (Old w)) (enters_of Tryd.func37 (by kernel_rfl) rfl) (fun gm cm e => by injection e with e; injection e with e1 e2; subst e1; exact enters_of Tryd.func38 (by kernel_rfl) rfl) k n v c kids w.heap.size 0 w2 (fun j => j = w.heap.size + 1 + 1 ∨ j = w.heap.size + 1 + 1 + 1) ([], []) (box_fo q1'' hk2) HG.out ⟨by omega, by simp [Old], fun e => by rcases e with e | e <;> omega⟩ (cells5 q1'').2 ⟨hI, fun j hj => ⟨Nat.lt_of_lt_of_le hj hb2.size, fun e => by have : j < w.heap.size := hj; rcases e with e | e <;> omega⟩⟩ (fun j hj => ⟨Nat.lt_of_lt_of_le hj hb2.size, fun e => by have : j < w.heap.size := hj; rcases e with e | e <;> omega⟩) hsz).mono ?_
  rintro e w3 ⟨rfl, m3, ⟨hI3, _⟩, hfo, hfr⟩
  have hfo' : FoAt w3 (fun j => w2.heap.size ≤ j ∧ j < w3.heap.size ∧ ¬ m3 j) (Fo.cons k n v c kids .nil).canW.1 w.heap.size 0 := hfo
  have hI4 : Ords VS (w.heap.size + 1 + 1) (w.heap.size + 1 + 1 + 1) (Fo.cons k n v c kids .nil).canW.2.2 m3 w3 := hI3
  obtain ⟨k', n', v', c', kids', ef⟩ := canW_cons k n v c kids
  rw [ef] at hfo'
  obtain ⟨A3, cap3, c0, c1, c2, c3, c4, hcap3, hA3, _⟩ := hfo'
  obtain ⟨m1, m2, ho1, ho2, hd, hm, _, _⟩ := hI4
  obtain ⟨A1, p1, y1, r1⟩ := ho1.read
  obtain ⟨A2, p2, y2, r2⟩ := ho2.read
  have hbx := (hfr.keep (w.heap.size + 1) (by omega) (fun e => by rcases e with e | e <;> omega) (fun x e => by have := e.1; omega)).trans q2''
  obtain ⟨⟨d0, d1, d2, d3, d4⟩, hfz⟩ := cells5 hbx
  have z0 := hfz 0
  have z1 := hfz 1
  have z2 := hfz 2
  have z3 := hfz 3
  have z4 := hfz 4
  have hb3 : Bel w w3 := ⟨hfr.os.trans hb2.os, hfr.tape.trans hb2.tape, hfr.output.trans hb2.output, Nat.le_trans hb2.size hfr.size, fun j hj => (hfr.keep j (by omega) (fun e => by rcases e with e | e <;> omega) (fun x e => by have := e.1; omega)).trans (hb2.block j hj)⟩
  have HP := Lib.hid (put5 (x0 := .int .u8 k') (x1 := .int .i64 n') (x2 := .int .i64 v') (x3 := .int .u8 c') (x4 := .slice A3 kids'.len cap3) hbx)
  have HB3 := Lib.hid hb3
  have HA3 := Lib.hid hA3
  have HS2 := Lib.hid hs2
  have HS3 : Hid (w2.heap.size ≤ w3.heap.size) := Lib.hid hfr.size
  have HEF := Lib.hid ef
  have hmn : ∀ j, m3 j → j ≠ w.heap.size + 1 := fun j hj e => by
    rcases hfr.mn j hj with h | h
    · rcases h with h | h <;> omega
    · omega
  have HR1 := Lib.hid (And.intro ho1 (And.intro ho2 (And.intro (fun j (hj : m1 j) => hmn j ((hm j).2 (.inl hj))) (And.intro (fun j (hj : m2 j) => hmn j ((hm j).2 (.inr hj))) (And.intro y1 y2)))))
  obtain ⟨l, hl⟩ : ∃ l, l = kids'.len := ⟨_, rfl⟩
  obtain ⟨l1, hl1'⟩ : ∃ l1, l1 = (Fo.cons k n v c kids .nil).canW.2.2.1 := ⟨_, rfl⟩
  obtain ⟨l2, hl2'⟩ : ∃ l2, l2 = (Fo.cons k n v c kids .nil).canW.2.2.2 := ⟨_, rfl⟩
  have HL := Lib.hid (And.intro hl (And.intro hl1' hl2'))
  rw [← hl] at c4 hcap3
  rw [← hl1'] at y1
  rw [← hl2'] at y2
  clear q1'' q2'' q3 q4 hb2 hs2 hk2 hI hI3 hfo hfr ho1 ho2 hd hm hmn r1 r2 hb3 hbx hfz hA3 ef hl hl1' hl2'
  go_wp2_with fail
  go_region
  obtain ⟨w9, hw9, h9, hbel9, ho9, hs9⟩ := HP.out
  rw [← HL.out.1] at hw9 h9
  rw [← hw9]
  clear hw9
  obtain ⟨⟨k0, k1, k2, k3, k4⟩, _⟩ := cells5 ((Bel.refl w9).drew.blk h9)
  have HB9 := Lib.hid ((hbel9 w HB3.out (by omega)).drew)
  have HO9 := Lib.hid ho9
  have HS9 := Lib.hid hs9
  clear hbel9 ho9 hs9 h9
  go_wp2_with fail
  refine bodyPost_ret (v := .tuple #[.agg #[.int .u8 k', .int .i64 n', .int .i64 v', .int .u8 c', .slice A3 l cap3], .slice A1 l1.length p1, .slice A2 l2.length p2]) (by simp [results, Tryd.results13, go_sem, k0, k1, k2, k3, k4]) rfl ?_
  obtain ⟨ho1, ho2, n1, n2, y1', y2'⟩ := HR1.out
  have hkp : ∀ j, j ≠ w.heap.size + 1 → w9.drew.heap[j]? = w3.heap[j]? := fun j hj => HO9.out j hj
  have hsz9 : w3.heap.size ≤ w9.drew.heap.size := Nat.le_of_eq HS9.out.symm
  refine ⟨k', n', v', c', kids', A3, cap3, A1, p1, A2, p2, HEF.out, by rw [← HL.out.1, ← HL.out.2.1, ← HL.out.2.2], ⟨rfl, by rw [← HL.out.1]; exact hcap3, fun h0 => ?_⟩, ?_, ?_, HB9.out⟩
  · obtain ⟨b', o', e, q1, q2⟩ := HA3.out h0
    have hw : ∀ j, (w2.heap.size ≤ j ∧ j < w3.heap.size ∧ ¬ m3 j) → (w.heap.size ≤ j ∧ j < w9.drew.heap.size) := fun j hj => ⟨by have := HS2.out; have := hj.1; omega, by have := hj.2.1; omega⟩
    exact ⟨b', o', e, hw b' q1, FoAt.wide hw _ _ _ (FoAt.keep (fun j hj => hkp j (by have := HS2.out; have := hj.1; omega)) kids' b' o' q1 q2)⟩
  · exact (ho1.keep fun j hj => hkp j (n1 j hj)).ri ((World.cell?_of_block (a := ⟨w.heap.size + 1 + 1, 0, none⟩) (hkp (w.heap.size + 1 + 1) (by omega))).trans y1')
  · exact (ho2.keep fun j hj => hkp j (n2 j hj)).ri ((World.cell?_of_block (a := ⟨w.heap.size + 1 + 1 + 1, 0, none⟩) (hkp (w.heap.size + 1 + 1 + 1) (by omega))).trans y2')
end Go.Proofs.YtblgligagngpfaaDoor.Mu

