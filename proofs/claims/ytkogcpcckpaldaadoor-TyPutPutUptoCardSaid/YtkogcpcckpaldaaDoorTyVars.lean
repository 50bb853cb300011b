/-
  ty.Vars, walked: the variables in the order in which they stand first.
-/
import Derived.Test.YtkogcpcckpaldaaDoorTyOrdM
import Derived.Test.YtkogcpcckpaldaaDoorThruG
namespace Go.Proofs.YtkogcpcckpaldaaDoor.Mu
open Go.ChangeShapes Go.WideShapes Go.ChangeAt Go.RowKit Go.Shelf Go.Maps

attribute [local go_sem] Oper.semAt_some
set_option linter.unusedVariables false

theorem nodup_le : ∀ (l L : List Int), l.Nodup → (∀ x ∈ l, x ∈ L) → l.length ≤ L.length
  | [], L, _, _ => Nat.zero_le _
  | x :: l, L, hn, hs => by
    rw [List.nodup_cons] at hn
    have hx := hs x (List.mem_cons_self ..)
    have h := nodup_le l (L.erase x) hn.2 (fun y hy => by
      have hne : y ≠ x := fun e => hn.1 (e ▸ hy)
      exact (List.mem_erase_of_ne hne).2 (hs y (List.mem_cons_of_mem _ hy)))
    rw [List.length_erase_of_mem hx] at h
    have : 0 < L.length := List.length_pos_of_mem hx
    rw [List.length_cons]
    omega
/-- What going through the nodes comes to: the variables, types' and multiplicities'. -/
def varN (s : List Int × List Int) (k n v c : Int) (len : Nat) : (List Int × List Int) × Bool := ((if k = 1 then addL s.1 n else s.1, s.2), true)
def varU (s : List Int × List Int) (v c : Int) : List Int × List Int := if c = 0 then (s.1, addL s.2 v) else s
def Fo.varsF (f : Fo) : List Int × List Int := runF varN varU true f none ([], [])
theorem Fr.refl (m : Nat → Prop) (w : World) : Fr m w w m := ⟨rfl, rfl, rfl, Nat.le_refl _, fun _ _ _ => rfl, fun _ h => .inl h⟩
/-- An order's answer: its list behind a call. -/
def OrdP (r : Ending) (l' : List Int) (ob : Nat) (m : Nat → Prop) (w : World) (e : Ending) (w' : World) : Prop := e = r ∧ ∃ m', OrdAt w' ob l' m' ∧ Fr m w w' m'
set_option maxRecDepth 100000 in
set_option maxHeartbeats 1000000 in
theorem vars1_any (ob : Nat) (l : List Int) (m : Nat → Prop) (k n : Int) (b o : Nat) (w : World) (h : OrdAt w ob l m) (hlen : l.length ≤ 3900000) (hwf : (Lit.int .i64 n).wf = true) (a1 : w.cell? ⟨b, o, none⟩ = some (.int .u8 k)) (a2 : w.cell? ⟨b, o + 1, none⟩ = some (.int .i64 n)) :
    Calls Tryd.prog 41 #[.pointer (some ⟨b, o, none⟩), .pointer (some ⟨ob, 0, none⟩)] w (OrdP (.returned (.bool true)) (if k = 1 then addL l n else l) ob m w) := by
  have H := Lib.hid h
  have HN := Lib.hid (number_any l n ob m w h hlen hwf)
  clear h
  by_cases hk : k = 1
  · subst hk
    rw [if_pos rfl]
    go_enter Tryd.func41, Tryd.ntmps41
    go_wp2_with fail
    refine HN.out.mono ?_
    rintro e w1 ⟨rfl, h1⟩
    have H1 := Lib.hid h1
    clear h1
    go_wp2_with fail
    go_ret
    exact ⟨rfl, H1.out⟩
  · have dk : (k == 1) = false := by simpa using hk
    rw [if_neg hk]
    go_enter Tryd.func41, Tryd.ntmps41
    go_wp2_with fail
    go_ret
    exact ⟨rfl, m, H.out, Fr.refl m w⟩
set_option maxRecDepth 100000 in
set_option maxHeartbeats 1000000 in
theorem vars2_any (ob : Nat) (l : List Int) (m : Nat → Prop) (v c : Int) (b o : Nat) (w : World) (h : OrdAt w ob l m) (hlen : l.length ≤ 3900000) (hwf : (Lit.int .i64 v).wf = true) (a1 : w.cell? ⟨b, o, none⟩ = some (.int .i64 v)) (a2 : w.cell? ⟨b, o + 1, none⟩ = some (.int .u8 c)) :
    Calls Tryd.prog 43 #[.pointer (some ⟨b, o, none⟩), .pointer (some ⟨ob, 0, none⟩)] w (OrdP (.returned (.tuple #[])) (if c = 0 then addL l v else l) ob m w) := by
  have H := Lib.hid h
  have HN := Lib.hid (number_any l v ob m w h hlen hwf)
  clear h
  by_cases hk : c = 0
  · subst hk
    rw [if_pos rfl]
    go_enter Tryd.func43, Tryd.ntmps43
    go_wp2_with fail
    refine HN.out.mono ?_
    rintro e w1 ⟨rfl, h1⟩
    have H1 := Lib.hid h1
    clear h1
    go_wp2_with fail
    go_end0
    exact ⟨rfl, H1.out⟩
  · have dk : (c == 0) = false := by simpa using hk
    rw [if_neg hk]
    go_enter Tryd.func43, Tryd.ntmps43
    go_wp2_with fail
    go_end0
    exact ⟨rfl, m, H.out, Fr.refl m w⟩
/-- Two orders beside each other. -/
def Ords (VS : List Int) (o1 o2 : Nat) (s : List Int × List Int) (m : Nat → Prop) (w : World) : Prop := ∃ m1 m2 : Nat → Prop, OrdAt w o1 s.1 m1 ∧ OrdAt w o2 s.2 m2 ∧ (∀ j, m1 j → ¬ m2 j) ∧ (∀ j, m j ↔ (m1 j ∨ m2 j)) ∧ (∀ x ∈ s.1, x ∈ VS) ∧ ∀ x ∈ s.2, x ∈ VS
theorem addL_sub {l : List Int} {x : Int} {VS : List Int} (h : ∀ y ∈ l, y ∈ VS) (hx : x ∈ VS) : ∀ y ∈ addL l x, y ∈ VS := by
  unfold addL
  split
  · exact h
  · intro y hy
    rcases List.mem_append.1 hy with hy | hy
    · exact h y hy
    · rw [List.mem_singleton] at hy
      exact hy ▸ hx
theorem OrdAt.nodup {w : World} {ob : Nat} {l : List Int} {m : Nat → Prop} (h : OrdAt w ob l m) : l.Nodup := h.1
/-- The first order goes on. -/
theorem Ords.one {VS : List Int} {o1 o2 : Nat} {s : List Int × List Int} {m m1 m2 m1' : Nat → Prop} {w w' : World} {l' : List Int} (h2 : OrdAt w o2 s.2 m2) (hd : ∀ j, m1 j → ¬ m2 j) (hm : ∀ j, m j ↔ (m1 j ∨ m2 j)) (hs2 : ∀ x ∈ s.2, x ∈ VS) (h1' : OrdAt w' o1 l' m1') (hf : Fr m1 w w' m1') (hl' : ∀ x ∈ l', x ∈ VS) :
    ∃ m', Ords VS o1 o2 (l', s.2) m' w' ∧ Fr m w w' m' :=
  ⟨fun j => m1' j ∨ m2 j, ⟨m1', m2, h1', h2.keep fun j hj => hf.keep j (h2.lt j hj) (fun e => hd j e hj), fun j a b => by
    rcases hf.mn j a with e | e
    · exact hd j e b
    · have := h2.lt j b; omega, fun j => Iff.rfl, hl', hs2⟩, hf.os, hf.tape, hf.output, hf.size, fun j hj hn => hf.keep j hj (fun e => hn ((hm j).2 (.inl e))), fun j hj => by
    rcases hj with e | e
    · rcases hf.mn j e with e | e
      · exact .inl ((hm j).2 (.inl e))
      · exact .inr e
    · exact .inl ((hm j).2 (.inr e))⟩
theorem Ords.two {VS : List Int} {o1 o2 : Nat} {s : List Int × List Int} {m m1 m2 m2' : Nat → Prop} {w w' : World} {l' : List Int} (h1 : OrdAt w o1 s.1 m1) (hd : ∀ j, m1 j → ¬ m2 j) (hm : ∀ j, m j ↔ (m1 j ∨ m2 j)) (hs1 : ∀ x ∈ s.1, x ∈ VS) (h2' : OrdAt w' o2 l' m2') (hf : Fr m2 w w' m2') (hl' : ∀ x ∈ l', x ∈ VS) :
    ∃ m', Ords VS o1 o2 (s.1, l') m' w' ∧ Fr m w w' m' :=
  ⟨fun j => m1 j ∨ m2' j, ⟨m1, m2', h1.keep fun j hj => hf.keep j (h1.lt j hj) (fun e => hd j hj e), h2', fun j a b => by
    rcases hf.mn j b with e | e
    · exact hd j a e
    · have := h1.lt j a; omega, fun j => Iff.rfl, hs1, hl'⟩, hf.os, hf.tape, hf.output, hf.size, fun j hj hn => hf.keep j hj (fun e => hn ((hm j).2 (.inr e))), fun j hj => by
    rcases hj with e | e
    · exact .inl ((hm j).2 (.inl e))
    · rcases hf.mn j e with e | e
      · exact .inl ((hm j).2 (.inr e))
      · exact .inr e⟩
/-- The numbers within are among these, and are numbers of 64 bits. -/
def inVS (VS : List Int) (k n v c : Int) (len : Nat) : Prop := (n ∈ VS ∧ v ∈ VS) ∧ (Lit.int .i64 n).wf = true ∧ (Lit.int .i64 v).wf = true
theorem vars_read (VS : List Int) (hVS : VS.length ≤ 3900000) (o1 o2 : Nat) (Ok : Nat → Prop) : ReadG Tryd.prog 41 #[.pointer (some ⟨o1, 0, none⟩)] (some (43, #[.pointer (some ⟨o2, 0, none⟩)])) varN varU (inVS VS) (fun v _ => v ∈ VS ∧ (Lit.int .i64 v).wf = true) Ok (Ords VS o1 o2) where
  keep := fun s m w w' ⟨m1, m2, h1, h2, hd, hm, hs⟩ _ hk _ => ⟨m1, m2, h1.keep fun j hj => hk j ((hm j).2 (.inl hj)), h2.keep fun j hj => hk j ((hm j).2 (.inr hj)), hd, hm, hs⟩
  lt := fun s m w ⟨m1, m2, h1, h2, hd, hm, hs⟩ j hj => by
    rcases (hm j).1 hj with e | e
    · exact h1.lt j e
    · exact h2.lt j e
  node := fun s m w b o k n v c A len cap hI hG a1 a2 a3 a4 a5 hb => by
    obtain ⟨m1, m2, h1, h2, hd, hm, hs1, hs2⟩ := hI
    refine (vars1_any o1 s.1 m1 k n b o w h1 (Nat.le_trans (nodup_le _ _ h1.nodup hs1) hVS) hG.2.1 a1 a2).mono ?_
    rintro e w1 ⟨rfl, m1', h1', hf⟩
    refine ⟨rfl, Ords.one h2 hd hm hs2 h1' hf ?_⟩
    split
    · exact addL_sub hs1 hG.1.1
    · exact hs1
  gm := fun k n v c len h _ => ⟨h.1.2, h.2.2⟩
  mu := fun gm cm e s m w b o v c hI hG a1 a2 hb => by
    injection e with e
    injection e with e1 e2
    subst e1 e2
    obtain ⟨m1, m2, h1, h2, hd, hm, hs1, hs2⟩ := hI
    refine (vars2_any o2 s.2 m2 v c b o w h2 (Nat.le_trans (nodup_le _ _ h2.nodup hs2) hVS) hG.2 a1 a2).mono ?_
    rintro e w1 ⟨rfl, m2', h2', hf⟩
    have h := Ords.two h1 hd hm hs1 h2' hf (by
      split
      · exact addL_sub hs2 hG.1
      · exact hs2)
    have e : (s.1, if c = 0 then addL s.2 v else s.2) = varU s v c := by
      unfold varU
      split <;> rfl
    rw [e] at h
    exact ⟨rfl, h⟩
theorem cell_upV {w : World} {b o : Nat} {x : Value} (hb : b < w.heap.size) (h : w.cell? ⟨b, o, none⟩ = some x) : ∀ n : Nat, (w.drewN n).cell? ⟨b, o, none⟩ = some x := fun n => ((Bel.refl w).drewN n).cell (p := ⟨b, o, none⟩) hb |>.trans h
/-- What Vars answers: two lists of numbers. -/
def VarsP (l1 l2 : List Int) (w : World) (e : Ending) (w' : World) : Prop := ∃ A1 c1 A2 c2, e = .returned (.tuple #[.slice A1 l1.length c1, .slice A2 l2.length c2]) ∧ RI .i64 w' w'.heap.size A1 l1.length l1 ∧ RI .i64 w' w'.heap.size A2 l2.length l2 ∧ Bel w w'
theorem OrdAt.read {w : World} {ob : Nat} {l : List Int} {m : Nat → Prop} (h : OrdAt w ob l m) : ∃ A cap, w.cell? ⟨ob, 0, none⟩ = some (.slice A l.length cap) ∧ RI .i64 w w.heap.size A l.length l := by
  obtain ⟨_, _, A, cap, M, hb, ho, _⟩ := h
  exact ⟨A, cap, by simp [World.cell?, hb], RI.of_own ho⟩
set_option maxRecDepth 100000 in
set_option maxHeartbeats 1000000 in
theorem vars_any (VS : List Int) (hVS : VS.length ≤ 3900000) (k n v c : Int) (A : Option Addr) (len cap : Nat) (kids : Fo) (w : World) (h : KidsAt w (Old w) A len cap kids) (hsz : kids.size ≤ 1400000) (hG : (Fo.cons k n v c kids .nil).All (inVS VS)) :
    Calls Tryd.prog 13 #[.agg #[.int .u8 k, .int .i64 n, .int .i64 v, .int .u8 c, .slice A len cap]] w (VarsP (Fo.cons k n v c kids .nil).varsF.1 (Fo.cons k n v c kids .nil).varsF.2 w) := by
  have H := Lib.hid h
  have HG := Lib.hid hG
  clear h hG
  go_enter Tryd.func13, Tryd.ntmps13
  go_wp2_with fail
  obtain ⟨q1, q2⟩ := blk2 w (.cells #[.int .u8 k, .int .i64 n, .int .i64 v, .int .u8 c, .slice A len cap] 27) (.cells #[.slice none 0 0, .map none] 76)
  have q3 := blk1 ((w.alloc (.cells #[.int .u8 k, .int .i64 n, .int .i64 v, .int .u8 c, .slice A len cap] 27)).alloc (.cells #[.slice none 0 0, .map none] 76)) (.cells #[.slice none 0 0, .map none] 76)
  have q1' := ((Bel.refl _).alloc (.cells #[.slice none 0 0, .map none] 76)).blk q1
  have q2' := ((Bel.refl _).alloc (.cells #[.slice none 0 0, .map none] 76)).blk q2
  have hb2 : Bel w (((w.alloc (.cells #[.int .u8 k, .int .i64 n, .int .i64 v, .int .u8 c, .slice A len cap] 27)).alloc (.cells #[.slice none 0 0, .map none] 76)).alloc (.cells #[.slice none 0 0, .map none] 76)) := (((Bel.refl w).alloc _).alloc _).alloc _
  have hs2 : (((w.alloc (.cells #[.int .u8 k, .int .i64 n, .int .i64 v, .int .u8 c, .slice A len cap] 27)).alloc (.cells #[.slice none 0 0, .map none] 76)).alloc (.cells #[.slice none 0 0, .map none] 76)).heap.size = w.heap.size + 3 := by simp
  have hs3 : ((w.alloc (.cells #[.int .u8 k, .int .i64 n, .int .i64 v, .int .u8 c, .slice A len cap] 27)).alloc (.cells #[.slice none 0 0, .map none] 76)).heap.size = w.heap.size + 1 + 1 := by simp
  rw [hs3] at q3
  obtain ⟨w2, hw2⟩ : ∃ w2, w2 = ((w.alloc (.cells #[.int .u8 k, .int .i64 n, .int .i64 v, .int .u8 c, .slice A len cap] 27)).alloc (.cells #[.slice none 0 0, .map none] 76)).alloc (.cells #[.slice none 0 0, .map none] 76) := ⟨_, rfl⟩
  rw [← hw2] at q1' q2' q3 hb2 hs2 ⊢
  clear q1 q2 hs3 hw2
  have hk2 : KidsAt w2 (fun j => j ≤ w.heap.size) A len cap kids := (H.out.keep fun _ hj => hb2.block _ hj).wide fun _ hj => Nat.le_of_lt hj
  have hI : Ords VS (w.heap.size + 1) (w.heap.size + 1 + 1) ([], []) (fun j => j = w.heap.size + 1 ∨ j = w.heap.size + 1 + 1) w2 :=
    ⟨_, _, ord_new w2 q2', ord_new w2 q3, fun j a b => by have e1 : j = _ := a; have e2 : j = _ := b; omega, fun j => Iff.rfl, fun x hx => (by cases hx), fun x hx => (by cases hx)⟩
  refine (through_readG (M := some (43, #[.pointer (some ⟨w.heap.size + 1 + 1, 0, none⟩)])) (vars_read VS hVS (w.heap.size + 1) (w.heap.size + 1 + 1) _) (enters_of Tryd.func41 (by kernel_rfl) rfl) (fun gm cm e => by injection e with e; injection e with e1 e2; subst e1; exact enters_of Tryd.func43 (by kernel_rfl) rfl) k n v c kids w.heap.size 0 w2 (fun j => j = w.heap.size + 1 ∨ j = w.heap.size + 1 + 1) ([], []) (Ok := fun j => j ≤ w.heap.size) (box_fo q1' hk2) HG.out (Nat.le_refl _) hI (fun j hj => ⟨by omega, fun e => by rcases e with e | e <;> omega⟩) hsz).mono ?_
  rintro e w3 ⟨rfl, m3, hI3, hfr⟩
  have hI4 : Ords VS (w.heap.size + 1) (w.heap.size + 1 + 1) (Fo.cons k n v c kids .nil).varsF m3 w3 := hI3
  obtain ⟨m1, m2, ho1, ho2, hd, hm, _, _⟩ := hI4
  obtain ⟨A1, p1, k1, r1⟩ := ho1.read
  obtain ⟨A2, p2, k2, r2⟩ := ho2.read
  have hb3 : Bel w w3 := ⟨hfr.os.trans hb2.os, hfr.tape.trans hb2.tape, hfr.output.trans hb2.output, Nat.le_trans hb2.size hfr.size, fun j hj => (hfr.keep j (by omega) (fun e => by rcases e with e | e <;> omega)).trans (hb2.block j hj)⟩
  have hl1 : w.heap.size + 1 < w3.heap.size := World.block_lt_of_cell? w3 _ k1
  have hl2 : w.heap.size + 1 + 1 < w3.heap.size := World.block_lt_of_cell? w3 _ k2
  have K1 := cell_upV hl1 k1
  have K2 := cell_upV hl2 k2
  have HB3 := Lib.hid hb3
  have HR1 := Lib.hid r1
  have HR2 := Lib.hid r2
  obtain ⟨l1, hl1'⟩ : ∃ l1, l1 = (Fo.cons k n v c kids .nil).varsF.1 := ⟨_, rfl⟩
  obtain ⟨l2, hl2'⟩ : ∃ l2, l2 = (Fo.cons k n v c kids .nil).varsF.2 := ⟨_, rfl⟩
  rw [← hl1'] at k1 K1 HR1
  rw [← hl2'] at k2 K2 HR2
  have HL := Lib.hid (And.intro hl1' hl2')
  clear q1' q2' q3 hb2 hs2 hk2 hI hI3 hfr ho1 ho2 hd hm r1 r2 hb3 hl1 hl2 hl1' hl2'
  go_wp2_with fail
  go_quiet (fail)
  go_wp2_with fail
  refine bodyPost_ret (v := .tuple #[.slice A1 l1.length p1, .slice A2 l2.length p2]) (by simp [results, Tryd.results13, go_sem]) rfl ?_
  rw [← HL.out.1, ← HL.out.2]
  exact ⟨A1, p1, A2, p2, rfl, HR1.out.bel ((Bel.refl w3).drewN _), HR2.out.bel ((Bel.refl w3).drewN _), HB3.out.on ((Bel.refl w3).drewN _)⟩
end Go.Proofs.YtkogcpcckpaldaaDoor.Mu

