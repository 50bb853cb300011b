/-
  Going through a type that is only looked at, where what is called asks something of multiplicities too.
-/
import Derived.Test.YtblgligagngpfaaDoorThruS
namespace Go.Proofs.YtblgligagngpfaaDoor.Mu
open Go.ChangeShapes Go.WideShapes Go.ChangeAt Go.RowKit Go.Shelf

/-- What is called only looks at the type, and keeps its own account. -/
structure ReadG (P : Program) (fo : Nat) (caps : Array Value) (M : Option (Nat × Array Value)) {σ : Type} (N : σ → Int → Int → Int → Int → Nat → σ × Bool) (U : σ → Int → Int → σ) (G : Int → Int → Int → Int → Nat → Prop) (Gm : Int → Int → Prop) (Ok : Nat → Prop) (Inv : σ → (Nat → Prop) → World → Prop) : Prop where
  keep : ∀ s m w w', Inv s m w → w.heap.size ≤ w'.heap.size → (∀ j, m j → w'.heap[j]? = w.heap[j]?) → (∀ j, Ok j → w'.heap[j]? = w.heap[j]?) → Inv s m w'
  lt : ∀ s m w, Inv s m w → ∀ j, m j → j < w.heap.size
  node : ∀ s m w b o k n v c A len cap, Inv s m w → G k n v c len → w.cell? ⟨b, o, none⟩ = some (.int .u8 k) → w.cell? ⟨b, o + 1, none⟩ = some (.int .i64 n) → w.cell? ⟨b, o + 2, none⟩ = some (.int .i64 v) → w.cell? ⟨b, o + 3, none⟩ = some (.int .u8 c) → w.cell? ⟨b, o + 4, none⟩ = some (.slice A len cap) → ¬ m b →
    Calls P fo (#[.pointer (some ⟨b, o, none⟩)] ++ caps) w fun e w1 => e = .returned (.bool (N s k n v c len).2) ∧ ∃ m', Inv (N s k n v c len).1 m' w1 ∧ Fr m w w1 m'
  gm : ∀ k n v c len, G k n v c len → k = 7 → Gm v c
  mu : ∀ gm cm, M = some (gm, cm) → ∀ s m w b o v c, Inv s m w → Gm v c → w.cell? ⟨b, o, none⟩ = some (.int .i64 v) → w.cell? ⟨b, o + 1, none⟩ = some (.int .u8 c) → ¬ m b →
    Calls P gm (#[.pointer (some ⟨b, o, none⟩)] ++ cm) w fun e w1 => e = .returned (.tuple #[]) ∧ ∃ m', Inv (U s v c) m' w1 ∧ Fr m w w1 m'
section
variable {P : Program} {fo : Nat} {caps : Array Value} {M : Option (Nat × Array Value)} {F : World → Prop} {σ : Type} {N : σ → Int → Int → Int → Int → Nat → σ × Bool} {U : σ → Int → Int → σ} {Ok : Nat → Prop} {G : Int → Int → Int → Int → Nat → Prop} {Gm : Int → Int → Prop} {Inv : σ → (Nat → Prop) → World → Prop}
theorem runs_pmG (C : ReadG P fo caps M N U G Gm Ok Inv) (pm : Option (Nat × Nat × Int × Int)) (is : List Itm) (k : Nat) (w : World) (O m : Nat → Prop) (s : σ)
    (hpm : ∀ b o v c, pm = some (b, o, v, c) → M.isSome = true ∧ Ok b ∧ Gm v c ∧ w.cell? ⟨b, o, none⟩ = some (.int .i64 v) ∧ w.cell? ⟨b, o + 1, none⟩ = some (.int .u8 c)) (hI : Inv s m w) (hS : Sep Ok m O w)
    (cont : ∀ w' O' m', ExtR w O m w' O' m' → Sep Ok m' O' w' → Inv (pmS U pm s) m' w' → Runs P fo caps M F k is w' O') : Runs P fo caps M F (k + (pmI pm).length) (pmI pm ++ is) w O := by
  match pm, hpm, cont with
  | none, _, cont => exact cont w O m (ExtR.refl fun j hj => (hS.own j hj).1) hS hI
  | some (b, o, v, c), hpm, cont =>
    obtain ⟨hm, hb, hgm, c0, c1⟩ := hpm b o v c rfl
    obtain ⟨⟨gm, cm⟩, hM⟩ := Option.isSome_iff_exists.1 hm
    refine ⟨gm, cm, hM, fun w1 O1 ht => ?_⟩
    have hbl := (hS.ok b hb).1
    have hbk := ht.keep b hbl (fun e => (hS.own b e).2.1 hb)
    have hI1 : Inv s m w1 := C.keep s m w w1 hI ht.size (fun j hj => ht.keep j (hS.mn j hj) (fun e => (hS.own j e).2.2 hj)) (fun j hj => ht.keep j (hS.ok j hj).1 (fun e => (hS.own j e).2.1 hj))
    refine (C.mu gm cm hM s m w1 b o v c hI1 hgm ((World.cell?_of_block (a := ⟨b, o, none⟩) hbk).trans c0) ((World.cell?_of_block (a := ⟨b, o + 1, none⟩) hbk).trans c1) (hS.ok b hb).2).mono ?_
    rintro e w2 ⟨h1, m2, h2, h3⟩
    have hx := ExtR.of ht h3
    have hS2 := hS.of ht h3 (C.lt _ _ _ h2)
    exact ⟨h1, ⟨h3.size, fun j hj => h3.keep j (ht.own j hj).2 (fun e => by
      rcases (ht.own j hj).1 with h | h
      · exact (hS.own j h).2.2 e
      · have := hS.mn j e; omega)⟩, cont w2 O1 m2 hx hS2 h2⟩
theorem runs_foG (C : ReadG P fo caps M N U G Gm Ok Inv) : ∀ (f : Fo) (pm : Option (Nat × Nat × Int × Int)) (b o : Nat) (is : List Itm) (k : Nat) (w : World) (O m : Nat → Prop) (s : σ), FoAt w Ok f b o → f.All G → (f ≠ .nil → Ok b) →
    (∀ b o v c, pm = some (b, o, v, c) → M.isSome = true ∧ Ok b ∧ Gm v c ∧ w.cell? ⟨b, o, none⟩ = some (.int .i64 v) ∧ w.cell? ⟨b, o + 1, none⟩ = some (.int .u8 c)) → Inv s m w → Sep Ok m O w → 2 * f.size + is.length ≤ 3000000 →
    (∀ w' O' m', ExtR w O m w' O' m' → Sep Ok m' O' w' → Inv (runF N U M.isSome f (pm.map fun m => (m.2.2.1, m.2.2.2)) s) m' w' → Runs P fo caps M F k is w' O') →
    Runs P fo caps M F (k + 2 * f.size + (pmI pm).length) ((ndsOf (some ⟨b, o, none⟩) 0 f.len).take 1 ++ (pmI pm ++ ndsOf (some ⟨b, o, none⟩) 1 f.len) ++ is) w O
  | .nil, pm, b, o, is, k, w, O, m, s, _, _, _, hpm, hI, hS, _, cont => by
    simp only [Fo.len, Fo.size, ndsOf_end (Nat.le_refl 0), ndsOf_end (Nat.zero_le 1), List.take_nil, List.nil_append, List.append_nil, Nat.mul_zero, Nat.add_zero]
    refine runs_pmG C pm is k w O m s hpm hI hS fun w' O' m' hx hs hi => cont w' O' m' hx hs ?_
    cases pm <;> exact hi
  | .cons kk n v c kids rest, pm, b, o, is, k, w, O, m, s, hf, hG, hb, hpm, hI, hS, hsz, cont => by
    obtain ⟨A, cap, a1, a2, a3, a4, a5, a6, a7, a8⟩ := hf
    have hOb := hb (by simp)
    simp only [Fo.len]
    rw [kids_cons, List.cons_append, List.append_assoc]
    simp only [Fo.size] at hsz ⊢
    have hlen : ((ndsOf (some ⟨b, o + 5, none⟩) 0 rest.len).take 1 ++ ([] ++ ndsOf (some ⟨b, o + 5, none⟩) 1 rest.len)).length ≤ rest.len := by
      cases hr : rest.len with
      | zero => rw [ndsOf_end (Nat.le_refl _), ndsOf_end (by omega)]; simp
      | succ m =>
        have := ndsOf_len (some ⟨b, o + 5, none⟩) 1 (m + 1)
        simp only [List.length_append, List.length_take, List.nil_append] at *
        omega
    have hrl := rest.len_le
    have hkl := kids.len_le
    -- what comes behind the node and what is within
    have behind : ∀ (w2 : World) (O2 m2 : Nat → Prop) (s2 : σ), ExtR w O m w2 O2 m2 → Sep Ok m2 O2 w2 → Inv s2 m2 w2 → (runF N U M.isSome rest none (pmS U pm s2) = runF N U M.isSome (.cons kk n v c kids rest) (pm.map fun m => (m.2.2.1, m.2.2.2)) s) →
        Runs P fo caps M F (k + 2 * rest.size + (pmI pm).length) (pmI pm ++ (((ndsOf (some ⟨b, o + 5, none⟩) 0 rest.len).take 1 ++ ([] ++ ndsOf (some ⟨b, o + 5, none⟩) 1 rest.len)) ++ is)) w2 O2 := fun w2 O2 m2 s2 hx hS2 hi he => by
      have hk2 := hx.okk hS
      refine runs_pmG (Ok := Ok) C pm _ _ w2 O2 m2 s2 (fun b' o' v' c' e => ?_) hi hS2 fun w3 O3 m3 hx3 hS3 hi3 => ?_
      · obtain ⟨h1, h2, hgm, h3, h4⟩ := hpm b' o' v' c' e
        exact ⟨h1, h2, hgm, (World.cell?_of_block (a := ⟨b', o', none⟩) (hk2 b' h2)).trans h3, (World.cell?_of_block (a := ⟨b', o' + 1, none⟩) (hk2 b' h2)).trans h4⟩
      · have hx13 := hx.trans hx3
        have h := runs_foG C rest none b (o + 5) is k w3 O3 m3 _ (FoAt.keep (hx13.okk hS) rest b (o + 5) hOb a8) hG.2.2 (fun _ => hOb) (fun _ _ _ _ e => by cases e) hi3 hS3 (by omega) (fun w4 O4 m4 hx4 hS4 hi4 => cont w4 O4 m4 (hx13.trans hx4) hS4 (by rw [← he]; exact hi4))
        simpa [pmI] using h
    rw [show k + 2 * (1 + kids.size + rest.size) + (pmI pm).length = (k + 2 * rest.size + (pmI pm).length + 2 * kids.size + 1) + 1 by omega]
    intro w1 O1 ht
    have hbk := ht.keep b (hS.ok b hOb).1 (fun e => (hS.own b e).2.1 hOb)
    have cc : ∀ o', w1.cell? ⟨b, o', none⟩ = w.cell? ⟨b, o', none⟩ := fun o' => World.cell?_of_block (a := ⟨b, o', none⟩) hbk
    have hI1 : Inv s m w1 := C.keep s m w w1 hI ht.size (fun j hj => ht.keep j (hS.mn j hj) (fun e => (hS.own j e).2.2 hj)) (fun j hj => ht.keep j (hS.ok j hj).1 (fun e => (hS.own j e).2.1 hj))
    refine (C.node s m w1 b o kk n v c A kids.len cap hI1 hG.1 ((cc _).trans a1) ((cc _).trans a2) ((cc _).trans a3) ((cc _).trans a4) ((cc _).trans a5) (hS.ok b hOb).2).mono ?_
    rintro e w2 ⟨h1, m2, h2, h3⟩
    have hx := ExtR.of ht h3
    have hS2 := hS.of ht h3 (C.lt _ _ _ h2)
    have hk2 := hx.okk hS
    have c2 : ∀ o', w2.cell? ⟨b, o', none⟩ = w.cell? ⟨b, o', none⟩ := fun o' => World.cell?_of_block (a := ⟨b, o', none⟩) (hk2 b hOb)
    refine ⟨_, h1, ⟨h3.size, fun j hj => h3.keep j (ht.own j hj).2 (fun e => by
      rcases (ht.own j hj).1 with h | h
      · exact (hS.own j h).2.2 e
      · have := hS.mn j e; omega)⟩, fun hg => ?_, fun hg => ?_⟩
    · refine (behind w2 O1 m2 _ hx hS2 h2 ?_).le (by omega)
      simp only [runF, hg]
      cases pm <;> rfl
    · refine ⟨kk, A, kids.len, cap, ⟨(c2 _).trans a1, (c2 _).trans a5, fun h0 => ?_⟩, fun e => (hS2.own b e).2.1 hOb, ?_, ?_⟩
      · obtain ⟨b', o', e, _⟩ := a7 h0
        exact ⟨b', o', e⟩
      · have : (pmI pm).length ≤ 1 := by unfold pmI; split <;> simp
        rw [List.length_append, List.length_append]
        omega
      · have hit : kidsOf M.isSome kk b o A kids.len = (ndsOf A 0 kids.len).take 1 ++ (muOf M.isSome kk b o ++ ndsOf A 1 kids.len) := rfl
        rw [hit]
        obtain ⟨b', o', hk1, hk2', hk3, hk4⟩ : ∃ b' o', FoAt w2 Ok kids b' o' ∧ (kids ≠ .nil → Ok b') ∧ ndsOf A 0 kids.len = ndsOf (some ⟨b', o', none⟩) 0 kids.len ∧ ndsOf A 1 kids.len = ndsOf (some ⟨b', o', none⟩) 1 kids.len := by
          by_cases h0 : kids.len = 0
          · obtain rfl := Fo.len_zero h0
            refine ⟨0, 0, trivial, fun h => absurd rfl h, ?_, ?_⟩
            · show ndsOf A 0 0 = ndsOf _ 0 0
              rw [ndsOf_end (Nat.le_refl _), ndsOf_end (Nat.le_refl _)]
            · show ndsOf A 1 0 = ndsOf _ 1 0
              rw [ndsOf_end (Nat.zero_le _), ndsOf_end (Nat.zero_le _)]
          · obtain ⟨b', o', e, h5, h6⟩ := a7 (by omega)
            subst e
            exact ⟨b', o', FoAt.keep hk2 kids b' o' h5 h6, fun _ => h5, rfl, rfl⟩
        rw [hk3, hk4]
        obtain ⟨pm', hpm'⟩ : ∃ pm', pm' = if kk = 7 ∧ M.isSome = true then some (b, o + 2, v, c) else none := ⟨_, rfl⟩
        have hmu : muOf M.isSome kk b o = pmI pm' := by
          rw [hpm']
          unfold muOf
          split <;> rfl
        rw [hmu]
        have hpl : (pmI pm').length ≤ 1 := by unfold pmI; split <;> simp
        have hpl2 : (pmI pm).length ≤ 1 := by unfold pmI; split <;> simp
        refine (runs_foG C kids pm' b' o' _ (k + 2 * rest.size + (pmI pm).length) w2 O1 m2 _ hk1 hG.2.1 hk2' (fun b5 o5 v5 c5 e5 => ?_) h2 hS2 (by rw [List.length_append, List.length_append]; omega) fun w3 O3 m3 hx3 hS3 hi3 => behind w3 O3 m3 _ (hx.trans hx3) hS3 hi3 ?_).le (by omega)
        · rw [hpm'] at e5
          split at e5
          · rename_i h7
            cases e5
            exact ⟨h7.2, hOb, C.gm kk n v c kids.len hG.1 h7.1, (c2 _).trans a3, (c2 _).trans a4⟩
          · cases e5
        · simp only [runF, hg, if_true]
          have e6 : (pm'.map fun m => (m.2.2.1, m.2.2.2)) = if kk = 7 ∧ M.isSome = true then some (v, c) else none := by
            rw [hpm']
            split <;> rfl
          rw [e6]
          cases pm <;> rfl
end
theorem through_readG {M : Option (Nat × Array Value)} {fo : Nat} {caps : Array Value} {σ : Type} {N : σ → Int → Int → Int → Int → Nat → σ × Bool} {U : σ → Int → Int → σ} {Ok : Nat → Prop} {G : Int → Int → Int → Int → Nat → Prop} {Gm : Int → Int → Prop} {Inv : σ → (Nat → Prop) → World → Prop} (C : ReadG Tryd.prog fo caps M N U G Gm Ok Inv) (eg : ∀ args w, (callFunc fo args).run Tryd.prog w = .ok (.enter fo args) w) (em : ∀ gm cm, M = some (gm, cm) → ∀ args w, (callFunc gm args).run Tryd.prog w = .ok (.enter gm args) w)
    (k n v c : Int) (kids : Fo) (b o : Nat) (w : World) (m : Nat → Prop) (s : σ) (hf : FoAt w Ok (.cons k n v c kids .nil) b o) (hG : (Fo.cons k n v c kids .nil).All G) (hb : Ok b) (hI : Inv s m w) (hOk : ∀ j, Ok j → j < w.heap.size ∧ ¬ m j) (hsz : kids.size ≤ 1400000) :
    Calls Tryd.prog 27 #[.pointer (some ⟨b, o, none⟩), .func (.func fo) #[] caps, mval M] w fun e w' => e = .returned (.tuple #[]) ∧ ∃ m', Inv (runF N U M.isSome (.cons k n v c kids .nil) none s) m' w' ∧ Fr m w w' m' := by
  have hR : Runs Tryd.prog fo caps M (fun w' => ∃ m', Inv (runF N U M.isSome (.cons k n v c kids .nil) none s) m' w' ∧ Fr m w w' m') (0 + 2 * (Fo.cons k n v c kids .nil).size + (pmI none).length) ((ndsOf (some ⟨b, o, none⟩) 0 (Fo.cons k n v c kids .nil).len).take 1 ++ (pmI none ++ ndsOf (some ⟨b, o, none⟩) 1 (Fo.cons k n v c kids .nil).len) ++ []) w (fun _ => False) := by
    refine runs_foG C (.cons k n v c kids .nil) none b o [] 0 w (fun _ => False) m s hf hG (fun _ => hb) (fun _ _ _ _ e => by cases e) hI ⟨fun _ h => h.elim, hOk, C.lt s m w hI⟩ (by simp only [Fo.size, List.length_nil]; omega) fun w' O' m' hx hS hi => ?_
    intro w2 O2 ht
    have hmn : ∀ j, m' j → w2.heap[j]? = w'.heap[j]? := fun j hj => ht.keep j (C.lt _ _ _ hi j hj) (fun e => (hS.own j e).2.2 hj)
    exact ⟨m', C.keep _ _ _ _ hi ht.size hmn (fun j hj => ht.keep j (hS.ok j hj).1 (fun e => (hS.own j e).2.1 hj)), ht.os.trans hx.os, ht.tape.trans hx.tape, ht.output.trans hx.output, Nat.le_trans hx.size ht.size, fun j hj hn => (ht.keep j (Nat.lt_of_lt_of_le hj hx.size) (fun e => by rcases (hx.own j e).1 with h | h; exact h; omega)).trans (hx.keep j hj (fun h => h) hn), hx.mn⟩
  have e : (ndsOf (some ⟨b, o, none⟩) 0 (Fo.cons k n v c kids .nil).len).take 1 ++ (pmI none ++ ndsOf (some ⟨b, o, none⟩) 1 (Fo.cons k n v c kids .nil).len) ++ [] = [.nd b o] := by
    simp [Fo.len, pmI, ndsOf]
  rw [e] at hR
  match M, C, em, hR with
  | none, C, _, hR => exact through_one fo caps _ eg _ b o w hR
  | some (gm, cm), C, em, hR => exact through_two fo caps _ eg gm cm (em gm cm rfl) _ b o w hR
end Go.Proofs.YtblgligagngpfaaDoor.Mu

