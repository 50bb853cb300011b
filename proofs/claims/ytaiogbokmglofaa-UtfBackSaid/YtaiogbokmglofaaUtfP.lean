/-
  Points in memory; what a text is: too long, code points, or code points and then bytes that are none.
-/
import Derived.Test.YtaiogbokmglofaaUtfR
namespace Go.Proofs.Ytaiogbokmglofaa.Mu
open Go.RowKit Go.Shelf

def Pn.cells (x : Pn) : List Value := [.int .i32 x.r, .int .i64 x.p.a, .int .i64 x.p.l, .int .i64 x.p.c]
def flatP (xs : List Pn) : List Value := xs.flatMap Pn.cells
theorem flatP_len (xs : List Pn) : (flatP xs).length = xs.length * 4 := by
  induction xs with
  | nil => rfl
  | cons x xs ih => simp only [flatP, List.flatMap_cons, List.length_append, List.length_cons, Pn.cells, List.length_nil] at *; omega
theorem flatP_snoc (xs : List Pn) (x : Pn) : flatP (xs ++ [x]) = flatP xs ++ x.cells := by simp [flatP]
theorem own_nP {w : World} {base n c : Nat} {e : TypeId} {A : Option Addr} {xs : List Pn} (h : w.ownsRow base e 4 (.slice A n c) n (flatP xs)) : n = xs.length := by
  have h1 := h.1; rw [flatP_len] at h1; omega

/-- A slice value reads as a list of points. -/
def RP (w : World) (B : Nat) (A : Option Addr) (n : Nat) (xs : List Pn) : Prop :=
  n = xs.length ∧ (0 < n → ∃ b off, A = some ⟨b, off, none⟩ ∧ b < B ∧ ∀ (k : Nat) (x : Pn), xs[k]? = some x → w.cell? ⟨b, off + k * 4, none⟩ = some (.int .i32 x.r) ∧ w.cell? ⟨b, off + k * 4 + 1, none⟩ = some (.int .i64 x.p.a) ∧ w.cell? ⟨b, off + k * 4 + 2, none⟩ = some (.int .i64 x.p.l) ∧ w.cell? ⟨b, off + k * 4 + 3, none⟩ = some (.int .i64 x.p.c))
section
variable {w w' : World} {B B' n : Nat} {A : Option Addr} {xs : List Pn}
theorem RP.nil_ : RP w B A 0 [] := ⟨rfl, fun h => absurd h (by omega)⟩
theorem RP.len (h : RP w B A n xs) : n = xs.length := h.1
theorem RP.at_ (h : RP w B A n xs) (hn : 0 < n) : ∃ b off, A = some ⟨b, off, none⟩ ∧ b < B ∧ ∀ (k : Nat) (x : Pn), xs[k]? = some x → w.cell? ⟨b, off + k * 4, none⟩ = some (.int .i32 x.r) ∧ w.cell? ⟨b, off + k * 4 + 1, none⟩ = some (.int .i64 x.p.a) ∧ w.cell? ⟨b, off + k * 4 + 2, none⟩ = some (.int .i64 x.p.l) ∧ w.cell? ⟨b, off + k * 4 + 3, none⟩ = some (.int .i64 x.p.c) := h.2 hn
theorem RP.keep (h : RP w B A n xs) (hk : ∀ b o, b < B → w'.cell? ⟨b, o, none⟩ = w.cell? ⟨b, o, none⟩) : RP w' B A n xs :=
  ⟨h.1, fun hn => by
    obtain ⟨b, off, e, hb, hc⟩ := h.2 hn
    exact ⟨b, off, e, hb, fun k x hx => by rw [hk _ _ hb, hk _ _ hb, hk _ _ hb, hk _ _ hb]; exact hc k x hx⟩⟩
theorem RP.more (h : RP w B A n xs) (hB : B ≤ B') : RP w B' A n xs :=
  ⟨h.1, fun hn => by
    obtain ⟨b, off, e, hb, hc⟩ := h.2 hn
    exact ⟨b, off, e, by omega, hc⟩⟩
theorem RP.bel (h : RP w w.heap.size A n xs) (hb : Bel w w') : RP w' w'.heap.size A n xs := (h.keep fun b o hp => hb.cell (p := ⟨b, o, none⟩) hp).more hb.size
theorem flatP_get : ∀ (xs : List Pn) (k : Nat) (x : Pn), xs[k]? = some x → (flatP xs)[k * 4]? = some (.int .i32 x.r) ∧ (flatP xs)[k * 4 + 1]? = some (.int .i64 x.p.a) ∧ (flatP xs)[k * 4 + 2]? = some (.int .i64 x.p.l) ∧ (flatP xs)[k * 4 + 3]? = some (.int .i64 x.p.c)
  | [], k, x, h => by simp at h
  | y :: xs, 0, x, h => by
    simp at h; subst h
    simp [flatP, Pn.cells]
  | y :: xs, k + 1, x, h => by
    have ih := flatP_get xs k x (by simpa using h)
    have e : flatP (y :: xs) = y.cells ++ flatP xs := by simp [flatP]
    have hl : y.cells.length = 4 := rfl
    rw [e]
    refine ⟨?_, ?_, ?_, ?_⟩
    · rw [List.getElem?_append_right (by omega), hl, show (k + 1) * 4 - 4 = k * 4 by omega]; exact ih.1
    · rw [List.getElem?_append_right (by omega), hl, show (k + 1) * 4 + 1 - 4 = k * 4 + 1 by omega]; exact ih.2.1
    · rw [List.getElem?_append_right (by omega), hl, show (k + 1) * 4 + 2 - 4 = k * 4 + 2 by omega]; exact ih.2.2.1
    · rw [List.getElem?_append_right (by omega), hl, show (k + 1) * 4 + 3 - 4 = k * 4 + 3 by omega]; exact ih.2.2.2
theorem RP.of_own {base c : Nat} {e : TypeId} (h : w.ownsRow base e 4 (.slice A n c) n (flatP xs)) : RP w w.heap.size A n xs := by
  refine ⟨own_nP h, fun hn => ?_⟩
  obtain ⟨g, cap, hv, _, hlt⟩ := h.form hn
  have hA : A = some ⟨g, 0, none⟩ := by injection hv
  subst hA
  refine ⟨g, 0, rfl, hlt, fun k x hx => ?_⟩
  obtain ⟨a0, a1, a2, a3⟩ := flatP_get xs k x hx
  have c0 := h.cells (g := g) rfl _ _ a0
  have c1 := h.cells (g := g) rfl _ _ a1
  have c2 := h.cells (g := g) rfl _ _ a2
  have c3 := h.cells (g := g) rfl _ _ a3
  rw [Addr.add_lit] at c0 c1 c2 c3
  exact ⟨c0, by rw [Nat.add_assoc]; exact c1, by rw [Nat.add_assoc]; exact c2, by rw [Nat.add_assoc]; exact c3⟩
end

/-- Code points with their places. -/
def place (p : Pl) : List Int → List Pn
  | [] => []
  | c :: cs => ⟨c, p⟩ :: place (p.next c) cs
def ends (p : Pl) (cs : List Int) : Pl := cs.foldl Pl.next p
theorem ends_snoc (p : Pl) (cs : List Int) (c : Int) : ends p (cs ++ [c]) = (ends p cs).next c := by simp [ends]
theorem ends_app (p : Pl) (cs ds : List Int) : ends p (cs ++ ds) = ends (ends p cs) ds := by simp [ends]
theorem place_app : ∀ (p : Pl) (cs ds : List Int), place p (cs ++ ds) = place p cs ++ place (ends p cs) ds
  | p, [], ds => rfl
  | p, c :: cs, ds => by
    show _ :: place (p.next c) (cs ++ ds) = _
    rw [place_app (p.next c) cs ds]; rfl
theorem place_snoc (p : Pl) (cs : List Int) (c : Int) : place p (cs ++ [c]) = place p cs ++ [⟨c, ends p cs⟩] := by rw [place_app]; rfl
theorem place_len : ∀ (p : Pl) (cs : List Int), (place p cs).length = cs.length
  | _, [] => rfl
  | p, c :: cs => by show (place (p.next c) cs).length + 1 = _; rw [place_len]; rfl
theorem place_get : ∀ (p : Pl) (cs : List Int) (k : Nat) (c : Int), cs[k]? = some c → (place p cs)[k]? = some ⟨c, ends p (cs.take k)⟩
  | p, d :: cs, 0, c, h => by simp at h; subst h; rfl
  | p, d :: cs, k + 1, c, h => by
    have := place_get (p.next d) cs k c (by simpa using h)
    simpa [place, ends] using this
def p0 : Pl := ⟨0, 1, 1⟩
def AllCp (cs : List Int) : Prop := ∀ c ∈ cs, cpB c = true
theorem AllCp.cons {c : Int} {cs : List Int} (h : AllCp (c :: cs)) : cpB c = true ∧ AllCp cs := ⟨h c (by simp), fun d hd => h d (by simp [hd])⟩
theorem AllCp.take {cs : List Int} (h : AllCp cs) (k : Nat) : AllCp (cs.take k) := fun c hc => h c (List.mem_of_mem_take hc)
theorem AllCp.app {cs ds : List Int} (h : AllCp cs) (k : AllCp ds) : AllCp (cs ++ ds) := fun c hc => (List.mem_append.1 hc).elim (h c) (k c)
theorem encs_cons (c : Int) (cs : List Int) : encs (c :: cs) = enc c ++ encs cs := rfl
theorem encs_app (cs ds : List Int) : encs (cs ++ ds) = encs cs ++ encs ds := by simp [encs]
theorem encs_len_ge {cs : List Int} (h : AllCp cs) : cs.length ≤ (encs cs).length := by
  induction cs with
  | nil => simp
  | cons c cs ih =>
    have h1 := enc_len h.cons.1
    have h2 := wid_pos c
    have := ih h.cons.2
    rw [encs_cons, List.length_append, List.length_cons]; omega
/-- The places' numbers, by the bytes ahead. -/
theorem ends_a {cs : List Int} (h : AllCp cs) (p : Pl) : (ends p cs).a = p.a + ((encs cs).length : Int) := by
  induction cs generalizing p with
  | nil => simp [ends, encs]
  | cons c cs ih =>
    have h1 := enc_len h.cons.1
    have e : (p.next c).a = p.a + wid c := by unfold Pl.next; split <;> rfl
    show (ends (p.next c) cs).a = _
    rw [ih h.cons.2, e, encs_cons, List.length_append, h1]; omega
theorem ends_lc (cs : List Int) (p : Pl) (hl : 0 ≤ p.l) (hc : 0 ≤ p.c) : 0 ≤ (ends p cs).l ∧ (ends p cs).l ≤ p.l + cs.length ∧ 0 ≤ (ends p cs).c ∧ (ends p cs).c ≤ p.c + 1 + cs.length := by
  induction cs generalizing p with
  | nil => simp [ends]; omega
  | cons c cs ih =>
    have h : 0 ≤ (p.next c).l ∧ (p.next c).l ≤ p.l + 1 ∧ 0 ≤ (p.next c).c ∧ (p.next c).c ≤ p.c + 1 := by unfold Pl.next; split <;> simp <;> omega
    have := ih (p.next c) h.1 h.2.2.1
    show 0 ≤ (ends (p.next c) cs).l ∧ _ ≤ _ ∧ 0 ≤ (ends (p.next c) cs).c ∧ _ ≤ _
    rw [List.length_cons]
    show 0 ≤ (ends (p.next c) cs).l ∧ (ends (p.next c) cs).l ≤ _ ∧ 0 ≤ (ends (p.next c) cs).c ∧ (ends (p.next c) cs).c ≤ _
    omega
theorem ends_sm {cs : List Int} (h : AllCp cs) {n : Nat} (hn : (encs cs).length ≤ n) : (ends p0 cs).sm (n + 2) := by
  have h1 := ends_a h p0
  have h2 := ends_lc cs p0 (by decide) (by decide)
  have h3 := encs_len_ge h
  have e1 : p0.a = 0 := rfl
  have e2 : p0.l = 1 := rfl
  have e3 : p0.c = 1 := rfl
  rw [e1] at h1
  rw [e2, e3] at h2
  unfold Pl.sm
  omega

/-- What a text's bytes are: code points, and bytes with which none begins. -/
structure Cps (L : List UInt8) (cs : List Int) (rest : List UInt8) : Prop where
  cp : AllCp cs
  eq : L = encs cs ++ rest
  no : ∀ c, cpB c = true → ¬ enc c <+: rest
theorem enc_ne {c : Int} (h : cpB c = true) : enc c ≠ [] := fun e => by
  have h1 := enc_len h
  have h2 := wid_pos c
  rw [e] at h1; simp at h1; omega
theorem Cps.nil {cs : List Int} (h : AllCp cs) : Cps (encs cs) cs [] := ⟨h, by simp, fun c hc hp => enc_ne hc (List.prefix_nil.1 hp)⟩
open Classical in
theorem cps_ex : ∀ (n : Nat) (L : List UInt8), L.length ≤ n → ∃ cs rest, Cps L cs rest
  | 0, L, h => ⟨[], L, fun c hc => by simp at hc, by simp [encs], fun c hc hp => by
    have : L = [] := List.eq_nil_of_length_eq_zero (by omega)
    rw [this] at hp
    exact enc_ne hc (List.prefix_nil.1 hp)⟩
  | n + 1, L, h => by
    by_cases hx : ∃ c, cpB c = true ∧ enc c <+: L
    · obtain ⟨c, hc, r, hr⟩ := hx
      have h1 := enc_len hc
      have h2 := wid_pos c
      have : r.length ≤ n := by rw [← hr, List.length_append] at h; omega
      obtain ⟨cs, rest, hcs⟩ := cps_ex n r this
      exact ⟨c :: cs, rest, fun d hd => (List.mem_cons.1 hd).elim (fun e => e ▸ hc) (hcs.cp d), by rw [encs_cons, List.append_assoc, ← hcs.eq, hr], hcs.no⟩
    · exact ⟨[], L, fun c hc => by simp at hc, by simp [encs], fun c hc hp => hx ⟨c, hc, hp⟩⟩
/-- One code point's bytes are not the beginning of another's. -/
theorem enc_pre {c d : Int} {L : List UInt8} (hc : cpB c = true) (hd : cpB d = true) (h1 : enc c <+: L) (h2 : enc d <+: L) : c = d := by
  have e1 := dec_of_enc (s := ⟨L.toArray⟩) (i := 0) hc (by simpa using h1)
  have e2 := dec_of_enc (s := ⟨L.toArray⟩) (i := 0) hd (by simpa using h2)
  rw [e1] at e2
  have := (Prod.mk.inj e2).1
  have b1 := (cpB_iff c).1 hc
  have b2 := (cpB_iff d).1 hd
  omega
theorem Cps.uniq {L : List UInt8} {cs ds : List Int} {r q : List UInt8} (h : Cps L cs r) (k : Cps L ds q) : cs = ds ∧ r = q := by
  induction cs generalizing L ds with
  | nil =>
    cases ds with
    | nil => exact ⟨rfl, by have := h.eq; rw [k.eq] at this; simpa [encs] using this.symm⟩
    | cons d ds =>
      exfalso
      have e := h.eq
      rw [k.eq, encs_cons, List.append_assoc] at e
      exact h.no d k.cp.cons.1 ⟨_, by simpa [encs] using e⟩
  | cons c cs ih =>
    cases ds with
    | nil =>
      exfalso
      have e := k.eq
      rw [h.eq, encs_cons, List.append_assoc] at e
      exact k.no c h.cp.cons.1 ⟨_, by simpa [encs] using e⟩
    | cons d ds =>
      have e : enc c ++ (encs cs ++ r) = enc d ++ (encs ds ++ q) := by
        have := h.eq
        rw [k.eq, encs_cons, encs_cons, List.append_assoc, List.append_assoc] at this
        exact this.symm
      have e1 := enc_pre h.cp.cons.1 k.cp.cons.1 (L := enc c ++ (encs cs ++ r)) ⟨_, rfl⟩ ⟨_, e.symm⟩
      subst e1
      have e2 := List.append_cancel_left e
      obtain ⟨a, b⟩ := ih (L := encs cs ++ r) (ds := ds) ⟨h.cp.cons.2, rfl, h.no⟩ ⟨k.cp.cons.2, e2, k.no⟩
      exact ⟨by rw [a], b⟩
/-- The code point at a number, where its bytes begin. -/
theorem Cps.at_ {s : ByteArray} {cs : List Int} {r : List UInt8} (h : Cps s.data.toList cs r) {k : Nat} {c : Int} (hk : cs[k]? = some c) :
    cpB c = true ∧ enc c <+: s.data.toList.drop (encs (cs.take k)).length ∧ (encs (cs.take (k + 1))).length = (encs (cs.take k)).length + wid c ∧ (encs (cs.take k)).length < s.size := by
  have hlt := (List.getElem?_eq_some_iff.1 hk).1
  have hc : cpB c = true := h.cp c (by rw [← (List.getElem?_eq_some_iff.1 hk).2]; exact List.getElem_mem hlt)
  have e1 : cs.take (k + 1) = cs.take k ++ [c] := by
    rw [List.take_succ_eq_append_getElem hlt, (List.getElem?_eq_some_iff.1 hk).2]
  have e2 : cs = cs.take k ++ c :: cs.drop (k + 1) := by
    conv => lhs; rw [← List.take_append_drop (k + 1) cs, e1]
    simp
  have e3 : s.data.toList = encs (cs.take k) ++ (enc c ++ (encs (cs.drop (k + 1)) ++ r)) := by
    conv => lhs; rw [h.eq, e2]
    simp [encs_app, encs_cons, List.append_assoc]
  have h1 := enc_len hc
  have h2 := wid_pos c
  refine ⟨hc, ?_, ?_, ?_⟩
  · rw [e3, List.drop_left]; exact ⟨_, rfl⟩
  · rw [e1, encs_app, List.length_append]; simp [encs, h1]
  · have : s.data.toList.length = s.size := by rw [Array.length_toList]; rfl
    rw [e3, List.length_append, List.length_append] at this
    omega
end Go.Proofs.Ytaiogbokmglofaa.Mu

