/-
  What Canon's answer is, in plain words: variables renamed by their places.
-/
import Derived.Test.YtblgligagngpfaaDoorTyVC
import Derived.Test.YtblgligagngpfaaDoorTyPuta
import Derived.Test.YtblgligagngpfaaDoorTyInjL
namespace Go.Proofs.YtblgligagngpfaaDoor.Mu
open Go.RowKit Go

set_option linter.unusedVariables false

theorem posIn_idx : ∀ (r : List Int) (x : Int), r.Nodup → x ∈ r → posIn r x = r.reverse.idxOf x
  | [], x, _, h => by cases h
  | y :: r, x, hn, h => by
    rw [List.nodup_cons] at hn
    rw [List.reverse_cons, List.idxOf_append]
    by_cases e : x = y
    · subst e
      rw [if_neg (by simpa using hn.1)]
      simp [posIn]
    · have hx : x ∈ r := by
        rcases List.mem_cons.1 h with h | h
        · exact absurd h e
        · exact h
      rw [if_pos (by simpa using hx)]
      simp only [posIn, if_neg e]
      exact posIn_idx r x hn.2 hx
theorem posL_idx {l : List Int} {x : Int} (hn : l.Nodup) (hx : x ∈ l) : posL l x = l.idxOf x := by
  unfold posL
  rw [posIn_idx _ _ (by unfold List.Nodup; rw [List.pairwise_reverse]; exact List.Pairwise.imp (fun h => Ne.symm h) hn) (by simpa using hx), List.reverse_reverse]
/-- Numbers are put in the places of variables. -/
def Fo.ren (ρ μ : Int → Int) : Fo → Fo
  | .nil => .nil
  | .cons k n v c kids rest => .cons k (if k = 1 then ρ n else n) (if k = 7 ∧ c = 0 then μ v else v) c (Fo.ren ρ μ kids) (Fo.ren ρ μ rest)
theorem ren_len (ρ μ : Int → Int) : ∀ f : Fo, (f.ren ρ μ).len = f.len
  | .nil => rfl
  | .cons k n v c kids rest => by simp [Fo.ren, Fo.len, ren_len ρ μ rest]
theorem ren_size (ρ μ : Int → Int) : ∀ f : Fo, (f.ren ρ μ).size = f.size
  | .nil => rfl
  | .cons k n v c kids rest => by simp [Fo.ren, Fo.size, ren_size ρ μ kids, ren_size ρ μ rest]
theorem ren_ren (ρ μ ρ' μ' : Int → Int) : ∀ f : Fo, (f.ren ρ μ).ren ρ' μ' = f.ren (fun x => ρ' (ρ x)) (fun x => μ' (μ x))
  | .nil => rfl
  | .cons k n v c kids rest => by
    simp only [Fo.ren, ren_ren ρ μ ρ' μ' kids, ren_ren ρ μ ρ' μ' rest]
    by_cases h1 : k = 1 <;> by_cases h7 : k = 7 ∧ c = 0 <;> simp [h1, h7]
theorem ren_id : ∀ f : Fo, f.ren (fun x => x) (fun x => x) = f
  | .nil => rfl
  | .cons k n v c kids rest => by simp [Fo.ren, ren_id kids, ren_id rest]
/-- The lists go on. -/
def Ext2 (s s' : List Int × List Int) : Prop := (∃ a, s'.1 = s.1 ++ a) ∧ ∃ b, s'.2 = s.2 ++ b
theorem Ext2.refl (s : List Int × List Int) : Ext2 s s := ⟨⟨[], by simp⟩, ⟨[], by simp⟩⟩
theorem Ext2.trans {s t u : List Int × List Int} (h : Ext2 s t) (k : Ext2 t u) : Ext2 s u := by
  obtain ⟨⟨a, ha⟩, ⟨b, hb⟩⟩ := h
  obtain ⟨⟨a', ha'⟩, ⟨b', hb'⟩⟩ := k
  exact ⟨⟨a ++ a', by rw [ha', ha, List.append_assoc]⟩, ⟨b ++ b', by rw [hb', hb, List.append_assoc]⟩⟩
theorem addL_ext (l : List Int) (x : Int) : ∃ a, addL l x = l ++ a := by
  unfold addL
  split
  · exact ⟨[], by simp⟩
  · exact ⟨[x], rfl⟩
theorem addL_mem (l : List Int) (x : Int) : x ∈ addL l x := by
  unfold addL
  split
  · assumption
  · simp
theorem addL_nodup {l : List Int} (x : Int) (h : l.Nodup) : (addL l x).Nodup := by
  unfold addL
  split
  · exact h
  · rename_i hx
    rw [List.nodup_append]
    exact ⟨h, by simp, fun a ha b hb => by rw [List.mem_singleton] at hb; subst hb; intro e; subst e; exact hx ha⟩
theorem varN_ext (s : List Int × List Int) (k n v c : Int) (l : Nat) : Ext2 s (varN s k n v c l).1 := by
  unfold varN
  refine ⟨?_, ⟨[], by simp⟩⟩
  simp only
  split
  · exact addL_ext _ _
  · exact ⟨[], by simp⟩
theorem varU_ext (s : List Int × List Int) (v c : Int) : Ext2 s (varU s v c) := by
  unfold varU
  split
  · exact ⟨⟨[], by simp⟩, addL_ext _ _⟩
  · exact Ext2.refl s
def ndp (s : List Int × List Int) : Prop := s.1.Nodup ∧ s.2.Nodup
theorem varN_ndp {s : List Int × List Int} (k n v c : Int) (l : Nat) (h : ndp s) : ndp (varN s k n v c l).1 := by
  unfold varN ndp
  refine ⟨?_, h.2⟩
  simp only
  split
  · exact addL_nodup _ h.1
  · exact h.1
theorem varU_ndp {s : List Int × List Int} (v c : Int) (h : ndp s) : ndp (varU s v c) := by
  unfold varU
  split
  · exact ⟨h.1, addL_nodup _ h.2⟩
  · exact h
def pmD : Option (Int × Int) → (List Int × List Int) → (List Int × List Int)
  | none, s => s
  | some p, s => varU s p.1 p.2
def vrun (f : Fo) (pm : Option (Int × Int)) (s : List Int × List Int) : List Int × List Int := runF varN varU true f pm s
theorem vrun_nil (pm : Option (Int × Int)) (s : List Int × List Int) : vrun .nil pm s = pmD pm s := by cases pm <;> rfl
theorem vrun_cons (k n v c : Int) (kids rest : Fo) (pm : Option (Int × Int)) (s : List Int × List Int) : vrun (.cons k n v c kids rest) pm s = vrun rest none (pmD pm (vrun kids (if k = 7 then some (v, c) else none) (varN s k n v c kids.len).1)) := by
  unfold vrun
  cases pm <;> simp only [runF, varN, if_true, and_true] <;> rfl
theorem pmD_ext (pm : Option (Int × Int)) (s : List Int × List Int) : Ext2 s (pmD pm s) := by
  cases pm with
  | none => exact Ext2.refl s
  | some p => exact varU_ext s p.1 p.2
theorem pmD_ndp (pm : Option (Int × Int)) {s : List Int × List Int} (h : ndp s) : ndp (pmD pm s) := by
  cases pm with
  | none => exact h
  | some p => exact varU_ndp p.1 p.2 h
theorem vrun_ext : ∀ (f : Fo) (pm : Option (Int × Int)) (s : List Int × List Int), Ext2 s (vrun f pm s)
  | .nil, pm, s => by rw [vrun_nil]; exact pmD_ext pm s
  | .cons k n v c kids rest, pm, s => by
    rw [vrun_cons]
    exact (((varN_ext s k n v c kids.len).trans (vrun_ext kids _ _)).trans (pmD_ext pm _)).trans (vrun_ext rest none _)
theorem vrun_ndp : ∀ (f : Fo) (pm : Option (Int × Int)) (s : List Int × List Int), ndp s → ndp (vrun f pm s)
  | .nil, pm, s, h => by rw [vrun_nil]; exact pmD_ndp pm h
  | .cons k n v c kids rest, pm, s, h => by
    rw [vrun_cons]
    exact vrun_ndp rest none _ (pmD_ndp pm (vrun_ndp kids _ _ (varN_ndp k n v c kids.len h)))
theorem ext_mem {s t : List Int × List Int} (h : Ext2 s t) : (∀ x ∈ s.1, x ∈ t.1) ∧ ∀ x ∈ s.2, x ∈ t.2 := by
  obtain ⟨⟨a, ha⟩, ⟨b, hb⟩⟩ := h
  exact ⟨fun x hx => by rw [ha]; simp [hx], fun x hx => by rw [hb]; simp [hx]⟩
/-- Of all variables within it is so. -/
def Fo.Vall (P R : Int → Prop) : Fo → Prop
  | .nil => True
  | .cons k n v c kids rest => (k = 1 → P n) ∧ (k = 7 → c = 0 → R v) ∧ Fo.Vall P R kids ∧ Fo.Vall P R rest
theorem Fo.Vall.mono {P R P' R' : Int → Prop} (h1 : ∀ x, P x → P' x) (h2 : ∀ x, R x → R' x) : ∀ f : Fo, f.Vall P R → f.Vall P' R'
  | .nil, _ => trivial
  | .cons k n v c kids rest, h => ⟨fun e => h1 _ (h.1 e), fun e e' => h2 _ (h.2.1 e e'), Fo.Vall.mono h1 h2 kids h.2.2.1, Fo.Vall.mono h1 h2 rest h.2.2.2⟩
theorem vrun_pm {f : Fo} {v : Int} {s : List Int × List Int} : v ∈ (vrun f (some (v, 0)) s).2 := by
  cases f with
  | nil =>
    rw [vrun_nil]
    show v ∈ (varU s v 0).2
    unfold varU
    rw [if_pos rfl]
    exact addL_mem _ _
  | cons k n v' c kids rest =>
    rw [vrun_cons]
    refine (ext_mem (vrun_ext rest none _)).2 v ?_
    show v ∈ (varU _ v 0).2
    unfold varU
    rw [if_pos rfl]
    exact addL_mem _ _
/-- All variables within are in the lists. -/
theorem vrun_all : ∀ (f : Fo) (pm : Option (Int × Int)) (s : List Int × List Int), f.Vall (· ∈ (vrun f pm s).1) (· ∈ (vrun f pm s).2)
  | .nil, _, _ => trivial
  | .cons k n v c kids rest, pm, s => by
    have e := vrun_cons k n v c kids rest pm s
    have x3 := vrun_ext rest none (pmD pm (vrun kids (if k = 7 then some (v, c) else none) (varN s k n v c kids.len).1))
    have x2 := pmD_ext pm (vrun kids (if k = 7 then some (v, c) else none) (varN s k n v c kids.len).1)
    have x1 := vrun_ext kids (if k = 7 then some (v, c) else none) (varN s k n v c kids.len).1
    rw [← e] at x3
    refine ⟨fun h1 => ?_, fun h7 h0 => ?_, ?_, ?_⟩
    · refine (ext_mem (x1.trans (x2.trans x3))).1 n ?_
      subst h1
      simp only [varN, if_true]
      exact addL_mem _ _
    · refine (ext_mem (x2.trans x3)).2 v ?_
      subst h7 h0
      rw [if_pos rfl]
      exact vrun_pm
    · exact Fo.Vall.mono (ext_mem (x2.trans x3)).1 (ext_mem (x2.trans x3)).2 kids (vrun_all kids _ _)
    · have h := vrun_all rest none (pmD pm (vrun kids (if k = 7 then some (v, c) else none) (varN s k n v c kids.len).1))
      rw [← e] at h
      exact h
theorem ren_congr {ρ μ ρ' μ' : Int → Int} : ∀ f : Fo, f.Vall (fun x => ρ x = ρ' x) (fun x => μ x = μ' x) → f.ren ρ μ = f.ren ρ' μ'
  | .nil, _ => rfl
  | .cons k n v c kids rest, h => by
    simp only [Fo.ren, ren_congr kids h.2.2.1, ren_congr rest h.2.2.2]
    by_cases h1 : k = 1 <;> by_cases h7 : k = 7 ∧ c = 0
    · omega
    · rw [if_pos h1, if_pos h1, if_neg h7, if_neg h7, h.1 h1]
    · rw [if_neg h1, if_neg h1, if_pos h7, if_pos h7, h.2.1 h7.1 h7.2]
    · rw [if_neg h1, if_neg h1, if_neg h7, if_neg h7]
theorem can_pm (s : List Int × List Int) (v c : Int) (T M : List Int) (hn : ndp s) (h : Ext2 (pmD (some (v, c)) s) (T, M)) : (canU s v c).1 = pmD (some (v, c)) s ∧ (canU s v c).2 = (if c = 0 then (M.idxOf v : Int) else v, c) := by
  show (canU s v c).1 = varU s v c ∧ _
  have h' : Ext2 (varU s v c) (T, M) := h
  unfold canU varU
  unfold varU at h'
  by_cases h0 : c = 0
  · rw [if_pos h0] at h' ⊢
    rw [if_pos h0, if_pos h0]
    refine ⟨rfl, ?_⟩
    obtain ⟨_, b, hb⟩ := h'
    simp only at hb
    simp only
    rw [posL_idx (addL_nodup v hn.2) (addL_mem _ _), hb, List.idxOf_append, if_pos (addL_mem _ _)]
  · rw [if_neg h0, if_neg h0, if_neg h0]
    exact ⟨rfl, rfl⟩
/-- What Canon writes: each variable's place in the lists. -/
theorem can_run : ∀ (f : Fo) (pm : Option (Int × Int)) (s : List Int × List Int) (T M : List Int), ndp s → Ext2 (vrun f pm s) (T, M) → runW canN canU true f pm s = (f.ren (fun x => (T.idxOf x : Int)) (fun x => (M.idxOf x : Int)), pm.map (fun p => (if p.2 = 0 then (M.idxOf p.1 : Int) else p.1, p.2)), vrun f pm s)
  | .nil, none, s, T, M, hn, h => rfl
  | .nil, some (v, c), s, T, M, hn, h => by
    have e := vrun_nil (some (v, c)) s
    rw [e] at h ⊢
    show ((Fo.nil, some (canU s v c).2, (canU s v c).1) : Fo × Option (Int × Int) × (List Int × List Int)) = _
    have hpm := can_pm s v c T M hn h
    rw [hpm.1, hpm.2]
    rfl
  | .cons k n v c kids rest, pm, s, T, M, hn, h => by
    have e := vrun_cons k n v c kids rest pm s
    have n1 := varN_ndp k n v c kids.len hn
    have n2 := vrun_ndp kids (if k = 7 then some (v, c) else none) _ n1
    have n3 := pmD_ndp pm n2
    have x0 := varN_ext s k n v c kids.len
    have x1 := vrun_ext kids (if k = 7 then some (v, c) else none) (varN s k n v c kids.len).1
    have x2 := pmD_ext pm (vrun kids (if k = 7 then some (v, c) else none) (varN s k n v c kids.len).1)
    have x3 := vrun_ext rest none (pmD pm (vrun kids (if k = 7 then some (v, c) else none) (varN s k n v c kids.len).1))
    rw [e] at h ⊢
    have y2 := x3.trans h
    have y1 := x2.trans y2
    have y0 := x1.trans y1
    have r1 := can_run kids (if k = 7 then some (v, c) else none) (varN s k n v c kids.len).1 T M n1 y1
    have r2 := can_run rest none (pmD pm (vrun kids (if k = 7 then some (v, c) else none) (varN s k n v c kids.len).1)) T M n3 h
    have hs : (canN s k n v c kids).1 = (varN s k n v c kids.len).1 := rfl
    have hnn : (if k = 1 then (posL (addL s.1 n) n : Int) else n) = (if k = 1 then (T.idxOf n : Int) else n) := by
      by_cases h1 : k = 1
      · rw [if_pos h1, if_pos h1, posL_idx (addL_nodup n hn.1) (addL_mem _ _)]
        have y0' := y0
        unfold varN at y0'
        simp only [if_pos h1] at y0'
        obtain ⟨⟨a, ha⟩, _⟩ := y0'
        have ha' : T = addL s.1 n ++ a := ha
        rw [ha', List.idxOf_append, if_pos (addL_mem _ _)]
      · rw [if_neg h1, if_neg h1]
    have hq : runW canN canU true (.cons k n v c kids rest) pm s = (.cons k (if k = 1 then (posL (addL s.1 n) n : Int) else n) ((runW canN canU true kids (if k = 7 then some (v, c) else none) (canN s k n v c kids).1).2.1.getD (v, c)).1 ((runW canN canU true kids (if k = 7 then some (v, c) else none) (canN s k n v c kids).1).2.1.getD (v, c)).2 (runW canN canU true kids (if k = 7 then some (v, c) else none) (canN s k n v c kids).1).1
        (runW canN canU true rest none (match pm with | none => (runW canN canU true kids (if k = 7 then some (v, c) else none) (canN s k n v c kids).1).2.2 | some m => (canU (runW canN canU true kids (if k = 7 then some (v, c) else none) (canN s k n v c kids).1).2.2 m.1 m.2).1)).1,
        (match pm with | none => none | some m => some (canU (runW canN canU true kids (if k = 7 then some (v, c) else none) (canN s k n v c kids).1).2.2 m.1 m.2).2),
        (runW canN canU true rest none (match pm with | none => (runW canN canU true kids (if k = 7 then some (v, c) else none) (canN s k n v c kids).1).2.2 | some m => (canU (runW canN canU true kids (if k = 7 then some (v, c) else none) (canN s k n v c kids).1).2.2 m.1 m.2).1)).2.2) := by
      cases pm <;> simp only [runW, canN, and_true]
    have hmu : (((if k = 7 then some (v, c) else none : Option (Int × Int)).map (fun p => ((if p.2 = 0 then (M.idxOf p.1 : Int) else p.1, p.2) : Int × Int))).getD (v, c)) = (if k = 7 ∧ c = 0 then (M.idxOf v : Int) else v, c) := by
      by_cases h7 : k = 7
      · by_cases h0 : c = 0 <;> simp [h7, h0]
      · simp [h7]
    rw [hq, hs, r1, hnn]
    simp only [hmu, Fo.ren]
    cases pm with
    | none =>
      have r2' : runW canN canU true rest none (vrun kids (if k = 7 then some (v, c) else none) (varN s k n v c kids.len).1) = _ := r2
      simp only
      rw [r2']
      rfl
    | some m =>
      obtain ⟨v5, c5⟩ := m
      have hp := can_pm (vrun kids (if k = 7 then some (v, c) else none) (varN s k n v c kids.len).1) v5 c5 T M n2 y2
      simp only
      rw [hp.1, hp.2, r2]
      rfl
theorem canW_eq (f : Fo) : f.canW = (f.ren (fun x => (f.varsF.1.idxOf x : Int)) (fun x => (f.varsF.2.idxOf x : Int)), none, f.varsF) :=
  can_run f none ([], []) f.varsF.1 f.varsF.2 ⟨List.nodup_nil, List.nodup_nil⟩ (Ext2.refl _)
theorem varsF_ndp (f : Fo) : ndp f.varsF := vrun_ndp f none ([], []) ⟨List.nodup_nil, List.nodup_nil⟩
theorem varsF_all (f : Fo) : f.Vall (· ∈ f.varsF.1) (· ∈ f.varsF.2) := vrun_all f none ([], [])
def InjOn (ρ : Int → Int) (l : List Int) : Prop := ∀ x ∈ l, ∀ y ∈ l, ρ x = ρ y → x = y
theorem addL_map {ρ : Int → Int} {l T : List Int} {x : Int} (hi : InjOn ρ T) (hT : ∀ y ∈ addL l x, y ∈ T) : addL (l.map ρ) (ρ x) = (addL l x).map ρ := by
  have hx := hT x (addL_mem _ _)
  obtain ⟨a, ha⟩ := addL_ext l x
  have hl : ∀ y ∈ l, y ∈ T := fun y hy => hT y (by rw [ha]; simp [hy])
  unfold addL
  by_cases h : x ∈ l
  · rw [if_pos h, if_pos (List.mem_map.2 ⟨x, h, rfl⟩)]
  · rw [if_neg h, if_neg (fun h' => by
      obtain ⟨y, hy, e⟩ := List.mem_map.1 h'
      exact h (hi y (hl y hy) x hx e ▸ hy)), List.map_append]
    rfl
def map2L (ρ μ : Int → Int) (s : List Int × List Int) : List Int × List Int := (s.1.map ρ, s.2.map μ)
theorem pmD_map {ρ μ : Int → Int} {T M : List Int} (hM : InjOn μ M) (pm : Option (Int × Int)) (s : List Int × List Int) (h : Ext2 (pmD pm s) (T, M)) : pmD (pm.map fun p => (if p.2 = 0 then μ p.1 else p.1, p.2)) (map2L ρ μ s) = map2L ρ μ (pmD pm s) := by
  match pm, h with
  | none, _ => rfl
  | some (v, c), h =>
    show varU (map2L ρ μ s) (if c = 0 then μ v else v) c = map2L ρ μ (varU s v c)
    have h' : Ext2 (varU s v c) (T, M) := h
    unfold varU at h' ⊢
    by_cases h0 : c = 0
    · rw [if_pos h0] at h' ⊢
      rw [if_pos h0, if_pos h0]
      simp only [map2L]
      rw [addL_map hM (ext_mem h').2]
    · rw [if_neg h0, if_neg h0]
theorem vrun_ren {ρ μ : Int → Int} {T M : List Int} (hT : InjOn ρ T) (hM : InjOn μ M) : ∀ (f : Fo) (pm : Option (Int × Int)) (s : List Int × List Int), Ext2 (vrun f pm s) (T, M) → vrun (f.ren ρ μ) (pm.map fun p => (if p.2 = 0 then μ p.1 else p.1, p.2)) (map2L ρ μ s) = map2L ρ μ (vrun f pm s)
  | .nil, pm, s, h => by
    rw [vrun_nil] at h ⊢
    rw [show (Fo.nil.ren ρ μ) = .nil from rfl, vrun_nil]
    exact pmD_map hM pm s h
  | .cons k n v c kids rest, pm, s, h => by
    rw [vrun_cons] at h ⊢
    have x1 := vrun_ext kids (if k = 7 then some (v, c) else none) (varN s k n v c kids.len).1
    have x2 := pmD_ext pm (vrun kids (if k = 7 then some (v, c) else none) (varN s k n v c kids.len).1)
    have x3 := vrun_ext rest none (pmD pm (vrun kids (if k = 7 then some (v, c) else none) (varN s k n v c kids.len).1))
    have y2 := x3.trans h
    have y1 := x2.trans y2
    have y0 := x1.trans y1
    rw [show (Fo.cons k n v c kids rest).ren ρ μ = .cons k (if k = 1 then ρ n else n) (if k = 7 ∧ c = 0 then μ v else v) c (kids.ren ρ μ) (rest.ren ρ μ) from rfl, vrun_cons, ren_len]
    have e0 : (varN (map2L ρ μ s) k (if k = 1 then ρ n else n) (if k = 7 ∧ c = 0 then μ v else v) c kids.len).1 = map2L ρ μ (varN s k n v c kids.len).1 := by
      unfold varN at y0 ⊢
      by_cases h1 : k = 1
      · simp only [if_pos h1] at y0 ⊢
        simp only [map2L]
        rw [addL_map hT (ext_mem y0).1]
      · simp only [if_neg h1]; try rfl
    have e1 : (if k = 7 then some (if k = 7 ∧ c = 0 then μ v else v, c) else none : Option (Int × Int)) = (if k = 7 then some (v, c) else none : Option (Int × Int)).map fun p => (if p.2 = 0 then μ p.1 else p.1, p.2) := by
      by_cases h7 : k = 7
      · simp [h7]
      · simp [h7]
    rw [e0, e1, vrun_ren hT hM kids _ _ y1, pmD_map hM pm _ y2]
    exact vrun_ren hT hM rest none _ h
theorem varsF_ren {ρ μ : Int → Int} (f : Fo) (hT : InjOn ρ f.varsF.1) (hM : InjOn μ f.varsF.2) : (f.ren ρ μ).varsF = map2L ρ μ f.varsF :=
  vrun_ren hT hM f none ([], []) (Ext2.refl _)
theorem idx_map {ρ : Int → Int} : ∀ (l : List Int) (x : Int), InjOn ρ l → x ∈ l → (l.map ρ).idxOf (ρ x) = l.idxOf x
  | [], x, _, h => by cases h
  | y :: l, x, hi, h => by
    rw [List.map_cons, List.idxOf_cons, List.idxOf_cons]
    by_cases e : y = x
    · subst e; simp
    · have e2 : ρ y ≠ ρ x := fun e2 => e (hi y (List.mem_cons_self ..) x h e2)
      have hx : x ∈ l := by
        rcases List.mem_cons.1 h with h | h
        · exact absurd h.symm e
        · exact h
      have := idx_map l x (fun a ha b hb => hi a (List.mem_cons_of_mem _ ha) b (List.mem_cons_of_mem _ hb)) hx
      have b1 : (ρ y == ρ x) = false := by simpa using e2
      have b2 : (y == x) = false := by simpa using e
      rw [b1, b2, this]
theorem idx_inj (l : List Int) : InjOn (fun x => (l.idxOf x : Int)) l := fun x hx y hy e => by
  have e' : l.idxOf x = l.idxOf y := Int.ofNat_inj.1 e
  have h1 := List.getElem_idxOf (List.idxOf_lt_length_iff.2 hx)
  have h2 := List.getElem_idxOf (List.idxOf_lt_length_iff.2 hy)
  rw [← h1, ← h2]
  congr 1
/-- Numbered anew twice is numbered anew once; so is a renamed one. -/
theorem canW_ren {ρ μ : Int → Int} (f : Fo) (hT : InjOn ρ f.varsF.1) (hM : InjOn μ f.varsF.2) : (f.ren ρ μ).canW = (f.canW.1, none, map2L ρ μ f.varsF) := by
  rw [canW_eq, canW_eq f, varsF_ren f hT hM, ren_ren]
  simp only [map2L, Prod.mk.injEq, and_true]
  exact ren_congr f (Fo.Vall.mono (fun x hx => by rw [idx_map _ _ hT hx]) (fun x hx => by rw [idx_map _ _ hM hx]) f (varsF_all f))
theorem canW_canW (f : Fo) : f.canW.1.canW = (f.canW.1, none, (f.varsF.1.map fun x => (f.varsF.1.idxOf x : Int), f.varsF.2.map fun x => (f.varsF.2.idxOf x : Int))) := by
  have h := canW_ren f (idx_inj f.varsF.1) (idx_inj f.varsF.2)
  have e : f.canW.1 = f.ren (fun x => (f.varsF.1.idxOf x : Int)) (fun x => (f.varsF.2.idxOf x : Int)) := by rw [canW_eq]
  rw [e]
  rw [h, e]
  rfl
/-- Variables as types, and as multiplicities. -/
def vlist : List Int → Fo
  | [] => .nil
  | n :: l => .cons 1 n 0 0 .nil (vlist l)
def mlist (l : List Int) : List (Int × Int) := l.map fun n => (n, 0)
theorem vlist_len : ∀ l : List Int, (vlist l).len = l.length
  | [] => rfl
  | n :: l => by simp [vlist, Fo.len, vlist_len l]
theorem vlist_size : ∀ l : List Int, (vlist l).size = l.length
  | [] => rfl
  | n :: l => by simp [vlist, Fo.size, vlist_size l]; omega
theorem vlist_nth : ∀ (l : List Int) (i : Nat) (n : Int), l[i]? = some n → (vlist l).nth i = .cons 1 n 0 0 .nil .nil
  | [], i, n, h => by simp at h
  | m :: l, 0, n, h => by simp at h; subst h; rfl
  | m :: l, i + 1, n, h => by simp at h; exact vlist_nth l i n h
theorem vlist_bad : ∀ l : List Int, (∀ n ∈ l, 0 ≤ n ∧ n < 1048576) → (vlist l).bad = false
  | [], _ => rfl
  | n :: l, h => by
    obtain ⟨h0, h1⟩ := h n (List.mem_cons_self ..)
    have e : tyErr (.cons 1 n 0 0 .nil .nil) = 0 := by
      simp [tyErr, Fo.size, Fo.well, nodeB, Fo.len, h0, h1]
    simp only [vlist, Fo.bad, e, ne_eq, not_true_eq_false, decide_false, Bool.false_or]
    exact vlist_bad l fun x hx => h x (List.mem_cons_of_mem _ hx)
theorem mlist_bad (l : List Int) (h : ∀ n ∈ l, 0 ≤ n ∧ n < 1048576) : musBad (mlist l) = false := by
  unfold musBad mlist
  rw [List.any_eq_false]
  intro x hx
  obtain ⟨n, hn, rfl⟩ := List.mem_map.1 hx
  obtain ⟨h0, h1⟩ := h n hn
  simp [isB, isVarB, h0, h1]
theorem idx_at {T : List Int} {σ : Int → Int} {x : Int} (hx : x ∈ T) : (T.map σ)[T.idxOf x]? = some (σ x) := by
  have h := List.idxOf_lt_length_iff.2 hx
  rw [List.getElem?_map, List.getElem?_eq_getElem h, List.getElem_idxOf h]
  rfl
/-- What is put in a type that is numbered so. -/
theorem subst_ren {T M : List Int} {σ τ : Int → Int} : ∀ f : Fo, f.well = true → f.Vall (· ∈ T) (· ∈ M) →
    Fo.subst (vlist (T.map σ)) T.length (mlist (M.map τ)) (f.ren (fun x => (T.idxOf x : Int)) (fun x => (M.idxOf x : Int))) = f.ren σ τ
  | .nil, _, _ => rfl
  | .cons k n v c kids rest, hw, hv => by
    simp only [Fo.well, Bool.and_eq_true] at hw
    have i1 := subst_ren (σ := σ) (τ := τ) kids hw.2.1 hv.2.2.1
    have i2 := subst_ren (σ := σ) (τ := τ) rest hw.2.2 hv.2.2.2
    by_cases h1 : k = 1
    · subst h1
      have hx := hv.1 rfl
      have hlt := List.idxOf_lt_length_iff.2 hx
      obtain ⟨rfl, rfl, hc⟩ := node_cases hw.1 (by decide)
      have hk : kids = .nil := by
        rcases hc with ⟨_, _, h⟩ | ⟨h, _⟩ | ⟨h, _⟩ | ⟨h, _⟩
        · exact Fo.len_zero h
        · omega
        · omega
        · omega
      subst hk
      have hp : putB 1 (T.idxOf n : Int) T.length = true := by simp [putB]; omega
      have hnth : (vlist (T.map σ)).nth (T.idxOf n : Int).toNat = .cons 1 (σ n) 0 0 .nil .nil := by
        rw [Int.toNat_natCast]
        exact vlist_nth _ _ _ (idx_at hx)
      simp only [Fo.ren, if_true, Fo.subst, hp, hnth, i2]
      simp
    · have hp : putB k n T.length = false := by simp [putB, h1]
      by_cases h7 : k = 7
      · subst h7
        have hu : putU (mlist (M.map τ)) (if c = 0 then (M.idxOf v : Int) else v) c = (if c = 0 then τ v else v, c) := by
          by_cases h0 : c = 0
          · subst h0
            have hx := hv.2.1 rfl rfl
            have hlt := List.idxOf_lt_length_iff.2 hx
            unfold putU
            rw [if_pos rfl, if_pos ⟨rfl, by simp [mlist]; omega⟩, Int.toNat_natCast]
            unfold mlist
            rw [List.getElem?_map, idx_at hx]
            rfl
          · unfold putU
            rw [if_neg h0, if_neg (fun h => h0 h.1), if_neg h0]
        simp only [Fo.ren, Fo.subst, show (7 : Int) ≠ 1 by decide, if_false, hp, Bool.false_eq_true, if_true, true_and, hu, i1, i2]
      · simp only [Fo.ren, Fo.subst, h1, if_false, hp, Bool.false_eq_true, h7, false_and, i1, i2]
theorem ren_well {T M : List Int} {ρ μ : Int → Int} (hT : ∀ x ∈ T, 0 ≤ ρ x ∧ ρ x < 1048576) (hM : ∀ x ∈ M, 0 ≤ μ x ∧ μ x < 1048576) : ∀ f : Fo, f.well = true → f.Vall (· ∈ T) (· ∈ M) → (f.ren ρ μ).well = true
  | .nil, _, _ => rfl
  | .cons k n v c kids rest, hw, hv => by
    simp only [Fo.well, Bool.and_eq_true] at hw
    simp only [Fo.ren, Fo.well, ren_len, Bool.and_eq_true]
    refine ⟨?_, ren_well hT hM kids hw.2.1 hv.2.2.1, ren_well hT hM rest hw.2.2 hv.2.2.2⟩
    by_cases h1 : k = 1
    · subst h1
      obtain ⟨a, b⟩ := hT n (hv.1 rfl)
      have h := hw.1
      simp [nodeB] at h ⊢
      omega
    · by_cases h7 : k = 7
      · subst h7
        by_cases h0 : c = 0
        · subst h0
          obtain ⟨a, b⟩ := hM v (hv.2.1 rfl rfl)
          have h := hw.1
          simp [nodeB] at h ⊢
          refine ⟨h.1, h.2.1, ?_⟩
          simp [isB, isVarB, a, b]
        · simpa [h0] using hw.1
      · simpa [h1, h7] using hw.1
theorem putSize_ren {T M : List Int} {σ : Int → Int} {μ : Int → Int} : ∀ f : Fo, f.Vall (· ∈ T) (· ∈ M) → Fo.putSize (vlist (T.map σ)) T.length (f.ren (fun x => (T.idxOf x : Int)) μ) = f.size
  | .nil, _ => rfl
  | .cons k n v c kids rest, hv => by
    have i1 := putSize_ren (σ := σ) (μ := μ) kids hv.2.2.1
    have i2 := putSize_ren (σ := σ) (μ := μ) rest hv.2.2.2
    simp only [Fo.ren, Fo.putSize, i1, i2, Fo.size]
    by_cases h1 : k = 1
    · subst h1
      have hx := hv.1 rfl
      have hnth : (vlist (T.map σ)).nth (T.idxOf n : Int).toNat = .cons 1 (σ n) 0 0 .nil .nil := by
        rw [Int.toNat_natCast]
        exact vlist_nth _ _ _ (idx_at hx)
      simp only [if_true, hnth, Fo.size]
      split <;> omega
    · have hp : putB k n T.length = false := by simp [putB, h1]
      simp only [h1, if_false, hp, Bool.false_eq_true]
end Go.Proofs.YtblgligagngpfaaDoor.Mu

