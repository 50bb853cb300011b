/-
  LexTail: two places are laid in memory of their own, in whatever order.
-/
import Derived.Test.YteockaolmobmeaaGreatDoorLxSam
import Derived.Test.YteockaolmobmeaaGreatDoorLxTok
namespace Go.Proofs.YteockaolmobmeaaGreatDoor.Mu
open Go Go.RowKit Go.Shelf

attribute [local go_sem] Oper.semAt_some
set_option linter.unusedVariables false

theorem wp_skip {P : Program} {o : Oper} {a : Act} {w w' : World} {K : Act → World → Prop} {Q : Exit → Act → World → Prop} (h : (execOp a.eval o).run P w = .ok .skip w') (hk : K (a.put o.dst undef) w') : Oper.wp P o a w K Q := by
  unfold Oper.wp; rw [h]; exact hk
section
variable {P : Program} {Q : Exit → Act → World → Prop}
/-- A region that draws its order and writes, an account kept beside. -/
theorem wp_region_invS {G : Type} {id : Nat} {l : List Oper} (n : Nat) (a0 : Act) (w0 : World) (g0 : G) (Inv : Array Bool → World → G → Prop) (Chg : Array Bool → World → G → World → G → Prop) (F : Nat → Value → World → G → Prop) (hm : P.follows .mixedOrders = true) (hB : tailB .any l.toArray n = true) (hf : fwdB l.toArray n = true) (hsl : slotsB l.toArray a0.tmps.size = true)
    (hq : Region.seqB .any l.toArray (l.length - n) n (Array.replicate n true ++ Array.replicate (l.length - n) false) = true) (hI0 : ∀ L : Array Bool, (∀ i, L.getD i false = false) → Inv L w0.drew g0)
    (hmono : ∀ i v L w g w' g', i < n → L.getD i false = true → F i v w g → Chg L w g w' g' → F i v w' g')
    (hstep : ∀ i o, i < n → l.toArray[i]? = some o → ∀ (L : Array Bool) (a : Act) (w : World) (g : G) (V : Nat → Value), Inv L w g → L.getD i false = false →
      (∀ e ∈ o.after, Region.binds .any e = true → L.getD e.on false = true ∧ F e.on (V e.on) w g ∧ ∀ d, (l.toArray[e.on]?).bind (·.dst) = some d → a.eval (.tmp d) = V e.on) → (∀ s, s < a0.tmps.size → slotAt l.toArray s = none → a.eval (.tmp s) = a0.eval (.tmp s)) →
      ∀ K : Act → World → Prop, (∀ v w' g', (∀ L' : Array Bool, (∀ j, L'.getD j false = if j = i then true else L.getD j false) → Inv L' w' g') → Chg L w g w' g' → F i v w' g' → K (a.put o.dst v) w') → o.guard = none ∧ Oper.wp P o a w K Q)
    (hend : ∀ (L : Array Bool) (V : Nat → Value) (w : World) (g : G), Inv L w g → (∀ i, i < n → L.getD i false = true) → (∀ i, i < n → F i (V i) w g) → wpList P l.toArray Q (l.drop n) (finA l.toArray n V a0) w) :
    (Code.region id l.toArray true).wp P Q a0 w0 := by
  have hn' : n < l.length := by
    simp only [tailB, Bool.and_eq_true, decide_eq_true_eq] at hB
    simpa using hB.1.1.2
  refine wp_region_any hm ?_
  have inv0 : HeadInv .any l.toArray n (Array.replicate l.length false) :=
    ⟨by simp, fun j oj _ hl => (by rw [getD_replicate_false] at hl; cases hl), fun t _ ht => getD_in (by simpa using ht) (getD_replicate_false _ _)⟩
  have key := wpAny_invT (P := P) (Q := Q) (l := l) (n := n) (fun listed a w => listed.size = l.length ∧ (∀ t, n ≤ t → listed.getD t false = false) ∧ ∃ (g : G), Inv listed w g ∧ ∃ (V : Nat → Value), Filled l.toArray listed V a0 a ∧ ∀ i, i < n → listed.getD i false = true → F i (V i) w g) hB hf hq ?_ ?_ n (Array.replicate l.length false) a0 w0.drew (cntG_new (by omega)) inv0 ⟨by simp, fun t _ => getD_replicate_false _ _, g0, hI0 _ (fun i => getD_replicate_false _ _), fun _ => undef, ⟨rfl, rfl, fun s hs => by cases slotAt l.toArray s <;> simp only [getD_replicate_false, Bool.false_eq_true, if_false]⟩, fun i _ hi => by rw [getD_replicate_false] at hi; cases hi⟩
  · have e : n + (l.length - n) = l.length := by omega
    rw [e] at key
    simpa using key
  · rintro listed a w i inv ⟨hsz, htl, g, hinv, V, hfill, hF⟩ hin hun hr
    obtain ⟨_, o, ho, hall⟩ := mem_ready.1 hr
    have hset : ∀ j, (listed.setIfInBounds i true).getD j false = if j = i then true else listed.getD j false := fun j => by
      by_cases e : j = i
      · subst e; rw [if_pos rfl]; simp [show j < listed.size by omega]
      · rw [getD_set_ne false (fun e' => e e'.symm), if_neg e]
    have hunf : listed.getD i false = false := by
      have h2 : i < listed.size := by omega
      simp [h2] at hun ⊢; exact hun
    have hK := hstep i o hin ho listed a w g V hinv hunf (fun e he hb => by
      have hl := hall e he hb
      have hen : e.on < n := by
        rcases Nat.lt_or_ge e.on n with h | h
        · exact h
        · rw [htl _ h] at hl; cases hl
      exact ⟨hl, hF _ hen hl, fun d hd => hfill.eval hsl hl hd⟩) (fun s hs hn => hfill.par hn hs)
      (fun a' w' => (listed.setIfInBounds i true).size = l.length ∧ (∀ t, n ≤ t → (listed.setIfInBounds i true).getD t false = false) ∧ ∃ (g : G), Inv (listed.setIfInBounds i true) w' g ∧ ∃ (V : Nat → Value), Filled l.toArray (listed.setIfInBounds i true) V a0 a' ∧ ∀ j, j < n → (listed.setIfInBounds i true).getD j false = true → F j (V j) w' g)
      (fun v w' g' hi' hc hFi => ⟨by simpa using hsz, fun t ht => by rw [getD_set_ne false (by omega)]; exact htl t ht, g', hi' _ hset, fun j => if j = i then v else V j, hfill.put hsl ho (by omega) v, fun j hj hl => by
        by_cases e : j = i
        · subst e; simp only [if_true]; exact hFi
        · simp only [if_neg e]
          rw [getD_set_ne false (fun e' => e e'.symm)] at hl
          exact hmono j _ listed w g w' g' hj hl (hF j hj hl) hc⟩)
    unfold wpOp
    simp only [ho]
    rw [if_pos (by simp [Region.wanted, hK.1])]
    exact .inl hK.2
  · rintro listed a w ⟨hsz, htl, g, hinv, V, hfill, hF⟩ hall
    rw [hfill.fin hall htl]
    exact hend listed V w g hinv hall fun i hi => hF i hi (hall i hi)
end
/-- A place in memory. -/
def posO (p : Pl) : Obj := .cells #[.int .i64 p.a, .int .i64 p.l, .int .i64 p.c] 32 (0, 0)
/-- What stands while the two are laid; g: their blocks. -/
def TcI (w0 : World) (px : Pl) (L : Array Bool) (w : World) (g : Nat × Nat) : Prop :=
  Bel w0 w ∧ (L.getD 9 false = true → w0.heap.size ≤ g.1 ∧ w.heap[g.1]? = some (if L.getD 11 false = true then posO px else posO z0)) ∧ (L.getD 10 false = true → w0.heap.size ≤ g.2 ∧ w.heap[g.2]? = some (posO z0)) ∧ (L.getD 9 false = true → L.getD 10 false = true → g.1 ≠ g.2) ∧ (L.getD 11 false = true → L.getD 9 false = true)
theorem TcI.same {w0 w : World} {px : Pl} {L L' : Array Bool} {g : Nat × Nat} {i : Nat} (h : TcI w0 px L w g) (hL : ∀ j, L'.getD j false = if j = i then true else L.getD j false) (h1 : 9 ≠ i) (h2 : 10 ≠ i) (h3 : 11 ≠ i) : TcI w0 px L' w g := by
  have a9 := hL 9
  have a10 := hL 10
  have a11 := hL 11
  rw [if_neg h1] at a9
  rw [if_neg h2] at a10
  rw [if_neg h3] at a11
  unfold TcI at *
  rw [a9, a10, a11]
  exact h
theorem TcI.al9 {w0 w : World} {px : Pl} {L L' : Array Bool} {g : Nat × Nat} (h : TcI w0 px L w g) (hL : ∀ j, L'.getD j false = if j = 9 then true else L.getD j false) (hun : L.getD 9 false = false) : TcI w0 px L' (w.alloc (posO z0)) (w.heap.size, g.2) := by
  obtain ⟨hb, h9, h10, hne, h11⟩ := h
  have e11 : L.getD 11 false = false := by
    cases e : L.getD 11 false with
    | false => rfl
    | true => have := h11 e; rw [hun] at this; cases this
  have a9 := hL 9
  have a10 := hL 10
  have a11 := hL 11
  rw [if_pos rfl] at a9
  rw [if_neg (by decide)] at a10 a11
  rw [e11] at a11
  unfold TcI
  rw [a9, a10, a11]
  refine ⟨hb.alloc _, fun _ => ⟨hb.size, by rw [if_neg (by decide)]; exact blk1 w _⟩, fun h => ?_, fun _ h => ?_, fun h => by cases h⟩
  · obtain ⟨a, b⟩ := h10 h
    exact ⟨a, ((Bel.refl w).alloc _).blk b⟩
  · obtain ⟨a, b⟩ := h10 h
    have := (Array.getElem?_eq_some_iff.1 b).1
    show w.heap.size ≠ g.2
    omega
theorem TcI.al10 {w0 w : World} {px : Pl} {L L' : Array Bool} {g : Nat × Nat} (h : TcI w0 px L w g) (hL : ∀ j, L'.getD j false = if j = 10 then true else L.getD j false) (hun : L.getD 10 false = false) : TcI w0 px L' (w.alloc (posO z0)) (g.1, w.heap.size) := by
  obtain ⟨hb, h9, h10, hne, h11⟩ := h
  have a9 := hL 9
  have a10 := hL 10
  have a11 := hL 11
  rw [if_pos rfl] at a10
  rw [if_neg (by decide)] at a9 a11
  unfold TcI
  rw [a9, a10, a11]
  refine ⟨hb.alloc _, fun h => ?_, fun _ => ⟨hb.size, blk1 w _⟩, fun h _ => ?_, h11⟩
  · obtain ⟨a, b⟩ := h9 h
    exact ⟨a, ((Bel.refl w).alloc _).blk b⟩
  · obtain ⟨a, b⟩ := h9 h
    have := (Array.getElem?_eq_some_iff.1 b).1
    show g.1 ≠ w.heap.size
    omega
theorem TcI.st11 {w0 w : World} {px : Pl} {L L' : Array Bool} {g : Nat × Nat} (h : TcI w0 px L w g) (hL : ∀ j, L'.getD j false = if j = 11 then true else L.getD j false) (l9 : L.getD 9 false = true) (hun : L.getD 11 false = false) : TcI w0 px L' (((w.setCell ⟨g.1, 0, none⟩ (.int .i64 px.a)).setCell ⟨g.1, 1, none⟩ (.int .i64 px.l)).setCell ⟨g.1, 2, none⟩ (.int .i64 px.c)) g := by
  obtain ⟨hb, h9, h10, hne, h11⟩ := h
  obtain ⟨a, b⟩ := h9 l9
  rw [if_neg (by rw [hun]; decide)] at b
  have a9 := hL 9
  have a10 := hL 10
  have a11 := hL 11
  rw [if_pos rfl] at a11
  rw [if_neg (by decide)] at a9 a10
  unfold TcI
  rw [a9, a10, a11]
  refine ⟨((hb.set_ (p := ⟨g.1, 0, none⟩) a _).set_ (p := ⟨g.1, 1, none⟩) a _).set_ (p := ⟨g.1, 2, none⟩) a _, fun _ => ⟨a, ?_⟩, fun h => ?_, hne, fun _ => l9⟩
  · rw [if_pos rfl]
    unfold posO at b ⊢
    simp [World.setCell, Array.getElem?_modify, b]
  · obtain ⟨c, d⟩ := h10 h
    have hn : g.2 ≠ g.1 := fun e => hne l9 h e.symm
    exact ⟨c, by rw [Below.heap_setCell _ _ _ _ hn, Below.heap_setCell _ _ _ _ hn, Below.heap_setCell _ _ _ _ hn]; exact d⟩
def regTc : List Oper := [
  { dst := some 90, op := Op.fieldAddr 44 (Operand.tmp 10) 3, type := 0, pos := "outright.go:93", after := #[], guard := none },
  { dst := some 91, op := Op.load 32 (Operand.tmp 90), type := 32, pos := "outright.go:93", after := #[{ on := 0, ground := Ground.data }], guard := none },
  { dst := some 92, op := Op.move (Operand.tmp 5), type := 26, pos := "outright.go:93", after := #[{ on := 11, ground := Ground.gcOnly Departure.lateStores }], guard := none },
  { dst := some 93, op := Op.move (Operand.tmp 1), type := 3, pos := "outright.go:93", after := #[{ on := 11, ground := Ground.gcOnly Departure.lateStores }], guard := none },
  { dst := some 94, op := Op.move (Operand.tmp 9), type := 3, pos := "outright.go:93", after := #[{ on := 11, ground := Ground.gcOnly Departure.lateStores }], guard := none },
  { dst := some 95, op := Op.binOp BinOp.add 3 (Operand.tmp 93) (Operand.tmp 94) 3, type := 3, pos := "outright.go:93", after := #[{ on := 3, ground := Ground.data }, { on := 4, ground := Ground.data }, { on := 11, ground := Ground.gcOnly Departure.lateStores }], guard := none },
  { dst := some 96, op := Op.indexAddr 26 (Operand.tmp 92) (Operand.tmp 95), type := 0, pos := "outright.go:93", after := #[{ on := 2, ground := Ground.data }, { on := 5, ground := Ground.data }, { on := 11, ground := Ground.gcOnly Departure.lateStores }], guard := none },
  { dst := some 97, op := Op.fieldAddr 44 (Operand.tmp 96) 3, type := 0, pos := "outright.go:93", after := #[{ on := 6, ground := Ground.data }, { on := 11, ground := Ground.gcOnly Departure.lateStores }], guard := none },
  { dst := some 98, op := Op.load 32 (Operand.tmp 97), type := 32, pos := "outright.go:93", after := #[{ on := 7, ground := Ground.data }, { on := 11, ground := Ground.gcOnly Departure.lateStores }], guard := none },
  { dst := some 11, op := Op.alloc 32, type := 0, pos := "outright.go:93", after := #[], guard := none },
  { dst := some 12, op := Op.alloc 32, type := 0, pos := "outright.go:93", after := #[], guard := none },
  { dst := none, op := Op.store 32 (Operand.tmp 11) (Operand.tmp 91), type := 0, pos := "outright.go:93", after := #[{ on := 9, ground := Ground.data }, { on := 1, ground := Ground.data }, { on := 0, ground := Ground.phase }, { on := 1, ground := Ground.phase }, { on := 2, ground := Ground.textOnly Departure.lateStores }, { on := 3, ground := Ground.textOnly Departure.lateStores }, { on := 4, ground := Ground.textOnly Departure.lateStores }, { on := 5, ground := Ground.textOnly Departure.lateStores }, { on := 6, ground := Ground.textOnly Departure.lateStores }, { on := 7, ground := Ground.textOnly Departure.lateStores }, { on := 8, ground := Ground.textOnly Departure.lateStores }, { on := 9, ground := Ground.phase }, { on := 10, ground := Ground.phase }], guard := none },
  { dst := none, op := Op.store 32 (Operand.tmp 12) (Operand.tmp 98), type := 0, pos := "outright.go:93", after := #[{ on := 10, ground := Ground.data }, { on := 8, ground := Ground.data }, { on := 11, ground := Ground.chain }, { on := 0, ground := Ground.phase }, { on := 1, ground := Ground.phase }, { on := 2, ground := Ground.phase }, { on := 3, ground := Ground.phase }, { on := 4, ground := Ground.phase }, { on := 5, ground := Ground.phase }, { on := 6, ground := Ground.phase }, { on := 7, ground := Ground.phase }, { on := 8, ground := Ground.phase }, { on := 9, ground := Ground.phase }, { on := 10, ground := Ground.phase }, { on := 11, ground := Ground.phase }], guard := none }]
def specTc (gw b1 o1 n1 c1 k i ki : Nat) (px pz : Pl) (ix : Nat) (v : Value) (w : World) (g : Nat × Nat) : Prop :=
  match ix with
  | 0 => v = .pointer (some ⟨gw, 3, none⟩)
  | 1 => v = .agg #[.int .i64 px.a, .int .i64 px.l, .int .i64 px.c]
  | 2 => v = .slice (some ⟨b1, o1, none⟩) n1 c1
  | 3 => v = .int .i64 (k : Int)
  | 4 => v = .int .i64 (i : Int)
  | 5 => v = .int .i64 (ki : Int)
  | 6 => v = .pointer (some ⟨b1, o1 + ki * 6, none⟩)
  | 7 => v = .pointer (some ⟨b1, o1 + ki * 6 + 3, none⟩)
  | 8 => v = .agg #[.int .i64 pz.a, .int .i64 pz.l, .int .i64 pz.c]
  | 9 => v = .pointer (some ⟨g.1, 0, none⟩)
  | 10 => v = .pointer (some ⟨g.2, 0, none⟩)
  | _ => True
def chgTc (L : Array Bool) (w : World) (g : Nat × Nat) (w' : World) (g' : Nat × Nat) : Prop := (L.getD 9 false = true → g'.1 = g.1) ∧ (L.getD 10 false = true → g'.2 = g.2)
theorem specTc_mono {gw b1 o1 n1 c1 k i ki : Nat} {px pz : Pl} (ix : Nat) (v : Value) (L : Array Bool) (w w' : World) (g g' : Nat × Nat) (hi : ix < 12) (hl : L.getD ix false = true) (h : specTc gw b1 o1 n1 c1 k i ki px pz ix v w g) (hc : chgTc L w g w' g') : specTc gw b1 o1 n1 c1 k i ki px pz ix v w' g' := by
  match ix, hi, hl, h with
  | 0, _, _, h => exact h
  | 1, _, _, h => exact h
  | 2, _, _, h => exact h
  | 3, _, _, h => exact h
  | 4, _, _, h => exact h
  | 5, _, _, h => exact h
  | 6, _, _, h => exact h
  | 7, _, _, h => exact h
  | 8, _, _, h => exact h
  | 9, _, hl, h => show v = .pointer (some ⟨g'.1, 0, none⟩); rw [hc.1 hl]; exact h
  | 10, _, hl, h => show v = .pointer (some ⟨g'.2, 0, none⟩); rw [hc.2 hl]; exact h
  | 11, _, _, h => exact h
  | q + 12, hi, _, _ => exact absurd hi (by omega)
def acOTc (gw b1 o1 n1 c1 k i ki : Nat) (px pz : Pl) (s0 s2 s3 s4 s6 s7 s8 s11 s12 s13 s14 s15 s16 s17 s18 s19 s20 s21 s22 s23 s24 s25 s26 s27 s28 s29 s30 s31 s32 s33 s34 s35 s36 s37 s38 s39 s40 s41 s42 s43 s44 s45 s46 s47 s48 s49 s50 s51 s52 s53 s54 s55 s56 s57 s58 s59 s60 s61 s62 s63 s64 s65 s66 s67 s68 s69 s70 s71 s72 s73 s74 s75 s76 s77 s78 s79 s80 s81 s82 s83 s84 s85 s86 s87 s88 s89 s90 s91 s92 s93 s94 s95 s96 s97 s98 s99 s100 s101 s102 s103 s104 s105 s106 s107 s108 s109 s110 s111 s112 s113 s114 s115 s116 s117 s118 s119 s120 s121 s122 s123 s124 s125 s126 s127 s128 s129 s130 s131 s132 s133 s134 s135 s136 s137 s138 s139 s140 s141 s142 s143 s144 s145 s146 : Value) (df : List Deferred) : Act := { tmps := #[s0, .int .i64 (k : Int), s2, s3, s4, .slice (some ⟨b1, o1, none⟩) n1 c1, s6, s7, s8, .int .i64 (i : Int), .pointer (some ⟨gw, 0, none⟩), s11, s12, s13, s14, s15, s16, s17, s18, s19, s20, s21, s22, s23, s24, s25, s26, s27, s28, s29, s30, s31, s32, s33, s34, s35, s36, s37, s38, s39, s40, s41, s42, s43, s44, s45, s46, s47, s48, s49, s50, s51, s52, s53, s54, s55, s56, s57, s58, s59, s60, s61, s62, s63, s64, s65, s66, s67, s68, s69, s70, s71, s72, s73, s74, s75, s76, s77, s78, s79, s80, s81, s82, s83, s84, s85, s86, s87, s88, s89, s90, s91, s92, s93, s94, s95, s96, s97, s98, s99, s100, s101, s102, s103, s104, s105, s106, s107, s108, s109, s110, s111, s112, s113, s114, s115, s116, s117, s118, s119, s120, s121, s122, s123, s124, s125, s126, s127, s128, s129, s130, s131, s132, s133, s134, s135, s136, s137, s138, s139, s140, s141, s142, s143, s144, s145, s146], defers := df }
def acVTc (gw b1 o1 n1 c1 k i ki : Nat) (px pz : Pl) (s0 s2 s3 s4 s6 s7 s8 s11 s12 s13 s14 s15 s16 s17 s18 s19 s20 s21 s22 s23 s24 s25 s26 s27 s28 s29 s30 s31 s32 s33 s34 s35 s36 s37 s38 s39 s40 s41 s42 s43 s44 s45 s46 s47 s48 s49 s50 s51 s52 s53 s54 s55 s56 s57 s58 s59 s60 s61 s62 s63 s64 s65 s66 s67 s68 s69 s70 s71 s72 s73 s74 s75 s76 s77 s78 s79 s80 s81 s82 s83 s84 s85 s86 s87 s88 s89 s90 s91 s92 s93 s94 s95 s96 s97 s98 s99 s100 s101 s102 s103 s104 s105 s106 s107 s108 s109 s110 s111 s112 s113 s114 s115 s116 s117 s118 s119 s120 s121 s122 s123 s124 s125 s126 s127 s128 s129 s130 s131 s132 s133 s134 s135 s136 s137 s138 s139 s140 s141 s142 s143 s144 s145 s146 : Value) (df : List Deferred) (V : Nat → Value) : Act := { tmps := #[s0, .int .i64 (k : Int), s2, s3, s4, .slice (some ⟨b1, o1, none⟩) n1 c1, s6, s7, s8, .int .i64 (i : Int), .pointer (some ⟨gw, 0, none⟩), V 9, V 10, s13, s14, s15, s16, s17, s18, s19, s20, s21, s22, s23, s24, s25, s26, s27, s28, s29, s30, s31, s32, s33, s34, s35, s36, s37, s38, s39, s40, s41, s42, s43, s44, s45, s46, s47, s48, s49, s50, s51, s52, s53, s54, s55, s56, s57, s58, s59, s60, s61, s62, s63, s64, s65, s66, s67, s68, s69, s70, s71, s72, s73, s74, s75, s76, s77, s78, s79, s80, s81, s82, s83, s84, s85, s86, s87, s88, s89, V 0, V 1, V 2, V 3, V 4, V 5, V 6, V 7, V 8, s99, s100, s101, s102, s103, s104, s105, s106, s107, s108, s109, s110, s111, s112, s113, s114, s115, s116, s117, s118, s119, s120, s121, s122, s123, s124, s125, s126, s127, s128, s129, s130, s131, s132, s133, s134, s135, s136, s137, s138, s139, s140, s141, s142, s143, s144, s145, s146], defers := df }
theorem regTc_tail : tailB .any regTc.toArray 12 = true := by kernel_rfl
theorem regTc_fwd : fwdB regTc.toArray 12 = true := by kernel_rfl
theorem regTc_slots : slotsB regTc.toArray 147 = true := by kernel_rfl
theorem regTc_seq : Region.seqB .any regTc.toArray (regTc.length - 12) 12 (Array.replicate 12 true ++ Array.replicate (regTc.length - 12) false) = true := by kernel_rfl
set_option maxRecDepth 100000 in
set_option maxHeartbeats 8000000 in
theorem regTc_any {id : Nat} (gw b1 o1 n1 c1 k i ki : Nat) (px pz : Pl) (s0 s2 s3 s4 s6 s7 s8 s11 s12 s13 s14 s15 s16 s17 s18 s19 s20 s21 s22 s23 s24 s25 s26 s27 s28 s29 s30 s31 s32 s33 s34 s35 s36 s37 s38 s39 s40 s41 s42 s43 s44 s45 s46 s47 s48 s49 s50 s51 s52 s53 s54 s55 s56 s57 s58 s59 s60 s61 s62 s63 s64 s65 s66 s67 s68 s69 s70 s71 s72 s73 s74 s75 s76 s77 s78 s79 s80 s81 s82 s83 s84 s85 s86 s87 s88 s89 s90 s91 s92 s93 s94 s95 s96 s97 s98 s99 s100 s101 s102 s103 s104 s105 s106 s107 s108 s109 s110 s111 s112 s113 s114 s115 s116 s117 s118 s119 s120 s121 s122 s123 s124 s125 s126 s127 s128 s129 s130 s131 s132 s133 s134 s135 s136 s137 s138 s139 s140 s141 s142 s143 s144 s145 s146 : Value) (df : List Deferred) (w : World) (h10 : gw < w.drew.heap.size) (h1 : b1 < w.drew.heap.size) (i1 : (0 : Int) ≤ (ki : Int)) (i2 : (ki : Int) < (n1 : Int)) (z5 : IntKind.i64.wrap ((k : Int) + (i : Int)) = (ki : Int)) (a3 : w.drew.cell? ⟨gw, 3, none⟩ = some (.int .i64 px.a)) (a4 : w.drew.cell? ⟨gw, 4, none⟩ = some (.int .i64 px.l)) (a5 : w.drew.cell? ⟨gw, 5, none⟩ = some (.int .i64 px.c)) (e3 : w.drew.cell? ⟨b1, o1 + ki * 6 + 3, none⟩ = some (.int .i64 pz.a)) (e4 : w.drew.cell? ⟨b1, o1 + ki * 6 + 4, none⟩ = some (.int .i64 pz.l)) (e5 : w.drew.cell? ⟨b1, o1 + ki * 6 + 5, none⟩ = some (.int .i64 pz.c)) (Q : Exit → Act → World → Prop)
    (hend : ∀ (V : Nat → Value) (w' : World) (ga gb : Nat), Bel w.drew w' → w.heap.size ≤ ga → w.heap.size ≤ gb → ga ≠ gb → w'.heap[ga]? = some (posO px) → w'.heap[gb]? = some (posO z0) → V 9 = .pointer (some ⟨ga, 0, none⟩) → V 10 = .pointer (some ⟨gb, 0, none⟩) → V 8 = .agg #[.int .i64 pz.a, .int .i64 pz.l, .int .i64 pz.c] → wpList Tryz.prog regTc.toArray Q (regTc.drop 12) (acVTc gw b1 o1 n1 c1 k i ki px pz s0 s2 s3 s4 s6 s7 s8 s11 s12 s13 s14 s15 s16 s17 s18 s19 s20 s21 s22 s23 s24 s25 s26 s27 s28 s29 s30 s31 s32 s33 s34 s35 s36 s37 s38 s39 s40 s41 s42 s43 s44 s45 s46 s47 s48 s49 s50 s51 s52 s53 s54 s55 s56 s57 s58 s59 s60 s61 s62 s63 s64 s65 s66 s67 s68 s69 s70 s71 s72 s73 s74 s75 s76 s77 s78 s79 s80 s81 s82 s83 s84 s85 s86 s87 s88 s89 s90 s91 s92 s93 s94 s95 s96 s97 s98 s99 s100 s101 s102 s103 s104 s105 s106 s107 s108 s109 s110 s111 s112 s113 s114 s115 s116 s117 s118 s119 s120 s121 s122 s123 s124 s125 s126 s127 s128 s129 s130 s131 s132 s133 s134 s135 s136 s137 s138 s139 s140 s141 s142 s143 s144 s145 s146 df V) w') :
    (Code.region id regTc.toArray true).wp Tryz.prog Q (acOTc gw b1 o1 n1 c1 k i ki px pz s0 s2 s3 s4 s6 s7 s8 s11 s12 s13 s14 s15 s16 s17 s18 s19 s20 s21 s22 s23 s24 s25 s26 s27 s28 s29 s30 s31 s32 s33 s34 s35 s36 s37 s38 s39 s40 s41 s42 s43 s44 s45 s46 s47 s48 s49 s50 s51 s52 s53 s54 s55 s56 s57 s58 s59 s60 s61 s62 s63 s64 s65 s66 s67 s68 s69 s70 s71 s72 s73 s74 s75 s76 s77 s78 s79 s80 s81 s82 s83 s84 s85 s86 s87 s88 s89 s90 s91 s92 s93 s94 s95 s96 s97 s98 s99 s100 s101 s102 s103 s104 s105 s106 s107 s108 s109 s110 s111 s112 s113 s114 s115 s116 s117 s118 s119 s120 s121 s122 s123 s124 s125 s126 s127 s128 s129 s130 s131 s132 s133 s134 s135 s136 s137 s138 s139 s140 s141 s142 s143 s144 s145 s146 df) w := by
  refine wp_region_invS (l := regTc) 12 (acOTc gw b1 o1 n1 c1 k i ki px pz s0 s2 s3 s4 s6 s7 s8 s11 s12 s13 s14 s15 s16 s17 s18 s19 s20 s21 s22 s23 s24 s25 s26 s27 s28 s29 s30 s31 s32 s33 s34 s35 s36 s37 s38 s39 s40 s41 s42 s43 s44 s45 s46 s47 s48 s49 s50 s51 s52 s53 s54 s55 s56 s57 s58 s59 s60 s61 s62 s63 s64 s65 s66 s67 s68 s69 s70 s71 s72 s73 s74 s75 s76 s77 s78 s79 s80 s81 s82 s83 s84 s85 s86 s87 s88 s89 s90 s91 s92 s93 s94 s95 s96 s97 s98 s99 s100 s101 s102 s103 s104 s105 s106 s107 s108 s109 s110 s111 s112 s113 s114 s115 s116 s117 s118 s119 s120 s121 s122 s123 s124 s125 s126 s127 s128 s129 s130 s131 s132 s133 s134 s135 s136 s137 s138 s139 s140 s141 s142 s143 s144 s145 s146 df) w (0, 0) (TcI w.drew px) chgTc (specTc gw b1 o1 n1 c1 k i ki px pz) (by kernel_rfl) regTc_tail regTc_fwd regTc_slots regTc_seq (fun L hL => ⟨Bel.refl _, fun h => (by rw [hL] at h; cases h), fun h => (by rw [hL] at h; cases h), fun h => (by rw [hL] at h; cases h), fun h => (by rw [hL] at h; cases h)⟩) (fun i v L w g w' g' hi hl h hc => specTc_mono i v L w w' g g' hi hl h hc) ?_ ?_
  · intro i' o hi' ho L a w1 g V hinv hun hdep hpar K hK
    have p1 : a.eval (.tmp 1) = .int .i64 (k : Int) := hpar 1 (by show 1 < 147; decide) (by kernel_rfl)
    have p1' : a.tmps[1]?.getD undef = .int .i64 (k : Int) := by have h := p1; simp only [Act.eval, Array.getD_eq_getD_getElem?] at h; exact h
    have p5 : a.eval (.tmp 5) = .slice (some ⟨b1, o1, none⟩) n1 c1 := hpar 5 (by show 5 < 147; decide) (by kernel_rfl)
    have p5' : a.tmps[5]?.getD undef = .slice (some ⟨b1, o1, none⟩) n1 c1 := by have h := p5; simp only [Act.eval, Array.getD_eq_getD_getElem?] at h; exact h
    have p9 : a.eval (.tmp 9) = .int .i64 (i : Int) := hpar 9 (by show 9 < 147; decide) (by kernel_rfl)
    have p9' : a.tmps[9]?.getD undef = .int .i64 (i : Int) := by have h := p9; simp only [Act.eval, Array.getD_eq_getD_getElem?] at h; exact h
    have p10 : a.eval (.tmp 10) = .pointer (some ⟨gw, 0, none⟩) := hpar 10 (by show 10 < 147; decide) (by kernel_rfl)
    have p10' : a.tmps[10]?.getD undef = .pointer (some ⟨gw, 0, none⟩) := by have h := p10; simp only [Act.eval, Array.getD_eq_getD_getElem?] at h; exact h
    have s3 := (hinv.1.cell (p := ⟨gw, 3, none⟩) h10).trans a3
    have u3 := (hinv.1.cell (p := ⟨b1, o1 + ki * 6 + 3, none⟩) h1).trans e3
    have s4 := (hinv.1.cell (p := ⟨gw, 4, none⟩) h10).trans a4
    have u4 := (hinv.1.cell (p := ⟨b1, o1 + ki * 6 + 4, none⟩) h1).trans e4
    have s5 := (hinv.1.cell (p := ⟨gw, 5, none⟩) h10).trans a5
    have u5 := (hinv.1.cell (p := ⟨b1, o1 + ki * 6 + 5, none⟩) h1).trans e5
    match i', hi', ho, hun, hdep, hK with
    | 0, _, ho, hun, hdep, hK =>
      simp only [regTc, List.getElem?_toArray, List.getElem?_cons_zero, Option.some.injEq] at ho
      subst ho
      exact ⟨rfl, wp_val (v := .pointer (some ⟨gw, 3, none⟩)) (w' := w1) (by simp [execOp, go_sem, p10']) (hK _ _ g (fun L' hL => hinv.same (i := 0) hL (by decide) (by decide) (by decide)) ⟨fun _ => rfl, fun _ => rfl⟩ rfl)⟩
    | 1, _, ho, hun, hdep, hK =>
      simp only [regTc, List.getElem?_toArray, List.getElem?_cons_zero, List.getElem?_cons_succ, Option.some.injEq] at ho
      subst ho
      obtain ⟨l0, f0, d0⟩ := hdep ⟨0, .data⟩ (by simp) rfl
      have e0 : a.eval (.tmp 90) = .pointer (some ⟨gw, 3, none⟩) := (d0 90 rfl).trans f0
      have e0' : a.tmps[90]?.getD undef = .pointer (some ⟨gw, 3, none⟩) := by have h := e0; simp only [Act.eval, Array.getD_eq_getD_getElem?] at h; exact h
      exact ⟨rfl, wp_val (v := .agg #[.int .i64 px.a, .int .i64 px.l, .int .i64 px.c]) (w' := w1) (by simp [execOp, go_sem, e0', s3, s4, s5]) (hK _ _ g (fun L' hL => hinv.same (i := 1) hL (by decide) (by decide) (by decide)) ⟨fun _ => rfl, fun _ => rfl⟩ rfl)⟩
    | 2, _, ho, hun, hdep, hK =>
      simp only [regTc, List.getElem?_toArray, List.getElem?_cons_zero, List.getElem?_cons_succ, Option.some.injEq] at ho
      subst ho
      exact ⟨rfl, wp_val (v := .slice (some ⟨b1, o1, none⟩) n1 c1) (w' := w1) (by simp [execOp, go_sem, p5']) (hK _ _ g (fun L' hL => hinv.same (i := 2) hL (by decide) (by decide) (by decide)) ⟨fun _ => rfl, fun _ => rfl⟩ rfl)⟩
    | 3, _, ho, hun, hdep, hK =>
      simp only [regTc, List.getElem?_toArray, List.getElem?_cons_zero, List.getElem?_cons_succ, Option.some.injEq] at ho
      subst ho
      exact ⟨rfl, wp_val (v := .int .i64 (k : Int)) (w' := w1) (by simp [execOp, go_sem, p1']) (hK _ _ g (fun L' hL => hinv.same (i := 3) hL (by decide) (by decide) (by decide)) ⟨fun _ => rfl, fun _ => rfl⟩ rfl)⟩
    | 4, _, ho, hun, hdep, hK =>
      simp only [regTc, List.getElem?_toArray, List.getElem?_cons_zero, List.getElem?_cons_succ, Option.some.injEq] at ho
      subst ho
      exact ⟨rfl, wp_val (v := .int .i64 (i : Int)) (w' := w1) (by simp [execOp, go_sem, p9']) (hK _ _ g (fun L' hL => hinv.same (i := 4) hL (by decide) (by decide) (by decide)) ⟨fun _ => rfl, fun _ => rfl⟩ rfl)⟩
    | 5, _, ho, hun, hdep, hK =>
      simp only [regTc, List.getElem?_toArray, List.getElem?_cons_zero, List.getElem?_cons_succ, Option.some.injEq] at ho
      subst ho
      obtain ⟨l3, f3, d3⟩ := hdep ⟨3, .data⟩ (by simp) rfl
      have e3 : a.eval (.tmp 93) = .int .i64 (k : Int) := (d3 93 rfl).trans f3
      have e3' : a.tmps[93]?.getD undef = .int .i64 (k : Int) := by have h := e3; simp only [Act.eval, Array.getD_eq_getD_getElem?] at h; exact h
      obtain ⟨l4, f4, d4⟩ := hdep ⟨4, .data⟩ (by simp) rfl
      have e4 : a.eval (.tmp 94) = .int .i64 (i : Int) := (d4 94 rfl).trans f4
      have e4' : a.tmps[94]?.getD undef = .int .i64 (i : Int) := by have h := e4; simp only [Act.eval, Array.getD_eq_getD_getElem?] at h; exact h
      exact ⟨rfl, wp_val (v := .int .i64 (ki : Int)) (w' := w1) (by simp [execOp, go_sem, e3', e4', z5]) (hK _ _ g (fun L' hL => hinv.same (i := 5) hL (by decide) (by decide) (by decide)) ⟨fun _ => rfl, fun _ => rfl⟩ rfl)⟩
    | 6, _, ho, hun, hdep, hK =>
      simp only [regTc, List.getElem?_toArray, List.getElem?_cons_zero, List.getElem?_cons_succ, Option.some.injEq] at ho
      subst ho
      obtain ⟨l2, f2, d2⟩ := hdep ⟨2, .data⟩ (by simp) rfl
      have e2 : a.eval (.tmp 92) = .slice (some ⟨b1, o1, none⟩) n1 c1 := (d2 92 rfl).trans f2
      have e2' : a.tmps[92]?.getD undef = .slice (some ⟨b1, o1, none⟩) n1 c1 := by have h := e2; simp only [Act.eval, Array.getD_eq_getD_getElem?] at h; exact h
      obtain ⟨l5, f5, d5⟩ := hdep ⟨5, .data⟩ (by simp) rfl
      have e5 : a.eval (.tmp 95) = .int .i64 (ki : Int) := (d5 95 rfl).trans f5
      have e5' : a.tmps[95]?.getD undef = .int .i64 (ki : Int) := by have h := e5; simp only [Act.eval, Array.getD_eq_getD_getElem?] at h; exact h
      exact ⟨rfl, wp_val (v := .pointer (some ⟨b1, o1 + ki * 6, none⟩)) (w' := w1) (by simp [execOp, go_sem, e2', e5', i1, i2]) (hK _ _ g (fun L' hL => hinv.same (i := 6) hL (by decide) (by decide) (by decide)) ⟨fun _ => rfl, fun _ => rfl⟩ rfl)⟩
    | 7, _, ho, hun, hdep, hK =>
      simp only [regTc, List.getElem?_toArray, List.getElem?_cons_zero, List.getElem?_cons_succ, Option.some.injEq] at ho
      subst ho
      obtain ⟨l6, f6, d6⟩ := hdep ⟨6, .data⟩ (by simp) rfl
      have e6 : a.eval (.tmp 96) = .pointer (some ⟨b1, o1 + ki * 6, none⟩) := (d6 96 rfl).trans f6
      have e6' : a.tmps[96]?.getD undef = .pointer (some ⟨b1, o1 + ki * 6, none⟩) := by have h := e6; simp only [Act.eval, Array.getD_eq_getD_getElem?] at h; exact h
      exact ⟨rfl, wp_val (v := .pointer (some ⟨b1, o1 + ki * 6 + 3, none⟩)) (w' := w1) (by simp [execOp, go_sem, e6']) (hK _ _ g (fun L' hL => hinv.same (i := 7) hL (by decide) (by decide) (by decide)) ⟨fun _ => rfl, fun _ => rfl⟩ rfl)⟩
    | 8, _, ho, hun, hdep, hK =>
      simp only [regTc, List.getElem?_toArray, List.getElem?_cons_zero, List.getElem?_cons_succ, Option.some.injEq] at ho
      subst ho
      obtain ⟨l7, f7, d7⟩ := hdep ⟨7, .data⟩ (by simp) rfl
      have e7 : a.eval (.tmp 97) = .pointer (some ⟨b1, o1 + ki * 6 + 3, none⟩) := (d7 97 rfl).trans f7
      have e7' : a.tmps[97]?.getD undef = .pointer (some ⟨b1, o1 + ki * 6 + 3, none⟩) := by have h := e7; simp only [Act.eval, Array.getD_eq_getD_getElem?] at h; exact h
      exact ⟨rfl, wp_val (v := .agg #[.int .i64 pz.a, .int .i64 pz.l, .int .i64 pz.c]) (w' := w1) (by simp [execOp, go_sem, e7', u3, u4, u5]) (hK _ _ g (fun L' hL => hinv.same (i := 8) hL (by decide) (by decide) (by decide)) ⟨fun _ => rfl, fun _ => rfl⟩ rfl)⟩
    | 9, _, ho, hun, hdep, hK =>
      simp only [regTc, List.getElem?_toArray, List.getElem?_cons_zero, List.getElem?_cons_succ, Option.some.injEq] at ho
      subst ho
      exact ⟨rfl, wp_val (v := .pointer (some ⟨w1.heap.size, 0, none⟩)) (w' := w1.alloc (posO z0)) (by simp [execOp, go_sem, posO, z0]) (hK _ _ (w1.heap.size, g.2) (fun L' hL => hinv.al9 hL hun) ⟨fun h => (by rw [hun] at h; cases h), fun _ => rfl⟩ rfl)⟩
    | 10, _, ho, hun, hdep, hK =>
      simp only [regTc, List.getElem?_toArray, List.getElem?_cons_zero, List.getElem?_cons_succ, Option.some.injEq] at ho
      subst ho
      exact ⟨rfl, wp_val (v := .pointer (some ⟨w1.heap.size, 0, none⟩)) (w' := w1.alloc (posO z0)) (by simp [execOp, go_sem, posO, z0]) (hK _ _ (g.1, w1.heap.size) (fun L' hL => hinv.al10 hL hun) ⟨fun _ => rfl, fun h => (by rw [hun] at h; cases h)⟩ rfl)⟩
    | 11, _, ho, hun, hdep, hK =>
      simp only [regTc, List.getElem?_toArray, List.getElem?_cons_zero, List.getElem?_cons_succ, Option.some.injEq] at ho
      subst ho
      obtain ⟨l9, f9, d9⟩ := hdep ⟨9, .data⟩ (by simp) rfl
      have e9 : a.eval (.tmp 11) = .pointer (some ⟨g.1, 0, none⟩) := (d9 11 rfl).trans f9
      have e9' : a.tmps[11]?.getD undef = .pointer (some ⟨g.1, 0, none⟩) := by have h := e9; simp only [Act.eval, Array.getD_eq_getD_getElem?] at h; exact h
      obtain ⟨l1, f1, d1⟩ := hdep ⟨1, .data⟩ (by simp) rfl
      have e1 : a.eval (.tmp 91) = .agg #[.int .i64 px.a, .int .i64 px.l, .int .i64 px.c] := (d1 91 rfl).trans f1
      have e1' : a.tmps[91]?.getD undef = .agg #[.int .i64 px.a, .int .i64 px.l, .int .i64 px.c] := by have h := e1; simp only [Act.eval, Array.getD_eq_getD_getElem?] at h; exact h
      obtain ⟨h1, h2⟩ := hinv.2.1 l9
      have h11 : L.getD 11 false = false := hun
      rw [if_neg (by rw [h11]; decide)] at h2
      obtain ⟨y0, y1, y2, q0, q1, q2⟩ := cells3 (show w1.heap[g.1]? = some (.cells #[.int .i64 0, .int .i64 0, .int .i64 0] 32 (0, 0)) from h2)
      exact ⟨rfl, wp_skip (w' := ((w1.setCell ⟨g.1, 0, none⟩ (.int .i64 px.a)).setCell ⟨g.1, 1, none⟩ (.int .i64 px.l)).setCell ⟨g.1, 2, none⟩ (.int .i64 px.c)) (by simp [execOp, go_sem, e9', e1', y0, y1, y2, q0, q1, q2]) (hK undef _ g (fun L' hL => hinv.st11 hL l9 hun) ⟨fun _ => rfl, fun _ => rfl⟩ trivial)⟩
    | q + 12, hi, _, _, _, _ => exact absurd hi (by omega)
  · intro L V w' g hinv hL hF
    obtain ⟨hb, h9, h10, hne, h11⟩ := hinv
    obtain ⟨x1, x2⟩ := h9 (hL 9 (by omega))
    obtain ⟨y1, y2⟩ := h10 (hL 10 (by omega))
    rw [if_pos (hL 11 (by omega))] at x2
    have e : finA regTc.toArray 12 V (acOTc gw b1 o1 n1 c1 k i ki px pz s0 s2 s3 s4 s6 s7 s8 s11 s12 s13 s14 s15 s16 s17 s18 s19 s20 s21 s22 s23 s24 s25 s26 s27 s28 s29 s30 s31 s32 s33 s34 s35 s36 s37 s38 s39 s40 s41 s42 s43 s44 s45 s46 s47 s48 s49 s50 s51 s52 s53 s54 s55 s56 s57 s58 s59 s60 s61 s62 s63 s64 s65 s66 s67 s68 s69 s70 s71 s72 s73 s74 s75 s76 s77 s78 s79 s80 s81 s82 s83 s84 s85 s86 s87 s88 s89 s90 s91 s92 s93 s94 s95 s96 s97 s98 s99 s100 s101 s102 s103 s104 s105 s106 s107 s108 s109 s110 s111 s112 s113 s114 s115 s116 s117 s118 s119 s120 s121 s122 s123 s124 s125 s126 s127 s128 s129 s130 s131 s132 s133 s134 s135 s136 s137 s138 s139 s140 s141 s142 s143 s144 s145 s146 df) = acVTc gw b1 o1 n1 c1 k i ki px pz s0 s2 s3 s4 s6 s7 s8 s11 s12 s13 s14 s15 s16 s17 s18 s19 s20 s21 s22 s23 s24 s25 s26 s27 s28 s29 s30 s31 s32 s33 s34 s35 s36 s37 s38 s39 s40 s41 s42 s43 s44 s45 s46 s47 s48 s49 s50 s51 s52 s53 s54 s55 s56 s57 s58 s59 s60 s61 s62 s63 s64 s65 s66 s67 s68 s69 s70 s71 s72 s73 s74 s75 s76 s77 s78 s79 s80 s81 s82 s83 s84 s85 s86 s87 s88 s89 s90 s91 s92 s93 s94 s95 s96 s97 s98 s99 s100 s101 s102 s103 s104 s105 s106 s107 s108 s109 s110 s111 s112 s113 s114 s115 s116 s117 s118 s119 s120 s121 s122 s123 s124 s125 s126 s127 s128 s129 s130 s131 s132 s133 s134 s135 s136 s137 s138 s139 s140 s141 s142 s143 s144 s145 s146 df V := by kernel_rfl
    rw [e]
    exact hend V w' g.1 g.2 hb x1 y1 (hne (hL 9 (by omega)) (hL 10 (by omega))) x2 y2 (hF 9 (by omega)) (hF 10 (by omega)) (hF 8 (by omega))
end Go.Proofs.YteockaolmobmeaaGreatDoor.Mu

