/-
  A region that draws its order, one of whose operations writes, which one of the others need not wait for.
  The reference's see: its regions that draw their order.
  The reference's see, walked.
  The reference's Vars and Canon, walked.
-/
import Derived.Test.YtblgligagngpfaaDoorTyPpM
import Derived.Maps.AppendAt
import Derived.Test.YtblgligagngpfaaDoorTyRefPC
namespace Go.Proofs.YtblgligagngpfaaDoor.Mu
open Go.ChangeShapes Go.WideShapes Go.ChangeAt Go.RowKit Go.Shelf

set_option linter.unusedVariables false

section
variable {P : Program} {Q : Exit → Act → World → Prop}
theorem wp_region_invT {id : Nat} {l : List Oper} (n st late : Nat) (a0 : Act) (w0 : World) (F : Nat → Value → World → Prop) (Z : (Nat → Value) → Value → World → Prop) (L : Value → Prop) (hm : P.follows .mixedOrders = true) (hB : tailB .any l.toArray n = true) (hf : fwdB l.toArray n = true) (hsl : slotsB l.toArray a0.tmps.size = true)
    (hq : Region.seqB .any l.toArray (l.length - n) n (Array.replicate n true ++ Array.replicate (l.length - n) false) = true)
    (hcov : ∀ listed : Array Bool, (∀ j oj, l.toArray[j]? = some oj → listed.getD j false = true → ∀ e ∈ oj.after, Region.binds .any e = true → listed.getD e.on false = true) → (∀ o, l.toArray[st]? = some o → ∀ e ∈ o.after, Region.binds .any e = true → listed.getD e.on false = true) → ∀ i, i < n → i ≠ st → i ≠ late → listed.getD i false = true) (hsn : st < n) (hln : late < n) (hne : late ≠ st)
    (hmono : ∀ i v w w', i < n → F i v w → Bel w w' → F i v w')
    (hstep : ∀ i o, i < n → i ≠ st → l.toArray[i]? = some o → ∀ (a : Act) (w : World) (V : Nat → Value), Bel w0.drew w →
      (∀ e ∈ o.after, Region.binds .any e = true → F e.on (V e.on) w ∧ ∀ d, (l.toArray[e.on]?).bind (·.dst) = some d → a.eval (.tmp d) = V e.on) → (∀ s, s < a0.tmps.size → slotAt l.toArray s = none → a.eval (.tmp s) = a0.eval (.tmp s)) →
      ∀ K : Act → World → Prop, (∀ v w', Bel w w' → F i v w' → K (a.put o.dst v) w') → (Region.wanted o (yielded l.toArray a.tmps) = true → Oper.wp P o a w K Q) ∧ (Region.wanted o (yielded l.toArray a.tmps) = false → F i undef w))
    (hstore : ∀ o, l.toArray[st]? = some o → ∀ (a : Act) (w : World) (V : Nat → Value), Bel w0.drew w → (∀ i, i < n → i ≠ st → i ≠ late → F i (V i) w ∧ ∀ d, (l.toArray[i]?).bind (·.dst) = some d → a.eval (.tmp d) = V i) → (∀ s, s < a0.tmps.size → slotAt l.toArray s = none → a.eval (.tmp s) = a0.eval (.tmp s)) →
      Region.wanted o (yielded l.toArray a.tmps) = true ∧ ∀ K : Act → World → Prop, (∀ v w', Z V v w' → K (a.put o.dst v) w') → Oper.wp P o a w K Q)
    (hlate : ∀ o, l.toArray[late]? = some o → ∀ (a : Act) (w : World), (∀ s, s < a0.tmps.size → slotAt l.toArray s = none → a.eval (.tmp s) = a0.eval (.tmp s)) →
      Region.wanted o (yielded l.toArray a.tmps) = true ∧ ∀ K : Act → World → Prop, (∀ v, L v → K (a.put o.dst v) w) → Oper.wp P o a w K Q)
    (hZ : ∀ V V' v w, (∀ i, i < n → i ≠ late → i ≠ st → V' i = V i) → Z V v w → Z V' v w)
    (hL : ∀ v w, F late v w → L v)
    (hend : ∀ (V : Nat → Value) (w : World), Z V (V st) w → L (V late) → wpList P l.toArray Q (l.drop n) (finA l.toArray n V a0) w) :
    (Code.region id l.toArray true).wp P Q a0 w0 := by
  have hn' : n < l.length := by
    simp only [tailB, Bool.and_eq_true, decide_eq_true_eq] at hB
    simpa using hB.1.1.2
  refine wp_region_any hm ?_
  have inv0 : HeadInv .any l.toArray n (Array.replicate l.length false) :=
    ⟨by simp, fun j oj _ hl => (by rw [getD_replicate_false] at hl; cases hl), fun t _ ht => getD_in (by simpa using ht) (getD_replicate_false _ _)⟩
  have key := wpAny_invT (P := P) (Q := Q) (l := l) (n := n) (fun listed a w => listed.size = l.length ∧ (∀ t, n ≤ t → listed.getD t false = false) ∧ ∃ (V : Nat → Value), Filled l.toArray listed V a0 a ∧
    ((listed.getD st false = false ∧ Bel w0.drew w ∧ ∀ i, i < n → i ≠ st → listed.getD i false = true → F i (V i) w) ∨ (listed.getD st false = true ∧ Z V (V st) w ∧ (∀ i, i < n → i ≠ st → i ≠ late → listed.getD i false = true) ∧ (listed.getD late false = true → L (V late))))) hB hf hq ?_ ?_ n (Array.replicate l.length false) a0 w0.drew (cnt_new (by omega)) inv0 ⟨by simp, fun t _ => getD_replicate_false _ _, fun _ => undef, ⟨rfl, rfl, fun s hs => by cases slotAt l.toArray s <;> simp only [getD_replicate_false, Bool.false_eq_true, if_false]⟩, .inl ⟨getD_replicate_false _ _, Bel.refl _, fun i _ _ hi => by rw [getD_replicate_false] at hi; cases hi⟩⟩
  · have e : n + (l.length - n) = l.length := by omega
    rw [e] at key
    simpa using key
  · rintro listed a w i inv ⟨hsz, htl, V, hfill, hI⟩ hin hun hr
    obtain ⟨_, o, ho, hall⟩ := mem_ready.1 hr
    have hset : ∀ j, (listed.setIfInBounds i true).getD j false = if j = i then true else listed.getD j false := fun j => by
      by_cases e : j = i
      · subst e; simp [show j < listed.size by omega]
      · rw [if_neg e]; exact getD_set_ne false (fun e' => e e'.symm)
    have hs' : (listed.setIfInBounds i true).size = l.length := by simpa using hsz
    have ht' : ∀ t, n ≤ t → (listed.setIfInBounds i true).getD t false = false := fun t ht => by rw [getD_set_ne false (by omega)]; exact htl t ht
    have huf : listed.getD i false = false := by
      have h1 : i < listed.size := by omega
      simp [h1] at hun ⊢
      exact hun
    unfold wpOp
    simp only [ho]
    rcases hI with ⟨hst, hbel, hF⟩ | ⟨hst, hz, hothers, hlt'⟩
    · by_cases hi : i = st
      · subst hi
        have hlis : ∀ j, j < n → j ≠ i → j ≠ late → listed.getD j false = true := hcov listed inv.closed (fun o' ho' e he hb => by
          rw [ho] at ho'
          cases ho'
          exact hall e he hb)
        obtain ⟨hw, hK⟩ := hstore o ho a w V hbel (fun j hj hji hjl => ⟨hF j hj hji (hlis j hj hji hjl), fun d hd => hfill.eval hsl (hlis j hj hji hjl) hd⟩) (fun s hs hn => hfill.par hn hs)
        rw [if_pos hw]
        refine .inl (hK _ fun v w' hz => ⟨hs', ht', fun j => if j = i then v else V j, hfill.put hsl ho (by omega) v, .inr ⟨by rw [hset, if_pos rfl], ?_, fun j hj hji hjl => by rw [hset, if_neg hji]; exact hlis j hj hji hjl, fun hl => ?_⟩⟩)
        · simp only [if_true]
          exact hZ V _ v w' (fun j _ _ hji => if_neg hji) hz
        · rw [hset, if_neg hne] at hl
          simp only [if_neg hne]
          exact hL _ _ (hF late hln hne hl)
      · have hKK : ∀ v w', Bel w w' → F i v w' → (listed.setIfInBounds i true).size = l.length ∧ (∀ t, n ≤ t → (listed.setIfInBounds i true).getD t false = false) ∧ ∃ (V : Nat → Value), Filled l.toArray (listed.setIfInBounds i true) V a0 (a.put o.dst v) ∧ (((listed.setIfInBounds i true).getD st false = false ∧ Bel w0.drew w' ∧ ∀ j, j < n → j ≠ st → (listed.setIfInBounds i true).getD j false = true → F j (V j) w') ∨ ((listed.setIfInBounds i true).getD st false = true ∧ Z V (V st) w' ∧ (∀ i_1, i_1 < n → i_1 ≠ st → i_1 ≠ late → (listed.setIfInBounds i true).getD i_1 false = true) ∧ ((listed.setIfInBounds i true).getD late false = true → L (V late)))) :=
          fun v w' hb hFi => ⟨hs', ht', fun j => if j = i then v else V j, hfill.put hsl ho (by omega) v, .inl ⟨by rw [hset, if_neg (fun e => hi e.symm)]; exact hst, hbel.on hb, fun j hj hjs hl => by
            by_cases e : j = i
            · subst e; simp only [if_true]; exact hFi
            · simp only [if_neg e]
              rw [hset, if_neg e] at hl
              exact hmono j _ w w' hj (hF j hj hjs hl) hb⟩⟩
        have hK := hstep i o hin hi ho a w V hbel (fun e he hb => by
          have hl := hall e he hb
          have hen : e.on < n := by
            rcases Nat.lt_or_ge e.on n with h | h
            · exact h
            · rw [htl _ h] at hl; cases hl
          have hes : e.on ≠ st := fun h => by rw [h, hst] at hl; cases hl
          exact ⟨hF _ hen hes hl, fun d hd => hfill.eval hsl hl hd⟩) (fun s hs hn => hfill.par hn hs) (fun a' w' => (listed.setIfInBounds i true).size = l.length ∧ (∀ t, n ≤ t → (listed.setIfInBounds i true).getD t false = false) ∧ ∃ (V : Nat → Value), Filled l.toArray (listed.setIfInBounds i true) V a0 a' ∧ (((listed.setIfInBounds i true).getD st false = false ∧ Bel w0.drew w' ∧ ∀ j, j < n → j ≠ st → (listed.setIfInBounds i true).getD j false = true → F j (V j) w') ∨ ((listed.setIfInBounds i true).getD st false = true ∧ Z V (V st) w' ∧ (∀ i_1, i_1 < n → i_1 ≠ st → i_1 ≠ late → (listed.setIfInBounds i true).getD i_1 false = true) ∧ ((listed.setIfInBounds i true).getD late false = true → L (V late))))) hKK
        by_cases hw : Region.wanted o (yielded l.toArray a.tmps) = true
        · rw [if_pos hw]
          exact .inl (hK.1 hw)
        · rw [if_neg hw]
          exact hKK undef w (Bel.refl _) (hK.2 (by simpa using hw))
    · have hil : i = late := by
        by_cases h' : i = late
        · exact h'
        · by_cases h2 : i = st
          · subst h2; rw [hst] at huf; cases huf
          · rw [hothers i hin h2 h'] at huf; cases huf
      subst hil
      obtain ⟨hw, hK⟩ := hlate o ho a w (fun s hs hn => hfill.par hn hs)
      rw [if_pos hw]
      refine .inl (hK _ fun v hl => ⟨hs', ht', fun j => if j = i then v else V j, hfill.put hsl ho (by omega) v, .inr ⟨by rw [hset, if_neg (fun e => hne e.symm)]; exact hst, ?_, fun j hj hjs hjl => by rw [hset, if_neg hjl]; exact hothers j hj hjs hjl, fun _ => ?_⟩⟩)
      · simp only [if_neg (fun e : st = i => hne e.symm)]
        exact hZ V _ _ w (fun j _ hjl _ => if_neg hjl) hz
      · simp only [if_true]
        exact hl
  · rintro listed a w ⟨hsz, htl, V, hfill, hI⟩ hall
    rw [hfill.fin hall htl]
    rcases hI with ⟨hst, _⟩ | ⟨_, hz, _, hl⟩
    · rw [hall st (by omega)] at hst; cases hst
    · exact hend V w hz (hl (hall late (by omega)))
end
theorem wp_append_own_at {P : Program} {o : Oper} {a : Act} {w : World} {K : Act → World → Prop} {Q : Exit → Act → World → Prop} (s x : Operand) (t : TypeId)
    (ho : o.op = .call { callee := .builtin .append, args := #[s, x], argTypes := #[t, t] })
    (base : Nat) (e : TypeId) (i : TypeInfo) (z : Value) (size bytes : Nat) (ht : P.underlying t = some (.slice e)) (hi : P.info? e = some i) (hz : i.zero = some z)
    (hsize : i.size = size) (hby : i.bytes = bytes) (hzs : z.cells.size = size) (hsz : 0 < size)
    (v : Value) (n : Nat) (xs : List Value) (hs : a.eval s = v) (hown : w.ownsRow base e size v n xs)
    (ad : Addr) (m c : Nat) (news : List Value) (hx : a.eval x = .slice (some ad) m c) (hl : news.length = m * size) (hnews : ∀ j u, news[j]? = some u → w.cell? (ad.add j) = some u) (h1 : ∀ u ∈ news, u.oneCell' = true)
    (h63 : n + m ≤ maxLen) (hbytes : (n + m) * bytes ≤ 140737488355328) (hbase : base ≤ w.heap.size)
    (h : ∀ v' w', w'.ownsRow base e size v' (n + m) (xs ++ news) → w.grownBy w' v.ownBlock → (v'.ownBlock = v.ownBlock ∨ v'.ownBlock = some w.heap.size) → K (a.put o.dst v') w') :
    Oper.wp P o a w K Q := by
  obtain ⟨v', w', hr, h2, h3, h4, h5⟩ := run_append_own_at (P := P) w base t o.type e i z size bytes ht hi hz hsize hby hzs hsz v n xs hown ad m c news hl hnews h1 h63 hbytes hbase
  unfold Oper.wp execOp
  simp only [ho, resolve, invoke, builtin, Sem.run_bind, Sem.run_pure, Result.andThen_ok, List.map_toArray, List.map_cons, List.map_nil, hs, hx, hr]
  exact h v' w' h2 h3 h5
end Go.Proofs.YtblgligagngpfaaDoor.Mu
namespace Go.Proofs.YtblgligagngpfaaDoor.Mu
open Go.ChangeShapes Go.WideShapes Go.ChangeAt Go.RowKit Go.Shelf

attribute [local go_sem] Oper.semAt_some
set_option linter.unusedVariables false

theorem one_of_blkS {w : World} {g : Nat} {t : TypeId} {x : Value} (h : w.heap[g]? = some (.cells #[x] t (0, 0))) : ∀ j u, [x][j]? = some u → w.cell? ⟨g, j, none⟩ = some u := by
  intro j u hu
  match j, hu with
  | 0, hu => simp at hu; subst hu; simp [World.cell?, h]
theorem info_intS : (Tryd.prog.info? 3).map (fun i => (i.zero, i.size, i.bytes)) = some (some (.int .i64 0), 1, 8) := by kernel_rfl
def regSa : List Oper := [
  { dst := some 5, op := Op.fieldAddr 27 (Operand.tmp 3) 0, type := 0, pos := "ref.go:82", after := #[], guard := none },
  { dst := some 6, op := Op.load 5 (Operand.tmp 5), type := 5, pos := "ref.go:82", after := #[{ on := 0, ground := Ground.data }], guard := none },
  { dst := some 7, op := Op.binOp BinOp.eql 5 (Operand.tmp 6) (Operand.const (Value.int IntKind.u8 1)) 5, type := 4, pos := "ref.go:82", after := #[{ on := 1, ground := Ground.data }], guard := none },
  { dst := some 8, op := Op.move (Operand.tmp 7), type := 4, pos := "ref.go:82", after := #[{ on := 2, ground := Ground.data }], guard := none },
  { dst := some 9, op := Op.move (Operand.tmp 0), type := 103, pos := "ref.go:82", after := #[{ on := 3, ground := Ground.guard }], guard := some (3, true) },
  { dst := some 10, op := Op.nilCheck (Operand.tmp 9), type := 0, pos := "ref.go:82", after := #[{ on := 4, ground := Ground.data }, { on := 3, ground := Ground.guard }], guard := some (3, true) },
  { dst := some 11, op := Op.fieldAddr 46 (Operand.tmp 10) 0, type := 0, pos := "ref.go:82", after := #[{ on := 5, ground := Ground.data }, { on := 3, ground := Ground.guard }], guard := some (3, true) },
  { dst := some 12, op := Op.load 40 (Operand.tmp 11), type := 40, pos := "ref.go:82", after := #[{ on := 6, ground := Ground.data }, { on := 3, ground := Ground.guard }], guard := some (3, true) },
  { dst := some 13, op := Op.fieldAddr 27 (Operand.tmp 3) 1, type := 0, pos := "ref.go:82", after := #[{ on := 3, ground := Ground.guard }], guard := some (3, true) },
  { dst := some 14, op := Op.load 3 (Operand.tmp 13), type := 3, pos := "ref.go:82", after := #[{ on := 8, ground := Ground.data }, { on := 3, ground := Ground.guard }], guard := some (3, true) },
  { dst := some 15, op := Op.call { callee := Callee.value (Operand.func 58), args := #[Operand.tmp 12, Operand.tmp 14], argTypes := #[40, 3] }, type := 3, pos := "ref.go:82", after := #[{ on := 7, ground := Ground.data }, { on := 9, ground := Ground.data }, { on := 3, ground := Ground.chain }, { on := 3, ground := Ground.guard }], guard := some (3, true) },
  { dst := some 16, op := Op.binOp BinOp.lss 3 (Operand.tmp 15) (Operand.const (Value.int IntKind.i64 0)) 3, type := 4, pos := "ref.go:82", after := #[{ on := 10, ground := Ground.data }, { on := 3, ground := Ground.guard }], guard := some (3, true) },
  { dst := some 17, op := Op.pick (Operand.tmp 8) (Operand.tmp 16) (Operand.const (Value.bool false)), type := 4, pos := "ref.go:82", after := #[{ on := 3, ground := Ground.data }, { on := 11, ground := Ground.data }], guard := none }]
def specSa (tb sb n1 q1 n2 q2 : Nat) (kt nt vt ct : Int) (At : Option Addr) (len cap : Nat) (B1 B2 : Option Addr) (T : List Int) (i : Nat) (v : Value) (w : World) : Prop :=
  match i with
  | 0 => v = .pointer (some ⟨tb, 0, none⟩)
  | 1 => v = .int .u8 1
  | 2 => v = .bool true
  | 3 => v = .bool true
  | 4 => v = .pointer (some ⟨sb, 0, none⟩)
  | 5 => v = .pointer (some ⟨sb, 0, none⟩)
  | 6 => v = .pointer (some ⟨sb, 0, none⟩)
  | 7 => v = .slice B1 n1 q1
  | 8 => v = .pointer (some ⟨tb, 1, none⟩)
  | 9 => v = .int .i64 nt
  | 10 => v = .int .i64 (atF T nt)
  | 11 => v = .bool (decide (atF T nt < 0))
  | _ => True
theorem specSa_mono {tb sb n1 q1 n2 q2 : Nat} {kt nt vt ct : Int} {At : Option Addr} {len cap : Nat} {B1 B2 : Option Addr} {T : List Int} (i : Nat) (v : Value) (w w' : World) (hi : i < 12) (h : specSa tb sb n1 q1 n2 q2 kt nt vt ct At len cap B1 B2 T i v w) (hb : Bel w w') : specSa tb sb n1 q1 n2 q2 kt nt vt ct At len cap B1 B2 T i v w' := by
  match i, hi, h with
  | 0, _, h => exact h
  | 1, _, h => exact h
  | 2, _, h => exact h
  | 3, _, h => exact h
  | 4, _, h => exact h
  | 5, _, h => exact h
  | 6, _, h => exact h
  | 7, _, h => exact h
  | 8, _, h => exact h
  | 9, _, h => exact h
  | 10, _, h => exact h
  | 11, _, h => exact h
  | q + 12, hi, _ => exact absurd hi (by omega)
def acOSa (tb sb n1 q1 n2 q2 : Nat) (kt nt vt ct : Int) (At : Option Addr) (len cap : Nat) (B1 B2 : Option Addr) (T : List Int) (s1 s2 s4 s5 s6 s7 s8 s9 s10 s11 s12 s13 s14 s15 s16 s17 s18 s19 s20 s21 s22 s23 s24 s25 s26 s27 s28 s29 s30 s31 s32 s33 s34 s35 s36 s37 s38 s39 s40 s41 s42 s43 s44 s45 s46 s47 s48 s49 s50 s51 s52 s53 s54 s55 s56 s57 s58 s59 s60 s61 s62 s63 s64 s65 s66 s67 s68 s69 s70 s71 s72 s73 s74 s75 s76 s77 s78 : Value) (df : List Deferred) : Act := { tmps := #[.pointer (some ⟨sb, 0, none⟩), s1, s2, .pointer (some ⟨tb, 0, none⟩), s4, s5, s6, s7, s8, s9, s10, s11, s12, s13, s14, s15, s16, s17, s18, s19, s20, s21, s22, s23, s24, s25, s26, s27, s28, s29, s30, s31, s32, s33, s34, s35, s36, s37, s38, s39, s40, s41, s42, s43, s44, s45, s46, s47, s48, s49, s50, s51, s52, s53, s54, s55, s56, s57, s58, s59, s60, s61, s62, s63, s64, s65, s66, s67, s68, s69, s70, s71, s72, s73, s74, s75, s76, s77, s78], defers := df }
def acVSa (tb sb n1 q1 n2 q2 : Nat) (kt nt vt ct : Int) (At : Option Addr) (len cap : Nat) (B1 B2 : Option Addr) (T : List Int) (s1 s2 s4 s5 s6 s7 s8 s9 s10 s11 s12 s13 s14 s15 s16 s17 s18 s19 s20 s21 s22 s23 s24 s25 s26 s27 s28 s29 s30 s31 s32 s33 s34 s35 s36 s37 s38 s39 s40 s41 s42 s43 s44 s45 s46 s47 s48 s49 s50 s51 s52 s53 s54 s55 s56 s57 s58 s59 s60 s61 s62 s63 s64 s65 s66 s67 s68 s69 s70 s71 s72 s73 s74 s75 s76 s77 s78 : Value) (df : List Deferred) (V : Nat → Value) : Act := { tmps := #[.pointer (some ⟨sb, 0, none⟩), s1, s2, .pointer (some ⟨tb, 0, none⟩), s4, V 0, V 1, V 2, V 3, V 4, V 5, V 6, V 7, V 8, V 9, V 10, V 11, s17, s18, s19, s20, s21, s22, s23, s24, s25, s26, s27, s28, s29, s30, s31, s32, s33, s34, s35, s36, s37, s38, s39, s40, s41, s42, s43, s44, s45, s46, s47, s48, s49, s50, s51, s52, s53, s54, s55, s56, s57, s58, s59, s60, s61, s62, s63, s64, s65, s66, s67, s68, s69, s70, s71, s72, s73, s74, s75, s76, s77, s78], defers := df }
theorem regSa_tail : tailB .any regSa.toArray 12 = true := by kernel_rfl
theorem regSa_fwd : fwdB regSa.toArray 12 = true := by kernel_rfl
theorem regSa_slots : slotsB regSa.toArray 79 = true := by kernel_rfl
theorem regSa_seq : Region.seqB .any regSa.toArray (regSa.length - 12) 12 (Array.replicate 12 true ++ Array.replicate (regSa.length - 12) false) = true := by kernel_rfl
set_option maxRecDepth 100000 in
set_option maxHeartbeats 8000000 in
theorem regSa_any {id : Nat} (tb sb n1 q1 n2 q2 : Nat) (kt nt vt ct : Int) (At : Option Addr) (len cap : Nat) (B1 B2 : Option Addr) (T : List Int) (s1 s2 s4 s5 s6 s7 s8 s9 s10 s11 s12 s13 s14 s15 s16 s17 s18 s19 s20 s21 s22 s23 s24 s25 s26 s27 s28 s29 s30 s31 s32 s33 s34 s35 s36 s37 s38 s39 s40 s41 s42 s43 s44 s45 s46 s47 s48 s49 s50 s51 s52 s53 s54 s55 s56 s57 s58 s59 s60 s61 s62 s63 s64 s65 s66 s67 s68 s69 s70 s71 s72 s73 s74 s75 s76 s77 s78 : Value) (df : List Deferred) (w : World) (hs : w.drew.heap[sb]? = some (.cells #[.slice B1 n1 q1, .slice B2 n2 q2] 46 (0, 0))) (htb : w.drew.heap[tb]? = some (.cells #[.int .u8 1, .int .i64 nt, .int .i64 vt, .int .u8 ct, .slice At len cap] 27 (0, 0))) (HC : ∀ W, Bel w.drew W → Calls Tryd.prog 58 #[.slice B1 n1 q1, .int .i64 nt] W fun e w' => e = .returned (.int .i64 (atF T nt)) ∧ Bel W w') (Q : Exit → Act → World → Prop)
    (hend : ∀ (V : Nat → Value) (w' : World), Bel w.drew w' → ((V 3) = .bool true) → ((V 11) = .bool (decide (atF T nt < 0))) → wpList Tryd.prog regSa.toArray Q (regSa.drop 12) (acVSa tb sb n1 q1 n2 q2 kt nt vt ct At len cap B1 B2 T s1 s2 s4 s5 s6 s7 s8 s9 s10 s11 s12 s13 s14 s15 s16 s17 s18 s19 s20 s21 s22 s23 s24 s25 s26 s27 s28 s29 s30 s31 s32 s33 s34 s35 s36 s37 s38 s39 s40 s41 s42 s43 s44 s45 s46 s47 s48 s49 s50 s51 s52 s53 s54 s55 s56 s57 s58 s59 s60 s61 s62 s63 s64 s65 s66 s67 s68 s69 s70 s71 s72 s73 s74 s75 s76 s77 s78 df V) w') :
    (Code.region id regSa.toArray true).wp Tryd.prog Q (acOSa tb sb n1 q1 n2 q2 kt nt vt ct At len cap B1 B2 T s1 s2 s4 s5 s6 s7 s8 s9 s10 s11 s12 s13 s14 s15 s16 s17 s18 s19 s20 s21 s22 s23 s24 s25 s26 s27 s28 s29 s30 s31 s32 s33 s34 s35 s36 s37 s38 s39 s40 s41 s42 s43 s44 s45 s46 s47 s48 s49 s50 s51 s52 s53 s54 s55 s56 s57 s58 s59 s60 s61 s62 s63 s64 s65 s66 s67 s68 s69 s70 s71 s72 s73 s74 s75 s76 s77 s78 df) w := by
  refine wp_region_invG (l := regSa) 12 (acOSa tb sb n1 q1 n2 q2 kt nt vt ct At len cap B1 B2 T s1 s2 s4 s5 s6 s7 s8 s9 s10 s11 s12 s13 s14 s15 s16 s17 s18 s19 s20 s21 s22 s23 s24 s25 s26 s27 s28 s29 s30 s31 s32 s33 s34 s35 s36 s37 s38 s39 s40 s41 s42 s43 s44 s45 s46 s47 s48 s49 s50 s51 s52 s53 s54 s55 s56 s57 s58 s59 s60 s61 s62 s63 s64 s65 s66 s67 s68 s69 s70 s71 s72 s73 s74 s75 s76 s77 s78 df) w (specSa tb sb n1 q1 n2 q2 kt nt vt ct At len cap B1 B2 T) (by kernel_rfl) regSa_tail regSa_fwd regSa_slots regSa_seq (fun i v w w' hi h hb => specSa_mono i v w w' hi h hb) ?_ ?_
  · intro i' o hi' ho a w1 V hbel hdep hpar K hK
    have p0 : a.eval (.tmp 0) = .pointer (some ⟨sb, 0, none⟩) := hpar 0 (by show 0 < 79; decide) (by kernel_rfl)
    have p0' : a.tmps[0]?.getD undef = .pointer (some ⟨sb, 0, none⟩) := by have h := p0; simp only [Act.eval, Array.getD_eq_getD_getElem?] at h; exact h
    have p3 : a.eval (.tmp 3) = .pointer (some ⟨tb, 0, none⟩) := hpar 3 (by show 3 < 79; decide) (by kernel_rfl)
    have p3' : a.tmps[3]?.getD undef = .pointer (some ⟨tb, 0, none⟩) := by have h := p3; simp only [Act.eval, Array.getD_eq_getD_getElem?] at h; exact h
    obtain ⟨s0, s1⟩ := cells2 (hbel.blk hs)
    obtain ⟨⟨u0, u1, u2, u3, u4⟩, _⟩ := cells5 (hbel.blk htb)
    match i', hi', ho, hdep, hK with
    | 0, _, ho, hdep, hK =>
      simp only [regSa, List.getElem?_toArray, List.getElem?_cons_zero, Option.some.injEq] at ho
      subst ho
      refine ⟨fun _ => ?_, fun hw => (yw_n rfl hw).elim⟩
      exact wp_val (v := .pointer (some ⟨tb, 0, none⟩)) (w' := w1) (by simp [execOp, go_sem, p3']) (hK _ _ (Bel.refl _) rfl)
    | 1, _, ho, hdep, hK =>
      simp only [regSa, List.getElem?_toArray, List.getElem?_cons_zero, List.getElem?_cons_succ, Option.some.injEq] at ho
      subst ho
      refine ⟨fun _ => ?_, fun hw => (yw_n rfl hw).elim⟩
      obtain ⟨f0, d0⟩ := hdep ⟨0, .data⟩ (by simp) rfl
      have e0 : a.eval (.tmp 5) = .pointer (some ⟨tb, 0, none⟩) := (d0 5 rfl).trans f0
      have e0' : a.tmps[5]?.getD undef = .pointer (some ⟨tb, 0, none⟩) := by have h := e0; simp only [Act.eval, Array.getD_eq_getD_getElem?] at h; exact h
      exact wp_val (v := .int .u8 1) (w' := w1) (by simp [execOp, go_sem, e0', u0]) (hK _ _ (Bel.refl _) rfl)
    | 2, _, ho, hdep, hK =>
      simp only [regSa, List.getElem?_toArray, List.getElem?_cons_zero, List.getElem?_cons_succ, Option.some.injEq] at ho
      subst ho
      refine ⟨fun _ => ?_, fun hw => (yw_n rfl hw).elim⟩
      obtain ⟨f1, d1⟩ := hdep ⟨1, .data⟩ (by simp) rfl
      have e1 : a.eval (.tmp 6) = .int .u8 1 := (d1 6 rfl).trans f1
      have e1' : a.tmps[6]?.getD undef = .int .u8 1 := by have h := e1; simp only [Act.eval, Array.getD_eq_getD_getElem?] at h; exact h
      exact wp_val (v := .bool true) (w' := w1) (by simp [execOp, go_sem, e1']) (hK _ _ (Bel.refl _) rfl)
    | 3, _, ho, hdep, hK =>
      simp only [regSa, List.getElem?_toArray, List.getElem?_cons_zero, List.getElem?_cons_succ, Option.some.injEq] at ho
      subst ho
      refine ⟨fun _ => ?_, fun hw => (yw_n rfl hw).elim⟩
      obtain ⟨f2, d2⟩ := hdep ⟨2, .data⟩ (by simp) rfl
      have e2 : a.eval (.tmp 7) = .bool true := (d2 7 rfl).trans f2
      have e2' : a.tmps[7]?.getD undef = .bool true := by have h := e2; simp only [Act.eval, Array.getD_eq_getD_getElem?] at h; exact h
      exact wp_val (v := .bool true) (w' := w1) (by simp [execOp, go_sem, e2']) (hK _ _ (Bel.refl _) rfl)
    | 4, _, ho, hdep, hK =>
      simp only [regSa, List.getElem?_toArray, List.getElem?_cons_zero, List.getElem?_cons_succ, Option.some.injEq] at ho
      subst ho
      obtain ⟨fg, dg⟩ := hdep ⟨3, .guard⟩ (by simp) rfl
      have eg : a.tmps.getD 8 undef = .bool true := (dg 8 rfl).trans fg
      refine ⟨fun _ => ?_, fun hw => (yw_t (d := 8) rfl rfl eg hw).elim⟩
      exact wp_val (v := .pointer (some ⟨sb, 0, none⟩)) (w' := w1) (by simp [execOp, go_sem, p0']) (hK _ _ (Bel.refl _) rfl)
    | 5, _, ho, hdep, hK =>
      simp only [regSa, List.getElem?_toArray, List.getElem?_cons_zero, List.getElem?_cons_succ, Option.some.injEq] at ho
      subst ho
      obtain ⟨fg, dg⟩ := hdep ⟨3, .guard⟩ (by simp) rfl
      have eg : a.tmps.getD 8 undef = .bool true := (dg 8 rfl).trans fg
      refine ⟨fun _ => ?_, fun hw => (yw_t (d := 8) rfl rfl eg hw).elim⟩
      obtain ⟨f4, d4⟩ := hdep ⟨4, .data⟩ (by simp) rfl
      have e4 : a.eval (.tmp 9) = .pointer (some ⟨sb, 0, none⟩) := (d4 9 rfl).trans f4
      have e4' : a.tmps[9]?.getD undef = .pointer (some ⟨sb, 0, none⟩) := by have h := e4; simp only [Act.eval, Array.getD_eq_getD_getElem?] at h; exact h
      exact wp_val (v := .pointer (some ⟨sb, 0, none⟩)) (w' := w1) (by simp [execOp, go_sem, e4']) (hK _ _ (Bel.refl _) rfl)
    | 6, _, ho, hdep, hK =>
      simp only [regSa, List.getElem?_toArray, List.getElem?_cons_zero, List.getElem?_cons_succ, Option.some.injEq] at ho
      subst ho
      obtain ⟨fg, dg⟩ := hdep ⟨3, .guard⟩ (by simp) rfl
      have eg : a.tmps.getD 8 undef = .bool true := (dg 8 rfl).trans fg
      refine ⟨fun _ => ?_, fun hw => (yw_t (d := 8) rfl rfl eg hw).elim⟩
      obtain ⟨f5, d5⟩ := hdep ⟨5, .data⟩ (by simp) rfl
      have e5 : a.eval (.tmp 10) = .pointer (some ⟨sb, 0, none⟩) := (d5 10 rfl).trans f5
      have e5' : a.tmps[10]?.getD undef = .pointer (some ⟨sb, 0, none⟩) := by have h := e5; simp only [Act.eval, Array.getD_eq_getD_getElem?] at h; exact h
      exact wp_val (v := .pointer (some ⟨sb, 0, none⟩)) (w' := w1) (by simp [execOp, go_sem, e5']) (hK _ _ (Bel.refl _) rfl)
    | 7, _, ho, hdep, hK =>
      simp only [regSa, List.getElem?_toArray, List.getElem?_cons_zero, List.getElem?_cons_succ, Option.some.injEq] at ho
      subst ho
      obtain ⟨fg, dg⟩ := hdep ⟨3, .guard⟩ (by simp) rfl
      have eg : a.tmps.getD 8 undef = .bool true := (dg 8 rfl).trans fg
      refine ⟨fun _ => ?_, fun hw => (yw_t (d := 8) rfl rfl eg hw).elim⟩
      obtain ⟨f6, d6⟩ := hdep ⟨6, .data⟩ (by simp) rfl
      have e6 : a.eval (.tmp 11) = .pointer (some ⟨sb, 0, none⟩) := (d6 11 rfl).trans f6
      have e6' : a.tmps[11]?.getD undef = .pointer (some ⟨sb, 0, none⟩) := by have h := e6; simp only [Act.eval, Array.getD_eq_getD_getElem?] at h; exact h
      exact wp_val (v := .slice B1 n1 q1) (w' := w1) (by simp [execOp, go_sem, e6', s0]) (hK _ _ (Bel.refl _) rfl)
    | 8, _, ho, hdep, hK =>
      simp only [regSa, List.getElem?_toArray, List.getElem?_cons_zero, List.getElem?_cons_succ, Option.some.injEq] at ho
      subst ho
      obtain ⟨fg, dg⟩ := hdep ⟨3, .guard⟩ (by simp) rfl
      have eg : a.tmps.getD 8 undef = .bool true := (dg 8 rfl).trans fg
      refine ⟨fun _ => ?_, fun hw => (yw_t (d := 8) rfl rfl eg hw).elim⟩
      exact wp_val (v := .pointer (some ⟨tb, 1, none⟩)) (w' := w1) (by simp [execOp, go_sem, p3']) (hK _ _ (Bel.refl _) rfl)
    | 9, _, ho, hdep, hK =>
      simp only [regSa, List.getElem?_toArray, List.getElem?_cons_zero, List.getElem?_cons_succ, Option.some.injEq] at ho
      subst ho
      obtain ⟨fg, dg⟩ := hdep ⟨3, .guard⟩ (by simp) rfl
      have eg : a.tmps.getD 8 undef = .bool true := (dg 8 rfl).trans fg
      refine ⟨fun _ => ?_, fun hw => (yw_t (d := 8) rfl rfl eg hw).elim⟩
      obtain ⟨f8, d8⟩ := hdep ⟨8, .data⟩ (by simp) rfl
      have e8 : a.eval (.tmp 13) = .pointer (some ⟨tb, 1, none⟩) := (d8 13 rfl).trans f8
      have e8' : a.tmps[13]?.getD undef = .pointer (some ⟨tb, 1, none⟩) := by have h := e8; simp only [Act.eval, Array.getD_eq_getD_getElem?] at h; exact h
      exact wp_val (v := .int .i64 nt) (w' := w1) (by simp [execOp, go_sem, e8', u1]) (hK _ _ (Bel.refl _) rfl)
    | 10, _, ho, hdep, hK =>
      simp only [regSa, List.getElem?_toArray, List.getElem?_cons_zero, List.getElem?_cons_succ, Option.some.injEq] at ho
      subst ho
      obtain ⟨fg, dg⟩ := hdep ⟨3, .guard⟩ (by simp) rfl
      have eg : a.tmps.getD 8 undef = .bool true := (dg 8 rfl).trans fg
      refine ⟨fun _ => ?_, fun hw => (yw_t (d := 8) rfl rfl eg hw).elim⟩
      obtain ⟨f7, d7⟩ := hdep ⟨7, .data⟩ (by simp) rfl
      have e7 : a.eval (.tmp 12) = .slice B1 n1 q1 := (d7 12 rfl).trans f7
      have e7' : a.tmps[12]?.getD undef = .slice B1 n1 q1 := by have h := e7; simp only [Act.eval, Array.getD_eq_getD_getElem?] at h; exact h
      obtain ⟨f9, d9⟩ := hdep ⟨9, .data⟩ (by simp) rfl
      have e9 : a.eval (.tmp 14) = .int .i64 nt := (d9 14 rfl).trans f9
      have e9' : a.tmps[14]?.getD undef = .int .i64 nt := by have h := e9; simp only [Act.eval, Array.getD_eq_getD_getElem?] at h; exact h
      refine wp_enter (f := 58) (args := #[.slice B1 n1 q1, .int .i64 nt]) (by simp [go_sem, e7', e9']) ((HC w1 hbel).mono ?_)
      rintro e w' ⟨rfl, hb⟩
      exact ⟨_, rfl, hK _ _ hb rfl⟩
    | 11, _, ho, hdep, hK =>
      simp only [regSa, List.getElem?_toArray, List.getElem?_cons_zero, List.getElem?_cons_succ, Option.some.injEq] at ho
      subst ho
      obtain ⟨fg, dg⟩ := hdep ⟨3, .guard⟩ (by simp) rfl
      have eg : a.tmps.getD 8 undef = .bool true := (dg 8 rfl).trans fg
      refine ⟨fun _ => ?_, fun hw => (yw_t (d := 8) rfl rfl eg hw).elim⟩
      obtain ⟨f10, d10⟩ := hdep ⟨10, .data⟩ (by simp) rfl
      have e10 : a.eval (.tmp 15) = .int .i64 (atF T nt) := (d10 15 rfl).trans f10
      have e10' : a.tmps[15]?.getD undef = .int .i64 (atF T nt) := by have h := e10; simp only [Act.eval, Array.getD_eq_getD_getElem?] at h; exact h
      exact wp_val (v := .bool (decide (atF T nt < 0))) (w' := w1) (by simp [execOp, go_sem, e10']) (hK _ _ (Bel.refl _) rfl)
    | q + 12, hi, _, _, _ => exact absurd hi (by omega)
  · intro V w' hb hF
    have e : finA regSa.toArray 12 V (acOSa tb sb n1 q1 n2 q2 kt nt vt ct At len cap B1 B2 T s1 s2 s4 s5 s6 s7 s8 s9 s10 s11 s12 s13 s14 s15 s16 s17 s18 s19 s20 s21 s22 s23 s24 s25 s26 s27 s28 s29 s30 s31 s32 s33 s34 s35 s36 s37 s38 s39 s40 s41 s42 s43 s44 s45 s46 s47 s48 s49 s50 s51 s52 s53 s54 s55 s56 s57 s58 s59 s60 s61 s62 s63 s64 s65 s66 s67 s68 s69 s70 s71 s72 s73 s74 s75 s76 s77 s78 df) = acVSa tb sb n1 q1 n2 q2 kt nt vt ct At len cap B1 B2 T s1 s2 s4 s5 s6 s7 s8 s9 s10 s11 s12 s13 s14 s15 s16 s17 s18 s19 s20 s21 s22 s23 s24 s25 s26 s27 s28 s29 s30 s31 s32 s33 s34 s35 s36 s37 s38 s39 s40 s41 s42 s43 s44 s45 s46 s47 s48 s49 s50 s51 s52 s53 s54 s55 s56 s57 s58 s59 s60 s61 s62 s63 s64 s65 s66 s67 s68 s69 s70 s71 s72 s73 s74 s75 s76 s77 s78 df V := by kernel_rfl
    rw [e]
    exact hend V w' hb (hF 3 (by omega)) (hF 11 (by omega))
def regSb : List Oper := [
  { dst := some 36, op := Op.fieldAddr 27 (Operand.tmp 3) 0, type := 0, pos := "ref.go:86", after := #[], guard := none },
  { dst := some 37, op := Op.load 5 (Operand.tmp 36), type := 5, pos := "ref.go:86", after := #[{ on := 0, ground := Ground.data }], guard := none },
  { dst := some 38, op := Op.binOp BinOp.eql 5 (Operand.tmp 37) (Operand.const (Value.int IntKind.u8 7)) 5, type := 4, pos := "ref.go:86", after := #[{ on := 1, ground := Ground.data }], guard := none },
  { dst := some 39, op := Op.move (Operand.tmp 38), type := 4, pos := "ref.go:86", after := #[{ on := 2, ground := Ground.data }], guard := none },
  { dst := some 40, op := Op.move (Operand.tmp 4), type := 3, pos := "ref.go:86", after := #[{ on := 3, ground := Ground.guard }], guard := some (3, true) },
  { dst := some 41, op := Op.binOp BinOp.eql 3 (Operand.tmp 40) (Operand.const (Value.int IntKind.i64 1)) 3, type := 4, pos := "ref.go:86", after := #[{ on := 4, ground := Ground.data }, { on := 3, ground := Ground.guard }], guard := some (3, true) },
  { dst := some 42, op := Op.pick (Operand.tmp 39) (Operand.tmp 41) (Operand.const (Value.bool false)), type := 4, pos := "ref.go:86", after := #[{ on := 3, ground := Ground.data }, { on := 5, ground := Ground.data }], guard := none },
  { dst := some 43, op := Op.move (Operand.tmp 42), type := 4, pos := "ref.go:86", after := #[{ on := 6, ground := Ground.data }, { on := 3, ground := Ground.chain }], guard := none },
  { dst := some 44, op := Op.fieldAddr 27 (Operand.tmp 3) 2, type := 0, pos := "ref.go:86", after := #[{ on := 7, ground := Ground.guard }], guard := some (7, true) },
  { dst := some 45, op := Op.fieldAddr 24 (Operand.tmp 44) 1, type := 0, pos := "ref.go:86", after := #[{ on := 8, ground := Ground.data }, { on := 7, ground := Ground.guard }], guard := some (7, true) },
  { dst := some 46, op := Op.load 22 (Operand.tmp 45), type := 22, pos := "ref.go:86", after := #[{ on := 9, ground := Ground.data }, { on := 7, ground := Ground.guard }], guard := some (7, true) },
  { dst := some 47, op := Op.binOp BinOp.eql 22 (Operand.tmp 46) (Operand.const (Value.int IntKind.u8 0)) 22, type := 4, pos := "ref.go:86", after := #[{ on := 10, ground := Ground.data }, { on := 7, ground := Ground.guard }], guard := some (7, true) },
  { dst := some 48, op := Op.pick (Operand.tmp 43) (Operand.tmp 47) (Operand.const (Value.bool false)), type := 4, pos := "ref.go:86", after := #[{ on := 7, ground := Ground.data }, { on := 11, ground := Ground.data }], guard := none },
  { dst := some 49, op := Op.move (Operand.tmp 48), type := 4, pos := "ref.go:86", after := #[{ on := 12, ground := Ground.data }, { on := 7, ground := Ground.chain }], guard := none },
  { dst := some 50, op := Op.move (Operand.tmp 0), type := 103, pos := "ref.go:86", after := #[{ on := 13, ground := Ground.guard }], guard := some (13, true) },
  { dst := some 51, op := Op.nilCheck (Operand.tmp 50), type := 0, pos := "ref.go:86", after := #[{ on := 14, ground := Ground.data }, { on := 13, ground := Ground.guard }], guard := some (13, true) },
  { dst := some 52, op := Op.fieldAddr 46 (Operand.tmp 51) 1, type := 0, pos := "ref.go:86", after := #[{ on := 15, ground := Ground.data }, { on := 13, ground := Ground.guard }], guard := some (13, true) },
  { dst := some 53, op := Op.load 40 (Operand.tmp 52), type := 40, pos := "ref.go:86", after := #[{ on := 16, ground := Ground.data }, { on := 13, ground := Ground.guard }], guard := some (13, true) },
  { dst := some 54, op := Op.fieldAddr 27 (Operand.tmp 3) 2, type := 0, pos := "ref.go:86", after := #[{ on := 13, ground := Ground.guard }], guard := some (13, true) },
  { dst := some 55, op := Op.fieldAddr 24 (Operand.tmp 54) 0, type := 0, pos := "ref.go:86", after := #[{ on := 18, ground := Ground.data }, { on := 13, ground := Ground.guard }], guard := some (13, true) },
  { dst := some 56, op := Op.load 3 (Operand.tmp 55), type := 3, pos := "ref.go:86", after := #[{ on := 19, ground := Ground.data }, { on := 13, ground := Ground.guard }], guard := some (13, true) },
  { dst := some 57, op := Op.call { callee := Callee.value (Operand.func 58), args := #[Operand.tmp 53, Operand.tmp 56], argTypes := #[40, 3] }, type := 3, pos := "ref.go:86", after := #[{ on := 17, ground := Ground.data }, { on := 20, ground := Ground.data }, { on := 13, ground := Ground.chain }, { on := 13, ground := Ground.guard }], guard := some (13, true) },
  { dst := some 58, op := Op.binOp BinOp.lss 3 (Operand.tmp 57) (Operand.const (Value.int IntKind.i64 0)) 3, type := 4, pos := "ref.go:86", after := #[{ on := 21, ground := Ground.data }, { on := 13, ground := Ground.guard }], guard := some (13, true) },
  { dst := some 59, op := Op.pick (Operand.tmp 49) (Operand.tmp 58) (Operand.const (Value.bool false)), type := 4, pos := "ref.go:86", after := #[{ on := 13, ground := Ground.data }, { on := 22, ground := Ground.data }], guard := none }]
def specSb (tb sb n1 q1 n2 q2 : Nat) (kt nt vt ct : Int) (At : Option Addr) (len cap : Nat) (B1 B2 : Option Addr) (T : List Int) (i : Nat) (v : Value) (w : World) : Prop :=
  match i with
  | 0 => v = .pointer (some ⟨tb, 0, none⟩)
  | 1 => v = .int .u8 7
  | 2 => v = .bool true
  | 3 => v = .bool true
  | 4 => v = .int .i64 1
  | 5 => v = .bool true
  | 6 => v = .bool true
  | 7 => v = .bool true
  | 8 => v = .pointer (some ⟨tb, 2, none⟩)
  | 9 => v = .pointer (some ⟨tb, 3, none⟩)
  | 10 => v = .int .u8 0
  | 11 => v = .bool true
  | 12 => v = .bool true
  | 13 => v = .bool true
  | 14 => v = .pointer (some ⟨sb, 0, none⟩)
  | 15 => v = .pointer (some ⟨sb, 0, none⟩)
  | 16 => v = .pointer (some ⟨sb, 1, none⟩)
  | 17 => v = .slice B2 n2 q2
  | 18 => v = .pointer (some ⟨tb, 2, none⟩)
  | 19 => v = .pointer (some ⟨tb, 2, none⟩)
  | 20 => v = .int .i64 vt
  | 21 => v = .int .i64 (atF T vt)
  | 22 => v = .bool (decide (atF T vt < 0))
  | _ => True
theorem specSb_mono {tb sb n1 q1 n2 q2 : Nat} {kt nt vt ct : Int} {At : Option Addr} {len cap : Nat} {B1 B2 : Option Addr} {T : List Int} (i : Nat) (v : Value) (w w' : World) (hi : i < 23) (h : specSb tb sb n1 q1 n2 q2 kt nt vt ct At len cap B1 B2 T i v w) (hb : Bel w w') : specSb tb sb n1 q1 n2 q2 kt nt vt ct At len cap B1 B2 T i v w' := by
  match i, hi, h with
  | 0, _, h => exact h
  | 1, _, h => exact h
  | 2, _, h => exact h
  | 3, _, h => exact h
  | 4, _, h => exact h
  | 5, _, h => exact h
  | 6, _, h => exact h
  | 7, _, h => exact h
  | 8, _, h => exact h
  | 9, _, h => exact h
  | 10, _, h => exact h
  | 11, _, h => exact h
  | 12, _, h => exact h
  | 13, _, h => exact h
  | 14, _, h => exact h
  | 15, _, h => exact h
  | 16, _, h => exact h
  | 17, _, h => exact h
  | 18, _, h => exact h
  | 19, _, h => exact h
  | 20, _, h => exact h
  | 21, _, h => exact h
  | 22, _, h => exact h
  | q + 23, hi, _ => exact absurd hi (by omega)
def acOSb (tb sb n1 q1 n2 q2 : Nat) (kt nt vt ct : Int) (At : Option Addr) (len cap : Nat) (B1 B2 : Option Addr) (T : List Int) (s1 s2 s5 s6 s7 s8 s9 s10 s11 s12 s13 s14 s15 s16 s17 s18 s19 s20 s21 s22 s23 s24 s25 s26 s27 s28 s29 s30 s31 s32 s33 s34 s35 s36 s37 s38 s39 s40 s41 s42 s43 s44 s45 s46 s47 s48 s49 s50 s51 s52 s53 s54 s55 s56 s57 s58 s59 s60 s61 s62 s63 s64 s65 s66 s67 s68 s69 s70 s71 s72 s73 s74 s75 s76 s77 s78 : Value) (df : List Deferred) : Act := { tmps := #[.pointer (some ⟨sb, 0, none⟩), s1, s2, .pointer (some ⟨tb, 0, none⟩), .int .i64 1, s5, s6, s7, s8, s9, s10, s11, s12, s13, s14, s15, s16, s17, s18, s19, s20, s21, s22, s23, s24, s25, s26, s27, s28, s29, s30, s31, s32, s33, s34, s35, s36, s37, s38, s39, s40, s41, s42, s43, s44, s45, s46, s47, s48, s49, s50, s51, s52, s53, s54, s55, s56, s57, s58, s59, s60, s61, s62, s63, s64, s65, s66, s67, s68, s69, s70, s71, s72, s73, s74, s75, s76, s77, s78], defers := df }
def acVSb (tb sb n1 q1 n2 q2 : Nat) (kt nt vt ct : Int) (At : Option Addr) (len cap : Nat) (B1 B2 : Option Addr) (T : List Int) (s1 s2 s5 s6 s7 s8 s9 s10 s11 s12 s13 s14 s15 s16 s17 s18 s19 s20 s21 s22 s23 s24 s25 s26 s27 s28 s29 s30 s31 s32 s33 s34 s35 s36 s37 s38 s39 s40 s41 s42 s43 s44 s45 s46 s47 s48 s49 s50 s51 s52 s53 s54 s55 s56 s57 s58 s59 s60 s61 s62 s63 s64 s65 s66 s67 s68 s69 s70 s71 s72 s73 s74 s75 s76 s77 s78 : Value) (df : List Deferred) (V : Nat → Value) : Act := { tmps := #[.pointer (some ⟨sb, 0, none⟩), s1, s2, .pointer (some ⟨tb, 0, none⟩), .int .i64 1, s5, s6, s7, s8, s9, s10, s11, s12, s13, s14, s15, s16, s17, s18, s19, s20, s21, s22, s23, s24, s25, s26, s27, s28, s29, s30, s31, s32, s33, s34, s35, V 0, V 1, V 2, V 3, V 4, V 5, V 6, V 7, V 8, V 9, V 10, V 11, V 12, V 13, V 14, V 15, V 16, V 17, V 18, V 19, V 20, V 21, V 22, s59, s60, s61, s62, s63, s64, s65, s66, s67, s68, s69, s70, s71, s72, s73, s74, s75, s76, s77, s78], defers := df }
theorem regSb_tail : tailB .any regSb.toArray 23 = true := by kernel_rfl
theorem regSb_fwd : fwdB regSb.toArray 23 = true := by kernel_rfl
theorem regSb_slots : slotsB regSb.toArray 79 = true := by kernel_rfl
theorem regSb_seq : Region.seqB .any regSb.toArray (regSb.length - 23) 23 (Array.replicate 23 true ++ Array.replicate (regSb.length - 23) false) = true := by kernel_rfl
set_option maxRecDepth 100000 in
set_option maxHeartbeats 8000000 in
theorem regSb_any {id : Nat} (tb sb n1 q1 n2 q2 : Nat) (kt nt vt ct : Int) (At : Option Addr) (len cap : Nat) (B1 B2 : Option Addr) (T : List Int) (s1 s2 s5 s6 s7 s8 s9 s10 s11 s12 s13 s14 s15 s16 s17 s18 s19 s20 s21 s22 s23 s24 s25 s26 s27 s28 s29 s30 s31 s32 s33 s34 s35 s36 s37 s38 s39 s40 s41 s42 s43 s44 s45 s46 s47 s48 s49 s50 s51 s52 s53 s54 s55 s56 s57 s58 s59 s60 s61 s62 s63 s64 s65 s66 s67 s68 s69 s70 s71 s72 s73 s74 s75 s76 s77 s78 : Value) (df : List Deferred) (w : World) (hs : w.drew.heap[sb]? = some (.cells #[.slice B1 n1 q1, .slice B2 n2 q2] 46 (0, 0))) (htb : w.drew.heap[tb]? = some (.cells #[.int .u8 7, .int .i64 nt, .int .i64 vt, .int .u8 0, .slice At len cap] 27 (0, 0))) (HC : ∀ W, Bel w.drew W → Calls Tryd.prog 58 #[.slice B2 n2 q2, .int .i64 vt] W fun e w' => e = .returned (.int .i64 (atF T vt)) ∧ Bel W w') (Q : Exit → Act → World → Prop)
    (hend : ∀ (V : Nat → Value) (w' : World), Bel w.drew w' → ((V 13) = .bool true) → ((V 22) = .bool (decide (atF T vt < 0))) → wpList Tryd.prog regSb.toArray Q (regSb.drop 23) (acVSb tb sb n1 q1 n2 q2 kt nt vt ct At len cap B1 B2 T s1 s2 s5 s6 s7 s8 s9 s10 s11 s12 s13 s14 s15 s16 s17 s18 s19 s20 s21 s22 s23 s24 s25 s26 s27 s28 s29 s30 s31 s32 s33 s34 s35 s36 s37 s38 s39 s40 s41 s42 s43 s44 s45 s46 s47 s48 s49 s50 s51 s52 s53 s54 s55 s56 s57 s58 s59 s60 s61 s62 s63 s64 s65 s66 s67 s68 s69 s70 s71 s72 s73 s74 s75 s76 s77 s78 df V) w') :
    (Code.region id regSb.toArray true).wp Tryd.prog Q (acOSb tb sb n1 q1 n2 q2 kt nt vt ct At len cap B1 B2 T s1 s2 s5 s6 s7 s8 s9 s10 s11 s12 s13 s14 s15 s16 s17 s18 s19 s20 s21 s22 s23 s24 s25 s26 s27 s28 s29 s30 s31 s32 s33 s34 s35 s36 s37 s38 s39 s40 s41 s42 s43 s44 s45 s46 s47 s48 s49 s50 s51 s52 s53 s54 s55 s56 s57 s58 s59 s60 s61 s62 s63 s64 s65 s66 s67 s68 s69 s70 s71 s72 s73 s74 s75 s76 s77 s78 df) w := by
  refine wp_region_invG (l := regSb) 23 (acOSb tb sb n1 q1 n2 q2 kt nt vt ct At len cap B1 B2 T s1 s2 s5 s6 s7 s8 s9 s10 s11 s12 s13 s14 s15 s16 s17 s18 s19 s20 s21 s22 s23 s24 s25 s26 s27 s28 s29 s30 s31 s32 s33 s34 s35 s36 s37 s38 s39 s40 s41 s42 s43 s44 s45 s46 s47 s48 s49 s50 s51 s52 s53 s54 s55 s56 s57 s58 s59 s60 s61 s62 s63 s64 s65 s66 s67 s68 s69 s70 s71 s72 s73 s74 s75 s76 s77 s78 df) w (specSb tb sb n1 q1 n2 q2 kt nt vt ct At len cap B1 B2 T) (by kernel_rfl) regSb_tail regSb_fwd regSb_slots regSb_seq (fun i v w w' hi h hb => specSb_mono i v w w' hi h hb) ?_ ?_
  · intro i' o hi' ho a w1 V hbel hdep hpar K hK
    have p0 : a.eval (.tmp 0) = .pointer (some ⟨sb, 0, none⟩) := hpar 0 (by show 0 < 79; decide) (by kernel_rfl)
    have p0' : a.tmps[0]?.getD undef = .pointer (some ⟨sb, 0, none⟩) := by have h := p0; simp only [Act.eval, Array.getD_eq_getD_getElem?] at h; exact h
    have p3 : a.eval (.tmp 3) = .pointer (some ⟨tb, 0, none⟩) := hpar 3 (by show 3 < 79; decide) (by kernel_rfl)
    have p3' : a.tmps[3]?.getD undef = .pointer (some ⟨tb, 0, none⟩) := by have h := p3; simp only [Act.eval, Array.getD_eq_getD_getElem?] at h; exact h
    have p4 : a.eval (.tmp 4) = .int .i64 1 := hpar 4 (by show 4 < 79; decide) (by kernel_rfl)
    have p4' : a.tmps[4]?.getD undef = .int .i64 1 := by have h := p4; simp only [Act.eval, Array.getD_eq_getD_getElem?] at h; exact h
    obtain ⟨s0, s1⟩ := cells2 (hbel.blk hs)
    obtain ⟨⟨u0, u1, u2, u3, u4⟩, _⟩ := cells5 (hbel.blk htb)
    match i', hi', ho, hdep, hK with
    | 0, _, ho, hdep, hK =>
      simp only [regSb, List.getElem?_toArray, List.getElem?_cons_zero, Option.some.injEq] at ho
      subst ho
      refine ⟨fun _ => ?_, fun hw => (yw_n rfl hw).elim⟩
      exact wp_val (v := .pointer (some ⟨tb, 0, none⟩)) (w' := w1) (by simp [execOp, go_sem, p3']) (hK _ _ (Bel.refl _) rfl)
    | 1, _, ho, hdep, hK =>
      simp only [regSb, List.getElem?_toArray, List.getElem?_cons_zero, List.getElem?_cons_succ, Option.some.injEq] at ho
      subst ho
      refine ⟨fun _ => ?_, fun hw => (yw_n rfl hw).elim⟩
      obtain ⟨f0, d0⟩ := hdep ⟨0, .data⟩ (by simp) rfl
      have e0 : a.eval (.tmp 36) = .pointer (some ⟨tb, 0, none⟩) := (d0 36 rfl).trans f0
      have e0' : a.tmps[36]?.getD undef = .pointer (some ⟨tb, 0, none⟩) := by have h := e0; simp only [Act.eval, Array.getD_eq_getD_getElem?] at h; exact h
      exact wp_val (v := .int .u8 7) (w' := w1) (by simp [execOp, go_sem, e0', u0]) (hK _ _ (Bel.refl _) rfl)
    | 2, _, ho, hdep, hK =>
      simp only [regSb, List.getElem?_toArray, List.getElem?_cons_zero, List.getElem?_cons_succ, Option.some.injEq] at ho
      subst ho
      refine ⟨fun _ => ?_, fun hw => (yw_n rfl hw).elim⟩
      obtain ⟨f1, d1⟩ := hdep ⟨1, .data⟩ (by simp) rfl
      have e1 : a.eval (.tmp 37) = .int .u8 7 := (d1 37 rfl).trans f1
      have e1' : a.tmps[37]?.getD undef = .int .u8 7 := by have h := e1; simp only [Act.eval, Array.getD_eq_getD_getElem?] at h; exact h
      exact wp_val (v := .bool true) (w' := w1) (by simp [execOp, go_sem, e1']) (hK _ _ (Bel.refl _) rfl)
    | 3, _, ho, hdep, hK =>
      simp only [regSb, List.getElem?_toArray, List.getElem?_cons_zero, List.getElem?_cons_succ, Option.some.injEq] at ho
      subst ho
      refine ⟨fun _ => ?_, fun hw => (yw_n rfl hw).elim⟩
      obtain ⟨f2, d2⟩ := hdep ⟨2, .data⟩ (by simp) rfl
      have e2 : a.eval (.tmp 38) = .bool true := (d2 38 rfl).trans f2
      have e2' : a.tmps[38]?.getD undef = .bool true := by have h := e2; simp only [Act.eval, Array.getD_eq_getD_getElem?] at h; exact h
      exact wp_val (v := .bool true) (w' := w1) (by simp [execOp, go_sem, e2']) (hK _ _ (Bel.refl _) rfl)
    | 4, _, ho, hdep, hK =>
      simp only [regSb, List.getElem?_toArray, List.getElem?_cons_zero, List.getElem?_cons_succ, Option.some.injEq] at ho
      subst ho
      obtain ⟨fg, dg⟩ := hdep ⟨3, .guard⟩ (by simp) rfl
      have eg : a.tmps.getD 39 undef = .bool true := (dg 39 rfl).trans fg
      refine ⟨fun _ => ?_, fun hw => (yw_t (d := 39) rfl rfl eg hw).elim⟩
      exact wp_val (v := .int .i64 1) (w' := w1) (by simp [execOp, go_sem, p4']) (hK _ _ (Bel.refl _) rfl)
    | 5, _, ho, hdep, hK =>
      simp only [regSb, List.getElem?_toArray, List.getElem?_cons_zero, List.getElem?_cons_succ, Option.some.injEq] at ho
      subst ho
      obtain ⟨fg, dg⟩ := hdep ⟨3, .guard⟩ (by simp) rfl
      have eg : a.tmps.getD 39 undef = .bool true := (dg 39 rfl).trans fg
      refine ⟨fun _ => ?_, fun hw => (yw_t (d := 39) rfl rfl eg hw).elim⟩
      obtain ⟨f4, d4⟩ := hdep ⟨4, .data⟩ (by simp) rfl
      have e4 : a.eval (.tmp 40) = .int .i64 1 := (d4 40 rfl).trans f4
      have e4' : a.tmps[40]?.getD undef = .int .i64 1 := by have h := e4; simp only [Act.eval, Array.getD_eq_getD_getElem?] at h; exact h
      exact wp_val (v := .bool true) (w' := w1) (by simp [execOp, go_sem, e4']) (hK _ _ (Bel.refl _) rfl)
    | 6, _, ho, hdep, hK =>
      simp only [regSb, List.getElem?_toArray, List.getElem?_cons_zero, List.getElem?_cons_succ, Option.some.injEq] at ho
      subst ho
      refine ⟨fun _ => ?_, fun hw => (yw_n rfl hw).elim⟩
      obtain ⟨f3, d3⟩ := hdep ⟨3, .data⟩ (by simp) rfl
      have e3 : a.eval (.tmp 39) = .bool true := (d3 39 rfl).trans f3
      have e3' : a.tmps[39]?.getD undef = .bool true := by have h := e3; simp only [Act.eval, Array.getD_eq_getD_getElem?] at h; exact h
      obtain ⟨f5, d5⟩ := hdep ⟨5, .data⟩ (by simp) rfl
      have e5 : a.eval (.tmp 41) = .bool true := (d5 41 rfl).trans f5
      have e5' : a.tmps[41]?.getD undef = .bool true := by have h := e5; simp only [Act.eval, Array.getD_eq_getD_getElem?] at h; exact h
      exact wp_val (v := .bool true) (w' := w1) (by simp [execOp, go_sem, e3', e5']) (hK _ _ (Bel.refl _) rfl)
    | 7, _, ho, hdep, hK =>
      simp only [regSb, List.getElem?_toArray, List.getElem?_cons_zero, List.getElem?_cons_succ, Option.some.injEq] at ho
      subst ho
      refine ⟨fun _ => ?_, fun hw => (yw_n rfl hw).elim⟩
      obtain ⟨f6, d6⟩ := hdep ⟨6, .data⟩ (by simp) rfl
      have e6 : a.eval (.tmp 42) = .bool true := (d6 42 rfl).trans f6
      have e6' : a.tmps[42]?.getD undef = .bool true := by have h := e6; simp only [Act.eval, Array.getD_eq_getD_getElem?] at h; exact h
      exact wp_val (v := .bool true) (w' := w1) (by simp [execOp, go_sem, e6']) (hK _ _ (Bel.refl _) rfl)
    | 8, _, ho, hdep, hK =>
      simp only [regSb, List.getElem?_toArray, List.getElem?_cons_zero, List.getElem?_cons_succ, Option.some.injEq] at ho
      subst ho
      obtain ⟨fg, dg⟩ := hdep ⟨7, .guard⟩ (by simp) rfl
      have eg : a.tmps.getD 43 undef = .bool true := (dg 43 rfl).trans fg
      refine ⟨fun _ => ?_, fun hw => (yw_t (d := 43) rfl rfl eg hw).elim⟩
      exact wp_val (v := .pointer (some ⟨tb, 2, none⟩)) (w' := w1) (by simp [execOp, go_sem, p3']) (hK _ _ (Bel.refl _) rfl)
    | 9, _, ho, hdep, hK =>
      simp only [regSb, List.getElem?_toArray, List.getElem?_cons_zero, List.getElem?_cons_succ, Option.some.injEq] at ho
      subst ho
      obtain ⟨fg, dg⟩ := hdep ⟨7, .guard⟩ (by simp) rfl
      have eg : a.tmps.getD 43 undef = .bool true := (dg 43 rfl).trans fg
      refine ⟨fun _ => ?_, fun hw => (yw_t (d := 43) rfl rfl eg hw).elim⟩
      obtain ⟨f8, d8⟩ := hdep ⟨8, .data⟩ (by simp) rfl
      have e8 : a.eval (.tmp 44) = .pointer (some ⟨tb, 2, none⟩) := (d8 44 rfl).trans f8
      have e8' : a.tmps[44]?.getD undef = .pointer (some ⟨tb, 2, none⟩) := by have h := e8; simp only [Act.eval, Array.getD_eq_getD_getElem?] at h; exact h
      exact wp_val (v := .pointer (some ⟨tb, 3, none⟩)) (w' := w1) (by simp [execOp, go_sem, e8']) (hK _ _ (Bel.refl _) rfl)
    | 10, _, ho, hdep, hK =>
      simp only [regSb, List.getElem?_toArray, List.getElem?_cons_zero, List.getElem?_cons_succ, Option.some.injEq] at ho
      subst ho
      obtain ⟨fg, dg⟩ := hdep ⟨7, .guard⟩ (by simp) rfl
      have eg : a.tmps.getD 43 undef = .bool true := (dg 43 rfl).trans fg
      refine ⟨fun _ => ?_, fun hw => (yw_t (d := 43) rfl rfl eg hw).elim⟩
      obtain ⟨f9, d9⟩ := hdep ⟨9, .data⟩ (by simp) rfl
      have e9 : a.eval (.tmp 45) = .pointer (some ⟨tb, 3, none⟩) := (d9 45 rfl).trans f9
      have e9' : a.tmps[45]?.getD undef = .pointer (some ⟨tb, 3, none⟩) := by have h := e9; simp only [Act.eval, Array.getD_eq_getD_getElem?] at h; exact h
      exact wp_val (v := .int .u8 0) (w' := w1) (by simp [execOp, go_sem, e9', u3]) (hK _ _ (Bel.refl _) rfl)
    | 11, _, ho, hdep, hK =>
      simp only [regSb, List.getElem?_toArray, List.getElem?_cons_zero, List.getElem?_cons_succ, Option.some.injEq] at ho
      subst ho
      obtain ⟨fg, dg⟩ := hdep ⟨7, .guard⟩ (by simp) rfl
      have eg : a.tmps.getD 43 undef = .bool true := (dg 43 rfl).trans fg
      refine ⟨fun _ => ?_, fun hw => (yw_t (d := 43) rfl rfl eg hw).elim⟩
      obtain ⟨f10, d10⟩ := hdep ⟨10, .data⟩ (by simp) rfl
      have e10 : a.eval (.tmp 46) = .int .u8 0 := (d10 46 rfl).trans f10
      have e10' : a.tmps[46]?.getD undef = .int .u8 0 := by have h := e10; simp only [Act.eval, Array.getD_eq_getD_getElem?] at h; exact h
      exact wp_val (v := .bool true) (w' := w1) (by simp [execOp, go_sem, e10']) (hK _ _ (Bel.refl _) rfl)
    | 12, _, ho, hdep, hK =>
      simp only [regSb, List.getElem?_toArray, List.getElem?_cons_zero, List.getElem?_cons_succ, Option.some.injEq] at ho
      subst ho
      refine ⟨fun _ => ?_, fun hw => (yw_n rfl hw).elim⟩
      obtain ⟨f7, d7⟩ := hdep ⟨7, .data⟩ (by simp) rfl
      have e7 : a.eval (.tmp 43) = .bool true := (d7 43 rfl).trans f7
      have e7' : a.tmps[43]?.getD undef = .bool true := by have h := e7; simp only [Act.eval, Array.getD_eq_getD_getElem?] at h; exact h
      obtain ⟨f11, d11⟩ := hdep ⟨11, .data⟩ (by simp) rfl
      have e11 : a.eval (.tmp 47) = .bool true := (d11 47 rfl).trans f11
      have e11' : a.tmps[47]?.getD undef = .bool true := by have h := e11; simp only [Act.eval, Array.getD_eq_getD_getElem?] at h; exact h
      exact wp_val (v := .bool true) (w' := w1) (by simp [execOp, go_sem, e7', e11']) (hK _ _ (Bel.refl _) rfl)
    | 13, _, ho, hdep, hK =>
      simp only [regSb, List.getElem?_toArray, List.getElem?_cons_zero, List.getElem?_cons_succ, Option.some.injEq] at ho
      subst ho
      refine ⟨fun _ => ?_, fun hw => (yw_n rfl hw).elim⟩
      obtain ⟨f12, d12⟩ := hdep ⟨12, .data⟩ (by simp) rfl
      have e12 : a.eval (.tmp 48) = .bool true := (d12 48 rfl).trans f12
      have e12' : a.tmps[48]?.getD undef = .bool true := by have h := e12; simp only [Act.eval, Array.getD_eq_getD_getElem?] at h; exact h
      exact wp_val (v := .bool true) (w' := w1) (by simp [execOp, go_sem, e12']) (hK _ _ (Bel.refl _) rfl)
    | 14, _, ho, hdep, hK =>
      simp only [regSb, List.getElem?_toArray, List.getElem?_cons_zero, List.getElem?_cons_succ, Option.some.injEq] at ho
      subst ho
      obtain ⟨fg, dg⟩ := hdep ⟨13, .guard⟩ (by simp) rfl
      have eg : a.tmps.getD 49 undef = .bool true := (dg 49 rfl).trans fg
      refine ⟨fun _ => ?_, fun hw => (yw_t (d := 49) rfl rfl eg hw).elim⟩
      exact wp_val (v := .pointer (some ⟨sb, 0, none⟩)) (w' := w1) (by simp [execOp, go_sem, p0']) (hK _ _ (Bel.refl _) rfl)
    | 15, _, ho, hdep, hK =>
      simp only [regSb, List.getElem?_toArray, List.getElem?_cons_zero, List.getElem?_cons_succ, Option.some.injEq] at ho
      subst ho
      obtain ⟨fg, dg⟩ := hdep ⟨13, .guard⟩ (by simp) rfl
      have eg : a.tmps.getD 49 undef = .bool true := (dg 49 rfl).trans fg
      refine ⟨fun _ => ?_, fun hw => (yw_t (d := 49) rfl rfl eg hw).elim⟩
      obtain ⟨f14, d14⟩ := hdep ⟨14, .data⟩ (by simp) rfl
      have e14 : a.eval (.tmp 50) = .pointer (some ⟨sb, 0, none⟩) := (d14 50 rfl).trans f14
      have e14' : a.tmps[50]?.getD undef = .pointer (some ⟨sb, 0, none⟩) := by have h := e14; simp only [Act.eval, Array.getD_eq_getD_getElem?] at h; exact h
      exact wp_val (v := .pointer (some ⟨sb, 0, none⟩)) (w' := w1) (by simp [execOp, go_sem, e14']) (hK _ _ (Bel.refl _) rfl)
    | 16, _, ho, hdep, hK =>
      simp only [regSb, List.getElem?_toArray, List.getElem?_cons_zero, List.getElem?_cons_succ, Option.some.injEq] at ho
      subst ho
      obtain ⟨fg, dg⟩ := hdep ⟨13, .guard⟩ (by simp) rfl
      have eg : a.tmps.getD 49 undef = .bool true := (dg 49 rfl).trans fg
      refine ⟨fun _ => ?_, fun hw => (yw_t (d := 49) rfl rfl eg hw).elim⟩
      obtain ⟨f15, d15⟩ := hdep ⟨15, .data⟩ (by simp) rfl
      have e15 : a.eval (.tmp 51) = .pointer (some ⟨sb, 0, none⟩) := (d15 51 rfl).trans f15
      have e15' : a.tmps[51]?.getD undef = .pointer (some ⟨sb, 0, none⟩) := by have h := e15; simp only [Act.eval, Array.getD_eq_getD_getElem?] at h; exact h
      exact wp_val (v := .pointer (some ⟨sb, 1, none⟩)) (w' := w1) (by simp [execOp, go_sem, e15']) (hK _ _ (Bel.refl _) rfl)
    | 17, _, ho, hdep, hK =>
      simp only [regSb, List.getElem?_toArray, List.getElem?_cons_zero, List.getElem?_cons_succ, Option.some.injEq] at ho
      subst ho
      obtain ⟨fg, dg⟩ := hdep ⟨13, .guard⟩ (by simp) rfl
      have eg : a.tmps.getD 49 undef = .bool true := (dg 49 rfl).trans fg
      refine ⟨fun _ => ?_, fun hw => (yw_t (d := 49) rfl rfl eg hw).elim⟩
      obtain ⟨f16, d16⟩ := hdep ⟨16, .data⟩ (by simp) rfl
      have e16 : a.eval (.tmp 52) = .pointer (some ⟨sb, 1, none⟩) := (d16 52 rfl).trans f16
      have e16' : a.tmps[52]?.getD undef = .pointer (some ⟨sb, 1, none⟩) := by have h := e16; simp only [Act.eval, Array.getD_eq_getD_getElem?] at h; exact h
      exact wp_val (v := .slice B2 n2 q2) (w' := w1) (by simp [execOp, go_sem, e16', s1]) (hK _ _ (Bel.refl _) rfl)
    | 18, _, ho, hdep, hK =>
      simp only [regSb, List.getElem?_toArray, List.getElem?_cons_zero, List.getElem?_cons_succ, Option.some.injEq] at ho
      subst ho
      obtain ⟨fg, dg⟩ := hdep ⟨13, .guard⟩ (by simp) rfl
      have eg : a.tmps.getD 49 undef = .bool true := (dg 49 rfl).trans fg
      refine ⟨fun _ => ?_, fun hw => (yw_t (d := 49) rfl rfl eg hw).elim⟩
      exact wp_val (v := .pointer (some ⟨tb, 2, none⟩)) (w' := w1) (by simp [execOp, go_sem, p3']) (hK _ _ (Bel.refl _) rfl)
    | 19, _, ho, hdep, hK =>
      simp only [regSb, List.getElem?_toArray, List.getElem?_cons_zero, List.getElem?_cons_succ, Option.some.injEq] at ho
      subst ho
      obtain ⟨fg, dg⟩ := hdep ⟨13, .guard⟩ (by simp) rfl
      have eg : a.tmps.getD 49 undef = .bool true := (dg 49 rfl).trans fg
      refine ⟨fun _ => ?_, fun hw => (yw_t (d := 49) rfl rfl eg hw).elim⟩
      obtain ⟨f18, d18⟩ := hdep ⟨18, .data⟩ (by simp) rfl
      have e18 : a.eval (.tmp 54) = .pointer (some ⟨tb, 2, none⟩) := (d18 54 rfl).trans f18
      have e18' : a.tmps[54]?.getD undef = .pointer (some ⟨tb, 2, none⟩) := by have h := e18; simp only [Act.eval, Array.getD_eq_getD_getElem?] at h; exact h
      exact wp_val (v := .pointer (some ⟨tb, 2, none⟩)) (w' := w1) (by simp [execOp, go_sem, e18']) (hK _ _ (Bel.refl _) rfl)
    | 20, _, ho, hdep, hK =>
      simp only [regSb, List.getElem?_toArray, List.getElem?_cons_zero, List.getElem?_cons_succ, Option.some.injEq] at ho
      subst ho
      obtain ⟨fg, dg⟩ := hdep ⟨13, .guard⟩ (by simp) rfl
      have eg : a.tmps.getD 49 undef = .bool true := (dg 49 rfl).trans fg
      refine ⟨fun _ => ?_, fun hw => (yw_t (d := 49) rfl rfl eg hw).elim⟩
      obtain ⟨f19, d19⟩ := hdep ⟨19, .data⟩ (by simp) rfl
      have e19 : a.eval (.tmp 55) = .pointer (some ⟨tb, 2, none⟩) := (d19 55 rfl).trans f19
      have e19' : a.tmps[55]?.getD undef = .pointer (some ⟨tb, 2, none⟩) := by have h := e19; simp only [Act.eval, Array.getD_eq_getD_getElem?] at h; exact h
      exact wp_val (v := .int .i64 vt) (w' := w1) (by simp [execOp, go_sem, e19', u2]) (hK _ _ (Bel.refl _) rfl)
    | 21, _, ho, hdep, hK =>
      simp only [regSb, List.getElem?_toArray, List.getElem?_cons_zero, List.getElem?_cons_succ, Option.some.injEq] at ho
      subst ho
      obtain ⟨fg, dg⟩ := hdep ⟨13, .guard⟩ (by simp) rfl
      have eg : a.tmps.getD 49 undef = .bool true := (dg 49 rfl).trans fg
      refine ⟨fun _ => ?_, fun hw => (yw_t (d := 49) rfl rfl eg hw).elim⟩
      obtain ⟨f17, d17⟩ := hdep ⟨17, .data⟩ (by simp) rfl
      have e17 : a.eval (.tmp 53) = .slice B2 n2 q2 := (d17 53 rfl).trans f17
      have e17' : a.tmps[53]?.getD undef = .slice B2 n2 q2 := by have h := e17; simp only [Act.eval, Array.getD_eq_getD_getElem?] at h; exact h
      obtain ⟨f20, d20⟩ := hdep ⟨20, .data⟩ (by simp) rfl
      have e20 : a.eval (.tmp 56) = .int .i64 vt := (d20 56 rfl).trans f20
      have e20' : a.tmps[56]?.getD undef = .int .i64 vt := by have h := e20; simp only [Act.eval, Array.getD_eq_getD_getElem?] at h; exact h
      refine wp_enter (f := 58) (args := #[.slice B2 n2 q2, .int .i64 vt]) (by simp [go_sem, e17', e20']) ((HC w1 hbel).mono ?_)
      rintro e w' ⟨rfl, hb⟩
      exact ⟨_, rfl, hK _ _ hb rfl⟩
    | 22, _, ho, hdep, hK =>
      simp only [regSb, List.getElem?_toArray, List.getElem?_cons_zero, List.getElem?_cons_succ, Option.some.injEq] at ho
      subst ho
      obtain ⟨fg, dg⟩ := hdep ⟨13, .guard⟩ (by simp) rfl
      have eg : a.tmps.getD 49 undef = .bool true := (dg 49 rfl).trans fg
      refine ⟨fun _ => ?_, fun hw => (yw_t (d := 49) rfl rfl eg hw).elim⟩
      obtain ⟨f21, d21⟩ := hdep ⟨21, .data⟩ (by simp) rfl
      have e21 : a.eval (.tmp 57) = .int .i64 (atF T vt) := (d21 57 rfl).trans f21
      have e21' : a.tmps[57]?.getD undef = .int .i64 (atF T vt) := by have h := e21; simp only [Act.eval, Array.getD_eq_getD_getElem?] at h; exact h
      exact wp_val (v := .bool (decide (atF T vt < 0))) (w' := w1) (by simp [execOp, go_sem, e21']) (hK _ _ (Bel.refl _) rfl)
    | q + 23, hi, _, _, _ => exact absurd hi (by omega)
  · intro V w' hb hF
    have e : finA regSb.toArray 23 V (acOSb tb sb n1 q1 n2 q2 kt nt vt ct At len cap B1 B2 T s1 s2 s5 s6 s7 s8 s9 s10 s11 s12 s13 s14 s15 s16 s17 s18 s19 s20 s21 s22 s23 s24 s25 s26 s27 s28 s29 s30 s31 s32 s33 s34 s35 s36 s37 s38 s39 s40 s41 s42 s43 s44 s45 s46 s47 s48 s49 s50 s51 s52 s53 s54 s55 s56 s57 s58 s59 s60 s61 s62 s63 s64 s65 s66 s67 s68 s69 s70 s71 s72 s73 s74 s75 s76 s77 s78 df) = acVSb tb sb n1 q1 n2 q2 kt nt vt ct At len cap B1 B2 T s1 s2 s5 s6 s7 s8 s9 s10 s11 s12 s13 s14 s15 s16 s17 s18 s19 s20 s21 s22 s23 s24 s25 s26 s27 s28 s29 s30 s31 s32 s33 s34 s35 s36 s37 s38 s39 s40 s41 s42 s43 s44 s45 s46 s47 s48 s49 s50 s51 s52 s53 s54 s55 s56 s57 s58 s59 s60 s61 s62 s63 s64 s65 s66 s67 s68 s69 s70 s71 s72 s73 s74 s75 s76 s77 s78 df V := by kernel_rfl
    rw [e]
    exact hend V w' hb (hF 13 (by omega)) (hF 22 (by omega))
def regSc : List Oper := [
  { dst := some 18, op := Op.move (Operand.tmp 0), type := 103, pos := "ref.go:83", after := #[], guard := none },
  { dst := some 19, op := Op.move (Operand.tmp 0), type := 103, pos := "ref.go:83", after := #[], guard := none },
  { dst := some 20, op := Op.nilCheck (Operand.tmp 19), type := 0, pos := "ref.go:83", after := #[{ on := 1, ground := Ground.data }], guard := none },
  { dst := some 21, op := Op.fieldAddr 46 (Operand.tmp 20) 0, type := 0, pos := "ref.go:83", after := #[{ on := 2, ground := Ground.data }], guard := none },
  { dst := some 22, op := Op.load 40 (Operand.tmp 21), type := 40, pos := "ref.go:83", after := #[{ on := 3, ground := Ground.data }], guard := none },
  { dst := some 23, op := Op.fieldAddr 27 (Operand.tmp 3) 1, type := 0, pos := "ref.go:83", after := #[], guard := none },
  { dst := some 24, op := Op.load 3 (Operand.tmp 23), type := 3, pos := "ref.go:83", after := #[{ on := 5, ground := Ground.data }], guard := none },
  { dst := some 25, op := Op.buildSlice 40 1 #[(0, Operand.tmp 24)], type := 40, pos := "ref.go:83", after := #[{ on := 6, ground := Ground.data }], guard := none },
  { dst := some 26, op := Op.call { callee := Callee.builtin Builtin.append, args := #[Operand.tmp 22, Operand.tmp 25], argTypes := #[40, 40] }, type := 40, pos := "ref.go:83", after := #[{ on := 4, ground := Ground.data }, { on := 7, ground := Ground.data }], guard := none },
  { dst := some 27, op := Op.nilCheck (Operand.tmp 18), type := 0, pos := "ref.go:83", after := #[{ on := 0, ground := Ground.data }, { on := 0, ground := Ground.phase }, { on := 1, ground := Ground.phase }, { on := 2, ground := Ground.phase }, { on := 3, ground := Ground.phase }, { on := 4, ground := Ground.phase }, { on := 5, ground := Ground.phase }, { on := 6, ground := Ground.phase }, { on := 7, ground := Ground.phase }, { on := 8, ground := Ground.phase }], guard := none },
  { dst := some 28, op := Op.fieldAddr 46 (Operand.tmp 27) 0, type := 0, pos := "ref.go:83", after := #[{ on := 9, ground := Ground.data }, { on := 0, ground := Ground.phase }, { on := 1, ground := Ground.phase }, { on := 2, ground := Ground.phase }, { on := 3, ground := Ground.phase }, { on := 4, ground := Ground.phase }, { on := 5, ground := Ground.phase }, { on := 6, ground := Ground.phase }, { on := 7, ground := Ground.phase }, { on := 8, ground := Ground.phase }], guard := none },
  { dst := none, op := Op.store 40 (Operand.tmp 28) (Operand.tmp 26), type := 0, pos := "ref.go:83", after := #[{ on := 10, ground := Ground.data }, { on := 8, ground := Ground.data }, { on := 8, ground := Ground.chain }, { on := 0, ground := Ground.phase }, { on := 1, ground := Ground.phase }, { on := 2, ground := Ground.phase }, { on := 3, ground := Ground.phase }, { on := 4, ground := Ground.phase }, { on := 5, ground := Ground.phase }, { on := 6, ground := Ground.phase }, { on := 7, ground := Ground.phase }, { on := 8, ground := Ground.phase }], guard := none }]
def specSc (tb sb n1 q1 n2 q2 : Nat) (kt nt vt ct : Int) (At : Option Addr) (len cap : Nat) (B1 B2 : Option Addr) (qh : Nat) (i : Nat) (v : Value) (w : World) : Prop :=
  match i with
  | 0 => v = .pointer (some ⟨sb, 0, none⟩)
  | 1 => v = .pointer (some ⟨sb, 0, none⟩)
  | 2 => v = .pointer (some ⟨sb, 0, none⟩)
  | 3 => v = .pointer (some ⟨sb, 0, none⟩)
  | 4 => v = .slice B1 n1 q1
  | 5 => v = .pointer (some ⟨tb, 1, none⟩)
  | 6 => v = .int .i64 nt
  | 7 => ∃ g, v = .slice (some ⟨g, 0, none⟩) 1 1 ∧ qh ≤ g ∧ w.heap[g]? = some (.cells #[.int .i64 nt] 3 (0, 0))
  | _ => True
theorem specSc_mono {tb sb n1 q1 n2 q2 : Nat} {kt nt vt ct : Int} {At : Option Addr} {len cap : Nat} {B1 B2 : Option Addr} {qh : Nat} (i : Nat) (v : Value) (w w' : World) (hi : i < 8) (h : specSc tb sb n1 q1 n2 q2 kt nt vt ct At len cap B1 B2 qh i v w) (hb : Bel w w') : specSc tb sb n1 q1 n2 q2 kt nt vt ct At len cap B1 B2 qh i v w' := by
  match i, hi, h with
  | 0, _, h => exact h
  | 1, _, h => exact h
  | 2, _, h => exact h
  | 3, _, h => exact h
  | 4, _, h => exact h
  | 5, _, h => exact h
  | 6, _, h => exact h
  | 7, _, h => obtain ⟨g, e, hl, hh⟩ := h; exact ⟨g, e, hl, hb.blk hh⟩
  | q + 8, hi, _ => exact absurd hi (by omega)
theorem regSc_cov (listed : Array Bool) (hc : ∀ j oj, regSc.toArray[j]? = some oj → listed.getD j false = true → ∀ e ∈ oj.after, Region.binds .any e = true → listed.getD e.on false = true) (hs : ∀ o, regSc.toArray[8]? = some o → ∀ e ∈ o.after, Region.binds .any e = true → listed.getD e.on false = true) (i : Nat) (hi : i < 9) (h1 : i ≠ 8) (h2 : i ≠ 0) : listed.getD i false = true := by
  have l4 := hs _ rfl ⟨4, .data⟩ (by simp [regSc]) rfl
  have l3 := hc 4 _ rfl l4 ⟨3, .data⟩ (by simp [regSc]) rfl
  have l2 := hc 3 _ rfl l3 ⟨2, .data⟩ (by simp [regSc]) rfl
  have l1 := hc 2 _ rfl l2 ⟨1, .data⟩ (by simp [regSc]) rfl
  have l7 := hs _ rfl ⟨7, .data⟩ (by simp [regSc]) rfl
  have l6 := hc 7 _ rfl l7 ⟨6, .data⟩ (by simp [regSc]) rfl
  have l5 := hc 6 _ rfl l6 ⟨5, .data⟩ (by simp [regSc]) rfl
  match i, hi, h1, h2 with
  | 1, _, _, _ => exact l1
  | 2, _, _, _ => exact l2
  | 3, _, _, _ => exact l3
  | 4, _, _, _ => exact l4
  | 5, _, _, _ => exact l5
  | 6, _, _, _ => exact l6
  | 7, _, _, _ => exact l7
  | 0, _, _, h => exact absurd rfl h
  | 8, _, h, _ => exact absurd rfl h
  | q + 9, h, _, _ => exact absurd h (by omega)
theorem specSc_mono' {tb sb n1 q1 n2 q2 : Nat} {kt nt vt ct : Int} {At : Option Addr} {len cap : Nat} {B1 B2 : Option Addr} {qh : Nat} (i : Nat) (v : Value) (w w' : World) (h : specSc tb sb n1 q1 n2 q2 kt nt vt ct At len cap B1 B2 qh i v w) (hb : Bel w w') : specSc tb sb n1 q1 n2 q2 kt nt vt ct At len cap B1 B2 qh i v w' := by
  by_cases hi : i < 8
  · exact specSc_mono i v w w' hi h hb
  · obtain ⟨q, rfl⟩ : ∃ q, i = q + 8 := ⟨i - 8, by omega⟩
    trivial
def acOSc (tb sb n1 q1 n2 q2 : Nat) (kt nt vt ct : Int) (At : Option Addr) (len cap : Nat) (B1 B2 : Option Addr) (qh : Nat) (s1 s2 s4 s5 s6 s7 s8 s9 s10 s11 s12 s13 s14 s15 s16 s17 s18 s19 s20 s21 s22 s23 s24 s25 s26 s27 s28 s29 s30 s31 s32 s33 s34 s35 s36 s37 s38 s39 s40 s41 s42 s43 s44 s45 s46 s47 s48 s49 s50 s51 s52 s53 s54 s55 s56 s57 s58 s59 s60 s61 s62 s63 s64 s65 s66 s67 s68 s69 s70 s71 s72 s73 s74 s75 s76 s77 s78 : Value) (df : List Deferred) : Act := { tmps := #[.pointer (some ⟨sb, 0, none⟩), s1, s2, .pointer (some ⟨tb, 0, none⟩), s4, s5, s6, s7, s8, s9, s10, s11, s12, s13, s14, s15, s16, s17, s18, s19, s20, s21, s22, s23, s24, s25, s26, s27, s28, s29, s30, s31, s32, s33, s34, s35, s36, s37, s38, s39, s40, s41, s42, s43, s44, s45, s46, s47, s48, s49, s50, s51, s52, s53, s54, s55, s56, s57, s58, s59, s60, s61, s62, s63, s64, s65, s66, s67, s68, s69, s70, s71, s72, s73, s74, s75, s76, s77, s78], defers := df }
def acVSc (tb sb n1 q1 n2 q2 : Nat) (kt nt vt ct : Int) (At : Option Addr) (len cap : Nat) (B1 B2 : Option Addr) (qh : Nat) (s1 s2 s4 s5 s6 s7 s8 s9 s10 s11 s12 s13 s14 s15 s16 s17 s18 s19 s20 s21 s22 s23 s24 s25 s26 s27 s28 s29 s30 s31 s32 s33 s34 s35 s36 s37 s38 s39 s40 s41 s42 s43 s44 s45 s46 s47 s48 s49 s50 s51 s52 s53 s54 s55 s56 s57 s58 s59 s60 s61 s62 s63 s64 s65 s66 s67 s68 s69 s70 s71 s72 s73 s74 s75 s76 s77 s78 : Value) (df : List Deferred) (V : Nat → Value) : Act := { tmps := #[.pointer (some ⟨sb, 0, none⟩), s1, s2, .pointer (some ⟨tb, 0, none⟩), s4, s5, s6, s7, s8, s9, s10, s11, s12, s13, s14, s15, s16, s17, V 0, V 1, V 2, V 3, V 4, V 5, V 6, V 7, V 8, s27, s28, s29, s30, s31, s32, s33, s34, s35, s36, s37, s38, s39, s40, s41, s42, s43, s44, s45, s46, s47, s48, s49, s50, s51, s52, s53, s54, s55, s56, s57, s58, s59, s60, s61, s62, s63, s64, s65, s66, s67, s68, s69, s70, s71, s72, s73, s74, s75, s76, s77, s78], defers := df }
theorem regSc_tail : tailB .any regSc.toArray 9 = true := by kernel_rfl
theorem regSc_fwd : fwdB regSc.toArray 9 = true := by kernel_rfl
theorem regSc_slots : slotsB regSc.toArray 79 = true := by kernel_rfl
theorem regSc_seq : Region.seqB .any regSc.toArray (regSc.length - 9) 9 (Array.replicate 9 true ++ Array.replicate (regSc.length - 9) false) = true := by kernel_rfl
set_option maxRecDepth 100000 in
set_option maxHeartbeats 8000000 in
theorem regSc_any {id : Nat} (tb sb n1 q1 n2 q2 : Nat) (kt nt vt ct : Int) (At : Option Addr) (len cap : Nat) (B1 B2 : Option Addr) (qh : Nat) (s1 s2 s4 s5 s6 s7 s8 s9 s10 s11 s12 s13 s14 s15 s16 s17 s18 s19 s20 s21 s22 s23 s24 s25 s26 s27 s28 s29 s30 s31 s32 s33 s34 s35 s36 s37 s38 s39 s40 s41 s42 s43 s44 s45 s46 s47 s48 s49 s50 s51 s52 s53 s54 s55 s56 s57 s58 s59 s60 s61 s62 s63 s64 s65 s66 s67 s68 s69 s70 s71 s72 s73 s74 s75 s76 s77 s78 : Value) (df : List Deferred) (w : World) (hhi : qh = w.drew.heap.size) (xs : List Value) (hown : w.drew.ownsRow (sb + 1) 3 1 (.slice B1 n1 q1) n1 xs) (hmx : n1 ≤ 100000000) (hsb : sb + 1 ≤ w.drew.heap.size) (hs : w.drew.heap[sb]? = some (.cells #[.slice B1 n1 q1, .slice B2 n2 q2] 46 (0, 0))) (htb : w.drew.heap[tb]? = some (.cells #[.int .u8 kt, .int .i64 nt, .int .i64 vt, .int .u8 ct, .slice At len cap] 27 (0, 0))) (Q : Exit → Act → World → Prop)
    (hend : ∀ (V : Nat → Value) (v : Value) (w' : World), V 0 = .pointer (some ⟨sb, 0, none⟩) → V 8 = v → (w'.ownsRow (sb + 1) 3 1 v (n1 + 1) (xs ++ [.int .i64 nt]) ∧ w.drew.grownBy w' (Value.slice B1 n1 q1).ownBlock ∧ (v.ownBlock = (Value.slice B1 n1 q1).ownBlock ∨ ∃ g, v.ownBlock = some g ∧ w.drew.heap.size ≤ g)) → wpList Tryd.prog regSc.toArray Q (regSc.drop 9) (acVSc tb sb n1 q1 n2 q2 kt nt vt ct At len cap B1 B2 qh s1 s2 s4 s5 s6 s7 s8 s9 s10 s11 s12 s13 s14 s15 s16 s17 s18 s19 s20 s21 s22 s23 s24 s25 s26 s27 s28 s29 s30 s31 s32 s33 s34 s35 s36 s37 s38 s39 s40 s41 s42 s43 s44 s45 s46 s47 s48 s49 s50 s51 s52 s53 s54 s55 s56 s57 s58 s59 s60 s61 s62 s63 s64 s65 s66 s67 s68 s69 s70 s71 s72 s73 s74 s75 s76 s77 s78 df V) w') :
    (Code.region id regSc.toArray true).wp Tryd.prog Q (acOSc tb sb n1 q1 n2 q2 kt nt vt ct At len cap B1 B2 qh s1 s2 s4 s5 s6 s7 s8 s9 s10 s11 s12 s13 s14 s15 s16 s17 s18 s19 s20 s21 s22 s23 s24 s25 s26 s27 s28 s29 s30 s31 s32 s33 s34 s35 s36 s37 s38 s39 s40 s41 s42 s43 s44 s45 s46 s47 s48 s49 s50 s51 s52 s53 s54 s55 s56 s57 s58 s59 s60 s61 s62 s63 s64 s65 s66 s67 s68 s69 s70 s71 s72 s73 s74 s75 s76 s77 s78 df) w := by
  refine wp_region_invT (l := regSc) 9 8 0 (acOSc tb sb n1 q1 n2 q2 kt nt vt ct At len cap B1 B2 qh s1 s2 s4 s5 s6 s7 s8 s9 s10 s11 s12 s13 s14 s15 s16 s17 s18 s19 s20 s21 s22 s23 s24 s25 s26 s27 s28 s29 s30 s31 s32 s33 s34 s35 s36 s37 s38 s39 s40 s41 s42 s43 s44 s45 s46 s47 s48 s49 s50 s51 s52 s53 s54 s55 s56 s57 s58 s59 s60 s61 s62 s63 s64 s65 s66 s67 s68 s69 s70 s71 s72 s73 s74 s75 s76 s77 s78 df) w (specSc tb sb n1 q1 n2 q2 kt nt vt ct At len cap B1 B2 qh) (fun V v w' => w'.ownsRow (sb + 1) 3 1 v (n1 + 1) (xs ++ [.int .i64 nt]) ∧ w.drew.grownBy w' (Value.slice B1 n1 q1).ownBlock ∧ (v.ownBlock = (Value.slice B1 n1 q1).ownBlock ∨ ∃ g, v.ownBlock = some g ∧ w.drew.heap.size ≤ g)) (fun v => v = .pointer (some ⟨sb, 0, none⟩)) (by kernel_rfl) regSc_tail regSc_fwd regSc_slots regSc_seq regSc_cov (by decide) (by decide) (by decide) (fun i v w w' hi h hb => specSc_mono' i v w w' h hb) ?_ ?_ ?_ (fun V V' v w _ h => h) (fun v w h => h) ?_
  · intro i' o hi'' hne' ho a w1 V hbel hdep hpar K hK
    have hi' : i' < 8 := by omega
    have p0 : a.eval (.tmp 0) = .pointer (some ⟨sb, 0, none⟩) := hpar 0 (by show 0 < 79; decide) (by kernel_rfl)
    have p0' : a.tmps[0]?.getD undef = .pointer (some ⟨sb, 0, none⟩) := by have h := p0; simp only [Act.eval, Array.getD_eq_getD_getElem?] at h; exact h
    have p3 : a.eval (.tmp 3) = .pointer (some ⟨tb, 0, none⟩) := hpar 3 (by show 3 < 79; decide) (by kernel_rfl)
    have p3' : a.tmps[3]?.getD undef = .pointer (some ⟨tb, 0, none⟩) := by have h := p3; simp only [Act.eval, Array.getD_eq_getD_getElem?] at h; exact h
    obtain ⟨s0, s1⟩ := cells2 (hbel.blk hs)
    obtain ⟨⟨u0, u1, u2, u3, u4⟩, _⟩ := cells5 (hbel.blk htb)
    match i', hi', ho, hdep, hK with
    | 0, _, ho, hdep, hK =>
      simp only [regSc, List.getElem?_toArray, List.getElem?_cons_zero, Option.some.injEq] at ho
      subst ho
      refine ⟨fun _ => ?_, fun hw => (yw_n rfl hw).elim⟩
      exact wp_val (v := .pointer (some ⟨sb, 0, none⟩)) (w' := w1) (by simp [execOp, go_sem, p0']) (hK _ _ (Bel.refl _) rfl)
    | 1, _, ho, hdep, hK =>
      simp only [regSc, List.getElem?_toArray, List.getElem?_cons_zero, List.getElem?_cons_succ, Option.some.injEq] at ho
      subst ho
      refine ⟨fun _ => ?_, fun hw => (yw_n rfl hw).elim⟩
      exact wp_val (v := .pointer (some ⟨sb, 0, none⟩)) (w' := w1) (by simp [execOp, go_sem, p0']) (hK _ _ (Bel.refl _) rfl)
    | 2, _, ho, hdep, hK =>
      simp only [regSc, List.getElem?_toArray, List.getElem?_cons_zero, List.getElem?_cons_succ, Option.some.injEq] at ho
      subst ho
      refine ⟨fun _ => ?_, fun hw => (yw_n rfl hw).elim⟩
      obtain ⟨f1, d1⟩ := hdep ⟨1, .data⟩ (by simp) rfl
      have e1 : a.eval (.tmp 19) = .pointer (some ⟨sb, 0, none⟩) := (d1 19 rfl).trans f1
      have e1' : a.tmps[19]?.getD undef = .pointer (some ⟨sb, 0, none⟩) := by have h := e1; simp only [Act.eval, Array.getD_eq_getD_getElem?] at h; exact h
      exact wp_val (v := .pointer (some ⟨sb, 0, none⟩)) (w' := w1) (by simp [execOp, go_sem, e1']) (hK _ _ (Bel.refl _) rfl)
    | 3, _, ho, hdep, hK =>
      simp only [regSc, List.getElem?_toArray, List.getElem?_cons_zero, List.getElem?_cons_succ, Option.some.injEq] at ho
      subst ho
      refine ⟨fun _ => ?_, fun hw => (yw_n rfl hw).elim⟩
      obtain ⟨f2, d2⟩ := hdep ⟨2, .data⟩ (by simp) rfl
      have e2 : a.eval (.tmp 20) = .pointer (some ⟨sb, 0, none⟩) := (d2 20 rfl).trans f2
      have e2' : a.tmps[20]?.getD undef = .pointer (some ⟨sb, 0, none⟩) := by have h := e2; simp only [Act.eval, Array.getD_eq_getD_getElem?] at h; exact h
      exact wp_val (v := .pointer (some ⟨sb, 0, none⟩)) (w' := w1) (by simp [execOp, go_sem, e2']) (hK _ _ (Bel.refl _) rfl)
    | 4, _, ho, hdep, hK =>
      simp only [regSc, List.getElem?_toArray, List.getElem?_cons_zero, List.getElem?_cons_succ, Option.some.injEq] at ho
      subst ho
      refine ⟨fun _ => ?_, fun hw => (yw_n rfl hw).elim⟩
      obtain ⟨f3, d3⟩ := hdep ⟨3, .data⟩ (by simp) rfl
      have e3 : a.eval (.tmp 21) = .pointer (some ⟨sb, 0, none⟩) := (d3 21 rfl).trans f3
      have e3' : a.tmps[21]?.getD undef = .pointer (some ⟨sb, 0, none⟩) := by have h := e3; simp only [Act.eval, Array.getD_eq_getD_getElem?] at h; exact h
      exact wp_val (v := .slice B1 n1 q1) (w' := w1) (by simp [execOp, go_sem, e3', s0]) (hK _ _ (Bel.refl _) rfl)
    | 5, _, ho, hdep, hK =>
      simp only [regSc, List.getElem?_toArray, List.getElem?_cons_zero, List.getElem?_cons_succ, Option.some.injEq] at ho
      subst ho
      refine ⟨fun _ => ?_, fun hw => (yw_n rfl hw).elim⟩
      exact wp_val (v := .pointer (some ⟨tb, 1, none⟩)) (w' := w1) (by simp [execOp, go_sem, p3']) (hK _ _ (Bel.refl _) rfl)
    | 6, _, ho, hdep, hK =>
      simp only [regSc, List.getElem?_toArray, List.getElem?_cons_zero, List.getElem?_cons_succ, Option.some.injEq] at ho
      subst ho
      refine ⟨fun _ => ?_, fun hw => (yw_n rfl hw).elim⟩
      obtain ⟨f5, d5⟩ := hdep ⟨5, .data⟩ (by simp) rfl
      have e5 : a.eval (.tmp 23) = .pointer (some ⟨tb, 1, none⟩) := (d5 23 rfl).trans f5
      have e5' : a.tmps[23]?.getD undef = .pointer (some ⟨tb, 1, none⟩) := by have h := e5; simp only [Act.eval, Array.getD_eq_getD_getElem?] at h; exact h
      exact wp_val (v := .int .i64 nt) (w' := w1) (by simp [execOp, go_sem, e5', u1]) (hK _ _ (Bel.refl _) rfl)
    | 7, _, ho, hdep, hK =>
      simp only [regSc, List.getElem?_toArray, List.getElem?_cons_zero, List.getElem?_cons_succ, Option.some.injEq] at ho
      subst ho
      refine ⟨fun _ => ?_, fun hw => (yw_n rfl hw).elim⟩
      obtain ⟨f6, d6⟩ := hdep ⟨6, .data⟩ (by simp) rfl
      have e6 : a.eval (.tmp 24) = .int .i64 nt := (d6 24 rfl).trans f6
      have e6' : a.tmps[24]?.getD undef = .int .i64 nt := by have h := e6; simp only [Act.eval, Array.getD_eq_getD_getElem?] at h; exact h
      exact wp_val (v := .slice (some ⟨w1.heap.size, 0, none⟩) 1 1) (w' := w1.alloc (.cells #[.int .i64 nt] 3)) (by simp [execOp, go_sem, e6']) (hK _ _ ((Bel.refl w1).alloc _) ⟨_, rfl, hhi ▸ hbel.size, blk1 w1 _⟩)
    | q + 8, hi, _, _, _ => exact absurd hi (by omega)
  · intro o ho a w1 V hbel hd hpar
    simp only [regSc, List.getElem?_toArray, List.getElem?_cons_zero, List.getElem?_cons_succ, Option.some.injEq] at ho
    subst ho
    refine ⟨wanted_none rfl, fun K hK => ?_⟩
    obtain ⟨e4, d4⟩ := hd 4 (by decide) (by decide) (by decide)
    obtain ⟨⟨g, e7, hl7, hh7⟩, d7⟩ := hd 7 (by decide) (by decide) (by decide)
    obtain ⟨i0, hi0, hz0, hz1, hz2⟩ := info_parts info_intS
    have hs1 := hbel.size
    refine wp_append_own_at (.tmp 22) (.tmp 25) 40 rfl (sb + 1) 3 i0 _ 1 8 Tryd.underlying40 hi0 hz0 hz1 hz2 rfl (by decide) (.slice B1 n1 q1) n1 xs ((d4 22 rfl).trans e4) (owns_bel hown hbel) ⟨g, 0, none⟩ 1 1 [.int .i64 nt] ((d7 25 rfl).trans e7) rfl (fun j u hu => by rw [Addr.add_lit, Nat.zero_add]; exact one_of_blkS hh7 j u hu) (by simp [Value.oneCell']) (by unfold maxLen; omega) (by omega) (by omega) ?_
    intro v' w' h1 h2 h3
    refine hK _ _ ⟨h1, ⟨h2.os.trans hbel.os, h2.tape.trans hbel.tape, h2.output.trans hbel.output, Nat.le_trans hbel.size h2.size, fun k hk hne => (h2.block k (Nat.lt_of_lt_of_le hk hs1) hne).trans (hbel.block k hk)⟩, h3.elim .inl fun h => .inr ⟨_, h, hs1⟩⟩
  · intro o ho a w1 hpar
    simp only [regSc, List.getElem?_toArray, List.getElem?_cons_zero, Option.some.injEq] at ho
    subst ho
    refine ⟨wanted_none rfl, fun K hK => ?_⟩
    have p0 : a.eval (.tmp 0) = .pointer (some ⟨sb, 0, none⟩) := hpar 0 (by show 0 < 79; decide) (by kernel_rfl)
    have p0' : a.tmps[0]?.getD undef = .pointer (some ⟨sb, 0, none⟩) := by have h := p0; simp only [Act.eval, Array.getD_eq_getD_getElem?] at h; exact h
    exact wp_val (v := .pointer (some ⟨sb, 0, none⟩)) (w' := w1) (by simp [execOp, go_sem, p0']) (hK _ rfl)
  · intro V w' hz hl
    have e : finA regSc.toArray 9 V (acOSc tb sb n1 q1 n2 q2 kt nt vt ct At len cap B1 B2 qh s1 s2 s4 s5 s6 s7 s8 s9 s10 s11 s12 s13 s14 s15 s16 s17 s18 s19 s20 s21 s22 s23 s24 s25 s26 s27 s28 s29 s30 s31 s32 s33 s34 s35 s36 s37 s38 s39 s40 s41 s42 s43 s44 s45 s46 s47 s48 s49 s50 s51 s52 s53 s54 s55 s56 s57 s58 s59 s60 s61 s62 s63 s64 s65 s66 s67 s68 s69 s70 s71 s72 s73 s74 s75 s76 s77 s78 df) = acVSc tb sb n1 q1 n2 q2 kt nt vt ct At len cap B1 B2 qh s1 s2 s4 s5 s6 s7 s8 s9 s10 s11 s12 s13 s14 s15 s16 s17 s18 s19 s20 s21 s22 s23 s24 s25 s26 s27 s28 s29 s30 s31 s32 s33 s34 s35 s36 s37 s38 s39 s40 s41 s42 s43 s44 s45 s46 s47 s48 s49 s50 s51 s52 s53 s54 s55 s56 s57 s58 s59 s60 s61 s62 s63 s64 s65 s66 s67 s68 s69 s70 s71 s72 s73 s74 s75 s76 s77 s78 df V := by kernel_rfl
    rw [e]
    exact hend V (V 8) w' hl rfl hz
def regSd : List Oper := [
  { dst := some 60, op := Op.move (Operand.tmp 0), type := 103, pos := "ref.go:87", after := #[], guard := none },
  { dst := some 61, op := Op.move (Operand.tmp 0), type := 103, pos := "ref.go:87", after := #[], guard := none },
  { dst := some 62, op := Op.nilCheck (Operand.tmp 61), type := 0, pos := "ref.go:87", after := #[{ on := 1, ground := Ground.data }], guard := none },
  { dst := some 63, op := Op.fieldAddr 46 (Operand.tmp 62) 1, type := 0, pos := "ref.go:87", after := #[{ on := 2, ground := Ground.data }], guard := none },
  { dst := some 64, op := Op.load 40 (Operand.tmp 63), type := 40, pos := "ref.go:87", after := #[{ on := 3, ground := Ground.data }], guard := none },
  { dst := some 65, op := Op.fieldAddr 27 (Operand.tmp 3) 2, type := 0, pos := "ref.go:87", after := #[], guard := none },
  { dst := some 66, op := Op.fieldAddr 24 (Operand.tmp 65) 0, type := 0, pos := "ref.go:87", after := #[{ on := 5, ground := Ground.data }], guard := none },
  { dst := some 67, op := Op.load 3 (Operand.tmp 66), type := 3, pos := "ref.go:87", after := #[{ on := 6, ground := Ground.data }], guard := none },
  { dst := some 68, op := Op.buildSlice 40 1 #[(0, Operand.tmp 67)], type := 40, pos := "ref.go:87", after := #[{ on := 7, ground := Ground.data }], guard := none },
  { dst := some 69, op := Op.call { callee := Callee.builtin Builtin.append, args := #[Operand.tmp 64, Operand.tmp 68], argTypes := #[40, 40] }, type := 40, pos := "ref.go:87", after := #[{ on := 4, ground := Ground.data }, { on := 8, ground := Ground.data }], guard := none },
  { dst := some 70, op := Op.nilCheck (Operand.tmp 60), type := 0, pos := "ref.go:87", after := #[{ on := 0, ground := Ground.data }, { on := 0, ground := Ground.phase }, { on := 1, ground := Ground.phase }, { on := 2, ground := Ground.phase }, { on := 3, ground := Ground.phase }, { on := 4, ground := Ground.phase }, { on := 5, ground := Ground.phase }, { on := 6, ground := Ground.phase }, { on := 7, ground := Ground.phase }, { on := 8, ground := Ground.phase }, { on := 9, ground := Ground.phase }], guard := none },
  { dst := some 71, op := Op.fieldAddr 46 (Operand.tmp 70) 1, type := 0, pos := "ref.go:87", after := #[{ on := 10, ground := Ground.data }, { on := 0, ground := Ground.phase }, { on := 1, ground := Ground.phase }, { on := 2, ground := Ground.phase }, { on := 3, ground := Ground.phase }, { on := 4, ground := Ground.phase }, { on := 5, ground := Ground.phase }, { on := 6, ground := Ground.phase }, { on := 7, ground := Ground.phase }, { on := 8, ground := Ground.phase }, { on := 9, ground := Ground.phase }], guard := none },
  { dst := none, op := Op.store 40 (Operand.tmp 71) (Operand.tmp 69), type := 0, pos := "ref.go:87", after := #[{ on := 11, ground := Ground.data }, { on := 9, ground := Ground.data }, { on := 9, ground := Ground.chain }, { on := 0, ground := Ground.phase }, { on := 1, ground := Ground.phase }, { on := 2, ground := Ground.phase }, { on := 3, ground := Ground.phase }, { on := 4, ground := Ground.phase }, { on := 5, ground := Ground.phase }, { on := 6, ground := Ground.phase }, { on := 7, ground := Ground.phase }, { on := 8, ground := Ground.phase }, { on := 9, ground := Ground.phase }], guard := none }]
def specSd (tb sb n1 q1 n2 q2 : Nat) (kt nt vt ct : Int) (At : Option Addr) (len cap : Nat) (B1 B2 : Option Addr) (qh : Nat) (i : Nat) (v : Value) (w : World) : Prop :=
  match i with
  | 0 => v = .pointer (some ⟨sb, 0, none⟩)
  | 1 => v = .pointer (some ⟨sb, 0, none⟩)
  | 2 => v = .pointer (some ⟨sb, 0, none⟩)
  | 3 => v = .pointer (some ⟨sb, 1, none⟩)
  | 4 => v = .slice B2 n2 q2
  | 5 => v = .pointer (some ⟨tb, 2, none⟩)
  | 6 => v = .pointer (some ⟨tb, 2, none⟩)
  | 7 => v = .int .i64 vt
  | 8 => ∃ g, v = .slice (some ⟨g, 0, none⟩) 1 1 ∧ qh ≤ g ∧ w.heap[g]? = some (.cells #[.int .i64 vt] 3 (0, 0))
  | _ => True
theorem specSd_mono {tb sb n1 q1 n2 q2 : Nat} {kt nt vt ct : Int} {At : Option Addr} {len cap : Nat} {B1 B2 : Option Addr} {qh : Nat} (i : Nat) (v : Value) (w w' : World) (hi : i < 9) (h : specSd tb sb n1 q1 n2 q2 kt nt vt ct At len cap B1 B2 qh i v w) (hb : Bel w w') : specSd tb sb n1 q1 n2 q2 kt nt vt ct At len cap B1 B2 qh i v w' := by
  match i, hi, h with
  | 0, _, h => exact h
  | 1, _, h => exact h
  | 2, _, h => exact h
  | 3, _, h => exact h
  | 4, _, h => exact h
  | 5, _, h => exact h
  | 6, _, h => exact h
  | 7, _, h => exact h
  | 8, _, h => obtain ⟨g, e, hl, hh⟩ := h; exact ⟨g, e, hl, hb.blk hh⟩
  | q + 9, hi, _ => exact absurd hi (by omega)
theorem regSd_cov (listed : Array Bool) (hc : ∀ j oj, regSd.toArray[j]? = some oj → listed.getD j false = true → ∀ e ∈ oj.after, Region.binds .any e = true → listed.getD e.on false = true) (hs : ∀ o, regSd.toArray[9]? = some o → ∀ e ∈ o.after, Region.binds .any e = true → listed.getD e.on false = true) (i : Nat) (hi : i < 10) (h1 : i ≠ 9) (h2 : i ≠ 0) : listed.getD i false = true := by
  have l4 := hs _ rfl ⟨4, .data⟩ (by simp [regSd]) rfl
  have l3 := hc 4 _ rfl l4 ⟨3, .data⟩ (by simp [regSd]) rfl
  have l2 := hc 3 _ rfl l3 ⟨2, .data⟩ (by simp [regSd]) rfl
  have l1 := hc 2 _ rfl l2 ⟨1, .data⟩ (by simp [regSd]) rfl
  have l8 := hs _ rfl ⟨8, .data⟩ (by simp [regSd]) rfl
  have l7 := hc 8 _ rfl l8 ⟨7, .data⟩ (by simp [regSd]) rfl
  have l6 := hc 7 _ rfl l7 ⟨6, .data⟩ (by simp [regSd]) rfl
  have l5 := hc 6 _ rfl l6 ⟨5, .data⟩ (by simp [regSd]) rfl
  match i, hi, h1, h2 with
  | 1, _, _, _ => exact l1
  | 2, _, _, _ => exact l2
  | 3, _, _, _ => exact l3
  | 4, _, _, _ => exact l4
  | 5, _, _, _ => exact l5
  | 6, _, _, _ => exact l6
  | 7, _, _, _ => exact l7
  | 8, _, _, _ => exact l8
  | 0, _, _, h => exact absurd rfl h
  | 9, _, h, _ => exact absurd rfl h
  | q + 10, h, _, _ => exact absurd h (by omega)
theorem specSd_mono' {tb sb n1 q1 n2 q2 : Nat} {kt nt vt ct : Int} {At : Option Addr} {len cap : Nat} {B1 B2 : Option Addr} {qh : Nat} (i : Nat) (v : Value) (w w' : World) (h : specSd tb sb n1 q1 n2 q2 kt nt vt ct At len cap B1 B2 qh i v w) (hb : Bel w w') : specSd tb sb n1 q1 n2 q2 kt nt vt ct At len cap B1 B2 qh i v w' := by
  by_cases hi : i < 9
  · exact specSd_mono i v w w' hi h hb
  · obtain ⟨q, rfl⟩ : ∃ q, i = q + 9 := ⟨i - 9, by omega⟩
    trivial
def acOSd (tb sb n1 q1 n2 q2 : Nat) (kt nt vt ct : Int) (At : Option Addr) (len cap : Nat) (B1 B2 : Option Addr) (qh : Nat) (s1 s2 s4 s5 s6 s7 s8 s9 s10 s11 s12 s13 s14 s15 s16 s17 s18 s19 s20 s21 s22 s23 s24 s25 s26 s27 s28 s29 s30 s31 s32 s33 s34 s35 s36 s37 s38 s39 s40 s41 s42 s43 s44 s45 s46 s47 s48 s49 s50 s51 s52 s53 s54 s55 s56 s57 s58 s59 s60 s61 s62 s63 s64 s65 s66 s67 s68 s69 s70 s71 s72 s73 s74 s75 s76 s77 s78 : Value) (df : List Deferred) : Act := { tmps := #[.pointer (some ⟨sb, 0, none⟩), s1, s2, .pointer (some ⟨tb, 0, none⟩), s4, s5, s6, s7, s8, s9, s10, s11, s12, s13, s14, s15, s16, s17, s18, s19, s20, s21, s22, s23, s24, s25, s26, s27, s28, s29, s30, s31, s32, s33, s34, s35, s36, s37, s38, s39, s40, s41, s42, s43, s44, s45, s46, s47, s48, s49, s50, s51, s52, s53, s54, s55, s56, s57, s58, s59, s60, s61, s62, s63, s64, s65, s66, s67, s68, s69, s70, s71, s72, s73, s74, s75, s76, s77, s78], defers := df }
def acVSd (tb sb n1 q1 n2 q2 : Nat) (kt nt vt ct : Int) (At : Option Addr) (len cap : Nat) (B1 B2 : Option Addr) (qh : Nat) (s1 s2 s4 s5 s6 s7 s8 s9 s10 s11 s12 s13 s14 s15 s16 s17 s18 s19 s20 s21 s22 s23 s24 s25 s26 s27 s28 s29 s30 s31 s32 s33 s34 s35 s36 s37 s38 s39 s40 s41 s42 s43 s44 s45 s46 s47 s48 s49 s50 s51 s52 s53 s54 s55 s56 s57 s58 s59 s60 s61 s62 s63 s64 s65 s66 s67 s68 s69 s70 s71 s72 s73 s74 s75 s76 s77 s78 : Value) (df : List Deferred) (V : Nat → Value) : Act := { tmps := #[.pointer (some ⟨sb, 0, none⟩), s1, s2, .pointer (some ⟨tb, 0, none⟩), s4, s5, s6, s7, s8, s9, s10, s11, s12, s13, s14, s15, s16, s17, s18, s19, s20, s21, s22, s23, s24, s25, s26, s27, s28, s29, s30, s31, s32, s33, s34, s35, s36, s37, s38, s39, s40, s41, s42, s43, s44, s45, s46, s47, s48, s49, s50, s51, s52, s53, s54, s55, s56, s57, s58, s59, V 0, V 1, V 2, V 3, V 4, V 5, V 6, V 7, V 8, V 9, s70, s71, s72, s73, s74, s75, s76, s77, s78], defers := df }
theorem regSd_tail : tailB .any regSd.toArray 10 = true := by kernel_rfl
theorem regSd_fwd : fwdB regSd.toArray 10 = true := by kernel_rfl
theorem regSd_slots : slotsB regSd.toArray 79 = true := by kernel_rfl
theorem regSd_seq : Region.seqB .any regSd.toArray (regSd.length - 10) 10 (Array.replicate 10 true ++ Array.replicate (regSd.length - 10) false) = true := by kernel_rfl
set_option maxRecDepth 100000 in
set_option maxHeartbeats 8000000 in
theorem regSd_any {id : Nat} (tb sb n1 q1 n2 q2 : Nat) (kt nt vt ct : Int) (At : Option Addr) (len cap : Nat) (B1 B2 : Option Addr) (qh : Nat) (s1 s2 s4 s5 s6 s7 s8 s9 s10 s11 s12 s13 s14 s15 s16 s17 s18 s19 s20 s21 s22 s23 s24 s25 s26 s27 s28 s29 s30 s31 s32 s33 s34 s35 s36 s37 s38 s39 s40 s41 s42 s43 s44 s45 s46 s47 s48 s49 s50 s51 s52 s53 s54 s55 s56 s57 s58 s59 s60 s61 s62 s63 s64 s65 s66 s67 s68 s69 s70 s71 s72 s73 s74 s75 s76 s77 s78 : Value) (df : List Deferred) (w : World) (hhi : qh = w.drew.heap.size) (xs : List Value) (hown : w.drew.ownsRow (sb + 1) 3 1 (.slice B2 n2 q2) n2 xs) (hmx : n2 ≤ 100000000) (hsb : sb + 1 ≤ w.drew.heap.size) (hs : w.drew.heap[sb]? = some (.cells #[.slice B1 n1 q1, .slice B2 n2 q2] 46 (0, 0))) (htb : w.drew.heap[tb]? = some (.cells #[.int .u8 kt, .int .i64 nt, .int .i64 vt, .int .u8 ct, .slice At len cap] 27 (0, 0))) (Q : Exit → Act → World → Prop)
    (hend : ∀ (V : Nat → Value) (v : Value) (w' : World), V 0 = .pointer (some ⟨sb, 0, none⟩) → V 9 = v → (w'.ownsRow (sb + 1) 3 1 v (n2 + 1) (xs ++ [.int .i64 vt]) ∧ w.drew.grownBy w' (Value.slice B2 n2 q2).ownBlock ∧ (v.ownBlock = (Value.slice B2 n2 q2).ownBlock ∨ ∃ g, v.ownBlock = some g ∧ w.drew.heap.size ≤ g)) → wpList Tryd.prog regSd.toArray Q (regSd.drop 10) (acVSd tb sb n1 q1 n2 q2 kt nt vt ct At len cap B1 B2 qh s1 s2 s4 s5 s6 s7 s8 s9 s10 s11 s12 s13 s14 s15 s16 s17 s18 s19 s20 s21 s22 s23 s24 s25 s26 s27 s28 s29 s30 s31 s32 s33 s34 s35 s36 s37 s38 s39 s40 s41 s42 s43 s44 s45 s46 s47 s48 s49 s50 s51 s52 s53 s54 s55 s56 s57 s58 s59 s60 s61 s62 s63 s64 s65 s66 s67 s68 s69 s70 s71 s72 s73 s74 s75 s76 s77 s78 df V) w') :
    (Code.region id regSd.toArray true).wp Tryd.prog Q (acOSd tb sb n1 q1 n2 q2 kt nt vt ct At len cap B1 B2 qh s1 s2 s4 s5 s6 s7 s8 s9 s10 s11 s12 s13 s14 s15 s16 s17 s18 s19 s20 s21 s22 s23 s24 s25 s26 s27 s28 s29 s30 s31 s32 s33 s34 s35 s36 s37 s38 s39 s40 s41 s42 s43 s44 s45 s46 s47 s48 s49 s50 s51 s52 s53 s54 s55 s56 s57 s58 s59 s60 s61 s62 s63 s64 s65 s66 s67 s68 s69 s70 s71 s72 s73 s74 s75 s76 s77 s78 df) w := by
  refine wp_region_invT (l := regSd) 10 9 0 (acOSd tb sb n1 q1 n2 q2 kt nt vt ct At len cap B1 B2 qh s1 s2 s4 s5 s6 s7 s8 s9 s10 s11 s12 s13 s14 s15 s16 s17 s18 s19 s20 s21 s22 s23 s24 s25 s26 s27 s28 s29 s30 s31 s32 s33 s34 s35 s36 s37 s38 s39 s40 s41 s42 s43 s44 s45 s46 s47 s48 s49 s50 s51 s52 s53 s54 s55 s56 s57 s58 s59 s60 s61 s62 s63 s64 s65 s66 s67 s68 s69 s70 s71 s72 s73 s74 s75 s76 s77 s78 df) w (specSd tb sb n1 q1 n2 q2 kt nt vt ct At len cap B1 B2 qh) (fun V v w' => w'.ownsRow (sb + 1) 3 1 v (n2 + 1) (xs ++ [.int .i64 vt]) ∧ w.drew.grownBy w' (Value.slice B2 n2 q2).ownBlock ∧ (v.ownBlock = (Value.slice B2 n2 q2).ownBlock ∨ ∃ g, v.ownBlock = some g ∧ w.drew.heap.size ≤ g)) (fun v => v = .pointer (some ⟨sb, 0, none⟩)) (by kernel_rfl) regSd_tail regSd_fwd regSd_slots regSd_seq regSd_cov (by decide) (by decide) (by decide) (fun i v w w' hi h hb => specSd_mono' i v w w' h hb) ?_ ?_ ?_ (fun V V' v w _ h => h) (fun v w h => h) ?_
  · intro i' o hi'' hne' ho a w1 V hbel hdep hpar K hK
    have hi' : i' < 9 := by omega
    have p0 : a.eval (.tmp 0) = .pointer (some ⟨sb, 0, none⟩) := hpar 0 (by show 0 < 79; decide) (by kernel_rfl)
    have p0' : a.tmps[0]?.getD undef = .pointer (some ⟨sb, 0, none⟩) := by have h := p0; simp only [Act.eval, Array.getD_eq_getD_getElem?] at h; exact h
    have p3 : a.eval (.tmp 3) = .pointer (some ⟨tb, 0, none⟩) := hpar 3 (by show 3 < 79; decide) (by kernel_rfl)
    have p3' : a.tmps[3]?.getD undef = .pointer (some ⟨tb, 0, none⟩) := by have h := p3; simp only [Act.eval, Array.getD_eq_getD_getElem?] at h; exact h
    obtain ⟨s0, s1⟩ := cells2 (hbel.blk hs)
    obtain ⟨⟨u0, u1, u2, u3, u4⟩, _⟩ := cells5 (hbel.blk htb)
    match i', hi', ho, hdep, hK with
    | 0, _, ho, hdep, hK =>
      simp only [regSd, List.getElem?_toArray, List.getElem?_cons_zero, Option.some.injEq] at ho
      subst ho
      refine ⟨fun _ => ?_, fun hw => (yw_n rfl hw).elim⟩
      exact wp_val (v := .pointer (some ⟨sb, 0, none⟩)) (w' := w1) (by simp [execOp, go_sem, p0']) (hK _ _ (Bel.refl _) rfl)
    | 1, _, ho, hdep, hK =>
      simp only [regSd, List.getElem?_toArray, List.getElem?_cons_zero, List.getElem?_cons_succ, Option.some.injEq] at ho
      subst ho
      refine ⟨fun _ => ?_, fun hw => (yw_n rfl hw).elim⟩
      exact wp_val (v := .pointer (some ⟨sb, 0, none⟩)) (w' := w1) (by simp [execOp, go_sem, p0']) (hK _ _ (Bel.refl _) rfl)
    | 2, _, ho, hdep, hK =>
      simp only [regSd, List.getElem?_toArray, List.getElem?_cons_zero, List.getElem?_cons_succ, Option.some.injEq] at ho
      subst ho
      refine ⟨fun _ => ?_, fun hw => (yw_n rfl hw).elim⟩
      obtain ⟨f1, d1⟩ := hdep ⟨1, .data⟩ (by simp) rfl
      have e1 : a.eval (.tmp 61) = .pointer (some ⟨sb, 0, none⟩) := (d1 61 rfl).trans f1
      have e1' : a.tmps[61]?.getD undef = .pointer (some ⟨sb, 0, none⟩) := by have h := e1; simp only [Act.eval, Array.getD_eq_getD_getElem?] at h; exact h
      exact wp_val (v := .pointer (some ⟨sb, 0, none⟩)) (w' := w1) (by simp [execOp, go_sem, e1']) (hK _ _ (Bel.refl _) rfl)
    | 3, _, ho, hdep, hK =>
      simp only [regSd, List.getElem?_toArray, List.getElem?_cons_zero, List.getElem?_cons_succ, Option.some.injEq] at ho
      subst ho
      refine ⟨fun _ => ?_, fun hw => (yw_n rfl hw).elim⟩
      obtain ⟨f2, d2⟩ := hdep ⟨2, .data⟩ (by simp) rfl
      have e2 : a.eval (.tmp 62) = .pointer (some ⟨sb, 0, none⟩) := (d2 62 rfl).trans f2
      have e2' : a.tmps[62]?.getD undef = .pointer (some ⟨sb, 0, none⟩) := by have h := e2; simp only [Act.eval, Array.getD_eq_getD_getElem?] at h; exact h
      exact wp_val (v := .pointer (some ⟨sb, 1, none⟩)) (w' := w1) (by simp [execOp, go_sem, e2']) (hK _ _ (Bel.refl _) rfl)
    | 4, _, ho, hdep, hK =>
      simp only [regSd, List.getElem?_toArray, List.getElem?_cons_zero, List.getElem?_cons_succ, Option.some.injEq] at ho
      subst ho
      refine ⟨fun _ => ?_, fun hw => (yw_n rfl hw).elim⟩
      obtain ⟨f3, d3⟩ := hdep ⟨3, .data⟩ (by simp) rfl
      have e3 : a.eval (.tmp 63) = .pointer (some ⟨sb, 1, none⟩) := (d3 63 rfl).trans f3
      have e3' : a.tmps[63]?.getD undef = .pointer (some ⟨sb, 1, none⟩) := by have h := e3; simp only [Act.eval, Array.getD_eq_getD_getElem?] at h; exact h
      exact wp_val (v := .slice B2 n2 q2) (w' := w1) (by simp [execOp, go_sem, e3', s1]) (hK _ _ (Bel.refl _) rfl)
    | 5, _, ho, hdep, hK =>
      simp only [regSd, List.getElem?_toArray, List.getElem?_cons_zero, List.getElem?_cons_succ, Option.some.injEq] at ho
      subst ho
      refine ⟨fun _ => ?_, fun hw => (yw_n rfl hw).elim⟩
      exact wp_val (v := .pointer (some ⟨tb, 2, none⟩)) (w' := w1) (by simp [execOp, go_sem, p3']) (hK _ _ (Bel.refl _) rfl)
    | 6, _, ho, hdep, hK =>
      simp only [regSd, List.getElem?_toArray, List.getElem?_cons_zero, List.getElem?_cons_succ, Option.some.injEq] at ho
      subst ho
      refine ⟨fun _ => ?_, fun hw => (yw_n rfl hw).elim⟩
      obtain ⟨f5, d5⟩ := hdep ⟨5, .data⟩ (by simp) rfl
      have e5 : a.eval (.tmp 65) = .pointer (some ⟨tb, 2, none⟩) := (d5 65 rfl).trans f5
      have e5' : a.tmps[65]?.getD undef = .pointer (some ⟨tb, 2, none⟩) := by have h := e5; simp only [Act.eval, Array.getD_eq_getD_getElem?] at h; exact h
      exact wp_val (v := .pointer (some ⟨tb, 2, none⟩)) (w' := w1) (by simp [execOp, go_sem, e5']) (hK _ _ (Bel.refl _) rfl)
    | 7, _, ho, hdep, hK =>
      simp only [regSd, List.getElem?_toArray, List.getElem?_cons_zero, List.getElem?_cons_succ, Option.some.injEq] at ho
      subst ho
      refine ⟨fun _ => ?_, fun hw => (yw_n rfl hw).elim⟩
      obtain ⟨f6, d6⟩ := hdep ⟨6, .data⟩ (by simp) rfl
      have e6 : a.eval (.tmp 66) = .pointer (some ⟨tb, 2, none⟩) := (d6 66 rfl).trans f6
      have e6' : a.tmps[66]?.getD undef = .pointer (some ⟨tb, 2, none⟩) := by have h := e6; simp only [Act.eval, Array.getD_eq_getD_getElem?] at h; exact h
      exact wp_val (v := .int .i64 vt) (w' := w1) (by simp [execOp, go_sem, e6', u2]) (hK _ _ (Bel.refl _) rfl)
    | 8, _, ho, hdep, hK =>
      simp only [regSd, List.getElem?_toArray, List.getElem?_cons_zero, List.getElem?_cons_succ, Option.some.injEq] at ho
      subst ho
      refine ⟨fun _ => ?_, fun hw => (yw_n rfl hw).elim⟩
      obtain ⟨f7, d7⟩ := hdep ⟨7, .data⟩ (by simp) rfl
      have e7 : a.eval (.tmp 67) = .int .i64 vt := (d7 67 rfl).trans f7
      have e7' : a.tmps[67]?.getD undef = .int .i64 vt := by have h := e7; simp only [Act.eval, Array.getD_eq_getD_getElem?] at h; exact h
      exact wp_val (v := .slice (some ⟨w1.heap.size, 0, none⟩) 1 1) (w' := w1.alloc (.cells #[.int .i64 vt] 3)) (by simp [execOp, go_sem, e7']) (hK _ _ ((Bel.refl w1).alloc _) ⟨_, rfl, hhi ▸ hbel.size, blk1 w1 _⟩)
    | q + 9, hi, _, _, _ => exact absurd hi (by omega)
  · intro o ho a w1 V hbel hd hpar
    simp only [regSd, List.getElem?_toArray, List.getElem?_cons_zero, List.getElem?_cons_succ, Option.some.injEq] at ho
    subst ho
    refine ⟨wanted_none rfl, fun K hK => ?_⟩
    obtain ⟨e4, d4⟩ := hd 4 (by decide) (by decide) (by decide)
    obtain ⟨⟨g, e7, hl7, hh7⟩, d7⟩ := hd 8 (by decide) (by decide) (by decide)
    obtain ⟨i0, hi0, hz0, hz1, hz2⟩ := info_parts info_intS
    have hs1 := hbel.size
    refine wp_append_own_at (.tmp 64) (.tmp 68) 40 rfl (sb + 1) 3 i0 _ 1 8 Tryd.underlying40 hi0 hz0 hz1 hz2 rfl (by decide) (.slice B2 n2 q2) n2 xs ((d4 64 rfl).trans e4) (owns_bel hown hbel) ⟨g, 0, none⟩ 1 1 [.int .i64 vt] ((d7 68 rfl).trans e7) rfl (fun j u hu => by rw [Addr.add_lit, Nat.zero_add]; exact one_of_blkS hh7 j u hu) (by simp [Value.oneCell']) (by unfold maxLen; omega) (by omega) (by omega) ?_
    intro v' w' h1 h2 h3
    refine hK _ _ ⟨h1, ⟨h2.os.trans hbel.os, h2.tape.trans hbel.tape, h2.output.trans hbel.output, Nat.le_trans hbel.size h2.size, fun k hk hne => (h2.block k (Nat.lt_of_lt_of_le hk hs1) hne).trans (hbel.block k hk)⟩, h3.elim .inl fun h => .inr ⟨_, h, hs1⟩⟩
  · intro o ho a w1 hpar
    simp only [regSd, List.getElem?_toArray, List.getElem?_cons_zero, Option.some.injEq] at ho
    subst ho
    refine ⟨wanted_none rfl, fun K hK => ?_⟩
    have p0 : a.eval (.tmp 0) = .pointer (some ⟨sb, 0, none⟩) := hpar 0 (by show 0 < 79; decide) (by kernel_rfl)
    have p0' : a.tmps[0]?.getD undef = .pointer (some ⟨sb, 0, none⟩) := by have h := p0; simp only [Act.eval, Array.getD_eq_getD_getElem?] at h; exact h
    exact wp_val (v := .pointer (some ⟨sb, 0, none⟩)) (w' := w1) (by simp [execOp, go_sem, p0']) (hK _ rfl)
  · intro V w' hz hl
    have e : finA regSd.toArray 10 V (acOSd tb sb n1 q1 n2 q2 kt nt vt ct At len cap B1 B2 qh s1 s2 s4 s5 s6 s7 s8 s9 s10 s11 s12 s13 s14 s15 s16 s17 s18 s19 s20 s21 s22 s23 s24 s25 s26 s27 s28 s29 s30 s31 s32 s33 s34 s35 s36 s37 s38 s39 s40 s41 s42 s43 s44 s45 s46 s47 s48 s49 s50 s51 s52 s53 s54 s55 s56 s57 s58 s59 s60 s61 s62 s63 s64 s65 s66 s67 s68 s69 s70 s71 s72 s73 s74 s75 s76 s77 s78 df) = acVSd tb sb n1 q1 n2 q2 kt nt vt ct At len cap B1 B2 qh s1 s2 s4 s5 s6 s7 s8 s9 s10 s11 s12 s13 s14 s15 s16 s17 s18 s19 s20 s21 s22 s23 s24 s25 s26 s27 s28 s29 s30 s31 s32 s33 s34 s35 s36 s37 s38 s39 s40 s41 s42 s43 s44 s45 s46 s47 s48 s49 s50 s51 s52 s53 s54 s55 s56 s57 s58 s59 s60 s61 s62 s63 s64 s65 s66 s67 s68 s69 s70 s71 s72 s73 s74 s75 s76 s77 s78 df V := by kernel_rfl
    rw [e]
    exact hend V (V 9) w' hl rfl hz
end Go.Proofs.YtblgligagngpfaaDoor.Mu
namespace Go.Proofs.YtblgligagngpfaaDoor.Mu
open Go.ChangeShapes Go.WideShapes Go.ChangeAt Go.RowKit Go.Shelf

attribute [local go_sem] Oper.semAt_some
set_option linter.unusedVariables false

/-- What was seen, in memory. -/
def SeenI (sb : Nat) (s : List Int × List Int) (m : Nat → Prop) (w : World) : Prop :=
  ∃ A1 c1 A2 c2, w.heap[sb]? = some (.cells #[.slice A1 s.1.length c1, .slice A2 s.2.length c2] 46 (0, 0)) ∧
    w.ownsRow (sb + 1) 3 1 (.slice A1 s.1.length c1) s.1.length (s.1.map (Value.int .i64)) ∧ w.ownsRow (sb + 1) 3 1 (.slice A2 s.2.length c2) s.2.length (s.2.map (Value.int .i64)) ∧
    (∀ j, (Value.slice A1 s.1.length c1).ownBlock = some j → (Value.slice A2 s.2.length c2).ownBlock ≠ some j) ∧ m = fun j => j = sb ∨ (Value.slice A1 s.1.length c1).ownBlock = some j ∨ (Value.slice A2 s.2.length c2).ownBlock = some j
theorem SeenI.lt {sb : Nat} {s : List Int × List Int} {m : Nat → Prop} {w : World} (h : SeenI sb s m w) : ∀ j, m j → sb ≤ j ∧ j < w.heap.size := by
  obtain ⟨A1, c1, A2, c2, h0, h1, h2, h3, rfl⟩ := h
  rintro j (rfl | h | h)
  · exact ⟨Nat.le_refl _, (Array.getElem?_eq_some_iff.1 h0).1⟩
  · exact ⟨by have := (h1.lt j h).1; omega, (h1.lt j h).2⟩
  · exact ⟨by have := (h2.lt j h).1; omega, (h2.lt j h).2⟩
theorem SeenI.bel {sb : Nat} {s : List Int × List Int} {m : Nat → Prop} {w w' : World} (h : SeenI sb s m w) (hb : Bel w w') : SeenI sb s m w' := by
  have hl := h.lt
  obtain ⟨A1, c1, A2, c2, h0, h1, h2, h3, rfl⟩ := h
  exact ⟨A1, c1, A2, c2, hb.blk h0, row_keep h1 fun j hj => hb.block j (hl j (.inr (.inl hj))).2, row_keep h2 fun j hj => hb.block j (hl j (.inr (.inr hj))).2, h3, rfl⟩
theorem Fr.of_belS {m : Nat → Prop} {w w' : World} (hb : Bel w w') : Fr m w w' m := ⟨hb.os, hb.tape, hb.output, hb.size, fun j hj _ => hb.block j hj, fun j h => .inl h⟩
theorem Fr.transS {m m1 m2 : Nat → Prop} {w w1 w2 : World} (h : Fr m w w1 m1) (h' : Fr m1 w1 w2 m2) : Fr m w w2 m2 :=
  ⟨h'.os.trans h.os, h'.tape.trans h.tape, h'.output.trans h.output, Nat.le_trans h.size h'.size, fun j hj hn => (h'.keep j (Nat.lt_of_lt_of_le hj h.size) fun h1 => by rcases h.mn j h1 with h2 | h2; exact hn h2; omega).trans (h.keep j hj hn), fun j h2 => by
    rcases h'.mn j h2 with h1 | h1
    · exact h.mn j h1
    · exact .inr (Nat.le_trans h.size h1)⟩
theorem seen_push1 {sb : Nat} {s : List Int × List Int} {A1 A2 : Option Addr} {c1 c2 : Nat} {m : Nat → Prop} {w w3 : World} {v : Value} {x : Int} (h0 : w.heap[sb]? = some (.cells #[.slice A1 s.1.length c1, .slice A2 s.2.length c2] 46 (0, 0)))
    (h1 : w.ownsRow (sb + 1) 3 1 (.slice A1 s.1.length c1) s.1.length (s.1.map (Value.int .i64))) (h2 : w.ownsRow (sb + 1) 3 1 (.slice A2 s.2.length c2) s.2.length (s.2.map (Value.int .i64))) (h3 : ∀ j, (Value.slice A1 s.1.length c1).ownBlock = some j → (Value.slice A2 s.2.length c2).ownBlock ≠ some j)
    (hm : m = fun j => j = sb ∨ (Value.slice A1 s.1.length c1).ownBlock = some j ∨ (Value.slice A2 s.2.length c2).ownBlock = some j)
    (hown : w3.ownsRow (sb + 1) 3 1 v (s.1.length + 1) (s.1.map (Value.int .i64) ++ [.int .i64 x])) (hg : w.grownBy w3 (Value.slice A1 s.1.length c1).ownBlock) (hv : v.ownBlock = (Value.slice A1 s.1.length c1).ownBlock ∨ ∃ g, v.ownBlock = some g ∧ w.heap.size ≤ g) :
    w3.heap[sb]? = some (.cells #[.slice A1 s.1.length c1, .slice A2 s.2.length c2] 46 (0, 0)) ∧ ∃ m', SeenI sb (s.1 ++ [x], s.2) m' (w3.setCell ⟨sb, 0, none⟩ v) ∧ Fr m w (w3.setCell ⟨sb, 0, none⟩ v) m' := by
  subst hm
  have hsb := (Array.getElem?_eq_some_iff.1 h0).1
  have h03 : w3.heap[sb]? = some (.cells #[.slice A1 s.1.length c1, .slice A2 s.2.length c2] 46 (0, 0)) := (hg.block sb hsb fun e => by have := (h1.lt sb e.symm).1; omega).trans h0
  obtain ⟨A, c, rfl⟩ := own_form_n hown
  have hlen : (s.1 ++ [x]).length = s.1.length + 1 := by simp
  refine ⟨h03, fun j => j = sb ∨ (Value.slice A (s.1.length + 1) c).ownBlock = some j ∨ (Value.slice A2 s.2.length c2).ownBlock = some j, ⟨A, c, A2, c2, ?_, ?_, ?_, ?_, ?_⟩, ?_⟩
  · rw [heap_setCell_same w3 sb 0 _ _ _ h03, hlen]
    simp
  · rw [hlen, List.map_append]
    exact setW_row hown fun e => by have := (hown.lt sb e).1; omega
  · exact setW_row (row_keep h2 fun j hj => hg.block j (h2.lt j hj).2 fun e => h3 j e.symm hj) fun e => by have := (h2.lt sb e).1; omega
  · rw [hlen]
    intro j hj e
    rcases hv with h | ⟨g, h, hge⟩
    · rw [h] at hj; exact h3 j hj e
    · rw [h] at hj
      cases hj
      have := (h2.lt _ e).2
      omega
  · rw [hlen]
  · refine ⟨hg.os, hg.tape, hg.output, by simpa [World.setCell] using hg.size, fun j hj hn => ?_, fun j hj => ?_⟩
    · simp only [not_or] at hn
      rw [heap_setCell_other _ _ _ _ (by exact hn.1)]
      exact hg.block j hj fun e => hn.2.1 e.symm
    · rcases hj with h | h | h
      · exact .inl (.inl h)
      · rcases hv with h' | ⟨g, h', hge⟩
        · rw [h'] at h; exact .inl (.inr (.inl h))
        · rw [h'] at h; cases h; exact .inr hge
      · exact .inl (.inr (.inr h))
theorem seen_push2 {sb : Nat} {s : List Int × List Int} {A1 A2 : Option Addr} {c1 c2 : Nat} {m : Nat → Prop} {w w3 : World} {v : Value} {x : Int} (h0 : w.heap[sb]? = some (.cells #[.slice A1 s.1.length c1, .slice A2 s.2.length c2] 46 (0, 0)))
    (h1 : w.ownsRow (sb + 1) 3 1 (.slice A1 s.1.length c1) s.1.length (s.1.map (Value.int .i64))) (h2 : w.ownsRow (sb + 1) 3 1 (.slice A2 s.2.length c2) s.2.length (s.2.map (Value.int .i64))) (h3 : ∀ j, (Value.slice A1 s.1.length c1).ownBlock = some j → (Value.slice A2 s.2.length c2).ownBlock ≠ some j)
    (hm : m = fun j => j = sb ∨ (Value.slice A1 s.1.length c1).ownBlock = some j ∨ (Value.slice A2 s.2.length c2).ownBlock = some j)
    (hown : w3.ownsRow (sb + 1) 3 1 v (s.2.length + 1) (s.2.map (Value.int .i64) ++ [.int .i64 x])) (hg : w.grownBy w3 (Value.slice A2 s.2.length c2).ownBlock) (hv : v.ownBlock = (Value.slice A2 s.2.length c2).ownBlock ∨ ∃ g, v.ownBlock = some g ∧ w.heap.size ≤ g) :
    w3.heap[sb]? = some (.cells #[.slice A1 s.1.length c1, .slice A2 s.2.length c2] 46 (0, 0)) ∧ ∃ m', SeenI sb (s.1, s.2 ++ [x]) m' (w3.setCell ⟨sb, 1, none⟩ v) ∧ Fr m w (w3.setCell ⟨sb, 1, none⟩ v) m' := by
  subst hm
  have hsb := (Array.getElem?_eq_some_iff.1 h0).1
  have h03 : w3.heap[sb]? = some (.cells #[.slice A1 s.1.length c1, .slice A2 s.2.length c2] 46 (0, 0)) := (hg.block sb hsb fun e => by have := (h2.lt sb e.symm).1; omega).trans h0
  obtain ⟨A, c, rfl⟩ := own_form_n hown
  have hlen : (s.2 ++ [x]).length = s.2.length + 1 := by simp
  refine ⟨h03, fun j => j = sb ∨ (Value.slice A1 s.1.length c1).ownBlock = some j ∨ (Value.slice A (s.2.length + 1) c).ownBlock = some j, ⟨A1, c1, A, c, ?_, ?_, ?_, ?_, ?_⟩, ?_⟩
  · rw [heap_setCell_same w3 sb 1 _ _ _ h03, hlen]
    simp
  · exact setW_row (row_keep h1 fun j hj => hg.block j (h1.lt j hj).2 fun e => h3 j hj e.symm) fun e => by have := (h1.lt sb e).1; omega
  · rw [hlen, List.map_append]
    exact setW_row hown fun e => by have := (hown.lt sb e).1; omega
  · rw [hlen]
    intro j hj e
    rcases hv with h | ⟨g, h, hge⟩
    · rw [h] at e; exact h3 j hj e
    · rw [h] at e
      cases e
      have := (h1.lt _ hj).2
      omega
  · rw [hlen]
  · refine ⟨hg.os, hg.tape, hg.output, by simpa [World.setCell] using hg.size, fun j hj hn => ?_, fun j hj => ?_⟩
    · simp only [not_or] at hn
      rw [heap_setCell_other _ _ _ _ (by exact hn.1)]
      exact hg.block j hj fun e => hn.2.2 e.symm
    · rcases hj with h | h | h
      · exact .inl (.inl h)
      · exact .inl (.inr (.inl h))
      · rcases hv with h' | ⟨g, h', hge⟩
        · rw [h'] at h; exact .inl (.inr (.inr h))
        · rw [h'] at h; cases h; exact .inr hge
theorem addL_len (l : List Int) (x : Int) : (addL l x).length ≤ l.length + 1 := by
  unfold addL
  split <;> simp
theorem pmD_len (pm : Option (Int × Int)) (s : List Int × List Int) : (pmD pm s).1.length ≤ s.1.length + 0 ∧ (pmD pm s).2.length ≤ s.2.length + 0 + 1 ∧ (pm = none → (pmD pm s).2.length ≤ s.2.length + 0) := by
  cases pm with
  | none => exact ⟨Nat.le_refl _, Nat.le_succ _, fun _ => Nat.le_refl _⟩
  | some p =>
    have := addL_len s.2 p.1
    show (varU s p.1 p.2).1.length ≤ _ ∧ (varU s p.1 p.2).2.length ≤ _ ∧ _
    unfold varU
    split
    · exact ⟨Nat.le_refl _, this, fun h => by cases h⟩
    · exact ⟨Nat.le_refl _, Nat.le_succ _, fun h => by cases h⟩
theorem vrun_len : ∀ (f : Fo) (pm : Option (Int × Int)) (s : List Int × List Int), (vrun f pm s).1.length ≤ s.1.length + f.size ∧ (vrun f pm s).2.length ≤ s.2.length + f.size + 1 ∧ (pm = none → (vrun f pm s).2.length ≤ s.2.length + f.size)
  | .nil, pm, s => by
    rw [vrun_nil]
    have := pmD_len pm s
    exact ⟨this.1, this.2.1, this.2.2⟩
  | .cons k n v c kids rest, pm, s => by
    rw [vrun_cons]
    have h1 := vrun_len kids (if k = 7 then some (v, c) else none) (varN s k n v c kids.len).1
    have h0 : (varN s k n v c kids.len).1.1.length ≤ s.1.length + 1 ∧ (varN s k n v c kids.len).1.2 = s.2 := by
      unfold varN
      have := addL_len s.1 n
      constructor
      · show (if k = 1 then addL s.1 n else s.1).length ≤ _
        split <;> omega
      · rfl
    rw [h0.2] at h1
    have h2 := vrun_len rest none (pmD pm (vrun kids (if k = 7 then some (v, c) else none) (varN s k n v c kids.len).1))
    have h3 := pmD_len pm (vrun kids (if k = 7 then some (v, c) else none) (varN s k n v c kids.len).1)
    have h2' := h2.2.2 rfl
    simp only [Fo.size] at h3 ⊢
    refine ⟨by omega, by omega, fun hp => ?_⟩
    have := h3.2.2 hp
    omega
theorem addL_no {l : List Int} {x : Int} (h : atF l x < 0) : addL l x = l ++ [x] := by
  unfold atF at h
  unfold addL
  by_cases hx : x ∈ l
  · rw [if_pos hx] at h; omega
  · simp [hx]
theorem addL_yes {l : List Int} {x : Int} (h : ¬ atF l x < 0) : addL l x = l := by
  unfold atF at h
  unfold addL
  by_cases hx : x ∈ l
  · simp [hx]
  · rw [if_neg hx] at h; exact absurd (by decide) h
/-- What is seen when the first of what is within were gone through. -/
def seeTo (k v c : Int) (kids : Fo) (s : List Int × List Int) : Nat → List Int × List Int
  | 0 => s
  | 1 => vrun (kids.takeF 1) none s
  | j + 2 => if k = 7 then vrun (kids.nth 1) none (pmD (some (v, c)) (vrun (kids.takeF 1) none s)) else vrun (kids.takeF (j + 2)) none s
theorem seeTo_two (k v c : Int) (kids : Fo) (s : List Int × List Int) (j : Nat) : seeTo k v c kids s (j + 2) = if k = 7 then vrun (kids.nth 1) none (pmD (some (v, c)) (vrun (kids.takeF 1) none s)) else vrun (kids.takeF (j + 2)) none s := rfl
theorem vrun_snoc (k n v c : Int) (kids : Fo) : ∀ (f : Fo) (s : List Int × List Int), vrun (f.snoc (.cons k n v c kids .nil)) none s = vrun (.cons k n v c kids .nil) none (vrun f none s)
  | .nil, s => by rw [vrun_nil]; rfl
  | .cons k' n' v' c' kids' rest, s => by
    show vrun (.cons k' n' v' c' kids' (rest.snoc _)) none s = _
    rw [vrun_cons, vrun_snoc k n v c kids rest, vrun_cons k' n' v' c' kids' rest]
theorem vrun_one (k n v c : Int) (kids : Fo) (s : List Int × List Int) : vrun (.cons k n v c kids .nil) none s = vrun kids (if k = 7 then some (v, c) else none) (varN s k n v c kids.len).1 := by
  rw [vrun_cons, vrun_nil]
  rfl
theorem seeTo_all {k n v c : Int} {kids : Fo} (hw : nodeB k n v c kids.len = true) (s : List Int × List Int) : seeTo k v c kids (varN s k n v c kids.len).1 kids.len = vrun (.cons k n v c kids .nil) none s := by
  rw [vrun_one]
  by_cases h7 : k = 7
  · subst h7
    have hl : kids.len = 2 := by simp [nodeB] at hw; omega
    rw [if_pos rfl, hl]
    match kids, hl with
    | .cons k1 n1 v1 c1 kd1 (.cons k2 n2 v2 c2 kd2 .nil), _ =>
      show seeTo 7 v c _ _ (0 + 2) = _
      rw [seeTo_two, if_pos rfl]
      show vrun (.cons k2 n2 v2 c2 kd2 .nil) none (pmD (some (v, c)) (vrun (.cons k1 n1 v1 c1 kd1 .nil) none _)) = _
      rw [vrun_cons k1 n1 v1 c1 kd1 (.cons k2 n2 v2 c2 kd2 .nil), vrun_one k1]
    | .cons _ _ _ _ _ (.cons _ _ _ _ _ (.cons _ _ _ _ _ r)), h => exact absurd h (by simp only [Fo.len]; omega)
    | .cons _ _ _ _ _ .nil, h => exact absurd h (by simp only [Fo.len]; omega)
    | .nil, h => exact absurd h (by simp only [Fo.len]; omega)
  · rw [if_neg h7]
    have : seeTo k v c kids (varN s k n v c kids.len).1 kids.len = vrun (kids.takeF kids.len) none (varN s k n v c kids.len).1 := by
      rcases e : kids.len with _ | _ | j
      · rw [Fo.takeF_zero, vrun_nil]; rfl
      · rfl
      · show (if k = 7 then _ else vrun (kids.takeF (j + 2)) none _) = _
        rw [if_neg h7]
    rw [this, Fo.takeF_all]
theorem seeTo_next {k v c k1 n1 v1 c1 : Int} {kids kd1 : Fo} {s : List Int × List Int} {j : Nat} (hj : j < kids.len) (hn : kids.nth j = .cons k1 n1 v1 c1 kd1 .nil) (h7 : k = 7 → kids.len = 2) : seeTo k v c kids s (j + 1) = vrun (.cons k1 n1 v1 c1 kd1 .nil) none (if k = 7 ∧ j = 1 ∧ c = 0 then ((seeTo k v c kids s j).1, addL (seeTo k v c kids s j).2 v) else seeTo k v c kids s j) := by
  rcases j with _ | _ | j
  · rw [if_neg (by omega)]
    show vrun (kids.takeF 1) none s = _
    rw [Fo.takeF_succ kids 0 hj, hn, vrun_snoc, Fo.takeF_zero, vrun_nil]
    rfl
  · by_cases e7 : k = 7
    · show (if k = 7 then vrun (kids.nth 1) none (pmD (some (v, c)) (vrun (kids.takeF 1) none s)) else _) = _
      rw [if_pos e7, hn]
      congr 1
      show varU _ v c = _
      unfold varU
      by_cases hc : c = 0
      · rw [if_pos hc, if_pos ⟨e7, rfl, hc⟩]; rfl
      · rw [if_neg hc, if_neg (fun h => hc h.2.2)]; rfl
    · show (if k = 7 then _ else vrun (kids.takeF 2) none s) = _
      rw [if_neg e7, if_neg (fun h => e7 h.1), Fo.takeF_succ kids 1 hj, hn, vrun_snoc]
      rfl
  · by_cases e7 : k = 7
    · have := h7 e7
      omega
    · show (if k = 7 then _ else vrun (kids.takeF (j + 3)) none s) = _
      rw [if_neg e7, if_neg (fun h => e7 h.1), Fo.takeF_succ kids (j + 2) hj, hn, vrun_snoc]
      congr 1
      show _ = (if k = 7 then _ else vrun (kids.takeF (j + 2)) none s)
      rw [if_neg e7]
def SeeP (sb : Nat) (s' : List Int × List Int) (m : Nat → Prop) (w : World) (e : Ending) (w' : World) : Prop := e = .returned (.tuple #[]) ∧ ∃ m', SeenI sb s' m' w' ∧ Fr m w w' m'
set_option maxRecDepth 100000 in
set_option maxHeartbeats 4000000 in
theorem rsee_any (sb : Nat) (N : Nat) : ∀ (k n v c : Int) (A : Option Addr) (len cap : Nat) (kids : Fo) (s : List Int × List Int) (m Ok : Nat → Prop) (w : World), kids.size = N → SeenI sb s m w → KidsAt w Ok A len cap kids → (∀ j, Ok j → j < w.heap.size ∧ ¬ m j) → (Fo.cons k n v c kids .nil).well = true → kids.size ≤ 1400000 → s.1.length + kids.size ≤ 50000000 → s.2.length + 2 * kids.size ≤ 50000000 →
    Calls Tryd.prog 39 #[.pointer (some ⟨sb, 0, none⟩), .agg #[.int .u8 k, .int .i64 n, .int .i64 v, .int .u8 c, .slice A len cap]] w (SeeP sb (vrun (.cons k n v c kids .nil) none s) m w) := by
  induction N using Nat.strongRecOn with
  | _ N ih =>
    intro k n v c A len cap kids s m Ok w hN hS h hOk hw hsz hl1 hl2
    have hw' := hw
    simp only [Fo.well, Bool.and_eq_true] at hw'
    have H := Lib.hid h
    have HOK := Lib.hid hOk
    have IH := Lib.hid ih
    have HN := Lib.hid hN
    have HL : Hid (len = kids.len) := Lib.hid h.1
    have HW := Lib.hid hw'.1
    have HWK := Lib.hid hw'.2.1
    have hlen : len ≤ 1400000 := by have := h.1; have := kids.len_le; omega
    have HML := Lib.hid hS.lt
    obtain ⟨w1, hw1⟩ : ∃ W, W = w.alloc (.cells #[.int .u8 k, .int .i64 n, .int .i64 v, .int .u8 c, .slice A len cap] 27) := ⟨_, rfl⟩
    have HQ1 : Hid (w1.heap[w.heap.size]? = some (.cells #[.int .u8 k, .int .i64 n, .int .i64 v, .int .u8 c, .slice A len cap] 27 (0, 0))) := Lib.hid (by rw [hw1]; exact blk1 w _)
    have HB1 : Hid (Bel w w1) := Lib.hid (by rw [hw1]; exact (Bel.refl w).alloc _)
    have HS1 : Hid (w1.heap.size = w.heap.size + 1) := Lib.hid (by rw [hw1]; simp)
    have hS1 := hS.bel HB1.out
    have HSI := Lib.hid hS1
    have hlw : w.heap.size < w1.heap.size := by have := HS1.out; omega
    obtain ⟨A1, q1, A2, q2, h0, h1, h2, h3, hm⟩ := hS1
    have HH := Lib.hid h0
    have HO1 := Lib.hid h1
    have HO2 := Lib.hid h2
    have HD := Lib.hid h3
    have HM := Lib.hid hm
    have hsb := (Array.getElem?_eq_some_iff.1 h0).1
    clear h hOk ih hN hw hw' hS h0 h1 h2 h3 hm
    by_cases hk1 : k = 1
    · subst hk1
      have hkn := var_kids HW.out
      have hl0 : len = 0 := by rw [HL.out, hkn]; rfl
      have HKN := Lib.hid hkn
      subst hl0
      clear hkn
      have hv1 : vrun (.cons 1 n v c kids .nil) none s = (addL s.1 n, s.2) := by rw [HKN.out, vrun_one, vrun_nil]; rfl
      rw [hv1]
      clear hv1
      go_enter Tryd.func39, Tryd.ntmps39
      go_wp2_with fail
      rw [← hw1]
      clear hw1
      refine regSa_any (id := 1) w.heap.size sb s.1.length q1 s.2.length q2 1 n v c A 0 cap A1 A2 s.1 _ _ _ _ _ _ _ _ _ _ _ _ _ _ _ _ _ _ _ _ _ _ _ _ _ _ _ _ _ _ _ _ _ _ _ _ _ _ _ _ _ _ _ _ _ _ _ _ _ _ _ _ _ _ _ _ _ _ _ _ _ _ _ _ _ _ _ _ _ _ _ _ _ _ _ _ _ _ w1 HH.out HQ1.out (fun W hW => rat_any A1 s.1.length q1 n s.1 W ((RI.of_own HO1.out).bel (((Bel.refl w1).drew).on hW)) (by omega)) _ ?_
      intro V w2 hb2 hv3 hv11
      have HB2 := Lib.hid (((Bel.refl w1).drew).on hb2)
      simp only [regSa, List.drop_succ_cons, List.drop_zero, acVSa, hv3, hv11]
      clear hb2 hv3 hv11
      have hF2 := Lib.hid (Fr.of_belS (m := m) HB2.out)
      obtain ⟨⟨x0, x1, x2, x3, x4⟩, _⟩ := cells5 (HB2.out.blk HQ1.out)
      have hl2 := HB2.out.size
      have hl3 : w.heap.size < w2.heap.size := by omega
      by_cases hx : atF s.1 n < 0
      · have HX := Lib.hid hx
        have dx : decide (atF s.1 n < 0) = true := by rw [decide_eq_true_eq]; exact hx
        rw [dx]
        clear hx dx
        go_wp2_with fail
        have HO1' := Lib.hid (owns_bel HO1.out HB2.out)
        refine regSc_any (id := 2) w.heap.size sb s.1.length q1 s.2.length q2 1 n v c A 0 cap A1 A2 w2.drew.heap.size _ _ _ _ _ _ _ _ _ _ _ _ _ _ _ _ _ _ _ _ _ _ _ _ _ _ _ _ _ _ _ _ _ _ _ _ _ _ _ _ _ _ _ _ _ _ _ _ _ _ _ _ _ _ _ _ _ _ _ _ _ _ _ _ _ _ _ _ _ _ _ _ _ _ _ _ _ _ w2 rfl (s.1.map (Value.int .i64)) HO1'.out (by omega) (by show sb + 1 ≤ w2.heap.size; omega) (HB2.out.blk HH.out) (HB2.out.blk HQ1.out) _ ?_
        intro V' v' w3 hV0 hV8 ⟨hown, hg, hv⟩
        obtain ⟨A3, c3, rfl⟩ := own_form_n hown
        obtain ⟨h03, m', hS', hF'⟩ := seen_push1 (HB2.out.blk HH.out) HO1'.out (owns_bel HO2.out HB2.out) HD.out HM.out hown ⟨hg.os, hg.tape, hg.output, hg.size, hg.block⟩ hv
        have HS' := Lib.hid hS'
        have HF' := Lib.hid (hF2.out.transS hF')
        have hc3 : w3.cell? ⟨sb, 0, none⟩ = some (.slice A1 s.1.length q1) ∧ w3.frozen? ⟨sb, 0, none⟩ = false := by simp [World.cell?, World.frozen?, h03]
        obtain ⟨y0, yf⟩ := hc3
        have hl4 := (Array.getElem?_eq_some_iff.1 h03).1
        have hq3 : w3.heap[w.heap.size]? = some (.cells #[.int .u8 1, .int .i64 n, .int .i64 v, .int .u8 c, .slice A 0 cap] 27 (0, 0)) := (hg.block _ hl3 fun e => by have := (HML.out w.heap.size (by rw [HM.out]; exact .inr (.inl e.symm))).2; omega).trans (HB2.out.blk HQ1.out)
        obtain ⟨⟨z0, z1, z2, z3, z4⟩, _⟩ := cells5 hq3
        simp only [regSc, List.drop_succ_cons, List.drop_zero, acVSc, hV0, hV8]
        clear hV0 hV8 hown hg hv hS' hF' h03 hq3
        go_wp2_with fail
        go_loopw [4] (fun iv wr => iv = .int .i64 (0 : Int) ∧ Hid (∃ m', SeenI sb (s.1 ++ [n], s.2) m' wr ∧ Fr m w1 wr m')) (fun _ _ => 0)
        case atStart => exact ⟨rfl, Lib.hid ⟨_, HS'.out, HF'.out⟩⟩
        case round =>
          obtain ⟨rfl, HI⟩ := hrel
          obtain ⟨m9, hS9, hF9⟩ := HI.out
          have hq9 := (hF9.keep w.heap.size hlw fun h => by have := (HML.out _ h).2; omega).trans HQ1.out
          obtain ⟨⟨a0, a1, a2, a3, a4⟩, _⟩ := cells5 hq9
          have hl9 := (Array.getElem?_eq_some_iff.1 hq9).1
          have HS9 := Lib.hid hS9
          have HF9 := Lib.hid hF9
          clear hS9 hF9 hq9 HI
          go_wp2_with fail
          go_end0
          exact ⟨rfl, m9, by rw [addL_no HX.out]; exact HS9.out, (Fr.of_belS HB1.out).transS HF9.out⟩
      · have HX := Lib.hid hx
        have dx : decide (atF s.1 n < 0) = false := by rw [decide_eq_false_iff_not]; exact hx
        rw [dx]
        clear hx dx
        go_wp2_with fail
        go_loopw [4] (fun iv wr => iv = .int .i64 (0 : Int) ∧ Hid (∃ m', SeenI sb (s) m' wr ∧ Fr m w1 wr m')) (fun _ _ => 0)
        case atStart => exact ⟨rfl, Lib.hid ⟨_, HSI.out.bel HB2.out, hF2.out⟩⟩
        case round =>
          obtain ⟨rfl, HI⟩ := hrel
          obtain ⟨m9, hS9, hF9⟩ := HI.out
          have hq9 := (hF9.keep w.heap.size hlw fun h => by have := (HML.out _ h).2; omega).trans HQ1.out
          obtain ⟨⟨a0, a1, a2, a3, a4⟩, _⟩ := cells5 hq9
          have hl9 := (Array.getElem?_eq_some_iff.1 hq9).1
          have HS9 := Lib.hid hS9
          have HF9 := Lib.hid hF9
          clear hS9 hF9 hq9 HI
          go_wp2_with fail
          go_end0
          exact ⟨rfl, m9, by rw [addL_yes (by have := HX.out; omega)]; exact HS9.out, (Fr.of_belS HB1.out).transS HF9.out⟩
    · have d1 : (k == 1) = false := by simp [hk1]
      go_enter Tryd.func39, Tryd.ntmps39
      go_wp2_with fail
      rw [← hw1]
      clear hw1
      obtain ⟨⟨x0, x1, x2, x3, x4⟩, _⟩ := cells5 HQ1.out
      go_quiet (fail)
      go_wp2_with fail
      clear x0 x1 x2 x3 x4
      have hnode := HW.out
      have H72 : Hid (k = 7 → kids.len = 2) := Lib.hid fun h7 => by subst h7; simp [nodeB] at hnode; omega
      have hfin : vrun (.cons k n v c kids .nil) none s = seeTo k v c kids s len := by
        rw [HL.out, ← seeTo_all hnode s]
        congr 1
        unfold varN
        rw [if_neg hk1]
      have HFIN := Lib.hid hfin
      clear hfin hnode
      go_loopw [4] (fun iv wr => ∃ j : Nat, j ≤ len ∧ iv = .int .i64 (j : Int) ∧ Hid ((seeTo k v c kids s j).1.length ≤ s.1.length + kids.upto j ∧ (seeTo k v c kids s j).2.length ≤ s.2.length + 2 * kids.upto j) ∧ Hid (∃ m', SeenI sb (seeTo k v c kids s j) m' wr ∧ Fr m w1 wr m')) (fun iv _ => len - (intOf iv).toNat)
      case atStart => exact ⟨0, Nat.zero_le _, rfl, Lib.hid ⟨Nat.le_add_right _ _, Nat.le_add_right _ _⟩, Lib.hid ⟨m, HSI.out.bel ((Bel.refl w1).drewN _), Fr.of_belS ((Bel.refl w1).drewN _)⟩⟩
      case round =>
        obtain ⟨j, hj, rfl, HLN, HI⟩ := hrel
        obtain ⟨m9, hS9, hF9⟩ := HI.out
        have hq9 := (hF9.keep w.heap.size hlw fun h => by have := (HML.out _ h).2; omega).trans HQ1.out
        obtain ⟨⟨a0, a1, a2, a3, a4⟩, _⟩ := cells5 hq9
        have hl9 := (Array.getElem?_eq_some_iff.1 hq9).1
        have HQ9 := Lib.hid hq9
        have HS9 := Lib.hid hS9
        have HF9 := Lib.hid hF9
        clear hS9 hF9 hq9 HI
        by_cases hlt : j < len
        · have i1 : (0 : Int) ≤ (j : Int) := by omega
          have i2 : (j : Int) < (len : Int) := by omega
          have d9 : decide ((j : Int) < (len : Int)) = true := by rw [decide_eq_true_eq]; omega
          have hs1 := HS1.out
          obtain ⟨b, o, eA, hbo, hfo⟩ := (H.out.keep (w' := wr) fun i hi => (HF9.out.keep i (by have := (HOK.out i hi).1; omega) (HOK.out i hi).2).trans (HB1.out.block i (HOK.out i hi).1)).2.2 (by omega)
          subst eA
          obtain ⟨k', n', v', c', kids', A', cap', en, e1, e2, e3, e4, e5, hk'⟩ := FoAt.nth kids j b o hfo (by rw [← HL.out]; exact hlt)
          have hbl : b < wr.heap.size := by have h1 := (HOK.out b hbo).1; have h2 := HF9.out.size; omega
          have hup : kids.upto (j + 1) = kids.upto j + (1 + kids'.size) := by rw [Fo.upto_succ kids j (by rw [← HL.out]; exact hlt), en]; simp [Fo.size]
          have hul := Fo.upto_le kids (j + 1)
          have HUP := Lib.hid (And.intro hup hul)
          have HEN := Lib.hid en
          have hwk : (Fo.cons k' n' v' c' kids' .nil).well = true := by rw [← en]; exact well_nth kids j HWK.out
          have HIH : Hid (∀ (W : World) (mq : Nat → Prop) (sq : List Int × List Int), SeenI sb sq mq W → Fr m w1 W mq → (∀ i, Ok i → W.heap[i]? = wr.heap[i]?) → sq.1.length + kids'.size ≤ 50000000 → sq.2.length + 2 * kids'.size ≤ 50000000 → Calls Tryd.prog 39 #[.pointer (some ⟨sb, 0, none⟩), .agg #[.int .u8 k', .int .i64 n', .int .i64 v', .int .u8 c', .slice A' kids'.len cap']] W (SeeP sb (vrun (.cons k' n' v' c' kids' .nil) none sq) mq W)) := Lib.hid fun W mq sq h1 h2 h3 h4 h5 =>
            IH.out kids'.size (by have := HN.out; omega) k' n' v' c' A' kids'.len cap' kids' sq mq Ok W rfl h1 (hk'.keep h3) (fun i hi => ⟨by have h := (HOK.out i hi).1; have := h2.size; omega, fun h => by rcases h2.mn i h with h' | h'; exact (HOK.out i hi).2 h'; have h := (HOK.out i hi).1; omega⟩) hwk (by omega) h4 h5
          obtain ⟨sq, hsq⟩ : ∃ z, Hid (z = (if k = 7 ∧ j = 1 ∧ c = 0 then ((seeTo k v c kids s j).1, addL (seeTo k v c kids s j).2 v) else seeTo k v c kids s j)) := ⟨_, Lib.hid rfl⟩
          have HNX : Hid (seeTo k v c kids s (j + 1) = vrun (.cons k' n' v' c' kids' .nil) none sq) := Lib.hid (by rw [hsq.out]; exact seeTo_next (by rw [← HL.out]; exact hlt) en H72.out)
          obtain ⟨A3, q3, A4, q4, b0, b1, b2, b3, bm⟩ := HS9.out
          have HH9 := Lib.hid b0
          have HP1 := Lib.hid b1
          have HP2 := Lib.hid b2
          have HD9 := Lib.hid b3
          have HM9 := Lib.hid bm
          have hsb9 := (Array.getElem?_eq_some_iff.1 b0).1
          have hln := HLN.out
          clear b0 b1 b2 b3 bm hfo en hk' hwk hup hul
          have hcs : (k ≠ 7 ∨ j ≠ 1 ∨ c ≠ 0) ∨ (k = 7 ∧ j = 1 ∧ c = 0) := by omega
          rcases hcs with hcs | ⟨h7, hj1, hc0⟩
          · have hqq : sq = seeTo k v c kids s j := by rw [hsq.out, if_neg (by omega)]
            have hqn : sq.1.length ≤ (seeTo k v c kids s j).1.length ∧ sq.2.length ≤ (seeTo k v c kids s j).2.length + 1 := by rw [hqq]; exact ⟨Nat.le_refl _, Nat.le_succ _⟩
            have HQQ := Lib.hid hqq
            have HQN := Lib.hid hqn
            have hds : (k == 7) = false ∨ ((k == 7) = true ∧ ((j : Int) == 1) = false) ∨ ((k == 7) = true ∧ ((j : Int) == 1) = true ∧ (c == 0) = false) := by
              by_cases a : k = 7
              · by_cases b : j = 1
                · exact .inr (.inr ⟨by simp [a], by simp [b], by simp; omega⟩)
                · exact .inr (.inl ⟨by simp [a], by simp; omega⟩)
              · exact .inl (by simp [a])
            clear hqq hqn hcs
            rcases hds with d7 | ⟨d7, d8⟩ | ⟨d7, d8, d10⟩
            all_goals
              go_wp2_with fail
              go_quiet (fail)
              go_wp2_with fail
              refine (HIH.out _ m9 sq (by rw [HQQ.out]; exact HS9.out.bel ((Bel.refl wr).drewN _)) (HF9.out.transS (Fr.of_belS ((Bel.refl wr).drewN _))) (fun i hi => rfl) (by have h1 := HQN.out; have h2 := HUP.out; omega) (by have h1 := HQN.out; have h2 := HUP.out; omega)).mono ?_
              rintro e w5 ⟨rfl, m5, hS5, hF5⟩
              have HS5 := Lib.hid hS5
              have HF5 := Lib.hid ((HF9.out.transS (Fr.of_belS ((Bel.refl wr).drewN _))).transS hF5)
              clear hS5 hF5
              go_wp2_with fail
              go_roundw
              case rel =>
                refine ⟨j + 1, by omega, by go_num, Lib.hid ?_, Lib.hid ⟨m5, by rw [HNX.out]; exact HS5.out, HF5.out⟩⟩
                rw [HNX.out]
                have h1 := vrun_len (.cons k' n' v' c' kids' .nil) none sq
                have h2 := h1.2.2 rfl
                have h3 := HQN.out
                have h4 := HLN.out
                have h5 := HUP.out
                simp only [Fo.size] at h1 h2
                constructor <;> omega
              case measure => simp [intOf]; omega
          · subst h7 hj1 hc0
            have hqq : sq = ((seeTo 7 v 0 kids s 1).1, addL (seeTo 7 v 0 kids s 1).2 v) := by rw [hsq.out, if_pos ⟨rfl, rfl, rfl⟩]
            have hqn : sq.1.length ≤ (seeTo 7 v 0 kids s 1).1.length ∧ sq.2.length ≤ (seeTo 7 v 0 kids s 1).2.length + 1 := by rw [hqq]; exact ⟨Nat.le_refl _, addL_len _ _⟩
            have HQQ := Lib.hid hqq
            have HQN := Lib.hid hqn
            clear hqq hqn
            have hu1 := Fo.upto_le kids 1
            go_wp2_with fail
            refine regSb_any (id := 6) w.heap.size sb (seeTo 7 v 0 kids s 1).1.length q3 (seeTo 7 v 0 kids s 1).2.length q4 7 n v 0 (some ⟨b, o, none⟩) len cap A3 A4 (seeTo 7 v 0 kids s 1).2 _ _ _ _ _ _ _ _ _ _ _ _ _ _ _ _ _ _ _ _ _ _ _ _ _ _ _ _ _ _ _ _ _ _ _ _ _ _ _ _ _ _ _ _ _ _ _ _ _ _ _ _ _ _ _ _ _ _ _ _ _ _ _ _ _ _ _ _ _ _ _ _ _ _ _ _ _ wr HH9.out HQ9.out (fun W hW => rat_any A4 (seeTo 7 v 0 kids s 1).2.length q4 v (seeTo 7 v 0 kids s 1).2 W ((RI.of_own HP2.out).bel (((Bel.refl wr).drew).on hW)) (by omega)) _ ?_
            intro V w2 hb2 hv13 hv22
            have HB2 := Lib.hid (((Bel.refl wr).drew).on hb2)
            simp only [regSb, List.drop_succ_cons, List.drop_zero, acVSb, hv13, hv22]
            clear hb2 hv13 hv22
            have hs2 := HB2.out.size
            obtain ⟨⟨x0, x1, x2, x3, x4⟩, _⟩ := cells5 (HB2.out.blk HQ9.out)
            have hl3 : w.heap.size < w2.heap.size := by omega
            by_cases hx : atF (seeTo 7 v 0 kids s 1).2 v < 0
            · have HX := Lib.hid hx
              have dx : decide (atF (seeTo 7 v 0 kids s 1).2 v < 0) = true := by rw [decide_eq_true_eq]; exact hx
              rw [dx]
              clear hx dx
              go_wp2_with fail
              have HP2' := Lib.hid (owns_bel HP2.out HB2.out)
              refine regSd_any (id := 7) w.heap.size sb (seeTo 7 v 0 kids s 1).1.length q3 (seeTo 7 v 0 kids s 1).2.length q4 7 n v 0 (some ⟨b, o, none⟩) len cap A3 A4 w2.drew.heap.size _ _ _ _ _ _ _ _ _ _ _ _ _ _ _ _ _ _ _ _ _ _ _ _ _ _ _ _ _ _ _ _ _ _ _ _ _ _ _ _ _ _ _ _ _ _ _ _ _ _ _ _ _ _ _ _ _ _ _ _ _ _ _ _ _ _ _ _ _ _ _ _ _ _ _ _ _ _ w2 rfl ((seeTo 7 v 0 kids s 1).2.map (Value.int .i64)) HP2'.out (by omega) (by show sb + 1 ≤ w2.heap.size; omega) (HB2.out.blk HH9.out) (HB2.out.blk HQ9.out) _ ?_
              intro V' v' w3 hV0 hV9 ⟨hown, hg, hv⟩
              obtain ⟨A5, c5, rfl⟩ := own_form_n hown
              obtain ⟨h03, m6, hS6, hF6⟩ := seen_push2 (HB2.out.blk HH9.out) (owns_bel HP1.out HB2.out) HP2'.out HD9.out HM9.out hown ⟨hg.os, hg.tape, hg.output, hg.size, hg.block⟩ hv
              have hF6' := (HF9.out.transS (Fr.of_belS HB2.out)).transS hF6
              have HS6 : Hid (SeenI sb sq m6 (w3.setCell ⟨sb, 1, none⟩ (.slice A5 ((seeTo 7 v 0 kids s 1).2.length + 1) c5))) := Lib.hid (by rw [HQQ.out, addL_no HX.out]; exact hS6)
              have HF6 := Lib.hid hF6'
              have hc3 : w3.cell? ⟨sb, 1, none⟩ = some (.slice A4 (seeTo 7 v 0 kids s 1).2.length q4) ∧ w3.frozen? ⟨sb, 1, none⟩ = false := by simp [World.cell?, World.frozen?, h03]
              obtain ⟨y0, yf⟩ := hc3
              have hl4 := (Array.getElem?_eq_some_iff.1 h03).1
              have hkeep : ∀ i, i < w2.heap.size → i ≠ sb → ¬ m9 i → (w3.setCell ⟨sb, 1, none⟩ (.slice A5 ((seeTo 7 v 0 kids s 1).2.length + 1) c5)).heap[i]? = w2.heap[i]? := fun i h1 _ h3 => hF6.keep i h1 h3
              have hnm : ∀ i, i < w.heap.size + 1 → ¬ m i → ¬ m9 i := fun i h1 h2 h3 => by
                rcases HF9.out.mn i h3 with h | h
                · exact h2 h
                · omega
              have hokm : ∀ i, Ok i → ¬ m9 i := fun i hi => hnm i (by have := (HOK.out i hi).1; omega) (HOK.out i hi).2
              have hsm : m9 sb := by rw [HM9.out]; exact .inl rfl
              have HKP : Hid (∀ i, Ok i → (w3.setCell ⟨sb, 1, none⟩ (.slice A5 ((seeTo 7 v 0 kids s 1).2.length + 1) c5)).heap[i]? = wr.heap[i]?) := Lib.hid fun i hi => by
                have h1 := (HOK.out i hi).1
                have h2 := HF9.out.size
                exact (hkeep i (by omega) (fun e => hokm i hi (e ▸ hsm)) (hokm i hi)).trans (HB2.out.block i (by omega))
              have hwm : ¬ m9 w.heap.size := hnm _ (by omega) fun h => by have := (HML.out _ h).2; omega
              have hq3 : (w3.setCell ⟨sb, 1, none⟩ (.slice A5 ((seeTo 7 v 0 kids s 1).2.length + 1) c5)).heap[w.heap.size]? = some (.cells #[.int .u8 7, .int .i64 n, .int .i64 v, .int .u8 0, .slice (some ⟨b, o, none⟩) len cap] 27 (0, 0)) := (hkeep _ hl3 (fun e => hwm (e ▸ hsm)) hwm).trans (HB2.out.blk HQ9.out)
              have hcb : ∀ x, (w3.setCell ⟨sb, 1, none⟩ (.slice A5 ((seeTo 7 v 0 kids s 1).2.length + 1) c5)).cell? ⟨b, x, none⟩ = wr.cell? ⟨b, x, none⟩ := fun x => World.cell?_of_block (a := ⟨b, x, none⟩) (HKP.out b hbo)
              simp only [regSd, List.drop_succ_cons, List.drop_zero, acVSd, hV0, hV9]
              have hw3 : w2.heap.size ≤ w3.heap.size := hg.size
              have hszq : (w3.setCell ⟨sb, 1, none⟩ (.slice A5 ((seeTo 7 v 0 kids s 1).2.length + 1) c5)).heap.size = w3.heap.size := by simp [World.setCell]
              have hl9' : w.heap.size < (w3.setCell ⟨sb, 1, none⟩ (.slice A5 ((seeTo 7 v 0 kids s 1).2.length + 1) c5)).heap.size := (Array.getElem?_eq_some_iff.1 hq3).1
              have hne : sb ≠ w.heap.size := fun e => hwm (e ▸ hsm)
              have hneb : sb ≠ b := fun e => hokm b hbo (e ▸ hsm)
              have hq3' : w3.heap[w.heap.size]? = some (.cells #[.int .u8 7, .int .i64 n, .int .i64 v, .int .u8 0, .slice (some ⟨b, o, none⟩) len cap] 27 (0, 0)) := (heap_setCell_other _ _ _ _ (fun e => hne e.symm)).symm.trans hq3
              obtain ⟨⟨z0, z1, z2, z3, z4⟩, _⟩ := cells5 hq3'
              have hcb' : ∀ x, w3.cell? ⟨b, x, none⟩ = wr.cell? ⟨b, x, none⟩ := fun x => (World.cell?_setCell_far w3 ⟨sb, 1, none⟩ ⟨b, x, none⟩ _ hneb).symm.trans (hcb x)
              rw [← hcb' (o + 1 * 5)] at e1
              rw [← hcb' (o + 1 * 5 + 1)] at e2
              rw [← hcb' (o + 1 * 5 + 2)] at e3
              rw [← hcb' (o + 1 * 5 + 3)] at e4
              rw [← hcb' (o + 1 * 5 + 4)] at e5
              have hb3 : b < w3.heap.size := by omega
              have hl5 : w.heap.size < w3.heap.size := by omega
              have hne' : ¬ w.heap.size = sb := fun e => hne e.symm
              have hneb' : ¬ b = sb := fun e => hneb e.symm
              clear hV0 hV9 hown hg hv hS6 hF6 hF6' h03 hkeep hnm hokm hsm hwm hcb hcb' hq3 hq3' x0 x1 x2 x3 x4 a0 a1 a2 a3 a4
              go_wp2_with fail
              refine (HIH.out _ m6 sq HS6.out HF6.out HKP.out (by have h1 := HQN.out; have h2 := HUP.out; omega) (by have h1 := HQN.out; have h2 := HUP.out; omega)).mono ?_
              rintro e w5 ⟨rfl, m5, hS5, hF5⟩
              have HS5 := Lib.hid hS5
              have HF5 := Lib.hid (HF6.out.transS hF5)
              clear hS5 hF5
              go_wp2_with fail
              go_roundw
              case rel =>
                refine ⟨1 + 1, by omega, rfl, Lib.hid ?_, Lib.hid ⟨m5, by rw [HNX.out]; exact HS5.out, HF5.out⟩⟩
                rw [HNX.out]
                have h1 := vrun_len (.cons k' n' v' c' kids' .nil) none sq
                have h2 := h1.2.2 rfl
                have h3 := HQN.out
                have h4 := HLN.out
                have h5 := HUP.out
                simp only [Fo.size] at h1 h2
                constructor <;> omega
              case measure => simp [intOf]; omega
            · have HX := Lib.hid hx
              have dx : decide (atF (seeTo 7 v 0 kids s 1).2 v < 0) = false := by rw [decide_eq_false_iff_not]; exact hx
              rw [dx]
              clear hx dx
              have HKP : Hid (∀ i, Ok i → w2.heap[i]? = wr.heap[i]?) := Lib.hid fun i hi => HB2.out.block i (by have h1 := (HOK.out i hi).1; have h2 := HF9.out.size; omega)
              have HS6 : Hid (SeenI sb sq m9 w2) := Lib.hid (by rw [HQQ.out, addL_yes (by have := HX.out; omega)]; exact HS9.out.bel HB2.out)
              have HF6 : Hid (Fr m w1 w2 m9) := Lib.hid (HF9.out.transS (Fr.of_belS HB2.out))
              have hc2 := fun x => HB2.out.cell (p := ⟨b, x, none⟩) hbl
              rw [← hc2 (o + 1 * 5)] at e1
              rw [← hc2 (o + 1 * 5 + 1)] at e2
              rw [← hc2 (o + 1 * 5 + 2)] at e3
              rw [← hc2 (o + 1 * 5 + 3)] at e4
              rw [← hc2 (o + 1 * 5 + 4)] at e5
              have hb3 : b < w2.heap.size := by omega
              clear hc2
              go_wp2_with fail
              refine (HIH.out _ m9 sq HS6.out HF6.out HKP.out (by have h1 := HQN.out; have h2 := HUP.out; omega) (by have h1 := HQN.out; have h2 := HUP.out; omega)).mono ?_
              rintro e w5 ⟨rfl, m5, hS5, hF5⟩
              have HS5 := Lib.hid hS5
              have HF5 := Lib.hid (HF6.out.transS hF5)
              clear hS5 hF5
              go_wp2_with fail
              go_roundw
              case rel =>
                refine ⟨1 + 1, by omega, rfl, Lib.hid ?_, Lib.hid ⟨m5, by rw [HNX.out]; exact HS5.out, HF5.out⟩⟩
                rw [HNX.out]
                have h1 := vrun_len (.cons k' n' v' c' kids' .nil) none sq
                have h2 := h1.2.2 rfl
                have h3 := HQN.out
                have h4 := HLN.out
                have h5 := HUP.out
                simp only [Fo.size] at h1 h2
                constructor <;> omega
              case measure => simp [intOf]; omega
        · obtain rfl : len = j := by omega
          go_wp2_with fail
          go_end0
          exact ⟨rfl, m9, by rw [HFIN.out]; exact HS9.out, (Fr.of_belS HB1.out).transS HF9.out⟩
end Go.Proofs.YtblgligagngpfaaDoor.Mu
namespace Go.Proofs.YtblgligagngpfaaDoor.Mu
open Go.ChangeShapes Go.WideShapes Go.ChangeAt Go.RowKit Go.Shelf

attribute [local go_sem] Oper.semAt_some
set_option linter.unusedVariables false

/-- What the reference numbers anew is what the program does. -/
theorem ren_atF (f : Fo) : f.ren (atF f.varsF.1) (atF f.varsF.2) = f.canW.1 := by
  rw [canW_eq]
  refine ren_congr f (Fo.Vall.mono (fun x hx => ?_) (fun x hx => ?_) f (varsF_all f))
  · unfold atF; rw [if_pos hx]
  · unfold atF; rw [if_pos hx]
def RVarsP (T M : List Int) (w : World) (e : Ending) (w' : World) : Prop :=
  ∃ A1 c1 A2 c2, e = .returned (.agg #[.slice A1 T.length c1, .slice A2 M.length c2]) ∧ RI .i64 w' w'.heap.size A1 T.length T ∧ RI .i64 w' w'.heap.size A2 M.length M ∧ Bel w w'
set_option maxRecDepth 100000 in
set_option maxHeartbeats 2000000 in
theorem rvars_any (k n v c : Int) (A : Option Addr) (len cap : Nat) (kids : Fo) (w : World) (h : KidsAt w (Old w) A len cap kids) (hw : (Fo.cons k n v c kids .nil).well = true) (hsz : kids.size ≤ 1400000) :
    Calls Tryd.prog 14 #[.agg #[.int .u8 k, .int .i64 n, .int .i64 v, .int .u8 c, .slice A len cap]] w (RVarsP (Fo.cons k n v c kids .nil).varsF.1 (Fo.cons k n v c kids .nil).varsF.2 w) := by
  obtain ⟨w2, hw2⟩ : ∃ W, W = ((w.alloc (.cells #[.int .u8 k, .int .i64 n, .int .i64 v, .int .u8 c, .slice A len cap] 27)).alloc (.cells #[.slice none 0 0, .slice none 0 0] 46)).alloc (.cells #[.slice none 0 0, .slice none 0 0] 46) := ⟨_, rfl⟩
  have HB2 : Hid (Bel w w2) := Lib.hid (by rw [hw2]; exact (((Bel.refl w).alloc _).alloc _).alloc _)
  have HQ : Hid (w2.heap[w.heap.size]? = some (.cells #[.int .u8 k, .int .i64 n, .int .i64 v, .int .u8 c, .slice A len cap] 27 (0, 0)) ∧ w2.heap[w.heap.size + 1]? = some (.cells #[.slice none 0 0, .slice none 0 0] 46 (0, 0)) ∧ w2.heap[w.heap.size + 1 + 1]? = some (.cells #[.slice none 0 0, .slice none 0 0] 46 (0, 0))) := Lib.hid (by rw [hw2]; exact blk3 w _ _ _)
  have HS2 : Hid (w2.heap.size = w.heap.size + 3) := Lib.hid (by rw [hw2]; simp)
  have HSI : Hid (SeenI (w.heap.size + 1 + 1) ([], []) (fun j => j = w.heap.size + 1 + 1) w2) := Lib.hid ⟨none, 0, none, 0, HQ.out.2.2, World.ownsRow_nil _ _ _ _, World.ownsRow_nil _ _ _ _, fun j hj => by simp [Value.ownBlock] at hj, by funext j; simp [Value.ownBlock]⟩
  have HC := Lib.hid (rsee_any (w.heap.size + 1 + 1) kids.size k n v c A len cap kids ([], []) _ (Old w) w2 rfl HSI.out (h.keep fun j hj => HB2.out.block j hj) (fun j hj => ⟨Nat.lt_of_lt_of_le hj HB2.out.size, fun e => by have h : j < w.heap.size := hj; omega⟩) hw hsz (by simp; omega) (by simp; omega))
  rw [show vrun (.cons k n v c kids .nil) none ([], []) = (Fo.cons k n v c kids .nil).varsF from rfl] at HC
  obtain ⟨T, hT⟩ : ∃ T, T = (Fo.cons k n v c kids .nil).varsF.1 := ⟨_, rfl⟩
  obtain ⟨M, hM⟩ : ∃ M, M = (Fo.cons k n v c kids .nil).varsF.2 := ⟨_, rfl⟩
  rw [show (Fo.cons k n v c kids .nil).varsF = (T, M) by rw [hT, hM]] at HC
  rw [← hT, ← hM]
  clear h hw hT hM
  go_enter Tryd.func14, Tryd.ntmps14
  go_wp2_with fail
  rw [← hw2]
  clear hw2
  refine HC.out.mono ?_
  rintro e w3 ⟨rfl, m3, hS3, hF3⟩
  have HF3 := Lib.hid hF3
  obtain ⟨A1, c1, A2, c2, h0, h1, h2, h3, _⟩ := hS3
  have HO1 := Lib.hid h1
  have HO2 := Lib.hid h2
  obtain ⟨y0, y1⟩ := cells2 h0
  have hr3 := (hF3.keep (w.heap.size + 1) (by have := HS2.out; omega) (by omega)).trans HQ.out.2.1
  obtain ⟨z0, z1⟩ := cells2 hr3
  have zf : ∀ x, w3.frozen? ⟨w.heap.size + 1, x, none⟩ = false := fun x => by simp [World.frozen?, hr3]
  have hl1 := (Array.getElem?_eq_some_iff.1 h0).1
  have hl2 := (Array.getElem?_eq_some_iff.1 hr3).1
  clear hF3 h0 h1 h2 h3 hr3 HC
  go_wp2_with fail
  refine bodyPost_ret (v := .agg #[.slice A1 T.length c1, .slice A2 M.length c2]) (by simp [results, Tryd.results14, go_sem, z0, z1]) rfl ?_
  have g1 : w.heap.size + 1 ≠ w.heap.size + 1 + 1 := by omega
  have hn1 : (Value.slice A1 T.length c1).ownBlock ≠ some (w.heap.size + 1) := fun e => by have := (HO1.out.lt _ e).1; omega
  have hn2 : (Value.slice A2 M.length c2).ownBlock ≠ some (w.heap.size + 1) := fun e => by have := (HO2.out.lt _ e).1; omega
  have hb3 : Bel w w3 := ⟨HF3.out.os.trans HB2.out.os, HF3.out.tape.trans HB2.out.tape, HF3.out.output.trans HB2.out.output, Nat.le_trans HB2.out.size HF3.out.size, fun j hj => (HF3.out.keep j (Nat.lt_of_lt_of_le hj HB2.out.size) (by omega)).trans (HB2.out.block j hj)⟩
  exact ⟨A1, c1, A2, c2, rfl, RI.of_own (setW_row (setW_row HO1.out hn1) hn1), RI.of_own (setW_row (setW_row HO2.out hn2) hn2), (hb3.set_ (by show w.heap.size ≤ w.heap.size + 1; omega) _).set_ (by show w.heap.size ≤ w.heap.size + 1; omega) _⟩
set_option maxRecDepth 100000 in
set_option maxHeartbeats 2000000 in
theorem rcan_any (k n v c : Int) (A : Option Addr) (len cap : Nat) (kids : Fo) (w : World) (h : KidsAt w (Old w) A len cap kids) (hw : (Fo.cons k n v c kids .nil).well = true) (hsz : kids.size ≤ 1400000) (kx nx vx cx : Int) (kidsx : Fo) (hc : (Fo.cons k n v c kids .nil).canW.1 = .cons kx nx vx cx kidsx .nil) :
    Calls Tryd.prog 16 #[.agg #[.int .u8 k, .int .i64 n, .int .i64 v, .int .u8 c, .slice A len cap]] w (RtQ w.heap.size kx nx vx cx kidsx w) := by
  obtain ⟨w2, hw2⟩ : ∃ W, W = (w.alloc (.cells #[.int .u8 k, .int .i64 n, .int .i64 v, .int .u8 c, .slice A len cap] 27)).alloc (.cells #[.int .u8 0, .int .i64 0, .int .i64 0, .int .u8 0, .slice none 0 0] 27) := ⟨_, rfl⟩
  have HB2 : Hid (Bel w w2) := Lib.hid (by rw [hw2]; exact ((Bel.refl w).alloc _).alloc _)
  have HQ : Hid (w2.heap[w.heap.size]? = some (.cells #[.int .u8 k, .int .i64 n, .int .i64 v, .int .u8 c, .slice A len cap] 27 (0, 0)) ∧ w2.heap[w.heap.size + 1]? = some (.cells #[.int .u8 0, .int .i64 0, .int .i64 0, .int .u8 0, .slice none 0 0] 27 (0, 0))) := Lib.hid (by rw [hw2]; exact blk2 w _ _)
  have HS2 : Hid (w2.heap.size = w.heap.size + 2) := Lib.hid (by rw [hw2]; simp)
  have HV := Lib.hid (rvars_any k n v c A len cap kids w2 (h.bel HB2.out) hw hsz)
  obtain ⟨T, hT⟩ : ∃ T, T = (Fo.cons k n v c kids .nil).varsF.1 := ⟨_, rfl⟩
  obtain ⟨M, hM⟩ : ∃ M, M = (Fo.cons k n v c kids .nil).varsF.2 := ⟨_, rfl⟩
  have hlen := varsF_len (Fo.cons k n v c kids .nil)
  simp only [Fo.size] at hlen
  rw [← ren_atF] at hc
  rw [← hT, ← hM] at hc HV hlen
  have hc' : Fo.cons k (if k = 1 then atF T n else n) (if k = 7 ∧ c = 0 then atF M v else v) c (kids.ren (atF T) (atF M)) .nil = .cons kx nx vx cx kidsx .nil := hc
  injection hc' with q1 q2 q3 q4 q5 q6
  have HQ5 := Lib.hid (And.intro q1 (And.intro q2 (And.intro q3 (And.intro q4 q5))))
  have H := Lib.hid (h.bel HB2.out)
  clear h hw hT hM hc q1 q2 q3 q4 q5 q6
  go_enter Tryd.func16, Tryd.ntmps16
  go_wp2_with fail
  rw [← hw2]
  clear hw2
  refine HV.out.mono ?_
  rintro e w3 ⟨A1, c1, A2, c2, rfl, h1, h2, hb3⟩
  obtain ⟨w4, hw4⟩ : ∃ W, W = w3.alloc (.cells #[.slice A1 T.length c1, .slice A2 M.length c2] 46) := ⟨_, rfl⟩
  have HB34 : Hid (Bel w3 w4) := Lib.hid (by rw [hw4]; exact (Bel.refl w3).alloc _)
  have HB4 : Hid (Bel w2 w4) := Lib.hid (hb3.on HB34.out)
  have HSN : Hid (w4.heap[w3.heap.size]? = some (.cells #[.slice A1 T.length c1, .slice A2 M.length c2] 46 (0, 0))) := Lib.hid (by rw [hw4]; exact blk1 w3 _)
  have HC := Lib.hid (rcanon_any w4 w3.heap.size A1 T.length c1 T A2 M.length c2 M HSN.out (h1.bel HB34.out) (h2.bel HB34.out) (by omega) (by omega) kids.size k n v c A len cap kids w4 rfl (Bel.refl _) (H.out.bel HB4.out) hsz)
  rw [HQ5.out.2.1, HQ5.out.2.2.1, HQ5.out.2.2.2.2] at HC
  obtain ⟨⟨x0, x1, x2, x3, x4⟩, _⟩ := cells5 (HB4.out.blk HQ.out.1)
  have hl1 := (Array.getElem?_eq_some_iff.1 (HB4.out.blk HQ.out.1)).1
  rw [hw4] at x0 x1 x2 x3 x4 hl1
  clear h1 h2 hb3
  go_wp2_with fail
  rw [← hw4]
  clear hw4 x0 x1 x2 x3 x4 hl1
  refine HC.out.mono ?_
  rintro e w5 ⟨A5, c5, rfl, hk5, hb5⟩
  have HB5 := Lib.hid (HB4.out.on hb5)
  have HK5 := Lib.hid hk5
  have HZ := Lib.hid (HB5.out.blk HQ.out.2)
  obtain ⟨⟨z0, z1, z2, z3, z4⟩, zf⟩ := cells5 HZ.out
  have hl2 := (Array.getElem?_eq_some_iff.1 HZ.out).1
  have hs45 := hb5.size
  clear hk5 hb5
  go_wp2_with fail
  refine bodyPost_ret (v := .agg #[.int .u8 k, .int .i64 nx, .int .i64 vx, .int .u8 c, .slice A5 kidsx.len c5]) (by simp [results, Tryd.results16, go_sem, z0, z1, z2, z3, z4]) rfl ?_
  have hb := HB2.out.on HB5.out
  have hs4 := HB4.out.size
  have hs2 := HS2.out
  rw [← HQ5.out.1, ← HQ5.out.2.2.2.1]
  refine ⟨A5, c5, rfl, ((HK5.out.keep fun i hi => set5_other fun e => ?_).wide fun i hi => ?_), bel_set5 hb (Nat.le_succ _)⟩
  · rcases hi with h | h
    · exact absurd h.1 (by omega)
    · have := h.1
      omega
  · rcases hi with h | h
    · exact absurd h.1 (by omega)
    · have h1 := h.1
      exact .inr ⟨by omega, by rw [set5_size]; exact h.2⟩
end Go.Proofs.YtblgligagngpfaaDoor.Mu

