/-
  The library's replacer of bytes, built: walked.
-/
import Derived.Test.YteockaolmobmeaaGreatDoorLexWord
import Derived.Deep.DeepCutAuto
import Derived.Deep.LoopGhost
import Derived.Deep.WholeRow
import Derived.Lib.ConvBytes
namespace Go.Proofs.YteockaolmobmeaaGreatDoor.Mu
open Go.RowKit Go.Shelf
set_option maxRecDepth 100000

/-- What is replaced, and by what, in turn. -/
def oldnew : List (List UInt8) := [[10], [92, 110], [9], [92, 116], [34], [92, 34], [92], [92, 92]]
/-- What is replaced, by its byte. -/
def prs : List (Nat × List UInt8) := [(10, [92, 110]), (9, [92, 116]), (34, [92, 34]), (92, [92, 92])]
def escT (j u : Nat) : Option (List UInt8) := ((prs.drop j).find? fun p => p.1 = u).map (·.2)
theorem on_at : ∀ j, j < 4 → ∃ (o a b : UInt8), oldnew[2 * j]? = some [o] ∧ oldnew[2 * j + 1]? = some [a, b] ∧ prs[j]? = some (o.toNat, [a, b]) ∧ escT (j + 1) o.toNat = none
  | 0, _ => ⟨10, 92, 110, rfl, rfl, rfl, by decide⟩
  | 1, _ => ⟨9, 92, 116, rfl, rfl, rfl, by decide⟩
  | 2, _ => ⟨34, 92, 34, rfl, rfl, rfl, by decide⟩
  | 3, _ => ⟨92, 92, 92, rfl, rfl, rfl, by decide⟩
  | j + 4, h => by omega
theorem cells5r {w : World} {g : Nat} {t : TypeId} {x0 x1 x2 x3 x4 : Value} (h : w.heap[g]? = some (.cells #[x0, x1, x2, x3, x4] t (0, 0))) :
    (w.cell? ⟨g, 0, none⟩ = some x0 ∧ w.cell? ⟨g, 1, none⟩ = some x1 ∧ w.cell? ⟨g, 2, none⟩ = some x2 ∧ w.cell? ⟨g, 3, none⟩ = some x3 ∧ w.cell? ⟨g, 4, none⟩ = some x4) ∧
      w.frozen? ⟨g, 0, none⟩ = false ∧ w.frozen? ⟨g, 1, none⟩ = false ∧ w.frozen? ⟨g, 2, none⟩ = false ∧ w.frozen? ⟨g, 3, none⟩ = false ∧ w.frozen? ⟨g, 4, none⟩ = false := by
  simp [World.cell?, World.frozen?, h]
theorem row_neL {w : World} {B s : Nat} {e T : TypeId} {v : Value} {n : Nat} {xs : List Value} {b : Nat} {cs : Array Value} {fr : Nat × Nat} (hown : w.ownsRow B e s v n xs) (hb : w.heap[b]? = some (.cells cs T fr)) (hTe : T ≠ e) : v.ownBlock ≠ some b := by
  rcases hown.2 with ⟨rfl, _⟩ | ⟨g, cap, cur, rfl, _, hg, _⟩
  · simp [Value.ownBlock]
  · intro h
    simp only [Value.ownBlock, Option.some.injEq] at h
    subst h
    rw [hg] at hb
    simp only [Option.some.injEq, Obj.cells.injEq] at hb
    exact hTe hb.2.1.symm
theorem row_keepL {w w' : World} {B s : Nat} {e : TypeId} {v : Value} {n : Nat} {xs : List Value} (h : w.ownsRow B e s v n xs) (hk : ∀ j, v.ownBlock = some j → w'.heap[j]? = w.heap[j]?) : w'.ownsRow B e s v n xs := by
  refine ⟨h.1, ?_⟩
  rcases h.2 with h0 | ⟨g, cap, cur, rfl, hb, hg, r⟩
  · exact .inl h0
  · exact .inr ⟨g, cap, cur, rfl, hb, (hk g rfl).trans hg, r⟩
/-- The replacer's table, from the j-th entry on. -/
structure Tab (w : World) (g : Nat) (S : Value) (j : Nat) : Prop where
  ex : ∃ C : Array Value, w.heap[g]? = some (.cells C 159 (0, 0)) ∧ C.size = 257 ∧ C[256]? = some S ∧
    ∀ u, u < 256 → ((escT j u = none → C[u]? = some (.slice none 0 0)) ∧ ∀ bs, escT j u = some bs → ∃ bk ck Cb fr, C[u]? = some (.slice (some ⟨bk, 0, none⟩) bs.length ck) ∧ w.heap[bk]? = some (.cells Cb 5 fr) ∧ ∀ q x, bs[q]? = some x → w.cell? ⟨bk, q, none⟩ = some (.int .u8 x.toNat))
theorem nil_eq (A : Option Addr) (n c : Nat) (w : World) : Sem.run Tryz.prog (binOp .eql 40 (.slice A n c) (.slice none 0 0)) w = .ok (.bool A.isNone) w := by
  cases A <;> rfl
/-- The bytes that are replaced, as strings, from the last one on. -/
def tr (j : Nat) : List (List UInt8) := (prs.drop j).reverse.map fun p => [UInt8.ofNat p.1]
theorem tr_step {j : Nat} {o : UInt8} {bs : List UInt8} (h : prs[j]? = some (o.toNat, bs)) : tr j = tr (j + 1) ++ [[o]] := by
  obtain ⟨hl, e⟩ := List.getElem?_eq_some_iff.1 h
  unfold tr
  rw [List.drop_eq_getElem_cons hl, e]
  simp
theorem esc_step {j : Nat} {o : UInt8} {bs : List UInt8} (h : prs[j]? = some (o.toNat, bs)) (u : Nat) : escT j u = if o.toNat = u then some bs else escT (j + 1) u := by
  obtain ⟨hl, e⟩ := List.getElem?_eq_some_iff.1 h
  unfold escT
  rw [List.drop_eq_getElem_cons hl, e, List.find?_cons]
  by_cases hu : o.toNat = u
  · simp [hu]
  · simp [hu]
theorem wp_absB {P : Program} {c : Code} {Q : Exit → Act → World → Prop} {a : Act} {w : World} (h : ∀ W, W = w → c.wp P Q a W) : c.wp P Q a w := h w rfl
theorem info_str' : (Tryz.prog.info? 9).map (fun i => (i.zero, i.size, i.bytes)) = some (some (.string ⟨#[]⟩), 1, 16) := by kernel_rfl
theorem mk_s4 (base : Nat) (W : World) (hb : base ≤ W.heap.size) : ∃ w', (Instr.makeSlice 24 (.int .i64 0) (.int .i64 4)).run Tryz.prog W = .ok (.slice (some ⟨W.heap.size, 0, none⟩) 0 4) w' ∧ w'.ownsRow base 9 1 (.slice (some ⟨W.heap.size, 0, none⟩) 0 4) 0 [] ∧ Bel W w' := by
  obtain ⟨i0, hi0, hz0, hz1, hz2⟩ := info_parts info_str'
  obtain ⟨w', h1, h2, h3⟩ := run_make_own (P := Tryz.prog) W base 24 9 i0 (.string ⟨#[]⟩) 1 Tryz.underlying24 hi0 hz0 hz1 .i64 .i64 4 (by rw [hz2]; decide) (by unfold maxLen; decide) hb
  exact ⟨w', h1, h2, Below.grown (Bel.refl W) h3 (Nat.le_refl _) (fun x hx => by cases hx)⟩
theorem zc_one : Tryz.zeroCells159.all (·.oneCell') = true := by kernel_rfl
theorem zc_size : Tryz.zeroCells159.size = 257 := by kernel_rfl
theorem zc_list : Tryz.zeroCells159.toList = List.replicate 257 (.slice none 0 0) := by kernel_rfl
theorem zc_info : (Tryz.prog.info? 159).map (·.size) = some 257 := by kernel_rfl
/-- The replacer's cells, its list of what is replaced being V. -/
theorem rep_store (V : Value) (hV : V.oneCell' = true) (w : World) : ∃ C : Array Value, C.toList = (List.replicate 256 (.slice none 0 0)) ++ [V] ∧ Sem.run Tryz.prog (storeCells ⟨w.heap.size, 0, none⟩ (Tryz.zeroCells159.toList.set 256 V)) (w.alloc (.cells Tryz.zeroCells159 159)) = .ok () (w.alloc (.cells C 159)) := by
  obtain ⟨C, hC⟩ : ∃ C : Array Value, C = (Tryz.zeroCells159.toList.set 256 V).toArray := ⟨_, rfl⟩
  have hl : C.toList = Tryz.zeroCells159.toList.set 256 V := by rw [hC]
  have hs : C.size = 257 := by rw [hC, List.size_toArray, List.length_set, Array.length_toList]; exact zc_size
  refine ⟨C, ?_, ?_⟩
  · rw [hl, zc_list, show List.replicate 257 (Value.slice none 0 0) = List.replicate 256 (.slice none 0 0) ++ [.slice none 0 0] by rfl, List.set_append_right _ _ (by simp)]
    simp
  · have := run_storeCells_new (P := Tryz.prog) w 159 Tryz.zeroCells159 C (by rw [hs]; exact zc_info) (by rw [hs]; exact zc_size) (by
      rw [Array.all_eq_true_iff_forall_mem]
      intro x hx
      have hx2 : x ∈ Tryz.zeroCells159.toList.set 256 V := by rw [← hl]; simpa using hx
      rcases List.mem_or_eq_of_mem_set hx2 with h | h
      · exact (Array.all_eq_true_iff_forall_mem.1 zc_one) x (by simpa using h)
      · rw [h]; exact hV)
    rw [hl] at this
    exact this
theorem bw_bel (w : World) (e : TypeId) (s : ByteArray) : Bel w (Lib.bytesWorld w e s) :=
  ⟨rfl, rfl, rfl, by rw [Lib.bytesWorld_size]; omega, fun k hk => Lib.bytesWorld_at_old w e s k hk⟩
theorem tab_next {wr W7 : World} {g j bk ck : Nat} {o a b' : UInt8} {S' : Value} {C2 Cn : Array Value} {frn : Nat × Nat} (hj : prs[j]? = some (o.toNat, [a, b'])) (hCs : C2.size = 257)
    (hCu : ∀ u, u < 256 → ((escT (j + 1) u = none → C2[u]? = some (.slice none 0 0)) ∧ ∀ bs, escT (j + 1) u = some bs → ∃ bk ck Cb fr, C2[u]? = some (.slice (some ⟨bk, 0, none⟩) bs.length ck) ∧ wr.heap[bk]? = some (.cells Cb 5 fr) ∧ ∀ q x, bs[q]? = some x → wr.cell? ⟨bk, q, none⟩ = some (.int .u8 x.toNat)))
    (h5 : W7.heap[g]? = some (.cells (C2.setIfInBounds 256 S') 159 (0, 0)))
    (hold : ∀ (x : Nat) (Cb : Array Value) (fr : Nat × Nat), wr.heap[x]? = some (.cells Cb 5 fr) → W7.heap[x]? = some (.cells Cb 5 fr))
    (hnew : W7.heap[bk]? = some (Obj.cells Cn 5 frn)) (hc : ∀ q x, [a, b'][q]? = some x → W7.cell? ⟨bk, q, none⟩ = some (.int .u8 x.toNat)) :
    Tab (W7.setCell ⟨g, o.toNat, none⟩ (.slice (some ⟨bk, 0, none⟩) 2 ck)) g S' j := by
  have ho := o.toNat_lt
  have hne : ∀ (x : Nat) (Cb : Array Value) (fr : Nat × Nat), W7.heap[x]? = some (.cells Cb 5 fr) → x ≠ g := fun x Cb fr hx e => by
    rw [e, h5] at hx
    simp only [Option.some.injEq, Obj.cells.injEq] at hx
    exact absurd hx.2.1 (by decide)
  have hblk : ∀ (x : Nat) (Cb : Array Value) (fr : Nat × Nat), W7.heap[x]? = some (.cells Cb 5 fr) → (W7.setCell ⟨g, o.toNat, none⟩ (.slice (some ⟨bk, 0, none⟩) 2 ck)).heap[x]? = some (.cells Cb 5 fr) := fun x Cb fr hx => by
    rw [Below.heap_setCell _ _ _ _ (hne x Cb fr hx)]; exact hx
  refine ⟨(C2.setIfInBounds 256 S').setIfInBounds o.toNat (.slice (some ⟨bk, 0, none⟩) 2 ck), ?_, by simpa using hCs, ?_, fun u hu => ?_⟩
  · simp [World.setCell, Array.getElem?_modify, h5]
  · rw [Array.getElem?_setIfInBounds_ne (by omega), Array.getElem?_setIfInBounds_self_of_lt (by omega)]
  rw [esc_step hj u]
  by_cases hou : o.toNat = u
  · rw [if_pos hou]
    refine ⟨fun h => (by cases h), fun bs hbs => ?_⟩
    injection hbs with hbs
    subst hbs
    refine ⟨bk, ck, Cn, frn, ?_, hblk bk Cn frn hnew, fun q x hq => ?_⟩
    · rw [← hou, Array.getElem?_setIfInBounds_self_of_lt (by simp; omega)]; rfl
    · rw [← hc q x hq]
      exact World.cell?_of_block (a := ⟨bk, q, none⟩) ((hblk bk Cn frn hnew).trans hnew.symm)
  · rw [if_neg hou]
    have e1 : ((C2.setIfInBounds 256 S').setIfInBounds o.toNat (.slice (some ⟨bk, 0, none⟩) 2 ck))[u]? = C2[u]? := by
      rw [Array.getElem?_setIfInBounds_ne hou, Array.getElem?_setIfInBounds_ne (by omega)]
    rw [e1]
    refine ⟨(hCu u hu).1, fun bs hbs => ?_⟩
    obtain ⟨x, cx, Cb, fr, h1, h2, h3⟩ := (hCu u hu).2 bs hbs
    refine ⟨x, cx, Cb, fr, h1, hblk x Cb fr (hold x Cb fr h2), fun q y hq => ?_⟩
    rw [← h3 q y hq]
    exact World.cell?_of_block (a := ⟨x, q, none⟩) ((hblk x Cb fr (hold x Cb fr h2)).trans h2.symm)
set_option maxHeartbeats 8000000 in
theorem build_any {b : Nat} {A : Option Addr} {cp : Nat} (w : World) (hb : w.heap[b]? = some (.cells #[.int .u32 0, .int .i32 1, .int .u32 0, .nilIface, .slice A 8 cp] 117 (0, 0))) (hr : RL w w.heap.size A 8 oldnew) :
    Calls Tryz.prog 84 #[.pointer (some ⟨b, 0, none⟩)] w fun e w' => ∃ (g : Nat) (A4 : Option Addr) (c4 : Nat), e = .returned (.iface 160 (.pointer (some ⟨g, 0, none⟩))) ∧ w.heap.size ≤ g ∧ Tab w' g (.slice A4 4 c4) 0 ∧ w'.ownsRow w.heap.size 9 1 (.slice A4 4 c4) 4 (strs (tr 0)) ∧ Bel w w' := by
  obtain ⟨-, hr2⟩ := hr
  obtain ⟨ba, oa, rfl, hba, hcc⟩ := hr2 (by omega)
  have HC := Lib.hid hcc
  have hcell : ∀ j, j < 4 → ∃ (o a b : UInt8), (prs[j]? = some (o.toNat, [a, b]) ∧ escT (j + 1) o.toNat = none) ∧ w.cell? ⟨ba, oa + 2 * j, none⟩ = some (.string ⟨#[o]⟩) ∧ w.cell? ⟨ba, oa + (2 * j + 1), none⟩ = some (.string ⟨#[a, b]⟩) := fun j hj => by
    obtain ⟨o, a, b, h1, h2, h3⟩ := on_at j hj
    exact ⟨o, a, b, h3, hcc _ _ h1, hcc _ _ h2⟩
  have HCE := Lib.hid hcell
  have H := Lib.hid hb
  have hlt := (Array.getElem?_eq_some_iff.1 hb).1
  obtain ⟨⟨c0, c1, c2, c3, c4⟩, f0, f1, f2, f3, f4⟩ := cells5r hb
  clear hcc hcell hr2 hb
  go_enter Tryz.func84, Tryz.ntmps84
  go_wp2_with fail
  go_loop [4, 5] (fun v i => ∃ j : Nat, j ≤ 4 ∧ i = .int .i64 (2 * (j : Int)) ∧ v = .bool (decide (j = 0))) (fun _ i => 8 - (intOf i).toNat)
  case atStart => exact ⟨0, by omega, rfl, rfl⟩
  case round =>
    obtain ⟨j, hj, rfl, rfl⟩ := hrel
    by_cases hj4 : j < 4
    · obtain ⟨o, a, b', -, k1, k2⟩ := HCE.out j hj4
      obtain ⟨q, hq⟩ : ∃ q, q = 2 * j := ⟨_, rfl⟩
      have hq2 : 2 * (j : Int) = (q : Int) := by omega
      rw [← hq] at k1 k2
      rw [hq2]
      have hq7 : q + 1 < 8 := by omega
      have hq8 : q < 8 := by omega
      have HQ := Lib.hid hq
      clear hq hq2
      go_wp2
      all_goals
        refine ⟨⟨j + 1, by omega, by have := HQ.out; congr 1; omega, by simp⟩, ?_⟩
        simp [intOf]; omega
    · obtain rfl : j = 4 := by omega
      obtain ⟨w1, hmk, ho1, hb1⟩ := mk_s4 w.heap.size w (Nat.le_refl _)
      have HO1 := Lib.hid ho1
      have HB1 := Lib.hid hb1
      clear ho1 hb1
      obtain ⟨C, hC, hst⟩ := rep_store (.slice (some ⟨w.heap.size, 0, none⟩) 0 4) rfl w1
      have HCL := Lib.hid hC
      clear hC
      go_wp2_with fail
      have hT0 : Tab (w1.alloc (.cells C 159)) w1.heap.size (.slice (some ⟨w.heap.size, 0, none⟩) 0 4) 4 := by
        have hl := congrArg List.length HCL.out
        refine ⟨C, blk1 w1 _, by simpa using hl, ?_, fun u hu => ⟨fun _ => ?_, fun bs hbs => ?_⟩⟩
        · rw [← Array.getElem?_toList, HCL.out, List.getElem?_append_right (by simp)]; simp
        · rw [← Array.getElem?_toList, HCL.out, List.getElem?_append_left (by simpa using hu), List.getElem?_replicate, if_pos hu]
        · simp [escT, prs] at hbs
      have HT0 := Lib.hid hT0
      have hw1 : w.heap.size < w1.heap.size := by
        rcases HO1.out.2 with ⟨h, _⟩ | ⟨g0, cap0, cur, hv, _, h0, _⟩
        · cases h
        · injection hv with hv _ _
          injection hv with hv
          injection hv with hv _ _
          rw [hv]; exact (Array.getElem?_eq_some_iff.1 h0).1
      obtain ⟨g, hg⟩ : ∃ g, g = w1.heap.size := ⟨_, rfl⟩
      rw [← hg] at HT0 hw1 ⊢
      have HG := Lib.hid hg
      clear hT0 hg
      go_loopg [12] 5 (fun gk v wr => ∃ (j m : Nat) (A4 : Option Addr) (c4 : Nat), v = .int .i64 (2 * (j : Int) - 2) ∧ Hid (j ≤ 4 ∧ j < gk) ∧ Hid (Tab wr g (.slice A4 m c4) j) ∧ Hid (wr.ownsRow w.heap.size 9 1 (.slice A4 m c4) m (strs (tr j))) ∧ Hid (Bel w wr))
      case atStart => exact ⟨4, 0, _, 4, by simp, Lib.hid ⟨by omega, by omega⟩, HT0, Lib.hid (owns_bel HO1.out ((Bel.refl _).alloc _)), Lib.hid (HB1.out.alloc _)⟩
      case round =>
        obtain ⟨j, m, A4, c4, rfl, HJ, HT, HO, HB⟩ := hrel
        have hjj := HJ.out
        by_cases hj0 : j = 0
        · subst hj0
          have hm0 : m = 4 := by
            have h1 := HO.out.1
            rw [strs_len] at h1
            have h2 : (tr 0).length = 4 := by decide
            omega
          subst hm0
          go_wp2
          go_ret
          exact ⟨g, A4, c4, rfl, by omega, HT.out, HO.out, HB.out⟩
        · obtain ⟨o, a, b', ⟨hp, he⟩, k1, k2⟩ := HCE.out (j - 1) (by omega)
          obtain ⟨q, hq⟩ : ∃ q, q = 2 * (j - 1) := ⟨_, rfl⟩
          have hq2 : 2 * (j : Int) - 2 = (q : Int) := by omega
          rw [← hq] at k1 k2
          rw [hq2]
          have hq8 : q < 8 := by omega
          have hq7 : q + 1 < 8 := by omega
          have k1' := (HB.out.cell (p := ⟨ba, oa + q, none⟩) hba).trans k1
          have k2' := (HB.out.cell (p := ⟨ba, oa + (q + 1), none⟩) hba).trans k2
          obtain ⟨C2, hC2, hCs, hC256, hCu⟩ := HT.out.ex
          have hCo := (hCu o.toNat o.toNat_lt).1 (by rw [show j = j - 1 + 1 by omega]; exact he)
          have HC2 := Lib.hid hC2
          have H256 := Lib.hid hC256
          have HCO := Lib.hid hCo
          have HCU := Lib.hid hCu
          have HCS := Lib.hid hCs
          have HP := Lib.hid hp
          have HQ := Lib.hid hq
          have ho8 : o.toNat < 256 := o.toNat_lt
          have m1 : wr.cell? ⟨g, o.toNat, none⟩ = some (.slice none 0 0) := by simp [World.cell?, hC2, hCo]
          have m2 : wr.cell? ⟨g, 256, none⟩ = some (.slice A4 m c4) := by simp [World.cell?, hC2, hC256]
          have n1 : wr.frozen? ⟨g, o.toNat, none⟩ = false := by simp [World.frozen?, hC2]
          have n2 : wr.frozen? ⟨g, 256, none⟩ = false := by simp [World.frozen?, hC2]
          clear hC2 hp he hq hq2 k1 k2 hCo hC256 hCu hCs
          have bg : ∀ (o : UInt8) (h : 0 < (⟨#[o]⟩ : ByteArray).size), (⟨#[o]⟩ : ByteArray)[0]'h = o := fun _ _ => rfl
          go_upto_region 31 with fail
          have hbo := fun w => nil_eq none 0 0 w
          simp only [Option.isNone] at hbo
          go_upto_region 32 with fail
          go_upto_region 33 with fail
          have hcv : Sem.run Tryz.prog (convert 40 9 (.slice (some ⟨wr.heap.size, 0, none⟩) 1 1)) (wr.alloc (.cells #[.int .u8 (o.toNat : Int)] 5)) = .ok (.string ⟨#[o]⟩) (wr.alloc (.cells #[.int .u8 (o.toNat : Int)] 5)) := by
            have := bytes_str (w := wr.alloc (.cells #[.int .u8 (o.toNat : Int)] 5)) (g := wr.heap.size) (t := 5) [(o.toNat : Int)] (blk1 wr _) 1 rfl 1
            simpa using this
          have hm4 : m ≤ 1000000000 := by
            have h1 := HO.out.1
            rw [strs_len] at h1
            have h2 : (tr j).length ≤ 4 := by unfold tr; simp [prs]
            omega
          have hbb := HB.out.size
          go_upto_region 34 with (at_builtin; refine wpList_append_one rfl _ _ 24 rfl w.heap.size 9 _ 1 16 Tryz.underlying24 info_str' rfl (by decide) (by decide) A4 m c4 _ rfl ((HO.out.alloc _).alloc _) (wr.heap.size + 1) [.string ⟨#[o]⟩] rfl rfl (by intro q u hu; match q, hu with | 0, hu => (simp at hu; subst hu; simp)) (by simp [Value.oneCell']) hm4 (by simp; omega) ?_; intro A5 c5 w5 hown5 hg5; (have hne5 := row_neL HO.out HC2.out (by decide)); (have hc5 := (hg5.block g (by simp; have := (Array.getElem?_eq_some_iff.1 HC2.out).1; omega) (fun e => hne5 e.symm)).trans ((((Bel.refl wr).alloc _).alloc _).blk HC2.out)); (have HC5 := Lib.hid hc5); (have m5 : w5.cell? ⟨g, 256, none⟩ = some (.slice A4 m c4) := by simp [World.cell?, HC5.out, H256.out]); (have n5 : w5.frozen? ⟨g, 256, none⟩ = false := by simp [World.frozen?, HC5.out]); (have HO5 := Lib.hid hown5); (have HG5 := Lib.hid hg5); clear hown5 hg5 hne5 hc5)
          refine wp_absB ?_
          intro W6 hW6
          have h6 : W6.heap[g]? = some (.cells (C2.setIfInBounds 256 (.slice A5 (m + 1) c5)) 159 (0, 0)) := by rw [hW6]; simp [World.setCell, Array.getElem?_modify, HC5.out]
          have hg6 : g < W6.heap.size := (Array.getElem?_eq_some_iff.1 h6).1
          obtain ⟨W7, hW7⟩ : ∃ W7, W7 = Lib.bytesWorld W6 5 ⟨#[a, b']⟩ := ⟨_, rfl⟩
          have hcv2 := Lib.run_convert_string_bytes (P := Tryz.prog) W6 9 40 5 ⟨#[a, b']⟩ Tryz.underlying9 Tryz.underlying40 Tryz.underlying5
          rw [← hW7] at hcv2
          obtain ⟨ck, hck⟩ : ∃ ck, ck = grownCap W6 (⟨#[a, b']⟩ : ByteArray).size 0 5 := ⟨_, rfl⟩
          rw [← hck] at hcv2
          have hz2 : (⟨#[a, b']⟩ : ByteArray).size = 2 := rfl
          rw [hz2] at hcv2
          obtain ⟨bk, hbk⟩ : ∃ bk, bk = W6.heap.size := ⟨_, rfl⟩
          rw [← hbk] at hcv2
          have h7 : W7.heap[g]? = some (.cells (C2.setIfInBounds 256 (.slice A5 (m + 1) c5)) 159 (0, 0)) := by rw [hW7, Lib.bytesWorld_at_old _ _ _ _ hg6]; exact h6
          have m7 : W7.cell? ⟨g, o.toNat, none⟩ = some (.slice none 0 0) := by
            unfold World.cell?
            rw [h7]
            show (C2.setIfInBounds 256 _)[o.toNat]? = _
            rw [Array.getElem?_setIfInBounds_ne (by omega)]; exact HCO.out
          have n7 : W7.frozen? ⟨g, o.toNat, none⟩ = false := by simp [World.frozen?, h7]
          have hlt7 : g < W7.heap.size := (Array.getElem?_eq_some_iff.1 h7).1
          have hnew : W7.heap[bk]? = some (.cells (Lib.bytesCells W6 5 ⟨#[a, b']⟩) 5 ((Lib.bytesCells W6 5 ⟨#[a, b']⟩).size, (Lib.bytesCells W6 5 ⟨#[a, b']⟩).size + 1)) := by rw [hW7, hbk]; exact Lib.bytesWorld_at_new _ _ _
          have hcn : ∀ q x, [a, b'][q]? = some x → W7.cell? ⟨bk, q, none⟩ = some (.int .u8 x.toNat) := fun q x hq => by
            have hq2 : q < 2 := (List.getElem?_eq_some_iff.1 hq).1
            rw [hW7, hbk, Lib.bytesWorld_cell W6 5 ⟨#[a, b']⟩ q (by rw [hz2]; exact hq2)]
            congr 3
            show ([a, b'].getD q 0).toNat = x.toNat
            rw [List.getD_eq_getElem?_getD, hq]; rfl
          have hold : ∀ (x : Nat) (Cb : Array Value) (fr : Nat × Nat), wr.heap[x]? = some (.cells Cb 5 fr) → W7.heap[x]? = some (.cells Cb 5 fr) := fun x Cb fr hx => by
            have hxl := (Array.getElem?_eq_some_iff.1 hx).1
            have hxg : x ≠ g := fun e => by
              rw [e, HC2.out] at hx
              simp only [Option.some.injEq, Obj.cells.injEq] at hx
              exact absurd hx.2.1 (by decide)
            have h5 : w5.heap[x]? = some (.cells Cb 5 fr) := (HG5.out.block x (by simp; omega) (fun e => row_neL HO.out hx (by decide) e.symm)).trans ((((Bel.refl wr).alloc _).alloc _).blk hx)
            have h6x : W6.heap[x]? = some (.cells Cb 5 fr) := by rw [hW6, Below.heap_setCell _ _ _ _ hxg]; exact h5
            rw [hW7, Lib.bytesWorld_at_old _ _ _ _ (Array.getElem?_eq_some_iff.1 h6x).1]; exact h6x
          have htab := tab_next (ck := ck) HP.out HCS.out (by have := HCU.out; rw [show j - 1 + 1 = j by omega]; exact this) h7 hold hnew hcn
          have hb6 : Bel w W6 := by
            rw [hW6]
            exact Below.setCell (Below.grown ((HB.out.alloc _).alloc _) HG5.out (by simp; omega) (fun k hk => (HO.out.lt k hk).1)) (p := ⟨g, 256, none⟩) (by show w.heap.size ≤ g; omega) _
          have hb7 : Bel w W7 := by rw [hW7]; exact hb6.on (bw_bel _ _ _)
          have ho7 : W7.ownsRow w.heap.size 9 1 (.slice A5 (m + 1) c5) (m + 1) (strs (tr (j - 1))) := by
            have e0 : strs (tr (j - 1)) = strs (tr j) ++ [.string ⟨#[o]⟩] := by
              rw [tr_step HP.out, strs_snoc, show j - 1 + 1 = j by omega]
            rw [e0, hW7]
            refine owns_bel ?_ (bw_bel _ _ _)
            rw [hW6]
            exact row_keepL HO5.out fun x hx => Below.heap_setCell _ _ _ _ (fun e => row_neL HO5.out HC5.out (by decide) (by rw [hx]; exact congrArg some e))
          have HTB := Lib.hid htab
          have HB7 := Lib.hid (hb7.set_ (p := ⟨g, o.toNat, none⟩) (by show w.heap.size ≤ g; omega) (.slice (some ⟨bk, 0, none⟩) 2 ck))
          have HO7 := Lib.hid (row_keepL (w' := W7.setCell ⟨g, o.toNat, none⟩ (.slice (some ⟨bk, 0, none⟩) 2 ck)) ho7 fun x hx => Below.heap_setCell _ _ _ _ (fun e => row_neL ho7 h7 (by decide) (by rw [hx]; exact congrArg some e)))
          clear hW6 hW7 hck hbk hnew hcn hold htab hb6 hb7 ho7 h7 h6 m5 n5 m2 n2 m1 n1
          go_wp2
          have hqq := HQ.out
          go_roundg (gk - 1)
          case rel => exact ⟨j - 1, m + 1, A5, c5, by congr 1; omega, Lib.hid ⟨by omega, by omega⟩, HTB, HO7, HB7⟩
          case measure => omega
end Go.Proofs.YteockaolmobmeaaGreatDoor.Mu

