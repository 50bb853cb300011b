/-
  table, walked.
-/
import Derived.Test.YtlbachjhhjjmfaaReach
import Derived.Test.YtlbachjhhjjmfaaAsks
namespace Go.Proofs.Ytlbachjhhjjmfaa.Mu
open Go.ChangeShapes Go.WideShapes Go.ChangeAt Go.RowKit Go.Shelf

attribute [local go_sem] Oper.semAt_some

theorem info_mu8' : (Try.prog.info? 30).map (fun i => (i.zero, i.size, i.bytes)) = some (some (.int .u8 0), 1, 1) := by kernel_rfl
theorem info_slM : (Try.prog.info? 23).map (fun i => (i.zero, i.size, i.bytes)) = some (some (.slice none 0 0), 1, 24) := by kernel_rfl
/-- Sets that are read. -/
structure RW3 (w : World) (B : Nat) (V : Option Addr) (kn : Nat) (os : List Nat) : Prop where
  len : os.length = kn * 3
  lt : ∀ x ∈ os, x < 2 ^ 64
  cells : 0 < kn → ∃ g off, V = some ⟨g, off, none⟩ ∧ g < B ∧ ∀ (j x : Nat), os[j]? = some x → w.cell? ⟨g, off + j, none⟩ = some (.int .u64 (x : Int))
theorem RW3.bel {w w' : World} {V : Option Addr} {kn : Nat} {os : List Nat} (h : RW3 w w.heap.size V kn os) (hb : Bel w w') : RW3 w' w'.heap.size V kn os :=
  ⟨h.len, h.lt, fun hk => by
    obtain ⟨g, off, e, hg, hc⟩ := h.cells hk
    exact ⟨g, off, e, Nat.lt_of_lt_of_le hg hb.size, fun j x hx => (hb.cell (p := ⟨g, off + j, none⟩) hg).trans (hc j x hx)⟩⟩
theorem RW3.of_own {w : World} {base kn c : Nat} {V : Option Addr} {os : List Nat} (h : w.ownsRow base 94 3 (.slice V kn c) kn (os.map fun (x : Nat) => Value.int .u64 (x : Int))) (hl : ∀ x ∈ os, x < 2 ^ 64) : RW3 w w.heap.size V kn os :=
  ⟨by have := h.1; simpa using this, hl, fun hk => by
    obtain ⟨g, cap, hv, _, hg⟩ := h.form hk
    cases hv
    refine ⟨g, 0, rfl, hg, fun j x hx => ?_⟩
    have := h.cells (g := g) rfl j (.int .u64 (x : Int)) (by rw [List.getElem?_map, hx]; rfl)
    rwa [Addr.add_lit] at this⟩
theorem RW3.word {w : World} {B kn : Nat} {V : Option Addr} {os : List Nat} (h : RW3 w B V kn os) {i : Nat} (hi : i < kn * 3) : ∃ x, os[i]? = some x ∧ x < 2 ^ 64 := by
  have hi' : i < os.length := by rw [h.len]; exact hi
  exact ⟨os[i], List.getElem?_eq_getElem hi', h.lt _ (List.getElem_mem hi')⟩
def osM (os2 os3 : List Nat) (m : Int) : List Nat := if m = 3 then os3 else os2
def upT (os2 os3 : List Nat) (i : Nat) : Int := greatP fun m => !memW (osM os2 os3 m) i 150
def prT (os2 os3 : List Nat) (up low : Int) (i j : Nat) : Int := greatP fun m => (decide (m ≤ up) && decide (low < m)) && !memW (osM os2 os3 m) i j
def lowsT (asg : List Int) (keep : List Nat) : List Int := keep.map fun v => asg[v]?.getD 0
def upsT (os2 os3 : List Nat) (kn : Nat) : List Int := (List.range kn).map (upT os2 os3)
def rowT (asg : List Int) (keep os2 os3 : List Nat) (kn i : Nat) : List Int := (List.range kn).map fun j => prT os2 os3 (upT os2 os3 i) ((lowsT asg keep)[j]?.getD 0) i j
/-- What table tells. -/
def TablePost (asg : List Int) (keep os2 os3 : List Nat) (kn : Nat) (W : World) (e : Ending) (w' : World) : Prop :=
  ∃ (LA : Option Addr) (lc : Nat) (UA : Option Addr) (uc : Nat) (PA : Option Addr) (pc : Nat) (rows : List (Option Addr × Nat × Nat × List Int)), e = .returned (.agg #[.slice LA kn lc, .slice UA kn uc, .slice PA kn pc]) ∧ w'.ownsRow W.heap.size 30 1 (.slice LA kn lc) kn ((lowsT asg keep).map (Value.int .u8)) ∧ w'.ownsRow W.heap.size 30 1 (.slice UA kn uc) kn ((upsT os2 os3 kn).map (Value.int .u8)) ∧
    w'.ownsRow W.heap.size 23 1 (.slice PA kn pc) kn (rows.map fun r => Value.slice r.1 r.2.1 r.2.2.1) ∧ (∀ r ∈ rows, r.2.1 = kn ∧ w'.ownsRow W.heap.size 30 1 (.slice r.1 r.2.1 r.2.2.1) kn (r.2.2.2.map (Value.int .u8))) ∧ rows.map (fun r => r.2.2.2) = (List.range kn).map (rowT asg keep os2 os3 kn) ∧ Bel W w'
theorem RP.of_own {w : World} {base kn c : Nat} {PA : Option Addr} {rows : List (Option Addr × Nat × Nat × List Int)} (hkn : kn ≤ 9223372036854775807) (hP : w.ownsRow base 23 1 (.slice PA kn c) kn (rows.map fun r => Value.slice r.1 r.2.1 r.2.2.1)) (hr : ∀ r ∈ rows, r.2.1 = kn ∧ w.ownsRow base 30 1 (.slice r.1 r.2.1 r.2.2.1) kn (r.2.2.2.map (Value.int .u8))) : RP w w.heap.size PA kn rows := by
  refine ⟨by have := hP.1; simpa using this.symm, fun hp0 => ?_⟩
  obtain ⟨g, cap, hv, _, hgl⟩ := hP.form hp0
  cases hv
  refine ⟨g, 0, rfl, hgl, fun i r hi => ?_⟩
  have h1 := hP.cells (g := g) rfl i (.slice r.1 r.2.1 r.2.2.1) (by rw [List.getElem?_map, hi]; rfl)
  rw [Addr.add_lit] at h1
  obtain ⟨e, hx⟩ := hr r (List.mem_of_getElem? hi)
  refine ⟨h1, ?_, by omega⟩
  rw [e] at hx ⊢
  exact RI.of_own hx
def Boxed3 (w : World) (g : Nat) (x y z : Value) : Prop := w.heap[g]? = some (.cells #[x, y, z] 26 (0, 0))
/-- In the first loop. -/
structure StL (W : World) (b : Nat) (V2 V3 : Option Addr) (kn c2 c3 : Nat) (lows ups : List Int) (LA UA : Option Addr) (k lc uc : Nat) (w : World) : Prop where
  bel : Bel W w
  rb : w.heap[b]? = some (.cells #[.slice none 0 0, .slice none 0 0, .slice V2 kn c2, .slice V3 kn c3] 64 (0, 0))
  rs : w.heap[b + 1]? = some (.cells #[.slice none 0 0, .slice none 0 0, .slice none 0 0] 26 (0, 0))
  tb : w.heap[b + 2]? = some (.cells #[.slice LA k lc, .slice UA k uc, .slice none 0 0] 26 (0, 0))
  ol : w.ownsRow (b + 3) 30 1 (.slice LA k lc) k ((lows.take k).map (Value.int .u8))
  ou : w.ownsRow (b + 3) 30 1 (.slice UA k uc) k ((ups.take k).map (Value.int .u8))
  ds : ∀ j, Bk LA j → ¬ Bk UA j

/-- Between the two appends of a round. -/
structure StM (W : World) (b : Nat) (V2 V3 : Option Addr) (kn c2 c3 : Nat) (lows ups : List Int) (LA UA : Option Addr) (k lc uc ib : Nat) (w : World) : Prop where
  bel : Bel W w
  rb : w.heap[b]? = some (.cells #[.slice none 0 0, .slice none 0 0, .slice V2 kn c2, .slice V3 kn c3] 64 (0, 0))
  rs : w.heap[b + 1]? = some (.cells #[.slice none 0 0, .slice none 0 0, .slice none 0 0] 26 (0, 0))
  tb : w.heap[b + 2]? = some (.cells #[.slice LA (k + 1) lc, .slice UA k uc, .slice none 0 0] 26 (0, 0))
  ol : w.ownsRow (b + 3) 30 1 (.slice LA (k + 1) lc) (k + 1) ((lows.take (k + 1)).map (Value.int .u8))
  ou : w.ownsRow (b + 3) 30 1 (.slice UA k uc) k ((ups.take k).map (Value.int .u8))
  ds : ∀ j, Bk LA j → ¬ Bk UA j
  ib : w.heap[ib]? = some (.cells #[.int .i64 (k : Int)] 3 (0, 0))
theorem boxed_set {w : World} {g i : Nat} {x y z v : Value} (h : Boxed3 w g x y z) : w.heap[g]? = some (.cells #[x, y, z] 26 (0, 0)) ∧ ∀ j, j ≠ g → (w.setCell ⟨g, i, none⟩ v).heap[j]? = w.heap[j]? :=
  ⟨h, fun j hj => heap_setCell_other w _ j _ (fun e => hj e)⟩
theorem StL.mid {W : World} {b : Nat} {V2 V3 : Option Addr} {kn c2 c3 : Nat} {lows ups : List Int} {LA UA : Option Addr} {k lc uc ib g5 c' : Nat} {lo : Int} {wr w1 wa w5 : World} (h : StL W b V2 V3 kn c2 c3 lows ups LA UA k lc uc wr) (hW : b = W.heap.size) (hb1 : Bel wr w1) (hib : ib = wr.heap.size) (hi1 : w1.heap[ib]? = some (.cells #[.int .i64 (k : Int)] 3 (0, 0))) (hlo : lows[k]? = some lo)
    (hba : Bel w1 wa) (hg : wa.grownBy w5 (Value.slice LA k lc).ownBlock) (hown : w5.ownsRow (b + 3) 30 1 (.slice (some ⟨g5, 0, none⟩) (k + 1) c') (k + 1) ((lows.take k).map (Value.int .u8) ++ [.int .u8 lo])) (hl : (Value.slice LA k lc).ownBlock = some g5 ∨ g5 = w1.heap.size + 1) :
    StM W b V2 V3 kn c2 c3 lows ups (some ⟨g5, 0, none⟩) UA k c' uc ib (w5.setCell ⟨b + 2, 0, none⟩ (.slice (some ⟨g5, 0, none⟩) (k + 1) c')) := by
  have hbr := hb1.on hba
  have hLA : ∀ j, (Value.slice LA k lc).ownBlock = some j → b + 3 ≤ j ∧ j < ib := fun j hj => by rw [hib]; exact own_lt_bk h.ol (own_bk h.ol hj)
  have hUA : ∀ j, Bk UA j → b + 3 ≤ j ∧ j < ib := fun j hj => by rw [hib]; exact own_lt_bk h.ou hj
  have hsz : b + 3 ≤ ib := by have := (Array.getElem?_eq_some_iff.1 h.tb).1; omega
  have hs1 : ib < w1.heap.size := (Array.getElem?_eq_some_iff.1 hi1).1
  have hsa := hba.size
  have hk : ∀ j, j < w1.heap.size → (Value.slice LA k lc).ownBlock ≠ some j → w5.heap[j]? = w1.heap[j]? := fun j hj hn => (hg.block j (by omega) (fun e => hn e.symm)).trans (hba.block j hj)
  have hk2 : ∀ j, j < ib → (Value.slice LA k lc).ownBlock ≠ some j → w5.heap[j]? = wr.heap[j]? := fun j hj hn => (hk j (by omega) hn).trans (hb1.block j (by omega))
  have hnl : ∀ j, j < b + 3 → (Value.slice LA k lc).ownBlock ≠ some j := fun j hj e => by have := hLA j e; omega
  have htb : Boxed3 w5 (b + 2) (.slice LA k lc) (.slice UA k uc) (.slice none 0 0) := (hk2 _ (by omega) (hnl _ (by omega))).trans h.tb
  have ho := (boxed_set (i := 0) (v := .slice (some ⟨g5, 0, none⟩) (k + 1) c') htb).2
  have hg5 : b + 3 ≤ g5 := by rcases hl with e | e; exact (hLA g5 e).1; omega
  refine ⟨⟨hg.os.trans (hbr.os.trans h.bel.os), hg.tape.trans (hbr.tape.trans h.bel.tape), hg.output.trans (hbr.output.trans h.bel.output), ?_, fun j hj => ?_⟩, ?_, ?_, ?_, ?_, ?_, ?_, ?_⟩
  · have := hg.size; have := h.bel.size; have := hbr.size; simp [World.setCell]; omega
  · rw [ho j (by omega), hk2 j (by omega) (hnl j (by omega))]; exact h.bel.block j hj
  · rw [ho b (by omega), hk2 b (by omega) (hnl _ (by omega))]; exact h.rb
  · rw [ho _ (by omega), hk2 _ (by omega) (hnl _ (by omega))]; exact h.rs
  · rw [heap_setCell_same w5 (b + 2) 0 _ _ _ htb]; simp
  · have e : (lows.take (k + 1)).map (Value.int .u8) = (lows.take k).map (Value.int .u8) ++ [.int .u8 lo] := by rw [List.take_add_one, hlo]; simp
    rw [e]
    exact own_blk hown (fun x hx => ho x (by cases hx; show g5 ≠ b + 2; omega))
  · refine own_blk h.ou (fun x hx => ?_)
    have hx' := own_bk h.ou hx
    have := hUA x hx'
    rw [ho x (by omega), hk2 x (by omega) (fun e => h.ds x (own_bk h.ol e) hx')]
  · rintro j ⟨off, hj⟩ hu
    cases hj
    have := hUA g5 hu
    rcases hl with e | e
    · exact h.ds g5 (own_bk h.ol e) hu
    · omega
  · rw [ho ib (by omega), hk ib hs1 (fun e => by have := hLA ib e; omega)]; exact hi1
theorem StM.fin {W : World} {b : Nat} {V2 V3 : Option Addr} {kn c2 c3 : Nat} {lows ups : List Int} {LA UA : Option Addr} {k lc uc ib g5 c' : Nat} {up : Int} {w6 wa w5 : World} (h : StM W b V2 V3 kn c2 c3 lows ups LA UA k lc uc ib w6) (hW : b = W.heap.size) (hup : ups[k]? = some up) (hba : Bel w6 wa) (hg : wa.grownBy w5 (Value.slice UA k uc).ownBlock) (hown : w5.ownsRow (b + 3) 30 1 (.slice (some ⟨g5, 0, none⟩) (k + 1) c') (k + 1) ((ups.take k).map (Value.int .u8) ++ [.int .u8 up]))
    (hl : (Value.slice UA k uc).ownBlock = some g5 ∨ w6.heap.size ≤ g5) :
    StL W b V2 V3 kn c2 c3 lows ups LA (some ⟨g5, 0, none⟩) (k + 1) lc c' (w5.setCell ⟨b + 2, 1, none⟩ (.slice (some ⟨g5, 0, none⟩) (k + 1) c')) := by
  have hLA : ∀ j, Bk LA j → b + 3 ≤ j ∧ j < w6.heap.size := fun j hj => own_lt_bk h.ol hj
  have hUA : ∀ j, (Value.slice UA k uc).ownBlock = some j → b + 3 ≤ j ∧ j < w6.heap.size := fun j hj => own_lt_bk h.ou (own_bk h.ou hj)
  have hsz : b + 3 ≤ w6.heap.size := by have := (Array.getElem?_eq_some_iff.1 h.tb).1; omega
  have hsa := hba.size
  have hk : ∀ j, j < w6.heap.size → (Value.slice UA k uc).ownBlock ≠ some j → w5.heap[j]? = w6.heap[j]? := fun j hj hn => (hg.block j (by omega) (fun e => hn e.symm)).trans (hba.block j hj)
  have hnl : ∀ j, j < b + 3 → (Value.slice UA k uc).ownBlock ≠ some j := fun j hj e => by have := hUA j e; omega
  have htb : Boxed3 w5 (b + 2) (.slice LA (k + 1) lc) (.slice UA k uc) (.slice none 0 0) := (hk _ (by omega) (hnl _ (by omega))).trans h.tb
  have ho := (boxed_set (i := 1) (v := .slice (some ⟨g5, 0, none⟩) (k + 1) c') htb).2
  have hg5 : b + 3 ≤ g5 := by rcases hl with e | e; exact (hUA g5 e).1; omega
  refine ⟨⟨hg.os.trans (hba.os.trans h.bel.os), hg.tape.trans (hba.tape.trans h.bel.tape), hg.output.trans (hba.output.trans h.bel.output), ?_, fun j hj => ?_⟩, ?_, ?_, ?_, ?_, ?_, ?_⟩
  · have := hg.size; have := h.bel.size; simp [World.setCell]; omega
  · rw [ho j (by omega), hk j (by omega) (hnl j (by omega))]; exact h.bel.block j hj
  · rw [ho b (by omega), hk b (by omega) (hnl _ (by omega))]; exact h.rb
  · rw [ho _ (by omega), hk _ (by omega) (hnl _ (by omega))]; exact h.rs
  · rw [heap_setCell_same w5 (b + 2) 1 _ _ _ htb]; simp
  · refine own_blk h.ol (fun x hx => ?_)
    have hx' := own_bk h.ol hx
    have := hLA x hx'
    rw [ho x (by omega), hk x (by omega) (fun e => h.ds x hx' (own_bk h.ou e))]
  · have e : (ups.take (k + 1)).map (Value.int .u8) = (ups.take k).map (Value.int .u8) ++ [.int .u8 up] := by rw [List.take_add_one, hup]; simp
    rw [e]
    exact own_blk hown (fun x hx => ho x (by cases hx; show g5 ≠ b + 2; omega))
  · rintro j hL ⟨off, hj⟩
    cases hj
    have := hLA g5 hL
    rcases hl with e | e
    · exact h.ds g5 hL (own_bk h.ou e)
    · omega
/-- A call as a step of a region that draws its order. -/
theorem step_call {P : Program} {ops : Array Oper} {o : Oper} {a : Act} {w : World} {K : Act → World → Prop} {Q : Exit → Act → World → Prop} {E : Prop} (hgd : o.guard = none) (f : FuncId) (args : Array Value) (hrun : (execOp a.eval o).run P w = .ok (.enter f args) w)
    (h : Calls P f args w fun e w' => ∃ v, e = .returned v ∧ K (a.put o.dst v) w') : if Region.wanted o (yielded ops a.tmps) = true then Oper.wp P o a w K Q else E := by
  have hw : Region.wanted o (yielded ops a.tmps) = true := by simp [Region.wanted, hgd]
  rw [if_pos hw]
  unfold Oper.wp
  rw [hrun]
  refine h.mono ?_
  rintro e w' ⟨v, rfl, hk⟩
  exact hk
theorem up_ask (rb ib i kn c2 c3 : Nat) (V2 V3 : Option Addr) (os2 os3 : List Nat) (hi : i < kn) (W : World) (hrb : W.heap[rb]? = some (.cells #[.slice none 0 0, .slice none 0 0, .slice V2 kn c2, .slice V3 kn c3] 64 (0, 0))) (hib : W.heap[ib]? = some (.cells #[.int .i64 (i : Int)] 3 (0, 0))) (h2 : RW3 W W.heap.size V2 kn os2) (h3 : RW3 W W.heap.size V3 kn os3) :
    Calls Try.prog 48 #[.func (.func 49) #[] #[.pointer (some ⟨rb, 0, none⟩), .pointer (some ⟨ib, 0, none⟩)]] W fun e w' => e = .returned (.int .u8 (upT os2 os3 i)) ∧ Bel W w' := by
  refine greatF_any 49 _ (fun m => !memW (osM os2 os3 m) i 150) W (enters_of Try.func49 (by kernel_rfl) rfl) (fun m hm W' hb => ?_)
  have hrb' := hb.blk hrb
  have c1 := cell1_ (hb.blk hib)
  have key : ∀ (M : Nat) (V : Option Addr) (c : Nat) (os : List Nat), M < 4 → (W'.cell? ⟨rb, M, none⟩ = some (.slice V kn c)) → RW3 W W.heap.size V kn os → Calls Try.prog 49 (#[.int .u8 (M : Int)] ++ #[.pointer (some ⟨rb, 0, none⟩), .pointer (some ⟨ib, 0, none⟩)]) W' fun e w' => e = .returned (.bool (!memW os i 150)) ∧ Bel W' w' := fun M V c os hM hc hr => by
    obtain ⟨g, off, rfl, hg, hcs⟩ := hr.cells (by omega)
    obtain ⟨x, hx, hxl⟩ := hr.word (i := i * 3) (by omega)
    obtain ⟨y, hy, hyl⟩ := hr.word (i := i * 3 + 1) (by omega)
    obtain ⟨z, hz, hzl⟩ := hr.word (i := i * 3 + 2) (by omega)
    have e : memW os i 150 = mem3 x y z 150 := by unfold memW; rw [hx, hy, hz]; rfl
    rw [e]
    exact ask1_any rb ib i M g off kn c x y z hM hi hxl hyl hzl W' hc c1 ((hb.cell (p := ⟨g, off + i * 3, none⟩) hg).trans (hcs _ _ hx)) ((hb.cell (p := ⟨g, off + i * 3 + 1, none⟩) hg).trans (hcs _ _ hy)) ((hb.cell (p := ⟨g, off + i * 3 + 2, none⟩) hg).trans (hcs _ _ hz))
  rcases hm with rfl | rfl
  · exact key 3 V3 c3 os3 (by omega) (by simp [World.cell?, hrb']) h3
  · exact key 2 V2 c2 os2 (by omega) (by simp [World.cell?, hrb']) h2
theorem pr_ask (rb tb ib jb i j kn c2 c3 lb ln lc ub un uc : Nat) (V2 V3 : Option Addr) (os2 os3 : List Nat) (up low : Int) (hi : i < kn) (hj : j < kn) (hkn : kn ≤ 150) (hiu : i < un) (hjl : j < ln) (W : World) (hrb : W.heap[rb]? = some (.cells #[.slice none 0 0, .slice none 0 0, .slice V2 kn c2, .slice V3 kn c3] 64 (0, 0))) (hib : W.heap[ib]? = some (.cells #[.int .i64 (i : Int)] 3 (0, 0))) (hjb : W.heap[jb]? = some (.cells #[.int .i64 (j : Int)] 3 (0, 0)))
    (c0 : W.cell? ⟨tb, 0, none⟩ = some (.slice (some ⟨lb, 0, none⟩) ln lc)) (c1 : W.cell? ⟨tb, 1, none⟩ = some (.slice (some ⟨ub, 0, none⟩) un uc)) (cu : W.cell? ⟨ub, i, none⟩ = some (.int .u8 up)) (cl : W.cell? ⟨lb, j, none⟩ = some (.int .u8 low)) (htb : tb < W.heap.size ∧ ub < W.heap.size ∧ lb < W.heap.size) (h2 : RW3 W W.heap.size V2 kn os2) (h3 : RW3 W W.heap.size V3 kn os3) :
    Calls Try.prog 48 #[.func (.func 51) #[] #[.pointer (some ⟨tb, 0, none⟩), .pointer (some ⟨ib, 0, none⟩), .pointer (some ⟨jb, 0, none⟩), .pointer (some ⟨rb, 0, none⟩)]] W fun e w' => e = .returned (.int .u8 (prT os2 os3 up low i j)) ∧ Bel W w' := by
  refine greatF_any 51 _ (fun m => (decide (m ≤ up) && decide (low < m)) && !memW (osM os2 os3 m) i j) W (enters_of Try.func51 (by kernel_rfl) rfl) (fun m hm W' hb => ?_)
  have hrb' := hb.blk hrb
  have hsz := hb.size
  have l1 := (Array.getElem?_eq_some_iff.1 hib).1
  have l2 := (Array.getElem?_eq_some_iff.1 hjb).1
  have l3 := (Array.getElem?_eq_some_iff.1 hrb).1
  have key : ∀ (m : Int) (M : Nat) (V : Option Addr) (c : Nat) (os : List Nat), m.toNat = M → 0 ≤ m → m < 4 → (W'.cell? ⟨rb, M, none⟩ = some (.slice V kn c)) → RW3 W W.heap.size V kn os → Calls Try.prog 51 (#[.int .u8 m] ++ #[.pointer (some ⟨tb, 0, none⟩), .pointer (some ⟨ib, 0, none⟩), .pointer (some ⟨jb, 0, none⟩), .pointer (some ⟨rb, 0, none⟩)]) W' fun e w' => e = .returned (.bool ((decide (m ≤ up) && decide (low < m)) && !memW os i j)) ∧ Bel W' w' := fun m M V c os hM m0 m4 hc hr => by
    obtain ⟨g, off, rfl, hg, hcs⟩ := hr.cells (by omega)
    obtain ⟨x, hx, hxl⟩ := hr.word (i := i * 3) (by omega)
    obtain ⟨y, hy, hyl⟩ := hr.word (i := i * 3 + 1) (by omega)
    obtain ⟨z, hz, hzl⟩ := hr.word (i := i * 3 + 2) (by omega)
    have e : memW os i j = mem3 x y z j := by unfold memW; rw [hx, hy, hz]; rfl
    rw [e]
    exact ask2_any m low up M tb ub 0 un uc lb 0 ln lc i j rb g off kn c x y z ib jb hM m0 m4 hiu hi (by omega) hjl hxl hyl hzl W' ((hb.cell (p := ⟨tb, 0, none⟩) htb.1).trans c0) ((hb.cell (p := ⟨tb, 1, none⟩) htb.1).trans c1) (cell1_ (hb.blk hib)) (cell1_ (hb.blk hjb)) (by rw [Nat.zero_add]; exact (hb.cell (p := ⟨ub, i, none⟩) htb.2.1).trans cu) (by rw [Nat.zero_add]; exact (hb.cell (p := ⟨lb, j, none⟩) htb.2.2).trans cl) hc ((hb.cell (p := ⟨g, off + i * 3, none⟩) hg).trans (hcs _ _ hx)) ((hb.cell (p := ⟨g, off + i * 3 + 1, none⟩) hg).trans (hcs _ _ hy)) ((hb.cell (p := ⟨g, off + i * 3 + 2, none⟩) hg).trans (hcs _ _ hz)) ⟨by omega, by omega, by omega, by omega, by omega, by omega, by omega⟩
  rcases hm with rfl | rfl
  · exact key 3 3 V3 c3 os3 rfl (by omega) (by omega) (by simp [World.cell?, hrb']) h3
  · exact key 2 2 V2 c2 os2 rfl (by omega) (by omega) (by simp [World.cell?, hrb']) h2
/-- In the second loop. -/
structure StR (W : World) (b : Nat) (V2 V3 : Option Addr) (kn c2 c3 : Nat) (lows ups : List Int) (rowF : Nat → List Int) (LA UA PA : Option Addr) (p lc uc pc : Nat) (rows : List (Option Addr × Nat × Nat × List Int)) (w : World) : Prop where
  bel : Bel W w
  rb : w.heap[b]? = some (.cells #[.slice none 0 0, .slice none 0 0, .slice V2 kn c2, .slice V3 kn c3] 64 (0, 0))
  rs : w.heap[b + 1]? = some (.cells #[.slice none 0 0, .slice none 0 0, .slice none 0 0] 26 (0, 0))
  tb : w.heap[b + 2]? = some (.cells #[.slice LA kn lc, .slice UA kn uc, .slice PA p pc] 26 (0, 0))
  ol : w.ownsRow (b + 3) 30 1 (.slice LA kn lc) kn (lows.map (Value.int .u8))
  ou : w.ownsRow (b + 3) 30 1 (.slice UA kn uc) kn (ups.map (Value.int .u8))
  op : w.ownsRow (b + 3) 23 1 (.slice PA p pc) p (rows.map fun r => Value.slice r.1 r.2.1 r.2.2.1)
  rws : ∀ r ∈ rows, r.2.1 = kn ∧ w.ownsRow (b + 3) 30 1 (.slice r.1 r.2.1 r.2.2.1) kn (r.2.2.2.map (Value.int .u8))
  ct : rows.map (fun r => r.2.2.2) = (List.range p).map rowF
theorem StR.bel_ {W : World} {b : Nat} {V2 V3 : Option Addr} {kn c2 c3 : Nat} {lows ups : List Int} {rowF : Nat → List Int} {LA UA PA : Option Addr} {p lc uc pc : Nat} {rows : List (Option Addr × Nat × Nat × List Int)} {w w' : World} (h : StR W b V2 V3 kn c2 c3 lows ups rowF LA UA PA p lc uc pc rows w) (hb : Bel w w') : StR W b V2 V3 kn c2 c3 lows ups rowF LA UA PA p lc uc pc rows w' :=
  ⟨h.bel.on hb, hb.blk h.rb, hb.blk h.rs, hb.blk h.tb, owns_bel h.ol hb, owns_bel h.ou hb, owns_bel h.op hb, fun r hr => ⟨(h.rws r hr).1, owns_bel (h.rws r hr).2 hb⟩, h.ct⟩
theorem StR.more {W : World} {b : Nat} {V2 V3 : Option Addr} {kn c2 c3 : Nat} {lows ups : List Int} {rowF : Nat → List Int} {LA UA PA RA : Option Addr} {p lc uc pc rc g5 c' : Nat} {rows : List (Option Addr × Nat × Nat × List Int)} {row : List Int} {w wa w5 : World} (h : StR W b V2 V3 kn c2 c3 lows ups rowF LA UA PA p lc uc pc rows w) (hW : b = W.heap.size)
    (hr : w.ownsRow (b + 3) 30 1 (.slice RA kn rc) kn (row.map (Value.int .u8))) (hrow : row = rowF p) (hba : Bel w wa) (hg : wa.grownBy w5 (Value.slice PA p pc).ownBlock) (hown : w5.ownsRow (b + 3) 23 1 (.slice (some ⟨g5, 0, none⟩) (p + 1) c') (p + 1) (rows.map (fun r => Value.slice r.1 r.2.1 r.2.2.1) ++ [.slice RA kn rc])) :
    StR W b V2 V3 kn c2 c3 lows ups rowF LA UA (some ⟨g5, 0, none⟩) (p + 1) lc uc c' (rows ++ [(RA, kn, rc, row)]) (w5.setCell ⟨b + 2, 2, none⟩ (.slice (some ⟨g5, 0, none⟩) (p + 1) c')) := by
  have hsz : b + 3 ≤ w.heap.size := by have := (Array.getElem?_eq_some_iff.1 h.tb).1; omega
  have hsa := hba.size
  have hPA : ∀ j, (Value.slice PA p pc).ownBlock = some j → b + 3 ≤ j ∧ j < w.heap.size := fun j hj => own_lt_bk h.op (own_bk h.op hj)
  have hk : ∀ j, j < w.heap.size → (Value.slice PA p pc).ownBlock ≠ some j → w5.heap[j]? = w.heap[j]? := fun j hj hn => (hg.block j (by omega) (fun e => hn e.symm)).trans (hba.block j hj)
  have hnl : ∀ j, j < b + 3 → (Value.slice PA p pc).ownBlock ≠ some j := fun j hj e => by have := hPA j e; omega
  have htb : Boxed3 w5 (b + 2) (.slice LA kn lc) (.slice UA kn uc) (.slice PA p pc) := (hk _ (by omega) (hnl _ (by omega))).trans h.tb
  have ho := (boxed_set (i := 2) (v := .slice (some ⟨g5, 0, none⟩) (p + 1) c') htb).2
  have hmu : ∀ (A : Option Addr) (n c : Nat) (xs : List Value), w.ownsRow (b + 3) 30 1 (.slice A n c) n xs → (w5.setCell ⟨b + 2, 2, none⟩ (.slice (some ⟨g5, 0, none⟩) (p + 1) c')).ownsRow (b + 3) 30 1 (.slice A n c) n xs := fun A n c xs hx => by
    refine own_blk hx (fun z hz => ?_)
    have hz' := own_lt_bk hx (own_bk hx hz)
    obtain ⟨cur, hcur⟩ := own_obj hx hz
    rw [ho z (by omega), hk z hz'.2 (fun e => row_other hcur h.op (by decide) (own_bk h.op e))]
  have hg5 : b + 3 ≤ g5 := (own_lt_bk hown ⟨0, rfl⟩).1
  refine ⟨⟨hg.os.trans (hba.os.trans h.bel.os), hg.tape.trans (hba.tape.trans h.bel.tape), hg.output.trans (hba.output.trans h.bel.output), ?_, fun j hj => ?_⟩, ?_, ?_, ?_, hmu _ _ _ _ h.ol, hmu _ _ _ _ h.ou, ?_, fun r hr' => ?_, ?_⟩
  · have := hg.size; have := h.bel.size; simp [World.setCell]; omega
  · rw [ho j (by omega), hk j (by omega) (hnl j (by omega))]; exact h.bel.block j hj
  · rw [ho b (by omega), hk b (by omega) (hnl _ (by omega))]; exact h.rb
  · rw [ho _ (by omega), hk _ (by omega) (hnl _ (by omega))]; exact h.rs
  · rw [heap_setCell_same w5 (b + 2) 2 _ _ _ htb]; simp
  · rw [List.map_append]
    exact own_blk hown (fun x hx => ho x (by cases hx; show g5 ≠ b + 2; omega))
  · rcases List.mem_append.1 hr' with hr' | hr'
    · obtain ⟨e, hx⟩ := h.rws r hr'
      refine ⟨e, ?_⟩
      rw [e] at hx ⊢
      exact hmu _ _ _ _ hx
    · rw [List.mem_singleton.1 hr']
      exact ⟨rfl, hmu _ _ _ _ hr⟩
  · rw [List.map_append, h.ct, List.range_succ, List.map_append, hrow]
    rfl

set_option maxRecDepth 100000 in
set_option maxHeartbeats 1000000 in
theorem table_any (AA KA V2 V3 : Option Addr) (n ac kn kc c2 c3 : Nat) (asg : List Int) (keep os2 os3 : List Nat) (W : World) (hA : RI .u8 W W.heap.size AA n asg) (hK : RI .i64 W W.heap.size KA kn (keep.map fun (x : Nat) => (x : Int))) (hn : n ≤ 1048576) (hkn : kn ≤ 150) (hkeep : ∀ v ∈ keep, v < n) (h2 : RW3 W W.heap.size V2 kn os2) (h3 : RW3 W W.heap.size V3 kn os3) :
    Calls Try.prog 28 #[.slice AA n ac, .slice KA kn kc, .agg #[.slice none 0 0, .slice none 0 0, .slice V2 kn c2, .slice V3 kn c3]] W (TablePost asg keep os2 os3 kn W) := by
  have HA := Lib.hid hA
  have HK := Lib.hid hK
  have H2 := Lib.hid h2
  have H3 := Lib.hid h3
  have HKEEP := Lib.hid hkeep
  have HKL : Hid (kn = keep.length) := Lib.hid (by have := hK.1; simpa using this)
  clear hA hK hkeep h2 h3
  go_enter Try.func28, Try.ntmps28
  go_wp2_with fail
  obtain ⟨b, hb⟩ : ∃ b, b = W.heap.size := ⟨_, rfl⟩
  have HBB := Lib.hid hb
  rw [← hb]
  rw [show b + 1 + 1 = b + 2 from rfl]
  clear hb
  have hinf := info_parts info_mu8'
  go_loopw [15] (fun i wr => ∃ k : Nat, k ≤ kn ∧ i = .int .i64 k ∧ ∃ LA lc UA uc, Hid (StL W b V2 V3 kn c2 c3 (lowsT asg keep) (upsT os2 os3 kn) LA UA k lc uc wr)) (fun i _ => kn - (intOf i).toNat)
  case atStart =>
    refine ⟨0, Nat.zero_le _, rfl, none, 0, none, 0, Lib.hid ?_⟩
    rw [HBB.out]
    refine ⟨(((Bel.refl W).alloc _).alloc _).alloc _, ((((Bel.refl _).alloc _).alloc _)).blk (blk1 W _), ?_, ?_, World.ownsRow_nil _ _ _ _, World.ownsRow_nil _ _ _ _, fun j hj => (by rintro -; obtain ⟨o, h⟩ := hj; cases h)⟩
    · have := ((Bel.refl _).alloc (.cells #[.slice none 0 0, .slice none 0 0, .slice none 0 0] 26)).blk (blk1 (W.alloc (.cells #[.slice none 0 0, .slice none 0 0, .slice V2 kn c2, .slice V3 kn c3] 64)) (.cells #[.slice none 0 0, .slice none 0 0, .slice none 0 0] 26))
      rwa [World.size_alloc] at this
    · have := blk1 ((W.alloc (.cells #[.slice none 0 0, .slice none 0 0, .slice V2 kn c2, .slice V3 kn c3] 64)).alloc (.cells #[.slice none 0 0, .slice none 0 0, .slice none 0 0] 26)) (.cells #[.slice none 0 0, .slice none 0 0, .slice none 0 0] 26)
      rwa [World.size_alloc, World.size_alloc] at this
  case round =>
    obtain ⟨k, hk, rfl, LA, lc, UA, uc, HS⟩ := hrel
    by_cases hlt : k < kn
    · obtain ⟨v, hv⟩ : ∃ v, keep[k]? = some v := ⟨keep[k]'(by rw [← HKL.out]; exact hlt), by simp⟩
      have hvn := HKEEP.out v (List.mem_of_getElem? hv)
      obtain ⟨kb, koff, eK, hkb, kcs⟩ := HK.out.2 (by omega)
      have k0 := (HS.out.bel.cell (p := ⟨kb, koff + k, none⟩) hkb).trans (kcs k hlt)
      rw [show ((keep.map fun (x : Nat) => (x : Int))[k]?.getD 0) = (v : Int) by simp [hv]] at k0
      obtain ⟨ab, aoff, eA, hab, acs⟩ := HA.out.2 (by omega)
      have a0 := (HS.out.bel.cell (p := ⟨ab, aoff + v, none⟩) hab).trans (acs v hvn)
      obtain ⟨lo, hlo⟩ : ∃ lo, lo = asg[v]?.getD 0 := ⟨_, rfl⟩
      rw [← hlo] at a0
      have HLO := Lib.hid hlo
      have HV := Lib.hid hv
      have j1 : (0 : Int) ≤ (v : Int) := by omega
      have j2 : (v : Int) < (n : Int) := by omega
      have j3 : (0 : Int) ≤ (k : Int) := by omega
      have j4 : (k : Int) < (kn : Int) := by omega
      obtain ⟨t0, t1, t2, f0, f1, f2⟩ := cells3 HS.out.tb
      have hbs : b + 2 < wr.heap.size := (Array.getElem?_eq_some_iff.1 HS.out.tb).1
      have habs : ab < wr.heap.size := Nat.lt_of_lt_of_le hab HS.out.bel.size
      clear kcs acs hlo hv
      subst eK eA
      go_wp2_with fail
      have hb1 : Bel wr (wr.alloc (.cells #[.int .i64 k] 3)) := (Bel.refl wr).alloc _
      have hz1 : (wr.alloc (.cells #[.int .i64 k] 3)).heap.size = wr.heap.size + 1 := by simp
      have hi1 : (wr.alloc (.cells #[.int .i64 k] 3)).heap[wr.heap.size]? = some (.cells #[.int .i64 (k : Int)] 3 (0, 0)) := blk1 wr _
      obtain ⟨w1, hw1⟩ : ∃ w1, w1 = wr.alloc (.cells #[.int .i64 k] 3) := ⟨_, rfl⟩
      rw [← hw1] at hb1 hz1 hi1 ⊢
      obtain ⟨ib, hib⟩ : ∃ ib, ib = wr.heap.size := ⟨_, rfl⟩
      rw [← hib] at hz1 hi1 hbs habs ⊢
      have HIB := Lib.hid hib
      clear hw1 hib t0 t1 t2 f0 f1 f2 k0
      obtain ⟨t0, t1, t2, f0, f1, f2⟩ := cells3 (hb1.blk HS.out.tb)
      have a1 := (hb1.cell (p := ⟨ab, aoff + v, none⟩) (by rw [← HIB.out]; exact habs)).trans a0
      have HB1 := Lib.hid hb1
      have HZ1 := Lib.hid hz1
      have HI1 := Lib.hid hi1
      have HOL := Lib.hid (owns_bel HS.out.ol hb1)
      have hneL : ∀ j, Bk LA j → b + 3 ≤ j ∧ j < ib := fun j hj => by rw [HIB.out]; exact own_lt_bk HS.out.ol hj
      have hneU : ∀ j, Bk UA j → b + 3 ≤ j ∧ j < ib := fun j hj => by rw [HIB.out]; exact own_lt_bk HS.out.ou hj
      have HNL := Lib.hid hneL
      have HNU := Lib.hid hneU
      have hbw : b + 2 < w1.heap.size := by omega
      have hbb : b + 3 ≤ w1.heap.size := by omega
      clear hb1 hz1 hi1 hneL hneU a0
      obtain ⟨i0, hi0, hz0, hz1, hz2⟩ := info_parts info_mu8'
      go_region_law (refine step_append_lies (w := _) rfl (.tmp 21) (.tmp 26) 23 rfl (b + 3) 30 i0 _ 1 1 Try.underlying23 hi0 hz0 hz1 hz2 rfl (by decide) (.slice LA k lc) k _ (by simp [Act.eval]) (by exact HOL.out.alloc _) ⟨w1.heap.size, 0, none⟩ 1 1 [.int .u8 lo] (by simp [Act.eval]) rfl (by intro j u hu; rw [Addr.add_lit, Nat.zero_add]; exact one_cell_at w1 _ _ j u hu) (by simp [Value.oneCell']) (by omega) (by unfold maxLen; omega) (by omega) (by simp; omega) (w1.heap.size + 1) (by simp) ?_; intro g5 c' w5 hown5 hg5 hg6 _; (have hne : some (b + 2) ≠ (Value.slice LA k lc).ownBlock := fun e => by have := HNL.out (b + 2) (own_bk HOL.out e.symm); omega); (have s2 := ((far hg5 (b := b + 2) (by simp; omega) hne).1 0).trans (by exact (((Bel.refl w1).alloc _).cell (p := ⟨b + 2, 0, none⟩) hbw).trans t0)); (have s3 := ((far hg5 (b := b + 2) (by simp; omega) hne).2 0).trans (by exact (((Bel.refl w1).alloc _).frozen (p := ⟨b + 2, 0, none⟩) hbw).trans f0)); (have HO5 := Lib.hid hown5); (have HG5 := Lib.hid hg5); (have HG6 := Lib.hid hg6); clear hown5 hg5 hg6 hne)
      all_goals
        have hmid := HS.out.mid HBB.out HB1.out HIB.out HI1.out (lo := lo) (by unfold lowsT; rw [List.getElem?_map, HV.out, HLO.out]; rfl) (((Bel.refl w1).alloc _).drew) HG5.out HO5.out HG6.out
        obtain ⟨w6, hw6⟩ : ∃ w6, w6 = w5.setCell ⟨b + 2, 0, none⟩ (.slice (some ⟨g5, 0, none⟩) (k + 1) c') := ⟨_, rfl⟩
        rw [← hw6] at hmid ⊢
        have HM6 := Lib.hid hmid
        have HR2 := Lib.hid (H2.out.bel hmid.bel)
        have HR3 := Lib.hid (H3.out.bel hmid.bel)
        clear hw6 HO5 HG5 HG6 s2 s3 t0 t1 t2 f0 f1 f2 a1 hbw hbb hmid
        obtain ⟨t0, t1, t2, f0, f1, f2⟩ := cells3 HM6.out.tb
        have hb6 : b + 2 < w6.heap.size := (Array.getElem?_eq_some_iff.1 HM6.out.tb).1
        have HUC : Hid (∀ wa, Bel w6 wa → Calls Try.prog 48 #[.func (.func 49) #[] #[.pointer (some ⟨b, 0, none⟩), .pointer (some ⟨ib, 0, none⟩)]] wa fun e w' => e = .returned (.int .u8 (upT os2 os3 k)) ∧ Bel wa w') := Lib.hid (fun wa hb => up_ask b ib k kn c2 c3 V2 V3 os2 os3 hlt wa (hb.blk HM6.out.rb) (hb.blk HM6.out.ib) (HR2.out.bel hb) (HR3.out.bel hb))
        obtain ⟨up, hup⟩ : ∃ up, up = upT os2 os3 k := ⟨_, rfl⟩
        rw [← hup] at HUC
        have HUP := Lib.hid hup
        clear hup
        go_wp2_with fail
        go_region_law (first | (refine step_append_lies (w := _) rfl (.tmp 30) (.tmp 33) 23 rfl (b + 3) 30 i0 _ 1 1 Try.underlying23 hi0 hz0 hz1 hz2 rfl (by decide) (.slice UA k uc) k _ (by simp [Act.eval]) (by exact HOU7.out.alloc _) ⟨w7.heap.size, 0, none⟩ 1 1 [.int .u8 up] (by simp [Act.eval]) rfl (by intro j u hu; rw [Addr.add_lit, Nat.zero_add]; exact one_cell_at w7 _ _ j u hu) (by simp [Value.oneCell']) (by omega) (by unfold maxLen; omega) (by omega) (by simp; omega) (w7.heap.size + 1) (by simp) ?_; intro g8 c8 w8 hown8 hg8 hh8 _; (have hne : some (b + 2) ≠ (Value.slice UA k uc).ownBlock := fun e => by have := HNU.out (b + 2) (own_bk HOU7.out e.symm); omega); (have s4 := ((far hg8 (b := b + 2) (by simp; omega) hne).1 1).trans (by exact (((Bel.refl w7).alloc _).cell (p := ⟨b + 2, 1, none⟩) hbw7).trans t1')); (have s5 := ((far hg8 (b := b + 2) (by simp; omega) hne).2 1).trans (by exact (((Bel.refl w7).alloc _).frozen (p := ⟨b + 2, 1, none⟩) hbw7).trans f1')); (have HO8 := Lib.hid hown8); (have HG8 := Lib.hid hg8); (have HH8 := Lib.hid hh8); clear hown8 hg8 hh8 hne) | (refine step_call rfl 48 #[.func (.func 49) #[] #[.pointer (some ⟨b, 0, none⟩), .pointer (some ⟨ib, 0, none⟩)]] (by simp [go_sem]) ((HUC.out _ (Bel.refl w6).drew).mono ?_); rintro e w7 ⟨rfl, hb7⟩; refine ⟨_, rfl, ?_⟩; (have hb67 : Bel w6 w7 := (Bel.refl w6).drew.on hb7); (have HB7 := Lib.hid hb67); (have HOU7 := Lib.hid (owns_bel HM6.out.ou hb67)); (have t1' := (hb67.cell (p := ⟨b + 2, 1, none⟩) hb6).trans t1); (have f1' := (hb67.frozen (p := ⟨b + 2, 1, none⟩) hb6).trans f1); (have hbw7 : b + 2 < w7.heap.size := by have := hb67.size; omega); (have hbb7 : b + 3 ≤ w7.heap.size := by omega); clear hb7 hb67))
        all_goals
          have hfin := HM6.out.fin HBB.out (up := up) (by unfold upsT; rw [List.getElem?_map, List.getElem?_range hlt, HUP.out]; rfl) (HB7.out.alloc _) HG8.out HO8.out (HH8.out.imp id (fun e => by have := HB7.out.size; omega))
          have HFIN := Lib.hid hfin
          clear hfin HO8 HG8 HH8 s4 s5 t1' f1' hbw7 hbb7 t0 t1 t2 f0 f1 f2 hb6
          go_wp2_with fail
          exact ⟨⟨k + 1, by omega, by go_num, _, _, _, _, HFIN⟩, by simp [intOf]; omega⟩
    · obtain rfl : k = kn := by omega
      have hlowl : (lowsT asg keep).length = k := by unfold lowsT; rw [List.length_map, HKL.out]
      have hupl : (upsT os2 os3 k).length = k := by simp [upsT]
      have HSR : Hid (StR W b V2 V3 k c2 c3 (lowsT asg keep) (upsT os2 os3 k) (rowT asg keep os2 os3 k) LA UA none 0 lc uc 0 [] wr) := Lib.hid (by
        have h := HS.out
        have e1 := h.ol
        have e2 := h.ou
        rw [List.take_of_length_le (by omega)] at e1 e2
        exact ⟨h.bel, h.rb, h.rs, h.tb, e1, e2, World.ownsRow_nil _ _ _ _, fun r hr => (by cases hr), rfl⟩)
      have HLL := Lib.hid hlowl
      have HUL := Lib.hid hupl
      clear HS hlowl hupl
      go_wp2_with fail
      obtain ⟨wo, rfl⟩ : ∃ wo : World, wo = wr := ⟨_, rfl⟩
      go_loopw [39] (fun i wr => ∃ p : Nat, p ≤ k ∧ i = .int .i64 p ∧ ∃ PA pc rows, Hid (StR W b V2 V3 k c2 c3 (lowsT asg keep) (upsT os2 os3 k) (rowT asg keep os2 os3 k) LA UA PA p lc uc pc rows wr)) (fun i _ => k - (intOf i).toNat)
      case atStart => exact ⟨0, Nat.zero_le _, rfl, none, 0, [], HSR⟩
      case round =>
        obtain ⟨p, hp, rfl, PA, pc, rows, HS⟩ := hrel
        clear HSR
        by_cases hlt : p < k
        · have j3 : (0 : Int) ≤ (p : Int) := by omega
          have j4 : (p : Int) < (k : Int) := by omega
          go_wp2_with fail
          have hb1 : Bel wr (wr.alloc (.cells #[.int .i64 p] 3)) := (Bel.refl wr).alloc _
          have hi1 : (wr.alloc (.cells #[.int .i64 p] 3)).heap[wr.heap.size]? = some (.cells #[.int .i64 (p : Int)] 3 (0, 0)) := blk1 wr _
          have hz1 : (wr.alloc (.cells #[.int .i64 p] 3)).heap.size = wr.heap.size + 1 := by simp
          obtain ⟨w1, hw1⟩ : ∃ w1, w1 = wr.alloc (.cells #[.int .i64 p] 3) := ⟨_, rfl⟩
          rw [← hw1] at hb1 hz1 hi1 ⊢
          obtain ⟨ib, hib⟩ : ∃ ib, ib = wr.heap.size := ⟨_, rfl⟩
          rw [← hib] at hz1 hi1 ⊢
          have HI1 := Lib.hid hi1
          have HS1 := Lib.hid (HS.out.bel_ hb1)
          have HZ1 := Lib.hid hz1
          have hbz : b + 3 ≤ w1.heap.size := by have := (Array.getElem?_eq_some_iff.1 HS1.out.tb).1; omega
          clear hw1 hib hb1 hi1 hz1 HS
          obtain ⟨wp, rfl⟩ : ∃ wp : World, wp = wr := ⟨_, rfl⟩
          go_loopw [11, 44] (fun rv jv wr => ∃ q : Nat, q ≤ k ∧ jv = .int .i64 q ∧ ∃ RA rc, rv = .slice RA q rc ∧ Hid (Bel w1 wr) ∧ Hid (wr.ownsRow w1.heap.size 30 1 (.slice RA q rc) q (((rowT asg keep os2 os3 k p).take q).map (Value.int .u8)))) (fun _ j _ => k - (intOf j).toNat)
          case atStart => exact ⟨0, Nat.zero_le _, rfl, none, 0, rfl, Lib.hid (Bel.refl _), Lib.hid (World.ownsRow_nil _ _ _ _)⟩
          case round =>
            obtain ⟨q, hq, rfl, RA, rc, rfl, HBW, HOR⟩ := hrel
            by_cases hlt2 : q < k
            · have HSq := Lib.hid (HS1.out.bel_ HBW.out)
              go_wp2_with fail
              have hjb : (wr.alloc (.cells #[.int .i64 q] 3)).heap[wr.heap.size]? = some (.cells #[.int .i64 (q : Int)] 3 (0, 0)) := blk1 wr _
              have hbj : Bel wr (wr.alloc (.cells #[.int .i64 q] 3)) := (Bel.refl wr).alloc _
              have hPR : Calls Try.prog 48 #[.func (.func 51) #[] #[.pointer (some ⟨b + 2, 0, none⟩), .pointer (some ⟨ib, 0, none⟩), .pointer (some ⟨wr.heap.size, 0, none⟩), .pointer (some ⟨b, 0, none⟩)]] (wr.alloc (.cells #[.int .i64 q] 3)) fun e w' => e = .returned (.int .u8 (prT os2 os3 (upT os2 os3 p) ((lowsT asg keep)[q]?.getD 0) p q)) ∧ Bel (wr.alloc (.cells #[.int .i64 q] 3)) w' := by
                have h := HSq.out.bel_ hbj
                obtain ⟨lb, lcap, hLA, hlb, hlbs⟩ := h.ol.form (by omega)
                obtain ⟨ub, ucap, hUA, hub, hubs⟩ := h.ou.form (by omega)
                cases hLA
                cases hUA
                obtain ⟨t0, t1, _, _, _, _⟩ := cells3 h.tb
                have cl := h.ol.cells (g := lb) rfl q (.int .u8 ((lowsT asg keep)[q]?.getD 0)) (by rw [List.getElem?_map, List.getElem?_eq_getElem (by rw [HLL.out]; exact hlt2)]; rfl)
                have cu := h.ou.cells (g := ub) rfl p (.int .u8 (upT os2 os3 p)) (by unfold upsT; rw [List.map_map, List.getElem?_map, List.getElem?_range hlt]; rfl)
                rw [Addr.add_lit, Nat.zero_add] at cl cu
                exact pr_ask b (b + 2) ib wr.heap.size p q k c2 c3 lb k lc ub k uc V2 V3 os2 os3 _ _ hlt hlt2 hkn hlt hlt2 _ h.rb (hbj.blk (HBW.out.blk HI1.out)) hjb t0 t1 cu cl ⟨(Array.getElem?_eq_some_iff.1 h.tb).1, hubs, hlbs⟩ (H2.out.bel h.bel) (H3.out.bel h.bel)
              have HPR := Lib.hid hPR
              clear hPR hjb hbj
              obtain ⟨pv, hpv⟩ : ∃ pv, pv = prT os2 os3 (upT os2 os3 p) ((lowsT asg keep)[q]?.getD 0) p q := ⟨_, rfl⟩
              rw [← hpv] at HPR
              have HPV := Lib.hid hpv
              clear hpv
              refine HPR.out.mono ?_
              rintro e w2 ⟨rfl, hb2⟩
              have HB2 : Hid (Bel wr w2) := Lib.hid (((Bel.refl wr).alloc _).on hb2)
              have HO2 := Lib.hid (owns_bel HOR.out HB2.out)
              have hs2 : w1.heap.size ≤ w2.heap.size := Nat.le_trans HBW.out.size HB2.out.size
              clear hb2 HPR
              obtain ⟨i0, hi0, hz0, hz1, hz2⟩ := info_parts info_mu8'
              go_wp2_with (at_builtin; refine stopW ?_)
              unfold StopW
              refine wpList_append_own_at _ rfl _ _ 23 rfl w1.heap.size 30 i0 (.int .u8 0) 1 1 Try.underlying23 hi0 hz0 hz1 hz2 rfl (by decide) (.slice RA q rc) q _ rfl (HO2.out.alloc _) ⟨w2.heap.size, 0, none⟩ 1 1 [.int .u8 pv] rfl rfl (fun j u hu => by rw [Addr.add_lit, Nat.zero_add]; exact one_cell_at _ _ _ j u hu) (by simp [Value.oneCell']) (by unfold maxLen; omega) (by omega) (by simp; omega) ?_
              intro v' w3 hown3 hg3 _ hat3
              obtain ⟨g3, c3', rfl⟩ := ownsRow_succ hown3
              have HO3 : Hid (w3.ownsRow w1.heap.size 30 1 (.slice (some ⟨g3, 0, none⟩) (q + 1) c3') (q + 1) (((rowT asg keep os2 os3 k p).take (q + 1)).map (Value.int .u8))) := Lib.hid (by
                have e : (rowT asg keep os2 os3 k p)[q]? = some pv := by rw [HPV.out]; unfold rowT; rw [List.getElem?_map, List.getElem?_range hlt2]; rfl
                rw [List.take_add_one, e, List.map_append]
                exact hown3)
              have HB3 : Hid (Bel w1 w3) := Lib.hid (by
                refine ⟨hg3.os.trans (HB2.out.os.trans HBW.out.os), hg3.tape.trans (HB2.out.tape.trans HBW.out.tape), hg3.output.trans (HB2.out.output.trans HBW.out.output), by have := hg3.size; simp at this; omega, fun j hj => (hg3.block j (by simp; omega) (fun e => ?_)).trans ((Below.heap_alloc _ _ _ (by omega)).trans ((HB2.out.block j (by have := HBW.out.size; omega)).trans (HBW.out.block j hj)))⟩
                have := (HO2.out.lt j e.symm).1
                omega)
              clear hown3 hg3 hat3
              go_wp2_with fail
              exact ⟨⟨q + 1, by omega, by go_num, _, _, rfl, HB3, HO3⟩, by simp [intOf]; omega⟩
            · obtain rfl : q = k := by omega
              have HSq := Lib.hid (HS1.out.bel_ HBW.out)
              have HRW : Hid (wr.ownsRow (b + 3) 30 1 (.slice RA q rc) q ((rowT asg keep os2 os3 q p).map (Value.int .u8))) := Lib.hid (by
                have h := HOR.out
                rw [List.take_of_length_le (by simp [rowT])] at h
                exact own_mono h hbz)
              obtain ⟨t0, t1, t2, f0, f1, f2⟩ := cells3 HSq.out.tb
              have hbs : b + 2 < wr.heap.size := (Array.getElem?_eq_some_iff.1 HSq.out.tb).1
              have hbs3 : b + 3 ≤ wr.heap.size := by omega
              have hpm : p ≤ 150 := by omega
              obtain ⟨i0, hi0, hz0, hz1, hz2⟩ := info_parts info_slM
              go_wp2_with (at_builtin; refine stopW ?_)
              unfold StopW
              refine wpList_append_own_at _ rfl _ _ 24 rfl (b + 3) 23 i0 (.slice none 0 0) 1 24 Try.underlying24 hi0 hz0 hz1 hz2 rfl (by decide) (.slice PA p pc) p _ rfl (HSq.out.op.alloc _) ⟨wr.heap.size, 0, none⟩ 1 1 [.slice RA q rc] rfl rfl (fun j u hu => by rw [Addr.add_lit, Nat.zero_add]; exact one_cell_at _ _ _ j u hu) (by simp [Value.oneCell']) (by unfold maxLen; omega) (by omega) (by simp; omega) ?_
              intro v' w3 hown3 hg3 _ hat3
              obtain ⟨g3, c3', rfl⟩ := ownsRow_succ hown3
              have hne : (Value.slice PA p pc).ownBlock ≠ some (b + 2) := fun e => by have := own_lt_bk HSq.out.op (own_bk HSq.out.op e); omega
              have hbx : w3.heap[b + 2]? = some (.cells #[.slice LA q lc, .slice UA q uc, .slice PA p pc] 26 (0, 0)) := blk_far hg3 (((Bel.refl wr).alloc _).blk HSq.out.tb) (fun e => hne e.symm)
              have HNX := Lib.hid (HSq.out.more HBB.out HRW.out rfl ((Bel.refl wr).alloc _) hg3 hown3)
              clear t0 t1 t2 f0 f1 f2 hown3 hg3 hat3
              obtain ⟨t0, t1, t2, f0, f1, f2⟩ := cells3 hbx
              clear hbx
              go_wp2_with fail
              exact ⟨⟨p + 1, by omega, by go_num, _, _, _, HNX⟩, by simp [intOf]; omega⟩
        · obtain rfl : p = k := by omega
          obtain ⟨t0, t1, t2, f0, f1, f2⟩ := cells3 HS.out.tb
          obtain ⟨u0, u1, u2, g0, g1, g2⟩ := cells3 HS.out.rs
          go_wp2_with fail
          obtain ⟨w9, hw9⟩ : ∃ w9, w9 = (((wr.setCell ⟨b + 1, 0, none⟩ (.slice LA p lc)).setCell ⟨b + 1, 1, none⟩ (.slice UA p uc)).setCell ⟨b + 1, 2, none⟩ (.slice PA p pc)) := ⟨_, rfl⟩
          rw [← hw9]
          have h9 : w9.heap[b + 1]? = some (.cells #[.slice LA p lc, .slice UA p uc, .slice PA p pc] 26 (0, 0)) := by
            rw [hw9]
            have a1 := heap_setCell_same wr (b + 1) 0 _ _ (.slice LA p lc) HS.out.rs
            have a2 := heap_setCell_same _ (b + 1) 1 _ _ (.slice UA p uc) a1
            exact heap_setCell_same _ (b + 1) 2 _ _ (.slice PA p pc) a2
          have ho : ∀ j, j ≠ b + 1 → w9.heap[j]? = wr.heap[j]? := fun j hj => by
            rw [hw9, heap_setCell_other _ _ j _ (fun e => hj e), heap_setCell_other _ _ j _ (fun e => hj e), heap_setCell_other _ _ j _ (fun e => hj e)]
          have hs9 : w9.heap.size = wr.heap.size := by rw [hw9]; simp [World.setCell]
          have hos : w9.os = wr.os ∧ w9.tape = wr.tape ∧ w9.output = wr.output := by rw [hw9]; exact ⟨rfl, rfl, rfl⟩
          obtain ⟨k0, k1, k2, _, _, _⟩ := cells3 h9
          have hmu : ∀ (e : TypeId) (A : Option Addr) (n c : Nat) (xs : List Value), wr.ownsRow (b + 3) e 1 (.slice A n c) n xs → w9.ownsRow (b + 3) e 1 (.slice A n c) n xs := fun e A n c xs hx => own_blk hx (fun z hz => ho z (by have := own_lt_bk hx (own_bk hx hz); omega))
          have HNW := Lib.hid HS.out
          clear hw9 t0 t1 t2 f0 f1 f2 u0 u1 u2 g0 g1 g2
          refine bodyPost_ret (v := .agg #[.slice LA p lc, .slice UA p uc, .slice PA p pc]) (by simp [results, Try.results28, go_sem, k0, k1, k2]) rfl ?_
          refine ⟨LA, lc, UA, uc, PA, pc, rows, rfl, own_mono (hmu _ _ _ _ _ HNW.out.ol) (by have := HBB.out; omega), own_mono (hmu _ _ _ _ _ HNW.out.ou) (by have := HBB.out; omega), own_mono (hmu _ _ _ _ _ HNW.out.op) (by have := HBB.out; omega), fun r hr => ?_, HNW.out.ct, ⟨hos.1.trans HNW.out.bel.os, hos.2.1.trans HNW.out.bel.tape, hos.2.2.trans HNW.out.bel.output, by rw [hs9]; exact HNW.out.bel.size, fun j hj => (ho j (by have := HBB.out; omega)).trans (HNW.out.bel.block j hj)⟩⟩
          obtain ⟨e, hx⟩ := HNW.out.rws r hr
          refine ⟨e, own_mono ?_ (show W.heap.size ≤ b + 3 by have := HBB.out; omega)⟩
          rw [e] at hx ⊢
          exact hmu _ _ _ _ _ hx
end Go.Proofs.Ytlbachjhhjjmfaa.Mu

