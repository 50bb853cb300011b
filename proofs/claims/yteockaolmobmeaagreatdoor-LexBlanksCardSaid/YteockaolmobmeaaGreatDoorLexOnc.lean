/-
  The replacer is built once: sync.Once, walked.
-/
import Derived.Test.YteockaolmobmeaaGreatDoorLexBld
import Derived.Test.YteockaolmobmeaaGreatDoorLexLock
import Derived.Defers
import Derived.Laws.LoneSync
import Derived.RegionCalls
namespace Go.Proofs.YteockaolmobmeaaGreatDoor.Mu
open Go.RowKit Go.Shelf Go.MuLone
set_option maxRecDepth 100000

theorem store_def (a : Addr) (x : Value) (u : FrameMode) (w : World) (hc : w.cell? a = some x) (hz : w.frozen? a = false) :
    CallsD Tryz.prog 100 #[.pointer (some a), .bool true] u w fun e u' w' => u' = u ∧ (e = .returned (.tuple #[]) ∧ w' = w.drew.setCell a (.int .u32 1)) := by
  have hc' : w.drew.cell? a = some x := by go_simp
  have hz' : w.drew.frozen? a = false := by go_simp
  have hst := run_call_store (P := Tryz.prog) Tryz.func108 (by kernel_rfl) (by kernel_rfl) (by kernel_rfl) (by kernel_rfl) (k := .u32) (y := 1) hc' hz'
  go_enter_d Tryz.func100, Tryz.ntmps100
  go_wp2
  go_region_calls
  all_goals (go_end0; exact ⟨rfl, rfl⟩)
theorem Tab.keep {w w' : World} {g : Nat} {S : Value} {j : Nat} {b : Nat} {cs : Array Value} {T : TypeId} {fr : Nat × Nat} (h : Tab w g S j) (hb : w.heap[b]? = some (.cells cs T fr)) (hT : T ≠ 159 ∧ T ≠ 5) (hk : ∀ x, x ≠ b → w'.heap[x]? = w.heap[x]?) : Tab w' g S j := by
  obtain ⟨C, h1, h2, h3, h4⟩ := h.ex
  have hne : ∀ (x : Nat) (Cb : Array Value) (t : TypeId) (f : Nat × Nat), w.heap[x]? = some (.cells Cb t f) → t ≠ T → x ≠ b := fun x Cb t f hx ht e => by
    rw [e, hb] at hx
    simp only [Option.some.injEq, Obj.cells.injEq] at hx
    exact ht hx.2.1.symm
  refine ⟨C, by rw [hk _ (hne g C _ _ h1 hT.1.symm)]; exact h1, h2, h3, fun u hu => ⟨(h4 u hu).1, fun bs hbs => ?_⟩⟩
  obtain ⟨bk, ck, Cb, f, a1, a2, a3⟩ := (h4 u hu).2 bs hbs
  have hn := hne bk Cb _ _ a2 hT.2.symm
  exact ⟨bk, ck, Cb, f, a1, by rw [hk _ hn]; exact a2, fun q x hq => (World.cell?_of_block (a := ⟨bk, q, none⟩) (hk _ hn)).trans (a3 q x hq)⟩
/-- What the replacer is, built. -/
structure Built (w w' : World) (b : Nat) (v0 v1 : Int) : Prop where
  ex : ∃ (g : Nat) (A4 : Option Addr) (c4 : Nat), w'.heap[b]? = some (.cells #[.int .u32 v0, .int .i32 v1, .int .u32 0, .iface 160 (.pointer (some ⟨g, 0, none⟩)), .slice none 0 0] 117 (0, 0)) ∧ w.heap.size ≤ g ∧ Tab w' g (.slice A4 4 c4) 0 ∧ w'.ownsRow w.heap.size 9 1 (.slice A4 4 c4) 4 (strs (tr 0)) ∧ Kr b w w'
set_option maxHeartbeats 4000000 in
theorem buildOnce_any {b : Nat} {A : Option Addr} {cp : Nat} (w : World) (hb : w.heap[b]? = some (.cells #[.int .u32 0, .int .i32 1, .int .u32 0, .nilIface, .slice A 8 cp] 117 (0, 0))) (hr : RL w w.heap.size A 8 oldnew) :
    Calls Tryz.prog 64 #[.pointer (some ⟨b, 0, none⟩)] w fun e w' => e = .returned (.tuple #[]) ∧ Built w w' b 0 1 := by
  have HC := Lib.hid (build_any w hb hr)
  have H := Lib.hid hb
  have hblt := (Array.getElem?_eq_some_iff.1 hb).1
  clear hb hr
  go_enter Tryz.func64, Tryz.ntmps64
  go_wp2_with fail
  refine HC.out.mono ?_
  rintro e w1 ⟨g, A4, c4, rfl, hg, ht, ho, hb1⟩
  have hbb := hb1.blk H.out
  obtain ⟨⟨c0, c1, c2, c3, c4'⟩, f0, f1, f2, f3, f4⟩ := cells5r hbb
  have HBB := Lib.hid hbb
  have HT := Lib.hid ht
  have HO := Lib.hid ho
  have HB1 := Lib.hid hb1
  clear ht ho hb1 hbb
  go_wp2
  go_end0
  have hbg : b < g := by omega
  have e5 : ((w1.setCell ⟨b, 3, none⟩ (.iface 160 (.pointer (some ⟨g, 0, none⟩)))).setCell ⟨b, 4, none⟩ (.slice none 0 0)).heap[b]? = some (.cells #[.int .u32 0, .int .i32 1, .int .u32 0, .iface 160 (.pointer (some ⟨g, 0, none⟩)), .slice none 0 0] 117 (0, 0)) := by
    simp [World.setCell, Array.getElem?_modify, HBB.out]
  have hk : Kr b w ((w1.setCell ⟨b, 3, none⟩ (.iface 160 (.pointer (some ⟨g, 0, none⟩)))).setCell ⟨b, 4, none⟩ (.slice none 0 0)) := ((Kr.of_bel HB1.out).set_ _ _).set_ _ _
  have hoth : ∀ x, x ≠ b → ((w1.setCell ⟨b, 3, none⟩ (.iface 160 (.pointer (some ⟨g, 0, none⟩)))).setCell ⟨b, 4, none⟩ (.slice none 0 0)).heap[x]? = w1.heap[x]? := fun x hx => by
    rw [Below.heap_setCell _ _ _ _ hx, Below.heap_setCell _ _ _ _ hx]
  exact ⟨rfl, g, A4, c4, e5, hg, HT.out.keep HBB.out (by decide) hoth, row_keepL HO.out fun x hx => hoth x fun e => row_neL HO.out HBB.out (by decide) (by rw [hx, e]), hk⟩
theorem aload_any (b : Nat) (w : World) (h : w.cell? ⟨b, 0, none⟩ = some (.int .u32 0)) : Calls Tryz.prog 82 #[.pointer (some ⟨b, 0, none⟩)] w fun e w' => e = .returned (.bool false) ∧ w = w' := by
  have hl := run_call_load (P := Tryz.prog) Tryz.func97 (by kernel_rfl) (by kernel_rfl) (by kernel_rfl) .u32 (by kernel_rfl) h
  go_enter Tryz.func82, Tryz.ntmps82
  go_wp2
  go_ret
  exact ⟨rfl, rfl⟩
set_option maxHeartbeats 4000000 in
theorem slow_any {b : Nat} {A : Option Addr} {cp : Nat} (w : World) (hb : w.heap[b]? = some (.cells #[.int .u32 0, .int .i32 0, .int .u32 0, .nilIface, .slice A 8 cp] 117 (0, 0))) (hr : RL w w.heap.size A 8 oldnew) (hab : ∀ a, A = some a → a.block ≠ b) :
    Calls Tryz.prog 83 #[.pointer (some ⟨b, 0, none⟩), .func (.func 64) #[.pointer (some ⟨b, 0, none⟩)] #[]] w fun e w' => e = .returned (.tuple #[]) ∧ Built w w' b 1 0 := by
  have hb1 : (w.setCell ⟨b, 1, none⟩ (.int .i32 1)).heap[b]? = some (.cells #[.int .u32 0, .int .i32 1, .int .u32 0, .nilIface, .slice A 8 cp] 117 (0, 0)) := by simp [World.setCell, Array.getElem?_modify, hb]
  have hr1 : RL (w.setCell ⟨b, 1, none⟩ (.int .i32 1)) (w.setCell ⟨b, 1, none⟩ (.int .i32 1)).heap.size A 8 oldnew := by
    refine ⟨hr.1, fun hn => ?_⟩
    obtain ⟨ba, oa, e, hba, hc⟩ := hr.2 hn
    refine ⟨ba, oa, e, by simpa using hba, fun j s hs => ?_⟩
    rw [← hc j s hs]
    exact World.cell?_of_block (a := ⟨ba, oa + j, none⟩) (Below.heap_setCell _ _ _ _ (by have := hab _ e; exact this))
  have HC := Lib.hid (buildOnce_any _ hb1 hr1)
  obtain ⟨⟨c0, c1, c2, c3, c4⟩, f0, f1, f2, f3, f4⟩ := cells5r hb
  obtain ⟨⟨k0, k1, k2, k3, k4⟩, l0, l1, l2, l3, l4⟩ := cells5r hb1
  have hblt := (Array.getElem?_eq_some_iff.1 hb).1
  have HL := Lib.hid (aload_any b _ k0)
  have hnot : ∀ (x : Bool) (w : World), (Op.unary .not (.bool x)).run Tryz.prog w = .ok (.bool (!x)) w := fun _ _ => rfl
  clear hb hr hb1 hr1 k0 k1 k2 k3 k4 l0 l1 l2 l3 l4
  go_enter_defers Tryz.func83, Tryz.ntmps83
  go_wp2_with (first | (go_at_call 98; refine (lock_free Tryz.muLib ⟨b, 1, none⟩ _ (by go_simp) (by go_simp)).mono ?_; rintro e w' ⟨rfl, rfl⟩) | (go_at_call 82; refine HL.out.mono ?_; rintro e w' ⟨rfl, rfl⟩) | (go_at_call 64; refine HC.out.mono ?_; rintro e w2 ⟨rfl, hbu⟩; (have HBU := Lib.hid hbu); clear hbu))
  obtain ⟨g, A4, c4', e5, hg, ht, ho, hk⟩ := HBU.out.ex
  obtain ⟨⟨k0, k1, k2, k3, k4⟩, l0, l1, l2, l3, l4⟩ := cells5r e5
  refine leaves_cons (f := 100) (args := #[.pointer (some ⟨b, 0, none⟩), .bool true]) (by simp) (by simp [go_sem]) ?_
  refine (store_def ⟨b, 0, none⟩ (.int .u32 0) .returning _ k0 l0).mono ?_
  rintro e u' w'' ⟨rfl, rfl, rfl⟩
  have e6 : (w2.drew.setCell ⟨b, 0, none⟩ (.int .u32 1)).heap[b]? = some (.cells #[.int .u32 1, .int .i32 1, .int .u32 0, .iface 160 (.pointer (some ⟨g, 0, none⟩)), .slice none 0 0] 117 (0, 0)) := by
    have e5' : w2.drew.heap[b]? = _ := e5
    simp only [World.setCell, Array.getElem?_modify, if_true, e5']
    simp
  obtain ⟨⟨p0', p1', -, -, -⟩, q0, q1, -, -, -⟩ := cells5r e6
  refine leaves_cons (f := 99) (args := #[.pointer (some ⟨b, 1, none⟩)]) (by simp [settle]) (by simp [go_sem]) ?_
  refine (unlock_deferred Tryz.muLib ⟨b, 1, none⟩ _ _ p1' q1).mono ?_
  rintro e u' w'' ⟨rfl, rfl, rfl⟩
  have e7 : ((w2.drew.setCell ⟨b, 0, none⟩ (.int .u32 1)).setCell ⟨b, 1, none⟩ (.int .i32 0)).heap[b]? = some (.cells #[.int .u32 1, .int .i32 0, .int .u32 0, .iface 160 (.pointer (some ⟨g, 0, none⟩)), .slice none 0 0] 117 (0, 0)) := by
    simp only [World.setCell] at e6 ⊢
    simp only [Array.getElem?_modify, if_true] at e6 ⊢
    rw [e6]; simp
  have hoth : ∀ x, x ≠ b → ((w2.drew.setCell ⟨b, 0, none⟩ (.int .u32 1)).setCell ⟨b, 1, none⟩ (.int .i32 0)).heap[x]? = w2.heap[x]? := fun x hx => by
    rw [Below.heap_setCell _ _ _ _ hx, Below.heap_setCell _ _ _ _ hx]; rfl
  have hk0 : Kr b w (w.setCell ⟨b, 1, none⟩ (.int .i32 1)) := (Kr.refl b w).set_ _ _
  have hfin : Built w ((w2.drew.setCell ⟨b, 0, none⟩ (.int .u32 1)).setCell ⟨b, 1, none⟩ (.int .i32 0)) b 1 0 := by
    have hz : (w.setCell ⟨b, 1, none⟩ (.int .i32 1)).heap.size = w.heap.size := by simp
    rw [hz] at hg ho
    exact ⟨g, A4, c4', e7, hg, ht.keep e5 (by decide) hoth, row_keepL ho fun x hx => hoth x fun e => row_neL ho e5 (by decide) (by rw [hx, e]), (((hk0.on hk).bel ((Bel.refl w2).drew)).set_ _ _).set_ _ _⟩
  have HF := Lib.hid hfin
  clear hfin e5 e6 e7 ht ho hk hoth
  simp [Leaves, settle, results, Tryz.results83]
  exact HF.out
end Go.Proofs.YteockaolmobmeaaGreatDoor.Mu

