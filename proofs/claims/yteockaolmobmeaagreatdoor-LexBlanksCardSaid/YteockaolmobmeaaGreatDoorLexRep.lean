/-
  A replacer is laid, and built at its first use: walked.
-/
import Derived.Test.YteockaolmobmeaaGreatDoorLexOnc
namespace Go.Proofs.YteockaolmobmeaaGreatDoor.Mu
open Go.RowKit Go.Shelf
set_option maxRecDepth 100000

section
variable {P : Program} {w : World}
theorem wpList_append_many {ops : Array Oper} {rest : List Oper} {o : Oper} {a : Act} {Q : Exit → Act → World → Prop} (hgd : o.guard = none) (s x : Operand) (t : TypeId)
    (ho : o.op = .call { callee := .builtin .append, args := #[s, x], argTypes := #[t, t] })
    (base : Nat) (e : TypeId) (z : Value) (size bytes : Nat) (ht : P.underlying t = some (.slice e)) (hinfo : (P.info? e).map (fun i => (i.zero, i.size, i.bytes)) = some (some z, size, bytes))
    (hzs : z.cells.size = size) (hsz : 0 < size) (hby : bytes ≤ 1000)
    (A : Option Addr) (n c : Nat) (xs : List Value) (hs : a.eval s = .slice A n c) (hown : w.ownsRow base e size (.slice A n c) n xs)
    (b off k d : Nat) (news : List Value) (hx : a.eval x = .slice (some ⟨b, off, none⟩) k d) (hl : news.length = k * size) (hnews : ∀ j u, news[j]? = some u → w.cell? ⟨b, off + j, none⟩ = some u) (h1 : ∀ u ∈ news, u.oneCell' = true)
    (hmax : n + k ≤ 1000000000) (hbase : base ≤ w.heap.size)
    (h : ∀ A' c' w', w'.ownsRow base e size (.slice A' (n + k) c') (n + k) (xs ++ news) → w.grownBy w' (Value.slice A n c).ownBlock → wpList P ops Q rest (a.put o.dst (.slice A' (n + k) c')) w') : wpList P ops Q (o :: rest) a w := by
  obtain ⟨i, hi, hz0, hz1, hz2⟩ := info_parts hinfo
  refine wpList_append_own w hgd s x t ho base e i z size bytes ht hi hz0 hz1 hz2 hzs hsz _ n _ hs hown ⟨b, off, none⟩ k d news hx (by omega) ?_ h1 (by unfold maxLen; omega) ?_ hbase ?_
  · intro j u hu
    rw [Addr.add_lit]
    exact hnews j u hu
  · calc (n + k) * bytes ≤ 1000000000 * 1000 := Nat.mul_le_mul hmax hby
      _ ≤ _ := by omega
  · intro v' w' hown' hg _
    obtain ⟨A', c', rfl⟩ := own_form_n hown'
    exact h A' c' w' hown' hg
end
set_option maxHeartbeats 4000000 in
theorem do_any {b : Nat} {A : Option Addr} {cp : Nat} (w : World) (hb : w.heap[b]? = some (.cells #[.int .u32 0, .int .i32 0, .int .u32 0, .nilIface, .slice A 8 cp] 117 (0, 0))) (hr : RL w w.heap.size A 8 oldnew) (hab : ∀ a, A = some a → a.block ≠ b) :
    Calls Tryz.prog 63 #[.pointer (some ⟨b, 0, none⟩), .func (.func 64) #[.pointer (some ⟨b, 0, none⟩)] #[]] w fun e w' => e = .returned (.tuple #[]) ∧ Built w w' b 1 0 := by
  have HS := Lib.hid (slow_any w hb hr hab)
  have HL := Lib.hid (aload_any b w (cells5r hb).1.1)
  have hblt := (Array.getElem?_eq_some_iff.1 hb).1
  have hnot : ∀ (x : Bool) (w : World), (Op.unary .not (.bool x)).run Tryz.prog w = .ok (.bool (!x)) w := fun _ _ => rfl
  clear hb hr hab
  go_enter Tryz.func63, Tryz.ntmps63
  go_wp2_with (first | (go_at_call 82; refine HL.out.mono ?_; rintro e w' ⟨rfl, rfl⟩) | (go_at_call 83; refine HS.out.mono ?_; rintro e w2 ⟨rfl, hbu⟩; (have HBU := Lib.hid hbu); clear hbu))
  go_end0
  exact ⟨rfl, HBU.out⟩
set_option maxHeartbeats 4000000 in
theorem newRep_any {A : Option Addr} {cp : Nat} (w : World) (hr : RL w w.heap.size A 8 oldnew) :
    Calls Tryz.prog 42 #[.slice A 8 cp] w fun e w' => ∃ (b : Nat) (A2 : Option Addr) (c2 : Nat), e = .returned (.pointer (some ⟨b, 0, none⟩)) ∧ w'.heap[b]? = some (.cells #[.int .u32 0, .int .i32 0, .int .u32 0, .nilIface, .slice A2 8 c2] 117 (0, 0)) ∧ RL w' w'.heap.size A2 8 oldnew ∧ (∀ a, A2 = some a → a.block ≠ b) ∧ w.heap.size ≤ b ∧ Bel w w' := by
  obtain ⟨-, hr2⟩ := hr
  obtain ⟨ba, oa, rfl, hba, hcc⟩ := hr2 (by omega)
  have hn : ∀ j u, (strs oldnew)[j]? = some u → w.cell? ⟨ba, oa + j, none⟩ = some u := fun j u hu => by
    rw [strs, List.getElem?_map] at hu
    obtain ⟨s, hs, rfl⟩ := Option.map_eq_some_iff.1 hu
    exact hcc j s hs
  have HN := Lib.hid hn
  clear hcc hr2 hn
  go_enter Tryz.func42, Tryz.ntmps42
  go_wp2_with (at_builtin; refine wpList_append_many rfl _ _ 24 rfl w.heap.size 9 _ 1 16 Tryz.underlying24 info_str' rfl (by decide) (by decide) none 0 0 [] rfl (World.ownsRow_nil _ _ _ _) ba oa 8 cp (strs oldnew) rfl (by decide) HN.out (by decide) (by decide) (Nat.le_refl _) ?_; intro A5 c5 w5 hown5 hg5; (have HO5 := Lib.hid hown5); (have HG5 := Lib.hid hg5); clear hown5 hg5)
  go_ret
  have hb5 : Bel w w5 := Below.grown (Bel.refl w) HG5.out (Nat.le_refl _) (fun k hk => by cases hk)
  have hq := blk1 w5 (.cells #[.int .u32 0, .int .i32 0, .int .u32 0, .nilIface, .slice A5 8 c5] 117)
  have ho : w5.ownsRow w.heap.size 9 1 (.slice A5 8 c5) 8 (strs oldnew) := by simpa using HO5.out
  have hrl : ∃ g, A5 = some ⟨g, 0, none⟩ ∧ g < w5.heap.size ∧ ∀ j s, oldnew[j]? = some s → w5.cell? ⟨g, 0 + j, none⟩ = some (.string ⟨s.toArray⟩) := by
    obtain ⟨g, e1, e2, -, -, e5⟩ := strs_reads ho (by decide)
    exact ⟨g, e1, e2, fun j s hs => e5 j ⟨s.toArray⟩ (by rw [List.getElem?_map, hs]; rfl)⟩
  obtain ⟨g, rfl, hgl, hgc⟩ := hrl
  refine ⟨w5.heap.size, _, c5, rfl, hq, ⟨rfl, fun _ => ⟨g, 0, rfl, by simp; omega, fun j s hs => ?_⟩⟩, fun a ha => ?_, hb5.size, hb5.alloc _⟩
  · rw [← hgc j s hs]
    exact ((Bel.refl w5).alloc _).cell (p := ⟨g, 0 + j, none⟩) hgl
  · injection ha with ha
    rw [← ha]
    show g ≠ w5.heap.size
    omega
end Go.Proofs.YteockaolmobmeaaGreatDoor.Mu

