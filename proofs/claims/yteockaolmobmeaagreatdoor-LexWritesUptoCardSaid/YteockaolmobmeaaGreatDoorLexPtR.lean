/-
  Put of the document, walked.
-/
import Derived.Test.YteockaolmobmeaaGreatDoorLexMyR
import Derived.Test.YteockaolmobmeaaGreatDoorLexRep
import Derived.Test.YteockaolmobmeaaGreatDoorLexEsc
import Derived.Laws.OwnMore
namespace Go.Proofs.YteockaolmobmeaaGreatDoor.Mu
open Go.RowKit Go.Shelf
set_option maxRecDepth 100000

/-- Bytes as cells. -/
def u8s (bs : List UInt8) : List Value := bs.map fun u : UInt8 => Value.int .u8 u.toNat
theorem u8s_len (bs : List UInt8) : (u8s bs).length = bs.length := by simp [u8s]
theorem u8s_app (a b : List UInt8) : u8s (a ++ b) = u8s a ++ u8s b := by simp [u8s]
/-- A row of bytes of the call's own, as a string. -/
theorem bytes_own {w : World} {base n c : Nat} {A : Option Addr} {bs : List UInt8} (h : w.ownsRow base 5 1 (.slice A n c) n (u8s bs)) (h0 : 0 < n) :
    (convert 40 9 (.slice A n c)).run Tryz.prog w = .ok (.string ⟨bs.toArray⟩) w := by
  have hl : n = bs.length := by have := h.1; rw [u8s_len] at this; omega
  obtain ⟨g, cap, hv, _, hlt⟩ := h.form h0
  have hA : A = some ⟨g, 0, none⟩ := by injection hv
  subst hA
  rw [run_convert_bytes_string w _ _ 5 _ _ _ Tryz.underlying40 Tryz.underlying5 Tryz.underlying9]
  rw [run_bytesToString w _ _ _ (bs.map fun u : UInt8 => (u.toNat : Int))]
  · congr 2
    have : ∀ (l : List Int) (r : ByteArray), l.foldl (fun r n => r.push (UInt8.ofNat n.toNat)) r = ⟨r.data ++ (l.map fun x => UInt8.ofNat x.toNat).toArray⟩ := by
      intro l
      induction l with
      | nil => intro r; simp
      | cons x l ih => intro r; simp only [List.foldl_cons, ih]; simp [ByteArray.push]
    rw [this, List.map_map]
    have e : (bs.map ((fun x : Int => UInt8.ofNat x.toNat) ∘ fun u : UInt8 => (u.toNat : Int))) = bs := by
      conv => rhs; rw [← List.map_id bs]
      refine List.map_congr_left fun x _ => ?_
      simp
    rw [e]
    simp
  · rw [run_loadCells w _ _ (fun j => (u8s bs).getD j undef)]
    · congr 1
      apply Array.ext'
      apply List.ext_getElem
      · simp [hl]
      · intro i h1 h2; simp at h1 h2; simp [u8s, h2]
    · intro j hj
      have hlt2 : j < (u8s bs).length := by rw [u8s_len]; omega
      have := h.cells (g := g) rfl j _ (List.getElem?_eq_getElem hlt2)
      rw [this, List.getD_eq_getElem?_getD, List.getElem?_eq_getElem hlt2]; rfl
theorem app_below0 {W w5 : World} {base b0 : Nat} {e : TypeId} {size : Nat} {V : Value} {n : Nat} {xs : List Value} {w : World} (hbel : Below b0 w W) (hown : W.ownsRow base e size V n xs) {o : Obj} (hg : (W.alloc o).grownBy w5 V.ownBlock) (hB : base ≤ W.heap.size) (hb0 : b0 ≤ base) : Below b0 w w5 :=
  Below.grown (hbel.alloc (by omega) o) hg (by simp; omega) (fun j hj => by have := (hown.lt _ hj).1; omega)
theorem box_kept {W w5 : World} {base g : Nat} {e : TypeId} {size : Nat} {V : Value} {n : Nat} {xs : List Value} {o B : Obj} (hown : W.ownsRow base e size V n xs) (hg : (W.alloc o).grownBy w5 V.ownBlock) (hlt : g < base) (hbox : W.heap[g]? = some B) : w5.heap[g]? = some B := by
  have h1 := (Array.getElem?_eq_some_iff.1 hbox).1
  rw [hg.block g (by simp; omega) (fun e => by have := (hown.lt _ e.symm).1; omega)]
  exact ((Bel.refl W).alloc o).blk hbox
theorem u8_news (w : World) (L : List Value) (t : TypeId) (cs : List Value) (h : cs = L) : ∀ q u, cs[q]? = some u → (w.alloc (.cells L.toArray t)).cell? ⟨w.heap.size, q, none⟩ = some u := by
  subst h
  intro j u hu
  have hb := blk1 w (.cells cs.toArray t)
  unfold World.cell?
  rw [hb]
  simp [hu]
theorem take_esc10 {s : List UInt8} {k : Nat} {x : UInt8} (h : s[k]? = some x) : (s.take (k + 1)).flatMap escB = (s.take k).flatMap escB ++ escB x := by
  obtain ⟨hl, e⟩ := List.getElem?_eq_some_iff.1 h
  rw [List.take_succ_eq_append_getElem hl, e]; simp
theorem esc_of_10 {u : UInt8} (h : u.toNat = 10) : escB u = [92, 110] := by
  have : u = 10 := UInt8.toNat_inj.1 h
  subst this; rfl
theorem esc_of_9 {u : UInt8} (h : u.toNat = 9) : escB u = [92, 116] := by
  have : u = 9 := UInt8.toNat_inj.1 h
  subst this; rfl
theorem esc_of_q {u : UInt8} (h : u.toNat = 34 ∨ u.toNat = 92) : escB u = [92, u] := by
  rcases h with h | h
  · have : u = 34 := UInt8.toNat_inj.1 h
    subst this; rfl
  · have : u = 92 := UInt8.toNat_inj.1 h
    subst this; rfl
theorem esc_of_n {u : UInt8} (h1 : u.toNat ≠ 10) (h2 : u.toNat ≠ 9) (h3 : u.toNat ≠ 34) (h4 : u.toNat ≠ 92) : escB u = [u] := by
  unfold escB
  rw [if_neg (by rintro rfl; exact h1 rfl), if_neg (by rintro rfl; exact h2 rfl), if_neg (by rintro (rfl | rfl); exact h3 rfl; exact h4 rfl)]
open Classical in
set_option maxHeartbeats 8000000 in
theorem rput_str (S : ByteArray) (hS : S.size ≤ 4000000) (n a l c : Int) (w : World) :
    Calls Tryz.prog 31 #[.agg #[.int .u8 4, .string S, .int .i64 n, .int .i64 a, .int .i64 l, .int .i64 c]] w fun e w' => e = .returned (.string ⟨(34 :: (S.data.toList.flatMap escB ++ [34])).toArray⟩) ∧ Bel w w' := by
  obtain ⟨ans, hans⟩ : ∃ ans : ByteArray, ans = ⟨(34 :: (S.data.toList.flatMap escB ++ [34])).toArray⟩ := ⟨_, rfl⟩
  rw [← hans]
  obtain ⟨s, hs⟩ : ∃ s, s = S.data.toList := ⟨_, rfl⟩
  rw [← hs] at hans
  have hlen : s.length = S.size := by rw [hs]; exact Array.length_toList
  have hby : ∀ i (h : i < S.size), s[i]? = some (S[i]'h) := fun i h => by
    subst hs
    rw [List.getElem?_eq_getElem (by rw [hlen]; exact h)]
    rfl
  have HANS := Lib.hid hans
  have HLEN := Lib.hid hlen
  have HBY := Lib.hid hby
  clear hans hs hlen hby
  go_enter Tryz.func31, Tryz.ntmps31
  go_wp2_with fail
  go_loopg [3, 4] (S.size + 1) (fun gk v i wr => ∃ (j nn : Nat) (A2 : Option Addr) (c2 : Nat), v = .slice A2 nn c2 ∧ i = .int .i64 (j : Int) ∧ Hid (j ≤ S.size ∧ S.size - j < gk) ∧ (0 < nn ∧ nn ≤ 2 * j + 1) ∧ Hid (wr.ownsRow (w.heap.size + 1) 5 1 (.slice A2 nn c2) nn (u8s (34 :: (s.take j).flatMap escB))) ∧ Hid (Bel w wr) ∧ Hid (wr.heap[w.heap.size]? = some (.cells #[.int .u8 4, .string S, .int .i64 n, .int .i64 a, .int .i64 l, .int .i64 c] 44 (0, 0))))
  case atStart =>
    refine ⟨0, 1, _, _, rfl, rfl, Lib.hid ⟨by omega, by omega⟩, ⟨by omega, by omega⟩, Lib.hid ?_, Lib.hid (((Bel.refl w).alloc _).alloc _), Lib.hid (blk2 w _ _).1⟩
    have := World.ownsRow_lit (base := w.heap.size + 1) (size := 1) (e := 5) (w.alloc (.cells #[.int .u8 4, .string S, .int .i64 n, .int .i64 a, .int .i64 l, .int .i64 c] 44)) #[.int .u8 34] 1 (by simp) (by decide) rfl
    simpa [u8s] using this
  case round =>
    obtain ⟨j, nn, A2, c2, rfl, rfl, HJ, hnn, HO, HB, HQ⟩ := hrel
    obtain ⟨⟨t0, t1, t2, t3, t4, t5⟩, -⟩ := cells6 HQ.out
    have hwz : w.heap.size < wr.heap.size := (Array.getElem?_eq_some_iff.1 HQ.out).1
    by_cases hj : j < S.size
    · obtain ⟨L, hL⟩ : ∃ L, L = 34 :: (s.take j).flatMap escB := ⟨_, rfl⟩
      rw [← hL] at HO
      have hnx : 34 :: (s.take (j + 1)).flatMap escB = L ++ escB (S[j]'hj) := by
        rw [hL, take_esc10 (HBY.out j hj)]; rfl
      have HNX := Lib.hid hnx
      have hc8 := (S[j]'hj).toNat_lt
      have HJJ := Lib.hid (⟨HJ.out, hj⟩ : (j ≤ S.size ∧ S.size - j < gk) ∧ j < S.size)
      have hj4 : j < 4000000 := by omega
      clear hL hnx
      have hcase : (S[j]'hj).toNat = 10 ∨ (S[j]'hj).toNat = 9 ∨ (S[j]'hj).toNat = 34 ∨ (S[j]'hj).toNat = 92 ∨ ((S[j]'hj).toNat ≠ 10 ∧ (S[j]'hj).toNat ≠ 9 ∧ (S[j]'hj).toNat ≠ 34 ∧ (S[j]'hj).toNat ≠ 92) := by omega
      rcases hcase with h | h | h | h | ⟨h1, h2, h3, h4⟩
      · have he : escB (S[j]'hj) = [92, 110] := esc_of_10 h
        have d1 : (((S[j]'hj).toNat : Int) == 10) = true := by rw [h]; rfl
        clear h
        rw [he] at HNX
        clear he
        go_wp2_with (at_builtin; refine wpList_append_many rfl _ _ 40 rfl (w.heap.size + 1) 5 _ 1 1 Tryz.underlying40 info_u8 rfl (by decide) (by decide) A2 nn c2 (u8s L) rfl (HO.out.alloc _) wr.heap.size 0 2 2 (u8s [92, 110]) rfl rfl (by intro q u hu; rw [Nat.zero_add]; exact u8_news wr _ _ _ rfl q u hu) (by simp [u8s, Value.oneCell']) (by omega) (by simp; omega) ?_; intro A5 c5 w5 hown5 hg5; (have HO5 := Lib.hid hown5); (have HB5 := Lib.hid (app_below0 HB.out HO.out hg5 (by omega) (Nat.le_succ _))); (have HQ5 := Lib.hid (box_kept HO.out hg5 (Nat.lt_succ_self _) HQ.out)); clear hown5 hg5)
        obtain ⟨⟨hj1, hj2⟩, hj3⟩ := HJJ.out
        go_roundg (gk - 1)
        case rel => exact ⟨j + 1, _, A5, c5, rfl, by go_num, Lib.hid ⟨by omega, by omega⟩, ⟨by omega, by omega⟩, by rw [HNX.out, u8s_app]; exact HO5, HB5, HQ5⟩
        case measure => omega
      · have he : escB (S[j]'hj) = [92, 116] := esc_of_9 h
        have d1 : (((S[j]'hj).toNat : Int) == 10) = false := by rw [h]; rfl
        have d2 : (((S[j]'hj).toNat : Int) == 9) = true := by rw [h]; rfl
        clear h
        rw [he] at HNX
        clear he
        go_wp2_with (at_builtin; refine wpList_append_many rfl _ _ 40 rfl (w.heap.size + 1) 5 _ 1 1 Tryz.underlying40 info_u8 rfl (by decide) (by decide) A2 nn c2 (u8s L) rfl (HO.out.alloc _) wr.heap.size 0 2 2 (u8s [92, 116]) rfl rfl (by intro q u hu; rw [Nat.zero_add]; exact u8_news wr _ _ _ rfl q u hu) (by simp [u8s, Value.oneCell']) (by omega) (by simp; omega) ?_; intro A5 c5 w5 hown5 hg5; (have HO5 := Lib.hid hown5); (have HB5 := Lib.hid (app_below0 HB.out HO.out hg5 (by omega) (Nat.le_succ _))); (have HQ5 := Lib.hid (box_kept HO.out hg5 (Nat.lt_succ_self _) HQ.out)); clear hown5 hg5)
        obtain ⟨⟨hj1, hj2⟩, hj3⟩ := HJJ.out
        go_roundg (gk - 1)
        case rel => exact ⟨j + 1, _, A5, c5, rfl, by go_num, Lib.hid ⟨by omega, by omega⟩, ⟨by omega, by omega⟩, by rw [HNX.out, u8s_app]; exact HO5, HB5, HQ5⟩
        case measure => omega
      · have he : escB (S[j]'hj) = [92, S[j]'hj] := esc_of_q (.inl h)
        have d1 : (((S[j]'hj).toNat : Int) == 10) = false := by rw [h]; rfl
        have d2 : (((S[j]'hj).toNat : Int) == 9) = false := by rw [h]; rfl
        have d3 : (((S[j]'hj).toNat : Int) == 34) = true := by rw [h]; rfl
        clear h
        rw [he] at HNX
        clear he
        go_wp2_with (at_builtin; refine wpList_append_many rfl _ _ 40 rfl (w.heap.size + 1) 5 _ 1 1 Tryz.underlying40 info_u8 rfl (by decide) (by decide) A2 nn c2 (u8s L) rfl (HO.out.alloc _) wr.heap.size 0 2 2 (u8s [92, S[j]'hj]) rfl rfl (by intro q u hu; rw [Nat.zero_add]; exact u8_news wr _ _ _ rfl q u hu) (by simp [u8s, Value.oneCell']) (by omega) (by simp; omega) ?_; intro A5 c5 w5 hown5 hg5; (have HO5 := Lib.hid hown5); (have HB5 := Lib.hid (app_below0 HB.out HO.out hg5 (by omega) (Nat.le_succ _))); (have HQ5 := Lib.hid (box_kept HO.out hg5 (Nat.lt_succ_self _) HQ.out)); clear hown5 hg5)
        obtain ⟨⟨hj1, hj2⟩, hj3⟩ := HJJ.out
        go_roundg (gk - 1)
        case rel => exact ⟨j + 1, _, A5, c5, rfl, by go_num, Lib.hid ⟨by omega, by omega⟩, ⟨by omega, by omega⟩, by rw [HNX.out, u8s_app]; exact HO5, HB5, HQ5⟩
        case measure => omega
      · have he : escB (S[j]'hj) = [92, S[j]'hj] := esc_of_q (.inr h)
        have d1 : (((S[j]'hj).toNat : Int) == 10) = false := by rw [h]; rfl
        have d2 : (((S[j]'hj).toNat : Int) == 9) = false := by rw [h]; rfl
        have d3 : (((S[j]'hj).toNat : Int) == 34) = false := by rw [h]; rfl
        have d4 : (((S[j]'hj).toNat : Int) == 92) = true := by rw [h]; rfl
        clear h
        rw [he] at HNX
        clear he
        go_wp2_with (at_builtin; refine wpList_append_many rfl _ _ 40 rfl (w.heap.size + 1) 5 _ 1 1 Tryz.underlying40 info_u8 rfl (by decide) (by decide) A2 nn c2 (u8s L) rfl (HO.out.alloc _) wr.heap.size 0 2 2 (u8s [92, S[j]'hj]) rfl rfl (by intro q u hu; rw [Nat.zero_add]; exact u8_news wr _ _ _ rfl q u hu) (by simp [u8s, Value.oneCell']) (by omega) (by simp; omega) ?_; intro A5 c5 w5 hown5 hg5; (have HO5 := Lib.hid hown5); (have HB5 := Lib.hid (app_below0 HB.out HO.out hg5 (by omega) (Nat.le_succ _))); (have HQ5 := Lib.hid (box_kept HO.out hg5 (Nat.lt_succ_self _) HQ.out)); clear hown5 hg5)
        obtain ⟨⟨hj1, hj2⟩, hj3⟩ := HJJ.out
        go_roundg (gk - 1)
        case rel => exact ⟨j + 1, _, A5, c5, rfl, by go_num, Lib.hid ⟨by omega, by omega⟩, ⟨by omega, by omega⟩, by rw [HNX.out, u8s_app]; exact HO5, HB5, HQ5⟩
        case measure => omega
      · have he : escB (S[j]'hj) = [S[j]'hj] := esc_of_n h1 h2 h3 h4
        have d1 : (((S[j]'hj).toNat : Int) == 10) = false := beq_eq_false_iff_ne.2 (by omega)
        have d2 : (((S[j]'hj).toNat : Int) == 9) = false := beq_eq_false_iff_ne.2 (by omega)
        have d3 : (((S[j]'hj).toNat : Int) == 34) = false := beq_eq_false_iff_ne.2 (by omega)
        have d4 : (((S[j]'hj).toNat : Int) == 92) = false := beq_eq_false_iff_ne.2 (by omega)
        clear h1 h2 h3 h4
        rw [he] at HNX
        clear he
        go_wp2_with (at_builtin; refine wpList_append_many rfl _ _ 40 rfl (w.heap.size + 1) 5 _ 1 1 Tryz.underlying40 info_u8 rfl (by decide) (by decide) A2 nn c2 (u8s L) rfl (HO.out.alloc _) wr.heap.size 0 1 1 (u8s [S[j]'hj]) rfl rfl (by intro q u hu; rw [Nat.zero_add]; exact u8_news wr _ _ _ rfl q u hu) (by simp [u8s, Value.oneCell']) (by omega) (by simp; omega) ?_; intro A5 c5 w5 hown5 hg5; (have HO5 := Lib.hid hown5); (have HB5 := Lib.hid (app_below0 HB.out HO.out hg5 (by omega) (Nat.le_succ _))); (have HQ5 := Lib.hid (box_kept HO.out hg5 (Nat.lt_succ_self _) HQ.out)); clear hown5 hg5)
        obtain ⟨⟨hj1, hj2⟩, hj3⟩ := HJJ.out
        go_roundg (gk - 1)
        case rel => exact ⟨j + 1, _, A5, c5, rfl, by go_num, Lib.hid ⟨by omega, by omega⟩, ⟨by omega, by omega⟩, by rw [HNX.out, u8s_app]; exact HO5, HB5, HQ5⟩
        case measure => omega
    · have hjn : j = S.size := by have := HJ.out; omega
      rw [hjn, ← HLEN.out, List.take_length] at HO
      obtain ⟨L, hL⟩ : ∃ L, L = 34 :: s.flatMap escB := ⟨_, rfl⟩
      rw [← hL] at HO
      have HAN2 : Hid (ans = ⟨(L ++ [34]).toArray⟩) := Lib.hid (by rw [HANS.out, hL]; rfl)
      have hss := hS
      subst hjn
      clear hL
      go_wp2_with (at_builtin; refine wpList_append_many rfl _ _ 40 rfl (w.heap.size + 1) 5 _ 1 1 Tryz.underlying40 info_u8 rfl (by decide) (by decide) A2 nn c2 (u8s L) rfl (HO.out.alloc _) wr.heap.size 0 1 1 (u8s [34]) rfl rfl (by intro q u hu; rw [Nat.zero_add]; exact u8_news wr _ _ _ rfl q u hu) (by simp [u8s, Value.oneCell']) (by omega) (by simp; omega) ?_; intro A5 c5 w5 hown5 hg5; (have HB5 := Lib.hid (app_below0 HB.out HO.out hg5 (by omega) (Nat.le_succ _))); (have hcv := bytes_own (bs := L ++ [34]) (by rw [u8s_app]; exact hown5) (by omega)); clear hown5 hg5)
      go_ret
      exact ⟨by rw [HAN2.out]; first | rfl | simp, HB5.out⟩
open Classical in
set_option maxHeartbeats 8000000 in
/-- What Put of the document answers. -/
theorem rput10_any (k : Int) (S : ByteArray) (hS : S.size ≤ 4000000) (n a l c : Int) (h3 : k = 3 → 0 ≤ n ∧ n ≤ 9223372036854775807) (w : World) :
    Calls Tryz.prog 31 #[.agg #[.int .u8 k, .string S, .int .i64 n, .int .i64 a, .int .i64 l, .int .i64 c]] w fun e w' => e = .returned (.string ⟨(putB k S.data.toList n).toArray⟩) ∧ Bel w w' := by
  by_cases k4 : k = 4
  · subst k4
    exact (rput_str S hS n a l c w).mono fun e w' h => ⟨by rw [h.1]; rfl, h.2⟩
  by_cases k3 : k = 3
  · subst k3
    obtain ⟨b0, b1⟩ := h3 rfl
    have HD : Hid (∀ W, Calls Tryz.prog 47 #[.int .i64 n] W fun e w' => e = .returned (.string ⟨(digB n.toNat).toArray⟩) ∧ Bel W w') := Lib.hid fun W => rdig10_any n b0 b1 W
    have HB : Hid (∀ W, Bel (w.alloc (.cells #[.int .u8 3, .string S, .int .i64 n, .int .i64 a, .int .i64 l, .int .i64 c] 44)) W → Bel w W) := Lib.hid fun W h => ((Bel.refl w).alloc _).on h
    clear b0 b1 h3
    go_enter Tryz.func31, Tryz.ntmps31
    go_wp2_with fail
    refine (HD.out _).mono ?_
    rintro e w1 ⟨rfl, hb⟩
    have HB1 := Lib.hid (HB.out _ hb)
    clear hb
    go_wp2
    go_ret
    exact ⟨rfl, HB1.out⟩
  · have e : (⟨(putB k S.data.toList n).toArray⟩ : ByteArray) = S := by
      unfold putB
      rw [if_neg k3, if_neg k4, ba_eta]
    rw [e]
    have d3 : (k == 3) = false := beq_eq_false_iff_ne.2 k3
    have d4 : (k != 4) = true := by simpa using k4
    clear e h3 k3 k4
    go_enter Tryz.func31, Tryz.ntmps31
    go_wp2
    go_ret
    exact ⟨rfl, (Bel.refl w).alloc _⟩
end Go.Proofs.YteockaolmobmeaaGreatDoor.Mu

