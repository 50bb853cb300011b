/-
  The chapter's rows, walked: known answers true.
-/
import Derived.Test.YteockaolmobmeaaGreatDoorLxTok
import Derived.Test.YteockaolmobmeaaGreatDoorLxSam
import Derived.Test.YteockaolmobmeaaGreatDoorLexWrt
import Derived.Test.YteockaolmobmeaaGreatDoorLexToks
import Derived.Test.YteockaolmobmeaaGreatDoorLexKr
namespace Go.Proofs.YteockaolmobmeaaGreatDoor.Mu
open Go.RowKit Go.Shelf
set_option maxRecDepth 100000

theorem pat_any (n m : Int) (hm : m = n + 1) (h0 : 0 ≤ n) (h1 : n ≤ 1000) (w : World) : Calls Tryz.prog 25 #[.int .i64 n] w fun e w' => e = .returned (.agg #[.int .i64 n, .int .i64 1, .int .i64 m]) ∧ Bel w w' := by
  subst hm
  have hw : IntKind.i64.wrap (n + 1) = n + 1 := by apply IntWalk.i64_in <;> omega
  go_enter Tryz.func25, Tryz.ntmps25
  go_wp2
  refine bodyPost_ret (v := .agg #[.int .i64 n, .int .i64 1, .int .i64 (n + 1)]) ?_ rfl ⟨rfl, (Bel.refl w).alloc _⟩
  simp [results, Tryz.results25, go_sem]
theorem dgq (i a b c : Int) (w : World) : (Op.equalIn 10000 34 (.agg #[.int .i64 i, .int .i64 a, .int .i64 b, .int .i64 c]) (.agg #[.int .i64 i, .int .i64 a, .int .i64 b, .int .i64 c])).run Tryz.prog w = .ok true w := by
  have := diag_in i i ⟨a, b, c⟩ ⟨a, b, c⟩ w
  simpa using this
theorem kc1 (w : World) : Calls Tryz.prog 19 #[.string { data := #[108, 101, 116, 32, 102, 39, 32, 61, 32, 49, 97] }] w (GTo ⟨kx1, 0, z0⟩ w) := by
  have := tokens_any (s := { data := #[108, 101, 116, 32, 102, 39, 32, 61, 32, 49, 97] }) (cs := [108, 101, 116, 32, 102, 39, 32, 61, 32, 49, 97]) (rest := []) (cps_low (by decide +kernel) (by kernel_rfl)) w
  exact kt1 ▸ this
theorem kc2 (w : World) : Calls Tryz.prog 19 #[.string { data := #[97, 32, 45, 49, 62, 32, 66, 45, 45, 99] }] w (GTo ⟨kx2, 0, z0⟩ w) := by
  have := tokens_any (s := { data := #[97, 32, 45, 49, 62, 32, 66, 45, 45, 99] }) (cs := [97, 32, 45, 49, 62, 32, 66, 45, 45, 99]) (rest := []) (cps_low (by decide +kernel) (by kernel_rfl)) w
  exact kt2 ▸ this
theorem kc3 (w : World) : Calls Tryz.prog 19 #[.string { data := #[34, 97, 92, 110, 92, 34, 34] }] w (GTo ⟨kx3, 0, z0⟩ w) := by
  have := tokens_any (s := { data := #[34, 97, 92, 110, 92, 34, 34] }) (cs := [34, 97, 92, 110, 92, 34, 34]) (rest := []) (cps_low (by decide +kernel) (by kernel_rfl)) w
  exact kt3 ▸ this
/-- The six texts that are none, and their errors. -/
def bads : List (List UInt8) := [[48, 49], [97, 32, 33], [34, 92, 97, 34], [34, 97], [49, 48, 57, 57, 53, 49, 49, 54, 50, 55, 55, 55, 55], List.replicate 25 97]
theorem bad0 (w : World) : Calls Tryz.prog 19 #[.string ⟨([48, 49] : List UInt8).toArray⟩] w (GTo ⟨[], 100, ⟨0, 1, 1⟩⟩ w) := by
  have := tokens_any (s := ⟨([48, 49] : List UInt8).toArray⟩) (cs := [48, 49]) (rest := []) (cps_low (by decide +kernel) (by kernel_rfl)) w
  exact ke0 ▸ this
theorem bad1 (w : World) : Calls Tryz.prog 19 #[.string ⟨([97, 32, 33] : List UInt8).toArray⟩] w (GTo ⟨[], 100, ⟨2, 1, 3⟩⟩ w) := by
  have := tokens_any (s := ⟨([97, 32, 33] : List UInt8).toArray⟩) (cs := [97, 32, 33]) (rest := []) (cps_low (by decide +kernel) (by kernel_rfl)) w
  exact ke1 ▸ this
theorem bad2 (w : World) : Calls Tryz.prog 19 #[.string ⟨([34, 92, 97, 34] : List UInt8).toArray⟩] w (GTo ⟨[], 100, ⟨1, 1, 2⟩⟩ w) := by
  have := tokens_any (s := ⟨([34, 92, 97, 34] : List UInt8).toArray⟩) (cs := [34, 92, 97, 34]) (rest := []) (cps_low (by decide +kernel) (by kernel_rfl)) w
  exact ke2 ▸ this
theorem bad3 (w : World) : Calls Tryz.prog 19 #[.string ⟨([34, 97] : List UInt8).toArray⟩] w (GTo ⟨[], 102, ⟨0, 1, 1⟩⟩ w) := by
  have := tokens_any (s := ⟨([34, 97] : List UInt8).toArray⟩) (cs := [34, 97]) (rest := []) (cps_low (by decide +kernel) (by kernel_rfl)) w
  exact ke3 ▸ this
theorem bad4 (w : World) : Calls Tryz.prog 19 #[.string ⟨([49, 48, 57, 57, 53, 49, 49, 54, 50, 55, 55, 55, 55] : List UInt8).toArray⟩] w (GTo ⟨[], 101, ⟨0, 1, 1⟩⟩ w) := by
  have := tokens_any (s := ⟨([49, 48, 57, 57, 53, 49, 49, 54, 50, 55, 55, 55, 55] : List UInt8).toArray⟩) (cs := [49, 48, 57, 57, 53, 49, 49, 54, 50, 55, 55, 55, 55]) (rest := []) (cps_low (by decide +kernel) (by kernel_rfl)) w
  exact ke4 ▸ this
theorem bad5 (w : World) : Calls Tryz.prog 19 #[.string ⟨(List.replicate 25 97 : List UInt8).toArray⟩] w (GTo ⟨[], 3, ⟨0, 1, 1⟩⟩ w) := by
  have := tokens_any (s := ⟨(List.replicate 25 97 : List UInt8).toArray⟩) (cs := List.replicate 25 97) (rest := []) (cps_low (by decide +kernel) (by kernel_rfl)) w
  exact ke5 ▸ this
theorem rep25 (w : World) : Calls Tryz.prog 26 #[.string { data := #[97] }, .int .i64 25] w fun e w' => e = .returned (.string ⟨(List.replicate 25 97 : List UInt8).toArray⟩) ∧ Bel w w' := by
  refine (Tryz.strings_Repeat_main { data := #[97] } 25 w (by decide) (by decide) (by decide) (by decide)).mono fun e w' h => ⟨?_, h.2⟩
  rw [h.1, show Lib.repeatL ({ data := #[97] } : ByteArray).data.toList 25 = List.replicate 25 97 by kernel_rfl]
/-- The six texts, in memory. -/
def badC (SX : ByteArray) : Obj := .cells #[.string { data := #[48, 49] }, .string { data := #[97, 32, 33] }, .string { data := #[34, 92, 97, 34] }, .string { data := #[34, 97] }, .string { data := #[49, 48, 57, 57, 53, 49, 49, 54, 50, 55, 55, 55, 55] }, .string SX] 9 (0, 0)
theorem bad_cells {w : World} {g : Nat} {SX : ByteArray} (h : w.heap[g]? = some (badC SX)) : (w.cell? ⟨g, 0, none⟩ = some (.string { data := #[48, 49] }) ∧ w.cell? ⟨g, 1, none⟩ = some (.string { data := #[97, 32, 33] }) ∧ w.cell? ⟨g, 2, none⟩ = some (.string { data := #[34, 92, 97, 34] }) ∧ w.cell? ⟨g, 3, none⟩ = some (.string { data := #[34, 97] }) ∧ w.cell? ⟨g, 4, none⟩ = some (.string { data := #[49, 48, 57, 57, 53, 49, 49, 54, 50, 55, 55, 55, 55] }) ∧ w.cell? ⟨g, 5, none⟩ = some (.string SX)) := by
  simp [World.cell?, h, badC]
/-- A list of tokens against a literal. -/
theorem same_lit (t : Bool) {A : Option Addr} {n c : Nat} {xs ys : List Tn} (L : Array Value) (hL : (flatT ys).toArray = L) (m : Nat) (hm : m = ys.length) (T : TypeId) (w : World) (b : Nat) (hb : b = w.heap.size) (ha : RTn w w.heap.size A n xs) (hn : n ≤ 1000000000) (hs : samL t xs ys = true) :
    Calls Tryz.prog 20 #[.slice A n c, .slice (some ⟨b, 0, none⟩) m m, .bool t] (w.alloc (.cells L T)) fun e w' => e = .returned (.bool true) ∧ Bel w w' := by
  subst hb
  refine (rsame10_any t (w.alloc (.cells L T)) (ha.bel ((Bel.refl w).alloc _)) (RTn.lit ys L hL m hm T) hn hs).mono ?_
  rintro e w' ⟨rfl, hb⟩
  exact ⟨rfl, ((Bel.refl w).alloc _).on hb⟩
theorem write_lit {xs : List Tn} (L : Array Value) (hL : (flatT xs).toArray = L) (m : Nat) (hm : m = xs.length) (T : TypeId) (w : World) (ht : Tbl w) (b : Nat) (hb : b = w.heap.size) (hm2 : m ≤ 10) (hx : ∀ x ∈ xs, x.s.length ≤ 140737488355328 ∧ -9223372036854775808 ≤ x.n ∧ x.n ≤ 9223372036854775807) (S : ByteArray) (e : Int) (hS : S = ⟨(wrO (xs.map Tn.b)).1.toArray⟩) (he : e = (wrO (xs.map Tn.b)).2) :
    Calls Tryz.prog 17 #[.slice (some ⟨b, 0, none⟩) m m] (w.alloc (.cells L T)) fun r w' => r = .returned (.tuple #[.string S, .int .i64 e]) ∧ Bel w w' := by
  subst hb
  rw [hS, he]
  refine (write10_any (w.alloc (.cells L T)) (ht.bel ((Bel.refl w).alloc _)) (RTn.lit xs L hL m hm T) (by omega) hx).mono ?_
  rintro r w' ⟨rfl, hb⟩
  exact ⟨rfl, ((Bel.refl w).alloc _).on hb⟩
set_option maxHeartbeats 8000000 in
theorem known10_any (w : World) (htab : Tbl w) : Calls Tryz.prog 8 #[] w fun e w' => e = .returned (.bool true) ∧ Bel w w' := by
  have HTB := Lib.hid htab
  clear htab
  have hed := dgq
  go_enter Tryz.func8, Tryz.ntmps8
  go_wp2_with fail
  refine (kc1 _).mono ?_
  rintro e w1 ⟨hb1, A1, n1, c1, rfl, hr1⟩
  obtain rfl : n1 = 5 := hr1.1
  have HR1 := Lib.hid hr1
  have HB1 := Lib.hid hb1
  clear hb1 hr1
  go_wp2_with fail
  refine (kc2 _).mono ?_
  rintro e w2 ⟨hb2, A2, n2, c2, rfl, hr2⟩
  obtain rfl : n2 = 3 := hr2.1
  have HR2 := Lib.hid hr2
  have HR1' := Lib.hid (HR1.out.bel (((Bel.refl w1).alloc _).on hb2))
  have HB2 := Lib.hid ((HB1.out.alloc _).on hb2)
  have HK1 := Lib.hid (hb2.blk (blk1 w1 (.cells #[.int .i64 0, .int .i64 0, .int .i64 0, .int .i64 0] 34)))
  clear hb2 hr2 HR1 HB1
  go_wp2_with fail
  refine (kc3 _).mono ?_
  rintro e w3 ⟨hb3, A3, n3, c3, rfl, hr3⟩
  obtain rfl : n3 = 1 := hr3.1
  have HR3 := Lib.hid hr3
  have hb23 := ((Bel.refl w2).alloc (.cells #[.int .i64 0, .int .i64 0, .int .i64 0, .int .i64 0] 34)).on hb3
  have HR1 := Lib.hid (HR1'.out.bel hb23)
  have HR2' := Lib.hid (HR2.out.bel hb23)
  have HB3 := Lib.hid (HB2.out.on hb23)
  obtain ⟨a0, a1, a2, a3, -, -, -, -⟩ := cells4 (hb23.blk HK1.out)
  obtain ⟨d0, d1, d2, d3, -, -, -, -⟩ := cells4 (hb3.blk (blk1 w2 (.cells #[.int .i64 0, .int .i64 0, .int .i64 0, .int .i64 0] 34)))
  have s1 : w1.heap.size < w3.heap.size := (Array.getElem?_eq_some_iff.1 (hb23.blk HK1.out)).1
  have s2 : w2.heap.size < w3.heap.size := (Array.getElem?_eq_some_iff.1 (hb3.blk (blk1 w2 (.cells #[.int .i64 0, .int .i64 0, .int .i64 0, .int .i64 0] 34)))).1
  clear hb3 hr3 hb23 HR1' HR2 HB2 HK1
  go_wp2_with fail
  refine (pat_any 0 1 rfl (by decide) (by decide) _).mono ?_
  rintro e w4 ⟨rfl, hb4⟩
  have HC4 := Lib.hid (((Bel.refl w3).alloc _).on hb4)
  clear hb4 a0 a1 a2 a3 d0 d1 d2 d3 s1 s2
  go_wp2_with fail
  refine (pat_any 4 5 rfl (by decide) (by decide) _).mono ?_
  rintro e w5 ⟨rfl, hb5⟩
  have HC5 := Lib.hid (HC4.out.on hb5)
  clear hb5
  go_wp2_with fail
  refine (pat_any 7 8 rfl (by decide) (by decide) _).mono ?_
  rintro e w6 ⟨rfl, hb6⟩
  have HC6 := Lib.hid (HC5.out.on hb6)
  clear hb6
  go_wp2_with fail
  refine (pat_any 9 10 rfl (by decide) (by decide) _).mono ?_
  rintro e w7 ⟨rfl, hb7⟩
  have HC7 := Lib.hid (HC6.out.on hb7)
  clear hb7
  go_wp2_with fail
  refine (pat_any 10 11 rfl (by decide) (by decide) _).mono ?_
  rintro e w8 ⟨rfl, hb8⟩
  have HC8 := Lib.hid (HC7.out.on hb8)
  clear hb8
  have HA1 := Lib.hid (HR1.out.bel HC8.out)
  have HA2 := Lib.hid (HR2'.out.bel HC8.out)
  have HA3 := Lib.hid (HR3.out.bel HC8.out)
  have HB8 := Lib.hid (HB3.out.on HC8.out)
  clear HC4 HC5 HC6 HC7 HC8 HR1 HR2' HR3 HB3
  go_wp2_with fail
  refine (same_lit true (ys := kx1) _ (by kernel_rfl) 5 rfl _ _ _ (by simp) HA1.out (by decide) ks1).mono ?_
  rintro e w9 ⟨rfl, hb9⟩
  have HA2' := Lib.hid (HA2.out.bel hb9)
  have HA3' := Lib.hid (HA3.out.bel hb9)
  have HB9 := Lib.hid (HB8.out.on hb9)
  clear hb9 HA1 HA2 HA3 HB8
  go_wp2_with fail
  refine (same_lit false (ys := ky2) _ (by kernel_rfl) 3 rfl _ _ _ (by simp) HA2'.out (by decide) ks2).mono ?_
  rintro e w10 ⟨rfl, hb10⟩
  have HA3 := Lib.hid (HA3'.out.bel hb10)
  have HB10 := Lib.hid (HB9.out.on hb10)
  clear hb10 HA2' HA3' HB9
  go_wp2_with fail
  refine (same_lit false (ys := ky3) _ (by kernel_rfl) 1 rfl _ _ _ (by simp) HA3.out (by decide) ks3).mono ?_
  rintro e w11 ⟨rfl, hb11⟩
  have HB11 := Lib.hid (HB10.out.on hb11)
  clear hb11 HA3 HB10
  obtain ⟨SX, hSX⟩ : ∃ SX : ByteArray, SX = ⟨(List.replicate 25 97 : List UInt8).toArray⟩ := ⟨_, rfl⟩
  have HRP : Hid (∀ w, Calls Tryz.prog 26 #[.string { data := #[97] }, .int .i64 25] w fun e w' => e = .returned (.string SX) ∧ Bel w w') := Lib.hid fun w => by rw [hSX]; exact rep25 w
  have HBX : Hid (∀ w, Calls Tryz.prog 19 #[.string SX] w (GTo ⟨[], 3, ⟨0, 1, 1⟩⟩ w)) := Lib.hid fun w => by rw [hSX]; exact bad5 w
  clear hSX
  go_wp2_with fail
  refine (HRP.out _).mono ?_
  rintro e w12 ⟨rfl, hb12⟩
  have HB12 := Lib.hid (HB11.out.on hb12)
  clear hb12 HB11
  go_wp2_with fail
  have HQ : Hid ((w12.alloc (.cells #[.string { data := #[48, 49] }, .string { data := #[97, 32, 33] }, .string { data := #[34, 92, 97, 34] }, .string { data := #[34, 97] }, .string { data := #[49, 48, 57, 57, 53, 49, 49, 54, 50, 55, 55, 55, 55] }, .string SX] 9)).heap[w12.heap.size]? = some (badC SX)) := Lib.hid (blk1 w12 _)
  go_loopg [7, 8, 9, 10, 73] 7 (fun gk z7 z8 z9 z10 i wr => ∃ q : Int, (q = 0 ∨ q = 1 ∨ q = 2 ∨ q = 3 ∨ q = 4 ∨ q = 5 ∨ q = 6) ∧ i = .int .i64 q ∧ Hid ((6 - q).toNat < gk) ∧ Hid (Bel w wr) ∧ Hid (wr.heap[w12.heap.size]? = some (badC SX)))
  case atStart => exact ⟨0, .inl rfl, rfl, Lib.hid (by decide), Lib.hid (HB12.out.alloc _), HQ⟩
  case round =>
    obtain ⟨q, hq, rfl, HG, HB, HC⟩ := hrel
    have hwz : w12.heap.size < wr.heap.size := (Array.getElem?_eq_some_iff.1 HC.out).1
    obtain ⟨c0, c1, c2, c3, c4, c5⟩ := bad_cells HC.out
    clear HQ
    rcases hq with rfl | rfl | rfl | rfl | rfl | rfl | rfl
    · clear c1 c2 c3 c4 c5
      go_wp2_with fail
      refine (bad0 _).mono ?_
      rintro e w13 ⟨hb13, A13, n13, c13, rfl, hr13⟩
      obtain rfl : n13 = 0 := hr13.1
      have HC13 := Lib.hid (⟨hb13, hb13.blk HC.out⟩ : Bel wr w13 ∧ _)
      have HB13 := Lib.hid (HB.out.on hb13)
      clear hb13 hr13 c0
      go_upto_region 12 with fail
      obtain ⟨V, hV⟩ : ∃ V, V = w13.alloc (.cells #[.int .i64 100, .int .i64 0, .int .i64 1, .int .i64 1] 34) := ⟨_, rfl⟩
      have HQV : Hid (V.heap[w13.heap.size]? = some (.cells #[.int .i64 100, .int .i64 0, .int .i64 1, .int .i64 1] 34 (0, 0))) := by rw [hV]; exact Lib.hid (blk1 w13 _)
      have HBV : Hid (V.heap[w12.heap.size]? = some (badC SX) ∧ Bel w V) := by rw [hV]; exact Lib.hid ⟨((Bel.refl w13).alloc _).blk HC13.out.2, HB13.out.alloc _⟩
      rw [← hV]
      clear hV
      obtain ⟨t0, t1, t2, t3, -, -, -, -⟩ := cells4 (w := V.drew) HQV.out
      have hgz : w13.heap.size < V.drew.heap.size := (Array.getElem?_eq_some_iff.1 HQV.out).1
      refine regKn_any w13.heap.size c13 0 A13 100 0 1 _ _ _ _ _ _ _ _ _ _ _ _ _ _ _ _ _ _ _ _ _ _ _ _ _ _ _ _ _ _ _ _ _ _ _ _ _ _ _ _ _ _ _ _ _ _ _ _ _ _ _ _ _ _ _ _ _ _ _ _ _ _ _ _ _ _ _ _ _ _ _ _ _ _ _ _ _ _ _ _ _ _ _ _ _ _ _ _ _ _ _ _ _ _ _ _ _ _ _ _ _ _ _ _ _ _ _ _ _ _ _ _ _ _ _ _ _ _ _ _ _ _ V (by decide) (by decide) hgz t0 t1 t2 t3 (fun W => by simp) (fun W => by simp) (fun W => pat_any 0 1 rfl (by decide) (by decide) W) (fun W => dgq 100 0 1 1 W) _ ?_
      intro Vs w14 hb14 hv1 hv2
      simp only [regKn, List.drop_succ_cons, List.drop_zero, acVKn, hv1, hv2]
      have hbv := (Bel.refl V).drew.on hb14
      have HB14 := Lib.hid (HBV.out.2.on hbv)
      have HC14 := Lib.hid (hbv.blk HBV.out.1)
      clear hb14 hbv hv1 hv2 t0 t1 t2 t3
      go_wp2
      have hgk := HG.out
      go_roundg (gk - 1)
      case rel => exact ⟨1, by decide, by first | rfl | go_num, Lib.hid (by omega), HB14, HC14⟩
      case measure => omega
    · clear c0 c2 c3 c4 c5
      go_wp2_with fail
      refine (bad1 _).mono ?_
      rintro e w13 ⟨hb13, A13, n13, c13, rfl, hr13⟩
      obtain rfl : n13 = 0 := hr13.1
      have HC13 := Lib.hid (⟨hb13, hb13.blk HC.out⟩ : Bel wr w13 ∧ _)
      have HB13 := Lib.hid (HB.out.on hb13)
      clear hb13 hr13 c1
      go_upto_region 12 with fail
      obtain ⟨V, hV⟩ : ∃ V, V = w13.alloc (.cells #[.int .i64 100, .int .i64 2, .int .i64 1, .int .i64 3] 34) := ⟨_, rfl⟩
      have HQV : Hid (V.heap[w13.heap.size]? = some (.cells #[.int .i64 100, .int .i64 2, .int .i64 1, .int .i64 3] 34 (0, 0))) := by rw [hV]; exact Lib.hid (blk1 w13 _)
      have HBV : Hid (V.heap[w12.heap.size]? = some (badC SX) ∧ Bel w V) := by rw [hV]; exact Lib.hid ⟨((Bel.refl w13).alloc _).blk HC13.out.2, HB13.out.alloc _⟩
      rw [← hV]
      clear hV
      obtain ⟨t0, t1, t2, t3, -, -, -, -⟩ := cells4 (w := V.drew) HQV.out
      have hgz : w13.heap.size < V.drew.heap.size := (Array.getElem?_eq_some_iff.1 HQV.out).1
      refine regKn_any w13.heap.size c13 1 A13 100 2 3 _ _ _ _ _ _ _ _ _ _ _ _ _ _ _ _ _ _ _ _ _ _ _ _ _ _ _ _ _ _ _ _ _ _ _ _ _ _ _ _ _ _ _ _ _ _ _ _ _ _ _ _ _ _ _ _ _ _ _ _ _ _ _ _ _ _ _ _ _ _ _ _ _ _ _ _ _ _ _ _ _ _ _ _ _ _ _ _ _ _ _ _ _ _ _ _ _ _ _ _ _ _ _ _ _ _ _ _ _ _ _ _ _ _ _ _ _ _ _ _ _ _ V (by decide) (by decide) hgz t0 t1 t2 t3 (fun W => by simp) (fun W => by simp) (fun W => pat_any 2 3 rfl (by decide) (by decide) W) (fun W => dgq 100 2 1 3 W) _ ?_
      intro Vs w14 hb14 hv1 hv2
      simp only [regKn, List.drop_succ_cons, List.drop_zero, acVKn, hv1, hv2]
      have hbv := (Bel.refl V).drew.on hb14
      have HB14 := Lib.hid (HBV.out.2.on hbv)
      have HC14 := Lib.hid (hbv.blk HBV.out.1)
      clear hb14 hbv hv1 hv2 t0 t1 t2 t3
      go_wp2
      have hgk := HG.out
      go_roundg (gk - 1)
      case rel => exact ⟨2, by decide, by first | rfl | go_num, Lib.hid (by omega), HB14, HC14⟩
      case measure => omega
    · clear c0 c1 c3 c4 c5
      go_wp2_with fail
      refine (bad2 _).mono ?_
      rintro e w13 ⟨hb13, A13, n13, c13, rfl, hr13⟩
      obtain rfl : n13 = 0 := hr13.1
      have HC13 := Lib.hid (⟨hb13, hb13.blk HC.out⟩ : Bel wr w13 ∧ _)
      have HB13 := Lib.hid (HB.out.on hb13)
      clear hb13 hr13 c2
      go_upto_region 12 with fail
      obtain ⟨V, hV⟩ : ∃ V, V = w13.alloc (.cells #[.int .i64 100, .int .i64 1, .int .i64 1, .int .i64 2] 34) := ⟨_, rfl⟩
      have HQV : Hid (V.heap[w13.heap.size]? = some (.cells #[.int .i64 100, .int .i64 1, .int .i64 1, .int .i64 2] 34 (0, 0))) := by rw [hV]; exact Lib.hid (blk1 w13 _)
      have HBV : Hid (V.heap[w12.heap.size]? = some (badC SX) ∧ Bel w V) := by rw [hV]; exact Lib.hid ⟨((Bel.refl w13).alloc _).blk HC13.out.2, HB13.out.alloc _⟩
      rw [← hV]
      clear hV
      obtain ⟨t0, t1, t2, t3, -, -, -, -⟩ := cells4 (w := V.drew) HQV.out
      have hgz : w13.heap.size < V.drew.heap.size := (Array.getElem?_eq_some_iff.1 HQV.out).1
      refine regKn_any w13.heap.size c13 2 A13 100 1 2 _ _ _ _ _ _ _ _ _ _ _ _ _ _ _ _ _ _ _ _ _ _ _ _ _ _ _ _ _ _ _ _ _ _ _ _ _ _ _ _ _ _ _ _ _ _ _ _ _ _ _ _ _ _ _ _ _ _ _ _ _ _ _ _ _ _ _ _ _ _ _ _ _ _ _ _ _ _ _ _ _ _ _ _ _ _ _ _ _ _ _ _ _ _ _ _ _ _ _ _ _ _ _ _ _ _ _ _ _ _ _ _ _ _ _ _ _ _ _ _ _ _ V (by decide) (by decide) hgz t0 t1 t2 t3 (fun W => by simp) (fun W => by simp) (fun W => pat_any 1 2 rfl (by decide) (by decide) W) (fun W => dgq 100 1 1 2 W) _ ?_
      intro Vs w14 hb14 hv1 hv2
      simp only [regKn, List.drop_succ_cons, List.drop_zero, acVKn, hv1, hv2]
      have hbv := (Bel.refl V).drew.on hb14
      have HB14 := Lib.hid (HBV.out.2.on hbv)
      have HC14 := Lib.hid (hbv.blk HBV.out.1)
      clear hb14 hbv hv1 hv2 t0 t1 t2 t3
      go_wp2
      have hgk := HG.out
      go_roundg (gk - 1)
      case rel => exact ⟨3, by decide, by first | rfl | go_num, Lib.hid (by omega), HB14, HC14⟩
      case measure => omega
    · clear c0 c1 c2 c4 c5
      go_wp2_with fail
      refine (bad3 _).mono ?_
      rintro e w13 ⟨hb13, A13, n13, c13, rfl, hr13⟩
      obtain rfl : n13 = 0 := hr13.1
      have HC13 := Lib.hid (⟨hb13, hb13.blk HC.out⟩ : Bel wr w13 ∧ _)
      have HB13 := Lib.hid (HB.out.on hb13)
      clear hb13 hr13 c3
      go_upto_region 12 with fail
      obtain ⟨V, hV⟩ : ∃ V, V = w13.alloc (.cells #[.int .i64 102, .int .i64 0, .int .i64 1, .int .i64 1] 34) := ⟨_, rfl⟩
      have HQV : Hid (V.heap[w13.heap.size]? = some (.cells #[.int .i64 102, .int .i64 0, .int .i64 1, .int .i64 1] 34 (0, 0))) := by rw [hV]; exact Lib.hid (blk1 w13 _)
      have HBV : Hid (V.heap[w12.heap.size]? = some (badC SX) ∧ Bel w V) := by rw [hV]; exact Lib.hid ⟨((Bel.refl w13).alloc _).blk HC13.out.2, HB13.out.alloc _⟩
      rw [← hV]
      clear hV
      obtain ⟨t0, t1, t2, t3, -, -, -, -⟩ := cells4 (w := V.drew) HQV.out
      have hgz : w13.heap.size < V.drew.heap.size := (Array.getElem?_eq_some_iff.1 HQV.out).1
      refine regKn_any w13.heap.size c13 3 A13 102 0 1 _ _ _ _ _ _ _ _ _ _ _ _ _ _ _ _ _ _ _ _ _ _ _ _ _ _ _ _ _ _ _ _ _ _ _ _ _ _ _ _ _ _ _ _ _ _ _ _ _ _ _ _ _ _ _ _ _ _ _ _ _ _ _ _ _ _ _ _ _ _ _ _ _ _ _ _ _ _ _ _ _ _ _ _ _ _ _ _ _ _ _ _ _ _ _ _ _ _ _ _ _ _ _ _ _ _ _ _ _ _ _ _ _ _ _ _ _ _ _ _ _ _ V (by decide) (by decide) hgz t0 t1 t2 t3 (fun W => by simp) (fun W => by simp) (fun W => pat_any 0 1 rfl (by decide) (by decide) W) (fun W => dgq 102 0 1 1 W) _ ?_
      intro Vs w14 hb14 hv1 hv2
      simp only [regKn, List.drop_succ_cons, List.drop_zero, acVKn, hv1, hv2]
      have hbv := (Bel.refl V).drew.on hb14
      have HB14 := Lib.hid (HBV.out.2.on hbv)
      have HC14 := Lib.hid (hbv.blk HBV.out.1)
      clear hb14 hbv hv1 hv2 t0 t1 t2 t3
      go_wp2
      have hgk := HG.out
      go_roundg (gk - 1)
      case rel => exact ⟨4, by decide, by first | rfl | go_num, Lib.hid (by omega), HB14, HC14⟩
      case measure => omega
    · clear c0 c1 c2 c3 c5
      go_wp2_with fail
      refine (bad4 _).mono ?_
      rintro e w13 ⟨hb13, A13, n13, c13, rfl, hr13⟩
      obtain rfl : n13 = 0 := hr13.1
      have HC13 := Lib.hid (⟨hb13, hb13.blk HC.out⟩ : Bel wr w13 ∧ _)
      have HB13 := Lib.hid (HB.out.on hb13)
      clear hb13 hr13 c4
      go_upto_region 12 with fail
      obtain ⟨V, hV⟩ : ∃ V, V = w13.alloc (.cells #[.int .i64 101, .int .i64 0, .int .i64 1, .int .i64 1] 34) := ⟨_, rfl⟩
      have HQV : Hid (V.heap[w13.heap.size]? = some (.cells #[.int .i64 101, .int .i64 0, .int .i64 1, .int .i64 1] 34 (0, 0))) := by rw [hV]; exact Lib.hid (blk1 w13 _)
      have HBV : Hid (V.heap[w12.heap.size]? = some (badC SX) ∧ Bel w V) := by rw [hV]; exact Lib.hid ⟨((Bel.refl w13).alloc _).blk HC13.out.2, HB13.out.alloc _⟩
      rw [← hV]
      clear hV
      obtain ⟨t0, t1, t2, t3, -, -, -, -⟩ := cells4 (w := V.drew) HQV.out
      have hgz : w13.heap.size < V.drew.heap.size := (Array.getElem?_eq_some_iff.1 HQV.out).1
      refine regKn_any w13.heap.size c13 4 A13 101 0 1 _ _ _ _ _ _ _ _ _ _ _ _ _ _ _ _ _ _ _ _ _ _ _ _ _ _ _ _ _ _ _ _ _ _ _ _ _ _ _ _ _ _ _ _ _ _ _ _ _ _ _ _ _ _ _ _ _ _ _ _ _ _ _ _ _ _ _ _ _ _ _ _ _ _ _ _ _ _ _ _ _ _ _ _ _ _ _ _ _ _ _ _ _ _ _ _ _ _ _ _ _ _ _ _ _ _ _ _ _ _ _ _ _ _ _ _ _ _ _ _ _ _ V (by decide) (by decide) hgz t0 t1 t2 t3 (fun W => by simp) (fun W => by simp) (fun W => pat_any 0 1 rfl (by decide) (by decide) W) (fun W => dgq 101 0 1 1 W) _ ?_
      intro Vs w14 hb14 hv1 hv2
      simp only [regKn, List.drop_succ_cons, List.drop_zero, acVKn, hv1, hv2]
      have hbv := (Bel.refl V).drew.on hb14
      have HB14 := Lib.hid (HBV.out.2.on hbv)
      have HC14 := Lib.hid (hbv.blk HBV.out.1)
      clear hb14 hbv hv1 hv2 t0 t1 t2 t3
      go_wp2
      have hgk := HG.out
      go_roundg (gk - 1)
      case rel => exact ⟨5, by decide, by first | rfl | go_num, Lib.hid (by omega), HB14, HC14⟩
      case measure => omega
    · clear c0 c1 c2 c3 c4
      go_wp2_with fail
      refine (HBX.out _).mono ?_
      rintro e w13 ⟨hb13, A13, n13, c13, rfl, hr13⟩
      obtain rfl : n13 = 0 := hr13.1
      have HC13 := Lib.hid (⟨hb13, hb13.blk HC.out⟩ : Bel wr w13 ∧ _)
      have HB13 := Lib.hid (HB.out.on hb13)
      clear hb13 hr13 c5
      go_upto_region 12 with fail
      obtain ⟨V, hV⟩ : ∃ V, V = w13.alloc (.cells #[.int .i64 3, .int .i64 0, .int .i64 1, .int .i64 1] 34) := ⟨_, rfl⟩
      have HQV : Hid (V.heap[w13.heap.size]? = some (.cells #[.int .i64 3, .int .i64 0, .int .i64 1, .int .i64 1] 34 (0, 0))) := by rw [hV]; exact Lib.hid (blk1 w13 _)
      have HBV : Hid (V.heap[w12.heap.size]? = some (badC SX) ∧ Bel w V) := by rw [hV]; exact Lib.hid ⟨((Bel.refl w13).alloc _).blk HC13.out.2, HB13.out.alloc _⟩
      rw [← hV]
      clear hV
      obtain ⟨t0, t1, t2, t3, -, -, -, -⟩ := cells4 (w := V.drew) HQV.out
      have hgz : w13.heap.size < V.drew.heap.size := (Array.getElem?_eq_some_iff.1 HQV.out).1
      refine regKn_any w13.heap.size c13 5 A13 3 0 1 _ _ _ _ _ _ _ _ _ _ _ _ _ _ _ _ _ _ _ _ _ _ _ _ _ _ _ _ _ _ _ _ _ _ _ _ _ _ _ _ _ _ _ _ _ _ _ _ _ _ _ _ _ _ _ _ _ _ _ _ _ _ _ _ _ _ _ _ _ _ _ _ _ _ _ _ _ _ _ _ _ _ _ _ _ _ _ _ _ _ _ _ _ _ _ _ _ _ _ _ _ _ _ _ _ _ _ _ _ _ _ _ _ _ _ _ _ _ _ _ _ _ V (by decide) (by decide) hgz t0 t1 t2 t3 (fun W => by simp) (fun W => by simp) (fun W => pat_any 0 1 rfl (by decide) (by decide) W) (fun W => dgq 3 0 1 1 W) _ ?_
      intro Vs w14 hb14 hv1 hv2
      simp only [regKn, List.drop_succ_cons, List.drop_zero, acVKn, hv1, hv2]
      have hbv := (Bel.refl V).drew.on hb14
      have HB14 := Lib.hid (HBV.out.2.on hbv)
      have HC14 := Lib.hid (hbv.blk HBV.out.1)
      clear hb14 hbv hv1 hv2 t0 t1 t2 t3
      go_wp2
      have hgk := HG.out
      go_roundg (gk - 1)
      case rel => exact ⟨6, by decide, by first | rfl | go_num, Lib.hid (by omega), HB14, HC14⟩
      case measure => omega
    · clear c0 c1 c2 c3 c4 c5 HC
      go_wp2_with fail
      refine (write_lit (xs := [⟨1, [97], 0, ⟨0, 0, 0⟩⟩, ⟨4, [10], 0, ⟨0, 0, 0⟩⟩]) _ (by kernel_rfl) 2 rfl _ _ (HTB.out.bel HB.out) _ rfl (by decide) (by simp) { data := #[97, 32, 34, 92, 110, 34] } 0 (by rw [show ([⟨1, [97], 0, ⟨0, 0, 0⟩⟩, ⟨4, [10], 0, ⟨0, 0, 0⟩⟩] : List Tn).map Tn.b = [(1, [97], 0), (4, [10], 0)] from rfl, kw1]) (by rw [show ([⟨1, [97], 0, ⟨0, 0, 0⟩⟩, ⟨4, [10], 0, ⟨0, 0, 0⟩⟩] : List Tn).map Tn.b = [(1, [97], 0), (4, [10], 0)] from rfl, kw1])).mono ?_
      rintro e w15 ⟨rfl, hb15⟩
      have HB15 := Lib.hid (HB.out.on hb15)
      clear hb15
      go_wp2_with fail
      refine (write_lit (xs := [⟨1, [65], 0, ⟨0, 0, 0⟩⟩]) _ (by kernel_rfl) 1 rfl _ _ (HTB.out.bel HB15.out) _ rfl (by decide) (by simp) { data := #[] } 2 (by rw [show ([⟨1, [65], 0, ⟨0, 0, 0⟩⟩] : List Tn).map Tn.b = [(1, [65], 0)] from rfl, kw2]) (by rw [show ([⟨1, [65], 0, ⟨0, 0, 0⟩⟩] : List Tn).map Tn.b = [(1, [65], 0)] from rfl, kw2])).mono ?_
      rintro e w16 ⟨rfl, hb16⟩
      have HB16 := Lib.hid (HB15.out.on hb16)
      clear hb16
      go_wp2
      go_ret
      exact ⟨by first | rfl | simp, HB16.out⟩
end Go.Proofs.YteockaolmobmeaaGreatDoor.Mu

