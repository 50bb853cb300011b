/-
  LexBlanks, walked: what stands between tokens makes no difference but in their places.
-/
import Derived.Test.YteockaolmobmeaaGreatDoorLexKn
import Derived.Test.YteockaolmobmeaaGreatDoorLexGr
import Derived.Test.YteockaolmobmeaaGreatDoorLexBack
import Derived.Test.YteockaolmobmeaaGreatDoorLexBuz
namespace Go.Proofs.YteockaolmobmeaaGreatDoor.Mu
open Go.RowKit Go.Shelf
set_option maxRecDepth 100000

def gN (ts : List (List UInt8)) : List (List Nat) := ts.map fun s => s.map UInt8.toNat
/-- What a gap's bytes stand for. -/
def gapB (g : List UInt8) : List UInt8 := byt ((g.map UInt8.toNat).flatMap gapC)
theorem byt_app (a b : List Int) : byt (a ++ b) = byt a ++ byt b := by simp [byt]
theorem gapB_take {g : List UInt8} {q : Nat} {u : UInt8} (h : g[q]? = some u) : gapB (g.take (q + 1)) = gapB (g.take q) ++ byt (gapC u.toNat) := by
  obtain ⟨hl, e⟩ := List.getElem?_eq_some_iff.1 h
  unfold gapB
  rw [List.take_succ_eq_append_getElem hl, e, List.map_append, List.flatMap_append, byt_app]
  simp
theorem gapC_len (u : Nat) : (byt (gapC u)).length ≤ 11 := by
  unfold gapC
  repeat' split
  all_goals decide
theorem gapB_len : ∀ (g : List UInt8), (gapB g).length ≤ 11 * g.length
  | [] => by simp [gapB, byt]
  | u :: g => by
    have ih := gapB_len g
    have h1 := gapC_len u.toNat
    unfold gapB at ih ⊢
    rw [List.map_cons, List.flatMap_cons, byt_app, List.length_append, List.length_cons]
    omega
theorem gapC_4 {u : Nat} (h : u % 5 = 4) : byt (gapC u) = [32, 45, 45, 32, 105, 116, 39, 115, 32, 34, 10] := by
  unfold gapC; rw [if_pos h]; rfl
theorem gapC_0 {u : Nat} (h : u % 5 = 0) : byt (gapC u) = [32] := by
  unfold gapC; rw [if_neg (by omega), if_pos h]; rfl
theorem gapC_1 {u : Nat} (h : u % 5 = 1) : byt (gapC u) = [9] := by
  unfold gapC; rw [if_neg (by omega), if_neg (by omega), if_pos h]; rfl
theorem gapC_2 {u : Nat} (h : u % 5 = 2) : byt (gapC u) = [10] := by
  unfold gapC; rw [if_neg (by omega), if_neg (by omega), if_neg (by omega), if_pos h]; rfl
theorem gapC_3 {u : Nat} (h : u % 5 = 3) : byt (gapC u) = [13] := by
  unfold gapC; rw [if_neg (by omega), if_neg (by omega), if_neg (by omega), if_neg (by omega)]; rfl
theorem blk_take : ∀ (ts : List (Int × List UInt8 × Int)) (gs : List (List Nat)) (j : Nat) (t : Int × List UInt8 × Int), ts[j]? = some t → blkB (ts.take (j + 1)) gs = blkB (ts.take j) gs ++ (byt ((gs.getD j []).flatMap gapC) ++ (32 :: putB t.1 t.2.1 t.2.2))
  | [], _, _, _, h => by simp at h
  | t :: ts, gs, 0, x, h => by
    simp at h; subst h
    cases gs <;> simp [blkB]
  | t :: ts, gs, j + 1, x, h => by
    have ih := blk_take ts gs.tail j x (by simpa using h)
    have e : gs.tail.getD j [] = gs.getD (j + 1) [] := by cases gs <;> simp
    rw [e] at ih
    rw [List.take_succ_cons, List.take_succ_cons, blkB, blkB, ih]
    simp [List.append_assoc]
theorem gN_get {ts : List (List UInt8)} {j : Nat} {s : List UInt8} (h : ts[j]? = some s) : byt (((gN ts).getD j []).flatMap gapC) = gapB s := by
  unfold gN gapB
  rw [List.getD_eq_getElem?_getD, List.getElem?_map, h]; rfl
theorem gN_none {ts : List (List UInt8)} {j : Nat} (h : ts.length ≤ j) : byt (((gN ts).getD j []).flatMap gapC) = [] := by
  unfold gN
  rw [List.getD_eq_getElem?_getD, List.getElem?_map, List.getElem?_eq_none h]; rfl
/-- What is read of a text of tokens and gaps. -/
theorem blanks_call {ts : List (Int × List UInt8 × Int)} (hm : ∀ t ∈ ts, mayTk t) (gs : List (List Nat)) (hl : (blkB ts gs).length ≤ 4000) : ∃ TL : List Tn, TL.map Tn.b = ts ∧ TL.length ≤ 4001 ∧ ∀ W, Calls Tryz.prog 19 #[.string ⟨(blkB ts gs).toArray⟩] W (GTo ⟨TL, 0, z0⟩ W) := by
  obtain ⟨cs, hc, he, hq, hb⟩ := blanks_read hm gs hl
  refine ⟨(tokO (blkB ts gs).length cs []).l, hb, (read_small hc he).2, fun W => ?_⟩
  have := tokens_any (s := ⟨(blkB ts gs).toArray⟩) (cs := cs) (rest := []) hc W
  have hsz : (⟨(blkB ts gs).toArray⟩ : ByteArray).size = (blkB ts gs).length := by simp [ByteArray.size]
  rw [hsz] at this
  have e : tokO (blkB ts gs).length cs [] = ⟨(tokO (blkB ts gs).length cs []).l, 0, z0⟩ := by rw [← he, ← hq]
  rw [← e]; exact this
open Classical in
set_option maxHeartbeats 8000000 in
theorem lexBlanks_any {A B : Option Addr} {n cp m cq : Nat} {xs : List Tn} {ts : List (List UInt8)} (w : World) (htab : Tbl w) (hr : RTn w w.heap.size A n xs) (hn : n ≤ 140737488355328) (hx : ∀ x ∈ xs, x.s.length ≤ 140737488355328 ∧ -9223372036854775808 ≤ x.n ∧ x.n ≤ 9223372036854775807) (hg : RL w w.heap.size B m ts) :
    Calls Tryz.prog 6 #[.slice A n cp, .slice B m cq] w fun e w' => e = .returned (.bool true) ∧ Bel w w' := by
  have HTB := Lib.hid htab
  have HR := Lib.hid hr
  have HG := Lib.hid hg
  have HX := Lib.hid hx
  have HLEN := Lib.hid hr.1
  have HML := Lib.hid hg.1
  have hed := dgq
  clear htab hr hg hx
  go_enter Tryz.func6, Tryz.ntmps6
  go_wp2_with fail
  refine (known10_any _ HTB.out).mono ?_
  rintro e w1 ⟨rfl, hb1⟩
  have HB1 := Lib.hid hb1
  clear hb1
  go_wp2_with fail
  refine (great10_any _ (HR.out.bel HB1.out) hn).mono ?_
  rintro e w2 ⟨⟨b, rfl, hbn⟩, hb2⟩
  have HB2 := Lib.hid (HB1.out.on hb2)
  clear hb2 HB1
  cases b
  rotate_left
  · go_wp2
    go_ret
    exact ⟨rfl, HB2.out⟩
  have hn2 : n ≤ 20000 := hbn rfl
  clear hbn
  have hbig : 400 < m ∨ m ≤ 400 := by omega
  rcases hbig with hbig | hbig
  · have hd : decide ((400 : Int) < (m : Int)) = true := decide_eq_true (by omega)
    go_wp2
    go_ret
    exact ⟨rfl, HB2.out⟩
  have hd : decide ((400 : Int) < (m : Int)) = false := decide_eq_false (by omega)
  go_wp2_with fail
  obtain ⟨g0, hg0⟩ : ∃ g0, g0 = w2.heap.size := ⟨_, rfl⟩
  have HF0 : Hid (BufF w.heap.size g0 [] (w2.alloc (.cells #[.pointer none, .slice none 0 0] 42))) := Lib.hid (by rw [hg0]; exact BufF.new_ HB2.out.size (blk1 w2 _))
  have HZ0 : Hid (g0 < (w2.alloc (.cells #[.pointer none, .slice none 0 0] 42)).heap.size ∧ w.heap.size ≤ g0) := Lib.hid ⟨by rw [hg0]; simp, by rw [hg0]; exact HB2.out.size⟩
  rw [← hg0]
  clear hg0 hd
  go_loopg [25] (n + 1) (fun gk i wr => ∃ j : Nat, i = .int .i64 (j : Int) ∧ Hid (j ≤ n ∧ n - j < gk) ∧ Hid (∀ t ∈ (xs.map Tn.b).take j, mayTk t) ∧ Hid (BufF w.heap.size g0 (blkB ((xs.map Tn.b).take j) (gN ts)) wr ∧ (blkB ((xs.map Tn.b).take j) (gN ts)).length ≤ j * 6000 ∧ g0 < wr.heap.size) ∧ Hid (Bel w wr))
  case atStart =>
    exact ⟨0, rfl, Lib.hid ⟨by omega, by omega⟩, Lib.hid (by simp), Lib.hid ⟨by simpa [blkB] using HF0.out, by simp [blkB], HZ0.out.1⟩, Lib.hid (HB2.out.alloc _)⟩
  case round =>
    obtain ⟨j, rfl, HJ, HM, HF, HC⟩ := hrel
    by_cases hj : j < n
    · obtain ⟨x, hx⟩ : ∃ x, xs[j]? = some x := ⟨_, List.getElem?_eq_getElem (by have := HLEN.out; omega)⟩
      obtain ⟨b, off, rfl, hb, hcc⟩ := (HR.out.bel HC.out).2 (by omega)
      obtain ⟨x0, x1, x2, x3, x4, x5⟩ := hcc j x hx
      have HXB : Hid ((xs.map Tn.b)[j]? = some x.b) := Lib.hid (by rw [List.getElem?_map, hx]; rfl)
      have hxx := HX.out x (List.mem_of_getElem? hx)
      obtain ⟨S1, hS1⟩ : ∃ S1 : ByteArray, S1 = ⟨(wrO [x.b]).1.toArray⟩ := ⟨_, rfl⟩
      obtain ⟨E1, hE1⟩ : ∃ E1, E1 = (wrO [x.b]).2 := ⟨_, rfl⟩
      have HXL : Hid (∀ y ∈ [x], y.s.length ≤ 140737488355328 ∧ -9223372036854775808 ≤ y.n ∧ y.n ≤ 9223372036854775807) := Lib.hid fun y hy => by rw [List.mem_singleton.1 hy]; exact hxx
      have HS1 := Lib.hid hS1
      have HE1 := Lib.hid hE1
      clear hcc hx hxx hS1 hE1
      go_wp2_with fail
      refine (write_lit (xs := [x]) _ rfl 1 rfl _ (wr.alloc _) (HTB.out.bel (HC.out.alloc _)) _ (by simp) (by decide) HXL.out S1 E1 HS1.out HE1.out).mono ?_
      rintro e w3 ⟨rfl, hb3⟩
      have hb3' := ((Bel.refl wr).alloc _).on hb3
      have HC3 := Lib.hid (HC.out.on hb3')
      obtain ⟨bs, hbs⟩ : ∃ bs, bs = blkB ((xs.map Tn.b).take j) (gN ts) := ⟨_, rfl⟩
      have hf := HF.out
      rw [← hbs] at hf
      have HF3 : Hid (BufF w.heap.size g0 bs w3 ∧ g0 < w3.heap.size) := Lib.hid ⟨hf.1.bel hb3', Nat.lt_of_lt_of_le hf.2.2 hb3'.size⟩
      have hbl := hf.2.1
      have HBS := Lib.hid hbs
      clear hb3 hb3' hbs hf x0 x1 x2 x3 x4 x5 hb
      by_cases hE : E1 = 0
      · have hok := wr_ok (ts := [x.b]) (by rw [← HE1.out]; exact hE)
        have hmx : mayTk x.b := hok.1 x.b (by simp)
        have hSP : S1 = ⟨(putB x.k x.s x.n).toArray⟩ := by rw [HS1.out, hok.2.1]; rfl
        have hpl : (putB x.k x.s x.n).length ≤ 4000 := hok.2.2
        subst hE
        obtain ⟨P, hP⟩ : ∃ P, P = putB x.k x.s x.n := ⟨_, rfl⟩
        rw [← hP] at hSP hpl
        have HP := Lib.hid hP
        have HMX := Lib.hid hmx
        have hss : S1.size ≤ 4000 := by rw [hSP]; simpa [ByteArray.size] using hpl
        have HSP := Lib.hid hSP
        clear hok hmx hSP hP
        obtain ⟨gb, hgb⟩ : ∃ gb, gb = byt (((gN ts).getD j []).flatMap gapC) := ⟨_, rfl⟩
        have HGB := Lib.hid hgb
        clear hgb
        go_upto_if 41 with fail
        obtain ⟨b41, hb41⟩ : ∃ b, b = decide (j < m) := ⟨_, rfl⟩
        rw [← hb41]
        have HB41 := Lib.hid hb41
        clear hb41
        go_cut [11] (fun v wx => Hid (BufF w.heap.size g0 (bs ++ gb) wx ∧ gb.length ≤ 1100 ∧ g0 < wx.heap.size) ∧ Hid (Bel w wx))
        case first =>
          by_cases hjm : j < m
          · have hb : b41 = true := by rw [HB41.out]; exact decide_eq_true (by omega)
            subst hb
            obtain ⟨G, hG⟩ : ∃ G, ts[j]? = some G := ⟨_, List.getElem?_eq_getElem (by have := HML.out; omega)⟩
            obtain ⟨bt, ot, rfl, hbt, hct⟩ := (HG.out.bel HC3.out).2 (by omega)
            have t0 := hct j G hG
            have HGG : Hid (gb = gapB G) := Lib.hid (HGB.out.trans (gN_get hG))
            obtain ⟨SG, hSG⟩ : ∃ SG : ByteArray, SG = ⟨G.toArray⟩ := ⟨_, rfl⟩
            rw [← hSG] at t0
            have hsz : SG.size = G.length := by rw [hSG]; simp [ByteArray.size]
            have HSZ := Lib.hid hsz
            have HSG := Lib.hid hSG
            clear hct hG hSG hsz
            have h100 : 100 < SG.size ∨ SG.size ≤ 100 := by omega
            rcases h100 with h100 | h100
            · have hd : decide ((100 : Int) < (SG.size : Int)) = true := decide_eq_true (by omega)
              go_wp2
              go_ret
              exact ⟨rfl, HC3.out⟩
            · have hd : decide ((100 : Int) < (SG.size : Int)) = false := decide_eq_false (by omega)
              have hcv := Lib.run_convert_string_bytes (P := Tryz.prog) w3 9 40 5 SG Tryz.underlying9 Tryz.underlying40 Tryz.underlying5
              obtain ⟨W7, hW7⟩ : ∃ W7, W7 = Lib.bytesWorld w3 5 SG := ⟨_, rfl⟩
              obtain ⟨ck, hck⟩ : ∃ ck, ck = grownCap w3 SG.size 0 5 := ⟨_, rfl⟩
              obtain ⟨bk, hbk⟩ : ∃ bk, bk = w3.heap.size := ⟨_, rfl⟩
              obtain ⟨Cb, hCb⟩ : ∃ Cb, Cb = Lib.bytesCells w3 5 SG := ⟨_, rfl⟩
              have hnew := Lib.bytesWorld_at_new w3 5 SG
              have hcel : ∀ (q : Nat) (u : UInt8), G[q]? = some u → Cb[q]? = some (Value.int .u8 u.toNat) := fun q u hq => by
                have hql : q < SG.size := by have := (List.getElem?_eq_some_iff.1 hq).1; have := HSZ.out; omega
                have h1 := Lib.bytesWorld_cell w3 5 SG q hql
                unfold World.cell? at h1
                rw [hnew, ← hCb] at h1
                have h2 : (SG.data.toList.getD q 0) = u := by
                  rw [HSG.out]
                  show (G.getD q 0) = u
                  rw [List.getD_eq_getElem?_getD, hq]; rfl
                rw [h2] at h1
                simpa using h1
              have HCEL := Lib.hid hcel
              rw [← hW7, ← hbk, ← hCb] at hnew
              rw [← hck, ← hW7, ← hbk] at hcv
              have HM7 : Hid (Marked bk Cb W7) := Lib.hid hnew
              have hbw : Bel w3 W7 := by rw [hW7]; exact bw_bel _ _ _
              have HC7 := Lib.hid (HC3.out.on hbw)
              have HF7 : Hid (BufF w.heap.size g0 bs W7 ∧ g0 < W7.heap.size) := Lib.hid ⟨HF3.out.1.bel hbw, Nat.lt_of_lt_of_le HF3.out.2 hbw.size⟩
              have hkb : bk ≠ g0 := by rw [hbk]; have := HF3.out.2; omega
              clear hnew hcel hCb hck hW7 hbk hbw hbt
              go_wp2_with fail
              go_loopg [54] (SG.size + 1) (fun gk2 i wr2 => ∃ q : Nat, i = .int .i64 (q : Int) ∧ Hid (q ≤ SG.size ∧ SG.size - q < gk2) ∧ Hid (BufF w.heap.size g0 (bs ++ gapB (G.take q)) wr2 ∧ g0 < wr2.heap.size) ∧ Hid (Marked bk Cb wr2) ∧ Hid (Bel w wr2))
              case atStart => exact ⟨0, rfl, Lib.hid ⟨by omega, by omega⟩, Lib.hid ⟨by simpa [gapB, byt] using HF7.out.1, HF7.out.2⟩, HM7, HC7⟩
              case round =>
                obtain ⟨q, rfl, HI, HF2, HM2, HC2⟩ := hrel
                by_cases hq : q < SG.size
                · obtain ⟨u, hu⟩ : ∃ u, G[q]? = some u := ⟨_, List.getElem?_eq_getElem (by have := HSZ.out; omega)⟩
                  have HU := Lib.hid hu
                  have hcu : wr.cell? ⟨bk, q, none⟩ = some (.int .u8 u.toNat) := by
                    have h := HM2.out
                    unfold Marked at h
                    unfold World.cell?
                    rw [h]
                    exact HCEL.out q u hu
                  have hgl := gapB_len (G.take q)
                  have htl : (G.take q).length ≤ 100 := by rw [List.length_take]; omega
                  have hwz2 : w.heap.size ≤ wr.heap.size := HC2.out.size
                  have hjb : j * 6000 ≤ 120000000 := by omega
                  have hcl1 : (bs ++ gapB (G.take q)).length + ([32, 45, 45, 32, 105, 116, 39, 115, 32, 34, 10] : List UInt8).length ≤ 140737488355328 := by rw [List.length_append]; simp only [List.length_cons, List.length_nil]; omega
                  have hcl2 : (bs ++ gapB (G.take q)).length + 1 ≤ 140737488355328 := by rw [List.length_append]; omega
                  have h5 : u.toNat % 5 = 4 ∨ u.toNat % 5 = 0 ∨ u.toNat % 5 = 1 ∨ u.toNat % 5 = 2 ∨ u.toNat % 5 = 3 := by omega
                  have hu8 := u.toNat_lt
                  clear hu hgl htl hjb
                  rcases h5 with h | h | h | h | h
                  · have hrem : ((u.toNat : Int)).tmod 5 = 4 := by rw [Int.tmod_eq_emod_of_nonneg (by omega)]; omega
                    have HN : Hid (gapB (G.take (q + 1)) = gapB (G.take q) ++ [32, 45, 45, 32, 105, 116, 39, 115, 32, 34, 10]) := Lib.hid (by rw [gapB_take HU.out, gapC_4 h])
                    clear h
                    go_wp2_with fail
                    refine (ws12_any w.heap.size g0 (bs ++ gapB (G.take q)) [32, 45, 45, 32, 105, 116, 39, 115, 32, 34, 10] bk Cb wr HF2.out.1 HM2.out hkb hcl1 hwz2).mono ?_
                    rintro e w6 ⟨rfl, hf6, hk6, hm6⟩
                    have HF6 : Hid (BufF w.heap.size g0 (bs ++ gapB (G.take (q + 1))) w6 ∧ g0 < w6.heap.size) := Lib.hid ⟨by rw [HN.out, ← List.append_assoc]; exact hf6, Nat.lt_of_lt_of_le HF2.out.2 hk6.1.size⟩
                    have HM6 := Lib.hid hm6
                    have HC6 : Hid (Bel w w6) := Lib.hid (Below.trans HC2.out hk6.1)
                    clear hf6 hk6 hm6 hcu
                    go_wp2
                    have hii := HI.out
                    go_roundg (gk - 1)
                    case rel => exact ⟨q + 1, by go_num, Lib.hid ⟨by omega, by omega⟩, HF6, HM6, HC6⟩
                    case measure => omega
                  · have hrem : ((u.toNat : Int)).tmod 5 = 0 := by rw [Int.tmod_eq_emod_of_nonneg (by omega)]; omega
                    have HN : Hid (gapB (G.take (q + 1)) = gapB (G.take q) ++ [32]) := Lib.hid (by rw [gapB_take HU.out, gapC_0 h])
                    clear h
                    go_wp2_with fail
                    refine (wb12_any w.heap.size g0 (bs ++ gapB (G.take q)) 32 32 rfl bk Cb wr HF2.out.1 HM2.out hkb hcl2 hwz2).mono ?_
                    rintro e w6 ⟨rfl, hf6, hk6, hm6⟩
                    have HF6 : Hid (BufF w.heap.size g0 (bs ++ gapB (G.take (q + 1))) w6 ∧ g0 < w6.heap.size) := Lib.hid ⟨by rw [HN.out, ← List.append_assoc]; exact hf6, Nat.lt_of_lt_of_le HF2.out.2 hk6.1.size⟩
                    have HM6 := Lib.hid hm6
                    have HC6 : Hid (Bel w w6) := Lib.hid (Below.trans HC2.out hk6.1)
                    clear hf6 hk6 hm6 hcu
                    go_wp2
                    have hii := HI.out
                    go_roundg (gk - 1)
                    case rel => exact ⟨q + 1, by go_num, Lib.hid ⟨by omega, by omega⟩, HF6, HM6, HC6⟩
                    case measure => omega
                  · have hrem : ((u.toNat : Int)).tmod 5 = 1 := by rw [Int.tmod_eq_emod_of_nonneg (by omega)]; omega
                    have HN : Hid (gapB (G.take (q + 1)) = gapB (G.take q) ++ [9]) := Lib.hid (by rw [gapB_take HU.out, gapC_1 h])
                    clear h
                    go_wp2_with fail
                    refine (wb12_any w.heap.size g0 (bs ++ gapB (G.take q)) 9 9 rfl bk Cb wr HF2.out.1 HM2.out hkb hcl2 hwz2).mono ?_
                    rintro e w6 ⟨rfl, hf6, hk6, hm6⟩
                    have HF6 : Hid (BufF w.heap.size g0 (bs ++ gapB (G.take (q + 1))) w6 ∧ g0 < w6.heap.size) := Lib.hid ⟨by rw [HN.out, ← List.append_assoc]; exact hf6, Nat.lt_of_lt_of_le HF2.out.2 hk6.1.size⟩
                    have HM6 := Lib.hid hm6
                    have HC6 : Hid (Bel w w6) := Lib.hid (Below.trans HC2.out hk6.1)
                    clear hf6 hk6 hm6 hcu
                    go_wp2
                    have hii := HI.out
                    go_roundg (gk - 1)
                    case rel => exact ⟨q + 1, by go_num, Lib.hid ⟨by omega, by omega⟩, HF6, HM6, HC6⟩
                    case measure => omega
                  · have hrem : ((u.toNat : Int)).tmod 5 = 2 := by rw [Int.tmod_eq_emod_of_nonneg (by omega)]; omega
                    have HN : Hid (gapB (G.take (q + 1)) = gapB (G.take q) ++ [10]) := Lib.hid (by rw [gapB_take HU.out, gapC_2 h])
                    clear h
                    go_wp2_with fail
                    refine (wb12_any w.heap.size g0 (bs ++ gapB (G.take q)) 10 10 rfl bk Cb wr HF2.out.1 HM2.out hkb hcl2 hwz2).mono ?_
                    rintro e w6 ⟨rfl, hf6, hk6, hm6⟩
                    have HF6 : Hid (BufF w.heap.size g0 (bs ++ gapB (G.take (q + 1))) w6 ∧ g0 < w6.heap.size) := Lib.hid ⟨by rw [HN.out, ← List.append_assoc]; exact hf6, Nat.lt_of_lt_of_le HF2.out.2 hk6.1.size⟩
                    have HM6 := Lib.hid hm6
                    have HC6 : Hid (Bel w w6) := Lib.hid (Below.trans HC2.out hk6.1)
                    clear hf6 hk6 hm6 hcu
                    go_wp2
                    have hii := HI.out
                    go_roundg (gk - 1)
                    case rel => exact ⟨q + 1, by go_num, Lib.hid ⟨by omega, by omega⟩, HF6, HM6, HC6⟩
                    case measure => omega
                  · have hrem : ((u.toNat : Int)).tmod 5 = 3 := by rw [Int.tmod_eq_emod_of_nonneg (by omega)]; omega
                    have HN : Hid (gapB (G.take (q + 1)) = gapB (G.take q) ++ [13]) := Lib.hid (by rw [gapB_take HU.out, gapC_3 h])
                    clear h
                    go_wp2_with fail
                    refine (wb12_any w.heap.size g0 (bs ++ gapB (G.take q)) 13 13 rfl bk Cb wr HF2.out.1 HM2.out hkb hcl2 hwz2).mono ?_
                    rintro e w6 ⟨rfl, hf6, hk6, hm6⟩
                    have HF6 : Hid (BufF w.heap.size g0 (bs ++ gapB (G.take (q + 1))) w6 ∧ g0 < w6.heap.size) := Lib.hid ⟨by rw [HN.out, ← List.append_assoc]; exact hf6, Nat.lt_of_lt_of_le HF2.out.2 hk6.1.size⟩
                    have HM6 := Lib.hid hm6
                    have HC6 : Hid (Bel w w6) := Lib.hid (Below.trans HC2.out hk6.1)
                    clear hf6 hk6 hm6 hcu
                    go_wp2
                    have hii := HI.out
                    go_roundg (gk - 1)
                    case rel => exact ⟨q + 1, by go_num, Lib.hid ⟨by omega, by omega⟩, HF6, HM6, HC6⟩
                    case measure => omega
                · have hqe : q = SG.size := by have := HI.out; omega
                  subst hqe
                  have HF8 := HF2.out
                  rw [List.take_of_length_le (by have := HSZ.out; omega), ← HGG.out] at HF8
                  have HF9 := Lib.hid HF8
                  have hgl := gapB_len G
                  rw [← HGG.out] at hgl
                  have hgl2 : gb.length ≤ 1100 := by have := HSZ.out; omega
                  clear HF8 hgl
                  go_wp2_with fail
                  go_meet
                  exact ⟨Lib.hid ⟨HF9.out.1, hgl2, HF9.out.2⟩, HC2⟩
          · have hb : b41 = false := by rw [HB41.out]; exact decide_eq_false (by omega)
            subst hb
            have hgb0 : gb = [] := HGB.out.trans (gN_none (by have := HML.out; omega))
            have HF8 : Hid (BufF w.heap.size g0 (bs ++ gb) w3 ∧ gb.length ≤ 1100 ∧ g0 < w3.heap.size) := Lib.hid ⟨by rw [hgb0, List.append_nil]; exact HF3.out.1, by rw [hgb0]; simp, HF3.out.2⟩
            clear hgb0
            go_wp2_with fail
            go_meet
            exact ⟨HF8, HC3⟩
        case rest =>
          obtain ⟨HFc, HCc⟩ := hcut
          have hc1 : ¬ (9223372036854775807 < 1 + S1.size) := by omega
          have hjb : j * 6000 ≤ 120000000 := by omega
          have HN : Hid (blkB ((xs.map Tn.b).take (j + 1)) (gN ts) = bs ++ gb ++ (32 :: P)) := Lib.hid ((blk_take _ (gN ts) j x.b HXB.out).trans (by rw [← HBS.out, ← HGB.out, HP.out, List.append_assoc]; rfl))
          have HWS : Hid (∀ V, BufF w.heap.size g0 (bs ++ gb) V → w.heap.size ≤ V.heap.size → Calls Tryz.prog 21 #[.pointer (some ⟨g0, 0, none⟩), .string ({ data := #[32] } ++ S1)] V fun e w' => e = .returned (.tuple #[.int .i64 ((32 :: P).length : Nat), .nilIface]) ∧ BufF w.heap.size g0 (bs ++ gb ++ (32 :: P)) w' ∧ BufK w.heap.size g0 V w') := Lib.hid fun V h hB => by
            have := ws10_any w.heap.size g0 (bs ++ gb) (32 :: P) V h (by have := HFc.out.2.1; rw [List.length_append, List.length_cons]; omega) hB
            rw [show (⟨(32 :: P).toArray⟩ : ByteArray) = { data := #[32] } ++ S1 from by rw [HSP.out]; apply ByteArray.ext; simp] at this
            exact this
          have hwc := HCc.out.size
          clear hc1
          have hc1 : ¬ (9223372036854775807 < 1 + S1.size) := by omega
          go_wp2_with fail
          refine (HWS.out _ HFc.out.1 hwc).mono ?_
          rintro e w5 ⟨rfl, hf5, hk5⟩
          have HC5 : Hid (Bel w w5) := Lib.hid (Below.trans HCc.out hk5.1)
          have HF5 : Hid (BufF w.heap.size g0 (bs ++ gb ++ (32 :: P)) w5 ∧ g0 < w5.heap.size) := Lib.hid ⟨hf5, Nat.lt_of_lt_of_le HFc.out.2.2 hk5.1.size⟩
          clear hf5 hk5 hc1
          go_wp2
          have hjj := HJ.out
          go_roundg (gk - 1)
          case rel =>
            refine ⟨j + 1, by first | rfl | go_num, Lib.hid ⟨by omega, by omega⟩, Lib.hid ?_, Lib.hid ⟨?_, ?_, HF5.out.2⟩, HC5⟩
            · have hlt := (List.getElem?_eq_some_iff.1 HXB.out).1
              rw [List.take_succ_eq_append_getElem hlt, (List.getElem?_eq_some_iff.1 HXB.out).2]
              intro t ht
              rcases List.mem_append.1 ht with h | h
              · exact HM.out t h
              · rw [List.mem_singleton.1 h]; exact HMX.out
            · rw [HN.out]; exact HF5.out.1
            · rw [HN.out, List.length_append, List.length_append, List.length_cons]
              have := HFc.out.2.1
              omega
          case measure => omega
      · have hne : (E1 != 0) = true := by simpa using hE
        go_wp2
        go_ret
        exact ⟨rfl, HC3.out⟩
    · have hjn : j = n := by have := HJ.out; omega
      subst hjn
      have HALL : Hid (∀ t ∈ xs.map Tn.b, mayTk t) := by
        have := HM.out
        rw [List.take_of_length_le (by rw [List.length_map, ← HLEN.out]; exact Nat.le_refl _)] at this
        exact Lib.hid this
      obtain ⟨bs, hbs⟩ : ∃ bs, bs = blkB (xs.map Tn.b) (gN ts) := ⟨_, rfl⟩
      have hf := HF.out
      rw [List.take_of_length_le (by rw [List.length_map, ← HLEN.out]; exact Nat.le_refl _), ← hbs] at hf
      have HBS := Lib.hid hbs
      have HFW := Lib.hid hf.1
      have hbl := hf.2.1
      have hbw : w.heap.size ≤ wr.heap.size := HC.out.size
      have HL : Hid (Calls Tryz.prog 23 #[.pointer (some ⟨g0, 0, none⟩)] wr fun e w' => e = .returned (.int .i64 (bs.length : Int)) ∧ w' = wr) := by
        have := Tryz.Builder_Len_f _ _ _ wr HFW.out
        rw [Lib.byteCells_length] at this
        exact Lib.hid this
      have HST : Hid (Calls Tryz.prog 24 #[.pointer (some ⟨g0, 0, none⟩)] wr fun e w' => e = .returned (.string ⟨bs.toArray⟩) ∧ Bel w w') :=
        Lib.hid ((Tryz.Builder_String_any_f _ _ bs wr HFW.out hbw).mono fun e w' h => ⟨h.1, Below.trans HC.out h.2.2⟩)
      clear hf hbs HM
      go_wp2_with fail
      refine HL.out.mono ?_
      rintro e w' ⟨rfl, hww⟩
      subst hww
      have hov : 4000 < bs.length ∨ bs.length ≤ 4000 := by omega
      rcases hov with hov | hov
      · have d0 : decide ((4000 : Int) < (bs.length : Int)) = true := decide_eq_true (by omega)
        go_wp2
        go_ret
        exact ⟨rfl, HC.out⟩
      · have d0 : decide ((4000 : Int) < (bs.length : Int)) = false := decide_eq_false (by omega)
        obtain ⟨TL, e1, e2, hT⟩ := blanks_call HALL.out (gN ts) (by rw [← HBS.out]; exact hov)
        rw [← HBS.out] at hT
        have HT := Lib.hid hT
        have HE := Lib.hid (And.intro e1 e2)
        clear hT e1 e2
        go_wp2_with fail
        refine HST.out.mono ?_
        rintro e w3 ⟨rfl, hb3⟩
        have HB3 := Lib.hid hb3
        clear hb3
        go_wp2_with fail
        refine (HT.out _).mono ?_
        rintro e w4 ⟨hb4, A4, n4, c4, rfl, hr4⟩
        have HR4 := Lib.hid hr4
        have HB4 := Lib.hid (HB3.out.on hb4)
        have hn4 : n4 ≤ 1000000000 := by have h1 := hr4.1; have h2 := HE.out.2; have h3 : n4 = TL.length := h1; omega
        clear hb4 hr4
        go_wp2_with fail
        refine (rsame10_any false _ (HR4.out.bel ((Bel.refl w4).alloc _)) (HR.out.bel (HB4.out.alloc _)) hn4 ((samL_b _ _).2 HE.out.1)).mono ?_
        rintro e w5 ⟨rfl, hb5⟩
        have HB5 := Lib.hid ((HB4.out.alloc _).on hb5)
        clear hb5
        go_wp2
        go_ret
        exact ⟨rfl, HB5.out⟩
end Go.Proofs.YteockaolmobmeaaGreatDoor.Mu

