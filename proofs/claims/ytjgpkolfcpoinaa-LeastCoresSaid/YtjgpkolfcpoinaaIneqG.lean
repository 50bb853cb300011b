/-
  Layer 3's function Holds: its closure, and the first one that does not hold.
-/
import Derived.Test.YtjgpkolfcpoinaaIneqF
import Derived.Deep.RegionHeld3
namespace Go.Proofs.Ytjgpkolfcpoinaa.Mu
open Go.ChangeShapes Go.WideShapes Go.ChangeAt Go.RowKit

def Iq.may (x : Iq) : Bool := mayI x.v x.m x.c x.r
def Iq.stands (av : List Int) (x : Iq) : Bool := standsB (lhB x.m) (lvF x.v x.m) av && standsB (rhB x.r) x.r av
def Iq.bad (av : List Int) (x : Iq) : Bool := decide (atS x.c (rhB x.r) x.r av < atS (lcF x.m) (lhB x.m) (lvF x.v x.m) av)
theorem may_left {x : Iq} (h : x.may = true) : lhB x.m = true → 0 ≤ lvF x.v x.m ∧ lvF x.v x.m < 1048576 := by
  unfold Iq.may mayI at h; simp only [Bool.and_eq_true] at h; exact lh_var h.1.1.1
theorem may_right {x : Iq} (h : x.may = true) : rhB x.r = true → 0 ≤ x.r ∧ x.r < 1048576 := by
  unfold Iq.may mayI at h; simp only [Bool.and_eq_true, decide_eq_true_eq] at h; exact rh_var h.1.2 h.2
theorem stands_lt {h : Bool} {v : Int} {av : List Int} {gn : Nat} (hs : standsB h v av = true) (hl : gn = av.length) (hv : h = true → 0 ≤ v ∧ v < 1048576) : h = true → 0 ≤ v ∧ v < gn := by
  intro hh
  refine ⟨(hv hh).1, ?_⟩
  unfold standsB okV at hs
  rw [hh] at hs
  simp at hs
  rw [hl]; exact hs.1

set_option maxRecDepth 100000 in
set_option maxHeartbeats 1000000 in
theorem bad_any (v m c r : Int) (gp : Nat) (t : TypeId) (G : Option Addr) (gn gc : Nat) (av : List Int) (hm : (Iq.mk v m c r).may = true) (hs : (Iq.mk v m c r).stands av = true) (w : World) (hp : w.heap[gp]? = some (.cells #[.slice G gn gc] t (0, 0))) (hg : RI .u8 w w.heap.size G gn av) (hmax : gn ≤ 9223372036854775807) :
    Calls Try.prog 49 #[.agg #[.int .i64 v, .int .u8 m, .int .u8 c, .int .i64 r], .pointer (some ⟨gp, 0, none⟩)] w fun e w' => e = .returned (.bool ((Iq.mk v m c r).bad av)) ∧ Bel w w' := by
  have HS2 : Hid (standsB (lhB m) (lvF v m) av = true ∧ standsB (rhB r) r av = true) := Lib.hid (by unfold Iq.stands at hs; simpa using hs)
  have HLV := Lib.hid (stands_lt HS2.out.1 hg.len (may_left hm))
  have HRV := Lib.hid (stands_lt HS2.out.2 hg.len (may_right hm))
  have HG := Lib.hid hg
  have HP := Lib.hid hp
  have hgp : gp < w.heap.size := (Array.getElem?_eq_some_iff.1 hp).1
  have E : Hid ((Iq.mk v m c r).bad av = decide (atS c (rhB r) r av < atS (lcF m) (lhB m) (lvF v m) av)) := Lib.hid rfl
  clear hs hm hg hp HS2
  go_enter Try.func49, Try.ntmps49
  go_wp2_with fail
  refine (sides_any v m c r _).mono ?_
  rintro e w1 ⟨rfl, hb1⟩
  have HB1 : Hid (Bel w w1) := Lib.hid (((Bel.refl w).alloc _).on hb1)
  clear hb1
  go_wp2_with fail
  obtain ⟨W, hW⟩ : ∃ W, W = w1.alloc (.cells #[.int .u8 (lcF m), .bool (lhB m), .int .i64 (lvF v m), .int .u8 c, .bool (rhB r), .int .i64 r] 81) := ⟨_, rfl⟩
  rw [← hW]
  have HBW : Hid (Bel w W) := Lib.hid (by rw [hW]; exact HB1.out.alloc _)
  have HGW := Lib.hid (HG.out.bel HBW.out)
  obtain ⟨k0, k1, k2, k3, k4, k5⟩ := cells6 (w := W) (by rw [hW]; exact blk1 w1 _)
  have kp : W.cell? ⟨gp, 0, none⟩ = some (.slice G gn gc) := (HBW.out.cell (p := ⟨gp, 0, none⟩) hgp).trans (by simp [World.cell?, HP.out])
  have hz : w1.heap.size < W.heap.size := by rw [hW]; simp
  have hzp : gp < W.heap.size := Nat.lt_of_lt_of_le hgp HBW.out.size
  clear hW
  have tok1 : True := trivial
  go_region_held3 (fun w' => w'.cell? ⟨w1.heap.size, 0, none⟩ = some (.int .u8 (lcF m)) ∧ w'.cell? ⟨w1.heap.size, 1, none⟩ = some (.bool (lhB m)) ∧ w'.cell? ⟨w1.heap.size, 2, none⟩ = some (.int .i64 (lvF v m)) ∧ w'.cell? ⟨w1.heap.size, 3, none⟩ = some (.int .u8 c) ∧ w'.cell? ⟨w1.heap.size, 4, none⟩ = some (.bool (rhB r)) ∧ w'.cell? ⟨w1.heap.size, 5, none⟩ = some (.int .i64 r) ∧ w'.cell? ⟨gp, 0, none⟩ = some (.slice G gn gc)) (go_keep)
    (first | (go_at_call 50; have _t := tok1; refine (sat_any _ _ _ _ _ _ _ (by first | exact HLV.out | exact HRV.out) _ (by exact HGW.out) hmax).mono ?_; rintro e w4 ⟨rfl, hb4⟩; clear _t tok1; (have HB4 := Lib.hid (show Bel W w4 by first | exact hb4 | exact (Bel.refl _).drew.on hb4)); (have HG4 := Lib.hid (HGW.out.bel HB4.out)); (have k0 := (HB4.out.cell (p := ⟨w1.heap.size, 0, none⟩) hz).trans k0); (have k1 := (HB4.out.cell (p := ⟨w1.heap.size, 1, none⟩) hz).trans k1); (have k2 := (HB4.out.cell (p := ⟨w1.heap.size, 2, none⟩) hz).trans k2); (have k3 := (HB4.out.cell (p := ⟨w1.heap.size, 3, none⟩) hz).trans k3); (have k4 := (HB4.out.cell (p := ⟨w1.heap.size, 4, none⟩) hz).trans k4); (have k5 := (HB4.out.cell (p := ⟨w1.heap.size, 5, none⟩) hz).trans k5); (have kp := (HB4.out.cell (p := ⟨gp, 0, none⟩) hzp).trans kp); (have hz4 : w1.heap.size < w4.heap.size := Nat.lt_of_lt_of_le hz HB4.out.size); (have hzp4 : gp < w4.heap.size := Nat.lt_of_lt_of_le hzp HB4.out.size); clear hb4) | (go_at_call 50; refine (sat_any _ _ _ _ _ _ _ (by first | exact HLV.out | exact HRV.out) _ (by exact HG4.out) hmax).mono ?_; rintro e w5 ⟨rfl, hb5⟩; (have HB5 := Lib.hid (show Bel w4 w5 by first | exact hb5 | exact (Bel.refl _).drew.on hb5)); (have k0 := (HB5.out.cell (p := ⟨w1.heap.size, 0, none⟩) hz4).trans k0); (have k1 := (HB5.out.cell (p := ⟨w1.heap.size, 1, none⟩) hz4).trans k1); (have k2 := (HB5.out.cell (p := ⟨w1.heap.size, 2, none⟩) hz4).trans k2); (have k3 := (HB5.out.cell (p := ⟨w1.heap.size, 3, none⟩) hz4).trans k3); (have k4 := (HB5.out.cell (p := ⟨w1.heap.size, 4, none⟩) hz4).trans k4); (have k5 := (HB5.out.cell (p := ⟨w1.heap.size, 5, none⟩) hz4).trans k5); (have kp := (HB5.out.cell (p := ⟨gp, 0, none⟩) hzp4).trans kp); clear hb5))
  all_goals
    go_wp2
    go_ret
    exact ⟨ret_bool E.out.symm, HBW.out.on (HB4.out.on HB5.out)⟩

def idxF (p : Iq → Bool) : List Iq → Int
  | [] => -1
  | x :: xs => if p x then 0 else if idxF p xs = -1 then -1 else idxF p xs + 1
theorem idxF_ge (p : Iq → Bool) (xs : List Iq) : -1 ≤ idxF p xs := by
  induction xs with
  | nil => simp [idxF]
  | cons x xs ih => unfold idxF; split; omega; split <;> omega
theorem idxF_none {p : Iq → Bool} {xs : List Iq} (h : xs.all (fun x => !p x) = true) : idxF p xs = -1 := by
  induction xs with
  | nil => rfl
  | cons x xs ih =>
    simp only [List.all_cons, Bool.and_eq_true] at h
    have hx : p x = false := by simpa using h.1
    unfold idxF; rw [hx, ih h.2]; simp
theorem idxF_at {p : Iq → Bool} {xs : List Iq} {j : Nat} {x : Iq} (hx : xs[j]? = some x) (hp : p x = true) (h : (xs.take j).all (fun x => !p x) = true) : idxF p xs = j := by
  induction xs generalizing j with
  | nil => simp at hx
  | cons y xs ih =>
    match j with
    | 0 => simp at hx; subst hx; unfold idxF; rw [hp]; simp
    | j + 1 =>
      simp only [List.take_succ_cons, List.all_cons, Bool.and_eq_true] at h
      have hy : p y = false := by simpa using h.1
      have := ih (by simpa using hx) h.2
      unfold idxF; rw [hy, this]; simp

set_option maxRecDepth 100000 in
set_option maxHeartbeats 1000000 in
theorem iindex_any (A : Option Addr) (n cap : Nat) (xs : List Iq) (gp : Nat) (t : TypeId) (G : Option Addr) (gn gc : Nat) (av : List Int) (w : World) (hr : RQ w w.heap.size A n xs) (hmax : n ≤ 1000000000) (hm : xs.all Iq.may = true) (hs : xs.all (Iq.stands av) = true) (hp : w.heap[gp]? = some (.cells #[.slice G gn gc] t (0, 0))) (hg : RI .u8 w w.heap.size G gn av) (hgm : gn ≤ 9223372036854775807) :
    Calls Try.prog 48 #[.slice A n cap, .func (.func 49) #[] #[.pointer (some ⟨gp, 0, none⟩)]] w fun e w' => e = .returned (.int .i64 (idxF (Iq.bad av) xs)) ∧ Bel w w' := by
  have HR := Lib.hid hr
  have HL := Lib.hid hr.len
  have HM := Lib.hid hm
  have HS := Lib.hid hs
  have HP := Lib.hid hp
  have HG := Lib.hid hg
  clear hr hm hs hp hg
  go_enter Try.func48, Try.ntmps48
  go_wp2
  go_loopw [8] (fun i wr => ∃ k : Nat, k ≤ n ∧ i = .int .i64 k ∧ Hid ((xs.take k).all (fun x => !Iq.bad av x) = true) ∧ Bel w wr) (fun i _ => n - (intOf i).toNat)
  case atStart => exact ⟨0, Nat.zero_le _, rfl, Lib.hid (by simp), Bel.refl _⟩
  case round =>
    obtain ⟨k, hk, rfl, HN, hB⟩ := hrel
    by_cases hlt : k < n
    · obtain ⟨b, off, rfl, hb, hc⟩ := (HR.out.bel hB).at_ (by omega)
      obtain ⟨x, hxk⟩ : ∃ x, xs[k]? = some x := ⟨_, List.getElem?_eq_getElem (by rw [← HL.out]; exact hlt)⟩
      obtain ⟨c0, c1, c2, c3⟩ := hc k x hxk
      have HK := Lib.hid hxk
      have HMX := Lib.hid (List.all_eq_true.1 HM.out x (List.mem_of_getElem? hxk))
      have HSX := Lib.hid (List.all_eq_true.1 HS.out x (List.mem_of_getElem? hxk))
      have HBW := Lib.hid hB
      clear hc hxk hB
      rcases Bool.eq_false_or_eq_true (x.bad av) with hv | hv
      all_goals
        have HV := Lib.hid hv
        have HC : Hid (Calls Try.prog 49 #[.agg #[.int .i64 x.v, .int .u8 x.m, .int .u8 x.c, .int .i64 x.r], .pointer (some ⟨gp, 0, none⟩)] wr fun e w' => e = .returned (.bool _) ∧ Bel wr w') := Lib.hid (by have h := bad_any x.v x.m x.c x.r gp t G gn gc av HMX.out HSX.out wr (HBW.out.blk HP.out) (HG.out.bel HBW.out) hgm; rw [show (Iq.mk x.v x.m x.c x.r) = x from rfl, hv] at h; exact h)
        clear hv
        go_wp2_with fail
        refine (HC.out).mono ?_
        rintro e w1 ⟨rfl, hb1⟩
        go_wp2_with fail
      · go_ret
        exact ⟨ret_int (idxF_at HK.out HV.out HN.out).symm, HBW.out.on hb1⟩
      · go_roundw
        case rel => exact ⟨k + 1, by omega, by go_num, Lib.hid (by rw [take_snoc_ HK.out, List.all_append, HN.out]; simp [HV.out]), HBW.out.on hb1⟩
        case measure => simp [intOf]; omega
    · obtain rfl : k = n := by omega
      have e : xs.take k = xs := by rw [HL.out]; exact List.take_length
      have E : Hid (idxF (Iq.bad av) xs = -1) := Lib.hid (idxF_none (by rw [← e]; exact HN.out))
      clear e
      go_wp2
      all_goals
        go_ret
        exact ⟨ret_int E.out.symm, hB⟩
end Go.Proofs.Ytjgpkolfcpoinaa.Mu

