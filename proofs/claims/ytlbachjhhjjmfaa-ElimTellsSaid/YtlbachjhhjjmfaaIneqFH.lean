/-
  Layer 3's functions: whether a side stands, what it is, Holds.
  Layer 3's function Holds: its closure, and the first one that does not hold.
  Layer 3's function Holds, walked.
-/
import Derived.Test.YtlbachjhhjjmfaaIneqDE
import Derived.Test.YtlbachjhhjjmfaaTermX
import Derived.Deep.QuietTactic
import Derived.BigQuiet
import Derived.Deep.RegionHeld3
import Derived.LoopN
namespace Go.Proofs.Ytlbachjhhjjmfaa.Mu
open Go.ChangeShapes Go.WideShapes Go.ChangeAt Go.RowKit

def standsB (h : Bool) (v : Int) (av : List Int) : Bool := !h || okV av v
def atS (c : Int) (h : Bool) (v : Int) (av : List Int) : Int := if h then max c (av[v.toNat]?.getD 0) else c

set_option maxRecDepth 100000 in
theorem stands_any (c : Int) (h : Bool) (v : Int) (G : Option Addr) (gn gc : Nat) (av : List Int) (hv : h = true → 0 ≤ v ∧ v < 1048576) (w : World) (hg : RI .u8 w w.heap.size G gn av) (hmax : gn ≤ 9223372036854775807) :
    Calls Try.prog 37 #[.agg #[.int .u8 c, .bool h, .int .i64 v], .slice G gn gc] w fun e w' => e = .returned (.bool (standsB h v av)) ∧ Bel w w' := by
  have HG := Lib.hid (hg.alloc (.cells #[.int .u8 c, .bool h, .int .i64 v] 72))
  have HL := Lib.hid hg.len
  clear hg
  cases h
  case false =>
    go_enter Try.func37, Try.ntmps37
    go_wp2
    go_ret
    exact ⟨rfl, (Bel.refl _).alloc _⟩
  case true =>
    obtain ⟨v0, v1⟩ := hv rfl
    clear hv
    by_cases hlt : v < (gn : Int)
    · obtain ⟨b, off, rfl, hb, hc⟩ := HG.out.at_ (by omega)
      have hcell := hc v.toNat (by omega)
      obtain ⟨q, hq⟩ : ∃ q, av[v.toNat]?.getD 0 = q := ⟨_, rfl⟩
      rw [hq] at hcell
      have E : Hid (standsB true v av = isMultB q) := Lib.hid (by
        unfold standsB okV
        have : v < (av.length : Int) := by rw [← HL.out]; exact hlt
        simp [this, hq])
      clear hc hq
      go_enter Try.func37, Try.ntmps37
      go_wp2_with fail
      refine (iisMult_any q _).mono ?_
      rintro e w' ⟨rfl, rfl⟩
      go_wp2_with fail
      go_ret
      exact ⟨by rw [E.out]; rfl, (Bel.refl _).alloc _⟩
    · have E : Hid (standsB true v av = false) := Lib.hid (by
        unfold standsB okV
        have : ¬ v < (av.length : Int) := by rw [← HL.out]; exact hlt
        simp [this])
      have hd : decide (v < (gn : Int)) = false := decide_eq_false hlt
      clear HG HL
      go_enter Try.func37, Try.ntmps37
      go_wp2
      go_ret
      exact ⟨by rw [E.out]; rfl, (Bel.refl _).alloc _⟩

set_option maxRecDepth 100000 in
theorem sat_any (c : Int) (h : Bool) (v : Int) (G : Option Addr) (gn gc : Nat) (av : List Int) (hv : h = true → 0 ≤ v ∧ v < gn) (w : World) (hg : RI .u8 w w.heap.size G gn av) (hmax : gn ≤ 9223372036854775807) :
    Calls Try.prog 40 #[.agg #[.int .u8 c, .bool h, .int .i64 v], .slice G gn gc] w fun e w' => e = .returned (.int .u8 (atS c h v av)) ∧ Bel w w' := by
  have HG := Lib.hid (hg.alloc (.cells #[.int .u8 c, .bool h, .int .i64 v] 72))
  clear hg
  cases h
  case false =>
    clear HG
    go_enter Try.func40, Try.ntmps40
    go_wp2
    go_ret
    exact ⟨rfl, (Bel.refl _).alloc _⟩
  case true =>
    obtain ⟨v0, v1⟩ := hv rfl
    clear hv
    obtain ⟨b, off, rfl, hb, hc⟩ := HG.out.at_ (by omega)
    have hcell := hc v.toNat (by omega)
    obtain ⟨q, hq⟩ : ∃ q, av[v.toNat]?.getD 0 = q := ⟨_, rfl⟩
    rw [hq] at hcell
    have E : Hid (atS c true v av = max c q) := Lib.hid (by unfold atS; simp [hq])
    clear hc hq HG
    go_enter Try.func40, Try.ntmps40
    go_wp2_with fail
    go_region
    go_wp2
    go_ret
    exact ⟨by rw [E.out]; rfl, ((Bel.refl _).alloc _).drew⟩
end Go.Proofs.Ytlbachjhhjjmfaa.Mu
namespace Go.Proofs.Ytlbachjhhjjmfaa.Mu
open Go.ChangeShapes Go.WideShapes Go.ChangeAt Go.RowKit

def Iq.may (x : Iq) : Bool := mayI x.v x.m x.c x.r
def Iq.stands (av : List Int) (x : Iq) : Bool := standsB (lhB x.m) (lvF x.v x.m) av && standsB (rhB x.r) x.r av
def Iq.bad (av : List Int) (x : Iq) : Bool := decide (atS x.c (rhB x.r) x.r av < atS (lcF x.m) (lhB x.m) (lvF x.v x.m) av)
theorem may_left {x : Iq} (h : x.may = true) : lhB x.m = true → 0 ≤ lvF x.v x.m ∧ lvF x.v x.m < 1048576 := by
  unfold Iq.may mayI at h; simp only [Bool.and_eq_true] at h; exact lh_var h.1.1.1
theorem may_right {x : Iq} (h : x.may = true) : rhB x.r = true → 0 ≤ x.r ∧ x.r < 1048576 := by
  unfold Iq.may mayI at h; simp only [Bool.and_eq_true, decide_eq_true_eq] at h; exact rh_var h.1.2 h.2
theorem stands_lt {h : Bool} {v : Int} {av : List Int} {gn : Nat} (hs : standsB h v av = true) (hl : gn = av.length) (hv : h = true → 0 ≤ v ∧ v < 1048576) : h = true → 0 ≤ v ∧ v < gn := by
  intro hh
  refine ⟨(hv hh).1, ?_⟩
  unfold standsB okV at hs
  rw [hh] at hs
  simp at hs
  rw [hl]; exact hs.1

set_option maxRecDepth 100000 in
set_option maxHeartbeats 1000000 in
theorem bad_any (v m c r : Int) (gp : Nat) (t : TypeId) (G : Option Addr) (gn gc : Nat) (av : List Int) (hm : (Iq.mk v m c r).may = true) (hs : (Iq.mk v m c r).stands av = true) (w : World) (hp : w.heap[gp]? = some (.cells #[.slice G gn gc] t (0, 0))) (hg : RI .u8 w w.heap.size G gn av) (hmax : gn ≤ 9223372036854775807) :
    Calls Try.prog 39 #[.agg #[.int .i64 v, .int .u8 m, .int .u8 c, .int .i64 r], .pointer (some ⟨gp, 0, none⟩)] w fun e w' => e = .returned (.bool ((Iq.mk v m c r).bad av)) ∧ Bel w w' := by
  have HS2 : Hid (standsB (lhB m) (lvF v m) av = true ∧ standsB (rhB r) r av = true) := Lib.hid (by unfold Iq.stands at hs; simpa using hs)
  have HLV := Lib.hid (stands_lt HS2.out.1 hg.len (may_left hm))
  have HRV := Lib.hid (stands_lt HS2.out.2 hg.len (may_right hm))
  have HG := Lib.hid hg
  have HP := Lib.hid hp
  have hgp : gp < w.heap.size := (Array.getElem?_eq_some_iff.1 hp).1
  have E : Hid ((Iq.mk v m c r).bad av = decide (atS c (rhB r) r av < atS (lcF m) (lhB m) (lvF v m) av)) := Lib.hid rfl
  clear hs hm hg hp HS2
  go_enter Try.func39, Try.ntmps39
  go_wp2_with fail
  refine (sides_any v m c r _).mono ?_
  rintro e w1 ⟨rfl, hb1⟩
  have HB1 : Hid (Bel w w1) := Lib.hid (((Bel.refl w).alloc _).on hb1)
  clear hb1
  go_wp2_with fail
  obtain ⟨W, hW⟩ : ∃ W, W = w1.alloc (.cells #[.int .u8 (lcF m), .bool (lhB m), .int .i64 (lvF v m), .int .u8 c, .bool (rhB r), .int .i64 r] 73) := ⟨_, rfl⟩
  rw [← hW]
  have HBW : Hid (Bel w W) := Lib.hid (by rw [hW]; exact HB1.out.alloc _)
  have HGW := Lib.hid (HG.out.bel HBW.out)
  obtain ⟨k0, k1, k2, k3, k4, k5⟩ := cells6 (w := W) (by rw [hW]; exact blk1 w1 _)
  have kp : W.cell? ⟨gp, 0, none⟩ = some (.slice G gn gc) := (HBW.out.cell (p := ⟨gp, 0, none⟩) hgp).trans (by simp [World.cell?, HP.out])
  have hz : w1.heap.size < W.heap.size := by rw [hW]; simp
  have hzp : gp < W.heap.size := Nat.lt_of_lt_of_le hgp HBW.out.size
  clear hW
  have tok1 : True := trivial
  go_region_held3 (fun w' => w'.cell? ⟨w1.heap.size, 0, none⟩ = some (.int .u8 (lcF m)) ∧ w'.cell? ⟨w1.heap.size, 1, none⟩ = some (.bool (lhB m)) ∧ w'.cell? ⟨w1.heap.size, 2, none⟩ = some (.int .i64 (lvF v m)) ∧ w'.cell? ⟨w1.heap.size, 3, none⟩ = some (.int .u8 c) ∧ w'.cell? ⟨w1.heap.size, 4, none⟩ = some (.bool (rhB r)) ∧ w'.cell? ⟨w1.heap.size, 5, none⟩ = some (.int .i64 r) ∧ w'.cell? ⟨gp, 0, none⟩ = some (.slice G gn gc)) (go_keep)
    (first | (go_at_call 40; have _t := tok1; refine (sat_any _ _ _ _ _ _ _ (by first | exact HLV.out | exact HRV.out) _ (by exact HGW.out) hmax).mono ?_; rintro e w4 ⟨rfl, hb4⟩; clear _t tok1; (have HB4 := Lib.hid (show Bel W w4 by first | exact hb4 | exact (Bel.refl _).drew.on hb4)); (have HG4 := Lib.hid (HGW.out.bel HB4.out)); (have k0 := (HB4.out.cell (p := ⟨w1.heap.size, 0, none⟩) hz).trans k0); (have k1 := (HB4.out.cell (p := ⟨w1.heap.size, 1, none⟩) hz).trans k1); (have k2 := (HB4.out.cell (p := ⟨w1.heap.size, 2, none⟩) hz).trans k2); (have k3 := (HB4.out.cell (p := ⟨w1.heap.size, 3, none⟩) hz).trans k3); (have k4 := (HB4.out.cell (p := ⟨w1.heap.size, 4, none⟩) hz).trans k4); (have k5 := (HB4.out.cell (p := ⟨w1.heap.size, 5, none⟩) hz).trans k5); (have kp := (HB4.out.cell (p := ⟨gp, 0, none⟩) hzp).trans kp); (have hz4 : w1.heap.size < w4.heap.size := Nat.lt_of_lt_of_le hz HB4.out.size); (have hzp4 : gp < w4.heap.size := Nat.lt_of_lt_of_le hzp HB4.out.size); clear hb4) | (go_at_call 40; refine (sat_any _ _ _ _ _ _ _ (by first | exact HLV.out | exact HRV.out) _ (by exact HG4.out) hmax).mono ?_; rintro e w5 ⟨rfl, hb5⟩; (have HB5 := Lib.hid (show Bel w4 w5 by first | exact hb5 | exact (Bel.refl _).drew.on hb5)); (have k0 := (HB5.out.cell (p := ⟨w1.heap.size, 0, none⟩) hz4).trans k0); (have k1 := (HB5.out.cell (p := ⟨w1.heap.size, 1, none⟩) hz4).trans k1); (have k2 := (HB5.out.cell (p := ⟨w1.heap.size, 2, none⟩) hz4).trans k2); (have k3 := (HB5.out.cell (p := ⟨w1.heap.size, 3, none⟩) hz4).trans k3); (have k4 := (HB5.out.cell (p := ⟨w1.heap.size, 4, none⟩) hz4).trans k4); (have k5 := (HB5.out.cell (p := ⟨w1.heap.size, 5, none⟩) hz4).trans k5); (have kp := (HB5.out.cell (p := ⟨gp, 0, none⟩) hzp4).trans kp); clear hb5))
  all_goals
    go_wp2
    go_ret
    exact ⟨ret_bool E.out.symm, HBW.out.on (HB4.out.on HB5.out)⟩

def idxF (p : Iq → Bool) : List Iq → Int
  | [] => -1
  | x :: xs => if p x then 0 else if idxF p xs = -1 then -1 else idxF p xs + 1
theorem idxF_ge (p : Iq → Bool) (xs : List Iq) : -1 ≤ idxF p xs := by
  induction xs with
  | nil => simp [idxF]
  | cons x xs ih => unfold idxF; split; omega; split <;> omega
theorem idxF_none {p : Iq → Bool} {xs : List Iq} (h : xs.all (fun x => !p x) = true) : idxF p xs = -1 := by
  induction xs with
  | nil => rfl
  | cons x xs ih =>
    simp only [List.all_cons, Bool.and_eq_true] at h
    have hx : p x = false := by simpa using h.1
    unfold idxF; rw [hx, ih h.2]; simp
theorem idxF_at {p : Iq → Bool} {xs : List Iq} {j : Nat} {x : Iq} (hx : xs[j]? = some x) (hp : p x = true) (h : (xs.take j).all (fun x => !p x) = true) : idxF p xs = j := by
  induction xs generalizing j with
  | nil => simp at hx
  | cons y xs ih =>
    match j with
    | 0 => simp at hx; subst hx; unfold idxF; rw [hp]; simp
    | j + 1 =>
      simp only [List.take_succ_cons, List.all_cons, Bool.and_eq_true] at h
      have hy : p y = false := by simpa using h.1
      have := ih (by simpa using hx) h.2
      unfold idxF; rw [hy, this]; simp

set_option maxRecDepth 100000 in
set_option maxHeartbeats 1000000 in
theorem iindex_any (A : Option Addr) (n cap : Nat) (xs : List Iq) (gp : Nat) (t : TypeId) (G : Option Addr) (gn gc : Nat) (av : List Int) (w : World) (hr : RQ w w.heap.size A n xs) (hmax : n ≤ 1000000000) (hm : xs.all Iq.may = true) (hs : xs.all (Iq.stands av) = true) (hp : w.heap[gp]? = some (.cells #[.slice G gn gc] t (0, 0))) (hg : RI .u8 w w.heap.size G gn av) (hgm : gn ≤ 9223372036854775807) :
    Calls Try.prog 38 #[.slice A n cap, .func (.func 39) #[] #[.pointer (some ⟨gp, 0, none⟩)]] w fun e w' => e = .returned (.int .i64 (idxF (Iq.bad av) xs)) ∧ Bel w w' := by
  have HR := Lib.hid hr
  have HL := Lib.hid hr.len
  have HM := Lib.hid hm
  have HS := Lib.hid hs
  have HP := Lib.hid hp
  have HG := Lib.hid hg
  clear hr hm hs hp hg
  go_enter Try.func38, Try.ntmps38
  go_wp2
  go_loopw [8] (fun i wr => ∃ k : Nat, k ≤ n ∧ i = .int .i64 k ∧ Hid ((xs.take k).all (fun x => !Iq.bad av x) = true) ∧ Bel w wr) (fun i _ => n - (intOf i).toNat)
  case atStart => exact ⟨0, Nat.zero_le _, rfl, Lib.hid (by simp), Bel.refl _⟩
  case round =>
    obtain ⟨k, hk, rfl, HN, hB⟩ := hrel
    by_cases hlt : k < n
    · obtain ⟨b, off, rfl, hb, hc⟩ := (HR.out.bel hB).at_ (by omega)
      obtain ⟨x, hxk⟩ : ∃ x, xs[k]? = some x := ⟨_, List.getElem?_eq_getElem (by rw [← HL.out]; exact hlt)⟩
      obtain ⟨c0, c1, c2, c3⟩ := hc k x hxk
      have HK := Lib.hid hxk
      have HMX := Lib.hid (List.all_eq_true.1 HM.out x (List.mem_of_getElem? hxk))
      have HSX := Lib.hid (List.all_eq_true.1 HS.out x (List.mem_of_getElem? hxk))
      have HBW := Lib.hid hB
      clear hc hxk hB
      rcases Bool.eq_false_or_eq_true (x.bad av) with hv | hv
      all_goals
        have HV := Lib.hid hv
        have HC : Hid (Calls Try.prog 39 #[.agg #[.int .i64 x.v, .int .u8 x.m, .int .u8 x.c, .int .i64 x.r], .pointer (some ⟨gp, 0, none⟩)] wr fun e w' => e = .returned (.bool _) ∧ Bel wr w') := Lib.hid (by have h := bad_any x.v x.m x.c x.r gp t G gn gc av HMX.out HSX.out wr (HBW.out.blk HP.out) (HG.out.bel HBW.out) hgm; rw [show (Iq.mk x.v x.m x.c x.r) = x from rfl, hv] at h; exact h)
        clear hv
        go_wp2_with fail
        refine (HC.out).mono ?_
        rintro e w1 ⟨rfl, hb1⟩
        go_wp2_with fail
      · go_ret
        exact ⟨ret_int (idxF_at HK.out HV.out HN.out).symm, HBW.out.on hb1⟩
      · go_roundw
        case rel => exact ⟨k + 1, by omega, by go_num, Lib.hid (by rw [take_snoc_ HK.out, List.all_append, HN.out]; simp [HV.out]), HBW.out.on hb1⟩
        case measure => simp [intOf]; omega
    · obtain rfl : k = n := by omega
      have e : xs.take k = xs := by rw [HL.out]; exact List.take_length
      have E : Hid (idxF (Iq.bad av) xs = -1) := Lib.hid (idxF_none (by rw [← e]; exact HN.out))
      clear e
      go_wp2
      all_goals
        go_ret
        exact ⟨ret_int E.out.symm, hB⟩
end Go.Proofs.Ytlbachjhhjjmfaa.Mu
namespace Go.Proofs.Ytlbachjhhjjmfaa.Mu
open Go.ChangeShapes Go.WideShapes Go.ChangeAt Go.RowKit

def TellsN (x y : Int) (w : World) (e : Ending) (w' : World) : Prop := e = .returned (.tuple #[.int .i64 x, .int .i64 y]) ∧ Bel w w'
def holdsN (av : List Int) (xs : List Iq) : Int := if xs.all Iq.may then (if xs.all (Iq.stands av) then idxF (Iq.bad av) xs else 0) else 0
def holdsE (av : List Int) (xs : List Iq) : Int := if xs.all Iq.may then (if xs.all (Iq.stands av) then 0 else 5) else 2
theorem imay_yes {x : Iq} (h : x.may = true) (w : World) : Calls Try.prog 35 #[.agg #[.int .i64 x.v, .int .u8 x.m, .int .u8 x.c, .int .i64 x.r]] w fun e w' => e = .returned (.int .i64 0) ∧ Bel w w' := by
  have h1 := imay_any x.v x.m x.c x.r w
  rw [show mayI x.v x.m x.c x.r = true from h] at h1; exact h1
theorem imay_no {x : Iq} (h : x.may = false) (w : World) : Calls Try.prog 35 #[.agg #[.int .i64 x.v, .int .u8 x.m, .int .u8 x.c, .int .i64 x.r]] w fun e w' => e = .returned (.int .i64 2) ∧ Bel w w' := by
  have h1 := imay_any x.v x.m x.c x.r w
  rw [show mayI x.v x.m x.c x.r = false from h] at h1; exact h1
theorem all_no {p : Iq → Bool} {xs : List Iq} {k : Nat} {x : Iq} (hx : xs[k]? = some x) (h : p x = false) : xs.all p = false := by
  rw [Bool.eq_false_iff]; intro h'
  have := List.all_eq_true.1 h' x (List.mem_of_getElem? hx)
  rw [h] at this; cases this

theorem cell1 {w : World} {g : Nat} {t : TypeId} {x : Value} (h : w.heap[g]? = some (.cells #[x] t (0, 0))) : w.cell? ⟨g, 0, none⟩ = some x := by simp [World.cell?, h]
theorem idx0 (a b c d e f : Value) (w : World) : (Instr.index 73 (.agg #[a, b, c, d, e, f]) (.int .i64 0)).run Try.prog w = .ok (.agg #[a, b, c]) w := by kernel_rfl
theorem idx1 (a b c d e f : Value) (w : World) : (Instr.index 73 (.agg #[a, b, c, d, e, f]) (.int .i64 1)).run Try.prog w = .ok (.agg #[d, e, f]) w := by kernel_rfl
set_option maxRecDepth 100000 in
set_option maxHeartbeats 4000000 in
theorem holds_any (A : Option Addr) (n cap : Nat) (xs : List Iq) (G : Option Addr) (gn gc : Nat) (av : List Int) (w : World) (hr : RQ w w.heap.size A n xs) (hmax : n ≤ 1000000) (hg : RI .u8 w w.heap.size G gn av) (hgm : gn ≤ 9223372036854775807) :
    Calls Try.prog 18 #[.slice A n cap, .slice G gn gc] w (TellsN (holdsN av xs) (holdsE av xs) w) := by
  have HR := Lib.hid hr
  have HL := Lib.hid hr.len
  have HG := Lib.hid hg
  have i0 := idx0
  have i1 := idx1
  clear hr hg
  go_enter Try.func18, Try.ntmps18
  go_wp2
  go_loopw [15] (fun i wr => ∃ k : Nat, k ≤ n ∧ i = .int .i64 k ∧ Hid ((xs.take k).all Iq.may = true) ∧ Hid (wr.heap[w.heap.size]? = some (.cells #[.slice G gn gc] 23 (0, 0))) ∧ Hid (Bel w wr)) (fun i _ => n - (intOf i).toNat)
  case atStart => exact ⟨0, Nat.zero_le _, rfl, Lib.hid (by simp), Lib.hid (blk1 w _), Lib.hid ((Bel.refl _).alloc _)⟩
  case round =>
    obtain ⟨k, hk, rfl, HN, HP, HB⟩ := hrel
    by_cases hlt : k < n
    · obtain ⟨b, off, eA, hb, hc⟩ := (HR.out.bel HB.out).at_ (by omega)
      subst eA
      obtain ⟨x, hxk⟩ : ∃ x, xs[k]? = some x := ⟨_, List.getElem?_eq_getElem (by rw [← HL.out]; exact hlt)⟩
      obtain ⟨c0, c1, c2, c3⟩ := hc k x hxk
      have HK := Lib.hid hxk
      clear hc hxk
      rcases Bool.eq_false_or_eq_true x.may with hv | hv
      · have HV := Lib.hid hv
        clear hv
        go_wp2_with fail
        refine (imay_yes HV.out _).mono ?_
        rintro e w1 ⟨rfl, hb1⟩
        have HB1 := Lib.hid (HB.out.on (((Bel.refl wr).alloc _).on hb1))
        have HP1 := Lib.hid ((((Bel.refl wr).alloc _).on hb1).blk HP.out)
        clear hb1
        go_wp2_with fail
        go_roundw
        case rel => exact ⟨k + 1, by omega, by go_num, Lib.hid (by rw [take_snoc_ HK.out, List.all_append, HN.out]; simp [HV.out]), HP1, HB1⟩
        case measure => simp [intOf]; omega
      · have HV := Lib.hid hv
        clear hv
        go_wp2_with fail
        refine (imay_no HV.out _).mono ?_
        rintro e w1 ⟨rfl, hb1⟩
        have HB1 := Lib.hid (HB.out.on (((Bel.refl wr).alloc _).on hb1))
        clear hb1
        go_wp2_with fail
        go_ret2
        have h := all_no HK.out HV.out
        refine ⟨?_, HB1.out⟩
        unfold holdsN holdsE
        rw [h]; rfl


    · obtain rfl : n = k := by omega
      have e : xs.take n = xs := by rw [HL.out]; exact List.take_length
      rw [e] at HN
      clear e
      obtain ⟨wo, ho⟩ : ∃ wo : World, wo = wr := ⟨_, rfl⟩
      subst ho
      go_wp2
      clear hlt
      go_loopw [27] (fun i wr => ∃ k : Nat, k ≤ n ∧ i = .int .i64 k ∧ Hid ((xs.take k).all (Iq.stands av) = true) ∧ Hid (wr.heap[w.heap.size]? = some (.cells #[.slice G gn gc] 23 (0, 0))) ∧ Hid (Bel w wr)) (fun i _ => n - (intOf i).toNat)
      case atStart => exact ⟨0, Nat.zero_le _, rfl, Lib.hid (by simp), HP, HB⟩
      case round =>
        obtain ⟨k, hk, rfl, HS, HP2, HB2⟩ := hrel
        by_cases hlt : k < n
        · obtain ⟨b, off, eA, hb, hc⟩ := (HR.out.bel HB2.out).at_ (by omega)
          subst eA
          obtain ⟨x, hxk⟩ : ∃ x, xs[k]? = some x := ⟨_, List.getElem?_eq_getElem (by rw [← HL.out]; exact hlt)⟩
          obtain ⟨c0, c1, c2, c3⟩ := hc k x hxk
          have HK := Lib.hid hxk
          have HMX := Lib.hid (List.all_eq_true.1 HN.out x (List.mem_of_getElem? hxk))
          clear hc hxk
          go_wp2_with fail
          refine (sides_any x.v x.m x.c x.r _).mono ?_
          rintro e w1 ⟨rfl, hb1⟩
          have HB1 := Lib.hid (HB2.out.on (((Bel.refl wr).alloc _).on hb1))
          have HP1 := Lib.hid ((((Bel.refl wr).alloc _).on hb1).blk HP2.out)
          clear hb1
          go_wp2_with fail
          have hzp : w.heap.size < w1.heap.size := (Array.getElem?_eq_some_iff.1 HP1.out).1
          have kp := cell1 HP1.out
          have HLV := Lib.hid (may_left HMX.out)
          have HRV := Lib.hid (may_right HMX.out)
          rcases Bool.eq_false_or_eq_true (standsB (lhB x.m) (lvF x.v x.m) av) with hs1 | hs1
          · rcases Bool.eq_false_or_eq_true (standsB (rhB x.r) x.r av) with hs2 | hs2
            all_goals
              have HS1 := Lib.hid hs1
              have HS2 := Lib.hid hs2
              have HC1 : Hid (∀ W, Bel w W → Calls Try.prog 37 #[.agg #[.int .u8 (lcF x.m), .bool (lhB x.m), .int .i64 (lvF x.v x.m)], .slice G gn gc] W fun e w' => e = .returned (.bool _) ∧ Bel W w') := Lib.hid fun W hW => by
                have h := stands_any (lcF x.m) (lhB x.m) (lvF x.v x.m) G gn gc av HLV.out W (HG.out.bel hW) hgm
                rw [hs1] at h; exact h
              have HC2 : Hid (∀ W, Bel w W → Calls Try.prog 37 #[.agg #[.int .u8 x.c, .bool (rhB x.r), .int .i64 x.r], .slice G gn gc] W fun e w' => e = .returned (.bool _) ∧ Bel W w') := Lib.hid fun W hW => by
                have h := stands_any x.c (rhB x.r) x.r G gn gc av HRV.out W (HG.out.bel hW) hgm
                rw [hs2] at h; exact h
              clear hs1 hs2
              refine wp_loop_rounds 3 ?_
              rw [rounds_succ]
              go_wp2_with fail
              refine (HC1.out _ (HB1.out.alloc _)).mono ?_
              rintro e w2 ⟨rfl, hb2⟩
              have HB3 := Lib.hid ((HB1.out.alloc _).on hb2)
              have HP3 := Lib.hid ((((Bel.refl w1).alloc _).on hb2).blk HP1.out)
              have hzp2 : w.heap.size < w2.heap.size := (Array.getElem?_eq_some_iff.1 HP3.out).1
              clear hb2 kp
              have kp := cell1 HP3.out
              go_wp2_with fail
              rw [rounds_succ]
              go_wp2_with fail
              refine (HC2.out _ (HB3.out.alloc _)).mono ?_
              rintro e w3 ⟨rfl, hb3⟩
              have HB4 := Lib.hid ((HB3.out.alloc _).on hb3)
              have HP4 := Lib.hid ((((Bel.refl w2).alloc _).on hb3).blk HP3.out)
              clear hb3 kp
              go_wp2_with fail
            · rw [rounds_succ]
              go_wp2_with fail
              go_roundw
              case rel => exact ⟨k + 1, by omega, by go_num, Lib.hid (by rw [take_snoc_ HK.out, List.all_append, HS.out]; simp [Iq.stands, HS1.out, HS2.out]), HP4, HB4⟩
              case measure => simp [intOf]; omega
            · go_ret2
              have h := all_no (p := Iq.stands av) HK.out (by unfold Iq.stands; rw [HS1.out, HS2.out]; rfl)
              refine ⟨?_, HB4.out⟩
              unfold holdsN holdsE
              rw [HN.out, h]; rfl
          · have HS1 := Lib.hid hs1
            have HC1 : Hid (∀ W, Bel w W → Calls Try.prog 37 #[.agg #[.int .u8 (lcF x.m), .bool (lhB x.m), .int .i64 (lvF x.v x.m)], .slice G gn gc] W fun e w' => e = .returned (.bool _) ∧ Bel W w') := Lib.hid fun W hW => by
              have h := stands_any (lcF x.m) (lhB x.m) (lvF x.v x.m) G gn gc av HLV.out W (HG.out.bel hW) hgm
              rw [hs1] at h; exact h
            clear hs1
            refine wp_loop_rounds 3 ?_
            rw [rounds_succ]
            go_wp2_with fail
            refine (HC1.out _ (HB1.out.alloc _)).mono ?_
            rintro e w2 ⟨rfl, hb2⟩
            have HB3 := Lib.hid ((HB1.out.alloc _).on hb2)
            clear hb2 kp
            go_wp2_with fail
            go_ret2
            have h := all_no (p := Iq.stands av) HK.out (by unfold Iq.stands; rw [HS1.out]; rfl)
            refine ⟨?_, HB3.out⟩
            unfold holdsN holdsE
            rw [HN.out, h]; rfl
        · obtain rfl : k = n := by omega
          have e : xs.take k = xs := by rw [HL.out]; exact List.take_length
          rw [e] at HS
          clear e
          have hzp : w.heap.size < wr.heap.size := (Array.getElem?_eq_some_iff.1 HP2.out).1
          go_wp2_with fail
          refine (iindex_any A k cap xs w.heap.size 23 G gn gc av _ (HR.out.bel HB2.out) (by omega) HN.out HS.out HP2.out (HG.out.bel HB2.out) hgm).mono ?_
          rintro e w1 ⟨rfl, hb1⟩
          have HB1 := Lib.hid (HB2.out.on hb1)
          clear hb1
          go_wp2_with fail
          go_ret2
          refine ⟨?_, HB1.out⟩
          unfold holdsN holdsE
          rw [HN.out, HS.out]; rfl
end Go.Proofs.Ytlbachjhhjjmfaa.Mu

