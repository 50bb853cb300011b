/-
  Layer 3's function Holds, walked.
-/
import Derived.Test.YtjgpkolfcpoinaaIneqG
import Derived.LoopN
namespace Go.Proofs.Ytjgpkolfcpoinaa.Mu
open Go.ChangeShapes Go.WideShapes Go.ChangeAt Go.RowKit

def TellsN (x y : Int) (w : World) (e : Ending) (w' : World) : Prop := e = .returned (.tuple #[.int .i64 x, .int .i64 y]) ∧ Bel w w'
def holdsN (av : List Int) (xs : List Iq) : Int := if xs.all Iq.may then (if xs.all (Iq.stands av) then idxF (Iq.bad av) xs else 0) else 0
def holdsE (av : List Int) (xs : List Iq) : Int := if xs.all Iq.may then (if xs.all (Iq.stands av) then 0 else 5) else 2
theorem imay_yes {x : Iq} (h : x.may = true) (w : World) : Calls Try.prog 45 #[.agg #[.int .i64 x.v, .int .u8 x.m, .int .u8 x.c, .int .i64 x.r]] w fun e w' => e = .returned (.int .i64 0) ∧ Bel w w' := by
  have h1 := imay_any x.v x.m x.c x.r w
  rw [show mayI x.v x.m x.c x.r = true from h] at h1; exact h1
theorem imay_no {x : Iq} (h : x.may = false) (w : World) : Calls Try.prog 45 #[.agg #[.int .i64 x.v, .int .u8 x.m, .int .u8 x.c, .int .i64 x.r]] w fun e w' => e = .returned (.int .i64 2) ∧ Bel w w' := by
  have h1 := imay_any x.v x.m x.c x.r w
  rw [show mayI x.v x.m x.c x.r = false from h] at h1; exact h1
theorem all_no {p : Iq → Bool} {xs : List Iq} {k : Nat} {x : Iq} (hx : xs[k]? = some x) (h : p x = false) : xs.all p = false := by
  rw [Bool.eq_false_iff]; intro h'
  have := List.all_eq_true.1 h' x (List.mem_of_getElem? hx)
  rw [h] at this; cases this

theorem cell1 {w : World} {g : Nat} {t : TypeId} {x : Value} (h : w.heap[g]? = some (.cells #[x] t (0, 0))) : w.cell? ⟨g, 0, none⟩ = some x := by simp [World.cell?, h]
theorem idx0 (a b c d e f : Value) (w : World) : (Instr.index 81 (.agg #[a, b, c, d, e, f]) (.int .i64 0)).run Try.prog w = .ok (.agg #[a, b, c]) w := by kernel_rfl
theorem idx1 (a b c d e f : Value) (w : World) : (Instr.index 81 (.agg #[a, b, c, d, e, f]) (.int .i64 1)).run Try.prog w = .ok (.agg #[d, e, f]) w := by kernel_rfl
set_option maxRecDepth 100000 in
set_option maxHeartbeats 4000000 in
theorem holds_any (A : Option Addr) (n cap : Nat) (xs : List Iq) (G : Option Addr) (gn gc : Nat) (av : List Int) (w : World) (hr : RQ w w.heap.size A n xs) (hmax : n ≤ 1000000) (hg : RI .u8 w w.heap.size G gn av) (hgm : gn ≤ 9223372036854775807) :
    Calls Try.prog 24 #[.slice A n cap, .slice G gn gc] w (TellsN (holdsN av xs) (holdsE av xs) w) := by
  have HR := Lib.hid hr
  have HL := Lib.hid hr.len
  have HG := Lib.hid hg
  have i0 := idx0
  have i1 := idx1
  clear hr hg
  go_enter Try.func24, Try.ntmps24
  go_wp2
  go_loopw [15] (fun i wr => ∃ k : Nat, k ≤ n ∧ i = .int .i64 k ∧ Hid ((xs.take k).all Iq.may = true) ∧ Hid (wr.heap[w.heap.size]? = some (.cells #[.slice G gn gc] 22 (0, 0))) ∧ Hid (Bel w wr)) (fun i _ => n - (intOf i).toNat)
  case atStart => exact ⟨0, Nat.zero_le _, rfl, Lib.hid (by simp), Lib.hid (blk1 w _), Lib.hid ((Bel.refl _).alloc _)⟩
  case round =>
    obtain ⟨k, hk, rfl, HN, HP, HB⟩ := hrel
    by_cases hlt : k < n
    · obtain ⟨b, off, eA, hb, hc⟩ := (HR.out.bel HB.out).at_ (by omega)
      subst eA
      obtain ⟨x, hxk⟩ : ∃ x, xs[k]? = some x := ⟨_, List.getElem?_eq_getElem (by rw [← HL.out]; exact hlt)⟩
      obtain ⟨c0, c1, c2, c3⟩ := hc k x hxk
      have HK := Lib.hid hxk
      clear hc hxk
      rcases Bool.eq_false_or_eq_true x.may with hv | hv
      · have HV := Lib.hid hv
        clear hv
        go_wp2_with fail
        refine (imay_yes HV.out _).mono ?_
        rintro e w1 ⟨rfl, hb1⟩
        have HB1 := Lib.hid (HB.out.on (((Bel.refl wr).alloc _).on hb1))
        have HP1 := Lib.hid ((((Bel.refl wr).alloc _).on hb1).blk HP.out)
        clear hb1
        go_wp2_with fail
        go_roundw
        case rel => exact ⟨k + 1, by omega, by go_num, Lib.hid (by rw [take_snoc_ HK.out, List.all_append, HN.out]; simp [HV.out]), HP1, HB1⟩
        case measure => simp [intOf]; omega
      · have HV := Lib.hid hv
        clear hv
        go_wp2_with fail
        refine (imay_no HV.out _).mono ?_
        rintro e w1 ⟨rfl, hb1⟩
        have HB1 := Lib.hid (HB.out.on (((Bel.refl wr).alloc _).on hb1))
        clear hb1
        go_wp2_with fail
        go_ret2
        have h := all_no HK.out HV.out
        refine ⟨?_, HB1.out⟩
        unfold holdsN holdsE
        rw [h]; rfl


    · obtain rfl : n = k := by omega
      have e : xs.take n = xs := by rw [HL.out]; exact List.take_length
      rw [e] at HN
      clear e
      obtain ⟨wo, ho⟩ : ∃ wo : World, wo = wr := ⟨_, rfl⟩
      subst ho
      go_wp2
      clear hlt
      go_loopw [27] (fun i wr => ∃ k : Nat, k ≤ n ∧ i = .int .i64 k ∧ Hid ((xs.take k).all (Iq.stands av) = true) ∧ Hid (wr.heap[w.heap.size]? = some (.cells #[.slice G gn gc] 22 (0, 0))) ∧ Hid (Bel w wr)) (fun i _ => n - (intOf i).toNat)
      case atStart => exact ⟨0, Nat.zero_le _, rfl, Lib.hid (by simp), HP, HB⟩
      case round =>
        obtain ⟨k, hk, rfl, HS, HP2, HB2⟩ := hrel
        by_cases hlt : k < n
        · obtain ⟨b, off, eA, hb, hc⟩ := (HR.out.bel HB2.out).at_ (by omega)
          subst eA
          obtain ⟨x, hxk⟩ : ∃ x, xs[k]? = some x := ⟨_, List.getElem?_eq_getElem (by rw [← HL.out]; exact hlt)⟩
          obtain ⟨c0, c1, c2, c3⟩ := hc k x hxk
          have HK := Lib.hid hxk
          have HMX := Lib.hid (List.all_eq_true.1 HN.out x (List.mem_of_getElem? hxk))
          clear hc hxk
          go_wp2_with fail
          refine (sides_any x.v x.m x.c x.r _).mono ?_
          rintro e w1 ⟨rfl, hb1⟩
          have HB1 := Lib.hid (HB2.out.on (((Bel.refl wr).alloc _).on hb1))
          have HP1 := Lib.hid ((((Bel.refl wr).alloc _).on hb1).blk HP2.out)
          clear hb1
          go_wp2_with fail
          have hzp : w.heap.size < w1.heap.size := (Array.getElem?_eq_some_iff.1 HP1.out).1
          have kp := cell1 HP1.out
          have HLV := Lib.hid (may_left HMX.out)
          have HRV := Lib.hid (may_right HMX.out)
          rcases Bool.eq_false_or_eq_true (standsB (lhB x.m) (lvF x.v x.m) av) with hs1 | hs1
          · rcases Bool.eq_false_or_eq_true (standsB (rhB x.r) x.r av) with hs2 | hs2
            all_goals
              have HS1 := Lib.hid hs1
              have HS2 := Lib.hid hs2
              have HC1 : Hid (∀ W, Bel w W → Calls Try.prog 47 #[.agg #[.int .u8 (lcF x.m), .bool (lhB x.m), .int .i64 (lvF x.v x.m)], .slice G gn gc] W fun e w' => e = .returned (.bool _) ∧ Bel W w') := Lib.hid fun W hW => by
                have h := stands_any (lcF x.m) (lhB x.m) (lvF x.v x.m) G gn gc av HLV.out W (HG.out.bel hW) hgm
                rw [hs1] at h; exact h
              have HC2 : Hid (∀ W, Bel w W → Calls Try.prog 47 #[.agg #[.int .u8 x.c, .bool (rhB x.r), .int .i64 x.r], .slice G gn gc] W fun e w' => e = .returned (.bool _) ∧ Bel W w') := Lib.hid fun W hW => by
                have h := stands_any x.c (rhB x.r) x.r G gn gc av HRV.out W (HG.out.bel hW) hgm
                rw [hs2] at h; exact h
              clear hs1 hs2
              refine wp_loop_rounds 3 ?_
              rw [rounds_succ]
              go_wp2_with fail
              refine (HC1.out _ (HB1.out.alloc _)).mono ?_
              rintro e w2 ⟨rfl, hb2⟩
              have HB3 := Lib.hid ((HB1.out.alloc _).on hb2)
              have HP3 := Lib.hid ((((Bel.refl w1).alloc _).on hb2).blk HP1.out)
              have hzp2 : w.heap.size < w2.heap.size := (Array.getElem?_eq_some_iff.1 HP3.out).1
              clear hb2 kp
              have kp := cell1 HP3.out
              go_wp2_with fail
              rw [rounds_succ]
              go_wp2_with fail
              refine (HC2.out _ (HB3.out.alloc _)).mono ?_
              rintro e w3 ⟨rfl, hb3⟩
              have HB4 := Lib.hid ((HB3.out.alloc _).on hb3)
              have HP4 := Lib.hid ((((Bel.refl w2).alloc _).on hb3).blk HP3.out)
              clear hb3 kp
              go_wp2_with fail
            · rw [rounds_succ]
              go_wp2_with fail
              go_roundw
              case rel => exact ⟨k + 1, by omega, by go_num, Lib.hid (by rw [take_snoc_ HK.out, List.all_append, HS.out]; simp [Iq.stands, HS1.out, HS2.out]), HP4, HB4⟩
              case measure => simp [intOf]; omega
            · go_ret2
              have h := all_no (p := Iq.stands av) HK.out (by unfold Iq.stands; rw [HS1.out, HS2.out]; rfl)
              refine ⟨?_, HB4.out⟩
              unfold holdsN holdsE
              rw [HN.out, h]; rfl
          · have HS1 := Lib.hid hs1
            have HC1 : Hid (∀ W, Bel w W → Calls Try.prog 47 #[.agg #[.int .u8 (lcF x.m), .bool (lhB x.m), .int .i64 (lvF x.v x.m)], .slice G gn gc] W fun e w' => e = .returned (.bool _) ∧ Bel W w') := Lib.hid fun W hW => by
              have h := stands_any (lcF x.m) (lhB x.m) (lvF x.v x.m) G gn gc av HLV.out W (HG.out.bel hW) hgm
              rw [hs1] at h; exact h
            clear hs1
            refine wp_loop_rounds 3 ?_
            rw [rounds_succ]
            go_wp2_with fail
            refine (HC1.out _ (HB1.out.alloc _)).mono ?_
            rintro e w2 ⟨rfl, hb2⟩
            have HB3 := Lib.hid ((HB1.out.alloc _).on hb2)
            clear hb2 kp
            go_wp2_with fail
            go_ret2
            have h := all_no (p := Iq.stands av) HK.out (by unfold Iq.stands; rw [HS1.out]; rfl)
            refine ⟨?_, HB3.out⟩
            unfold holdsN holdsE
            rw [HN.out, h]; rfl
        · obtain rfl : k = n := by omega
          have e : xs.take k = xs := by rw [HL.out]; exact List.take_length
          rw [e] at HS
          clear e
          have hzp : w.heap.size < wr.heap.size := (Array.getElem?_eq_some_iff.1 HP2.out).1
          go_wp2_with fail
          refine (iindex_any A k cap xs w.heap.size 22 G gn gc av _ (HR.out.bel HB2.out) (by omega) HN.out HS.out HP2.out (HG.out.bel HB2.out) hgm).mono ?_
          rintro e w1 ⟨rfl, hb1⟩
          have HB1 := Lib.hid (HB2.out.on hb1)
          clear hb1
          go_wp2_with fail
          go_ret2
          refine ⟨?_, HB1.out⟩
          unfold holdsN holdsE
          rw [HN.out, HS.out]; rfl
end Go.Proofs.Ytjgpkolfcpoinaa.Mu

