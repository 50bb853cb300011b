/-
  The document's own 'texts', walked: are bytes a text?
-/
import Derived.Test.YteockaolmobmeaaGreatDoorLxTok
namespace Go.Proofs.YteockaolmobmeaaGreatDoor.Mu
open Go.RowKit Go.Shelf
set_option maxRecDepth 100000

theorem rtexts_any {s : ByteArray} {cs : List Int} {rest : List UInt8} (h : Cps s.data.toList cs rest) (hs : s.size ≤ 4000000) (w : World) :
    Calls Tryz.prog 45 #[.string s] w fun e w' => e = .returned (.bool (decide (rest = []))) ∧ Bel w w' := by
  have hlen : s.data.toList.length = s.size := by rw [Array.length_toList]; rfl
  have hcl : (encs cs).length + rest.length = s.size := by rw [← hlen, h.eq, List.length_append]
  have HL := Lib.hid hcl
  have H := Lib.hid h
  have hs' : (s.size : Int) ≤ 4000000 := by omega
  clear h hlen hcl
  go_enter Tryz.func45, Tryz.ntmps45
  go_wp2
  go_loopw [3] (fun v wr => ∃ j : Nat, j ≤ cs.length ∧ v = .int .i64 (encs (cs.take j)).length ∧ Hid (Bel w wr)) (fun v _ => s.size - (intOf v).toNat)
  case atStart => exact ⟨0, Nat.zero_le _, rfl, Lib.hid (Bel.refl w)⟩
  case round =>
    obtain ⟨j, hj, rfl, HB⟩ := hrel
    by_cases hlt : j < cs.length
    · obtain ⟨c, hcj⟩ : ∃ c, cs[j]? = some c := ⟨_, List.getElem?_eq_getElem hlt⟩
      obtain ⟨hcp, hpre, hnext, hposlt⟩ := H.out.at_ hcj
      have hwp := wid_pos c
      have hcb := (cpB_iff c).1 hcp
      obtain ⟨pos, hpos⟩ : ∃ pos, pos = (encs (cs.take j)).length := ⟨_, rfl⟩
      rw [← hpos] at hpre hnext hposlt ⊢
      have hpos1 : (pos : Int) < (s.size : Int) := by omega
      have HCP := Lib.hid hcp
      have HPRE := Lib.hid hpre
      have HNX := Lib.hid hnext
      have hc0 : 0 ≤ c := by omega
      clear hcp hpre hnext hpos hcj hcb
      go_wp2_with fail
      refine (rone_any hposlt hs _).mono ?_
      rintro e w2 ⟨n, rfl, hb2, hn⟩
      have hnc : n = c := by
        rcases hn with ⟨h1, h2⟩ | ⟨-, h2⟩
        · exact enc_pre h1 HCP.out h2 HPRE.out
        · exact absurd HPRE.out (h2 c HCP.out)
      subst hnc
      have HB2 := Lib.hid (HB.out.on hb2)
      clear hb2 hn
      go_wp2_with (go_at_call 69; refine (rwidth_any _ _).mono ?_; rintro e w' ⟨rfl, rfl⟩)
      go_roundw
      case rel => exact ⟨j + 1, by omega, by rw [HNX.out]; go_num, HB2⟩
      case measure => simp [intOf]; omega
    · obtain rfl : j = cs.length := by omega
      rw [List.take_length]
      by_cases hr : rest = []
      · have hend : ((encs cs).length : Int) = (s.size : Int) := by have := HL.out; rw [hr] at this; simp at this; omega
        have HR := Lib.hid hr
        obtain ⟨pos, hpos⟩ : ∃ pos, pos = (encs cs).length := ⟨_, rfl⟩
        rw [← hpos] at hend ⊢
        clear hr hpos
        go_wp2
        go_ret
        exact ⟨ret_bool (by simp [HR.out]), HB.out⟩
      · have hrl : 0 < rest.length := List.length_pos_iff.2 hr
        have hlt2 : (encs cs).length < s.size := by have := HL.out; omega
        have hno : ∀ c, cpB c = true → ¬ enc c <+: s.data.toList.drop (encs cs).length := fun c hc hp => by
          rw [H.out.eq, List.drop_left] at hp
          exact H.out.no c hc hp
        obtain ⟨pos, hpos⟩ : ∃ pos, pos = (encs cs).length := ⟨_, rfl⟩
        rw [← hpos] at hno hlt2 ⊢
        have hpos1 : (pos : Int) < (s.size : Int) := by omega
        have HNO := Lib.hid hno
        have HR := Lib.hid hr
        clear hno hr hrl hpos
        go_wp2_with fail
        refine (rone_any hlt2 hs _).mono ?_
        rintro e w2 ⟨n, rfl, hb2, hn⟩
        have hn1 : n = -1 := by
          rcases hn with ⟨h1, h2⟩ | ⟨h1, -⟩
          · exact absurd h2 (HNO.out n h1)
          · exact h1
        subst hn1
        have HB2 := Lib.hid (HB.out.on hb2)
        clear hb2 hn
        go_wp2
        go_ret
        exact ⟨ret_bool (by simp [HR.out]), HB2.out⟩
end Go.Proofs.YteockaolmobmeaaGreatDoor.Mu

