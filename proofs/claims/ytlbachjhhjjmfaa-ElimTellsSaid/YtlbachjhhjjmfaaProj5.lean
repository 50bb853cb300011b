/-
  The reference of layer 5, walked: Project.
-/
import Derived.Test.YtlbachjhhjjmfaaRef5
namespace Go.Proofs.Ytlbachjhhjjmfaa.Mu
open Go.ChangeShapes Go.WideShapes Go.ChangeAt Go.RowKit Go.Shelf

attribute [local go_sem] Oper.semAt_some

def ProjR5 (xs : List Iq) (G : List Int) (kp : List Nat) (kn : Nat) (w : World) (e : Ending) (w' : World) : Prop :=
  ∃ LA lc UA uc PA pc rows, e = .returned (.agg #[.slice LA kn lc, .slice UA kn uc, .slice PA kn pc]) ∧ RI .u8 w' w'.heap.size LA kn (kp.map fun v => G[v]?.getD 0) ∧ RI .u8 w' w'.heap.size UA kn (kp.map fun v => upM xs v) ∧ RP w' w'.heap.size PA kn rows ∧ (∀ r ∈ rows, r.2.1 = kn) ∧ (rows.map fun r => r.2.2.2) = (kp.map fun v => kp.map fun u => pairM xs G v u) ∧ Bel w w'
set_option maxRecDepth 100000 in
set_option maxHeartbeats 4000000 in
theorem rproj5_any (N : Nat) (A KA : Option Addr) (len cap kn kc : Nat) (xs : List Iq) (kp : List Nat) (G : List Int) (hm : mayF N [] xs = 0) (hgood : ∀ x ∈ xs, GoodQ N x) (hG : SolQ N xs G) (hGl : ∀ S, SolQ N xs S → ∀ v, v < N → G[v]?.getD 0 ≤ S[v]?.getD 0) (hkl : ∀ v ∈ kp, v < N) (hl : len ≤ 60) (hk : kn ≤ 6) (hN : N ≤ 30) (w : World) (hq : RQ w w.heap.size A len xs) (hK : RI .i64 w w.heap.size KA kn (kp.map fun (x : Nat) => (x : Int))) :
    Calls Try.prog 17 #[.int .i64 N, .slice A len cap, .slice KA kn kc] w (ProjR5 xs G kp kn w) := by
  have HQ := Lib.hid hq
  have HK := Lib.hid hK
  have HKN : Hid (kn = kp.length) := Lib.hid (by have := hK.1; simpa using this)
  have HKL := Lib.hid hkl
  have HTWO : Hid (∀ (u v : Nat) (a b : Int) (t : Bool), u < N → v < N → 1 ≤ a ∧ a ≤ 3 → 1 ≤ b ∧ b ≤ 3 → TwoIs N xs u v a b t → ∀ W, Bel w W → Calls Try.prog 34 #[.int .i64 N, .slice A len cap, .int .i64 u, .int .u8 a, .int .i64 v, .int .u8 b] W fun e w' => e = .returned (.bool t) ∧ Bel W w') := Lib.hid fun u v a b t hu hv ha hb ht W hW =>
    rtwo5_any N A len cap u v xs a b t ht hm hgood hu hv ha hb hl hN W (hq.bel hW)
  have HLO : Hid (∀ v, v < N → loF (oneB N xs v) 3 = G[v]?.getD 0) := Lib.hid fun v hv => lo_is hG hGl hv
  have HUP : Hid (∀ v, v < N → upF5 (oneB N xs v) 3 = upM xs v) := Lib.hid fun v hv => up_is hgood hG hv
  have HPR : Hid (∀ v u, v < N → u < N → cOut (twoB N xs v u) 3 = pairM xs G v u) := Lib.hid fun v u hv hu => pair_is hgood hG hGl hv hu
  obtain ⟨lows, hlows⟩ : ∃ l, l = kp.map fun v => G[v]?.getD 0 := ⟨_, rfl⟩
  obtain ⟨ups, hups⟩ : ∃ l, l = kp.map fun v => upM xs v := ⟨_, rfl⟩
  obtain ⟨rowF, hrowF⟩ : ∃ f : Nat → List Int, f = fun i => kp.map fun u => pairM xs G (kp[i]?.getD 0) u := ⟨_, rfl⟩
  have HLOWS := Lib.hid hlows
  have HUPS := Lib.hid hups
  have HROWF := Lib.hid hrowF
  have HWS : Hid (kn ≤ 6) := Lib.hid hk
  obtain ⟨i0, hi0, hz0, hz1, hz2⟩ := info_parts info_mu8'
  obtain ⟨i1, hi1, hy0, hy1, hy2⟩ := info_parts info_slM
  clear hq hK hm hgood hG hGl hkl hlows hups hrowF
  go_enter Try.func17, Try.ntmps17
  go_wp2_with fail
  obtain ⟨b, hb⟩ : ∃ b, b = w.heap.size := ⟨_, rfl⟩
  have HBB := Lib.hid hb
  rw [← hb]
  clear hb
  go_loopw [8] (fun i wr => ∃ k : Nat, k ≤ kn ∧ i = .int .i64 k ∧ ∃ LA lc UA uc PA pc rows, Hid (StP w b kn lows ups rowF LA UA PA k k k k lc uc pc rows wr)) (fun i _ => kn - (intOf i).toNat)
  case atStart =>
    refine ⟨0, Nat.zero_le _, rfl, none, 0, none, 0, none, 0, [], Lib.hid ?_⟩
    rw [HBB.out]
    refine ⟨((Bel.refl w).alloc _).alloc _, (blk2 w _ _).1, (blk2 w _ _).2, ⟨fun s hs => ?_, ?_⟩, by simp, rfl⟩
    · simp at hs
      rcases hs with rfl | rfl | rfl
      · exact World.ownsRow_nil _ _ _ _
      · exact World.ownsRow_nil _ _ _ _
      · exact World.ownsRow_nil _ _ _ _
    · refine List.pairwise_cons.2 ⟨fun u hu j hj => ?_, List.pairwise_cons.2 ⟨fun u hu j hj => ?_, List.pairwise_cons.2 ⟨fun u hu => by simp at hu, List.Pairwise.nil⟩⟩⟩
      · obtain ⟨o, ho⟩ := hj; cases ho
      · obtain ⟨o, ho⟩ := hj; cases ho
  case round =>
    obtain ⟨k, hk', rfl, LA, lc, UA, uc, PA, pc, rows, HS⟩ := hrel
    by_cases hlt : k < kn
    · obtain ⟨v, hv⟩ : ∃ v, kp[k]? = some v := ⟨kp[k]'(by rw [← HKN.out]; exact hlt), by simp⟩
      have hvn := HKL.out v (List.mem_of_getElem? hv)
      obtain ⟨kb, ko, eK, hkb, kcs⟩ := HK.out.at_ (by omega)
      subst eK
      have HCS : Hid (∀ (q u : Nat), kp[q]? = some u → q < kn → ∀ W, Bel w W → W.cell? ⟨kb, ko + q, none⟩ = some (.int .i64 (u : Int))) := Lib.hid fun q u hu hq W hW => (hW.cell (p := ⟨kb, ko + q, none⟩) hkb).trans (by have h := kcs q hq; rw [List.getElem?_map, hu] at h; exact h)
      have HV := Lib.hid hv
      have HVN := Lib.hid hvn
      have HP : Hid (∀ (m : Int), 1 ≤ m ∧ m ≤ 3 → ∀ W, Bel w W → Calls Try.prog 34 #[.int .i64 N, .slice A len cap, .int .i64 v, .int .u8 m, .int .i64 v, .int .u8 m] W fun e w' => e = .returned (.bool (oneB N xs v m)) ∧ Bel W w') := Lib.hid fun m hm W hW => HTWO.out v v m m _ hvn hvn hm hm oneB_is W hW
      have HQ2 : Hid (∀ (u : Nat), u < N → ∀ (m m' : Int), 1 ≤ m ∧ m ≤ 3 → 1 ≤ m' ∧ m' ≤ 3 → ∀ W, Bel w W → Calls Try.prog 34 #[.int .i64 N, .slice A len cap, .int .i64 v, .int .u8 m, .int .i64 u, .int .u8 m'] W fun e w' => e = .returned (.bool (twoB N xs v u m m')) ∧ Bel W w') := Lib.hid fun u hu m m' hm hm' W hW => HTWO.out v u m m' _ hvn hu hm hm' twoB_is W hW
      have HLV := Lib.hid (HLO.out v hvn)
      have HUV := Lib.hid (HUP.out v hvn)
      obtain ⟨p, hp⟩ : ∃ p, p = oneB N xs v := ⟨_, rfl⟩
      rw [← hp] at HP HLV HUV
      have j3 : (0 : Int) ≤ (k : Int) := by omega
      have j4 : (k : Int) < (kn : Int) := by omega
      clear kcs hv hvn hp
      go_wp2_with fail
      obtain ⟨wo, rfl⟩ : ∃ wo : World, wo = wr := ⟨_, rfl⟩
      go_loopw [9, 10, 11] (fun lv uv mv wr => ∃ q : Nat, q ≤ 3 ∧ lv = .int .u8 (loF p q) ∧ uv = .int .u8 (upF5 p q) ∧ mv = .int .u8 ((q : Int) + 1) ∧ Hid (Bel wo wr)) (fun _ _ m _ => 4 - (intOf m).toNat)
      case atStart => exact ⟨0, by omega, rfl, rfl, rfl, Lib.hid (Bel.refl _)⟩
      case round =>
        obtain ⟨q, hq, rfl, rfl, rfl, HB1⟩ := hrel
        have HBW := Lib.hid (HS.out.bel.on HB1.out)
        by_cases hq3 : q < 3
        · have c0 := HCS.out k v HV.out hlt wr HBW.out
          have HC := Lib.hid (HP.out ((q : Int) + 1) (by omega))
          obtain ⟨pb, hpb⟩ : ∃ pb, pb = p ((q : Int) + 1) := ⟨_, rfl⟩
          rw [← hpb] at HC
          have hlb := loF_bd p q
          have HNL : Hid (loF p (q + 1) = if pb = true ∧ loF p q = 0 then (q : Int) + 1 else loF p q) := Lib.hid (by rw [hpb]; rfl)
          have HNU : Hid (upF5 p (q + 1) = if pb = true then (q : Int) + 1 else upF5 p q) := Lib.hid (by rw [hpb]; rfl)
          obtain ⟨lv, hlv⟩ : ∃ lv, lv = loF p q := ⟨_, rfl⟩
          obtain ⟨uv, huv⟩ : ∃ uv, uv = upF5 p q := ⟨_, rfl⟩
          rw [← hlv] at HNL hlb ⊢
          rw [← huv] at HNU ⊢
          clear hpb hlv huv
          have m1 : ((q : Int) + 1) ≤ 3 := by omega
          go_wp2_with fail
          go_region_law (refine step_call rfl 34 #[.int .i64 N, .slice A len cap, .int .i64 v, .int .u8 ((q : Int) + 1), .int .i64 v, .int .u8 ((q : Int) + 1)] (by simp [go_sem]) ((HC.out _ (HBW.out.drew)).mono ?_); rintro e w2 ⟨rfl, hb2⟩; refine ⟨_, rfl, ?_⟩; (have HB2 := Lib.hid (HB1.out.on ((Bel.refl wr).drew.on hb2))); clear hb2)
          all_goals
            cases pb
            · go_wp2_with fail
              go_roundw
              case rel => exact ⟨q + 1, by omega, by rw [HNL.out]; simp, by rw [HNU.out]; simp, by go_num, HB2⟩
              case measure => simp [intOf]; omega
            · by_cases h0 : lv = 0
              · subst h0
                go_wp2_with fail
                go_roundw
                case rel => exact ⟨q + 1, by omega, by rw [HNL.out]; simp, by rw [HNU.out]; simp, by go_num, HB2⟩
                case measure => simp [intOf]; omega
              · have d0 : (lv == 0) = false := by simpa using h0
                go_wp2_with fail
                go_roundw
                case rel => exact ⟨q + 1, by omega, by rw [HNL.out]; simp [h0], by rw [HNU.out]; simp, by go_num, HB2⟩
                case measure => simp [intOf]; omega
        · obtain rfl : q = 3 := by omega
          rw [HLV.out, HUV.out, show (((3 : Nat) : Int) + 1) = 4 from rfl]
          obtain ⟨lo, hlo⟩ : ∃ lo, lo = G[v]?.getD 0 := ⟨_, rfl⟩
          obtain ⟨up, hup⟩ : ∃ up, up = upM xs v := ⟨_, rfl⟩
          rw [← hlo, ← hup]
          have HLOX : Hid (lows[k]? = some lo) := Lib.hid (by rw [HLOWS.out, List.getElem?_map, HV.out, hlo]; rfl)
          have HUPX : Hid (ups[k]? = some up) := Lib.hid (by rw [HUPS.out, List.getElem?_map, HV.out, hup]; rfl)
          have HS1 := Lib.hid (HS.out.bel_ HB1.out)
          clear hlo hup HS HB1 HBW HLV HUV HP
          go_wp2_with fail
          obtain ⟨w1, rfl⟩ : ∃ w1 : World, w1 = wr := ⟨_, rfl⟩
          go_loopw [12, 13] (fun rv jv wr => ∃ q : Nat, q ≤ kn ∧ jv = .int .i64 q ∧ ∃ RA rc, rv = .slice RA q rc ∧ Hid (Bel w1 wr) ∧ Hid (wr.ownsRow w1.heap.size 30 1 (.slice RA q rc) q (((rowF k).take q).map (Value.int .u8)))) (fun _ j _ => kn - (intOf j).toNat)
          case atStart => exact ⟨0, Nat.zero_le _, rfl, none, 0, rfl, Lib.hid (Bel.refl _), Lib.hid (World.ownsRow_nil _ _ _ _)⟩
          case round =>
            obtain ⟨q, hq, rfl, RA, rc, rfl, HB1, HOR⟩ := hrel
            by_cases hlt2 : q < kn
            · obtain ⟨u, hu⟩ : ∃ u, kp[q]? = some u := ⟨kp[q]'(by rw [← HKN.out]; exact hlt2), by simp⟩
              have hun := HKL.out u (List.mem_of_getElem? hu)
              have HQU := Lib.hid (HQ2.out u hun)
              have HPU := Lib.hid (HPR.out v u HVN.out hun)
              have HU := Lib.hid hu
              have HBW := Lib.hid (HS1.out.bel.on HB1.out)
              obtain ⟨f, hf⟩ : ∃ f, f = twoB N xs v u := ⟨_, rfl⟩
              rw [← hf] at HQU HPU
              have j5 : (0 : Int) ≤ (q : Int) := by omega
              have j6 : (q : Int) < (kn : Int) := by omega
              clear hf hu hun
              go_wp2_with fail
              obtain ⟨w2, rfl⟩ : ∃ w2 : World, w2 = wr := ⟨_, rfl⟩
              go_loopw [14, 15] (fun cv av wr => ∃ r : Nat, r ≤ 3 ∧ cv = .int .u8 (cOut f r) ∧ av = .int .u8 ((r : Int) + 1) ∧ Hid (Bel w2 wr)) (fun _ m _ => 4 - (intOf m).toNat)
              case atStart => exact ⟨0, by omega, rfl, rfl, Lib.hid (Bel.refl _)⟩
              case round =>
                obtain ⟨r, hr, rfl, rfl, HB2⟩ := hrel
                by_cases hr3 : r < 3
                · have m1 : ((r : Int) + 1) ≤ 3 := by omega
                  have hcb := cOut_bd f r (by omega)
                  have HCO : Hid (cOut f (r + 1) = cIn f ((r : Int) + 1) (cOut f r) 3) := Lib.hid rfl
                  obtain ⟨cv, hcv⟩ : ∃ cv, cv = cOut f r := ⟨_, rfl⟩
                  rw [← hcv] at HCO hcb ⊢
                  clear hcv
                  go_wp2_with fail
                  obtain ⟨w3, rfl⟩ : ∃ w3 : World, w3 = wr := ⟨_, rfl⟩
                  go_loopw [14, 16] (fun dv bv wr => ∃ l : Nat, l ≤ 3 ∧ dv = .int .u8 (cIn f ((r : Int) + 1) cv l) ∧ bv = .int .u8 ((l : Int) + 1) ∧ Hid (Bel w3 wr)) (fun _ m _ => 4 - (intOf m).toNat)
                  case atStart => exact ⟨0, by omega, rfl, rfl, Lib.hid (Bel.refl _)⟩
                  case round =>
                    obtain ⟨l, hl', rfl, rfl, HB3⟩ := hrel
                    by_cases hl3 : l < 3
                    · have m2 : ((l : Int) + 1) ≤ 3 := by omega
                      have hdb := cIn_bd (q := f) (a := (r : Int) + 1) (by omega) hcb l
                      have HB4 := Lib.hid (HBW.out.on (HB2.out.on HB3.out))
                      have c0 := HCS.out k v HV.out hlt wr HB4.out
                      have c1 := HCS.out q u HU.out hlt2 wr HB4.out
                      have HC := Lib.hid (HQU.out ((r : Int) + 1) ((l : Int) + 1) (by omega) (by omega))
                      obtain ⟨pb, hpb⟩ : ∃ pb, pb = f ((r : Int) + 1) ((l : Int) + 1) := ⟨_, rfl⟩
                      rw [← hpb] at HC
                      have HCI : Hid (cIn f ((r : Int) + 1) cv (l + 1) = if (l : Int) + 1 < (r : Int) + 1 ∧ cIn f ((r : Int) + 1) cv l < (r : Int) + 1 ∧ pb = true then (r : Int) + 1 else cIn f ((r : Int) + 1) cv l) := Lib.hid (by rw [hpb]; rfl)
                      obtain ⟨dv, hdv⟩ : ∃ dv, dv = cIn f ((r : Int) + 1) cv l := ⟨_, rfl⟩
                      rw [← hdv] at HCI hdb ⊢
                      clear hpb hdv
                      by_cases h1 : l < r
                      · by_cases h2 : dv < (r : Int) + 1
                        · have cA : ∀ n : Abv wr, n.wd.cell? ⟨kb, ko + k, none⟩ = some (.int .i64 (v : Int)) := fun n => HCS.out k v HV.out hlt n.wd (HB4.out.on n.bel)
                          have cB : ∀ n : Abv wr, n.wd.cell? ⟨kb, ko + q, none⟩ = some (.int .i64 (u : Int)) := fun n => HCS.out q u HU.out hlt2 n.wd (HB4.out.on n.bel)
                          have d1 : decide (l < r) = true := by simpa using h1
                          have d2 : decide (dv < (r : Int) + 1) = true := by simpa using h2
                          go_wp2_with fail
                          refine wp_region_above (by kernel_rfl) (by kernel_rfl) ?_
                          repeat (go_big_quiet_step ((go_at_call 34; exact (HC.out _ (HB4.out.on (Abv.bel _))).mono fun e w' h => ⟨h.1, ⟨_, (Abv.bel _).on h.2⟩, rfl⟩)))
                          refine wpQuiet_nil ?_
                          intro w4 hw4
                          have HBE : Hid (Bel w3 w4) := Lib.hid (by obtain ⟨n, rfl⟩ := hw4; exact HB3.out.on n.bel)
                          clear hw4
                          all_goals
                            cases pb
                            · go_wp2_with fail
                              go_roundw
                              case rel => exact ⟨l + 1, by omega, by rw [HCI.out]; simp, by go_num, HBE⟩
                              case measure => simp [intOf]; omega
                            · go_wp2_with fail
                              go_roundw
                              case rel => exact ⟨l + 1, by omega, by rw [HCI.out, if_pos ⟨by omega, h2, rfl⟩], by go_num, HBE⟩
                              case measure => simp [intOf]; omega
                        · have d2 : decide (dv < (r : Int) + 1) = false := by simpa using h2
                          go_wp2_with fail
                          go_quiet (fail)
                          go_wp2_with fail
                          go_roundw
                          case rel => exact ⟨l + 1, by omega, by rw [HCI.out, if_neg (by omega)], by go_num, Lib.hid (HB3.out.drewN _)⟩
                          case measure => simp [intOf]; omega
                      · have d1 : decide (l < r) = false := by simpa using h1
                        have d3 : decide ((l : Int) < (r : Int)) = false := by simpa using h1
                        have d4 : decide ((l : Int) + 1 < (r : Int) + 1) = false := by simpa using h1
                        go_wp2_with fail
                        go_quiet (fail)
                        go_wp2_with fail
                        go_roundw
                        case rel => exact ⟨l + 1, by omega, by rw [HCI.out, if_neg (by omega)], by go_num, Lib.hid (HB3.out.drewN _)⟩
                        case measure => simp [intOf]; omega
                    · obtain rfl : l = 3 := by omega
                      rw [← HCO.out]
                      go_wp2_with fail
                      go_roundw
                      case rel => exact ⟨r + 1, by omega, rfl, by go_num, Lib.hid (HB2.out.on HB3.out)⟩
                      case measure => simp [intOf]; omega
                · obtain rfl : r = 3 := by omega
                  rw [HPU.out]
                  have HB5 := Lib.hid (HB1.out.on HB2.out)
                  have HO5 := Lib.hid (owns_bel HOR.out HB2.out)
                  have HX : Hid ((rowF k)[q]? = some (pairM xs G v u)) := Lib.hid (by rw [HROWF.out]; simp only []; rw [List.getElem?_map, HU.out, HV.out]; rfl)
                  obtain ⟨pv, hpv⟩ : ∃ pv, pv = pairM xs G v u := ⟨_, rfl⟩
                  rw [← hpv] at HX ⊢
                  have hs5 := HB5.out.size
                  clear hpv HPU
                  go_wp2_with (at_builtin; refine stopW ?_)
                  unfold StopW
                  refine wpList_append_own_at _ rfl _ _ 23 rfl w1.heap.size 30 i0 (.int .u8 0) 1 1 Try.underlying23 hi0 hz0 hz1 hz2 rfl (by decide) (.slice RA q rc) q _ rfl (HO5.out.alloc _) ⟨wr.heap.size, 0, none⟩ 1 1 [.int .u8 pv] rfl rfl (fun j u hu => by rw [Addr.add_lit, Nat.zero_add]; exact one_cell_at _ _ _ j u hu) (by simp [Value.oneCell']) (by unfold maxLen; omega) (by omega) (by simp; omega) ?_
                  intro v' w5 hown5 hg5 _ _
                  obtain ⟨g5, c5, rfl⟩ := ownsRow_succ hown5
                  have HOn : Hid (w5.ownsRow w1.heap.size 30 1 (.slice (some ⟨g5, 0, none⟩) (q + 1) c5) (q + 1) (((rowF k).take (q + 1)).map (Value.int .u8))) := Lib.hid (by
                    rw [List.take_add_one, HX.out, List.map_append]
                    exact hown5)
                  have HBn : Hid (Bel w1 w5) := Lib.hid (by
                    have hb2 := HB5.out
                    refine ⟨hg5.os.trans hb2.os, hg5.tape.trans hb2.tape, hg5.output.trans hb2.output, by have := hg5.size; simp at this; omega, fun j hj => (hg5.block j (by simp; omega) (fun e => ?_)).trans ((Below.heap_alloc _ _ _ (by omega)).trans (hb2.block j hj))⟩
                    have := (HO5.out.lt j e.symm).1
                    omega)
                  clear hown5 hg5
                  go_wp2_with fail
                  go_roundw
                  case rel => exact ⟨q + 1, by omega, by go_num, _, _, rfl, HBn, HOn⟩
                  case measure => simp [intOf]; omega
            · obtain rfl : q = kn := by omega
              have HSR := Lib.hid (HS1.out.row (by have h := congrArg List.length HS1.out.ct; simp at h; omega) HB1.out rfl (by
                have h := HOR.out
                rw [List.take_of_length_le (by rw [HROWF.out]; simp [← HKN.out])] at h
                exact h) rfl)
              have hrl : rows.length = k := by have h := congrArg List.length HS1.out.ct; simpa using h
              have HRL := Lib.hid hrl
              clear hrl HS1 HOR HB1
              obtain ⟨rows', hrows'⟩ : ∃ rs, rs = rows ++ [(RA, q, rc, rowF k)] := ⟨_, rfl⟩
              rw [← hrows'] at HSR
              have HRX : Hid (rows'[k]? = some (RA, q, rc, rowF k)) := Lib.hid (by rw [hrows', List.getElem?_append_right (by rw [HRL.out]; exact Nat.le_refl _), HRL.out]; simp)
              clear hrows'
              obtain ⟨t0, t1, t2, f0, f1, f2⟩ := cells3 HSR.out.tb
              have hbz : b + 2 ≤ wr.heap.size := (Array.getElem?_eq_some_iff.1 HSR.out.tb).1
              have hOL : wr.ownsRow (b + 2) 30 1 (.slice LA k lc) k ((lows.take k).map (Value.int .u8)) := HSR.out.all.1 (owL LA k lc lows) (by simp)
              have HOL := Lib.hid hOL
              clear hOL
              go_wp2_with (at_builtin; refine stopW ?_)
              unfold StopW
              refine wpList_append_own_at _ rfl _ _ 23 rfl (b + 2) 30 i0 (.int .u8 0) 1 1 Try.underlying23 hi0 hz0 hz1 hz2 rfl (by decide) (.slice LA k lc) k _ rfl (HOL.out.alloc _) ⟨wr.heap.size, 0, none⟩ 1 1 [.int .u8 lo] rfl rfl (fun j u hu => by rw [Addr.add_lit, Nat.zero_add]; exact one_cell_at _ _ _ j u hu) (by simp [Value.oneCell']) (by unfold maxLen; omega) (by omega) (by simp; omega) ?_
              intro v' w5 hown5 hg5 _ hat5
              obtain ⟨g5, c5, rfl⟩ := ownsRow_succ hown5
              have hbx : w5.heap[b + 1]? = some (.cells #[.slice LA k lc, .slice UA k uc, .slice PA k pc] 26 (0, 0)) := blk_far hg5 (((Bel.refl wr).alloc _).blk HSR.out.tb) (fun e => by have := own_lt_bk HOL.out (own_bk HOL.out e.symm); omega)
              have HS6 := Lib.hid (HSR.out.low HBB.out HLOX.out ((Bel.refl wr).alloc _) hg5 hown5 hat5)
              clear t0 t1 t2 f0 f1 f2 hown5 hg5 hat5 HSR HOL hbz
              obtain ⟨t0, t1, t2, f0, f1, f2⟩ := cells3 hbx
              clear hbx
              go_upto_region 28 with fail
              obtain ⟨w6, hw6⟩ : ∃ w6, w6 = w5.setCell ⟨b + 1, 0, none⟩ (.slice (some ⟨g5, 0, none⟩) (k + 1) c5) := ⟨_, rfl⟩
              rw [← hw6]
              rw [← hw6] at HS6
              clear hw6 t0 t1 t2 f0 f1 f2
              obtain ⟨t0, t1, t2, f0, f1, f2⟩ := cells3 HS6.out.tb
              have hbz : b + 2 ≤ w6.heap.size := (Array.getElem?_eq_some_iff.1 HS6.out.tb).1
              have HOU : Hid (w6.ownsRow (b + 2) 30 1 (.slice UA k uc) k ((ups.take k).map (Value.int .u8))) := Lib.hid (HS6.out.all.1 (owL UA k uc ups) (by simp))
              go_wp2_with (at_builtin; refine stopW ?_)
              unfold StopW
              refine wpList_append_own_at _ rfl _ _ 23 rfl (b + 2) 30 i0 (.int .u8 0) 1 1 Try.underlying23 hi0 hz0 hz1 hz2 rfl (by decide) (.slice UA k uc) k _ rfl (HOU.out.alloc _) ⟨w6.heap.size, 0, none⟩ 1 1 [.int .u8 up] rfl rfl (fun j u hu => by rw [Addr.add_lit, Nat.zero_add]; exact one_cell_at _ _ _ j u hu) (by simp [Value.oneCell']) (by unfold maxLen; omega) (by omega) (by simp; omega) ?_
              intro v' w7 hown7 hg7 _ hat7
              obtain ⟨g7, c7, rfl⟩ := ownsRow_succ hown7
              have hbx : w7.heap[b + 1]? = some (.cells #[.slice (some ⟨g5, 0, none⟩) (k + 1) c5, .slice UA k uc, .slice PA k pc] 26 (0, 0)) := blk_far hg7 (((Bel.refl w6).alloc _).blk HS6.out.tb) (fun e => by have := own_lt_bk HOU.out (own_bk HOU.out e.symm); omega)
              have HS8 := Lib.hid (HS6.out.upp HBB.out HUPX.out ((Bel.refl w6).alloc _) hg7 hown7 hat7)
              clear t0 t1 t2 f0 f1 f2 hown7 hg7 hat7 HS6 HOU hbz
              obtain ⟨t0, t1, t2, f0, f1, f2⟩ := cells3 hbx
              clear hbx
              go_upto_region 29 with fail
              obtain ⟨w8, hw8⟩ : ∃ w8, w8 = w7.setCell ⟨b + 1, 1, none⟩ (.slice (some ⟨g7, 0, none⟩) (k + 1) c7) := ⟨_, rfl⟩
              rw [← hw8]
              rw [← hw8] at HS8
              clear hw8 t0 t1 t2 f0 f1 f2
              obtain ⟨t0, t1, t2, f0, f1, f2⟩ := cells3 HS8.out.tb
              have hbz : b + 2 ≤ w8.heap.size := (Array.getElem?_eq_some_iff.1 HS8.out.tb).1
              have HOP : Hid (w8.ownsRow (b + 2) 23 1 (.slice PA k pc) k ((rows'.take k).map sOf)) := Lib.hid (HS8.out.all.1 (owP PA k pc rows') (by simp))
              go_wp2_with (at_builtin; refine stopW ?_)
              unfold StopW
              refine wpList_append_own_at _ rfl _ _ 24 rfl (b + 2) 23 i1 (.slice none 0 0) 1 24 Try.underlying24 hi1 hy0 hy1 hy2 rfl (by decide) (.slice PA k pc) k _ rfl (HOP.out.alloc _) ⟨w8.heap.size, 0, none⟩ 1 1 [sOf (RA, q, rc, rowF k)] rfl rfl (fun j u hu => by rw [Addr.add_lit, Nat.zero_add]; exact one_cell_at _ _ _ j u hu) (by simp [Value.oneCell', sOf]) (by unfold maxLen; omega) (by omega) (by simp; omega) ?_
              intro v' w9 hown9 hg9 _ hat9
              obtain ⟨g9, c9, rfl⟩ := ownsRow_succ hown9
              have hbx : w9.heap[b + 1]? = some (.cells #[.slice (some ⟨g5, 0, none⟩) (k + 1) c5, .slice (some ⟨g7, 0, none⟩) (k + 1) c7, .slice PA k pc] 26 (0, 0)) := blk_far hg9 (((Bel.refl w8).alloc _).blk HS8.out.tb) (fun e => by have := own_lt_bk HOP.out (own_bk HOP.out e.symm); omega)
              have HS10 := Lib.hid (HS8.out.pap HBB.out HRX.out ((Bel.refl w8).alloc _) hg9 hown9 hat9)
              clear t0 t1 t2 f0 f1 f2 hown9 hg9 hat9 HS8 HOP hbz
              obtain ⟨t0, t1, t2, f0, f1, f2⟩ := cells3 hbx
              clear hbx
              go_wp2_with fail
              go_roundw
              case rel => exact ⟨k + 1, by omega, by go_num, _, _, _, _, _, _, _, HS10⟩
              case measure => simp [intOf]; omega
    · obtain rfl : k = kn := by omega
      obtain ⟨t0, t1, t2, f0, f1, f2⟩ := cells3 HS.out.tb
      obtain ⟨u0, u1, u2, g0, g1, g2⟩ := cells3 HS.out.rs
      go_wp2_with fail
      obtain ⟨w9, hw9⟩ : ∃ w9, w9 = (((wr.setCell ⟨b, 0, none⟩ (.slice LA k lc)).setCell ⟨b, 1, none⟩ (.slice UA k uc)).setCell ⟨b, 2, none⟩ (.slice PA k pc)) := ⟨_, rfl⟩
      rw [← hw9]
      obtain ⟨wz, hwz, h9, _, ho⟩ := put3 (x := .slice LA k lc) (y := .slice UA k uc) (z := .slice PA k pc) HS.out.rs
      rw [← hw9] at hwz
      subst hwz
      have hs9 : wz.heap.size = wr.heap.size := by rw [hw9]; simp [World.setCell]
      have hos : wz.os = wr.os ∧ wz.tape = wr.tape ∧ wz.output = wr.output := by rw [hw9]; exact ⟨rfl, rfl, rfl⟩
      obtain ⟨k0, k1, k2, _, _, _⟩ := cells3 h9
      have hall : OwnAll wz (b + 2) (owL LA k lc lows :: owL UA k uc ups :: owP PA k pc rows :: rows.map owR) := HS.out.all.far fun j hj _ => ho j (by omega)
      have HNW := Lib.hid HS.out
      have HAL := Lib.hid hall
      clear hw9 t0 t1 t2 f0 f1 f2 u0 u1 u2 g0 g1 g2 hall
      refine bodyPost_ret (v := .agg #[.slice LA k lc, .slice UA k uc, .slice PA k pc]) (by simp [results, Try.results17, go_sem, k0, k1, k2]) rfl ?_
      have hrl : rows.length = k := by have h := congrArg List.length HNW.out.ct; simpa using h
      have hLL : lows.take k = lows := List.take_of_length_le (by rw [HLOWS.out, List.length_map, ← HKN.out]; exact Nat.le_refl _)
      have hUU : ups.take k = ups := List.take_of_length_le (by rw [HUPS.out, List.length_map, ← HKN.out]; exact Nat.le_refl _)
      have oL : wz.ownsRow (b + 2) 30 1 (.slice LA k lc) k ((lows.take k).map (Value.int .u8)) := HAL.out.1 (owL LA k lc lows) (by simp)
      have oU : wz.ownsRow (b + 2) 30 1 (.slice UA k uc) k ((ups.take k).map (Value.int .u8)) := HAL.out.1 (owL UA k uc ups) (by simp)
      have oP : wz.ownsRow (b + 2) 23 1 (.slice PA k pc) k ((rows.take k).map sOf) := HAL.out.1 (owP PA k pc rows) (by simp)
      rw [hLL, HLOWS.out] at oL
      rw [hUU, HUPS.out] at oU
      rw [List.take_of_length_le (by omega)] at oP
      refine ⟨LA, lc, UA, uc, PA, pc, rows, rfl, RI.of_own oL, RI.of_own oU, RP.of_own (by have := HWS.out; omega) oP (fun r hr => ⟨HNW.out.rn r hr, ?_⟩), HNW.out.rn, ?_, ⟨hos.1.trans HNW.out.bel.os, hos.2.1.trans HNW.out.bel.tape, hos.2.2.trans HNW.out.bel.output, by rw [hs9]; exact HNW.out.bel.size, fun j hj => (ho j (by have := HBB.out; omega)).trans (HNW.out.bel.block j hj)⟩⟩
      · have h := HAL.out.1 (owR r) (by simp only [List.mem_cons, List.mem_map]; exact .inr (.inr (.inr ⟨r, hr, rfl⟩)))
        have e := HNW.out.rn r hr
        unfold Ow.own owR at h
        simp only [e] at h ⊢
        exact h
      · rw [HNW.out.ct, HROWF.out]
        apply List.ext_getElem?
        intro i
        rw [List.getElem?_map, List.getElem?_map]
        by_cases hi : i < k
        · have hi' : i < kp.length := by rw [← HKN.out]; exact hi
          rw [List.getElem?_range hi, List.getElem?_eq_getElem hi']
          simp only [Option.map_some, List.getElem?_eq_getElem hi', Option.getD_some]
        · rw [List.getElem?_eq_none (by simp; omega), List.getElem?_eq_none (by rw [← HKN.out]; omega)]
          rfl
end Go.Proofs.Ytlbachjhhjjmfaa.Mu

