/-
  Tokens, walked: THE CONTRACT OF lex.Tokens.
-/
import Derived.Test.YteockaolmobmeaaGreatDoorLexOne
import Derived.Deep.DeepCutAuto
namespace Go.Proofs.YteockaolmobmeaaGreatDoor.Mu
open Go.RowKit Go.Shelf
set_option maxRecDepth 100000

def Rs.app (ds : List (Tk × Nat)) : Rs → Rs
  | .ok ps => .ok (ds ++ ps)
  | .err e o => .err e o
theorem app_nil (r : Rs) : Rs.app [] r = r := by cases r <;> rfl
theorem app_cons (ds : List (Tk × Nat)) (p : Tk × Nat) (r : Rs) : Rs.app ds (r.cons p) = Rs.app (ds ++ [p]) r := by cases r <;> simp [Rs.app, Rs.cons]
theorem toks_skip (f : Nat) (l : List Int) (o : Nat) (hl : ∀ c ∈ l, cpB c = true) : toksF f l o = toksF f (skipL l) (o + (l.length - (skipL l).length)) := by
  cases f with
  | zero => rfl
  | succ f =>
    have hss := skip_skip _ l (Nat.le_refl _)
    have hsl := skipL_len _ l (Nat.le_refl _)
    by_cases hs : skipL l = []
    · rw [toks_end hs, toks_end (by rw [hss]; exact hs)]
    · rw [toks_step hs, toks_step (by rw [hss]; exact hs), hss]
      cases e1 : oneL (skipL l) with
      | err x y => simp only [Nat.sub_self, Nat.add_zero]
      | ok t r =>
        have hr := (one_facts hs e1 (skip_cp hl)).2.2
        simp only [Nat.sub_self, Nat.add_zero]
        rw [show o + (l.length - (skipL l).length) + ((skipL l).length - r.length) = o + (l.length - r.length) by omega]
theorem quo_err_len : ∀ (n : Nat) (l acc : List Int) (d : Nat) (e : Int) (o : Nat), l.length ≤ n → quoL l acc d = .err e o → o = 0 ∨ (d ≤ o ∧ o < d + l.length)
  | _, [], acc, d, e, o, _, h => by rw [quoL] at h; injection h with _ h; exact .inl h.symm
  | 0, c :: l, acc, d, e, o, hl, _ => by simp at hl
  | n + 1, c :: l, acc, d, e, o, hl, h => by
    have hl' : l.length ≤ n := by simpa using hl
    rw [quoL] at h
    split at h
    · cases h
    split at h
    · injection h with _ h; exact .inl h.symm
    split at h
    · split at h
      · injection h with _ h; rw [List.length_cons]; exact .inr (by omega)
      · rename_i hz
        have hne : l ≠ [] := fun e => by rw [e] at hz; exact hz (by decide)
        have h1 : 1 ≤ l.length := by
          cases l with
          | nil => exact absurd rfl hne
          | cons a b => simp
        have := quo_err_len n _ _ _ e o (by rw [List.length_tail]; omega) h
        rw [List.length_tail] at this
        rw [List.length_cons]; omega
    · have := quo_err_len n _ _ _ e o hl' h
      rw [List.length_cons]; omega
theorem one_err_lt {l : List Int} {e : Int} {o : Nat} (hne : l ≠ []) (h : oneL l = .err e o) : o < l.length := by
  have hpos : 0 < l.length := by
    cases l with
    | nil => exact absurd rfl hne
    | cons a b => simp
  unfold oneL at h
  split at h
  · unfold wordL at h
    repeat' split at h
    all_goals first | cases h; done | (injection h with _ h; omega)
  split at h
  · unfold numL at h
    repeat' split at h
    all_goals first | cases h; done | (injection h with _ h; omega)
  split at h
  · have := quo_err_len _ _ _ _ e o (Nat.le_refl _) h
    rw [List.length_tail] at this; omega
  · unfold signL at h
    repeat' split at h
    all_goals first | cases h; done | (injection h with _ h; omega)
theorem place_r : ∀ (p : Pl) (cs : List Int), (place p cs).map Pn.r = cs
  | _, [] => rfl
  | p, c :: cs => by show c :: (place (p.next c) cs).map Pn.r = _; rw [place_r]
theorem tkF_cases (k : Int) : tkF k = 51 ∨ tkF k = 52 ∨ tkF k = 53 ∨ tkF k = 54 ∨ tkF k = 55 := by
  unfold tkF
  repeat' split
  all_goals simp
theorem own_kr {w w' : World} {g base : Nat} {e : TypeId} {size : Nat} {V : Value} {n : Nat} {xs : List Value} (h : w.ownsRow base e size V n xs) (k : Kr g w w') (hg : g < base) : w'.ownsRow base e size V n xs := by
  obtain ⟨h1, h2⟩ := h
  refine ⟨h1, ?_⟩
  rcases h2 with h2 | ⟨q, cap, cur, a, b, c, d⟩
  · exact .inl h2
  · exact .inr ⟨q, cap, cur, a, b, by rw [k.block q (Array.getElem?_eq_some_iff.1 c).1 (by omega)]; exact c, d⟩
theorem news_at (w : World) (L : List Value) (t : TypeId) : ∀ j u, L[j]? = some u → (w.alloc (.cells L.toArray t)).cell? ⟨w.heap.size, j, none⟩ = some u := by
  intro j u hu
  have hb := blk1 w (.cells L.toArray t)
  unfold World.cell?
  rw [hb]
  simp [hu]
theorem toks_at {cs : List Int} {k f : Nat} {done : List (Tk × Nat)} (h : toksF (cs.length + 1) cs 0 = Rs.app done (toksF f (cs.drop k) k)) (hsk : skipL (cs.drop k) = cs.drop k) (hk : k < cs.length) (hf : 0 < f) :
    toksF (cs.length + 1) cs 0 = Rs.app done (match oneL (cs.drop k) with
      | .err e d => .err e (k + d)
      | .ok t r => (toksF (f - 1) r (k + ((cs.drop k).length - r.length))).cons (t, k)) := by
  obtain ⟨f', rfl⟩ : ∃ f', f = f' + 1 := ⟨f - 1, by omega⟩
  have hne : cs.drop k ≠ [] := fun e => by have := congrArg List.length e; rw [List.length_drop] at this; simp at this; omega
  rw [h, toks_step (by rw [hsk]; exact hne), hsk]
  simp only [Nat.sub_self, Nat.add_zero, Nat.add_sub_cancel]
  rfl
theorem toks_err_at {cs : List Int} {k f : Nat} {done : List (Tk × Nat)} {e : Int} {d : Nat} (h : toksF (cs.length + 1) cs 0 = Rs.app done (toksF f (cs.drop k) k)) (hsk : skipL (cs.drop k) = cs.drop k) (hk : k < cs.length) (hf : 0 < f) (hR : Rd.err e d = oneL (cs.drop k)) :
    e ≠ 0 ∧ rsO cs (toksF (cs.length + 1) cs 0) = ⟨[], e, (((place p0 cs)[k + d]?).map Pn.p).getD z0⟩ := by
  have hne : cs.drop k ≠ [] := fun e => by have := congrArg List.length e; rw [List.length_drop] at this; simp at this; omega
  have hlt := one_err_lt hne hR.symm
  rw [List.length_drop] at hlt
  refine ⟨one_err hR.symm, ?_⟩
  rw [toks_at h hsk hk hf, ← hR]
  obtain ⟨c, hc⟩ : ∃ c, cs[k + d]? = some c := ⟨_, List.getElem?_eq_getElem (by omega)⟩
  show (⟨[], e, ends p0 (cs.take (k + d))⟩ : To) = _
  rw [place_get p0 cs (k + d) c hc]; rfl
theorem toks_ok_at {cs : List Int} {k k2 k3 f : Nat} {done : List (Tk × Nat)} {t : Tk} (hc : AllCp cs) (h : toksF (cs.length + 1) cs 0 = Rs.app done (toksF f (cs.drop k) k)) (hsk : skipL (cs.drop k) = cs.drop k) (hk : k < cs.length) (hf : 0 < f) (hR : Rd.ok t (cs.drop k2) = oneL (cs.drop k)) (hkk : k ≤ k2) (h2 : k2 ≤ cs.length) (hs3 : skipL (cs.drop k2) = cs.drop k3) (h23 : k2 ≤ k3) (h3 : k3 ≤ cs.length) :
    k < k2 ∧ toksF (cs.length + 1) cs 0 = Rs.app (done ++ [(t, k)]) (toksF (f - 1) (cs.drop k3) k3) ∧ skipL (cs.drop k3) = cs.drop k3 := by
  have hne : cs.drop k ≠ [] := fun e => by have := congrArg List.length e; rw [List.length_drop] at this; simp at this; omega
  have hfc := (one_facts hne hR.symm fun c hcc => hc c (List.mem_of_mem_drop hcc)).2.2
  rw [List.length_drop, List.length_drop] at hfc
  refine ⟨by omega, ?_, by rw [← hs3]; exact skip_skip _ _ (Nat.le_refl _)⟩
  rw [toks_at h hsk hk hf, ← hR]
  show Rs.app done ((toksF (f - 1) (cs.drop k2) (k + ((cs.drop k).length - (cs.drop k2).length))).cons (t, k)) = _
  rw [app_cons, List.length_drop, List.length_drop, show k + (cs.length - k - (cs.length - k2)) = k2 by omega, toks_skip (f - 1) (cs.drop k2) k2 (fun c hcc => hc c (List.mem_of_mem_drop hcc)), hs3, List.length_drop, List.length_drop, show k2 + (cs.length - k2 - (cs.length - k3)) = k3 by omega]
/-- What Tokens hands back. -/
def GTo (o : To) (w : World) (e : Ending) (w' : World) : Prop :=
  Bel w w' ∧ ∃ A n c, e = .returned (.tuple #[.slice A n c, .agg #[.int .i64 o.e, .int .i64 o.q.a, .int .i64 o.q.l, .int .i64 o.q.c]]) ∧ RTn w' w'.heap.size A n o.l
/-- The same, with the row's room told. -/
def GToC (o : To) (w : World) (e : Ending) (w' : World) : Prop :=
  Bel w w' ∧ ∃ A n c, e = .returned (.tuple #[.slice A n c, .agg #[.int .i64 o.e, .int .i64 o.q.a, .int .i64 o.q.l, .int .i64 o.q.c]]) ∧ RTn w' w'.heap.size A n o.l ∧ n ≤ c
theorem own_cap {w : World} {base : Nat} {e : TypeId} {size n c : Nat} {A : Option Addr} {xs : List Value} (h : w.ownsRow base e size (.slice A n c) n xs) : n ≤ c := by
  rcases h.2 with ⟨_, h0⟩ | ⟨g, cap, cur, hv, hb, hg, hc, _⟩
  · omega
  · injection hv with _ _ h3
    omega
theorem info_tok : (Tryz.prog.info? 44).map (fun i => (i.zero, i.size, i.bytes)) = some (some (.agg #[.int .u8 0, .string ⟨#[]⟩, .int .i64 0, .int .i64 0, .int .i64 0, .int .i64 0]), 6, 56) := by kernel_rfl
set_option maxHeartbeats 8000000 in
theorem tokens_anyC {s : ByteArray} {cs : List Int} {rest : List UInt8} (h : Cps s.data.toList cs rest) (w : World) : Calls Tryz.prog 19 #[.string s] w (GToC (tokO s.size cs rest) w) := by
  have HP : Hid (∀ w, Calls Tryz.prog 32 #[.string s] w (GO2 (ot s.size cs rest) w)) := Lib.hid fun w => points_any h w
  obtain ⟨O, hO⟩ : ∃ O, O = ot s.size cs rest := ⟨_, rfl⟩
  obtain ⟨TT, hTT⟩ : ∃ TT, TT = tokO s.size cs rest := ⟨_, rfl⟩
  rw [← hO] at HP
  rw [← hTT]
  have HO := Lib.hid hO
  have HTT := Lib.hid hTT
  have H := Lib.hid h
  clear hO hTT h
  go_enter Tryz.func19, Tryz.ntmps19
  go_wp2_with fail
  refine (HP.out _).mono ?_
  rintro e w1 ⟨hb, A, n, c, rfl, hq⟩
  have q0 := blk1 w (.cells #[.int .i64 0, .int .i64 0, .int .i64 0, .int .i64 0] 34)
  have HQ0 := Lib.hid (hb.blk q0)
  have HB1 := Lib.hid (((Bel.refl w).alloc (.cells #[.int .i64 0, .int .i64 0, .int .i64 0, .int .i64 0] 34)).on hb)
  have HRP := Lib.hid hq
  have hs1 : w.heap.size < w1.heap.size := by have := hb.size; simp at this; omega
  clear hb q0 hq
  by_cases hoe : O.e = 0
  · go_wp2_with fail
    obtain ⟨hs4, rfl⟩ := ot_ok.1 (by rw [← HO.out]; exact hoe)
    have hOx : O.xs = place p0 cs := by rw [HO.out, ot, if_neg (by omega), if_pos rfl]
    have hcp : AllCp cs := H.out.cp
    have hsz : (encs cs).length ≤ 4000 := by
      have e := congrArg List.length H.out.eq
      rw [List.append_nil, Array.length_toList] at e
      have : s.data.size = s.size := rfl
      omega
    have hmap : (place p0 cs).map Pn.r = cs := place_r p0 cs
    have hln : n = cs.length := by have := HRP.out.len; rw [hOx, place_len] at this; exact this
    have hn4 : n ≤ 4000 := by have := encs_len_ge hcp; omega
    have htt : TT = rsO cs (toksF (cs.length + 1) cs 0) := by rw [HTT.out, tokO, ← HO.out, if_pos hoe]
    have HTR := Lib.hid htt
    have hrd : Rdr ((w1.alloc (.cells #[.int .i64 0, .int .i64 O.q.a, .int .i64 O.q.l, .int .i64 O.q.c] 34)).alloc (.cells #[.slice A n c, .int .i64 0] 66)) (w1.heap.size + 1) A n c (place p0 cs) 0 := by
      have hbb : Bel w1 ((w1.alloc (.cells #[.int .i64 0, .int .i64 O.q.a, .int .i64 O.q.l, .int .i64 O.q.c] 34)).alloc (.cells #[.slice A n c, .int .i64 0] 66)) := ((Bel.refl w1).alloc _).alloc _
      refine ⟨(blk2 w1 _ _).2, ?_, Nat.zero_le _, hn4⟩
      have := HRP.out
      rw [hOx] at this
      exact (this.keep fun b o hb => hbb.cell (p := ⟨b, o, none⟩) hb).more (by omega)
    obtain ⟨w2, hw2⟩ : ∃ w2, w2 = (w1.alloc (.cells #[.int .i64 0, .int .i64 O.q.a, .int .i64 O.q.l, .int .i64 O.q.c] 34)).alloc (.cells #[.slice A n c, .int .i64 0] 66) := ⟨_, rfl⟩
    have hs2 : w2.heap.size = w1.heap.size + 2 := by rw [hw2]; simp
    have hb2 : Bel w1 w2 := by rw [hw2]; exact ((Bel.refl w1).alloc _).alloc _
    rw [← hw2] at hrd ⊢
    obtain ⟨g, hg⟩ : ∃ g, g = w1.heap.size + 1 := ⟨_, rfl⟩
    rw [← hg] at hrd ⊢
    obtain ⟨xs, hxs⟩ : ∃ xs, xs = place p0 cs := ⟨_, rfl⟩
    rw [← hxs] at hrd hmap
    have HXS := Lib.hid hxs
    have HR2 := Lib.hid hrd
    have HMAP := Lib.hid hmap
    have HCP := Lib.hid hcp
    have HSZ := Lib.hid hsz
    have HB2 := Lib.hid (HB1.out.on hb2)
    have HQ2 := Lib.hid (hb2.blk HQ0.out)
    have hSK : ∀ (w : World) (k : Nat), Rdr w g A n c xs k → Calls Tryz.prog 33 #[.pointer (some ⟨g, 0, none⟩)] w fun e w' => e = .returned (.tuple #[]) ∧ ∃ k2, k ≤ k2 ∧ Rdr w' g A n c xs k2 ∧ skipL (cs.drop k) = cs.drop k2 ∧ Kr g w w' := fun w k hd => by have := skip_any w hd; rw [hmap] at this; exact this
    have HSK := Lib.hid hSK
    have HM : Hid (∀ (w : World) (k : Nat), Rdr w g A n c xs k → Calls Tryz.prog 34 #[.pointer (some ⟨g, 0, none⟩)] w fun e w' => e = .returned (.bool (decide (k < n))) ∧ Bel w w') := Lib.hid fun w k hk => more_any w hk
    have HTK : Hid (∀ (w : World) (k : Nat), Rdr w g A n c xs k → ∃ F : Nat, (F = 51 ∨ F = 52 ∨ F = 53 ∨ F = 54 ∨ F = 55) ∧ Calls Tryz.prog 35 #[.pointer (some ⟨g, 0, none⟩)] w (fun e w' => e = .returned (.func (Fn.func F) #[.pointer (some ⟨g, 0, none⟩)] #[]) ∧ Bel w w') ∧ ∀ (x : Pn) (w : World), xs[k]? = some x → Rdr w g A n c xs k → Calls Tryz.prog F #[.pointer (some ⟨g, 0, none⟩)] w (Took g A n c xs k (oneL (cs.drop k)) w)) := Lib.hid fun w k hd =>
      ⟨tkF (kdL ((xs.map Pn.r).drop k)), tkF_cases _, taker_any w hd, fun x w hx hd => by
        have := one_any hx (by rw [hmap]; exact hcp) (by rw [hmap]; exact hsz) w hd
        rw [hmap] at this ⊢
        exact this⟩
    have HG := Lib.hid hg
    have HLN := Lib.hid hln
    have HS2 := Lib.hid hs2
    have hgw : w.heap.size < g := by omega
    clear htt hrd hw2 hb2 hxs hmap hcp hsz hSK hOx hg hln hs2
    refine (HSK.out _ _ HR2.out).mono ?_
    rintro e w3 ⟨rfl, k0, -, hd3, hs3, hk3⟩
    have HD3 := Lib.hid hd3
    have HK3 := Lib.hid hk3
    have hk0 := hd3.le
    have hst : toksF (cs.length + 1) cs 0 = Rs.app [] (toksF (cs.length + 1) (cs.drop k0) k0) := by
      rw [app_nil, toks_skip _ cs 0 HCP.out, show skipL cs = cs.drop k0 by simpa using hs3, List.length_drop, show 0 + (cs.length - (cs.length - k0)) = k0 by have := HLN.out; omega]
    have hsk0 : skipL (cs.drop k0) = cs.drop k0 := by rw [← hs3]; exact skip_skip _ _ (Nat.le_refl _)
    have HST := Lib.hid hst
    have HSK0 := Lib.hid hsk0
    clear hd3 hs3 hk3 hst hsk0
    go_wp2_with fail
    go_loopg [7] (n + 2) (fun gk v wr => ∃ (k m : Nat) (A2 : Option Addr) (c2 f : Nat) (done : List (Tk × Nat)), v = .slice A2 m c2 ∧ Hid (k ≤ n ∧ n - k < gk ∧ n - k < f) ∧ Hid (Rdr wr g A n c xs k) ∧ Hid (wr.ownsRow (g + 1) 44 6 (.slice A2 m c2) m (flatT (done.map (tn cs)))) ∧ Hid (Kr g w2 wr) ∧
      Hid (toksF (cs.length + 1) cs 0 = Rs.app done (toksF f (cs.drop k) k) ∧ skipL (cs.drop k) = cs.drop k) ∧ Hid (m ≤ k))
    case atStart => exact ⟨k0, 0, none, 0, cs.length + 1, [], rfl, Lib.hid ⟨hk0, by omega, by have := HLN.out; omega⟩, HD3, Lib.hid (World.ownsRow_nil _ _ _ _), HK3, Lib.hid ⟨HST.out, HSK0.out⟩, Lib.hid (Nat.zero_le _)⟩
    case round =>
      obtain ⟨k, m, A2, c2, f, done, rfl, HJ, HD, HOW, HK, HTF, HMK⟩ := hrel
      have hjj := HJ.out
      by_cases hk : k < n
      · have hm : ∀ w', Rdr w' g A n c xs k → Calls Tryz.prog 34 #[.pointer (some ⟨g, 0, none⟩)] w' fun e w2 => e = .returned (.bool true) ∧ Bel w' w2 := fun w' hd => by have := HM.out w' k hd; rwa [decide_eq_true hk] at this
        have HMT := Lib.hid hm
        clear hm
        go_wp2_with fail
        refine (HMT.out _ HD.out).mono ?_
        rintro e w4 ⟨rfl, hb⟩
        have HD4 := Lib.hid (HD.out.bel hb)
        have HK4 := Lib.hid (HK.out.bel hb)
        have HO4 := Lib.hid (owns_bel HOW.out hb)
        clear hb
        obtain ⟨c0, c1, f0, f1⟩ := HD4.out.cells
        obtain ⟨b, off, x, rfl, hx, -, a1, a2, a3⟩ := HD4.out.at_ hk
        have HX := Lib.hid hx
        clear hx
        have hbl : b < w4.heap.size := by
          obtain ⟨b', off', hA', hb', -⟩ := HD4.out.rp.at_ (by omega)
          injection hA' with hA'
          injection hA' with h1 _ _
          have := HD4.out.lt
          omega
        have hg4 : g < w4.heap.size := HD4.out.lt
        go_wp2_with fail
        go_cut [8] (fun v wx => ∃ bp : Nat, v = .pointer (some ⟨bp, 0, none⟩) ∧ Hid (Bel w4 wx) ∧ Hid (w4.heap.size ≤ bp) ∧ Hid (wx.heap[bp]? = some (.cells #[.int .i64 x.p.a, .int .i64 x.p.l, .int .i64 x.p.c] 32 (0, 0))))
        case first =>
          go_region
          go_wp2_with fail
          go_meet
          exact ⟨w4.heap.size, rfl, Lib.hid (((Bel.refl w4).alloc _).drew), Lib.hid (Nat.le_refl _), Lib.hid (blk1 w4 _)⟩
        case rest =>
          obtain ⟨bp, rfl, HB5, HBP, HPO⟩ := hcut
          have HD5 := Lib.hid (HD4.out.bel HB5.out)
          have HK5 := Lib.hid (HK4.out.bel HB5.out)
          have HO5 := Lib.hid (owns_bel HO4.out HB5.out)
          clear c0 c1 f0 f1 a1 a2 a3
          obtain ⟨F, hF0, hF1, hF2⟩ := HTK.out _ k HD5.out
          have HF0 := Lib.hid hF0
          have HF1 := Lib.hid hF1
          have HF2 := Lib.hid (fun w' hd => hF2 x w' HX.out hd)
          clear hF0 hF1 hF2
          go_wp2_with fail
          refine HF1.out.mono ?_
          rintro e w6 ⟨rfl, hb⟩
          have HD6 := Lib.hid (HD5.out.bel hb)
          have HK6 := Lib.hid (HK5.out.bel hb)
          have HO6 := Lib.hid (owns_bel HO5.out hb)
          have HPO6 := Lib.hid (hb.blk HPO.out)
          clear hb
          obtain ⟨R, hR⟩ : ∃ R, R = oneL (cs.drop k) := ⟨_, rfl⟩
          rw [← hR] at HF2
          have HRR := Lib.hid hR
          clear hR
          go_upto_region 11 with fail
          cases R with
          | err ee d =>
            go_cut [10, 11] (fun v u wx => ∃ b10 : Nat, v = .pointer (some ⟨b10, 0, none⟩) ∧ u = .pointer (some ⟨b10 + 1, 0, none⟩) ∧ Hid (w6.heap.size ≤ b10) ∧ Hid (Kr g w6 wx) ∧ Hid (wx.heap[b10 + 1]? = some (.cells #[.int .i64 ee, .int .i64 (((xs[k + d]?).map Pn.p).getD z0).a, .int .i64 (((xs[k + d]?).map Pn.p).getD z0).l, .int .i64 (((xs[k + d]?).map Pn.p).getD z0).c] 34 (0, 0))))
            case first =>
              rcases HF0.out with rfl | rfl | rfl | rfl | rfl
              all_goals
                go_wp2_with fail
                refine (HF2.out _ HD6.out).mono ?_
                rintro e7 w7 ⟨rfl, hk7, hr7⟩
                have HK7 := Lib.hid hk7
                have HR7 := Lib.hid hr7
                clear hk7 hr7
                unfold rdV erV
                go_wp2_with fail
                go_meet
                exact ⟨w7.heap.size, rfl, rfl, Lib.hid HK7.out.size, Lib.hid (HK7.out.bel (((Bel.refl _).alloc _).alloc _)), Lib.hid (blk2 w7 _ _).2⟩
            case rest =>
              obtain ⟨b10, rfl, rfl, HBL, HK8, HDG⟩ := hcut
              obtain ⟨hne, hrs⟩ := toks_err_at HTF.out.1 HTF.out.2 (by have := HLN.out; omega) (by omega) HRR.out
              rw [← HXS.out] at hrs
              obtain ⟨pp, hpp⟩ : ∃ pp, pp = ((xs[k + d]?).map Pn.p).getD z0 := ⟨_, rfl⟩
              rw [← hpp] at HDG hrs
              have hT : TT = ⟨[], ee, pp⟩ := by rw [HTR.out, hrs]
              subst hT
              clear hrs hpp
              have hKK := HK6.out.on HK8.out
              have HKK := Lib.hid hKK
              have hx0 := hKK.keep HQ2.out (by omega)
              have HX0 := Lib.hid hx0
              have hne2 : (ee == 0) = false := by simpa using hne
              clear hKK
              have hwlt := (Array.getElem?_eq_some_iff.1 hx0).1
              obtain ⟨d0, d1, d2, d3, g0, g1, g2, g3⟩ := cells4 HDG.out
              obtain ⟨e0, e1, e2, e3, m0, m1, m2, m3⟩ := cells4 hx0
              clear hx0
              go_wp2_with fail
              go_region
              go_wp2
              refine bodyPost_ret (v := .tuple #[.slice none 0 0, .agg #[.int .i64 ee, .int .i64 pp.a, .int .i64 pp.l, .int .i64 pp.c]]) ?_ rfl ⟨?_, none, 0, 0, rfl, RTn.nil_, Nat.le_refl _⟩
              · simp [results, Tryz.results19, go_sem, *]
              · have hk : Bel w wc := Kr.weak HB2.out HKK.out (by omega)
                repeat (first | with_reducible exact hk | with_reducible refine Bel.set_ ?_ (by simp) _ | with_reducible refine Bel.drew ?_)
          | ok t r =>
            go_cut [10, 11] (fun v u wx => ∃ b10 : Nat, v = .pointer (some ⟨b10, 0, none⟩) ∧ u = .pointer (some ⟨b10 + 1, 0, none⟩) ∧ Hid (w6.heap.size ≤ b10) ∧ Hid (Kr g w6 wx) ∧ Hid (wx.heap[b10]? = some (.cells #[.int .u8 t.k, .string ⟨(encs t.x).toArray⟩, .int .i64 t.n, .int .i64 0, .int .i64 0, .int .i64 0] 44 (0, 0))) ∧ Hid (wx.heap[b10 + 1]? = some (.cells #[.int .i64 0, .int .i64 0, .int .i64 0, .int .i64 0] 34 (0, 0))) ∧ Hid (∃ k2, r = cs.drop k2 ∧ k ≤ k2 ∧ Rdr wx g (some ⟨b, off, none⟩) n c xs k2))
            case first =>
              rcases HF0.out with rfl | rfl | rfl | rfl | rfl
              all_goals
                go_wp2_with fail
                refine (HF2.out _ HD6.out).mono ?_
                rintro e7 w7 ⟨rfl, hk7, hr7⟩
                have HK7 := Lib.hid hk7
                have HR7 := Lib.hid hr7
                clear hk7 hr7
                unfold rdV tkV
                go_wp2_with fail
                go_meet
                exact ⟨w7.heap.size, rfl, rfl, Lib.hid HK7.out.size, Lib.hid (HK7.out.bel (((Bel.refl _).alloc _).alloc _)), Lib.hid (blk2 w7 _ _).1, Lib.hid (blk2 w7 _ _).2, Lib.hid (by obtain ⟨k2, e1, e2, e3⟩ := HR7.out t r rfl; rw [HMAP.out] at e1; exact ⟨k2, e1, e2, e3.bel (((Bel.refl _).alloc _).alloc _)⟩)⟩
            case rest =>
              obtain ⟨b10, rfl, rfl, HBL, HK8, HTB, HDG, HRK⟩ := hcut
              obtain ⟨k2, rfl, hk2, hd2⟩ := HRK.out
              have hk2n := hd2.le
              have HD8 := Lib.hid hd2
              have hbp : bp < w6.heap.size := (Array.getElem?_eq_some_iff.1 HPO6.out).1
              have hbp2 := HBP.out
              have hbl2 := HBL.out
              have hpo8 := HK8.out.keep HPO6.out (by omega)
              have hxp : x.p = ends p0 (cs.take k) := by
                have e := HX.out
                obtain ⟨cc, hcc⟩ : ∃ cc, cs[k]? = some cc := ⟨_, List.getElem?_eq_getElem (by have := HLN.out; omega)⟩
                rw [HXS.out, place_get p0 cs k cc hcc] at e
                rw [← Option.some.inj e]
              have HXP := Lib.hid hxp
              obtain ⟨⟨t0, t1, t2, t3, t4, t5⟩, f0, f1, f2, f3, f4, f5⟩ := cells6 HTB.out
              obtain ⟨d0, d1, d2, d3, g0, g1, g2, g3⟩ := cells4 HDG.out
              obtain ⟨p0', p1', p2', -⟩ := cells3 hpo8
              have hb1 : b10 < wc.heap.size := (Array.getElem?_eq_some_iff.1 HTB.out).1
              have hbb1 : bp < wc.heap.size := (Array.getElem?_eq_some_iff.1 hpo8).1
              have hnb : bp ≠ b10 := by omega
              have hgb : g < b10 := by omega
              clear hd2 hxp hpo8
              go_upto_region 15 with fail
              refine wp_abs' ?_
              intro W hW
              have hfa : W.heap[b10]? = some (.cells #[.int .u8 t.k, .string ⟨(encs t.x).toArray⟩, .int .i64 t.n, .int .i64 x.p.a, .int .i64 x.p.l, .int .i64 x.p.c] 44 (0, 0)) ∧ Kr g w6 W ∧ Rdr W g (some ⟨b, off, none⟩) n c xs k2 := by
                rw [hW]
                exact ⟨by simp [World.setCell, Array.getElem?_modify, HTB.out], ((HK8.out.setN hbl2 _).setN hbl2 _).setN hbl2 _, ((HD8.out.setN hgb _).setN hgb _).setN hgb _⟩
              obtain ⟨hf1, hf2, hf3⟩ := hfa
              have HF1 := Lib.hid hf1
              have HKW := Lib.hid (HK6.out.on hf2)
              have HDW := Lib.hid hf3
              have HOW2 := Lib.hid (own_kr HO6.out hf2 (Nat.lt_succ_self g))
              have hgW : g + 1 ≤ W.heap.size := hf3.lt
              have HGW := Lib.hid hgW
              have hm4 : m ≤ 1000000000 := by have := HMK.out; omega
              clear hW hf1 hf2 hf3 t0 t1 t2 t3 t4 t5 f0 f1 f2 f3 f4 f5 d0 d1 d2 d3 g0 g1 g2 g3 p0' p1' p2'
              obtain ⟨⟨t0, t1, t2, t3, t4, t5⟩, -⟩ := cells6 HF1.out
              go_wp2_with (at_builtin; refine wpList_append_one rfl _ _ 26 rfl (g + 1) 44 _ 6 56 Tryz.underlying26 info_tok rfl (by decide) (by decide) A2 m c2 _ rfl (HOW2.out.alloc _) W.heap.size [.int .u8 t.k, .string ⟨(encs t.x).toArray⟩, .int .i64 t.n, .int .i64 x.p.a, .int .i64 x.p.l, .int .i64 x.p.c] rfl rfl (by exact news_at W _ _) (by simp [Value.oneCell']) hm4 (Nat.le_trans HGW.out (by simp)) ?_; intro A5 c5 w5 hown5 hg5; (have HO5 := Lib.hid hown5); (have HG5 := Lib.hid hg5); clear hown5 hg5)
              have HB5' := Lib.hid (app_below' HOW2.out HG5.out HGW.out)
              have HD5' := Lib.hid (HDW.out.below_ HB5'.out (Nat.lt_succ_self g))
              have HK5' := Lib.hid (HKW.out.below_ HB5'.out (by have := HS2.out; have := HG.out; omega))
              refine (HSK.out _ _ HD5'.out).mono ?_
              rintro e9 w9 ⟨rfl, k3, hk3, hd9, hs9, hk9⟩
              have hk3n := hd9.le
              have htk := toks_ok_at HCP.out HTF.out.1 HTF.out.2 (by have := HLN.out; omega) (by omega) HRR.out hk2 (by have := HLN.out; omega) hs9 hk3 (by have := HLN.out; omega)
              have HTN := Lib.hid htk.2
              have hlt2 := htk.1
              have HD9 := Lib.hid hd9
              have HK9 := Lib.hid (HK5'.out.on hk9)
              have HO9 := Lib.hid (own_kr HO5.out hk9 (Nat.lt_succ_self g))
              clear htk hd9 hs9 hk9 t0 t1 t2 t3 t4 t5
              go_wp2
              have hmk := HMK.out
              go_roundg (gk - 1)
              case rel => exact ⟨k3, m + 1, A5, c5, f - 1, done ++ [(t, k)], rfl, Lib.hid ⟨by omega, by omega, by omega⟩, HD9, Lib.hid (by rw [List.map_append, List.map_cons, List.map_nil, flatT_snoc]; have h9 := HO9.out; rw [show (tn cs (t, k)).cells = [.int .u8 t.k, .string ⟨(encs t.x).toArray⟩, .int .i64 t.n, .int .i64 x.p.a, .int .i64 x.p.l, .int .i64 x.p.c] by rw [HXP.out]; rfl]; exact h9), HK9, HTN, Lib.hid (by omega)⟩
              case measure => omega
      · have hkn : k = n := by omega
        subst hkn
        have hm : ∀ w', Rdr w' g A k c xs k → Calls Tryz.prog 34 #[.pointer (some ⟨g, 0, none⟩)] w' fun e w2 => e = .returned (.bool false) ∧ Bel w' w2 := fun w' hd => by have := HM.out w' k hd; rwa [decide_eq_false hk] at this
        have HMT := Lib.hid hm
        have hnil : cs.drop k = [] := List.drop_eq_nil_of_le (by have := HLN.out; omega)
        have hT : TT = ⟨done.map (tn cs), 0, z0⟩ := by
          have e1 := HTF.out.1
          obtain ⟨f', rfl⟩ : ∃ f', f = f' + 1 := ⟨f - 1, by omega⟩
          rw [hnil, toks_end (f := f') (l := []) (o := k) skipL_nil] at e1
          rw [HTR.out, e1]
          show (⟨(done ++ []).map (tn cs), 0, z0⟩ : To) = _
          rw [List.append_nil]
        subst hT
        clear hm hnil
        go_wp2_with fail
        refine (HMT.out _ HD.out).mono ?_
        rintro e w4 ⟨rfl, hb⟩
        have HK4 := Lib.hid (HK.out.bel hb)
        have hx0 := HK4.out.keep HQ2.out (by omega)
        have HRT := Lib.hid (owns_bel HOW.out hb)
        have hwg : w.heap.size < g + 1 := by omega
        clear hb
        obtain ⟨e0, e1, e2, e3, m0, m1, m2, m3⟩ := cells4 hx0
        have hwlt := (Array.getElem?_eq_some_iff.1 hx0).1
        clear hx0
        go_wp2
        refine bodyPost_ret (v := .tuple #[.slice A2 m c2, .agg #[.int .i64 0, .int .i64 0, .int .i64 0, .int .i64 0]]) ?_ rfl ⟨?_, A2, m, c2, rfl, ?_, own_cap HOW.out⟩
        · simp [results, Tryz.results19, go_sem, *]
        · have hk : Bel w w4 := Kr.weak HB2.out HK4.out (by omega)
          repeat (first | with_reducible exact hk | with_reducible refine Bel.set_ ?_ (by simp) _ | with_reducible refine Bel.drew ?_)
        · exact RTn.of_own (own_set (own_set (own_set (own_set HRT.out hwg _) hwg _) hwg _) hwg _)
  · have hoe2 : (O.e == 0) = false := by simpa using hoe
    have htt : TT = ⟨[], O.e, O.q⟩ := by rw [HTT.out, tokO, ← HO.out, if_neg hoe]
    have HT := Lib.hid htt
    obtain ⟨d0, d1, d2, d3, g0, g1, g2, g3⟩ := cells4 HQ0.out
    clear htt
    go_wp2_with fail
    go_region
    go_wp2
    refine bodyPost_ret (v := .tuple #[.slice none 0 0, .agg #[.int .i64 O.e, .int .i64 O.q.a, .int .i64 O.q.l, .int .i64 O.q.c]]) ?_ rfl ⟨?_, none, 0, 0, ?_, ?_, Nat.le_refl _⟩
    · simp [results, Tryz.results19, go_sem, *]
    · repeat (first | with_reducible exact HB1.out | with_reducible refine Bel.set_ ?_ (by simp) _ | with_reducible refine Bel.alloc ?_ _ | with_reducible refine Bel.drew ?_)
    · rw [HT.out]
    · rw [HT.out]; exact RTn.nil_
/-- What Tokens answers, for every text. -/
theorem tokens_any {s : ByteArray} {cs : List Int} {rest : List UInt8} (h : Cps s.data.toList cs rest) (w : World) : Calls Tryz.prog 19 #[.string s] w (GTo (tokO s.size cs rest) w) :=
  (tokens_anyC h w).mono fun _ _ ⟨hb, A, n, c, he, hr, _⟩ => ⟨hb, A, n, c, he, hr⟩
end Go.Proofs.YteockaolmobmeaaGreatDoor.Mu

