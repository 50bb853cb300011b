/-
  Names are taken: walked.
-/
import Derived.Test.YteockaolmobmeaaGreatDoorLexWith
namespace Go.Proofs.YteockaolmobmeaaGreatDoor.Mu
open Go.RowKit Go.Shelf
set_option maxRecDepth 100000

theorem step_append_own' {P : Program} {ops : Array Oper} {o : Oper} {a : Act} {w : World} {K : Act → World → Prop} {Q : Exit → Act → World → Prop} {E : Prop}
    (hg : o.guard = none) (s x : Operand) (t : TypeId) (hop : o.op = Op.call { callee := Callee.builtin Builtin.append, args := #[s, x], argTypes := #[t, t] })
    (base : Nat) (e : TypeId) (z : Value) (size bytes : Nat) (h1 : P.underlying t = some (.slice e)) (hinfo : (P.info? e).map (fun i => (i.zero, i.size, i.bytes)) = some (some z, size, bytes)) (h6 : z.cells.size = size) (h7 : 0 < size) (hby : bytes ≤ 1000)
    (A : Option Addr) (n cap : Nat) (xs : List Value) (hs : a.eval s = .slice A n cap) (hown : w.ownsRow base e size (.slice A n cap) n xs)
    (b : Nat) (news : List Value) (hx : a.eval x = .slice (some ⟨b, 0, none⟩) 1 1) (hn : news.length = size) (hc : ∀ j u, news[j]? = some u → w.cell? ⟨b, j, none⟩ = some u) (h1c : ∀ u ∈ news, u.oneCell' = true)
    (hmax : n ≤ 1000000000) (hbase : base ≤ w.heap.size)
    (hK : ∀ A' c' w', w'.ownsRow base e size (.slice A' (n + 1) c') (n + 1) (xs ++ news) → w.grownBy w' (Value.slice A n cap).ownBlock → K (a.put o.dst (.slice A' (n + 1) c')) w') :
    if Region.wanted o (yielded ops a.tmps) = true then Oper.wp P o a w K Q else E := by
  have hw : Region.wanted o (yielded ops a.tmps) = true := by simp [Region.wanted, hg]
  rw [if_pos hw]
  obtain ⟨i, hi, hz0, hz1, hz2⟩ := info_parts hinfo
  obtain ⟨v', w', hrun, r1, r2, _⟩ := run_append_own (P := P) w base t o.type e i z size bytes h1 hi hz0 hz1 hz2 h6 h7 (.slice A n cap) n xs hown ⟨b, 0, none⟩ 1 1 news (by omega) (fun j u hu => by rw [Addr.add_lit]; simpa using hc j u hu) h1c (by unfold maxLen; omega)
    (Nat.le_trans (Nat.mul_le_mul (show n + 1 ≤ 1000000001 by omega) hby) (by omega)) hbase
  unfold Oper.wp
  simp [execOp, hop, resolve, invoke, builtin, hs, hx, hrun, Result.andThen]
  obtain ⟨A', c', rfl⟩ := own_form_n r1
  exact hK A' c' w' r1 r2
theorem Rdr.below_ {w w' : World} {g : Nat} {A : Option Addr} {n c : Nat} {xs : List Pn} {i B : Nat} (h : Rdr w g A n c xs i) (hb : Below B w w') (hg : g < B) : Rdr w' g A n c xs i :=
  ⟨by rw [hb.block g hg]; exact h.hp, h.rp.keep fun b o hbb => hb.cell (p := ⟨b, o, none⟩) (Nat.lt_trans hbb hg), h.le, h.small⟩
theorem Kr.below_ {a b c : World} {g B : Nat} (h : Kr g a b) (k : Below B b c) (ha : a.heap.size ≤ B) : Kr g a c :=
  ⟨k.os.trans h.os, k.tape.trans h.tape, k.output.trans h.output, Nat.le_trans h.size k.size, fun i hi hn => (k.block i (by omega)).trans (h.block i hi hn)⟩
/-- What an append to a row of the call's own leaves as it was. -/
theorem app_below {W w5 : World} {base : Nat} {e : TypeId} {size : Nat} {V : Value} {n : Nat} {xs : List Value} (hown : W.ownsRow base e size V n xs) {o : Obj} (hg : (W.drew.alloc o).grownBy w5 V.ownBlock) (hB : base ≤ W.heap.size) : Below base W w5 :=
  Below.grown (((Below.refl base W).drew).alloc hB o) hg (by simp; omega) (fun j hj => (hown.lt _ hj).1)
theorem Rdr.setN {w : World} {g : Nat} {A : Option Addr} {n c : Nat} {xs : List Pn} {i : Nat} (h : Rdr w g A n c xs i) {p : Addr} (hp : g < p.block) (v : Value) : Rdr (w.setCell p v) g A n c xs i :=
  h.below_ (B := g + 1) (Below.setCell (Below.refl _ _) hp v) (Nat.lt_succ_self g)
theorem Kr.setN {a b : World} {g : Nat} (h : Kr g a b) {p : Addr} (hp : a.heap.size ≤ p.block) (v : Value) : Kr g a (b.setCell p v) :=
  h.below_ (B := a.heap.size) (Below.setCell (Below.refl _ _) hp v) (Nat.le_refl _)
theorem info_r32' : (Tryz.prog.info? 21).map (fun i => (i.zero, i.size, i.bytes)) = some (some (.int .i32 0), 1, 4) := by kernel_rfl

/-- What a while takes, one by one. -/
theorem tw_none {p : Int → Bool} {L : List Int} {i j : Nat} (hj : j ≤ ((L.drop i).takeWhile p).length) (h : L[i + j]? = none) : j = ((L.drop i).takeWhile p).length := by
  have e := List.takeWhile_append_dropWhile (p := p) (l := L.drop i)
  have h1 : (L.drop i)[j]? = none := by rw [List.getElem?_drop]; exact h
  have h2 := List.getElem?_eq_none_iff.1 h1
  have h3 := congrArg List.length e
  rw [List.length_append] at h3; omega
theorem tw_some {p : Int → Bool} {L : List Int} {i j : Nat} {x : Int} (hj : j ≤ ((L.drop i).takeWhile p).length) (h : L[i + j]? = some x) : (j < ((L.drop i).takeWhile p).length ↔ p x = true) ∧ (j < ((L.drop i).takeWhile p).length → ((L.drop i).takeWhile p)[j]? = some x) := by
  obtain ⟨T, hT⟩ : ∃ T, T = (L.drop i).takeWhile p := ⟨_, rfl⟩
  obtain ⟨D, hD⟩ : ∃ D, D = (L.drop i).dropWhile p := ⟨_, rfl⟩
  have e := List.takeWhile_append_dropWhile (p := p) (l := L.drop i)
  have h1 : (L.drop i)[j]? = some x := by rw [List.getElem?_drop]; exact h
  rw [← e, ← hT, ← hD] at h1
  rw [← hT] at hj ⊢
  have key : j < T.length → T[j]? = some x := fun hl => by rwa [List.getElem?_append_left hl] at h1
  refine ⟨⟨fun hl => ?_, fun hp => ?_⟩, key⟩
  · have := List.mem_of_getElem? (key hl)
    rw [hT] at this
    exact takeWhile_all p _ x this
  · rcases Nat.lt_or_ge j T.length with hl | hl
    · exact hl
    · exfalso
      have hj2 : j = T.length := by omega
      rw [List.getElem?_append_right (by omega), hj2, Nat.sub_self] at h1
      cases hd : D with
      | nil => rw [hd] at h1; simp at h1
      | cons y ys =>
        rw [hd] at h1
        simp at h1
        have := List.head_dropWhile_not (p := p) (l := L.drop i) (by rw [← hD, hd]; simp)
        simp only [← hD, hd, List.head_cons] at this
        rw [h1, hp] at this
        cases this
theorem kw_step {L : List Int} {i j : Nat} (hj : j ≤ ((L.drop i).takeWhile isW).length) : iwK (kdL (L.drop (i + j))) = decide (j < ((L.drop i).takeWhile isW).length) := by
  cases h : L[i + j]? with
  | none =>
    have := tw_none hj h
    have e : L.drop (i + j) = [] := List.drop_eq_nil_of_le (by simpa using h)
    rw [e, decide_eq_false (p := j < _) (by omega)]; rfl
  | some x =>
    rw [kind_cs h, iw_kd, Bool.eq_iff_iff, decide_eq_true_iff]
    exact (tw_some hj h).1.symm
theorem isDig_kd (x : Int) : decide (kdN x = 2) = isDig x := by
  unfold kdN
  rw [Bool.eq_iff_iff, decide_eq_true_iff]
  by_cases hb : isBl x = true
  · rw [if_pos hb]
    have := (bl_notW hb).2
    simp [this]
  · rw [if_neg hb]
    by_cases hd : isDig x = true
    · rw [if_pos hd]; simp [hd]
    · rw [if_neg hd]
      constructor
      · intro h
        repeat' split at h
        all_goals (exact absurd h (by decide))
      · intro h; exact absurd h hd
theorem kd_step {L : List Int} {i j : Nat} (hj : j ≤ ((L.drop i).takeWhile isDig).length) : decide (kdL (L.drop (i + j)) = 2) = decide (j < ((L.drop i).takeWhile isDig).length) := by
  cases h : L[i + j]? with
  | none =>
    have := tw_none hj h
    have e : L.drop (i + j) = [] := List.drop_eq_nil_of_le (by simpa using h)
    rw [e, decide_eq_false (p := j < _) (by omega)]; rfl
  | some x =>
    rw [kind_cs h, isDig_kd, Bool.eq_iff_iff, decide_eq_true_iff]
    exact (tw_some hj h).1.symm
theorem low_cp {T : List Int} (h : ∀ c ∈ T, isW c = true) : AllCp T := fun c hc => cp_low (isW_low (h c hc))
set_option maxHeartbeats 4000000 in
theorem name_any {g : Nat} {A : Option Addr} {n c : Nat} {xs : List Pn} {i : Nat} (kk : Int) {x : Pn} (hx : xs[i]? = some x) (w : World) (h : Rdr w g A n c xs i) :
    Calls Tryz.prog 73 #[.pointer (some ⟨g, 0, none⟩), .int .u8 kk] w fun e w' =>
      e = .returned (if 24 < (((xs.map Pn.r).drop i).takeWhile isW).length then erV 3 x.p else tkV kk (encs (((xs.map Pn.r).drop i).takeWhile isW)) 0) ∧ Rdr w' g A n c xs (i + (((xs.map Pn.r).drop i).takeWhile isW).length) ∧ Kr g w w' := by
  obtain ⟨L, hL⟩ : ∃ L, L = xs.map Pn.r := ⟨_, rfl⟩
  obtain ⟨T, hT⟩ : ∃ T, T = (L.drop i).takeWhile isW := ⟨_, rfl⟩
  have hall : ∀ c ∈ T, isW c = true := by rw [hT]; exact takeWhile_all _ _
  have hcp : AllCp T := low_cp hall
  have henc : (encs T).length = T.length := by
    rw [encs_low fun c hc => isW_low (hall c hc)]; simp [byt]
  have hlen : i + T.length ≤ n := by
    have e := List.takeWhile_append_dropWhile (p := isW) (l := L.drop i)
    have h3 := congrArg List.length e
    rw [List.length_append, ← hT, List.length_drop, hL, List.length_map, ← h.len] at h3
    have := h.le; omega
  have HKD : Hid (∀ (w : World) (j : Nat), j ≤ T.length → Rdr w g A n c xs (i + j) → Calls Tryz.prog 49 #[.pointer (some ⟨g, 0, none⟩)] w fun e w' => e = .returned (.int .u8 (kdL (L.drop (i + j)))) ∧ Bel w w') := Lib.hid fun w j _ hd => by rw [hL]; exact kind_any w hd
  have HIW : Hid (∀ (w : World) (j : Nat), j ≤ T.length → Calls Tryz.prog 89 #[.int .u8 (kdL (L.drop (i + j)))] w fun e w' => e = .returned (.bool (decide (j < T.length))) ∧ w = w') := Lib.hid fun w j hj => by
    have := kinW_any (kdL (L.drop (i + j))) w
    rwa [kw_step (by rw [← hT]; exact hj), ← hT] at this
  have HAT : Hid (∀ (w : World) (j : Nat), j < T.length → Rdr w g A n c xs (i + j) → ∃ b off r, A = some ⟨b, off, none⟩ ∧ T[j]? = some r ∧ w.cell? ⟨b, off + (i + j) * 4, none⟩ = some (.int .i32 r)) := Lib.hid fun w j hj hd => by
    obtain ⟨b, off, y, e1, e2, e3, -⟩ := hd.at_ (by omega)
    refine ⟨b, off, y.r, e1, ?_, e3⟩
    rw [hT] at hj ⊢
    exact (tw_some (by omega) (by rw [hL]; simp [e2])).2 hj
  have HWR : Hid (∀ (w : World) (j : Nat), Rdr w g A n c xs j → Calls Tryz.prog 72 #[.pointer (some ⟨g, 0, none⟩), .int .i64 3, .int .i64 i] w fun e w' => e = .returned (erV 3 x.p) ∧ Bel w w') := Lib.hid fun w j hd => wrong_any 3 hx w hd
  have HTX : Hid (∀ (w : World) (A2 : Option Addr) (c2 : Nat), T.length ≤ 24 → RI .i32 w w.heap.size A2 T.length T → Calls Tryz.prog 75 #[.int .u8 kk, .slice A2 T.length c2] w fun e w' => e = .returned (tkV kk (encs T) 0) ∧ Bel w w') := Lib.hid fun w A2 c2 h24 hr => withText_any kk hcp (by omega) w hr
  rw [← hL, ← hT]
  obtain ⟨ans, hans⟩ : ∃ ans, ans = (if 24 < T.length then erV 3 x.p else tkV kk (encs T) 0) := ⟨_, rfl⟩
  rw [← hans]
  have HANS := Lib.hid hans
  clear hans
  have hsm := h.small
  have hle := h.le
  have H := Lib.hid h
  have hglt := h.lt
  clear h hL hT hall hcp henc hx
  obtain ⟨c0, c1, f0, f1⟩ := H.out.cells
  go_enter Tryz.func73, Tryz.ntmps73
  go_wp2
  have hb2 : Bel w ((w.alloc bxT).alloc bxD) := ((Bel.refl w).alloc _).alloc _
  have hs2 : ((w.alloc bxT).alloc bxD).heap.size = w.heap.size + 2 := by simp
  obtain ⟨q1, q2⟩ := blk2 w bxT bxD
  have H2 := Lib.hid (H.out.bel hb2)
  obtain ⟨w0, hw0⟩ : ∃ w0, w0 = (w.alloc bxT).alloc bxD := ⟨_, rfl⟩
  have HW0 := Lib.hid hw0
  rw [← hw0] at H2 hb2 hs2 q1 q2
  have HB0 := Lib.hid hb2
  have HQ1 := Lib.hid q1
  have HQ2 := Lib.hid q2
  have HS2 := Lib.hid hs2
  clear hb2 q1 q2 hs2 c0 c1 f0 f1
  go_loopg [7] (T.length + 1) (fun gk v wr => ∃ (j : Nat) (A2 : Option Addr) (c2 : Nat), v = .slice A2 j c2 ∧ Hid (j ≤ T.length ∧ T.length - j < gk) ∧ Hid (Rdr wr g A n c xs (i + j)) ∧ Hid (wr.ownsRow (w.heap.size + 2) 21 1 (.slice A2 j c2) j ((T.take j).map (Value.int .i32))) ∧ Hid (Kr g w0 wr))
  case atStart =>
    exact ⟨0, none, 0, rfl, Lib.hid ⟨by omega, by omega⟩, by have := H2; rw [HW0.out] at this; exact this, Lib.hid (World.ownsRow_nil _ _ _ _), by have := Lib.hid (Kr.refl g w0); rw [HW0.out] at this ⊢; exact this⟩
  case round =>
    obtain ⟨j, A2, c2, rfl, HJ, HD, HO, HK⟩ := hrel
    have hbs : w.heap.size + 2 ≤ wr.heap.size := by have := HK.out.size; have := HS2.out; omega
    by_cases hj : j < T.length
    · go_wp2_with fail
      refine (HKD.out _ j (by omega) HD.out).mono ?_
      rintro e w1 ⟨rfl, hb⟩
      have HD1 := Lib.hid (HD.out.bel hb)
      have HK1 := Lib.hid (HK.out.bel hb)
      have HO1 := Lib.hid (owns_bel HO.out hb)
      have hbs1 : w.heap.size + 2 ≤ w1.heap.size := Nat.le_trans hbs hb.size
      clear hb
      go_wp2_with fail
      refine (HIW.out _ j (by omega)).mono ?_
      rintro e w2 ⟨rfl, rfl⟩
      rw [decide_eq_true hj]
      have hat := HAT.out w1 j hj HD1.out
      obtain ⟨q, hq⟩ : ∃ q, q = i + j := ⟨_, rfl⟩
      rw [← hq] at hat HD1
      have hqn : q < n := by omega
      have HQ := Lib.hid hq
      clear hq
      obtain ⟨c0, c1, f0, f1⟩ := HD1.out.cells
      obtain ⟨b, off, r, rfl, hTj, a0⟩ := hat
      have HTJ := Lib.hid hTj
      clear hTj
      go_wp2_with fail
      go_region_law (refine step_append_own' rfl (.tmp 22) (.tmp 34) 126 rfl (w.heap.size + 2) 21 _ 1 4 Tryz.underlying126 info_r32' rfl (by decide) (by decide) A2 j c2 ((T.take j).map (Value.int .i32)) (by simp [Act.eval]) (by exact HO1.out.alloc _) w1.heap.size [.int .i32 r] (by simp [Act.eval]) rfl (by exact one_cell_at w1 _ _) (by simp [Value.oneCell']) (by omega) (by simp; omega) ?_; intro A' c' w5 hown5 hg5; (have HO5 := Lib.hid hown5); (have HG5 := Lib.hid hg5); clear hown5 hg5)
      all_goals
        have HB5 := Lib.hid (app_below HO1.out HG5.out hbs1)
        have HD5 := Lib.hid (HD1.out.below_ HB5.out (by omega))
        have HK5 := Lib.hid (HK1.out.below_ HB5.out (by have := HS2.out; omega))
        clear c0 c1 f0 f1
        obtain ⟨c0, c1, f0, f1⟩ := HD5.out.cells
        go_wp2
        have hjj := HJ.out
        go_roundg (gk - 1)
        case rel =>
          exact ⟨j + 1, A', c', rfl, Lib.hid ⟨by omega, by omega⟩, Lib.hid (by have := HD5.out.set_ (k := q + 1) (by omega); rw [show i + (j + 1) = q + 1 by have := HQ.out; omega]; exact this), Lib.hid (own_set (by rw [List.take_succ_eq_append_getElem hj, List.map_append]; have := HTJ.out; rw [List.getElem?_eq_getElem hj] at this; rw [Option.some.inj this]; exact HO5.out) (by show g < w.heap.size + 2; omega) _), Lib.hid (HK5.out.set_ _ _)⟩
        case measure => omega
    · have hjT : j = T.length := by have := HJ.out; omega
      have hRI : ∀ W, Bel wr W → RI .i32 W W.heap.size A2 T.length T := fun W hb => by
        have := owns_bel HO.out hb
        rw [hjT, List.take_length] at this
        exact RI.of_own this
      have HRI := Lib.hid hRI
      clear hRI
      subst hjT
      go_wp2_with fail
      refine (HKD.out _ _ (Nat.le_refl _) HD.out).mono ?_
      rintro e w1 ⟨rfl, hb⟩
      have HD1 := Lib.hid (HD.out.bel hb)
      have HK1 := Lib.hid (HK.out.bel hb)
      have HR1 := Lib.hid hb
      clear hb
      go_wp2_with fail
      refine (HIW.out _ _ (Nat.le_refl _)).mono ?_
      rintro e w2 ⟨rfl, rfl⟩
      rw [decide_eq_false hj]
      by_cases h24 : 24 < T.length
      · have ha : ans = erV 3 x.p := by rw [HANS.out, if_pos h24]
        subst ha
        go_wp2_with fail
        refine (HWR.out _ _ HD1.out).mono ?_
        rintro e w2 ⟨rfl, hb⟩
        have HD2 := Lib.hid (HD1.out.bel hb)
        have HK2 := Lib.hid (HK1.out.bel hb)
        have hs := Nat.le_trans (Nat.le_trans hbs HR1.out.size) hb.size
        clear hb
        obtain ⟨⟨t0, t1, t2, t3, t4, t5⟩, f0, f1, f2, f3, f4, f5⟩ := cells6 (HK2.out.keep HQ1.out (by omega))
        obtain ⟨d0, d1, d2, d3, g0, g1, g2, g3⟩ := cells4 (HK2.out.keep HQ2.out (by omega))
        unfold erV
        go_wp2
        refine bodyPost_ret (v := erV 3 x.p) ?_ rfl ⟨rfl, ?_, ?_⟩
        · simp [erV, results, Tryz.results73, go_sem, *]
        · repeat (first | with_reducible exact HD2.out | with_reducible refine Rdr.setN ?_ (by show g < w.heap.size + _; omega) _ | with_reducible refine Rdr.setN ?_ (by show g < w.heap.size; omega) _)
        · have hk : Kr g w w2 := (Kr.of_bel HB0.out).on HK2.out
          repeat (first | with_reducible exact hk | with_reducible refine Kr.setN ?_ (by simp) _)
      · have ha : ans = tkV kk (encs T) 0 := by rw [HANS.out, if_neg h24]
        subst ha
        go_wp2_with fail
        refine (HTX.out _ A2 c2 (by omega) (HRI.out _ HR1.out)).mono ?_
        rintro e w2 ⟨rfl, hb⟩
        have HD2 := Lib.hid (HD1.out.bel hb)
        have HK2 := Lib.hid (HK1.out.bel hb)
        have hs := Nat.le_trans (Nat.le_trans hbs HR1.out.size) hb.size
        clear hb
        obtain ⟨⟨t0, t1, t2, t3, t4, t5⟩, f0, f1, f2, f3, f4, f5⟩ := cells6 (HK2.out.keep HQ1.out (by omega))
        obtain ⟨d0, d1, d2, d3, g0, g1, g2, g3⟩ := cells4 (HK2.out.keep HQ2.out (by omega))
        unfold tkV
        go_wp2
        refine bodyPost_ret (v := tkV kk (encs T) 0) ?_ rfl ⟨rfl, ?_, ?_⟩
        · simp [tkV, results, Tryz.results73, go_sem, *]
        · repeat (first | with_reducible exact HD2.out | with_reducible refine Rdr.setN ?_ (by show g < w.heap.size + _; omega) _ | with_reducible refine Rdr.setN ?_ (by show g < w.heap.size; omega) _)
        · have hk : Kr g w w2 := (Kr.of_bel HB0.out).on HK2.out
          repeat (first | with_reducible exact hk | with_reducible refine Kr.setN ?_ (by simp) _)
end Go.Proofs.YteockaolmobmeaaGreatDoor.Mu

