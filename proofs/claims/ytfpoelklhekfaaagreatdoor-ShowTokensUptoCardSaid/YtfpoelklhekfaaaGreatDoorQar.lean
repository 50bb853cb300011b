import Derived.Test.YtfpoelklhekfaaaGreatDoorQak
open Go.Lib (hid)
namespace Go.Proofs.YtfpoelklhekfaaaGreatDoor.Mu
set_option maxHeartbeats 8000000
open Go.RowKit Go.Shelf
set_option maxRecDepth 100000
theorem out2{W:World}{g:Nat}{x0 x1 x2 x3 x4 x5 y0 y1 y2 y3:Value}(h1:W.heap[g]?=some (.cells #[x0,x1,x2,x3,x4,x5] 37 (0,0)))(h2:W.heap[g+1]?=some (.cells #[y0,y1,y2,y3] 32 (0,0)))(v0 v1 v2 v3 v4 v5 d0 d1 d2 d3:Value)(W':World)
    (hW:W'=(((((((((W.setCell ⟨g,0,none⟩ v0).setCell ⟨g,1,none⟩ v1).setCell ⟨g,2,none⟩ v2).setCell ⟨g,3,none⟩ v3).setCell ⟨g,4,none⟩ v4).setCell ⟨g,5,none⟩ v5).setCell ⟨g+1,0,none⟩ d0).setCell ⟨g+1,1,none⟩ d1).setCell ⟨g+1,2,none⟩ d2).setCell ⟨g+1,3,none⟩ d3) :
    W'.heap[g]?=some (.cells #[v0,v1,v2,v3,v4,v5] 37 (0,0))/\W'.heap[g+1]?=some (.cells #[d0,d1,d2,d3] 32 (0,0))/\Below g W W':=by
  have r1:=qfq h1 v0 v1 v2 v3 v4 v5;have r2:(((((((W.setCell ⟨g,0,none⟩ v0).setCell ⟨g,1,none⟩ v1).setCell ⟨g,2,none⟩ v2).setCell ⟨g,3,none⟩ v3).setCell ⟨g,4,none⟩ v4).setCell ⟨g,5,none⟩ v5)).heap[g+1]?=some (.cells #[y0,y1,y2,y3] 32 (0,0)):=by
    repeat rw[Below.heap_setCell _ _ _ _ (by show g+1≠g;omega)]
    exact h2
  have hb:Below g W W:=Below.refl _ _;subst hW;refine⟨?_,qfp r2 d0 d1 d2 d3,?_⟩
  · repeat rw[Below.heap_setCell _ _ _ _ (by show g≠g+1;omega)]
    exact r1
  · exact (((((((((hb.setCell (Nat.le_refl _) _).setCell (Nat.le_refl _) _).setCell (Nat.le_refl _) _).setCell (Nat.le_refl _) _).setCell (Nat.le_refl _) _).setCell (Nat.le_refl _) _).setCell (Nat.le_succ _) _).setCell (Nat.le_succ _) _).setCell (Nat.le_succ _) _).setCell (Nat.le_succ _) _
theorem qeZ{K:Act->World->Prop}{Q:Exit->Act->World->Prop}{a:Act}{w:World}(h:∀ W,W=w->Exit.then K Q .normal a W):Exit.then K Q .normal a w:=h w rfl
theorem qbC{g:Nat}{A:Option Addr}{n c:Nat}{xs:List Pn}{i j:Nat}(k:Int)(S:List UInt8)(ee pa pl pc:Int)
    (hN:∀ w,Rdr w g A n c xs i->Calls Tryz.prog 99 #[.pointer (some ⟨g,0,none⟩),.int .u8 1] w fun e w'=>e=.returned (.tuple #[.agg #[.int .u8 k,.string ⟨S.toArray⟩,(0:Int),(0:Int),(0:Int),(0:Int)],.agg #[.int .i64 ee,pa,pl,pc]])/\Rdr w' g A n c xs j/\Kr g w w')
    (w:World) (h:Rdr w g A n c xs i) :
    Calls Tryz.prog 56 #[.pointer (some ⟨g,0,none⟩)] w fun e w'=>
      e=.returned (.tuple #[.agg #[.int .u8 (if S∈zk then 6 else if S∈za then 5 else k),.string ⟨S.toArray⟩,(0:Int),(0:Int),(0:Int),(0:Int)],.agg #[.int .i64 ee,pa,pl,pc]])/\Rdr w' g A n c xs j/\Kr g w w':=by
  have HN:=hid hN;have H:=hid h;have hglt:=h.lt;clear h hN;have hb2:Bel w ((w.alloc bxT).alloc bxD):=((Bel.refl w).alloc _).alloc _;have HB2:=hid hb2;obtain⟨q1,q2⟩:=blk2 w bxT bxD;have HQ1:=hid q1;have HQ2:=hid q2;clear hb2 q1 q2;have HWo:Hid (∀ w,Calls Tryz.prog 101 #[] w fun e w'=>(∃ A,e=.returned (.slice A 6 6)/\RL w' w'.heap.size A 6 za)/\Bel w w'):=hid qez;have HPr:Hid (∀ w,Calls Tryz.prog 102 #[] w fun e w'=>(∃ A,e=.returned (.slice A 10 10)/\RL w' w'.heap.size A 10 zk)/\Bel w w'):=hid qdh;obtain⟨bw,hbw⟩:∃ b,b=decide (S∈za):=⟨_,rfl⟩
  obtain⟨bp,hbp⟩:∃ b,b=decide (S∈zk):=⟨_,rfl⟩
  obtain⟨k2,hk2⟩:∃ k2,k2=(if S∈zk then 6 else if S∈za then 5 else k):=⟨_,rfl⟩
  have hk3:k2=(if bp=true then 6 else if bw=true then 5 else k):=by rw[hk2,hbp,hbw];simp only[decide_eq_true_eq]
  have HCw:Hid (∀ (A:Option Addr) (w:World),RL w w.heap.size A 6 za->Calls Tryz.prog 100 #[.slice A 6 6,.string ⟨S.toArray⟩] w fun e w'=>e=.returned (.bool bw)/\w=w'):=hid fun A w h=>by rw[hbw];exact Qj S (by decide) w h
  have HCp:Hid (∀ (A:Option Addr) (w:World),RL w w.heap.size A 10 zk->Calls Tryz.prog 100 #[.slice A 10 10,.string ⟨S.toArray⟩] w fun e w'=>e=.returned (.bool bp)/\w=w'):=hid fun A w h=>by rw[hbp];exact Qj S (by decide) w h
  rw[<- hk2];have HK3:=hid hk3;clear hk2 hk3 hbw hbp;go_enter Tryz.func56,Tryz.ntmps56
  go_wp2_with fail
  refine (HN.out _ (H.out.bel HB2.out)).mono ?_;rintro e w1 ⟨rfl,hd,hk⟩;have HD:=hid hd;have hs:w.heap.size+2<=w1.heap.size:=by have:=hk.size;simpa using this
  have HP1:=hid (hk.keep HQ1.out (by omega));have HP2:=hid (hk.keep HQ2.out (by omega));have HK:=hid (((Kr.of_bel HB2.out).on hk:Kr g w w1));clear hd hk;go_wp2_with fail
  refine qeA ?_;intro W hW;obtain⟨s1,s2⟩:=blk2 w1 (.cells #[.int .u8 k,.string ⟨S.toArray⟩,(0:Int),(0:Int),(0:Int),(0:Int)] 37) (.cells #[.int .i64 ee,pa,pl,pc] 32);have s3:Bel w1 W:=by rw[hW];exact ((Bel.refl w1).alloc _).alloc _
  rw[<- hW]at s1 s2;clear hW;have HD2:=hid (HD.out.bel s3);have HK2:=hid (HK.out.bel s3);have HP3:=hid (s3.blk HP1.out);have HP4:=hid (s3.blk HP2.out);have HS1:=hid s1;have HS2:=hid s2;have hs4:w1.heap.size+1<W.heap.size:=(Array.getElem?_eq_some_iff.1 s2).1;clear s1 s2 s3;obtain⟨⟨t0,t1,t2,t3,t4,t5⟩,f0,f1,f2,f3,f4,f5⟩:=qk HS1.out;go_cut [14] (fun v wx=>v=.bool bw/\Hid (Bel W wx))
  case first=>
    go_region_with (first | (go_at_call 101;refine (HWo.out _).mono ?_;rintro e w4 ⟨⟨A4,rfl,hrl⟩,hb4⟩;(have j1:=(hb4.cell (p:=⟨w1.heap.size,1,none⟩) (by show w1.heap.size<W.heap.size;omega)).trans t1);(have HRL:=hid hrl);(have HB4:=hid hb4);clear hrl hb4) | (go_at_call 100;refine (HCw.out _ _ HRL.out).mono ?_;rintro e w5 ⟨rfl,rfl⟩))
    all_goals (go_wp2_with fail;go_meet;exact⟨rfl,hid (((Bel.refl W).drew).on HB4.out)⟩)
  case rest=>
    obtain⟨rfl,HW4⟩:=hcut;have hs5:w1.heap.size+1<wc.heap.size:=Nat.lt_of_lt_of_le hs4 HW4.out.size;have HT4:=hid (HW4.out.blk HS1.out);clear t0 t1 t2 t3 t4 t5 f0 f1 f2 f3 f4 f5;obtain⟨⟨t0,t1,t2,t3,t4,t5⟩,f0,f1,f2,f3,f4,f5⟩:=qk HT4.out;cases bw
    all_goals
      go_wp2_with fail
      refine qeA ?_;intro W2 hW2;have hq:∃ k1,(W2.heap[w1.heap.size]?=some (.cells #[.int .u8 k1,.string ⟨S.toArray⟩,(0:Int),(0:Int),(0:Int),(0:Int)] 37 (0,0))/\Below w1.heap.size W W2/\W2.heap[w1.heap.size+1]?=W.heap[w1.heap.size+1]?)/\k2=if bp=true then 6 else k1:=by
        have hb4:Below w1.heap.size W wc:=Below.mono HW4.out (by omega);first
          | (refine⟨k,⟨?_,?_,?_⟩,?_⟩
             · rw[hW2];exact HT4.out
             · rw[hW2];exact hb4
             · rw[hW2];exact HW4.out.block _ hs4
             · have:=HK3.out;simpa using this)
          | (refine⟨5,⟨?_,?_,?_⟩,?_⟩
             · rw[hW2];simp[World.setCell,Array.getElem?_modify,HT4.out]
             · rw[hW2];exact hb4.setCell (Nat.le_refl _) _
             · rw[hW2,Below.heap_setCell _ _ _ _ (by show w1.heap.size+1≠w1.heap.size;omega)];exact HW4.out.block _ hs4
             · have:=HK3.out;simpa using this)
      obtain⟨k1,⟨hq1,hq2,hq3⟩,hq4⟩:=hq;have HQ5:=hid hq1;have HQ6:=hid hq2;have HQ7:=hid hq3;have HQ8:=hid hq4;have hs6:w1.heap.size+1<W2.heap.size:=Nat.lt_of_lt_of_le hs4 hq2.size;clear hW2 hq1 hq2 hq3 hq4 t0 t1 t2 t3 t4 t5 f0 f1 f2 f3 f4 f5;obtain⟨⟨t0,t1,t2,t3,t4,t5⟩,f0,f1,f2,f3,f4,f5⟩:=qk HQ5.out;go_cut [19] (fun v wx=>v=.bool bp/\Hid (Bel W2 wx))
      case first=>
        go_region_with (first | (go_at_call 102;refine (HPr.out _).mono ?_;rintro e w6 ⟨⟨A6,rfl,hrl⟩,hb6⟩;(have j1:=(hb6.cell (p:=⟨w1.heap.size,1,none⟩) (by show w1.heap.size<W2.heap.size;omega)).trans t1);(have HRL6:=hid hrl);(have HB6:=hid hb6);clear hrl hb6) | (go_at_call 100;refine (HCp.out _ _ HRL6.out).mono ?_;rintro e w7 ⟨rfl,rfl⟩))
        all_goals (go_wp2_with fail;go_meet;exact⟨rfl,hid (((Bel.refl W2).drew).on HB6.out)⟩)
      case rest=>
        obtain⟨rfl,HW6⟩:=hcut;obtain⟨wd,hwd⟩:∃ wd,wd=wc:=⟨_,rfl⟩
        rw[<- hwd]at HW6 ⊢;clear hwd;have HT6:=hid (HW6.out.blk HQ5.out);clear t0 t1 t2 t3 t4 t5 f0 f1 f2 f3 f4 f5;obtain⟨⟨t0,t1,t2,t3,t4,t5⟩,f0,f1,f2,f3,f4,f5⟩:=qk HT6.out;cases bp
        all_goals
          go_wp2_with fail
          refine qeA ?_;intro W3 hW3;have hq:W3.heap[w1.heap.size]?=some (.cells #[.int .u8 k2,.string ⟨S.toArray⟩,(0:Int),(0:Int),(0:Int),(0:Int)] 37 (0,0))/\Below w1.heap.size W2 W3/\W3.heap[w1.heap.size+1]?=W2.heap[w1.heap.size+1]?:=by
            have hb6:Below w1.heap.size W2 wd:=Below.mono HW6.out (by omega);first
              | (refine⟨?_,?_,?_⟩
                 · rw[hW3];have:=HQ8.out;simp at this;rw[this];exact HT6.out
                 · rw[hW3];exact hb6
                 · rw[hW3];exact HW6.out.block _ hs6)
              | (refine⟨?_,?_,?_⟩
                 · rw[hW3];have:=HQ8.out;simp at this;rw[this];simp[World.setCell,Array.getElem?_modify,HT6.out]
                 · rw[hW3];exact hb6.setCell (Nat.le_refl _) _
                 · rw[hW3,Below.heap_setCell _ _ _ _ (by show w1.heap.size+1≠w1.heap.size;omega)];exact HW6.out.block _ hs6)
          obtain⟨hq1,hq2,hq3⟩:=hq;have hbw:Below w1.heap.size W W3:=HQ6.out.trans hq2;have hd9:W3.heap[w1.heap.size+1]?=some (.cells #[.int .i64 ee,pa,pl,pc] 32 (0,0)):=by rw[hq3,HQ7.out];exact HS2.out
          have hp5:=hbw.block w.heap.size (by omega);have hp6:=hbw.block (w.heap.size+1) (by omega);have HDD:=hid (HD2.out.below_ hbw (by omega));have HKK:=hid (HK2.out.below_ hbw (by omega));clear t0 t1 t2 t3 t4 t5 f0 f1 f2 f3 f4 f5 hW3 hq2 hq3 hbw;obtain⟨⟨t0,t1,t2,t3,t4,t5⟩,f0,f1,f2,f3,f4,f5⟩:=qk hq1;obtain⟨⟨u0,u1,u2,u3,u4,u5⟩,l0,l1,l2,l3,l4,l5⟩:=qk (hp5.trans HP3.out);obtain⟨d0,d1,d2,d3,g0,g1,g2,g3⟩:=qA hd9;obtain⟨e0,e1,e2,e3,m0,m1,m2,m3⟩:=qA (hp6.trans HP4.out);clear hq1 hd9;have hn1:w.heap.size≠w1.heap.size:=by omega
          have hn2:w.heap.size+1≠w1.heap.size:=by omega
          have hp7:=hp5.trans HP3.out;have hp8:=hp6.trans HP4.out;go_region
          refine qeZ ?_;intro W4 hW4;have hq:∃ Wx:World,W4=Wx.drew/\Wx.heap[w.heap.size]?=some (.cells #[.int .u8 k2,.string ⟨S.toArray⟩,(0:Int),(0:Int),(0:Int),(0:Int)] 37 (0,0))/\Wx.heap[w.heap.size+1]?=some (.cells #[.int .i64 ee,pa,pl,pc] 32 (0,0))/\Below w.heap.size W3 Wx:=⟨_,hW4,out2 hp7 hp8 _ _ _ _ _ _ _ _ _ _ _ rfl⟩
          obtain⟨Wx,hWx,r1,r2,r3⟩:=hq;have r5:Below w.heap.size W3 W4:=by rw[hWx];exact r3.drew
          have r6:W4.heap[w.heap.size]?=some (.cells #[.int .u8 k2,.string ⟨S.toArray⟩,(0:Int),(0:Int),(0:Int),(0:Int)] 37 (0,0)):=by rw[hWx];exact r1
          have r7:W4.heap[w.heap.size+1]?=some (.cells #[.int .i64 ee,pa,pl,pc] 32 (0,0)):=by rw[hWx];exact r2
          have HFD:=hid (HDD.out.below_ r5 hglt);have HFK:=hid (HKK.out.below_ r5 (Nat.le_refl _));clear t0 t1 t2 t3 t4 t5 f0 f1 f2 f3 f4 f5 u0 u1 u2 u3 u4 u5 l0 l1 l2 l3 l4 l5 d0 d1 d2 d3 g0 g1 g2 g3 e0 e1 e2 e3 m0 m1 m2 m3 hW4 hWx r1 r2 r3 r5 hp7 hp8;obtain⟨⟨t0,t1,t2,t3,t4,t5⟩,-⟩:=qk r6;obtain⟨d0,d1,d2,d3,-⟩:=qA r7;clear r6 r7;go_wp2
          refine bodyPost_ret (v:= .tuple #[.agg #[.int .u8 k2,.string ⟨S.toArray⟩,(0:Int),(0:Int),(0:Int),(0:Int)],.agg #[.int .i64 ee,pa,pl,pc]]) ?_ rfl ⟨rfl,HFD.out,HFK.out⟩;simp[results,Tryz.results56,go_sem,t0,t1,t2,t3,t4,t5,d0,d1,d2,d3]
end Go.Proofs.YtfpoelklhekfaaaGreatDoor.Mu
