import Derived.Test.YtfpoelklhekfaaaGreatDoorQak
open Go.Lib (hid)
namespace Go.Proofs.YtfpoelklhekfaaaGreatDoor.Mu
set_option maxHeartbeats 4000000
open Go.RowKit Go.Shelf
set_option maxRecDepth 100000
def NumI(D:List Int)(j:Nat)(v:Int):Prop:=(v=valN (D.take j)∨(1099511627776<v/\1099511627776<valN (D.take j)))/\0<=v/\v<=10995116277769
theorem J0{D:List Int}{j:Nat}{r:Int}(h:D[j]?=some r):valN (D.take (j+1))=10*valN (D.take j)+(r-48):=by
 obtain⟨hj,rfl⟩:=List.getElem?_eq_some_iff.1 h;rw[List.take_succ_eq_append_getElem hj,JZ]
theorem qgu{r:Int}(h:qt r=true):48<=r/\r<=57:=by simpa [qt] using h
theorem NumI.go{D:List Int}{j:Nat}{v r:Int}(h:NumI D j v)(hr:D[j]?=some r)(hd:qt r=true)(hv:v<=1099511627776):NumI D (j+1) (10*v+(r-48)):=by
 obtain⟨h1,h2,h3⟩:=h;have hb:=qgu hd;refine⟨.inl ?_,by omega,by omega⟩;rw[J0 hr];rcases h1 with h1 | ⟨h1,_⟩
 ·rw[h1]
 ·omega
theorem NumI.stay{D:List Int}{j:Nat}{v r:Int}(h:NumI D j v)(hr:D[j]?=some r)(hd:qt r=true)(hv:¬ v<=1099511627776):NumI D (j+1) v:=by
 obtain⟨h1,h2,h3⟩:=h;have hb:=qgu hd;refine⟨.inr ⟨by omega,?_⟩,h2,h3⟩;rw[J0 hr];rcases h1 with h1 | ⟨_,h1⟩ <;> omega
theorem NumI.end_{D:List Int}{v:Int}(h:NumI D D.length v):(1099511627776<v↔1099511627776<valN D)/\(¬ 1099511627776<v->v=valN D):=by
 obtain⟨h1,h2,h3⟩:=h;rw[List.take_length]at h1;rcases h1 with h1 | ⟨h1,h4⟩
 ·rw[h1];exact⟨Iff.rfl,fun _=>rfl⟩
 ·exact⟨⟨fun _=>h4,fun _=>h1⟩,fun h=>absurd h1 h⟩
theorem qb6{g:Nat}{A:Option Addr}{n c:Nat}{xs:List Pn}{i:Nat}{x:Pn}(hx:xs[i]?=some x)(w:World)(h:Rdr w g A n c xs i) :
  Calls Tryz.prog 55 #[.pointer (some ⟨g,0,none⟩)] w fun e w'=>
   e=.returned (if x.r=48/\1<(((xs.map Pn.r).drop i).takeWhile qt).length then erV 100 x.p else if 1099511627776<valN (((xs.map Pn.r).drop i).takeWhile qt) then erV 101 x.p else tkV 3 [] (valN (((xs.map Pn.r).drop i).takeWhile qt))) ∧
    Rdr w' g A n c xs (i+(((xs.map Pn.r).drop i).takeWhile qt).length)/\Kr g w w':=by
 obtain⟨L,hL⟩:∃ L,L=xs.map Pn.r:=⟨_,rfl⟩
 obtain⟨D,hD⟩:∃ D,D=(L.drop i).takeWhile qt:=⟨_,rfl⟩
 have hall:∀ c∈D,qt c=true:=by rw[hD];exact qF _ _
 have hlen:i+D.length<=n:=by
  have e:=List.takeWhile_append_dropWhile (p:=qt) (l:=L.drop i);have h3:=congrArg List.length e;rw[List.length_append,<- hD,List.length_drop,hL,List.length_map,<- h.len]at h3;have:=h.le;omega
 have HKD:Hid (∀ (w:World) (j:Nat),j<=D.length->Rdr w g A n c xs (i+j)->∃ kk:Int,decide (kk=2)=decide (j<D.length)/\Calls Tryz.prog 53 #[.pointer (some ⟨g,0,none⟩)] w fun e w'=>e=.returned (.int .u8 kk)/\Bel w w'):=hid fun w j hj hd=>⟨kdL (L.drop (i+j)),by rw[hD]at hj ⊢;exact qgO hj,by rw[hL];exact Qz w hd⟩
 have HAT:Hid (∀ (w:World) (j:Nat),j<D.length->Rdr w g A n c xs (i+j)->∃ b off r,A=some ⟨b,off,none⟩/\D[j]?=some r/\w.cell? ⟨b,off+(i+j)*4,none⟩=some (.int .i32 r)):=hid fun w j hj hd=>by
  obtain⟨b,off,y,e1,e2,e3,-⟩:=hd.at_ (by omega);refine⟨b,off,y.r,e1,?_,e3⟩;rw[hD]at hj ⊢;exact (Jo (by omega) (by rw[hL];simp[e2])).2 hj
 have HWR:Hid (∀ (w:World) (j:Nat) (ee:Int),Rdr w g A n c xs j->Calls Tryz.prog 98 #[.pointer (some ⟨g,0,none⟩),ee,i] w fun e w'=>e=.returned (erV ee x.p)/\Bel w w'):=hid fun w j ee hd=>jZ ee hx w hd;have HZ:Hid (∀ (w:World),Rdr w g A n c xs i->Calls Tryz.prog 54 #[.pointer (some ⟨g,0,none⟩),.string ⟨#[48]⟩] w fun e w'=>e=.returned (.bool (decide (x.r=48)))/\Bel w w'):=hid fun w hd=>by
  have:=Zx [48] (by decide) (by decide) w hd;rw[<- hL,show asc [48]=[48] by rfl,pre1]at this;have e:L[i]?=some x.r:=by rw[hL];simp[hx]
  simp only[e,Option.some.injEq]at this;exact this
 rw[<- hL,<- hD];obtain⟨ans,hans⟩:∃ ans,ans=(if x.r=48/\1<D.length then erV 100 x.p else if 1099511627776<valN D then erV 101 x.p else tkV 3 [] (valN D)):=⟨_,rfl⟩
 rw[<- hans];have HANS:=hid hans;clear hans;obtain⟨b0,hb0⟩:∃ b0,b0=decide (x.r=48):=⟨_,rfl⟩
 rw[<- hb0]at HZ;have HB0:=hid hb0;have HALL:=hid hall;have hsm:=h.small;have hle:=h.le;have H:=hid h;have hglt:=h.lt;clear h hL hD hall hx hb0;have hb2:Bel w ((w.alloc bxT).alloc bxD):=((Bel.refl w).alloc _).alloc _;have hs2:((w.alloc bxT).alloc bxD).heap.size=w.heap.size+2:=by simp
 obtain⟨q1,q2⟩:=blk2 w bxT bxD;have H2:=hid (H.out.bel hb2);obtain⟨w0,hw0⟩:∃ w0,w0=(w.alloc bxT).alloc bxD:=⟨_,rfl⟩
 have HW0:=hid hw0;rw[<- hw0]at H2 hb2 hs2 q1 q2;have HBB:=hid hb2;have HQ1:=hid q1;have HQ2:=hid q2;have HS2:=hid hs2;clear hb2 q1 q2 hs2;go_enter Tryz.func55,Tryz.ntmps55
 have h2:Rdr ((w.alloc bxT).alloc bxD) g A n c xs i:=by have:=H2.out;rwa [HW0.out]at this
 unfold bxT bxD at h2;obtain⟨c0,c1,f0,f1⟩:=h2.cells;have H2':=hid h2;clear h2;go_wp2_with fail
 refine (HZ.out _ H2'.out).mono ?_;rintro e w1 ⟨rfl,hb⟩;have HD1:=hid (H2'.out.bel hb);have hk1:Kr g w0 w1:=by rw[HW0.out];exact Kr.of_bel hb
 have HK1:=hid hk1;clear hb hk1 c0 c1 f0 f1;go_wp2_with fail
 go_loopg [6] (D.length+1) (fun gk v wr=>∃ (j:Nat) (nv:Int),v=.int .i64 nv/\Hid (NumI D j nv)/\Hid (j<=D.length/\D.length-j<gk)/\Hid (Rdr wr g A n c xs (i+j))/\Hid (Kr g w0 wr))
 case atStart=>
  exact⟨0,0,rfl,hid ⟨.inl rfl,by decide,by decide⟩,hid ⟨by omega,by omega⟩,HD1,HK1⟩
 case round=>
  obtain⟨j,nv,rfl,HN,HJ,HD,HK⟩:=hrel;obtain⟨kk,hkk,hkc⟩:=HKD.out wr j HJ.out.1 HD.out;by_cases hj:j<D.length
  ·have hk2:kk=2:=by rw[decide_eq_true hj]at hkk;simpa using hkk
   subst hk2;go_wp2_with fail
   refine hkc.mono ?_;rintro e w2 ⟨rfl,hb⟩;have HD2:=hid (HD.out.bel hb);have HK2:=hid (HK.out.bel hb);clear hb hkc hkk;have hat:=HAT.out w2 j hj HD2.out;obtain⟨q,hq⟩:∃ q,q=i+j:=⟨_,rfl⟩
   rw[<- hq]at hat HD2;have hqn:q<n:=by omega
   have HQ:=hid hq;clear hq;obtain⟨c0,c1,f0,f1⟩:=HD2.out.cells;obtain⟨b,off,r,rfl,hDj,a0⟩:=hat;have hdr:=HALL.out r (List.mem_of_getElem? hDj);obtain⟨hr1,hr2⟩:=qgu hdr;obtain⟨hn0,hn1⟩:=HN.out.2;by_cases hnv:nv<=1099511627776
   ·have HN2:=hid (HN.out.go hDj hdr hnv)
    clear hDj hdr;go_wp2
    go_region
    go_wp2
    have hjj:=HJ.out;go_roundg (gk-1)
    case rel=>
     exact⟨j+1,_,rfl,by first | exact HN2 | (have:=HN2.out;exact hid (by simpa using this)),hid ⟨by omega,by omega⟩,hid (by have:=(HD2.out.bel ((Bel.refl _).drew)).set_ (k:=q+1) (by omega);rw[show i+(j+1)=q+1 by have:=HQ.out;omega];exact this),hid ((HK2.out.bel ((Bel.refl _).drew)).set_ _ _)⟩
    case measure=>omega
   ·have HN2:=hid (HN.out.stay hDj hdr hnv)
    clear hDj hdr;go_wp2
    have hjj:=HJ.out;go_roundg (gk-1)
    case rel=>
     exact⟨j+1,nv,rfl,HN2,hid ⟨by omega,by omega⟩,hid (by have:=HD2.out.set_ (k:=q+1) (by omega);rw[show i+(j+1)=q+1 by have:=HQ.out;omega];exact this),hid (HK2.out.set_ _ _)⟩
    case measure=>omega
  ·have hjD:j=D.length:=by have:=HJ.out.1;omega
   subst hjD;have hk2:(kk==2)=false:=by rw[decide_eq_false hj]at hkk;simpa using hkk
   have hen:=HN.out.end_;have HEN:=hid hen;go_wp2_with fail
   refine hkc.mono ?_;rintro e w2 ⟨rfl,hb⟩;have HD2:=hid (HD.out.bel hb);have HK2:=hid (HK.out.bel hb);clear hb hkc hkk hen;obtain⟨q,hq⟩:∃ q,q=i+D.length:=⟨_,rfl⟩
   rw[<- hq]at HD2;have HQ:=hid hq;have hqn:q<=n:=by omega
   clear hq;obtain⟨c0,c1,f0,f1⟩:=HD2.out.cells;by_cases hz:x.r=48/\1<D.length
   ·have ha:ans=erV 100 x.p:=by rw[HANS.out,if_pos hz]
    have hb0:b0=true:=by rw[HB0.out,decide_eq_true hz.1]
    have hlt:i+1<q:=by have:=HQ.out;omega
    have hlt2:(i:Int)+1<(q:Int):=by omega
    subst hb0;subst ha;go_wp2_with fail
    refine (HWR.out _ _ 100 HD2.out).mono ?_;rintro e w3 ⟨rfl,hb⟩;have HD3:=hid (HD2.out.bel hb);have HK3:=hid (HK2.out.bel hb);rw[HQ.out]at HD3;clear hb c0 c1 f0 f1;obtain⟨⟨t0,t1,t2,t3,t4,t5⟩,f0,f1,f2,f3,f4,f5⟩:=qk (HK3.out.keep HQ1.out (by omega));obtain⟨d0,d1,d2,d3,g0,g1,g2,g3⟩:=qA (HK3.out.keep HQ2.out (by omega));unfold erV;go_wp2
    refine bodyPost_ret (v:=erV 100 x.p) ?_ rfl ⟨rfl,?_,?_⟩
    ·simp[erV,results,Tryz.results55,go_sem, *]
    ·repeat (first | with_reducible exact HD3.out | with_reducible refine Rdr.setN ?_ (by show g<w.heap.size+_;omega) _ | with_reducible refine Rdr.setN ?_ (by show g<w.heap.size;omega) _)
    ·have hk:Kr g w w3:=(Kr.of_bel HBB.out).on HK3.out
     repeat (first | with_reducible exact hk | with_reducible refine Kr.setN ?_ (by simp) _)
   ·have hnz:b0=false ∨ ¬ (i:Int)+1<(q:Int):=by
     by_cases h48:x.r=48
     ·right;have:=HQ.out;have:¬ 1<D.length:=fun h=>hz ⟨h48,h⟩;omega
     ·left;rw[HB0.out,decide_eq_false h48]
    by_cases hbig:1099511627776<nv
    ·have hb2:=HEN.out.1.1 hbig
     have ha:ans=erV 101 x.p:=by rw[HANS.out,if_neg hz,if_pos hb2]
     rcases hnz with rfl | hnz
     ·subst ha
      go_wp2_with fail
      refine (HWR.out _ _ 101 HD2.out).mono ?_;rintro e w3 ⟨rfl,hb⟩;have HD3:=hid (HD2.out.bel hb);have HK3:=hid (HK2.out.bel hb);rw[HQ.out]at HD3;clear hb c0 c1 f0 f1;obtain⟨⟨t0,t1,t2,t3,t4,t5⟩,f0,f1,f2,f3,f4,f5⟩:=qk (HK3.out.keep HQ1.out (by omega));obtain⟨d0,d1,d2,d3,g0,g1,g2,g3⟩:=qA (HK3.out.keep HQ2.out (by omega));unfold erV;go_wp2
      refine bodyPost_ret (v:=erV 101 x.p) ?_ rfl ⟨rfl,?_,?_⟩
      ·simp[erV,results,Tryz.results55,go_sem, *]
      ·repeat (first | with_reducible exact HD3.out | with_reducible refine Rdr.setN ?_ (by show g<w.heap.size+_;omega) _ | with_reducible refine Rdr.setN ?_ (by show g<w.heap.size;omega) _)
      ·have hk:Kr g w w3:=(Kr.of_bel HBB.out).on HK3.out
       repeat (first | with_reducible exact hk | with_reducible refine Kr.setN ?_ (by simp) _)
     ·subst ha
      cases b0
      ·go_wp2_with fail
       refine (HWR.out _ _ 101 HD2.out).mono ?_;rintro e w3 ⟨rfl,hb⟩;have HD3:=hid (HD2.out.bel hb);have HK3:=hid (HK2.out.bel hb);rw[HQ.out]at HD3;clear hb c0 c1 f0 f1;obtain⟨⟨t0,t1,t2,t3,t4,t5⟩,f0,f1,f2,f3,f4,f5⟩:=qk (HK3.out.keep HQ1.out (by omega));obtain⟨d0,d1,d2,d3,g0,g1,g2,g3⟩:=qA (HK3.out.keep HQ2.out (by omega));unfold erV;go_wp2
       refine bodyPost_ret (v:=erV 101 x.p) ?_ rfl ⟨rfl,?_,?_⟩
       ·simp[erV,results,Tryz.results55,go_sem, *]
       ·repeat (first | with_reducible exact HD3.out | with_reducible refine Rdr.setN ?_ (by show g<w.heap.size+_;omega) _ | with_reducible refine Rdr.setN ?_ (by show g<w.heap.size;omega) _)
       ·have hk:Kr g w w3:=(Kr.of_bel HBB.out).on HK3.out
        repeat (first | with_reducible exact hk | with_reducible refine Kr.setN ?_ (by simp) _)
      ·go_wp2_with fail
       refine (HWR.out _ _ 101 HD2.out).mono ?_;rintro e w3 ⟨rfl,hb⟩;have HD3:=hid (HD2.out.bel hb);have HK3:=hid (HK2.out.bel hb);rw[HQ.out]at HD3;clear hb c0 c1 f0 f1;obtain⟨⟨t0,t1,t2,t3,t4,t5⟩,f0,f1,f2,f3,f4,f5⟩:=qk (HK3.out.keep HQ1.out (by omega));obtain⟨d0,d1,d2,d3,g0,g1,g2,g3⟩:=qA (HK3.out.keep HQ2.out (by omega));unfold erV;go_wp2
       refine bodyPost_ret (v:=erV 101 x.p) ?_ rfl ⟨rfl,?_,?_⟩
       ·simp[erV,results,Tryz.results55,go_sem, *]
       ·repeat (first | with_reducible exact HD3.out | with_reducible refine Rdr.setN ?_ (by show g<w.heap.size+_;omega) _ | with_reducible refine Rdr.setN ?_ (by show g<w.heap.size;omega) _)
       ·have hk:Kr g w w3:=(Kr.of_bel HBB.out).on HK3.out
        repeat (first | with_reducible exact hk | with_reducible refine Kr.setN ?_ (by simp) _)
    ·have hb2:¬ 1099511627776<valN D:=fun h=>hbig (HEN.out.1.2 h)
     have hnv:=HEN.out.2 (by omega);have ha:ans=tkV 3 [] nv:=by rw[HANS.out,if_neg hz,if_neg hb2,hnv]
     clear hnv;have hq2:=HQ.out;have HQQ:=hid (by rw[<- hq2];exact HD2.out:Rdr w2 g A n c xs (i+D.length));obtain⟨⟨t0,t1,t2,t3,t4,t5⟩,f0,f1,f2,f3,f4,f5⟩:=qk (HK2.out.keep HQ1.out (by omega));obtain⟨d0,d1,d2,d3,g0,g1,g2,g3⟩:=qA (HK2.out.keep HQ2.out (by omega));rcases hnz with rfl | hnz
     ·subst ha
      go_wp2
      refine bodyPost_ret (v:=tkV 3 [] nv) ?_ rfl ⟨rfl,?_,?_⟩
      ·simp[tkV,results,Tryz.results55,go_sem, *]
      ·repeat (first | with_reducible exact HQQ.out | with_reducible refine Rdr.setN ?_ (by show g<w.heap.size+_;omega) _ | with_reducible refine Rdr.setN ?_ (by show g<w.heap.size;omega) _)
      ·have hk:Kr g w w2:=(Kr.of_bel HBB.out).on HK2.out
       repeat (first | with_reducible exact hk | with_reducible refine Kr.setN ?_ (by simp) _)
     ·subst ha
      cases b0
      ·skip
       go_wp2
       refine bodyPost_ret (v:=tkV 3 [] nv) ?_ rfl ⟨rfl,?_,?_⟩
       ·simp[tkV,results,Tryz.results55,go_sem, *]
       ·repeat (first | with_reducible exact HQQ.out | with_reducible refine Rdr.setN ?_ (by show g<w.heap.size+_;omega) _ | with_reducible refine Rdr.setN ?_ (by show g<w.heap.size;omega) _)
       ·have hk:Kr g w w2:=(Kr.of_bel HBB.out).on HK2.out
        repeat (first | with_reducible exact hk | with_reducible refine Kr.setN ?_ (by simp) _)
      ·skip
       go_wp2
       refine bodyPost_ret (v:=tkV 3 [] nv) ?_ rfl ⟨rfl,?_,?_⟩
       ·simp[tkV,results,Tryz.results55,go_sem, *]
       ·repeat (first | with_reducible exact HQQ.out | with_reducible refine Rdr.setN ?_ (by show g<w.heap.size+_;omega) _ | with_reducible refine Rdr.setN ?_ (by show g<w.heap.size;omega) _)
       ·have hk:Kr g w w2:=(Kr.of_bel HBB.out).on HK2.out
        repeat (first | with_reducible exact hk | with_reducible refine Kr.setN ?_ (by simp) _)
end Go.Proofs.YtfpoelklhekfaaaGreatDoor.Mu
