import Derived.Test.YtfpoelklhekfaaaGreatDoorQam
import Derived.Test.YtfpoelklhekfaaaGreatDoorQap
import Derived.Test.YtfpoelklhekfaaaGreatDoorQaq
import Derived.Test.YtfpoelklhekfaaaGreatDoorQar
open Go.Lib (hid)
namespace Go.Proofs.YtfpoelklhekfaaaGreatDoor.Mu
open Go.RowKit Go.Shelf
set_option maxRecDepth 100000
def Took(g:Nat)(A:Option Addr)(n c:Nat)(xs:List Pn)(i:Nat)(R:Rd)(w:World)(e:Ending)(w':World):Prop:=
 e=.returned (rdV xs i R)/\Kr g w w'/\(∀ t r,R=.ok t r->∃ k,r=(xs.map Pn.r).drop k/\i<=k/\Rdr w' g A n c xs k)
def tkF(k:Int):Nat:=if k=2 then 55 else if k=3 then 56 else if k=4 then 57 else if k=6 then 58 else 59
theorem qek{g:Nat}{A:Option Addr}{n c:Nat}{xs:List Pn}{i:Nat}(w:World)(h:Rdr w g A n c xs i) :
  Calls Tryz.prog 23 #[.pointer (some ⟨g,0,none⟩)] w fun e w'=>e=.returned (.func (Fn.func (tkF (kdL ((xs.map Pn.r).drop i)))) #[.pointer (some ⟨g,0,none⟩)] #[])/\Bel w w':=by
 have HK:Hid (∀ (w:World),Rdr w g A n c xs i->Calls Tryz.prog 53 #[.pointer (some ⟨g,0,none⟩)] w fun e w'=>e=.returned (.int .u8 (kdL ((xs.map Pn.r).drop i)))/\Bel w w'):=hid fun w hd=>Qz w hd;obtain⟨kk,hkk⟩:∃ kk,kk=kdL ((xs.map Pn.r).drop i):=⟨_,rfl⟩
 rw[<- hkk]at HK ⊢;obtain⟨ff,hff⟩:∃ ff,ff=tkF kk:=⟨_,rfl⟩
 rw[<- hff];have HF:=hid hff;have H:=hid h;clear h hkk hff;go_enter Tryz.func23,Tryz.ntmps23
 go_wp2_with fail
 refine (HK.out _ H.out).mono ?_;rintro e w1 ⟨rfl,hb⟩;have HB:=hid hb;clear hb;by_cases k2:kk=2
 ·have d2:(kk==2)=true:=by simp[k2]
  have hf:ff=55:=by rw[HF.out,tkF,if_pos k2]
  subst hf;clear k2;go_wp2
  go_ret
  exact⟨rfl,HB.out⟩
 have d2:(kk==2)=false:=by simp[k2]
 by_cases k3:kk=3
 ·have d3:(kk==3)=true:=by simp[k3]
  have hf:ff=56:=by rw[HF.out,tkF,if_neg k2,if_pos k3]
  subst hf;clear k2 k3;go_wp2
  go_ret
  exact⟨rfl,HB.out⟩
 have d3:(kk==3)=false:=by simp[k3]
 by_cases k4:kk=4
 ·have d4:(kk==4)=true:=by simp[k4]
  have hf:ff=57:=by rw[HF.out,tkF,if_neg k2,if_neg k3,if_pos k4]
  subst hf;clear k2 k3 k4;go_wp2
  go_ret
  exact⟨rfl,HB.out⟩
 have d4:(kk==4)=false:=by simp[k4]
 by_cases k6:kk=6
 ·have d6:(kk==6)=true:=by simp[k6]
  have hf:ff=58:=by rw[HF.out,tkF,if_neg k2,if_neg k3,if_neg k4,if_pos k6]
  subst hf;clear k2 k3 k4 k6;go_wp2
  go_ret
  exact⟨rfl,HB.out⟩
 have d6:(kk==6)=false:=by simp[k6]
 have hf:ff=59:=by rw[HF.out,tkF,if_neg k2,if_neg k3,if_neg k4,if_neg k6]
 subst hf;clear k2 k3 k4 k6;go_wp2
 go_ret
 exact⟨rfl,HB.out⟩
theorem qad(p:Int->Bool)(l:List Int):l.dropWhile p=l.drop (l.takeWhile p).length:=by
 have e:=List.takeWhile_append_dropWhile (p:=p) (l:=l);have:(l.takeWhile p++l.dropWhile p).drop (l.takeWhile p).length=l.dropWhile p:=List.drop_left;rw[e]at this;exact this.symm
theorem qe8(x:Int):(kdN x=2↔qt x=true)/\(kdN x=3↔isSm x=true)/\(kdN x=4↔isGr x=true)/\(kdN x=6↔x=34):=by
 unfold kdN isBl qt isSm isGr;simp only[Bool.or_eq_true,decide_eq_true_eq];refine⟨?_,?_,?_,?_⟩;all_goals
  constructor
  ·intro h;repeat' split at h
   all_goals omega
  ·intro h;repeat' split
   all_goals omega
theorem qaY:∀ x∈wordsL,x ∉ primsL:=by decide +kernel
theorem Zg:∀ x∈wordsL++primsL,x.length<=24:=by decide +kernel
theorem qcQ{T:List Int}(h:AllCp T):(encs T∈za↔T∈wordsL)/\(encs T∈zk↔T∈primsL):=
 ⟨(zG jb (Cps.nil h)).trans (by simp),(zG zU (Cps.nil h)).trans (by simp)⟩
theorem qgZ{g:Nat}{A:Option Addr}{n c:Nat}{xs:List Pn}{i:Nat}{x:Pn}(hx:xs[i]?=some x)(hcp:AllCp (xs.map Pn.r))(h4:(encs (xs.map Pn.r)).length<=4000)(w:World)(h:Rdr w g A n c xs i) :
  Calls Tryz.prog (tkF (kdL ((xs.map Pn.r).drop i))) #[.pointer (some ⟨g,0,none⟩)] w (Took g A n c xs i (oneL ((xs.map Pn.r).drop i)) w):=by
 obtain⟨L,hL⟩:∃ L,L=xs.map Pn.r:=⟨_,rfl⟩
 have hLx:L[i]?=some x.r:=by rw[hL];simp[hx]
 have hl:L.drop i=x.r::L.drop (i+1):=qo hLx;have hhd:(L.drop i).headD 0=x.r:=by rw[hl];rfl
 have hne:L.drop i≠[]:=by rw[hl];simp
 obtain⟨k2,k3,k4,k6⟩:=qe8 x.r;have hp0:∀ e,rdV xs i (.err e 0)=erV e x.p:=fun e=>by simp[rdV,hx]
 unfold Took;rw[<- hL];rw[Jb hLx];obtain⟨T,hT⟩:∃ T,T=(L.drop i).takeWhile isW:=⟨_,rfl⟩
 have hall:∀ c∈T,isW c=true:=by rw[hT];exact qF _ _
 obtain⟨mw,mp⟩:=qcQ (qfT hall);by_cases c2:qt x.r=true
 ·have e2:=k2.2 c2
  have hns:isSm x.r=false/\isGr x.r=false:=by
   refine⟨Bool.eq_false_iff.2 fun h=>?_,Bool.eq_false_iff.2 fun h=>?_⟩
   ·have:=k3.2 h;omega
   ·have:=k4.2 h;omega
  have ho:oneL (L.drop i)=numL (L.drop i):=by
   unfold oneL;rw[hhd,if_neg (by simp[hns]),if_pos c2]
  rw[ho,e2];obtain⟨D,hD⟩:∃ D,D=(L.drop i).takeWhile qt:=⟨_,rfl⟩
  have hcond:((L.drop i).headD 0=48/\qt ((L.drop i).tail.headD 0)=true)↔(x.r=48/\1<D.length):=by
   rw[hhd,hD,hl,List.tail_cons,List.takeWhile_cons,if_pos c2,List.length_cons];refine and_congr_right fun _=>?_;cases hr:L.drop (i+1) with
   | nil=>simp[qt]
   | cons y ys=>
    rw[List.headD_cons,List.takeWhile_cons];by_cases hy:qt y=true
    ·rw[if_pos hy,List.length_cons];simp[hy]
    ·rw[if_neg hy];simp[hy]
  refine (qb6 hx w h).mono fun e w' hh=>?_;obtain⟨h1,h2,h3⟩:=hh;rw[<- hL,<- hD]at h1 h2;unfold numL;rw[<- hD];by_cases hc:x.r=48/\1<D.length
  ·rw[if_pos (hcond.2 hc),hp0]
   rw[if_pos hc]at h1;exact⟨h1,h3,fun t r ht=>by cases ht⟩
  rw[if_neg fun hh=>hc (hcond.1 hh)];rw[if_neg hc]at h1;by_cases hb:1099511627776<valN D
  ·rw[if_pos hb,hp0]
   rw[if_pos hb]at h1;exact⟨h1,h3,fun t r ht=>by cases ht⟩
  rw[if_neg hb];rw[if_neg hb]at h1;refine⟨h1,h3,fun t r ht=>?_⟩;injection ht with _ hr
  exact⟨i+D.length,by rw[<- hr,qad,<- hD,List.drop_drop],by omega,h2⟩
 by_cases c3:isSm x.r=true
 ·have e3:=k3.2 c3
  have ho:oneL (L.drop i)=Zt (L.drop i):=by
   unfold oneL;rw[hhd,if_pos (.inl c3)]
  have hng:isGr x.r=false:=Bool.eq_false_iff.2 fun h=>by have:=k4.2 h;omega
  rw[ho,e3];unfold Zt;rw[<- hT,hhd,if_neg (by simp[hng]:¬ isGr x.r=true)];by_cases h24:24<T.length
  ·have n1:T ∉ wordsL:=fun h=>by have:=Zg T (by simp[h]);omega
   have n2:T ∉ primsL:=fun h=>by have:=Zg T (by simp[h]);omega
   have hN:∀ w,Rdr w g A n c xs i->Calls Tryz.prog 99 #[.pointer (some ⟨g,0,none⟩),.int .u8 1] w fun e w'=>e=.returned (.tuple #[.agg #[.int .u8 0,.string ⟨(([]:List UInt8)).toArray⟩,(0:Int),(0:Int),(0:Int),(0:Int)],.agg #[.int .i64 3,x.p.a,x.p.l,x.p.c]])/\Rdr w' g A n c xs (i+T.length)/\Kr g w w':=fun w hd=>by
    have:=Jf 1 hx w hd;rw[<- hL,<- hT,if_pos h24]at this;exact this
   refine (qbC 0 [] 3 _ _ _ hN w h).mono fun e w' hh=>?_;rw[if_neg n1,if_neg n2,if_pos h24,hp0];exact⟨hh.1,hh.2.2,fun t r ht=>by cases ht⟩
  ·have hN:∀ w,Rdr w g A n c xs i->Calls Tryz.prog 99 #[.pointer (some ⟨g,0,none⟩),.int .u8 1] w fun e w'=>e=.returned (.tuple #[.agg #[.int .u8 1,.string ⟨(encs T).toArray⟩,(0:Int),(0:Int),(0:Int),(0:Int)],.agg #[.int .i64 0,(0:Int),(0:Int),(0:Int)]])/\Rdr w' g A n c xs (i+T.length)/\Kr g w w':=fun w hd=>by
    have:=Jf 1 hx w hd;rw[<- hL,<- hT,if_neg h24]at this;exact this
   have hrest:(L.drop i).dropWhile isW=L.drop (i+T.length):=by rw[qad,<- hT,List.drop_drop]
   refine (qbC 1 (encs T) 0 0 0 0 hN w h).mono fun e w' hh=>?_;obtain⟨h1,h2,h3⟩:=hh;rw[hrest];by_cases m1:T∈wordsL
   ·rw[if_pos m1]
    rw[if_neg (fun h=>qaY T m1 (mp.1 h)),if_pos (mw.2 m1)]at h1;exact⟨h1,h3,fun t r ht=>by injection ht with _ hr;exact⟨_,hr.symm,by omega,h2⟩⟩
   rw[if_neg m1];by_cases m2:T∈primsL
   ·rw[if_pos m2]
    rw[if_pos (mp.2 m2)]at h1;exact⟨h1,h3,fun t r ht=>by injection ht with _ hr;exact⟨_,hr.symm,by omega,h2⟩⟩
   rw[if_neg m2,if_neg h24];rw[if_neg (fun h=>m2 (mp.1 h)),if_neg (fun h=>m1 (mw.1 h))]at h1;exact⟨h1,h3,fun t r ht=>by injection ht with _ hr;exact⟨_,hr.symm,by omega,h2⟩⟩
 by_cases c4:isGr x.r=true
 ·have e4:=k4.2 c4
  have ho:oneL (L.drop i)=Zt (L.drop i):=by
   unfold oneL;rw[hhd,if_pos (.inr c4)]
  rw[ho,e4];unfold Zt;have hTh:T≠[]/\T.headD 0=x.r:=by
   have:=QZ (p:=isW) (l:=L.drop i) (by rw[hhd];exact qfR (.inr c4)) hne;rw[<- hT]at this;exact⟨this.1,this.2.1.trans hhd⟩
  have nw:T ∉ wordsL++primsL:=fun h=>by
   have:=(ja T h).2.2;rw[hTh.2]at this;exact c3 this
  have n1:T ∉ wordsL:=fun h=>nw (by simp[h]);have n2:T ∉ primsL:=fun h=>nw (by simp[h]);have hrest:(L.drop i).dropWhile isW=L.drop (i+T.length):=by rw[qad,<- hT,List.drop_drop]
  refine (qgo hx w h).mono fun e w' hh=>?_;obtain⟨h1,h2,h3⟩:=hh;rw[<- hL,<- hT]at h1 h2;rw[<- hT,hhd,if_neg n1,if_neg n2,hrest];by_cases h24:24<T.length
  ·rw[if_pos h24,hp0]
   rw[if_pos h24]at h1;exact⟨h1,h3,fun t r ht=>by cases ht⟩
  rw[if_neg h24,if_pos c4];rw[if_neg h24]at h1;exact⟨h1,h3,fun t r ht=>by injection ht with _ hr;exact⟨_,hr.symm,by omega,h2⟩⟩
 by_cases c6:x.r=34
 ·have e6:=k6.2 c6
  have ho:oneL (L.drop i)=quoL (L.drop (i+1)) [] 1:=by
   unfold oneL;rw[hhd,if_neg (by simp[c3,c4]),if_neg (by simp[c2]),if_pos c6,hl,List.tail_cons]
  rw[ho,e6];have:=qcd hx hcp h4 w h;rw[<- hL]at this;exact this
 ·have ho:oneL (L.drop i)=Qs (L.drop i):=by
   unfold oneL;rw[hhd,if_neg (by simp[c3,c4]),if_neg (by simp[c2]),if_neg c6]
  have hf:tkF (kdN x.r)=59:=by
   unfold tkF;rw[if_neg fun h=>c2 (k2.1 h),if_neg fun h=>c3 (k3.1 h),if_neg fun h=>c4 (k4.1 h),if_neg fun h=>c6 (k6.1 h)]
  rw[ho,hf];have:=qfr hx w h;rw[<- hL]at this;exact this
set_option maxHeartbeats 8000000
def Rs.app(ds:List (Tk × Nat)):Rs->Rs
 | .ok ps=> .ok (ds++ps)
 | .err e o=> .err e o
theorem app_nil(r:Rs):Rs.app [] r=r:=by cases r <;> rfl
theorem qeG(ds:List (Tk × Nat))(p:Tk × Nat)(r:Rs):Rs.app ds (r.cons p)=Rs.app (ds++[p]) r:=by cases r <;> simp[Rs.app,Rs.cons]
theorem JY(f:Nat)(l:List Int)(o:Nat)(hl:∀ c∈l,cpB c=true):qx f l o=qx f (qh l) (o+(l.length-(qh l).length)):=by
 cases f with
 | zero=>rfl
 | succ f=>
  have hss:=zZ _ l (Nat.le_refl _);have hsl:=zY _ l (Nat.le_refl _);by_cases hs:qh l=[]
  ·rw[ze hs,ze (by rw[hss];exact hs)]
  ·rw[qO hs,qO (by rw[hss];exact hs),hss]
   cases e1:oneL (qh l) with
   | err x y=>simp only[Nat.sub_self,Nat.add_zero]
   | ok t r=>
    have hr:=(zS hs e1 (jA hl)).2.2;simp only[Nat.sub_self,Nat.add_zero];rw[show o+(l.length-(qh l).length)+((qh l).length-r.length)=o+(l.length-r.length) by omega]
theorem jy:∀ (n:Nat) (l acc:List Int) (d:Nat) (e:Int) (o:Nat),l.length<=n->quoL l acc d=.err e o->o=0∨(d<=o/\o<d+l.length)
 | _,[],acc,d,e,o,_,h=>by rw[quoL]at h;injection h with _ h;exact .inl h.symm
 | 0,c::l,acc,d,e,o,hl,_=>by simp at hl
 | n+1,c::l,acc,d,e,o,hl,h=>by
  have hl':l.length<=n:=by simpa using hl
  rw[quoL]at h;split at h
  ·cases h
  split at h
  ·injection h with _ h;exact .inl h.symm
  split at h
  ·split at h
   ·injection h with _ h;rw[List.length_cons];exact .inr (by omega)
   ·rename_i hz
    have hne:l≠[]:=fun e=>by rw[e]at hz;exact hz (by decide)
    have h1:1<=l.length:=by
     cases l with
     | nil=>exact absurd rfl hne
     | cons a b=>simp
    have:=jy n _ _ _ e o (by rw[List.length_tail];omega) h;rw[List.length_tail]at this;rw[List.length_cons];omega
  ·have:=jy n _ _ _ e o hl' h
   rw[List.length_cons];omega
theorem qca{l:List Int}{e:Int}{o:Nat}(hne:l≠[])(h:oneL l=.err e o):o<l.length:=by
 have hpos:0<l.length:=by
  cases l with
  | nil=>exact absurd rfl hne
  | cons a b=>simp
 unfold oneL at h;split at h
 ·unfold Zt at h
  repeat' split at h
  all_goals first | cases h;done | (injection h with _ h;omega)
 split at h
 ·unfold numL at h
  repeat' split at h
  all_goals first | cases h;done | (injection h with _ h;omega)
 split at h
 ·have:=jy _ _ _ _ e o (Nat.le_refl _) h
  rw[List.length_tail]at this;omega
 ·unfold Qs at h
  repeat' split at h
  all_goals first | cases h;done | (injection h with _ h;omega)
theorem qdf:∀ (p:Pl) (cs:List Int),(place p cs).map Pn.r=cs
 | _,[]=>rfl
 | p,c::cs=>by show c::(place (p.next c) cs).map Pn.r=_;rw[qdf]
theorem qem(k:Int):tkF k=55∨tkF k=56∨tkF k=57∨tkF k=58∨tkF k=59:=by
 unfold tkF;repeat' split
 all_goals simp
theorem qfV{w w':World}{g base:Nat}{e:TypeId}{size:Nat}{V:Value}{n:Nat}{xs:List Value}(h:w.ownsRow base e size V n xs)(k:Kr g w w')(hg:g<base):w'.ownsRow base e size V n xs:=by
 obtain⟨h1,h2⟩:=h;refine⟨h1,?_⟩;rcases h2 with h2 | ⟨q,cap,cur,a,b,c,d⟩
 ·exact .inl h2
 ·exact .inr ⟨q,cap,cur,a,b,by rw[k.block q (Array.getElem?_eq_some_iff.1 c).1 (by omega)];exact c,d⟩
theorem qgV(w:World)(L:List Value)(t:TypeId):∀ j u,L[j]?=some u->(w.alloc (.cells L.toArray t)).cell? ⟨w.heap.size,j,none⟩=some u:=by
 intro j u hu;have hb:=blk1 w (.cells L.toArray t);unfold World.cell?
 rw[hb];simp[hu]
theorem qen{cs:List Int}{k f:Nat}{done:List (Tk × Nat)}(h:qx (cs.length+1) cs 0=Rs.app done (qx f (cs.drop k) k))(hsk:qh (cs.drop k)=cs.drop k)(hk:k<cs.length)(hf:0<f) :
  qx (cs.length+1) cs 0=Rs.app done (match oneL (cs.drop k) with
   | .err e d=> .err e (k+d)
   | .ok t r=>(qx (f-1) r (k+((cs.drop k).length-r.length))).cons (t,k)):=by
 obtain⟨f',rfl⟩:∃ f',f=f'+1:=⟨f-1,by omega⟩
 have hne:cs.drop k≠[]:=fun e=>by have:=congrArg List.length e;rw[List.length_drop]at this;simp at this;omega
 rw[h,qO (by rw[hsk];exact hne),hsk];simp only[Nat.sub_self,Nat.add_zero,Nat.add_sub_cancel];rfl
theorem qaT{cs:List Int}{k f:Nat}{done:List (Tk × Nat)}{e:Int}{d:Nat}(h:qx (cs.length+1) cs 0=Rs.app done (qx f (cs.drop k) k))(hsk:qh (cs.drop k)=cs.drop k)(hk:k<cs.length)(hf:0<f)(hR:Rd.err e d=oneL (cs.drop k)) :
  e≠0/\rsO cs (qx (cs.length+1) cs 0)=⟨[],e,(((place p0 cs)[k+d]?).map Pn.p).getD z0⟩:=by
 have hne:cs.drop k≠[]:=fun e=>by have:=congrArg List.length e;rw[List.length_drop]at this;simp at this;omega
 have hlt:=qca hne hR.symm;rw[List.length_drop]at hlt;refine⟨qdb hR.symm,?_⟩;rw[qen h hsk hk hf,<- hR];obtain⟨c,hc⟩:∃ c,cs[k+d]?=some c:=⟨_,List.getElem?_eq_getElem (by omega)⟩
 show (⟨[],e,ends p0 (cs.take (k+d))⟩:To)=_
 rw[QU p0 cs (k+d) c hc];rfl
theorem qcp{cs:List Int}{k k2 k3 f:Nat}{done:List (Tk × Nat)}{t:Tk}(hc:AllCp cs)(h:qx (cs.length+1) cs 0=Rs.app done (qx f (cs.drop k) k))(hsk:qh (cs.drop k)=cs.drop k)(hk:k<cs.length)(hf:0<f)(hR:Rd.ok t (cs.drop k2)=oneL (cs.drop k))(hkk:k<=k2)(h2:k2<=cs.length)(hs3:qh (cs.drop k2)=cs.drop k3)(h23:k2<=k3)(h3:k3<=cs.length) :
  k<k2/\qx (cs.length+1) cs 0=Rs.app (done++[(t,k)]) (qx (f-1) (cs.drop k3) k3)/\qh (cs.drop k3)=cs.drop k3:=by
 have hne:cs.drop k≠[]:=fun e=>by have:=congrArg List.length e;rw[List.length_drop]at this;simp at this;omega
 have hfc:=(zS hne hR.symm fun c hcc=>hc c (List.mem_of_mem_drop hcc)).2.2;rw[List.length_drop,List.length_drop]at hfc;refine⟨by omega,?_,by rw[<- hs3];exact zZ _ _ (Nat.le_refl _)⟩;rw[qen h hsk hk hf,<- hR];show Rs.app done ((qx (f-1) (cs.drop k2) (k+((cs.drop k).length-(cs.drop k2).length))).cons (t,k))=_
 rw[qeG,List.length_drop,List.length_drop,show k+(cs.length-k-(cs.length-k2))=k2 by omega,JY (f-1) (cs.drop k2) k2 (fun c hcc=>hc c (List.mem_of_mem_drop hcc)),hs3,List.length_drop,List.length_drop,show k2+(cs.length-k2-(cs.length-k3))=k3 by omega]
def GTo(o:To)(w:World)(e:Ending)(w':World):Prop:=
 Bel w w'/\∃ A n c,e=.returned (.tuple #[.slice A n c,.agg #[.int .i64 o.e,o.q.a,o.q.l,o.q.c]])/\RTn w' w'.heap.size A n o.l
def GToC(o:To)(w:World)(e:Ending)(w':World):Prop:=
 Bel w w'/\∃ A n c,e=.returned (.tuple #[.slice A n c,.agg #[.int .i64 o.e,o.q.a,o.q.l,o.q.c]])/\RTn w' w'.heap.size A n o.l/\n<=c
theorem qg1{w:World}{base:Nat}{e:TypeId}{size n c:Nat}{A:Option Addr}{xs:List Value}(h:w.ownsRow base e size (.slice A n c) n xs):n<=c:=by
 rcases h.2 with ⟨_,h0⟩ | ⟨g,cap,cur,hv,hb,hg,hc,_⟩
 ·omega
 ·injection hv with _ _ h3
  omega
theorem qe6:(Tryz.prog.info? 37).map (fun i=>(i.zero,i.size,i.bytes))=some (some (.agg #[.int .u8 0,.string ⟨#[]⟩,(0:Int),(0:Int),(0:Int),(0:Int)]),6,56):=by kernel_rfl
theorem qaS{s:ByteArray}{cs:List Int}{rest:List UInt8}(h:Cps s.data.toList cs rest)(w:World):Calls Tryz.prog 7 #[.string s] w (GToC (tokO s.size cs rest) w):=by
 have HP:Hid (∀ w,Calls Tryz.prog 20 #[.string s] w (GO2 (ot s.size cs rest) w)):=hid fun w=>qcc h w;obtain⟨O,hO⟩:∃ O,O=ot s.size cs rest:=⟨_,rfl⟩
 obtain⟨TT,hTT⟩:∃ TT,TT=tokO s.size cs rest:=⟨_,rfl⟩
 rw[<- hO]at HP;rw[<- hTT];have HO:=hid hO;have HTT:=hid hTT;have H:=hid h;clear hO hTT h;go_enter Tryz.func7,Tryz.ntmps7
 go_wp2_with fail
 refine (HP.out _).mono ?_;rintro e w1 ⟨hb,A,n,c,rfl,hq⟩;have q0:=blk1 w (.cells #[.int .i64 0,(0:Int),(0:Int),(0:Int)] 32);have HQ0:=hid (hb.blk q0);have HB1:=hid (((Bel.refl w).alloc (.cells #[.int .i64 0,(0:Int),(0:Int),(0:Int)] 32)).on hb);have HRP:=hid hq;have hs1:w.heap.size<w1.heap.size:=by have:=hb.size;simp at this;omega
 clear hb q0 hq;by_cases hoe:O.e=0
 ·go_wp2_with fail
  obtain⟨hs4,rfl⟩:=qg0.1 (by rw[<- HO.out];exact hoe);have hOx:O.xs=place p0 cs:=by rw[HO.out,ot,if_neg (by omega),if_pos rfl]
  have hcp:AllCp cs:=H.out.cp;have hsz:(encs cs).length<=4000:=by
   have e:=congrArg List.length H.out.eq;rw[List.append_nil,Array.length_toList]at e;have:s.data.size=s.size:=rfl;omega
  have hmap:(place p0 cs).map Pn.r=cs:=qdf p0 cs;have hln:n=cs.length:=by have:=HRP.out.len;rw[hOx,jO]at this;exact this
  have hn4:n<=4000:=by have:=qD hcp;omega
  have htt:TT=rsO cs (qx (cs.length+1) cs 0):=by rw[HTT.out,tokO,<- HO.out,if_pos hoe]
  have HTR:=hid htt;have hrd:Rdr ((w1.alloc (.cells #[.int .i64 0,O.q.a,O.q.l,O.q.c] 32)).alloc (.cells #[.slice A n c,(0:Int)] 75)) (w1.heap.size+1) A n c (place p0 cs) 0:=by
   have hbb:Bel w1 ((w1.alloc (.cells #[.int .i64 0,O.q.a,O.q.l,O.q.c] 32)).alloc (.cells #[.slice A n c,(0:Int)] 75)):=((Bel.refl w1).alloc _).alloc _;refine⟨(blk2 w1 _ _).2,?_,Nat.zero_le _,hn4⟩;have:=HRP.out;rw[hOx]at this;exact (this.keep fun b o hb=>hbb.cell (p:=⟨b,o,none⟩) hb).more (by omega)
  obtain⟨w2,hw2⟩:∃ w2,w2=(w1.alloc (.cells #[.int .i64 0,O.q.a,O.q.l,O.q.c] 32)).alloc (.cells #[.slice A n c,(0:Int)] 75):=⟨_,rfl⟩
  have hs2:w2.heap.size=w1.heap.size+2:=by rw[hw2];simp
  have hb2:Bel w1 w2:=by rw[hw2];exact ((Bel.refl w1).alloc _).alloc _
  rw[<- hw2]at hrd ⊢;obtain⟨g,hg⟩:∃ g,g=w1.heap.size+1:=⟨_,rfl⟩
  rw[<- hg]at hrd ⊢;obtain⟨xs,hxs⟩:∃ xs,xs=place p0 cs:=⟨_,rfl⟩
  rw[<- hxs]at hrd hmap;have HXS:=hid hxs;have HR2:=hid hrd;have HMAP:=hid hmap;have HCP:=hid hcp;have HSZ:=hid hsz;have HB2:=hid (HB1.out.on hb2);have HQ2:=hid (hb2.blk HQ0.out);have hSK:∀ (w:World) (k:Nat),Rdr w g A n c xs k->Calls Tryz.prog 21 #[.pointer (some ⟨g,0,none⟩)] w fun e w'=>e=.returned (.tuple #[])/\∃ k2,k<=k2/\Rdr w' g A n c xs k2/\qh (cs.drop k)=cs.drop k2/\Kr g w w':=fun w k hd=>by have:=qfv w hd;rw[hmap]at this;exact this
  have HSK:=hid hSK;have HM:Hid (∀ (w:World) (k:Nat),Rdr w g A n c xs k->Calls Tryz.prog 22 #[.pointer (some ⟨g,0,none⟩)] w fun e w'=>e=.returned (.bool (decide (k<n)))/\Bel w w'):=hid fun w k hk=>QC w hk;have HTK:Hid (∀ (w:World) (k:Nat),Rdr w g A n c xs k->∃ F:Nat,(F=55∨F=56∨F=57∨F=58∨F=59)/\Calls Tryz.prog 23 #[.pointer (some ⟨g,0,none⟩)] w (fun e w'=>e=.returned (.func (Fn.func F) #[.pointer (some ⟨g,0,none⟩)] #[])/\Bel w w')/\∀ (x:Pn) (w:World),xs[k]?=some x->Rdr w g A n c xs k->Calls Tryz.prog F #[.pointer (some ⟨g,0,none⟩)] w (Took g A n c xs k (oneL (cs.drop k)) w)):=hid fun w k hd=>
   ⟨tkF (kdL ((xs.map Pn.r).drop k)),qem _,qek w hd,fun x w hx hd=>by
    have:=qgZ hx (by rw[hmap];exact hcp) (by rw[hmap];exact hsz) w hd;rw[hmap]at this ⊢;exact this⟩
  have HG:=hid hg;have HLN:=hid hln;have HS2:=hid hs2;have hgw:w.heap.size<g:=by omega
  clear htt hrd hw2 hb2 hxs hmap hcp hsz hSK hOx hg hln hs2;refine (HSK.out _ _ HR2.out).mono ?_;rintro e w3 ⟨rfl,k0,-,hd3,hs3,hk3⟩;have HD3:=hid hd3;have HK3:=hid hk3;have hk0:=hd3.le;have hst:qx (cs.length+1) cs 0=Rs.app [] (qx (cs.length+1) (cs.drop k0) k0):=by
   rw[app_nil,JY _ cs 0 HCP.out,show qh cs=cs.drop k0 by simpa using hs3,List.length_drop,show 0+(cs.length-(cs.length-k0))=k0 by have:=HLN.out;omega]
  have hsk0:qh (cs.drop k0)=cs.drop k0:=by rw[<- hs3];exact zZ _ _ (Nat.le_refl _)
  have HST:=hid hst;have HSK0:=hid hsk0;clear hd3 hs3 hk3 hst hsk0;go_wp2_with fail
  go_loopg [7] (n+2) (fun gk v wr=>∃ (k m:Nat) (A2:Option Addr) (c2 f:Nat) (done:List (Tk × Nat)),v=.slice A2 m c2/\Hid (k<=n/\n-k<gk/\n-k<f)/\Hid (Rdr wr g A n c xs k)/\Hid (wr.ownsRow (g+1) 37 6 (.slice A2 m c2) m (zo (done.map (tn cs))))/\Hid (Kr g w2 wr) ∧
   Hid (qx (cs.length+1) cs 0=Rs.app done (qx f (cs.drop k) k)/\qh (cs.drop k)=cs.drop k)/\Hid (m<=k))
  case atStart=>exact⟨k0,0,none,0,cs.length+1,[],rfl,hid ⟨hk0,by omega,by have:=HLN.out;omega⟩,HD3,hid (World.ownsRow_nil _ _ _ _),HK3,hid ⟨HST.out,HSK0.out⟩,hid (Nat.zero_le _)⟩
  case round=>
   obtain⟨k,m,A2,c2,f,done,rfl,HJ,HD,HOW,HK,HTF,HMK⟩:=hrel;have hjj:=HJ.out;by_cases hk:k<n
   ·have hm:∀ w',Rdr w' g A n c xs k->Calls Tryz.prog 22 #[.pointer (some ⟨g,0,none⟩)] w' fun e w2=>e=.returned (.bool true)/\Bel w' w2:=fun w' hd=>by have:=HM.out w' k hd;rwa [decide_eq_true hk]at this
    have HMT:=hid hm;clear hm;go_wp2_with fail
    refine (HMT.out _ HD.out).mono ?_;rintro e w4 ⟨rfl,hb⟩;have HD4:=hid (HD.out.bel hb);have HK4:=hid (HK.out.bel hb);have HO4:=hid (qp HOW.out hb);clear hb;obtain⟨c0,c1,f0,f1⟩:=HD4.out.cells;obtain⟨b,off,x,rfl,hx,-,a1,a2,a3⟩:=HD4.out.at_ hk;have HX:=hid hx;clear hx;have hbl:b<w4.heap.size:=by
     obtain⟨b',off',hA',hb',-⟩:=HD4.out.rp.at_ (by omega);injection hA' with hA'
     injection hA' with h1 _ _
     have:=HD4.out.lt;omega
    have hg4:g<w4.heap.size:=HD4.out.lt;go_wp2_with fail
    go_cut [8] (fun v wx=>∃ bp:Nat,v=.pointer (some ⟨bp,0,none⟩)/\Hid (Bel w4 wx)/\Hid (w4.heap.size<=bp)/\Hid (wx.heap[bp]?=some (.cells #[.int .i64 x.p.a,x.p.l,x.p.c] 30 (0,0))))
    case first=>
     go_region
     go_wp2_with fail
     go_meet
     exact⟨w4.heap.size,rfl,hid (((Bel.refl w4).alloc _).drew),hid (Nat.le_refl _),hid (blk1 w4 _)⟩
    case rest=>
     obtain⟨bp,rfl,HB5,HBP,HPO⟩:=hcut;have HD5:=hid (HD4.out.bel HB5.out);have HK5:=hid (HK4.out.bel HB5.out);have HO5:=hid (qp HO4.out HB5.out);clear c0 c1 f0 f1 a1 a2 a3;obtain⟨F,hF0,hF1,hF2⟩:=HTK.out _ k HD5.out;have HF0:=hid hF0;have HF1:=hid hF1;have HF2:=hid (fun w' hd=>hF2 x w' HX.out hd);clear hF0 hF1 hF2;go_wp2_with fail
     refine HF1.out.mono ?_;rintro e w6 ⟨rfl,hb⟩;have HD6:=hid (HD5.out.bel hb);have HK6:=hid (HK5.out.bel hb);have HO6:=hid (qp HO5.out hb);have HPO6:=hid (hb.blk HPO.out);clear hb;obtain⟨R,hR⟩:∃ R,R=oneL (cs.drop k):=⟨_,rfl⟩
     rw[<- hR]at HF2;have HRR:=hid hR;clear hR;go_upto_region 11 with fail
     cases R with
     | err ee d=>
      go_cut [10,11] (fun v u wx=>∃ b10:Nat,v=.pointer (some ⟨b10,0,none⟩)/\u=.pointer (some ⟨b10+1,0,none⟩)/\Hid (w6.heap.size<=b10)/\Hid (Kr g w6 wx)/\Hid (wx.heap[b10+1]?=some (.cells #[.int .i64 ee,.int .i64 (((xs[k+d]?).map Pn.p).getD z0).a,.int .i64 (((xs[k+d]?).map Pn.p).getD z0).l,.int .i64 (((xs[k+d]?).map Pn.p).getD z0).c] 32 (0,0))))
      case first=>
       rcases HF0.out with rfl | rfl | rfl | rfl | rfl
       all_goals
        go_wp2_with fail
        refine (HF2.out _ HD6.out).mono ?_;rintro e7 w7 ⟨rfl,hk7,hr7⟩;have HK7:=hid hk7;have HR7:=hid hr7;clear hk7 hr7;unfold rdV erV;go_wp2_with fail
        go_meet
        exact⟨w7.heap.size,rfl,rfl,hid HK7.out.size,hid (HK7.out.bel (((Bel.refl _).alloc _).alloc _)),hid (blk2 w7 _ _).2⟩
      case rest=>
       obtain⟨b10,rfl,rfl,HBL,HK8,HDG⟩:=hcut;obtain⟨hne,hrs⟩:=qaT HTF.out.1 HTF.out.2 (by have:=HLN.out;omega) (by omega) HRR.out;rw[<- HXS.out]at hrs;obtain⟨pp,hpp⟩:∃ pp,pp=((xs[k+d]?).map Pn.p).getD z0:=⟨_,rfl⟩
       rw[<- hpp]at HDG hrs;have hT:TT=⟨[],ee,pp⟩:=by rw[HTR.out,hrs]
       subst hT;clear hrs hpp;have hKK:=HK6.out.on HK8.out;have HKK:=hid hKK;have hx0:=hKK.keep HQ2.out (by omega);have HX0:=hid hx0;have hne2:(ee==0)=false:=by simpa using hne
       clear hKK;have hwlt:=(Array.getElem?_eq_some_iff.1 hx0).1;obtain⟨d0,d1,d2,d3,g0,g1,g2,g3⟩:=qA HDG.out;obtain⟨e0,e1,e2,e3,m0,m1,m2,m3⟩:=qA hx0;clear hx0;go_wp2_with fail
       go_region
       go_wp2
       refine bodyPost_ret (v:= .tuple #[.slice none 0 0,.agg #[.int .i64 ee,pp.a,pp.l,pp.c]]) ?_ rfl ⟨?_,none,0,0,rfl,RTn.nil_,Nat.le_refl _⟩
       ·simp[results,Tryz.results7,go_sem, *]
       ·have hk:Bel w wc:=Kr.weak HB2.out HKK.out (by omega)
        repeat (first | with_reducible exact hk | with_reducible refine Bel.set_ ?_ (by simp) _ | with_reducible refine Bel.drew ?_)
     | ok t r=>
      go_cut [10,11] (fun v u wx=>∃ b10:Nat,v=.pointer (some ⟨b10,0,none⟩)/\u=.pointer (some ⟨b10+1,0,none⟩)/\Hid (w6.heap.size<=b10)/\Hid (Kr g w6 wx)/\Hid (wx.heap[b10]?=some (.cells #[.int .u8 t.k,.string ⟨(encs t.x).toArray⟩,t.n,(0:Int),(0:Int),(0:Int)] 37 (0,0)))/\Hid (wx.heap[b10+1]?=some (.cells #[.int .i64 0,(0:Int),(0:Int),(0:Int)] 32 (0,0)))/\Hid (∃ k2,r=cs.drop k2/\k<=k2/\Rdr wx g (some ⟨b,off,none⟩) n c xs k2))
      case first=>
       rcases HF0.out with rfl | rfl | rfl | rfl | rfl
       all_goals
        go_wp2_with fail
        refine (HF2.out _ HD6.out).mono ?_;rintro e7 w7 ⟨rfl,hk7,hr7⟩;have HK7:=hid hk7;have HR7:=hid hr7;clear hk7 hr7;unfold rdV tkV;go_wp2_with fail
        go_meet
        exact⟨w7.heap.size,rfl,rfl,hid HK7.out.size,hid (HK7.out.bel (((Bel.refl _).alloc _).alloc _)),hid (blk2 w7 _ _).1,hid (blk2 w7 _ _).2,hid (by obtain⟨k2,e1,e2,e3⟩:=HR7.out t r rfl;rw[HMAP.out]at e1;exact⟨k2,e1,e2,e3.bel (((Bel.refl _).alloc _).alloc _)⟩)⟩
      case rest=>
       obtain⟨b10,rfl,rfl,HBL,HK8,HTB,HDG,HRK⟩:=hcut;obtain⟨k2,rfl,hk2,hd2⟩:=HRK.out;have hk2n:=hd2.le;have HD8:=hid hd2;have hbp:bp<w6.heap.size:=(Array.getElem?_eq_some_iff.1 HPO6.out).1;have hbp2:=HBP.out;have hbl2:=HBL.out;have hpo8:=HK8.out.keep HPO6.out (by omega);have hxp:x.p=ends p0 (cs.take k):=by
        have e:=HX.out;obtain⟨cc,hcc⟩:∃ cc,cs[k]?=some cc:=⟨_,List.getElem?_eq_getElem (by have:=HLN.out;omega)⟩
        rw[HXS.out,QU p0 cs k cc hcc]at e;rw[<- Option.some.inj e]
       have HXP:=hid hxp;obtain⟨⟨t0,t1,t2,t3,t4,t5⟩,f0,f1,f2,f3,f4,f5⟩:=qk HTB.out;obtain⟨d0,d1,d2,d3,g0,g1,g2,g3⟩:=qA HDG.out;obtain⟨p0',p1',p2',-⟩:=jo hpo8;have hb1:b10<wc.heap.size:=(Array.getElem?_eq_some_iff.1 HTB.out).1;have hbb1:bp<wc.heap.size:=(Array.getElem?_eq_some_iff.1 hpo8).1;have hnb:bp≠b10:=by omega
       have hgb:g<b10:=by omega
       clear hd2 hxp hpo8;go_upto_region 15 with fail
       refine Zh ?_;intro W hW;have hfa:W.heap[b10]?=some (.cells #[.int .u8 t.k,.string ⟨(encs t.x).toArray⟩,t.n,x.p.a,x.p.l,x.p.c] 37 (0,0))/\Kr g w6 W/\Rdr W g (some ⟨b,off,none⟩) n c xs k2:=by
        rw[hW];exact⟨by simp[World.setCell,Array.getElem?_modify,HTB.out],((HK8.out.setN hbl2 _).setN hbl2 _).setN hbl2 _,((HD8.out.setN hgb _).setN hgb _).setN hgb _⟩
       obtain⟨hf1,hf2,hf3⟩:=hfa;have HF1:=hid hf1;have HKW:=hid (HK6.out.on hf2);have HDW:=hid hf3;have HOW2:=hid (qfV HO6.out hf2 (Nat.lt_succ_self g));have hgW:g+1<=W.heap.size:=hf3.lt;have HGW:=hid hgW;have hm4:m<=1000000000:=by have:=HMK.out;omega
       clear hW hf1 hf2 hf3 t0 t1 t2 t3 t4 t5 f0 f1 f2 f3 f4 f5 d0 d1 d2 d3 g0 g1 g2 g3 p0' p1' p2';obtain⟨⟨t0,t1,t2,t3,t4,t5⟩,-⟩:=qk HF1.out;go_wp2_with (at_builtin;refine qr rfl _ _ 28 rfl (g+1) 37 _ 6 56 Tryz.underlying28 qe6 rfl (by decide) (by decide) A2 m c2 _ rfl (HOW2.out.alloc _) W.heap.size [.int .u8 t.k,.string ⟨(encs t.x).toArray⟩,t.n,x.p.a,x.p.l,x.p.c] rfl rfl (by exact qgV W _ _) (by simp[Value.oneCell']) hm4 (Nat.le_trans HGW.out (by simp)) ?_;intro A5 c5 w5 hown5 hg5;(have HO5:=hid hown5);(have HG5:=hid hg5);clear hown5 hg5)
       have HB5':=hid (j4 HOW2.out HG5.out HGW.out);have HD5':=hid (HDW.out.below_ HB5'.out (Nat.lt_succ_self g));have HK5':=hid (HKW.out.below_ HB5'.out (by have:=HS2.out;have:=HG.out;omega));refine (HSK.out _ _ HD5'.out).mono ?_;rintro e9 w9 ⟨rfl,k3,hk3,hd9,hs9,hk9⟩;have hk3n:=hd9.le;have htk:=qcp HCP.out HTF.out.1 HTF.out.2 (by have:=HLN.out;omega) (by omega) HRR.out hk2 (by have:=HLN.out;omega) hs9 hk3 (by have:=HLN.out;omega);have HTN:=hid htk.2;have hlt2:=htk.1;have HD9:=hid hd9;have HK9:=hid (HK5'.out.on hk9);have HO9:=hid (qfV HO5.out hk9 (Nat.lt_succ_self g));clear htk hd9 hs9 hk9 t0 t1 t2 t3 t4 t5;go_wp2
       have hmk:=HMK.out;go_roundg (gk-1)
       case rel=>exact⟨k3,m+1,A5,c5,f-1,done++[(t,k)],rfl,hid ⟨by omega,by omega,by omega⟩,HD9,hid (by rw[List.map_append,List.map_cons,List.map_nil,qbX];have h9:=HO9.out;rw[show (tn cs (t,k)).cells=[.int .u8 t.k,.string ⟨(encs t.x).toArray⟩,.int .i64 t.n,.int .i64 x.p.a,.int .i64 x.p.l,.int .i64 x.p.c] by rw[HXP.out];rfl];exact h9),HK9,HTN,hid (by omega)⟩
       case measure=>omega
   ·have hkn:k=n:=by omega
    subst hkn;have hm:∀ w',Rdr w' g A k c xs k->Calls Tryz.prog 22 #[.pointer (some ⟨g,0,none⟩)] w' fun e w2=>e=.returned (.bool false)/\Bel w' w2:=fun w' hd=>by have:=HM.out w' k hd;rwa [decide_eq_false hk]at this
    have HMT:=hid hm;have hnil:cs.drop k=[]:=List.drop_eq_nil_of_le (by have:=HLN.out;omega);have hT:TT=⟨done.map (tn cs),0,z0⟩:=by
     have e1:=HTF.out.1;obtain⟨f',rfl⟩:∃ f',f=f'+1:=⟨f-1,by omega⟩
     rw[hnil,ze (f:=f') (l:=[]) (o:=k) zl]at e1;rw[HTR.out,e1];show (⟨(done++[]).map (tn cs),0,z0⟩:To)=_
     rw[List.append_nil]
    subst hT;clear hm hnil;go_wp2_with fail
    refine (HMT.out _ HD.out).mono ?_;rintro e w4 ⟨rfl,hb⟩;have HK4:=hid (HK.out.bel hb);have hx0:=HK4.out.keep HQ2.out (by omega);have HRT:=hid (qp HOW.out hb);have hwg:w.heap.size<g+1:=by omega
    clear hb;obtain⟨e0,e1,e2,e3,m0,m1,m2,m3⟩:=qA hx0;have hwlt:=(Array.getElem?_eq_some_iff.1 hx0).1;clear hx0;go_wp2
    refine bodyPost_ret (v:= .tuple #[.slice A2 m c2,.agg #[.int .i64 0,(0:Int),(0:Int),(0:Int)]]) ?_ rfl ⟨?_,A2,m,c2,rfl,?_,qg1 HOW.out⟩
    ·simp[results,Tryz.results7,go_sem, *]
    ·have hk:Bel w w4:=Kr.weak HB2.out HK4.out (by omega)
     repeat (first | with_reducible exact hk | with_reducible refine Bel.set_ ?_ (by simp) _ | with_reducible refine Bel.drew ?_)
    ·exact RTn.of_own (qZ (qZ (qZ (qZ HRT.out hwg _) hwg _) hwg _) hwg _)
 ·have hoe2:(O.e==0)=false:=by simpa using hoe
  have htt:TT=⟨[],O.e,O.q⟩:=by rw[HTT.out,tokO,<- HO.out,if_neg hoe]
  have HT:=hid htt;obtain⟨d0,d1,d2,d3,g0,g1,g2,g3⟩:=qA HQ0.out;clear htt;go_wp2_with fail
  go_region
  go_wp2
  refine bodyPost_ret (v:= .tuple #[.slice none 0 0,.agg #[.int .i64 O.e,O.q.a,O.q.l,O.q.c]]) ?_ rfl ⟨?_,none,0,0,?_,?_,Nat.le_refl _⟩
  ·simp[results,Tryz.results7,go_sem, *]
  ·repeat (first | with_reducible exact HB1.out | with_reducible refine Bel.set_ ?_ (by simp) _ | with_reducible refine Bel.alloc ?_ _ | with_reducible refine Bel.drew ?_)
  ·rw[HT.out]
  ·rw[HT.out];exact RTn.nil_
theorem ZM{s:ByteArray}{cs:List Int}{rest:List UInt8}(h:Cps s.data.toList cs rest)(w:World):Calls Tryz.prog 7 #[.string s] w (GTo (tokO s.size cs rest) w):=
 (qaS h w).mono fun _ _ ⟨hb,A,n,c,he,hr,_⟩=>⟨hb,A,n,c,he,hr⟩
set_option maxHeartbeats 8000000
theorem fTok:((Tryz.prog.fieldsOf 37).toList.map fun f=>(f.name,f.type,f.offset))=[("Kind",5,0),("Text",9,1),("N",2,2),("At",30,3)]:=by kernel_rfl
theorem map4{α β:Type}{f:α->β}{l:List α}{x y z u:β}(h:l.map f=[x,y,z,u]):∃ a b c d,l=[a,b,c,d]/\f a=x/\f b=y/\f c=z/\f d=u:=by
 match l,h with
 | [a,b,c,d],h=>simp at h;exact⟨a,b,c,d,rfl,h.1,h.2.1,h.2.2.1,h.2.2.2⟩
theorem qid(x y:Tn)(w:World):(Op.equalIn 10000 37 (.agg #[.int .u8 x.k,.string ⟨x.s.toArray⟩,x.n,x.p.a,x.p.l,x.p.c]) (.agg #[.int .u8 y.k,.string ⟨y.s.toArray⟩,y.n,y.p.a,y.p.l,y.p.c])).run Tryz.prog w=.ok (samO true x y) w:=by
 rw[run_equalIn_struct w 9999 37 _ _ (by kernel_rfl) (by kernel_rfl)];obtain⟨a,b,c,d,e,ea,eb,ec,ed⟩:=map4 fTok;simp only[Prod.mk.injEq]at ea eb ec ed;obtain⟨a0,a1,a2⟩:=ea;obtain⟨b0,b1,b2⟩:=eb;obtain⟨c0,c1,c2⟩:=ec;obtain⟨d0,d1,d2⟩:=ed;rw[e];have p0:∀ x0 x1 x2 x3 x4 x5:Value,(part 5 #[x0,x1,x2,x3,x4,x5] 0).run Tryz.prog w=.ok x0 w:=fun _ _ _ _ _ _=>by kernel_rfl
 have p1:∀ x0 x1 x2 x3 x4 x5:Value,(part 9 #[x0,x1,x2,x3,x4,x5] 1).run Tryz.prog w=.ok x1 w:=fun _ _ _ _ _ _=>by kernel_rfl
 have p2:∀ x0 x1 x2 x3 x4 x5:Value,(part 2 #[x0,x1,x2,x3,x4,x5] 2).run Tryz.prog w=.ok x2 w:=fun _ _ _ _ _ _=>by kernel_rfl
 have p3:∀ x0 x1 x2 x3 x4 x5:Value,(part 30 #[x0,x1,x2,x3,x4,x5] 3).run Tryz.prog w=.ok (.agg #[x3,x4,x5]) w:=fun _ _ _ _ _ _=>by kernel_rfl
 have n0:¬ ("Kind" : String) = "_":=by decide +kernel
 have n1:¬ ("Text" : String) = "_":=by decide +kernel
 have n2:¬ ("N" : String) = "_":=by decide +kernel
 have n3:¬ ("At" : String) = "_":=by decide +kernel
 have g0:=run_equalIn_int (P:=Tryz.prog) w 9998 5 .u8 .u8 x.k y.k Tryz.underlying5;have g1:=run_equalIn_string (P:=Tryz.prog) w 9998 9 ⟨x.s.toArray⟩ ⟨y.s.toArray⟩ Tryz.underlying9;have g2:=run_equalIn_int (P:=Tryz.prog) w 9998 2 .i64 .i64 x.n y.n Tryz.underlying2;have g3:=qdg 9997 x.p y.p w;simp only[Op.eqFields,a0,a1,a2,b0,b1,b2,c0,c1,c2,d0,d1,d2,ne_eq,n0,n1,n2,n3,not_false_eq_true,if_true,Sem.run_bind,p0,p1,p2,p3,Result.andThen_ok,g0,g1,g2,g3,Sem.run_ite,Sem.run_pure];have hs:((⟨x.s.toArray⟩:ByteArray).toList==(⟨y.s.toArray⟩:ByteArray).toList)=decide (x.s=y.s):=by
  rw[Bool.eq_iff_iff,beq_iff_eq,decide_eq_true_iff,ByteArray.toList_eq,ByteArray.toList_eq]
 simp only[hs];obtain⟨k,s,n,p⟩:=x;obtain⟨k',s',n',p'⟩:=y;unfold samO;by_cases h1:k=k' <;> by_cases h2:s=s' <;> by_cases h3:n=n' <;> by_cases h4:p=p' <;> simp[h1,h2,h3,h4]
open Classical in
theorem qag(k:Int)(s:List UInt8)(n a l c:Int)(hs:s.length<=9223372036854775807)(h0:-9223372036854775808<=n)(h1:n<=9223372036854775807)(w:World)(htab:Tbl w) :
  Calls Tryz.prog 24 #[.agg #[.int .u8 k,.string ⟨s.toArray⟩,n,a,l,c]] w fun e w'=>e=.returned (.bool (decide (qv (k,s,n))))/\Bel w w':=by
 obtain⟨ans,hans⟩:∃ ans,ans=decide (qv (k,s,n)):=⟨_,rfl⟩
 rw[<- hans];have hb1:Bel w (w.alloc (.cells #[.int .u8 k,.string ⟨s.toArray⟩,n,a,l,c] 37)):=(Bel.refl w).alloc _;have q1:=blk1 w (.cells #[.int .u8 k,.string ⟨s.toArray⟩,n,a,l,c] 37);have HB1:=hid hb1;have HQ1:=hid q1;have HTB:=hid htab;by_cases k4:k=4
 ·have hv:Hid (∀ W,Bel w W->Calls Tryz.prog 60 #[.string ⟨s.toArray⟩] W fun e w'=>e=.returned (.bool (Lib.validD s))/\Bel W w'):=hid fun W hW=>qet s hs W (htab.bel hW)
  have ha:ans=(decide (n=0)&&Lib.validD s):=by
   rw[hans,Bool.eq_iff_iff,decide_eq_true_iff,Bool.and_eq_true,decide_eq_true_iff,qeu];unfold qv;simp only[k4];constructor
   ·rintro (⟨h,_⟩ | ⟨h,_⟩ | ⟨h,_⟩ | ⟨_,h,h2⟩ | ⟨h,_⟩ | ⟨h,_⟩)
    all_goals first | exact absurd h (by decide) | exact⟨h2,h⟩
   ·rintro⟨h2,h⟩;exact .inr (.inr (.inr (.inl ⟨trivial,h,h2⟩)))
  have HA:=hid ha;clear ha hans hb1 q1 htab;subst k4;go_enter Tryz.func24,Tryz.ntmps24
  by_cases hn:n=0
  ·subst hn
   have ha:ans=Lib.validD s:=by rw[HA.out];simp
   subst ha;go_wp2_with (go_at_call 60;refine (hv.out _ HB1.out).mono ?_;rintro e w2 ⟨rfl,hb2⟩;(have HB2:=hid hb2);clear hb2)
   go_ret
   exact⟨rfl,HB1.out.on HB2.out⟩
  ·have dn:(n==0)=false:=by simp[hn]
   have ha:ans=false:=by rw[HA.out];simp[hn]
   subst ha;go_wp2
   go_ret
   exact⟨rfl,HB1.out⟩
 ·have hwr:Hid (∀ W,Bel w W->Calls Tryz.prog 28 #[.agg #[.int .u8 k,.string ⟨s.toArray⟩,n,a,l,c]] W fun e w'=>e=.returned (.string ⟨(wriB k s n).toArray⟩)/\Bel W w'):=hid fun W hW=>jY k s n a l c k4 h0 h1 W (htab.bel hW)
  obtain⟨wr,hwrq⟩:∃ wr,wr=wriB k s n:=⟨_,rfl⟩
  rw[<- hwrq]at hwr;obtain⟨cs,rest,hc⟩:=qbc _ wr (Nat.le_refl _);have hiff:=qhi (k:=k) (n:=n) (s:=s) (wr:=wr) (rest:=rest) (cs:=cs) k4 (fun hn0=>by
   rw[hwrq];unfold wriB putB;by_cases k3:k=3
   ·rw[if_pos k3,if_pos k3,qbj hn0]
   ·rw[if_neg k3,if_neg k3,if_neg k4]) hc
  obtain⟨O,hO⟩:∃ O,O=tokO wr.length cs rest:=⟨_,rfl⟩
  rw[<- hO]at hiff;have HTO:Hid (∀ W,Calls Tryz.prog 7 #[.string ⟨wr.toArray⟩] W (GTo O W)):=hid fun W=>by
   have:=ZM (s:=⟨wr.toArray⟩) (cs:=cs) (rest:=rest) hc W;rw[show (⟨wr.toArray⟩:ByteArray).size=wr.length by simp[ByteArray.size],<- hO]at this;exact this
  have ha:ans=decide (O.e=0/\O.l.map Tn.b=[(k,s,n)]):=by rw[hans];exact decide_eq_decide.2 hiff.symm
  have HA:=hid ha;have d4:(k==4)=false:=by simp[k4]
  clear ha hans hb1 q1 htab hwrq hc hiff hO;go_enter Tryz.func24,Tryz.ntmps24
  obtain⟨⟨t0,t1,t2,t3,t4,t5⟩,f0,f1,f2,f3,f4,f5⟩:=qk HQ1.out;go_wp2_with fail
  refine (hwr.out _ HB1.out).mono ?_;rintro e w2 ⟨rfl,hb2⟩;have HQ2:=hid (hb2.blk HQ1.out);have HB2:=hid (HB1.out.on hb2);clear hb2 t0 t1 t2 t3 t4 t5 f0 f1 f2 f3 f4 f5;go_wp2_with fail
  refine (HTO.out _).mono ?_;rintro e w3 ⟨hb3,A,m,cc,rfl,hrt⟩;have HQ3:=hid (hb3.blk HQ2.out);have HB3:=hid (HB2.out.on hb3);have HRT:=hid hrt;have hml:=hrt.1;have HML:=hid hml;clear hb3 hrt;by_cases he:O.e=0
  ·by_cases hm1:m=1
   ·subst hm1
    obtain⟨b,off,rfl,hb,hcc⟩:=HRT.out.2 (by omega);obtain⟨x,hx⟩:∃ x,O.l=[x]:=by
     match hl:O.l,hml with
     | [x],_=>exact⟨x,rfl⟩
    have hx0:=hcc 0 x (by rw[hx];rfl);have HX:=hid hx;obtain⟨x0,x1,x2,x3,x4,x5⟩:=hx0;simp only[Nat.zero_mul,Nat.add_zero]at x0 x1 x2 x3 x4 x5;have hqlt:=(Array.getElem?_eq_some_iff.1 HQ3.out).1;clear hcc hml hx;obtain⟨⟨t0,t1,t2,t3,t4,t5⟩,f0,f1,f2,f3,f4,f5⟩:=qk HQ3.out;go_wp2_with fail
    refine Zh ?_;intro W hW;have HBW:Hid (Bel w W):=by
     rw[hW];exact hid ((((HB3.out.set_ (Nat.le_refl _) _).set_ (Nat.le_refl _) _).set_ (Nat.le_refl _) _).alloc _)
    have HQ7:Hid (W.heap[w.heap.size]?=some (.cells #[.int .u8 k,.string ⟨s.toArray⟩,n,x.p.a,x.p.l,x.p.c] 37 (0,0))):=by
     rw[hW];exact hid (Bel.blk ((Bel.refl _).alloc _) (Joins.block_setCell (Joins.block_setCell (Joins.block_setCell HQ3.out _) _) _))
    have HXW:Hid (TnAt W b off x):=by
     by_cases hbb:b=w.heap.size
     ·subst hbb
      have ho:off=0:=by
       have:=x5;unfold World.cell? at this;rw[HQ3.out]at this;have:=(Array.getElem?_eq_some_iff.1 this).1;simp at this;omega
      subst ho;obtain⟨⟨u0,u1,u2,u3,u4,u5⟩,-⟩:=qk HQ7.out;simp only[Nat.zero_add]at x0 x1 x2 x3 x4 x5;have e0:=x0.symm.trans t0;have e1:=x1.symm.trans t1;have e2:=x2.symm.trans t2;exact hid ⟨u0.trans e0.symm,u1.trans e1.symm,u2.trans e2.symm,u3,u4,u5⟩
     ·have key:∀ o,W.cell? ⟨b,o,none⟩=w3.cell? ⟨b,o,none⟩:=fun o=>by
       rw[hW];unfold World.cell?
       rw[show ∀ (V:World) (o:Obj),b<V.heap.size->(V.alloc o).heap[b]?=V.heap[b]? from fun V o h=>((Bel.refl V).alloc o).block b h]
       ·rw[Below.heap_setCell _ _ _ _ hbb,Below.heap_setCell _ _ _ _ hbb,Below.heap_setCell _ _ _ _ hbb]
       ·exact Nat.lt_of_lt_of_le hb (by simp[World.setCell])
      exact hid ⟨(key _).trans x0,(key _).trans x1,(key _).trans x2,(key _).trans x3,(key _).trans x4,(key _).trans x5⟩
    have ha:ans=samO true x ⟨k,s,n,x.p⟩:=by
     rw[HA.out,HX.out];unfold samO Tn.b;simp[he,Bool.and_assoc]
    have hq:∀ w,(Op.equalIn 10000 37 (.agg #[.int .u8 x.k,.string ⟨x.s.toArray⟩,x.n,x.p.a,x.p.l,x.p.c]) (.agg #[.int .u8 k,.string ⟨s.toArray⟩,n,x.p.a,x.p.l,x.p.c])).run Tryz.prog w=.ok ans w:=fun w=>by rw[ha];exact qid x ⟨k,s,n,x.p⟩ w
    clear hW x0 x1 x2 x3 x4 x5 t0 t1 t2 t3 t4 t5 f0 f1 f2 f3 f4 f5 hb ha;obtain⟨x0,x1,x2,x3,x4,x5⟩:=HXW.out;obtain⟨⟨t0,t1,t2,t3,t4,t5⟩,-⟩:=qk HQ7.out;go_region
    go_wp2
    go_ret
    exact⟨rfl,HBW.out.drew⟩
   ·have ha:ans=false:=by
     rw[HA.out];refine decide_eq_false_iff_not.2 fun h=>hm1 ?_;have:=congrArg List.length h.2;rw[List.length_map]at this;rw[HML.out,this];rfl
    subst ha;have dm:((m:Int)==1)=false:=by simp;omega
    obtain⟨⟨t0,t1,t2,t3,t4,t5⟩,f0,f1,f2,f3,f4,f5⟩:=qk HQ3.out;go_wp2
    go_ret
    exact⟨rfl,HB3.out.alloc _⟩
  ·have ha:ans=false:=by
    rw[HA.out];exact decide_eq_false_iff_not.2 fun h=>he h.1
   subst ha;have de:(O.e==0)=false:=by simp[he]
   obtain⟨⟨t0,t1,t2,t3,t4,t5⟩,f0,f1,f2,f3,f4,f5⟩:=qk HQ3.out;go_wp2
   go_ret
   exact⟨rfl,HB3.out.alloc _⟩
end Go.Proofs.YtfpoelklhekfaaaGreatDoor.Mu
