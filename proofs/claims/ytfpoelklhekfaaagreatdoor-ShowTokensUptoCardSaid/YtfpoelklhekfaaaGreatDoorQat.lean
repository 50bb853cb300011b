import Derived.Lib.ItoaLen
import Derived.Test.YtfpoelklhekfaaaGreatDoorQag
import Derived.Test.YtfpoelklhekfaaaGreatDoorQan
import Derived.Test.YtfpoelklhekfaaaGreatDoorQao
import Derived.Test.YtfpoelklhekfaaaGreatDoorQas
open Go.Lib (hid)
namespace Go.Proofs.YtfpoelklhekfaaaGreatDoor.Mu
open Go.RowKit Go.Shelf
set_option maxRecDepth 100000
theorem Zl(t:Int × List UInt8 × Int):∀ (ts:List (Int × List UInt8 × Int)),ts≠[]->qg (ts++[t])=qg ts++([32]++putB t.1 t.2.1 t.2.2)
 | [],h=>absurd rfl h
 | [u],_=>by simp[qg]
 | u::v::ts,_=>by
  have ih:=Zl t (v::ts) (by simp);simp only[List.cons_append]at ih ⊢;simp only[qg,ih];simp
theorem jD{ts:List (Int × List UInt8 × Int)}{j:Nat}{x:Int × List UInt8 × Int}(hx:ts[j]?=some x):qg (ts.take (j+1))=qg (ts.take j)++((if 0<j then [32] else [])++putB x.1 x.2.1 x.2.2):=by
 have hlt:=(List.getElem?_eq_some_iff.1 hx).1;rw[List.take_succ_eq_append_getElem hlt,(List.getElem?_eq_some_iff.1 hx).2];rcases Nat.eq_zero_or_pos j with h0 | h0
 ·subst h0;simp[qg]
 ·rw[if_pos h0]
  exact Zl x _ (by intro h;have:=congrArg List.length h;rw[List.length_take,List.length_nil]at this;omega)
theorem Zk(ts:List (Int × List UInt8 × Int)):∀ (d j:Nat),j+d=ts.length->(qg (ts.take j)).length<=(qg ts).length
 | 0,j,h=>by rw[List.take_of_length_le (by omega)];exact Nat.le_refl _
 | d+1,j,h=>by
  have ih:=Zk ts d (j+1) (by omega);rw[jD (List.getElem?_eq_getElem (by omega:j<ts.length)),List.length_append]at ih;omega
theorem qg2{t:Int × List UInt8 × Int}(h:qv t):t.2.1.length<=(putB t.1 t.2.1 t.2.2).length:=by
 obtain⟨k,s,n⟩:=t;unfold putB;by_cases k3:k=3
 ·have hs:s=[]:=by
   unfold qv at h;simp only[k3]at h;rcases h with ⟨h,_⟩ | ⟨h,_⟩ | ⟨_,_,_,h⟩ | ⟨h,_⟩ | ⟨h,_⟩ | ⟨h,_⟩
   all_goals first | exact absurd h (by decide) | exact h
  simp[hs]
 ·by_cases k4:k=4
  ·have:=(j6 s).1
   rw[if_neg k3,if_pos k4,List.length_cons,List.length_append];show s.length<=(s.flatMap escB).length+_+1
   omega
  ·rw[if_neg k3,if_neg k4];exact Nat.le_refl _
theorem qhs{t:Int × List UInt8 × Int}(h:qv t):wriB t.1 t.2.1 t.2.2=putB t.1 t.2.1 t.2.2:=by
 obtain⟨k,s,n⟩:=t;unfold putB wriB;by_cases k3:k=3
 ·have hn:0<=n:=by
   unfold qv at h;simp only[k3]at h;rcases h with ⟨h,_⟩ | ⟨h,_⟩ | ⟨_,h,_⟩ | ⟨h,_⟩ | ⟨h,_⟩ | ⟨h,_⟩
   all_goals first | exact absurd h (by decide) | exact h
  simp only[k3,if_true];exact qbj hn
 ·simp only[k3,if_false]
theorem qdd{ts:List (Int × List UInt8 × Int)}{j:Nat}{x:Int × List UInt8 × Int}(hx:ts[j]?=some x)(h:qv x):(qg (ts.take j)).length+x.2.1.length<=(qg ts).length:=by
 have hlt:=(List.getElem?_eq_some_iff.1 hx).1;have h1:=Zk ts (ts.length-(j+1)) (j+1) (by omega);rw[jD hx,List.length_append,List.length_append]at h1;have:=qg2 h;omega
theorem BufF.bel{base b:Nat}{bs:List UInt8}{w w':World}(h:BufF base b bs w)(hb:Bel w w'):BufF base b bs w':=by
 have key:∀ p,Lib.BuilderAtF 85 5 base b p (Lib.byteCells bs) w->Lib.BuilderAtF 85 5 base b p (Lib.byteCells bs) w':=by
  rintro p ⟨hB,v,hbk,hown,hne⟩;refine⟨hB,v,hb.blk hbk,⟨hown.1,?_⟩,hne⟩;rcases hown.2 with h0 | ⟨g,cap,cur,fz,e,hg,hc,r⟩
  ·exact .inl h0
  ·exact .inr ⟨g,cap,cur,fz,e,hg,hb.blk hc,r⟩
 rcases h with h | h
 ·exact .inl (key _ h)
 ·exact .inr (key _ h)
theorem BufF.new_{base b:Nat}{w:World}(hB:base<=b)(hb:w.heap[b]?=some (.cells #[.pointer none,.slice none 0 0] 85 (0,0))):BufF base b [] w:=
 .inl ⟨hB,_,hb,⟨rfl,.inl ⟨rfl,rfl⟩⟩,by simp[Value.ownBlock]⟩
set_option maxHeartbeats 8000000
theorem qif{ts:List (Int × List UInt8 × Int)}{t:Int × List UInt8 × Int}(h:t∈ts)(hm:¬ qv t):wrO ts=([],2):=by
 unfold wrO;rw[if_neg fun h'=>hm (h' t h)]
theorem qbD{ts:List (Int × List UInt8 × Int)}(h:∀ t∈ts,qv t)(hl:4000<(qg ts).length):wrO ts=([],3):=by
 unfold wrO;rw[if_pos h,if_neg (by omega)]
theorem qhp{ts:List (Int × List UInt8 × Int)}(h:∀ t∈ts,qv t)(hl:(qg ts).length<=4000):wrO ts=(qg ts,0):=by
 unfold wrO;rw[if_pos h,if_pos hl]
theorem qhr{k:Int}{s:List UInt8}{n:Int}(h0:-9223372036854775808<=n)(h1:n<=9223372036854775807):(wriB k s n).length<=2*s.length+30:=by
 unfold wriB;by_cases k3:k=3
 ·rw[if_pos k3]
  have:=Lib.itoa_length_le n h0 h1;omega
 ·rw[if_neg k3]
  by_cases k4:k=4
  ·rw[if_pos k4,List.length_cons,List.length_append]
   have:=(j6 s).2;show (s.flatMap escB).length+1+1<=_
   omega
  ·rw[if_neg k4];omega
open Classical in
theorem jC{A:Option Addr}{n cp:Nat}{xs:List Tn}(w:World)(htab:Tbl w)(hr:RTn w w.heap.size A n xs)(hn:n<=140737488355328)(hx:∀ x∈xs,x.s.length<=140737488355328/\-9223372036854775808<=x.n/\x.n<=9223372036854775807) :
  Calls Tryz.prog 8 #[.slice A n cp] w fun e w'=>e=.returned (.tuple #[.string ⟨(wrO (xs.map Tn.b)).1.toArray⟩,.int .i64 (wrO (xs.map Tn.b)).2])/\Bel w w':=by
 obtain⟨RS,hRS⟩:∃ RS,RS=(wrO (xs.map Tn.b)).1:=⟨_,rfl⟩
 obtain⟨RE,hRE⟩:∃ RE,RE=(wrO (xs.map Tn.b)).2:=⟨_,rfl⟩
 rw[<- hRS,<- hRE];have HRS:=hid hRS;have HRE:=hid hRE;have HTB:=hid htab;have HR:=hid hr;have HX:=hid hx;have hlen:=hr.1;have HLEN:=hid hlen;have HIS:Hid (∀ (j:Nat) (x:Tn),xs[j]?=some x->∀ W,Bel w W->Calls Tryz.prog 24 #[.agg #[.int .u8 x.k,.string ⟨x.s.toArray⟩,x.n,x.p.a,x.p.l,x.p.c]] W fun e w'=>e=.returned (.bool (decide (qv x.b)))/\Bel W w'):=hid fun j x hj W hW=>by
  obtain⟨b1,b2,b3⟩:=hx x (List.mem_of_getElem? hj);exact qag x.k x.s x.n x.p.a x.p.l x.p.c (by omega) b2 b3 W (htab.bel hW)
 have HWR:Hid (∀ (j:Nat) (x:Tn),xs[j]?=some x->x.s.length<=100000->∀ W,Bel w W->Calls Tryz.prog 28 #[.agg #[.int .u8 x.k,.string ⟨x.s.toArray⟩,x.n,x.p.a,x.p.l,x.p.c]] W fun e w'=>e=.returned (.string ⟨(wriB x.k x.s x.n).toArray⟩)/\Bel W w'):=hid fun j x hj hs W hW=>by
  obtain⟨b1,b2,b3⟩:=hx x (List.mem_of_getElem? hj);exact qaZ x.k x.s x.n x.p.a x.p.l x.p.c (fun _=>hs) b2 b3 W (htab.bel hW)
 clear hRS hRE htab hr hx hlen;go_enter Tryz.func8,Tryz.ntmps8
 go_wp2_with fail
 go_loopg [11] (n+1) (fun gk v wr=>∃ j:Nat,v=.int .i64 (j:Int)/\Hid (j<=n/\n-j<gk)/\Hid (∀ t∈(xs.map Tn.b).take j,qv t)/\Hid (Bel w wr))
 case atStart=>
  exact⟨0,rfl,hid ⟨by omega,by omega⟩,hid (by simp),hid (Bel.refl w)⟩
 case round=>
  obtain⟨j,rfl,HJ,HM,HB⟩:=hrel;by_cases hj:j<n
  ·obtain⟨x,hx⟩:∃ x,xs[j]?=some x:=⟨_,List.getElem?_eq_getElem (by have:=HLEN.out;omega)⟩
   obtain⟨b,off,rfl,hb,hcc⟩:=(HR.out.bel HB.out).2 (by omega);obtain⟨x0,x1,x2,x3,x4,x5⟩:=hcc j x hx;have HXX:=hid hx;clear hcc hx;go_wp2_with fail
   refine (HIS.out j x HXX.out _ (HB.out.alloc _)).mono ?_;rintro e w1 ⟨rfl,hb1⟩;have HB1:=hid ((HB.out.alloc _).on hb1);clear hb1 x0 x1 x2 x3 x4 x5;have hxb:(xs.map Tn.b)[j]?=some x.b:=by rw[List.getElem?_map,HXX.out];rfl
   have HXB:=hid hxb;clear hxb;by_cases hm:qv x.b
   ·rw[decide_eq_true hm]
    go_wp2
    go_roundg (gk-1)
    case rel=>
     refine⟨j+1,rfl,hid ⟨by omega,by have:=HJ.out;omega⟩,hid ?_,HB1⟩;have hlt:=(List.getElem?_eq_some_iff.1 HXB.out).1;rw[List.take_succ_eq_append_getElem hlt,(List.getElem?_eq_some_iff.1 HXB.out).2];intro t ht;rcases List.mem_append.1 ht with h | h
     ·exact HM.out t h
     ·rw[List.mem_singleton.1 h];exact hm
    case measure=>have:=HJ.out;omega
   ·rw[decide_eq_false hm]
    have hno:=qif (List.mem_of_getElem? HXB.out) hm;have e1:RS=[]:=by rw[HRS.out,hno]
    have e2:RE=2:=by rw[HRE.out,hno]
    clear hno;subst e1 e2;go_wp2
    go_ret2
    exact⟨rfl,HB1.out⟩
  ·have hjn:j=n:=by have:=HJ.out;omega
   subst hjn;have HALL:Hid (∀ t∈xs.map Tn.b,qv t):=by
    have:=HM.out;rw[List.take_of_length_le (by rw[List.length_map,<- HLEN.out];exact Nat.le_refl _)]at this;exact hid this
   clear HM HIS;go_wp2_with fail
   obtain⟨w0,hw0⟩:∃ w0,w0=wr:=⟨_,rfl⟩
   subst hw0;have HN0:=hid ((Bel.refl w0).alloc (.cells #[.pointer none,.slice none 0 0] 85));have HSZ:=hid HB.out.size;go_loopg [21] (j+1) (fun gk v wr=>∃ i:Nat,v=.int .i64 (i:Int)/\Hid (i<=j/\j-i<gk)/\Hid (BufF w.heap.size w0.heap.size (qg ((xs.map Tn.b).take i)) wr/\(qg ((xs.map Tn.b).take i)).length<=20000/\w0.heap.size<wr.heap.size)/\Hid (Bel w wr))
   case atStart=>
    refine⟨0,rfl,hid ⟨by omega,by omega⟩,hid ⟨?_,?_,?_⟩,hid (HB.out.alloc _)⟩
    ·exact BufF.new_ HSZ.out (blk1 w0 _)
    ·simp[qg]
    ·simp
   case round=>
    obtain⟨i,rfl,HI,HF,HC⟩:=hrel;by_cases hi:i<j
    ·obtain⟨x,hx⟩:∃ x,xs[i]?=some x:=⟨_,List.getElem?_eq_getElem (by have:=HLEN.out;omega)⟩
     obtain⟨b,off,rfl,hb,hcc⟩:=(HR.out.bel HC.out).2 (by omega);obtain⟨x0,x1,x2,x3,x4,x5⟩:=hcc i x hx;have HXX:=hid hx;clear hcc hx;go_wp2_with fail
     refine Zh ?_;intro W hW;have HCW:Hid (Bel w W):=by rw[hW];exact hid (HC.out.alloc _)
     have hrW:Bel wr W:=by rw[hW];exact (Bel.refl wr).alloc _
     have hqW:W.heap[wr.heap.size]?=some (.cells #[.int .u8 x.k,.string ⟨x.s.toArray⟩,x.n,x.p.a,x.p.l,x.p.c] 37 (0,0)):=by rw[hW];exact blk1 wr _
     have HQW:=hid hqW;obtain⟨bs,hbs⟩:∃ bs,bs=qg ((xs.map Tn.b).take i):=⟨_,rfl⟩
     have hf:=HF.out;rw[<- hbs]at hf;have HBS:=hid hbs;have HFW:=hid (hf.1.bel hrW);have hb20:=hf.2.1;have hw0r:=hf.2.2;have HL:Hid (∀ V,BufF w.heap.size w0.heap.size bs V->Calls Tryz.prog 25 #[.pointer (some ⟨w0.heap.size,0,none⟩)] V fun e w'=>e=.returned (.int .i64 (bs.length:Int))/\w'=V):=hid fun V h=>by
      have:=Tryz.Builder_Len_f _ _ _ V h;rw[Lib.byteCells_length]at this;exact this
     have hxs:=(HX.out x (List.mem_of_getElem? HXX.out)).1;obtain⟨S,hS⟩:∃ S,S=x.s.length:=⟨_,rfl⟩
     rw[<- hS]at hxs;have hsz:(⟨x.s.toArray⟩:ByteArray).size=S:=by rw[hS];simp[ByteArray.size]
     have HS:=hid hS;have hsum:IntKind.i64.wrap ((bs.length:Int)+(S:Int))=(bs.length:Int)+(S:Int):=by apply IntWalk.i64_in <;> omega
     clear hW hqW hbs hf hrW hS x0 x1 x2 x3 x4 x5 hb;obtain⟨⟨t0,t1,t2,t3,t4,t5⟩,-⟩:=qk HQW.out;have HLW:=hid (HL.out W.drew HFW.out);go_cut [31] (fun v wx=>Hid (v=.bool (decide (4000<(bs.length:Int)+(S:Int)))/\wx=W.drew))
     case first=>
      go_region_with (go_at_call 25;refine HLW.out.mono ?_;rintro e w' ⟨rfl,rfl⟩)
      all_goals go_wp2_with fail
      all_goals go_meet
      all_goals exact hid ⟨rfl,rfl⟩
     case rest=>
      obtain⟨rfl,rfl⟩:=hcut.out;have HXB:Hid ((xs.map Tn.b)[i]?=some x.b):=hid (by rw[List.getElem?_map,HXX.out];rfl);have HMX:=hid (HALL.out x.b (List.mem_of_getElem? HXB.out));clear HL HLW hsum hsz;by_cases hov:(4000:Int)<(bs.length:Int)+(S:Int)
      ·have hlong:4000<(qg (xs.map Tn.b)).length:=by
        have h1:=qdd HXB.out HMX.out;rw[<- HBS.out]at h1;have h2:x.b.2.1.length=S:=HS.out.symm;omega
       have hno:=qbD HALL.out hlong;have e1:RS=[]:=by rw[HRS.out,hno]
       have e2:RE=3:=by rw[HRE.out,hno]
       clear hno hlong;subst e1 e2;rw[decide_eq_true hov];go_wp2
       go_ret2
       exact⟨rfl,HCW.out.drew⟩
      ·rw[decide_eq_false hov]
       have hS4:S<=4000:=by omega
       have hb4:bs.length<=4000:=by omega
       have hsl:x.s.length<=4000:=by rw[<- HS.out];exact hS4
       clear hov;have HPL:Hid ((wriB x.k x.s x.n).length<=9000):=by
        have h2:=HX.out x (List.mem_of_getElem? HXX.out);have h3:=qhr (k:=x.k) (s:=x.s) h2.2.1 h2.2.2;exact hid (by omega)
       have HEQ:Hid (qg ((xs.map Tn.b).take (i+1))=bs++((if 0<i then [32] else [])++wriB x.k x.s x.n)):=by
        rw[HBS.out,jD HXB.out,show wriB x.k x.s x.n=putB x.b.1 x.b.2.1 x.b.2.2 from qhs HMX.out];exact hid rfl
       have HWX:=hid (fun V hV=>HWR.out i x HXX.out (by omega) V hV);obtain⟨P,hP⟩:∃ P,P=wriB x.k x.s x.n:=⟨_,rfl⟩
       rw[<- hP]at HPL HEQ HWX;have hpl:=HPL.out;have hsW:w0.heap.size<W.drew.heap.size:=by
        have h1:=(Array.getElem?_eq_some_iff.1 HQW.out).1;show w0.heap.size<W.heap.size
        omega
       have hwW:w.heap.size<=w0.heap.size:=HSZ.out;clear hP;by_cases h0:0<i
       ·have d0:decide ((0:Int)<(i:Int))=true:=decide_eq_true (by omega)
        have HE2:Hid (qg ((xs.map Tn.b).take (i+1))=bs++[32]++P):=hid (by rw[HEQ.out,if_pos h0,List.append_assoc]);clear HEQ;go_wp2_with fail
        refine (qfF w.heap.size w0.heap.size bs 32 32 rfl W.drew HFW.out (by omega) (by omega)).mono ?_;rintro e w3 ⟨rfl,hf3,hk3⟩;have HC3:Hid (Bel w w3):=hid (Below.trans HCW.out.drew hk3.1);have HF3:=hid hf3;have hq3:=hk3.2 wr.heap.size _ HQW.out (by intro e;injection e;omega) (by intro c fz e;injection e with e1 e2 e3;exact absurd e2 (by decide));have hs3:w0.heap.size<w3.heap.size:=Nat.lt_of_lt_of_le hsW hk3.1.size;clear t0 t1 t2 t3 t4 t5 hf3 hk3 d0;obtain⟨⟨t0,t1,t2,t3,t4,t5⟩,-⟩:=qk hq3;clear hq3;go_wp2_with fail
        refine (HWX.out _ HC3.out).mono ?_;rintro e w4 ⟨rfl,hb4'⟩;have HC4:=hid (HC3.out.on hb4');have HF4:=hid (HF3.out.bel hb4');have hs4:w0.heap.size<w4.heap.size:=Nat.lt_of_lt_of_le hs3 hb4'.size;clear hb4' t0 t1 t2 t3 t4 t5;go_wp2_with fail
        refine (qbG w.heap.size w0.heap.size (bs++[32]) P w4 HF4.out (by rw[List.length_append];simp only[List.length_cons,List.length_nil];omega) (by omega)).mono ?_;rintro e w5 ⟨rfl,hf5,hk5⟩;have HC5:Hid (Bel w w5):=hid (Below.trans HC4.out hk5.1);have HF5:=hid hf5;have hs5:w0.heap.size<w5.heap.size:=Nat.lt_of_lt_of_le hs4 hk5.1.size;clear hf5 hk5;go_wp2
        go_roundg (gk-1)
        case rel=>
         refine⟨i+1,rfl,hid ⟨by omega,by have:=HI.out;omega⟩,hid ⟨?_,?_,hs5⟩,HC5⟩
         ·rw[HE2.out];exact HF5.out
         ·rw[HE2.out,List.length_append,List.length_append];simp only[List.length_cons,List.length_nil];omega
        case measure=>have:=HI.out;omega
       ·have d0:decide ((0:Int)<(i:Int))=false:=decide_eq_false (by omega)
        have HE2:Hid (qg ((xs.map Tn.b).take (i+1))=bs++[]++P):=hid (by rw[HEQ.out,if_neg h0,List.append_assoc]);clear HEQ;obtain⟨w3,hw3⟩:∃ w3,w3=W.drew:=⟨_,rfl⟩
        have HC3:Hid (Bel w w3):=by rw[hw3];exact hid HCW.out.drew
        have HF3:Hid (BufF w.heap.size w0.heap.size (bs++[]) w3):=by rw[hw3,List.append_nil];exact hid HFW.out
        have hs3:w0.heap.size<w3.heap.size:=by rw[hw3];exact hsW
        rw[<- hw3];have hq3:w3.heap[wr.heap.size]?=some (.cells #[.int .u8 x.k,.string ⟨x.s.toArray⟩,x.n,x.p.a,x.p.l,x.p.c] 37 (0,0)):=by rw[hw3];exact HQW.out
        clear t0 t1 t2 t3 t4 t5 hw3;obtain⟨⟨t0,t1,t2,t3,t4,t5⟩,-⟩:=qk hq3;clear hq3;go_wp2_with fail
        refine (HWX.out _ HC3.out).mono ?_;rintro e w4 ⟨rfl,hb4'⟩;have HC4:=hid (HC3.out.on hb4');have HF4:=hid (HF3.out.bel hb4');have hs4:w0.heap.size<w4.heap.size:=Nat.lt_of_lt_of_le hs3 hb4'.size;clear hb4' t0 t1 t2 t3 t4 t5;go_wp2_with fail
        refine (qbG w.heap.size w0.heap.size (bs++[]) P w4 HF4.out (by rw[List.length_append];simp only[List.length_nil];omega) (by omega)).mono ?_;rintro e w5 ⟨rfl,hf5,hk5⟩;have HC5:Hid (Bel w w5):=hid (Below.trans HC4.out hk5.1);have HF5:=hid hf5;have hs5:w0.heap.size<w5.heap.size:=Nat.lt_of_lt_of_le hs4 hk5.1.size;clear hf5 hk5;go_wp2
        go_roundg (gk-1)
        case rel=>
         refine⟨i+1,rfl,hid ⟨by omega,by have:=HI.out;omega⟩,hid ⟨?_,?_,hs5⟩,HC5⟩
         ·rw[HE2.out];exact HF5.out
         ·rw[HE2.out,List.length_append,List.length_append];simp only[List.length_nil];omega
        case measure=>have:=HI.out;omega
    ·have hin:i=j:=by have:=HI.out;omega
     subst hin;obtain⟨bs,hbs⟩:∃ bs,bs=qg (xs.map Tn.b):=⟨_,rfl⟩
     have hf:=HF.out;rw[List.take_of_length_le (by rw[List.length_map,<- HLEN.out];exact Nat.le_refl _),<- hbs]at hf;have HBS:=hid hbs;have HFW:=hid hf.1;have hl2:bs.length<=20000:=hf.2.1;have hbw:w.heap.size<=wr.heap.size:=HC.out.size;have HL:Hid (Calls Tryz.prog 25 #[.pointer (some ⟨w0.heap.size,0,none⟩)] wr fun e w'=>e=.returned (.int .i64 (bs.length:Int))/\w'=wr):=by
      have:=Tryz.Builder_Len_f _ _ _ wr HFW.out;rw[Lib.byteCells_length]at this;exact hid this
     have HST:Hid (Calls Tryz.prog 29 #[.pointer (some ⟨w0.heap.size,0,none⟩)] wr fun e w'=>e=.returned (.string ⟨bs.toArray⟩)/\Bel w w'):=
      hid ((Tryz.Builder_String_any_f _ _ bs wr HFW.out hbw).mono fun e w' h=>⟨h.1,Below.trans HC.out h.2.2⟩)
     clear hf hbs;go_wp2_with fail
     refine HL.out.mono ?_;rintro e w' ⟨rfl,hww⟩;subst hww;by_cases hov:(4000:Int)<(bs.length:Int)
     ·have hno:=qbD HALL.out (by rw[<- HBS.out];omega)
      have e1:RS=[]:=by rw[HRS.out,hno]
      have e2:RE=3:=by rw[HRE.out,hno]
      clear hno;subst e1 e2;have d0:=decide_eq_true hov;go_wp2
      go_ret2
      exact⟨rfl,HC.out⟩
     ·have hno:=qhp HALL.out (by rw[<- HBS.out];omega)
      have e1:RS=bs:=by rw[HRS.out,hno,HBS.out]
      have e2:RE=0:=by rw[HRE.out,hno]
      clear hno;subst e1 e2;have d0:=decide_eq_false hov;go_wp2_with fail
      refine HST.out.mono ?_;rintro e w3 ⟨rfl,hb3⟩;have HB3:=hid hb3;clear hb3;go_wp2
      go_ret2
      exact⟨rfl,HB3.out⟩
end Go.Proofs.YtfpoelklhekfaaaGreatDoor.Mu
namespace Go.Proofs.YtfpoelklhekfaaaGreatDoor.Mu
set_option maxHeartbeats 1000000
open Go Go.RowKit Go.Shelf
attribute [local go_sem] Oper.semAt_some
set_option linter.unusedVariables false
set_option maxRecDepth 100000
theorem ZJ(P:Program)(a:Addr)(w:World):(asAddr (.pointer (some a))).run P w=.ok a w:=rfl
theorem qe{fn:Func}{t u:Tmp}{ty:TypeId}(h:fn.results=#[.cell t ty,.tmp u])(tmps:Array Value)(P:Program)(w:World){a:Addr}{v:Value}(ha:tmps.getD t undef=.pointer (some a))(hv:(loadVar ty a).run P w=.ok v w) :
  (results fn tmps).run P w=.ok (.tuple #[v,tmps.getD u undef]) w:=by
 have ha':tmps[t]?.getD undef=.pointer (some a):=by rw[<- Array.getD_eq_getD_getElem?];exact ha
 simp[results,h,ha',hv,ZJ,Sem.run_bind,Result.andThen]
def btwL:List (List UInt8):=[[60],[61,61],[43,43],[43],[45],[42],[47],[37]]
def btwB(s:List UInt8):Bool:=decide (s∈btwL)
def exR(k:Int)(s:List UInt8):Int × Int × Bool:=
 if k=1 then (1,0,true) else if k=2 then (3,0,true) else if k=3 then (4,0,true) else if k=4 then (1,1,true) else if k=5 then (0,2,true) else if k=6 then (1,2,true) else if k=7 then (1,2,true) else if k=8 then (0,1,true) else if k=9 then (2,-1,true) else if k=10 then (if btwB s then (5,2,true) else (6,-1,true)) else (0,0,false)
def paR(k:Int):Int × Int × Bool:=
 if k=1 then (1,0,true) else if k=2 then (0,0,true) else if k=3 then (3,0,true) else if k=4 then (4,0,true) else if k=5 then (2,-1,true) else (0,0,false)
def tyR(k:Int):Int × Int × Bool:=
 if k=1 then (1,0,true) else if k=2 then (2,-1,true) else if k=3 then (0,2,true) else (0,0,false)
theorem Ja(s:List UInt8)(w:World):Calls Tryz.prog 119 #[.string ⟨s.toArray⟩] w fun e w'=>e=.returned (.bool (btwB s))/\w'=w:=by
 by_cases h:s∈btwL
 ·have e:btwB s=true:=by simp[btwB,h]
  rw[e];clear e;simp only[btwL,List.mem_cons,List.not_mem_nil,or_false]at h;rcases h with rfl | rfl | rfl | rfl | rfl | rfl | rfl | rfl
  all_goals
   go_enter Tryz.func119,Tryz.ntmps119
   go_wp2
   go_ret
   exact⟨rfl,rfl⟩
 ·have e:btwB s=false:=by simp[btwB,h]
  rw[e];clear e;obtain⟨S,hS⟩:∃ S:ByteArray,S=⟨s.toArray⟩:=⟨_,rfl⟩
  have hl:∀ t:List UInt8,t∈btwL->S≠⟨t.toArray⟩/\S.toList≠t:=fun t ht=>by
   have hst:s≠t:=fun e=>h (e ▸ ht);refine⟨fun e=>hst ?_,fun e=>hst ?_⟩
   ·rw[hS]at e
    injection e with e
    simpa using congrArg Array.toList e
   ·rw[hS,ByteArray.toList_eq]at e
    simpa using e
  have n0:=hl [60] (by simp[btwL]);have n1:=hl [61,61] (by simp[btwL]);have n2:=hl [43,43] (by simp[btwL]);have n3:=hl [43] (by simp[btwL]);have n4:=hl [45] (by simp[btwL]);have n5:=hl [42] (by simp[btwL]);have n6:=hl [47] (by simp[btwL]);have n7:=hl [37] (by simp[btwL]);obtain⟨a0,b0⟩:=n0;have c0:(S.toList==[60])=false:=by simpa using b0
  obtain⟨a1,b1⟩:=n1;have c1:(S.toList==[61,61])=false:=by simpa using b1
  obtain⟨a2,b2⟩:=n2;have c2:(S.toList==[43,43])=false:=by simpa using b2
  obtain⟨a3,b3⟩:=n3;have c3:(S.toList==[43])=false:=by simpa using b3
  obtain⟨a4,b4⟩:=n4;have c4:(S.toList==[45])=false:=by simpa using b4
  obtain⟨a5,b5⟩:=n5;have c5:(S.toList==[42])=false:=by simpa using b5
  obtain⟨a6,b6⟩:=n6;have c6:(S.toList==[47])=false:=by simpa using b6
  obtain⟨a7,b7⟩:=n7;have c7:(S.toList==[37])=false:=by simpa using b7
  rw[<- hS];clear hS hl h;go_enter Tryz.func119,Tryz.ntmps119
  go_wp2
  go_ret
  exact⟨rfl,rfl⟩
theorem Qk(k:Int)(s:List UInt8)(n:Int)(p:Pl)(A:Option Addr)(l c:Nat)(B:Option Addr)(bl bc:Nat)(w:World):Calls Tryz.prog 76 #[.agg #[.int .u8 k,.string ⟨s.toArray⟩,.int .i64 n,.int .i64 p.a,.int .i64 p.l,.int .i64 p.c,.slice A l c,.slice B bl bc]] w fun e w'=>e=.returned (.tuple #[.agg #[.int .u8 (exR k s).1,.int .i64 (exR k s).2.1],.bool (exR k s).2.2])/\Bel w w':=by
 by_cases k1:k=1
 ·subst k1
  have er:exR 1 s=(1,0,true):=rfl;rw[er];clear er;go_enter Tryz.func76,Tryz.ntmps76
  go_wp2
  (try simp only[Exit.inBlock,Exit.then])
  refine bodyPost_ret (qe (v:= .agg #[.int .u8 1,.int .i64 (0)]) rfl _ _ _ rfl (by simp[loadVar,go_sem])) rfl ?_;exact⟨rfl,((Bel.refl w).alloc _).alloc _⟩
 by_cases k2:k=2
 ·subst k2
  have er:exR 2 s=(3,0,true):=rfl;rw[er];clear er;go_enter Tryz.func76,Tryz.ntmps76
  go_wp2
  (try simp only[Exit.inBlock,Exit.then])
  refine bodyPost_ret (qe (v:= .agg #[.int .u8 3,.int .i64 (0)]) rfl _ _ _ rfl (by simp[loadVar,go_sem])) rfl ?_;exact⟨rfl,((Bel.refl w).alloc _).alloc _⟩
 by_cases k3:k=3
 ·subst k3
  have er:exR 3 s=(4,0,true):=rfl;rw[er];clear er;go_enter Tryz.func76,Tryz.ntmps76
  go_wp2
  (try simp only[Exit.inBlock,Exit.then])
  refine bodyPost_ret (qe (v:= .agg #[.int .u8 4,.int .i64 (0)]) rfl _ _ _ rfl (by simp[loadVar,go_sem])) rfl ?_;exact⟨rfl,((Bel.refl w).alloc _).alloc _⟩
 by_cases k4:k=4
 ·subst k4
  have er:exR 4 s=(1,1,true):=rfl;rw[er];clear er;go_enter Tryz.func76,Tryz.ntmps76
  go_wp2
  (try simp only[Exit.inBlock,Exit.then])
  refine bodyPost_ret (qe (v:= .agg #[.int .u8 1,.int .i64 (1)]) rfl _ _ _ rfl (by simp[loadVar,go_sem])) rfl ?_;exact⟨rfl,((Bel.refl w).alloc _).alloc _⟩
 by_cases k5:k=5
 ·subst k5
  have er:exR 5 s=(0,2,true):=rfl;rw[er];clear er;go_enter Tryz.func76,Tryz.ntmps76
  go_wp2
  (try simp only[Exit.inBlock,Exit.then])
  refine bodyPost_ret (qe (v:= .agg #[.int .u8 0,.int .i64 (2)]) rfl _ _ _ rfl (by simp[loadVar,go_sem])) rfl ?_;exact⟨rfl,((Bel.refl w).alloc _).alloc _⟩
 by_cases k6:k=6
 ·subst k6
  have er:exR 6 s=(1,2,true):=rfl;rw[er];clear er;go_enter Tryz.func76,Tryz.ntmps76
  go_wp2
  (try simp only[Exit.inBlock,Exit.then])
  refine bodyPost_ret (qe (v:= .agg #[.int .u8 1,.int .i64 (2)]) rfl _ _ _ rfl (by simp[loadVar,go_sem])) rfl ?_;exact⟨rfl,((Bel.refl w).alloc _).alloc _⟩
 by_cases k7:k=7
 ·subst k7
  have er:exR 7 s=(1,2,true):=rfl;rw[er];clear er;go_enter Tryz.func76,Tryz.ntmps76
  go_wp2
  (try simp only[Exit.inBlock,Exit.then])
  refine bodyPost_ret (qe (v:= .agg #[.int .u8 1,.int .i64 (2)]) rfl _ _ _ rfl (by simp[loadVar,go_sem])) rfl ?_;exact⟨rfl,((Bel.refl w).alloc _).alloc _⟩
 by_cases k8:k=8
 ·subst k8
  have er:exR 8 s=(0,1,true):=rfl;rw[er];clear er;go_enter Tryz.func76,Tryz.ntmps76
  go_wp2
  (try simp only[Exit.inBlock,Exit.then])
  refine bodyPost_ret (qe (v:= .agg #[.int .u8 0,.int .i64 (1)]) rfl _ _ _ rfl (by simp[loadVar,go_sem])) rfl ?_;exact⟨rfl,((Bel.refl w).alloc _).alloc _⟩
 by_cases k9:k=9
 ·subst k9
  have er:exR 9 s=(2,-1,true):=rfl;rw[er];clear er;go_enter Tryz.func76,Tryz.ntmps76
  go_wp2
  (try simp only[Exit.inBlock,Exit.then])
  refine bodyPost_ret (qe (v:= .agg #[.int .u8 2,.int .i64 (-1)]) rfl _ _ _ rfl (by simp[loadVar,go_sem])) rfl ?_;exact⟨rfl,((Bel.refl w).alloc _).alloc _⟩
 by_cases k10:k=10
 ·subst k10
  have HI:Hid (∀ W,Calls Tryz.prog 119 #[.string ⟨s.toArray⟩] W fun e w'=>e=.returned (.bool (btwB s))/\w'=W):=hid fun W=>Ja s W;have er:exR 10 s=if btwB s then (5,2,true) else (6,-1,true):=rfl
  rw[er];clear er;obtain⟨b,hb⟩:∃ b,b=btwB s:=⟨_,rfl⟩
  rw[<- hb]at HI ⊢;clear hb;obtain⟨S,hS⟩:∃ S:ByteArray,S=⟨s.toArray⟩:=⟨_,rfl⟩
  rw[<- hS]at HI ⊢;clear hS;go_enter Tryz.func76,Tryz.ntmps76
  go_wp2_with fail
  refine (HI.out _).mono ?_;rintro e w' ⟨rfl,rfl⟩;cases b
  ·go_wp2_with fail
   (try simp only[Exit.inBlock,Exit.then])
   refine bodyPost_ret (qe (v:= .agg #[.int .u8 6,.int .i64 (-1)]) rfl _ _ _ rfl (by simp[loadVar,go_sem])) rfl ?_;exact⟨rfl,((Bel.refl w).alloc _).alloc _⟩
  ·go_wp2_with fail
   (try simp only[Exit.inBlock,Exit.then])
   refine bodyPost_ret (qe (v:= .agg #[.int .u8 5,.int .i64 2]) rfl _ _ _ rfl (by simp[loadVar,go_sem])) rfl ?_;exact⟨rfl,((Bel.refl w).alloc _).alloc _⟩
 have er:exR k s=(0,0,false):=by simp[exR,k1,k2,k3,k4,k5,k6,k7,k8,k9,k10]
 rw[er];clear er;have d1:(k==1)=false:=by simpa using k1
 have d2:(k==2)=false:=by simpa using k2
 have d3:(k==3)=false:=by simpa using k3
 have d4:(k==4)=false:=by simpa using k4
 have d5:(k==5)=false:=by simpa using k5
 have d6:(k==6)=false:=by simpa using k6
 have d7:(k==7)=false:=by simpa using k7
 have d8:(k==8)=false:=by simpa using k8
 have d9:(k==9)=false:=by simpa using k9
 have d10:(k==10)=false:=by simpa using k10
 go_enter Tryz.func76,Tryz.ntmps76
 go_wp2
 (try simp only[Exit.inBlock,Exit.then])
 refine bodyPost_ret (qe (v:= .agg #[.int .u8 0,.int .i64 0]) rfl _ _ _ rfl (by simp[loadVar,go_sem])) rfl ?_;exact⟨rfl,((Bel.refl w).alloc _).alloc _⟩
theorem QT(k:Int)(s:List UInt8)(n:Int)(p:Pl)(A:Option Addr)(l c:Nat)(w:World):Calls Tryz.prog 120 #[.agg #[.int .u8 k,.string ⟨s.toArray⟩,.int .i64 n,.int .i64 p.a,.int .i64 p.l,.int .i64 p.c,.slice A l c]] w fun e w'=>e=.returned (.tuple #[.agg #[.int .u8 (paR k).1,.int .i64 (paR k).2.1],.bool (paR k).2.2])/\Bel w w':=by
 by_cases k1:k=1
 ·subst k1
  have er:paR 1=(1,0,true):=rfl;rw[er];clear er;go_enter Tryz.func120,Tryz.ntmps120
  go_wp2
  (try simp only[Exit.inBlock,Exit.then])
  refine bodyPost_ret (qe (v:= .agg #[.int .u8 1,.int .i64 (0)]) rfl _ _ _ rfl (by simp[loadVar,go_sem])) rfl ?_;exact⟨rfl,((Bel.refl w).alloc _).alloc _⟩
 by_cases k2:k=2
 ·subst k2
  have er:paR 2=(0,0,true):=rfl;rw[er];clear er;go_enter Tryz.func120,Tryz.ntmps120
  go_wp2
  (try simp only[Exit.inBlock,Exit.then])
  refine bodyPost_ret (qe (v:= .agg #[.int .u8 0,.int .i64 (0)]) rfl _ _ _ rfl (by simp[loadVar,go_sem])) rfl ?_;exact⟨rfl,((Bel.refl w).alloc _).alloc _⟩
 by_cases k3:k=3
 ·subst k3
  have er:paR 3=(3,0,true):=rfl;rw[er];clear er;go_enter Tryz.func120,Tryz.ntmps120
  go_wp2
  (try simp only[Exit.inBlock,Exit.then])
  refine bodyPost_ret (qe (v:= .agg #[.int .u8 3,.int .i64 (0)]) rfl _ _ _ rfl (by simp[loadVar,go_sem])) rfl ?_;exact⟨rfl,((Bel.refl w).alloc _).alloc _⟩
 by_cases k4:k=4
 ·subst k4
  have er:paR 4=(4,0,true):=rfl;rw[er];clear er;go_enter Tryz.func120,Tryz.ntmps120
  go_wp2
  (try simp only[Exit.inBlock,Exit.then])
  refine bodyPost_ret (qe (v:= .agg #[.int .u8 4,.int .i64 (0)]) rfl _ _ _ rfl (by simp[loadVar,go_sem])) rfl ?_;exact⟨rfl,((Bel.refl w).alloc _).alloc _⟩
 by_cases k5:k=5
 ·subst k5
  have er:paR 5=(2,-1,true):=rfl;rw[er];clear er;go_enter Tryz.func120,Tryz.ntmps120
  go_wp2
  (try simp only[Exit.inBlock,Exit.then])
  refine bodyPost_ret (qe (v:= .agg #[.int .u8 2,.int .i64 (-1)]) rfl _ _ _ rfl (by simp[loadVar,go_sem])) rfl ?_;exact⟨rfl,((Bel.refl w).alloc _).alloc _⟩
 have er:paR k=(0,0,false):=by simp[paR,k1,k2,k3,k4,k5]
 rw[er];clear er;have d1:(k==1)=false:=by simpa using k1
 have d2:(k==2)=false:=by simpa using k2
 have d3:(k==3)=false:=by simpa using k3
 have d4:(k==4)=false:=by simpa using k4
 have d5:(k==5)=false:=by simpa using k5
 go_enter Tryz.func120,Tryz.ntmps120
 go_wp2
 (try simp only[Exit.inBlock,Exit.then])
 refine bodyPost_ret (qe (v:= .agg #[.int .u8 0,.int .i64 0]) rfl _ _ _ rfl (by simp[loadVar,go_sem])) rfl ?_;exact⟨rfl,((Bel.refl w).alloc _).alloc _⟩
theorem ZR(k:Int)(s:List UInt8)(n:Int)(p:Pl)(A:Option Addr)(l c:Nat)(w:World):Calls Tryz.prog 127 #[.agg #[.int .u8 k,.string ⟨s.toArray⟩,.int .u8 n,.int .i64 p.a,.int .i64 p.l,.int .i64 p.c,.slice A l c]] w fun e w'=>e=.returned (.tuple #[.agg #[.int .u8 (tyR k).1,.int .i64 (tyR k).2.1],.bool (tyR k).2.2])/\Bel w w':=by
 by_cases k1:k=1
 ·subst k1
  have er:tyR 1=(1,0,true):=rfl;rw[er];clear er;go_enter Tryz.func127,Tryz.ntmps127
  go_wp2
  (try simp only[Exit.inBlock,Exit.then])
  refine bodyPost_ret (qe (v:= .agg #[.int .u8 1,.int .i64 (0)]) rfl _ _ _ rfl (by simp[loadVar,go_sem])) rfl ?_;exact⟨rfl,((Bel.refl w).alloc _).alloc _⟩
 by_cases k2:k=2
 ·subst k2
  have er:tyR 2=(2,-1,true):=rfl;rw[er];clear er;go_enter Tryz.func127,Tryz.ntmps127
  go_wp2
  (try simp only[Exit.inBlock,Exit.then])
  refine bodyPost_ret (qe (v:= .agg #[.int .u8 2,.int .i64 (-1)]) rfl _ _ _ rfl (by simp[loadVar,go_sem])) rfl ?_;exact⟨rfl,((Bel.refl w).alloc _).alloc _⟩
 by_cases k3:k=3
 ·subst k3
  have er:tyR 3=(0,2,true):=rfl;rw[er];clear er;go_enter Tryz.func127,Tryz.ntmps127
  go_wp2
  (try simp only[Exit.inBlock,Exit.then])
  refine bodyPost_ret (qe (v:= .agg #[.int .u8 0,.int .i64 (2)]) rfl _ _ _ rfl (by simp[loadVar,go_sem])) rfl ?_;exact⟨rfl,((Bel.refl w).alloc _).alloc _⟩
 have er:tyR k=(0,0,false):=by simp[tyR,k1,k2,k3]
 rw[er];clear er;have d1:(k==1)=false:=by simpa using k1
 have d2:(k==2)=false:=by simpa using k2
 have d3:(k==3)=false:=by simpa using k3
 go_enter Tryz.func127,Tryz.ntmps127
 go_wp2
 (try simp only[Exit.inBlock,Exit.then])
 refine bodyPost_ret (qe (v:= .agg #[.int .u8 0,.int .i64 0]) rfl _ _ _ rfl (by simp[loadVar,go_sem])) rfl ?_;exact⟨rfl,((Bel.refl w).alloc _).alloc _⟩
def mltB(m:Int):Bool:=decide (m=1) || decide (m=2) || decide (m=3)
theorem ZC(m:Int)(w:World):Calls Tryz.prog 123 #[.int .u8 m] w fun e w'=>e=.returned (.bool (mltB m))/\w'=w:=by
 by_cases h1:m=1
 ·subst h1
  go_enter Tryz.func123,Tryz.ntmps123
  go_wp2
  go_ret
  exact⟨rfl,rfl⟩
 by_cases h2:m=2
 ·subst h2
  go_enter Tryz.func123,Tryz.ntmps123
  go_wp2
  go_ret
  exact⟨rfl,rfl⟩
 by_cases h3:m=3
 ·subst h3
  go_enter Tryz.func123,Tryz.ntmps123
  go_wp2
  go_ret
  exact⟨rfl,rfl⟩
 have e:mltB m=false:=by simp[mltB,h1,h2,h3]
 rw[e];have d1:(m==1)=false:=by simpa using h1
 have d2:(m==2)=false:=by simpa using h2
 have d3:(m==3)=false:=by simpa using h3
 go_enter Tryz.func123,Tryz.ntmps123
 go_wp2
 go_ret
 exact⟨rfl,rfl⟩
open Classical in
noncomputable def mtB (t:Int × List UInt8 × Int):Bool:=decide (qv t)
theorem qho(t:Int × List UInt8 × Int):((wrO [t]).2 != 2)=mtB t:=by
 unfold wrO mtB;by_cases h:qv t
 ·rw[if_pos (by simpa using h)]
  split <;> simp[h]
 ·rw[if_neg (by simpa using h)]
  simp[h]
theorem zW(k:Int)(s:List UInt8)(n:Int)(p:Pl)(w:World)(ht:Tbl w)(hs:s.length<=140737488355328)(h0:-9223372036854775808<=n)(h1:n<=9223372036854775807) :
  Calls Tryz.prog 47 #[.agg #[.int .u8 k,.string ⟨s.toArray⟩,.int .i64 n,.int .i64 p.a,.int .i64 p.l,.int .i64 p.c]] w fun e w'=>e=.returned (.bool (mtB (k,s,n)))/\Bel w w':=by
 have HW:Hid (∀ (b:Nat) (W:World),b=W.heap.size->Tbl W->Calls Tryz.prog 8 #[.slice (some ⟨b,0,none⟩) 1 1] (W.alloc (.cells #[.int .u8 k,.string ⟨s.toArray⟩,.int .i64 n,.int .i64 p.a,.int .i64 p.l,.int .i64 p.c] 37)) fun r w'=>r=.returned (.tuple #[.string ⟨(wrO [(k,s,n)]).1.toArray⟩,.int .i64 (wrO [(k,s,n)]).2])/\Bel W w'):=hid fun b W hb hT=>by
  subst hb;refine (jC (xs:=[⟨k,s,n,p⟩]) _ (hT.bel ((Bel.refl W).alloc _)) (RTn.lit [⟨k,s,n,p⟩] _ (by simp[zo,Tn.cells]) 1 rfl 37) (by omega) (fun x hx=>by simp at hx;subst hx;exact⟨hs,h0,h1⟩)).mono ?_;rintro r w' ⟨rfl,hb⟩;exact⟨rfl,((Bel.refl W).alloc _).on hb⟩
 rw[<- qho];obtain⟨S1,hS1⟩:∃ S:ByteArray,S=⟨(wrO [(k,s,n)]).1.toArray⟩:=⟨_,rfl⟩
 obtain⟨E1,hE1⟩:∃ E,E=(wrO [(k,s,n)]).2:=⟨_,rfl⟩
 obtain⟨SS,hSS⟩:∃ S:ByteArray,S=⟨s.toArray⟩:=⟨_,rfl⟩
 rw[<- hS1,<- hE1,<- hSS]at HW;rw[<- hE1,<- hSS];have HT:=hid ht;clear ht hs h0 h1 hS1 hE1 hSS;have hb1:Bel w (w.alloc (.cells #[.int .u8 k,.string SS,.int .i64 n,.int .i64 p.a,.int .i64 p.l,.int .i64 p.c] 37)):=(Bel.refl w).alloc _;have HB1:=hid hb1;have HC:=hid (HW.out _ _ rfl (HT.out.bel hb1));clear hb1;go_enter Tryz.func47,Tryz.ntmps47
 go_wp2_with fail
 have hsz:(w.alloc (.cells #[.int .u8 k,.string SS,.int .i64 n,.int .i64 p.a,.int .i64 p.l,.int .i64 p.c] 37)).heap.size=w.heap.size+1:=by simp
 have hc:=HC.out;rw[hsz]at hc;refine hc.mono ?_;rintro e w2 ⟨rfl,hb2⟩;have HB2:=hid (HB1.out.on hb2);clear hb2 hc hsz;go_wp2_with fail
 go_ret
 exact⟨rfl,HB2.out⟩
noncomputable def keepB (tok kc:Int) (s:List UInt8) (n:Int) (l:Nat):Bool:=
 if kc ≠ -1/\kc≠(l:Int) then false else if tok=0 then (decide (s=[])&&decide (n=0)) else mtB (tok,s,n)
theorem QQ(tok kc:Int)(s:List UInt8)(n:Int)(l:Nat)(w:World)(ht:Tbl w)(hs:s.length<=140737488355328)(h0:-9223372036854775808<=n)(h1:n<=9223372036854775807) :
  Calls Tryz.prog 77 #[.agg #[.int .u8 tok,.int .i64 kc],.string ⟨s.toArray⟩,.int .i64 n,.int .i64 (l:Int)] w fun e w'=>e=.returned (.bool (keepB tok kc s n l))/\Bel w w':=by
 have HT:Hid (∀ W,Bel w W->Calls Tryz.prog 47 #[.agg #[.int .u8 tok,.string ⟨s.toArray⟩,.int .i64 n,.int .i64 0,.int .i64 0,.int .i64 0]] W fun e w'=>e=.returned (.bool (mtB (tok,s,n)))/\Bel W w'):=hid fun W hW=>zW tok s n ⟨0,0,0⟩ W (ht.bel hW) hs h0 h1;obtain⟨b,hb⟩:∃ b,b=mtB (tok,s,n):=⟨_,rfl⟩
 rw[<- hb]at HT;have hE:s=[]↔(⟨s.toArray⟩:ByteArray)=⟨#[]⟩:=by
  constructor
  ·rintro rfl;rfl
  ·intro e;injection e with e;simpa using congrArg Array.toList e
 have hE2:s=[]↔(⟨s.toArray⟩:ByteArray).toList=[]:=by rw[ByteArray.toList_eq]
 have hb1:Bel w (w.alloc (.cells #[.int .u8 tok,.int .i64 kc] 143)):=(Bel.refl w).alloc _;have HB1:=hid hb1;clear ht hs h0 h1 hb1;by_cases hk:kc ≠ -1/\kc≠(l:Int)
 ·have e:keepB tok kc s n l=false:=by unfold keepB;rw[if_pos hk]
  rw[e];have d1:(kc != -1)=true:=by simpa using hk.1
  have d2:(kc != (l:Int))=true:=by simpa using hk.2
  have d3:=hk.1;have d4:=hk.2;clear hb hE hE2 hk;go_enter Tryz.func77,Tryz.ntmps77
  go_wp2_with fail
  go_ret
  exact⟨rfl,HB1.out⟩
 ·have hkk:kc = -1∨kc=(l:Int):=by
   rcases Classical.em (kc = -1) with h | h
   ·exact .inl h
   ·right
    rcases Classical.em (kc=(l:Int)) with h2 | h2
    ·exact h2
    ·exact absurd ⟨h,h2⟩ hk
  by_cases htk:tok=0
  ·subst htk
   have e:keepB 0 kc s n l=(decide (s=[])&&decide (n=0)):=by unfold keepB;rw[if_neg hk,if_pos rfl]
   rw[e];by_cases hs0:s=[]
   ·subst hs0
    have en:(decide (([]:List UInt8)=[])&&decide (n=0))=(n==0):=by by_cases h:n=0 <;> simp[h]
    rw[en];clear hb hE hE2 hk e en;rcases hkk with rfl | rfl
    ·go_enter Tryz.func77,Tryz.ntmps77
     go_wp2_with fail
     go_ret
     exact⟨rfl,HB1.out⟩
    ·have d5:((l:Int) != -1)=true:=by simp
     have d6:¬ (l:Int) = -1:=by omega
     go_enter Tryz.func77,Tryz.ntmps77
     go_wp2_with fail
     go_ret
     exact⟨rfl,HB1.out⟩
   ·have en:(decide (s=[])&&decide (n=0))=false:=by simp[hs0]
    rw[en];have hq:¬ (⟨s.toArray⟩:ByteArray)=⟨#[]⟩:=fun e=>hs0 (hE.2 e);have hq2:¬ (⟨s.toArray⟩:ByteArray).toList=[]:=fun e=>hs0 (hE2.2 e);obtain⟨SS,hSS⟩:∃ S:ByteArray,S=⟨s.toArray⟩:=⟨_,rfl⟩
    rw[<- hSS]at hq hq2 HT ⊢;have hq3:(SS.toList==[])=false:=by simpa using hq2
    clear hb hE hE2 hk e en hSS;rcases hkk with rfl | rfl
    ·go_enter Tryz.func77,Tryz.ntmps77
     go_wp2_with fail
     go_ret
     exact⟨rfl,HB1.out⟩
    ·have d5:((l:Int) != -1)=true:=by simp
     have d6:¬ (l:Int) = -1:=by omega
     go_enter Tryz.func77,Tryz.ntmps77
     go_wp2_with fail
     go_ret
     exact⟨rfl,HB1.out⟩
  ·have e:keepB tok kc s n l=mtB (tok,s,n):=by unfold keepB;rw[if_neg hk,if_neg htk]
   rw[e,<- hb];have d7:(tok==0)=false:=by simpa using htk
   obtain⟨SS,hSS⟩:∃ S:ByteArray,S=⟨s.toArray⟩:=⟨_,rfl⟩
   rw[<- hSS]at HT ⊢;clear hb hE hE2 hk e hSS;rcases hkk with rfl | rfl
   ·go_enter Tryz.func77,Tryz.ntmps77
    go_wp2_with fail
    refine (HT.out _ HB1.out).mono ?_;rintro e w2 ⟨rfl,hb2⟩;have HB2:=hid (HB1.out.on hb2);clear hb2;go_wp2_with fail
    go_ret
    exact⟨rfl,HB2.out⟩
   ·have d5:((l:Int) != -1)=true:=by simp
    have d6:¬ (l:Int) = -1:=by omega
    go_enter Tryz.func77,Tryz.ntmps77
    go_wp2_with fail
    refine (HT.out _ HB1.out).mono ?_;rintro e w2 ⟨rfl,hb2⟩;have HB2:=hid (HB1.out.on hb2);clear hb2;go_wp2_with fail
    go_ret
    exact⟨rfl,HB2.out⟩
theorem qf{fn:Func}{t:Tmp}{ty:TypeId}(h:fn.results=#[.cell t ty])(tmps:Array Value)(P:Program)(w:World){a:Addr}{v:Value}(ha:tmps.getD t undef=.pointer (some a))(hv:(loadVar ty a).run P w=.ok v w) :
  (results fn tmps).run P w=.ok v w:=by
 have ha':tmps[t]?.getD undef=.pointer (some a):=by rw[<- Array.getD_eq_getD_getElem?];exact ha
 simp[results,h,ha',hv,ZJ,Sem.run_bind,Result.andThen]
theorem zz{w:World}{g:Nat}{b:Bool}(h:w.heap[g]?=some (.cells #[.bool b] 4 (0,0))):(loadVar 4 ⟨g,0,none⟩).run Tryz.prog w=.ok (.bool b) w:=by
 have c:w.cell? ⟨g,0,none⟩=some (.bool b):=by simp[World.cell?,h]
 simp[loadVar,go_sem,c]
theorem blk5(w:World)(o o2 o3 o4 o5:Obj):(((((w.alloc o).alloc o2).alloc o3).alloc o4).alloc o5).heap[w.heap.size]?=some o/\(((((w.alloc o).alloc o2).alloc o3).alloc o4).alloc o5).heap[w.heap.size+1]?=some o2/\(((((w.alloc o).alloc o2).alloc o3).alloc o4).alloc o5).heap[w.heap.size+2]?=some o3/\(((((w.alloc o).alloc o2).alloc o3).alloc o4).alloc o5).heap[w.heap.size+3]?=some o4/\(((((w.alloc o).alloc o2).alloc o3).alloc o4).alloc o5).heap[w.heap.size+4]?=some o5:=by
 obtain⟨h1,h2,h3⟩:=blk3 w o o2 o3;have hb3:=(Bel.refl (((w.alloc o).alloc o2).alloc o3)).alloc o4;have hb:=hb3.alloc o5;have h4:=blk1 (((w.alloc o).alloc o2).alloc o3) o4;have h5:=blk1 ((((w.alloc o).alloc o2).alloc o3).alloc o4) o5;have hs:(((w.alloc o).alloc o2).alloc o3).heap.size=w.heap.size+3:=by simp
 have hs2:((((w.alloc o).alloc o2).alloc o3).alloc o4).heap.size=w.heap.size+4:=by simp
 rw[hs]at h4;rw[hs2]at h5;exact⟨hb.blk h1,hb.blk h2,hb.blk h3,((Bel.refl _).alloc o5).blk h4,h5⟩
def fitN(s:List UInt8)(n:Int):Prop:=s.length<=140737488355328/\-9223372036854775808<=n/\n<=9223372036854775807
def Tr.ints:Tr->Prop
 | .nil=>True
 | .nod _ s n _ k a r=>fitN s n/\k.ints/\a.ints/\r.ints
 | .arm _ s n _ k e r=>fitN s n/\k.ints/\e.ints/\r.ints
theorem Tr.pre_ints:∀ (f:Tr) (d:Nat) (v:Vis),v∈f.pre d->f.ints->fitN v.s v.n/\v.kids.ints/\v.arms.ints
 | .nil,_,_,h,_=>by simp[Tr.pre]at h
 | .nod k s n p kids arms r,d,v,h,⟨h0,h1,h2,h3⟩=>by
  simp only[Tr.pre,List.mem_cons,List.mem_append]at h;rcases h with rfl | (h | h) | h
  ·exact⟨h0,h1,h2⟩
  ·exact Tr.pre_ints kids _ v h h1
  ·exact Tr.pre_ints arms _ v h h2
  ·exact Tr.pre_ints r _ v h h3
 | .arm _ _ _ _ k e r,d,v,h,⟨_,_,h2,h3⟩=>by
  simp only[Tr.pre,List.mem_append]at h;rcases h with h | h
  ·exact Tr.pre_ints e _ v h h2
  ·exact Tr.pre_ints r _ v h h3
theorem Tr.pats_ints:∀ f:Tr,f.ints->f.pats.ints
 | .nil,_=>trivial
 | .nod _ _ _ _ _ _ r,h=>Tr.pats_ints r h.2.2.2
 | .arm _ _ _ _ _ _ r,h=>⟨h.1,h.2.1,trivial,Tr.pats_ints r h.2.2.2⟩
noncomputable def hPf (k:Int) (s:List UInt8) (n:Int) (l:Nat):Bool:=(paR k).2.2&&keepB (paR k).1 (paR k).2.1 s n l
noncomputable def hTf (k:Int) (s:List UInt8) (n:Int) (l:Nat):Bool:=(if k=3 then mltB n else decide (n=0))&&((tyR k).2.2&&keepB (tyR k).1 (tyR k).2.1 s 0 l)
noncomputable def hEf (k:Int) (s:List UInt8) (n:Int) (l al:Nat):Bool:=(exR k s).2.2&&(keepB (exR k s).1 (exR k s).2.1 s n l&&(decide (0<al)==decide (k=8)))
theorem qb3(k:Int)(s:List UInt8)(n:Int)(p:Pl)(A:Option Addr)(l c:Nat)(r:Int)(w:World)(ht:Tbl w)(hf:fitN s n) :
  Calls Tryz.prog 79 #[.int .i64 r,.agg #[.int .u8 k,.string ⟨s.toArray⟩,n,p.a,p.l,p.c,.slice A l c]] w fun e w'=>e=.returned (.bool (hPf k s n l))/\Bel w w':=by
 have HR:Hid (∀ W,Calls Tryz.prog 120 #[.agg #[.int .u8 k,.string ⟨s.toArray⟩,n,p.a,p.l,p.c,.slice A l c]] W fun e w'=>e=.returned (.tuple #[.agg #[.int .u8 (paR k).1,.int .i64 (paR k).2.1],.bool (paR k).2.2])/\Bel W w'):=hid fun W=>QT k s n p A l c W;have HKP:Hid (∀ W,Bel w W->Calls Tryz.prog 77 #[.agg #[.int .u8 (paR k).1,.int .i64 (paR k).2.1],.string ⟨s.toArray⟩,n,(l:Int)] W fun e w'=>e=.returned (.bool (keepB (paR k).1 (paR k).2.1 s n l))/\Bel W w'):=hid fun W hW=>QQ (paR k).1 (paR k).2.1 s n l W (ht.bel hW) hf.1 hf.2.1 hf.2.2;unfold hPf;obtain⟨tk,htk⟩:∃ t,t=(paR k).1:=⟨_,rfl⟩
 obtain⟨kc,hkc⟩:∃ t,t=(paR k).2.1:=⟨_,rfl⟩
 obtain⟨ok,hok⟩:∃ t,t=(paR k).2.2:=⟨_,rfl⟩
 rw[<- htk,<- hkc,<- hok]at HR;rw[<- htk,<- hkc]at HKP;rw[<- htk,<- hkc,<- hok];obtain⟨kb,hkb⟩:∃ t,t=keepB tk kc s n l:=⟨_,rfl⟩
 obtain⟨SS,hSS⟩:∃ S:ByteArray,S=⟨s.toArray⟩:=⟨_,rfl⟩
 rw[<- hkb,<- hSS]at HKP;rw[<- hSS]at HR;rw[<- hkb,<- hSS];clear ht hf htk hkc hok hkb hSS;have hb1:Bel w (w.alloc (.cells #[.int .u8 k,SS,n,p.a,p.l,p.c,.slice A l c] 111)):=(Bel.refl w).alloc _;have q1:=blk1 w (.cells #[.int .u8 k,SS,n,p.a,p.l,p.c,.slice A l c] 111);have HB1:=hid hb1;have HQ1:=hid q1;clear hb1 q1;go_enter Tryz.func79,Tryz.ntmps79
 go_wp2_with fail
 refine (HR.out _).mono ?_;rintro e w2 ⟨rfl,hb2⟩;have HB2:=hid (HB1.out.on hb2);have q2:=hb2.blk HQ1.out;obtain⟨x0,x1,x2,x3,x4,x5,x6⟩:=box7 q2;have hlt:w.heap.size<w2.heap.size:=(Array.getElem?_eq_some_iff.1 q2).1;clear hb2 q2 HR;cases ok
 ·go_wp2_with fail
  go_ret
  exact⟨rfl,HB2.out.alloc _⟩
 ·go_wp2_with fail
  refine (HKP.out _ (HB2.out.alloc _)).mono ?_;rintro e w3 ⟨rfl,hb3⟩;have HB3:=hid ((HB2.out.alloc _).on hb3);clear hb3 x0 x1 x2 x3 x4 x5 x6;go_wp2_with fail
  go_ret
  exact⟨by simp,HB3.out⟩
theorem qc6(k:Int)(s:List UInt8)(n:Int)(p:Pl)(A:Option Addr)(l c:Nat)(r:Int)(w:World)(ht:Tbl w)(hf:s.length<=140737488355328) :
  Calls Tryz.prog 125 #[.int .i64 r,.agg #[.int .u8 k,.string ⟨s.toArray⟩,.int .u8 n,p.a,p.l,p.c,.slice A l c]] w fun e w'=>e=.returned (.bool (hTf k s n l))/\Bel w w':=by
 have HR:Hid (∀ W,Calls Tryz.prog 127 #[.agg #[.int .u8 k,.string ⟨s.toArray⟩,.int .u8 n,p.a,p.l,p.c,.slice A l c]] W fun e w'=>e=.returned (.tuple #[.agg #[.int .u8 (tyR k).1,.int .i64 (tyR k).2.1],.bool (tyR k).2.2])/\Bel W w'):=hid fun W=>ZR k s n p A l c W;have HKP:Hid (∀ W,Bel w W->Calls Tryz.prog 77 #[.agg #[.int .u8 (tyR k).1,.int .i64 (tyR k).2.1],.string ⟨s.toArray⟩,(0:Int),(l:Int)] W fun e w'=>e=.returned (.bool (keepB (tyR k).1 (tyR k).2.1 s 0 l))/\Bel W w'):=hid fun W hW=>QQ (tyR k).1 (tyR k).2.1 s 0 l W (ht.bel hW) hf (by omega) (by omega);have HM:Hid (∀ W,Calls Tryz.prog 123 #[.int .u8 n] W fun e w'=>e=.returned (.bool (mltB n))/\w'=W):=hid fun W=>ZC n W;unfold hTf;obtain⟨tk,htk⟩:∃ t,t=(tyR k).1:=⟨_,rfl⟩
 obtain⟨kc,hkc⟩:∃ t,t=(tyR k).2.1:=⟨_,rfl⟩
 obtain⟨ok,hok⟩:∃ t,t=(tyR k).2.2:=⟨_,rfl⟩
 rw[<- htk,<- hkc,<- hok]at HR;rw[<- htk,<- hkc]at HKP;rw[<- htk,<- hkc,<- hok];obtain⟨kb,hkb⟩:∃ t,t=keepB tk kc s 0 l:=⟨_,rfl⟩
 obtain⟨mb,hmb⟩:∃ t,t=mltB n:=⟨_,rfl⟩
 obtain⟨SS,hSS⟩:∃ S:ByteArray,S=⟨s.toArray⟩:=⟨_,rfl⟩
 rw[<- hkb,<- hSS]at HKP;rw[<- hSS]at HR;rw[<- hmb]at HM;rw[<- hkb,<- hSS,<- hmb];clear ht hf htk hkc hok hkb hSS hmb;have hb1:Bel w (w.alloc (.cells #[.int .u8 k,SS,.int .u8 n,p.a,p.l,p.c,.slice A l c] 50)):=(Bel.refl w).alloc _;have q1:=blk1 w (.cells #[.int .u8 k,SS,.int .u8 n,p.a,p.l,p.c,.slice A l c] 50);have HB1:=hid hb1;have HQ1:=hid q1;clear hb1 q1;obtain⟨hd,hhd⟩:∃ b,b=(if k=3 then mb else decide (n=0)):=⟨_,rfl⟩
 rw[<- hhd];have HHD:=hid hhd;clear hhd;have fin:∀ W,Bel w W->W.heap[w.heap.size]?=some (.cells #[.int .u8 k,SS,.int .u8 n,p.a,p.l,p.c,.slice A l c] 50 (0,0))->True:=fun _ _ _=>trivial;clear fin;by_cases k3:k=3
 ·subst k3
  obtain rfl:hd=mb:=by rw[HHD.out,if_pos rfl]
  go_enter Tryz.func125,Tryz.ntmps125
  go_wp2_with fail
  refine (HM.out _).mono ?_;rintro e w1 ⟨rfl,rfl⟩;cases hd
  ·go_wp2_with fail
   go_ret
   exact⟨rfl,HB1.out⟩
  ·go_wp2_with fail
   refine (HR.out _).mono ?_;rintro e w2 ⟨rfl,hb2⟩;have HB2:=hid (HB1.out.on hb2);have q2:=hb2.blk HQ1.out;obtain⟨x0,x1,x2,x3,x4,x5,x6⟩:=box7 q2;have hlt:w.heap.size<w2.heap.size:=(Array.getElem?_eq_some_iff.1 q2).1;clear hb2 q2 HR;cases ok
   ·go_wp2_with fail
    go_ret
    exact⟨rfl,HB2.out.alloc _⟩
   ·go_wp2_with fail
    refine (HKP.out _ (HB2.out.alloc _)).mono ?_;rintro e w3 ⟨rfl,hb3⟩;have HB3:=hid ((HB2.out.alloc _).on hb3);clear hb3 x0 x1 x2 x3 x4 x5 x6;go_wp2_with fail
    go_ret
    exact⟨by simp,HB3.out⟩
 ·have d3:(k==3)=false:=by simpa using k3
  have d4:(k != 3)=true:=by simpa using k3
  by_cases n0:n=0
  ·subst n0
   obtain rfl:hd=true:=by rw[HHD.out,if_neg k3];rfl
   go_enter Tryz.func125,Tryz.ntmps125
   go_wp2_with fail
   refine (HR.out _).mono ?_;rintro e w2 ⟨rfl,hb2⟩;have HB2:=hid (HB1.out.on hb2);have q2:=hb2.blk HQ1.out;obtain⟨x0,x1,x2,x3,x4,x5,x6⟩:=box7 q2;have hlt:w.heap.size<w2.heap.size:=(Array.getElem?_eq_some_iff.1 q2).1;clear hb2 q2 HR;cases ok
   ·go_wp2_with fail
    go_ret
    exact⟨rfl,HB2.out.alloc _⟩
   ·go_wp2_with fail
    refine (HKP.out _ (HB2.out.alloc _)).mono ?_;rintro e w3 ⟨rfl,hb3⟩;have HB3:=hid ((HB2.out.alloc _).on hb3);clear hb3 x0 x1 x2 x3 x4 x5 x6;go_wp2_with fail
    go_ret
    exact⟨by simp,HB3.out⟩
  ·obtain rfl:hd=false:=by rw[HHD.out,if_neg k3];simp[n0]
   have d5:(n != 0)=true:=by simpa using n0
   go_enter Tryz.func125,Tryz.ntmps125
   go_wp2_with fail
   go_ret
   exact⟨rfl,HB1.out⟩
theorem zd{w:World}{g:Nat}{x0 x1 x2 x3 x4 x5:Value}(h:w.heap[g]?=some (.cells #[x0,x1,x2,x3,x4,x5] 37 (0,0))):(loadVar 37 ⟨g,0,none⟩).run Tryz.prog w=.ok (.agg #[x0,x1,x2,x3,x4,x5]) w:=by
 have c0:w.cell? ⟨g,0,none⟩=some x0:=by simp[World.cell?,h]
 have c1:w.cell? ⟨g,1,none⟩=some x1:=by simp[World.cell?,h]
 have c2:w.cell? ⟨g,2,none⟩=some x2:=by simp[World.cell?,h]
 have c3:w.cell? ⟨g,3,none⟩=some x3:=by simp[World.cell?,h]
 have c4:w.cell? ⟨g,4,none⟩=some x4:=by simp[World.cell?,h]
 have c5:w.cell? ⟨g,5,none⟩=some x5:=by simp[World.cell?,h]
 simp[loadVar,go_sem,c0,c1,c2,c3,c4,c5]
def tokV(k:Int)(S:ByteArray):Value:= .agg #[.int .u8 k,.string S,.int .i64 0,.int .i64 0,.int .i64 0,.int .i64 0]
theorem qS(S:ByteArray)(w:World):Calls Tryz.prog 48 #[.string S] w fun e w'=>e=.returned (tokV 1 S)/\Bel w w':=by
 go_enter Tryz.func48,Tryz.ntmps48
 go_wp2_with fail
 have hb:Bel w (w.alloc (.cells #[.int .u8 1,S,(0:Int),(0:Int),(0:Int),(0:Int)] 37)):=(Bel.refl w).alloc _;have hq:=zd (blk1 w (.cells #[.int .u8 1,S,(0:Int),(0:Int),(0:Int),(0:Int)] 37))
 (try simp only[Exit.inBlock,Exit.then])
 refine bodyPost_ret (qf (v:=tokV 1 S) rfl _ _ _ rfl hq) rfl ?_;exact⟨rfl,hb⟩
theorem jV(S:ByteArray)(w:World):Calls Tryz.prog 90 #[.string S] w fun e w'=>e=.returned (tokV 2 S)/\Bel w w':=by
 go_enter Tryz.func90,Tryz.ntmps90
 go_wp2_with fail
 have hb:Bel w (w.alloc (.cells #[.int .u8 2,S,(0:Int),(0:Int),(0:Int),(0:Int)] 37)):=(Bel.refl w).alloc _;have hq:=zd (blk1 w (.cells #[.int .u8 2,S,(0:Int),(0:Int),(0:Int),(0:Int)] 37))
 (try simp only[Exit.inBlock,Exit.then])
 refine bodyPost_ret (qf (v:=tokV 2 S) rfl _ _ _ rfl hq) rfl ?_;exact⟨rfl,hb⟩
theorem qd(S:ByteArray)(w:World):Calls Tryz.prog 51 #[.string S] w fun e w'=>e=.returned (tokV 5 S)/\Bel w w':=by
 go_enter Tryz.func51,Tryz.ntmps51
 go_wp2_with fail
 have hb:Bel w (w.alloc (.cells #[.int .u8 5,S,(0:Int),(0:Int),(0:Int),(0:Int)] 37)):=(Bel.refl w).alloc _;have hq:=zd (blk1 w (.cells #[.int .u8 5,S,(0:Int),(0:Int),(0:Int),(0:Int)] 37))
 (try simp only[Exit.inBlock,Exit.then])
 refine bodyPost_ret (qf (v:=tokV 5 S) rfl _ _ _ rfl hq) rfl ?_;exact⟨rfl,hb⟩
theorem qe5:(Tryz.prog.info? 37).map (fun i=>(i.zero,i.size,i.bytes))=some (some (.agg #[.int .u8 0,.string ⟨#[]⟩,(0:Int),(0:Int),(0:Int),(0:Int)]),6,56):=by kernel_rfl
def Wri(W:World)(base wp:Nat)(xs:List Tn):Prop:=
 wp<base/\base<=W.heap.size/\∃ A n c,W.heap[wp]?=some (.cells #[.slice A n c] 68 (0,0))/\n=xs.length/\W.ownsRow base 37 6 (.slice A n c) n (zo xs)
def Bx(W:World)(wp k:Nat)(o:Obj):Prop:=W.heap[k]?=some o/\k≠wp/\∀ v,W.cell? ⟨wp,0,none⟩=some v->v.ownBlock≠some k
def KpW(W W':World)(wp:Nat):Prop:=∀ k o,Bx W wp k o->Bx W' wp k o
theorem KpW.refl(W:World)(wp:Nat):KpW W W wp:=fun _ _ h=>h
theorem KpW.on{W W' W'':World}{wp:Nat}(h:KpW W W' wp)(k:KpW W' W'' wp):KpW W W'' wp:=fun b o hb=>k b o (h b o hb)
theorem KpW.of_bel{W W':World}{wp:Nat}(hw:wp<W.heap.size)(h:Bel W W'):KpW W W' wp:=fun k o ⟨h1,h2,h3⟩=>
 ⟨h.blk h1,h2,fun v hv=>h3 v (by rw[<- hv];exact (h.cell (p:=⟨wp,0,none⟩) hw).symm)⟩
theorem Wri.lt{W:World}{base wp:Nat}{xs:List Tn}(h:Wri W base wp xs):wp<W.heap.size:=Nat.lt_of_lt_of_le h.1 h.2.1
theorem Wri.own_lt{W:World}{base wp:Nat}{xs:List Tn}(h:Wri W base wp xs){v:Value}(hv:W.cell? ⟨wp,0,none⟩=some v){k:Nat}(hk:v.ownBlock=some k):k<W.heap.size:=by
 obtain⟨_,_,A,n,c,hc,_,ho⟩:=h;have c0:W.cell? ⟨wp,0,none⟩=some (.slice A n c):=by simp[World.cell?,hc]
 rw[c0]at hv;obtain rfl:_=v:=Option.some.inj hv;exact (ho.lt k hk).2
theorem Wri.bel{W W':World}{base wp:Nat}{xs:List Tn}(h:Wri W base wp xs)(hb:Bel W W'):Wri W' base wp xs:=by
 obtain⟨h1,h2,A,n,c,h3,h4,h5⟩:=h;refine⟨h1,Nat.le_trans h2 hb.size,A,n,c,hb.blk h3,h4,h5.1,?_⟩;rcases h5.2 with h0 | ⟨g,cap,cur,hv,hbg,hg,rest⟩
 ·exact .inl h0
 ·exact .inr ⟨g,cap,cur,hv,hbg,hb.blk hg,rest⟩
theorem Bx.new{W:World}{base wp:Nat}{xs:List Tn}(h:Wri W base wp xs)(o:Obj):Bx (W.alloc o) wp W.heap.size o:=by
 refine⟨blk1 W o,by have:=h.lt;omega,fun v hv e=>?_⟩;have hc:W.cell? ⟨wp,0,none⟩=some v:=by
  rw[<- hv];exact (((Bel.refl W).alloc o).cell (p:=⟨wp,0,none⟩) h.lt).symm
 have:=h.own_lt hc e;omega
def qeB(xs ls:List Tn):List Tn:=if xs.length<=4000 then xs++ls else xs
theorem qbn{w:World}{g:Nat}{t:TypeId}{x:Value}(h:w.heap[g]?=some (.cells #[x] t (0,0)))(u:Value):(w.setCell ⟨g,0,none⟩ u).heap[g]?=some (.cells #[u] t (0,0)):=by
 simp[World.setCell,Array.getElem?_modify,h]
theorem qfI(base wp:Nat)(xs ls:List Tn)(LA:Addr)(ln lc:Nat)(w0 W:World)(hW:Bel w0 W)(hwp:w0.heap.size<=wp)(hw:Wri W base wp xs)(hx:xs.length<=1000000)(hl:ls.length<=1000000)(hln:ln=ls.length)(hl0:0<ln)(hc:∀ j u,(zo ls)[j]?=some u->W.cell? (LA.add j)=some u)(h1:∀ u∈zo ls,u.oneCell'=true) :
  Calls Tryz.prog 50 #[.pointer (some ⟨wp,0,none⟩),.slice (some LA) ln lc] W fun e w'=>e=.returned (.tuple #[])/\Bel w0 w'/\Wri w' base wp (qeB xs ls)/\KpW W w' wp:=by
 obtain⟨hwb,hbs,A,n,c,hcell,hn,ho⟩:=hw;have hwl:wp<W.heap.size:=by omega
 have HLN:=hid hln;have hl2:ln<=1000000:=by omega
 clear hln;have c0:W.cell? ⟨wp,0,none⟩=some (.slice A n c):=by simp[World.cell?,hcell]
 unfold qeB;by_cases h4:xs.length<=4000
 case neg=>
  rw[if_neg h4];have h4':¬ ((n:Int)<=4000):=by omega
  have HF:Hid (Bel w0 W/\Wri W base wp xs):=hid ⟨hW,hwb,hbs,A,n,c,hcell,hn,ho⟩;clear hc h1 ho hcell hW hn;go_enter Tryz.func50,Tryz.ntmps50
  go_wp2_with fail
  go_end0
  exact⟨rfl,HF.out.1,HF.out.2,KpW.refl _ _⟩
 rw[if_pos h4];have h4':(n:Int)<=4000:=by omega
 have hn4:n<=1000000:=by omega
 have HN:=hid hn;clear hn;obtain⟨i0,hi0,hz0,hz1,hz2⟩:=info_parts qe5;go_enter Tryz.func50,Tryz.ntmps50
 go_wp2_with (at_builtin;refine jB ?_)
 unfold jj;refine wpList_append_own_at _ rfl _ _ 28 rfl base 37 i0 _ 6 56 Tryz.underlying28 hi0 hz0 hz1 hz2 rfl (by decide) (.slice A n c) n _ rfl ho LA ln lc (zo ls) rfl (by rw[JK,HLN.out]) hc h1 (by unfold maxLen;omega) (by omega) hbs ?_;intro v' w5 hown5 hg5 _ hob5;obtain⟨g5,c5,rfl⟩:∃ g c,v'=.slice (some ⟨g,0,none⟩) (n+ln) c:=by
  obtain⟨g,c,hv,_⟩:=hown5.form (by omega);exact⟨g,c,hv⟩
 have hlt:=ho.lt;have hcell5:w5.heap[wp]?=some (.cells #[.slice A n c] 68 (0,0)):=(hg5.block wp hwl (fun e=>by have:=(hlt wp e.symm).1;omega)).trans hcell;have c5':w5.cell? ⟨wp,0,none⟩=some (.slice A n c):=by simp[World.cell?,hcell5]
 have f5:w5.frozen? ⟨wp,0,none⟩=false:=by simp[World.frozen?,hcell5]
 have hb5:Bel w0 w5:=Below.grown hW hg5 (by have:=hW.size;omega) (fun x hx=>by have h:=(hlt x hx).1;omega);have hwl5:wp<w5.heap.size:=Nat.lt_of_lt_of_le hwl hg5.size;have HF:Hid (Bel w0 (w5.setCell ⟨wp,0,none⟩ (.slice (some ⟨g5,0,none⟩) (n+ln) c5))/\Wri (w5.setCell ⟨wp,0,none⟩ (.slice (some ⟨g5,0,none⟩) (n+ln) c5)) base wp (xs++ls)/\KpW W (w5.setCell ⟨wp,0,none⟩ (.slice (some ⟨g5,0,none⟩) (n+ln) c5)) wp):=hid ⟨hb5.set_ hwp _,⟨hwb,by have:=hg5.size;simp[World.setCell];omega,_,_,_,qbn hcell5 _,by rw[List.length_append,HN.out,HLN.out],by
   have h:=qZ hown5 (p:=⟨wp,0,none⟩) (by show wp<base;omega) (.slice (some ⟨g5,0,none⟩) (n+ln) c5);rw[zo,List.flatMap_append];exact h⟩,fun k o ⟨q1,q2,q3⟩=>by
   have hk:k<W.heap.size:=(Array.getElem?_eq_some_iff.1 q1).1;have q4:=q3 _ c0;refine⟨?_,q2,fun v hv e=>?_⟩
   ·rw[Below.heap_setCell _ _ _ _ q2,hg5.block k hk (fun e=>q4 e.symm)]
    exact q1
   ·have hv':v=.slice (some ⟨g5,0,none⟩) (n+ln) c5:=by
     have:=qbn hcell5 (.slice (some ⟨g5,0,none⟩) (n+ln) c5);simpa [World.cell?,this] using hv.symm
    subst hv';rcases hob5 with e5 | e5
    ·rw[e5]at e
     exact q4 e
    ·rw[e5]at e
     have:=Option.some.inj e;omega⟩
 clear hown5 hg5 hob5 hlt hb5 ho hc h1 hcell hW;go_wp2_with fail
 go_end0
 exact⟨rfl,HF.out⟩
end Go.Proofs.YtfpoelklhekfaaaGreatDoor.Mu
namespace Go.Proofs.YtfpoelklhekfaaaGreatDoor.Mu
open Go Go.RowKit Go.Shelf
set_option linter.unusedVariables false
def WrR(xs F r:List Tn):Prop:=(4000<xs.length->r=xs)/\r <+: xs++F/\(r=xs++F∨4000<r.length)
theorem WrR.nil(xs:List Tn):WrR xs [] xs:=⟨fun _=>rfl,by simp,.inl (by simp)⟩
theorem WrR.put(xs ls:List Tn):WrR xs ls (qeB xs ls):=by
 unfold qeB;by_cases h:xs.length<=4000
 ·rw[if_pos h];exact⟨fun h4=>by omega,List.prefix_refl _,.inl rfl⟩
 ·rw[if_neg h];exact⟨fun _=>rfl,List.prefix_append _ _,.inr (by omega)⟩
theorem WrR.on{xs F G r s:List Tn}(h:WrR xs F r)(k:WrR r G s):WrR xs (F++G) s:=by
 obtain⟨h1,h2,h3⟩:=h;obtain⟨k1,k2,k3⟩:=k;refine⟨fun h4=>?_,?_,?_⟩
 ·have e:=h1 h4
  subst e;exact k1 h4
 ·rcases h3 with h3 | h3
  ·subst h3
   rw[<- List.append_assoc];exact k2
  ·rw[k1 h3,<- List.append_assoc]
   exact h2.trans (List.prefix_append _ _)
 ·rcases k3 with k3 | k3
  ·rcases h3 with h3 | h3
   ·left
    rw[k3,h3,List.append_assoc]
   ·right
    rw[k1 h3];exact h3
  ·exact .inr k3
theorem WrR.len{xs F r:List Tn}(h:WrR xs F r):r.length<=xs.length+F.length:=by
 have:=h.2.1.length_le;simpa using this
theorem WrR.from0{F r:List Tn}(h:WrR [] F r):r <+: F/\(r=F∨4000<r.length):=by
 have:=h.2;simpa using this
def tk0(k:Int)(s:List UInt8)(n:Int):Tn:=⟨k,s,n,⟨0,0,0⟩⟩
def brkL(alone:Bool)(F:List Tn):List Tn:=if alone then F else tk0 5 [40] 0::F++[tk0 5 [41] 0]
def qI(m:Int):Tn:=if m=1 then tk0 3 [] 1 else if m=2 then tk0 5 [63] 0 else tk0 5 [42] 0
def qW(m:Int):Tn:=if m=1 then tk0 5 [45,49,62] 0 else if m=2 then tk0 5 [45,63,62] 0 else tk0 5 [45,42,62] 0
end Go.Proofs.YtfpoelklhekfaaaGreatDoor.Mu
namespace Go.Proofs.YtfpoelklhekfaaaGreatDoor.Mu
open Go Go.RowKit Go.Shelf
attribute [local go_sem] Oper.semAt_some
set_option linter.unusedVariables false
set_option maxRecDepth 100000
def alnE(k:Int)(l:Nat):Bool:=decide (k=1) || decide (k=2) || decide (k=3) || (decide (k=9)&&decide (l=0))
def alnF(k:Int)(l:Nat):Bool:=alnE k l && !decide (k=9)
def alnP(k:Int)(l:Nat):Bool:=!decide (k=5) || decide (l=0)
def alnT(k:Int)(l:Nat):Bool:=decide (k=1) || (decide (k=2)&&decide (l=0))
theorem J8(k:Int)(S:ByteArray)(n:Int)(p:Pl)(A:Option Addr)(l c:Nat)(w:World):Calls Tryz.prog 93 #[.agg #[.int .u8 k,S,.int .u8 n,p.a,p.l,p.c,.slice A l c]] w (qz (alnT k l) w):=by
 have e0:((l:Int)==0)=decide (l=0):=by by_cases h:l=0 <;> simp[h]
 unfold alnT;by_cases h1:k=1
 ·subst h1
  go_enter Tryz.func93,Tryz.ntmps93
  go_wp2_with fail
  go_ret
  exact⟨rfl,(Bel.refl w).alloc _⟩
 have k1:(k==1)=false:=by simpa using h1
 by_cases h2:k=2
 ·subst h2
  go_enter Tryz.func93,Tryz.ntmps93
  go_wp2_with fail
  go_ret
  exact⟨by simp,(Bel.refl w).alloc _⟩
 have k2:(k==2)=false:=by simpa using h2
 have e:(decide (k=1) || (decide (k=2)&&decide (l=0)))=false:=by simp[h1,h2]
 rw[e];clear h1 h2 e e0;go_enter Tryz.func93,Tryz.ntmps93
 go_wp2_with fail
 go_ret
 exact⟨rfl,(Bel.refl w).alloc _⟩
theorem Jt(k:Int)(S:ByteArray)(n:Int)(p:Pl)(A:Option Addr)(l c:Nat)(w:World):Calls Tryz.prog 143 #[.agg #[.int .u8 k,S,n,p.a,p.l,p.c,.slice A l c]] w (qz (alnP k l) w):=by
 have e0:((l:Int)==0)=decide (l=0):=by by_cases h:l=0 <;> simp[h]
 unfold alnP;by_cases h1:k=5
 ·subst h1
  go_enter Tryz.func143,Tryz.ntmps143
  go_wp2_with fail
  go_ret
  exact⟨by simp,(Bel.refl w).alloc _⟩
 have k1:(k==5)=false:=by simpa using h1
 have e:(!decide (k=5) || decide (l=0))=true:=by simp[h1]
 rw[e];have k1':(k != 5)=true:=by simp[h1]
 clear e e0;go_enter Tryz.func143,Tryz.ntmps143
 go_wp2_with fail
 go_ret
 exact⟨rfl,(Bel.refl w).alloc _⟩
theorem jG(k:Int)(S:ByteArray)(n:Int)(p:Pl)(A:Option Addr)(l c:Nat)(B:Option Addr)(m d:Nat)(w:World):Calls Tryz.prog 84 #[.agg #[.int .u8 k,S,n,p.a,p.l,p.c,.slice A l c,.slice B m d]] w (qz (alnE k l) w):=by
 have e0:((l:Int)==0)=decide (l=0):=by by_cases h:l=0 <;> simp[h]
 unfold alnE;by_cases h1:k=1
 ·subst h1
  go_enter Tryz.func84,Tryz.ntmps84
  go_wp2_with fail
  go_ret
  exact⟨rfl,(Bel.refl w).alloc _⟩
 have k1:(k==1)=false:=by simpa using h1
 by_cases h2:k=2
 ·subst h2
  go_enter Tryz.func84,Tryz.ntmps84
  go_wp2_with fail
  go_ret
  exact⟨rfl,(Bel.refl w).alloc _⟩
 have k2:(k==2)=false:=by simpa using h2
 by_cases h3:k=3
 ·subst h3
  go_enter Tryz.func84,Tryz.ntmps84
  go_wp2_with fail
  go_ret
  exact⟨rfl,(Bel.refl w).alloc _⟩
 have k3:(k==3)=false:=by simpa using h3
 by_cases h9:k=9
 ·subst h9
  go_enter Tryz.func84,Tryz.ntmps84
  go_wp2_with fail
  go_ret
  exact⟨by simp,(Bel.refl w).alloc _⟩
 have k9:(k==9)=false:=by simpa using h9
 have e:(decide (k=1) || decide (k=2) || decide (k=3) || (decide (k=9)&&decide (l=0)))=false:=by simp[h1,h2,h3,h9]
 rw[e];clear h1 h2 h3 h9 e e0;go_enter Tryz.func84,Tryz.ntmps84
 go_wp2_with fail
 go_ret
 exact⟨rfl,(Bel.refl w).alloc _⟩
theorem Zo(k:Int)(S:ByteArray)(n:Int)(p:Pl)(A:Option Addr)(l c:Nat)(B:Option Addr)(m d:Nat)(w:World):Calls Tryz.prog 83 #[.agg #[.int .u8 k,S,n,p.a,p.l,p.c,.slice A l c,.slice B m d]] w (qz (alnF k l) w):=by
 have HE:Hid (∀ W,Calls Tryz.prog 84 #[.agg #[.int .u8 k,S,n,p.a,p.l,p.c,.slice A l c,.slice B m d]] W (qz (alnE k l) W)):=hid fun W=>jG k S n p A l c B m d W;unfold alnF;obtain⟨q,hq⟩:∃ q,q=alnE k l:=⟨_,rfl⟩
 rw[<- hq]at HE ⊢;clear hq;have q1:=blk1 w (.cells #[.int .u8 k,S,n,p.a,p.l,p.c,.slice A l c,.slice B m d] 43);have hb:Bel w (w.alloc (.cells #[.int .u8 k,S,n,p.a,p.l,p.c,.slice A l c,.slice B m d] 43)):=(Bel.refl w).alloc _;have HQ:=hid q1;have HB:=hid hb;clear q1 hb;go_enter Tryz.func83,Tryz.ntmps83
 go_wp2_with fail
 refine (HE.out _).mono ?_;rintro e w5 ⟨rfl,hb5⟩;have hq5:=hb5.blk HQ.out;have HB5:=hid (HB.out.on hb5);have x0:=(box8 hq5).1;have kb:w.heap.size<w5.heap.size:=(Array.getElem?_eq_some_iff.1 hq5).1;clear hb5 hq5;cases q
 ·go_wp2_with fail
  go_ret
  exact⟨rfl,HB5.out⟩
 by_cases h9:k=9
 ·subst h9
  go_wp2_with fail
  go_ret
  exact⟨rfl,HB5.out⟩
 have k9:(k==9)=false:=by simpa using h9
 have e:(true && !decide (k=9))=true:=by simp[h9]
 rw[e];clear h9 e;go_wp2_with fail
 go_ret
 exact⟨rfl,HB5.out⟩
theorem jq{w:World}{g:Nat}{t:TypeId}{x0 x1 x2 x3 x4 x5:Value}(h:w.heap[g]?=some (.cells #[x0,x1,x2,x3,x4,x5] t (0,0))) :
  (w.cell? ⟨g,0,none⟩=some x0/\w.cell? ⟨g,1,none⟩=some x1/\w.cell? ⟨g,2,none⟩=some x2/\w.cell? ⟨g,3,none⟩=some x3/\w.cell? ⟨g,4,none⟩=some x4/\w.cell? ⟨g,5,none⟩=some x5) ∧
  w.frozen? ⟨g,0,none⟩=false/\w.frozen? ⟨g,1,none⟩=false/\w.frozen? ⟨g,2,none⟩=false/\w.frozen? ⟨g,3,none⟩=false/\w.frozen? ⟨g,4,none⟩=false/\w.frozen? ⟨g,5,none⟩=false:=by
 simp[World.cell?,World.frozen?,h]
theorem jg{w:World}{g:Nat}{t:TypeId}{x0 x1 x2 x3 x4 x5:Value}(h:w.heap[g]?=some (.cells #[x0,x1,x2,x3,x4,x5] t (0,0)))(y0 y1 y2 y3 y4 y5:Value) :
  ((((((w.setCell ⟨g,0,none⟩ y0).setCell ⟨g,1,none⟩ y1).setCell ⟨g,2,none⟩ y2).setCell ⟨g,3,none⟩ y3).setCell ⟨g,4,none⟩ y4).setCell ⟨g,5,none⟩ y5).heap[g]?=some (.cells #[y0,y1,y2,y3,y4,y5] t (0,0)):=by
 simp[World.setCell,Array.getElem?_modify,h]
def qbl(m:Int):Value:=if m=1 then .agg #[.int .u8 3,.string ⟨#[]⟩,.int .i64 1,.int .i64 0,.int .i64 0,.int .i64 0] else if m=2 then tokV 5 ⟨#[63]⟩ else tokV 5 ⟨#[42]⟩
theorem qda(m:Int)(w:World):Calls Tryz.prog 91 #[.int .u8 m] w fun e w'=>e=.returned (qbl m)/\Bel w w':=by
 have HQ:=hid (blk1 w (.cells #[.int .u8 0,.string ⟨#[]⟩,(0:Int),(0:Int),(0:Int),(0:Int)] 37));have HB:=hid ((Bel.refl w).alloc (.cells #[.int .u8 0,.string ⟨#[]⟩,(0:Int),(0:Int),(0:Int),(0:Int)] 37));unfold qbl;by_cases h1:m=1
 ·subst h1
  rw[if_pos rfl];go_enter Tryz.func91,Tryz.ntmps91
  go_wp2_with fail
  (try simp only[Exit.inBlock,Exit.then])
  refine bodyPost_ret (qf (v:= .agg #[.int .u8 3,.string ⟨#[]⟩,.int .i64 1,(0:Int),(0:Int),(0:Int)]) rfl _ _ _ rfl (zd (blk1 w (.cells #[.int .u8 3,.string ⟨#[]⟩,.int .i64 1,(0:Int),(0:Int),(0:Int)] 37)))) rfl ?_;exact⟨rfl,(Bel.refl w).alloc _⟩
 rw[if_neg h1];have k1:(m==1)=false:=by simpa using h1
 by_cases h2:m=2
 ·subst h2
  rw[if_pos rfl];go_enter Tryz.func91,Tryz.ntmps91
  go_wp2_with fail
  refine (qd _ _).mono ?_;rintro e w5 ⟨rfl,hb5⟩;have hq5:=hb5.blk HQ.out;have HB5:=hid (HB.out.on hb5);have hk:=jq hq5;obtain⟨⟨c0,c1,c2,c3,c4,c5⟩,f0,f1,f2,f3,f4,f5⟩:=hk;have kb:w.heap.size<w5.heap.size:=(Array.getElem?_eq_some_iff.1 hq5).1;clear hb5;unfold tokV;go_wp2_with fail
  (try simp only[Exit.inBlock,Exit.then])
  refine bodyPost_ret (qf (v:= .agg #[.int .u8 5,.string ⟨#[63]⟩,(0:Int),(0:Int),(0:Int),(0:Int)]) rfl _ _ _ rfl (zd (jg hq5 _ _ _ _ _ _))) rfl ?_;exact⟨rfl,(((((HB5.out.set_ (Nat.le_refl _) _).set_ (Nat.le_refl _) _).set_ (Nat.le_refl _) _).set_ (Nat.le_refl _) _).set_ (Nat.le_refl _) _).set_ (Nat.le_refl _) _⟩
 rw[if_neg h2];have k2:(m==2)=false:=by simpa using h2
 go_enter Tryz.func91,Tryz.ntmps91
 go_wp2_with fail
 refine (qd _ _).mono ?_;rintro e w5 ⟨rfl,hb5⟩;have hq5:=hb5.blk HQ.out;have HB5:=hid (HB.out.on hb5);have hk:=jq hq5;obtain⟨⟨c0,c1,c2,c3,c4,c5⟩,f0,f1,f2,f3,f4,f5⟩:=hk;have kb:w.heap.size<w5.heap.size:=(Array.getElem?_eq_some_iff.1 hq5).1;clear hb5;unfold tokV;go_wp2_with fail
 (try simp only[Exit.inBlock,Exit.then])
 refine bodyPost_ret (qf (v:= .agg #[.int .u8 5,.string ⟨#[42]⟩,(0:Int),(0:Int),(0:Int),(0:Int)]) rfl _ _ _ rfl (zd (jg hq5 _ _ _ _ _ _))) rfl ?_;exact⟨rfl,(((((HB5.out.set_ (Nat.le_refl _) _).set_ (Nat.le_refl _) _).set_ (Nat.le_refl _) _).set_ (Nat.le_refl _) _).set_ (Nat.le_refl _) _).set_ (Nat.le_refl _) _⟩
def qa4(m:Int):Value:=if m=1 then tokV 5 ⟨#[45,49,62]⟩ else if m=2 then tokV 5 ⟨#[45,63,62]⟩ else tokV 5 ⟨#[45,42,62]⟩
theorem qcy(m:Int)(w:World):Calls Tryz.prog 126 #[.int .u8 m] w fun e w'=>e=.returned (qa4 m)/\Bel w w':=by
 have HQ:=hid (blk1 w (.cells #[.int .u8 0,.string ⟨#[]⟩,(0:Int),(0:Int),(0:Int),(0:Int)] 37));have HB:=hid ((Bel.refl w).alloc (.cells #[.int .u8 0,.string ⟨#[]⟩,(0:Int),(0:Int),(0:Int),(0:Int)] 37));unfold qa4;by_cases h1:m=1
 ·subst h1
  rw[if_pos rfl];go_enter Tryz.func126,Tryz.ntmps126
  go_wp2_with fail
  refine (qd _ _).mono ?_;rintro e w5 ⟨rfl,hb5⟩;have hq5:=hb5.blk HQ.out;have HB5:=hid (HB.out.on hb5);have hk:=jq hq5;obtain⟨⟨c0,c1,c2,c3,c4,c5⟩,f0,f1,f2,f3,f4,f5⟩:=hk;have kb:w.heap.size<w5.heap.size:=(Array.getElem?_eq_some_iff.1 hq5).1;clear hb5;unfold tokV;go_wp2_with fail
  (try simp only[Exit.inBlock,Exit.then])
  refine bodyPost_ret (qf (v:= .agg #[.int .u8 5,.string ⟨#[45,49,62]⟩,(0:Int),(0:Int),(0:Int),(0:Int)]) rfl _ _ _ rfl (zd (jg hq5 _ _ _ _ _ _))) rfl ?_;exact⟨rfl,(((((HB5.out.set_ (Nat.le_refl _) _).set_ (Nat.le_refl _) _).set_ (Nat.le_refl _) _).set_ (Nat.le_refl _) _).set_ (Nat.le_refl _) _).set_ (Nat.le_refl _) _⟩
 rw[if_neg h1];have k1:(m==1)=false:=by simpa using h1
 by_cases h2:m=2
 ·subst h2
  rw[if_pos rfl];go_enter Tryz.func126,Tryz.ntmps126
  go_wp2_with fail
  refine (qd _ _).mono ?_;rintro e w5 ⟨rfl,hb5⟩;have hq5:=hb5.blk HQ.out;have HB5:=hid (HB.out.on hb5);have hk:=jq hq5;obtain⟨⟨c0,c1,c2,c3,c4,c5⟩,f0,f1,f2,f3,f4,f5⟩:=hk;have kb:w.heap.size<w5.heap.size:=(Array.getElem?_eq_some_iff.1 hq5).1;clear hb5;unfold tokV;go_wp2_with fail
  (try simp only[Exit.inBlock,Exit.then])
  refine bodyPost_ret (qf (v:= .agg #[.int .u8 5,.string ⟨#[45,63,62]⟩,(0:Int),(0:Int),(0:Int),(0:Int)]) rfl _ _ _ rfl (zd (jg hq5 _ _ _ _ _ _))) rfl ?_;exact⟨rfl,(((((HB5.out.set_ (Nat.le_refl _) _).set_ (Nat.le_refl _) _).set_ (Nat.le_refl _) _).set_ (Nat.le_refl _) _).set_ (Nat.le_refl _) _).set_ (Nat.le_refl _) _⟩
 rw[if_neg h2];have k2:(m==2)=false:=by simpa using h2
 go_enter Tryz.func126,Tryz.ntmps126
 go_wp2_with fail
 refine (qd _ _).mono ?_;rintro e w5 ⟨rfl,hb5⟩;have hq5:=hb5.blk HQ.out;have HB5:=hid (HB.out.on hb5);have hk:=jq hq5;obtain⟨⟨c0,c1,c2,c3,c4,c5⟩,f0,f1,f2,f3,f4,f5⟩:=hk;have kb:w.heap.size<w5.heap.size:=(Array.getElem?_eq_some_iff.1 hq5).1;clear hb5;unfold tokV;go_wp2_with fail
 (try simp only[Exit.inBlock,Exit.then])
 refine bodyPost_ret (qf (v:= .agg #[.int .u8 5,.string ⟨#[45,42,62]⟩,(0:Int),(0:Int),(0:Int),(0:Int)]) rfl _ _ _ rfl (zd (jg hq5 _ _ _ _ _ _))) rfl ?_;exact⟨rfl,(((((HB5.out.set_ (Nat.le_refl _) _).set_ (Nat.le_refl _) _).set_ (Nat.le_refl _) _).set_ (Nat.le_refl _) _).set_ (Nat.le_refl _) _).set_ (Nat.le_refl _) _⟩
end Go.Proofs.YtfpoelklhekfaaaGreatDoor.Mu
