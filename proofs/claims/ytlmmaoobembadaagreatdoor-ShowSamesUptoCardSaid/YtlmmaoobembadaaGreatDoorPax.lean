import Derived.Test.YtlmmaoobembadaaGreatDoorPat
open Go.Lib (hid)
namespace Go.Proofs.YtlmmaoobembadaaGreatDoor.Mu
set_option maxHeartbeats 1000000
open Go Go.RowKit Go.Shelf
attribute [local go_sem] Oper.semAt_some
set_option linter.unusedVariables false
set_option maxRecDepth 100000
theorem qfz:(Tryz.prog.info? 51).map (fun i=>(i.zero,i.size,i.bytes))=some (some (.agg #[.int .u8 0,.string ⟨#[]⟩,(0:Int),(0:Int),(0:Int),(0:Int)]),6,56):=by kernel_rfl
def Wri(W:World)(base wp:Nat)(xs:List Tn):Prop:=
 wp<base/\base<=W.heap.size/\∃ A n c,W.heap[wp]?=some (.cells #[.slice A n c] 87 (0,0))/\n=xs.length/\W.ownsRow base 51 6 (.slice A n c) n (zz xs)
def Bx(W:World)(wp k:Nat)(o:Obj):Prop:=W.heap[k]?=some o/\k≠wp/\∀ v,W.cell? ⟨wp,0,none⟩=some v->v.ownBlock≠some k
def KpW(W W':World)(wp:Nat):Prop:=∀ k o,Bx W wp k o->Bx W' wp k o
theorem KpW.refl(W:World)(wp:Nat):KpW W W wp:=fun _ _ h=>h
theorem KpW.on{W W' W'':World}{wp:Nat}(h:KpW W W' wp)(k:KpW W' W'' wp):KpW W W'' wp:=fun b o hb=>k b o (h b o hb)
theorem KpW.of_bel{W W':World}{wp:Nat}(hw:wp<W.heap.size)(h:Bel W W'):KpW W W' wp:=fun k o ⟨h1,h2,h3⟩=>
 ⟨h.blk h1,h2,fun v hv=>h3 v (by rw[<- hv];exact (h.cell (p:=⟨wp,0,none⟩) hw).symm)⟩
theorem Wri.lt{W:World}{base wp:Nat}{xs:List Tn}(h:Wri W base wp xs):wp<W.heap.size:=Nat.lt_of_lt_of_le h.1 h.2.1
theorem Wri.own_lt{W:World}{base wp:Nat}{xs:List Tn}(h:Wri W base wp xs){v:Value}(hv:W.cell? ⟨wp,0,none⟩=some v){k:Nat}(hk:v.ownBlock=some k):k<W.heap.size:=by
 obtain⟨_,_,A,n,c,hc,_,ho⟩:=h;have c0:W.cell? ⟨wp,0,none⟩=some (.slice A n c):=by simp[World.cell?,hc]
 rw[c0]at hv;obtain rfl:_=v:=Option.some.inj hv;exact (ho.lt k hk).2
theorem Wri.bel{W W':World}{base wp:Nat}{xs:List Tn}(h:Wri W base wp xs)(hb:Bel W W'):Wri W' base wp xs:=by
 obtain⟨h1,h2,A,n,c,h3,h4,h5⟩:=h;refine⟨h1,Nat.le_trans h2 hb.size,A,n,c,hb.blk h3,h4,h5.1,?_⟩;rcases h5.2 with h0 | ⟨g,cap,cur,hv,hbg,hg,rest⟩
 ·exact .inl h0
 ·exact .inr ⟨g,cap,cur,hv,hbg,hb.blk hg,rest⟩
theorem Bx.new{W:World}{base wp:Nat}{xs:List Tn}(h:Wri W base wp xs)(o:Obj):Bx (W.alloc o) wp W.heap.size o:=by
 refine⟨blk1 W o,by have:=h.lt;omega,fun v hv e=>?_⟩;have hc:W.cell? ⟨wp,0,none⟩=some v:=by
  rw[<- hv];exact (((Bel.refl W).alloc o).cell (p:=⟨wp,0,none⟩) h.lt).symm
 have:=h.own_lt hc e;omega
def qe3(xs ls:List Tn):List Tn:=if xs.length<=4000 then xs++ls else xs
theorem qbo{w:World}{g:Nat}{t:TypeId}{x:Value}(h:w.heap[g]?=some (.cells #[x] t (0,0)))(u:Value):(w.setCell ⟨g,0,none⟩ u).heap[g]?=some (.cells #[u] t (0,0)):=by
 simp[World.setCell,Array.getElem?_modify,h]
theorem qf9(base wp:Nat)(xs ls:List Tn)(LA:Addr)(ln lc:Nat)(w0 W:World)(hW:Bel w0 W)(hwp:w0.heap.size<=wp)(hw:Wri W base wp xs)(hx:xs.length<=1000000)(hl:ls.length<=1000000)(hln:ln=ls.length)(hl0:0<ln)(hc:∀ j u,(zz ls)[j]?=some u->W.cell? (LA.add j)=some u)(h1:∀ u∈zz ls,u.oneCell'=true) :
  Calls Tryz.prog 85 #[.pointer (some ⟨wp,0,none⟩),.slice (some LA) ln lc] W fun e w'=>e=.returned (.tuple #[])/\Bel w0 w'/\Wri w' base wp (qe3 xs ls)/\KpW W w' wp:=by
 obtain⟨hwb,hbs,A,n,c,hcell,hn,ho⟩:=hw;have hwl:wp<W.heap.size:=by omega
 have HLN:=hid hln;have hl2:ln<=1000000:=by omega
 clear hln;have c0:W.cell? ⟨wp,0,none⟩=some (.slice A n c):=by simp[World.cell?,hcell]
 unfold qe3;by_cases h4:xs.length<=4000
 case neg=>
  rw[if_neg h4];have h4':¬ ((n:Int)<=4000):=by omega
  have HF:Hid (Bel w0 W/\Wri W base wp xs):=hid ⟨hW,hwb,hbs,A,n,c,hcell,hn,ho⟩;clear hc h1 ho hcell hW hn;go_enter Tryz.func85,Tryz.ntmps85
  go_wp2_with fail
  go_end0
  exact⟨rfl,HF.out.1,HF.out.2,KpW.refl _ _⟩
 rw[if_pos h4];have h4':(n:Int)<=4000:=by omega
 have hn4:n<=1000000:=by omega
 have HN:=hid hn;clear hn;obtain⟨i0,hi0,hz0,hz1,hz2⟩:=info_parts qfz;go_enter Tryz.func85,Tryz.ntmps85
 go_wp2_with (at_builtin;refine jd ?_)
 unfold zT;refine wpList_append_own_at _ rfl _ _ 44 rfl base 51 i0 _ 6 56 Tryz.underlying44 hi0 hz0 hz1 hz2 rfl (by decide) (.slice A n c) n _ rfl ho LA ln lc (zz ls) rfl (by rw[JA,HLN.out]) hc h1 (by unfold maxLen;omega) (by omega) hbs ?_;intro v' w5 hown5 hg5 _ hob5;obtain⟨g5,c5,rfl⟩:∃ g c,v'=.slice (some ⟨g,0,none⟩) (n+ln) c:=by
  obtain⟨g,c,hv,_⟩:=hown5.form (by omega);exact⟨g,c,hv⟩
 have hlt:=ho.lt;have hcell5:w5.heap[wp]?=some (.cells #[.slice A n c] 87 (0,0)):=(hg5.block wp hwl (fun e=>by have:=(hlt wp e.symm).1;omega)).trans hcell;have c5':w5.cell? ⟨wp,0,none⟩=some (.slice A n c):=by simp[World.cell?,hcell5]
 have f5:w5.frozen? ⟨wp,0,none⟩=false:=by simp[World.frozen?,hcell5]
 have hb5:Bel w0 w5:=Below.grown hW hg5 (by have:=hW.size;omega) (fun x hx=>by have h:=(hlt x hx).1;omega);have hwl5:wp<w5.heap.size:=Nat.lt_of_lt_of_le hwl hg5.size;have HF:Hid (Bel w0 (w5.setCell ⟨wp,0,none⟩ (.slice (some ⟨g5,0,none⟩) (n+ln) c5))/\Wri (w5.setCell ⟨wp,0,none⟩ (.slice (some ⟨g5,0,none⟩) (n+ln) c5)) base wp (xs++ls)/\KpW W (w5.setCell ⟨wp,0,none⟩ (.slice (some ⟨g5,0,none⟩) (n+ln) c5)) wp):=hid ⟨hb5.set_ hwp _,⟨hwb,by have:=hg5.size;simp[World.setCell];omega,_,_,_,qbo hcell5 _,by rw[List.length_append,HN.out,HLN.out],by
   have h:=zg hown5 (p:=⟨wp,0,none⟩) (by show wp<base;omega) (.slice (some ⟨g5,0,none⟩) (n+ln) c5);rw[zz,List.flatMap_append];exact h⟩,fun k o ⟨q1,q2,q3⟩=>by
   have hk:k<W.heap.size:=(Array.getElem?_eq_some_iff.1 q1).1;have q4:=q3 _ c0;refine⟨?_,q2,fun v hv e=>?_⟩
   ·rw[Below.heap_setCell _ _ _ _ q2,hg5.block k hk (fun e=>q4 e.symm)]
    exact q1
   ·have hv':v=.slice (some ⟨g5,0,none⟩) (n+ln) c5:=by
     have:=qbo hcell5 (.slice (some ⟨g5,0,none⟩) (n+ln) c5);simpa [World.cell?,this] using hv.symm
    subst hv';rcases hob5 with e5 | e5
    ·rw[e5]at e
     exact q4 e
    ·rw[e5]at e
     have:=Option.some.inj e;omega⟩
 clear hown5 hg5 hob5 hlt hb5 ho hc h1 hcell hW;go_wp2_with fail
 go_end0
 exact⟨rfl,HF.out⟩
end Go.Proofs.YtlmmaoobembadaaGreatDoor.Mu
namespace Go.Proofs.YtlmmaoobembadaaGreatDoor.Mu
open Go Go.RowKit Go.Shelf
set_option linter.unusedVariables false
def WrR(xs F r:List Tn):Prop:=(4000<xs.length->r=xs)/\r <+: xs++F/\(r=xs++F∨4000<r.length)
theorem WrR.nil(xs:List Tn):WrR xs [] xs:=⟨fun _=>rfl,by simp,.inl (by simp)⟩
theorem WrR.put(xs ls:List Tn):WrR xs ls (qe3 xs ls):=by
 unfold qe3;by_cases h:xs.length<=4000
 ·rw[if_pos h];exact⟨fun h4=>by omega,List.prefix_refl _,.inl rfl⟩
 ·rw[if_neg h];exact⟨fun _=>rfl,List.prefix_append _ _,.inr (by omega)⟩
theorem WrR.on{xs F G r s:List Tn}(h:WrR xs F r)(k:WrR r G s):WrR xs (F++G) s:=by
 obtain⟨h1,h2,h3⟩:=h;obtain⟨k1,k2,k3⟩:=k;refine⟨fun h4=>?_,?_,?_⟩
 ·have e:=h1 h4
  subst e;exact k1 h4
 ·rcases h3 with h3 | h3
  ·subst h3
   rw[<- List.append_assoc];exact k2
  ·rw[k1 h3,<- List.append_assoc]
   exact h2.trans (List.prefix_append _ _)
 ·rcases k3 with k3 | k3
  ·rcases h3 with h3 | h3
   ·left
    rw[k3,h3,List.append_assoc]
   ·right
    rw[k1 h3];exact h3
  ·exact .inr k3
theorem WrR.len{xs F r:List Tn}(h:WrR xs F r):r.length<=xs.length+F.length:=by
 have:=h.2.1.length_le;simpa using this
theorem WrR.from0{F r:List Tn}(h:WrR [] F r):r <+: F/\(r=F∨4000<r.length):=by
 have:=h.2;simpa using this
def tk0(k:Int)(s:List UInt8)(n:Int):Tn:=⟨k,s,n,⟨0,0,0⟩⟩
def brkL(alone:Bool)(F:List Tn):List Tn:=if alone then F else tk0 5 [40] 0::F++[tk0 5 [41] 0]
def qQ(m:Int):Tn:=if m=1 then tk0 3 [] 1 else if m=2 then tk0 5 [63] 0 else tk0 5 [42] 0
def zq(m:Int):Tn:=if m=1 then tk0 5 [45,49,62] 0 else if m=2 then tk0 5 [45,63,62] 0 else tk0 5 [45,42,62] 0
end Go.Proofs.YtlmmaoobembadaaGreatDoor.Mu
namespace Go.Proofs.YtlmmaoobembadaaGreatDoor.Mu
open Go Go.RowKit Go.Shelf
attribute [local go_sem] Oper.semAt_some
set_option linter.unusedVariables false
set_option maxRecDepth 100000
def alnE(k:Int)(l:Nat):Bool:=decide (k=1) || decide (k=2) || decide (k=3) || (decide (k=9)&&decide (l=0))
def alnF(k:Int)(l:Nat):Bool:=alnE k l && !decide (k=9)
def alnP(k:Int)(l:Nat):Bool:=!decide (k=5) || decide (l=0)
def alnT(k:Int)(l:Nat):Bool:=decide (k=1) || (decide (k=2)&&decide (l=0))
theorem J4(k:Int)(S:ByteArray)(n:Int)(p:Pl)(A:Option Addr)(l c:Nat)(w:World):Calls Tryz.prog 138 #[.agg #[.int .u8 k,S,.int .u8 n,p.a,p.l,p.c,.slice A l c]] w (qi (alnT k l) w):=by
 have e0:((l:Int)==0)=decide (l=0):=by by_cases h:l=0 <;> simp[h]
 unfold alnT;by_cases h1:k=1
 ·subst h1
  go_enter Tryz.func138,Tryz.ntmps138
  go_wp2_with fail
  go_ret
  exact⟨rfl,(Bel.refl w).alloc _⟩
 have k1:(k==1)=false:=by simpa using h1
 by_cases h2:k=2
 ·subst h2
  go_enter Tryz.func138,Tryz.ntmps138
  go_wp2_with fail
  go_ret
  exact⟨by simp,(Bel.refl w).alloc _⟩
 have k2:(k==2)=false:=by simpa using h2
 have e:(decide (k=1) || (decide (k=2)&&decide (l=0)))=false:=by simp[h1,h2]
 rw[e];clear h1 h2 e e0;go_enter Tryz.func138,Tryz.ntmps138
 go_wp2_with fail
 go_ret
 exact⟨rfl,(Bel.refl w).alloc _⟩
theorem Jn(k:Int)(S:ByteArray)(n:Int)(p:Pl)(A:Option Addr)(l c:Nat)(w:World):Calls Tryz.prog 185 #[.agg #[.int .u8 k,S,n,p.a,p.l,p.c,.slice A l c]] w (qi (alnP k l) w):=by
 have e0:((l:Int)==0)=decide (l=0):=by by_cases h:l=0 <;> simp[h]
 unfold alnP;by_cases h1:k=5
 ·subst h1
  go_enter Tryz.func185,Tryz.ntmps185
  go_wp2_with fail
  go_ret
  exact⟨by simp,(Bel.refl w).alloc _⟩
 have k1:(k==5)=false:=by simpa using h1
 have e:(!decide (k=5) || decide (l=0))=true:=by simp[h1]
 rw[e];have k1':(k != 5)=true:=by simp[h1]
 clear e e0;go_enter Tryz.func185,Tryz.ntmps185
 go_wp2_with fail
 go_ret
 exact⟨rfl,(Bel.refl w).alloc _⟩
theorem jC(k:Int)(S:ByteArray)(n:Int)(p:Pl)(A:Option Addr)(l c:Nat)(B:Option Addr)(m d:Nat)(w:World):Calls Tryz.prog 99 #[.agg #[.int .u8 k,S,n,p.a,p.l,p.c,.slice A l c,.slice B m d]] w (qi (alnE k l) w):=by
 have e0:((l:Int)==0)=decide (l=0):=by by_cases h:l=0 <;> simp[h]
 unfold alnE;by_cases h1:k=1
 ·subst h1
  go_enter Tryz.func99,Tryz.ntmps99
  go_wp2_with fail
  go_ret
  exact⟨rfl,(Bel.refl w).alloc _⟩
 have k1:(k==1)=false:=by simpa using h1
 by_cases h2:k=2
 ·subst h2
  go_enter Tryz.func99,Tryz.ntmps99
  go_wp2_with fail
  go_ret
  exact⟨rfl,(Bel.refl w).alloc _⟩
 have k2:(k==2)=false:=by simpa using h2
 by_cases h3:k=3
 ·subst h3
  go_enter Tryz.func99,Tryz.ntmps99
  go_wp2_with fail
  go_ret
  exact⟨rfl,(Bel.refl w).alloc _⟩
 have k3:(k==3)=false:=by simpa using h3
 by_cases h9:k=9
 ·subst h9
  go_enter Tryz.func99,Tryz.ntmps99
  go_wp2_with fail
  go_ret
  exact⟨by simp,(Bel.refl w).alloc _⟩
 have k9:(k==9)=false:=by simpa using h9
 have e:(decide (k=1) || decide (k=2) || decide (k=3) || (decide (k=9)&&decide (l=0)))=false:=by simp[h1,h2,h3,h9]
 rw[e];clear h1 h2 h3 h9 e e0;go_enter Tryz.func99,Tryz.ntmps99
 go_wp2_with fail
 go_ret
 exact⟨rfl,(Bel.refl w).alloc _⟩
theorem Zp(k:Int)(S:ByteArray)(n:Int)(p:Pl)(A:Option Addr)(l c:Nat)(B:Option Addr)(m d:Nat)(w:World):Calls Tryz.prog 98 #[.agg #[.int .u8 k,S,n,p.a,p.l,p.c,.slice A l c,.slice B m d]] w (qi (alnF k l) w):=by
 have HE:Hid (∀ W,Calls Tryz.prog 99 #[.agg #[.int .u8 k,S,n,p.a,p.l,p.c,.slice A l c,.slice B m d]] W (qi (alnE k l) W)):=hid fun W=>jC k S n p A l c B m d W;unfold alnF;obtain⟨q,hq⟩:∃ q,q=alnE k l:=⟨_,rfl⟩
 rw[<- hq]at HE ⊢;clear hq;have q1:=blk1 w (.cells #[.int .u8 k,S,n,p.a,p.l,p.c,.slice A l c,.slice B m d] 32);have hb:Bel w (w.alloc (.cells #[.int .u8 k,S,n,p.a,p.l,p.c,.slice A l c,.slice B m d] 32)):=(Bel.refl w).alloc _;have HQ:=hid q1;have HB:=hid hb;clear q1 hb;go_enter Tryz.func98,Tryz.ntmps98
 go_wp2_with fail
 refine (HE.out _).mono ?_;rintro e w5 ⟨rfl,hb5⟩;have hq5:=hb5.blk HQ.out;have HB5:=hid (HB.out.on hb5);have x0:=(box8 hq5).1;have kb:w.heap.size<w5.heap.size:=(Array.getElem?_eq_some_iff.1 hq5).1;clear hb5 hq5;cases q
 ·go_wp2_with fail
  go_ret
  exact⟨rfl,HB5.out⟩
 by_cases h9:k=9
 ·subst h9
  go_wp2_with fail
  go_ret
  exact⟨rfl,HB5.out⟩
 have k9:(k==9)=false:=by simpa using h9
 have e:(true && !decide (k=9))=true:=by simp[h9]
 rw[e];clear h9 e;go_wp2_with fail
 go_ret
 exact⟨rfl,HB5.out⟩
theorem jv{w:World}{g:Nat}{t:TypeId}{x0 x1 x2 x3 x4 x5:Value}(h:w.heap[g]?=some (.cells #[x0,x1,x2,x3,x4,x5] t (0,0))) :
  (w.cell? ⟨g,0,none⟩=some x0/\w.cell? ⟨g,1,none⟩=some x1/\w.cell? ⟨g,2,none⟩=some x2/\w.cell? ⟨g,3,none⟩=some x3/\w.cell? ⟨g,4,none⟩=some x4/\w.cell? ⟨g,5,none⟩=some x5) ∧
  w.frozen? ⟨g,0,none⟩=false/\w.frozen? ⟨g,1,none⟩=false/\w.frozen? ⟨g,2,none⟩=false/\w.frozen? ⟨g,3,none⟩=false/\w.frozen? ⟨g,4,none⟩=false/\w.frozen? ⟨g,5,none⟩=false:=by
 simp[World.cell?,World.frozen?,h]
theorem jl{w:World}{g:Nat}{t:TypeId}{x0 x1 x2 x3 x4 x5:Value}(h:w.heap[g]?=some (.cells #[x0,x1,x2,x3,x4,x5] t (0,0)))(y0 y1 y2 y3 y4 y5:Value) :
  ((((((w.setCell ⟨g,0,none⟩ y0).setCell ⟨g,1,none⟩ y1).setCell ⟨g,2,none⟩ y2).setCell ⟨g,3,none⟩ y3).setCell ⟨g,4,none⟩ y4).setCell ⟨g,5,none⟩ y5).heap[g]?=some (.cells #[y0,y1,y2,y3,y4,y5] t (0,0)):=by
 simp[World.setCell,Array.getElem?_modify,h]
def qbn(m:Int):Value:=if m=1 then .agg #[.int .u8 3,.string ⟨#[]⟩,.int .i64 1,.int .i64 0,.int .i64 0,.int .i64 0] else if m=2 then tokV 5 ⟨#[63]⟩ else tokV 5 ⟨#[42]⟩
theorem qdw(m:Int)(w:World):Calls Tryz.prog 136 #[.int .u8 m] w fun e w'=>e=.returned (qbn m)/\Bel w w':=by
 have HQ:=hid (blk1 w (.cells #[.int .u8 0,.string ⟨#[]⟩,(0:Int),(0:Int),(0:Int),(0:Int)] 51));have HB:=hid ((Bel.refl w).alloc (.cells #[.int .u8 0,.string ⟨#[]⟩,(0:Int),(0:Int),(0:Int),(0:Int)] 51));unfold qbn;by_cases h1:m=1
 ·subst h1
  rw[if_pos rfl];go_enter Tryz.func136,Tryz.ntmps136
  go_wp2_with fail
  (try simp only[Exit.inBlock,Exit.then])
  refine bodyPost_ret (qf (v:= .agg #[.int .u8 3,.string ⟨#[]⟩,.int .i64 1,(0:Int),(0:Int),(0:Int)]) rfl _ _ _ rfl (zl (blk1 w (.cells #[.int .u8 3,.string ⟨#[]⟩,.int .i64 1,(0:Int),(0:Int),(0:Int)] 51)))) rfl ?_;exact⟨rfl,(Bel.refl w).alloc _⟩
 rw[if_neg h1];have k1:(m==1)=false:=by simpa using h1
 by_cases h2:m=2
 ·subst h2
  rw[if_pos rfl];go_enter Tryz.func136,Tryz.ntmps136
  go_wp2_with fail
  refine (qd _ _).mono ?_;rintro e w5 ⟨rfl,hb5⟩;have hq5:=hb5.blk HQ.out;have HB5:=hid (HB.out.on hb5);have hk:=jv hq5;obtain⟨⟨c0,c1,c2,c3,c4,c5⟩,f0,f1,f2,f3,f4,f5⟩:=hk;have kb:w.heap.size<w5.heap.size:=(Array.getElem?_eq_some_iff.1 hq5).1;clear hb5;unfold tokV;go_wp2_with fail
  (try simp only[Exit.inBlock,Exit.then])
  refine bodyPost_ret (qf (v:= .agg #[.int .u8 5,.string ⟨#[63]⟩,(0:Int),(0:Int),(0:Int),(0:Int)]) rfl _ _ _ rfl (zl (jl hq5 _ _ _ _ _ _))) rfl ?_;exact⟨rfl,(((((HB5.out.set_ (Nat.le_refl _) _).set_ (Nat.le_refl _) _).set_ (Nat.le_refl _) _).set_ (Nat.le_refl _) _).set_ (Nat.le_refl _) _).set_ (Nat.le_refl _) _⟩
 rw[if_neg h2];have k2:(m==2)=false:=by simpa using h2
 go_enter Tryz.func136,Tryz.ntmps136
 go_wp2_with fail
 refine (qd _ _).mono ?_;rintro e w5 ⟨rfl,hb5⟩;have hq5:=hb5.blk HQ.out;have HB5:=hid (HB.out.on hb5);have hk:=jv hq5;obtain⟨⟨c0,c1,c2,c3,c4,c5⟩,f0,f1,f2,f3,f4,f5⟩:=hk;have kb:w.heap.size<w5.heap.size:=(Array.getElem?_eq_some_iff.1 hq5).1;clear hb5;unfold tokV;go_wp2_with fail
 (try simp only[Exit.inBlock,Exit.then])
 refine bodyPost_ret (qf (v:= .agg #[.int .u8 5,.string ⟨#[42]⟩,(0:Int),(0:Int),(0:Int),(0:Int)]) rfl _ _ _ rfl (zl (jl hq5 _ _ _ _ _ _))) rfl ?_;exact⟨rfl,(((((HB5.out.set_ (Nat.le_refl _) _).set_ (Nat.le_refl _) _).set_ (Nat.le_refl _) _).set_ (Nat.le_refl _) _).set_ (Nat.le_refl _) _).set_ (Nat.le_refl _) _⟩
def qa7(m:Int):Value:=if m=1 then tokV 5 ⟨#[45,49,62]⟩ else if m=2 then tokV 5 ⟨#[45,63,62]⟩ else tokV 5 ⟨#[45,42,62]⟩
theorem qcR(m:Int)(w:World):Calls Tryz.prog 176 #[.int .u8 m] w fun e w'=>e=.returned (qa7 m)/\Bel w w':=by
 have HQ:=hid (blk1 w (.cells #[.int .u8 0,.string ⟨#[]⟩,(0:Int),(0:Int),(0:Int),(0:Int)] 51));have HB:=hid ((Bel.refl w).alloc (.cells #[.int .u8 0,.string ⟨#[]⟩,(0:Int),(0:Int),(0:Int),(0:Int)] 51));unfold qa7;by_cases h1:m=1
 ·subst h1
  rw[if_pos rfl];go_enter Tryz.func176,Tryz.ntmps176
  go_wp2_with fail
  refine (qd _ _).mono ?_;rintro e w5 ⟨rfl,hb5⟩;have hq5:=hb5.blk HQ.out;have HB5:=hid (HB.out.on hb5);have hk:=jv hq5;obtain⟨⟨c0,c1,c2,c3,c4,c5⟩,f0,f1,f2,f3,f4,f5⟩:=hk;have kb:w.heap.size<w5.heap.size:=(Array.getElem?_eq_some_iff.1 hq5).1;clear hb5;unfold tokV;go_wp2_with fail
  (try simp only[Exit.inBlock,Exit.then])
  refine bodyPost_ret (qf (v:= .agg #[.int .u8 5,.string ⟨#[45,49,62]⟩,(0:Int),(0:Int),(0:Int),(0:Int)]) rfl _ _ _ rfl (zl (jl hq5 _ _ _ _ _ _))) rfl ?_;exact⟨rfl,(((((HB5.out.set_ (Nat.le_refl _) _).set_ (Nat.le_refl _) _).set_ (Nat.le_refl _) _).set_ (Nat.le_refl _) _).set_ (Nat.le_refl _) _).set_ (Nat.le_refl _) _⟩
 rw[if_neg h1];have k1:(m==1)=false:=by simpa using h1
 by_cases h2:m=2
 ·subst h2
  rw[if_pos rfl];go_enter Tryz.func176,Tryz.ntmps176
  go_wp2_with fail
  refine (qd _ _).mono ?_;rintro e w5 ⟨rfl,hb5⟩;have hq5:=hb5.blk HQ.out;have HB5:=hid (HB.out.on hb5);have hk:=jv hq5;obtain⟨⟨c0,c1,c2,c3,c4,c5⟩,f0,f1,f2,f3,f4,f5⟩:=hk;have kb:w.heap.size<w5.heap.size:=(Array.getElem?_eq_some_iff.1 hq5).1;clear hb5;unfold tokV;go_wp2_with fail
  (try simp only[Exit.inBlock,Exit.then])
  refine bodyPost_ret (qf (v:= .agg #[.int .u8 5,.string ⟨#[45,63,62]⟩,(0:Int),(0:Int),(0:Int),(0:Int)]) rfl _ _ _ rfl (zl (jl hq5 _ _ _ _ _ _))) rfl ?_;exact⟨rfl,(((((HB5.out.set_ (Nat.le_refl _) _).set_ (Nat.le_refl _) _).set_ (Nat.le_refl _) _).set_ (Nat.le_refl _) _).set_ (Nat.le_refl _) _).set_ (Nat.le_refl _) _⟩
 rw[if_neg h2];have k2:(m==2)=false:=by simpa using h2
 go_enter Tryz.func176,Tryz.ntmps176
 go_wp2_with fail
 refine (qd _ _).mono ?_;rintro e w5 ⟨rfl,hb5⟩;have hq5:=hb5.blk HQ.out;have HB5:=hid (HB.out.on hb5);have hk:=jv hq5;obtain⟨⟨c0,c1,c2,c3,c4,c5⟩,f0,f1,f2,f3,f4,f5⟩:=hk;have kb:w.heap.size<w5.heap.size:=(Array.getElem?_eq_some_iff.1 hq5).1;clear hb5;unfold tokV;go_wp2_with fail
 (try simp only[Exit.inBlock,Exit.then])
 refine bodyPost_ret (qf (v:= .agg #[.int .u8 5,.string ⟨#[45,42,62]⟩,(0:Int),(0:Int),(0:Int),(0:Int)]) rfl _ _ _ rfl (zl (jl hq5 _ _ _ _ _ _))) rfl ?_;exact⟨rfl,(((((HB5.out.set_ (Nat.le_refl _) _).set_ (Nat.le_refl _) _).set_ (Nat.le_refl _) _).set_ (Nat.le_refl _) _).set_ (Nat.le_refl _) _).set_ (Nat.le_refl _) _⟩
end Go.Proofs.YtlmmaoobembadaaGreatDoor.Mu
namespace Go.Proofs.YtlmmaoobembadaaGreatDoor.Mu
open Go Go.RowKit Go.Shelf
set_option linter.unusedVariables false
def WrQ(w0:World)(base wp:Nat)(xs F:List Tn)(W:World):Ending->World->Prop:=fun e w'=>e=.returned (.tuple #[])/\Bel w0 w'/\(∃ r,Wri w' base wp r/\WrR xs F r/\r.length<=5000)/\KpW W w' wp
def zi(k:Int)(s:List UInt8)(n:Int)(K:List Tn):List Tn:=if k=2 then [tk0 5 [95] 0] else tk0 (paR k).1 s n::K
def Tr.patK:Tr->List Tn
 | .nil=>[]
 | .nod k s n _ kids _ r=>brkL (alnP k kids.len) (zi k s n kids.patK)++r.patK
 | .arm ..=>[]
def Tr.tyK:Tr->List Tn->List Tn
 | .nil,_=>[]
 | .nod k s n _ kids _ r,sep=>brkL (alnT k kids.len) (if k=3 then kids.tyK [zq n] else tk0 (tyR k).1 s 0::kids.tyK [])++sep++r.tyK []
 | .arm ..,_=>[]
def zI(k:Int)(s:List UInt8)(n:Int)(kids:Tr):List Tn:=if k=3 then kids.tyK [zq n] else tk0 (tyR k).1 s 0::kids.tyK []
def brkM(md:Nat)(k:Int)(l:Nat)(F:List Tn):List Tn:=if md=0 then F else if md=1 then brkL (alnF k l) F else brkL (alnE k l) F
def nxM(md:Nat):Nat:=if md=1 then 2 else md
def zA:Tn:=tk0 5 [108,101,116] 0
def jJ:Tn:=tk0 5 [114,101,99] 0
def kwIn:Tn:=tk0 5 [105,110] 0
def jt:Tn:=tk0 5 [99,97,115,101] 0
def kwOf:Tn:=tk0 5 [111,102] 0
def kwEq:Tn:=tk0 5 [61] 0
def Qq:Tn:=tk0 5 [45,62] 0
def ZY:Tn:=tk0 5 [92] 0
def ju:Tn:=tk0 5 [123] 0
def zH:Tn:=tk0 5 [125] 0
def QQ:Tn:=tk0 5 [59] 0
def Tr.exK:Tr->Nat->List Tn->List Tn
 | .nil,_,_=>[]
 | .nod k s n _ kids arms r,md,sep=>brkM md k kids.len
   (if k=4 then ZY::tk0 1 s 0::Qq::kids.exK 0 []
    else if k=6 then zA::tk0 1 s 0::kwEq::kids.exK 0 [kwIn]
    else if k=7 then zA::jJ::tk0 1 s 0::kwEq::kids.exK 0 [kwIn]
    else if k=8 then jt::kids.exK 0 []++[kwOf]++arms.exK 0 [ju]++[zH]
    else if k=5 then kids.exK 1 []
    else if (exR k s).1=5 then kids.exK 2 [tk0 5 s n]
    else tk0 (exR k s).1 s n::kids.exK 2 [])++sep++r.exK (nxM md) []
 | .arm k s n _ kids e r,_,sep=>sep++zi k s n kids.patK++[Qq]++e.exK 0 []++r.exK 0 [QQ]
def qu(k:Int)(s:List UInt8)(n:Int)(kids arms:Tr):List Tn:=
 if k=4 then ZY::tk0 1 s 0::Qq::kids.exK 0 []
 else if k=6 then zA::tk0 1 s 0::kwEq::kids.exK 0 [kwIn]
 else if k=7 then zA::jJ::tk0 1 s 0::kwEq::kids.exK 0 [kwIn]
 else if k=8 then jt::kids.exK 0 []++[kwOf]++arms.exK 0 [ju]++[zH]
 else if k=5 then kids.exK 1 []
 else if (exR k s).1=5 then kids.exK 2 [tk0 5 s n]
 else tk0 (exR k s).1 s n::kids.exK 2 []
theorem qfJ(k:Int)(s:List UInt8)(n:Int)(p:Pl)(kids arms r:Tr):(Tr.nod k s n p kids arms r).patK=brkL (alnP k kids.len) (zi k s n kids.patK)++r.patK:=rfl
theorem Jk(k:Int)(s:List UInt8)(n:Int)(p:Pl)(kids arms r:Tr)(sep:List Tn):(Tr.nod k s n p kids arms r).tyK sep=brkL (alnT k kids.len) (zI k s n kids)++sep++r.tyK []:=rfl
theorem zX(k:Int)(s:List UInt8)(n:Int)(p:Pl)(kids arms r:Tr)(md:Nat)(sep:List Tn):(Tr.nod k s n p kids arms r).exK md sep=brkM md k kids.len (qu k s n kids arms)++sep++r.exK (nxM md) []:=rfl
def Tr.brX(al:Int->Nat->Bool):Tr->List Tn
 | .nil=>[]
 | .nod k s n _ kids arms r=>brkL (al k kids.len) (qu k s n kids arms)++r.brX al
 | .arm ..=>[]
def Tr.brP:Tr->List Tn
 | .nil=>[]
 | .nod k s n _ kids arms r=>brkL (alnP k kids.len) (zi k s n kids.patK)++r.brP
 | .arm ..=>[]
def Tr.brT:Tr->List Tn
 | .nil=>[]
 | .nod k s n _ kids arms r=>brkL (alnT k kids.len) (zI k s n kids)++r.brT
 | .arm ..=>[]
def Tr.dropN:Tr->Nat->Tr
 | f,0=>f
 | .nil,_+1=> .nil
 | .nod _ _ _ _ _ _ r,i+1=>r.dropN i
 | .arm _ _ _ _ _ _ r,i+1=>r.dropN i
theorem Tr.dropN_nil:∀ i,Tr.nil.dropN i=.nil
 | 0=>rfl
 | _+1=>rfl
theorem Tr.dropN_all:∀ (f:Tr) (i:Nat),f.len<=i->f.dropN i=.nil
 | .nil,i,_=>Tr.dropN_nil i
 | .nod _ _ _ _ _ _ r,0,h=>by simp[Tr.len]at h
 | .arm _ _ _ _ _ _ r,0,h=>by simp[Tr.len]at h
 | .nod _ _ _ _ _ _ r,i+1,h=>Tr.dropN_all r i (by simpa [Tr.len] using h)
 | .arm _ _ _ _ _ _ r,i+1,h=>Tr.dropN_all r i (by simpa [Tr.len] using h)
theorem Tr.dropN_nod{k:Int}{s:List UInt8}{n:Int}{p:Pl}{kids arms:Tr}:∀ (f:Tr) (i:Nat),f.nth i=.nod k s n p kids arms .nil->f.dropN i=.nod k s n p kids arms (f.dropN (i+1))
 | .nil,i,h=>by cases i <;> simp[Tr.nth]at h
 | .nod _ _ _ _ _ _ r,0,h=>by
  simp only[Tr.nth,Tr.nod.injEq]at h;obtain⟨rfl,rfl,rfl,rfl,rfl,rfl,_⟩:=h;cases r <;> rfl
 | .arm _ _ _ _ _ _ r,0,h=>by simp[Tr.nth]at h
 | .nod _ _ _ _ _ _ r,i+1,h=>Tr.dropN_nod r i h
 | .arm _ _ _ _ _ _ r,i+1,h=>Tr.dropN_nod r i h
def Tr.shp:Tr->Prop
 | .nil=>True
 | .nod k s _ _ kids arms r=>(k=4->kids.len=1)/\(k=5∨k=6∨k=7->kids.len=2)/\(k=8->kids.len=1)/\((exR k s).1=5->kids.len=2)/\kids.shp/\arms.shp/\r.shp
 | .arm _ _ _ _ _ e r=>e.shp/\r.shp
def Tr.shpT:Tr->Prop
 | .nil=>True
 | .nod k _ _ _ kids _ r=>(k=3->kids.len=2)/\kids.shpT/\r.shpT
 | .arm ..=>True
theorem Tr.nth_shp:∀ (f:Tr) (i:Nat),f.shp->(f.nth i).shp
 | .nil,_,_=>trivial
 | .nod _ _ _ _ a b r,0,h=>⟨h.1,h.2.1,h.2.2.1,h.2.2.2.1,h.2.2.2.2.1,h.2.2.2.2.2.1,trivial⟩
 | .arm _ _ _ _ a b r,0,h=>⟨h.1,trivial⟩
 | .nod _ _ _ _ a b r,i+1,h=>Tr.nth_shp r i h.2.2.2.2.2.2
 | .arm _ _ _ _ a b r,i+1,h=>Tr.nth_shp r i h.2
theorem Tr.nth_shpT:∀ (f:Tr) (i:Nat),f.isNods->f.shpT->(f.nth i).shpT
 | .nil,_,_,_=>trivial
 | .nod _ _ _ _ a b r,0,_,h=>⟨h.1,h.2.1,trivial⟩
 | .arm ..,_,h,_=>h.elim
 | .nod _ _ _ _ a b r,i+1,hn,h=>Tr.nth_shpT r i hn h.2.2
theorem Tr.brX_exK:∀ f:Tr,f.isNods->f.exK 2 []=f.brX alnE
 | .nil,_=>rfl
 | .arm ..,h=>h.elim
 | .nod k s n p kids arms r,h=>by
  rw[zX,Tr.brX,show nxM 2=2 from rfl,Tr.brX_exK r h];simp[brkM]
theorem Tr.brP_patK:∀ f:Tr,f.patK=f.brP
 | .nil=>rfl
 | .arm ..=>rfl
 | .nod k s n p kids arms r=>by rw[qfJ,Tr.brP,Tr.brP_patK r]
theorem Tr.brT_tyK:∀ f:Tr,f.tyK []=f.brT
 | .nil=>rfl
 | .arm ..=>rfl
 | .nod k s n p kids arms r=>by rw[Jk,Tr.brT,Tr.brT_tyK r,List.append_nil]
theorem Tr.two:∀ f:Tr,f.isNods->f.len=2->∃ k s n p a b k' s' n' p' a' b',f=.nod k s n p a b (.nod k' s' n' p' a' b' .nil)
 | .nil,_,h=>by simp[Tr.len]at h
 | .arm ..,h,_=>h.elim
 | .nod k s n p a b r,h,hl=>by
  obtain⟨k',s',n',p',a',b',e⟩:=Tr.one_nod r (by simpa [Tr.len] using hl) h;exact⟨k,s,n,p,a,b,k',s',n',p',a',b',by rw[e]⟩
end Go.Proofs.YtlmmaoobembadaaGreatDoor.Mu
namespace Go.Proofs.YtlmmaoobembadaaGreatDoor.Mu
open Go Go.RowKit Go.Shelf
attribute [local go_sem] Oper.semAt_some
set_option linter.unusedVariables false
set_option maxRecDepth 100000
theorem qcI(base wp:Nat)(xs ls:List Tn)(g cp:Nat)(t:TypeId)(w0 W0 W:World)(hW:Bel w0 W0)(hwp:w0.heap.size<=wp)(hw:Wri W0 base wp xs)(hb:Bel W0 W)(hx:xs.length<=5000)(hl:ls.length<=900)(h0:0<ls.length)(hg:W.heap[g]?=some (.cells (zz ls).toArray t (0,0)))(h1:∀ u∈zz ls,u.oneCell'=true) :
  Calls Tryz.prog 85 #[.pointer (some ⟨wp,0,none⟩),.slice (some ⟨g,0,none⟩) ls.length cp] W (WrQ w0 base wp xs ls W0):=by
 have h:=qf9 base wp xs ls ⟨g,0,none⟩ ls.length cp w0 W (hW.on hb) hwp (hw.bel hb) (by omega) (by omega) rfl h0 (fun j u hu=>by
  rw[Addr.add_lit];unfold World.cell?
  simp only[hg];simpa using hu) h1
 refine h.mono ?_;rintro e w' ⟨rfl,hb',hw',hk'⟩;refine⟨rfl,hb',⟨_,hw',WrR.put xs ls,?_⟩,(KpW.of_bel hw.lt hb).on hk'⟩;unfold qe3;split
 ·rw[List.length_append];omega
 ·exact hx
theorem qX(ls:List Tn):∀ u∈zz ls,u.oneCell'=true:=by
 intro u hu;obtain⟨x,_,hx⟩:=List.mem_flatMap.1 hu;unfold Tn.cells at hx;simp at hx;rcases hx with rfl | rfl | rfl | rfl | rfl | rfl <;> rfl
theorem qfN(base wp:Nat)(k:Int)(s:List UInt8)(n:Int)(xs:List Tn)(w0 W:World)(hW:Bel w0 W)(hwp:w0.heap.size<=wp)(hw:Wri W base wp xs)(hx:xs.length<=5000)(cp:Nat) :
  Calls Tryz.prog 85 #[.pointer (some ⟨wp,0,none⟩),.slice (some ⟨W.heap.size,0,none⟩) 1 cp] (W.alloc (.cells #[.int .u8 k,.string ⟨s.toArray⟩,n,(0:Int),(0:Int),(0:Int)] 51)) (WrQ w0 base wp xs [tk0 k s n] W):=
 qcI base wp xs [tk0 k s n] W.heap.size cp _ w0 W _ hW hwp hw ((Bel.refl W).alloc _) hx (by simp) (by simp) (blk1 W _) (qX _)
theorem qfO(base wp:Nat)(k:Int)(s:List UInt8)(n:Int)(k2:Int)(s2:List UInt8)(n2:Int)(xs:List Tn)(w0 W:World)(hW:Bel w0 W)(hwp:w0.heap.size<=wp)(hw:Wri W base wp xs)(hx:xs.length<=5000)(cp:Nat) :
  Calls Tryz.prog 85 #[.pointer (some ⟨wp,0,none⟩),.slice (some ⟨W.heap.size,0,none⟩) 2 cp] (W.alloc (.cells #[.int .u8 k,.string ⟨s.toArray⟩,n,(0:Int),(0:Int),(0:Int),.int .u8 k2,.string ⟨s2.toArray⟩,n2,(0:Int),(0:Int),(0:Int)] 51)) (WrQ w0 base wp xs [tk0 k s n,tk0 k2 s2 n2] W):=
 qcI base wp xs [tk0 k s n,tk0 k2 s2 n2] W.heap.size cp _ w0 W _ hW hwp hw ((Bel.refl W).alloc _) hx (by simp) (by simp) (blk1 W _) (qX _)
def RowX(w0 W:World)(wp:Nat)(sh:Sh)(A:Option Addr)(n:Nat)(f:Tr):Prop:=
 n=f.len/\(0<n->∃ b o,A=some ⟨b,o,none⟩/\(∃ ob,Bx W wp b ob)/\TrAt W (OldT w0) f sh b o)
theorem TrAt.keepX{w w':World}{Ok:Nat->Prop}{f:Tr}{sh:Sh}{b o:Nat}(h:TrAt w Ok f sh b o)(hk:∀ j,Ok j->w'.heap[j]?=w.heap[j]?)(hb:w'.heap[b]?=w.heap[b]?):TrAt w' Ok f sh b o:=by
 have hc:∀ o',w'.cell? ⟨b,o',none⟩=w.cell? ⟨b,o',none⟩:=fun o'=>World.cell?_of_block (a:=⟨b,o',none⟩) hb;induction f generalizing o sh with
 | nil=>trivial
 | nod k s n p kids arms r _ _ ih=>
  obtain⟨h1,⟨A,cap,a1,a2,a3⟩,h3,h4⟩:=h;refine⟨h1.keep hb,⟨A,cap,(hc _).trans a1,a2,fun h0=>?_⟩,?_,ih h4⟩
  ·obtain⟨b',o',e,c1,c2⟩:=a3 h0
   exact⟨b',o',e,c1,TrAt.keep hk _ _ _ _ c1 c2⟩
  ·rcases h3 with ⟨e,A2,cap2,c1,c2,c3⟩ | h3
   ·refine .inl ⟨e,A2,cap2,(hc _).trans c1,c2,fun h0=>?_⟩
    obtain⟨b',o',e,d1,d2⟩:=c3 h0;exact⟨b',o',e,d1,TrAt.keep hk _ _ _ _ d1 d2⟩
   ·exact .inr h3
 | arm k s n p kids e r _ ie ih=>
  obtain⟨h0,h1,⟨A,cap,a1,a2,a3⟩,h3,h4,h5⟩:=h;subst h0;refine⟨rfl,h1.keep hb,⟨A,cap,(hc _).trans a1,a2,fun h0=>?_⟩,h3,ie h4,ih h5⟩;obtain⟨b',o',e,c1,c2⟩:=a3 h0;exact⟨b',o',e,c1,TrAt.keep hk _ _ _ _ c1 c2⟩
theorem RowX.step{w0 W W':World}{wp:Nat}{sh:Sh}{A:Option Addr}{n:Nat}{f:Tr}(h:RowX w0 W wp sh A n f)(hb:Bel w0 W)(hb':Bel w0 W')(hk:KpW W W' wp):RowX w0 W' wp sh A n f:=
 ⟨h.1,fun hn=>by
  obtain⟨b,o,e,⟨ob,hx⟩,ht⟩:=h.2 hn;have hx':=hk b ob hx;exact⟨b,o,e,⟨ob,hx'⟩,ht.keepX (fun j hj=>(hb'.block j hj).trans (hb.block j hj).symm) (hx'.1.trans hx.1.symm)⟩⟩
theorem RowX.old{w0 W:World}{base wp:Nat}{xs:List Tn}{sh:Sh}{A:Option Addr}{n c:Nat}{f:Tr}(h:KidsTr w0 (OldT w0) sh A n c f)(hb:Bel w0 W)(hwp:w0.heap.size<=wp)(hw:Wri W base wp xs):RowX w0 W wp sh A n f:=
 ⟨h.1,fun hn=>by
  obtain⟨b,o,e,hbb,ht⟩:=h.2.2 hn;have hbb':b<w0.heap.size:=hbb;refine⟨b,o,e,⟨_,hb.blk (Array.getElem?_eq_getElem hbb'),by omega,fun v hv ev=>?_⟩,ht.keepX (fun j hj=>hb.block j hj) (hb.block b hbb')⟩;obtain⟨h1,h2,A',n',c',hc,_,ho⟩:=hw;have c0:W.cell? ⟨wp,0,none⟩=some (.slice A' n' c'):=by simp[World.cell?,hc]
  rw[c0]at hv;obtain rfl:_=v:=Option.some.inj hv;have:=(ho.lt b ev).1;omega⟩
theorem RowX.one{w0 W:World}{base wp:Nat}{xs:List Tn}{sh:Sh}(hs:sh ≠ .arms){k:Int}{s:List UInt8}{n:Int}{p:Pl}{A:Option Addr}{c:Nat}{B:Option Addr}{bc:Nat}{kids arms:Tr}
  (hk:KidsTr w0 (OldT w0) sh A kids.len c kids) (ha:(sh=.ex/\KidsTr w0 (OldT w0) .arms B arms.len bc arms)∨((sh=.pat∨sh=.ty)/\arms.len=0)) {t:TypeId} (hb:Bel w0 W) (hw:Wri W base wp xs) :
  RowX w0 (W.alloc (.cells (nodV sh k s n p A kids.len c B arms.len bc).toArray t)) wp sh (some ⟨W.heap.size,0,none⟩) 1 (.nod k s n p kids arms .nil):=by
 refine⟨rfl,fun _=>⟨_,0,rfl,⟨_,Bx.new hw _⟩,?_⟩⟩;refine (Tells.one hs hk ha (k:=k) (s:=s) (n:=n) (p:=p)).2.2 _ _ 0 (fun j u hu=>?_) (fun j hj=>(hb.alloc _).block j hj);unfold World.cell?
 simp only[blk1];simpa using hu
theorem RowX.isNods{w0 W:World}{wp:Nat}{sh:Sh}(hs:sh ≠ .arms){A:Option Addr}{m:Nat}{f:Tr}(h:RowX w0 W wp sh A m f):f.isNods:=by
 rcases Nat.eq_zero_or_pos f.len with e | e
 ·rw[Tr.len_nil f e];trivial
 ·obtain⟨b,o,_,_,h⟩:=h.2 (by rw[h.1];exact e)
  exact TrAt.isNods hs f b o h
theorem RowX.nth{w0 W:World}{wp:Nat}{sh:Sh}(hs:sh ≠ .arms){A:Option Addr}{m:Nat}{f:Tr}(h:RowX w0 W wp sh A m f)(hb:Bel w0 W){i:Nat}(hi:i<m) :
  ∃ b o k s n p kids arms A' c B bc,A=some ⟨b,o,none⟩/\(∃ ob,Bx W wp b ob)/\f.nth i=.nod k s n p kids arms .nil/\(∀ j u,(nodV sh k s n p A' kids.len c B arms.len bc)[j]?=some u->W.cell? ⟨b,o+i*sh.sz+j,none⟩=some u) ∧
   KidsTr w0 (OldT w0) sh A' kids.len c kids/\((sh=.ex/\KidsTr w0 (OldT w0) .arms B arms.len bc arms)∨((sh=.pat∨sh=.ty)/\arms.len=0)):=by
 obtain⟨b,o,e,hx,ht⟩:=h.2 (by omega);obtain⟨k,s,n,p,kids,arms,en,ha⟩:=TrAt.nod_at hs f i b o ht (by rw[<- h.1];exact hi);obtain⟨A',c,B,bc,hc,hk,har,_⟩:=ha.parts;have hkk:∀ j,OldT w0 j->w0.heap[j]?=W.heap[j]?:=fun j hj=>(hb.block j hj).symm;refine⟨b,o,k,s,n,p,kids,arms,A',c,B,bc,e,hx,en,hc,hk.keep hkk,?_⟩;rcases har with ⟨e1,e2⟩ | har
 ·exact .inl ⟨e1,e2.keep hkk⟩
 ·exact .inr har
theorem RowX.arm{w0 W:World}{wp:Nat}{A:Option Addr}{m:Nat}{f:Tr}(h:RowX w0 W wp .arms A m f)(hb:Bel w0 W){i:Nat}(hi:i<m) :
  ∃ b o k s n p kids k2 s2 n2 p2 kids2 arms2 A1 c1 A2 c2 B2 bc2,A=some ⟨b,o,none⟩/\(∃ ob,Bx W wp b ob)/\f.nth i=.arm k s n p kids (.nod k2 s2 n2 p2 kids2 arms2 .nil) .nil ∧
   (∀ j u,(nodV .pat k s n p A1 kids.len c1 none 0 0)[j]?=some u->W.cell? ⟨b,o+i*15+j,none⟩=some u)/\(∀ j u,(nodV .ex k2 s2 n2 p2 A2 kids2.len c2 B2 arms2.len bc2)[j]?=some u->W.cell? ⟨b,o+i*15+7+j,none⟩=some u) ∧
   KidsTr w0 (OldT w0) .pat A1 kids.len c1 kids/\KidsTr w0 (OldT w0) .ex A2 kids2.len c2 kids2/\KidsTr w0 (OldT w0) .arms B2 arms2.len bc2 arms2:=by
 obtain⟨b,o,e,hx,ht⟩:=h.2 (by omega);obtain⟨k,s,n,p,kids,ex,en,ha⟩:=TrAt.arm_at f i b o ht (by rw[<- h.1];exact hi);obtain⟨_,h1,⟨A1,c1,a1,a2,a3⟩,h3,h4,_⟩:=ha;have hn:=TrAt.isNods (by intro e;cases e) ex b _ h4;obtain⟨k2,s2,n2,p2,kids2,arms2,rfl⟩:=Tr.one_nod ex h3 hn;obtain⟨A2,c2,B2,bc2,hc,hk,har,_⟩:=h4.parts;have hkk:∀ j,OldT w0 j->w0.heap[j]?=W.heap[j]?:=fun j hj=>(hb.block j hj).symm;refine⟨b,o,k,s,n,p,kids,k2,s2,n2,p2,kids2,arms2,A1,c1,A2,c2,B2,bc2,e,hx,en,fun j u hu=>?_,hc,KidsTr.keep (w:=W) ⟨rfl,a2,a3⟩ hkk,hk.keep hkk,?_⟩
 ·rcases Nat.lt_or_ge j 6 with hj | hj
  ·exact ZV h1 j u (by rw[nodV,List.getElem?_append_left (by simpa [Zt] using hj)]at hu;exact hu)
  ·match j,hu with
   | 6,hu=>cases hu;exact a1
   | j+7,hu=>simp[nodV,Zt,qeM]at hu
 ·rcases har with ⟨_,h⟩ | ⟨h | h,_⟩
  ·exact h.keep hkk
  ·cases h
  ·cases h
def Ws(w0:World)(base wp:Nat)(xs:List Tn)(W:World)(pre:List Tn)(w:World):Prop:=Bel w0 w/\(∃ r,Wri w base wp r/\WrR xs pre r/\r.length<=5000)/\KpW W w wp
def WsQ(w0:World)(base wp:Nat)(xs:List Tn)(W:World)(pre:List Tn)(w:World):Ending->World->Prop:=fun e w'=>e=.returned (.tuple #[])/\Ws w0 base wp xs W pre w'/\KpW w w' wp
theorem Ws.start{w0:World}{base wp:Nat}{xs:List Tn}{W:World}(hW:Bel w0 W)(hw:Wri W base wp xs)(hx:xs.length<=5000):Ws w0 base wp xs W [] W:=⟨hW,⟨xs,hw,WrR.nil xs,hx⟩,KpW.refl _ _⟩
theorem Ws.lt{w0:World}{base wp:Nat}{xs:List Tn}{W:World}{pre:List Tn}{w:World}(h:Ws w0 base wp xs W pre w):wp<w.heap.size:=by
 obtain⟨_,⟨r,hr,_⟩,_⟩:=h;exact hr.lt
theorem Ws.bel{w0:World}{base wp:Nat}{xs:List Tn}{W:World}{pre:List Tn}{w w':World}(h:Ws w0 base wp xs W pre w)(hb:Bel w w'):Ws w0 base wp xs W pre w':=by
 have hl:=h.lt;obtain⟨h1,⟨r,h2,h3,h4⟩,h5⟩:=h;exact⟨h1.on hb,⟨r,h2.bel hb,h3,h4⟩,h5.on (KpW.of_bel hl hb)⟩
theorem Ws.kp{w0:World}{base wp:Nat}{xs:List Tn}{W:World}{pre:List Tn}{w w':World}(h:Ws w0 base wp xs W pre w)(hb:Bel w w'):KpW w w' wp:=KpW.of_bel h.lt hb
theorem Ws.box{w0:World}{base wp:Nat}{xs:List Tn}{W:World}{pre:List Tn}{w:World}(h:Ws w0 base wp xs W pre w)(o:Obj):Bx (w.alloc o) wp w.heap.size o:=by
 obtain⟨_,⟨r,hr,_⟩,_⟩:=h;exact Bx.new hr o
theorem Ws.run{w0:World}{base wp:Nat}{xs:List Tn}{W:World}{pre F:List Tn}{w w':World}{f:FuncId}{args:Array Value}(h:Ws w0 base wp xs W pre w)(H:∀ r,Bel w0 w->Wri w base wp r->r.length<=5000->Calls Tryz.prog f args w' (WrQ w0 base wp r F w)) :
  Calls Tryz.prog f args w' (WsQ w0 base wp xs W (pre++F) w):=by
 obtain⟨h1,⟨r,h2,h3,h4⟩,h5⟩:=h;refine (H r h1 h2 h4).mono ?_;rintro e w2 ⟨rfl,q1,⟨r2,q2,q3,q4⟩,q5⟩;exact⟨rfl,⟨q1,⟨r2,q2,h3.on q3,q4⟩,h5.on q5⟩,q5⟩
theorem Ws.put1{w0:World}{base wp:Nat}{xs:List Tn}{W:World}{pre:List Tn}{w:World}(h:Ws w0 base wp xs W pre w)(hwp:w0.heap.size<=wp)(k:Int)(s:List UInt8)(n:Int)(cp:Nat) :
  Calls Tryz.prog 85 #[.pointer (some ⟨wp,0,none⟩),.slice (some ⟨w.heap.size,0,none⟩) 1 cp] (w.alloc (.cells #[.int .u8 k,.string ⟨s.toArray⟩,.int .i64 n,.int .i64 0,.int .i64 0,.int .i64 0] 51)) (WsQ w0 base wp xs W (pre++[tk0 k s n]) w):=
 h.run fun r h1 h2 h3=>qfN base wp k s n r w0 w h1 hwp h2 h3 cp
theorem Ws.put2{w0:World}{base wp:Nat}{xs:List Tn}{W:World}{pre:List Tn}{w:World}(h:Ws w0 base wp xs W pre w)(hwp:w0.heap.size<=wp)(k:Int)(s:List UInt8)(n:Int)(k2:Int)(s2:List UInt8)(n2:Int)(cp:Nat) :
  Calls Tryz.prog 85 #[.pointer (some ⟨wp,0,none⟩),.slice (some ⟨w.heap.size,0,none⟩) 2 cp] (w.alloc (.cells #[.int .u8 k,.string ⟨s.toArray⟩,.int .i64 n,.int .i64 0,.int .i64 0,.int .i64 0,.int .u8 k2,.string ⟨s2.toArray⟩,.int .i64 n2,.int .i64 0,.int .i64 0,.int .i64 0] 51)) (WsQ w0 base wp xs W (pre++[tk0 k s n,tk0 k2 s2 n2]) w):=
 h.run fun r h1 h2 h3=>qfO base wp k s n k2 s2 n2 r w0 w h1 hwp h2 h3 cp
theorem Ws.fin{w0:World}{base wp:Nat}{xs:List Tn}{W:World}{pre F:List Tn}{w:World}(h:Ws w0 base wp xs W pre w)(e:pre=F):WrQ w0 base wp xs F W (.returned (.tuple #[])) w:=by
 subst e;exact⟨rfl,h.1,h.2.1,h.2.2⟩
theorem Ws.put1g{w0:World}{base wp:Nat}{xs:List Tn}{W:World}{pre:List Tn}{w:World}(h:Ws w0 base wp xs W pre w)(hwp:w0.heap.size<=wp)(k:Int)(s:List UInt8)(n:Int)(cp g:Nat)(hg:g=w.heap.size) :
  Calls Tryz.prog 85 #[.pointer (some ⟨wp,0,none⟩),.slice (some ⟨g,0,none⟩) 1 cp] (w.alloc (.cells #[.int .u8 k,.string ⟨s.toArray⟩,.int .i64 n,.int .i64 0,.int .i64 0,.int .i64 0] 51)) (WsQ w0 base wp xs W (pre++[tk0 k s n]) w):=by
 subst hg;exact h.put1 hwp k s n cp
theorem Ws.runA{w0:World}{base wp:Nat}{xs:List Tn}{W:World}{pre F:List Tn}{w w':World}{f:FuncId}{args:Array Value}(h:Ws w0 base wp xs W pre w)(hb:Bel w w')(H:∀ r,Bel w0 w'->Wri w' base wp r->r.length<=5000->Calls Tryz.prog f args w' (WrQ w0 base wp r F w')) :
  Calls Tryz.prog f args w' (WsQ w0 base wp xs W (pre++F) w):=by
 refine ((h.bel hb).run H).mono ?_;rintro e w2 ⟨rfl,q1,q2⟩;exact⟨rfl,q1,(h.kp hb).on q2⟩
theorem KidsTr.old{w0 w:World}{sh:Sh}{A:Option Addr}{n c:Nat}{f:Tr}{base wp:Nat}{xs:List Tn}{W:World}{pre:List Tn}(h:KidsTr w0 (OldT w0) sh A n c f)(hwp:w0.heap.size<=wp)(hs:Ws w0 base wp xs W pre w):RowX w0 w wp sh A n f:=by
 obtain⟨h1,⟨r,h2,_⟩,_⟩:=hs;exact RowX.old h h1 hwp h2
theorem Qx{w0:World}{sh:Sh}(hs:sh ≠ .arms){A:Option Addr}{l c:Nat}{kids:Tr}(h:KidsTr w0 (OldT w0) sh A l c kids)(hl:l=2) :
  ∃ b o ka sa na pa kia ara A1 c1 B1 d1 kb sb nb pb kib arb A2 c2 B2 d2,kids=.nod ka sa na pa kia ara (.nod kb sb nb pb kib arb .nil)/\A=some ⟨b,o,none⟩/\b<w0.heap.size ∧
   (∀ w,Bel w0 w->∀ j u,(nodV sh ka sa na pa A1 kia.len c1 B1 ara.len d1)[j]?=some u->w.cell? ⟨b,o+j,none⟩=some u)/\KidsTr w0 (OldT w0) sh A1 kia.len c1 kia/\((sh=.ex/\KidsTr w0 (OldT w0) .arms B1 ara.len d1 ara)∨((sh=.pat∨sh=.ty)/\ara=.nil)) ∧
   (∀ w,Bel w0 w->∀ j u,(nodV sh kb sb nb pb A2 kib.len c2 B2 arb.len d2)[j]?=some u->w.cell? ⟨b,o+sh.sz+j,none⟩=some u)/\KidsTr w0 (OldT w0) sh A2 kib.len c2 kib/\((sh=.ex/\KidsTr w0 (OldT w0) .arms B2 arb.len d2 arb)∨((sh=.pat∨sh=.ty)/\arb=.nil)):=by
 have hn:=h.isNods hs;obtain⟨e,_,ht⟩:=h;obtain⟨ka,sa,na,pa,kia,ara,kb,sb,nb,pb,kib,arb,rfl⟩:=Tr.two kids hn (by omega);obtain⟨b,o,rfl,hb,ht⟩:=ht (by omega);have hb':b<w0.heap.size:=hb;obtain⟨A1,c1,B1,d1,h1,h2,h3,ht2⟩:=ht.parts;obtain⟨A2,c2,B2,d2,h4,h5,h6,_⟩:=ht2.parts;exact⟨b,o,ka,sa,na,pa,kia,ara,A1,c1,B1,d1,kb,sb,nb,pb,kib,arb,A2,c2,B2,d2,rfl,rfl,hb,fun w hw j u hu=>(hw.cell (p:=⟨b,_,none⟩) hb').trans (h1 j u hu),h2,h3.imp id fun h=>⟨h.1,Tr.len_nil _ h.2⟩,fun w hw j u hu=>(hw.cell (p:=⟨b,_,none⟩) hb').trans (h4 j u hu),h5,h6.imp id fun h=>⟨h.1,Tr.len_nil _ h.2⟩⟩
theorem qbm{w0:World}{sh:Sh}(hs:sh ≠ .arms){A:Option Addr}{l c:Nat}{kids:Tr}(h:KidsTr w0 (OldT w0) sh A l c kids)(hl:l=1) :
  ∃ b o ka sa na pa kia ara A1 c1 B1 d1,kids=.nod ka sa na pa kia ara .nil/\A=some ⟨b,o,none⟩/\b<w0.heap.size ∧
   (∀ w,Bel w0 w->∀ j u,(nodV sh ka sa na pa A1 kia.len c1 B1 ara.len d1)[j]?=some u->w.cell? ⟨b,o+j,none⟩=some u)/\KidsTr w0 (OldT w0) sh A1 kia.len c1 kia/\((sh=.ex/\KidsTr w0 (OldT w0) .arms B1 ara.len d1 ara)∨((sh=.pat∨sh=.ty)/\ara=.nil)):=by
 have hn:=h.isNods hs;obtain⟨e,_,ht⟩:=h;obtain⟨ka,sa,na,pa,kia,ara,rfl⟩:=Tr.one_nod kids (by omega) hn;obtain⟨b,o,rfl,hb,ht⟩:=ht (by omega);have hb':b<w0.heap.size:=hb;obtain⟨A1,c1,B1,d1,h1,h2,h3,ht2⟩:=ht.parts;exact⟨b,o,ka,sa,na,pa,kia,ara,A1,c1,B1,d1,rfl,rfl,hb,fun w hw j u hu=>(hw.cell (p:=⟨b,_,none⟩) hb').trans (h1 j u hu),h2,h3.imp id fun h=>⟨h.1,Tr.len_nil _ h.2⟩⟩
set_option maxHeartbeats 2000000
def TyC(w0:World)(base wp M:Nat):Prop:=∀ (k:Int) (s:List UInt8) (n:Int) (p:Pl) (A:Option Addr) (c:Nat) (kids:Tr) (xs:List Tn) (W:World),
 KidsTr w0 (OldT w0) .ty A kids.len c kids->1+kids.size<=M->(Tr.nod k s n p kids .nil .nil).shpT->Bel w0 W->Wri W base wp xs->xs.length<=5000 →
 Calls Tryz.prog 139 #[.pointer (some ⟨wp,0,none⟩),.agg #[.int .u8 k,.string ⟨s.toArray⟩,.int .u8 n,p.a,p.l,p.c,.slice A kids.len c]] W (WrQ w0 base wp xs (zI k s n kids) W)
theorem Qf(base wp M:Nat)(xs:List Tn)(A:Option Addr)(n c:Nat)(f:Tr)(w0 W:World)
  (hX:TyC w0 base wp M) (hwp:w0.heap.size<=wp) (hf:RowX w0 W wp .ty A n f) (hsz:f.size<=M) (hM:M<=1000000) (hs:f.shpT) (hW:Bel w0 W) (hw:Wri W base wp xs) (hx:xs.length<=5000) :
  Calls Tryz.prog 137 #[.pointer (some ⟨wp,0,none⟩),.func (.func 138) #[] #[],.func (.func 139) #[.pointer (some ⟨wp,0,none⟩)] #[],.slice A n c] W (WrQ w0 base wp xs (f.brT) W):=by
 have HF:=hid hf;have HX:=hid hX;have HSZ:=hid (And.intro hsz hs);have HNN:Hid f.isNods:=hid (hf.isNods (by intro e;cases e));have HW:=hid hW;have HL:Hid (n=f.len):=hid hf.1;have hn:n<=1000000:=by have:=hf.1;have:=f.len_le;omega
 have ega:∀ args w,(callFunc 138 args).run Tryz.prog w=.ok (.enter 138 args) w:=fun args w=>by kernel_rfl
 have egx:∀ args w,(callFunc 139 args).run Tryz.prog w=.ok (.enter 139 args) w:=fun args w=>by kernel_rfl
 have HI:Hid (∃ pre,Ws w0 base wp xs W pre W/\pre++(f.dropN 0).brT=f.brT):=hid ⟨[],Ws.start hW hw hx,by cases f <;> rfl⟩;clear hf hX hsz hs hW hw hx;go_enter Tryz.func137,Tryz.ntmps137
 go_wp2_with fail
 go_loopw [12] (fun i wr=>∃ j:Nat,j<=n/\i=.int .i64 (j:Int)/\Hid (∃ pre,Ws w0 base wp xs W pre wr/\pre++(f.dropN j).brT=f.brT)) (fun i _=>n-(intOf i).toNat)
 case atStart=>exact⟨0,Nat.zero_le _,rfl,HI⟩
 case round=>
  obtain⟨j,hj,rfl,HR⟩:=hrel;obtain⟨pre,hws,hpre⟩:=HR.out;by_cases hlt:j<n
  ·obtain⟨ub,uo,k,s,nn,p,kids,arms,A',c',B',bc',eA,⟨uob,hub⟩,hnth,hcs,hkk,hka⟩:=(HF.out.step HW.out hws.1 hws.2.2).nth (by intro e;cases e) hws.1 hlt
   subst eA;have ha0:arms.len=0:=by
    rcases hka with ⟨h,_⟩ | ⟨_,h⟩
    ·cases h
    ·exact h
   have ha1:=Tr.len_nil arms ha0;subst ha1;have hns:1+kids.size<=M:=by
    have h1:=f.nth_size j;rw[hnth]at h1;simp only[Tr.size]at h1;have:=HSZ.out.1;omega
   have hnp:(Tr.nod k s nn p kids .nil .nil).shpT:=by rw[<- hnth];exact f.nth_shpT j HNN.out HSZ.out.2
   have hdr:(f.dropN j).brT=brkL (alnT k kids.len) (zI k s nn kids)++(f.dropN (j+1)).brT:=by rw[Tr.dropN_nod f j hnth];rfl
   have HC:Hid (∀ (ys:List Tn) (W':World),Bel w0 W'->Wri W' base wp ys->ys.length<=5000->Calls Tryz.prog 139 #[.pointer (some ⟨wp,0,none⟩),.agg #[.int .u8 k,.string ⟨s.toArray⟩,.int .u8 nn,p.a,p.l,p.c,.slice A' kids.len c']] W' (WrQ w0 base wp ys (zI k s nn kids) W')):=hid fun ys W' h1 h2 h3=>HX.out k s nn p A' c' kids ys W' hkk hns hnp h1 h2 h3;have y0:=hcs 0 _ rfl;have y1:=hcs 1 _ rfl;have y2:=hcs 2 _ rfl;have y3:=hcs 3 _ rfl;have y4:=hcs 4 _ rfl;have y5:=hcs 5 _ rfl;have y6:=hcs 6 _ rfl;simp only[Sh.sz,Sh.kd,Nat.add_zero]at y0 y1 y2 y3 y4 y5 y6;rw[hdr]at hpre;obtain⟨Fx,hFx⟩:∃ F,F=zI k s nn kids:=⟨_,rfl⟩
   obtain⟨b,hb⟩:∃ b,b=alnT k kids.len:=⟨_,rfl⟩
   obtain⟨SS,hSS⟩:∃ S:ByteArray,S=⟨s.toArray⟩:=⟨_,rfl⟩
   obtain⟨l1,hl1⟩:∃ l,l=kids.len:=⟨_,rfl⟩
   have HAL:Hid (∀ W',Calls Tryz.prog 138 #[.agg #[.int .u8 k,SS,.int .u8 nn,p.a,p.l,p.c,.slice A' l1 c']] W' (qi b W')):=hid fun W'=>by rw[hb,<- hl1];exact J4 k SS nn p A' l1 c' W'
   rw[<- hFx,<- hb]at hpre;rw[<- hSS,<- hl1,<- hFx]at HC;rw[<- hSS]at y1;rw[<- hl1]at y6;have HS1:=hid (hws.bel ((Bel.refl wr).alloc (.cells #[.int .u8 k,SS,.int .u8 nn,p.a,p.l,p.c,.slice A' l1 c'] 59)));have HBX:=hid (hws.box (.cells #[.int .u8 k,SS,.int .u8 nn,p.a,p.l,p.c,.slice A' l1 c'] 59));have HPRE:=hid hpre;have hob':ub<wr.heap.size:=(Array.getElem?_eq_some_iff.1 hub.1).1;have i1:(0:Int)<=(j:Int):=by omega
   have i2:(j:Int)<(n:Int):=by omega
   have HLT:=hid hlt;clear hcs hkk hka ha0 hns hnp hdr hpre hFx hb hSS hl1 hnth hub hws HR;go_wp2_with fail
   refine (HAL.out _).mono ?_;rintro e w2 ⟨rfl,hb2⟩;have HS2:=hid (HS1.out.bel hb2);have HX2:=hid (HS1.out.kp hb2 _ _ HBX.out);obtain⟨x0,x1,x2,x3,x4,x5,x6⟩:=box7 HX2.out.1;have hl2:wr.heap.size<w2.heap.size:=(Array.getElem?_eq_some_iff.1 HX2.out.1).1;clear hb2 y0 y1 y2 y3 y4 y5 y6 hob' HAL HS1 HBX;cases b
   ·go_wp2_with fail
    refine (qd _ _).mono ?_;rintro e w3 ⟨rfl,hb3⟩;have HS3:=hid (HS2.out.bel hb3);have HX3:=hid (HS2.out.kp hb3 _ _ HX2.out);clear hb3 x0 x1 x2 x3 x4 x5 x6;unfold tokV;go_wp2_with fail
    refine (HS3.out.put1 hwp 5 [40] 0 _).mono ?_;rintro e w4 ⟨rfl,hs4,hk4⟩;have HS4:=hid hs4;have HX4:=hid (hk4 _ _ HX3.out);obtain⟨x0,x1,x2,x3,x4,x5,x6⟩:=box7 HX4.out.1;have hl4:wr.heap.size<w4.heap.size:=(Array.getElem?_eq_some_iff.1 HX4.out.1).1;clear hs4 hk4;go_wp2_with fail
    refine (HS4.out.run fun r h1 h2 h3=>HC.out r w4 h1 h2 h3).mono ?_;rintro e w5 ⟨rfl,hs5,hk5⟩;have HS5:=hid hs5;clear hs5 hk5 x0 x1 x2 x3 x4 x5 x6;go_wp2_with fail
    refine (qd _ _).mono ?_;rintro e w6 ⟨rfl,hb6⟩;have HS6:=hid (HS5.out.bel hb6);clear hb6;unfold tokV;go_wp2_with fail
    refine (HS6.out.put1 hwp 5 [41] 0 _).mono ?_;rintro e w7 ⟨rfl,hs7,hk7⟩;have HS7:=hid hs7;have HR':Hid (∃ pre,Ws w0 base wp xs W pre w7/\pre++(f.dropN (j+1)).brT=f.brT):=hid ⟨_,HS7.out,by rw[<- HPRE.out];simp[brkL]⟩;clear hs7 hk7;go_wp2_with fail
    go_roundw
    case rel=>exact⟨j+1,HLT.out,by go_num,HR'⟩
    case measure=>have:=HLT.out;simp[intOf];omega
   ·go_wp2_with fail
    refine (HS2.out.run fun r h1 h2 h3=>HC.out r w2 h1 h2 h3).mono ?_;rintro e w5 ⟨rfl,hs5,hk5⟩;have HR':Hid (∃ pre,Ws w0 base wp xs W pre w5/\pre++(f.dropN (j+1)).brT=f.brT):=hid ⟨_,hs5,by rw[<- HPRE.out];simp[brkL]⟩;clear hs5 hk5 x0 x1 x2 x3 x4 x5 x6;go_wp2_with fail
    go_roundw
    case rel=>exact⟨j+1,HLT.out,by go_num,HR'⟩
    case measure=>have:=HLT.out;simp[intOf];omega
  ·obtain rfl:j=n:=by omega
   rw[Tr.dropN_all f j (by rw[<- HL.out];exact Nat.le_refl _)]at hpre;have HQ:=hid (hws.fin (F:=f.brT) (by rw[<- hpre];simp[Tr.brT]));clear hws hpre;go_wp2_with fail
   go_end0
   exact HQ.out
set_option maxHeartbeats 4000000
theorem qcQ(n:Int):qa7 n=.agg #[.int .u8 5,.string ⟨(zq n).s.toArray⟩,(0:Int),(0:Int),(0:Int),(0:Int)]/\zq n=tk0 5 (zq n).s 0:=by
 unfold qa7 zq;split
 ·exact⟨rfl,rfl⟩
 split
 ·exact⟨rfl,rfl⟩
 ·exact⟨rfl,rfl⟩
theorem qcV{base wp M:Nat}{w0:World}{xs:List Tn}{W:World}(hC:TyC w0 base wp M)(hM:M<=1000000)(hwp:w0.heap.size<=wp)(pre:List Tn)(w:World)(g:Nat)(k:Int)(s:List UInt8)(n:Int)(p:Pl)(kids:Tr)(A:Option Addr)(c:Nat)(h:Ws w0 base wp xs W pre w)(hg:g=w.heap.size)(hk:KidsTr w0 (OldT w0) .ty A kids.len c kids)(hs:1+kids.size<=M)(hp:(Tr.nod k s n p kids .nil .nil).shpT) :
  Calls Tryz.prog 137 #[.pointer (some ⟨wp,0,none⟩),.func (.func 138) #[] #[],.func (.func 139) #[.pointer (some ⟨wp,0,none⟩)] #[],.slice (some ⟨g,0,none⟩) 1 1] (w.alloc (.cells #[.int .u8 k,.string ⟨s.toArray⟩,.int .u8 n,p.a,p.l,p.c,.slice A kids.len c] 59))
   (WsQ w0 base wp xs W (pre++brkL (alnT k kids.len) (zI k s n kids)) w):=by
 subst hg;refine h.runA ((Bel.refl w).alloc _) fun r h1 h2 h3=>?_;have hr:RowX w0 (w.alloc (.cells #[.int .u8 k,.string ⟨s.toArray⟩,.int .u8 n,p.a,p.l,p.c,.slice A kids.len c] 59)) wp .ty (some ⟨w.heap.size,0,none⟩) 1 (.nod k s n p kids .nil .nil):=by
  obtain⟨q1,⟨r',q2,_⟩,_⟩:=h;exact RowX.one (sh:= .ty) (B:=none) (bc:=0) (arms:= .nil) (by intro e;cases e) hk (.inr ⟨.inr rfl,rfl⟩) q1 q2
 have hb:=Qf base wp M r _ 1 1 _ w0 _ hC hwp hr (by simp only[Tr.size];omega) hM hp h1 h2 h3;rw[show (Tr.nod k s n p kids .nil .nil).brT=brkL (alnT k kids.len) (zI k s n kids) by simp[Tr.brT]]at hb;exact hb
theorem qhV(base wp:Nat)(w0:World)(hwp:w0.heap.size<=wp)(M:Nat):M<=1000000->TyC w0 base wp M:=by
 induction M with
 | zero=>intro _ k s n p A c kids xs W _ h;omega
 | succ M ih=>
  intro hM k s n p A c kids xs W hk hsz hsh hW hw hx;have hC:TyC w0 base wp M:=ih (by omega);clear ih;have HS:=hid (Ws.start hW hw hx);obtain⟨F,hF⟩:∃ F,F=zI k s n kids:=⟨_,rfl⟩
  rw[<- hF];have hWl:W.heap.size<W.heap.size+1:=by omega
  by_cases k3:k=3
  ·subst k3
   have hl2:kids.len=2:=hsh.1 rfl;obtain⟨b,o,ka,sa,na,pa,kia,ara,A1,c1,B1,d1,kb,sb,nb,pb,kib,arb,A2,c2,B2,d2,rfl,rfl,hlt,hc1,hk1,ha1,hc2,hk2,ha2⟩:=Qx (by intro e;cases e) hk hl2;obtain rfl:ara=.nil:=by
    rcases ha1 with ⟨e,_⟩ | ⟨_,e⟩
    ·cases e
    ·exact e
   obtain rfl:arb=.nil:=by
    rcases ha2 with ⟨e,_⟩ | ⟨_,e⟩
    ·cases e
    ·exact e
   have hsh':=hsh.2.1;simp only[Tr.size]at hsz;have hF2:F=brkL (alnT ka kia.len) (zI ka sa na kia)++[zq n]++brkL (alnT kb kib.len) (zI kb sb nb kib):=by
    rw[hF];unfold zI;rw[if_pos rfl];simp[Tr.tyK]
   obtain⟨av1,av2⟩:=qcQ n;obtain⟨aw,haw⟩:∃ x,x=(zq n).s:=⟨_,rfl⟩
   rw[<- haw]at av1 av2;have HB1:=hid fun w g h hg=>qcV (xs:=xs) (W:=W) hC (by omega) hwp [] w g ka sa na pa kia A1 c1 h hg hk1 (by omega) ⟨hsh'.1,hsh'.2.1,trivial⟩;have HB2:=hid fun pre w g h hg=>qcV (xs:=xs) (W:=W) hC (by omega) hwp pre w g kb sb nb pb kib A2 c2 h hg hk2 (by omega) ⟨hsh'.2.2.1,hsh'.2.2.2.1,trivial⟩;have HC1:=hid hc1;have HC2:=hid hc2;have HLT:=hid hlt;obtain⟨SA,hSA⟩:∃ S:ByteArray,S=⟨sa.toArray⟩:=⟨_,rfl⟩
   obtain⟨SB,hSB⟩:∃ S:ByteArray,S=⟨sb.toArray⟩:=⟨_,rfl⟩
   obtain⟨SS,hSS⟩:∃ S:ByteArray,S=⟨s.toArray⟩:=⟨_,rfl⟩
   obtain⟨AS,hAS⟩:∃ S:ByteArray,S=⟨aw.toArray⟩:=⟨_,rfl⟩
   obtain⟨l1,hl1⟩:∃ l,l=kia.len:=⟨_,rfl⟩
   obtain⟨l2,hl2'⟩:∃ l,l=kib.len:=⟨_,rfl⟩
   have HAR:Hid (∀ W,Calls Tryz.prog 176 #[.int .u8 n] W fun e w'=>e=.returned (.agg #[.int .u8 5,AS,(0:Int),(0:Int),(0:Int),(0:Int)])/\Bel W w'):=hid fun W=>by rw[hAS,<- av1];exact qcR n W
   have HPU:Hid (∀ (pre:List Tn) (w:World) (g:Nat),Ws w0 base wp xs W pre w->g=w.heap.size->Calls Tryz.prog 85 #[.pointer (some ⟨wp,0,none⟩),.slice (some ⟨g,0,none⟩) 1 1] (w.alloc (.cells #[.int .u8 5,.string AS,.int .i64 0,.int .i64 0,.int .i64 0,.int .i64 0] 51)) (WsQ w0 base wp xs W (pre++[zq n]) w)):=hid fun pre w g h hg=>by rw[hAS,av2];exact h.put1g hwp 5 aw 0 1 g hg
   have HF2:=hid hF2;obtain⟨G1,hG1⟩:∃ G,G=brkL (alnT ka kia.len) (zI ka sa na kia):=⟨_,rfl⟩
   obtain⟨G2,hG2⟩:∃ G,G=brkL (alnT kb kib.len) (zI kb sb nb kib):=⟨_,rfl⟩
   rw[<- hG1,<- hSA,<- hl1]at HB1;rw[<- hG2,<- hSB,<- hl2']at HB2;rw[<- hG1,<- hG2]at HF2;rw[<- hSS,hl2];have HCC1:Hid (∀ w,Bel w0 w->∀ j u,(nodV .ty ka sa na pa A1 l1 c1 B1 0 d1)[j]?=some u->w.cell? ⟨b,o+j,none⟩=some u):=by rw[hl1];exact HC1
   have HCC2:Hid (∀ w,Bel w0 w->∀ j u,(nodV .ty kb sb nb pb A2 l2 c2 B2 0 d2)[j]?=some u->w.cell? ⟨b,o+7+j,none⟩=some u):=by rw[hl2'];exact HC2
   have HSA:=hid hSA;have HSB:=hid hSB;clear hk hsz hsh hsh' hW hw hx hC hc1 hc2 hk1 hk2 ha1 ha2 hlt HC1 HC2 hF hF2 av1 av2 haw hG1 hG2 hl1 hl2' hl2 hSS hAS hSA hSB;have HS1:=hid (HS.out.bel ((Bel.refl W).alloc (.cells #[.int .u8 3,SS,.int .u8 n,p.a,p.l,p.c,.slice (some ⟨b,o,none⟩) 2 c] 59)));have HX1:=hid (HS.out.box (.cells #[.int .u8 3,SS,.int .u8 n,p.a,p.l,p.c,.slice (some ⟨b,o,none⟩) 2 c] 59));have y0:=HCC1.out _ HS1.out.1 0 _ rfl;have y1:=HCC1.out _ HS1.out.1 1 _ rfl;have y2:=HCC1.out _ HS1.out.1 2 _ rfl;have y3:=HCC1.out _ HS1.out.1 3 _ rfl;have y4:=HCC1.out _ HS1.out.1 4 _ rfl;have y5:=HCC1.out _ HS1.out.1 5 _ rfl;have y6:=HCC1.out _ HS1.out.1 6 _ rfl;simp only[Sh.kd,Nat.add_zero]at y0 y1 y2 y3 y4 y5 y6;rw[<- HSA.out]at y1;go_enter Tryz.func139,Tryz.ntmps139
   go_wp2_with fail
   refine (HB1.out _ (W.heap.size+1) HS1.out (by simp)).mono ?_;rintro e w2 ⟨rfl,hs2,hk2⟩;have HS2:=hid hs2;have HX2:=hid (hk2 _ _ HX1.out);obtain⟨x0,x1,x2,x3,x4,x5,x6⟩:=box7 HX2.out.1;have hl2:W.heap.size<w2.heap.size:=(Array.getElem?_eq_some_iff.1 HX2.out.1).1;clear hs2 hk2 y0 y1 y2 y3 y4 y5 y6 HS1 HX1;go_wp2_with fail
   refine (HAR.out _).mono ?_;rintro e w3 ⟨rfl,hb3⟩;have HS3:=hid (HS2.out.bel hb3);have HX3:=hid (HS2.out.kp hb3 _ _ HX2.out);clear hb3 x0 x1 x2 x3 x4 x5 x6 hl2;go_wp2_with fail
   refine (HPU.out _ _ _ HS3.out rfl).mono ?_;rintro e w4 ⟨rfl,hs4,hk4⟩;have HS4:=hid hs4;have HX4:=hid (hk4 _ _ HX3.out);obtain⟨x0,x1,x2,x3,x4,x5,x6⟩:=box7 HX4.out.1;have hl4:W.heap.size<w4.heap.size:=(Array.getElem?_eq_some_iff.1 HX4.out.1).1;have y0:=HCC2.out _ HS4.out.1 0 _ rfl;have y1:=HCC2.out _ HS4.out.1 1 _ rfl;have y2:=HCC2.out _ HS4.out.1 2 _ rfl;have y3:=HCC2.out _ HS4.out.1 3 _ rfl;have y4:=HCC2.out _ HS4.out.1 4 _ rfl;have y5:=HCC2.out _ HS4.out.1 5 _ rfl;have y6:=HCC2.out _ HS4.out.1 6 _ rfl;simp only[Sh.kd,Nat.add_zero]at y0 y1 y2 y3 y4 y5 y6;rw[<- HSB.out]at y1;clear hs4 hk4;go_wp2_with fail
   refine (HB2.out _ _ _ HS4.out rfl).mono ?_;rintro e w5 ⟨rfl,hs5,hk5⟩;have HQ:=hid (hs5.fin (F:=F) (by rw[HF2.out];simp));clear hs5 hk5 y0 y1 y2 y3 y4 y5 y6 x0 x1 x2 x3 x4 x5 x6;go_wp2_with fail
   go_end0
   exact HQ.out
  have HR:Hid (∀ W,Calls Tryz.prog 177 #[.agg #[.int .u8 k,.string ⟨s.toArray⟩,.int .u8 n,p.a,p.l,p.c,.slice A kids.len c]] W fun e w'=>e=.returned (.tuple #[.agg #[.int .u8 (tyR k).1,.int .i64 (tyR k).2.1],.bool (tyR k).2.2])/\Bel W w'):=hid fun W=>ZM k s n p A kids.len c W;have HBR:Hid (∀ (pre:List Tn) (w:World),Ws w0 base wp xs W pre w->Calls Tryz.prog 137 #[.pointer (some ⟨wp,0,none⟩),.func (.func 138) #[] #[],.func (.func 139) #[.pointer (some ⟨wp,0,none⟩)] #[],.slice A kids.len c] w (WsQ w0 base wp xs W (pre++kids.brT) w)):=hid fun pre w h=>
   h.run fun r h1 h2 h3=>Qf base wp M r A kids.len c kids w0 w hC hwp (RowX.old hk h1 hwp h2) (by omega) (by omega) hsh.2.1 h1 h2 h3
  obtain⟨tk,htk⟩:∃ t,t=(tyR k).1:=⟨_,rfl⟩
  obtain⟨kc,hkc⟩:∃ t,t=(tyR k).2.1:=⟨_,rfl⟩
  obtain⟨ok,hok⟩:∃ t,t=(tyR k).2.2:=⟨_,rfl⟩
  have HPU:Hid (∀ (pre:List Tn) (w:World) (g:Nat),Ws w0 base wp xs W pre w->g=w.heap.size->Calls Tryz.prog 85 #[.pointer (some ⟨wp,0,none⟩),.slice (some ⟨g,0,none⟩) 1 1] (w.alloc (.cells #[.int .u8 tk,.string ⟨s.toArray⟩,.int .i64 0,.int .i64 0,.int .i64 0,.int .i64 0] 51)) (WsQ w0 base wp xs W (pre++[tk0 tk s 0]) w)):=hid fun pre w g h hg=>h.put1g hwp tk s 0 1 g hg;have HF2:Hid (F=tk0 tk s 0::kids.brT):=hid (by rw[hF,htk,<- Tr.brT_tyK];unfold zI;rw[if_neg k3]);rw[<- htk,<- hkc,<- hok]at HR;obtain⟨T1,hT1⟩:∃ T,T=tk0 tk s 0:=⟨_,rfl⟩
  obtain⟨SS,hSS⟩:∃ S:ByteArray,S=⟨s.toArray⟩:=⟨_,rfl⟩
  obtain⟨l1,hl1⟩:∃ l,l=kids.len:=⟨_,rfl⟩
  rw[<- hSS,<- hl1]at HR;rw[<- hl1]at HBR;rw[<- hSS,<- hT1]at HPU;rw[<- hT1]at HF2;rw[<- hSS,<- hl1];have d3:(k==3)=false:=by simpa using k3
  clear hk hsz hsh hW hw hx hC htk hkc hok hF hT1 hSS hl1 k3;have HS1:=hid (HS.out.bel ((Bel.refl W).alloc (.cells #[.int .u8 k,SS,.int .u8 n,p.a,p.l,p.c,.slice A l1 c] 59)));have HX1:=hid (HS.out.box (.cells #[.int .u8 k,SS,.int .u8 n,p.a,p.l,p.c,.slice A l1 c] 59));go_enter Tryz.func139,Tryz.ntmps139
  go_wp2_with fail
  refine (HR.out _).mono ?_;rintro e w2 ⟨rfl,hb2⟩;have HS2:=hid (HS1.out.bel hb2);have HX2:=hid (HS1.out.kp hb2 _ _ HX1.out);have HS3:=hid (HS2.out.bel ((Bel.refl w2).alloc (.cells #[.int .u8 tk,kc] 146)));have HX3:=hid (HS2.out.kp ((Bel.refl w2).alloc (.cells #[.int .u8 tk,kc] 146)) _ _ HX2.out);obtain⟨x0,x1,x2,x3,x4,x5,x6⟩:=box7 HX2.out.1;have hl2:W.heap.size<w2.heap.size:=(Array.getElem?_eq_some_iff.1 HX2.out.1).1;clear hb2;go_wp2_with fail
  refine (HPU.out _ _ _ HS3.out (by simp)).mono ?_;rintro e w4 ⟨rfl,hs4,hk4⟩;have HS4:=hid hs4;have HX4:=hid (hk4 _ _ HX3.out);clear x0 x1 x2 x3 x4 x5 x6 hl2;obtain⟨x0,x1,x2,x3,x4,x5,x6⟩:=box7 HX4.out.1;have hl4:W.heap.size<w4.heap.size:=(Array.getElem?_eq_some_iff.1 HX4.out.1).1;clear hs4 hk4;go_wp2_with fail
  refine (HBR.out _ _ HS4.out).mono ?_;rintro e w5 ⟨rfl,hs5,hk5⟩;have HQ:=hid (hs5.fin (F:=F) (by rw[HF2.out];simp));clear hs5 hk5 x0 x1 x2 x3 x4 x5 x6;go_wp2_with fail
  go_end0
  exact HQ.out
end Go.Proofs.YtlmmaoobembadaaGreatDoor.Mu
