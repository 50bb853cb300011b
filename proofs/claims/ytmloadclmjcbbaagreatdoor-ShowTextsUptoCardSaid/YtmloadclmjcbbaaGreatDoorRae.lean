import Derived.Lib.ItoaLen
import Derived.Test.YtmloadclmjcbbaaGreatDoorRad
open Go.Lib (hid)
namespace Go.Proofs.YtmloadclmjcbbaaGreatDoor.Mu
set_option maxHeartbeats 4000000
open Go.RowKit Go.Shelf
set_option maxRecDepth 100000
theorem fTok:((Tryz.prog.fieldsOf 85).toList.map fun f=>(f.name,f.type,f.offset))=[("Kind",5,0),("Text",9,1),("N",2,2),("At",24,3)]:=by kernel_rfl
theorem map4{α β:Type}{f:α->β}{l:List α}{x y z u:β}(h:l.map f=[x,y,z,u]):∃ a b c d,l=[a,b,c,d]/\f a=x/\f b=y/\f c=z/\f d=u:=by
 match l,h with
 | [a,b,c,d],h=>simp at h;exact⟨a,b,c,d,rfl,h.1,h.2.1,h.2.2.1,h.2.2.2⟩
theorem qj2(x y:Tn)(w:World):(Op.equalIn 10000 85 (.agg #[.int .u8 x.k,.string ⟨x.s.toArray⟩,x.n,x.p.a,x.p.l,x.p.c]) (.agg #[.int .u8 y.k,.string ⟨y.s.toArray⟩,y.n,y.p.a,y.p.l,y.p.c])).run Tryz.prog w=.ok (samO true x y) w:=by
 rw[run_equalIn_struct w 9999 85 _ _ (by kernel_rfl) (by kernel_rfl)];obtain⟨a,b,c,d,e,ea,eb,ec,ed⟩:=map4 fTok;simp only[Prod.mk.injEq]at ea eb ec ed;obtain⟨a0,a1,a2⟩:=ea;obtain⟨b0,b1,b2⟩:=eb;obtain⟨c0,c1,c2⟩:=ec;obtain⟨d0,d1,d2⟩:=ed;rw[e];have p0:∀ x0 x1 x2 x3 x4 x5:Value,(part 5 #[x0,x1,x2,x3,x4,x5] 0).run Tryz.prog w=.ok x0 w:=fun _ _ _ _ _ _=>by kernel_rfl
 have p1:∀ x0 x1 x2 x3 x4 x5:Value,(part 9 #[x0,x1,x2,x3,x4,x5] 1).run Tryz.prog w=.ok x1 w:=fun _ _ _ _ _ _=>by kernel_rfl
 have p2:∀ x0 x1 x2 x3 x4 x5:Value,(part 2 #[x0,x1,x2,x3,x4,x5] 2).run Tryz.prog w=.ok x2 w:=fun _ _ _ _ _ _=>by kernel_rfl
 have p3:∀ x0 x1 x2 x3 x4 x5:Value,(part 24 #[x0,x1,x2,x3,x4,x5] 3).run Tryz.prog w=.ok (.agg #[x3,x4,x5]) w:=fun _ _ _ _ _ _=>by kernel_rfl
 have n0:¬ ("Kind" : String) = "_":=by decide +kernel
 have n1:¬ ("Text" : String) = "_":=by decide +kernel
 have n2:¬ ("N" : String) = "_":=by decide +kernel
 have n3:¬ ("At" : String) = "_":=by decide +kernel
 have g0:=run_equalIn_int (P:=Tryz.prog) w 9998 5 .u8 .u8 x.k y.k Tryz.underlying5;have g1:=run_equalIn_string (P:=Tryz.prog) w 9998 9 ⟨x.s.toArray⟩ ⟨y.s.toArray⟩ Tryz.underlying9;have g2:=run_equalIn_int (P:=Tryz.prog) w 9998 2 .i64 .i64 x.n y.n Tryz.underlying2;have g3:=qiR 9997 x.p y.p w;simp only[Op.eqFields,a0,a1,a2,b0,b1,b2,c0,c1,c2,d0,d1,d2,ne_eq,n0,n1,n2,n3,not_false_eq_true,if_true,Sem.run_bind,p0,p1,p2,p3,Result.andThen_ok,g0,g1,g2,g3,Sem.run_ite,Sem.run_pure];have hs:((⟨x.s.toArray⟩:BA).toList==(⟨y.s.toArray⟩:BA).toList)=decide (x.s=y.s):=by
  rw[Bool.eq_iff_iff,beq_iff_eq,decide_eq_true_iff,ByteArray.toList_eq,ByteArray.toList_eq]
 simp only[hs];obtain⟨k,s,n,p⟩:=x;obtain⟨k',s',n',p'⟩:=y;unfold samO;by_cases h1:k=k' <;> by_cases h2:s=s' <;> by_cases h3:n=n' <;> by_cases h4:p=p' <;> simp[h1,h2,h3,h4]
open Classical in
theorem qb3(k:Int)(s:LU)(n a l c:Int)(hs:s.length<=9223372036854775807)(h0:-9223372036854775808<=n)(h1:n<=9223372036854775807)(w:World)(htab:Tbl w) :
  Calls Tryz.prog 45 #[.agg #[.int .u8 k,.string ⟨s.toArray⟩,n,a,l,c]] w fun e w'=>e=.returned (.bool (decide (qh (k,s,n))))/\Bel w w':=by
 obtain⟨ans,hans⟩:=nW (decide (qh (k,s,n)));rw[<- hans];have hb1:Bel w (w.alloc (.cells #[.int .u8 k,.string ⟨s.toArray⟩,n,a,l,c] 85)):=(Bel.refl w).alloc _;have q1:=blk1 w (.cells #[.int .u8 k,.string ⟨s.toArray⟩,n,a,l,c] 85);have HB1:=hid hb1;have HQ1:=hid q1;have HTB:=hid htab;by_cases k4:k=4
 ·have hv:Hid (∀ W,Bel w W->Calls Tryz.prog 94 #[.string ⟨s.toArray⟩] W fun e w'=>e=.returned (.bool (Lib.validD s))/\Bel W w'):=hid fun W hW=>qgh s hs W (htab.bel hW)
  have ha:ans=(decide (n=0)&&Lib.validD s):=by
   rw[hans,Bool.eq_iff_iff,decide_eq_true_iff,Bool.and_eq_true,decide_eq_true_iff,qgi];unfold qh;simp only[k4];constructor
   ·rintro (⟨h,_⟩ | ⟨h,_⟩ | ⟨h,_⟩ | ⟨_,h,h2⟩ | ⟨h,_⟩ | ⟨h,_⟩)
    all_goals first | exact absurd h (by decide) | exact⟨h2,h⟩
   ·rintro⟨h2,h⟩;exact .inr (.inr (.inr (.inl ⟨trivial,h,h2⟩)))
  have HA:=hid ha;clear ha hans hb1 q1 htab;subst k4;go_enter Tryz.func45,Tryz.ntmps45;by_cases hn:n=0
  ·subst hn
   have ha:ans=Lib.validD s:=by rw[HA.out];simp
   subst ha;go_wp2_with (go_at_call 94;refine (hv.out _ HB1).mono ?_;rintro e w2 ⟨rfl,hb2⟩;(have HB2:=hid hb2);clear hb2);go_ret;exact⟨rfl,HB1.on HB2⟩
  ·have dn:(n==0)=false:=by simp[hn]
   have ha:ans=false:=by rw[HA.out];simp[hn]
   subst ha;go_wp2;go_ret;exact⟨rfl,HB1⟩
 ·have hwr:Hid (∀ W,Bel w W->Calls Tryz.prog 49 #[.agg #[.int .u8 k,.string ⟨s.toArray⟩,n,a,l,c]] W fun e w'=>e=.returned (.string ⟨(wriB k s n).toArray⟩)/\Bel W w'):=hid fun W hW=>Zl k s n a l c k4 h0 h1 W (htab.bel hW)
  obtain⟨wr,hwrq⟩:=nW (wriB k s n);rw[<- hwrq]at hwr;obtain⟨cs,rest,hc⟩:=qbc _ wr (Nat.le_refl _);have hiff:=qi9 (k:=k) (n:=n) (s:=s) (wr:=wr) (rest:=rest) (cs:=cs) k4 (fun hn0=>by
   rw[hwrq];unfold wriB putB;by_cases k3:k=3
   ·rw[if_pos k3,if_pos k3,qcS hn0]
   ·rw[if_neg k3,if_neg k3,if_neg k4]) hc
  obtain⟨O,hO⟩:=nW (tokO wr.length cs rest);rw[<- hO]at hiff;have HTO:Hid (∀ W,Calls Tryz.prog 95 #[.string ⟨wr.toArray⟩] W (GTo O W)):=hid fun W=>by
   have:=qeb (s:=⟨wr.toArray⟩) (cs:=cs) (rest:=rest) hc W;rw[show (⟨wr.toArray⟩:BA).size=wr.length by simp[ByteArray.size],<- hO]at this;exact this
  have ha:ans=decide (O.e=0/\O.l.map Tn.b=[(k,s,n)]):=by rw[hans];exact decide_eq_decide.2 hiff.symm
  have HA:=hid ha;have d4:(k==4)=false:=by simp[k4]
  clear ha hans hb1 q1 htab hwrq hc hiff hO;go_enter Tryz.func45,Tryz.ntmps45;obtain⟨⟨t0,t1,t2,t3,t4,t5⟩,f0,f1,f2,f3,f4,f5⟩:=qq HQ1;go_wp2_with fail;refine (hwr.out _ HB1).mono ?_;rintro e w2 ⟨rfl,hb2⟩;have HQ2:=hid (hb2.blk HQ1);have HB2:=hid (HB1.on hb2);clear hb2 t0 t1 t2 t3 t4 t5 f0 f1 f2 f3 f4 f5;go_wp2_with fail;refine (HTO _).mono ?_;rintro e w3 ⟨hb3,A,m,cc,rfl,hrt⟩;have HQ3:=hid (hb3.blk HQ2);have HB3:=hid (HB2.on hb3);have HRT:=hid hrt;have hml:=hrt.1;have HML:=hid hml;clear hb3 hrt;by_cases he:O.e=0
  ·by_cases hm1:m=1
   ·subst hm1
    obtain⟨b,off,rfl,hb,hcc⟩:=HRT.2 (by omega);obtain⟨x,hx⟩:∃ x,O.l=[x]:=by
     match hl:O.l,hml with
     | [x],_=>exact⟨x,rfl⟩
    have hx0:=hcc 0 x (by rw[hx];rfl);have HX:=hid hx;obtain⟨x0,x1,x2,x3,x4,x5⟩:=hx0;simp only[Nat.zero_mul,Nat.add_zero]at x0 x1 x2 x3 x4 x5;have hqlt:=(Array.getElem?_eq_some_iff.1 HQ3).1;clear hcc hml hx;obtain⟨⟨t0,t1,t2,t3,t4,t5⟩,f0,f1,f2,f3,f4,f5⟩:=qq HQ3;go_wp2_with fail;refine JR ?_;intro W hW;have HBW:Hid (Bel w W):=by
     rw[hW];exact hid ((((HB3.out.set_ (Nat.le_refl _) _).set_ (Nat.le_refl _) _).set_ (Nat.le_refl _) _).alloc _)
    have HQ7:Hid (W.heap[w.heap.size]?=some (.cells #[.int .u8 k,.string ⟨s.toArray⟩,n,x.p.a,x.p.l,x.p.c] 85 (0,0))):=by
     rw[hW];exact hid (Bel.blk ((Bel.refl _).alloc _) (Joins.block_setCell (Joins.block_setCell (Joins.block_setCell HQ3 _) _) _))
    have HXW:Hid (TnAt W b off x):=by
     by_cases hbb:b=w.heap.size
     ·subst hbb
      have ho:off=0:=by
       have:=x5;unfold World.cell? at this;rw[HQ3.out]at this;have:=(Array.getElem?_eq_some_iff.1 this).1;simp at this;omega
      subst ho;obtain⟨⟨u0,u1,u2,u3,u4,u5⟩,-⟩:=qq HQ7;simp only[Nat.zero_add]at x0 x1 x2 x3 x4 x5;have e0:=x0.symm.trans t0;have e1:=x1.symm.trans t1;have e2:=x2.symm.trans t2;exact hid ⟨u0.trans e0.symm,u1.trans e1.symm,u2.trans e2.symm,u3,u4,u5⟩
     ·have key:∀ o,W.cell? ⟨b,o,none⟩=w3.cell? ⟨b,o,none⟩:=fun o=>by
       rw[hW];unfold World.cell?
       rw[show ∀ (V:World) (o:Obj),b<V.heap.size->(V.alloc o).heap[b]?=V.heap[b]? from fun V o h=>((Bel.refl V).alloc o).block b h]
       ·rw[Below.heap_setCell _ _ _ _ hbb,Below.heap_setCell _ _ _ _ hbb,Below.heap_setCell _ _ _ _ hbb]
       ·exact Nat.lt_of_lt_of_le hb (by simp[World.setCell])
      exact hid ⟨(key _).trans x0,(key _).trans x1,(key _).trans x2,(key _).trans x3,(key _).trans x4,(key _).trans x5⟩
    have ha:ans=samO true x ⟨k,s,n,x.p⟩:=by
     rw[HA.out,HX.out];unfold samO Tn.b;simp[he,Bool.and_assoc]
    have hq:∀ w,(Op.equalIn 10000 85 (.agg #[.int .u8 x.k,.string ⟨x.s.toArray⟩,x.n,x.p.a,x.p.l,x.p.c]) (.agg #[.int .u8 k,.string ⟨s.toArray⟩,n,x.p.a,x.p.l,x.p.c])).run Tryz.prog w=.ok ans w:=fun w=>by rw[ha];exact qj2 x ⟨k,s,n,x.p⟩ w
    clear hW x0 x1 x2 x3 x4 x5 t0 t1 t2 t3 t4 t5 f0 f1 f2 f3 f4 f5 hb ha;obtain⟨x0,x1,x2,x3,x4,x5⟩:=HXW.out;obtain⟨⟨t0,t1,t2,t3,t4,t5⟩,-⟩:=qq HQ7;go_region;go_wp2;go_ret;exact⟨rfl,HBW.drew⟩
   ·have ha:ans=false:=by
     rw[HA.out];refine decide_eq_false_iff_not.2 fun h=>hm1 ?_;have:=congrArg List.length h.2;rw[List.length_map]at this;rw[HML.out,this];rfl
    subst ha;have dm:((m:Int)==1)=false:=by simp;omega
    obtain⟨⟨t0,t1,t2,t3,t4,t5⟩,f0,f1,f2,f3,f4,f5⟩:=qq HQ3;go_wp2;go_ret;exact⟨rfl,HB3.alloc _⟩
  ·have ha:ans=false:=by
    rw[HA.out];exact decide_eq_false_iff_not.2 fun h=>he h.1
   subst ha;have de:(O.e==0)=false:=by simp[he]
   obtain⟨⟨t0,t1,t2,t3,t4,t5⟩,f0,f1,f2,f3,f4,f5⟩:=qq HQ3;go_wp2;go_ret;exact⟨rfl,HB3.alloc _⟩
theorem JW(t:Int × LU × Int):∀ (ts:List (Int × LU × Int)),ts≠[]->qt (ts++[t])=qt ts++([32]++putB t.1 t.2.1 t.2.2)
 | [],h=>absurd rfl h
 | [u],_=>by simp[qt]
 | u::v::ts,_=>by
  have ih:=JW t (v::ts) (by simp);simp only[List.cons_append]at ih ⊢;simp only[qt,ih];simp
theorem QK{ts:List (Int × LU × Int)}{j:Nat}{x:Int × LU × Int}(hx:ts[j]?=some x):qt (ts.take (j+1))=qt (ts.take j)++((if 0<j then [32] else [])++putB x.1 x.2.1 x.2.2):=by
 have hlt:=(List.getElem?_eq_some_iff.1 hx).1;rw[List.take_succ_eq_append_getElem hlt,(List.getElem?_eq_some_iff.1 hx).2];rcases Nat.eq_zero_or_pos j with h0 | h0
 ·subst h0;simp[qt]
 ·rw[if_pos h0]
  exact JW x _ (by intro h;have:=congrArg List.length h;rw[List.length_take,List.length_nil]at this;omega)
theorem JV(ts:List (Int × LU × Int)):∀ (d j:Nat),j+d=ts.length->(qt (ts.take j)).length<=(qt ts).length
 | 0,j,h=>by rw[List.take_of_length_le (by omega)];exact Nat.le_refl _
 | d+1,j,h=>by
  have ih:=JV ts d (j+1) (by omega);rw[QK (List.getElem?_eq_getElem (by omega:j<ts.length)),List.length_append]at ih;omega
theorem qiS{t:Int × LU × Int}(h:qh t):t.2.1.length<=(putB t.1 t.2.1 t.2.2).length:=by
 obtain⟨k,s,n⟩:=t;unfold putB;by_cases k3:k=3
 ·have hs:s=[]:=by
   unfold qh at h;simp only[k3]at h;rcases h with ⟨h,_⟩ | ⟨h,_⟩ | ⟨_,_,_,h⟩ | ⟨h,_⟩ | ⟨h,_⟩ | ⟨h,_⟩
   all_goals first | exact absurd h (by decide) | exact h
  simp[hs]
 ·by_cases k4:k=4
  ·have:=(Zp s).1
   rw[if_neg k3,if_pos k4,List.length_cons,List.length_append];show s.length<=(s.flatMap escB).length+_+1;omega
  ·rw[if_neg k3,if_neg k4];exact Nat.le_refl _
theorem qjk{t:Int × LU × Int}(h:qh t):wriB t.1 t.2.1 t.2.2=putB t.1 t.2.1 t.2.2:=by
 obtain⟨k,s,n⟩:=t;unfold putB wriB;by_cases k3:k=3
 ·have hn:0<=n:=by
   unfold qh at h;simp only[k3]at h;rcases h with ⟨h,_⟩ | ⟨h,_⟩ | ⟨_,h,_⟩ | ⟨h,_⟩ | ⟨h,_⟩ | ⟨h,_⟩
   all_goals first | exact absurd h (by decide) | exact h
  simp only[k3,if_true];exact qcS hn
 ·simp only[k3,if_false]
theorem qfj{ts:List (Int × LU × Int)}{j:Nat}{x:Int × LU × Int}(hx:ts[j]?=some x)(h:qh x):(qt (ts.take j)).length+x.2.1.length<=(qt ts).length:=by
 have hlt:=(List.getElem?_eq_some_iff.1 hx).1;have h1:=JV ts (ts.length-(j+1)) (j+1) (by omega);rw[QK hx,List.length_append,List.length_append]at h1;have:=qiS h;omega
theorem BufF.bel{base b:Nat}{bs:LU}{w w':World}(h:BufF base b bs w)(hb:Bel w w'):BufF base b bs w':=by
 have key:∀ p,Lib.BuilderAtF 91 5 base b p (Lib.byteCells bs) w->Lib.BuilderAtF 91 5 base b p (Lib.byteCells bs) w':=by
  rintro p ⟨hB,v,hbk,hown,hne⟩;refine⟨hB,v,hb.blk hbk,⟨hown.1,?_⟩,hne⟩;rcases hown.2 with h0 | ⟨g,cap,cur,fz,e,hg,hc,r⟩
  ·exact .inl h0
  ·exact .inr ⟨g,cap,cur,fz,e,hg,hb.blk hc,r⟩
 rcases h with h | h
 ·exact .inl (key _ h)
 ·exact .inr (key _ h)
theorem BufF.new_{base b:Nat}{w:World}(hB:base<=b)(hb:w.heap[b]?=some (.cells #[.pointer none,.slice none 0 0] 91 (0,0))):BufF base b [] w:=
 .inl ⟨hB,_,hb,⟨rfl,.inl ⟨rfl,rfl⟩⟩,by simp[Value.ownBlock]⟩
set_option maxHeartbeats 8000000
theorem qj5{ts:List (Int × LU × Int)}{t:Int × LU × Int}(h:t∈ts)(hm:¬ qh t):wrO ts=([],2):=by
 unfold wrO;rw[if_neg fun h'=>hm (h' t h)]
theorem qdi{ts:List (Int × LU × Int)}(h:∀ t∈ts,qh t)(hl:4000<(qt ts).length):wrO ts=([],3):=by
 unfold wrO;rw[if_pos h,if_neg (by omega)]
theorem qjh{ts:List (Int × LU × Int)}(h:∀ t∈ts,qh t)(hl:(qt ts).length<=4000):wrO ts=(qt ts,0):=by
 unfold wrO;rw[if_pos h,if_pos hl]
theorem qjj{k:Int}{s:LU}{n:Int}(h0:-9223372036854775808<=n)(h1:n<=9223372036854775807):(wriB k s n).length<=2*s.length+30:=by
 unfold wriB;by_cases k3:k=3
 ·rw[if_pos k3]
  have:=Lib.itoa_length_le n h0 h1;omega
 ·rw[if_neg k3]
  by_cases k4:k=4
  ·rw[if_pos k4,List.length_cons,List.length_append]
   have:=(Zp s).2;show (s.flatMap escB).length+1+1<=_;omega
  ·rw[if_neg k4];omega
open Classical in
theorem JU{A:OA}{n cp:Nat}{xs:List Tn}(w:World)(htab:Tbl w)(hr:RTn w w.heap.size A n xs)(hn:n<=140737488355328)(hx:∀ x∈xs,x.s.length<=140737488355328/\-9223372036854775808<=x.n/\x.n<=9223372036854775807) :
  Calls Tryz.prog 20 #[.slice A n cp] w fun e w'=>e=.returned (.tuple #[.string ⟨(wrO (xs.map Tn.b)).1.toArray⟩,.int .i64 (wrO (xs.map Tn.b)).2])/\Bel w w':=by
 obtain⟨RS,hRS⟩:=nW ((wrO (xs.map Tn.b)).1);obtain⟨RE,hRE⟩:=nW ((wrO (xs.map Tn.b)).2);rw[<- hRS,<- hRE];have HRS:=hid hRS;have HRE:=hid hRE;have HTB:=hid htab;have HR:=hid hr;have HX:=hid hx;have hlen:=hr.1;have HLEN:=hid hlen;have HIS:Hid (∀ (j:Nat) (x:Tn),xs[j]?=some x->∀ W,Bel w W->Calls Tryz.prog 45 #[.agg #[.int .u8 x.k,.string ⟨x.s.toArray⟩,x.n,x.p.a,x.p.l,x.p.c]] W fun e w'=>e=.returned (.bool (decide (qh x.b)))/\Bel W w'):=hid fun j x hj W hW=>by
  obtain⟨b1,b2,b3⟩:=hx x (List.mem_of_getElem? hj);exact qb3 x.k x.s x.n x.p.a x.p.l x.p.c (by omega) b2 b3 W (htab.bel hW)
 have HWR:Hid (∀ (j:Nat) (x:Tn),xs[j]?=some x->x.s.length<=100000->∀ W,Bel w W->Calls Tryz.prog 49 #[.agg #[.int .u8 x.k,.string ⟨x.s.toArray⟩,x.n,x.p.a,x.p.l,x.p.c]] W fun e w'=>e=.returned (.string ⟨(wriB x.k x.s x.n).toArray⟩)/\Bel W w'):=hid fun j x hj hs W hW=>by
  obtain⟨b1,b2,b3⟩:=hx x (List.mem_of_getElem? hj);exact qcs x.k x.s x.n x.p.a x.p.l x.p.c (fun _=>hs) b2 b3 W (htab.bel hW)
 clear hRS hRE htab hr hx hlen;go_enter Tryz.func20,Tryz.ntmps20;go_wp2_with fail;go_loopg [11] (n+1) (fun gk v wr=>∃ j:Nat,v=.int .i64 (j:Int)/\Hid (j<=n/\n-j<gk)/\Hid (∀ t∈(xs.map Tn.b).take j,qh t)/\Hid (Bel w wr))
 case atStart=>
  exact⟨0,rfl,hid ⟨by omega,by omega⟩,hid (by simp),hid (Bel.refl w)⟩
 case round=>
  obtain⟨j,rfl,HJ,HM,HB⟩:=hrel;by_cases hj:j<n
  ·obtain⟨x,hx⟩:∃ x,xs[j]?=some x:=⟨_,List.getElem?_eq_getElem (by have:=HLEN.out;omega)⟩
   obtain⟨b,off,rfl,hb,hcc⟩:=(HR.bel HB).2 (by omega);obtain⟨x0,x1,x2,x3,x4,x5⟩:=hcc j x hx;have HXX:=hid hx;clear hcc hx;go_wp2_with fail;refine (HIS j x HXX _ (HB.alloc _)).mono ?_;rintro e w1 ⟨rfl,hb1⟩;have HB1:=hid ((HB.alloc _).on hb1);clear hb1 x0 x1 x2 x3 x4 x5;have hxb:(xs.map Tn.b)[j]?=some x.b:=by rw[List.getElem?_map,HXX.out];rfl
   have HXB:=hid hxb;clear hxb;by_cases hm:qh x.b
   ·rw[decide_eq_true hm]
    go_wp2;go_roundg (gk-1)
    case rel=>
     refine⟨j+1,rfl,hid ⟨by omega,by have:=HJ.out;omega⟩,hid ?_,HB1⟩;have hlt:=(List.getElem?_eq_some_iff.1 HXB).1;rw[List.take_succ_eq_append_getElem hlt,(List.getElem?_eq_some_iff.1 HXB.out).2];intro t ht;rcases List.mem_append.1 ht with h | h
     ·exact HM t h
     ·rw[List.mem_singleton.1 h];exact hm
    case measure=>have:=HJ.out;omega
   ·rw[decide_eq_false hm]
    have hno:=qj5 (List.mem_of_getElem? HXB) hm;have e1:RS=[]:=by rw[HRS.out,hno]
    have e2:RE=2:=by rw[HRE.out,hno]
    clear hno;subst e1 e2;go_wp2;go_ret2;exact⟨rfl,HB1⟩
  ·have hjn:j=n:=by have:=HJ.out;omega
   subst hjn;have HALL:Hid (∀ t∈xs.map Tn.b,qh t):=by
    have:=HM.out;rw[List.take_of_length_le (by rw[List.length_map,<- HLEN.out];exact Nat.le_refl _)]at this;exact hid this
   clear HM HIS;go_wp2_with fail;obtain⟨w0,hw0⟩:=nW wr;subst hw0;have HN0:=hid ((Bel.refl w0).alloc (.cells #[.pointer none,.slice none 0 0] 91));have HSZ:=hid HB.size;go_loopg [21] (j+1) (fun gk v wr=>∃ i:Nat,v=.int .i64 (i:Int)/\Hid (i<=j/\j-i<gk)/\Hid (BufF w.heap.size w0.heap.size (qt ((xs.map Tn.b).take i)) wr/\(qt ((xs.map Tn.b).take i)).length<=20000/\w0.heap.size<wr.heap.size)/\Hid (Bel w wr))
   case atStart=>
    refine⟨0,rfl,hid ⟨by omega,by omega⟩,hid ⟨?_,?_,?_⟩,hid (HB.alloc _)⟩
    ·exact BufF.new_ HSZ (blk1 w0 _)
    ·simp[qt]
    ·simp
   case round=>
    obtain⟨i,rfl,HI,HF,HC⟩:=hrel;by_cases hi:i<j
    ·obtain⟨x,hx⟩:∃ x,xs[i]?=some x:=⟨_,List.getElem?_eq_getElem (by have:=HLEN.out;omega)⟩
     obtain⟨b,off,rfl,hb,hcc⟩:=(HR.bel HC).2 (by omega);obtain⟨x0,x1,x2,x3,x4,x5⟩:=hcc i x hx;have HXX:=hid hx;clear hcc hx;go_wp2_with fail;refine JR ?_;intro W hW;have HCW:Hid (Bel w W):=by rw[hW];exact hid (HC.alloc _)
     have hrW:Bel wr W:=by rw[hW];exact (Bel.refl wr).alloc _
     have hqW:W.heap[wr.heap.size]?=some (.cells #[.int .u8 x.k,.string ⟨x.s.toArray⟩,x.n,x.p.a,x.p.l,x.p.c] 85 (0,0)):=by rw[hW];exact blk1 wr _
     have HQW:=hid hqW;obtain⟨bs,hbs⟩:=nW (qt ((xs.map Tn.b).take i));have hf:=HF.out;rw[<- hbs]at hf;have HBS:=hid hbs;have HFW:=hid (hf.1.bel hrW);have hb20:=hf.2.1;have hw0r:=hf.2.2;have HL:Hid (∀ V,BufF w.heap.size w0.heap.size bs V->Calls Tryz.prog 46 #[.pointer (some ⟨w0.heap.size,0,none⟩)] V fun e w'=>e=.returned (.int .i64 (bs.length:Int))/\w'=V):=hid fun V h=>by
      have:=Tryz.Builder_Len_f _ _ _ V h;rw[Lib.byteCells_length]at this;exact this
     have hxs:=(HX x (List.mem_of_getElem? HXX)).1;obtain⟨S,hS⟩:=nW x.s.length;rw[<- hS]at hxs;have hsz:(⟨x.s.toArray⟩:BA).size=S:=by rw[hS];simp[ByteArray.size]
     have HS:=hid hS;have hsum:IntKind.i64.wrap ((bs.length:Int)+(S:Int))=(bs.length:Int)+(S:Int):=by apply IntWalk.i64_in <;> omega
     clear hW hqW hbs hf hrW hS x0 x1 x2 x3 x4 x5 hb;obtain⟨⟨t0,t1,t2,t3,t4,t5⟩,-⟩:=qq HQW;have HLW:=hid (HL W.drew HFW);go_cut [31] (fun v wx=>Hid (v=.bool (decide (4000<(bs.length:Int)+(S:Int)))/\wx=W.drew))
     case first=>
      go_region_with (go_at_call 46;refine HLW.out.mono ?_;rintro e w' ⟨rfl,rfl⟩);all_goals go_wp2_with fail
      all_goals go_meet
      all_goals exact hid ⟨rfl,rfl⟩
     case rest=>
      obtain⟨rfl,rfl⟩:=hcut.out;have HXB:Hid ((xs.map Tn.b)[i]?=some x.b):=hid (by rw[List.getElem?_map,HXX.out];rfl);have HMX:=hid (HALL x.b (List.mem_of_getElem? HXB));clear HL HLW hsum hsz;by_cases hov:(4000:Int)<(bs.length:Int)+(S:Int)
      ·have hlong:4000<(qt (xs.map Tn.b)).length:=by
        have h1:=qfj HXB HMX;rw[<- HBS.out]at h1;have h2:x.b.2.1.length=S:=HS.out.symm;omega
       have hno:=qdi HALL hlong;have e1:RS=[]:=by rw[HRS.out,hno]
       have e2:RE=3:=by rw[HRE.out,hno]
       clear hno hlong;subst e1 e2;rw[decide_eq_true hov];go_wp2;go_ret2;exact⟨rfl,HCW.drew⟩
      ·rw[decide_eq_false hov]
       have hS4:S<=4000:=by omega
       have hb4:bs.length<=4000:=by omega
       have hsl:x.s.length<=4000:=by rw[<- HS.out];exact hS4
       clear hov;have HPL:Hid ((wriB x.k x.s x.n).length<=9000):=by
        have h2:=HX.out x (List.mem_of_getElem? HXX);have h3:=qjj (k:=x.k) (s:=x.s) h2.2.1 h2.2.2;exact hid (by omega)
       have HEQ:Hid (qt ((xs.map Tn.b).take (i+1))=bs++((if 0<i then [32] else [])++wriB x.k x.s x.n)):=by
        rw[HBS.out,QK HXB.out,show wriB x.k x.s x.n=putB x.b.1 x.b.2.1 x.b.2.2 from qjk HMX.out];exact hid rfl
       have HWX:=hid (fun V hV=>HWR i x HXX (by omega) V hV);obtain⟨P,hP⟩:=nW (wriB x.k x.s x.n);rw[<- hP]at HPL HEQ HWX;have hpl:=HPL.out;have hsW:w0.heap.size<W.drew.heap.size:=by
        have h1:=(Array.getElem?_eq_some_iff.1 HQW).1;show w0.heap.size<W.heap.size;omega
       have hwW:w.heap.size<=w0.heap.size:=HSZ.out;clear hP;by_cases h0:0<i
       ·have d0:decide ((0:Int)<(i:Int))=true:=decide_eq_true (by omega)
        have HE2:Hid (qt ((xs.map Tn.b).take (i+1))=bs++[32]++P):=hid (by rw[HEQ.out,if_pos h0,List.append_assoc]);clear HEQ;go_wp2_with fail;refine (qhG w.heap.size w0.heap.size bs 32 32 rfl W.drew HFW (by omega) (by omega)).mono ?_;rintro e w3 ⟨rfl,hf3,hk3⟩;have HC3:Hid (Bel w w3):=hid (Below.trans HCW.drew hk3.1);have HF3:=hid hf3;have hq3:=hk3.2 wr.heap.size _ HQW (by intro e;injection e;omega) (by intro c fz e;injection e with e1 e2 e3;exact absurd e2 (by decide));have hs3:w0.heap.size<w3.heap.size:=Nat.lt_of_lt_of_le hsW hk3.1.size;clear t0 t1 t2 t3 t4 t5 hf3 hk3 d0;obtain⟨⟨t0,t1,t2,t3,t4,t5⟩,-⟩:=qq hq3;clear hq3;go_wp2_with fail;refine (HWX _ HC3).mono ?_;rintro e w4 ⟨rfl,hb4'⟩;have HC4:=hid (HC3.on hb4');have HF4:=hid (HF3.bel hb4');have hs4:w0.heap.size<w4.heap.size:=Nat.lt_of_lt_of_le hs3 hb4'.size;clear hb4' t0 t1 t2 t3 t4 t5;go_wp2_with fail;refine (qdm w.heap.size w0.heap.size (bs++[32]) P w4 HF4 (by rw[List.length_append];simp only[List.length_cons,List.length_nil];omega) (by omega)).mono ?_;rintro e w5 ⟨rfl,hf5,hk5⟩;have HC5:Hid (Bel w w5):=hid (Below.trans HC4 hk5.1);have HF5:=hid hf5;have hs5:w0.heap.size<w5.heap.size:=Nat.lt_of_lt_of_le hs4 hk5.1.size;clear hf5 hk5;go_wp2;go_roundg (gk-1)
        case rel=>
         refine⟨i+1,rfl,hid ⟨by omega,by have:=HI.out;omega⟩,hid ⟨?_,?_,hs5⟩,HC5⟩
         ·rw[HE2.out];exact HF5
         ·rw[HE2.out,List.length_append,List.length_append];simp only[List.length_cons,List.length_nil];omega
        case measure=>have:=HI.out;omega
       ·have d0:decide ((0:Int)<(i:Int))=false:=decide_eq_false (by omega)
        have HE2:Hid (qt ((xs.map Tn.b).take (i+1))=bs++[]++P):=hid (by rw[HEQ.out,if_neg h0,List.append_assoc]);clear HEQ;obtain⟨w3,hw3⟩:=nW W.drew;have HC3:Hid (Bel w w3):=by rw[hw3];exact hid HCW.drew
        have HF3:Hid (BufF w.heap.size w0.heap.size (bs++[]) w3):=by rw[hw3,List.append_nil];exact hid HFW
        have hs3:w0.heap.size<w3.heap.size:=by rw[hw3];exact hsW
        rw[<- hw3];have hq3:w3.heap[wr.heap.size]?=some (.cells #[.int .u8 x.k,.string ⟨x.s.toArray⟩,x.n,x.p.a,x.p.l,x.p.c] 85 (0,0)):=by rw[hw3];exact HQW
        clear t0 t1 t2 t3 t4 t5 hw3;obtain⟨⟨t0,t1,t2,t3,t4,t5⟩,-⟩:=qq hq3;clear hq3;go_wp2_with fail;refine (HWX _ HC3).mono ?_;rintro e w4 ⟨rfl,hb4'⟩;have HC4:=hid (HC3.on hb4');have HF4:=hid (HF3.bel hb4');have hs4:w0.heap.size<w4.heap.size:=Nat.lt_of_lt_of_le hs3 hb4'.size;clear hb4' t0 t1 t2 t3 t4 t5;go_wp2_with fail;refine (qdm w.heap.size w0.heap.size (bs++[]) P w4 HF4 (by rw[List.length_append];simp only[List.length_nil];omega) (by omega)).mono ?_;rintro e w5 ⟨rfl,hf5,hk5⟩;have HC5:Hid (Bel w w5):=hid (Below.trans HC4 hk5.1);have HF5:=hid hf5;have hs5:w0.heap.size<w5.heap.size:=Nat.lt_of_lt_of_le hs4 hk5.1.size;clear hf5 hk5;go_wp2;go_roundg (gk-1)
        case rel=>
         refine⟨i+1,rfl,hid ⟨by omega,by have:=HI.out;omega⟩,hid ⟨?_,?_,hs5⟩,HC5⟩
         ·rw[HE2.out];exact HF5
         ·rw[HE2.out,List.length_append,List.length_append];simp only[List.length_nil];omega
        case measure=>have:=HI.out;omega
    ·have hin:i=j:=by have:=HI.out;omega
     subst hin;obtain⟨bs,hbs⟩:=nW (qt (xs.map Tn.b));have hf:=HF.out;rw[List.take_of_length_le (by rw[List.length_map,<- HLEN.out];exact Nat.le_refl _),<- hbs]at hf;have HBS:=hid hbs;have HFW:=hid hf.1;have hl2:bs.length<=20000:=hf.2.1;have hbw:w.heap.size<=wr.heap.size:=HC.size;have HL:Hid (Calls Tryz.prog 46 #[.pointer (some ⟨w0.heap.size,0,none⟩)] wr fun e w'=>e=.returned (.int .i64 (bs.length:Int))/\w'=wr):=by
      have:=Tryz.Builder_Len_f _ _ _ wr HFW;rw[Lib.byteCells_length]at this;exact hid this
     have HST:Hid (Calls Tryz.prog 50 #[.pointer (some ⟨w0.heap.size,0,none⟩)] wr fun e w'=>e=.returned (.string ⟨bs.toArray⟩)/\Bel w w'):=
      hid ((Tryz.Builder_String_any_f _ _ bs wr HFW hbw).mono fun e w' h=>⟨h.1,Below.trans HC h.2.2⟩)
     clear hf hbs;go_wp2_with fail;refine HL.out.mono ?_;rintro e w' ⟨rfl,hww⟩;subst hww;by_cases hov:(4000:Int)<(bs.length:Int)
     ·have hno:=qdi HALL (by rw[<- HBS.out];omega)
      have e1:RS=[]:=by rw[HRS.out,hno]
      have e2:RE=3:=by rw[HRE.out,hno]
      clear hno;subst e1 e2;have d0:=decide_eq_true hov;go_wp2;go_ret2;exact⟨rfl,HC⟩
     ·have hno:=qjh HALL (by rw[<- HBS.out];omega)
      have e1:RS=bs:=by rw[HRS.out,hno,HBS.out]
      have e2:RE=0:=by rw[HRE.out,hno]
      clear hno;subst e1 e2;have d0:=decide_eq_false hov;go_wp2_with fail;refine HST.out.mono ?_;rintro e w3 ⟨rfl,hb3⟩;have HB3:=hid hb3;clear hb3;go_wp2;go_ret2;exact⟨rfl,HB3⟩
end Go.Proofs.YtmloadclmjcbbaaGreatDoor.Mu
namespace Go.Proofs.YtmloadclmjcbbaaGreatDoor.Mu
set_option maxHeartbeats 1000000
open Go Go.RowKit Go.Shelf
attribute [local go_sem] Oper.semAt_some
set_option linter.unusedVariables false
set_option maxRecDepth 100000
theorem qar(P:Program)(a:Addr)(w:World):(asAddr (.pointer (some a))).run P w=.ok a w:=rfl
theorem qg{fn:Func}{t u:Tmp}{ty:TypeId}(h:fn.results=#[.cell t ty,.tmp u])(tmps:Array Value)(P:Program)(w:World){a:Addr}{v:Value}(ha:tmps.getD t undef=.pointer (some a))(hv:(loadVar ty a).run P w=.ok v w) :
  (results fn tmps).run P w=.ok (.tuple #[v,tmps.getD u undef]) w:=by
 have ha':tmps[t]?.getD undef=.pointer (some a):=by rw[<- Array.getD_eq_getD_getElem?];exact ha
 simp[results,h,ha',hv,qar,Sem.run_bind,Result.andThen]
def btwL:List LU:=[[60],[61,61],[43,43],[43],[45],[42],[47],[37]]
def btwB(s:LU):Bool:=decide (s∈btwL)
def exR(k:Int)(s:LU):Int × Int × Bool:=
 if k=1 then (1,0,true) else if k=2 then (3,0,true) else if k=3 then (4,0,true) else if k=4 then (1,1,true) else if k=5 then (0,2,true) else if k=6 then (1,2,true) else if k=7 then (1,2,true) else if k=8 then (0,1,true) else if k=9 then (2,-1,true) else if k=10 then (if btwB s then (5,2,true) else (6,-1,true)) else (0,0,false)
def paR(k:Int):Int × Int × Bool:=
 if k=1 then (1,0,true) else if k=2 then (0,0,true) else if k=3 then (3,0,true) else if k=4 then (4,0,true) else if k=5 then (2,-1,true) else (0,0,false)
def tyR(k:Int):Int × Int × Bool:=
 if k=1 then (1,0,true) else if k=2 then (2,-1,true) else if k=3 then (0,2,true) else (0,0,false)
theorem qaK(s:LU)(w:World):Calls Tryz.prog 105 #[.string ⟨s.toArray⟩] w fun e w'=>e=.returned (.bool (btwB s))/\w'=w:=by
 by_cases h:s∈btwL
 ·have e:btwB s=true:=by simp[btwB,h]
  rw[e];clear e;simp only[btwL,List.mem_cons,List.not_mem_nil,or_false]at h;rcases h with rfl | rfl | rfl | rfl | rfl | rfl | rfl | rfl
  all_goals
   go_enter Tryz.func105,Tryz.ntmps105;go_wp2;go_ret;exact⟨rfl,rfl⟩
 ·have e:btwB s=false:=by simp[btwB,h]
  rw[e];clear e;obtain⟨S,hS⟩:=nW (⟨s.toArray⟩:BA);have hl:∀ t:LU,t∈btwL->S≠⟨t.toArray⟩/\S.toList≠t:=fun t ht=>by
   have hst:s≠t:=fun e=>h (e ▸ ht);refine⟨fun e=>hst ?_,fun e=>hst ?_⟩
   ·rw[hS]at e
    injection e with e
    simpa using congrArg Array.toList e
   ·rw[hS,ByteArray.toList_eq]at e
    simpa using e
  have n0:=hl [60] (by simp[btwL]);have n1:=hl [61,61] (by simp[btwL]);have n2:=hl [43,43] (by simp[btwL]);have n3:=hl [43] (by simp[btwL]);have n4:=hl [45] (by simp[btwL]);have n5:=hl [42] (by simp[btwL]);have n6:=hl [47] (by simp[btwL]);have n7:=hl [37] (by simp[btwL]);obtain⟨a0,b0⟩:=n0;have c0:(S.toList==[60])=false:=by simpa using b0
  obtain⟨a1,b1⟩:=n1;have c1:(S.toList==[61,61])=false:=by simpa using b1
  obtain⟨a2,b2⟩:=n2;have c2:(S.toList==[43,43])=false:=by simpa using b2
  obtain⟨a3,b3⟩:=n3;have c3:(S.toList==[43])=false:=by simpa using b3
  obtain⟨a4,b4⟩:=n4;have c4:(S.toList==[45])=false:=by simpa using b4
  obtain⟨a5,b5⟩:=n5;have c5:(S.toList==[42])=false:=by simpa using b5
  obtain⟨a6,b6⟩:=n6;have c6:(S.toList==[47])=false:=by simpa using b6
  obtain⟨a7,b7⟩:=n7;have c7:(S.toList==[37])=false:=by simpa using b7
  rw[<- hS];clear hS hl h;go_enter Tryz.func105,Tryz.ntmps105;go_wp2;go_ret;exact⟨rfl,rfl⟩
theorem ZI(k:Int)(s:LU)(n:Int)(p:Pl)(A:OA)(l c:Nat)(B:OA)(bl bc:Nat)(w:World):Calls Tryz.prog 60 #[.agg #[.int .u8 k,.string ⟨s.toArray⟩,.int .i64 n,.int .i64 p.a,.int .i64 p.l,.int .i64 p.c,.slice A l c,.slice B bl bc]] w fun e w'=>e=.returned (.tuple #[.agg #[.int .u8 (exR k s).1,.int .i64 (exR k s).2.1],.bool (exR k s).2.2])/\Bel w w':=by
 by_cases k1:k=1
 ·subst k1
  have er:exR 1 s=(1,0,true):=rfl;rw[er];clear er;go_enter Tryz.func60,Tryz.ntmps60;go_wp2
  (try simp only[Exit.inBlock,Exit.then])
  refine bodyPost_ret (qg (v:= .agg #[.int .u8 1,.int .i64 (0)]) rfl _ _ _ rfl (by simp[loadVar,go_sem])) rfl ?_;exact⟨rfl,((Bel.refl w).alloc _).alloc _⟩
 by_cases k2:k=2
 ·subst k2
  have er:exR 2 s=(3,0,true):=rfl;rw[er];clear er;go_enter Tryz.func60,Tryz.ntmps60;go_wp2
  (try simp only[Exit.inBlock,Exit.then])
  refine bodyPost_ret (qg (v:= .agg #[.int .u8 3,.int .i64 (0)]) rfl _ _ _ rfl (by simp[loadVar,go_sem])) rfl ?_;exact⟨rfl,((Bel.refl w).alloc _).alloc _⟩
 by_cases k3:k=3
 ·subst k3
  have er:exR 3 s=(4,0,true):=rfl;rw[er];clear er;go_enter Tryz.func60,Tryz.ntmps60;go_wp2
  (try simp only[Exit.inBlock,Exit.then])
  refine bodyPost_ret (qg (v:= .agg #[.int .u8 4,.int .i64 (0)]) rfl _ _ _ rfl (by simp[loadVar,go_sem])) rfl ?_;exact⟨rfl,((Bel.refl w).alloc _).alloc _⟩
 by_cases k4:k=4
 ·subst k4
  have er:exR 4 s=(1,1,true):=rfl;rw[er];clear er;go_enter Tryz.func60,Tryz.ntmps60;go_wp2
  (try simp only[Exit.inBlock,Exit.then])
  refine bodyPost_ret (qg (v:= .agg #[.int .u8 1,.int .i64 (1)]) rfl _ _ _ rfl (by simp[loadVar,go_sem])) rfl ?_;exact⟨rfl,((Bel.refl w).alloc _).alloc _⟩
 by_cases k5:k=5
 ·subst k5
  have er:exR 5 s=(0,2,true):=rfl;rw[er];clear er;go_enter Tryz.func60,Tryz.ntmps60;go_wp2
  (try simp only[Exit.inBlock,Exit.then])
  refine bodyPost_ret (qg (v:= .agg #[.int .u8 0,.int .i64 (2)]) rfl _ _ _ rfl (by simp[loadVar,go_sem])) rfl ?_;exact⟨rfl,((Bel.refl w).alloc _).alloc _⟩
 by_cases k6:k=6
 ·subst k6
  have er:exR 6 s=(1,2,true):=rfl;rw[er];clear er;go_enter Tryz.func60,Tryz.ntmps60;go_wp2
  (try simp only[Exit.inBlock,Exit.then])
  refine bodyPost_ret (qg (v:= .agg #[.int .u8 1,.int .i64 (2)]) rfl _ _ _ rfl (by simp[loadVar,go_sem])) rfl ?_;exact⟨rfl,((Bel.refl w).alloc _).alloc _⟩
 by_cases k7:k=7
 ·subst k7
  have er:exR 7 s=(1,2,true):=rfl;rw[er];clear er;go_enter Tryz.func60,Tryz.ntmps60;go_wp2
  (try simp only[Exit.inBlock,Exit.then])
  refine bodyPost_ret (qg (v:= .agg #[.int .u8 1,.int .i64 (2)]) rfl _ _ _ rfl (by simp[loadVar,go_sem])) rfl ?_;exact⟨rfl,((Bel.refl w).alloc _).alloc _⟩
 by_cases k8:k=8
 ·subst k8
  have er:exR 8 s=(0,1,true):=rfl;rw[er];clear er;go_enter Tryz.func60,Tryz.ntmps60;go_wp2
  (try simp only[Exit.inBlock,Exit.then])
  refine bodyPost_ret (qg (v:= .agg #[.int .u8 0,.int .i64 (1)]) rfl _ _ _ rfl (by simp[loadVar,go_sem])) rfl ?_;exact⟨rfl,((Bel.refl w).alloc _).alloc _⟩
 by_cases k9:k=9
 ·subst k9
  have er:exR 9 s=(2,-1,true):=rfl;rw[er];clear er;go_enter Tryz.func60,Tryz.ntmps60;go_wp2
  (try simp only[Exit.inBlock,Exit.then])
  refine bodyPost_ret (qg (v:= .agg #[.int .u8 2,.int .i64 (-1)]) rfl _ _ _ rfl (by simp[loadVar,go_sem])) rfl ?_;exact⟨rfl,((Bel.refl w).alloc _).alloc _⟩
 by_cases k10:k=10
 ·subst k10
  have HI:Hid (∀ W,Calls Tryz.prog 105 #[.string ⟨s.toArray⟩] W fun e w'=>e=.returned (.bool (btwB s))/\w'=W):=hid fun W=>qaK s W;have er:exR 10 s=if btwB s then (5,2,true) else (6,-1,true):=rfl
  rw[er];clear er;obtain⟨b,hb⟩:=nW (btwB s);rw[<- hb]at HI ⊢;clear hb;obtain⟨S,hS⟩:=nW (⟨s.toArray⟩:BA);rw[<- hS]at HI ⊢;clear hS;go_enter Tryz.func60,Tryz.ntmps60;go_wp2_with fail;refine (HI _).mono ?_;rintro e w' ⟨rfl,rfl⟩;cases b
  ·go_wp2_with fail
   (try simp only[Exit.inBlock,Exit.then])
   refine bodyPost_ret (qg (v:= .agg #[.int .u8 6,.int .i64 (-1)]) rfl _ _ _ rfl (by simp[loadVar,go_sem])) rfl ?_;exact⟨rfl,((Bel.refl w).alloc _).alloc _⟩
  ·go_wp2_with fail
   (try simp only[Exit.inBlock,Exit.then])
   refine bodyPost_ret (qg (v:= .agg #[.int .u8 5,.int .i64 2]) rfl _ _ _ rfl (by simp[loadVar,go_sem])) rfl ?_;exact⟨rfl,((Bel.refl w).alloc _).alloc _⟩
 have er:exR k s=(0,0,false):=by simp[exR,k1,k2,k3,k4,k5,k6,k7,k8,k9,k10]
 rw[er];clear er;have d1:(k==1)=false:=by simpa using k1
 have d2:(k==2)=false:=by simpa using k2
 have d3:(k==3)=false:=by simpa using k3
 have d4:(k==4)=false:=by simpa using k4
 have d5:(k==5)=false:=by simpa using k5
 have d6:(k==6)=false:=by simpa using k6
 have d7:(k==7)=false:=by simpa using k7
 have d8:(k==8)=false:=by simpa using k8
 have d9:(k==9)=false:=by simpa using k9
 have d10:(k==10)=false:=by simpa using k10
 go_enter Tryz.func60,Tryz.ntmps60;go_wp2
 (try simp only[Exit.inBlock,Exit.then])
 refine bodyPost_ret (qg (v:= .agg #[.int .u8 0,.int .i64 0]) rfl _ _ _ rfl (by simp[loadVar,go_sem])) rfl ?_;exact⟨rfl,((Bel.refl w).alloc _).alloc _⟩
theorem Jy(k:Int)(s:LU)(n:Int)(p:Pl)(A:OA)(l c:Nat)(w:World):Calls Tryz.prog 107 #[.agg #[.int .u8 k,.string ⟨s.toArray⟩,.int .i64 n,.int .i64 p.a,.int .i64 p.l,.int .i64 p.c,.slice A l c]] w fun e w'=>e=.returned (.tuple #[.agg #[.int .u8 (paR k).1,.int .i64 (paR k).2.1],.bool (paR k).2.2])/\Bel w w':=by
 by_cases k1:k=1
 ·subst k1
  have er:paR 1=(1,0,true):=rfl;rw[er];clear er;go_enter Tryz.func107,Tryz.ntmps107;go_wp2
  (try simp only[Exit.inBlock,Exit.then])
  refine bodyPost_ret (qg (v:= .agg #[.int .u8 1,.int .i64 (0)]) rfl _ _ _ rfl (by simp[loadVar,go_sem])) rfl ?_;exact⟨rfl,((Bel.refl w).alloc _).alloc _⟩
 by_cases k2:k=2
 ·subst k2
  have er:paR 2=(0,0,true):=rfl;rw[er];clear er;go_enter Tryz.func107,Tryz.ntmps107;go_wp2
  (try simp only[Exit.inBlock,Exit.then])
  refine bodyPost_ret (qg (v:= .agg #[.int .u8 0,.int .i64 (0)]) rfl _ _ _ rfl (by simp[loadVar,go_sem])) rfl ?_;exact⟨rfl,((Bel.refl w).alloc _).alloc _⟩
 by_cases k3:k=3
 ·subst k3
  have er:paR 3=(3,0,true):=rfl;rw[er];clear er;go_enter Tryz.func107,Tryz.ntmps107;go_wp2
  (try simp only[Exit.inBlock,Exit.then])
  refine bodyPost_ret (qg (v:= .agg #[.int .u8 3,.int .i64 (0)]) rfl _ _ _ rfl (by simp[loadVar,go_sem])) rfl ?_;exact⟨rfl,((Bel.refl w).alloc _).alloc _⟩
 by_cases k4:k=4
 ·subst k4
  have er:paR 4=(4,0,true):=rfl;rw[er];clear er;go_enter Tryz.func107,Tryz.ntmps107;go_wp2
  (try simp only[Exit.inBlock,Exit.then])
  refine bodyPost_ret (qg (v:= .agg #[.int .u8 4,.int .i64 (0)]) rfl _ _ _ rfl (by simp[loadVar,go_sem])) rfl ?_;exact⟨rfl,((Bel.refl w).alloc _).alloc _⟩
 by_cases k5:k=5
 ·subst k5
  have er:paR 5=(2,-1,true):=rfl;rw[er];clear er;go_enter Tryz.func107,Tryz.ntmps107;go_wp2
  (try simp only[Exit.inBlock,Exit.then])
  refine bodyPost_ret (qg (v:= .agg #[.int .u8 2,.int .i64 (-1)]) rfl _ _ _ rfl (by simp[loadVar,go_sem])) rfl ?_;exact⟨rfl,((Bel.refl w).alloc _).alloc _⟩
 have er:paR k=(0,0,false):=by simp[paR,k1,k2,k3,k4,k5]
 rw[er];clear er;have d1:(k==1)=false:=by simpa using k1
 have d2:(k==2)=false:=by simpa using k2
 have d3:(k==3)=false:=by simpa using k3
 have d4:(k==4)=false:=by simpa using k4
 have d5:(k==5)=false:=by simpa using k5
 go_enter Tryz.func107,Tryz.ntmps107;go_wp2
 (try simp only[Exit.inBlock,Exit.then])
 refine bodyPost_ret (qg (v:= .agg #[.int .u8 0,.int .i64 0]) rfl _ _ _ rfl (by simp[loadVar,go_sem])) rfl ?_;exact⟨rfl,((Bel.refl w).alloc _).alloc _⟩
theorem qav(k:Int)(s:LU)(n:Int)(p:Pl)(A:OA)(l c:Nat)(w:World):Calls Tryz.prog 118 #[.agg #[.int .u8 k,.string ⟨s.toArray⟩,.int .u8 n,.int .i64 p.a,.int .i64 p.l,.int .i64 p.c,.slice A l c]] w fun e w'=>e=.returned (.tuple #[.agg #[.int .u8 (tyR k).1,.int .i64 (tyR k).2.1],.bool (tyR k).2.2])/\Bel w w':=by
 by_cases k1:k=1
 ·subst k1
  have er:tyR 1=(1,0,true):=rfl;rw[er];clear er;go_enter Tryz.func118,Tryz.ntmps118;go_wp2
  (try simp only[Exit.inBlock,Exit.then])
  refine bodyPost_ret (qg (v:= .agg #[.int .u8 1,.int .i64 (0)]) rfl _ _ _ rfl (by simp[loadVar,go_sem])) rfl ?_;exact⟨rfl,((Bel.refl w).alloc _).alloc _⟩
 by_cases k2:k=2
 ·subst k2
  have er:tyR 2=(2,-1,true):=rfl;rw[er];clear er;go_enter Tryz.func118,Tryz.ntmps118;go_wp2
  (try simp only[Exit.inBlock,Exit.then])
  refine bodyPost_ret (qg (v:= .agg #[.int .u8 2,.int .i64 (-1)]) rfl _ _ _ rfl (by simp[loadVar,go_sem])) rfl ?_;exact⟨rfl,((Bel.refl w).alloc _).alloc _⟩
 by_cases k3:k=3
 ·subst k3
  have er:tyR 3=(0,2,true):=rfl;rw[er];clear er;go_enter Tryz.func118,Tryz.ntmps118;go_wp2
  (try simp only[Exit.inBlock,Exit.then])
  refine bodyPost_ret (qg (v:= .agg #[.int .u8 0,.int .i64 (2)]) rfl _ _ _ rfl (by simp[loadVar,go_sem])) rfl ?_;exact⟨rfl,((Bel.refl w).alloc _).alloc _⟩
 have er:tyR k=(0,0,false):=by simp[tyR,k1,k2,k3]
 rw[er];clear er;have d1:(k==1)=false:=by simpa using k1
 have d2:(k==2)=false:=by simpa using k2
 have d3:(k==3)=false:=by simpa using k3
 go_enter Tryz.func118,Tryz.ntmps118;go_wp2
 (try simp only[Exit.inBlock,Exit.then])
 refine bodyPost_ret (qg (v:= .agg #[.int .u8 0,.int .i64 0]) rfl _ _ _ rfl (by simp[loadVar,go_sem])) rfl ?_;exact⟨rfl,((Bel.refl w).alloc _).alloc _⟩
def mltB(m:Int):Bool:=decide (m=1) || decide (m=2) || decide (m=3)
theorem qag(m:Int)(w:World):Calls Tryz.prog 114 #[.int .u8 m] w fun e w'=>e=.returned (.bool (mltB m))/\w'=w:=by
 by_cases h1:m=1
 ·subst h1
  go_enter Tryz.func114,Tryz.ntmps114;go_wp2;go_ret;exact⟨rfl,rfl⟩
 by_cases h2:m=2
 ·subst h2
  go_enter Tryz.func114,Tryz.ntmps114;go_wp2;go_ret;exact⟨rfl,rfl⟩
 by_cases h3:m=3
 ·subst h3
  go_enter Tryz.func114,Tryz.ntmps114;go_wp2;go_ret;exact⟨rfl,rfl⟩
 have e:mltB m=false:=by simp[mltB,h1,h2,h3]
 rw[e];have d1:(m==1)=false:=by simpa using h1
 have d2:(m==2)=false:=by simpa using h2
 have d3:(m==3)=false:=by simpa using h3
 go_enter Tryz.func114,Tryz.ntmps114;go_wp2;go_ret;exact⟨rfl,rfl⟩
open Classical in
noncomputable def mtB (t:Int × LU × Int):Bool:=decide (qh t)
theorem qjg(t:Int × LU × Int):((wrO [t]).2 != 2)=mtB t:=by
 unfold wrO mtB;by_cases h:qh t
 ·rw[if_pos (by simpa using h)]
  split <;> simp[h]
 ·rw[if_neg (by simpa using h)]
  simp[h]
theorem Qd(k:Int)(s:LU)(n:Int)(p:Pl)(w:World)(ht:Tbl w)(hs:s.length<=140737488355328)(h0:-9223372036854775808<=n)(h1:n<=9223372036854775807) :
  Calls Tryz.prog 40 #[.agg #[.int .u8 k,.string ⟨s.toArray⟩,.int .i64 n,.int .i64 p.a,.int .i64 p.l,.int .i64 p.c]] w fun e w'=>e=.returned (.bool (mtB (k,s,n)))/\Bel w w':=by
 have HW:Hid (∀ (b:Nat) (W:World),b=W.heap.size->Tbl W->Calls Tryz.prog 20 #[.slice (some ⟨b,0,none⟩) 1 1] (W.alloc (.cells #[.int .u8 k,.string ⟨s.toArray⟩,.int .i64 n,.int .i64 p.a,.int .i64 p.l,.int .i64 p.c] 85)) fun r w'=>r=.returned (.tuple #[.string ⟨(wrO [(k,s,n)]).1.toArray⟩,.int .i64 (wrO [(k,s,n)]).2])/\Bel W w'):=hid fun b W hb hT=>by
  subst hb;refine (JU (xs:=[⟨k,s,n,p⟩]) _ (hT.bel ((Bel.refl W).alloc _)) (RTn.lit [⟨k,s,n,p⟩] _ (by simp[jm,Tn.cells]) 1 rfl 85) (by omega) (fun x hx=>by simp at hx;subst hx;exact⟨hs,h0,h1⟩)).mono ?_;rintro r w' ⟨rfl,hb⟩;exact⟨rfl,((Bel.refl W).alloc _).on hb⟩
 rw[<- qjg];obtain⟨S1,hS1⟩:=nW (⟨(wrO [(k,s,n)]).1.toArray⟩:BA);obtain⟨E1,hE1⟩:=nW ((wrO [(k,s,n)]).2);obtain⟨SS,hSS⟩:=nW (⟨s.toArray⟩:BA);rw[<- hS1,<- hE1,<- hSS]at HW;rw[<- hE1,<- hSS];have HT:=hid ht;clear ht hs h0 h1 hS1 hE1 hSS;have hb1:Bel w (w.alloc (.cells #[.int .u8 k,.string SS,.int .i64 n,.int .i64 p.a,.int .i64 p.l,.int .i64 p.c] 85)):=(Bel.refl w).alloc _;have HB1:=hid hb1;have HC:=hid (HW _ _ rfl (HT.bel hb1));clear hb1;go_enter Tryz.func40,Tryz.ntmps40;go_wp2_with fail;have hsz:(w.alloc (.cells #[.int .u8 k,.string SS,.int .i64 n,.int .i64 p.a,.int .i64 p.l,.int .i64 p.c] 85)).heap.size=w.heap.size+1:=by simp
 have hc:=HC.out;rw[hsz]at hc;refine hc.mono ?_;rintro e w2 ⟨rfl,hb2⟩;have HB2:=hid (HB1.on hb2);clear hb2 hc hsz;go_wp2_with fail;go_ret;exact⟨rfl,HB2⟩
noncomputable def keepB (tok kc:Int) (s:LU) (n:Int) (l:Nat):Bool:=
 if kc ≠ -1/\kc≠(l:Int) then false else if tok=0 then (decide (s=[])&&decide (n=0)) else mtB (tok,s,n)
theorem Jr(tok kc:Int)(s:LU)(n:Int)(l:Nat)(w:World)(ht:Tbl w)(hs:s.length<=140737488355328)(h0:-9223372036854775808<=n)(h1:n<=9223372036854775807) :
  Calls Tryz.prog 61 #[.agg #[.int .u8 tok,.int .i64 kc],.string ⟨s.toArray⟩,.int .i64 n,.int .i64 (l:Int)] w fun e w'=>e=.returned (.bool (keepB tok kc s n l))/\Bel w w':=by
 have HT:Hid (∀ W,Bel w W->Calls Tryz.prog 40 #[.agg #[.int .u8 tok,.string ⟨s.toArray⟩,.int .i64 n,.int .i64 0,.int .i64 0,.int .i64 0]] W fun e w'=>e=.returned (.bool (mtB (tok,s,n)))/\Bel W w'):=hid fun W hW=>Qd tok s n ⟨0,0,0⟩ W (ht.bel hW) hs h0 h1;obtain⟨b,hb⟩:=nW (mtB (tok,s,n));rw[<- hb]at HT;have hE:s=[]↔(⟨s.toArray⟩:BA)=⟨#[]⟩:=by
  constructor
  ·rintro rfl;rfl
  ·intro e;injection e with e;simpa using congrArg Array.toList e
 have hE2:s=[]↔(⟨s.toArray⟩:BA).toList=[]:=by rw[ByteArray.toList_eq]
 have hb1:Bel w (w.alloc (.cells #[.int .u8 tok,.int .i64 kc] 109)):=(Bel.refl w).alloc _;have HB1:=hid hb1;clear ht hs h0 h1 hb1;by_cases hk:kc ≠ -1/\kc≠(l:Int)
 ·have e:keepB tok kc s n l=false:=by unfold keepB;rw[if_pos hk]
  rw[e];have d1:(kc != -1)=true:=by simpa using hk.1
  have d2:(kc != (l:Int))=true:=by simpa using hk.2
  have d3:=hk.1;have d4:=hk.2;clear hb hE hE2 hk;go_enter Tryz.func61,Tryz.ntmps61;go_wp2_with fail;go_ret;exact⟨rfl,HB1⟩
 ·have hkk:kc = -1∨kc=(l:Int):=by
   rcases Classical.em (kc = -1) with h | h
   ·exact .inl h
   ·right
    rcases Classical.em (kc=(l:Int)) with h2 | h2
    ·exact h2
    ·exact absurd ⟨h,h2⟩ hk
  by_cases htk:tok=0
  ·subst htk
   have e:keepB 0 kc s n l=(decide (s=[])&&decide (n=0)):=by unfold keepB;rw[if_neg hk,if_pos rfl]
   rw[e];by_cases hs0:s=[]
   ·subst hs0
    have en:(decide (([]:LU)=[])&&decide (n=0))=(n==0):=by by_cases h:n=0 <;> simp[h]
    rw[en];clear hb hE hE2 hk e en;rcases hkk with rfl | rfl
    ·go_enter Tryz.func61,Tryz.ntmps61
     go_wp2_with fail;go_ret;exact⟨rfl,HB1⟩
    ·have d5:((l:Int) != -1)=true:=by simp
     have d6:¬ (l:Int) = -1:=by omega
     go_enter Tryz.func61,Tryz.ntmps61;go_wp2_with fail;go_ret;exact⟨rfl,HB1⟩
   ·have en:(decide (s=[])&&decide (n=0))=false:=by simp[hs0]
    rw[en];have hq:¬ (⟨s.toArray⟩:BA)=⟨#[]⟩:=fun e=>hs0 (hE.2 e);have hq2:¬ (⟨s.toArray⟩:BA).toList=[]:=fun e=>hs0 (hE2.2 e);obtain⟨SS,hSS⟩:=nW (⟨s.toArray⟩:BA);rw[<- hSS]at hq hq2 HT ⊢;have hq3:(SS.toList==[])=false:=by simpa using hq2
    clear hb hE hE2 hk e en hSS;rcases hkk with rfl | rfl
    ·go_enter Tryz.func61,Tryz.ntmps61
     go_wp2_with fail;go_ret;exact⟨rfl,HB1⟩
    ·have d5:((l:Int) != -1)=true:=by simp
     have d6:¬ (l:Int) = -1:=by omega
     go_enter Tryz.func61,Tryz.ntmps61;go_wp2_with fail;go_ret;exact⟨rfl,HB1⟩
  ·have e:keepB tok kc s n l=mtB (tok,s,n):=by unfold keepB;rw[if_neg hk,if_neg htk]
   rw[e,<- hb];have d7:(tok==0)=false:=by simpa using htk
   obtain⟨SS,hSS⟩:=nW (⟨s.toArray⟩:BA);rw[<- hSS]at HT ⊢;clear hb hE hE2 hk e hSS;rcases hkk with rfl | rfl
   ·go_enter Tryz.func61,Tryz.ntmps61
    go_wp2_with fail;refine (HT _ HB1).mono ?_;rintro e w2 ⟨rfl,hb2⟩;have HB2:=hid (HB1.on hb2);clear hb2;go_wp2_with fail;go_ret;exact⟨rfl,HB2⟩
   ·have d5:((l:Int) != -1)=true:=by simp
    have d6:¬ (l:Int) = -1:=by omega
    go_enter Tryz.func61,Tryz.ntmps61;go_wp2_with fail;refine (HT _ HB1).mono ?_;rintro e w2 ⟨rfl,hb2⟩;have HB2:=hid (HB1.on hb2);clear hb2;go_wp2_with fail;go_ret;exact⟨rfl,HB2⟩
theorem qi{fn:Func}{t:Tmp}{ty:TypeId}(h:fn.results=#[.cell t ty])(tmps:Array Value)(P:Program)(w:World){a:Addr}{v:Value}(ha:tmps.getD t undef=.pointer (some a))(hv:(loadVar ty a).run P w=.ok v w) :
  (results fn tmps).run P w=.ok v w:=by
 have ha':tmps[t]?.getD undef=.pointer (some a):=by rw[<- Array.getD_eq_getD_getElem?];exact ha
 simp[results,h,ha',hv,qar,Sem.run_bind,Result.andThen]
theorem jL{w:World}{g:Nat}{b:Bool}(h:w.heap[g]?=some (.cells #[.bool b] 4 (0,0))):(loadVar 4 ⟨g,0,none⟩).run Tryz.prog w=.ok (.bool b) w:=by
 have c:w.cell? ⟨g,0,none⟩=some (.bool b):=by simp[World.cell?,h]
 simp[loadVar,go_sem,c]
theorem blk5(w:World)(o o2 o3 o4 o5:Obj):(((((w.alloc o).alloc o2).alloc o3).alloc o4).alloc o5).heap[w.heap.size]?=some o/\(((((w.alloc o).alloc o2).alloc o3).alloc o4).alloc o5).heap[w.heap.size+1]?=some o2/\(((((w.alloc o).alloc o2).alloc o3).alloc o4).alloc o5).heap[w.heap.size+2]?=some o3/\(((((w.alloc o).alloc o2).alloc o3).alloc o4).alloc o5).heap[w.heap.size+3]?=some o4/\(((((w.alloc o).alloc o2).alloc o3).alloc o4).alloc o5).heap[w.heap.size+4]?=some o5:=by
 obtain⟨h1,h2,h3⟩:=blk3 w o o2 o3;have hb3:=(Bel.refl (((w.alloc o).alloc o2).alloc o3)).alloc o4;have hb:=hb3.alloc o5;have h4:=blk1 (((w.alloc o).alloc o2).alloc o3) o4;have h5:=blk1 ((((w.alloc o).alloc o2).alloc o3).alloc o4) o5;have hs:(((w.alloc o).alloc o2).alloc o3).heap.size=w.heap.size+3:=by simp
 have hs2:((((w.alloc o).alloc o2).alloc o3).alloc o4).heap.size=w.heap.size+4:=by simp
 rw[hs]at h4;rw[hs2]at h5;exact⟨hb.blk h1,hb.blk h2,hb.blk h3,((Bel.refl _).alloc o5).blk h4,h5⟩
def fitN(s:LU)(n:Int):Prop:=s.length<=140737488355328/\-9223372036854775808<=n/\n<=9223372036854775807
def Tr.ints:Tr->Prop
 | .nil=>True
 | .nod _ s n _ k a r=>fitN s n/\k.ints/\a.ints/\r.ints
 | .arm _ s n _ k e r=>fitN s n/\k.ints/\e.ints/\r.ints
theorem Tr.pre_ints:∀ (f:Tr) (d:Nat) (v:Vis),v∈f.pre d->f.ints->fitN v.s v.n/\v.kids.ints/\v.arms.ints
 | .nil,_,_,h,_=>by simp[Tr.pre]at h
 | .nod k s n p kids arms r,d,v,h,⟨h0,h1,h2,h3⟩=>by
  simp only[Tr.pre,List.mem_cons,List.mem_append]at h;rcases h with rfl | (h | h) | h
  ·exact⟨h0,h1,h2⟩
  ·exact Tr.pre_ints kids _ v h h1
  ·exact Tr.pre_ints arms _ v h h2
  ·exact Tr.pre_ints r _ v h h3
 | .arm _ _ _ _ k e r,d,v,h,⟨_,_,h2,h3⟩=>by
  simp only[Tr.pre,List.mem_append]at h;rcases h with h | h
  ·exact Tr.pre_ints e _ v h h2
  ·exact Tr.pre_ints r _ v h h3
theorem Tr.pats_ints:∀ f:Tr,f.ints->f.pats.ints
 | .nil,_=>trivial
 | .nod _ _ _ _ _ _ r,h=>Tr.pats_ints r h.2.2.2
 | .arm _ _ _ _ _ _ r,h=>⟨h.1,h.2.1,trivial,Tr.pats_ints r h.2.2.2⟩
noncomputable def hPf (k:Int) (s:LU) (n:Int) (l:Nat):Bool:=(paR k).2.2&&keepB (paR k).1 (paR k).2.1 s n l
noncomputable def hTf (k:Int) (s:LU) (n:Int) (l:Nat):Bool:=(if k=3 then mltB n else decide (n=0))&&((tyR k).2.2&&keepB (tyR k).1 (tyR k).2.1 s 0 l)
noncomputable def hEf (k:Int) (s:LU) (n:Int) (l al:Nat):Bool:=(exR k s).2.2&&(keepB (exR k s).1 (exR k s).2.1 s n l&&(decide (0<al)==decide (k=8)))
theorem qdK(k:Int)(s:LU)(n:Int)(p:Pl)(A:OA)(l c:Nat)(r:Int)(w:World)(ht:Tbl w)(hf:fitN s n) :
  Calls Tryz.prog 65 #[.int .i64 r,.agg #[.int .u8 k,.string ⟨s.toArray⟩,n,p.a,p.l,p.c,.slice A l c]] w fun e w'=>e=.returned (.bool (hPf k s n l))/\Bel w w':=by
 have HR:Hid (∀ W,Calls Tryz.prog 107 #[.agg #[.int .u8 k,.string ⟨s.toArray⟩,n,p.a,p.l,p.c,.slice A l c]] W fun e w'=>e=.returned (.tuple #[.agg #[.int .u8 (paR k).1,.int .i64 (paR k).2.1],.bool (paR k).2.2])/\Bel W w'):=hid fun W=>Jy k s n p A l c W;have HKP:Hid (∀ W,Bel w W->Calls Tryz.prog 61 #[.agg #[.int .u8 (paR k).1,.int .i64 (paR k).2.1],.string ⟨s.toArray⟩,n,(l:Int)] W fun e w'=>e=.returned (.bool (keepB (paR k).1 (paR k).2.1 s n l))/\Bel W w'):=hid fun W hW=>Jr (paR k).1 (paR k).2.1 s n l W (ht.bel hW) hf.1 hf.2.1 hf.2.2;unfold hPf;obtain⟨tk,htk⟩:=nW ((paR k).1);obtain⟨kc,hkc⟩:=nW ((paR k).2.1);obtain⟨ok,hok⟩:=nW ((paR k).2.2);rw[<- htk,<- hkc,<- hok]at HR;rw[<- htk,<- hkc]at HKP;rw[<- htk,<- hkc,<- hok];obtain⟨kb,hkb⟩:=nW (keepB tk kc s n l);obtain⟨SS,hSS⟩:=nW (⟨s.toArray⟩:BA);rw[<- hkb,<- hSS]at HKP;rw[<- hSS]at HR;rw[<- hkb,<- hSS];clear ht hf htk hkc hok hkb hSS;have hb1:Bel w (w.alloc (.cells #[.int .u8 k,SS,n,p.a,p.l,p.c,.slice A l c] 59)):=(Bel.refl w).alloc _;have q1:=blk1 w (.cells #[.int .u8 k,SS,n,p.a,p.l,p.c,.slice A l c] 59);have HB1:=hid hb1;have HQ1:=hid q1;clear hb1 q1;go_enter Tryz.func65,Tryz.ntmps65;go_wp2_with fail;refine (HR _).mono ?_;rintro e w2 ⟨rfl,hb2⟩;have HB2:=hid (HB1.on hb2);have q2:=hb2.blk HQ1;obtain⟨x0,x1,x2,x3,x4,x5,x6⟩:=box7 q2;have hlt:w.heap.size<w2.heap.size:=(Array.getElem?_eq_some_iff.1 q2).1;clear hb2 q2 HR;cases ok
 ·go_wp2_with fail
  go_ret;exact⟨rfl,HB2.alloc _⟩
 ·go_wp2_with fail
  refine (HKP _ (HB2.alloc _)).mono ?_;rintro e w3 ⟨rfl,hb3⟩;have HB3:=hid ((HB2.alloc _).on hb3);clear hb3 x0 x1 x2 x3 x4 x5 x6;go_wp2_with fail;go_ret;exact⟨by simp,HB3⟩
theorem qfb(k:Int)(s:LU)(n:Int)(p:Pl)(A:OA)(l c:Nat)(r:Int)(w:World)(ht:Tbl w)(hf:s.length<=140737488355328) :
  Calls Tryz.prog 116 #[.int .i64 r,.agg #[.int .u8 k,.string ⟨s.toArray⟩,.int .u8 n,p.a,p.l,p.c,.slice A l c]] w fun e w'=>e=.returned (.bool (hTf k s n l))/\Bel w w':=by
 have HR:Hid (∀ W,Calls Tryz.prog 118 #[.agg #[.int .u8 k,.string ⟨s.toArray⟩,.int .u8 n,p.a,p.l,p.c,.slice A l c]] W fun e w'=>e=.returned (.tuple #[.agg #[.int .u8 (tyR k).1,.int .i64 (tyR k).2.1],.bool (tyR k).2.2])/\Bel W w'):=hid fun W=>qav k s n p A l c W;have HKP:Hid (∀ W,Bel w W->Calls Tryz.prog 61 #[.agg #[.int .u8 (tyR k).1,.int .i64 (tyR k).2.1],.string ⟨s.toArray⟩,(0:Int),(l:Int)] W fun e w'=>e=.returned (.bool (keepB (tyR k).1 (tyR k).2.1 s 0 l))/\Bel W w'):=hid fun W hW=>Jr (tyR k).1 (tyR k).2.1 s 0 l W (ht.bel hW) hf (by omega) (by omega);have HM:Hid (∀ W,Calls Tryz.prog 114 #[.int .u8 n] W fun e w'=>e=.returned (.bool (mltB n))/\w'=W):=hid fun W=>qag n W;unfold hTf;obtain⟨tk,htk⟩:=nW ((tyR k).1);obtain⟨kc,hkc⟩:=nW ((tyR k).2.1);obtain⟨ok,hok⟩:=nW ((tyR k).2.2);rw[<- htk,<- hkc,<- hok]at HR;rw[<- htk,<- hkc]at HKP;rw[<- htk,<- hkc,<- hok];obtain⟨kb,hkb⟩:=nW (keepB tk kc s 0 l);obtain⟨mb,hmb⟩:=nW (mltB n);obtain⟨SS,hSS⟩:=nW (⟨s.toArray⟩:BA);rw[<- hkb,<- hSS]at HKP;rw[<- hSS]at HR;rw[<- hmb]at HM;rw[<- hkb,<- hSS,<- hmb];clear ht hf htk hkc hok hkb hSS hmb;have hb1:Bel w (w.alloc (.cells #[.int .u8 k,SS,.int .u8 n,p.a,p.l,p.c,.slice A l c] 43)):=(Bel.refl w).alloc _;have q1:=blk1 w (.cells #[.int .u8 k,SS,.int .u8 n,p.a,p.l,p.c,.slice A l c] 43);have HB1:=hid hb1;have HQ1:=hid q1;clear hb1 q1;obtain⟨hd,hhd⟩:=nW (if k=3 then mb else decide (n=0));rw[<- hhd];have HHD:=hid hhd;clear hhd;have fin:∀ W,Bel w W->W.heap[w.heap.size]?=some (.cells #[.int .u8 k,SS,.int .u8 n,p.a,p.l,p.c,.slice A l c] 43 (0,0))->True:=fun _ _ _=>trivial;clear fin;by_cases k3:k=3
 ·subst k3
  obtain rfl:hd=mb:=by rw[HHD.out,if_pos rfl]
  go_enter Tryz.func116,Tryz.ntmps116;go_wp2_with fail;refine (HM _).mono ?_;rintro e w1 ⟨rfl,rfl⟩;cases hd
  ·go_wp2_with fail
   go_ret;exact⟨rfl,HB1⟩
  ·go_wp2_with fail
   refine (HR _).mono ?_;rintro e w2 ⟨rfl,hb2⟩;have HB2:=hid (HB1.on hb2);have q2:=hb2.blk HQ1;obtain⟨x0,x1,x2,x3,x4,x5,x6⟩:=box7 q2;have hlt:w.heap.size<w2.heap.size:=(Array.getElem?_eq_some_iff.1 q2).1;clear hb2 q2 HR;cases ok
   ·go_wp2_with fail
    go_ret;exact⟨rfl,HB2.alloc _⟩
   ·go_wp2_with fail
    refine (HKP _ (HB2.alloc _)).mono ?_;rintro e w3 ⟨rfl,hb3⟩;have HB3:=hid ((HB2.alloc _).on hb3);clear hb3 x0 x1 x2 x3 x4 x5 x6;go_wp2_with fail;go_ret;exact⟨by simp,HB3⟩
 ·have d3:(k==3)=false:=by simpa using k3
  have d4:(k != 3)=true:=by simpa using k3
  by_cases n0:n=0
  ·subst n0
   obtain rfl:hd=true:=by rw[HHD.out,if_neg k3];rfl
   go_enter Tryz.func116,Tryz.ntmps116;go_wp2_with fail;refine (HR _).mono ?_;rintro e w2 ⟨rfl,hb2⟩;have HB2:=hid (HB1.on hb2);have q2:=hb2.blk HQ1;obtain⟨x0,x1,x2,x3,x4,x5,x6⟩:=box7 q2;have hlt:w.heap.size<w2.heap.size:=(Array.getElem?_eq_some_iff.1 q2).1;clear hb2 q2 HR;cases ok
   ·go_wp2_with fail
    go_ret;exact⟨rfl,HB2.alloc _⟩
   ·go_wp2_with fail
    refine (HKP _ (HB2.alloc _)).mono ?_;rintro e w3 ⟨rfl,hb3⟩;have HB3:=hid ((HB2.alloc _).on hb3);clear hb3 x0 x1 x2 x3 x4 x5 x6;go_wp2_with fail;go_ret;exact⟨by simp,HB3⟩
  ·obtain rfl:hd=false:=by rw[HHD.out,if_neg k3];simp[n0]
   have d5:(n != 0)=true:=by simpa using n0
   go_enter Tryz.func116,Tryz.ntmps116;go_wp2_with fail;go_ret;exact⟨rfl,HB1⟩
theorem zZ{w:World}{g:Nat}{x0 x1 x2 x3 x4 x5:Value}(h:w.heap[g]?=some (.cells #[x0,x1,x2,x3,x4,x5] 85 (0,0))):(loadVar 85 ⟨g,0,none⟩).run Tryz.prog w=.ok (.agg #[x0,x1,x2,x3,x4,x5]) w:=by
 have c0:w.cell? ⟨g,0,none⟩=some x0:=by simp[World.cell?,h]
 have c1:w.cell? ⟨g,1,none⟩=some x1:=by simp[World.cell?,h]
 have c2:w.cell? ⟨g,2,none⟩=some x2:=by simp[World.cell?,h]
 have c3:w.cell? ⟨g,3,none⟩=some x3:=by simp[World.cell?,h]
 have c4:w.cell? ⟨g,4,none⟩=some x4:=by simp[World.cell?,h]
 have c5:w.cell? ⟨g,5,none⟩=some x5:=by simp[World.cell?,h]
 simp[loadVar,go_sem,c0,c1,c2,c3,c4,c5]
def tokV(k:Int)(S:BA):Value:= .agg #[.int .u8 k,.string S,.int .i64 0,.int .i64 0,.int .i64 0,.int .i64 0]
theorem zK(S:BA)(w:World):Calls Tryz.prog 41 #[.string S] w fun e w'=>e=.returned (tokV 1 S)/\Bel w w':=by
 go_enter Tryz.func41,Tryz.ntmps41;go_wp2_with fail;have hb:Bel w (w.alloc (.cells #[.int .u8 1,S,(0:Int),(0:Int),(0:Int),(0:Int)] 85)):=(Bel.refl w).alloc _;have hq:=zZ (blk1 w (.cells #[.int .u8 1,S,(0:Int),(0:Int),(0:Int),(0:Int)] 85))
 (try simp only[Exit.inBlock,Exit.then])
 refine bodyPost_ret (qi (v:=tokV 1 S) rfl _ _ _ rfl hq) rfl ?_;exact⟨rfl,hb⟩
theorem Zj(S:BA)(w:World):Calls Tryz.prog 89 #[.string S] w fun e w'=>e=.returned (tokV 2 S)/\Bel w w':=by
 go_enter Tryz.func89,Tryz.ntmps89;go_wp2_with fail;have hb:Bel w (w.alloc (.cells #[.int .u8 2,S,(0:Int),(0:Int),(0:Int),(0:Int)] 85)):=(Bel.refl w).alloc _;have hq:=zZ (blk1 w (.cells #[.int .u8 2,S,(0:Int),(0:Int),(0:Int),(0:Int)] 85))
 (try simp only[Exit.inBlock,Exit.then])
 refine bodyPost_ret (qi (v:=tokV 2 S) rfl _ _ _ rfl hq) rfl ?_;exact⟨rfl,hb⟩
theorem qf(S:BA)(w:World):Calls Tryz.prog 44 #[.string S] w fun e w'=>e=.returned (tokV 5 S)/\Bel w w':=by
 go_enter Tryz.func44,Tryz.ntmps44;go_wp2_with fail;have hb:Bel w (w.alloc (.cells #[.int .u8 5,S,(0:Int),(0:Int),(0:Int),(0:Int)] 85)):=(Bel.refl w).alloc _;have hq:=zZ (blk1 w (.cells #[.int .u8 5,S,(0:Int),(0:Int),(0:Int),(0:Int)] 85))
 (try simp only[Exit.inBlock,Exit.then])
 refine bodyPost_ret (qi (v:=tokV 5 S) rfl _ _ _ rfl hq) rfl ?_;exact⟨rfl,hb⟩
theorem qg0:(Tryz.prog.info? 85).map (fun i=>(i.zero,i.size,i.bytes))=some (some (.agg #[.int .u8 0,.string ⟨#[]⟩,(0:Int),(0:Int),(0:Int),(0:Int)]),6,56):=by kernel_rfl
def Wri(W:World)(base wp:Nat)(xs:List Tn):Prop:=
 wp<base/\base<=W.heap.size/\∃ A n c,W.heap[wp]?=some (.cells #[.slice A n c] 66 (0,0))/\n=xs.length/\W.ownsRow base 85 6 (.slice A n c) n (jm xs)
def Bx(W:World)(wp k:Nat)(o:Obj):Prop:=W.heap[k]?=some o/\k≠wp/\∀ v,W.cell? ⟨wp,0,none⟩=some v->v.ownBlock≠some k
def KpW(W W':World)(wp:Nat):Prop:=∀ k o,Bx W wp k o->Bx W' wp k o
theorem KpW.refl(W:World)(wp:Nat):KpW W W wp:=fun _ _ h=>h
theorem KpW.on{W W' W'':World}{wp:Nat}(h:KpW W W' wp)(k:KpW W' W'' wp):KpW W W'' wp:=fun b o hb=>k b o (h b o hb)
theorem KpW.of_bel{W W':World}{wp:Nat}(hw:wp<W.heap.size)(h:Bel W W'):KpW W W' wp:=fun k o ⟨h1,h2,h3⟩=>
 ⟨h.blk h1,h2,fun v hv=>h3 v (by rw[<- hv];exact (h.cell (p:=⟨wp,0,none⟩) hw).symm)⟩
theorem Wri.lt{W:World}{base wp:Nat}{xs:List Tn}(h:Wri W base wp xs):wp<W.heap.size:=Nat.lt_of_lt_of_le h.1 h.2.1
theorem Wri.own_lt{W:World}{base wp:Nat}{xs:List Tn}(h:Wri W base wp xs){v:Value}(hv:W.cell? ⟨wp,0,none⟩=some v){k:Nat}(hk:v.ownBlock=some k):k<W.heap.size:=by
 obtain⟨_,_,A,n,c,hc,_,ho⟩:=h;have c0:W.cell? ⟨wp,0,none⟩=some (.slice A n c):=by simp[World.cell?,hc]
 rw[c0]at hv;obtain rfl:_=v:=Option.some.inj hv;exact (ho.lt k hk).2
theorem Wri.bel{W W':World}{base wp:Nat}{xs:List Tn}(h:Wri W base wp xs)(hb:Bel W W'):Wri W' base wp xs:=by
 obtain⟨h1,h2,A,n,c,h3,h4,h5⟩:=h;refine⟨h1,Nat.le_trans h2 hb.size,A,n,c,hb.blk h3,h4,h5.1,?_⟩;rcases h5.2 with h0 | ⟨g,cap,cur,hv,hbg,hg,rest⟩
 ·exact .inl h0
 ·exact .inr ⟨g,cap,cur,hv,hbg,hb.blk hg,rest⟩
theorem Bx.new{W:World}{base wp:Nat}{xs:List Tn}(h:Wri W base wp xs)(o:Obj):Bx (W.alloc o) wp W.heap.size o:=by
 refine⟨blk1 W o,by have:=h.lt;omega,fun v hv e=>?_⟩;have hc:W.cell? ⟨wp,0,none⟩=some v:=by
  rw[<- hv];exact (((Bel.refl W).alloc o).cell (p:=⟨wp,0,none⟩) h.lt).symm
 have:=h.own_lt hc e;omega
def qgp(xs ls:List Tn):List Tn:=if xs.length<=4000 then xs++ls else xs
theorem qcX{w:World}{g:Nat}{t:TypeId}{x:Value}(h:w.heap[g]?=some (.cells #[x] t (0,0)))(u:Value):(w.setCell ⟨g,0,none⟩ u).heap[g]?=some (.cells #[u] t (0,0)):=by
 simp[World.setCell,Array.getElem?_modify,h]
theorem qhI(base wp:Nat)(xs ls:List Tn)(LA:Addr)(ln lc:Nat)(w0 W:World)(hW:Bel w0 W)(hwp:w0.heap.size<=wp)(hw:Wri W base wp xs)(hx:xs.length<=1000000)(hl:ls.length<=1000000)(hln:ln=ls.length)(hl0:0<ln)(hc:∀ j u,(jm ls)[j]?=some u->W.cell? (LA.add j)=some u)(h1:∀ u∈jm ls,u.oneCell'=true) :
  Calls Tryz.prog 43 #[.pointer (some ⟨wp,0,none⟩),.slice (some LA) ln lc] W fun e w'=>e=.returned (.tuple #[])/\Bel w0 w'/\Wri w' base wp (qgp xs ls)/\KpW W w' wp:=by
 obtain⟨hwb,hbs,A,n,c,hcell,hn,ho⟩:=hw;have hwl:wp<W.heap.size:=by omega
 have HLN:=hid hln;have hl2:ln<=1000000:=by omega
 clear hln;have c0:W.cell? ⟨wp,0,none⟩=some (.slice A n c):=by simp[World.cell?,hcell]
 unfold qgp;by_cases h4:xs.length<=4000
 case neg=>
  rw[if_neg h4];have h4':¬ ((n:Int)<=4000):=by omega
  have HF:Hid (Bel w0 W/\Wri W base wp xs):=hid ⟨hW,hwb,hbs,A,n,c,hcell,hn,ho⟩;clear hc h1 ho hcell hW hn;go_enter Tryz.func43,Tryz.ntmps43;go_wp2_with fail;go_end0;exact⟨rfl,HF.1,HF.2,KpW.refl _ _⟩
 rw[if_pos h4];have h4':(n:Int)<=4000:=by omega
 have hn4:n<=1000000:=by omega
 have HN:=hid hn;clear hn;obtain⟨i0,hi0,hz0,hz1,hz2⟩:=info_parts qg0;go_enter Tryz.func43,Tryz.ntmps43;go_wp2_with (at_builtin;refine QJ ?_);unfold Qv;refine wpList_append_own_at _ rfl _ _ 64 rfl base 85 i0 _ 6 56 Tryz.underlying64 hi0 hz0 hz1 hz2 rfl (by decide) (.slice A n c) n _ rfl ho LA ln lc (jm ls) rfl (by rw[qbo,HLN.out]) hc h1 (by unfold maxLen;omega) (by omega) hbs ?_;intro v' w5 hown5 hg5 _ hob5;obtain⟨g5,c5,rfl⟩:∃ g c,v'=.slice (some ⟨g,0,none⟩) (n+ln) c:=by
  obtain⟨g,c,hv,_⟩:=hown5.form (by omega);exact⟨g,c,hv⟩
 have hlt:=ho.lt;have hcell5:w5.heap[wp]?=some (.cells #[.slice A n c] 66 (0,0)):=(hg5.block wp hwl (fun e=>by have:=(hlt wp e.symm).1;omega)).trans hcell;have c5':w5.cell? ⟨wp,0,none⟩=some (.slice A n c):=by simp[World.cell?,hcell5]
 have f5:w5.frozen? ⟨wp,0,none⟩=false:=by simp[World.frozen?,hcell5]
 have hb5:Bel w0 w5:=Below.grown hW hg5 (by have:=hW.size;omega) (fun x hx=>by have h:=(hlt x hx).1;omega);have hwl5:wp<w5.heap.size:=Nat.lt_of_lt_of_le hwl hg5.size;have HF:Hid (Bel w0 (w5.setCell ⟨wp,0,none⟩ (.slice (some ⟨g5,0,none⟩) (n+ln) c5))/\Wri (w5.setCell ⟨wp,0,none⟩ (.slice (some ⟨g5,0,none⟩) (n+ln) c5)) base wp (xs++ls)/\KpW W (w5.setCell ⟨wp,0,none⟩ (.slice (some ⟨g5,0,none⟩) (n+ln) c5)) wp):=hid ⟨hb5.set_ hwp _,⟨hwb,by have:=hg5.size;simp[World.setCell];omega,_,_,_,qcX hcell5 _,by rw[List.length_append,HN.out,HLN.out],by
   have h:=zT hown5 (p:=⟨wp,0,none⟩) (by show wp<base;omega) (.slice (some ⟨g5,0,none⟩) (n+ln) c5);rw[jm,List.flatMap_append];exact h⟩,fun k o ⟨q1,q2,q3⟩=>by
   have hk:k<W.heap.size:=(Array.getElem?_eq_some_iff.1 q1).1;have q4:=q3 _ c0;refine⟨?_,q2,fun v hv e=>?_⟩
   ·rw[Below.heap_setCell _ _ _ _ q2,hg5.block k hk (fun e=>q4 e.symm)]
    exact q1
   ·have hv':v=.slice (some ⟨g5,0,none⟩) (n+ln) c5:=by
     have:=qcX hcell5 (.slice (some ⟨g5,0,none⟩) (n+ln) c5);simpa [World.cell?,this] using hv.symm
    subst hv';rcases hob5 with e5 | e5
    ·rw[e5]at e
     exact q4 e
    ·rw[e5]at e
     have:=Option.some.inj e;omega⟩
 clear hown5 hg5 hob5 hlt hb5 ho hc h1 hcell hW;go_wp2_with fail;go_end0;exact⟨rfl,HF⟩
def WrR(xs F r:List Tn):Prop:=(4000<xs.length->r=xs)/\r <+: xs++F/\(r=xs++F∨4000<r.length)
theorem WrR.nil(xs:List Tn):WrR xs [] xs:=⟨fun _=>rfl,by simp,.inl (by simp)⟩
theorem WrR.put(xs ls:List Tn):WrR xs ls (qgp xs ls):=by
 unfold qgp;by_cases h:xs.length<=4000
 ·rw[if_pos h];exact⟨fun h4=>by omega,List.prefix_refl _,.inl rfl⟩
 ·rw[if_neg h];exact⟨fun _=>rfl,List.prefix_append _ _,.inr (by omega)⟩
theorem WrR.on{xs F G r s:List Tn}(h:WrR xs F r)(k:WrR r G s):WrR xs (F++G) s:=by
 obtain⟨h1,h2,h3⟩:=h;obtain⟨k1,k2,k3⟩:=k;refine⟨fun h4=>?_,?_,?_⟩
 ·have e:=h1 h4
  subst e;exact k1 h4
 ·rcases h3 with h3 | h3
  ·subst h3
   rw[<- List.append_assoc];exact k2
  ·rw[k1 h3,<- List.append_assoc]
   exact h2.trans (List.prefix_append _ _)
 ·rcases k3 with k3 | k3
  ·rcases h3 with h3 | h3
   ·left
    rw[k3,h3,List.append_assoc]
   ·right
    rw[k1 h3];exact h3
  ·exact .inr k3
theorem WrR.from0{F r:List Tn}(h:WrR [] F r):r <+: F/\(r=F∨4000<r.length):=by
 have:=h.2;simpa using this
def tk0(k:Int)(s:LU)(n:Int):Tn:=⟨k,s,n,⟨0,0,0⟩⟩
def brkL(alone:Bool)(F:List Tn):List Tn:=if alone then F else tk0 5 [40] 0::F++[tk0 5 [41] 0]
def zg(m:Int):Tn:=if m=1 then tk0 3 [] 1 else if m=2 then tk0 5 [63] 0 else tk0 5 [42] 0
def zi(m:Int):Tn:=if m=1 then tk0 5 [45,49,62] 0 else if m=2 then tk0 5 [45,63,62] 0 else tk0 5 [45,42,62] 0
def alnE(k:Int)(l:Nat):Bool:=decide (k=1) || decide (k=2) || decide (k=3) || (decide (k=9)&&decide (l=0))
def alnF(k:Int)(l:Nat):Bool:=alnE k l && !decide (k=9)
def alnP(k:Int)(l:Nat):Bool:=!decide (k=5) || decide (l=0)
def alnT(k:Int)(l:Nat):Bool:=decide (k=1) || (decide (k=2)&&decide (l=0))
theorem qbX(k:Int)(S:BA)(n:Int)(p:Pl)(A:OA)(l c:Nat)(w:World):Calls Tryz.prog 92 #[.agg #[.int .u8 k,S,.int .u8 n,p.a,p.l,p.c,.slice A l c]] w (qu (alnT k l) w):=by
 have e0:((l:Int)==0)=decide (l=0):=by by_cases h:l=0 <;> simp[h]
 unfold alnT;by_cases h1:k=1
 ·subst h1
  go_enter Tryz.func92,Tryz.ntmps92;go_wp2_with fail;go_ret;exact⟨rfl,(Bel.refl w).alloc _⟩
 have k1:(k==1)=false:=by simpa using h1
 by_cases h2:k=2
 ·subst h2
  go_enter Tryz.func92,Tryz.ntmps92;go_wp2_with fail;go_ret;exact⟨by simp,(Bel.refl w).alloc _⟩
 have k2:(k==2)=false:=by simpa using h2
 have e:(decide (k=1) || (decide (k=2)&&decide (l=0)))=false:=by simp[h1,h2]
 rw[e];clear h1 h2 e e0;go_enter Tryz.func92,Tryz.ntmps92;go_wp2_with fail;go_ret;exact⟨rfl,(Bel.refl w).alloc _⟩
theorem qa6(k:Int)(S:BA)(n:Int)(p:Pl)(A:OA)(l c:Nat)(w:World):Calls Tryz.prog 136 #[.agg #[.int .u8 k,S,n,p.a,p.l,p.c,.slice A l c]] w (qu (alnP k l) w):=by
 have e0:((l:Int)==0)=decide (l=0):=by by_cases h:l=0 <;> simp[h]
 unfold alnP;by_cases h1:k=5
 ·subst h1
  go_enter Tryz.func136,Tryz.ntmps136;go_wp2_with fail;go_ret;exact⟨by simp,(Bel.refl w).alloc _⟩
 have k1:(k==5)=false:=by simpa using h1
 have e:(!decide (k=5) || decide (l=0))=true:=by simp[h1]
 rw[e];have k1':(k != 5)=true:=by simp[h1]
 clear e e0;go_enter Tryz.func136,Tryz.ntmps136;go_wp2_with fail;go_ret;exact⟨rfl,(Bel.refl w).alloc _⟩
theorem QN(k:Int)(S:BA)(n:Int)(p:Pl)(A:OA)(l c:Nat)(B:OA)(m d:Nat)(w:World):Calls Tryz.prog 70 #[.agg #[.int .u8 k,S,n,p.a,p.l,p.c,.slice A l c,.slice B m d]] w (qu (alnE k l) w):=by
 have e0:((l:Int)==0)=decide (l=0):=by by_cases h:l=0 <;> simp[h]
 unfold alnE;by_cases h1:k=1
 ·subst h1
  go_enter Tryz.func70,Tryz.ntmps70;go_wp2_with fail;go_ret;exact⟨rfl,(Bel.refl w).alloc _⟩
 have k1:(k==1)=false:=by simpa using h1
 by_cases h2:k=2
 ·subst h2
  go_enter Tryz.func70,Tryz.ntmps70;go_wp2_with fail;go_ret;exact⟨rfl,(Bel.refl w).alloc _⟩
 have k2:(k==2)=false:=by simpa using h2
 by_cases h3:k=3
 ·subst h3
  go_enter Tryz.func70,Tryz.ntmps70;go_wp2_with fail;go_ret;exact⟨rfl,(Bel.refl w).alloc _⟩
 have k3:(k==3)=false:=by simpa using h3
 by_cases h9:k=9
 ·subst h9
  go_enter Tryz.func70,Tryz.ntmps70;go_wp2_with fail;go_ret;exact⟨by simp,(Bel.refl w).alloc _⟩
 have k9:(k==9)=false:=by simpa using h9
 have e:(decide (k=1) || decide (k=2) || decide (k=3) || (decide (k=9)&&decide (l=0)))=false:=by simp[h1,h2,h3,h9]
 rw[e];clear h1 h2 h3 h9 e e0;go_enter Tryz.func70,Tryz.ntmps70;go_wp2_with fail;go_ret;exact⟨rfl,(Bel.refl w).alloc _⟩
theorem J0(k:Int)(S:BA)(n:Int)(p:Pl)(A:OA)(l c:Nat)(B:OA)(m d:Nat)(w:World):Calls Tryz.prog 69 #[.agg #[.int .u8 k,S,n,p.a,p.l,p.c,.slice A l c,.slice B m d]] w (qu (alnF k l) w):=by
 have HE:Hid (∀ W,Calls Tryz.prog 70 #[.agg #[.int .u8 k,S,n,p.a,p.l,p.c,.slice A l c,.slice B m d]] W (qu (alnE k l) W)):=hid fun W=>QN k S n p A l c B m d W;unfold alnF;obtain⟨q,hq⟩:=nW (alnE k l);rw[<- hq]at HE ⊢;clear hq;have q1:=blk1 w (.cells #[.int .u8 k,S,n,p.a,p.l,p.c,.slice A l c,.slice B m d] 28);have hb:Bel w (w.alloc (.cells #[.int .u8 k,S,n,p.a,p.l,p.c,.slice A l c,.slice B m d] 28)):=(Bel.refl w).alloc _;have HQ:=hid q1;have HB:=hid hb;clear q1 hb;go_enter Tryz.func69,Tryz.ntmps69;go_wp2_with fail;refine (HE _).mono ?_;rintro e w5 ⟨rfl,hb5⟩;have hq5:=hb5.blk HQ;have HB5:=hid (HB.on hb5);have x0:=(box8 hq5).1;have kb:w.heap.size<w5.heap.size:=(Array.getElem?_eq_some_iff.1 hq5).1;clear hb5 hq5;cases q
 ·go_wp2_with fail
  go_ret;exact⟨rfl,HB5⟩
 by_cases h9:k=9
 ·subst h9
  go_wp2_with fail;go_ret;exact⟨rfl,HB5⟩
 have k9:(k==9)=false:=by simpa using h9
 have e:(true && !decide (k=9))=true:=by simp[h9]
 rw[e];clear h9 e;go_wp2_with fail;go_ret;exact⟨rfl,HB5⟩
theorem QC{w:World}{g:Nat}{t:TypeId}{x0 x1 x2 x3 x4 x5:Value}(h:w.heap[g]?=some (.cells #[x0,x1,x2,x3,x4,x5] t (0,0))) :
  (w.cell? ⟨g,0,none⟩=some x0/\w.cell? ⟨g,1,none⟩=some x1/\w.cell? ⟨g,2,none⟩=some x2/\w.cell? ⟨g,3,none⟩=some x3/\w.cell? ⟨g,4,none⟩=some x4/\w.cell? ⟨g,5,none⟩=some x5) ∧
  w.frozen? ⟨g,0,none⟩=false/\w.frozen? ⟨g,1,none⟩=false/\w.frozen? ⟨g,2,none⟩=false/\w.frozen? ⟨g,3,none⟩=false/\w.frozen? ⟨g,4,none⟩=false/\w.frozen? ⟨g,5,none⟩=false:=by
 simp[World.cell?,World.frozen?,h]
theorem Qq{w:World}{g:Nat}{t:TypeId}{x0 x1 x2 x3 x4 x5:Value}(h:w.heap[g]?=some (.cells #[x0,x1,x2,x3,x4,x5] t (0,0)))(y0 y1 y2 y3 y4 y5:Value) :
  ((((((w.setCell ⟨g,0,none⟩ y0).setCell ⟨g,1,none⟩ y1).setCell ⟨g,2,none⟩ y2).setCell ⟨g,3,none⟩ y3).setCell ⟨g,4,none⟩ y4).setCell ⟨g,5,none⟩ y5).heap[g]?=some (.cells #[y0,y1,y2,y3,y4,y5] t (0,0)):=by
 simp[World.setCell,Array.getElem?_modify,h]
def qcV(m:Int):Value:=if m=1 then .agg #[.int .u8 3,.string ⟨#[]⟩,.int .i64 1,.int .i64 0,.int .i64 0,.int .i64 0] else if m=2 then tokV 5 ⟨#[63]⟩ else tokV 5 ⟨#[42]⟩
theorem qfg(m:Int)(w:World):Calls Tryz.prog 90 #[.int .u8 m] w fun e w'=>e=.returned (qcV m)/\Bel w w':=by
 have HQ:=hid (blk1 w (.cells #[.int .u8 0,.string ⟨#[]⟩,(0:Int),(0:Int),(0:Int),(0:Int)] 85));have HB:=hid ((Bel.refl w).alloc (.cells #[.int .u8 0,.string ⟨#[]⟩,(0:Int),(0:Int),(0:Int),(0:Int)] 85));unfold qcV;by_cases h1:m=1
 ·subst h1
  rw[if_pos rfl];go_enter Tryz.func90,Tryz.ntmps90;go_wp2_with fail
  (try simp only[Exit.inBlock,Exit.then])
  refine bodyPost_ret (qi (v:= .agg #[.int .u8 3,.string ⟨#[]⟩,.int .i64 1,(0:Int),(0:Int),(0:Int)]) rfl _ _ _ rfl (zZ (blk1 w (.cells #[.int .u8 3,.string ⟨#[]⟩,.int .i64 1,(0:Int),(0:Int),(0:Int)] 85)))) rfl ?_;exact⟨rfl,(Bel.refl w).alloc _⟩
 rw[if_neg h1];have k1:(m==1)=false:=by simpa using h1
 by_cases h2:m=2
 ·subst h2
  rw[if_pos rfl];go_enter Tryz.func90,Tryz.ntmps90;go_wp2_with fail;refine (qf _ _).mono ?_;rintro e w5 ⟨rfl,hb5⟩;have hq5:=hb5.blk HQ;have HB5:=hid (HB.on hb5);have hk:=QC hq5;obtain⟨⟨c0,c1,c2,c3,c4,c5⟩,f0,f1,f2,f3,f4,f5⟩:=hk;have kb:w.heap.size<w5.heap.size:=(Array.getElem?_eq_some_iff.1 hq5).1;clear hb5;unfold tokV;go_wp2_with fail
  (try simp only[Exit.inBlock,Exit.then])
  refine bodyPost_ret (qi (v:= .agg #[.int .u8 5,.string ⟨#[63]⟩,(0:Int),(0:Int),(0:Int),(0:Int)]) rfl _ _ _ rfl (zZ (Qq hq5 _ _ _ _ _ _))) rfl ?_;exact⟨rfl,(((((HB5.out.set_ (Nat.le_refl _) _).set_ (Nat.le_refl _) _).set_ (Nat.le_refl _) _).set_ (Nat.le_refl _) _).set_ (Nat.le_refl _) _).set_ (Nat.le_refl _) _⟩
 rw[if_neg h2];have k2:(m==2)=false:=by simpa using h2
 go_enter Tryz.func90,Tryz.ntmps90;go_wp2_with fail;refine (qf _ _).mono ?_;rintro e w5 ⟨rfl,hb5⟩;have hq5:=hb5.blk HQ;have HB5:=hid (HB.on hb5);have hk:=QC hq5;obtain⟨⟨c0,c1,c2,c3,c4,c5⟩,f0,f1,f2,f3,f4,f5⟩:=hk;have kb:w.heap.size<w5.heap.size:=(Array.getElem?_eq_some_iff.1 hq5).1;clear hb5;unfold tokV;go_wp2_with fail
 (try simp only[Exit.inBlock,Exit.then])
 refine bodyPost_ret (qi (v:= .agg #[.int .u8 5,.string ⟨#[42]⟩,(0:Int),(0:Int),(0:Int),(0:Int)]) rfl _ _ _ rfl (zZ (Qq hq5 _ _ _ _ _ _))) rfl ?_;exact⟨rfl,(((((HB5.out.set_ (Nat.le_refl _) _).set_ (Nat.le_refl _) _).set_ (Nat.le_refl _) _).set_ (Nat.le_refl _) _).set_ (Nat.le_refl _) _).set_ (Nat.le_refl _) _⟩
def qcx(m:Int):Value:=if m=1 then tokV 5 ⟨#[45,49,62]⟩ else if m=2 then tokV 5 ⟨#[45,63,62]⟩ else tokV 5 ⟨#[45,42,62]⟩
theorem qeq(m:Int)(w:World):Calls Tryz.prog 117 #[.int .u8 m] w fun e w'=>e=.returned (qcx m)/\Bel w w':=by
 have HQ:=hid (blk1 w (.cells #[.int .u8 0,.string ⟨#[]⟩,(0:Int),(0:Int),(0:Int),(0:Int)] 85));have HB:=hid ((Bel.refl w).alloc (.cells #[.int .u8 0,.string ⟨#[]⟩,(0:Int),(0:Int),(0:Int),(0:Int)] 85));unfold qcx;by_cases h1:m=1
 ·subst h1
  rw[if_pos rfl];go_enter Tryz.func117,Tryz.ntmps117;go_wp2_with fail;refine (qf _ _).mono ?_;rintro e w5 ⟨rfl,hb5⟩;have hq5:=hb5.blk HQ;have HB5:=hid (HB.on hb5);have hk:=QC hq5;obtain⟨⟨c0,c1,c2,c3,c4,c5⟩,f0,f1,f2,f3,f4,f5⟩:=hk;have kb:w.heap.size<w5.heap.size:=(Array.getElem?_eq_some_iff.1 hq5).1;clear hb5;unfold tokV;go_wp2_with fail
  (try simp only[Exit.inBlock,Exit.then])
  refine bodyPost_ret (qi (v:= .agg #[.int .u8 5,.string ⟨#[45,49,62]⟩,(0:Int),(0:Int),(0:Int),(0:Int)]) rfl _ _ _ rfl (zZ (Qq hq5 _ _ _ _ _ _))) rfl ?_;exact⟨rfl,(((((HB5.out.set_ (Nat.le_refl _) _).set_ (Nat.le_refl _) _).set_ (Nat.le_refl _) _).set_ (Nat.le_refl _) _).set_ (Nat.le_refl _) _).set_ (Nat.le_refl _) _⟩
 rw[if_neg h1];have k1:(m==1)=false:=by simpa using h1
 by_cases h2:m=2
 ·subst h2
  rw[if_pos rfl];go_enter Tryz.func117,Tryz.ntmps117;go_wp2_with fail;refine (qf _ _).mono ?_;rintro e w5 ⟨rfl,hb5⟩;have hq5:=hb5.blk HQ;have HB5:=hid (HB.on hb5);have hk:=QC hq5;obtain⟨⟨c0,c1,c2,c3,c4,c5⟩,f0,f1,f2,f3,f4,f5⟩:=hk;have kb:w.heap.size<w5.heap.size:=(Array.getElem?_eq_some_iff.1 hq5).1;clear hb5;unfold tokV;go_wp2_with fail
  (try simp only[Exit.inBlock,Exit.then])
  refine bodyPost_ret (qi (v:= .agg #[.int .u8 5,.string ⟨#[45,63,62]⟩,(0:Int),(0:Int),(0:Int),(0:Int)]) rfl _ _ _ rfl (zZ (Qq hq5 _ _ _ _ _ _))) rfl ?_;exact⟨rfl,(((((HB5.out.set_ (Nat.le_refl _) _).set_ (Nat.le_refl _) _).set_ (Nat.le_refl _) _).set_ (Nat.le_refl _) _).set_ (Nat.le_refl _) _).set_ (Nat.le_refl _) _⟩
 rw[if_neg h2];have k2:(m==2)=false:=by simpa using h2
 go_enter Tryz.func117,Tryz.ntmps117;go_wp2_with fail;refine (qf _ _).mono ?_;rintro e w5 ⟨rfl,hb5⟩;have hq5:=hb5.blk HQ;have HB5:=hid (HB.on hb5);have hk:=QC hq5;obtain⟨⟨c0,c1,c2,c3,c4,c5⟩,f0,f1,f2,f3,f4,f5⟩:=hk;have kb:w.heap.size<w5.heap.size:=(Array.getElem?_eq_some_iff.1 hq5).1;clear hb5;unfold tokV;go_wp2_with fail
 (try simp only[Exit.inBlock,Exit.then])
 refine bodyPost_ret (qi (v:= .agg #[.int .u8 5,.string ⟨#[45,42,62]⟩,(0:Int),(0:Int),(0:Int),(0:Int)]) rfl _ _ _ rfl (zZ (Qq hq5 _ _ _ _ _ _))) rfl ?_;exact⟨rfl,(((((HB5.out.set_ (Nat.le_refl _) _).set_ (Nat.le_refl _) _).set_ (Nat.le_refl _) _).set_ (Nat.le_refl _) _).set_ (Nat.le_refl _) _).set_ (Nat.le_refl _) _⟩
def WrQ(w0:World)(base wp:Nat)(xs F:List Tn)(W:World):Ending->World->Prop:=fun e w'=>e=.returned (.tuple #[])/\Bel w0 w'/\(∃ r,Wri w' base wp r/\WrR xs F r/\r.length<=5000)/\KpW W w' wp
def qr(k:Int)(s:LU)(n:Int)(K:List Tn):List Tn:=if k=2 then [tk0 5 [95] 0] else tk0 (paR k).1 s n::K
def Tr.patK:Tr->List Tn
 | .nil=>[]
 | .nod k s n _ kids _ r=>brkL (alnP k kids.len) (qr k s n kids.patK)++r.patK
 | .arm ..=>[]
def Tr.tyK:Tr->List Tn->List Tn
 | .nil,_=>[]
 | .nod k s n _ kids _ r,sep=>brkL (alnT k kids.len) (if k=3 then kids.tyK [zi n] else tk0 (tyR k).1 s 0::kids.tyK [])++sep++r.tyK []
 | .arm ..,_=>[]
def qv(k:Int)(s:LU)(n:Int)(kids:Tr):List Tn:=if k=3 then kids.tyK [zi n] else tk0 (tyR k).1 s 0::kids.tyK []
def brkM(md:Nat)(k:Int)(l:Nat)(F:List Tn):List Tn:=if md=0 then F else if md=1 then brkL (alnF k l) F else brkL (alnE k l) F
def nxM(md:Nat):Nat:=if md=1 then 2 else md
def zm:Tn:=tk0 5 [108,101,116] 0
def zY:Tn:=tk0 5 [114,101,99] 0
def kwIn:Tn:=tk0 5 [105,110] 0
def jK:Tn:=tk0 5 [99,97,115,101] 0
def kwOf:Tn:=tk0 5 [111,102] 0
def kwEq:Tn:=tk0 5 [61] 0
def jn:Tn:=tk0 5 [45,62] 0
def Q5:Tn:=tk0 5 [92] 0
def jj:Tn:=tk0 5 [123] 0
def zH:Tn:=tk0 5 [125] 0
def jq:Tn:=tk0 5 [59] 0
def Tr.exK:Tr->Nat->List Tn->List Tn
 | .nil,_,_=>[]
 | .nod k s n _ kids arms r,md,sep=>brkM md k kids.len
   (if k=4 then Q5::tk0 1 s 0::jn::kids.exK 0 []
    else if k=6 then zm::tk0 1 s 0::kwEq::kids.exK 0 [kwIn]
    else if k=7 then zm::zY::tk0 1 s 0::kwEq::kids.exK 0 [kwIn]
    else if k=8 then jK::kids.exK 0 []++[kwOf]++arms.exK 0 [jj]++[zH]
    else if k=5 then kids.exK 1 []
    else if (exR k s).1=5 then kids.exK 2 [tk0 5 s n]
    else tk0 (exR k s).1 s n::kids.exK 2 [])++sep++r.exK (nxM md) []
 | .arm k s n _ kids e r,_,sep=>sep++qr k s n kids.patK++[jn]++e.exK 0 []++r.exK 0 [jq]
def qe(k:Int)(s:LU)(n:Int)(kids arms:Tr):List Tn:=
 if k=4 then Q5::tk0 1 s 0::jn::kids.exK 0 []
 else if k=6 then zm::tk0 1 s 0::kwEq::kids.exK 0 [kwIn]
 else if k=7 then zm::zY::tk0 1 s 0::kwEq::kids.exK 0 [kwIn]
 else if k=8 then jK::kids.exK 0 []++[kwOf]++arms.exK 0 [jj]++[zH]
 else if k=5 then kids.exK 1 []
 else if (exR k s).1=5 then kids.exK 2 [tk0 5 s n]
 else tk0 (exR k s).1 s n::kids.exK 2 []
theorem qaT(k:Int)(s:LU)(n:Int)(p:Pl)(kids arms r:Tr):(Tr.nod k s n p kids arms r).patK=brkL (alnP k kids.len) (qr k s n kids.patK)++r.patK:=rfl
theorem jz(k:Int)(s:LU)(n:Int)(p:Pl)(kids arms r:Tr)(sep:List Tn):(Tr.nod k s n p kids arms r).tyK sep=brkL (alnT k kids.len) (qv k s n kids)++sep++r.tyK []:=rfl
theorem zk(k:Int)(s:LU)(n:Int)(p:Pl)(kids arms r:Tr)(md:Nat)(sep:List Tn):(Tr.nod k s n p kids arms r).exK md sep=brkM md k kids.len (qe k s n kids arms)++sep++r.exK (nxM md) []:=rfl
def Tr.brX(al:Int->Nat->Bool):Tr->List Tn
 | .nil=>[]
 | .nod k s n _ kids arms r=>brkL (al k kids.len) (qe k s n kids arms)++r.brX al
 | .arm ..=>[]
def Tr.brP:Tr->List Tn
 | .nil=>[]
 | .nod k s n _ kids arms r=>brkL (alnP k kids.len) (qr k s n kids.patK)++r.brP
 | .arm ..=>[]
def Tr.brT:Tr->List Tn
 | .nil=>[]
 | .nod k s n _ kids arms r=>brkL (alnT k kids.len) (qv k s n kids)++r.brT
 | .arm ..=>[]
def Tr.dropN:Tr->Nat->Tr
 | f,0=>f
 | .nil,_+1=> .nil
 | .nod _ _ _ _ _ _ r,i+1=>r.dropN i
 | .arm _ _ _ _ _ _ r,i+1=>r.dropN i
theorem Tr.dropN_nil:∀ i,Tr.nil.dropN i=.nil
 | 0=>rfl
 | _+1=>rfl
theorem Tr.dropN_all:∀ (f:Tr) (i:Nat),f.len<=i->f.dropN i=.nil
 | .nil,i,_=>Tr.dropN_nil i
 | .nod _ _ _ _ _ _ r,0,h=>by simp[Tr.len]at h
 | .arm _ _ _ _ _ _ r,0,h=>by simp[Tr.len]at h
 | .nod _ _ _ _ _ _ r,i+1,h=>Tr.dropN_all r i (by simpa [Tr.len] using h)
 | .arm _ _ _ _ _ _ r,i+1,h=>Tr.dropN_all r i (by simpa [Tr.len] using h)
theorem Tr.dropN_nod{k:Int}{s:LU}{n:Int}{p:Pl}{kids arms:Tr}:∀ (f:Tr) (i:Nat),f.nth i=.nod k s n p kids arms .nil->f.dropN i=.nod k s n p kids arms (f.dropN (i+1))
 | .nil,i,h=>by cases i <;> simp[Tr.nth]at h
 | .nod _ _ _ _ _ _ r,0,h=>by
  simp only[Tr.nth,Tr.nod.injEq]at h;obtain⟨rfl,rfl,rfl,rfl,rfl,rfl,_⟩:=h;cases r <;> rfl
 | .arm _ _ _ _ _ _ r,0,h=>by simp[Tr.nth]at h
 | .nod _ _ _ _ _ _ r,i+1,h=>Tr.dropN_nod r i h
 | .arm _ _ _ _ _ _ r,i+1,h=>Tr.dropN_nod r i h
def Tr.shp:Tr->Prop
 | .nil=>True
 | .nod k s _ _ kids arms r=>(k=4->kids.len=1)/\(k=5∨k=6∨k=7->kids.len=2)/\(k=8->kids.len=1)/\((exR k s).1=5->kids.len=2)/\kids.shp/\arms.shp/\r.shp
 | .arm _ _ _ _ _ e r=>e.shp/\r.shp
def Tr.shpT:Tr->Prop
 | .nil=>True
 | .nod k _ _ _ kids _ r=>(k=3->kids.len=2)/\kids.shpT/\r.shpT
 | .arm ..=>True
theorem Tr.nth_shp:∀ (f:Tr) (i:Nat),f.shp->(f.nth i).shp
 | .nil,_,_=>trivial
 | .nod _ _ _ _ a b r,0,h=>⟨h.1,h.2.1,h.2.2.1,h.2.2.2.1,h.2.2.2.2.1,h.2.2.2.2.2.1,trivial⟩
 | .arm _ _ _ _ a b r,0,h=>⟨h.1,trivial⟩
 | .nod _ _ _ _ a b r,i+1,h=>Tr.nth_shp r i h.2.2.2.2.2.2
 | .arm _ _ _ _ a b r,i+1,h=>Tr.nth_shp r i h.2
theorem Tr.nth_shpT:∀ (f:Tr) (i:Nat),f.isNods->f.shpT->(f.nth i).shpT
 | .nil,_,_,_=>trivial
 | .nod _ _ _ _ a b r,0,_,h=>⟨h.1,h.2.1,trivial⟩
 | .arm ..,_,h,_=>h.elim
 | .nod _ _ _ _ a b r,i+1,hn,h=>Tr.nth_shpT r i hn h.2.2
theorem Tr.brX_exK:∀ f:Tr,f.isNods->f.exK 2 []=f.brX alnE
 | .nil,_=>rfl
 | .arm ..,h=>h.elim
 | .nod k s n p kids arms r,h=>by
  rw[zk,Tr.brX,show nxM 2=2 from rfl,Tr.brX_exK r h];simp[brkM]
theorem Tr.brP_patK:∀ f:Tr,f.patK=f.brP
 | .nil=>rfl
 | .arm ..=>rfl
 | .nod k s n p kids arms r=>by rw[qaT,Tr.brP,Tr.brP_patK r]
theorem Tr.brT_tyK:∀ f:Tr,f.tyK []=f.brT
 | .nil=>rfl
 | .arm ..=>rfl
 | .nod k s n p kids arms r=>by rw[jz,Tr.brT,Tr.brT_tyK r,List.append_nil]
theorem Tr.two:∀ f:Tr,f.isNods->f.len=2->∃ k s n p a b k' s' n' p' a' b',f=.nod k s n p a b (.nod k' s' n' p' a' b' .nil)
 | .nil,_,h=>by simp[Tr.len]at h
 | .arm ..,h,_=>h.elim
 | .nod k s n p a b r,h,hl=>by
  obtain⟨k',s',n',p',a',b',e⟩:=Tr.one_nod r (by simpa [Tr.len] using hl) h;exact⟨k,s,n,p,a,b,k',s',n',p',a',b',by rw[e]⟩
def sfx(F:List Tn):LU:=F.flatMap fun t=>32::putB t.k t.s t.n
theorem qk:sfx []=[]:=rfl
theorem qp(t:Tn)(F:List Tn):sfx (t::F)=32::putB t.k t.s t.n++sfx F:=rfl
theorem qz(F G:List Tn):sfx (F++G)=sfx F++sfx G:=List.flatMap_append
theorem qh1:∀ F:List Tn,F≠[]->sfx F=32::qt (F.map Tn.b)
 | [],h=>absurd rfl h
 | [t],_=>by rw[qp,qk,List.append_nil];rfl
 | t::u::F,_=>by rw[qp,qh1 (u::F) (by simp)];simp[qt,Tn.b]
theorem zD(x:BA):x.data.toList.length=x.size:=Array.length_toList
theorem qj(x y:BA):(x++y).data.toList=x.data.toList++y.data.toList:=by
 rw[ByteArray.data_append,Array.toList_append]
theorem jX(al:Bool)(F:List Tn):sfx (brkL al F)=if al then sfx F else [32,40]++sfx F++[32,41]:=by
 unfold brkL;split
 ·rfl
 ·rw[List.cons_append,qp,qz,qp,qk]
  show 32::[40]++(sfx F++(32::[41]++[]))=_;simp
theorem QY{k:Int}{s:LU}{n:Int}{l al:Nat}(h:hEf k s n l al=true):(k=1/\l=0/\qh (1,s,n))∨(k=2/\l=0/\qh (3,s,n))∨(k=3/\l=0/\qh (4,s,n))∨(k=4/\l=1/\qh (1,s,n))∨(k=5/\l=2/\s=[]/\n=0)∨(k=6/\l=2/\qh (1,s,n))∨(k=7/\l=2/\qh (1,s,n))∨(k=8/\l=1/\s=[]/\n=0)∨(k=9/\qh (2,s,n))∨(k=10/\((btwB s=true/\l=2/\qh (5,s,n))∨(btwB s=false/\qh (6,s,n)))):=by
 simp only[hEf,Bool.and_eq_true]at h;obtain⟨h0,h1,_⟩:=h;have key:∀ (t c:Int),keepB t c s n l=true->(c = -1∨c=(l:Int))/\((t=0/\s=[]/\n=0)∨(t≠0/\qh (t,s,n))):=fun t c h=>by
  unfold keepB at h;split at h
  ·cases h
  ·rename_i hc
   refine⟨by omega,?_⟩;split at h
   ·rename_i ht
    simp only[Bool.and_eq_true,decide_eq_true_eq]at h;exact .inl ⟨ht,h⟩
   ·rename_i ht
    exact .inr ⟨ht,by simpa [mtB] using h⟩
 have h2:=key _ _ h1;clear h1 key;by_cases e1:k=1
 ·subst e1;simp[exR]at h2;exact .inl ⟨rfl,by omega,h2.2⟩
 by_cases e2:k=2
 ·subst e2;simp[exR]at h2;exact .inr (.inl ⟨rfl,by omega,h2.2⟩)
 by_cases e3:k=3
 ·subst e3;simp[exR]at h2;exact .inr (.inr (.inl ⟨rfl,by omega,h2.2⟩))
 by_cases e4:k=4
 ·subst e4;simp[exR]at h2;exact .inr (.inr (.inr (.inl ⟨rfl,by omega,h2.2⟩)))
 by_cases e5:k=5
 ·subst e5;simp[exR]at h2;exact .inr (.inr (.inr (.inr (.inl ⟨rfl,by omega,h2.2⟩))))
 by_cases e6:k=6
 ·subst e6;simp[exR]at h2;exact .inr (.inr (.inr (.inr (.inr (.inl ⟨rfl,by omega,h2.2⟩)))))
 by_cases e7:k=7
 ·subst e7;simp[exR]at h2;exact .inr (.inr (.inr (.inr (.inr (.inr (.inl ⟨rfl,by omega,h2.2⟩))))))
 by_cases e8:k=8
 ·subst e8;simp[exR]at h2;exact .inr (.inr (.inr (.inr (.inr (.inr (.inr (.inl ⟨rfl,by omega,h2.2⟩)))))))
 by_cases e9:k=9
 ·subst e9;simp[exR]at h2;exact .inr (.inr (.inr (.inr (.inr (.inr (.inr (.inr (.inl ⟨rfl,h2⟩))))))))
 by_cases e10:k=10
 ·subst e10
  refine .inr (.inr (.inr (.inr (.inr (.inr (.inr (.inr (.inr ⟨rfl,?_⟩))))))));by_cases e:btwB s=true
  ·simp[exR,e]at h2;exact .inl ⟨e,by omega,h2.2⟩
  ·simp[exR,e]at h2;exact .inr ⟨by simpa using e,h2⟩
 ·simp[exR,e1,e2,e3,e4,e5,e6,e7,e8,e9,e10]at h0
theorem mt1(s:LU)(n:Int):mtB (1,s,n)=(mtB (1,s,0)&&decide (n=0)):=by
 unfold mtB;by_cases h:n=0
 ·subst h;simp
 ·have:¬ qh (1,s,n):=by rintro (h1 | h1 | h1 | h1 | h1 | h1) <;> simp at h1;exact h h1.2
  simp[this,h]
theorem mt2(s:LU)(n:Int):mtB (2,s,n)=(mtB (2,s,0)&&decide (n=0)):=by
 unfold mtB;by_cases h:n=0
 ·subst h;simp
 ·have:¬ qh (2,s,n):=by rintro (h1 | h1 | h1 | h1 | h1 | h1) <;> simp at h1;exact h h1.2
  simp[this,h]
theorem mt3(s:LU)(n:Int):mtB (3,s,n)=(mtB (3,[],n)&&decide (s=[])):=by
 unfold mtB;by_cases h:s=[]
 ·subst h;simp
 ·have:¬ qh (3,s,n):=by rintro (h1 | h1 | h1 | h1 | h1 | h1) <;> simp at h1;exact h h1.2.2
  simp[this,h]
theorem mt4(s:LU)(n:Int):mtB (4,s,n)=(mtB (4,s,0)&&decide (n=0)):=by
 unfold mtB;by_cases h:n=0
 ·subst h;simp
 ·have:¬ qh (4,s,n):=by rintro (h1 | h1 | h1 | h1 | h1 | h1) <;> simp at h1;exact h h1.2
  simp[this,h]
theorem mt6(s:LU)(n:Int):mtB (6,s,n)=(mtB (6,s,0)&&decide (n=0)):=by
 unfold mtB;by_cases h:n=0
 ·subst h;simp
 ·have:¬ qh (6,s,n):=by rintro (h1 | h1 | h1 | h1 | h1 | h1) <;> simp at h1;exact h h1.2
  simp[this,h]
theorem mt5{s:LU}(h:btwB s=true)(n:Int):mtB (5,s,n)=decide (n=0):=by
 have hs:s∈zC:=by
  have key:∀ s∈btwL,s∈zC:=by decide +kernel
  exact key s (by simpa [btwB] using h)
 unfold mtB;by_cases h:n=0
 ·subst h
  have:qh (5,s,0):= .inr (.inr (.inr (.inr (.inl ⟨rfl,.inr hs,rfl⟩))));simp[this]
 ·have:¬ qh (5,s,n):=by rintro (h1 | h1 | h1 | h1 | h1 | h1) <;> simp at h1;exact h h1.2
  simp[this,h]
theorem mt65{s:LU}(h:btwB s=true)(n:Int):mtB (6,s,n)=false:=by
 have key:∀ s∈btwL,s ∉ qS:=by decide +kernel
 have hs:=key s (by simpa [btwB] using h);unfold mtB;have:¬ qh (6,s,n):=by rintro (h1 | h1 | h1 | h1 | h1 | h1) <;> simp at h1;exact hs h1.1
 simp[this]
open Classical in
theorem nm1(s:LU)(b:Bool):decide (Qx s b)=mtB (if b then 2 else 1,s,0):=by
 unfold mtB;apply decide_eq_decide.2;cases b
 ·constructor
  ·exact fun h=> .inl ⟨rfl,h,rfl⟩
  ·rintro (h1 | h1 | h1 | h1 | h1 | h1) <;> simp at h1
   exact h1
 ·constructor
  ·exact fun h=> .inr (.inl ⟨rfl,h,rfl⟩)
  ·rintro (h1 | h1 | h1 | h1 | h1 | h1) <;> simp at h1
   exact h1
set_option maxHeartbeats 4000000
def Tr.depU:Tr->Nat->Nat
 | .nil,_=>0
 | .nod _ _ _ _ _ _ _,0=>0
 | .arm _ _ _ _ _ _ _,0=>0
 | .nod _ _ _ _ k a r,j+1=>max (1+max k.depth a.depth) (r.depU j)
 | .arm _ _ _ _ k e r,j+1=>max (max (1+k.depth) e.depth) (r.depU j)
theorem Tr.depU_zero(f:Tr):f.depU 0=0:=by cases f <;> rfl
theorem Tr.depU_all:∀ f:Tr,f.depU f.len=f.depth
 | .nil=>rfl
 | .nod _ _ _ _ k a r=>by simp only[Tr.len,Tr.depU,Tr.depth,Tr.depU_all r]
 | .arm _ _ _ _ k e r=>by simp only[Tr.len,Tr.depU,Tr.depth,Tr.depU_all r]
theorem Tr.depU_succ:∀ (f:Tr) (j:Nat),j<f.len->f.depU (j+1)=max (f.depU j) (f.nth j).depth
 | .nil,j,h=>by simp[Tr.len]at h
 | .nod _ _ _ _ k a r,0,_=>by simp only[Tr.depU,Tr.depU_zero,Tr.nth,Tr.depth];omega
 | .arm _ _ _ _ k e r,0,_=>by simp only[Tr.depU,Tr.depU_zero,Tr.nth,Tr.depth];omega
 | .nod _ _ _ _ k a r,j+1,h=>by
  have:=Tr.depU_succ r j (by simp only[Tr.len]at h;omega);simp only[Tr.depU,Tr.nth]at this ⊢;rw[this];omega
 | .arm _ _ _ _ k e r,j+1,h=>by
  have:=Tr.depU_succ r j (by simp only[Tr.len]at h;omega);simp only[Tr.depU,Tr.nth]at this ⊢;rw[this];omega
theorem Zb(a b:Int)(w:World):Calls Tryz.prog 55 #[.int .i64 a,b] w fun e w'=>e=.returned (.int .i64 (max a b))/\Bel w w':=by
 by_cases h:b<a
 ·have hm:max a b=a:=by omega
  rw[hm];go_enter Tryz.func55,Tryz.ntmps55;go_wp2;go_ret;exact⟨rfl,Bel.refl w⟩
 ·have hm:max a b=b:=by omega
  rw[hm];go_enter Tryz.func55,Tryz.ntmps55;go_wp2;go_ret;exact⟨rfl,Bel.refl w⟩
theorem qcc(N:Nat):∀ (k:Int) (s:LU) (n:Int) (p:Pl) (A:OA) (len cap:Nat) (kids:Tr) (w:World),kids.size=N->KidsTr w (OldT w) .pat A len cap kids->kids.size<=1000000 →
  Calls Tryz.prog 77 #[.agg #[.int .u8 k,.string ⟨s.toArray⟩,n,p.a,p.l,p.c,.slice A len cap]] w fun e w'=>e=.returned (.int .i64 ((1+kids.depth:Nat):Int))/\Bel w w':=by
 induction N using Nat.strongRecOn with
 | _ N ih=>
  intro k s n p A len cap kids w hN h hsz;have H:=hid h;have IH:=hid ih;have HL:Hid (len=kids.len):=hid h.1;have HN:=hid hN;have HZ:=hid hsz;have hlen:len<=1000000:=by have:=h.1;have:=kids.len_le;omega
  clear h ih hN hsz;obtain⟨S,hS⟩:=nW (⟨s.toArray⟩:BA);rw[<- hS];clear hS;go_enter Tryz.func77,Tryz.ntmps77;go_wp2_with fail;have q1:=blk1 w (.cells #[.int .u8 k,S,n,p.a,p.l,p.c,.slice A len cap] 59);have hb1:Bel w (w.alloc (.cells #[.int .u8 k,S,n,p.a,p.l,p.c,.slice A len cap] 59)):=(Bel.refl w).alloc _;have hs1:(w.alloc (.cells #[.int .u8 k,S,n,p.a,p.l,p.c,.slice A len cap] 59)).heap.size=w.heap.size+1:=by simp
  obtain⟨w1,hw1⟩:=nW (w.alloc (.cells #[.int .u8 k,S,n,p.a,p.l,p.c,.slice A len cap] 59));rw[<- hw1]at q1 hb1 hs1 ⊢;have HQ:=hid q1;have HB1:=hid hb1;have HS1:=hid hs1;clear q1 hb1 hs1 hw1;go_loopw [3,4] (fun s i wr=>∃ j:Nat,j<=len/\i=.int .i64 (j:Int)/\s=.int .i64 ((kids.depU j:Nat):Int)/\Hid (Bel w1 wr)) (fun _ i _=>len-(intOf i).toNat)
  case atStart=>exact⟨0,Nat.zero_le _,rfl,by rw[Tr.depU_zero];rfl,hid (Bel.refl _)⟩
  case round=>
   obtain⟨j,hj,rfl,rfl,HB⟩:=hrel;have hbx:=(HB.block w.heap.size (by have:=HS1.out;omega)).trans HQ;obtain⟨_,_,_,x6⟩:=qcC hbx;clear hbx;by_cases hlt:j<len
   ·have hkr:KidsTr wr (OldT w) .pat A len cap kids:=H.keep fun i hi=>(HB.block i (Nat.lt_of_lt_of_le hi HB1.size)).trans (HB1.block i hi)
    obtain⟨ub,uo,eA,hob,hfo⟩:=hkr.2.2 (by omega);subst eA;obtain⟨k',s',n',p',kids',ar',en,hd',⟨A',cap',e5,hcp',hk'⟩,har',_⟩:=TrAt.nod_at (by intro e;cases e) kids j ub uo hfo (by rw[<- HL.out];exact hlt);obtain rfl:ar'=.nil:=by
     rcases har' with ⟨e,_⟩ | ⟨_,e⟩
     ·cases e
     ·exact Tr.len0 _ e
    obtain⟨e0,e1,e2,f1,f2,f3⟩:=hd';have hsn:=Tr.nth_size kids j;rw[en]at hsn;simp only[Tr.size]at hsn;have hOld:∀ i,OldT w i->OldT wr i:=fun i hi=>Nat.lt_of_lt_of_le hi (Nat.le_trans HB1.size HB.size);have hK':KidsTr wr (OldT w) .pat A' kids'.len cap' kids':=⟨rfl,hcp',hk'⟩
    have HU:Hid (kids.depU (j+1)=max (kids.depU j) (1+kids'.depth)):=hid (by
     rw[Tr.depU_succ kids j (by rw[<- HL.out];exact hlt),en];simp only[Tr.depth];omega)
    have HC:Hid (Calls Tryz.prog 77 #[.agg #[.int .u8 k',.string ⟨s'.toArray⟩,n',p'.a,p'.l,p'.c,.slice A' kids'.len cap']] wr fun e w'=>e=.returned (.int .i64 ((1+kids'.depth:Nat):Int))/\Bel wr w'):=hid (by
     have hz:=HZ.out;exact IH.out kids'.size (by have:=HN.out;omega) k' s' n' p' A' kids'.len cap' kids' wr rfl (hK'.wide hOld) (by omega))
    obtain⟨z,hz⟩:=nW (((1+kids'.depth:Nat):Int):Int);obtain⟨y,hy⟩:=nW (((kids.depU j:Nat):Int):Int);rw[<- hz]at HC;rw[<- hy];have HZY:=hid (And.intro hz hy);obtain⟨l1,hl1⟩:=nW kids'.len;rw[<- hl1]at e5 HC;have i1:(0:Int)<=(j:Int):=by omega
    have i2:(j:Int)<(len:Int):=by omega
    have HLT:=hid hlt;simp only[Sh.sz,Sh.kd]at e0 e1 e2 e5 f1 f2 f3;clear hkr hfo en hk' hK' hsn hz hy hl1 har' hcp' hOld hob;go_wp2_with fail;refine HC.out.mono ?_;rintro e w2 ⟨rfl,hb2⟩;have HB2:=hid (HB.on hb2);clear hb2 e0 e1 e2 e5 f1 f2 f3 x6;go_wp2_with fail;refine (Zb _ _ _).mono ?_;rintro e w3 ⟨rfl,hb3⟩;have HB3:=hid (HB2.on hb3);clear hb3;go_wp2_with fail;go_roundw
    case rel=>
     refine⟨j+1,HLT,by go_num,?_,HB3⟩;rw[HU.out,HZY.out.1,HZY.out.2];congr 1;omega
    case measure=>exact mS HLT
   ·obtain rfl:j=len:=by omega
    have HE:Hid (((kids.depU j:Nat):Int)+1=((1+kids.depth:Nat):Int)/\kids.depth<=1000000):=hid (by
     rw[HL.out,Tr.depU_all];have:=kids.depth_le;have:=HZ.out;exact⟨by omega,by omega⟩)
    obtain⟨y,hy⟩:=nW (((kids.depU j:Nat):Int):Int);have hy0:0<=y/\y<=1000000:=by have:=HE.out;omega
    rw[<- hy]at HE ⊢;have hw:wrap64 (y+1)=y+1:=IntWalk.wrap64_in _ (by omega);clear hy;go_wp2_with fail;go_ret;exact⟨by rw[HE.out.1];rfl,HB1.on HB⟩
theorem qdU(N:Nat):∀ (k:Int) (s:LU) (n:Int) (p:Pl) (A:OA) (len cap:Nat) (kids:Tr) (w:World),kids.size=N->KidsTr w (OldT w) .ty A len cap kids->kids.size<=1000000 →
  Calls Tryz.prog 56 #[.agg #[.int .u8 k,.string ⟨s.toArray⟩,.int .u8 n,p.a,p.l,p.c,.slice A len cap]] w fun e w'=>e=.returned (.int .i64 ((1+kids.depth:Nat):Int))/\Bel w w':=by
 induction N using Nat.strongRecOn with
 | _ N ih=>
  intro k s n p A len cap kids w hN h hsz;have H:=hid h;have IH:=hid ih;have HL:Hid (len=kids.len):=hid h.1;have HN:=hid hN;have HZ:=hid hsz;have hlen:len<=1000000:=by have:=h.1;have:=kids.len_le;omega
  clear h ih hN hsz;obtain⟨S,hS⟩:=nW (⟨s.toArray⟩:BA);rw[<- hS];clear hS;go_enter Tryz.func56,Tryz.ntmps56;go_wp2_with fail;have q1:=blk1 w (.cells #[.int .u8 k,S,.int .u8 n,p.a,p.l,p.c,.slice A len cap] 43);have hb1:Bel w (w.alloc (.cells #[.int .u8 k,S,.int .u8 n,p.a,p.l,p.c,.slice A len cap] 43)):=(Bel.refl w).alloc _;have hs1:(w.alloc (.cells #[.int .u8 k,S,.int .u8 n,p.a,p.l,p.c,.slice A len cap] 43)).heap.size=w.heap.size+1:=by simp
  obtain⟨w1,hw1⟩:=nW (w.alloc (.cells #[.int .u8 k,S,.int .u8 n,p.a,p.l,p.c,.slice A len cap] 43));rw[<- hw1]at q1 hb1 hs1 ⊢;have HQ:=hid q1;have HB1:=hid hb1;have HS1:=hid hs1;clear q1 hb1 hs1 hw1;go_loopw [3,4] (fun s i wr=>∃ j:Nat,j<=len/\i=.int .i64 (j:Int)/\s=.int .i64 ((kids.depU j:Nat):Int)/\Hid (Bel w1 wr)) (fun _ i _=>len-(intOf i).toNat)
  case atStart=>exact⟨0,Nat.zero_le _,rfl,by rw[Tr.depU_zero];rfl,hid (Bel.refl _)⟩
  case round=>
   obtain⟨j,hj,rfl,rfl,HB⟩:=hrel;have hbx:=(HB.block w.heap.size (by have:=HS1.out;omega)).trans HQ;obtain⟨_,_,_,x6⟩:=qcC hbx;clear hbx;by_cases hlt:j<len
   ·have hkr:KidsTr wr (OldT w) .ty A len cap kids:=H.keep fun i hi=>(HB.block i (Nat.lt_of_lt_of_le hi HB1.size)).trans (HB1.block i hi)
    obtain⟨ub,uo,eA,hob,hfo⟩:=hkr.2.2 (by omega);subst eA;obtain⟨k',s',n',p',kids',ar',en,hd',⟨A',cap',e5,hcp',hk'⟩,har',_⟩:=TrAt.nod_at (by intro e;cases e) kids j ub uo hfo (by rw[<- HL.out];exact hlt);obtain rfl:ar'=.nil:=by
     rcases har' with ⟨e,_⟩ | ⟨_,e⟩
     ·cases e
     ·exact Tr.len0 _ e
    obtain⟨e0,e1,e2,f1,f2,f3⟩:=hd';have hsn:=Tr.nth_size kids j;rw[en]at hsn;simp only[Tr.size]at hsn;have hOld:∀ i,OldT w i->OldT wr i:=fun i hi=>Nat.lt_of_lt_of_le hi (Nat.le_trans HB1.size HB.size);have hK':KidsTr wr (OldT w) .ty A' kids'.len cap' kids':=⟨rfl,hcp',hk'⟩
    have HU:Hid (kids.depU (j+1)=max (kids.depU j) (1+kids'.depth)):=hid (by
     rw[Tr.depU_succ kids j (by rw[<- HL.out];exact hlt),en];simp only[Tr.depth];omega)
    have HC:Hid (Calls Tryz.prog 56 #[.agg #[.int .u8 k',.string ⟨s'.toArray⟩,.int .u8 n',p'.a,p'.l,p'.c,.slice A' kids'.len cap']] wr fun e w'=>e=.returned (.int .i64 ((1+kids'.depth:Nat):Int))/\Bel wr w'):=hid (by
     have hz:=HZ.out;exact IH.out kids'.size (by have:=HN.out;omega) k' s' n' p' A' kids'.len cap' kids' wr rfl (hK'.wide hOld) (by omega))
    obtain⟨z,hz⟩:=nW (((1+kids'.depth:Nat):Int):Int);obtain⟨y,hy⟩:=nW (((kids.depU j:Nat):Int):Int);rw[<- hz]at HC;rw[<- hy];have HZY:=hid (And.intro hz hy);obtain⟨l1,hl1⟩:=nW kids'.len;rw[<- hl1]at e5 HC;have i1:(0:Int)<=(j:Int):=by omega
    have i2:(j:Int)<(len:Int):=by omega
    have HLT:=hid hlt;simp only[Sh.sz,Sh.kd]at e0 e1 e2 e5 f1 f2 f3;clear hkr hfo en hk' hK' hsn hz hy hl1 har' hcp' hOld hob;go_wp2_with fail;refine HC.out.mono ?_;rintro e w2 ⟨rfl,hb2⟩;have HB2:=hid (HB.on hb2);clear hb2 e0 e1 e2 e5 f1 f2 f3 x6;go_wp2_with fail;refine (Zb _ _ _).mono ?_;rintro e w3 ⟨rfl,hb3⟩;have HB3:=hid (HB2.on hb3);clear hb3;go_wp2_with fail;go_roundw
    case rel=>
     refine⟨j+1,HLT,by go_num,?_,HB3⟩;rw[HU.out,HZY.out.1,HZY.out.2];congr 1;omega
    case measure=>exact mS HLT
   ·obtain rfl:j=len:=by omega
    have HE:Hid (((kids.depU j:Nat):Int)+1=((1+kids.depth:Nat):Int)/\kids.depth<=1000000):=hid (by
     rw[HL.out,Tr.depU_all];have:=kids.depth_le;have:=HZ.out;exact⟨by omega,by omega⟩)
    obtain⟨y,hy⟩:=nW (((kids.depU j:Nat):Int):Int);have hy0:0<=y/\y<=1000000:=by have:=HE.out;omega
    rw[<- hy]at HE ⊢;have hw:wrap64 (y+1)=y+1:=IntWalk.wrap64_in _ (by omega);clear hy;go_wp2_with fail;go_ret;exact⟨by rw[HE.out.1];rfl,HB1.on HB⟩
end Go.Proofs.YtmloadclmjcbbaaGreatDoor.Mu
