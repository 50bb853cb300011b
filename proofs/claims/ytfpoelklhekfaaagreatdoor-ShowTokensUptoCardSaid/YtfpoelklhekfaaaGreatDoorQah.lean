import Derived.OrdersHeld
import Derived.StillTail
import Derived.Deep.RegionHeld3
import Derived.Laws.Entries
import Derived.Test.YtfpoelklhekfaaaGreatDoorQad
namespace Go.Proofs.YtfpoelklhekfaaaGreatDoor.Mu
open Go
section
variable {P : Program} {ops : Array Oper} {Q : Exit -> Act -> World -> Prop} {md : Region.Mode} {S : World -> Prop}
def wpT(P:Program)(md:Region.Mode)(ops:Array Oper)(Q:Exit->Act->World->Prop)(S:World->Prop)(n:Nat)(L:Array Bool->Act->World->Prop):Nat->Array Bool->Act->World->Prop
 | 0,listed,a,w=>L listed a w
 | f+1,listed,a,w=>Region.ready md ops listed≠[]/\∀ i∈Region.ready md ops listed,i<n/\wpOp P ops Q i (fun a' w'=>S w'/\wpT P md ops Q S n L f (listed.setIfInBounds i true) a' w') a w
theorem ZT{n g:Nat}{L:Array Bool->Act->World->Prop}(hL:∀ listed a w,L listed a w->wpAny P md ops Q g listed a w) :
  ∀ (f:Nat) (listed:Array Bool) (a:Act) (w:World),wpT P md ops Q S n L f listed a w->wpAny P md ops Q (f+g) listed a w
 | 0,listed,a,w,h=>by rw[Nat.zero_add];exact hL _ _ _ h
 | f+1,listed,a,w,h=>by
  rw[show f+1+g=(f+g)+1 by omega];exact⟨fun h0=>absurd h0 h.1,fun i hi=>wpOp_mono (fun a' w' h'=>ZT hL f _ a' w' h'.2) (h.2 i hi).2⟩
def zC(md:Region.Mode)(ops:Array Oper)(n:Nat):Bool:=Region.noSelect ops&&decide (n<ops.size)&&Region.sinkB md ops n&&Region.chainB md ops n
def LT(P:Program)(l:List Oper)(Q:Exit->Act->World->Prop)(n:Nat)(listed:Array Bool)(a:Act)(w:World):Prop:=
 Region.seqB .any l.toArray (l.length-n) n listed=true/\wpList P l.toArray Q (l.drop n) a w
theorem qhm{id:Nat}{a:Act}{w:World}{l:List Oper}(n:Nat)(hm:P.follows .mixedOrders=true)(hB:zC .any l.toArray n=true)
  (h:S w.drew->wpT P .any l.toArray Q S n (LT P l Q n) n (Array.replicate l.length false) a w.drew) (hS:S w.drew):(Code.region id l.toArray true).wp P Q a w:=by
 simp only[zC,Bool.and_eq_true,decide_eq_true_eq]at hB;obtain⟨⟨⟨_,hn⟩,_⟩,_⟩:=hB;have hn':n<l.length:=by simpa using hn
 refine wp_region_any hm ?_;have hdl:(l.drop n).length=l.length-n:=by simp
 have:=ZT (Q:=Q) (g:=l.length-n) (fun listed a' w' hL=>by
  have:=wpAny_of_seq (md:= .any) (Q':=Q) (l.drop n) n listed a' w' (fun j=>by simp[List.getElem?_drop]) (by rw[hdl];exact hL.1) hL.2;rwa [hdl]at this) _ _ _ _ (h hS)
 rw[show n+(l.length-n)=l.length by omega]at this;simpa using this
end
end Go.Proofs.YtfpoelklhekfaaaGreatDoor.Mu
namespace Go.Proofs.YtfpoelklhekfaaaGreatDoor.Mu
open Go
def cntG:Nat->Array Bool->Nat
 | 0,_=>0
 | n+1,l=>cntG n l+if l.getD n true then 0 else 1
theorem qcI{n i:Nat}{l:Array Bool}(h:n<=i):cntG n (l.setIfInBounds i true)=cntG n l:=by
 induction n with
 | zero=>rfl
 | succ n ih=>simp only[cntG];rw[ih (by omega),getD_set_ne true (by omega)]
theorem qba{n i:Nat}{l:Array Bool}(h:i<n)(hs:i<l.size)(hu:l.getD i true=false):cntG n (l.setIfInBounds i true)+1=cntG n l:=by
 induction n with
 | zero=>omega
 | succ n ih=>
  simp only[cntG];by_cases e:i=n
  ·subst e
   rw[qcI (Nat.le_refl _),hu];simp[hs]
  ·have:=ih (by omega)
   rw[getD_set_ne true e];omega
theorem Jy{n:Nat}{l:Array Bool}(h:cntG n l=0):∀ i,i<n->l.getD i true=true:=by
 induction n with
 | zero=>intro i hi;omega
 | succ n ih=>
  simp only[cntG]at h;intro i hi;by_cases e:i=n
  ·subst e
   by_cases hb:l.getD i true=true
   ·exact hb
   ·rw[if_neg hb]at h;omega
  ·exact ih (by omega) i (by omega)
theorem qa9{n:Nat}{l:Array Bool}(h:0<cntG n l):∃ i,i<n/\l.getD i true=false:=by
 induction n with
 | zero=>simp[cntG]at h
 | succ n ih=>
  simp only[cntG]at h;by_cases hb:l.getD n true=true
  ·rw[if_pos hb]at h
   obtain⟨i,hi,hu⟩:=ih (by omega);exact⟨i,by omega,hu⟩
  ·exact⟨n,by omega,by simpa using hb⟩
theorem Qv{n m:Nat}(h:n<=m):cntG n (Array.replicate m false)=n:=by
 induction n with
 | zero=>rfl
 | succ n ih=>simp only[cntG];rw[ih (by omega),getD_in (by simp;omega) (getD_replicate_false _ _)];simp
def fwdB(ops:Array Oper)(n:Nat):Bool:=(List.range n).all fun i=>((ops[i]?).map fun o=>o.after.all fun e=>!Region.binds .any e || decide (e.on<i)).getD false
theorem JL{ops:Array Oper}{n i:Nat}{listed:Array Bool}(h:fwdB ops n=true)(hi:i<n)(hu:listed.getD i true=false)(hl:∀ j,j<i->listed.getD j true=true)(hsz:n<=listed.size):i∈Region.ready .any ops listed:=by
 have h1:=List.all_eq_true.1 h i (List.mem_range.2 hi);cases ho:ops[i]? with
 | none=>rw[ho]at h1;cases h1
 | some o=>
  rw[ho]at h1;simp only[Option.map_some,Option.getD_some]at h1;refine mem_ready.2 ⟨hu,o,ho,fun e he hb=>?_⟩;have h2:=Array.all_eq_true'.1 h1 e he;rw[hb]at h2;simp only[Bool.not_true,Bool.false_or,decide_eq_true_eq]at h2;have h3:=hl e.on h2;have h4:e.on<listed.size:=by omega
  simp[h4]at h3 ⊢;exact h3
section
variable {P : Program} {Q : Exit -> Act -> World -> Prop}
theorem Qe{l:List Oper}{n:Nat}(I:Array Bool->Act->World->Prop)(hB:zC .any l.toArray n=true)(hf:fwdB l.toArray n=true)(hq:Region.seqB .any l.toArray (l.length-n) n (Array.replicate n true++Array.replicate (l.length-n) false)=true)
  (hstep:∀ listed a w i,HeadInv .any l.toArray n listed->I listed a w->i<n->listed.getD i true=false->i∈Region.ready .any l.toArray listed->wpOp P l.toArray Q i (I (listed.setIfInBounds i true)) a w)
  (hend:∀ listed a w,I listed a w->(∀ i,i<n->listed.getD i false=true)->wpList P l.toArray Q (l.drop n) a w) :
  ∀ (c:Nat) (listed:Array Bool) (a:Act) (w:World),cntG n listed=c->HeadInv .any l.toArray n listed->I listed a w->wpAny P .any l.toArray Q (c+(l.length-n)) listed a w:=by
 simp only[zC,Bool.and_eq_true,decide_eq_true_eq]at hB;obtain⟨⟨⟨_,hn⟩,hs⟩,hc⟩:=hB;have hn':n<l.length:=by simpa using hn
 intro c;induction c with
 | zero=>
  intro listed a w hc0 inv hI;have hall:=Jy hc0;have hsz:listed.size=l.length:=by simpa using inv.size
  have e:listed=Array.replicate n true++Array.replicate (l.length-n) false:=by
   apply Array.ext
   ·simp[hsz];omega
   ·intro i h1 h2
    by_cases hi:i<n
    ·have:=hall i hi
     rw[Array.getElem_append_left (by simpa using hi)];simpa [h1] using this
    ·have:=inv.tail i (by omega) (by simpa [hsz] using h1)
     rw[Array.getElem_append_right (by simp;omega)];simpa [h1] using this
  have hdl:(l.drop n).length=l.length-n:=by simp
  have h:=wpAny_of_seq (md:= .any) (Q':=Q) (l.drop n) n listed a w (fun j=>by simp[List.getElem?_drop]) (by rw[hdl,e];exact hq) (hend listed a w hI fun i hi=>by
   have h1:=hall i hi;have h2:i<listed.size:=by omega
   simp[h2]at h1 ⊢;exact h1)
  rw[hdl]at h;rw[Nat.zero_add];exact h
 | succ c ih=>
  intro listed a w hcc inv hI;obtain⟨i0,hi0,hu0⟩:=qa9 (show 0<cntG n listed by omega);have hnot:=tail_waits hs hc hn inv _ i0 rfl hi0 hu0;rw[show c+1+(l.length-n)=(c+(l.length-n))+1 by omega];refine⟨fun hr=>?_,fun i hi=>?_⟩
  · --the first that is not listed is ready
   exfalso
   have hmin:∃ i,i<n/\listed.getD i true=false/\∀ j,j<i->listed.getD j true=true:=by
    have key:∀ m,(∃ i,i<m/\listed.getD i true=false)->∃ i,i<m/\listed.getD i true=false/\∀ j,j<i->listed.getD j true=true:=by
     intro m;induction m with
     | zero=>rintro⟨i,hi,_⟩;omega
     | succ m ihm=>
      rintro⟨i,hi,hu⟩;by_cases hex:∃ i,i<m/\listed.getD i true=false
      ·obtain⟨i,hi,h⟩:=ihm hex
       exact⟨i,by omega,h⟩
      ·obtain rfl:i=m:=by
        by_cases e:i=m
        ·exact e
        ·exact absurd ⟨i,by omega,hu⟩ hex
       refine⟨i,hi,hu,fun j hj=>?_⟩;by_cases hb:listed.getD j true=true
       ·exact hb
       ·exact absurd ⟨j,hj,by simpa using hb⟩ hex
    exact key n ⟨i0,hi0,hu0⟩
   obtain⟨i,hi,hu,hless⟩:=hmin;have h:=JL hf hi hu hless (by have:=inv.size;simp at this;omega);rw[hr]at h;cases h
  ·have hin:i<n:=by
    rcases Nat.lt_or_ge i n with h | h
    ·exact h
    ·exact absurd hi (hnot i h)
   have hun:=(mem_ready.1 hi).1;have hsz:i<listed.size:=by have:=inv.size;simp at this;omega
   refine wpOp_mono (fun a' w' h'=>ih _ a' w' ?_ (inv.set hi hin) h') (hstep listed a w i inv hI hin hun hi);have:=qba hin hsz hun;omega
def qP(ops:Array Oper)(s:Nat):Option Nat:=(List.range ops.size).find? fun i=>((ops[i]?).bind (·.dst))==some s
def qN(ops:Array Oper)(size:Nat):Bool:=(List.range ops.size).all fun i=>match (ops[i]?).bind (·.dst) with
 | some d=>(qP ops d==some i)&&decide (d<size)
 | none=>true
theorem ZK{ops:Array Oper}{size i d:Nat}(h:qN ops size=true)(hd:(ops[i]?).bind (·.dst)=some d):qP ops d=some i/\d<size:=by
 have hi:i<ops.size:=by
  rcases Nat.lt_or_ge i ops.size with h' | h'
  ·exact h'
  ·rw[Array.getElem?_eq_none h']at hd;cases hd
 have:=List.all_eq_true.1 h i (List.mem_range.2 hi);rw[hd]at this;simpa using this
def Filled(ops:Array Oper)(listed:Array Bool)(V:Nat->Value)(a0 a:Act):Prop:=
 a.defers=a0.defers/\a.tmps.size=a0.tmps.size/\∀ s,s<a0.tmps.size->a.tmps.getD s undef=match qP ops s with
  | some i=>if listed.getD i false then V i else a0.tmps.getD s undef
  | none=>a0.tmps.getD s undef
theorem Filled.eval{ops:Array Oper}{listed:Array Bool}{V:Nat->Value}{a0 a:Act}(h:Filled ops listed V a0 a)(hB:qN ops a0.tmps.size=true){i d:Nat}(hi:listed.getD i false=true)(hd:(ops[i]?).bind (·.dst)=some d):a.eval (.tmp d)=V i:=by
 obtain⟨h1,h2⟩:=ZK hB hd;show a.tmps.getD d undef=V i
 rw[h.2.2 d h2,h1];simp only[hi,if_true]
theorem Filled.par{ops:Array Oper}{listed:Array Bool}{V:Nat->Value}{a0 a:Act}(h:Filled ops listed V a0 a){s:Nat}(hs:qP ops s=none)(hlt:s<a0.tmps.size):a.eval (.tmp s)=a0.eval (.tmp s):=by
 show a.tmps.getD s undef=a0.tmps.getD s undef
 rw[h.2.2 s hlt,hs]
theorem Filled.put{ops:Array Oper}{listed:Array Bool}{V:Nat->Value}{a0 a:Act}{i:Nat}{o:Oper}(h:Filled ops listed V a0 a)(hB:qN ops a0.tmps.size=true)(ho:ops[i]?=some o)(hsz:i<listed.size)(v:Value) :
  Filled ops (listed.setIfInBounds i true) (fun j=>if j=i then v else V j) a0 (a.put o.dst v):=by
 have hset:∀ j,(listed.setIfInBounds i true).getD j false=if j=i then true else listed.getD j false:=fun j=>by
  by_cases e:j=i
  ·subst e;simp[hsz]
  ·rw[getD_set_ne false (fun e'=>e e'.symm),if_neg e]
 cases hd:o.dst with
 | none=>
  refine⟨h.1,h.2.1,fun s hs=>?_⟩;show a.tmps.getD s undef=_
  rw[h.2.2 s hs];cases hk:qP ops s with
  | none=>rfl
  | some k=>
   have hne:k≠i:=by
    rintro rfl;have:=List.find?_some hk;simp[ho,hd]at this
   simp only[hset,if_neg hne]
 | some d=>
  obtain⟨h1,h2⟩:=ZK hB (show (ops[i]?).bind (·.dst)=some d by rw[ho];exact hd);refine⟨h.1,by show (a.tmps.setIfInBounds d v).size=_;rw[Array.size_setIfInBounds];exact h.2.1,fun s hs=>?_⟩;show (a.tmps.setIfInBounds d v).getD s undef=_
  by_cases e:s=d
  ·subst e
   rw[h1];have:s<a.tmps.size:=by rw[h.2.1];exact hs
   simp[hset,this]
  ·rw[Array.getD_eq_getD_getElem?,Array.getElem?_setIfInBounds_ne (fun e'=>e e'.symm),<- Array.getD_eq_getD_getElem?,h.2.2 s hs]
   cases hk:qP ops s with
   | none=>rfl
   | some k=>
    have hne:k≠i:=by
     rintro rfl;have:=List.find?_some hk;simp[ho,hd]at this;exact e this.symm
    simp only[hset,if_neg hne]
def finA(ops:Array Oper)(n:Nat)(V:Nat->Value)(a0:Act):Act:=
 { tmps:=((List.range a0.tmps.size).map fun s=>match qP ops s with
   | some i=>if i<n then V i else a0.tmps.getD s undef
   | none=>a0.tmps.getD s undef).toArray,defers:=a0.defers }
theorem Filled.fin{ops:Array Oper}{listed:Array Bool}{V:Nat->Value}{a0 a:Act}{n:Nat}(h:Filled ops listed V a0 a)(hall:∀ i,i<n->listed.getD i false=true)(htail:∀ i,n<=i->listed.getD i false=false):a=finA ops n V a0:=by
 obtain⟨h1,h2,h3⟩:=h;cases a with
 | mk tmps defers=>
  simp only at h1 h2 h3;subst h1;unfold finA;congr 1
  apply Array.ext
  ·simp[h2]
  ·intro s hs1 hs2
   have:=h3 s (by omega);rw[Array.getD_eq_getD_getElem?,Array.getElem?_eq_getElem hs1,Option.getD_some]at this;rw[this];simp only[List.getElem_toArray,List.getElem_map,List.getElem_range];cases hk:qP ops s with
   | none=>rfl
   | some k=>
    by_cases hkn:k<n
    ·simp only[hall k hkn,if_true,if_pos hkn]
    ·simp only[htail k (by omega),Bool.false_eq_true,if_false,if_neg hkn]
def ext(own:Nat->Nat)(w:World)(i:Nat):Nat->Nat:=fun x=>if x<w.heap.size then own x else i
theorem qfG{id:Nat}{l:List Oper}(n:Nat)(a0:Act)(w0:World)(F:Nat->Value->World->(Nat->Nat)->Prop)(hm:P.follows .mixedOrders=true)(hB:zC .any l.toArray n=true)(hf:fwdB l.toArray n=true)(hsl:qN l.toArray a0.tmps.size=true)
  (hq:Region.seqB .any l.toArray (l.length-n) n (Array.replicate n true++Array.replicate (l.length-n) false)=true)
  (hmono:∀ i v w w' own own',i<n->F i v w own->Bel w w'->(∀ x,x<w.heap.size->own' x=own x)->F i v w' own')
  (hstep:∀ i o,i<n->l.toArray[i]?=some o->∀ (a:Act) (w:World) (own:Nat->Nat) (V:Nat->Value),Bel w0.drew w →
   (∀ e∈o.after,Region.binds .any e=true->F e.on (V e.on) w own/\∀ d,(l.toArray[e.on]?).bind (·.dst)=some d->a.eval (.tmp d)=V e.on)->(∀ s,s<a0.tmps.size->qP l.toArray s=none->a.eval (.tmp s)=a0.eval (.tmp s)) →
   ∀ K:Act->World->Prop,(∀ v w',Bel w w'->F i v w' (ext own w i)->K (a.put o.dst v) w')->o.guard=none/\Oper.wp P o a w K Q)
  (hend:∀ (V:Nat->Value) (w:World) (own:Nat->Nat),Bel w0.drew w->(∀ i,i<n->F i (V i) w own)->wpList P l.toArray Q (l.drop n) (finA l.toArray n V a0) w) :
  (Code.region id l.toArray true).wp P Q a0 w0:=by
 have hn':n<l.length:=by
  simp only[zC,Bool.and_eq_true,decide_eq_true_eq]at hB;simpa using hB.1.1.2
 refine wp_region_any hm ?_;have inv0:HeadInv .any l.toArray n (Array.replicate l.length false):=
  ⟨by simp,fun j oj _ hl=>(by rw[getD_replicate_false]at hl;cases hl),fun t _ ht=>getD_in (by simpa using ht) (getD_replicate_false _ _)⟩
 have key:=Qe (P:=P) (Q:=Q) (l:=l) (n:=n) (fun listed a w=>listed.size=l.length/\(∀ t,n<=t->listed.getD t false=false)/\Bel w0.drew w/\∃ (V:Nat->Value) (own:Nat->Nat),Filled l.toArray listed V a0 a/\∀ i,i<n->listed.getD i false=true->F i (V i) w own) hB hf hq ?_ ?_ n (Array.replicate l.length false) a0 w0.drew (Qv (by omega)) inv0 ⟨by simp,fun t _=>getD_replicate_false _ _,Bel.refl _,fun _=>undef,fun _=>0,⟨rfl,rfl,fun s hs=>by cases qP l.toArray s <;> simp only[getD_replicate_false,Bool.false_eq_true,if_false]⟩,fun i _ hi=>by rw[getD_replicate_false]at hi;cases hi⟩
 ·have e:n+(l.length-n)=l.length:=by omega
  rw[e]at key;simpa using key
 ·rintro listed a w i inv ⟨hsz,htl,hbel,V,own,hfill,hF⟩ hin hun hr
  obtain⟨_,o,ho,hall⟩:=mem_ready.1 hr;have hK:=hstep i o hin ho a w own V hbel (fun e he hb=>by
   have hl:=hall e he hb;have hen:e.on<n:=by
    rcases Nat.lt_or_ge e.on n with h | h
    ·exact h
    ·rw[htl _ h]at hl;cases hl
   exact⟨hF _ hen hl,fun d hd=>hfill.eval hsl hl hd⟩) (fun s hs hn=>hfill.par hn hs)
   (fun a' w'=>(listed.setIfInBounds i true).size=l.length/\(∀ t,n<=t->(listed.setIfInBounds i true).getD t false=false)/\Bel w0.drew w'/\∃ (V:Nat->Value) (own:Nat->Nat),Filled l.toArray (listed.setIfInBounds i true) V a0 a'/\∀ j,j<n->(listed.setIfInBounds i true).getD j false=true->F j (V j) w' own)
   (fun v w' hb hFi=>⟨by simpa using hsz,fun t ht=>by rw[getD_set_ne false (by omega)];exact htl t ht,hbel.on hb,fun j=>if j=i then v else V j,ext own w i,hfill.put hsl ho (by omega) v,fun j hj hl=>by
    by_cases e:j=i
    ·subst e;simp only[if_true];exact hFi
    ·simp only[if_neg e]
     rw[getD_set_ne false (fun e'=>e e'.symm)]at hl;exact hmono j _ w w' own _ hj (hF j hj hl) hb (fun x hx=>by simp[ext,hx])⟩)
  unfold wpOp;simp only[ho];rw[if_pos (by simp[Region.wanted,hK.1])];exact .inl hK.2
 ·rintro listed a w ⟨hsz,htl,hbel,V,own,hfill,hF⟩ hall
  rw[hfill.fin hall htl];exact hend V w own hbel fun i hi=>hF i hi (hall i hi)
end
end Go.Proofs.YtfpoelklhekfaaaGreatDoor.Mu
namespace Go.Proofs.YtfpoelklhekfaaaGreatDoor.Mu
open Go Go.RowKit
theorem zc{P:Program}{o:Oper}{a:Act}{w w':World}{K:Act->World->Prop}{Q:Exit->Act->World->Prop}{v:Value}(h:(execOp a.eval o).run P w=.ok (.value v) w')(hk:K (a.put o.dst v) w'):Oper.wp P o a w K Q:=by
 unfold Oper.wp;rw[h];exact hk
end Go.Proofs.YtfpoelklhekfaaaGreatDoor.Mu
namespace Go.Proofs.YtfpoelklhekfaaaGreatDoor.Mu
open Go
theorem yields{ops:Array Oper}{tmps:Array Value}{j d:Nat}{b:Bool}(hd:(ops[j]?).bind (·.dst)=some d)(h:tmps.getD d undef=.bool b):yielded ops tmps j=some b:=by
 unfold yielded;rw[hd];rw[Array.getD_eq_getD_getElem?]at h;cases h':tmps[d]? with
 | none=>rw[h']at h;cases h
 | some x=>rw[h']at h;simp only[Option.getD_some]at h;subst h;simp[h']
section
variable {P : Program} {Q : Exit -> Act -> World -> Prop}
theorem qq{id:Nat}{l:List Oper}(n:Nat)(a0:Act)(w0:World)(F:Nat->Value->World->Prop)(hm:P.follows .mixedOrders=true)(hB:zC .any l.toArray n=true)(hf:fwdB l.toArray n=true)(hsl:qN l.toArray a0.tmps.size=true)
  (hq:Region.seqB .any l.toArray (l.length-n) n (Array.replicate n true++Array.replicate (l.length-n) false)=true)
  (hmono:∀ i v w w',i<n->F i v w->Bel w w'->F i v w')
  (hstep:∀ i o,i<n->l.toArray[i]?=some o->∀ (a:Act) (w:World) (V:Nat->Value),Bel w0.drew w →
   (∀ e∈o.after,Region.binds .any e=true->F e.on (V e.on) w/\∀ d,(l.toArray[e.on]?).bind (·.dst)=some d->a.eval (.tmp d)=V e.on)->(∀ s,s<a0.tmps.size->qP l.toArray s=none->a.eval (.tmp s)=a0.eval (.tmp s)) →
   ∀ K:Act->World->Prop,(∀ v w',Bel w w'->F i v w'->K (a.put o.dst v) w')->(Region.wanted o (yielded l.toArray a.tmps)=true->Oper.wp P o a w K Q)/\(Region.wanted o (yielded l.toArray a.tmps)=false->F i undef w))
  (hend:∀ (V:Nat->Value) (w:World),Bel w0.drew w->(∀ i,i<n->F i (V i) w)->wpList P l.toArray Q (l.drop n) (finA l.toArray n V a0) w) :
  (Code.region id l.toArray true).wp P Q a0 w0:=by
 have hn':n<l.length:=by
  simp only[zC,Bool.and_eq_true,decide_eq_true_eq]at hB;simpa using hB.1.1.2
 refine wp_region_any hm ?_;have inv0:HeadInv .any l.toArray n (Array.replicate l.length false):=
  ⟨by simp,fun j oj _ hl=>(by rw[getD_replicate_false]at hl;cases hl),fun t _ ht=>getD_in (by simpa using ht) (getD_replicate_false _ _)⟩
 have key:=Qe (P:=P) (Q:=Q) (l:=l) (n:=n) (fun listed a w=>listed.size=l.length/\(∀ t,n<=t->listed.getD t false=false)/\Bel w0.drew w/\∃ (V:Nat->Value),Filled l.toArray listed V a0 a/\∀ i,i<n->listed.getD i false=true->F i (V i) w) hB hf hq ?_ ?_ n (Array.replicate l.length false) a0 w0.drew (Qv (by omega)) inv0 ⟨by simp,fun t _=>getD_replicate_false _ _,Bel.refl _,fun _=>undef,⟨rfl,rfl,fun s hs=>by cases qP l.toArray s <;> simp only[getD_replicate_false,Bool.false_eq_true,if_false]⟩,fun i _ hi=>by rw[getD_replicate_false]at hi;cases hi⟩
 ·have e:n+(l.length-n)=l.length:=by omega
  rw[e]at key;simpa using key
 ·rintro listed a w i inv ⟨hsz,htl,hbel,V,hfill,hF⟩ hin hun hr
  obtain⟨_,o,ho,hall⟩:=mem_ready.1 hr;have hKK:∀ v w',Bel w w'->F i v w'->(listed.setIfInBounds i true).size=l.length/\(∀ t,n<=t->(listed.setIfInBounds i true).getD t false=false)/\Bel w0.drew w'/\∃ (V:Nat->Value),Filled l.toArray (listed.setIfInBounds i true) V a0 (a.put o.dst v)/\∀ j,j<n->(listed.setIfInBounds i true).getD j false=true->F j (V j) w':=
   fun v w' hb hFi=>⟨by simpa using hsz,fun t ht=>by rw[getD_set_ne false (by omega)];exact htl t ht,hbel.on hb,fun j=>if j=i then v else V j,hfill.put hsl ho (by omega) v,fun j hj hl=>by
    by_cases e:j=i
    ·subst e;simp only[if_true];exact hFi
    ·simp only[if_neg e]
     rw[getD_set_ne false (fun e'=>e e'.symm)]at hl;exact hmono j _ w w' hj (hF j hj hl) hb⟩
  have hK:=hstep i o hin ho a w V hbel (fun e he hb=>by
   have hl:=hall e he hb;have hen:e.on<n:=by
    rcases Nat.lt_or_ge e.on n with h | h
    ·exact h
    ·rw[htl _ h]at hl;cases hl
   exact⟨hF _ hen hl,fun d hd=>hfill.eval hsl hl hd⟩) (fun s hs hn=>hfill.par hn hs)
   (fun a' w'=>(listed.setIfInBounds i true).size=l.length/\(∀ t,n<=t->(listed.setIfInBounds i true).getD t false=false)/\Bel w0.drew w'/\∃ (V:Nat->Value),Filled l.toArray (listed.setIfInBounds i true) V a0 a'/\∀ j,j<n->(listed.setIfInBounds i true).getD j false=true->F j (V j) w')
   hKK
  unfold wpOp;simp only[ho];by_cases hw:Region.wanted o (yielded l.toArray a.tmps)=true
  ·rw[if_pos hw]
   exact .inl (hK.1 hw)
  ·rw[if_neg hw]
   exact hKK undef w (Bel.refl _) (hK.2 (by simpa using hw))
 ·rintro listed a w ⟨hsz,htl,hbel,V,hfill,hF⟩ hall
  rw[hfill.fin hall htl];exact hend V w hbel fun i hi=>hF i hi (hall i hi)
end
theorem qaW{ops:Array Oper}{tmps:Array Value}{o:Oper}(hg:o.guard=none):Region.wanted o (yielded ops tmps)=true:=by
 simp[Region.wanted,hg]
theorem qew{ops:Array Oper}{tmps:Array Value}{o:Oper}{j d:Nat}{g b:Bool}(hg:o.guard=some (j,g))(hd:(ops[j]?).bind (·.dst)=some d)(h:tmps.getD d undef=.bool b):Region.wanted o (yielded ops tmps)=(b==g):=by
 have:=yields hd h;cases b <;> cases g <;> simp[Region.wanted,hg,this]
theorem yw_t{ops:Array Oper}{tmps:Array Value}{o:Oper}{j d:Nat}(hg:o.guard=some (j,true))(hd:(ops[j]?).bind (·.dst)=some d)(h:tmps.getD d undef=.bool true)(hw:Region.wanted o (yielded ops tmps)=false):False:=by
 rw[qew hg hd h]at hw;cases hw
theorem yw_n{ops:Array Oper}{tmps:Array Value}{o:Oper}(hg:o.guard=none)(hw:Region.wanted o (yielded ops tmps)=false):False:=by
 rw[qaW hg]at hw;cases hw
theorem qi{P:Program}{o:Oper}{a:Act}{w:World}{K:Act->World->Prop}{Q:Exit->Act->World->Prop}{f:FuncId}{args:Array Value}(hrun:(execOp a.eval o).run P w=.ok (.enter f args) w)
  (h:Calls P f args w fun e w'=>∃ v,e=.returned v/\K (a.put o.dst v) w'):Oper.wp P o a w K Q:=by
 unfold Oper.wp;rw[hrun];refine h.mono ?_;rintro e w' ⟨v,rfl,hk⟩;exact hk
end Go.Proofs.YtfpoelklhekfaaaGreatDoor.Mu
namespace Go.Proofs.YtfpoelklhekfaaaGreatDoor.Mu
open Go Go.RowKit Go.Shelf
attribute [local go_sem] Oper.semAt_some
set_option linter.unusedVariables false
end Go.Proofs.YtfpoelklhekfaaaGreatDoor.Mu
namespace Go.Proofs.YtfpoelklhekfaaaGreatDoor.Mu
open Go.RowKit Go.Shelf
set_option maxRecDepth 100000
end Go.Proofs.YtfpoelklhekfaaaGreatDoor.Mu
namespace Go.Proofs.YtfpoelklhekfaaaGreatDoor.Mu
open Go
theorem gT{α:Type _}{l:List α}{i:Nat}:l.toArray[i]?=l[i]?:=List.getElem?_toArray
theorem gZ{α:Type _}{a:α}{l:List α}:(a::l)[0]?=some a:=List.getElem?_cons_zero
theorem gS{α:Type _}{a:α}{l:List α}{i:Nat}:(a::l)[i+1]?=l[i]?:=List.getElem?_cons_succ
theorem gI{α:Type _}{a b:α}:(some a=some b)=(a=b):=Option.some.injEq a b
theorem tD{a:Act}{t:Nat}{v:Value}(h:a.eval (.tmp t)=v):a.tmps[t]?.getD undef=v:=by
 simp only[Act.eval,Array.getD_eq_getD_getElem?]at h;exact h
theorem tK{a:Act}{t:Nat}{x v:Value}{R:Nat → Prop}(h:(x=v) ∧ ∀ d,R d → a.eval (.tmp d)=x)(r:R t):a.tmps[t]?.getD undef=v:=tD ((h.2 t r).trans h.1)
theorem tE{a:Act}{t:Nat}{x v:Value}{R:Nat → Prop}(h:(x=v) ∧ ∀ d,R d → a.eval (.tmp d)=x)(r:R t):a.eval (.tmp t)=v:=(h.2 t r).trans h.1
theorem nG{ops:Array Oper}{tmps:Array Value}{o:Oper}{A B:Prop}(hg:o.guard=none)(h:A):(Region.wanted o (yielded ops tmps)=true → A) ∧ (Region.wanted o (yielded ops tmps)=false → B):=
 ⟨fun _=>h,fun hw=>(yw_n hg hw).elim⟩
theorem gX{w w1:World}{b o:Nat}{x:Value}(hb:Bel w w1)(h:b<w.heap.size)(f:w.cell? ⟨b,o,none⟩=some x):w1.cell? ⟨b,o,none⟩=some x:=
 (hb.cell (p:=⟨b,o,none⟩) h).trans f
theorem wV{P:Program}{o:Oper}{a:Act}{w:World}{K:Act → World → Prop}{Q:Exit → Act → World → Prop}{v:Value}{S:Value → World → Prop}(h:(execOp a.eval o).run P w=.ok (.value v) w)(hK:∀ (v:Value) (w':World),Bel w w' → S v w' → K (a.put o.dst v) w')(r:S v w):Oper.wp P o a w K Q:=
 zc h (hK v w (Bel.refl w) r)
end Go.Proofs.YtfpoelklhekfaaaGreatDoor.Mu
