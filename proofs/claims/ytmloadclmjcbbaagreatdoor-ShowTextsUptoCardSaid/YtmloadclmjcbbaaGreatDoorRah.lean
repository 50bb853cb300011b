import Derived.Test.YtmloadclmjcbbaaGreatDoorRag
open Go.Lib (hid)
namespace Go.Proofs.YtmloadclmjcbbaaGreatDoor.Mu
open Go Go.RowKit Go.Shelf
attribute [local go_sem] Oper.semAt_some
set_option linter.unusedVariables false
set_option maxRecDepth 100000
def Tr.hds(q:Tr->Tr->Bool):Tr->Tr->Bool
 | .nil,.nil=>true
 | .nod k s n _ _ b r,.nod k' s' n' _ _ b' r'=>decide (k=k')&&decide (s=s')&&decide (n=n')&&q b b'&&r.hds q r'
 | _,_=>false
def Tr.kidsSame:Tr->Tr->Bool
 | .nod _ _ _ _ a b r,.nod _ _ _ _ a' b' r'=>(a.app b.exs).same (a'.app b'.exs)&&r.kidsSame r'
 | _,_=>true
theorem Tr.app_same:∀ a a' x x':Tr,x.len=x'.len->((a.app x).same (a'.app x')=(a.same a'&&x.same x'))
 | .nil,.nil,x,x',_=>by simp[Tr.app,Tr.same]
 | .nod k s n p a b r,.nod k' s' n' p' a' b' r',x,x',h=>by
  simp only[Tr.app,Tr.same,Tr.app_same r r' x x' h,Bool.and_assoc]
 | .arm k s n p a b r,.arm k' s' n' p' a' b' r',x,x',h=>by
  simp only[Tr.app,Tr.same,Tr.app_same r r' x x' h,Bool.and_assoc]
 | .nil,.nod k s n p a b r,x,x',h=>by
  have e:(Tr.nil.app x).same ((Tr.nod k s n p a b r).app x')=false:=by
   rw[Bool.eq_false_iff];intro h1;have:=Tr.same_len _ _ h1;simp only[Tr.app,Tr.len,Tr.app_len]at this;omega
  rw[e];simp[Tr.same]
 | .nil,.arm k s n p a b r,x,x',h=>by
  have e:(Tr.nil.app x).same ((Tr.arm k s n p a b r).app x')=false:=by
   rw[Bool.eq_false_iff];intro h1;have:=Tr.same_len _ _ h1;simp only[Tr.app,Tr.len,Tr.app_len]at this;omega
  rw[e];simp[Tr.same]
 | .nod k s n p a b r,.nil,x,x',h=>by
  have e:((Tr.nod k s n p a b r).app x).same (Tr.nil.app x')=false:=by
   rw[Bool.eq_false_iff];intro h1;have:=Tr.same_len _ _ h1;simp only[Tr.app,Tr.len,Tr.app_len]at this;omega
  rw[e];simp[Tr.same]
 | .arm k s n p a b r,.nil,x,x',h=>by
  have e:((Tr.arm k s n p a b r).app x).same (Tr.nil.app x')=false:=by
   rw[Bool.eq_false_iff];intro h1;have:=Tr.same_len _ _ h1;simp only[Tr.app,Tr.len,Tr.app_len]at this;omega
  rw[e];simp[Tr.same]
 | .nod ..,.arm ..,x,x',h=>by simp[Tr.app,Tr.same]
 | .arm ..,.nod ..,x,x',h=>by simp[Tr.app,Tr.same]
theorem Tr.arms_same:∀ b b':Tr,b.isArms->b'.isArms->b.same b'=(b.pats.same b'.pats&&b.exs.same b'.exs)
 | .nil,.nil,_,_=>rfl
 | .nil,.arm ..,_,_=>by simp[Tr.same,Tr.pats]
 | .arm ..,.nil,_,_=>by simp[Tr.same,Tr.pats]
 | .arm k s n p a e r,.arm k' s' n' p' a' e' r',⟨h1,h2⟩,⟨h3,h4⟩=>by
  have ih:=Tr.arms_same r r' h2 h4;simp only[Tr.same,Tr.pats,Tr.exs,ih,Tr.same,Bool.and_true];by_cases hl:r.pats.same r'.pats=true
  ·have hlen:=Tr.same_len _ _ hl
   rw[Tr.pats_len r h2,Tr.pats_len r' h4]at hlen;rw[Tr.app_same e e' r.exs r'.exs (by rw[Tr.exs_len r h2,Tr.exs_len r' h4,hlen]),hl];cases decide (k=k') <;> cases decide (s=s') <;> cases decide (n=n') <;> cases a.same a' <;> cases e.same e' <;> simp
  ·rw[Bool.not_eq_true]at hl
   rw[hl];simp
def patQ(b b':Tr):Bool:=b.pats.same b'.pats
theorem Tr.same_split:∀ f g:Tr,f.isNods->g.isNods->f.ok->g.ok->f.same g=(f.hds patQ g&&f.kidsSame g)
 | .nil,.nil,_,_,_,_=>rfl
 | .nil,.nod ..,_,_,_,_=>by simp[Tr.same,Tr.hds]
 | .nod ..,.nil,_,_,_,_=>by simp[Tr.same,Tr.hds]
 | .arm ..,_,h,_,_,_=>h.elim
 | .nil,.arm ..,_,h,_,_=>h.elim
 | .nod ..,.arm ..,_,h,_,_=>h.elim
 | .nod k s n p a b r,.nod k' s' n' p' a' b' r',h1,h2,⟨_,_,o3,_,o5⟩,⟨_,_,q3,_,q5⟩=>by
  have ih:=Tr.same_split r r' h1 h2 o5 q5;simp only[Tr.same,Tr.hds,Tr.kidsSame,ih,Tr.arms_same b b' o3 q3,patQ];by_cases hl:b.pats.same b'.pats=true
  ·have hlen:=Tr.same_len _ _ hl
   rw[Tr.pats_len b o3,Tr.pats_len b' q3]at hlen;rw[Tr.app_same a a' b.exs b'.exs (by rw[Tr.exs_len b o3,Tr.exs_len b' q3,hlen]),hl];cases decide (k=k') <;> cases decide (s=s') <;> cases decide (n=n') <;> cases a.same a' <;> cases b.exs.same b'.exs <;> cases r.hds patQ r' <;> simp
  ·rw[Bool.not_eq_true]at hl
   rw[hl];simp
theorem Tr.hds_len(q:Tr->Tr->Bool):∀ f g:Tr,f.hds q g=true->f.len=g.len
 | .nil,.nil,_=>rfl
 | .nod _ _ _ _ _ _ r,.nod _ _ _ _ _ _ r',h=>by
  simp only[Tr.hds,bA]at h;simp only[Tr.len,Tr.hds_len q r r' h.2]
 | .nil,.nod ..,h=>by cases h
 | .nil,.arm ..,h=>by cases h
 | .nod ..,.nil,h=>by cases h
 | .nod ..,.arm ..,h=>by cases h
 | .arm ..,.nil,h=>by cases h
 | .arm ..,.nod ..,h=>by cases h
 | .arm ..,.arm ..,h=>by cases h
def Tr.drp:Tr->Nat->Tr
 | f,0=>f
 | .nil,_+1=> .nil
 | .nod _ _ _ _ _ _ r,i+1=>r.drp i
 | .arm _ _ _ _ _ _ r,i+1=>r.drp i
theorem Tr.drp_at{k:Int}{s:LU}{n:Int}{p:Pl}{a b:Tr}:∀ (f:Tr) (i:Nat),f.nth i=.nod k s n p a b .nil->f.drp i=.nod k s n p a b (f.drp (i+1))
 | .nil,i,h=>by simp[Tr.nth]at h
 | .nod _ _ _ _ _ _ r,0,h=>by
  simp only[Tr.nth,Tr.nod.injEq]at h;obtain⟨h1,h2,h3,h4,h5,h6,_⟩:=h;subst h1 h2 h3 h4 h5 h6;cases r <;> rfl
 | .arm ..,0,h=>by simp[Tr.nth]at h
 | .nod _ _ _ _ _ _ r,i+1,h=>Tr.drp_at r i h
 | .arm _ _ _ _ _ _ r,i+1,h=>Tr.drp_at r i h
theorem Tr.drp_end:∀ (f:Tr) (i:Nat),f.len<=i->f.drp i=.nil
 | .nil,0,_=>rfl
 | .nil,_+1,_=>rfl
 | .nod ..,0,h=>by simp[Tr.len]at h
 | .arm ..,0,h=>by simp[Tr.len]at h
 | .nod _ _ _ _ _ _ r,i+1,h=>Tr.drp_end r i (by simpa [Tr.len] using h)
 | .arm _ _ _ _ _ _ r,i+1,h=>Tr.drp_end r i (by simpa [Tr.len] using h)
theorem Tr.drp_zero(f:Tr):f.drp 0=f:=by cases f <;> rfl
theorem Tr.drp_size:∀ (f:Tr) (i:Nat),(f.drp i).size<=f.size
 | .nil,0=>lR _
 | .nil,_+1=>lR _
 | .nod ..,0=>lR _
 | .arm ..,0=>lR _
 | .nod _ _ _ _ _ _ r,i+1=>by have:=Tr.drp_size r i;simp only[Tr.drp,Tr.size];omega
 | .arm _ _ _ _ _ _ r,i+1=>by have:=Tr.drp_size r i;simp only[Tr.drp,Tr.size];omega
theorem TrAt.bare{w:World}{Ok:Nat->Prop}{sh:Sh}(hs:sh=.pat∨sh=.ty):∀ (f:Tr) (b o:Nat),TrAt w Ok f sh b o->f.bare
 | .nil,_,_,_=>trivial
 | .nod k s n p kids arms r,b,o,h=>by
  obtain⟨_,⟨A,cap,_,_,a3⟩,h3,h4⟩:=h;refine⟨?_,?_,TrAt.bare hs r b _ h4⟩
  ·rcases h3 with ⟨e,_⟩ | ⟨_,e⟩
   ·subst e;rcases hs with e | e <;> cases e
   ·exact Tr.len_nil _ e
  ·rcases zPp kids.len with e | e
   ·rw[Tr.len_nil kids e];trivial
   ·obtain⟨b',o',_,_,h⟩:=a3 e;exact TrAt.bare hs kids b' o' h
 | .arm ..,b,o,h=>by have:=h.1;subst this;rcases hs with e | e <;> cases e
theorem KidsTr.bare{w:World}{Ok:Nat->Prop}{sh:Sh}(hs:sh=.pat∨sh=.ty){A:OA}{l c:Nat}{f:Tr}(h:KidsTr w Ok sh A l c f):f.bare:=by
 rcases zPp f.len with e | e
 ·rw[Tr.len_nil f e];trivial
 ·obtain⟨b,o,_,_,h⟩:=h.2.2 (by rw[h.1];exact e)
  exact TrAt.bare hs f b o h
theorem Tr.hds_bare:∀ f g:Tr,f.bare->g.bare->f.hds (fun _ _=>true) g=f.hds patQ g
 | .nil,.nil,_,_=>rfl
 | .nil,.nod ..,_,_=>rfl
 | .nod ..,.nil,_,_=>rfl
 | .arm ..,_,h,_=>h.elim
 | .nil,.arm ..,_,h=>h.elim
 | .nod ..,.arm ..,_,h=>h.elim
 | .nod _ _ _ _ _ b r,.nod _ _ _ _ _ b' r',⟨h1,_,h2⟩,⟨h3,_,h4⟩=>by
  simp only[Tr.hds,Tr.hds_bare r r' h2 h4,h1,h3,patQ,Tr.pats,Tr.same]
theorem Tr.same_bare(f g:Tr)(hf:f.bare)(hg:g.bare)(h1:f.isNods)(h2:g.isNods)(o1:f.ok)(o2:g.ok):f.same g=(f.hds (fun _ _=>true) g&&f.kidsSame g):=by
 rw[Tr.hds_bare f g hf hg];exact Tr.same_split f g h1 h2 o1 o2
structure Pr where
 a:It
 b:It
def Pr.cells(x:Pr):List Value:=[x.a.val,x.b.val]
def prV(S:List Pr):List Value:=S.reverse.flatMap Pr.cells
theorem Q9(x:Pr)(S:List Pr):prV (x::S)=prV S++x.cells:=by simp[prV]
theorem j9:∀ S:List Pr,(prV S).length=S.length*2
 | []=>rfl
 | x::S=>by rw[Q9,lA,j9 S];simp[Pr.cells];omega
def msP:List Pr->Nat
 | []=>0
 | x::S=>x.a.f.size+1+msP S
theorem qb8:∀ S:List Pr,S.length<=msP S
 | []=>lR _
 | x::S=>by have:=qb8 S;simp only[lC,msP];omega
def allP(S:List Pr):Bool:=S.all fun x=>x.a.f.same x.b.f
def PrI(w:World)(A:OA)(sh:Sh)(S:List Pr):Prop:=∀ x∈S,(KidsTr w (OkI w (fun _=>False) A) sh x.a.A x.a.f.len x.a.c x.a.f/\x.a.f.size<=1000000)/\(KidsTr w (OkI w (fun _=>False) A) sh x.b.A x.b.f.len x.b.c x.b.f/\x.b.f.size<=1000000)
theorem PrI.step{w w':World}{A A':OA}{sh:Sh}{S:List Pr}(h:PrI w A sh S)(hs:w.heap.size<=w'.heap.size)(hk:∀ j,OkI w (fun _=>False) A j->w'.heap[j]?=w.heap[j]?)(ha:∀ j o,A'=some ⟨j,o,none⟩->(∃ o',A=some ⟨j,o',none⟩)∨w.heap.size<=j):PrI w' A' sh S:=
 fun x hx=>⟨⟨(h x hx).1.1.stepI hs hk (fun _ h=>h.elim) ha,(h x hx).1.2⟩,⟨(h x hx).2.1.stepI hs hk (fun _ h=>h.elim) ha,(h x hx).2.2⟩⟩
theorem qhY{w:World}{base:Nat}{T0:TypeId}{A:OA}{cc m:Nat}{x:Pr}{S:List Pr}(hm:m=S.length)(h:w.ownsRow base T0 2 (.slice A (m+1) cc) (m+1) (prV (x::S))) :
  ∃ g,A=some ⟨g,0,none⟩/\base<=g/\g<w.heap.size/\m+1<=cc/\cc<=maxLen/\w.cell? ⟨g,m*2,none⟩=some x.a.val/\w.cell? ⟨g,m*2+1,none⟩=some x.b.val/\w.ownsRow base T0 2 (.slice (some ⟨g,0,none⟩) m cc) m (prV S):=by
 have h':=h;obtain⟨hl,hr⟩:=h;rcases hr with ⟨_,h0⟩ | ⟨g,cap,cur,hv,hb,hh,hnc,hmx,hcs,ht⟩
 ·omega
 ·cases hv
  refine⟨g,rfl,hb,(aJ.1 hh).1,hnc,hmx,?_,?_,⟨by rw[j9,hm],.inr ⟨g,cc,cur,rfl,hb,hh,by omega,hmx,hcs,?_⟩⟩⟩
  ·have h5:=h'.cells (g:=g) rfl (m*2) x.a.val (by rw[Q9,List.getElem?_append_right (by rw[j9,hm];exact lR _),j9,hm,Nat.sub_self];rfl)
   rwa [Addr.add_lit,Nat.zero_add]at h5
  ·have h5:=h'.cells (g:=g) rfl (m*2+1) x.b.val (by rw[Q9,List.getElem?_append_right (by rw[j9,hm];omega),j9,hm,show S.length*2+1-S.length*2=1 by omega];rfl)
   rwa [Addr.add_lit,Nat.zero_add]at h5
  ·have h4:=congrArg (List.take (m*2)) ht
   rw[List.take_take,Q9,List.take_append_of_le_length (by rw[j9,hm];exact lR _),List.take_of_length_le (l:=prV S) (by rw[j9,hm];exact lR _)]at h4;rw[<- h4];congr 1;omega
theorem qhX{w7:World}{A2:OA}{sh:Sh}{S2:List Pr}{wx:World}(hp:PrI wx A2 sh S2)(hb:Bel wx w7):PrI w7 A2 sh S2:=
 hp.step hb.size (fun j hj=>hb.block j hj.1) (fun j o e=> .inl ⟨o,e⟩)
theorem Qo{w7:World}{A2:OA}{sh:Sh}{wx:World}{B:OA}{l c:Nat}{f:Tr}(h:KidsTr wx (OkI wx (fun _=>False) A2) sh B l c f)(hb:Bel wx w7):KidsTr w7 (OkI w7 (fun _=>False) A2) sh B l c f:=
 h.stepI hb.size (fun j hj=>hb.block j hj.1) (fun _ h=>h.elim) (fun j o e=> .inl ⟨o,e⟩)
theorem Za{w0 w7 w8:World}{A2:OA}{c2 m2 base:Nat}{T0:TypeId}{sh:Sh}{S2:List Pr}{K:Pr}{v':Value}{ob:Obj}(hrow:w7.ownsRow base T0 2 (.slice A2 m2 c2) m2 (prV S2))(hp:PrI w7 A2 sh S2)
  (ha:KidsTr w7 (OkI w7 (fun _=>False) A2) sh K.a.A K.a.f.len K.a.c K.a.f) (hb:KidsTr w7 (OkI w7 (fun _=>False) A2) sh K.b.A K.b.f.len K.b.c K.b.f) (hs:K.a.f.size<=1000000/\K.b.f.size<=1000000)
  (hown8:w8.ownsRow base T0 2 v' (m2+1) (prV S2++K.cells)) (hg8:(w7.alloc ob).grownBy w8 (Value.slice A2 m2 c2).ownBlock) (hat8:v'.ownBlock=(Value.slice A2 m2 c2).ownBlock∨v'.ownBlock=some (w7.alloc ob).heap.size) (h07:Bel w0 w7) (h0:w0.heap.size<=base) (hbs:base<=w7.heap.size) :
  ∃ g8 c8,v'=.slice (some ⟨g8,0,none⟩) (m2+1) c8/\w8.ownsRow base T0 2 (.slice (some ⟨g8,0,none⟩) (m2+1) c8) (m2+1) (prV (K::S2))/\PrI w8 (some ⟨g8,0,none⟩) sh (K::S2) ∧
   (∀ (B:OA) (l c:Nat) (f:Tr),KidsTr w7 (OkI w7 (fun _=>False) A2) sh B l c f->KidsTr w8 (OkI w8 (fun _=>False) (some ⟨g8,0,none⟩)) sh B l c f)/\Bel w0 w8/\base<=w8.heap.size:=by
 obtain⟨g8,c8,rfl⟩:=jP hown8;have z8:w7.heap.size+1<=w8.heap.size:=by have:=hg8.size;simpa using this
 have hob:∀ j,(Value.slice A2 m2 c2).ownBlock=some j->base<=j/\∃ o,A2=some ⟨j,o,none⟩:=fun j hj=>by
  refine⟨(hrow.lt j hj).1,?_⟩;rcases hrow.2 with ⟨_,h⟩ | ⟨g,cap,cur,hv,_⟩
  ·cases A2 with
   | none=>simp[Value.ownBlock]at hj
   | some a=>
    obtain⟨ab,ao,ap⟩:=a;rcases hrow.2 with ⟨h2,_⟩ | ⟨g,cap,cur,hv,_⟩
    ·cases h2
    ·cases hv;simp[Value.ownBlock]at hj;exact⟨0,by rw[hj]⟩
  ·cases hv;simp[Value.ownBlock]at hj;exact⟨0,by rw[hj]⟩
 have hk:∀ j,OkI w7 (fun _=>False) A2 j->w8.heap[j]?=w7.heap[j]?:=fun j hj=>
  (hg8.block j (by simp;have:=hj.1;omega) (fun e=>by obtain⟨_,o,ho⟩:=hob j e.symm;exact hj.2.2 o ho)).trans (((Bel.refl w7).alloc ob).block j hj.1)
 have hA:∀ j o,(some ⟨g8,0,none⟩:OA)=some ⟨j,o,none⟩->(∃ o',A2=some ⟨j,o',none⟩)∨w7.heap.size<=j:=fun j o e=>by
  cases e;rcases hat8 with h | h
  ·exact .inl (hob g8 h.symm).2
  ·right;simp[Value.ownBlock]at h;omega
 refine⟨g8,c8,rfl,by rw[Q9];exact hown8,?_,fun B l c f h=>h.stepI (by omega) hk (fun _ h=>h.elim) hA,?_,by omega⟩
 ·intro x hx
  rcases List.mem_cons.1 hx with rfl | hx
  ·exact⟨⟨ha.stepI (by omega) hk (fun _ h=>h.elim) hA,hs.1⟩,⟨hb.stepI (by omega) hk (fun _ h=>h.elim) hA,hs.2⟩⟩
  ·exact (hp.step (by omega) hk hA) x hx
 ·exact Below.grown (h07.alloc ob) hg8 (by have:=h07.size;simp;omega) (fun x hx=>by have:=(hob x hx).1;omega)
set_option maxHeartbeats 4000000
theorem qdo(k:Int)(s:LU)(n:Int)(p:Pl)(A:OA)(l c:Nat)(k2:Int)(s2:LU)(n2:Int)(p2:Pl)(A2:OA)(l2 c2:Nat)(w:World) :
  Calls Tryz.prog 87 #[.agg #[.int .u8 k,.string ⟨s.toArray⟩,n,p.a,p.l,p.c,.slice A l c],.agg #[.int .u8 k2,.string ⟨s2.toArray⟩,n2,p2.a,p2.l,p2.c,.slice A2 l2 c2]] w (qu (decide (k=k2)&&decide (s=s2)&&decide (n=n2)) w):=by
 have hne:s≠s2->(⟨s.toArray⟩:BA).toList≠(⟨s2.toArray⟩:BA).toList:=qc4;by_cases dk:k=k2
 case neg=>
  have e:(decide (k=k2)&&decide (s=s2)&&decide (n=n2))=false:=by simp[dk]
  rw[e];have ek:(k==k2)=false:=by simpa using dk
  clear hne e;go_enter Tryz.func87,Tryz.ntmps87;go_wp2_with fail;go_ret;exact⟨rfl,((Bel.refl w).alloc _).alloc _⟩
 subst dk;by_cases ds:s=s2
 case neg=>
  have e:(decide (k=k)&&decide (s=s2)&&decide (n=n2))=false:=by simp[ds]
  rw[e];obtain⟨S,hS⟩:=nW (⟨s.toArray⟩:BA);obtain⟨S2,hS2⟩:=nW (⟨s2.toArray⟩:BA);have qn:=hne ds;rw[<- hS,<- hS2]at qn;rw[<- hS,<- hS2];have qb:(S.toList==S2.toList)=false:=by simpa using qn
  clear hne e hS hS2 ds;go_enter Tryz.func87,Tryz.ntmps87;go_wp2_with fail;go_ret;exact⟨rfl,((Bel.refl w).alloc _).alloc _⟩
 subst ds;have e:(decide (k=k)&&decide (s=s)&&decide (n=n2))=(n==n2):=by by_cases h:n=n2 <;> simp[h]
 rw[e];obtain⟨S,hS⟩:=nW (⟨s.toArray⟩:BA);rw[<- hS];clear hne e hS;go_enter Tryz.func87,Tryz.ntmps87;go_wp2_with fail;go_ret;exact⟨rfl,((Bel.refl w).alloc _).alloc _⟩
theorem qin(A:OA)(n c:Nat)(B:OA)(m d:Nat)(f g:Tr)(w:World)(hk:KidsTr w (OldT w) .pat A n c f)(hk2:KidsTr w (OldT w) .pat B m d g)(hsz:f.size<=1000000)(hsz2:g.size<=1000000) :
  Calls Tryz.prog 113 #[.slice A n c,.slice B m d,.func (.func 87) #[] #[]] w (qu (f.hds (fun _ _=>true) g) w):=by
 have H:=hid hk;have H2:=hid hk2;have HL:Hid (n=f.len):=hid hk.1;have HL2:Hid (m=g.len):=hid hk2.1;have HSZ:=hid (And.intro hsz hsz2);have hn:n<=1000000:=by have:=hk.1;have:=f.len_le;omega
 have hm:m<=1000000:=by have:=hk2.1;have:=g.len_le;omega
 obtain⟨r,hr⟩:=nW (f.hds (fun _ _=>true) g);rw[<- hr];have HR:=hid hr;clear hk hk2 hsz hsz2 hr;have eg:∀ args w,(callFunc 87 args).run Tryz.prog w=.ok (.enter 87 args) w:=fun args w=>by kernel_rfl
 by_cases hnm:n=m
 case neg=>
  obtain rfl:r=false:=by
   rw[HR.out,Bool.eq_false_iff];intro h;have:=Tr.hds_len _ _ _ h;exact hnm (by rw[HL.out,HL2.out,this])
  have e0:((n:Int) != (m:Int))=true:=by simp;omega
  go_enter Tryz.func113,Tryz.ntmps113;go_wp2_with fail;go_ret;exact⟨rfl,Bel.refl _⟩
 subst hnm;go_enter Tryz.func113,Tryz.ntmps113;go_wp2_with fail;go_loopw [17] (fun i wr=>∃ j:Nat,j<=n/\i=.int .i64 (j:Int)/\Hid (r=(f.drp j).hds (fun _ _=>true) (g.drp j))/\Hid (Bel w wr)) (fun i _=>n-(intOf i).toNat)
 case atStart=>exact⟨0,zL _,rfl,hid (by rw[Tr.drp_zero,Tr.drp_zero];exact HR),hid (Bel.refl _)⟩
 case round=>
  obtain⟨j,hj,rfl,HRJ,HB⟩:=hrel;by_cases hlt:j<n
  ·obtain⟨ub,uo,eA,hob,hfo⟩:=(H.bel HB).2.2 (by omega)
   obtain⟨ub2,uo2,eA2,hob2,hfo2⟩:=(H2.bel HB).2.2 (by omega);subst eA eA2;obtain⟨k,s,nn,p,kids,arms,en,hd⟩:=TrAt.nod_at (by intro e;cases e) f j ub uo hfo (by rw[<- HL.out];exact hlt);obtain⟨k2,s2,nn2,p2,kids2,arms2,en2,hd2⟩:=TrAt.nod_at (by intro e;cases e) g j ub2 uo2 hfo2 (by rw[<- HL2.out];exact hlt);obtain⟨A',ca',B',cb',hc,hk',ha',_⟩:=hd.parts;obtain⟨A2',ca2',B2',cb2',hc2,hk2',ha2',_⟩:=hd2.parts;have hsn:=Tr.nth_size f j;have hsn2:=Tr.nth_size g j;rw[en]at hsn;rw[en2]at hsn2;simp only[Tr.size]at hsn hsn2;obtain⟨hb,hhb⟩:=nW (decide (k=k2)&&decide (s=s2)&&decide (nn=nn2)&&(fun _ _=>true:Tr->Tr->Bool) arms arms2);have HRN:Hid (r=(hb&&(f.drp (j+1)).hds (fun _ _=>true) (g.drp (j+1)))):=hid (by
    rw[HRJ.out,Tr.drp_at f j en,Tr.drp_at g j en2,hhb];rfl)
   have HC:Hid (∀ W,Bel wr W->Calls Tryz.prog 87 #[.agg #[.int .u8 k,.string ⟨s.toArray⟩,nn,p.a,p.l,p.c,.slice A' kids.len ca'],.agg #[.int .u8 k2,.string ⟨s2.toArray⟩,nn2,p2.a,p2.l,p2.c,.slice A2' kids2.len ca2']] W (qu hb W)):=hid fun W hW=>by
    rw[hhb];rw[Bool.and_true];exact qdo k s nn p A' kids.len ca' k2 s2 nn2 p2 A2' kids2.len ca2' W
   have y0:=hc 0 _ rfl;have y1:=hc 1 _ rfl;have y2:=hc 2 _ rfl;have y3:=hc 3 _ rfl;have y4:=hc 4 _ rfl;have y5:=hc 5 _ rfl;have y6:=hc 6 _ rfl;have z0:=hc2 0 _ rfl;have z1:=hc2 1 _ rfl;have z2:=hc2 2 _ rfl;have z3:=hc2 3 _ rfl;have z4:=hc2 4 _ rfl;have z5:=hc2 5 _ rfl;have z6:=hc2 6 _ rfl;simp only[nZz,Sh.kd,Sh.sz]at y0 y1 y2 y3 y4 y5 y6 z0 z1 z2 z3 z4 z5 z6;obtain⟨l1,hl1⟩:=nW kids.len;obtain⟨l2,hl2⟩:=nW kids2.len;obtain⟨l3,hl3⟩:=nW arms.len;obtain⟨l4,hl4⟩:=nW arms2.len;obtain⟨SS,hSS⟩:=nW (⟨s.toArray⟩:BA);obtain⟨SS2,hSS2⟩:=nW (⟨s2.toArray⟩:BA);rw[<- hSS,<- hSS2,<- hl1,<- hl2]at HC;rw[<- hSS]at y1;rw[<- hSS2]at z1;rw[<- hl1]at y6;rw[<- hl2]at z6;skip
   have i1:(0:Int)<=(j:Int):=by omega
   have i2:(j:Int)<(n:Int):=by omega
   have HLT:=hid hlt;clear hc hc2 hk' hk2' ha' ha2' hsn hsn2 en en2 hd hd2 hfo hfo2 hl1 hl2 hl3 hl4 hSS hSS2 hhb;have hob':ub<wr.heap.size:=hob;have hob2':ub2<wr.heap.size:=hob2;clear hob hob2;go_wp2_with fail;refine (HC _ (((Bel.refl wr).alloc _).alloc _)).mono ?_;rintro e w3 ⟨rfl,hb3⟩;have HB3:=hid (((HB.alloc _).alloc _).on hb3);clear hb3 HC y0 y1 y2 y3 y4 y5 y6 z0 z1 z2 z3 z4 z5 z6;cases hb
   ·obtain rfl:r=false:=by rw[HRN.out];rfl
    go_wp2_with fail;go_ret;exact⟨rfl,HB3⟩
   ·have HR':Hid (r=(f.drp (j+1)).hds (fun _ _=>true) (g.drp (j+1))):=hid (by rw[HRN.out];rfl)
    go_wp2_with fail;go_roundw
    case rel=>exact⟨j+1,HLT,by go_num,HR',HB3⟩
    case measure=>exact mS HLT
  ·obtain rfl:j=n:=by omega
   obtain rfl:r=true:=by rw[HRJ.out,Tr.drp_end f j (by rw[<- HL.out];exact lR _),Tr.drp_end g j (by rw[<- HL2.out];exact lR _)];rfl
   go_wp2_with fail;go_ret;exact⟨rfl,HB⟩
theorem qgX:(Tryz.prog.info? 156).map (fun i=>(i.zero,i.size,i.bytes))=some (some (.agg #[.slice none 0 0,.slice none 0 0]),2,48):=by kernel_rfl
theorem qfW(A:OA)(n c:Nat)(B:OA)(m d:Nat)(f g:Tr)(w:World)(hk:KidsTr w (OldT w) .pat A n c f)(hk2:KidsTr w (OldT w) .pat B m d g)(hsz:f.size<=1000000)(hsz2:g.size<=1000000) :
  Calls Tryz.prog 86 #[.slice A n c,.slice B m d,.func (.func 64) #[] #[],.func (.func 87) #[] #[]] w (qu (f.same g) w):=by
 have HK:=hid hk;have HK2:=hid hk2;have HSZ:=hid (And.intro hsz hsz2);obtain⟨r,hr⟩:=nW (f.same g);rw[<- hr];have HR:=hid hr;have HN:=hid (And.intro hk.1 hk2.1);clear hk hk2 hsz hsz2 hr;obtain⟨i0,hi0,hz0,hz1,hz2⟩:=info_parts qgX;have eg:∀ args w,(callFunc 87 args).run Tryz.prog w=.ok (.enter 87 args) w:=fun args w=>by kernel_rfl
 have ek:∀ args w,(callFunc 64 args).run Tryz.prog w=.ok (.enter 64 args) w:=fun args w=>by kernel_rfl
 go_enter Tryz.func86,Tryz.ntmps86;go_wp2_with fail;obtain⟨base,hbase⟩:=nW w.heap.size;obtain⟨w1,hw1⟩:=nW (w.alloc (.cells #[.slice A n c,.slice B m d] 156));have hb1:Bel w w1:=by rw[hw1];exact (Bel.refl w).alloc _
 have hq1:w1.heap[base]?=some (.cells #[.slice A n c,.slice B m d] 156 (0,0)):=by rw[hw1,hbase];exact blk1 w _
 have hs1:w1.heap.size=base+1:=by rw[hw1,hbase];simp
 rw[<- hw1,<- hbase];have HBS:=hid hbase;have HB1:=hid hb1;have HB2:Hid (base<=w1.heap.size):=hid (by omega);have HRW:Hid (w1.ownsRow base 156 2 (.slice (some ⟨base,0,none⟩) 1 1) 1 (prV [⟨⟨A,c,f⟩,⟨B,d,g⟩⟩])):=hid ⟨rfl,.inr ⟨base,1,_,rfl,lR _,hq1,lR _,by unfold maxLen;omega,rfl,by simp[prV,Pr.cells,It.val,<- HN.out.1,<- HN.out.2]⟩⟩;have HPI:Hid (PrI w1 (some ⟨base,0,none⟩) .pat [⟨⟨A,c,f⟩,⟨B,d,g⟩⟩]):=hid (by
  intro x hx;simp at hx;subst hx;have hw:∀ j,OldT w j->OkI w1 (fun _=>False) (some ⟨base,0,none⟩) j:=fun j hj=>⟨lT hj hb1.size,fun h=>h,fun o e=>by cases e;have:base<w.heap.size:=hj;omega⟩
  have k1:=HK.out;have k2:=HK2.out;rw[HN.out.1]at k1;rw[HN.out.2]at k2;exact⟨⟨(k1.keep fun j hj=>hb1.block j hj).wide hw,HSZ.1⟩,⟨(k2.keep fun j hj=>hb1.block j hj).wide hw,HSZ.2⟩⟩)
 have HRA:Hid (r=allP [⟨⟨A,c,f⟩,⟨B,d,g⟩⟩]):=hid (by rw[HR.out];simp[allP]);have HMP:Hid (msP [⟨⟨A,c,f⟩,⟨B,d,g⟩⟩]<=1000001):=hid (by have:=HSZ.1;simp only[msP];omega);clear hb1 hq1 hs1 hw1 hbase HK HK2 HSZ HR HN;go_loopg [9] (msP [⟨⟨A,c,f⟩,⟨B,d,g⟩⟩]) (fun gk v wr=>∃ (S:List Pr) (A:OA) (cc m:Nat),v=.slice A m cc/\Hid (m=S.length)/\Hid (gk=msP S)/\Hid (msP S<=1000001)/\Hid (wr.ownsRow base 156 2 (.slice A m cc) m (prV S))/\Hid (PrI wr A .pat S)/\Hid (r=allP S)/\Hid (Bel w wr)/\Hid (base<=wr.heap.size))
 case atStart=>exact⟨_,_,_,_,rfl,hid rfl,hid rfl,HMP,HRW,HPI,HRA,HB1,HB2⟩
 case round=>
  clear HRW HPI HRA HB1 HB2 HMP;obtain⟨S,A,cc,m,rfl,HM,HGK,HMS,HRW,HPI,HRA,HB,HBL⟩:=hrel;cases S with
  | nil=>
   obtain rfl:m=0:=HM.out;obtain rfl:r=true:=by rw[HRA.out];rfl
   go_wp2_with fail;go_ret;exact⟨rfl,HB⟩
  | cons x S=>
   obtain⟨mm,hmm⟩:=nW S.length;have hm:m=mm+1:=by rw[hmm];exact HM
   subst hm;obtain⟨g',eA,hbg,hgl,hcc,hcm,hca,hcb,hrow⟩:=qhY hmm HRW;subst eA;obtain⟨⟨xA,xc,xf⟩,⟨yA,yc,yf⟩⟩:=x;obtain⟨⟨kx,sx⟩,⟨ky,sy⟩⟩:=HPI.out _ List.mem_cons_self;simp only at kx ky sx sy;obtain⟨xl,hxl⟩:=nW xf.len;obtain⟨yl,hyl⟩:=nW yf.len;simp only[It.val,<- hxl]at hca;simp only[It.val,<- hyl]at hcb;rw[<- hxl]at kx;rw[<- hyl]at ky;obtain⟨hb,hhb⟩:=nW (xf.hds (fun _ _=>true) yf);have hOld:∀ j,OkI wr (fun _=>False) (some ⟨g',0,none⟩) j->OldT wr j:=fun j hj=>hj.1;have HE:Hid (∀ W,Bel wr W->Calls Tryz.prog 113 #[.slice xA xl xc,.slice yA yl yc,.func (.func 87) #[] #[]] W (qu hb W)):=hid fun W hW=>by
    rw[hhb];exact qin xA xl xc yA yl yc xf yf W ((kx.wide hOld).bel hW) ((ky.wide hOld).bel hW) sx sy
   have HSP:Hid (r=((hb&&xf.kidsSame yf)&&allP S)):=hid (by
    rw[HRA.out];simp only[allP,List.all_cons];rw[hhb,<- Tr.same_bare xf yf (kx.bare (.inl rfl)) (ky.bare (.inl rfl)) (kx.isNods (by intro e;cases e)) (ky.isNods (by intro e;cases e)) kx.ok ky.ok])
   have HKX:=hid kx;have HKY:=hid ky;have HSXY:=hid (And.intro sx sy);have HHB:=hid hhb;have HXL:=hid hxl;have HYL:=hid hyl;have HROW:=hid hrow;have HBG:=hid hbg;have HMM:=hid hmm;have hm63:mm+1<=9223372036854775807:=by unfold maxLen at hcm;omega
   have i0':(0:Int)<=(mm:Int):=by omega
   have i1:(mm:Int)<(mm:Int)+1:=by omega
   have i4:(mm:Int)<=(cc:Int):=by omega
   have z0:=qd hgl hca;have z1:=qd hgl hcb;clear kx ky sx sy hhb hxl hyl hrow hbg hmm hcm hOld HRW HRA;go_wp2_with fail;go_quiet (fail);have HB4:Hid (∀ k,Bel wr (wr.drewN k)):=hid fun k=>(Bel.refl wr).drewN k;go_wp2_with fail;clear z0 z1 hca hcb;refine (HE _ (HB4 _)).mono ?_;rintro e w5 ⟨rfl,hb5⟩;have HB5:=hid ((HB4 _).on hb5);have HBW5:=hid (HB.on ((HB4 _).on hb5));clear hb5 HE HB4;cases hb
   ·obtain rfl:r=false:=by rw[HSP.out];rfl
    go_wp2_with fail;go_ret;exact⟨rfl,HBW5⟩
   ·have hlen:xl=yl:=by rw[HXL.out,HYL.out];exact Tr.hds_len _ _ _ HHB.out.symm
    subst hlen;have hxl2:xl<=1000000:=by rw[HXL.out];have:=xf.len_le;have:=HSXY.1;omega
    have hst:∀ j,OkI wr (fun _=>False) (some ⟨g',0,none⟩) j->w5.heap[j]?=wr.heap[j]?:=fun j hj=>HB5.block j hj.1;have HIN:Hid (KidsTr w5 (OkI w5 (fun _=>False) (some ⟨g',0,none⟩)) .pat xA xl xc xf/\KidsTr w5 (OkI w5 (fun _=>False) (some ⟨g',0,none⟩)) .pat yA xl yc yf):=hid ⟨HKX.out.stepI HB5.size hst (fun _ h=>h.elim) (fun j o e=> .inl ⟨o,e⟩),HKY.out.stepI HB5.size hst (fun _ h=>h.elim) (fun j o e=> .inl ⟨o,e⟩)⟩;have HPS:Hid (PrI w5 (some ⟨g',0,none⟩) .pat S):=hid (PrI.step (fun y hy=>HPI y (mCc _ hy)) HB5.size hst (fun j o e=> .inl ⟨o,e⟩));have HRO:Hid (w5.ownsRow base 156 2 (.slice (some ⟨g',0,none⟩) mm cc) mm (prV S)):=hid (qG HROW HB5);have HBL5:Hid (base<=w5.heap.size):=hid (lL HBL HB5.size);have HRI:Hid (r=(allP S&&(xf.drp 0).kidsSame (yf.drp 0))):=hid (by rw[Tr.drp_zero,Tr.drp_zero,HSP.out,Bool.true_and,Bool.and_comm]);have HMI:Hid (msP S+(xf.drp 0).size<=msP S+xf.size):=hid (by rw[Tr.drp_zero];exact lR _);have HMB:Hid (msP S+xf.size<=1000000):=hid (by have:=HMS.out;simp only[msP]at this;omega);have HM':=HMM;clear hst HKX HKY HB5 HPI HROW HSP HHB;go_wp2_with fail;go_loopw [9,48] (fun v iv wx=>∃ (q:Nat) (S2:List Pr) (A2:OA) (c2 m2:Nat),q<=xl/\iv=.int .i64 (q:Int)/\v=.slice A2 m2 c2/\Hid (m2=S2.length)/\Hid (wx.ownsRow base 156 2 (.slice A2 m2 c2) m2 (prV S2))/\Hid (PrI wx A2 .pat S2)/\Hid (KidsTr wx (OkI wx (fun _=>False) A2) .pat xA xl xc xf/\KidsTr wx (OkI wx (fun _=>False) A2) .pat yA xl yc yf)/\Hid (r=(allP S2&&(xf.drp q).kidsSame (yf.drp q)))/\Hid (msP S2+(xf.drp q).size<=msP S+xf.size)/\Hid (Bel w wx)/\Hid (base<=wx.heap.size)) (fun _ i _=>xl-(intOf i).toNat)
    case atStart=>exact⟨0,S,_,_,_,zL _,rfl,rfl,HMM,HRO,HPS,HIN,HRI,HMI,HBW5,HBL5⟩
    case round=>
     clear HRO HPS HIN HRI HMI HBW5 HBL5;obtain⟨q,S2,A2,c2,m2,hq,rfl,rfl,HM2,HR2,HP2,HI2,HRR,HMM2,HBW,HBLX⟩:=hrel;obtain⟨wx,rfl⟩:=nW (wr:World);by_cases hlt:q<xl
     ·obtain⟨ub,uo,eA,hob,hfo⟩:=HI2.1.2.2 (by omega)
      obtain⟨ub2,uo2,eA2,hob2,hfo2⟩:=HI2.2.2.2 (by omega);subst eA eA2;obtain⟨k,s,nn,p,kids,arms,en,hd⟩:=TrAt.nod_at (by intro e;cases e) xf q ub uo hfo (by rw[<- HXL.out];exact hlt);obtain⟨k2,s2,nn2,p2,kids2,arms2,en2,hd2⟩:=TrAt.nod_at (by intro e;cases e) yf q ub2 uo2 hfo2 (by rw[<- HYL.out];exact hlt);obtain⟨A',ca',B',cb',hc,hk',ha',_⟩:=hd.parts;obtain⟨A2',ca2',B2',cb2',hc2,hk2',ha2',_⟩:=hd2.parts;have hdq:=Tr.drp_at xf q en;have hdq2:=Tr.drp_at yf q en2;have hdsz:=Tr.drp_size xf q;have hdsz2:=Tr.drp_size yf q;rw[hdq]at hdsz;rw[hdq2]at hdsz2;simp only[Tr.size]at hdsz hdsz2;have sx1:=HSXY.1;have sy1:=HSXY.2;obtain⟨F1,hF1⟩:=nW (kids.app arms.exs);obtain⟨F2,hF2⟩:=nW (kids2.app arms2.exs);have HF:Hid (r=(allP S2&&(F1.same F2&&(xf.drp (q+1)).kidsSame (yf.drp (q+1))))):=hid (by
       rw[HRR.out,hdq,hdq2,hF1,hF2];rfl)
      have hex:=Tr.exs_size arms;have hex2:=Tr.exs_size arms2;have HF1:Hid (F1.size<=kids.size+arms.size/\F2.size<=1000000/\F1.size<=1000000):=hid (by rw[hF1,hF2,Tr.app_size,Tr.app_size];omega);have HMQ:Hid (msP S2+(1+F1.size+(xf.drp (q+1)).size)<=msP S+xf.size):=hid (by
       have h:=HMM2.out;rw[hdq]at h;simp only[Tr.size]at h;have:=HF1.1;omega)
      have HC1:Hid (∀ W,Bel wx W->Calls Tryz.prog 64 #[.agg #[.int .u8 k,.string ⟨s.toArray⟩,nn,p.a,p.l,p.c,.slice A' kids.len ca']] W (StR (.slice A' kids.len ca') W)):=hid fun W hW=>jW k s nn p A' kids.len ca' W;have HC2:Hid (∀ W,Bel wx W->Calls Tryz.prog 64 #[.agg #[.int .u8 k2,.string ⟨s2.toArray⟩,nn2,p2.a,p2.l,p2.c,.slice A2' kids2.len ca2']] W (StR (.slice A2' kids2.len ca2') W)):=hid fun W hW=>jW k2 s2 nn2 p2 A2' kids2.len ca2' W;have HKK:Hid ((KidsTr wx (OkI wx (fun _=>False) A2) .pat A' kids.len ca' F1/\KidsTr wx (OkI wx (fun _=>False) A2) .pat A2' kids2.len ca2' F2)/\(kids.len=F1.len/\kids2.len=F2.len)):=hid (by
       obtain rfl:arms=.nil:=by
        rcases ha' with ⟨e,_⟩ | ⟨_,e⟩
        ·cases e
        ·exact Tr.len_nil _ e
       obtain rfl:arms2=.nil:=by
        rcases ha2' with ⟨e,_⟩ | ⟨_,e⟩
        ·cases e
        ·exact Tr.len_nil _ e
       rw[hF1,hF2];simp only[Tr.exs,Tr.app_nil];exact⟨⟨hk',hk2'⟩,by first | rfl | trivial,by first | rfl | trivial⟩)
      have y0:=hc 0 _ rfl;have y1:=hc 1 _ rfl;have y2:=hc 2 _ rfl;have y3:=hc 3 _ rfl;have y4:=hc 4 _ rfl;have y5:=hc 5 _ rfl;have y6:=hc 6 _ rfl;have z0:=hc2 0 _ rfl;have z1:=hc2 1 _ rfl;have z2:=hc2 2 _ rfl;have z3:=hc2 3 _ rfl;have z4:=hc2 4 _ rfl;have z5:=hc2 5 _ rfl;have z6:=hc2 6 _ rfl;simp only[nZz,Sh.kd,Sh.sz]at y0 y1 y2 y3 y4 y5 y6 z0 z1 z2 z3 z4 z5 z6;obtain⟨l1,hl1⟩:=nW kids.len;obtain⟨l2,hl2⟩:=nW kids2.len;obtain⟨l3,hl3⟩:=nW arms.len;obtain⟨l4,hl4⟩:=nW arms2.len;obtain⟨SS,hSS⟩:=nW (⟨s.toArray⟩:BA);obtain⟨SS2,hSS2⟩:=nW (⟨s2.toArray⟩:BA);rw[<- hSS]at y1;rw[<- hSS2]at z1;rw[<- hl1]at y6;rw[<- hl2]at z6;skip
      rw[<- hSS,<- hl1]at HC1;rw[<- hSS2,<- hl2]at HC2;rw[<- hl1,<- hl2]at HKK;have j1:(0:Int)<=(q:Int):=by omega
      have j2:(q:Int)<(xl:Int):=by omega
      have HLT:=hid hlt;have hob':ub<wx.heap.size:=hob.1;have hob2':ub2<wx.heap.size:=hob2.1;clear hc hc2 hk' hk2' ha' ha2' en en2 hd hd2 hfo hfo2 hl1 hl2 hl3 hl4 hSS hSS2 hdq hdq2 hdsz hdsz2 sx1 sy1 hex hex2 hob hob2 hF1 hF2;have Y0:=qd hob' y0;have Y1:=qd hob' y1;have Y2:=qd hob' y2;have Y3:=qd hob' y3;have Y4:=qd hob' y4;have Y5:=qd hob' y5;have Y6:=qd hob' y6;have Z0:=qd hob2' z0;have Z1:=qd hob2' z1;have Z2:=qd hob2' z2;have Z3:=qd hob2' z3;have Z4:=qd hob2' z4;have Z5:=qd hob2' z5;have Z6:=qd hob2' z6;go_wp2_with fail;refine zX 12 (by kernel_rfl) (by kernel_rfl) ?_;simp only[List.take_succ_cons,List.take_zero,jF,jG];repeat (go_big_quiet_step (first | exact (HC1 _ (Abw.bel _)).mono fun e w h=>⟨h.1,⟨_,(Abw.bel _).on h.2⟩,rfl⟩ | exact (HC2 _ (Abw.bel _)).mono fun e w h=>⟨h.1,⟨_,(Abw.bel _).on h.2⟩,rfl⟩))
      refine wpQuiet_nil ?_;rintro w7 ⟨⟨w7,hb7⟩,rfl⟩;have HB7:=hid hb7;clear hb7 HC1 HC2 y0 y1 y2 y3 y4 y5 y6 z0 z1 z2 z3 z4 z5 z6 Y0 Z0 Y1 Z1 Y2 Z2 Y3 Z3 Y4 Z4 Y5 Z5 Y6 Z6;have HLL:Hid (l1=F1.len/\l2=F2.len):=hid HKK.2;obtain⟨U1,hU1⟩:=nW A';obtain⟨U2,hU2⟩:=nW A2';obtain⟨C1,hC1⟩:=nW ca';obtain⟨C2,hC2⟩:=nW ca2';rw[<- hU1,<- hU2,<- hC1,<- hC2]at HKK;have HKK7:=hid (And.intro (Qo HKK.1.1 HB7) (Qo HKK.1.2 HB7));rw[<- hU1,<- hU2,<- hC1,<- hC2];clear hU1 hU2 hC1 hC2 HKK;have HRW7:=hid (qG HR2 HB7);have HPI7:=hid (qhX HP2 HB7);have HI7:=hid (And.intro (Qo HI2.1 HB7) (Qo HI2.2 HB7));have hbl7:base<=w7.heap.size:=lL HBLX HB7.size;have hm2b:m2<=1000001:=by
       rw[HM2.out];have:=qb8 S2;have:=HMQ.out;have:=HMB.out;omega
      by_cases h1:l1=0
      ·by_cases h2:l2=0
       ·subst h1 h2
        have HR8:Hid (r=(allP S2&&(xf.drp (q+1)).kidsSame (yf.drp (q+1)))):=hid (by
         rw[HF.out,Tr.len_nil F1 HLL.out.1.symm,Tr.len_nil F2 HLL.out.2.symm];simp[Tr.same])
        have HMS8:Hid (msP S2+(xf.drp (q+1)).size<=msP S+xf.size):=hid (by have:=HMQ.out;omega);have HBW8:=hid (HBW.on HB7);have HBL8:=hid hbl7;go_wp2_with fail;go_roundw
        case rel=>exact⟨q+1,S2,A2,c2,m2,HLT,by go_num,rfl,HM2,HRW7,HPI7,HI7,HR8,HMS8,HBW8,HBL8⟩
        case measure=>exact mS HLT
       ·subst h1
        have d2:decide ((0:Int)<(l2:Int))=true:=by simp;omega
        have d3:decide (0<l2)=true:=by simp;omega
        go_wp2_with (at_builtin;refine QJ ?_);unfold Qv;refine wpList_append_own_at _ rfl _ _ 157 rfl base 156 i0 (.agg #[.slice none 0 0,.slice none 0 0]) 2 48 Tryz.underlying157 hi0 hz0 hz1 hz2 rfl (by decide) (.slice A2 m2 c2) m2 _ rfl (HRW7.alloc _) ⟨w7.heap.size,0,none⟩ 1 1 [.slice U1 0 C1,.slice U2 l2 C2] rfl rfl (fun j u hu=>by rw[Addr.add_lit,Nat.zero_add];exact jS _ _ _ j u hu) (by simp[Value.oneCell']) (by unfold maxLen;omega) (by omega) (by simp;omega) ?_;intro v' w8 hown8 hg8 _ hat8;obtain⟨g8,c8,rfl,hrow8,hpi8,hki8,hbw8,hbl8⟩:=Za (w0:=w) (K:=⟨⟨U1,C1,F1⟩,⟨U2,C2,F2⟩⟩) HRW7 HPI7 (by rw[<- HLL.out.1];exact HKK7.1) (by rw[<- HLL.out.2];exact HKK7.2) ⟨HF1.2.2,HF1.2.1⟩ (by have h:=hown8;simp only[Pr.cells,It.val,<- HLL.out.1,<- HLL.out.2];exact h) hg8 hat8 (HBW.on HB7) (by rw[HBS.out];exact lR _) hbl7;have HRW8:=hid hrow8;have HPI8:=hid hpi8;have HII8:=hid (And.intro (hki8 _ _ _ _ HI7.1) (hki8 _ _ _ _ HI7.2));have HBW8:=hid hbw8;have HBL8:=hid hbl8;have HR8:Hid (r=(allP (⟨⟨U1,C1,F1⟩,⟨U2,C2,F2⟩⟩::S2)&&(xf.drp (q+1)).kidsSame (yf.drp (q+1)))):=hid (by
         rw[HF.out];simp only[allP,List.all_cons];cases F1.same F2 <;> cases S2.all (fun x=>x.a.f.same x.b.f) <;> simp)
        have HM8:Hid (m2+1=(⟨⟨U1,C1,F1⟩,⟨U2,C2,F2⟩⟩::S2:List Pr).length):=hid (by rw[HM2.out];rfl);have HMS8:Hid (msP (⟨⟨U1,C1,F1⟩,⟨U2,C2,F2⟩⟩::S2)+(xf.drp (q+1)).size<=msP S+xf.size):=hid (by have:=HMQ.out;simp only[msP];omega);clear hown8 hg8 hat8 hrow8 hpi8 hki8 hbw8 hbl8;go_wp2_with fail;go_roundw
        case rel=>exact⟨q+1,_,_,c8,m2+1,HLT,by go_num,rfl,HM8,HRW8,HPI8,HII8,HR8,HMS8,HBW8,HBL8⟩
        case measure=>exact mS HLT
      ·have d2:decide ((0:Int)<(l1:Int))=true:=by simp;omega
       have d3:decide (0<l1)=true:=by simp;omega
       go_wp2_with (at_builtin;refine QJ ?_);unfold Qv;refine wpList_append_own_at _ rfl _ _ 157 rfl base 156 i0 (.agg #[.slice none 0 0,.slice none 0 0]) 2 48 Tryz.underlying157 hi0 hz0 hz1 hz2 rfl (by decide) (.slice A2 m2 c2) m2 _ rfl (HRW7.alloc _) ⟨w7.heap.size,0,none⟩ 1 1 [.slice U1 l1 C1,.slice U2 l2 C2] rfl rfl (fun j u hu=>by rw[Addr.add_lit,Nat.zero_add];exact jS _ _ _ j u hu) (by simp[Value.oneCell']) (by unfold maxLen;omega) (by omega) (by simp;omega) ?_;intro v' w8 hown8 hg8 _ hat8;obtain⟨g8,c8,rfl,hrow8,hpi8,hki8,hbw8,hbl8⟩:=Za (w0:=w) (K:=⟨⟨U1,C1,F1⟩,⟨U2,C2,F2⟩⟩) HRW7 HPI7 (by rw[<- HLL.out.1];exact HKK7.1) (by rw[<- HLL.out.2];exact HKK7.2) ⟨HF1.2.2,HF1.2.1⟩ (by have h:=hown8;simp only[Pr.cells,It.val,<- HLL.out.1,<- HLL.out.2];exact h) hg8 hat8 (HBW.on HB7) (by rw[HBS.out];exact lR _) hbl7;have HRW8:=hid hrow8;have HPI8:=hid hpi8;have HII8:=hid (And.intro (hki8 _ _ _ _ HI7.1) (hki8 _ _ _ _ HI7.2));have HBW8:=hid hbw8;have HBL8:=hid hbl8;have HR8:Hid (r=(allP (⟨⟨U1,C1,F1⟩,⟨U2,C2,F2⟩⟩::S2)&&(xf.drp (q+1)).kidsSame (yf.drp (q+1)))):=hid (by
        rw[HF.out];simp only[allP,List.all_cons];cases F1.same F2 <;> cases S2.all (fun x=>x.a.f.same x.b.f) <;> simp)
       have HM8:Hid (m2+1=(⟨⟨U1,C1,F1⟩,⟨U2,C2,F2⟩⟩::S2:List Pr).length):=hid (by rw[HM2.out];rfl);have HMS8:Hid (msP (⟨⟨U1,C1,F1⟩,⟨U2,C2,F2⟩⟩::S2)+(xf.drp (q+1)).size<=msP S+xf.size):=hid (by have:=HMQ.out;simp only[msP];omega);clear hown8 hg8 hat8 hrow8 hpi8 hki8 hbw8 hbl8;go_wp2_with fail;go_roundw
       case rel=>exact⟨q+1,_,_,c8,m2+1,HLT,by go_num,rfl,HM8,HRW8,HPI8,HII8,HR8,HMS8,HBW8,HBL8⟩
       case measure=>exact mS HLT
     ·obtain rfl:q=xl:=by omega
      have HRE:Hid (r=allP S2):=hid (by rw[HRR.out,Tr.drp_end xf q (by rw[<- HXL.out];exact lR _),Tr.drp_end yf q (by rw[<- HYL.out];exact lR _)];simp[Tr.kidsSame]);have HMS2:Hid (msP S2<=1000001):=hid (by have:=HMM2.out;have:=HMB.out;omega);go_wp2_with fail;go_roundg (msP S2)
      case rel=>exact⟨S2,A2,c2,m2,rfl,HM2,hid rfl,HMS2,HR2,HP2,HRE,HBW,HBLX⟩
      case measure=>
       rw[HGK.out];have:=HMM2.out;simp only[msP];omega
set_option maxHeartbeats 4000000
abbrev qA:= "alike.go:11"
abbrev zy:= "walk.go:50"
def regKx:List Oper:=[
 ⟨some 51,.move (.tmp 2),71,zy,#[],none⟩,
 ⟨some 52,.move (.tmp 10),25,zy,#[],none⟩,
 ⟨some 53,.move (.tmp 12),3,zy,#[],none⟩,
 ⟨some 54,.indexAddr 25 (.tmp 52) (.tmp 53),0,zy,#[⟨1,.data⟩,⟨2,.data⟩],none⟩,
 ⟨some 55,.load 28 (.tmp 54),28,zy,#[⟨3,.data⟩],none⟩,
 ⟨some 56,.call ⟨.value (.tmp 51),#[.tmp 55],#[28]⟩,25,zy,#[⟨0,.data⟩,⟨4,.data⟩],none⟩,
 ⟨some 57,.move (.tmp 2),71,zy,#[],none⟩,
 ⟨some 58,.move (.tmp 11),25,zy,#[],none⟩,
 ⟨some 59,.move (.tmp 12),3,zy,#[],none⟩,
 ⟨some 60,.indexAddr 25 (.tmp 58) (.tmp 59),0,zy,#[⟨7,.data⟩,⟨8,.data⟩],none⟩,
 ⟨some 61,.load 28 (.tmp 60),28,zy,#[⟨9,.data⟩],none⟩,
 ⟨some 62,.call ⟨.value (.tmp 57),#[.tmp 61],#[28]⟩,25,zy,#[⟨6,.data⟩,⟨10,.data⟩,⟨5,.chain⟩],none⟩,
 ⟨some 13,.assign (.tmp 56),25,zy,#[⟨5,.data⟩,⟨11,.chain⟩,⟨0,.phase⟩,⟨1,.phase⟩,⟨2,.phase⟩,⟨3,.phase⟩,⟨4,.phase⟩,⟨5,.phase⟩,{ on:=6,ground:=Ground.textOnly Departure.lateStores },{ on:=7,ground:=Ground.textOnly Departure.lateStores },{ on:=8,ground:=Ground.textOnly Departure.lateStores },{ on:=9,ground:=Ground.textOnly Departure.lateStores },{ on:=10,ground:=Ground.textOnly Departure.lateStores },{ on:=11,ground:=Ground.textOnly Departure.lateStoresUnsure }],none⟩,
 ⟨some 14,.assign (.tmp 62),25,zy,#[⟨11,.data⟩,⟨12,.chain⟩,⟨0,.phase⟩,⟨1,.phase⟩,⟨2,.phase⟩,⟨3,.phase⟩,⟨4,.phase⟩,⟨5,.phase⟩,⟨6,.phase⟩,⟨7,.phase⟩,⟨8,.phase⟩,⟨9,.phase⟩,⟨10,.phase⟩,⟨11,.phase⟩,⟨12,.phase⟩],none⟩]
theorem qfA{id:Nat}(b1 o1 b2 o2 m ca cb j:Nat)(k1 n1 x1 l1 c1 k2 n2 x2 l2 c2:Int)(t1 t2:BA)(A1 B1 A2 B2:OA)(m1 d1 M1 D1 m2 d2 M2 D2:Nat)(F1 F2:Tr)(Ok:Nat->Prop)(z:Nat)(a0:Act)(w:World)(i1:(0:Int)<=(j:Int))(i2:(j:Int)<(m:Int))(hz:z<=w.drew.heap.size)(hok:∀ j,Ok j->j<w.drew.heap.size)(h1:b1<w.drew.heap.size)(h2:b2<w.drew.heap.size)(fa0:w.drew.cell? ⟨b1,o1+j*8,none⟩=some (.int .u8 k1))(fe0:w.drew.cell? ⟨b2,o2+j*8,none⟩=some (.int .u8 k2))(fa1:w.drew.cell? ⟨b1,o1+j*8+1,none⟩=some (.string t1))(fe1:w.drew.cell? ⟨b2,o2+j*8+1,none⟩=some (.string t2))(fa2:w.drew.cell? ⟨b1,o1+j*8+2,none⟩=some (.int .i64 n1))(fe2:w.drew.cell? ⟨b2,o2+j*8+2,none⟩=some (.int .i64 n2))(fa3:w.drew.cell? ⟨b1,o1+j*8+3,none⟩=some (.int .i64 x1))(fe3:w.drew.cell? ⟨b2,o2+j*8+3,none⟩=some (.int .i64 x2))(fa4:w.drew.cell? ⟨b1,o1+j*8+4,none⟩=some (.int .i64 l1))(fe4:w.drew.cell? ⟨b2,o2+j*8+4,none⟩=some (.int .i64 l2))(fa5:w.drew.cell? ⟨b1,o1+j*8+5,none⟩=some (.int .i64 c1))(fe5:w.drew.cell? ⟨b2,o2+j*8+5,none⟩=some (.int .i64 c2))(fa6:w.drew.cell? ⟨b1,o1+j*8+6,none⟩=some (.slice A1 m1 d1))(fe6:w.drew.cell? ⟨b2,o2+j*8+6,none⟩=some (.slice A2 m2 d2))(fa7:w.drew.cell? ⟨b1,o1+j*8+7,none⟩=some (.slice B1 M1 D1))(fe7:w.drew.cell? ⟨b2,o2+j*8+7,none⟩=some (.slice B2 M2 D2))(H1:∀ W,Bel w.drew W->Calls Tryz.prog 25 #[.agg #[.int .u8 k1,t1,n1,x1,l1,c1,.slice A1 m1 d1,.slice B1 M1 D1]] W (Qu W Ok .ex F1))(H2:∀ W,Bel w.drew W->Calls Tryz.prog 25 #[.agg #[.int .u8 k2,t2,n2,x2,l2,c2,.slice A2 m2 d2,.slice B2 M2 D2]] W (Qu W Ok .ex F2))(Q:Exit->Act->World->Prop)
  (hend:∀ (V:Nat->Value) (w':World),Bel w.drew w'->((∀ j,Ok j->j<w'.heap.size)/\∃ (A:OA) (c:Nat),(V 5)=.slice A F1.len c/\KidsTr w' (fun j=>Ok j∨(z<=j/\j<w'.heap.size)) .ex A F1.len c F1)->((∀ j,Ok j->j<w'.heap.size)/\∃ (A:OA) (c:Nat),(V 11)=.slice A F2.len c/\KidsTr w' (fun j=>Ok j∨(z<=j/\j<w'.heap.size)) .ex A F2.len c F2)->wpList Tryz.prog regKx.toArray Q (regKx.drop 12) (finP regKx 12 V a0) w') (hN:a0.tmps.size=78:=by kernel_rfl) (hp2:a0.eval (.tmp 2)=.func (.func 25) #[] #[]:=by kernel_rfl) (hp10:a0.eval (.tmp 10)=.slice (some ⟨b1,o1,none⟩) m ca:=by kernel_rfl) (hp11:a0.eval (.tmp 11)=.slice (some ⟨b2,o2,none⟩) m cb:=by kernel_rfl) (hp12:a0.eval (.tmp 12)=.int .i64 (j:Int):=by kernel_rfl) :
  (Code.region id regKx.toArray true).wp Tryz.prog Q a0 w:=by
 refine qW 12 78 a0 w (fun i v w=>match i with
  | 0=>v=.func (.func 25) #[] #[]
  | 1=>v=.slice (some ⟨b1,o1,none⟩) m ca
  | 2=>v=.int .i64 (j:Int)
  | 3=>v=.pointer (some ⟨b1,o1+j*8,none⟩)
  | 4=>v=.agg #[.int .u8 k1,t1,n1,x1,l1,c1,.slice A1 m1 d1,.slice B1 M1 D1]
  | 5=>(∀ j,Ok j->j<w.heap.size)/\∃ (A:OA) (c:Nat),v=.slice A F1.len c/\KidsTr w (fun j=>Ok j∨(z<=j/\j<w.heap.size)) .ex A F1.len c F1
  | 6=>v=.func (.func 25) #[] #[]
  | 7=>v=.slice (some ⟨b2,o2,none⟩) m cb
  | 8=>v=.int .i64 (j:Int)
  | 9=>v=.pointer (some ⟨b2,o2+j*8,none⟩)
  | 10=>v=.agg #[.int .u8 k2,t2,n2,x2,l2,c2,.slice A2 m2 d2,.slice B2 M2 D2]
  | 11=>(∀ j,Ok j->j<w.heap.size)/\∃ (A:OA) (c:Nat),v=.slice A F2.len c/\KidsTr w (fun j=>Ok j∨(z<=j/\j<w.heap.size)) .ex A F2.len c F2
  | _=>True) (by kernel_rfl) (by kernel_rfl) hN (by
   intro i v w w' hi h hb
   match i,hi,h with
   | 5,_,h=>obtain⟨q1,A,c,e,q2⟩:=h;exact⟨fun j hj=>lT (q1 j hj) hb.size,A,c,e,(q2.keep fun j hj=>hb.block j (by rcases hj with hj | hj;exact q1 j hj;exact hj.2)).wide fun j hj=>by rcases hj with hj | hj;exact .inl hj;exact .inr ⟨hj.1,lT hj.2 hb.size⟩⟩
   | 11,_,h=>obtain⟨q1,A,c,e,q2⟩:=h;exact⟨fun j hj=>lT (q1 j hj) hb.size,A,c,e,(q2.keep fun j hj=>hb.block j (by rcases hj with hj | hj;exact q1 j hj;exact hj.2)).wide fun j hj=>by rcases hj with hj | hj;exact .inl hj;exact .inr ⟨hj.1,lT hj.2 hb.size⟩⟩
   | 0,_,h | 1,_,h | 2,_,h | 3,_,h | 4,_,h | 6,_,h | 7,_,h | 8,_,h | 9,_,h | 10,_,h=>exact h
   | q+12,hi,_=>exact absurd hi (by omega)) ?_ ?_
 ·intro i' o hi' ho a w1 V hbel hd hpar K hK
  have p2':=dP (hpar 2 (by kernel_rfl)) hp2;have p10':=dP (hpar 10 (by kernel_rfl)) hp10;have p11':=dP (hpar 11 (by kernel_rfl)) hp11;have p12':=dP (hpar 12 (by kernel_rfl)) hp12;have ga0:=gX hbel h1 fa0;have ga1:=gX hbel h1 fa1;have ga2:=gX hbel h1 fa2;have ga3:=gX hbel h1 fa3;have ga4:=gX hbel h1 fa4;have ga5:=gX hbel h1 fa5;have ga6:=gX hbel h1 fa6;have ga7:=gX hbel h1 fa7;have gb0:=gX hbel h2 fe0;have gb1:=gX hbel h2 fe1;have gb2:=gX hbel h2 fe2;have gb3:=gX hbel h2 fe3;have gb4:=gX hbel h2 fe4;have gb5:=gX hbel h2 fe5;have gb6:=gX hbel h2 fe6;have gb7:=gX hbel h2 fe7;have ek:∀ args w,(callFunc 25 args).run Tryz.prog w=.ok (.enter 25 args) w:=fun args w=>by kernel_rfl
  have hzw:z<=w1.heap.size:=lL hz hbel.size
  match i',hi',ho,hd,hK with
  | 0,_,ho,hd,hK=>cases ho;exact oW hK rfl rfl (by simp[execOp,go_sem,p2'])
  | 1,_,ho,hd,hK=>cases ho;exact oW hK rfl rfl (by simp[execOp,go_sem,p10'])
  | 2,_,ho,hd,hK=>cases ho;exact oW hK rfl rfl (by simp[execOp,go_sem,p12'])
  | 3,_,ho,hd,hK=>cases ho;exact oW hK rfl rfl (by simp[execOp,go_sem,dE (hd 1 52 rfl),dE (hd 2 53 rfl),i1,i2])
  | 4,_,ho,hd,hK=>cases ho;exact oW hK rfl rfl (by simp[execOp,go_sem,dE (hd 3 54 rfl),ga0,ga1,ga2,ga3,ga4,ga5,ga6,ga7])
  | 5,_,ho,hd,hK=>cases ho;refine oN rfl ?_;refine zh (f:=25) (args:=#[.agg #[.int .u8 k1,t1,n1,x1,l1,c1,.slice A1 m1 d1,.slice B1 M1 D1]]) (by simp[execOp,go_sem,dE (hd 0 51 rfl),dE (hd 4 55 rfl),ek]) ((H1 w1 hbel).mono ?_);rintro e w' ⟨A,c,rfl,hb,hk⟩;exact⟨_,rfl,hK _ _ hb ⟨fun j hj=>lT (hok j hj) (lL hbel.size hb.size),A,c,rfl,hk.wide fun j hj=>by rcases hj with hj | hj;exact .inl hj;exact .inr ⟨lL hzw hj.1,hj.2⟩⟩⟩
  | 6,_,ho,hd,hK=>cases ho;exact oW hK rfl rfl (by simp[execOp,go_sem,p2'])
  | 7,_,ho,hd,hK=>cases ho;exact oW hK rfl rfl (by simp[execOp,go_sem,p11'])
  | 8,_,ho,hd,hK=>cases ho;exact oW hK rfl rfl (by simp[execOp,go_sem,p12'])
  | 9,_,ho,hd,hK=>cases ho;exact oW hK rfl rfl (by simp[execOp,go_sem,dE (hd 7 58 rfl),dE (hd 8 59 rfl),i1,i2])
  | 10,_,ho,hd,hK=>cases ho;exact oW hK rfl rfl (by simp[execOp,go_sem,dE (hd 9 60 rfl),gb0,gb1,gb2,gb3,gb4,gb5,gb6,gb7])
  | 11,_,ho,hd,hK=>cases ho;refine oN rfl ?_;refine zh (f:=25) (args:=#[.agg #[.int .u8 k2,t2,n2,x2,l2,c2,.slice A2 m2 d2,.slice B2 M2 D2]]) (by simp[execOp,go_sem,dE (hd 6 57 rfl),dE (hd 10 61 rfl),ek]) ((H2 w1 hbel).mono ?_);rintro e w' ⟨A,c,rfl,hb,hk⟩;exact⟨_,rfl,hK _ _ hb ⟨fun j hj=>lT (hok j hj) (lL hbel.size hb.size),A,c,rfl,hk.wide fun j hj=>by rcases hj with hj | hj;exact .inl hj;exact .inr ⟨lL hzw hj.1,hj.2⟩⟩⟩
  | q+12,hi,_,_,_=>exact absurd hi (by omega)
 ·intro V w' hb hF
  exact hend V w' hb (hF 5 (by omega)) (hF 11 (by omega))
def regAx:List Oper:=[
 ⟨some 5,.fieldAddr 28 (.tmp 2) 0,0,qA,#[],none⟩,
 ⟨some 6,.load 5 (.tmp 5),5,qA,#[⟨0,.data⟩],none⟩,
 ⟨some 7,.fieldAddr 28 (.tmp 3) 0,0,qA,#[],none⟩,
 ⟨some 8,.load 5 (.tmp 7),5,qA,#[⟨2,.data⟩],none⟩,
 ⟨some 9,.binOp .eql 5 (.tmp 6) (.tmp 8) 5,4,qA,#[⟨1,.data⟩,⟨3,.data⟩],none⟩,
 ⟨some 10,.move (.tmp 9),4,qA,#[⟨4,.data⟩],none⟩,
 ⟨some 11,.fieldAddr 28 (.tmp 2) 1,0,qA,#[⟨5,.guard⟩],some (5,true)⟩,
 ⟨some 12,.load 9 (.tmp 11),9,qA,#[⟨6,.data⟩,⟨5,.guard⟩],some (5,true)⟩,
 ⟨some 13,.fieldAddr 28 (.tmp 3) 1,0,qA,#[⟨5,.guard⟩],some (5,true)⟩,
 ⟨some 14,.load 9 (.tmp 13),9,qA,#[⟨8,.data⟩,⟨5,.guard⟩],some (5,true)⟩,
 ⟨some 15,.binOp .eql 9 (.tmp 12) (.tmp 14) 9,4,qA,#[⟨7,.data⟩,⟨9,.data⟩,⟨5,.guard⟩],some (5,true)⟩,
 ⟨some 16,.pick (.tmp 10) (.tmp 15) (.const (Value.bool false)),4,qA,#[⟨5,.data⟩,⟨10,.data⟩],none⟩,
 ⟨some 17,.move (.tmp 16),4,qA,#[⟨11,.data⟩,⟨5,.chain⟩],none⟩,
 ⟨some 18,.fieldAddr 28 (.tmp 2) 2,0,qA,#[⟨12,.guard⟩],some (12,true)⟩,
 ⟨some 19,.load 2 (.tmp 18),2,qA,#[⟨13,.data⟩,⟨12,.guard⟩],some (12,true)⟩,
 ⟨some 20,.fieldAddr 28 (.tmp 3) 2,0,qA,#[⟨12,.guard⟩],some (12,true)⟩,
 ⟨some 21,.load 2 (.tmp 20),2,qA,#[⟨15,.data⟩,⟨12,.guard⟩],some (12,true)⟩,
 ⟨some 22,.binOp .eql 2 (.tmp 19) (.tmp 21) 2,4,qA,#[⟨14,.data⟩,⟨16,.data⟩,⟨12,.guard⟩],some (12,true)⟩,
 ⟨some 23,.pick (.tmp 17) (.tmp 22) (.const (Value.bool false)),4,qA,#[⟨12,.data⟩,⟨17,.data⟩],none⟩,
 ⟨some 24,.move (.tmp 23),4,qA,#[⟨18,.data⟩,⟨12,.chain⟩],none⟩,
 ⟨some 25,.load 28 (.tmp 2),28,qA,#[⟨19,.guard⟩],some (19,true)⟩,
 ⟨some 26,.call ⟨.value (.func 63),#[.tmp 25],#[28]⟩,57,qA,#[⟨20,.data⟩,⟨19,.chain⟩,⟨19,.guard⟩],some (19,true)⟩,
 ⟨some 27,.load 28 (.tmp 3),28,qA,#[⟨19,.guard⟩],some (19,true)⟩,
 ⟨some 28,.call ⟨.value (.func 63),#[.tmp 27],#[28]⟩,57,qA,#[⟨22,.data⟩,⟨21,.chain⟩,⟨19,.guard⟩],some (19,true)⟩,
 ⟨some 29,.call ⟨.value (.func 86),#[.tmp 26,.tmp 28,.func 64,.func 87],#[57,57,115,134]⟩,4,qA,#[⟨21,.data⟩,⟨23,.data⟩,⟨23,.chain⟩,⟨19,.guard⟩],some (19,true)⟩,
 ⟨some 30,.pick (.tmp 24) (.tmp 29) (.const (Value.bool false)),4,qA,#[⟨19,.data⟩,⟨24,.data⟩],none⟩,
 ⟨some 4,.assign (.tmp 30),4,qA,#[⟨25,.data⟩,⟨24,.chain⟩,⟨0,.phase⟩,⟨1,.phase⟩,⟨2,.phase⟩,⟨3,.phase⟩,⟨4,.phase⟩,⟨5,.phase⟩,⟨6,.phase⟩,⟨7,.phase⟩,⟨8,.phase⟩,⟨9,.phase⟩,⟨10,.phase⟩,⟨11,.phase⟩,⟨12,.phase⟩,⟨13,.phase⟩,⟨14,.phase⟩,⟨15,.phase⟩,⟨16,.phase⟩,⟨17,.phase⟩,⟨18,.phase⟩,⟨19,.phase⟩,⟨20,.phase⟩,⟨21,.phase⟩,⟨22,.phase⟩,⟨23,.phase⟩,⟨24,.phase⟩,⟨25,.phase⟩],none⟩]
theorem qfv{id:Nat}(bx yb:Nat)(k1 n1 x1 l1 c1 x2 l2 c2:Int)(t1:BA)(A1 B1 A2 B2:OA)(m1 d1 M1 D1 m2 d2 M2 D2:Nat)(G1 G2:Tr)(q:Bool)(a0:Act)(w:World)(h1:bx<w.drew.heap.size)(h2:yb<w.drew.heap.size)(fa0:w.drew.cell? ⟨bx,0,none⟩=some (.int .u8 k1))(fe0:w.drew.cell? ⟨yb,0,none⟩=some (.int .u8 k1))(fa1:w.drew.cell? ⟨bx,1,none⟩=some (.string t1))(fe1:w.drew.cell? ⟨yb,1,none⟩=some (.string t1))(fa2:w.drew.cell? ⟨bx,2,none⟩=some (.int .i64 n1))(fe2:w.drew.cell? ⟨yb,2,none⟩=some (.int .i64 n1))(fa3:w.drew.cell? ⟨bx,3,none⟩=some (.int .i64 x1))(fe3:w.drew.cell? ⟨yb,3,none⟩=some (.int .i64 x2))(fa4:w.drew.cell? ⟨bx,4,none⟩=some (.int .i64 l1))(fe4:w.drew.cell? ⟨yb,4,none⟩=some (.int .i64 l2))(fa5:w.drew.cell? ⟨bx,5,none⟩=some (.int .i64 c1))(fe5:w.drew.cell? ⟨yb,5,none⟩=some (.int .i64 c2))(fa6:w.drew.cell? ⟨bx,6,none⟩=some (.slice A1 m1 d1))(fe6:w.drew.cell? ⟨yb,6,none⟩=some (.slice A2 m2 d2))(fa7:w.drew.cell? ⟨bx,7,none⟩=some (.slice B1 M1 D1))(fe7:w.drew.cell? ⟨yb,7,none⟩=some (.slice B2 M2 D2))(H1:∀ W,Bel w.drew W->Calls Tryz.prog 63 #[.agg #[.int .u8 k1,t1,n1,x1,l1,c1,.slice A1 m1 d1,.slice B1 M1 D1]] W (Qu W (OldT W) .pat G1))(H2:∀ W,Bel w.drew W->Calls Tryz.prog 63 #[.agg #[.int .u8 k1,t1,n1,x2,l2,c2,.slice A2 m2 d2,.slice B2 M2 D2]] W (Qu W (OldT W) .pat G2))(HS:∀ (A:OA) (c:Nat) (A':OA) (c':Nat) (W:World),KidsTr W (OldT W) .pat A G1.len c G1->KidsTr W (OldT W) .pat A' G2.len c' G2->Calls Tryz.prog 86 #[.slice A G1.len c,.slice A' G2.len c',.func (.func 64) #[] #[],.func (.func 87) #[] #[]] W (qu q W))(Q:Exit->Act->World->Prop)
  (hend:∀ (V:Nat->Value) (w':World),Bel w.drew w'->((V 25)=.bool q)->wpList Tryz.prog regAx.toArray Q (regAx.drop 26) (finP regAx 26 V a0) w') (hN:a0.tmps.size=31:=by kernel_rfl) (hp2:a0.eval (.tmp 2)=.pointer (some ⟨bx,0,none⟩):=by kernel_rfl) (hp3:a0.eval (.tmp 3)=.pointer (some ⟨yb,0,none⟩):=by kernel_rfl) :
  (Code.region id regAx.toArray true).wp Tryz.prog Q a0 w:=by
 refine qW 26 31 a0 w (fun i v w=>match i with
  | 0=>v=.pointer (some ⟨bx,0,none⟩)
  | 1=>v=.int .u8 k1
  | 2=>v=.pointer (some ⟨yb,0,none⟩)
  | 3=>v=.int .u8 k1
  | 4=>v=.bool true
  | 5=>v=.bool true
  | 6=>v=.pointer (some ⟨bx,1,none⟩)
  | 7=>v=.string t1
  | 8=>v=.pointer (some ⟨yb,1,none⟩)
  | 9=>v=.string t1
  | 10=>v=.bool true
  | 11=>v=.bool true
  | 12=>v=.bool true
  | 13=>v=.pointer (some ⟨bx,2,none⟩)
  | 14=>v=.int .i64 n1
  | 15=>v=.pointer (some ⟨yb,2,none⟩)
  | 16=>v=.int .i64 n1
  | 17=>v=.bool true
  | 18=>v=.bool true
  | 19=>v=.bool true
  | 20=>v=.agg #[.int .u8 k1,t1,n1,x1,l1,c1,.slice A1 m1 d1,.slice B1 M1 D1]
  | 21=>∃ (A:OA) (c:Nat),v=.slice A G1.len c/\KidsTr w (OldT w) .pat A G1.len c G1
  | 22=>v=.agg #[.int .u8 k1,t1,n1,x2,l2,c2,.slice A2 m2 d2,.slice B2 M2 D2]
  | 23=>∃ (A:OA) (c:Nat),v=.slice A G2.len c/\KidsTr w (OldT w) .pat A G2.len c G2
  | 24=>v=.bool q
  | 25=>v=.bool q
  | _=>True) (by kernel_rfl) (by kernel_rfl) hN (by
   intro i v w w' hi h hb
   match i,hi,h with
   | 21,_,h=>obtain⟨A,c,e,q2⟩:=h;exact⟨A,c,e,q2.bel hb⟩
   | 23,_,h=>obtain⟨A,c,e,q2⟩:=h;exact⟨A,c,e,q2.bel hb⟩
   | 0,_,h | 1,_,h | 2,_,h | 3,_,h | 4,_,h | 5,_,h | 6,_,h | 7,_,h | 8,_,h | 9,_,h | 10,_,h | 11,_,h | 12,_,h | 13,_,h | 14,_,h | 15,_,h | 16,_,h | 17,_,h | 18,_,h | 19,_,h | 20,_,h | 22,_,h | 24,_,h | 25,_,h=>exact h
   | q+26,hi,_=>exact absurd hi (by omega)) ?_ ?_
 ·intro i' o hi' ho a w1 V hbel hd hpar K hK
  have p2':=dP (hpar 2 (by kernel_rfl)) hp2;have p3':=dP (hpar 3 (by kernel_rfl)) hp3;have ga0:=gX hbel h1 fa0;have ga1:=gX hbel h1 fa1;have ga2:=gX hbel h1 fa2;have ga3:=gX hbel h1 fa3;have ga4:=gX hbel h1 fa4;have ga5:=gX hbel h1 fa5;have ga6:=gX hbel h1 fa6;have ga7:=gX hbel h1 fa7;have gb0:=gX hbel h2 fe0;have gb1:=gX hbel h2 fe1;have gb2:=gX hbel h2 fe2;have gb3:=gX hbel h2 fe3;have gb4:=gX hbel h2 fe4;have gb5:=gX hbel h2 fe5;have gb6:=gX hbel h2 fe6;have gb7:=gX hbel h2 fe7
  match i',hi',ho,hd,hK with
  | 0,_,ho,hd,hK=>cases ho;exact oW hK rfl rfl (by simp[execOp,go_sem,p2'])
  | 1,_,ho,hd,hK=>cases ho;exact oW hK rfl rfl (by simp[execOp,go_sem,dE (hd 0 5 rfl),ga0])
  | 2,_,ho,hd,hK=>cases ho;exact oW hK rfl rfl (by simp[execOp,go_sem,p3'])
  | 3,_,ho,hd,hK=>cases ho;exact oW hK rfl rfl (by simp[execOp,go_sem,dE (hd 2 7 rfl),gb0])
  | 4,_,ho,hd,hK=>cases ho;exact oW hK rfl rfl (by simp[execOp,go_sem,dE (hd 1 6 rfl),dE (hd 3 8 rfl)])
  | 5,_,ho,hd,hK=>cases ho;exact oW hK rfl rfl (by simp[execOp,go_sem,dE (hd 4 9 rfl)])
  | 6,_,ho,hd,hK=>cases ho;have eg:=dG (dE (v:= .bool true) (hd 5 10 rfl));refine⟨fun _=>?_,fun hw=>(yw_t (d:=10) rfl rfl eg hw).elim⟩;exact wV (by simp[execOp,go_sem,p2']) hK rfl
  | 7,_,ho,hd,hK=>cases ho;have eg:=dG (dE (v:= .bool true) (hd 5 10 rfl));refine⟨fun _=>?_,fun hw=>(yw_t (d:=10) rfl rfl eg hw).elim⟩;exact wV (by simp[execOp,go_sem,dE (hd 6 11 rfl),ga1]) hK rfl
  | 8,_,ho,hd,hK=>cases ho;have eg:=dG (dE (v:= .bool true) (hd 5 10 rfl));refine⟨fun _=>?_,fun hw=>(yw_t (d:=10) rfl rfl eg hw).elim⟩;exact wV (by simp[execOp,go_sem,p3']) hK rfl
  | 9,_,ho,hd,hK=>cases ho;have eg:=dG (dE (v:= .bool true) (hd 5 10 rfl));refine⟨fun _=>?_,fun hw=>(yw_t (d:=10) rfl rfl eg hw).elim⟩;exact wV (by simp[execOp,go_sem,dE (hd 8 13 rfl),gb1]) hK rfl
  | 10,_,ho,hd,hK=>cases ho;have eg:=dG (dE (v:= .bool true) (hd 5 10 rfl));refine⟨fun _=>?_,fun hw=>(yw_t (d:=10) rfl rfl eg hw).elim⟩;exact wV (by simp[execOp,go_sem,dE (hd 7 12 rfl),dE (hd 9 14 rfl)]) hK rfl
  | 11,_,ho,hd,hK=>cases ho;exact oW hK rfl rfl (by simp[execOp,go_sem,dE (hd 5 10 rfl),dE (hd 10 15 rfl)])
  | 12,_,ho,hd,hK=>cases ho;exact oW hK rfl rfl (by simp[execOp,go_sem,dE (hd 11 16 rfl)])
  | 13,_,ho,hd,hK=>cases ho;have eg:=dG (dE (v:= .bool true) (hd 12 17 rfl));refine⟨fun _=>?_,fun hw=>(yw_t (d:=17) rfl rfl eg hw).elim⟩;exact wV (by simp[execOp,go_sem,p2']) hK rfl
  | 14,_,ho,hd,hK=>cases ho;have eg:=dG (dE (v:= .bool true) (hd 12 17 rfl));refine⟨fun _=>?_,fun hw=>(yw_t (d:=17) rfl rfl eg hw).elim⟩;exact wV (by simp[execOp,go_sem,dE (hd 13 18 rfl),ga2]) hK rfl
  | 15,_,ho,hd,hK=>cases ho;have eg:=dG (dE (v:= .bool true) (hd 12 17 rfl));refine⟨fun _=>?_,fun hw=>(yw_t (d:=17) rfl rfl eg hw).elim⟩;exact wV (by simp[execOp,go_sem,p3']) hK rfl
  | 16,_,ho,hd,hK=>cases ho;have eg:=dG (dE (v:= .bool true) (hd 12 17 rfl));refine⟨fun _=>?_,fun hw=>(yw_t (d:=17) rfl rfl eg hw).elim⟩;exact wV (by simp[execOp,go_sem,dE (hd 15 20 rfl),gb2]) hK rfl
  | 17,_,ho,hd,hK=>cases ho;have eg:=dG (dE (v:= .bool true) (hd 12 17 rfl));refine⟨fun _=>?_,fun hw=>(yw_t (d:=17) rfl rfl eg hw).elim⟩;exact wV (by simp[execOp,go_sem,dE (hd 14 19 rfl),dE (hd 16 21 rfl)]) hK rfl
  | 18,_,ho,hd,hK=>cases ho;exact oW hK rfl rfl (by simp[execOp,go_sem,dE (hd 12 17 rfl),dE (hd 17 22 rfl)])
  | 19,_,ho,hd,hK=>cases ho;exact oW hK rfl rfl (by simp[execOp,go_sem,dE (hd 18 23 rfl)])
  | 20,_,ho,hd,hK=>cases ho;have eg:=dG (dE (v:= .bool true) (hd 19 24 rfl));refine⟨fun _=>?_,fun hw=>(yw_t (d:=24) rfl rfl eg hw).elim⟩;exact wV (by simp[execOp,go_sem,p2',ga0,ga1,ga2,ga3,ga4,ga5,ga6,ga7]) hK rfl
  | 21,_,ho,hd,hK=>cases ho;have eg:=dG (dE (v:= .bool true) (hd 19 24 rfl));refine⟨fun _=>?_,fun hw=>(yw_t (d:=24) rfl rfl eg hw).elim⟩;refine zh (f:=63) (args:=#[.agg #[.int .u8 k1,t1,n1,x1,l1,c1,.slice A1 m1 d1,.slice B1 M1 D1]]) (by simp[go_sem,dE (hd 20 25 rfl)]) ((H1 w1 hbel).mono ?_);rintro e w' ⟨A,c,rfl,hb,hk⟩;exact⟨_,rfl,hK _ _ hb ⟨A,c,rfl,hk.wide fun j hj=>by rcases hj with hj | hj;exact lT hj hb.size;exact hj.2⟩⟩
  | 22,_,ho,hd,hK=>cases ho;have eg:=dG (dE (v:= .bool true) (hd 19 24 rfl));refine⟨fun _=>?_,fun hw=>(yw_t (d:=24) rfl rfl eg hw).elim⟩;exact wV (by simp[execOp,go_sem,p3',gb0,gb1,gb2,gb3,gb4,gb5,gb6,gb7]) hK rfl
  | 23,_,ho,hd,hK=>cases ho;have eg:=dG (dE (v:= .bool true) (hd 19 24 rfl));refine⟨fun _=>?_,fun hw=>(yw_t (d:=24) rfl rfl eg hw).elim⟩;refine zh (f:=63) (args:=#[.agg #[.int .u8 k1,t1,n1,x2,l2,c2,.slice A2 m2 d2,.slice B2 M2 D2]]) (by simp[go_sem,dE (hd 22 27 rfl)]) ((H2 w1 hbel).mono ?_);rintro e w' ⟨A,c,rfl,hb,hk⟩;exact⟨_,rfl,hK _ _ hb ⟨A,c,rfl,hk.wide fun j hj=>by rcases hj with hj | hj;exact lT hj hb.size;exact hj.2⟩⟩
  | 24,_,ho,hd,hK=>cases ho;have eg:=dG (dE (v:= .bool true) (hd 19 24 rfl));refine⟨fun _=>?_,fun hw=>(yw_t (d:=24) rfl rfl eg hw).elim⟩;obtain⟨⟨A_21,c_21,hv21,hq21⟩,d21⟩:=hd 21 26 rfl;have e21':=d21.trans hv21;obtain⟨⟨A_23,c_23,hv23,hq23⟩,d23⟩:=hd 23 28 rfl;have e23':=d23.trans hv23;refine zh (f:=86) (args:=#[.slice A_21 G1.len c_21,.slice A_23 G2.len c_23,.func (.func 64) #[] #[],.func (.func 87) #[] #[]]) (by simp[go_sem,e21',e23']) ((HS A_21 c_21 A_23 c_23 w1 hq21 hq23).mono ?_);rintro e w' ⟨rfl,hb⟩;exact⟨_,rfl,hK _ _ hb rfl⟩
  | 25,_,ho,hd,hK=>cases ho;exact oW hK rfl rfl (by simp[execOp,go_sem,dE (hd 19 24 rfl),dE (hd 24 29 rfl)])
  | q+26,hi,_,_,_=>exact absurd hi (by omega)
 ·intro V w' hb hF
  exact hend V w' hb (hF 25 (by omega))
theorem qdp(k:Int)(s:LU)(n:Int)(p:Pl)(A:OA)(c:Nat)(B:OA)(bc:Nat)(kids arms:Tr)(k2:Int)(s2:LU)(n2:Int)(p2:Pl)(A2:OA)(c2:Nat)(B2:OA)(bc2:Nat)(kids2 arms2:Tr)(w:World)
  (hk:KidsTr w (OldT w) .ex A kids.len c kids) (ha:KidsTr w (OldT w) .arms B arms.len bc arms) (hk2:KidsTr w (OldT w) .ex A2 kids2.len c2 kids2) (ha2:KidsTr w (OldT w) .arms B2 arms2.len bc2 arms2) (hsz:kids.size+arms.size<=1000000) (hsz2:kids2.size+arms2.size<=1000000) :
  Calls Tryz.prog 38 #[.agg #[.int .u8 k,.string ⟨s.toArray⟩,n,p.a,p.l,p.c,.slice A kids.len c,.slice B arms.len bc],.agg #[.int .u8 k2,.string ⟨s2.toArray⟩,n2,p2.a,p2.l,p2.c,.slice A2 kids2.len c2,.slice B2 arms2.len bc2]] w (qu (decide (k=k2)&&decide (s=s2)&&decide (n=n2)&&patQ arms arms2) w):=by
 have HP1:Hid (∀ W,Bel w W->Calls Tryz.prog 63 #[.agg #[.int .u8 k,.string ⟨s.toArray⟩,n,p.a,p.l,p.c,.slice A kids.len c,.slice B arms.len bc]] W (Qu W (OldT W) .pat arms.pats)):=hid fun W hW=>jr k s n p A c B bc kids arms (OldT W) W (hk.bel hW) (ha.bel hW) (fun _ h=>h) (by have:=kids.len_le;omega) (by have:=arms.len_le;omega);have HP2:Hid (∀ W,Bel w W->Calls Tryz.prog 63 #[.agg #[.int .u8 k2,.string ⟨s2.toArray⟩,n2,p2.a,p2.l,p2.c,.slice A2 kids2.len c2,.slice B2 arms2.len bc2]] W (Qu W (OldT W) .pat arms2.pats)):=hid fun W hW=>jr k2 s2 n2 p2 A2 c2 B2 bc2 kids2 arms2 (OldT W) W (hk2.bel hW) (ha2.bel hW) (fun _ h=>h) (by have:=kids2.len_le;omega) (by have:=arms2.len_le;omega);have HS:Hid (∀ (A:OA) (c:Nat) (A':OA) (c':Nat) (W:World),KidsTr W (OldT W) .pat A arms.pats.len c arms.pats->KidsTr W (OldT W) .pat A' arms2.pats.len c' arms2.pats->Calls Tryz.prog 86 #[.slice A arms.pats.len c,.slice A' arms2.pats.len c',.func (.func 64) #[] #[],.func (.func 87) #[] #[]] W (qu (patQ arms arms2) W)):=hid fun A c A' c' W h1 h2=>qfW A arms.pats.len c A' arms2.pats.len c' arms.pats arms2.pats W h1 h2 (by have:=arms.pats_size;omega) (by have:=arms2.pats_size;omega);obtain⟨q,hq⟩:=nW (patQ arms arms2);rw[<- hq]at HS ⊢;obtain⟨G1,hG1⟩:=nW arms.pats;obtain⟨G2,hG2⟩:=nW arms2.pats;rw[<- hG1]at HP1;rw[<- hG2]at HP2;rw[<- hG1,<- hG2]at HS;obtain⟨l1,hl1⟩:=nW kids.len;obtain⟨l2,hl2⟩:=nW kids2.len;obtain⟨l3,hl3⟩:=nW arms.len;obtain⟨l4,hl4⟩:=nW arms2.len;rw[<- hl1,<- hl3]at HP1 ⊢;rw[<- hl2,<- hl4]at HP2 ⊢;have hne:s≠s2->(⟨s.toArray⟩:BA).toList≠(⟨s2.toArray⟩:BA).toList:=qc4;clear hk ha hk2 ha2 hsz hsz2 hq hG1 hG2 hl1 hl2 hl3 hl4;by_cases dk:k=k2
 case neg=>
  have e:(decide (k=k2)&&decide (s=s2)&&decide (n=n2)&&q)=false:=by simp[dk]
  rw[e];have ek:(k==k2)=false:=by simpa using dk
  clear hne e;go_enter Tryz.func38,Tryz.ntmps38;go_wp2_with fail;go_quiet (fail);go_wp2_with fail;go_ret;exact⟨rfl,(((Bel.refl w).alloc _).alloc _).drewN _⟩
 subst dk;by_cases ds:s=s2
 case neg=>
  have e:(decide (k=k)&&decide (s=s2)&&decide (n=n2)&&q)=false:=by simp[ds]
  rw[e];obtain⟨S,hS⟩:=nW (⟨s.toArray⟩:BA);obtain⟨S2,hS2⟩:=nW (⟨s2.toArray⟩:BA);have qn:=hne ds;rw[<- hS,<- hS2]at qn;rw[<- hS,<- hS2];have qb:(S.toList==S2.toList)=false:=by simpa using qn
  clear hne e hS hS2 ds HP1 HP2 HS;go_enter Tryz.func38,Tryz.ntmps38;go_wp2_with fail;go_quiet (fail);go_wp2_with fail;go_ret;exact⟨rfl,(((Bel.refl w).alloc _).alloc _).drewN _⟩
 subst ds;obtain⟨S,hS⟩:=nW (⟨s.toArray⟩:BA);rw[<- hS]at HP1 HP2 ⊢;by_cases dn:n=n2
 case neg=>
  have e:(decide (k=k)&&decide (s=s)&&decide (n=n2)&&q)=false:=by simp[dn]
  rw[e];have en:(n==n2)=false:=by simpa using dn
  clear hne e hS HP1 HP2 HS;go_enter Tryz.func38,Tryz.ntmps38;go_wp2_with fail;go_quiet (fail);go_wp2_with fail;go_ret;exact⟨rfl,(((Bel.refl w).alloc _).alloc _).drewN _⟩
 subst dn;have e:(decide (k=k)&&decide (s=s)&&decide (n=n)&&q)=q:=by simp
 rw[e];clear hne e hS;have q1:=blk2 w (.cells #[.int .u8 k,S,n,p.a,p.l,p.c,.slice A l1 c,.slice B l3 bc] 28) (.cells #[.int .u8 k,S,n,p2.a,p2.l,p2.c,.slice A2 l2 c2,.slice B2 l4 bc2] 28);go_enter Tryz.func38,Tryz.ntmps38;go_wp2_with fail;have hb1:Bel w ((w.alloc (.cells #[.int .u8 k,S,n,p.a,p.l,p.c,.slice A l1 c,.slice B l3 bc] 28)).alloc (.cells #[.int .u8 k,S,n,p2.a,p2.l,p2.c,.slice A2 l2 c2,.slice B2 l4 bc2] 28)):=((Bel.refl w).alloc _).alloc _;obtain⟨w1,hw1⟩:=nW ((w.alloc (.cells #[.int .u8 k,S,n,p.a,p.l,p.c,.slice A l1 c,.slice B l3 bc] 28)).alloc (.cells #[.int .u8 k,S,n,p2.a,p2.l,p2.c,.slice A2 l2 c2,.slice B2 l4 bc2] 28));have hs1:w1.heap.size=w.heap.size+2:=by rw[hw1];simp
 rw[<- hw1]at q1 hb1 ⊢;obtain⟨x0,x1,x2,x3,x4,x5,x6,x7⟩:=box8 q1.1;obtain⟨y0,y1,y2,y3,y4,y5,y6,y7⟩:=box8 q1.2;have HB1:=hid hb1;clear hw1 hb1 q1;refine qfv w.heap.size (w.heap.size+1) k n p.a p.l p.c p2.a p2.l p2.c S A B A2 B2 l1 c l3 bc l2 c2 l4 bc2 G1 G2 q _ w1 (by show w.heap.size<w1.heap.size;omega) (by show w.heap.size+1<w1.heap.size;omega) x0 y0 x1 y1 x2 y2 x3 y3 x4 y4 x5 y5 x6 y6 x7 y7 (fun W hW=>HP1 W (HB1.drew.on hW)) (fun W hW=>HP2 W (HB1.drew.on hW)) HS _ ?_;intro V w4 hb4 hv1;simp only[finP,zz,Nat.reduceAdd,jA,jB,jC,jD,jE,regAx,jF,jG,hv1];have HB4:=hid (HB1.drew.on hb4);clear hb4 hv1 x0 x1 x2 x3 x4 x5 x6 x7 y0 y1 y2 y3 y4 y5 y6 y7;go_wp2_with fail;go_ret;exact⟨rfl,HB4⟩
theorem qio(A:OA)(n c:Nat)(B:OA)(m d:Nat)(f g:Tr)(w:World)(hk:KidsTr w (OldT w) .ex A n c f)(hk2:KidsTr w (OldT w) .ex B m d g)(hsz:f.size<=1000000)(hsz2:g.size<=1000000) :
  Calls Tryz.prog 85 #[.slice A n c,.slice B m d,.func (.func 38) #[] #[]] w (qu (f.hds patQ g) w):=by
 have H:=hid hk;have H2:=hid hk2;have HL:Hid (n=f.len):=hid hk.1;have HL2:Hid (m=g.len):=hid hk2.1;have HSZ:=hid (And.intro hsz hsz2);have hn:n<=1000000:=by have:=hk.1;have:=f.len_le;omega
 have hm:m<=1000000:=by have:=hk2.1;have:=g.len_le;omega
 obtain⟨r,hr⟩:=nW (f.hds patQ g);rw[<- hr];have HR:=hid hr;clear hk hk2 hsz hsz2 hr;have eg:∀ args w,(callFunc 38 args).run Tryz.prog w=.ok (.enter 38 args) w:=fun args w=>by kernel_rfl
 by_cases hnm:n=m
 case neg=>
  obtain rfl:r=false:=by
   rw[HR.out,Bool.eq_false_iff];intro h;have:=Tr.hds_len _ _ _ h;exact hnm (by rw[HL.out,HL2.out,this])
  have e0:((n:Int) != (m:Int))=true:=by simp;omega
  go_enter Tryz.func85,Tryz.ntmps85;go_wp2_with fail;go_ret;exact⟨rfl,Bel.refl _⟩
 subst hnm;go_enter Tryz.func85,Tryz.ntmps85;go_wp2_with fail;go_loopw [17] (fun i wr=>∃ j:Nat,j<=n/\i=.int .i64 (j:Int)/\Hid (r=(f.drp j).hds patQ (g.drp j))/\Hid (Bel w wr)) (fun i _=>n-(intOf i).toNat)
 case atStart=>exact⟨0,zL _,rfl,hid (by rw[Tr.drp_zero,Tr.drp_zero];exact HR),hid (Bel.refl _)⟩
 case round=>
  obtain⟨j,hj,rfl,HRJ,HB⟩:=hrel;by_cases hlt:j<n
  ·obtain⟨ub,uo,eA,hob,hfo⟩:=(H.bel HB).2.2 (by omega)
   obtain⟨ub2,uo2,eA2,hob2,hfo2⟩:=(H2.bel HB).2.2 (by omega);subst eA eA2;obtain⟨k,s,nn,p,kids,arms,en,hd⟩:=TrAt.nod_at (by intro e;cases e) f j ub uo hfo (by rw[<- HL.out];exact hlt);obtain⟨k2,s2,nn2,p2,kids2,arms2,en2,hd2⟩:=TrAt.nod_at (by intro e;cases e) g j ub2 uo2 hfo2 (by rw[<- HL2.out];exact hlt);obtain⟨A',ca',B',cb',hc,hk',ha',_⟩:=hd.parts;obtain⟨A2',ca2',B2',cb2',hc2,hk2',ha2',_⟩:=hd2.parts;have hsn:=Tr.nth_size f j;have hsn2:=Tr.nth_size g j;rw[en]at hsn;rw[en2]at hsn2;simp only[Tr.size]at hsn hsn2;obtain⟨hb,hhb⟩:=nW (decide (k=k2)&&decide (s=s2)&&decide (nn=nn2)&&patQ arms arms2);have HRN:Hid (r=(hb&&(f.drp (j+1)).hds patQ (g.drp (j+1)))):=hid (by
    rw[HRJ.out,Tr.drp_at f j en,Tr.drp_at g j en2,hhb];rfl)
   have HC:Hid (∀ W,Bel wr W->Calls Tryz.prog 38 #[.agg #[.int .u8 k,.string ⟨s.toArray⟩,nn,p.a,p.l,p.c,.slice A' kids.len ca',.slice B' arms.len cb'],.agg #[.int .u8 k2,.string ⟨s2.toArray⟩,nn2,p2.a,p2.l,p2.c,.slice A2' kids2.len ca2',.slice B2' arms2.len cb2']] W (qu hb W)):=hid fun W hW=>by
    rw[hhb];have hW':Bel w W:=HB.on hW;rcases ha' with ⟨_,ha'⟩ | ⟨e | e,_⟩
    ·rcases ha2' with ⟨_,ha2'⟩ | ⟨e | e,_⟩
     ·exact qdp k s nn p A' ca' B' cb' kids arms k2 s2 nn2 p2 A2' ca2' B2' cb2' kids2 arms2 W (hk'.bel hW) (ha'.bel hW) (hk2'.bel hW) (ha2'.bel hW) (by have:=HSZ.out;omega) (by have:=HSZ.out;omega)
     ·cases e
     ·cases e
    ·cases e
    ·cases e
   have y0:=hc 0 _ rfl;have y1:=hc 1 _ rfl;have y2:=hc 2 _ rfl;have y3:=hc 3 _ rfl;have y4:=hc 4 _ rfl;have y5:=hc 5 _ rfl;have y6:=hc 6 _ rfl;have y7:=hc 7 _ rfl;have z0:=hc2 0 _ rfl;have z1:=hc2 1 _ rfl;have z2:=hc2 2 _ rfl;have z3:=hc2 3 _ rfl;have z4:=hc2 4 _ rfl;have z5:=hc2 5 _ rfl;have z6:=hc2 6 _ rfl;have z7:=hc2 7 _ rfl;simp only[nZz,Sh.kd,Sh.sz]at y0 y1 y2 y3 y4 y5 y6 y7 z0 z1 z2 z3 z4 z5 z6 z7;obtain⟨l1,hl1⟩:=nW kids.len;obtain⟨l2,hl2⟩:=nW kids2.len;obtain⟨l3,hl3⟩:=nW arms.len;obtain⟨l4,hl4⟩:=nW arms2.len;obtain⟨SS,hSS⟩:=nW (⟨s.toArray⟩:BA);obtain⟨SS2,hSS2⟩:=nW (⟨s2.toArray⟩:BA);rw[<- hSS,<- hSS2,<- hl1,<- hl2,<- hl3,<- hl4]at HC;rw[<- hSS]at y1;rw[<- hSS2]at z1;rw[<- hl1]at y6;rw[<- hl2]at z6;rw[<- hl3]at y7;rw[<- hl4]at z7;have i1:(0:Int)<=(j:Int):=by omega
   have i2:(j:Int)<(n:Int):=by omega
   have HLT:=hid hlt;clear hc hc2 hk' hk2' ha' ha2' hsn hsn2 en en2 hd hd2 hfo hfo2 hl1 hl2 hl3 hl4 hSS hSS2 hhb;have hob':ub<wr.heap.size:=hob;have hob2':ub2<wr.heap.size:=hob2;clear hob hob2;go_wp2_with fail;refine (HC _ (((Bel.refl wr).alloc _).alloc _)).mono ?_;rintro e w3 ⟨rfl,hb3⟩;have HB3:=hid (((HB.alloc _).alloc _).on hb3);clear hb3 HC y0 y1 y2 y3 y4 y5 y6 y7 z0 z1 z2 z3 z4 z5 z6 z7;cases hb
   ·obtain rfl:r=false:=by rw[HRN.out];rfl
    go_wp2_with fail;go_ret;exact⟨rfl,HB3⟩
   ·have HR':Hid (r=(f.drp (j+1)).hds patQ (g.drp (j+1))):=hid (by rw[HRN.out];rfl)
    go_wp2_with fail;go_roundw
    case rel=>exact⟨j+1,HLT,by go_num,HR',HB3⟩
    case measure=>exact mS HLT
  ·obtain rfl:j=n:=by omega
   obtain rfl:r=true:=by rw[HRJ.out,Tr.drp_end f j (by rw[<- HL.out];exact lR _),Tr.drp_end g j (by rw[<- HL2.out];exact lR _)];rfl
   go_wp2_with fail;go_ret;exact⟨rfl,HB⟩
theorem qgY:(Tryz.prog.info? 130).map (fun i=>(i.zero,i.size,i.bytes))=some (some (.agg #[.slice none 0 0,.slice none 0 0]),2,48):=by kernel_rfl
theorem qfX(A:OA)(n c:Nat)(B:OA)(m d:Nat)(f g:Tr)(w:World)(hk:KidsTr w (OldT w) .ex A n c f)(hk2:KidsTr w (OldT w) .ex B m d g)(hsz:f.size<=1000000)(hsz2:g.size<=1000000) :
  Calls Tryz.prog 37 #[.slice A n c,.slice B m d,.func (.func 25) #[] #[],.func (.func 38) #[] #[]] w (qu (f.same g) w):=by
 have HK:=hid hk;have HK2:=hid hk2;have HSZ:=hid (And.intro hsz hsz2);obtain⟨r,hr⟩:=nW (f.same g);rw[<- hr];have HR:=hid hr;have HN:=hid (And.intro hk.1 hk2.1);clear hk hk2 hsz hsz2 hr;obtain⟨i0,hi0,hz0,hz1,hz2⟩:=info_parts qgY;have eg:∀ args w,(callFunc 38 args).run Tryz.prog w=.ok (.enter 38 args) w:=fun args w=>by kernel_rfl
 have ek:∀ args w,(callFunc 25 args).run Tryz.prog w=.ok (.enter 25 args) w:=fun args w=>by kernel_rfl
 go_enter Tryz.func37,Tryz.ntmps37;go_wp2_with fail;obtain⟨base,hbase⟩:=nW w.heap.size;obtain⟨w1,hw1⟩:=nW (w.alloc (.cells #[.slice A n c,.slice B m d] 130));have hb1:Bel w w1:=by rw[hw1];exact (Bel.refl w).alloc _
 have hq1:w1.heap[base]?=some (.cells #[.slice A n c,.slice B m d] 130 (0,0)):=by rw[hw1,hbase];exact blk1 w _
 have hs1:w1.heap.size=base+1:=by rw[hw1,hbase];simp
 rw[<- hw1,<- hbase];have HBS:=hid hbase;have HB1:=hid hb1;have HB2:Hid (base<=w1.heap.size):=hid (by omega);have HRW:Hid (w1.ownsRow base 130 2 (.slice (some ⟨base,0,none⟩) 1 1) 1 (prV [⟨⟨A,c,f⟩,⟨B,d,g⟩⟩])):=hid ⟨rfl,.inr ⟨base,1,_,rfl,lR _,hq1,lR _,by unfold maxLen;omega,rfl,by simp[prV,Pr.cells,It.val,<- HN.out.1,<- HN.out.2]⟩⟩;have HPI:Hid (PrI w1 (some ⟨base,0,none⟩) .ex [⟨⟨A,c,f⟩,⟨B,d,g⟩⟩]):=hid (by
  intro x hx;simp at hx;subst hx;have hw:∀ j,OldT w j->OkI w1 (fun _=>False) (some ⟨base,0,none⟩) j:=fun j hj=>⟨lT hj hb1.size,fun h=>h,fun o e=>by cases e;have:base<w.heap.size:=hj;omega⟩
  have k1:=HK.out;have k2:=HK2.out;rw[HN.out.1]at k1;rw[HN.out.2]at k2;exact⟨⟨(k1.keep fun j hj=>hb1.block j hj).wide hw,HSZ.1⟩,⟨(k2.keep fun j hj=>hb1.block j hj).wide hw,HSZ.2⟩⟩)
 have HRA:Hid (r=allP [⟨⟨A,c,f⟩,⟨B,d,g⟩⟩]):=hid (by rw[HR.out];simp[allP]);have HMP:Hid (msP [⟨⟨A,c,f⟩,⟨B,d,g⟩⟩]<=1000001):=hid (by have:=HSZ.1;simp only[msP];omega);clear hb1 hq1 hs1 hw1 hbase HK HK2 HSZ HR HN;go_loopg [9] (msP [⟨⟨A,c,f⟩,⟨B,d,g⟩⟩]) (fun gk v wr=>∃ (S:List Pr) (A:OA) (cc m:Nat),v=.slice A m cc/\Hid (m=S.length)/\Hid (gk=msP S)/\Hid (msP S<=1000001)/\Hid (wr.ownsRow base 130 2 (.slice A m cc) m (prV S))/\Hid (PrI wr A .ex S)/\Hid (r=allP S)/\Hid (Bel w wr)/\Hid (base<=wr.heap.size))
 case atStart=>exact⟨_,_,_,_,rfl,hid rfl,hid rfl,HMP,HRW,HPI,HRA,HB1,HB2⟩
 case round=>
  clear HRW HPI HRA HB1 HB2 HMP;obtain⟨S,A,cc,m,rfl,HM,HGK,HMS,HRW,HPI,HRA,HB,HBL⟩:=hrel;cases S with
  | nil=>
   obtain rfl:m=0:=HM.out;obtain rfl:r=true:=by rw[HRA.out];rfl
   go_wp2_with fail;go_ret;exact⟨rfl,HB⟩
  | cons x S=>
   obtain⟨mm,hmm⟩:=nW S.length;have hm:m=mm+1:=by rw[hmm];exact HM
   subst hm;obtain⟨g',eA,hbg,hgl,hcc,hcm,hca,hcb,hrow⟩:=qhY hmm HRW;subst eA;obtain⟨⟨xA,xc,xf⟩,⟨yA,yc,yf⟩⟩:=x;obtain⟨⟨kx,sx⟩,⟨ky,sy⟩⟩:=HPI.out _ List.mem_cons_self;simp only at kx ky sx sy;obtain⟨xl,hxl⟩:=nW xf.len;obtain⟨yl,hyl⟩:=nW yf.len;simp only[It.val,<- hxl]at hca;simp only[It.val,<- hyl]at hcb;rw[<- hxl]at kx;rw[<- hyl]at ky;obtain⟨hb,hhb⟩:=nW (xf.hds patQ yf);have hOld:∀ j,OkI wr (fun _=>False) (some ⟨g',0,none⟩) j->OldT wr j:=fun j hj=>hj.1;have HE:Hid (∀ W,Bel wr W->Calls Tryz.prog 85 #[.slice xA xl xc,.slice yA yl yc,.func (.func 38) #[] #[]] W (qu hb W)):=hid fun W hW=>by
    rw[hhb];exact qio xA xl xc yA yl yc xf yf W ((kx.wide hOld).bel hW) ((ky.wide hOld).bel hW) sx sy
   have HSP:Hid (r=((hb&&xf.kidsSame yf)&&allP S)):=hid (by
    rw[HRA.out];simp only[allP,List.all_cons];rw[hhb,<- Tr.same_split xf yf (kx.isNods (by intro e;cases e)) (ky.isNods (by intro e;cases e)) kx.ok ky.ok])
   have HKX:=hid kx;have HKY:=hid ky;have HSXY:=hid (And.intro sx sy);have HHB:=hid hhb;have HXL:=hid hxl;have HYL:=hid hyl;have HROW:=hid hrow;have HBG:=hid hbg;have HMM:=hid hmm;have hm63:mm+1<=9223372036854775807:=by unfold maxLen at hcm;omega
   have i0':(0:Int)<=(mm:Int):=by omega
   have i1:(mm:Int)<(mm:Int)+1:=by omega
   have i4:(mm:Int)<=(cc:Int):=by omega
   have z0:=qd hgl hca;have z1:=qd hgl hcb;clear kx ky sx sy hhb hxl hyl hrow hbg hmm hcm hOld HRW HRA;go_wp2_with fail;go_quiet (fail);have HB4:Hid (∀ k,Bel wr (wr.drewN k)):=hid fun k=>(Bel.refl wr).drewN k;go_wp2_with fail;clear z0 z1 hca hcb;refine (HE _ (HB4 _)).mono ?_;rintro e w5 ⟨rfl,hb5⟩;have HB5:=hid ((HB4 _).on hb5);have HBW5:=hid (HB.on ((HB4 _).on hb5));clear hb5 HE HB4;cases hb
   ·obtain rfl:r=false:=by rw[HSP.out];rfl
    go_wp2_with fail;go_ret;exact⟨rfl,HBW5⟩
   ·have hlen:xl=yl:=by rw[HXL.out,HYL.out];exact Tr.hds_len _ _ _ HHB.out.symm
    subst hlen;have hxl2:xl<=1000000:=by rw[HXL.out];have:=xf.len_le;have:=HSXY.1;omega
    have hst:∀ j,OkI wr (fun _=>False) (some ⟨g',0,none⟩) j->w5.heap[j]?=wr.heap[j]?:=fun j hj=>HB5.block j hj.1;have HIN:Hid (KidsTr w5 (OkI w5 (fun _=>False) (some ⟨g',0,none⟩)) .ex xA xl xc xf/\KidsTr w5 (OkI w5 (fun _=>False) (some ⟨g',0,none⟩)) .ex yA xl yc yf):=hid ⟨HKX.out.stepI HB5.size hst (fun _ h=>h.elim) (fun j o e=> .inl ⟨o,e⟩),HKY.out.stepI HB5.size hst (fun _ h=>h.elim) (fun j o e=> .inl ⟨o,e⟩)⟩;have HPS:Hid (PrI w5 (some ⟨g',0,none⟩) .ex S):=hid (PrI.step (fun y hy=>HPI y (mCc _ hy)) HB5.size hst (fun j o e=> .inl ⟨o,e⟩));have HRO:Hid (w5.ownsRow base 130 2 (.slice (some ⟨g',0,none⟩) mm cc) mm (prV S)):=hid (qG HROW HB5);have HBL5:Hid (base<=w5.heap.size):=hid (lL HBL HB5.size);have HRI:Hid (r=(allP S&&(xf.drp 0).kidsSame (yf.drp 0))):=hid (by rw[Tr.drp_zero,Tr.drp_zero,HSP.out,Bool.true_and,Bool.and_comm]);have HMI:Hid (msP S+(xf.drp 0).size<=msP S+xf.size):=hid (by rw[Tr.drp_zero];exact lR _);have HMB:Hid (msP S+xf.size<=1000000):=hid (by have:=HMS.out;simp only[msP]at this;omega);have HM':=HMM;clear hst HKX HKY HB5 HPI HROW HSP HHB;go_wp2_with fail;go_loopw [9,48] (fun v iv wx=>∃ (q:Nat) (S2:List Pr) (A2:OA) (c2 m2:Nat),q<=xl/\iv=.int .i64 (q:Int)/\v=.slice A2 m2 c2/\Hid (m2=S2.length)/\Hid (wx.ownsRow base 130 2 (.slice A2 m2 c2) m2 (prV S2))/\Hid (PrI wx A2 .ex S2)/\Hid (KidsTr wx (OkI wx (fun _=>False) A2) .ex xA xl xc xf/\KidsTr wx (OkI wx (fun _=>False) A2) .ex yA xl yc yf)/\Hid (r=(allP S2&&(xf.drp q).kidsSame (yf.drp q)))/\Hid (msP S2+(xf.drp q).size<=msP S+xf.size)/\Hid (Bel w wx)/\Hid (base<=wx.heap.size)) (fun _ i _=>xl-(intOf i).toNat)
    case atStart=>exact⟨0,S,_,_,_,zL _,rfl,rfl,HMM,HRO,HPS,HIN,HRI,HMI,HBW5,HBL5⟩
    case round=>
     clear HRO HPS HIN HRI HMI HBW5 HBL5;obtain⟨q,S2,A2,c2,m2,hq,rfl,rfl,HM2,HR2,HP2,HI2,HRR,HMM2,HBW,HBLX⟩:=hrel;obtain⟨wx,rfl⟩:=nW (wr:World);by_cases hlt:q<xl
     ·obtain⟨ub,uo,eA,hob,hfo⟩:=HI2.1.2.2 (by omega)
      obtain⟨ub2,uo2,eA2,hob2,hfo2⟩:=HI2.2.2.2 (by omega);subst eA eA2;obtain⟨k,s,nn,p,kids,arms,en,hd⟩:=TrAt.nod_at (by intro e;cases e) xf q ub uo hfo (by rw[<- HXL.out];exact hlt);obtain⟨k2,s2,nn2,p2,kids2,arms2,en2,hd2⟩:=TrAt.nod_at (by intro e;cases e) yf q ub2 uo2 hfo2 (by rw[<- HYL.out];exact hlt);obtain⟨A',ca',B',cb',hc,hk',ha',_⟩:=hd.parts;obtain⟨A2',ca2',B2',cb2',hc2,hk2',ha2',_⟩:=hd2.parts;have hdq:=Tr.drp_at xf q en;have hdq2:=Tr.drp_at yf q en2;have hdsz:=Tr.drp_size xf q;have hdsz2:=Tr.drp_size yf q;rw[hdq]at hdsz;rw[hdq2]at hdsz2;simp only[Tr.size]at hdsz hdsz2;have sx1:=HSXY.1;have sy1:=HSXY.2;obtain⟨F1,hF1⟩:=nW (kids.app arms.exs);obtain⟨F2,hF2⟩:=nW (kids2.app arms2.exs);have HF:Hid (r=(allP S2&&(F1.same F2&&(xf.drp (q+1)).kidsSame (yf.drp (q+1))))):=hid (by
       rw[HRR.out,hdq,hdq2,hF1,hF2];rfl)
      have hex:=Tr.exs_size arms;have hex2:=Tr.exs_size arms2;have HF1:Hid (F1.size<=kids.size+arms.size/\F2.size<=1000000/\F1.size<=1000000):=hid (by rw[hF1,hF2,Tr.app_size,Tr.app_size];omega);have HMQ:Hid (msP S2+(1+F1.size+(xf.drp (q+1)).size)<=msP S+xf.size):=hid (by
       have h:=HMM2.out;rw[hdq]at h;simp only[Tr.size]at h;have:=HF1.1;omega)
      have HC1:Hid (∀ W,Bel wx W->Calls Tryz.prog 25 #[.agg #[.int .u8 k,.string ⟨s.toArray⟩,nn,p.a,p.l,p.c,.slice A' kids.len ca',.slice B' arms.len cb']] W (Qu W (OkI wx (fun _=>False) A2) .ex F1)):=hid fun W hW=>by
       rw[hF1];rcases ha' with ⟨_,ha'⟩ | ⟨e | e,_⟩
       ·exact jp k s nn p A' ca' B' cb' kids arms (OkI wx (fun _=>False) A2) W (hk'.keep fun j hj=>hW.block j hj.1) (ha'.keep fun j hj=>hW.block j hj.1) (fun j hj=>lT hj.1 hW.size) (by have:=kids.len_le;omega) (by have:=arms.len_le;omega)
       ·cases e
       ·cases e
      have HC2:Hid (∀ W,Bel wx W->Calls Tryz.prog 25 #[.agg #[.int .u8 k2,.string ⟨s2.toArray⟩,nn2,p2.a,p2.l,p2.c,.slice A2' kids2.len ca2',.slice B2' arms2.len cb2']] W (Qu W (OkI wx (fun _=>False) A2) .ex F2)):=hid fun W hW=>by
       rw[hF2];rcases ha2' with ⟨_,ha2'⟩ | ⟨e | e,_⟩
       ·exact jp k2 s2 nn2 p2 A2' ca2' B2' cb2' kids2 arms2 (OkI wx (fun _=>False) A2) W (hk2'.keep fun j hj=>hW.block j hj.1) (ha2'.keep fun j hj=>hW.block j hj.1) (fun j hj=>lT hj.1 hW.size) (by have:=kids2.len_le;omega) (by have:=arms2.len_le;omega)
       ·cases e
       ·cases e
      have y0:=hc 0 _ rfl;have y1:=hc 1 _ rfl;have y2:=hc 2 _ rfl;have y3:=hc 3 _ rfl;have y4:=hc 4 _ rfl;have y5:=hc 5 _ rfl;have y6:=hc 6 _ rfl;have y7:=hc 7 _ rfl;have z0:=hc2 0 _ rfl;have z1:=hc2 1 _ rfl;have z2:=hc2 2 _ rfl;have z3:=hc2 3 _ rfl;have z4:=hc2 4 _ rfl;have z5:=hc2 5 _ rfl;have z6:=hc2 6 _ rfl;have z7:=hc2 7 _ rfl;simp only[nZz,Sh.kd,Sh.sz]at y0 y1 y2 y3 y4 y5 y6 y7 z0 z1 z2 z3 z4 z5 z6 z7;obtain⟨l1,hl1⟩:=nW kids.len;obtain⟨l2,hl2⟩:=nW kids2.len;obtain⟨l3,hl3⟩:=nW arms.len;obtain⟨l4,hl4⟩:=nW arms2.len;obtain⟨SS,hSS⟩:=nW (⟨s.toArray⟩:BA);obtain⟨SS2,hSS2⟩:=nW (⟨s2.toArray⟩:BA);rw[<- hSS]at y1;rw[<- hSS2]at z1;rw[<- hl1]at y6;rw[<- hl2]at z6;rw[<- hl3]at y7;rw[<- hl4]at z7;rw[<- hSS,<- hl1,<- hl3]at HC1;rw[<- hSS2,<- hl2,<- hl4]at HC2;have j1:(0:Int)<=(q:Int):=by omega
      have j2:(q:Int)<(xl:Int):=by omega
      have HLT:=hid hlt;have hob':ub<wx.heap.size:=hob.1;have hob2':ub2<wx.heap.size:=hob2.1;clear hc hc2 hk' hk2' ha' ha2' en en2 hd hd2 hfo hfo2 hl1 hl2 hl3 hl4 hSS hSS2 hdq hdq2 hdsz hdsz2 sx1 sy1 hex hex2 hob hob2 hF1 hF2;have hA2:∀ j o,A2=some ⟨j,o,none⟩->j<wx.heap.size:=by
       intro j o e;subst e;exact (HR2.out.lt j rfl).2
      have HA2:=hid hA2;clear hA2;go_wp2_with fail;refine qfA ub uo ub2 uo2 xl xc yc q k nn p.a p.l p.c k2 nn2 p2.a p2.l p2.c SS SS2 A' B' A2' B2' l1 ca' l3 cb' l2 ca2' l4 cb2' F1 F2 (OkI wx (fun _=>False) A2) wx.heap.size _ wx j1 j2 (lR _) (fun j hj=>hj.1) hob' hob2' y0 z0 y1 z1 y2 z2 y3 z3 y4 z4 y5 z5 y6 z6 y7 z7 (fun W hW=>HC1 W ((Bel.refl wx).drew.on hW)) (fun W hW=>HC2 W ((Bel.refl wx).drew.on hW)) _ ?_;intro V w7 hb7 hv5 hv11;obtain⟨_,U1,C1,e5,hk5⟩:=hv5;obtain⟨_,U2,C2,e11,hk11⟩:=hv11;simp only[finP,zz,Nat.reduceAdd,jA,jB,jC,jD,jE,regKx,jF,jG,e5,e11];have HB7:Hid (Bel wx w7):=hid ((Bel.refl wx).drew.on hb7);have hwd:∀ j,(OkI wx (fun _=>False) A2 j∨(wx.heap.size<=j/\j<w7.heap.size))->OkI w7 (fun _=>False) A2 j:=fun j hj=>by
       rcases hj with hj | hj
       ·exact OkI.step HB7.size (fun _ h=>h.elim) (fun j o e=> .inl ⟨o,e⟩) hj
       ·exact⟨hj.2,fun h=>h,fun o e=>by have:=HA2.out j o e;omega⟩
      obtain⟨L1,hL1⟩:=nW F1.len;obtain⟨L2,hL2⟩:=nW F2.len;rw[<- hL1]at hk5 ⊢;rw[<- hL2]at hk11 ⊢;have HKK7:=hid (And.intro (hk5.wide hwd) (hk11.wide hwd));have HLL:=hid (And.intro hL1 hL2);clear hb7 e5 e11 hk5 hk11 HC1 HC2 hL1 hL2 hwd y0 y1 y2 y3 y4 y5 y6 y7 z0 z1 z2 z3 z4 z5 z6 z7;have HRW7:=hid (qG HR2 HB7);have HPI7:=hid (qhX HP2 HB7);have HI7:=hid (And.intro (Qo HI2.1 HB7) (Qo HI2.2 HB7));have hbl7:base<=w7.heap.size:=lL HBLX HB7.size;have hm2b:m2<=1000001:=by
       rw[HM2.out];have:=qb8 S2;have:=HMQ.out;have:=HMB.out;omega
      by_cases h1:L1=0
      ·by_cases h2:L2=0
       ·subst h1 h2
        have HR8:Hid (r=(allP S2&&(xf.drp (q+1)).kidsSame (yf.drp (q+1)))):=hid (by
         rw[HF.out,Tr.len_nil F1 HLL.out.1.symm,Tr.len_nil F2 HLL.out.2.symm];simp[Tr.same])
        have HMS8:Hid (msP S2+(xf.drp (q+1)).size<=msP S+xf.size):=hid (by have:=HMQ.out;omega);have HBW8:=hid (HBW.on HB7);have HBL8:=hid hbl7;go_wp2_with fail;go_roundw
        case rel=>exact⟨q+1,S2,A2,c2,m2,HLT,by go_num,rfl,HM2,HRW7,HPI7,HI7,HR8,HMS8,HBW8,HBL8⟩
        case measure=>exact mS HLT
       ·subst h1
        have d2:decide ((0:Int)<(L2:Int))=true:=by simp;omega
        have d3:decide (0<L2)=true:=by simp;omega
        go_wp2_with (at_builtin;refine QJ ?_);unfold Qv;refine wpList_append_own_at _ rfl _ _ 131 rfl base 130 i0 (.agg #[.slice none 0 0,.slice none 0 0]) 2 48 Tryz.underlying131 hi0 hz0 hz1 hz2 rfl (by decide) (.slice A2 m2 c2) m2 _ rfl (HRW7.alloc _) ⟨w7.heap.size,0,none⟩ 1 1 [.slice U1 0 C1,.slice U2 L2 C2] rfl rfl (fun j u hu=>by rw[Addr.add_lit,Nat.zero_add];exact jS _ _ _ j u hu) (by simp[Value.oneCell']) (by unfold maxLen;omega) (by omega) (by simp;omega) ?_;intro v' w8 hown8 hg8 _ hat8;obtain⟨g8,c8,rfl,hrow8,hpi8,hki8,hbw8,hbl8⟩:=Za (w0:=w) (K:=⟨⟨U1,C1,F1⟩,⟨U2,C2,F2⟩⟩) HRW7 HPI7 (by rw[<- HLL.out.1];exact HKK7.1) (by rw[<- HLL.out.2];exact HKK7.2) ⟨HF1.2.2,HF1.2.1⟩ (by have h:=hown8;simp only[Pr.cells,It.val,<- HLL.out.1,<- HLL.out.2];exact h) hg8 hat8 (HBW.on HB7) (by rw[HBS.out];exact lR _) hbl7;have HRW8:=hid hrow8;have HPI8:=hid hpi8;have HII8:=hid (And.intro (hki8 _ _ _ _ HI7.1) (hki8 _ _ _ _ HI7.2));have HBW8:=hid hbw8;have HBL8:=hid hbl8;have HR8:Hid (r=(allP (⟨⟨U1,C1,F1⟩,⟨U2,C2,F2⟩⟩::S2)&&(xf.drp (q+1)).kidsSame (yf.drp (q+1)))):=hid (by
         rw[HF.out];simp only[allP,List.all_cons];cases F1.same F2 <;> cases S2.all (fun x=>x.a.f.same x.b.f) <;> simp)
        have HM8:Hid (m2+1=(⟨⟨U1,C1,F1⟩,⟨U2,C2,F2⟩⟩::S2:List Pr).length):=hid (by rw[HM2.out];rfl);have HMS8:Hid (msP (⟨⟨U1,C1,F1⟩,⟨U2,C2,F2⟩⟩::S2)+(xf.drp (q+1)).size<=msP S+xf.size):=hid (by have:=HMQ.out;simp only[msP];omega);clear hown8 hg8 hat8 hrow8 hpi8 hki8 hbw8 hbl8;go_wp2_with fail;go_roundw
        case rel=>exact⟨q+1,_,_,c8,m2+1,HLT,by go_num,rfl,HM8,HRW8,HPI8,HII8,HR8,HMS8,HBW8,HBL8⟩
        case measure=>exact mS HLT
      ·have d2:decide ((0:Int)<(L1:Int))=true:=by simp;omega
       have d3:decide (0<L1)=true:=by simp;omega
       go_wp2_with (at_builtin;refine QJ ?_);unfold Qv;refine wpList_append_own_at _ rfl _ _ 131 rfl base 130 i0 (.agg #[.slice none 0 0,.slice none 0 0]) 2 48 Tryz.underlying131 hi0 hz0 hz1 hz2 rfl (by decide) (.slice A2 m2 c2) m2 _ rfl (HRW7.alloc _) ⟨w7.heap.size,0,none⟩ 1 1 [.slice U1 L1 C1,.slice U2 L2 C2] rfl rfl (fun j u hu=>by rw[Addr.add_lit,Nat.zero_add];exact jS _ _ _ j u hu) (by simp[Value.oneCell']) (by unfold maxLen;omega) (by omega) (by simp;omega) ?_;intro v' w8 hown8 hg8 _ hat8;obtain⟨g8,c8,rfl,hrow8,hpi8,hki8,hbw8,hbl8⟩:=Za (w0:=w) (K:=⟨⟨U1,C1,F1⟩,⟨U2,C2,F2⟩⟩) HRW7 HPI7 (by rw[<- HLL.out.1];exact HKK7.1) (by rw[<- HLL.out.2];exact HKK7.2) ⟨HF1.2.2,HF1.2.1⟩ (by have h:=hown8;simp only[Pr.cells,It.val,<- HLL.out.1,<- HLL.out.2];exact h) hg8 hat8 (HBW.on HB7) (by rw[HBS.out];exact lR _) hbl7;have HRW8:=hid hrow8;have HPI8:=hid hpi8;have HII8:=hid (And.intro (hki8 _ _ _ _ HI7.1) (hki8 _ _ _ _ HI7.2));have HBW8:=hid hbw8;have HBL8:=hid hbl8;have HR8:Hid (r=(allP (⟨⟨U1,C1,F1⟩,⟨U2,C2,F2⟩⟩::S2)&&(xf.drp (q+1)).kidsSame (yf.drp (q+1)))):=hid (by
        rw[HF.out];simp only[allP,List.all_cons];cases F1.same F2 <;> cases S2.all (fun x=>x.a.f.same x.b.f) <;> simp)
       have HM8:Hid (m2+1=(⟨⟨U1,C1,F1⟩,⟨U2,C2,F2⟩⟩::S2:List Pr).length):=hid (by rw[HM2.out];rfl);have HMS8:Hid (msP (⟨⟨U1,C1,F1⟩,⟨U2,C2,F2⟩⟩::S2)+(xf.drp (q+1)).size<=msP S+xf.size):=hid (by have:=HMQ.out;simp only[msP];omega);clear hown8 hg8 hat8 hrow8 hpi8 hki8 hbw8 hbl8;go_wp2_with fail;go_roundw
       case rel=>exact⟨q+1,_,_,c8,m2+1,HLT,by go_num,rfl,HM8,HRW8,HPI8,HII8,HR8,HMS8,HBW8,HBL8⟩
       case measure=>exact mS HLT
     ·obtain rfl:q=xl:=by omega
      have HRE:Hid (r=allP S2):=hid (by rw[HRR.out,Tr.drp_end xf q (by rw[<- HXL.out];exact lR _),Tr.drp_end yf q (by rw[<- HYL.out];exact lR _)];simp[Tr.kidsSame]);have HMS2:Hid (msP S2<=1000001):=hid (by have:=HMM2.out;have:=HMB.out;omega);go_wp2_with fail;go_roundg (msP S2)
      case rel=>exact⟨S2,A2,c2,m2,rfl,HM2,hid rfl,HMS2,HR2,HP2,HRE,HBW,HBLX⟩
      case measure=>
       rw[HGK.out];have:=HMM2.out;simp only[msP];omega
set_option maxHeartbeats 4000000
theorem QF{w W:World}{sh:Sh}(hs:sh ≠ .arms){k:Int}{s:LU}{n:Int}{p:Pl}{A:OA}{c:Nat}{B:OA}{bc:Nat}{kids arms:Tr}
  (hk:KidsTr w (OldT w) sh A kids.len c kids) (ha:(sh=.ex/\KidsTr w (OldT w) .arms B arms.len bc arms)∨((sh=.pat∨sh=.ty)/\arms.len=0)) {t:TypeId} {g:Nat} (hb:Bel w W) (hg:W.heap[g]?=some (.cells (nodV sh k s n p A kids.len c B arms.len bc).toArray t (0,0))) :
  KidsTr W (OldT W) sh (some ⟨g,0,none⟩) 1 1 (.nod k s n p kids arms .nil):=by
 refine⟨rfl,lR _,fun _=>⟨g,0,rfl,(aJ.1 hg).1,?_⟩⟩;refine ((Tells.one hs hk ha (k:=k) (s:=s) (n:=n) (p:=p)).2.2 W g 0 (fun j u hu=>?_) (fun j hj=>hb.block j hj)).wide (fun j hj=>lT hj hb.size) _ _ _ _;unfold World.cell?
 simp only[hg];simpa using hu
theorem Qc(k:Int)(s:LU)(n:Int)(p:Pl)(A:OA)(c:Nat)(B:OA)(bc:Nat)(kids arms:Tr)(k2:Int)(s2:LU)(n2:Int)(p2:Pl)(A2:OA)(c2:Nat)(B2:OA)(bc2:Nat)(kids2 arms2:Tr)(w:World)
  (hk:KidsTr w (OldT w) .ex A kids.len c kids) (ha:KidsTr w (OldT w) .arms B arms.len bc arms) (hk2:KidsTr w (OldT w) .ex A2 kids2.len c2 kids2) (ha2:KidsTr w (OldT w) .arms B2 arms2.len bc2 arms2) (hsz:kids.size+arms.size<=900000) (hsz2:kids2.size+arms2.size<=900000) :
  Calls Tryz.prog 15 #[.agg #[.int .u8 k,.string ⟨s.toArray⟩,n,p.a,p.l,p.c,.slice A kids.len c,.slice B arms.len bc],.agg #[.int .u8 k2,.string ⟨s2.toArray⟩,n2,p2.a,p2.l,p2.c,.slice A2 kids2.len c2,.slice B2 arms2.len bc2]] w (qu (Tr.same (.nod k s n p kids arms .nil) (.nod k2 s2 n2 p2 kids2 arms2 .nil)) w):=by
 have HS:Hid (∀ (g g2:Nat) (t t2:TypeId) (W:World),Bel w W->W.heap[g]?=some (.cells #[.int .u8 k,.string ⟨s.toArray⟩,n,p.a,p.l,p.c,.slice A kids.len c,.slice B arms.len bc] t (0,0))->W.heap[g2]?=some (.cells #[.int .u8 k2,.string ⟨s2.toArray⟩,n2,p2.a,p2.l,p2.c,.slice A2 kids2.len c2,.slice B2 arms2.len bc2] t2 (0,0)) →
   Calls Tryz.prog 37 #[.slice (some ⟨g,0,none⟩) 1 1,.slice (some ⟨g2,0,none⟩) 1 1,.func (.func 25) #[] #[],.func (.func 38) #[] #[]] W (qu (Tr.same (.nod k s n p kids arms .nil) (.nod k2 s2 n2 p2 kids2 arms2 .nil)) W)):=hid fun g g2 t t2 W hW h1 h2=>by
  have e1:=QF (sh:= .ex) (by intro e;cases e) hk (.inl ⟨rfl,ha⟩) hW h1;have e2:=QF (sh:= .ex) (by intro e;cases e) hk2 (.inl ⟨rfl,ha2⟩) hW h2;exact qfX _ 1 1 _ 1 1 _ _ W e1 e2 (by simp only[Tr.size];omega) (by simp only[Tr.size];omega)
 obtain⟨r,hr⟩:=nW (Tr.same (.nod k s n p kids arms .nil) (.nod k2 s2 n2 p2 kids2 arms2 .nil));rw[<- hr]at HS ⊢;obtain⟨l1,hl1⟩:=nW kids.len;obtain⟨l2,hl2⟩:=nW kids2.len;obtain⟨l3,hl3⟩:=nW arms.len;obtain⟨l4,hl4⟩:=nW arms2.len;obtain⟨S,hS⟩:=nW (⟨s.toArray⟩:BA);obtain⟨S2,hS2⟩:=nW (⟨s2.toArray⟩:BA);rw[<- hl1,<- hl2,<- hl3,<- hl4,<- hS,<- hS2]at HS;rw[<- hl1,<- hl2,<- hl3,<- hl4,<- hS,<- hS2];clear hk ha hk2 ha2 hsz hsz2 hr hl1 hl2 hl3 hl4 hS hS2;have q4:=blk4 w (.cells #[.int .u8 k,S,n,p.a,p.l,p.c,.slice A l1 c,.slice B l3 bc] 28) (.cells #[.int .u8 k2,S2,n2,p2.a,p2.l,p2.c,.slice A2 l2 c2,.slice B2 l4 bc2] 28) (.cells #[.int .u8 k,S,n,p.a,p.l,p.c,.slice A l1 c,.slice B l3 bc] 28) (.cells #[.int .u8 k2,S2,n2,p2.a,p2.l,p2.c,.slice A2 l2 c2,.slice B2 l4 bc2] 28);have hb4:=((((Bel.refl w).alloc (.cells #[.int .u8 k,S,n,p.a,p.l,p.c,.slice A l1 c,.slice B l3 bc] 28)).alloc (.cells #[.int .u8 k2,S2,n2,p2.a,p2.l,p2.c,.slice A2 l2 c2,.slice B2 l4 bc2] 28)).alloc (.cells #[.int .u8 k,S,n,p.a,p.l,p.c,.slice A l1 c,.slice B l3 bc] 28)).alloc (.cells #[.int .u8 k2,S2,n2,p2.a,p2.l,p2.c,.slice A2 l2 c2,.slice B2 l4 bc2] 28);have HC:=hid (HS (w.heap.size+2) (w.heap.size+3) _ _ _ hb4 q4.2.2.1 q4.2.2.2);have HB4:=hid hb4;clear q4 hb4 HS;go_enter Tryz.func15,Tryz.ntmps15;go_wp2_with fail;refine HC.out.mono ?_;rintro e w5 ⟨rfl,hb5⟩;have HB5:=hid (HB4.on hb5);clear hb5;go_wp2_with fail;go_ret;exact⟨rfl,HB5⟩
structure Fd where
 m:Int
 k:Int
 s:LU
 n:Int
 p:Pl
 kids:Tr
structure Cd where
 nm:LU
 p:Pl
 fs:List Fd
structure Dc where
 kd:Int
 nm:LU
 p:Pl
 ps:List LU
 cs:List Cd
 rc:Bool
 k:Int
 s:LU
 n:Int
 ep:Pl
 kids:Tr
 arms:Tr
def Fd.tr(x:Fd):Tr:= .nod x.k x.s x.n x.p x.kids .nil .nil
def Dc.tr(x:Dc):Tr:= .nod x.k x.s x.n x.ep x.kids x.arms .nil
def RowOf{α:Type}(sz:Nat)(At:World->(Nat->Prop)->Nat->Nat->α->Prop)(w:World)(Ok:Nat->Prop)(A:OA)(n c:Nat)(xs:List α):Prop:=
 n=xs.length/\n<=c/\(0<n->∃ b o,A=some ⟨b,o,none⟩/\Ok b/\∀ (i:Nat) (x:α),xs[i]?=some x->At w Ok b (o+i*sz) x)
def qdn{α:Type}(At:World->(Nat->Prop)->Nat->Nat->α->Prop):Prop:=∀ (w w':World) (Ok Ok':Nat->Prop) (b o:Nat) (x:α),(∀ j,Ok j->w'.heap[j]?=w.heap[j]?)->(∀ j,Ok j->Ok' j)->Ok b->At w Ok b o x->At w' Ok' b o x
theorem RowOf.keep{α:Type}{sz:Nat}{At:World->(Nat->Prop)->Nat->Nat->α->Prop}(hA:qdn At){w w':World}{Ok Ok':Nat->Prop}{A:OA}{n c:Nat}{xs:List α}(h:RowOf sz At w Ok A n c xs)(hk:∀ j,Ok j->w'.heap[j]?=w.heap[j]?)(hw:∀ j,Ok j->Ok' j):RowOf sz At w' Ok' A n c xs:=
 ⟨h.1,h.2.1,fun h0=>by
  obtain⟨b,o,e,hb,hx⟩:=h.2.2 h0;exact⟨b,o,e,hw b hb,fun i x hi=>hA w w' Ok Ok' b _ x hk hw hb (hx i x hi)⟩⟩
theorem RowOf.bel{α:Type}{sz:Nat}{At:World->(Nat->Prop)->Nat->Nat->α->Prop}(hA:qdn At){w w':World}{A:OA}{n c:Nat}{xs:List α}(h:RowOf sz At w (OldT w) A n c xs)(hb:Bel w w'):RowOf sz At w' (OldT w') A n c xs:=
 h.keep hA (fun j hj=>hb.block j hj) (fun j hj=>lT hj hb.size)
def FdAt(w:World)(Ok:Nat->Prop)(b o:Nat)(x:Fd):Prop:=w.cell? ⟨b,o,none⟩=some (.int .u8 x.m)/\TrAt w Ok x.tr .ty b (o+1)
def CdAt(w:World)(Ok:Nat->Prop)(b o:Nat)(x:Cd):Prop:=
 w.cell? ⟨b,o,none⟩=some (.string ⟨x.nm.toArray⟩)/\w.cell? ⟨b,o+1,none⟩=some (.int .i64 x.p.a)/\w.cell? ⟨b,o+2,none⟩=some (.int .i64 x.p.l)/\w.cell? ⟨b,o+3,none⟩=some (.int .i64 x.p.c) ∧
  ∃ A c,w.cell? ⟨b,o+4,none⟩=some (.slice A x.fs.length c)/\RowOf 8 FdAt w Ok A x.fs.length c x.fs
def SAt(w:World)(Ok:Nat->Prop)(b o:Nat)(x:LU):Prop:=w.cell? ⟨b,o,none⟩=some (.string ⟨x.toArray⟩)
def DcAt(w:World)(Ok:Nat->Prop)(b o:Nat)(x:Dc):Prop:=
 w.cell? ⟨b,o,none⟩=some (.int .u8 x.kd)/\w.cell? ⟨b,o+1,none⟩=some (.string ⟨x.nm.toArray⟩)/\w.cell? ⟨b,o+2,none⟩=some (.int .i64 x.p.a)/\w.cell? ⟨b,o+3,none⟩=some (.int .i64 x.p.l)/\w.cell? ⟨b,o+4,none⟩=some (.int .i64 x.p.c) ∧
  (∃ A c,w.cell? ⟨b,o+5,none⟩=some (.slice A x.ps.length c)/\RowOf 1 SAt w Ok A x.ps.length c x.ps)/\(∃ A c,w.cell? ⟨b,o+6,none⟩=some (.slice A x.cs.length c)/\RowOf 5 CdAt w Ok A x.cs.length c x.cs) ∧
  w.cell? ⟨b,o+7,none⟩=some (.bool x.rc)/\TrAt w Ok x.tr .ex b (o+8)
theorem QW:qdn FdAt:=fun w w' Ok Ok' b o x hk hw hb ⟨h1,h2⟩=>
 ⟨(World.cell?_of_block (a:=⟨b,o,none⟩) (hk b hb)).trans h1,(TrAt.keep hk _ _ _ _ hb h2).wide hw _ _ _ _⟩
theorem jx:qdn SAt:=fun w w' Ok Ok' b o x hk hw hb h=>(World.cell?_of_block (a:=⟨b,o,none⟩) (hk b hb)).trans h
theorem zN:qdn CdAt:=fun w w' Ok Ok' b o x hk hw hb ⟨h1,h2,h3,h4,A,c,h5,h6⟩=>by
 have hc:∀ o',w'.cell? ⟨b,o',none⟩=w.cell? ⟨b,o',none⟩:=fun o'=>World.cell?_of_block (a:=⟨b,o',none⟩) (hk b hb);exact⟨(hc _).trans h1,(hc _).trans h2,(hc _).trans h3,(hc _).trans h4,A,c,(hc _).trans h5,h6.keep QW hk hw⟩
theorem Qk:qdn DcAt:=fun w w' Ok Ok' b o x hk hw hb ⟨h1,h2,h3,h4,h5,⟨A,c,h6,h7⟩,⟨B,d,h8,h9⟩,h10,h11⟩=>by
 have hc:∀ o',w'.cell? ⟨b,o',none⟩=w.cell? ⟨b,o',none⟩:=fun o'=>World.cell?_of_block (a:=⟨b,o',none⟩) (hk b hb);exact⟨(hc _).trans h1,(hc _).trans h2,(hc _).trans h3,(hc _).trans h4,(hc _).trans h5,⟨A,c,(hc _).trans h6,h7.keep jx hk hw⟩,⟨B,d,(hc _).trans h8,h9.keep zN hk hw⟩,(hc _).trans h10,(TrAt.keep hk _ _ _ _ hb h11).wide hw _ _ _ _⟩
theorem FdAt.cells{w:World}{Ok:Nat->Prop}{b o:Nat}{x:Fd}(h:FdAt w Ok b o x):∃ A c,KidsTr w Ok .ty A x.kids.len c x.kids/\w.cell? ⟨b,o,none⟩=some (.int .u8 x.m)/\w.cell? ⟨b,o+1,none⟩=some (.int .u8 x.k)/\w.cell? ⟨b,o+2,none⟩=some (.string ⟨x.s.toArray⟩)/\w.cell? ⟨b,o+3,none⟩=some (.int .u8 x.n)/\w.cell? ⟨b,o+4,none⟩=some (.int .i64 x.p.a)/\w.cell? ⟨b,o+5,none⟩=some (.int .i64 x.p.l)/\w.cell? ⟨b,o+6,none⟩=some (.int .i64 x.p.c)/\w.cell? ⟨b,o+7,none⟩=some (.slice A x.kids.len c):=by
 obtain⟨A,c,B,bc,hc,hk,_,_⟩:=TrAt.parts h.2;exact⟨A,c,hk,h.1,hc 0 _ rfl,hc 1 _ rfl,hc 2 _ rfl,hc 3 _ rfl,hc 4 _ rfl,hc 5 _ rfl,hc 6 _ rfl⟩
theorem DcAt.cells{w:World}{Ok:Nat->Prop}{b o:Nat}{x:Dc}(h:DcAt w Ok b o x):∃ PA pc CA cc A c B bc,RowOf 1 SAt w Ok PA x.ps.length pc x.ps/\RowOf 5 CdAt w Ok CA x.cs.length cc x.cs/\KidsTr w Ok .ex A x.kids.len c x.kids/\KidsTr w Ok .arms B x.arms.len bc x.arms ∧
  w.cell? ⟨b,o,none⟩=some (.int .u8 x.kd)/\w.cell? ⟨b,o+1,none⟩=some (.string ⟨x.nm.toArray⟩)/\w.cell? ⟨b,o+2,none⟩=some (.int .i64 x.p.a)/\w.cell? ⟨b,o+3,none⟩=some (.int .i64 x.p.l)/\w.cell? ⟨b,o+4,none⟩=some (.int .i64 x.p.c)/\w.cell? ⟨b,o+5,none⟩=some (.slice PA x.ps.length pc)/\w.cell? ⟨b,o+6,none⟩=some (.slice CA x.cs.length cc)/\w.cell? ⟨b,o+7,none⟩=some (.bool x.rc) ∧
  w.cell? ⟨b,o+8,none⟩=some (.int .u8 x.k)/\w.cell? ⟨b,o+9,none⟩=some (.string ⟨x.s.toArray⟩)/\w.cell? ⟨b,o+10,none⟩=some (.int .i64 x.n)/\w.cell? ⟨b,o+11,none⟩=some (.int .i64 x.ep.a)/\w.cell? ⟨b,o+12,none⟩=some (.int .i64 x.ep.l)/\w.cell? ⟨b,o+13,none⟩=some (.int .i64 x.ep.c)/\w.cell? ⟨b,o+14,none⟩=some (.slice A x.kids.len c)/\w.cell? ⟨b,o+15,none⟩=some (.slice B x.arms.len bc):=by
 obtain⟨h1,h2,h3,h4,h5,⟨PA,pc,h6,h7⟩,⟨CA,cc,h8,h9⟩,h10,h11⟩:=h;obtain⟨A,c,B,bc,hc,hk,ha,_⟩:=TrAt.parts h11;rcases ha with ⟨_,ha⟩ | ⟨e | e,_⟩
 ·exact⟨PA,pc,CA,cc,A,c,B,bc,h7,h9,hk,ha,h1,h2,h3,h4,h5,h6,h8,h10,hc 0 _ rfl,hc 1 _ rfl,hc 2 _ rfl,hc 3 _ rfl,hc 4 _ rfl,hc 5 _ rfl,hc 6 _ rfl,hc 7 _ rfl⟩
 ·cases e
 ·cases e
def Fd.good(x:Fd):Prop:=x.kids.size<=900000
def Cd.good(x:Cd):Prop:=x.fs.length<=1000000/\∀ f∈x.fs,f.good
def Dc.good(x:Dc):Prop:=x.cs.length<=1000000/\x.ps.length<=1100000/\x.kids.size+x.arms.size<=900000/\∀ c∈x.cs,c.good
set_option maxHeartbeats 4000000
def tysL:List Fd->Tr
 | []=> .nil
 | x::xs=> .nod x.k x.s x.n x.p x.kids .nil (tysL xs)
theorem j0:∀ xs ys:List Fd,tysL (xs++ys)=(tysL xs).app (tysL ys)
 | [],_=>rfl
 | x::xs,ys=>by simp only[cAa,tysL,Tr.app,j0 xs ys]
theorem Jj:∀ xs:List Fd,(tysL xs).len=xs.length
 | []=>rfl
 | x::xs=>by simp only[tysL,Tr.len,Jj xs,lC]
def qy:List Cd->List Fd
 | []=>[]
 | c::cs=>c.fs++qy cs
theorem Qj(cs:List Cd)(j:Nat)(c:Cd)(h:cs[j]?=some c):qy (cs.take (j+1))=qy (cs.take j)++c.fs:=by
 induction cs generalizing j with
 | nil=>cases h
 | cons x xs ih=>
  cases j with
  | zero=>simp only[List.getElem?_cons_zero,Option.some.injEq]at h;subst h;simp[qy]
  | succ j=>
   simp only[List.getElem?_cons_succ]at h;simp only[List.take_succ_cons,qy,ih j h,aAa]
theorem qcv(cs:List Cd)(j:Nat):(qy (cs.take j)).length<=(qy cs).length:=by
 induction cs generalizing j with
 | nil=>simp
 | cons x xs ih=>
  cases j with
  | zero=>simp[qy]
  | succ j=>have:=ih j;simp only[List.take_succ_cons,qy,lA];omega
theorem J3(kd:Int)(nm:LU)(q:Pl)(PA:OA)(pl pc:Nat)(CA:OA)(cl cc:Nat)(rc:Bool)(k:Int)(s:LU)(n:Int)(p:Pl)(A:OA)(kl c:Nat)(B:OA)(al bc:Nat)(cs:List Cd)(w:World)(hc:RowOf 5 CdAt w (OldT w) CA cl cc cs)(hcl:cl<=1000000)(hfl:(qy cs).length<=1000000) :
  Calls Tryz.prog 34 #[.agg #[.int .u8 kd,.string ⟨nm.toArray⟩,q.a,q.l,q.c,.slice PA pl pc,.slice CA cl cc,.bool rc,.int .u8 k,.string ⟨s.toArray⟩,n,p.a,p.l,p.c,.slice A kl c,.slice B al bc]] w (Qu w (OldT w) .ty (tysL (qy cs))):=by
 have HC:=hid hc;have HFL:=hid hfl;have HCL:Hid (cl=cs.length):=hid hc.1;clear hc hfl;obtain⟨S,hS⟩:=nW (⟨s.toArray⟩:BA);obtain⟨NM,hNM⟩:=nW (⟨nm.toArray⟩:BA);rw[<- hS,<- hNM];clear hS hNM;obtain⟨i0,hi0,hz0,hz1,hz2⟩:=info_parts qiz;have hb1:Bel w (w.alloc (.cells #[.int .u8 kd,NM,q.a,q.l,q.c,.slice PA pl pc,.slice CA cl cc,.bool rc,.int .u8 k,S,n,p.a,p.l,p.c,.slice A kl c,.slice B al bc] 52)):=(Bel.refl w).alloc _;have hsz:(w.alloc (.cells #[.int .u8 kd,NM,q.a,q.l,q.c,.slice PA pl pc,.slice CA cl cc,.bool rc,.int .u8 k,S,n,p.a,p.l,p.c,.slice A kl c,.slice B al bc] 52)).heap.size=w.heap.size+1:=by simp
 have HB1:=hid hb1;have HSZ:=hid hsz;clear hb1 hsz;go_enter Tryz.func34,Tryz.ntmps34;go_wp2_with fail;obtain⟨bx,hbx⟩:=nW w.heap.size;have HBX:=hid hbx;clear hbx;go_loopw [3,11] (fun v i wr=>∃ (j m:Nat) (A3:OA) (c3:Nat) (us:List Value),j<=cl/\v=.slice A3 m c3/\i=.int .i64 (j:Int)/\Hid (m=(qy (cs.take j)).length)/\Hid (wr.ownsRow (bx+1) 43 7 (.slice A3 m c3) m us)/\Hid (Tells w (OldT w) .ty (tysL (qy (cs.take j))) us)/\Hid (Bel w wr)/\Hid (w.heap.size+1<=wr.heap.size)) (fun _ i _=>cl-(intOf i).toNat)
 case atStart=>exact⟨0,0,none,0,[],zL _,rfl,rfl,hid (by simp[qy]),hid (World.ownsRow_nil _ _ _ _),hid (by rw[List.take_zero];exact Tells.nil),HB1,hid (by rw[HSZ.out];exact lR _)⟩
 case round=>
  obtain⟨j,m,A3,c3,us,hj,rfl,rfl,HM,HO,HT,HB,HSB⟩:=hrel;by_cases hlt:j<cl
  ·obtain⟨ub,uo,eB,hob,hfo⟩:=HC.2.2 (by omega)
   subst eB;obtain⟨x,hx⟩:∃ x,cs[j]?=some x:=⟨_,eG (by rw[<- HCL.out];exact hlt)⟩
   obtain⟨y0,y1,y2,y3,A',ca',y4,hff⟩:=hfo j x hx;obtain⟨cn,cp,fs⟩:=x;have HX:=hid hx;obtain⟨G,hG⟩:=nW (qy (cs.take j));have HG1:Hid (qy (cs.take (j+1))=G++fs):=hid (by rw[hG];exact Qj cs j _ hx);have HGL:Hid (G.length+fs.length<=1000000):=hid (by
    have h1:=HG1.out;have h2:=qcv cs (j+1);rw[h1,lA]at h2;have:=HFL.out;omega)
   rw[<- hG]at HM HT;simp only[]at y0 y1 y2 y3 y4 hff;obtain⟨fl,hfl⟩:=nW fs.length;have HFN:=hid hfl;rw[<- hfl]at y4 hff;obtain⟨CN,hCN⟩:=nW (⟨cn.toArray⟩:BA);rw[<- hCN]at y0;have HF:Hid (RowOf 8 FdAt w (OldT w) A' fl ca' fs):=hid hff;have hcw:=(Bel.cells HB).1;replace y0:=(hcw ub _ hob).trans y0;replace y1:=(hcw ub _ hob).trans y1;replace y2:=(hcw ub _ hob).trans y2;replace y3:=(hcw ub _ hob).trans y3;replace y4:=(hcw ub _ hob).trans y4;have i1:(0:Int)<=(j:Int):=by omega
   have i2:(j:Int)<(cl:Int):=by omega
   have hob':ub<wr.heap.size:=lT hob HB.size;have hf8:fl<=1000000:=by have:=HGL.out;omega
   have HLT:=hid hlt;clear hcw hfo hob hx hG hfl hCN hff;go_wp2_with fail;clear y0 y1 y2 y3 y4;have hbw:Bel wr (wr.alloc (.cells #[.string CN,cp.a,cp.l,cp.c,.slice A' fl ca'] 49)):=(Bel.refl wr).alloc _;have HBW:=hid hbw;have HSW:Hid (wr.heap.size<=(wr.alloc (.cells #[.string CN,cp.a,cp.l,cp.c,.slice A' fl ca'] 49)).heap.size):=hid (by simp);clear hbw;go_loopw [3,18] (fun v i wi=>∃ (h m:Nat) (A3:OA) (c3:Nat) (us:List Value),h<=fl/\v=.slice A3 m c3/\i=.int .i64 (h:Int)/\Hid (m=G.length+h)/\Hid (wi.ownsRow (bx+1) 43 7 (.slice A3 m c3) m us)/\Hid (Tells w (OldT w) .ty (tysL (G++fs.take h)) us)/\Hid (Bel w wi)/\Hid (w.heap.size+1<=wi.heap.size)) (fun _ i _=>fl-(intOf i).toNat)
   case atStart=>exact⟨0,m,A3,c3,us,zL _,rfl,rfl,HM,hid (HO.alloc _),hid (by rw[List.take_zero,aNn];exact HT),hid (HB.on HBW),hid (by have:=HSW.out;have:=HSB.out;omega)⟩
   case round=>
    obtain⟨h,m,A3,c3,us,hh,rfl,rfl,HMI,HOI,HTI,HBI,HSI⟩:=hrel;by_cases hlt2:h<fl
    ·obtain⟨ub2,uo2,eB2,hob2,hfo2⟩:=HF.2.2 (by omega)
     subst eB2;obtain⟨y,hy⟩:∃ y,fs[h]?=some y:=⟨_,eG (by rw[<- HFN.out];exact hlt2)⟩
     obtain⟨A4,c4,hkk,z0,z1,z2,z3,z4,z5,z6,z7⟩:=(hfo2 h y hy).cells;obtain⟨fm,fk,fs',fn,fp,fkids⟩:=y;simp only[]at hkk z0 z1 z2 z3 z4 z5 z6 z7;have HT3:Hid (Tells w (OldT w) .ty (tysL (G++fs.take (h+1))) (us++nodV .ty fk fs' fn fp A4 fkids.len c4 none 0 0)):=hid (by
      rw[List.take_add_one,hy,Option.toList_some,<- aAa,j0];exact HTI.out.app (Tells.one (by intro e;cases e) hkk (.inr ⟨.inr rfl,rfl⟩)))
     have hcw:=(Bel.cells HBI).1;replace z0:=(hcw ub2 _ hob2).trans z0;replace z1:=(hcw ub2 _ hob2).trans z1;replace z2:=(hcw ub2 _ hob2).trans z2;replace z3:=(hcw ub2 _ hob2).trans z3;replace z4:=(hcw ub2 _ hob2).trans z4;replace z5:=(hcw ub2 _ hob2).trans z5;replace z6:=(hcw ub2 _ hob2).trans z6;replace z7:=(hcw ub2 _ hob2).trans z7;have hob2':ub2<wr.heap.size:=lT hob2 HBI.size;obtain⟨l3,hl3⟩:=nW fkids.len;rw[<- hl3]at z7 HT3;obtain⟨FJ,hFS⟩:=nW (⟨fs'.toArray⟩:BA);rw[<- hFS]at z2;have HT4:Hid (Tells w (OldT w) .ty (tysL (G++fs.take (h+1))) (us++[.int .u8 fk,.string FJ,.int .u8 fn,.int .i64 fp.a,.int .i64 fp.l,.int .i64 fp.c,.slice A4 l3 c4])):=hid (by rw[hFS];exact HT3);have j1:(0:Int)<=(h:Int):=by omega
     have j2:(h:Int)<(fl:Int):=by omega
     have hm9:m<=1000000:=by have:=HMI.out;have:=HGL.out;have:=HFN.out;omega
     have HLT2:=hid hlt2;clear hcw hob2 hfo2 hy hkk HT3 hl3 hFS HTI;go_wp2_with (at_builtin;refine QJ ?_);unfold Qv;refine wpList_append_own_at _ rfl _ _ 41 rfl (bx+1) 43 i0 _ 7 80 Tryz.underlying41 hi0 hz0 hz1 hz2 rfl (by decide) (.slice A3 m c3) m _ rfl ((HOI.alloc _).alloc _) ⟨wr.heap.size+1,0,none⟩ 1 1 [.int .u8 fk,FJ,.int .u8 fn,fp.a,fp.l,fp.c,.slice A4 l3 c4] rfl rfl (fun j u hu=>by
      rw[Addr.add_lit,Nat.zero_add];have h:=jS (wr.alloc (.cells #[.int .u8 fm,.int .u8 fk,FJ,.int .u8 fn,fp.a,fp.l,fp.c,.slice A4 l3 c4] 46)) _ 43 j u hu;rw[World.size_alloc]at h;exact h) (by simp[Value.oneCell']) (by unfold maxLen;omega) (by omega) (by simp;have:=HBX.out;have:=HBI.size;have:=HSI.out;omega) ?_
     intro v' w5 hown5 hg5 _ hat5;obtain⟨g5,c5,rfl⟩:=jP hown5;have hb5:Bel w w5:=Below.grown ((HBI.alloc _).alloc _) hg5 (by simp;have:=HBI.size;omega) (fun x hx=>by have h:=(HOI.out.lt x hx).1;have:=HBX.out;omega);have HB5:=hid hb5;have HSB5:Hid (w.heap.size+1<=w5.heap.size):=hid (by have h:=hg5.size;simp at h;have:=HSI.out;omega);have HO5:=hid hown5;have HM5:Hid (m+1=G.length+(h+1)):=hid (by have:=HMI.out;omega);clear hown5 hg5 hat5 hb5 z0 z1 z2 z3 z4 z5 z6 z7 HOI HBI;go_wp2_with fail;go_roundw
     case rel=>exact⟨h+1,m+1,_,c5,_,HLT2,rfl,by go_num,HM5,HO5,HT4,HB5,HSB5⟩
     case measure=>exact mS HLT2
    ·obtain rfl:h=fl:=by omega
     have HMO:Hid (m=(qy (cs.take (j+1))).length):=hid (by rw[HG1.out,lA,HMI.out,HFN.out]);have HTO:Hid (Tells w (OldT w) .ty (tysL (qy (cs.take (j+1)))) us):=hid (by
      have h:=HTI.out;rw[HFN.out,List.take_length]at h;rw[HG1.out];exact h)
     go_wp2_with fail;go_roundw
     case rel=>exact⟨j+1,m,A3,c3,us,HLT,rfl,by go_num,HMO,HOI,HTO,HBI,HSI⟩
     case measure=>exact mS HLT
  ·obtain rfl:j=cl:=by omega
   go_wp2_with fail;go_ret;have hl:m=(tysL (qy cs)).len:=by rw[HM.out,HCL.out,List.take_length,Jj]
   have ht:=HT.out;rw[HCL.out,List.take_length]at ht;have ho:=HO.out;rw[hl]at ho ⊢;exact⟨A3,c3,rfl,HB,ht.row HB (fun _ h=>h) (by have:=HBX.out;omega) ho⟩
set_option maxHeartbeats 4000000
def ju(kd:Int)(e:Tr)(cs:List Cd):Nat:=if kd=2 then e.depth else if kd=1 then (tysL (qy cs)).depth else 0
def DepQ(r:Nat)(w:World):Ending->World->Prop:=(StR (.int .i64 (r:Int)) w)
theorem jY(kd:Int)(nm:LU)(q:Pl)(PA:OA)(pl pc:Nat)(CA:OA)(cl cc:Nat)(rc:Bool)(k:Int)(s:LU)(n:Int)(p:Pl)(A:OA)(c:Nat)(B:OA)(bc:Nat)(kids arms:Tr)(cs:List Cd)(w:World)(hk:KidsTr w (OldT w) .ex A kids.len c kids)(ha:KidsTr w (OldT w) .arms B arms.len bc arms)(hsz:kids.size+arms.size<=900000)(hc:RowOf 5 CdAt w (OldT w) CA cl cc cs)(hcl:cl<=1000000)(hfl:(tysL (qy cs)).size<=1000000) :
  Calls Tryz.prog 14 #[.agg #[.int .u8 kd,.string ⟨nm.toArray⟩,q.a,q.l,q.c,.slice PA pl pc,.slice CA cl cc,.bool rc,.int .u8 k,.string ⟨s.toArray⟩,n,p.a,p.l,p.c,.slice A kids.len c,.slice B arms.len bc]] w (DepQ (ju kd (.nod k s n p kids arms .nil) cs) w):=by
 have HX:Hid (∀ (g:Nat) (t:TypeId) (W:World),Bel w W->W.heap[g]?=some (.cells #[.int .u8 k,.string ⟨s.toArray⟩,n,p.a,p.l,p.c,.slice A kids.len c,.slice B arms.len bc] t (0,0)) →
   Calls Tryz.prog 31 #[.slice (some ⟨g,0,none⟩) 1 1,.func (.func 25) #[] #[],.func (.func 32) #[] #[]] W (DepQ (Tr.depth (.nod k s n p kids arms .nil)) W)):=hid fun g t W hW h1=>by
  have e1:=QF (sh:= .ex) (by intro e;cases e) hk (.inl ⟨rfl,ha⟩) hW h1;exact qdA _ 1 1 _ W e1 (by simp only[Tr.size];omega)
 have HF:Hid (∀ W,Bel w W->Calls Tryz.prog 34 #[.agg #[.int .u8 kd,.string ⟨nm.toArray⟩,q.a,q.l,q.c,.slice PA pl pc,.slice CA cl cc,.bool rc,.int .u8 k,.string ⟨s.toArray⟩,n,p.a,p.l,p.c,.slice A kids.len c,.slice B arms.len bc]] W (Qu W (OldT W) .ty (tysL (qy cs)))):=hid fun W hW=>J3 kd nm q PA pl pc CA cl cc rc k s n p A kids.len c B arms.len bc cs W (hc.bel zN hW) hcl (by have:=(tysL (qy cs)).len_le;rw[Jj]at this;omega);have HT:Hid (∀ W A c,KidsTr W (OldT W) .ty A (tysL (qy cs)).len c (tysL (qy cs))->Calls Tryz.prog 33 #[.slice A (tysL (qy cs)).len c,.func (.func 35) #[] #[],.func (.func 36) #[] #[]] W (DepQ (tysL (qy cs)).depth W)):=hid fun W A c h=>qdz A _ c _ W h hfl;unfold ju;obtain⟨dx,hdx⟩:=nW (Tr.depth (.nod k s n p kids arms .nil));obtain⟨F,hF⟩:=nW (tysL (qy cs));rw[<- hF]at HF HT ⊢;rw[<- hdx]at HX ⊢;obtain⟨kl,hl1⟩:=nW kids.len;obtain⟨al,hl3⟩:=nW arms.len;obtain⟨S,hS⟩:=nW (⟨s.toArray⟩:BA);obtain⟨NM,hNM⟩:=nW (⟨nm.toArray⟩:BA);rw[<- hl1,<- hl3,<- hS]at HX;rw[<- hl1,<- hl3,<- hS,<- hNM]at HF ⊢;clear hk ha hsz hc hcl hfl hdx hF hl1 hl3 hS hNM;have hb1:Bel w (w.alloc (.cells #[.int .u8 kd,NM,q.a,q.l,q.c,.slice PA pl pc,.slice CA cl cc,.bool rc,.int .u8 k,S,n,p.a,p.l,p.c,.slice A kl c,.slice B al bc] 52)):=(Bel.refl w).alloc _;have HB1:=hid hb1;clear hb1;by_cases h2:kd=2
 ·subst h2
  rw[if_pos rfl];have q2:=blk2 w (.cells #[.int .u8 2,NM,q.a,q.l,q.c,.slice PA pl pc,.slice CA cl cc,.bool rc,.int .u8 k,S,n,p.a,p.l,p.c,.slice A kl c,.slice B al bc] 52) (.cells #[.int .u8 k,S,n,p.a,p.l,p.c,.slice A kl c,.slice B al bc] 28);have HC:=hid (HX (w.heap.size+1) _ _ (HB1.alloc _) q2.2);have HB2:=hid (HB1.alloc (.cells #[.int .u8 k,S,n,p.a,p.l,p.c,.slice A kl c,.slice B al bc] 28));clear q2 HX HF HT HB1;go_enter Tryz.func14,Tryz.ntmps14;go_wp2_with fail;refine HC.out.mono ?_;rintro e w5 ⟨rfl,hb5⟩;have HB5:=hid (HB2.on hb5);clear hb5;go_wp2_with fail;go_ret;exact⟨rfl,HB5⟩
 rw[if_neg h2];have k2:(kd==2)=false:=by simpa using h2
 clear HX h2;by_cases h1:kd=1
 ·subst h1
  rw[if_pos rfl];go_enter Tryz.func14,Tryz.ntmps14;go_wp2_with fail;refine (HF _ HB1).mono ?_;rintro e w5 ⟨A5,c5,rfl,hb5,hr5⟩;have HB5:=hid (HB1.on hb5);have HR5:=hid (hr5.wide (fun j hj=>by rcases hj with h | h;exact lT h hb5.size;exact h.2));clear hb5 hr5;go_wp2_with fail;refine (HT _ A5 c5 HR5).mono ?_;rintro e w6 ⟨rfl,hb6⟩;have HB6:=hid (HB5.on hb6);clear hb6;go_wp2_with fail;go_ret;exact⟨rfl,HB6⟩
 rw[if_neg h1];have k1:(kd==1)=false:=by simpa using h1
 clear HF HT h1;go_enter Tryz.func14,Tryz.ntmps14;go_wp2_with fail;go_ret;exact⟨rfl,HB1⟩
end Go.Proofs.YtmloadclmjcbbaaGreatDoor.Mu
