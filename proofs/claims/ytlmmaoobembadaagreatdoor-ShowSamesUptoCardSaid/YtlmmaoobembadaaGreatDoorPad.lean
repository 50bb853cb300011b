import Derived.Deep.Quiet
import Derived.Deep.RegionHeld3
import Derived.StillTail
import Derived.Deep.DeepCutAuto
import Derived.Test.YtlmmaoobembadaaGreatDoorPac
open Go.Lib (hid)
namespace Go.Proofs.YtlmmaoobembadaaGreatDoor.Mu
open Go
section
variable {P : Program} {ops : Array Oper} {md : Region.Mode} {C : World -> Prop}
def J0(P:Program)(md:Region.Mode)(ops:Array Oper)(C:World->Prop)(n:Nat)(L:Array Bool->Act->Prop):Nat->Array Bool->Act->Prop
 | 0,listed,a=>L listed a
 | f+1,listed,a=>Region.ready md ops listed≠[]/\∀ i∈Region.ready md ops listed,i<n/\qOp P ops C i (J0 P md ops C n L f (listed.setIfInBounds i true)) a
theorem Qd{n g:Nat}{L:Array Bool->Act->Prop}{Q':Exit->Act->World->Prop}(hL:∀ listed a w,C w->L listed a->wpAny P md ops Q' g listed a w) :
  ∀ (f:Nat) (listed:Array Bool) (a:Act) (w:World),C w->J0 P md ops C n L f listed a->wpAny P md ops Q' (f+g) listed a w
 | 0,listed,a,w,hw,h=>by rw[Nat.zero_add];exact hL _ _ _ hw h
 | f+1,listed,a,w,hw,h=>by
  rw[show f+1+g=(f+g)+1 by omega];exact⟨fun h0=>absurd h0 h.1,fun i hi=>wpOp_of_qOp hw (fun a' w' hw' h'=>Qd hL f _ a' w' hw' h') (h.2 i hi).2⟩
theorem J1{n i:Nat}{oi:Oper}{v:Value}{L:Array Bool->Act->Prop}(hi:ops[i]?=some oi)(hsel:∀ (j:Nat) (o:Oper) cs b,ops[j]?=some o->o.op ≠ .select cs b)
  (hs:Region.sinkB md ops n=true) (hc:Region.chainB md ops n=true) (hn:n<ops.size) (hin:i<n)
  (hdone:∀ listed a,L listed a->∀ j∈Region.ready md ops listed,n<=j) :
  ∀ (f:Nat) (listed:Array Bool) (a:Act),HeadInv md ops n listed →
   (∀ j oj,ops[j]?=some oj->j≠i->listed.getD j true=false->(∀ e∈oj.after,Region.binds md e=true->e.on≠i)->oi.apart ops oj=true) →
   i∈Region.ready md ops listed->YieldsIn P ops C oi v a →
   J0 P md ops C n L f (listed.setIfInBounds i true) (a.put oi.dst v)->J0 P md ops C n L (f+1) listed a:=by
 intro f;induction f with
 | zero=>
  intro listed a inv _ hr hy H;have hun:=(mem_ready.1 hr).1;refine⟨fun h=>(by rw[h]at hr;cases hr),fun j hj=>?_⟩;have hjn:j<n:=by
   rcases Nat.lt_or_ge j n with h | h
   ·exact h
   ·exact absurd hj (tail_waits hs hc hn inv _ i rfl hin hun j h)
  refine⟨hjn,?_⟩;by_cases hji:j=i
  ·subst hji;exact hy.qOp hi H
  ·have:=hdone _ _ H j (ready_mono hj hji)
   omega
 | succ f ih=>
  intro listed a inv hfree hr hy H;have hun:=(mem_ready.1 hr).1;refine⟨fun h=>(by rw[h]at hr;cases hr),fun j hj=>?_⟩;have hjn:j<n:=by
   rcases Nat.lt_or_ge j n with h | h
   ·exact h
   ·exact absurd hj (tail_waits hs hc hn inv _ i rfl hin hun j h)
  refine⟨hjn,?_⟩;by_cases hji:j=i
  ·subst hji;exact hy.qOp hi H
  ·have h1:=(H.2 j (ready_mono hj hji)).2
   obtain⟨hjun,oj,hoj,hall⟩:=mem_ready.1 hj;have hnot:∀ e∈oj.after,Region.binds md e=true->e.on≠i:=fun e he hb heq=>by
    have h1:=hall e he hb;rw[heq,getD_both hun]at h1;cases h1
   have h2:=qOp_put hoj (hfree j oj hoj hji hjun hnot) (fun cs b=>hsel i oi cs b hi) (fun cs b=>hsel j oj cs b hoj) hy h1;have hfree':∀ k ok,ops[k]?=some ok->k≠i->(listed.setIfInBounds j true).getD k true=false →
     (∀ e∈ok.after,Region.binds md e=true->e.on≠i)->oi.apart ops ok=true:=fun k ok hk hki hkun hno=>by
    refine hfree k ok hk hki ?_ hno;by_cases hjk:j=k
    ·subst hjk;exact hjun
    ·rw[getD_set_ne true hjk]at hkun;exact hkun
   refine qOp_mono (fun a' h3=>ih (listed.setIfInBounds j true) a' (inv.set hj hjn) hfree' (ready_mono hr (Ne.symm hji)) h3.1 ?_) h2;rw[Array.setIfInBounds_comm _ _ hji];exact h3.2
theorem Qb{n g:Nat}{Lq:Act->Prop}(hsel:Region.noSelect ops=true)(hs:Region.sinkB md ops n=true)(hc:Region.chainB md ops n=true)(hn:n<ops.size) :
  ∀ (l:List Oper) (k:Nat) (listed:Array Bool) (a:Act),(∀ j,j<l.length->l[j]?=ops[k+j]?)->k+l.length=n->HeadInv md ops n listed →
  Region.lexHead md ops g l.length k listed=true->wpQuiet P ops C Lq l a →
  J0 P md ops C n (fun listed' a'=>Region.seqB md ops g n listed'=true/\Lq a') l.length listed a
 | [],k,listed,a,_,hk,_,hB,h=>by
  have:k=n:=by simpa using hk
  subst this;exact⟨by simpa [Region.lexHead] using hB,h⟩
 | o::l,k,listed,a,hl,hk,inv,hB,h=>by
  have h0:ops[k]?=some o:=by simpa using (hl 0 (by simp)).symm
  simp only[List.length_cons,Region.lexHead,Bool.and_eq_true]at hB;obtain⟨⟨hr,hf⟩,hB'⟩:=hB;have hkn:k<n:=by simp only[List.length_cons]at hk;omega
  have hr':k∈Region.ready md ops listed:=by simpa using hr
  have hst:qOp P ops C k (wpQuiet P ops C Lq l) a:=by unfold qOp;simp only[h0];exact h
  obtain⟨v,hy,hK⟩:=yieldsIn_of_qOp h0 hst;exact J1 h0 (Region.noSelect_spec hsel) hs hc hn hkn (fun listed' a' hL=>seqB_ready hL.1) l.length listed a inv (Region.free_spec h0 hf) hr' hy
   (Qb hsel hs hc hn l (k+1) _ _ (fun j hj=>by have:=hl (j+1) (by simp;omega);simpa [Nat.add_assoc,Nat.add_comm 1 j] using this) (by simp only[List.length_cons]at hk;omega) (inv.set hr' hkn) hB' hK)
theorem jr{id:Nat}{Q:Exit->Act->World->Prop}{a:Act}{w:World}{l:List Oper}(n:Nat)(hm:P.follows .mixedOrders=true)(hB:Region.lexTailB .any l.toArray n=true)(hC:C w.drew)
  (h:wpQuiet P l.toArray C (fun a'=>∀ w',C w'->wpList P l.toArray Q (l.drop n) a' w') (l.take n) a):(Code.region id l.toArray true).wp P Q a w:=by
 simp only[Region.lexTailB,Bool.and_eq_true,decide_eq_true_eq]at hB;obtain⟨⟨⟨⟨hsel,hn⟩,hs⟩,hc⟩,hlex⟩:=hB;have hn':n<l.length:=by simpa using hn
 have htl:(l.take n).length=n:=by simp;omega
 have hdl:(l.drop n).length=l.toArray.size-n:=by simp
 have inv0:HeadInv .any l.toArray n (Array.replicate l.toArray.size false):=
  ⟨by simp,fun j oj _ hl=>(by rw[getD_replicate_false]at hl;cases hl),fun t _ ht=>getD_in (by simpa using ht) (getD_replicate_false _ _)⟩
 have H:=Qb (md:= .any) (g:=l.toArray.size-n) hsel hs hc hn (l.take n) 0 _ a (fun j hj=>by
  have hj':j<n:=by rw[htl]at hj;exact hj
  simp[hj']) (by simpa using htl) inv0 (by rw[htl];exact hlex) h
 refine wp_region_any hm ?_;have:=Qd (Q':=Q) (g:=l.toArray.size-n) (fun listed a' w' hw' hL=>by
  have:=wpAny_of_seq (md:= .any) (Q':=Q) (l.drop n) n listed a' w' (fun j=>by simp[List.getElem?_drop]) (by rw[hdl];exact hL.1) (hL.2 w' hw');rwa [hdl]at this) _ _ _ w.drew hC H
 rw[htl,show n+(l.toArray.size-n)=l.toArray.size by omega]at this;exact this
end
structure Abw (w:World) where
 wd:World
 bel:Bel w wd
instance (w:World):Nonempty (Abw w):=⟨⟨w,Bel.refl w⟩⟩
theorem qh{P:Program}{id:Nat}{Q:Exit->Act->World->Prop}{a:Act}{w:World}{l:List Oper}(n:Nat)(hm:P.follows .mixedOrders=true)(hB:Region.lexTailB .any l.toArray n=true)
  (h:wpQuiet P l.toArray (fun w'=>∃ n:Abw w,w'=n.wd) (fun a'=>∀ w',(∃ n:Abw w,w'=n.wd)->wpList P l.toArray Q (l.drop n) a' w') (l.take n) a):(Code.region id l.toArray true).wp P Q a w:=
 jr n hm hB ⟨⟨_,(Bel.refl w).drew⟩,rfl⟩ h
theorem qa{w:World}{b o:Nat}{x:Value}(hb:b<w.heap.size)(h:w.cell? ⟨b,o,none⟩=some x):∀ q:Abw w,q.wd.cell? ⟨b,o,none⟩=some x:=fun q=>(q.bel.cell (p:=⟨b,o,none⟩) hb).trans h
end Go.Proofs.YtlmmaoobembadaaGreatDoor.Mu
namespace Go.Proofs.YtlmmaoobembadaaGreatDoor.Mu
set_option maxHeartbeats 4000000
open Go Go.RowKit
attribute [local go_sem] Oper.semAt_some
set_option linter.unusedVariables false
set_option maxRecDepth 100000
theorem Tr.same_nth:∀ f g:Tr,f.len=g.len->(∀ i,i<f.len->(f.nth i).same (g.nth i)=true)->f.same g=true
 | .nil,.nil,_,_=>rfl
 | .nil,.nod ..,h,_=>by simp[Tr.len]at h
 | .nil,.arm ..,h,_=>by simp[Tr.len]at h
 | .nod ..,.nil,h,_=>by simp[Tr.len]at h
 | .arm ..,.nil,h,_=>by simp[Tr.len]at h
 | .nod k s n p a b r,.nod k' s' n' p' a' b' r',h,H=>by
  have h0:=H 0 (by simp[Tr.len]);have hr:=Tr.same_nth r r' (by simpa [Tr.len] using h) (fun i hi=>H (i+1) (by simp only[Tr.len];omega));simp only[Tr.nth,Tr.same,Bool.and_true]at h0;simp only[Tr.same,h0,hr,Bool.and_true]
 | .arm k s n p a b r,.arm k' s' n' p' a' b' r',h,H=>by
  have h0:=H 0 (by simp[Tr.len]);have hr:=Tr.same_nth r r' (by simpa [Tr.len] using h) (fun i hi=>H (i+1) (by simp only[Tr.len];omega));simp only[Tr.nth,Tr.same,Bool.and_true]at h0;simp only[Tr.same,h0,hr,Bool.and_true]
 | .nod ..,.arm ..,_,H=>by
  have h0:=H 0 (by simp[Tr.len]);simp[Tr.nth,Tr.same]at h0
 | .arm ..,.nod ..,_,H=>by
  have h0:=H 0 (by simp[Tr.len]);simp[Tr.nth,Tr.same]at h0
theorem Tr.nth_same:∀ (f g:Tr),f.same g=true->∀ i,(f.nth i).same (g.nth i)=true
 | .nil,.nil,_,_=>rfl
 | .nod k s n p a b r,.nod k' s' n' p' a' b' r',h,0=>by
  simp only[Tr.same,Bool.and_eq_true]at h;simp only[Tr.nth,Tr.same,Bool.and_true,h.1.1.1.1.1,h.1.1.1.1.2,h.1.1.1.2,h.1.1.2,h.1.2]
 | .arm k s n p a b r,.arm k' s' n' p' a' b' r',h,0=>by
  simp only[Tr.same,Bool.and_eq_true]at h;simp only[Tr.nth,Tr.same,Bool.and_true,h.1.1.1.1.1,h.1.1.1.1.2,h.1.1.1.2,h.1.1.2,h.1.2]
 | .nod k s n p a b r,.nod k' s' n' p' a' b' r',h,i+1=>by
  simp only[Tr.same,Bool.and_eq_true]at h;exact Tr.nth_same r r' h.2 i
 | .arm k s n p a b r,.arm k' s' n' p' a' b' r',h,i+1=>by
  simp only[Tr.same,Bool.and_eq_true]at h;exact Tr.nth_same r r' h.2 i
 | .nil,.nod ..,h,_=>by cases h
 | .nil,.arm ..,h,_=>by cases h
 | .nod ..,.nil,h,_=>by cases h
 | .nod ..,.arm ..,h,_=>by cases h
 | .arm ..,.nil,h,_=>by cases h
 | .arm ..,.nod ..,h,_=>by cases h
theorem Tr.len0:∀ f:Tr,f.len=0->f=.nil
 | .nil,_=>rfl
 | .nod ..,h=>by simp[Tr.len]at h
 | .arm ..,h=>by simp[Tr.len]at h
theorem qS{s t:List UInt8}(h:s≠t):(⟨s.toArray⟩:ByteArray).toList≠(⟨t.toArray⟩:ByteArray).toList:=by
 rw[ByteArray.toList_eq,ByteArray.toList_eq];exact h
def KidsTr(w:World)(Ok:Nat->Prop)(sh:Sh)(A:Option Addr)(len cap:Nat)(f:Tr):Prop:=len=f.len/\len<=cap/\(0<len->∃ b o,A=some ⟨b,o,none⟩/\Ok b/\TrAt w Ok f sh b o)
abbrev OldT(w:World)(j:Nat):Prop:=j<w.heap.size
theorem KidsTr.keep{w w':World}{Ok:Nat->Prop}{sh:Sh}{A:Option Addr}{len cap:Nat}{f:Tr}(h:KidsTr w Ok sh A len cap f)(hk:∀ j,Ok j->w'.heap[j]?=w.heap[j]?):KidsTr w' Ok sh A len cap f:=
 ⟨h.1,h.2.1,fun h0=>by
  obtain⟨b,o,e,h1,h2⟩:=h.2.2 h0;exact⟨b,o,e,h1,TrAt.keep hk f sh b o h1 h2⟩⟩
theorem KidsTr.wide{w:World}{Ok Ok':Nat->Prop}{sh:Sh}{A:Option Addr}{len cap:Nat}{f:Tr}(h:KidsTr w Ok sh A len cap f)(hw:∀ j,Ok j->Ok' j):KidsTr w Ok' sh A len cap f:=
 ⟨h.1,h.2.1,fun h0=>by
  obtain⟨b,o,e,h1,h2⟩:=h.2.2 h0;exact⟨b,o,e,hw b h1,TrAt.wide hw f sh b o h2⟩⟩
theorem KidsTr.bel{w w':World}{sh:Sh}{A:Option Addr}{len cap:Nat}{f:Tr}(h:KidsTr w (OldT w) sh A len cap f)(hb:Bel w w'):KidsTr w' (OldT w') sh A len cap f:=
 (h.keep fun _ hj=>hb.block _ hj).wide fun _ hj=>Nat.lt_of_lt_of_le hj hb.size
def qi(r:Bool)(w:World):Ending->World->Prop:=fun e w'=>e=.returned (.bool r)/\Bel w w'
theorem Qh{w:World}{g:Nat}{t:TypeId}{x0 x1 x2 x3 x4 x5 x6:Value}(h:w.heap[g]?=some (.cells #[x0,x1,x2,x3,x4,x5,x6] t (0,0))) :
  w.cell? ⟨g,0,none⟩=some x0/\w.cell? ⟨g,1,none⟩=some x1/\w.cell? ⟨g,2,none⟩=some x2/\w.cell? ⟨g,6,none⟩=some x6:=by
 simp[World.cell?,h]
theorem JN(N:Nat):∀ (k:Int) (s:List UInt8) (n:Int) (p:Pl) (A:Option Addr) (len cap:Nat) (kids:Tr) (k2:Int) (s2:List UInt8) (n2:Int) (p2:Pl) (A2:Option Addr) (len2 cap2:Nat) (kids2:Tr) (w:World),kids.size=N->KidsTr w (OldT w) .pat A len cap kids->KidsTr w (OldT w) .pat A2 len2 cap2 kids2->kids.size<=1000000->kids2.size<=1000000 →
  Calls Tryz.prog 39 #[.agg #[.int .u8 k,.string ⟨s.toArray⟩,n,p.a,p.l,p.c,.slice A len cap],.agg #[.int .u8 k2,.string ⟨s2.toArray⟩,n2,p2.a,p2.l,p2.c,.slice A2 len2 cap2]] w (qi (Tr.same (.nod k s n p kids .nil .nil) (.nod k2 s2 n2 p2 kids2 .nil .nil)) w):=by
 induction N using Nat.strongRecOn with
 | _ N ih=>
  intro k s n p A len cap kids k2 s2 n2 p2 A2 len2 cap2 kids2 w hN h h2 hsz hsz2;have H:=hid h;have H2:=hid h2;have IH:=hid ih;have HL:Hid (len=kids.len):=hid h.1;have HL2:Hid (len2=kids2.len):=hid h2.1;have HN:=hid hN;have hlen:len<=1000000:=by have:=h.1;have:=kids.len_le;omega
  have hlen2:len2<=1000000:=by have:=h2.1;have:=kids2.len_le;omega
  obtain⟨r,hr⟩:∃ r,r=Tr.same (.nod k s n p kids .nil .nil) (.nod k2 s2 n2 p2 kids2 .nil .nil):=⟨_,rfl⟩
  rw[<- hr];have HR:Hid (r=true↔(k=k2/\s=s2/\n=n2/\kids.same kids2=true)):=hid (by
   rw[hr];simp only[Tr.same,Bool.and_eq_true,decide_eq_true_eq,and_true,and_assoc])
  have no:¬ (k=k2/\s=s2/\n=n2/\len=len2)->r=false:=fun hno=>by
   cases r
   ·rfl
   ·exfalso
    obtain⟨e1,e2,e3,e4⟩:=HR.out.1 rfl;exact hno ⟨e1,e2,e3,by rw[HL.out,HL2.out,Tr.same_len _ _ e4]⟩
  have NO:=hid no;clear h h2 ih hN hr no;obtain⟨S,hS⟩:∃ S:ByteArray,S=⟨s.toArray⟩:=⟨_,rfl⟩
  obtain⟨S2,hS2⟩:∃ S:ByteArray,S=⟨s2.toArray⟩:=⟨_,rfl⟩
  have hne:s≠s2->S.toList≠S2.toList:=fun h=>by rw[hS,hS2];exact qS h
  rw[<- hS,<- hS2];have hSS:s=s2->S=S2:=fun h=>by rw[hS,hS2,h]
  have HNE:=hid hne;clear hS hS2 hne;by_cases dk:k=k2
  case neg=>
   obtain rfl:=NO.out (fun h=>dk h.1);have ek:(k==k2)=false:=by simpa using dk
   go_enter Tryz.func39,Tryz.ntmps39
   go_wp2_with fail
   go_ret
   refine⟨rfl,?_⟩;repeat (first | exact Bel.refl _ | apply Bel.alloc | apply Bel.drew)
  subst dk;by_cases ds:s=s2
  case neg=>
   obtain rfl:=NO.out (fun h=>ds h.2.1);have qn:=HNE.out ds;have qb:(S.toList==S2.toList)=false:=by simpa using qn
   go_enter Tryz.func39,Tryz.ntmps39
   go_wp2_with fail
   go_ret
   refine⟨rfl,?_⟩;repeat (first | exact Bel.refl _ | apply Bel.alloc | apply Bel.drew)
  obtain rfl:=hSS ds;clear hSS;by_cases dn:n=n2
  case neg=>
   obtain rfl:=NO.out (fun h=>dn h.2.2.1);have en:(n==n2)=false:=by simpa using dn
   go_enter Tryz.func39,Tryz.ntmps39
   go_wp2_with fail
   go_ret
   refine⟨rfl,?_⟩;repeat (first | exact Bel.refl _ | apply Bel.alloc | apply Bel.drew)
  subst dn;by_cases dl:len=len2
  case neg=>
   obtain rfl:=NO.out (fun h=>dl h.2.2.2);have el:((len:Int)==(len2:Int))=false:=by simp;omega
   go_enter Tryz.func39,Tryz.ntmps39
   go_wp2_with fail
   go_ret
   refine⟨rfl,?_⟩;repeat (first | exact Bel.refl _ | apply Bel.alloc | apply Bel.drew)
  subst dl;have HDS:=hid ds;clear ds;go_enter Tryz.func39,Tryz.ntmps39
  go_wp2_with fail
  have q1:=blk2 w (.cells #[.int .u8 k,S,n,p.a,p.l,p.c,.slice A len cap] 78) (.cells #[.int .u8 k,S,n,p2.a,p2.l,p2.c,.slice A2 len cap2] 78);have hb1:Bel w ((w.alloc (.cells #[.int .u8 k,S,n,p.a,p.l,p.c,.slice A len cap] 78)).alloc (.cells #[.int .u8 k,S,n,p2.a,p2.l,p2.c,.slice A2 len cap2] 78)):=((Bel.refl w).alloc _).alloc _;have hs1:((w.alloc (.cells #[.int .u8 k,S,n,p.a,p.l,p.c,.slice A len cap] 78)).alloc (.cells #[.int .u8 k,S,n,p2.a,p2.l,p2.c,.slice A2 len cap2] 78)).heap.size=w.heap.size+2:=by simp
  obtain⟨w1,hw1⟩:∃ w1,w1=(w.alloc (.cells #[.int .u8 k,S,n,p.a,p.l,p.c,.slice A len cap] 78)).alloc (.cells #[.int .u8 k,S,n,p2.a,p2.l,p2.c,.slice A2 len cap2] 78):=⟨_,rfl⟩
  rw[<- hw1]at q1 hb1 hs1 ⊢;have HQ:=hid q1;have HB1:=hid hb1;have HS1:=hid hs1;clear q1 hb1 hs1 hw1 NO;go_loopw [5] (fun i wr=>∃ j:Nat,j<=len/\i=.int .i64 (j:Int)/\Hid (∀ i,i<j->(kids.nth i).same (kids2.nth i)=true)/\Hid (Bel w1 wr)) (fun i _=>len-(intOf i).toNat)
  case atStart=>exact⟨0,Nat.zero_le _,rfl,hid (fun i hi=>by omega),hid (Bel.refl _)⟩
  case round=>
   obtain⟨j,hj,rfl,HE,HB⟩:=hrel;have hbx:=(HB.out.block w.heap.size (by have:=HS1.out;omega)).trans HQ.out.1;have hby:=(HB.out.block (w.heap.size+1) (by have:=HS1.out;omega)).trans HQ.out.2;obtain⟨x0,x1,x2,x4⟩:=Qh hbx;obtain⟨y0,y1,y2,y4⟩:=Qh hby;clear hbx hby;by_cases hlt:j<len
   ·have hkr:KidsTr wr (OldT w) .pat A len cap kids:=H.out.keep fun i hi=>(HB.out.block i (Nat.lt_of_lt_of_le hi HB1.out.size)).trans (HB1.out.block i hi)
    have hkr2:KidsTr wr (OldT w) .pat A2 len cap2 kids2:=H2.out.keep fun i hi=>(HB.out.block i (Nat.lt_of_lt_of_le hi HB1.out.size)).trans (HB1.out.block i hi);obtain⟨ub,uo,eA,hob,hfo⟩:=hkr.2.2 (by omega);obtain⟨ub2,uo2,eA2,hob2,hfo2⟩:=hkr2.2.2 (by omega);subst eA eA2;obtain⟨k',s',n',p',kids',ar',en,hd',⟨A',cap',e5,hcp',hk'⟩,har',_⟩:=TrAt.nod_at (by intro e;cases e) kids j ub uo hfo (by rw[<- HL.out];exact hlt);obtain⟨k3,s3,n3,p3,kids3,ar3,en3,hd3,⟨A3,cap3,d5,hcp3,hk3⟩,har3,_⟩:=TrAt.nod_at (by intro e;cases e) kids2 j ub2 uo2 hfo2 (by rw[<- HL2.out];exact hlt);obtain rfl:ar'=.nil:=by
     rcases har' with ⟨e,_⟩ | ⟨_,e⟩
     ·cases e
     ·exact Tr.len0 _ e
    obtain rfl:ar3=.nil:=by
     rcases har3 with ⟨e,_⟩ | ⟨_,e⟩
     ·cases e
     ·exact Tr.len0 _ e
    obtain⟨e0,e1,e2,f1,f2,f3⟩:=hd';obtain⟨d0,d1,d2,g1,g2,g3⟩:=hd3;have hsn:=Tr.nth_size kids j;have hsn3:=Tr.nth_size kids2 j;rw[en]at hsn;rw[en3]at hsn3;simp only[Tr.size]at hsn hsn3;have hOld:∀ i,OldT w i->OldT wr i:=fun i hi=>Nat.lt_of_lt_of_le hi (Nat.le_trans HB1.out.size HB.out.size);have hK':KidsTr wr (OldT w) .pat A' kids'.len cap' kids':=⟨rfl,hcp',hk'⟩
    have hK3:KidsTr wr (OldT w) .pat A3 kids3.len cap3 kids3:=⟨rfl,hcp3,hk3⟩
    have HC:Hid (∀ W,Bel wr W->Calls Tryz.prog 39 #[.agg #[.int .u8 k',.string ⟨s'.toArray⟩,n',p'.a,p'.l,p'.c,.slice A' kids'.len cap'],.agg #[.int .u8 k3,.string ⟨s3.toArray⟩,n3,p3.a,p3.l,p3.c,.slice A3 kids3.len cap3]] W (qi ((kids.nth j).same (kids2.nth j)) W)):=hid fun W hW=>by
     rw[en,en3];exact IH.out kids'.size (by have:=HN.out;omega) k' s' n' p' A' kids'.len cap' kids' k3 s3 n3 p3 A3 kids3.len cap3 kids3 W rfl ((hK'.wide hOld).bel hW) ((hK3.wide hOld).bel hW) (by omega) (by omega)
    obtain⟨q,hq⟩:∃ q,q=(kids.nth j).same (kids2.nth j):=⟨_,rfl⟩
    rw[<- hq]at HC;have HQE:=hid hq;obtain⟨l1,hl1⟩:∃ l,l=kids'.len:=⟨_,rfl⟩
    obtain⟨l2,hl2⟩:∃ l,l=kids3.len:=⟨_,rfl⟩
    rw[<- hl1]at e5 HC;rw[<- hl2]at d5 HC;have i1:(0:Int)<=(j:Int):=by omega
    have i2:(j:Int)<(len:Int):=by omega
    have kb1:ub<wr.heap.size:=hOld _ hob;have kb2:ub2<wr.heap.size:=hOld _ hob2;have kb3:w.heap.size<wr.heap.size:=by have:=HS1.out;have:=HB.out.size;omega
    have kb4:w.heap.size+1<wr.heap.size:=by have:=HS1.out;have:=HB.out.size;omega
    have HLT:=hid hlt;clear hkr hkr2 hfo hfo2 en en3 hk' hk3 hK' hK3 hsn hsn3 hq hl1 hl2 hOld hob hob2 hlen2 hcp' hcp3 har' har3;have X4:=qa kb3 x4;have Y4:=qa kb4 y4;have E0:=qa kb1 e0;have E1:=qa kb1 e1;have E2:=qa kb1 e2;have F1:=qa kb1 f1;have F2:=qa kb1 f2;have F3:=qa kb1 f3;have E5:=qa kb1 e5;have D0:=qa kb2 d0;have D1:=qa kb2 d1;have D2:=qa kb2 d2;have G1:=qa kb2 g1;have G2:=qa kb2 g2;have G3:=qa kb2 g3;have D5:=qa kb2 d5;simp only[Sh.sz,Sh.kd]at E0 E1 E2 E5 F1 F2 F3 D0 D1 D2 D5 G1 G2 G3;go_wp2_with fail
    refine qh 11 (by kernel_rfl) (by kernel_rfl) ?_;simp only[List.take_succ_cons,List.take_zero,List.drop_succ_cons,List.drop_zero];repeat (go_big_quiet_step (exact (HC.out _ (Abw.bel _)).mono fun e w h=>⟨h.1,⟨_,(Abw.bel _).on h.2⟩,rfl⟩))
    refine wpQuiet_nil ?_;rintro w4 ⟨⟨w4,hb4⟩,rfl⟩;have HB4:=hid (HB.out.on hb4);clear hb4 X4 Y4 E0 E1 E2 E5 F1 F2 F3 D0 D1 D2 D5 G1 G2 G3 x0 x1 x2 x4 y0 y1 y2 y4 e0 e1 e2 e5 f1 f2 f3 d0 d1 d2 d5 g1 g2 g3;cases q
    ·have hr0:r=false:=by
      cases r
      ·rfl
      ·exfalso
       have e:=(HR.out.1 rfl).2.2.2;have:=HQE.out;rw[Tr.nth_same _ _ e]at this;cases this
     subst hr0;go_wp2_with fail
     go_ret
     exact⟨rfl,HB1.out.on HB4.out⟩
    ·have HE':Hid (∀ i,i<j+1->(kids.nth i).same (kids2.nth i)=true):=hid fun i hi=>by
      by_cases e:i=j
      ·subst e;exact HQE.out.symm
      ·exact HE.out i (by omega)
     go_wp2_with fail
     go_roundw
     case rel=>exact⟨j+1,HLT.out,by go_num,HE',HB4⟩
     case measure=>have:=HLT.out;simp[intOf];omega
   ·obtain rfl:j=len:=by omega
    have hkk:kids.same kids2=true:=Tr.same_nth kids kids2 (by rw[<- HL.out,<- HL2.out]) (fun i hi=>HE.out i (by rw[HL.out];exact hi));have hr1:r=true:=HR.out.2 ⟨trivial,HDS.out,trivial,hkk⟩;subst hr1;go_wp2_with fail
    go_ret
    exact⟨rfl,HB1.out.on HB.out⟩
theorem qaB(N:Nat):∀ (k:Int) (s:List UInt8) (n:Int) (p:Pl) (A:Option Addr) (len cap:Nat) (kids:Tr) (k2:Int) (s2:List UInt8) (n2:Int) (p2:Pl) (A2:Option Addr) (len2 cap2:Nat) (kids2:Tr) (w:World),kids.size=N->KidsTr w (OldT w) .ty A len cap kids->KidsTr w (OldT w) .ty A2 len2 cap2 kids2->kids.size<=1000000->kids2.size<=1000000 →
  Calls Tryz.prog 133 #[.agg #[.int .u8 k,.string ⟨s.toArray⟩,.int .u8 n,p.a,p.l,p.c,.slice A len cap],.agg #[.int .u8 k2,.string ⟨s2.toArray⟩,.int .u8 n2,p2.a,p2.l,p2.c,.slice A2 len2 cap2]] w (qi (Tr.same (.nod k s n p kids .nil .nil) (.nod k2 s2 n2 p2 kids2 .nil .nil)) w):=by
 induction N using Nat.strongRecOn with
 | _ N ih=>
  intro k s n p A len cap kids k2 s2 n2 p2 A2 len2 cap2 kids2 w hN h h2 hsz hsz2;have H:=hid h;have H2:=hid h2;have IH:=hid ih;have HL:Hid (len=kids.len):=hid h.1;have HL2:Hid (len2=kids2.len):=hid h2.1;have HN:=hid hN;have hlen:len<=1000000:=by have:=h.1;have:=kids.len_le;omega
  have hlen2:len2<=1000000:=by have:=h2.1;have:=kids2.len_le;omega
  obtain⟨r,hr⟩:∃ r,r=Tr.same (.nod k s n p kids .nil .nil) (.nod k2 s2 n2 p2 kids2 .nil .nil):=⟨_,rfl⟩
  rw[<- hr];have HR:Hid (r=true↔(k=k2/\s=s2/\n=n2/\kids.same kids2=true)):=hid (by
   rw[hr];simp only[Tr.same,Bool.and_eq_true,decide_eq_true_eq,and_true,and_assoc])
  have no:¬ (k=k2/\s=s2/\n=n2/\len=len2)->r=false:=fun hno=>by
   cases r
   ·rfl
   ·exfalso
    obtain⟨e1,e2,e3,e4⟩:=HR.out.1 rfl;exact hno ⟨e1,e2,e3,by rw[HL.out,HL2.out,Tr.same_len _ _ e4]⟩
  have NO:=hid no;clear h h2 ih hN hr no;obtain⟨S,hS⟩:∃ S:ByteArray,S=⟨s.toArray⟩:=⟨_,rfl⟩
  obtain⟨S2,hS2⟩:∃ S:ByteArray,S=⟨s2.toArray⟩:=⟨_,rfl⟩
  have hne:s≠s2->S.toList≠S2.toList:=fun h=>by rw[hS,hS2];exact qS h
  rw[<- hS,<- hS2];have hSS:s=s2->S=S2:=fun h=>by rw[hS,hS2,h]
  have HNE:=hid hne;clear hS hS2 hne;by_cases dk:k=k2
  case neg=>
   obtain rfl:=NO.out (fun h=>dk h.1);have ek:(k==k2)=false:=by simpa using dk
   go_enter Tryz.func133,Tryz.ntmps133
   go_wp2_with fail
   go_ret
   refine⟨rfl,?_⟩;repeat (first | exact Bel.refl _ | apply Bel.alloc | apply Bel.drew)
  subst dk;by_cases ds:s=s2
  case neg=>
   obtain rfl:=NO.out (fun h=>ds h.2.1);have qn:=HNE.out ds;have qb:(S.toList==S2.toList)=false:=by simpa using qn
   go_enter Tryz.func133,Tryz.ntmps133
   go_wp2_with fail
   go_ret
   refine⟨rfl,?_⟩;repeat (first | exact Bel.refl _ | apply Bel.alloc | apply Bel.drew)
  obtain rfl:=hSS ds;clear hSS;by_cases dn:n=n2
  case neg=>
   obtain rfl:=NO.out (fun h=>dn h.2.2.1);have en:(n==n2)=false:=by simpa using dn
   go_enter Tryz.func133,Tryz.ntmps133
   go_wp2_with fail
   go_ret
   refine⟨rfl,?_⟩;repeat (first | exact Bel.refl _ | apply Bel.alloc | apply Bel.drew)
  subst dn;by_cases dl:len=len2
  case neg=>
   obtain rfl:=NO.out (fun h=>dl h.2.2.2);have el:((len:Int)==(len2:Int))=false:=by simp;omega
   go_enter Tryz.func133,Tryz.ntmps133
   go_wp2_with fail
   go_ret
   refine⟨rfl,?_⟩;repeat (first | exact Bel.refl _ | apply Bel.alloc | apply Bel.drew)
  subst dl;have HDS:=hid ds;clear ds;go_enter Tryz.func133,Tryz.ntmps133
  go_wp2_with fail
  have q1:=blk2 w (.cells #[.int .u8 k,S,.int .u8 n,p.a,p.l,p.c,.slice A len cap] 59) (.cells #[.int .u8 k,S,.int .u8 n,p2.a,p2.l,p2.c,.slice A2 len cap2] 59);have hb1:Bel w ((w.alloc (.cells #[.int .u8 k,S,.int .u8 n,p.a,p.l,p.c,.slice A len cap] 59)).alloc (.cells #[.int .u8 k,S,.int .u8 n,p2.a,p2.l,p2.c,.slice A2 len cap2] 59)):=((Bel.refl w).alloc _).alloc _;have hs1:((w.alloc (.cells #[.int .u8 k,S,.int .u8 n,p.a,p.l,p.c,.slice A len cap] 59)).alloc (.cells #[.int .u8 k,S,.int .u8 n,p2.a,p2.l,p2.c,.slice A2 len cap2] 59)).heap.size=w.heap.size+2:=by simp
  obtain⟨w1,hw1⟩:∃ w1,w1=(w.alloc (.cells #[.int .u8 k,S,.int .u8 n,p.a,p.l,p.c,.slice A len cap] 59)).alloc (.cells #[.int .u8 k,S,.int .u8 n,p2.a,p2.l,p2.c,.slice A2 len cap2] 59):=⟨_,rfl⟩
  rw[<- hw1]at q1 hb1 hs1 ⊢;have HQ:=hid q1;have HB1:=hid hb1;have HS1:=hid hs1;clear q1 hb1 hs1 hw1 NO;go_loopw [5] (fun i wr=>∃ j:Nat,j<=len/\i=.int .i64 (j:Int)/\Hid (∀ i,i<j->(kids.nth i).same (kids2.nth i)=true)/\Hid (Bel w1 wr)) (fun i _=>len-(intOf i).toNat)
  case atStart=>exact⟨0,Nat.zero_le _,rfl,hid (fun i hi=>by omega),hid (Bel.refl _)⟩
  case round=>
   obtain⟨j,hj,rfl,HE,HB⟩:=hrel;have hbx:=(HB.out.block w.heap.size (by have:=HS1.out;omega)).trans HQ.out.1;have hby:=(HB.out.block (w.heap.size+1) (by have:=HS1.out;omega)).trans HQ.out.2;obtain⟨x0,x1,x2,x4⟩:=Qh hbx;obtain⟨y0,y1,y2,y4⟩:=Qh hby;clear hbx hby;by_cases hlt:j<len
   ·have hkr:KidsTr wr (OldT w) .ty A len cap kids:=H.out.keep fun i hi=>(HB.out.block i (Nat.lt_of_lt_of_le hi HB1.out.size)).trans (HB1.out.block i hi)
    have hkr2:KidsTr wr (OldT w) .ty A2 len cap2 kids2:=H2.out.keep fun i hi=>(HB.out.block i (Nat.lt_of_lt_of_le hi HB1.out.size)).trans (HB1.out.block i hi);obtain⟨ub,uo,eA,hob,hfo⟩:=hkr.2.2 (by omega);obtain⟨ub2,uo2,eA2,hob2,hfo2⟩:=hkr2.2.2 (by omega);subst eA eA2;obtain⟨k',s',n',p',kids',ar',en,hd',⟨A',cap',e5,hcp',hk'⟩,har',_⟩:=TrAt.nod_at (by intro e;cases e) kids j ub uo hfo (by rw[<- HL.out];exact hlt);obtain⟨k3,s3,n3,p3,kids3,ar3,en3,hd3,⟨A3,cap3,d5,hcp3,hk3⟩,har3,_⟩:=TrAt.nod_at (by intro e;cases e) kids2 j ub2 uo2 hfo2 (by rw[<- HL2.out];exact hlt);obtain rfl:ar'=.nil:=by
     rcases har' with ⟨e,_⟩ | ⟨_,e⟩
     ·cases e
     ·exact Tr.len0 _ e
    obtain rfl:ar3=.nil:=by
     rcases har3 with ⟨e,_⟩ | ⟨_,e⟩
     ·cases e
     ·exact Tr.len0 _ e
    obtain⟨e0,e1,e2,f1,f2,f3⟩:=hd';obtain⟨d0,d1,d2,g1,g2,g3⟩:=hd3;have hsn:=Tr.nth_size kids j;have hsn3:=Tr.nth_size kids2 j;rw[en]at hsn;rw[en3]at hsn3;simp only[Tr.size]at hsn hsn3;have hOld:∀ i,OldT w i->OldT wr i:=fun i hi=>Nat.lt_of_lt_of_le hi (Nat.le_trans HB1.out.size HB.out.size);have hK':KidsTr wr (OldT w) .ty A' kids'.len cap' kids':=⟨rfl,hcp',hk'⟩
    have hK3:KidsTr wr (OldT w) .ty A3 kids3.len cap3 kids3:=⟨rfl,hcp3,hk3⟩
    have HC:Hid (∀ W,Bel wr W->Calls Tryz.prog 133 #[.agg #[.int .u8 k',.string ⟨s'.toArray⟩,.int .u8 n',p'.a,p'.l,p'.c,.slice A' kids'.len cap'],.agg #[.int .u8 k3,.string ⟨s3.toArray⟩,.int .u8 n3,p3.a,p3.l,p3.c,.slice A3 kids3.len cap3]] W (qi ((kids.nth j).same (kids2.nth j)) W)):=hid fun W hW=>by
     rw[en,en3];exact IH.out kids'.size (by have:=HN.out;omega) k' s' n' p' A' kids'.len cap' kids' k3 s3 n3 p3 A3 kids3.len cap3 kids3 W rfl ((hK'.wide hOld).bel hW) ((hK3.wide hOld).bel hW) (by omega) (by omega)
    obtain⟨q,hq⟩:∃ q,q=(kids.nth j).same (kids2.nth j):=⟨_,rfl⟩
    rw[<- hq]at HC;have HQE:=hid hq;obtain⟨l1,hl1⟩:∃ l,l=kids'.len:=⟨_,rfl⟩
    obtain⟨l2,hl2⟩:∃ l,l=kids3.len:=⟨_,rfl⟩
    rw[<- hl1]at e5 HC;rw[<- hl2]at d5 HC;have i1:(0:Int)<=(j:Int):=by omega
    have i2:(j:Int)<(len:Int):=by omega
    have kb1:ub<wr.heap.size:=hOld _ hob;have kb2:ub2<wr.heap.size:=hOld _ hob2;have kb3:w.heap.size<wr.heap.size:=by have:=HS1.out;have:=HB.out.size;omega
    have kb4:w.heap.size+1<wr.heap.size:=by have:=HS1.out;have:=HB.out.size;omega
    have HLT:=hid hlt;clear hkr hkr2 hfo hfo2 en en3 hk' hk3 hK' hK3 hsn hsn3 hq hl1 hl2 hOld hob hob2 hlen2 hcp' hcp3 har' har3;have X4:=qa kb3 x4;have Y4:=qa kb4 y4;have E0:=qa kb1 e0;have E1:=qa kb1 e1;have E2:=qa kb1 e2;have F1:=qa kb1 f1;have F2:=qa kb1 f2;have F3:=qa kb1 f3;have E5:=qa kb1 e5;have D0:=qa kb2 d0;have D1:=qa kb2 d1;have D2:=qa kb2 d2;have G1:=qa kb2 g1;have G2:=qa kb2 g2;have G3:=qa kb2 g3;have D5:=qa kb2 d5;simp only[Sh.sz,Sh.kd]at E0 E1 E2 E5 F1 F2 F3 D0 D1 D2 D5 G1 G2 G3;go_wp2_with fail
    refine qh 11 (by kernel_rfl) (by kernel_rfl) ?_;simp only[List.take_succ_cons,List.take_zero,List.drop_succ_cons,List.drop_zero];repeat (go_big_quiet_step (exact (HC.out _ (Abw.bel _)).mono fun e w h=>⟨h.1,⟨_,(Abw.bel _).on h.2⟩,rfl⟩))
    refine wpQuiet_nil ?_;rintro w4 ⟨⟨w4,hb4⟩,rfl⟩;have HB4:=hid (HB.out.on hb4);clear hb4 X4 Y4 E0 E1 E2 E5 F1 F2 F3 D0 D1 D2 D5 G1 G2 G3 x0 x1 x2 x4 y0 y1 y2 y4 e0 e1 e2 e5 f1 f2 f3 d0 d1 d2 d5 g1 g2 g3;cases q
    ·have hr0:r=false:=by
      cases r
      ·rfl
      ·exfalso
       have e:=(HR.out.1 rfl).2.2.2;have:=HQE.out;rw[Tr.nth_same _ _ e]at this;cases this
     subst hr0;go_wp2_with fail
     go_ret
     exact⟨rfl,HB1.out.on HB4.out⟩
    ·have HE':Hid (∀ i,i<j+1->(kids.nth i).same (kids2.nth i)=true):=hid fun i hi=>by
      by_cases e:i=j
      ·subst e;exact HQE.out.symm
      ·exact HE.out i (by omega)
     go_wp2_with fail
     go_roundw
     case rel=>exact⟨j+1,HLT.out,by go_num,HE',HB4⟩
     case measure=>have:=HLT.out;simp[intOf];omega
   ·obtain rfl:j=len:=by omega
    have hkk:kids.same kids2=true:=Tr.same_nth kids kids2 (by rw[<- HL.out,<- HL2.out]) (fun i hi=>HE.out i (by rw[HL.out];exact hi));have hr1:r=true:=HR.out.2 ⟨trivial,HDS.out,trivial,hkk⟩;subst hr1;go_wp2_with fail
    go_ret
    exact⟨rfl,HB1.out.on HB.out⟩
def Tr.depU:Tr->Nat->Nat
 | .nil,_=>0
 | .nod _ _ _ _ _ _ _,0=>0
 | .arm _ _ _ _ _ _ _,0=>0
 | .nod _ _ _ _ k a r,j+1=>max (1+max k.depth a.depth) (r.depU j)
 | .arm _ _ _ _ k e r,j+1=>max (max (1+k.depth) e.depth) (r.depU j)
theorem Tr.depU_zero(f:Tr):f.depU 0=0:=by cases f <;> rfl
theorem Tr.depU_all:∀ f:Tr,f.depU f.len=f.depth
 | .nil=>rfl
 | .nod _ _ _ _ k a r=>by simp only[Tr.len,Tr.depU,Tr.depth,Tr.depU_all r]
 | .arm _ _ _ _ k e r=>by simp only[Tr.len,Tr.depU,Tr.depth,Tr.depU_all r]
theorem Tr.depU_succ:∀ (f:Tr) (j:Nat),j<f.len->f.depU (j+1)=max (f.depU j) (f.nth j).depth
 | .nil,j,h=>by simp[Tr.len]at h
 | .nod _ _ _ _ k a r,0,_=>by simp only[Tr.depU,Tr.depU_zero,Tr.nth,Tr.depth];omega
 | .arm _ _ _ _ k e r,0,_=>by simp only[Tr.depU,Tr.depU_zero,Tr.nth,Tr.depth];omega
 | .nod _ _ _ _ k a r,j+1,h=>by
  have:=Tr.depU_succ r j (by simp only[Tr.len]at h;omega);simp only[Tr.depU,Tr.nth]at this ⊢;rw[this];omega
 | .arm _ _ _ _ k e r,j+1,h=>by
  have:=Tr.depU_succ r j (by simp only[Tr.len]at h;omega);simp only[Tr.depU,Tr.nth]at this ⊢;rw[this];omega
theorem jO(a b:Int)(w:World):Calls Tryz.prog 35 #[.int .i64 a,b] w fun e w'=>e=.returned (.int .i64 (max a b))/\Bel w w':=by
 by_cases h:b<a
 ·have hm:max a b=a:=by omega
  rw[hm];go_enter Tryz.func35,Tryz.ntmps35
  go_wp2
  go_ret
  exact⟨rfl,Bel.refl w⟩
 ·have hm:max a b=b:=by omega
  rw[hm];go_enter Tryz.func35,Tryz.ntmps35
  go_wp2
  go_ret
  exact⟨rfl,Bel.refl w⟩
theorem qai(N:Nat):∀ (k:Int) (s:List UInt8) (n:Int) (p:Pl) (A:Option Addr) (len cap:Nat) (kids:Tr) (w:World),kids.size=N->KidsTr w (OldT w) .pat A len cap kids->kids.size<=1000000 →
  Calls Tryz.prog 73 #[.agg #[.int .u8 k,.string ⟨s.toArray⟩,n,p.a,p.l,p.c,.slice A len cap]] w fun e w'=>e=.returned (.int .i64 ((1+kids.depth:Nat):Int))/\Bel w w':=by
 induction N using Nat.strongRecOn with
 | _ N ih=>
  intro k s n p A len cap kids w hN h hsz;have H:=hid h;have IH:=hid ih;have HL:Hid (len=kids.len):=hid h.1;have HN:=hid hN;have HZ:=hid hsz;have hlen:len<=1000000:=by have:=h.1;have:=kids.len_le;omega
  clear h ih hN hsz;obtain⟨S,hS⟩:∃ S:ByteArray,S=⟨s.toArray⟩:=⟨_,rfl⟩
  rw[<- hS];clear hS;go_enter Tryz.func73,Tryz.ntmps73
  go_wp2_with fail
  have q1:=blk1 w (.cells #[.int .u8 k,S,n,p.a,p.l,p.c,.slice A len cap] 78);have hb1:Bel w (w.alloc (.cells #[.int .u8 k,S,n,p.a,p.l,p.c,.slice A len cap] 78)):=(Bel.refl w).alloc _;have hs1:(w.alloc (.cells #[.int .u8 k,S,n,p.a,p.l,p.c,.slice A len cap] 78)).heap.size=w.heap.size+1:=by simp
  obtain⟨w1,hw1⟩:∃ w1,w1=w.alloc (.cells #[.int .u8 k,S,n,p.a,p.l,p.c,.slice A len cap] 78):=⟨_,rfl⟩
  rw[<- hw1]at q1 hb1 hs1 ⊢;have HQ:=hid q1;have HB1:=hid hb1;have HS1:=hid hs1;clear q1 hb1 hs1 hw1;go_loopw [3,4] (fun s i wr=>∃ j:Nat,j<=len/\i=.int .i64 (j:Int)/\s=.int .i64 ((kids.depU j:Nat):Int)/\Hid (Bel w1 wr)) (fun _ i _=>len-(intOf i).toNat)
  case atStart=>exact⟨0,Nat.zero_le _,rfl,by rw[Tr.depU_zero];rfl,hid (Bel.refl _)⟩
  case round=>
   obtain⟨j,hj,rfl,rfl,HB⟩:=hrel;have hbx:=(HB.out.block w.heap.size (by have:=HS1.out;omega)).trans HQ.out;obtain⟨_,_,_,x6⟩:=Qh hbx;clear hbx;by_cases hlt:j<len
   ·have hkr:KidsTr wr (OldT w) .pat A len cap kids:=H.out.keep fun i hi=>(HB.out.block i (Nat.lt_of_lt_of_le hi HB1.out.size)).trans (HB1.out.block i hi)
    obtain⟨ub,uo,eA,hob,hfo⟩:=hkr.2.2 (by omega);subst eA;obtain⟨k',s',n',p',kids',ar',en,hd',⟨A',cap',e5,hcp',hk'⟩,har',_⟩:=TrAt.nod_at (by intro e;cases e) kids j ub uo hfo (by rw[<- HL.out];exact hlt);obtain rfl:ar'=.nil:=by
     rcases har' with ⟨e,_⟩ | ⟨_,e⟩
     ·cases e
     ·exact Tr.len0 _ e
    obtain⟨e0,e1,e2,f1,f2,f3⟩:=hd';have hsn:=Tr.nth_size kids j;rw[en]at hsn;simp only[Tr.size]at hsn;have hOld:∀ i,OldT w i->OldT wr i:=fun i hi=>Nat.lt_of_lt_of_le hi (Nat.le_trans HB1.out.size HB.out.size);have hK':KidsTr wr (OldT w) .pat A' kids'.len cap' kids':=⟨rfl,hcp',hk'⟩
    have HU:Hid (kids.depU (j+1)=max (kids.depU j) (1+kids'.depth)):=hid (by
     rw[Tr.depU_succ kids j (by rw[<- HL.out];exact hlt),en];simp only[Tr.depth];omega)
    have HC:Hid (Calls Tryz.prog 73 #[.agg #[.int .u8 k',.string ⟨s'.toArray⟩,n',p'.a,p'.l,p'.c,.slice A' kids'.len cap']] wr fun e w'=>e=.returned (.int .i64 ((1+kids'.depth:Nat):Int))/\Bel wr w'):=hid (by
     have hz:=HZ.out;exact IH.out kids'.size (by have:=HN.out;omega) k' s' n' p' A' kids'.len cap' kids' wr rfl (hK'.wide hOld) (by omega))
    obtain⟨z,hz⟩:∃ z:Int,z=((1+kids'.depth:Nat):Int):=⟨_,rfl⟩
    obtain⟨y,hy⟩:∃ y:Int,y=((kids.depU j:Nat):Int):=⟨_,rfl⟩
    rw[<- hz]at HC;rw[<- hy];have HZY:=hid (And.intro hz hy);obtain⟨l1,hl1⟩:∃ l,l=kids'.len:=⟨_,rfl⟩
    rw[<- hl1]at e5 HC;have i1:(0:Int)<=(j:Int):=by omega
    have i2:(j:Int)<(len:Int):=by omega
    have HLT:=hid hlt;simp only[Sh.sz,Sh.kd]at e0 e1 e2 e5 f1 f2 f3;clear hkr hfo en hk' hK' hsn hz hy hl1 har' hcp' hOld hob;go_wp2_with fail
    refine HC.out.mono ?_;rintro e w2 ⟨rfl,hb2⟩;have HB2:=hid (HB.out.on hb2);clear hb2 e0 e1 e2 e5 f1 f2 f3 x6;go_wp2_with fail
    refine (jO _ _ _).mono ?_;rintro e w3 ⟨rfl,hb3⟩;have HB3:=hid (HB2.out.on hb3);clear hb3;go_wp2_with fail
    go_roundw
    case rel=>
     refine⟨j+1,HLT.out,by go_num,?_,HB3⟩;rw[HU.out,HZY.out.1,HZY.out.2];congr 1
     omega
    case measure=>have:=HLT.out;simp[intOf];omega
   ·obtain rfl:j=len:=by omega
    have HE:Hid (((kids.depU j:Nat):Int)+1=((1+kids.depth:Nat):Int)/\kids.depth<=1000000):=hid (by
     rw[HL.out,Tr.depU_all];have:=kids.depth_le;have:=HZ.out;exact⟨by omega,by omega⟩)
    obtain⟨y,hy⟩:∃ y:Int,y=((kids.depU j:Nat):Int):=⟨_,rfl⟩
    have hy0:0<=y/\y<=1000000:=by have:=HE.out;omega
    rw[<- hy]at HE ⊢;have hw:wrap64 (y+1)=y+1:=IntWalk.wrap64_in _ (by omega);clear hy;go_wp2_with fail
    go_ret
    exact⟨by rw[HE.out.1];rfl,HB1.out.on HB.out⟩
theorem qck(N:Nat):∀ (k:Int) (s:List UInt8) (n:Int) (p:Pl) (A:Option Addr) (len cap:Nat) (kids:Tr) (w:World),kids.size=N->KidsTr w (OldT w) .ty A len cap kids->kids.size<=1000000 →
  Calls Tryz.prog 36 #[.agg #[.int .u8 k,.string ⟨s.toArray⟩,.int .u8 n,p.a,p.l,p.c,.slice A len cap]] w fun e w'=>e=.returned (.int .i64 ((1+kids.depth:Nat):Int))/\Bel w w':=by
 induction N using Nat.strongRecOn with
 | _ N ih=>
  intro k s n p A len cap kids w hN h hsz;have H:=hid h;have IH:=hid ih;have HL:Hid (len=kids.len):=hid h.1;have HN:=hid hN;have HZ:=hid hsz;have hlen:len<=1000000:=by have:=h.1;have:=kids.len_le;omega
  clear h ih hN hsz;obtain⟨S,hS⟩:∃ S:ByteArray,S=⟨s.toArray⟩:=⟨_,rfl⟩
  rw[<- hS];clear hS;go_enter Tryz.func36,Tryz.ntmps36
  go_wp2_with fail
  have q1:=blk1 w (.cells #[.int .u8 k,S,.int .u8 n,p.a,p.l,p.c,.slice A len cap] 59);have hb1:Bel w (w.alloc (.cells #[.int .u8 k,S,.int .u8 n,p.a,p.l,p.c,.slice A len cap] 59)):=(Bel.refl w).alloc _;have hs1:(w.alloc (.cells #[.int .u8 k,S,.int .u8 n,p.a,p.l,p.c,.slice A len cap] 59)).heap.size=w.heap.size+1:=by simp
  obtain⟨w1,hw1⟩:∃ w1,w1=w.alloc (.cells #[.int .u8 k,S,.int .u8 n,p.a,p.l,p.c,.slice A len cap] 59):=⟨_,rfl⟩
  rw[<- hw1]at q1 hb1 hs1 ⊢;have HQ:=hid q1;have HB1:=hid hb1;have HS1:=hid hs1;clear q1 hb1 hs1 hw1;go_loopw [3,4] (fun s i wr=>∃ j:Nat,j<=len/\i=.int .i64 (j:Int)/\s=.int .i64 ((kids.depU j:Nat):Int)/\Hid (Bel w1 wr)) (fun _ i _=>len-(intOf i).toNat)
  case atStart=>exact⟨0,Nat.zero_le _,rfl,by rw[Tr.depU_zero];rfl,hid (Bel.refl _)⟩
  case round=>
   obtain⟨j,hj,rfl,rfl,HB⟩:=hrel;have hbx:=(HB.out.block w.heap.size (by have:=HS1.out;omega)).trans HQ.out;obtain⟨_,_,_,x6⟩:=Qh hbx;clear hbx;by_cases hlt:j<len
   ·have hkr:KidsTr wr (OldT w) .ty A len cap kids:=H.out.keep fun i hi=>(HB.out.block i (Nat.lt_of_lt_of_le hi HB1.out.size)).trans (HB1.out.block i hi)
    obtain⟨ub,uo,eA,hob,hfo⟩:=hkr.2.2 (by omega);subst eA;obtain⟨k',s',n',p',kids',ar',en,hd',⟨A',cap',e5,hcp',hk'⟩,har',_⟩:=TrAt.nod_at (by intro e;cases e) kids j ub uo hfo (by rw[<- HL.out];exact hlt);obtain rfl:ar'=.nil:=by
     rcases har' with ⟨e,_⟩ | ⟨_,e⟩
     ·cases e
     ·exact Tr.len0 _ e
    obtain⟨e0,e1,e2,f1,f2,f3⟩:=hd';have hsn:=Tr.nth_size kids j;rw[en]at hsn;simp only[Tr.size]at hsn;have hOld:∀ i,OldT w i->OldT wr i:=fun i hi=>Nat.lt_of_lt_of_le hi (Nat.le_trans HB1.out.size HB.out.size);have hK':KidsTr wr (OldT w) .ty A' kids'.len cap' kids':=⟨rfl,hcp',hk'⟩
    have HU:Hid (kids.depU (j+1)=max (kids.depU j) (1+kids'.depth)):=hid (by
     rw[Tr.depU_succ kids j (by rw[<- HL.out];exact hlt),en];simp only[Tr.depth];omega)
    have HC:Hid (Calls Tryz.prog 36 #[.agg #[.int .u8 k',.string ⟨s'.toArray⟩,.int .u8 n',p'.a,p'.l,p'.c,.slice A' kids'.len cap']] wr fun e w'=>e=.returned (.int .i64 ((1+kids'.depth:Nat):Int))/\Bel wr w'):=hid (by
     have hz:=HZ.out;exact IH.out kids'.size (by have:=HN.out;omega) k' s' n' p' A' kids'.len cap' kids' wr rfl (hK'.wide hOld) (by omega))
    obtain⟨z,hz⟩:∃ z:Int,z=((1+kids'.depth:Nat):Int):=⟨_,rfl⟩
    obtain⟨y,hy⟩:∃ y:Int,y=((kids.depU j:Nat):Int):=⟨_,rfl⟩
    rw[<- hz]at HC;rw[<- hy];have HZY:=hid (And.intro hz hy);obtain⟨l1,hl1⟩:∃ l,l=kids'.len:=⟨_,rfl⟩
    rw[<- hl1]at e5 HC;have i1:(0:Int)<=(j:Int):=by omega
    have i2:(j:Int)<(len:Int):=by omega
    have HLT:=hid hlt;simp only[Sh.sz,Sh.kd]at e0 e1 e2 e5 f1 f2 f3;clear hkr hfo en hk' hK' hsn hz hy hl1 har' hcp' hOld hob;go_wp2_with fail
    refine HC.out.mono ?_;rintro e w2 ⟨rfl,hb2⟩;have HB2:=hid (HB.out.on hb2);clear hb2 e0 e1 e2 e5 f1 f2 f3 x6;go_wp2_with fail
    refine (jO _ _ _).mono ?_;rintro e w3 ⟨rfl,hb3⟩;have HB3:=hid (HB2.out.on hb3);clear hb3;go_wp2_with fail
    go_roundw
    case rel=>
     refine⟨j+1,HLT.out,by go_num,?_,HB3⟩;rw[HU.out,HZY.out.1,HZY.out.2];congr 1
     omega
    case measure=>have:=HLT.out;simp[intOf];omega
   ·obtain rfl:j=len:=by omega
    have HE:Hid (((kids.depU j:Nat):Int)+1=((1+kids.depth:Nat):Int)/\kids.depth<=1000000):=hid (by
     rw[HL.out,Tr.depU_all];have:=kids.depth_le;have:=HZ.out;exact⟨by omega,by omega⟩)
    obtain⟨y,hy⟩:∃ y:Int,y=((kids.depU j:Nat):Int):=⟨_,rfl⟩
    have hy0:0<=y/\y<=1000000:=by have:=HE.out;omega
    rw[<- hy]at HE ⊢;have hw:wrap64 (y+1)=y+1:=IntWalk.wrap64_in _ (by omega);clear hy;go_wp2_with fail
    go_ret
    exact⟨by rw[HE.out.1];rfl,HB1.out.on HB.out⟩
def Tr.wt:Tr->Nat
 | .nil=>0
 | .nod _ s _ _ k a r=>1+s.length / 64+k.wt+a.wt+r.wt
 | .arm _ s _ _ k e r=>1+s.length / 64+k.wt+e.wt+r.wt
def Tr.wtU:Tr->Nat->Nat
 | .nil,_=>0
 | .nod _ _ _ _ _ _ _,0=>0
 | .arm _ _ _ _ _ _ _,0=>0
 | .nod _ s _ _ k a r,j+1=>1+s.length / 64+k.wt+a.wt+r.wtU j
 | .arm _ s _ _ k e r,j+1=>1+s.length / 64+k.wt+e.wt+r.wtU j
theorem Tr.wtU_zero(f:Tr):f.wtU 0=0:=by cases f <;> rfl
theorem Tr.wtU_all:∀ f:Tr,f.wtU f.len=f.wt
 | .nil=>rfl
 | .nod _ _ _ _ k a r=>by simp only[Tr.len,Tr.wtU,Tr.wt,Tr.wtU_all r]
 | .arm _ _ _ _ k e r=>by simp only[Tr.len,Tr.wtU,Tr.wt,Tr.wtU_all r]
theorem Tr.wtU_succ:∀ (f:Tr) (j:Nat),j<f.len->f.wtU (j+1)=f.wtU j+(f.nth j).wt
 | .nil,j,h=>by simp[Tr.len]at h
 | .nod _ _ _ _ k a r,0,_=>by simp only[Tr.wtU,Tr.wtU_zero,Tr.nth,Tr.wt];omega
 | .arm _ _ _ _ k e r,0,_=>by simp only[Tr.wtU,Tr.wtU_zero,Tr.nth,Tr.wt];omega
 | .nod _ _ _ _ k a r,j+1,h=>by
  have:=Tr.wtU_succ r j (by simp only[Tr.len]at h;omega);simp only[Tr.wtU,Tr.nth]at this ⊢;rw[this];omega
 | .arm _ _ _ _ k e r,j+1,h=>by
  have:=Tr.wtU_succ r j (by simp only[Tr.len]at h;omega);simp only[Tr.wtU,Tr.nth]at this ⊢;rw[this];omega
def Tr.fit:Tr->Prop
 | .nil=>True
 | .nod _ s _ _ k a r=>s.length<=140737488355328/\k.len<=140737488355328/\a.len<=140737488355328/\k.fit/\a.fit/\r.fit
 | .arm _ s _ _ k e r=>s.length<=140737488355328/\k.len<=140737488355328/\k.fit/\e.fit/\r.fit
theorem Tr.nth_fit:∀ (f:Tr) (i:Nat),f.fit->(f.nth i).fit
 | .nil,_,_=>trivial
 | .nod _ _ _ _ _ _ _,0,h=>⟨h.1,h.2.1,h.2.2.1,h.2.2.2.1,h.2.2.2.2.1,trivial⟩
 | .arm _ _ _ _ _ _ _,0,h=>⟨h.1,h.2.1,h.2.2.1,h.2.2.2.1,trivial⟩
 | .nod _ _ _ _ _ _ r,i+1,h=>Tr.nth_fit r i h.2.2.2.2.2
 | .arm _ _ _ _ _ _ r,i+1,h=>Tr.nth_fit r i h.2.2.2.2
def jA(c:Int)(d:Nat)(f:Tr)(w:World):Ending->World->Prop:=fun e w'=>∃ z:Int,e=.returned (.int .i64 z)/\1<=z/\z<=c/\(z<=9000->z=(f.wt:Int)/\f.depth+d<=201)/\Bel w w'
def capP(d:Nat):Int:=4398046511104+9001*(202-(d:Int))
theorem JP(N:Nat):∀ (d:Nat) (k:Int) (s:List UInt8) (n:Int) (p:Pl) (A:Option Addr) (len cap:Nat) (kids:Tr) (w:World),kids.size=N->KidsTr w (OldT w) .pat A len cap kids->d<=201->s.length<=140737488355328->kids.len<=140737488355328->kids.fit →
  Calls Tryz.prog 43 #[.agg #[.int .u8 k,.string ⟨s.toArray⟩,n,p.a,p.l,p.c,.slice A len cap],(d:Int)] w (jA (capP d) d (.nod k s n p kids .nil .nil) w):=by
 induction N using Nat.strongRecOn with
 | _ N ih=>
  intro d k s n p A len cap kids w hN h hd hs hkl hft;have H:=hid h;have IH:=hid ih;have HL:Hid (len=kids.len):=hid h.1;have HN:=hid hN;have HF:=hid hft;have hlen:len<=140737488355328:=by have:=h.1;omega
  obtain⟨S,hS⟩:∃ S:ByteArray,S=⟨s.toArray⟩:=⟨_,rfl⟩
  have hsz:S.size=s.length:=by rw[hS];simp[ByteArray.size]
  rw[<- hS];clear h ih hN hft hS hkl;by_cases dd:200<d
  case pos=>
   have d1:(200:Int)<(d:Int):=by omega
   go_enter Tryz.func43,Tryz.ntmps43
   go_wp2_with fail
   go_ret
   refine⟨9001,rfl,by decide,?_,fun h=>absurd h (by decide),?_⟩
   ·unfold capP;omega
   ·repeat (first | exact Bel.refl _ | apply Bel.alloc | apply Bel.drew)
  have d1:¬ (200:Int)<(d:Int):=by omega
  have d2:(d:Int)<=200:=by omega
  obtain⟨t,ht⟩:∃ t:Nat,t=s.length / 64:=⟨_,rfl⟩
  have htl:t<=2199023255552:=by omega
  have hq:wrap64 (1+wrap64 ((s.length:Int) / 64))=((1+t:Nat):Int):=by
   have e1:(s.length:Int) / 64=(t:Int):=by omega
   rw[e1,IntWalk.wrap64_in (t:Int) (by omega),IntWalk.wrap64_in _ (by omega)];omega
  have HT:=hid ht;clear ht hs;go_enter Tryz.func43,Tryz.ntmps43
  go_wp2_with fail
  try rw[hq]
  clear hq;have q1:=blk1 w (.cells #[.int .u8 k,S,n,p.a,p.l,p.c,.slice A len cap] 78);have hb1:Bel w (w.alloc (.cells #[.int .u8 k,S,n,p.a,p.l,p.c,.slice A len cap] 78)):=(Bel.refl w).alloc _;have hs1:(w.alloc (.cells #[.int .u8 k,S,n,p.a,p.l,p.c,.slice A len cap] 78)).heap.size=w.heap.size+1:=by simp
  obtain⟨w1,hw1⟩:∃ w1,w1=w.alloc (.cells #[.int .u8 k,S,n,p.a,p.l,p.c,.slice A len cap] 78):=⟨_,rfl⟩
  rw[<- hw1]at q1 hb1 hs1 ⊢;have HQ:=hid q1;have HB1:=hid hb1;have HS1:=hid hs1;clear q1 hb1 hs1 hw1 hsz;go_loopw [5,6] (fun s i wr=>∃ (j:Nat) (z:Int),j<=len/\i=.int .i64 (j:Int)/\s=.int .i64 z/\Hid (1<=z/\z<=capP d/\(z<=9000->z=((1+t+kids.wtU j:Nat):Int)/\1+kids.depU j+d<=201))/\Hid (Bel w1 wr)) (fun _ i _=>len-(intOf i).toNat)
  case atStart=>exact⟨0,_,Nat.zero_le _,rfl,rfl,hid ⟨by omega,by unfold capP;omega,fun _=>by rw[Tr.wtU_zero,Tr.depU_zero];exact⟨rfl,by omega⟩⟩,hid (Bel.refl _)⟩
  case round=>
   obtain⟨j,z,hj,rfl,rfl,HI,HB⟩:=hrel;have hbx:=(HB.out.block w.heap.size (by have:=HS1.out;omega)).trans HQ.out;obtain⟨_,x1,_,x6⟩:=Qh hbx;clear hbx;by_cases hlt:j<len
   ·by_cases hz:z<=9000
    ·have hkr:KidsTr wr (OldT w) .pat A len cap kids:=H.out.keep fun i hi=>(HB.out.block i (Nat.lt_of_lt_of_le hi HB1.out.size)).trans (HB1.out.block i hi)
     obtain⟨ub,uo,eA,hob,hfo⟩:=hkr.2.2 (by omega);subst eA;obtain⟨k',s',n',p',kids',ar',en,hd',⟨A',cap',e5,hcp',hk'⟩,har',_⟩:=TrAt.nod_at (by intro e;cases e) kids j ub uo hfo (by rw[<- HL.out];exact hlt);obtain rfl:ar'=.nil:=by
      rcases har' with ⟨e,_⟩ | ⟨_,e⟩
      ·cases e
      ·exact Tr.len0 _ e
     obtain⟨e0,e1,e2,f1,f2,f3⟩:=hd';have hsn:=Tr.nth_size kids j;have hft':=Tr.nth_fit kids j HF.out;rw[en]at hsn hft';simp only[Tr.size]at hsn;obtain⟨hs',hkl',_,hfk',_,_⟩:=hft';have hOld:∀ i,OldT w i->OldT wr i:=fun i hi=>Nat.lt_of_lt_of_le hi (Nat.le_trans HB1.out.size HB.out.size);have hK':KidsTr wr (OldT w) .pat A' kids'.len cap' kids':=⟨rfl,hcp',hk'⟩
     obtain⟨g,hg⟩:∃ g,g=Tr.nod k' s' n' p' kids' .nil .nil:=⟨_,rfl⟩
     have HU:Hid (kids.wtU (j+1)=kids.wtU j+g.wt/\kids.depU (j+1)=max (kids.depU j) g.depth):=hid (by
      rw[Tr.wtU_succ kids j (by rw[<- HL.out];exact hlt),Tr.depU_succ kids j (by rw[<- HL.out];exact hlt),en,hg];exact⟨rfl,rfl⟩)
     have HC:Hid (Calls Tryz.prog 43 #[.agg #[.int .u8 k',.string ⟨s'.toArray⟩,n',p'.a,p'.l,p'.c,.slice A' kids'.len cap'],.int .i64 ((d:Int)+1)] wr (jA (capP (d+1)) (d+1) g wr)):=hid (by
      rw[hg];exact IH.out kids'.size (by have:=HN.out;omega) (d+1) k' s' n' p' A' kids'.len cap' kids' wr rfl (hK'.wide hOld) (by omega) hs' hkl' hfk')
     obtain⟨l1,hl1⟩:∃ l,l=kids'.len:=⟨_,rfl⟩
     rw[<- hl1]at e5 HC;have i1:(0:Int)<=(j:Int):=by omega
     have i2:(j:Int)<(len:Int):=by omega
     have HLT:=hid hlt;have hw:wrap64 ((d:Int)+1)=(d:Int)+1:=IntWalk.wrap64_in _ (by omega);simp only[Sh.sz,Sh.kd]at e0 e1 e2 e5 f1 f2 f3;clear hkr hfo en hk' hK' hsn hg hl1 har' hcp' hOld hob hs' hkl' hfk';go_wp2_with fail
     refine HC.out.mono ?_;rintro e w2 ⟨z',rfl,hz1,hz2,hz3,hb2⟩;have HB2:=hid (HB.out.on hb2);obtain⟨g1,g2,g3⟩:=HI.out;have hw2:wrap64 (z+z')=z+z':=IntWalk.wrap64_in _ (by unfold capP at *;omega);have HZ':Hid (1<=z+z'/\z+z'<=capP d/\(z+z'<=9000->z+z'=((1+t+kids.wtU (j+1):Nat):Int)/\1+kids.depU (j+1)+d<=201)):=hid (by
      refine⟨by omega,by unfold capP at *;omega,fun h9=>?_⟩;obtain⟨a1,a2⟩:=g3 (by omega);obtain⟨b1,b2⟩:=hz3 (by omega);rw[HU.out.1,HU.out.2];exact⟨by omega,by omega⟩)
     clear hb2 e0 e1 e2 e5 f1 f2 f3 x1 x6 hz1 hz2 hz3 g1 g2 g3;go_wp2_with fail
     go_roundw
     case rel=>exact⟨j+1,z+z',HLT.out,by go_num,by first | rfl | rw[hw2],HZ',HB2⟩
     case measure=>have:=HLT.out;simp[intOf];omega
    ·have hz':¬ z<=9000:=hz
     go_wp2_with fail
     go_ret
     obtain⟨g1,g2,g3⟩:=HI.out;exact⟨z,rfl,g1,g2,fun h=>absurd h (by omega),HB1.out.on HB.out⟩
   ·obtain rfl:j=len:=by omega
    go_wp2_with fail
    go_ret
    obtain⟨g1,g2,g3⟩:=HI.out;refine⟨z,rfl,g1,g2,fun h=>?_,HB1.out.on HB.out⟩;obtain⟨a1,a2⟩:=g3 h;rw[HL.out,Tr.wtU_all]at a1;rw[HL.out,Tr.depU_all]at a2;simp only[Tr.wt,Tr.depth];have:=HT.out;exact⟨by omega,by omega⟩
theorem qaD(N:Nat):∀ (d:Nat) (k:Int) (s:List UInt8) (n:Int) (p:Pl) (A:Option Addr) (len cap:Nat) (kids:Tr) (w:World),kids.size=N->KidsTr w (OldT w) .ty A len cap kids->d<=201->s.length<=140737488355328->kids.len<=140737488355328->kids.fit →
  Calls Tryz.prog 26 #[.agg #[.int .u8 k,.string ⟨s.toArray⟩,.int .u8 n,p.a,p.l,p.c,.slice A len cap],(d:Int)] w (jA (capP d) d (.nod k s n p kids .nil .nil) w):=by
 induction N using Nat.strongRecOn with
 | _ N ih=>
  intro d k s n p A len cap kids w hN h hd hs hkl hft;have H:=hid h;have IH:=hid ih;have HL:Hid (len=kids.len):=hid h.1;have HN:=hid hN;have HF:=hid hft;have hlen:len<=140737488355328:=by have:=h.1;omega
  obtain⟨S,hS⟩:∃ S:ByteArray,S=⟨s.toArray⟩:=⟨_,rfl⟩
  have hsz:S.size=s.length:=by rw[hS];simp[ByteArray.size]
  rw[<- hS];clear h ih hN hft hS hkl;by_cases dd:200<d
  case pos=>
   have d1:(200:Int)<(d:Int):=by omega
   go_enter Tryz.func26,Tryz.ntmps26
   go_wp2_with fail
   go_ret
   refine⟨9001,rfl,by decide,?_,fun h=>absurd h (by decide),?_⟩
   ·unfold capP;omega
   ·repeat (first | exact Bel.refl _ | apply Bel.alloc | apply Bel.drew)
  have d1:¬ (200:Int)<(d:Int):=by omega
  have d2:(d:Int)<=200:=by omega
  obtain⟨t,ht⟩:∃ t:Nat,t=s.length / 64:=⟨_,rfl⟩
  have htl:t<=2199023255552:=by omega
  have hq:wrap64 (1+wrap64 ((s.length:Int) / 64))=((1+t:Nat):Int):=by
   have e1:(s.length:Int) / 64=(t:Int):=by omega
   rw[e1,IntWalk.wrap64_in (t:Int) (by omega),IntWalk.wrap64_in _ (by omega)];omega
  have HT:=hid ht;clear ht hs;go_enter Tryz.func26,Tryz.ntmps26
  go_wp2_with fail
  try rw[hq]
  clear hq;have q1:=blk1 w (.cells #[.int .u8 k,S,.int .u8 n,p.a,p.l,p.c,.slice A len cap] 59);have hb1:Bel w (w.alloc (.cells #[.int .u8 k,S,.int .u8 n,p.a,p.l,p.c,.slice A len cap] 59)):=(Bel.refl w).alloc _;have hs1:(w.alloc (.cells #[.int .u8 k,S,.int .u8 n,p.a,p.l,p.c,.slice A len cap] 59)).heap.size=w.heap.size+1:=by simp
  obtain⟨w1,hw1⟩:∃ w1,w1=w.alloc (.cells #[.int .u8 k,S,.int .u8 n,p.a,p.l,p.c,.slice A len cap] 59):=⟨_,rfl⟩
  rw[<- hw1]at q1 hb1 hs1 ⊢;have HQ:=hid q1;have HB1:=hid hb1;have HS1:=hid hs1;clear q1 hb1 hs1 hw1 hsz;go_loopw [5,6] (fun s i wr=>∃ (j:Nat) (z:Int),j<=len/\i=.int .i64 (j:Int)/\s=.int .i64 z/\Hid (1<=z/\z<=capP d/\(z<=9000->z=((1+t+kids.wtU j:Nat):Int)/\1+kids.depU j+d<=201))/\Hid (Bel w1 wr)) (fun _ i _=>len-(intOf i).toNat)
  case atStart=>exact⟨0,_,Nat.zero_le _,rfl,rfl,hid ⟨by omega,by unfold capP;omega,fun _=>by rw[Tr.wtU_zero,Tr.depU_zero];exact⟨rfl,by omega⟩⟩,hid (Bel.refl _)⟩
  case round=>
   obtain⟨j,z,hj,rfl,rfl,HI,HB⟩:=hrel;have hbx:=(HB.out.block w.heap.size (by have:=HS1.out;omega)).trans HQ.out;obtain⟨_,x1,_,x6⟩:=Qh hbx;clear hbx;by_cases hlt:j<len
   ·by_cases hz:z<=9000
    ·have hkr:KidsTr wr (OldT w) .ty A len cap kids:=H.out.keep fun i hi=>(HB.out.block i (Nat.lt_of_lt_of_le hi HB1.out.size)).trans (HB1.out.block i hi)
     obtain⟨ub,uo,eA,hob,hfo⟩:=hkr.2.2 (by omega);subst eA;obtain⟨k',s',n',p',kids',ar',en,hd',⟨A',cap',e5,hcp',hk'⟩,har',_⟩:=TrAt.nod_at (by intro e;cases e) kids j ub uo hfo (by rw[<- HL.out];exact hlt);obtain rfl:ar'=.nil:=by
      rcases har' with ⟨e,_⟩ | ⟨_,e⟩
      ·cases e
      ·exact Tr.len0 _ e
     obtain⟨e0,e1,e2,f1,f2,f3⟩:=hd';have hsn:=Tr.nth_size kids j;have hft':=Tr.nth_fit kids j HF.out;rw[en]at hsn hft';simp only[Tr.size]at hsn;obtain⟨hs',hkl',_,hfk',_,_⟩:=hft';have hOld:∀ i,OldT w i->OldT wr i:=fun i hi=>Nat.lt_of_lt_of_le hi (Nat.le_trans HB1.out.size HB.out.size);have hK':KidsTr wr (OldT w) .ty A' kids'.len cap' kids':=⟨rfl,hcp',hk'⟩
     obtain⟨g,hg⟩:∃ g,g=Tr.nod k' s' n' p' kids' .nil .nil:=⟨_,rfl⟩
     have HU:Hid (kids.wtU (j+1)=kids.wtU j+g.wt/\kids.depU (j+1)=max (kids.depU j) g.depth):=hid (by
      rw[Tr.wtU_succ kids j (by rw[<- HL.out];exact hlt),Tr.depU_succ kids j (by rw[<- HL.out];exact hlt),en,hg];exact⟨rfl,rfl⟩)
     have HC:Hid (Calls Tryz.prog 26 #[.agg #[.int .u8 k',.string ⟨s'.toArray⟩,.int .u8 n',p'.a,p'.l,p'.c,.slice A' kids'.len cap'],.int .i64 ((d:Int)+1)] wr (jA (capP (d+1)) (d+1) g wr)):=hid (by
      rw[hg];exact IH.out kids'.size (by have:=HN.out;omega) (d+1) k' s' n' p' A' kids'.len cap' kids' wr rfl (hK'.wide hOld) (by omega) hs' hkl' hfk')
     obtain⟨l1,hl1⟩:∃ l,l=kids'.len:=⟨_,rfl⟩
     rw[<- hl1]at e5 HC;have i1:(0:Int)<=(j:Int):=by omega
     have i2:(j:Int)<(len:Int):=by omega
     have HLT:=hid hlt;have hw:wrap64 ((d:Int)+1)=(d:Int)+1:=IntWalk.wrap64_in _ (by omega);simp only[Sh.sz,Sh.kd]at e0 e1 e2 e5 f1 f2 f3;clear hkr hfo en hk' hK' hsn hg hl1 har' hcp' hOld hob hs' hkl' hfk';go_wp2_with fail
     refine HC.out.mono ?_;rintro e w2 ⟨z',rfl,hz1,hz2,hz3,hb2⟩;have HB2:=hid (HB.out.on hb2);obtain⟨g1,g2,g3⟩:=HI.out;have hw2:wrap64 (z+z')=z+z':=IntWalk.wrap64_in _ (by unfold capP at *;omega);have HZ':Hid (1<=z+z'/\z+z'<=capP d/\(z+z'<=9000->z+z'=((1+t+kids.wtU (j+1):Nat):Int)/\1+kids.depU (j+1)+d<=201)):=hid (by
      refine⟨by omega,by unfold capP at *;omega,fun h9=>?_⟩;obtain⟨a1,a2⟩:=g3 (by omega);obtain⟨b1,b2⟩:=hz3 (by omega);rw[HU.out.1,HU.out.2];exact⟨by omega,by omega⟩)
     clear hb2 e0 e1 e2 e5 f1 f2 f3 x1 x6 hz1 hz2 hz3 g1 g2 g3;go_wp2_with fail
     go_roundw
     case rel=>exact⟨j+1,z+z',HLT.out,by go_num,by first | rfl | rw[hw2],HZ',HB2⟩
     case measure=>have:=HLT.out;simp[intOf];omega
    ·have hz':¬ z<=9000:=hz
     go_wp2_with fail
     go_ret
     obtain⟨g1,g2,g3⟩:=HI.out;exact⟨z,rfl,g1,g2,fun h=>absurd h (by omega),HB1.out.on HB.out⟩
   ·obtain rfl:j=len:=by omega
    go_wp2_with fail
    go_ret
    obtain⟨g1,g2,g3⟩:=HI.out;refine⟨z,rfl,g1,g2,fun h=>?_,HB1.out.on HB.out⟩;obtain⟨a1,a2⟩:=g3 h;rw[HL.out,Tr.wtU_all]at a1;rw[HL.out,Tr.depU_all]at a2;simp only[Tr.wt,Tr.depth];have:=HT.out;exact⟨by omega,by omega⟩
end Go.Proofs.YtlmmaoobembadaaGreatDoor.Mu
