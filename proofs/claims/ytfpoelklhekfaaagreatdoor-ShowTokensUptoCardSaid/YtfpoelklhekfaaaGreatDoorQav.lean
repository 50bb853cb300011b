import Derived.OrdersIn
import Derived.RegionTactic
import Derived.Test.YtfpoelklhekfaaaGreatDoorQae
import Derived.Test.YtfpoelklhekfaaaGreatDoorQaf
namespace Go.Proofs.YtfpoelklhekfaaaGreatDoor.Mu
open Go
section
variable {P : Program} {ops : Array Oper} {Q : Exit -> Act -> World -> Prop}
theorem qdX{l n:Nat}{row:String}{args:Array Value}{w:World}{R:Value->World->Prop}(h:Rows P row args w R):RowsIn (Fence.wide.inRound l) n P row args w R:=
 fun c cs _=>let ⟨v,w',r,s⟩:=h c cs;⟨v,w',r,stepsIn_wide.2 s⟩
theorem qcb{l n:Nat}{o:Oper}{a:Act}{w:World}{K:Act->World->Prop}(hnd:∀ c,o.op ≠ .defer c)(_hQ:¬ LetsOut Q)(h:o.wp P a w K Q):o.wpIn (Fence.wide.inRound l) n P a w K Q:=by
 refine⟨fun _ _=>trivial,?_⟩;rw[Oper.semAt_eq _ _ _ hnd];unfold Oper.wp at h;generalize (execOp a.eval o).run P w=r at *;cases r with
 | ok n w'=>
  cases n <;> simp only[Oper.upon,Oper.uponIn]at h ⊢
  case value v=>exact h
  case skip=>exact h
  case defer d=>exact h
  case enter f args=>
   refine⟨(fun hd=>by cases hd),CallsIn.inRound l (callsIn_wide.2 (h.mono ?_))⟩;intro e w'' he;cases e <;> exact he
  case row row args=>exact⟨(fun hd=>by cases hd),qdX h⟩
 | halt x w'=>cases x <;> simp only[Oper.upon,Oper.uponIn]at h ⊢ <;> exact h
def Jg(ops:Array Oper):Bool:=ops.all fun o=>match o.op with
 | .defer _=>false
 | _=>true
theorem JO(h:Jg ops=true){i:Nat}{o:Oper}(ho:ops[i]?=some o):∀ c,o.op ≠ .defer c:=fun c e=>by
 have:=Array.all_eq_true'.1 h o (Array.mem_of_getElem? ho);rw[e]at this;cases this
theorem zI{l n:Nat}(hnd:Jg ops=true)(hQ:¬ LetsOut Q):∀ (is:List Nat) (a:Act) (w:World),wpOps P ops Q is a w->wpOpsIn (Fence.wide.inRound l) n P ops Q is a w
 | [],_,_,h=>h
 | i::is,a,w,h=>by
  simp only[wpOps,wpOpsIn]at h ⊢;cases ho:ops[i]? with
  | none=>rw[ho]at h;exact zI hnd hQ is a w h
  | some o=>
   rw[ho]at h;simp only at h ⊢;split at h
   ·rename_i hw
    rw[if_pos hw];rcases h with h | h
    ·exact qcb (JO hnd ho) hQ (Oper.wp_mono (fun a' w' h'=>zI hnd hQ is a' w' h') h)
    ·exact absurd h.2 hQ
   ·rename_i hw
    rw[if_neg hw];exact⟨fun _ _=>trivial,zI hnd hQ is _ w h⟩
theorem JS{id l n:Nat}{a:Act}{w:World}(hm:P.follows .mixedOrders=true)(hnd:Jg ops=true)(hQ:¬ LetsOut Q)
  (h:wpAny P .any ops Q ops.size (Array.replicate ops.size false) a w.drew):(Code.region id ops true).wpIn (Fence.wide.inRound l) n P Q a w:=
 wpIn_region_draw fun t=>by
  simp only[Region.schedule,hm,Bool.true_or,if_true];exact zI hnd hQ _ _ _ (wpAny_sound ops.size t _ a _ h)
end
section
variable {P : Program}
theorem Zp{C:World->Prop}{Q:Exit->Act->World->Prop}{a:Act}{w:World}{l:List Oper}(n:Nat)(hB:Region.lexTailB .any l.toArray n=true)(hC:C w.drew)
  (h:wpQuiet P l.toArray C (fun a'=>∀ w',C w'->wpList P l.toArray Q (l.drop n) a' w') (l.take n) a):wpAny P .any l.toArray Q l.toArray.size (Array.replicate l.toArray.size false) a w.drew:=by
 simp only[Region.lexTailB,Bool.and_eq_true,decide_eq_true_eq]at hB;obtain⟨⟨⟨⟨hsel,hn⟩,hs⟩,hc⟩,hlex⟩:=hB;have hn':n<l.length:=by simpa using hn
 have htl:(l.take n).length=n:=by simp;omega
 have hdl:(l.drop n).length=l.toArray.size-n:=by simp
 have inv0:HeadInv .any l.toArray n (Array.replicate l.toArray.size false):=
  ⟨by simp,fun j oj _ hl=>(by rw[getD_replicate_false]at hl;cases hl),fun t _ ht=>getD_in (by simpa using ht) (getD_replicate_false _ _)⟩
 have H:=Qd (md:= .any) (g:=l.toArray.size-n) hsel hs hc hn (l.take n) 0 _ a (fun j hj=>by
  have hj':j<n:=by rw[htl]at hj;exact hj
  simp[hj']) (by simpa using htl) inv0 (by rw[htl];exact hlex) h
 have:=Qf (Q':=Q) (g:=l.toArray.size-n) (fun listed a' w' hw' hL=>by
  have:=wpAny_of_seq (md:= .any) (Q':=Q) (l.drop n) n listed a' w' (fun j=>by simp[List.getElem?_drop]) (by rw[hdl];exact hL.1) (hL.2 w' hw');rwa [hdl]at this) _ _ _ w.drew hC H
 rw[htl,show n+(l.toArray.size-n)=l.toArray.size by omega]at this;exact this
theorem q9{id L m:Nat}{Q:Exit->Act->World->Prop}{a:Act}{w:World}{l:List Oper}(n:Nat)(hm:P.follows .mixedOrders=true)(hnd:Jg l.toArray=true)(hQ:¬ LetsOut Q)(hB:Region.lexTailB .any l.toArray n=true)
  (h:wpQuiet P l.toArray (fun w'=>∃ n:Abw w,w'=n.wd) (fun a'=>∀ w',(∃ n:Abw w,w'=n.wd)->wpList P l.toArray Q (l.drop n) a' w') (l.take n) a):(Code.region id l.toArray true).wpIn (Fence.wide.inRound L) m P Q a w:=
 JS hm hnd hQ (Zp n hB ⟨⟨_,(Bel.refl w).drew⟩,rfl⟩ h)
end
end Go.Proofs.YtfpoelklhekfaaaGreatDoor.Mu
