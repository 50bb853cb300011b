import Derived.Test.YtfpoelklhekfaaaGreatDoorProg
import Derived.Conc.RwLib
import Derived.Conc.MuData
import Derived.Conc.MuLone
import Derived.Defers
import Derived.Laws.LoneSync
import Derived.RegionCalls
import Derived.Laws.IdiomCopy
import Derived.Test.YtfpoelklhekfaaaGreatDoorQak
open Go.Lib (hid)
namespace Go.Proofs
abbrev Tryz.muLink:Go.Conc.Locks.MuLink:={ lock:=151,unlock:=152,ilock:=158,iunlock:=159,lockSlow:=168,unlockSlow:=171,disable:=164,enable:=166,acquire:=167,relMerge:=169,cas32:=165,add32:=170,tMutex:=188,tIMutex:=186,tPMutex:=260,tPIMutex:=276,tPI32:=278,tUP:=178,tNoCopy:=181,tU32:=125 }
theorem Tryz.muLib:Go.Conc.Locks.MuLib Tryz.prog Tryz.muLink:=
 ⟨Tryz.func151,Tryz.func152,Tryz.func158,Tryz.func159,Tryz.func164,Tryz.func166,Tryz.func167,Tryz.func169,Tryz.func165,Tryz.func170,
  Tryz.underlying186,Tryz.runUnderlying186,Tryz.sizeOf186,Tryz.isAgg186,Tryz.zeroValue186,Tryz.underlying188,Tryz.runUnderlying188,Tryz.sizeOf188,Tryz.isAgg188,Tryz.zeroValue188,Tryz.underlying260,Tryz.runUnderlying260,Tryz.sizeOf260,Tryz.isAgg260,Tryz.zeroValue260,Tryz.underlying276,Tryz.runUnderlying276,Tryz.sizeOf276,Tryz.isAgg276,Tryz.zeroValue276,Tryz.underlying278,Tryz.runUnderlying278,Tryz.sizeOf278,Tryz.isAgg278,Tryz.zeroValue278,Tryz.underlying178,Tryz.runUnderlying178,Tryz.sizeOf178,Tryz.isAgg178,Tryz.zeroValue178,Tryz.underlying181,Tryz.runUnderlying181,Tryz.sizeOf181,Tryz.isAgg181,Tryz.zeroValue181,Tryz.underlying21,Tryz.runUnderlying21,Tryz.sizeOf21,Tryz.isAgg21,Tryz.zeroValue21,(by kernel_rfl)⟩
end Go.Proofs
namespace Go.Proofs.YtfpoelklhekfaaaGreatDoor.Mu
set_option maxHeartbeats 4000000
open Go.RowKit Go.Shelf Go.MuLone
set_option maxRecDepth 100000
theorem qeh(a:Addr)(x:Value)(u:FrameMode)(w:World)(hc:w.cell? a=some x)(hz:w.frozen? a=false) :
  CallsD Tryz.prog 153 #[.pointer (some a),.bool true] u w fun e u' w'=>u'=u/\(e=.returned (.tuple #[])/\w'=w.drew.setCell a (.int .u32 1)):=by
 have hc':w.drew.cell? a=some x:=by go_simp
 have hz':w.drew.frozen? a=false:=by go_simp
 have hst:=run_call_store (P:=Tryz.prog) Tryz.func160 (by kernel_rfl) (by kernel_rfl) (by kernel_rfl) (by kernel_rfl) (k:= .u32) (y:=1) hc' hz';go_enter_d Tryz.func153,Tryz.ntmps153
 go_wp2
 go_region_calls
 all_goals (go_end0;exact⟨rfl,rfl⟩)
theorem Tab.keep{w w':World}{g:Nat}{S:Value}{j:Nat}{b:Nat}{cs:Array Value}{T:TypeId}{fr:Nat × Nat}(h:Tab w g S j)(hb:w.heap[b]?=some (.cells cs T fr))(hT:T≠257/\T≠5)(hk:∀ x,x≠b->w'.heap[x]?=w.heap[x]?):Tab w' g S j:=by
 obtain⟨C,h1,h2,h3,h4⟩:=h.ex;have hne:∀ (x:Nat) (Cb:Array Value) (t:TypeId) (f:Nat × Nat),w.heap[x]?=some (.cells Cb t f)->t≠T->x≠b:=fun x Cb t f hx ht e=>by
  rw[e,hb]at hx;simp only[Option.some.injEq,Obj.cells.injEq]at hx;exact ht hx.2.1.symm
 refine⟨C,by rw[hk _ (hne g C _ _ h1 hT.1.symm)];exact h1,h2,h3,fun u hu=>⟨(h4 u hu).1,fun bs hbs=>?_⟩⟩;obtain⟨bk,ck,Cb,f,a1,a2,a3⟩:=(h4 u hu).2 bs hbs;have hn:=hne bk Cb _ _ a2 hT.2.symm;exact⟨bk,ck,Cb,f,a1,by rw[hk _ hn];exact a2,fun q x hq=>(World.cell?_of_block (a:=⟨bk,q,none⟩) (hk _ hn)).trans (a3 q x hq)⟩
structure Built (w w':World) (b:Nat) (v0 v1:Int):Prop where
 ex:∃ (g:Nat) (A4:Option Addr) (c4:Nat),w'.heap[b]?=some (.cells #[.int .u32 v0,.int .i32 v1,.int .u32 0,.iface 258 (.pointer (some ⟨g,0,none⟩)),.slice none 0 0] 194 (0,0))/\w.heap.size<=g/\Tab w' g (.slice A4 4 c4) 0/\w'.ownsRow w.heap.size 9 1 (.slice A4 4 c4) 4 (strs (tr 0))/\Kr b w w'
theorem ZW{b:Nat}{A:Option Addr}{cp:Nat}(w:World)(hb:w.heap[b]?=some (.cells #[.int .u32 0,.int .i32 1,.int .u32 0,.nilIface,.slice A 8 cp] 194 (0,0)))(hr:RL w w.heap.size A 8 oldnew) :
  Calls Tryz.prog 110 #[.pointer (some ⟨b,0,none⟩)] w fun e w'=>e=.returned (.tuple #[])/\Built w w' b 0 1:=by
 have HC:=hid (qcD w hb hr);have H:=hid hb;have hblt:=(Array.getElem?_eq_some_iff.1 hb).1;clear hb hr;go_enter Tryz.func110,Tryz.ntmps110
 go_wp2_with fail
 refine HC.out.mono ?_;rintro e w1 ⟨g,A4,c4,rfl,hg,ht,ho,hb1⟩;have hbb:=hb1.blk H.out;obtain⟨⟨c0,c1,c2,c3,c4'⟩,f0,f1,f2,f3,f4⟩:=zN hbb;have HBB:=hid hbb;have HT:=hid ht;have HO:=hid ho;have HB1:=hid hb1;clear ht ho hb1 hbb;go_wp2
 go_end0
 have hbg:b<g:=by omega
 have e5:((w1.setCell ⟨b,3,none⟩ (.iface 258 (.pointer (some ⟨g,0,none⟩)))).setCell ⟨b,4,none⟩ (.slice none 0 0)).heap[b]?=some (.cells #[.int .u32 0,.int .i32 1,.int .u32 0,.iface 258 (.pointer (some ⟨g,0,none⟩)),.slice none 0 0] 194 (0,0)):=by
  simp[World.setCell,Array.getElem?_modify,HBB.out]
 have hk:Kr b w ((w1.setCell ⟨b,3,none⟩ (.iface 258 (.pointer (some ⟨g,0,none⟩)))).setCell ⟨b,4,none⟩ (.slice none 0 0)):=((Kr.of_bel HB1.out).set_ _ _).set_ _ _;have hoth:∀ x,x≠b->((w1.setCell ⟨b,3,none⟩ (.iface 258 (.pointer (some ⟨g,0,none⟩)))).setCell ⟨b,4,none⟩ (.slice none 0 0)).heap[x]?=w1.heap[x]?:=fun x hx=>by
  rw[Below.heap_setCell _ _ _ _ hx,Below.heap_setCell _ _ _ _ hx]
 exact⟨rfl,g,A4,c4,e5,hg,HT.out.keep HBB.out (by decide) hoth,jR HO.out fun x hx=>hoth x fun e=>Qb HO.out HBB.out (by decide) (by rw[hx,e]),hk⟩
theorem Js(b:Nat)(w:World)(h:w.cell? ⟨b,0,none⟩=some (.int .u32 0)):Calls Tryz.prog 137 #[.pointer (some ⟨b,0,none⟩)] w fun e w'=>e=.returned (.bool false)/\w=w':=by
 have hl:=run_call_load (P:=Tryz.prog) Tryz.func150 (by kernel_rfl) (by kernel_rfl) (by kernel_rfl) .u32 (by kernel_rfl) h;go_enter Tryz.func137,Tryz.ntmps137
 go_wp2
 go_ret
 exact⟨rfl,rfl⟩
theorem qfw{b:Nat}{A:Option Addr}{cp:Nat}(w:World)(hb:w.heap[b]?=some (.cells #[.int .u32 0,.int .i32 0,.int .u32 0,.nilIface,.slice A 8 cp] 194 (0,0)))(hr:RL w w.heap.size A 8 oldnew)(hab:∀ a,A=some a->a.block≠b) :
  Calls Tryz.prog 138 #[.pointer (some ⟨b,0,none⟩),.func (.func 110) #[.pointer (some ⟨b,0,none⟩)] #[]] w fun e w'=>e=.returned (.tuple #[])/\Built w w' b 1 0:=by
 have hb1:(w.setCell ⟨b,1,none⟩ (.int .i32 1)).heap[b]?=some (.cells #[.int .u32 0,.int .i32 1,.int .u32 0,.nilIface,.slice A 8 cp] 194 (0,0)):=by simp[World.setCell,Array.getElem?_modify,hb]
 have hr1:RL (w.setCell ⟨b,1,none⟩ (.int .i32 1)) (w.setCell ⟨b,1,none⟩ (.int .i32 1)).heap.size A 8 oldnew:=by
  refine⟨hr.1,fun hn=>?_⟩;obtain⟨ba,oa,e,hba,hc⟩:=hr.2 hn;refine⟨ba,oa,e,by simpa using hba,fun j s hs=>?_⟩;rw[<- hc j s hs];exact World.cell?_of_block (a:=⟨ba,oa+j,none⟩) (Below.heap_setCell _ _ _ _ (by have:=hab _ e;exact this))
 have HC:=hid (ZW _ hb1 hr1);obtain⟨⟨c0,c1,c2,c3,c4⟩,f0,f1,f2,f3,f4⟩:=zN hb;obtain⟨⟨k0,k1,k2,k3,k4⟩,l0,l1,l2,l3,l4⟩:=zN hb1;have hblt:=(Array.getElem?_eq_some_iff.1 hb).1;have HL:=hid (Js b _ k0);have hnot:∀ (x:Bool) (w:World),(Op.unary .not (.bool x)).run Tryz.prog w=.ok (.bool (!x)) w:=fun _ _=>rfl;clear hb hr hb1 hr1 k0 k1 k2 k3 k4 l0 l1 l2 l3 l4;go_enter_defers Tryz.func138,Tryz.ntmps138
 go_wp2_with (first | (go_at_call 151;refine (lock_free Tryz.muLib ⟨b,1,none⟩ _ (by go_simp) (by go_simp)).mono ?_;rintro e w' ⟨rfl,rfl⟩) | (go_at_call 137;refine HL.out.mono ?_;rintro e w' ⟨rfl,rfl⟩) | (go_at_call 110;refine HC.out.mono ?_;rintro e w2 ⟨rfl,hbu⟩;(have HBU:=hid hbu);clear hbu))
 obtain⟨g,A4,c4',e5,hg,ht,ho,hk⟩:=HBU.out.ex;obtain⟨⟨k0,k1,k2,k3,k4⟩,l0,l1,l2,l3,l4⟩:=zN e5;refine leaves_cons (f:=153) (args:=#[.pointer (some ⟨b,0,none⟩),.bool true]) (by simp) (by simp[go_sem]) ?_;refine (qeh ⟨b,0,none⟩ (.int .u32 0) .returning _ k0 l0).mono ?_;rintro e u' w'' ⟨rfl,rfl,rfl⟩;have e6:(w2.drew.setCell ⟨b,0,none⟩ (.int .u32 1)).heap[b]?=some (.cells #[.int .u32 1,.int .i32 1,.int .u32 0,.iface 258 (.pointer (some ⟨g,0,none⟩)),.slice none 0 0] 194 (0,0)):=by
  have e5':w2.drew.heap[b]?=_:=e5;simp only[World.setCell,Array.getElem?_modify,if_true,e5'];simp
 obtain⟨⟨p0',p1',-,-,-⟩,q0,q1,-,-,-⟩:=zN e6;refine leaves_cons (f:=152) (args:=#[.pointer (some ⟨b,1,none⟩)]) (by simp[settle]) (by simp[go_sem]) ?_;refine (unlock_deferred Tryz.muLib ⟨b,1,none⟩ _ _ p1' q1).mono ?_;rintro e u' w'' ⟨rfl,rfl,rfl⟩;have e7:((w2.drew.setCell ⟨b,0,none⟩ (.int .u32 1)).setCell ⟨b,1,none⟩ (.int .i32 0)).heap[b]?=some (.cells #[.int .u32 1,.int .i32 0,.int .u32 0,.iface 258 (.pointer (some ⟨g,0,none⟩)),.slice none 0 0] 194 (0,0)):=by
  simp only[World.setCell]at e6 ⊢;simp only[Array.getElem?_modify,if_true]at e6 ⊢;rw[e6];simp
 have hoth:∀ x,x≠b->((w2.drew.setCell ⟨b,0,none⟩ (.int .u32 1)).setCell ⟨b,1,none⟩ (.int .i32 0)).heap[x]?=w2.heap[x]?:=fun x hx=>by
  rw[Below.heap_setCell _ _ _ _ hx,Below.heap_setCell _ _ _ _ hx];rfl
 have hk0:Kr b w (w.setCell ⟨b,1,none⟩ (.int .i32 1)):=(Kr.refl b w).set_ _ _;have hfin:Built w ((w2.drew.setCell ⟨b,0,none⟩ (.int .u32 1)).setCell ⟨b,1,none⟩ (.int .i32 0)) b 1 0:=by
  have hz:(w.setCell ⟨b,1,none⟩ (.int .i32 1)).heap.size=w.heap.size:=by simp
  rw[hz]at hg ho;exact⟨g,A4,c4',e7,hg,ht.keep e5 (by decide) hoth,jR ho fun x hx=>hoth x fun e=>Qb ho e5 (by decide) (by rw[hx,e]),(((hk0.on hk).bel ((Bel.refl w2).drew)).set_ _ _).set_ _ _⟩
 have HF:=hid hfin;clear hfin e5 e6 e7 ht ho hk hoth;simp[Leaves,settle,results,Tryz.results138];exact HF.out
end Go.Proofs.YtfpoelklhekfaaaGreatDoor.Mu
namespace Go.Proofs.YtfpoelklhekfaaaGreatDoor.Mu
set_option maxHeartbeats 4000000
open Go.RowKit Go.Shelf
set_option maxRecDepth 100000
section
variable {P : Program} {w : World}
theorem jW{ops:Array Oper}{rest:List Oper}{o:Oper}{a:Act}{Q:Exit->Act->World->Prop}(hgd:o.guard=none)(s x:Operand)(t:TypeId)
  (ho:o.op=.call { callee:= .builtin .append,args:=#[s,x],argTypes:=#[t,t] })
  (base:Nat) (e:TypeId) (z:Value) (size bytes:Nat) (ht:P.underlying t=some (.slice e)) (hinfo:(P.info? e).map (fun i=>(i.zero,i.size,i.bytes))=some (some z,size,bytes))
  (hzs:z.cells.size=size) (hsz:0<size) (hby:bytes<=1000)
  (A:Option Addr) (n c:Nat) (xs:List Value) (hs:a.eval s=.slice A n c) (hown:w.ownsRow base e size (.slice A n c) n xs)
  (b off k d:Nat) (news:List Value) (hx:a.eval x=.slice (some ⟨b,off,none⟩) k d) (hl:news.length=k*size) (hnews:∀ j u,news[j]?=some u->w.cell? ⟨b,off+j,none⟩=some u) (h1:∀ u∈news,u.oneCell'=true)
  (hmax:n+k<=1000000000) (hbase:base<=w.heap.size)
  (h:∀ A' c' w',w'.ownsRow base e size (.slice A' (n+k) c') (n+k) (xs++news)->w.grownBy w' (Value.slice A n c).ownBlock->wpList P ops Q rest (a.put o.dst (.slice A' (n+k) c')) w'):wpList P ops Q (o::rest) a w:=by
 obtain⟨i,hi,hz0,hz1,hz2⟩:=info_parts hinfo;refine wpList_append_own w hgd s x t ho base e i z size bytes ht hi hz0 hz1 hz2 hzs hsz _ n _ hs hown ⟨b,off,none⟩ k d news hx (by omega) ?_ h1 (by unfold maxLen;omega) ?_ hbase ?_
 ·intro j u hu
  rw[Addr.add_lit];exact hnews j u hu
 ·calc (n+k)*bytes<=1000000000*1000:=Nat.mul_le_mul hmax hby
   _<=_:=by omega
 ·intro v' w' hown' hg _
  obtain⟨A',c',rfl⟩:=zf hown';exact h A' c' w' hown' hg
end
theorem qhQ{b:Nat}{A:Option Addr}{cp:Nat}(w:World)(hb:w.heap[b]?=some (.cells #[.int .u32 0,.int .i32 0,.int .u32 0,.nilIface,.slice A 8 cp] 194 (0,0)))(hr:RL w w.heap.size A 8 oldnew)(hab:∀ a,A=some a->a.block≠b) :
  Calls Tryz.prog 109 #[.pointer (some ⟨b,0,none⟩),.func (.func 110) #[.pointer (some ⟨b,0,none⟩)] #[]] w fun e w'=>e=.returned (.tuple #[])/\Built w w' b 1 0:=by
 have HS:=hid (qfw w hb hr hab);have HL:=hid (Js b w (zN hb).1.1);have hblt:=(Array.getElem?_eq_some_iff.1 hb).1;have hnot:∀ (x:Bool) (w:World),(Op.unary .not (.bool x)).run Tryz.prog w=.ok (.bool (!x)) w:=fun _ _=>rfl;clear hb hr hab;go_enter Tryz.func109,Tryz.ntmps109
 go_wp2_with (first | (go_at_call 137;refine HL.out.mono ?_;rintro e w' ⟨rfl,rfl⟩) | (go_at_call 138;refine HS.out.mono ?_;rintro e w2 ⟨rfl,hbu⟩;(have HBU:=hid hbu);clear hbu))
 go_end0
 exact⟨rfl,HBU.out⟩
theorem qb5{A:Option Addr}{cp:Nat}(w:World)(hr:RL w w.heap.size A 8 oldnew) :
  Calls Tryz.prog 63 #[.slice A 8 cp] w fun e w'=>∃ (b:Nat) (A2:Option Addr) (c2:Nat),e=.returned (.pointer (some ⟨b,0,none⟩))/\w'.heap[b]?=some (.cells #[.int .u32 0,.int .i32 0,.int .u32 0,.nilIface,.slice A2 8 c2] 194 (0,0))/\RL w' w'.heap.size A2 8 oldnew/\(∀ a,A2=some a->a.block≠b)/\w.heap.size<=b/\Bel w w':=by
 obtain⟨-,hr2⟩:=hr;obtain⟨ba,oa,rfl,hba,hcc⟩:=hr2 (by omega);have hn:∀ j u,(strs oldnew)[j]?=some u->w.cell? ⟨ba,oa+j,none⟩=some u:=fun j u hu=>by
  rw[strs,List.getElem?_map]at hu;obtain⟨s,hs,rfl⟩:=Option.map_eq_some_iff.1 hu;exact hcc j s hs
 have HN:=hid hn;clear hcc hr2 hn;go_enter Tryz.func63,Tryz.ntmps63
 go_wp2_with (at_builtin;refine jW rfl _ _ 51 rfl w.heap.size 9 _ 1 16 Tryz.underlying51 QP rfl (by decide) (by decide) none 0 0 [] rfl (World.ownsRow_nil _ _ _ _) ba oa 8 cp (strs oldnew) rfl (by decide) HN.out (by decide) (by decide) (Nat.le_refl _) ?_;intro A5 c5 w5 hown5 hg5;(have HO5:=hid hown5);(have HG5:=hid hg5);clear hown5 hg5)
 go_ret
 have hb5:Bel w w5:=Below.grown (Bel.refl w) HG5.out (Nat.le_refl _) (fun k hk=>by cases hk);have hq:=blk1 w5 (.cells #[.int .u32 0,.int .i32 0,.int .u32 0,.nilIface,.slice A5 8 c5] 194);have ho:w5.ownsRow w.heap.size 9 1 (.slice A5 8 c5) 8 (strs oldnew):=by simpa using HO5.out
 have hrl:∃ g,A5=some ⟨g,0,none⟩/\g<w5.heap.size/\∀ j s,oldnew[j]?=some s->w5.cell? ⟨g,0+j,none⟩=some (.string ⟨s.toArray⟩):=by
  obtain⟨g,e1,e2,-,-,e5⟩:=ZL ho (by decide);exact⟨g,e1,e2,fun j s hs=>e5 j ⟨s.toArray⟩ (by rw[List.getElem?_map,hs];rfl)⟩
 obtain⟨g,rfl,hgl,hgc⟩:=hrl;refine⟨w5.heap.size,_,c5,rfl,hq,⟨rfl,fun _=>⟨g,0,rfl,by simp;omega,fun j s hs=>?_⟩⟩,fun a ha=>?_,hb5.size,hb5.alloc _⟩
 ·rw[<- hgc j s hs]
  exact ((Bel.refl w5).alloc _).cell (p:=⟨g,0+j,none⟩) hgl
 ·injection ha with ha
  rw[<- ha];show g≠w5.heap.size
  omega
theorem QM(u:UInt8):(escT 0 u.toNat=none/\escB u=[u])∨(escT 0 u.toNat=some (escB u)/\(escB u).length=2):=by
 by_cases h1:u=10
 ·subst h1;right;decide
 by_cases h2:u=9
 ·subst h2;right;decide
 by_cases h3:u=34
 ·subst h3;right;decide
 by_cases h4:u=92
 ·subst h4;right;decide
 left
 have n1:¬ 10=u.toNat:=fun e=>h1 (UInt8.toNat_inj.1 e.symm);have n2:¬ 9=u.toNat:=fun e=>h2 (UInt8.toNat_inj.1 e.symm);have n3:¬ 34=u.toNat:=fun e=>h3 (UInt8.toNat_inj.1 e.symm);have n4:¬ 92=u.toNat:=fun e=>h4 (UInt8.toNat_inj.1 e.symm);refine⟨by simp[escT,prs,n1,n2,n3,n4],?_⟩;unfold escB;rw[if_neg h1,if_neg h2,if_neg (by rintro (h | h) <;> contradiction)]
theorem qcR(u:UInt8):1<=(escB u).length/\(escB u).length<=2:=by
 rcases QM u with ⟨_,h⟩ | ⟨_,h⟩
 ·rw[h];simp
 ·omega
theorem j6(s:List UInt8):s.length<=(s.flatMap escB).length/\(s.flatMap escB).length<=2*s.length:=by
 induction s with
 | nil=>simp
 | cons u s ih=>
  rw[List.flatMap_cons,List.length_append,List.length_cons];have:=qcR u;omega
theorem qeT{s:List UInt8}(h:(s.flatMap escB).length=s.length):s.flatMap escB=s:=by
 induction s with
 | nil=>rfl
 | cons u s ih=>
  rw[List.flatMap_cons,List.length_append,List.length_cons]at h;have h1:=qcR u;have h2:=(j6 s).1;rcases QM u with ⟨_,e⟩ | ⟨_,e⟩
  ·rw[List.flatMap_cons,e,ih (by rw[e,List.length_singleton]at h;omega)];rfl
  ·omega
def cnt(s:List UInt8)(c:UInt8):Nat:=Lib.countByte s c
theorem qgC(s:List UInt8):(s.flatMap escB).length=s.length+(cnt s 92+(cnt s 34+(cnt s 9+cnt s 10))):=by
 induction s with
 | nil=>rfl
 | cons u s ih=>
  rw[List.flatMap_cons,List.length_append,ih,List.length_cons];have hc:∀ c,cnt (u::s) c=cnt s c+(if u=c then 1 else 0):=fun c=>by
   unfold cnt Lib.countByte;by_cases h:u=c <;> simp[h]
  rw[hc,hc,hc,hc];unfold escB;by_cases h1:u=10
  ·subst h1;simp;omega
  by_cases h2:u=9
  ·subst h2;simp;omega
  by_cases h3:u=34
  ·subst h3;simp;omega
  by_cases h4:u=92
  ·subst h4;simp;omega
  simp[h1,h2,h3,h4];omega
set_option maxHeartbeats 8000000
theorem Tab.byte{w:World}{g:Nat}{S:Value}(h:Tab w g S 0)(u:UInt8):∃ (A:Option Addr) (n c:Nat),w.cell? ⟨g,u.toNat,none⟩=some (.slice A n c)/\((A=none/\escB u=[u])∨(n=2/\(escB u).length=2/\∃ bk,A=some ⟨bk,0,none⟩/\bk<w.heap.size/\∀ q x,(escB u)[q]?=some x->w.cell? ⟨bk,q,none⟩=some (.int .u8 x.toNat))):=by
 obtain⟨C,h1,h2,h3,h4⟩:=h.ex;have hc:∀ v,C[u.toNat]?=some v->w.cell? ⟨g,u.toNat,none⟩=some v:=fun v hv=>by simp[World.cell?,h1,hv]
 rcases QM u with ⟨e1,e2⟩ | ⟨e1,e2⟩
 ·exact⟨none,0,0,hc _ ((h4 _ u.toNat_lt).1 e1),.inl ⟨rfl,e2⟩⟩
 ·obtain⟨bk,ck,Cb,fr,a1,a2,a3⟩:=(h4 _ u.toNat_lt).2 _ e1
  exact⟨_,_,ck,hc _ a1,.inr ⟨e2,e2,bk,rfl,(Array.getElem?_eq_some_iff.1 a2).1,a3⟩⟩
theorem Tab.bel{w w':World}{g:Nat}{S:Value}{j:Nat}(h:Tab w g S j)(hb:Bel w w'):Tab w' g S j:=by
 obtain⟨C,h1,h2,h3,h4⟩:=h.ex;refine⟨C,hb.blk h1,h2,h3,fun u hu=>⟨(h4 u hu).1,fun bs hbs=>?_⟩⟩;obtain⟨bk,ck,Cb,f,a1,a2,a3⟩:=(h4 u hu).2 bs hbs;exact⟨bk,ck,Cb,f,a1,hb.blk a2,fun q x hq=>(hb.cell (p:=⟨bk,q,none⟩) (Array.getElem?_eq_some_iff.1 a2).1).trans (a3 q x hq)⟩
theorem Tab.rep{w:World}{g:Nat}{S:Value}{j:Nat}(h:Tab w g S j):w.cell? ⟨g,256,none⟩=some S/\g<w.heap.size:=by
 obtain⟨C,h1,h2,h3,h4⟩:=h.ex;exact⟨by simp[World.cell?,h1,h3],(Array.getElem?_eq_some_iff.1 h1).1⟩
def cnts(s:List UInt8):List Nat:=[cnt s 92,cnt s 34,cnt s 9,cnt s 10]
theorem qie(s:List UInt8):∀ k,k<4->∃ c:UInt8,(tr 0)[k]?=some [c]/\(cnts s)[k]?=some (cnt s c)/\(escB c).length=2
 | 0,_=>⟨92,rfl,rfl,by decide⟩
 | 1,_=>⟨34,rfl,rfl,by decide⟩
 | 2,_=>⟨9,rfl,rfl,by decide⟩
 | 3,_=>⟨10,rfl,rfl,by decide⟩
 | k+4,h=>by omega
theorem qfz{l:List Nat}{k x:Nat}(h:l[k]?=some x):(l.take (k+1)).sum=(l.take k).sum+x:=by
 obtain⟨hl,e⟩:=List.getElem?_eq_some_iff.1 h;rw[List.take_succ_eq_append_getElem hl,e];simp
theorem qbv{s:List UInt8}{k:Nat}{x:UInt8}(h:s[k]?=some x):(s.take (k+1)).flatMap escB=(s.take k).flatMap escB++escB x:=by
 obtain⟨hl,e⟩:=List.getElem?_eq_some_iff.1 h;rw[List.take_succ_eq_append_getElem hl,e];simp
theorem qfb(N:Nat):madeCells #[Value.int .u8 0] N=(List.replicate N (Value.int .u8 0)).toArray:=by
 unfold madeCells;apply Array.ext
 ·simp
 ·intro i h1 h2;simp[Nat.mod_one]
def BufAt(w:World)(b:Nat)(L:List UInt8)(N:Nat):Prop:=
 w.heap[b]?=some (.cells ((L.map fun x:UInt8=>Value.int .u8 x.toNat)++List.replicate (N-L.length) (Value.int .u8 0)).toArray 5 (0,0))
theorem BufAt.zero{w:World}{b N:Nat}{L:List UInt8}(h:BufAt w b L N){j:Nat}(hN:L.length+j<N):w.cell? ⟨b,L.length+j,none⟩=some (.int .u8 0)/\w.frozen? ⟨b,L.length+j,none⟩=false:=by
 unfold BufAt at h;refine⟨?_,by simp[World.frozen?,h]⟩;unfold World.cell?
 rw[h];show ((L.map fun x:UInt8=>Value.int .u8 x.toNat)++List.replicate (N-L.length) (Value.int .u8 0)).toArray[L.length+j]?=_
 rw[List.getElem?_toArray,List.getElem?_append_right (by rw[List.length_map];omega),List.length_map,List.getElem?_replicate,if_pos (by omega)]
theorem BufAt.put{w:World}{b N:Nat}{L:List UInt8}(h:BufAt w b L N)(hN:L.length<N)(x:UInt8):BufAt (w.setCell ⟨b,L.length,none⟩ (.int .u8 x.toNat)) b (L++[x]) N:=by
 unfold BufAt at h ⊢;obtain⟨q,hq⟩:∃ q,N-L.length=q+1:=⟨N-L.length-1,by omega⟩
 rw[hq,List.replicate_succ]at h;have hq2:N-(L++[x]).length=q:=by rw[List.length_append,List.length_singleton];omega
 rw[hq2];simp only[World.setCell,Array.getElem?_modify,if_true,h];simp[List.set_append_right]
theorem qhb{g gt c4:Nat}(s:List UInt8)(hs:s.length<=100000)(w:World)(ht:Tab w g (.slice (some ⟨gt,0,none⟩) 4 c4) 0)(hts:∀ j x,(tr 0)[j]?=some x->w.cell? ⟨gt,0+j,none⟩=some (.string ⟨x.toArray⟩))(hgt:gt<w.heap.size) :
  Calls Tryz.prog 208 #[.pointer (some ⟨g,0,none⟩),.string ⟨s.toArray⟩] w fun e w'=>e=.returned (.string ⟨(s.flatMap escB).toArray⟩)/\Bel w w':=by
 obtain⟨st,hst⟩:∃ st:ByteArray,st=⟨s.toArray⟩:=⟨_,rfl⟩
 have hz:st.size=s.length:=by rw[hst];simp[ByteArray.size]
 have hby:∀ i (h:i<st.size),s[i]?=some (st[i]'h):=fun i h=>by
  subst hst;rw[List.getElem?_eq_getElem (by rw[<- hz];exact h)];rfl
 obtain⟨ans,hans⟩:∃ ans,ans=s.flatMap escB:=⟨_,rfl⟩
 have hlen:=qgC s;rw[<- hans]at hlen ⊢;have HCNT:Hid (∀ (c:UInt8) (w:World),Calls Tryz.prog 210 #[.string st,.string ⟨#[c]⟩] w fun e w'=>e=.returned (.int .i64 (cnt s c))/\w=w'):=hid fun c w=>(Tryz.strings_Count_one st c w).mono fun e w' h=>⟨by rw[h.1,hst];rfl,h.2.symm⟩
 obtain⟨hr1,hgl⟩:=ht.rep;rw[<- hst];have HST:=hid hst;have HZ:=hid hz;have HBY:=hid hby;have HT:=hid ht;have HTS:=hid hts;have HANS:=hid hans;have HLEN:=hid hlen;obtain⟨N,hN⟩:∃ N,N=ans.length:=⟨_,rfl⟩
 have hge:=j6 s;rw[<- hans,<- hN]at hge;have HNL:=hid hN;clear hst hz hby ht hts hans hlen hN;have hsz:st.size<=100000:=by rw[HZ.out];exact hs
 go_enter Tryz.func208,Tryz.ntmps208
 go_upto_if 26 with fail
 obtain⟨b32,hb32⟩:∃ b32,b32=decide ((32:Int)<=(st.size:Int)):=⟨_,rfl⟩
 rw[<- hb32];clear hb32;go_cut [5,6] (fun v a wx=>v=.int .i64 N/\a=.bool (decide (N≠st.size))/\Hid (Bel w wx))
 case first=>
  cases b32
  rotate_left
  ·go_wp2_with fail
   go_loopg [5,6,8,9,32] 5 (fun gk v a z1 z2 i wr=>∃ k:Nat,(k<=4/\4-k<gk)/\v=.int .i64 (st.size+(((cnts s).take k).sum:Nat))/\a=.bool (decide (((cnts s).take k).sum≠0))/\i=.int .i64 k/\Hid (Bel w wr))
   case atStart=>exact⟨0,⟨by omega,by omega⟩,by simp,by simp,rfl,hid (Bel.refl w)⟩
   case round=>
    obtain⟨k,⟨hk,hkg⟩,rfl,rfl,rfl,HB⟩:=hrel;obtain⟨q,hq⟩:∃ q,q=((cnts s).take k).sum:=⟨_,rfl⟩
    rw[<- hq];have HQ:=hid hq;have hq4:q<=400000:=by
     have h1:((cnts s).take k).sum<=(cnts s).sum:=by
      have:=congrArg List.sum (List.take_append_drop k (cnts s));rw[List.sum_append]at this;omega
     have h2:(cnts s).sum<=400000:=by
      have h3:∀ c,cnt s c<=s.length:=fun c=>List.count_le_length;have:=h3 92;have:=h3 34;have:=h3 9;have:=h3 10;simp[cnts];omega
     omega
    clear hq;by_cases hk4:k<4
    ·obtain⟨c,hc1,hc2,hc3⟩:=qie s k hk4
     have hts1:=HTS.out k [c] hc1;have hts2:=(HB.out.cell (p:=⟨gt,0+k,none⟩) hgt).trans hts1;rw[Nat.zero_add]at hts2;have hr3:=(HB.out.cell (p:=⟨g,256,none⟩) hgl).trans hr1;obtain⟨A,n,cc,hcell,hor⟩:=(HT.out.bel HB.out).byte c;have hn2:n=2:=by
      rcases hor with ⟨_,e⟩ | ⟨e,_⟩
      ·rw[e]at hc3;simp at hc3
      ·exact e
     subst hn2;obtain⟨m,hm⟩:∃ m,m=cnt s c:=⟨_,rfl⟩
     have hm4:m<=100000:=by rw[hm];exact Nat.le_trans List.count_le_length hs
     have HCC:Hid (∀ (w:World),Calls Tryz.prog 210 #[.string st,.string ⟨#[c]⟩] w fun e w'=>e=.returned (.int .i64 m)/\w=w'):=hid fun w=>by rw[hm];exact HCNT.out c w
     have hsum:((cnts s).take (k+1)).sum=q+m:=by rw[qfz hc2,<- HQ.out,hm]
     have HSUM:=hid hsum;clear hc1 hc2 hc3 hts1 hor hm hsum;have hc8:(((⟨#[c]⟩:ByteArray)[0]'(by show 0<1;decide)).toNat:Int)<256:=by have:=c.toNat_lt;show (c.toNat:Int)<256;omega
     have hcell2:wr.cell? ⟨g,((⟨#[c]⟩:ByteArray)[0]'(by show 0<1;decide)).toNat,none⟩=some (.slice A 2 cc):=hcell;go_upto_region 7 with fail
     go_wp2_with fail
     refine (HCC.out _).mono ?_;rintro e w4 ⟨rfl,rfl⟩;by_cases hm0:m=0
     ·subst hm0
      go_wp2
      go_roundg (gk-1)
      case rel=>exact⟨k+1,⟨by omega,by omega⟩,by rw[HSUM.out];rfl,by rw[HSUM.out];simp,by go_num,HB⟩
      case measure=>omega
     ·have hm1:((m:Int) != 0)=true:=by simpa using hm0
      go_wp2_with fail
      go_cut [5] (fun v wx=>v=.int .i64 ((st.size:Int)+q+m)/\Hid (Bel w wx))
      case first=>
       go_region
       all_goals (go_wp2_with fail;go_meet)
       all_goals exact⟨by first | rfl | (congr 1;done) | (congr 1;omega),hid HB.out.drew⟩
      case rest=>
       obtain⟨rfl,HB2⟩:=hcut;go_wp2
       go_roundg (gk-1)
       case rel=>exact⟨k+1,⟨by omega,by omega⟩,by rw[HSUM.out];congr 1;omega,by rw[HSUM.out,decide_eq_true (by omega)],by go_num,HB2⟩
       case measure=>omega
    ·obtain rfl:k=4:=by omega
     have hq5:N=st.size+q:=by
      rw[HNL.out,HLEN.out,HZ.out,HQ.out];simp[cnts]
     go_wp2_with fail
     go_meet
     exact⟨by rw[hq5];first | rfl | (congr 1;done) | (congr 1;omega),by rw[hq5];first | exact congrArg Value.bool (decide_eq_decide.2 (by omega)) | (congr 1;simp) | simp,HB⟩
  ·go_wp2_with fail
   go_loopg [5,6,10,11] (st.size+1) (fun gk v a i z1 wr=>∃ k:Nat,(k<=st.size/\st.size-k<gk)/\v=.int .i64 ((st.size-k+((s.take k).flatMap escB).length:Nat))/\a=.bool (decide (((s.take k).flatMap escB).length≠k))/\i=.int .i64 k/\Hid (Bel w wr))
   case atStart=>exact⟨0,⟨by omega,by omega⟩,by simp,by simp,rfl,hid (Bel.refl w)⟩
   case round=>
    obtain⟨k,⟨hk,hkg⟩,rfl,rfl,rfl,HB⟩:=hrel;obtain⟨q,hq⟩:∃ q,q=((s.take k).flatMap escB).length:=⟨_,rfl⟩
    rw[<- hq];have HQ:=hid hq;have hq4:q<=2*k/\k<=q:=by
     have:=j6 (s.take k);rw[<- hq,List.length_take,Nat.min_eq_left (by rw[<- HZ.out];exact hk)]at this;omega
    clear hq;by_cases hks:k<st.size
    ·have hx:=HBY.out k hks
     obtain⟨A,n,cc,hcell,hor⟩:=(HT.out.bel HB.out).byte (st[k]'hks);have hnx:((s.take (k+1)).flatMap escB).length=q+(escB (st[k]'hks)).length:=by rw[qbv hx,List.length_append,<- HQ.out]
     have HNX:=hid hnx;have hc8:=(st[k]'hks).toNat_lt;clear hx hnx;rcases hor with ⟨rfl,e⟩ | ⟨rfl,e,bk,rfl,_,_⟩
     ·have hl1:(escB (st[k]'hks)).length=1:=by rw[e];rfl
      clear e;rw[hl1]at HNX;clear hl1;go_wp2
      go_roundg (gk-1)
      case rel=>exact⟨k+1,⟨by omega,by omega⟩,by rw[HNX.out];congr 1;omega,by rw[HNX.out];congr 1;simp,by go_num,HB⟩
      case measure=>omega
     ·rw[e]at HNX
      clear e;go_wp2
      go_roundg (gk-1)
      case rel=>exact⟨k+1,⟨by omega,by omega⟩,by rw[HNX.out];congr 1;omega,by rw[HNX.out,decide_eq_true (by omega)],by go_num,HB⟩
      case measure=>omega
    ·have hk2:k=st.size:=by omega
     have hq5:N=q:=by
      rw[HNL.out,HANS.out,HQ.out,hk2,HZ.out,List.take_length]
     go_wp2_with fail
     go_meet
     exact⟨by rw[hq5,hk2];congr 1;omega,by rw[hq5,hk2],HB⟩
 case rest=>
  obtain⟨rfl,rfl,HB⟩:=hcut;by_cases hNe:N=st.size
  ·have hd:decide (N≠st.size)=false:=by simp[hNe]
   rw[hd];have ha:ans=s:=by
    rw[HANS.out];exact qeT (by rw[<- HANS.out,<- HNL.out,hNe,HZ.out])
   clear hd;go_wp2
   go_ret
   exact⟨by rw[ha,HST.out];rfl,HB.out⟩
  ·have hd:decide (N≠st.size)=true:=by simp[hNe]
   rw[hd];have hmk:=run_make_row' (P:=Tryz.prog) 83 5 (.int .u8 0) 1 Tryz.underlying83 qgM rfl .i64 .i64 N (by omega) (by omega) wc;obtain⟨bb,hbb⟩:∃ bb,bb=wc.heap.size:=⟨_,rfl⟩
   rw[qfb]at hmk;have HB0:Hid (BufAt (wc.alloc (.cells (List.replicate N (Value.int .u8 0)).toArray 5)) bb [] N):=hid (by rw[hbb];exact blk1 wc _);rw[<- hbb]at hmk;have HBB:=hid hbb;clear hbb hd;go_wp2_with fail
   go_loopg [13,14,15] (st.size+1) (fun gk v i z1 wr=>∃ k:Nat,(k<=st.size/\st.size-k<gk)/\i=.int .i64 k/\v=.int .i64 (((s.take k).flatMap escB).length:Nat)/\Hid (BufAt wr bb ((s.take k).flatMap escB) N)/\Hid (Bel wc wr))
   case atStart=>exact⟨0,⟨by omega,by omega⟩,rfl,by simp,HB0,hid ((Bel.refl wc).alloc _)⟩
   case round=>
    obtain⟨k,⟨hk,hkg⟩,rfl,rfl,HU,HW⟩:=hrel;obtain⟨L,hL⟩:∃ L,L=(s.take k).flatMap escB:=⟨_,rfl⟩
    rw[<- hL]at HU ⊢;by_cases hks:k<st.size
    ·have hx:=HBY.out k hks
     obtain⟨u,hu⟩:∃ u,u=st[k]'hks:=⟨_,rfl⟩
     have hnx:(s.take (k+1)).flatMap escB=L++escB u:=by rw[qbv hx,<- hL,hu]
     have hNle:((s.take (k+1)).flatMap escB).length<=N:=by
      have e:ans=(s.take (k+1)).flatMap escB++(s.drop (k+1)).flatMap escB:=by rw[HANS.out,<- List.flatMap_append,List.take_append_drop]
      rw[HNL.out,e,List.length_append];omega
     rw[hnx,List.length_append]at hNle;obtain⟨A,n,cc,hcell,hor⟩:=(HT.out.bel (HB.out.on HW.out)).byte u;have HNX:=hid hnx;have HLL:=hid hL;have hc8:=u.toNat_lt;have hbs:bb<wr.heap.size:=(Array.getElem?_eq_some_iff.1 HU.out).1;obtain⟨l,hl⟩:∃ l,l=L.length:=⟨_,rfl⟩
     rw[<- hl]at hNle ⊢;have HL2:=hid hl;clear hx hnx hL hl;rcases hor with ⟨rfl,e⟩ | ⟨rfl,e,bk,rfl,hbk,hbc⟩
     ·rw[e]at hNle HNX
      simp at hNle;have hput:=HU.out.put (by rw[<- HL2.out];omega) u;rw[<- HL2.out]at hput;have HPUT:=hid hput;obtain⟨hcb,hfb⟩:=HU.out.zero (j:=0) (by rw[<- HL2.out];omega);rw[<- HL2.out,Nat.add_zero]at hcb hfb;rw[hu]at hcell hc8;clear e hput;go_wp2
      go_roundg (gk-1)
      case rel=>exact⟨k+1,⟨by omega,by omega⟩,by go_num,by rw[HNX.out,List.length_append,<- HL2.out];congr 1,by rw[HNX.out,<- hu];exact HPUT,hid (HW.out.set_ (p:=⟨bb,l,none⟩) (by have:=HBB.out;show wc.heap.size<=bb;omega) _)⟩
      case measure=>omega
     ·obtain⟨a1,a2,ea⟩:∃ a1 a2,escB u=[a1,a2]:=by
       match escB u,e with
       | [a1,a2],_=>exact⟨a1,a2,rfl⟩
      rw[ea]at hbc HNX;rw[e]at hNle;have hb1:=hbc 0 a1 rfl;have hb2:=hbc 1 a2 rfl;rw[hu]at hcell hc8;clear e ea hbc;obtain⟨hc0,hf0⟩:=HU.out.zero (j:=0) (by rw[<- HL2.out];omega);obtain⟨hc1,hf1⟩:=HU.out.zero (j:=1) (by rw[<- HL2.out];omega);rw[<- HL2.out]at hc0 hf0 hc1 hf1;have hp1:=HU.out.put (by rw[<- HL2.out];omega) a1;have hp2:=hp1.put (by rw[List.length_append,List.length_singleton,<- HL2.out];omega) a2;rw[List.length_append,List.length_singleton,<- HL2.out,List.append_assoc]at hp2;have HPUT:=hid hp2;have hcpy:=run_copy_cells (P:=Tryz.prog) wr.drew 83 83 3 5 bb l (N-l) (N-l) ⟨bk,0,none⟩ 2 cc [.int .u8 a1.toNat,.int .u8 a2.toNat] Tryz.underlying83 (by kernel_rfl) (by show 2=min 2 (N-l);omega) (by
       intro j v hv;rw[Addr.add_lit,Nat.zero_add];match j,hv with
       | 0,hv=>injection hv with hv;rw[<- hv];exact hb1
       | 1,hv=>injection hv with hv;rw[<- hv];exact hb2) (by
       intro j hj;match j,hj with
       | 0,_=>have:=hc0;rw[World.cell?_drew];rw[this];rfl
       | 1,_=>have:=hc1;rw[World.cell?_drew];rw[this];rfl) (by
       intro j hj;match j,hj with
       | 0,_=>exact hf0
       | 1,_=>exact hf1) (by simp[Value.oneCell'])
      have hNl:¬ N=l:=by omega
      clear hp1 hp2 hc0 hf0 hc1 hf1;have HKK:=hid (⟨hk,hkg,hks⟩:k<=st.size/\st.size-k<gk/\k<st.size);go_upto_region 28 with fail
      have HPW:=hid ((((HW.out.drew).set_ (p:=⟨bb,l,none⟩) (by have:=HBB.out;show wc.heap.size<=bb;omega) (.int .u8 a1.toNat)).set_ (p:=⟨bb,l+1,none⟩) (by have:=HBB.out;show wc.heap.size<=bb;omega) (.int .u8 a2.toNat)));go_region
      all_goals
       go_wp2
       have hkk:=HKK.out;go_roundg (gk-1)
       case rel=>exact⟨k+1,⟨by omega,by omega⟩,by go_num,by rw[HNX.out,List.length_append,<- HL2.out];first | rfl | (congr 1;done) | (congr 1;simp;omega),by rw[HNX.out];exact HPUT,HPW⟩
       case measure=>omega
    ·have hk2:k=st.size:=by omega
     have hLa:L=ans:=by rw[hL,hk2,HZ.out,List.take_length,HANS.out]
     have hcl:wr.heap[bb]?=some (.cells ((ans.map fun x:UInt8=>(x.toNat:Int)).map (Value.int .u8)).toArray 5 (0,0)):=by
      have h:=HU.out;unfold BufAt at h;rw[hLa,<- HNL.out,Nat.sub_self]at h;rw[h,List.map_map];simp[Function.comp_def]
     have hcv:=Jw (w:=wr) (g:=bb) (t:=5) (ans.map fun x:UInt8=>(x.toNat:Int)) hcl N (by rw[List.length_map];exact HNL.out) N;have hmm:((ans.map fun x:UInt8=>(x.toNat:Int)).map fun x=>UInt8.ofNat x.toNat)=ans:=by
      rw[List.map_map];conv=>rhs;rw[<- List.map_id ans]
      refine List.map_congr_left fun x _=>?_;simp
     rw[hmm]at hcv;clear hcl hmm hLa hL;go_wp2
     go_ret
     exact⟨rfl,HB.out.on HW.out⟩
end Go.Proofs.YtfpoelklhekfaaaGreatDoor.Mu
