import Derived.Deep.WholeRow
import Derived.Test.YtlmmaoobembadaaGreatDoorQar
import Derived.Test.YtlmmaoobembadaaGreatDoorQas
import Derived.Test.YtlmmaoobembadaaGreatDoorQau
import Derived.Test.YtlmmaoobembadaaGreatDoorQax
open Go.Lib (hid)
namespace Go.Proofs.YtlmmaoobembadaaGreatDoor.Mu
set_option maxHeartbeats 1000000
open Go Go.RowKit Go.Shelf
attribute [local go_sem] Oper.semAt_some
set_option linter.unusedVariables false
set_option maxRecDepth 100000
theorem zS{w W:World}{sh:Sh}(hs:sh ≠ .arms){k:Int}{s:List UInt8}{n:Int}{p:Pl}{A:Option Addr}{c:Nat}{B:Option Addr}{bc:Nat}{kids arms:Tr}
  (hk:KidsTr w (OldT w) sh A kids.len c kids) (ha:(sh=.ex/\KidsTr w (OldT w) .arms B arms.len bc arms)∨((sh=.pat∨sh=.ty)/\arms.len=0)) {t:TypeId} {g:Nat} (hb:Bel w W) (hg:W.heap[g]?=some (.cells (nodV sh k s n p A kids.len c B arms.len bc).toArray t (0,0))) :
  KidsTr W (OldT W) sh (some ⟨g,0,none⟩) 1 1 (.nod k s n p kids arms .nil):=by
 refine⟨rfl,Nat.le_refl _,fun _=>⟨g,0,rfl,(Array.getElem?_eq_some_iff.1 hg).1,?_⟩⟩;refine ((Tells.one hs hk ha (k:=k) (s:=s) (n:=n) (p:=p)).2.2 W g 0 (fun j u hu=>?_) (fun j hj=>hb.block j hj)).wide (fun j hj=>Nat.lt_of_lt_of_le hj hb.size) _ _ _ _;unfold World.cell?
 simp only[hg];simpa using hu
theorem zC(k:Int)(s:List UInt8)(n:Int)(p:Pl)(A:Option Addr)(c:Nat)(B:Option Addr)(bc:Nat)(kids arms:Tr)(k2:Int)(s2:List UInt8)(n2:Int)(p2:Pl)(A2:Option Addr)(c2:Nat)(B2:Option Addr)(bc2:Nat)(kids2 arms2:Tr)(w:World)
  (hk:KidsTr w (OldT w) .ex A kids.len c kids) (ha:KidsTr w (OldT w) .arms B arms.len bc arms) (hk2:KidsTr w (OldT w) .ex A2 kids2.len c2 kids2) (ha2:KidsTr w (OldT w) .arms B2 arms2.len bc2 arms2) (hsz:kids.size+arms.size<=900000) (hsz2:kids2.size+arms2.size<=900000) :
  Calls Tryz.prog 11 #[.agg #[.int .u8 k,.string ⟨s.toArray⟩,n,p.a,p.l,p.c,.slice A kids.len c,.slice B arms.len bc],.agg #[.int .u8 k2,.string ⟨s2.toArray⟩,n2,p2.a,p2.l,p2.c,.slice A2 kids2.len c2,.slice B2 arms2.len bc2]] w (qj (Tr.same (.nod k s n p kids arms .nil) (.nod k2 s2 n2 p2 kids2 arms2 .nil)) w):=by
 have HS:Hid (∀ (g g2:Nat) (t t2:TypeId) (W:World),Bel w W->W.heap[g]?=some (.cells #[.int .u8 k,.string ⟨s.toArray⟩,n,p.a,p.l,p.c,.slice A kids.len c,.slice B arms.len bc] t (0,0))->W.heap[g2]?=some (.cells #[.int .u8 k2,.string ⟨s2.toArray⟩,n2,p2.a,p2.l,p2.c,.slice A2 kids2.len c2,.slice B2 arms2.len bc2] t2 (0,0)) →
   Calls Tryz.prog 37 #[.slice (some ⟨g,0,none⟩) 1 1,.slice (some ⟨g2,0,none⟩) 1 1,.func (.func 28) #[] #[],.func (.func 38) #[] #[]] W (qj (Tr.same (.nod k s n p kids arms .nil) (.nod k2 s2 n2 p2 kids2 arms2 .nil)) W)):=hid fun g g2 t t2 W hW h1 h2=>by
  have e1:=zS (sh:= .ex) (by intro e;cases e) hk (.inl ⟨rfl,ha⟩) hW h1;have e2:=zS (sh:= .ex) (by intro e;cases e) hk2 (.inl ⟨rfl,ha2⟩) hW h2;exact qev _ 1 1 _ 1 1 _ _ W e1 e2 (by simp only[Tr.size];omega) (by simp only[Tr.size];omega)
 obtain⟨r,hr⟩:∃ r,r=Tr.same (.nod k s n p kids arms .nil) (.nod k2 s2 n2 p2 kids2 arms2 .nil):=⟨_,rfl⟩
 rw[<- hr]at HS ⊢;obtain⟨l1,hl1⟩:∃ l,l=kids.len:=⟨_,rfl⟩
 obtain⟨l2,hl2⟩:∃ l,l=kids2.len:=⟨_,rfl⟩
 obtain⟨l3,hl3⟩:∃ l,l=arms.len:=⟨_,rfl⟩
 obtain⟨l4,hl4⟩:∃ l,l=arms2.len:=⟨_,rfl⟩
 obtain⟨S,hS⟩:∃ S:ByteArray,S=⟨s.toArray⟩:=⟨_,rfl⟩
 obtain⟨S2,hS2⟩:∃ S:ByteArray,S=⟨s2.toArray⟩:=⟨_,rfl⟩
 rw[<- hl1,<- hl2,<- hl3,<- hl4,<- hS,<- hS2]at HS;rw[<- hl1,<- hl2,<- hl3,<- hl4,<- hS,<- hS2];clear hk ha hk2 ha2 hsz hsz2 hr hl1 hl2 hl3 hl4 hS hS2;have q4:=blk4 w (.cells #[.int .u8 k,S,n,p.a,p.l,p.c,.slice A l1 c,.slice B l3 bc] 32) (.cells #[.int .u8 k2,S2,n2,p2.a,p2.l,p2.c,.slice A2 l2 c2,.slice B2 l4 bc2] 32) (.cells #[.int .u8 k,S,n,p.a,p.l,p.c,.slice A l1 c,.slice B l3 bc] 32) (.cells #[.int .u8 k2,S2,n2,p2.a,p2.l,p2.c,.slice A2 l2 c2,.slice B2 l4 bc2] 32);have hb4:=((((Bel.refl w).alloc (.cells #[.int .u8 k,S,n,p.a,p.l,p.c,.slice A l1 c,.slice B l3 bc] 32)).alloc (.cells #[.int .u8 k2,S2,n2,p2.a,p2.l,p2.c,.slice A2 l2 c2,.slice B2 l4 bc2] 32)).alloc (.cells #[.int .u8 k,S,n,p.a,p.l,p.c,.slice A l1 c,.slice B l3 bc] 32)).alloc (.cells #[.int .u8 k2,S2,n2,p2.a,p2.l,p2.c,.slice A2 l2 c2,.slice B2 l4 bc2] 32);have HC:=hid (HS.out (w.heap.size+2) (w.heap.size+3) _ _ _ hb4 q4.2.2.1 q4.2.2.2);have HB4:=hid hb4;clear q4 hb4 HS;go_enter Tryz.func11,Tryz.ntmps11
 go_wp2_with fail
 refine HC.out.mono ?_;rintro e w5 ⟨rfl,hb5⟩;have HB5:=hid (HB4.out.on hb5);clear hb5;go_wp2_with fail
 go_ret
 exact⟨rfl,HB5.out⟩
end Go.Proofs.YtlmmaoobembadaaGreatDoor.Mu
namespace Go.Proofs.YtlmmaoobembadaaGreatDoor.Mu
open Go Go.RowKit Go.Shelf
set_option linter.unusedVariables false
structure Fd where
 m:Int
 k:Int
 s:List UInt8
 n:Int
 p:Pl
 kids:Tr
structure Cd where
 nm:List UInt8
 p:Pl
 fs:List Fd
structure Dc where
 kd:Int
 nm:List UInt8
 p:Pl
 ps:List (List UInt8)
 cs:List Cd
 rc:Bool
 k:Int
 s:List UInt8
 n:Int
 ep:Pl
 kids:Tr
 arms:Tr
def Fd.tr(x:Fd):Tr:= .nod x.k x.s x.n x.p x.kids .nil .nil
def Dc.tr(x:Dc):Tr:= .nod x.k x.s x.n x.ep x.kids x.arms .nil
def RowOf{α:Type}(sz:Nat)(At:World->(Nat->Prop)->Nat->Nat->α->Prop)(w:World)(Ok:Nat->Prop)(A:Option Addr)(n c:Nat)(xs:List α):Prop:=
 n=xs.length/\n<=c/\(0<n->∃ b o,A=some ⟨b,o,none⟩/\Ok b/\∀ (i:Nat) (x:α),xs[i]?=some x->At w Ok b (o+i*sz) x)
def qbP{α:Type}(At:World->(Nat->Prop)->Nat->Nat->α->Prop):Prop:=∀ (w w':World) (Ok Ok':Nat->Prop) (b o:Nat) (x:α),(∀ j,Ok j->w'.heap[j]?=w.heap[j]?)->(∀ j,Ok j->Ok' j)->Ok b->At w Ok b o x->At w' Ok' b o x
theorem RowOf.keep{α:Type}{sz:Nat}{At:World->(Nat->Prop)->Nat->Nat->α->Prop}(hA:qbP At){w w':World}{Ok Ok':Nat->Prop}{A:Option Addr}{n c:Nat}{xs:List α}(h:RowOf sz At w Ok A n c xs)(hk:∀ j,Ok j->w'.heap[j]?=w.heap[j]?)(hw:∀ j,Ok j->Ok' j):RowOf sz At w' Ok' A n c xs:=
 ⟨h.1,h.2.1,fun h0=>by
  obtain⟨b,o,e,hb,hx⟩:=h.2.2 h0;exact⟨b,o,e,hw b hb,fun i x hi=>hA w w' Ok Ok' b _ x hk hw hb (hx i x hi)⟩⟩
theorem RowOf.bel{α:Type}{sz:Nat}{At:World->(Nat->Prop)->Nat->Nat->α->Prop}(hA:qbP At){w w':World}{A:Option Addr}{n c:Nat}{xs:List α}(h:RowOf sz At w (OldT w) A n c xs)(hb:Bel w w'):RowOf sz At w' (OldT w') A n c xs:=
 h.keep hA (fun j hj=>hb.block j hj) (fun j hj=>Nat.lt_of_lt_of_le hj hb.size)
def FdAt(w:World)(Ok:Nat->Prop)(b o:Nat)(x:Fd):Prop:=w.cell? ⟨b,o,none⟩=some (.int .u8 x.m)/\TrAt w Ok x.tr .ty b (o+1)
def CdAt(w:World)(Ok:Nat->Prop)(b o:Nat)(x:Cd):Prop:=
 w.cell? ⟨b,o,none⟩=some (.string ⟨x.nm.toArray⟩)/\w.cell? ⟨b,o+1,none⟩=some (.int .i64 x.p.a)/\w.cell? ⟨b,o+2,none⟩=some (.int .i64 x.p.l)/\w.cell? ⟨b,o+3,none⟩=some (.int .i64 x.p.c) ∧
  ∃ A c,w.cell? ⟨b,o+4,none⟩=some (.slice A x.fs.length c)/\RowOf 8 FdAt w Ok A x.fs.length c x.fs
def SAt(w:World)(Ok:Nat->Prop)(b o:Nat)(x:List UInt8):Prop:=w.cell? ⟨b,o,none⟩=some (.string ⟨x.toArray⟩)
def DcAt(w:World)(Ok:Nat->Prop)(b o:Nat)(x:Dc):Prop:=
 w.cell? ⟨b,o,none⟩=some (.int .u8 x.kd)/\w.cell? ⟨b,o+1,none⟩=some (.string ⟨x.nm.toArray⟩)/\w.cell? ⟨b,o+2,none⟩=some (.int .i64 x.p.a)/\w.cell? ⟨b,o+3,none⟩=some (.int .i64 x.p.l)/\w.cell? ⟨b,o+4,none⟩=some (.int .i64 x.p.c) ∧
  (∃ A c,w.cell? ⟨b,o+5,none⟩=some (.slice A x.ps.length c)/\RowOf 1 SAt w Ok A x.ps.length c x.ps)/\(∃ A c,w.cell? ⟨b,o+6,none⟩=some (.slice A x.cs.length c)/\RowOf 5 CdAt w Ok A x.cs.length c x.cs) ∧
  w.cell? ⟨b,o+7,none⟩=some (.bool x.rc)/\TrAt w Ok x.tr .ex b (o+8)
theorem qT:qbP FdAt:=fun w w' Ok Ok' b o x hk hw hb ⟨h1,h2⟩=>
 ⟨(World.cell?_of_block (a:=⟨b,o,none⟩) (hk b hb)).trans h1,(TrAt.keep hk _ _ _ _ hb h2).wide hw _ _ _ _⟩
theorem zH:qbP SAt:=fun w w' Ok Ok' b o x hk hw hb h=>(World.cell?_of_block (a:=⟨b,o,none⟩) (hk b hb)).trans h
theorem qN:qbP CdAt:=fun w w' Ok Ok' b o x hk hw hb ⟨h1,h2,h3,h4,A,c,h5,h6⟩=>by
 have hc:∀ o',w'.cell? ⟨b,o',none⟩=w.cell? ⟨b,o',none⟩:=fun o'=>World.cell?_of_block (a:=⟨b,o',none⟩) (hk b hb);exact⟨(hc _).trans h1,(hc _).trans h2,(hc _).trans h3,(hc _).trans h4,A,c,(hc _).trans h5,h6.keep qT hk hw⟩
theorem q9:qbP DcAt:=fun w w' Ok Ok' b o x hk hw hb ⟨h1,h2,h3,h4,h5,⟨A,c,h6,h7⟩,⟨B,d,h8,h9⟩,h10,h11⟩=>by
 have hc:∀ o',w'.cell? ⟨b,o',none⟩=w.cell? ⟨b,o',none⟩:=fun o'=>World.cell?_of_block (a:=⟨b,o',none⟩) (hk b hb);exact⟨(hc _).trans h1,(hc _).trans h2,(hc _).trans h3,(hc _).trans h4,(hc _).trans h5,⟨A,c,(hc _).trans h6,h7.keep zH hk hw⟩,⟨B,d,(hc _).trans h8,h9.keep qN hk hw⟩,(hc _).trans h10,(TrAt.keep hk _ _ _ _ hb h11).wide hw _ _ _ _⟩
theorem FdAt.cells{w:World}{Ok:Nat->Prop}{b o:Nat}{x:Fd}(h:FdAt w Ok b o x):∃ A c,KidsTr w Ok .ty A x.kids.len c x.kids/\w.cell? ⟨b,o,none⟩=some (.int .u8 x.m)/\w.cell? ⟨b,o+1,none⟩=some (.int .u8 x.k)/\w.cell? ⟨b,o+2,none⟩=some (.string ⟨x.s.toArray⟩)/\w.cell? ⟨b,o+3,none⟩=some (.int .u8 x.n)/\w.cell? ⟨b,o+4,none⟩=some (.int .i64 x.p.a)/\w.cell? ⟨b,o+5,none⟩=some (.int .i64 x.p.l)/\w.cell? ⟨b,o+6,none⟩=some (.int .i64 x.p.c)/\w.cell? ⟨b,o+7,none⟩=some (.slice A x.kids.len c):=by
 obtain⟨A,c,B,bc,hc,hk,_,_⟩:=TrAt.parts h.2;exact⟨A,c,hk,h.1,hc 0 _ rfl,hc 1 _ rfl,hc 2 _ rfl,hc 3 _ rfl,hc 4 _ rfl,hc 5 _ rfl,hc 6 _ rfl⟩
theorem DcAt.cells{w:World}{Ok:Nat->Prop}{b o:Nat}{x:Dc}(h:DcAt w Ok b o x):∃ PA pc CA cc A c B bc,RowOf 1 SAt w Ok PA x.ps.length pc x.ps/\RowOf 5 CdAt w Ok CA x.cs.length cc x.cs/\KidsTr w Ok .ex A x.kids.len c x.kids/\KidsTr w Ok .arms B x.arms.len bc x.arms ∧
  w.cell? ⟨b,o,none⟩=some (.int .u8 x.kd)/\w.cell? ⟨b,o+1,none⟩=some (.string ⟨x.nm.toArray⟩)/\w.cell? ⟨b,o+2,none⟩=some (.int .i64 x.p.a)/\w.cell? ⟨b,o+3,none⟩=some (.int .i64 x.p.l)/\w.cell? ⟨b,o+4,none⟩=some (.int .i64 x.p.c)/\w.cell? ⟨b,o+5,none⟩=some (.slice PA x.ps.length pc)/\w.cell? ⟨b,o+6,none⟩=some (.slice CA x.cs.length cc)/\w.cell? ⟨b,o+7,none⟩=some (.bool x.rc) ∧
  w.cell? ⟨b,o+8,none⟩=some (.int .u8 x.k)/\w.cell? ⟨b,o+9,none⟩=some (.string ⟨x.s.toArray⟩)/\w.cell? ⟨b,o+10,none⟩=some (.int .i64 x.n)/\w.cell? ⟨b,o+11,none⟩=some (.int .i64 x.ep.a)/\w.cell? ⟨b,o+12,none⟩=some (.int .i64 x.ep.l)/\w.cell? ⟨b,o+13,none⟩=some (.int .i64 x.ep.c)/\w.cell? ⟨b,o+14,none⟩=some (.slice A x.kids.len c)/\w.cell? ⟨b,o+15,none⟩=some (.slice B x.arms.len bc):=by
 obtain⟨h1,h2,h3,h4,h5,⟨PA,pc,h6,h7⟩,⟨CA,cc,h8,h9⟩,h10,h11⟩:=h;obtain⟨A,c,B,bc,hc,hk,ha,_⟩:=TrAt.parts h11;rcases ha with ⟨_,ha⟩ | ⟨e | e,_⟩
 ·exact⟨PA,pc,CA,cc,A,c,B,bc,h7,h9,hk,ha,h1,h2,h3,h4,h5,h6,h8,h10,hc 0 _ rfl,hc 1 _ rfl,hc 2 _ rfl,hc 3 _ rfl,hc 4 _ rfl,hc 5 _ rfl,hc 6 _ rfl,hc 7 _ rfl⟩
 ·cases e
 ·cases e
def lsame{α:Type}(e:α->α->Bool):List α->List α->Bool
 | [],[]=>true
 | x::xs,y::ys=>e x y&&lsame e xs ys
 | _,_=>false
theorem jP{α:Type}(e:α->α->Bool):∀ xs ys:List α,lsame e xs ys=true->xs.length=ys.length
 | [],[],_=>rfl
 | x::xs,y::ys,h=>by
  simp only[lsame,Bool.and_eq_true]at h;simp only[List.length_cons,jP e xs ys h.2]
 | [],_::_,h=>by cases h
 | _::_,[],h=>by cases h
theorem Qg{α:Type}(e:α->α->Bool){xs ys:List α}{j:Nat}{x y:α}(hx:xs[j]?=some x)(hy:ys[j]?=some y):lsame e (xs.drop j) (ys.drop j)=(e x y&&lsame e (xs.drop (j+1)) (ys.drop (j+1))):=by
 obtain⟨h1,h2⟩:=List.getElem?_eq_some_iff.1 hx;obtain⟨h3,h4⟩:=List.getElem?_eq_some_iff.1 hy;rw[List.drop_eq_getElem_cons h1,List.drop_eq_getElem_cons h3,h2,h4];rfl
def Fd.same(x y:Fd):Bool:=decide (x.m=y.m)&&x.tr.same y.tr
def Cd.same(x y:Cd):Bool:=decide (x.nm=y.nm)&&lsame Fd.same x.fs y.fs
def Dc.same(x y:Dc):Bool:=decide (x.kd=y.kd)&&decide (x.nm=y.nm)&&decide (x.ps=y.ps)&&lsame Cd.same x.cs y.cs&&decide (x.rc=y.rc)&&x.tr.same y.tr
def Fd.good(x:Fd):Prop:=x.kids.size<=900000
def Cd.good(x:Cd):Prop:=x.fs.length<=1000000/\∀ f∈x.fs,f.good
def Dc.good(x:Dc):Prop:=x.cs.length<=1000000/\x.ps.length<=1100000/\x.kids.size+x.arms.size<=900000/\∀ c∈x.cs,c.good
end Go.Proofs.YtlmmaoobembadaaGreatDoor.Mu
namespace Go.Proofs.YtlmmaoobembadaaGreatDoor.Mu
set_option maxHeartbeats 2000000
open Go Go.RowKit Go.Shelf
attribute [local go_sem] Oper.semAt_some
set_option linter.unusedVariables false
set_option maxRecDepth 100000
def tysL:List Fd->Tr
 | []=> .nil
 | x::xs=> .nod x.k x.s x.n x.p x.kids .nil (tysL xs)
theorem Jw:∀ xs ys:List Fd,tysL (xs++ys)=(tysL xs).app (tysL ys)
 | [],_=>rfl
 | x::xs,ys=>by simp only[List.cons_append,tysL,Tr.app,Jw xs ys]
theorem Jy:∀ xs:List Fd,(tysL xs).len=xs.length
 | []=>rfl
 | x::xs=>by simp only[tysL,Tr.len,Jy xs,List.length_cons]
def qz:List Cd->List Fd
 | []=>[]
 | c::cs=>c.fs++qz cs
theorem j8(cs:List Cd)(j:Nat)(c:Cd)(h:cs[j]?=some c):qz (cs.take (j+1))=qz (cs.take j)++c.fs:=by
 induction cs generalizing j with
 | nil=>cases h
 | cons x xs ih=>
  cases j with
  | zero=>simp only[List.getElem?_cons_zero,Option.some.injEq]at h;subst h;simp[qz]
  | succ j=>
   simp only[List.getElem?_cons_succ]at h;simp only[List.take_succ_cons,qz,ih j h,List.append_assoc]
theorem qa9(cs:List Cd)(j:Nat):(qz (cs.take j)).length<=(qz cs).length:=by
 induction cs generalizing j with
 | nil=>simp
 | cons x xs ih=>
  cases j with
  | zero=>simp[qz]
  | succ j=>have:=ih j;simp only[List.take_succ_cons,qz,List.length_append];omega
theorem Zx(kd:Int)(nm:List UInt8)(q:Pl)(PA:Option Addr)(pl pc:Nat)(CA:Option Addr)(cl cc:Nat)(rc:Bool)(k:Int)(s:List UInt8)(n:Int)(p:Pl)(A:Option Addr)(kl c:Nat)(B:Option Addr)(al bc:Nat)(cs:List Cd)(w:World)(hc:RowOf 5 CdAt w (OldT w) CA cl cc cs)(hcl:cl<=1000000)(hfl:(qz cs).length<=1000000) :
  Calls Tryz.prog 31 #[.agg #[.int .u8 kd,.string ⟨nm.toArray⟩,q.a,q.l,q.c,.slice PA pl pc,.slice CA cl cc,.bool rc,.int .u8 k,.string ⟨s.toArray⟩,n,p.a,p.l,p.c,.slice A kl c,.slice B al bc]] w (jt w (OldT w) .ty (tysL (qz cs))):=by
 have HC:=hid hc;have HFL:=hid hfl;have HCL:Hid (cl=cs.length):=hid hc.1;clear hc hfl;obtain⟨S,hS⟩:∃ S:ByteArray,S=⟨s.toArray⟩:=⟨_,rfl⟩
 obtain⟨NM,hNM⟩:∃ S:ByteArray,S=⟨nm.toArray⟩:=⟨_,rfl⟩
 rw[<- hS,<- hNM];clear hS hNM;obtain⟨i0,hi0,hz0,hz1,hz2⟩:=info_parts qhm;have hb1:Bel w (w.alloc (.cells #[.int .u8 kd,NM,q.a,q.l,q.c,.slice PA pl pc,.slice CA cl cc,.bool rc,.int .u8 k,S,n,p.a,p.l,p.c,.slice A kl c,.slice B al bc] 34)):=(Bel.refl w).alloc _;have hsz:(w.alloc (.cells #[.int .u8 kd,NM,q.a,q.l,q.c,.slice PA pl pc,.slice CA cl cc,.bool rc,.int .u8 k,S,n,p.a,p.l,p.c,.slice A kl c,.slice B al bc] 34)).heap.size=w.heap.size+1:=by simp
 have HB1:=hid hb1;have HSZ:=hid hsz;clear hb1 hsz;go_enter Tryz.func31,Tryz.ntmps31
 go_wp2_with fail
 obtain⟨bx,hbx⟩:∃ bx,bx=w.heap.size:=⟨_,rfl⟩
 have HBX:=hid hbx;clear hbx;go_loopw [3,11] (fun v i wr=>∃ (j m:Nat) (A3:Option Addr) (c3:Nat) (us:List Value),j<=cl/\v=.slice A3 m c3/\i=.int .i64 (j:Int)/\Hid (m=(qz (cs.take j)).length)/\Hid (wr.ownsRow (bx+1) 59 7 (.slice A3 m c3) m us)/\Hid (Tells w (OldT w) .ty (tysL (qz (cs.take j))) us)/\Hid (Bel w wr)/\Hid (w.heap.size+1<=wr.heap.size)) (fun _ i _=>cl-(intOf i).toNat)
 case atStart=>exact⟨0,0,none,0,[],Nat.zero_le _,rfl,rfl,hid (by simp[qz]),hid (World.ownsRow_nil _ _ _ _),hid (by rw[List.take_zero];exact Tells.nil),HB1,hid (by rw[HSZ.out];exact Nat.le_refl _)⟩
 case round=>
  obtain⟨j,m,A3,c3,us,hj,rfl,rfl,HM,HO,HT,HB,HSB⟩:=hrel;by_cases hlt:j<cl
  ·obtain⟨ub,uo,eB,hob,hfo⟩:=HC.out.2.2 (by omega)
   subst eB;obtain⟨x,hx⟩:∃ x,cs[j]?=some x:=⟨_,List.getElem?_eq_getElem (by rw[<- HCL.out];exact hlt)⟩
   obtain⟨y0,y1,y2,y3,A',ca',y4,hff⟩:=hfo j x hx;obtain⟨cn,cp,fs⟩:=x;have HX:=hid hx;obtain⟨G,hG⟩:∃ G,G=qz (cs.take j):=⟨_,rfl⟩
   have HG1:Hid (qz (cs.take (j+1))=G++fs):=hid (by rw[hG];exact j8 cs j _ hx);have HGL:Hid (G.length+fs.length<=1000000):=hid (by
    have h1:=HG1.out;have h2:=qa9 cs (j+1);rw[h1,List.length_append]at h2;have:=HFL.out;omega)
   rw[<- hG]at HM HT;simp only[]at y0 y1 y2 y3 y4 hff;obtain⟨fl,hfl⟩:∃ l,l=fs.length:=⟨_,rfl⟩
   have HFN:=hid hfl;rw[<- hfl]at y4 hff;obtain⟨CN,hCN⟩:∃ S:ByteArray,S=⟨cn.toArray⟩:=⟨_,rfl⟩
   rw[<- hCN]at y0;have HF:Hid (RowOf 8 FdAt w (OldT w) A' fl ca' fs):=hid hff;have hcw:=(Bel.cells HB.out).1;replace y0:=(hcw ub _ hob).trans y0
   replace y1:=(hcw ub _ hob).trans y1
   replace y2:=(hcw ub _ hob).trans y2
   replace y3:=(hcw ub _ hob).trans y3
   replace y4:=(hcw ub _ hob).trans y4
   have i1:(0:Int)<=(j:Int):=by omega
   have i2:(j:Int)<(cl:Int):=by omega
   have hob':ub<wr.heap.size:=Nat.lt_of_lt_of_le hob HB.out.size;have hf8:fl<=1000000:=by have:=HGL.out;omega
   have HLT:=hid hlt;clear hcw hfo hob hx hG hfl hCN hff;go_wp2_with fail
   clear y0 y1 y2 y3 y4;have hbw:Bel wr (wr.alloc (.cells #[.string CN,cp.a,cp.l,cp.c,.slice A' fl ca'] 64)):=(Bel.refl wr).alloc _;have HBW:=hid hbw;have HSW:Hid (wr.heap.size<=(wr.alloc (.cells #[.string CN,cp.a,cp.l,cp.c,.slice A' fl ca'] 64)).heap.size):=hid (by simp);clear hbw;go_loopw [3,18] (fun v i wi=>∃ (h m:Nat) (A3:Option Addr) (c3:Nat) (us:List Value),h<=fl/\v=.slice A3 m c3/\i=.int .i64 (h:Int)/\Hid (m=G.length+h)/\Hid (wi.ownsRow (bx+1) 59 7 (.slice A3 m c3) m us)/\Hid (Tells w (OldT w) .ty (tysL (G++fs.take h)) us)/\Hid (Bel w wi)/\Hid (w.heap.size+1<=wi.heap.size)) (fun _ i _=>fl-(intOf i).toNat)
   case atStart=>exact⟨0,m,A3,c3,us,Nat.zero_le _,rfl,rfl,HM,hid (HO.out.alloc _),hid (by rw[List.take_zero,List.append_nil];exact HT.out),hid (HB.out.on HBW.out),hid (by have:=HSW.out;have:=HSB.out;omega)⟩
   case round=>
    obtain⟨h,m,A3,c3,us,hh,rfl,rfl,HMI,HOI,HTI,HBI,HSI⟩:=hrel;by_cases hlt2:h<fl
    ·obtain⟨ub2,uo2,eB2,hob2,hfo2⟩:=HF.out.2.2 (by omega)
     subst eB2;obtain⟨y,hy⟩:∃ y,fs[h]?=some y:=⟨_,List.getElem?_eq_getElem (by rw[<- HFN.out];exact hlt2)⟩
     obtain⟨A4,c4,hkk,z0,z1,z2,z3,z4,z5,z6,z7⟩:=(hfo2 h y hy).cells;obtain⟨fm,fk,fs',fn,fp,fkids⟩:=y;simp only[]at hkk z0 z1 z2 z3 z4 z5 z6 z7;have HT3:Hid (Tells w (OldT w) .ty (tysL (G++fs.take (h+1))) (us++nodV .ty fk fs' fn fp A4 fkids.len c4 none 0 0)):=hid (by
      rw[List.take_add_one,hy,Option.toList_some,<- List.append_assoc,Jw];exact HTI.out.app (Tells.one (by intro e;cases e) hkk (.inr ⟨.inr rfl,rfl⟩)))
     have hcw:=(Bel.cells HBI.out).1;replace z0:=(hcw ub2 _ hob2).trans z0
     replace z1:=(hcw ub2 _ hob2).trans z1
     replace z2:=(hcw ub2 _ hob2).trans z2
     replace z3:=(hcw ub2 _ hob2).trans z3
     replace z4:=(hcw ub2 _ hob2).trans z4
     replace z5:=(hcw ub2 _ hob2).trans z5
     replace z6:=(hcw ub2 _ hob2).trans z6
     replace z7:=(hcw ub2 _ hob2).trans z7
     have hob2':ub2<wr.heap.size:=Nat.lt_of_lt_of_le hob2 HBI.out.size;obtain⟨l3,hl3⟩:∃ l,l=fkids.len:=⟨_,rfl⟩
     rw[<- hl3]at z7 HT3;obtain⟨FJ,hFS⟩:∃ S:ByteArray,S=⟨fs'.toArray⟩:=⟨_,rfl⟩
     rw[<- hFS]at z2;have HT4:Hid (Tells w (OldT w) .ty (tysL (G++fs.take (h+1))) (us++[.int .u8 fk,.string FJ,.int .u8 fn,.int .i64 fp.a,.int .i64 fp.l,.int .i64 fp.c,.slice A4 l3 c4])):=hid (by rw[hFS];exact HT3.out);have j1:(0:Int)<=(h:Int):=by omega
     have j2:(h:Int)<(fl:Int):=by omega
     have hm9:m<=1000000:=by have:=HMI.out;have:=HGL.out;have:=HFN.out;omega
     have HLT2:=hid hlt2;clear hcw hob2 hfo2 hy hkk HT3 hl3 hFS HTI;go_wp2_with (at_builtin;refine jj ?_)
     unfold zY;refine wpList_append_own_at _ rfl _ _ 57 rfl (bx+1) 59 i0 _ 7 80 Tryz.underlying57 hi0 hz0 hz1 hz2 rfl (by decide) (.slice A3 m c3) m _ rfl ((HOI.out.alloc _).alloc _) ⟨wr.heap.size+1,0,none⟩ 1 1 [.int .u8 fk,FJ,.int .u8 fn,fp.a,fp.l,fp.c,.slice A4 l3 c4] rfl rfl (fun j u hu=>by
      rw[Addr.add_lit,Nat.zero_add];have h:=zm (wr.alloc (.cells #[.int .u8 fm,.int .u8 fk,FJ,.int .u8 fn,fp.a,fp.l,fp.c,.slice A4 l3 c4] 61)) _ 59 j u hu;rw[World.size_alloc]at h;exact h) (by simp[Value.oneCell']) (by unfold maxLen;omega) (by omega) (by simp;have:=HBX.out;have:=HBI.out.size;have:=HSI.out;omega) ?_
     intro v' w5 hown5 hg5 _ hat5;obtain⟨g5,c5,rfl⟩:=zO hown5;have hb5:Bel w w5:=Below.grown ((HBI.out.alloc _).alloc _) hg5 (by simp;have:=HBI.out.size;omega) (fun x hx=>by have h:=(HOI.out.lt x hx).1;have:=HBX.out;omega);have HB5:=hid hb5;have HSB5:Hid (w.heap.size+1<=w5.heap.size):=hid (by have h:=hg5.size;simp at h;have:=HSI.out;omega);have HO5:=hid hown5;have HM5:Hid (m+1=G.length+(h+1)):=hid (by have:=HMI.out;omega);clear hown5 hg5 hat5 hb5 z0 z1 z2 z3 z4 z5 z6 z7 HOI HBI;go_wp2_with fail
     go_roundw
     case rel=>exact⟨h+1,m+1,_,c5,_,HLT2.out,rfl,by go_num,HM5,HO5,HT4,HB5,HSB5⟩
     case measure=>have:=HLT2.out;simp[intOf];omega
    ·obtain rfl:h=fl:=by omega
     have HMO:Hid (m=(qz (cs.take (j+1))).length):=hid (by rw[HG1.out,List.length_append,HMI.out,HFN.out]);have HTO:Hid (Tells w (OldT w) .ty (tysL (qz (cs.take (j+1)))) us):=hid (by
      have h:=HTI.out;rw[HFN.out,List.take_length]at h;rw[HG1.out];exact h)
     go_wp2_with fail
     go_roundw
     case rel=>exact⟨j+1,m,A3,c3,us,HLT.out,rfl,by go_num,HMO,HOI,HTO,HBI,HSI⟩
     case measure=>have:=HLT.out;simp[intOf];omega
  ·obtain rfl:j=cl:=by omega
   go_wp2_with fail
   go_ret
   have hl:m=(tysL (qz cs)).len:=by rw[HM.out,HCL.out,List.take_length,Jy]
   have ht:=HT.out;rw[HCL.out,List.take_length]at ht;have ho:=HO.out;rw[hl]at ho ⊢;exact⟨A3,c3,rfl,HB.out,ht.row HB.out (fun _ h=>h) (by have:=HBX.out;omega) ho⟩
def QN(kd:Int)(e:Tr)(cs:List Cd):Nat:=if kd=2 then e.depth else if kd=1 then (tysL (qz cs)).depth else 0
def DepQ(r:Nat)(w:World):Ending->World->Prop:=fun e w'=>e=.returned (.int .i64 (r:Int))/\Bel w w'
theorem zX(kd:Int)(nm:List UInt8)(q:Pl)(PA:Option Addr)(pl pc:Nat)(CA:Option Addr)(cl cc:Nat)(rc:Bool)(k:Int)(s:List UInt8)(n:Int)(p:Pl)(A:Option Addr)(c:Nat)(B:Option Addr)(bc:Nat)(kids arms:Tr)(cs:List Cd)(w:World)(hk:KidsTr w (OldT w) .ex A kids.len c kids)(ha:KidsTr w (OldT w) .arms B arms.len bc arms)(hsz:kids.size+arms.size<=900000)(hc:RowOf 5 CdAt w (OldT w) CA cl cc cs)(hcl:cl<=1000000)(hfl:(tysL (qz cs)).size<=1000000) :
  Calls Tryz.prog 9 #[.agg #[.int .u8 kd,.string ⟨nm.toArray⟩,q.a,q.l,q.c,.slice PA pl pc,.slice CA cl cc,.bool rc,.int .u8 k,.string ⟨s.toArray⟩,n,p.a,p.l,p.c,.slice A kids.len c,.slice B arms.len bc]] w (DepQ (QN kd (.nod k s n p kids arms .nil) cs) w):=by
 have HX:Hid (∀ (g:Nat) (t:TypeId) (W:World),Bel w W->W.heap[g]?=some (.cells #[.int .u8 k,.string ⟨s.toArray⟩,n,p.a,p.l,p.c,.slice A kids.len c,.slice B arms.len bc] t (0,0)) →
   Calls Tryz.prog 27 #[.slice (some ⟨g,0,none⟩) 1 1,.func (.func 28) #[] #[],.func (.func 29) #[] #[]] W (DepQ (Tr.depth (.nod k s n p kids arms .nil)) W)):=hid fun g t W hW h1=>by
  have e1:=zS (sh:= .ex) (by intro e;cases e) hk (.inl ⟨rfl,ha⟩) hW h1;exact qb5 _ 1 1 _ W e1 (by simp only[Tr.size];omega)
 have HF:Hid (∀ W,Bel w W->Calls Tryz.prog 31 #[.agg #[.int .u8 kd,.string ⟨nm.toArray⟩,q.a,q.l,q.c,.slice PA pl pc,.slice CA cl cc,.bool rc,.int .u8 k,.string ⟨s.toArray⟩,n,p.a,p.l,p.c,.slice A kids.len c,.slice B arms.len bc]] W (jt W (OldT W) .ty (tysL (qz cs)))):=hid fun W hW=>Zx kd nm q PA pl pc CA cl cc rc k s n p A kids.len c B arms.len bc cs W (hc.bel qN hW) hcl (by have:=(tysL (qz cs)).len_le;rw[Jy]at this;omega);have HT:Hid (∀ W A c,KidsTr W (OldT W) .ty A (tysL (qz cs)).len c (tysL (qz cs))->Calls Tryz.prog 30 #[.slice A (tysL (qz cs)).len c,.func (.func 32) #[] #[],.func (.func 33) #[] #[]] W (DepQ (tysL (qz cs)).depth W)):=hid fun W A c h=>qb4 A _ c _ W h hfl;unfold QN;obtain⟨dx,hdx⟩:∃ r,r=Tr.depth (.nod k s n p kids arms .nil):=⟨_,rfl⟩
 obtain⟨F,hF⟩:∃ r,r=tysL (qz cs):=⟨_,rfl⟩
 rw[<- hF]at HF HT ⊢;rw[<- hdx]at HX ⊢;obtain⟨kl,hl1⟩:∃ l,l=kids.len:=⟨_,rfl⟩
 obtain⟨al,hl3⟩:∃ l,l=arms.len:=⟨_,rfl⟩
 obtain⟨S,hS⟩:∃ S:ByteArray,S=⟨s.toArray⟩:=⟨_,rfl⟩
 obtain⟨NM,hNM⟩:∃ S:ByteArray,S=⟨nm.toArray⟩:=⟨_,rfl⟩
 rw[<- hl1,<- hl3,<- hS]at HX;rw[<- hl1,<- hl3,<- hS,<- hNM]at HF ⊢;clear hk ha hsz hc hcl hfl hdx hF hl1 hl3 hS hNM;have hb1:Bel w (w.alloc (.cells #[.int .u8 kd,NM,q.a,q.l,q.c,.slice PA pl pc,.slice CA cl cc,.bool rc,.int .u8 k,S,n,p.a,p.l,p.c,.slice A kl c,.slice B al bc] 34)):=(Bel.refl w).alloc _;have HB1:=hid hb1;clear hb1;by_cases h2:kd=2
 ·subst h2
  rw[if_pos rfl];have q2:=blk2 w (.cells #[.int .u8 2,NM,q.a,q.l,q.c,.slice PA pl pc,.slice CA cl cc,.bool rc,.int .u8 k,S,n,p.a,p.l,p.c,.slice A kl c,.slice B al bc] 34) (.cells #[.int .u8 k,S,n,p.a,p.l,p.c,.slice A kl c,.slice B al bc] 32);have HC:=hid (HX.out (w.heap.size+1) _ _ (HB1.out.alloc _) q2.2);have HB2:=hid (HB1.out.alloc (.cells #[.int .u8 k,S,n,p.a,p.l,p.c,.slice A kl c,.slice B al bc] 32));clear q2 HX HF HT HB1;go_enter Tryz.func9,Tryz.ntmps9
  go_wp2_with fail
  refine HC.out.mono ?_;rintro e w5 ⟨rfl,hb5⟩;have HB5:=hid (HB2.out.on hb5);clear hb5;go_wp2_with fail
  go_ret
  exact⟨rfl,HB5.out⟩
 rw[if_neg h2];have k2:(kd==2)=false:=by simpa using h2
 clear HX h2;by_cases h1:kd=1
 ·subst h1
  rw[if_pos rfl];go_enter Tryz.func9,Tryz.ntmps9
  go_wp2_with fail
  refine (HF.out _ HB1.out).mono ?_;rintro e w5 ⟨A5,c5,rfl,hb5,hr5⟩;have HB5:=hid (HB1.out.on hb5);have HR5:=hid (hr5.wide (fun j hj=>by rcases hj with h | h;exact Nat.lt_of_lt_of_le h hb5.size;exact h.2));clear hb5 hr5;go_wp2_with fail
  refine (HT.out _ A5 c5 HR5.out).mono ?_;rintro e w6 ⟨rfl,hb6⟩;have HB6:=hid (HB5.out.on hb6);clear hb6;go_wp2_with fail
  go_ret
  exact⟨rfl,HB6.out⟩
 rw[if_neg h1];have k1:(kd==1)=false:=by simpa using h1
 clear HF HT h1;go_enter Tryz.func9,Tryz.ntmps9
 go_wp2_with fail
 go_ret
 exact⟨rfl,HB1.out⟩
set_option maxHeartbeats 2000000
theorem qbS(m k:Int)(s:List UInt8)(n:Int)(p:Pl)(A:Option Addr)(c:Nat)(kids:Tr)(m2 k2:Int)(s2:List UInt8)(n2:Int)(p2:Pl)(A2:Option Addr)(c2:Nat)(kids2:Tr)(w:World)
  (hk:KidsTr w (OldT w) .ty A kids.len c kids) (hk2:KidsTr w (OldT w) .ty A2 kids2.len c2 kids2) (hsz:kids.size<=900000) (hsz2:kids2.size<=900000) :
  Calls Tryz.prog 132 #[.agg #[.int .u8 m,.int .u8 k,.string ⟨s.toArray⟩,.int .u8 n,p.a,p.l,p.c,.slice A kids.len c],.agg #[.int .u8 m2,.int .u8 k2,.string ⟨s2.toArray⟩,.int .u8 n2,p2.a,p2.l,p2.c,.slice A2 kids2.len c2]] w (qj (decide (m=m2)&&Tr.same (.nod k s n p kids .nil .nil) (.nod k2 s2 n2 p2 kids2 .nil .nil)) w):=by
 have HS:Hid (∀ (g g2:Nat) (t t2:TypeId) (W:World),Bel w W->W.heap[g]?=some (.cells #[.int .u8 k,.string ⟨s.toArray⟩,.int .u8 n,p.a,p.l,p.c,.slice A kids.len c] t (0,0))->W.heap[g2]?=some (.cells #[.int .u8 k2,.string ⟨s2.toArray⟩,.int .u8 n2,p2.a,p2.l,p2.c,.slice A2 kids2.len c2] t2 (0,0)) →
   Calls Tryz.prog 171 #[.slice (some ⟨g,0,none⟩) 1 1,.slice (some ⟨g2,0,none⟩) 1 1,.func (.func 32) #[] #[],.func (.func 172) #[] #[]] W (qj (Tr.same (.nod k s n p kids .nil .nil) (.nod k2 s2 n2 p2 kids2 .nil .nil)) W)):=hid fun g g2 t t2 W hW h1 h2=>by
  have e1:=zS (sh:= .ty) (arms:= .nil) (B:=none) (bc:=0) (by intro e;cases e) hk (.inr ⟨.inr rfl,rfl⟩) hW h1;have e2:=zS (sh:= .ty) (arms:= .nil) (B:=none) (bc:=0) (by intro e;cases e) hk2 (.inr ⟨.inr rfl,rfl⟩) hW h2;exact qeu _ 1 1 _ 1 1 _ _ W e1 e2 (by simp only[Tr.size];omega) (by simp only[Tr.size];omega)
 obtain⟨r,hr⟩:∃ r,r=Tr.same (.nod k s n p kids .nil .nil) (.nod k2 s2 n2 p2 kids2 .nil .nil):=⟨_,rfl⟩
 rw[<- hr]at HS ⊢;obtain⟨l1,hl1⟩:∃ l,l=kids.len:=⟨_,rfl⟩
 obtain⟨l2,hl2⟩:∃ l,l=kids2.len:=⟨_,rfl⟩
 obtain⟨S,hS⟩:∃ S:ByteArray,S=⟨s.toArray⟩:=⟨_,rfl⟩
 obtain⟨S2,hS2⟩:∃ S:ByteArray,S=⟨s2.toArray⟩:=⟨_,rfl⟩
 rw[<- hl1,<- hl2,<- hS,<- hS2]at HS;rw[<- hl1,<- hl2,<- hS,<- hS2];clear hk hk2 hsz hsz2 hr hl1 hl2 hS hS2;by_cases dm:m=m2
 case neg=>
  have e:(decide (m=m2)&&r)=false:=by simp[dm]
  rw[e];have em:(m==m2)=false:=by simpa using dm
  clear e HS;go_enter Tryz.func132,Tryz.ntmps132
  go_wp2_with fail
  go_ret
  exact⟨rfl,((Bel.refl w).alloc _).alloc _⟩
 subst dm;have e:(decide (m=m)&&r)=r:=by simp
 rw[e];clear e;have q4:=blk4 w (.cells #[.int .u8 m,.int .u8 k,S,.int .u8 n,p.a,p.l,p.c,.slice A l1 c] 61) (.cells #[.int .u8 m,.int .u8 k2,S2,.int .u8 n2,p2.a,p2.l,p2.c,.slice A2 l2 c2] 61) (.cells #[.int .u8 k,S,.int .u8 n,p.a,p.l,p.c,.slice A l1 c] 59) (.cells #[.int .u8 k2,S2,.int .u8 n2,p2.a,p2.l,p2.c,.slice A2 l2 c2] 59);have hb4:=((((Bel.refl w).alloc (.cells #[.int .u8 m,.int .u8 k,S,.int .u8 n,p.a,p.l,p.c,.slice A l1 c] 61)).alloc (.cells #[.int .u8 m,.int .u8 k2,S2,.int .u8 n2,p2.a,p2.l,p2.c,.slice A2 l2 c2] 61)).alloc (.cells #[.int .u8 k,S,.int .u8 n,p.a,p.l,p.c,.slice A l1 c] 59)).alloc (.cells #[.int .u8 k2,S2,.int .u8 n2,p2.a,p2.l,p2.c,.slice A2 l2 c2] 59);have HC:=hid (HS.out (w.heap.size+2) (w.heap.size+3) _ _ _ hb4 q4.2.2.1 q4.2.2.2);have HB4:=hid hb4;clear q4 hb4 HS;go_enter Tryz.func132,Tryz.ntmps132
 go_wp2_with fail
 refine HC.out.mono ?_;rintro e w5 ⟨rfl,hb5⟩;have HB5:=hid (HB4.out.on hb5);clear hb5;go_wp2_with fail
 go_ret
 exact⟨rfl,HB5.out⟩
theorem qg8(A:Option Addr)(n c:Nat)(B:Option Addr)(m d:Nat)(f g:List Fd)(w:World)(hk:RowOf 8 FdAt w (OldT w) A n c f)(hk2:RowOf 8 FdAt w (OldT w) B m d g)(hn:n<=1000000)(hm:m<=1000000)(hg:∀ x∈f,x.good)(hg2:∀ x∈g,x.good) :
  Calls Tryz.prog 131 #[.slice A n c,.slice B m d,.func (.func 132) #[] #[]] w (qj (lsame Fd.same f g) w):=by
 have H:=hid hk;have H2:=hid hk2;have HL:Hid (n=f.length):=hid hk.1;have HL2:Hid (m=g.length):=hid hk2.1;have HG:=hid (And.intro hg hg2);obtain⟨r,hr⟩:∃ r,r=lsame Fd.same f g:=⟨_,rfl⟩
 rw[<- hr];have HR:=hid hr;clear hk hk2 hg hg2 hr;have eg:∀ args w,(callFunc 132 args).run Tryz.prog w=.ok (.enter 132 args) w:=fun args w=>by kernel_rfl
 by_cases hnm:n=m
 case neg=>
  obtain rfl:r=false:=by
   rw[HR.out,Bool.eq_false_iff];intro h;have:=jP _ _ _ h;exact hnm (by rw[HL.out,HL2.out,this])
  have e0:((n:Int) != (m:Int))=true:=by simp;omega
  go_enter Tryz.func131,Tryz.ntmps131
  go_wp2_with fail
  go_ret
  exact⟨rfl,Bel.refl _⟩
 subst hnm;go_enter Tryz.func131,Tryz.ntmps131
 go_wp2_with fail
 go_loopw [17] (fun i wr=>∃ j:Nat,j<=n/\i=.int .i64 (j:Int)/\Hid (r=lsame Fd.same (f.drop j) (g.drop j))/\Hid (Bel w wr)) (fun i _=>n-(intOf i).toNat)
 case atStart=>exact⟨0,Nat.zero_le _,rfl,HR,hid (Bel.refl _)⟩
 case round=>
  obtain⟨j,hj,rfl,HRJ,HB⟩:=hrel;by_cases hlt:j<n
  ·obtain⟨ub,uo,eA,hob,hfo⟩:=(H.out.bel qT HB.out).2.2 (by omega)
   obtain⟨ub2,uo2,eA2,hob2,hfo2⟩:=(H2.out.bel qT HB.out).2.2 (by omega);subst eA eA2;obtain⟨x,hx⟩:∃ x,f[j]?=some x:=⟨_,List.getElem?_eq_getElem (by rw[<- HL.out];exact hlt)⟩
   obtain⟨y,hy⟩:∃ y,g[j]?=some y:=⟨_,List.getElem?_eq_getElem (by rw[<- HL2.out];exact hlt)⟩
   have hd:=hfo j x hx;have hd2:=hfo2 j y hy;have hgx:=HG.out.1 x (List.mem_of_getElem? hx);have hgy:=HG.out.2 y (List.mem_of_getElem? hy);obtain⟨hb,hhb⟩:∃ hb,hb=Fd.same x y:=⟨_,rfl⟩
   have HRN:Hid (r=(hb&&lsame Fd.same (f.drop (j+1)) (g.drop (j+1)))):=hid (by rw[HRJ.out,Qg _ hx hy,hhb]);clear hfo hfo2;obtain⟨A',ca',hkk,y0,y1,y2,y3,y4,y5,y6,y7⟩:=hd.cells;obtain⟨A2',ca2',hkk2,z0,z1,z2,z3,z4,z5,z6,z7⟩:=hd2.cells;obtain⟨mm,k,s,nn,p,kids⟩:=x;obtain⟨mm2,k2,s2,nn2,p2,kids2⟩:=y;have HC:Hid (∀ W,Bel wr W->Calls Tryz.prog 132 #[.agg #[.int .u8 mm,.int .u8 k,.string ⟨s.toArray⟩,.int .u8 nn,p.a,p.l,p.c,.slice A' kids.len ca'],.agg #[.int .u8 mm2,.int .u8 k2,.string ⟨s2.toArray⟩,.int .u8 nn2,p2.a,p2.l,p2.c,.slice A2' kids2.len ca2']] W (qj hb W)):=hid fun W hW=>by
    rw[hhb];exact qbS mm k s nn p A' ca' kids mm2 k2 s2 nn2 p2 A2' ca2' kids2 W (hkk.bel hW) (hkk2.bel hW) hgx hgy
   simp only[]at y0 y1 y2 y3 y4 y5 y6 y7 z0 z1 z2 z3 z4 z5 z6 z7;obtain⟨l1,hl1⟩:∃ l,l=kids.len:=⟨_,rfl⟩
   obtain⟨l2,hl2⟩:∃ l,l=kids2.len:=⟨_,rfl⟩
   obtain⟨SS,hSS⟩:∃ S:ByteArray,S=⟨s.toArray⟩:=⟨_,rfl⟩
   obtain⟨SS2,hSS2⟩:∃ S:ByteArray,S=⟨s2.toArray⟩:=⟨_,rfl⟩
   rw[<- hSS,<- hSS2,<- hl1,<- hl2]at HC;rw[<- hSS]at y2;rw[<- hSS2]at z2;rw[<- hl1]at y7;rw[<- hl2]at z7;clear hkk hkk2 hgx hgy hhb hl1 hl2 hSS hSS2 hx hy hd hd2;have i1:(0:Int)<=(j:Int):=by omega
   have i2:(j:Int)<(n:Int):=by omega
   have HLT:=hid hlt;have hob':ub<wr.heap.size:=hob;have hob2':ub2<wr.heap.size:=hob2;clear hob hob2;go_wp2_with fail
   refine (HC.out _ (((Bel.refl wr).alloc _).alloc _)).mono ?_;rintro e w3 ⟨rfl,hb3⟩;have HB3:=hid (((HB.out.alloc _).alloc _).on hb3);clear hb3 HC y0 y1 y2 y3 y4 y5 y6 y7 z0 z1 z2 z3 z4 z5 z6 z7;cases hb
   ·obtain rfl:r=false:=by rw[HRN.out];rfl
    go_wp2_with fail
    go_ret
    exact⟨rfl,HB3.out⟩
   ·have HR':Hid (r=lsame Fd.same (f.drop (j+1)) (g.drop (j+1))):=hid (by rw[HRN.out];rfl)
    go_wp2_with fail
    go_roundw
    case rel=>exact⟨j+1,HLT.out,by go_num,HR',HB3⟩
    case measure=>have:=HLT.out;simp[intOf];omega
  ·obtain rfl:j=n:=by omega
   obtain rfl:r=true:=by rw[HRJ.out,List.drop_eq_nil_of_le (by rw[<- HL.out];exact Nat.le_refl _),List.drop_eq_nil_of_le (by rw[<- HL2.out];exact Nat.le_refl _)];rfl
   go_wp2_with fail
   go_ret
   exact⟨rfl,HB.out⟩
theorem qbQ(s:List UInt8)(p:Pl)(A:Option Addr)(c:Nat)(fs:List Fd)(s2:List UInt8)(p2:Pl)(A2:Option Addr)(c2:Nat)(fs2:List Fd)(w:World)
  (hk:RowOf 8 FdAt w (OldT w) A fs.length c fs) (hk2:RowOf 8 FdAt w (OldT w) A2 fs2.length c2 fs2) (hn:fs.length<=1000000) (hn2:fs2.length<=1000000) (hg:∀ x∈fs,x.good) (hg2:∀ x∈fs2,x.good) :
  Calls Tryz.prog 79 #[.agg #[.string ⟨s.toArray⟩,p.a,p.l,p.c,.slice A fs.length c],.agg #[.string ⟨s2.toArray⟩,p2.a,p2.l,p2.c,.slice A2 fs2.length c2]] w (qj (decide (s=s2)&&lsame Fd.same fs fs2) w):=by
 have HS:Hid (∀ W,Bel w W->Calls Tryz.prog 131 #[.slice A fs.length c,.slice A2 fs2.length c2,.func (.func 132) #[] #[]] W (qj (lsame Fd.same fs fs2) W)):=hid fun W hW=>qg8 A _ c A2 _ c2 fs fs2 W (hk.bel qT hW) (hk2.bel qT hW) hn hn2 hg hg2;obtain⟨r,hr⟩:∃ r,r=lsame Fd.same fs fs2:=⟨_,rfl⟩
 rw[<- hr]at HS ⊢;obtain⟨l1,hl1⟩:∃ l,l=fs.length:=⟨_,rfl⟩
 obtain⟨l2,hl2⟩:∃ l,l=fs2.length:=⟨_,rfl⟩
 rw[<- hl1,<- hl2]at HS ⊢;have hne:s≠s2->(⟨s.toArray⟩:ByteArray).toList≠(⟨s2.toArray⟩:ByteArray).toList:=jV;clear hk hk2 hn hn2 hg hg2 hr hl1 hl2;by_cases ds:s=s2
 case neg=>
  have e:(decide (s=s2)&&r)=false:=by simp[ds]
  rw[e];obtain⟨S,hS⟩:∃ S:ByteArray,S=⟨s.toArray⟩:=⟨_,rfl⟩
  obtain⟨S2,hS2⟩:∃ S:ByteArray,S=⟨s2.toArray⟩:=⟨_,rfl⟩
  have qn:=hne ds;rw[<- hS,<- hS2]at qn;rw[<- hS,<- hS2];have qb:(S.toList==S2.toList)=false:=by simpa using qn
  clear hne e hS hS2 ds HS qn;go_enter Tryz.func79,Tryz.ntmps79
  go_wp2_with fail
  go_ret
  exact⟨rfl,((Bel.refl w).alloc _).alloc _⟩
 subst ds;have e:(decide (s=s)&&r)=r:=by simp
 rw[e];obtain⟨S,hS⟩:∃ S:ByteArray,S=⟨s.toArray⟩:=⟨_,rfl⟩
 rw[<- hS];clear e hne hS;go_enter Tryz.func79,Tryz.ntmps79
 go_wp2_with fail
 refine (HS.out _ (((Bel.refl w).alloc _).alloc _)).mono ?_;rintro e w5 ⟨rfl,hb5⟩;have HB5:=hid ((((Bel.refl w).alloc _).alloc _).on hb5);clear hb5 HS;go_wp2_with fail
 go_ret
 exact⟨rfl,HB5.out⟩
theorem qg6(A:Option Addr)(n c:Nat)(B:Option Addr)(m d:Nat)(f g:List Cd)(w:World)(hk:RowOf 5 CdAt w (OldT w) A n c f)(hk2:RowOf 5 CdAt w (OldT w) B m d g)(hn:n<=1000000)(hm:m<=1000000)(hg:∀ x∈f,x.good)(hg2:∀ x∈g,x.good) :
  Calls Tryz.prog 78 #[.slice A n c,.slice B m d,.func (.func 79) #[] #[]] w (qj (lsame Cd.same f g) w):=by
 have H:=hid hk;have H2:=hid hk2;have HL:Hid (n=f.length):=hid hk.1;have HL2:Hid (m=g.length):=hid hk2.1;have HG:=hid (And.intro hg hg2);obtain⟨r,hr⟩:∃ r,r=lsame Cd.same f g:=⟨_,rfl⟩
 rw[<- hr];have HR:=hid hr;clear hk hk2 hg hg2 hr;have eg:∀ args w,(callFunc 79 args).run Tryz.prog w=.ok (.enter 79 args) w:=fun args w=>by kernel_rfl
 by_cases hnm:n=m
 case neg=>
  obtain rfl:r=false:=by
   rw[HR.out,Bool.eq_false_iff];intro h;have:=jP _ _ _ h;exact hnm (by rw[HL.out,HL2.out,this])
  have e0:((n:Int) != (m:Int))=true:=by simp;omega
  go_enter Tryz.func78,Tryz.ntmps78
  go_wp2_with fail
  go_ret
  exact⟨rfl,Bel.refl _⟩
 subst hnm;go_enter Tryz.func78,Tryz.ntmps78
 go_wp2_with fail
 go_loopw [17] (fun i wr=>∃ j:Nat,j<=n/\i=.int .i64 (j:Int)/\Hid (r=lsame Cd.same (f.drop j) (g.drop j))/\Hid (Bel w wr)) (fun i _=>n-(intOf i).toNat)
 case atStart=>exact⟨0,Nat.zero_le _,rfl,HR,hid (Bel.refl _)⟩
 case round=>
  obtain⟨j,hj,rfl,HRJ,HB⟩:=hrel;by_cases hlt:j<n
  ·obtain⟨ub,uo,eA,hob,hfo⟩:=(H.out.bel qN HB.out).2.2 (by omega)
   obtain⟨ub2,uo2,eA2,hob2,hfo2⟩:=(H2.out.bel qN HB.out).2.2 (by omega);subst eA eA2;obtain⟨x,hx⟩:∃ x,f[j]?=some x:=⟨_,List.getElem?_eq_getElem (by rw[<- HL.out];exact hlt)⟩
   obtain⟨y,hy⟩:∃ y,g[j]?=some y:=⟨_,List.getElem?_eq_getElem (by rw[<- HL2.out];exact hlt)⟩
   have hd:=hfo j x hx;have hd2:=hfo2 j y hy;have hgx:=HG.out.1 x (List.mem_of_getElem? hx);have hgy:=HG.out.2 y (List.mem_of_getElem? hy);obtain⟨hb,hhb⟩:∃ hb,hb=Cd.same x y:=⟨_,rfl⟩
   have HRN:Hid (r=(hb&&lsame Cd.same (f.drop (j+1)) (g.drop (j+1)))):=hid (by rw[HRJ.out,Qg _ hx hy,hhb]);clear hfo hfo2;obtain⟨y0,y1,y2,y3,A',ca',y4,hkk⟩:=hd;obtain⟨z0,z1,z2,z3,A2',ca2',z4,hkk2⟩:=hd2;obtain⟨s,p,fs⟩:=x;obtain⟨s2,p2,fs2⟩:=y;have HC:Hid (∀ W,Bel wr W->Calls Tryz.prog 79 #[.agg #[.string ⟨s.toArray⟩,p.a,p.l,p.c,.slice A' fs.length ca'],.agg #[.string ⟨s2.toArray⟩,p2.a,p2.l,p2.c,.slice A2' fs2.length ca2']] W (qj hb W)):=hid fun W hW=>by
    rw[hhb];exact qbQ s p A' ca' fs s2 p2 A2' ca2' fs2 W (hkk.bel qT hW) (hkk2.bel qT hW) hgx.1 hgy.1 hgx.2 hgy.2
   simp only[]at y0 y1 y2 y3 y4 z0 z1 z2 z3 z4;obtain⟨l1,hl1⟩:∃ l,l=fs.length:=⟨_,rfl⟩
   obtain⟨l2,hl2⟩:∃ l,l=fs2.length:=⟨_,rfl⟩
   obtain⟨SS,hSS⟩:∃ S:ByteArray,S=⟨s.toArray⟩:=⟨_,rfl⟩
   obtain⟨SS2,hSS2⟩:∃ S:ByteArray,S=⟨s2.toArray⟩:=⟨_,rfl⟩
   rw[<- hSS,<- hSS2,<- hl1,<- hl2]at HC;rw[<- hSS]at y0;rw[<- hSS2]at z0;rw[<- hl1]at y4;rw[<- hl2]at z4;clear hkk hkk2 hgx hgy hhb hl1 hl2 hSS hSS2 hx hy;have i1:(0:Int)<=(j:Int):=by omega
   have i2:(j:Int)<(n:Int):=by omega
   have HLT:=hid hlt;have hob':ub<wr.heap.size:=hob;have hob2':ub2<wr.heap.size:=hob2;clear hob hob2;go_wp2_with fail
   refine (HC.out _ (((Bel.refl wr).alloc _).alloc _)).mono ?_;rintro e w3 ⟨rfl,hb3⟩;have HB3:=hid (((HB.out.alloc _).alloc _).on hb3);clear hb3 HC y0 y1 y2 y3 y4 z0 z1 z2 z3 z4;cases hb
   ·obtain rfl:r=false:=by rw[HRN.out];rfl
    go_wp2_with fail
    go_ret
    exact⟨rfl,HB3.out⟩
   ·have HR':Hid (r=lsame Cd.same (f.drop (j+1)) (g.drop (j+1))):=hid (by rw[HRN.out];rfl)
    go_wp2_with fail
    go_roundw
    case rel=>exact⟨j+1,HLT.out,by go_num,HR',HB3⟩
    case measure=>have:=HLT.out;simp[intOf];omega
  ·obtain rfl:j=n:=by omega
   obtain rfl:r=true:=by rw[HRJ.out,List.drop_eq_nil_of_le (by rw[<- HL.out];exact Nat.le_refl _),List.drop_eq_nil_of_le (by rw[<- HL2.out];exact Nat.le_refl _)];rfl
   go_wp2_with fail
   go_ret
   exact⟨rfl,HB.out⟩
theorem qha(A:Option Addr)(n c:Nat)(B:Option Addr)(m d:Nat)(f g:List (List UInt8))(w:World)(hk:RowOf 1 SAt w (OldT w) A n c f)(hk2:RowOf 1 SAt w (OldT w) B m d g)(hn:n<=1100000)(hm:m<=1100000) :
  Calls Tryz.prog 77 #[.slice A n c,.slice B m d] w (qj (decide (f=g)) w):=by
 have hl:=hk.1;have hl2:=hk2.1;by_cases hnm:n=m
 case neg=>
  have e:decide (f=g)=false:=by
   simp only[decide_eq_false_iff_not];intro e;exact hnm (by rw[hl,hl2,e])
  rw[e];exact (Tryz.slices_Equal_string_lens A B n c m d w hnm).mono (by rintro e w' ⟨rfl,rfl⟩;exact⟨rfl,Bel.refl _⟩)
 subst hnm;cases n with
 | zero=>
  have e1:f=[]:=List.length_eq_zero_iff.1 hl.symm;have e2:g=[]:=List.length_eq_zero_iff.1 hl2.symm;subst e1 e2;exact (Tryz.slices_Equal_string_empty A B c 0 d w (by omega)).mono (by rintro e w' ⟨rfl,rfl⟩;exact⟨rfl,Bel.refl _⟩)
 | succ n=>
  obtain⟨b,o,rfl,_,h1⟩:=hk.2.2 (by omega);obtain⟨b2,o2,rfl,_,h2⟩:=hk2.2.2 (by omega);have lem:∀ (b o:Nat) (f:List (List UInt8)),(∀ (i:Nat) (x:List UInt8),f[i]?=some x->SAt w (OldT w) b (o+i*1) x)->∀ j,j<(f.map (fun s=>(⟨s.toArray⟩:ByteArray))).length->w.cell? ⟨b,o+j,none⟩=some (.string ((f.map (fun s=>(⟨s.toArray⟩:ByteArray))).getD j ByteArray.empty)):=fun b o f h j hj=>by
   have hj':j<f.length:=by simpa using hj
   have:=h j f[j] (List.getElem?_eq_getElem hj');unfold SAt at this;rw[Nat.mul_one]at this;rw[this];simp[List.getD,hj']
  refine (Tryz.slices_Equal_string b o (n+1) c b2 o2 (n+1) d (f.map (fun s=>(⟨s.toArray⟩:ByteArray))) (g.map (fun s=>(⟨s.toArray⟩:ByteArray))) w (by simp;omega) (by simp;omega) (by omega) (by omega) (lem b o f h1) (lem b2 o2 g h2)).mono ?_;rintro e w' ⟨rfl,q,rfl⟩;refine⟨?_,(Bel.refl w).drewN q⟩;have t1:(f.map (fun s=>(⟨s.toArray⟩:ByteArray))).take (n+1)=f.map (fun s=>(⟨s.toArray⟩:ByteArray)):=List.take_of_length_le (by simp;omega);have t2:(g.map (fun s=>(⟨s.toArray⟩:ByteArray))).take (n+1)=g.map (fun s=>(⟨s.toArray⟩:ByteArray)):=List.take_of_length_le (by simp;omega);rw[t1,t2];have inj:∀ (f g:List (List UInt8)),f.map (fun s=>(⟨s.toArray⟩:ByteArray))=g.map (fun s=>(⟨s.toArray⟩:ByteArray))->f=g:=fun f g h=>by
   refine (List.map_inj_right ?_).1 h;intro x y e;have:=congrArg (fun b:ByteArray=>b.data.toList) e;simpa using this
  congr 2
  rw[decide_eq_decide];exact⟨inj f g,fun e=>by rw[e]⟩
theorem box5{w:World}{g:Nat}{t:TypeId}{x0 x1 x2 x3 x4:Value}(h:w.heap[g]?=some (.cells #[x0,x1,x2,x3,x4] t (0,0))) :
  w.cell? ⟨g,0,none⟩=some x0/\w.cell? ⟨g,4,none⟩=some x4:=by
 simp[World.cell?,h]
end Go.Proofs.YtlmmaoobembadaaGreatDoor.Mu
