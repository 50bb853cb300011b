import Derived.Deep.CutBlock
import Derived.Test.YtmloadclmjcbbaaGreatDoorRak
open Go.Lib (hid)
set_option linter.unusedSimpArgs false
namespace Go.Proofs.YtmloadclmjcbbaaGreatDoor.Mu
open Go Go.RowKit Go.Shelf
attribute [local go_sem] Oper.semAt_some
set_option linter.unusedVariables false
set_option maxRecDepth 100000
theorem jN(s:LU)(w:World):Calls Tryz.prog 51 #[.string ⟨s.toArray⟩] w (qu (mtB (1,s,0)) w):=by
 have H:=hid fun W=>qbE s false W;go_enter Tryz.func51,Tryz.ntmps51;go_wp2_with fail;refine (H _).mono ?_;rintro e w1 ⟨rfl,hb1⟩;go_wp2_with fail;go_ret;exact⟨by rw[nm1];rfl,hb1⟩
theorem Qb(s:LU)(w:World):Calls Tryz.prog 52 #[.string ⟨s.toArray⟩] w (qu (mtB (2,s,0)) w):=by
 have H:=hid fun W=>qbE s true W;go_enter Tryz.func52,Tryz.ntmps52;go_wp2_with fail;refine (H _).mono ?_;rintro e w1 ⟨rfl,hb1⟩;go_wp2_with fail;go_ret;exact⟨by rw[nm1];rfl,hb1⟩
theorem qbB(s:LU)(hs:s.length<=4000000)(w:World):Calls Tryz.prog 73 #[.string ⟨s.toArray⟩] w (qu (mtB (4,s,0)) w):=by
 have H:=hid fun W=>Zt 4 ⟨s.toArray⟩ (by simpa [ByteArray.size] using hs) 0 0 0 0 W;go_enter Tryz.func73,Tryz.ntmps73;go_wp2_with fail;refine (H _).mono ?_;rintro e w1 ⟨rfl,hb1⟩;go_wp2_with fail;go_ret;exact⟨rfl,hb1⟩
theorem qd1(s:LU)(hs:s.length<=4000000)(w:World):Calls Tryz.prog 74 #[.string ⟨s.toArray⟩] w (qu (mtB (6,s,0)) w):=by
 have H:=hid fun W=>Zt 6 ⟨s.toArray⟩ (by simpa [ByteArray.size] using hs) 0 0 0 0 W;go_enter Tryz.func74,Tryz.ntmps74;go_wp2_with fail;refine (H _).mono ?_;rintro e w1 ⟨rfl,hb1⟩;go_wp2_with fail;go_ret;exact⟨rfl,hb1⟩
theorem qbA(n:Int)(w:World):Calls Tryz.prog 72 #[.int .i64 n] w (qu (mtB (3,[],n)) w):=by
 have H:=hid fun W=>Zt 3 ⟨#[]⟩ (by decide) n 0 0 0 W;go_enter Tryz.func72,Tryz.ntmps72;go_wp2_with fail;refine (H _).mono ?_;rintro e w1 ⟨rfl,hb1⟩;go_wp2_with fail;go_ret;exact⟨rfl,hb1⟩
theorem ZL(n:Int)(h0:0<=n)(h1:n<=9223372036854775807)(w:World):Calls Tryz.prog 78 #[.int .i64 n] w (StR (.string ⟨(putB 3 [] n).toArray⟩) w):=by
 have H:=hid fun W=>qan n h0 h1 W;clear h0 h1;go_enter Tryz.func78,Tryz.ntmps78;go_wp2_with fail;refine (H _).mono ?_;rintro e w1 ⟨rfl,hb1⟩;go_wp2_with fail;go_ret;exact⟨rfl,hb1⟩
theorem ZM(s:LU)(hs:s.length<=4000000)(w:World):Calls Tryz.prog 79 #[.string ⟨s.toArray⟩] w (StR (.string ⟨(putB 4 s 0).toArray⟩) w):=by
 have H:=hid fun W=>qd3 4 ⟨s.toArray⟩ (by simpa [ByteArray.size] using hs) 0 0 0 0 (fun h=>by cases h) W;go_enter Tryz.func79,Tryz.ntmps79;go_wp2_with fail;refine (H _).mono ?_;rintro e w1 ⟨rfl,hb1⟩;go_wp2_with fail;go_ret;exact⟨rfl,hb1⟩
theorem jw(R:BA)(hR:R.size<=1000000000)(w:World):Calls Tryz.prog 102 #[.string R] w (StR (.string (⟨#[40,32]⟩++R++⟨#[32,41]⟩)) w):=by
 have h1:¬ (9223372036854775807<2+R.size):=by omega
 have h2:¬ (9223372036854775807<2+R.size+2):=by omega
 go_enter Tryz.func102,Tryz.ntmps102;go_wp2_with fail;go_ret;exact⟨rfl,Bel.refl _⟩
theorem ZK(s:LU)(w:World):Calls Tryz.prog 75 #[.string ⟨s.toArray⟩] w (qu (btwB s) w):=by
 by_cases h:s∈btwL
 ·have e:btwB s=true:=by simp[btwB,h]
  rw[e];clear e;simp only[btwL,List.mem_cons,List.not_mem_nil,or_false]at h;rcases h with rfl | rfl | rfl | rfl | rfl | rfl | rfl | rfl
  all_goals
   go_enter Tryz.func75,Tryz.ntmps75;go_wp2_with fail;go_ret;exact⟨rfl,Bel.refl _⟩
 ·have e:btwB s=false:=by simp[btwB,h]
  rw[e];simp only[btwL,List.mem_cons,List.not_mem_nil,or_false,not_or]at h;obtain⟨h1,h2,h3,h4,h5,h6,h7,h8⟩:=h;have f1:(s==[60])=false:=by simpa using h1
  have f2:(s==[61,61])=false:=by simpa using h2
  have f3:(s==[43,43])=false:=by simpa using h3
  have f4:(s==[43])=false:=by simpa using h4
  have f5:(s==[45])=false:=by simpa using h5
  have f6:(s==[42])=false:=by simpa using h6
  have f7:(s==[47])=false:=by simpa using h7
  have f8:(s==[37])=false:=by simpa using h8
  clear h1 h2 h3 h4 h5 h6 h7 h8 e;go_enter Tryz.func75,Tryz.ntmps75;go_wp2_with fail;go_ret;exact⟨rfl,Bel.refl _⟩
theorem jI{w:World}{A:OA}{len cap:Nat}{f:Tr}(h:KidsTr w (OldT w) .ex A len cap f){j:Nat}(hj:j<len):∃ b o k s n p A' c' B' d' kids arms,A=some ⟨b,o,none⟩/\b<w.heap.size/\f.nth j=.nod k s n p kids arms .nil/\KidsTr w (OldT w) .ex A' kids.len c' kids/\KidsTr w (OldT w) .arms B' arms.len d' arms ∧
  w.cell? ⟨b,o+j*8,none⟩=some (.int .u8 k)/\w.cell? ⟨b,o+j*8+1,none⟩=some (.string ⟨s.toArray⟩)/\w.cell? ⟨b,o+j*8+2,none⟩=some (.int .i64 n)/\w.cell? ⟨b,o+j*8+3,none⟩=some (.int .i64 p.a)/\w.cell? ⟨b,o+j*8+4,none⟩=some (.int .i64 p.l)/\w.cell? ⟨b,o+j*8+5,none⟩=some (.int .i64 p.c)/\w.cell? ⟨b,o+j*8+6,none⟩=some (.slice A' kids.len c')/\w.cell? ⟨b,o+j*8+7,none⟩=some (.slice B' arms.len d'):=by
 obtain⟨b,o,e,hb,hf⟩:=h.2.2 (by omega);obtain⟨k,s,n,p,kids,arms,en,⟨a0,a1,a2,a3,a4,a5⟩,⟨A',c',a6,hc,hk⟩,hx,_⟩:=TrAt.nod_at (by intro e;cases e) f j b o hf (by rw[<- h.1];exact hj);rcases hx with ⟨_,B',d',a7,hd,ha⟩ | ⟨e | e,_⟩
 ·exact⟨b,o,k,s,n,p,A',c',B',d',kids,arms,e,hb,en,⟨rfl,hc,hk⟩,⟨rfl,hd,ha⟩,a0,a1,a2,a3,a4,a5,a6,a7⟩
 ·cases e
 ·cases e
theorem qal{w:World}{sh:Sh}(hs:sh=.pat∨sh=.ty){A:OA}{len cap:Nat}{f:Tr}(h:KidsTr w (OldT w) sh A len cap f){j:Nat}(hj:j<len):∃ b o k s n p A' c' kids,A=some ⟨b,o,none⟩/\b<w.heap.size/\f.nth j=.nod k s n p kids .nil .nil/\KidsTr w (OldT w) sh A' kids.len c' kids ∧
  w.cell? ⟨b,o+j*7,none⟩=some (.int .u8 k)/\w.cell? ⟨b,o+j*7+1,none⟩=some (.string ⟨s.toArray⟩)/\w.cell? ⟨b,o+j*7+2,none⟩=some (.int sh.kd n)/\w.cell? ⟨b,o+j*7+3,none⟩=some (.int .i64 p.a)/\w.cell? ⟨b,o+j*7+4,none⟩=some (.int .i64 p.l)/\w.cell? ⟨b,o+j*7+5,none⟩=some (.int .i64 p.c)/\w.cell? ⟨b,o+j*7+6,none⟩=some (.slice A' kids.len c'):=by
 obtain⟨b,o,e,hb,hf⟩:=h.2.2 (by omega);obtain⟨k,s,n,p,kids,arms,en,hd,hkk,hx,_⟩:=TrAt.nod_at (by rintro rfl;rcases hs with h | h <;> cases h) f j b o hf (by rw[<- h.1];exact hj);have hz:sh.sz=7:=by rcases hs with rfl | rfl <;> rfl
 rw[hz]at hd hkk;obtain⟨a0,a1,a2,a3,a4,a5⟩:=hd;obtain⟨A',c',a6,hc,hk⟩:=hkk;have ha:arms=.nil:=by
  rcases hx with ⟨e,_⟩ | ⟨_,e⟩
  ·subst e;rcases hs with h | h <;> cases h
  ·exact Tr.len_nil _ e
 subst ha;exact⟨b,o,k,s,n,p,A',c',kids,e,hb,en,⟨rfl,hc,hk⟩,a0,a1,a2,a3,a4,a5,a6⟩
theorem qeo{w:World}{A:OA}{len cap:Nat}{f:Tr}(h:KidsTr w (OldT w) .arms A len cap f){j:Nat}(hj:j<len):∃ b o k s n p A' c' kids k' s' n' p' B' d' E' e' kx ax,A=some ⟨b,o,none⟩/\b<w.heap.size/\f.nth j=.arm k s n p kids (.nod k' s' n' p' kx ax .nil) .nil/\KidsTr w (OldT w) .pat A' kids.len c' kids/\KidsTr w (OldT w) .ex B' kx.len d' kx/\KidsTr w (OldT w) .arms E' ax.len e' ax ∧
  w.cell? ⟨b,o+j*15,none⟩=some (.int .u8 k)/\w.cell? ⟨b,o+j*15+1,none⟩=some (.string ⟨s.toArray⟩)/\w.cell? ⟨b,o+j*15+2,none⟩=some (.int .i64 n)/\w.cell? ⟨b,o+j*15+3,none⟩=some (.int .i64 p.a)/\w.cell? ⟨b,o+j*15+4,none⟩=some (.int .i64 p.l)/\w.cell? ⟨b,o+j*15+5,none⟩=some (.int .i64 p.c)/\w.cell? ⟨b,o+j*15+6,none⟩=some (.slice A' kids.len c') ∧
  w.cell? ⟨b,o+j*15+7,none⟩=some (.int .u8 k')/\w.cell? ⟨b,o+j*15+8,none⟩=some (.string ⟨s'.toArray⟩)/\w.cell? ⟨b,o+j*15+9,none⟩=some (.int .i64 n')/\w.cell? ⟨b,o+j*15+10,none⟩=some (.int .i64 p'.a)/\w.cell? ⟨b,o+j*15+11,none⟩=some (.int .i64 p'.l)/\w.cell? ⟨b,o+j*15+12,none⟩=some (.int .i64 p'.c)/\w.cell? ⟨b,o+j*15+13,none⟩=some (.slice B' kx.len d')/\w.cell? ⟨b,o+j*15+14,none⟩=some (.slice E' ax.len e'):=by
 obtain⟨b,o,e,hb,hf⟩:=h.2.2 (by omega);obtain⟨k,s,n,p,kids,f',en,_,⟨a0,a1,a2,a3,a4,a5⟩,⟨A',c',a6,hc,hk⟩,hone,hex,_⟩:=TrAt.arm_at f j b o hf (by rw[<- h.1];exact hj);obtain⟨k',s',n',p',kx,ax,rfl⟩:=Tr.single (by intro e;cases e) f' hone hex;obtain⟨⟨b0,b1,b2,b3,b4,b5⟩,⟨B',d',b6,hcx,hkx⟩,hax,_⟩:=hex;rcases hax with ⟨_,E',e',b7,hce,hke⟩ | ⟨e | e,_⟩
 ·exact⟨b,o,k,s,n,p,A',c',kids,k',s',n',p',B',d',E',e',kx,ax,e,hb,en,⟨rfl,hc,hk⟩,⟨rfl,hcx,hkx⟩,⟨rfl,hce,hke⟩,a0,a1,a2,a3,a4,a5,a6,b0,b1,b2,b3,b4,b5,b6,b7⟩
 ·cases e
 ·cases e
set_option maxHeartbeats 8000000
theorem Tr.nth_wt:∀ (f:Tr) (i:Nat),(f.nth i).wt<=f.wt
 | .nil,_=>lR _
 | .nod _ s _ _ a b r,0=>by simp only[Tr.nth,Tr.wt];omega
 | .arm _ s _ _ a b r,0=>by simp only[Tr.nth,Tr.wt];omega
 | .nod _ s _ _ a b r,i+1=>by have:=Tr.nth_wt r i;simp only[Tr.nth,Tr.wt];omega
 | .arm _ s _ _ a b r,i+1=>by have:=Tr.nth_wt r i;simp only[Tr.nth,Tr.wt];omega
theorem Tr.dropN_arm{k:Int}{s:LU}{n:Int}{p:Pl}{kids e:Tr}:∀ (f:Tr) (i:Nat),f.nth i=.arm k s n p kids e .nil->f.dropN i=.arm k s n p kids e (f.dropN (i+1))
 | .nil,i,h=>by cases i <;> simp[Tr.nth]at h
 | .nod _ _ _ _ _ _ r,0,h=>by simp[Tr.nth]at h
 | .arm _ _ _ _ _ _ r,0,h=>by
  simp only[Tr.nth,Tr.arm.injEq]at h;obtain⟨rfl,rfl,rfl,rfl,rfl,rfl,_⟩:=h;cases r <;> rfl
 | .nod _ _ _ _ _ _ r,i+1,h=>Tr.dropN_arm r i h
 | .arm _ _ _ _ _ _ r,i+1,h=>Tr.dropN_arm r i h
theorem Tr.dropN_zero(f:Tr):f.dropN 0=f:=by cases f <;> rfl
theorem qg4{c:Int}{s:LU}{n:Int}{l:Nat}:keepB 0 c s n l=(decide (c = -1∨c=(l:Int))&&(decide (s=[])&&decide (n=0))):=by
 unfold keepB;by_cases h1:c = -1 <;> by_cases h2:c=(l:Int) <;> simp[h1,h2]
 all_goals (subst h1;simp_all)
theorem Jq{t c:Int}(ht:t≠0){s:LU}{n:Int}{l:Nat}:keepB t c s n l=(decide (c = -1∨c=(l:Int))&&mtB (t,s,n)):=by
 unfold keepB;by_cases h1:c = -1 <;> by_cases h2:c=(l:Int) <;> simp[h1,h2,ht]
 all_goals (subst h1;simp_all)
def okP(k n:Int)(l:Nat):Bool:=(decide (n=0) || decide (k=3))&&(decide (l=0) || decide (k=5))
noncomputable def swP (k:Int) (s:LU) (n:Int):Bool:=if k=1 then mtB (1,s,0) else if k=2 then decide (s=[]) else if k=3 then decide (s=[])&&mtB (3,[],n) else if k=4 then mtB (4,s,0) else if k=5 then mtB (2,s,0) else false
theorem zl(l:Nat):decide ((0:Int) = -1∨(0:Int)=(l:Int))=decide (l=0):=dDd.2 ⟨fun h=>by omega,fun h=>by omega⟩
theorem qaF(k:Int)(s:LU)(n:Int)(l:Nat):hPf k s n l=(okP k n l&&swP k s n):=by
 unfold hPf okP swP;by_cases e1:k=1
 ·subst e1
  simp only[paR,if_true];rw[Jq (by decide),zl,mt1];cases decide (l=0) <;> cases decide (n=0) <;> cases mtB (1,s,0) <;> rfl
 by_cases e2:k=2
 ·subst e2
  simp only[paR];show (true&&keepB 0 0 s n l)=_;rw[qg4,zl];cases decide (l=0) <;> cases decide (n=0) <;> cases decide (s=[]) <;> rfl
 by_cases e3:k=3
 ·subst e3
  show (true&&keepB 3 0 s n l)=_;rw[Jq (by decide),zl,mt3];show _=((decide (n=0) || true)&&(decide (l=0) || false)&&(decide (s=[])&&mtB (3,[],n)));cases decide (l=0) <;> cases decide (n=0) <;> cases decide (s=[]) <;> cases mtB (3,[],n) <;> rfl
 by_cases e4:k=4
 ·subst e4
  show (true&&keepB 4 0 s n l)=_;rw[Jq (by decide),zl,mt4];show _=((decide (n=0) || false)&&(decide (l=0) || false)&&mtB (4,s,0));cases decide (l=0) <;> cases decide (n=0) <;> cases mtB (4,s,0) <;> rfl
 by_cases e5:k=5
 ·subst e5
  show (true&&keepB 2 (-1) s n l)=_;rw[Jq (by decide),mt2];show _=((decide (n=0) || false)&&(decide (l=0) || true)&&mtB (2,s,0));cases decide (l=0) <;> cases decide (n=0) <;> cases mtB (2,s,0) <;> simp
 ·have:(paR k).2.2=false:=by simp[paR,e1,e2,e3,e4,e5]
  rw[this];simp[e1,e2,e3,e4,e5]
theorem qaH(k:Int)(s:LU)(m:Int)(l:Nat):hTf k s m l=if k=1 then mtB (1,s,0)&&decide (m=0)&&decide (l=0) else if k=2 then mtB (2,s,0)&&decide (m=0) else if k=3 then decide (s=[])&&mltB m&&decide (l=2) else false:=by
 unfold hTf;by_cases e1:k=1
 ·subst e1
  show (decide (m=0)&&(true&&keepB 1 0 s 0 l))=(mtB (1,s,0)&&decide (m=0)&&decide (l=0));rw[Jq (by decide),zl];cases decide (l=0) <;> cases decide (m=0) <;> cases mtB (1,s,0) <;> rfl
 by_cases e2:k=2
 ·subst e2
  show (decide (m=0)&&(true&&keepB 2 (-1) s 0 l))=(mtB (2,s,0)&&decide (m=0));rw[Jq (by decide)];cases decide (m=0) <;> cases mtB (2,s,0) <;> simp
 by_cases e3:k=3
 ·subst e3
  show (mltB m&&(true&&keepB 0 2 s 0 l))=(decide (s=[])&&mltB m&&decide (l=2));rw[qg4];have:decide ((2:Int) = -1∨(2:Int)=(l:Int))=decide (l=2):=dDd.2 ⟨fun h=>by omega,fun h=>by omega⟩;rw[this];cases decide (l=2) <;> cases mltB m <;> cases decide (s=[]) <;> rfl
 ·have:(tyR k).2.2=false:=by simp[tyR,e1,e2,e3]
  rw[this];simp[e1,e2,e3]
theorem jQ{w:World}{g:Nat}{t:TypeId}{x0 x1 x2 x3 x4 x5 x6:Value}(h:w.heap[g]?=some (.cells #[x0,x1,x2,x3,x4,x5,x6] t (0,0))) :
  w.cell? ⟨g,0,none⟩=some x0/\w.cell? ⟨g,1,none⟩=some x1/\w.cell? ⟨g,2,none⟩=some x2/\w.cell? ⟨g,6,none⟩=some x6:=by
 simp[World.cell?,h]
theorem qbz(N:Nat):∀ (k:Int) (s:LU) (n:Int) (p:Pl) (A:OA) (len cap:Nat) (kids:Tr) (w:World),kids.size=N->KidsTr w (OldT w) .pat A len cap kids->kids.size<=1000000->1+s.length / 64+kids.wt<=60000 →
  Calls Tryz.prog 76 #[.agg #[.int .u8 k,.string ⟨s.toArray⟩,n,p.a,p.l,p.c,.slice A len cap]] w (qu (hPf k s n len&&kids.mayP hPf) w):=by
 induction N using Nat.strongRecOn with
 | _ N ih=>
  intro k s n p A len cap kids w hN h hsz hwt;have H:=hid h;have IH:=hid ih;have HL:Hid (len=kids.len):=hid h.1;have HN:=hid hN;have HZ:=hid (And.intro hsz hwt);have hlen:len<=1000000:=by have:=h.1;have:=kids.len_le;omega
  have hs4:s.length<=4000000:=by omega
  have HF1:=hid fun W=>jN s W;have HF2:=hid fun W=>Qb s W;have HF3:=hid fun W=>qbB s hs4 W;have HF4:=hid fun W=>qbA n W;have HSP:=hid (qaF k s n len);have HSE:Hid ((s=[]/\(⟨s.toArray⟩:BA)=⟨#[]⟩)∨(s≠[]/\(s==[])=false)):=hid (by
   by_cases e:s=[]
   ·exact .inl ⟨e,by rw[e]⟩
   ·exact .inr ⟨e,by simpa using e⟩)
  obtain⟨R,hR⟩:=nW (hPf k s n len&&kids.mayP hPf);rw[<- hR];have HR:=hid hR;clear h ih hN hsz hwt hs4 hR;go_enter Tryz.func76,Tryz.ntmps76;go_upto_region 1 with fail
  have q1:=blk1 w (.cells #[.int .u8 k,.string ⟨s.toArray⟩,n,p.a,p.l,p.c,.slice A len cap] 59);have hb1:Bel w (w.alloc (.cells #[.int .u8 k,.string ⟨s.toArray⟩,n,p.a,p.l,p.c,.slice A len cap] 59)):=(Bel.refl w).alloc _;obtain⟨w1,hw1⟩:=nW (w.alloc (.cells #[.int .u8 k,.string ⟨s.toArray⟩,n,p.a,p.l,p.c,.slice A len cap] 59));rw[<- hw1]at q1 hb1 ⊢;have HQ:=hid q1;have HB1:=hid hb1;clear q1 hb1 hw1;obtain⟨x0,x1,x2,x6⟩:=jQ HQ;go_cut [3] (fun v wx=>v=.bool (okP k n len)/\wx=w1)
  case first=>
   by_cases en:n=0 <;> by_cases e3:k=3 <;> by_cases el:len=0 <;> by_cases e5:k=5
   all_goals first | (exfalso;omega) | skip
   all_goals first | have qn:(n==0)=true:=by simpa using en | have qn:(n==0)=false:=by simpa using en
   all_goals first | have q3:(k==3)=true:=by simpa using e3 | have q3:(k==3)=false:=by simpa using e3
   all_goals first | have ql:((len:Int)==0)=true:=by simpa using el | have ql:((len:Int)==0)=false:=by simpa using el
   all_goals first | have q5:(k==5)=true:=by simpa using e5 | have q5:(k==5)=false:=by simpa using e5
   all_goals go_wp2_with fail
   all_goals go_meet
   all_goals exact⟨by simp[okP,en,e3,el,e5],rfl⟩
  case rest=>
   obtain⟨rfl,hwx⟩:=hcut;rw[hwx];clear hwx;obtain⟨b,hb⟩:=nW (okP k n len);rw[<- hb]at HSP ⊢;clear hb;go_upto_region 2 with fail
   rename ∀ (a:Act) (w:World),Code.wp _ (Code.block 0 _) _ a w->_=>hk0
   have HK0:=hid hk0;clear hk0;go_wp2_with fail;refine HK0 _ _ ?_;go_cut [3] (fun v wx=>v=.bool (b&&swP k s n)/\Hid (Bel w1 wx))
   case first=>
    by_cases e1:k=1
    case pos=>
     subst e1;cases b
     ·go_wp2_with fail
      go_meet;exact⟨rfl,hid (Bel.refl _)⟩
     ·go_wp2_with fail
      refine (HF1 _).mono ?_;rintro e w2 ⟨rfl,hb2⟩;go_wp2_with fail;go_meet;exact⟨rfl,hid hb2⟩
    have d1:(k==1)=false:=by simpa using e1
    by_cases e2:k=2
    case pos=>
     subst e2;rcases HSE.out with ⟨es,eS⟩ | ⟨es,eS⟩
     ·have eS2:(⟨s.toArray⟩:BA)=⟨#[]⟩:=eS
      subst es;cases b;all_goals go_wp2_with fail
      all_goals go_meet
      all_goals exact⟨rfl,hid (Bel.refl _)⟩
     ·have eV:swP 2 s n=false:=by simp[swP,es]
      cases b;all_goals go_wp2_with fail
      all_goals go_meet
      all_goals exact⟨by rw[eV];rfl,hid (Bel.refl _)⟩
    have d2:(k==2)=false:=by simpa using e2
    by_cases e3:k=3
    case pos=>
     subst e3;have eQ:swP 3 s n=(decide (s=[])&&mtB (3,[],n)):=rfl;rcases HSE.out with ⟨es,eS⟩ | ⟨es,eS⟩
     ·subst es
      cases b
      ·go_wp2_with fail
       go_meet;exact⟨rfl,hid (Bel.refl _)⟩
      ·go_wp2_with fail
       refine (HF4 _).mono ?_;rintro e w2 ⟨rfl,hb2⟩;go_wp2_with fail;go_meet;exact⟨by rw[eQ];rfl,hid hb2⟩
     ·have eV:swP 3 s n=false:=by rw[eQ];simp[es]
      cases b;all_goals go_wp2_with fail
      all_goals go_meet
      all_goals exact⟨by rw[eV];rfl,hid (Bel.refl _)⟩
    have d3:(k==3)=false:=by simpa using e3
    by_cases e4:k=4
    case pos=>
     subst e4;cases b
     ·go_wp2_with fail
      go_meet;exact⟨rfl,hid (Bel.refl _)⟩
     ·go_wp2_with fail
      refine (HF3 _).mono ?_;rintro e w2 ⟨rfl,hb2⟩;go_wp2_with fail;go_meet;exact⟨rfl,hid hb2⟩
    have d4:(k==4)=false:=by simpa using e4
    by_cases e5:k=5
    case pos=>
     subst e5;cases b
     ·go_wp2_with fail
      go_meet;exact⟨rfl,hid (Bel.refl _)⟩
     ·go_wp2_with fail
      refine (HF2 _).mono ?_;rintro e w2 ⟨rfl,hb2⟩;go_wp2_with fail;go_meet;exact⟨rfl,hid hb2⟩
    have d5:(k==5)=false:=by simpa using e5
    have eV:swP k s n=false:=by simp[swP,e1,e2,e3,e4,e5]
    go_wp2_with fail;go_meet;exact⟨by rw[eV,Bool.and_false],hid (Bel.refl _)⟩
   case rest=>
    obtain⟨rfl,HB2⟩:=hcut;have hR:=HR.out;rw[<- HSP.out];obtain⟨b2,hb2⟩:=nW (hPf k s n len);rw[<- hb2]at hR ⊢;have HR2:=hid hR;clear hR hb2 HR HSP HF1 HF2 HF3 HF4 HSE x0 x1 x2 x6;go_wp2_with fail;go_loopw [3,4] (fun v i wr=>∃ (j:Nat) (c:Bool),j<=len/\i=.int .i64 (j:Int)/\v=.bool c/\Hid (R=(c&&(kids.dropN j).mayP hPf))/\Hid (Bel w1 wr)) (fun _ i _=>len-(intOf i).toNat)
    case atStart=>exact⟨0,b2,zL _,rfl,rfl,hid (by rw[Tr.dropN_zero];exact HR2),HB2⟩
    case round=>
     obtain⟨j,c,hj,rfl,rfl,HRJ,HB⟩:=hrel;have hbx:=HB.blk HQ;obtain⟨x0,x1,x2,x6⟩:=jQ hbx;clear hbx;by_cases hlt:j<len
     ·cases c
      ·have hR0:R=false:=by rw[HRJ.out];rfl
       have HLT:=hid hlt;go_wp2_with fail;go_roundw
       case rel=>exact⟨j+1,false,HLT,by go_num,rfl,hid (by rw[hR0];rfl),HB⟩
       case measure=>exact mS HLT
      ·obtain⟨ub,uo,k',s',n',p',A',c',kids',rfl,hub,en,hk',a0,a1,a2,a3,a4,a5,a6⟩:=qal (.inl rfl) (H.bel (HB1.on HB)) hlt
       have hsn:=Tr.nth_size kids j;have hwn:=Tr.nth_wt kids j;rw[en]at hsn hwn;simp only[Tr.size,Tr.wt]at hsn hwn;have HC:Hid (Calls Tryz.prog 76 #[.agg #[.int .u8 k',.string ⟨s'.toArray⟩,n',p'.a,p'.l,p'.c,.slice A' kids'.len c']] wr (qu (hPf k' s' n' kids'.len&&kids'.mayP hPf) wr)):=hid (by
        have hz:=HZ.out;have hn:=HN.out;exact IH.out kids'.size (by omega) k' s' n' p' A' kids'.len c' kids' wr rfl hk' (by omega) (by omega))
       have HRN:Hid (R=((hPf k' s' n' kids'.len&&kids'.mayP hPf)&&(kids.dropN (j+1)).mayP hPf)):=hid (by rw[HRJ.out,Tr.dropN_nod kids j en];rfl);obtain⟨q,hq⟩:=nW (hPf k' s' n' kids'.len&&kids'.mayP hPf);rw[<- hq]at HC HRN;obtain⟨l1,hl1⟩:=nW kids'.len;rw[<- hl1]at HC a6;have i1:(0:Int)<=(j:Int):=by omega
       have i2:(j:Int)<(len:Int):=by omega
       have HLT:=hid hlt;clear hub en hk' hsn hwn hq hl1;go_wp2_with fail;refine HC.out.mono ?_;rintro e w3 ⟨rfl,hb3⟩;have HB3:=hid (HB.on hb3);clear hb3 a0 a1 a2 a3 a4 a5 a6 x0 x1 x2 x6;go_wp2_with fail;go_roundw
       case rel=>exact⟨j+1,q,HLT,by go_num,rfl,HRN,HB3⟩
       case measure=>exact mS HLT
     ·obtain rfl:j=len:=by omega
      have hRc:R=c:=by rw[HRJ.out,Tr.dropN_all kids j (by rw[HL.out];exact lR _)];simp[Tr.mayP]
      go_wp2_with fail;go_ret;exact⟨by rw[hRc];rfl,HB1.on HB⟩
def strS(F:List Tn):BA:=⟨(sfx F).tail.toArray⟩
theorem jy{F:List Tn}{R:BA}(h:32::R.data.toList=sfx F):R=strS F:=by
 unfold strS;rw[<- h];show R=⟨R.data.toList.toArray⟩;cases R;simp
theorem Zz{t:Tn}{F:List Tn}:32::(strS (t::F)).data.toList=sfx (t::F):=by
 unfold strS;rw[qp];simp
theorem Jw(k:Int)(s:LU)(n:Int)(K:List Tn):32::(strS (qr k s n K)).data.toList=sfx (qr k s n K):=by
 unfold qr;split
 ·exact Zz
 ·exact Zz
theorem zB{R:BA}{L:LU}(h:32::R.data.toList=L):R.size+1=L.length:=by
 rw[<- h,lC,zD]
theorem qeU:∀ s:LU,s.length<=(s.flatMap escB).length
 | []=>lR _
 | u::s=>by
  rw[List.flatMap_cons,lA,lC];have:1<=(escB u).length:=by
   unfold escB;repeat' split
   all_goals simp
  have:=qeU s;omega
theorem qgW{k:Int}{s:LU}{n:Int}{l:Nat}(h:hPf k s n l=true):(k=1/\l=0/\n=0)∨(k=2/\l=0)∨(k=3/\l=0/\0<=n/\n<=9223372036854775807)∨(k=4/\l=0)∨(k=5/\n=0):=by
 rw[qaF]at h;simp only[okP,swP,bA,Bool.or_eq_true,pE]at h;obtain⟨⟨h1,h2⟩,h3⟩:=h;by_cases e1:k=1
 ·exact .inl ⟨e1,by omega,by omega⟩
 by_cases e2:k=2
 ·exact .inr (.inl ⟨e2,by omega⟩)
 by_cases e3:k=3
 ·rw[if_neg e1,if_neg e2,if_pos e3]at h3
  simp only[bA,pE]at h3;have h4:qh (3,[],n):=by simpa [mtB] using h3.2
  have h5:0<=n/\n<=1099511627776:=by
   rcases h4 with h | h | h | h | h | h <;> simp at h
   exact h
  exact .inr (.inr (.inl ⟨e3,by omega,h5.1,by omega⟩))
 by_cases e4:k=4
 ·exact .inr (.inr (.inr (.inl ⟨e4,by omega⟩)))
 by_cases e5:k=5
 ·exact .inr (.inr (.inr (.inr ⟨e5,by omega⟩)))
 ·rw[if_neg e1,if_neg e2,if_neg e3,if_neg e4,if_neg e5]at h3
  cases h3
theorem qaV{k:Int}{s:LU}{n:Int}(h3:k≠3)(h4:k≠4):putB k s n=s:=by
 unfold putB;rw[if_neg h3,if_neg h4]
theorem Tr.nth_mayP(hP:Int->LU->Int->Nat->Bool):∀ (f:Tr) (i:Nat),f.isNods->f.mayP hP=true->(f.nth i).mayP hP=true
 | .nil,_,_,h=>h
 | .nod _ _ _ _ a b r,0,_,h=>by simp only[Tr.mayP,bA]at h;simp only[Tr.nth,Tr.mayP,bA];exact⟨h.1,trivial⟩
 | .arm ..,_,h,_=>h.elim
 | .nod _ _ _ _ a b r,i+1,hn,h=>by simp only[Tr.mayP,bA]at h;exact Tr.nth_mayP hP r i hn h.2
theorem qfN(N:Nat):∀ (k:Int) (s:LU) (n:Int) (p:Pl) (A:OA) (len cap:Nat) (kids:Tr) (w:World),kids.size=N->KidsTr w (OldT w) .pat A len cap kids->kids.size<=4000000->hPf k s n len=true->kids.mayP hPf=true->(sfx (qr k s n kids.patK)).length<=4000000 →
  Calls Tryz.prog 81 #[.agg #[.int .u8 k,.string ⟨s.toArray⟩,n,p.a,p.l,p.c,.slice A len cap]] w (StR (.string (strS (qr k s n kids.patK))) w):=by
 induction N using Nat.strongRecOn with
 | _ N ih=>
  intro k s n p A len cap kids w hN h hsz hm hmk hz;have H:=hid h;have IH:=hid ih;have HL:Hid (len=kids.len):=hid h.1;have HN:=hid hN;have HZ:=hid (And.intro hsz hz);have HMK:=hid hmk;have hlen:len<=4000000:=by have:=h.1;have:=kids.len_le;omega
  obtain⟨T,hT⟩:=nW (strS (qr k s n kids.patK));rw[<- hT];have HT:=hid hT;clear h ih hN hsz hmk hT;rcases qgW hm with ⟨e1,h1,h2⟩ | ⟨rfl,h1⟩ | ⟨rfl,h1,h2,h3⟩ | ⟨rfl,h1⟩ | ⟨e1,h1⟩
  case inr.inl=>
   have hTT:T=⟨#[95]⟩:=by rw[HT.out];rfl
   subst hTT;clear hm hz h1;go_enter Tryz.func81,Tryz.ntmps81;go_wp2_with fail;go_ret;exact⟨rfl,(Bel.refl w).alloc _⟩
  case inr.inr.inl=>
   have hTT:T=⟨(putB 3 [] n).toArray⟩:=by
    rw[HT.out];have:kids=.nil:=Tr.len_nil _ (by rw[<- HL.out];exact h1);subst this;show (⟨(sfx [tk0 3 s n]).tail.toArray⟩:BA)=_;rw[qp,qk,aNn];rfl
   have HF:=hid fun W=>ZL n h2 h3 W;rw[<- hTT]at HF;clear hm hz h1 h2 h3 hTT;go_enter Tryz.func81,Tryz.ntmps81;go_wp2_with fail;refine (HF _).mono ?_;rintro e w2 ⟨rfl,hb2⟩;go_wp2_with fail;go_ret;exact⟨rfl,((Bel.refl w).alloc _).on hb2⟩
  case inr.inr.inr.inl=>
   have hnil:kids=.nil:=Tr.len_nil _ (by rw[<- HL.out];exact h1);have hTT:T=⟨(putB 4 s 0).toArray⟩:=by
    rw[HT.out,hnil];show (⟨(sfx [tk0 4 s n]).tail.toArray⟩:BA)=_;rw[qp,qk,aNn];rfl
   have hs4:s.length<=4000000:=by
    have h5:(sfx (qr 4 s n kids.patK)).length<=4000000:=hz;rw[hnil]at h5;have h6:sfx (qr 4 s n Tr.nil.patK)=32::putB 4 s n:=by
     show sfx [tk0 4 s n]=_;rw[qp,qk,aNn];rfl
    rw[h6]at h5;have h7:s.length<=(putB 4 s n).length:=by
     show s.length<=(34::(s.flatMap escB++[34])).length;have:=qeU s;simp only[lC,lA,lNn];omega
    simp only[lC]at h5;omega
   have HF:=hid fun W=>ZM s hs4 W;rw[<- hTT]at HF;clear hm hz h1 hTT hnil hs4;go_enter Tryz.func81,Tryz.ntmps81;go_wp2_with fail;refine (HF _).mono ?_;rintro e w2 ⟨rfl,hb2⟩;go_wp2_with fail;go_ret;exact⟨rfl,((Bel.refl w).alloc _).on hb2⟩
  all_goals
   have d2:(k==2)=false:=by simp;omega
   have d3:(k==3)=false:=by simp;omega
   have d4:(k==4)=false:=by simp;omega
   have hpo:sfx (qr k s n kids.patK)=32::s++sfx kids.patK:=by
    unfold qr;rw[if_neg (by omega),qp];show 32::putB (paR k).1 s n++_=_;rw[qaV]
    ·rcases (show k=1∨k=5 by omega) with h | h <;> subst h <;> decide
    ·rcases (show k=1∨k=5 by omega) with h | h <;> subst h <;> decide
   have hTL:32::T.data.toList=32::s++sfx kids.patK:=by
    rw[HT.out,Jw,hpo]
   have hTz:T.size<=4000000:=by
    have h5:=zB (R:=T) hTL;have h6:=hz;rw[hpo]at h6;omega
   have HTL:=hid hTL;have HTZ:=hid hTz;clear hm hz h1 hTL hTz hpo e1;try clear h2
   go_enter Tryz.func81,Tryz.ntmps81;go_upto_region 8 with fail
   obtain⟨w1,hw1⟩:=nW (w.alloc (.cells #[.int .u8 k,.string ⟨s.toArray⟩,n,p.a,p.l,p.c,.slice A len cap] 59));have q1:=blk1 w (.cells #[.int .u8 k,.string ⟨s.toArray⟩,n,p.a,p.l,p.c,.slice A len cap] 59);have hb1:Bel w (w.alloc (.cells #[.int .u8 k,.string ⟨s.toArray⟩,n,p.a,p.l,p.c,.slice A len cap] 59)):=(Bel.refl w).alloc _;rw[<- hw1]at q1 hb1 ⊢;have HQ:=hid q1;have HB1:=hid hb1;clear q1 hb1 hw1;obtain⟨x0,x1,x2,x6⟩:=jQ HQ;go_wp2_with fail;clear x0 x1 x2 x6;go_loopw [3,4] (fun v i wr=>∃ (j:Nat) (S:BA),j<=len/\i=.int .i64 (j:Int)/\v=.string S/\Hid (32::T.data.toList=32::S.data.toList++sfx ((kids.dropN j).patK))/\Hid (Bel w1 wr)) (fun _ i _=>len-(intOf i).toNat)
   case atStart=>exact⟨0,⟨s.toArray⟩,zL _,rfl,rfl,hid (by rw[Tr.dropN_zero];exact HTL),hid (Bel.refl _)⟩
   case round=>
    obtain⟨j,S,hj,rfl,rfl,HRJ,HB⟩:=hrel;obtain⟨x0,x1,x2,x6⟩:=jQ (HB.blk HQ);by_cases hlt:j<len
    ·obtain⟨ub,uo,k',s',n',p',A',c',kids',rfl,hub,en,hk',a0,a1,a2,a3,a4,a5,a6⟩:=qal (.inl rfl) (H.bel (HB1.on HB)) hlt
     have hsn:=Tr.nth_size kids j;have hmn:=Tr.nth_mayP hPf kids j (H.out.isNods (by intro e;cases e)) HMK;rw[en]at hsn hmn;simp only[Tr.size,Tr.mayP,Bool.and_true,bA]at hsn hmn;have hpk:sfx ((kids.dropN j).patK)=sfx (brkL (alnP k' kids'.len) (qr k' s' n' kids'.patK))++sfx ((kids.dropN (j+1)).patK):=by
      rw[Tr.dropN_nod kids j en,qaT,qz]
     have hrj:=HRJ.out;rw[hpk]at hrj;have hlen2:=congrArg List.length hrj;simp only[lA,lC,zD]at hlen2;have hbr:(sfx (qr k' s' n' kids'.patK)).length<=(sfx (brkL (alnP k' kids'.len) (qr k' s' n' kids'.patK))).length:=by
      rw[jX];split
      ·exact lR _
      ·simp only[lA];omega
     have hSz:S.size<=4000000:=by have:=HTZ.out;omega
     have hOz:(sfx (qr k' s' n' kids'.patK)).length<=4000000:=by have:=HTZ.out;omega
     have HC:Hid (Calls Tryz.prog 81 #[.agg #[.int .u8 k',.string ⟨s'.toArray⟩,n',p'.a,p'.l,p'.c,.slice A' kids'.len c']] wr (StR (.string (strS (qr k' s' n' kids'.patK))) wr)):=hid (by
      have hz:=HZ.out;have hn:=HN.out;exact IH.out kids'.size (by omega) k' s' n' p' A' kids'.len c' kids' wr rfl hk' (by omega) hmn.1 hmn.2 hOz)
     obtain⟨P,hP⟩:=nW (strS (qr k' s' n' kids'.patK));have hPL:32::P.data.toList=sfx (qr k' s' n' kids'.patK):=by rw[hP,Jw]
     have hPz:P.size<=4000000:=by have:=zB hPL;omega
     rw[<- hP]at HC;have hal:(alnP k' kids'.len=true/\kids'.len=0)∨(alnP k' kids'.len=false/\0<kids'.len):=by
      rcases zPp kids'.len with e | e
      ·exact .inl ⟨by simp[alnP,e],e⟩
      ·refine .inr ⟨?_,e⟩
       have h9:=hmn.1;rw[qaF]at h9;simp only[okP,bA,Bool.or_eq_true,pE]at h9;have:k'=5:=by omega
       simp[alnP,this];omega
     have HAL:=hid hal;obtain⟨l1,hl1⟩:=nW kids'.len;rw[<- hl1]at HC a6 HAL;have HRK:Hid (32::T.data.toList=32::S.data.toList++(sfx (brkL (alnP k' l1) (qr k' s' n' kids'.patK))++sfx ((kids.dropN (j+1)).patK))):=hid (by rw[hl1];exact hrj);have HPL:=hid hPL;have i1:(0:Int)<=(j:Int):=by omega
     have i2:(j:Int)<(len:Int):=by omega
     have HLT:=hid hlt;have HUB:=hid hub;have HA6:=hid a6;clear hub en hk' hsn hmn hpk hrj hlen2 hbr hOz hP hPL hal hl1;go_wp2_with fail;refine HC.out.mono ?_;rintro e w3 ⟨rfl,hb3⟩;have HB3:=hid (HB.on hb3);have b6:w3.cell? ⟨ub,uo+j*7+6,none⟩=some (.slice A' l1 c'):=(hb3.cell (p:=⟨ub,uo+j*7+6,none⟩) HUB).trans HA6;obtain⟨y0,y1,y2,y6⟩:=jQ (HB3.blk HQ);clear hb3 a0 a1 a2 a3 a4 a5 a6 x0 x1 x2 x6 HC;have hc1:¬ (9223372036854775807<S.size+1):=by omega
     rcases HAL.out with ⟨f1,f2⟩ | ⟨f1,f2⟩
     ·subst f2
      have hc2:¬ (9223372036854775807<S.size+1+P.size):=by omega
      have HF:=hid f1;clear f1;go_wp2_with fail;go_roundw
      case rel=>
       refine⟨j+1,S++⟨#[32]⟩++P,HLT,by go_num,rfl,hid ?_,HB3⟩;rw[HRK.out,HF.out,jX,if_pos rfl,<- HPL.out,qj,qj];simp
      case measure=>exact mS HLT
     ·have hq:decide ((0:Int)<(l1:Int))=true:=dT (by omega)
      have hq2:decide (0<l1)=true:=dT f2;have HF:=hid f1;have HBR:=hid fun W=>jw P (by omega) W;have hPB:(⟨#[40,32]⟩++P++⟨#[32,41]⟩:BA).size=2+P.size+2:=by rw[ByteArray.size_append,ByteArray.size_append];rfl
      obtain⟨PB,hpb⟩:=nW (⟨#[40,32]⟩++P++⟨#[32,41]⟩:BA);rw[<- hpb]at HBR hPB;have HPB:=hid hpb;have hc2:¬ (9223372036854775807<S.size+1+PB.size):=by omega
      clear f1 f2 hpb;go_wp2_with fail;refine (HBR _).mono ?_;rintro e w4 ⟨rfl,hb4⟩;have HB4:=hid (HB3.on hb4);clear hb4 y0 y1 y2 y6 b6;go_wp2_with fail;go_roundw
      case rel=>
       refine⟨j+1,S++⟨#[32]⟩++PB,HLT,by go_num,rfl,hid ?_,HB4⟩;rw[HRK.out,HF.out,jX,if_neg (by simp),<- HPL.out,qj,qj,HPB.out,qj,qj];simp
      case measure=>exact mS HLT
    ·obtain rfl:j=len:=by omega
     have hfin:S=T:=by
      have h5:=HRJ.out;rw[Tr.dropN_all kids j (by rw[HL.out];exact lR _)]at h5;have h6:T.data.toList=S.data.toList:=by
       have h7:(32::T.data.toList)=32::S.data.toList:=by rw[h5];exact aNn _
       injection h7
      cases S;cases T;simp only[Array.toList_inj]at h6;simp only[ByteArray.mk.injEq];exact h6.symm
     subst hfin;go_wp2_with fail;go_ret;exact⟨rfl,HB1.on HB⟩
def arw(m:Int):BA:=if m=1 then ⟨#[45,49,62]⟩ else if m=2 then ⟨#[45,63,62]⟩ else ⟨#[45,42,62]⟩
abbrev qB:= "ref.go:336"
def regTy:List Oper:=[
 ⟨some 8,.fieldAddr 43 (.tmp 1) 4,0,qB,#[],none⟩,
 ⟨some 9,.load 41 (.tmp 8),41,qB,#[⟨0,.data⟩],none⟩,
 ⟨some 10,.indexAddr 41 (.tmp 9) (.const (Value.int IntKind.i64 0)),0,qB,#[⟨1,.data⟩],none⟩,
 ⟨some 11,.load 43 (.tmp 10),43,qB,#[⟨2,.data⟩],none⟩,
 ⟨some 12,.call ⟨.value (.func 57),#[.tmp 11],#[43]⟩,9,qB,#[⟨3,.data⟩],none⟩,
 ⟨some 13,.binOp .add 9 (.tmp 12) (.const (Value.string { data:=#[32] })) 9,9,qB,#[⟨4,.data⟩],none⟩,
 ⟨some 14,.buildSlice 44 3 #[(0,.const (Value.string { data:=#[45,49,62] })),(1,.const (Value.string { data:=#[45,63,62] })),(2,.const (Value.string { data:=#[45,42,62] }))],44,qB,#[],none⟩,
 ⟨some 15,.fieldAddr 43 (.tmp 1) 2,0,qB,#[],none⟩,
 ⟨some 16,.load 40 (.tmp 15),40,qB,#[⟨7,.data⟩],none⟩,
 ⟨some 17,.binOp .sub 40 (.tmp 16) (.const (Value.int IntKind.u8 1)) 40,40,qB,#[⟨8,.data⟩],none⟩,
 ⟨some 18,.indexAddr 44 (.tmp 14) (.tmp 17),0,qB,#[⟨6,.data⟩,⟨9,.data⟩],none⟩,
 ⟨some 19,.load 9 (.tmp 18),9,qB,#[⟨10,.data⟩],none⟩,
 ⟨some 20,.binOp .add 9 (.tmp 13) (.tmp 19) 9,9,qB,#[⟨5,.data⟩,⟨11,.data⟩],none⟩,
 ⟨some 21,.binOp .add 9 (.tmp 20) (.const (Value.string { data:=#[32] })) 9,9,qB,#[⟨12,.data⟩],none⟩,
 ⟨some 22,.fieldAddr 43 (.tmp 1) 4,0,qB,#[],none⟩,
 ⟨some 23,.load 41 (.tmp 22),41,qB,#[⟨14,.data⟩],none⟩,
 ⟨some 24,.indexAddr 41 (.tmp 23) (.const (Value.int IntKind.i64 1)),0,qB,#[⟨15,.data⟩],none⟩,
 ⟨some 25,.load 43 (.tmp 24),43,qB,#[⟨16,.data⟩],none⟩,
 ⟨some 26,.call ⟨.value (.func 57),#[.tmp 25],#[43]⟩,9,qB,#[⟨17,.data⟩,⟨4,.chain⟩],none⟩,
 ⟨some 27,.binOp .add 9 (.tmp 21) (.tmp 26) 9,9,qB,#[⟨13,.data⟩,⟨18,.data⟩],none⟩,
 ⟨some 2,.assign (.tmp 27),9,qB,#[⟨19,.data⟩,⟨18,.chain⟩,⟨0,.phase⟩,⟨1,.phase⟩,⟨2,.phase⟩,⟨3,.phase⟩,⟨4,.phase⟩,⟨5,.phase⟩,⟨6,.phase⟩,⟨7,.phase⟩,⟨8,.phase⟩,⟨9,.phase⟩,⟨10,.phase⟩,⟨11,.phase⟩,⟨12,.phase⟩,⟨13,.phase⟩,⟨14,.phase⟩,⟨15,.phase⟩,⟨16,.phase⟩,⟨17,.phase⟩,⟨18,.phase⟩,⟨19,.phase⟩],none⟩]
theorem qfD{id:Nat}(b1:Nat)(S:BA)(m:Int)(p:Pl)(cap ub uo:Nat)(k1 k2 m1 m2:Int)(S1 S2:BA)(pa pb:Pl)(A1 A2:OA)(l1 c1 l2 c2:Nat)(P1 P2:BA)(a0:Act)(w:World)(hx:w.drew.heap[b1]?=some (.cells #[.int .u8 3,S,.int .u8 m,p.a,p.l,p.c,.slice (some ⟨ub,uo,none⟩) 2 cap] 43 (0,0)))(hm:m=1∨m=2∨m=3)(h1:ub<w.drew.heap.size)(hz1:P1.size<=4000000)(hz2:P2.size<=4000000)(fa0:w.drew.cell? ⟨ub,uo,none⟩=some (.int .u8 k1))(fa1:w.drew.cell? ⟨ub,uo+1,none⟩=some (.string S1))(fa2:w.drew.cell? ⟨ub,uo+2,none⟩=some (.int .u8 m1))(fa3:w.drew.cell? ⟨ub,uo+3,none⟩=some (.int .i64 pa.a))(fa4:w.drew.cell? ⟨ub,uo+4,none⟩=some (.int .i64 pa.l))(fa5:w.drew.cell? ⟨ub,uo+5,none⟩=some (.int .i64 pa.c))(fa6:w.drew.cell? ⟨ub,uo+6,none⟩=some (.slice A1 l1 c1))(fa7:w.drew.cell? ⟨ub,uo+7,none⟩=some (.int .u8 k2))(fa8:w.drew.cell? ⟨ub,uo+8,none⟩=some (.string S2))(fa9:w.drew.cell? ⟨ub,uo+9,none⟩=some (.int .u8 m2))(fa10:w.drew.cell? ⟨ub,uo+10,none⟩=some (.int .i64 pb.a))(fa11:w.drew.cell? ⟨ub,uo+11,none⟩=some (.int .i64 pb.l))(fa12:w.drew.cell? ⟨ub,uo+12,none⟩=some (.int .i64 pb.c))(fa13:w.drew.cell? ⟨ub,uo+13,none⟩=some (.slice A2 l2 c2))(HC1:∀ W,Bel w.drew W->Calls Tryz.prog 57 #[.agg #[.int .u8 k1,S1,.int .u8 m1,pa.a,pa.l,pa.c,.slice A1 l1 c1]] W (StR (.string P1) W))(HC2:∀ W,Bel w.drew W->Calls Tryz.prog 57 #[.agg #[.int .u8 k2,S2,.int .u8 m2,pb.a,pb.l,pb.c,.slice A2 l2 c2]] W (StR (.string P2) W))(Q:Exit->Act->World->Prop)
  (hend:∀ (V:Nat->Value) (w':World),Bel w.drew w'->((V 19)=.string (P1++(⟨#[32]⟩:BA)++arw m++(⟨#[32]⟩:BA)++P2))->wpList Tryz.prog regTy.toArray Q (regTy.drop 20) (finP regTy 20 V a0) w') (hN:a0.tmps.size=47:=by kernel_rfl) (hp1:a0.eval (.tmp 1)=.pointer (some ⟨b1,0,none⟩):=by kernel_rfl) :
  (Code.region id regTy.toArray true).wp Tryz.prog Q a0 w:=by
 refine qW 20 47 a0 w (fun i v w=>match i with
  | 0=>v=.pointer (some ⟨b1,6,none⟩)
  | 1=>v=.slice (some ⟨ub,uo,none⟩) 2 cap
  | 2=>v=.pointer (some ⟨ub,uo,none⟩)
  | 3=>v=.agg #[.int .u8 k1,S1,.int .u8 m1,pa.a,pa.l,pa.c,.slice A1 l1 c1]
  | 4=>v=.string P1
  | 5=>v=.string (P1++(⟨#[32]⟩:BA))
  | 6=>∃ g,v=.slice (some ⟨g,0,none⟩) 3 3/\w.heap[g]?=some (.cells #[.string ⟨#[45,49,62]⟩,.string ⟨#[45,63,62]⟩,.string ⟨#[45,42,62]⟩] 9 (0,0))
  | 7=>v=.pointer (some ⟨b1,2,none⟩)
  | 8=>v=.int .u8 m
  | 9=>v=.int .u8 (m-1)
  | 10=>∃ g j,v=.pointer (some ⟨g,j,none⟩)/\w.cell? ⟨g,j,none⟩=some (.string (arw m))/\g<w.heap.size
  | 11=>v=.string (arw m)
  | 12=>v=.string (P1++(⟨#[32]⟩:BA)++arw m)
  | 13=>v=.string (P1++(⟨#[32]⟩:BA)++arw m++(⟨#[32]⟩:BA))
  | 14=>v=.pointer (some ⟨b1,6,none⟩)
  | 15=>v=.slice (some ⟨ub,uo,none⟩) 2 cap
  | 16=>v=.pointer (some ⟨ub,uo+7,none⟩)
  | 17=>v=.agg #[.int .u8 k2,S2,.int .u8 m2,pb.a,pb.l,pb.c,.slice A2 l2 c2]
  | 18=>v=.string P2
  | 19=>v=.string (P1++(⟨#[32]⟩:BA)++arw m++(⟨#[32]⟩:BA)++P2)
  | _=>True) (by kernel_rfl) (by kernel_rfl) hN (by
   intro i v w w' hi h hb
   match i,hi,h with
   | 6,_,h=>obtain⟨g,e,hc⟩:=h;exact⟨g,e,hb.blk hc⟩
   | 10,_,h=>obtain⟨g,j,e,hc,hl⟩:=h;exact⟨g,j,e,(hb.cells.1 _ _ hl).trans hc,lT hl hb.size⟩
   | 0,_,h | 1,_,h | 2,_,h | 3,_,h | 4,_,h | 5,_,h | 7,_,h | 8,_,h | 9,_,h | 11,_,h | 12,_,h | 13,_,h | 14,_,h | 15,_,h | 16,_,h | 17,_,h | 18,_,h | 19,_,h=>exact h
   | q+20,hi,_=>exact absurd hi (by omega)) ?_ ?_
 ·intro i' o hi' ho a w1 V hbel hd hpar K hK
  have p1':=dP (hpar 1 (by kernel_rfl)) hp1;obtain⟨q0,q1,q2,q3,q4,q5,q6⟩:=box7 (hbel.blk hx);have ga0:=gX hbel h1 fa0;have ga1:=gX hbel h1 fa1;have ga2:=gX hbel h1 fa2;have ga3:=gX hbel h1 fa3;have ga4:=gX hbel h1 fa4;have ga5:=gX hbel h1 fa5;have ga6:=gX hbel h1 fa6;have ga7:=gX hbel h1 fa7;have ga8:=gX hbel h1 fa8;have ga9:=gX hbel h1 fa9;have ga10:=gX hbel h1 fa10;have ga11:=gX hbel h1 fa11;have ga12:=gX hbel h1 fa12;have ga13:=gX hbel h1 fa13;have y1:¬ (9223372036854775807<P1.size+1):=by omega
  have y2:¬ (9223372036854775807<P1.size+1+3):=by omega
  have y3:¬ (9223372036854775807<P1.size+1+3+1):=by omega
  have y4:¬ (9223372036854775807<P1.size+1+3+1+P2.size):=by omega
  have ya:(arw m).size=3:=by rcases hm with rfl | rfl | rfl <;> rfl
  match i',hi',ho,hd,hK with
  | 0,_,ho,hd,hK=>cases ho;exact oW hK rfl rfl (by simp[execOp,go_sem,p1'])
  | 1,_,ho,hd,hK=>cases ho;exact oW hK rfl rfl (by simp[execOp,go_sem,dE (hd 0 8 rfl),q6])
  | 2,_,ho,hd,hK=>cases ho;exact oW hK rfl rfl (by simp[execOp,go_sem,dE (hd 1 9 rfl)])
  | 3,_,ho,hd,hK=>cases ho;exact oW hK rfl rfl (by simp[execOp,go_sem,dE (hd 2 10 rfl),ga0,ga1,ga2,ga3,ga4,ga5,ga6])
  | 4,_,ho,hd,hK=>cases ho;exact oK hK rfl (HC1 w1 hbel) (fun _=>rfl) (by simp[go_sem,dE (hd 3 11 rfl)])
  | 5,_,ho,hd,hK=>cases ho;exact oW hK rfl rfl (by simp[execOp,go_sem,dE (hd 4 12 rfl),y1])
  | 6,_,ho,hd,hK=>cases ho;refine oN rfl ?_;exact qX (v:= .slice (some ⟨w1.heap.size,0,none⟩) 3 3) (w':=w1.alloc (.cells #[.string ⟨#[45,49,62]⟩,.string ⟨#[45,63,62]⟩,.string ⟨#[45,42,62]⟩] 9)) (by simp[execOp,go_sem]) (hK _ _ ((Bel.refl w1).alloc _) ⟨w1.heap.size,rfl,blk1 w1 _⟩)
  | 7,_,ho,hd,hK=>cases ho;exact oW hK rfl rfl (by simp[execOp,go_sem,p1'])
  | 8,_,ho,hd,hK=>cases ho;exact oW hK rfl rfl (by simp[execOp,go_sem,dE (hd 7 15 rfl),q2])
  | 9,_,ho,hd,hK=>
   cases ho;refine oN rfl ?_;rcases hm with rfl | rfl | rfl
   all_goals exact qX (v:= .int .u8 _) (w':=w1) (by simp[execOp,go_sem,dE (hd 8 16 rfl)];rfl) (hK _ _ (Bel.refl _) rfl)
  | 10,_,ho,hd,hK=>
   cases ho;obtain⟨⟨g6,hv6,hc6⟩,d6⟩:=hd 6 14 rfl;have e6':=d6.trans hv6;refine oN rfl ?_;have hl6:g6<w1.heap.size:=(aJ.1 hc6).1;rcases hm with rfl | rfl | rfl
   ·exact qX (v:= .pointer (some ⟨g6,0,none⟩)) (w':=w1) (by simp[execOp,go_sem,e6',dE (hd 9 17 rfl)]) (hK _ _ (Bel.refl _) ⟨g6,0,rfl,by simp[World.cell?,hc6,arw],hl6⟩)
   ·exact qX (v:= .pointer (some ⟨g6,1,none⟩)) (w':=w1) (by simp[execOp,go_sem,e6',dE (hd 9 17 rfl)]) (hK _ _ (Bel.refl _) ⟨g6,1,rfl,by simp[World.cell?,hc6,arw],hl6⟩)
   ·exact qX (v:= .pointer (some ⟨g6,2,none⟩)) (w':=w1) (by simp[execOp,go_sem,e6',dE (hd 9 17 rfl)]) (hK _ _ (Bel.refl _) ⟨g6,2,rfl,by simp[World.cell?,hc6,arw],hl6⟩)
  | 11,_,ho,hd,hK=>cases ho;obtain⟨⟨g10,j10,hv10,hc10,hl10⟩,d10⟩:=hd 10 18 rfl;have e10':=d10.trans hv10;exact oW hK rfl rfl (by simp[execOp,go_sem,e10',hc10])
  | 12,_,ho,hd,hK=>cases ho;exact oW hK rfl rfl (by simp[execOp,go_sem,dE (hd 5 13 rfl),dE (hd 11 19 rfl),ya,y2])
  | 13,_,ho,hd,hK=>cases ho;exact oW hK rfl rfl (by simp[execOp,go_sem,dE (hd 12 20 rfl),ya,y3])
  | 14,_,ho,hd,hK=>cases ho;exact oW hK rfl rfl (by simp[execOp,go_sem,p1'])
  | 15,_,ho,hd,hK=>cases ho;exact oW hK rfl rfl (by simp[execOp,go_sem,dE (hd 14 22 rfl),q6])
  | 16,_,ho,hd,hK=>cases ho;exact oW hK rfl rfl (by simp[execOp,go_sem,dE (hd 15 23 rfl)])
  | 17,_,ho,hd,hK=>cases ho;exact oW hK rfl rfl (by simp[execOp,go_sem,dE (hd 16 24 rfl),ga7,ga8,ga9,ga10,ga11,ga12,ga13])
  | 18,_,ho,hd,hK=>cases ho;exact oK hK rfl (HC2 w1 hbel) (fun _=>rfl) (by simp[go_sem,dE (hd 17 25 rfl)])
  | 19,_,ho,hd,hK=>cases ho;exact oW hK rfl rfl (by simp[execOp,go_sem,dE (hd 13 21 rfl),dE (hd 18 26 rfl),ya,y4])
  | q+20,hi,_,_,_=>exact absurd hi (by omega)
 ·intro V w' hb hF
  exact hend V w' hb (hF 19 (by omega))
theorem zs{al:Bool}{F:List Tn}(h:F≠[]):brkL al F≠[]:=by
 unfold brkL;split
 ·exact h
 ·simp
theorem Tr.tyK_ne:∀ (f:Tr) (sep:List Tn),f.isNods->f.ok->f.mayP hTf=true->0<f.len->f.tyK sep≠[]
 | .nil,_,_,_,_,h=>by simp[Tr.len]at h
 | .arm ..,_,h,_,_,_=>h.elim
 | .nod k s n p a b r,sep,_,ho,hm,_=>by
  simp only[Tr.mayP,bA]at hm;have h0:qv k s n a≠[]:=by
   unfold qv;split
   ·rename_i e
    have h1:=hm.1.1;rw[qaH,e]at h1;simp at h1;exact Tr.tyK_ne a _ ho.1 ho.2.1 hm.1.2 (by omega)
   ·simp
  rw[jz];have:=zs (al:=alnT k a.len) h0;intro h;simp at h;exact this h.1
theorem qw{F:List Tn}(h:F≠[]):32::(strS F).data.toList=sfx F:=by
 cases F with
 | nil=>exact absurd rfl h
 | cons t F=>exact Zz
theorem qcU(n:Int):mltB n=decide (1<=n/\n<=3):=by
 unfold mltB;by_cases h:1<=n/\n<=3
 ·simp[h];omega
 ·simp[h];omega
theorem qaG{k:Int}{s:LU}{m:Int}{l:Nat}(h:hTf k s m l=true):(k=3/\l=2/\(m=1∨m=2∨m=3))∨(k=1/\l=0)∨k=2:=by
 rw[qaH]at h;by_cases e1:k=1
 ·subst e1;simp at h;exact .inr (.inl ⟨rfl,h.2⟩)
 by_cases e2:k=2
 ·exact .inr (.inr e2)
 by_cases e3:k=3
 ·subst e3;simp[qcU]at h;exact .inl ⟨rfl,h.2,by omega⟩
 ·simp[e1,e2,e3]at h
theorem qa3{k:Int}{s:LU}{m:Int}{f:Tr}(hn:f.isNods)(ho:f.ok)(h:hTf k s m f.len=true)(hm:f.mayP hTf=true):qv k s m f≠[]:=by
 unfold qv;split
 ·rename_i e
  subst e;rcases qaG h with h | h | h
  ·exact Tr.tyK_ne f _ hn ho hm (by omega)
  ·omega
  ·omega
 ·simp
theorem qek{k:Int}{s:LU}{m:Int}{l:Nat}(h:hTf k s m l=true):(alnT k l=true/\l=0)∨(alnT k l=false/\0<l):=by
 rcases qaG h with ⟨rfl,rfl,_⟩ | ⟨rfl,rfl⟩ | rfl
 ·exact .inr ⟨by decide,by decide⟩
 ·exact .inl ⟨by decide,rfl⟩
 ·rcases zPp l with e | e
  ·exact .inl ⟨by simp[alnT,e],e⟩
  ·exact .inr ⟨by simp[alnT];omega,e⟩
theorem qby(k:Int)(S:BA)(n:Int)(p:Pl)(A:OA)(len cap:Nat)(al:Bool)(F:List Tn)(w:World)(hF:F≠[])(hz:(sfx F).length<=4000000)(hal:(al=true/\len=0)∨(al=false/\0<len))(hlen:len<=4000000)
  (hC:∀ W,Bel w W->Calls Tryz.prog 103 #[.agg #[.int .u8 k,S,.int .u8 n,p.a,p.l,p.c,.slice A len cap]] W (StR (.string (strS F)) W)) :
  Calls Tryz.prog 57 #[.agg #[.int .u8 k,S,.int .u8 n,p.a,p.l,p.c,.slice A len cap]] w (StR (.string (strS (brkL al F))) w):=by
 obtain⟨P,hP⟩:=nW (strS F);have hPL:32::P.data.toList=sfx F:=by rw[hP];exact qw hF
 have hPz:P.size<=4000000:=by have:=zB hPL;omega
 rw[<- hP]at hC;have HC:=hid hC;obtain⟨R,hR⟩:=nW (strS (brkL al F));rw[<- hR];rcases hal with ⟨rfl,rfl⟩ | ⟨rfl,hl⟩
 ·have hRP:R=P:=by rw[hR,hP];rfl
  subst hRP;clear hC hP hPL hPz hR hF hz;go_enter Tryz.func57,Tryz.ntmps57;have q1:=blk1 w (.cells #[.int .u8 k,S,.int .u8 n,p.a,p.l,p.c,.slice A 0 cap] 43);have HB1:=hid ((Bel.refl w).alloc (.cells #[.int .u8 k,S,.int .u8 n,p.a,p.l,p.c,.slice A 0 cap] 43));obtain⟨x0,x1,x2,x3,x4,x5,x6⟩:=box7 q1;clear q1;go_wp2_with fail;refine (HC _ HB1).mono ?_;rintro e w2 ⟨rfl,hb2⟩;have HB2:=hid (HB1.on hb2);clear hb2 x0 x1 x2 x3 x4 x5 x6;go_wp2_with fail;go_ret;exact⟨rfl,HB2⟩
 ·have hRP:R=⟨#[40,32]⟩++P++⟨#[32,41]⟩:=by
   have h1:32::R.data.toList=sfx (brkL false F):=by rw[hR];exact qw (zs hF)
   rw[jX,if_neg (by simp),<- hPL]at h1;have h2:R.data.toList=(⟨#[40,32]⟩++P++⟨#[32,41]⟩:BA).data.toList:=by
    rw[qj,qj];simpa using h1
   cases R;simp only[Array.toList_inj]at h2;rw[h2]
  have HBR:=hid fun W=>jw P (by omega) W;rw[<- hRP]at HBR;have hq:decide ((0:Int)<(len:Int))=true:=dT (by omega);have hq2:decide (0<len)=true:=dT hl;clear hC hP hPL hPz hR hF hz hRP hl;go_enter Tryz.func57,Tryz.ntmps57;have q1:=blk1 w (.cells #[.int .u8 k,S,.int .u8 n,p.a,p.l,p.c,.slice A len cap] 43);have HB1:=hid ((Bel.refl w).alloc (.cells #[.int .u8 k,S,.int .u8 n,p.a,p.l,p.c,.slice A len cap] 43));obtain⟨x0,x1,x2,x3,x4,x5,x6⟩:=box7 q1;clear q1;go_wp2_with fail;refine (HC _ HB1).mono ?_;rintro e w2 ⟨rfl,hb2⟩;have HB2:=hid (HB1.on hb2);clear hb2 x0 x1 x2 x3 x4 x5 x6;go_wp2_with fail;refine (HBR _).mono ?_;rintro e w3 ⟨rfl,hb3⟩;have HB3:=hid (HB2.on hb3);clear hb3;go_wp2_with fail;go_ret;exact⟨rfl,HB3⟩
theorem qh7(m:Int)(h:m=1∨m=2∨m=3):32::(arw m).data.toList=sfx [zi m]:=by
 rcases h with rfl | rfl | rfl <;> rfl
theorem qjc{f:Tr}{k s n p a b k' s' n' p' a' b'}{sep:List Tn}(hl:f.len=2)(h0:f.nth 0=.nod k s n p a b .nil)(h1:f.nth 1=.nod k' s' n' p' a' b' .nil):f.tyK sep=brkL (alnT k a.len) (qv k s n a)++sep++brkL (alnT k' a'.len) (qv k' s' n' a'):=by
 have e0:=Tr.dropN_nod f 0 h0;have e1:=Tr.dropN_nod f 1 h1;rw[Tr.dropN_zero]at e0;rw[e0,jz,e1,jz,Tr.dropN_all f 2 (by omega)];simp[Tr.tyK]
theorem qhk(N:Nat):∀ (k:Int) (s:LU) (m:Int) (p:Pl) (A:OA) (len cap:Nat) (kids:Tr) (w:World),kids.size=N->KidsTr w (OldT w) .ty A len cap kids->kids.size<=4000000->hTf k s m len=true->kids.mayP hTf=true->(sfx (qv k s m kids)).length<=4000000 →
  Calls Tryz.prog 103 #[.agg #[.int .u8 k,.string ⟨s.toArray⟩,.int .u8 m,p.a,p.l,p.c,.slice A len cap]] w (StR (.string (strS (qv k s m kids))) w):=by
 induction N using Nat.strongRecOn with
 | _ N ih=>
  intro k s m p A len cap kids w hN h hsz hm hmk hz;have H:=hid h;have IH:=hid ih;have HL:Hid (len=kids.len):=hid h.1;have HN:=hid hN;have HZ:=hid (And.intro hsz hz);have HMK:=hid hmk;have hlen:len<=4000000:=by have:=h.1;have:=kids.len_le;omega
  obtain⟨T,hT⟩:=nW (strS (qv k s m kids));rw[<- hT];have HT:=hid hT;have HKID:Hid (∀ (w1:World),Bel w w1->∀ j,j<len->∀ (k':Int) (s':LU) (m':Int) (p':Pl) (A':OA) (c':Nat) (kids':Tr),kids.nth j=.nod k' s' m' p' kids' .nil .nil->KidsTr w1 (OldT w1) .ty A' kids'.len c' kids'->(sfx (brkL (alnT k' kids'.len) (qv k' s' m' kids'))).length<=4000000 →
    qv k' s' m' kids'≠[]/\∀ W,Bel w1 W->Calls Tryz.prog 57 #[.agg #[.int .u8 k',.string ⟨s'.toArray⟩,.int .u8 m',p'.a,p'.l,p'.c,.slice A' kids'.len c']] W (StR (.string (strS (brkL (alnT k' kids'.len) (qv k' s' m' kids')))) W)):=hid (by
   intro w1 hb1 j hj k' s' m' p' A' c' kids' en hk' hz';have hsn:=Tr.nth_size kids j;have hmn:=Tr.nth_mayP hTf kids j (h.isNods (by intro e;cases e)) hmk;rw[en]at hsn hmn;simp only[Tr.size,Tr.mayP,Bool.and_true,bA]at hsn hmn;have hne:=qa3 (hk'.isNods (by intro e;cases e)) hk'.ok hmn.1 hmn.2;have hz2:(sfx (qv k' s' m' kids')).length<=4000000:=by
    rw[jX]at hz';split at hz'
    ·exact hz'
    ·simp only[lA]at hz';omega
   refine⟨hne,fun W hW=>?_⟩;have hkl:=kids'.len_le;exact qby k' ⟨s'.toArray⟩ m' p' A' kids'.len c' (alnT k' kids'.len) (qv k' s' m' kids') W hne hz2 (qek hmn.1) (by omega) fun W2 hW2=>ih kids'.size (by omega) k' s' m' p' A' kids'.len c' kids' W2 rfl (hk'.bel (hW.on hW2)) (by omega) hmn.1 hmn.2 hz2)
  have q1:=blk1 w (.cells #[.int .u8 k,.string ⟨s.toArray⟩,.int .u8 m,p.a,p.l,p.c,.slice A len cap] 43);have hb1:Bel w (w.alloc (.cells #[.int .u8 k,.string ⟨s.toArray⟩,.int .u8 m,p.a,p.l,p.c,.slice A len cap] 43)):=(Bel.refl w).alloc _;clear ih hN hsz hmk hT;rcases qaG hm with ⟨rfl,rfl,hm3⟩ | hk
  ·obtain⟨ub,uo,k1,s1,m1,p1,A1,c1,f1,hA1,hub,en1,hk1,a0,a1,a2,a3,a4,a5,a6⟩:=qal (.inr rfl) (h.bel hb1) (j:=0) (by decide)
   obtain⟨ub2,uo2,k2,s2,m2,p2,A2,c2,f2,hA2,_,en2,hk2,b0,b1,b2,b3,b4,b5,b6⟩:=qal (.inr rfl) (h.bel hb1) (j:=1) (by decide);rw[hA1]at hA2;simp only[Option.some.injEq,Addr.mk.injEq,and_true]at hA2;obtain⟨rfl,rfl⟩:=hA2;have hOwn:qv 3 s m kids=brkL (alnT k1 f1.len) (qv k1 s1 m1 f1)++[zi m]++brkL (alnT k2 f2.len) (qv k2 s2 m2 f2):=(if_pos rfl).trans (qjc (by rw[<- HL.out]) en1 en2);have hz2:=hz;rw[hOwn,qz,qz,lA,lA]at hz2;obtain⟨n1,HC1⟩:=HKID.out _ hb1 0 (by decide) k1 s1 m1 p1 A1 c1 f1 en1 hk1 (by omega);obtain⟨n2,HC2⟩:=HKID.out _ hb1 1 (by decide) k2 s2 m2 p2 A2 c2 f2 en2 hk2 (by omega);obtain⟨P1,hP1⟩:=nW (strS (brkL (alnT k1 f1.len) (qv k1 s1 m1 f1)));obtain⟨P2,hP2⟩:=nW (strS (brkL (alnT k2 f2.len) (qv k2 s2 m2 f2)));have hL1:32::P1.data.toList=sfx (brkL (alnT k1 f1.len) (qv k1 s1 m1 f1)):=by rw[hP1];exact qw (zs n1)
   have hL2:32::P2.data.toList=sfx (brkL (alnT k2 f2.len) (qv k2 s2 m2 f2)):=by rw[hP2];exact qw (zs n2)
   have hz1:=zB hL1;have hz3:=zB hL2;have hTT:T=P1++⟨#[32]⟩++arw m++⟨#[32]⟩++P2:=by
    rw[HT.out];symm;apply jy;rw[hOwn,qz,qz,<- hL1,<- hL2,<- qh7 m hm3,qj,qj,qj,qj];simp
   rw[<- hP1]at HC1;rw[<- hP2]at HC2;rw[hA1]at q1 hb1 a0 a1 a2 a3 a4 a5 a6 b0 b1 b2 b3 b4 b5 b6 HC1 HC2 hub ⊢;simp only[Nat.zero_mul,Nat.one_mul,nZz,Nat.add_assoc,Nat.reduceAdd]at a0 a1 a2 a3 a4 a5 a6 b0 b1 b2 b3 b4 b5 b6;subst hTT;obtain⟨SS,hSS⟩:=nW (⟨s.toArray⟩:BA);rw[<- hSS]at q1 hb1 a0 a1 a2 a3 a4 a5 a6 b0 b1 b2 b3 b4 b5 b6 HC1 HC2 hub ⊢;have HQ:=hid q1;have HB1:=hid hb1;have HD1:=hid HC1;have HD2:=hid HC2;have HAA:=hid (And.intro a0 (And.intro a1 (And.intro a2 (And.intro a3 (And.intro a4 (And.intro a5 a6))))));have HBB:=hid (And.intro b0 (And.intro b1 (And.intro b2 (And.intro b3 (And.intro b4 (And.intro b5 b6))))));have HUB:=hid hub;have HZZ:=hid (And.intro hz1 (And.intro hz3 hz2));have HM3:=hid hm3;have yv:Hid (P1.size<=4000000/\P2.size<=4000000):=hid (by omega);clear h hz hm hz2 hOwn n1 n2 HC1 HC2 hP1 hP2 hL1 hL2 hz1 hz3 hm3 hk1 hk2 en1 en2 hA1 hub HKID HT hSS a0 a1 a2 a3 a4 a5 a6 b0 b1 b2 b3 b4 b5 b6;obtain⟨x0,x1,x2,x3,x4,x5,x6⟩:=box7 q1;clear q1 hb1;go_enter Tryz.func103,Tryz.ntmps103;go_wp2_with fail;obtain⟨a0,a1,a2,a3,a4,a5,a6⟩:=HAA.out;obtain⟨b0,b1,b2,b3,b4,b5,b6⟩:=HBB.out;refine qfD w.heap.size SS m p cap ub uo k1 k2 m1 m2 ⟨s1.toArray⟩ ⟨s2.toArray⟩ p1 p2 A1 A2 f1.len c1 f2.len c2 P1 P2 _ (w.alloc (.cells #[.int .u8 3,SS,.int .u8 m,p.a,p.l,p.c,.slice (some ⟨ub,uo,none⟩) 2 cap] 43)) HQ HM3 HUB yv.out.1 yv.out.2 a0 a1 a2 a3 a4 a5 a6 b0 b1 b2 b3 b4 b5 b6 (fun W hW=>HD1 W ((Bel.refl _).drew.on hW)) (fun W hW=>HD2 W ((Bel.refl _).drew.on hW)) _ ?_;intro V w2 hb2 hv19;simp only[finP,zz,Nat.reduceAdd,jA,jB,jC,jD,jE,regTy,jF,jG,hv19];have HB2:=hid (HB1.on ((Bel.refl _).drew.on hb2));clear hb2 hv19 x0 x1 x2 x3 x4 x5 x6 a0 a1 a2 a3 a4 a5 a6 b0 b1 b2 b3 b4 b5 b6;go_wp2_with fail;go_ret;exact⟨rfl,HB2⟩
  ·have d3:(k==3)=false:=by simp;omega
   have hpo:sfx (qv k s m kids)=32::s++sfx (kids.tyK []):=by
    unfold qv;rw[if_neg (by omega),qp];show 32::putB (tyR k).1 s 0++_=_;rw[qaV]
    ·rcases (show k=1∨k=2 by omega) with h | h <;> subst h <;> decide
    ·rcases (show k=1∨k=2 by omega) with h | h <;> subst h <;> decide
   have hne:=qa3 (h.isNods (by intro e;cases e)) h.ok (by rw[<- HL.out];exact hm) HMK;have hTL:32::T.data.toList=32::s++sfx (kids.tyK []):=by
    rw[HT.out,qw hne,hpo]
   have hTz:T.size<=4000000:=by
    have h5:=zB (R:=T) hTL;have h6:=hz;rw[hpo]at h6;omega
   have HTL:=hid hTL;have HTZ:=hid hTz;obtain⟨w1,hw1⟩:=nW (w.alloc (.cells #[.int .u8 k,.string ⟨s.toArray⟩,.int .u8 m,p.a,p.l,p.c,.slice A len cap] 43));have HW1:=hid hw1;rw[<- hw1]at q1 hb1;have HQ:=hid q1;have HB1:=hid hb1;clear h hm hz hTL hTz hpo hk hne q1 hb1 hw1;go_enter Tryz.func103,Tryz.ntmps103;go_upto_region 1 with fail
   rw[<- HW1.out];clear HW1;obtain⟨x0,x1,x2,x3,x4,x5,x6⟩:=box7 HQ;go_wp2_with fail;clear x0 x1 x2 x3 x4 x5 x6;go_loopw [3,4] (fun v i wr=>∃ (j:Nat) (S:BA),j<=len/\i=.int .i64 (j:Int)/\v=.string S/\Hid (32::T.data.toList=32::S.data.toList++sfx ((kids.dropN j).tyK []))/\Hid (Bel w1 wr)) (fun _ i _=>len-(intOf i).toNat)
   case atStart=>exact⟨0,⟨s.toArray⟩,zL _,rfl,rfl,hid (by rw[Tr.dropN_zero];exact HTL),hid (Bel.refl _)⟩
   case round=>
    obtain⟨j,S,hj,rfl,rfl,HRJ,HB⟩:=hrel;obtain⟨x0,x1,x2,x3,x4,x5,x6⟩:=box7 (HB.blk HQ);by_cases hlt:j<len
    ·obtain⟨ub,uo,k',s',m',p',A',c',kids',rfl,hub,en,hk',a0,a1,a2,a3,a4,a5,a6⟩:=qal (.inr rfl) (H.bel (HB1.on HB)) hlt
     have hpk:sfx ((kids.dropN j).tyK [])=sfx (brkL (alnT k' kids'.len) (qv k' s' m' kids'))++sfx ((kids.dropN (j+1)).tyK []):=by
      rw[Tr.dropN_nod kids j en,jz,aNn,qz]
     have hrj:=HRJ.out;rw[hpk]at hrj;have hlen2:=congrArg List.length hrj;simp only[lA,lC,zD]at hlen2;have hSz:S.size<=4000000:=by have:=HTZ.out;omega
     obtain⟨hn',HC⟩:=HKID.out wr (HB1.on HB) j hlt k' s' m' p' A' c' kids' en hk' (by have:=HTZ.out;omega);obtain⟨P,hP⟩:=nW (strS (brkL (alnT k' kids'.len) (qv k' s' m' kids')));have hPL:32::P.data.toList=sfx (brkL (alnT k' kids'.len) (qv k' s' m' kids')):=by rw[hP];exact qw (zs hn')
     have hPz:P.size<=4000000:=by have:=zB hPL;have:=HTZ.out;omega
     rw[<- hP]at HC;rw[<- hPL]at hrj;have HC2:=hid (HC _ (Bel.refl _));obtain⟨l1,hl1⟩:=nW kids'.len;rw[<- hl1]at HC2 a6;have HRK:=hid hrj;have i1:(0:Int)<=(j:Int):=by omega
     have i2:(j:Int)<(len:Int):=by omega
     have HLT:=hid hlt;have hc1:¬ (9223372036854775807<S.size+1):=by omega
     have hc2:¬ (9223372036854775807<S.size+1+P.size):=by omega
     clear hub en hk' hpk hrj hlen2 hn' HC hP hPL hl1 hSz hPz;go_wp2_with fail;refine HC2.out.mono ?_;rintro e w3 ⟨rfl,hb3⟩;have HB3:=hid (HB.on hb3);clear hb3 a0 a1 a2 a3 a4 a5 a6 x0 x1 x2 x3 x4 x5 x6 HC2;go_wp2_with fail;go_roundw
     case rel=>
      refine⟨j+1,S++⟨#[32]⟩++P,HLT,by go_num,rfl,hid ?_,HB3⟩;rw[HRK.out,qj,qj];simp
     case measure=>exact mS HLT
    ·obtain rfl:j=len:=by omega
     have hfin:S=T:=by
      have h5:=HRJ.out;rw[Tr.dropN_all kids j (by rw[HL.out];exact lR _)]at h5;have h6:T.data.toList=S.data.toList:=by
       have h7:(32::T.data.toList)=32::S.data.toList:=by rw[h5];exact aNn _
       injection h7
      cases S;cases T;simp only[Array.toList_inj]at h6;simp only[ByteArray.mk.injEq];exact h6.symm
     subst hfin;go_wp2_with fail;go_ret;exact⟨rfl,HB1.on HB⟩
set_option maxHeartbeats 8000000
def qeh(k:Int)(l:Nat)(h al:Bool):Prop:=(k<=3/\al=true)∨(3<k/\k≠9/\al=false)∨(k=9/\0<l/\al=false)∨(k=9/\l=0/\h=true/\al=false)∨(k=9/\l=0/\h=false/\al=true)
theorem Js{k:Int}{l:Nat}(hk:1<=k):qeh k l false (alnE k l):=by
 unfold qeh alnE;by_cases e9:k=9
 ·subst e9
  rcases zPp l with e | e
  ·exact .inr (.inr (.inr (.inr ⟨rfl,e,rfl,by simp[e]⟩)))
  ·exact .inr (.inr (.inl ⟨rfl,e,by simp;omega⟩))
 ·by_cases h3:k<=3
  ·exact .inl ⟨h3,by simp[e9];omega⟩
  ·exact .inr (.inl ⟨by omega,e9,by simp[e9];omega⟩)
theorem qiC{k:Int}{l:Nat}(hk:1<=k):qeh k l true (alnF k l):=by
 unfold qeh alnF alnE;by_cases e9:k=9
 ·subst e9
  rcases zPp l with e | e
  ·exact .inr (.inr (.inr (.inl ⟨rfl,e,rfl,by simp⟩)))
  ·exact .inr (.inr (.inl ⟨rfl,e,by simp⟩))
 ·by_cases h3:k<=3
  ·exact .inl ⟨h3,by simp[e9];omega⟩
  ·exact .inr (.inl ⟨by omega,e9,by simp[e9];omega⟩)
theorem jM(k:Int)(S:BA)(n:Int)(p:Pl)(A:OA)(l c:Nat)(B:OA)(m d:Nat)(h al:Bool)(F:List Tn)(w:World)(hF:F≠[])(hz:(sfx F).length<=4000000)(hal:qeh k l h al)(hlen:l<=4000000)
  (hC:∀ W,Bel w W->Calls Tryz.prog 30 #[.agg #[.int .u8 k,S,n,p.a,p.l,p.c,.slice A l c,.slice B m d]] W (StR (.string (strS F)) W)) :
  Calls Tryz.prog 80 #[.agg #[.int .u8 k,S,n,p.a,p.l,p.c,.slice A l c,.slice B m d],.bool h] w (StR (.string (strS (brkL al F))) w):=by
 obtain⟨P,hP⟩:=nW (strS F);have hPL:32::P.data.toList=sfx F:=by rw[hP];exact qw hF
 have hPz:P.size<=4000000:=by have:=zB hPL;omega
 rw[<- hP]at hC;have HC:=hid hC;obtain⟨R,hR⟩:=nW (strS (brkL al F));rw[<- hR];have hRP:(al=true->R=P)/\(al=false->R=⟨#[40,32]⟩++P++⟨#[32,41]⟩):=by
  refine⟨fun e=>by rw[hR,hP,e];rfl,fun e=>?_⟩;have h1:32::R.data.toList=sfx (brkL al F):=by rw[hR];exact qw (zs hF)
  rw[e,jX,if_neg (by simp),<- hPL]at h1;have h2:R.data.toList=(⟨#[40,32]⟩++P++⟨#[32,41]⟩:BA).data.toList:=by
   rw[qj,qj];simpa using h1
  cases R;simp only[Array.toList_inj]at h2;rw[h2]
 have HBR:=hid fun W=>jw P (by omega) W;clear hC hP hPL hPz hR hF hz;rcases hal with ⟨hk,e⟩ | ⟨hk,hk9,e⟩ | ⟨rfl,hl,e⟩ | ⟨rfl,rfl,rfl,e⟩ | ⟨rfl,rfl,rfl,e⟩
 ·have hRP:=hRP.1 e
  subst hRP;have q3:decide (3<k)=false:=dF (by omega);clear hk e HBR;go_enter Tryz.func80,Tryz.ntmps80;have q1:=blk1 w (.cells #[.int .u8 k,S,n,p.a,p.l,p.c,.slice A l c,.slice B m d] 28);have HQ:=hid q1;have HB1:=hid ((Bel.refl w).alloc (.cells #[.int .u8 k,S,n,p.a,p.l,p.c,.slice A l c,.slice B m d] 28));obtain⟨x0,x1,x2,x3,x4,x5,x6,x7⟩:=box8 q1;clear q1;go_upto_region 2 with (go_at_call 30;refine (HC _ HB1).mono ?_;rintro e w2 ⟨rfl,hb2⟩)
  have HB2:=hid (HB1.on hb2);obtain⟨y0,y1,y2,y3,y4,y5,y6,y7⟩:=box8 (hb2.blk HQ);clear hb2 x0 x1 x2 x3 x4 x5 x6 x7;go_wp2_with fail;go_ret;exact⟨rfl,HB2⟩
 ·have hRP:=hRP.2 e
  rw[<- hRP]at HBR;have q3:decide (3<k)=true:=dT hk;have q9:(k==9)=false:=by simpa using hk9
  clear hk e hRP hk9;go_enter Tryz.func80,Tryz.ntmps80;have q1:=blk1 w (.cells #[.int .u8 k,S,n,p.a,p.l,p.c,.slice A l c,.slice B m d] 28);have HQ:=hid q1;have HB1:=hid ((Bel.refl w).alloc (.cells #[.int .u8 k,S,n,p.a,p.l,p.c,.slice A l c,.slice B m d] 28));obtain⟨x0,x1,x2,x3,x4,x5,x6,x7⟩:=box8 q1;clear q1;go_upto_region 2 with (go_at_call 30;refine (HC _ HB1).mono ?_;rintro e w2 ⟨rfl,hb2⟩)
  have HB2:=hid (HB1.on hb2);obtain⟨y0,y1,y2,y3,y4,y5,y6,y7⟩:=box8 (hb2.blk HQ);clear hb2 x0 x1 x2 x3 x4 x5 x6 x7;go_wp2_with fail;refine (HBR _).mono ?_;rintro e w3 ⟨rfl,hb3⟩;have HB3:=hid (HB2.on hb3);clear hb3;go_wp2_with fail;go_ret;exact⟨rfl,HB3⟩
 ·have hRP:=hRP.2 e
  rw[<- hRP]at HBR;have ql:((l:Int)==0)=false:=by simp;omega
  clear e hRP hl;go_enter Tryz.func80,Tryz.ntmps80;have q1:=blk1 w (.cells #[.int .u8 9,S,n,p.a,p.l,p.c,.slice A l c,.slice B m d] 28);have HQ:=hid q1;have HB1:=hid ((Bel.refl w).alloc (.cells #[.int .u8 9,S,n,p.a,p.l,p.c,.slice A l c,.slice B m d] 28));obtain⟨x0,x1,x2,x3,x4,x5,x6,x7⟩:=box8 q1;clear q1;go_upto_region 2 with (go_at_call 30;refine (HC _ HB1).mono ?_;rintro e w2 ⟨rfl,hb2⟩)
  have HB2:=hid (HB1.on hb2);obtain⟨y0,y1,y2,y3,y4,y5,y6,y7⟩:=box8 (hb2.blk HQ);clear hb2 x0 x1 x2 x3 x4 x5 x6 x7;go_wp2_with fail;refine (HBR _).mono ?_;rintro e w3 ⟨rfl,hb3⟩;have HB3:=hid (HB2.on hb3);clear hb3;go_wp2_with fail;go_ret;exact⟨rfl,HB3⟩
 ·have hRP:=hRP.2 e
  rw[<- hRP]at HBR;clear e hRP;go_enter Tryz.func80,Tryz.ntmps80;have q1:=blk1 w (.cells #[.int .u8 9,S,n,p.a,p.l,p.c,.slice A 0 c,.slice B m d] 28);have HQ:=hid q1;have HB1:=hid ((Bel.refl w).alloc (.cells #[.int .u8 9,S,n,p.a,p.l,p.c,.slice A 0 c,.slice B m d] 28));obtain⟨x0,x1,x2,x3,x4,x5,x6,x7⟩:=box8 q1;clear q1;go_upto_region 2 with (go_at_call 30;refine (HC _ HB1).mono ?_;rintro e w2 ⟨rfl,hb2⟩)
  have HB2:=hid (HB1.on hb2);obtain⟨y0,y1,y2,y3,y4,y5,y6,y7⟩:=box8 (hb2.blk HQ);clear hb2 x0 x1 x2 x3 x4 x5 x6 x7;go_wp2_with fail;refine (HBR _).mono ?_;rintro e w3 ⟨rfl,hb3⟩;have HB3:=hid (HB2.on hb3);clear hb3;go_wp2_with fail;go_ret;exact⟨rfl,HB3⟩
 ·have hRP:=hRP.1 e
  subst hRP;clear e HBR;go_enter Tryz.func80,Tryz.ntmps80;have q1:=blk1 w (.cells #[.int .u8 9,S,n,p.a,p.l,p.c,.slice A 0 c,.slice B m d] 28);have HQ:=hid q1;have HB1:=hid ((Bel.refl w).alloc (.cells #[.int .u8 9,S,n,p.a,p.l,p.c,.slice A 0 c,.slice B m d] 28));obtain⟨x0,x1,x2,x3,x4,x5,x6,x7⟩:=box8 q1;clear q1;go_upto_region 2 with (go_at_call 30;refine (HC _ HB1).mono ?_;rintro e w2 ⟨rfl,hb2⟩)
  have HB2:=hid (HB1.on hb2);obtain⟨y0,y1,y2,y3,y4,y5,y6,y7⟩:=box8 (hb2.blk HQ);clear hb2 x0 x1 x2 x3 x4 x5 x6 x7;go_wp2_with fail;go_ret;exact⟨rfl,HB2⟩
theorem qf6(F:List Tn):sfx (Q5::F)=[32,92]++sfx F:=by rw[qp];rfl
theorem qf5(F:List Tn):sfx (jn::F)=[32,45,62]++sfx F:=by rw[qp];rfl
theorem ZO(F:List Tn):sfx (zm::F)=[32,108,101,116]++sfx F:=by rw[qp];rfl
theorem qc8(F:List Tn):sfx (zY::F)=[32,114,101,99]++sfx F:=by rw[qp];rfl
theorem qhz(F:List Tn):sfx (kwIn::F)=[32,105,110]++sfx F:=by rw[qp];rfl
theorem qd8(F:List Tn):sfx (kwEq::F)=[32,61]++sfx F:=by rw[qp];rfl
theorem qi6(F:List Tn):sfx (jK::F)=[32,99,97,115,101]++sfx F:=by rw[qp];rfl
theorem qkz(F:List Tn):sfx (kwOf::F)=[32,111,102]++sfx F:=by rw[qp];rfl
theorem qi7(F:List Tn):sfx (jj::F)=[32,123]++sfx F:=by rw[qp];rfl
theorem qhy(F:List Tn):sfx (zH::F)=[32,125]++sfx F:=by rw[qp];rfl
theorem qi8(F:List Tn):sfx (jq::F)=[32,59]++sfx F:=by rw[qp];rfl
theorem ZU{k:Int}{s:LU}{n:Int}(h3:k≠3)(h4:k≠4)(F:List Tn):sfx (tk0 k s n::F)=32::s++sfx F:=by
 rw[qp];show 32::putB k s n++_=_;rw[qaV h3 h4]
theorem zJ(s:LU)(F:List Tn):sfx (tk0 1 s 0::F)=32::s++sfx F:=ZU (by decide) (by decide) F
theorem qbL(s:LU)(n:Int)(F:List Tn):sfx (tk0 5 s n::F)=32::s++sfx F:=ZU (by decide) (by decide) F
theorem qia{md:Nat}{k:Int}{l:Nat}{F:List Tn}(h:F≠[]):brkM md k l F≠[]:=by
 unfold brkM;repeat' split
 ·exact h
 ·exact zs h
 ·exact zs h
theorem qix{k:Int}{s:LU}{n:Int}{l al:Nat}(h:hEf k s n l al=true):1<=k/\k<=10:=by
 rcases QY h with h | h | h | h | h | h | h | h | h | h <;> omega
theorem Tr.exK_ne:∀ (f:Tr) (md:Nat) (sep:List Tn),f.isNods->f.ok->f.mayE hEf hPf=true->0<f.len->f.exK md sep≠[]
 | .nil,_,_,_,_,_,h=>by simp[Tr.len]at h
 | .arm ..,_,_,h,_,_,_=>h.elim
 | .nod k s n p a b r,md,sep,_,ho,hm,_=>by
  simp only[Tr.mayE,bA]at hm;have h0:qe k s n a b≠[]:=by
   have hx:∀ (md:Nat) (sep:List Tn),a.len=2->a.exK md sep≠[]:=fun md sep h=>Tr.exK_ne a md sep ho.1 ho.2.1 hm.1.1.2 (by omega);rcases QY hm.1.1.1 with ⟨rfl,_⟩ | ⟨rfl,_⟩ | ⟨rfl,_⟩ | ⟨rfl,_⟩ | ⟨rfl,hl,_⟩ | ⟨rfl,_⟩ | ⟨rfl,_⟩ | ⟨rfl,_⟩ | ⟨rfl,_⟩ | ⟨rfl,⟨hb,hl,_⟩ | ⟨hb,_⟩⟩
   ·simp[qe,exR]
   ·simp[qe,exR]
   ·simp[qe,exR]
   ·simp[qe]
   ·have:=hx 1 [] hl;simpa [qe] using this
   ·simp[qe]
   ·simp[qe]
   ·simp[qe]
   ·simp[qe,exR]
   ·have:=hx 2 [tk0 5 s n] hl;simpa [qe,exR,hb] using this
   ·simp[qe,exR,hb]
  rw[zk];intro h;have h2:=List.append_eq_nil_iff.1 (List.append_eq_nil_iff.1 h).1;exact qia h0 h2.1
theorem ZY{k:Int}{s:LU}{n:Int}{a b:Tr}(hn:a.isNods)(ho:a.ok)(h:hEf k s n a.len b.len=true)(hm:a.mayE hEf hPf=true):qe k s n a b≠[]:=by
 have hx:∀ (md:Nat) (sep:List Tn),a.len=2->a.exK md sep≠[]:=fun md sep h=>Tr.exK_ne a md sep hn ho hm (by omega);rcases QY h with ⟨rfl,_⟩ | ⟨rfl,_⟩ | ⟨rfl,_⟩ | ⟨rfl,_⟩ | ⟨rfl,hl,_⟩ | ⟨rfl,_⟩ | ⟨rfl,_⟩ | ⟨rfl,_⟩ | ⟨rfl,_⟩ | ⟨rfl,⟨hb,hl,_⟩ | ⟨hb,_⟩⟩
 ·simp[qe,exR]
 ·simp[qe,exR]
 ·simp[qe,exR]
 ·simp[qe]
 ·have:=hx 1 [] hl;simpa [qe] using this
 ·simp[qe]
 ·simp[qe]
 ·simp[qe]
 ·simp[qe,exR]
 ·have:=hx 2 [tk0 5 s n] hl;simpa [qe,exR,hb] using this
 ·simp[qe,exR,hb]
theorem qcM{f:Tr}{k s n p a b}{md:Nat}{sep:List Tn}(hl:f.len=1)(h0:f.nth 0=.nod k s n p a b .nil):f.exK md sep=brkM md k a.len (qe k s n a b)++sep:=by
 have e0:=Tr.dropN_nod f 0 h0;rw[Tr.dropN_zero]at e0;rw[e0,zk,Tr.dropN_all f 1 (by omega)];simp[Tr.exK]
theorem ZX{f:Tr}{k s n p a b k' s' n' p' a' b'}{md:Nat}{sep:List Tn}(hl:f.len=2)(h0:f.nth 0=.nod k s n p a b .nil)(h1:f.nth 1=.nod k' s' n' p' a' b' .nil):f.exK md sep=brkM md k a.len (qe k s n a b)++sep++brkM (nxM md) k' a'.len (qe k' s' n' a' b'):=by
 have e0:=Tr.dropN_nod f 0 h0;have e1:=Tr.dropN_nod f 1 h1;rw[Tr.dropN_zero]at e0;rw[e0,zk,e1,zk,Tr.dropN_all f 2 (by omega)];simp[Tr.exK]
theorem Tr.nth_mayE:∀ (f:Tr) (i:Nat),f.isNods->f.mayE hEf hPf=true->(f.nth i).mayE hEf hPf=true
 | .nil,_,_,h=>h
 | .nod _ _ _ _ a b r,0,_,h=>by simp only[Tr.mayE,bA]at h;simp only[Tr.nth,Tr.mayE,bA];exact⟨h.1,trivial⟩
 | .arm ..,_,h,_=>h.elim
 | .nod _ _ _ _ a b r,i+1,hn,h=>by simp only[Tr.mayE,bA]at h;exact Tr.nth_mayE r i hn h.2
theorem Tr.nth_mayA:∀ (f:Tr) (i:Nat),f.isArms->f.mayE hEf hPf=true->(f.nth i).mayE hEf hPf=true
 | .nil,_,_,h=>h
 | .nod ..,_,h,_=>h.elim
 | .arm _ _ _ _ a b r,0,_,h=>by simp only[Tr.mayE,bA]at h;simp only[Tr.nth,Tr.mayE,bA];exact⟨h.1,trivial⟩
 | .arm _ _ _ _ a b r,i+1,hn,h=>by simp only[Tr.mayE,bA]at h;exact Tr.nth_mayA r i hn.2 h.2
theorem qgR{f:Tr}(h:f.isArms)(hl:0<f.len)(sep:List Tn):f.exK 0 sep=sep++f.exK 0 []:=by
 cases f with
 | nil=>simp[Tr.len]at hl
 | nod=>exact h.elim
 | arm=>simp[Tr.exK]
theorem qgU{s:LU}{n:Int}{l al:Nat}(h:hEf 8 s n l al=true):0<al:=by
 simp only[hEf,bA]at h;obtain⟨_,_,h⟩:=h;simpa using h
def sepJ(j:Nat):List Tn:=if j=0 then [] else [jq]
theorem qgQ{f:Tr}{j:Nat}{k s n p kids k2 s2 n2 p2 kx ax}(sep:List Tn)(h:f.nth j=.arm k s n p kids (.nod k2 s2 n2 p2 kx ax .nil) .nil):sfx ((f.dropN j).exK 0 sep)=sfx sep++sfx (qr k s n kids.patK)++[32,45,62]++sfx (qe k2 s2 n2 kx ax)++sfx ((f.dropN (j+1)).exK 0 (sepJ (j+1))):=by
 rw[Tr.dropN_arm f j h];show sfx (sep++qr k s n kids.patK++[jn]++(Tr.nod k2 s2 n2 p2 kx ax .nil).exK 0 []++(f.dropN (j+1)).exK 0 [jq])=_;have e:(Tr.nod k2 s2 n2 p2 kx ax .nil).exK 0 []=qe k2 s2 n2 kx ax:=by
  rw[zk];show qe k2 s2 n2 kx ax++[]++[]=_;simp
 rw[e,qz,qz,qz,qz,qf5,qk,aNn];rfl
theorem zf(al:Bool)(F:List Tn):(sfx F).length<=(sfx (brkL al F)).length:=by
 rw[jX];split
 ·exact lR _
 ·simp only[lA];omega
theorem qi3{k:Int}{s:LU}{n:Int}{a b:Tr}(h:hEf k s n a.len b.len=true)(hz:(sfx (qe k s n a b)).length<=4000000):s.length<=4000000:=by
 rcases QY h with ⟨rfl,-,hq⟩ | ⟨rfl,-,hq⟩ | ⟨rfl,-,hq⟩ | ⟨rfl,-,hq⟩ | ⟨rfl,-,rfl,-⟩ | ⟨rfl,-,hq⟩ | ⟨rfl,-,hq⟩ | ⟨rfl,-,rfl,-⟩ | ⟨rfl,hq⟩ | ⟨rfl,⟨hb,-,hq⟩ | ⟨hb,hq⟩⟩
 ·rw[show qe 1 s n a b=tk0 1 s n::a.exK 2 [] from rfl,ZU (by decide) (by decide)]at hz
  simp only[lA,lC]at hz;omega
 ·have h9:mtB (3,s,n)=true:=by simpa [mtB] using hq
  rw[mt3]at h9;simp only[bA,pE]at h9;rw[h9.2];decide
 ·rw[show qe 3 s n a b=tk0 4 s n::a.exK 2 [] from rfl,qp]at hz
  have h7:s.length<=(putB 4 s n).length:=by
   show s.length<=(34::(s.flatMap escB++[34])).length;have:=qeU s;simp only[lC,lA,lNn];omega
  have hz:(32::putB 4 s n++sfx (a.exK 2 [])).length<=4000000:=hz;simp only[lA,lC]at hz;omega
 ·rw[show qe 4 s n a b=Q5::tk0 1 s 0::jn::a.exK 0 [] from rfl,qf6,zJ]at hz
  simp only[lA,lC]at hz;omega
 ·decide
 ·rw[show qe 6 s n a b=zm::tk0 1 s 0::kwEq::a.exK 0 [kwIn] from rfl,ZO,zJ]at hz
  simp only[lA,lC]at hz;omega
 ·rw[show qe 7 s n a b=zm::zY::tk0 1 s 0::kwEq::a.exK 0 [kwIn] from rfl,ZO,qc8,zJ]at hz
  simp only[lA,lC]at hz;omega
 ·decide
 ·rw[show qe 9 s n a b=tk0 2 s n::a.exK 2 [] from rfl,ZU (by decide) (by decide)]at hz
  simp only[lA,lC]at hz;omega
 ·have key:∀ s∈btwL,s.length<=4000000:=by decide +kernel
  exact key s (by simpa [btwB] using hb)
 ·rw[show qe 10 s n a b=tk0 6 s n::a.exK 2 [] by simp[qe,exR,hb],ZU (by decide) (by decide)]at hz
  simp only[lA,lC]at hz;omega
end Go.Proofs.YtmloadclmjcbbaaGreatDoor.Mu
