import Derived.Test.YtfpoelklhekfaaaGreatDoorQal
import Derived.Test.YtfpoelklhekfaaaGreatDoorQam
open Go.Lib (hid)
namespace Go.Proofs.YtfpoelklhekfaaaGreatDoor.Mu
set_option maxHeartbeats 4000000
open Go.RowKit Go.Shelf
set_option maxRecDepth 100000
theorem qaA{b:Nat}{A:Option Addr}{cp:Nat}(s:List UInt8)(hs:s.length<=100000)(w:World)(hb:w.heap[b]?=some (.cells #[.int .u32 0,.int .i32 0,.int .u32 0,.nilIface,.slice A 8 cp] 194 (0,0)))(hr:RL w w.heap.size A 8 oldnew)(hab:∀ a,A=some a->a.block≠b) :
  Calls Tryz.prog 64 #[.pointer (some ⟨b,0,none⟩),.string ⟨s.toArray⟩] w fun e w'=>e=.returned (.string ⟨(s.flatMap escB).toArray⟩)/\Kr b w w':=by
 have HD:=hid (qhQ w hb hr hab);have hblt:=(Array.getElem?_eq_some_iff.1 hb).1;clear hb hr hab;go_enter Tryz.func64,Tryz.ntmps64
 go_wp2_with fail
 refine HD.out.mono ?_;rintro e w1 ⟨rfl,hbu⟩;obtain⟨g,A4,c4,e5,hg,ht,ho,hk⟩:=hbu.ex;obtain⟨⟨k0,k1,k2,k3,k4⟩,l0,l1,l2,l3,l4⟩:=zN e5;obtain⟨gt,rfl,hgt,-,-,hcs⟩:=ZL ho (by decide);have HR:=hid (qhb s hs w1 ht (fun j x hx=>hcs j ⟨x.toArray⟩ (by rw[List.getElem?_map,hx];rfl)) hgt);have HK:=hid hk;clear hbu e5 ht ho hk hcs;have hm:∀ w:World,Sem.run Tryz.prog (method 422 258 (.pointer (some ⟨g,0,none⟩)) "Replace") w=.ok (208,.pointer (some ⟨g,0,none⟩)) w:=fun _=>by kernel_rfl
 go_wp2_with (go_at_call 208;refine HR.out.mono ?_;rintro e w2 ⟨rfl,hb2⟩;(have HB2:=hid hb2);clear hb2)
 go_ret
 exact⟨rfl,HK.out.bel HB2.out⟩
def qct(W:World)(b:Nat):Prop:=∃ (A:Option Addr) (c:Nat),W.heap[b]?=some (.cells #[.int .u32 0,.int .i32 0,.int .u32 0,.nilIface,.slice A 8 c] 194 (0,0))/\RL W W.heap.size A 8 oldnew/\(∀ a,A=some a->a.block≠b)
def qam:Array Value:=#[.string ⟨#[10]⟩,.string ⟨#[92,110]⟩,.string ⟨#[9]⟩,.string ⟨#[92,116]⟩,.string ⟨#[34]⟩,.string ⟨#[92,34]⟩,.string ⟨#[92]⟩,.string ⟨#[92,92]⟩]
def NewQ(W:World)(e:Ending)(w':World):Prop:=∃ b:Nat,e=.returned (.pointer (some ⟨b,0,none⟩))/\qct w' b/\W.heap.size<=b/\Bel W w'
theorem qgU{g:Nat}(W:World)(hb:W.heap[g]?=some (.cells qam 9 (0,0))) :
  Calls Tryz.prog 63 #[.slice (some ⟨g,0,none⟩) 8 8] W (NewQ W):=by
 have hrl:RL W W.heap.size (some ⟨g,0,none⟩) 8 oldnew:=⟨rfl,fun _=>⟨g,0,rfl,(Array.getElem?_eq_some_iff.1 hb).1,fun j x hx=>by
  unfold World.cell?
  rw[hb];match j,hx with
  | 0,hx=>injection hx with hx;subst hx;rfl
  | 1,hx=>injection hx with hx;subst hx;rfl
  | 2,hx=>injection hx with hx;subst hx;rfl
  | 3,hx=>injection hx with hx;subst hx;rfl
  | 4,hx=>injection hx with hx;subst hx;rfl
  | 5,hx=>injection hx with hx;subst hx;rfl
  | 6,hx=>injection hx with hx;subst hx;rfl
  | 7,hx=>injection hx with hx;subst hx;rfl⟩⟩
 refine (qb5 (cp:=8) W hrl).mono ?_;rintro e w' ⟨b,A2,c2,h1,h2,h3,h4,h5,h6⟩;exact⟨b,h1,⟨A2,c2,h2,h3,h4⟩,h5,h6⟩
theorem qg8{b:Nat}(s:List UInt8)(hs:s.length<=100000)(w:World)(h:qct w b) :
  Calls Tryz.prog 64 #[.pointer (some ⟨b,0,none⟩),.string ⟨s.toArray⟩] w fun e w'=>e=.returned (.string ⟨(s.flatMap escB).toArray⟩)/\Kr b w w':=by
 obtain⟨A,c,h1,h2,h3⟩:=h;exact qaA s hs w h1 h2 h3
theorem qa0(s:List UInt8)(n a l c:Int)(hs:s.length<=100000)(w:World) :
  Calls Tryz.prog 28 #[.agg #[.int .u8 4,.string ⟨s.toArray⟩,.int .i64 n,.int .i64 a,.int .i64 l,.int .i64 c]] w fun e w'=>e=.returned (.string ⟨(34::(s.flatMap escB++[34])).toArray⟩)/\Bel w w':=by
 have hb1:Bel w (w.alloc (.cells #[.int .u8 4,.string ⟨s.toArray⟩,n,a,l,c] 37)):=(Bel.refl w).alloc _;have q1:=blk1 w (.cells #[.int .u8 4,.string ⟨s.toArray⟩,n,a,l,c] 37);obtain⟨⟨t0,t1,t2,t3,t4,t5⟩,f0,f1,f2,f3,f4,f5⟩:=qk q1;have HB1:=hid hb1;have HRP:Hid (∀ (b:Nat) (W:World),qct W b->Calls Tryz.prog 64 #[.pointer (some ⟨b,0,none⟩),.string ⟨s.toArray⟩] W fun e w'=>e=.returned (.string ⟨(s.flatMap escB).toArray⟩)/\Kr b W w'):=hid fun b W h=>qg8 s hs W h;obtain⟨ts,hts⟩:∃ ts:ByteArray,ts=⟨(s.flatMap escB).toArray⟩:=⟨_,rfl⟩
 have HTS:Hid ((⟨(34::(s.flatMap escB++[34])).toArray⟩:ByteArray)=(⟨#[34]⟩++ts)++⟨#[34]⟩):=by
  exact hid (ByteArray.ext (by simp[hts]))
 have hz:ts.size<=200000:=by
  rw[hts];have:=(j6 s).2;simp only[ByteArray.size,List.size_toArray];omega
 have c1:¬ (9223372036854775807<1+ts.size):=by omega
 have c2:¬ (9223372036854775807<1+ts.size+1):=by omega
 clear hz;obtain⟨rs,hrs⟩:∃ rs:ByteArray,rs=⟨(34::(s.flatMap escB++[34])).toArray⟩:=⟨_,rfl⟩
 rw[<- hrs]at HTS;rw[<- hrs];rw[<- hts]at HRP;clear hb1 hts hrs;go_enter Tryz.func28,Tryz.ntmps28
 go_upto_region 5 with fail
 obtain⟨w1,hw1⟩:∃ w1,w1=w.alloc (.cells #[.int .u8 4,.string ⟨s.toArray⟩,n,a,l,c] 37):=⟨_,rfl⟩
 have hlt1:w.heap.size<w1.heap.size:=by rw[hw1];simp
 rw[<- hw1]at HB1 t0 t1 t2 t3 t4 t5 f0 f1 f2 f3 f4 f5 q1;rw[<- hw1];clear hw1;have HN:Hid (Calls Tryz.prog 63 #[.slice (some ⟨w1.heap.size,0,none⟩) 8 8] (w1.drew.alloc (.cells #[.string ⟨#[10]⟩,.string ⟨#[92,110]⟩,.string ⟨#[9]⟩,.string ⟨#[92,116]⟩,.string ⟨#[34]⟩,.string ⟨#[92,34]⟩,.string ⟨#[92]⟩,.string ⟨#[92,92]⟩] 9 (0,0))) fun e w'=>∃ b:Nat,e=.returned (.pointer (some ⟨b,0,none⟩))/\qct w' b/\w1.heap.size<=b/\Bel w1 w'/\w'.cell? ⟨w.heap.size,1,none⟩=some (.string ⟨s.toArray⟩)):=by
  refine hid ((qgU _ (blk1 w1.drew _)).mono ?_);rintro e w' ⟨b,h1,h2,h3,h4⟩;have hb:Bel w1 w':=((Bel.refl w1).drew.alloc _).on h4;exact⟨b,h1,h2,by simp at h3;omega,hb,(hb.cell (p:=⟨w.heap.size,1,none⟩) hlt1).trans t1⟩
 have HR2:Hid (∀ (b:Nat) (W:World),qct W b->w1.heap.size<=b->Bel w1 W->Calls Tryz.prog 64 #[.pointer (some ⟨b,0,none⟩),.string ⟨s.toArray⟩] W fun e w'=>e=.returned (.string ts)/\Bel w1 w'):=
  hid fun b W h h2 h3=>(HRP.out b W h).mono fun e w' hk=>⟨hk.1,Kr.weak h3 hk.2 h2⟩
 clear HRP;go_cut [2] (fun v wx=>Hid (v=.string rs/\Bel w1 wx))
 case rest=>
  obtain⟨rfl,hbx⟩:=hcut.out;go_wp2
  go_ret
  exact⟨rfl,HB1.out.on hbx⟩
 case first=>
  clear q1 f0 f1 f2 f3 f4 f5 t0 t2 t3 t4 t5;go_region_with (first | (go_at_call 63;refine HN.out.mono ?_;rintro e w4 ⟨b,rfl,hrb,hle,hb4,j1⟩;(have HX4:=hid (And.intro hrb (And.intro hle hb4)));clear hrb hle hb4) | (go_at_call 64;refine (HR2.out _ _ HX4.out.1 HX4.out.2.1 HX4.out.2.2).mono ?_;rintro e w5 ⟨rfl,hk5⟩;(have HK5:=hid hk5);clear hk5))
  all_goals go_wp2_with fail
  all_goals go_meet
  all_goals exact hid ⟨by rw[HTS.out],HK5.out⟩
theorem qaZ(k:Int)(s:List UInt8)(n a l c:Int)(hs:k=4->s.length<=100000)(h0:-9223372036854775808<=n)(h1:n<=9223372036854775807)(w:World)(htab:Tbl w) :
  Calls Tryz.prog 28 #[.agg #[.int .u8 k,.string ⟨s.toArray⟩,n,a,l,c]] w fun e w'=>e=.returned (.string ⟨(wriB k s n).toArray⟩)/\Bel w w':=by
 by_cases k4:k=4
 ·subst k4
  have:=qa0 s n a l c (hs rfl) w;rw[show wriB 4 s n=34::(s.flatMap escB++[34]) from rfl];exact this
 ·exact jY k s n a l c k4 h0 h1 w htab
end Go.Proofs.YtfpoelklhekfaaaGreatDoor.Mu
