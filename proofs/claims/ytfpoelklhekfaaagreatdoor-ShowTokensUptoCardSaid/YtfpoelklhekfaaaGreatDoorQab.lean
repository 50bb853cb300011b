import Derived.Laws.Cover4
import Derived.Laws.RangeAny
namespace Go.Proofs.YtfpoelklhekfaaaGreatDoor.Mu
set_option maxHeartbeats 2000000
open Go
def enc(c:Int):List UInt8:=(Utf8.encode c).data.toList
def encs(l:List Int):List UInt8:=l.flatMap enc
def wid(c:Int):Nat:=if c<128 then 1 else if c<2048 then 2 else if c<65536 then 3 else 4
def cpB(c:Int):Bool:=decide ((0<=c/\c<55296)∨(57344<=c/\c<=1114111))
theorem qG(c:Int):cpB c=true↔(0<=c/\c<55296)∨(57344<=c/\c<=1114111):=by simp[cpB]
theorem zn(c:Int):Utf8.valid c=cpB c:=by
 rw[Bool.eq_iff_iff,qG];simp[Utf8.valid]
theorem enc1{c:Int}(h0:0<=c)(h:c<128):enc c=[UInt8.ofNat c.toNat]:=by
 have hv:Utf8.valid c=true:=by rw[zn,qG];omega
 simp[enc,Utf8.encode,hv,show c.toNat<128 by omega]
theorem enc2{c:Int}(h0:128<=c)(h:c<2048):enc c=[UInt8.ofNat (192+c.toNat / 64),UInt8.ofNat (128+c.toNat % 64)]:=by
 have hv:Utf8.valid c=true:=by rw[zn,qG];omega
 simp[enc,Utf8.encode,hv,show ¬ c.toNat<128 by omega,show c.toNat<2048 by omega]
theorem enc3{c:Int}(hc:cpB c=true)(h0:2048<=c)(h:c<65536):enc c=[UInt8.ofNat (224+c.toNat / 4096),UInt8.ofNat (128+c.toNat / 64 % 64),UInt8.ofNat (128+c.toNat % 64)]:=by
 have hv:Utf8.valid c=true:=by rw[zn,hc]
 simp[enc,Utf8.encode,hv,show ¬ c.toNat<128 by omega,show ¬ c.toNat<2048 by omega,show c.toNat<65536 by omega]
theorem enc4{c:Int}(hc:cpB c=true)(h0:65536<=c):enc c=[UInt8.ofNat (240+c.toNat / 262144),UInt8.ofNat (128+c.toNat / 4096 % 64),UInt8.ofNat (128+c.toNat / 64 % 64),UInt8.ofNat (128+c.toNat % 64)]:=by
 have hv:Utf8.valid c=true:=by rw[zn,hc]
 simp[enc,Utf8.encode,hv,show ¬ c.toNat<128 by omega,show ¬ c.toNat<2048 by omega,show ¬ c.toNat<65536 by omega]
theorem zO{c:Int}(hc:cpB c=true):(enc c).length=wid c:=by
 have h:=(qG c).1 hc;unfold wid;split
 ·rw[enc1 (by omega) (by omega)];rfl
 split
 ·rw[enc2 (by omega) (by omega)];rfl
 split
 ·rw[enc3 hc (by omega) (by omega)];rfl
 ·rw[enc4 hc (by omega)];rfl
theorem zv(c:Int):1<=wid c/\wid c<=4:=by unfold wid;(repeat' split) <;> omega
theorem qe1{s:ByteArray}{i:Nat}{l:List UInt8}(h:l <+: s.data.toList.drop i){j:Nat}{u:UInt8}(hj:l[j]?=some u):i+j<s.size/\s.get! (i+j)=u:=by
 obtain⟨r,hr⟩:=h;have h1:(s.data.toList.drop i)[j]?=some u:=by
  rw[<- hr,List.getElem?_append_left (List.getElem?_eq_some_iff.1 hj).1];exact hj
 rw[List.getElem?_drop]at h1;obtain⟨h2,h3⟩:=List.getElem?_eq_some_iff.1 h1;have h4:i+j<s.size:=by rw[Array.length_toList]at h2;exact h2
 refine⟨h4,?_⟩;have h5:=get_at s (i+j) h4;rw[Nat.add_zero]at h5;rw[h5];exact h3
theorem jJ{s:ByteArray}{i:Nat}:∀ {l:List UInt8},(∀ (j:Nat) (u:UInt8),l[j]?=some u->i+j<s.size/\s.get! (i+j)=u)->l <+: s.data.toList.drop i
 | [],_=>List.nil_prefix
 | u::l,h=>by
  obtain⟨h1,h2⟩:=h 0 u rfl;have h5:=get_at s i h1;have h6:s.data.toList.drop i=s[i]'h1::s.data.toList.drop (i+1):=by
   have:i<s.data.toList.length:=by rw[Array.length_toList];exact h1
   rw[List.drop_eq_getElem_cons this];rfl
  rw[h6,<- h5,h2];have:=jJ (s:=s) (i:=i+1) (l:=l) (fun j v hj=>by
   have:=h (j+1) v (by simpa using hj);rw[show i+1+j=i+(j+1) by omega];exact this)
  exact List.prefix_cons_inj u |>.2 this
theorem jc{s:ByteArray}{i:Nat}{c:Int}(hc:cpB c=true)(h:enc c <+: s.data.toList.drop i):Utf8.decode s i=(c.toNat,wid c):=by
 have hb:=(qG c).1 hc;have hv:Utf8.valid (c.toNat:Int)=true:=by rw[show ((c.toNat:Nat):Int)=c by omega,zn,hc]
 have G:=fun j u hj=>qe1 h (j:=j) (u:=u) hj;unfold wid;split
 ·rw[enc1 (by omega) (by omega)]at G
  obtain⟨_,g0⟩:=G 0 _ rfl;have e0:(s.get! (i+0)).toNat=c.toNat:=by rw[g0];simp;omega
  simp only[Utf8.decode,e0];rw[if_pos (by omega)]
 split
 ·rw[enc2 (by omega) (by omega)]at G
  obtain⟨_,g0⟩:=G 0 _ rfl;obtain⟨l1,g1⟩:=G 1 _ rfl;have e0:(s.get! (i+0)).toNat=192+c.toNat / 64:=by rw[g0];simp;omega
  have e1:(s.get! (i+1)).toNat=128+c.toNat % 64:=by rw[g1];simp;omega
  simp only[Utf8.decode,e0,e1];rw[if_neg (by omega),if_pos (by simp;omega),if_pos (by omega)];simp;omega
 split
 ·rw[enc3 hc (by omega) (by omega)]at G
  obtain⟨_,g0⟩:=G 0 _ rfl;obtain⟨l1,g1⟩:=G 1 _ rfl;obtain⟨l2,g2⟩:=G 2 _ rfl;have e0:(s.get! (i+0)).toNat=224+c.toNat / 4096:=by rw[g0];simp;omega
  have e1:(s.get! (i+1)).toNat=128+c.toNat / 64 % 64:=by rw[g1];simp;omega
  have e2:(s.get! (i+2)).toNat=128+c.toNat % 64:=by rw[g2];simp;omega
  have ec:(224+c.toNat / 4096) % 16*4096+(128+c.toNat / 64 % 64) % 64*64+(128+c.toNat % 64) % 64=c.toNat:=by omega
  simp only[Utf8.decode,e0,e1,e2,ec];rw[if_neg (by omega),if_neg (by simp;omega),if_pos (by simp;omega),if_pos (by rw[hv];simp;omega)]
 ·rw[enc4 hc (by omega)]at G
  obtain⟨_,g0⟩:=G 0 _ rfl;obtain⟨l1,g1⟩:=G 1 _ rfl;obtain⟨l2,g2⟩:=G 2 _ rfl;obtain⟨l3,g3⟩:=G 3 _ rfl;have e0:(s.get! (i+0)).toNat=240+c.toNat / 262144:=by rw[g0];simp;omega
  have e1:(s.get! (i+1)).toNat=128+c.toNat / 4096 % 64:=by rw[g1];simp;omega
  have e2:(s.get! (i+2)).toNat=128+c.toNat / 64 % 64:=by rw[g2];simp;omega
  have e3:(s.get! (i+3)).toNat=128+c.toNat % 64:=by rw[g3];simp;omega
  have ec:(240+c.toNat / 262144) % 8*262144+(128+c.toNat / 4096 % 64) % 64*4096+(128+c.toNat / 64 % 64) % 64*64+(128+c.toNat % 64) % 64=c.toNat:=by omega
  simp only[Utf8.decode,e0,e1,e2,e3,ec];rw[if_neg (by omega),if_neg (by simp;omega),if_neg (by simp;omega),if_pos (by simp;omega),if_pos (by rw[hv];simp;omega)]
theorem qV{u:UInt8}{n:Nat}(h:u.toNat=n):u=UInt8.ofNat n:=by rw[<- h];simp
theorem ZA{s:ByteArray}{i c k:Nat}(hi:i<s.size)(h:Utf8.decode s i=(c,k))(hne:¬ (c=65533/\k=1)) :
  cpB (c:Int)=true/\k=wid c/\enc (c:Int) <+: s.data.toList.drop i:=by
 have hb:∀ k,(s.get! (i+k)).toNat<256:=fun k=>(s.get! (i+k)).toNat_lt;have b0:=hb 0;have b1:=hb 1;have b2:=hb 2;have b3:=hb 3;simp only[Utf8.decode,Utf8.runeError]at h;split at h
 ·obtain⟨rfl,rfl⟩:=Prod.mk.inj h
  refine⟨by rw[qG];omega,by unfold wid;rw[if_pos (by omega)],?_⟩;rw[enc1 (by omega) (by omega)];refine jJ fun j u hj=>?_;match j,hj with
  | 0,hj=>simp only[List.getElem?_cons_zero,Option.some.injEq]at hj;subst hj;exact⟨hi,qV rfl⟩
 split at h
 ·rename_i h1 h2
  simp at h2;split at h
  ·obtain⟨rfl,rfl⟩:=Prod.mk.inj h
   refine⟨by rw[qG];omega,by unfold wid;rw[if_neg (by omega),if_pos (by omega)],?_⟩;rw[enc2 (by omega) (by omega)];refine jJ fun j u hj=>?_;match j,hj with
   | 0,hj=>simp at hj;subst hj;exact⟨hi,qV (by simp;omega)⟩
   | 1,hj=>simp at hj;subst hj;exact⟨by omega,qV (by simp;omega)⟩
  ·exact absurd (Prod.mk.inj h) (fun h=>hne ⟨h.1.symm,h.2.symm⟩)
 split at h
 ·rename_i h1 _ h2
  simp at h2;split at h
  ·rename_i h3
   obtain⟨rfl,rfl⟩:=Prod.mk.inj h;simp only[Bool.and_eq_true,decide_eq_true_eq,zn]at h3;refine⟨h3.2,by unfold wid;rw[if_neg (by omega),if_neg (by omega),if_pos (by omega)],?_⟩;rw[enc3 h3.2 (by omega) (by omega)];refine jJ fun j u hj=>?_;match j,hj with
   | 0,hj=>simp at hj;subst hj;exact⟨hi,qV (by simp;omega)⟩
   | 1,hj=>simp at hj;subst hj;exact⟨by omega,qV (by simp;omega)⟩
   | 2,hj=>simp at hj;subst hj;exact⟨by omega,qV (by simp;omega)⟩
  ·exact absurd (Prod.mk.inj h) (fun h=>hne ⟨h.1.symm,h.2.symm⟩)
 split at h
 ·rename_i h1 _ _ h2
  simp at h2;split at h
  ·rename_i h3
   obtain⟨rfl,rfl⟩:=Prod.mk.inj h;simp only[Bool.and_eq_true,decide_eq_true_eq,zn]at h3;have h4:=(qG _).1 h3.2;refine⟨h3.2,by unfold wid;rw[if_neg (by omega),if_neg (by omega),if_neg (by omega)],?_⟩;rw[enc4 h3.2 (by omega)];refine jJ fun j u hj=>?_;match j,hj with
   | 0,hj=>simp at hj;subst hj;exact⟨hi,qV (by simp;omega)⟩
   | 1,hj=>simp at hj;subst hj;exact⟨by omega,qV (by simp;omega)⟩
   | 2,hj=>simp at hj;subst hj;exact⟨by omega,qV (by simp;omega)⟩
   | 3,hj=>simp at hj;subst hj;exact⟨by omega,qV (by simp;omega)⟩
  ·exact absurd (Prod.mk.inj h) (fun h=>hne ⟨h.1.symm,h.2.symm⟩)
 ·exact absurd (Prod.mk.inj h) (fun h=>hne ⟨h.1.symm,h.2.symm⟩)
end Go.Proofs.YtfpoelklhekfaaaGreatDoor.Mu
