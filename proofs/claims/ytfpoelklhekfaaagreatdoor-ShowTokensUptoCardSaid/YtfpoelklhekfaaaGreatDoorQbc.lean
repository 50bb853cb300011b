import Derived.Test.YtfpoelklhekfaaaGreatDoorQae
import Derived.Test.YtfpoelklhekfaaaGreatDoorQah
namespace Go.Proofs.YtfpoelklhekfaaaGreatDoor.Mu
open Go Go.RowKit
attribute [local go_sem] Oper.semAt_some
set_option linter.unusedVariables false
set_option maxRecDepth 100000
def Tr.depU:Tr->Nat->Nat
 | .nil,_=>0
 | .nod _ _ _ _ _ _ _,0=>0
 | .arm _ _ _ _ _ _ _,0=>0
 | .nod _ _ _ _ k a r,j+1=>max (1+max k.depth a.depth) (r.depU j)
 | .arm _ _ _ _ k e r,j+1=>max (max (1+k.depth) e.depth) (r.depU j)
theorem Tr.depU_zero(f:Tr):f.depU 0=0:=by cases f <;> rfl
theorem Tr.depU_all:∀ f:Tr,f.depU f.len=f.depth
 | .nil=>rfl
 | .nod _ _ _ _ k a r=>by simp only[Tr.len,Tr.depU,Tr.depth,Tr.depU_all r]
 | .arm _ _ _ _ k e r=>by simp only[Tr.len,Tr.depU,Tr.depth,Tr.depU_all r]
theorem Tr.depU_succ:∀ (f:Tr) (j:Nat),j<f.len->f.depU (j+1)=max (f.depU j) (f.nth j).depth
 | .nil,j,h=>by simp[Tr.len]at h
 | .nod _ _ _ _ k a r,0,_=>by simp only[Tr.depU,Tr.depU_zero,Tr.nth,Tr.depth];omega
 | .arm _ _ _ _ k e r,0,_=>by simp only[Tr.depU,Tr.depU_zero,Tr.nth,Tr.depth];omega
 | .nod _ _ _ _ k a r,j+1,h=>by
  have:=Tr.depU_succ r j (by simp only[Tr.len]at h;omega);simp only[Tr.depU,Tr.nth]at this ⊢;rw[this];omega
 | .arm _ _ _ _ k e r,j+1,h=>by
  have:=Tr.depU_succ r j (by simp only[Tr.len]at h;omega);simp only[Tr.depU,Tr.nth]at this ⊢;rw[this];omega
end Go.Proofs.YtfpoelklhekfaaaGreatDoor.Mu
namespace Go.Proofs.YtfpoelklhekfaaaGreatDoor.Mu
open Go Go.RowKit Go.Shelf
attribute [local go_sem] Oper.semAt_some
set_option linter.unusedVariables false
end Go.Proofs.YtfpoelklhekfaaaGreatDoor.Mu
namespace Go.Proofs.YtfpoelklhekfaaaGreatDoor.Mu
open Go Go.RowKit
attribute [local go_sem] Oper.semAt_some
set_option linter.unusedVariables false
set_option maxRecDepth 100000
theorem Tr.nil_of_len:∀ f:Tr,f.len=0->f=.nil
 | .nil,_=>rfl
 | .nod ..,h=>by simp[Tr.len]at h
 | .arm ..,h=>by simp[Tr.len]at h
theorem Tr.one:∀ f:Tr,f.len=1->f.nth 0=f
 | .nil,h=>by simp[Tr.len]at h
 | .nod k s n p a b r,h=>by
  have:r=.nil:=Tr.nil_of_len r (by simpa [Tr.len] using h);subst this;rfl
 | .arm k s n p a b r,h=>by
  have:r=.nil:=Tr.nil_of_len r (by simpa [Tr.len] using h);subst this;rfl
theorem Tr.single{w:World}{Ok:Nat->Prop}{sh:Sh}{b o:Nat}(hsh:sh ≠ .arms):∀ f:Tr,f.len=1->TrAt w Ok f sh b o->∃ k s n p a b,f=.nod k s n p a b .nil
 | .nil,h,_=>by simp[Tr.len]at h
 | .nod k s n p a b r,h,_=>by
  have:r=.nil:=Tr.nil_of_len r (by simpa [Tr.len] using h);subst this;exact⟨_,_,_,_,_,_,rfl⟩
 | .arm ..,_,h=>absurd h.1 hsh
theorem qfM{w:World}{g:Nat}{t:TypeId}{x0 x1 x2 x3 x4 x5 x6 x7:Value}(h:w.heap[g]?=some (.cells #[x0,x1,x2,x3,x4,x5,x6,x7] t (0,0))) :
  w.cell? ⟨g,6,none⟩=some x6/\w.cell? ⟨g,7,none⟩=some x7:=by
 simp[World.cell?,h]
end Go.Proofs.YtfpoelklhekfaaaGreatDoor.Mu
