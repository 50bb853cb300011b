import Derived.Test.YtmloadclmjcbbaaGreatDoorRows
import Derived.ProofKit
import Derived.LaidMore
import Derived.OpenShut
import Derived.Lib.LaidTab
import Derived.Lib.LaidU8T
import Derived.Stop.Joined
import Derived.Test.YtmloadclmjcbbaaGreatDoorRac
namespace Go.Proofs.YtmloadclmjcbbaaGreatDoor.Mu
open Go.ChangeShapes Go.ChangeAt Go.WideMaps Go.WideElems Go.WideShapes Go.RowKit
abbrev laidList:List (String × DataW Unit):=[("math/bits.deBruijn32tab",Rows.laid_math_bits_deBruijn32tab),("math/bits.deBruijn64tab",Rows.laid_math_bits_deBruijn64tab),("internal/strconv.uint64pow10",Rows.laid_internal_strconv_uint64pow10),("unicode/utf8.acceptRanges",Rows.laid_unicode_utf8_acceptRanges),("unicode/utf8.first",Rows.laid_unicode_utf8_first)]
theorem own:ownKnob Tryz.prog.godebug=none:=by kernel_rfl
theorem laidOut:laidOutB Tryz.prog=true:=by kernel_rfl
theorem tPow:(Tryz.prog.globals[2]?).map (·.type)=some 228:=by kernel_rfl
theorem qbr{P:Program}{x:String × DataW Unit}{r:List (String × DataW Unit)}{w:World}(h:laidMet P (x::r) w):laidMet P r w:=by
 obtain⟨ps,hv,hnd,hrows⟩:=h;obtain⟨n,d⟩:=x;obtain⟨g,t,cs,fuel,p,q,_,_,_,_,hq,rfl⟩:=hv;exact⟨q,hq,List.Nodup.sublist (List.sublist_append_right _ _) hnd,fun b off hm=>hrows b off (List.mem_append_right _ hm)⟩
def qiE:DataW Unit->List Value
 | .agg ds=>ds.flatMap fun | .lit l=>[l.value] | .agg es=>es.filterMap (fun | .lit l=>some l.value | _=>none) | _=>[]
 | _=>[]
def qbw(d:DataW Unit):Obj->Obj
 | .cells _ t frozen=> .cells (qiE d).toArray t frozen
 | o=>o
noncomputable def doorW (os:Os):World:=
 { World.holding Tryz.prog os ⟨#[],#[],[]⟩ with heap:=(((((begin Tryz.prog (fun _ _=>0) default).world.heap.modify 0 (qbw Rows.laid_unicode_utf8_first)).modify 1 (qbw Rows.laid_unicode_utf8_acceptRanges)).modify 2 (qbw Rows.laid_internal_strconv_uint64pow10)).modify 3 (qbw Rows.laid_math_bits_deBruijn32tab)).modify 4 (qbw Rows.laid_math_bits_deBruijn64tab) }
theorem qkx:(Rows.laid_internal_strconv_uint64pow10:DataW Unit)=Lib.tabData .u64 Lib.pow10Tab:=by
 unfold Rows.laid_internal_strconv_uint64pow10 Lib.tabData Lib.pow10Tab;rfl
theorem qka:(Rows.laid_unicode_utf8_acceptRanges:DataW Unit)=Lib.acceptData:=by kernel_rfl
theorem qiv:(Rows.laid_unicode_utf8_first:DataW Unit)=Lib.firstData:=by kernel_rfl
theorem of_laid{W:World}(h:laidMetH Tryz.prog laidList W):Tbl W:=by
 rw[MakeChecks.laidMetH_plain _ _ _ (by kernel_rfl)]at h;have h2:=qbr (qbr h);rw[qkx]at h2;have r3:=Lib.laidMet.reads h (n := "unicode/utf8.first") (d:=Rows.laid_unicode_utf8_first) (by simp[laidList]);have r4:=Lib.laidMet.reads h (n := "unicode/utf8.acceptRanges") (d:=Rows.laid_unicode_utf8_acceptRanges) (by simp[laidList]);rw[qiv]at r3;rw[qka]at r4;exact⟨Lib.tabIs_of_head gPow tPow Tryz.underlying228 Tryz.underlying203 (by kernel_rfl) (by kernel_rfl) h2,utf8Tabs_of_readsT (U8Types.of196 Tryz.lays196) ⟨by kernel_rfl,by kernel_rfl,by kernel_rfl,by kernel_rfl,by kernel_rfl,by kernel_rfl,by kernel_rfl⟩ r3 r4⟩
end Go.Proofs.YtmloadclmjcbbaaGreatDoor.Mu
