import Derived.Test.YtlmmaoobembadaaGreatDoorRows
import Derived.ProofKit
import Derived.LaidMore
import Derived.OpenShut
import Derived.Lib.LaidTab
import Derived.Lib.LaidU8T
import Derived.Stop.Joined
import Derived.Test.YtlmmaoobembadaaGreatDoorQaf
namespace Go.Proofs.YtlmmaoobembadaaGreatDoor.Mu
open Go.ChangeShapes Go.ChangeAt Go.WideMaps Go.WideElems Go.WideShapes Go.RowKit
abbrev laidList:List (String × DataW Unit):=[("math/bits.deBruijn32tab",Rows.laid_math_bits_deBruijn32tab),("math/bits.deBruijn64tab",Rows.laid_math_bits_deBruijn64tab),("internal/strconv.uint64pow10",Rows.laid_internal_strconv_uint64pow10),("unicode/utf8.acceptRanges",Rows.laid_unicode_utf8_acceptRanges),("unicode/utf8.first",Rows.laid_unicode_utf8_first)]
theorem own:ownKnob Tryz.prog.godebug=none:=by kernel_rfl
theorem laidOut:laidOutB Tryz.prog=true:=by kernel_rfl
theorem tPow:(Tryz.prog.globals[4]?).map (·.type)=some 264:=by kernel_rfl
theorem JS{P:Program}{x:String × DataW Unit}{r:List (String × DataW Unit)}{w:World}(h:laidMet P (x::r) w):laidMet P r w:=by
 obtain⟨ps,hv,hnd,hrows⟩:=h;obtain⟨n,d⟩:=x;obtain⟨g,t,cs,fuel,p,q,_,_,_,_,hq,rfl⟩:=hv;exact⟨q,hq,List.Nodup.sublist (List.sublist_append_right _ _) hnd,fun b off hm=>hrows b off (List.mem_append_right _ hm)⟩
def qhs:DataW Unit->List Value
 | .agg ds=>ds.flatMap fun | .lit l=>[l.value] | .agg es=>es.filterMap (fun | .lit l=>some l.value | _=>none) | _=>[]
 | _=>[]
def JY(d:DataW Unit):Obj->Obj
 | .cells _ t frozen=> .cells (qhs d).toArray t frozen
 | o=>o
noncomputable def doorW (os:Os):World:=
 { World.holding Tryz.prog os ⟨#[],#[],[]⟩ with heap:=(((((begin Tryz.prog (fun _ _=>0) default).world.heap.modify 2 (JY Rows.laid_unicode_utf8_first)).modify 3 (JY Rows.laid_unicode_utf8_acceptRanges)).modify 4 (JY Rows.laid_internal_strconv_uint64pow10)).modify 5 (JY Rows.laid_math_bits_deBruijn32tab)).modify 6 (JY Rows.laid_math_bits_deBruijn64tab) }
theorem qjt:(Rows.laid_internal_strconv_uint64pow10:DataW Unit)=Lib.tabData .u64 Lib.pow10Tab:=by
 unfold Rows.laid_internal_strconv_uint64pow10 Lib.tabData Lib.pow10Tab;rfl
theorem qi5:(Rows.laid_unicode_utf8_acceptRanges:DataW Unit)=Lib.acceptData:=by kernel_rfl
theorem qhj:(Rows.laid_unicode_utf8_first:DataW Unit)=Lib.firstData:=by kernel_rfl
theorem of_laid{W:World}(h:laidMetH Tryz.prog laidList W):Tbl W:=by
 rw[MakeChecks.laidMetH_plain _ _ _ (by kernel_rfl)]at h;have h2:=JS (JS h);rw[qjt]at h2;have r3:=Lib.laidMet.reads h (n := "unicode/utf8.first") (d:=Rows.laid_unicode_utf8_first) (by simp[laidList]);have r4:=Lib.laidMet.reads h (n := "unicode/utf8.acceptRanges") (d:=Rows.laid_unicode_utf8_acceptRanges) (by simp[laidList]);rw[qhj]at r3;rw[qi5]at r4;exact⟨Lib.tabIs_of_head gPow tPow Tryz.underlying264 Tryz.underlying246 (by kernel_rfl) (by kernel_rfl) h2,utf8Tabs_of_readsT (U8Types.of196 Tryz.lays196) ⟨by kernel_rfl,by kernel_rfl,by kernel_rfl,by kernel_rfl,by kernel_rfl,by kernel_rfl,by kernel_rfl⟩ r3 r4⟩
end Go.Proofs.YtlmmaoobembadaaGreatDoor.Mu
