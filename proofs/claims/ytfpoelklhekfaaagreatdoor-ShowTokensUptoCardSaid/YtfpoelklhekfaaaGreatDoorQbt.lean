import Derived.Test.YtfpoelklhekfaaaGreatDoorRows
import Derived.ProofKit
import Derived.LaidMore
import Derived.OpenShut
import Derived.Lib.LaidU8T
import Derived.Stop.Joined
import Derived.Deep.DeepLaidRun
import Derived.Test.YtfpoelklhekfaaaGreatDoorQbk
namespace Go.Proofs.YtfpoelklhekfaaaGreatDoor.Mu
open Go.ChangeShapes Go.ChangeAt Go.WideMaps Go.WideElems Go.WideShapes Go.RowKit
abbrev laidList:List (String × DataW Unit):=[("math/bits.deBruijn32tab",Rows.laid_math_bits_deBruijn32tab),("math/bits.deBruijn64tab",Rows.laid_math_bits_deBruijn64tab),("internal/strconv.uint64pow10",Rows.laid_internal_strconv_uint64pow10),("unicode/utf8.acceptRanges",Rows.laid_unicode_utf8_acceptRanges),("unicode.White_Space",Rows.laid_unicode_White_Space),("strings.asciiSpace",Rows.laid_strings_asciiSpace),("unicode/utf8.first",Rows.laid_unicode_utf8_first)]
theorem own:ownKnob Tryz.prog.godebug=none:=by kernel_rfl
theorem laidOut:laidOutB Tryz.prog=true:=by kernel_rfl
theorem tPow:(Tryz.prog.globals[4]?).map (·.type)=some 241:=by kernel_rfl
theorem zR{P:Program}{x:String × DataW Unit}{r:List (String × DataW Unit)}{w:World}(h:laidMet P (x::r) w):laidMet P r w:=by
 obtain⟨ps,hv,hnd,hrows⟩:=h;obtain⟨n,d⟩:=x;obtain⟨g,t,cs,fuel,p,q,_,_,_,_,hq,rfl⟩:=hv;exact⟨q,hq,List.Nodup.sublist (List.sublist_append_right _ _) hnd,fun b off hm=>hrows b off (List.mem_append_right _ hm)⟩
def Qa:DataW Unit->List Value
 | .agg ds=>ds.flatMap fun | .lit l=>[l.value] | .agg es=>es.filterMap (fun | .lit l=>some l.value | _=>none) | _=>[]
 | _=>[]
def spaceVals:List Value:=[9,13,1,32,133,101,160,5760,5600,8192,8202,1,8232,8233,1,8239,8287,48,12288,12288,1].map fun n:Int=> .int .u16 n
noncomputable def blk0 (k:Nat):Obj:=((begin Tryz.prog (fun _ _=>0) default).world.heap[k]?).getD (.cells #[] 0)
noncomputable def doorW (os:Os):World:=
 { World.holding Tryz.prog os ⟨#[],#[],[]⟩ with heap:=⟨[.cells (Qa Rows.laid_strings_asciiSpace).toArray 96,.cells #[.pointer (some ⟨14,0,none⟩)] 127,.cells (Qa Rows.laid_unicode_utf8_first).toArray 96,.cells (Qa Rows.laid_unicode_utf8_acceptRanges).toArray 176,.cells (Qa Rows.laid_internal_strconv_uint64pow10).toArray 241,.cells (Qa Rows.laid_math_bits_deBruijn32tab).toArray 274,.cells (Qa Rows.laid_math_bits_deBruijn64tab).toArray 275,blk0 7,blk0 8,blk0 9,blk0 10,blk0 11,blk0 12,blk0 13,.cells #[.slice (some ⟨15,0,none⟩) 7 7,.slice none 0 0,.int .i64 2] 199,.cells spaceVals.toArray 202]⟩ }
theorem door_met(os:Os)(args:Array Value):laidMetH Tryz.prog laidList ((doorW os).forCall (fun _ _=>0) ⟨#[],args,[]⟩).memory:=
 laidMetH_of_parts3 (fuel:=8) (laidMet_of_run3 8 (by kernel_rfl) (by kernel_rfl) (by kernel_rfl)) (by kernel_rfl) (by kernel_rfl)
theorem qiK:(Rows.laid_internal_strconv_uint64pow10:DataW Unit)=Lib.tabData .u64 Lib.pow10Tab:=by
 unfold Rows.laid_internal_strconv_uint64pow10 Lib.tabData Lib.pow10Tab;rfl
theorem qil:(Rows.laid_unicode_utf8_acceptRanges:DataW Unit)=Lib.acceptData:=by kernel_rfl
theorem qgI:(Rows.laid_unicode_utf8_first:DataW Unit)=Lib.firstData:=by kernel_rfl
theorem qhd:(Rows.laid_strings_asciiSpace:DataW Unit)=Lib.tabData .u8 Lib.asciiSpaceTab:=by kernel_rfl
theorem tSpc:(Tryz.prog.globals[0]?).map (·.type)=some 96:=by kernel_rfl
theorem of_laid{W:World}(h:laidMetH Tryz.prog laidList W):Tbl W/\Lib.TabIs Tryz.prog W "strings.asciiSpace" .u8 Lib.asciiSpaceTab:=by
 rw[MakeChecks.laidMetH_plain _ _ _ (by kernel_rfl)]at h;have h2:=zR (zR h);have h6:=zR (zR (zR h2));rw[qiK]at h2;rw[qhd]at h6;have r3:=Lib.laidMet.reads h (n := "unicode/utf8.first") (d:=Rows.laid_unicode_utf8_first) (by simp[laidList]);have r4:=Lib.laidMet.reads h (n := "unicode/utf8.acceptRanges") (d:=Rows.laid_unicode_utf8_acceptRanges) (by simp[laidList]);rw[qgI]at r3;rw[qil]at r4;exact⟨⟨Lib.tabIs_of_head gPow tPow Tryz.underlying241 Tryz.underlying224 (by kernel_rfl) (by kernel_rfl) h2,utf8Tabs_of_readsT (U8Types.of196 Tryz.lays196) ⟨by kernel_rfl,by kernel_rfl,by kernel_rfl,by kernel_rfl,by kernel_rfl,by kernel_rfl,by kernel_rfl⟩ r3 r4⟩,Lib.tabIs_of_head qcV tSpc Tryz.underlying96 Tryz.underlying5 (by kernel_rfl) (by kernel_rfl) h6⟩
end Go.Proofs.YtfpoelklhekfaaaGreatDoor.Mu
