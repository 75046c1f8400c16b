import Derived.Shelf.SlSortCmp.WholeK
import Derived.Shelf.Strings.Builder1
import Derived.Shelf.Small.Utf8
import Derived.Shelf.Small.Bits
import Derived.Shelf.Small.Strs
import Derived.Shelf.Strings.BuilderF
import Derived.Shelf.Strings.BuilderK
import Derived.Shelf.Strings.BuilderRune
import Derived.Shelf.Utf8.AppendRune
import Derived.Shelf.Utf8.AppendRunePlain
import Derived.Shelf.Strconv.Itoa0
import Derived.Shelf.Strings.Search1
import Derived.Shelf.Strings.Prefix
import Derived.Shelf.Strings.Runes
import Derived.Shelf.Bits.Mul64
import Derived.Shelf.Strings.BuilderCap
import Derived.Ground.SlbCloneProg
import Derived.Shelf.Bytes.SlClone
import Derived.Test.YteemnmalikomgaaGreatDoorProg
import Derived.Test.YteemnmalikomgaaGreatDoorRows
import Derived.WalkKit
import Derived.ProofKit
import Derived.OpenShut
import Derived.Deep.DeepHandedRow
import Derived.Lib.LaidTab
import Derived.Lib.Hide
import Derived.Deep.RegionWith
import Derived.RegionCalls
import Derived.Outline
import Derived.RegionTactic
import Derived.ChangeAlike
import Derived.Maps.AppendAt
import Derived.Laws.BitsLemmas
import Derived.Deep.DeepMust
set_option maxRecDepth 100000
set_option maxHeartbeats 1600000
namespace Go.Proofs
open Go.Shelf
def Tryz.sortR_ren:Go.Shelf.Ren:=⟨fun | 6=>137 | 15=>177 | 14=>176 | 28=>226 | 29=>227 | 20=>218 | 21=>219 | 22=>220 | 23=>221 | 24=>222 | 25=>223 | 26=>224 | 27=>225 | 46=>264 | 47=>265 | 48=>266 | 49=>267 | 50=>268 | 57=>296 | n=>n,fun | 22=>26 | 24=>189 | 25=>194 | 3=>3 | 39=>169 | 0=>0 | 53=>284 | 55=>286 | 4=>4 | 46=>278 | 45=>277 | 50=>112 | 5=>5 | 9=>9 | 66=>316 | 70=>144 | 76=>336 | 77=>260 | n=>n,fun | n=>n⟩
theorem Tryz.sortR:Go.Proofs.SlLaysF0.n6 Tryz.prog Tryz.sortR_ren:={
 mixed:=by kernel_rfl
 f6:=⟨Tryz.f137.name,by decide,Tryz.func137.trans (congrArg some (by kernel_rfl))⟩
 f14:=⟨Tryz.f176.name,by decide,Tryz.func176.trans (congrArg some (by kernel_rfl))⟩
 f15:=Tryz.func177.trans (congrArg some (by kernel_rfl))
 f20:=⟨Tryz.f218.name,by decide,Tryz.func218.trans (congrArg some (by kernel_rfl))⟩
 f21:=⟨Tryz.f219.name,by decide,Tryz.func219.trans (congrArg some (by kernel_rfl))⟩
 f22:=⟨Tryz.f220.name,by decide,Tryz.func220.trans (congrArg some (by kernel_rfl))⟩
 f23:=⟨Tryz.f221.name,by decide,Tryz.func221.trans (congrArg some (by kernel_rfl))⟩
 f24:=⟨Tryz.f222.name,by decide,Tryz.func222.trans (congrArg some (by kernel_rfl))⟩
 f25:=⟨Tryz.f223.name,by decide,Tryz.func223.trans (congrArg some (by kernel_rfl))⟩
 f26:=⟨Tryz.f224.name,by decide,Tryz.func224.trans (congrArg some (by kernel_rfl))⟩
 f27:=⟨Tryz.f225.name,by decide,Tryz.func225.trans (congrArg some (by kernel_rfl))⟩
 f28:=Tryz.func226.trans (congrArg some (by kernel_rfl))
 f29:=Tryz.func227.trans (congrArg some (by kernel_rfl))
 f46:=⟨Tryz.f264.name,by decide,Tryz.func264.trans (congrArg some (by kernel_rfl))⟩
 f47:=Tryz.func265.trans (congrArg some (by kernel_rfl))
 f48:=Tryz.func266.trans (congrArg some (by kernel_rfl))
 f49:=⟨Tryz.f267.name,by decide,Tryz.func267.trans (congrArg some (by kernel_rfl))⟩
 f50:=⟨Tryz.f268.name,by decide,Tryz.func268.trans (congrArg some (by kernel_rfl))⟩
 f57:=⟨Tryz.f296.name,by decide,Tryz.func296.trans (congrArg some (by kernel_rfl))⟩
 t0:=Tryz.underlying0
 a0:=Tryz.isAgg0
 z0:=Tryz.sizeOf0
 v0:=Tryz.zeroValue0
 t3:=Tryz.underlying3
 a3:=Tryz.isAgg3
 z3:=Tryz.sizeOf3
 v3:=Tryz.zeroValue3
 t4:=Tryz.underlying4
 a4:=Tryz.isAgg4
 z4:=Tryz.sizeOf4
 v4:=Tryz.zeroValue4
 t5:=Tryz.underlying5
 a5:=Tryz.isAgg5
 z5:=Tryz.sizeOf5
 v5:=Tryz.zeroValue5
 t9:=Tryz.underlying9
 a9:=Tryz.isAgg9
 z9:=Tryz.sizeOf9
 v9:=Tryz.zeroValue9
 t22:=Tryz.underlying26
 a22:=Tryz.isAgg26
 z22:=Tryz.sizeOf26
 v22:=Tryz.zeroValue26
 t25:=Tryz.underlying194
 a25:=Tryz.isAgg194
 z25:=Tryz.sizeOf194
 v25:=Tryz.zeroValue194
 t39:=Tryz.underlying169
 a39:=Tryz.isAgg169
 z39:=Tryz.sizeOf169
 v39:=Tryz.zeroValue169
 t45:=Tryz.underlying277
 a45:=Tryz.isAgg277
 z45:=Tryz.sizeOf277
 v45:=Tryz.zeroValue277
 t46:=Tryz.underlying278
 a46:=Tryz.isAgg278
 z46:=Tryz.sizeOf278
 v46:=Tryz.zeroValue278
 t50:=Tryz.underlying112
 a50:=Tryz.isAgg112
 z50:=Tryz.sizeOf112
 v50:=Tryz.zeroValue112
 t53:=Tryz.underlying284
 a53:=Tryz.isAgg284
 z53:=Tryz.sizeOf284
 v53:=Tryz.zeroValue284
 t55:=Tryz.underlying286
 a55:=Tryz.isAgg286
 z55:=Tryz.sizeOf286
 v55:=Tryz.zeroValue286
 t66:=Tryz.underlying316
 a66:=Tryz.isAgg316
 z66:=Tryz.sizeOf316
 v66:=Tryz.zeroValue316
 t70:=Tryz.underlying144
 a70:=Tryz.isAgg144
 z70:=Tryz.sizeOf144
 v70:=Tryz.zeroValue144
 t76:=Tryz.underlying336
 a76:=Tryz.isAgg336
 z76:=Tryz.sizeOf336
 v76:=Tryz.zeroValue336
 t77:=Tryz.underlying260
 a77:=Tryz.isAgg260
 z77:=Tryz.sizeOf260
 v77:=Tryz.zeroValue260 }
def Tryz.lays169_ren:Go.Shelf.Ren:=⟨fun | 169=>170 | n=>n,fun | 70=>225 | 9=>9 | 0=>0 | 72=>227 | 37=>89 | 127=>271 | 3=>3 | 5=>5 | n=>n,fun | n=>n⟩
theorem Tryz.lays169:Go.Proofs.Lays.n169 Tryz.prog Tryz.lays169_ren:={
 mixed:=by kernel_rfl
 f169:=Tryz.func170.trans (congrArg some (by kernel_rfl))
 t0:=Tryz.underlying0
 a0:=Tryz.isAgg0
 z0:=Tryz.sizeOf0
 v0:=Tryz.zeroValue0
 t3:=Tryz.underlying3
 a3:=Tryz.isAgg3
 z3:=Tryz.sizeOf3
 v3:=Tryz.zeroValue3
 t9:=Tryz.underlying9
 a9:=Tryz.isAgg9
 z9:=Tryz.sizeOf9
 v9:=Tryz.zeroValue9
 t37:=Tryz.underlying89
 a37:=Tryz.isAgg89
 z37:=Tryz.sizeOf89
 v37:=Tryz.zeroValue89
 t70:=Tryz.underlying225
 a70:=Tryz.isAgg225
 z70:=Tryz.sizeOf225
 v70:=Tryz.zeroValue225
 t72:=Tryz.underlying227
 a72:=Tryz.isAgg227
 z72:=Tryz.sizeOf227
 v72:=Tryz.zeroValue227
 t127:=Tryz.underlying271
 a127:=Tryz.isAgg271
 z127:=Tryz.sizeOf271
 v127:=Tryz.zeroValue271 }
theorem Tryz.Builder_Extra_169:Builder.Extra Tryz.prog Tryz.lays169_ren:={
 sizeBuilder:=by kernel_rfl
 liesBuilder:=by kernel_rfl
 t5:=Tryz.underlying5
 a5:=Tryz.isAgg5
 z5:=Tryz.sizeOf5
 v5:=Tryz.zeroValue5
 infoByte:=by kernel_rfl
 cellsByte:=by kernel_rfl
 sizeByte:=by kernel_rfl
 neB5:=by decide }
def Tryz.lays119_ren:Go.Shelf.Ren:=⟨fun | 119=>257 | n=>n,fun | 21=>21 | 4=>4 | n=>n,fun | n=>n⟩
theorem Tryz.lays119:Go.Proofs.Lays.n119 Tryz.prog Tryz.lays119_ren:={
 mixed:=by kernel_rfl
 f119:=Tryz.func257.trans (congrArg some (by kernel_rfl))
 t4:=Tryz.underlying4
 a4:=Tryz.isAgg4
 z4:=Tryz.sizeOf4
 v4:=Tryz.zeroValue4
 t21:=Tryz.underlying21
 a21:=Tryz.isAgg21
 z21:=Tryz.sizeOf21
 v21:=Tryz.zeroValue21 }
theorem Tryz.utf8_ValidRune (r:Int) (w:World) :
  Calls Tryz.prog 257 #[.int .i32 r] w fun e w'=>e=.returned (.bool (Lib.validRune r))∧w'=w:=Any.utf8_ValidRune Tryz.lays119 r w
def Tryz.lays137_ren:Go.Shelf.Ren:=⟨fun | 137=>114 | 217=>163 | 266=>204 | n=>n,fun | 9=>9 | 5=>5 | 3=>3 | n=>n,fun | n=>n⟩
theorem Tryz.lays137:Go.Proofs.Lays.n137 Tryz.prog Tryz.lays137_ren:={
 mixed:=by kernel_rfl
 f137:=Tryz.func114.trans (congrArg some (by kernel_rfl))
 f217:=Tryz.func163.trans (congrArg some (by kernel_rfl))
 f266:=Tryz.func204.trans (congrArg some (by kernel_rfl))
 t3:=Tryz.underlying3
 a3:=Tryz.isAgg3
 z3:=Tryz.sizeOf3
 v3:=Tryz.zeroValue3
 t5:=Tryz.underlying5
 a5:=Tryz.isAgg5
 z5:=Tryz.sizeOf5
 v5:=Tryz.zeroValue5
 t9:=Tryz.underlying9
 a9:=Tryz.isAgg9
 z9:=Tryz.sizeOf9
 v9:=Tryz.zeroValue9 }
open Go.RowKit in
theorem Tryz.strings_IndexByte (s:ByteArray) (c:Int) (w:World) :
  Calls Tryz.prog 114 #[.string s,.int .u8 c] w fun e w'=>e=.returned (.int .i64 (Lib.indexByte s.data.toList c.toNat.toUInt8))∧w'=w:=Any.strings_IndexByte Tryz.lays137 s c w
def Tryz.lays151_ren:Go.Shelf.Ren:=⟨fun | 151=>167 | 152=>205 | 137=>114 | 119=>257 | 224=>258 | 225=>259 | 217=>163 | 266=>204 | n=>n,fun | 9=>9 | 21=>21 | 4=>4 | 3=>3 | 5=>5 | 0=>0 | 46=>169 | n=>n,fun | n=>n⟩
theorem Tryz.lays151:Go.Proofs.Lays.n151 Tryz.prog Tryz.lays151_ren:={
 mixed:=by kernel_rfl
 f119:=Tryz.func257.trans (congrArg some (by kernel_rfl))
 f137:=Tryz.func114.trans (congrArg some (by kernel_rfl))
 f151:=Tryz.func167.trans (congrArg some (by kernel_rfl))
 f152:=Tryz.func205.trans (congrArg some (by kernel_rfl))
 f217:=Tryz.func163.trans (congrArg some (by kernel_rfl))
 f224:=Tryz.func258.trans (congrArg some (by kernel_rfl))
 f225:=Tryz.func259.trans (congrArg some (by kernel_rfl))
 f266:=Tryz.func204.trans (congrArg some (by kernel_rfl))
 t0:=Tryz.underlying0
 a0:=Tryz.isAgg0
 z0:=Tryz.sizeOf0
 v0:=Tryz.zeroValue0
 t3:=Tryz.underlying3
 a3:=Tryz.isAgg3
 z3:=Tryz.sizeOf3
 v3:=Tryz.zeroValue3
 t4:=Tryz.underlying4
 a4:=Tryz.isAgg4
 z4:=Tryz.sizeOf4
 v4:=Tryz.zeroValue4
 t5:=Tryz.underlying5
 a5:=Tryz.isAgg5
 z5:=Tryz.sizeOf5
 v5:=Tryz.zeroValue5
 t9:=Tryz.underlying9
 a9:=Tryz.isAgg9
 z9:=Tryz.sizeOf9
 v9:=Tryz.zeroValue9
 t21:=Tryz.underlying21
 a21:=Tryz.isAgg21
 z21:=Tryz.sizeOf21
 v21:=Tryz.zeroValue21
 t46:=Tryz.underlying169
 a46:=Tryz.isAgg169
 z46:=Tryz.sizeOf169
 v46:=Tryz.zeroValue169 }
open Go.RowKit Go.Lib in
theorem Tryz.strings_ContainsRune_ascii (s:ByteArray) (r:Int) (w:World) (h0:0≤r) (h1:r<128) :
  Calls Tryz.prog 167 #[.string s,.int .i32 r] w fun e w'=>e=.returned (.bool (decide (0≤Lib.indexByte s.data.toList r.toNat.toUInt8)))∧w'=w:=Any.strings_ContainsRune_ascii Tryz.lays151 s r w h0 h1
def Tryz.lays212_ren:Go.Shelf.Ren:=⟨fun | 212=>203 | 263=>255 | 264=>256 | n=>n,fun | 46=>169 | 51=>284 | 146=>308 | 53=>286 | 148=>310 | n=>n,fun | n=>n⟩
theorem Tryz.lays212:Go.Proofs.Lays.n212 Tryz.prog Tryz.lays212_ren:={
 mixed:=by kernel_rfl
 f212:=Tryz.func203.trans (congrArg some (by kernel_rfl))
 f263:=Tryz.func255.trans (congrArg some (by kernel_rfl))
 f264:=Tryz.func256.trans (congrArg some (by kernel_rfl))
 t46:=Tryz.underlying169
 a46:=Tryz.isAgg169
 z46:=Tryz.sizeOf169
 v46:=Tryz.zeroValue169
 t51:=Tryz.underlying284
 a51:=Tryz.isAgg284
 z51:=Tryz.sizeOf284
 v51:=Tryz.zeroValue284
 t53:=Tryz.underlying286
 a53:=Tryz.isAgg286
 z53:=Tryz.sizeOf286
 v53:=Tryz.zeroValue286
 t146:=Tryz.underlying308
 a146:=Tryz.isAgg308
 z146:=Tryz.sizeOf308
 v146:=Tryz.zeroValue308
 t148:=Tryz.underlying310
 a148:=Tryz.isAgg310
 z148:=Tryz.sizeOf310
 v148:=Tryz.zeroValue310 }
open Go.RowKit Go.Lib in
theorem Tryz.bits_Mul (x y:Nat) (hx:x<18446744073709551616) (hy:y<18446744073709551616) (w:World) :
  Calls Tryz.prog 203 #[.int .u64 x,.int .u64 y] w fun e w'=>e=.returned (.tuple #[.int .u64 ((x*y / 18446744073709551616:Nat):Int),.int .u64 ((x*y % 18446744073709551616:Nat):Int)])∧w'=w:=Any.bits_Mul Tryz.lays212 x y hx hy w
end Go.Proofs
namespace Go.Proofs.YteemnmalikomgaaGreatDoor
open Go.ChangeShapes Go.WideShapes Go.ChangeAt Go.RowKit
def aU:List (Int×Int×Int) :=
 [(-2147483648,31,0),(127,159,0),(768,879,0),(4352,4447,2),(8203,8207,0),(11904,12350,2),(12353,13311,2),(13312,19903,2),(19968,40959,2),(40960,42191,2),(44032,55203,2),(55296,57343,0),(63744,64255,2),(65024,65039,0),(65072,65135,2),(65280,65376,2),(65504,65510,2),(127744,128591,2),(129280,129535,2),(131072,262141,2),(1114112,2147483647,0)]
def bH (i:Nat):Int:=(aU.getD i (0,0,0)).1
def cK (i:Nat):Int:=(aU.getD i (0,0,0)).2.1
def yB (i:Nat):Int:=(aU.getD i (0,0,0)).2.2
structure dw (w:World):Prop where
 size:0<w.heap.size
 first:∀i,i<21→w.cell? ⟨0,i*3,none⟩=some (.int .i32 (bH i))
 last:∀i,i<21→w.cell? ⟨0,i*3+1,none⟩=some (.int .i32 (cK i))
 wide:∀i,i<21→w.cell? ⟨0,i*3+2,none⟩=some (.int .i64 (yB i))
theorem dw.below {w w':World} {B:Nat} (h:dw w) (hb:Below B w w') (hB:0<B):dw w' :=
 ⟨Nat.lt_of_lt_of_le h.size hb.size,fun i hi=>(hb.cell (p:=⟨0,i*3,none⟩) hB).trans (h.first i hi),fun i hi=>(hb.cell (p:=⟨0,i*3+1,none⟩) hB).trans (h.last i hi),fun i hi=>(hb.cell (p:=⟨0,i*3+2,none⟩) hB).trans (h.wide i hi)⟩
theorem dw.drew {w:World} (h:dw w):dw w.drew:=⟨h.size,h.first,h.last,h.wide⟩
theorem OJ:Tryz.prog.globalNamed "rotulus/width.spans" = some 0:=by kernel_rfl
theorem L6:(Tryz.prog.globals[0]?).map (·.type)=some 224:=by kernel_rfl
theorem L8:Tryz.prog.cellsOf 224=63:=by kernel_rfl
theorem DR:Tryz.prog.cellsOf 223=3:=by kernel_rfl
theorem DT:Tryz.prog.cellsOf 21=1:=by kernel_rfl
theorem Rp:Tryz.prog.cellsOf 3=1:=by kernel_rfl
theorem L9 {H:Type} {enc:TypeId×Value→H} {w:World} {base:Nat} {sp:Nat→Bool} {held:Bool} {fuel:Nat} {cs:List Value} {a b c:Int} {x:DataW H×List MemPlace}
  (h:DataW.trod enc Tryz.prog w base sp held fuel 223 cs=some x) (hx:x.1=.agg [.lit (.int .i32 a),.lit (.int .i32 b),.lit (.int .i64 c)]):cs=[.int .i32 a,.int .i32 b,.int .i64 c]:=by
 obtain ⟨xs,m,rfl,rfl,hl,hn,hf⟩:=DataW.trod_struct Tryz.underlying223 h
 rw [DR] at hl
 match cs,hl with
 | [c0,c1,c2],_ =>
  have f0:DataW.trod enc Tryz.prog w base sp held m 21 [c0]=xs[0]?:=by have:=hf 0 _ rfl; simpa [DT] using this
  have f1:DataW.trod enc Tryz.prog w base sp held m 21 [c1]=xs[1]?:=by have:=hf 1 _ rfl; simpa [DT] using this
  have f2:DataW.trod enc Tryz.prog w base sp held m 3 [c2]=xs[2]?:=by have:=hf 2 _ rfl; simpa [Rp] using this
  match xs,hn with
  | [x0,x1,x2],_ =>
   simp only [List.getElem?_cons_zero,List.getElem?_cons_succ] at f0 f1 f2
   obtain ⟨z0,e0,rfl,_⟩:=DataW.trod_int Tryz.underlying21 f0
   obtain ⟨z1,e1,rfl,_⟩:=DataW.trod_int Tryz.underlying21 f1
   obtain ⟨z2,e2,rfl,_⟩:=DataW.trod_int Tryz.underlying3 f2
   simp at e0 e1 e2 hx
   obtain ⟨rfl,rfl,rfl⟩:=hx
   rw [e0,e1,e2]
theorem OL {H:Type}:Rows.laid_rotulus_width_spans (H:=H)=.agg (aU.map fun x=>.agg [.lit (.int .i32 x.1),.lit (.int .i32 x.2.1),.lit (.int .i64 x.2.2)]):=rfl
theorem Rq {W:World} (h:laidMetH Tryz.prog [("rotulus/width.spans",Rows.laid_rotulus_width_spans)] W):dw W:=by
 have h':laidMet Tryz.prog [("rotulus/width.spans",Rows.laid_rotulus_width_spans)] W:=h
 obtain ⟨ps,⟨g',t',cs,fuel,p,q,hg',ht',hvar,hd,_,_⟩,_⟩:=h'
 obtain rfl:=Option.some.inj (OJ.symm.trans hg')
 obtain rfl:=Option.some.inj (L6.symm.trans ht')
 obtain ⟨xs,m,rfl,hx,hl,hn,hf⟩:=DataW.trod_array Tryz.underlying224 hd
 rw [DR] at hf
 rw [L8] at hl
 have hxs:xs.map (·.1)=aU.map fun x=>(DataW.agg [.lit (.int .i32 x.1),.lit (.int .i32 x.2.1),.lit (.int .i64 x.2.2)]:DataW Unit):=by
  have:=congrArg Prod.fst hx
  rw [OL] at this
  exact (DataW.agg.inj this).symm
 have key:∀i,i<21→(cs.toList.drop (i*3)).take 3=[.int .i32 (bH i),.int .i32 (cK i),.int .i64 (yB i)]:=by
  intro i hi
  have hr:aU[i]? = some (aU.getD i (0,0,0)):=by
   have:i<aU.length:=hi
   simp [List.getD,this]
  have h1:(xs.map (·.1))[i]? = some (DataW.agg [.lit (.int .i32 (bH i)),.lit (.int .i32 (cK i)),.lit (.int .i64 (yB i))]:DataW Unit):=by
   rw [hxs,List.getElem?_map,hr]; rfl
  have h2:=hf i hi
  rw [List.getElem?_map,Option.map_eq_some_iff] at h1
  obtain ⟨x,hx1,hx2⟩:=h1
  rw [hx1] at h2
  exact L9 h2 hx2
 have cell:∀i j v,i<21→[Value.int .i32 (bH i),.int .i32 (cK i),.int .i64 (yB i)][j]? = some v→W.cell? ⟨0,i*3+j,none⟩=some v:=by
  intro i j v hi hv
  rw [World.var?_cell OJ hvar,←hv,←key i hi,List.getElem?_take,←Array.getElem?_toList]
  have hj:j<3:=by
   by_cases hj:j<3
   ·exact hj
   ·rw [List.getElem?_eq_none (by simp; omega)] at hv; cases hv
  rw [if_pos hj,List.getElem?_drop]
 refine ⟨World.block_lt_of_cell? W _ (cell 0 0 _ (by omega) rfl),fun i hi=>cell i 0 _ hi rfl,fun i hi=>cell i 1 _ hi rfl,fun i hi=>cell i 2 _ hi rfl⟩
def eZ (r:Int):Int :=
 if r≤31 then 0 else
 if 127≤r∧r≤159 then 0 else
 if 768≤r∧r≤879 then 0 else
 if 4352≤r∧r≤4447 then 2 else
 if 8203≤r∧r≤8207 then 0 else
 if 11904≤r∧r≤12350 then 2 else
 if 12353≤r∧r≤13311 then 2 else
 if 13312≤r∧r≤19903 then 2 else
 if 19968≤r∧r≤40959 then 2 else
 if 40960≤r∧r≤42191 then 2 else
 if 44032≤r∧r≤55203 then 2 else
 if 55296≤r∧r≤57343 then 0 else
 if 63744≤r∧r≤64255 then 2 else
 if 65024≤r∧r≤65039 then 0 else
 if 65072≤r∧r≤65135 then 2 else
 if 65280≤r∧r≤65376 then 2 else
 if 65504≤r∧r≤65510 then 2 else
 if 127744≤r∧r≤128591 then 2 else
 if 129280≤r∧r≤129535 then 2 else
 if 131072≤r∧r≤262141 then 2 else
 if 1114112≤r then 0 else
 1
theorem wG (r:Int):0≤eZ r∧eZ r≤2:=by
 unfold eZ
 repeat' split
 all_goals omega
theorem Rt (r:Int) (h0 : -2147483648≤r) (h1:r≤2147483647) (h:∀i,i<21→cK i<r∨r<bH i):eZ r=1:=by
 have k:∀i,i<21→¬(bH i≤r∧r≤cK i):=fun i hi e=>by have:=h i hi; omega
 have k0:=k 0 (by omega); have k1:=k 1 (by omega); have k2:=k 2 (by omega); have k3:=k 3 (by omega); have k4:=k 4 (by omega); have k5:=k 5 (by omega); have k6:=k 6 (by omega)
 have k7:=k 7 (by omega); have k8:=k 8 (by omega); have k9:=k 9 (by omega); have k10:=k 10 (by omega); have k11:=k 11 (by omega); have k12:=k 12 (by omega); have k13:=k 13 (by omega)
 have k14:=k 14 (by omega); have k15:=k 15 (by omega); have k16:=k 16 (by omega); have k17:=k 17 (by omega); have k18:=k 18 (by omega); have k19:=k 19 (by omega); have k20:=k 20 (by omega)
 simp only [bH,cK,aU,List.getD_cons_zero,List.getD_cons_succ] at k0 k1 k2 k3 k4 k5 k6 k7 k8 k9 k10 k11 k12 k13 k14 k15 k16 k17 k18 k19 k20
 unfold eZ
 repeat rw [if_neg (by omega)]
theorem U4 (r:Int) (i:Nat) (hi:i<21) (h0:bH i≤r) (h1:r≤cK i):eZ r=yB i:=by
 unfold eZ
 match i,hi with
 | 0,_=>simp only [bH,cK,aU,List.getD_cons_zero] at h0 h1; (repeat rw [if_neg (by omega)]); rw [if_pos (by omega)]; rfl
 | 1,_=>simp only [bH,cK,aU,List.getD_cons_zero,List.getD_cons_succ] at h0 h1; (repeat rw [if_neg (by omega)]); rw [if_pos (by omega)]; rfl
 | 2,_=>simp only [bH,cK,aU,List.getD_cons_zero,List.getD_cons_succ] at h0 h1; (repeat rw [if_neg (by omega)]); rw [if_pos (by omega)]; rfl
 | 3,_=>simp only [bH,cK,aU,List.getD_cons_zero,List.getD_cons_succ] at h0 h1; (repeat rw [if_neg (by omega)]); rw [if_pos (by omega)]; rfl
 | 4,_=>simp only [bH,cK,aU,List.getD_cons_zero,List.getD_cons_succ] at h0 h1; (repeat rw [if_neg (by omega)]); rw [if_pos (by omega)]; rfl
 | 5,_=>simp only [bH,cK,aU,List.getD_cons_zero,List.getD_cons_succ] at h0 h1; (repeat rw [if_neg (by omega)]); rw [if_pos (by omega)]; rfl
 | 6,_=>simp only [bH,cK,aU,List.getD_cons_zero,List.getD_cons_succ] at h0 h1; (repeat rw [if_neg (by omega)]); rw [if_pos (by omega)]; rfl
 | 7,_=>simp only [bH,cK,aU,List.getD_cons_zero,List.getD_cons_succ] at h0 h1; (repeat rw [if_neg (by omega)]); rw [if_pos (by omega)]; rfl
 | 8,_=>simp only [bH,cK,aU,List.getD_cons_zero,List.getD_cons_succ] at h0 h1; (repeat rw [if_neg (by omega)]); rw [if_pos (by omega)]; rfl
 | 9,_=>simp only [bH,cK,aU,List.getD_cons_zero,List.getD_cons_succ] at h0 h1; (repeat rw [if_neg (by omega)]); rw [if_pos (by omega)]; rfl
 | 10,_=>simp only [bH,cK,aU,List.getD_cons_zero,List.getD_cons_succ] at h0 h1; (repeat rw [if_neg (by omega)]); rw [if_pos (by omega)]; rfl
 | 11,_=>simp only [bH,cK,aU,List.getD_cons_zero,List.getD_cons_succ] at h0 h1; (repeat rw [if_neg (by omega)]); rw [if_pos (by omega)]; rfl
 | 12,_=>simp only [bH,cK,aU,List.getD_cons_zero,List.getD_cons_succ] at h0 h1; (repeat rw [if_neg (by omega)]); rw [if_pos (by omega)]; rfl
 | 13,_=>simp only [bH,cK,aU,List.getD_cons_zero,List.getD_cons_succ] at h0 h1; (repeat rw [if_neg (by omega)]); rw [if_pos (by omega)]; rfl
 | 14,_=>simp only [bH,cK,aU,List.getD_cons_zero,List.getD_cons_succ] at h0 h1; (repeat rw [if_neg (by omega)]); rw [if_pos (by omega)]; rfl
 | 15,_=>simp only [bH,cK,aU,List.getD_cons_zero,List.getD_cons_succ] at h0 h1; (repeat rw [if_neg (by omega)]); rw [if_pos (by omega)]; rfl
 | 16,_=>simp only [bH,cK,aU,List.getD_cons_zero,List.getD_cons_succ] at h0 h1; (repeat rw [if_neg (by omega)]); rw [if_pos (by omega)]; rfl
 | 17,_=>simp only [bH,cK,aU,List.getD_cons_zero,List.getD_cons_succ] at h0 h1; (repeat rw [if_neg (by omega)]); rw [if_pos (by omega)]; rfl
 | 18,_=>simp only [bH,cK,aU,List.getD_cons_zero,List.getD_cons_succ] at h0 h1; (repeat rw [if_neg (by omega)]); rw [if_pos (by omega)]; rfl
 | 19,_=>simp only [bH,cK,aU,List.getD_cons_zero,List.getD_cons_succ] at h0 h1; (repeat rw [if_neg (by omega)]); rw [if_pos (by omega)]; rfl
 | 20,_=>simp only [bH,cK,aU,List.getD_cons_zero,List.getD_cons_succ] at h0 h1; (repeat rw [if_neg (by omega)]); rw [if_pos (by omega)]; rfl
 | n+21,h=>omega
theorem Jw:∀j,j<21→∀i,i<j→bH i≤bH j:=by decide +kernel
theorem Ma:∀j,j<21→∀i,i<j→cK i≤cK j:=by decide +kernel
theorem jZ {k:IntKind} {a b:Int} (h:a=b):Ending.returned (.int k a)=.returned (.int k b):=by rw [h]
theorem aC {a b:Bool} (h:a=b):Ending.returned (.bool a)=.returned (.bool b):=by rw [h]
structure Sq (w:World) (B size n:Nat) (A:Option Addr) (xs:List Value):Prop where
 len:xs.length=n*size
 spot:0<n→∃b off,A=some ⟨b,off,none⟩∧b<B∧∀j u,xs[j]? = some u→w.cell? ⟨b,off+j,none⟩=some u
def nth (l:List Int) (k:Nat):Int:=l.getD k 0
theorem gN {l:List Int} {k:Nat} (h:k<l.length):nth l k=l[k]:=by simp [nth,List.getD,h]
namespace Sq
variable {w w':World} {B B' size n:Nat} {A:Option Addr} {xs:List Value}
theorem nothing (w:World) (B size:Nat) (A:Option Addr):Sq w B size 0 A []:=⟨by simp,fun h=>absurd h (Nat.lt_irrefl 0)⟩
theorem carry (h:Sq w B size n A xs) (k:∀p:Addr,p.block<B→w'.cell? p=w.cell? p):Sq w' B size n A xs :=
 ⟨h.len,fun hn=>let ⟨b,off,e,hb,hc⟩:=h.spot hn; ⟨b,off,e,hb,fun j u hu=>(k ⟨b,off+j,none⟩ hb).trans (hc j u hu)⟩⟩
theorem below (h:Sq w B size n A xs) (hb:Below B w w'):Sq w' B size n A xs:=h.carry fun _ hp=>hb.cell hp
theorem up (h:Sq w B size n A xs) (hB:B≤B'):Sq w B' size n A xs :=
 ⟨h.len,fun hn=>let ⟨b,off,e,hb,hc⟩:=h.spot hn; ⟨b,off,e,Nat.lt_of_lt_of_le hb hB,hc⟩⟩
theorem alloc (h:Sq w B size n A xs) (hB:B≤w.heap.size) (o:Obj):Sq (w.alloc o) B size n A xs:=h.below ((Below.refl _ _).alloc hB o)
theorem setCell (h:Sq w B size n A xs) {p:Addr} (hp:B≤p.block) (u:Value):Sq (w.setCell p u) B size n A xs:=h.below ((Below.refl _ _).setCell hp u)
theorem own {base:Nat} {e:TypeId} {c:Nat} (h:w.ownsRow base e size (.slice A n c) n xs):Sq w w.heap.size size n A xs:=by
 refine ⟨h.1,fun hn=> ?_⟩
 rcases h.2 with ⟨hv,h0⟩ | ⟨g,cap,cur,hv,_,hg,_,_,_,htake⟩
 ·omega
 ·have hA:A=some ⟨g,0,none⟩:=by injection hv
  subst hA
  refine ⟨g,0,rfl,(Array.getElem?_eq_some_iff.1 hg).1,fun j u hu=> ?_⟩
  rw [cell_of_row w g (0+j) cur e (0,0) hg,Nat.zero_add]
  rw [←htake,List.getElem?_take] at hu
  split at hu
  ·simpa using hu
  ·cases hu
end Sq
def Runes (l:List Int):Prop:=∀r∈l,-2147483648≤r∧r≤2147483647
theorem Runes.get {l:List Int} (h:Runes l) (i:Nat) : -2147483648≤nth l i∧nth l i≤2147483647:=by
 by_cases hi:i<l.length
 ·rw [gN hi]; exact h _ (List.getElem_mem hi)
 ·have e:nth l i=0:=by simp [nth,List.getD,show l.length≤i by omega]
  rw [e]; omega
theorem DU {l:List Int} {k:Nat} (h:k<l.length):l.take (k+1)=l.take k++[nth l k]:=by
 rw [List.take_succ_eq_append_getElem h,gN h]
theorem Ru {α:Type} (l:List α) {k:Nat} (h:l.length≤k):l.take k=l:=List.take_of_length_le h
def aF (s:ByteArray):List Int:=s.data.toList.map fun c=>(c.toNat:Int)
theorem bB (s:ByteArray):(aF s).length=s.size:=by unfold aF; rw [List.length_map,Array.length_toList]; rfl
theorem jg (s:ByteArray) (k:Nat) (h:k<s.size):nth (aF s) k=((s[k]'h).toNat:Int):=by
 have hl:k<(aF s).length:=by rw [bB]; exact h
 rw [gN hl]
 simp only [aF,List.getElem_map]
 rfl
theorem lX (s:ByteArray):∀x∈aF s,0≤x∧x≤255:=by
 intro x hx
 obtain ⟨c,_,rfl⟩:=List.mem_map.1 hx
 have:=c.toNat_lt
 omega
theorem KA (r:Int) (hr0 : -2147483648≤r) (hr1:r≤2147483647) (w:World) (hs:dw w) :
  Calls Tryz.prog 123 #[.int .i32 r] w fun e w'=>e=.returned (.int .i64 (eZ r))∧w=w':=by
 have hf:=hs.first
 have hl:=hs.last
 have hw:=hs.wide
 clear hs
 go_enter Tryz.func123,Tryz.ntmps123
 go_wp2
 go_loop [3,4] (fun lo hi=>∃l h:Nat,l≤h∧h≤21∧lo=.int .i64 l∧hi=.int .i64 h∧(∀i,i<l→cK i<r)∧(∀i,h≤i→i<21→r<bH i)) (fun lo hi=>(intOf hi - intOf lo).toNat)
 case atStart=>exact ⟨0,21,by omega,by omega,rfl,rfl,fun i hi=>by omega,fun i h1 h2=>by omega⟩
 case round =>
  obtain ⟨l,h,hlh,h21,rfl,rfl,hlo,hhi⟩:=hrel
  by_cases hlt:l<h
  ·have f1:=hf ((l+h) / 2) (by omega)
   have l1:=hl ((l+h) / 2) (by omega)
   have w1:=hw ((l+h) / 2) (by omega)
   have hit:=U4 r ((l+h) / 2) (by omega)
   have LO:=Lib.hid hlo
   have HI:=Lib.hid hhi
   have HIT:=Lib.hid hit
   clear hlo hhi hf hl hw hit
   by_cases c1:r<bH ((l+h) / 2)
   ·go_wp2
    go_round
    case rel=>exact ⟨l,(l+h) / 2,by omega,by omega,rfl,by go_num,LO.out,fun i h1 h2=>(Nat.lt_or_eq_of_le h1).elim (fun h3=>Int.lt_of_lt_of_le c1 (Jw i h2 _ h3)) (fun h3=>h3 ▸ c1)⟩
    case measure=>simp [intOf]; omega
   ·by_cases c2:cK ((l+h) / 2)<r
    ·go_wp2
     go_round
     case rel=>exact ⟨(l+h) / 2+1,h,by omega,by omega,by go_num,rfl,fun i h1=>(Nat.lt_or_eq_of_le (Nat.le_of_lt_succ h1)).elim (fun h3=>Int.lt_of_le_of_lt (Ma _ (by omega) i h3) c2) (fun h3=>h3 ▸ c2),HI.out⟩
     case measure=>simp [intOf]; omega
    ·go_wp2
     go_ret
     exact ⟨jZ (HIT.out (by omega) (by omega)).symm,rfl⟩
  ·have M:=Lib.hid (Rt r hr0 hr1 (fun i hi=>by
    by_cases c:i<l
    ·exact Or.inl (hlo i c)
    ·exact Or.inr (hhi i (by omega) hi)))
   clear hlo hhi hf hl hw
   go_wp2
   go_ret
   exact ⟨jZ M.out.symm,rfl⟩
abbrev cellV (r w a:Int):Value:=.agg #[.int .i32 r,.int .i64 w,.int .i64 a]
theorem uj (w:World):Calls Tryz.prog 125 #[] w fun e w'=>e=.returned (cellV 32 1 0)∧Below w.heap.size w w':=by
 go_enter Tryz.func125,Tryz.ntmps125
 go_wp2
 exact bodyPost_ret (v:=cellV 32 1 0) (by simp [results,Tryz.results125,go_sem]) rfl ⟨rfl,(Below.refl _ _).alloc (Nat.le_refl _) _⟩
theorem zy (w:World):Calls Tryz.prog 112 #[] w fun e w'=>e=.returned (cellV 0 1 0)∧Below w.heap.size w w':=by
 go_enter Tryz.func112,Tryz.ntmps112
 go_wp2
 exact bodyPost_ret (v:=cellV 0 1 0) (by simp [results,Tryz.results112,go_sem]) rfl ⟨rfl,(Below.refl _ _).alloc (Nat.le_refl _) _⟩
def jM (c r n a:Int):Bool:=r == c && n == 1 && a == 0
theorem Gc (r n a:Int) (w:World):Calls Tryz.prog 124 #[cellV r n a] w fun e w'=>e=.returned (.bool (jM 32 r n a))∧Below w.heap.size w w':=by
 cases h1:(r == 32)<;>cases h2:(n == 1)<;>cases h3:(a == 0)
 all_goals
  obtain ⟨B,hB⟩:∃B,jM 32 r n a=B:=⟨_,rfl⟩
  rw [hB]
  unfold jM at hB
  rw [h1,h2,h3] at hB
  obtain rfl:=hB
  go_enter Tryz.func124,Tryz.ntmps124
  go_wp2
  go_region_with ((go_at_call 125; refine (uj _).mono ?_; rintro e w' ⟨rfl,hb⟩; have k0:w'.cell? ⟨w.heap.size,0,none⟩=some (.int .i32 r):=(hb.cell (p:=⟨w.heap.size,0,none⟩) (by simp)).trans (by simp); have k1:w'.cell? ⟨w.heap.size,1,none⟩=some (.int .i64 n):=(hb.cell (p:=⟨w.heap.size,1,none⟩) (by simp)).trans (by simp); have k2:w'.cell? ⟨w.heap.size,2,none⟩=some (.int .i64 a):=(hb.cell (p:=⟨w.heap.size,2,none⟩) (by simp)).trans (by simp)))
  all_goals go_wp2
  all_goals go_ret
  all_goals
   have hb':=hb.mono (B':=w.heap.size) (by simp)
   first
    | exact ⟨rfl,(((Below.refl _ _).alloc (Nat.le_refl _) _).drew).trans hb'⟩
    | exact ⟨rfl,((((Below.refl _ _).alloc (Nat.le_refl _) _).drew).trans hb').drew⟩
    | exact ⟨rfl,((Below.refl _ _).alloc (Nat.le_refl _) _).trans hb'⟩
theorem um (r n a:Int) (w:World):Calls Tryz.prog 126 #[cellV r n a] w fun e w'=>e=.returned (.bool (jM 0 r n a))∧Below w.heap.size w w':=by
 cases h1:(r == 0)<;>cases h2:(n == 1)<;>cases h3:(a == 0)
 all_goals
  obtain ⟨B,hB⟩:∃B,jM 0 r n a=B:=⟨_,rfl⟩
  rw [hB]
  unfold jM at hB
  rw [h1,h2,h3] at hB
  obtain rfl:=hB
  go_enter Tryz.func126,Tryz.ntmps126
  go_wp2
  go_region_with ((go_at_call 112; refine (zy _).mono ?_; rintro e w' ⟨rfl,hb⟩; have k0:w'.cell? ⟨w.heap.size,0,none⟩=some (.int .i32 r):=(hb.cell (p:=⟨w.heap.size,0,none⟩) (by simp)).trans (by simp); have k1:w'.cell? ⟨w.heap.size,1,none⟩=some (.int .i64 n):=(hb.cell (p:=⟨w.heap.size,1,none⟩) (by simp)).trans (by simp); have k2:w'.cell? ⟨w.heap.size,2,none⟩=some (.int .i64 a):=(hb.cell (p:=⟨w.heap.size,2,none⟩) (by simp)).trans (by simp)))
  all_goals go_wp2
  all_goals go_ret
  all_goals
   have hb':=hb.mono (B':=w.heap.size) (by simp)
   first
    | exact ⟨rfl,(((Below.refl _ _).alloc (Nat.le_refl _) _).drew).trans hb'⟩
    | exact ⟨rfl,((((Below.refl _ _).alloc (Nat.le_refl _) _).drew).trans hb').drew⟩
    | exact ⟨rfl,((Below.refl _ _).alloc (Nat.le_refl _) _).trans hb'⟩
end Go.Proofs.YteemnmalikomgaaGreatDoor
namespace Go.Proofs.YteemnmalikomgaaGreatDoor
structure St where
  sign:Int
  waits:Int
  missing:Int
  low:Int
  high:Int
def st0:St:=⟨0,0,0,0,0⟩
def brk (st:St):List Int:=if st.waits=0 then [] else [65533]
def iT (b:Int):Int×Int×Int :=
  if b<194 then (0,0,0) else if b<224 then (1,128,191) else if b=224 then (2,160,191) else if b=237 then (2,128,159)
  else if b<240 then (2,128,191) else if b=240 then (3,144,191) else if b<244 then (3,128,191) else if b=244 then (3,128,143) else (0,0,0)
def lead (b m:Int):Int:=if m=1 then b % 32 else if m=2 then b % 16 else b % 8
def fQ (b:Int):St:=if b<128 then st0 else if (iT b).1=0 then st0 else ⟨lead b (iT b).1,1,(iT b).1,(iT b).2.1,(iT b).2.2⟩
def gW (b:Int):List Int:=if b<128 then [b] else if (iT b).1=0 then [65533] else []
def oF (st:St) (b:Int):St:=if st.missing=1 then st0 else ⟨st.sign*64+b % 64,st.waits+1,st.missing - 1,128,191⟩
def qK (st:St) (b:Int):List Int:=if st.missing=1 then [st.sign*64+b % 64] else []
def goes (st:St) (b:Int):Prop:=0<st.waits∧st.low≤b∧b≤st.high
instance (st:St) (b:Int):Decidable (goes st b):=by unfold goes; exact inferInstance
def jc (st:St) (b:Int):St:=if goes st b then oF st b else fQ b
def kL (st:St) (b:Int):List Int:=if goes st b then qK st b else brk st++gW b
structure St.ok (st:St):Prop where
  zero:st.waits=0→st=st0
  waits:0≤st.waits∧st.waits≤3
  missing:0≤st.missing∧st.missing≤3
  pos:0<st.waits→0<st.missing
  sum:st.waits+st.missing≤4
  sign:0≤st.sign∧(st.waits=1→st.sign<32)∧(st.waits=2→st.sign<2048)∧(st.waits=3→st.sign<131072)
  low:0≤st.low∧st.low≤255
  high:0≤st.high∧st.high≤191
theorem ig (b:Int):((b<194∨244<b)∧iT b=(0,0,0))∨(194≤b∧b<224∧iT b=(1,128,191))∨(b=224∧iT b=(2,160,191))∨(b=237∧iT b=(2,128,159))∨(224<b∧b<240∧b≠237∧iT b=(2,128,191))∨(b=240∧iT b=(3,144,191))∨(240<b∧b<244∧iT b=(3,128,191))∨(b=244∧iT b=(3,128,143)):=by
  unfold iT
  by_cases h1:b<194
  · left; exact ⟨.inl h1,by simp [h1]⟩
  · by_cases h2:b<224
    · right; left; exact ⟨by omega,h2,by simp [h1,h2]⟩
    · by_cases h3:b=224
      · right; right; left; exact ⟨h3,by simp [h3]⟩
      · by_cases h4:b=237
        · right; right; right; left; exact ⟨h4,by simp [h4]⟩
        · by_cases h5:b<240
          · right; right; right; right; left; exact ⟨by omega,h5,h4,by simp [h1,h2,h3,h4,h5]⟩
          · by_cases h6:b=240
            · right; right; right; right; right; left; exact ⟨h6,by simp [h6]⟩
            · by_cases h7:b<244
              · right; right; right; right; right; right; left; exact ⟨by omega,h7,by simp [h1,h2,h3,h4,h5,h6,h7]⟩
              · by_cases h8:b=244
                · right; right; right; right; right; right; right; exact ⟨h8,by simp [h8]⟩
                · left; exact ⟨.inr (by omega),by simp [h1,h2,h3,h4,h5,h6,h7,h8]⟩
theorem pG:st0.ok:=by constructor<;>simp [st0]
theorem KC (b:Int) (_h0:0≤b):(fQ b).ok:=by
  unfold fQ
  split
  · exact pG
  · split
    · exact pG
    · rename_i h1 h2
      rcases ig b with ⟨_,e⟩ | ⟨_,_,e⟩ | ⟨_,e⟩ | ⟨_,e⟩ | ⟨_,_,_,e⟩ | ⟨_,e⟩ | ⟨_,_,e⟩ | ⟨_,e⟩<;>rw [e] at h2 ⊢
      · exact absurd rfl h2
      all_goals constructor<;>simp [lead]<;>omega
theorem OM (st:St) (b:Int) (h:st.ok) (hp:0<st.waits) (_h0:0≤b):(oF st b).ok:=by
  have a1:=h.waits; have a2:=h.missing; have a3:=h.pos hp; have a4:=h.sum; have a5:=h.sign
  unfold oF
  split
  · exact pG
  · constructor<;>simp<;>omega
theorem Wh (st:St) (b:Int) (h:st.ok) (h0:0≤b):(jc st b).ok:=by
  unfold jc
  split
  · rename_i g; exact OM st b h g.1 h0
  · exact KC b h0
def dF (st:St):List Int→St
  | []=>st
  | b::l=>dF (jc st b) l
def bW (st:St):List Int→List Int
  | []=>[]
  | b::l=>kL st b++bW (jc st b) l
theorem yZ (l m:List Int):∀st,dF st (l++m)=dF (dF st l) m:=by
  induction l with
  | nil=>intro st; rfl
  | cons b l ih=>intro st; exact ih _
theorem y7 (l m:List Int):∀st,bW st (l++m)=bW st l++bW (dF st l) m:=by
  induction l with
  | nil=>intro st; rfl
  | cons b l ih=>intro st; simp only [List.cons_append,bW,dF,ih,List.append_assoc]
theorem Mc (st:St) (b:Int):(kL st b).length≤2:=by
  have h1:(qK st b).length≤1:=by unfold qK; split<;>simp
  have h2:(brk st).length≤1:=by unfold brk; split<;>simp
  have h3:(gW b).length≤1:=by unfold gW; split; · simp
                              split<;>simp
  unfold kL
  split
  · omega
  · rw [List.length_append]; omega
theorem nE (l:List Int):∀st,(bW st l).length≤2*l.length:=by
  induction l with
  | nil=>intro st; simp [bW]
  | cons b l ih =>
    intro st
    have h1:=Mc st b
    have h2:=ih (jc st b)
    simp only [bW,List.length_append,List.length_cons]
    omega
def lg (l:List Int):List Int:=bW st0 l++brk (dF st0 l)
end Go.Proofs.YteemnmalikomgaaGreatDoor
namespace Go.Proofs.YteemnmalikomgaaGreatDoor
open Go.ChangeShapes Go.WideShapes Go.ChangeAt Go.RowKit
structure Kept (b r:Option Nat) (w w':World):Prop where
 os:w'.os=w.os
 tape:w'.tape=w.tape
 output:w'.output=w.output
 size:w.heap.size≤w'.heap.size
 block:∀k,k<w.heap.size→some k≠b→some k≠r→w'.heap[k]? = w.heap[k]?
theorem Kept.refl (b r:Option Nat) (w:World):Kept b r w w:=⟨rfl,rfl,rfl,Nat.le_refl _,fun _ _ _ _=>rfl⟩
structure Rd (w:World) (b:Nat) (st:St):Prop where
 row:w.heap[b]? = some (.cells #[.int .i32 st.sign,.int .i64 st.waits,.int .i64 st.missing,.int .u8 st.low,.int .u8 st.high] 146 (0,0))
 ok:st.ok
theorem Rd.cell {w:World} {b:Nat} {st:St} (h:Rd w b st) (i:Nat):w.cell? ⟨b,i,none⟩ = #[Value.int .i32 st.sign,.int .i64 st.waits,.int .i64 st.missing,.int .u8 st.low,.int .u8 st.high][i]?:=cell_of_row w b i _ _ (0,0) h.row
theorem Rd.free {w:World} {b:Nat} {st:St} (h:Rd w b st) (i:Nat):w.frozen? ⟨b,i,none⟩=false:=by simp [World.frozen?,h.row]
theorem Rd.lt {w:World} {b:Nat} {st:St} (h:Rd w b st):b<w.heap.size:=(Array.getElem?_eq_some_iff.1 h.row).1
theorem sK:(Tryz.prog.info? 21).map (fun i=>(i.zero,i.size,i.bytes))=some (some (.int .i32 0),1,4):=by kernel_rfl
theorem grownBy_set (w:World) (p:Addr) (u:Value):w.grownBy (w.setCell p u) (some p.block) :=
 ⟨rfl,rfl,rfl,by simp [World.setCell],fun k _ hne=>Below.heap_setCell w p u k (fun e=>hne (by rw [e]))⟩
theorem nG {a b c:World} {row:Option Nat} (h:a.grownBy b row) (k:b.grownBy c row):a.grownBy c row :=
 ⟨k.os.trans h.os,k.tape.trans h.tape,k.output.trans h.output,Nat.le_trans h.size k.size,fun i hi hne=>(k.block i (Nat.lt_of_lt_of_le hi h.size) hne).trans (h.block i hi hne)⟩
abbrev rW (w:World) (b:Nat) (st:St):World :=
 ((((w.setCell ⟨b,0,none⟩ (.int .i32 st.sign)).setCell ⟨b,1,none⟩ (.int .i64 st.waits)).setCell ⟨b,2,none⟩ (.int .i64 st.missing)).setCell ⟨b,3,none⟩ (.int .u8 st.low)).setCell ⟨b,4,none⟩ (.int .u8 st.high)
theorem iw (w:World) (b:Nat) (st:St):w.grownBy (rW w b st) (some b) :=
 nG (nG (nG (nG (grownBy_set w ⟨b,0,none⟩ _) (grownBy_set _ ⟨b,1,none⟩ _)) (grownBy_set _ ⟨b,2,none⟩ _)) (grownBy_set _ ⟨b,3,none⟩ _)) (grownBy_set _ ⟨b,4,none⟩ _)
theorem KD {w:World} {b:Nat} {st st':St} (h:Rd w b st) (hok:st'.ok):Rd (rW w b st') b st':=by
 have h0:=heap_setCell_same w b 0 _ _ (.int .i32 st'.sign) h.row
 have h1:=heap_setCell_same _ b 1 _ _ (.int .i64 st'.waits) h0
 have h2:=heap_setCell_same _ b 2 _ _ (.int .i64 st'.missing) h1
 have h3:=heap_setCell_same _ b 3 _ _ (.int .u8 st'.low) h2
 have h4:=heap_setCell_same _ b 4 _ _ (.int .u8 st'.high) h3
 exact ⟨h4,hok⟩
theorem wH (w:World) (b:Nat) (st:St):(rW w b st).heap.size=w.heap.size:=by simp [rW,World.setCell]
def Has (w:World) (base:Nat) (v:Value) (xs:List Int):Prop:=w.ownsRow base 21 1 v xs.length (xs.map (Value.int .i32))
theorem Has.nothing (w:World) (base:Nat):Has w base (.slice none 0 0) []:=World.ownsRow_nil w base _ _
theorem Has.shape {w:World} {base:Nat} {v:Value} {xs:List Int} (h:Has w base v xs):∃A c,v=.slice A xs.length c:=by
 rcases h.2 with ⟨rfl,h0⟩ | ⟨g,cap,cur,rfl,_⟩
 ·rw [h0]; exact ⟨_,_,rfl⟩
 ·exact ⟨_,_,rfl⟩
def Told (base b:Nat) (v:Value) (xs:List Int) (st':St) (w:World) (e:Ending) (w':World):Prop :=
 ∃v',e=.returned v'∧Has w' base v' xs∧Rd w' b st'∧Kept (some b) v.ownBlock w w'∧(v'.ownBlock=v.ownBlock∨∃k,v'.ownBlock=some k∧w.heap.size≤k)
theorem Gf {base b:Nat} {v v':Value} {xs:List Int} {x:Int} {st st':St} {w w':World} (h:Rd w b st) (hok:st'.ok)
  (hown:w'.ownsRow base 21 1 v' (xs.length+1) (xs.map (Value.int .i32)++[.int .i32 x])) (hvb:v.ownBlock≠some b)
  (hg:((rW w b st').alloc (.cells #[.int .i32 x] 21)).grownBy w' v.ownBlock) (hat:v'.ownBlock=v.ownBlock∨v'.ownBlock=some ((rW w b st').alloc (.cells #[.int .i32 x] 21)).heap.size) :
  Told base b v (xs++[x]) st' w (.returned v') w':=by
 have hr:=KD h hok
 have hp:=iw w b st'
 have hs:=wH w b st'
 have hlt:=h.lt
 have ha:=Below.heap_alloc (rW w b st') (.cells #[.int .i32 x] 21) b (by omega)
 refine ⟨v',rfl,by simpa [Has] using hown,⟨?_,hok⟩,⟨hg.os.trans hp.os,hg.tape.trans hp.tape,hg.output.trans hp.output,Nat.le_trans (by simp [hs]) hg.size,fun k hk h1 h2=> ?_⟩,?_⟩
 ·rw [hg.block b (by simp [hs]; omega) (fun e=>hvb e.symm),ha]; exact hr.row
 ·rw [hg.block k (by simp [hs]; omega) h2,Below.heap_alloc _ _ _ (by omega),hp.block k hk h1]
 ·rcases hat with e | e
  ·exact .inl e
  ·exact .inr ⟨_,e,by simp⟩
theorem Gg {base b:Nat} {v v':Value} {xs:List Int} {x:Int} {st:St} {w w':World} (h:Rd w b st)
  (hown:w'.ownsRow base 21 1 v' (xs.length+1) (xs.map (Value.int .i32)++[.int .i32 x])) (hvb:v.ownBlock≠some b)
  (hg:(w.alloc (.cells #[.int .i32 x] 21)).grownBy w' v.ownBlock) (hat:v'.ownBlock=v.ownBlock∨v'.ownBlock=some (w.alloc (.cells #[.int .i32 x] 21)).heap.size) :
  Told base b v (xs++[x]) st w (.returned v') w':=by
 have hlt:=h.lt
 refine ⟨v',rfl,by simpa [Has] using hown,⟨?_,h.ok⟩,⟨hg.os,hg.tape,hg.output,Nat.le_trans (by simp) hg.size,fun k hk _ h2=> ?_⟩,?_⟩
 ·rw [hg.block b (by simp; omega) (fun e=>hvb e.symm),Below.heap_alloc _ _ _ hlt]; exact h.row
 ·rw [hg.block k (by simp; omega) h2,Below.heap_alloc _ _ _ hk]
 ·rcases hat with e | e
  ·exact .inl e
  ·exact .inr ⟨_,e,by simp⟩
theorem Gh {base b:Nat} {v:Value} {xs:List Int} {st st':St} {w:World} (h:Rd w b st) (hok:st'.ok) (hv:Has w base v xs) (hvb:v.ownBlock≠some b) :
  Told base b v xs st' w (.returned v) (rW w b st') :=
 ⟨v,rfl,World.ownsRow.kept hv (iw w b st') (.inr hvb),KD h hok,⟨(iw w b st').os,(iw w b st').tape,(iw w b st').output,(iw w b st').size,fun k hk h1 _=>(iw w b st').block k hk h1⟩,.inl rfl⟩
theorem OO {base b:Nat} {v:Value} {xs:List Int} {st:St} {w:World} (h:Rd w b st) (hv:Has w base v xs):Told base b v xs st w (.returned v) w :=
 ⟨v,rfl,hv,h,Kept.refl _ _ _,.inl rfl⟩
theorem KE {base b:Nat} {v:Value} {xs:List Int} {w:World} (st':St) (h:Has w base v xs) (hvb:v.ownBlock≠some b):(rW w b st').ownsRow base 21 1 v xs.length (xs.map (Value.int .i32)) :=
 World.ownsRow.kept h (iw w b st') (.inr hvb)
theorem iI {w:World} {n:Nat} (h:w.heap.size=n) (x:Value) (t:TypeId):∀j u,[x][j]? = some u→(w.alloc (.cells #[x] t)).cell? ((⟨n,0,none⟩:Addr).add j)=some u:=by
 subst h; exact cell_one_new w x t
theorem uo {n:Nat} (h:n≤1099511627776):n+1≤maxLen:=by unfold maxLen; omega
theorem uq {n:Nat} (h:n≤1099511627776):(n+1)*4≤140737488355328:=by omega
theorem lq (x:Int):∀u∈[Value.int .i32 x],u.oneCell'=true:=by intro u hu; simp at hu; subst hu; rfl
theorem DV {w:World} {base:Nat} (h:base≤w.heap.size) (b:Nat) (st:St) (o:Obj):base≤((rW w b st).alloc o).heap.size:=by simp; omega
theorem Jy (b:Nat) (v:Value) (w:World) (st:St) (h:Rd w b st) (h0:st.waits=0) :
  Calls Tryz.prog 87 #[.pointer (some ⟨b,0,none⟩),v] w fun e w'=>e=.returned v∧w=w':=by
 have c1:w.cell? ⟨b,1,none⟩=some (.int .i64 0):=by rw [h.cell 1,←h0]; rfl
 clear h h0
 go_enter Tryz.func87,Tryz.ntmps87
 go_wp2
 go_ret
 exact ⟨rfl,rfl⟩
theorem Gi (b base:Nat) (v:Value) (xs:List Int) (w:World) (st:St) (h:Rd w b st) (h0:0<st.waits) (hv:Has w base v xs) (hvb:v.ownBlock≠some b) (hn:xs.length≤1099511627776) (hbase:base≤w.heap.size) :
  Calls Tryz.prog 87 #[.pointer (some ⟨b,0,none⟩),v] w fun e w'=>Told base b v (xs++[65533]) st0 w e w':=by
 obtain ⟨i0,hi,hz0,hz1,hz2⟩:=info_parts sK
 obtain ⟨A,c,rfl⟩:=hv.shape
 have c0:w.cell? ⟨b,0,none⟩=some (.int .i32 st.sign):=h.cell 0
 have c1:w.cell? ⟨b,1,none⟩=some (.int .i64 st.waits):=h.cell 1
 have c2:w.cell? ⟨b,2,none⟩=some (.int .i64 st.missing):=h.cell 2
 have c3:w.cell? ⟨b,3,none⟩=some (.int .u8 st.low):=h.cell 3
 have c4:w.cell? ⟨b,4,none⟩=some (.int .u8 st.high):=h.cell 4
 have f0:=h.free 0
 have f1:=h.free 1
 have f2:=h.free 2
 have f3:=h.free 3
 have f4:=h.free 4
 have hb:=h.lt
 have HO:(((((w.setCell ⟨b,0,none⟩ (.int .i32 0)).setCell ⟨b,1,none⟩ (.int .i64 0)).setCell ⟨b,2,none⟩ (.int .i64 0)).setCell ⟨b,3,none⟩ (.int .u8 0)).setCell ⟨b,4,none⟩ (.int .u8 0)).ownsRow base 21 1 (.slice A xs.length c) xs.length (xs.map (Value.int .i32)):=KE st0 hv hvb
 have HV:=Lib.hid hvb
 clear hvb hv
 go_enter Tryz.func87,Tryz.ntmps87
 go_wp2_with (at_builtin; go_loud (refine wpList_append_own_at _ rfl _ _ 23 rfl base 21 i0 (.int .i32 0) 1 4 Tryz.underlying23 hi hz0 hz1 hz2 rfl (by decide) (.slice A xs.length c) xs.length _ rfl (HO.alloc _) ⟨w.heap.size,0,none⟩ 1 1 [.int .i32 65533] rfl rfl (iI (wH w b st0) _ _) (lq _) (uo hn) (uq hn) (DV hbase b st0 _) ?_); intro v' w1 hown' hgrow _ hat)
 go_wp2
 go_ret
 exact Gf h pG hown' HV.out hgrow hat
theorem wI (b base:Nat) (v:Value) (xs:List Int) (w:World) (st:St) (h:Rd w b st) (hv:Has w base v xs) (hvb:v.ownBlock≠some b) (hn:xs.length≤1099511627776) (hbase:base≤w.heap.size) :
  Calls Tryz.prog 87 #[.pointer (some ⟨b,0,none⟩),v] w fun e w'=>Told base b v (xs++brk st) st0 w e w':=by
 by_cases h0:st.waits=0
 ·have e:st=st0:=h.ok.zero h0
  subst e
  refine (Jy b v w st0 h rfl).mono ?_
  rintro e w' ⟨rfl,rfl⟩
  simpa [brk,st0] using OO h hv
 ·have:=h.ok.waits
  have e:brk st=[65533]:=by simp [brk,h0]
  rw [e]
  exact Gi b base v xs w st h (by omega) hv hvb hn hbase
theorem y9 (b:Int) (h0:0≤b) (h1:b≤255) (w:World) :
  Calls Tryz.prog 173 #[.int .u8 b] w fun e w'=>e=.returned (.tuple #[.int .i64 (iT b).1,.int .u8 (iT b).2.1,.int .u8 (iT b).2.2])∧w=w':=by
 rcases ig b with ⟨h | h,e⟩ | ⟨h,h',e⟩ | ⟨h,e⟩ | ⟨h,e⟩ | ⟨h,h',h'',e⟩ | ⟨h,e⟩ | ⟨h,h',e⟩ | ⟨h,e⟩<;>rw [e]<;>clear e<;>try subst h
 all_goals
  go_enter Tryz.func173,Tryz.ntmps173
  go_wp2
  go_ret3
  exact ⟨rfl,rfl⟩
theorem Xy {x:Int} (h0:0≤x) (h1:x≤255):bits .and .i32 x 31=x % 32:=bits_mask .i32 31 (by decide) wraps_i32 5 (by decide) x h0 (by omega)
theorem Xz {x:Int} (h0:0≤x) (h1:x≤255):bits .and .i32 x 15=x % 16:=bits_mask .i32 31 (by decide) wraps_i32 4 (by decide) x h0 (by omega)
theorem and7 {x:Int} (h0:0≤x) (h1:x≤255):bits .and .i32 x 7=x % 8:=bits_mask .i32 31 (by decide) wraps_i32 3 (by decide) x h0 (by omega)
theorem Md (b base:Nat) (v:Value) (xs:List Int) (x m lo hi:Int) (hx0:0≤x) (hx1:x≤255) (h128:128≤x) (w:World) (st:St) (h:Rd w b st) (hv:Has w base v xs) (hvb:v.ownBlock≠some b) (hf:iT x=(m,lo,hi)) (hm:m=1∨m=2∨m=3) :
  Calls Tryz.prog 132 #[.pointer (some ⟨b,0,none⟩),v,.int .u8 x] w fun e w'=>Told base b v xs (fQ x) w e w':=by
 have FW:=y9 x hx0 hx1 w
 rw [hf] at FW
 have hok:=KC x hx0
 have T:=Gh (st':=fQ x) h hok hv hvb
 have c0:w.cell? ⟨b,0,none⟩=some (.int .i32 st.sign):=h.cell 0
 have c1:w.cell? ⟨b,1,none⟩=some (.int .i64 st.waits):=h.cell 1
 have c2:w.cell? ⟨b,2,none⟩=some (.int .i64 st.missing):=h.cell 2
 have c3:w.cell? ⟨b,3,none⟩=some (.int .u8 st.low):=h.cell 3
 have c4:w.cell? ⟨b,4,none⟩=some (.int .u8 st.high):=h.cell 4
 have f0:=h.free 0
 have f1:=h.free 1
 have f2:=h.free 2
 have f3:=h.free 3
 have f4:=h.free 4
 have FWH:=Lib.hid FW
 have e1:=Xy hx0 hx1
 have e2:=Xz hx0 hx1
 have e3:=and7 hx0 hx1
 have hb:fQ x=⟨lead x m,1,m,lo,hi⟩:=by
  have h1:¬x<128:=by omega
  have h2:¬m=0:=by omega
  simp [fQ,h1,hf,h2]
 clear h hv hvb hok FW hf
 rcases hm with rfl | rfl | rfl
 all_goals
  rw [hb] at T ⊢
  have TH:=Lib.hid T
  clear T hb
  go_enter Tryz.func132,Tryz.ntmps132
  go_wp2_with (go_at_call 173; refine FWH.out.mono ?_; rintro e w' ⟨rfl,rfl⟩)
  go_ret
  exact TH.out
