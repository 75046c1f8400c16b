/-
  DERIVED: THE SHELF's CONTRACTS AT THIS DUMP, IN PLAIN WORDS (tools/lay-plain.mjs out of 'TryzShelf.lean', which tools/lay-shelf.mjs wrote): THE SAME DECLARATIONS UNDER THE SAME NAMES: 'import', 'namespace', 'open', 'def', 'theorem' AND NOTHING ELSE: no command of the shelf's: FOR A HAND-IN. Each laying: the table of numbers ('.._ren') and one theorem, a field a fact of the dump's own or the kernel's comparison; each contract: ONE APPLICATION. The package-level table of width: what the row's list gives of its cells; how wide a sign is, as a plain chain of bounds. Words for memory: a slice whose cells are a list; what stands below a block; small facts on lists. Nothing of the program but its number kinds. width.Of and width.Text: what they answer, for every sign and every list of signs. The functions of package cell that look at one cell: Blank, Pad, IsBlank, IsPad, hasSign, May. The machine of package utf in plain words: states, steps, what a text becomes. The methods of utf.Reader: each step of the machine, whatever it holds. More of utf.Reader: begin, goOn, read, and the methods of its face; All. More of utf.Reader: goOn, read, and the methods of its face; All. The face of utf: Put, End, Waits, All, of a Reader and of none. The functions of package cell: hasSign, May, Of, Line. strings.Builder.WriteRune, whatever the Builder that a call has made holds. cell.Text and cell.Line. cell.Trim: what is left, for every list of cells; utf.Write. What begun's functions tell; what memory holds while begun goes on. The arguments of a statement: a slice of signs, a slice of cells as lists; how a statement's row is closed behind a walk that keeps all that was there. The arguments of the statements of layers 4 to 6: numbers of 64 bits, bytes, lists of numbers.
-/
import Derived.Shelf.SlSortCmp.WholeK
import Derived.Shelf.Strings.Builder1
import Derived.Shelf.Small.Utf8
import Derived.Shelf.Small.Bits
import Derived.Shelf.Small.Strs
import Derived.Shelf.Strings.BuilderF
import Derived.Shelf.Strings.BuilderK
import Derived.Shelf.Strings.BuilderRune
import Derived.Shelf.Utf8.AppendRune
import Derived.Shelf.Utf8.AppendRunePlain
import Derived.Shelf.Strconv.Itoa0
import Derived.Shelf.Strings.Search1
import Derived.Shelf.Strings.Prefix
import Derived.Shelf.Strings.Runes
import Derived.Shelf.Bits.Mul64
import Derived.Shelf.Strings.BuilderCap
import Derived.Ground.SlbCloneProg
import Derived.Shelf.Bytes.SlClone
import Derived.Test.YteemnmalikomgaaGreatDoorProg
import Derived.Test.YteemnmalikomgaaGreatDoorRows
import Derived.WalkKit
import Derived.ProofKit
import Derived.OpenShut
import Derived.Deep.DeepHandedRow
import Derived.Lib.LaidTab
import Derived.Lib.Hide
import Derived.Deep.RegionWith
import Derived.RegionCalls
import Derived.Outline
import Derived.RegionTactic
import Derived.ChangeAlike
import Derived.Maps.AppendAt
import Derived.Laws.BitsLemmas
import Derived.Deep.DeepMust
import Derived.Laws.Cover4
import Derived.Carry
import Derived.ChangeOld
namespace Go.Proofs
open Go.Shelf
def Tryz.sortR_ren : Go.Shelf.Ren := ⟨fun | 6 => 137 | 15 => 177 | 14 => 176 | 28 => 226 | 29 => 227 | 20 => 218 | 21 => 219 | 22 => 220 | 23 => 221 | 24 => 222 | 25 => 223 | 26 => 224 | 27 => 225 | 46 => 264 | 47 => 265 | 48 => 266 | 49 => 267 | 50 => 268 | 57 => 296 | n => n, fun | 22 => 26 | 24 => 189 | 25 => 194 | 3 => 3 | 39 => 169 | 0 => 0 | 53 => 284 | 55 => 286 | 4 => 4 | 46 => 278 | 45 => 277 | 50 => 112 | 5 => 5 | 9 => 9 | 66 => 316 | 70 => 144 | 76 => 336 | 77 => 260 | n => n, fun | n => n⟩
theorem Tryz.sortR : Go.Proofs.SlLaysF0.n6 Tryz.prog Tryz.sortR_ren := {
 mixed := by kernel_rfl
 f6 := ⟨Tryz.f137.name, by decide, Tryz.func137.trans (congrArg some (by kernel_rfl))⟩
 f14 := ⟨Tryz.f176.name, by decide, Tryz.func176.trans (congrArg some (by kernel_rfl))⟩
 f15 := Tryz.func177.trans (congrArg some (by kernel_rfl))
 f20 := ⟨Tryz.f218.name, by decide, Tryz.func218.trans (congrArg some (by kernel_rfl))⟩
 f21 := ⟨Tryz.f219.name, by decide, Tryz.func219.trans (congrArg some (by kernel_rfl))⟩
 f22 := ⟨Tryz.f220.name, by decide, Tryz.func220.trans (congrArg some (by kernel_rfl))⟩
 f23 := ⟨Tryz.f221.name, by decide, Tryz.func221.trans (congrArg some (by kernel_rfl))⟩
 f24 := ⟨Tryz.f222.name, by decide, Tryz.func222.trans (congrArg some (by kernel_rfl))⟩
 f25 := ⟨Tryz.f223.name, by decide, Tryz.func223.trans (congrArg some (by kernel_rfl))⟩
 f26 := ⟨Tryz.f224.name, by decide, Tryz.func224.trans (congrArg some (by kernel_rfl))⟩
 f27 := ⟨Tryz.f225.name, by decide, Tryz.func225.trans (congrArg some (by kernel_rfl))⟩
 f28 := Tryz.func226.trans (congrArg some (by kernel_rfl))
 f29 := Tryz.func227.trans (congrArg some (by kernel_rfl))
 f46 := ⟨Tryz.f264.name, by decide, Tryz.func264.trans (congrArg some (by kernel_rfl))⟩
 f47 := Tryz.func265.trans (congrArg some (by kernel_rfl))
 f48 := Tryz.func266.trans (congrArg some (by kernel_rfl))
 f49 := ⟨Tryz.f267.name, by decide, Tryz.func267.trans (congrArg some (by kernel_rfl))⟩
 f50 := ⟨Tryz.f268.name, by decide, Tryz.func268.trans (congrArg some (by kernel_rfl))⟩
 f57 := ⟨Tryz.f296.name, by decide, Tryz.func296.trans (congrArg some (by kernel_rfl))⟩
 t0 := Tryz.underlying0
 a0 := Tryz.isAgg0
 z0 := Tryz.sizeOf0
 v0 := Tryz.zeroValue0
 t3 := Tryz.underlying3
 a3 := Tryz.isAgg3
 z3 := Tryz.sizeOf3
 v3 := Tryz.zeroValue3
 t4 := Tryz.underlying4
 a4 := Tryz.isAgg4
 z4 := Tryz.sizeOf4
 v4 := Tryz.zeroValue4
 t5 := Tryz.underlying5
 a5 := Tryz.isAgg5
 z5 := Tryz.sizeOf5
 v5 := Tryz.zeroValue5
 t9 := Tryz.underlying9
 a9 := Tryz.isAgg9
 z9 := Tryz.sizeOf9
 v9 := Tryz.zeroValue9
 t22 := Tryz.underlying26
 a22 := Tryz.isAgg26
 z22 := Tryz.sizeOf26
 v22 := Tryz.zeroValue26
 t25 := Tryz.underlying194
 a25 := Tryz.isAgg194
 z25 := Tryz.sizeOf194
 v25 := Tryz.zeroValue194
 t39 := Tryz.underlying169
 a39 := Tryz.isAgg169
 z39 := Tryz.sizeOf169
 v39 := Tryz.zeroValue169
 t45 := Tryz.underlying277
 a45 := Tryz.isAgg277
 z45 := Tryz.sizeOf277
 v45 := Tryz.zeroValue277
 t46 := Tryz.underlying278
 a46 := Tryz.isAgg278
 z46 := Tryz.sizeOf278
 v46 := Tryz.zeroValue278
 t50 := Tryz.underlying112
 a50 := Tryz.isAgg112
 z50 := Tryz.sizeOf112
 v50 := Tryz.zeroValue112
 t53 := Tryz.underlying284
 a53 := Tryz.isAgg284
 z53 := Tryz.sizeOf284
 v53 := Tryz.zeroValue284
 t55 := Tryz.underlying286
 a55 := Tryz.isAgg286
 z55 := Tryz.sizeOf286
 v55 := Tryz.zeroValue286
 t66 := Tryz.underlying316
 a66 := Tryz.isAgg316
 z66 := Tryz.sizeOf316
 v66 := Tryz.zeroValue316
 t70 := Tryz.underlying144
 a70 := Tryz.isAgg144
 z70 := Tryz.sizeOf144
 v70 := Tryz.zeroValue144
 t76 := Tryz.underlying336
 a76 := Tryz.isAgg336
 z76 := Tryz.sizeOf336
 v76 := Tryz.zeroValue336
 t77 := Tryz.underlying260
 a77 := Tryz.isAgg260
 z77 := Tryz.sizeOf260
 v77 := Tryz.zeroValue260 }
def Tryz.lays169_ren : Go.Shelf.Ren := ⟨fun | 169 => 170 | n => n, fun | 70 => 225 | 9 => 9 | 0 => 0 | 72 => 227 | 37 => 89 | 127 => 271 | 3 => 3 | 5 => 5 | n => n, fun | n => n⟩
theorem Tryz.lays169 : Go.Proofs.Lays.n169 Tryz.prog Tryz.lays169_ren := {
 mixed := by kernel_rfl
 f169 := Tryz.func170.trans (congrArg some (by kernel_rfl))
 t0 := Tryz.underlying0
 a0 := Tryz.isAgg0
 z0 := Tryz.sizeOf0
 v0 := Tryz.zeroValue0
 t3 := Tryz.underlying3
 a3 := Tryz.isAgg3
 z3 := Tryz.sizeOf3
 v3 := Tryz.zeroValue3
 t9 := Tryz.underlying9
 a9 := Tryz.isAgg9
 z9 := Tryz.sizeOf9
 v9 := Tryz.zeroValue9
 t37 := Tryz.underlying89
 a37 := Tryz.isAgg89
 z37 := Tryz.sizeOf89
 v37 := Tryz.zeroValue89
 t70 := Tryz.underlying225
 a70 := Tryz.isAgg225
 z70 := Tryz.sizeOf225
 v70 := Tryz.zeroValue225
 t72 := Tryz.underlying227
 a72 := Tryz.isAgg227
 z72 := Tryz.sizeOf227
 v72 := Tryz.zeroValue227
 t127 := Tryz.underlying271
 a127 := Tryz.isAgg271
 z127 := Tryz.sizeOf271
 v127 := Tryz.zeroValue271 }
theorem Tryz.Builder_Extra_169 : Builder.Extra Tryz.prog Tryz.lays169_ren := {
 sizeBuilder := by kernel_rfl
 liesBuilder := by kernel_rfl
 t5 := Tryz.underlying5
 a5 := Tryz.isAgg5
 z5 := Tryz.sizeOf5
 v5 := Tryz.zeroValue5
 infoByte := by kernel_rfl
 cellsByte := by kernel_rfl
 sizeByte := by kernel_rfl
 neB5 := by decide }
def Tryz.lays119_ren : Go.Shelf.Ren := ⟨fun | 119 => 257 | n => n, fun | 21 => 21 | 4 => 4 | n => n, fun | n => n⟩
theorem Tryz.lays119 : Go.Proofs.Lays.n119 Tryz.prog Tryz.lays119_ren := {
 mixed := by kernel_rfl
 f119 := Tryz.func257.trans (congrArg some (by kernel_rfl))
 t4 := Tryz.underlying4
 a4 := Tryz.isAgg4
 z4 := Tryz.sizeOf4
 v4 := Tryz.zeroValue4
 t21 := Tryz.underlying21
 a21 := Tryz.isAgg21
 z21 := Tryz.sizeOf21
 v21 := Tryz.zeroValue21 }
theorem Tryz.utf8_ValidRune (r : Int) (w : World) :
  Calls Tryz.prog 257 #[.int .i32 r] w fun e w' => e = .returned (.bool (Lib.validRune r)) ∧ w' = w := Any.utf8_ValidRune Tryz.lays119 r w
def Tryz.lays137_ren : Go.Shelf.Ren := ⟨fun | 137 => 114 | 217 => 163 | 266 => 204 | n => n, fun | 9 => 9 | 5 => 5 | 3 => 3 | n => n, fun | n => n⟩
theorem Tryz.lays137 : Go.Proofs.Lays.n137 Tryz.prog Tryz.lays137_ren := {
 mixed := by kernel_rfl
 f137 := Tryz.func114.trans (congrArg some (by kernel_rfl))
 f217 := Tryz.func163.trans (congrArg some (by kernel_rfl))
 f266 := Tryz.func204.trans (congrArg some (by kernel_rfl))
 t3 := Tryz.underlying3
 a3 := Tryz.isAgg3
 z3 := Tryz.sizeOf3
 v3 := Tryz.zeroValue3
 t5 := Tryz.underlying5
 a5 := Tryz.isAgg5
 z5 := Tryz.sizeOf5
 v5 := Tryz.zeroValue5
 t9 := Tryz.underlying9
 a9 := Tryz.isAgg9
 z9 := Tryz.sizeOf9
 v9 := Tryz.zeroValue9 }
open Go.RowKit in
theorem Tryz.strings_IndexByte (s : ByteArray) (c : Int) (w : World) :
  Calls Tryz.prog 114 #[.string s, .int .u8 c] w fun e w' => e = .returned (.int .i64 (Lib.indexByte s.data.toList c.toNat.toUInt8)) ∧ w' = w := Any.strings_IndexByte Tryz.lays137 s c w
def Tryz.lays151_ren : Go.Shelf.Ren := ⟨fun | 151 => 167 | 152 => 205 | 137 => 114 | 119 => 257 | 224 => 258 | 225 => 259 | 217 => 163 | 266 => 204 | n => n, fun | 9 => 9 | 21 => 21 | 4 => 4 | 3 => 3 | 5 => 5 | 0 => 0 | 46 => 169 | n => n, fun | n => n⟩
theorem Tryz.lays151 : Go.Proofs.Lays.n151 Tryz.prog Tryz.lays151_ren := {
 mixed := by kernel_rfl
 f119 := Tryz.func257.trans (congrArg some (by kernel_rfl))
 f137 := Tryz.func114.trans (congrArg some (by kernel_rfl))
 f151 := Tryz.func167.trans (congrArg some (by kernel_rfl))
 f152 := Tryz.func205.trans (congrArg some (by kernel_rfl))
 f217 := Tryz.func163.trans (congrArg some (by kernel_rfl))
 f224 := Tryz.func258.trans (congrArg some (by kernel_rfl))
 f225 := Tryz.func259.trans (congrArg some (by kernel_rfl))
 f266 := Tryz.func204.trans (congrArg some (by kernel_rfl))
 t0 := Tryz.underlying0
 a0 := Tryz.isAgg0
 z0 := Tryz.sizeOf0
 v0 := Tryz.zeroValue0
 t3 := Tryz.underlying3
 a3 := Tryz.isAgg3
 z3 := Tryz.sizeOf3
 v3 := Tryz.zeroValue3
 t4 := Tryz.underlying4
 a4 := Tryz.isAgg4
 z4 := Tryz.sizeOf4
 v4 := Tryz.zeroValue4
 t5 := Tryz.underlying5
 a5 := Tryz.isAgg5
 z5 := Tryz.sizeOf5
 v5 := Tryz.zeroValue5
 t9 := Tryz.underlying9
 a9 := Tryz.isAgg9
 z9 := Tryz.sizeOf9
 v9 := Tryz.zeroValue9
 t21 := Tryz.underlying21
 a21 := Tryz.isAgg21
 z21 := Tryz.sizeOf21
 v21 := Tryz.zeroValue21
 t46 := Tryz.underlying169
 a46 := Tryz.isAgg169
 z46 := Tryz.sizeOf169
 v46 := Tryz.zeroValue169 }
open Go.RowKit Go.Lib in
theorem Tryz.strings_ContainsRune_ascii (s : ByteArray) (r : Int) (w : World) (h0 : 0 ≤ r) (h1 : r < 128) :
  Calls Tryz.prog 167 #[.string s, .int .i32 r] w fun e w' => e = .returned (.bool (decide (0 ≤ Lib.indexByte s.data.toList r.toNat.toUInt8))) ∧ w' = w := Any.strings_ContainsRune_ascii Tryz.lays151 s r w h0 h1
end Go.Proofs
namespace Go.Proofs.YteemnmalikomgaaGreatDoor
open Go.ChangeShapes Go.WideShapes Go.ChangeAt Go.RowKit
def spanRows : List (Int × Int × Int) :=
 [(-2147483648, 31, 0), (127, 159, 0), (768, 879, 0), (4352, 4447, 2), (8203, 8207, 0), (11904, 12350, 2), (12353, 13311, 2), (13312, 19903, 2), (19968, 40959, 2), (40960, 42191, 2), (44032, 55203, 2), (55296, 57343, 0), (63744, 64255, 2), (65024, 65039, 0), (65072, 65135, 2), (65280, 65376, 2), (65504, 65510, 2), (127744, 128591, 2), (129280, 129535, 2), (131072, 262141, 2), (1114112, 2147483647, 0)]
def sFirst (i : Nat) : Int := (spanRows.getD i (0, 0, 0)).1
def sLast (i : Nat) : Int := (spanRows.getD i (0, 0, 0)).2.1
def sWide (i : Nat) : Int := (spanRows.getD i (0, 0, 0)).2.2
structure Spans (w : World) : Prop where
 size : 0 < w.heap.size
 first : ∀ i, i < 21 → w.cell? ⟨0, i * 3, none⟩ = some (.int .i32 (sFirst i))
 last : ∀ i, i < 21 → w.cell? ⟨0, i * 3 + 1, none⟩ = some (.int .i32 (sLast i))
 wide : ∀ i, i < 21 → w.cell? ⟨0, i * 3 + 2, none⟩ = some (.int .i64 (sWide i))
theorem Spans.below {w w' : World} {B : Nat} (h : Spans w) (hb : Below B w w') (hB : 0 < B) : Spans w' :=
 ⟨Nat.lt_of_lt_of_le h.size hb.size, fun i hi => (hb.cell (p := ⟨0, i * 3, none⟩) hB).trans (h.first i hi), fun i hi => (hb.cell (p := ⟨0, i * 3 + 1, none⟩) hB).trans (h.last i hi), fun i hi => (hb.cell (p := ⟨0, i * 3 + 2, none⟩) hB).trans (h.wide i hi)⟩
theorem Spans.drew {w : World} (h : Spans w) : Spans w.drew := ⟨h.size, h.first, h.last, h.wide⟩
theorem gSpans : Tryz.prog.globalNamed "rotulus/width.spans" = some 0 := by kernel_rfl
theorem gSpansType : (Tryz.prog.globals[0]?).map (·.type) = some 224 := by kernel_rfl
theorem cellsSpans : Tryz.prog.cellsOf 224 = 63 := by kernel_rfl
theorem cellsSpan : Tryz.prog.cellsOf 223 = 3 := by kernel_rfl
theorem cellsRune : Tryz.prog.cellsOf 21 = 1 := by kernel_rfl
theorem cellsInt : Tryz.prog.cellsOf 3 = 1 := by kernel_rfl
set_option maxRecDepth 100000 in
theorem span_cells {H : Type} {enc : TypeId × Value → H} {w : World} {base : Nat} {sp : Nat → Bool} {held : Bool} {fuel : Nat} {cs : List Value} {a b c : Int} {x : DataW H × List MemPlace}
  (h : DataW.trod enc Tryz.prog w base sp held fuel 223 cs = some x) (hx : x.1 = .agg [.lit (.int .i32 a), .lit (.int .i32 b), .lit (.int .i64 c)]) : cs = [.int .i32 a, .int .i32 b, .int .i64 c] := by
 obtain ⟨xs, m, rfl, rfl, hl, hn, hf⟩ := DataW.trod_struct Tryz.underlying223 h
 rw [cellsSpan] at hl
 match cs, hl with
 | [c0, c1, c2], _ =>
  have f0 : DataW.trod enc Tryz.prog w base sp held m 21 [c0] = xs[0]? := by have := hf 0 _ rfl; simpa [cellsRune] using this
  have f1 : DataW.trod enc Tryz.prog w base sp held m 21 [c1] = xs[1]? := by have := hf 1 _ rfl; simpa [cellsRune] using this
  have f2 : DataW.trod enc Tryz.prog w base sp held m 3 [c2] = xs[2]? := by have := hf 2 _ rfl; simpa [cellsInt] using this
  match xs, hn with
  | [x0, x1, x2], _ =>
   simp only [List.getElem?_cons_zero, List.getElem?_cons_succ] at f0 f1 f2
   obtain ⟨z0, e0, rfl, _⟩ := DataW.trod_int Tryz.underlying21 f0
   obtain ⟨z1, e1, rfl, _⟩ := DataW.trod_int Tryz.underlying21 f1
   obtain ⟨z2, e2, rfl, _⟩ := DataW.trod_int Tryz.underlying3 f2
   simp at e0 e1 e2 hx
   obtain ⟨rfl, rfl, rfl⟩ := hx
   rw [e0, e1, e2]
theorem laid_rows {H : Type} : Rows.laid_rotulus_width_spans (H := H) = .agg (spanRows.map fun x => .agg [.lit (.int .i32 x.1), .lit (.int .i32 x.2.1), .lit (.int .i64 x.2.2)]) := rfl
theorem spans_of {W : World} (h : laidMetH Tryz.prog [("rotulus/width.spans", Rows.laid_rotulus_width_spans)] W) : Spans W := by
 have h' : laidMet Tryz.prog [("rotulus/width.spans", Rows.laid_rotulus_width_spans)] W := h
 obtain ⟨ps, ⟨g', t', cs, fuel, p, q, hg', ht', hvar, hd, _, _⟩, _⟩ := h'
 obtain rfl := Option.some.inj (gSpans.symm.trans hg')
 obtain rfl := Option.some.inj (gSpansType.symm.trans ht')
 obtain ⟨xs, m, rfl, hx, hl, hn, hf⟩ := DataW.trod_array Tryz.underlying224 hd
 rw [cellsSpan] at hf
 rw [cellsSpans] at hl
 have hxs : xs.map (·.1) = spanRows.map fun x => (DataW.agg [.lit (.int .i32 x.1), .lit (.int .i32 x.2.1), .lit (.int .i64 x.2.2)] : DataW Unit) := by
  have := congrArg Prod.fst hx
  rw [laid_rows] at this
  exact (DataW.agg.inj this).symm
 have key : ∀ i, i < 21 → (cs.toList.drop (i * 3)).take 3 = [.int .i32 (sFirst i), .int .i32 (sLast i), .int .i64 (sWide i)] := by
  intro i hi
  have hr : spanRows[i]? = some (spanRows.getD i (0, 0, 0)) := by
   have : i < spanRows.length := hi
   simp [List.getD, this]
  have h1 : (xs.map (·.1))[i]? = some (DataW.agg [.lit (.int .i32 (sFirst i)), .lit (.int .i32 (sLast i)), .lit (.int .i64 (sWide i))] : DataW Unit) := by
   rw [hxs, List.getElem?_map, hr]; rfl
  have h2 := hf i hi
  rw [List.getElem?_map, Option.map_eq_some_iff] at h1
  obtain ⟨x, hx1, hx2⟩ := h1
  rw [hx1] at h2
  exact span_cells h2 hx2
 have cell : ∀ i j v, i < 21 → [Value.int .i32 (sFirst i), .int .i32 (sLast i), .int .i64 (sWide i)][j]? = some v → W.cell? ⟨0, i * 3 + j, none⟩ = some v := by
  intro i j v hi hv
  rw [World.var?_cell gSpans hvar, ← hv, ← key i hi, List.getElem?_take, ← Array.getElem?_toList]
  have hj : j < 3 := by
   by_cases hj : j < 3
   ·exact hj
   ·rw [List.getElem?_eq_none (by simp; omega)] at hv; cases hv
  rw [if_pos hj, List.getElem?_drop]
 refine ⟨World.block_lt_of_cell? W _ (cell 0 0 _ (by omega) rfl), fun i hi => cell i 0 _ hi rfl, fun i hi => cell i 1 _ hi rfl, fun i hi => cell i 2 _ hi rfl⟩
end Go.Proofs.YteemnmalikomgaaGreatDoor
namespace Go.Proofs.YteemnmalikomgaaGreatDoor
open Go.ChangeShapes Go.WideShapes Go.ChangeAt Go.RowKit
theorem ret_int {k : IntKind} {a b : Int} (h : a = b) : Ending.returned (.int k a) = .returned (.int k b) := by rw [h]
theorem ret_bool {a b : Bool} (h : a = b) : Ending.returned (.bool a) = .returned (.bool b) := by rw [h]
structure Sq (w : World) (B size n : Nat) (A : Option Addr) (xs : List Value) : Prop where
 len : xs.length = n * size
 spot : 0 < n → ∃ b off, A = some ⟨b, off, none⟩ ∧ b < B ∧ ∀ j u, xs[j]? = some u → w.cell? ⟨b, off + j, none⟩ = some u
def nth (l : List Int) (k : Nat) : Int := l.getD k 0
theorem nth_get {l : List Int} {k : Nat} (h : k < l.length) : nth l k = l[k] := by simp [nth, List.getD, h]
namespace Sq
variable {w w' : World} {B B' size n : Nat} {A : Option Addr} {xs : List Value}
theorem nothing (w : World) (B size : Nat) (A : Option Addr) : Sq w B size 0 A [] := ⟨by simp, fun h => absurd h (Nat.lt_irrefl 0)⟩
theorem carry (h : Sq w B size n A xs) (k : ∀ p : Addr, p.block < B → w'.cell? p = w.cell? p) : Sq w' B size n A xs :=
 ⟨h.len, fun hn => let ⟨b, off, e, hb, hc⟩ := h.spot hn; ⟨b, off, e, hb, fun j u hu => (k ⟨b, off + j, none⟩ hb).trans (hc j u hu)⟩⟩
theorem below (h : Sq w B size n A xs) (hb : Below B w w') : Sq w' B size n A xs := h.carry fun _ hp => hb.cell hp
theorem up (h : Sq w B size n A xs) (hB : B ≤ B') : Sq w B' size n A xs :=
 ⟨h.len, fun hn => let ⟨b, off, e, hb, hc⟩ := h.spot hn; ⟨b, off, e, Nat.lt_of_lt_of_le hb hB, hc⟩⟩
theorem alloc (h : Sq w B size n A xs) (hB : B ≤ w.heap.size) (o : Obj) : Sq (w.alloc o) B size n A xs := h.below ((Below.refl _ _).alloc hB o)
theorem setCell (h : Sq w B size n A xs) {p : Addr} (hp : B ≤ p.block) (u : Value) : Sq (w.setCell p u) B size n A xs := h.below ((Below.refl _ _).setCell hp u)
theorem own {base : Nat} {e : TypeId} {c : Nat} (h : w.ownsRow base e size (.slice A n c) n xs) : Sq w w.heap.size size n A xs := by
 refine ⟨h.1, fun hn => ?_⟩
 rcases h.2 with ⟨hv, h0⟩ | ⟨g, cap, cur, hv, _, hg, _, _, _, htake⟩
 ·omega
 ·have hA : A = some ⟨g, 0, none⟩ := by injection hv
  subst hA
  refine ⟨g, 0, rfl, (Array.getElem?_eq_some_iff.1 hg).1, fun j u hu => ?_⟩
  rw [cell_of_row w g (0 + j) cur e (0, 0) hg, Nat.zero_add]
  rw [← htake, List.getElem?_take] at hu
  split at hu
  ·simpa using hu
  ·cases hu
end Sq
def Runes (l : List Int) : Prop := ∀ r ∈ l, -2147483648 ≤ r ∧ r ≤ 2147483647
theorem Runes.get {l : List Int} (h : Runes l) (i : Nat) : -2147483648 ≤ nth l i ∧ nth l i ≤ 2147483647 := by
 by_cases hi : i < l.length
 ·rw [nth_get hi]; exact h _ (List.getElem_mem hi)
 ·have e : nth l i = 0 := by simp [nth, List.getD, show l.length ≤ i by omega]
  rw [e]; omega
theorem take_next {l : List Int} {k : Nat} (h : k < l.length) : l.take (k + 1) = l.take k ++ [nth l k] := by
 rw [List.take_succ_eq_append_getElem h, nth_get h]
theorem take_all {α : Type} (l : List α) {k : Nat} (h : l.length ≤ k) : l.take k = l := List.take_of_length_le h
def octs (s : ByteArray) : List Int := s.data.toList.map fun c => (c.toNat : Int)
theorem octs_length (s : ByteArray) : (octs s).length = s.size := by unfold octs; rw [List.length_map, Array.length_toList]; rfl
theorem nth_octs (s : ByteArray) (k : Nat) (h : k < s.size) : nth (octs s) k = ((s[k]'h).toNat : Int) := by
 have hl : k < (octs s).length := by rw [octs_length]; exact h
 rw [nth_get hl]
 simp only [octs, List.getElem_map]
 rfl
theorem octs_range (s : ByteArray) : ∀ x ∈ octs s, 0 ≤ x ∧ x ≤ 255 := by
 intro x hx
 obtain ⟨c, _, rfl⟩ := List.mem_map.1 hx
 have := c.toNat_lt
 omega
end Go.Proofs.YteemnmalikomgaaGreatDoor


namespace Go.Proofs.YteemnmalikomgaaGreatDoor
structure St where
  sign : Int
  waits : Int
  missing : Int
  low : Int
  high : Int
def st0 : St := ⟨0, 0, 0, 0, 0⟩
def brk (st : St) : List Int := if st.waits = 0 then [] else [65533]
def fol (b : Int) : Int × Int × Int :=
  if b < 194 then (0, 0, 0) else if b < 224 then (1, 128, 191) else if b = 224 then (2, 160, 191) else if b = 237 then (2, 128, 159)
  else if b < 240 then (2, 128, 191) else if b = 240 then (3, 144, 191) else if b < 244 then (3, 128, 191) else if b = 244 then (3, 128, 143) else (0, 0, 0)
def lead (b m : Int) : Int := if m = 1 then b % 32 else if m = 2 then b % 16 else b % 8
def begS (b : Int) : St := if b < 128 then st0 else if (fol b).1 = 0 then st0 else ⟨lead b (fol b).1, 1, (fol b).1, (fol b).2.1, (fol b).2.2⟩
def begO (b : Int) : List Int := if b < 128 then [b] else if (fol b).1 = 0 then [65533] else []
def onS (st : St) (b : Int) : St := if st.missing = 1 then st0 else ⟨st.sign * 64 + b % 64, st.waits + 1, st.missing - 1, 128, 191⟩
def onO (st : St) (b : Int) : List Int := if st.missing = 1 then [st.sign * 64 + b % 64] else []
def goes (st : St) (b : Int) : Prop := 0 < st.waits ∧ st.low ≤ b ∧ b ≤ st.high
instance (st : St) (b : Int) : Decidable (goes st b) := by unfold goes; exact inferInstance
def stS (st : St) (b : Int) : St := if goes st b then onS st b else begS b
def stO (st : St) (b : Int) : List Int := if goes st b then onO st b else brk st ++ begO b
structure St.ok (st : St) : Prop where
  zero : st.waits = 0 → st = st0
  waits : 0 ≤ st.waits ∧ st.waits ≤ 3
  missing : 0 ≤ st.missing ∧ st.missing ≤ 3
  pos : 0 < st.waits → 0 < st.missing
  sum : st.waits + st.missing ≤ 4
  sign : 0 ≤ st.sign ∧ (st.waits = 1 → st.sign < 32) ∧ (st.waits = 2 → st.sign < 2048) ∧ (st.waits = 3 → st.sign < 131072)
  low : 0 ≤ st.low ∧ st.low ≤ 255
  high : 0 ≤ st.high ∧ st.high ≤ 191
theorem fol_cases (b : Int) : ((b < 194 ∨ 244 < b) ∧ fol b = (0, 0, 0)) ∨ (194 ≤ b ∧ b < 224 ∧ fol b = (1, 128, 191)) ∨ (b = 224 ∧ fol b = (2, 160, 191)) ∨ (b = 237 ∧ fol b = (2, 128, 159)) ∨ (224 < b ∧ b < 240 ∧ b ≠ 237 ∧ fol b = (2, 128, 191)) ∨ (b = 240 ∧ fol b = (3, 144, 191)) ∨ (240 < b ∧ b < 244 ∧ fol b = (3, 128, 191)) ∨ (b = 244 ∧ fol b = (3, 128, 143)) := by
  unfold fol
  by_cases h1 : b < 194
  · left; exact ⟨.inl h1, by simp [h1]⟩
  · by_cases h2 : b < 224
    · right; left; exact ⟨by omega, h2, by simp [h1, h2]⟩
    · by_cases h3 : b = 224
      · right; right; left; exact ⟨h3, by simp [h3]⟩
      · by_cases h4 : b = 237
        · right; right; right; left; exact ⟨h4, by simp [h4]⟩
        · by_cases h5 : b < 240
          · right; right; right; right; left; exact ⟨by omega, h5, h4, by simp [h1, h2, h3, h4, h5]⟩
          · by_cases h6 : b = 240
            · right; right; right; right; right; left; exact ⟨h6, by simp [h6]⟩
            · by_cases h7 : b < 244
              · right; right; right; right; right; right; left; exact ⟨by omega, h7, by simp [h1, h2, h3, h4, h5, h6, h7]⟩
              · by_cases h8 : b = 244
                · right; right; right; right; right; right; right; exact ⟨h8, by simp [h8]⟩
                · left; exact ⟨.inr (by omega), by simp [h1, h2, h3, h4, h5, h6, h7, h8]⟩
theorem st0_ok : st0.ok := by constructor <;> simp [st0]
theorem begS_ok (b : Int) (_h0 : 0 ≤ b) : (begS b).ok := by
  unfold begS
  split
  · exact st0_ok
  · split
    · exact st0_ok
    · rename_i h1 h2
      rcases fol_cases b with ⟨_, e⟩ | ⟨_, _, e⟩ | ⟨_, e⟩ | ⟨_, e⟩ | ⟨_, _, _, e⟩ | ⟨_, e⟩ | ⟨_, _, e⟩ | ⟨_, e⟩ <;> rw [e] at h2 ⊢
      · exact absurd rfl h2
      all_goals constructor <;> simp [lead] <;> omega
theorem onS_ok (st : St) (b : Int) (h : st.ok) (hp : 0 < st.waits) (_h0 : 0 ≤ b) : (onS st b).ok := by
  have a1 := h.waits; have a2 := h.missing; have a3 := h.pos hp; have a4 := h.sum; have a5 := h.sign
  unfold onS
  split
  · exact st0_ok
  · constructor <;> simp <;> omega
theorem stS_ok (st : St) (b : Int) (h : st.ok) (h0 : 0 ≤ b) : (stS st b).ok := by
  unfold stS
  split
  · rename_i g; exact onS_ok st b h g.1 h0
  · exact begS_ok b h0
def runS (st : St) : List Int → St
  | [] => st
  | b :: l => runS (stS st b) l
def runO (st : St) : List Int → List Int
  | [] => []
  | b :: l => stO st b ++ runO (stS st b) l
theorem runS_append (l m : List Int) : ∀ st, runS st (l ++ m) = runS (runS st l) m := by
  induction l with
  | nil => intro st; rfl
  | cons b l ih => intro st; exact ih _
theorem runO_append (l m : List Int) : ∀ st, runO st (l ++ m) = runO st l ++ runO (runS st l) m := by
  induction l with
  | nil => intro st; rfl
  | cons b l ih => intro st; simp only [List.cons_append, runO, runS, ih, List.append_assoc]
theorem stO_length (st : St) (b : Int) : (stO st b).length ≤ 2 := by
  have h1 : (onO st b).length ≤ 1 := by unfold onO; split <;> simp
  have h2 : (brk st).length ≤ 1 := by unfold brk; split <;> simp
  have h3 : (begO b).length ≤ 1 := by unfold begO; split; · simp
                                      split <;> simp
  unfold stO
  split
  · omega
  · rw [List.length_append]; omega
theorem runO_length (l : List Int) : ∀ st, (runO st l).length ≤ 2 * l.length := by
  induction l with
  | nil => intro st; simp [runO]
  | cons b l ih =>
    intro st
    have h1 := stO_length st b
    have h2 := ih (stS st b)
    simp only [runO, List.length_append, List.length_cons]
    omega
def allO (l : List Int) : List Int := runO st0 l ++ brk (runS st0 l)
end Go.Proofs.YteemnmalikomgaaGreatDoor
namespace Go.Proofs.YteemnmalikomgaaGreatDoor
open Go.ChangeShapes Go.WideShapes Go.ChangeAt Go.RowKit
structure Kept (b r : Option Nat) (w w' : World) : Prop where
 os : w'.os = w.os
 tape : w'.tape = w.tape
 output : w'.output = w.output
 size : w.heap.size ≤ w'.heap.size
 block : ∀ k, k < w.heap.size → some k ≠ b → some k ≠ r → w'.heap[k]? = w.heap[k]?
theorem Kept.refl (b r : Option Nat) (w : World) : Kept b r w w := ⟨rfl, rfl, rfl, Nat.le_refl _, fun _ _ _ _ => rfl⟩
structure Rd (w : World) (b : Nat) (st : St) : Prop where
 row : w.heap[b]? = some (.cells #[.int .i32 st.sign, .int .i64 st.waits, .int .i64 st.missing, .int .u8 st.low, .int .u8 st.high] 146 (0, 0))
 ok : st.ok
theorem Rd.cell {w : World} {b : Nat} {st : St} (h : Rd w b st) (i : Nat) : w.cell? ⟨b, i, none⟩ = #[Value.int .i32 st.sign, .int .i64 st.waits, .int .i64 st.missing, .int .u8 st.low, .int .u8 st.high][i]? := cell_of_row w b i _ _ (0, 0) h.row
theorem Rd.free {w : World} {b : Nat} {st : St} (h : Rd w b st) (i : Nat) : w.frozen? ⟨b, i, none⟩ = false := by simp [World.frozen?, h.row]
theorem Rd.lt {w : World} {b : Nat} {st : St} (h : Rd w b st) : b < w.heap.size := (Array.getElem?_eq_some_iff.1 h.row).1
theorem info21 : (Tryz.prog.info? 21).map (fun i => (i.zero, i.size, i.bytes)) = some (some (.int .i32 0), 1, 4) := by kernel_rfl
theorem grownBy_set (w : World) (p : Addr) (u : Value) : w.grownBy (w.setCell p u) (some p.block) :=
 ⟨rfl, rfl, rfl, by simp [World.setCell], fun k _ hne => Below.heap_setCell w p u k (fun e => hne (by rw [e]))⟩
theorem grownBy_two {a b c : World} {row : Option Nat} (h : a.grownBy b row) (k : b.grownBy c row) : a.grownBy c row :=
 ⟨k.os.trans h.os, k.tape.trans h.tape, k.output.trans h.output, Nat.le_trans h.size k.size, fun i hi hne => (k.block i (Nat.lt_of_lt_of_le hi h.size) hne).trans (h.block i hi hne)⟩
abbrev put5 (w : World) (b : Nat) (st : St) : World :=
 ((((w.setCell ⟨b, 0, none⟩ (.int .i32 st.sign)).setCell ⟨b, 1, none⟩ (.int .i64 st.waits)).setCell ⟨b, 2, none⟩ (.int .i64 st.missing)).setCell ⟨b, 3, none⟩ (.int .u8 st.low)).setCell ⟨b, 4, none⟩ (.int .u8 st.high)
theorem put5_grown (w : World) (b : Nat) (st : St) : w.grownBy (put5 w b st) (some b) :=
 grownBy_two (grownBy_two (grownBy_two (grownBy_two (grownBy_set w ⟨b, 0, none⟩ _) (grownBy_set _ ⟨b, 1, none⟩ _)) (grownBy_set _ ⟨b, 2, none⟩ _)) (grownBy_set _ ⟨b, 3, none⟩ _)) (grownBy_set _ ⟨b, 4, none⟩ _)
theorem put5_rd {w : World} {b : Nat} {st st' : St} (h : Rd w b st) (hok : st'.ok) : Rd (put5 w b st') b st' := by
 have h0 := heap_setCell_same w b 0 _ _ (.int .i32 st'.sign) h.row
 have h1 := heap_setCell_same _ b 1 _ _ (.int .i64 st'.waits) h0
 have h2 := heap_setCell_same _ b 2 _ _ (.int .i64 st'.missing) h1
 have h3 := heap_setCell_same _ b 3 _ _ (.int .u8 st'.low) h2
 have h4 := heap_setCell_same _ b 4 _ _ (.int .u8 st'.high) h3
 exact ⟨h4, hok⟩
theorem put5_size (w : World) (b : Nat) (st : St) : (put5 w b st).heap.size = w.heap.size := by simp [put5, World.setCell]
def Has (w : World) (base : Nat) (v : Value) (xs : List Int) : Prop := w.ownsRow base 21 1 v xs.length (xs.map (Value.int .i32))
theorem Has.nothing (w : World) (base : Nat) : Has w base (.slice none 0 0) [] := World.ownsRow_nil w base _ _
theorem Has.shape {w : World} {base : Nat} {v : Value} {xs : List Int} (h : Has w base v xs) : ∃ A c, v = .slice A xs.length c := by
 rcases h.2 with ⟨rfl, h0⟩ | ⟨g, cap, cur, rfl, _⟩
 ·rw [h0]; exact ⟨_, _, rfl⟩
 ·exact ⟨_, _, rfl⟩
def Told (base b : Nat) (v : Value) (xs : List Int) (st' : St) (w : World) (e : Ending) (w' : World) : Prop :=
 ∃ v', e = .returned v' ∧ Has w' base v' xs ∧ Rd w' b st' ∧ Kept (some b) v.ownBlock w w' ∧ (v'.ownBlock = v.ownBlock ∨ ∃ k, v'.ownBlock = some k ∧ w.heap.size ≤ k)
theorem told_put {base b : Nat} {v v' : Value} {xs : List Int} {x : Int} {st st' : St} {w w' : World} (h : Rd w b st) (hok : st'.ok)
  (hown : w'.ownsRow base 21 1 v' (xs.length + 1) (xs.map (Value.int .i32) ++ [.int .i32 x])) (hvb : v.ownBlock ≠ some b)
  (hg : ((put5 w b st').alloc (.cells #[.int .i32 x] 21)).grownBy w' v.ownBlock) (hat : v'.ownBlock = v.ownBlock ∨ v'.ownBlock = some ((put5 w b st').alloc (.cells #[.int .i32 x] 21)).heap.size) :
  Told base b v (xs ++ [x]) st' w (.returned v') w' := by
 have hr := put5_rd h hok
 have hp := put5_grown w b st'
 have hs := put5_size w b st'
 have hlt := h.lt
 have ha := Below.heap_alloc (put5 w b st') (.cells #[.int .i32 x] 21) b (by omega)
 refine ⟨v', rfl, by simpa [Has] using hown, ⟨?_, hok⟩, ⟨hg.os.trans hp.os, hg.tape.trans hp.tape, hg.output.trans hp.output, Nat.le_trans (by simp [hs]) hg.size, fun k hk h1 h2 => ?_⟩, ?_⟩
 ·rw [hg.block b (by simp [hs]; omega) (fun e => hvb e.symm), ha]; exact hr.row
 ·rw [hg.block k (by simp [hs]; omega) h2, Below.heap_alloc _ _ _ (by omega), hp.block k hk h1]
 ·rcases hat with e | e
  ·exact .inl e
  ·exact .inr ⟨_, e, by simp⟩
theorem told_app {base b : Nat} {v v' : Value} {xs : List Int} {x : Int} {st : St} {w w' : World} (h : Rd w b st)
  (hown : w'.ownsRow base 21 1 v' (xs.length + 1) (xs.map (Value.int .i32) ++ [.int .i32 x])) (hvb : v.ownBlock ≠ some b)
  (hg : (w.alloc (.cells #[.int .i32 x] 21)).grownBy w' v.ownBlock) (hat : v'.ownBlock = v.ownBlock ∨ v'.ownBlock = some (w.alloc (.cells #[.int .i32 x] 21)).heap.size) :
  Told base b v (xs ++ [x]) st w (.returned v') w' := by
 have hlt := h.lt
 refine ⟨v', rfl, by simpa [Has] using hown, ⟨?_, h.ok⟩, ⟨hg.os, hg.tape, hg.output, Nat.le_trans (by simp) hg.size, fun k hk _ h2 => ?_⟩, ?_⟩
 ·rw [hg.block b (by simp; omega) (fun e => hvb e.symm), Below.heap_alloc _ _ _ hlt]; exact h.row
 ·rw [hg.block k (by simp; omega) h2, Below.heap_alloc _ _ _ hk]
 ·rcases hat with e | e
  ·exact .inl e
  ·exact .inr ⟨_, e, by simp⟩
theorem told_set {base b : Nat} {v : Value} {xs : List Int} {st st' : St} {w : World} (h : Rd w b st) (hok : st'.ok) (hv : Has w base v xs) (hvb : v.ownBlock ≠ some b) :
  Told base b v xs st' w (.returned v) (put5 w b st') :=
 ⟨v, rfl, World.ownsRow.kept hv (put5_grown w b st') (.inr hvb), put5_rd h hok, ⟨(put5_grown w b st').os, (put5_grown w b st').tape, (put5_grown w b st').output, (put5_grown w b st').size, fun k hk h1 _ => (put5_grown w b st').block k hk h1⟩, .inl rfl⟩
theorem told_same {base b : Nat} {v : Value} {xs : List Int} {st : St} {w : World} (h : Rd w b st) (hv : Has w base v xs) : Told base b v xs st w (.returned v) w :=
 ⟨v, rfl, hv, h, Kept.refl _ _ _, .inl rfl⟩
theorem own_put {base b : Nat} {v : Value} {xs : List Int} {w : World} (st' : St) (h : Has w base v xs) (hvb : v.ownBlock ≠ some b) : (put5 w b st').ownsRow base 21 1 v xs.length (xs.map (Value.int .i32)) :=
 World.ownsRow.kept h (put5_grown w b st') (.inr hvb)
theorem cell_new_at {w : World} {n : Nat} (h : w.heap.size = n) (x : Value) (t : TypeId) : ∀ j u, [x][j]? = some u → (w.alloc (.cells #[x] t)).cell? ((⟨n, 0, none⟩ : Addr).add j) = some u := by
 subst h; exact cell_one_new w x t
theorem fits1 {n : Nat} (h : n ≤ 1099511627776) : n + 1 ≤ maxLen := by unfold maxLen; omega
theorem fits4 {n : Nat} (h : n ≤ 1099511627776) : (n + 1) * 4 ≤ 140737488355328 := by omega
theorem one_rune (x : Int) : ∀ u ∈ [Value.int .i32 x], u.oneCell' = true := by intro u hu; simp at hu; subst hu; rfl
theorem put5_base {w : World} {base : Nat} (h : base ≤ w.heap.size) (b : Nat) (st : St) (o : Obj) : base ≤ ((put5 w b st).alloc o).heap.size := by simp; omega
set_option maxRecDepth 100000 in
set_option maxHeartbeats 400000 in
theorem breakOff_no (b : Nat) (v : Value) (w : World) (st : St) (h : Rd w b st) (h0 : st.waits = 0) :
  Calls Tryz.prog 87 #[.pointer (some ⟨b, 0, none⟩), v] w fun e w' => e = .returned v ∧ w = w' := by
 have c1 : w.cell? ⟨b, 1, none⟩ = some (.int .i64 0) := by rw [h.cell 1, ← h0]; rfl
 clear h h0
 go_enter Tryz.func87, Tryz.ntmps87
 go_wp2
 go_ret
 exact ⟨rfl, rfl⟩
set_option maxRecDepth 100000 in
set_option maxHeartbeats 400000 in
theorem breakOff_yes (b base : Nat) (v : Value) (xs : List Int) (w : World) (st : St) (h : Rd w b st) (h0 : 0 < st.waits) (hv : Has w base v xs) (hvb : v.ownBlock ≠ some b) (hn : xs.length ≤ 1099511627776) (hbase : base ≤ w.heap.size) :
  Calls Tryz.prog 87 #[.pointer (some ⟨b, 0, none⟩), v] w fun e w' => Told base b v (xs ++ [65533]) st0 w e w' := by
 obtain ⟨i0, hi, hz0, hz1, hz2⟩ := info_parts info21
 obtain ⟨A, c, rfl⟩ := hv.shape
 have c0 : w.cell? ⟨b, 0, none⟩ = some (.int .i32 st.sign) := h.cell 0
 have c1 : w.cell? ⟨b, 1, none⟩ = some (.int .i64 st.waits) := h.cell 1
 have c2 : w.cell? ⟨b, 2, none⟩ = some (.int .i64 st.missing) := h.cell 2
 have c3 : w.cell? ⟨b, 3, none⟩ = some (.int .u8 st.low) := h.cell 3
 have c4 : w.cell? ⟨b, 4, none⟩ = some (.int .u8 st.high) := h.cell 4
 have f0 := h.free 0
 have f1 := h.free 1
 have f2 := h.free 2
 have f3 := h.free 3
 have f4 := h.free 4
 have hb := h.lt
 have HO : (((((w.setCell ⟨b, 0, none⟩ (.int .i32 0)).setCell ⟨b, 1, none⟩ (.int .i64 0)).setCell ⟨b, 2, none⟩ (.int .i64 0)).setCell ⟨b, 3, none⟩ (.int .u8 0)).setCell ⟨b, 4, none⟩ (.int .u8 0)).ownsRow base 21 1 (.slice A xs.length c) xs.length (xs.map (Value.int .i32)) := own_put st0 hv hvb
 have HV := Lib.hid hvb
 clear hvb hv
 go_enter Tryz.func87, Tryz.ntmps87
 go_wp2_with (at_builtin; go_loud (refine wpList_append_own_at _ rfl _ _ 23 rfl base 21 i0 (.int .i32 0) 1 4 Tryz.underlying23 hi hz0 hz1 hz2 rfl (by decide) (.slice A xs.length c) xs.length _ rfl (HO.alloc _) ⟨w.heap.size, 0, none⟩ 1 1 [.int .i32 65533] rfl rfl (cell_new_at (put5_size w b st0) _ _) (one_rune _) (fits1 hn) (fits4 hn) (put5_base hbase b st0 _) ?_); intro v' w1 hown' hgrow _ hat)
 go_wp2
 go_ret
 exact told_put h st0_ok hown' HV.out hgrow hat
theorem breakOff_any (b base : Nat) (v : Value) (xs : List Int) (w : World) (st : St) (h : Rd w b st) (hv : Has w base v xs) (hvb : v.ownBlock ≠ some b) (hn : xs.length ≤ 1099511627776) (hbase : base ≤ w.heap.size) :
  Calls Tryz.prog 87 #[.pointer (some ⟨b, 0, none⟩), v] w fun e w' => Told base b v (xs ++ brk st) st0 w e w' := by
 by_cases h0 : st.waits = 0
 ·have e : st = st0 := h.ok.zero h0
  subst e
  refine (breakOff_no b v w st0 h rfl).mono ?_
  rintro e w' ⟨rfl, rfl⟩
  simpa [brk, st0] using told_same h hv
 ·have := h.ok.waits
  have e : brk st = [65533] := by simp [brk, h0]
  rw [e]
  exact breakOff_yes b base v xs w st h (by omega) hv hvb hn hbase
set_option maxRecDepth 100000 in
set_option maxHeartbeats 800000 in
theorem follow_walk (b : Int) (h0 : 0 ≤ b) (h1 : b ≤ 255) (w : World) :
  Calls Tryz.prog 173 #[.int .u8 b] w fun e w' => e = .returned (.tuple #[.int .i64 (fol b).1, .int .u8 (fol b).2.1, .int .u8 (fol b).2.2]) ∧ w = w' := by
 rcases fol_cases b with ⟨h | h, e⟩ | ⟨h, h', e⟩ | ⟨h, e⟩ | ⟨h, e⟩ | ⟨h, h', h'', e⟩ | ⟨h, e⟩ | ⟨h, h', e⟩ | ⟨h, e⟩ <;> rw [e] <;> clear e <;> try subst h
 all_goals
  go_enter Tryz.func173, Tryz.ntmps173
  go_wp2
  go_ret3
  exact ⟨rfl, rfl⟩
theorem and31 {x : Int} (h0 : 0 ≤ x) (h1 : x ≤ 255) : bits .and .i32 x 31 = x % 32 := bits_mask .i32 31 (by decide) wraps_i32 5 (by decide) x h0 (by omega)
theorem and15 {x : Int} (h0 : 0 ≤ x) (h1 : x ≤ 255) : bits .and .i32 x 15 = x % 16 := bits_mask .i32 31 (by decide) wraps_i32 4 (by decide) x h0 (by omega)
theorem and7 {x : Int} (h0 : 0 ≤ x) (h1 : x ≤ 255) : bits .and .i32 x 7 = x % 8 := bits_mask .i32 31 (by decide) wraps_i32 3 (by decide) x h0 (by omega)
set_option maxRecDepth 100000 in
set_option maxHeartbeats 800000 in
theorem begin_more (b base : Nat) (v : Value) (xs : List Int) (x m lo hi : Int) (hx0 : 0 ≤ x) (hx1 : x ≤ 255) (h128 : 128 ≤ x) (w : World) (st : St) (h : Rd w b st) (hv : Has w base v xs) (hvb : v.ownBlock ≠ some b) (hf : fol x = (m, lo, hi)) (hm : m = 1 ∨ m = 2 ∨ m = 3) :
  Calls Tryz.prog 132 #[.pointer (some ⟨b, 0, none⟩), v, .int .u8 x] w fun e w' => Told base b v xs (begS x) w e w' := by
 have FW := follow_walk x hx0 hx1 w
 rw [hf] at FW
 have hok := begS_ok x hx0
 have T := told_set (st' := begS x) h hok hv hvb
 have c0 : w.cell? ⟨b, 0, none⟩ = some (.int .i32 st.sign) := h.cell 0
 have c1 : w.cell? ⟨b, 1, none⟩ = some (.int .i64 st.waits) := h.cell 1
 have c2 : w.cell? ⟨b, 2, none⟩ = some (.int .i64 st.missing) := h.cell 2
 have c3 : w.cell? ⟨b, 3, none⟩ = some (.int .u8 st.low) := h.cell 3
 have c4 : w.cell? ⟨b, 4, none⟩ = some (.int .u8 st.high) := h.cell 4
 have f0 := h.free 0
 have f1 := h.free 1
 have f2 := h.free 2
 have f3 := h.free 3
 have f4 := h.free 4
 have FWH := Lib.hid FW
 have e1 := and31 hx0 hx1
 have e2 := and15 hx0 hx1
 have e3 := and7 hx0 hx1
 have hb : begS x = ⟨lead x m, 1, m, lo, hi⟩ := by
  have h1 : ¬ x < 128 := by omega
  have h2 : ¬ m = 0 := by omega
  simp [begS, h1, hf, h2]
 clear h hv hvb hok FW hf
 rcases hm with rfl | rfl | rfl
 all_goals
  rw [hb] at T ⊢
  have TH := Lib.hid T
  clear T hb
  go_enter Tryz.func132, Tryz.ntmps132
  go_wp2_with (go_at_call 173; refine FWH.out.mono ?_; rintro e w' ⟨rfl, rfl⟩)
  go_ret
  exact TH.out
end Go.Proofs.YteemnmalikomgaaGreatDoor
namespace Go.Proofs.YteemnmalikomgaaGreatDoor
open Go.ChangeShapes Go.WideShapes Go.ChangeAt Go.RowKit
set_option maxRecDepth 100000 in
set_option maxHeartbeats 400000 in
theorem begin_ascii (b base : Nat) (v : Value) (xs : List Int) (x : Int) (hx0 : 0 ≤ x) (hx1 : x ≤ 255) (h128 : x < 128) (w : World) (st : St) (h : Rd w b st) (hv : Has w base v xs) (hvb : v.ownBlock ≠ some b) (hn : xs.length ≤ 1099511627776) (hbase : base ≤ w.heap.size) :
  Calls Tryz.prog 132 #[.pointer (some ⟨b, 0, none⟩), v, .int .u8 x] w fun e w' => Told base b v (xs ++ [x]) st w e w' := by
 obtain ⟨i0, hi, hz0, hz1, hz2⟩ := info_parts info21
 obtain ⟨A, c, rfl⟩ := hv.shape
 have HO : w.ownsRow base 21 1 (.slice A xs.length c) xs.length (xs.map (Value.int .i32)) := hv
 have HV := Lib.hid hvb
 clear hvb hv
 go_enter Tryz.func132, Tryz.ntmps132
 go_wp2_with (at_builtin; refine wpList_append_own_at _ rfl _ _ 23 rfl base 21 i0 (.int .i32 0) 1 4 Tryz.underlying23 hi hz0 hz1 hz2 rfl (by decide) (.slice A xs.length c) xs.length _ rfl (HO.alloc _) ⟨w.heap.size, 0, none⟩ 1 1 [.int .i32 x] rfl rfl (cell_new_at rfl _ _) (one_rune _) (fits1 hn) (fits4 hn) (by simp; omega) ?_; intro v' w1 hown' hgrow _ hat)
 go_wp2
 go_ret
 exact told_app h hown' HV.out hgrow hat
set_option maxRecDepth 100000 in
set_option maxHeartbeats 400000 in
theorem begin_bad (b base : Nat) (v : Value) (xs : List Int) (x : Int) (hx0 : 0 ≤ x) (hx1 : x ≤ 255) (h128 : 128 ≤ x) (w : World) (st : St) (h : Rd w b st) (hv : Has w base v xs) (hvb : v.ownBlock ≠ some b) (hn : xs.length ≤ 1099511627776) (hbase : base ≤ w.heap.size) (hf : fol x = (0, 0, 0)) :
  Calls Tryz.prog 132 #[.pointer (some ⟨b, 0, none⟩), v, .int .u8 x] w fun e w' => Told base b v (xs ++ [65533]) st w e w' := by
 have FW := follow_walk x hx0 hx1 w
 rw [hf] at FW
 have FWH := Lib.hid FW
 obtain ⟨i0, hi, hz0, hz1, hz2⟩ := info_parts info21
 obtain ⟨A, c, rfl⟩ := hv.shape
 have HO : w.ownsRow base 21 1 (.slice A xs.length c) xs.length (xs.map (Value.int .i32)) := hv
 have HV := Lib.hid hvb
 clear hvb hv FW hf
 go_enter Tryz.func132, Tryz.ntmps132
 go_wp2_with (first
  | (go_at_call 173; refine FWH.out.mono ?_; rintro e w' ⟨rfl, rfl⟩)
  | (at_builtin; refine wpList_append_own_at _ rfl _ _ 23 rfl base 21 i0 (.int .i32 0) 1 4 Tryz.underlying23 hi hz0 hz1 hz2 rfl (by decide) (.slice A xs.length c) xs.length _ rfl (HO.alloc _) ⟨w.heap.size, 0, none⟩ 1 1 [.int .i32 65533] rfl rfl (cell_new_at rfl _ _) (one_rune _) (fits1 hn) (fits4 hn) (by simp; omega) ?_; intro v' w1 hown' hgrow _ hat))
 go_wp2
 go_ret
 exact told_app h hown' HV.out hgrow hat
theorem begin_any (b base : Nat) (v : Value) (xs : List Int) (x : Int) (hx0 : 0 ≤ x) (hx1 : x ≤ 255) (w : World) (h : Rd w b st0) (hv : Has w base v xs) (hvb : v.ownBlock ≠ some b) (hn : xs.length ≤ 1099511627776) (hbase : base ≤ w.heap.size) :
  Calls Tryz.prog 132 #[.pointer (some ⟨b, 0, none⟩), v, .int .u8 x] w fun e w' => Told base b v (xs ++ begO x) (begS x) w e w' := by
 by_cases h128 : x < 128
 ·have e1 : begO x = [x] := by simp [begO, h128]
  have e2 : begS x = st0 := by simp [begS, h128]
  rw [e1, e2]
  exact begin_ascii b base v xs x hx0 hx1 h128 w st0 h hv hvb hn hbase
 ·rcases fol_cases x with ⟨_, e⟩ | ⟨_, _, e⟩ | ⟨_, e⟩ | ⟨_, e⟩ | ⟨_, _, _, e⟩ | ⟨_, e⟩ | ⟨_, _, e⟩ | ⟨_, e⟩
  ·have e1 : begO x = [65533] := by simp [begO, h128, e]
   have e2 : begS x = st0 := by simp [begS, h128, e]
   rw [e1, e2]
   exact begin_bad b base v xs x hx0 hx1 (by omega) w st0 h hv hvb hn hbase e
  all_goals
   have e1 : begO x = [] := by simp [begO, h128, e]
   rw [e1, List.append_nil]
   exact begin_more b base v xs x _ _ _ hx0 hx1 (by omega) w st0 h hv hvb e (by simp)
end Go.Proofs.YteemnmalikomgaaGreatDoor
namespace Go.Proofs.YteemnmalikomgaaGreatDoor
open Go.ChangeShapes Go.WideShapes Go.ChangeAt Go.RowKit
set_option maxRecDepth 100000 in
set_option maxHeartbeats 400000 in
theorem goOn_last (b base : Nat) (v : Value) (xs : List Int) (x : Int) (hx0 : 0 ≤ x) (hx1 : x ≤ 255) (w : World) (st : St) (h : Rd w b st) (hv : Has w base v xs) (hvb : v.ownBlock ≠ some b) (hn : xs.length ≤ 1099511627776) (hbase : base ≤ w.heap.size) (hm : st.missing = 1) (hs0 : 0 ≤ st.sign) (hs1 : st.sign < 131072) :
  Calls Tryz.prog 131 #[.pointer (some ⟨b, 0, none⟩), v, .int .u8 x] w fun e w' => Told base b v (xs ++ [st.sign * 64 + x % 64]) st0 w e w' := by
 obtain ⟨i0, hi, hz0, hz1, hz2⟩ := info_parts info21
 obtain ⟨A, c, rfl⟩ := hv.shape
 have c0 : w.cell? ⟨b, 0, none⟩ = some (.int .i32 st.sign) := h.cell 0
 have c1 : w.cell? ⟨b, 1, none⟩ = some (.int .i64 st.waits) := h.cell 1
 have c2 : w.cell? ⟨b, 2, none⟩ = some (.int .i64 1) := by rw [← hm]; exact h.cell 2
 have c3 : w.cell? ⟨b, 3, none⟩ = some (.int .u8 st.low) := h.cell 3
 have c4 : w.cell? ⟨b, 4, none⟩ = some (.int .u8 st.high) := h.cell 4
 have f0 := h.free 0
 have f1 := h.free 1
 have f2 := h.free 2
 have f3 := h.free 3
 have f4 := h.free 4
 have e1 := u8_and63 x hx0 (show x < 256 by omega)
 have e2 : bits .or .i32 (st.sign * 64) (x % 64) = st.sign * 64 + x % 64 := i32_or6 _ _ (by omega) (by omega) (by omega) (by omega) (by omega)
 have HO : (((((w.setCell ⟨b, 0, none⟩ (.int .i32 0)).setCell ⟨b, 1, none⟩ (.int .i64 0)).setCell ⟨b, 2, none⟩ (.int .i64 0)).setCell ⟨b, 3, none⟩ (.int .u8 0)).setCell ⟨b, 4, none⟩ (.int .u8 0)).ownsRow base 21 1 (.slice A xs.length c) xs.length (xs.map (Value.int .i32)) := own_put st0 hv hvb
 have HV := Lib.hid hvb
 clear hvb hv hm
 go_enter Tryz.func131, Tryz.ntmps131
 go_wp2_with (at_builtin; refine wpList_append_own_at _ rfl _ _ 23 rfl base 21 i0 (.int .i32 0) 1 4 Tryz.underlying23 hi hz0 hz1 hz2 rfl (by decide) (.slice A xs.length c) xs.length _ rfl (HO.alloc _) ⟨w.heap.size, 0, none⟩ 1 1 [.int .i32 (st.sign * 64 + x % 64)] rfl rfl (cell_new_at (put5_size w b st0) _ _) (one_rune _) (fits1 hn) (fits4 hn) (put5_base hbase b st0 _) ?_; intro v' w1 hown' hgrow _ hat)
 go_wp2
 go_ret
 exact told_put h st0_ok hown' HV.out hgrow hat
theorem told_drew {base b : Nat} {v : Value} {xs : List Int} {st' : St} {w : World} {e : Ending} {w' : World} (h : Told base b v xs st' w e w') : Told base b v xs st' w e w'.drew := by
 obtain ⟨v', e1, a1, a2, a3, a4⟩ := h
 exact ⟨v', e1, a1, ⟨a2.row, a2.ok⟩, ⟨a3.os, a3.tape, a3.output, a3.size, a3.block⟩, a4⟩
set_option maxRecDepth 100000 in
set_option maxHeartbeats 400000 in
theorem goOn_more (b base : Nat) (v : Value) (xs : List Int) (x : Int) (hx0 : 0 ≤ x) (hx1 : x ≤ 255) (w : World) (st : St) (h : Rd w b st) (hv : Has w base v xs) (hvb : v.ownBlock ≠ some b) (hm : 2 ≤ st.missing) (hm3 : st.missing ≤ 3) (hp : 0 < st.waits) (hw3 : st.waits ≤ 3) (hs0 : 0 ≤ st.sign) (hs1 : st.sign < 131072) :
  Calls Tryz.prog 131 #[.pointer (some ⟨b, 0, none⟩), v, .int .u8 x] w fun e w' => Told base b v xs (onS st x) w e w' := by
 have hok := onS_ok st x h.ok hp hx0
 have T := told_set (st' := onS st x) h hok hv hvb
 have c0 : w.cell? ⟨b, 0, none⟩ = some (.int .i32 st.sign) := h.cell 0
 have c1 : w.cell? ⟨b, 1, none⟩ = some (.int .i64 st.waits) := h.cell 1
 have c2 : w.cell? ⟨b, 2, none⟩ = some (.int .i64 st.missing) := h.cell 2
 have c3 : w.cell? ⟨b, 3, none⟩ = some (.int .u8 st.low) := h.cell 3
 have c4 : w.cell? ⟨b, 4, none⟩ = some (.int .u8 st.high) := h.cell 4
 have f0 := h.free 0
 have f1 := h.free 1
 have f2 := h.free 2
 have f3 := h.free 3
 have f4 := h.free 4
 have e1 := u8_and63 x hx0 (show x < 256 by omega)
 have e2 : bits .or .i32 (st.sign * 64) (x % 64) = st.sign * 64 + x % 64 := i32_or6 _ _ (by omega) (by omega) (by omega) (by omega) (by omega)
 have hb : onS st x = ⟨st.sign * 64 + x % 64, st.waits + 1, st.missing - 1, 128, 191⟩ := by
  have h1 : ¬ st.missing = 1 := by omega
  simp [onS, h1]
 rw [hb] at T ⊢
 have TH := Lib.hid T
 clear T hb hok h hv hvb
 go_enter Tryz.func131, Tryz.ntmps131
 go_wp2
 go_region
 all_goals go_wp2
 all_goals go_ret
 all_goals exact told_drew TH.out
theorem goOn_any (b base : Nat) (v : Value) (xs : List Int) (x : Int) (hx0 : 0 ≤ x) (hx1 : x ≤ 255) (w : World) (st : St) (h : Rd w b st) (hv : Has w base v xs) (hvb : v.ownBlock ≠ some b) (hn : xs.length ≤ 1099511627776) (hbase : base ≤ w.heap.size) (hp : 0 < st.waits) :
  Calls Tryz.prog 131 #[.pointer (some ⟨b, 0, none⟩), v, .int .u8 x] w fun e w' => Told base b v (xs ++ onO st x) (onS st x) w e w' := by
 have k1 := h.ok.waits
 have k2 := h.ok.missing
 have k3 := h.ok.pos hp
 have k4 := h.ok.sign
 by_cases hm : st.missing = 1
 ·have e1 : onO st x = [st.sign * 64 + x % 64] := by simp [onO, hm]
  have e2 : onS st x = st0 := by simp [onS, hm]
  rw [e1, e2]
  exact goOn_last b base v xs x hx0 hx1 w st h hv hvb hn hbase hm k4.1 (by omega)
 ·have e1 : onO st x = [] := by simp [onO, hm]
  rw [e1, List.append_nil]
  exact goOn_more b base v xs x hx0 hx1 w st h hv hvb (by omega) k2.2 hp k1.2 k4.1 (by omega)
theorem Told.shape {base b : Nat} {v : Value} {xs : List Int} {st' : St} {w : World} {e : Ending} {w' : World} (h : Told base b v xs st' w e w') : ∃ v', e = .returned v' ∧ Has w' base v' xs ∧ Rd w' b st' ∧ Kept (some b) v.ownBlock w w' ∧ (v'.ownBlock = v.ownBlock ∨ ∃ k, v'.ownBlock = some k ∧ w.heap.size ≤ k) := h
theorem told_two {base b : Nat} {v v1 : Value} {xs ys : List Int} {st1 st2 : St} {w w1 : World} {e : Ending} {w2 : World} (hk : Kept (some b) v.ownBlock w w1) (ha : v1.ownBlock = v.ownBlock ∨ ∃ k, v1.ownBlock = some k ∧ w.heap.size ≤ k) (h2 : Told base b v1 ys st2 w1 e w2) (_ : Told base b v xs st1 w (.returned v1) w1) : Told base b v ys st2 w e w2 := by
 obtain ⟨v2, rfl, a1, a2, a3, a4⟩ := h2
 refine ⟨v2, rfl, a1, a2, ⟨a3.os.trans hk.os, a3.tape.trans hk.tape, a3.output.trans hk.output, Nat.le_trans hk.size a3.size, fun k h0 h1 h2 => ?_⟩, ?_⟩
 ·rw [a3.block k (Nat.lt_of_lt_of_le h0 hk.size) h1 ?_]
  ·exact hk.block k h0 h1 h2
  ·rcases ha with e | ⟨j, e, hj⟩
   ·rw [e]; exact h2
   ·rw [e]; intro e'; injection e' with e'; omega
 ·rcases a4 with e | ⟨j, e, hj⟩
  ·rcases ha with e' | ⟨j, e', hj⟩
   ·exact .inl (e.trans e')
   ·exact .inr ⟨j, e.trans e', hj⟩
  ·exact .inr ⟨j, e, Nat.le_trans hk.size hj⟩
theorem told_ne {b : Nat} {v v1 : Value} {w : World} (hvb : v.ownBlock ≠ some b) (hb : b < w.heap.size) (ha : v1.ownBlock = v.ownBlock ∨ ∃ k, v1.ownBlock = some k ∧ w.heap.size ≤ k) : v1.ownBlock ≠ some b := by
 rcases ha with e | ⟨j, e, hj⟩
 ·rw [e]; exact hvb
 ·rw [e]; intro e'; injection e' with e'; omega
set_option maxRecDepth 100000 in
set_option maxHeartbeats 400000 in
theorem read_on (b base : Nat) (v : Value) (xs : List Int) (x : Int) (hx0 : 0 ≤ x) (hx1 : x ≤ 255) (w : World) (st : St) (h : Rd w b st) (hv : Has w base v xs) (hvb : v.ownBlock ≠ some b) (hn : xs.length ≤ 1099511627776) (hbase : base ≤ w.heap.size) (hp : 0 < st.waits) (hlo : st.low ≤ x) (hhi : x ≤ st.high) :
  Calls Tryz.prog 86 #[.pointer (some ⟨b, 0, none⟩), v, .int .u8 x] w fun e w' => Told base b v (xs ++ onO st x) (onS st x) w e w' := by
 have C := goOn_any b base v xs x hx0 hx1 w st h hv hvb hn hbase hp
 have CH := Lib.hid C
 have c1 : w.cell? ⟨b, 1, none⟩ = some (.int .i64 st.waits) := h.cell 1
 have c3 : w.cell? ⟨b, 3, none⟩ = some (.int .u8 st.low) := h.cell 3
 have c4 : w.cell? ⟨b, 4, none⟩ = some (.int .u8 st.high) := h.cell 4
 clear C h hv hvb
 go_enter Tryz.func86, Tryz.ntmps86
 go_wp2_with (go_at_call 131; refine CH.out.mono ?_; rintro e w' ⟨v', rfl, ht⟩)
 go_ret
 exact ⟨v', rfl, ht⟩
set_option maxRecDepth 100000 in
set_option maxHeartbeats 800000 in
theorem read_off (b base : Nat) (v : Value) (xs : List Int) (x : Int) (hx0 : 0 ≤ x) (hx1 : x ≤ 255) (w : World) (st : St) (h : Rd w b st) (hv : Has w base v xs) (hvb : v.ownBlock ≠ some b) (hn : xs.length + 1 ≤ 1099511627776) (hbase : base ≤ w.heap.size) (hp : st.waits = 0 ∨ (0 < st.waits ∧ x < st.low) ∨ (0 < st.waits ∧ st.low ≤ x ∧ st.high < x)) :
  Calls Tryz.prog 86 #[.pointer (some ⟨b, 0, none⟩), v, .int .u8 x] w fun e w' => Told base b v (xs ++ (brk st ++ begO x)) (begS x) w e w' := by
 have C := breakOff_any b base v xs w st h hv hvb (by omega) hbase
 have CH := Lib.hid C
 have D : ∀ v1 w1, Told base b v (xs ++ brk st) st0 w (.returned v1) w1 → Calls Tryz.prog 132 #[.pointer (some ⟨b, 0, none⟩), v1, .int .u8 x] w1 fun e w' => Told base b v (xs ++ (brk st ++ begO x)) (begS x) w e w' := by
  intro v1 w1 ht
  obtain ⟨v', e, a1, a2, a3, a4⟩ := ht.shape
  injection e with e
  subst e
  have hl : (xs ++ brk st).length ≤ 1099511627776 := by
   have : (brk st).length ≤ 1 := by unfold brk; split <;> simp
   simp; omega
  refine (begin_any b base v1 (xs ++ brk st) x hx0 hx1 w1 a2 a1 (told_ne hvb h.lt a4) hl (Nat.le_trans hbase a3.size)).mono fun e w2 h2 => ?_
  rw [← List.append_assoc]
  exact told_two a3 a4 h2 ht
 have DH := Lib.hid D
 have c1 : w.cell? ⟨b, 1, none⟩ = some (.int .i64 st.waits) := h.cell 1
 have c3 : w.cell? ⟨b, 3, none⟩ = some (.int .u8 st.low) := h.cell 3
 have c4 : w.cell? ⟨b, 4, none⟩ = some (.int .u8 st.high) := h.cell 4
 clear C D h hv hvb
 rcases hp with hp | ⟨hp, hq⟩ | ⟨hp, hq, hq'⟩
 ·rw [hp] at c1
  have HP := Lib.hid hp
  clear hp
  go_enter Tryz.func86, Tryz.ntmps86
  go_wp2_with (first
   | (go_at_call 87; refine CH.out.mono ?_; rintro e w1 ⟨v1, rfl, ht⟩)
   | (go_at_call 132; refine (DH.out v1 w1 ⟨v1, rfl, ht⟩).mono ?_; rintro e w2 ⟨v2, rfl, ht2⟩))
  go_ret
  exact ⟨v2, rfl, ht2⟩
 all_goals
  go_enter Tryz.func86, Tryz.ntmps86
  go_wp2_with (first
   | (go_at_call 87; refine CH.out.mono ?_; rintro e w1 ⟨v1, rfl, ht⟩)
   | (go_at_call 132; refine (DH.out v1 w1 ⟨v1, rfl, ht⟩).mono ?_; rintro e w2 ⟨v2, rfl, ht2⟩))
  go_ret
  exact ⟨v2, rfl, ht2⟩
theorem read_any (b base : Nat) (v : Value) (xs : List Int) (x : Int) (hx0 : 0 ≤ x) (hx1 : x ≤ 255) (w : World) (st : St) (h : Rd w b st) (hv : Has w base v xs) (hvb : v.ownBlock ≠ some b) (hn : xs.length + 1 ≤ 1099511627776) (hbase : base ≤ w.heap.size) :
  Calls Tryz.prog 86 #[.pointer (some ⟨b, 0, none⟩), v, .int .u8 x] w fun e w' => Told base b v (xs ++ stO st x) (stS st x) w e w' := by
 by_cases g : goes st x
 ·have e1 : stO st x = onO st x := by simp [stO, g]
  have e2 : stS st x = onS st x := by simp [stS, g]
  rw [e1, e2]
  exact read_on b base v xs x hx0 hx1 w st h hv hvb (by omega) hbase g.1 g.2.1 g.2.2
 ·have e1 : stO st x = brk st ++ begO x := by simp [stO, g]
  have e2 : stS st x = begS x := by simp [stS, g]
  rw [e1, e2]
  have k := h.ok.waits
  refine read_off b base v xs x hx0 hx1 w st h hv hvb hn hbase ?_
  unfold goes at g
  omega
end Go.Proofs.YteemnmalikomgaaGreatDoor
namespace Go.Proofs.YteemnmalikomgaaGreatDoor
open Go.ChangeShapes Go.WideShapes Go.ChangeAt Go.RowKit
theorem Has.lower {w : World} {base base' : Nat} {v : Value} {xs : List Int} (h : Has w base v xs) (hb : base' ≤ base) : Has w base' v xs := by
 refine ⟨h.1, ?_⟩
 rcases h.2 with e | ⟨g, cap, cur, e1, e2, r⟩
 ·exact .inl e
 ·exact .inr ⟨g, cap, cur, e1, Nat.le_trans hb e2, r⟩
theorem Has.below {w w' : World} {B base : Nat} {v : Value} {xs : List Int} (h : Has w base v xs) (hb : Below B w w') (hv : ∀ k, v.ownBlock = some k → k < B) : Has w' base v xs := by
 refine ⟨h.1, ?_⟩
 rcases h.2 with e | ⟨g, cap, cur, rfl, e2, e3, r⟩
 ·exact .inl e
 ·exact .inr ⟨g, cap, cur, rfl, e2, (hb.block g (hv g rfl)).trans e3, r⟩
theorem Has.ne {w : World} {base b : Nat} {v : Value} {xs : List Int} (h : Has w base v xs) (hb : b < base) : v.ownBlock ≠ some b := fun e => by
 have := (World.ownsRow.lt h b e).1; omega
theorem Has.lt {w : World} {base : Nat} {v : Value} {xs : List Int} (h : Has w base v xs) : ∀ k, v.ownBlock = some k → k < w.heap.size := fun k e => (World.ownsRow.lt h k e).2
theorem Has.sq {w : World} {base : Nat} {A : Option Addr} {n c : Nat} {xs : List Int} (h : Has w base (.slice A n c) xs) : n = xs.length ∧ Sq w w.heap.size 1 n A (xs.map (Value.int .i32)) := by
 obtain ⟨A', c', e⟩ := h.shape
 injection e with e1 e2 e3
 subst e1 e2 e3
 exact ⟨rfl, Sq.own h⟩
theorem Kept.below {b r : Option Nat} {w w' : World} {B : Nat} (h : Kept b r w w') (hB : B ≤ w.heap.size) (hb : ∀ k, b = some k → B ≤ k) (hr : ∀ k, r = some k → B ≤ k) : Below B w w' :=
 ⟨h.os, h.tape, h.output, h.size, fun k hk => h.block k (by omega) (fun e => by have := hb k e.symm; omega) (fun e => by have := hr k e.symm; omega)⟩
def AllPost (l : List Int) (w : World) (e : Ending) (w' : World) : Prop := ∃ v, e = .returned v ∧ Has w' w.heap.size v l ∧ Below w.heap.size w w'
def AllAt (s : ByteArray) (w : World) (k : Nat) (v : Value) (wr : World) : Prop := k ≤ s.size ∧ Has wr (w.heap.size + 1) v (runO st0 ((octs s).take k)) ∧ Rd wr w.heap.size (runS st0 ((octs s).take k)) ∧ Below w.heap.size w wr
set_option maxRecDepth 100000 in
set_option maxHeartbeats 800000 in
theorem all_walk (s : ByteArray) (hs : s.size ≤ 274877906944) (w : World) :
  Calls Tryz.prog 49 #[.string s] w fun e w' => AllPost (allO (octs s)) w e w' := by
 go_enter Tryz.func49, Tryz.ntmps49
 go_wp2
 go_loopw [4, 8] (fun v i wr => ∃ k : Nat, i = .int .i64 k ∧ AllAt s w k v wr) (fun _ i _ => s.size - (intOf i).toNat)
 case atStart =>
  refine ⟨0, rfl, Nat.zero_le _, Has.nothing _ _, ⟨?_, st0_ok⟩, (Below.refl _ _).alloc (Nat.le_refl _) _⟩
  exact heap_alloc_new w _
 case round =>
  obtain ⟨k, rfl, hat⟩ := hrel
  by_cases hlt : k < s.size
  ·have hx := octs_range s (nth (octs s) k) (by rw [nth_get (by rw [octs_length]; exact hlt)]; exact List.getElem_mem _)
   have hnx := nth_octs s k hlt
   rw [hnx] at hx
   have C := fun hn => read_any w.heap.size (w.heap.size + 1) u4 (runO st0 ((octs s).take k)) _ hx.1 hx.2 wr _ hat.2.2.1 hat.2.1 (hat.2.1.ne (Nat.lt_succ_self _)) hn hat.2.2.1.lt
   have CH := Lib.hid (C (by
    have := runO_length ((octs s).take k) st0
    have := List.length_take_le k (octs s)
    omega))
   have NX := Lib.hid hnx
   clear C hx hnx
   go_wp2_with (go_at_call 86; refine CH.out.mono ?_; rintro e w' ⟨v', rfl, ht⟩)
   go_roundw
   case rel =>
    refine ⟨k + 1, by go_num, by omega, ?_, ?_, ?_⟩
    ·rw [take_next (by rw [octs_length]; exact hlt), runO_append, NX.out]; simpa [runO] using ht.1
    ·rw [take_next (by rw [octs_length]; exact hlt), runS_append, NX.out]; exact ht.2.1
    ·exact hat.2.2.2.trans (ht.2.2.1.below (Nat.le_of_lt hat.2.2.1.lt) (fun j e => by injection e with e; omega) (fun j e => by have := (World.ownsRow.lt hat.2.1 j e).1; omega))
   case measure => simp [intOf]; omega
  ·have hk : (octs s).take k = octs s := take_all _ (by rw [octs_length]; omega)
   obtain ⟨_, h1, h2, h3⟩ := hat
   rw [hk] at h1 h2
   have C := fun hn => breakOff_any w.heap.size (w.heap.size + 1) u4 (runO st0 (octs s)) wr _ h2 h1 (h1.ne (Nat.lt_succ_self _)) hn h2.lt
   have CH := Lib.hid (C (by
    have := runO_length (octs s) st0
    rw [octs_length] at this
    omega))
   have HB := Lib.hid (fun w' (hkp : Kept (some w.heap.size) u4.ownBlock wr w') => h3.trans (hkp.below (B := w.heap.size) (Nat.le_of_lt h2.lt) (fun j e => by injection e with e; omega) (fun j e => by have := (World.ownsRow.lt h1 j e).1; omega)))
   clear C hk h1 h2 h3
   go_wp2_with (go_at_call 87; refine CH.out.mono ?_; rintro e w' ⟨v', rfl, ht⟩)
   go_ret
   exact ⟨v', rfl, Has.lower ht.1 (by omega), HB.out _ ht.2.2.1⟩
end Go.Proofs.YteemnmalikomgaaGreatDoor




namespace Go.Proofs.YteemnmalikomgaaGreatDoor
open Go.ChangeShapes Go.WideShapes Go.ChangeAt Go.RowKit
theorem laidOut : laidOutB Tryz.prog = true := by kernel_rfl
section
variable {H : Type} {enc : TypeId × Value → H} {W W' : World}
theorem wf_i64 {x : Int} (h : (Lit.int .i64 x).wf = true) : -9223372036854775808 ≤ x ∧ x ≤ 9223372036854775807 := by
 simpa [Lit.wf, IntKind.min, IntKind.max, IntKind.signed, IntKind.bits] using h
theorem trodAll_below (hb : Below W.heap.size W W') : ∀ {ts : List TypeId} {vs : List Value} {ds : List (DataW H)} {ps : List MemPlace}, (ts.all fun t => Tryz.prog.readableRec t && decide (t < Tryz.prog.types.size)) = true →
  DataW.TrodAll enc Tryz.prog W 0 (fun _ => true) true ts vs ds ps → DataW.TrodAll enc Tryz.prog W' 0 (fun b => decide (b < W.heap.size)) true ts vs ds ps := by
 intro ts
 induction ts with
 | nil =>
  intro vs ds ps _ h
  obtain ⟨rfl, rfl, rfl⟩ := trodAll_nil h
  exact trodAll_mk0
 | cons t ts ih =>
  intro vs ds ps ht h
  have hlt := DataW.TrodAll.lt h
  simp only [List.all_cons, Bool.and_eq_true, decide_eq_true_eq] at ht
  obtain ⟨v, vs', d, ds', p, q, rfl, rfl, rfl, h0, hr⟩ := trodAll_cons h
  exact trodAll_cons_mk (Below.trod laidOut ht.1.1 ht.1.2 h0 hb (fun x hx => hlt x (List.mem_append_left _ hx))) (ih ht.2 hr)
set_option maxRecDepth 100000 in
theorem close {s : ChangeSpec} {f : Func} {args : Array Value} {ds gs : List (DataW H)} {before : List MemPlace} (hv : s.vars = [])
  (hW : DataW.Whole enc Tryz.prog f.params.toList s.vars false W args.toList ds gs before) (hfn : (s.fn H (ds ++ [])).results = [.lit (.bool true)] ∧ (s.fn H (ds ++ [])).args = ds ∧ (s.fn H (ds ++ [])).vars = []) (hres : f.resultTypes = #[4])
  (hts : (f.params.toList.all fun t => Tryz.prog.readableRec t && decide (t < Tryz.prog.types.size)) = true) (hb : Below W.heap.size W W') :
  s.post enc Tryz.prog f false true false false W args (.bool true) W' := by
 have hW' := hW
 obtain ⟨p, q, hA, hV, rfl, _, _⟩ := hW
 rw [hv] at hV
 obtain ⟨rfl, rfl⟩ := trodVars_none hV
 obtain ⟨h1, h2, h3⟩ := hfn
 refine ⟨ds, [], p ++ [], [], p, [], hW', ?_, ?_, ?_, hb.frame _, fun h => by cases h⟩
 ·rw [h1, hres]
  exact trodAll_cons_mk (shut_bool Tryz.underlying4 _) trodAll_mk0
 ·rw [h2]
  exact trodAll_below hb hts hA
 ·rw [h3, hv]
  rfl
end
end Go.Proofs.YteemnmalikomgaaGreatDoor
namespace Go.Proofs.YteemnmalikomgaaGreatDoor
open Go.ChangeShapes Go.WideShapes Go.ChangeAt Go.RowKit
section
variable {H : Type} {enc : TypeId × Value → H} {W W' : World}
end
end Go.Proofs.YteemnmalikomgaaGreatDoor
