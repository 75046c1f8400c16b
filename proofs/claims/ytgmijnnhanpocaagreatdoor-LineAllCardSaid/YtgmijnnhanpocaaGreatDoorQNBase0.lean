/-
  DERIVED: THE SHELF's CONTRACTS AT THIS DUMP, IN PLAIN WORDS (tools/lay-plain.mjs out of 'TryzShelf.lean', which tools/lay-shelf.mjs wrote): THE SAME DECLARATIONS UNDER THE SAME NAMES: 'import', 'namespace', 'open', 'def', 'theorem' AND NOTHING ELSE: no command of the shelf's: FOR A HAND-IN. Each laying: the table of numbers ('.._ren') and one theorem, a field a fact of the dump's own or the kernel's comparison; each contract: ONE APPLICATION. The package-level table of width: what the row's list gives of its cells; how wide a sign is, as a plain chain of bounds. Words for memory: a slice whose cells are a list; what stands below a block; small facts on lists. Nothing of the program but its number kinds. width.Of and width.Text: what they answer, for every sign and every list of signs. The functions of package cell that look at one cell: Blank, Pad, IsBlank, IsPad, hasSign, May. The machine of package utf in plain words: states, steps, what a text becomes. The methods of utf.Reader: each step of the machine, whatever it holds. More of utf.Reader: begin, goOn, read, and the methods of its face; All. More of utf.Reader: goOn, read, and the methods of its face; All. The face of utf: Put, End, Waits, All, of a Reader and of none. The functions of package cell: hasSign, May, Of, Line. strings.Builder.WriteRune, whatever the Builder that a call has made holds. cell.Text and cell.Line. cell.Trim: what is left, for every list of cells; utf.Write. What begun's functions tell; what memory holds while begun goes on. The arguments of a statement: a slice of signs, a slice of cells as lists; how a statement's row is closed behind a walk that keeps all that was there. The arguments of the statements of layers 4 to 6: numbers of 64 bits, bytes, lists of numbers. Numbers of seven bits a byte in plain words: what a number becomes, what is read at the beginning of bytes; that the one is the other's way back. Runs of alike things. Rows as bytes in plain words: what a row becomes; what is read at the beginning of bytes; that the one is the other's way back. Runs of alike things, built up from the front: what becomes of them when one thing more comes. cell.May of any cell.
-/
import Derived.Shelf.Strings.Builder1
import Derived.Shelf.Small.Utf8
import Derived.Shelf.Small.Strs
import Derived.Shelf.Strings.BuilderF
import Derived.Shelf.Strings.BuilderK
import Derived.Shelf.Strings.BuilderRune
import Derived.Shelf.Utf8.AppendRune
import Derived.Shelf.Utf8.AppendRunePlain
import Derived.Shelf.Strings.Search1
import Derived.Shelf.Strings.Runes
import Derived.Shelf.Bits.Mul64
import Derived.Ground.SlbCloneProg
import Derived.Shelf.Bytes.SlClone
import Derived.Test.YtgmijnnhanpocaaGreatDoorProg
import Derived.Test.YtgmijnnhanpocaaGreatDoorRows
import Derived.WalkKit
import Derived.ProofKit
import Derived.OpenShut
import Derived.Deep.DeepHandedRow
import Derived.Lib.LaidTab
import Derived.Lib.Hide
import Derived.Deep.RegionWith
import Derived.RegionCalls
import Derived.Outline
import Derived.RegionTactic
import Derived.ChangeAlike
import Derived.Maps.AppendAt
import Derived.Laws.BitsLemmas
import Derived.Deep.DeepMust
import Derived.Laws.Cover4
import Derived.Carry
import Derived.ChangeOld
namespace Go.Proofs
open Go.Shelf
def Tryz.lays169_ren : Go.Shelf.Ren := ⟨fun | 169 => 186 | n => n, fun | 70 => 207 | 9 => 9 | 0 => 0 | 72 => 209 | 37 => 94 | 127 => 216 | 3 => 3 | 5 => 5 | n => n, fun | n => n⟩
theorem Tryz.lays169 : Go.Proofs.Lays.n169 Tryz.prog Tryz.lays169_ren := {
 mixed := by kernel_rfl
 f169 := Tryz.func186.trans (congrArg some (by kernel_rfl))
 t0 := Tryz.underlying0
 a0 := Tryz.isAgg0
 z0 := Tryz.sizeOf0
 v0 := Tryz.zeroValue0
 t3 := Tryz.underlying3
 a3 := Tryz.isAgg3
 z3 := Tryz.sizeOf3
 v3 := Tryz.zeroValue3
 t9 := Tryz.underlying9
 a9 := Tryz.isAgg9
 z9 := Tryz.sizeOf9
 v9 := Tryz.zeroValue9
 t37 := Tryz.underlying94
 a37 := Tryz.isAgg94
 z37 := Tryz.sizeOf94
 v37 := Tryz.zeroValue94
 t70 := Tryz.underlying207
 a70 := Tryz.isAgg207
 z70 := Tryz.sizeOf207
 v70 := Tryz.zeroValue207
 t72 := Tryz.underlying209
 a72 := Tryz.isAgg209
 z72 := Tryz.sizeOf209
 v72 := Tryz.zeroValue209
 t127 := Tryz.underlying216
 a127 := Tryz.isAgg216
 z127 := Tryz.sizeOf216
 v127 := Tryz.zeroValue216 }
theorem Tryz.Builder_Extra_169 : Builder.Extra Tryz.prog Tryz.lays169_ren := {
 sizeBuilder := by kernel_rfl
 liesBuilder := by kernel_rfl
 t5 := Tryz.underlying5
 a5 := Tryz.isAgg5
 z5 := Tryz.sizeOf5
 v5 := Tryz.zeroValue5
 infoByte := by kernel_rfl
 cellsByte := by kernel_rfl
 sizeByte := by kernel_rfl
 neB5 := by decide }
def Tryz.lays137_ren : Go.Shelf.Ren := ⟨fun | 137 => 170 | 217 => 179 | 266 => 184 | n => n, fun | 9 => 9 | 5 => 5 | 3 => 3 | n => n, fun | n => n⟩
theorem Tryz.lays137 : Go.Proofs.Lays.n137 Tryz.prog Tryz.lays137_ren := {
 mixed := by kernel_rfl
 f137 := Tryz.func170.trans (congrArg some (by kernel_rfl))
 f217 := Tryz.func179.trans (congrArg some (by kernel_rfl))
 f266 := Tryz.func184.trans (congrArg some (by kernel_rfl))
 t3 := Tryz.underlying3
 a3 := Tryz.isAgg3
 z3 := Tryz.sizeOf3
 v3 := Tryz.zeroValue3
 t5 := Tryz.underlying5
 a5 := Tryz.isAgg5
 z5 := Tryz.sizeOf5
 v5 := Tryz.zeroValue5
 t9 := Tryz.underlying9
 a9 := Tryz.isAgg9
 z9 := Tryz.sizeOf9
 v9 := Tryz.zeroValue9 }
def Tryz.lays212_ren : Go.Shelf.Ren := ⟨fun | 212 => 150 | 263 => 166 | 264 => 167 | n => n, fun | 46 => 167 | 51 => 185 | 146 => 186 | 53 => 182 | 148 => 188 | n => n, fun | n => n⟩
theorem Tryz.lays212 : Go.Proofs.Lays.n212 Tryz.prog Tryz.lays212_ren := {
 mixed := by kernel_rfl
 f212 := Tryz.func150.trans (congrArg some (by kernel_rfl))
 f263 := Tryz.func166.trans (congrArg some (by kernel_rfl))
 f264 := Tryz.func167.trans (congrArg some (by kernel_rfl))
 t46 := Tryz.underlying167
 a46 := Tryz.isAgg167
 z46 := Tryz.sizeOf167
 v46 := Tryz.zeroValue167
 t51 := Tryz.underlying185
 a51 := Tryz.isAgg185
 z51 := Tryz.sizeOf185
 v51 := Tryz.zeroValue185
 t53 := Tryz.underlying182
 a53 := Tryz.isAgg182
 z53 := Tryz.sizeOf182
 v53 := Tryz.zeroValue182
 t146 := Tryz.underlying186
 a146 := Tryz.isAgg186
 z146 := Tryz.sizeOf186
 v146 := Tryz.zeroValue186
 t148 := Tryz.underlying188
 a148 := Tryz.isAgg188
 z148 := Tryz.sizeOf188
 v148 := Tryz.zeroValue188 }
open Go.RowKit Go.Lib in
theorem Tryz.bits_Mul (x y : Nat) (hx : x < 18446744073709551616) (hy : y < 18446744073709551616) (w : World) :
  Calls Tryz.prog 150 #[.int .u64 x, .int .u64 y] w fun e w' => e = .returned (.tuple #[.int .u64 ((x * y / 18446744073709551616 : Nat) : Int), .int .u64 ((x * y % 18446744073709551616 : Nat) : Int)]) ∧ w' = w := Any.bits_Mul Tryz.lays212 x y hx hy w
end Go.Proofs
namespace Go.Proofs.YtgmijnnhanpocaaGreatDoor
open Go.ChangeShapes Go.WideShapes Go.ChangeAt Go.RowKit
def spanRows : List (Int × Int × Int) :=
 [(-2147483648, 31, 0), (127, 159, 0), (768, 879, 0), (4352, 4447, 2), (8203, 8207, 0), (11904, 12350, 2), (12353, 13311, 2), (13312, 19903, 2), (19968, 40959, 2), (40960, 42191, 2), (44032, 55203, 2), (55296, 57343, 0), (63744, 64255, 2), (65024, 65039, 0), (65072, 65135, 2), (65280, 65376, 2), (65504, 65510, 2), (127744, 128591, 2), (129280, 129535, 2), (131072, 262141, 2), (1114112, 2147483647, 0)]
def sFirst (i : Nat) : Int := (spanRows.getD i (0, 0, 0)).1
def sLast (i : Nat) : Int := (spanRows.getD i (0, 0, 0)).2.1
def sWide (i : Nat) : Int := (spanRows.getD i (0, 0, 0)).2.2
structure Spans (w : World) : Prop where
 size : 0 < w.heap.size
 first : ∀ i, i < 21 → w.cell? ⟨0, i * 3, none⟩ = some (.int .i32 (sFirst i))
 last : ∀ i, i < 21 → w.cell? ⟨0, i * 3 + 1, none⟩ = some (.int .i32 (sLast i))
 wide : ∀ i, i < 21 → w.cell? ⟨0, i * 3 + 2, none⟩ = some (.int .i64 (sWide i))
theorem Spans.below {w w' : World} {B : Nat} (h : Spans w) (hb : Below B w w') (hB : 0 < B) : Spans w' :=
 ⟨Nat.lt_of_lt_of_le h.size hb.size, fun i hi => (hb.cell (p := ⟨0, i * 3, none⟩) hB).trans (h.first i hi), fun i hi => (hb.cell (p := ⟨0, i * 3 + 1, none⟩) hB).trans (h.last i hi), fun i hi => (hb.cell (p := ⟨0, i * 3 + 2, none⟩) hB).trans (h.wide i hi)⟩
theorem Spans.drew {w : World} (h : Spans w) : Spans w.drew := ⟨h.size, h.first, h.last, h.wide⟩
theorem gSpans : Tryz.prog.globalNamed "rotulus/width.spans" = some 0 := by kernel_rfl
theorem gSpansType : (Tryz.prog.globals[0]?).map (·.type) = some 166 := by kernel_rfl
theorem cellsSpans : Tryz.prog.cellsOf 166 = 63 := by kernel_rfl
theorem cellsSpan : Tryz.prog.cellsOf 165 = 3 := by kernel_rfl
theorem cellsRune : Tryz.prog.cellsOf 21 = 1 := by kernel_rfl
theorem cellsInt : Tryz.prog.cellsOf 3 = 1 := by kernel_rfl
set_option maxRecDepth 100000 in
theorem span_cells {H : Type} {enc : TypeId × Value → H} {w : World} {base : Nat} {sp : Nat → Bool} {held : Bool} {fuel : Nat} {cs : List Value} {a b c : Int} {x : DataW H × List MemPlace}
  (h : DataW.trod enc Tryz.prog w base sp held fuel 165 cs = some x) (hx : x.1 = .agg [.lit (.int .i32 a), .lit (.int .i32 b), .lit (.int .i64 c)]) : cs = [.int .i32 a, .int .i32 b, .int .i64 c] := by
 obtain ⟨xs, m, rfl, rfl, hl, hn, hf⟩ := DataW.trod_struct Tryz.underlying165 h
 rw [cellsSpan] at hl
 match cs, hl with
 | [c0, c1, c2], _ =>
  have f0 : DataW.trod enc Tryz.prog w base sp held m 21 [c0] = xs[0]? := by have := hf 0 _ rfl; simpa [cellsRune] using this
  have f1 : DataW.trod enc Tryz.prog w base sp held m 21 [c1] = xs[1]? := by have := hf 1 _ rfl; simpa [cellsRune] using this
  have f2 : DataW.trod enc Tryz.prog w base sp held m 3 [c2] = xs[2]? := by have := hf 2 _ rfl; simpa [cellsInt] using this
  match xs, hn with
  | [x0, x1, x2], _ =>
   simp only [List.getElem?_cons_zero, List.getElem?_cons_succ] at f0 f1 f2
   obtain ⟨z0, e0, rfl, _⟩ := DataW.trod_int Tryz.underlying21 f0
   obtain ⟨z1, e1, rfl, _⟩ := DataW.trod_int Tryz.underlying21 f1
   obtain ⟨z2, e2, rfl, _⟩ := DataW.trod_int Tryz.underlying3 f2
   simp at e0 e1 e2 hx
   obtain ⟨rfl, rfl, rfl⟩ := hx
   rw [e0, e1, e2]
theorem laid_rows {H : Type} : Rows.laid_rotulus_width_spans (H := H) = .agg (spanRows.map fun x => .agg [.lit (.int .i32 x.1), .lit (.int .i32 x.2.1), .lit (.int .i64 x.2.2)]) := rfl
theorem spans_of {W : World} (h : laidMetH Tryz.prog [("rotulus/width.spans", Rows.laid_rotulus_width_spans)] W) : Spans W := by
 have h' : laidMet Tryz.prog [("rotulus/width.spans", Rows.laid_rotulus_width_spans)] W := h
 obtain ⟨ps, ⟨g', t', cs, fuel, p, q, hg', ht', hvar, hd, _, _⟩, _⟩ := h'
 obtain rfl := Option.some.inj (gSpans.symm.trans hg')
 obtain rfl := Option.some.inj (gSpansType.symm.trans ht')
 obtain ⟨xs, m, rfl, hx, hl, hn, hf⟩ := DataW.trod_array Tryz.underlying166 hd
 rw [cellsSpan] at hf
 rw [cellsSpans] at hl
 have hxs : xs.map (·.1) = spanRows.map fun x => (DataW.agg [.lit (.int .i32 x.1), .lit (.int .i32 x.2.1), .lit (.int .i64 x.2.2)] : DataW Unit) := by
  have := congrArg Prod.fst hx
  rw [laid_rows] at this
  exact (DataW.agg.inj this).symm
 have key : ∀ i, i < 21 → (cs.toList.drop (i * 3)).take 3 = [.int .i32 (sFirst i), .int .i32 (sLast i), .int .i64 (sWide i)] := by
  intro i hi
  have hr : spanRows[i]? = some (spanRows.getD i (0, 0, 0)) := by
   have : i < spanRows.length := hi
   simp [List.getD, this]
  have h1 : (xs.map (·.1))[i]? = some (DataW.agg [.lit (.int .i32 (sFirst i)), .lit (.int .i32 (sLast i)), .lit (.int .i64 (sWide i))] : DataW Unit) := by
   rw [hxs, List.getElem?_map, hr]; rfl
  have h2 := hf i hi
  rw [List.getElem?_map, Option.map_eq_some_iff] at h1
  obtain ⟨x, hx1, hx2⟩ := h1
  rw [hx1] at h2
  exact span_cells h2 hx2
 have cell : ∀ i j v, i < 21 → [Value.int .i32 (sFirst i), .int .i32 (sLast i), .int .i64 (sWide i)][j]? = some v → W.cell? ⟨0, i * 3 + j, none⟩ = some v := by
  intro i j v hi hv
  rw [World.var?_cell gSpans hvar, ← hv, ← key i hi, List.getElem?_take, ← Array.getElem?_toList]
  have hj : j < 3 := by
   by_cases hj : j < 3
   ·exact hj
   ·rw [List.getElem?_eq_none (by simp; omega)] at hv; cases hv
  rw [if_pos hj, List.getElem?_drop]
 refine ⟨World.block_lt_of_cell? W _ (cell 0 0 _ (by omega) rfl), fun i hi => cell i 0 _ hi rfl, fun i hi => cell i 1 _ hi rfl, fun i hi => cell i 2 _ hi rfl⟩
def wof (r : Int) : Int :=
 if r ≤ 31 then 0 else
 if 127 ≤ r ∧ r ≤ 159 then 0 else
 if 768 ≤ r ∧ r ≤ 879 then 0 else
 if 4352 ≤ r ∧ r ≤ 4447 then 2 else
 if 8203 ≤ r ∧ r ≤ 8207 then 0 else
 if 11904 ≤ r ∧ r ≤ 12350 then 2 else
 if 12353 ≤ r ∧ r ≤ 13311 then 2 else
 if 13312 ≤ r ∧ r ≤ 19903 then 2 else
 if 19968 ≤ r ∧ r ≤ 40959 then 2 else
 if 40960 ≤ r ∧ r ≤ 42191 then 2 else
 if 44032 ≤ r ∧ r ≤ 55203 then 2 else
 if 55296 ≤ r ∧ r ≤ 57343 then 0 else
 if 63744 ≤ r ∧ r ≤ 64255 then 2 else
 if 65024 ≤ r ∧ r ≤ 65039 then 0 else
 if 65072 ≤ r ∧ r ≤ 65135 then 2 else
 if 65280 ≤ r ∧ r ≤ 65376 then 2 else
 if 65504 ≤ r ∧ r ≤ 65510 then 2 else
 if 127744 ≤ r ∧ r ≤ 128591 then 2 else
 if 129280 ≤ r ∧ r ≤ 129535 then 2 else
 if 131072 ≤ r ∧ r ≤ 262141 then 2 else
 if 1114112 ≤ r then 0 else
 1
theorem wof_range (r : Int) : 0 ≤ wof r ∧ wof r ≤ 2 := by
 unfold wof
 repeat' split
 all_goals omega
theorem wof_miss (r : Int) (h0 : -2147483648 ≤ r) (h1 : r ≤ 2147483647) (h : ∀ i, i < 21 → sLast i < r ∨ r < sFirst i) : wof r = 1 := by
 have k : ∀ i, i < 21 → ¬ (sFirst i ≤ r ∧ r ≤ sLast i) := fun i hi e => by have := h i hi; omega
 have k0 := k 0 (by omega); have k1 := k 1 (by omega); have k2 := k 2 (by omega); have k3 := k 3 (by omega); have k4 := k 4 (by omega); have k5 := k 5 (by omega); have k6 := k 6 (by omega)
 have k7 := k 7 (by omega); have k8 := k 8 (by omega); have k9 := k 9 (by omega); have k10 := k 10 (by omega); have k11 := k 11 (by omega); have k12 := k 12 (by omega); have k13 := k 13 (by omega)
 have k14 := k 14 (by omega); have k15 := k 15 (by omega); have k16 := k 16 (by omega); have k17 := k 17 (by omega); have k18 := k 18 (by omega); have k19 := k 19 (by omega); have k20 := k 20 (by omega)
 simp only [sFirst, sLast, spanRows, List.getD_cons_zero, List.getD_cons_succ] at k0 k1 k2 k3 k4 k5 k6 k7 k8 k9 k10 k11 k12 k13 k14 k15 k16 k17 k18 k19 k20
 unfold wof
 repeat rw [if_neg (by omega)]
theorem wof_hit (r : Int) (i : Nat) (hi : i < 21) (h0 : sFirst i ≤ r) (h1 : r ≤ sLast i) : wof r = sWide i := by
 unfold wof
 match i, hi with
 | 0, _ => simp only [sFirst, sLast, spanRows, List.getD_cons_zero] at h0 h1; (repeat rw [if_neg (by omega)]); rw [if_pos (by omega)]; rfl
 | 1, _ => simp only [sFirst, sLast, spanRows, List.getD_cons_zero, List.getD_cons_succ] at h0 h1; (repeat rw [if_neg (by omega)]); rw [if_pos (by omega)]; rfl
 | 2, _ => simp only [sFirst, sLast, spanRows, List.getD_cons_zero, List.getD_cons_succ] at h0 h1; (repeat rw [if_neg (by omega)]); rw [if_pos (by omega)]; rfl
 | 3, _ => simp only [sFirst, sLast, spanRows, List.getD_cons_zero, List.getD_cons_succ] at h0 h1; (repeat rw [if_neg (by omega)]); rw [if_pos (by omega)]; rfl
 | 4, _ => simp only [sFirst, sLast, spanRows, List.getD_cons_zero, List.getD_cons_succ] at h0 h1; (repeat rw [if_neg (by omega)]); rw [if_pos (by omega)]; rfl
 | 5, _ => simp only [sFirst, sLast, spanRows, List.getD_cons_zero, List.getD_cons_succ] at h0 h1; (repeat rw [if_neg (by omega)]); rw [if_pos (by omega)]; rfl
 | 6, _ => simp only [sFirst, sLast, spanRows, List.getD_cons_zero, List.getD_cons_succ] at h0 h1; (repeat rw [if_neg (by omega)]); rw [if_pos (by omega)]; rfl
 | 7, _ => simp only [sFirst, sLast, spanRows, List.getD_cons_zero, List.getD_cons_succ] at h0 h1; (repeat rw [if_neg (by omega)]); rw [if_pos (by omega)]; rfl
 | 8, _ => simp only [sFirst, sLast, spanRows, List.getD_cons_zero, List.getD_cons_succ] at h0 h1; (repeat rw [if_neg (by omega)]); rw [if_pos (by omega)]; rfl
 | 9, _ => simp only [sFirst, sLast, spanRows, List.getD_cons_zero, List.getD_cons_succ] at h0 h1; (repeat rw [if_neg (by omega)]); rw [if_pos (by omega)]; rfl
 | 10, _ => simp only [sFirst, sLast, spanRows, List.getD_cons_zero, List.getD_cons_succ] at h0 h1; (repeat rw [if_neg (by omega)]); rw [if_pos (by omega)]; rfl
 | 11, _ => simp only [sFirst, sLast, spanRows, List.getD_cons_zero, List.getD_cons_succ] at h0 h1; (repeat rw [if_neg (by omega)]); rw [if_pos (by omega)]; rfl
 | 12, _ => simp only [sFirst, sLast, spanRows, List.getD_cons_zero, List.getD_cons_succ] at h0 h1; (repeat rw [if_neg (by omega)]); rw [if_pos (by omega)]; rfl
 | 13, _ => simp only [sFirst, sLast, spanRows, List.getD_cons_zero, List.getD_cons_succ] at h0 h1; (repeat rw [if_neg (by omega)]); rw [if_pos (by omega)]; rfl
 | 14, _ => simp only [sFirst, sLast, spanRows, List.getD_cons_zero, List.getD_cons_succ] at h0 h1; (repeat rw [if_neg (by omega)]); rw [if_pos (by omega)]; rfl
 | 15, _ => simp only [sFirst, sLast, spanRows, List.getD_cons_zero, List.getD_cons_succ] at h0 h1; (repeat rw [if_neg (by omega)]); rw [if_pos (by omega)]; rfl
 | 16, _ => simp only [sFirst, sLast, spanRows, List.getD_cons_zero, List.getD_cons_succ] at h0 h1; (repeat rw [if_neg (by omega)]); rw [if_pos (by omega)]; rfl
 | 17, _ => simp only [sFirst, sLast, spanRows, List.getD_cons_zero, List.getD_cons_succ] at h0 h1; (repeat rw [if_neg (by omega)]); rw [if_pos (by omega)]; rfl
 | 18, _ => simp only [sFirst, sLast, spanRows, List.getD_cons_zero, List.getD_cons_succ] at h0 h1; (repeat rw [if_neg (by omega)]); rw [if_pos (by omega)]; rfl
 | 19, _ => simp only [sFirst, sLast, spanRows, List.getD_cons_zero, List.getD_cons_succ] at h0 h1; (repeat rw [if_neg (by omega)]); rw [if_pos (by omega)]; rfl
 | 20, _ => simp only [sFirst, sLast, spanRows, List.getD_cons_zero, List.getD_cons_succ] at h0 h1; (repeat rw [if_neg (by omega)]); rw [if_pos (by omega)]; rfl
 | n + 21, h => omega
theorem sFirst_mono : ∀ j, j < 21 → ∀ i, i < j → sFirst i ≤ sFirst j := by decide +kernel
theorem sLast_mono : ∀ j, j < 21 → ∀ i, i < j → sLast i ≤ sLast j := by decide +kernel
end Go.Proofs.YtgmijnnhanpocaaGreatDoor
namespace Go.Proofs.YtgmijnnhanpocaaGreatDoor
open Go.ChangeShapes Go.WideShapes Go.ChangeAt Go.RowKit
theorem ret_int {k : IntKind} {a b : Int} (h : a = b) : Ending.returned (.int k a) = .returned (.int k b) := by rw [h]
theorem ret_bool {a b : Bool} (h : a = b) : Ending.returned (.bool a) = .returned (.bool b) := by rw [h]
structure Sq (w : World) (B size n : Nat) (A : Option Addr) (xs : List Value) : Prop where
 len : xs.length = n * size
 spot : 0 < n → ∃ b off, A = some ⟨b, off, none⟩ ∧ b < B ∧ ∀ j u, xs[j]? = some u → w.cell? ⟨b, off + j, none⟩ = some u
def nth (l : List Int) (k : Nat) : Int := l.getD k 0
theorem nth_get {l : List Int} {k : Nat} (h : k < l.length) : nth l k = l[k] := by simp [nth, List.getD, h]
namespace Sq
variable {w w' : World} {B B' size n : Nat} {A : Option Addr} {xs : List Value}
theorem nothing (w : World) (B size : Nat) (A : Option Addr) : Sq w B size 0 A [] := ⟨by simp, fun h => absurd h (Nat.lt_irrefl 0)⟩
theorem carry (h : Sq w B size n A xs) (k : ∀ p : Addr, p.block < B → w'.cell? p = w.cell? p) : Sq w' B size n A xs :=
 ⟨h.len, fun hn => let ⟨b, off, e, hb, hc⟩ := h.spot hn; ⟨b, off, e, hb, fun j u hu => (k ⟨b, off + j, none⟩ hb).trans (hc j u hu)⟩⟩
theorem below (h : Sq w B size n A xs) (hb : Below B w w') : Sq w' B size n A xs := h.carry fun _ hp => hb.cell hp
theorem up (h : Sq w B size n A xs) (hB : B ≤ B') : Sq w B' size n A xs :=
 ⟨h.len, fun hn => let ⟨b, off, e, hb, hc⟩ := h.spot hn; ⟨b, off, e, Nat.lt_of_lt_of_le hb hB, hc⟩⟩
theorem alloc (h : Sq w B size n A xs) (hB : B ≤ w.heap.size) (o : Obj) : Sq (w.alloc o) B size n A xs := h.below ((Below.refl _ _).alloc hB o)
theorem setCell (h : Sq w B size n A xs) {p : Addr} (hp : B ≤ p.block) (u : Value) : Sq (w.setCell p u) B size n A xs := h.below ((Below.refl _ _).setCell hp u)
theorem own {base : Nat} {e : TypeId} {c : Nat} (h : w.ownsRow base e size (.slice A n c) n xs) : Sq w w.heap.size size n A xs := by
 refine ⟨h.1, fun hn => ?_⟩
 rcases h.2 with ⟨hv, h0⟩ | ⟨g, cap, cur, hv, _, hg, _, _, _, htake⟩
 ·omega
 ·have hA : A = some ⟨g, 0, none⟩ := by injection hv
  subst hA
  refine ⟨g, 0, rfl, (Array.getElem?_eq_some_iff.1 hg).1, fun j u hu => ?_⟩
  rw [cell_of_row w g (0 + j) cur e (0, 0) hg, Nat.zero_add]
  rw [← htake, List.getElem?_take] at hu
  split at hu
  ·simpa using hu
  ·cases hu
end Sq
def Runes (l : List Int) : Prop := ∀ r ∈ l, -2147483648 ≤ r ∧ r ≤ 2147483647
theorem Runes.get {l : List Int} (h : Runes l) (i : Nat) : -2147483648 ≤ nth l i ∧ nth l i ≤ 2147483647 := by
 by_cases hi : i < l.length
 ·rw [nth_get hi]; exact h _ (List.getElem_mem hi)
 ·have e : nth l i = 0 := by simp [nth, List.getD, show l.length ≤ i by omega]
  rw [e]; omega
end Go.Proofs.YtgmijnnhanpocaaGreatDoor
namespace Go.Proofs.YtgmijnnhanpocaaGreatDoor
open Go.ChangeShapes Go.WideShapes Go.ChangeAt Go.RowKit
set_option maxRecDepth 100000 in
set_option maxHeartbeats 400000 in
theorem of_walk (r : Int) (hr0 : -2147483648 ≤ r) (hr1 : r ≤ 2147483647) (w : World) (hs : Spans w) :
  Calls Tryz.prog 117 #[.int .i32 r] w fun e w' => e = .returned (.int .i64 (wof r)) ∧ w = w' := by
 have hf := hs.first
 have hl := hs.last
 have hw := hs.wide
 clear hs
 go_enter Tryz.func117, Tryz.ntmps117
 go_wp2
 go_loop [3, 4] (fun lo hi => ∃ l h : Nat, l ≤ h ∧ h ≤ 21 ∧ lo = .int .i64 l ∧ hi = .int .i64 h ∧ (∀ i, i < l → sLast i < r) ∧ (∀ i, h ≤ i → i < 21 → r < sFirst i)) (fun lo hi => (intOf hi - intOf lo).toNat)
 case atStart => exact ⟨0, 21, by omega, by omega, rfl, rfl, fun i hi => by omega, fun i h1 h2 => by omega⟩
 case round =>
  obtain ⟨l, h, hlh, h21, rfl, rfl, hlo, hhi⟩ := hrel
  by_cases hlt : l < h
  ·have f1 := hf ((l + h) / 2) (by omega)
   have l1 := hl ((l + h) / 2) (by omega)
   have w1 := hw ((l + h) / 2) (by omega)
   have hit := wof_hit r ((l + h) / 2) (by omega)
   have LO := Lib.hid hlo
   have HI := Lib.hid hhi
   have HIT := Lib.hid hit
   clear hlo hhi hf hl hw hit
   by_cases c1 : r < sFirst ((l + h) / 2)
   ·go_wp2
    go_round
    case rel => exact ⟨l, (l + h) / 2, by omega, by omega, rfl, by go_num, LO.out, fun i h1 h2 => (Nat.lt_or_eq_of_le h1).elim (fun h3 => Int.lt_of_lt_of_le c1 (sFirst_mono i h2 _ h3)) (fun h3 => h3 ▸ c1)⟩
    case measure => simp [intOf]; omega
   ·by_cases c2 : sLast ((l + h) / 2) < r
    ·go_wp2
     go_round
     case rel => exact ⟨(l + h) / 2 + 1, h, by omega, by omega, by go_num, rfl, fun i h1 => (Nat.lt_or_eq_of_le (Nat.le_of_lt_succ h1)).elim (fun h3 => Int.lt_of_le_of_lt (sLast_mono _ (by omega) i h3) c2) (fun h3 => h3 ▸ c2), HI.out⟩
     case measure => simp [intOf]; omega
    ·go_wp2
     go_ret
     exact ⟨ret_int (HIT.out (by omega) (by omega)).symm, rfl⟩
  ·have M := Lib.hid (wof_miss r hr0 hr1 (fun i hi => by
    by_cases c : i < l
    ·exact Or.inl (hlo i c)
    ·exact Or.inr (hhi i (by omega) hi)))
   clear hlo hhi hf hl hw
   go_wp2
   go_ret
   exact ⟨ret_int M.out.symm, rfl⟩
end Go.Proofs.YtgmijnnhanpocaaGreatDoor
namespace Go.Proofs.YtgmijnnhanpocaaGreatDoor
open Go.ChangeShapes Go.WideShapes Go.ChangeAt Go.RowKit
abbrev cellV (r w a : Int) : Value := .agg #[.int .i32 r, .int .i64 w, .int .i64 a]
set_option maxRecDepth 100000 in
theorem blank_walk (w : World) : Calls Tryz.prog 119 #[] w fun e w' => e = .returned (cellV 32 1 0) ∧ Below w.heap.size w w' := by
 go_enter Tryz.func119, Tryz.ntmps119
 go_wp2
 exact bodyPost_ret (v := cellV 32 1 0) (by simp [results, Tryz.results119, go_sem]) rfl ⟨rfl, (Below.refl _ _).alloc (Nat.le_refl _) _⟩
set_option maxRecDepth 100000 in
theorem pad_walk (w : World) : Calls Tryz.prog 84 #[] w fun e w' => e = .returned (cellV 0 1 0) ∧ Below w.heap.size w w' := by
 go_enter Tryz.func84, Tryz.ntmps84
 go_wp2
 exact bodyPost_ret (v := cellV 0 1 0) (by simp [results, Tryz.results84, go_sem]) rfl ⟨rfl, (Below.refl _ _).alloc (Nat.le_refl _) _⟩
def isB (c r n a : Int) : Bool := r == c && n == 1 && a == 0
set_option maxRecDepth 100000 in
set_option maxHeartbeats 1600000 in
theorem isBlank_walk (r n a : Int) (w : World) : Calls Tryz.prog 115 #[cellV r n a] w fun e w' => e = .returned (.bool (isB 32 r n a)) ∧ Below w.heap.size w w' := by
 cases h1 : (r == 32) <;> cases h2 : (n == 1) <;> cases h3 : (a == 0)
 all_goals
  obtain ⟨B, hB⟩ : ∃ B, isB 32 r n a = B := ⟨_, rfl⟩
  rw [hB]
  unfold isB at hB
  rw [h1, h2, h3] at hB
  obtain rfl := hB
  go_enter Tryz.func115, Tryz.ntmps115
  go_wp2
  go_region_with ((go_at_call 119; refine (blank_walk _).mono ?_; rintro e w' ⟨rfl, hb⟩; have k0 : w'.cell? ⟨w.heap.size, 0, none⟩ = some (.int .i32 r) := (hb.cell (p := ⟨w.heap.size, 0, none⟩) (by simp)).trans (by simp); have k1 : w'.cell? ⟨w.heap.size, 1, none⟩ = some (.int .i64 n) := (hb.cell (p := ⟨w.heap.size, 1, none⟩) (by simp)).trans (by simp); have k2 : w'.cell? ⟨w.heap.size, 2, none⟩ = some (.int .i64 a) := (hb.cell (p := ⟨w.heap.size, 2, none⟩) (by simp)).trans (by simp)))
  all_goals go_wp2
  all_goals go_ret
  all_goals
   have hb' := hb.mono (B' := w.heap.size) (by simp)
   first
    | exact ⟨rfl, (((Below.refl _ _).alloc (Nat.le_refl _) _).drew).trans hb'⟩
    | exact ⟨rfl, ((((Below.refl _ _).alloc (Nat.le_refl _) _).drew).trans hb').drew⟩
    | exact ⟨rfl, ((Below.refl _ _).alloc (Nat.le_refl _) _).trans hb'⟩
set_option maxRecDepth 100000 in
set_option maxHeartbeats 1600000 in
theorem isPad_walk (r n a : Int) (w : World) : Calls Tryz.prog 114 #[cellV r n a] w fun e w' => e = .returned (.bool (isB 0 r n a)) ∧ Below w.heap.size w w' := by
 cases h1 : (r == 0) <;> cases h2 : (n == 1) <;> cases h3 : (a == 0)
 all_goals
  obtain ⟨B, hB⟩ : ∃ B, isB 0 r n a = B := ⟨_, rfl⟩
  rw [hB]
  unfold isB at hB
  rw [h1, h2, h3] at hB
  obtain rfl := hB
  go_enter Tryz.func114, Tryz.ntmps114
  go_wp2
  go_region_with ((go_at_call 84; refine (pad_walk _).mono ?_; rintro e w' ⟨rfl, hb⟩; have k0 : w'.cell? ⟨w.heap.size, 0, none⟩ = some (.int .i32 r) := (hb.cell (p := ⟨w.heap.size, 0, none⟩) (by simp)).trans (by simp); have k1 : w'.cell? ⟨w.heap.size, 1, none⟩ = some (.int .i64 n) := (hb.cell (p := ⟨w.heap.size, 1, none⟩) (by simp)).trans (by simp); have k2 : w'.cell? ⟨w.heap.size, 2, none⟩ = some (.int .i64 a) := (hb.cell (p := ⟨w.heap.size, 2, none⟩) (by simp)).trans (by simp)))
  all_goals go_wp2
  all_goals go_ret
  all_goals
   have hb' := hb.mono (B' := w.heap.size) (by simp)
   first
    | exact ⟨rfl, (((Below.refl _ _).alloc (Nat.le_refl _) _).drew).trans hb'⟩
    | exact ⟨rfl, ((((Below.refl _ _).alloc (Nat.le_refl _) _).drew).trans hb').drew⟩
    | exact ⟨rfl, ((Below.refl _ _).alloc (Nat.le_refl _) _).trans hb'⟩
end Go.Proofs.YtgmijnnhanpocaaGreatDoor



namespace Go.Proofs.YtgmijnnhanpocaaGreatDoor
open Go.ChangeShapes Go.WideShapes Go.ChangeAt Go.RowKit
set_option maxRecDepth 100000 in
set_option maxHeartbeats 400000 in
theorem mayAttr_yes (a : Int) (h0 : 0 ≤ a) (h1 : a ≤ 255) (w : World) : Calls Tryz.prog 116 #[.int .i64 a] w fun e w' => e = .returned (.bool true) ∧ w = w' := by
 go_enter Tryz.func116, Tryz.ntmps116
 go_wp2
 go_ret
 exact ⟨rfl, rfl⟩
set_option maxRecDepth 100000 in
set_option maxHeartbeats 400000 in
theorem mayAttr_no (a : Int) (h : a < 0 ∨ 255 < a) (w : World) : Calls Tryz.prog 116 #[.int .i64 a] w fun e w' => e = .returned (.bool false) ∧ w = w' := by
 rcases h with h | h
 ·go_enter Tryz.func116, Tryz.ntmps116
  go_wp2
  go_ret
  exact ⟨rfl, rfl⟩
 ·have h0 : 0 ≤ a := by omega
  have h1 : decide (a ≤ 255) = false := by simp; omega
  go_enter Tryz.func116, Tryz.ntmps116
  go_wp2
  go_ret
  exact ⟨rfl, rfl⟩
def hasB (r n a : Int) : Bool := (n == 1 || n == 2) && !(isB 0 r n a)
set_option maxRecDepth 100000 in
set_option maxHeartbeats 800000 in
theorem hasSign_walk (r n a : Int) (w : World) : Calls Tryz.prog 78 #[cellV r n a] w fun e w' => e = .returned (.bool (hasB r n a)) ∧ Below w.heap.size w w' := by
 obtain ⟨B, hB⟩ : ∃ B, hasB r n a = B := ⟨_, rfl⟩
 rw [hB]
 unfold hasB at hB
 obtain ⟨p, hp⟩ : ∃ p, isB 0 r n a = p := ⟨_, rfl⟩
 rw [hp] at hB
 have P := fun w => isPad_walk r n a w
 rw [hp] at P
 have PH := Lib.hid P
 clear P hp
 cases h1 : (n == 1) <;> cases h2 : (n == 2) <;> rw [h1, h2] at hB <;> cases p <;> obtain rfl := hB
 all_goals
  go_enter Tryz.func78, Tryz.ntmps78
  go_wp2_with (go_at_call 114; refine (PH.out _).mono ?_; rintro e w' ⟨rfl, hb⟩)
  go_ret
  first
   | exact ⟨rfl, ((Below.refl _ _).alloc (Nat.le_refl _) _).trans (hb.mono (by simp))⟩
   | exact ⟨rfl, (Below.refl _ _).alloc (Nat.le_refl _) _⟩
def flat : List (Int × Int × Int) → List Value
 | [] => []
 | c :: l => .int .i32 c.1 :: .int .i64 c.2.1 :: .int .i64 c.2.2 :: flat l
theorem flat_length (l : List (Int × Int × Int)) : (flat l).length = l.length * 3 := by
 induction l with
 | nil => rfl
 | cons c l ih => simp only [flat, List.length_cons, ih]; omega
theorem flat_append (l m : List (Int × Int × Int)) : flat (l ++ m) = flat l ++ flat m := by
 induction l with
 | nil => rfl
 | cons c l ih => simp only [List.cons_append, flat, ih]
def HasC (w : World) (base : Nat) (v : Value) (l : List (Int × Int × Int)) : Prop := w.ownsRow base 50 3 v l.length (flat l)
def OfPost (l : List (Int × Int × Int)) (w : World) (e : Ending) (w' : World) : Prop := ∃ v, e = .returned v ∧ HasC w' w.heap.size v l ∧ Below w.heap.size w w'
theorem own_new (w : World) (e : TypeId) (size n : Nat) (cs : Array Value) (hs : cs.size = n * size) (hn : n ≤ 1099511627776) : (w.alloc (.cells cs e)).ownsRow w.heap.size e size (.slice (some ⟨w.heap.size, 0, none⟩) n n) n cs.toList := by
 refine ⟨by rw [Array.length_toList, hs], .inr ⟨w.heap.size, n, cs, rfl, Nat.le_refl _, heap_alloc_new w _, Nat.le_refl _, by unfold maxLen; omega, hs, ?_⟩⟩
 rw [← hs, ← Array.length_toList]; exact List.take_length
structure Good (c : Int × Int × Int) : Prop where
 sign : -2147483648 ≤ c.1 ∧ c.1 ≤ 2147483647
 wide : wof c.1 = c.2.1
 two : c.2.1 = 1 ∨ c.2.1 = 2
 attr : 0 ≤ c.2.2 ∧ c.2.2 ≤ 255
theorem Good.has {c : Int × Int × Int} (h : Good c) : hasB c.1 c.2.1 c.2.2 = true := by
 have h0 : c.1 ≠ 0 := fun e => by
  have := h.wide; rw [e] at this
  rcases h.two with k | k <;> rw [k] at this <;> exact absurd this (by decide)
 have hb : (c.1 == 0) = false := by simpa using h0
 rcases h.two with k | k <;> simp [hasB, isB, hb, k]
theorem Sq.three {w : World} {B n : Nat} {A : Option Addr} {l : List (Int × Int × Int)} (h : Sq w B 3 n A (flat l)) {i : Nat} (hi : i < n) :
  ∃ b off, A = some ⟨b, off, none⟩ ∧ b < B ∧ ∃ c, l[i]? = some c ∧ w.cell? ⟨b, off + i * 3, none⟩ = some (.int .i32 c.1) ∧ w.cell? ⟨b, off + i * 3 + 1, none⟩ = some (.int .i64 c.2.1) ∧ w.cell? ⟨b, off + i * 3 + 2, none⟩ = some (.int .i64 c.2.2) := by
 obtain ⟨b, off, e, hb, hc⟩ := h.spot (by omega)
 have hl : i < l.length := by have := h.len; rw [flat_length] at this; omega
 have key : ∀ (l : List (Int × Int × Int)) (i : Nat) (hl : i < l.length), (flat l)[i * 3]? = some (.int .i32 (l[i]'hl).1) ∧ (flat l)[i * 3 + 1]? = some (.int .i64 (l[i]'hl).2.1) ∧ (flat l)[i * 3 + 2]? = some (.int .i64 (l[i]'hl).2.2) := by
  intro l
  induction l with
  | nil => intro i hl; simp at hl
  | cons c l ih =>
   intro i hl
   cases i with
   | zero => exact ⟨rfl, rfl, rfl⟩
   | succ i =>
    have := ih i (by simpa using hl)
    have e : (i + 1) * 3 = i * 3 + 1 + 1 + 1 := by omega
    rw [e]
    simpa [flat] using this
 obtain ⟨k0, k1, k2⟩ := key l i hl
 exact ⟨b, off, e, hb, l[i], List.getElem?_eq_getElem hl, hc _ _ k0, hc _ _ k1, hc _ _ k2⟩
end Go.Proofs.YtgmijnnhanpocaaGreatDoor

namespace Go.Proofs.YtgmijnnhanpocaaGreatDoor
open Go.ChangeShapes Go.WideShapes Go.ChangeAt Go.RowKit
theorem take_one {α : Type} {l : List α} {k : Nat} {c : α} (h : l[k]? = some c) : l.take (k + 1) = l.take k ++ [c] := by
 obtain ⟨hk, rfl⟩ := List.getElem?_eq_some_iff.1 h
 exact List.take_succ_eq_append_getElem hk
end Go.Proofs.YtgmijnnhanpocaaGreatDoor
namespace Go.Proofs.YtgmijnnhanpocaaGreatDoor
open Go.ChangeShapes Go.WideShapes Go.ChangeAt Go.RowKit
def blankC (c : Int × Int × Int) : Bool := isB 32 c.1 c.2.1 c.2.2
def trimN (l : List (Int × Int × Int)) : Nat → Nat
 | 0 => 0
 | k + 1 => if (l[k]?.elim false blankC) then trimN l k else k + 1
theorem trimN_yes {l : List (Int × Int × Int)} {k : Nat} {c : Int × Int × Int} (h : l[k]? = some c) (hb : blankC c = true) : trimN l (k + 1) = trimN l k := by simp [trimN, h, hb]
theorem trimN_no {l : List (Int × Int × Int)} {k : Nat} {c : Int × Int × Int} (h : l[k]? = some c) (hb : blankC c = false) : trimN l (k + 1) = k + 1 := by simp [trimN, h, hb]
def trimL (l : List (Int × Int × Int)) : List (Int × Int × Int) := l.take (trimN l l.length)
def TrimPost (l : List (Int × Int × Int)) (w : World) (e : Ending) (w' : World) : Prop := ∃ v, e = .returned v ∧ HasC w' w.heap.size v (trimL l) ∧ Below w.heap.size w w'
theorem infoCell : (Tryz.prog.info? 50).map (fun i => (i.zero, i.size, i.bytes)) = some (some (.agg #[.int .i32 0, .int .i64 0, .int .i64 0]), 3, 24) := by kernel_rfl
theorem add_at (b off j : Nat) : (⟨b, off, none⟩ : Addr).add j = ⟨b, off + j, none⟩ := by unfold Addr.add; split <;> simp_all
theorem flat_take (l : List (Int × Int × Int)) (k : Nat) : flat (l.take k) = (flat l).take (k * 3) := by
 induction l generalizing k with
 | nil => simp [flat]
 | cons c l ih =>
  cases k with
  | zero => simp [flat]
  | succ k =>
   have e : (k + 1) * 3 = k * 3 + 1 + 1 + 1 := by omega
   rw [e]
   simp [flat, ih]
theorem flat_one (l : List (Int × Int × Int)) : ∀ u ∈ flat l, u.oneCell' = true := by
 induction l with
 | nil => intro u hu; simp [flat] at hu
 | cons c l ih =>
  intro u hu
  simp only [flat, List.mem_cons] at hu
  rcases hu with rfl | rfl | rfl | hu
  ·rfl
  ·rfl
  ·rfl
  ·exact ih u hu
theorem sq_news {w w2 : World} {B n k b off : Nat} {l : List (Int × Int × Int)} (hq : Sq w B 3 n (some ⟨b, off, none⟩) (flat l)) (hb : Below B w w2) (hk : 0 < n) : ∀ j u, (flat (l.take k))[j]? = some u → w2.cell? ((⟨b, off, none⟩ : Addr).add j) = some u := by
 intro j u hu
 obtain ⟨b', off', e, hB, hc⟩ := (hq.below hb).spot hk
 injection e with e
 injection e with e1 e2 e3
 subst e1 e2
 rw [add_at]
 refine hc j u ?_
 rw [flat_take, List.getElem?_take] at hu
 split at hu
 ·exact hu
 ·cases hu
theorem fit24 {n : Nat} (h : n ≤ 1073741824) : 0 + n ≤ maxLen ∧ (0 + n) * 24 ≤ 140737488355328 := by unfold maxLen; omega
theorem flat_take_len {l : List (Int × Int × Int)} {k : Nat} (h : k ≤ l.length) : (flat (l.take k)).length = k * 3 := by rw [flat_length, List.length_take]; omega
set_option maxRecDepth 100000 in
set_option maxHeartbeats 1600000 in
theorem trim_walk (A : Option Addr) (n c : Nat) (hc : n ≤ c) (l : List (Int × Int × Int)) (w : World) (hn : n ≤ 1073741824) (hq : Sq w w.heap.size 3 n A (flat l)) :
  Calls Tryz.prog 77 #[.slice A n c] w fun e w' => TrimPost l w e w' := by
 obtain ⟨i0, hi, hz0, hz1, hz2⟩ := info_parts infoCell
 have hln : l.length = n := by have := hq.len; rw [flat_length] at this; omega
 have LN := Lib.hid hln
 clear hln
 go_enter Tryz.func77, Tryz.ntmps77
 go_wp2
 go_loopw [3] (fun i wr => ∃ k : Nat, i = .int .i64 k ∧ k ≤ n ∧ trimN l k = trimN l n ∧ Below w.heap.size w wr) (fun i _ => (intOf i).toNat)
 case atStart => exact ⟨n, rfl, Nat.le_refl _, rfl, Below.refl _ _⟩
 case round =>
  obtain ⟨k, rfl, hk, ht, hbelow⟩ := hrel
  have hsz : w.heap.size ≤ wr.heap.size := hbelow.size
  rcases Nat.eq_zero_or_pos k with rfl | hp
  ·have e0 : trimL l = [] := by unfold trimL; rw [LN.out, ← ht]; simp [trimN]
   have E0 := Lib.hid e0
   have BL := Lib.hid hbelow
   clear hq hbelow ht e0
   rcases A with _ | ⟨b, off, o⟩
   ·go_wp2
    go_ret
    exact ⟨_, rfl, by rw [E0.out]; exact World.ownsRow_nil _ _ _ _, BL.out⟩
   ·go_wp2_with (at_builtin; refine wpList_append_own _ rfl _ _ 46 rfl w.heap.size 50 i0 (.agg #[.int .i32 0, .int .i64 0, .int .i64 0]) 3 24 Tryz.underlying46 hi hz0 hz1 hz2 rfl (by decide) (.slice none 0 0) 0 [] rfl (World.ownsRow_nil _ _ _ _) ⟨b, off, o⟩ 0 c [] rfl rfl (by simp) (by simp) (by decide) (by decide) hsz ?_; intro v' w3 hown hg _)
    go_wp2
    go_ret
    exact ⟨_, rfl, by rw [E0.out]; exact hown, BL.out.grown hg hsz (by simp [Value.ownBlock])⟩
  ·obtain ⟨j, rfl⟩ : ∃ j, k = j + 1 := ⟨k - 1, by omega⟩
   obtain ⟨b, off, rfl, hb, ⟨r, m, a⟩, hcc, q0, q1, q2⟩ := (hq.below hbelow).three (show j < n by omega)
   obtain ⟨B, hB⟩ : ∃ B, isB 32 r m a = B := ⟨_, rfl⟩
   have SG := fun w => isBlank_walk r m a w
   rw [hB] at SG
   have SGH := Lib.hid SG
   have HBB := Lib.hid hB
   have HC := Lib.hid hcc
   have HT := Lib.hid ht
   have BL := Lib.hid hbelow
   have Q := Lib.hid hq
   clear SG hB hcc ht hbelow hq
   cases B
   ·go_wp2_with (first | (go_at_call 115; refine (SGH.out _).mono ?_; rintro e w2 ⟨rfl, hb2⟩) | (at_builtin; refine wpList_append_own _ rfl _ _ 46 rfl w.heap.size 50 i0 (.agg #[.int .i32 0, .int .i64 0, .int .i64 0]) 3 24 Tryz.underlying46 hi hz0 hz1 hz2 rfl (by decide) (.slice none 0 0) 0 [] rfl (World.ownsRow_nil _ _ _ _) ⟨b, off, none⟩ (j + 1) c (flat (l.take (j + 1))) rfl (flat_take_len (by have := LN.out; omega)) (by exact sq_news Q.out (BL.out.trans (hb2.mono hsz)) (by omega)) (flat_one _) (fit24 (by omega)).1 (fit24 (by omega)).2 (Nat.le_trans hsz hb2.size) ?_; intro v' w3 hown hg _))
    go_wp2
    go_ret
    have e : trimL l = l.take (j + 1) := by unfold trimL; rw [LN.out, ← HT.out, trimN_no HC.out HBB.out]
    have h : (l.take (j + 1)).length = 0 + (j + 1) := by rw [List.length_take]; have := LN.out; omega
    refine ⟨_, rfl, ?_, (BL.out.trans (hb2.mono hsz)).grown hg (Nat.le_trans hsz hb2.size) (by simp [Value.ownBlock])⟩
    rw [e]
    unfold HasC
    rw [h]
    exact hown
   ·go_wp2_with (go_at_call 115; refine (SGH.out _).mono ?_; rintro e w2 ⟨rfl, hb2⟩)
    go_roundw
    case rel => exact ⟨j, by go_num, by omega, (trimN_yes HC.out HBB.out).symm.trans HT.out, BL.out.trans (hb2.mono hsz)⟩
    case measure => simp [intOf]
end Go.Proofs.YtgmijnnhanpocaaGreatDoor
namespace Go.Proofs.YtgmijnnhanpocaaGreatDoor
open Go.ChangeShapes Go.WideShapes Go.ChangeAt Go.RowKit
theorem add_zero (p : Addr) : p.add 0 = p := by unfold Addr.add; split <;> simp_all
theorem own_at {w : World} {base : Nat} {e : TypeId} {s n : Nat} {v : Value} {xs : List Value} (h : w.ownsRow base e s v n xs) (hn : 0 < n) : ∃ g c, v = .slice (some ⟨g, 0, none⟩) n c ∧ n ≤ c ∧ base ≤ g ∧ g < w.heap.size ∧ ∀ j u, xs[j]? = some u → w.cell? ⟨g, j, none⟩ = some u := by
 rcases h.2 with ⟨_, h0⟩ | ⟨g, cap, cur, rfl, hb, hg, hc, _, _, htake⟩
 ·omega
 ·refine ⟨g, cap, rfl, hc, hb, (Array.getElem?_eq_some_iff.1 hg).1, fun j u hu => ?_⟩
  rw [cell_of_row w g j cur e (0, 0) hg]
  rw [← htake, List.getElem?_take] at hu
  split at hu
  ·simpa using hu
  ·cases hu
namespace BB
variable {w0 : World} {gb gl gc : Nat} {w w' : World}
end BB
end Go.Proofs.YtgmijnnhanpocaaGreatDoor
namespace Go.Proofs.YtgmijnnhanpocaaGreatDoor
open Go.ChangeShapes Go.WideShapes Go.ChangeAt Go.RowKit
theorem laidOut : laidOutB Tryz.prog = true := by kernel_rfl
theorem cellsCell : Tryz.prog.cellsOf 50 = 3 := by kernel_rfl
theorem cellsR : Tryz.prog.cellsOf 21 = 1 := by kernel_rfl
theorem cellsI : Tryz.prog.cellsOf 3 = 1 := by kernel_rfl
section
variable {H : Type} {enc : TypeId × Value → H} {W W' : World}
theorem wf_i32 {x : Int} (h : (Lit.int .i32 x).wf = true) : -2147483648 ≤ x ∧ x ≤ 2147483647 := by
 simpa [Lit.wf, IntKind.min, IntKind.max, IntKind.signed, IntKind.bits] using h
theorem wf_i64 {x : Int} (h : (Lit.int .i64 x).wf = true) : -9223372036854775808 ≤ x ∧ x ≤ 9223372036854775807 := by
 simpa [Lit.wf, IntKind.min, IntKind.max, IntKind.signed, IntKind.bits] using h
theorem exists_list {α : Type} {n : Nat} {P : Nat → α → Prop} (h : ∀ i, i < n → ∃ t, P i t) : ∃ l : List α, l.length = n ∧ ∀ (i : Nat) (hi : i < l.length), P i l[i] := by
 induction n with
 | zero => exact ⟨[], rfl, fun i hi => absurd hi (Nat.not_lt_zero i)⟩
 | succ n ih =>
  obtain ⟨l, hl, hp⟩ := ih fun i hi => h i (by omega)
  obtain ⟨t, ht⟩ := h n (by omega)
  refine ⟨l ++ [t], by simp [hl], fun i hi => ?_⟩
  by_cases hi' : i < l.length
  ·rw [List.getElem_append_left hi']; exact hp i hi'
  ·have e : i = l.length := by simp at hi; omega
   subst e
   simp [hl, ht]
theorem flat_at (l : List (Int × Int × Int)) : ∀ (j : Nat) (u : Value), (flat l)[j]? = some u → ∃ (i : Nat) (hi : i < l.length), (j = i * 3 ∧ u = .int .i32 l[i].1) ∨ (j = i * 3 + 1 ∧ u = .int .i64 l[i].2.1) ∨ (j = i * 3 + 2 ∧ u = .int .i64 l[i].2.2) := by
 induction l with
 | nil => intro j u h; simp [flat] at h
 | cons c l ih =>
  intro j u h
  match j, h with
  | 0, h => simp [flat] at h; exact ⟨0, by simp, .inl ⟨rfl, h.symm⟩⟩
  | 1, h => simp [flat] at h; exact ⟨0, by simp, .inr (.inl ⟨rfl, h.symm⟩)⟩
  | 2, h => simp [flat] at h; exact ⟨0, by simp, .inr (.inr ⟨rfl, h.symm⟩)⟩
  | j + 3, h =>
   obtain ⟨i, hi, hh⟩ := ih j u (by simpa [flat] using h)
   refine ⟨i + 1, by simpa using hi, ?_⟩
   simp only [List.getElem_cons_succ]
   rcases hh with ⟨e, k⟩ | ⟨e, k⟩ | ⟨e, k⟩
   ·exact .inl ⟨by omega, k⟩
   ·exact .inr (.inl ⟨by omega, k⟩)
   ·exact .inr (.inr ⟨by omega, k⟩)
set_option maxRecDepth 100000 in
theorem cell_parts {w : World} {base : Nat} {sp : Nat → Bool} {held : Bool} {fuel : Nat} {cs : List Value} {x : DataW H × List MemPlace}
  (h : DataW.trod enc Tryz.prog w base sp held fuel 50 cs = some x) : ∃ r n a, cs = [.int .i32 r, .int .i64 n, .int .i64 a] ∧ -2147483648 ≤ r ∧ r ≤ 2147483647 := by
 obtain ⟨xs, m, rfl, rfl, hl, hn, hf⟩ := DataW.trod_struct Tryz.underlying50 h
 rw [cellsCell] at hl
 match cs, hl with
 | [c0, c1, c2], _ =>
  have f0 : DataW.trod enc Tryz.prog w base sp held m 21 [c0] = xs[0]? := by have := hf 0 _ rfl; simpa [cellsR] using this
  have f1 : DataW.trod enc Tryz.prog w base sp held m 3 [c1] = xs[1]? := by have := hf 1 _ rfl; simpa [cellsI] using this
  have f2 : DataW.trod enc Tryz.prog w base sp held m 3 [c2] = xs[2]? := by have := hf 2 _ rfl; simpa [cellsI] using this
  match xs, hn with
  | [x0, x1, x2], _ =>
   simp only [List.getElem?_cons_zero, List.getElem?_cons_succ] at f0 f1 f2
   obtain ⟨z0, e0, _, wz⟩ := DataW.trod_int Tryz.underlying21 f0
   obtain ⟨z1, e1, _, _⟩ := DataW.trod_int Tryz.underlying3 f1
   obtain ⟨z2, e2, _, _⟩ := DataW.trod_int Tryz.underlying3 f2
   simp at e0 e1 e2
   have hz := wf_i32 wz
   exact ⟨z0, z1, z2, by rw [e0, e1, e2], hz.1, hz.2⟩
theorem trodAll_below (hb : Below W.heap.size W W') : ∀ {ts : List TypeId} {vs : List Value} {ds : List (DataW H)} {ps : List MemPlace}, (ts.all fun t => Tryz.prog.readableRec t && decide (t < Tryz.prog.types.size)) = true →
  DataW.TrodAll enc Tryz.prog W 0 (fun _ => true) true ts vs ds ps → DataW.TrodAll enc Tryz.prog W' 0 (fun b => decide (b < W.heap.size)) true ts vs ds ps := by
 intro ts
 induction ts with
 | nil =>
  intro vs ds ps _ h
  obtain ⟨rfl, rfl, rfl⟩ := trodAll_nil h
  exact trodAll_mk0
 | cons t ts ih =>
  intro vs ds ps ht h
  have hlt := DataW.TrodAll.lt h
  simp only [List.all_cons, Bool.and_eq_true, decide_eq_true_eq] at ht
  obtain ⟨v, vs', d, ds', p, q, rfl, rfl, rfl, h0, hr⟩ := trodAll_cons h
  exact trodAll_cons_mk (Below.trod laidOut ht.1.1 ht.1.2 h0 hb (fun x hx => hlt x (List.mem_append_left _ hx))) (ih ht.2 hr)
set_option maxRecDepth 100000 in
theorem close {s : ChangeSpec} {f : Func} {args : Array Value} {ds gs : List (DataW H)} {before : List MemPlace} (hv : s.vars = [])
  (hW : DataW.Whole enc Tryz.prog f.params.toList s.vars false W args.toList ds gs before) (hfn : (s.fn H (ds ++ [])).results = [.lit (.bool true)] ∧ (s.fn H (ds ++ [])).args = ds ∧ (s.fn H (ds ++ [])).vars = []) (hres : f.resultTypes = #[4])
  (hts : (f.params.toList.all fun t => Tryz.prog.readableRec t && decide (t < Tryz.prog.types.size)) = true) (hb : Below W.heap.size W W') :
  s.post enc Tryz.prog f false true false false W args (.bool true) W' := by
 have hW' := hW
 obtain ⟨p, q, hA, hV, rfl, _, _⟩ := hW
 rw [hv] at hV
 obtain ⟨rfl, rfl⟩ := trodVars_none hV
 obtain ⟨h1, h2, h3⟩ := hfn
 refine ⟨ds, [], p ++ [], [], p, [], hW', ?_, ?_, ?_, hb.frame _, fun h => by cases h⟩
 ·rw [h1, hres]
  exact trodAll_cons_mk (shut_bool Tryz.underlying4 _) trodAll_mk0
 ·rw [h2]
  exact trodAll_below hb hts hA
 ·rw [h3, hv]
  rfl
end
end Go.Proofs.YtgmijnnhanpocaaGreatDoor
namespace Go.Proofs.YtgmijnnhanpocaaGreatDoor
open Go.ChangeShapes Go.WideShapes Go.ChangeAt Go.RowKit
section
variable {H : Type} {enc : TypeId × Value → H} {W W' : World}
end
end Go.Proofs.YtgmijnnhanpocaaGreatDoor
namespace Go.Proofs.YtgmijnnhanpocaaGreatDoor
/-! How long a number is. -/
/-! Runs of alike things. -/
section
variable {C : Type} [DecidableEq C]
end
end Go.Proofs.YtgmijnnhanpocaaGreatDoor
namespace Go.Proofs.YtgmijnnhanpocaaGreatDoor
abbrev Cel := Int × Int × Int
/-! Which rows may be. -/
def mayB (c : Cel) : Bool := decide (0 ≤ c.2.2) && decide (c.2.2 ≤ 255) && (c == (0, 1, 0) || (c.2.1 == 0 && c.1 == 0) || (decide (0 < c.2.1) && c.2.1 == wof c.1))
def mayGo : Cel → List Cel → Bool
 | p, [] => !(p.2.1 == 2)
 | p, c :: l => mayB c && ((p.2.1 == 2) == (c.2.1 == 0)) && (!(c.2.1 == 0) || c.2.2 == p.2.2) && mayGo c l
def mayL (l : List Cel) : Bool := decide (l.length ≤ 300) && mayGo (32, 1, 0) l
end Go.Proofs.YtgmijnnhanpocaaGreatDoor
namespace Go.Proofs.YtgmijnnhanpocaaGreatDoor
section
variable {C : Type}
variable [DecidableEq C]
end
end Go.Proofs.YtgmijnnhanpocaaGreatDoor
namespace Go.Proofs.YtgmijnnhanpocaaGreatDoor
open Go.ChangeShapes Go.WideShapes Go.ChangeAt Go.RowKit
theorem mayB_out {r n a : Int} (h : a < 0 ∨ 255 < a) : mayB (r, n, a) = false := by
 unfold mayB
 rcases h with h | h
 ·simp [show ¬ 0 ≤ a by omega]
 ·simp [show ¬ a ≤ 255 by omega]
theorem mayB_half {r a : Int} (h0 : 0 ≤ a) (h1 : a ≤ 255) : mayB (r, 0, a) = (r == 0) := by
 unfold mayB
 simp [h0, h1]
theorem mayB_sign {r n a : Int} (h0 : 0 ≤ a) (h1 : a ≤ 255) (hn : n ≠ 0) : mayB (r, n, a) = ((wof r == n) || isB 0 r n a) := by
 have hw := wof_range r
 have e : (decide (0 < n) && n == wof r) = (wof r == n) := by
  rw [Bool.eq_iff_iff]
  simp only [Bool.and_eq_true, decide_eq_true_eq, beq_iff_eq]
  omega
 have e2 : ((r, n, a) == ((0 : Int), (1 : Int), (0 : Int))) = isB 0 r n a := by
  unfold isB
  rw [Bool.eq_iff_iff]
  simp only [Bool.and_eq_true, beq_iff_eq, Prod.mk.injEq, and_assoc]
 unfold mayB
 simp only [h0, h1, decide_true, Bool.true_and, e, e2, show (n == 0) = false by simpa using hn, Bool.false_and, Bool.or_false]
 exact Bool.or_comm _ _
set_option maxRecDepth 100000 in
set_option maxHeartbeats 3200000 in
theorem may_any (r n a : Int) (hr0 : -2147483648 ≤ r) (hr1 : r ≤ 2147483647) (w : World) (hs : Spans w) : Calls Tryz.prog 79 #[cellV r n a] w fun e w' => e = .returned (.bool (mayB (r, n, a))) ∧ Below w.heap.size w w' := by
 by_cases ha : 0 ≤ a ∧ a ≤ 255
 ·obtain ⟨h0, h1⟩ := ha
  by_cases hn : n = 0
  ·subst hn
   rw [mayB_half h0 h1]
   clear hs
   cases h : (r == 0)
   all_goals
    go_enter Tryz.func79, Tryz.ntmps79
    go_wp2_with (go_at_call 116; refine (mayAttr_yes a h0 h1 _).mono ?_; rintro e w' ⟨rfl, rfl⟩)
    go_ret
    exact ⟨rfl, (Below.refl _ _).alloc (Nat.le_refl _) _⟩
  ·rw [mayB_sign h0 h1 hn]
   have hz : (n == 0) = false := by simpa using hn
   have F := fun w hs => of_walk r hr0 hr1 w hs
   have P := fun w => isPad_walk r n a w
   obtain ⟨m, hm⟩ : ∃ m, wof r = m := ⟨_, rfl⟩
   rw [hm] at F ⊢
   obtain ⟨q, hq⟩ : ∃ q, isB 0 r n a = q := ⟨_, rfl⟩
   rw [hq] at P ⊢
   have FH := Lib.hid F
   have PH := Lib.hid P
   have SA := hs.below ((Below.refl w.heap.size w).alloc (Nat.le_refl _) (.cells #[.int .i32 r, .int .i64 n, .int .i64 a] 50)) hs.size
   have SH := Lib.hid SA
   clear F P hm hq hs SA hn
   cases h : (m == n)
   ·cases q
    all_goals
     go_enter Tryz.func79, Tryz.ntmps79
     go_wp2_with (go_at_call 116; refine (mayAttr_yes a h0 h1 _).mono ?_; rintro e w' ⟨rfl, rfl⟩)
     go_region_with (first | (go_at_call 117; refine (FH.out _ (by first | exact SH.out | exact Spans.drew SH.out | exact Spans.drew (Spans.drew SH.out))).mono ?_; rintro e w' ⟨rfl, rfl⟩) | (go_at_call 114; refine (PH.out _).mono ?_; rintro e w3 ⟨rfl, b3⟩))
     all_goals go_wp2
     all_goals go_ret
     all_goals first
      | exact ⟨rfl, (Below.refl _ _).alloc (Nat.le_refl _) _⟩
      | exact ⟨rfl, ((Below.refl _ _).alloc (Nat.le_refl _) _).drew⟩
      | exact ⟨rfl, ((Below.refl _ _).alloc (Nat.le_refl _) _).trans (b3.mono (by simp))⟩
      | exact ⟨rfl, (((Below.refl _ _).alloc (Nat.le_refl _) _).drew).trans (b3.mono (by simp))⟩
   ·cases q
    all_goals
     go_enter Tryz.func79, Tryz.ntmps79
     go_wp2_with (go_at_call 116; refine (mayAttr_yes a h0 h1 _).mono ?_; rintro e w' ⟨rfl, rfl⟩)
     go_region_with (first | (go_at_call 117; refine (FH.out _ (by first | exact SH.out | exact Spans.drew SH.out | exact Spans.drew (Spans.drew SH.out))).mono ?_; rintro e w' ⟨rfl, rfl⟩) | (go_at_call 114; refine (PH.out _).mono ?_; rintro e w3 ⟨rfl, b3⟩))
     all_goals go_wp2
     all_goals go_ret
     all_goals first
      | exact ⟨rfl, (Below.refl _ _).alloc (Nat.le_refl _) _⟩
      | exact ⟨rfl, ((Below.refl _ _).alloc (Nat.le_refl _) _).drew⟩
      | exact ⟨rfl, ((Below.refl _ _).alloc (Nat.le_refl _) _).trans (b3.mono (by simp))⟩
      | exact ⟨rfl, (((Below.refl _ _).alloc (Nat.le_refl _) _).drew).trans (b3.mono (by simp))⟩
 ·rw [mayB_out (by omega)]
  have M := Lib.hid (fun w => mayAttr_no a (by omega) w)
  clear hs ha
  go_enter Tryz.func79, Tryz.ntmps79
  go_wp2_with (go_at_call 116; refine (M.out _).mono ?_; rintro e w' ⟨rfl, rfl⟩)
  go_ret
  exact ⟨rfl, (Below.refl _ _).alloc (Nat.le_refl _) _⟩
end Go.Proofs.YtgmijnnhanpocaaGreatDoor
