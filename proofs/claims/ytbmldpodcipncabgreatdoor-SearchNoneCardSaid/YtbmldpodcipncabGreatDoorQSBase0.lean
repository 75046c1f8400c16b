/-
  The package-level table of width: what the row's list gives of its cells; how wide a sign is, as a plain chain of bounds. Words for memory: a slice whose cells are a list; what stands below a block; small facts on lists. Nothing of the program but its number kinds. width.Of and width.Text: what they answer, for every sign and every list of signs. The functions of package cell that look at one cell: Blank, Pad, IsBlank, IsPad, hasSign, May. The machine of package utf in plain words: states, steps, what a text becomes. The methods of utf.Reader: each step of the machine, whatever it holds. More of utf.Reader: begin, goOn, read, and the methods of its face; All. More of utf.Reader: goOn, read, and the methods of its face; All. The face of utf: Put, End, Waits, All, of a Reader and of none. The functions of package cell: hasSign, May, Of, Line. DERIVED: THE SHELF's CONTRACTS AT THIS DUMP, IN PLAIN WORDS (tools/lay-plain.mjs out of 'TryzShelf.lean', which tools/lay-shelf.mjs wrote): THE SAME DECLARATIONS UNDER THE SAME NAMES: 'import', 'namespace', 'open', 'def', 'theorem' AND NOTHING ELSE: no command of the shelf's: FOR A HAND-IN. Each laying: the table of numbers ('.._ren') and one theorem, a field a fact of the dump's own or the kernel's comparison; each contract: ONE APPLICATION. strings.Builder.WriteRune, whatever the Builder that a call has made holds. cell.Text and cell.Line. cell.Trim: what is left, for every list of cells; utf.Write. What begun's functions tell; what memory holds while begun goes on. The arguments of a statement: a slice of signs, a slice of cells as lists; how a statement's row is closed behind a walk that keeps all that was there. The arguments of the statements of layers 4 to 6: numbers of 64 bits, bytes, lists of numbers. The settled world, the table of widths as its initialiser lays it; what every card of this seat asks of the whole program, looked through once.
-/
import Derived.Test.YtbmldpodcipncabGreatDoorRows
import Derived.WalkKit
import Derived.ProofKit
import Derived.OpenShut
import Derived.Deep.DeepHandedRow
import Derived.Lib.LaidTab
import Derived.Lib.Hide
import Derived.Deep.RegionWith
import Derived.RegionCalls
import Derived.Outline
import Derived.RegionTactic
import Derived.ChangeAlike
import Derived.Maps.AppendAt
import Derived.Laws.BitsLemmas
import Derived.Deep.DeepMust
import Derived.Shelf.SlSortCmp.WholeK
import Derived.Shelf.Strings.Builder1
import Derived.Shelf.Small.Utf8
import Derived.Shelf.Small.Bits
import Derived.Shelf.Small.Strs
import Derived.Shelf.Strings.BuilderF
import Derived.Shelf.Strings.BuilderK
import Derived.Shelf.Strings.BuilderRune
import Derived.Shelf.Utf8.AppendRune
import Derived.Shelf.Utf8.AppendRunePlain
import Derived.Shelf.Strconv.Itoa0
import Derived.Shelf.Strings.Search1
import Derived.Shelf.Strings.Prefix
import Derived.Shelf.Strings.Runes
import Derived.Shelf.Bits.Mul64
import Derived.Ground.SlbCloneProg
import Derived.Shelf.Bytes.SlClone
import Derived.Test.YtbmldpodcipncabGreatDoorProg
import Derived.Laws.Cover4
import Derived.Carry
import Derived.ChangeOld
import Derived.Test.YtbmldpodcipncabGreatDoorCards
import Derived.Test.YtbmldpodcipncabGreatDoorTie
import Derived.ClosedOfChecked
namespace Go.Proofs.YtbmldpodcipncabGreatDoor
open Go.ChangeShapes Go.WideShapes Go.ChangeAt Go.RowKit
def spanRows : List (Int × Int × Int) :=
 [(-2147483648, 31, 0), (127, 159, 0), (768, 879, 0), (4352, 4447, 2), (8203, 8207, 0), (11904, 12350, 2), (12353, 13311, 2), (13312, 19903, 2), (19968, 40959, 2), (40960, 42191, 2), (44032, 55203, 2), (55296, 57343, 0), (63744, 64255, 2), (65024, 65039, 0), (65072, 65135, 2), (65280, 65376, 2), (65504, 65510, 2), (127744, 128591, 2), (129280, 129535, 2), (131072, 262141, 2), (1114112, 2147483647, 0)]
def sFirst (i : Nat) : Int := (spanRows.getD i (0, 0, 0)).1
def sLast (i : Nat) : Int := (spanRows.getD i (0, 0, 0)).2.1
def sWide (i : Nat) : Int := (spanRows.getD i (0, 0, 0)).2.2
structure Spans (w : World) : Prop where
 size : 0 < w.heap.size
 first : ∀ i, i < 21 → w.cell? ⟨0, i * 3, none⟩ = some (.int .i32 (sFirst i))
 last : ∀ i, i < 21 → w.cell? ⟨0, i * 3 + 1, none⟩ = some (.int .i32 (sLast i))
 wide : ∀ i, i < 21 → w.cell? ⟨0, i * 3 + 2, none⟩ = some (.int .i64 (sWide i))
theorem gSpans : Tryz.prog.globalNamed "rotulus/width.spans" = some 0 := by kernel_rfl
theorem gSpansType : (Tryz.prog.globals[0]?).map (·.type) = some 280 := by kernel_rfl
theorem cellsSpans : Tryz.prog.cellsOf 280 = 63 := by kernel_rfl
theorem cellsSpan : Tryz.prog.cellsOf 279 = 3 := by kernel_rfl
theorem cellsRune : Tryz.prog.cellsOf 21 = 1 := by kernel_rfl
theorem cellsInt : Tryz.prog.cellsOf 3 = 1 := by kernel_rfl
set_option maxRecDepth 100000 in
theorem span_cells {H : Type} {enc : TypeId × Value → H} {w : World} {base : Nat} {sp : Nat → Bool} {held : Bool} {fuel : Nat} {cs : List Value} {a b c : Int} {x : DataW H × List MemPlace}
  (h : DataW.trod enc Tryz.prog w base sp held fuel 279 cs = some x) (hx : x.1 = .agg [.lit (.int .i32 a), .lit (.int .i32 b), .lit (.int .i64 c)]) : cs = [.int .i32 a, .int .i32 b, .int .i64 c] := by
 obtain ⟨xs, m, rfl, rfl, hl, hn, hf⟩ := DataW.trod_struct Tryz.underlying279 h
 rw [cellsSpan] at hl
 match cs, hl with
 | [c0, c1, c2], _ =>
  have f0 : DataW.trod enc Tryz.prog w base sp held m 21 [c0] = xs[0]? := by have := hf 0 _ rfl; simpa [cellsRune] using this
  have f1 : DataW.trod enc Tryz.prog w base sp held m 21 [c1] = xs[1]? := by have := hf 1 _ rfl; simpa [cellsRune] using this
  have f2 : DataW.trod enc Tryz.prog w base sp held m 3 [c2] = xs[2]? := by have := hf 2 _ rfl; simpa [cellsInt] using this
  match xs, hn with
  | [x0, x1, x2], _ =>
   simp only [List.getElem?_cons_zero, List.getElem?_cons_succ] at f0 f1 f2
   obtain ⟨z0, e0, rfl, _⟩ := DataW.trod_int Tryz.underlying21 f0
   obtain ⟨z1, e1, rfl, _⟩ := DataW.trod_int Tryz.underlying21 f1
   obtain ⟨z2, e2, rfl, _⟩ := DataW.trod_int Tryz.underlying3 f2
   simp at e0 e1 e2 hx
   obtain ⟨rfl, rfl, rfl⟩ := hx
   rw [e0, e1, e2]
theorem laid_rows {H : Type} : Rows.laid_rotulus_width_spans (H := H) = .agg (spanRows.map fun x => .agg [.lit (.int .i32 x.1), .lit (.int .i32 x.2.1), .lit (.int .i64 x.2.2)]) := rfl
theorem spans_of {W : World} (h : laidMetH Tryz.prog [("rotulus/width.spans", Rows.laid_rotulus_width_spans)] W) : Spans W := by
 have h' : laidMet Tryz.prog [("rotulus/width.spans", Rows.laid_rotulus_width_spans)] W := h
 obtain ⟨ps, ⟨g', t', cs, fuel, p, q, hg', ht', hvar, hd, _, _⟩, _⟩ := h'
 obtain rfl := Option.some.inj (gSpans.symm.trans hg')
 obtain rfl := Option.some.inj (gSpansType.symm.trans ht')
 obtain ⟨xs, m, rfl, hx, hl, hn, hf⟩ := DataW.trod_array Tryz.underlying280 hd
 rw [cellsSpan] at hf
 rw [cellsSpans] at hl
 have hxs : xs.map (·.1) = spanRows.map fun x => (DataW.agg [.lit (.int .i32 x.1), .lit (.int .i32 x.2.1), .lit (.int .i64 x.2.2)] : DataW Unit) := by
  have := congrArg Prod.fst hx
  rw [laid_rows] at this
  exact (DataW.agg.inj this).symm
 have key : ∀ i, i < 21 → (cs.toList.drop (i * 3)).take 3 = [.int .i32 (sFirst i), .int .i32 (sLast i), .int .i64 (sWide i)] := by
  intro i hi
  have hr : spanRows[i]? = some (spanRows.getD i (0, 0, 0)) := by
   have : i < spanRows.length := hi
   simp [List.getD, this]
  have h1 : (xs.map (·.1))[i]? = some (DataW.agg [.lit (.int .i32 (sFirst i)), .lit (.int .i32 (sLast i)), .lit (.int .i64 (sWide i))] : DataW Unit) := by
   rw [hxs, List.getElem?_map, hr]; rfl
  have h2 := hf i hi
  rw [List.getElem?_map, Option.map_eq_some_iff] at h1
  obtain ⟨x, hx1, hx2⟩ := h1
  rw [hx1] at h2
  exact span_cells h2 hx2
 have cell : ∀ i j v, i < 21 → [Value.int .i32 (sFirst i), .int .i32 (sLast i), .int .i64 (sWide i)][j]? = some v → W.cell? ⟨0, i * 3 + j, none⟩ = some v := by
  intro i j v hi hv
  rw [World.var?_cell gSpans hvar, ← hv, ← key i hi, List.getElem?_take, ← Array.getElem?_toList]
  have hj : j < 3 := by
   by_cases hj : j < 3
   ·exact hj
   ·rw [List.getElem?_eq_none (by simp; omega)] at hv; cases hv
  rw [if_pos hj, List.getElem?_drop]
 refine ⟨World.block_lt_of_cell? W _ (cell 0 0 _ (by omega) rfl), fun i hi => cell i 0 _ hi rfl, fun i hi => cell i 1 _ hi rfl, fun i hi => cell i 2 _ hi rfl⟩
end Go.Proofs.YtbmldpodcipncabGreatDoor







namespace Go.Proofs
open Go.Shelf
def Tryz.lays169_ren : Go.Shelf.Ren := ⟨fun | 169 => 238 | n => n, fun | 70 => 281 | 9 => 9 | 0 => 0 | 72 => 283 | 37 => 142 | 127 => 318 | 3 => 3 | 5 => 5 | n => n, fun | n => n⟩
theorem Tryz.lays169 : Go.Proofs.Lays.n169 Tryz.prog Tryz.lays169_ren := {
 mixed := by kernel_rfl
 f169 := Tryz.func238.trans (congrArg some (by kernel_rfl))
 t0 := Tryz.underlying0
 a0 := Tryz.isAgg0
 z0 := Tryz.sizeOf0
 v0 := Tryz.zeroValue0
 t3 := Tryz.underlying3
 a3 := Tryz.isAgg3
 z3 := Tryz.sizeOf3
 v3 := Tryz.zeroValue3
 t9 := Tryz.underlying9
 a9 := Tryz.isAgg9
 z9 := Tryz.sizeOf9
 v9 := Tryz.zeroValue9
 t37 := Tryz.underlying142
 a37 := Tryz.isAgg142
 z37 := Tryz.sizeOf142
 v37 := Tryz.zeroValue142
 t70 := Tryz.underlying281
 a70 := Tryz.isAgg281
 z70 := Tryz.sizeOf281
 v70 := Tryz.zeroValue281
 t72 := Tryz.underlying283
 a72 := Tryz.isAgg283
 z72 := Tryz.sizeOf283
 v72 := Tryz.zeroValue283
 t127 := Tryz.underlying318
 a127 := Tryz.isAgg318
 z127 := Tryz.sizeOf318
 v127 := Tryz.zeroValue318 }
theorem Tryz.Builder_Extra_169 : Builder.Extra Tryz.prog Tryz.lays169_ren := {
 sizeBuilder := by kernel_rfl
 liesBuilder := by kernel_rfl
 t5 := Tryz.underlying5
 a5 := Tryz.isAgg5
 z5 := Tryz.sizeOf5
 v5 := Tryz.zeroValue5
 infoByte := by kernel_rfl
 cellsByte := by kernel_rfl
 sizeByte := by kernel_rfl
 neB5 := by decide }
def Tryz.lays137_ren : Go.Shelf.Ren := ⟨fun | 137 => 178 | 217 => 232 | 266 => 271 | n => n, fun | 9 => 9 | 5 => 5 | 3 => 3 | n => n, fun | n => n⟩
theorem Tryz.lays137 : Go.Proofs.Lays.n137 Tryz.prog Tryz.lays137_ren := {
 mixed := by kernel_rfl
 f137 := Tryz.func178.trans (congrArg some (by kernel_rfl))
 f217 := Tryz.func232.trans (congrArg some (by kernel_rfl))
 f266 := Tryz.func271.trans (congrArg some (by kernel_rfl))
 t3 := Tryz.underlying3
 a3 := Tryz.isAgg3
 z3 := Tryz.sizeOf3
 v3 := Tryz.zeroValue3
 t5 := Tryz.underlying5
 a5 := Tryz.isAgg5
 z5 := Tryz.sizeOf5
 v5 := Tryz.zeroValue5
 t9 := Tryz.underlying9
 a9 := Tryz.isAgg9
 z9 := Tryz.sizeOf9
 v9 := Tryz.zeroValue9 }
end Go.Proofs



namespace Go.Proofs.YtbmldpodcipncabGreatDoor
open Go.ChangeShapes Go.WideShapes Go.ChangeAt Go.RowKit
theorem laidOut : laidOutB Tryz.prog = true := by kernel_rfl
section
variable {H : Type} {enc : TypeId × Value → H} {W W' : World}
theorem trodAll_below (hb : Below W.heap.size W W') : ∀ {ts : List TypeId} {vs : List Value} {ds : List (DataW H)} {ps : List MemPlace}, (ts.all fun t => Tryz.prog.readableRec t && decide (t < Tryz.prog.types.size)) = true →
  DataW.TrodAll enc Tryz.prog W 0 (fun _ => true) true ts vs ds ps → DataW.TrodAll enc Tryz.prog W' 0 (fun b => decide (b < W.heap.size)) true ts vs ds ps := by
 intro ts
 induction ts with
 | nil =>
  intro vs ds ps _ h
  obtain ⟨rfl, rfl, rfl⟩ := trodAll_nil h
  exact trodAll_mk0
 | cons t ts ih =>
  intro vs ds ps ht h
  have hlt := DataW.TrodAll.lt h
  simp only [List.all_cons, Bool.and_eq_true, decide_eq_true_eq] at ht
  obtain ⟨v, vs', d, ds', p, q, rfl, rfl, rfl, h0, hr⟩ := trodAll_cons h
  exact trodAll_cons_mk (Below.trod laidOut ht.1.1 ht.1.2 h0 hb (fun x hx => hlt x (List.mem_append_left _ hx))) (ih ht.2 hr)
set_option maxRecDepth 100000 in
theorem close {s : ChangeSpec} {f : Func} {args : Array Value} {ds gs : List (DataW H)} {before : List MemPlace} (hv : s.vars = [])
  (hW : DataW.Whole enc Tryz.prog f.params.toList s.vars false W args.toList ds gs before) (hfn : (s.fn H (ds ++ [])).results = [.lit (.bool true)] ∧ (s.fn H (ds ++ [])).args = ds ∧ (s.fn H (ds ++ [])).vars = []) (hres : f.resultTypes = #[4])
  (hts : (f.params.toList.all fun t => Tryz.prog.readableRec t && decide (t < Tryz.prog.types.size)) = true) (hb : Below W.heap.size W W') :
  s.post enc Tryz.prog f false true false false W args (.bool true) W' := by
 have hW' := hW
 obtain ⟨p, q, hA, hV, rfl, _, _⟩ := hW
 rw [hv] at hV
 obtain ⟨rfl, rfl⟩ := trodVars_none hV
 obtain ⟨h1, h2, h3⟩ := hfn
 refine ⟨ds, [], p ++ [], [], p, [], hW', ?_, ?_, ?_, hb.frame _, fun h => by cases h⟩
 ·rw [h1, hres]
  exact trodAll_cons_mk (shut_bool Tryz.underlying4 _) trodAll_mk0
 ·rw [h2]
  exact trodAll_below hb hts hA
 ·rw [h3, hv]
  rfl
end
end Go.Proofs.YtbmldpodcipncabGreatDoor
namespace Go.Proofs.YtbmldpodcipncabGreatDoor
open Go.ChangeShapes Go.WideShapes Go.ChangeAt Go.RowKit
section
variable {H : Type} {enc : TypeId × Value → H} {W W' : World}
end
end Go.Proofs.YtbmldpodcipncabGreatDoor
namespace Go.Proofs.YtbmldpodcipncabGreatDoor
open Go.ChangeShapes Go.WideShapes Go.ChangeAt Go.RowKit
theorem ownNone : ownKnob Tryz.prog.godebug = none := by kernel_rfl
def spanCells : Array Value := #[.int .i32 (-2147483648), .int .i32 31, .int .i64 0, .int .i32 127, .int .i32 159, .int .i64 0, .int .i32 768, .int .i32 879, .int .i64 0, .int .i32 4352, .int .i32 4447, .int .i64 2, .int .i32 8203, .int .i32 8207, .int .i64 0, .int .i32 11904, .int .i32 12350, .int .i64 2, .int .i32 12353, .int .i32 13311, .int .i64 2, .int .i32 13312, .int .i32 19903, .int .i64 2, .int .i32 19968, .int .i32 40959, .int .i64 2, .int .i32 40960, .int .i32 42191, .int .i64 2, .int .i32 44032, .int .i32 55203, .int .i64 2, .int .i32 55296, .int .i32 57343, .int .i64 0, .int .i32 63744, .int .i32 64255, .int .i64 2, .int .i32 65024, .int .i32 65039, .int .i64 0, .int .i32 65072, .int .i32 65135, .int .i64 2, .int .i32 65280, .int .i32 65376, .int .i64 2, .int .i32 65504, .int .i32 65510, .int .i64 2, .int .i32 127744, .int .i32 128591, .int .i64 2, .int .i32 129280, .int .i32 129535, .int .i64 2, .int .i32 131072, .int .i32 262141, .int .i64 2, .int .i32 1114112, .int .i32 2147483647, .int .i64 0]
noncomputable def laidWorld (os : Os) : World :=
 {World.holding Tryz.prog os ⟨#[], #[], []⟩ with heap := (World.holding Tryz.prog os ⟨#[], #[], []⟩).heap.modify 0 fun
   | .cells _ t frozen => .cells spanCells t frozen
   | o => o }
namespace Sum
theorem and_mk {a b : Bool} (h1 : a = true) (h2 : b = true) : (a && b) = true := by rw [h1, h2]; rfl
set_option maxRecDepth 100000 in
theorem tables : laidOutB Tryz.checked.prog = true ∧ mapsRowed Tryz.checked.prog = true ∧ Tryz.checked.prog.plainKeys = true :=
 Go.ClosedOfChecked.closed_of_checked Tryz.checked (by kernel_rfl) (by kernel_rfl) (by kernel_rfl)
set_option maxRecDepth 100000 in
theorem mayEnter : Tryz.checked.prog.mayEnter = true := by kernel_rfl
set_option maxRecDepth 100000 in
theorem lifts : (Rows.findAllRow.lifted == Tryz.checked.prog.liftsFinal) = true := by kernel_rfl
set_option maxRecDepth 100000 in
theorem make : (Tryz.checked.prog.make == some Rows.findAllRow.make) = true := by kernel_rfl
end Sum
end Go.Proofs.YtbmldpodcipncabGreatDoor
