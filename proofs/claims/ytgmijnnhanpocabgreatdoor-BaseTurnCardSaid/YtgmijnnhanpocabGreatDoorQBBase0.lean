/-
  DERIVED: THE SHELF's CONTRACTS AT THIS DUMP, IN PLAIN WORDS (tools/lay-plain.mjs out of 'TryzShelf.lean', which tools/lay-shelf.mjs wrote): THE SAME DECLARATIONS UNDER THE SAME NAMES: 'import', 'namespace', 'open', 'def', 'theorem' AND NOTHING ELSE: no command of the shelf's: FOR A HAND-IN. Each laying: the table of numbers ('.._ren') and one theorem, a field a fact of the dump's own or the kernel's comparison; each contract: ONE APPLICATION. The package-level table of width: what the row's list gives of its cells; how wide a sign is, as a plain chain of bounds. Words for memory: a slice whose cells are a list; what stands below a block; small facts on lists. Nothing of the program but its number kinds. width.Of and width.Text: what they answer, for every sign and every list of signs. The functions of package cell that look at one cell: Blank, Pad, IsBlank, IsPad, hasSign, May. The machine of package utf in plain words: states, steps, what a text becomes. The methods of utf.Reader: each step of the machine, whatever it holds. More of utf.Reader: begin, goOn, read, and the methods of its face; All. More of utf.Reader: goOn, read, and the methods of its face; All. The face of utf: Put, End, Waits, All, of a Reader and of none. The functions of package cell: hasSign, May, Of, Line. strings.Builder.WriteRune, whatever the Builder that a call has made holds. cell.Text and cell.Line. cell.Trim: what is left, for every list of cells; utf.Write. What begun's functions tell; what memory holds while begun goes on. The arguments of a statement: a slice of signs, a slice of cells as lists; how a statement's row is closed behind a walk that keeps all that was there. The arguments of the statements of layers 4 to 6: numbers of 64 bits, bytes, lists of numbers. The settled world, the table of widths as its initialiser lays it; what every card of this seat asks of the whole program, looked through once. Sixty-four signs in plain words: three bytes as four signs, and back; by bits the same. Nothing of the program.
-/
import Derived.Shelf.Strings.Builder1
import Derived.Shelf.Small.Utf8
import Derived.Shelf.Small.Strs
import Derived.Shelf.Strings.BuilderF
import Derived.Shelf.Strings.BuilderK
import Derived.Shelf.Strings.BuilderRune
import Derived.Shelf.Utf8.AppendRune
import Derived.Shelf.Utf8.AppendRunePlain
import Derived.Shelf.Strings.Search1
import Derived.Shelf.Strings.Prefix
import Derived.Shelf.Strings.Runes
import Derived.Test.YtgmijnnhanpocabGreatDoorProg
import Derived.Test.YtgmijnnhanpocabGreatDoorRows
import Derived.WalkKit
import Derived.ProofKit
import Derived.OpenShut
import Derived.Deep.DeepHandedRow
import Derived.Lib.LaidTab
import Derived.Lib.Hide
import Derived.Deep.RegionWith
import Derived.RegionCalls
import Derived.Outline
import Derived.RegionTactic
import Derived.ChangeAlike
import Derived.Maps.AppendAt
import Derived.Laws.BitsLemmas
import Derived.Deep.DeepMust
import Derived.Laws.Cover4
import Derived.Carry
import Derived.ChangeOld
import Derived.Test.YtgmijnnhanpocabGreatDoorCards
import Derived.Test.YtgmijnnhanpocabGreatDoorTie
import Derived.ClosedOfChecked
namespace Go.Proofs
open Go.Shelf
def Tryz.lays169_ren : Go.Shelf.Ren := ⟨fun | 169 => 105 | n => n, fun | 70 => 152 | 9 => 9 | 0 => 0 | 72 => 154 | 37 => 28 | 127 => 167 | 3 => 3 | 5 => 5 | n => n, fun | n => n⟩
theorem Tryz.lays169 : Go.Proofs.Lays.n169 Tryz.prog Tryz.lays169_ren := {
 mixed := by kernel_rfl
 f169 := Tryz.func105.trans (congrArg some (by kernel_rfl))
 t0 := Tryz.underlying0
 a0 := Tryz.isAgg0
 z0 := Tryz.sizeOf0
 v0 := Tryz.zeroValue0
 t3 := Tryz.underlying3
 a3 := Tryz.isAgg3
 z3 := Tryz.sizeOf3
 v3 := Tryz.zeroValue3
 t9 := Tryz.underlying9
 a9 := Tryz.isAgg9
 z9 := Tryz.sizeOf9
 v9 := Tryz.zeroValue9
 t37 := Tryz.underlying28
 a37 := Tryz.isAgg28
 z37 := Tryz.sizeOf28
 v37 := Tryz.zeroValue28
 t70 := Tryz.underlying152
 a70 := Tryz.isAgg152
 z70 := Tryz.sizeOf152
 v70 := Tryz.zeroValue152
 t72 := Tryz.underlying154
 a72 := Tryz.isAgg154
 z72 := Tryz.sizeOf154
 v72 := Tryz.zeroValue154
 t127 := Tryz.underlying167
 a127 := Tryz.isAgg167
 z127 := Tryz.sizeOf167
 v127 := Tryz.zeroValue167 }
theorem Tryz.Builder_Extra_169 : Builder.Extra Tryz.prog Tryz.lays169_ren := {
 sizeBuilder := by kernel_rfl
 liesBuilder := by kernel_rfl
 t5 := Tryz.underlying5
 a5 := Tryz.isAgg5
 z5 := Tryz.sizeOf5
 v5 := Tryz.zeroValue5
 infoByte := by kernel_rfl
 cellsByte := by kernel_rfl
 sizeByte := by kernel_rfl
 neB5 := by decide }
def Tryz.lays137_ren : Go.Shelf.Ren := ⟨fun | 137 => 46 | 217 => 83 | 266 => 108 | n => n, fun | 9 => 9 | 5 => 5 | 3 => 3 | n => n, fun | n => n⟩
theorem Tryz.lays137 : Go.Proofs.Lays.n137 Tryz.prog Tryz.lays137_ren := {
 mixed := by kernel_rfl
 f137 := Tryz.func46.trans (congrArg some (by kernel_rfl))
 f217 := Tryz.func83.trans (congrArg some (by kernel_rfl))
 f266 := Tryz.func108.trans (congrArg some (by kernel_rfl))
 t3 := Tryz.underlying3
 a3 := Tryz.isAgg3
 z3 := Tryz.sizeOf3
 v3 := Tryz.zeroValue3
 t5 := Tryz.underlying5
 a5 := Tryz.isAgg5
 z5 := Tryz.sizeOf5
 v5 := Tryz.zeroValue5
 t9 := Tryz.underlying9
 a9 := Tryz.isAgg9
 z9 := Tryz.sizeOf9
 v9 := Tryz.zeroValue9 }
open Go.RowKit in
theorem Tryz.strings_IndexByte (s : ByteArray) (c : Int) (w : World) :
  Calls Tryz.prog 46 #[.string s, .int .u8 c] w fun e w' => e = .returned (.int .i64 (Lib.indexByte s.data.toList c.toNat.toUInt8)) ∧ w' = w := Any.strings_IndexByte Tryz.lays137 s c w
def Tryz.lays207_ren : Go.Shelf.Ren := ⟨fun | 207 => 82 | n => n, fun | 9 => 9 | 4 => 4 | 3 => 3 | n => n, fun | n => n⟩
def Tryz.lays102_ren : Go.Shelf.Ren := ⟨fun | 102 => 24 | 209 => 45 | 207 => 82 | n => n, fun | 9 => 9 | 4 => 4 | 3 => 3 | n => n, fun | n => n⟩
theorem Tryz.lays102 : Go.Proofs.Lays.n102 Tryz.prog Tryz.lays102_ren := {
 mixed := by kernel_rfl
 f102 := Tryz.func24.trans (congrArg some (by kernel_rfl))
 f207 := Tryz.func82.trans (congrArg some (by kernel_rfl))
 f209 := Tryz.func45.trans (congrArg some (by kernel_rfl))
 t3 := Tryz.underlying3
 a3 := Tryz.isAgg3
 z3 := Tryz.sizeOf3
 v3 := Tryz.zeroValue3
 t4 := Tryz.underlying4
 a4 := Tryz.isAgg4
 z4 := Tryz.sizeOf4
 v4 := Tryz.zeroValue4
 t9 := Tryz.underlying9
 a9 := Tryz.isAgg9
 z9 := Tryz.sizeOf9
 v9 := Tryz.zeroValue9 }
open Go.RowKit Go.Lib in
theorem Tryz.strings_TrimSuffix (s p : ByteArray) (w : World) (hs : s.size ≤ 9223372036854775807) :
  Calls Tryz.prog 24 #[.string s, .string p] w fun e w' => e = .returned (.string ⟨(Lib.trimSuffix s.data.toList p.data.toList).toArray⟩) ∧ w' = w := Any.strings_TrimSuffix Tryz.lays102 s p w hs
end Go.Proofs
namespace Go.Proofs.YtgmijnnhanpocabGreatDoor
open Go.ChangeShapes Go.WideShapes Go.ChangeAt Go.RowKit
def spanRows : List (Int × Int × Int) :=
 [(-2147483648, 31, 0), (127, 159, 0), (768, 879, 0), (4352, 4447, 2), (8203, 8207, 0), (11904, 12350, 2), (12353, 13311, 2), (13312, 19903, 2), (19968, 40959, 2), (40960, 42191, 2), (44032, 55203, 2), (55296, 57343, 0), (63744, 64255, 2), (65024, 65039, 0), (65072, 65135, 2), (65280, 65376, 2), (65504, 65510, 2), (127744, 128591, 2), (129280, 129535, 2), (131072, 262141, 2), (1114112, 2147483647, 0)]
def sFirst (i : Nat) : Int := (spanRows.getD i (0, 0, 0)).1
def sLast (i : Nat) : Int := (spanRows.getD i (0, 0, 0)).2.1
def sWide (i : Nat) : Int := (spanRows.getD i (0, 0, 0)).2.2
structure Spans (w : World) : Prop where
 size : 0 < w.heap.size
 first : ∀ i, i < 21 → w.cell? ⟨0, i * 3, none⟩ = some (.int .i32 (sFirst i))
 last : ∀ i, i < 21 → w.cell? ⟨0, i * 3 + 1, none⟩ = some (.int .i32 (sLast i))
 wide : ∀ i, i < 21 → w.cell? ⟨0, i * 3 + 2, none⟩ = some (.int .i64 (sWide i))
theorem Spans.below {w w' : World} {B : Nat} (h : Spans w) (hb : Below B w w') (hB : 0 < B) : Spans w' :=
 ⟨Nat.lt_of_lt_of_le h.size hb.size, fun i hi => (hb.cell (p := ⟨0, i * 3, none⟩) hB).trans (h.first i hi), fun i hi => (hb.cell (p := ⟨0, i * 3 + 1, none⟩) hB).trans (h.last i hi), fun i hi => (hb.cell (p := ⟨0, i * 3 + 2, none⟩) hB).trans (h.wide i hi)⟩
theorem gSpans : Tryz.prog.globalNamed "rotulus/width.spans" = some 0 := by kernel_rfl
theorem gSpansType : (Tryz.prog.globals[0]?).map (·.type) = some 151 := by kernel_rfl
theorem cellsSpans : Tryz.prog.cellsOf 151 = 63 := by kernel_rfl
theorem cellsSpan : Tryz.prog.cellsOf 150 = 3 := by kernel_rfl
theorem cellsRune : Tryz.prog.cellsOf 21 = 1 := by kernel_rfl
theorem cellsInt : Tryz.prog.cellsOf 3 = 1 := by kernel_rfl
set_option maxRecDepth 100000 in
theorem span_cells {H : Type} {enc : TypeId × Value → H} {w : World} {base : Nat} {sp : Nat → Bool} {held : Bool} {fuel : Nat} {cs : List Value} {a b c : Int} {x : DataW H × List MemPlace}
  (h : DataW.trod enc Tryz.prog w base sp held fuel 150 cs = some x) (hx : x.1 = .agg [.lit (.int .i32 a), .lit (.int .i32 b), .lit (.int .i64 c)]) : cs = [.int .i32 a, .int .i32 b, .int .i64 c] := by
 obtain ⟨xs, m, rfl, rfl, hl, hn, hf⟩ := DataW.trod_struct Tryz.underlying150 h
 rw [cellsSpan] at hl
 match cs, hl with
 | [c0, c1, c2], _ =>
  have f0 : DataW.trod enc Tryz.prog w base sp held m 21 [c0] = xs[0]? := by have := hf 0 _ rfl; simpa [cellsRune] using this
  have f1 : DataW.trod enc Tryz.prog w base sp held m 21 [c1] = xs[1]? := by have := hf 1 _ rfl; simpa [cellsRune] using this
  have f2 : DataW.trod enc Tryz.prog w base sp held m 3 [c2] = xs[2]? := by have := hf 2 _ rfl; simpa [cellsInt] using this
  match xs, hn with
  | [x0, x1, x2], _ =>
   simp only [List.getElem?_cons_zero, List.getElem?_cons_succ] at f0 f1 f2
   obtain ⟨z0, e0, rfl, _⟩ := DataW.trod_int Tryz.underlying21 f0
   obtain ⟨z1, e1, rfl, _⟩ := DataW.trod_int Tryz.underlying21 f1
   obtain ⟨z2, e2, rfl, _⟩ := DataW.trod_int Tryz.underlying3 f2
   simp at e0 e1 e2 hx
   obtain ⟨rfl, rfl, rfl⟩ := hx
   rw [e0, e1, e2]
theorem laid_rows {H : Type} : Rows.laid_rotulus_width_spans (H := H) = .agg (spanRows.map fun x => .agg [.lit (.int .i32 x.1), .lit (.int .i32 x.2.1), .lit (.int .i64 x.2.2)]) := rfl
theorem spans_of {W : World} (h : laidMetH Tryz.prog [("rotulus/width.spans", Rows.laid_rotulus_width_spans)] W) : Spans W := by
 have h' : laidMet Tryz.prog [("rotulus/width.spans", Rows.laid_rotulus_width_spans)] W := h
 obtain ⟨ps, ⟨g', t', cs, fuel, p, q, hg', ht', hvar, hd, _, _⟩, _⟩ := h'
 obtain rfl := Option.some.inj (gSpans.symm.trans hg')
 obtain rfl := Option.some.inj (gSpansType.symm.trans ht')
 obtain ⟨xs, m, rfl, hx, hl, hn, hf⟩ := DataW.trod_array Tryz.underlying151 hd
 rw [cellsSpan] at hf
 rw [cellsSpans] at hl
 have hxs : xs.map (·.1) = spanRows.map fun x => (DataW.agg [.lit (.int .i32 x.1), .lit (.int .i32 x.2.1), .lit (.int .i64 x.2.2)] : DataW Unit) := by
  have := congrArg Prod.fst hx
  rw [laid_rows] at this
  exact (DataW.agg.inj this).symm
 have key : ∀ i, i < 21 → (cs.toList.drop (i * 3)).take 3 = [.int .i32 (sFirst i), .int .i32 (sLast i), .int .i64 (sWide i)] := by
  intro i hi
  have hr : spanRows[i]? = some (spanRows.getD i (0, 0, 0)) := by
   have : i < spanRows.length := hi
   simp [List.getD, this]
  have h1 : (xs.map (·.1))[i]? = some (DataW.agg [.lit (.int .i32 (sFirst i)), .lit (.int .i32 (sLast i)), .lit (.int .i64 (sWide i))] : DataW Unit) := by
   rw [hxs, List.getElem?_map, hr]; rfl
  have h2 := hf i hi
  rw [List.getElem?_map, Option.map_eq_some_iff] at h1
  obtain ⟨x, hx1, hx2⟩ := h1
  rw [hx1] at h2
  exact span_cells h2 hx2
 have cell : ∀ i j v, i < 21 → [Value.int .i32 (sFirst i), .int .i32 (sLast i), .int .i64 (sWide i)][j]? = some v → W.cell? ⟨0, i * 3 + j, none⟩ = some v := by
  intro i j v hi hv
  rw [World.var?_cell gSpans hvar, ← hv, ← key i hi, List.getElem?_take, ← Array.getElem?_toList]
  have hj : j < 3 := by
   by_cases hj : j < 3
   ·exact hj
   ·rw [List.getElem?_eq_none (by simp; omega)] at hv; cases hv
  rw [if_pos hj, List.getElem?_drop]
 refine ⟨World.block_lt_of_cell? W _ (cell 0 0 _ (by omega) rfl), fun i hi => cell i 0 _ hi rfl, fun i hi => cell i 1 _ hi rfl, fun i hi => cell i 2 _ hi rfl⟩
end Go.Proofs.YtgmijnnhanpocabGreatDoor
namespace Go.Proofs.YtgmijnnhanpocabGreatDoor
open Go.ChangeShapes Go.WideShapes Go.ChangeAt Go.RowKit
structure Sq (w : World) (B size n : Nat) (A : Option Addr) (xs : List Value) : Prop where
 len : xs.length = n * size
 spot : 0 < n → ∃ b off, A = some ⟨b, off, none⟩ ∧ b < B ∧ ∀ j u, xs[j]? = some u → w.cell? ⟨b, off + j, none⟩ = some u
namespace Sq
variable {w w' : World} {B B' size n : Nat} {A : Option Addr} {xs : List Value}
theorem nothing (w : World) (B size : Nat) (A : Option Addr) : Sq w B size 0 A [] := ⟨by simp, fun h => absurd h (Nat.lt_irrefl 0)⟩
theorem carry (h : Sq w B size n A xs) (k : ∀ p : Addr, p.block < B → w'.cell? p = w.cell? p) : Sq w' B size n A xs :=
 ⟨h.len, fun hn => let ⟨b, off, e, hb, hc⟩ := h.spot hn; ⟨b, off, e, hb, fun j u hu => (k ⟨b, off + j, none⟩ hb).trans (hc j u hu)⟩⟩
theorem below (h : Sq w B size n A xs) (hb : Below B w w') : Sq w' B size n A xs := h.carry fun _ hp => hb.cell hp
theorem alloc (h : Sq w B size n A xs) (hB : B ≤ w.heap.size) (o : Obj) : Sq (w.alloc o) B size n A xs := h.below ((Below.refl _ _).alloc hB o)
theorem setCell (h : Sq w B size n A xs) {p : Addr} (hp : B ≤ p.block) (u : Value) : Sq (w.setCell p u) B size n A xs := h.below ((Below.refl _ _).setCell hp u)
theorem own {base : Nat} {e : TypeId} {c : Nat} (h : w.ownsRow base e size (.slice A n c) n xs) : Sq w w.heap.size size n A xs := by
 refine ⟨h.1, fun hn => ?_⟩
 rcases h.2 with ⟨hv, h0⟩ | ⟨g, cap, cur, hv, _, hg, _, _, _, htake⟩
 ·omega
 ·have hA : A = some ⟨g, 0, none⟩ := by injection hv
  subst hA
  refine ⟨g, 0, rfl, (Array.getElem?_eq_some_iff.1 hg).1, fun j u hu => ?_⟩
  rw [cell_of_row w g (0 + j) cur e (0, 0) hg, Nat.zero_add]
  rw [← htake, List.getElem?_take] at hu
  split at hu
  ·simpa using hu
  ·cases hu
end Sq
end Go.Proofs.YtgmijnnhanpocabGreatDoor









namespace Go.Proofs.YtgmijnnhanpocabGreatDoor
open Go.ChangeShapes Go.WideShapes Go.ChangeAt Go.RowKit
theorem laidOut : laidOutB Tryz.prog = true := by kernel_rfl
section
variable {H : Type} {enc : TypeId × Value → H} {W W' : World}
theorem wf_i64 {x : Int} (h : (Lit.int .i64 x).wf = true) : -9223372036854775808 ≤ x ∧ x ≤ 9223372036854775807 := by
 simpa [Lit.wf, IntKind.min, IntKind.max, IntKind.signed, IntKind.bits] using h
theorem wf_u8 {x : Int} (h : (Lit.int .u8 x).wf = true) : 0 ≤ x ∧ x ≤ 255 := by
 simpa [Lit.wf, IntKind.min, IntKind.max, IntKind.signed, IntKind.bits] using h
theorem trodAll_below (hb : Below W.heap.size W W') : ∀ {ts : List TypeId} {vs : List Value} {ds : List (DataW H)} {ps : List MemPlace}, (ts.all fun t => Tryz.prog.readableRec t && decide (t < Tryz.prog.types.size)) = true →
  DataW.TrodAll enc Tryz.prog W 0 (fun _ => true) true ts vs ds ps → DataW.TrodAll enc Tryz.prog W' 0 (fun b => decide (b < W.heap.size)) true ts vs ds ps := by
 intro ts
 induction ts with
 | nil =>
  intro vs ds ps _ h
  obtain ⟨rfl, rfl, rfl⟩ := trodAll_nil h
  exact trodAll_mk0
 | cons t ts ih =>
  intro vs ds ps ht h
  have hlt := DataW.TrodAll.lt h
  simp only [List.all_cons, Bool.and_eq_true, decide_eq_true_eq] at ht
  obtain ⟨v, vs', d, ds', p, q, rfl, rfl, rfl, h0, hr⟩ := trodAll_cons h
  exact trodAll_cons_mk (Below.trod laidOut ht.1.1 ht.1.2 h0 hb (fun x hx => hlt x (List.mem_append_left _ hx))) (ih ht.2 hr)
set_option maxRecDepth 100000 in
theorem close {s : ChangeSpec} {f : Func} {args : Array Value} {ds gs : List (DataW H)} {before : List MemPlace} (hv : s.vars = [])
  (hW : DataW.Whole enc Tryz.prog f.params.toList s.vars false W args.toList ds gs before) (hfn : (s.fn H (ds ++ [])).results = [.lit (.bool true)] ∧ (s.fn H (ds ++ [])).args = ds ∧ (s.fn H (ds ++ [])).vars = []) (hres : f.resultTypes = #[4])
  (hts : (f.params.toList.all fun t => Tryz.prog.readableRec t && decide (t < Tryz.prog.types.size)) = true) (hb : Below W.heap.size W W') :
  s.post enc Tryz.prog f false true false false W args (.bool true) W' := by
 have hW' := hW
 obtain ⟨p, q, hA, hV, rfl, _, _⟩ := hW
 rw [hv] at hV
 obtain ⟨rfl, rfl⟩ := trodVars_none hV
 obtain ⟨h1, h2, h3⟩ := hfn
 refine ⟨ds, [], p ++ [], [], p, [], hW', ?_, ?_, ?_, hb.frame _, fun h => by cases h⟩
 ·rw [h1, hres]
  exact trodAll_cons_mk (shut_bool Tryz.underlying4 _) trodAll_mk0
 ·rw [h2]
  exact trodAll_below hb hts hA
 ·rw [h3, hv]
  rfl
end
end Go.Proofs.YtgmijnnhanpocabGreatDoor
namespace Go.Proofs.YtgmijnnhanpocabGreatDoor
open Go.ChangeShapes Go.WideShapes Go.ChangeAt Go.RowKit
section
variable {H : Type} {enc : TypeId × Value → H} {W W' : World}
end
end Go.Proofs.YtgmijnnhanpocabGreatDoor
namespace Go.Proofs.YtgmijnnhanpocabGreatDoor
open Go.ChangeShapes Go.WideShapes Go.ChangeAt Go.RowKit
theorem ownNone : ownKnob Tryz.prog.godebug = none := by kernel_rfl
def spanCells : Array Value := #[.int .i32 (-2147483648), .int .i32 31, .int .i64 0, .int .i32 127, .int .i32 159, .int .i64 0, .int .i32 768, .int .i32 879, .int .i64 0, .int .i32 4352, .int .i32 4447, .int .i64 2, .int .i32 8203, .int .i32 8207, .int .i64 0, .int .i32 11904, .int .i32 12350, .int .i64 2, .int .i32 12353, .int .i32 13311, .int .i64 2, .int .i32 13312, .int .i32 19903, .int .i64 2, .int .i32 19968, .int .i32 40959, .int .i64 2, .int .i32 40960, .int .i32 42191, .int .i64 2, .int .i32 44032, .int .i32 55203, .int .i64 2, .int .i32 55296, .int .i32 57343, .int .i64 0, .int .i32 63744, .int .i32 64255, .int .i64 2, .int .i32 65024, .int .i32 65039, .int .i64 0, .int .i32 65072, .int .i32 65135, .int .i64 2, .int .i32 65280, .int .i32 65376, .int .i64 2, .int .i32 65504, .int .i32 65510, .int .i64 2, .int .i32 127744, .int .i32 128591, .int .i64 2, .int .i32 129280, .int .i32 129535, .int .i64 2, .int .i32 131072, .int .i32 262141, .int .i64 2, .int .i32 1114112, .int .i32 2147483647, .int .i64 0]
noncomputable def laidWorld (os : Os) : World :=
 {World.holding Tryz.prog os ⟨#[], #[], []⟩ with heap := (World.holding Tryz.prog os ⟨#[], #[], []⟩).heap.modify 0 fun
   | .cells _ t frozen => .cells spanCells t frozen
   | o => o }
namespace Sum
theorem and_mk {a b : Bool} (h1 : a = true) (h2 : b = true) : (a && b) = true := by rw [h1, h2]; rfl
set_option maxRecDepth 100000 in
theorem tables : laidOutB Tryz.checked.prog = true ∧ mapsRowed Tryz.checked.prog = true ∧ Tryz.checked.prog.plainKeys = true :=
 Go.ClosedOfChecked.closed_of_checked Tryz.checked (by kernel_rfl) (by kernel_rfl) (by kernel_rfl)
set_option maxRecDepth 100000 in
theorem mayEnter : Tryz.checked.prog.mayEnter = true := by kernel_rfl
set_option maxRecDepth 100000 in
theorem lifts : (Rows.baseAllRow.lifted == Tryz.checked.prog.liftsFinal) = true := by kernel_rfl
set_option maxRecDepth 100000 in
theorem make : (Tryz.checked.prog.make == some Rows.baseAllRow.make) = true := by kernel_rfl
end Sum
end Go.Proofs.YtgmijnnhanpocabGreatDoor
namespace Go.Proofs.YtgmijnnhanpocabGreatDoor.BM
def alpha : List Nat := [65, 66, 67, 68, 69, 70, 71, 72, 73, 74, 75, 76, 77, 78, 79, 80, 81, 82, 83, 84, 85, 86, 87, 88, 89, 90, 97, 98, 99, 100, 101, 102, 103, 104, 105, 106, 107, 108, 109, 110, 111, 112, 113, 114, 115, 116, 117, 118, 119, 120, 121, 122, 48, 49, 50, 51, 52, 53, 54, 55, 56, 57, 43, 47]
def sgn (k : Nat) : Nat := alpha.getD k 0
def idx (x : Nat) : Nat := alpha.findIdx (· == x)
theorem idx_sgn : ∀ k, k < 64 → idx (sgn k) = k := by decide
theorem sgn_idx {x : Nat} (h : idx x < 64) : sgn (idx x) = x := by
 have h1 := List.findIdx_getElem (xs := alpha) (p := (· == x)) (w := h)
 have h2 : sgn (idx x) = alpha[idx x]'h := by
  unfold sgn
  rw [List.getD_eq_getElem?_getD, List.getElem?_eq_getElem h]
  rfl
 rw [h2]
 have h3 : (alpha[idx x]'h == x) = true := h1
 simpa using h3
theorem sgn_fill : ∀ k, k < 64 → sgn k ≠ 61 := by decide
theorem sgn_byte : ∀ k, k < 64 → sgn k < 128 := by decide
def val (b : Nat) (g : List Nat) : Nat := g.foldl (fun v x => v * b + x) 0
theorem val_snoc (b : Nat) (g : List Nat) (x : Nat) : val b (g ++ [x]) = val b g * b + x := by unfold val; rw [List.foldl_append]; rfl
def encG (m v : Nat) : List Nat := (List.range (m + 1)).map (fun i => sgn (v * 64 / 2 ^ (8 * m - 6 * i) % 64)) ++ List.replicate (3 - m) 61
def putL : List Nat → List Nat
 | [] => []
 | [a] => encG 1 (val 256 [a])
 | [a, b] => encG 2 (val 256 [a, b])
 | a :: b :: c :: l => encG 3 (val 256 [a, b, c]) ++ putL l
theorem putL_group : ∀ {g : List Nat}, 1 ≤ g.length → g.length ≤ 3 → putL g = encG g.length (val 256 g)
 | [a], _, _ => rfl
 | [a, b], _, _ => rfl
 | [a, b, c], _, _ => by rw [putL, putL, List.append_nil]; rfl
 | [], h, _ => by simp at h
 | _ :: _ :: _ :: _ :: _, _, h => by simp at h
theorem putL_append : ∀ (k : Nat) (x y : List Nat), x.length = 3 * k → putL (x ++ y) = putL x ++ putL y
 | 0, x, y, h => by
  obtain rfl := List.eq_nil_of_length_eq_zero (by omega)
  rfl
 | k + 1, x, y, h => by
  match x, h with
  | a :: b :: c :: l, h =>
   have ih := putL_append k l y (by simp at h; omega)
   rw [List.cons_append, List.cons_append, List.cons_append, putL, putL, ih, List.append_assoc]
theorem encG_len {m v : Nat} (hm : m ≤ 3) : (encG m v).length = 4 := by unfold encG; simp; omega
theorem putL_len : ∀ (l : List Nat), (putL l).length = (l.length + 2) / 3 * 4
 | [] => rfl
 | [a] => by rw [putL, encG_len (by decide)]; simp
 | [a, b] => by rw [putL, encG_len (by decide)]; simp
 | a :: b :: c :: l => by
  rw [putL, List.length_append, encG_len (by decide), putL_len l]
  simp only [List.length_cons]
  omega
theorem putL_step {l : List Nat} {k : Nat} (h : 3 * k < l.length) : putL (l.take (3 * (k + 1))) = putL (l.take (3 * k)) ++ encG (min 3 (l.length - 3 * k)) (val 256 ((l.drop (3 * k)).take 3)) := by
 have e : l.take (3 * (k + 1)) = l.take (3 * k) ++ (l.drop (3 * k)).take 3 := by
  rw [show 3 * (k + 1) = 3 * k + 3 by omega, List.take_add]
 have hg : ((l.drop (3 * k)).take 3).length = min 3 (l.length - 3 * k) := by rw [List.length_take, List.length_drop]
 rw [e, putL_append k _ _ (by rw [List.length_take]; omega), putL_group (g := (l.drop (3 * k)).take 3) (by omega) (by omega), hg]
def Byt (l : List Nat) : Prop := ∀ x ∈ l, x < 256
def decG (g : List Nat) : Option (List Nat) :=
 if (g.all fun x => decide (idx x < 64)) = true ∧ val 64 (g.map idx) % 2 ^ (6 * g.length % 8) = 0 then some ((List.range (6 * g.length / 8)).map fun i => val 64 (g.map idx) / 2 ^ (6 * g.length - 8 * (i + 1)) % 256) else none
def decN (l : List Nat) : Nat → Option (List Nat)
 | 0 => some []
 | k + 1 => (decN l k).bind fun o => (decG ((l.drop (4 * k)).take 4)).map (o ++ ·)
def trim1 (l : List Nat) : List Nat := if l.getLast? = some 61 then l.dropLast else l
def getL (t : List Nat) : Option (List Nat) := if t.length % 4 = 0 then decN (trim1 (trim1 t)) (((trim1 (trim1 t)).length + 3) / 4) else none
theorem enc1 (v : Nat) : encG 1 v = [sgn (v * 64 / 256 % 64), sgn (v * 64 / 4 % 64), 61, 61] := rfl
theorem enc2 (v : Nat) : encG 2 v = [sgn (v * 64 / 65536 % 64), sgn (v * 64 / 1024 % 64), sgn (v * 64 / 16 % 64), 61] := rfl
theorem enc3 (v : Nat) : encG 3 v = [sgn (v * 64 / 16777216 % 64), sgn (v * 64 / 262144 % 64), sgn (v * 64 / 4096 % 64), sgn (v * 64 / 64 % 64)] := rfl
theorem dec2 (x y : Nat) : decG [x, y] = if (idx x < 64 ∧ idx y < 64) ∧ (idx x * 64 + idx y) % 16 = 0 then some [(idx x * 64 + idx y) / 16 % 256] else none := by
 unfold decG
 simp [val, List.range_succ]
theorem dec3 (x y z : Nat) : decG [x, y, z] = if (idx x < 64 ∧ idx y < 64 ∧ idx z < 64) ∧ ((idx x * 64 + idx y) * 64 + idx z) % 4 = 0 then some [((idx x * 64 + idx y) * 64 + idx z) / 1024 % 256, ((idx x * 64 + idx y) * 64 + idx z) / 4 % 256] else none := by
 unfold decG
 simp [val, List.range_succ]
theorem dec4 (x y z u : Nat) : decG [x, y, z, u] = if idx x < 64 ∧ idx y < 64 ∧ idx z < 64 ∧ idx u < 64 then some [(((idx x * 64 + idx y) * 64 + idx z) * 64 + idx u) / 65536 % 256, (((idx x * 64 + idx y) * 64 + idx z) * 64 + idx u) / 256 % 256, (((idx x * 64 + idx y) * 64 + idx z) * 64 + idx u) % 256] else none := by
 unfold decG
 simp [val, List.range_succ, Nat.mod_one]
theorem lt64 (n : Nat) : n % 64 < 64 := Nat.mod_lt _ (by decide)
theorem e1_1 {a : Nat} (ha : a < 256) : decG ((encG 1 (val 256 [a])).take 2) = some [a] := by
 rw [enc1]
 show decG [_, _] = _
 rw [dec2, idx_sgn _ (lt64 _), idx_sgn _ (lt64 _), if_pos ⟨⟨lt64 _, lt64 _⟩, by simp [val]; omega⟩]
 simp [val]; omega
theorem e1_2 {a b : Nat} (ha : a < 256) (hb : b < 256) : decG ((encG 2 (val 256 [a, b])).take 3) = some [a, b] := by
 rw [enc2]
 show decG [_, _, _] = _
 rw [dec3, idx_sgn _ (lt64 _), idx_sgn _ (lt64 _), idx_sgn _ (lt64 _), if_pos ⟨⟨lt64 _, lt64 _, lt64 _⟩, by simp [val]; omega⟩]
 simp [val]; omega
theorem e1_3 {a b c : Nat} (ha : a < 256) (hb : b < 256) (hc : c < 256) : decG (encG 3 (val 256 [a, b, c])) = some [a, b, c] := by
 rw [enc3, dec4, idx_sgn _ (lt64 _), idx_sgn _ (lt64 _), idx_sgn _ (lt64 _), idx_sgn _ (lt64 _), if_pos ⟨lt64 _, lt64 _, lt64 _, lt64 _⟩]
 simp [val]; omega
theorem e2_2 {x y : Nat} {o : List Nat} (h : decG [x, y] = some o) : o.length = 1 ∧ Byt o ∧ encG 1 (val 256 o) = [x, y, 61, 61] := by
 rw [dec2] at h
 split at h
 ·rename_i hc
  obtain ⟨⟨h1, h2⟩, h3⟩ := hc
  obtain rfl := Option.some.inj h
  refine ⟨rfl, fun z hz => (by simp at hz; omega), ?_⟩
  rw [enc1]
  conv => rhs; rw [← sgn_idx h1, ← sgn_idx h2]
  simp only [val, List.foldl_cons, List.foldl_nil, List.cons.injEq, and_true]
  exact ⟨congrArg sgn (by omega), congrArg sgn (by omega)⟩
 ·cases h
theorem e2_3 {x y z : Nat} {o : List Nat} (h : decG [x, y, z] = some o) : o.length = 2 ∧ Byt o ∧ encG 2 (val 256 o) = [x, y, z, 61] := by
 rw [dec3] at h
 split at h
 ·rename_i hc
  obtain ⟨⟨h1, h2, h3⟩, h4⟩ := hc
  obtain rfl := Option.some.inj h
  refine ⟨rfl, fun z hz => (by simp at hz; omega), ?_⟩
  rw [enc2]
  conv => rhs; rw [← sgn_idx h1, ← sgn_idx h2, ← sgn_idx h3]
  simp only [val, List.foldl_cons, List.foldl_nil, List.cons.injEq, and_true]
  exact ⟨congrArg sgn (by omega), congrArg sgn (by omega), congrArg sgn (by omega)⟩
 ·cases h
theorem e2_4 {x y z u : Nat} {o : List Nat} (h : decG [x, y, z, u] = some o) : o.length = 3 ∧ Byt o ∧ encG 3 (val 256 o) = [x, y, z, u] := by
 rw [dec4] at h
 split at h
 ·rename_i hc
  obtain ⟨h1, h2, h3, h4⟩ := hc
  obtain rfl := Option.some.inj h
  refine ⟨rfl, fun z hz => (by simp at hz; omega), ?_⟩
  rw [enc3]
  conv => rhs; rw [← sgn_idx h1, ← sgn_idx h2, ← sgn_idx h3, ← sgn_idx h4]
  simp only [val, List.foldl_cons, List.foldl_nil, List.cons.injEq, and_true]
  exact ⟨congrArg sgn (by omega), congrArg sgn (by omega), congrArg sgn (by omega), congrArg sgn (by omega)⟩
 ·cases h
theorem four {l : List Nat} (h : l.length = 4) : ∃ x y z u, l = [x, y, z, u] := by
 match l, h with
 | [x, y, z, u], _ => exact ⟨x, y, z, u, rfl⟩
theorem byt_append {x y : List Nat} (h : Byt x) (k : Byt y) : Byt (x ++ y) := fun z hz => (List.mem_append.1 hz).elim (h z) (k z)
theorem decN_full {l : List Nat} : ∀ {k : Nat} {o : List Nat}, decN l k = some o → 4 * k ≤ l.length → putL o = l.take (4 * k) ∧ o.length = 3 * k ∧ Byt o
 | 0, o, h, _ => by
  obtain rfl := Option.some.inj h
  exact ⟨by simp [putL], rfl, fun x hx => by cases hx⟩
 | k + 1, o, h, hk => by
  rw [decN] at h
  obtain ⟨p, hp, h⟩ := Option.bind_eq_some_iff.1 h
  obtain ⟨q, hq, rfl⟩ := Option.map_eq_some_iff.1 h
  obtain ⟨h1, h2, h3⟩ := decN_full hp (by omega)
  obtain ⟨x, y, z, u, e⟩ := four (l := (l.drop (4 * k)).take 4) (by rw [List.length_take, List.length_drop]; omega)
  rw [e] at hq
  obtain ⟨k1, k2, k3⟩ := e2_4 hq
  refine ⟨?_, by rw [List.length_append, h2, k1]; omega, byt_append h3 k2⟩
  rw [putL_append k _ _ h2, h1, putL_group (g := q) (by omega) (by omega), k1, k3, ← e, show 4 * (k + 1) = 4 * k + 4 by omega, List.take_add]
theorem trim1_cases (l : List Nat) : trim1 l = l ∨ l = trim1 l ++ [61] := by
 unfold trim1
 split
 ·rename_i h
  have hne : l ≠ [] := fun e => by simp [e] at h
  right
  have := List.dropLast_concat_getLast hne
  rw [List.getLast?_eq_some_getLast hne] at h
  rw [Option.some.inj h] at this
  exact this.symm
 ·exact .inl rfl
theorem trim_two (l : List Nat) : l = trim1 (trim1 l) ∨ l = trim1 (trim1 l) ++ [61] ∨ l = trim1 (trim1 l) ++ [61, 61] := by
 rcases trim1_cases l with h | h
 ·rw [h]
  rcases trim1_cases l with k | k
  ·exact .inl k.symm
  ·exact .inr (.inl k)
 ·rcases trim1_cases (trim1 l) with k | k
  ·right; left
   rw [k]
   exact h
  ·right; right
   rw [h]
   rw [show trim1 (trim1 (trim1 l ++ [61])) = trim1 (trim1 l) from by rw [← h]]
   conv => lhs; rw [k]
   simp
theorem put_get {t b : List Nat} (h : getL t = some b) : putL b = t ∧ Byt b := by
 unfold getL at h
 split at h
 ·rename_i h4
  obtain ⟨u, hu⟩ : ∃ u, trim1 (trim1 t) = u := ⟨_, rfl⟩
  have ht := trim_two t
  rw [hu] at h ht
  clear hu
  rcases ht with rfl | rfl | rfl
  ·rw [show (t.length + 3) / 4 = t.length / 4 by omega] at h
   obtain ⟨h1, _, h3⟩ := decN_full h (by omega)
   exact ⟨by rw [h1, List.take_of_length_le (by omega)], h3⟩
  ·rw [List.length_append, List.length_singleton] at h4
   rw [show (u.length + 3) / 4 = u.length / 4 + 1 by omega, decN] at h
   obtain ⟨p, hp, h⟩ := Option.bind_eq_some_iff.1 h
   obtain ⟨q, hq, rfl⟩ := Option.map_eq_some_iff.1 h
   obtain ⟨h1, h2, h3⟩ := decN_full hp (by omega)
   have hl : ((u.drop (4 * (u.length / 4))).take 4).length = 3 := by rw [List.length_take, List.length_drop]; omega
   have hd : (u.drop (4 * (u.length / 4))).take 4 = u.drop (4 * (u.length / 4)) := List.take_of_length_le (by rw [List.length_drop]; omega)
   obtain ⟨x, y, z, e⟩ : ∃ x y z, (u.drop (4 * (u.length / 4))).take 4 = [x, y, z] := by
    match (u.drop (4 * (u.length / 4))).take 4, hl with
    | [x, y, z], _ => exact ⟨x, y, z, rfl⟩
   rw [e] at hq hd
   obtain ⟨k1, k2, k3⟩ := e2_3 hq
   refine ⟨?_, byt_append h3 k2⟩
   rw [putL_append _ _ _ h2, h1, putL_group (g := q) (by omega) (by omega), k1, k3]
   conv => rhs; rw [← List.take_append_drop (4 * (u.length / 4)) u, ← hd]
   simp
  ·rw [List.length_append, show [61, 61].length = 2 from rfl] at h4
   rw [show (u.length + 3) / 4 = u.length / 4 + 1 by omega, decN] at h
   obtain ⟨p, hp, h⟩ := Option.bind_eq_some_iff.1 h
   obtain ⟨q, hq, rfl⟩ := Option.map_eq_some_iff.1 h
   obtain ⟨h1, h2, h3⟩ := decN_full hp (by omega)
   have hl : ((u.drop (4 * (u.length / 4))).take 4).length = 2 := by rw [List.length_take, List.length_drop]; omega
   have hd : (u.drop (4 * (u.length / 4))).take 4 = u.drop (4 * (u.length / 4)) := List.take_of_length_le (by rw [List.length_drop]; omega)
   obtain ⟨x, y, e⟩ : ∃ x y, (u.drop (4 * (u.length / 4))).take 4 = [x, y] := by
    match (u.drop (4 * (u.length / 4))).take 4, hl with
    | [x, y], _ => exact ⟨x, y, rfl⟩
   rw [e] at hq hd
   obtain ⟨k1, k2, k3⟩ := e2_2 hq
   refine ⟨?_, byt_append h3 k2⟩
   rw [putL_append _ _ _ h2, h1, putL_group (g := q) (by omega) (by omega), k1, k3]
   conv => rhs; rw [← List.take_append_drop (4 * (u.length / 4)) u, ← hd]
   simp
 ·cases h
theorem byt_take {l : List Nat} (h : Byt l) (k : Nat) : Byt (l.take k) := fun x hx => h x (List.mem_of_mem_take hx)
theorem byt_drop {l : List Nat} (h : Byt l) (k : Nat) : Byt (l.drop k) := fun x hx => h x (List.mem_of_mem_drop hx)
theorem dec_put : ∀ (k : Nat) (x z : List Nat), x.length = 3 * k → Byt x → decN (putL x ++ z) k = some x
 | 0, x, z, h, _ => by
  obtain rfl := List.eq_nil_of_length_eq_zero (by omega)
  rfl
 | k + 1, x, z, h, hb => by
  have h1 : (x.take (3 * k)).length = 3 * k := by rw [List.length_take]; omega
  have h2 : (x.drop (3 * k)).length = 3 := by rw [List.length_drop]; omega
  obtain ⟨a, b, c, e⟩ : ∃ a b c, x.drop (3 * k) = [a, b, c] := by
   match x.drop (3 * k), h2 with
   | [a, b, c], _ => exact ⟨a, b, c, rfl⟩
  have hx : x = x.take (3 * k) ++ [a, b, c] := by rw [← e, List.take_append_drop]
  have hb2 := byt_drop hb (3 * k)
  rw [e] at hb2
  have ih := dec_put k (x.take (3 * k)) (encG 3 (val 256 [a, b, c]) ++ z) h1 (byt_take hb _)
  have hl := putL_len (x.take (3 * k))
  rw [h1] at hl
  have hp : putL x = putL (x.take (3 * k)) ++ encG 3 (val 256 [a, b, c]) := by
   conv => lhs; rw [hx]
   rw [putL_append k _ _ h1, putL_group (g := [a, b, c]) (by simp) (by simp)]
   rfl
  rw [hp, decN, List.append_assoc, ih, Option.bind_some]
  have hd : ((putL (x.take (3 * k)) ++ (encG 3 (val 256 [a, b, c]) ++ z)).drop (4 * k)).take 4 = encG 3 (val 256 [a, b, c]) := by
   rw [List.drop_append_of_le_length (by omega), List.drop_of_length_le (by omega), List.nil_append, List.take_append_of_le_length (by rw [encG_len (by decide)]; exact Nat.le_refl _), List.take_of_length_le (by rw [encG_len (by decide)]; exact Nat.le_refl _)]
  rw [hd, e1_3 (hb2 a (by simp)) (hb2 b (by simp)) (hb2 c (by simp)), Option.map_some, ← hx]
theorem trim1_not {l : List Nat} {s : Nat} (h : s ≠ 61) : trim1 (l ++ [s]) = l ++ [s] := by
 unfold trim1
 rw [List.getLast?_concat, if_neg (fun e => h (Option.some.inj e))]
theorem trim1_is (l : List Nat) : trim1 (l ++ [61]) = l := by
 unfold trim1
 rw [List.getLast?_concat, if_pos rfl, List.dropLast_concat]
theorem trim_full : ∀ (k : Nat) (x : List Nat), x.length = 3 * k → trim1 (putL x) = putL x
 | 0, x, h => by
  obtain rfl := List.eq_nil_of_length_eq_zero (by omega)
  rfl
 | k + 1, x, h => by
  have h1 : (x.take (3 * k)).length = 3 * k := by rw [List.length_take]; omega
  have h2 : (x.drop (3 * k)).length = 3 := by rw [List.length_drop]; omega
  have hx : putL x = putL (x.take (3 * k)) ++ encG 3 (val 256 (x.drop (3 * k))) := by
   conv => lhs; rw [← List.take_append_drop (3 * k) x]
   rw [putL_append k _ _ h1, putL_group (g := x.drop (3 * k)) (by omega) (by omega), h2]
  rw [hx, enc3]
  rw [show ∀ (a b c d : Nat), putL (x.take (3 * k)) ++ [a, b, c, d] = (putL (x.take (3 * k)) ++ [a, b, c]) ++ [d] from fun a b c d => by simp]
  exact trim1_not (sgn_fill _ (lt64 _))
theorem get_put {b : List Nat} (hb : Byt b) : getL (putL b) = some b := by
 obtain ⟨k, hk⟩ : ∃ k, b.length / 3 = k := ⟨_, rfl⟩
 have h1 : (b.take (3 * k)).length = 3 * k := by rw [List.length_take]; omega
 have hl := putL_len (b.take (3 * k))
 have hL := putL_len b
 have e := List.take_append_drop (3 * k) b
 have h2 : (b.drop (3 * k)).length = b.length - 3 * k := List.length_drop
 have hp : putL b = putL (b.take (3 * k)) ++ putL (b.drop (3 * k)) := by
  conv => lhs; rw [← e]
  exact putL_append k _ _ h1
 have hd := dec_put k (b.take (3 * k))
 have h4 : (putL b).length % 4 = 0 := by rw [hL]; omega
 unfold getL
 rw [if_pos h4]
 have hb2 := byt_drop hb (3 * k)
 rcases (by omega : b.length - 3 * k = 0 ∨ b.length - 3 * k = 1 ∨ b.length - 3 * k = 2) with h | h | h
 ·have hb' : b.length = 3 * k := by omega
  rw [trim_full k b hb', trim_full k b hb', show ((putL b).length + 3) / 4 = k by rw [hL]; omega]
  have := dec_put k b [] hb' hb
  rwa [List.append_nil] at this
 ·rw [h] at h2
  obtain ⟨a, ea⟩ : ∃ a, b.drop (3 * k) = [a] := by
   match b.drop (3 * k), h2 with
   | [a], _ => exact ⟨a, rfl⟩
  rw [ea] at hp hb2 e
  have ha := hb2 a (by simp)
  rw [putL, enc1] at hp
  have ht : trim1 (trim1 (putL b)) = putL (b.take (3 * k)) ++ (encG 1 (val 256 [a])).take 2 := by
   rw [hp, show ∀ (x y : Nat), putL (b.take (3 * k)) ++ [x, y, 61, 61] = ((putL (b.take (3 * k)) ++ [x, y]) ++ [61]) ++ [61] from fun x y => by simp, trim1_is, trim1_is, enc1]
   rfl
  rw [ht, List.length_append, hl, h1, show ((encG 1 (val 256 [a])).take 2).length = 2 by rw [enc1]; rfl, show ((3 * k + 2) / 3 * 4 + 2 + 3) / 4 = k + 1 by omega, decN, hd _ h1 (byt_take hb _), Option.bind_some]
  rw [List.drop_append_of_le_length (by rw [hl, h1]; omega), List.drop_of_length_le (by rw [hl, h1]; omega), List.nil_append, List.take_take, show min 4 2 = 2 from rfl, e1_1 ha, Option.map_some, e]
 ·rw [h] at h2
  obtain ⟨a, c, ea⟩ : ∃ a c, b.drop (3 * k) = [a, c] := by
   match b.drop (3 * k), h2 with
   | [a, c], _ => exact ⟨a, c, rfl⟩
  rw [ea] at hp hb2 e
  have ha := hb2 a (by simp)
  have hc := hb2 c (by simp)
  rw [putL, enc2] at hp
  have ht : trim1 (trim1 (putL b)) = putL (b.take (3 * k)) ++ (encG 2 (val 256 [a, c])).take 3 := by
   rw [hp, show ∀ (x y z : Nat), putL (b.take (3 * k)) ++ [x, y, z, 61] = (putL (b.take (3 * k)) ++ [x, y, z]) ++ [61] from fun x y z => by simp, trim1_is]
   rw [show ∀ (x y z : Nat), putL (b.take (3 * k)) ++ [x, y, z] = (putL (b.take (3 * k)) ++ [x, y]) ++ [z] from fun x y z => by simp, trim1_not (sgn_fill _ (lt64 _)), enc2]
   simp
  rw [ht, List.length_append, hl, h1, show ((encG 2 (val 256 [a, c])).take 3).length = 3 by rw [enc2]; rfl, show ((3 * k + 2) / 3 * 4 + 3 + 3) / 4 = k + 1 by omega, decN, hd _ h1 (byt_take hb _), Option.bind_some]
  rw [List.drop_append_of_le_length (by rw [hl, h1]; omega), List.drop_of_length_le (by rw [hl, h1]; omega), List.nil_append, List.take_take, show min 4 3 = 3 from rfl, e1_2 ha hc, Option.map_some, e]
def bits8 (x : Nat) : List Nat := [x / 128 % 2, x / 64 % 2, x / 32 % 2, x / 16 % 2, x / 8 % 2, x / 4 % 2, x / 2 % 2, x / 1 % 2]
def bits6 (x : Nat) : List Nat := [x / 32 % 2, x / 16 % 2, x / 8 % 2, x / 4 % 2, x / 2 % 2, x / 1 % 2]
def chunk (B : List Nat) (n i : Nat) : Nat := val 2 ((List.range n).map fun j => B.getD (i + j) 0)
def sixN (B : List Nat) (k : Nat) : List Nat := (List.range k).map fun i => chunk B 6 (6 * i)
def eightN (B : List Nat) (k : Nat) : List Nat := (List.range k).map fun i => chunk B 8 (8 * i)
def padF (l : List Nat) : List Nat := l ++ List.replicate ((4 - l.length % 4) % 4) 61
def refPut (l : List Nat) : List Nat := padF ((sixN (l.flatMap bits8) (((l.flatMap bits8).length + 5) / 6)).map sgn)
theorem chunk_skip {A B : List Nat} {n i m : Nat} (h : A.length = m) : chunk (A ++ B) n (m + i) = chunk B n i := by
 unfold chunk
 congr 1
 refine List.map_congr_left fun j _ => ?_
 rw [List.getD_eq_getElem?_getD, List.getD_eq_getElem?_getD, List.getElem?_append_right (by omega), show m + i + j - A.length = i + j by omega]
theorem sixN_skip {A B : List Nat} {k m : Nat} (h : A.length = 6 * m) : sixN (A ++ B) (m + k) = sixN (A ++ B) m ++ sixN B k := by
 unfold sixN
 rw [List.range_add, List.map_append, List.map_map]
 congr 1
 refine List.map_congr_left fun i _ => ?_
 show chunk (A ++ B) 6 (6 * (m + i)) = _
 rw [Nat.mul_add]
 exact chunk_skip h
theorem eightN_skip {A B : List Nat} {k m : Nat} (h : A.length = 8 * m) : eightN (A ++ B) (m + k) = eightN (A ++ B) m ++ eightN B k := by
 unfold eightN
 rw [List.range_add, List.map_append, List.map_map]
 congr 1
 refine List.map_congr_left fun i _ => ?_
 show chunk (A ++ B) 8 (8 * (m + i)) = _
 rw [Nat.mul_add]
 exact chunk_skip h
theorem bits8_len : ∀ (l : List Nat), (l.flatMap bits8).length = 8 * l.length
 | [] => rfl
 | x :: l => by rw [List.flatMap_cons, List.length_append, bits8_len l, List.length_cons]; show 8 + _ = _; omega
theorem bits6_len : ∀ (l : List Nat), (l.flatMap bits6).length = 6 * l.length
 | [] => rfl
 | x :: l => by rw [List.flatMap_cons, List.length_append, bits6_len l, List.length_cons]; show 6 + _ = _; omega
theorem val6 (x y z u v w : Nat) : val 2 [x, y, z, u, v, w] = 32 * x + 16 * y + 8 * z + 4 * u + 2 * v + w := by simp [val]; omega
theorem val8 (x y z u v w p q : Nat) : val 2 [x, y, z, u, v, w, p, q] = 128 * x + 64 * y + 32 * z + 16 * u + 8 * v + 4 * w + 2 * p + q := by simp [val]; omega
theorem hi6 : ∀ a, a < 256 → 32 * (a / 128 % 2) + 16 * (a / 64 % 2) + 8 * (a / 32 % 2) + 4 * (a / 16 % 2) + 2 * (a / 8 % 2) + a / 4 % 2 = a / 4 := by decide +kernel
theorem lo6 : ∀ a, a < 256 → 32 * (a / 32 % 2) + 16 * (a / 16 % 2) + 8 * (a / 8 % 2) + 4 * (a / 4 % 2) + 2 * (a / 2 % 2) + a / 1 % 2 = a % 64 := by decide +kernel
theorem hi4 : ∀ a, a < 256 → 8 * (a / 128 % 2) + 4 * (a / 64 % 2) + 2 * (a / 32 % 2) + a / 16 % 2 = a / 16 := by decide +kernel
theorem lo4 : ∀ a, a < 256 → 8 * (a / 8 % 2) + 4 * (a / 4 % 2) + 2 * (a / 2 % 2) + a / 1 % 2 = a % 16 := by decide +kernel
theorem hi2 : ∀ a, a < 256 → 2 * (a / 128 % 2) + a / 64 % 2 = a / 64 := by decide +kernel
theorem lo2 : ∀ a, a < 256 → 2 * (a / 2 % 2) + a / 1 % 2 = a % 4 := by decide +kernel
theorem s24 (x y z u v w : Nat) : 32 * x + 16 * y + 8 * z + 4 * u + 2 * v + w = 16 * (2 * x + y) + (8 * z + 4 * u + 2 * v + w) := by omega
theorem s42 (x y z u v w : Nat) : 32 * x + 16 * y + 8 * z + 4 * u + 2 * v + w = 4 * (8 * x + 4 * y + 2 * z + u) + (2 * v + w) := by omega
theorem p1_0 (a b c : Nat) (ha : a < 256) (hb : b < 256) (hc : c < 256) : val 256 [a, b, c] * 64 / 16777216 % 64 = a / 4 := by simp [val]; omega
theorem p1_1 (a b c : Nat) (_ha : a < 256) (hb : b < 256) (hc : c < 256) : val 256 [a, b, c] * 64 / 262144 % 64 = 16 * (a % 4) + b / 16 := by simp [val]; omega
theorem p1_2 (a b c : Nat) (_ha : a < 256) (_hb : b < 256) (hc : c < 256) : val 256 [a, b, c] * 64 / 4096 % 64 = 4 * (b % 16) + c / 64 := by simp [val]; omega
theorem p1_3 (a b c : Nat) (_ha : a < 256) (_hb : b < 256) (_hc : c < 256) : val 256 [a, b, c] * 64 / 64 % 64 = c % 64 := by simp [val]; omega
theorem p2_0 (a b : Nat) (ha : a < 256) (hb : b < 256) : val 256 [a, b] * 64 / 65536 % 64 = a / 4 := by simp [val]; omega
theorem p2_1 (a b : Nat) (_ha : a < 256) (hb : b < 256) : val 256 [a, b] * 64 / 1024 % 64 = 16 * (a % 4) + b / 16 := by simp [val]; omega
theorem p2_2 (a b : Nat) (_ha : a < 256) (_hb : b < 256) : val 256 [a, b] * 64 / 16 % 64 = 4 * (b % 16) := by simp [val]; omega
theorem p3_0 (a : Nat) (ha : a < 256) : val 256 [a] * 64 / 256 % 64 = a / 4 := by simp [val]; omega
theorem p3_1 (a : Nat) (_ha : a < 256) : val 256 [a] * 64 / 4 % 64 = 16 * (a % 4) := by simp [val]; omega
theorem chunk6_is (B : List Nat) (i : Nat) : chunk B 6 i = 32 * B.getD (i + 0) 0 + 16 * B.getD (i + 1) 0 + 8 * B.getD (i + 2) 0 + 4 * B.getD (i + 3) 0 + 2 * B.getD (i + 4) 0 + B.getD (i + 5) 0 := val6 _ _ _ _ _ _
theorem chunk8_is (B : List Nat) (i : Nat) : chunk B 8 i = 128 * B.getD (i + 0) 0 + 64 * B.getD (i + 1) 0 + 32 * B.getD (i + 2) 0 + 16 * B.getD (i + 3) 0 + 8 * B.getD (i + 4) 0 + 4 * B.getD (i + 5) 0 + 2 * B.getD (i + 6) 0 + B.getD (i + 7) 0 := val8 _ _ _ _ _ _ _ _
theorem six_three {a b c : Nat} (ha : a < 256) (hb : b < 256) (hc : c < 256) (B : List Nat) : (sixN ((bits8 a ++ bits8 b ++ bits8 c) ++ B) 4).map sgn = encG 3 (val 256 [a, b, c]) := by
 rw [enc3, p1_0 a b c ha hb hc, p1_1 a b c ha hb hc, p1_2 a b c ha hb hc, p1_3 a b c ha hb hc]
 show [sgn (chunk _ 6 0), sgn (chunk _ 6 6), sgn (chunk _ 6 12), sgn (chunk _ 6 18)] = _
 rw [chunk6_is, chunk6_is, chunk6_is, chunk6_is]
 simp only [bits8, List.cons_append, List.nil_append, Nat.reduceAdd, List.getD_cons_succ, List.getD_cons_zero]
 rw [hi6 a ha, lo6 c hc, s24 (a / 2 % 2), lo2 a ha, hi4 b hb, s42 (b / 8 % 2), lo4 b hb, hi2 c hc]
theorem six_one {a : Nat} (ha : a < 256) : (sixN (bits8 a) 2).map sgn = (encG 1 (val 256 [a])).take 2 := by
 rw [enc1, p3_0 a ha, p3_1 a ha]
 show [sgn (chunk _ 6 0), sgn (chunk _ 6 6)] = [_, _]
 rw [chunk6_is, chunk6_is]
 simp only [bits8, Nat.reduceAdd, List.getD_cons_succ, List.getD_cons_zero, List.getD_nil]
 rw [hi6 a ha, s24 (a / 2 % 2), lo2 a ha]
 simp
theorem six_two {a b : Nat} (ha : a < 256) (hb : b < 256) : (sixN (bits8 a ++ bits8 b) 3).map sgn = (encG 2 (val 256 [a, b])).take 3 := by
 rw [enc2, p2_0 a b ha hb, p2_1 a b ha hb, p2_2 a b ha hb]
 show [sgn (chunk _ 6 0), sgn (chunk _ 6 6), sgn (chunk _ 6 12)] = [_, _, _]
 rw [chunk6_is, chunk6_is, chunk6_is]
 simp only [bits8, List.cons_append, List.nil_append, Nat.reduceAdd, List.getD_cons_succ, List.getD_cons_zero, List.getD_nil]
 rw [hi6 a ha, s24 (a / 2 % 2), lo2 a ha, hi4 b hb, s42 (b / 8 % 2), lo4 b hb]
 simp
theorem sixN_len (B : List Nat) (k : Nat) : (sixN B k).length = k := by unfold sixN; simp
theorem padF_skip {x y : List Nat} (h : x.length = 4) : padF (x ++ y) = x ++ padF y := by
 unfold padF
 rw [List.append_assoc, List.length_append, h, show (4 + y.length) % 4 = y.length % 4 by omega]
theorem refPut_is : ∀ (l : List Nat), Byt l → refPut l = putL l
 | [], _ => rfl
 | [a], h => by
  unfold refPut
  rw [bits8_len]
  rw [show [a].flatMap bits8 = bits8 a by simp, show (8 * [a].length + 5) / 6 = 2 by simp, six_one (h a (by simp)), putL, enc1]
  rfl
 | [a, b], h => by
  unfold refPut
  rw [bits8_len]
  rw [show [a, b].flatMap bits8 = bits8 a ++ bits8 b by simp, show (8 * [a, b].length + 5) / 6 = 3 by simp, six_two (h a (by simp)) (h b (by simp)), putL, enc2]
  rfl
 | a :: b :: c :: l, h => by
  have ih := refPut_is l (fun x hx => h x (by simp [hx]))
  unfold refPut at ih ⊢
  rw [bits8_len] at ih ⊢
  have e : (a :: b :: c :: l).flatMap bits8 = (bits8 a ++ bits8 b ++ bits8 c) ++ l.flatMap bits8 := by simp [List.flatMap_cons]
  have h1 := h a (by simp)
  have h2 := h b (by simp)
  have h3 := h c (by simp)
  rw [e, show (8 * (a :: b :: c :: l).length + 5) / 6 = 4 + (8 * l.length + 5) / 6 by simp; omega, sixN_skip (m := 4) rfl, List.map_append, six_three h1 h2 h3, padF_skip (encG_len (by decide)), ih, putL]
def signsOf (t : List Nat) : List Nat := t.takeWhile fun x => !(x == 61)
def refDec (t : List Nat) : List Nat := eightN ((signsOf t).flatMap fun x => bits6 (idx x)) (6 * (signsOf t).length / 8)
def refGet (t : List Nat) : Option (List Nat) :=
 if ((signsOf t).all fun x => decide (idx x < 64)) = true ∧ refPut (refDec t) = t then some (refDec t) else none
theorem b6hi : ∀ p, p < 64 → 128 * (p / 32 % 2) + 64 * (p / 16 % 2) + 32 * (p / 8 % 2) + 16 * (p / 4 % 2) + 8 * (p / 2 % 2) + 4 * (p / 1 % 2) = 4 * p := by decide +kernel
theorem b2hi : ∀ p, p < 64 → 2 * (p / 32 % 2) + p / 16 % 2 = p / 16 := by decide +kernel
theorem b4lo : ∀ p, p < 64 → 128 * (p / 8 % 2) + 64 * (p / 4 % 2) + 32 * (p / 2 % 2) + 16 * (p / 1 % 2) = 16 * (p % 16) := by decide +kernel
theorem b4hi : ∀ p, p < 64 → 8 * (p / 32 % 2) + 4 * (p / 16 % 2) + 2 * (p / 8 % 2) + p / 4 % 2 = p / 4 := by decide +kernel
theorem b2lo : ∀ p, p < 64 → 128 * (p / 2 % 2) + 64 * (p / 1 % 2) = 64 * (p % 4) := by decide +kernel
theorem b6lo : ∀ p, p < 64 → 32 * (p / 32 % 2) + 16 * (p / 16 % 2) + 8 * (p / 8 % 2) + 4 * (p / 4 % 2) + 2 * (p / 2 % 2) + p / 1 % 2 = p := by decide +kernel
theorem t62 (x y z u v w p q : Nat) : 128 * x + 64 * y + 32 * z + 16 * u + 8 * v + 4 * w + 2 * p + q = (128 * x + 64 * y + 32 * z + 16 * u + 8 * v + 4 * w) + (2 * p + q) := by omega
theorem t44 (x y z u v w p q : Nat) : 128 * x + 64 * y + 32 * z + 16 * u + 8 * v + 4 * w + 2 * p + q = (128 * x + 64 * y + 32 * z + 16 * u) + (8 * v + 4 * w + 2 * p + q) := by omega
theorem t26 (x y z u v w p q : Nat) : 128 * x + 64 * y + 32 * z + 16 * u + 8 * v + 4 * w + 2 * p + q = (128 * x + 64 * y) + (32 * z + 16 * u + 8 * v + 4 * w + 2 * p + q) := by omega
theorem eight_three {a b c : Nat} (ha : a < 256) (hb : b < 256) (hc : c < 256) (B : List Nat) : eightN (((encG 3 (val 256 [a, b, c])).flatMap fun x => bits6 (idx x)) ++ B) 3 = [a, b, c] := by
 rw [enc3]
 simp only [List.flatMap_cons, List.flatMap_nil, idx_sgn _ (lt64 _)]
 rw [p1_0 a b c ha hb hc, p1_1 a b c ha hb hc, p1_2 a b c ha hb hc, p1_3 a b c ha hb hc]
 obtain ⟨p, hp⟩ : ∃ p, a / 4 = p := ⟨_, rfl⟩
 obtain ⟨q, hq⟩ : ∃ q, 16 * (a % 4) + b / 16 = q := ⟨_, rfl⟩
 obtain ⟨r, hr⟩ : ∃ r, 4 * (b % 16) + c / 64 = r := ⟨_, rfl⟩
 obtain ⟨s, hs⟩ : ∃ s, c % 64 = s := ⟨_, rfl⟩
 rw [hp, hq, hr, hs]
 show [chunk _ 8 0, chunk _ 8 8, chunk _ 8 16] = _
 rw [chunk8_is, chunk8_is, chunk8_is]
 simp only [bits6, List.cons_append, List.nil_append, Nat.reduceAdd, List.getD_cons_succ, List.getD_cons_zero]
 rw [t62 (p / 32 % 2), b6hi p (by omega), b2hi q (by omega), t44 (q / 8 % 2), b4lo q (by omega), b4hi r (by omega), t26 (r / 2 % 2), b2lo r (by omega), b6lo s (by omega)]
 congr 1
 ·omega
 ·congr 1
  ·omega
  ·congr 1
   omega
theorem eight_two {a b : Nat} (ha : a < 256) (hb : b < 256) : eightN (((encG 2 (val 256 [a, b])).take 3).flatMap fun x => bits6 (idx x)) 2 = [a, b] := by
 rw [enc2]
 simp only [List.take_succ_cons, List.take_zero, List.flatMap_cons, List.flatMap_nil, idx_sgn _ (lt64 _)]
 rw [p2_0 a b ha hb, p2_1 a b ha hb, p2_2 a b ha hb]
 obtain ⟨p, hp⟩ : ∃ p, a / 4 = p := ⟨_, rfl⟩
 obtain ⟨q, hq⟩ : ∃ q, 16 * (a % 4) + b / 16 = q := ⟨_, rfl⟩
 obtain ⟨r, hr⟩ : ∃ r, 4 * (b % 16) = r := ⟨_, rfl⟩
 rw [hp, hq, hr]
 show [chunk _ 8 0, chunk _ 8 8] = _
 rw [chunk8_is, chunk8_is]
 simp only [bits6, List.cons_append, List.nil_append, Nat.reduceAdd, List.getD_cons_succ, List.getD_cons_zero]
 rw [t62 (p / 32 % 2), b6hi p (by omega), b2hi q (by omega), t44 (q / 8 % 2), b4lo q (by omega), b4hi r (by omega)]
 congr 1
 ·omega
 ·congr 1
  omega
theorem eight_one {a : Nat} (ha : a < 256) : eightN (((encG 1 (val 256 [a])).take 2).flatMap fun x => bits6 (idx x)) 1 = [a] := by
 rw [enc1]
 simp only [List.take_succ_cons, List.take_zero, List.flatMap_cons, List.flatMap_nil, idx_sgn _ (lt64 _)]
 rw [p3_0 a ha, p3_1 a ha]
 obtain ⟨p, hp⟩ : ∃ p, a / 4 = p := ⟨_, rfl⟩
 obtain ⟨q, hq⟩ : ∃ q, 16 * (a % 4) = q := ⟨_, rfl⟩
 rw [hp, hq]
 show [chunk _ 8 0] = _
 rw [chunk8_is]
 simp only [bits6, List.cons_append, List.nil_append, Nat.reduceAdd, List.getD_cons_succ, List.getD_cons_zero]
 rw [t62 (p / 32 % 2), b6hi p (by omega), b2hi q (by omega)]
 congr 1
 omega
theorem signs_enc3 (v : Nat) (l : List Nat) : signsOf (encG 3 v ++ l) = encG 3 v ++ signsOf l := by
 unfold signsOf
 rw [List.takeWhile_append_of_pos]
 intro x hx
 rw [enc3] at hx
 simp at hx
 rcases hx with rfl | rfl | rfl | rfl <;> simp [sgn_fill _ (lt64 _)]
theorem dec_of_put : ∀ (l : List Nat), Byt l → refDec (putL l) = l ∧ ((signsOf (putL l)).all fun x => decide (idx x < 64)) = true
 | [], _ => ⟨rfl, rfl⟩
 | [a], h => by
  have e : signsOf (putL [a]) = (encG 1 (val 256 [a])).take 2 := by
   rw [putL, enc1]
   simp [signsOf, sgn_fill _ (lt64 _)]
  unfold refDec
  rw [e]
  refine ⟨?_, ?_⟩
  ·have := eight_one (h a (by simp))
   rw [show 6 * ((encG 1 (val 256 [a])).take 2).length / 8 = 1 by rw [enc1]; simp]
   exact this
  ·rw [enc1]; simp [idx_sgn _ (lt64 _), lt64]
 | [a, b], h => by
  have e : signsOf (putL [a, b]) = (encG 2 (val 256 [a, b])).take 3 := by
   rw [putL, enc2]
   simp [signsOf, sgn_fill _ (lt64 _)]
  unfold refDec
  rw [e]
  refine ⟨?_, ?_⟩
  ·have := eight_two (h a (by simp)) (h b (by simp))
   rw [show 6 * ((encG 2 (val 256 [a, b])).take 3).length / 8 = 2 by rw [enc2]; simp]
   exact this
  ·rw [enc2]; simp [idx_sgn _ (lt64 _), lt64]
 | a :: b :: c :: l, h => by
  obtain ⟨ih1, ih2⟩ := dec_of_put l (fun x hx => h x (by simp [hx]))
  unfold refDec at ih1 ⊢
  rw [putL, signs_enc3]
  refine ⟨?_, ?_⟩
  ·rw [List.flatMap_append, List.length_append, encG_len (by decide), show 6 * (4 + (signsOf (putL l)).length) / 8 = 3 + 6 * (signsOf (putL l)).length / 8 by omega, eightN_skip (m := 3) (by rw [enc3]; rfl), ih1, eight_three (h a (by simp)) (h b (by simp)) (h c (by simp))]
   rfl
  ·rw [List.all_append, ih2, Bool.and_true, enc3]; simp [idx_sgn _ (lt64 _), lt64]
theorem chunk8_lt (B : List Nat) (hB : ∀ x ∈ B, x < 2) (i : Nat) : chunk B 8 i < 256 := by
 have g : ∀ j, B.getD j 0 < 2 := fun j => by
  rw [List.getD_eq_getElem?_getD]
  cases h : B[j]? with
  | none => decide
  | some x => exact hB x (List.mem_of_getElem? h)
 rw [chunk8_is]
 have h0 := g (i + 0)
 have h1 := g (i + 1)
 have h2 := g (i + 2)
 have h3 := g (i + 3)
 have h4 := g (i + 4)
 have h5 := g (i + 5)
 have h6 := g (i + 6)
 have h7 := g (i + 7)
 omega
theorem refDec_byt (t : List Nat) : Byt (refDec t) := fun x hx => by
 unfold refDec eightN at hx
 obtain ⟨i, _, rfl⟩ := List.mem_map.1 hx
 refine chunk8_lt _ (fun y hy => ?_) _
 obtain ⟨z, _, hz⟩ := List.mem_flatMap.1 hy
 simp [bits6] at hz
 rcases hz with rfl | rfl | rfl | rfl | rfl | rfl <;> omega
theorem refGet_is (t : List Nat) : refGet t = getL t := by
 by_cases h : ∃ b, Byt b ∧ putL b = t
 ·obtain ⟨b, hb, rfl⟩ := h
  obtain ⟨h1, h2⟩ := dec_of_put b hb
  unfold refGet
  rw [h1, refPut_is b hb, if_pos ⟨h2, rfl⟩, get_put hb]
 ·have h1 : getL t = none := by
   cases e : getL t with
   | none => rfl
   | some b => exact absurd ⟨b, (put_get e).2, (put_get e).1⟩ h
  rw [h1]
  unfold refGet
  rw [if_neg fun hc => h ⟨refDec t, refDec_byt t, by rw [← refPut_is _ (refDec_byt t)]; exact hc.2⟩]
theorem put_inj {a b : List Nat} (ha : Byt a) (hb : Byt b) (h : putL a = putL b) : a = b := by
 have h1 := get_put ha
 rw [h, get_put hb] at h1
 exact (Option.some.inj h1).symm
end Go.Proofs.YtgmijnnhanpocabGreatDoor.BM
