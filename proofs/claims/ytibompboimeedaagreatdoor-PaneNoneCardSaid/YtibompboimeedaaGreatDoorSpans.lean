/-
  The package-level table of width: what the row's list gives of its cells; how wide a sign is, as a plain chain of bounds.
-/
import Derived.Test.YtibompboimeedaaGreatDoorRows
import Derived.WalkKit
import Derived.ProofKit
import Derived.OpenShut
import Derived.Deep.DeepHandedRow
import Derived.Lib.LaidTab
import Derived.Lib.Hide
namespace Go.Proofs.YtibompboimeedaaGreatDoor
open Go.ChangeShapes Go.WideShapes Go.ChangeAt Go.RowKit

/-- The table, row by row: first, last, wide. -/
def spanRows : List (Int × Int × Int) :=
  [(-2147483648, 31, 0), (127, 159, 0), (768, 879, 0), (4352, 4447, 2), (8203, 8207, 0), (11904, 12350, 2), (12353, 13311, 2), (13312, 19903, 2), (19968, 40959, 2), (40960, 42191, 2), (44032, 55203, 2), (55296, 57343, 0), (63744, 64255, 2), (65024, 65039, 0), (65072, 65135, 2), (65280, 65376, 2), (65504, 65510, 2), (127744, 128591, 2), (129280, 129535, 2), (131072, 262141, 2), (1114112, 2147483647, 0)]
def sFirst (i : Nat) : Int := (spanRows.getD i (0, 0, 0)).1
def sLast (i : Nat) : Int := (spanRows.getD i (0, 0, 0)).2.1
def sWide (i : Nat) : Int := (spanRows.getD i (0, 0, 0)).2.2

/-- The table's cells hold its numbers. -/
structure Spans (w : World) : Prop where
  size : 0 < w.heap.size
  first : ∀ i, i < 21 → w.cell? ⟨0, i * 3, none⟩ = some (.int .i32 (sFirst i))
  last : ∀ i, i < 21 → w.cell? ⟨0, i * 3 + 1, none⟩ = some (.int .i32 (sLast i))
  wide : ∀ i, i < 21 → w.cell? ⟨0, i * 3 + 2, none⟩ = some (.int .i64 (sWide i))

/-- The table stands over whatever is done above it. -/
theorem Spans.below {w w' : World} {B : Nat} (h : Spans w) (hb : Below B w w') (hB : 0 < B) : Spans w' :=
  ⟨Nat.lt_of_lt_of_le h.size hb.size, fun i hi => (hb.cell (p := ⟨0, i * 3, none⟩) hB).trans (h.first i hi), fun i hi => (hb.cell (p := ⟨0, i * 3 + 1, none⟩) hB).trans (h.last i hi), fun i hi => (hb.cell (p := ⟨0, i * 3 + 2, none⟩) hB).trans (h.wide i hi)⟩

theorem Spans.drew {w : World} (h : Spans w) : Spans w.drew := ⟨h.size, h.first, h.last, h.wide⟩

theorem gSpans : Tryz.prog.globalNamed "rotulus/width.spans" = some 0 := by kernel_rfl
theorem gSpansType : (Tryz.prog.globals[0]?).map (·.type) = some 165 := by kernel_rfl
theorem cellsSpans : Tryz.prog.cellsOf 165 = 63 := by kernel_rfl
theorem cellsSpan : Tryz.prog.cellsOf 164 = 3 := by kernel_rfl
theorem cellsRune : Tryz.prog.cellsOf 21 = 1 := by kernel_rfl
theorem cellsInt : Tryz.prog.cellsOf 3 = 1 := by kernel_rfl

set_option maxRecDepth 100000 in
/-- One row's three cells out of its reading. -/
theorem span_cells {H : Type} {enc : TypeId × Value → H} {w : World} {base : Nat} {sp : Nat → Bool} {held : Bool} {fuel : Nat} {cs : List Value} {a b c : Int} {x : DataW H × List MemPlace}
    (h : DataW.trod enc Tryz.prog w base sp held fuel 164 cs = some x) (hx : x.1 = .agg [.lit (.int .i32 a), .lit (.int .i32 b), .lit (.int .i64 c)]) : cs = [.int .i32 a, .int .i32 b, .int .i64 c] := by
  obtain ⟨xs, m, rfl, rfl, hl, hn, hf⟩ := DataW.trod_struct Tryz.underlying164 h
  rw [cellsSpan] at hl
  match cs, hl with
  | [c0, c1, c2], _ =>
    have f0 : DataW.trod enc Tryz.prog w base sp held m 21 [c0] = xs[0]? := by have := hf 0 _ rfl; simpa [cellsRune] using this
    have f1 : DataW.trod enc Tryz.prog w base sp held m 21 [c1] = xs[1]? := by have := hf 1 _ rfl; simpa [cellsRune] using this
    have f2 : DataW.trod enc Tryz.prog w base sp held m 3 [c2] = xs[2]? := by have := hf 2 _ rfl; simpa [cellsInt] using this
    match xs, hn with
    | [x0, x1, x2], _ =>
      simp only [List.getElem?_cons_zero, List.getElem?_cons_succ] at f0 f1 f2
      obtain ⟨z0, e0, rfl, _⟩ := DataW.trod_int Tryz.underlying21 f0
      obtain ⟨z1, e1, rfl, _⟩ := DataW.trod_int Tryz.underlying21 f1
      obtain ⟨z2, e2, rfl, _⟩ := DataW.trod_int Tryz.underlying3 f2
      simp at e0 e1 e2 hx
      obtain ⟨rfl, rfl, rfl⟩ := hx
      rw [e0, e1, e2]

/-- The row's list as data, row by row. -/
theorem laid_rows {H : Type} : Rows.laid_rotulus_width_spans (H := H) = .agg (spanRows.map fun x => .agg [.lit (.int .i32 x.1), .lit (.int .i32 x.2.1), .lit (.int .i64 x.2.2)]) := rfl

/-- WHAT THE ROW's LIST GIVES. -/
theorem spans_of {W : World} (h : laidMetH Tryz.prog [("rotulus/width.spans", Rows.laid_rotulus_width_spans)] W) : Spans W := by
  have h' : laidMet Tryz.prog [("rotulus/width.spans", Rows.laid_rotulus_width_spans)] W := h
  obtain ⟨ps, ⟨g', t', cs, fuel, p, q, hg', ht', hvar, hd, _, _⟩, _⟩ := h'
  obtain rfl := Option.some.inj (gSpans.symm.trans hg')
  obtain rfl := Option.some.inj (gSpansType.symm.trans ht')
  obtain ⟨xs, m, rfl, hx, hl, hn, hf⟩ := DataW.trod_array Tryz.underlying165 hd
  rw [cellsSpan] at hf
  rw [cellsSpans] at hl
  have hxs : xs.map (·.1) = spanRows.map fun x => (DataW.agg [.lit (.int .i32 x.1), .lit (.int .i32 x.2.1), .lit (.int .i64 x.2.2)] : DataW Unit) := by
    have := congrArg Prod.fst hx
    rw [laid_rows] at this
    exact (DataW.agg.inj this).symm
  have key : ∀ i, i < 21 → (cs.toList.drop (i * 3)).take 3 = [.int .i32 (sFirst i), .int .i32 (sLast i), .int .i64 (sWide i)] := by
    intro i hi
    have hr : spanRows[i]? = some (spanRows.getD i (0, 0, 0)) := by
      have : i < spanRows.length := hi
      simp [List.getD, this]
    have h1 : (xs.map (·.1))[i]? = some (DataW.agg [.lit (.int .i32 (sFirst i)), .lit (.int .i32 (sLast i)), .lit (.int .i64 (sWide i))] : DataW Unit) := by
      rw [hxs, List.getElem?_map, hr]; rfl
    have h2 := hf i hi
    rw [List.getElem?_map, Option.map_eq_some_iff] at h1
    obtain ⟨x, hx1, hx2⟩ := h1
    rw [hx1] at h2
    exact span_cells h2 hx2
  have cell : ∀ i j v, i < 21 → [Value.int .i32 (sFirst i), .int .i32 (sLast i), .int .i64 (sWide i)][j]? = some v → W.cell? ⟨0, i * 3 + j, none⟩ = some v := by
    intro i j v hi hv
    rw [World.var?_cell gSpans hvar, ← hv, ← key i hi, List.getElem?_take, ← Array.getElem?_toList]
    have hj : j < 3 := by
      by_cases hj : j < 3
      · exact hj
      · rw [List.getElem?_eq_none (by simp; omega)] at hv; cases hv
    rw [if_pos hj, List.getElem?_drop]
  refine ⟨World.block_lt_of_cell? W _ (cell 0 0 _ (by omega) rfl), fun i hi => cell i 0 _ hi rfl, fun i hi => cell i 1 _ hi rfl, fun i hi => cell i 2 _ hi rfl⟩

/-- HOW WIDE A SIGN IS. -/
def wof (r : Int) : Int :=
  if r ≤ 31 then 0 else
  if 127 ≤ r ∧ r ≤ 159 then 0 else
  if 768 ≤ r ∧ r ≤ 879 then 0 else
  if 4352 ≤ r ∧ r ≤ 4447 then 2 else
  if 8203 ≤ r ∧ r ≤ 8207 then 0 else
  if 11904 ≤ r ∧ r ≤ 12350 then 2 else
  if 12353 ≤ r ∧ r ≤ 13311 then 2 else
  if 13312 ≤ r ∧ r ≤ 19903 then 2 else
  if 19968 ≤ r ∧ r ≤ 40959 then 2 else
  if 40960 ≤ r ∧ r ≤ 42191 then 2 else
  if 44032 ≤ r ∧ r ≤ 55203 then 2 else
  if 55296 ≤ r ∧ r ≤ 57343 then 0 else
  if 63744 ≤ r ∧ r ≤ 64255 then 2 else
  if 65024 ≤ r ∧ r ≤ 65039 then 0 else
  if 65072 ≤ r ∧ r ≤ 65135 then 2 else
  if 65280 ≤ r ∧ r ≤ 65376 then 2 else
  if 65504 ≤ r ∧ r ≤ 65510 then 2 else
  if 127744 ≤ r ∧ r ≤ 128591 then 2 else
  if 129280 ≤ r ∧ r ≤ 129535 then 2 else
  if 131072 ≤ r ∧ r ≤ 262141 then 2 else
  if 1114112 ≤ r then 0 else
  1


theorem wof_range (r : Int) : 0 ≤ wof r ∧ wof r ≤ 2 := by
  unfold wof
  repeat' split
  all_goals omega
theorem wof_miss (r : Int) (h0 : -2147483648 ≤ r) (h1 : r ≤ 2147483647) (h : ∀ i, i < 21 → sLast i < r ∨ r < sFirst i) : wof r = 1 := by
  have k : ∀ i, i < 21 → ¬ (sFirst i ≤ r ∧ r ≤ sLast i) := fun i hi e => by have := h i hi; omega
  have k0 := k 0 (by omega); have k1 := k 1 (by omega); have k2 := k 2 (by omega); have k3 := k 3 (by omega); have k4 := k 4 (by omega); have k5 := k 5 (by omega); have k6 := k 6 (by omega)
  have k7 := k 7 (by omega); have k8 := k 8 (by omega); have k9 := k 9 (by omega); have k10 := k 10 (by omega); have k11 := k 11 (by omega); have k12 := k 12 (by omega); have k13 := k 13 (by omega)
  have k14 := k 14 (by omega); have k15 := k 15 (by omega); have k16 := k 16 (by omega); have k17 := k 17 (by omega); have k18 := k 18 (by omega); have k19 := k 19 (by omega); have k20 := k 20 (by omega)
  simp only [sFirst, sLast, spanRows, List.getD_cons_zero, List.getD_cons_succ] at k0 k1 k2 k3 k4 k5 k6 k7 k8 k9 k10 k11 k12 k13 k14 k15 k16 k17 k18 k19 k20
  unfold wof
  repeat rw [if_neg (by omega)]
theorem wof_hit (r : Int) (i : Nat) (hi : i < 21) (h0 : sFirst i ≤ r) (h1 : r ≤ sLast i) : wof r = sWide i := by
  unfold wof
  match i, hi with
  | 0, _ => simp only [sFirst, sLast, spanRows, List.getD_cons_zero] at h0 h1; (repeat rw [if_neg (by omega)]); rw [if_pos (by omega)]; rfl
  | 1, _ => simp only [sFirst, sLast, spanRows, List.getD_cons_zero, List.getD_cons_succ] at h0 h1; (repeat rw [if_neg (by omega)]); rw [if_pos (by omega)]; rfl
  | 2, _ => simp only [sFirst, sLast, spanRows, List.getD_cons_zero, List.getD_cons_succ] at h0 h1; (repeat rw [if_neg (by omega)]); rw [if_pos (by omega)]; rfl
  | 3, _ => simp only [sFirst, sLast, spanRows, List.getD_cons_zero, List.getD_cons_succ] at h0 h1; (repeat rw [if_neg (by omega)]); rw [if_pos (by omega)]; rfl
  | 4, _ => simp only [sFirst, sLast, spanRows, List.getD_cons_zero, List.getD_cons_succ] at h0 h1; (repeat rw [if_neg (by omega)]); rw [if_pos (by omega)]; rfl
  | 5, _ => simp only [sFirst, sLast, spanRows, List.getD_cons_zero, List.getD_cons_succ] at h0 h1; (repeat rw [if_neg (by omega)]); rw [if_pos (by omega)]; rfl
  | 6, _ => simp only [sFirst, sLast, spanRows, List.getD_cons_zero, List.getD_cons_succ] at h0 h1; (repeat rw [if_neg (by omega)]); rw [if_pos (by omega)]; rfl
  | 7, _ => simp only [sFirst, sLast, spanRows, List.getD_cons_zero, List.getD_cons_succ] at h0 h1; (repeat rw [if_neg (by omega)]); rw [if_pos (by omega)]; rfl
  | 8, _ => simp only [sFirst, sLast, spanRows, List.getD_cons_zero, List.getD_cons_succ] at h0 h1; (repeat rw [if_neg (by omega)]); rw [if_pos (by omega)]; rfl
  | 9, _ => simp only [sFirst, sLast, spanRows, List.getD_cons_zero, List.getD_cons_succ] at h0 h1; (repeat rw [if_neg (by omega)]); rw [if_pos (by omega)]; rfl
  | 10, _ => simp only [sFirst, sLast, spanRows, List.getD_cons_zero, List.getD_cons_succ] at h0 h1; (repeat rw [if_neg (by omega)]); rw [if_pos (by omega)]; rfl
  | 11, _ => simp only [sFirst, sLast, spanRows, List.getD_cons_zero, List.getD_cons_succ] at h0 h1; (repeat rw [if_neg (by omega)]); rw [if_pos (by omega)]; rfl
  | 12, _ => simp only [sFirst, sLast, spanRows, List.getD_cons_zero, List.getD_cons_succ] at h0 h1; (repeat rw [if_neg (by omega)]); rw [if_pos (by omega)]; rfl
  | 13, _ => simp only [sFirst, sLast, spanRows, List.getD_cons_zero, List.getD_cons_succ] at h0 h1; (repeat rw [if_neg (by omega)]); rw [if_pos (by omega)]; rfl
  | 14, _ => simp only [sFirst, sLast, spanRows, List.getD_cons_zero, List.getD_cons_succ] at h0 h1; (repeat rw [if_neg (by omega)]); rw [if_pos (by omega)]; rfl
  | 15, _ => simp only [sFirst, sLast, spanRows, List.getD_cons_zero, List.getD_cons_succ] at h0 h1; (repeat rw [if_neg (by omega)]); rw [if_pos (by omega)]; rfl
  | 16, _ => simp only [sFirst, sLast, spanRows, List.getD_cons_zero, List.getD_cons_succ] at h0 h1; (repeat rw [if_neg (by omega)]); rw [if_pos (by omega)]; rfl
  | 17, _ => simp only [sFirst, sLast, spanRows, List.getD_cons_zero, List.getD_cons_succ] at h0 h1; (repeat rw [if_neg (by omega)]); rw [if_pos (by omega)]; rfl
  | 18, _ => simp only [sFirst, sLast, spanRows, List.getD_cons_zero, List.getD_cons_succ] at h0 h1; (repeat rw [if_neg (by omega)]); rw [if_pos (by omega)]; rfl
  | 19, _ => simp only [sFirst, sLast, spanRows, List.getD_cons_zero, List.getD_cons_succ] at h0 h1; (repeat rw [if_neg (by omega)]); rw [if_pos (by omega)]; rfl
  | 20, _ => simp only [sFirst, sLast, spanRows, List.getD_cons_zero, List.getD_cons_succ] at h0 h1; (repeat rw [if_neg (by omega)]); rw [if_pos (by omega)]; rfl
  | n + 21, h => omega

theorem sFirst_mono : ∀ j, j < 21 → ∀ i, i < j → sFirst i ≤ sFirst j := by decide +kernel
theorem sLast_mono : ∀ j, j < 21 → ∀ i, i < j → sLast i ≤ sLast j := by decide +kernel
theorem sWide_range : ∀ i, i < 21 → 0 ≤ sWide i ∧ sWide i ≤ 2 := by decide +kernel

end Go.Proofs.YtibompboimeedaaGreatDoor
