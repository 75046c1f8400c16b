import Derived.Test.YtgcfpfhmjhkgnaaGreatDoorRows
import Derived.WalkKit
import Derived.ProofKit
import Derived.OpenShut
import Derived.Lib.Hide
import Derived.Laws.BytesString
import Derived.Laws.Cover4
import Derived.Lib.RuneBytes
import Derived.Outline
import Derived.Deep.DeepHandedRow
import Derived.Lib.LaidTab
import Derived.Deep.RegionWith
import Derived.RegionCalls
import Derived.RegionTactic
import Derived.ChangeAlike
set_option maxRecDepth 100000
set_option maxHeartbeats 1600000
namespace Go.Proofs.YtgcfpfhmjhkgnaaGreatDoor
open Go.ChangeShapes Go.WideShapes Go.ChangeAt Go.RowKit
theorem ret_int {k : IntKind} {a b : Int} (h : a = b) : Ending.returned (.int k a) = .returned (.int k b) := by rw [h]
theorem ret_bool {a b : Bool} (h : a = b) : Ending.returned (.bool a) = .returned (.bool b) := by rw [h]
structure Sq (w : World) (B size n : Nat) (A : Option Addr) (xs : List Value) : Prop where
 len : xs.length = n * size
 spot : 0 < n → ∃ b off, A = some ⟨b, off, none⟩ ∧ b < B ∧ ∀ j u, xs[j]? = some u → w.cell? ⟨b, off + j, none⟩ = some u
def nth (l : List Int) (k : Nat) : Int := l.getD k 0
theorem nth_get {l : List Int} {k : Nat} (h : k < l.length) : nth l k = l[k] := by simp [nth, List.getD, h]
namespace Sq
variable {w w' : World} {B B' size n : Nat} {A : Option Addr} {xs : List Value}
theorem nothing (w : World) (B size : Nat) (A : Option Addr) : Sq w B size 0 A [] := ⟨by simp, fun h => absurd h (Nat.lt_irrefl 0)⟩
theorem carry (h : Sq w B size n A xs) (k : ∀ p : Addr, p.block < B → w'.cell? p = w.cell? p) : Sq w' B size n A xs :=
 ⟨h.len, fun hn => let ⟨b, off, e, hb, hc⟩ := h.spot hn; ⟨b, off, e, hb, fun j u hu => (k ⟨b, off + j, none⟩ hb).trans (hc j u hu)⟩⟩
theorem below (h : Sq w B size n A xs) (hb : Below B w w') : Sq w' B size n A xs := h.carry fun _ hp => hb.cell hp
theorem up (h : Sq w B size n A xs) (hB : B ≤ B') : Sq w B' size n A xs :=
 ⟨h.len, fun hn => let ⟨b, off, e, hb, hc⟩ := h.spot hn; ⟨b, off, e, Nat.lt_of_lt_of_le hb hB, hc⟩⟩
theorem alloc (h : Sq w B size n A xs) (hB : B ≤ w.heap.size) (o : Obj) : Sq (w.alloc o) B size n A xs := h.below ((Below.refl _ _).alloc hB o)
theorem setCell (h : Sq w B size n A xs) {p : Addr} (hp : B ≤ p.block) (u : Value) : Sq (w.setCell p u) B size n A xs := h.below ((Below.refl _ _).setCell hp u)
theorem own {base : Nat} {e : TypeId} {c : Nat} (h : w.ownsRow base e size (.slice A n c) n xs) : Sq w w.heap.size size n A xs := by
 refine ⟨h.1, fun hn => ?_⟩
 rcases h.2 with ⟨hv, h0⟩ | ⟨g, cap, cur, hv, _, hg, _, _, _, htake⟩
 ·omega
 ·have hA : A = some ⟨g, 0, none⟩ := by injection hv
  subst hA
  refine ⟨g, 0, rfl, (Array.getElem?_eq_some_iff.1 hg).1, fun j u hu => ?_⟩
  rw [cell_of_row w g (0 + j) cur e (0, 0) hg, Nat.zero_add]
  rw [← htake, List.getElem?_take] at hu
  split at hu
  ·simpa using hu
  ·cases hu
theorem int_at {k : IntKind} {l : List Int} (h : Sq w B 1 n A (l.map (Value.int k))) {i : Nat} (hi : i < n) : ∃ b off, A = some ⟨b, off, none⟩ ∧ b < B ∧ w.cell? ⟨b, off + i, none⟩ = some (.int k (nth l i)) := by
 obtain ⟨b, off, e, hb, hc⟩ := h.spot (by omega)
 have hl : i < l.length := by have := h.len; simp at this; omega
 exact ⟨b, off, e, hb, hc i _ (by simp [nth_get hl, hl])⟩
theorem size_ints {k : IntKind} {l : List Int} (h : Sq w B 1 n A (l.map (Value.int k))) : l.length = n := by have := h.len; simpa using this
end Sq
def Runes (l : List Int) : Prop := ∀ r ∈ l, -2147483648 ≤ r ∧ r ≤ 2147483647
theorem Runes.get {l : List Int} (h : Runes l) (i : Nat) : -2147483648 ≤ nth l i ∧ nth l i ≤ 2147483647 := by
 by_cases hi : i < l.length
 ·rw [nth_get hi]; exact h _ (List.getElem_mem hi)
 ·have e : nth l i = 0 := by simp [nth, List.getD, show l.length ≤ i by omega]
  rw [e]; omega
theorem take_next {l : List Int} {k : Nat} (h : k < l.length) : l.take (k + 1) = l.take k ++ [nth l k] := by
 rw [List.take_succ_eq_append_getElem h, nth_get h]
theorem take_all {α : Type} (l : List α) {k : Nat} (h : l.length ≤ k) : l.take k = l := List.take_of_length_le h
def octs (s : ByteArray) : List Int := s.data.toList.map fun c => (c.toNat : Int)
theorem octs_length (s : ByteArray) : (octs s).length = s.size := by unfold octs; rw [List.length_map, Array.length_toList]; rfl
theorem nth_octs (s : ByteArray) (k : Nat) (h : k < s.size) : nth (octs s) k = ((s[k]'h).toNat : Int) := by
 have hl : k < (octs s).length := by rw [octs_length]; exact h
 rw [nth_get hl]
 simp only [octs, List.getElem_map]
 rfl
theorem octs_range (s : ByteArray) : ∀ x ∈ octs s, 0 ≤ x ∧ x ≤ 255 := by
 intro x hx
 obtain ⟨c, _, rfl⟩ := List.mem_map.1 hx
 have := c.toNat_lt
 omega
def encL (l : List Int) : List UInt8 := l.flatMap Lib.encodeRune
theorem encL_append (a b : List Int) : encL (a ++ b) = encL a ++ encL b := by simp [encL]
theorem encL_one (r : Int) : encL [r] = Lib.encodeRune r := by simp [encL]
theorem encode_len (r : Int) : (Lib.encodeRune r).length ≤ 4 := by
 have := (Lib.encodeRuneZ_length r).2
 simpa [Lib.encodeRune] using this
theorem encode_model (r : Int) : Utf8.encode r = ⟨(Lib.encodeRune r).toArray⟩ := by
 by_cases h0 : r < 0 ∨ 1114111 < r ∨ (55296 ≤ r ∧ r ≤ 57343)
 ·have hv : Utf8.valid r = false := by
   unfold Utf8.valid
   simp
   omega
  have e : Lib.encodeRune r = [239, 191, 189] := by unfold Lib.encodeRune; rw [Lib.encodeRuneZ_bad (by omega)]; rfl
  rw [e]
  unfold Utf8.encode
  rw [hv]
  simp only [Bool.false_eq_true, if_false]
  decide +kernel
 ·obtain ⟨n, rfl⟩ := Int.eq_ofNat_of_zero_le (show 0 ≤ r by omega)
  have hv : Utf8.valid (n : Int) = true := by
   unfold Utf8.valid
   simp
   omega
  unfold Utf8.encode
  simp only [hv, if_true, Int.toNat_natCast]
  have cast : ∀ (a : Nat) (b : Int), b = (a : Int) → b.toNat.toUInt8 = UInt8.ofNat a := by rintro a b rfl; rfl
  unfold Lib.encodeRune
  by_cases h1 : n < 128
  ·rw [if_pos h1, Lib.encodeRuneZ_one (by omega) (by omega)]; rfl
  ·by_cases h2 : n < 2048
   ·rw [if_neg h1, if_pos h2, Lib.encodeRuneZ_two (by omega) (by omega)]
    simp only [List.map_cons, List.map_nil]
    rw [cast (192 + n / 64) _ (by omega), cast (128 + n % 64) _ (by omega)]
   ·by_cases h3 : n < 65536
    ·rw [if_neg h1, if_neg h2, if_pos h3, Lib.encodeRuneZ_three (by omega)]
     simp only [List.map_cons, List.map_nil]
     rw [cast (224 + n / 4096) _ (by omega), cast (128 + n / 64 % 64) _ (by omega), cast (128 + n % 64) _ (by omega)]
    ·rw [if_neg h1, if_neg h2, if_neg h3, Lib.encodeRuneZ_four (by omega) (by omega)]
     simp only [List.map_cons, List.map_nil]
     rw [cast (240 + n / 262144) _ (by omega), cast (128 + n / 4096 % 64) _ (by omega), cast (128 + n / 64 % 64) _ (by omega), cast (128 + n % 64) _ (by omega)]
def spanRows : List (Int × Int × Int) :=
 [(-2147483648, 31, 0), (127, 159, 0), (768, 879, 0), (4352, 4447, 2), (8203, 8207, 0), (11904, 12350, 2), (12353, 13311, 2), (13312, 19903, 2), (19968, 40959, 2), (40960, 42191, 2), (44032, 55203, 2), (55296, 57343, 0), (63744, 64255, 2), (65024, 65039, 0), (65072, 65135, 2), (65280, 65376, 2), (65504, 65510, 2), (127744, 128591, 2), (129280, 129535, 2), (131072, 262141, 2), (1114112, 2147483647, 0)]
def sFirst (i : Nat) : Int := (spanRows.getD i (0, 0, 0)).1
def sLast (i : Nat) : Int := (spanRows.getD i (0, 0, 0)).2.1
def sWide (i : Nat) : Int := (spanRows.getD i (0, 0, 0)).2.2
structure Spans (w : World) : Prop where
 size : 0 < w.heap.size
 first : ∀ i, i < 21 → w.cell? ⟨0, i * 3, none⟩ = some (.int .i32 (sFirst i))
 last : ∀ i, i < 21 → w.cell? ⟨0, i * 3 + 1, none⟩ = some (.int .i32 (sLast i))
 wide : ∀ i, i < 21 → w.cell? ⟨0, i * 3 + 2, none⟩ = some (.int .i64 (sWide i))
theorem Spans.below {w w' : World} {B : Nat} (h : Spans w) (hb : Below B w w') (hB : 0 < B) : Spans w' :=
 ⟨Nat.lt_of_lt_of_le h.size hb.size, fun i hi => (hb.cell (p := ⟨0, i * 3, none⟩) hB).trans (h.first i hi), fun i hi => (hb.cell (p := ⟨0, i * 3 + 1, none⟩) hB).trans (h.last i hi), fun i hi => (hb.cell (p := ⟨0, i * 3 + 2, none⟩) hB).trans (h.wide i hi)⟩
theorem Spans.drew {w : World} (h : Spans w) : Spans w.drew := ⟨h.size, h.first, h.last, h.wide⟩
theorem gSpans : Tryz.prog.globalNamed "rotulus/width.spans" = some 0 := by kernel_rfl
theorem gSpansType : (Tryz.prog.globals[0]?).map (·.type) = some 126 := by kernel_rfl
theorem cellsSpans : Tryz.prog.cellsOf 126 = 63 := by kernel_rfl
theorem cellsSpan : Tryz.prog.cellsOf 125 = 3 := by kernel_rfl
theorem cellsRune : Tryz.prog.cellsOf 21 = 1 := by kernel_rfl
theorem cellsInt : Tryz.prog.cellsOf 3 = 1 := by kernel_rfl
theorem span_cells {H : Type} {enc : TypeId × Value → H} {w : World} {base : Nat} {sp : Nat → Bool} {held : Bool} {fuel : Nat} {cs : List Value} {a b c : Int} {x : DataW H × List MemPlace}
  (h : DataW.trod enc Tryz.prog w base sp held fuel 125 cs = some x) (hx : x.1 = .agg [.lit (.int .i32 a), .lit (.int .i32 b), .lit (.int .i64 c)]) : cs = [.int .i32 a, .int .i32 b, .int .i64 c] := by
 obtain ⟨xs, m, rfl, rfl, hl, hn, hf⟩ := DataW.trod_struct Tryz.underlying125 h
 rw [cellsSpan] at hl
 match cs, hl with
 | [c0, c1, c2], _ =>
  have f0 : DataW.trod enc Tryz.prog w base sp held m 21 [c0] = xs[0]? := by have := hf 0 _ rfl; simpa [cellsRune] using this
  have f1 : DataW.trod enc Tryz.prog w base sp held m 21 [c1] = xs[1]? := by have := hf 1 _ rfl; simpa [cellsRune] using this
  have f2 : DataW.trod enc Tryz.prog w base sp held m 3 [c2] = xs[2]? := by have := hf 2 _ rfl; simpa [cellsInt] using this
  match xs, hn with
  | [x0, x1, x2], _ =>
   simp only [List.getElem?_cons_zero, List.getElem?_cons_succ] at f0 f1 f2
   obtain ⟨z0, e0, rfl, _⟩ := DataW.trod_int Tryz.underlying21 f0
   obtain ⟨z1, e1, rfl, _⟩ := DataW.trod_int Tryz.underlying21 f1
   obtain ⟨z2, e2, rfl, _⟩ := DataW.trod_int Tryz.underlying3 f2
   simp at e0 e1 e2 hx
   obtain ⟨rfl, rfl, rfl⟩ := hx
   rw [e0, e1, e2]
theorem laid_rows {H : Type} : Rows.laid_rotulus_width_spans (H := H) = .agg (spanRows.map fun x => .agg [.lit (.int .i32 x.1), .lit (.int .i32 x.2.1), .lit (.int .i64 x.2.2)]) := rfl
theorem spans_of {W : World} (h : laidMetH Tryz.prog [("rotulus/width.spans", Rows.laid_rotulus_width_spans)] W) : Spans W := by
 have h' : laidMet Tryz.prog [("rotulus/width.spans", Rows.laid_rotulus_width_spans)] W := h
 obtain ⟨ps, ⟨g', t', cs, fuel, p, q, hg', ht', hvar, hd, _, _⟩, _⟩ := h'
 obtain rfl := Option.some.inj (gSpans.symm.trans hg')
 obtain rfl := Option.some.inj (gSpansType.symm.trans ht')
 obtain ⟨xs, m, rfl, hx, hl, hn, hf⟩ := DataW.trod_array Tryz.underlying126 hd
 rw [cellsSpan] at hf
 rw [cellsSpans] at hl
 have hxs : xs.map (·.1) = spanRows.map fun x => (DataW.agg [.lit (.int .i32 x.1), .lit (.int .i32 x.2.1), .lit (.int .i64 x.2.2)] : DataW Unit) := by
  have := congrArg Prod.fst hx
  rw [laid_rows] at this
  exact (DataW.agg.inj this).symm
 have key : ∀ i, i < 21 → (cs.toList.drop (i * 3)).take 3 = [.int .i32 (sFirst i), .int .i32 (sLast i), .int .i64 (sWide i)] := by
  intro i hi
  have hr : spanRows[i]? = some (spanRows.getD i (0, 0, 0)) := by
   have : i < spanRows.length := hi
   simp [List.getD, this]
  have h1 : (xs.map (·.1))[i]? = some (DataW.agg [.lit (.int .i32 (sFirst i)), .lit (.int .i32 (sLast i)), .lit (.int .i64 (sWide i))] : DataW Unit) := by
   rw [hxs, List.getElem?_map, hr]; rfl
  have h2 := hf i hi
  rw [List.getElem?_map, Option.map_eq_some_iff] at h1
  obtain ⟨x, hx1, hx2⟩ := h1
  rw [hx1] at h2
  exact span_cells h2 hx2
 have cell : ∀ i j v, i < 21 → [Value.int .i32 (sFirst i), .int .i32 (sLast i), .int .i64 (sWide i)][j]? = some v → W.cell? ⟨0, i * 3 + j, none⟩ = some v := by
  intro i j v hi hv
  rw [World.var?_cell gSpans hvar, ← hv, ← key i hi, List.getElem?_take, ← Array.getElem?_toList]
  have hj : j < 3 := by
   by_cases hj : j < 3
   ·exact hj
   ·rw [List.getElem?_eq_none (by simp; omega)] at hv; cases hv
  rw [if_pos hj, List.getElem?_drop]
 refine ⟨World.block_lt_of_cell? W _ (cell 0 0 _ (by omega) rfl), fun i hi => cell i 0 _ hi rfl, fun i hi => cell i 1 _ hi rfl, fun i hi => cell i 2 _ hi rfl⟩
def wof (r : Int) : Int :=
 if r ≤ 31 then 0 else
 if 127 ≤ r ∧ r ≤ 159 then 0 else
 if 768 ≤ r ∧ r ≤ 879 then 0 else
 if 4352 ≤ r ∧ r ≤ 4447 then 2 else
 if 8203 ≤ r ∧ r ≤ 8207 then 0 else
 if 11904 ≤ r ∧ r ≤ 12350 then 2 else
 if 12353 ≤ r ∧ r ≤ 13311 then 2 else
 if 13312 ≤ r ∧ r ≤ 19903 then 2 else
 if 19968 ≤ r ∧ r ≤ 40959 then 2 else
 if 40960 ≤ r ∧ r ≤ 42191 then 2 else
 if 44032 ≤ r ∧ r ≤ 55203 then 2 else
 if 55296 ≤ r ∧ r ≤ 57343 then 0 else
 if 63744 ≤ r ∧ r ≤ 64255 then 2 else
 if 65024 ≤ r ∧ r ≤ 65039 then 0 else
 if 65072 ≤ r ∧ r ≤ 65135 then 2 else
 if 65280 ≤ r ∧ r ≤ 65376 then 2 else
 if 65504 ≤ r ∧ r ≤ 65510 then 2 else
 if 127744 ≤ r ∧ r ≤ 128591 then 2 else
 if 129280 ≤ r ∧ r ≤ 129535 then 2 else
 if 131072 ≤ r ∧ r ≤ 262141 then 2 else
 if 1114112 ≤ r then 0 else
 1
theorem wof_range (r : Int) : 0 ≤ wof r ∧ wof r ≤ 2 := by
 unfold wof
 repeat' split
 all_goals omega
theorem wof_miss (r : Int) (h0 : -2147483648 ≤ r) (h1 : r ≤ 2147483647) (h : ∀ i, i < 21 → sLast i < r ∨ r < sFirst i) : wof r = 1 := by
 have k : ∀ i, i < 21 → ¬ (sFirst i ≤ r ∧ r ≤ sLast i) := fun i hi e => by have := h i hi; omega
 have k0 := k 0 (by omega); have k1 := k 1 (by omega); have k2 := k 2 (by omega); have k3 := k 3 (by omega); have k4 := k 4 (by omega); have k5 := k 5 (by omega); have k6 := k 6 (by omega)
 have k7 := k 7 (by omega); have k8 := k 8 (by omega); have k9 := k 9 (by omega); have k10 := k 10 (by omega); have k11 := k 11 (by omega); have k12 := k 12 (by omega); have k13 := k 13 (by omega)
 have k14 := k 14 (by omega); have k15 := k 15 (by omega); have k16 := k 16 (by omega); have k17 := k 17 (by omega); have k18 := k 18 (by omega); have k19 := k 19 (by omega); have k20 := k 20 (by omega)
 simp only [sFirst, sLast, spanRows, List.getD_cons_zero, List.getD_cons_succ] at k0 k1 k2 k3 k4 k5 k6 k7 k8 k9 k10 k11 k12 k13 k14 k15 k16 k17 k18 k19 k20
 unfold wof
 repeat rw [if_neg (by omega)]
theorem wof_hit (r : Int) (i : Nat) (hi : i < 21) (h0 : sFirst i ≤ r) (h1 : r ≤ sLast i) : wof r = sWide i := by
 unfold wof
 match i, hi with
 | 0, _ => simp only [sFirst, sLast, spanRows, List.getD_cons_zero] at h0 h1; (repeat rw [if_neg (by omega)]); rw [if_pos (by omega)]; rfl
 | 1, _ => simp only [sFirst, sLast, spanRows, List.getD_cons_zero, List.getD_cons_succ] at h0 h1; (repeat rw [if_neg (by omega)]); rw [if_pos (by omega)]; rfl
 | 2, _ => simp only [sFirst, sLast, spanRows, List.getD_cons_zero, List.getD_cons_succ] at h0 h1; (repeat rw [if_neg (by omega)]); rw [if_pos (by omega)]; rfl
 | 3, _ => simp only [sFirst, sLast, spanRows, List.getD_cons_zero, List.getD_cons_succ] at h0 h1; (repeat rw [if_neg (by omega)]); rw [if_pos (by omega)]; rfl
 | 4, _ => simp only [sFirst, sLast, spanRows, List.getD_cons_zero, List.getD_cons_succ] at h0 h1; (repeat rw [if_neg (by omega)]); rw [if_pos (by omega)]; rfl
 | 5, _ => simp only [sFirst, sLast, spanRows, List.getD_cons_zero, List.getD_cons_succ] at h0 h1; (repeat rw [if_neg (by omega)]); rw [if_pos (by omega)]; rfl
 | 6, _ => simp only [sFirst, sLast, spanRows, List.getD_cons_zero, List.getD_cons_succ] at h0 h1; (repeat rw [if_neg (by omega)]); rw [if_pos (by omega)]; rfl
 | 7, _ => simp only [sFirst, sLast, spanRows, List.getD_cons_zero, List.getD_cons_succ] at h0 h1; (repeat rw [if_neg (by omega)]); rw [if_pos (by omega)]; rfl
 | 8, _ => simp only [sFirst, sLast, spanRows, List.getD_cons_zero, List.getD_cons_succ] at h0 h1; (repeat rw [if_neg (by omega)]); rw [if_pos (by omega)]; rfl
 | 9, _ => simp only [sFirst, sLast, spanRows, List.getD_cons_zero, List.getD_cons_succ] at h0 h1; (repeat rw [if_neg (by omega)]); rw [if_pos (by omega)]; rfl
 | 10, _ => simp only [sFirst, sLast, spanRows, List.getD_cons_zero, List.getD_cons_succ] at h0 h1; (repeat rw [if_neg (by omega)]); rw [if_pos (by omega)]; rfl
 | 11, _ => simp only [sFirst, sLast, spanRows, List.getD_cons_zero, List.getD_cons_succ] at h0 h1; (repeat rw [if_neg (by omega)]); rw [if_pos (by omega)]; rfl
 | 12, _ => simp only [sFirst, sLast, spanRows, List.getD_cons_zero, List.getD_cons_succ] at h0 h1; (repeat rw [if_neg (by omega)]); rw [if_pos (by omega)]; rfl
 | 13, _ => simp only [sFirst, sLast, spanRows, List.getD_cons_zero, List.getD_cons_succ] at h0 h1; (repeat rw [if_neg (by omega)]); rw [if_pos (by omega)]; rfl
 | 14, _ => simp only [sFirst, sLast, spanRows, List.getD_cons_zero, List.getD_cons_succ] at h0 h1; (repeat rw [if_neg (by omega)]); rw [if_pos (by omega)]; rfl
 | 15, _ => simp only [sFirst, sLast, spanRows, List.getD_cons_zero, List.getD_cons_succ] at h0 h1; (repeat rw [if_neg (by omega)]); rw [if_pos (by omega)]; rfl
 | 16, _ => simp only [sFirst, sLast, spanRows, List.getD_cons_zero, List.getD_cons_succ] at h0 h1; (repeat rw [if_neg (by omega)]); rw [if_pos (by omega)]; rfl
 | 17, _ => simp only [sFirst, sLast, spanRows, List.getD_cons_zero, List.getD_cons_succ] at h0 h1; (repeat rw [if_neg (by omega)]); rw [if_pos (by omega)]; rfl
 | 18, _ => simp only [sFirst, sLast, spanRows, List.getD_cons_zero, List.getD_cons_succ] at h0 h1; (repeat rw [if_neg (by omega)]); rw [if_pos (by omega)]; rfl
 | 19, _ => simp only [sFirst, sLast, spanRows, List.getD_cons_zero, List.getD_cons_succ] at h0 h1; (repeat rw [if_neg (by omega)]); rw [if_pos (by omega)]; rfl
 | 20, _ => simp only [sFirst, sLast, spanRows, List.getD_cons_zero, List.getD_cons_succ] at h0 h1; (repeat rw [if_neg (by omega)]); rw [if_pos (by omega)]; rfl
 | n + 21, h => omega
theorem sFirst_mono : ∀ j, j < 21 → ∀ i, i < j → sFirst i ≤ sFirst j := by decide +kernel
theorem sLast_mono : ∀ j, j < 21 → ∀ i, i < j → sLast i ≤ sLast j := by decide +kernel
end Go.Proofs.YtgcfpfhmjhkgnaaGreatDoor
namespace Go.Proofs.YtgcfpfhmjhkgnaaGreatDoor
def uintL (n : Nat) : List Int := if n < 128 then [(n : Int)] else ((n % 128 + 128 : Nat) : Int) :: uintL (n / 128)
termination_by n
decreasing_by omega
theorem uintL_small {n : Nat} (h : n < 128) : uintL n = [(n : Int)] := by rw [uintL, if_pos h]
theorem uintL_big {n : Nat} (h : ¬ n < 128) : uintL n = ((n % 128 + 128 : Nat) : Int) :: uintL (n / 128) := by rw [uintL, if_neg h]
def getGo (i acc : Nat) : List Int → Nat × Nat
 | [] => (0, 0)
 | x :: b => if 10 ≤ i then (0, 0) else if 128 ≤ x then getGo (i + 1) (acc + (x.toNat % 128) * 128 ^ i) b else if (0 < i ∧ x = 0) ∨ (i = 9 ∧ 1 < x) then (0, 0) else (acc + x.toNat * 128 ^ i, i + 1)
def getL (b : List Int) : Nat × Nat := getGo 0 0 b
theorem pow_nine {i n : Nat} (h : n * 128 ^ i < 2 ^ 64) (hn : 1 ≤ n) : i ≤ 9 := by
 rcases Nat.lt_or_ge 9 i with h9 | h9
 ·have h1 : 128 ^ 10 ≤ 128 ^ i := Nat.pow_le_pow_right (by omega) h9
  have h2 : 128 ^ i ≤ n * 128 ^ i := Nat.le_mul_of_pos_left _ hn
  have h3 : (128 : Nat) ^ 10 = 1180591620717411303424 := by decide
  have h4 : (2 : Nat) ^ 64 = 18446744073709551616 := by decide
  omega
 ·exact h9
theorem get_put : ∀ (n i acc : Nat) (m : List Int), (0 < i → 1 ≤ n) → n * 128 ^ i < 2 ^ 64 → getGo i acc (uintL n ++ m) = (acc + n * 128 ^ i, i + (uintL n).length) := by
 intro n
 induction n using Nat.strongRecOn with
 | ind n ih =>
  intro i acc m hi hn
  have hi9 : i ≤ 9 := by
   rcases Nat.eq_zero_or_pos i with h | h
   ·omega
   ·exact pow_nine hn (hi h)
  by_cases h : n < 128
  ·rw [uintL_small h]
   simp only [List.cons_append, List.nil_append, getGo]
   have hlast : i = 9 → n ≤ 1 := by
    rintro rfl
    have h3 : (128 : Nat) ^ 9 = 9223372036854775808 := by decide
    have h4 : (2 : Nat) ^ 64 = 18446744073709551616 := by decide
    omega
   rw [if_neg (by omega), if_neg (by omega), if_neg (by
    rintro (⟨h1, h2⟩ | ⟨h1, h2⟩)
    ·have := hi h1; omega
    ·have := hlast h1; omega)]
   simp
  ·rw [uintL_big h]
   simp only [List.cons_append, getGo]
   have hdiv : n / 128 * 128 + n % 128 = n := Nat.div_add_mod' n 128
   have hpow : (128 : Nat) ^ (i + 1) = 128 * 128 ^ i := by rw [Nat.pow_succ, Nat.mul_comm]
   have hle : n / 128 * 128 ^ (i + 1) ≤ n * 128 ^ i := by
    rw [hpow, ← Nat.mul_assoc]
    exact Nat.mul_le_mul_right _ (by omega)
   rw [if_neg (by omega), if_pos (by omega), ih (n / 128) (by omega) (i + 1) _ m (fun _ => by omega) (by omega)]
   have ht : (((n % 128 + 128 : Nat) : Int).toNat) % 128 = n % 128 := by
    rw [Int.toNat_natCast]; omega
   rw [ht, hpow]
   have hsum : (n % 128) * 128 ^ i + n / 128 * (128 * 128 ^ i) = n * 128 ^ i := by
    rw [← Nat.mul_assoc, ← Nat.add_mul]
    congr 1
    omega
   simp only [List.length_cons, Prod.mk.injEq]
   exact ⟨by omega, by omega⟩
theorem getL_put (n : Nat) (m : List Int) (h : n < 2 ^ 64) : getL (uintL n ++ m) = (n, (uintL n).length) := by
 unfold getL
 rw [get_put n 0 0 m (fun h => absurd h (Nat.lt_irrefl 0)) (by simpa using h)]
 simp
theorem get_some : ∀ (b : List Int) (i acc v k : Nat), (∀ x ∈ b, 0 ≤ x ∧ x ≤ 255) → getGo i acc b = (v, k) → k ≠ 0 → ∃ n, v = acc + n * 128 ^ i ∧ (0 < i → 1 ≤ n) ∧ n * 128 ^ i < 2 ^ 64 ∧ i < k ∧ k ≤ i + b.length ∧ b.take (k - i) = uintL n := by
 intro b
 induction b with
 | nil => intro i acc v k _ h hk; simp only [getGo, Prod.mk.injEq] at h; omega
 | cons x b ih =>
  intro i acc v k hb h hk
  have hx := hb x (by simp)
  unfold getGo at h
  by_cases h10 : 10 ≤ i
  ·rw [if_pos h10] at h; simp only [Prod.mk.injEq] at h; omega
  ·rw [if_neg h10] at h
   have hp : (128 : Nat) ^ i ≤ 128 ^ 9 := Nat.pow_le_pow_right (by omega) (by omega)
   have h9 : (128 : Nat) ^ 9 = 9223372036854775808 := by decide
   have h64 : (2 : Nat) ^ 64 = 18446744073709551616 := by decide
   by_cases h128 : 128 ≤ x
   ·rw [if_pos h128] at h
    obtain ⟨n, hv, hn1, hn2, hik, hkl, ht⟩ := ih (i + 1) _ v k (fun y hy => hb y (by simp [hy])) h hk
    have hn : 1 ≤ n := hn1 (by omega)
    obtain ⟨y, rfl⟩ : ∃ y : Nat, x = ((y + 128 : Nat) : Int) := ⟨(x - 128).toNat, by omega⟩
    have hy : y < 128 := by omega
    have hpow : (128 : Nat) ^ (i + 1) = 128 * 128 ^ i := by rw [Nat.pow_succ, Nat.mul_comm]
    have hyt : (((y + 128 : Nat) : Int).toNat) % 128 = y := by rw [Int.toNat_natCast]; omega
    rw [hyt] at hv
    rw [hpow] at hv hn2
    have hsum : (n * 128 + y) * 128 ^ i = n * (128 * 128 ^ i) + y * 128 ^ i := by rw [Nat.add_mul, Nat.mul_assoc]
    refine ⟨n * 128 + y, by rw [hsum]; omega, fun _ => by omega, ?_, by omega, by simp only [List.length_cons]; omega, ?_⟩
    ·rw [hsum]
     have hi9 := pow_nine (i := i + 1) (n := n) (by rw [hpow]; exact hn2) hn
     have h8 : (128 : Nat) ^ i ≤ 128 ^ 8 := Nat.pow_le_pow_right (by omega) (by omega)
     have hdvd : n * (128 * 128 ^ i) + 128 * 128 ^ i ≤ 2 ^ 64 := by
      have e : (2 : Nat) ^ 64 = (2 ^ (64 - 7 * (i + 1))) * (128 * 128 ^ i) := by
       have : (128 : Nat) * 128 ^ i = 2 ^ (7 * (i + 1)) := by rw [← hpow, show (128 : Nat) = 2 ^ 7 by decide, ← Nat.pow_mul]
       rw [this, ← Nat.pow_add]
       congr 1
       omega
      rw [e] at hn2 ⊢
      have hpos : 0 < 128 * 128 ^ i := by have := Nat.pow_pos (n := i) (show 0 < 128 by omega); omega
      have hlt : n < 2 ^ (64 - 7 * (i + 1)) := Nat.lt_of_mul_lt_mul_right hn2
      have := Nat.mul_le_mul_right (128 * 128 ^ i) (show n + 1 ≤ 2 ^ (64 - 7 * (i + 1)) by omega)
      rw [Nat.add_mul, Nat.one_mul] at this
      exact this
     have hyp : y * 128 ^ i < 128 * 128 ^ i := Nat.mul_lt_mul_of_pos_right hy (Nat.pow_pos (by omega))
     omega
    ·have e1 : k - i = (k - (i + 1)) + 1 := by omega
     rw [e1, List.take_succ_cons, ht, uintL_big (n := n * 128 + y) (by omega)]
     congr 1
     ·congr 1; omega
     ·congr 1; omega
   ·rw [if_neg h128] at h
    by_cases hbad : (0 < i ∧ x = 0) ∨ (i = 9 ∧ 1 < x)
    ·rw [if_pos hbad] at h; simp only [Prod.mk.injEq] at h; omega
    ·rw [if_neg hbad] at h
     simp only [Prod.mk.injEq] at h
     obtain ⟨rfl, rfl⟩ := h
     obtain ⟨y, rfl⟩ : ∃ y : Nat, x = (y : Int) := ⟨x.toNat, by omega⟩
     refine ⟨y, by simp, fun hi => ?_, ?_, by omega, by simp only [List.length_cons]; omega, ?_⟩
     ·rcases Nat.eq_zero_or_pos y with h0 | h0
      ·exact absurd (.inl ⟨hi, by omega⟩) hbad
      ·exact h0
     ·by_cases hi9 : i = 9
      ·subst hi9
       have : y ≤ 1 := by
        rcases Nat.lt_or_ge 1 y with h1 | h1
        ·exact absurd (.inr ⟨rfl, by omega⟩) hbad
        ·exact h1
       have := Nat.mul_le_mul_right (128 ^ 9) this
       omega
      ·have h8 : (128 : Nat) ^ i ≤ 128 ^ 8 := Nat.pow_le_pow_right (by omega) (by omega)
       have h88 : (128 : Nat) ^ 8 = 72057594037927936 := by decide
       have := Nat.mul_le_mul (show y ≤ 127 by omega) h8
       omega
     ·rw [show i + 1 - i = 1 by omega, uintL_small (by omega)]
      simp
theorem getL_some {b : List Int} {v k : Nat} (hb : ∀ x ∈ b, 0 ≤ x ∧ x ≤ 255) (h : getL b = (v, k)) (hk : k ≠ 0) : v < 2 ^ 64 ∧ 1 ≤ k ∧ k ≤ b.length ∧ b.take k = uintL v := by
 obtain ⟨n, h1, _, h3, h4, h5, h6⟩ := get_some b 0 0 v k hb h hk
 simp at h1 h3 h5 h6
 subst h1
 exact ⟨h3, by omega, by omega, h6⟩
/-! How long a number is. -/
theorem uintL_pos (n : Nat) : 1 ≤ (uintL n).length := by
 by_cases h : n < 128
 ·rw [uintL_small h]; simp
 ·rw [uintL_big h]; simp
theorem uintL_mono : ∀ (a b : Nat), a ≤ b → (uintL a).length ≤ (uintL b).length := by
 intro a
 induction a using Nat.strongRecOn with
 | ind a ih =>
  intro b hab
  by_cases h : a < 128
  ·rw [uintL_small h]; exact uintL_pos b
  ·rw [uintL_big h, uintL_big (n := b) (by omega)]
   have := ih (a / 128) (by omega) (b / 128) (Nat.div_le_div_right hab)
   simp only [List.length_cons]
   omega
theorem uintL_len {n : Nat} (h : n < 2 ^ 64) : (uintL n).length ≤ 10 := by
 have e : (uintL (2 ^ 64 - 1)).length = 10 := by
  simp only [show (2 : Nat) ^ 64 - 1 = 18446744073709551615 by decide]
  rw [uintL_big (by decide), uintL_big (by decide), uintL_big (by decide), uintL_big (by decide), uintL_big (by decide), uintL_big (by decide), uintL_big (by decide), uintL_big (by decide), uintL_big (by decide), uintL_small (by decide)]
  rfl
 have := uintL_mono n (2 ^ 64 - 1) (by omega)
 omega
theorem uintL_bytes : ∀ (n : Nat), ∀ x ∈ uintL n, 0 ≤ x ∧ x ≤ 255 := by
 intro n
 induction n using Nat.strongRecOn with
 | ind n ih =>
  by_cases h : n < 128
  ·rw [uintL_small h]; intro x hx; simp at hx; omega
  ·rw [uintL_big h]
   intro x hx
   rcases List.mem_cons.1 hx with rfl | hx
   ·omega
   ·exact ih (n / 128) (by omega) x hx
/-! Runs of alike things. -/
section
variable {C : Type} [DecidableEq C]
def runsOf : List C → List (Nat × C)
 | [] => []
 | c :: l => match runsOf l with
  | [] => [(1, c)]
  | (n, d) :: rs => if c = d then (n + 1, d) :: rs else (1, c) :: (n, d) :: rs
def unrun (rs : List (Nat × C)) : List C := rs.flatMap fun x => List.replicate x.1 x.2
def Alt : List (Nat × C) → Prop
 | [] => True
 | [x] => 1 ≤ x.1
 | x :: y :: rs => 1 ≤ x.1 ∧ x.2 ≠ y.2 ∧ Alt (y :: rs)
theorem runsOf_alt (l : List C) : Alt (runsOf l) := by
 induction l with
 | nil => trivial
 | cons c l ih =>
  unfold runsOf
  cases h : runsOf l with
  | nil => simp [Alt]
  | cons x rs =>
   obtain ⟨n, d⟩ := x
   rw [h] at ih
   simp only
   by_cases e : c = d
   ·rw [if_pos e]
    cases rs with
    | nil => simp [Alt]
    | cons y rs => exact ⟨by simp, ih.2.1, ih.2.2⟩
   ·rw [if_neg e]
    exact ⟨by simp, e, ih⟩
theorem unrun_runs (l : List C) : unrun (runsOf l) = l := by
 induction l with
 | nil => rfl
 | cons c l ih =>
  unfold runsOf
  cases h : runsOf l with
  | nil =>
   rw [h] at ih
   have : l = [] := by rw [← ih]; rfl
   subst this
   rfl
  | cons x rs =>
   obtain ⟨n, d⟩ := x
   rw [h] at ih
   simp only
   by_cases e : c = d
   ·rw [if_pos e]
    subst e
    rw [← ih]
    simp [unrun, List.replicate_succ]
   ·rw [if_neg e]
    rw [← ih]
    simp [unrun]
theorem runs_cons_same (c : C) (n : Nat) (l : List C) (rs : List (Nat × C)) (h : runsOf l = (n, c) :: rs) : runsOf (c :: l) = (n + 1, c) :: rs := by
 conv => lhs; unfold runsOf
 rw [h]
 simp
theorem runs_replicate (c : C) (n : Nat) (l : List C) (rs : List (Nat × C)) (h : runsOf l = rs) (hne : ∀ x ys, rs = x :: ys → c ≠ x.2) : runsOf (List.replicate (n + 1) c ++ l) = (n + 1, c) :: rs := by
 induction n with
 | zero =>
  simp only [Nat.zero_add, List.replicate_one, List.cons_append, List.nil_append]
  conv => lhs; unfold runsOf
  rw [h]
  cases rs with
  | nil => rfl
  | cons x ys =>
   obtain ⟨m, d⟩ := x
   simp only
   rw [if_neg (hne _ _ rfl)]
 | succ n ih =>
  rw [List.replicate_succ, List.cons_append]
  exact runs_cons_same c (n + 1) _ rs ih
theorem runs_unrun : ∀ (rs : List (Nat × C)), Alt rs → runsOf (unrun rs) = rs
 | [], _ => rfl
 | [x], h => by
  obtain ⟨n, c⟩ := x
  obtain ⟨m, rfl⟩ : ∃ m, n = m + 1 := ⟨n - 1, by have : 1 ≤ n := h; omega⟩
  have := runs_replicate c m [] [] rfl (fun x ys e => by cases e)
  simpa [unrun] using this
 | x :: y :: rs, h => by
  obtain ⟨n, c⟩ := x
  obtain ⟨h1, h2, h3⟩ := h
  obtain ⟨m, rfl⟩ : ∃ m, n = m + 1 := ⟨n - 1, by have : 1 ≤ n := h1; omega⟩
  have ih := runs_unrun (y :: rs) h3
  have := runs_replicate c m (unrun (y :: rs)) (y :: rs) ih (fun x ys e => by injection e with e1 e2; rw [← e1]; exact h2)
  have e : unrun ((m + 1, c) :: y :: rs) = List.replicate (m + 1) c ++ unrun (y :: rs) := by simp [unrun]
  rw [e]
  exact this
end
end Go.Proofs.YtgcfpfhmjhkgnaaGreatDoor
namespace Go.Proofs.YtgcfpfhmjhkgnaaGreatDoor
abbrev Cel := Int × Int × Int
def Small (c : Cel) : Prop := (0 ≤ c.1 ∧ c.1 ≤ 1114111) ∧ (0 ≤ c.2.1 ∧ c.2.1 ≤ 2) ∧ (0 ≤ c.2.2 ∧ c.2.2 ≤ 255)
def runBytes (x : Nat × Cel) : List Int := uintL x.1 ++ (uintL x.2.1.toNat ++ (uintL x.2.2.1.toNat ++ uintL x.2.2.2.toNat))
def headOf (wrap : Bool) (n : Nat) : Nat := 2 * n + if wrap then 1 else 0
def putL (wrap : Bool) (l : List Cel) : List Int := uintL (headOf wrap (runsOf l).length) ++ (runsOf l).flatMap runBytes
def numL (most : Nat) (b : List Int) : Option (Nat × List Int) := if (getL b).2 = 0 ∨ most < (getL b).1 then none else some ((getL b).1, b.drop (getL b).2)
def runL (room : Nat) (b : List Int) : Option ((Nat × Cel) × List Int) :=
 (numL room b).bind fun x => if x.1 = 0 then none else (numL 1114111 x.2).bind fun r => (numL 2 r.2).bind fun w => (numL 255 w.2).bind fun a => some ((x.1, ((r.1 : Int), (w.1 : Int), (a.1 : Int))), a.2)
def runsL : Nat → List Cel → List Int → Option (List Cel × List Int)
 | 0, l, b => some (l, b)
 | k + 1, l, b => (runL (300 - l.length) b).bind fun x => if l.getLast? = some x.1.2 then none else runsL k (l ++ List.replicate x.1.1 x.1.2) x.2
def getR (may : List Cel → Bool) (b : List Int) : Option (Bool × List Cel × Nat) :=
 (numL 601 b).bind fun h => (runsL (h.1 / 2) [] h.2).bind fun x => if may x.1 then some (h.1 % 2 == 1, x.1, b.length - x.2.length) else none
theorem numL_put {n most : Nat} (m : List Int) (h : n ≤ most) (hm : most < 2 ^ 64) : numL most (uintL n ++ m) = some (n, m) := by
 have e := getL_put n m (by omega)
 have hp := uintL_pos n
 unfold numL
 rw [e]
 simp only
 rw [if_neg (by omega)]
 simp
theorem runL_put {room n : Nat} {c : Cel} (m : List Int) (hc : Small c) (h1 : 1 ≤ n) (hn : n ≤ room) (hr : room ≤ 300) : runL room (runBytes (n, c) ++ m) = some ((n, c), m) := by
 obtain ⟨r, w, a⟩ := c
 obtain ⟨⟨r0, r1⟩, ⟨w0, w1⟩, a0, a1⟩ := hc
 simp only at r0 r1 w0 w1 a0 a1
 obtain ⟨r, rfl⟩ := Int.eq_ofNat_of_zero_le r0
 obtain ⟨w, rfl⟩ := Int.eq_ofNat_of_zero_le w0
 obtain ⟨a, rfl⟩ := Int.eq_ofNat_of_zero_le a0
 unfold runL runBytes
 simp only [List.append_assoc, Int.toNat_natCast]
 rw [numL_put _ hn (by omega)]
 simp only [Option.bind_some]
 rw [if_neg (by omega), numL_put _ (by omega) (by omega)]
 simp only [Option.bind_some]
 rw [numL_put _ (by omega) (by omega)]
 simp only [Option.bind_some]
 rw [numL_put _ (by omega) (by omega)]
 rfl
theorem alt_tail {x : Nat × Cel} {rs : List (Nat × Cel)} (h : Alt (x :: rs)) : 1 ≤ x.1 ∧ Alt rs ∧ ∀ y ys, rs = y :: ys → x.2 ≠ y.2 := by
 cases rs with
 | nil => exact ⟨h, trivial, fun y ys e => by cases e⟩
 | cons y ys => exact ⟨h.1, h.2.2, fun z zs e => by injection e with e1 e2; rw [← e1]; exact h.2.1⟩
theorem unrun_cons (x : Nat × Cel) (rs : List (Nat × Cel)) : unrun (x :: rs) = List.replicate x.1 x.2 ++ unrun rs := by simp [unrun]
theorem getLast_replicate {l : List Cel} {n : Nat} {c : Cel} (h : 1 ≤ n) : (l ++ List.replicate n c).getLast? = some c := by
 obtain ⟨m, rfl⟩ : ∃ m, n = m + 1 := ⟨n - 1, by omega⟩
 rw [List.replicate_succ', ← List.append_assoc]
 simp
theorem runsL_put : ∀ (rs : List (Nat × Cel)) (l : List Cel) (m : List Int), Alt rs → (∀ x ∈ rs, Small x.2) → l.length + (unrun rs).length ≤ 300 → (∀ x xs, rs = x :: xs → l.getLast? ≠ some x.2) →
  runsL rs.length l (rs.flatMap runBytes ++ m) = some (l ++ unrun rs, m)
 | [], l, m, _, _, _, _ => by simp [runsL, unrun]
 | x :: rs, l, m, ha, hs, hl, hlast => by
  obtain ⟨h1, h2, h3⟩ := alt_tail ha
  rw [unrun_cons, List.length_append, List.length_replicate] at hl
  simp only [List.length_cons, runsL, List.flatMap_cons, List.append_assoc]
  rw [show runBytes x = runBytes (x.1, x.2) from rfl, runL_put _ (hs x (by simp)) h1 (by omega) (by omega)]
  simp only [Option.bind_some]
  rw [if_neg (hlast x rs rfl), runsL_put rs (l ++ List.replicate x.1 x.2) m h2 (fun y hy => hs y (by simp [hy])) (by rw [List.length_append, List.length_replicate]; omega) (fun y ys e => by
   rw [getLast_replicate h1]
   intro k
   exact h3 y ys e (by injection k))]
  rw [unrun_cons, List.append_assoc]
theorem mem_unrun {rs : List (Nat × Cel)} (h : Alt rs) {x : Nat × Cel} (hx : x ∈ rs) : x.2 ∈ unrun rs := by
 induction rs with
 | nil => cases hx
 | cons y rs ih =>
  obtain ⟨h1, h2, _⟩ := alt_tail h
  rw [unrun_cons, List.mem_append]
  rcases List.mem_cons.1 hx with rfl | hx
  ·left; rw [List.mem_replicate]; exact ⟨by omega, rfl⟩
  ·right; exact ih h2 hx
theorem runs_length (l : List Cel) : (runsOf l).length ≤ l.length := by
 have key : ∀ rs : List (Nat × Cel), Alt rs → rs.length ≤ (unrun rs).length := by
  intro rs
  induction rs with
  | nil => intro _; simp [unrun]
  | cons x rs ih =>
   intro h
   obtain ⟨h1, h2, _⟩ := alt_tail h
   have := ih h2
   rw [unrun_cons, List.length_append, List.length_replicate, List.length_cons]
   omega
 have := key _ (runsOf_alt l)
 rw [unrun_runs] at this
 exact this
theorem head_two (wrap : Bool) (n : Nat) : headOf wrap n / 2 = n ∧ (headOf wrap n % 2 == 1) = wrap := by
 unfold headOf
 cases wrap
 ·simp
 ·simp; omega
theorem getR_put {may : List Cel → Bool} {wrap : Bool} {l : List Cel} (m : List Int) (hm : may l = true) (hs : ∀ c ∈ l, Small c) (hl : l.length ≤ 300) : getR may (putL wrap l ++ m) = some (wrap, l, (putL wrap l).length) := by
 have hrl := runs_length l
 have ha := runsOf_alt l
 have hu := unrun_runs l
 have hh : headOf wrap (runsOf l).length ≤ 601 := by unfold headOf; split <;> omega
 unfold getR putL
 rw [List.append_assoc, numL_put _ hh (by omega)]
 simp only [Option.bind_some]
 rw [(head_two wrap _).1, (head_two wrap _).2, runsL_put (runsOf l) [] m ha (fun x hx => hs _ (by rw [← hu]; exact mem_unrun ha hx)) (by rw [hu]; simpa using hl) (fun x xs _ => by simp)]
 simp only [Option.bind_some, List.nil_append, hu]
 rw [if_pos hm]
 simp only [Option.some.injEq, Prod.mk.injEq, true_and, List.length_append]
 omega
theorem numL_some {most : Nat} {b m : List Int} {n : Nat} (hb : ∀ x ∈ b, 0 ≤ x ∧ x ≤ 255) (h : numL most b = some (n, m)) : n ≤ most ∧ b = uintL n ++ m := by
 unfold numL at h
 by_cases hc : (getL b).2 = 0 ∨ most < (getL b).1
 ·rw [if_pos hc] at h; cases h
 ·rw [if_neg hc] at h
  simp only [Option.some.injEq, Prod.mk.injEq] at h
  obtain ⟨rfl, rfl⟩ := h
  obtain ⟨_, _, _, h4⟩ := getL_some hb (show getL b = ((getL b).1, (getL b).2) from rfl) (by omega)
  refine ⟨by omega, ?_⟩
  rw [← h4, List.take_append_drop]
theorem bytes_tail {a m : List Int} (h : ∀ x ∈ a ++ m, 0 ≤ x ∧ x ≤ 255) : ∀ x ∈ m, 0 ≤ x ∧ x ≤ 255 := fun x hx => h x (by simp [hx])
theorem runL_some {room : Nat} {b m : List Int} {x : Nat × Cel} (hb : ∀ y ∈ b, 0 ≤ y ∧ y ≤ 255) (h : runL room b = some (x, m)) : 1 ≤ x.1 ∧ x.1 ≤ room ∧ Small x.2 ∧ b = runBytes x ++ m := by
 unfold runL at h
 rw [Option.bind_eq_some_iff] at h
 obtain ⟨⟨n, b1⟩, h1, h⟩ := h
 obtain ⟨n1, rfl⟩ := numL_some hb h1
 simp only at h
 by_cases h0 : n = 0
 ·rw [if_pos h0] at h; cases h
 ·rw [if_neg h0, Option.bind_eq_some_iff] at h
  obtain ⟨⟨r, b2⟩, h2, h⟩ := h
  obtain ⟨r1, rfl⟩ := numL_some (bytes_tail hb) h2
  simp only at h
  rw [Option.bind_eq_some_iff] at h
  obtain ⟨⟨w, b3⟩, h3, h⟩ := h
  obtain ⟨w1, rfl⟩ := numL_some (bytes_tail (bytes_tail hb)) h3
  simp only at h
  rw [Option.bind_eq_some_iff] at h
  obtain ⟨⟨a, b4⟩, h4, h⟩ := h
  obtain ⟨a1, rfl⟩ := numL_some (bytes_tail (bytes_tail (bytes_tail hb))) h4
  simp only [Option.some.injEq, Prod.mk.injEq] at h
  obtain ⟨rfl, rfl⟩ := h
  refine ⟨by simp only; omega, n1, ⟨⟨by simp only; omega, by simp only; omega⟩, ⟨by simp only; omega, by simp only; omega⟩, by simp only; omega, by simp only; omega⟩, ?_⟩
  simp [runBytes]
/-! Which rows may be. -/
def mayB (c : Cel) : Bool := decide (0 ≤ c.2.2) && decide (c.2.2 ≤ 255) && (c == (0, 1, 0) || (c.2.1 == 0 && c.1 == 0) || (decide (0 < c.2.1) && c.2.1 == wof c.1))
def mayGo : Cel → List Cel → Bool
 | p, [] => !(p.2.1 == 2)
 | p, c :: l => mayB c && ((p.2.1 == 2) == (c.2.1 == 0)) && (!(c.2.1 == 0) || c.2.2 == p.2.2) && mayGo c l
def mayL (l : List Cel) : Bool := decide (l.length ≤ 300) && mayGo (32, 1, 0) l
theorem wof_small {r : Int} (h1 : r ≤ 2147483647) (h : 0 < wof r) : 0 ≤ r ∧ r ≤ 1114111 := by
 have h0 : ¬ r ≤ 31 := fun e => by unfold wof at h; rw [if_pos e] at h; omega
 refine ⟨by omega, ?_⟩
 by_cases hr : 1114111 < r
 ·have e : wof r = 0 := wof_hit r 20 (by omega) (by show (1114112 : Int) ≤ r; omega) (by show r ≤ (2147483647 : Int); omega)
  omega
 ·omega
theorem mayB_small {c : Cel} (hr : c.1 ≤ 2147483647) (h : mayB c = true) : Small c := by
 obtain ⟨r, w, a⟩ := c
 simp only [mayB, Bool.and_eq_true, Bool.or_eq_true, decide_eq_true_eq, beq_iff_eq, Prod.mk.injEq] at h hr
 obtain ⟨⟨a0, a1⟩, h⟩ := h
 have hw := wof_range r
 rcases h with (⟨rfl, rfl, rfl⟩ | ⟨rfl, rfl⟩) | ⟨hp, e⟩
 ·exact ⟨⟨by simp, by simp⟩, ⟨by simp, by simp⟩, by simp, by simp⟩
 ·exact ⟨⟨by simp, by simp⟩, ⟨by simp, by simp⟩, a0, a1⟩
 ·have := wof_small hr (show 0 < wof r by omega)
  exact ⟨this, ⟨by simp only; omega, by simp only; omega⟩, a0, a1⟩
theorem mayGo_each : ∀ (l : List Cel) (p : Cel), mayGo p l = true → ∀ c ∈ l, mayB c = true
 | [], _, _, c, hc => by cases hc
 | d :: l, p, h, c, hc => by
  simp only [mayGo, Bool.and_eq_true] at h
  rcases List.mem_cons.1 hc with rfl | hc
  ·exact h.1.1.1
  ·exact mayGo_each l d h.2 c hc
theorem mayL_small {l : List Cel} (hr : ∀ c ∈ l, c.1 ≤ 2147483647) (h : mayL l = true) : l.length ≤ 300 ∧ ∀ c ∈ l, Small c := by
 simp only [mayL, Bool.and_eq_true, decide_eq_true_eq] at h
 exact ⟨h.1, fun c hc => mayB_small (hr c hc) (mayGo_each l _ h.2 c hc)⟩
end Go.Proofs.YtgcfpfhmjhkgnaaGreatDoor
namespace Go.Proofs.YtgcfpfhmjhkgnaaGreatDoor
section
variable {C : Type}
theorem alt_snoc : ∀ (rs : List (Nat × C)) (x : Nat × C), Alt rs → 1 ≤ x.1 → (∀ y, rs.getLast? = some y → y.2 ≠ x.2) → Alt (rs ++ [x])
 | [], _, _, h, _ => h
 | [y], _, h0, h, hn => ⟨h0, hn y rfl, h⟩
 | _ :: z :: rs, x, h0, h, hn => ⟨h0.1, h0.2.1, alt_snoc (z :: rs) x h0.2.2 h (fun u hu => hn u (by simpa using hu))⟩
theorem alt_bump : ∀ (rs : List (Nat × C)) (n : Nat) (c : C), Alt (rs ++ [(n, c)]) → Alt (rs ++ [(n + 1, c)])
 | [], _, _, _ => by simp [Alt]
 | [_], n, c, h => ⟨h.1, h.2.1, by simp [Alt]⟩
 | _ :: z :: rs, n, c, h => ⟨h.1, h.2.1, alt_bump (z :: rs) n c h.2.2⟩
theorem alt_last : ∀ (rs : List (Nat × C)) (x : Nat × C), Alt (rs ++ [x]) → 1 ≤ x.1
 | [], _, h => h
 | [_], _, h => h.2.2
 | _ :: z :: rs, x, h => alt_last (z :: rs) x h.2.2
theorem unrun_snoc (rs : List (Nat × C)) (x : Nat × C) : unrun (rs ++ [x]) = unrun rs ++ List.replicate x.1 x.2 := by simp [unrun]
theorem unrun_last {rs : List (Nat × C)} {x : Nat × C} (h : Alt (rs ++ [x])) : (unrun (rs ++ [x])).getLast? = some x.2 := by
 have h1 := alt_last rs x h
 obtain ⟨m, hm⟩ : ∃ m, x.1 = m + 1 := ⟨x.1 - 1, by omega⟩
 rw [unrun_snoc, hm, List.replicate_succ', ← List.append_assoc]
 simp
variable [DecidableEq C]
theorem runs_same {l : List C} {c : C} (h : l.getLast? = some c) : ∃ rs n, runsOf l = rs ++ [(n, c)] ∧ runsOf (l ++ [c]) = rs ++ [(n + 1, c)] := by
 have ha := runsOf_alt l
 have hu := unrun_runs l
 rcases List.eq_nil_or_concat (runsOf l) with e | ⟨rs, x, e⟩
 ·rw [e] at hu
  have : l = [] := by rw [← hu]; rfl
  subst this
  simp at h
 ·rw [List.concat_eq_append] at e
  rw [e] at ha hu
  have hx := unrun_last ha
  rw [hu, h] at hx
  obtain ⟨n, d⟩ := x
  simp only [Option.some.injEq] at hx
  subst hx
  refine ⟨rs, n, e, ?_⟩
  have h2 := runs_unrun _ (alt_bump rs n c ha)
  have h3 : unrun (rs ++ [(n + 1, c)]) = l ++ [c] := by
   rw [← hu, unrun_snoc, unrun_snoc, List.append_assoc]
   simp only
   rw [List.replicate_succ']
  rw [h3] at h2
  exact h2
theorem runs_other {l : List C} {c : C} (h : l.getLast? ≠ some c) : runsOf (l ++ [c]) = runsOf l ++ [(1, c)] := by
 have ha := runsOf_alt l
 have hu := unrun_runs l
 have h1 : Alt (runsOf l ++ [(1, c)]) := by
  refine alt_snoc _ _ ha (Nat.le_refl _) (fun y hy e => ?_)
  rcases List.eq_nil_or_concat (runsOf l) with e' | ⟨rs, x, e'⟩
  ·rw [e'] at hy; cases hy
  ·rw [List.concat_eq_append] at e'
   rw [e'] at hy ha hu
   have hx := unrun_last ha
   rw [hu] at hx
   simp at hy
   subst hy
   exact h (by rw [hx, e])
 have h2 := runs_unrun _ h1
 have h3 : unrun (runsOf l ++ [(1, c)]) = l ++ [c] := by rw [unrun_snoc, hu]; rfl
 rw [h3] at h2
 exact h2
end
end Go.Proofs.YtgcfpfhmjhkgnaaGreatDoor
namespace Go.Proofs.YtgcfpfhmjhkgnaaGreatDoor
open Go.ChangeShapes Go.WideShapes Go.ChangeAt Go.RowKit
theorem of_walk (r : Int) (hr0 : -2147483648 ≤ r) (hr1 : r ≤ 2147483647) (w : World) (hs : Spans w) :
  Calls Tryz.prog 70 #[.int .i32 r] w fun e w' => e = .returned (.int .i64 (wof r)) ∧ w = w' := by
 have hf := hs.first
 have hl := hs.last
 have hw := hs.wide
 clear hs
 go_enter Tryz.func70, Tryz.ntmps70
 go_wp2
 go_loop [3, 4] (fun lo hi => ∃ l h : Nat, l ≤ h ∧ h ≤ 21 ∧ lo = .int .i64 l ∧ hi = .int .i64 h ∧ (∀ i, i < l → sLast i < r) ∧ (∀ i, h ≤ i → i < 21 → r < sFirst i)) (fun lo hi => (intOf hi - intOf lo).toNat)
 case atStart => exact ⟨0, 21, by omega, by omega, rfl, rfl, fun i hi => by omega, fun i h1 h2 => by omega⟩
 case round =>
  obtain ⟨l, h, hlh, h21, rfl, rfl, hlo, hhi⟩ := hrel
  by_cases hlt : l < h
  ·have f1 := hf ((l + h) / 2) (by omega)
   have l1 := hl ((l + h) / 2) (by omega)
   have w1 := hw ((l + h) / 2) (by omega)
   have hit := wof_hit r ((l + h) / 2) (by omega)
   have LO := Lib.hid hlo
   have HI := Lib.hid hhi
   have HIT := Lib.hid hit
   clear hlo hhi hf hl hw hit
   by_cases c1 : r < sFirst ((l + h) / 2)
   ·go_wp2
    go_round
    case rel => exact ⟨l, (l + h) / 2, by omega, by omega, rfl, by go_num, LO.out, fun i h1 h2 => (Nat.lt_or_eq_of_le h1).elim (fun h3 => Int.lt_of_lt_of_le c1 (sFirst_mono i h2 _ h3)) (fun h3 => h3 ▸ c1)⟩
    case measure => simp [intOf]; omega
   ·by_cases c2 : sLast ((l + h) / 2) < r
    ·go_wp2
     go_round
     case rel => exact ⟨(l + h) / 2 + 1, h, by omega, by omega, by go_num, rfl, fun i h1 => (Nat.lt_or_eq_of_le (Nat.le_of_lt_succ h1)).elim (fun h3 => Int.lt_of_le_of_lt (sLast_mono _ (by omega) i h3) c2) (fun h3 => h3 ▸ c2), HI.out⟩
     case measure => simp [intOf]; omega
    ·go_wp2
     go_ret
     exact ⟨ret_int (HIT.out (by omega) (by omega)).symm, rfl⟩
  ·have M := Lib.hid (wof_miss r hr0 hr1 (fun i hi => by
    by_cases c : i < l
    ·exact Or.inl (hlo i c)
    ·exact Or.inr (hhi i (by omega) hi)))
   clear hlo hhi hf hl hw
   go_wp2
   go_ret
   exact ⟨ret_int M.out.symm, rfl⟩
abbrev cellV (r w a : Int) : Value := .agg #[.int .i32 r, .int .i64 w, .int .i64 a]
theorem blank_walk (w : World) : Calls Tryz.prog 63 #[] w fun e w' => e = .returned (cellV 32 1 0) ∧ Below w.heap.size w w' := by
 go_enter Tryz.func63, Tryz.ntmps63
 go_wp2
 exact bodyPost_ret (v := cellV 32 1 0) (by simp [results, Tryz.results63, go_sem]) rfl ⟨rfl, (Below.refl _ _).alloc (Nat.le_refl _) _⟩
theorem pad_walk (w : World) : Calls Tryz.prog 105 #[] w fun e w' => e = .returned (cellV 0 1 0) ∧ Below w.heap.size w w' := by
 go_enter Tryz.func105, Tryz.ntmps105
 go_wp2
 exact bodyPost_ret (v := cellV 0 1 0) (by simp [results, Tryz.results105, go_sem]) rfl ⟨rfl, (Below.refl _ _).alloc (Nat.le_refl _) _⟩
def isB (c r n a : Int) : Bool := r == c && n == 1 && a == 0
theorem isBlank_walk (r n a : Int) (w : World) : Calls Tryz.prog 103 #[cellV r n a] w fun e w' => e = .returned (.bool (isB 32 r n a)) ∧ Below w.heap.size w w' := by
 cases h1 : (r == 32) <;> cases h2 : (n == 1) <;> cases h3 : (a == 0)
 all_goals
  obtain ⟨B, hB⟩ : ∃ B, isB 32 r n a = B := ⟨_, rfl⟩
  rw [hB]
  unfold isB at hB
  rw [h1, h2, h3] at hB
  obtain rfl := hB
  go_enter Tryz.func103, Tryz.ntmps103
  go_wp2
  go_region_with ((go_at_call 63; refine (blank_walk _).mono ?_; rintro e w' ⟨rfl, hb⟩; have k0 : w'.cell? ⟨w.heap.size, 0, none⟩ = some (.int .i32 r) := (hb.cell (p := ⟨w.heap.size, 0, none⟩) (by simp)).trans (by simp); have k1 : w'.cell? ⟨w.heap.size, 1, none⟩ = some (.int .i64 n) := (hb.cell (p := ⟨w.heap.size, 1, none⟩) (by simp)).trans (by simp); have k2 : w'.cell? ⟨w.heap.size, 2, none⟩ = some (.int .i64 a) := (hb.cell (p := ⟨w.heap.size, 2, none⟩) (by simp)).trans (by simp)))
  all_goals go_wp2
  all_goals go_ret
  all_goals
   have hb' := hb.mono (B' := w.heap.size) (by simp)
   first
    | exact ⟨rfl, (((Below.refl _ _).alloc (Nat.le_refl _) _).drew).trans hb'⟩
    | exact ⟨rfl, ((((Below.refl _ _).alloc (Nat.le_refl _) _).drew).trans hb').drew⟩
    | exact ⟨rfl, ((Below.refl _ _).alloc (Nat.le_refl _) _).trans hb'⟩
theorem isPad_walk (r n a : Int) (w : World) : Calls Tryz.prog 65 #[cellV r n a] w fun e w' => e = .returned (.bool (isB 0 r n a)) ∧ Below w.heap.size w w' := by
 cases h1 : (r == 0) <;> cases h2 : (n == 1) <;> cases h3 : (a == 0)
 all_goals
  obtain ⟨B, hB⟩ : ∃ B, isB 0 r n a = B := ⟨_, rfl⟩
  rw [hB]
  unfold isB at hB
  rw [h1, h2, h3] at hB
  obtain rfl := hB
  go_enter Tryz.func65, Tryz.ntmps65
  go_wp2
  go_region_with ((go_at_call 105; refine (pad_walk _).mono ?_; rintro e w' ⟨rfl, hb⟩; have k0 : w'.cell? ⟨w.heap.size, 0, none⟩ = some (.int .i32 r) := (hb.cell (p := ⟨w.heap.size, 0, none⟩) (by simp)).trans (by simp); have k1 : w'.cell? ⟨w.heap.size, 1, none⟩ = some (.int .i64 n) := (hb.cell (p := ⟨w.heap.size, 1, none⟩) (by simp)).trans (by simp); have k2 : w'.cell? ⟨w.heap.size, 2, none⟩ = some (.int .i64 a) := (hb.cell (p := ⟨w.heap.size, 2, none⟩) (by simp)).trans (by simp)))
  all_goals go_wp2
  all_goals go_ret
  all_goals
   have hb' := hb.mono (B' := w.heap.size) (by simp)
   first
    | exact ⟨rfl, (((Below.refl _ _).alloc (Nat.le_refl _) _).drew).trans hb'⟩
    | exact ⟨rfl, ((((Below.refl _ _).alloc (Nat.le_refl _) _).drew).trans hb').drew⟩
    | exact ⟨rfl, ((Below.refl _ _).alloc (Nat.le_refl _) _).trans hb'⟩
end Go.Proofs.YtgcfpfhmjhkgnaaGreatDoor
namespace Go.Proofs.YtgcfpfhmjhkgnaaGreatDoor
structure St where
  sign : Int
  waits : Int
  missing : Int
  low : Int
  high : Int
def st0 : St := ⟨0, 0, 0, 0, 0⟩
def brk (st : St) : List Int := if st.waits = 0 then [] else [65533]
def fol (b : Int) : Int × Int × Int :=
  if b < 194 then (0, 0, 0) else if b < 224 then (1, 128, 191) else if b = 224 then (2, 160, 191) else if b = 237 then (2, 128, 159)
  else if b < 240 then (2, 128, 191) else if b = 240 then (3, 144, 191) else if b < 244 then (3, 128, 191) else if b = 244 then (3, 128, 143) else (0, 0, 0)
def lead (b m : Int) : Int := if m = 1 then b % 32 else if m = 2 then b % 16 else b % 8
def begS (b : Int) : St := if b < 128 then st0 else if (fol b).1 = 0 then st0 else ⟨lead b (fol b).1, 1, (fol b).1, (fol b).2.1, (fol b).2.2⟩
def begO (b : Int) : List Int := if b < 128 then [b] else if (fol b).1 = 0 then [65533] else []
def onS (st : St) (b : Int) : St := if st.missing = 1 then st0 else ⟨st.sign * 64 + b % 64, st.waits + 1, st.missing - 1, 128, 191⟩
def onO (st : St) (b : Int) : List Int := if st.missing = 1 then [st.sign * 64 + b % 64] else []
def goes (st : St) (b : Int) : Prop := 0 < st.waits ∧ st.low ≤ b ∧ b ≤ st.high
instance (st : St) (b : Int) : Decidable (goes st b) := by unfold goes; exact inferInstance
def stS (st : St) (b : Int) : St := if goes st b then onS st b else begS b
def stO (st : St) (b : Int) : List Int := if goes st b then onO st b else brk st ++ begO b
structure St.ok (st : St) : Prop where
  zero : st.waits = 0 → st = st0
  waits : 0 ≤ st.waits ∧ st.waits ≤ 3
  missing : 0 ≤ st.missing ∧ st.missing ≤ 3
  pos : 0 < st.waits → 0 < st.missing
  sum : st.waits + st.missing ≤ 4
  sign : 0 ≤ st.sign ∧ (st.waits = 1 → st.sign < 32) ∧ (st.waits = 2 → st.sign < 2048) ∧ (st.waits = 3 → st.sign < 131072)
  low : 0 ≤ st.low ∧ st.low ≤ 255
  high : 0 ≤ st.high ∧ st.high ≤ 191
theorem fol_cases (b : Int) : ((b < 194 ∨ 244 < b) ∧ fol b = (0, 0, 0)) ∨ (194 ≤ b ∧ b < 224 ∧ fol b = (1, 128, 191)) ∨ (b = 224 ∧ fol b = (2, 160, 191)) ∨ (b = 237 ∧ fol b = (2, 128, 159)) ∨ (224 < b ∧ b < 240 ∧ b ≠ 237 ∧ fol b = (2, 128, 191)) ∨ (b = 240 ∧ fol b = (3, 144, 191)) ∨ (240 < b ∧ b < 244 ∧ fol b = (3, 128, 191)) ∨ (b = 244 ∧ fol b = (3, 128, 143)) := by
  unfold fol
  by_cases h1 : b < 194
  · left; exact ⟨.inl h1, by simp [h1]⟩
  · by_cases h2 : b < 224
    · right; left; exact ⟨by omega, h2, by simp [h1, h2]⟩
    · by_cases h3 : b = 224
      · right; right; left; exact ⟨h3, by simp [h3]⟩
      · by_cases h4 : b = 237
        · right; right; right; left; exact ⟨h4, by simp [h4]⟩
        · by_cases h5 : b < 240
          · right; right; right; right; left; exact ⟨by omega, h5, h4, by simp [h1, h2, h3, h4, h5]⟩
          · by_cases h6 : b = 240
            · right; right; right; right; right; left; exact ⟨h6, by simp [h6]⟩
            · by_cases h7 : b < 244
              · right; right; right; right; right; right; left; exact ⟨by omega, h7, by simp [h1, h2, h3, h4, h5, h6, h7]⟩
              · by_cases h8 : b = 244
                · right; right; right; right; right; right; right; exact ⟨h8, by simp [h8]⟩
                · left; exact ⟨.inr (by omega), by simp [h1, h2, h3, h4, h5, h6, h7, h8]⟩
theorem st0_ok : st0.ok := by constructor <;> simp [st0]
theorem begS_ok (b : Int) (_h0 : 0 ≤ b) : (begS b).ok := by
  unfold begS
  split
  · exact st0_ok
  · split
    · exact st0_ok
    · rename_i h1 h2
      rcases fol_cases b with ⟨_, e⟩ | ⟨_, _, e⟩ | ⟨_, e⟩ | ⟨_, e⟩ | ⟨_, _, _, e⟩ | ⟨_, e⟩ | ⟨_, _, e⟩ | ⟨_, e⟩ <;> rw [e] at h2 ⊢
      · exact absurd rfl h2
      all_goals constructor <;> simp [lead] <;> omega
theorem onS_ok (st : St) (b : Int) (h : st.ok) (hp : 0 < st.waits) (_h0 : 0 ≤ b) : (onS st b).ok := by
  have a1 := h.waits; have a2 := h.missing; have a3 := h.pos hp; have a4 := h.sum; have a5 := h.sign
  unfold onS
  split
  · exact st0_ok
  · constructor <;> simp <;> omega
def runS (st : St) : List Int → St
  | [] => st
  | b :: l => runS (stS st b) l
def runO (st : St) : List Int → List Int
  | [] => []
  | b :: l => stO st b ++ runO (stS st b) l
theorem runS_append (l m : List Int) : ∀ st, runS st (l ++ m) = runS (runS st l) m := by
  induction l with
  | nil => intro st; rfl
  | cons b l ih => intro st; exact ih _
theorem runO_append (l m : List Int) : ∀ st, runO st (l ++ m) = runO st l ++ runO (runS st l) m := by
  induction l with
  | nil => intro st; rfl
  | cons b l ih => intro st; simp only [List.cons_append, runO, runS, ih, List.append_assoc]
theorem stO_length (st : St) (b : Int) : (stO st b).length ≤ 2 := by
  have h1 : (onO st b).length ≤ 1 := by unfold onO; split <;> simp
  have h2 : (brk st).length ≤ 1 := by unfold brk; split <;> simp
  have h3 : (begO b).length ≤ 1 := by unfold begO; split; · simp
                                      split <;> simp
  unfold stO
  split
  · omega
  · rw [List.length_append]; omega
theorem runO_length (l : List Int) : ∀ st, (runO st l).length ≤ 2 * l.length := by
  induction l with
  | nil => intro st; simp [runO]
  | cons b l ih =>
    intro st
    have h1 := stO_length st b
    have h2 := ih (stS st b)
    simp only [runO, List.length_append, List.length_cons]
    omega
def allO (l : List Int) : List Int := runO st0 l ++ brk (runS st0 l)
