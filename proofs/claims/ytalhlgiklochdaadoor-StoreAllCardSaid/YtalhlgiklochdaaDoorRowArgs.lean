/-
  The arguments of the statements of layers 4 to 6 that hold rows: a cell by value, a row, a list of rows.
  One row out of a slice of rows that came in.
-/
import Derived.Test.YtalhlgiklochdaaDoorArgs
import Derived.Test.YtalhlgiklochdaaDoorPackMay
namespace Go.Proofs.YtalhlgiklochdaaDoor
open Go.ChangeShapes Go.WideShapes Go.ChangeAt Go.RowKit
theorem cellsRow : Tryd.prog.cellsOf 31 = 2 := by kernel_rfl
theorem cellsSl : Tryd.prog.cellsOf 29 = 1 := by kernel_rfl
theorem cellsBool : Tryd.prog.cellsOf 4 = 1 := by kernel_rfl

theorem flatMap_at {α : Type} (f : α → List Value) (s : Nat) (hs : ∀ x, (f x).length = s) : ∀ (l : List α) (j : Nat) (u : Value), (l.flatMap f)[j]? = some u → ∃ (i : Nat) (hi : i < l.length) (k : Nat), j = i * s + k ∧ (f l[i])[k]? = some u
  | [], j, u, h => by simp at h
  | x :: l, j, u, h => by
    rw [List.flatMap_cons, List.getElem?_append] at h
    split at h
    · exact ⟨0, by simp, j, by omega, h⟩
    · rename_i hj
      rw [hs] at h hj
      obtain ⟨i, hi, k, e, hk⟩ := flatMap_at f s hs l _ u h
      refine ⟨i + 1, by simpa using hi, k, ?_, hk⟩
      rw [Nat.succ_mul]
      omega
theorem flatMap_len {α : Type} (f : α → List Value) (s : Nat) (hs : ∀ x, (f x).length = s) : ∀ (l : List α), (l.flatMap f).length = l.length * s
  | [] => by simp
  | x :: l => by rw [List.flatMap_cons, List.length_append, hs, flatMap_len f s hs l, List.length_cons, Nat.succ_mul, Nat.add_comm]
/-- A slice whose elements were read one by one, as a list. -/
theorem sq_of_each {α : Type} (f : α → List Value) (s : Nat) (hs : ∀ x, (f x).length = s) (hs0 : 0 < s) {W : World} {a : Addr} {l : List α} {len : Nat} (hl : l.length = len)
    (h : ∀ (i : Nat) (hi : i < l.length) (k : Nat) (u : Value), (f l[i])[k]? = some u → W.cell? ((a.add (i * s)).add k) = some u) : Sq W W.heap.size s len (some a) (l.flatMap f) := by
  refine ⟨?_, fun hn => ?_⟩
  · rw [flatMap_len f s hs, hl]
  · have hi0 : 0 < l.length := by omega
    obtain ⟨u0, hu0⟩ : ∃ u, (f (l[0]'hi0))[0]? = some u := ⟨_, List.getElem?_eq_getElem (by rw [hs]; exact hs0)⟩
    have h0 := h 0 hi0 0 u0 hu0
    obtain ⟨b, off, spot⟩ := a
    have hspot : spot = none := by
      have := World.cell?_spot h0
      revert this
      unfold Addr.add
      simp
    subst hspot
    have hb := World.block_lt_of_cell? W _ h0
    simp only [Nat.zero_mul, add_at] at hb
    refine ⟨b, off, rfl, hb, fun j u hu => ?_⟩
    obtain ⟨i, hi, k, rfl, hk⟩ := flatMap_at f s hs l j u hu
    have := h i hi k u hk
    simp only [add_at] at this
    rw [← Nat.add_assoc]
    exact this

section
variable {H : Type} {enc : TypeId × Value → H} {w W : World} {base : Nat} {sp : Nat → Bool} {held : Bool}
set_option maxRecDepth 100000 in
/-- One cell, each of its numbers in its kind. -/
theorem cell_parts' {fuel : Nat} {cs : List Value} {x : DataW H × List MemPlace}
    (h : DataW.trod enc Tryd.prog w base sp held fuel 45 cs = some x) : ∃ c : Cel, cs = [.int .i32 c.1, .int .i64 c.2.1, .int .i64 c.2.2] ∧ -2147483648 ≤ c.1 ∧ c.1 ≤ 2147483647 := by
  obtain ⟨r, n, a, e, h1, h2⟩ := cell_parts h
  exact ⟨(r, n, a), e, h1, h2⟩
set_option maxRecDepth 100000 in
/-- A slice of cells out of its reading. -/
theorem slice_parts {fuel : Nat} {cs : List Value} {x : DataW H × List MemPlace} (hf : DataW.trod enc Tryd.prog W base sp held fuel 29 cs = some x) :
    ∃ A n c l, cs = [.slice A n c] ∧ n ≤ c ∧ c ≤ maxLen ∧ (∀ c ∈ l, -2147483648 ≤ c.1 ∧ c.1 ≤ 2147483647) ∧ Sq W W.heap.size 3 n A (flat l) := by
  rcases DataW.trod_slice Tryd.underlying29 hf with ⟨hcs, _⟩ | ⟨a, len, cap, elems, rest, m, _, hcs, _, _, hl, hm, hlen, hel, _, _⟩
  · exact ⟨none, 0, 0, [], hcs, Nat.le_refl _, Nat.zero_le _, (fun r h => by cases h), Sq.nothing _ _ _ _⟩
  · have each : ∀ i, i < len → ∃ t : Int × Int × Int, (-2147483648 ≤ t.1 ∧ t.1 ≤ 2147483647) ∧ W.cell? ((a.add (i * 3)).add 0) = some (.int .i32 t.1) ∧ W.cell? ((a.add (i * 3)).add 1) = some (.int .i64 t.2.1) ∧ W.cell? ((a.add (i * 3)).add 2) = some (.int .i64 t.2.2) := by
      intro i hi
      have h1 := hel i hi
      rw [List.getElem?_eq_getElem (by omega), cellsCell, Option.bind_eq_some_iff] at h1
      obtain ⟨cs, hc, ht⟩ := h1
      obtain ⟨r, n, b, rfl, hr0, hr1⟩ := cell_parts ht
      obtain ⟨_, _, hcell⟩ := World.cells?_some hc
      exact ⟨(r, n, b), ⟨hr0, hr1⟩, hcell 0 (by omega), hcell 1 (by omega), hcell 2 (by omega)⟩
    obtain ⟨l, hll, hp⟩ := exists_list each
    refine ⟨some a, len, cap, l, hcs, hl, hm, fun t ht => ?_, ⟨by rw [flat_length, hll], fun hn => ?_⟩⟩
    · obtain ⟨i, hi, rfl⟩ := List.mem_iff_getElem.1 ht
      exact (hp i hi).1
    · have h0 := (hp 0 (by omega)).2.1
      obtain ⟨b, off, spot⟩ := a
      have hspot : spot = none := by
        have := World.cell?_spot h0
        revert this
        unfold Addr.add
        simp
      subst hspot
      have hb := World.block_lt_of_cell? W _ h0
      simp only [Nat.zero_mul, add_at] at hb
      refine ⟨b, off, rfl, hb, fun j u hu => ?_⟩
      obtain ⟨i, hi, hh⟩ := flat_at l j u hu
      have k := (hp i hi).2
      simp only [add_at] at k
      rcases hh with ⟨rfl, rfl⟩ | ⟨rfl, rfl⟩ | ⟨rfl, rfl⟩
      · exact k.1
      · rw [← Nat.add_assoc]; exact k.2.1
      · rw [← Nat.add_assoc]; exact k.2.2

/-- A row that came in: where its cells are, and what they are. -/
structure RowIn where
  A : Option Addr
  n : Nat
  c : Nat
  wrap : Bool
  l : List Cel
structure RowIn.Ok (W : World) (B : Nat) (x : RowIn) : Prop where
  le : x.n ≤ x.c
  cap : x.c ≤ maxLen
  signs : ∀ c ∈ x.l, -2147483648 ≤ c.1 ∧ c.1 ≤ 2147483647
  sq : Sq W B 3 x.n x.A (flat x.l)
def RowIn.vals (x : RowIn) : List Value := [.slice x.A x.n x.c, .bool x.wrap]
theorem RowIn.Ok.below {W W' : World} {B : Nat} {x : RowIn} (h : x.Ok W B) (hb : Below B W W') : x.Ok W' B := ⟨h.le, h.cap, h.signs, h.sq.below hb⟩
theorem RowIn.Ok.up {W : World} {B B' : Nat} {x : RowIn} (h : x.Ok W B) (hb : B ≤ B') : x.Ok W B' := ⟨h.le, h.cap, h.signs, h.sq.up hb⟩

set_option maxRecDepth 100000 in
theorem row_parts {fuel : Nat} {cs : List Value} {x : DataW H × List MemPlace} (h : DataW.trod enc Tryd.prog W base sp held fuel 31 cs = some x) :
    ∃ r : RowIn, cs = r.vals ∧ r.Ok W W.heap.size := by
  obtain ⟨xs, m, rfl, rfl, hl, hn, hf⟩ := DataW.trod_struct Tryd.underlying31 h
  rw [cellsRow] at hl
  match cs, hl with
  | [c0, c1], _ =>
    have f0 : DataW.trod enc Tryd.prog W base sp held m 29 [c0] = xs[0]? := by have := hf 0 _ rfl; simpa [cellsSl] using this
    have f1 : DataW.trod enc Tryd.prog W base sp held m 4 [c1] = xs[1]? := by have := hf 1 _ rfl; simpa [cellsBool] using this
    match xs, hn with
    | [x0, x1], _ =>
      simp only [List.getElem?_cons_zero, List.getElem?_cons_succ] at f0 f1
      obtain ⟨A, n, c, l, e0, h1, h2, h3, h4⟩ := slice_parts f0
      obtain ⟨b, e1, _⟩ := DataW.trod_bool Tryd.underlying4 f1
      simp at e0 e1
      exact ⟨⟨A, n, c, b, l⟩, by rw [e0, e1]; rfl, h1, h2, h3, h4⟩

set_option maxRecDepth 100000 in
/-- A cell that came in. -/
theorem open_cell {v : Value} {d : DataW H} {p : List MemPlace} (hok : Value.okWide Tryd.prog W .any base 45 v) (h : DataW.Trod enc Tryd.prog W 0 (fun _ => true) true 45 v d p) :
    ∃ c : Cel, v = .agg #[.int .i32 c.1, .int .i64 c.2.1, .int .i64 c.2.2] ∧ -2147483648 ≤ c.1 ∧ c.1 ≤ 2147483647 := by
  obtain ⟨cs, rfl, _⟩ := okWide_struct Tryd.underlying45 hok
  obtain ⟨fuel, hf⟩ := h
  obtain ⟨c, e, hc⟩ := cell_parts' hf
  refine ⟨c, ?_, hc⟩
  simp only [Value.cells] at e
  rw [← Array.toArray_toList (xs := cs), e]
set_option maxRecDepth 100000 in
/-- A row that came in. -/
theorem open_row {v : Value} {d : DataW H} {p : List MemPlace} (hok : Value.okWide Tryd.prog W .any base 31 v) (h : DataW.Trod enc Tryd.prog W 0 (fun _ => true) true 31 v d p) :
    ∃ r : RowIn, v = rowV r.A r.n r.c r.wrap ∧ r.Ok W W.heap.size := by
  obtain ⟨cs, rfl, _⟩ := okWide_struct Tryd.underlying31 hok
  obtain ⟨fuel, hf⟩ := h
  obtain ⟨r, e, hr⟩ := row_parts hf
  refine ⟨r, ?_, hr⟩
  simp only [Value.cells] at e
  rw [← Array.toArray_toList (xs := cs), e]
  rfl
set_option maxRecDepth 100000 in
/-- A slice of rows that came in. -/
theorem open_rows {v : Value} {d : DataW H} {p : List MemPlace} (hok : Value.okWide Tryd.prog W .any base 47 v) (h : DataW.Trod enc Tryd.prog W 0 (fun _ => true) true 47 v d p) :
    ∃ (A : Option Addr) (n c : Nat) (l : List RowIn), v = .slice A n c ∧ n ≤ c ∧ c ≤ maxLen ∧ (∀ r ∈ l, r.Ok W W.heap.size) ∧ Sq W W.heap.size 2 n A (l.flatMap RowIn.vals) := by
  obtain ⟨a0, len, cap, rfl⟩ := okWide_slice Tryd.underlying47 hok
  obtain ⟨fuel, hf⟩ := h
  rcases DataW.trod_slice Tryd.underlying47 hf with ⟨hcs, _⟩ | ⟨a, len', cap', elems, rest, m, _, hcs, _, _, hl, hm, hlen, hel, _, _⟩
  · simp only [Value.cells, List.cons.injEq, Value.slice.injEq, and_true] at hcs
    obtain ⟨rfl, rfl, rfl⟩ := hcs
    exact ⟨none, 0, 0, [], rfl, Nat.le_refl _, Nat.zero_le _, (fun r h => by cases h), Sq.nothing _ _ _ _⟩
  · simp only [Value.cells, List.cons.injEq, Value.slice.injEq, and_true] at hcs
    obtain ⟨rfl, rfl, rfl⟩ := hcs
    have each : ∀ i, i < len → ∃ t : RowIn, t.Ok W W.heap.size ∧ ∀ (k : Nat) (u : Value), t.vals[k]? = some u → W.cell? ((a.add (i * 2)).add k) = some u := by
      intro i hi
      have h1 := hel i hi
      rw [List.getElem?_eq_getElem (by omega), cellsRow, Option.bind_eq_some_iff] at h1
      obtain ⟨cs, hc, ht⟩ := h1
      obtain ⟨r, rfl, hr⟩ := row_parts ht
      obtain ⟨_, _, hcell⟩ := World.cells?_some hc
      refine ⟨r, hr, fun k u hu => ?_⟩
      have hk : k < 2 := by have := (List.getElem?_eq_some_iff.1 hu).1; simpa [RowIn.vals] using this
      rw [hcell k hk]
      exact hu
    obtain ⟨l, hll, hp⟩ := exists_list each
    exact ⟨some a, len, cap, l, rfl, hl, hm, fun r hr => by obtain ⟨i, hi, rfl⟩ := List.mem_iff_getElem.1 hr; exact (hp i hi).1, sq_of_each RowIn.vals 2 (fun _ => rfl) (by omega) hll fun i hi k u hu => (hp i hi).2 k u hu⟩
end
end Go.Proofs.YtalhlgiklochdaaDoor
namespace Go.Proofs.YtalhlgiklochdaaDoor
open Go.ChangeShapes Go.WideShapes Go.ChangeAt Go.RowKit

theorem flatMap_get {α : Type} (f : α → List Value) (s : Nat) (hs : ∀ x, (f x).length = s) : ∀ (l : List α) (k : Nat) (x : α), l[k]? = some x → ∀ (j : Nat) (u : Value), (f x)[j]? = some u → (l.flatMap f)[k * s + j]? = some u
  | [], k, x, h, _, _, _ => by simp at h
  | y :: l, 0, x, h, j, u, hu => by
    simp at h
    subst h
    rw [List.flatMap_cons, Nat.zero_mul, Nat.zero_add, List.getElem?_append_left (List.getElem?_eq_some_iff.1 hu).1]
    exact hu
  | y :: l, k + 1, x, h, j, u, hu => by
    have ih := flatMap_get f s hs l k x (by simpa using h) j u hu
    rw [List.flatMap_cons, List.getElem?_append_right (by rw [hs, Nat.succ_mul]; omega), hs, show (k + 1) * s + j - s = k * s + j by rw [Nat.succ_mul]; omega]
    exact ih
theorem rows_at {W : World} {B n k : Nat} {A : Option Addr} {l : List RowIn} {r : RowIn} (hq : Sq W B 2 n A (l.flatMap RowIn.vals)) (hr : l[k]? = some r) (hk : k < n) :
    ∃ b off, A = some ⟨b, off, none⟩ ∧ b < B ∧ W.cell? ⟨b, off + k * 2, none⟩ = some (.slice r.A r.n r.c) ∧ W.cell? ⟨b, off + k * 2 + 1, none⟩ = some (.bool r.wrap) := by
  obtain ⟨b, off, e, hb, hc⟩ := hq.spot (by omega)
  have h0 := hc (k * 2 + 0) _ (flatMap_get RowIn.vals 2 (fun _ => rfl) l k r hr 0 _ rfl)
  have h1 := hc (k * 2 + 1) _ (flatMap_get RowIn.vals 2 (fun _ => rfl) l k r hr 1 _ rfl)
  exact ⟨b, off, e, hb, by simpa using h0, by rw [Nat.add_assoc]; exact h1⟩
end Go.Proofs.YtalhlgiklochdaaDoor
