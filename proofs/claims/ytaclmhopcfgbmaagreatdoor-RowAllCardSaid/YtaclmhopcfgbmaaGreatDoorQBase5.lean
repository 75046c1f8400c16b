/-
  The arguments of the statements of layers 4 to 6 that hold rows: a cell by value, a row, a list of rows. One row out of a slice of rows that came in. A region that draws its order: an operation that yields nothing, as the next one; two operations of which either may be the next one. A list of rows in memory that grows: a row of two cells each, their cells in blocks of their own. A list of rows whose slice begins anywhere in a block of its own: one row more behind it; its first ones gone.
-/
import Derived.Test.YtaclmhopcfgbmaaGreatDoorQBase4
import Derived.Test.YtaclmhopcfgbmaaGreatDoorQBase2
import Derived.Test.YtaclmhopcfgbmaaGreatDoorQStore3
namespace Go.Proofs.YtaclmhopcfgbmaaGreatDoor
open Go.ChangeShapes Go.WideShapes Go.ChangeAt Go.RowKit
theorem cellsRow : Tryz.prog.cellsOf 40 = 2 := by kernel_rfl
theorem cellsSl : Tryz.prog.cellsOf 38 = 1 := by kernel_rfl
theorem cellsBool : Tryz.prog.cellsOf 4 = 1 := by kernel_rfl
theorem flatMap_at {α : Type} (f : α → List Value) (s : Nat) (hs : ∀ x, (f x).length = s) : ∀ (l : List α) (j : Nat) (u : Value), (l.flatMap f)[j]? = some u → ∃ (i : Nat) (hi : i < l.length) (k : Nat), j = i * s + k ∧ (f l[i])[k]? = some u
 | [], j, u, h => by simp at h
 | x :: l, j, u, h => by
  rw [List.flatMap_cons, List.getElem?_append] at h
  split at h
  ·exact ⟨0, by simp, j, by omega, h⟩
  ·rename_i hj
   rw [hs] at h hj
   obtain ⟨i, hi, k, e, hk⟩ := flatMap_at f s hs l _ u h
   refine ⟨i + 1, by simpa using hi, k, ?_, hk⟩
   rw [Nat.succ_mul]
   omega
theorem flatMap_len {α : Type} (f : α → List Value) (s : Nat) (hs : ∀ x, (f x).length = s) : ∀ (l : List α), (l.flatMap f).length = l.length * s
 | [] => by simp
 | x :: l => by rw [List.flatMap_cons, List.length_append, hs, flatMap_len f s hs l, List.length_cons, Nat.succ_mul, Nat.add_comm]
theorem sq_of_each {α : Type} (f : α → List Value) (s : Nat) (hs : ∀ x, (f x).length = s) (hs0 : 0 < s) {W : World} {a : Addr} {l : List α} {len : Nat} (hl : l.length = len)
  (h : ∀ (i : Nat) (hi : i < l.length) (k : Nat) (u : Value), (f l[i])[k]? = some u → W.cell? ((a.add (i * s)).add k) = some u) : Sq W W.heap.size s len (some a) (l.flatMap f) := by
 refine ⟨?_, fun hn => ?_⟩
 ·rw [flatMap_len f s hs, hl]
 ·have hi0 : 0 < l.length := by omega
  obtain ⟨u0, hu0⟩ : ∃ u, (f (l[0]'hi0))[0]? = some u := ⟨_, List.getElem?_eq_getElem (by rw [hs]; exact hs0)⟩
  have h0 := h 0 hi0 0 u0 hu0
  obtain ⟨b, off, spot⟩ := a
  have hspot : spot = none := by
   have := World.cell?_spot h0
   revert this
   unfold Addr.add
   simp
  subst hspot
  have hb := World.block_lt_of_cell? W _ h0
  simp only [Nat.zero_mul, add_at] at hb
  refine ⟨b, off, rfl, hb, fun j u hu => ?_⟩
  obtain ⟨i, hi, k, rfl, hk⟩ := flatMap_at f s hs l j u hu
  have := h i hi k u hk
  simp only [add_at] at this
  rw [← Nat.add_assoc]
  exact this
section
variable {H : Type} {enc : TypeId × Value → H} {w W : World} {base : Nat} {sp : Nat → Bool} {held : Bool}
set_option maxRecDepth 100000 in
theorem cell_parts' {fuel : Nat} {cs : List Value} {x : DataW H × List MemPlace}
  (h : DataW.trod enc Tryz.prog w base sp held fuel 54 cs = some x) : ∃ c : Cel, cs = [.int .i32 c.1, .int .i64 c.2.1, .int .i64 c.2.2] ∧ -2147483648 ≤ c.1 ∧ c.1 ≤ 2147483647 := by
 obtain ⟨r, n, a, e, h1, h2⟩ := cell_parts h
 exact ⟨(r, n, a), e, h1, h2⟩
set_option maxRecDepth 100000 in
theorem slice_parts {fuel : Nat} {cs : List Value} {x : DataW H × List MemPlace} (hf : DataW.trod enc Tryz.prog W base sp held fuel 38 cs = some x) :
  ∃ A n c l, cs = [.slice A n c] ∧ n ≤ c ∧ c ≤ maxLen ∧ (∀ c ∈ l, -2147483648 ≤ c.1 ∧ c.1 ≤ 2147483647) ∧ Sq W W.heap.size 3 n A (flat l) := by
 rcases DataW.trod_slice Tryz.underlying38 hf with ⟨hcs, _⟩ | ⟨a, len, cap, elems, rest, m, _, hcs, _, _, hl, hm, hlen, hel, _, _⟩
 ·exact ⟨none, 0, 0, [], hcs, Nat.le_refl _, Nat.zero_le _, (fun r h => by cases h), Sq.nothing _ _ _ _⟩
 ·have each : ∀ i, i < len → ∃ t : Int × Int × Int, (-2147483648 ≤ t.1 ∧ t.1 ≤ 2147483647) ∧ W.cell? ((a.add (i * 3)).add 0) = some (.int .i32 t.1) ∧ W.cell? ((a.add (i * 3)).add 1) = some (.int .i64 t.2.1) ∧ W.cell? ((a.add (i * 3)).add 2) = some (.int .i64 t.2.2) := by
   intro i hi
   have h1 := hel i hi
   rw [List.getElem?_eq_getElem (by omega), cellsCell, Option.bind_eq_some_iff] at h1
   obtain ⟨cs, hc, ht⟩ := h1
   obtain ⟨r, n, b, rfl, hr0, hr1⟩ := cell_parts ht
   obtain ⟨_, _, hcell⟩ := World.cells?_some hc
   exact ⟨(r, n, b), ⟨hr0, hr1⟩, hcell 0 (by omega), hcell 1 (by omega), hcell 2 (by omega)⟩
  obtain ⟨l, hll, hp⟩ := exists_list each
  refine ⟨some a, len, cap, l, hcs, hl, hm, fun t ht => ?_, ⟨by rw [flat_length, hll], fun hn => ?_⟩⟩
  ·obtain ⟨i, hi, rfl⟩ := List.mem_iff_getElem.1 ht
   exact (hp i hi).1
  ·have h0 := (hp 0 (by omega)).2.1
   obtain ⟨b, off, spot⟩ := a
   have hspot : spot = none := by
    have := World.cell?_spot h0
    revert this
    unfold Addr.add
    simp
   subst hspot
   have hb := World.block_lt_of_cell? W _ h0
   simp only [Nat.zero_mul, add_at] at hb
   refine ⟨b, off, rfl, hb, fun j u hu => ?_⟩
   obtain ⟨i, hi, hh⟩ := flat_at l j u hu
   have k := (hp i hi).2
   simp only [add_at] at k
   rcases hh with ⟨rfl, rfl⟩ | ⟨rfl, rfl⟩ | ⟨rfl, rfl⟩
   ·exact k.1
   ·rw [← Nat.add_assoc]; exact k.2.1
   ·rw [← Nat.add_assoc]; exact k.2.2
structure RowIn where
 A : Option Addr
 n : Nat
 c : Nat
 wrap : Bool
 l : List Cel
structure RowIn.Ok (W : World) (B : Nat) (x : RowIn) : Prop where
 le : x.n ≤ x.c
 cap : x.c ≤ maxLen
 signs : ∀ c ∈ x.l, -2147483648 ≤ c.1 ∧ c.1 ≤ 2147483647
 sq : Sq W B 3 x.n x.A (flat x.l)
def RowIn.vals (x : RowIn) : List Value := [.slice x.A x.n x.c, .bool x.wrap]
theorem RowIn.Ok.below {W W' : World} {B : Nat} {x : RowIn} (h : x.Ok W B) (hb : Below B W W') : x.Ok W' B := ⟨h.le, h.cap, h.signs, h.sq.below hb⟩
theorem RowIn.Ok.up {W : World} {B B' : Nat} {x : RowIn} (h : x.Ok W B) (hb : B ≤ B') : x.Ok W B' := ⟨h.le, h.cap, h.signs, h.sq.up hb⟩
set_option maxRecDepth 100000 in
theorem row_parts {fuel : Nat} {cs : List Value} {x : DataW H × List MemPlace} (h : DataW.trod enc Tryz.prog W base sp held fuel 40 cs = some x) :
  ∃ r : RowIn, cs = r.vals ∧ r.Ok W W.heap.size := by
 obtain ⟨xs, m, rfl, rfl, hl, hn, hf⟩ := DataW.trod_struct Tryz.underlying40 h
 rw [cellsRow] at hl
 match cs, hl with
 | [c0, c1], _ =>
  have f0 : DataW.trod enc Tryz.prog W base sp held m 38 [c0] = xs[0]? := by have := hf 0 _ rfl; simpa [cellsSl] using this
  have f1 : DataW.trod enc Tryz.prog W base sp held m 4 [c1] = xs[1]? := by have := hf 1 _ rfl; simpa [cellsBool] using this
  match xs, hn with
  | [x0, x1], _ =>
   simp only [List.getElem?_cons_zero, List.getElem?_cons_succ] at f0 f1
   obtain ⟨A, n, c, l, e0, h1, h2, h3, h4⟩ := slice_parts f0
   obtain ⟨b, e1, _⟩ := DataW.trod_bool Tryz.underlying4 f1
   simp at e0 e1
   exact ⟨⟨A, n, c, b, l⟩, by rw [e0, e1]; rfl, h1, h2, h3, h4⟩
set_option maxRecDepth 100000 in
theorem open_cell {v : Value} {d : DataW H} {p : List MemPlace} (hok : Value.okWide Tryz.prog W .any base 54 v) (h : DataW.Trod enc Tryz.prog W 0 (fun _ => true) true 54 v d p) :
  ∃ c : Cel, v = .agg #[.int .i32 c.1, .int .i64 c.2.1, .int .i64 c.2.2] ∧ -2147483648 ≤ c.1 ∧ c.1 ≤ 2147483647 := by
 obtain ⟨cs, rfl, _⟩ := okWide_struct Tryz.underlying54 hok
 obtain ⟨fuel, hf⟩ := h
 obtain ⟨c, e, hc⟩ := cell_parts' hf
 refine ⟨c, ?_, hc⟩
 simp only [Value.cells] at e
 rw [← Array.toArray_toList (xs := cs), e]
set_option maxRecDepth 100000 in
theorem open_row {v : Value} {d : DataW H} {p : List MemPlace} (hok : Value.okWide Tryz.prog W .any base 40 v) (h : DataW.Trod enc Tryz.prog W 0 (fun _ => true) true 40 v d p) :
  ∃ r : RowIn, v = rowV r.A r.n r.c r.wrap ∧ r.Ok W W.heap.size := by
 obtain ⟨cs, rfl, _⟩ := okWide_struct Tryz.underlying40 hok
 obtain ⟨fuel, hf⟩ := h
 obtain ⟨r, e, hr⟩ := row_parts hf
 refine ⟨r, ?_, hr⟩
 simp only [Value.cells] at e
 rw [← Array.toArray_toList (xs := cs), e]
 rfl
set_option maxRecDepth 100000 in
theorem open_rows {v : Value} {d : DataW H} {p : List MemPlace} (hok : Value.okWide Tryz.prog W .any base 62 v) (h : DataW.Trod enc Tryz.prog W 0 (fun _ => true) true 62 v d p) :
  ∃ (A : Option Addr) (n c : Nat) (l : List RowIn), v = .slice A n c ∧ n ≤ c ∧ c ≤ maxLen ∧ (∀ r ∈ l, r.Ok W W.heap.size) ∧ Sq W W.heap.size 2 n A (l.flatMap RowIn.vals) := by
 obtain ⟨a0, len, cap, rfl⟩ := okWide_slice Tryz.underlying62 hok
 obtain ⟨fuel, hf⟩ := h
 rcases DataW.trod_slice Tryz.underlying62 hf with ⟨hcs, _⟩ | ⟨a, len', cap', elems, rest, m, _, hcs, _, _, hl, hm, hlen, hel, _, _⟩
 ·simp only [Value.cells, List.cons.injEq, Value.slice.injEq, and_true] at hcs
  obtain ⟨rfl, rfl, rfl⟩ := hcs
  exact ⟨none, 0, 0, [], rfl, Nat.le_refl _, Nat.zero_le _, (fun r h => by cases h), Sq.nothing _ _ _ _⟩
 ·simp only [Value.cells, List.cons.injEq, Value.slice.injEq, and_true] at hcs
  obtain ⟨rfl, rfl, rfl⟩ := hcs
  have each : ∀ i, i < len → ∃ t : RowIn, t.Ok W W.heap.size ∧ ∀ (k : Nat) (u : Value), t.vals[k]? = some u → W.cell? ((a.add (i * 2)).add k) = some u := by
   intro i hi
   have h1 := hel i hi
   rw [List.getElem?_eq_getElem (by omega), cellsRow, Option.bind_eq_some_iff] at h1
   obtain ⟨cs, hc, ht⟩ := h1
   obtain ⟨r, rfl, hr⟩ := row_parts ht
   obtain ⟨_, _, hcell⟩ := World.cells?_some hc
   refine ⟨r, hr, fun k u hu => ?_⟩
   have hk : k < 2 := by have := (List.getElem?_eq_some_iff.1 hu).1; simpa [RowIn.vals] using this
   rw [hcell k hk]
   exact hu
  obtain ⟨l, hll, hp⟩ := exists_list each
  exact ⟨some a, len, cap, l, rfl, hl, hm, fun r hr => by obtain ⟨i, hi, rfl⟩ := List.mem_iff_getElem.1 hr; exact (hp i hi).1, sq_of_each RowIn.vals 2 (fun _ => rfl) (by omega) hll fun i hi k u hu => (hp i hi).2 k u hu⟩
end
end Go.Proofs.YtaclmhopcfgbmaaGreatDoor
namespace Go.Proofs.YtaclmhopcfgbmaaGreatDoor
open Go.ChangeShapes Go.WideShapes Go.ChangeAt Go.RowKit
theorem flatMap_get {α : Type} (f : α → List Value) (s : Nat) (hs : ∀ x, (f x).length = s) : ∀ (l : List α) (k : Nat) (x : α), l[k]? = some x → ∀ (j : Nat) (u : Value), (f x)[j]? = some u → (l.flatMap f)[k * s + j]? = some u
 | [], k, x, h, _, _, _ => by simp at h
 | y :: l, 0, x, h, j, u, hu => by
  simp at h
  subst h
  rw [List.flatMap_cons, Nat.zero_mul, Nat.zero_add, List.getElem?_append_left (List.getElem?_eq_some_iff.1 hu).1]
  exact hu
 | y :: l, k + 1, x, h, j, u, hu => by
  have ih := flatMap_get f s hs l k x (by simpa using h) j u hu
  rw [List.flatMap_cons, List.getElem?_append_right (by rw [hs, Nat.succ_mul]; omega), hs, show (k + 1) * s + j - s = k * s + j by rw [Nat.succ_mul]; omega]
  exact ih
theorem rows_at {W : World} {B n k : Nat} {A : Option Addr} {l : List RowIn} {r : RowIn} (hq : Sq W B 2 n A (l.flatMap RowIn.vals)) (hr : l[k]? = some r) (hk : k < n) :
  ∃ b off, A = some ⟨b, off, none⟩ ∧ b < B ∧ W.cell? ⟨b, off + k * 2, none⟩ = some (.slice r.A r.n r.c) ∧ W.cell? ⟨b, off + k * 2 + 1, none⟩ = some (.bool r.wrap) := by
 obtain ⟨b, off, e, hb, hc⟩ := hq.spot (by omega)
 have h0 := hc (k * 2 + 0) _ (flatMap_get RowIn.vals 2 (fun _ => rfl) l k r hr 0 _ rfl)
 have h1 := hc (k * 2 + 1) _ (flatMap_get RowIn.vals 2 (fun _ => rfl) l k r hr 1 _ rfl)
 exact ⟨b, off, e, hb, by simpa using h0, by rw [Nat.add_assoc]; exact h1⟩
end Go.Proofs.YtaclmhopcfgbmaaGreatDoor
namespace Go.Proofs.YtaclmhopcfgbmaaGreatDoor.Ord
open Go.ChangeShapes Go.WideShapes Go.ChangeAt Go.RowKit
section
variable {P : Program} {ops : Array Oper} {L : List Line} {Q : Exit → Act → World → Prop} {S : World → Prop}
theorem effect {bs bs' : List Bool} {k fuel : Nat} {m : List Nat} {op : Op} {g : Option (Nat × Bool)} {a : Act} {w w1 : World} (R : Reg ops L) (hs : L[k]? = some (none, op, g, m)) (hok : okF bs L k bs' = true)
  (hg : Chain.Open ops a g) (hS : S w1) (hv : ∀ ty, (execOp a.eval ⟨none, op, ty, "", #[], none⟩).run P w = .ok .skip w1)
  (h : wpAnyH P .any ops Q S fuel bs'.toArray a w1) : wpAnyH P .any ops Q S (fuel + 1) bs.toArray a w := by
 obtain ⟨o, ho, e1, e2, e3⟩ := line_get R.look hs
 subst e2 e3
 refine forced R hok (wpOp_step ho fun K hK => ?_)
 rw [if_pos hg.wanted]
 unfold Oper.wp
 rw [Chain.exec_shape, e1, hv]
 simp only [Oper.upon, e1]
 exact hK _ _ ⟨hS, h⟩
def Step (P : Program) (ops : Array Oper) (Q : Exit → Act → World → Prop) (S : World → Prop) (fuel k : Nat) (bs' : List Bool) (a : Act) (w : World) : Prop := wpOp P ops Q k (fun a' w' => S w' ∧ wpAnyH P .any ops Q S fuel bs'.toArray a' w') a w
theorem either {bs bs1 bs2 : List Bool} {i j fuel : Nat} {a : Act} {w : World} (R : Reg ops L) (hr : (up bs L == [i, j] && bs.set i true == bs1 && bs.set j true == bs2) = true) (h1 : Step P ops Q S fuel i bs1 a w) (h2 : Step P ops Q S fuel j bs2 a w) : wpAnyH P .any ops Q S (fuel + 1) bs.toArray a w := by
 simp only [Bool.and_eq_true, beq_iff_eq] at hr
 obtain ⟨⟨hr, hb1⟩, hb2⟩ := hr
 subst hb1 hb2
 refine ⟨fun h0 => ?_, fun t ht => ?_⟩
 ·have := (mem_up R.look bs i).2 (by rw [hr]; simp)
  rw [h0] at this
  cases this
 ·have ht' := (mem_up R.look bs t).1 ht
  rw [hr] at ht'
  have ht2 : t = i ∨ t = j := by simpa using ht'
  rw [List.setIfInBounds_toArray]
  rcases ht2 with rfl | rfl
  ·exact h1
  ·exact h2
end
end Go.Proofs.YtaclmhopcfgbmaaGreatDoor.Ord
namespace Go.Proofs.YtaclmhopcfgbmaaGreatDoor
open Go.ChangeShapes Go.WideShapes Go.ChangeAt Go.RowKit
structure RowsIn (W : World) (base : Nat) (v : Value) (xs : List RowIn) : Prop where
 own : W.ownsRow base 40 2 v xs.length (xs.flatMap RowIn.vals)
 each : ∀ x ∈ xs, HasC W 0 (.slice x.A x.n x.c) x.l ∧ ∀ c ∈ x.l, -2147483648 ≤ c.1 ∧ c.1 ≤ 2147483647
namespace RowsIn
variable {W W' : World} {base : Nat} {v v' : Value} {xs : List RowIn}
theorem nothing (W : World) (base : Nat) : RowsIn W base (.slice none 0 0) [] := ⟨World.ownsRow_nil W base _ _, fun _ h => by cases h⟩
theorem typed (h : RowsIn W base v xs) : ∀ k, v.ownBlock = some k → Typed W 40 k := by
 intro k hk
 rcases h.own.2 with ⟨e, _⟩ | ⟨g, cap, cur, e, _, e3, _⟩
 ·rw [e] at hk; cases hk
 ·rw [e] at hk
  injection hk with hk
  subst hk
  exact ⟨_, _, e3⟩
theorem turned {M : Nat → Prop} (h : RowsIn W base v xs) (ht : Turned M W W') (hv : ∀ k, v.ownBlock = some k → ¬ M k) (hc : ∀ k, M k → ¬ Typed W 54 k) : RowsIn W' base v xs := by
 refine ⟨⟨h.own.1, ?_⟩, fun x hx => ⟨?_, (h.each x hx).2⟩⟩
 ·rcases h.own.2 with e | ⟨g, cap, cur, e, e2, e3, r⟩
  ·exact .inl e
  ·exact .inr ⟨g, cap, cur, e, e2, (ht.block g (Array.getElem?_eq_some_iff.1 e3).1 (hv g (by rw [e]; rfl))).trans e3, r⟩
 ·have hx' := (h.each x hx).1
  refine ⟨hx'.1, ?_⟩
  rcases hx'.2 with e | ⟨g, cap, cur, e, e2, e3, r⟩
  ·exact .inl e
  ·exact .inr ⟨g, cap, cur, e, e2, (ht.block g (Array.getElem?_eq_some_iff.1 e3).1 (fun m => hc g m ⟨_, _, e3⟩)).trans e3, r⟩
theorem below (h : RowsIn W base v xs) (hb : Below W.heap.size W W') : RowsIn W' base v xs := h.turned (M := fun _ => False) (Turned.ofBelow hb _) (fun _ _ h => h) (fun _ h => h.elim)
theorem snoc {x : RowIn} (h : RowsIn W base v xs) (hg : W.grownBy W' v.ownBlock) (ho : W'.ownsRow base 40 2 v' (xs.length + 1) (xs.flatMap RowIn.vals ++ x.vals)) (hx : HasC W 0 (.slice x.A x.n x.c) x.l) (hs : ∀ c ∈ x.l, -2147483648 ≤ c.1 ∧ c.1 ≤ 2147483647) : RowsIn W' base v' (xs ++ [x]) := by
 have ht := Turned.ofGrown hg
 have hc : ∀ k, v.ownBlock = some k → ¬ Typed W 54 k := fun k hk hty => (h.typed k hk).apart hty (by decide) rfl
 have one : ∀ y : RowIn, HasC W 0 (.slice y.A y.n y.c) y.l → HasC W' 0 (.slice y.A y.n y.c) y.l := fun y hy => by
  refine ⟨hy.1, ?_⟩
  rcases hy.2 with e | ⟨g, cap, cur, e, e2, e3, r⟩
  ·exact .inl e
  ·exact .inr ⟨g, cap, cur, e, e2, (ht.block g (Array.getElem?_eq_some_iff.1 e3).1 (fun m => hc g m ⟨_, _, e3⟩)).trans e3, r⟩
 refine ⟨?_, fun y hy => ?_⟩
 ·rw [List.length_append, List.flatMap_append]
  simpa [List.flatMap_cons] using ho
 ·rcases List.mem_append.1 hy with hy | hy
  ·exact ⟨one y (h.each y hy).1, (h.each y hy).2⟩
  ·rw [List.mem_singleton.1 hy]
   exact ⟨one x hx, hs⟩
theorem shape (h : RowsIn W base v xs) : ∃ A c, v = .slice A xs.length c ∧ xs.length ≤ c := by
 rcases h.own.2 with ⟨rfl, h0⟩ | ⟨g, cap, cur, rfl, _, _, hc, _⟩
 ·rw [h0]; exact ⟨_, _, rfl, Nat.le_refl _⟩
 ·exact ⟨_, _, rfl, hc⟩
theorem get {k : Nat} {x : RowIn} (h : RowsIn W base v xs) (hx : xs[k]? = some x) : ∃ g c, v = .slice (some ⟨g, 0, none⟩) xs.length c ∧ xs.length ≤ c ∧ base ≤ g ∧ g < W.heap.size ∧ W.cell? ⟨g, k * 2, none⟩ = some (.slice x.A x.n x.c) ∧ W.cell? ⟨g, k * 2 + 1, none⟩ = some (.bool x.wrap) := by
 have hk := (List.getElem?_eq_some_iff.1 hx).1
 obtain ⟨g, c, e, h1, h2, h3, hc⟩ := own_at h.own (by omega)
 exact ⟨g, c, e, h1, h2, h3, hc (k * 2) _ (by have := flatMap_get RowIn.vals 2 (fun _ => rfl) xs k x hx 0 _ rfl; simpa using this), hc (k * 2 + 1) _ (flatMap_get RowIn.vals 2 (fun _ => rfl) xs k x hx 1 _ rfl)⟩
theorem lt (h : RowsIn W base v xs) : ∀ k, v.ownBlock = some k → base ≤ k ∧ k < W.heap.size := fun k e => World.ownsRow.lt h.own k e
end RowsIn
theorem vals_one (x : RowIn) : ∀ u ∈ x.vals, u.oneCell' = true := by
 intro u hu
 unfold RowIn.vals at hu
 simp at hu
 rcases hu with rfl | rfl <;> rfl
end Go.Proofs.YtaclmhopcfgbmaaGreatDoor
namespace Go.Proofs.YtaclmhopcfgbmaaGreatDoor
open Go.ChangeShapes Go.WideShapes Go.ChangeAt Go.RowKit
def RwAt (w : World) (base : Nat) (v : Value) (n : Nat) (xs : List Value) : Prop :=
 xs.length = n * 2 ∧ ((v = .slice none 0 0 ∧ n = 0) ∨ ∃ b off cap cur, v = .slice (some ⟨b, off, none⟩) n cap ∧ base ≤ b ∧ w.heap[b]? = some (.cells cur 40 (0, 0)) ∧ n ≤ cap ∧ cap ≤ maxLen ∧ off + cap * 2 ≤ cur.size ∧ ∀ j u, xs[j]? = some u → cur[off + j]? = some u)
namespace RwAt
variable {w w' : World} {base : Nat} {v : Value} {n : Nat} {xs : List Value}
theorem nothing (w : World) (base : Nat) : RwAt w base (.slice none 0 0) 0 [] := ⟨rfl, .inl ⟨rfl, rfl⟩⟩
theorem type (h : RwAt w base v n xs) : ∀ k, v.ownBlock = some k → base ≤ k ∧ Typed w 40 k := by
 intro k hk
 rcases h.2 with ⟨rfl, _⟩ | ⟨b, off, cap, cur, rfl, hb, hg, _⟩
 ·cases hk
 ·injection hk with hk
  subst hk
  exact ⟨hb, cur, _, hg⟩
theorem lt (h : RwAt w base v n xs) : ∀ k, v.ownBlock = some k → base ≤ k ∧ k < w.heap.size := fun k hk =>
 let ⟨h1, _, _, h2⟩ := h.type k hk; ⟨h1, (Array.getElem?_eq_some_iff.1 h2).1⟩
theorem kept (h : RwAt w base v n xs) (k : ∀ b, v.ownBlock = some b → w'.heap[b]? = w.heap[b]?) : RwAt w' base v n xs := by
 refine ⟨h.1, ?_⟩
 rcases h.2 with h' | ⟨b, off, cap, cur, rfl, hb, hg, r⟩
 ·exact .inl h'
 ·exact .inr ⟨b, off, cap, cur, rfl, hb, (k b rfl).trans hg, r⟩
theorem shape (h : RwAt w base v n xs) : ∃ A c, v = .slice A n c ∧ n ≤ c := by
 rcases h.2 with ⟨rfl, h0⟩ | ⟨b, off, cap, cur, rfl, _, _, hc, _⟩
 ·rw [h0]; exact ⟨_, _, rfl, Nat.le_refl _⟩
 ·exact ⟨_, _, rfl, hc⟩
theorem cell (h : RwAt w base v n xs) {j : Nat} {u : Value} (hu : xs[j]? = some u) : ∃ b off cap, v = .slice (some ⟨b, off, none⟩) n cap ∧ n ≤ cap ∧ base ≤ b ∧ b < w.heap.size ∧ w.cell? ⟨b, off + j, none⟩ = some u := by
 rcases h.2 with ⟨rfl, h0⟩ | ⟨b, off, cap, cur, rfl, hb, hg, hc, _, _, hx⟩
 ·have := (List.getElem?_eq_some_iff.1 hu).1
  have := h.1
  omega
 ·exact ⟨b, off, cap, rfl, hc, hb, (Array.getElem?_eq_some_iff.1 hg).1, (cell_of_row w b _ _ _ (0, 0) hg).trans (hx j u hu)⟩
theorem cut {b off cap k : Nat} (h : RwAt w base (.slice (some ⟨b, off, none⟩) n cap) n xs) (hk : k ≤ n) : RwAt w base (.slice (some ⟨b, off + k * 2, none⟩) (n - k) (cap - k)) (n - k) (xs.drop (k * 2)) := by
 refine ⟨by rw [List.length_drop, h.1]; omega, .inr ?_⟩
 rcases h.2 with ⟨e, _⟩ | ⟨b', off1, cap', cur, e1, hb, hg, hc, hm, hs, hx⟩
 ·cases e
 ·injection e1 with e1 _ e3
  injection e1 with e1
  injection e1 with e1 e2
  subst e1 e2 e3
  refine ⟨b, off + k * 2, cap - k, cur, rfl, hb, hg, by omega, by omega, by omega, fun j u hu => ?_⟩
  rw [List.getElem?_drop] at hu
  rw [Nat.add_assoc]
  exact hx _ _ hu
end RwAt
end Go.Proofs.YtaclmhopcfgbmaaGreatDoor
