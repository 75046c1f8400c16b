/-
  pack.runs: a list of cells parted into runs. pack.Put: a row as bytes. pack.Uint, the reference's Uint; pack.GetUint, the reference's GetUint. The reference's GetUint. pack's source of numbers: number, run. pack's source of numbers: run, the next run. slices.Grow of no cells. pack.Get: the row at the beginning of bytes.
-/
import Derived.Test.YtgmijnnhanpocaaGreatDoorQNBase1
import Derived.RangeFuncBox
import Derived.Test.YtgmijnnhanpocaaGreatDoorQNBase2
import Derived.Test.YtgmijnnhanpocaaGreatDoorQNBase0
import Derived.Lib.AppendZerosOnto
import Derived.Lib.Walk
namespace Go.Proofs.YtgmijnnhanpocaaGreatDoor
open Go.ChangeShapes Go.WideShapes Go.ChangeAt Go.RowKit
def flatR (rs : List (Nat × Cel)) : List Value := rs.flatMap fun x => [.int .i64 x.1, .int .i32 x.2.1, .int .i64 x.2.2.1, .int .i64 x.2.2.2]
theorem flatR_length (rs : List (Nat × Cel)) : (flatR rs).length = rs.length * 4 := by
 induction rs with
 | nil => rfl
 | cons x rs ih => simp only [flatR, List.flatMap_cons, List.length_append, List.length_cons, List.length_nil] at ih ⊢; omega
theorem flatR_append (a b : List (Nat × Cel)) : flatR (a ++ b) = flatR a ++ flatR b := by simp [flatR]
theorem flatR_bump (rs : List (Nat × Cel)) (n : Nat) (c : Cel) : (flatR (rs ++ [(n, c)])).set (rs.length * 4) (.int .i64 ((n + 1 : Nat) : Int)) = flatR (rs ++ [(n + 1, c)]) := by
 rw [flatR_append, flatR_append, ← flatR_length, List.set_append_right _ _ (Nat.le_refl _), Nat.sub_self]
 rfl
def HasRuns (w : World) (base : Nat) (v : Value) (rs : List (Nat × Cel)) : Prop := w.ownsRow base 194 4 v rs.length (flatR rs)
theorem HasRuns.nothing (w : World) (base : Nat) : HasRuns w base (.slice none 0 0) [] := World.ownsRow_nil w base _ _
theorem HasRuns.below {w w' : World} {B base : Nat} {v : Value} {rs : List (Nat × Cel)} (h : HasRuns w base v rs) (hb : Below B w w') (hv : ∀ k, v.ownBlock = some k → k < B) : HasRuns w' base v rs := by
 refine ⟨h.1, ?_⟩
 rcases h.2 with e | ⟨g, cap, cur, rfl, e2, e3, r⟩
 ·exact .inl e
 ·exact .inr ⟨g, cap, cur, rfl, e2, (hb.block g (hv g rfl)).trans e3, r⟩
theorem HasRuns.lt {w : World} {base : Nat} {v : Value} {rs : List (Nat × Cel)} (h : HasRuns w base v rs) : ∀ k, v.ownBlock = some k → k < w.heap.size := fun k e => (World.ownsRow.lt h k e).2
theorem HasRuns.shape {w : World} {base : Nat} {v : Value} {rs : List (Nat × Cel)} (h : HasRuns w base v rs) : ∃ A c, v = .slice A rs.length c := by
 rcases h.2 with ⟨rfl, h0⟩ | ⟨g, cap, cur, rfl, _⟩
 ·rw [h0]; exact ⟨_, _, rfl⟩
 ·exact ⟨_, _, rfl⟩
theorem HasRuns.last {w : World} {base g cap p : Nat} {rs : List (Nat × Cel)} {n : Nat} {c : Cel} (hq : rs.length + 1 = p) (h : HasRuns w base (.slice (some ⟨g, 0, none⟩) p cap) (rs ++ [(n, c)])) :
  w.cell? ⟨g, (p - 1) * 4, none⟩ = some (.int .i64 n) ∧ w.frozen? ⟨g, (p - 1) * 4, none⟩ = false ∧ HasRuns (w.setCell ⟨g, (p - 1) * 4, none⟩ (.int .i64 ((n + 1 : Nat) : Int))) base (.slice (some ⟨g, 0, none⟩) p cap) (rs ++ [(n + 1, c)]) ∧ base ≤ g := by
 subst hq
 rw [Nat.add_sub_cancel]
 have h' : w.ownsRow base 194 4 (.slice (some ⟨g, 0, none⟩) (rs.length + 1) cap) (rs.length + 1) (flatR (rs ++ [(n, c)])) := by
  have := h
  unfold HasRuns at this
  rwa [List.length_append] at this
 refine ⟨?_, h'.frozenAt _, ?_, (World.ownsRow.lt h' g rfl).1⟩
 ·rw [h'.cellAt _ (by omega), flatR_append, List.getElem?_append_right (by rw [flatR_length]; exact Nat.le_refl _), flatR_length, Nat.sub_self]
  rfl
 ·have := (h'.stored (rs.length * 4) (.int .i64 ((n + 1 : Nat) : Int))).1
  rw [flatR_bump] at this
  unfold HasRuns
  rw [List.length_append]
  exact this
theorem add_at' (b off j : Nat) : (⟨b, off, none⟩ : Addr).add j = ⟨b, off + j, none⟩ := by unfold Addr.add; split <;> simp_all
theorem sq_take {w : World} {B n : Nat} {A : Option Addr} {l : List Cel} (h : Sq w B 3 n A (flat l)) {k : Nat} (hk : k ≤ n) : Sq w B 3 k A (flat (l.take k)) := by
 have hl : l.length = n := by have := h.len; rw [flat_length] at this; omega
 refine ⟨by rw [flat_length, List.length_take]; omega, fun h0 => ?_⟩
 obtain ⟨b, off, e, hb, hc⟩ := h.spot (by omega)
 refine ⟨b, off, e, hb, fun j u hu => hc j u ?_⟩
 have e2 : flat l = flat (l.take k) ++ flat (l.drop k) := by rw [← flat_append, List.take_append_drop]
 rw [e2, List.getElem?_append_left (by obtain ⟨h1, _⟩ := List.getElem?_eq_some_iff.1 hu; exact h1)]
 exact hu
end Go.Proofs.YtgmijnnhanpocaaGreatDoor



namespace Go.Proofs.YtgmijnnhanpocaaGreatDoor
open Go.ChangeShapes Go.WideShapes Go.ChangeAt Go.RowKit
end Go.Proofs.YtgmijnnhanpocaaGreatDoor
namespace Go.Proofs.YtgmijnnhanpocaaGreatDoor
open Go.ChangeShapes Go.WideShapes Go.ChangeAt Go.RowKit
def RowAt (w : World) (g : Nat) (v : Value) (wrap : Bool) : Prop := w.heap[g]? = some (.cells #[v, .bool wrap] 48 (0, 0))
theorem RowAt.get {w : World} {g : Nat} {v : Value} {wrap : Bool} (h : RowAt w g v wrap) (j : Nat) : w.cell? ⟨g, j, none⟩ = #[v, .bool wrap][j]? := cell_of_row w g j _ _ (0, 0) h
theorem RowAt.free {w : World} {g : Nat} {v : Value} {wrap : Bool} (h : RowAt w g v wrap) (j : Nat) : w.frozen? ⟨g, j, none⟩ = false := frozen_of_row w g j _ _ h
theorem RowAt.lt {w : World} {g : Nat} {v : Value} {wrap : Bool} (h : RowAt w g v wrap) : g < w.heap.size := (Array.getElem?_eq_some_iff.1 h).1
theorem RowAt.put {w : World} {g : Nat} {v : Value} {wrap : Bool} (h : RowAt w g v wrap) (v' : Value) : RowAt (w.setCell ⟨g, 0, none⟩ v') g v' wrap := heap_setCell_same w g 0 _ _ _ h
theorem RowAt.put2 {w : World} {g : Nat} {v : Value} {wrap : Bool} (h : RowAt w g v wrap) (v' : Value) (wrap' : Bool) : RowAt ((w.setCell ⟨g, 0, none⟩ v').setCell ⟨g, 1, none⟩ (.bool wrap')) g v' wrap' := heap_setCell_same _ g 1 _ _ _ (heap_setCell_same w g 0 _ _ _ h)
theorem HasC.nothing (w : World) (base : Nat) : HasC w base (.slice none 0 0) [] := World.ownsRow_nil w base _ _
theorem HasC.shape {w : World} {base : Nat} {v : Value} {l : List Cel} (h : HasC w base v l) : ∃ A c, v = .slice A l.length c ∧ l.length ≤ c := by
 rcases h.2 with ⟨rfl, h0⟩ | ⟨g, cap, cur, rfl, _, _, hc, _⟩
 ·rw [h0]; exact ⟨_, _, rfl, Nat.le_refl _⟩
 ·exact ⟨_, _, rfl, hc⟩
theorem HasC.lt {w : World} {base : Nat} {v : Value} {l : List Cel} (h : HasC w base v l) : ∀ k, v.ownBlock = some k → base ≤ k ∧ k < w.heap.size := fun k e => World.ownsRow.lt h k e
theorem HasC.keep {w w' : World} {base : Nat} {v : Value} {l : List Cel} (h : HasC w base v l) (hk : ∀ k, v.ownBlock = some k → w'.heap[k]? = w.heap[k]?) : HasC w' base v l := by
 refine ⟨h.1, ?_⟩
 rcases h.2 with e | ⟨g, cap, cur, rfl, e2, e3, r⟩
 ·exact .inl e
 ·exact .inr ⟨g, cap, cur, rfl, e2, (hk g rfl).trans e3, r⟩
theorem HasC.mono {w : World} {base base' : Nat} {v : Value} {l : List Cel} (h : HasC w base v l) (hb : base' ≤ base) : HasC w base' v l := by
 refine ⟨h.1, ?_⟩
 rcases h.2 with e | ⟨g, cap, cur, rfl, e2, r⟩
 ·exact .inl e
 ·exact .inr ⟨g, cap, cur, rfl, Nat.le_trans hb e2, r⟩
theorem HasC.sq {w : World} {base n c : Nat} {A : Option Addr} {l : List Cel} (h : HasC w base (.slice A n c) l) : Sq w w.heap.size 3 n A (flat l) := by
 obtain ⟨A', c', e, _⟩ := HasC.shape h
 injection e with e1 e2 e3
 subst e1 e2 e3
 exact Sq.own h
end Go.Proofs.YtgmijnnhanpocaaGreatDoor
