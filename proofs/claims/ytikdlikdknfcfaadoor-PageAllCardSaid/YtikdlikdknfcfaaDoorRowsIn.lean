/-
  A list of rows in memory that grows: a row of two cells each, their cells in blocks of their own.
-/
import Derived.Test.YtikdlikdknfcfaaDoorRowsAt
import Derived.Test.YtikdlikdknfcfaaDoorStore
import Derived.Test.YtikdlikdknfcfaaDoorStr
namespace Go.Proofs.YtikdlikdknfcfaaDoor
open Go.ChangeShapes Go.WideShapes Go.ChangeAt Go.RowKit

theorem infoRow : (Tryd.prog.info? 31).map (fun i => (i.zero, i.size, i.bytes)) = some (some (.agg #[.slice none 0 0, .bool false]), 2, 32) := by kernel_rfl
/-- Rows one behind the other in a slice of the function's own. -/
structure RowsIn (W : World) (base : Nat) (v : Value) (xs : List RowIn) : Prop where
  own : W.ownsRow base 31 2 v xs.length (xs.flatMap RowIn.vals)
  each : ∀ x ∈ xs, HasC W 0 (.slice x.A x.n x.c) x.l ∧ ∀ c ∈ x.l, -2147483648 ≤ c.1 ∧ c.1 ≤ 2147483647
namespace RowsIn
variable {W W' : World} {base : Nat} {v v' : Value} {xs : List RowIn}
theorem nothing (W : World) (base : Nat) : RowsIn W base (.slice none 0 0) [] := ⟨World.ownsRow_nil W base _ _, fun _ h => by cases h⟩
theorem typed (h : RowsIn W base v xs) : ∀ k, v.ownBlock = some k → Typed W 31 k := by
  intro k hk
  rcases h.own.2 with ⟨e, _⟩ | ⟨g, cap, cur, e, _, e3, _⟩
  · rw [e] at hk; cases hk
  · rw [e] at hk
    injection hk with hk
    subst hk
    exact ⟨_, _, e3⟩
theorem turned {M : Nat → Prop} (h : RowsIn W base v xs) (ht : Turned M W W') (hv : ∀ k, v.ownBlock = some k → ¬ M k) (hc : ∀ k, M k → ¬ Typed W 45 k) : RowsIn W' base v xs := by
  refine ⟨⟨h.own.1, ?_⟩, fun x hx => ⟨?_, (h.each x hx).2⟩⟩
  · rcases h.own.2 with e | ⟨g, cap, cur, e, e2, e3, r⟩
    · exact .inl e
    · exact .inr ⟨g, cap, cur, e, e2, (ht.block g (Array.getElem?_eq_some_iff.1 e3).1 (hv g (by rw [e]; rfl))).trans e3, r⟩
  · have hx' := (h.each x hx).1
    refine ⟨hx'.1, ?_⟩
    rcases hx'.2 with e | ⟨g, cap, cur, e, e2, e3, r⟩
    · exact .inl e
    · exact .inr ⟨g, cap, cur, e, e2, (ht.block g (Array.getElem?_eq_some_iff.1 e3).1 (fun m => hc g m ⟨_, _, e3⟩)).trans e3, r⟩
theorem below (h : RowsIn W base v xs) (hb : Below W.heap.size W W') : RowsIn W' base v xs := h.turned (M := fun _ => False) (Turned.ofBelow hb _) (fun _ _ h => h) (fun _ h => h.elim)
/-- The slice in the next world after one row was put behind. -/
theorem snoc {x : RowIn} (h : RowsIn W base v xs) (hg : W.grownBy W' v.ownBlock) (ho : W'.ownsRow base 31 2 v' (xs.length + 1) (xs.flatMap RowIn.vals ++ x.vals)) (hx : HasC W 0 (.slice x.A x.n x.c) x.l) (hs : ∀ c ∈ x.l, -2147483648 ≤ c.1 ∧ c.1 ≤ 2147483647) : RowsIn W' base v' (xs ++ [x]) := by
  have ht := Turned.ofGrown hg
  have hc : ∀ k, v.ownBlock = some k → ¬ Typed W 45 k := fun k hk hty => (h.typed k hk).apart hty (by decide) rfl
  have one : ∀ y : RowIn, HasC W 0 (.slice y.A y.n y.c) y.l → HasC W' 0 (.slice y.A y.n y.c) y.l := fun y hy => by
    refine ⟨hy.1, ?_⟩
    rcases hy.2 with e | ⟨g, cap, cur, e, e2, e3, r⟩
    · exact .inl e
    · exact .inr ⟨g, cap, cur, e, e2, (ht.block g (Array.getElem?_eq_some_iff.1 e3).1 (fun m => hc g m ⟨_, _, e3⟩)).trans e3, r⟩
  refine ⟨?_, fun y hy => ?_⟩
  · rw [List.length_append, List.flatMap_append]
    simpa [List.flatMap_cons] using ho
  · rcases List.mem_append.1 hy with hy | hy
    · exact ⟨one y (h.each y hy).1, (h.each y hy).2⟩
    · rw [List.mem_singleton.1 hy]
      exact ⟨one x hx, hs⟩
theorem shape (h : RowsIn W base v xs) : ∃ A c, v = .slice A xs.length c ∧ xs.length ≤ c := by
  rcases h.own.2 with ⟨rfl, h0⟩ | ⟨g, cap, cur, rfl, _, _, hc, _⟩
  · rw [h0]; exact ⟨_, _, rfl, Nat.le_refl _⟩
  · exact ⟨_, _, rfl, hc⟩
/-- One of the rows. -/
theorem get {k : Nat} {x : RowIn} (h : RowsIn W base v xs) (hx : xs[k]? = some x) : ∃ g c, v = .slice (some ⟨g, 0, none⟩) xs.length c ∧ xs.length ≤ c ∧ base ≤ g ∧ g < W.heap.size ∧ W.cell? ⟨g, k * 2, none⟩ = some (.slice x.A x.n x.c) ∧ W.cell? ⟨g, k * 2 + 1, none⟩ = some (.bool x.wrap) := by
  have hk := (List.getElem?_eq_some_iff.1 hx).1
  obtain ⟨g, c, e, h1, h2, h3, hc⟩ := own_at h.own (by omega)
  exact ⟨g, c, e, h1, h2, h3, hc (k * 2) _ (by have := flatMap_get RowIn.vals 2 (fun _ => rfl) xs k x hx 0 _ rfl; simpa using this), hc (k * 2 + 1) _ (flatMap_get RowIn.vals 2 (fun _ => rfl) xs k x hx 1 _ rfl)⟩
theorem lt (h : RowsIn W base v xs) : ∀ k, v.ownBlock = some k → base ≤ k ∧ k < W.heap.size := fun k e => World.ownsRow.lt h.own k e
end RowsIn
theorem vals_one (x : RowIn) : ∀ u ∈ x.vals, u.oneCell' = true := by
  intro u hu
  unfold RowIn.vals at hu
  simp at hu
  rcases hu with rfl | rfl <;> rfl
end Go.Proofs.YtikdlikdknfcfaaDoor
