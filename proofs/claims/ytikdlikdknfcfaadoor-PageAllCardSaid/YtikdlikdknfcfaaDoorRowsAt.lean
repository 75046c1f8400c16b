/-
  One row out of a slice of rows that came in.
-/
import Derived.Test.YtikdlikdknfcfaaDoorRowArgs
namespace Go.Proofs.YtikdlikdknfcfaaDoor
open Go.ChangeShapes Go.WideShapes Go.ChangeAt Go.RowKit

theorem flatMap_get {α : Type} (f : α → List Value) (s : Nat) (hs : ∀ x, (f x).length = s) : ∀ (l : List α) (k : Nat) (x : α), l[k]? = some x → ∀ (j : Nat) (u : Value), (f x)[j]? = some u → (l.flatMap f)[k * s + j]? = some u
  | [], k, x, h, _, _, _ => by simp at h
  | y :: l, 0, x, h, j, u, hu => by
    simp at h
    subst h
    rw [List.flatMap_cons, Nat.zero_mul, Nat.zero_add, List.getElem?_append_left (List.getElem?_eq_some_iff.1 hu).1]
    exact hu
  | y :: l, k + 1, x, h, j, u, hu => by
    have ih := flatMap_get f s hs l k x (by simpa using h) j u hu
    rw [List.flatMap_cons, List.getElem?_append_right (by rw [hs, Nat.succ_mul]; omega), hs, show (k + 1) * s + j - s = k * s + j by rw [Nat.succ_mul]; omega]
    exact ih
theorem rows_at {W : World} {B n k : Nat} {A : Option Addr} {l : List RowIn} {r : RowIn} (hq : Sq W B 2 n A (l.flatMap RowIn.vals)) (hr : l[k]? = some r) (hk : k < n) :
    ∃ b off, A = some ⟨b, off, none⟩ ∧ b < B ∧ W.cell? ⟨b, off + k * 2, none⟩ = some (.slice r.A r.n r.c) ∧ W.cell? ⟨b, off + k * 2 + 1, none⟩ = some (.bool r.wrap) := by
  obtain ⟨b, off, e, hb, hc⟩ := hq.spot (by omega)
  have h0 := hc (k * 2 + 0) _ (flatMap_get RowIn.vals 2 (fun _ => rfl) l k r hr 0 _ rfl)
  have h1 := hc (k * 2 + 1) _ (flatMap_get RowIn.vals 2 (fun _ => rfl) l k r hr 1 _ rfl)
  exact ⟨b, off, e, hb, by simpa using h0, by rw [Nat.add_assoc]; exact h1⟩
end Go.Proofs.YtikdlikdknfcfaaDoor
