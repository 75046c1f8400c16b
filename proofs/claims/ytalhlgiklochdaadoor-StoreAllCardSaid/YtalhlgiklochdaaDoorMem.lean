/-
  Words for memory: a slice whose cells are a list; what stands below a block; small facts on lists. Nothing of the program but its number kinds.
-/
import Derived.Test.YtalhlgiklochdaaDoorRows
import Derived.WalkKit
import Derived.ProofKit
import Derived.OpenShut
import Derived.Lib.Hide
namespace Go.Proofs.YtalhlgiklochdaaDoor
open Go.ChangeShapes Go.WideShapes Go.ChangeAt Go.RowKit

theorem ret_int {k : IntKind} {a b : Int} (h : a = b) : Ending.returned (.int k a) = .returned (.int k b) := by rw [h]
theorem ret_bool {a b : Bool} (h : a = b) : Ending.returned (.bool a) = .returned (.bool b) := by rw [h]
theorem ret_str {a b : ByteArray} (h : a = b) : Ending.returned (.string a) = .returned (.string b) := by rw [h]

/-- The slice at A, of n elements of so many cells each, holds the cells xs, in a block below B. -/
structure Sq (w : World) (B size n : Nat) (A : Option Addr) (xs : List Value) : Prop where
  len : xs.length = n * size
  spot : 0 < n → ∃ b off, A = some ⟨b, off, none⟩ ∧ b < B ∧ ∀ j u, xs[j]? = some u → w.cell? ⟨b, off + j, none⟩ = some u

/-- The integer at place k (0 behind the end). -/
def nth (l : List Int) (k : Nat) : Int := l.getD k 0
theorem nth_get {l : List Int} {k : Nat} (h : k < l.length) : nth l k = l[k] := by simp [nth, List.getD, h]

namespace Sq
variable {w w' : World} {B B' size n : Nat} {A : Option Addr} {xs : List Value}
theorem nothing (w : World) (B size : Nat) (A : Option Addr) : Sq w B size 0 A [] := ⟨by simp, fun h => absurd h (Nat.lt_irrefl 0)⟩
theorem carry (h : Sq w B size n A xs) (k : ∀ p : Addr, p.block < B → w'.cell? p = w.cell? p) : Sq w' B size n A xs :=
  ⟨h.len, fun hn => let ⟨b, off, e, hb, hc⟩ := h.spot hn; ⟨b, off, e, hb, fun j u hu => (k ⟨b, off + j, none⟩ hb).trans (hc j u hu)⟩⟩
theorem below (h : Sq w B size n A xs) (hb : Below B w w') : Sq w' B size n A xs := h.carry fun _ hp => hb.cell hp
theorem up (h : Sq w B size n A xs) (hB : B ≤ B') : Sq w B' size n A xs :=
  ⟨h.len, fun hn => let ⟨b, off, e, hb, hc⟩ := h.spot hn; ⟨b, off, e, Nat.lt_of_lt_of_le hb hB, hc⟩⟩
theorem alloc (h : Sq w B size n A xs) (hB : B ≤ w.heap.size) (o : Obj) : Sq (w.alloc o) B size n A xs := h.below ((Below.refl _ _).alloc hB o)
theorem setCell (h : Sq w B size n A xs) {p : Addr} (hp : B ≤ p.block) (u : Value) : Sq (w.setCell p u) B size n A xs := h.below ((Below.refl _ _).setCell hp u)
theorem own {base : Nat} {e : TypeId} {c : Nat} (h : w.ownsRow base e size (.slice A n c) n xs) : Sq w w.heap.size size n A xs := by
  refine ⟨h.1, fun hn => ?_⟩
  rcases h.2 with ⟨hv, h0⟩ | ⟨g, cap, cur, hv, _, hg, _, _, _, htake⟩
  · omega
  · have hA : A = some ⟨g, 0, none⟩ := by injection hv
    subst hA
    refine ⟨g, 0, rfl, (Array.getElem?_eq_some_iff.1 hg).1, fun j u hu => ?_⟩
    rw [cell_of_row w g (0 + j) cur e (0, 0) hg, Nat.zero_add]
    rw [← htake, List.getElem?_take] at hu
    split at hu
    · simpa using hu
    · cases hu
/-- one integer of it -/
theorem int_at {k : IntKind} {l : List Int} (h : Sq w B 1 n A (l.map (Value.int k))) {i : Nat} (hi : i < n) : ∃ b off, A = some ⟨b, off, none⟩ ∧ b < B ∧ w.cell? ⟨b, off + i, none⟩ = some (.int k (nth l i)) := by
  obtain ⟨b, off, e, hb, hc⟩ := h.spot (by omega)
  have hl : i < l.length := by have := h.len; simp at this; omega
  exact ⟨b, off, e, hb, hc i _ (by simp [nth_get hl, hl])⟩
theorem size_ints {k : IntKind} {l : List Int} (h : Sq w B 1 n A (l.map (Value.int k))) : l.length = n := by have := h.len; simpa using this
end Sq

/-- Each is an int32. -/
def Runes (l : List Int) : Prop := ∀ r ∈ l, -2147483648 ≤ r ∧ r ≤ 2147483647
theorem Runes.get {l : List Int} (h : Runes l) (i : Nat) : -2147483648 ≤ nth l i ∧ nth l i ≤ 2147483647 := by
  by_cases hi : i < l.length
  · rw [nth_get hi]; exact h _ (List.getElem_mem hi)
  · have e : nth l i = 0 := by simp [nth, List.getD, show l.length ≤ i by omega]
    rw [e]; omega
theorem take_next {l : List Int} {k : Nat} (h : k < l.length) : l.take (k + 1) = l.take k ++ [nth l k] := by
  rw [List.take_succ_eq_append_getElem h, nth_get h]
theorem take_all {α : Type} (l : List α) {k : Nat} (h : l.length ≤ k) : l.take k = l := List.take_of_length_le h
/-- A string's bytes as integers. -/
def octs (s : ByteArray) : List Int := s.data.toList.map fun c => (c.toNat : Int)
theorem octs_length (s : ByteArray) : (octs s).length = s.size := by unfold octs; rw [List.length_map, Array.length_toList]; rfl
theorem nth_octs (s : ByteArray) (k : Nat) (h : k < s.size) : nth (octs s) k = ((s[k]'h).toNat : Int) := by
  have hl : k < (octs s).length := by rw [octs_length]; exact h
  rw [nth_get hl]
  simp only [octs, List.getElem_map]
  rfl
theorem octs_range (s : ByteArray) : ∀ x ∈ octs s, 0 ≤ x ∧ x ≤ 255 := by
  intro x hx
  obtain ⟨c, _, rfl⟩ := List.mem_map.1 hx
  have := c.toNat_lt
  omega
end Go.Proofs.YtalhlgiklochdaaDoor
