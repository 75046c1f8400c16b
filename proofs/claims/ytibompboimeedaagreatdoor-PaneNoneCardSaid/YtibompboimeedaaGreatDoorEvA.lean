/-
  An evaluator for closed calls over any program: its values, its heap, what they say of a world.
-/
import Derived.CallsIn
import Derived.OrdersIn
namespace Go.Proofs.YtibompboimeedaaGreatDoor.Ev

/-- A table by numbers. -/
inductive Tr (α : Type) where
  | lf : Tr α
  | nd (o : Option α) (l r : Tr α) : Tr α

namespace Tr
variable {α : Type}
noncomputable def get (t : Tr α) : Nat → Option α :=
  @Tr.rec α (fun _ => Nat → Option α) (fun _ => none) (fun o _ _ gl gr k => @Bool.rec (fun _ => Option α) (@Bool.rec (fun _ => Option α) (gr (Nat.sub (Nat.div k 2) 1)) (gl (Nat.div k 2)) (Nat.beq (Nat.mod k 2) 1)) o (Nat.beq k 0)) t
noncomputable def setN (n : Nat) : Tr α → Nat → Option α → Tr α :=
  @Nat.rec (fun _ => Tr α → Nat → Option α → Tr α) (fun t _ _ => t) (fun _ ih t k v => @Tr.rec α (fun _ => Tr α)
    (@Bool.rec (fun _ => Tr α) (@Bool.rec (fun _ => Tr α) (.nd none .lf (ih .lf (Nat.sub (Nat.div k 2) 1) v)) (.nd none (ih .lf (Nat.div k 2) v) .lf) (Nat.beq (Nat.mod k 2) 1)) (.nd v .lf .lf) (Nat.beq k 0))
    (fun o l r _ _ => @Bool.rec (fun _ => Tr α) (@Bool.rec (fun _ => Tr α) (.nd o l (ih r (Nat.sub (Nat.div k 2) 1) v)) (.nd o (ih l (Nat.div k 2) v) r) (Nat.beq (Nat.mod k 2) 1)) (.nd v l r) (Nat.beq k 0)) t) n
theorem recB (b : Bool) (x y : α) : @Bool.rec (fun _ => α) y x b = bif b then x else y := by cases b <;> rfl
theorem get_nd (o : Option α) (l r : Tr α) (k : Nat) : (Tr.nd o l r).get k = bif k.beq 0 then o else bif (k % 2).beq 1 then l.get (k / 2) else r.get (k / 2 - 1) := (recB _ _ _).trans (congrArg (cond _ _) (recB _ _ _))
theorem setN_zero (t : Tr α) (k : Nat) (v : Option α) : setN 0 t k v = t := rfl
theorem setN_lf (n k : Nat) (v : Option α) : setN (n + 1) .lf k v = bif k.beq 0 then .nd v .lf .lf else bif (k % 2).beq 1 then .nd none (setN n .lf (k / 2) v) .lf else .nd none .lf (setN n .lf (k / 2 - 1) v) := (recB _ _ _).trans (congrArg (cond _ _) (recB _ _ _))
theorem setN_nd (n k : Nat) (o : Option α) (l r : Tr α) (v : Option α) : setN (n + 1) (.nd o l r) k v = bif k.beq 0 then .nd v l r else bif (k % 2).beq 1 then .nd o (setN n l (k / 2) v) r else .nd o l (setN n r (k / 2 - 1) v) := (recB _ _ _).trans (congrArg (cond _ _) (recB _ _ _))
noncomputable def put (t : Tr α) (k : Nat) (v : Option α) : Tr α := setN (k + 1) t k v

theorem three (k : Nat) : k = 0 ∨ (∃ m, k = 2 * m + 1) ∨ ∃ m, k = 2 * m + 2 := by
  rcases Nat.mod_two_eq_zero_or_one k with h | h
  · by_cases h0 : k = 0
    · exact .inl h0
    · exact .inr (.inr ⟨k / 2 - 1, by omega⟩)
  · exact .inr (.inl ⟨k / 2, by omega⟩)
theorem odd (m : Nat) : (2 * m + 1) / 2 = m ∧ ((2 * m + 1).beq 0) = false ∧ (((2 * m + 1) % 2).beq 1) = true := ⟨by omega, rfl, by rw [show (2 * m + 1) % 2 = 1 by omega]; rfl⟩
theorem even (m : Nat) : (2 * m + 2) / 2 - 1 = m ∧ ((2 * m + 2).beq 0) = false ∧ (((2 * m + 2) % 2).beq 1) = false := ⟨by omega, rfl, by rw [show (2 * m + 2) % 2 = 0 by omega]; rfl⟩
theorem get0 (o : Option α) (l r : Tr α) : (Tr.nd o l r).get 0 = o := rfl
theorem get1 (o : Option α) (l r : Tr α) (m : Nat) : (Tr.nd o l r).get (2 * m + 1) = l.get m := by simp only [get_nd, odd m, cond_true, cond_false]
theorem get2 (o : Option α) (l r : Tr α) (m : Nat) : (Tr.nd o l r).get (2 * m + 2) = r.get m := by simp only [get_nd, even m, cond_false]
theorem get_lf (k : Nat) : (Tr.lf : Tr α).get k = none := rfl
theorem get_setN : ∀ (n : Nat) (t : Tr α) (k : Nat) (v : Option α), k < n → ∀ j, (setN n t k v).get j = if j = k then v else t.get j := by
  intro n
  induction n with
  | zero => intro t k v h; omega
  | succ n ih =>
    intro t k v h j
    have b0 : Nat.beq 0 0 = true := rfl
    rcases three k with rfl | ⟨m, rfl⟩ | ⟨m, rfl⟩
    · rcases three j with rfl | ⟨i, rfl⟩ | ⟨i, rfl⟩ <;> cases t <;> simp only [setN_lf, setN_nd, b0, cond_true, get0, get1, get2, get_lf] <;> simp
    · have := fun t => ih t m v (by omega)
      rcases three j with rfl | ⟨i, rfl⟩ | ⟨i, rfl⟩ <;> cases t <;> simp only [setN_lf, setN_nd, odd m, cond_true, cond_false, get0, get1, get2, get_lf, this]
      · rw [if_neg (by omega)]
      · rw [if_neg (by omega)]
      · by_cases e : i = m
        · rw [if_pos e, if_pos (by omega)]
        · rw [if_neg e, if_neg (by omega)]
      · by_cases e : i = m
        · rw [if_pos e, if_pos (by omega)]
        · rw [if_neg e, if_neg (by omega)]
      · rw [if_neg (by omega)]
      · rw [if_neg (by omega)]
    · have := fun t => ih t m v (by omega)
      rcases three j with rfl | ⟨i, rfl⟩ | ⟨i, rfl⟩ <;> cases t <;> simp only [setN_lf, setN_nd, even m, cond_false, get0, get1, get2, get_lf, this]
      · rw [if_neg (by omega)]
      · rw [if_neg (by omega)]
      · rw [if_neg (by omega)]
      · rw [if_neg (by omega)]
      · by_cases e : i = m
        · rw [if_pos e, if_pos (by omega)]
        · rw [if_neg e, if_neg (by omega)]
      · by_cases e : i = m
        · rw [if_pos e, if_pos (by omega)]
        · rw [if_neg e, if_neg (by omega)]
theorem get_put (t : Tr α) (k : Nat) (v : Option α) (j : Nat) : (t.put k v).get j = if j = k then v else t.get j := get_setN (k + 1) t k v (by omega) j
theorem get_put_self (t : Tr α) (k : Nat) (v : Option α) : (t.put k v).get k = v := by simp [get_put]
theorem get_put_ne (t : Tr α) {k j : Nat} (v : Option α) (h : j ≠ k) : (t.put k v).get j = t.get j := by simp [get_put, h]
/-- A list, from a number on. -/
noncomputable def ofL : Tr α → Nat → List α → Tr α
  | t, _, [] => t
  | t, k, x :: l => ofL (t.put k (some x)) (k + 1) l
theorem get_ofL (l : List α) : ∀ (t : Tr α) (k j : Nat), (ofL t k l).get j = if k ≤ j ∧ j < k + l.length then l[j - k]? else t.get j := by
  induction l with
  | nil => intro t k j; simp [ofL]; omega
  | cons x l ih =>
    intro t k j
    simp only [ofL, ih, get_put, List.length_cons]
    by_cases h1 : j = k
    · subst h1
      rw [if_neg (by omega), if_pos rfl, if_pos (by omega), Nat.sub_self]; rfl
    · by_cases h2 : k ≤ j ∧ j < k + (l.length + 1)
      · have : k + 1 ≤ j ∧ j < k + 1 + l.length := by omega
        simp only [this, h2, if_true, and_self]
        obtain ⟨m, rfl⟩ : ∃ m, j = k + 1 + m := ⟨j - (k + 1), by omega⟩
        rw [show k + 1 + m - (k + 1) = m by omega, show k + 1 + m - k = m + 1 by omega]; simp
      · have : ¬ (k + 1 ≤ j ∧ j < k + 1 + l.length) := by omega
        simp [this, h2, h1]
end Tr
end Go.Proofs.YtibompboimeedaaGreatDoor.Ev
