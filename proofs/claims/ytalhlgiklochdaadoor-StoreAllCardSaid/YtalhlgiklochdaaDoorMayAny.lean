/-
  cell.May of any cell.
-/
import Derived.Test.YtalhlgiklochdaaDoorCellb
import Derived.Test.YtalhlgiklochdaaDoorPackMath
namespace Go.Proofs.YtalhlgiklochdaaDoor
open Go.ChangeShapes Go.WideShapes Go.ChangeAt Go.RowKit

theorem mayB_out {r n a : Int} (h : a < 0 ∨ 255 < a) : mayB (r, n, a) = false := by
  unfold mayB
  rcases h with h | h
  · simp [show ¬ 0 ≤ a by omega]
  · simp [show ¬ a ≤ 255 by omega]
theorem mayB_half {r a : Int} (h0 : 0 ≤ a) (h1 : a ≤ 255) : mayB (r, 0, a) = (r == 0) := by
  unfold mayB
  simp [h0, h1]
theorem mayB_sign {r n a : Int} (h0 : 0 ≤ a) (h1 : a ≤ 255) (hn : n ≠ 0) : mayB (r, n, a) = ((wof r == n) || isB 0 r n a) := by
  have hw := wof_range r
  have e : (decide (0 < n) && n == wof r) = (wof r == n) := by
    rw [Bool.eq_iff_iff]
    simp only [Bool.and_eq_true, decide_eq_true_eq, beq_iff_eq]
    omega
  have e2 : ((r, n, a) == ((0 : Int), (1 : Int), (0 : Int))) = isB 0 r n a := by
    unfold isB
    rw [Bool.eq_iff_iff]
    simp only [Bool.and_eq_true, beq_iff_eq, Prod.mk.injEq, and_assoc]
  unfold mayB
  simp only [h0, h1, decide_true, Bool.true_and, e, e2, show (n == 0) = false by simpa using hn, Bool.false_and, Bool.or_false]
  exact Bool.or_comm _ _

set_option maxRecDepth 100000 in
set_option maxHeartbeats 3200000 in
theorem may_any (r n a : Int) (hr0 : -2147483648 ≤ r) (hr1 : r ≤ 2147483647) (w : World) (hs : Spans w) : Calls Tryd.prog 54 #[cellV r n a] w fun e w' => e = .returned (.bool (mayB (r, n, a))) ∧ Below w.heap.size w w' := by
  by_cases ha : 0 ≤ a ∧ a ≤ 255
  · obtain ⟨h0, h1⟩ := ha
    by_cases hn : n = 0
    · subst hn
      rw [mayB_half h0 h1]
      clear hs
      cases h : (r == 0)
      all_goals
        go_enter Tryd.func54, Tryd.ntmps54
        go_wp2_with (go_at_call 71; refine (mayAttr_yes a h0 h1 _).mono ?_; rintro e w' ⟨rfl, rfl⟩)
        go_ret
        exact ⟨rfl, (Below.refl _ _).alloc (Nat.le_refl _) _⟩
    · rw [mayB_sign h0 h1 hn]
      have hz : (n == 0) = false := by simpa using hn
      have F := fun w hs => of_walk r hr0 hr1 w hs
      have P := fun w => isPad_walk r n a w
      obtain ⟨m, hm⟩ : ∃ m, wof r = m := ⟨_, rfl⟩
      rw [hm] at F ⊢
      obtain ⟨q, hq⟩ : ∃ q, isB 0 r n a = q := ⟨_, rfl⟩
      rw [hq] at P ⊢
      have FH := Lib.hid F
      have PH := Lib.hid P
      have SA := hs.below ((Below.refl w.heap.size w).alloc (Nat.le_refl _) (.cells #[.int .i32 r, .int .i64 n, .int .i64 a] 45)) hs.size
      have SH := Lib.hid SA
      clear F P hm hq hs SA hn
      cases h : (m == n)
      · cases q
        all_goals
          go_enter Tryd.func54, Tryd.ntmps54
          go_wp2_with (go_at_call 71; refine (mayAttr_yes a h0 h1 _).mono ?_; rintro e w' ⟨rfl, rfl⟩)
          go_region_with (first | (go_at_call 72; refine (FH.out _ (by first | exact SH.out | exact Spans.drew SH.out | exact Spans.drew (Spans.drew SH.out))).mono ?_; rintro e w' ⟨rfl, rfl⟩) | (go_at_call 73; refine (PH.out _).mono ?_; rintro e w3 ⟨rfl, b3⟩))
          all_goals go_wp2
          all_goals go_ret
          all_goals first
            | exact ⟨rfl, (Below.refl _ _).alloc (Nat.le_refl _) _⟩
            | exact ⟨rfl, ((Below.refl _ _).alloc (Nat.le_refl _) _).drew⟩
            | exact ⟨rfl, ((Below.refl _ _).alloc (Nat.le_refl _) _).trans (b3.mono (by simp))⟩
            | exact ⟨rfl, (((Below.refl _ _).alloc (Nat.le_refl _) _).drew).trans (b3.mono (by simp))⟩
      · cases q
        all_goals
          go_enter Tryd.func54, Tryd.ntmps54
          go_wp2_with (go_at_call 71; refine (mayAttr_yes a h0 h1 _).mono ?_; rintro e w' ⟨rfl, rfl⟩)
          go_region_with (first | (go_at_call 72; refine (FH.out _ (by first | exact SH.out | exact Spans.drew SH.out | exact Spans.drew (Spans.drew SH.out))).mono ?_; rintro e w' ⟨rfl, rfl⟩) | (go_at_call 73; refine (PH.out _).mono ?_; rintro e w3 ⟨rfl, b3⟩))
          all_goals go_wp2
          all_goals go_ret
          all_goals first
            | exact ⟨rfl, (Below.refl _ _).alloc (Nat.le_refl _) _⟩
            | exact ⟨rfl, ((Below.refl _ _).alloc (Nat.le_refl _) _).drew⟩
            | exact ⟨rfl, ((Below.refl _ _).alloc (Nat.le_refl _) _).trans (b3.mono (by simp))⟩
            | exact ⟨rfl, (((Below.refl _ _).alloc (Nat.le_refl _) _).drew).trans (b3.mono (by simp))⟩
  · rw [mayB_out (by omega)]
    have M := Lib.hid (fun w => mayAttr_no a (by omega) w)
    clear hs ha
    go_enter Tryd.func54, Tryd.ntmps54
    go_wp2_with (go_at_call 71; refine (M.out _).mono ?_; rintro e w' ⟨rfl, rfl⟩)
    go_ret
    exact ⟨rfl, (Below.refl _ _).alloc (Nat.le_refl _) _⟩
end Go.Proofs.YtalhlgiklochdaaDoor
