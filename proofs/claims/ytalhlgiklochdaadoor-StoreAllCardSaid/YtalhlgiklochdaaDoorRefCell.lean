/-
  The reference's Cell: may a cell be?
-/
import Derived.Test.YtalhlgiklochdaaDoorRefCellR
namespace Go.Proofs.YtalhlgiklochdaaDoor
open Go.ChangeShapes Go.WideShapes Go.ChangeAt Go.RowKit

theorem eql_cell (r n a : Int) (w : World) : (binOp .eql 45 (cellV r n a) (cellV 0 1 0)).run Tryd.prog w = .ok (.bool (isB 0 r n a)) w := by
  have hw := w
  unfold isB
  cases h1 : (r == 0) <;> cases h2 : (n == 1) <;> cases h3 : (a == 0) <;> go_simp
set_option maxRecDepth 100000 in
set_option maxHeartbeats 3200000 in
theorem refCell_walk (r n a : Int) (hr0 : -2147483648 ≤ r) (hr1 : r ≤ 2147483647) (w : World) : Calls Tryd.prog 55 #[cellV r n a] w fun e w' => e = .returned (.bool (mayB (r, n, a))) ∧ Below w.heap.size w w' := by
  by_cases ha : 0 ≤ a ∧ a ≤ 255
  · obtain ⟨h0, h1⟩ := ha
    have RN := Lib.hid (RC.new w r n a)
    have EC := Lib.hid (fun w => eql_cell r n a w)
    go_enter Tryd.func55, Tryd.ntmps55
    go_wp2_with fail
    refine Ord.start (S := RC w r n a) (n := 27) (by kernel_rfl) (by kernel_rfl) RN.out.drew ?_
    cases hb : isB 0 r n a
    · have hE : ∀ w, (binOp .eql 45 (cellV r n a) (cellV 0 1 0)).run Tryd.prog w = .ok (.bool false) w := fun w => (EC.out w).trans (by rw [hb])
      by_cases hn : n = 0
      · subst hn
        cases hr : (r == 0)
        · have MB := Lib.hid (show mayB (r, 0, a) = false by rw [mayB_half h0 h1, hr])
          refine refCell_none ⟨by kernel_rfl, by kernel_rfl⟩ (fun _ _ _ _ _ h => h) hE rfl hr (by omega) _ _ ⟨rfl, rfl, rfl⟩ RN.out.drew ?_
          intro a' w' h2 hd hS
          have OUT := Lib.hid hS.below
          have E2 := Lib.hid h2
          clear hS h2
          go_wp2
          refine bodyPost_ret (v := .bool false) ?_ hd ⟨by rw [MB.out], OUT.out⟩
          have e := E2.out
          unfold Chain.At at e
          simp [results, Tryd.results55, go_sem, e]
        · have MB := Lib.hid (show mayB (r, 0, a) = true by rw [mayB_half h0 h1, hr])
          refine refCell_half ⟨by kernel_rfl, by kernel_rfl⟩ (fun _ _ _ _ _ h => h) hE rfl hr _ _ ⟨rfl, rfl, rfl⟩ RN.out.drew ?_
          intro a' w' h2 hd hS
          have OUT := Lib.hid hS.below
          have E2 := Lib.hid h2
          clear hS h2
          go_wp2
          refine bodyPost_ret (v := .bool true) ?_ hd ⟨by rw [MB.out], OUT.out⟩
          have e := E2.out
          unfold Chain.At at e
          simp [results, Tryd.results55, go_sem, e]
      · have hz : (n == 0) = false := by simpa using hn
        by_cases hp : 0 < n
        · obtain ⟨b, hbb⟩ : ∃ b, (n == wof r) = b := ⟨_, rfl⟩
          have MB := Lib.hid (show mayB (r, n, a) = b by rw [mayB_sign h0 h1 hn, hb, ← hbb, Bool.eq_iff_iff]; simp only [Bool.or_false, beq_iff_eq]; exact eq_comm)
          refine refCell_sign ⟨by kernel_rfl, by kernel_rfl⟩ (fun _ _ _ _ _ h => h) hE hr0 hr1 hz hp hbb _ _ ⟨rfl, rfl, rfl⟩ RN.out.drew ?_
          intro a' w' h2 hd hS
          have OUT := Lib.hid hS.below
          have E2 := Lib.hid h2
          clear hS h2
          go_wp2
          refine bodyPost_ret (v := .bool b) ?_ hd ⟨by rw [MB.out], OUT.out⟩
          have e := E2.out
          unfold Chain.At at e
          simp [results, Tryd.results55, go_sem, e]
        · have MB := Lib.hid (show mayB (r, n, a) = false by
            rw [mayB_sign h0 h1 hn, hb]
            have := wof_range r
            simp
            omega)
          refine refCell_less ⟨by kernel_rfl, by kernel_rfl⟩ (fun _ _ _ _ _ h => h) hE hz hp _ _ ⟨rfl, rfl, rfl⟩ RN.out.drew ?_
          intro a' w' h2 hd hS
          have OUT := Lib.hid hS.below
          have E2 := Lib.hid h2
          clear hS h2
          go_wp2
          refine bodyPost_ret (v := .bool false) ?_ hd ⟨by rw [MB.out], OUT.out⟩
          have e := E2.out
          unfold Chain.At at e
          simp [results, Tryd.results55, go_sem, e]
    · have hn : n ≠ 0 := by unfold isB at hb; simp at hb; omega
      have MB := Lib.hid (show mayB (r, n, a) = true by rw [mayB_sign h0 h1 hn, hb]; simp)
      have hE : ∀ w, (binOp .eql 45 (cellV r n a) (cellV 0 1 0)).run Tryd.prog w = .ok (.bool true) w := fun w => (EC.out w).trans (by rw [hb])
      refine refCell_pad ⟨by kernel_rfl, by kernel_rfl⟩ (fun _ _ _ _ _ h => h) hE _ _ ⟨rfl, rfl, rfl⟩ RN.out.drew ?_
      intro a' w' h2 hd hS
      have OUT := Lib.hid hS.below
      have E2 := Lib.hid h2
      clear hS h2
      go_wp2
      refine bodyPost_ret (v := .bool true) ?_ hd ⟨by rw [MB.out], OUT.out⟩
      have e := E2.out
      unfold Chain.At at e
      simp [results, Tryd.results55, go_sem, e]
  · rw [mayB_out (by omega)]
    by_cases h : a < 0
    all_goals
      go_enter Tryd.func55, Tryd.ntmps55
      go_wp2
      go_ret
      exact ⟨rfl, (Below.refl _ _).alloc (Nat.le_refl _) _⟩
end Go.Proofs.YtalhlgiklochdaaDoor
