/-
  The reference's Spot and Place for what there is not. The reference's Place for a spot, or at a width, that may not be.
-/
import Derived.Test.YtgmijnnhanpocaaGreatDoorQNBase6
import Derived.Test.YtgmijnnhanpocaaGreatDoorQNBase7
namespace Go.Proofs.YtgmijnnhanpocaaGreatDoor
open Go.ChangeShapes Go.WideShapes Go.ChangeAt Go.RowKit
namespace Ln
open Rw
set_option maxRecDepth 100000 in
set_option maxHeartbeats 6400000 in
theorem refSpot_out (A : Option Addr) (n c : Nat) (r pc : Int) (w : World) (h : r < 0 ∨ (n : Int) ≤ r) :
  Calls Tryz.prog 18 #[.slice A n c, .agg #[.int .i64 r, .int .i64 pc]] w fun e w' => e = .returned (spotV (0, 0, 0)) ∧ Below w.heap.size w w' := by
 obtain ⟨S, hS⟩ : ∃ S, w.heap.size = S := ⟨_, rfl⟩
 obtain ⟨w1, hw1⟩ : ∃ w1, (w.alloc (.cells #[.int .i64 r, .int .i64 pc] 25)).alloc (.cells #[.int .i64 0, .int .i64 0, .int .i64 0] 27) = w1 := ⟨_, rfl⟩
 have b1 : Below w.heap.size w w1 := by rw [← hw1]; exact ((Below.refl _ _).alloc (Nat.le_refl _) _).alloc (by simp) _
 have x0 : w1.heap[S]? = some (.cells #[.int .i64 r, .int .i64 pc] 25 (0, 0)) := by rw [← hw1, ← hS]; exact (Below.heap_alloc _ _ _ (by simp)).trans (heap_alloc_new w _)
 have x1 : w1.heap[S + 1]? = some (.cells #[.int .i64 0, .int .i64 0, .int .i64 0] 27 (0, 0)) := by
  rw [← hw1, ← hS]
  have := heap_alloc_new (w.alloc (.cells #[.int .i64 r, .int .i64 pc] 25)) (.cells #[.int .i64 0, .int .i64 0, .int .i64 0] 27)
  rwa [World.size_alloc] at this
 have HW := Lib.hid hw1
 have c0 := cell_of_row _ _ 0 _ _ (0, 0) x0
 have e0 := cell_of_row _ _ 0 _ _ (0, 0) x1
 have e1 := cell_of_row _ _ 1 _ _ (0, 0) x1
 have e2 := cell_of_row _ _ 2 _ _ (0, 0) x1
 have g0 := frozen_of_row _ (S + 1) 0 _ _ x1
 have g1 := frozen_of_row _ (S + 1) 1 _ _ x1
 have g2 := frozen_of_row _ (S + 1) 2 _ _ x1
 have X1 := Lib.hid (And.intro b1 x1)
 have HR := Lib.hid h
 clear hw1 b1 x1 x0 h
 by_cases hr : r < 0
 all_goals
  have hr2 : r < 0 ∨ (n : Int) ≤ r := HR.out
  have hr3 : ¬ r < 0 → (n : Int) ≤ r := fun h => hr2.resolve_left h
  first
  | (have hr4 := hr3 hr; clear hr2 hr3)
  | clear hr2 hr3
  go_enter Tryz.func18, Tryz.ntmps18
  go_upto_region 1 with fail
  rw [HW.out]
  go_wp2_with fail
  have s1 := heap_setCell_same w1 (S + 1) 0 _ _ (.int .i64 0) X1.out.2
  have s2 := heap_setCell_same _ (S + 1) 1 _ _ (.int .i64 0) s1
  have s3 := heap_setCell_same _ (S + 1) 2 _ _ (.int .i64 0) s2
  have B5 := Lib.hid (((X1.out.1.setCell (p := ⟨S + 1, 0, none⟩) (by show w.heap.size ≤ S + 1; omega) (.int .i64 0)).setCell (p := ⟨S + 1, 1, none⟩) (by show w.heap.size ≤ S + 1; omega) (.int .i64 0)).setCell (p := ⟨S + 1, 2, none⟩) (by show w.heap.size ≤ S + 1; omega) (.int .i64 0))
  generalize ((w1.setCell ⟨S + 1, 0, none⟩ (.int .i64 0)).setCell ⟨S + 1, 1, none⟩ (.int .i64 0)).setCell ⟨S + 1, 2, none⟩ (.int .i64 0) = w5 at s3 B5 ⊢
  have r0 : w5.cell? ⟨S + 1, 0, none⟩ = some (.int .i64 0) := cell_of_row _ _ 0 _ _ (0, 0) (by simpa using s3)
  have r1 : w5.cell? ⟨S + 1, 1, none⟩ = some (.int .i64 0) := cell_of_row _ _ 1 _ _ (0, 0) (by simpa using s3)
  have r2 : w5.cell? ⟨S + 1, 2, none⟩ = some (.int .i64 0) := cell_of_row _ _ 2 _ _ (0, 0) (by simpa using s3)
  refine bodyPost_ret (v := spotV (0, 0, 0)) (by simp [results, Tryz.results18, go_sem, r0, r1, r2, spotV]) rfl ?_
  exact ⟨rfl, by have h := B5.out; first | exact h | (rw [hS] at h; exact h)⟩
theorem spotN_far (pc : Int) : ∀ (P : List (List LR)) (pr k : Nat), P.flatten.length ≤ pr → spotN pc pr k P = (0, 0, 0)
 | [], _, _, _ => rfl
 | part :: P, pr, k, h => by
  rw [List.flatten_cons, List.length_append] at h
  rw [spotN, if_neg (by omega)]
  exact spotN_far pc P _ _ (by omega)
theorem refMark_any (A : Option Addr) (n c : Nat) (rs : List RowIn) (p : Int × Int) (w : World) (hr : Rws w w.heap.size A n rs) (hn : n ≤ 3000) :
  Calls Tryz.prog 18 #[.slice A n c, .agg #[.int .i64 p.1, .int .i64 p.2]] w fun e w' => e = .returned (spotV (markN (rs.map lr) p)) ∧ Below w.heap.size w w' := by
 unfold markN
 by_cases h : p.1 < 0
 ·rw [if_pos h]
  exact refSpot_out A n c p.1 p.2 w (.inl h)
 ·rw [if_neg h]
  obtain ⟨q, hq⟩ : ∃ q : Nat, p.1 = (q : Int) := ⟨p.1.toNat, by omega⟩
  rw [hq, Int.toNat_natCast]
  by_cases hlt : q < n
  ·exact refSpot_walk A n c rs q p.2 w hr hn hlt
  ·rw [spotN_far p.2 _ q 0 (by rw [parts_flatten, List.length_map, hr.len]; omega)]
   exact refSpot_out A n c q p.2 w (.inr (by omega))
end Ln
end Go.Proofs.YtgmijnnhanpocaaGreatDoor
namespace Go.Proofs.YtgmijnnhanpocaaGreatDoor
open Go.ChangeShapes Go.WideShapes Go.ChangeAt Go.RowKit
namespace Ln
open Rw
def SpotIs (ls : List (List Cel)) (i k p : Int) : Prop := 0 ≤ i ∧ 0 ≤ k ∧ 0 ≤ p ∧ ∃ l, ls[i.toNat]? = some l ∧ k ≤ (l.length : Int)
set_option maxRecDepth 100000 in
set_option maxHeartbeats 12800000 in
theorem refPlace_zero (A : Option Addr) (n c : Nat) (x i k p : Int) (vs : List Value) (ls : List (List Cel)) (w : World) (h : Lrd w w.heap.size A n vs ls) (hbad : ¬ (2 ≤ x ∧ x ≤ 300 ∧ SpotIs ls i k p)) :
  Calls Tryz.prog 20 #[.slice A n c, .int .i64 x, .agg #[.int .i64 i, .int .i64 k, .int .i64 p]] w fun e w' => e = .returned (.agg #[.int .i64 0, .int .i64 0]) ∧ Below w.heap.size w w' := by
 obtain ⟨S, hS⟩ : ∃ S, w.heap.size = S := ⟨_, rfl⟩
 obtain ⟨w1, hw1⟩ : ∃ w1, (w.alloc (.cells #[.int .i64 i, .int .i64 k, .int .i64 p] 27)).alloc (.cells #[.int .i64 0, .int .i64 0] 25) = w1 := ⟨_, rfl⟩
 have z1 : w1.heap.size = S + 2 := by rw [← hw1, ← hS]; simp
 have b1 : Below w.heap.size w w1 := by rw [← hw1]; exact ((Below.refl _ _).alloc (Nat.le_refl _) _).alloc (by simp) _
 have x0 : w1.heap[S]? = some (.cells #[.int .i64 i, .int .i64 k, .int .i64 p] 27 (0, 0)) := by rw [← hw1, ← hS]; exact (Below.heap_alloc _ _ _ (by simp)).trans (heap_alloc_new w _)
 have x1 : w1.heap[S + 1]? = some (.cells #[.int .i64 0, .int .i64 0] 25 (0, 0)) := by
  rw [← hw1, ← hS]
  have := heap_alloc_new (w.alloc (.cells #[.int .i64 i, .int .i64 k, .int .i64 p] 27)) (.cells #[.int .i64 0, .int .i64 0] 25)
  rwa [World.size_alloc] at this
 obtain ⟨J, hJ, F, h0, hB, _⟩ := Cls.below w1
 have H0 := Lib.hid h0
 have HBn := Lib.hid hB
 have k0 : ∀ n, (F n).cell? ⟨S, 0, none⟩ = some (.int .i64 i) := fun n => cell_of_row _ _ 0 _ _ (0, 0) (((hB n).block S (by omega)).trans x0)
 have k1 : ∀ n, (F n).cell? ⟨S, 1, none⟩ = some (.int .i64 k) := fun n => cell_of_row _ _ 1 _ _ (0, 0) (((hB n).block S (by omega)).trans x0)
 have k2 : ∀ n, (F n).cell? ⟨S, 2, none⟩ = some (.int .i64 p) := fun n => cell_of_row _ _ 2 _ _ (0, 0) (((hB n).block S (by omega)).trans x0)
 have HW := Lib.hid hw1
 have B1 := Lib.hid b1
 have X1 := Lib.hid x1
 have Z1 := Lib.hid z1
 have HS2 := Lib.hid (show w.heap.size ≤ S + 1 by omega)
 have LD := Lib.hid h
 have HS := Lib.hid hS
 have HBad := Lib.hid hbad
 clear hw1 b1 x1 x0 h0 hB z1 h hbad hS
 go_enter Tryz.func20, Tryz.ntmps20
 go_upto_region 1 with fail
 rw [HW.out]
 rw [HS.out]
 by_cases h1 : i < 0
 ·have g1 : decide (i < 0) = true := by simp [h1]
  refine Cls.region F H0.out (by kernel_rfl) (by kernel_rfl) ?_
  repeat (go_big_quiet_step (fail))
  refine wpQuiet_nil ?_
  intro _ hw'
  obtain ⟨nq, hw''⟩ := hw'
  subst hw''
  obtain ⟨w3, hw3⟩ : ∃ w3, F nq = w3 := ⟨_, rfl⟩
  have L3 := Lib.hid (HBn.out nq)
  rw [hw3] at L3 ⊢
  have I3 := Lib.hid (B1.out.trans (L3.out.mono B1.out.size))
  have X3 := Lib.hid ((L3.out.block (S + 1) (by rw [Z1.out]; omega)).trans X1.out)
  have y0 : w3.cell? ⟨S + 1, 0, none⟩ = some (.int .i64 0) := cell_of_row _ _ 0 _ _ (0, 0) X3.out
  have y1 : w3.cell? ⟨S + 1, 1, none⟩ = some (.int .i64 0) := cell_of_row _ _ 1 _ _ (0, 0) X3.out
  have f0 := frozen_of_row _ (S + 1) 0 _ _ X3.out
  have f1 := frozen_of_row _ (S + 1) 1 _ _ X3.out
  clear k0 k1 k2 hw3
  go_wp2_with fail
  have s1 := heap_setCell_same w3 (S + 1) 0 _ _ (.int .i64 0) X3.out
  have s2 := heap_setCell_same _ (S + 1) 1 _ _ (.int .i64 0) s1
  have B9 := Lib.hid ((I3.out.setCell (p := ⟨S + 1, 0, none⟩) HS2.out (.int .i64 0)).setCell (p := ⟨S + 1, 1, none⟩) HS2.out (.int .i64 0))
  generalize (w3.setCell ⟨S + 1, 0, none⟩ (.int .i64 0)).setCell ⟨S + 1, 1, none⟩ (.int .i64 0) = w9 at s2 B9 ⊢
  have r0 : w9.cell? ⟨S + 1, 0, none⟩ = some (.int .i64 0) := cell_of_row _ _ 0 _ _ (0, 0) (by simpa using s2)
  have r1 : w9.cell? ⟨S + 1, 1, none⟩ = some (.int .i64 0) := cell_of_row _ _ 1 _ _ (0, 0) (by simpa using s2)
  refine bodyPost_ret (v := .agg #[.int .i64 0, .int .i64 0]) (by simp [results, Tryz.results20, go_sem, r0, r1]) rfl ?_
  exact ⟨rfl, B9.out⟩
 have g1 : decide (i < 0) = false := by simp [h1]
 obtain ⟨iN, rfl⟩ : ∃ iN : Nat, i = (iN : Int) := ⟨i.toNat, by omega⟩
 by_cases h2 : n ≤ iN
 ·have g2 : decide (n ≤ iN) = true := by simp [h2]
  refine Cls.region F H0.out (by kernel_rfl) (by kernel_rfl) ?_
  repeat (go_big_quiet_step (fail))
  refine wpQuiet_nil ?_
  intro _ hw'
  obtain ⟨nq, hw''⟩ := hw'
  subst hw''
  obtain ⟨w3, hw3⟩ : ∃ w3, F nq = w3 := ⟨_, rfl⟩
  have L3 := Lib.hid (HBn.out nq)
  rw [hw3] at L3 ⊢
  have I3 := Lib.hid (B1.out.trans (L3.out.mono B1.out.size))
  have X3 := Lib.hid ((L3.out.block (S + 1) (by rw [Z1.out]; omega)).trans X1.out)
  have y0 : w3.cell? ⟨S + 1, 0, none⟩ = some (.int .i64 0) := cell_of_row _ _ 0 _ _ (0, 0) X3.out
  have y1 : w3.cell? ⟨S + 1, 1, none⟩ = some (.int .i64 0) := cell_of_row _ _ 1 _ _ (0, 0) X3.out
  have f0 := frozen_of_row _ (S + 1) 0 _ _ X3.out
  have f1 := frozen_of_row _ (S + 1) 1 _ _ X3.out
  clear k0 k1 k2 hw3
  go_wp2_with fail
  have s1 := heap_setCell_same w3 (S + 1) 0 _ _ (.int .i64 0) X3.out
  have s2 := heap_setCell_same _ (S + 1) 1 _ _ (.int .i64 0) s1
  have B9 := Lib.hid ((I3.out.setCell (p := ⟨S + 1, 0, none⟩) HS2.out (.int .i64 0)).setCell (p := ⟨S + 1, 1, none⟩) HS2.out (.int .i64 0))
  generalize (w3.setCell ⟨S + 1, 0, none⟩ (.int .i64 0)).setCell ⟨S + 1, 1, none⟩ (.int .i64 0) = w9 at s2 B9 ⊢
  have r0 : w9.cell? ⟨S + 1, 0, none⟩ = some (.int .i64 0) := cell_of_row _ _ 0 _ _ (0, 0) (by simpa using s2)
  have r1 : w9.cell? ⟨S + 1, 1, none⟩ = some (.int .i64 0) := cell_of_row _ _ 1 _ _ (0, 0) (by simpa using s2)
  refine bodyPost_ret (v := .agg #[.int .i64 0, .int .i64 0]) (by simp [results, Tryz.results20, go_sem, r0, r1]) rfl ?_
  exact ⟨rfl, B9.out⟩
 have g2 : decide (n ≤ iN) = false := by simp [h2]
 obtain ⟨l, hl⟩ : ∃ l, ls[iN]? = some l := ⟨_, List.getElem?_eq_getElem (by rw [LD.out.len]; omega)⟩
 obtain ⟨v, hv⟩ : ∃ v, vs[iN]? = some v := ⟨_, List.getElem?_eq_getElem (by have := LD.out.sq.len; omega)⟩
 obtain ⟨A1, m, d1, rfl, _, q1, _⟩ := LD.out.each iN v l hv hl
 have hml : l.length = m := by have := q1.len; rw [flat_length] at this; omega
 obtain ⟨b, off, rfl, hbb, c0⟩ := one_at LD.out.sq hv (by omega)
 have k3 : ∀ n, (F n).cell? ⟨b, off + iN, none⟩ = some (.slice A1 m d1) := fun n => (((B1.out.trans ((HBn.out n).mono B1.out.size))).cell (p := ⟨b, off + iN, none⟩) hbb).trans c0
 have hii : (iN : Int) < (n : Int) := by omega
 have hi0 : (0 : Int) ≤ (iN : Int) := by omega
 have HLM := Lib.hid (And.intro hl hml)
 clear hl hv q1 hml hbb c0
 by_cases h3 : k < 0
 ·have g3 : decide (k < 0) = true := by simp [h3]
  refine Cls.region F H0.out (by kernel_rfl) (by kernel_rfl) ?_
  repeat (go_big_quiet_step (fail))
  refine wpQuiet_nil ?_
  intro _ hw'
  obtain ⟨nq, hw''⟩ := hw'
  subst hw''
  obtain ⟨w3, hw3⟩ : ∃ w3, F nq = w3 := ⟨_, rfl⟩
  have L3 := Lib.hid (HBn.out nq)
  rw [hw3] at L3 ⊢
  have I3 := Lib.hid (B1.out.trans (L3.out.mono B1.out.size))
  have X3 := Lib.hid ((L3.out.block (S + 1) (by rw [Z1.out]; omega)).trans X1.out)
  have y0 : w3.cell? ⟨S + 1, 0, none⟩ = some (.int .i64 0) := cell_of_row _ _ 0 _ _ (0, 0) X3.out
  have y1 : w3.cell? ⟨S + 1, 1, none⟩ = some (.int .i64 0) := cell_of_row _ _ 1 _ _ (0, 0) X3.out
  have f0 := frozen_of_row _ (S + 1) 0 _ _ X3.out
  have f1 := frozen_of_row _ (S + 1) 1 _ _ X3.out
  clear k0 k1 k2 k3 hw3
  go_wp2_with fail
  have s1 := heap_setCell_same w3 (S + 1) 0 _ _ (.int .i64 0) X3.out
  have s2 := heap_setCell_same _ (S + 1) 1 _ _ (.int .i64 0) s1
  have B9 := Lib.hid ((I3.out.setCell (p := ⟨S + 1, 0, none⟩) HS2.out (.int .i64 0)).setCell (p := ⟨S + 1, 1, none⟩) HS2.out (.int .i64 0))
  generalize (w3.setCell ⟨S + 1, 0, none⟩ (.int .i64 0)).setCell ⟨S + 1, 1, none⟩ (.int .i64 0) = w9 at s2 B9 ⊢
  have r0 : w9.cell? ⟨S + 1, 0, none⟩ = some (.int .i64 0) := cell_of_row _ _ 0 _ _ (0, 0) (by simpa using s2)
  have r1 : w9.cell? ⟨S + 1, 1, none⟩ = some (.int .i64 0) := cell_of_row _ _ 1 _ _ (0, 0) (by simpa using s2)
  refine bodyPost_ret (v := .agg #[.int .i64 0, .int .i64 0]) (by simp [results, Tryz.results20, go_sem, r0, r1]) rfl ?_
  exact ⟨rfl, B9.out⟩
 have g3 : decide (k < 0) = false := by simp [h3]
 by_cases h4 : (m : Int) < k
 ·have g4 : decide ((m : Int) < k) = true := by simp [h4]
  refine Cls.region F H0.out (by kernel_rfl) (by kernel_rfl) ?_
  repeat (go_big_quiet_step (fail))
  refine wpQuiet_nil ?_
  intro _ hw'
  obtain ⟨nq, hw''⟩ := hw'
  subst hw''
  obtain ⟨w3, hw3⟩ : ∃ w3, F nq = w3 := ⟨_, rfl⟩
  have L3 := Lib.hid (HBn.out nq)
  rw [hw3] at L3 ⊢
  have I3 := Lib.hid (B1.out.trans (L3.out.mono B1.out.size))
  have X3 := Lib.hid ((L3.out.block (S + 1) (by rw [Z1.out]; omega)).trans X1.out)
  have y0 : w3.cell? ⟨S + 1, 0, none⟩ = some (.int .i64 0) := cell_of_row _ _ 0 _ _ (0, 0) X3.out
  have y1 : w3.cell? ⟨S + 1, 1, none⟩ = some (.int .i64 0) := cell_of_row _ _ 1 _ _ (0, 0) X3.out
  have f0 := frozen_of_row _ (S + 1) 0 _ _ X3.out
  have f1 := frozen_of_row _ (S + 1) 1 _ _ X3.out
  clear k0 k1 k2 k3 hw3
  go_wp2_with fail
  have s1 := heap_setCell_same w3 (S + 1) 0 _ _ (.int .i64 0) X3.out
  have s2 := heap_setCell_same _ (S + 1) 1 _ _ (.int .i64 0) s1
  have B9 := Lib.hid ((I3.out.setCell (p := ⟨S + 1, 0, none⟩) HS2.out (.int .i64 0)).setCell (p := ⟨S + 1, 1, none⟩) HS2.out (.int .i64 0))
  generalize (w3.setCell ⟨S + 1, 0, none⟩ (.int .i64 0)).setCell ⟨S + 1, 1, none⟩ (.int .i64 0) = w9 at s2 B9 ⊢
  have r0 : w9.cell? ⟨S + 1, 0, none⟩ = some (.int .i64 0) := cell_of_row _ _ 0 _ _ (0, 0) (by simpa using s2)
  have r1 : w9.cell? ⟨S + 1, 1, none⟩ = some (.int .i64 0) := cell_of_row _ _ 1 _ _ (0, 0) (by simpa using s2)
  refine bodyPost_ret (v := .agg #[.int .i64 0, .int .i64 0]) (by simp [results, Tryz.results20, go_sem, r0, r1]) rfl ?_
  exact ⟨rfl, B9.out⟩
 have g4 : decide ((m : Int) < k) = false := by simp [h4]
 by_cases h5 : p < 0
 ·have g5 : decide (p < 0) = true := by simp [h5]
  refine Cls.region F H0.out (by kernel_rfl) (by kernel_rfl) ?_
  repeat (go_big_quiet_step (fail))
  refine wpQuiet_nil ?_
  intro _ hw'
  obtain ⟨nq, hw''⟩ := hw'
  subst hw''
  obtain ⟨w3, hw3⟩ : ∃ w3, F nq = w3 := ⟨_, rfl⟩
  have L3 := Lib.hid (HBn.out nq)
  rw [hw3] at L3 ⊢
  have I3 := Lib.hid (B1.out.trans (L3.out.mono B1.out.size))
  have X3 := Lib.hid ((L3.out.block (S + 1) (by rw [Z1.out]; omega)).trans X1.out)
  have y0 : w3.cell? ⟨S + 1, 0, none⟩ = some (.int .i64 0) := cell_of_row _ _ 0 _ _ (0, 0) X3.out
  have y1 : w3.cell? ⟨S + 1, 1, none⟩ = some (.int .i64 0) := cell_of_row _ _ 1 _ _ (0, 0) X3.out
  have f0 := frozen_of_row _ (S + 1) 0 _ _ X3.out
  have f1 := frozen_of_row _ (S + 1) 1 _ _ X3.out
  clear k0 k1 k2 k3 hw3
  go_wp2_with fail
  have s1 := heap_setCell_same w3 (S + 1) 0 _ _ (.int .i64 0) X3.out
  have s2 := heap_setCell_same _ (S + 1) 1 _ _ (.int .i64 0) s1
  have B9 := Lib.hid ((I3.out.setCell (p := ⟨S + 1, 0, none⟩) HS2.out (.int .i64 0)).setCell (p := ⟨S + 1, 1, none⟩) HS2.out (.int .i64 0))
  generalize (w3.setCell ⟨S + 1, 0, none⟩ (.int .i64 0)).setCell ⟨S + 1, 1, none⟩ (.int .i64 0) = w9 at s2 B9 ⊢
  have r0 : w9.cell? ⟨S + 1, 0, none⟩ = some (.int .i64 0) := cell_of_row _ _ 0 _ _ (0, 0) (by simpa using s2)
  have r1 : w9.cell? ⟨S + 1, 1, none⟩ = some (.int .i64 0) := cell_of_row _ _ 1 _ _ (0, 0) (by simpa using s2)
  refine bodyPost_ret (v := .agg #[.int .i64 0, .int .i64 0]) (by simp [results, Tryz.results20, go_sem, r0, r1]) rfl ?_
  exact ⟨rfl, B9.out⟩
 have g5 : decide (p < 0) = false := by simp [h5]
 by_cases h6 : x < 2
 ·have g6 : decide (x < 2) = true := by simp [h6]
  refine Cls.region F H0.out (by kernel_rfl) (by kernel_rfl) ?_
  repeat (go_big_quiet_step (fail))
  refine wpQuiet_nil ?_
  intro _ hw'
  obtain ⟨nq, hw''⟩ := hw'
  subst hw''
  obtain ⟨w3, hw3⟩ : ∃ w3, F nq = w3 := ⟨_, rfl⟩
  have L3 := Lib.hid (HBn.out nq)
  rw [hw3] at L3 ⊢
  have I3 := Lib.hid (B1.out.trans (L3.out.mono B1.out.size))
  have X3 := Lib.hid ((L3.out.block (S + 1) (by rw [Z1.out]; omega)).trans X1.out)
  have y0 : w3.cell? ⟨S + 1, 0, none⟩ = some (.int .i64 0) := cell_of_row _ _ 0 _ _ (0, 0) X3.out
  have y1 : w3.cell? ⟨S + 1, 1, none⟩ = some (.int .i64 0) := cell_of_row _ _ 1 _ _ (0, 0) X3.out
  have f0 := frozen_of_row _ (S + 1) 0 _ _ X3.out
  have f1 := frozen_of_row _ (S + 1) 1 _ _ X3.out
  clear k0 k1 k2 k3 hw3
  go_wp2_with fail
  have s1 := heap_setCell_same w3 (S + 1) 0 _ _ (.int .i64 0) X3.out
  have s2 := heap_setCell_same _ (S + 1) 1 _ _ (.int .i64 0) s1
  have B9 := Lib.hid ((I3.out.setCell (p := ⟨S + 1, 0, none⟩) HS2.out (.int .i64 0)).setCell (p := ⟨S + 1, 1, none⟩) HS2.out (.int .i64 0))
  generalize (w3.setCell ⟨S + 1, 0, none⟩ (.int .i64 0)).setCell ⟨S + 1, 1, none⟩ (.int .i64 0) = w9 at s2 B9 ⊢
  have r0 : w9.cell? ⟨S + 1, 0, none⟩ = some (.int .i64 0) := cell_of_row _ _ 0 _ _ (0, 0) (by simpa using s2)
  have r1 : w9.cell? ⟨S + 1, 1, none⟩ = some (.int .i64 0) := cell_of_row _ _ 1 _ _ (0, 0) (by simpa using s2)
  refine bodyPost_ret (v := .agg #[.int .i64 0, .int .i64 0]) (by simp [results, Tryz.results20, go_sem, r0, r1]) rfl ?_
  exact ⟨rfl, B9.out⟩
 have g6 : decide (x < 2) = false := by simp [h6]
 by_cases h7 : 300 < x
 ·have g7 : decide (300 < x) = true := by simp [h7]
  refine Cls.region F H0.out (by kernel_rfl) (by kernel_rfl) ?_
  repeat (go_big_quiet_step (fail))
  refine wpQuiet_nil ?_
  intro _ hw'
  obtain ⟨nq, hw''⟩ := hw'
  subst hw''
  obtain ⟨w3, hw3⟩ : ∃ w3, F nq = w3 := ⟨_, rfl⟩
  have L3 := Lib.hid (HBn.out nq)
  rw [hw3] at L3 ⊢
  have I3 := Lib.hid (B1.out.trans (L3.out.mono B1.out.size))
  have X3 := Lib.hid ((L3.out.block (S + 1) (by rw [Z1.out]; omega)).trans X1.out)
  have y0 : w3.cell? ⟨S + 1, 0, none⟩ = some (.int .i64 0) := cell_of_row _ _ 0 _ _ (0, 0) X3.out
  have y1 : w3.cell? ⟨S + 1, 1, none⟩ = some (.int .i64 0) := cell_of_row _ _ 1 _ _ (0, 0) X3.out
  have f0 := frozen_of_row _ (S + 1) 0 _ _ X3.out
  have f1 := frozen_of_row _ (S + 1) 1 _ _ X3.out
  clear k0 k1 k2 k3 hw3
  go_wp2_with fail
  have s1 := heap_setCell_same w3 (S + 1) 0 _ _ (.int .i64 0) X3.out
  have s2 := heap_setCell_same _ (S + 1) 1 _ _ (.int .i64 0) s1
  have B9 := Lib.hid ((I3.out.setCell (p := ⟨S + 1, 0, none⟩) HS2.out (.int .i64 0)).setCell (p := ⟨S + 1, 1, none⟩) HS2.out (.int .i64 0))
  generalize (w3.setCell ⟨S + 1, 0, none⟩ (.int .i64 0)).setCell ⟨S + 1, 1, none⟩ (.int .i64 0) = w9 at s2 B9 ⊢
  have r0 : w9.cell? ⟨S + 1, 0, none⟩ = some (.int .i64 0) := cell_of_row _ _ 0 _ _ (0, 0) (by simpa using s2)
  have r1 : w9.cell? ⟨S + 1, 1, none⟩ = some (.int .i64 0) := cell_of_row _ _ 1 _ _ (0, 0) (by simpa using s2)
  refine bodyPost_ret (v := .agg #[.int .i64 0, .int .i64 0]) (by simp [results, Tryz.results20, go_sem, r0, r1]) rfl ?_
  exact ⟨rfl, B9.out⟩
 exact absurd ⟨by omega, by omega, by omega, by omega, by omega, l, by simpa using HLM.out.1, by have := HLM.out.2; omega⟩ HBad.out
end Ln
end Go.Proofs.YtgmijnnhanpocaaGreatDoor
