/-
  The reference's Pad; what the reference's Cell knows all the way.
-/
import Derived.Test.YtalhlgiklochdaaDoorRefWidth
import Derived.Test.YtalhlgiklochdaaDoorMayAny
namespace Go.Proofs.YtalhlgiklochdaaDoor
open Go.ChangeShapes Go.WideShapes Go.ChangeAt Go.RowKit

set_option maxRecDepth 100000 in
theorem refPad_walk (w : World) : Calls Tryd.prog 74 #[] w fun e w' => e = .returned (cellV 0 1 0) ∧ Below w.heap.size w w' := by
  go_enter Tryd.func74, Tryd.ntmps74
  go_wp2
  exact bodyPost_ret (v := cellV 0 1 0) (by simp [results, Tryd.results74, go_sem]) rfl ⟨rfl, (Below.refl _ _).alloc (Nat.le_refl _) _⟩
/-- A cell in the block that was new ahead; all that was there before stands. -/
structure RC (w0 : World) (r n a : Int) (w : World) : Prop where
  c0 : w.cell? ⟨w0.heap.size, 0, none⟩ = some (.int .i32 r)
  c1 : w.cell? ⟨w0.heap.size, 1, none⟩ = some (.int .i64 n)
  c2 : w.cell? ⟨w0.heap.size, 2, none⟩ = some (.int .i64 a)
  below : Below w0.heap.size w0 w
theorem RC.step {w0 w w' : World} {r n a : Int} (h : RC w0 r n a w) (hb : Below w.heap.size w w') : RC w0 r n a w' := by
  have hl : w0.heap.size < w.heap.size := World.block_lt_of_cell? w _ h.c0
  exact ⟨(hb.cell (p := ⟨w0.heap.size, 0, none⟩) hl).trans h.c0, (hb.cell (p := ⟨w0.heap.size, 1, none⟩) hl).trans h.c1, (hb.cell (p := ⟨w0.heap.size, 2, none⟩) hl).trans h.c2, h.below.trans (hb.mono h.below.size)⟩
theorem RC.drew {w0 w : World} {r n a : Int} (h : RC w0 r n a w) : RC w0 r n a w.drew := ⟨h.c0, h.c1, h.c2, h.below.drew⟩
theorem RC.new (w : World) (r n a : Int) : RC w r n a (w.alloc (.cells #[.int .i32 r, .int .i64 n, .int .i64 a] 45)) := by
  have hb := heap_alloc_new w (.cells #[.int .i32 r, .int .i64 n, .int .i64 a] 45)
  exact ⟨by rw [cell_of_row _ _ _ _ _ (0, 0) hb]; rfl, by rw [cell_of_row _ _ _ _ _ (0, 0) hb]; rfl, by rw [cell_of_row _ _ _ _ _ (0, 0) hb]; rfl, (Below.refl _ _).alloc (Nat.le_refl _) _⟩
end Go.Proofs.YtalhlgiklochdaaDoor
