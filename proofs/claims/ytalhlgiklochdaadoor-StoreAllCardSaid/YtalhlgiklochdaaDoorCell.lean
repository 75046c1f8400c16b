/-
  The functions of package cell that look at one cell: Blank, Pad, IsBlank, IsPad, hasSign, May.
-/
import Derived.Test.YtalhlgiklochdaaDoorWidth
import Derived.Deep.RegionWith
import Derived.RegionCalls
import Derived.Outline
import Derived.RegionTactic
import Derived.ChangeAlike
namespace Go.Proofs.YtalhlgiklochdaaDoor
open Go.ChangeShapes Go.WideShapes Go.ChangeAt Go.RowKit

/-- A cell as a value. -/
abbrev cellV (r w a : Int) : Value := .agg #[.int .i32 r, .int .i64 w, .int .i64 a]

set_option maxRecDepth 100000 in
theorem blank_walk (w : World) : Calls Tryd.prog 53 #[] w fun e w' => e = .returned (cellV 32 1 0) ∧ Below w.heap.size w w' := by
  go_enter Tryd.func53, Tryd.ntmps53
  go_wp2
  exact bodyPost_ret (v := cellV 32 1 0) (by simp [results, Tryd.results53, go_sem]) rfl ⟨rfl, (Below.refl _ _).alloc (Nat.le_refl _) _⟩
set_option maxRecDepth 100000 in
theorem pad_walk (w : World) : Calls Tryd.prog 81 #[] w fun e w' => e = .returned (cellV 0 1 0) ∧ Below w.heap.size w w' := by
  go_enter Tryd.func81, Tryd.ntmps81
  go_wp2
  exact bodyPost_ret (v := cellV 0 1 0) (by simp [results, Tryd.results81, go_sem]) rfl ⟨rfl, (Below.refl _ _).alloc (Nat.le_refl _) _⟩

/-- Is it just the cell of this sign, one wide, without an attribute? -/
def isB (c r n a : Int) : Bool := r == c && n == 1 && a == 0

set_option maxRecDepth 100000 in
set_option maxHeartbeats 1600000 in
theorem isBlank_walk (r n a : Int) (w : World) : Calls Tryd.prog 80 #[cellV r n a] w fun e w' => e = .returned (.bool (isB 32 r n a)) ∧ Below w.heap.size w w' := by
  cases h1 : (r == 32) <;> cases h2 : (n == 1) <;> cases h3 : (a == 0)
  all_goals
    obtain ⟨B, hB⟩ : ∃ B, isB 32 r n a = B := ⟨_, rfl⟩
    rw [hB]
    unfold isB at hB
    rw [h1, h2, h3] at hB
    obtain rfl := hB
    go_enter Tryd.func80, Tryd.ntmps80
    go_wp2
    go_region_with ((go_at_call 53; refine (blank_walk _).mono ?_; rintro e w' ⟨rfl, hb⟩; have k0 : w'.cell? ⟨w.heap.size, 0, none⟩ = some (.int .i32 r) := (hb.cell (p := ⟨w.heap.size, 0, none⟩) (by simp)).trans (by simp); have k1 : w'.cell? ⟨w.heap.size, 1, none⟩ = some (.int .i64 n) := (hb.cell (p := ⟨w.heap.size, 1, none⟩) (by simp)).trans (by simp); have k2 : w'.cell? ⟨w.heap.size, 2, none⟩ = some (.int .i64 a) := (hb.cell (p := ⟨w.heap.size, 2, none⟩) (by simp)).trans (by simp)))
    all_goals go_wp2
    all_goals go_ret
    all_goals
      have hb' := hb.mono (B' := w.heap.size) (by simp)
      first
        | exact ⟨rfl, (((Below.refl _ _).alloc (Nat.le_refl _) _).drew).trans hb'⟩
        | exact ⟨rfl, ((((Below.refl _ _).alloc (Nat.le_refl _) _).drew).trans hb').drew⟩
        | exact ⟨rfl, ((Below.refl _ _).alloc (Nat.le_refl _) _).trans hb'⟩
set_option maxRecDepth 100000 in
set_option maxHeartbeats 1600000 in
theorem isPad_walk (r n a : Int) (w : World) : Calls Tryd.prog 73 #[cellV r n a] w fun e w' => e = .returned (.bool (isB 0 r n a)) ∧ Below w.heap.size w w' := by
  cases h1 : (r == 0) <;> cases h2 : (n == 1) <;> cases h3 : (a == 0)
  all_goals
    obtain ⟨B, hB⟩ : ∃ B, isB 0 r n a = B := ⟨_, rfl⟩
    rw [hB]
    unfold isB at hB
    rw [h1, h2, h3] at hB
    obtain rfl := hB
    go_enter Tryd.func73, Tryd.ntmps73
    go_wp2
    go_region_with ((go_at_call 81; refine (pad_walk _).mono ?_; rintro e w' ⟨rfl, hb⟩; have k0 : w'.cell? ⟨w.heap.size, 0, none⟩ = some (.int .i32 r) := (hb.cell (p := ⟨w.heap.size, 0, none⟩) (by simp)).trans (by simp); have k1 : w'.cell? ⟨w.heap.size, 1, none⟩ = some (.int .i64 n) := (hb.cell (p := ⟨w.heap.size, 1, none⟩) (by simp)).trans (by simp); have k2 : w'.cell? ⟨w.heap.size, 2, none⟩ = some (.int .i64 a) := (hb.cell (p := ⟨w.heap.size, 2, none⟩) (by simp)).trans (by simp)))
    all_goals go_wp2
    all_goals go_ret
    all_goals
      have hb' := hb.mono (B' := w.heap.size) (by simp)
      first
        | exact ⟨rfl, (((Below.refl _ _).alloc (Nat.le_refl _) _).drew).trans hb'⟩
        | exact ⟨rfl, ((((Below.refl _ _).alloc (Nat.le_refl _) _).drew).trans hb').drew⟩
        | exact ⟨rfl, ((Below.refl _ _).alloc (Nat.le_refl _) _).trans hb'⟩
end Go.Proofs.YtalhlgiklochdaaDoor
