/-
  The reference's copy of a row.
-/
import Derived.Test.YtikdlikdknfcfaaDoorStr
namespace Go.Proofs.YtikdlikdknfcfaaDoor
open Go.ChangeShapes Go.WideShapes Go.ChangeAt Go.RowKit

def RCopyPost (wrap : Bool) (l : List Cel) (w : World) (e : Ending) (w' : World) : Prop := ∃ v, e = .returned (.agg #[v, .bool wrap]) ∧ HasC w' w.heap.size v l ∧ Below w.heap.size w w'
set_option maxRecDepth 100000 in
set_option maxHeartbeats 3200000 in
theorem refCopy_walk (A : Option Addr) (n c : Nat) (wrap : Bool) (l : List Cel) (w : World) (hq : Sq w w.heap.size 3 n A (flat l)) (hn : n ≤ 1000000) :
    Calls Tryd.prog 49 #[rowV A n c wrap] w fun e w' => RCopyPost wrap l w e w' := by
  obtain ⟨i0, hi, hz0, hz1, hz2⟩ := info_parts infoCell
  have hln : l.length = n := by have := hq.len; rw [flat_length] at this; omega
  have QM := Lib.hid hq
  have ML := Lib.hid hln
  clear hln hq
  go_enter Tryd.func49, Tryd.ntmps49
  have B2 := Lib.hid (((Below.refl w.heap.size w).alloc (Nat.le_refl _) (.cells #[.slice A n c, .bool wrap] 31)).alloc (by simp) (.cells #[.slice none 0 0, .bool false] 31))
  have hb0 : ((w.alloc (.cells #[.slice A n c, .bool wrap] 31)).alloc (.cells #[.slice none 0 0, .bool false] 31)).heap[w.heap.size]? = some (.cells #[.slice A n c, .bool wrap] 31 (0, 0)) := (Below.heap_alloc _ _ _ (by simp)).trans (heap_alloc_new w _)
  have hb1 : ((w.alloc (.cells #[.slice A n c, .bool wrap] 31)).alloc (.cells #[.slice none 0 0, .bool false] 31)).heap[w.heap.size + 1]? = some (.cells #[.slice none 0 0, .bool false] 31 (0, 0)) := by
    have h := heap_alloc_new (w.alloc (.cells #[.slice A n c, .bool wrap] 31)) (.cells #[.slice none 0 0, .bool false] 31)
    rw [World.size_alloc] at h
    exact h
  have H0 := Lib.hid hb0
  have H1 := Lib.hid hb1
  have HS := Lib.hid (show ((w.alloc (.cells #[.slice A n c, .bool wrap] 31)).alloc (.cells #[.slice none 0 0, .bool false] 31)).heap.size = w.heap.size + 2 by simp)
  clear hb0 hb1
  go_wp2_with fail
  go_region_law (
    refine step_app rfl _ _ 29 rfl (w.heap.size + 2) 45 i0 (.agg #[.int .i32 0, .int .i64 0, .int .i64 0]) 3 24 Tryd.underlying29 hi hz0 hz1 hz2 rfl (by decide) (.slice none 0 0) 0 [] rfl (World.ownsRow_nil _ _ _ _) A n c (flat l) rfl w.heap.size (QM.out.below (by first | exact B2.out | exact B2.out.drew | exact B2.out.drew.drew)) (flat_one _) (by unfold maxLen; omega) (by omega) (by first | exact Nat.le_of_eq HS.out.symm | simp) ?_
    intro A' c' w3 hown hg
    intro _
    have B3 := Lib.hid ((show Below w.heap.size w w3 from ⟨hg.os.trans B2.out.os, hg.tape.trans B2.out.tape, hg.output.trans B2.out.output, Nat.le_trans B2.out.size hg.size, fun k hk => (hg.block k (by simp; omega) (by simp [Value.ownBlock])).trans (B2.out.block k hk)⟩))
    have k0 : w3.cell? ⟨w.heap.size, 1, none⟩ = some (.bool wrap) := by rw [cell_of_row _ _ _ _ _ (0, 0) ((hg.block _ (by simp; omega) (by simp [Value.ownBlock])).trans H0.out)]; rfl
    have T0 := Lib.hid (show RowAt w3 (w.heap.size + 1) (.slice none 0 0) false from (hg.block _ (by simp) (by simp [Value.ownBlock])).trans H1.out)
    have t0 : w3.cell? ⟨w.heap.size + 1, 0, none⟩ = some (.slice none 0 0) := T0.out.get 0
    have t1 : w3.cell? ⟨w.heap.size + 1, 1, none⟩ = some (.bool false) := T0.out.get 1
    have f0 := T0.out.free 0
    have f1 := T0.out.free 1
    have OW := Lib.hid (show HasC w3 (w.heap.size + 2) (.slice A' (0 + n) c') l by unfold HasC; rw [ML.out]; simpa using hown)
    rw [Nat.zero_add] at OW
    rw [Nat.zero_add]
    clear hown hg)
  all_goals
    have RF := RowAt.put2 T0.out (.slice A' n c') wrap
    have BF := (B3.out.setCell (p := ⟨w.heap.size + 1, 0, none⟩) (Nat.le_succ _) (.slice A' n c')).setCell (p := ⟨w.heap.size + 1, 1, none⟩) (Nat.le_succ _) (.bool wrap)
    have OF := HasC.keep (w' := (w3.setCell ⟨w.heap.size + 1, 0, none⟩ (.slice A' n c')).setCell ⟨w.heap.size + 1, 1, none⟩ (.bool wrap)) OW.out (fun j e => by
      have h := (HasC.lt OW.out j e).1
      rw [Below.heap_setCell _ _ _ _ (by show j ≠ w.heap.size + 1; omega), Below.heap_setCell _ _ _ _ (by show j ≠ w.heap.size + 1; omega)])
    go_wp2
    generalize (w3.setCell ⟨w.heap.size + 1, 0, none⟩ (.slice A' n c')).setCell ⟨w.heap.size + 1, 1, none⟩ (.bool wrap) = wz at RF BF OF ⊢
    have e0 := RF.get 0
    have e1 := RF.get 1
    exact bodyPost_ret (v := .agg #[.slice A' n c', .bool wrap]) (by simp [results, Tryd.results49, go_sem, e0, e1]) rfl ⟨.slice A' n c', rfl, HasC.mono OF (by omega), BF⟩
end Go.Proofs.YtikdlikdknfcfaaDoor
