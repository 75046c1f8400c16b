/-
  What the statements on utf share: Short; how a list of signs grows by another one; what is told at an end.
-/
import Derived.Test.YtbhfhkmcnomggaaDoorRefAll
import Derived.Test.YtbhfhkmcnomggaaDoorBegun
namespace Go.Proofs.YtbhfhkmcnomggaaDoor
open Go.ChangeShapes Go.WideShapes Go.ChangeAt Go.RowKit

def shortS (s : ByteArray) (k : Nat) : ByteArray := s.extract 0 (min s.size k)
theorem shortS_size (s : ByteArray) (k : Nat) : (shortS s k).size ≤ k := by unfold shortS; rw [ByteArray.size_extract]; omega
theorem short_walk (s : ByteArray) (k : Nat) (w : World) :
    Calls Tryd.prog 16 #[.string s, .int .i64 k] w fun e w' => e = .returned (.string (shortS s k)) ∧ w = w' := by
  obtain ⟨m, hm⟩ : ∃ m : Nat, min (s.size : Int) (k : Int) = (m : Int) := ⟨min s.size k, by omega⟩
  have hm1 : m ≤ s.size := by omega
  have e : shortS s k = s.extract 0 m := by unfold shortS; congr 1; omega
  rw [e]
  clear e
  go_enter Tryd.func16, Tryd.ntmps16
  go_wp2
  go_ret
  exact ⟨rfl, rfl⟩

theorem waits_brk (st : St) (h : st.ok) : (0 < st.waits ∧ brk st = [65533]) ∨ (st.waits = 0 ∧ brk st = [] ∧ st = st0) := by
  have := h.waits
  by_cases h0 : st.waits = 0
  · exact .inr ⟨h0, by simp [brk, h0], h.zero h0⟩
  · exact .inl ⟨by omega, by simp [brk, h0]⟩
theorem run_ok (s : ByteArray) : (runS st0 (octs s)).ok := runS_ok _ _ st0_ok (octs_pos s)
end Go.Proofs.YtbhfhkmcnomggaaDoor
