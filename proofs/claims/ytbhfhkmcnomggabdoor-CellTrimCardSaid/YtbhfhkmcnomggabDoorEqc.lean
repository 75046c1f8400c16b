/-
  The reference's EqCells, of equal lists of cells.
-/
import Derived.Test.YtbhfhkmcnomggabDoorTrim
namespace Go.Proofs.YtbhfhkmcnomggabDoor
open Go.ChangeShapes Go.WideShapes Go.ChangeAt Go.RowKit

set_option maxHeartbeats 1600000 in
theorem eqc_yes (A A' : Option Addr) (n c n' c' : Nat) (l : List (Int × Int × Int)) (w : World) (hn : n ≤ 1099511627776) (hq : Sq w w.heap.size 3 n A (flat l)) (hq' : Sq w w.heap.size 3 n' A' (flat l)) :
    Calls Tryd.prog 14 #[.slice A n c, .slice A' n' c'] w fun e w' => e = .returned (.bool true) ∧ Below w.heap.size w w' := by
  have e : n' = n := by have h1 := hq.len; have h2 := hq'.len; omega
  subst e
  have Q := Lib.hid hq
  have Q' := Lib.hid hq'
  clear hq hq'
  go_enter Tryd.func14, Tryd.ntmps14
  go_wp2
  go_loopw [5] (fun i wr => ∃ k : Nat, i = .int .i64 k ∧ k ≤ n' ∧ Below w.heap.size w wr) (fun i _ => n' - (intOf i).toNat)
  case atStart => exact ⟨0, rfl, Nat.zero_le _, Below.refl _ _⟩
  case round =>
    obtain ⟨k, rfl, hk, hb⟩ := hrel
    by_cases hlt : k < n'
    · obtain ⟨b, off, rfl, _, ⟨r, m, a⟩, hcc, q0, q1, q2⟩ := (Q.out.below hb).three hlt
      obtain ⟨b', off', rfl, _, ⟨r', m', a'⟩, hcc', q0', q1', q2'⟩ := (Q'.out.below hb).three hlt
      rw [hcc] at hcc'
      simp only [Option.some.injEq, Prod.mk.injEq] at hcc'
      obtain ⟨rfl, rfl, rfl⟩ := hcc'
      have HB := Lib.hid hb
      clear hb hcc
      go_wp2_with fail
      go_region
      all_goals go_wp2
      all_goals go_roundw
      case rel => exact ⟨k + 1, by go_num, by omega, HB.out.drew⟩
      case measure => simp [intOf]; omega
    · go_wp2
      go_ret
      exact ⟨rfl, hb⟩
end Go.Proofs.YtbhfhkmcnomggabDoor
