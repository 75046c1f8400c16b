/-
  More of utf.Reader: begin, goOn, read, and the methods of its face; All.
-/
import Derived.Test.YtbhfhkmcnomggaaDoorReader
import Derived.RegionTactic
import Derived.ChangeAlike
namespace Go.Proofs.YtbhfhkmcnomggaaDoor
open Go.ChangeShapes Go.WideShapes Go.ChangeAt Go.RowKit

set_option maxHeartbeats 400000 in
theorem begin_ascii (b base : Nat) (v : Value) (xs : List Int) (x : Int) (hx0 : 0 ≤ x) (hx1 : x ≤ 255) (h128 : x < 128) (w : World) (st : St) (h : Rd w b st) (hv : Has w base v xs) (hvb : v.ownBlock ≠ some b) (hn : xs.length ≤ 1099511627776) (hbase : base ≤ w.heap.size) :
    Calls Tryd.prog 50 #[.pointer (some ⟨b, 0, none⟩), v, .int .u8 x] w fun e w' => Told base b v (xs ++ [x]) st w e w' := by
  obtain ⟨i0, hi, hz0, hz1, hz2⟩ := info_parts info21
  obtain ⟨A, c, rfl⟩ := hv.shape
  have HO : w.ownsRow base 21 1 (.slice A xs.length c) xs.length (xs.map (Value.int .i32)) := hv
  have HV := Lib.hid hvb
  clear hvb hv
  go_enter Tryd.func50, Tryd.ntmps50
  go_wp2_with (at_builtin; refine wpList_append_own_at _ rfl _ _ 24 rfl base 21 i0 (.int .i32 0) 1 4 Tryd.underlying24 hi hz0 hz1 hz2 rfl (by decide) (.slice A xs.length c) xs.length _ rfl (HO.alloc _) ⟨w.heap.size, 0, none⟩ 1 1 [.int .i32 x] rfl rfl (cell_new_at rfl _ _) (one_rune _) (fits1 hn) (fits4 hn) (by simp; omega) ?_; intro v' w1 hown' hgrow _ hat)
  go_wp2
  go_ret
  exact told_app h hown' HV.out hgrow hat

set_option maxHeartbeats 400000 in
theorem begin_bad (b base : Nat) (v : Value) (xs : List Int) (x : Int) (hx0 : 0 ≤ x) (hx1 : x ≤ 255) (h128 : 128 ≤ x) (w : World) (st : St) (h : Rd w b st) (hv : Has w base v xs) (hvb : v.ownBlock ≠ some b) (hn : xs.length ≤ 1099511627776) (hbase : base ≤ w.heap.size) (hf : fol x = (0, 0, 0)) :
    Calls Tryd.prog 50 #[.pointer (some ⟨b, 0, none⟩), v, .int .u8 x] w fun e w' => Told base b v (xs ++ [65533]) st w e w' := by
  have FW := follow_walk x hx0 hx1 w
  rw [hf] at FW
  have FWH := Lib.hid FW
  obtain ⟨i0, hi, hz0, hz1, hz2⟩ := info_parts info21
  obtain ⟨A, c, rfl⟩ := hv.shape
  have HO : w.ownsRow base 21 1 (.slice A xs.length c) xs.length (xs.map (Value.int .i32)) := hv
  have HV := Lib.hid hvb
  clear hvb hv FW hf
  go_enter Tryd.func50, Tryd.ntmps50
  go_wp2_with (first
    | (go_at_call 53; refine FWH.out.mono ?_; rintro e w' ⟨rfl, rfl⟩)
    | (at_builtin; refine wpList_append_own_at _ rfl _ _ 24 rfl base 21 i0 (.int .i32 0) 1 4 Tryd.underlying24 hi hz0 hz1 hz2 rfl (by decide) (.slice A xs.length c) xs.length _ rfl (HO.alloc _) ⟨w.heap.size, 0, none⟩ 1 1 [.int .i32 65533] rfl rfl (cell_new_at rfl _ _) (one_rune _) (fits1 hn) (fits4 hn) (by simp; omega) ?_; intro v' w1 hown' hgrow _ hat))
  go_wp2
  go_ret
  exact told_app h hown' HV.out hgrow hat

/-- begin, whatever the byte, while nothing waits. -/
theorem begin_any (b base : Nat) (v : Value) (xs : List Int) (x : Int) (hx0 : 0 ≤ x) (hx1 : x ≤ 255) (w : World) (h : Rd w b st0) (hv : Has w base v xs) (hvb : v.ownBlock ≠ some b) (hn : xs.length ≤ 1099511627776) (hbase : base ≤ w.heap.size) :
    Calls Tryd.prog 50 #[.pointer (some ⟨b, 0, none⟩), v, .int .u8 x] w fun e w' => Told base b v (xs ++ begO x) (begS x) w e w' := by
  by_cases h128 : x < 128
  · have e1 : begO x = [x] := by simp [begO, h128]
    have e2 : begS x = st0 := by simp [begS, h128]
    rw [e1, e2]
    exact begin_ascii b base v xs x hx0 hx1 h128 w st0 h hv hvb hn hbase
  · rcases fol_cases x with ⟨_, e⟩ | ⟨_, _, e⟩ | ⟨_, e⟩ | ⟨_, e⟩ | ⟨_, _, _, e⟩ | ⟨_, e⟩ | ⟨_, _, e⟩ | ⟨_, e⟩
    · have e1 : begO x = [65533] := by simp [begO, h128, e]
      have e2 : begS x = st0 := by simp [begS, h128, e]
      rw [e1, e2]
      exact begin_bad b base v xs x hx0 hx1 (by omega) w st0 h hv hvb hn hbase e
    all_goals
      have e1 : begO x = [] := by simp [begO, h128, e]
      rw [e1, List.append_nil]
      exact begin_more b base v xs x _ _ _ hx0 hx1 (by omega) w st0 h hv hvb e (by simp)
end Go.Proofs.YtbhfhkmcnomggaaDoor
