import Derived.Test.YtmpoboffdfcpiaaGreatDoorQLaw0
import Derived.Test.YtmpoboffdfcpiaaGreatDoorQEsc0
set_option maxRecDepth 100000
set_option maxHeartbeats 1600000
namespace Go.Proofs.YtmpoboffdfcpiaaGreatDoor
open Go.ChangeShapes Go.WideShapes Go.ChangeAt Go.RowKit
def zeroRows : List (Int × Int) := [(-2147483648, 31), (127, 159), (768, 879), (8203, 8207), (65024, 65039), (1114112, 2147483647), (55296, 57343)]
def wideRows : List (Int × Int) := [(4352, 4447), (11904, 12350), (12353, 13311), (13312, 19903), (19968, 40959), (40960, 42191), (44032, 55203), (63744, 64255), (65072, 65135), (65280, 65376), (65504, 65510), (127744, 128591), (129280, 129535), (131072, 262141)]
def zLo (i : Nat) : Int := (zeroRows.getD i (0, 0)).1
def zHi (i : Nat) : Int := (zeroRows.getD i (0, 0)).2
def wLo (i : Nat) : Int := (wideRows.getD i (0, 0)).1
def wHi (i : Nat) : Int := (wideRows.getD i (0, 0)).2
def zeroCells : Array Value := #[.int .i32 (-2147483648), .int .i32 31, .int .i32 127, .int .i32 159, .int .i32 768, .int .i32 879, .int .i32 8203, .int .i32 8207, .int .i32 65024, .int .i32 65039, .int .i32 1114112, .int .i32 2147483647, .int .i32 55296, .int .i32 57343]
def wideCells : Array Value := #[.int .i32 4352, .int .i32 4447, .int .i32 11904, .int .i32 12350, .int .i32 12353, .int .i32 13311, .int .i32 13312, .int .i32 19903, .int .i32 19968, .int .i32 40959, .int .i32 40960, .int .i32 42191, .int .i32 44032, .int .i32 55203, .int .i32 63744, .int .i32 64255, .int .i32 65072, .int .i32 65135, .int .i32 65280, .int .i32 65376, .int .i32 65504, .int .i32 65510, .int .i32 127744, .int .i32 128591, .int .i32 129280, .int .i32 129535, .int .i32 131072, .int .i32 262141]
theorem wof_zero (r : Int) (i : Nat) (hi : i < 7) (h0 : zLo i ≤ r) (h1 : r ≤ zHi i) : wof r = 0 := by
 unfold wof
 match i, hi with
 | 0, _ => simp only [zLo, zHi, zeroRows, List.getD_cons_zero] at h0 h1; (repeat rw [if_neg (by omega)]); rw [if_pos (by omega)]
 | 1, _ => simp only [zLo, zHi, zeroRows, List.getD_cons_zero, List.getD_cons_succ] at h0 h1; (repeat rw [if_neg (by omega)]); rw [if_pos (by omega)]
 | 2, _ => simp only [zLo, zHi, zeroRows, List.getD_cons_zero, List.getD_cons_succ] at h0 h1; (repeat rw [if_neg (by omega)]); rw [if_pos (by omega)]
 | 3, _ => simp only [zLo, zHi, zeroRows, List.getD_cons_zero, List.getD_cons_succ] at h0 h1; (repeat rw [if_neg (by omega)]); rw [if_pos (by omega)]
 | 4, _ => simp only [zLo, zHi, zeroRows, List.getD_cons_zero, List.getD_cons_succ] at h0 h1; (repeat rw [if_neg (by omega)]); rw [if_pos (by omega)]
 | 5, _ => simp only [zLo, zHi, zeroRows, List.getD_cons_zero, List.getD_cons_succ] at h0 h1; (repeat rw [if_neg (by omega)]); rw [if_pos (by omega)]
 | 6, _ => simp only [zLo, zHi, zeroRows, List.getD_cons_zero, List.getD_cons_succ] at h0 h1; (repeat rw [if_neg (by omega)]); rw [if_pos (by omega)]
 | n + 7, h => omega
theorem wof_wide (r : Int) (i : Nat) (hi : i < 14) (h0 : wLo i ≤ r) (h1 : r ≤ wHi i) : wof r = 2 := by
 unfold wof
 match i, hi with
 | 0, _ => simp only [wLo, wHi, wideRows, List.getD_cons_zero] at h0 h1; (repeat rw [if_neg (by omega)]); rw [if_pos (by omega)]
 | 1, _ => simp only [wLo, wHi, wideRows, List.getD_cons_zero, List.getD_cons_succ] at h0 h1; (repeat rw [if_neg (by omega)]); rw [if_pos (by omega)]
 | 2, _ => simp only [wLo, wHi, wideRows, List.getD_cons_zero, List.getD_cons_succ] at h0 h1; (repeat rw [if_neg (by omega)]); rw [if_pos (by omega)]
 | 3, _ => simp only [wLo, wHi, wideRows, List.getD_cons_zero, List.getD_cons_succ] at h0 h1; (repeat rw [if_neg (by omega)]); rw [if_pos (by omega)]
 | 4, _ => simp only [wLo, wHi, wideRows, List.getD_cons_zero, List.getD_cons_succ] at h0 h1; (repeat rw [if_neg (by omega)]); rw [if_pos (by omega)]
 | 5, _ => simp only [wLo, wHi, wideRows, List.getD_cons_zero, List.getD_cons_succ] at h0 h1; (repeat rw [if_neg (by omega)]); rw [if_pos (by omega)]
 | 6, _ => simp only [wLo, wHi, wideRows, List.getD_cons_zero, List.getD_cons_succ] at h0 h1; (repeat rw [if_neg (by omega)]); rw [if_pos (by omega)]
 | 7, _ => simp only [wLo, wHi, wideRows, List.getD_cons_zero, List.getD_cons_succ] at h0 h1; (repeat rw [if_neg (by omega)]); rw [if_pos (by omega)]
 | 8, _ => simp only [wLo, wHi, wideRows, List.getD_cons_zero, List.getD_cons_succ] at h0 h1; (repeat rw [if_neg (by omega)]); rw [if_pos (by omega)]
 | 9, _ => simp only [wLo, wHi, wideRows, List.getD_cons_zero, List.getD_cons_succ] at h0 h1; (repeat rw [if_neg (by omega)]); rw [if_pos (by omega)]
 | 10, _ => simp only [wLo, wHi, wideRows, List.getD_cons_zero, List.getD_cons_succ] at h0 h1; (repeat rw [if_neg (by omega)]); rw [if_pos (by omega)]
 | 11, _ => simp only [wLo, wHi, wideRows, List.getD_cons_zero, List.getD_cons_succ] at h0 h1; (repeat rw [if_neg (by omega)]); rw [if_pos (by omega)]
 | 12, _ => simp only [wLo, wHi, wideRows, List.getD_cons_zero, List.getD_cons_succ] at h0 h1; (repeat rw [if_neg (by omega)]); rw [if_pos (by omega)]
 | 13, _ => simp only [wLo, wHi, wideRows, List.getD_cons_zero, List.getD_cons_succ] at h0 h1; (repeat rw [if_neg (by omega)]); rw [if_pos (by omega)]
 | n + 14, h => omega
theorem wof_none (r : Int) (hr0 : -2147483648 ≤ r) (hr1 : r ≤ 2147483647) (h : ∀ i, i < 7 → ¬ (zLo i ≤ r ∧ r ≤ zHi i)) (k : ∀ i, i < 14 → ¬ (wLo i ≤ r ∧ r ≤ wHi i)) : wof r = 1 := by
 have h0 := h 0 (by omega); have h1 := h 1 (by omega); have h2 := h 2 (by omega); have h3 := h 3 (by omega); have h4 := h 4 (by omega); have h5 := h 5 (by omega); have h6 := h 6 (by omega)
 have k0 := k 0 (by omega); have k1 := k 1 (by omega); have k2 := k 2 (by omega); have k3 := k 3 (by omega); have k4 := k 4 (by omega); have k5 := k 5 (by omega); have k6 := k 6 (by omega); have k7 := k 7 (by omega); have k8 := k 8 (by omega); have k9 := k 9 (by omega); have k10 := k 10 (by omega); have k11 := k 11 (by omega); have k12 := k 12 (by omega); have k13 := k 13 (by omega)
 simp only [zLo, zHi, wLo, wHi, zeroRows, wideRows, List.getD_cons_zero, List.getD_cons_succ] at h0 h1 h2 h3 h4 h5 h6 k0 k1 k2 k3 k4 k5 k6 k7 k8 k9 k10 k11 k12 k13
 unfold wof
 repeat rw [if_neg (by omega)]
theorem zero_cells (i : Nat) (hi : i < 7) : zeroCells[i * 2]? = some (.int .i32 (zLo i)) ∧ zeroCells[i * 2 + 1]? = some (.int .i32 (zHi i)) := by
 match i, hi with
 | 0, _ => exact ⟨rfl, rfl⟩
 | 1, _ => exact ⟨rfl, rfl⟩
 | 2, _ => exact ⟨rfl, rfl⟩
 | 3, _ => exact ⟨rfl, rfl⟩
 | 4, _ => exact ⟨rfl, rfl⟩
 | 5, _ => exact ⟨rfl, rfl⟩
 | 6, _ => exact ⟨rfl, rfl⟩
 | n + 7, h => omega
theorem wide_cells (i : Nat) (hi : i < 14) : wideCells[i * 2]? = some (.int .i32 (wLo i)) ∧ wideCells[i * 2 + 1]? = some (.int .i32 (wHi i)) := by
 match i, hi with
 | 0, _ => exact ⟨rfl, rfl⟩
 | 1, _ => exact ⟨rfl, rfl⟩
 | 2, _ => exact ⟨rfl, rfl⟩
 | 3, _ => exact ⟨rfl, rfl⟩
 | 4, _ => exact ⟨rfl, rfl⟩
 | 5, _ => exact ⟨rfl, rfl⟩
 | 6, _ => exact ⟨rfl, rfl⟩
 | 7, _ => exact ⟨rfl, rfl⟩
 | 8, _ => exact ⟨rfl, rfl⟩
 | 9, _ => exact ⟨rfl, rfl⟩
 | 10, _ => exact ⟨rfl, rfl⟩
 | 11, _ => exact ⟨rfl, rfl⟩
 | 12, _ => exact ⟨rfl, rfl⟩
 | 13, _ => exact ⟨rfl, rfl⟩
 | n + 14, h => omega
abbrev refWorld (w : World) : World := (w.alloc (.cells #[.int .i32 (-2147483648), .int .i32 31, .int .i32 127, .int .i32 159, .int .i32 768, .int .i32 879, .int .i32 8203, .int .i32 8207, .int .i32 65024, .int .i32 65039, .int .i32 1114112, .int .i32 2147483647, .int .i32 55296, .int .i32 57343] 183)).alloc (.cells #[.int .i32 4352, .int .i32 4447, .int .i32 11904, .int .i32 12350, .int .i32 12353, .int .i32 13311, .int .i32 13312, .int .i32 19903, .int .i32 19968, .int .i32 40959, .int .i32 40960, .int .i32 42191, .int .i32 44032, .int .i32 55203, .int .i32 63744, .int .i32 64255, .int .i32 65072, .int .i32 65135, .int .i32 65280, .int .i32 65376, .int .i32 65504, .int .i32 65510, .int .i32 127744, .int .i32 128591, .int .i32 129280, .int .i32 129535, .int .i32 131072, .int .i32 262141] 183)
theorem ref_zero (w : World) (i : Nat) (hi : i < 7) : (refWorld w).cell? ⟨w.heap.size, i * 2, none⟩ = some (.int .i32 (zLo i)) ∧ (refWorld w).cell? ⟨w.heap.size, i * 2 + 1, none⟩ = some (.int .i32 (zHi i)) := by
 have hb : (refWorld w).heap[w.heap.size]? = some (.cells zeroCells 183 (0, 0)) := by
  rw [refWorld, Below.heap_alloc _ _ _ (by simp)]; exact heap_alloc_new w _
 rw [cell_of_row _ _ _ _ _ (0, 0) hb, cell_of_row _ _ _ _ _ (0, 0) hb]
 exact zero_cells i hi
theorem ref_wide (w : World) (i : Nat) (hi : i < 14) : (refWorld w).cell? ⟨w.heap.size + 1, i * 2, none⟩ = some (.int .i32 (wLo i)) ∧ (refWorld w).cell? ⟨w.heap.size + 1, i * 2 + 1, none⟩ = some (.int .i32 (wHi i)) := by
 have hb : (refWorld w).heap[w.heap.size + 1]? = some (.cells wideCells 183 (0, 0)) := by
  have h := heap_alloc_new (w.alloc (.cells zeroCells 183)) (.cells wideCells 183)
  rw [World.size_alloc] at h
  exact h
 rw [cell_of_row _ _ _ _ _ (0, 0) hb, cell_of_row _ _ _ _ _ (0, 0) hb]
 exact wide_cells i hi
theorem refWidth_walk (r : Int) (hr0 : -2147483648 ≤ r) (hr1 : r ≤ 2147483647) (w : World) :
  Calls Tryz.prog 146 #[.int .i32 r] w fun e w' => e = .returned (.int .i64 (wof r)) ∧ Below w.heap.size w w' := by
 have hz := ref_zero w
 have hw := ref_wide w
 have ZH := Lib.hid hz
 have WH := Lib.hid hw
 clear hz hw
 have hbl : Below w.heap.size w (refWorld w) := ((Below.refl _ _).alloc (Nat.le_refl _) _).alloc (by simp) _
 have BL := Lib.hid hbl
 clear hbl
 go_enter Tryz.func146, Tryz.ntmps146
 go_wp2
 go_loop [5] (fun i => ∃ k : Nat, k ≤ 7 ∧ i = .int .i64 k ∧ (∀ j, j < k → ¬ (zLo j ≤ r ∧ r ≤ zHi j))) (fun i => 7 - (intOf i).toNat)
 case atStart => exact ⟨0, by omega, rfl, fun j h => by omega⟩
 case round =>
  obtain ⟨k, hk, rfl, hno⟩ := hrel
  by_cases hlt : k < 7
  ·obtain ⟨z0, z1⟩ := ZH.out k hlt
   have NO := Lib.hid hno
   have HIT := Lib.hid (wof_zero r k hlt)
   clear hno
   by_cases c1 : zLo k ≤ r
   ·by_cases c2 : r ≤ zHi k
    ·go_wp2
     go_ret
     exact ⟨ret_int (HIT.out c1 c2).symm, BL.out⟩
    ·go_wp2
     go_round
     case rel => exact ⟨k + 1, by omega, by go_num, fun j h => (Nat.lt_or_eq_of_le (Nat.le_of_lt_succ h)).elim (NO.out j) (fun e => by subst e; omega)⟩
     case measure => simp [intOf]; omega
   ·go_wp2
    go_round
    case rel => exact ⟨k + 1, by omega, by go_num, fun j h => (Nat.lt_or_eq_of_le (Nat.le_of_lt_succ h)).elim (NO.out j) (fun e => by subst e; omega)⟩
    case measure => simp [intOf]; omega
  ·obtain rfl : k = 7 := by omega
   have NO := Lib.hid hno
   clear hno
   go_wp2
   go_loop [6] (fun i => ∃ k : Nat, k ≤ 14 ∧ i = .int .i64 k ∧ (∀ j, j < k → ¬ (wLo j ≤ r ∧ r ≤ wHi j))) (fun i => 14 - (intOf i).toNat)
   case atStart => exact ⟨0, by omega, rfl, fun j h => by omega⟩
   case round =>
    obtain ⟨k, hk, rfl, hno⟩ := hrel
    by_cases hlt : k < 14
    ·obtain ⟨z0, z1⟩ := WH.out k hlt
     have NW := Lib.hid hno
     have HIT := Lib.hid (wof_wide r k hlt)
     clear hno
     by_cases c1 : wLo k ≤ r
     ·by_cases c2 : r ≤ wHi k
      ·go_wp2
       go_ret
       exact ⟨ret_int (HIT.out c1 c2).symm, BL.out⟩
      ·go_wp2
       go_round
       case rel => exact ⟨k + 1, by omega, by go_num, fun j h => (Nat.lt_or_eq_of_le (Nat.le_of_lt_succ h)).elim (NW.out j) (fun e => by subst e; omega)⟩
       case measure => simp [intOf]; omega
     ·go_wp2
      go_round
      case rel => exact ⟨k + 1, by omega, by go_num, fun j h => (Nat.lt_or_eq_of_le (Nat.le_of_lt_succ h)).elim (NW.out j) (fun e => by subst e; omega)⟩
      case measure => simp [intOf]; omega
    ·obtain rfl : k = 14 := by omega
     have M := Lib.hid (wof_none r hr0 hr1 NO.out hno)
     clear hno
     go_wp2
     go_ret
     exact ⟨ret_int M.out.symm, BL.out⟩
