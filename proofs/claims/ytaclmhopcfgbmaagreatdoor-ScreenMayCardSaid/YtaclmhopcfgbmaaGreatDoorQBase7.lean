/-
  The reference's Width answers what width.Of answers, for every sign. RowSpan: what is asked of a cell that was erased, step by step.
-/
import Derived.Test.YtaclmhopcfgbmaaGreatDoorQBase0
import Derived.Outline
import Derived.Test.YtaclmhopcfgbmaaGreatDoorQBase4
import Derived.Test.YtaclmhopcfgbmaaGreatDoorQRow2
namespace Go.Proofs.YtaclmhopcfgbmaaGreatDoor
open Go.ChangeShapes Go.WideShapes Go.ChangeAt Go.RowKit
def zeroRows : List (Int × Int) := [(-2147483648, 31), (127, 159), (768, 879), (8203, 8207), (65024, 65039), (1114112, 2147483647), (55296, 57343)]
def wideRows : List (Int × Int) := [(4352, 4447), (11904, 12350), (12353, 13311), (13312, 19903), (19968, 40959), (40960, 42191), (44032, 55203), (63744, 64255), (65072, 65135), (65280, 65376), (65504, 65510), (127744, 128591), (129280, 129535), (131072, 262141)]
def zLo (i : Nat) : Int := (zeroRows.getD i (0, 0)).1
def zHi (i : Nat) : Int := (zeroRows.getD i (0, 0)).2
def wLo (i : Nat) : Int := (wideRows.getD i (0, 0)).1
def wHi (i : Nat) : Int := (wideRows.getD i (0, 0)).2
def zeroCells : Array Value := #[.int .i32 (-2147483648), .int .i32 31, .int .i32 127, .int .i32 159, .int .i32 768, .int .i32 879, .int .i32 8203, .int .i32 8207, .int .i32 65024, .int .i32 65039, .int .i32 1114112, .int .i32 2147483647, .int .i32 55296, .int .i32 57343]
def wideCells : Array Value := #[.int .i32 4352, .int .i32 4447, .int .i32 11904, .int .i32 12350, .int .i32 12353, .int .i32 13311, .int .i32 13312, .int .i32 19903, .int .i32 19968, .int .i32 40959, .int .i32 40960, .int .i32 42191, .int .i32 44032, .int .i32 55203, .int .i32 63744, .int .i32 64255, .int .i32 65072, .int .i32 65135, .int .i32 65280, .int .i32 65376, .int .i32 65504, .int .i32 65510, .int .i32 127744, .int .i32 128591, .int .i32 129280, .int .i32 129535, .int .i32 131072, .int .i32 262141]
theorem wof_zero (r : Int) (i : Nat) (hi : i < 7) (h0 : zLo i ≤ r) (h1 : r ≤ zHi i) : wof r = 0 := by
 unfold wof
 match i, hi with
 | 0, _ => simp only [zLo, zHi, zeroRows, List.getD_cons_zero] at h0 h1; (repeat rw [if_neg (by omega)]); rw [if_pos (by omega)]
 | 1, _ => simp only [zLo, zHi, zeroRows, List.getD_cons_zero, List.getD_cons_succ] at h0 h1; (repeat rw [if_neg (by omega)]); rw [if_pos (by omega)]
 | 2, _ => simp only [zLo, zHi, zeroRows, List.getD_cons_zero, List.getD_cons_succ] at h0 h1; (repeat rw [if_neg (by omega)]); rw [if_pos (by omega)]
 | 3, _ => simp only [zLo, zHi, zeroRows, List.getD_cons_zero, List.getD_cons_succ] at h0 h1; (repeat rw [if_neg (by omega)]); rw [if_pos (by omega)]
 | 4, _ => simp only [zLo, zHi, zeroRows, List.getD_cons_zero, List.getD_cons_succ] at h0 h1; (repeat rw [if_neg (by omega)]); rw [if_pos (by omega)]
 | 5, _ => simp only [zLo, zHi, zeroRows, List.getD_cons_zero, List.getD_cons_succ] at h0 h1; (repeat rw [if_neg (by omega)]); rw [if_pos (by omega)]
 | 6, _ => simp only [zLo, zHi, zeroRows, List.getD_cons_zero, List.getD_cons_succ] at h0 h1; (repeat rw [if_neg (by omega)]); rw [if_pos (by omega)]
 | n + 7, h => omega
theorem wof_wide (r : Int) (i : Nat) (hi : i < 14) (h0 : wLo i ≤ r) (h1 : r ≤ wHi i) : wof r = 2 := by
 unfold wof
 match i, hi with
 | 0, _ => simp only [wLo, wHi, wideRows, List.getD_cons_zero] at h0 h1; (repeat rw [if_neg (by omega)]); rw [if_pos (by omega)]
 | 1, _ => simp only [wLo, wHi, wideRows, List.getD_cons_zero, List.getD_cons_succ] at h0 h1; (repeat rw [if_neg (by omega)]); rw [if_pos (by omega)]
 | 2, _ => simp only [wLo, wHi, wideRows, List.getD_cons_zero, List.getD_cons_succ] at h0 h1; (repeat rw [if_neg (by omega)]); rw [if_pos (by omega)]
 | 3, _ => simp only [wLo, wHi, wideRows, List.getD_cons_zero, List.getD_cons_succ] at h0 h1; (repeat rw [if_neg (by omega)]); rw [if_pos (by omega)]
 | 4, _ => simp only [wLo, wHi, wideRows, List.getD_cons_zero, List.getD_cons_succ] at h0 h1; (repeat rw [if_neg (by omega)]); rw [if_pos (by omega)]
 | 5, _ => simp only [wLo, wHi, wideRows, List.getD_cons_zero, List.getD_cons_succ] at h0 h1; (repeat rw [if_neg (by omega)]); rw [if_pos (by omega)]
 | 6, _ => simp only [wLo, wHi, wideRows, List.getD_cons_zero, List.getD_cons_succ] at h0 h1; (repeat rw [if_neg (by omega)]); rw [if_pos (by omega)]
 | 7, _ => simp only [wLo, wHi, wideRows, List.getD_cons_zero, List.getD_cons_succ] at h0 h1; (repeat rw [if_neg (by omega)]); rw [if_pos (by omega)]
 | 8, _ => simp only [wLo, wHi, wideRows, List.getD_cons_zero, List.getD_cons_succ] at h0 h1; (repeat rw [if_neg (by omega)]); rw [if_pos (by omega)]
 | 9, _ => simp only [wLo, wHi, wideRows, List.getD_cons_zero, List.getD_cons_succ] at h0 h1; (repeat rw [if_neg (by omega)]); rw [if_pos (by omega)]
 | 10, _ => simp only [wLo, wHi, wideRows, List.getD_cons_zero, List.getD_cons_succ] at h0 h1; (repeat rw [if_neg (by omega)]); rw [if_pos (by omega)]
 | 11, _ => simp only [wLo, wHi, wideRows, List.getD_cons_zero, List.getD_cons_succ] at h0 h1; (repeat rw [if_neg (by omega)]); rw [if_pos (by omega)]
 | 12, _ => simp only [wLo, wHi, wideRows, List.getD_cons_zero, List.getD_cons_succ] at h0 h1; (repeat rw [if_neg (by omega)]); rw [if_pos (by omega)]
 | 13, _ => simp only [wLo, wHi, wideRows, List.getD_cons_zero, List.getD_cons_succ] at h0 h1; (repeat rw [if_neg (by omega)]); rw [if_pos (by omega)]
 | n + 14, h => omega
theorem wof_none (r : Int) (hr0 : -2147483648 ≤ r) (hr1 : r ≤ 2147483647) (h : ∀ i, i < 7 → ¬ (zLo i ≤ r ∧ r ≤ zHi i)) (k : ∀ i, i < 14 → ¬ (wLo i ≤ r ∧ r ≤ wHi i)) : wof r = 1 := by
 have h0 := h 0 (by omega); have h1 := h 1 (by omega); have h2 := h 2 (by omega); have h3 := h 3 (by omega); have h4 := h 4 (by omega); have h5 := h 5 (by omega); have h6 := h 6 (by omega)
 have k0 := k 0 (by omega); have k1 := k 1 (by omega); have k2 := k 2 (by omega); have k3 := k 3 (by omega); have k4 := k 4 (by omega); have k5 := k 5 (by omega); have k6 := k 6 (by omega); have k7 := k 7 (by omega); have k8 := k 8 (by omega); have k9 := k 9 (by omega); have k10 := k 10 (by omega); have k11 := k 11 (by omega); have k12 := k 12 (by omega); have k13 := k 13 (by omega)
 simp only [zLo, zHi, wLo, wHi, zeroRows, wideRows, List.getD_cons_zero, List.getD_cons_succ] at h0 h1 h2 h3 h4 h5 h6 k0 k1 k2 k3 k4 k5 k6 k7 k8 k9 k10 k11 k12 k13
 unfold wof
 repeat rw [if_neg (by omega)]
theorem zero_cells (i : Nat) (hi : i < 7) : zeroCells[i * 2]? = some (.int .i32 (zLo i)) ∧ zeroCells[i * 2 + 1]? = some (.int .i32 (zHi i)) := by
 match i, hi with
 | 0, _ => exact ⟨rfl, rfl⟩
 | 1, _ => exact ⟨rfl, rfl⟩
 | 2, _ => exact ⟨rfl, rfl⟩
 | 3, _ => exact ⟨rfl, rfl⟩
 | 4, _ => exact ⟨rfl, rfl⟩
 | 5, _ => exact ⟨rfl, rfl⟩
 | 6, _ => exact ⟨rfl, rfl⟩
 | n + 7, h => omega
theorem wide_cells (i : Nat) (hi : i < 14) : wideCells[i * 2]? = some (.int .i32 (wLo i)) ∧ wideCells[i * 2 + 1]? = some (.int .i32 (wHi i)) := by
 match i, hi with
 | 0, _ => exact ⟨rfl, rfl⟩
 | 1, _ => exact ⟨rfl, rfl⟩
 | 2, _ => exact ⟨rfl, rfl⟩
 | 3, _ => exact ⟨rfl, rfl⟩
 | 4, _ => exact ⟨rfl, rfl⟩
 | 5, _ => exact ⟨rfl, rfl⟩
 | 6, _ => exact ⟨rfl, rfl⟩
 | 7, _ => exact ⟨rfl, rfl⟩
 | 8, _ => exact ⟨rfl, rfl⟩
 | 9, _ => exact ⟨rfl, rfl⟩
 | 10, _ => exact ⟨rfl, rfl⟩
 | 11, _ => exact ⟨rfl, rfl⟩
 | 12, _ => exact ⟨rfl, rfl⟩
 | 13, _ => exact ⟨rfl, rfl⟩
 | n + 14, h => omega
abbrev refWorld (w : World) : World := (w.alloc (.cells #[.int .i32 (-2147483648), .int .i32 31, .int .i32 127, .int .i32 159, .int .i32 768, .int .i32 879, .int .i32 8203, .int .i32 8207, .int .i32 65024, .int .i32 65039, .int .i32 1114112, .int .i32 2147483647, .int .i32 55296, .int .i32 57343] 118)).alloc (.cells #[.int .i32 4352, .int .i32 4447, .int .i32 11904, .int .i32 12350, .int .i32 12353, .int .i32 13311, .int .i32 13312, .int .i32 19903, .int .i32 19968, .int .i32 40959, .int .i32 40960, .int .i32 42191, .int .i32 44032, .int .i32 55203, .int .i32 63744, .int .i32 64255, .int .i32 65072, .int .i32 65135, .int .i32 65280, .int .i32 65376, .int .i32 65504, .int .i32 65510, .int .i32 127744, .int .i32 128591, .int .i32 129280, .int .i32 129535, .int .i32 131072, .int .i32 262141] 118)
theorem ref_zero (w : World) (i : Nat) (hi : i < 7) : (refWorld w).cell? ⟨w.heap.size, i * 2, none⟩ = some (.int .i32 (zLo i)) ∧ (refWorld w).cell? ⟨w.heap.size, i * 2 + 1, none⟩ = some (.int .i32 (zHi i)) := by
 have hb : (refWorld w).heap[w.heap.size]? = some (.cells zeroCells 118 (0, 0)) := by
  rw [refWorld, Below.heap_alloc _ _ _ (by simp)]; exact heap_alloc_new w _
 rw [cell_of_row _ _ _ _ _ (0, 0) hb, cell_of_row _ _ _ _ _ (0, 0) hb]
 exact zero_cells i hi
theorem ref_wide (w : World) (i : Nat) (hi : i < 14) : (refWorld w).cell? ⟨w.heap.size + 1, i * 2, none⟩ = some (.int .i32 (wLo i)) ∧ (refWorld w).cell? ⟨w.heap.size + 1, i * 2 + 1, none⟩ = some (.int .i32 (wHi i)) := by
 have hb : (refWorld w).heap[w.heap.size + 1]? = some (.cells wideCells 118 (0, 0)) := by
  have h := heap_alloc_new (w.alloc (.cells zeroCells 118)) (.cells wideCells 118)
  rw [World.size_alloc] at h
  exact h
 rw [cell_of_row _ _ _ _ _ (0, 0) hb, cell_of_row _ _ _ _ _ (0, 0) hb]
 exact wide_cells i hi
set_option maxRecDepth 100000 in
set_option maxHeartbeats 1600000 in
theorem refWidth_walk (r : Int) (hr0 : -2147483648 ≤ r) (hr1 : r ≤ 2147483647) (w : World) :
  Calls Tryz.prog 70 #[.int .i32 r] w fun e w' => e = .returned (.int .i64 (wof r)) ∧ Below w.heap.size w w' := by
 have hz := ref_zero w
 have hw := ref_wide w
 have ZH := Lib.hid hz
 have WH := Lib.hid hw
 clear hz hw
 have hbl : Below w.heap.size w (refWorld w) := ((Below.refl _ _).alloc (Nat.le_refl _) _).alloc (by simp) _
 have BL := Lib.hid hbl
 clear hbl
 go_enter Tryz.func70, Tryz.ntmps70
 go_wp2
 go_loop [5] (fun i => ∃ k : Nat, k ≤ 7 ∧ i = .int .i64 k ∧ (∀ j, j < k → ¬ (zLo j ≤ r ∧ r ≤ zHi j))) (fun i => 7 - (intOf i).toNat)
 case atStart => exact ⟨0, by omega, rfl, fun j h => by omega⟩
 case round =>
  obtain ⟨k, hk, rfl, hno⟩ := hrel
  by_cases hlt : k < 7
  ·obtain ⟨z0, z1⟩ := ZH.out k hlt
   have NO := Lib.hid hno
   have HIT := Lib.hid (wof_zero r k hlt)
   clear hno
   by_cases c1 : zLo k ≤ r
   ·by_cases c2 : r ≤ zHi k
    ·go_wp2
     go_ret
     exact ⟨ret_int (HIT.out c1 c2).symm, BL.out⟩
    ·go_wp2
     go_round
     case rel => exact ⟨k + 1, by omega, by go_num, fun j h => (Nat.lt_or_eq_of_le (Nat.le_of_lt_succ h)).elim (NO.out j) (fun e => by subst e; omega)⟩
     case measure => simp [intOf]; omega
   ·go_wp2
    go_round
    case rel => exact ⟨k + 1, by omega, by go_num, fun j h => (Nat.lt_or_eq_of_le (Nat.le_of_lt_succ h)).elim (NO.out j) (fun e => by subst e; omega)⟩
    case measure => simp [intOf]; omega
  ·obtain rfl : k = 7 := by omega
   have NO := Lib.hid hno
   clear hno
   go_wp2
   go_loop [6] (fun i => ∃ k : Nat, k ≤ 14 ∧ i = .int .i64 k ∧ (∀ j, j < k → ¬ (wLo j ≤ r ∧ r ≤ wHi j))) (fun i => 14 - (intOf i).toNat)
   case atStart => exact ⟨0, by omega, rfl, fun j h => by omega⟩
   case round =>
    obtain ⟨k, hk, rfl, hno⟩ := hrel
    by_cases hlt : k < 14
    ·obtain ⟨z0, z1⟩ := WH.out k hlt
     have NW := Lib.hid hno
     have HIT := Lib.hid (wof_wide r k hlt)
     clear hno
     by_cases c1 : wLo k ≤ r
     ·by_cases c2 : r ≤ wHi k
      ·go_wp2
       go_ret
       exact ⟨ret_int (HIT.out c1 c2).symm, BL.out⟩
      ·go_wp2
       go_round
       case rel => exact ⟨k + 1, by omega, by go_num, fun j h => (Nat.lt_or_eq_of_le (Nat.le_of_lt_succ h)).elim (NW.out j) (fun e => by subst e; omega)⟩
       case measure => simp [intOf]; omega
     ·go_wp2
      go_round
      case rel => exact ⟨k + 1, by omega, by go_num, fun j h => (Nat.lt_or_eq_of_le (Nat.le_of_lt_succ h)).elim (NW.out j) (fun e => by subst e; omega)⟩
      case measure => simp [intOf]; omega
    ·obtain rfl : k = 14 := by omega
     have M := Lib.hid (wof_none r hr0 hr1 NO.out hno)
     clear hno
     go_wp2
     go_ret
     exact ⟨ret_int M.out.symm, BL.out⟩
end Go.Proofs.YtaclmhopcfgbmaaGreatDoor
namespace Go.Proofs.YtaclmhopcfgbmaaGreatDoor
open Go.ChangeShapes Go.WideShapes Go.ChangeAt Go.RowKit
namespace Rw
abbrev U38SpanR (k : Nat) := Ord.upto k 38
def spanL : List Ord.Line := [
 (some 70, Go.Op.move (Go.Operand.tmp 11), none, []),
 (some 71, Go.Op.move (Go.Operand.tmp 70), none, [0]),
 (some 72, Go.Op.fieldAddr 40 (Go.Operand.tmp 8) 0, some (1, true), [1]),
 (some 73, Go.Op.load 38 (Go.Operand.tmp 72), some (1, true), [2, 1]),
 (some 74, Go.Op.move (Go.Operand.tmp 10), some (1, true), [1]),
 (some 75, Go.Op.indexAddr 38 (Go.Operand.tmp 73) (Go.Operand.tmp 74), some (1, true), [3, 4, 1]),
 (some 76, Go.Op.load 54 (Go.Operand.tmp 75), some (1, true), [5, 1]),
 (some 77, Go.Op.call { callee := Go.Callee.value (Go.Operand.func 36), args := #[], argTypes := #[] }, some (1, true), [1, 1]),
 (some 78, Go.Op.binOp Go.BinOp.neq 54 (Go.Operand.tmp 76) (Go.Operand.tmp 77) 54, some (1, true), [6, 7, 1]),
 (some 79, Go.Op.pick (Go.Operand.tmp 71) (Go.Operand.tmp 78) (Go.Operand.const (Go.Value.bool false)), none, [1, 8]),
 (some 80, Go.Op.move (Go.Operand.tmp 79), none, [9, 7]),
 (some 81, Go.Op.move (Go.Operand.tmp 11), some (10, false), [10]),
 (some 82, Go.Op.unOp Go.UnOp.not 4 (Go.Operand.tmp 81), some (10, false), [11, 10]),
 (some 83, Go.Op.move (Go.Operand.tmp 82), some (10, false), [12, 10, 10]),
 (some 84, Go.Op.move (Go.Operand.tmp 10), some (13, true), [13]),
 (some 85, Go.Op.move (Go.Operand.tmp 1), some (13, true), [13]),
 (some 86, Go.Op.binOp Go.BinOp.sub 3 (Go.Operand.tmp 85) (Go.Operand.const (Go.Value.int Go.IntKind.i64 1)) 3, some (13, true), [15, 13]),
 (some 87, Go.Op.binOp Go.BinOp.neq 3 (Go.Operand.tmp 84) (Go.Operand.tmp 86) 3, some (13, true), [14, 16, 13]),
 (some 88, Go.Op.pick (Go.Operand.tmp 83) (Go.Operand.tmp 87) (Go.Operand.const (Go.Value.bool false)), some (10, false), [13, 17, 10]),
 (some 89, Go.Op.move (Go.Operand.tmp 88), some (10, false), [18, 13, 10]),
 (some 90, Go.Op.move (Go.Operand.tmp 10), some (19, true), [19]),
 (some 91, Go.Op.move (Go.Operand.tmp 2), some (19, true), [19]),
 (some 92, Go.Op.binOp Go.BinOp.neq 3 (Go.Operand.tmp 90) (Go.Operand.tmp 91) 3, some (19, true), [20, 21, 19]),
 (some 93, Go.Op.pick (Go.Operand.tmp 89) (Go.Operand.tmp 92) (Go.Operand.const (Go.Value.bool false)), some (10, false), [19, 22, 10]),
 (some 94, Go.Op.move (Go.Operand.tmp 93), some (10, false), [23, 19, 10]),
 (some 95, Go.Op.fieldAddr 40 (Go.Operand.tmp 8) 0, some (24, true), [24]),
 (some 96, Go.Op.load 38 (Go.Operand.tmp 95), some (24, true), [25, 24]),
 (some 97, Go.Op.move (Go.Operand.tmp 10), some (24, true), [24]),
 (some 98, Go.Op.indexAddr 38 (Go.Operand.tmp 96) (Go.Operand.tmp 97), some (24, true), [26, 27, 24]),
 (some 99, Go.Op.load 54 (Go.Operand.tmp 98), some (24, true), [28, 24]),
 (some 100, Go.Op.fieldAddr 40 (Go.Operand.tmp 3) 0, some (24, true), [24]),
 (some 101, Go.Op.load 38 (Go.Operand.tmp 100), some (24, true), [30, 24]),
 (some 102, Go.Op.move (Go.Operand.tmp 10), some (24, true), [24]),
 (some 103, Go.Op.indexAddr 38 (Go.Operand.tmp 101) (Go.Operand.tmp 102), some (24, true), [31, 32, 24]),
 (some 104, Go.Op.load 54 (Go.Operand.tmp 103), some (24, true), [33, 24]),
 (some 105, Go.Op.binOp Go.BinOp.neq 54 (Go.Operand.tmp 99) (Go.Operand.tmp 104) 54, some (24, true), [29, 34, 24]),
 (some 106, Go.Op.pick (Go.Operand.tmp 94) (Go.Operand.tmp 105) (Go.Operand.const (Go.Value.bool false)), some (10, false), [24, 35, 10]),
 (some 107, Go.Op.pick (Go.Operand.tmp 80) (Go.Operand.const (Go.Value.bool true)) (Go.Operand.tmp 106), none, [10, 36])]
structure SpanFr (f t b0 b8 i : Nat) (p0 p4 p5 p6 p7 p9 p12 p13 p14 p15 p16 p17 p18 p19 p20 p21 p22 p23 p24 p25 p26 p27 p28 p29 p30 p31 p32 p33 p34 p35 p36 p37 p38 p39 p40 p41 p42 p43 p44 p45 p46 p47 p48 p49 p50 p51 p52 p53 p54 p55 p56 p57 p58 p59 p109 p110 p111 p112 p113 p114 p115 p116 p117 p118 p119 p120 p121 : Value) (a : Act) : Prop where
 size : a.tmps.size = 122
 defers : a.defers = []
 s0 : Chain.At a 0 (p0)
 s1 : Chain.At a 1 (.int .i64 (f : Int))
 s2 : Chain.At a 2 (.int .i64 (t : Int))
 s3 : Chain.At a 3 (.pointer (some ⟨b0, 0, none⟩))
 s4 : Chain.At a 4 (p4)
 s5 : Chain.At a 5 (p5)
 s6 : Chain.At a 6 (p6)
 s7 : Chain.At a 7 (p7)
 s8 : Chain.At a 8 (.pointer (some ⟨b8, 0, none⟩))
 s9 : Chain.At a 9 (p9)
 s10 : Chain.At a 10 (.int .i64 (i : Int))
 s11 : Chain.At a 11 (.bool true)
 s12 : Chain.At a 12 (p12)
 s13 : Chain.At a 13 (p13)
 s14 : Chain.At a 14 (p14)
 s15 : Chain.At a 15 (p15)
 s16 : Chain.At a 16 (p16)
 s17 : Chain.At a 17 (p17)
 s18 : Chain.At a 18 (p18)
 s19 : Chain.At a 19 (p19)
 s20 : Chain.At a 20 (p20)
 s21 : Chain.At a 21 (p21)
 s22 : Chain.At a 22 (p22)
 s23 : Chain.At a 23 (p23)
 s24 : Chain.At a 24 (p24)
 s25 : Chain.At a 25 (p25)
 s26 : Chain.At a 26 (p26)
 s27 : Chain.At a 27 (p27)
 s28 : Chain.At a 28 (p28)
 s29 : Chain.At a 29 (p29)
 s30 : Chain.At a 30 (p30)
 s31 : Chain.At a 31 (p31)
 s32 : Chain.At a 32 (p32)
 s33 : Chain.At a 33 (p33)
 s34 : Chain.At a 34 (p34)
 s35 : Chain.At a 35 (p35)
 s36 : Chain.At a 36 (p36)
 s37 : Chain.At a 37 (p37)
 s38 : Chain.At a 38 (p38)
 s39 : Chain.At a 39 (p39)
 s40 : Chain.At a 40 (p40)
 s41 : Chain.At a 41 (p41)
 s42 : Chain.At a 42 (p42)
 s43 : Chain.At a 43 (p43)
 s44 : Chain.At a 44 (p44)
 s45 : Chain.At a 45 (p45)
 s46 : Chain.At a 46 (p46)
 s47 : Chain.At a 47 (p47)
 s48 : Chain.At a 48 (p48)
 s49 : Chain.At a 49 (p49)
 s50 : Chain.At a 50 (p50)
 s51 : Chain.At a 51 (p51)
 s52 : Chain.At a 52 (p52)
 s53 : Chain.At a 53 (p53)
 s54 : Chain.At a 54 (p54)
 s55 : Chain.At a 55 (p55)
 s56 : Chain.At a 56 (p56)
 s57 : Chain.At a 57 (p57)
 s58 : Chain.At a 58 (p58)
 s59 : Chain.At a 59 (p59)
 s109 : Chain.At a 109 (p109)
 s110 : Chain.At a 110 (p110)
 s111 : Chain.At a 111 (p111)
 s112 : Chain.At a 112 (p112)
 s113 : Chain.At a 113 (p113)
 s114 : Chain.At a 114 (p114)
 s115 : Chain.At a 115 (p115)
 s116 : Chain.At a 116 (p116)
 s117 : Chain.At a 117 (p117)
 s118 : Chain.At a 118 (p118)
 s119 : Chain.At a 119 (p119)
 s120 : Chain.At a 120 (p120)
 s121 : Chain.At a 121 (p121)
theorem SpanFr.next {f t b0 b8 i : Nat} {p0 p4 p5 p6 p7 p9 p12 p13 p14 p15 p16 p17 p18 p19 p20 p21 p22 p23 p24 p25 p26 p27 p28 p29 p30 p31 p32 p33 p34 p35 p36 p37 p38 p39 p40 p41 p42 p43 p44 p45 p46 p47 p48 p49 p50 p51 p52 p53 p54 p55 p56 p57 p58 p59 p109 p110 p111 p112 p113 p114 p115 p116 p117 p118 p119 p120 p121 : Value} {a a' : Act} {d : Nat} {v : Value} (F : SpanFr f t b0 b8 i p0 p4 p5 p6 p7 p9 p12 p13 p14 p15 p16 p17 p18 p19 p20 p21 p22 p23 p24 p25 p26 p27 p28 p29 p30 p31 p32 p33 p34 p35 p36 p37 p38 p39 p40 p41 p42 p43 p44 p45 p46 p47 p48 p49 p50 p51 p52 p53 p54 p55 p56 p57 p58 p59 p109 p110 p111 p112 p113 p114 p115 p116 p117 p118 p119 p120 p121 a) (nx : Chain.Next a a' d v) (h : 59 < d ∧ d < 109 := by decide) : SpanFr f t b0 b8 i p0 p4 p5 p6 p7 p9 p12 p13 p14 p15 p16 p17 p18 p19 p20 p21 p22 p23 p24 p25 p26 p27 p28 p29 p30 p31 p32 p33 p34 p35 p36 p37 p38 p39 p40 p41 p42 p43 p44 p45 p46 p47 p48 p49 p50 p51 p52 p53 p54 p55 p56 p57 p58 p59 p109 p110 p111 p112 p113 p114 p115 p116 p117 p118 p119 p120 p121 a' := ⟨nx.size.trans F.size, nx.defers.trans F.defers, nx.k F.s0 (by omega), nx.k F.s1 (by omega), nx.k F.s2 (by omega), nx.k F.s3 (by omega), nx.k F.s4 (by omega), nx.k F.s5 (by omega), nx.k F.s6 (by omega), nx.k F.s7 (by omega), nx.k F.s8 (by omega), nx.k F.s9 (by omega), nx.k F.s10 (by omega), nx.k F.s11 (by omega), nx.k F.s12 (by omega), nx.k F.s13 (by omega), nx.k F.s14 (by omega), nx.k F.s15 (by omega), nx.k F.s16 (by omega), nx.k F.s17 (by omega), nx.k F.s18 (by omega), nx.k F.s19 (by omega), nx.k F.s20 (by omega), nx.k F.s21 (by omega), nx.k F.s22 (by omega), nx.k F.s23 (by omega), nx.k F.s24 (by omega), nx.k F.s25 (by omega), nx.k F.s26 (by omega), nx.k F.s27 (by omega), nx.k F.s28 (by omega), nx.k F.s29 (by omega), nx.k F.s30 (by omega), nx.k F.s31 (by omega), nx.k F.s32 (by omega), nx.k F.s33 (by omega), nx.k F.s34 (by omega), nx.k F.s35 (by omega), nx.k F.s36 (by omega), nx.k F.s37 (by omega), nx.k F.s38 (by omega), nx.k F.s39 (by omega), nx.k F.s40 (by omega), nx.k F.s41 (by omega), nx.k F.s42 (by omega), nx.k F.s43 (by omega), nx.k F.s44 (by omega), nx.k F.s45 (by omega), nx.k F.s46 (by omega), nx.k F.s47 (by omega), nx.k F.s48 (by omega), nx.k F.s49 (by omega), nx.k F.s50 (by omega), nx.k F.s51 (by omega), nx.k F.s52 (by omega), nx.k F.s53 (by omega), nx.k F.s54 (by omega), nx.k F.s55 (by omega), nx.k F.s56 (by omega), nx.k F.s57 (by omega), nx.k F.s58 (by omega), nx.k F.s59 (by omega), nx.k F.s109 (by omega), nx.k F.s110 (by omega), nx.k F.s111 (by omega), nx.k F.s112 (by omega), nx.k F.s113 (by omega), nx.k F.s114 (by omega), nx.k F.s115 (by omega), nx.k F.s116 (by omega), nx.k F.s117 (by omega), nx.k F.s118 (by omega), nx.k F.s119 (by omega), nx.k F.s120 (by omega), nx.k F.s121 (by omega)⟩
theorem SpanFr.lt {f t b0 b8 i : Nat} {p0 p4 p5 p6 p7 p9 p12 p13 p14 p15 p16 p17 p18 p19 p20 p21 p22 p23 p24 p25 p26 p27 p28 p29 p30 p31 p32 p33 p34 p35 p36 p37 p38 p39 p40 p41 p42 p43 p44 p45 p46 p47 p48 p49 p50 p51 p52 p53 p54 p55 p56 p57 p58 p59 p109 p110 p111 p112 p113 p114 p115 p116 p117 p118 p119 p120 p121 : Value} {a : Act} {d : Nat} (F : SpanFr f t b0 b8 i p0 p4 p5 p6 p7 p9 p12 p13 p14 p15 p16 p17 p18 p19 p20 p21 p22 p23 p24 p25 p26 p27 p28 p29 p30 p31 p32 p33 p34 p35 p36 p37 p38 p39 p40 p41 p42 p43 p44 p45 p46 p47 p48 p49 p50 p51 p52 p53 p54 p55 p56 p57 p58 p59 p109 p110 p111 p112 p113 p114 p115 p116 p117 p118 p119 p120 p121 a) (h : d < 122 := by decide) : d < a.tmps.size := by rw [F.size]; exact h
set_option maxRecDepth 100000 in
theorem span_region {ops : Array Oper} {Q : Exit → Act → World → Prop} (R : Ord.Reg ops spanL) (hQ : ∀ c a w d v, Q (.panic c) (Act.put a (some d) v) w → Q (.panic c) a w) {w1 : World} {f t b0 b8 i ge oe n c5 : Nat} {p0 p4 p5 p6 p7 p9 p12 p13 p14 p15 p16 p17 p18 p19 p20 p21 p22 p23 p24 p25 p26 p27 p28 p29 p30 p31 p32 p33 p34 p35 p36 p37 p38 p39 p40 p41 p42 p43 p44 p45 p46 p47 p48 p49 p50 p51 p52 p53 p54 p55 p56 p57 p58 p59 p109 p110 p111 p112 p113 p114 p115 p116 p117 p118 p119 p120 p121 : Value}
  (c0 : ∀ w : World, Below w1.heap.size w1 w → w.cell? ⟨b8, 0, none⟩ = some (.slice (some ⟨ge, oe, none⟩) n c5)) (hi0 : (0 : Int) ≤ (i : Int)) (hin : (i : Int) < (n : Int))
  (e0 : ∀ w : World, Below w1.heap.size w1 w → w.cell? ⟨ge, oe + i * 3, none⟩ = some (.int .i32 32)) (e1 : ∀ w : World, Below w1.heap.size w1 w → w.cell? ⟨ge, oe + i * 3 + 1, none⟩ = some (.int .i64 1)) (e2 : ∀ w : World, Below w1.heap.size w1 w → w.cell? ⟨ge, oe + i * 3 + 2, none⟩ = some (.int .i64 0))
  (BL : ∀ w : World, Calls Tryz.prog 36 #[] w fun e w' => e = .returned (.agg #[.int .i32 32, .int .i64 1, .int .i64 0]) ∧ Below w.heap.size w w')
  (a : Act) (F : SpanFr f t b0 b8 i p0 p4 p5 p6 p7 p9 p12 p13 p14 p15 p16 p17 p18 p19 p20 p21 p22 p23 p24 p25 p26 p27 p28 p29 p30 p31 p32 p33 p34 p35 p36 p37 p38 p39 p40 p41 p42 p43 p44 p45 p46 p47 p48 p49 p50 p51 p52 p53 p54 p55 p56 p57 p58 p59 p109 p110 p111 p112 p113 p114 p115 p116 p117 p118 p119 p120 p121 a) (h : ∀ a w, SpanFr f t b0 b8 i p0 p4 p5 p6 p7 p9 p12 p13 p14 p15 p16 p17 p18 p19 p20 p21 p22 p23 p24 p25 p26 p27 p28 p29 p30 p31 p32 p33 p34 p35 p36 p37 p38 p39 p40 p41 p42 p43 p44 p45 p46 p47 p48 p49 p50 p51 p52 p53 p54 p55 p56 p57 p58 p59 p109 p110 p111 p112 p113 p114 p115 p116 p117 p118 p119 p120 p121 a → Chain.At a 107 (.bool false) → Below w1.heap.size w1 w → Q .normal a w) (w : World) (hS : Below w1.heap.size w1 w) :
  wpAnyH Tryz.prog .any ops Q (fun w => Below w1.heap.size w1 w) 38 (List.replicate 38 false).toArray a w := by
 refine Ord.take R (k := 0) (v := .bool true) (bs' := U38SpanR 1) rfl (by kernel_rfl) hQ trivial hS (fun w _ hS => Chain.ev_move F.s11.ev) F.lt fun a0 N => ?_
 replace F := F.next N
 have f70 := N.got
 clear N a
 refine Ord.take R (k := 1) (v := .bool true) (bs' := U38SpanR 2) rfl (by kernel_rfl) hQ trivial hS (fun w _ hS => Chain.ev_move f70.ev) F.lt fun a1 N => ?_
 replace F := F.next N
 clear f70
 have f71 := N.got
 clear N a0
 refine Ord.take R (k := 2) (v := .pointer (some ⟨b8, 0, none⟩)) (bs' := U38SpanR 3) rfl (by kernel_rfl) hQ (R.opened (j := 1) rfl f71) hS (fun w _ hS => by have e8 := F.s8; unfold Chain.At at e8; clear F; go_simp) F.lt fun a2 N => ?_
 replace F := F.next N
 replace f71 := N.k f71
 have f72 := N.got
 clear N a1
 refine Ord.take R (k := 3) (v := .slice (some ⟨ge, oe, none⟩) n c5) (bs' := U38SpanR 4) rfl (by kernel_rfl) hQ (R.opened (j := 1) rfl f71) hS (fun w _ hS => by have e72 := f72; unfold Chain.At at e72; have q0 := (c0 w hS); clear F; go_simp) F.lt fun a3 N => ?_
 replace F := F.next N
 replace f71 := N.k f71
 clear f72
 have f73 := N.got
 clear N a2
 refine Ord.take R (k := 4) (v := .int .i64 (i : Int)) (bs' := U38SpanR 5) rfl (by kernel_rfl) hQ (R.opened (j := 1) rfl f71) hS (fun w _ hS => Chain.ev_move F.s10.ev) F.lt fun a4 N => ?_
 replace F := F.next N
 replace f71 := N.k f71
 replace f73 := N.k f73
 have f74 := N.got
 clear N a3
 refine Ord.take R (k := 5) (v := .pointer (some ⟨ge, oe + i * 3, none⟩)) (bs' := U38SpanR 6) rfl (by kernel_rfl) hQ (R.opened (j := 1) rfl f71) hS (fun w _ hS => by have e73 := f73; unfold Chain.At at e73; have e74 := f74; unfold Chain.At at e74; have q0 := hi0; have q1 := hin; clear F; go_simp) F.lt fun a5 N => ?_
 replace F := F.next N
 replace f71 := N.k f71
 clear f73
 clear f74
 have f75 := N.got
 clear N a4
 refine Ord.take R (k := 6) (v := .agg #[.int .i32 32, .int .i64 1, .int .i64 0]) (bs' := U38SpanR 7) rfl (by kernel_rfl) hQ (R.opened (j := 1) rfl f71) hS (fun w _ hS => by have e75 := f75; unfold Chain.At at e75; have q0 := (e0 w hS); have q1 := (e1 w hS); have q2 := (e2 w hS); clear F; go_simp) F.lt fun a6 N => ?_
 replace F := F.next N
 replace f71 := N.k f71
 clear f75
 have f76 := N.got
 clear N a5
 refine Ord.call R (k := 7) (args := #[]) (bs' := U38SpanR 8) rfl (by kernel_rfl) (R.opened (j := 1) rfl f71) (by simp) (by kernel_rfl) (BL _) F.lt ?_
 rintro e w ⟨rfl, hb⟩
 replace hS := hS.trans (hb.mono hS.size)
 refine ⟨_, rfl, hS, fun a7 N => ?_⟩
 replace F := F.next N
 replace f71 := N.k f71
 replace f76 := N.k f76
 have f77 := N.got
 clear N a6
 refine Ord.take R (k := 8) (v := .bool false) (bs' := U38SpanR 9) rfl (by kernel_rfl) hQ (R.opened (j := 1) rfl f71) hS (fun w _ hS => by have e76 := f76; unfold Chain.At at e76; have e77 := f77; unfold Chain.At at e77; clear F; go_simp) F.lt fun a8 N => ?_
 replace F := F.next N
 replace f71 := N.k f71
 clear f76
 clear f77
 have f78 := N.got
 clear N a7
 refine Ord.take R (k := 9) (v := .bool false) (bs' := U38SpanR 10) rfl (by kernel_rfl) hQ trivial hS (fun w _ hS => Ord.ev_pick_yes f71.ev f78.ev) F.lt fun a9 N => ?_
 replace F := F.next N
 clear f71
 clear f78
 have f79 := N.got
 clear N a8
 refine Ord.take R (k := 10) (v := .bool false) (bs' := U38SpanR 11) rfl (by kernel_rfl) hQ trivial hS (fun w _ hS => Chain.ev_move f79.ev) F.lt fun a10 N => ?_
 replace F := F.next N
 clear f79
 have f80 := N.got
 clear N a9
 refine Ord.take R (k := 11) (v := .bool true) (bs' := U38SpanR 12) rfl (by kernel_rfl) hQ (R.opened (j := 10) rfl f80) hS (fun w _ hS => Chain.ev_move F.s11.ev) F.lt fun a11 N => ?_
 replace F := F.next N
 replace f80 := N.k f80
 have f81 := N.got
 clear N a10
 refine Ord.take R (k := 12) (v := .bool false) (bs' := U38SpanR 13) rfl (by kernel_rfl) hQ (R.opened (j := 10) rfl f80) hS (fun w _ hS => by have e81 := f81; unfold Chain.At at e81; clear F; go_simp) F.lt fun a12 N => ?_
 replace F := F.next N
 replace f80 := N.k f80
 clear f81
 have f82 := N.got
 clear N a11
 refine Ord.take R (k := 13) (v := .bool false) (bs' := U38SpanR 14) rfl (by kernel_rfl) hQ (R.opened (j := 10) rfl f80) hS (fun w _ hS => Chain.ev_move f82.ev) F.lt fun a13 N => ?_
 replace F := F.next N
 replace f80 := N.k f80
 clear f82
 have f83 := N.got
 clear N a12
 refine Ord.skip R (k := 14) (bs' := U38SpanR 15) rfl (by kernel_rfl) hQ (R.shut (j := 13) rfl f83 (Ord.ne_not rfl)) hS F.lt fun a14 N => ?_
 replace F := F.next N
 replace f80 := N.k f80
 replace f83 := N.k f83
 have f84 := N.got
 clear N a13
 refine Ord.skip R (k := 15) (bs' := U38SpanR 16) rfl (by kernel_rfl) hQ (R.shut (j := 13) rfl f83 (Ord.ne_not rfl)) hS F.lt fun a15 N => ?_
 replace F := F.next N
 replace f80 := N.k f80
 replace f83 := N.k f83
 replace f84 := N.k f84
 have f85 := N.got
 clear N a14
 refine Ord.skip R (k := 16) (bs' := U38SpanR 17) rfl (by kernel_rfl) hQ (R.shut (j := 13) rfl f83 (Ord.ne_not rfl)) hS F.lt fun a16 N => ?_
 replace F := F.next N
 replace f80 := N.k f80
 replace f83 := N.k f83
 replace f84 := N.k f84
 clear f85
 have f86 := N.got
 clear N a15
 refine Ord.skip R (k := 17) (bs' := U38SpanR 18) rfl (by kernel_rfl) hQ (R.shut (j := 13) rfl f83 (Ord.ne_not rfl)) hS F.lt fun a17 N => ?_
 replace F := F.next N
 replace f80 := N.k f80
 replace f83 := N.k f83
 clear f84
 clear f86
 have f87 := N.got
 clear N a16
 refine Ord.take R (k := 18) (v := Go.Value.bool false) (bs' := U38SpanR 19) rfl (by kernel_rfl) hQ (R.opened (j := 10) rfl f80) hS (fun w _ hS => Ord.ev_pick_no f83.ev rfl) F.lt fun a18 N => ?_
 replace F := F.next N
 replace f80 := N.k f80
 clear f83
 clear f87
 have f88 := N.got
 clear N a17
 refine Ord.take R (k := 19) (v := Go.Value.bool false) (bs' := U38SpanR 20) rfl (by kernel_rfl) hQ (R.opened (j := 10) rfl f80) hS (fun w _ hS => Chain.ev_move f88.ev) F.lt fun a19 N => ?_
 replace F := F.next N
 replace f80 := N.k f80
 clear f88
 have f89 := N.got
 clear N a18
 refine Ord.skip R (k := 20) (bs' := U38SpanR 21) rfl (by kernel_rfl) hQ (R.shut (j := 19) rfl f89 (Ord.ne_not rfl)) hS F.lt fun a20 N => ?_
 replace F := F.next N
 replace f80 := N.k f80
 replace f89 := N.k f89
 have f90 := N.got
 clear N a19
 refine Ord.skip R (k := 21) (bs' := U38SpanR 22) rfl (by kernel_rfl) hQ (R.shut (j := 19) rfl f89 (Ord.ne_not rfl)) hS F.lt fun a21 N => ?_
 replace F := F.next N
 replace f80 := N.k f80
 replace f89 := N.k f89
 replace f90 := N.k f90
 have f91 := N.got
 clear N a20
 refine Ord.skip R (k := 22) (bs' := U38SpanR 23) rfl (by kernel_rfl) hQ (R.shut (j := 19) rfl f89 (Ord.ne_not rfl)) hS F.lt fun a22 N => ?_
 replace F := F.next N
 replace f80 := N.k f80
 replace f89 := N.k f89
 clear f90
 clear f91
 have f92 := N.got
 clear N a21
 refine Ord.take R (k := 23) (v := Go.Value.bool false) (bs' := U38SpanR 24) rfl (by kernel_rfl) hQ (R.opened (j := 10) rfl f80) hS (fun w _ hS => Ord.ev_pick_no f89.ev rfl) F.lt fun a23 N => ?_
 replace F := F.next N
 replace f80 := N.k f80
 clear f89
 clear f92
 have f93 := N.got
 clear N a22
 refine Ord.take R (k := 24) (v := Go.Value.bool false) (bs' := U38SpanR 25) rfl (by kernel_rfl) hQ (R.opened (j := 10) rfl f80) hS (fun w _ hS => Chain.ev_move f93.ev) F.lt fun a24 N => ?_
 replace F := F.next N
 replace f80 := N.k f80
 clear f93
 have f94 := N.got
 clear N a23
 refine Ord.skip R (k := 25) (bs' := U38SpanR 26) rfl (by kernel_rfl) hQ (R.shut (j := 24) rfl f94 (Ord.ne_not rfl)) hS F.lt fun a25 N => ?_
 replace F := F.next N
 replace f80 := N.k f80
 replace f94 := N.k f94
 have f95 := N.got
 clear N a24
 refine Ord.skip R (k := 26) (bs' := U38SpanR 27) rfl (by kernel_rfl) hQ (R.shut (j := 24) rfl f94 (Ord.ne_not rfl)) hS F.lt fun a26 N => ?_
 replace F := F.next N
 replace f80 := N.k f80
 replace f94 := N.k f94
 clear f95
 have f96 := N.got
 clear N a25
 refine Ord.skip R (k := 27) (bs' := U38SpanR 28) rfl (by kernel_rfl) hQ (R.shut (j := 24) rfl f94 (Ord.ne_not rfl)) hS F.lt fun a27 N => ?_
 replace F := F.next N
 replace f80 := N.k f80
 replace f94 := N.k f94
 replace f96 := N.k f96
 have f97 := N.got
 clear N a26
 refine Ord.skip R (k := 28) (bs' := U38SpanR 29) rfl (by kernel_rfl) hQ (R.shut (j := 24) rfl f94 (Ord.ne_not rfl)) hS F.lt fun a28 N => ?_
 replace F := F.next N
 replace f80 := N.k f80
 replace f94 := N.k f94
 clear f96
 clear f97
 have f98 := N.got
 clear N a27
 refine Ord.skip R (k := 29) (bs' := U38SpanR 30) rfl (by kernel_rfl) hQ (R.shut (j := 24) rfl f94 (Ord.ne_not rfl)) hS F.lt fun a29 N => ?_
 replace F := F.next N
 replace f80 := N.k f80
 replace f94 := N.k f94
 clear f98
 have f99 := N.got
 clear N a28
 refine Ord.skip R (k := 30) (bs' := U38SpanR 31) rfl (by kernel_rfl) hQ (R.shut (j := 24) rfl f94 (Ord.ne_not rfl)) hS F.lt fun a30 N => ?_
 replace F := F.next N
 replace f80 := N.k f80
 replace f94 := N.k f94
 replace f99 := N.k f99
 have f100 := N.got
 clear N a29
 refine Ord.skip R (k := 31) (bs' := U38SpanR 32) rfl (by kernel_rfl) hQ (R.shut (j := 24) rfl f94 (Ord.ne_not rfl)) hS F.lt fun a31 N => ?_
 replace F := F.next N
 replace f80 := N.k f80
 replace f94 := N.k f94
 replace f99 := N.k f99
 clear f100
 have f101 := N.got
 clear N a30
 refine Ord.skip R (k := 32) (bs' := U38SpanR 33) rfl (by kernel_rfl) hQ (R.shut (j := 24) rfl f94 (Ord.ne_not rfl)) hS F.lt fun a32 N => ?_
 replace F := F.next N
 replace f80 := N.k f80
 replace f94 := N.k f94
 replace f99 := N.k f99
 replace f101 := N.k f101
 have f102 := N.got
 clear N a31
 refine Ord.skip R (k := 33) (bs' := U38SpanR 34) rfl (by kernel_rfl) hQ (R.shut (j := 24) rfl f94 (Ord.ne_not rfl)) hS F.lt fun a33 N => ?_
 replace F := F.next N
 replace f80 := N.k f80
 replace f94 := N.k f94
 replace f99 := N.k f99
 clear f101
 clear f102
 have f103 := N.got
 clear N a32
 refine Ord.skip R (k := 34) (bs' := U38SpanR 35) rfl (by kernel_rfl) hQ (R.shut (j := 24) rfl f94 (Ord.ne_not rfl)) hS F.lt fun a34 N => ?_
 replace F := F.next N
 replace f80 := N.k f80
 replace f94 := N.k f94
 replace f99 := N.k f99
 clear f103
 have f104 := N.got
 clear N a33
 refine Ord.skip R (k := 35) (bs' := U38SpanR 36) rfl (by kernel_rfl) hQ (R.shut (j := 24) rfl f94 (Ord.ne_not rfl)) hS F.lt fun a35 N => ?_
 replace F := F.next N
 replace f80 := N.k f80
 replace f94 := N.k f94
 clear f99
 clear f104
 have f105 := N.got
 clear N a34
 refine Ord.take R (k := 36) (v := Go.Value.bool false) (bs' := U38SpanR 37) rfl (by kernel_rfl) hQ (R.opened (j := 10) rfl f80) hS (fun w _ hS => Ord.ev_pick_no f94.ev rfl) F.lt fun a36 N => ?_
 replace F := F.next N
 replace f80 := N.k f80
 clear f94
 clear f105
 have f106 := N.got
 clear N a35
 refine Ord.take R (k := 37) (v := Go.Value.bool false) (bs' := U38SpanR 38) rfl (by kernel_rfl) hQ trivial hS (fun w _ hS => Ord.ev_pick_no f80.ev f106.ev) F.lt fun a37 N => ?_
 replace F := F.next N
 clear f80
 clear f106
 have f107 := N.got
 clear N a36
 exact Ord.finish R (by kernel_rfl) (h _ _ F f107 hS)
set_option maxRecDepth 100000 in
theorem span_frame {a : Act} {w : World} {K : Act → World → Prop} {v0 v1 v2 v3 v4 v5 v6 v7 v8 v9 v10 v11 v12 v13 v14 v15 v16 v17 v18 v19 v20 v21 v22 v23 v24 v25 v26 v27 v28 v29 v30 v31 v32 v33 v34 v35 v36 v37 v38 v39 v40 v41 v42 v43 v44 v45 v46 v47 v48 v49 v50 v51 v52 v53 v54 v55 v56 v57 v58 v59 v107 v109 v110 v111 v112 v113 v114 v115 v116 v117 v118 v119 v120 v121 : Value} (hz : a.tmps.size = 122) (hd : a.defers = []) (f0 : Chain.At a 0 v0) (f1 : Chain.At a 1 v1) (f2 : Chain.At a 2 v2) (f3 : Chain.At a 3 v3) (f4 : Chain.At a 4 v4) (f5 : Chain.At a 5 v5) (f6 : Chain.At a 6 v6) (f7 : Chain.At a 7 v7) (f8 : Chain.At a 8 v8) (f9 : Chain.At a 9 v9) (f10 : Chain.At a 10 v10) (f11 : Chain.At a 11 v11) (f12 : Chain.At a 12 v12) (f13 : Chain.At a 13 v13) (f14 : Chain.At a 14 v14) (f15 : Chain.At a 15 v15) (f16 : Chain.At a 16 v16) (f17 : Chain.At a 17 v17) (f18 : Chain.At a 18 v18) (f19 : Chain.At a 19 v19) (f20 : Chain.At a 20 v20) (f21 : Chain.At a 21 v21) (f22 : Chain.At a 22 v22) (f23 : Chain.At a 23 v23) (f24 : Chain.At a 24 v24) (f25 : Chain.At a 25 v25) (f26 : Chain.At a 26 v26) (f27 : Chain.At a 27 v27) (f28 : Chain.At a 28 v28) (f29 : Chain.At a 29 v29) (f30 : Chain.At a 30 v30) (f31 : Chain.At a 31 v31) (f32 : Chain.At a 32 v32) (f33 : Chain.At a 33 v33) (f34 : Chain.At a 34 v34) (f35 : Chain.At a 35 v35) (f36 : Chain.At a 36 v36) (f37 : Chain.At a 37 v37) (f38 : Chain.At a 38 v38) (f39 : Chain.At a 39 v39) (f40 : Chain.At a 40 v40) (f41 : Chain.At a 41 v41) (f42 : Chain.At a 42 v42) (f43 : Chain.At a 43 v43) (f44 : Chain.At a 44 v44) (f45 : Chain.At a 45 v45) (f46 : Chain.At a 46 v46) (f47 : Chain.At a 47 v47) (f48 : Chain.At a 48 v48) (f49 : Chain.At a 49 v49) (f50 : Chain.At a 50 v50) (f51 : Chain.At a 51 v51) (f52 : Chain.At a 52 v52) (f53 : Chain.At a 53 v53) (f54 : Chain.At a 54 v54) (f55 : Chain.At a 55 v55) (f56 : Chain.At a 56 v56) (f57 : Chain.At a 57 v57) (f58 : Chain.At a 58 v58) (f59 : Chain.At a 59 v59) (f107 : Chain.At a 107 v107) (f109 : Chain.At a 109 v109) (f110 : Chain.At a 110 v110) (f111 : Chain.At a 111 v111) (f112 : Chain.At a 112 v112) (f113 : Chain.At a 113 v113) (f114 : Chain.At a 114 v114) (f115 : Chain.At a 115 v115) (f116 : Chain.At a 116 v116) (f117 : Chain.At a 117 v117) (f118 : Chain.At a 118 v118) (f119 : Chain.At a 119 v119) (f120 : Chain.At a 120 v120) (f121 : Chain.At a 121 v121)
  (h : ∀ u60 u61 u62 u63 u64 u65 u66 u67 u68 u69 u70 u71 u72 u73 u74 u75 u76 u77 u78 u79 u80 u81 u82 u83 u84 u85 u86 u87 u88 u89 u90 u91 u92 u93 u94 u95 u96 u97 u98 u99 u100 u101 u102 u103 u104 u105 u106 u108 : Value, K ⟨#[v0, v1, v2, v3, v4, v5, v6, v7, v8, v9, v10, v11, v12, v13, v14, v15, v16, v17, v18, v19, v20, v21, v22, v23, v24, v25, v26, v27, v28, v29, v30, v31, v32, v33, v34, v35, v36, v37, v38, v39, v40, v41, v42, v43, v44, v45, v46, v47, v48, v49, v50, v51, v52, v53, v54, v55, v56, v57, v58, v59, u60, u61, u62, u63, u64, u65, u66, u67, u68, u69, u70, u71, u72, u73, u74, u75, u76, u77, u78, u79, u80, u81, u82, u83, u84, u85, u86, u87, u88, u89, u90, u91, u92, u93, u94, u95, u96, u97, u98, u99, u100, u101, u102, u103, u104, u105, u106, v107, u108, v109, v110, v111, v112, v113, v114, v115, v116, v117, v118, v119, v120, v121], []⟩ w) : K a w := by
 have e := Ord.frame_out hz hd
 have r : (List.range 122).map (fun i => a.tmps.toList.getD i undef) = [a.tmps.toList.getD 0 undef, a.tmps.toList.getD 1 undef, a.tmps.toList.getD 2 undef, a.tmps.toList.getD 3 undef, a.tmps.toList.getD 4 undef, a.tmps.toList.getD 5 undef, a.tmps.toList.getD 6 undef, a.tmps.toList.getD 7 undef, a.tmps.toList.getD 8 undef, a.tmps.toList.getD 9 undef, a.tmps.toList.getD 10 undef, a.tmps.toList.getD 11 undef, a.tmps.toList.getD 12 undef, a.tmps.toList.getD 13 undef, a.tmps.toList.getD 14 undef, a.tmps.toList.getD 15 undef, a.tmps.toList.getD 16 undef, a.tmps.toList.getD 17 undef, a.tmps.toList.getD 18 undef, a.tmps.toList.getD 19 undef, a.tmps.toList.getD 20 undef, a.tmps.toList.getD 21 undef, a.tmps.toList.getD 22 undef, a.tmps.toList.getD 23 undef, a.tmps.toList.getD 24 undef, a.tmps.toList.getD 25 undef, a.tmps.toList.getD 26 undef, a.tmps.toList.getD 27 undef, a.tmps.toList.getD 28 undef, a.tmps.toList.getD 29 undef, a.tmps.toList.getD 30 undef, a.tmps.toList.getD 31 undef, a.tmps.toList.getD 32 undef, a.tmps.toList.getD 33 undef, a.tmps.toList.getD 34 undef, a.tmps.toList.getD 35 undef, a.tmps.toList.getD 36 undef, a.tmps.toList.getD 37 undef, a.tmps.toList.getD 38 undef, a.tmps.toList.getD 39 undef, a.tmps.toList.getD 40 undef, a.tmps.toList.getD 41 undef, a.tmps.toList.getD 42 undef, a.tmps.toList.getD 43 undef, a.tmps.toList.getD 44 undef, a.tmps.toList.getD 45 undef, a.tmps.toList.getD 46 undef, a.tmps.toList.getD 47 undef, a.tmps.toList.getD 48 undef, a.tmps.toList.getD 49 undef, a.tmps.toList.getD 50 undef, a.tmps.toList.getD 51 undef, a.tmps.toList.getD 52 undef, a.tmps.toList.getD 53 undef, a.tmps.toList.getD 54 undef, a.tmps.toList.getD 55 undef, a.tmps.toList.getD 56 undef, a.tmps.toList.getD 57 undef, a.tmps.toList.getD 58 undef, a.tmps.toList.getD 59 undef, a.tmps.toList.getD 60 undef, a.tmps.toList.getD 61 undef, a.tmps.toList.getD 62 undef, a.tmps.toList.getD 63 undef, a.tmps.toList.getD 64 undef, a.tmps.toList.getD 65 undef, a.tmps.toList.getD 66 undef, a.tmps.toList.getD 67 undef, a.tmps.toList.getD 68 undef, a.tmps.toList.getD 69 undef, a.tmps.toList.getD 70 undef, a.tmps.toList.getD 71 undef, a.tmps.toList.getD 72 undef, a.tmps.toList.getD 73 undef, a.tmps.toList.getD 74 undef, a.tmps.toList.getD 75 undef, a.tmps.toList.getD 76 undef, a.tmps.toList.getD 77 undef, a.tmps.toList.getD 78 undef, a.tmps.toList.getD 79 undef, a.tmps.toList.getD 80 undef, a.tmps.toList.getD 81 undef, a.tmps.toList.getD 82 undef, a.tmps.toList.getD 83 undef, a.tmps.toList.getD 84 undef, a.tmps.toList.getD 85 undef, a.tmps.toList.getD 86 undef, a.tmps.toList.getD 87 undef, a.tmps.toList.getD 88 undef, a.tmps.toList.getD 89 undef, a.tmps.toList.getD 90 undef, a.tmps.toList.getD 91 undef, a.tmps.toList.getD 92 undef, a.tmps.toList.getD 93 undef, a.tmps.toList.getD 94 undef, a.tmps.toList.getD 95 undef, a.tmps.toList.getD 96 undef, a.tmps.toList.getD 97 undef, a.tmps.toList.getD 98 undef, a.tmps.toList.getD 99 undef, a.tmps.toList.getD 100 undef, a.tmps.toList.getD 101 undef, a.tmps.toList.getD 102 undef, a.tmps.toList.getD 103 undef, a.tmps.toList.getD 104 undef, a.tmps.toList.getD 105 undef, a.tmps.toList.getD 106 undef, a.tmps.toList.getD 107 undef, a.tmps.toList.getD 108 undef, a.tmps.toList.getD 109 undef, a.tmps.toList.getD 110 undef, a.tmps.toList.getD 111 undef, a.tmps.toList.getD 112 undef, a.tmps.toList.getD 113 undef, a.tmps.toList.getD 114 undef, a.tmps.toList.getD 115 undef, a.tmps.toList.getD 116 undef, a.tmps.toList.getD 117 undef, a.tmps.toList.getD 118 undef, a.tmps.toList.getD 119 undef, a.tmps.toList.getD 120 undef, a.tmps.toList.getD 121 undef] := rfl
 rw [r, Ord.at_get f0, Ord.at_get f1, Ord.at_get f2, Ord.at_get f3, Ord.at_get f4, Ord.at_get f5, Ord.at_get f6, Ord.at_get f7, Ord.at_get f8, Ord.at_get f9, Ord.at_get f10, Ord.at_get f11, Ord.at_get f12, Ord.at_get f13, Ord.at_get f14, Ord.at_get f15, Ord.at_get f16, Ord.at_get f17, Ord.at_get f18, Ord.at_get f19, Ord.at_get f20, Ord.at_get f21, Ord.at_get f22, Ord.at_get f23, Ord.at_get f24, Ord.at_get f25, Ord.at_get f26, Ord.at_get f27, Ord.at_get f28, Ord.at_get f29, Ord.at_get f30, Ord.at_get f31, Ord.at_get f32, Ord.at_get f33, Ord.at_get f34, Ord.at_get f35, Ord.at_get f36, Ord.at_get f37, Ord.at_get f38, Ord.at_get f39, Ord.at_get f40, Ord.at_get f41, Ord.at_get f42, Ord.at_get f43, Ord.at_get f44, Ord.at_get f45, Ord.at_get f46, Ord.at_get f47, Ord.at_get f48, Ord.at_get f49, Ord.at_get f50, Ord.at_get f51, Ord.at_get f52, Ord.at_get f53, Ord.at_get f54, Ord.at_get f55, Ord.at_get f56, Ord.at_get f57, Ord.at_get f58, Ord.at_get f59, Ord.at_get f107, Ord.at_get f109, Ord.at_get f110, Ord.at_get f111, Ord.at_get f112, Ord.at_get f113, Ord.at_get f114, Ord.at_get f115, Ord.at_get f116, Ord.at_get f117, Ord.at_get f118, Ord.at_get f119, Ord.at_get f120, Ord.at_get f121] at e
 rw [e]
 exact h _ _ _ _ _ _ _ _ _ _ _ _ _ _ _ _ _ _ _ _ _ _ _ _ _ _ _ _ _ _ _ _ _ _ _ _ _ _ _ _ _ _ _ _ _ _ _ _
end Rw
end Go.Proofs.YtaclmhopcfgbmaaGreatDoor
