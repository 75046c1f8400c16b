/-
  line.Place for any spot and any width. LineAll's long statement: what the code answers is what the reference answers, step by step.
-/
import Derived.Test.YtgmijnnhanpocaaGreatDoorQNLine7
import Derived.Test.YtgmijnnhanpocaaGreatDoorQNBase8
import Derived.Test.YtgmijnnhanpocaaGreatDoorQNLine4
namespace Go.Proofs.YtgmijnnhanpocaaGreatDoor
open Go.ChangeShapes Go.WideShapes Go.ChangeAt Go.RowKit
namespace Ln
open Rw
attribute [local go_sem] Oper.semAt_some
set_option maxRecDepth 100000 in
set_option maxHeartbeats 6400000 in
theorem placeAtP_walk (A : Option Addr) (n c : Nat) (l : List Cel) (x : Cel) (wv ln k p : Nat) (w : World) (hc : n ≤ c) (hx : l[k]? = some x) (hb : lineB l = true) (hw2 : 2 ≤ wv) (hw3 : wv ≤ 300) (hq : Sq w w.heap.size 3 n A (flat l)) (hn : n ≤ 100000) :
  Calls Tryz.prog 47 #[.slice A n c, .int .i64 (wv : Int), .agg #[.int .i64 (ln : Int), .int .i64 (k : Int), .int .i64 (p : Int)]] w fun e w' => e = .returned (.agg #[.int .i64 ((cellPos wv l k x).1 : Int), .int .i64 ((cellPos wv l k x).2 : Int)]) ∧ Below w.heap.size w w' := by
 obtain ⟨S, hS⟩ : ∃ S, w.heap.size = S := ⟨_, rfl⟩
 obtain ⟨w1, hw1⟩ : ∃ w1, (w.alloc (.cells #[.int .i64 (ln : Int), .int .i64 (k : Int), .int .i64 (p : Int)] 27)).alloc (.cells #[.int .i64 0, .int .i64 0] 25) = w1 := ⟨_, rfl⟩
 have z1 : w1.heap.size = S + 2 := by rw [← hw1, ← hS]; simp
 have b1 : Below w.heap.size w w1 := by rw [← hw1]; exact ((Below.refl _ _).alloc (Nat.le_refl _) _).alloc (by simp) _
 have x0 : w1.heap[S]? = some (.cells #[.int .i64 (ln : Int), .int .i64 (k : Int), .int .i64 (p : Int)] 27 (0, 0)) := by rw [← hw1, ← hS]; exact (Below.heap_alloc _ _ _ (by simp)).trans (heap_alloc_new w _)
 have x1 : w1.heap[S + 1]? = some (.cells #[.int .i64 0, .int .i64 0] 25 (0, 0)) := by
  rw [← hw1, ← hS]
  have := heap_alloc_new (w.alloc (.cells #[.int .i64 (ln : Int), .int .i64 (k : Int), .int .i64 (p : Int)] 27)) (.cells #[.int .i64 0, .int .i64 0] 25)
  rwa [World.size_alloc] at this
 have hll : l.length = n := by have := hq.len; rw [flat_length] at this; omega
 have hkn : k < n := by have := (List.getElem?_eq_some_iff.1 hx).1; omega
 have hq1 := (hq.below b1).up b1.size
 have h12 : ∀ y ∈ l.take (k + 1), W12 y := fun y hy => okC_w (List.all_eq_true.1 hb y (List.mem_of_mem_take hy))
 have ED := Lib.hid (end_walk A (k + 1) c (l.take (k + 1)) wv w1 h12 hw2 hw3 (sq_takeC hq1 (by omega)) (by omega))
 have SQ := Lib.hid hq1
 have HXk := Lib.hid hx
 have hwx := okC_w (List.all_eq_true.1 hb x (List.mem_of_getElem? hx))
 obtain ⟨b, off, rfl, hbb, ⟨r, mm, a⟩, hcc, q0, q1, q2⟩ := hq1.three hkn
 obtain rfl : (r, mm, a) = x := by rw [hx] at hcc; exact (Option.some.inj hcc).symm
 have hm : mm = 1 ∨ mm = 2 := hwx
 obtain ⟨mw, rfl⟩ : ∃ mw : Nat, mm = (mw : Int) := ⟨mm.toNat, by omega⟩
 have CPX := Lib.hid (cell_pos (wv := wv) hx).1
 have HL := Lib.hid (show (posOut wv (l.take (k + 1))).1.1 ≤ 100000 ∧ (posOut wv (l.take (k + 1))).1.2 ≤ wv from by
  have h1 := pos_bounds hw2 (l.take (k + 1)) h12
  rw [List.length_take] at h1
  omega)
 obtain ⟨row, hrow⟩ : ∃ row, (posOut wv (l.take (k + 1))).1.1 = row := ⟨_, rfl⟩
 obtain ⟨col, hcol⟩ : ∃ col, (posOut wv (l.take (k + 1))).1.2 = col := ⟨_, rfl⟩
 unfold cellPos
 rw [hrow, hcol] at ED HL ⊢
 rw [hcol, show wd (r, (mw : Int), a) = mw by simp [wd]] at CPX
 rw [show wd (r, (mw : Int), a) = mw by simp [wd]]
 obtain ⟨cc, hcc⟩ : ∃ cc, col - mw = cc := ⟨_, rfl⟩
 rw [hcc]
 have CC := Lib.hid hcc
 clear hcc
 have hcm := CPX.out
 have hcw := HL.out.2
 have HW := Lib.hid hw1
 have X := Lib.hid (And.intro x0 x1)
 have Z := Lib.hid (And.intro hS z1)
 have B1 := Lib.hid b1
 have Q1 := Lib.hid (And.intro hbb q1)
 have y0 : w1.cell? ⟨S, 1, none⟩ = some (.int .i64 (k : Int)) := cell_of_row _ _ 1 _ _ (0, 0) x0
 have hki : (k : Int) < (n : Int) := by omega
 have hk0 : (0 : Int) ≤ (k : Int) := by omega
 have hk1 : IntKind.i64.wrap ((k : Int) + 1) = ((k + 1 : Nat) : Int) := by rw [show (k : Int) + 1 = ((k + 1 : Nat) : Int) by omega]; exact IntWalk.i64_in _ (by omega)
 have hkc : k + 1 ≤ c := by omega
 clear hb hq b1 hw1 hrow hcol hx hq1 h12 hcc q0 q1 q2 hwx x1 hbb hm hll
 go_enter Tryz.func47, Tryz.ntmps47
 go_wp2_with fail
 rw [HW.out]
 refine ED.out.mono ?_
 rintro e w2 ⟨rfl, b2⟩
 have B2 := Lib.hid (B1.out.trans (b2.mono B1.out.size))
 obtain ⟨E, hE⟩ : ∃ E, w2.heap.size = E := ⟨_, rfl⟩
 have hse : S + 2 ≤ E := by have := b2.size; have := Z.out; omega
 obtain ⟨w3, hw3'⟩ : ∃ w3, (w2.alloc (.cells #[.int .i64 (row : Int), .int .i64 (col : Int)] 25)) = w3 := ⟨_, rfl⟩
 have b23 : Laid w2 w3 := by rw [← hw3']; exact (Below.refl _ _).alloc (Nat.le_refl _) _
 have x0 : w3.heap[S]? = some (.cells #[.int .i64 (ln : Int), .int .i64 (k : Int), .int .i64 (p : Int)] 27 (0, 0)) := (b23.block S (by omega)).trans ((b2.block S (by have := Z.out; omega)).trans X.out.1)
 have x1 : w3.heap[S + 1]? = some (.cells #[.int .i64 0, .int .i64 0] 25 (0, 0)) := (b23.block (S + 1) (by omega)).trans ((b2.block (S + 1) (by have := Z.out; omega)).trans X.out.2)
 have x8 : w3.heap[E]? = some (.cells #[.int .i64 (row : Int), .int .i64 (col : Int)] 25 (0, 0)) := by rw [← hw3', ← hE]; exact heap_alloc_new w2 _
 have B3 := Lib.hid (B2.out.trans (b23.mono B2.out.size))
 have HW3 := Lib.hid hw3'
 have X3 := Lib.hid (And.intro x0 (And.intro x1 x8))
 have z1 := Z.out.1
 have b13 : Below w1.heap.size w1 w3 := b2.trans (b23.mono b2.size)
 have d1 := cell_of_row _ _ 1 _ _ (0, 0) x8
 have f1 := frozen_of_row _ E 1 _ _ x8
 have s1 := cell_of_row _ _ 1 _ _ (0, 0) x0
 have m1 : w3.cell? ⟨b, off + k * 3 + 1, none⟩ = some (.int .i64 (mw : Int)) := (b13.cell (p := ⟨b, off + k * 3 + 1, none⟩) Q1.out.1).trans Q1.out.2
 have g2 : IntKind.i64.wrap ((col : Int) - (mw : Int)) = ((col - mw : Nat) : Int) := by rw [show (col : Int) - (mw : Int) = ((col - mw : Nat) : Int) by omega]; exact IntWalk.i64_in _ (by omega)
 rw [CC.out] at g2
 clear y0 b2 hw3' b23 X HW B1 x0 x1 x8 hk1 b13
 go_upto_region 3 with fail
 rw [HW3.out]
 go_region
 have same : (w3.setCell ⟨E, 1, none⟩ (.int .i64 (cc : Int))).drew.heap[E]? = some (.cells #[.int .i64 (row : Int), .int .i64 (cc : Int)] 25 (0, 0)) := by
  have h1 := heap_setCell_same w3 E 1 _ _ (.int .i64 (cc : Int)) X3.out.2.2
  show (w3.setCell ⟨E, 1, none⟩ (.int .i64 (cc : Int))).heap[E]? = _
  simpa using h1
 have oth : (w3.setCell ⟨E, 1, none⟩ (.int .i64 (cc : Int))).drew.heap[S + 1]? = some (.cells #[.int .i64 0, .int .i64 0] 25 (0, 0)) := (Below.heap_setCell w3 ⟨E, 1, none⟩ _ _ (by show S + 1 ≠ E; omega)).trans X3.out.2.1
 have B4 : Below w.heap.size w (w3.setCell ⟨E, 1, none⟩ (.int .i64 (cc : Int))).drew := (B3.out.setCell (p := ⟨E, 1, none⟩) (by show w.heap.size ≤ E; omega) (.int .i64 (cc : Int))).drew
 generalize (w3.setCell ⟨E, 1, none⟩ (.int .i64 (cc : Int))).drew = w4 at same oth B4 ⊢
 have d0 := cell_of_row _ _ 0 _ _ (0, 0) same
 have d1' := cell_of_row _ _ 1 _ _ (0, 0) same
 have e0 := cell_of_row _ _ 0 _ _ (0, 0) oth
 have e1 := cell_of_row _ _ 1 _ _ (0, 0) oth
 have h0 := frozen_of_row _ (S + 1) 0 _ _ oth
 have h1 := frozen_of_row _ (S + 1) 1 _ _ oth
 have SB := Lib.hid (And.intro B4 oth)
 clear same oth B4 d1 f1 s1 m1
 go_wp2_with fail
 have sm := heap_setCell_same w4 (S + 1) 0 _ _ (.int .i64 (row : Int)) SB.out.2
 have sm2 := heap_setCell_same _ (S + 1) 1 _ _ (.int .i64 (cc : Int)) sm
 have B5 := Lib.hid ((SB.out.1.setCell (p := ⟨S + 1, 0, none⟩) (by show w.heap.size ≤ S + 1; omega) (.int .i64 (row : Int))).setCell (p := ⟨S + 1, 1, none⟩) (by show w.heap.size ≤ S + 1; omega) (.int .i64 (cc : Int)))
 generalize (w4.setCell ⟨S + 1, 0, none⟩ (.int .i64 (row : Int))).setCell ⟨S + 1, 1, none⟩ (.int .i64 (cc : Int)) = w5 at sm2 B5 ⊢
 have r0 : w5.cell? ⟨S + 1, 0, none⟩ = some (.int .i64 (row : Int)) := cell_of_row _ _ 0 _ _ (0, 0) (by simpa using sm2)
 have r1 : w5.cell? ⟨S + 1, 1, none⟩ = some (.int .i64 (cc : Int)) := cell_of_row _ _ 1 _ _ (0, 0) (by simpa using sm2)
 refine bodyPost_ret (v := .agg #[.int .i64 (row : Int), .int .i64 (cc : Int)]) (by simp [results, Tryz.results47, go_sem, r0, r1]) rfl ?_
 exact ⟨rfl, B5.out⟩
theorem placeCellP_walk (A : Option Addr) (n c wv i k p : Nat) (x : Cel) (vs : List Value) (ls : List (List Cel)) (l : List Cel) (w : World) (hs : Spans w) (h : Lrd w w.heap.size A n vs ls) (hc : n ≤ c) (hn : n ≤ 1000) (hok : LOk ls) (hw2 : 2 ≤ wv) (hw3 : wv ≤ 300) (hi : i < n) (hl : ls[i]? = some l) (hx : l[k]? = some x) :
  Calls Tryz.prog 19 #[.slice A n c, .int .i64 (wv : Int), .agg #[.int .i64 (i : Int), .int .i64 (k : Int), .int .i64 (p : Int)]] w fun e w' => e = .returned (.agg #[.int .i64 (((cellPos wv l k x).1 + highs wv (ls.take i) : Nat) : Int), .int .i64 ((cellPos wv l k x).2 : Int)]) ∧ Below w.heap.size w w' := by
 have hlm := List.mem_of_getElem? hl
 have hk := (List.getElem?_eq_some_iff.1 hx).1
 refine place_gen A n c wv i k p _ _ vs ls l w hs h hc hn hok hw2 hw3 hi hl (Nat.le_of_lt hk) ?_ ?_
 ·have h1 := (pos_bounds hw2 (l.take (k + 1)) (fun x hx => okC_w (List.all_eq_true.1 (hok.ok l hlm) x (List.mem_of_mem_take hx)))).2.1
  have := hok.len l hlm
  rw [List.length_take] at h1
  unfold cellPos
  simp only
  omega
 ·intro A1 m d1 W hq hm hd
  have := hok.len l hlm
  exact placeAtP_walk A1 m d1 l x wv i k p W hd hx (hok.ok l hlm) hw2 hw3 hq (by omega)
noncomputable def placeW (x : Int) (ls : List (List Cel)) (i k p : Int) : Nat × Nat := open Classical in if 2 ≤ x ∧ x ≤ 300 ∧ SpotIs ls i k p then placeN x.toNat ls (i.toNat, k.toNat, p.toNat) else (0, 0)
theorem placeAny_walk (A : Option Addr) (n c : Nat) (x i k p : Int) (vs : List Value) (ls : List (List Cel)) (w : World) (hs : Spans w) (h : Lrd w w.heap.size A n vs ls) (hc : n ≤ c) (hn : n ≤ 1000) (hok : LOk ls) (hp : p ≤ 1073741824) :
  Calls Tryz.prog 19 #[.slice A n c, .int .i64 x, .agg #[.int .i64 i, .int .i64 k, .int .i64 p]] w fun e w' => e = .returned (.agg #[.int .i64 ((placeW x ls i k p).1 : Int), .int .i64 ((placeW x ls i k p).2 : Int)]) ∧ Below w.heap.size w w' := by
 unfold placeW
 by_cases hb : 2 ≤ x ∧ x ≤ 300 ∧ SpotIs ls i k p
 ·rw [if_pos hb]
  obtain ⟨h2, h3, hi0, hk0, hp0, l, hl, hkl⟩ := hb
  obtain ⟨wv, rfl⟩ : ∃ wv : Nat, x = (wv : Int) := ⟨x.toNat, by omega⟩
  obtain ⟨i, rfl⟩ : ∃ j : Nat, i = (j : Int) := ⟨i.toNat, by omega⟩
  obtain ⟨k, rfl⟩ : ∃ j : Nat, k = (j : Int) := ⟨k.toNat, by omega⟩
  obtain ⟨p, rfl⟩ : ∃ j : Nat, p = (j : Int) := ⟨p.toNat, by omega⟩
  rw [Int.toNat_natCast] at hl
  simp only [Int.toNat_natCast]
  have hi : i < n := by have := (List.getElem?_eq_some_iff.1 hl).1; rw [h.len] at this; exact this
  cases hx : l[k]? with
  | none =>
   have hk : k = l.length := by have := List.getElem?_eq_none_iff.1 hx; omega
   rw [placeN_end (s := (i, k, p)) hl hx]
   subst hk
   exact place_walk A n c wv i p vs ls l w hs h hc hn hok (by omega) (by omega) hi hl (by omega)
  | some x =>
   rw [placeN_cell (s := (i, k, p)) hl hx]
   exact placeCellP_walk A n c wv i k p x vs ls l w hs h hc hn hok (by omega) (by omega) hi hl hx
 ·rw [if_neg hb]
  by_cases hz : ¬ (2 ≤ x ∧ x ≤ 300) ∨ i < 0 ∨ (n : Int) ≤ i ∨ p < 0
  ·exact place_zero A n c x i k p w hz
  ·obtain ⟨wv, rfl⟩ : ∃ wv : Nat, x = (wv : Int) := ⟨x.toNat, by omega⟩
   obtain ⟨i, rfl⟩ : ∃ j : Nat, i = (j : Int) := ⟨i.toNat, by omega⟩
   obtain ⟨p, rfl⟩ : ∃ j : Nat, p = (j : Int) := ⟨p.toNat, by omega⟩
   obtain ⟨l, hl⟩ : ∃ l, ls[i]? = some l := ⟨_, List.getElem?_eq_getElem (by rw [h.len]; omega)⟩
   refine place_off A n c wv i k p vs ls l w h (by omega) (by omega) (by omega) hl ?_
   by_cases hk : k < 0
   ·exact .inl hk
   ·refine .inr ?_
    by_cases hkl : (l.length : Int) < k
    ·exact hkl
    ·exact absurd ⟨by omega, by omega, by omega, by omega, by omega, l, by rw [Int.toNat_natCast]; exact hl, by omega⟩ hb
theorem refPlaceAny_walk (A : Option Addr) (n c : Nat) (x i k p : Int) (vs : List Value) (ls : List (List Cel)) (w : World) (h : Lrd w w.heap.size A n vs ls) (hc : n ≤ c) (hn : n ≤ 1000) (hok : LOk ls) (hp : p ≤ 1073741824) :
  Calls Tryz.prog 20 #[.slice A n c, .int .i64 x, .agg #[.int .i64 i, .int .i64 k, .int .i64 p]] w fun e w' => e = .returned (.agg #[.int .i64 ((placeW x ls i k p).1 : Int), .int .i64 ((placeW x ls i k p).2 : Int)]) ∧ Below w.heap.size w w' := by
 unfold placeW
 by_cases hb : 2 ≤ x ∧ x ≤ 300 ∧ SpotIs ls i k p
 ·rw [if_pos hb]
  obtain ⟨h2, h3, hi0, hk0, hp0, l, hl, hkl⟩ := hb
  obtain ⟨wv, rfl⟩ : ∃ wv : Nat, x = (wv : Int) := ⟨x.toNat, by omega⟩
  obtain ⟨i, rfl⟩ : ∃ j : Nat, i = (j : Int) := ⟨i.toNat, by omega⟩
  obtain ⟨k, rfl⟩ : ∃ j : Nat, k = (j : Int) := ⟨k.toNat, by omega⟩
  obtain ⟨p, rfl⟩ : ∃ j : Nat, p = (j : Int) := ⟨p.toNat, by omega⟩
  rw [Int.toNat_natCast] at hl
  simp only [Int.toNat_natCast]
  exact refPlace_walk A n c wv i k p vs ls l w h hc hn hok (by omega) (by omega) hl (by omega) (by omega)
 ·rw [if_neg hb]
  exact refPlace_zero A n c x i k p vs ls w h hb
end Ln
end Go.Proofs.YtgmijnnhanpocaaGreatDoor
namespace Go.Proofs.YtgmijnnhanpocaaGreatDoor
open Go.ChangeShapes Go.WideShapes Go.ChangeAt Go.RowKit
namespace Ln
open Rw
def laL : List Ord.Line := [
 (some 27, Go.Op.move (Go.Operand.tmp 0), none, []),
 (some 28, Go.Op.call { callee := Go.Callee.value (Go.Operand.func 14), args := #[Go.Operand.tmp 27], argTypes := #[22] }, none, [0]),
 (some 29, Go.Op.move (Go.Operand.tmp 0), none, []),
 (some 30, Go.Op.call { callee := Go.Callee.value (Go.Operand.func 15), args := #[Go.Operand.tmp 29], argTypes := #[22] }, none, [2, 1]),
 (some 31, Go.Op.call { callee := Go.Callee.value (Go.Operand.func 13), args := #[Go.Operand.tmp 28, Go.Operand.tmp 30], argTypes := #[23, 23] }, none, [1, 3, 3]),
 (some 32, Go.Op.unOp Go.UnOp.not 4 (Go.Operand.tmp 31), none, [4]),
 (some 33, Go.Op.move (Go.Operand.tmp 32), none, [5, 4]),
 (some 34, Go.Op.move (Go.Operand.tmp 12), some (6, false), [6]),
 (some 35, Go.Op.move (Go.Operand.tmp 13), some (6, false), [6]),
 (some 36, Go.Op.call { callee := Go.Callee.value (Go.Operand.func 16), args := #[Go.Operand.tmp 34, Go.Operand.tmp 35], argTypes := #[22, 22] }, some (6, false), [7, 8, 6, 6]),
 (some 37, Go.Op.unOp Go.UnOp.not 4 (Go.Operand.tmp 36), some (6, false), [9, 6]),
 (some 38, Go.Op.pick (Go.Operand.tmp 33) (Go.Operand.const (Go.Value.bool true)) (Go.Operand.tmp 37), none, [6, 10]),
 (some 39, Go.Op.move (Go.Operand.tmp 38), none, [11, 9]),
 (some 40, Go.Op.move (Go.Operand.tmp 0), some (12, false), [12]),
 (some 41, Go.Op.load 25 (Go.Operand.tmp 8), some (12, false), [12]),
 (some 42, Go.Op.call { callee := Go.Callee.value (Go.Operand.func 17), args := #[Go.Operand.tmp 40, Go.Operand.tmp 41], argTypes := #[22, 25] }, some (12, false), [13, 14, 12, 12]),
 (some 43, Go.Op.move (Go.Operand.tmp 0), some (12, false), [12]),
 (some 44, Go.Op.load 25 (Go.Operand.tmp 8), some (12, false), [12]),
 (some 45, Go.Op.call { callee := Go.Callee.value (Go.Operand.func 18), args := #[Go.Operand.tmp 43, Go.Operand.tmp 44], argTypes := #[22, 25] }, some (12, false), [16, 17, 15, 12]),
 (some 46, Go.Op.binOp Go.BinOp.neq 27 (Go.Operand.tmp 42) (Go.Operand.tmp 45) 27, some (12, false), [15, 18, 12]),
 (some 47, Go.Op.pick (Go.Operand.tmp 39) (Go.Operand.const (Go.Value.bool true)) (Go.Operand.tmp 46), none, [12, 19]),
 (some 48, Go.Op.move (Go.Operand.tmp 47), none, [20, 18]),
 (some 49, Go.Op.fieldAddr 27 (Go.Operand.tmp 9) 2, some (21, false), [21]),
 (some 50, Go.Op.load 3 (Go.Operand.tmp 49), some (21, false), [22, 21]),
 (some 51, Go.Op.binOp Go.BinOp.gtr 3 (Go.Operand.tmp 50) (Go.Operand.const (Go.Value.int Go.IntKind.i64 1073741824)) 3, some (21, false), [23, 21]),
 (some 52, Go.Op.pick (Go.Operand.tmp 48) (Go.Operand.const (Go.Value.bool true)) (Go.Operand.tmp 51), none, [21, 24])]
structure LaFr (n c na ca nb cb g8 g9 : Nat) (A Aa Ab : Option Addr) (a0 a : Act) : Prop where
 size : a.tmps.size = 65
 s0 : Chain.At a 0 (.slice A n c)
 s8 : Chain.At a 8 (.pointer (some ⟨g8, 0, none⟩))
 s9 : Chain.At a 9 (.pointer (some ⟨g9, 0, none⟩))
 s12 : Chain.At a 12 (.slice Aa na ca)
 s13 : Chain.At a 13 (.slice Ab nb cb)
 fr : Fr 27 52 a0 a
theorem LaFr.next {n c na ca nb cb g8 g9 : Nat} {A Aa Ab : Option Addr} {a0 a a' : Act} {d : Nat} {v : Value} (F : LaFr n c na ca nb cb g8 g9 A Aa Ab a0 a) (nx : Chain.Next a a' d v) (h : 27 ≤ d ∧ d ≤ 52) : LaFr n c na ca nb cb g8 g9 A Aa Ab a0 a' := ⟨nx.size.trans F.size, nx.keep 0 _ (by omega) F.s0, nx.keep 8 _ (by omega) F.s8, nx.keep 9 _ (by omega) F.s9, nx.keep 12 _ (by omega) F.s12, nx.keep 13 _ (by omega) F.s13, F.fr.next nx h⟩
theorem LaFr.lt {n c na ca nb cb g8 g9 : Nat} {A Aa Ab : Option Addr} {a0 a : Act} {d : Nat} (F : LaFr n c na ca nb cb g8 g9 A Aa Ab a0 a) (h : d < 65) : d < a.tmps.size := by rw [F.size]; exact h
set_option maxRecDepth 100000 in
set_option maxHeartbeats 3200000 in
theorem la_region {ops : Array Oper} {Q : Exit → Act → World → Prop} (R : Ord.Reg ops laL) (hQ : ∀ c a w d v, Q (.panic c) (Act.put a (some d) v) w → Q (.panic c) a w) {w1 : World} {Rd : World → Prop} {n c na ca nb cb g8 g9 n6 : Nat} {A Aa Ab : Option Addr} {r pc p2 : Int} {s0 s1 s2 : Int} {B : Bool} {P1 : World → Option Addr → Nat → Prop} {P2 : World → Option Addr → Nat → Option Addr → Nat → Prop} {P3 : World → Prop}
  (C1 : Calls Tryz.prog 14 #[.slice A n c] w1 fun e w' => ∃ A6 c6, e = .returned (.slice A6 n6 c6) ∧ P1 w' A6 c6)
  (C2 : ∀ w A6 c6, P1 w A6 c6 → Calls Tryz.prog 15 #[.slice A n c] w fun e w' => ∃ A7 c7, e = .returned (.slice A7 n6 c7) ∧ P2 w' A6 c6 A7 c7)
  (C3 : ∀ w A6 c6 A7 c7, P2 w A6 c6 A7 c7 → Calls Tryz.prog 13 #[.slice A6 n6 c6, .slice A7 n6 c7] w fun e w' => e = .returned (.bool true) ∧ P3 w')
  (C4 : ∀ w, P3 w → Calls Tryz.prog 16 #[.slice Aa na ca, .slice Ab nb cb] w fun e w' => e = .returned (.bool true) ∧ P3 w')
  (C5 : ∀ w, P3 w → Calls Tryz.prog 17 #[.slice A n c, .agg #[.int .i64 r, .int .i64 pc]] w fun e w' => e = .returned (.agg #[.int .i64 s0, .int .i64 s1, .int .i64 s2]) ∧ P3 w')
  (C6 : ∀ w, P3 w → Calls Tryz.prog 18 #[.slice A n c, .agg #[.int .i64 r, .int .i64 pc]] w fun e w' => e = .returned (.agg #[.int .i64 s0, .int .i64 s1, .int .i64 s2]) ∧ P3 w')
  (ne : ∀ w, (binOp .neq 27 (.agg #[.int .i64 s0, .int .i64 s1, .int .i64 s2]) (.agg #[.int .i64 s0, .int .i64 s1, .int .i64 s2])).run Tryz.prog w = .ok (.bool false) w) (hB : decide (1073741824 < p2) = B)
  (kp0 : ∀ w : World, Rd w → w.cell? ⟨g8, 0, none⟩ = some (.int .i64 r)) (kp1 : ∀ w : World, Rd w → w.cell? ⟨g8, 1, none⟩ = some (.int .i64 pc)) (k9 : ∀ w : World, Rd w → w.cell? ⟨g9, 2, none⟩ = some (.int .i64 p2))
  (KS1 : ∀ w A6 c6, P1 w A6 c6 → Rd w) (KS2 : ∀ w A6 c6 A7 c7, P2 w A6 c6 A7 c7 → Rd w) (KS3 : ∀ w, P3 w → Rd w) (hS : Rd w1)
  (a0 a : Act) (F : LaFr n c na ca nb cb g8 g9 A Aa Ab a0 a) (h : ∀ a w, P3 w → LaFr n c na ca nb cb g8 g9 A Aa Ab a0 a → Chain.At a 52 (.bool B) → Q .normal a w) :
  wpAnyH Tryz.prog .any ops Q (fun w => Rd w) 26 (List.replicate 26 false).toArray a w1 := by
 refine Ord.take R (k := 0) (v := .slice A n c) (bs' := (Ord.upto 1 26)) rfl (by kernel_rfl) hQ trivial hS (fun w _ hS => Chain.ev_move F.s0.ev) (F.lt (by decide)) fun a0 N => ?_
 replace F := F.next N (by decide)
 have f27 := N.got
 clear N a
 refine Ord.take R (k := 2) (v := .slice A n c) (bs' := [true, false, true, false, false, false, false, false, false, false, false, false, false, false, false, false, false, false, false, false, false, false, false, false, false, false]) rfl (by kernel_rfl) hQ trivial hS (fun w _ hS => Chain.ev_move F.s0.ev) (F.lt (by decide)) fun a2 N => ?_
 replace F := F.next N (by decide)
 replace f27 := N.keep 27 _ (by decide) f27
 have f29 := N.got
 clear N a0
 refine Ord.call R (k := 1) (args := #[.slice A n c]) (bs' := (Ord.upto 3 26)) rfl (by kernel_rfl) trivial (by simp [f27.ev]) (by kernel_rfl) (C1) (F.lt (by decide)) ?_
 rintro e w ⟨A6, c6, rfl, K1⟩
 replace hS := KS1 w A6 c6 K1
 refine ⟨_, rfl, hS, fun a1 N => ?_⟩
 replace F := F.next N (by decide)
 clear f27
 replace f29 := N.keep 29 _ (by decide) f29
 have f28 := N.got
 clear N a2
 refine Ord.call R (k := 3) (args := #[.slice A n c]) (bs' := (Ord.upto 4 26)) rfl (by kernel_rfl) trivial (by simp [f29.ev]) (by kernel_rfl) (C2 w A6 c6 K1) (F.lt (by decide)) ?_
 rintro e w ⟨A7, c7, rfl, K2⟩
 replace hS := KS2 w A6 c6 A7 c7 K2
 refine ⟨_, rfl, hS, fun a3 N => ?_⟩
 replace F := F.next N (by decide)
 replace f28 := N.keep 28 _ (by decide) f28
 clear f29
 have f30 := N.got
 clear N a1
 refine Ord.call R (k := 4) (args := #[.slice A6 n6 c6, .slice A7 n6 c7]) (bs' := (Ord.upto 5 26)) rfl (by kernel_rfl) trivial (by simp [f28.ev, f30.ev]) (by kernel_rfl) (C3 w A6 c6 A7 c7 K2) (F.lt (by decide)) ?_
 rintro e w ⟨rfl, K3⟩
 replace hS := KS3 w K3
 refine ⟨_, rfl, hS, fun a4 N => ?_⟩
 replace F := F.next N (by decide)
 clear f28
 clear f30
 have f31 := N.got
 clear N a3
 refine Ord.take R (k := 5) (v := .bool false) (bs' := (Ord.upto 6 26)) rfl (by kernel_rfl) hQ trivial hS (fun w _ hS => by have e31 := f31; unfold Chain.At at e31; clear F; go_simp) (F.lt (by decide)) fun a5 N => ?_
 replace F := F.next N (by decide)
 clear f31
 have f32 := N.got
 clear N a4
 refine Ord.take R (k := 6) (v := .bool false) (bs' := (Ord.upto 7 26)) rfl (by kernel_rfl) hQ trivial hS (fun w _ hS => Chain.ev_move f32.ev) (F.lt (by decide)) fun a6 N => ?_
 replace F := F.next N (by decide)
 clear f32
 have f33 := N.got
 clear N a5
 refine Ord.take R (k := 7) (v := .slice Aa na ca) (bs' := (Ord.upto 8 26)) rfl (by kernel_rfl) hQ (R.opened (j := 6) rfl f33) hS (fun w _ hS => Chain.ev_move F.s12.ev) (F.lt (by decide)) fun a7 N => ?_
 replace F := F.next N (by decide)
 replace f33 := N.keep 33 _ (by decide) f33
 have f34 := N.got
 clear N a6
 refine Ord.take R (k := 8) (v := .slice Ab nb cb) (bs' := (Ord.upto 9 26)) rfl (by kernel_rfl) hQ (R.opened (j := 6) rfl f33) hS (fun w _ hS => Chain.ev_move F.s13.ev) (F.lt (by decide)) fun a8 N => ?_
 replace F := F.next N (by decide)
 replace f33 := N.keep 33 _ (by decide) f33
 replace f34 := N.keep 34 _ (by decide) f34
 have f35 := N.got
 clear N a7
 refine Ord.call R (k := 9) (args := #[.slice Aa na ca, .slice Ab nb cb]) (bs' := (Ord.upto 10 26)) rfl (by kernel_rfl) (R.opened (j := 6) rfl f33) (by simp [f34.ev, f35.ev]) (by kernel_rfl) (C4 w K3) (F.lt (by decide)) ?_
 rintro e w ⟨rfl, K4⟩
 replace hS := KS3 w K4
 refine ⟨_, rfl, hS, fun a9 N => ?_⟩
 replace F := F.next N (by decide)
 replace f33 := N.keep 33 _ (by decide) f33
 clear f34
 clear f35
 have f36 := N.got
 clear N a8
 refine Ord.take R (k := 10) (v := .bool false) (bs' := (Ord.upto 11 26)) rfl (by kernel_rfl) hQ (R.opened (j := 6) rfl f33) hS (fun w _ hS => by have e36 := f36; unfold Chain.At at e36; clear F; go_simp) (F.lt (by decide)) fun a10 N => ?_
 replace F := F.next N (by decide)
 replace f33 := N.keep 33 _ (by decide) f33
 clear f36
 have f37 := N.got
 clear N a9
 refine Ord.take R (k := 11) (v := .bool false) (bs' := (Ord.upto 12 26)) rfl (by kernel_rfl) hQ trivial hS (fun w _ hS => Ord.ev_pick_no f33.ev f37.ev) (F.lt (by decide)) fun a11 N => ?_
 replace F := F.next N (by decide)
 clear f33
 clear f37
 have f38 := N.got
 clear N a10
 refine Ord.take R (k := 12) (v := .bool false) (bs' := (Ord.upto 13 26)) rfl (by kernel_rfl) hQ trivial hS (fun w _ hS => Chain.ev_move f38.ev) (F.lt (by decide)) fun a12 N => ?_
 replace F := F.next N (by decide)
 clear f38
 have f39 := N.got
 clear N a11
 refine Ord.take R (k := 13) (v := .slice A n c) (bs' := (Ord.upto 14 26)) rfl (by kernel_rfl) hQ (R.opened (j := 12) rfl f39) hS (fun w _ hS => Chain.ev_move F.s0.ev) (F.lt (by decide)) fun a13 N => ?_
 replace F := F.next N (by decide)
 replace f39 := N.keep 39 _ (by decide) f39
 have f40 := N.got
 clear N a12
 refine Ord.take R (k := 14) (v := .agg #[.int .i64 r, .int .i64 pc]) (bs' := (Ord.upto 15 26)) rfl (by kernel_rfl) hQ (R.opened (j := 12) rfl f39) hS (fun w _ hS => by have e8 := F.s8; unfold Chain.At at e8; have q0 := (kp0 w hS); have q1 := (kp1 w hS); clear F; go_simp) (F.lt (by decide)) fun a14 N => ?_
 replace F := F.next N (by decide)
 replace f39 := N.keep 39 _ (by decide) f39
 replace f40 := N.keep 40 _ (by decide) f40
 have f41 := N.got
 clear N a13
 refine Ord.take R (k := 16) (v := .slice A n c) (bs' := [true, true, true, true, true, true, true, true, true, true, true, true, true, true, true, false, true, false, false, false, false, false, false, false, false, false]) rfl (by kernel_rfl) hQ (R.opened (j := 12) rfl f39) hS (fun w _ hS => Chain.ev_move F.s0.ev) (F.lt (by decide)) fun a16 N => ?_
 replace F := F.next N (by decide)
 replace f39 := N.keep 39 _ (by decide) f39
 replace f40 := N.keep 40 _ (by decide) f40
 replace f41 := N.keep 41 _ (by decide) f41
 have f43 := N.got
 clear N a14
 refine Ord.take R (k := 17) (v := .agg #[.int .i64 r, .int .i64 pc]) (bs' := [true, true, true, true, true, true, true, true, true, true, true, true, true, true, true, false, true, true, false, false, false, false, false, false, false, false]) rfl (by kernel_rfl) hQ (R.opened (j := 12) rfl f39) hS (fun w _ hS => by have e8 := F.s8; unfold Chain.At at e8; have q0 := (kp0 w hS); have q1 := (kp1 w hS); clear F; go_simp) (F.lt (by decide)) fun a17 N => ?_
 replace F := F.next N (by decide)
 replace f39 := N.keep 39 _ (by decide) f39
 replace f40 := N.keep 40 _ (by decide) f40
 replace f41 := N.keep 41 _ (by decide) f41
 replace f43 := N.keep 43 _ (by decide) f43
 have f44 := N.got
 clear N a16
 refine Ord.call R (k := 15) (args := #[.slice A n c, .agg #[.int .i64 r, .int .i64 pc]]) (bs' := (Ord.upto 18 26)) rfl (by kernel_rfl) (R.opened (j := 12) rfl f39) (by simp [f40.ev, f41.ev]) (by kernel_rfl) (C5 w K4) (F.lt (by decide)) ?_
 rintro e w ⟨rfl, K5⟩
 replace hS := KS3 w K5
 refine ⟨_, rfl, hS, fun a15 N => ?_⟩
 replace F := F.next N (by decide)
 replace f39 := N.keep 39 _ (by decide) f39
 clear f40
 clear f41
 replace f43 := N.keep 43 _ (by decide) f43
 replace f44 := N.keep 44 _ (by decide) f44
 have f42 := N.got
 clear N a17
 refine Ord.call R (k := 18) (args := #[.slice A n c, .agg #[.int .i64 r, .int .i64 pc]]) (bs' := (Ord.upto 19 26)) rfl (by kernel_rfl) (R.opened (j := 12) rfl f39) (by simp [f43.ev, f44.ev]) (by kernel_rfl) (C6 w K5) (F.lt (by decide)) ?_
 rintro e w ⟨rfl, K6⟩
 replace hS := KS3 w K6
 refine ⟨_, rfl, hS, fun a18 N => ?_⟩
 replace F := F.next N (by decide)
 replace f39 := N.keep 39 _ (by decide) f39
 replace f42 := N.keep 42 _ (by decide) f42
 clear f43
 clear f44
 have f45 := N.got
 clear N a15
 refine Ord.take R (k := 19) (v := .bool false) (bs' := (Ord.upto 20 26)) rfl (by kernel_rfl) hQ (R.opened (j := 12) rfl f39) hS (fun w _ hS => by have e42 := f42; unfold Chain.At at e42; have e45 := f45; unfold Chain.At at e45; have q0 := ne; clear F; go_simp) (F.lt (by decide)) fun a19 N => ?_
 replace F := F.next N (by decide)
 replace f39 := N.keep 39 _ (by decide) f39
 clear f42
 clear f45
 have f46 := N.got
 clear N a18
 refine Ord.take R (k := 20) (v := .bool false) (bs' := (Ord.upto 21 26)) rfl (by kernel_rfl) hQ trivial hS (fun w _ hS => Ord.ev_pick_no f39.ev f46.ev) (F.lt (by decide)) fun a20 N => ?_
 replace F := F.next N (by decide)
 clear f39
 clear f46
 have f47 := N.got
 clear N a19
 refine Ord.take R (k := 21) (v := .bool false) (bs' := (Ord.upto 22 26)) rfl (by kernel_rfl) hQ trivial hS (fun w _ hS => Chain.ev_move f47.ev) (F.lt (by decide)) fun a21 N => ?_
 replace F := F.next N (by decide)
 clear f47
 have f48 := N.got
 clear N a20
 refine Ord.take R (k := 22) (v := .pointer (some ⟨g9, 2, none⟩)) (bs' := (Ord.upto 23 26)) rfl (by kernel_rfl) hQ (R.opened (j := 21) rfl f48) hS (fun w _ hS => by have e9 := F.s9; unfold Chain.At at e9; clear F; go_simp) (F.lt (by decide)) fun a22 N => ?_
 replace F := F.next N (by decide)
 replace f48 := N.keep 48 _ (by decide) f48
 have f49 := N.got
 clear N a21
 refine Ord.take R (k := 23) (v := .int .i64 p2) (bs' := (Ord.upto 24 26)) rfl (by kernel_rfl) hQ (R.opened (j := 21) rfl f48) hS (fun w _ hS => by have e49 := f49; unfold Chain.At at e49; have q0 := (k9 w hS); clear F; go_simp) (F.lt (by decide)) fun a23 N => ?_
 replace F := F.next N (by decide)
 replace f48 := N.keep 48 _ (by decide) f48
 clear f49
 have f50 := N.got
 clear N a22
 refine Ord.take R (k := 24) (v := .bool B) (bs' := (Ord.upto 25 26)) rfl (by kernel_rfl) hQ (R.opened (j := 21) rfl f48) hS (fun w _ hS => by have e50 := f50; unfold Chain.At at e50; have q0 := hB; clear F; go_simp) (F.lt (by decide)) fun a24 N => ?_
 replace F := F.next N (by decide)
 replace f48 := N.keep 48 _ (by decide) f48
 clear f50
 have f51 := N.got
 clear N a23
 refine Ord.take R (k := 25) (v := .bool B) (bs' := (Ord.upto 26 26)) rfl (by kernel_rfl) hQ trivial hS (fun w _ hS => Ord.ev_pick_no f48.ev f51.ev) (F.lt (by decide)) fun a25 N => ?_
 replace F := F.next N (by decide)
 clear f48
 clear f51
 have f52 := N.got
 clear N a24
 exact Ord.finish R (by kernel_rfl) (h _ _ K6 F f52)
end Ln
end Go.Proofs.YtgmijnnhanpocaaGreatDoor
