import Derived.Test.YtgcfpfhmjhkgnaaGreatDoorQBase9
import Derived.Test.YtgcfpfhmjhkgnaaGreatDoorQLaw1
set_option maxRecDepth 100000
set_option maxHeartbeats 6400000
namespace Go.Proofs.YtgcfpfhmjhkgnaaGreatDoor
open Go.ChangeShapes Go.WideShapes Go.ChangeAt Go.RowKit
namespace Sc
open Rw
def ROf (s : Scr) (W : World) (e : Ending) (W' : World) : Prop :=
 ∃ p g cap tail xs, e = .returned (ptrS p) ∧ RAt W' p g cap tail s xs ∧ W.heap.size ≤ p ∧ W.heap.size ≤ g ∧ Below W.heap.size W W'
def ncells (wd h : Nat) (v : Value) : Array Value := #[.int .i64 (wd : Int), .int .i64 (h : Int), v, .int .i64 0, .int .i64 0, .int .i64 0]
structure RNew (w0 W : World) (p wd h : Nat) (v : Value) (k : Nat) (ys : List RowIn) : Prop where
 scr : W.heap[p]? = some (.cells (ncells wd h v) 75 (0, 0))
 p0 : w0.heap.size ≤ p
 rows : RowsIn W w0.heap.size v ys
 len : ys.length = k
 same : ys.map sr = List.replicate k (blanksL wd, false)
 old : Below w0.heap.size w0 W
theorem rnew_walk (wd h : Int) (w : World) : Calls Tryz.prog 16 #[.int .i64 wd, .int .i64 h] w fun e w' => ROf (newS wd h) w e w' := by
 obtain ⟨i0, hi, hz0, hz1, hz2⟩ := info_parts infoRowR
 obtain ⟨wn, hwn⟩ : ∃ wn : Nat, min (max wd 2) 300 = (wn : Int) := ⟨(min (max wd 2) 300).toNat, by omega⟩
 obtain ⟨hn, hhn⟩ : ∃ hn : Nat, min (max h 1) 100 = (hn : Int) := ⟨(min (max h 1) 100).toNat, by omega⟩
 have w2 : 2 ≤ wn ∧ wn ≤ 300 := by omega
 have h1 : 1 ≤ hn ∧ hn ≤ 100 := by omega
 have eN : newS wd h = ⟨wn, List.replicate hn (blanksL wn, false), 0, 0, 0⟩ := by
  unfold newS
  rw [hwn, hhn]
  rfl
 have hOk := newS_ok wd h
 rw [eN] at hOk ⊢
 have OKN := Lib.hid hOk
 obtain ⟨p, hp⟩ : ∃ p, w.heap.size = p := ⟨_, rfl⟩
 obtain ⟨w1, hw1⟩ : ∃ w1, w.alloc (.cells #[.int .i64 (wn : Int), .int .i64 (hn : Int), .slice none 0 0, .int .i64 0, .int .i64 0, .int .i64 0] 75) = w1 := ⟨_, rfl⟩
 have N1 := Lib.hid (show RNew w w1 p wn hn (.slice none 0 0) 0 [] from by
  rw [← hw1]
  exact ⟨by rw [← hp]; exact heap_alloc_new w _, by omega, RowsIn.nothing _ _, rfl, rfl, (Below.refl _ _).alloc (Nat.le_refl _) _⟩)
 have HP := Lib.hid hp
 have HW := Lib.hid hw1
 have hbl : blankN (wn : Int) = wn := by unfold blankN; omega
 have BLK := Lib.hid (fun W : World => (show Calls Tryz.prog 40 #[.int .i64 (wn : Int)] W fun e w' => OverPost false (blanksL wn) W e w' from by
  have hb := refBlankRow_walk (wn : Int) W
  rw [hbl] at hb
  exact hb))
 clear hp hw1 eN hOk hbl
 go_enter Tryz.func16, Tryz.ntmps16
 go_wp2_with fail
 rw [HP.out]
 first
  | rw [HW.out]
  | (change Code.wp _ _ _ _ (w.alloc (.cells #[.int .i64 (wn : Int), .int .i64 (hn : Int), .slice none 0 0, .int .i64 0, .int .i64 0, .int .i64 0] 75)); rw [HW.out])
 clear HW hwn hhn
 go_loopw [6] (fun v6 wr => ∃ (k : Nat) (v : Value) (ys : List RowIn), v6 = .int .i64 (k : Int) ∧ k ≤ hn ∧ Hid (RNew w wr p wn hn v k ys)) (fun v6 _ => hn - (intOf v6).toNat)
 case atStart => exact ⟨0, _, _, rfl, Nat.zero_le _, N1⟩
 case round =>
  obtain ⟨k, v, ys, rfl, hk, NR⟩ := hrel
  clear N1
  have k1 : wr.cell? ⟨p, 1, none⟩ = some (.int .i64 (hn : Int)) := cell_of_row _ p 1 _ _ (0, 0) NR.out.scr
  by_cases hlt : k < hn
  ·have hlt' : (k : Int) < (hn : Int) := by omega
   have hinc : IntKind.i64.wrap ((k : Int) + 1) = (k : Int) + 1 := IntWalk.i64_in _ (by omega)
   go_upto_region 5 with fail
   have k0 : wr.cell? ⟨p, 0, none⟩ = some (.int .i64 (wn : Int)) := cell_of_row _ p 0 _ _ (0, 0) NR.out.scr
   have k2 : wr.cell? ⟨p, 2, none⟩ = some v := cell_of_row _ p 2 _ _ (0, 0) NR.out.scr
   have hpl : p < wr.heap.size := (Array.getElem?_eq_some_iff.1 NR.out.scr).1
   have F32 : k + 1 ≤ maxLen ∧ (k + 1) * 32 ≤ 140737488355328 := by unfold maxLen; omega
   have hsz := NR.out.old.size
   obtain ⟨A0, c0, rfl, _⟩ := NR.out.rows.shape
   rw [NR.out.len] at NR k2
   go_region_law (first
    | (go_simp; go_at_call 40; refine (BLK.out _).mono ?_; rintro e w3 ⟨A7, n7, c7, rfl, hb7, b3'⟩; (have b3 : Below wr.heap.size wr w3 := ((Below.refl wr.heap.size wr).drew).trans b3'); (have HB3 := Lib.hid (HasC.mono hb7 (Nat.zero_le _))); (have R3 := Lib.hid (NR.out.rows.below b3)); (have P3 := Lib.hid ((b3.block p hpl).trans NR.out.scr)); (have B3 := Lib.hid (NR.out.old.trans (b3.mono hsz))); (have z3 : w3.cell? ⟨p, 2, none⟩ = some (.slice A0 k c0) := cell_of_row _ p 2 _ _ (0, 0) P3.out); (have z30 : w3.cell? ⟨p, 0, none⟩ = some (.int .i64 (wn : Int)) := cell_of_row _ p 0 _ _ (0, 0) P3.out); (have hpl3 : p < w3.heap.size := (Array.getElem?_eq_some_iff.1 P3.out).1); (have ba := (Below.refl w3.heap.size w3).alloc (Nat.le_refl _) (.cells #[.slice A7 n7 c7, .bool false] 24)); (have z4 : (w3.alloc (.cells #[.slice A7 n7 c7, .bool false] 24)).cell? ⟨p, 2, none⟩ = some (.slice A0 k c0) := (ba.cell (p := ⟨p, 2, none⟩) hpl3).trans z3); (have P4 := Lib.hid ((ba.block p hpl3).trans P3.out)); (have HB4 := Lib.hid (HasC.keep (w' := w3.alloc (.cells #[.slice A7 n7 c7, .bool false] 24)) HB3.out (fun i e => ba.block i (HasC.lt HB3.out i e).2))); (have R4 := Lib.hid (R3.out.below ba)); (have B4 := Lib.hid (B3.out.trans (ba.mono B3.out.size))); (have SQ := Lib.hid (show Sq (w3.alloc (.cells #[.slice A7 n7 c7, .bool false] 24)) (w3.alloc (.cells #[.slice A7 n7 c7, .bool false] 24)).heap.size 2 1 (some ⟨w3.heap.size, 0, none⟩) [.slice A7 n7 c7, .bool false] from ⟨rfl, fun _ => ⟨w3.heap.size, 0, rfl, by simp, fun j u hu => (cell_of_row _ _ _ _ _ (0, 0) (heap_alloc_new w3 _)).trans (by rw [Nat.zero_add, List.getElem?_toArray]; exact hu)⟩⟩)); (have OWN := Lib.hid (show World.ownsRow (w3.alloc (.cells #[.slice A7 n7 c7, .bool false] 24)) w.heap.size 24 2 (.slice A0 k c0) k (ys.flatMap RowIn.vals) from by have h := R4.out.own; rwa [NR.out.len] at h)); (have BAS := Lib.hid (show w.heap.size ≤ (w3.alloc (.cells #[.slice A7 n7 c7, .bool false] 24)).heap.size from B4.out.size)); clear ba b3 b3' hb7 HB3 R3 P3 B3)
    | (refine step_app rfl _ _ 44 rfl w.heap.size 24 i0 (.agg #[.slice none 0 0, .bool false]) 2 32 Tryz.underlying44 hi hz0 hz1 hz2 rfl (by decide) (.slice A0 k c0) k (ys.flatMap RowIn.vals) rfl OWN.out (some ⟨w3.heap.size, 0, none⟩) 1 1 [.slice A7 n7 c7, .bool false] rfl (w3.alloc (.cells #[.slice A7 n7 c7, .bool false] 24)).heap.size SQ.out (by simp [Value.oneCell']) F32.1 F32.2 BAS.out ?_; intro A' c' w5 hown hg _; (have hne : ∀ j, (Value.slice A0 k c0).ownBlock = some j → j ≠ p := fun j e e2 => (own_typedR OWN.out j e).apart (show Typed _ 75 p from ⟨_, _, P4.out⟩) (by decide) e2); (have hown' := Lib.hid hown); (have hg' := Lib.hid hg); (have P5 := Lib.hid ((hg.block p (Array.getElem?_eq_some_iff.1 P4.out).1 (fun e => hne p e.symm rfl)).trans P4.out)); (have z5 : w5.cell? ⟨p, 2, none⟩ = some (.slice A0 k c0) := cell_of_row _ p 2 _ _ (0, 0) P5.out); (have f5 : w5.frozen? ⟨p, 2, none⟩ = false := frozen_of_row _ p _ _ _ P5.out); clear hown hg hne))
   all_goals
    have NX := Lib.hid (show RNew w (w5.setCell ⟨p, 2, none⟩ (.slice A' (k + 1) c')) p wn hn (.slice A' (k + 1) c') (k + 1) (ys ++ [⟨A7, n7, c7, false, blanksL wn⟩]) from by
     have hl : ys.length = k := NR.out.len
     have R5 : RowsIn w5 w.heap.size (.slice A' (k + 1) c') (ys ++ [⟨A7, n7, c7, false, blanksL wn⟩]) := R4.out.snoc hg'.out (by rw [hl]; exact hown'.out) HB4.out (blanks_signs wn)
     have ht := Turned.ofCell p 2 w5 (.slice A' (k + 1) c')
     have hty : Typed w5 75 p := ⟨_, _, P5.out⟩
     have bl4 := NR.out.p0
     refine ⟨heap_setCell_same w5 p 2 _ _ _ P5.out, NR.out.p0, R5.turned ht (fun j e e2 => (R5.typed j e).apart hty (by decide) e2) (fun j e t => by subst e; exact hty.apart t (by decide) rfl), by rw [List.length_append, hl]; rfl, by rw [List.map_append, NR.out.same, List.replicate_succ']; rfl, ?_⟩
     have b5 := B4.out.trans ((Turned.ofGrown hg'.out).toBelow B4.out.size (fun j hj m => by have := (World.ownsRow.lt OWN.out j m).1; omega))
     exact b5.setCell (p := ⟨p, 2, none⟩) NR.out.p0 _)
    clear OWN SQ BAS R4 HB4 P4 B4 P5 hown' hg' NR
    go_wp2
    go_roundw
    case rel => exact ⟨k + 1, _, _, by first | rfl | (congr 1; done) | (congr 1; omega), by omega, NX⟩
    case measure => first | (simp [intOf]; done) | (simp [intOf]; omega)
  ·obtain rfl : k = hn := by omega
   have hlt' : ¬ (k : Int) < (k : Int) := by omega
   have D := Lib.hid (show ROf ⟨wn, List.replicate k (blanksL wn, false), 0, 0, 0⟩ w (.returned (ptrS p)) wr from by
    have N := NR.out
    obtain ⟨A, c, rfl, hc⟩ := N.rows.shape
    rw [N.len] at hc
    have ho := N.rows.own
    rw [N.len] at ho
    obtain ⟨g, tl, rfl, hg, _, hgr⟩ := own_room ho (by omega)
    have hs := N.scr
    rw [N.len] at hs
    refine ⟨p, g, c, tl, ys, rfl, ⟨OKN.out, N.same, ?_, hgr, by show (List.replicate k _).length ≤ c; rw [List.length_replicate]; exact hc, fun x hx => (N.rows.each x hx).1⟩, N.p0, hg, N.old⟩
    rw [hs]
    unfold rcells ncells
    simp only [List.length_replicate]
    rfl)
   clear NR
   go_wp2
   go_ret
   exact D.out
end Sc
namespace Sc
abbrev U42SameR (k : Nat) := Ord.upto k 42
def sameL : List Ord.Line := [
 (some 12, .move (.tmp 0), none, []),
 (some 13, .call { callee := .value (.func 23), args := #[.tmp 12], argTypes := #[37] }, none, [0]),
 (some 14, .move (.tmp 1), none, []),
 (some 15, .nilCheck (.tmp 14), none, [2]),
 (some 16, .fieldAddr 75 (.tmp 15) 2, none, [3]),
 (some 17, .load 44 (.tmp 16), none, [4]),
 (some 18, .call { callee := .value (.func 18), args := #[.tmp 13, .tmp 17], argTypes := #[44, 44] }, none, [1, 5, 1]),
 (some 19, .move (.tmp 18), none, [6, 6]),
 (some 20, .move (.tmp 0), some (7, true), [7]),
 (some 21, .call { callee := .value (.func 28), args := #[.tmp 20], argTypes := #[37] }, some (7, true), [8, 7, 7]),
 (some 22, .move (.tmp 1), some (7, true), [7]),
 (some 23, .nilCheck (.tmp 22), some (7, true), [10, 7]),
 (some 24, .fieldAddr 75 (.tmp 23) 3, some (7, true), [11, 7]),
 (some 25, .load 50 (.tmp 24), some (7, true), [12, 7]),
 (some 26, .binOp .eql 50 (.tmp 21) (.tmp 25) 50, some (7, true), [9, 13, 7]),
 (some 27, .pick (.tmp 19) (.tmp 26) (.const (.bool false)), none, [7, 14]),
 (some 28, .move (.tmp 27), none, [15, 9]),
 (some 29, .move (.tmp 0), some (16, true), [16]),
 (some 30, .call { callee := .value (.func 48), args := #[.tmp 29], argTypes := #[37] }, some (16, true), [17, 16, 16]),
 (some 31, .move (.tmp 1), some (16, true), [16]),
 (some 32, .nilCheck (.tmp 31), some (16, true), [19, 16]),
 (some 33, .fieldAddr 75 (.tmp 32) 4, some (16, true), [20, 16]),
 (some 34, .load 3 (.tmp 33), some (16, true), [21, 16]),
 (some 35, .binOp .eql 3 (.tmp 30) (.tmp 34) 3, some (16, true), [18, 22, 16]),
 (some 36, .pick (.tmp 28) (.tmp 35) (.const (.bool false)), none, [16, 23]),
 (some 37, .move (.tmp 36), none, [24, 18]),
 (some 38, .move (.tmp 5), some (25, true), [25]),
 (some 39, .move (.tmp 1), some (25, true), [25]),
 (some 40, .nilCheck (.tmp 39), some (25, true), [27, 25]),
 (some 41, .fieldAddr 75 (.tmp 40) 0, some (25, true), [28, 25]),
 (some 42, .load 3 (.tmp 41), some (25, true), [29, 25]),
 (some 43, .binOp .eql 3 (.tmp 38) (.tmp 42) 3, some (25, true), [26, 30, 25]),
 (some 44, .pick (.tmp 37) (.tmp 43) (.const (.bool false)), none, [25, 31]),
 (some 45, .move (.tmp 44), none, [32, 25]),
 (some 46, .move (.tmp 6), some (33, true), [33]),
 (some 47, .move (.tmp 1), some (33, true), [33]),
 (some 48, .nilCheck (.tmp 47), some (33, true), [35, 33]),
 (some 49, .fieldAddr 75 (.tmp 48) 1, some (33, true), [36, 33]),
 (some 50, .load 3 (.tmp 49), some (33, true), [37, 33]),
 (some 51, .binOp .eql 3 (.tmp 46) (.tmp 50) 3, some (33, true), [34, 38, 33]),
 (some 52, .pick (.tmp 45) (.tmp 51) (.const (.bool false)), none, [33, 39]),
 (some 4, .assign (.tmp 52), none, [40, 33, 0, 1, 2, 3, 4, 5, 6, 7, 8, 9, 10, 11, 12, 13, 14, 15, 16, 17, 18, 19, 20, 21, 22, 23, 24, 25, 26, 27, 28, 29, 30, 31, 32, 33, 34, 35, 36, 37, 38, 39, 40])]
structure SameFr (p q : Nat) (x y : Int) (p2 p3 p7 p8 p9 p10 p11 : Value) (a : Act) : Prop where
 size : a.tmps.size = 53
 defers : a.defers = []
 s0 : Chain.At a 0 (.pointer (some ⟨p, 0, none⟩))
 s1 : Chain.At a 1 (.pointer (some ⟨q, 0, none⟩))
 s2 : Chain.At a 2 (p2)
 s3 : Chain.At a 3 (p3)
 s5 : Chain.At a 5 (.int .i64 x)
 s6 : Chain.At a 6 (.int .i64 y)
 s7 : Chain.At a 7 (p7)
 s8 : Chain.At a 8 (p8)
 s9 : Chain.At a 9 (p9)
 s10 : Chain.At a 10 (p10)
 s11 : Chain.At a 11 (p11)
theorem SameFr.next {p q : Nat} {x y : Int} {p2 p3 p7 p8 p9 p10 p11 : Value} {a a' : Act} {d : Nat} {v : Value} (F : SameFr p q x y p2 p3 p7 p8 p9 p10 p11 a) (nx : Chain.Next a a' d v) (h : d = 4 ∨ (11 < d ∧ d < 53) := by decide) : SameFr p q x y p2 p3 p7 p8 p9 p10 p11 a' := ⟨nx.size.trans F.size, nx.defers.trans F.defers, nx.k F.s0 (by omega), nx.k F.s1 (by omega), nx.k F.s2 (by omega), nx.k F.s3 (by omega), nx.k F.s5 (by omega), nx.k F.s6 (by omega), nx.k F.s7 (by omega), nx.k F.s8 (by omega), nx.k F.s9 (by omega), nx.k F.s10 (by omega), nx.k F.s11 (by omega)⟩
theorem SameFr.lt {p q : Nat} {x y : Int} {p2 p3 p7 p8 p9 p10 p11 : Value} {a : Act} {d : Nat} (F : SameFr p q x y p2 p3 p7 p8 p9 p10 p11 a) (h : d < 53 := by decide) : d < a.tmps.size := by rw [F.size]; exact h
theorem same_region {ops : Array Oper} {Q : Exit → Act → World → Prop} (R : Ord.Reg ops sameL) (hQ : Ord.HQ Q) {w1 : World} {p q g sh sc : Nat} {x y r c t : Int} {p2 p3 p7 p8 p9 p10 p11 : Value} {P1 : World → Option Addr → Nat → Nat → Prop}
  (E0 : ∀ w, (binOp .eql 50 (.agg #[.int .i64 r, .int .i64 c]) (.agg #[.int .i64 r, .int .i64 c])).run Tryz.prog w = .ok (.bool true) w)
  (k0 : ∀ w : World, Below w1.heap.size w1 w → w.cell? ⟨q, 0, none⟩ = some (.int .i64 x)) (k1 : ∀ w : World, Below w1.heap.size w1 w → w.cell? ⟨q, 1, none⟩ = some (.int .i64 y)) (k2 : ∀ w : World, Below w1.heap.size w1 w → w.cell? ⟨q, 2, none⟩ = some (.slice (some ⟨g, 0, none⟩) sh sc)) (k3 : ∀ w : World, Below w1.heap.size w1 w → w.cell? ⟨q, 3, none⟩ = some (.int .i64 r)) (k4 : ∀ w : World, Below w1.heap.size w1 w → w.cell? ⟨q, 4, none⟩ = some (.int .i64 c)) (k5 : ∀ w : World, Below w1.heap.size w1 w → w.cell? ⟨q, 5, none⟩ = some (.int .i64 t))
  (C1 : Calls Tryz.prog 23 #[.pointer (some ⟨p, 0, none⟩)] w1 fun e w' => ∃ A m c, e = .returned (.slice A m c) ∧ P1 w' A m c)
  (KS1 : ∀ w A m c, P1 w A m c → Below w1.heap.size w1 w)
  (C2 : ∀ w A m c, Below w1.heap.size w1 w → P1 w A m c → Calls Tryz.prog 18 #[.slice A m c, .slice (some ⟨g, 0, none⟩) sh sc] w fun e w' => e = .returned (.bool true) ∧ Below w1.heap.size w1 w')
  (C3 : ∀ w, Below w1.heap.size w1 w → Calls Tryz.prog 28 #[.pointer (some ⟨p, 0, none⟩)] w fun e w' => e = .returned (.agg #[.int .i64 r, .int .i64 c]) ∧ Below w1.heap.size w1 w')
  (C4 : ∀ w, Below w1.heap.size w1 w → Calls Tryz.prog 48 #[.pointer (some ⟨p, 0, none⟩)] w fun e w' => e = .returned (.int .i64 t) ∧ Below w1.heap.size w1 w')
  (a : Act) (F : SameFr p q x y p2 p3 p7 p8 p9 p10 p11 a) (h : ∀ a w, Below w1.heap.size w1 w → SameFr p q x y p2 p3 p7 p8 p9 p10 p11 a → Chain.At a 4 (.bool true) → Q .normal a w) :
  wpAnyH Tryz.prog .any ops Q (fun w => Below w1.heap.size w1 w) 42 (List.replicate 42 false).toArray a w1 := by
 have hS : Below w1.heap.size w1 w1 := Below.refl _ _
 refine Ord.tj R 0 (.pointer (some ⟨p, 0, none⟩)) (U42SameR 1) rfl hQ trivial hS (fun w _ hS => Chain.ev_move F.s0.ev) F.lt fun a0 N => ?_
 replace F := F.next N
 have f12 := N.got
 clear N a
 refine Ord.tj R 2 (.pointer (some ⟨q, 0, none⟩)) (Ord.bt 42 5) rfl hQ trivial hS (fun w _ hS => Chain.ev_move F.s1.ev) F.lt fun a2 N => ?_
 replace F := F.next N
 replace f12 := N.k f12
 have f14 := N.got
 clear N a0
 refine Ord.tj R 3 (.pointer (some ⟨q, 0, none⟩)) (Ord.bt 42 13) rfl hQ trivial hS (fun w _ hS => by have e14 := f14.u; clear F; go_simp) F.lt fun a3 N => ?_
 replace F := F.next N
 replace f12 := N.k f12
 clear f14
 have f15 := N.got
 clear N a2
 refine Ord.tj R 4 (.pointer (some ⟨q, 2, none⟩)) (Ord.bt 42 29) rfl hQ trivial hS (fun w _ hS => by have e15 := f15.u; clear F; go_simp) F.lt fun a4 N => ?_
 replace F := F.next N
 replace f12 := N.k f12
 clear f15
 have f16 := N.got
 clear N a3
 refine Ord.tj R 5 (.slice (some ⟨g, 0, none⟩) sh sc) (Ord.bt 42 61) rfl hQ trivial hS (fun w _ hS => by have e16 := f16.u; have q0 := (k2 w hS); clear F; go_simp) F.lt fun a5 N => ?_
 replace F := F.next N
 replace f12 := N.k f12
 clear f16
 have f17 := N.got
 clear N a4
 refine Ord.call R (k := 1) (args := #[.pointer (some ⟨p, 0, none⟩)]) (bs' := U42SameR 6) rfl (by kernel_rfl) trivial (by simp [f12.ev]) (by kernel_rfl) (C1) F.lt ?_
 rintro e w ⟨A8, m8, c8, rfl, K1⟩
 replace hS := KS1 w A8 m8 c8 K1
 refine ⟨_, rfl, hS, fun a1 N => ?_⟩
 replace F := F.next N
 clear f12
 replace f17 := N.k f17
 have f13 := N.got
 clear N a5
 refine Ord.call R (k := 6) (args := #[.slice A8 m8 c8, .slice (some ⟨g, 0, none⟩) sh sc]) (bs' := U42SameR 7) rfl (by kernel_rfl) trivial (by simp [f13.ev, f17.ev]) (by kernel_rfl) (C2 w A8 m8 c8 hS K1) F.lt ?_
 rintro e w ⟨rfl, K2⟩
 replace hS := K2
 refine ⟨_, rfl, hS, fun a6 N => ?_⟩
 replace F := F.next N
 clear f13
 clear f17
 have f18 := N.got
 clear N a1
 refine Ord.tk R 7 (.bool true) rfl hQ hS (fun w _ hS => Chain.ev_move f18.ev) F.lt fun a7 N => ?_
 replace F := F.next N
 clear f18
 have f19 := N.got
 clear N a6
 refine Ord.tj R 8 (.pointer (some ⟨p, 0, none⟩)) (U42SameR 9) rfl hQ (R.opened (j := 7) rfl f19) hS (fun w _ hS => Chain.ev_move F.s0.ev) F.lt fun a8 N => ?_
 replace F := F.next N
 replace f19 := N.k f19
 have f20 := N.got
 clear N a7
 refine Ord.tj R 10 (.pointer (some ⟨q, 0, none⟩)) (Ord.bt 42 1535) rfl hQ (R.opened (j := 7) rfl f19) hS (fun w _ hS => Chain.ev_move F.s1.ev) F.lt fun a10 N => ?_
 replace F := F.next N
 replace f19 := N.k f19
 replace f20 := N.k f20
 have f22 := N.got
 clear N a8
 refine Ord.tj R 11 (.pointer (some ⟨q, 0, none⟩)) (Ord.bt 42 3583) rfl hQ (R.opened (j := 7) rfl f19) hS (fun w _ hS => by have e22 := f22.u; clear F; go_simp) F.lt fun a11 N => ?_
 replace F := F.next N
 replace f19 := N.k f19
 replace f20 := N.k f20
 clear f22
 have f23 := N.got
 clear N a10
 refine Ord.tj R 12 (.pointer (some ⟨q, 3, none⟩)) (Ord.bt 42 7679) rfl hQ (R.opened (j := 7) rfl f19) hS (fun w _ hS => by have e23 := f23.u; clear F; go_simp) F.lt fun a12 N => ?_
 replace F := F.next N
 replace f19 := N.k f19
 replace f20 := N.k f20
 clear f23
 have f24 := N.got
 clear N a11
 refine Ord.tj R 13 (.agg #[.int .i64 r, .int .i64 c]) (Ord.bt 42 15871) rfl hQ (R.opened (j := 7) rfl f19) hS (fun w _ hS => by have e24 := f24.u; have q0 := (k3 w hS); have q1 := (k4 w hS); clear F; go_simp) F.lt fun a13 N => ?_
 replace F := F.next N
 replace f19 := N.k f19
 replace f20 := N.k f20
 clear f24
 have f25 := N.got
 clear N a12
 refine Ord.call R (k := 9) (args := #[.pointer (some ⟨p, 0, none⟩)]) (bs' := U42SameR 14) rfl (by kernel_rfl) (R.opened (j := 7) rfl f19) (by simp [f20.ev]) (by kernel_rfl) (C3 w hS) F.lt ?_
 rintro e w ⟨rfl, K3⟩
 replace hS := K3
 refine ⟨_, rfl, hS, fun a9 N => ?_⟩
 replace F := F.next N
 replace f19 := N.k f19
 clear f20
 replace f25 := N.k f25
 have f21 := N.got
 clear N a13
 refine Ord.tj R 14 (.bool true) (U42SameR 15) rfl hQ (R.opened (j := 7) rfl f19) hS (fun w _ hS => by have e21 := f21.u; have e25 := f25.u; have q0 := E0 w; clear F; first | exact q0 | (go_simp)) F.lt fun a14 N => ?_
 replace F := F.next N
 replace f19 := N.k f19
 clear f21
 clear f25
 have f26 := N.got
 clear N a9
 refine Ord.tk R 15 (.bool true) rfl hQ hS (fun w _ hS => Ord.ev_pick_yes f19.ev f26.ev) F.lt fun a15 N => ?_
 replace F := F.next N
 clear f19
 clear f26
 have f27 := N.got
 clear N a14
 refine Ord.tk R 16 (.bool true) rfl hQ hS (fun w _ hS => Chain.ev_move f27.ev) F.lt fun a16 N => ?_
 replace F := F.next N
 clear f27
 have f28 := N.got
 clear N a15
 refine Ord.tj R 17 (.pointer (some ⟨p, 0, none⟩)) (U42SameR 18) rfl hQ (R.opened (j := 16) rfl f28) hS (fun w _ hS => Chain.ev_move F.s0.ev) F.lt fun a17 N => ?_
 replace F := F.next N
 replace f28 := N.k f28
 have f29 := N.got
 clear N a16
 refine Ord.tj R 19 (.pointer (some ⟨q, 0, none⟩)) (Ord.bt 42 786431) rfl hQ (R.opened (j := 16) rfl f28) hS (fun w _ hS => Chain.ev_move F.s1.ev) F.lt fun a19 N => ?_
 replace F := F.next N
 replace f28 := N.k f28
 replace f29 := N.k f29
 have f31 := N.got
 clear N a17
 refine Ord.tj R 20 (.pointer (some ⟨q, 0, none⟩)) (Ord.bt 42 1835007) rfl hQ (R.opened (j := 16) rfl f28) hS (fun w _ hS => by have e31 := f31.u; clear F; go_simp) F.lt fun a20 N => ?_
 replace F := F.next N
 replace f28 := N.k f28
 replace f29 := N.k f29
 clear f31
 have f32 := N.got
 clear N a19
 refine Ord.tj R 21 (.pointer (some ⟨q, 5, none⟩)) (Ord.bt 42 3932159) rfl hQ (R.opened (j := 16) rfl f28) hS (fun w _ hS => by have e32 := f32.u; clear F; go_simp) F.lt fun a21 N => ?_
 replace F := F.next N
 replace f28 := N.k f28
 replace f29 := N.k f29
 clear f32
 have f33 := N.got
 clear N a20
 refine Ord.tj R 22 (.int .i64 t) (Ord.bt 42 8126463) rfl hQ (R.opened (j := 16) rfl f28) hS (fun w _ hS => by have e33 := f33.u; have q0 := (k5 w hS); clear F; go_simp) F.lt fun a22 N => ?_
 replace F := F.next N
 replace f28 := N.k f28
 replace f29 := N.k f29
 clear f33
 have f34 := N.got
 clear N a21
 refine Ord.call R (k := 18) (args := #[.pointer (some ⟨p, 0, none⟩)]) (bs' := U42SameR 23) rfl (by kernel_rfl) (R.opened (j := 16) rfl f28) (by simp [f29.ev]) (by kernel_rfl) (C4 w hS) F.lt ?_
 rintro e w ⟨rfl, K4⟩
 replace hS := K4
 refine ⟨_, rfl, hS, fun a18 N => ?_⟩
 replace F := F.next N
 replace f28 := N.k f28
 clear f29
 replace f34 := N.k f34
 have f30 := N.got
 clear N a22
 refine Ord.tj R 23 (.bool true) (U42SameR 24) rfl hQ (R.opened (j := 16) rfl f28) hS (fun w _ hS => by have e30 := f30.u; have e34 := f34.u; have q0 := (by simp : (t == t) = true); clear F; go_simp) F.lt fun a23 N => ?_
 replace F := F.next N
 replace f28 := N.k f28
 clear f30
 clear f34
 have f35 := N.got
 clear N a18
 refine Ord.tk R 24 (.bool true) rfl hQ hS (fun w _ hS => Ord.ev_pick_yes f28.ev f35.ev) F.lt fun a24 N => ?_
 replace F := F.next N
 clear f28
 clear f35
 have f36 := N.got
 clear N a23
 refine Ord.tk R 25 (.bool true) rfl hQ hS (fun w _ hS => Chain.ev_move f36.ev) F.lt fun a25 N => ?_
 replace F := F.next N
 clear f36
 have f37 := N.got
 clear N a24
 refine Ord.tj R 26 (.int .i64 x) (U42SameR 27) rfl hQ (R.opened (j := 25) rfl f37) hS (fun w _ hS => Chain.ev_move F.s5.ev) F.lt fun a26 N => ?_
 replace F := F.next N
 replace f37 := N.k f37
 have f38 := N.got
 clear N a25
 refine Ord.tj R 27 (.pointer (some ⟨q, 0, none⟩)) (U42SameR 28) rfl hQ (R.opened (j := 25) rfl f37) hS (fun w _ hS => Chain.ev_move F.s1.ev) F.lt fun a27 N => ?_
 replace F := F.next N
 replace f37 := N.k f37
 replace f38 := N.k f38
 have f39 := N.got
 clear N a26
 refine Ord.tj R 28 (.pointer (some ⟨q, 0, none⟩)) (U42SameR 29) rfl hQ (R.opened (j := 25) rfl f37) hS (fun w _ hS => by have e39 := f39.u; clear F; go_simp) F.lt fun a28 N => ?_
 replace F := F.next N
 replace f37 := N.k f37
 replace f38 := N.k f38
 clear f39
 have f40 := N.got
 clear N a27
 refine Ord.tj R 29 (.pointer (some ⟨q, 0, none⟩)) (U42SameR 30) rfl hQ (R.opened (j := 25) rfl f37) hS (fun w _ hS => by have e40 := f40.u; clear F; go_simp) F.lt fun a29 N => ?_
 replace F := F.next N
 replace f37 := N.k f37
 replace f38 := N.k f38
 clear f40
 have f41 := N.got
 clear N a28
 refine Ord.tj R 30 (.int .i64 x) (U42SameR 31) rfl hQ (R.opened (j := 25) rfl f37) hS (fun w _ hS => by have e41 := f41.u; have q0 := (k0 w hS); clear F; go_simp) F.lt fun a30 N => ?_
 replace F := F.next N
 replace f37 := N.k f37
 replace f38 := N.k f38
 clear f41
 have f42 := N.got
 clear N a29
 refine Ord.tj R 31 (.bool true) (U42SameR 32) rfl hQ (R.opened (j := 25) rfl f37) hS (fun w _ hS => by have e38 := f38.u; have e42 := f42.u; have q0 := (by simp : (x == x) = true); clear F; go_simp) F.lt fun a31 N => ?_
 replace F := F.next N
 replace f37 := N.k f37
 clear f38
 clear f42
 have f43 := N.got
 clear N a30
 refine Ord.tk R 32 (.bool true) rfl hQ hS (fun w _ hS => Ord.ev_pick_yes f37.ev f43.ev) F.lt fun a32 N => ?_
 replace F := F.next N
 clear f37
 clear f43
 have f44 := N.got
 clear N a31
 refine Ord.tk R 33 (.bool true) rfl hQ hS (fun w _ hS => Chain.ev_move f44.ev) F.lt fun a33 N => ?_
 replace F := F.next N
 clear f44
 have f45 := N.got
 clear N a32
 refine Ord.tj R 34 (.int .i64 y) (U42SameR 35) rfl hQ (R.opened (j := 33) rfl f45) hS (fun w _ hS => Chain.ev_move F.s6.ev) F.lt fun a34 N => ?_
 replace F := F.next N
 replace f45 := N.k f45
 have f46 := N.got
 clear N a33
 refine Ord.tj R 35 (.pointer (some ⟨q, 0, none⟩)) (U42SameR 36) rfl hQ (R.opened (j := 33) rfl f45) hS (fun w _ hS => Chain.ev_move F.s1.ev) F.lt fun a35 N => ?_
 replace F := F.next N
 replace f45 := N.k f45
 replace f46 := N.k f46
 have f47 := N.got
 clear N a34
 refine Ord.tj R 36 (.pointer (some ⟨q, 0, none⟩)) (U42SameR 37) rfl hQ (R.opened (j := 33) rfl f45) hS (fun w _ hS => by have e47 := f47.u; clear F; go_simp) F.lt fun a36 N => ?_
 replace F := F.next N
 replace f45 := N.k f45
 replace f46 := N.k f46
 clear f47
 have f48 := N.got
 clear N a35
 refine Ord.tj R 37 (.pointer (some ⟨q, 1, none⟩)) (U42SameR 38) rfl hQ (R.opened (j := 33) rfl f45) hS (fun w _ hS => by have e48 := f48.u; clear F; go_simp) F.lt fun a37 N => ?_
 replace F := F.next N
 replace f45 := N.k f45
 replace f46 := N.k f46
 clear f48
 have f49 := N.got
 clear N a36
 refine Ord.tj R 38 (.int .i64 y) (U42SameR 39) rfl hQ (R.opened (j := 33) rfl f45) hS (fun w _ hS => by have e49 := f49.u; have q0 := (k1 w hS); clear F; go_simp) F.lt fun a38 N => ?_
 replace F := F.next N
 replace f45 := N.k f45
 replace f46 := N.k f46
 clear f49
 have f50 := N.got
 clear N a37
 refine Ord.tj R 39 (.bool true) (U42SameR 40) rfl hQ (R.opened (j := 33) rfl f45) hS (fun w _ hS => by have e46 := f46.u; have e50 := f50.u; have q0 := (by simp : (y == y) = true); clear F; go_simp) F.lt fun a39 N => ?_
 replace F := F.next N
 replace f45 := N.k f45
 clear f46
 clear f50
 have f51 := N.got
 clear N a38
 refine Ord.tk R 40 (.bool true) rfl hQ hS (fun w _ hS => Ord.ev_pick_yes f45.ev f51.ev) F.lt fun a40 N => ?_
 replace F := F.next N
 clear f45
 clear f51
 have f52 := N.got
 clear N a39
 refine Ord.tk R 41 (.bool true) rfl hQ hS (fun w _ hS => Chain.ev_assign f52.ev) F.lt fun a41 N => ?_
 replace F := F.next N
 clear f52
 have f4 := N.got
 clear N a40
 exact Ord.finish R (by kernel_rfl) (h _ _ hS F f4)
theorem same_frame {a : Act} {w : World} {K : Act → World → Prop} {v0 v1 v2 v3 v4 v5 v6 v7 v8 v9 v10 v11 : Value} (hz : a.tmps.size = 53) (hd : a.defers = []) (f0 : Chain.At a 0 v0) (f1 : Chain.At a 1 v1) (f2 : Chain.At a 2 v2) (f3 : Chain.At a 3 v3) (f4 : Chain.At a 4 v4) (f5 : Chain.At a 5 v5) (f6 : Chain.At a 6 v6) (f7 : Chain.At a 7 v7) (f8 : Chain.At a 8 v8) (f9 : Chain.At a 9 v9) (f10 : Chain.At a 10 v10) (f11 : Chain.At a 11 v11)
  (h : ∀ u12 u13 u14 u15 u16 u17 u18 u19 u20 u21 u22 u23 u24 u25 u26 u27 u28 u29 u30 u31 u32 u33 u34 u35 u36 u37 u38 u39 u40 u41 u42 u43 u44 u45 u46 u47 u48 u49 u50 u51 u52 : Value, K ⟨#[v0, v1, v2, v3, v4, v5, v6, v7, v8, v9, v10, v11, u12, u13, u14, u15, u16, u17, u18, u19, u20, u21, u22, u23, u24, u25, u26, u27, u28, u29, u30, u31, u32, u33, u34, u35, u36, u37, u38, u39, u40, u41, u42, u43, u44, u45, u46, u47, u48, u49, u50, u51, u52], []⟩ w) : K a w := by
 have e := Ord.frame_gets hz hd
 simp only [Ord.gets, Nat.reduceAdd] at e
 rw [Ord.at_get f0, Ord.at_get f1, Ord.at_get f2, Ord.at_get f3, Ord.at_get f4, Ord.at_get f5, Ord.at_get f6, Ord.at_get f7, Ord.at_get f8, Ord.at_get f9, Ord.at_get f10, Ord.at_get f11] at e
 rw [e]
 exact h _ _ _ _ _ _ _ _ _ _ _ _ _ _ _ _ _ _ _ _ _ _ _ _ _ _ _ _ _ _ _ _ _ _ _ _ _ _ _ _ _
end Sc
namespace Sc
open Rw
theorem RAt.rd {W : World} {p g cap : Nat} {tail : List Value} {s : Scr} {xs : List RowIn} (h : RAt W p g cap tail s xs) : Rd W (some ⟨g, 0, none⟩) s.rows.length xs := by
 refine ⟨⟨by rw [vals_length, h.len], fun _ => ⟨g, 0, rfl, h.ltg, fun j u hu => ?_⟩⟩, fun x hx => ?_⟩
 ·simpa using h.rowc hu
 ·obtain ⟨i, hi, rfl⟩ := List.mem_iff_getElem.1 hx
  obtain ⟨x', hx', _, hc, hn, _⟩ := h.at' (i := i) (by rw [← h.len]; exact hi)
  rw [List.getElem?_eq_getElem hi] at hx'
  injection hx' with hx'
  subst hx'
  exact ⟨HasC.sq hc, by rw [hn]; have := h.ok.w3; omega⟩
theorem same_walk {p g q g2 cap : Nat} {tail : List Value} {s : Scr} {xs ys : List RowIn} (w : World) (h : ScAt w p g s xs) (h' : RAt w q g2 cap tail s ys) :
  Calls Tryz.prog 20 #[ptrS p, ptrS q] w fun e w' => e = .returned (.bool true) ∧ Below w.heap.size w w' := by
 have Z := Lib.hid (size_walk w h)
 have H := Lib.hid h
 have H' := Lib.hid h'
 clear h h'
 go_enter Tryz.func20, Tryz.ntmps20
 go_wp2_with fail
 refine Z.out.mono ?_
 rintro e w1 ⟨rfl, b1⟩
 have H1 := Lib.hid (H.out.laid b1)
 have H1' := Lib.hid (H'.out.laid b1)
 have B1 := Lib.hid b1
 clear b1 Z H H'
 go_wp2_with fail
 have hn : s.rows.length ≤ 1000000 := by have := H1'.out.ok.h2; omega
 have ld : ∀ W, Below w1.drew.heap.size w1.drew W → RAt W q g2 cap tail s ys := fun W b => H1'.out.laid ((Below.refl w1.heap.size w1).drew.trans b)
 have ldc : ∀ W, Below w1.drew.heap.size w1.drew W → ScAt W p g s xs := fun W b => H1.out.laid ((Below.refl w1.heap.size w1).drew.trans b)
 refine Ord.start (S := fun W => Below w1.drew.heap.size w1.drew W) (n := 42) (by kernel_rfl) (by kernel_rfl) (Below.refl _ _) ?_
 apply same_region (w1 := w1.drew) (p := p) (q := q) (g := g2) (sh := s.rows.length) (sc := cap) (x := (s.w : Int)) (y := (s.rows.length : Int)) (r := (s.r : Int)) (c := (s.c : Int)) (t := s.a) (p2 := undef) (p3 := undef) (p7 := .tuple #[.int .i64 (s.w : Int), .int .i64 (s.rows.length : Int)]) (p8 := ptrS p) (p9 := .tuple #[.int .i64 (s.w : Int), .int .i64 (s.rows.length : Int)]) (p10 := .int .i64 (s.w : Int)) (p11 := .int .i64 (s.rows.length : Int))
  (P1 := fun W A m c => ∃ zs, Shown w1.drew s.w s.rows (.slice A m c) zs W)
 case R => exact ⟨by kernel_rfl, by kernel_rfl⟩
 case hQ => exact fun _ _ _ _ _ h => h
 case E0 => exact fun w => eql_pos _ _ w
 case k0 => exact fun W b => (ld W b).get 0
 case k1 => exact fun W b => (ld W b).get 1
 case k2 => exact fun W b => (ld W b).get 2
 case k3 => exact fun W b => (ld W b).get 3
 case k4 => exact fun W b => (ld W b).get 4
 case k5 => exact fun W b => (ld W b).get 5
 case C1 =>
  refine (rows_walk w1.drew (ldc _ (Below.refl _ _))).mono ?_
  rintro e W' ⟨v, zs, rfl, SH⟩
  obtain ⟨A, c, rfl, _⟩ := SH.rows.shape
  exact ⟨A, _, c, rfl, zs, SH⟩
 case KS1 => exact fun W A m c ⟨zs, SH⟩ => SH.old
 case C2 =>
  rintro W A m c hb ⟨zs, SH⟩
  have hl : zs.length = s.rows.length := by rw [← SH.same, List.length_map]
  obtain rfl : m = s.rows.length := by obtain ⟨_, _, e, _⟩ := SH.rows.shape; injection e with _ e _; omega
  refine (eqRows_walk A (some ⟨g2, 0, none⟩) s.rows.length c cap zs ys W hn (RowsIn.rd SH.rows (fun x hx => by rw [(SH.each x hx).1]; have := H1.out.ok.w3; omega)) (ld W hb).rd (SH.same.trans (ld W hb).same.symm)).mono ?_
  rintro e W' ⟨rfl, b⟩
  exact ⟨rfl, hb.trans (b.mono hb.size)⟩
 case C3 =>
  intro W hb
  refine (cursor_walk W (ldc W hb)).mono ?_
  rintro e W' ⟨rfl, b⟩
  exact ⟨rfl, hb.trans (b.mono hb.size)⟩
 case C4 =>
  intro W hb
  refine (attr_walk W (ldc W hb)).mono ?_
  rintro e W' ⟨rfl, rfl⟩
  exact ⟨rfl, hb⟩
 case F => constructor <;> rfl
 intro a w2 hb F2 f4
 refine same_frame F2.size F2.defers F2.s0 F2.s1 F2.s2 F2.s3 f4 F2.s5 F2.s6 F2.s7 F2.s8 F2.s9 F2.s10 F2.s11 ?_
 have B2 := Lib.hid (B1.out.trans (((Below.refl w1.heap.size w1).drew.trans hb).mono B1.out.size))
 clear ld ldc F2 f4 hb H1 H1' B1
 intros
 try dsimp only
 go_wp2_with fail
 exact bodyPost_ret (v := .bool true) (by simp [results, Tryz.results20, go_sem]) rfl ⟨rfl, B2.out⟩
end Sc
