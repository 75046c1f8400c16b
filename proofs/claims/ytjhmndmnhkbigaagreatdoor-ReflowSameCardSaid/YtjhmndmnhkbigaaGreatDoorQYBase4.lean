/-
  The reference's way to a row's cells in which a sign stands. The reference's Of: of each row the number of its line, and how many of its line's cells stand ahead of it. The reference's Join: the lines of rows. The reference's EqCells, of equal lists of cells.
-/
import Derived.Test.YtjhmndmnhkbigaaGreatDoorQYLine1
import Derived.Test.YtjhmndmnhkbigaaGreatDoorQYRefRow1
import Derived.Test.YtjhmndmnhkbigaaGreatDoorQYBase1
import Derived.Test.YtjhmndmnhkbigaaGreatDoorQYBase3
import Derived.Test.YtjhmndmnhkbigaaGreatDoorQYLine2
import Derived.Deep.CutRange
import Derived.Test.YtjhmndmnhkbigaaGreatDoorQYBase0
namespace Go.Proofs.YtjhmndmnhkbigaaGreatDoor
open Go.ChangeShapes Go.WideShapes Go.ChangeAt Go.RowKit
namespace Ln
open Rw
theorem neq_pad (r m a : Int) (w : World) : (binOp .neq 52 (cellV r m a) (cellV 0 1 0)).run Tryz.prog w = .ok (.bool (!(r == 0 && m == 1 && a == 0))) w := by
 have hw := w
 cases h1 : (r == 0) <;> cases h2 : (m == 1) <;> cases h3 : (a == 0) <;> go_simp
theorem mayGo_cell : ∀ {l : List Cel} {p : Cel}, mayGo p l = true → ∀ c ∈ l, mayB c = true
 | [], _, _, c, h => by cases h
 | x :: l, p, hm, c, h => by
  have e : mayGo p (x :: l) = (mayB x && ((p.2.1 == 2) == (x.2.1 == 0)) && (!(x.2.1 == 0) || x.2.2 == p.2.2) && mayGo x l) := rfl
  rw [e] at hm
  simp only [Bool.and_eq_true] at hm
  rcases List.mem_cons.1 h with rfl | h
  ·exact hm.1.1.1
  ·exact mayGo_cell hm.2 c h
theorem mayL_cell {l : List Cel} (hm : mayL l = true) : ∀ c ∈ l, mayB c = true := by
 unfold mayL at hm
 simp only [Bool.and_eq_true] at hm
 exact mayGo_cell hm.2
theorem mayB_wide {r m a : Int} (h : mayB (r, m, a) = true) : m = 0 ∨ m = 1 ∨ m = 2 := by
 have hw := wof_range r
 unfold mayB at h
 simp only [Bool.and_eq_true, Bool.or_eq_true, decide_eq_true_eq, beq_iff_eq, Prod.mk.injEq] at h
 omega
theorem filter_next {l : List Cel} {k : Nat} {c : Cel} (h : l[k]? = some c) : (l.take (k + 1)).filter signC = (l.take k).filter signC ++ if signC c then [c] else [] := by
 rw [take_one h, List.filter_append]
 cases hc : signC c <;> simp [hc]
set_option maxRecDepth 100000 in
set_option maxHeartbeats 6400000 in
theorem refSigns_walk (A : Option Addr) (n c : Nat) (wrap : Bool) (l : List Cel) (w : World) (hl : ∀ c ∈ l, -2147483648 ≤ c.1 ∧ c.1 ≤ 2147483647) (hq : Sq w w.heap.size 3 n A (flat l)) (hn : n ≤ 9223372036854775807) :
  Calls Tryz.prog 43 #[rowV A n c wrap] w fun e w' => ∃ v, e = .returned v ∧ HasC w' w.heap.size v (cellsR (wrap, l)) ∧ Below w.heap.size w w' := by
 obtain ⟨i0, hi0, hz0, hz1, hz2⟩ := info_parts infoCell
 have hln : l.length = n := by have := hq.len; rw [flat_length] at this; omega
 obtain ⟨g0, hg0⟩ : ∃ g0, w.heap.size = g0 := ⟨_, rfl⟩
 obtain ⟨w1, hw1⟩ : ∃ w1, w.alloc (.cells #[.slice A n c, .bool wrap] 48) = w1 := ⟨_, rfl⟩
 have b1 : Below w.heap.size w w1 := by rw [← hw1]; exact (Below.refl _ _).alloc (Nat.le_refl _) _
 have x1 : w1.heap[g0]? = some (.cells #[.slice A n c, .bool wrap] 48 (0, 0)) := by rw [← hw1, ← hg0]; exact heap_alloc_new w _
 have Q := Lib.hid ((hq.below b1).up b1.size)
 have HL := Lib.hid hl
 have RR := Lib.hid (fun (W : World) (hb : Below w1.heap.size w1 W) => refRow_any A n c wrap l W hl ((Q.out.below hb).up hb.size) (by omega))
 obtain ⟨M, hM⟩ : ∃ M, mayL l = M := ⟨_, rfl⟩
 have HM := Lib.hid hM
 rw [hM] at RR
 have LN := Lib.hid hln
 have HG := Lib.hid hg0
 have B1 := Lib.hid b1
 have X1 := Lib.hid x1
 have HW := Lib.hid hw1
 have I0 := Lib.hid (Below.refl w1.heap.size w1)
 have RF := Lib.hid (show M = false → cellsR (wrap, l) = [] from fun h => by unfold cellsR; rw [show mayL (wrap, l).2 = M from hM, h]; rfl)
 have RT := Lib.hid (show M = true → cellsR (wrap, l) = l.filter signC from fun h => by unfold cellsR; rw [show mayL (wrap, l).2 = M from hM, h]; rfl)
 have c0 : w1.cell? ⟨g0, 0, none⟩ = some (.slice A n c) := cell_of_row _ _ 0 _ _ (0, 0) x1
 have c1 : w1.cell? ⟨g0, 1, none⟩ = some (.bool wrap) := cell_of_row _ _ 1 _ _ (0, 0) x1
 clear hq hl b1 x1 hM hln hw1
 go_enter Tryz.func43, Tryz.ntmps43
 go_upto_region 1 with fail
 rw [HW.out]
 clear hg0
 go_wp2_with fail
 go_loopw [3, 4] (fun v i wr => ∃ (k p d : Nat) (A1 : Option Addr) (ys : List Cel), v = .slice A1 p d ∧ i = .int .i64 (k : Int) ∧ k ≤ n ∧ p ≤ k ∧ Hid (Below w1.heap.size w1 wr) ∧ Hid (HasC wr w1.heap.size (.slice A1 p d) ys ∧ ys.length = p ∧ ys = (l.take k).filter signC) ∧ Hid (M = false → k = 0)) (fun _ i _ => n - (intOf i).toNat)
 case atStart => exact ⟨0, 0, 0, none, [], rfl, rfl, Nat.zero_le _, Nat.le_refl _, I0, Lib.hid ⟨World.ownsRow_nil _ _ _ _, rfl, rfl⟩, Lib.hid fun _ => rfl⟩
 case round =>
  obtain ⟨k, p, d, A1, ys, rfl, rfl, hk, hpk, I, O, Z⟩ := hrel
  clear I0
  have x2 := (I.out.block g0 (Array.getElem?_eq_some_iff.1 X1.out).1).trans X1.out
  have d0 : wr.cell? ⟨g0, 0, none⟩ = some (.slice A n c) := cell_of_row _ _ 0 _ _ (0, 0) x2
  have d1 : wr.cell? ⟨g0, 1, none⟩ = some (.bool wrap) := cell_of_row _ _ 1 _ _ (0, 0) x2
  clear x2 c0 c1
  by_cases hlt : k < n
  ·obtain ⟨b, off, rfl, hbb, ⟨r, m, a⟩, hcc, q0, q1, q2⟩ := (Q.out.below I.out).three hlt
   have hki : (k : Int) < (n : Int) := by omega
   have HCC := Lib.hid hcc
   have HBB := Lib.hid hbb
   clear hcc hbb
   go_wp2_with fail
   refine (RR.out _ I.out).mono ?_
   rintro e w2 ⟨rfl, b2⟩
   have I2 := Lib.hid (I.out.trans (b2.mono I.out.size))
   have O2 := Lib.hid (show HasC w2 w1.heap.size (.slice A1 p d) ys from own_laid O.out.1 b2)
   have x3 := (I2.out.block g0 (Array.getElem?_eq_some_iff.1 X1.out).1).trans X1.out
   have e0 : w2.cell? ⟨g0, 0, none⟩ = some (.slice (some ⟨b, off, none⟩) n c) := cell_of_row _ _ 0 _ _ (0, 0) x3
   have e1 : w2.cell? ⟨g0, 1, none⟩ = some (.bool wrap) := cell_of_row _ _ 1 _ _ (0, 0) x3
   obtain ⟨s0, s1, s2⟩ := (Q.out.below I2.out).cells HCC.out
   dsimp only at s0 s1 s2
   clear x3 d0 d1 q0 q1 q2 b2
   cases M with
   | false =>
    have h0 := Z.out rfl
    subst h0
    obtain rfl : p = 0 := by omega
    have OF := Lib.hid (show HasC w2 w1.heap.size (.slice A1 0 d) (cellsR (wrap, l)) from by
     have h := O2.out
     rw [show ys = [] from List.length_eq_zero_iff.1 O.out.2.1] at h
     rw [RF.out rfl]
     exact h)
    go_wp2
    go_ret
    exact ⟨_, rfl, own_down OF.out B1.out.size, B1.out.trans (I2.out.mono B1.out.size)⟩
   | true =>
    have hmay := mayL_cell HM.out _ (List.mem_of_getElem? HCC.out)
    have hm3 := mayB_wide hmay
    have hn300 : n ≤ 300 := by
     have h := HM.out
     unfold mayL at h
     simp only [Bool.and_eq_true, decide_eq_true_eq] at h
     have := LN.out
     omega
    have FN := Lib.hid (filter_next HCC.out)
    obtain ⟨w3, hw3⟩ : ∃ w3, w2.alloc (.cells #[.int .i32 r, .int .i64 m, .int .i64 a] 52) = w3 := ⟨_, rfl⟩
    have HW3 := Lib.hid hw3
    have b3 : Laid w2 w3 := by rw [← hw3]; exact (Below.refl _ _).alloc (Nat.le_refl _) _
    have x4 : w3.heap[w2.heap.size]? = some (.cells #[.int .i32 r, .int .i64 m, .int .i64 a] 52 (0, 0)) := by rw [← hw3]; exact heap_alloc_new w2 _
    have z3 : w3.heap.size = w2.heap.size + 1 := by rw [← hw3]; simp
    have I3 := Lib.hid (I2.out.trans (b3.mono I2.out.size))
    have O3 := Lib.hid (show HasC w3 w1.heap.size (.slice A1 p d) ys from own_laid O2.out b3)
    obtain ⟨gc, hgc⟩ : ∃ gc, w2.heap.size = gc := ⟨_, rfl⟩
    rw [hgc] at x4
    have X4 := Lib.hid x4
    have HGC := Lib.hid hgc
    clear hw3 hmay b3 x4 z3
    go_upto_region 6 with fail
    rw [HW3.out]
    clear hgc e0 e1 s0 s1 s2
    obtain ⟨D, hD⟩ : ∃ D, (r == 0 && m == 1 && a == 0) = D := ⟨_, rfl⟩
    have NE := fun w => neq_pad r m a w
    rw [hD] at NE
    obtain ⟨J, hJ, F, h0, hB, hN'⟩ := Cls.below w3
    have H0 := Lib.hid h0
    have HBn := Lib.hid hB
    have PDN := Lib.hid (show ∀ n, Calls Tryz.prog 29 #[] (F n) fun e w' => e = .returned (cellV 0 1 0) ∧ ∃ m, w' = F m from fun n => (refPad_walk (F n)).mono fun e w' ⟨he, hb⟩ => ⟨he, hN' n w' hb⟩)
    have XF := Lib.hid (show ∀ n, (F n).heap[gc]? = some (.cells #[.int .i32 r, .int .i64 m, .int .i64 a] 52 (0, 0)) from fun n => ((hB n).block gc (Array.getElem?_eq_some_iff.1 X4.out).1).trans X4.out)
    have k0 : ∀ n, (F n).cell? ⟨gc, 0, none⟩ = some (.int .i32 r) := fun n => cell_of_row _ _ 0 _ _ (0, 0) (XF.out n)
    have k1 : ∀ n, (F n).cell? ⟨gc, 1, none⟩ = some (.int .i64 m) := fun n => cell_of_row _ _ 1 _ _ (0, 0) (XF.out n)
    have k2 : ∀ n, (F n).cell? ⟨gc, 2, none⟩ = some (.int .i64 a) := fun n => cell_of_row _ _ 2 _ _ (0, 0) (XF.out n)
    have hkb : k < 1000000 := by omega
    have hinc : IntKind.i64.wrap ((k : Int) + 1) = (k : Int) + 1 := IntWalk.i64_in _ (by omega)
    have HD := Lib.hid hD
    clear h0 hB hN' hD
    by_cases hm0 : m = 0
    ·have hgt : ¬ (0 : Int) < m := by omega
     have hgd : decide ((0 : Int) < m) = false := by simp [hgt]
     have NS := Lib.hid (show (l.take (k + 1)).filter signC = (l.take k).filter signC from by
      rw [FN.out, show signC (r, m, a) = false by subst hm0; simp [signC]]
      simp)
     clear hm3
     refine Cls.region F H0.out (by kernel_rfl) (by kernel_rfl) ?_
     repeat (go_big_quiet_step ((go_at_call 29; exact PDN.out _)))
     refine wpQuiet_nil ?_
     intro _ hw'
     obtain ⟨nq, hw''⟩ := hw'
     subst hw''
     have IQ := Lib.hid (I3.out.trans ((HBn.out nq).mono I3.out.size))
     have OQ := Lib.hid (show HasC (F nq) w1.heap.size (.slice A1 p d) ys from own_laid O3.out (HBn.out nq))
     clear k0 k1 k2 NE hm0
     go_wp2
     go_roundw
     case rel => exact ⟨k + 1, p, d, A1, ys, by trivial, by go_num, by omega, by omega, IQ, Lib.hid ⟨OQ.out, O.out.2.1, O.out.2.2.trans NS.out.symm⟩, Lib.hid (fun h => by cases h)⟩
     case measure => simp [intOf]; omega
    ·have hgt : (0 : Int) < m := by omega
     have hgd : decide ((0 : Int) < m) = true := by simp [hgt]
     have hmz : (m == 0) = false := by simp [hm0]
     cases D with
     | true =>
      have NS := Lib.hid (show (l.take (k + 1)).filter signC = (l.take k).filter signC from by
       rw [FN.out, show signC (r, m, a) = false by unfold signC padC isB; simp only; rw [HD.out]; simp]
       simp)
      clear hm3
      refine Cls.region F H0.out (by kernel_rfl) (by kernel_rfl) ?_
      repeat (go_big_quiet_step ((go_at_call 29; exact PDN.out _)))
      refine wpQuiet_nil ?_
      intro _ hw'
      obtain ⟨nq, hw''⟩ := hw'
      subst hw''
      have IQ := Lib.hid (I3.out.trans ((HBn.out nq).mono I3.out.size))
      have OQ := Lib.hid (show HasC (F nq) w1.heap.size (.slice A1 p d) ys from own_laid O3.out (HBn.out nq))
      clear k0 k1 k2 NE hm0
      go_wp2
      go_roundw
      case rel => exact ⟨k + 1, p, d, A1, ys, by trivial, by go_num, by omega, by omega, IQ, Lib.hid ⟨OQ.out, O.out.2.1, O.out.2.2.trans NS.out.symm⟩, Lib.hid (fun h => by cases h)⟩
      case measure => simp [intOf]; omega
     | false =>
      have NS := Lib.hid (show (l.take (k + 1)).filter signC = (l.take k).filter signC ++ [(r, m, a)] from by
       rw [FN.out, show signC (r, m, a) = true by unfold signC padC isB; simp only; rw [HD.out, hmz]; rfl]
       simp)
      clear hm3
      refine Cls.region F H0.out (by kernel_rfl) (by kernel_rfl) ?_
      repeat (go_big_quiet_step ((go_at_call 29; exact PDN.out _)))
      refine wpQuiet_nil ?_
      intro _ hw'
      obtain ⟨nq, hw''⟩ := hw'
      subst hw''
      have IQ := Lib.hid (I3.out.trans ((HBn.out nq).mono I3.out.size))
      have OQ := Lib.hid (show (F nq).ownsRow w1.heap.size 52 3 (.slice A1 p d) p (flat ys) from by
       have h : (F nq).ownsRow w1.heap.size 52 3 (.slice A1 p d) ys.length (flat ys) := own_laid O3.out (HBn.out nq)
       rwa [O.out.2.1] at h)
      have j0 := k0 nq
      have j1 := k1 nq
      have j2 := k2 nq
      have hBz : w1.heap.size ≤ ((F nq).alloc (.cells #[.int .i32 r, .int .i64 m, .int .i64 a] 52)).heap.size := by
       have := IQ.out.size
       have := B1.out.size
       simp
       omega
      have HBZ := Lib.hid hBz
      have F1 := Lib.hid (show p + 1 ≤ maxLen ∧ (p + 1) * 24 ≤ 140737488355328 from by unfold maxLen; omega)
      clear k0 k1 k2 NE hm0 hBz
      go_wp2_with (at_builtin; refine wpList_append_own _ rfl _ _ 41 rfl w1.heap.size 52 i0 (.agg #[.int .i32 0, .int .i64 0, .int .i64 0]) 3 24 Tryz.underlying41 hi0 hz0 hz1 hz2 rfl (by decide) _ _ _ rfl (OQ.out.alloc _) ⟨(F nq).heap.size, 0, none⟩ 1 1 [.int .i32 r, .int .i64 m, .int .i64 a] rfl rfl (cell_three _ _ _ _ _) (by simp [Value.oneCell']) F1.out.1 F1.out.2 HBZ.out ?_; intro v4 w4 ho4 hg4 _; (obtain ⟨A4, d4, rfl, _⟩ := own_cap ho4); (have O4 := Lib.hid ho4); (have G4 := Lib.hid hg4); clear ho4 hg4)
      go_roundw
      case rel =>
       have ba : Laid (F nq) ((F nq).alloc (.cells #[.int .i32 r, .int .i64 m, .int .i64 a] 52)) := (Below.refl _ _).alloc (Nat.le_refl _) _
       refine ⟨k + 1, p + 1, d4, A4, ys ++ [(r, m, a)], by trivial, by go_num, by omega, by omega, Lib.hid ?_, Lib.hid ⟨?_, by rw [List.length_append, O.out.2.1]; rfl, by rw [NS.out, O.out.2.2]⟩, Lib.hid (fun h => by cases h)⟩
       ·exact (IQ.out.trans (ba.mono IQ.out.size)).grown G4.out HBZ.out (fun j e => (OQ.out.lt j e).1)
       ·show World.ownsRow _ _ _ _ _ (ys ++ [(r, m, a)]).length (flat (ys ++ [(r, m, a)]))
        rw [List.length_append, O.out.2.1, flat_append]
        exact O4.out
      case measure => simp [intOf]; omega
  ·obtain rfl : k = n := by omega
   have hnl : ¬ (k : Int) < (k : Int) := by omega
   have YA := Lib.hid (show HasC wr w.heap.size (.slice A1 p d) (cellsR (wrap, l)) from by
    have e : cellsR (wrap, l) = ys := by
     cases hM : M with
     | false =>
      rw [RF.out hM]
      have h0 := Z.out hM
      have h1 := O.out.2.1
      exact (List.length_eq_zero_iff.1 (by omega)).symm
     | true =>
      rw [RT.out hM, O.out.2.2, List.take_of_length_le (by rw [LN.out]; exact Nat.le_refl _)]
    rw [e]
    exact own_down O.out.1 B1.out.size)
   go_wp2
   go_ret
   exact ⟨_, rfl, YA.out, B1.out.trans (I.out.mono B1.out.size)⟩
end Ln
end Go.Proofs.YtjhmndmnhkbigaaGreatDoor
namespace Go.Proofs.YtjhmndmnhkbigaaGreatDoor
open Go.ChangeShapes Go.WideShapes Go.ChangeAt Go.RowKit
namespace Ln
open Rw
theorem infoInt : (Tryz.prog.info? 3).map (fun i => (i.zero, i.size, i.bytes)) = some (some (.int .i64 0), 1, 8) := by kernel_rfl
def offR (l : List LR) : Nat := l.foldl (fun at' r => if goes r then at' + (cellsR r).length else 0) 0
theorem offR_snoc (l : List LR) (r : LR) : offR (l ++ [r]) = if goes r then offR l + (cellsR r).length else 0 := by unfold offR; rw [List.foldl_append]; rfl
theorem cellsR_len (r : LR) : (cellsR r).length ≤ 300 := by
 unfold cellsR
 split
 ·rename_i h
  unfold mayL at h
  simp only [Bool.and_eq_true, decide_eq_true_eq] at h
  exact Nat.le_trans (List.length_filter_le _ _) h.1
 ·exact Nat.zero_le _
theorem offR_le (l : List LR) : offR l ≤ 300 * l.length := by
 refine snoc_ind (P := fun l => offR l ≤ 300 * l.length) (Nat.zero_le _) (fun l x ih => ?_) l
 rw [offR_snoc, List.length_append, List.length_singleton]
 have := cellsR_len x
 split <;> omega
theorem ends_le (l : List LR) : ends l ≤ l.length := List.length_filter_le _ _
def linesV (L : List LR) (k : Nat) : List Value := (List.range k).map fun i => .int .i64 ((ends (L.take i) : Nat) : Int)
def offsV (L : List LR) (k : Nat) : List Value := (List.range k).map fun i => .int .i64 ((offR (L.take i) : Nat) : Int)
theorem linesV_next (L : List LR) (k : Nat) : linesV L (k + 1) = linesV L k ++ [.int .i64 ((ends (L.take k) : Nat) : Int)] := by unfold linesV; rw [List.range_succ, List.map_append]; rfl
theorem offsV_next (L : List LR) (k : Nat) : offsV L (k + 1) = offsV L k ++ [.int .i64 ((offR (L.take k) : Nat) : Int)] := by unfold offsV; rw [List.range_succ, List.map_append]; rfl
theorem linesV_get {L : List LR} {k i : Nat} (h : i < k) : (linesV L k)[i]? = some (.int .i64 ((ends (L.take i) : Nat) : Int)) := by unfold linesV; rw [List.getElem?_map, List.getElem?_range h]; rfl
theorem sq_single (w : World) (e : TypeId) (x : Value) : Sq (w.alloc (.cells #[x] e)) (w.heap.size + 1) 1 1 (some ⟨w.heap.size, 0, none⟩) [x] :=
 ⟨rfl, fun _ => ⟨w.heap.size, 0, rfl, Nat.lt_succ_self _, fun j u hu => by
  have h := cell_single w e x j u hu
  rw [add_at] at h
  exact h⟩⟩
def OfPost (L : List LR) (n : Nat) (w : World) (e : Ending) (w' : World) : Prop :=
 ∃ v1 v2, e = .returned (.tuple #[v1, v2]) ∧ w'.ownsRow w.heap.size 3 1 v1 n (linesV L n) ∧ w'.ownsRow w.heap.size 3 1 v2 n (offsV L n) ∧ Below w.heap.size w w'
set_option maxRecDepth 100000 in
set_option maxHeartbeats 6400000 in
theorem refOf_walk (A : Option Addr) (n c : Nat) (rs : List RowIn) (w : World) (hr : Rws w w.heap.size A n rs) (hn : n ≤ 1000000) :
  Calls Tryz.prog 42 #[.slice A n c] w fun e w' => OfPost (rs.map lr) n w e w' := by
 obtain ⟨i0, hi0, hz0, hz1, hz2⟩ := info_parts infoInt
 have R := Lib.hid hr
 have I0 := Lib.hid (Below.refl w.heap.size w)
 obtain ⟨L, hL⟩ : ∃ L, rs.map lr = L := ⟨_, rfl⟩
 have HL := Lib.hid hL
 rw [hL]
 clear hr hL
 go_enter Tryz.func42, Tryz.ntmps42
 go_wp2_with fail
 go_loopw [4, 5, 6, 7, 8] (fun v1 v2 nn at' i wr => ∃ (k d1 d2 E O : Nat) (A1 A2 : Option Addr), v1 = .slice A1 k d1 ∧ v2 = .slice A2 k d2 ∧ nn = .int .i64 (E : Int) ∧ at' = .int .i64 (O : Int) ∧ i = .int .i64 (k : Int) ∧ k ≤ n ∧ Hid (E = ends (L.take k) ∧ O = offR (L.take k)) ∧ Hid (Below w.heap.size w wr) ∧ Hid (wr.ownsRow w.heap.size 3 1 (.slice A1 k d1) k (linesV L k) ∧ wr.ownsRow w.heap.size 3 1 (.slice A2 k d2) k (offsV L k) ∧ ∀ j, (Value.slice A1 k d1).ownBlock = some j → (Value.slice A2 k d2).ownBlock ≠ some j)) (fun _ _ _ _ i _ => n - (intOf i).toNat)
 case atStart => exact ⟨0, 0, 0, 0, 0, none, none, rfl, rfl, rfl, rfl, rfl, Nat.zero_le _, Lib.hid ⟨rfl, rfl⟩, I0, Lib.hid ⟨World.ownsRow_nil _ _ _ _, World.ownsRow_nil _ _ _ _, fun j e => by cases e⟩⟩
 case round =>
  obtain ⟨k, d1, d2, E, O, A1, A2, rfl, rfl, rfl, rfl, rfl, hk, EO, I, OW⟩ := hrel
  clear I0
  by_cases hlt : k < n
  ·obtain ⟨r, hr⟩ : ∃ r, rs[k]? = some r := ⟨_, List.getElem?_eq_getElem (by rw [R.out.len]; exact hlt)⟩
   have RO := Lib.hid (R.out.each r (List.mem_of_getElem? hr))
   obtain ⟨b, off, rfl, hb, q0, q1⟩ := rows_at R.out.sq hr hlt
   have hLk : L[k]? = some (lr r) := by rw [← HL.out, List.getElem?_map, hr]; rfl
   have NE := Lib.hid (show ends (L.take (k + 1)) = E + if goes (lr r) then 0 else 1 from by rw [take_one hLk, ends_snoc, EO.out.1])
   have NO := Lib.hid (show offR (L.take (k + 1)) = if goes (lr r) then O + (cellsR (lr r)).length else 0 from by rw [take_one hLk, offR_snoc, EO.out.2])
   have CB := Lib.hid (show ∀ W, Below w.heap.size w W → W.cell? ⟨b, off + k * 2, none⟩ = some (.slice r.A r.n r.c) ∧ W.cell? ⟨b, off + k * 2 + 1, none⟩ = some (.bool r.wrap) from fun W hW => ⟨(hW.cell (p := ⟨b, off + k * 2, none⟩) hb).trans q0, (hW.cell (p := ⟨b, off + k * 2 + 1, none⟩) hb).trans q1⟩)
   have hki : (k : Int) < (n : Int) := by omega
   have hE : E ≤ k := by have h := ends_le (L.take k); have := EO.out.1; rw [List.length_take] at h; omega
   have hO : O ≤ 300 * k := by have h := offR_le (L.take k); have := EO.out.2; rw [List.length_take] at h; omega
   have hF : k + 1 ≤ maxLen ∧ (k + 1) * 8 ≤ 140737488355328 := by unfold maxLen; omega
   have F1 := Lib.hid hF
   have BZ := Lib.hid I.out.size
   obtain ⟨sL, hsL⟩ : ∃ sL, (cellsR (lr r)).length = sL := ⟨_, rfl⟩
   have hs300 : sL ≤ 300 := by rw [← hsL]; exact cellsR_len _
   have SL := Lib.hid hsL
   clear hr q0 q1 hLk hsL hF
   go_upto_region 7 with (first
    | (at_builtin; refine wpl_app rfl _ _ 71 rfl w.heap.size 3 i0 (.int .i64 0) 1 8 Tryz.underlying71 hi0 hz0 hz1 hz2 rfl (by decide) (.slice A1 k d1) k (linesV L k) rfl (OW.out.1.alloc _) (some ⟨wr.heap.size, 0, none⟩) 1 1 [.int .i64 (E : Int)] rfl (wr.heap.size + 1) (sq_single _ _ _) (by simp [Value.oneCell']) F1.out.1 F1.out.2 (by have := BZ.out; simp; omega) ?_; intro v4 w4 ho4 hg4 hb4; (obtain ⟨A4, d4, rfl, _⟩ := own_cap ho4); (have O4 := Lib.hid ho4); (have G4 := Lib.hid hg4); (have B4 := Lib.hid hb4); (have P4 := Lib.hid (own_keep (OW.out.2.1.alloc (.cells #[.int .i64 (E : Int)] 3)) (fun j hj => hg4.block j (by have := (OW.out.2.1.lt j hj).2; simp; omega) (fun e => OW.out.2.2 j e.symm hj)))); (have Z4 := Lib.hid (show w.heap.size ≤ w4.heap.size from Nat.le_trans (by have := BZ.out; simp; omega) hg4.size)); clear ho4 hg4 hb4)
    | (at_builtin; refine wpl_app rfl _ _ 71 rfl w.heap.size 3 i0 (.int .i64 0) 1 8 Tryz.underlying71 hi0 hz0 hz1 hz2 rfl (by decide) (.slice A2 k d2) k (offsV L k) rfl (P4.out.alloc _) (some ⟨w4.heap.size, 0, none⟩) 1 1 [.int .i64 (O : Int)] rfl (w4.heap.size + 1) (sq_single _ _ _) (by simp [Value.oneCell']) F1.out.1 F1.out.2 (by have := Z4.out; simp; omega) ?_; intro v5 w5 ho5 hg5 hb5; (obtain ⟨A5, d5, rfl, _⟩ := own_cap ho5); (have O5 := Lib.hid ho5); (have G5 := Lib.hid hg5); (have B5 := Lib.hid hb5); clear ho5 hg5 hb5))
   have L4 : Laid w4 (w4.alloc (.cells #[.int .i64 (O : Int)] 3)) := (Below.refl _ _).alloc (Nat.le_refl _) _
   have b4 : Below w.heap.size w w4 := (I.out.alloc I.out.size _).grown G4.out (by have := BZ.out; simp; omega) (fun j e => (OW.out.1.lt j e).1)
   have I5 := Lib.hid (show Below w.heap.size w w5 from (b4.alloc b4.size _).grown G5.out (by have := Z4.out; simp; omega) (fun j e => (P4.out.lt j e).1))
   have X5 := Lib.hid (show w5.ownsRow w.heap.size 3 1 (.slice A4 (k + 1) d4) (k + 1) (linesV L (k + 1)) ∧ w5.ownsRow w.heap.size 3 1 (.slice A5 (k + 1) d5) (k + 1) (offsV L (k + 1)) ∧ ∀ j, (Value.slice A4 (k + 1) d4).ownBlock = some j → (Value.slice A5 (k + 1) d5).ownBlock ≠ some j from by
    rw [linesV_next, offsV_next, ← EO.out.1, ← EO.out.2]
    have apart4 : ∀ j, (Value.slice A4 (k + 1) d4).ownBlock = some j → (Value.slice A2 k d2).ownBlock ≠ some j := fun j hj e => by
     rcases B4.out with h | h
     ·exact OW.out.2.2 j (h.symm.trans hj) e
     ·rw [h] at hj
      injection hj with hj
      have := (OW.out.2.1.lt j e).2
      simp at hj
      omega
    refine ⟨own_keep (O4.out.alloc _) (fun j hj => G5.out.block j (by have := (O4.out.lt j hj).2; simp; omega) (fun e => apart4 j hj e.symm)), O5.out, fun j hj e => ?_⟩
    rcases B5.out with h | h
    ·exact apart4 j hj (h.symm.trans e)
    ·rw [h] at e
     injection e with e
     have := (O4.out.lt j hj).2
     simp at e
     omega)
   obtain ⟨q0, q1⟩ := CB.out w5 I5.out
   clear L4 b4 O4 O5 G4 G5 B4 B5 P4 Z4 OW
   have SW := Lib.hid (refSigns_walk r.A r.n r.c r.wrap r.l w5 RO.out.signs ((RO.out.sq.below I5.out).up I5.out.size) (by have h1 := RO.out.le; have h2 := RO.out.cap; unfold maxLen at h2; omega))
   go_wp2_with fail
   refine SW.out.mono ?_
   rintro e w6 ⟨v6, rfl, h6, b6⟩
   obtain ⟨A6, d6, rfl, _⟩ := own_cap (show w6.ownsRow w5.heap.size 52 3 v6 (cellsR (lr r)).length (flat (cellsR (lr r))) from h6)
   have I6 := Lib.hid (I5.out.trans (b6.mono I5.out.size))
   have X6 := Lib.hid (show w6.ownsRow w.heap.size 3 1 (.slice A4 (k + 1) d4) (k + 1) (linesV L (k + 1)) ∧ w6.ownsRow w.heap.size 3 1 (.slice A5 (k + 1) d5) (k + 1) (offsV L (k + 1)) ∧ ∀ j, (Value.slice A4 (k + 1) d4).ownBlock = some j → (Value.slice A5 (k + 1) d5).ownBlock ≠ some j from ⟨own_laid X5.out.1 b6, own_laid X5.out.2.1 b6, X5.out.2.2⟩)
   obtain ⟨q0, q1⟩ := CB.out w6 I6.out
   have SL' := SL.out
   rw [SL'] at NO ⊢
   have RW := Lib.hid (refRow_any r.A r.n r.c r.wrap r.l w6 RO.out.signs ((RO.out.sq.below I6.out).up I6.out.size) (by have h1 := RO.out.le; have h2 := RO.out.cap; unfold maxLen at h2; omega))
   have GO := Lib.hid (show goes (lr r) = (r.wrap && mayL r.l) from rfl)
   obtain ⟨ma, hma⟩ : ∃ ma, mayL r.l = ma := ⟨_, rfl⟩
   rw [hma] at RW GO
   obtain ⟨rA, rn, rc, rb, rl⟩ := r
   dsimp only at q0 q1 RW GO
   clear b6 h6 SW hma SL' X5 I5
   cases rb with
   | false =>
    have N1 := Lib.hid (show E + 1 = ends (L.take (k + 1)) ∧ 0 = offR (L.take (k + 1)) from by rw [NE.out, NO.out, GO.out]; simp)
    go_wp2_with fail
    go_roundw
    case rel => exact ⟨k + 1, d4, d5, E + 1, 0, A4, A5, rfl, rfl, by go_num, rfl, by go_num, by omega, N1, I6, X6⟩
    case measure => simp [intOf]; omega
   | true =>
    go_wp2_with fail
    refine RW.out.mono ?_
    rintro e w7 ⟨rfl, b7⟩
    have I7 := Lib.hid (I6.out.trans (b7.mono I6.out.size))
    have X7 := Lib.hid (show w7.ownsRow w.heap.size 3 1 (.slice A4 (k + 1) d4) (k + 1) (linesV L (k + 1)) ∧ w7.ownsRow w.heap.size 3 1 (.slice A5 (k + 1) d5) (k + 1) (offsV L (k + 1)) ∧ ∀ j, (Value.slice A4 (k + 1) d4).ownBlock = some j → (Value.slice A5 (k + 1) d5).ownBlock ≠ some j from ⟨own_laid X6.out.1 b7, own_laid X6.out.2.1 b7, X6.out.2.2⟩)
    clear b7 RW X6 I6 q0 q1
    cases ma with
    | false =>
     have N1 := Lib.hid (show E + 1 = ends (L.take (k + 1)) ∧ 0 = offR (L.take (k + 1)) from by rw [NE.out, NO.out, GO.out]; simp)
     go_wp2_with fail
     go_roundw
     case rel => exact ⟨k + 1, d4, d5, E + 1, 0, A4, A5, rfl, rfl, by go_num, rfl, by go_num, by omega, N1, I7, X7⟩
     case measure => simp [intOf]; omega
    | true =>
     have N1 := Lib.hid (show E = ends (L.take (k + 1)) ∧ O + sL = offR (L.take (k + 1)) from by rw [NE.out, NO.out, GO.out]; simp)
     go_wp2_with fail
     go_roundw
     case rel => exact ⟨k + 1, d4, d5, E, O + sL, A4, A5, rfl, rfl, by first | rfl | trivial, by go_num, by go_num, by omega, N1, I7, X7⟩
     case measure => simp [intOf]; omega
  ·obtain rfl : k = n := by omega
   have hnl : ¬ (k : Int) < (k : Int) := by omega
   go_wp2
   exact bodyPost_ret (v := .tuple #[.slice A1 k d1, .slice A2 k d2]) (results_tmp2 (t := 2) (u := 3) rfl _ _ _) rfl ⟨_, _, rfl, OW.out.1, OW.out.2.1, I.out⟩
end Ln
end Go.Proofs.YtjhmndmnhkbigaaGreatDoor
namespace Go.Proofs.YtjhmndmnhkbigaaGreatDoor
open Go.ChangeShapes Go.WideShapes Go.ChangeAt Go.RowKit
namespace Ln
open Rw
theorem groups_len {l : List LR} {x : List Cel} (h : x ∈ groups l) : x.length ≤ 300 * l.length := by
 unfold groups at h
 obtain ⟨p, hp, rfl⟩ := List.mem_map.1 h
 have hle := part_le hp
 have key : ∀ q : List LR, (q.flatMap cellsR).length ≤ 300 * q.length := by
  intro q
  induction q with
  | nil => exact Nat.zero_le _
  | cons r q ih =>
   have := cellsR_len r
   rw [List.flatMap_cons, List.length_append, List.length_cons]
   omega
 have := key p
 omega
theorem modify_set {α : Type} {L : List α} {q : Nat} {x : α} (f : α → α) (h : L[q]? = some x) : L.modify q f = L.set q (f x) := by
 refine List.ext_getElem? fun k => ?_
 rw [List.getElem?_modify, List.getElem?_set]
 by_cases hq : q = k
 ·subst hq
  have h1 := (List.getElem?_eq_some_iff.1 h).1
  rw [if_pos rfl, if_pos h1, h]
  simp
 ·simp [hq]
def Apart (vs : List Value) : Prop := ∀ (i j : Nat) (x y : Value), i ≠ j → vs[i]? = some x → vs[j]? = some y → ∀ b, x.ownBlock = some b → y.ownBlock ≠ some b
theorem Apart.snoc_nil {vs : List Value} (h : Apart vs) : Apart (vs ++ [.slice none 0 0]) := by
 intro i j x y hij hx hy b hb e
 by_cases hi : i < vs.length
 ·rw [List.getElem?_append_left hi] at hx
  by_cases hj : j < vs.length
  ·rw [List.getElem?_append_left hj] at hy
   exact h i j x y hij hx hy b hb e
  ·rw [List.getElem?_append_right (by omega)] at hy
   have : y = .slice none 0 0 := by
    have hm := List.mem_of_getElem? hy
    simpa using hm
   subst this
   cases e
 ·rw [List.getElem?_append_right (by omega)] at hx
  have : x = .slice none 0 0 := by
   have hm := List.mem_of_getElem? hx
   simpa using hm
  subst this
  cases hb
theorem Lns.replace {W : World} {B go p d i : Nat} {vs : List Value} {ls : List (List Cel)} {v : Value} {l : List Cel} (h : Lns W B (.slice (some ⟨go, 0, none⟩) p d) vs ls) (hx : HasC W B v l) : Lns (W.setCell ⟨go, i, none⟩ v) B (.slice (some ⟨go, 0, none⟩) p d) (vs.set i v) (ls.set i l) := by
 have hlen := h.len
 obtain ⟨_, _, ep, _⟩ := own_cap h.own
 injection ep with _ ep _
 subst ep
 refine ⟨by rw [List.length_set]; exact (h.own.stored i v).1, fun j x m hx' hm => ?_⟩
 have other : ∀ {y : Value} {m : List Cel}, HasC W B y m → HasC (W.setCell ⟨go, i, none⟩ v) B y m := fun {y m} hy => by
  have hh : W.ownsRow B 52 3 y m.length (flat m) := hy
  exact own_keep hh fun k hk => Below.heap_setCell _ _ _ _ (fun e => own_ne hh h.own (by decide) k hk (by rw [e]; rfl))
 rw [List.getElem?_set] at hx' hm
 by_cases hij : i = j
 ·rw [if_pos hij] at hx' hm
  split at hx'
  ·split at hm
   ·cases hx'; cases hm; exact other hx
   ·cases hm
  ·cases hx'
 ·rw [if_neg hij] at hx' hm
  exact other (h.each j x m hx' hm)
theorem Lns.grow {W w4 : World} {B go p d E m c4 : Nat} {vs : List Value} {ls : List (List Cel)} {x : Value} {l s : List Cel} {A4 : Option Addr} (h : Lns W B (.slice (some ⟨go, 0, none⟩) p d) vs ls) (ap : Apart vs) (hx : vs[E]? = some x) (_hl : ls[E]? = some l) (hm : m = (l ++ s).length)
  (ho : w4.ownsRow B 52 3 (.slice A4 m c4) m (flat (l ++ s))) (hg : W.grownBy w4 x.ownBlock) (hat : (Value.slice A4 m c4).ownBlock = x.ownBlock ∨ (Value.slice A4 m c4).ownBlock = some W.heap.size) :
  Lns (w4.setCell ⟨go, E, none⟩ (.slice A4 m c4)) B (.slice (some ⟨go, 0, none⟩) p d) (vs.set E (.slice A4 m c4)) (ls.set E (l ++ s)) ∧ Apart (vs.set E (.slice A4 m c4)) := by
 subst hm
 have hxE : HasC W B x l := h.each E x l hx _hl
 have hxo : W.ownsRow B 52 3 x l.length (flat l) := hxE
 have hlen := h.len
 obtain ⟨_, _, ep, _⟩ := own_cap h.own
 injection ep with _ ep _
 subst ep
 have hgo : go < W.heap.size := (h.own.lt go rfl).2
 have own4 : w4.ownsRow B 41 1 (.slice (some ⟨go, 0, none⟩) ls.length d) ls.length vs := own_keep h.own fun j hj => hg.block j (h.own.lt j hj).2 (fun e => own_ne h.own hxo (by decide) j hj e.symm)
 have hgb : ∀ j, (Value.slice A4 (l ++ s).length c4).ownBlock = some j → j ≠ go := fun j hj e => own_ne ho own4 (by decide) j hj (by rw [e]; rfl)
 have eA : HasC w4 B (.slice A4 (l ++ s).length c4) (l ++ s) := ho
 have key : ∀ (j : Nat) (y : Value) (k : List Cel), j ≠ E → vs[j]? = some y → ls[j]? = some k → HasC w4 B y k := fun j y k hj hy hk => by
  have hh : W.ownsRow B 52 3 y k.length (flat k) := h.each j y k hy hk
  exact own_keep hh fun b hb => hg.block b (hh.lt b hb).2 (fun e => ap j E y x hj hy hx b hb e.symm)
 have other : ∀ {y : Value} {k : List Cel}, HasC w4 B y k → HasC (w4.setCell ⟨go, E, none⟩ (.slice A4 (l ++ s).length c4)) B y k := fun {y k} hy => by
  have hh : w4.ownsRow B 52 3 y k.length (flat k) := hy
  exact own_keep hh fun b hb => Below.heap_setCell _ _ _ _ (fun e => own_ne hh own4 (by decide) b hb (by rw [e]; rfl))
 refine ⟨⟨by rw [List.length_set]; exact (own4.stored E _).1, fun j y k hy hk => ?_⟩, fun i j y z hij hy hz b hb e => ?_⟩
 ·rw [List.getElem?_set] at hy hk
  by_cases hEj : E = j
  ·rw [if_pos hEj] at hy hk
   split at hy
   ·split at hk
    ·cases hy; cases hk; exact other eA
    ·cases hk
   ·cases hy
  ·rw [if_neg hEj] at hy hk
   exact other (key j y k (fun e => hEj e.symm) hy hk)
 ·have lt : ∀ (q : Nat) (u : Value), vs[q]? = some u → ∀ t, u.ownBlock = some t → t < W.heap.size := fun q u hu t ht => by
   obtain ⟨k, hk⟩ : ∃ k, ls[q]? = some k := ⟨_, List.getElem?_eq_getElem (by have := (List.getElem?_eq_some_iff.1 hu).1; omega)⟩
   have hh : W.ownsRow B 52 3 u k.length (flat k) := h.each q u k hu hk
   exact (hh.lt t ht).2
  rw [List.getElem?_set] at hy hz
  by_cases h1 : E = i
  ·rw [if_pos h1] at hy
   by_cases h2 : E = j
   ·omega
   ·rw [if_neg h2] at hz
    split at hy
    ·cases hy
     rcases hat with h0 | h0
     ·exact ap E j x z h2 hx hz b (h0.symm.trans hb) e
     ·rw [h0] at hb
      injection hb with hb
      have := lt j z hz b e
      omega
    ·cases hy
  ·rw [if_neg h1] at hy
   by_cases h2 : E = j
   ·rw [if_pos h2] at hz
    split at hz
    ·cases hz
     rcases hat with h0 | h0
     ·exact ap i E y x (fun e => h1 e.symm) hy hx b hb (h0.symm.trans e)
     ·rw [h0] at e
      injection e with e
      have := lt i y hy b hb
      omega
    ·cases hz
   ·rw [if_neg h2] at hz
    exact ap i j y z hij hy hz b hb e
structure Jn (B : Nat) (G : List (List Cel)) (v : Value) (vs : List Value) (W : World) : Prop where
 lns : Lns W B v vs G
 ap : Apart vs
theorem groups_next_open {L : List LR} {k : Nat} {r : LR} (h : L[k]? = some r) (ho : isOpen (L.take k) = true) : groups (L.take (k + 1)) = (groups (L.take k)).modify (ends (L.take k)) (· ++ cellsR r) := by rw [take_one h]; exact (groups_on ho).1
theorem groups_next_end {L : List LR} {k : Nat} {r : LR} (h : L[k]? = some r) (ho : isOpen (L.take k) = false) : groups (L.take (k + 1)) = (groups (L.take k) ++ [[]]).modify (ends (L.take k)) (· ++ cellsR r) := by
 obtain ⟨h1, h2⟩ := groups_new (r := r) ho
 rw [take_one h, h1, ← h2, modify_last _ _ _ rfl]
 rfl
theorem trim_next {G : List (List Cel)} {i : Nat} {l : List Cel} (h : G[i]? = some l) : ((G.take i).map trimL ++ G.drop i).set i (trimL l) = (G.take (i + 1)).map trimL ++ G.drop (i + 1) := by
 have hl := (List.getElem?_eq_some_iff.1 h).1
 rw [drop_two h, List.set_append_right _ _ (by rw [List.length_map, List.length_take]; omega), take_one h, List.map_append, List.append_assoc]
 rw [List.length_map, List.length_take, Nat.min_eq_left (by omega), Nat.sub_self]
 rfl
theorem trim_get {G : List (List Cel)} {i : Nat} {l : List Cel} (h : G[i]? = some l) : ((G.take i).map trimL ++ G.drop i)[i]? = some l := by
 have hl := (List.getElem?_eq_some_iff.1 h).1
 rw [List.getElem?_append_right (by rw [List.length_map, List.length_take]; omega), List.length_map, List.length_take, Nat.min_eq_left (by omega), Nat.sub_self, List.getElem?_drop]
 exact h
set_option maxRecDepth 100000 in
set_option maxHeartbeats 12800000 in
theorem refJoin_walk (A : Option Addr) (n c : Nat) (rs : List RowIn) (w : World) (hr : Rws w w.heap.size A n rs) (hn : n ≤ 3000) :
  Calls Tryz.prog 17 #[.slice A n c] w fun e w' => LnsPost (joinL (rs.map lr)) w e w' := by
 obtain ⟨i0, hi0, hz0, hz1, hz2⟩ := info_parts infoCell
 obtain ⟨i1, hi1, hy0, hy1, hy2⟩ := info_parts infoSl
 have R := Lib.hid hr
 have OF := Lib.hid (refOf_walk A n c rs w hr (by omega))
 obtain ⟨L, hL⟩ : ∃ L, rs.map lr = L := ⟨_, rfl⟩
 have HL := Lib.hid hL
 rw [hL] at OF ⊢
 clear hr hL
 go_enter Tryz.func17, Tryz.ntmps17
 go_wp2_with fail
 refine OF.out.mono ?_
 rintro e w2 ⟨v1, v2, rfl, o1, o2, b2⟩
 obtain ⟨A4, d4, rfl, _⟩ := own_cap o1
 obtain ⟨A5, d5, rfl, _⟩ := own_cap o2
 have O1 := Lib.hid o1
 have B2 := Lib.hid b2
 have I0 := Lib.hid (Below.refl w2.heap.size w2)
 have R2 := Lib.hid ((R.out.below b2).up b2.size)
 clear o1 o2 b2 OF
 go_wp2_with fail
 go_loopw [3, 6] (fun v i wr => ∃ (k p d : Nat) (A3 : Option Addr) (vs : List Value), v = .slice A3 p d ∧ i = .int .i64 (k : Int) ∧ k ≤ n ∧ Hid (p = (groups (L.take k)).length) ∧ Hid (Below w2.heap.size w2 wr) ∧ Hid (Jn w2.heap.size (groups (L.take k)) (.slice A3 p d) vs wr)) (fun _ i _ => n - (intOf i).toNat)
 case atStart => exact ⟨0, 0, 0, none, [], rfl, rfl, Nat.zero_le _, Lib.hid rfl, I0, Lib.hid ⟨Lns.nothing _ _, fun i j x y _ h => by simp at h⟩⟩
 case round =>
  obtain ⟨k, p, d, A3, vs, rfl, rfl, hk, PG, I, JJ⟩ := hrel
  clear I0
  by_cases hlt : k < n
  ·obtain ⟨r, hr⟩ : ∃ r, rs[k]? = some r := ⟨_, List.getElem?_eq_getElem (by rw [R2.out.len]; exact hlt)⟩
   have RO := Lib.hid (R2.out.each r (List.mem_of_getElem? hr))
   obtain ⟨b0, o0, rfl, hb, q0, q1⟩ := rows_at R2.out.sq hr hlt
   have hLk : L[k]? = some (lr r) := by rw [← HL.out, List.getElem?_map, hr]; rfl
   have LK := Lib.hid hLk
   obtain ⟨g4, cg4, e4, _, hg4b, hg4, hcells⟩ := own_at O1.out (by omega)
   injection e4 with e4 _ e5
   subst e4 e5
   have lq := hcells k _ (linesV_get hlt)
   obtain ⟨E, hE⟩ : ∃ E, ends (L.take k) = E := ⟨_, rfl⟩
   rw [hE] at lq
   have HE := Lib.hid hE
   have CB := Lib.hid (show ∀ W, Below w2.heap.size w2 W → W.cell? ⟨g4, k, none⟩ = some (.int .i64 (E : Int)) ∧ W.cell? ⟨b0, o0 + k * 2, none⟩ = some (.slice r.A r.n r.c) ∧ W.cell? ⟨b0, o0 + k * 2 + 1, none⟩ = some (.bool r.wrap) from fun W hW => ⟨(hW.cell (p := ⟨g4, k, none⟩) hg4).trans lq, (hW.cell (p := ⟨b0, o0 + k * 2, none⟩) hb).trans q0, (hW.cell (p := ⟨b0, o0 + k * 2 + 1, none⟩) hb).trans q1⟩)
   have hki : (k : Int) < (n : Int) := by omega
   have hlq := (CB.out wr I.out).1
   have HB0 := Lib.hid (And.intro hg4 hb)
   clear hr q0 q1 hcells lq hLk hE hg4b hg4 hb
   go_upto_if 25 with fail
   go_cut [3] from 25 to 47 (fun u wx => ∃ (d' : Nat) (A' : Option Addr) (vs' : List Value) (G' : List (List Cel)), u = .slice A' (E + 1) d' ∧ Hid (G'.length = E + 1 ∧ groups (L.take (k + 1)) = G'.modify E (· ++ cellsR (lr r)) ∧ ∀ x ∈ G', x.length ≤ 300 * k) ∧ Hid (Below w2.heap.size w2 wx) ∧ Hid (Jn w2.heap.size G' (.slice A' (E + 1) d') vs' wx))
   case first =>
    have gl : ∀ x ∈ groups (L.take k), x.length ≤ 300 * k := fun x hx => by
     have h := groups_len hx
     rw [List.length_take] at h
     omega
    have GL := Lib.hid gl
    cases ho : isOpen (L.take k) with
    | true =>
     obtain ⟨hgn, hgl⟩ := groups_on (r := lr r) ho
     rw [HE.out] at hgl
     have hp : p = E + 1 := PG.out.trans hgl
     have GN := Lib.hid (show groups (L.take (k + 1)) = (groups (L.take k)).modify E (· ++ cellsR (lr r)) from by rw [groups_next_open LK.out ho, HE.out])
     have HGL := Lib.hid hgl
     subst hp
     have hne : ¬ (E : Int) = ((E + 1 : Nat) : Int) := by omega
     clear hgn hgl ho gl
     go_wp2_with fail
     go_meet
     case rel => exact ⟨d, A3, vs, groups (L.take k), rfl, Lib.hid ⟨HGL.out, GN.out, GL.out⟩, I, JJ⟩
    | false =>
     obtain ⟨hgn, hgl⟩ := groups_new (r := lr r) ho
     rw [HE.out] at hgl
     have hp : p = E := PG.out.trans hgl
     subst hp
     have GN := Lib.hid (show groups (L.take (k + 1)) = (groups (L.take k) ++ [[]]).modify p (· ++ cellsR (lr r)) from by rw [groups_next_end LK.out ho, HE.out])
     have HGL := Lib.hid hgl
     have JO := Lib.hid (show wr.ownsRow w2.heap.size 41 1 (.slice A3 p d) p vs from by have h := JJ.out.lns.own; rwa [hgl] at h)
     have hpk : p ≤ k := by
      have h := ends_le (L.take k)
      rw [HE.out, List.length_take] at h
      omega
     have F1 := Lib.hid (show p + 1 ≤ maxLen ∧ (p + 1) * 24 ≤ 140737488355328 from by unfold maxLen; omega)
     have IZ := Lib.hid I.out.size
     clear hgn hgl ho gl
     go_wp2_with (at_builtin; refine wpl_app rfl _ _ 23 rfl w2.heap.size 41 i1 (.slice none 0 0) 1 24 Tryz.underlying23 hi1 hy0 hy1 hy2 rfl (by decide) (.slice A3 p d) p vs rfl (JO.out.alloc _) (some ⟨wr.heap.size, 0, none⟩) 1 1 [.slice none 0 0] rfl (wr.heap.size + 1) (sq_single _ _ _) (by simp [Value.oneCell']) F1.out.1 F1.out.2 (by have := IZ.out; simp; omega) ?_; intro v4 w4 ho4 hg4 _; (obtain ⟨A', d', rfl, _⟩ := own_cap ho4); (have O4 := Lib.hid ho4); (have G4 := Lib.hid hg4); clear ho4 hg4)
     go_meet
     case rel =>
      have ba : Laid wr (wr.alloc (.cells #[.slice none 0 0] 41)) := (Below.refl _ _).alloc (Nat.le_refl _) _
      refine ⟨d', A', vs ++ [.slice none 0 0], groups (L.take k) ++ [[]], rfl, Lib.hid ⟨by rw [List.length_append, HGL.out]; rfl, GN.out, fun x hx => ?_⟩, Lib.hid ?_, Lib.hid ⟨?_, JJ.out.ap.snoc_nil⟩⟩
      ·rcases List.mem_append.1 hx with hx | hx
       ·exact GL.out x hx
       ·rw [List.mem_singleton.1 hx]; exact Nat.zero_le _
      ·exact (I.out.trans (ba.mono I.out.size)).grown G4.out (by have := IZ.out; simp; omega) (fun j e => (JO.out.lt j e).1)
      ·exact Lns.snoc (JJ.out.lns.laid ba) (World.ownsRow_nil _ _ _ _) (by rw [HGL.out]; exact O4.out) G4.out
   case rest =>
    obtain ⟨d', A', vs', G', rfl, GG, I2, J2⟩ := hcut
    clear JJ I PG hlq
    have hown := J2.out.lns.own
    rw [GG.out.1] at hown
    obtain ⟨go, cgo, ego, _, hgoB, hgo, hcells⟩ := own_at hown (by omega)
    injection ego with ego _ ego2
    subst ego ego2
    obtain ⟨go', hgo'⟩ := own_type hown go rfl
    obtain ⟨l, hl⟩ : ∃ l, G'[E]? = some l := ⟨_, List.getElem?_eq_getElem (by have := GG.out.1; omega)⟩
    obtain ⟨x, hx⟩ : ∃ x, vs'[E]? = some x := ⟨_, List.getElem?_eq_getElem (by have := J2.out.lns.len; have := GG.out.1; omega)⟩
    have hxl := J2.out.lns.each E x l hx hl
    obtain ⟨AX, cX, rfl, _⟩ := own_cap (show wc.ownsRow w2.heap.size 52 3 x l.length (flat l) from hxl)
    have xq := hcells E _ hx
    have hll := GG.out.2.2 l (List.mem_of_getElem? hl)
    obtain ⟨sL, hsL⟩ : ∃ sL, (cellsR (lr r)).length = sL := ⟨_, rfl⟩
    have hs300 : sL ≤ 300 := by rw [← hsL]; exact cellsR_len _
    have hE0 : (0 : Int) ≤ (E : Int) := by omega
    have hEp : (E : Int) < ((E + 1 : Nat) : Int) := by omega
    have hk0 : (0 : Int) ≤ (k : Int) := by omega
    have D2 : Below wc.heap.size wc wc.drew := (Below.refl _ _).drew
    obtain ⟨rA, rn, rc, rb, rl⟩ := r
    have XO := Lib.hid (show wc.ownsRow w2.heap.size 52 3 (.slice AX l.length cX) l.length (flat l) from hxl)
    have HX := Lib.hid hx
    have HLE := Lib.hid hl
    have XQ := Lib.hid xq
    have GO := Lib.hid (And.intro hgoB (And.intro hgo hgo'))
    have SL := Lib.hid hsL
    have C2 := Lib.hid (CB.out wc I2.out)
    obtain ⟨nx, hnx⟩ : ∃ nx, l.length = nx := ⟨_, rfl⟩
    have HNX := Lib.hid hnx
    have hB2 := I2.out.size
    rw [hnx] at XO XQ HX hll
    clear hown hgoB hgo hgo' hl hx hxl xq hcells hsL hnx
    go_wp2_with fail
    refine Ord.start (a := ?fr) (S := fun W => W.cell? ⟨g4, k, none⟩ = some (.int .i64 (E : Int)) ∧ W.cell? ⟨b0, o0 + k * 2, none⟩ = some (.slice rA rn rc) ∧ W.cell? ⟨b0, o0 + k * 2 + 1, none⟩ = some (.bool rb)) (n := 20) (by kernel_rfl) (by kernel_rfl) C2.out ?_
    apply jr_region (w1 := wc.drew) (Rd := fun W => W.cell? ⟨g4, k, none⟩ = some (.int .i64 (E : Int)) ∧ W.cell? ⟨b0, o0 + k * 2, none⟩ = some (.slice rA rn rc) ∧ W.cell? ⟨b0, o0 + k * 2 + 1, none⟩ = some (.bool rb)) (b0 := b0) (o0 := o0) (n := n) (c := c) (go := go) (p := E + 1) (d3 := d') (g4 := g4) (d4 := d4) (k := k) (E := E) (nx := nx) (cX := cX) (rn := rn) (rc := rc) (sL := sL) (B := w2.heap.size) (AX := AX) (rA := rA) (rb := rb) (xs := flat l) (news := flat (cellsR (rb, rl)))
     (P1 := fun W A6 c6 => Laid wc W ∧ HasC W wc.heap.size (.slice A6 sL c6) (cellsR (rb, rl))) (i0 := i0) (a0 := ?fr)
    case R => exact ⟨by kernel_rfl, by kernel_rfl⟩
    case hQ => exact fun _ _ _ _ _ h => h
    case hi => exact hi0
    case hz0 => exact hz0
    case hz1 => exact hz1
    case hz2 => exact hz2
    case hk0 => exact hk0
    case hkn => exact hki
    case hE0 => exact hE0
    case hEp => exact hEp
    case k0 => exact fun W h => h.1
    case kx => exact XQ.out
    case ka => exact fun W h => h.2.1
    case kb => exact fun W h => h.2.2
    case C1 =>
     refine (refSigns_walk rA rn rc rb rl wc.drew RO.out.signs ((RO.out.sq.below (I2.out.trans (D2.mono I2.out.size))).up hB2) (by have h1 := RO.out.le; have h2 := RO.out.cap; unfold maxLen at h2; dsimp only at h1 h2; omega)).mono ?_
     rintro e W ⟨v6, rfl, h6, b6⟩
     obtain ⟨A6, c6, rfl, _⟩ := own_cap (show W.ownsRow wc.drew.heap.size 52 3 v6 (cellsR (rb, rl)).length (flat (cellsR (rb, rl))) from h6)
     have e6 : (cellsR (rb, rl)).length = sL := SL.out
     rw [e6] at h6 ⊢
     exact ⟨A6, c6, rfl, D2.trans b6, h6⟩
    case KS1 => exact fun W A6 c6 h => CB.out W (I2.out.trans (h.1.mono I2.out.size))
    case X1 =>
     rintro W A6 c6 ⟨b6, h6⟩
     refine ⟨own_laid XO.out b6, ?_, Nat.le_trans hB2 b6.size⟩
     have h : W.ownsRow wc.heap.size 52 3 (.slice A6 sL c6) (cellsR (rb, rl)).length (flat (cellsR (rb, rl))) := h6
     rw [show (cellsR (rb, rl)).length = sL from SL.out] at h
     exact Sq.own h
    case KX => exact fun W A6 c6 h => (h.1.cell (p := ⟨go, E, none⟩) GO.out.2.1).trans XQ.out
    case KA =>
     rintro W A6 c6 W' ⟨b6, h6⟩ hg
     have ck : ∀ p : Addr, W'.heap[p.block]? = W.heap[p.block]? → W'.cell? p = W.cell? p := fun p h => by unfold World.cell?; rw [h]
     have hbz := b6.size
     have nlow : ∀ j, j < w2.heap.size → W'.heap[j]? = W.heap[j]? := fun j hj => hg.block j (by omega) (fun e => by have := (XO.out.lt j e.symm).1; omega)
     have ngo : W'.heap[go]? = W.heap[go]? := hg.block go (by have := GO.out.2.1; omega) (fun e => own_ne XO.out J2.out.lns.own (by decide) go e.symm rfl)
     obtain ⟨s0, s1, s2⟩ := CB.out W (I2.out.trans (b6.mono I2.out.size))
     refine ⟨⟨(ck ⟨g4, k, none⟩ (nlow g4 HB0.out.1)).trans s0, (ck ⟨b0, o0 + k * 2, none⟩ (nlow b0 HB0.out.2)).trans s1, (ck ⟨b0, o0 + k * 2 + 1, none⟩ (nlow b0 HB0.out.2)).trans s2⟩, ⟨_, (ck ⟨go, E, none⟩ ngo).trans ((b6.cell (p := ⟨go, E, none⟩) GO.out.2.1).trans XQ.out)⟩, ?_⟩
     exact frozen_of_row W' go E _ _ (ngo.trans ((b6.block go GO.out.2.1).trans GO.out.2.2))
    case ks =>
     rintro W v ⟨s0, s1, s2⟩
     have ck : ∀ p : Addr, p.block < w2.heap.size → (W.setCell ⟨go, E, none⟩ v).cell? p = W.cell? p := fun p h => by
      unfold World.cell?
      rw [Below.heap_setCell _ _ _ _ (by have := GO.out.1; show p.block ≠ go; omega)]
     exact ⟨(ck ⟨g4, k, none⟩ HB0.out.1).trans s0, (ck ⟨b0, o0 + k * 2, none⟩ HB0.out.2).trans s1, (ck ⟨b0, o0 + k * 2 + 1, none⟩ HB0.out.2).trans s2⟩
    case h1 => exact flat_one _
    case hm => unfold maxLen; omega
    case hm2 => omega
    case hS => exact C2.out
    case F => exact ⟨rfl, rfl, rfl, rfl, rfl, Fr.refl _ _ _⟩
    rintro a7 W A6 c6 w4 A7 c7 ⟨b6, h6⟩ hown hg hat F7
    obtain ⟨l5, hl5, ea⟩ := F7.fr.ex (by omega) (by simp)
    have hW : Below w2.heap.size w2 W := I2.out.trans (b6.mono I2.out.size)
    have hgr := Lns.grow (J2.out.lns.laid b6) J2.out.ap HX.out HLE.out (s := cellsR (rb, rl)) (m := nx + sL) (c4 := c7) (A4 := A7) (w4 := w4) (by rw [List.length_append, HNX.out]; exact congrArg (nx + ·) SL.out.symm) (by rw [flat_append]; exact hown) hg hat
    have I9 := Lib.hid (show Below w2.heap.size w2 (w4.setCell ⟨go, E, none⟩ (.slice A7 (nx + sL) c7)) from (hW.grown hg hW.size (fun j e => (XO.out.lt j e).1)).setCell (p := ⟨go, E, none⟩) GO.out.1 _)
    have GS := Lib.hid (show groups (L.take (k + 1)) = G'.set E (l ++ cellsR (rb, rl)) from by rw [GG.out.2.1]; exact modify_set _ HLE.out)
    have J9 := Lib.hid (show Jn w2.heap.size (groups (L.take (k + 1))) (.slice (some ⟨go, 0, none⟩) (E + 1) d') (vs'.set E (.slice A7 (nx + sL) c7)) (w4.setCell ⟨go, E, none⟩ (.slice A7 (nx + sL) c7)) from by rw [GS.out]; exact ⟨hgr.1, hgr.2⟩)
    have P9 := Lib.hid (show E + 1 = (groups (L.take (k + 1))).length from by rw [GS.out, List.length_set, GG.out.1])
    generalize w4.setCell ⟨go, E, none⟩ (.slice A7 (nx + sL) c7) = w9 at I9 J9 ⊢
    clear hgr hW hown hg hat b6 h6 D2 C2 XO XQ HX HLE GO I2 J2
    match l5, hl5 with
    | [v0, v1, v2, v3, v4, v5, v6, v7, v8, v9, v10, v11, v12, v13, v14, v15, v16, v17, v18], _ =>
     rw [ea]
     clear ea F7
     simp only [List.take_succ_cons, List.take_zero, List.drop_succ_cons, List.drop_zero, List.cons_append, List.nil_append]
     go_wp2_with fail
     go_roundw
     case rel => exact ⟨k + 1, E + 1, d', some ⟨go, 0, none⟩, _, by first | rfl | trivial, by go_num, by omega, P9, I9, J9⟩
     case measure => simp [intOf]; omega
  ·obtain rfl : k = n := by omega
   have hall : L.take k = L := List.take_of_length_le (by rw [← HL.out, List.length_map, R2.out.len]; exact Nat.le_refl _)
   rw [hall] at PG JJ
   have hnl : ¬ (k : Int) < (k : Int) := by omega
   have GL := Lib.hid (show ∀ x ∈ groups L, x.length ≤ 1000000 from fun x hx => by
    have h := groups_len hx
    have h3 : L.length = k := by rw [← HL.out, List.length_map, R2.out.len]
    omega)
   obtain ⟨G, hG⟩ : ∃ G, groups L = G := ⟨_, rfl⟩
   have JG := Lib.hid (show joinL L = G.map trimL from by rw [joinL_groups, hG])
   rw [hG] at PG JJ GL
   have J0 := Lib.hid (show ∃ vs, Lns wr w2.heap.size (.slice A3 p d) vs ((G.take 0).map trimL ++ G.drop 0) from ⟨vs, by simpa using JJ.out.lns⟩)
   have hpk : p ≤ 3000 := by
    have h := PG.out
    rw [← hG] at h
    have h2 : (groups L).length ≤ L.length := by unfold groups; rw [List.length_map]; exact parts_length_le L
    have h3 : L.length = k := by rw [← HL.out, List.length_map, R2.out.len]
    omega
   clear hall hG JJ
   go_wp2_with fail
   go_loopw [7] (fun i wr => ∃ k : Nat, i = .int .i64 (k : Int) ∧ k ≤ p ∧ Hid (Below w2.heap.size w2 wr) ∧ Hid (∃ vs, Lns wr w2.heap.size (.slice A3 p d) vs ((G.take k).map trimL ++ G.drop k))) (fun i _ => p - (intOf i).toNat)
   case atStart => exact ⟨0, rfl, Nat.zero_le _, I, J0⟩
   case round =>
    obtain ⟨i, rfl, hi, I3, J3⟩ := hrel
    clear J0
    by_cases hlti : i < p
    ·obtain ⟨vs3, l3⟩ := J3.out
     have hlen : ((G.take i).map trimL ++ G.drop i).length = p := by rw [List.length_append, List.length_map, List.length_take, List.length_drop]; have := PG.out; omega
     have hown := l3.own
     rw [hlen] at hown
     obtain ⟨go, cgo, ego, _, hgoB, hgo, hcells⟩ := own_at hown (by omega)
     injection ego with ego _ ego2
     subst ego ego2
     obtain ⟨cur, hcur⟩ := own_type hown go rfl
     obtain ⟨l, hl⟩ : ∃ l, G[i]? = some l := ⟨_, List.getElem?_eq_getElem (by have := PG.out; omega)⟩
     obtain ⟨x, hx⟩ : ∃ x, vs3[i]? = some x := ⟨_, List.getElem?_eq_getElem (by have := l3.len; omega)⟩
     have hxl := l3.each i x l hx (trim_get hl)
     obtain ⟨AX, cX, rfl, hcX⟩ := own_cap (show wr.ownsRow w2.heap.size 52 3 x l.length (flat l) from hxl)
     have xq := hcells i _ hx
     have TW := Lib.hid (refTrim_walk AX l.length cX hcX l wr (GL.out l (List.mem_of_getElem? hl)) (Sq.own hxl))
     have L3 := Lib.hid l3
     have HLI := Lib.hid hl
     have GO := Lib.hid (And.intro hgoB (And.intro hgo hcur))
     have hii : (i : Int) < (p : Int) := by omega
     have XQ := Lib.hid xq
     obtain ⟨nx, hnx⟩ : ∃ nx, l.length = nx := ⟨_, rfl⟩
     rw [hnx] at TW XQ xq
     clear l3 hlen hown hgoB hgo hcells hcur hl hx hxl hcX hnx J3
     go_wp2_with fail
     refine TW.out.mono ?_
     rintro e w4 ⟨v4, rfl, h4, b4⟩
     obtain ⟨Av, cv, rfl, _⟩ := own_cap (show w4.ownsRow wr.heap.size 52 3 v4 (trimL l).length (flat (trimL l)) from h4)
     have R4 := Lib.hid ((L3.out.laid b4).replace (i := i) (own_down h4 I3.out.size))
     have I4 := Lib.hid ((I3.out.trans (b4.mono I3.out.size)).setCell (p := ⟨go, i, none⟩) GO.out.1 (.slice Av (trimL l).length cv))
     have q4 : w4.cell? ⟨go, i, none⟩ = some (.slice AX nx cX) := (b4.cell (p := ⟨go, i, none⟩) GO.out.2.1).trans XQ.out
     have z4 := frozen_of_row w4 go i _ _ ((b4.block go GO.out.2.1).trans GO.out.2.2)
     have J4 := Lib.hid (show ∃ vs, Lns (w4.setCell ⟨go, i, none⟩ (.slice Av (trimL l).length cv)) w2.heap.size (.slice (some ⟨go, 0, none⟩) p d) vs ((G.take (i + 1)).map trimL ++ G.drop (i + 1)) from ⟨_, by rw [← trim_next HLI.out]; exact R4.out⟩)
     obtain ⟨nt, hnt⟩ : ∃ nt, (trimL l).length = nt := ⟨_, rfl⟩
     rw [hnt] at I4 J4 ⊢
     clear h4 b4 R4 xq hnt TW
     go_wp2_with fail
     go_roundw
     case rel => exact ⟨i + 1, by go_num, by omega, I4, J4⟩
     case measure => simp [intOf]; omega
    ·obtain rfl : i = p := by omega
     have hnp : ¬ (i : Int) < (i : Int) := by omega
     obtain ⟨vs3, l3⟩ := J3.out
     have FIN := Lib.hid (show Lns wr w2.heap.size (.slice A3 i d) vs3 (joinL L) from by
      have h := l3
      rw [List.take_of_length_le (by have := PG.out; omega), List.drop_eq_nil_of_le (by have := PG.out; omega), List.append_nil] at h
      rw [JG.out]
      exact h)
     clear l3 J3
     go_wp2
     go_ret
     exact ⟨_, vs3, rfl, FIN.out.down B2.out.size, B2.out.trans (I3.out.mono B2.out.size)⟩
end Ln
end Go.Proofs.YtjhmndmnhkbigaaGreatDoor
namespace Go.Proofs.YtjhmndmnhkbigaaGreatDoor
open Go.ChangeShapes Go.WideShapes Go.ChangeAt Go.RowKit
set_option maxRecDepth 100000 in
set_option maxHeartbeats 1600000 in
theorem eqc_yes (A A' : Option Addr) (n c n' c' : Nat) (l : List (Int × Int × Int)) (w : World) (hn : n ≤ 1099511627776) (hq : Sq w w.heap.size 3 n A (flat l)) (hq' : Sq w w.heap.size 3 n' A' (flat l)) :
  Calls Tryz.prog 24 #[.slice A n c, .slice A' n' c'] w fun e w' => e = .returned (.bool true) ∧ Below w.heap.size w w' := by
 have e : n' = n := by have h1 := hq.len; have h2 := hq'.len; omega
 subst e
 have Q := Lib.hid hq
 have Q' := Lib.hid hq'
 clear hq hq'
 go_enter Tryz.func24, Tryz.ntmps24
 go_wp2
 go_loopw [5] (fun i wr => ∃ k : Nat, i = .int .i64 k ∧ k ≤ n' ∧ Below w.heap.size w wr) (fun i _ => n' - (intOf i).toNat)
 case atStart => exact ⟨0, rfl, Nat.zero_le _, Below.refl _ _⟩
 case round =>
  obtain ⟨k, rfl, hk, hb⟩ := hrel
  by_cases hlt : k < n'
  ·obtain ⟨b, off, rfl, _, ⟨r, m, a⟩, hcc, q0, q1, q2⟩ := (Q.out.below hb).three hlt
   obtain ⟨b', off', rfl, _, ⟨r', m', a'⟩, hcc', q0', q1', q2'⟩ := (Q'.out.below hb).three hlt
   rw [hcc] at hcc'
   simp only [Option.some.injEq, Prod.mk.injEq] at hcc'
   obtain ⟨rfl, rfl, rfl⟩ := hcc'
   have HB := Lib.hid hb
   clear hb hcc
   go_wp2_with fail
   go_region
   all_goals go_wp2
   all_goals go_roundw
   case rel => exact ⟨k + 1, by go_num, by omega, HB.out.drew⟩
   case measure => simp [intOf]; omega
  ·go_wp2
   go_ret
   exact ⟨rfl, hb⟩
end Go.Proofs.YtjhmndmnhkbigaaGreatDoor
