/-
  The reference's Line: may these cells be a line? The reference's way to a row's cells in which a sign stands.
-/
import Derived.Test.YtgmijnnhanpocaaGreatDoorQLLine4
import Derived.Test.YtgmijnnhanpocaaGreatDoorQLRefRow1
import Derived.Test.YtgmijnnhanpocaaGreatDoorQLLine1
namespace Go.Proofs.YtgmijnnhanpocaaGreatDoor
open Go.ChangeShapes Go.WideShapes Go.ChangeAt Go.RowKit
namespace Ln
open Rw
theorem okC_ref (r m a : Int) : okC (r, m, a) = (mayB (r, m, a) && !(m == 0) && !(r == 0 && m == 1 && a == 0)) := by
 cases hb : mayB (r, m, a) with
 | false => unfold okC; simp [hb]
 | true =>
  have h3 : m = 0 ∨ m = 1 ∨ m = 2 := by
   have hw := wof_range r
   unfold mayB at hb
   simp only [Bool.and_eq_true, Bool.or_eq_true, decide_eq_true_eq, beq_iff_eq, Prod.mk.injEq] at hb
   omega
  unfold okC hasB isB
  simp only [hb, Bool.and_true, Bool.true_and]
  rcases h3 with rfl | rfl | rfl <;> simp
theorem lineB_step {l : List Cel} {k : Nat} {r m a : Int} (h : l[k]? = some (r, m, a)) : lineB (l.drop k) = (mayB (r, m, a) && !(m == 0) && !(r == 0 && m == 1 && a == 0) && lineB (l.drop (k + 1))) := by
 rw [drop_get h, ← okC_ref]
 rfl
set_option maxRecDepth 100000 in
set_option maxHeartbeats 6400000 in
theorem refLine_walk (A : Option Addr) (n c : Nat) (l : List Cel) (w : World) (hl : ∀ c ∈ l, -2147483648 ≤ c.1 ∧ c.1 ≤ 2147483647) (hq : Sq w w.heap.size 3 n A (flat l)) (hn : n ≤ 1000000) :
  Calls Tryz.prog 36 #[.slice A n c] w fun e w' => e = .returned (.bool (lineB l)) ∧ Below w.heap.size w w' := by
 have hln : l.length = n := by have := hq.len; rw [flat_length] at this; omega
 have LN := Lib.hid hln
 have Q := Lib.hid hq
 have HL := Lib.hid hl
 have B1 := Lib.hid (Below.refl w.heap.size w)
 clear hln hq hl
 go_enter Tryz.func36, Tryz.ntmps36
 go_wp2_with fail
 go_loopw [3] (fun i wr => ∃ k : Nat, i = .int .i64 k ∧ k ≤ n ∧ Below w.heap.size w wr ∧ Hid (lineB (l.drop k) = lineB l)) (fun i _ => n - (intOf i).toNat)
 case atStart => exact ⟨0, rfl, Nat.zero_le _, B1.out, Lib.hid rfl⟩
 case round =>
  obtain ⟨k, rfl, hk, hb, RG⟩ := hrel
  have HB := Lib.hid hb
  have hsz := hb.size
  by_cases hlt : k < n
  ·obtain ⟨b, off, rfl, hbb, ⟨r, m, a⟩, hcc, q0, q1, q2⟩ := (Q.out.below hb).three hlt
   have hx := HL.out _ (List.mem_of_getElem? hcc)
   have ST := Lib.hid (lineB_step hcc)
   obtain ⟨C, hC⟩ : ∃ C, mayB (r, m, a) = C := ⟨_, rfl⟩
   obtain ⟨D, hD⟩ : ∃ D, (r == 0 && m == 1 && a == 0) = D := ⟨_, rfl⟩
   have MC := Lib.hid (fun w => refCell_walk r m a hx.1 hx.2 w)
   have NE := fun w => Rw.eql_cell r m a 0 1 0 w
   rw [hC] at MC ST
   rw [hD] at NE ST
   obtain ⟨I, hI, F, h0, hB, hN⟩ := Cls.below wr
   have H0 := Lib.hid h0
   have HBn := Lib.hid (fun n => HB.out.trans ((hB n).mono hsz))
   have HN := Lib.hid hN
   have RD := Lib.hid (show ∀ j c, l[j]? = some c → ∀ n, (F n).cell? ⟨b, off + j * 3, none⟩ = some (.int .i32 c.1) ∧ (F n).cell? ⟨b, off + j * 3 + 1, none⟩ = some (.int .i64 c.2.1) ∧ (F n).cell? ⟨b, off + j * 3 + 2, none⟩ = some (.int .i64 c.2.2) from fun j c hj n => (Q.out.below (HBn.out n)).cells hj)
   have c0 := fun n => (RD.out k _ hcc n).1
   have c1 := fun n => (RD.out k _ hcc n).2.1
   have c2 := fun n => (RD.out k _ hcc n).2.2
   dsimp only at c0 c1 c2
   have MCN := Lib.hid (show ∀ n, Calls Tryz.prog 51 #[cellV r m a] (F n) fun e w' => e = .returned (.bool C) ∧ ∃ m, w' = F m from fun n => (MC.out (F n)).mono fun e w' ⟨he, hb⟩ => ⟨he, HN.out n w' hb⟩)
   have PDN := Lib.hid (show ∀ n, Calls Tryz.prog 33 #[] (F n) fun e w' => e = .returned (cellV 0 1 0) ∧ ∃ m, w' = F m from fun n => (refPad_walk (F n)).mono fun e w' ⟨he, hb⟩ => ⟨he, HN.out n w' hb⟩)
   have hk0 : (0 : Int) ≤ (k : Int) := by omega
   have hkn : (k : Int) < (n : Int) := by omega
   clear hb hcc hC hD hbb hx q0 q1 q2 h0 hB hN MC
   go_wp2_with fail
   cases C
   ·refine Cls.region F H0.out (by kernel_rfl) (by kernel_rfl) ?_
    repeat (go_big_quiet_step ((first | (go_at_call 33; exact PDN.out _) | (go_at_call 51; exact MCN.out _))))
    refine wpQuiet_nil ?_
    intro _ hw'
    obtain ⟨nq, hw''⟩ := hw'
    subst hw''
    have BB := Lib.hid (HBn.out nq)
    have RF := Lib.hid (show lineB l = false by rw [← RG.out, ST.out]; simp)
    go_wp2
    go_ret
    exact ⟨ret_bool RF.out.symm, BB.out⟩
   ·cases h0 : (m == 0)
    ·cases D
     ·refine Cls.region F H0.out (by kernel_rfl) (by kernel_rfl) ?_
      repeat (go_big_quiet_step ((first | (go_at_call 33; exact PDN.out _) | (go_at_call 51; exact MCN.out _))))
      refine wpQuiet_nil ?_
      intro _ hw'
      obtain ⟨nq, hw''⟩ := hw'
      subst hw''
      have BB := Lib.hid (HBn.out nq)
      have RN := Lib.hid (show lineB (l.drop (k + 1)) = lineB l by rw [← RG.out, ST.out]; simp [h0])
      go_wp2
      go_roundw
      case rel => exact ⟨k + 1, by first | go_num | (congr 1; omega), by omega, BB.out, RN⟩
      case measure => first | (simp [intOf]; done) | (simp [intOf]; omega)
     ·refine Cls.region F H0.out (by kernel_rfl) (by kernel_rfl) ?_
      repeat (go_big_quiet_step ((first | (go_at_call 33; exact PDN.out _) | (go_at_call 51; exact MCN.out _))))
      refine wpQuiet_nil ?_
      intro _ hw'
      obtain ⟨nq, hw''⟩ := hw'
      subst hw''
      have BB := Lib.hid (HBn.out nq)
      have RF := Lib.hid (show lineB l = false by rw [← RG.out, ST.out]; simp)
      go_wp2
      go_ret
      exact ⟨ret_bool RF.out.symm, BB.out⟩
    ·refine Cls.region F H0.out (by kernel_rfl) (by kernel_rfl) ?_
     repeat (go_big_quiet_step ((first | (go_at_call 33; exact PDN.out _) | (go_at_call 51; exact MCN.out _))))
     refine wpQuiet_nil ?_
     intro _ hw'
     obtain ⟨nq, hw''⟩ := hw'
     subst hw''
     have BB := Lib.hid (HBn.out nq)
     have RF := Lib.hid (show lineB l = false by rw [← RG.out, ST.out, h0]; simp)
     go_wp2
     go_ret
     exact ⟨ret_bool RF.out.symm, BB.out⟩
  ·have hk' : k = n := by omega
   have E : l.drop k = [] := List.drop_eq_nil_of_le (by have := LN.out; omega)
   have RT := Lib.hid (show lineB l = true by rw [← RG.out, E]; rfl)
   clear hb E hk'
   go_wp2
   go_ret
   exact ⟨ret_bool RT.out.symm, HB.out⟩
end Ln
end Go.Proofs.YtgmijnnhanpocaaGreatDoor
namespace Go.Proofs.YtgmijnnhanpocaaGreatDoor
open Go.ChangeShapes Go.WideShapes Go.ChangeAt Go.RowKit
namespace Ln
open Rw
theorem neq_pad (r m a : Int) (w : World) : (binOp .neq 50 (cellV r m a) (cellV 0 1 0)).run Tryz.prog w = .ok (.bool (!(r == 0 && m == 1 && a == 0))) w := by
 have hw := w
 cases h1 : (r == 0) <;> cases h2 : (m == 1) <;> cases h3 : (a == 0) <;> go_simp
theorem mayGo_cell : ∀ {l : List Cel} {p : Cel}, mayGo p l = true → ∀ c ∈ l, mayB c = true
 | [], _, _, c, h => by cases h
 | x :: l, p, hm, c, h => by
  have e : mayGo p (x :: l) = (mayB x && ((p.2.1 == 2) == (x.2.1 == 0)) && (!(x.2.1 == 0) || x.2.2 == p.2.2) && mayGo x l) := rfl
  rw [e] at hm
  simp only [Bool.and_eq_true] at hm
  rcases List.mem_cons.1 h with rfl | h
  ·exact hm.1.1.1
  ·exact mayGo_cell hm.2 c h
theorem mayL_cell {l : List Cel} (hm : mayL l = true) : ∀ c ∈ l, mayB c = true := by
 unfold mayL at hm
 simp only [Bool.and_eq_true] at hm
 exact mayGo_cell hm.2
theorem mayB_wide {r m a : Int} (h : mayB (r, m, a) = true) : m = 0 ∨ m = 1 ∨ m = 2 := by
 have hw := wof_range r
 unfold mayB at h
 simp only [Bool.and_eq_true, Bool.or_eq_true, decide_eq_true_eq, beq_iff_eq, Prod.mk.injEq] at h
 omega
theorem filter_next {l : List Cel} {k : Nat} {c : Cel} (h : l[k]? = some c) : (l.take (k + 1)).filter signC = (l.take k).filter signC ++ if signC c then [c] else [] := by
 rw [take_one h, List.filter_append]
 cases hc : signC c <;> simp [hc]
set_option maxRecDepth 100000 in
set_option maxHeartbeats 6400000 in
theorem refSigns_walk (A : Option Addr) (n c : Nat) (wrap : Bool) (l : List Cel) (w : World) (hl : ∀ c ∈ l, -2147483648 ≤ c.1 ∧ c.1 ≤ 2147483647) (hq : Sq w w.heap.size 3 n A (flat l)) (hn : n ≤ 9223372036854775807) :
  Calls Tryz.prog 41 #[rowV A n c wrap] w fun e w' => ∃ v, e = .returned v ∧ HasC w' w.heap.size v (cellsR (wrap, l)) ∧ Below w.heap.size w w' := by
 obtain ⟨i0, hi0, hz0, hz1, hz2⟩ := info_parts infoCell
 have hln : l.length = n := by have := hq.len; rw [flat_length] at this; omega
 obtain ⟨g0, hg0⟩ : ∃ g0, w.heap.size = g0 := ⟨_, rfl⟩
 obtain ⟨w1, hw1⟩ : ∃ w1, w.alloc (.cells #[.slice A n c, .bool wrap] 48) = w1 := ⟨_, rfl⟩
 have b1 : Below w.heap.size w w1 := by rw [← hw1]; exact (Below.refl _ _).alloc (Nat.le_refl _) _
 have x1 : w1.heap[g0]? = some (.cells #[.slice A n c, .bool wrap] 48 (0, 0)) := by rw [← hw1, ← hg0]; exact heap_alloc_new w _
 have Q := Lib.hid ((hq.below b1).up b1.size)
 have HL := Lib.hid hl
 have RR := Lib.hid (fun (W : World) (hb : Below w1.heap.size w1 W) => refRow_any A n c wrap l W hl ((Q.out.below hb).up hb.size) (by omega))
 obtain ⟨M, hM⟩ : ∃ M, mayL l = M := ⟨_, rfl⟩
 have HM := Lib.hid hM
 rw [hM] at RR
 have LN := Lib.hid hln
 have HG := Lib.hid hg0
 have B1 := Lib.hid b1
 have X1 := Lib.hid x1
 have HW := Lib.hid hw1
 have I0 := Lib.hid (Below.refl w1.heap.size w1)
 have RF := Lib.hid (show M = false → cellsR (wrap, l) = [] from fun h => by unfold cellsR; rw [show mayL (wrap, l).2 = M from hM, h]; rfl)
 have RT := Lib.hid (show M = true → cellsR (wrap, l) = l.filter signC from fun h => by unfold cellsR; rw [show mayL (wrap, l).2 = M from hM, h]; rfl)
 have c0 : w1.cell? ⟨g0, 0, none⟩ = some (.slice A n c) := cell_of_row _ _ 0 _ _ (0, 0) x1
 have c1 : w1.cell? ⟨g0, 1, none⟩ = some (.bool wrap) := cell_of_row _ _ 1 _ _ (0, 0) x1
 clear hq hl b1 x1 hM hln hw1
 go_enter Tryz.func41, Tryz.ntmps41
 go_upto_region 1 with fail
 rw [HW.out]
 clear hg0
 go_wp2_with fail
 go_loopw [3, 4] (fun v i wr => ∃ (k p d : Nat) (A1 : Option Addr) (ys : List Cel), v = .slice A1 p d ∧ i = .int .i64 (k : Int) ∧ k ≤ n ∧ p ≤ k ∧ Hid (Below w1.heap.size w1 wr) ∧ Hid (HasC wr w1.heap.size (.slice A1 p d) ys ∧ ys.length = p ∧ ys = (l.take k).filter signC) ∧ Hid (M = false → k = 0)) (fun _ i _ => n - (intOf i).toNat)
 case atStart => exact ⟨0, 0, 0, none, [], rfl, rfl, Nat.zero_le _, Nat.le_refl _, I0, Lib.hid ⟨World.ownsRow_nil _ _ _ _, rfl, rfl⟩, Lib.hid fun _ => rfl⟩
 case round =>
  obtain ⟨k, p, d, A1, ys, rfl, rfl, hk, hpk, I, O, Z⟩ := hrel
  clear I0
  have x2 := (I.out.block g0 (Array.getElem?_eq_some_iff.1 X1.out).1).trans X1.out
  have d0 : wr.cell? ⟨g0, 0, none⟩ = some (.slice A n c) := cell_of_row _ _ 0 _ _ (0, 0) x2
  have d1 : wr.cell? ⟨g0, 1, none⟩ = some (.bool wrap) := cell_of_row _ _ 1 _ _ (0, 0) x2
  clear x2 c0 c1
  by_cases hlt : k < n
  ·obtain ⟨b, off, rfl, hbb, ⟨r, m, a⟩, hcc, q0, q1, q2⟩ := (Q.out.below I.out).three hlt
   have hki : (k : Int) < (n : Int) := by omega
   have HCC := Lib.hid hcc
   have HBB := Lib.hid hbb
   clear hcc hbb
   go_wp2_with fail
   refine (RR.out _ I.out).mono ?_
   rintro e w2 ⟨rfl, b2⟩
   have I2 := Lib.hid (I.out.trans (b2.mono I.out.size))
   have O2 := Lib.hid (show HasC w2 w1.heap.size (.slice A1 p d) ys from own_laid O.out.1 b2)
   have x3 := (I2.out.block g0 (Array.getElem?_eq_some_iff.1 X1.out).1).trans X1.out
   have e0 : w2.cell? ⟨g0, 0, none⟩ = some (.slice (some ⟨b, off, none⟩) n c) := cell_of_row _ _ 0 _ _ (0, 0) x3
   have e1 : w2.cell? ⟨g0, 1, none⟩ = some (.bool wrap) := cell_of_row _ _ 1 _ _ (0, 0) x3
   obtain ⟨s0, s1, s2⟩ := (Q.out.below I2.out).cells HCC.out
   dsimp only at s0 s1 s2
   clear x3 d0 d1 q0 q1 q2 b2
   cases M with
   | false =>
    have h0 := Z.out rfl
    subst h0
    obtain rfl : p = 0 := by omega
    have OF := Lib.hid (show HasC w2 w1.heap.size (.slice A1 0 d) (cellsR (wrap, l)) from by
     have h := O2.out
     rw [show ys = [] from List.length_eq_zero_iff.1 O.out.2.1] at h
     rw [RF.out rfl]
     exact h)
    go_wp2
    go_ret
    exact ⟨_, rfl, own_down OF.out B1.out.size, B1.out.trans (I2.out.mono B1.out.size)⟩
   | true =>
    have hmay := mayL_cell HM.out _ (List.mem_of_getElem? HCC.out)
    have hm3 := mayB_wide hmay
    have hn300 : n ≤ 300 := by
     have h := HM.out
     unfold mayL at h
     simp only [Bool.and_eq_true, decide_eq_true_eq] at h
     have := LN.out
     omega
    have FN := Lib.hid (filter_next HCC.out)
    obtain ⟨w3, hw3⟩ : ∃ w3, w2.alloc (.cells #[.int .i32 r, .int .i64 m, .int .i64 a] 50) = w3 := ⟨_, rfl⟩
    have HW3 := Lib.hid hw3
    have b3 : Laid w2 w3 := by rw [← hw3]; exact (Below.refl _ _).alloc (Nat.le_refl _) _
    have x4 : w3.heap[w2.heap.size]? = some (.cells #[.int .i32 r, .int .i64 m, .int .i64 a] 50 (0, 0)) := by rw [← hw3]; exact heap_alloc_new w2 _
    have z3 : w3.heap.size = w2.heap.size + 1 := by rw [← hw3]; simp
    have I3 := Lib.hid (I2.out.trans (b3.mono I2.out.size))
    have O3 := Lib.hid (show HasC w3 w1.heap.size (.slice A1 p d) ys from own_laid O2.out b3)
    obtain ⟨gc, hgc⟩ : ∃ gc, w2.heap.size = gc := ⟨_, rfl⟩
    rw [hgc] at x4
    have X4 := Lib.hid x4
    have HGC := Lib.hid hgc
    clear hw3 hmay b3 x4 z3
    go_upto_region 6 with fail
    rw [HW3.out]
    clear hgc e0 e1 s0 s1 s2
    obtain ⟨D, hD⟩ : ∃ D, (r == 0 && m == 1 && a == 0) = D := ⟨_, rfl⟩
    have NE := fun w => neq_pad r m a w
    rw [hD] at NE
    obtain ⟨J, hJ, F, h0, hB, hN'⟩ := Cls.below w3
    have H0 := Lib.hid h0
    have HBn := Lib.hid hB
    have PDN := Lib.hid (show ∀ n, Calls Tryz.prog 33 #[] (F n) fun e w' => e = .returned (cellV 0 1 0) ∧ ∃ m, w' = F m from fun n => (refPad_walk (F n)).mono fun e w' ⟨he, hb⟩ => ⟨he, hN' n w' hb⟩)
    have XF := Lib.hid (show ∀ n, (F n).heap[gc]? = some (.cells #[.int .i32 r, .int .i64 m, .int .i64 a] 50 (0, 0)) from fun n => ((hB n).block gc (Array.getElem?_eq_some_iff.1 X4.out).1).trans X4.out)
    have k0 : ∀ n, (F n).cell? ⟨gc, 0, none⟩ = some (.int .i32 r) := fun n => cell_of_row _ _ 0 _ _ (0, 0) (XF.out n)
    have k1 : ∀ n, (F n).cell? ⟨gc, 1, none⟩ = some (.int .i64 m) := fun n => cell_of_row _ _ 1 _ _ (0, 0) (XF.out n)
    have k2 : ∀ n, (F n).cell? ⟨gc, 2, none⟩ = some (.int .i64 a) := fun n => cell_of_row _ _ 2 _ _ (0, 0) (XF.out n)
    have hkb : k < 1000000 := by omega
    have hinc : IntKind.i64.wrap ((k : Int) + 1) = (k : Int) + 1 := IntWalk.i64_in _ (by omega)
    have HD := Lib.hid hD
    clear h0 hB hN' hD
    by_cases hm0 : m = 0
    ·have hgt : ¬ (0 : Int) < m := by omega
     have hgd : decide ((0 : Int) < m) = false := by simp [hgt]
     have NS := Lib.hid (show (l.take (k + 1)).filter signC = (l.take k).filter signC from by
      rw [FN.out, show signC (r, m, a) = false by subst hm0; simp [signC]]
      simp)
     clear hm3
     refine Cls.region F H0.out (by kernel_rfl) (by kernel_rfl) ?_
     repeat (go_big_quiet_step ((go_at_call 33; exact PDN.out _)))
     refine wpQuiet_nil ?_
     intro _ hw'
     obtain ⟨nq, hw''⟩ := hw'
     subst hw''
     have IQ := Lib.hid (I3.out.trans ((HBn.out nq).mono I3.out.size))
     have OQ := Lib.hid (show HasC (F nq) w1.heap.size (.slice A1 p d) ys from own_laid O3.out (HBn.out nq))
     clear k0 k1 k2 NE hm0
     go_wp2
     go_roundw
     case rel => exact ⟨k + 1, p, d, A1, ys, by trivial, by go_num, by omega, by omega, IQ, Lib.hid ⟨OQ.out, O.out.2.1, O.out.2.2.trans NS.out.symm⟩, Lib.hid (fun h => by cases h)⟩
     case measure => simp [intOf]; omega
    ·have hgt : (0 : Int) < m := by omega
     have hgd : decide ((0 : Int) < m) = true := by simp [hgt]
     have hmz : (m == 0) = false := by simp [hm0]
     cases D with
     | true =>
      have NS := Lib.hid (show (l.take (k + 1)).filter signC = (l.take k).filter signC from by
       rw [FN.out, show signC (r, m, a) = false by unfold signC padC isB; simp only; rw [HD.out]; simp]
       simp)
      clear hm3
      refine Cls.region F H0.out (by kernel_rfl) (by kernel_rfl) ?_
      repeat (go_big_quiet_step ((go_at_call 33; exact PDN.out _)))
      refine wpQuiet_nil ?_
      intro _ hw'
      obtain ⟨nq, hw''⟩ := hw'
      subst hw''
      have IQ := Lib.hid (I3.out.trans ((HBn.out nq).mono I3.out.size))
      have OQ := Lib.hid (show HasC (F nq) w1.heap.size (.slice A1 p d) ys from own_laid O3.out (HBn.out nq))
      clear k0 k1 k2 NE hm0
      go_wp2
      go_roundw
      case rel => exact ⟨k + 1, p, d, A1, ys, by trivial, by go_num, by omega, by omega, IQ, Lib.hid ⟨OQ.out, O.out.2.1, O.out.2.2.trans NS.out.symm⟩, Lib.hid (fun h => by cases h)⟩
      case measure => simp [intOf]; omega
     | false =>
      have NS := Lib.hid (show (l.take (k + 1)).filter signC = (l.take k).filter signC ++ [(r, m, a)] from by
       rw [FN.out, show signC (r, m, a) = true by unfold signC padC isB; simp only; rw [HD.out, hmz]; rfl]
       simp)
      clear hm3
      refine Cls.region F H0.out (by kernel_rfl) (by kernel_rfl) ?_
      repeat (go_big_quiet_step ((go_at_call 33; exact PDN.out _)))
      refine wpQuiet_nil ?_
      intro _ hw'
      obtain ⟨nq, hw''⟩ := hw'
      subst hw''
      have IQ := Lib.hid (I3.out.trans ((HBn.out nq).mono I3.out.size))
      have OQ := Lib.hid (show (F nq).ownsRow w1.heap.size 50 3 (.slice A1 p d) p (flat ys) from by
       have h : (F nq).ownsRow w1.heap.size 50 3 (.slice A1 p d) ys.length (flat ys) := own_laid O3.out (HBn.out nq)
       rwa [O.out.2.1] at h)
      have j0 := k0 nq
      have j1 := k1 nq
      have j2 := k2 nq
      have hBz : w1.heap.size ≤ ((F nq).alloc (.cells #[.int .i32 r, .int .i64 m, .int .i64 a] 50)).heap.size := by
       have := IQ.out.size
       have := B1.out.size
       simp
       omega
      have HBZ := Lib.hid hBz
      have F1 := Lib.hid (show p + 1 ≤ maxLen ∧ (p + 1) * 24 ≤ 140737488355328 from by unfold maxLen; omega)
      clear k0 k1 k2 NE hm0 hBz
      go_wp2_with (at_builtin; refine wpList_append_own _ rfl _ _ 46 rfl w1.heap.size 50 i0 (.agg #[.int .i32 0, .int .i64 0, .int .i64 0]) 3 24 Tryz.underlying46 hi0 hz0 hz1 hz2 rfl (by decide) _ _ _ rfl (OQ.out.alloc _) ⟨(F nq).heap.size, 0, none⟩ 1 1 [.int .i32 r, .int .i64 m, .int .i64 a] rfl rfl (cell_three _ _ _ _ _) (by simp [Value.oneCell']) F1.out.1 F1.out.2 HBZ.out ?_; intro v4 w4 ho4 hg4 _; (obtain ⟨A4, d4, rfl, _⟩ := own_cap ho4); (have O4 := Lib.hid ho4); (have G4 := Lib.hid hg4); clear ho4 hg4)
      go_roundw
      case rel =>
       have ba : Laid (F nq) ((F nq).alloc (.cells #[.int .i32 r, .int .i64 m, .int .i64 a] 50)) := (Below.refl _ _).alloc (Nat.le_refl _) _
       refine ⟨k + 1, p + 1, d4, A4, ys ++ [(r, m, a)], by trivial, by go_num, by omega, by omega, Lib.hid ?_, Lib.hid ⟨?_, by rw [List.length_append, O.out.2.1]; rfl, by rw [NS.out, O.out.2.2]⟩, Lib.hid (fun h => by cases h)⟩
       ·exact (IQ.out.trans (ba.mono IQ.out.size)).grown G4.out HBZ.out (fun j e => (OQ.out.lt j e).1)
       ·show World.ownsRow _ _ _ _ _ (ys ++ [(r, m, a)]).length (flat (ys ++ [(r, m, a)]))
        rw [List.length_append, O.out.2.1, flat_append]
        exact O4.out
      case measure => simp [intOf]; omega
  ·obtain rfl : k = n := by omega
   have hnl : ¬ (k : Int) < (k : Int) := by omega
   have YA := Lib.hid (show HasC wr w.heap.size (.slice A1 p d) (cellsR (wrap, l)) from by
    have e : cellsR (wrap, l) = ys := by
     cases hM : M with
     | false =>
      rw [RF.out hM]
      have h0 := Z.out hM
      have h1 := O.out.2.1
      exact (List.length_eq_zero_iff.1 (by omega)).symm
     | true =>
      rw [RT.out hM, O.out.2.2, List.take_of_length_le (by rw [LN.out]; exact Nat.le_refl _)]
    rw [e]
    exact own_down O.out.1 B1.out.size)
   go_wp2
   go_ret
   exact ⟨_, rfl, YA.out, B1.out.trans (I.out.mono B1.out.size)⟩
end Ln
end Go.Proofs.YtgmijnnhanpocaaGreatDoor
