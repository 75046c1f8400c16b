/-
  The reference's Line: may these cells be a line? The reference's EqCells, of equal lists of cells.
-/
import Derived.Test.YtjhmndmnhkbigaaGreatDoorQXLine4
import Derived.Test.YtjhmndmnhkbigaaGreatDoorQXRefRow1
import Derived.Test.YtjhmndmnhkbigaaGreatDoorQXBase0
namespace Go.Proofs.YtjhmndmnhkbigaaGreatDoor
open Go.ChangeShapes Go.WideShapes Go.ChangeAt Go.RowKit
namespace Ln
open Rw
theorem okC_ref (r m a : Int) : okC (r, m, a) = (mayB (r, m, a) && !(m == 0) && !(r == 0 && m == 1 && a == 0)) := by
 cases hb : mayB (r, m, a) with
 | false => unfold okC; simp [hb]
 | true =>
  have h3 : m = 0 ∨ m = 1 ∨ m = 2 := by
   have hw := wof_range r
   unfold mayB at hb
   simp only [Bool.and_eq_true, Bool.or_eq_true, decide_eq_true_eq, beq_iff_eq, Prod.mk.injEq] at hb
   omega
  unfold okC hasB isB
  simp only [hb, Bool.and_true, Bool.true_and]
  rcases h3 with rfl | rfl | rfl <;> simp
theorem lineB_step {l : List Cel} {k : Nat} {r m a : Int} (h : l[k]? = some (r, m, a)) : lineB (l.drop k) = (mayB (r, m, a) && !(m == 0) && !(r == 0 && m == 1 && a == 0) && lineB (l.drop (k + 1))) := by
 rw [drop_get h, ← okC_ref]
 rfl
set_option maxRecDepth 100000 in
set_option maxHeartbeats 6400000 in
theorem refLine_walk (A : Option Addr) (n c : Nat) (l : List Cel) (w : World) (hl : ∀ c ∈ l, -2147483648 ≤ c.1 ∧ c.1 ≤ 2147483647) (hq : Sq w w.heap.size 3 n A (flat l)) (hn : n ≤ 1000000) :
  Calls Tryz.prog 26 #[.slice A n c] w fun e w' => e = .returned (.bool (lineB l)) ∧ Below w.heap.size w w' := by
 have hln : l.length = n := by have := hq.len; rw [flat_length] at this; omega
 have LN := Lib.hid hln
 have Q := Lib.hid hq
 have HL := Lib.hid hl
 have B1 := Lib.hid (Below.refl w.heap.size w)
 clear hln hq hl
 go_enter Tryz.func26, Tryz.ntmps26
 go_wp2_with fail
 go_loopw [3] (fun i wr => ∃ k : Nat, i = .int .i64 k ∧ k ≤ n ∧ Below w.heap.size w wr ∧ Hid (lineB (l.drop k) = lineB l)) (fun i _ => n - (intOf i).toNat)
 case atStart => exact ⟨0, rfl, Nat.zero_le _, B1.out, Lib.hid rfl⟩
 case round =>
  obtain ⟨k, rfl, hk, hb, RG⟩ := hrel
  have HB := Lib.hid hb
  have hsz := hb.size
  by_cases hlt : k < n
  ·obtain ⟨b, off, rfl, hbb, ⟨r, m, a⟩, hcc, q0, q1, q2⟩ := (Q.out.below hb).three hlt
   have hx := HL.out _ (List.mem_of_getElem? hcc)
   have ST := Lib.hid (lineB_step hcc)
   obtain ⟨C, hC⟩ : ∃ C, mayB (r, m, a) = C := ⟨_, rfl⟩
   obtain ⟨D, hD⟩ : ∃ D, (r == 0 && m == 1 && a == 0) = D := ⟨_, rfl⟩
   have MC := Lib.hid (fun w => refCell_walk r m a hx.1 hx.2 w)
   have NE := fun w => Rw.eql_cell r m a 0 1 0 w
   rw [hC] at MC ST
   rw [hD] at NE ST
   obtain ⟨I, hI, F, h0, hB, hN⟩ := Cls.below wr
   have H0 := Lib.hid h0
   have HBn := Lib.hid (fun n => HB.out.trans ((hB n).mono hsz))
   have HN := Lib.hid hN
   have RD := Lib.hid (show ∀ j c, l[j]? = some c → ∀ n, (F n).cell? ⟨b, off + j * 3, none⟩ = some (.int .i32 c.1) ∧ (F n).cell? ⟨b, off + j * 3 + 1, none⟩ = some (.int .i64 c.2.1) ∧ (F n).cell? ⟨b, off + j * 3 + 2, none⟩ = some (.int .i64 c.2.2) from fun j c hj n => (Q.out.below (HBn.out n)).cells hj)
   have c0 := fun n => (RD.out k _ hcc n).1
   have c1 := fun n => (RD.out k _ hcc n).2.1
   have c2 := fun n => (RD.out k _ hcc n).2.2
   dsimp only at c0 c1 c2
   have MCN := Lib.hid (show ∀ n, Calls Tryz.prog 54 #[cellV r m a] (F n) fun e w' => e = .returned (.bool C) ∧ ∃ m, w' = F m from fun n => (MC.out (F n)).mono fun e w' ⟨he, hb⟩ => ⟨he, HN.out n w' hb⟩)
   have PDN := Lib.hid (show ∀ n, Calls Tryz.prog 29 #[] (F n) fun e w' => e = .returned (cellV 0 1 0) ∧ ∃ m, w' = F m from fun n => (refPad_walk (F n)).mono fun e w' ⟨he, hb⟩ => ⟨he, HN.out n w' hb⟩)
   have hk0 : (0 : Int) ≤ (k : Int) := by omega
   have hkn : (k : Int) < (n : Int) := by omega
   clear hb hcc hC hD hbb hx q0 q1 q2 h0 hB hN MC
   go_wp2_with fail
   cases C
   ·refine Cls.region F H0.out (by kernel_rfl) (by kernel_rfl) ?_
    repeat (go_big_quiet_step ((first | (go_at_call 29; exact PDN.out _) | (go_at_call 54; exact MCN.out _))))
    refine wpQuiet_nil ?_
    intro _ hw'
    obtain ⟨nq, hw''⟩ := hw'
    subst hw''
    have BB := Lib.hid (HBn.out nq)
    have RF := Lib.hid (show lineB l = false by rw [← RG.out, ST.out]; simp)
    go_wp2
    go_ret
    exact ⟨ret_bool RF.out.symm, BB.out⟩
   ·cases h0 : (m == 0)
    ·cases D
     ·refine Cls.region F H0.out (by kernel_rfl) (by kernel_rfl) ?_
      repeat (go_big_quiet_step ((first | (go_at_call 29; exact PDN.out _) | (go_at_call 54; exact MCN.out _))))
      refine wpQuiet_nil ?_
      intro _ hw'
      obtain ⟨nq, hw''⟩ := hw'
      subst hw''
      have BB := Lib.hid (HBn.out nq)
      have RN := Lib.hid (show lineB (l.drop (k + 1)) = lineB l by rw [← RG.out, ST.out]; simp [h0])
      go_wp2
      go_roundw
      case rel => exact ⟨k + 1, by first | go_num | (congr 1; omega), by omega, BB.out, RN⟩
      case measure => first | (simp [intOf]; done) | (simp [intOf]; omega)
     ·refine Cls.region F H0.out (by kernel_rfl) (by kernel_rfl) ?_
      repeat (go_big_quiet_step ((first | (go_at_call 29; exact PDN.out _) | (go_at_call 54; exact MCN.out _))))
      refine wpQuiet_nil ?_
      intro _ hw'
      obtain ⟨nq, hw''⟩ := hw'
      subst hw''
      have BB := Lib.hid (HBn.out nq)
      have RF := Lib.hid (show lineB l = false by rw [← RG.out, ST.out]; simp)
      go_wp2
      go_ret
      exact ⟨ret_bool RF.out.symm, BB.out⟩
    ·refine Cls.region F H0.out (by kernel_rfl) (by kernel_rfl) ?_
     repeat (go_big_quiet_step ((first | (go_at_call 29; exact PDN.out _) | (go_at_call 54; exact MCN.out _))))
     refine wpQuiet_nil ?_
     intro _ hw'
     obtain ⟨nq, hw''⟩ := hw'
     subst hw''
     have BB := Lib.hid (HBn.out nq)
     have RF := Lib.hid (show lineB l = false by rw [← RG.out, ST.out, h0]; simp)
     go_wp2
     go_ret
     exact ⟨ret_bool RF.out.symm, BB.out⟩
  ·have hk' : k = n := by omega
   have E : l.drop k = [] := List.drop_eq_nil_of_le (by have := LN.out; omega)
   have RT := Lib.hid (show lineB l = true by rw [← RG.out, E]; rfl)
   clear hb E hk'
   go_wp2
   go_ret
   exact ⟨ret_bool RT.out.symm, HB.out⟩
end Ln
end Go.Proofs.YtjhmndmnhkbigaaGreatDoor
namespace Go.Proofs.YtjhmndmnhkbigaaGreatDoor
open Go.ChangeShapes Go.WideShapes Go.ChangeAt Go.RowKit
set_option maxRecDepth 100000 in
set_option maxHeartbeats 1600000 in
theorem eqc_yes (A A' : Option Addr) (n c n' c' : Nat) (l : List (Int × Int × Int)) (w : World) (hn : n ≤ 1099511627776) (hq : Sq w w.heap.size 3 n A (flat l)) (hq' : Sq w w.heap.size 3 n' A' (flat l)) :
  Calls Tryz.prog 24 #[.slice A n c, .slice A' n' c'] w fun e w' => e = .returned (.bool true) ∧ Below w.heap.size w w' := by
 have e : n' = n := by have h1 := hq.len; have h2 := hq'.len; omega
 subst e
 have Q := Lib.hid hq
 have Q' := Lib.hid hq'
 clear hq hq'
 go_enter Tryz.func24, Tryz.ntmps24
 go_wp2
 go_loopw [5] (fun i wr => ∃ k : Nat, i = .int .i64 k ∧ k ≤ n' ∧ Below w.heap.size w wr) (fun i _ => n' - (intOf i).toNat)
 case atStart => exact ⟨0, rfl, Nat.zero_le _, Below.refl _ _⟩
 case round =>
  obtain ⟨k, rfl, hk, hb⟩ := hrel
  by_cases hlt : k < n'
  ·obtain ⟨b, off, rfl, _, ⟨r, m, a⟩, hcc, q0, q1, q2⟩ := (Q.out.below hb).three hlt
   obtain ⟨b', off', rfl, _, ⟨r', m', a'⟩, hcc', q0', q1', q2'⟩ := (Q'.out.below hb).three hlt
   rw [hcc] at hcc'
   simp only [Option.some.injEq, Prod.mk.injEq] at hcc'
   obtain ⟨rfl, rfl, rfl⟩ := hcc'
   have HB := Lib.hid hb
   clear hb hcc
   go_wp2_with fail
   go_region
   all_goals go_wp2
   all_goals go_roundw
   case rel => exact ⟨k + 1, by go_num, by omega, HB.out.drew⟩
   case measure => simp [intOf]; omega
  ·go_wp2
   go_ret
   exact ⟨rfl, hb⟩
end Go.Proofs.YtjhmndmnhkbigaaGreatDoor
