/-
  The reference's Set. The reference's BlankRow.
-/
import Derived.Test.YtaclmhopcfgbmaaGreatDoorQRefRow2
import Derived.Test.YtaclmhopcfgbmaaGreatDoorQRefRow1
import Derived.Test.YtaclmhopcfgbmaaGreatDoorQRow2
import Derived.Test.YtaclmhopcfgbmaaGreatDoorQBase6
import Derived.Deep.CutRange
import Derived.Test.YtaclmhopcfgbmaaGreatDoorQBase3
import Derived.Test.YtaclmhopcfgbmaaGreatDoorQBase4
namespace Go.Proofs.YtaclmhopcfgbmaaGreatDoor
open Go.ChangeShapes Go.WideShapes Go.ChangeAt Go.RowKit
namespace Rw
def okOne : List Cel → Bool
 | [c] => (c.1 == 0 && c.2.1 == 1 && c.2.2 == 0) || (c.2.1 == 1 && mayB c)
 | _ => false
def okTwo : List Cel → Bool
 | [c, d] => c.2.1 == 2 && mayB c && (d.1 == 0 && d.2.1 == 0 && d.2.2 == c.2.2)
 | _ => false
theorem ofL_len (r a : Int) : (ofL r a).length ≤ 2 := by
 unfold ofL
 repeat' split
 all_goals simp
theorem one_two (L : List Cel) : isOneB L = (okOne L || okTwo L) := by
 cases L with
 | nil => rfl
 | cons c L =>
  obtain ⟨r, w, a⟩ := c
  cases L with
  | nil =>
   show ((decide (([] : List Cel) = []) && isB 0 r w a) || eqL [(r, w, a)] (ofL r a)) = (((r == 0 && w == 1 && a == 0) || (w == 1 && mayB (r, w, a))) || false)
   rw [decide_eq_true rfl, Bool.true_and, Bool.or_false]
   show ((r == 0 && w == 1 && a == 0) || eqL [(r, w, a)] (ofL r a)) = _
   cases hp : (r == 0 && w == 1 && a == 0) with
   | true => simp
   | false =>
    simp only [Bool.false_or]
    rw [Bool.eq_iff_iff]
    unfold eqL ofL mayA mayB
    simp only [decide_eq_true_eq, Bool.and_eq_true, Bool.or_eq_true, beq_iff_eq, Prod.mk.injEq]
    constructor
    ·intro h
     split at h
     ·rename_i ha
      split at h
      ·rename_i hw
       simp only [List.cons.injEq, Prod.mk.injEq, and_true, true_and] at h
       refine ⟨h, ha, .inr ⟨by omega, by rw [hw]; exact h⟩⟩
      ·split at h
       ·simp at h
       ·cases h
     ·cases h
    ·rintro ⟨hw, ha, h | h⟩
     ·rcases h with ⟨h1, h2, h3⟩ | h
      ·exfalso
       rw [h1, h2, h3] at hp
       simp at hp
      ·omega
     ·rw [if_pos ha, if_pos (by omega), hw]
  | cons d L =>
   cases L with
   | nil =>
    obtain ⟨r', w', a'⟩ := d
    show ((decide (([(r', w', a')] : List Cel) = []) && isB 0 r w a) || eqL [(r, w, a), (r', w', a')] (ofL r a)) = (false || (w == 2 && mayB (r, w, a) && (r' == 0 && w' == 0 && a' == a)))
    rw [decide_eq_false (by simp), Bool.false_and, Bool.false_or, Bool.false_or]
    rw [Bool.eq_iff_iff]
    unfold eqL ofL mayA mayB
    simp only [decide_eq_true_eq, Bool.and_eq_true, Bool.or_eq_true, beq_iff_eq, Prod.mk.injEq]
    constructor
    ·intro h
     split at h
     ·rename_i ha
      split at h
      ·simp at h
      ·split at h
       ·rename_i hw
        simp only [List.cons.injEq, Prod.mk.injEq, and_true, true_and] at h
        obtain ⟨h1, h2, h3, h4⟩ := h
        refine ⟨⟨h1, ha, .inr ⟨by omega, by rw [hw]; exact h1⟩⟩, ⟨h2, h3⟩, h4⟩
       ·cases h
     ·cases h
    ·rintro ⟨⟨hw, ha, h⟩, ⟨h2, h3⟩, h4⟩
     have hw2 : wof r = 2 := by
      rcases h with (⟨_, e, _⟩ | ⟨e, _⟩) | ⟨_, e⟩
      ·omega
      ·omega
      ·omega
     rw [if_pos ha, if_neg (by omega), if_pos hw2, hw, h2, h3, h4]
   | cons e L =>
    show ((decide ((d :: e :: L : List Cel) = []) && isB 0 r w a) || eqL ((r, w, a) :: d :: e :: L) (ofL r a)) = (false || false)
    rw [decide_eq_false (by simp), Bool.false_and, Bool.false_or]
    unfold eqL
    rw [decide_eq_false]
    ·rfl
    ·intro h
     have h1 := congrArg List.length h
     have h2 := ofL_len r a
     simp at h1
     omega
set_option maxRecDepth 100000 in
set_option maxHeartbeats 12800000 in
theorem refSet_walk (A : Option Addr) (n c : Nat) (wrap : Bool) (l : List Cel) (col : Int) (A2 : Option Addr) (m c2 : Nat) (L : List Cel) (w : World) (hc : n ≤ c) (hl : ∀ c ∈ l, -2147483648 ≤ c.1 ∧ c.1 ≤ 2147483647) (hL : ∀ c ∈ L, -2147483648 ≤ c.1 ∧ c.1 ≤ 2147483647) (hq : Sq w w.heap.size 3 n A (flat l)) (hn : n ≤ 1000000) (hm : m ≤ 1000000) (hq2 : Sq w w.heap.size 3 m A2 (flat L)) :
  Calls Tryz.prog 22 #[rowV A n c wrap, .int .i64 col, .slice A2 m c2] w fun e w' => RPostE (setOk l col L) wrap (setRes l col L) w e w' := by
 have hln : l.length = n := by have := hq.len; rw [flat_length] at this; omega
 have hLm : L.length = m := by have := hq2.len; rw [flat_length] at this; omega
 have Q := Lib.hid hq
 have Q2 := Lib.hid hq2
 have HL := Lib.hid hl
 have HL2 := Lib.hid hL
 have LN := Lib.hid hln
 have LM := Lib.hid hLm
 clear hq hq2 hl hL hln hLm
 go_enter Tryz.func22, Tryz.ntmps22
 go_upto_region 1 with fail
 have ba := ((Below.refl w.heap.size w).alloc (Nat.le_refl _) (.cells #[.slice A n c, .bool wrap] 40)).alloc (by simp) (.cells #[.slice none 0 0, .bool false] 40)
 have r0 : RowAt ((w.alloc (.cells #[.slice A n c, .bool wrap] 40)).alloc (.cells #[.slice none 0 0, .bool false] 40)) w.heap.size (.slice A n c) wrap := (Below.heap_alloc _ _ _ (by simp)).trans (heap_alloc_new w _)
 have z0 : RowAt ((w.alloc (.cells #[.slice A n c, .bool wrap] 40)).alloc (.cells #[.slice none 0 0, .bool false] 40)) (w.heap.size + 1) (.slice none 0 0) false := by
  have h := heap_alloc_new (w.alloc (.cells #[.slice A n c, .bool wrap] 40)) (.cells #[.slice none 0 0, .bool false] 40)
  rw [World.size_alloc] at h
  exact h
 generalize (w.alloc (.cells #[.slice A n c, .bool wrap] 40)).alloc (.cells #[.slice none 0 0, .bool false] 40) = wa at ba r0 z0 ⊢
 obtain ⟨g0, hg0⟩ : ∃ g0, w.heap.size = g0 := ⟨_, rfl⟩
 obtain ⟨g1, hg1⟩ : ∃ g1, g0 + 1 = g1 := ⟨_, rfl⟩
 rw [hg0, hg1] at z0
 rw [hg0] at r0
 have HG1 := Lib.hid (show w.heap.size ≤ g1 by omega)
 have R0 := Lib.hid r0
 have Z0 := Lib.hid z0
 have BA := Lib.hid ba
 rw [hg0, hg1]
 clear hg0 hg1 ba r0 z0
 have S2 := Lib.hid (show ∀ W, Below wa.heap.size wa W → Sq W W.heap.size 3 m A2 (flat L) from fun W b => (((Q2.out.below BA.out).up BA.out.size).below b).up b.size)
 go_cut [8] from 10 to 32 (fun s8 wx => s8 = .bool (okOne L) ∧ Hid (Below wa.heap.size wa wx))
 case first =>
  have BW := Lib.hid (Below.refl wa.heap.size wa)
  obtain ⟨I, hI, F, h0, hB, hN⟩ := Cls.below wa
  have PD : ∀ n, Calls Tryz.prog 62 #[] (F n) fun e w' => e = .returned (cellV 0 1 0) ∧ ∃ m, w' = F m := fun n => (refPad_walk (F n)).mono fun e w' ⟨he, hb⟩ => ⟨he, hN n w' hb⟩
  have SF := Lib.hid (fun n => S2.out (F n) (hB n))
  by_cases hm1 : m = 1
  ·subst hm1
   obtain ⟨⟨x, y, z⟩, rfl⟩ : ∃ c, L = [c] := List.length_eq_one_iff.1 LM.out
   have hx := HL2.out (x, y, z) (by simp)
   have CB := Lib.hid (fun w => refCell_walk x y z hx.1 hx.2 w)
   obtain ⟨mb, hmb⟩ : ∃ mb, mayB (x, y, z) = mb := ⟨_, rfl⟩
   rw [hmb] at CB
   have OL : okOne [(x, y, z)] = ((x == 0 && y == 1 && z == 0) || (y == 1 && mb)) := by rw [← hmb]; rfl
   have O := Lib.hid OL
   obtain ⟨b, off, rfl, hb, _⟩ := (S2.out wa (Below.refl _ _)).spot (by omega)
   have e0 : ∀ n, (F n).cell? ⟨b, off, none⟩ = some (.int .i32 x) := fun n => by have := (Sq.cellsAt (SF.out n) (k := 0) (c := (x, y, z)) rfl).1; simpa using this
   have e1 : ∀ n, (F n).cell? ⟨b, off + 1, none⟩ = some (.int .i64 y) := fun n => by have := (Sq.cellsAt (SF.out n) (k := 0) (c := (x, y, z)) rfl).2.1; simpa using this
   have e2 : ∀ n, (F n).cell? ⟨b, off + 2, none⟩ = some (.int .i64 z) := fun n => by have := (Sq.cellsAt (SF.out n) (k := 0) (c := (x, y, z)) rfl).2.2; simpa using this
   have hE := fun w => eql_cell x y z 0 1 0 w
   have CE : ∀ n, Calls Tryz.prog 63 #[cellV x y z] (F n) fun e w' => e = .returned (.bool mb) ∧ ∃ m, w' = F m := fun n => (CB.out (F n)).mono fun e w' ⟨he, hb⟩ => ⟨he, hN n w' hb⟩
   obtain ⟨pd, hpd⟩ : ∃ pd, (x == 0 && y == 1 && z == 0) = pd := ⟨_, rfl⟩
   rw [hpd] at hE O
   clear OL hmb hpd
   cases pd
   ·by_cases hy : y = 1
    ·subst hy
     refine Cls.region F h0 (by kernel_rfl) (by kernel_rfl) ?_
     repeat (go_big_quiet_step ((first | (go_at_call 62; exact PD _) | (go_at_call 63; exact CE _))))
     refine wpQuiet_nil ?_
     intro _ hw'
     obtain ⟨nq, hw''⟩ := hw'
     subst hw''
     go_wp2
     go_meet
     exact ⟨by rw [O.out]; simp, Lib.hid (BW.out.trans ((hB nq).mono BW.out.size))⟩
    ·have hyb : (y == 1) = false := by simpa using hy
     refine Cls.region F h0 (by kernel_rfl) (by kernel_rfl) ?_
     repeat (go_big_quiet_step ((first | (go_at_call 62; exact PD _) | (go_at_call 63; exact CE _))))
     refine wpQuiet_nil ?_
     intro _ hw'
     obtain ⟨nq, hw''⟩ := hw'
     subst hw''
     go_wp2
     go_meet
     exact ⟨by rw [O.out, hyb]; rfl, Lib.hid (BW.out.trans ((hB nq).mono BW.out.size))⟩
   ·refine Cls.region F h0 (by kernel_rfl) (by kernel_rfl) ?_
    repeat (go_big_quiet_step ((first | (go_at_call 62; exact PD _) | (go_at_call 63; exact CE _))))
    refine wpQuiet_nil ?_
    intro _ hw'
    obtain ⟨nq, hw''⟩ := hw'
    subst hw''
    go_wp2
    go_meet
    exact ⟨by rw [O.out]; rfl, Lib.hid (BW.out.trans ((hB nq).mono BW.out.size))⟩
  ·have hm1' : ((m : Int) == 1) = false := by simp; omega
   have O := Lib.hid (show okOne L = false from by
    have h := LM.out
    match L, h with
    | [], _ => rfl
    | [c], h => exact absurd h.symm hm1
    | _ :: _ :: _, _ => rfl)
   have CE : True := trivial
   refine Cls.region F h0 (by kernel_rfl) (by kernel_rfl) ?_
   repeat (go_big_quiet_step ((first | (go_at_call 62; exact PD _) | (go_at_call 63; exact CE _))))
   refine wpQuiet_nil ?_
   intro _ hw'
   obtain ⟨nq, hw''⟩ := hw'
   subst hw''
   go_wp2
   go_meet
   exact ⟨by rw [O.out], Lib.hid (BW.out.trans ((hB nq).mono BW.out.size))⟩
 case rest =>
  obtain ⟨rfl, B8⟩ := hcut
  have S3 := Lib.hid (show ∀ W, Below wc.heap.size wc W → Sq W W.heap.size 3 m A2 (flat L) from fun W b => S2.out W (B8.out.trans (b.mono B8.out.size)))
  go_upto_region 2 with fail
  go_cut [9] from 33 to 59 (fun s9 wx => s9 = .bool (okTwo L) ∧ Hid (Below wa.heap.size wa wx))
  case first =>
   obtain ⟨I, hI, F, h0, hB, hN⟩ := Cls.below wc
   have SF := Lib.hid (fun n => S3.out (F n) (hB n))
   by_cases hm1 : m = 2
   ·subst hm1
    obtain ⟨⟨x, y, z⟩, ⟨x', y', z'⟩, rfl⟩ : ∃ c d, L = [c, d] := by
     have h := LM.out
     match L, h with
     | [c, d], _ => exact ⟨c, d, rfl⟩
    have hx := HL2.out (x, y, z) (by simp)
    have CB := Lib.hid (fun w => refCell_walk x y z hx.1 hx.2 w)
    obtain ⟨mb, hmb⟩ : ∃ mb, mayB (x, y, z) = mb := ⟨_, rfl⟩
    rw [hmb] at CB
    have hE := fun w => eql_cell x' y' z' 0 0 z w
    obtain ⟨pd, hpd⟩ : ∃ pd, (x' == 0 && y' == 0 && z' == z) = pd := ⟨_, rfl⟩
    rw [hpd] at hE
    have O := Lib.hid (show okTwo [(x, y, z), (x', y', z')] = (y == 2 && mb && pd) by rw [← hmb, ← hpd]; rfl)
    obtain ⟨b, off, rfl, hb, _⟩ := (S3.out wc (Below.refl _ _)).spot (by omega)
    have e0 : ∀ n, (F n).cell? ⟨b, off, none⟩ = some (.int .i32 x) := fun n => by have := (Sq.cellsAt (SF.out n) (k := 0) (c := (x, y, z)) rfl).1; simpa using this
    have e1 : ∀ n, (F n).cell? ⟨b, off + 1, none⟩ = some (.int .i64 y) := fun n => by have := (Sq.cellsAt (SF.out n) (k := 0) (c := (x, y, z)) rfl).2.1; simpa using this
    have e2 : ∀ n, (F n).cell? ⟨b, off + 2, none⟩ = some (.int .i64 z) := fun n => by have := (Sq.cellsAt (SF.out n) (k := 0) (c := (x, y, z)) rfl).2.2; simpa using this
    have f0 : ∀ n, (F n).cell? ⟨b, off + 3, none⟩ = some (.int .i32 x') := fun n => by have := (Sq.cellsAt (SF.out n) (k := 1) (c := (x', y', z')) rfl).1; simpa using this
    have f1 : ∀ n, (F n).cell? ⟨b, off + 3 + 1, none⟩ = some (.int .i64 y') := fun n => by have := (Sq.cellsAt (SF.out n) (k := 1) (c := (x', y', z')) rfl).2.1; simpa using this
    have f2 : ∀ n, (F n).cell? ⟨b, off + 3 + 2, none⟩ = some (.int .i64 z') := fun n => by have := (Sq.cellsAt (SF.out n) (k := 1) (c := (x', y', z')) rfl).2.2; simpa using this
    have CE : ∀ n, Calls Tryz.prog 63 #[cellV x y z] (F n) fun e w' => e = .returned (.bool mb) ∧ ∃ m, w' = F m := fun n => (CB.out (F n)).mono fun e w' ⟨he, hb⟩ => ⟨he, hN n w' hb⟩
    clear hmb hpd
    by_cases hy : y = 2
    ·subst hy
     cases mb
     ·refine Cls.region F h0 (by kernel_rfl) (by kernel_rfl) ?_
      repeat (go_big_quiet_step ((go_at_call 63; exact CE _)))
      refine wpQuiet_nil ?_
      intro _ hw'
      obtain ⟨nq, hw''⟩ := hw'
      subst hw''
      go_wp2
      go_meet
      exact ⟨by rw [O.out]; rfl, Lib.hid (B8.out.trans ((hB nq).mono B8.out.size))⟩
     ·refine Cls.region F h0 (by kernel_rfl) (by kernel_rfl) ?_
      repeat (go_big_quiet_step ((go_at_call 63; exact CE _)))
      refine wpQuiet_nil ?_
      intro _ hw'
      obtain ⟨nq, hw''⟩ := hw'
      subst hw''
      go_wp2
      go_meet
      exact ⟨by rw [O.out]; simp, Lib.hid (B8.out.trans ((hB nq).mono B8.out.size))⟩
    ·have hyb : (y == 2) = false := by simpa using hy
     refine Cls.region F h0 (by kernel_rfl) (by kernel_rfl) ?_
     repeat (go_big_quiet_step ((go_at_call 63; exact CE _)))
     refine wpQuiet_nil ?_
     intro _ hw'
     obtain ⟨nq, hw''⟩ := hw'
     subst hw''
     go_wp2
     go_meet
     exact ⟨by rw [O.out, hyb]; rfl, Lib.hid (B8.out.trans ((hB nq).mono B8.out.size))⟩
   ·have hm1' : ((m : Int) == 2) = false := by simp; omega
    have O := Lib.hid (show okTwo L = false from by
     have h := LM.out
     match L, h with
     | [], _ => rfl
     | [c], _ => rfl
     | [c, d], h => exact absurd h.symm hm1
     | _ :: _ :: _ :: _, _ => rfl)
    have CE : True := trivial
    refine Cls.region F h0 (by kernel_rfl) (by kernel_rfl) ?_
    repeat (go_big_quiet_step ((go_at_call 63; exact CE _)))
    refine wpQuiet_nil ?_
    intro _ hw'
    obtain ⟨nq, hw''⟩ := hw'
    subst hw''
    go_wp2
    go_meet
    exact ⟨by rw [O.out], Lib.hid (B8.out.trans ((hB nq).mono B8.out.size))⟩
  case rest =>
   clear S3 B8
   obtain ⟨rfl, B9⟩ := hcut
   obtain ⟨o1, ho1⟩ : ∃ o, okOne L = o := ⟨_, rfl⟩
   obtain ⟨o2, ho2⟩ : ∃ o, okTwo L = o := ⟨_, rfl⟩
   have PO := Lib.hid (show isOneB L = (o1 || o2) by rw [← ho1, ← ho2]; exact one_two L)
   rw [ho1, ho2]
   clear ho1 ho2
   go_upto_region 3 with fail
   go_cut [91] from 60 (fun s91 wx => s91 = .bool (!setOk l col L) ∧ Hid (Below wa.heap.size wa wx))
   case first =>
    have R2 := Lib.hid (show RowAt wc g0 (.slice A n c) wrap from (B9.out.block g0 R0.out.lt).trans R0.out)
    have BC := Lib.hid (BA.out.trans (B9.out.mono BA.out.size))
    have r0 := R2.out.get 0
    have r1 := R2.out.get 1
    go_wp2_with fail
    refine (refRow_walk A n c wrap l wc HL.out ((Q.out.below BC.out).up BC.out.size) hn).mono ?_
    rintro e w2 ⟨rfl, b2⟩
    have R3 := Lib.hid (show RowAt w2 g0 (.slice A n c) wrap from (b2.block g0 R2.out.lt).trans R2.out)
    have B2 := Lib.hid (B9.out.trans (b2.mono B9.out.size))
    clear b2 r0 r1
    have r0 := R3.out.get 0
    obtain ⟨mb, hmb⟩ : ∃ mb, mayL l = mb := ⟨_, rfl⟩
    have MB := Lib.hid hmb
    rw [hmb]
    clear hmb
    cases mb with
    | false =>
     have E := Lib.hid (show setOk l col L = false by unfold setOk; rw [MB.out]; rfl)
     go_wp2_with fail
     go_meet
     exact ⟨by rw [E.out]; rfl, B2⟩
    | true =>
     by_cases ha0 : col < 0
     ·have E := Lib.hid (show setOk l col L = false by unfold setOk; rw [decide_eq_false (show ¬ 0 ≤ col by omega)]; simp)
      go_wp2_with fail
      go_meet
      exact ⟨by rw [E.out]; rfl, B2⟩
     by_cases hab : (n : Int) < col
     ·have E := Lib.hid (show setOk l col L = false by unfold setOk; rw [LN.out, LM.out, decide_eq_false (show ¬ col ≤ (n : Int) - (m : Int) by omega)]; simp)
      go_wp2_with fail
      go_meet
      exact ⟨by rw [E.out]; rfl, B2⟩
     have hsub : IntKind.i64.wrap ((n : Int) - col) = (n : Int) - col := IntWalk.i64_in _ (by omega)
     by_cases hbn : (n : Int) - col < (m : Int)
     ·have E := Lib.hid (show setOk l col L = false by unfold setOk; rw [LN.out, LM.out, decide_eq_false (show ¬ col ≤ (n : Int) - (m : Int) by omega)]; simp)
      go_wp2_with fail
      go_meet
      exact ⟨by rw [E.out]; rfl, B2⟩
     ·have E := Lib.hid (show setOk l col L = (o1 || o2) by
       unfold setOk
       rw [MB.out, PO.out, LN.out, LM.out, decide_eq_true (show 0 ≤ col by omega), decide_eq_true (show col ≤ (n : Int) - (m : Int) by omega)]
       simp)
      cases o1 <;> cases o2
      all_goals
       go_wp2_with fail
       go_meet
       exact ⟨by rw [E.out]; first | rfl | (rw [decide_eq_false (show ¬ col < 0 by omega), decide_eq_false (show ¬ (n : Int) < col by omega), decide_eq_false (show ¬ (n : Int) - col < (m : Int) by omega)]; rfl), B2⟩
   case rest =>
    clear B9
    obtain ⟨rfl, B2⟩ := hcut
    have R2 := Lib.hid (show RowAt wc g0 (.slice A n c) wrap from (B2.out.block g0 R0.out.lt).trans R0.out)
    have Z2 := Lib.hid (show RowAt wc g1 (.slice none 0 0) false from (B2.out.block g1 Z0.out.lt).trans Z0.out)
    have BW := Lib.hid (BA.out.trans (B2.out.mono BA.out.size))
    have r0 := R2.out.get 0
    have r1 := R2.out.get 1
    obtain ⟨ok, hok⟩ : ∃ ok, setOk l col L = ok := ⟨_, rfl⟩
    have OK := Lib.hid hok
    rw [hok]
    clear hok R0 Z0
    cases ok with
    | false =>
     have e1 : setRes l col L = l := by unfold setRes; rw [OK.out]; rfl
     have PE := Lib.hid (fun e w' => (show RPostE false wrap l w e w' → RPostE (setOk l col L) wrap (setRes l col L) w e w' by rw [OK.out, e1]; exact id))
     clear e1
     have z0 : wc.cell? ⟨g1, 0, none⟩ = some (.slice none 0 0) := Z2.out.get 0
     have z1 : wc.cell? ⟨g1, 1, none⟩ = some (.bool false) := Z2.out.get 1
     have zf0 := Z2.out.free 0
     have zf1 := Z2.out.free 1
     have RF := Lib.hid (RowAt.put2 Z2.out (.slice A n c) wrap)
     have OF := (OnlyRow.cell g1 0 wc (.slice A n c)).trans (OnlyRow.cell g1 1 _ (.bool wrap))
     have BF := Lib.hid (BW.out.trans ((Turned.ofOnly OF).toBelow BW.out.size (fun k hk e => by have := HG1.out; omega)))
     clear OF
     go_wp2
     generalize (wc.setCell ⟨g1, 0, none⟩ (.slice A n c)).setCell ⟨g1, 1, none⟩ (.bool wrap) = wz at RF BF ⊢
     have e0 : wz.cell? ⟨g1, 0, none⟩ = some (.slice A n c) := RF.out.get 0
     have e1 : wz.cell? ⟨g1, 1, none⟩ = some (.bool wrap) := RF.out.get 1
     refine bodyPost_ret (v := .tuple #[.agg #[.slice A n c, .bool wrap], .bool false]) (by simp [results, Tryz.results22, go_sem, e0, e1]) rfl (PE.out _ _ ?_)
     exact ⟨_, _, _, rfl, hc, (Q.out.below BF.out).up BF.out.size, BF.out⟩
    | true =>
     have hb : ((mayL l = true ∧ isOneB L = true) ∧ 0 ≤ col) ∧ col ≤ (n : Int) - (m : Int) := by
      have h := OK.out
      unfold setOk at h
      rw [LN.out, LM.out] at h
      simpa only [Bool.and_eq_true, decide_eq_true_eq] using h
     obtain ⟨⟨⟨hm0, hone⟩, ha⟩, hab⟩ := hb
     have hm1 : 0 < m := by
      have h := LM.out
      cases L with
      | nil => cases hone
      | cons c L => rw [List.length_cons] at h; omega
     have hg := ((mayL_iff l).1 hm0).2
     obtain ⟨k, rfl⟩ := Int.eq_ofNat_of_zero_le ha
     have hkm : k + m ≤ n := by omega
     have EQ := Lib.hid (show scanK (putO (ovL l k (blanksL m)) k L) n = setRes l (k : Int) L by
      unfold setRes
      rw [OK.out, if_pos rfl, Int.toNat_natCast, ← scan_blanks hg hm1 (by rw [LN.out]; exact hkm), ← LN.out, ← LM.out]
      exact refSet_eq hg (isOne_whole hone) (by rw [LN.out, LM.out]; exact hkm))
     have hlen2 : (ovL l k (blanksL m)).length = n := by rw [ovL_length]; exact LN.out
     have MK := Lib.hid (refMark_good A n c wrap l k m wc hg hn ((Q.out.below BW.out).up BW.out.size) hkm)
     rw [if_pos hm1] at MK
     have LEN2 := Lib.hid hlen2
     clear hg hm0 hone hlen2
     go_wp2_with fail
     refine MK.out.mono ?_
     rintro e w3 ⟨A3, n3, c3, rfl, h3, b3⟩
     obtain rfl : n3 = n := by
      obtain ⟨_, _, e, _⟩ := HasC.shape h3
      injection e with _ e1 _
      rw [e1, LEN2.out]
     have Z3 := Lib.hid (show RowAt w3 g1 (.slice none 0 0) false from (b3.block g1 Z2.out.lt).trans Z2.out)
     have B3 := Lib.hid (BW.out.trans (b3.mono BW.out.size))
     have OV := Lib.hid (refOver_walk A3 n3 c3 wrap (ovL l k (blanksL m)) k A2 m c2 L w3 (by omega) hn (HasC.sq h3) ((Q2.out.below B3.out).up B3.out.size) hkm)
     rw [EQ.out] at OV
     clear R2 Z2 MK b3 h3 r0 r1
     go_wp2_with fail
     refine OV.out.mono ?_
     rintro e w4 ⟨A4, n4, c4, rfl, h4, b4⟩
     have Z4 := Lib.hid (show RowAt w4 g1 (.slice none 0 0) false from (b4.block g1 Z3.out.lt).trans Z3.out)
     have B4 := Lib.hid (B3.out.trans (b4.mono B3.out.size))
     have hc4 : n4 ≤ c4 := by obtain ⟨_, _, e, h⟩ := HasC.shape h4; injection e with _ e1 e2; omega
     have NB := Lib.hid (fun j (e : (Value.slice A4 n4 c4).ownBlock = some j) => HasC.lt h4 j e)
     have FIN := Lib.hid (fun (W : World) (h : HasC W w3.heap.size (.slice A4 n4 c4) (setRes l (k : Int) L)) => (show Sq W W.heap.size 3 n4 A4 (flat (setRes l (k : Int) L)) by
      obtain ⟨_, _, e, _⟩ := HasC.shape h
      injection e with _ e1 _
      subst e1
      exact HasC.sq h))
     have z0 : w4.cell? ⟨g1, 0, none⟩ = some (.slice none 0 0) := Z4.out.get 0
     have z1 : w4.cell? ⟨g1, 1, none⟩ = some (.bool false) := Z4.out.get 1
     have zf0 := Z4.out.free 0
     have zf1 := Z4.out.free 1
     have RF := Lib.hid (RowAt.put2 Z4.out (.slice A4 n4 c4) wrap)
     have OF := (OnlyRow.cell g1 0 w4 (.slice A4 n4 c4)).trans (OnlyRow.cell g1 1 _ (.bool wrap))
     have HF := Lib.hid (HasC.keep h4 (fun j e => OF.block j (by have h1 := (NB.out j e).1; have h2 := Z3.out.lt; omega)))
     have BF := Lib.hid (B4.out.trans ((Turned.ofOnly OF).toBelow B4.out.size (fun k hk e => by have := HG1.out; omega)))
     clear OF h4
     go_wp2
     generalize (w4.setCell ⟨g1, 0, none⟩ (.slice A4 n4 c4)).setCell ⟨g1, 1, none⟩ (.bool wrap) = wz at RF HF BF ⊢
     have e0 : wz.cell? ⟨g1, 0, none⟩ = some (.slice A4 n4 c4) := RF.out.get 0
     have e1 : wz.cell? ⟨g1, 1, none⟩ = some (.bool wrap) := RF.out.get 1
     refine bodyPost_ret (v := .tuple #[.agg #[.slice A4 n4 c4, .bool wrap], .bool true]) (by simp [results, Tryz.results22, go_sem, e0, e1]) rfl ?_
     rw [OK.out]
     exact ⟨_, _, _, rfl, hc4, (FIN.out wz HF.out), BF.out⟩
end Rw
end Go.Proofs.YtaclmhopcfgbmaaGreatDoor
namespace Go.Proofs.YtaclmhopcfgbmaaGreatDoor
open Go.ChangeShapes Go.WideShapes Go.ChangeAt Go.RowKit
namespace Rw
set_option maxRecDepth 100000 in
set_option maxHeartbeats 6400000 in
theorem refBlankRow_walk (x : Int) (w : World) :
  Calls Tryz.prog 27 #[.int .i64 x] w fun e w' => OverPost false (blanksL (blankN x)) w e w' := by
 obtain ⟨i0, hi0, hz0, hz1, hz2⟩ := info_parts infoCell
 obtain ⟨q, hq⟩ : ∃ k, blankN x = k := ⟨_, rfl⟩
 have hq3 : q ≤ 300 := by rw [← hq]; unfold blankN; omega
 have hqx : min (max x 0) 300 = (q : Int) := by rw [← hq]; unfold blankN; omega
 rw [hq]
 clear hq
 go_enter Tryz.func27, Tryz.ntmps27
 go_wp2_with fail
 have ba := ((Below.refl w.heap.size w).alloc (Nat.le_refl _) (.cells #[.slice none 0 0, .bool false] 40)).alloc (by simp) (.cells #[.slice none 0 0, .bool false] 40)
 have r0 : RowAt ((w.alloc (.cells #[.slice none 0 0, .bool false] 40)).alloc (.cells #[.slice none 0 0, .bool false] 40)) w.heap.size (.slice none 0 0) false := (Below.heap_alloc _ _ _ (by simp)).trans (heap_alloc_new w _)
 have z0 : RowAt ((w.alloc (.cells #[.slice none 0 0, .bool false] 40)).alloc (.cells #[.slice none 0 0, .bool false] 40)) (w.heap.size + 1) (.slice none 0 0) false := by
  have h := heap_alloc_new (w.alloc (.cells #[.slice none 0 0, .bool false] 40)) (.cells #[.slice none 0 0, .bool false] 40)
  rw [World.size_alloc] at h
  exact h
 have sa : ((w.alloc (.cells #[.slice none 0 0, .bool false] 40)).alloc (.cells #[.slice none 0 0, .bool false] 40)).heap.size = w.heap.size + 2 := by simp
 generalize (w.alloc (.cells #[.slice none 0 0, .bool false] 40)).alloc (.cells #[.slice none 0 0, .bool false] 40) = wa at ba r0 z0 sa ⊢
 obtain ⟨g0, hg0⟩ : ∃ g0, w.heap.size = g0 := ⟨_, rfl⟩
 obtain ⟨g1, hg1⟩ : ∃ g1, g0 + 1 = g1 := ⟨_, rfl⟩
 rw [hg0, hg1] at z0
 rw [hg0] at r0 sa
 have HGW := Lib.hid (show wa.heap.size = g1 + 1 by omega)
 have HG1 := Lib.hid (show w.heap.size ≤ g1 by omega)
 have HG0 := Lib.hid hg0
 have HG01 := Lib.hid hg1
 have R0 := Lib.hid r0
 have Z0 := Lib.hid z0
 have BA := Lib.hid ba
 rw [hg0, hg1]
 clear hg0 hg1 ba r0 z0 sa
 go_loopw [4] (fun i wr => ∃ (j : Nat) (v : Value), i = .int .i64 j ∧ j ≤ q ∧ Hid (RowAt wr g1 v false) ∧ Hid (RowAt wr g0 (.slice none 0 0) false) ∧ Hid (HasC wr wa.heap.size v (blanksL j)) ∧ Hid (Below w.heap.size w wr)) (fun i _ => q - (intOf i).toNat)
 case atStart => exact ⟨0, _, rfl, Nat.zero_le _, Z0, R0, Lib.hid (HasC.nothing _ _), BA⟩
 case round =>
  obtain ⟨j, v, rfl, hj, Z, R, H, B⟩ := hrel
  have hsz := B.out.size
  by_cases hlt : j < q
  ·obtain ⟨Av, cv, rfl, hcv⟩ := HasC.shape H.out
   rw [blanksL_length] at hcv Z H
   have z0 : wr.cell? ⟨g1, 0, none⟩ = some (.slice Av j cv) := Z.out.get 0
   go_upto_region 5 with fail
   have F24 : j + 1 ≤ maxLen ∧ (j + 1) * 24 ≤ 140737488355328 := by unfold maxLen; omega
   go_region_law (first
    | (go_simp; go_at_call 36; refine (refBlank_walk _).mono ?_; rintro e w3 ⟨rfl, b3'⟩; (have b3 : Below wr.heap.size wr w3 := ((Below.refl wr.heap.size wr).drew).trans b3'); (have H3 := Lib.hid (HasC.keep (w' := w3) H.out (fun i e => b3.block i (HasC.lt H.out i e).2))); (have B3 := Lib.hid (B.out.trans (b3.mono hsz))); (have Z3 := Lib.hid (show RowAt w3 g1 (.slice Av j cv) false from (b3.block g1 Z.out.lt).trans Z.out)); (have R3 := Lib.hid (show RowAt w3 g0 (.slice none 0 0) false from (b3.block g0 R.out.lt).trans R.out)); (have z3 : w3.cell? ⟨g1, 0, none⟩ = some (.slice Av j cv) := Z3.out.get 0); (have hsz3 := B3.out.size); (have ba := (Below.refl w3.heap.size w3).alloc (Nat.le_refl _) (.cells #[.int .i32 32, .int .i64 1, .int .i64 0] 54)); (have z4 : (w3.alloc (.cells #[.int .i32 32, .int .i64 1, .int .i64 0] 54)).cell? ⟨g1, 0, none⟩ = some (.slice Av j cv) := (ba.cell (p := ⟨g1, 0, none⟩) Z3.out.lt).trans z3); (have H4 := Lib.hid (HasC.keep (w' := w3.alloc (.cells #[.int .i32 32, .int .i64 1, .int .i64 0] 54)) H3.out (fun i e => ba.block i (HasC.lt H3.out i e).2))); (have Z4 := Lib.hid (show RowAt (w3.alloc (.cells #[.int .i32 32, .int .i64 1, .int .i64 0] 54)) g1 (.slice Av j cv) false from (ba.block g1 Z3.out.lt).trans Z3.out)); (have R4 := Lib.hid (show RowAt (w3.alloc (.cells #[.int .i32 32, .int .i64 1, .int .i64 0] 54)) g0 (.slice none 0 0) false from (ba.block g0 R3.out.lt).trans R3.out)); (have B4 := Lib.hid (B3.out.trans (ba.mono hsz3))); (have SQ := Lib.hid (show Sq (w3.alloc (.cells #[.int .i32 32, .int .i64 1, .int .i64 0] 54)) (w3.alloc (.cells #[.int .i32 32, .int .i64 1, .int .i64 0] 54)).heap.size 3 1 (some ⟨w3.heap.size, 0, none⟩) (flat [(32, 1, 0)]) from ⟨rfl, fun _ => ⟨w3.heap.size, 0, rfl, by simp, fun j u hu => (cell_of_row _ _ _ _ _ (0, 0) (heap_alloc_new w3 _)).trans (by rw [Nat.zero_add, List.getElem?_toArray]; exact hu)⟩⟩)); (have OWN := Lib.hid (show World.ownsRow (w3.alloc (.cells #[.int .i32 32, .int .i64 1, .int .i64 0] 54)) wa.heap.size 54 3 (.slice Av j cv) j (flat (blanksL j)) from by have h := H4.out; unfold HasC at h; rwa [blanksL_length] at h)); (have BAS := Lib.hid (show wa.heap.size ≤ (w3.alloc (.cells #[.int .i32 32, .int .i64 1, .int .i64 0] 54)).heap.size from by have := Z3.out.lt; have := HGW.out; simp; omega)); clear ba b3 b3' H3 B3 Z3 R3 H4)
    | (refine step_app rfl _ _ 38 rfl wa.heap.size 54 i0 (.agg #[.int .i32 0, .int .i64 0, .int .i64 0]) 3 24 Tryz.underlying38 hi0 hz0 hz1 hz2 rfl (by decide) (.slice Av j cv) j (flat (blanksL j)) rfl OWN.out (some ⟨w3.heap.size, 0, none⟩) 1 1 (flat [(32, 1, 0)]) rfl (w3.alloc (.cells #[.int .i32 32, .int .i64 1, .int .i64 0] 54)).heap.size SQ.out (flat_one _) F24.1 F24.2 BAS.out ?_; intro A' c' w5 hown hg _; (have H5 := Lib.hid (show HasC w5 wa.heap.size (.slice A' (j + 1) c') (blanksL (j + 1)) from by unfold HasC; rw [blanksL_length, blanksL_snoc, flat_append]; exact hown)); (have B5 := Lib.hid (B4.out.grown hg B4.out.size (fun i e => by have h1 := (World.ownsRow.lt OWN.out i e).1; have h2 := HGW.out; have h3 := HG1.out; omega))); (have Z5 := Lib.hid (show RowAt w5 g1 (.slice Av j cv) false from (hg.block g1 Z4.out.lt (fun e => by have h1 := (World.ownsRow.lt OWN.out g1 e.symm).1; have h2 := HGW.out; omega)).trans Z4.out)); (have R5 := Lib.hid (show RowAt w5 g0 (.slice none 0 0) false from (hg.block g0 R4.out.lt (fun e => by have h1 := (World.ownsRow.lt OWN.out g0 e.symm).1; have h2 := HGW.out; have h3 := HG01.out; omega)).trans R4.out)); (have z5 : w5.cell? ⟨g1, 0, none⟩ = some (.slice Av j cv) := Z5.out.get 0); (have f5 := Z5.out.free 0); clear hown hg))
   all_goals
    have Z6 := Lib.hid (show RowAt (w5.setCell ⟨g1, 0, none⟩ (.slice A' (j + 1) c')) g1 (.slice A' (j + 1) c') false from heap_setCell_same w5 g1 0 _ _ (.slice A' (j + 1) c') Z5.out)
    have O6 := OnlyRow.cell g1 0 w5 (.slice A' (j + 1) c')
    have R6 := Lib.hid (show RowAt (w5.setCell ⟨g1, 0, none⟩ (.slice A' (j + 1) c')) g0 (.slice none 0 0) false from (O6.block g0 (by have := HG01.out; omega)).trans R5.out)
    have H6 := Lib.hid (HasC.keep H5.out (fun i e => O6.block i (by have h1 := (HasC.lt H5.out i e).1; have h2 := HGW.out; omega)))
    have B6 := Lib.hid (B5.out.trans ((Turned.ofOnly O6).toBelow B5.out.size (fun k hk e => by have := HG1.out; omega)))
    clear O6
    go_wp2
    go_roundw
    case rel => exact ⟨j + 1, _, by go_num, by omega, Z6, R6, H6, B6⟩
    case measure => first | (simp [intOf]; done) | (simp [intOf]; omega)
  ·obtain rfl : j = q := by omega
   obtain ⟨Av, cv, rfl, hcv⟩ := HasC.shape H.out
   rw [blanksL_length] at hcv Z H
   have z0 : wr.cell? ⟨g1, 0, none⟩ = some (.slice Av j cv) := Z.out.get 0
   have z1 : wr.cell? ⟨g1, 1, none⟩ = some (.bool false) := Z.out.get 1
   have y0 : wr.cell? ⟨g0, 0, none⟩ = some (.slice none 0 0) := R.out.get 0
   have y1 : wr.cell? ⟨g0, 1, none⟩ = some (.bool false) := R.out.get 1
   have zf0 := R.out.free 0
   have zf1 := R.out.free 1
   have RF := Lib.hid (RowAt.put2 R.out (.slice Av j cv) false)
   have OF := (OnlyRow.cell g0 0 wr (.slice Av j cv)).trans (OnlyRow.cell g0 1 _ (.bool false))
   have HF := Lib.hid (HasC.keep H.out (fun i e => OF.block i (by have h1 := (HasC.lt H.out i e).1; have h2 := HGW.out; have h3 := HG01.out; omega)))
   have BF := Lib.hid (B.out.trans ((Turned.ofOnly OF).toBelow B.out.size (fun k hk e => by have := HG0.out; omega)))
   clear OF
   go_wp2
   generalize (wr.setCell ⟨g0, 0, none⟩ (.slice Av j cv)).setCell ⟨g0, 1, none⟩ (.bool false) = wz at RF HF BF ⊢
   have e0 : wz.cell? ⟨g0, 0, none⟩ = some (.slice Av j cv) := RF.out.get 0
   have e1 : wz.cell? ⟨g0, 1, none⟩ = some (.bool false) := RF.out.get 1
   refine bodyPost_ret (v := .agg #[.slice Av j cv, .bool false]) (by simp [results, Tryz.results27, go_sem, e0, e1]) rfl ?_
   exact ⟨_, _, _, rfl, HasC.mono HF.out (by have h1 := HGW.out; have h2 := HG1.out; omega), BF.out⟩
end Rw
end Go.Proofs.YtaclmhopcfgbmaaGreatDoor
