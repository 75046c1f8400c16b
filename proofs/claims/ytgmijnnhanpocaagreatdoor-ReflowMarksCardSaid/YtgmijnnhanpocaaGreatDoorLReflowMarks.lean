/-
  The statement ReflowMarks: where a place comes to stand at another width, the cell of its line is found that it was at; behind the line's end, no column beyond the width. For every list of rows (of which the statement reads the first fourteen, and 310 cells of each), every number as width and every place; it holds where the table of widths is as its initialiser lays it, which the card ties to the program's text.
-/
import Derived.Test.YtgmijnnhanpocaaGreatDoorQMEvZ0
import Derived.Test.YtgmijnnhanpocaaGreatDoorQMBase0
import Derived.Test.YtgmijnnhanpocaaGreatDoorQMBase1
import Derived.Test.YtgmijnnhanpocaaGreatDoorQMLine2
import Derived.Test.YtgmijnnhanpocaaGreatDoorQMLine5
import Derived.Test.YtgmijnnhanpocaaGreatDoorQMBase6
import Derived.BigQuiet
namespace Go.Proofs.YtgmijnnhanpocaaGreatDoor.reflowMarks
open Go.ChangeShapes Go.WideShapes Go.ChangeAt Go.RowKit
open Rw Ln
theorem eql_same (x y z : Int) (w : World) : (binOp .eql 50 (cellV x y z) (cellV x y z)).run Tryz.prog w = .ok (.bool true) w := by
 have h1 : (x == x) = true := by simp
 have h2 : (y == y) = true := by simp
 have h3 : (z == z) = true := by simp
 go_simp
theorem npos_at {W : World} {B n k : Nat} {A : Option Addr} {l : List (Nat × Nat)} {x : Nat × Nat} (hq : Sq W B 2 n A (l.flatMap nposV)) (hx : l[k]? = some x) (hk : k < n) :
  ∃ b off, A = some ⟨b, off, none⟩ ∧ b < B ∧ W.cell? ⟨b, off + k * 2, none⟩ = some (.int .i64 (x.1 : Int)) ∧ W.cell? ⟨b, off + k * 2 + 1, none⟩ = some (.int .i64 (x.2 : Int)) := by
 obtain ⟨b, off, e, hb, hc⟩ := hq.spot (by omega)
 have h0 := hc (k * 2 + 0) _ (flatMap_get nposV 2 (fun _ => rfl) l k x hx 0 _ rfl)
 have h1 := hc (k * 2 + 1) _ (flatMap_get nposV 2 (fun _ => rfl) l k x hx 1 _ rfl)
 exact ⟨b, off, e, hb, by simpa using h0, by rw [Nat.add_assoc]; exact h1⟩
theorem past_le {wv p col : Nat} (h : col ≤ wv) (hw : 2 ≤ wv) : pastCol wv p col ≤ wv := by
 unfold pastCol
 split <;> omega
theorem placed {wv : Nat} (hw : 2 ≤ wv) (hw2 : wv ≤ 300) {J : List (List Cel)} (hok : ∀ l ∈ J, lineB l = true) {s : Nat × Nat × Nat} {ln : List Cel} (hl : J[s.1]? = some ln) (hs : s.2.1 ≤ ln.length) :
  ∃ z, (allL wv J)[(placeN wv J s).1]? = some z ∧ z.2.length = wv ∧ (placeN wv J s).2 ≤ wv ∧ (s.2.1 < ln.length → ∃ x, ln[s.2.1]? = some x ∧ z.2[(placeN wv J s).2]? = some x) := by
 have hb := hok ln (List.mem_of_getElem? hl)
 have h12 : ∀ x ∈ ln, W12 x := fun x hx => okC_w (by unfold lineB at hb; exact List.all_eq_true.1 hb x hx)
 obtain ⟨g1, g2⟩ := lay_high hw hb
 by_cases hk : s.2.1 < ln.length
 ·have hx : ln[s.2.1]? = some (ln[s.2.1]'hk) := List.getElem?_eq_getElem hk
  obtain ⟨r, h1, h2⟩ := lay_get hw h12 hx
  rw [placeN_cell hl hx]
  have h3 := all_get hl h1
  have h4 := all_wide hw hw2 hok r (List.mem_of_getElem? h3)
  have h5 := (List.getElem?_eq_some_iff.1 h2).1
  exact ⟨r, h3, h4, by simp only; omega, fun _ => ⟨_, hx, h2⟩⟩
 ·have hx : ln[s.2.1]? = none := List.getElem?_eq_none (by omega)
  rw [placeN_end hl hx]
  obtain ⟨r, hr⟩ : ∃ r, (layL wv ln)[(posOut wv ln).1.1]? = some r := ⟨_, List.getElem?_eq_getElem (by omega)⟩
  have h3 := all_get hl hr
  exact ⟨r, h3, all_wide hw hw2 hok r (List.mem_of_getElem? h3), past_le g2 hw, fun h => absurd h hk⟩
set_option maxRecDepth 100000 in
set_option maxHeartbeats 12800000 in
theorem walk (A : Option Addr) (n c : Nat) (l : List RowIn) (_hc : n ≤ c) (hm : c ≤ maxLen) (x : Int) (_ : -9223372036854775808 ≤ x ∧ x ≤ 9223372036854775807) (mr mc : Int) (hmr : -9223372036854775808 ≤ mr ∧ mr ≤ 9223372036854775807) (_hmc : -9223372036854775808 ≤ mc ∧ mc ≤ 9223372036854775807) (w : World) (hs : Spans w) (hr : ∀ r ∈ l, r.Ok w w.heap.size) (hq : Sq w w.heap.size 2 n A (l.flatMap RowIn.vals)) :
  Calls Tryz.prog 6 #[.slice A n c, .int .i64 x, .agg #[.int .i64 mr, .int .i64 mc]] w fun e w' => e = .returned (.bool true) ∧ Below w.heap.size w w' := by
 obtain ⟨wv, hwv, hw2, hw3, ew1, ew2⟩ := width_of x 25 (by decide) (by decide)
 obtain ⟨w0, hw0⟩ : ∃ w0, w.alloc (.cells #[.int .i64 mr, .int .i64 mc] 25) = w0 := ⟨_, rfl⟩
 obtain ⟨g, hg⟩ : ∃ g, w.heap.size = g := ⟨_, rfl⟩
 have b0 : Below w.heap.size w w0 := by rw [← hw0]; exact (Below.refl _ _).alloc (Nat.le_refl _) _
 have x0 : w0.heap[g]? = some (.cells #[.int .i64 mr, .int .i64 mc] 25 (0, 0)) := by rw [← hw0, ← hg]; exact heap_alloc_new w _
 have S := Lib.hid (hs.below b0 hs.size)
 have R := Lib.hid (show Rws w0 w0.heap.size A n l from (⟨fun r h => (hr r h).below b0, hq.below b0⟩ : Rws w0 w.heap.size A n l).up b0.size)
 have N1 := Lib.hid (Nat.le_trans _hc hm)
 have HW := Lib.hid (show 2 ≤ wv ∧ wv ≤ 300 from ⟨hw2, by omega⟩)
 have MR := Lib.hid hmr.2
 have B0 := Lib.hid b0
 have X0 := Lib.hid x0
 have HW0 := Lib.hid hw0
 have HG := Lib.hid hg
 clear hs hr hq _hc hm hwv hw2 hw3 hmr b0 x0 hw0 hg
 go_enter Tryz.func6, Tryz.ntmps6
 go_upto_region 1 with fail
 rw [HW0.out, HG.out]
 go_wp2_with fail
 refine (Ev.Trues.at Ev.begun10 w0 S.out).mono ?_
 rintro e w1 ⟨rfl, b1⟩
 have B1 := Lib.hid b1
 have RW := Lib.hid (rows10_walk A n c l w1 ((R.out.below b1).up b1.size) N1.out)
 clear b1
 go_wp2_with fail
 refine RW.out.mono ?_
 rintro e w2 ⟨v2, ra, rfl, o2, m2, b2⟩
 obtain ⟨A2, c2, rfl, hc2⟩ := o2.shape
 obtain ⟨n2, hn2⟩ : ∃ n2, ra.length = n2 := ⟨_, rfl⟩
 have B2 := Lib.hid (B1.out.trans (b2.mono B1.out.size))
 have L2 := Lib.hid (show n2 ≤ 14 from by
  have := congrArg List.length m2
  unfold drawnRs at this
  rw [List.length_map, List.length_map, List.length_take, hn2] at this
  omega)
 rw [hn2] at o2 hc2 ⊢
 have C2 := Lib.hid hc2
 have RA := Lib.hid (show Rws w2 w2.heap.size A2 n2 ra from (o2.rws).2)
 have S2 := Lib.hid (S.out.below B2.out S.out.size)
 have OK := Lib.hid (rows_ok RA.out (by have := L2.out; omega))
 have X2 := Lib.hid ((B2.out.block g (Array.getElem?_eq_some_iff.1 X0.out).1).trans X0.out)
 clear o2 m2 b2 hn2 hc2 RW R N1
 go_upto_region 6 with fail
 obtain ⟨J, hJ, F, h0, hB, hN'⟩ := Cls.below w2
 have H0 := Lib.hid h0
 have HBn := Lib.hid hB
 have HN := Lib.hid hN'
 have XF := Lib.hid (show ∀ n, (F n).heap[g]? = some (.cells #[.int .i64 mr, .int .i64 mc] 25 (0, 0)) from fun n => ((hB n).block g (Array.getElem?_eq_some_iff.1 X2.out).1).trans X2.out)
 have k0 : ∀ n, (F n).cell? ⟨g, 0, none⟩ = some (.int .i64 mr) := fun n => cell_of_row _ _ 0 _ _ (0, 0) (XF.out n)
 have k1 : ∀ n, (F n).cell? ⟨g, 1, none⟩ = some (.int .i64 mc) := fun n => cell_of_row _ _ 1 _ _ (0, 0) (XF.out n)
 clear h0 hB hN'
 by_cases h1 : mr < 0
 ·have hd : decide (mr < 0) = true := by simp [h1]
  refine Cls.region F H0.out (by kernel_rfl) (by kernel_rfl) ?_
  repeat (go_big_quiet_step (fail))
  refine wpQuiet_nil ?_
  intro _ hw'
  obtain ⟨nq, hw''⟩ := hw'
  subst hw''
  have BF := Lib.hid (B0.out.trans ((B2.out.trans ((HBn.out nq).mono B2.out.size)).mono B0.out.size))
  clear k0 k1
  go_wp2
  go_ret
  exact ⟨rfl, BF.out⟩
 ·have hd : decide (mr < 0) = false := by simp [h1]
  obtain ⟨pr, rfl⟩ : ∃ pr : Nat, mr = (pr : Int) := ⟨mr.toNat, by omega⟩
  by_cases h2 : pr < n2
  ·have hd2 : decide (n2 ≤ pr) = false := by simp; omega
   have hki : (pr : Int) < (n2 : Int) := by omega
   obtain ⟨r, hrr⟩ : ∃ r, ra[pr]? = some r := ⟨_, List.getElem?_eq_getElem (by rw [RA.out.len]; exact h2)⟩
   have RO := Lib.hid (RA.out.each r (List.mem_of_getElem? hrr))
   have HRR := Lib.hid hrr
   have RC := Lib.hid (show ∀ W, Below w2.heap.size w2 W → ∃ b off, A2 = some ⟨b, off, none⟩ ∧ b < w2.heap.size ∧ W.cell? ⟨b, off + pr * 2, none⟩ = some (.slice r.A r.n r.c) ∧ W.cell? ⟨b, off + pr * 2 + 1, none⟩ = some (.bool r.wrap) from fun W hb => rows_at (RA.out.below hb).sq hrr h2)
   obtain ⟨b, off, hA2, _, _, _⟩ := RC.out w2 (Below.refl _ _)
   subst hA2
   have k2 : ∀ n, (F n).cell? ⟨b, off + pr * 2, none⟩ = some (.slice r.A r.n r.c) := fun n => by
    obtain ⟨b', off', e, _, q, _⟩ := RC.out _ (HBn.out n)
    injection e with e; injection e with e1 e2; subst e1 e2; exact q
   have k3 : ∀ n, (F n).cell? ⟨b, off + pr * 2 + 1, none⟩ = some (.bool r.wrap) := fun n => by
    obtain ⟨b', off', e, _, _, q⟩ := RC.out _ (HBn.out n)
    injection e with e; injection e with e1 e2; subst e1 e2; exact q
   obtain ⟨rA, rn, rc, rb, rl⟩ := r
   dsimp only at k2 k3
   have RN0 := Lib.hid (show ∀ n, Calls Tryz.prog 24 #[rowV rA rn rc rb] (F n) fun e w' => e = .returned (.bool (mayL rl)) ∧ ∃ m, w' = F m from fun n => (refRow_any rA rn rc rb rl (F n) RO.out.signs ((RO.out.sq.below (HBn.out n)).up (HBn.out n).size) (by have h1 := RO.out.le; have h2 := RO.out.cap; simp only at h1 h2; unfold maxLen at h2; omega)).mono fun e w' ⟨he, hb⟩ => ⟨he, HN.out n w' hb⟩)
   obtain ⟨M, hM⟩ : ∃ M, mayL rl = M := ⟨_, rfl⟩
   rw [hM] at RN0
   clear hrr hM
   cases M with
   | false =>
    have RN := RN0
    refine Cls.region F H0.out (by kernel_rfl) (by kernel_rfl) ?_
    repeat (go_big_quiet_step (((go_at_call 24; exact RN.out _))))
    refine wpQuiet_nil ?_
    intro _ hw'
    obtain ⟨nq, hw''⟩ := hw'
    subst hw''
    have BF := Lib.hid (B0.out.trans ((B2.out.trans ((HBn.out nq).mono B2.out.size)).mono B0.out.size))
    clear k0 k1 k2 k3
    go_wp2
    go_ret
    exact ⟨rfl, BF.out⟩
   | true =>
    have RN := RN0
    by_cases h3 : mc < 0
    ·have hd3 : decide (mc < 0) = true := by simp [h3]
     refine Cls.region F H0.out (by kernel_rfl) (by kernel_rfl) ?_
     repeat (go_big_quiet_step (((go_at_call 24; exact RN.out _))))
     refine wpQuiet_nil ?_
     intro _ hw'
     obtain ⟨nq, hw''⟩ := hw'
     subst hw''
     have BF := Lib.hid (B0.out.trans ((B2.out.trans ((HBn.out nq).mono B2.out.size)).mono B0.out.size))
     clear k0 k1 k2 k3
     go_wp2
     go_ret
     exact ⟨rfl, BF.out⟩
    ·have hd3 : decide (mc < 0) = false := by simp [h3]
     by_cases h4 : (rn : Int) ≤ mc
     ·have hd4 : decide ((rn : Int) ≤ mc) = true := by simp [h4]
      refine Cls.region F H0.out (by kernel_rfl) (by kernel_rfl) ?_
      repeat (go_big_quiet_step (((go_at_call 24; exact RN.out _))))
      refine wpQuiet_nil ?_
      intro _ hw'
      obtain ⟨nq, hw''⟩ := hw'
      subst hw''
      have BF := Lib.hid (B0.out.trans ((B2.out.trans ((HBn.out nq).mono B2.out.size)).mono B0.out.size))
      clear k0 k1 k2 k3
      go_wp2
      go_ret
      exact ⟨rfl, BF.out⟩
     ·have hd4 : decide ((rn : Int) ≤ mc) = false := by simp [h4]
      refine Cls.region F H0.out (by kernel_rfl) (by kernel_rfl) ?_
      repeat (go_big_quiet_step (((go_at_call 24; exact RN.out _))))
      refine wpQuiet_nil ?_
      intro _ hw'
      obtain ⟨nq, hw''⟩ := hw'
      subst hw''
      have IF := Lib.hid (HBn.out nq)
      obtain ⟨w3, hw3⟩ : ∃ w3, F nq = w3 := ⟨_, rfl⟩
      rw [hw3] at IF ⊢
      have h4' : mc < (rn : Int) := by omega
      have SP := Lib.hid (refSpot_walk (some ⟨b, off, none⟩) n2 c2 ra pr mc w3 ((RA.out.below IF.out).up IF.out.size) (by have := L2.out; omega) h2)
      obtain ⟨ln, hln, hsp⟩ := spot_ref mc (ra.map lr).length (ra.map lr) pr 0 (lr ⟨rA, rn, rc, rb, rl⟩) (Nat.le_refl _) (by rw [List.getElem?_map, HRR.out]; rfl)
      have MV := Lib.hid (show movedN wv (ra.map lr) ((pr : Int), mc) = placeN wv (joinL (ra.map lr)) (spotN mc pr 0 (parts (ra.map lr))) from by
       unfold movedN markN
       rw [if_neg (show ¬ (((pr : Int), mc) : Int × Int).1 < 0 from by simp only; omega)]
       simp)
      obtain ⟨s, hs⟩ : ∃ s, spotN mc pr 0 (parts (ra.map lr)) = s := ⟨_, rfl⟩
      rw [hs] at SP hsp MV
      have hln : (joinL (ra.map lr))[s.1]? = some ln := by rw [hsp]; simp only [Nat.zero_add]; exact hln
      have hsk : s.2.1 ≤ ln.length := by rw [hsp]; exact Nat.min_le_right _ _
      obtain ⟨z, hz, hzw, hzc, hzx⟩ := placed HW.out.1 HW.out.2 OK.out.ok hln hsk
      rw [← MV.out] at hz hzc hzx
      obtain ⟨i, k, p⟩ := s
      obtain ⟨⟨tr, tc⟩, hmv⟩ : ∃ t, movedN wv (ra.map lr) ((pr : Int), mc) = t := ⟨_, rfl⟩
      rw [hmv] at hz hzc hzx
      dsimp only at hln hsk hz hzc hzx
      have hln5 : ln.length ≤ 10000 := OK.out.len ln (List.mem_of_getElem? hln)
      have hil : i < (joinL (ra.map lr)).length := (List.getElem?_eq_some_iff.1 hln).1
      have hi14 : i ≤ 1000 := by have h := rows_many RA.out (by have := L2.out; omega); omega
      have HLN := Lib.hid hln
      have HZ := Lib.hid (And.intro hz hzw)
      have HZX := Lib.hid hzx
      have HMV := Lib.hid hmv
      have X3 := Lib.hid ((IF.out.block g (Nat.lt_of_lt_of_le (Array.getElem?_eq_some_iff.1 X2.out).1 (Nat.le_refl _))).trans X2.out)
      have j0 : w3.cell? ⟨g, 0, none⟩ = some (.int .i64 (pr : Int)) := cell_of_row w3 g 0 _ _ (0, 0) X3.out
      have j1 : w3.cell? ⟨g, 1, none⟩ = some (.int .i64 mc) := cell_of_row w3 g 1 _ _ (0, 0) X3.out
      clear k0 k1 k2 k3 hd3 hd4 hw3 hln hz hzw hzx hmv hs hsp MV
      go_wp2_with fail
      refine SP.out.mono ?_
      rintro e w4 ⟨rfl, b4⟩
      have I4 := Lib.hid (IF.out.trans (b4.mono IF.out.size))
      obtain ⟨w5, hw5⟩ : ∃ w5, w4.alloc (.cells #[.int .i64 (i : Int), .int .i64 (k : Int), .int .i64 (p : Int)] 27) = w5 := ⟨_, rfl⟩
      obtain ⟨g5, hg5⟩ : ∃ g5, w4.heap.size = g5 := ⟨_, rfl⟩
      have I5 := Lib.hid (show Below w2.heap.size w2 w5 from by rw [← hw5]; exact I4.out.alloc I4.out.size _)
      have x5 : w5.heap[g5]? = some (.cells #[.int .i64 (i : Int), .int .i64 (k : Int), .int .i64 (p : Int)] 27 (0, 0)) := by rw [← hw5, ← hg5]; exact heap_alloc_new w4 _
      have X5 := Lib.hid x5
      have HW5 := Lib.hid hw5
      have HG5 := Lib.hid hg5
      have J5 := Lib.hid (refJoin_walk (some ⟨b, off, none⟩) n2 c2 ra w5 ((RA.out.below I5.out).up I5.out.size) (by have := L2.out; omega))
      clear b4 x5 hw5 hg5 SP j0 j1
      unfold spotV
      go_upto_region 9 with fail
      rw [HW5.out, HG5.out]
      go_wp2_with fail
      refine J5.out.mono ?_
      rintro e w6 ⟨v6, vs6, rfl, l6, b6⟩
      obtain ⟨A6, c6, rfl, _⟩ := own_cap l6.own
      have I6 := Lib.hid (show Below w2.heap.size w2 w6 from I5.out.trans (b6.mono I5.out.size))
      have L6 := Lib.hid (l6.rd (fun l hl => by have := OK.out.len l hl; omega)).2
      have X56 := Lib.hid ((b6.block g5 (Array.getElem?_eq_some_iff.1 X5.out).1).trans X5.out)
      have x36 := (I6.out.block g (Array.getElem?_eq_some_iff.1 X2.out).1).trans X2.out
      have j0 : w6.cell? ⟨g, 0, none⟩ = some (.int .i64 (pr : Int)) := cell_of_row w6 g 0 _ _ (0, 0) x36
      have j1 : w6.cell? ⟨g, 1, none⟩ = some (.int .i64 mc) := cell_of_row w6 g 1 _ _ (0, 0) x36
      obtain ⟨w7, hw7⟩ : ∃ w7, w6.alloc (.cells #[.int .i64 (pr : Int), .int .i64 mc] 25) = w7 := ⟨_, rfl⟩
      have b7 : Laid w6 w7 := by rw [← hw7]; exact (Below.refl _ _).alloc (Nat.le_refl _) _
      have q7 : Sq w7 w7.heap.size 2 1 (some ⟨w6.heap.size, 0, none⟩) ([(((pr : Int), mc) : Int × Int)].flatMap posV) := by
       rw [← hw7]
       have h := sq_pair w6 25 (.int .i64 (pr : Int)) (.int .i64 mc)
       simpa [posV] using h
      have I7 := Lib.hid (show Below w2.heap.size w2 w7 from I6.out.trans (b7.mono I6.out.size))
      have F7 := Lib.hid (reflow_walk (some ⟨b, off, none⟩) n2 c2 ra wv (some ⟨w6.heap.size, 0, none⟩) 1 1 [((pr : Int), mc)] w7 (S2.out.below I7.out S2.out.size) ((RA.out.below I7.out).up I7.out.size) C2.out (by have := L2.out; omega) (rows_many RA.out (by have := L2.out; omega)) HW.out.1 HW.out.2 q7 rfl (by omega) (by intro p hp; rw [List.mem_singleton.1 hp]; exact MR.out) OK.out)
      have L67 := Lib.hid ((L6.out.below b7).up b7.size)
      have X57 := Lib.hid ((b7.block g5 (Array.getElem?_eq_some_iff.1 X56.out).1).trans X56.out)
      have HW7 := Lib.hid hw7
      clear l6 b6 J5 x36 hw7 b7 q7 HW5 HG5
      go_wp2_with fail
      rw [HW7.out]
      refine F7.out.mono ?_
      rintro e w8 ⟨v8, mv8, rs8, rfl, o8, m8, q8, b8⟩
      obtain ⟨A8, c8, rfl, hc8⟩ := o8.shape
      obtain ⟨Am, cm, rfl, _⟩ := own_cap q8
      obtain ⟨n8, hn8⟩ : ∃ n8, rs8.length = n8 := ⟨_, rfl⟩
      have R8 := Lib.hid (show Rws w8 w8.heap.size A8 n8 rs8 from by have h := o8.rws.2; rw [hn8] at h; exact h)
      rw [hn8] at hc8 ⊢
      have q8' : Sq w8 w8.heap.size 2 1 Am ([(tr, tc)].flatMap nposV) := by
       have h := Sq.own q8
       rw [show [(((pr : Int), mc) : Int × Int)].map (movedN wv (ra.map lr)) = [(tr, tc)] from by simp [HMV.out]] at h
       exact h
      obtain ⟨bm, om, rfl, _, d0, d1⟩ := npos_at (k := 0) q8' rfl (by omega)
      have hz0 : om + 0 * 2 = om := by omega
      rw [hz0] at d0 d1
      obtain ⟨y8, hy8, hly8⟩ : ∃ y8, rs8[tr]? = some y8 ∧ lr y8 = z := by
       have h := HZ.out.1
       rw [← m8, List.getElem?_map] at h
       cases h2 : rs8[tr]? with
       | none => rw [h2] at h; cases h
       | some y => rw [h2] at h; exact ⟨y, rfl, by simpa using h⟩
      have ht8 : tr < n8 := by have := (List.getElem?_eq_some_iff.1 hy8).1; omega
      obtain ⟨b8', off8, rfl, _, u0, u1⟩ := rows_at R8.out.sq hy8 ht8
      have SQ8 := Lib.hid (R8.out.each y8 (List.mem_of_getElem? hy8)).sq
      obtain ⟨yA, yn, yc, yb, yl⟩ := y8
      have hyl : yl = z.2 := by rw [← hly8]; rfl
      have hyn : yn = wv := by
       have h := SQ8.out.len
       rw [flat_length] at h
       simp only at h
       rw [hyl, HZ.out.2] at h
       omega
      dsimp only at u0 u1
      have L8 := Lib.hid ((L67.out.below b8).up b8.size)
      obtain ⟨x6, hx6⟩ : ∃ x6, vs6[i]? = some x6 := ⟨_, List.getElem?_eq_getElem (by have h := L8.out.sq.len; rw [L8.out.len] at hil; omega)⟩
      obtain ⟨Ax, nx, cx, rfl, _, hqx, _⟩ := L8.out.each i x6 ln hx6 HLN.out
      have hnx : ln.length = nx := by
       have h := hqx.len
       rw [flat_length] at h
       omega
      obtain ⟨b9, off9, rfl, _, y9⟩ := one_at L8.out.sq hx6 hil
      have x58 := (b8.block g5 (Array.getElem?_eq_some_iff.1 X57.out).1).trans X57.out
      have s0 : w8.cell? ⟨g5, 0, none⟩ = some (.int .i64 (i : Int)) := cell_of_row w8 g5 0 _ _ (0, 0) x58
      have s1 : w8.cell? ⟨g5, 1, none⟩ = some (.int .i64 (k : Int)) := cell_of_row w8 g5 1 _ _ (0, 0) x58
      have HQX := Lib.hid hqx
      have HYL := Lib.hid hyl
      have I8 := Lib.hid (B0.out.trans ((B2.out.trans ((I7.out.trans (b8.mono I7.out.size)).mono B2.out.size)).mono B0.out.size))
      obtain ⟨nl, hnl⟩ : ∃ nl, (joinL (ra.map lr)).length = nl := ⟨_, rfl⟩
      rw [hnl] at hil ⊢
      have hii : (i : Int) < (nl : Int) := by omega
      have hti : (tr : Int) < (n8 : Int) := by omega
      have htd : decide (n8 ≤ tr) = false := by simp; omega
      have hkk : k ≤ nx := by omega
      clear o8 m8 q8 b8 hn8 q8' hz0 hy8 hly8 hyl hx6 hqx x58 hnl F7 hc8 j0 j1
      go_upto_region 13 with fail
      by_cases hk : k < nx
      ·have hd5 : decide (k < nx) = true := by simp [hk]
       obtain ⟨x, hx1, hx2⟩ := HZX.out (by omega)
       have htw : tc < wv := by have := (List.getElem?_eq_some_iff.1 hx2).1; rw [HZ.out.2] at this; exact this
       obtain ⟨ba, oa, rfl, _, ⟨r1, m1, a1⟩, e1, p0, p1, p2⟩ := HQX.out.three hk
       obtain ⟨bb, ob, rfl, _, ⟨r2, m2, a2⟩, e2, t0, t1, t2⟩ := SQ8.out.three (show tc < yn by omega)
       have ee : ((r2, m2, a2) : Cel) = (r1, m1, a1) := by
        rw [HYL.out, hx2] at e2
        rw [hx1] at e1
        injection e1 with e1
        injection e2 with e2
        rw [← e2, ← e1]
       injection ee with ea eb
       injection eb with eb ec
       subst ea eb ec
       have hk5 : (k : Int) < (nx : Int) := by omega
       have htc0 : (0 : Int) ≤ (tc : Int) := by omega
       have htc1 : (tc : Int) < (yn : Int) := by omega
       have htc2 : (tc : Int) < (wv : Int) := by omega
       have htd1 : decide (tc < yn) = true := by simp; omega
       have htd2 : decide (tc < wv) = true := by simp; omega
       have HYN := Lib.hid hyn
       have HNX := Lib.hid hnx
       have EQ := fun w => eql_same r2 m2 a2 w
       clear hyn hnx hx1 hx2 e1 e2
       go_quiet (fail)
       go_wp2_with fail
       go_quiet (fail)
       go_wp2_with fail
       go_ret
       exact ⟨rfl, by have h := I8.out; first | exact h | exact ⟨h.os, h.tape, h.output, h.size, h.block⟩⟩
      ·have hd5 : decide (k < nx) = false := by simp; omega
       have HYN := Lib.hid hyn
       have HNX := Lib.hid hnx
       have htc2 : (tc : Int) ≤ (wv : Int) := by omega
       have htd2 : decide (tc ≤ wv) = true := by simp; omega
       clear hyn hnx
       go_quiet (fail)
       go_wp2_with fail
       go_ret
       exact ⟨rfl, by have h := I8.out; first | exact h | exact ⟨h.os, h.tape, h.output, h.size, h.block⟩⟩
  ·have hd2 : decide (n2 ≤ pr) = true := by simp; omega
   refine Cls.region F H0.out (by kernel_rfl) (by kernel_rfl) ?_
   repeat (go_big_quiet_step (fail))
   refine wpQuiet_nil ?_
   intro _ hw'
   obtain ⟨nq, hw''⟩ := hw'
   subst hw''
   have BF := Lib.hid (B0.out.trans ((B2.out.trans ((HBn.out nq).mono B2.out.size)).mono B0.out.size))
   clear k0 k1
   go_wp2
   go_ret
   exact ⟨rfl, BF.out⟩
set_option maxRecDepth 100000 in
theorem contract (H : Type) (enc : TypeId × Value → H) (W : World) (base : Nat) (args : Array Value) (ds gs : List (DataW H)) (before : List MemPlace)
  (hval : ∀ (j : Nat) t v, Tryz.f6.params[j]? = some t → args[j]? = some v → Value.okWide Tryz.prog W .any base t v)
  (hW : DataW.Whole enc Tryz.prog Tryz.f6.params.toList Rows.reflowMarksSpec.vars false W args.toList ds gs before) (hL : laidMetH Tryz.prog Rows.reflowMarksRow.laid W) :
  Calls Tryz.prog 6 args W fun e W' => ∃ v, e = .returned v ∧ Rows.reflowMarksSpec.post enc Tryz.prog Tryz.f6 false true false false W args v W' := by
 have hW' := hW
 obtain ⟨p, q, hA0, hV, rfl, hfz, hnd⟩ := hW
 have hA : DataW.TrodAll enc Tryz.prog W 0 (fun _ => true) true Tryz.f6.params.toList args.toList ds p := hA0
 rw [Tryz.params6] at hA hval
 obtain ⟨v0, vs0, d0, ds0, p0, q0, hargs, rfl, rfl, h0, r0⟩ := trodAll_cons hA
 obtain ⟨v1, vs1, d1, ds1, p1, q1, rfl, rfl, rfl, h1, r1⟩ := trodAll_cons r0
 obtain ⟨v2, vs2, d2, ds2, p2, q2, rfl, rfl, rfl, h2, r2⟩ := trodAll_cons r1
 obtain ⟨rfl, rfl, rfl⟩ := trodAll_nil r2
 obtain rfl : args = #[v0, v1, v2] := by cases args; simp_all
 obtain ⟨rfl, rfl⟩ := trodVars_none hV
 obtain ⟨Ax, nx, cx, x, rfl, hcx, hmx, hrx, hqx⟩ := open_rows (hval 0 22 v0 rfl rfl) h0
 obtain ⟨y, rfl, rfl, rfl, wy⟩ := open_int Tryz.underlying3 (hval 1 3 v1 rfl rfl) h1
 obtain ⟨z, rfl, hcz, hmz⟩ := open_onepos (hval 2 25 v2 rfl rfl) h2
 clear hA0
 refine (walk Ax nx cx x hcx hmx y (wf_i64 wy) z.1 z.2 hcz hmz W (spans_of hL) hrx hqx).mono fun e W' ⟨he, hg⟩ => ?_
 subst he
 exact ⟨_, rfl, close rfl hW' ⟨rfl, rfl, rfl⟩ (by kernel_rfl) (by kernel_rfl) hg⟩
set_option maxRecDepth 100000 in
theorem laid_met (os : Os) : laidMet Tryz.prog Rows.reflowMarksRow.laid ((laidWorld os).forCall (fun _ _ => 0) ⟨#[], #[.slice none 0 0, .int .i64 0, .agg #[.int .i64 0, .int .i64 0]], []⟩).memory :=
 laidMet_of_run' 8 (by kernel_rfl) (by kernel_rfl)
set_option maxRecDepth 100000 in
theorem reads (os : Os) {H : Type} (enc : TypeId × Value → H) : ∃ places, DataW.whole enc Tryz.prog ((laidWorld os).forCall (fun _ _ => 0) ⟨#[], #[.slice none 0 0, .int .i64 0, .agg #[.int .i64 0, .int .i64 0]], []⟩).memory Tryz.f6.params.toList Rows.reflowMarksSpec.vars false (#[.slice none 0 0, .int .i64 0, .agg #[.int .i64 0, .int .i64 0]] : Array Value).toList 8 = some ([.nil, .lit (.int .i64 0), .agg [.lit (.int .i64 0), .lit (.int .i64 0)]], [], places) :=
 ⟨[], by kernel_rfl⟩
set_option maxRecDepth 100000 in
theorem lifted (os : Os) (started : os.Started) (H : Type) (enc : TypeId × Value → H) (F : Stop.Interp) :
  ReturnsInHanded {} Tryz.checked os 6 .any ((OpenSpec.ofChange Rows.reflowMarksSpec).preRow enc Tryz.prog Tryz.f6 Rows.reflowMarksRow.domain false Rows.reflowMarksRow.laid) (((OpenSpec.ofChange Rows.reflowMarksSpec).at F).post enc Tryz.prog Tryz.f6 false true false false) := by
 obtain ⟨places, hx⟩ := reads os enc
 refine returnsInHanded_of_row (C := Tryz.checked) (s := OpenSpec.ofChange Rows.reflowMarksSpec) ownNone started (by kernel_rfl) Tryz.func6
  (witness_row_at (enc := enc) (C := Tryz.checked) false (laidWorld os) #[.slice none 0 0, .int .i64 0, .agg #[.int .i64 0, .int .i64 0]] rfl (by kernel_rfl) (by kernel_rfl) (by kernel_rfl)
   (OpenSpec.preRow_of_cond 8 hx (by kernel_rfl) (fun k hk => by cases hk) (by kernel_rfl) (laid_met os))) ?_
 intro W base args ds gs before hval hW _ _ _ hL _ _
 exact contract H enc W base args ds gs before hval hW hL
set_option maxRecDepth 100000 in
set_option maxHeartbeats 0 in
theorem facts : joinedFacts Tryz.checked.prog 6 Tryz.f6 (OpenSpec.ofChange Rows.reflowMarksSpec).bare Rows.reflowMarksRow = true := by
 have h1 := Sum.tables.1
 have h2 := Sum.tables.2.1
 have h3 := Sum.tables.2.2
 have h4 := Sum.mayEnter
 have e1 : Rows.reflowMarksRow.lifted = Rows.lineAllRow.lifted := by kernel_rfl
 have e2 : Rows.reflowMarksRow.make = Rows.lineAllRow.make := by kernel_rfl
 have h5 : (Rows.reflowMarksRow.lifted == Tryz.checked.prog.liftsFinal) = true := by rw [e1]; exact Sum.lifts
 have h6 : (Tryz.checked.prog.make == some Rows.reflowMarksRow.make) = true := by rw [e2]; exact Sum.make
 unfold joinedFacts
 repeat' (with_reducible refine Sum.and_mk ?_ ?_)
 all_goals first
  | with_reducible exact h1
  | with_reducible exact h2
  | with_reducible exact h4
  | with_reducible exact h5
  | with_reducible exact h6
  | (rw [h3]; as_aux_lemma => kernel_rfl)
  | (clear h1 h2 h3 h4 h5 h6 e1 e2; as_aux_lemma => kernel_rfl)
set_option maxRecDepth 100000 in
theorem said : Rows.ReflowMarksSaid :=
 OpenClaim.holds_of_cond 6 Tryz.f6 rfl rfl rfl rfl rfl rfl rfl ⟨rfl, rfl, rfl, rfl, rfl⟩ rfl rfl rfl rfl rfl (by kernel_rfl) Tryz.func6 facts
  (of_decide_eq_true (by kernel_rfl)) (by unfold Func.isWrapper; first | (rw [if_pos (by decide +kernel)]; kernel_rfl) | (rw [if_neg (by decide +kernel)]; exact ⟨rfl, rfl⟩))
  (fun os started H enc _ F => by rw [OpenClaim.pre_eq_preRow]; exact lifted os started H enc F)
set_option maxRecDepth 100000 in
theorem plain (f : FuncId) (fn : Func) (hf : Tryz.pinned.checked.prog.funcNamed "rotulus/rotuluslaw10.ReflowMarks" = some f) (hfn : Tryz.pinned.checked.prog.funcs[f]? = some fn) :
  false = Tryz.pinned.checked.prog.looks [] ∧ ∀ (j : Nat) t, fn.params[j]? = some t → Tryz.pinned.checked.prog.wantsStandIn t = false := by
 obtain rfl : f = 6 := Option.some.inj ((show Tryz.prog.funcNamed "rotulus/rotuluslaw10.ReflowMarks" = some 6 by kernel_rfl).symm.trans hf) |>.symm
 obtain rfl : fn = Tryz.f6 := (Option.some.inj (Tryz.func6.symm.trans hfn)).symm
 refine ⟨by kernel_rfl, fun j t ht => ?_⟩
 rw [Tryz.params6] at ht
 have hm := Array.mem_of_getElem? ht
 simp at hm
 rcases hm with rfl | rfl | rfl
 ·exact (show Tryz.prog.wantsStandIn 22 = false by kernel_rfl)
 ·exact (show Tryz.prog.wantsStandIn 3 = false by kernel_rfl)
 ·exact (show Tryz.prog.wantsStandIn 25 = false by kernel_rfl)
set_option maxRecDepth 100000 in
theorem card : Rows.ReflowMarksCardSaid :=
 Claim7.holds_tied_plain_at .later [] _ _ _ _ said (fun _ h => by cases h) (by kernel_rfl) (fun _ h => by cases h) reflowMarks_row_tie rfl ⟨rfl, rfl⟩ (by kernel_rfl) rfl plain (by kernel_rfl)
end Go.Proofs.YtgmijnnhanpocaaGreatDoor.reflowMarks
