/-
  The reference's Spot: where a place among rows is in their lines. Rows in the making, of which the last one grows: what the reference's Layout has in hand.
-/
import Derived.Test.YtgmijnnhanpocaaGreatDoorQNBase5
import Derived.Test.YtgmijnnhanpocaaGreatDoorQNLine7
import Derived.IntWalk
import Derived.BigQuiet
import Derived.Deep.CutRange
namespace Go.Proofs.YtgmijnnhanpocaaGreatDoor
open Go.ChangeShapes Go.WideShapes Go.ChangeAt Go.RowKit
namespace Ln
open Rw
theorem col_facts (r : LR) (pc : Int) : ∃ (col : Nat) (H : Bool), (mayL r.2 = true → max 0 (min pc (r.2.length : Int)) = (col : Int)) ∧ (mayL r.2 = false → col = 0) ∧ col ≤ 300 ∧ col ≤ r.2.length ∧
  rowA r pc + (if H then 1 else 0) = ((r.2.take col).filter signC).length ∧ (H = true ↔ col < r.2.length ∧ 0 < col ∧ (cAt r.2 col).2.1 = 0) := by
 cases hm : mayL r.2 with
 | false =>
  refine ⟨0, false, (fun h => by cases h), (fun _ => rfl), by omega, by omega, ?_, ?_⟩
  ·unfold rowA
   rw [hm]
   simp
  ·simp
 | true =>
  have hl : r.2.length ≤ 300 := by
   have h := hm
   unfold mayL at h
   simp only [Bool.and_eq_true, decide_eq_true_eq] at h
   exact h.1
  have h1 := rowA_is 0 r pc
  unfold signsRow at h1
  rw [if_pos hm] at h1
  obtain ⟨h2, h3⟩ := row_count hm 0 pc
  rw [h1] at h2
  refine ⟨colN r.2 pc, halfN r.2 (colN r.2 pc), fun _ => by unfold colN; omega, (fun h => by cases h), by unfold colN; omega, by unfold colN; omega, ?_, ?_⟩
  ·cases hh : halfN r.2 (colN r.2 pc) with
   | true =>
    rw [hh] at h2 h3
    have := h3 rfl
    simp only [if_true] at h2 ⊢
    omega
   | false =>
    rw [hh] at h2
    simpa using h2.symm
  ·unfold halfN
   simp only [Bool.and_eq_true, decide_eq_true_eq, beq_iff_eq]
set_option maxRecDepth 100000 in
set_option maxHeartbeats 12800000 in
theorem refSpot_walk (A : Option Addr) (n c : Nat) (rs : List RowIn) (pr : Nat) (pc : Int) (w : World) (hr : Rws w w.heap.size A n rs) (hn : n ≤ 3000) (hlt : pr < n) :
  Calls Tryz.prog 18 #[.slice A n c, .agg #[.int .i64 (pr : Int), .int .i64 pc]] w fun e w' => e = .returned (spotV (spotN pc pr 0 (parts (rs.map lr)))) ∧ Below w.heap.size w w' := by
 obtain ⟨r, hrr⟩ : ∃ r, rs[pr]? = some r := ⟨_, List.getElem?_eq_getElem (by rw [hr.len]; exact hlt)⟩
 have RO := Lib.hid (hr.each r (List.mem_of_getElem? hrr))
 obtain ⟨S, hS⟩ : ∃ S, w.heap.size = S := ⟨_, rfl⟩
 obtain ⟨w1, hw1⟩ : ∃ w1, (w.alloc (.cells #[.int .i64 (pr : Int), .int .i64 pc] 25)).alloc (.cells #[.int .i64 0, .int .i64 0, .int .i64 0] 27) = w1 := ⟨_, rfl⟩
 have b1 : Below w.heap.size w w1 := by rw [← hw1]; exact ((Below.refl _ _).alloc (Nat.le_refl _) _).alloc (by simp) _
 have z1 : w1.heap.size = S + 2 := by rw [← hw1, ← hS]; simp
 have x0 : w1.heap[S]? = some (.cells #[.int .i64 (pr : Int), .int .i64 pc] 25 (0, 0)) := by rw [← hw1, ← hS]; exact (Below.heap_alloc _ _ _ (by simp)).trans (heap_alloc_new w _)
 have x1 : w1.heap[S + 1]? = some (.cells #[.int .i64 0, .int .i64 0, .int .i64 0] 27 (0, 0)) := by
  rw [← hw1, ← hS]
  have := heap_alloc_new (w.alloc (.cells #[.int .i64 (pr : Int), .int .i64 pc] 25)) (.cells #[.int .i64 0, .int .i64 0, .int .i64 0] 27)
  rwa [World.size_alloc] at this
 have OF := Lib.hid (refOf_walk A n c rs w1 ((hr.below b1).up b1.size) (by omega))
 have hLr : (rs.map lr)[pr]? = some (lr r) := by rw [List.getElem?_map, hrr]; rfl
 have hLn : (rs.map lr).length = n := by rw [List.length_map]; exact hr.len
 have JW := Lib.hid (fun (W : World) (hb : Below w1.heap.size w1 W) => refJoin_walk A n c rs W (((hr.below b1).below (hb.mono b1.size)).up (Nat.le_trans b1.size hb.size)) hn)
 obtain ⟨L, hL⟩ : ∃ L, rs.map lr = L := ⟨_, rfl⟩
 rw [hL] at hLr hLn OF JW
 obtain ⟨ln, hln, hsp⟩ := spot_ref pc L.length L pr 0 (lr r) (Nat.le_refl _) hLr
 have hOle : offR (L.take pr) ≤ 900000 := by
  have h := offR_le (L.take pr)
  rw [List.length_take] at h
  omega
 have JL := Lib.hid (show ∀ x ∈ joinL L, x.length ≤ 1000000 from joinL_len (by omega))
 rw [hL, hsp, Nat.zero_add]
 obtain ⟨E, hE⟩ : ∃ E, ends (L.take pr) = E := ⟨_, rfl⟩
 obtain ⟨O, hO⟩ : ∃ O, offR (L.take pr) = O := ⟨_, rfl⟩
 obtain ⟨jl, hjl⟩ : ∃ jl, ln.length = jl := ⟨_, rfl⟩
 have lq := linesV_get (L := L) hlt
 have oq := offsV_get (L := L) hlt
 rw [hE] at hln lq ⊢
 rw [hO] at hOle oq ⊢
 rw [hjl]
 have hjl2 : jl ≤ 1000000 := by rw [← hjl]; exact JL.out _ (List.mem_of_getElem? hln)
 obtain ⟨col, H, f1, f2, f3, f4, f5, f6⟩ := col_facts (lr r) pc
 obtain ⟨T, hT⟩ : ∃ T, O + rowA (lr r) pc = T := ⟨_, rfl⟩
 rw [hT]
 obtain ⟨rA, rn, rc, rb, rl⟩ := r
 have hrl : rl.length = rn := by have h := RO.out.sq.len; rw [flat_length] at h; simp only at h; omega
 change mayL rl = true → _ at f1
 change mayL rl = false → _ at f2
 change col ≤ rl.length at f4
 change _ = ((rl.take col).filter signC).length at f5
 change H = true ↔ col < rl.length ∧ 0 < col ∧ (cAt rl col).2.1 = 0 at f6
 have RSQ := Lib.hid (show Sq w w.heap.size 3 rn rA (flat rl) from RO.out.sq)
 have g1 : mayL rl = true → max 0 (min pc (rn : Int)) = (col : Int) := fun h => by have := f1 h; rw [show (lr ⟨rA, rn, rc, rb, rl⟩).2 = rl from rfl, hrl] at this; exact this
 have g4 : col ≤ rn := by rw [← hrl]; exact f4
 have g5 : T + (if H then 1 else 0) = O + ((rl.take col).filter signC).length := by
  have h : rowA (lr ⟨rA, rn, rc, rb, rl⟩) pc + (if H then 1 else 0) = ((rl.take col).filter signC).length := f5
  omega
 have g6 : H = true ↔ col < rn ∧ 0 < col ∧ (cAt rl col).2.1 = 0 := by rw [← hrl]; exact f6
 have f1H := Lib.hid g1
 have f5H := Lib.hid g5
 have f6H := Lib.hid g6
 have f2H := Lib.hid f2
 have hTc : T ≤ 900600 := by
  have h1 : ((rl.take col).filter signC).length ≤ col := Nat.le_trans (List.length_filter_le _ _) (by rw [List.length_take]; omega)
  omega
 have hCN : ∀ k, k ≤ col → ((rl.take k).filter signC).length ≤ 300 := fun k hk => Nat.le_trans (List.length_filter_le _ _) (by rw [List.length_take]; omega)
 have CN := Lib.hid hCN
 have RR := Lib.hid (fun (W : World) (hb : Below w1.heap.size w1 W) => refRow_any rA rn rc rb rl W RO.out.signs ((((RSQ.out.below b1).up b1.size).below hb).up hb.size) (by have h1 := RO.out.le; have h2 := RO.out.cap; simp only at h1 h2; unfold maxLen at h2; omega))
 obtain ⟨M, hM⟩ : ∃ M, mayL rl = M := ⟨_, rfl⟩
 rw [hM] at RR f1H f2H
 have HM := Lib.hid hM
 have MA := Lib.hid (show M = true → ∀ c ∈ rl, mayB c = true from fun h => mayL_cell (hM.trans h))
 have RQ1 := Lib.hid ((RSQ.out.below b1).up b1.size)
 have R1 := Lib.hid ((hr.below b1).up b1.size)
 have B1 := Lib.hid b1
 have X1 := Lib.hid x1
 have X0 := Lib.hid x0
 have Z1 := Lib.hid z1
 have HS := Lib.hid hS
 have HLL := Lib.hid hLn
 have HLN := Lib.hid hln
 have HJL := Lib.hid hjl
 have HRR := Lib.hid hrr
 have HRL := Lib.hid hrl
 have LQ := Lib.hid lq
 have OQ := Lib.hid oq
 have HW := Lib.hid hw1
 obtain ⟨mi, hmi⟩ : ∃ mi, min pc (rn : Int) = mi := ⟨_, rfl⟩
 obtain ⟨mx, hmx⟩ : ∃ mx, max 0 mi = mx := ⟨_, rfl⟩
 have hmx' : max mi 0 = mx := by omega
 rw [hmi, hmx] at f1H
 have c0 := cell_of_row _ _ 0 _ _ (0, 0) x0
 have c1 := cell_of_row _ _ 1 _ _ (0, 0) x0
 have hpr0 : ¬ (pr : Int) < 0 := by omega
 have hprn : (pr : Int) < (n : Int) := by omega
 clear hr hrr hS hw1 b1 z1 x0 x1 hLr hLn hL hln hsp hE hO hjl lq oq f1 f2 f4 f5 f6 g1 g5 g6 hT hrl hCN hM RO
 go_enter Tryz.func18, Tryz.ntmps18
 go_upto_region 1 with fail
 rw [HW.out, HS.out]
 go_wp2_with fail
 refine OF.out.mono ?_
 rintro e w2 ⟨v1, v2, rfl, o1, o2, b2⟩
 obtain ⟨A1, d1, rfl, _⟩ := own_cap o1
 obtain ⟨A2, d2, rfl, _⟩ := own_cap o2
 have B2 := Lib.hid b2
 have Q1 := Lib.hid (show Sq w2 w2.heap.size 1 n A1 (linesV L n) from Sq.own o1)
 have Q2 := Lib.hid (show Sq w2 w2.heap.size 1 n A2 (offsV L n) from Sq.own o2)
 obtain ⟨b, off, rfl, _, q0, q1⟩ := rows_at (R1.out.below b2).sq HRR.out hlt
 obtain ⟨b5, off5, rfl, hb5, q5⟩ := one_at Q2.out OQ.out hlt
 have d0 : w2.cell? ⟨S, 0, none⟩ = some (.int .i64 (pr : Int)) := cell_of_row w2 S 0 _ _ (0, 0) ((b2.block S (by rw [Z1.out]; omega)).trans X0.out)
 obtain ⟨w3, hw3⟩ : ∃ w3, w2.alloc (.cells #[.slice rA rn rc, .bool rb] 48) = w3 := ⟨_, rfl⟩
 obtain ⟨G, hG⟩ : ∃ G, w2.heap.size = G := ⟨_, rfl⟩
 have b3 : Below w1.heap.size w1 w3 := by rw [← hw3]; exact b2.alloc b2.size _
 have x3 : w3.heap[G]? = some (.cells #[.slice rA rn rc, .bool rb] 48 (0, 0)) := by rw [← hw3, ← hG]; exact heap_alloc_new w2 _
 have HW3 := Lib.hid hw3
 have HG := Lib.hid hG
 clear o1 o2 b2 hw3 hG OF c0 c1
 go_upto_region 5 with fail
 rw [HW3.out, HG.out]
 have l23 : Laid w2 w3 := by rw [← HW3.out]; exact (Below.refl _ _).alloc (Nat.le_refl _) _
 have y5 : w3.cell? ⟨b5, off5 + pr, none⟩ = some (.int .i64 (O : Int)) := (l23.cell (p := ⟨b5, off5 + pr, none⟩) hb5).trans q5
 have X03 := Lib.hid ((b3.block S (by rw [Z1.out]; omega)).trans X0.out)
 have X3 := Lib.hid x3
 have B3 := Lib.hid b3
 have e0 : w3.cell? ⟨S, 0, none⟩ = some (.int .i64 (pr : Int)) := cell_of_row w3 S 0 _ _ (0, 0) X03.out
 have e1 : w3.cell? ⟨S, 1, none⟩ = some (.int .i64 pc) := cell_of_row w3 S 1 _ _ (0, 0) X03.out
 have e2 : w3.cell? ⟨G, 0, none⟩ = some (.slice rA rn rc) := cell_of_row w3 G 0 _ _ (0, 0) x3
 have e3 : w3.cell? ⟨G, 1, none⟩ = some (.bool rb) := cell_of_row w3 G 1 _ _ (0, 0) x3
 have R3 := Lib.hid (RR.out w3 b3)
 have Q13 := Lib.hid ((Q1.out.below l23).up l23.size)
 clear q0 q1 q5 d0 x3 b3 l23 hb5
 go_wp2_with fail
 refine R3.out.mono ?_
 rintro e w4 ⟨rfl, b4⟩
 have B4 := Lib.hid b4
 clear e0 e1 e2 e3 y5 b4
 go_upto_if 49 with fail
 go_cut [9] from 50 (fun s9 wx => s9 = .int .i64 (col : Int) ∧ Hid (Below w3.heap.size w3 wx))
 case first =>
  cases M with
  | true =>
   have hc := Lib.hid (f1H.out rfl)
   go_wp2_with fail
   go_meet
   case rel => exact ⟨by rw [hc.out], B4⟩
  | false =>
   have hc := Lib.hid (f2H.out rfl)
   go_wp2_with fail
   go_meet
   case rel => exact ⟨by rw [hc.out]; rfl, B4⟩
 case rest =>
 obtain ⟨rfl, I4⟩ := hcut
 clear hmi hmx hmx' R3 B4
 have N0 := Lib.hid (show O = O + ((rl.take 0).filter signC).length from by simp)
 go_wp2_with fail
 go_loopw [8, 10] (fun s8 i wr => ∃ (k N : Nat), s8 = .int .i64 (N : Int) ∧ i = .int .i64 (k : Int) ∧ k ≤ col ∧ Hid (N = O + ((rl.take k).filter signC).length) ∧ Hid (Below w3.heap.size w3 wr)) (fun _ i _ => col - (intOf i).toNat)
 case atStart => exact ⟨0, O, rfl, rfl, Nat.zero_le _, N0, I4⟩
 case round =>
  obtain ⟨k, N, rfl, rfl, hk, NO, I⟩ := hrel
  clear I4 N0
  have hN : N ≤ 901000 := by have := NO.out; have := CN.out k hk; omega
  have IB := Lib.hid (B3.out.trans (I.out.mono B3.out.size))
  have XG := (I.out.block G (Array.getElem?_eq_some_iff.1 X3.out).1).trans X3.out
  have e2 : wr.cell? ⟨G, 0, none⟩ = some (.slice rA rn rc) := cell_of_row wr G 0 _ _ (0, 0) XG
  by_cases hlt2 : k < col
  ·have hMt : M = true := by
    cases M with
    | true => rfl
    | false => have := f2H.out rfl; omega
   obtain ⟨bb, offb, rfl, hbb, ⟨r, m, a⟩, hcc, s0, s1, s2⟩ := (RQ1.out.below IB.out).three (i := k) (by omega)
   have hki : (k : Int) < (col : Int) := by omega
   have hkr : (k : Int) < (rn : Int) := by omega
   have hmay := MA.out hMt _ (List.mem_of_getElem? hcc)
   have hm3 := mayB_wide hmay
   have FN := Lib.hid (filter_next hcc)
   obtain ⟨w5, hw5⟩ : ∃ w5, wr.alloc (.cells #[.int .i32 r, .int .i64 m, .int .i64 a] 50) = w5 := ⟨_, rfl⟩
   have HW5 := Lib.hid hw5
   have x5 : w5.heap[wr.heap.size]? = some (.cells #[.int .i32 r, .int .i64 m, .int .i64 a] 50 (0, 0)) := by rw [← hw5]; exact heap_alloc_new wr _
   have I3 := Lib.hid (show Below w3.heap.size w3 w5 from by rw [← hw5]; exact I.out.alloc I.out.size _)
   obtain ⟨gc, hgc⟩ : ∃ gc, wr.heap.size = gc := ⟨_, rfl⟩
   rw [hgc] at x5
   have X5 := Lib.hid x5
   have HGC := Lib.hid hgc
   clear hw5 hmay hcc hbb x5 XG hgc hMt
   go_upto_region 13 with fail
   rw [HW5.out, HGC.out]
   clear e2 s0 s1 s2
   obtain ⟨D, hD⟩ : ∃ D, (r == 0 && m == 1 && a == 0) = D := ⟨_, rfl⟩
   have NE := fun w => neq_pad r m a w
   rw [hD] at NE
   obtain ⟨J, hJ, F, h0, hB, hN'⟩ := Cls.below w5
   have H0 := Lib.hid h0
   have HBn := Lib.hid hB
   have PDN := Lib.hid (show ∀ n, Calls Tryz.prog 33 #[] (F n) fun e w' => e = .returned (cellV 0 1 0) ∧ ∃ m, w' = F m from fun n => (refPad_walk (F n)).mono fun e w' ⟨he, hb⟩ => ⟨he, hN' n w' hb⟩)
   have XF := Lib.hid (show ∀ n, (F n).heap[gc]? = some (.cells #[.int .i32 r, .int .i64 m, .int .i64 a] 50 (0, 0)) from fun n => ((hB n).block gc (Array.getElem?_eq_some_iff.1 X5.out).1).trans X5.out)
   have k0 : ∀ n, (F n).cell? ⟨gc, 0, none⟩ = some (.int .i32 r) := fun n => cell_of_row _ _ 0 _ _ (0, 0) (XF.out n)
   have k1 : ∀ n, (F n).cell? ⟨gc, 1, none⟩ = some (.int .i64 m) := fun n => cell_of_row _ _ 1 _ _ (0, 0) (XF.out n)
   have k2 : ∀ n, (F n).cell? ⟨gc, 2, none⟩ = some (.int .i64 a) := fun n => cell_of_row _ _ 2 _ _ (0, 0) (XF.out n)
   have HD := Lib.hid hD
   clear h0 hB hN' hD
   by_cases hm0 : m = 0
   ·have hgt : ¬ (0 : Int) < m := by omega
    have hgd : decide ((0 : Int) < m) = false := by simp [hgt]
    have NS := Lib.hid (show N = O + ((rl.take (k + 1)).filter signC).length from by
     rw [FN.out, show signC (r, m, a) = false by subst hm0; simp [signC]]
     simp
     exact NO.out)
    clear hm3
    refine Cls.region F H0.out (by kernel_rfl) (by kernel_rfl) ?_
    repeat (go_big_quiet_step ((go_at_call 33; exact PDN.out _)))
    refine wpQuiet_nil ?_
    intro _ hw'
    obtain ⟨nq, hw''⟩ := hw'
    subst hw''
    have IQ := Lib.hid (I3.out.trans ((HBn.out nq).mono I3.out.size))
    clear k0 k1 k2 NE hm0
    go_wp2
    go_roundw
    case rel => exact ⟨k + 1, N, by go_num, by go_num, by omega, NS, IQ⟩
    case measure => simp [intOf]; omega
   ·have hgt : (0 : Int) < m := by omega
    have hgd : decide ((0 : Int) < m) = true := by simp [hgt]
    have hmz : (m == 0) = false := by simp [hm0]
    cases D with
    | true =>
     have NS := Lib.hid (show N = O + ((rl.take (k + 1)).filter signC).length from by
      rw [FN.out, show signC (r, m, a) = false by unfold signC padC isB; simp only; rw [HD.out]; simp]
      simp
      exact NO.out)
     clear hm3
     refine Cls.region F H0.out (by kernel_rfl) (by kernel_rfl) ?_
     repeat (go_big_quiet_step ((go_at_call 33; exact PDN.out _)))
     refine wpQuiet_nil ?_
     intro _ hw'
     obtain ⟨nq, hw''⟩ := hw'
     subst hw''
     have IQ := Lib.hid (I3.out.trans ((HBn.out nq).mono I3.out.size))
     clear k0 k1 k2 NE hm0
     go_wp2
     go_roundw
     case rel => exact ⟨k + 1, N, by go_num, by go_num, by omega, NS, IQ⟩
     case measure => simp [intOf]; omega
    | false =>
     have NS := Lib.hid (show N + 1 = O + ((rl.take (k + 1)).filter signC).length from by
      rw [FN.out, show signC (r, m, a) = true by unfold signC padC isB; simp only; rw [HD.out, hmz]; rfl]
      simp only [if_true, List.length_append, List.length_singleton]
      have := NO.out
      omega)
     clear hm3
     refine Cls.region F H0.out (by kernel_rfl) (by kernel_rfl) ?_
     repeat (go_big_quiet_step ((go_at_call 33; exact PDN.out _)))
     refine wpQuiet_nil ?_
     intro _ hw'
     obtain ⟨nq, hw''⟩ := hw'
     subst hw''
     have IQ := Lib.hid (I3.out.trans ((HBn.out nq).mono I3.out.size))
     clear k0 k1 k2 NE hm0
     go_wp2
     go_roundw
     case rel => exact ⟨k + 1, N + 1, by go_num, by go_num, by omega, NS, IQ⟩
     case measure => simp [intOf]; omega
  ·obtain rfl : k = col := by omega
   have hnl : ¬ (k : Int) < (k : Int) := by omega
   have NT := Lib.hid (show T + (if H then 1 else 0) = N from f5H.out.trans NO.out.symm)
   have QR := Lib.hid (RQ1.out.below IB.out)
   clear XG NO hk
   go_upto_region 15 with fail
   go_cut [87] from 70 (fun s87 wx => s87 = .bool H ∧ Hid (Below w3.heap.size w3 wx))
   case first =>
    by_cases hc1 : k < rn
    ·have hi1 : (k : Int) < (rn : Int) := by omega
     by_cases hc2 : 0 < k
     ·have hi2 : (0 : Int) < (k : Int) := by omega
      obtain ⟨bb, offb, rfl, _, ⟨r, m, a⟩, hcc, s0, s1, s2⟩ := QR.out.three hc1
      have hca := cAt_some hcc
      cases hm : (m == 0) with
      | true =>
       have HH := Lib.hid (show H = true from f6H.out.2 ⟨hc1, hc2, by rw [hca]; simpa using hm⟩)
       clear hcc hca
       go_wp2_with fail
       go_meet
       case rel => exact ⟨by rw [HH.out], I⟩
      | false =>
       have HH := Lib.hid (show H = false from by
        cases h : H with
        | false => rfl
        | true =>
         have h1 := (f6H.out.1 h).2.2
         rw [hca] at h1
         simp only at h1
         rw [h1] at hm
         cases hm)
       clear hcc hca
       go_wp2_with fail
       go_meet
       case rel => exact ⟨by rw [HH.out], I⟩
     ·have hi2 : ¬ (0 : Int) < (k : Int) := by omega
      have HH := Lib.hid (show H = false from by
       cases h : H with
       | false => rfl
       | true => exact absurd (f6H.out.1 h).2.1 hc2)
      obtain rfl : k = 0 := by omega
      go_wp2_with fail
      go_meet
      case rel => exact ⟨by rw [HH.out], I⟩
    ·have hi1 : ¬ (k : Int) < (rn : Int) := by omega
     have HH := Lib.hid (show H = false from by
      cases h : H with
      | false => rfl
      | true => exact absurd (f6H.out.1 h).1 hc1)
     go_wp2_with fail
     go_meet
     case rel => exact ⟨by rw [HH.out], I⟩
   case rest =>
   obtain ⟨rfl, I5⟩ := hcut
   clear e2 I QR
   go_upto_if 87 with fail
   go_cut [8] from 88 (fun s8 wx => s8 = .int .i64 (T : Int) ∧ Hid (Below w3.heap.size w3 wx))
   case first =>
    cases H with
    | true =>
     have hw : IntKind.i64.wrap ((N : Int) - 1) = (T : Int) := by
      have h := NT.out
      simp only [if_true] at h
      rw [show (N : Int) - 1 = (T : Int) by omega]
      exact IntWalk.i64_in _ (by omega)
     go_wp2_with fail
     go_meet
     case rel => exact ⟨rfl, I5⟩
    | false =>
     have hw := Lib.hid (show N = T from by have h := NT.out; simpa using h.symm)
     go_wp2_with fail
     go_meet
     case rel => exact ⟨by rw [hw.out], I5⟩
   case rest =>
   obtain ⟨rfl, I6⟩ := hcut
   have J6 := Lib.hid (JW.out wc (B3.out.trans (I6.out.mono B3.out.size)))
   go_wp2_with fail
   refine J6.out.mono ?_
   rintro e w7 ⟨v7, vs7, rfl, l7, b7⟩
   obtain ⟨A7, c7, rfl, _⟩ := own_cap l7.own
   have I7 := Lib.hid (show Below w3.heap.size w3 w7 from I6.out.trans (b7.mono I6.out.size))
   have L7 := Lib.hid (l7.rd JL.out).2
   have hEl : E < (joinL L).length := (List.getElem?_eq_some_iff.1 HLN.out).1
   obtain ⟨x7, hx7⟩ : ∃ x7, vs7[E]? = some x7 := ⟨_, List.getElem?_eq_getElem (by rw [l7.len]; exact hEl)⟩
   obtain ⟨Ax, nx, cx, rfl, _, hqx, _⟩ := L7.out.each E x7 ln hx7 HLN.out
   obtain rfl : jl = nx := by
    have h := hqx.len
    rw [flat_length, HJL.out] at h
    omega
   obtain ⟨b8, off8, rfl, _, y8⟩ := one_at L7.out.sq hx7 hEl
   obtain ⟨b9, off9, rfl, _, y9⟩ := one_at (Q13.out.below I7.out) LQ.out hlt
   have X07 := (I7.out.block S (Array.getElem?_eq_some_iff.1 X03.out).1).trans X03.out
   have u0 : w7.cell? ⟨S, 0, none⟩ = some (.int .i64 (pr : Int)) := cell_of_row w7 S 0 _ _ (0, 0) X07
   have X17 := Lib.hid ((I7.out.block (S + 1) (Nat.lt_of_lt_of_le (by rw [Z1.out]; omega) B3.out.size)).trans ((B3.out.block (S + 1) (by rw [Z1.out]; omega)).trans X1.out))
   have t0 : w7.cell? ⟨S + 1, 0, none⟩ = some (.int .i64 0) := cell_of_row w7 (S + 1) 0 _ _ (0, 0) X17.out
   have t1 : w7.cell? ⟨S + 1, 1, none⟩ = some (.int .i64 0) := cell_of_row w7 (S + 1) 1 _ _ (0, 0) X17.out
   have t2 : w7.cell? ⟨S + 1, 2, none⟩ = some (.int .i64 0) := cell_of_row w7 (S + 1) 2 _ _ (0, 0) X17.out
   have z0 := frozen_of_row w7 (S + 1) 0 _ _ X17.out
   have z1 := frozen_of_row w7 (S + 1) 1 _ _ X17.out
   have z2 := frozen_of_row w7 (S + 1) 2 _ _ X17.out
   have hEn : E ≤ 1000000 := by
    have h := joinL_many (rs := L)
    have h2 := HLL.out
    omega
   have hEi : (E : Int) < ((joinL L).length : Int) := by omega
   obtain ⟨m1, hm1⟩ : ∃ m1 : Nat, min (T : Int) (jl : Int) = (m1 : Int) := ⟨min T jl, by omega⟩
   obtain ⟨m2, hm2⟩ : ∃ m2 : Nat, max ((T : Int) - (jl : Int)) 0 = (m2 : Int) := ⟨T - jl, by omega⟩
   have hm2' : max 0 ((T : Int) - (jl : Int)) = (m2 : Int) := by omega
   have hsub2 : IntKind.i64.wrap ((T : Int) - (jl : Int)) = (T : Int) - (jl : Int) := IntWalk.i64_in _ (by omega)
   have SV := Lib.hid (show spotV (E, min T jl, T - jl) = spotV (E, m1, m2) from by rw [show min T jl = m1 by omega, show T - jl = m2 by omega])
   have IF := Lib.hid (B1.out.trans ((B3.out.trans (I7.out.mono B3.out.size)).mono B1.out.size))
   clear X07 b7 l7 hx7 hqx J6
   go_wp2_with fail
   have s1 := heap_setCell_same w7 (S + 1) 0 _ _ (.int .i64 (E : Int)) X17.out
   have s2 := heap_setCell_same _ (S + 1) 1 _ _ (.int .i64 (m1 : Int)) s1
   have s3 := heap_setCell_same _ (S + 1) 2 _ _ (.int .i64 (m2 : Int)) s2
   have hs2 : w.heap.size ≤ S + 1 := by rw [HS.out]; omega
   have B9 := Lib.hid (((IF.out.setCell (p := ⟨S + 1, 0, none⟩) hs2 (.int .i64 (E : Int))).setCell (p := ⟨S + 1, 1, none⟩) hs2 (.int .i64 (m1 : Int))).setCell (p := ⟨S + 1, 2, none⟩) hs2 (.int .i64 (m2 : Int)))
   generalize ((w7.setCell ⟨S + 1, 0, none⟩ (.int .i64 (E : Int))).setCell ⟨S + 1, 1, none⟩ (.int .i64 (m1 : Int))).setCell ⟨S + 1, 2, none⟩ (.int .i64 (m2 : Int)) = w9 at s3 B9 ⊢
   have r0 : w9.cell? ⟨S + 1, 0, none⟩ = some (.int .i64 (E : Int)) := cell_of_row _ _ 0 _ _ (0, 0) (by simpa using s3)
   have r1 : w9.cell? ⟨S + 1, 1, none⟩ = some (.int .i64 (m1 : Int)) := cell_of_row _ _ 1 _ _ (0, 0) (by simpa using s3)
   have r2 : w9.cell? ⟨S + 1, 2, none⟩ = some (.int .i64 (m2 : Int)) := cell_of_row _ _ 2 _ _ (0, 0) (by simpa using s3)
   refine bodyPost_ret (v := spotV (E, m1, m2)) (by simp [results, Tryz.results18, go_sem, r0, r1, r2, spotV]) rfl ?_
   exact ⟨by rw [SV.out], B9.out⟩
end Ln
end Go.Proofs.YtgmijnnhanpocaaGreatDoor
namespace Go.Proofs.YtgmijnnhanpocaaGreatDoor
open Go.ChangeShapes Go.WideShapes Go.ChangeAt Go.RowKit
namespace Ln
open Rw
def RowIn.cv (x : RowIn) : Value := .slice x.A x.n x.c
structure RL (B g d : Nat) (done : List RowIn) (x : RowIn) (W : World) : Prop where
 own : Own W B (.slice (some ⟨g, 0, none⟩) (done.length + 1) d) (done ++ [x])
 ap : ∀ y ∈ done, ∀ b, (RowIn.cv y).ownBlock = some b → (RowIn.cv x).ownBlock ≠ some b
theorem vals_set0 : ∀ (rs : List RowIn) (x y : RowIn), ((rs ++ [x]).flatMap RowIn.vals).set (rs.length * 2) (.slice y.A y.n y.c) = (rs ++ [{ y with wrap := x.wrap }]).flatMap RowIn.vals
 | [], x, y => rfl
 | r :: rs, x, y => by
  have ih := vals_set0 rs x y
  rw [List.cons_append, List.flatMap_cons, List.cons_append, List.flatMap_cons, ← ih, List.length_cons]
  show (Value.slice r.A r.n r.c :: Value.bool r.wrap :: (rs ++ [x]).flatMap RowIn.vals).set ((rs.length + 1) * 2) _ = Value.slice r.A r.n r.c :: Value.bool r.wrap :: _
  rw [show (rs.length + 1) * 2 = rs.length * 2 + 1 + 1 by omega, List.set_cons_succ, List.set_cons_succ]
  rfl
theorem vals_set1 : ∀ (rs : List RowIn) (x : RowIn) (v : Bool), ((rs ++ [x]).flatMap RowIn.vals).set (rs.length * 2 + 1) (.bool v) = (rs ++ [{ x with wrap := v }]).flatMap RowIn.vals
 | [], x, v => rfl
 | r :: rs, x, v => by
  have ih := vals_set1 rs x v
  rw [List.cons_append, List.flatMap_cons, List.cons_append, List.flatMap_cons, ← ih, List.length_cons]
  show (Value.slice r.A r.n r.c :: Value.bool r.wrap :: (rs ++ [x]).flatMap RowIn.vals).set ((rs.length + 1) * 2 + 1) _ = Value.slice r.A r.n r.c :: Value.bool r.wrap :: _
  rw [show (rs.length + 1) * 2 + 1 = rs.length * 2 + 1 + 1 + 1 by omega, List.set_cons_succ, List.set_cons_succ]
  rfl
namespace RL
variable {B g d : Nat} {done : List RowIn} {x : RowIn} {W W' : World}
theorem laid (h : RL B g d done x W) (hb : Laid W W') : RL B g d done x W' := ⟨h.own.laid hb, h.ap⟩
theorem out (h : RL B g d done x W) : W.ownsRow B 48 2 (.slice (some ⟨g, 0, none⟩) (done.length + 1) d) (done.length + 1) ((done ++ [x]).flatMap RowIn.vals) := by
 have := h.own.own
 rwa [List.length_append, List.length_singleton] at this
theorem last (h : RL B g d done x W) : W.ownsRow B 50 3 (.slice x.A x.n x.c) x.l.length (flat x.l) := (h.own.each x (by simp)).1
theorem len (h : RL B g d done x W) : x.n = x.l.length ∧ x.n ≤ x.c := by
 obtain ⟨A', c', e, hc⟩ := own_cap h.last
 injection e with _ e2 e3
 exact ⟨e2, by omega⟩
theorem at' (h : RL B g d done x W) : B ≤ g ∧ g < W.heap.size := h.out.lt g rfl
theorem typed (h : RL B g d done x W) : ∃ cur, W.heap[g]? = some (.cells cur 48 (0, 0)) := own_type h.out g rfl
theorem cells (h : RL B g d done x W) : W.cell? ⟨g, done.length * 2, none⟩ = some (.slice x.A x.n x.c) ∧ W.cell? ⟨g, done.length * 2 + 1, none⟩ = some (.bool x.wrap) := by
 obtain ⟨_, hr⟩ := h.own.rws
 obtain ⟨b, off, e, _, q0, q1⟩ := rows_at (k := done.length) hr.sq (r := x) (by rw [List.getElem?_append_right (Nat.le_refl _), Nat.sub_self]; rfl) (Nat.lt_succ_self _)
 injection e with e
 injection e with e1 e2
 subst e1 e2
 rw [Nat.zero_add] at q0 q1
 exact ⟨q0, q1⟩
theorem far (h : RL B g d done x W) : ∀ j, (Value.slice x.A x.n x.c).ownBlock = some j → j ≠ g := fun j hj e => own_ne h.last h.out (by decide) j hj (by rw [e]; rfl)
theorem grow {w4 : World} {A4 : Option Addr} {m c4 : Nat} {s : List Cel} (h : RL B g d done x W) (ho : w4.ownsRow B 50 3 (.slice A4 m c4) m (flat (x.l ++ s))) (hm : m = (x.l ++ s).length) (hs : ∀ c ∈ s, -2147483648 ≤ c.1 ∧ c.1 ≤ 2147483647) (hg : W.grownBy w4 (Value.slice x.A x.n x.c).ownBlock)
  (hat : (Value.slice A4 m c4).ownBlock = (Value.slice x.A x.n x.c).ownBlock ∨ (Value.slice A4 m c4).ownBlock = some W.heap.size) :
  RL B g d done ⟨A4, m, c4, x.wrap, x.l ++ s⟩ (w4.setCell ⟨g, done.length * 2, none⟩ (.slice A4 m c4)) := by
 subst hm
 obtain ⟨hgB, hgl⟩ := h.at'
 have own4 : w4.ownsRow B 48 2 (.slice (some ⟨g, 0, none⟩) (done.length + 1) d) (done.length + 1) ((done ++ [x]).flatMap RowIn.vals) := own_keep h.out fun j hj => hg.block j (h.out.lt j hj).2 (fun e => own_ne h.out h.last (by decide) j hj e.symm)
 have other : ∀ {y : Value} {k : List Cel}, HasC w4 B y k → HasC (w4.setCell ⟨g, done.length * 2, none⟩ (.slice A4 (x.l ++ s).length c4)) B y k := fun {y k} hy => by
  have hh : w4.ownsRow B 50 3 y k.length (flat k) := hy
  exact own_keep hh fun b hb => Below.heap_setCell _ _ _ _ (fun e => own_ne hh own4 (by decide) b hb (by rw [e]; rfl))
 obtain ⟨_, _, e4, _, hcm⟩ := own_max ho
 injection e4 with _ _ e4
 subst e4
 refine ⟨⟨?_, fun y hy => ?_⟩, fun y hy b hb => ?_⟩
 ·rw [show (done ++ [(⟨A4, (x.l ++ s).length, c4, x.wrap, x.l ++ s⟩ : RowIn)]).length = done.length + 1 by simp, ← vals_set0 done x ⟨A4, (x.l ++ s).length, c4, x.wrap, x.l ++ s⟩]
  exact (own4.stored _ _).1
 ·rcases List.mem_append.1 hy with hy | hy
  ·obtain ⟨h1, h2, h3⟩ := h.own.each y (by simp [hy])
   have hh : W.ownsRow B 50 3 (.slice y.A y.n y.c) y.l.length (flat y.l) := h1
   exact ⟨other (own_keep hh fun b hb => hg.block b (hh.lt b hb).2 (fun e => h.ap y hy b hb e.symm)), h2, h3⟩
  ·rw [List.mem_singleton.1 hy]
   refine ⟨other ho, fun c hc => ?_, hcm⟩
   rcases List.mem_append.1 hc with hc | hc
   ·exact (h.own.each x (by simp)).2.1 c hc
   ·exact hs c hc
 ·have hh : W.ownsRow B 50 3 (.slice y.A y.n y.c) y.l.length (flat y.l) := (h.own.each y (by simp [hy])).1
  have hlt := (hh.lt b hb).2
  intro e
  rcases hat with h0 | h0
  ·exact h.ap y hy b hb (h0.symm.trans e)
  ·have : some b = some W.heap.size := e.symm.trans h0
   injection this with this
   omega
theorem push {w4 : World} {A4 : Option Addr} {q c4 : Nat} {e : Cel} (h : RL B g d done x W) (hq : q = done.length) (ho : w4.ownsRow B 50 3 (.slice A4 (x.n + 1) c4) (x.n + 1) (flat x.l ++ flat [e])) (he : -2147483648 ≤ e.1 ∧ e.1 ≤ 2147483647) (hg : W.grownBy w4 (Value.slice x.A x.n x.c).ownBlock)
  (hat : (Value.slice A4 (x.n + 1) c4).ownBlock = (Value.slice x.A x.n x.c).ownBlock ∨ (Value.slice A4 (x.n + 1) c4).ownBlock = some W.heap.size) :
  RL B g d done ⟨A4, x.n + 1, c4, x.wrap, x.l ++ [e]⟩ (w4.setCell ⟨g, q * 2, none⟩ (.slice A4 (x.n + 1) c4)) ∧ w4.cell? ⟨g, q * 2, none⟩ = some (.slice x.A x.n x.c) ∧ w4.frozen? ⟨g, q * 2, none⟩ = false := by
 subst hq
 have hl := h.len.1
 have hb : w4.heap[g]? = W.heap[g]? := hg.block g h.at'.2 (fun e => h.far g e.symm rfl)
 obtain ⟨cur, hc⟩ := h.typed
 refine ⟨?_, ?_, frozen_of_row w4 g _ cur _ (hb.trans hc)⟩
 ·exact h.grow (by rw [flat_append]; exact ho) (by rw [hl, List.length_append]; rfl) (fun c hc => by rw [List.mem_singleton.1 hc]; exact he) hg hat
 ·have h1 := h.cells.1
  rw [cell_of_row _ _ _ _ _ (0, 0) hc] at h1
  rw [cell_of_row _ _ _ _ _ (0, 0) (hb.trans hc)]
  exact h1
theorem belowG {w0 w4 : World} {i : Nat} {v : Value} (h : RL B g d done x W) (hb : Below B w0 W) (hB : B ≤ w0.heap.size) (hg : W.grownBy w4 (Value.slice x.A x.n x.c).ownBlock) : Below B w0 (w4.setCell ⟨g, i, none⟩ v) :=
 (hb.grown hg (Nat.le_trans hB hb.size) (fun j e => (h.last.lt j e).1)).setCell (p := ⟨g, i, none⟩) h.at'.1 _
theorem wrapT (h : RL B g d done x W) : RL B g d done { x with wrap := true } (W.setCell ⟨g, done.length * 2 + 1, none⟩ (.bool true)) := by
 have other : ∀ {y : Value} {k : List Cel}, HasC W B y k → HasC (W.setCell ⟨g, done.length * 2 + 1, none⟩ (.bool true)) B y k := fun {y k} hy => by
  have hh : W.ownsRow B 50 3 y k.length (flat k) := hy
  exact own_keep hh fun b hb => Below.heap_setCell _ _ _ _ (fun e => own_ne hh h.out (by decide) b hb (by rw [e]; rfl))
 refine ⟨⟨?_, fun y hy => ?_⟩, h.ap⟩
 ·rw [show (done ++ [(⟨x.A, x.n, x.c, true, x.l⟩ : RowIn)]).length = done.length + 1 by simp, ← vals_set1 done x true]
  exact (h.out.stored _ _).1
 ·rcases List.mem_append.1 hy with hy | hy
  ·obtain ⟨h1, h2, h3⟩ := h.own.each y (by simp [hy])
   exact ⟨other h1, h2, h3⟩
  ·rw [List.mem_singleton.1 hy]
   obtain ⟨h1, h2, h3⟩ := h.own.each x (by simp)
   exact ⟨other h1, h2, h3⟩
theorem next {g' d' : Nat} (h : RL B g d done x W) (ho : W'.ownsRow B 48 2 (.slice (some ⟨g', 0, none⟩) (done.length + 2) d') (done.length + 2) ((done ++ [x]).flatMap RowIn.vals ++ [.slice none 0 0, .bool false])) (hg : W.grownBy W' (some g)) : RL B g' d' (done ++ [x]) ⟨none, 0, 0, false, []⟩ W' := by
 refine ⟨?_, fun y _ b _ e => by cases e⟩
 rw [List.length_append, List.length_singleton]
 refine Own.snoc (x := ⟨none, 0, 0, false, []⟩) h.own (World.ownsRow_nil _ _ _ _) (fun c hc => by cases hc) (Nat.zero_le _) ?_ hg
 rw [List.length_append, List.length_singleton]
 exact ho
theorem first (W : World) (B : Nat) (hB : B ≤ W.heap.size) : RL B W.heap.size 1 [] ⟨none, 0, 0, false, []⟩ (W.alloc (.cells #[.slice none 0 0, .bool false] 48)) := by
 refine ⟨⟨?_, fun y hy => ?_⟩, fun y hy => by cases hy⟩
 ·have h := own_new W 48 2 1 #[.slice none 0 0, .bool false] rfl (by decide)
  exact own_down h hB
 ·rw [List.mem_singleton.1 hy]
  exact ⟨World.ownsRow_nil _ _ _ _, (fun c hc => by cases hc), Nat.zero_le _⟩
end RL
end Ln
end Go.Proofs.YtgmijnnhanpocaaGreatDoor
