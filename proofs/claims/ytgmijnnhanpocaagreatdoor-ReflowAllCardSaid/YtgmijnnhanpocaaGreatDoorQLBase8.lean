/-
  The reference's Spot and Place for what there is not. The reference's Rows: the lines of rows laid out anew, and where marks come to stand. reflow.Rows and the reference's at widths that may not be; reflow.Same of many rows.
-/
import Derived.Test.YtgmijnnhanpocaaGreatDoorQLBase6
import Derived.Test.YtgmijnnhanpocaaGreatDoorQLBase7
import Derived.Test.YtgmijnnhanpocaaGreatDoorQLLine7
namespace Go.Proofs.YtgmijnnhanpocaaGreatDoor
open Go.ChangeShapes Go.WideShapes Go.ChangeAt Go.RowKit
namespace Ln
open Rw
set_option maxRecDepth 100000 in
set_option maxHeartbeats 6400000 in
theorem refSpot_out (A : Option Addr) (n c : Nat) (r pc : Int) (w : World) (h : r < 0 ∨ (n : Int) ≤ r) :
  Calls Tryz.prog 18 #[.slice A n c, .agg #[.int .i64 r, .int .i64 pc]] w fun e w' => e = .returned (spotV (0, 0, 0)) ∧ Below w.heap.size w w' := by
 obtain ⟨S, hS⟩ : ∃ S, w.heap.size = S := ⟨_, rfl⟩
 obtain ⟨w1, hw1⟩ : ∃ w1, (w.alloc (.cells #[.int .i64 r, .int .i64 pc] 25)).alloc (.cells #[.int .i64 0, .int .i64 0, .int .i64 0] 27) = w1 := ⟨_, rfl⟩
 have b1 : Below w.heap.size w w1 := by rw [← hw1]; exact ((Below.refl _ _).alloc (Nat.le_refl _) _).alloc (by simp) _
 have x0 : w1.heap[S]? = some (.cells #[.int .i64 r, .int .i64 pc] 25 (0, 0)) := by rw [← hw1, ← hS]; exact (Below.heap_alloc _ _ _ (by simp)).trans (heap_alloc_new w _)
 have x1 : w1.heap[S + 1]? = some (.cells #[.int .i64 0, .int .i64 0, .int .i64 0] 27 (0, 0)) := by
  rw [← hw1, ← hS]
  have := heap_alloc_new (w.alloc (.cells #[.int .i64 r, .int .i64 pc] 25)) (.cells #[.int .i64 0, .int .i64 0, .int .i64 0] 27)
  rwa [World.size_alloc] at this
 have HW := Lib.hid hw1
 have c0 := cell_of_row _ _ 0 _ _ (0, 0) x0
 have e0 := cell_of_row _ _ 0 _ _ (0, 0) x1
 have e1 := cell_of_row _ _ 1 _ _ (0, 0) x1
 have e2 := cell_of_row _ _ 2 _ _ (0, 0) x1
 have g0 := frozen_of_row _ (S + 1) 0 _ _ x1
 have g1 := frozen_of_row _ (S + 1) 1 _ _ x1
 have g2 := frozen_of_row _ (S + 1) 2 _ _ x1
 have X1 := Lib.hid (And.intro b1 x1)
 have HR := Lib.hid h
 clear hw1 b1 x1 x0 h
 by_cases hr : r < 0
 all_goals
  have hr2 : r < 0 ∨ (n : Int) ≤ r := HR.out
  have hr3 : ¬ r < 0 → (n : Int) ≤ r := fun h => hr2.resolve_left h
  first
  | (have hr4 := hr3 hr; clear hr2 hr3)
  | clear hr2 hr3
  go_enter Tryz.func18, Tryz.ntmps18
  go_upto_region 1 with fail
  rw [HW.out]
  go_wp2_with fail
  have s1 := heap_setCell_same w1 (S + 1) 0 _ _ (.int .i64 0) X1.out.2
  have s2 := heap_setCell_same _ (S + 1) 1 _ _ (.int .i64 0) s1
  have s3 := heap_setCell_same _ (S + 1) 2 _ _ (.int .i64 0) s2
  have B5 := Lib.hid (((X1.out.1.setCell (p := ⟨S + 1, 0, none⟩) (by show w.heap.size ≤ S + 1; omega) (.int .i64 0)).setCell (p := ⟨S + 1, 1, none⟩) (by show w.heap.size ≤ S + 1; omega) (.int .i64 0)).setCell (p := ⟨S + 1, 2, none⟩) (by show w.heap.size ≤ S + 1; omega) (.int .i64 0))
  generalize ((w1.setCell ⟨S + 1, 0, none⟩ (.int .i64 0)).setCell ⟨S + 1, 1, none⟩ (.int .i64 0)).setCell ⟨S + 1, 2, none⟩ (.int .i64 0) = w5 at s3 B5 ⊢
  have r0 : w5.cell? ⟨S + 1, 0, none⟩ = some (.int .i64 0) := cell_of_row _ _ 0 _ _ (0, 0) (by simpa using s3)
  have r1 : w5.cell? ⟨S + 1, 1, none⟩ = some (.int .i64 0) := cell_of_row _ _ 1 _ _ (0, 0) (by simpa using s3)
  have r2 : w5.cell? ⟨S + 1, 2, none⟩ = some (.int .i64 0) := cell_of_row _ _ 2 _ _ (0, 0) (by simpa using s3)
  refine bodyPost_ret (v := spotV (0, 0, 0)) (by simp [results, Tryz.results18, go_sem, r0, r1, r2, spotV]) rfl ?_
  exact ⟨rfl, by have h := B5.out; first | exact h | (rw [hS] at h; exact h)⟩
theorem spotN_far (pc : Int) : ∀ (P : List (List LR)) (pr k : Nat), P.flatten.length ≤ pr → spotN pc pr k P = (0, 0, 0)
 | [], _, _, _ => rfl
 | part :: P, pr, k, h => by
  rw [List.flatten_cons, List.length_append] at h
  rw [spotN, if_neg (by omega)]
  exact spotN_far pc P _ _ (by omega)
theorem refMark_any (A : Option Addr) (n c : Nat) (rs : List RowIn) (p : Int × Int) (w : World) (hr : Rws w w.heap.size A n rs) (hn : n ≤ 3000) :
  Calls Tryz.prog 18 #[.slice A n c, .agg #[.int .i64 p.1, .int .i64 p.2]] w fun e w' => e = .returned (spotV (markN (rs.map lr) p)) ∧ Below w.heap.size w w' := by
 unfold markN
 by_cases h : p.1 < 0
 ·rw [if_pos h]
  exact refSpot_out A n c p.1 p.2 w (.inl h)
 ·rw [if_neg h]
  obtain ⟨q, hq⟩ : ∃ q : Nat, p.1 = (q : Int) := ⟨p.1.toNat, by omega⟩
  rw [hq, Int.toNat_natCast]
  by_cases hlt : q < n
  ·exact refSpot_walk A n c rs q p.2 w hr hn hlt
  ·rw [spotN_far p.2 _ q 0 (by rw [parts_flatten, List.length_map, hr.len]; omega)]
   exact refSpot_out A n c q p.2 w (.inr (by omega))
set_option maxRecDepth 100000 in
set_option maxHeartbeats 6400000 in
theorem refPlace_none (A : Option Addr) (c : Nat) (x : Int) (w : World) :
  Calls Tryz.prog 20 #[.slice A 0 c, .int .i64 x, spotV (0, 0, 0)] w fun e w' => e = .returned (.agg #[.int .i64 0, .int .i64 0]) ∧ Below w.heap.size w w' := by
 obtain ⟨S, hS⟩ : ∃ S, w.heap.size = S := ⟨_, rfl⟩
 obtain ⟨w1, hw1⟩ : ∃ w1, (w.alloc (.cells #[.int .i64 0, .int .i64 0, .int .i64 0] 27)).alloc (.cells #[.int .i64 0, .int .i64 0] 25) = w1 := ⟨_, rfl⟩
 have z1 : w1.heap.size = S + 2 := by rw [← hw1, ← hS]; simp
 have b1 : Below w.heap.size w w1 := by rw [← hw1]; exact ((Below.refl _ _).alloc (Nat.le_refl _) _).alloc (by simp) _
 have x0 : w1.heap[S]? = some (.cells #[.int .i64 0, .int .i64 0, .int .i64 0] 27 (0, 0)) := by rw [← hw1, ← hS]; exact (Below.heap_alloc _ _ _ (by simp)).trans (heap_alloc_new w _)
 have x1 : w1.heap[S + 1]? = some (.cells #[.int .i64 0, .int .i64 0] 25 (0, 0)) := by
  rw [← hw1, ← hS]
  have := heap_alloc_new (w.alloc (.cells #[.int .i64 0, .int .i64 0, .int .i64 0] 27)) (.cells #[.int .i64 0, .int .i64 0] 25)
  rwa [World.size_alloc] at this
 obtain ⟨J, hJ, F, h0, hB, _⟩ := Cls.below w1
 have H0 := Lib.hid h0
 have HBn := Lib.hid hB
 have k0 : ∀ n, (F n).cell? ⟨S, 0, none⟩ = some (.int .i64 0) := fun n => cell_of_row _ _ 0 _ _ (0, 0) (((hB n).block S (by omega)).trans x0)
 have g1 : decide ((0 : Int) < 0) = false := by decide
 have HW := Lib.hid hw1
 have B1 := Lib.hid b1
 have X1 := Lib.hid x1
 have Z1 := Lib.hid z1
 clear hw1 b1 x1 x0 h0 hB z1
 unfold spotV
 go_enter Tryz.func20, Tryz.ntmps20
 go_upto_region 1 with fail
 first | rw [show (w.alloc (.cells #[.int .i64 0, .int .i64 0, .int .i64 0] 27)).alloc (.cells #[.int .i64 0, .int .i64 0] 25) = w1 from HW.out] | rw [HW.out]
 refine Cls.region F H0.out (by kernel_rfl) (by kernel_rfl) ?_
 repeat (go_big_quiet_step (fail))
 refine wpQuiet_nil ?_
 intro _ hw'
 obtain ⟨nq, hw''⟩ := hw'
 subst hw''
 obtain ⟨w3, hw3⟩ : ∃ w3, F nq = w3 := ⟨_, rfl⟩
 have L3 := Lib.hid (HBn.out nq)
 rw [hw3] at L3 ⊢
 have I3 := Lib.hid (B1.out.trans (L3.out.mono B1.out.size))
 have X3 := Lib.hid ((L3.out.block (S + 1) (by rw [Z1.out]; omega)).trans X1.out)
 have y0 : w3.cell? ⟨S + 1, 0, none⟩ = some (.int .i64 0) := cell_of_row _ _ 0 _ _ (0, 0) X3.out
 have y1 : w3.cell? ⟨S + 1, 1, none⟩ = some (.int .i64 0) := cell_of_row _ _ 1 _ _ (0, 0) X3.out
 have f0 := frozen_of_row _ (S + 1) 0 _ _ X3.out
 have f1 := frozen_of_row _ (S + 1) 1 _ _ X3.out
 have hs2 : w.heap.size ≤ S + 1 := by omega
 have HS2 := Lib.hid hs2
 clear k0 hw3 g1 hs2
 go_wp2_with fail
 have s1 := heap_setCell_same w3 (S + 1) 0 _ _ (.int .i64 0) X3.out
 have s2 := heap_setCell_same _ (S + 1) 1 _ _ (.int .i64 0) s1
 have B9 := Lib.hid ((I3.out.setCell (p := ⟨S + 1, 0, none⟩) HS2.out (.int .i64 0)).setCell (p := ⟨S + 1, 1, none⟩) HS2.out (.int .i64 0))
 generalize (w3.setCell ⟨S + 1, 0, none⟩ (.int .i64 0)).setCell ⟨S + 1, 1, none⟩ (.int .i64 0) = w9 at s2 B9 ⊢
 have r0 : w9.cell? ⟨S + 1, 0, none⟩ = some (.int .i64 0) := cell_of_row _ _ 0 _ _ (0, 0) (by simpa using s2)
 have r1 : w9.cell? ⟨S + 1, 1, none⟩ = some (.int .i64 0) := cell_of_row _ _ 1 _ _ (0, 0) (by simpa using s2)
 refine bodyPost_ret (v := .agg #[.int .i64 0, .int .i64 0]) (by simp [results, Tryz.results20, go_sem, r0, r1]) rfl ?_
 exact ⟨rfl, by have h := B9.out; first | exact h | (rw [hS] at h; exact h)⟩
theorem refPlaceN_walk (A : Option Addr) (n c wv : Nat) (s : Nat × Nat × Nat) (vs : List Value) (ls : List (List Cel)) (w : World) (h : Lrd w w.heap.size A n vs ls) (hc : n ≤ c) (hn : n ≤ 1000) (hok : LOk ls) (hw2 : 2 ≤ wv) (hw3 : wv ≤ 300) (hS : SOk ls s) :
  Calls Tryz.prog 20 #[.slice A n c, .int .i64 (wv : Int), spotV s] w fun e w' => e = .returned (.agg #[.int .i64 ((placeN wv ls s).1 : Int), .int .i64 ((placeN wv ls s).2 : Int)]) ∧ Below w.heap.size w w' := by
 cases hl : ls[s.1]? with
 | none =>
  obtain ⟨e, e2⟩ := hS.none hl
  obtain rfl : n = 0 := by have := h.len; rw [e2] at this; simpa using this.symm
  rw [placeN_none hl, e]
  exact refPlace_none A c (wv : Int) w
 | some l => exact refPlace_walk A n c wv s.1 s.2.1 s.2.2 vs ls l w h hc hn hok hw2 hw3 hl (hS.off l hl).1 (Nat.le_trans hS.past (by decide))
end Ln
end Go.Proofs.YtgmijnnhanpocaaGreatDoor
namespace Go.Proofs.YtgmijnnhanpocaaGreatDoor
open Go.ChangeShapes Go.WideShapes Go.ChangeAt Go.RowKit
namespace Ln
open Rw
set_option maxRecDepth 100000 in
set_option maxHeartbeats 6400000 in
theorem refRows_walk (A : Option Addr) (n c : Nat) (rs : List RowIn) (wv : Nat) (Am : Option Addr) (nm cm : Nat) (ms : List (Int × Int)) (w : World) (hr : Rws w w.heap.size A n rs) (hn : n ≤ 3000) (hN0 : (joinL (rs.map lr)).length ≤ 1000) (hw2 : 2 ≤ wv) (hw3 : wv ≤ 300)
  (hm : Sq w w.heap.size 2 nm Am (ms.flatMap posV)) (hml : ms.length = nm) (hnm : nm ≤ 1000000) (hok : LOk (joinL (rs.map lr))) :
  Calls Tryz.prog 22 #[.slice A n c, .int .i64 (wv : Int), .slice Am nm cm] w fun e w' => ∃ v mv rs', e = .returned (.tuple #[v, mv]) ∧ Own w' w.heap.size v rs' ∧ rs'.map lr = allL wv (joinL (rs.map lr)) ∧ w'.ownsRow w.heap.size 25 2 mv nm ((ms.map (movedN wv (rs.map lr))).flatMap nposV) ∧ Below w.heap.size w w' := by
 obtain ⟨i0, hi0, hz0, hz1, hz2⟩ := info_parts infoPos
 have R := Lib.hid hr
 have M := Lib.hid hm
 have ML := Lib.hid hml
 have OK := Lib.hid hok
 have HN0 := Lib.hid hN0
 have HW := Lib.hid (And.intro hw2 hw3)
 have JW := Lib.hid (refJoin_walk A n c rs w hr hn)
 have d1 : decide ((wv : Int) < 2) = false := decide_eq_false (by omega)
 have d2 : decide (300 < (wv : Int)) = false := decide_eq_false (by omega)
 have n1 : ¬ (wv : Int) < 2 := by omega
 have n2 : ¬ (300 : Int) < (wv : Int) := by omega
 clear hr hm hml hok hN0
 go_enter Tryz.func22, Tryz.ntmps22
 go_wp2_with fail
 refine JW.out.mono ?_
 rintro e w1 ⟨v1, vs, rfl, L1, b1⟩
 obtain ⟨J, hJ⟩ : ∃ J, joinL (rs.map lr) = J := ⟨_, rfl⟩
 rw [hJ] at OK L1
 obtain ⟨A1, c1, rfl, hc1⟩ := own_cap L1.own
 obtain ⟨N, hN⟩ : ∃ N, J.length = N := ⟨_, rfl⟩
 have RD := Lib.hid (show Lrd w1 w1.heap.size A1 N vs J from by have h := (L1.rd (fun l hl => by have := OK.out.len l hl; omega)).2; rw [hN] at h; exact h)
 rw [hN] at hc1 ⊢
 have B1 := Lib.hid b1
 have HJ := Lib.hid hJ
 have hN1 : N ≤ 1000 := by have h := HN0.out; rw [hJ, hN] at h; exact h
 have RW := Lib.hid (fun (W : World) (hb : Below w.heap.size w W) => (R.out.below hb).up hb.size)
 have HRL := Lib.hid (show (rs.map lr).length ≤ 1000000 from by rw [List.length_map, R.out.len]; omega)
 have I0 := Lib.hid (show Below w1.heap.size w1 w1 ∧ w1.ownsRow w1.heap.size 25 2 (.slice none 0 0) 0 (((ms.take 0).map (movedN wv (rs.map lr))).flatMap nposV) from ⟨Below.refl _ _, World.ownsRow_nil _ _ _ _⟩)
 clear L1 b1 hJ hN JW
 go_wp2_with fail
 go_loopw [9, 10] (fun v i wr => ∃ (k d : Nat) (A9 : Option Addr), v = .slice A9 k d ∧ i = .int .i64 (k : Int) ∧ k ≤ nm ∧ Hid (Below w1.heap.size w1 wr ∧ wr.ownsRow w1.heap.size 25 2 (.slice A9 k d) k (((ms.take k).map (movedN wv (rs.map lr))).flatMap nposV))) (fun _ i _ => nm - (intOf i).toNat)
 case atStart => exact ⟨0, 0, none, rfl, rfl, Nat.zero_le _, I0⟩
 case round =>
  obtain ⟨k, d, A9, rfl, rfl, hk, I⟩ := hrel
  clear I0
  by_cases hlt : k < nm
  ·obtain ⟨⟨mr, mc⟩, hx⟩ : ∃ x, ms[k]? = some x := ⟨_, List.getElem?_eq_getElem (by rw [ML.out]; exact hlt)⟩
   have IB := Lib.hid (show Below w.heap.size w wr from B1.out.trans (I.out.1.mono B1.out.size))
   obtain ⟨b, off, rfl, hb, c0, c1'⟩ := marks_at (M.out.below IB.out) hx hlt
   dsimp only at c0 c1'
   have NX := Lib.hid (show ((ms.take (k + 1)).map (movedN wv (rs.map lr))).flatMap nposV = ((ms.take k).map (movedN wv (rs.map lr))).flatMap nposV ++ nposV (movedN wv (rs.map lr) (mr, mc)) from by
    rw [take_one hx, List.map_append, List.flatMap_append]; simp)
   have MW := Lib.hid (fun (W : World) (hb : Laid wr W) => refMark_any A n c rs (mr, mc) W (RW.out W (IB.out.trans (hb.mono IB.out.size))) hn)
   have SO := Lib.hid (show SOk J (markN (rs.map lr) (mr, mc)) from by rw [← HJ.out]; exact mark_ok _ HRL.out _)
   have PW := Lib.hid (fun (W : World) (hb : Below w1.heap.size w1 W) => refPlaceN_walk A1 N c1 wv (markN (rs.map lr) (mr, mc)) vs J W ((RD.out.below hb).up hb.size) hc1 hN1 OK.out HW.out.1 HW.out.2 SO.out)
   have k0 : (0 : Int) ≤ (k : Int) := by omega
   have ki : (k : Int) < (nm : Int) := by omega
   obtain ⟨mv, hmv⟩ : ∃ mv, movedN wv (rs.map lr) (mr, mc) = mv := ⟨_, rfl⟩
   have hmv2 : placeN wv J (markN (rs.map lr) (mr, mc)) = mv := by rw [← HJ.out]; exact hmv
   rw [hmv2] at PW
   rw [hmv] at NX
   have M3 := Lib.hid (MW.out wr (Below.refl _ _))
   clear hx hmv hmv2 MW hb
   go_wp2_with fail
   refine M3.out.mono ?_
   rintro e w4 ⟨rfl, b4⟩
   have b14 : Laid wr w4 := b4
   have B4 := Lib.hid b14
   have I4 := Lib.hid (show Below w1.heap.size w1 w4 from I.out.1.trans (b14.mono I.out.1.size))
   have P4 := Lib.hid (PW.out w4 I4.out)
   clear b4 b14 c0 c1' M3 PW
   go_wp2_with fail
   refine P4.out.mono ?_
   rintro e w5 ⟨rfl, b5⟩
   have b15 : Laid wr w5 := B4.out.trans (b5.mono B4.out.size)
   have B5 := Lib.hid b15
   have OW := Lib.hid (own_laid I.out.2 b15)
   have I5 := Lib.hid (show Below w1.heap.size w1 w5 from I.out.1.trans (b15.mono I.out.1.size))
   have F1 := Lib.hid (show k + 1 ≤ maxLen ∧ (k + 1) * 16 ≤ 140737488355328 from by unfold maxLen; omega)
   clear b5 b15 P4
   go_wp2_with (at_builtin; refine wpl_app rfl _ _ 38 rfl w1.heap.size 25 i0 (.agg #[.int .i64 0, .int .i64 0]) 2 16 Tryz.underlying38 hi0 hz0 hz1 hz2 rfl (by decide) (.slice A9 k d) k (((ms.take k).map (movedN wv (rs.map lr))).flatMap nposV) rfl (OW.out.alloc _) (some ⟨w5.heap.size, 0, none⟩) 1 1 (nposV mv) rfl (w5.heap.size + 1) (sq_pair _ _ _ _) (by simp [nposV, Value.oneCell']) F1.out.1 F1.out.2 (by have := I5.out.size; simp; omega) ?_; intro v6 w6 ho6 hg6 _; (obtain ⟨A6, d6, rfl, _⟩ := own_cap ho6); (have O6 := Lib.hid ho6); (have G6 := Lib.hid hg6); clear ho6 hg6)
   go_roundw
   case rel =>
    refine ⟨k + 1, d6, A6, by trivial, by go_num, by omega, Lib.hid ⟨?_, by rw [NX.out]; exact O6.out⟩⟩
    have ba : Laid w5 (w5.alloc (.cells #[.int .i64 (mv.1 : Int), .int .i64 (mv.2 : Int)] 25)) := (Below.refl _ _).alloc (Nat.le_refl _) _
    exact (I5.out.trans (ba.mono I5.out.size)).grown G6.out (by have := I5.out.size; simp; omega) (fun j e => (OW.out.lt j e).1)
   case measure => first | (simp [intOf]; done) | (simp [intOf]; omega)
  ·obtain rfl : k = nm := by omega
   have MT := Lib.hid (show ms.take k = ms from List.take_of_length_le (by rw [ML.out]; exact Nat.le_refl _))
   have AW := Lib.hid (refAll_walk A1 N c1 wv vs J wr ((RD.out.below I.out.1).up I.out.1.size) hN1 OK.out HW.out.1 HW.out.2)
   have hnl : ¬ (k : Int) < (k : Int) := by omega
   go_wp2_with fail
   refine AW.out.mono ?_
   rintro e w4 ⟨v4, rs4, rfl, O4, M4, b4⟩
   have IB := Lib.hid (show Below w.heap.size w wr from B1.out.trans (I.out.1.mono B1.out.size))
   have FN := Lib.hid (show Own w4 w.heap.size v4 rs4 ∧ rs4.map lr = allL wv (joinL (rs.map lr)) ∧ w4.ownsRow w.heap.size 25 2 (.slice A9 k d) k ((ms.map (movedN wv (rs.map lr))).flatMap nposV) ∧ Below w.heap.size w w4 from ⟨O4.down IB.out.size, by rw [HJ.out]; exact M4, by
    have h := own_down (own_laid I.out.2 b4) B1.out.size
    rw [MT.out] at h
    exact h, IB.out.trans (b4.mono IB.out.size)⟩)
   clear O4 M4 b4 AW
   go_wp2_with fail
   refine bodyPost_ret (results_tmp2 (t := 6) (u := 7) rfl _ _ _) rfl ?_
   exact ⟨_, _, rs4, rfl, FN.out⟩
end Ln
end Go.Proofs.YtgmijnnhanpocaaGreatDoor
namespace Go.Proofs.YtgmijnnhanpocaaGreatDoor
open Go.ChangeShapes Go.WideShapes Go.ChangeAt Go.RowKit
namespace Ln
open Rw
set_option maxRecDepth 100000 in
set_option maxHeartbeats 3200000 in
theorem reflow_none (A : Option Addr) (n c : Nat) (x : Int) (Am : Option Addr) (nm cm : Nat) (w : World) (hx : ¬ (2 ≤ x ∧ x ≤ 300)) :
  Calls Tryz.prog 21 #[.slice A n c, .int .i64 x, .slice Am nm cm] w fun e w' => e = .returned (.tuple #[.slice none 0 0, .slice none 0 0]) ∧ Below w.heap.size w w' := by
 have HX := Lib.hid hx
 clear hx
 by_cases h2 : x < 2
 ·go_enter Tryz.func21, Tryz.ntmps21
  go_wp2_with fail
  exact bodyPost_ret (results_tmp2 (t := 6) (u := 7) rfl _ _ _) rfl ⟨rfl, Below.refl _ _⟩
 ·have h3 : 300 < x := by have := HX.out; omega
  go_enter Tryz.func21, Tryz.ntmps21
  go_wp2_with fail
  exact bodyPost_ret (results_tmp2 (t := 6) (u := 7) rfl _ _ _) rfl ⟨rfl, Below.refl _ _⟩
set_option maxRecDepth 100000 in
set_option maxHeartbeats 3200000 in
theorem refRows_none (A : Option Addr) (n c : Nat) (x : Int) (Am : Option Addr) (nm cm : Nat) (w : World) (hx : ¬ (2 ≤ x ∧ x ≤ 300)) :
  Calls Tryz.prog 22 #[.slice A n c, .int .i64 x, .slice Am nm cm] w fun e w' => e = .returned (.tuple #[.slice none 0 0, .slice none 0 0]) ∧ Below w.heap.size w w' := by
 have HX := Lib.hid hx
 clear hx
 by_cases h2 : x < 2
 ·go_enter Tryz.func22, Tryz.ntmps22
  go_wp2_with fail
  exact bodyPost_ret (results_tmp2 (t := 6) (u := 7) rfl _ _ _) rfl ⟨rfl, Below.refl _ _⟩
 ·have h3 : 300 < x := by have := HX.out; omega
  go_enter Tryz.func22, Tryz.ntmps22
  go_wp2_with fail
  exact bodyPost_ret (results_tmp2 (t := 6) (u := 7) rfl _ _ _) rfl ⟨rfl, Below.refl _ _⟩
set_option maxRecDepth 100000 in
set_option maxHeartbeats 3200000 in
theorem sameN_walk (A A' : Option Addr) (n c n' c' : Nat) (rs rs' : List RowIn) (w : World) (hs : Spans w) (hr : Rws w w.heap.size A n rs) (hc : n ≤ c) (hr' : Rws w w.heap.size A' n' rs') (hc' : n' ≤ c') (hn : n ≤ 1000000) (hn' : n' ≤ 1000000) (hN1 : ∀ x ∈ joinL (rs.map lr), x.length ≤ 1000000) (hN2 : ∀ x ∈ joinL (rs'.map lr), x.length ≤ 1000000) :
  Calls Tryz.prog 23 #[.slice A n c, .slice A' n' c'] w fun e w' => e = .returned (.bool (eqLs (joinL (rs.map lr)) (joinL (rs'.map lr)))) ∧ Below w.heap.size w w' := by
 have S := Lib.hid hs
 have R' := Lib.hid hr'
 have J1 := Lib.hid (join_walk A n c rs w hs hr hc (by omega))
 have N1 := Lib.hid hN1
 have N2 := Lib.hid hN2
 have NL := Lib.hid (show (joinL (rs.map lr)).length ≤ 1000000 from by
  have h1 := parts_length_le (rs.map lr)
  rw [List.length_map, hr.len] at h1
  unfold joinL
  rw [List.length_map]
  omega)
 have J2 := Lib.hid (fun (W : World) (hb : Below w.heap.size w W) => join_walk A' n' c' rs' W (S.out.below hb S.out.size) ((R'.out.below hb).up hb.size) hc' (by omega))
 clear hs hr hc hr' hc' hN1 hN2
 generalize joinL (rs.map lr) = j1 at J1 N1 NL ⊢
 generalize joinL (rs'.map lr) = j2 at J2 N2 ⊢
 go_enter Tryz.func23, Tryz.ntmps23
 go_wp2_with fail
 refine J1.out.mono ?_
 rintro e w1 ⟨v1, vs1, rfl, l1, b1⟩
 have B1 := Lib.hid b1
 have L1 := Lib.hid l1
 obtain ⟨A1, c1, rfl, _⟩ := own_cap l1.own
 clear b1 l1 J1
 go_wp2_with fail
 refine (J2.out _ B1.out).mono ?_
 rintro e w2 ⟨v2, vs2, rfl, l2, b2⟩
 obtain ⟨A2, c2, rfl, _⟩ := own_cap l2.own
 have B2 := Lib.hid (B1.out.trans (b2.mono B1.out.size))
 have R1 := Lib.hid ((L1.out.laid b2).rd N1.out).2
 have R2 := Lib.hid (l2.rd N2.out).2
 have EQ := Lib.hid (eqF_walk A1 A2 j1.length c1 j2.length c2 vs1 vs2 j1 j2 w2 NL.out R1.out R2.out)
 clear b2 l2 J2
 go_wp2_with fail
 refine EQ.out.mono ?_
 rintro e w3 ⟨rfl, b3⟩
 have B3 := Lib.hid (B2.out.trans (b3.mono B2.out.size))
 clear b3 EQ
 go_wp2
 go_ret
 exact ⟨rfl, B3.out⟩
end Ln
end Go.Proofs.YtgmijnnhanpocaaGreatDoor
