/-
  The reference's 'over': cells in place of others; halves that are left alone are blank. The reference's 'mark': cells that go are blank first. The reference's 'over' and 'mark' of a row without cells. The reference's Erase.
-/
import Derived.Test.YtaclmhopcfgbmaaGreatDoorQRefRow1
import Derived.Test.YtaclmhopcfgbmaaGreatDoorQRow2
import Derived.Test.YtaclmhopcfgbmaaGreatDoorQBase3
namespace Go.Proofs.YtaclmhopcfgbmaaGreatDoor
open Go.ChangeShapes Go.WideShapes Go.ChangeAt Go.RowKit
namespace Rw
structure OA (w0 : World) (gg g8 g1 n c3 : Nat) (wrap : Bool) (tail : List Value) (o : List Cel) (W : World) : Prop where
 r8 : RowAt W g8 (.slice (some ⟨gg, 0, none⟩) n c3) wrap
 z : RowAt W g1 (.slice none 0 0) false
 row : RowIn' W gg o tail
 bel : Below w0.heap.size w0 W
theorem OA.below {w0 W W' : World} {gg g8 g1 n c3 : Nat} {wrap : Bool} {tail : List Value} {o : List Cel} (h : OA w0 gg g8 g1 n c3 wrap tail o W) (b : Below W.heap.size W W') : OA w0 gg g8 g1 n c3 wrap tail o W' :=
 ⟨(b.block g8 h.r8.lt).trans h.r8, (b.block g1 h.z.lt).trans h.z, h.row.below b, h.bel.trans (b.mono h.bel.size)⟩
theorem OA.set {w0 W : World} {gg g8 g1 n c3 : Nat} {wrap : Bool} {tail : List Value} {o : List Cel} (h : OA w0 gg g8 g1 n c3 wrap tail o W) (h8 : gg ≠ g8) (h1 : gg ≠ g1) (h0 : w0.heap.size ≤ gg) {k : Nat} (hk : k < o.length) (r m a : Int) :
  OA w0 gg g8 g1 n c3 wrap tail (o.set k (r, m, a)) (((W.setCell ⟨gg, k * 3, none⟩ (.int .i32 r)).setCell ⟨gg, k * 3 + 1, none⟩ (.int .i64 m)).setCell ⟨gg, k * 3 + 2, none⟩ (.int .i64 a)) := by
 have O := RowIn'.only W gg k (.int .i32 r) (.int .i64 m) (.int .i64 a)
 exact ⟨(O.block g8 (Ne.symm h8)).trans h.r8, (O.block g1 (Ne.symm h1)).trans h.z, h.row.set hk r m a, h.bel.trans ((Turned.ofOnly O).toBelow h.bel.size (fun k hk e => by omega))⟩
def OverPost (wrap : Bool) (l : List Cel) (w : World) (e : Ending) (w' : World) : Prop := ∃ A n c, e = .returned (.agg #[.slice A n c, .bool wrap]) ∧ HasC w' w.heap.size (.slice A n c) l ∧ Below w.heap.size w w'
set_option maxRecDepth 100000 in
set_option maxHeartbeats 12800000 in
theorem refOver_walk (A : Option Addr) (n c : Nat) (wrap : Bool) (l : List Cel) (k : Nat) (A2 : Option Addr) (m c2 : Nat) (L : List Cel) (w : World) (hn0 : 0 < n) (hn : n ≤ 1000000) (hq : Sq w w.heap.size 3 n A (flat l)) (hq2 : Sq w w.heap.size 3 m A2 (flat L)) (hk : k + m ≤ n) :
  Calls Tryz.prog 64 #[rowV A n c wrap, .int .i64 (k : Int), .slice A2 m c2] w fun e w' => OverPost wrap (scanK (putO l k L) n) w e w' := by
 have hln : l.length = n := by have := hq.len; rw [flat_length] at this; omega
 have hLm : L.length = m := by have := hq2.len; rw [flat_length] at this; omega
 have Q := Lib.hid hq
 have Q2 := Lib.hid hq2
 have LN := Lib.hid hln
 have LM := Lib.hid hLm
 clear hq hq2 hln hLm
 go_enter Tryz.func64, Tryz.ntmps64
 go_wp2_with fail
 have ba := ((Below.refl w.heap.size w).alloc (Nat.le_refl _) (.cells #[.slice A n c, .bool wrap] 40)).alloc (by simp) (.cells #[.slice none 0 0, .bool false] 40)
 have z0 : RowAt ((w.alloc (.cells #[.slice A n c, .bool wrap] 40)).alloc (.cells #[.slice none 0 0, .bool false] 40)) (w.heap.size + 1) (.slice none 0 0) false := by
  have h := heap_alloc_new (w.alloc (.cells #[.slice A n c, .bool wrap] 40)) (.cells #[.slice none 0 0, .bool false] 40)
  rw [World.size_alloc] at h
  exact h
 have sa : ((w.alloc (.cells #[.slice A n c, .bool wrap] 40)).alloc (.cells #[.slice none 0 0, .bool false] 40)).heap.size = w.heap.size + 2 := by simp
 generalize (w.alloc (.cells #[.slice A n c, .bool wrap] 40)).alloc (.cells #[.slice none 0 0, .bool false] 40) = wa at ba z0 sa ⊢
 obtain ⟨g1, hg1⟩ : ∃ g1, w.heap.size + 1 = g1 := ⟨_, rfl⟩
 rw [hg1] at z0
 have HGW := Lib.hid (show w.heap.size + 2 = wa.heap.size by omega)
 have HG1 := Lib.hid (show w.heap.size ≤ g1 by omega)
 rw [hg1]
 refine (refCopy_walk A n c wrap l wa ((Q.out.below ba).up ba.size) hn).mono ?_
 rintro e w3 ⟨v3, rfl, hv3, b3⟩
 obtain ⟨A3, c3, rfl, hc3⟩ := HasC.shape hv3
 rw [LN.out] at hv3 hc3 ⊢
 have bw3 := ba.trans (b3.mono ba.size)
 have b4 := (Below.refl w3.heap.size w3).alloc (Nat.le_refl _) (.cells #[.slice A3 n c3, .bool wrap] 40)
 obtain ⟨g8, hg8⟩ : ∃ g8, w3.heap.size = g8 := ⟨_, rfl⟩
 have R8 := Lib.hid (show RowAt (w3.alloc (.cells #[.slice A3 n c3, .bool wrap] 40)) g8 (.slice A3 n c3) wrap by rw [← hg8]; exact heap_alloc_new w3 _)
 have z03 : RowAt w3 g1 (.slice none 0 0) false := (b3.block g1 z0.lt).trans z0
 have Z0 := Lib.hid (show RowAt (w3.alloc (.cells #[.slice A3 n c3, .bool wrap] 40)) g1 (.slice none 0 0) false from (b4.block g1 z03.lt).trans z03)
 have hv4 := HasC.keep (w' := w3.alloc (.cells #[.slice A3 n c3, .bool wrap] 40)) hv3 (fun j e => b4.block j (HasC.lt hv3 j e).2)
 have B4 := Lib.hid (bw3.trans (b4.mono bw3.size))
 obtain ⟨gg, tail, rfl, hgb, hnc, ri, cv⟩ := rowIn_of hv4 hn0
 have RI := Lib.hid ri
 have CV := Lib.hid cv
 have hne8 : g8 ≠ g1 := by have := z03.lt; omega
 have hgg8 : gg ≠ g8 := by have := (HasC.lt hv3 gg rfl).2; omega
 have hgg1 : gg ≠ g1 := by omega
 have hgw : w.heap.size ≤ gg := by omega
 have HG8 := Lib.hid hg8
 clear ba z0 sa b3 hv3 hv4 bw3 b4 z03 hg1 hg8 ri cv
 go_wp2_with fail
 rw [HG8.out]
 generalize w3.alloc (.cells #[.slice (some ⟨gg, 0, none⟩) n c3, .bool wrap] 40) = w4 at R8 Z0 B4 RI ⊢
 have hj8 : w4.cell? ⟨g8, 0, none⟩ = some (.slice (some ⟨gg, 0, none⟩) n c3) := R8.out.get 0
 have OA0 : Hid (OA w gg g8 g1 n c3 wrap tail (putO l k (L.take 0)) w4) := Lib.hid ⟨R8.out, Z0.out, by rw [List.take_zero, putO_none]; exact RI.out, B4.out⟩
 clear R8 Z0 RI B4 hj8
 go_loopw [8] (fun i wr => ∃ j : Nat, i = .int .i64 j ∧ j ≤ m ∧ Hid (OA w gg g8 g1 n c3 wrap tail (putO l k (L.take j)) wr)) (fun i _ => m - (intOf i).toNat)
 case atStart => exact ⟨0, rfl, Nat.zero_le _, OA0⟩
 case round =>
  obtain ⟨j, rfl, hj, O⟩ := hrel
  have k8 : wr.cell? ⟨g8, 0, none⟩ = some (.slice (some ⟨gg, 0, none⟩) n c3) := O.out.r8.get 0
  have hsz := O.out.bel.size
  by_cases hjm : j < m
  ·obtain ⟨b2, o2, rfl, hb2, ⟨r, mm, a⟩, hcc, q0, q1, q2⟩ := Q2.out.three hjm
   have HC := Lib.hid hcc
   have q0' : wr.cell? ⟨b2, o2 + j * 3, none⟩ = some (.int .i32 r) := (O.out.bel.cell (p := ⟨b2, o2 + j * 3, none⟩) hb2).trans q0
   have q1' : wr.cell? ⟨b2, o2 + j * 3 + 1, none⟩ = some (.int .i64 mm) := (O.out.bel.cell (p := ⟨b2, o2 + j * 3 + 1, none⟩) hb2).trans q1
   have q2' : wr.cell? ⟨b2, o2 + j * 3 + 2, none⟩ = some (.int .i64 a) := (O.out.bel.cell (p := ⟨b2, o2 + j * 3 + 2, none⟩) hb2).trans q2
   have hol : (putO l k (L.take j)).length = n := by rw [putO_length (by rw [List.length_take, LM.out, LN.out]; omega)]; exact LN.out
   have hsum : IntKind.i64.wrap ((k : Int) + (j : Int)) = ((k + j : Nat) : Int) := by rw [IntWalk.i64_in _ (by omega)]; omega
   have O5 := Lib.hid (O.out.below (Below.refl wr.heap.size wr).drew)
   have hkj : k + j < n := by omega
   have hkj0 : ((k + j : Nat) : Int) < (n : Int) := by omega
   have hkj1 : (0 : Int) ≤ ((k + j : Nat) : Int) := by omega
   have SET := Lib.hid (fun W (h : OA w gg g8 g1 n c3 wrap tail (putO l k (L.take j)) W) => (show OA w gg g8 g1 n c3 wrap tail (putO l k (L.take (j + 1))) _ by
    have e := putO_next (l := l) (k := k) (j := j) (L := L) (by rw [LM.out, LN.out]; exact hk) (by rw [LM.out]; exact hjm)
    have ec : cAt L j = (r, mm, a) := by unfold cAt; rw [List.getD_eq_getElem?_getD, HC.out]; rfl
    rw [ec] at e
    rw [← e]
    exact h.set hgg8 hgg1 hgw (by rw [hol]; exact hkj) r mm a))
   obtain ⟨z, hz⟩ : ∃ z, k + j = z := ⟨_, rfl⟩
   rw [hz] at SET hkj hkj0 hkj1 hsum
   have i0' := O.out.row.cell (k := z) (by rw [hol]; exact hkj)
   obtain ⟨x0, x1, x2⟩ := i0'
   have f0 := O.out.row.free (z * 3)
   have f1 := O.out.row.free (z * 3 + 1)
   have f2 := O.out.row.free (z * 3 + 2)
   clear hcc q0 q1 q2 O
   go_wp2_with fail
   refine wp_region_still_tail 9 (by kernel_rfl) (by kernel_rfl) ?_
   rw [show ({ wr with drawn := wr.drawn + 1 } : World) = wr.drew from rfl]
   have k8' : wr.drew.cell? ⟨g8, 0, none⟩ = some (.slice (some ⟨gg, 0, none⟩) n c3) := k8
   have q0'' : wr.drew.cell? ⟨b2, o2 + j * 3, none⟩ = some (.int .i32 r) := q0'
   have q1'' : wr.drew.cell? ⟨b2, o2 + j * 3 + 1, none⟩ = some (.int .i64 mm) := q1'
   have q2'' : wr.drew.cell? ⟨b2, o2 + j * 3 + 2, none⟩ = some (.int .i64 a) := q2'
   have x0' : wr.drew.cell? ⟨gg, z * 3, none⟩ = some (.int .i32 (cAt (putO l k (L.take j)) z).1) := x0
   have x1' : wr.drew.cell? ⟨gg, z * 3 + 1, none⟩ = some (.int .i64 (cAt (putO l k (L.take j)) z).2.1) := x1
   have x2' : wr.drew.cell? ⟨gg, z * 3 + 2, none⟩ = some (.int .i64 (cAt (putO l k (L.take j)) z).2.2) := x2
   have f0' : wr.drew.frozen? ⟨gg, z * 3, none⟩ = false := f0
   have f1' : wr.drew.frozen? ⟨gg, z * 3 + 1, none⟩ = false := f1
   have f2' : wr.drew.frozen? ⟨gg, z * 3 + 2, none⟩ = false := f2
   clear k8 q0' q1' q2' x0 x1 x2 f0 f1 f2
   generalize wr.drew = w5 at O5 k8' q0'' q1'' q2'' x0' x1' x2' f0' f1' f2' ⊢
   simp only [List.take_succ_cons, List.take_zero, List.drop_succ_cons, List.drop_zero]
   repeat still_step
   refine wpStill_nil ?_
   go_wp2_with fail
   go_roundw
   case rel => exact ⟨j + 1, by go_num, by omega, Lib.hid (SET.out _ O5.out)⟩
   case measure => first | (simp [intOf]; done) | (simp [intOf]; omega)
  ·have hje : j = m := by omega
   subst hje
   rw [show L.take j = L by rw [← LM.out]; exact List.take_length] at O
   obtain ⟨o, ho⟩ : ∃ o, putO l k L = o := ⟨_, rfl⟩
   have hon : o.length = n := by rw [← ho, putO_length (by rw [LM.out, LN.out]; exact hk)]; exact LN.out
   have ON := Lib.hid hon
   have HO := Lib.hid ho
   rw [ho] at O
   clear ho hon k8
   go_wp2_with fail
   go_loopw [9] (fun i wx => ∃ i' : Nat, i = .int .i64 i' ∧ i' ≤ n ∧ Hid (OA w gg g8 g1 n c3 wrap tail (scanK o i') wx)) (fun i _ => n - (intOf i).toNat)
   case atStart => exact ⟨0, rfl, Nat.zero_le _, O⟩
   case round =>
    rename_i w6
    clear O
    obtain ⟨i', rfl, hi', O⟩ := hrel
    have k8 := O.out.r8.get 0
    by_cases hin : i' < n
    ·obtain ⟨o6, ho6⟩ : ∃ o6, scanK o i' = o6 := ⟨_, rfl⟩
     have O6 := Lib.hid ho6
     have hol : o6.length = n := by rw [← ho6, scanK_length]; exact ON.out
     rw [ho6] at O
     obtain ⟨⟨r, mm, a⟩, hc⟩ : ∃ c, cAt o6 i' = c := ⟨_, rfl⟩
     obtain ⟨c0, c1, c2⟩ := O.out.row.cell (k := i') (by rw [hol]; exact hin)
     rw [hc] at c0 c1 c2
     replace c0 : wr.cell? ⟨gg, i' * 3, none⟩ = some (.int .i32 r) := c0
     replace c1 : wr.cell? ⟨gg, i' * 3 + 1, none⟩ = some (.int .i64 mm) := c1
     replace c2 : wr.cell? ⟨gg, i' * 3 + 2, none⟩ = some (.int .i64 a) := c2
     replace k8 : wr.cell? ⟨g8, 0, none⟩ = some (.slice (some ⟨gg, 0, none⟩) n c3) := k8
     have HC := Lib.hid hc
     have HL := Lib.hid hol
     clear hc ho6 hol
     go_upto_region 10 with fail
     have O' := Lib.hid (O.out.below ((Below.refl wr.heap.size wr).alloc (Nat.le_refl _) (.cells #[.int .i32 r, .int .i64 mm, .int .i64 a] 54)))
     have BX := Lib.hid (heap_alloc_new wr (.cells #[.int .i32 r, .int .i64 mm, .int .i64 a] 54))
     obtain ⟨g10, hg10⟩ : ∃ g, wr.heap.size = g := ⟨_, rfl⟩
     rw [hg10] at BX ⊢
     clear c0 c1 c2 k8 hg10 O
     generalize wr.alloc (.cells #[.int .i32 r, .int .i64 mm, .int .i64 a] 54) = w7 at O' BX ⊢
     have k8 : w7.cell? ⟨g8, 0, none⟩ = some (.slice (some ⟨gg, 0, none⟩) n c3) := O'.out.r8.get 0
     have d1 : w7.cell? ⟨g10, 1, none⟩ = some (.int .i64 mm) := by rw [cell_of_row _ _ _ _ _ (0, 0) BX.out]; rfl
     go_cut [11] from 30 to 87 (fun s11 wx => s11 = .bool (lone o6 i') ∧ Hid (OA w gg g8 g1 n c3 wrap tail o6 wx))
     case first =>
      by_cases h2 : mm = 2
      ·subst h2
       obtain ⟨z, hz⟩ : ∃ z, i' + 1 = z := ⟨_, rfl⟩
       have hs1 : IntKind.i64.wrap ((i' : Int) + 1) = (z : Int) := by rw [IntWalk.i64_in _ (by omega)]; omega
       by_cases hl : z = n
       ·have E := Lib.hid (show lone o6 i' = true by unfold lone; rw [HC.out, cAt_none (l := o6) (i := i' + 1) (by rw [HL.out]; omega)]; rfl)
        subst hl
        go_wp2_with fail
        go_meet
        exact ⟨by rw [E.out], O'⟩
       ·obtain ⟨⟨r', y, a'⟩, hy⟩ : ∃ c, cAt o6 z = c := ⟨_, rfl⟩
        have y1 : w7.cell? ⟨gg, z * 3 + 1, none⟩ = some (.int .i64 y) := by
         have h := (O'.out.row.cell (k := z) (by rw [HL.out]; omega)).2.1
         rwa [hy] at h
        have hzn : ((z : Int) == (n : Int)) = false := by simp; omega
        have hz0 : (0 : Int) ≤ (z : Int) := by omega
        have hzl : (z : Int) < (n : Int) := by omega
        have HY := Lib.hid (show cAt o6 (i' + 1) = (r', y, a') by rw [hz]; exact hy)
        clear hy
        by_cases hy0 : y = 0
        ·subst hy0
         have E := Lib.hid (show lone o6 i' = false by unfold lone; rw [HC.out, HY.out]; rfl)
         go_wp2_with fail
         go_meet
         exact ⟨by rw [E.out], O'⟩
        ·have hyb : (y == 0) = false := by simp; omega
         have E := Lib.hid (show lone o6 i' = true by unfold lone; rw [HC.out, HY.out]; show ((true && !(y == 0)) || _) = true; rw [hyb]; rfl)
         go_wp2_with fail
         go_meet
         exact ⟨by first | (rw [E.out]; done) | (show Value.bool (!(y == 0)) = _; rw [E.out, hyb]; rfl), O'⟩
      ·have hb2 : (mm == 2) = false := by simp; omega
       by_cases h0 : mm = 0
       ·subst h0
        by_cases hz : i' = 0
        ·have E := Lib.hid (show lone o6 i' = true by unfold lone cPrev; rw [HC.out, if_pos hz]; rfl)
         have hzb : ((i' : Int) == 0) = true := by simp; omega
         go_wp2_with fail
         go_meet
         exact ⟨by rw [E.out], O'⟩
        ·have hzb : ((i' : Int) == 0) = false := by simp; omega
         obtain ⟨z, hz1⟩ : ∃ z, i' - 1 = z := ⟨_, rfl⟩
         have hs1 : IntKind.i64.wrap ((i' : Int) - 1) = (z : Int) := by rw [IntWalk.i64_in _ (by omega)]; omega
         obtain ⟨⟨r', y, a'⟩, hy⟩ : ∃ c, cAt o6 z = c := ⟨_, rfl⟩
         have y1 : w7.cell? ⟨gg, z * 3 + 1, none⟩ = some (.int .i64 y) := by
          have h := (O'.out.row.cell (k := z) (by rw [HL.out]; omega)).2.1
          rwa [hy] at h
         have hz0 : (0 : Int) ≤ (z : Int) := by omega
         have hzl : (z : Int) < (n : Int) := by omega
         have HY := Lib.hid (show cPrev o6 i' = (r', y, a') by unfold cPrev; rw [if_neg hz, hz1]; exact hy)
         clear hy
         by_cases hy2 : y = 2
         ·subst hy2
          have E := Lib.hid (show lone o6 i' = false by unfold lone; rw [HC.out, HY.out]; rfl)
          go_wp2_with fail
          go_meet
          exact ⟨by rw [E.out], O'⟩
         ·have hyb : (y == 2) = false := by simp; omega
          have E := Lib.hid (show lone o6 i' = true by unfold lone; rw [HC.out, HY.out]; show (_ || (true && !(y == 2))) = true; rw [hyb]; simp)
          go_wp2_with fail
          go_meet
          exact ⟨by first | (rw [E.out]; done) | (show Value.bool (!(y == 2)) = _; rw [E.out, hyb]; rfl), O'⟩
       ·have hb0 : (mm == 0) = false := by simp; omega
        have E := Lib.hid (show lone o6 i' = false by unfold lone; rw [HC.out]; show ((mm == 2 && _) || (mm == 0 && _)) = false; rw [hb2, hb0]; rfl)
        go_wp2_with fail
        go_meet
        exact ⟨by rw [E.out], O'⟩
     case rest =>
      obtain ⟨rfl, O7⟩ := hcut
      clear O' BX k8 d1
      have k8 : wc.cell? ⟨g8, 0, none⟩ = some (.slice (some ⟨gg, 0, none⟩) n c3) := O7.out.r8.get 0
      obtain ⟨lo, hlo⟩ : ∃ lo, lone o6 i' = lo := ⟨_, rfl⟩
      have NX := Lib.hid (show scanK o (i' + 1) = if lo then o6.set i' (32, 1, 0) else o6 by rw [← hlo, ← O6.out]; rfl)
      rw [hlo]
      have hi0 : (0 : Int) ≤ (i' : Int) := by omega
      have hin1 : (i' : Int) < (n : Int) := by omega
      clear hlo
      cases lo with
      | false =>
       go_wp2_with fail
       go_roundw
       case rel => exact ⟨i' + 1, by go_num, by omega, by rw [NX.out]; exact O7⟩
       case measure => first | (simp [intOf]; done) | (simp [intOf]; omega)
      | true =>
       go_upto_region 12 with fail
       go_region_with (go_at_call 36; refine (refBlank_walk _).mono ?_; rintro e w8 ⟨rfl, b8⟩; (have O8 := Lib.hid (O7.out.below (((Below.refl wc.heap.size wc).drew).trans b8))); (have k8' : w8.cell? ⟨g8, 0, none⟩ = some (.slice (some ⟨gg, 0, none⟩) n c3) := O8.out.r8.get 0); obtain ⟨x0, x1, x2⟩ := O8.out.row.cell (k := i') (by rw [HL.out]; exact hin); (have f0 := O8.out.row.free (i' * 3)); (have f1 := O8.out.row.free (i' * 3 + 1)); (have f2 := O8.out.row.free (i' * 3 + 2)); clear b8)
       all_goals
        go_wp2_with fail
        go_roundw
        case rel => exact ⟨i' + 1, by go_num, by omega, by rw [NX.out]; exact Lib.hid (O8.out.set hgg8 hgg1 hgw (by rw [HL.out]; exact hin) 32 1 0)⟩
        case measure => first | (simp [intOf]; done) | (simp [intOf]; omega)
    ·have hie : i' = n := by omega
     subst hie
     replace k8 : wr.cell? ⟨g8, 0, none⟩ = some (.slice (some ⟨gg, 0, none⟩) i' c3) := k8
     have k81 : wr.cell? ⟨g8, 1, none⟩ = some (.bool wrap) := O.out.r8.get 1
     have z0 : wr.cell? ⟨g1, 0, none⟩ = some (.slice none 0 0) := O.out.z.get 0
     have z1 : wr.cell? ⟨g1, 1, none⟩ = some (.bool false) := O.out.z.get 1
     have zf0 := O.out.z.free 0
     have zf1 := O.out.z.free 1
     have RF := Lib.hid (RowAt.put2 O.out.z (.slice (some ⟨gg, 0, none⟩) i' c3) wrap)
     have OF := (OnlyRow.cell g1 0 wr (.slice (some ⟨gg, 0, none⟩) i' c3)).trans (OnlyRow.cell g1 1 _ (.bool wrap))
     have HF := Lib.hid (HasC.keep (CV.out wr _ (by rw [scanK_length]; exact ON.out) O.out.row) (fun j e => OF.block j (by cases e; exact hgg1)))
     have BF := Lib.hid (O.out.bel.trans ((Turned.ofOnly OF).toBelow O.out.bel.size (fun k hk e => by have := HG1.out; omega)))
     clear OF
     go_wp2
     generalize (wr.setCell ⟨g1, 0, none⟩ (.slice (some ⟨gg, 0, none⟩) i' c3)).setCell ⟨g1, 1, none⟩ (.bool wrap) = wz at RF HF BF ⊢
     have e0 : wz.cell? ⟨g1, 0, none⟩ = some (.slice (some ⟨gg, 0, none⟩) i' c3) := RF.out.get 0
     have e1 : wz.cell? ⟨g1, 1, none⟩ = some (.bool wrap) := RF.out.get 1
     refine bodyPost_ret (v := .agg #[.slice (some ⟨gg, 0, none⟩) i' c3, .bool wrap]) (by simp [results, Tryz.results64, go_sem, e0, e1]) rfl ?_
     rw [HO.out]
     exact ⟨_, _, _, rfl, HasC.mono HF.out (by have := HGW.out; omega), BF.out⟩
end Rw
end Go.Proofs.YtaclmhopcfgbmaaGreatDoor
namespace Go.Proofs.YtaclmhopcfgbmaaGreatDoor
open Go.ChangeShapes Go.WideShapes Go.ChangeAt Go.RowKit
namespace Rw
theorem blanksL_snoc (j : Nat) : blanksL (j + 1) = blanksL j ++ [(32, 1, 0)] := by unfold blanksL; exact List.replicate_succ' ..
set_option maxRecDepth 100000 in
set_option maxHeartbeats 6400000 in
theorem refMark_walk (A : Option Addr) (n c : Nat) (wrap : Bool) (l : List Cel) (k q : Nat) (w : World) (hn0 : 0 < n) (hn : n ≤ 1000000) (hq : Sq w w.heap.size 3 n A (flat l)) (hk : k + q ≤ n) :
  Calls Tryz.prog 65 #[rowV A n c wrap, .int .i64 (k : Int), .int .i64 (q : Int)] w fun e w' => OverPost wrap (scanK (putO l k (blanksL q)) n) w e w' := by
 obtain ⟨i0, hi0, hz0, hz1, hz2⟩ := info_parts infoCell
 have Q := Lib.hid hq
 clear hq
 go_enter Tryz.func65, Tryz.ntmps65
 go_wp2_with fail
 have ba := ((Below.refl w.heap.size w).alloc (Nat.le_refl _) (.cells #[.slice A n c, .bool wrap] 40)).alloc (by simp) (.cells #[.slice none 0 0, .bool false] 40)
 have r0 : RowAt ((w.alloc (.cells #[.slice A n c, .bool wrap] 40)).alloc (.cells #[.slice none 0 0, .bool false] 40)) w.heap.size (.slice A n c) wrap := (Below.heap_alloc _ _ _ (by simp)).trans (heap_alloc_new w _)
 have z0 : RowAt ((w.alloc (.cells #[.slice A n c, .bool wrap] 40)).alloc (.cells #[.slice none 0 0, .bool false] 40)) (w.heap.size + 1) (.slice none 0 0) false := by
  have h := heap_alloc_new (w.alloc (.cells #[.slice A n c, .bool wrap] 40)) (.cells #[.slice none 0 0, .bool false] 40)
  rw [World.size_alloc] at h
  exact h
 have sa : ((w.alloc (.cells #[.slice A n c, .bool wrap] 40)).alloc (.cells #[.slice none 0 0, .bool false] 40)).heap.size = w.heap.size + 2 := by simp
 generalize (w.alloc (.cells #[.slice A n c, .bool wrap] 40)).alloc (.cells #[.slice none 0 0, .bool false] 40) = wa at ba r0 z0 sa ⊢
 obtain ⟨g0, hg0⟩ : ∃ g0, w.heap.size = g0 := ⟨_, rfl⟩
 obtain ⟨g1, hg1⟩ : ∃ g1, g0 + 1 = g1 := ⟨_, rfl⟩
 rw [hg0, hg1] at z0
 rw [hg0] at r0 sa
 have HGW := Lib.hid (show wa.heap.size = g1 + 1 by omega)
 have HG1 := Lib.hid (show w.heap.size ≤ g1 by omega)
 have HG0 := Lib.hid hg0
 have HG01 := Lib.hid hg1
 have R0 := Lib.hid r0
 have Z0 := Lib.hid z0
 have BA := Lib.hid ba
 rw [hg0, hg1]
 clear hg0 hg1 ba r0 z0 sa
 go_loopw [7, 8] (fun v i wr => ∃ j : Nat, i = .int .i64 j ∧ j ≤ q ∧ Hid (HasC wr wa.heap.size v (blanksL j)) ∧ Hid (Below wa.heap.size wa wr)) (fun _ i _ => q - (intOf i).toNat)
 case atStart => exact ⟨0, rfl, Nat.zero_le _, Lib.hid (HasC.nothing _ _), Lib.hid (Below.refl _ _)⟩
 case round =>
  obtain ⟨j, rfl, hj, H, B⟩ := hrel
  have hsz := B.out.size
  by_cases hlt : j < q
  ·go_wp2_with fail
   refine (refBlank_walk wr).mono ?_
   rintro e w3 ⟨rfl, b3⟩
   have H3 := Lib.hid (HasC.keep (w' := w3) H.out (fun i e => b3.block i (HasC.lt H.out i e).2))
   have B3 := Lib.hid (B.out.trans (b3.mono hsz))
   have hsz3 := B3.out.size
   clear b3 H B
   obtain ⟨Av, cv, rfl, hcv⟩ := HasC.shape H3.out
   rw [blanksL_length] at hcv ⊢
   have OL := Lib.hid (fun j e => (HasC.lt H3.out j e))
   have ba := (Below.refl w3.heap.size w3).alloc (Nat.le_refl _) (.cells #[.int .i32 32, .int .i64 1, .int .i64 0] 54)
   have H4 := Lib.hid (HasC.keep (w' := w3.alloc (.cells #[.int .i32 32, .int .i64 1, .int .i64 0] 54)) H3.out (fun i e => ba.block i (HasC.lt H3.out i e).2))
   have B4 := Lib.hid (B3.out.trans (ba.mono hsz3))
   have SQ := Lib.hid (show Sq (w3.alloc (.cells #[.int .i32 32, .int .i64 1, .int .i64 0] 54)) (w3.alloc (.cells #[.int .i32 32, .int .i64 1, .int .i64 0] 54)).heap.size 3 1 (some ⟨w3.heap.size, 0, none⟩) (flat [(32, 1, 0)]) from ⟨rfl, fun _ => ⟨w3.heap.size, 0, rfl, by simp, fun j u hu => (cell_of_row _ _ _ _ _ (0, 0) (heap_alloc_new w3 _)).trans (by rw [Nat.zero_add, List.getElem?_toArray]; exact hu)⟩⟩)
   have hsz4 := B4.out.size
   clear ba
   have OWN := Lib.hid (show World.ownsRow (w3.alloc (.cells #[.int .i32 32, .int .i64 1, .int .i64 0] 54)) wa.heap.size 54 3 (.slice Av j cv) j (flat (blanksL j)) from by have h := H4.out; unfold HasC at h; rwa [blanksL_length] at h)
   clear H3 B3 H4
   have F24 : j + 1 ≤ maxLen ∧ (j + 1) * 24 ≤ 140737488355328 := by unfold maxLen; omega
   go_wp2_with (at_builtin; refine wpl_app rfl _ _ 38 rfl wa.heap.size 54 i0 (.agg #[.int .i32 0, .int .i64 0, .int .i64 0]) 3 24 Tryz.underlying38 hi0 hz0 hz1 hz2 rfl (by decide) (.slice Av j cv) j (flat (blanksL j)) rfl OWN.out (some ⟨w3.heap.size, 0, none⟩) 1 1 (flat [(32, 1, 0)]) rfl (w3.alloc (.cells #[.int .i32 32, .int .i64 1, .int .i64 0] 54)).heap.size SQ.out (flat_one _) F24.1 F24.2 hsz4 ?_; intro v' w4 hown hg _)
   have H5 := Lib.hid (show HasC w4 wa.heap.size v' (blanksL (j + 1)) from by unfold HasC; rw [blanksL_length, blanksL_snoc, flat_append]; exact hown)
   have B5 := Lib.hid (B4.out.grown hg hsz4 (fun i e => (World.ownsRow.lt OWN.out i e).1))
   clear hown hg OWN B4 SQ
   go_roundw
   case rel => exact ⟨j + 1, by go_num, by omega, H5, B5⟩
   case measure => first | (simp [intOf]; done) | (simp [intOf]; omega)
  ·obtain rfl : j = q := by omega
   obtain ⟨Av, cv, rfl, hcv⟩ := HasC.shape H.out
   rw [blanksL_length] at hcv ⊢
   have R0' := Lib.hid (show RowAt wr g0 (.slice A n c) wrap from (B.out.block g0 R0.out.lt).trans R0.out)
   have Z0' := Lib.hid (show RowAt wr g1 (.slice none 0 0) false from (B.out.block g1 Z0.out.lt).trans Z0.out)
   have y0 := R0'.out.get 0
   have y1 := R0'.out.get 1
   have BW := Lib.hid (BA.out.trans (B.out.mono BA.out.size))
   have SQ := Lib.hid (show Sq wr wr.heap.size 3 j Av (flat (blanksL j)) from by have h := HasC.sq H.out; rwa [blanksL_length] at h)
   clear R0 Z0
   go_wp2_with fail
   refine (refOver_walk A n c wrap l k Av j cv (blanksL j) wr hn0 hn ((Q.out.below BW.out).up BW.out.size) SQ.out hk).mono ?_
   rintro e w5 ⟨A5, n5, c5, rfl, h5, b5⟩
   have Z5 := Lib.hid (show RowAt w5 g1 (.slice none 0 0) false from (b5.block g1 Z0'.out.lt).trans Z0'.out)
   have B5 := Lib.hid (BW.out.trans (b5.mono BW.out.size))
   have z0 : w5.cell? ⟨g1, 0, none⟩ = some (.slice none 0 0) := Z5.out.get 0
   have z1 : w5.cell? ⟨g1, 1, none⟩ = some (.bool false) := Z5.out.get 1
   have zf0 := Z5.out.free 0
   have zf1 := Z5.out.free 1
   have RF := Lib.hid (RowAt.put2 Z5.out (.slice A5 n5 c5) wrap)
   have OF := (OnlyRow.cell g1 0 w5 (.slice A5 n5 c5)).trans (OnlyRow.cell g1 1 _ (.bool wrap))
   have HF := Lib.hid (HasC.keep h5 (fun j e => OF.block j (by have h1 := (HasC.lt h5 j e).1; have h2 := Z0'.out.lt; omega)))
   have BF := Lib.hid (B5.out.trans ((Turned.ofOnly OF).toBelow B5.out.size (fun k hk e => by have := HG1.out; omega)))
   have HWR := Lib.hid BW.out.size
   clear OF h5 b5 y0 y1 H B
   go_wp2
   generalize (w5.setCell ⟨g1, 0, none⟩ (.slice A5 n5 c5)).setCell ⟨g1, 1, none⟩ (.bool wrap) = wz at RF HF BF ⊢
   have e0 : wz.cell? ⟨g1, 0, none⟩ = some (.slice A5 n5 c5) := RF.out.get 0
   have e1 : wz.cell? ⟨g1, 1, none⟩ = some (.bool wrap) := RF.out.get 1
   refine bodyPost_ret (v := .agg #[.slice A5 n5 c5, .bool wrap]) (by simp [results, Tryz.results65, go_sem, e0, e1]) rfl ?_
   exact ⟨_, _, _, rfl, HasC.mono HF.out HWR.out, BF.out⟩
end Rw
end Go.Proofs.YtaclmhopcfgbmaaGreatDoor
namespace Go.Proofs.YtaclmhopcfgbmaaGreatDoor
open Go.ChangeShapes Go.WideShapes Go.ChangeAt Go.RowKit
namespace Rw
set_option maxRecDepth 100000 in
set_option maxHeartbeats 6400000 in
theorem refOver_none (A : Option Addr) (c : Nat) (wrap : Bool) (w : World) (hq : Sq w w.heap.size 3 0 A (flat [])) :
  Calls Tryz.prog 64 #[rowV A 0 c wrap, .int .i64 0, .slice none 0 0] w fun e w' => OverPost wrap [] w e w' := by
 have Q := Lib.hid hq
 clear hq
 go_enter Tryz.func64, Tryz.ntmps64
 go_wp2_with fail
 have ba := ((Below.refl w.heap.size w).alloc (Nat.le_refl _) (.cells #[.slice A 0 c, .bool wrap] 40)).alloc (by simp) (.cells #[.slice none 0 0, .bool false] 40)
 have z0 : RowAt ((w.alloc (.cells #[.slice A 0 c, .bool wrap] 40)).alloc (.cells #[.slice none 0 0, .bool false] 40)) (w.heap.size + 1) (.slice none 0 0) false := by
  have h := heap_alloc_new (w.alloc (.cells #[.slice A 0 c, .bool wrap] 40)) (.cells #[.slice none 0 0, .bool false] 40)
  rw [World.size_alloc] at h
  exact h
 have sa : ((w.alloc (.cells #[.slice A 0 c, .bool wrap] 40)).alloc (.cells #[.slice none 0 0, .bool false] 40)).heap.size = w.heap.size + 2 := by simp
 generalize (w.alloc (.cells #[.slice A 0 c, .bool wrap] 40)).alloc (.cells #[.slice none 0 0, .bool false] 40) = wa at ba z0 sa ⊢
 obtain ⟨g1, hg1⟩ : ∃ g1, w.heap.size + 1 = g1 := ⟨_, rfl⟩
 rw [hg1] at z0
 have HGW := Lib.hid (show w.heap.size + 2 = wa.heap.size by omega)
 have HG1 := Lib.hid (show w.heap.size ≤ g1 by omega)
 rw [hg1]
 refine (refCopy_walk A 0 c wrap [] wa ((Q.out.below ba).up ba.size) (by omega)).mono ?_
 rintro e w3 ⟨v3, rfl, hv3, b3⟩
 obtain ⟨A3, c3, rfl, hc3⟩ := HasC.shape hv3
 rw [List.length_nil] at hv3 hc3 ⊢
 have bw3 := ba.trans (b3.mono ba.size)
 have b4 := (Below.refl w3.heap.size w3).alloc (Nat.le_refl _) (.cells #[.slice A3 0 c3, .bool wrap] 40)
 obtain ⟨g8, hg8⟩ : ∃ g8, w3.heap.size = g8 := ⟨_, rfl⟩
 have R8 := Lib.hid (show RowAt (w3.alloc (.cells #[.slice A3 0 c3, .bool wrap] 40)) g8 (.slice A3 0 c3) wrap by rw [← hg8]; exact heap_alloc_new w3 _)
 have z03 : RowAt w3 g1 (.slice none 0 0) false := (b3.block g1 z0.lt).trans z0
 have Z0 := Lib.hid (show RowAt (w3.alloc (.cells #[.slice A3 0 c3, .bool wrap] 40)) g1 (.slice none 0 0) false from (b4.block g1 z03.lt).trans z03)
 have HV := Lib.hid (HasC.keep (w' := w3.alloc (.cells #[.slice A3 0 c3, .bool wrap] 40)) hv3 (fun j e => b4.block j (HasC.lt hv3 j e).2))
 have B4 := Lib.hid (bw3.trans (b4.mono bw3.size))
 have hne8 : g8 ≠ g1 := by have := z03.lt; omega
 have NG1 := Lib.hid (show ∀ j, (Value.slice A3 0 c3).ownBlock = some j → j ≠ g1 from fun j e e2 => by have := (HasC.lt hv3 j e).1; omega)
 have HG8 := Lib.hid hg8
 clear ba z0 sa b3 hv3 bw3 b4 z03 hg1 hg8
 go_wp2_with fail
 rw [HG8.out]
 generalize w3.alloc (.cells #[.slice A3 0 c3, .bool wrap] 40) = w4 at R8 Z0 B4 HV ⊢
 go_loopw [8] (fun i wr => i = .int .i64 0 ∧ wr = w4) (fun i _ => 0)
 case atStart => exact ⟨rfl, rfl⟩
 case round =>
  obtain ⟨rfl, rfl⟩ := hrel
  have k8 := R8.out.get 0
  go_wp2_with fail
  go_loopw [9] (fun i wx => i = .int .i64 0 ∧ wx = wr) (fun i _ => 0)
  case atStart => exact ⟨rfl, rfl⟩
  case round =>
   obtain ⟨rfl, rfl⟩ := hrel
   replace k8 : wr.cell? ⟨g8, 0, none⟩ = some (.slice A3 0 c3) := R8.out.get 0
   have k81 : wr.cell? ⟨g8, 1, none⟩ = some (.bool wrap) := R8.out.get 1
   have z0 : wr.cell? ⟨g1, 0, none⟩ = some (.slice none 0 0) := Z0.out.get 0
   have z1 : wr.cell? ⟨g1, 1, none⟩ = some (.bool false) := Z0.out.get 1
   have zf0 := Z0.out.free 0
   have zf1 := Z0.out.free 1
   have RF := Lib.hid (RowAt.put2 Z0.out (.slice A3 0 c3) wrap)
   have OF := (OnlyRow.cell g1 0 wr (.slice A3 0 c3)).trans (OnlyRow.cell g1 1 _ (.bool wrap))
   have HF := Lib.hid (HasC.keep HV.out (fun j e => OF.block j (NG1.out j e)))
   have BF := Lib.hid (B4.out.trans ((Turned.ofOnly OF).toBelow B4.out.size (fun k hk e => by have := HG1.out; omega)))
   clear OF
   go_wp2
   generalize (wr.setCell ⟨g1, 0, none⟩ (.slice A3 0 c3)).setCell ⟨g1, 1, none⟩ (.bool wrap) = wz at RF HF BF ⊢
   have e0 : wz.cell? ⟨g1, 0, none⟩ = some (.slice A3 0 c3) := RF.out.get 0
   have e1 : wz.cell? ⟨g1, 1, none⟩ = some (.bool wrap) := RF.out.get 1
   refine bodyPost_ret (v := .agg #[.slice A3 0 c3, .bool wrap]) (by simp [results, Tryz.results64, go_sem, e0, e1]) rfl ?_
   exact ⟨_, _, _, rfl, HasC.mono HF.out (by have := HGW.out; omega), BF.out⟩
set_option maxRecDepth 100000 in
set_option maxHeartbeats 6400000 in
theorem refMark_none (A : Option Addr) (c : Nat) (wrap : Bool) (w : World) (hq : Sq w w.heap.size 3 0 A (flat [])) :
  Calls Tryz.prog 65 #[rowV A 0 c wrap, .int .i64 0, .int .i64 0] w fun e w' => OverPost wrap [] w e w' := by
 have Q := Lib.hid hq
 clear hq
 go_enter Tryz.func65, Tryz.ntmps65
 go_wp2_with fail
 have ba := ((Below.refl w.heap.size w).alloc (Nat.le_refl _) (.cells #[.slice A 0 c, .bool wrap] 40)).alloc (by simp) (.cells #[.slice none 0 0, .bool false] 40)
 have r0 : RowAt ((w.alloc (.cells #[.slice A 0 c, .bool wrap] 40)).alloc (.cells #[.slice none 0 0, .bool false] 40)) w.heap.size (.slice A 0 c) wrap := (Below.heap_alloc _ _ _ (by simp)).trans (heap_alloc_new w _)
 have z0 : RowAt ((w.alloc (.cells #[.slice A 0 c, .bool wrap] 40)).alloc (.cells #[.slice none 0 0, .bool false] 40)) (w.heap.size + 1) (.slice none 0 0) false := by
  have h := heap_alloc_new (w.alloc (.cells #[.slice A 0 c, .bool wrap] 40)) (.cells #[.slice none 0 0, .bool false] 40)
  rw [World.size_alloc] at h
  exact h
 generalize (w.alloc (.cells #[.slice A 0 c, .bool wrap] 40)).alloc (.cells #[.slice none 0 0, .bool false] 40) = wa at ba r0 z0 ⊢
 obtain ⟨g0, hg0⟩ : ∃ g0, w.heap.size = g0 := ⟨_, rfl⟩
 obtain ⟨g1, hg1⟩ : ∃ g1, g0 + 1 = g1 := ⟨_, rfl⟩
 rw [hg0, hg1] at z0
 rw [hg0] at r0
 have HG1 := Lib.hid (show w.heap.size ≤ g1 by omega)
 have R0 := Lib.hid r0
 have Z0 := Lib.hid z0
 have BA := Lib.hid ba
 rw [hg0, hg1]
 clear hg0 hg1 ba r0 z0
 go_loopw [7, 8] (fun v i wr => v = .slice none 0 0 ∧ i = .int .i64 0 ∧ wr = wa) (fun _ i _ => 0)
 case atStart => exact ⟨rfl, rfl, rfl⟩
 case round =>
  obtain ⟨rfl, rfl, rfl⟩ := hrel
  have y0 := R0.out.get 0
  have y1 := R0.out.get 1
  go_wp2_with fail
  refine (refOver_none A c wrap wr ((Q.out.below BA.out).up BA.out.size)).mono ?_
  rintro e w5 ⟨A5, n5, c5, rfl, h5, b5⟩
  have Z5 := Lib.hid (show RowAt w5 g1 (.slice none 0 0) false from (b5.block g1 Z0.out.lt).trans Z0.out)
  have B5 := Lib.hid (BA.out.trans (b5.mono BA.out.size))
  have z0 : w5.cell? ⟨g1, 0, none⟩ = some (.slice none 0 0) := Z5.out.get 0
  have z1 : w5.cell? ⟨g1, 1, none⟩ = some (.bool false) := Z5.out.get 1
  have zf0 := Z5.out.free 0
  have zf1 := Z5.out.free 1
  have RF := Lib.hid (RowAt.put2 Z5.out (.slice A5 n5 c5) wrap)
  have OF := (OnlyRow.cell g1 0 w5 (.slice A5 n5 c5)).trans (OnlyRow.cell g1 1 _ (.bool wrap))
  have HF := Lib.hid (HasC.keep h5 (fun j e => OF.block j (by have h1 := (HasC.lt h5 j e).1; have h2 := Z0.out.lt; omega)))
  have BF := Lib.hid (B5.out.trans ((Turned.ofOnly OF).toBelow B5.out.size (fun k hk e => by have := HG1.out; omega)))
  have HWR := Lib.hid BA.out.size
  clear OF h5 b5 y0 y1
  go_wp2
  generalize (w5.setCell ⟨g1, 0, none⟩ (.slice A5 n5 c5)).setCell ⟨g1, 1, none⟩ (.bool wrap) = wz at RF HF BF ⊢
  have e0 : wz.cell? ⟨g1, 0, none⟩ = some (.slice A5 n5 c5) := RF.out.get 0
  have e1 : wz.cell? ⟨g1, 1, none⟩ = some (.bool wrap) := RF.out.get 1
  refine bodyPost_ret (v := .agg #[.slice A5 n5 c5, .bool wrap]) (by simp [results, Tryz.results65, go_sem, e0, e1]) rfl ?_
  exact ⟨_, _, _, rfl, HasC.mono HF.out HWR.out, BF.out⟩
end Rw
end Go.Proofs.YtaclmhopcfgbmaaGreatDoor
namespace Go.Proofs.YtaclmhopcfgbmaaGreatDoor
open Go.ChangeShapes Go.WideShapes Go.ChangeAt Go.RowKit
namespace Rw
theorem refMark_good (A : Option Addr) (n c : Nat) (wrap : Bool) (l : List Cel) (k q : Nat) (w : World) (hG : Good l) (hn : n ≤ 1000000) (hq : Sq w w.heap.size 3 n A (flat l)) (hk : k + q ≤ n) :
  Calls Tryz.prog 65 #[rowV A n c wrap, .int .i64 (k : Int), .int .i64 (q : Int)] w fun e w' => OverPost wrap (if 0 < q then ovL l k (blanksL q) else l) w e w' := by
 have hln : l.length = n := by have := hq.len; rw [flat_length] at this; omega
 rcases Nat.eq_zero_or_pos n with h0 | h0
 ·obtain rfl : l = [] := List.eq_nil_of_length_eq_zero (by omega)
  obtain rfl : k = 0 := by omega
  obtain rfl : q = 0 := by omega
  subst h0
  exact refMark_none A c wrap w hq
 ·refine (refMark_walk A n c wrap l k q w h0 hn hq hk).mono ?_
  intro e w' h
  split
  ·rename_i hq0
   rw [← hln, scan_blanks hG hq0 (by omega)] at h
   exact h
  ·rename_i hq0
   obtain rfl : q = 0 := by omega
   have e : putO l k (blanksL 0) = l := putO_none l k
   rw [e, scan_good hG] at h
   exact h
def RPostE (ok wrap : Bool) (l : List Cel) (w : World) (e : Ending) (w' : World) : Prop := ∃ A n c, e = .returned (.tuple #[.agg #[.slice A n c, .bool wrap], .bool ok]) ∧ n ≤ c ∧ Sq w' w'.heap.size 3 n A (flat l) ∧ Below w.heap.size w w'
set_option maxRecDepth 100000 in
set_option maxHeartbeats 6400000 in
theorem refErase_walk (A : Option Addr) (n c : Nat) (wrap : Bool) (l : List Cel) (from' to' : Int) (w : World) (hc : n ≤ c) (hl : ∀ c ∈ l, -2147483648 ≤ c.1 ∧ c.1 ≤ 2147483647) (hq : Sq w w.heap.size 3 n A (flat l)) (hn : n ≤ 1000000) :
  Calls Tryz.prog 24 #[rowV A n c wrap, .int .i64 from', .int .i64 to'] w fun e w' => RPostE (eraseOk l from' to') (eraseWrap wrap l from' to') (eraseRes l from' to') w e w' := by
 have hln : l.length = n := by have := hq.len; rw [flat_length] at this; omega
 have Q := Lib.hid hq
 have HL := Lib.hid hl
 have LN := Lib.hid hln
 clear hq hl hln
 go_enter Tryz.func24, Tryz.ntmps24
 go_upto_region 1 with fail
 have ba := ((Below.refl w.heap.size w).alloc (Nat.le_refl _) (.cells #[.slice A n c, .bool wrap] 40)).alloc (by simp) (.cells #[.slice none 0 0, .bool false] 40)
 have r0 : RowAt ((w.alloc (.cells #[.slice A n c, .bool wrap] 40)).alloc (.cells #[.slice none 0 0, .bool false] 40)) w.heap.size (.slice A n c) wrap := (Below.heap_alloc _ _ _ (by simp)).trans (heap_alloc_new w _)
 have z0 : RowAt ((w.alloc (.cells #[.slice A n c, .bool wrap] 40)).alloc (.cells #[.slice none 0 0, .bool false] 40)) (w.heap.size + 1) (.slice none 0 0) false := by
  have h := heap_alloc_new (w.alloc (.cells #[.slice A n c, .bool wrap] 40)) (.cells #[.slice none 0 0, .bool false] 40)
  rw [World.size_alloc] at h
  exact h
 generalize (w.alloc (.cells #[.slice A n c, .bool wrap] 40)).alloc (.cells #[.slice none 0 0, .bool false] 40) = wa at ba r0 z0 ⊢
 obtain ⟨g0, hg0⟩ : ∃ g0, w.heap.size = g0 := ⟨_, rfl⟩
 obtain ⟨g1, hg1⟩ : ∃ g1, g0 + 1 = g1 := ⟨_, rfl⟩
 rw [hg0, hg1] at z0
 rw [hg0] at r0
 have HG1 := Lib.hid (show w.heap.size ≤ g1 by omega)
 have R0 := Lib.hid r0
 have Z0 := Lib.hid z0
 have BA := Lib.hid ba
 rw [hg0, hg1]
 clear hg0 hg1 ba r0 z0
 go_cut [27] from 9 (fun s27 wx => s27 = .bool (!eraseOk l from' to') ∧ Hid (Below wa.heap.size wa wx))
 case first =>
  have r0 := R0.out.get 0
  have r1 := R0.out.get 1
  go_wp2_with fail
  refine (refRow_walk A n c wrap l wa HL.out ((Q.out.below BA.out).up BA.out.size) hn).mono ?_
  rintro e w2 ⟨rfl, b2⟩
  have R2 := Lib.hid (show RowAt w2 g0 (.slice A n c) wrap from (b2.block g0 R0.out.lt).trans R0.out)
  have B2 := Lib.hid b2
  clear b2 r0 r1
  have r0 := R2.out.get 0
  obtain ⟨mb, hmb⟩ : ∃ mb, mayL l = mb := ⟨_, rfl⟩
  have MB := Lib.hid hmb
  rw [hmb]
  clear hmb
  cases mb with
  | false =>
   have E := Lib.hid (show eraseOk l from' to' = false by unfold eraseOk; rw [MB.out]; rfl)
   go_wp2_with fail
   go_meet
   exact ⟨by rw [E.out]; rfl, B2⟩
  | true =>
   by_cases ha0 : from' < 0
   ·have E := Lib.hid (show eraseOk l from' to' = false by unfold eraseOk; rw [decide_eq_false (show ¬ 0 ≤ from' by omega)]; simp)
    go_wp2_with fail
    go_meet
    exact ⟨by rw [E.out]; rfl, B2⟩
   by_cases hab : to' < from'
   ·have E := Lib.hid (show eraseOk l from' to' = false by unfold eraseOk; rw [decide_eq_false (show ¬ from' ≤ to' by omega)]; simp)
    go_wp2_with fail
    go_meet
    exact ⟨by rw [E.out]; rfl, B2⟩
   by_cases hbn : (n : Int) < to'
   ·have E := Lib.hid (show eraseOk l from' to' = false by unfold eraseOk; rw [LN.out, decide_eq_false (show ¬ to' ≤ (n : Int) by omega)]; simp)
    go_wp2_with fail
    go_meet
    exact ⟨by rw [E.out]; rfl, B2⟩
   ·have E := Lib.hid (show eraseOk l from' to' = true by
     unfold eraseOk
     rw [MB.out, LN.out, decide_eq_true (show 0 ≤ from' by omega), decide_eq_true (show from' ≤ to' by omega), decide_eq_true (show to' ≤ (n : Int) by omega)]
     rfl)
    go_wp2_with fail
    go_meet
    exact ⟨by rw [E.out]; show Value.bool _ = Value.bool false; congr 1; simp; omega, B2⟩
 case rest =>
  obtain ⟨rfl, B2⟩ := hcut
  have R2 := Lib.hid (show RowAt wc g0 (.slice A n c) wrap from (B2.out.block g0 R0.out.lt).trans R0.out)
  have Z2 := Lib.hid (show RowAt wc g1 (.slice none 0 0) false from (B2.out.block g1 Z0.out.lt).trans Z0.out)
  have BW := Lib.hid (BA.out.trans (B2.out.mono BA.out.size))
  have r0 := R2.out.get 0
  have r1 := R2.out.get 1
  obtain ⟨ok, hok⟩ : ∃ ok, eraseOk l from' to' = ok := ⟨_, rfl⟩
  have OK := Lib.hid hok
  rw [hok]
  clear hok R0 Z0
  cases ok with
  | false =>
   have e1 : eraseRes l from' to' = l := by unfold eraseRes; rw [OK.out]; rfl
   have e2 : eraseWrap wrap l from' to' = wrap := by unfold eraseWrap; rw [OK.out]; rfl
   have PE := Lib.hid (fun e w' => (show RPostE false wrap l w e w' → RPostE (eraseOk l from' to') (eraseWrap wrap l from' to') (eraseRes l from' to') w e w' by rw [OK.out, e1, e2]; exact id))
   clear e1 e2
   have z0 : wc.cell? ⟨g1, 0, none⟩ = some (.slice none 0 0) := Z2.out.get 0
   have z1 : wc.cell? ⟨g1, 1, none⟩ = some (.bool false) := Z2.out.get 1
   have zf0 := Z2.out.free 0
   have zf1 := Z2.out.free 1
   have RF := Lib.hid (RowAt.put2 Z2.out (.slice A n c) wrap)
   have OF := (OnlyRow.cell g1 0 wc (.slice A n c)).trans (OnlyRow.cell g1 1 _ (.bool wrap))
   have BF := Lib.hid (BW.out.trans ((Turned.ofOnly OF).toBelow BW.out.size (fun k hk e => by have := HG1.out; omega)))
   clear OF
   go_wp2
   generalize (wc.setCell ⟨g1, 0, none⟩ (.slice A n c)).setCell ⟨g1, 1, none⟩ (.bool wrap) = wz at RF BF ⊢
   have e0 : wz.cell? ⟨g1, 0, none⟩ = some (.slice A n c) := RF.out.get 0
   have e1 : wz.cell? ⟨g1, 1, none⟩ = some (.bool wrap) := RF.out.get 1
   refine bodyPost_ret (v := .tuple #[.agg #[.slice A n c, .bool wrap], .bool false]) (by simp [results, Tryz.results24, go_sem, e0, e1]) rfl (PE.out _ _ ?_)
   exact ⟨_, _, _, rfl, hc, (Q.out.below BF.out).up BF.out.size, BF.out⟩
  | true =>
   have hb : mayL l = true ∧ 0 ≤ from' ∧ from' ≤ to' ∧ to' ≤ (n : Int) := by
    have h := OK.out
    unfold eraseOk at h
    rw [LN.out] at h
    simpa [and_assoc] using h
   obtain ⟨hm, ha, hab, hbn⟩ := hb
   have G := Lib.hid ((mayL_iff l).1 hm).2
   obtain ⟨k, rfl⟩ := Int.eq_ofNat_of_zero_le ha
   obtain ⟨q, rfl⟩ := Int.eq_ofNat_of_zero_le (show 0 ≤ to' by omega)
   obtain ⟨m, hm'⟩ : ∃ m, q = k + m := ⟨q - k, by omega⟩
   subst hm'
   have hkm : k + m ≤ n := by omega
   have hsub : IntKind.i64.wrap (((k + m : Nat) : Int) - (k : Int)) = (m : Int) := by rw [IntWalk.i64_in _ (by omega)]; omega
   have HRES := Lib.hid (show eraseRes l (k : Int) ((k + m : Nat) : Int) = if 0 < m then ovL l k (blanksL m) else l by
    unfold eraseRes
    rw [OK.out, Int.toNat_natCast, show (((k + m : Nat) : Int) - (k : Int)).toNat = m by omega]
    by_cases h : 0 < m
    ·rw [if_pos h, decide_eq_true (show (k : Int) < ((k + m : Nat) : Int) by omega)]; rfl
    ·rw [if_neg h, decide_eq_false (show ¬ (k : Int) < ((k + m : Nat) : Int) by omega)]; rfl)
   have HWR := Lib.hid (show eraseWrap wrap l (k : Int) ((k + m : Nat) : Int) = if k + m = n ∧ 0 < m then false else wrap by
    unfold eraseWrap
    rw [OK.out, LN.out]
    have d1 : decide ((k : Int) < ((k + m : Nat) : Int)) = decide (0 < m) := decide_eq_decide.2 (by omega)
    have d2 : decide (((k + m : Nat) : Int) = (n : Int)) = decide (k + m = n) := decide_eq_decide.2 (by omega)
    rw [d1, d2]
    by_cases h : 0 < m <;> by_cases he : k + m = n <;> simp [h, he])
   have MK := Lib.hid (refMark_good A n c wrap l k m wc G.out hn ((Q.out.below BW.out).up BW.out.size) hkm)
   clear hm ha hab hbn G
   obtain ⟨to2, hto2⟩ : ∃ z : Int, ((k + m : Nat) : Int) = z := ⟨_, rfl⟩
   rw [hto2] at hsub HRES HWR OK ⊢
   go_wp2_with fail
   refine MK.out.mono ?_
   rintro e w3 ⟨A3, n3, c3, rfl, h3, b3⟩
   have R3 := Lib.hid (show RowAt w3 g0 (.slice A n c) wrap from (b3.block g0 R2.out.lt).trans R2.out)
   have Z3 := Lib.hid (show RowAt w3 g1 (.slice none 0 0) false from (b3.block g1 Z2.out.lt).trans Z2.out)
   have bal := (Below.refl w3.heap.size w3).alloc (Nat.le_refl _) (.cells #[.slice A3 n3 c3, .bool wrap] 40)
   have B3 := BW.out.trans (b3.mono BW.out.size)
   have R8 := Lib.hid (show RowAt (w3.alloc (.cells #[.slice A3 n3 c3, .bool wrap] 40)) w3.heap.size (.slice A3 n3 c3) wrap from heap_alloc_new w3 _)
   have R4 := Lib.hid (show RowAt (w3.alloc (.cells #[.slice A3 n3 c3, .bool wrap] 40)) g0 (.slice A n c) wrap from (bal.block g0 R3.out.lt).trans R3.out)
   have Z4 := Lib.hid (show RowAt (w3.alloc (.cells #[.slice A3 n3 c3, .bool wrap] 40)) g1 (.slice none 0 0) false from (bal.block g1 Z3.out.lt).trans Z3.out)
   have H4 := Lib.hid (HasC.keep (w' := w3.alloc (.cells #[.slice A3 n3 c3, .bool wrap] 40)) h3 (fun j e => bal.block j (HasC.lt h3 j e).2))
   have B4 := Lib.hid (B3.trans (bal.mono B3.size))
   have hc3 : n3 ≤ c3 := by obtain ⟨_, _, e, h⟩ := HasC.shape h3; injection e with _ e1 e2; omega
   have NB := Lib.hid (fun j (e : (Value.slice A3 n3 c3).ownBlock = some j) => HasC.lt h3 j e)
   have FIN := Lib.hid (fun (W : World) (h : HasC W wc.heap.size (.slice A3 n3 c3) (if 0 < m then ovL l k (blanksL m) else l)) => (show Sq W W.heap.size 3 n3 A3 (flat (if 0 < m then ovL l k (blanksL m) else l)) by
    obtain ⟨_, _, e, _⟩ := HasC.shape h
    injection e with _ e1 _
    subst e1
    exact HasC.sq h))
   obtain ⟨g8, hg8⟩ : ∃ g, w3.heap.size = g := ⟨_, rfl⟩
   have hg81 : g8 ≠ g1 := by have := Z3.out.lt; omega
   have hg80 : g8 ≠ g0 := by have := R3.out.lt; omega
   have HG8 := Lib.hid (show w.heap.size ≤ g8 by rw [← hg8]; exact B3.size)
   have NG8 := Lib.hid (show ∀ j, (Value.slice A3 n3 c3).ownBlock = some j → j ≠ g8 from fun j e e2 => by have := (HasC.lt h3 j e).2; omega)
   rw [hg8] at R8
   have HG8' := Lib.hid hg8
   clear R3 Z3 bal h3 b3 B3 r0 r1 MK R2 hg8
   go_upto_region 4 with fail
   rw [HG8'.out]
   generalize w3.alloc (.cells #[.slice A3 n3 c3, .bool wrap] 40) = w4 at R8 R4 Z4 H4 B4 ⊢
   have r0 : w4.cell? ⟨g0, 0, none⟩ = some (.slice A n c) := R4.out.get 0
   by_cases he : k + m = n
   ·have h1 : (to2 == (n : Int)) = true := by simp; omega
    by_cases h0 : 0 < m
    ·have h2 : (k : Int) < to2 := by omega
     have f1 := R8.out.free 1
     have k81 : w4.cell? ⟨g8, 1, none⟩ = some (.bool wrap) := R8.out.get 1
     have O8 := OnlyRow.cell g8 1 w4 (.bool false)
     have R8' := Lib.hid (show RowAt (w4.setCell ⟨g8, 1, none⟩ (.bool false)) g8 (.slice A3 n3 c3) false from heap_setCell_same w4 g8 1 _ _ (.bool false) R8.out)
     have Z4' := Lib.hid (show RowAt (w4.setCell ⟨g8, 1, none⟩ (.bool false)) g1 (.slice none 0 0) false from (O8.block g1 (Ne.symm hg81)).trans Z4.out)
     have H4' := Lib.hid (HasC.keep H4.out (fun j e => O8.block j (NG8.out j e)))
     have B4' := Lib.hid (B4.out.trans ((Turned.ofOnly O8).toBelow B4.out.size (fun k hk e => by have := HG8.out; omega)))
     clear O8
     go_upto_region 6 with fail
     clear R8 Z4 H4 B4 k81 r0 f1 R4
     generalize w4.setCell ⟨g8, 1, none⟩ (.bool false) = w6 at R8' Z4' H4' B4' ⊢
     have R8 := R8'
     have Z4 := Z4'
     have H4 := H4'
     have B4 := B4'
     clear R8' Z4' H4' B4'
     have k80 : w6.cell? ⟨g8, 0, none⟩ = some (.slice A3 n3 c3) := R8.out.get 0
     have k81 : w6.cell? ⟨g8, 1, none⟩ = some (.bool false) := R8.out.get 1
     have z0 : w6.cell? ⟨g1, 0, none⟩ = some (.slice none 0 0) := Z4.out.get 0
     have z1 : w6.cell? ⟨g1, 1, none⟩ = some (.bool false) := Z4.out.get 1
     have zf0 := Z4.out.free 0
     have zf1 := Z4.out.free 1
     have RF := Lib.hid (RowAt.put2 Z4.out (.slice A3 n3 c3) false)
     have OF := (OnlyRow.cell g1 0 w6 (.slice A3 n3 c3)).trans (OnlyRow.cell g1 1 _ (.bool false))
     have HF := Lib.hid (HasC.keep H4.out (fun j e => OF.block j (by have h1 := (NB.out j e).1; have h2 := Z2.out.lt; omega)))
     have BF := Lib.hid (B4.out.trans ((Turned.ofOnly OF).toBelow B4.out.size (fun k hk e => by have := HG1.out; omega)))
     clear OF
     go_wp2
     generalize (w6.setCell ⟨g1, 0, none⟩ (.slice A3 n3 c3)).setCell ⟨g1, 1, none⟩ (.bool false) = wz at RF HF BF ⊢
     have e0 : wz.cell? ⟨g1, 0, none⟩ = some (.slice A3 n3 c3) := RF.out.get 0
     have e1 : wz.cell? ⟨g1, 1, none⟩ = some (.bool false) := RF.out.get 1
     refine bodyPost_ret (v := .tuple #[.agg #[.slice A3 n3 c3, .bool false], .bool true]) (by simp [results, Tryz.results24, go_sem, e0, e1]) rfl ?_
     first | rw [hto2] | rw [show ((n : Nat) : Int) = to2 by omega]
     rw [OK.out, HRES.out, HWR.out, if_pos ⟨he, h0⟩]
     exact ⟨_, _, _, rfl, hc3, (FIN.out wz HF.out), BF.out⟩
    ·have h2 : ¬ (k : Int) < to2 := by omega
     have k80 : w4.cell? ⟨g8, 0, none⟩ = some (.slice A3 n3 c3) := R8.out.get 0
     have k81 : w4.cell? ⟨g8, 1, none⟩ = some (.bool wrap) := R8.out.get 1
     have z0 : w4.cell? ⟨g1, 0, none⟩ = some (.slice none 0 0) := Z4.out.get 0
     have z1 : w4.cell? ⟨g1, 1, none⟩ = some (.bool false) := Z4.out.get 1
     have zf0 := Z4.out.free 0
     have zf1 := Z4.out.free 1
     have RF := Lib.hid (RowAt.put2 Z4.out (.slice A3 n3 c3) wrap)
     have OF := (OnlyRow.cell g1 0 w4 (.slice A3 n3 c3)).trans (OnlyRow.cell g1 1 _ (.bool wrap))
     have HF := Lib.hid (HasC.keep H4.out (fun j e => OF.block j (by have h1 := (NB.out j e).1; have h2 := Z2.out.lt; omega)))
     have BF := Lib.hid (B4.out.trans ((Turned.ofOnly OF).toBelow B4.out.size (fun k hk e => by have := HG1.out; omega)))
     clear OF
     go_wp2
     generalize (w4.setCell ⟨g1, 0, none⟩ (.slice A3 n3 c3)).setCell ⟨g1, 1, none⟩ (.bool wrap) = wz at RF HF BF ⊢
     have e0 : wz.cell? ⟨g1, 0, none⟩ = some (.slice A3 n3 c3) := RF.out.get 0
     have e1 : wz.cell? ⟨g1, 1, none⟩ = some (.bool wrap) := RF.out.get 1
     refine bodyPost_ret (v := .tuple #[.agg #[.slice A3 n3 c3, .bool wrap], .bool true]) (by simp [results, Tryz.results24, go_sem, e0, e1]) rfl ?_
     first | rw [hto2] | rw [show ((n : Nat) : Int) = to2 by omega]
     rw [OK.out, HRES.out, HWR.out, if_neg (fun x => h0 x.2)]
     exact ⟨_, _, _, rfl, hc3, (FIN.out wz HF.out), BF.out⟩
   ·have h1 : (to2 == (n : Int)) = false := by simp; omega
    have k80 : w4.cell? ⟨g8, 0, none⟩ = some (.slice A3 n3 c3) := R8.out.get 0
    have k81 : w4.cell? ⟨g8, 1, none⟩ = some (.bool wrap) := R8.out.get 1
    have z0 : w4.cell? ⟨g1, 0, none⟩ = some (.slice none 0 0) := Z4.out.get 0
    have z1 : w4.cell? ⟨g1, 1, none⟩ = some (.bool false) := Z4.out.get 1
    have zf0 := Z4.out.free 0
    have zf1 := Z4.out.free 1
    have RF := Lib.hid (RowAt.put2 Z4.out (.slice A3 n3 c3) wrap)
    have OF := (OnlyRow.cell g1 0 w4 (.slice A3 n3 c3)).trans (OnlyRow.cell g1 1 _ (.bool wrap))
    have HF := Lib.hid (HasC.keep H4.out (fun j e => OF.block j (by have h1 := (NB.out j e).1; have h2 := Z2.out.lt; omega)))
    have BF := Lib.hid (B4.out.trans ((Turned.ofOnly OF).toBelow B4.out.size (fun k hk e => by have := HG1.out; omega)))
    clear OF
    go_wp2
    generalize (w4.setCell ⟨g1, 0, none⟩ (.slice A3 n3 c3)).setCell ⟨g1, 1, none⟩ (.bool wrap) = wz at RF HF BF ⊢
    have e0 : wz.cell? ⟨g1, 0, none⟩ = some (.slice A3 n3 c3) := RF.out.get 0
    have e1 : wz.cell? ⟨g1, 1, none⟩ = some (.bool wrap) := RF.out.get 1
    refine bodyPost_ret (v := .tuple #[.agg #[.slice A3 n3 c3, .bool wrap], .bool true]) (by simp [results, Tryz.results24, go_sem, e0, e1]) rfl ?_
    first | rw [hto2] | rw [show ((n : Nat) : Int) = to2 by omega]
    rw [OK.out, HRES.out, HWR.out, if_neg (fun x => he x.1)]
    exact ⟨_, _, _, rfl, hc3, (FIN.out wz HF.out), BF.out⟩
end Rw
end Go.Proofs.YtaclmhopcfgbmaaGreatDoor
