import Derived.Test.YtmpoboffdfcpiaaGreatDoorQRefRow0
set_option maxRecDepth 100000
set_option maxHeartbeats 6400000
namespace Go.Proofs.YtmpoboffdfcpiaaGreatDoor
open Go.ChangeShapes Go.WideShapes Go.ChangeAt Go.RowKit
namespace Rw
theorem refBlankRow_walk (x : Int) (w : World) :
  Calls Tryz.prog 109 #[.int .i64 x] w fun e w' => OverPost false (blanksL (blankN x)) w e w' := by
 obtain ⟨i0, hi0, hz0, hz1, hz2⟩ := info_parts infoCell
 obtain ⟨q, hq⟩ : ∃ k, blankN x = k := ⟨_, rfl⟩
 have hq3 : q ≤ 300 := by rw [← hq]; unfold blankN; omega
 have hqx : min (max x 0) 300 = (q : Int) := by rw [← hq]; unfold blankN; omega
 rw [hq]
 clear hq
 go_enter Tryz.func109, Tryz.ntmps109
 go_wp2_with fail
 have ba := ((Below.refl w.heap.size w).alloc (Nat.le_refl _) (.cells #[.slice none 0 0, .bool false] 58)).alloc (by simp) (.cells #[.slice none 0 0, .bool false] 58)
 have r0 : RowAt ((w.alloc (.cells #[.slice none 0 0, .bool false] 58)).alloc (.cells #[.slice none 0 0, .bool false] 58)) w.heap.size (.slice none 0 0) false := (Below.heap_alloc _ _ _ (by simp)).trans (heap_alloc_new w _)
 have z0 : RowAt ((w.alloc (.cells #[.slice none 0 0, .bool false] 58)).alloc (.cells #[.slice none 0 0, .bool false] 58)) (w.heap.size + 1) (.slice none 0 0) false := by
  have h := heap_alloc_new (w.alloc (.cells #[.slice none 0 0, .bool false] 58)) (.cells #[.slice none 0 0, .bool false] 58)
  rw [World.size_alloc] at h
  exact h
 have sa : ((w.alloc (.cells #[.slice none 0 0, .bool false] 58)).alloc (.cells #[.slice none 0 0, .bool false] 58)).heap.size = w.heap.size + 2 := by simp
 generalize (w.alloc (.cells #[.slice none 0 0, .bool false] 58)).alloc (.cells #[.slice none 0 0, .bool false] 58) = wa at ba r0 z0 sa ⊢
 obtain ⟨g0, hg0⟩ : ∃ g0, w.heap.size = g0 := ⟨_, rfl⟩
 obtain ⟨g1, hg1⟩ : ∃ g1, g0 + 1 = g1 := ⟨_, rfl⟩
 rw [hg0, hg1] at z0
 rw [hg0] at r0 sa
 have HGW := Lib.hid (show wa.heap.size = g1 + 1 by omega)
 have HG1 := Lib.hid (show w.heap.size ≤ g1 by omega)
 have HG0 := Lib.hid hg0
 have HG01 := Lib.hid hg1
 have R0 := Lib.hid r0
 have Z0 := Lib.hid z0
 have BA := Lib.hid ba
 rw [hg0, hg1]
 clear hg0 hg1 ba r0 z0 sa
 go_loopw [4] (fun i wr => ∃ (j : Nat) (v : Value), i = .int .i64 j ∧ j ≤ q ∧ Hid (RowAt wr g1 v false) ∧ Hid (RowAt wr g0 (.slice none 0 0) false) ∧ Hid (HasC wr wa.heap.size v (blanksL j)) ∧ Hid (Below w.heap.size w wr)) (fun i _ => q - (intOf i).toNat)
 case atStart => exact ⟨0, _, rfl, Nat.zero_le _, Z0, R0, Lib.hid (HasC.nothing _ _), BA⟩
 case round =>
  obtain ⟨j, v, rfl, hj, Z, R, H, B⟩ := hrel
  have hsz := B.out.size
  by_cases hlt : j < q
  ·obtain ⟨Av, cv, rfl, hcv⟩ := HasC.shape H.out
   rw [blanksL_length] at hcv Z H
   have z0 : wr.cell? ⟨g1, 0, none⟩ = some (.slice Av j cv) := Z.out.get 0
   go_upto_region 5 with fail
   have F24 : j + 1 ≤ maxLen ∧ (j + 1) * 24 ≤ 140737488355328 := by unfold maxLen; omega
   go_region_law (first
    | (go_simp; go_at_call 61; refine (refBlank_walk _).mono ?_; rintro e w3 ⟨rfl, b3'⟩; (have b3 : Below wr.heap.size wr w3 := ((Below.refl wr.heap.size wr).drew).trans b3'); (have H3 := Lib.hid (HasC.keep (w' := w3) H.out (fun i e => b3.block i (HasC.lt H.out i e).2))); (have B3 := Lib.hid (B.out.trans (b3.mono hsz))); (have Z3 := Lib.hid (show RowAt w3 g1 (.slice Av j cv) false from (b3.block g1 Z.out.lt).trans Z.out)); (have R3 := Lib.hid (show RowAt w3 g0 (.slice none 0 0) false from (b3.block g0 R.out.lt).trans R.out)); (have z3 : w3.cell? ⟨g1, 0, none⟩ = some (.slice Av j cv) := Z3.out.get 0); (have hsz3 := B3.out.size); (have ba := (Below.refl w3.heap.size w3).alloc (Nat.le_refl _) (.cells #[.int .i32 32, .int .i64 1, .int .i64 0] 62)); (have z4 : (w3.alloc (.cells #[.int .i32 32, .int .i64 1, .int .i64 0] 62)).cell? ⟨g1, 0, none⟩ = some (.slice Av j cv) := (ba.cell (p := ⟨g1, 0, none⟩) Z3.out.lt).trans z3); (have H4 := Lib.hid (HasC.keep (w' := w3.alloc (.cells #[.int .i32 32, .int .i64 1, .int .i64 0] 62)) H3.out (fun i e => ba.block i (HasC.lt H3.out i e).2))); (have Z4 := Lib.hid (show RowAt (w3.alloc (.cells #[.int .i32 32, .int .i64 1, .int .i64 0] 62)) g1 (.slice Av j cv) false from (ba.block g1 Z3.out.lt).trans Z3.out)); (have R4 := Lib.hid (show RowAt (w3.alloc (.cells #[.int .i32 32, .int .i64 1, .int .i64 0] 62)) g0 (.slice none 0 0) false from (ba.block g0 R3.out.lt).trans R3.out)); (have B4 := Lib.hid (B3.out.trans (ba.mono hsz3))); (have SQ := Lib.hid (show Sq (w3.alloc (.cells #[.int .i32 32, .int .i64 1, .int .i64 0] 62)) (w3.alloc (.cells #[.int .i32 32, .int .i64 1, .int .i64 0] 62)).heap.size 3 1 (some ⟨w3.heap.size, 0, none⟩) (flat [(32, 1, 0)]) from ⟨rfl, fun _ => ⟨w3.heap.size, 0, rfl, by simp, fun j u hu => (cell_of_row _ _ _ _ _ (0, 0) (heap_alloc_new w3 _)).trans (by rw [Nat.zero_add, List.getElem?_toArray]; exact hu)⟩⟩)); (have OWN := Lib.hid (show World.ownsRow (w3.alloc (.cells #[.int .i32 32, .int .i64 1, .int .i64 0] 62)) wa.heap.size 62 3 (.slice Av j cv) j (flat (blanksL j)) from by have h := H4.out; unfold HasC at h; rwa [blanksL_length] at h)); (have BAS := Lib.hid (show wa.heap.size ≤ (w3.alloc (.cells #[.int .i32 32, .int .i64 1, .int .i64 0] 62)).heap.size from by have := Z3.out.lt; have := HGW.out; simp; omega)); clear ba b3 b3' H3 B3 Z3 R3 H4)
    | (refine step_app rfl _ _ 51 rfl wa.heap.size 62 i0 (.agg #[.int .i32 0, .int .i64 0, .int .i64 0]) 3 24 Tryz.underlying51 hi0 hz0 hz1 hz2 rfl (by decide) (.slice Av j cv) j (flat (blanksL j)) rfl OWN.out (some ⟨w3.heap.size, 0, none⟩) 1 1 (flat [(32, 1, 0)]) rfl (w3.alloc (.cells #[.int .i32 32, .int .i64 1, .int .i64 0] 62)).heap.size SQ.out (flat_one _) F24.1 F24.2 BAS.out ?_; intro A' c' w5 hown hg _; (have H5 := Lib.hid (show HasC w5 wa.heap.size (.slice A' (j + 1) c') (blanksL (j + 1)) from by unfold HasC; rw [blanksL_length, blanksL_snoc, flat_append]; exact hown)); (have B5 := Lib.hid (B4.out.grown hg B4.out.size (fun i e => by have h1 := (World.ownsRow.lt OWN.out i e).1; have h2 := HGW.out; have h3 := HG1.out; omega))); (have Z5 := Lib.hid (show RowAt w5 g1 (.slice Av j cv) false from (hg.block g1 Z4.out.lt (fun e => by have h1 := (World.ownsRow.lt OWN.out g1 e.symm).1; have h2 := HGW.out; omega)).trans Z4.out)); (have R5 := Lib.hid (show RowAt w5 g0 (.slice none 0 0) false from (hg.block g0 R4.out.lt (fun e => by have h1 := (World.ownsRow.lt OWN.out g0 e.symm).1; have h2 := HGW.out; have h3 := HG01.out; omega)).trans R4.out)); (have z5 : w5.cell? ⟨g1, 0, none⟩ = some (.slice Av j cv) := Z5.out.get 0); (have f5 := Z5.out.free 0); clear hown hg))
   all_goals
    have Z6 := Lib.hid (show RowAt (w5.setCell ⟨g1, 0, none⟩ (.slice A' (j + 1) c')) g1 (.slice A' (j + 1) c') false from heap_setCell_same w5 g1 0 _ _ (.slice A' (j + 1) c') Z5.out)
    have O6 := OnlyRow.cell g1 0 w5 (.slice A' (j + 1) c')
    have R6 := Lib.hid (show RowAt (w5.setCell ⟨g1, 0, none⟩ (.slice A' (j + 1) c')) g0 (.slice none 0 0) false from (O6.block g0 (by have := HG01.out; omega)).trans R5.out)
    have H6 := Lib.hid (HasC.keep H5.out (fun i e => O6.block i (by have h1 := (HasC.lt H5.out i e).1; have h2 := HGW.out; omega)))
    have B6 := Lib.hid (B5.out.trans ((Turned.ofOnly O6).toBelow B5.out.size (fun k hk e => by have := HG1.out; omega)))
    clear O6
    go_wp2
    go_roundw
    case rel => exact ⟨j + 1, _, by go_num, by omega, Z6, R6, H6, B6⟩
    case measure => first | (simp [intOf]; done) | (simp [intOf]; omega)
  ·obtain rfl : j = q := by omega
   obtain ⟨Av, cv, rfl, hcv⟩ := HasC.shape H.out
   rw [blanksL_length] at hcv Z H
   have z0 : wr.cell? ⟨g1, 0, none⟩ = some (.slice Av j cv) := Z.out.get 0
   have z1 : wr.cell? ⟨g1, 1, none⟩ = some (.bool false) := Z.out.get 1
   have y0 : wr.cell? ⟨g0, 0, none⟩ = some (.slice none 0 0) := R.out.get 0
   have y1 : wr.cell? ⟨g0, 1, none⟩ = some (.bool false) := R.out.get 1
   have zf0 := R.out.free 0
   have zf1 := R.out.free 1
   have RF := Lib.hid (RowAt.put2 R.out (.slice Av j cv) false)
   have OF := (OnlyRow.cell g0 0 wr (.slice Av j cv)).trans (OnlyRow.cell g0 1 _ (.bool false))
   have HF := Lib.hid (HasC.keep H.out (fun i e => OF.block i (by have h1 := (HasC.lt H.out i e).1; have h2 := HGW.out; have h3 := HG01.out; omega)))
   have BF := Lib.hid (B.out.trans ((Turned.ofOnly OF).toBelow B.out.size (fun k hk e => by have := HG0.out; omega)))
   clear OF
   go_wp2
   generalize (wr.setCell ⟨g0, 0, none⟩ (.slice Av j cv)).setCell ⟨g0, 1, none⟩ (.bool false) = wz at RF HF BF ⊢
   have e0 : wz.cell? ⟨g0, 0, none⟩ = some (.slice Av j cv) := RF.out.get 0
   have e1 : wz.cell? ⟨g0, 1, none⟩ = some (.bool false) := RF.out.get 1
   refine bodyPost_ret (v := .agg #[.slice Av j cv, .bool false]) (by simp [results, Tryz.results109, go_sem, e0, e1]) rfl ?_
   exact ⟨_, _, _, rfl, HasC.mono HF.out (by have h1 := HGW.out; have h2 := HG1.out; omega), BF.out⟩
end Rw
