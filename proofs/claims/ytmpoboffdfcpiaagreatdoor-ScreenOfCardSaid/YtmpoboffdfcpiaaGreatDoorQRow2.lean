import Derived.Test.YtmpoboffdfcpiaaGreatDoorQRow1
set_option maxRecDepth 100000
set_option maxHeartbeats 6400000
namespace Go.Proofs.YtmpoboffdfcpiaaGreatDoor
open Go.ChangeShapes Go.WideShapes Go.ChangeAt Go.RowKit
namespace Rw
def eraseOk (l : List Cel) (a b : Int) : Bool := mayL l && decide (0 ≤ a) && decide (a ≤ b) && decide (b ≤ (l.length : Int))
def eraseRes (l : List Cel) (a b : Int) : List Cel := if eraseOk l a b && decide (a < b) then ovL l a.toNat (blanksL (b - a).toNat) else l
def eraseWrap (wrap : Bool) (l : List Cel) (a b : Int) : Bool := if eraseOk l a b && decide (a < b) && decide (b = (l.length : Int)) then false else wrap
def ErasePost (ok wrap : Bool) (l : List Cel) (w : World) (e : Ending) (w' : World) : Prop := ∃ A n c, e = .returned (.tuple #[.agg #[.slice A n c, .bool wrap], .bool ok]) ∧ HasC w' w.heap.size (.slice A n c) l ∧ Below w.heap.size w w'
theorem rowErase_walk (A : Option Addr) (n c : Nat) (wrap : Bool) (l : List Cel) (from' to' : Int) (w : World) (hs : Spans w) (hl : ∀ c ∈ l, -2147483648 ≤ c.1 ∧ c.1 ≤ 2147483647) (hq : Sq w w.heap.size 3 n A (flat l)) (hn : n ≤ 1000000) :
  Calls Tryz.prog 48 #[rowV A n c wrap, .int .i64 from', .int .i64 to'] w fun e w' => ErasePost (eraseOk l from' to') (eraseWrap wrap l from' to') (eraseRes l from' to') w e w' := by
 have hln : l.length = n := by have := hq.len; rw [flat_length] at this; omega
 have Q := Lib.hid hq
 have S := Lib.hid hs
 have HL := Lib.hid hl
 have LN := Lib.hid hln
 clear hq hs hl hln
 go_enter Tryz.func48, Tryz.ntmps48
 go_wp2_with fail
 have ba := ((Below.refl w.heap.size w).alloc (Nat.le_refl _) (.cells #[.slice A n c, .bool wrap] 58)).alloc (by simp) (.cells #[.slice none 0 0, .bool false] 58)
 have r0 : RowAt ((w.alloc (.cells #[.slice A n c, .bool wrap] 58)).alloc (.cells #[.slice none 0 0, .bool false] 58)) w.heap.size (.slice A n c) wrap := (Below.heap_alloc _ _ _ (by simp)).trans (heap_alloc_new w _)
 have z0 : RowAt ((w.alloc (.cells #[.slice A n c, .bool wrap] 58)).alloc (.cells #[.slice none 0 0, .bool false] 58)) (w.heap.size + 1) (.slice none 0 0) false := by
  have h := heap_alloc_new (w.alloc (.cells #[.slice A n c, .bool wrap] 58)) (.cells #[.slice none 0 0, .bool false] 58)
  rw [World.size_alloc] at h
  exact h
 have sa : ((w.alloc (.cells #[.slice A n c, .bool wrap] 58)).alloc (.cells #[.slice none 0 0, .bool false] 58)).heap.size = w.heap.size + 2 := by simp
 generalize (w.alloc (.cells #[.slice A n c, .bool wrap] 58)).alloc (.cells #[.slice none 0 0, .bool false] 58) = wa at ba r0 z0 sa ⊢
 obtain ⟨g0, hg0⟩ : ∃ g0, w.heap.size = g0 := ⟨_, rfl⟩
 obtain ⟨g1, hg1⟩ : ∃ g1, g0 + 1 = g1 := ⟨_, rfl⟩
 rw [hg0, hg1] at z0
 rw [hg0] at r0 sa
 have HGW := Lib.hid (show w.heap.size + 2 = wa.heap.size by omega)
 have HG1 := Lib.hid (show w.heap.size ≤ g1 by omega)
 have HG0 := Lib.hid hg0
 rw [hg0, hg1]
 refine (copied_walk A n c wrap l wa ((Q.out.below ba).up ba.size) hn).mono ?_
 rintro e w3 ⟨v3, rfl, hv3, b3⟩
 obtain ⟨A3, c3, rfl, hc3⟩ := HasC.shape hv3
 rw [LN.out] at hv3 hc3 ⊢
 have bw3 := ba.trans (b3.mono ba.size)
 have b4 := (Below.refl w3.heap.size w3).alloc (Nat.le_refl _) (.cells #[.slice A3 n c3, .bool wrap] 58)
 obtain ⟨g8, hg8⟩ : ∃ g8, w3.heap.size = g8 := ⟨_, rfl⟩
 have R8 := Lib.hid (show RowAt (w3.alloc (.cells #[.slice A3 n c3, .bool wrap] 58)) g8 (.slice A3 n c3) wrap by rw [← hg8]; exact heap_alloc_new w3 _)
 have r03 : RowAt w3 g0 (.slice A n c) wrap := (b3.block g0 r0.lt).trans r0
 have z03 : RowAt w3 g1 (.slice none 0 0) false := (b3.block g1 z0.lt).trans z0
 have R0 := Lib.hid (show RowAt (w3.alloc (.cells #[.slice A3 n c3, .bool wrap] 58)) g0 (.slice A n c) wrap from (b4.block g0 r03.lt).trans r03)
 have Z0 := Lib.hid (show RowAt (w3.alloc (.cells #[.slice A3 n c3, .bool wrap] 58)) g1 (.slice none 0 0) false from (b4.block g1 z03.lt).trans z03)
 have HV := Lib.hid (HasC.keep (w' := w3.alloc (.cells #[.slice A3 n c3, .bool wrap] 58)) hv3 (fun j e => b4.block j (HasC.lt hv3 j e).2))
 have B4 := Lib.hid (bw3.trans (b4.mono bw3.size))
 have hne8 : g8 ≠ g1 := by have := z03.lt; omega
 have NG1 := Lib.hid (show ∀ j, (Value.slice A3 n c3).ownBlock = some j → j ≠ g1 from fun j e e2 => by have := (HasC.lt hv3 j e).1; omega)
 have NG8 := Lib.hid (show ∀ j, (Value.slice A3 n c3).ownBlock = some j → j ≠ g8 from fun j e e2 => by have := (HasC.lt hv3 j e).2; omega)
 have NB := Lib.hid (show ∀ j, (Value.slice A3 n c3).ownBlock = some j → w.heap.size ≤ j from fun j e => by have := (HasC.lt hv3 j e).1; omega)
 have y0 : w3.cell? ⟨g0, 0, none⟩ = some (.slice A n c) := r03.get 0
 have y1 : w3.cell? ⟨g0, 1, none⟩ = some (.bool wrap) := r03.get 1
 have hl0 := r03.lt
 have HG8 := Lib.hid hg8
 have HG8w := Lib.hid (show w.heap.size ≤ w3.heap.size from bw3.size)
 clear ba r0 z0 sa b3 hv3 bw3 b4 r03 z03 hg0 hg1 hg8
 go_wp2_with fail
 rw [HG8.out]
 clear y0 y1 hl0
 generalize w3.alloc (.cells #[.slice A3 n c3, .bool wrap] 58) = w4 at R8 R0 Z0 HV B4 ⊢
 refine (packMay_walk A n c wrap l w4 (S.out.below B4.out S.out.size) HL.out ((Q.out.below B4.out).up B4.out.size) hn).mono ?_
 rintro e w5 ⟨rfl, b5⟩
 have R8x := Lib.hid (show RowAt w5 g8 (.slice A3 n c3) wrap from (b5.block g8 R8.out.lt).trans R8.out)
 have R0x := Lib.hid (show RowAt w5 g0 (.slice A n c) wrap from (b5.block g0 R0.out.lt).trans R0.out)
 have Z0x := Lib.hid (show RowAt w5 g1 (.slice none 0 0) false from (b5.block g1 Z0.out.lt).trans Z0.out)
 have HVx := Lib.hid (HasC.keep (w' := w5) HV.out (fun j e => b5.block j (HasC.lt HV.out j e).2))
 have Bx := Lib.hid (B4.out.trans (b5.mono B4.out.size))
 clear b5 R8 R0 Z0 HV B4
 have DNF := Lib.hid (fun (ok : Bool) (hok : eraseOk l from' to' = ok) (hno : (ok && decide (from' < to')) = false) (W : World) (hv : HasC W wa.heap.size (.slice A3 n c3) l) (hb : Below w.heap.size w W) => (show ErasePost (eraseOk l from' to') (eraseWrap wrap l from' to') (eraseRes l from' to') w (.returned (.tuple #[.agg #[.slice A3 n c3, .bool wrap], .bool ok])) W by
  have e1 : eraseRes l from' to' = l := by unfold eraseRes; rw [hok, hno]; rfl
  have e2 : eraseWrap wrap l from' to' = wrap := by unfold eraseWrap; rw [hok, hno]; rfl
  rw [hok, e1, e2]
  exact ⟨A3, n, c3, rfl, HasC.mono hv (by have := HGW.out; omega), hb⟩))
 obtain ⟨mb, hmb⟩ : ∃ mb, mayL l = mb := ⟨_, rfl⟩
 have MB := Lib.hid hmb
 rw [hmb]
 clear hmb
 cases mb with
 | false =>
  have DN := Lib.hid (DNF.out false (by unfold eraseOk; rw [MB.out]; rfl) rfl)
  clear DNF
  have k80 : w5.cell? ⟨g8, 0, none⟩ = some (.slice A3 n c3) := R8x.out.get 0
  have k81 : w5.cell? ⟨g8, 1, none⟩ = some (.bool wrap) := R8x.out.get 1
  have z0 : w5.cell? ⟨g1, 0, none⟩ = some (.slice none 0 0) := Z0x.out.get 0
  have z1 : w5.cell? ⟨g1, 1, none⟩ = some (.bool false) := Z0x.out.get 1
  have zf0 := Z0x.out.free 0
  have zf1 := Z0x.out.free 1
  have RF := Lib.hid (RowAt.put2 Z0x.out (.slice A3 n c3) wrap)
  have OF := (OnlyRow.cell g1 0 w5 (.slice A3 n c3)).trans (OnlyRow.cell g1 1 _ (.bool wrap))
  have HF := Lib.hid (HasC.keep HVx.out (fun j e => OF.block j (NG1.out j e)))
  have BF := Lib.hid (Bx.out.trans ((Turned.ofOnly OF).toBelow Bx.out.size (fun k hk e => by have := HG1.out; omega)))
  clear OF
  go_wp2
  generalize (w5.setCell ⟨g1, 0, none⟩ (.slice A3 n c3)).setCell ⟨g1, 1, none⟩ (.bool wrap) = wz at RF HF BF ⊢
  have e0 : wz.cell? ⟨g1, 0, none⟩ = some (.slice A3 n c3) := RF.out.get 0
  have e1 : wz.cell? ⟨g1, 1, none⟩ = some (.bool wrap) := RF.out.get 1
  exact bodyPost_ret (v := .tuple #[.agg #[.slice A3 n c3, .bool wrap], .bool false]) (by simp [results, Tryz.results48, go_sem, e0, e1]) rfl (DN.out wz HF.out BF.out)
 | true =>
  by_cases ha0 : from' < 0
  ·have DN := Lib.hid (DNF.out false (by unfold eraseOk; rw [decide_eq_false (show ¬ 0 ≤ from' by omega)]; simp) rfl)
   clear DNF
   have k80 : w5.cell? ⟨g8, 0, none⟩ = some (.slice A3 n c3) := R8x.out.get 0
   have k81 : w5.cell? ⟨g8, 1, none⟩ = some (.bool wrap) := R8x.out.get 1
   have z0 : w5.cell? ⟨g1, 0, none⟩ = some (.slice none 0 0) := Z0x.out.get 0
   have z1 : w5.cell? ⟨g1, 1, none⟩ = some (.bool false) := Z0x.out.get 1
   have zf0 := Z0x.out.free 0
   have zf1 := Z0x.out.free 1
   have RF := Lib.hid (RowAt.put2 Z0x.out (.slice A3 n c3) wrap)
   have OF := (OnlyRow.cell g1 0 w5 (.slice A3 n c3)).trans (OnlyRow.cell g1 1 _ (.bool wrap))
   have HF := Lib.hid (HasC.keep HVx.out (fun j e => OF.block j (NG1.out j e)))
   have BF := Lib.hid (Bx.out.trans ((Turned.ofOnly OF).toBelow Bx.out.size (fun k hk e => by have := HG1.out; omega)))
   clear OF
   go_wp2
   generalize (w5.setCell ⟨g1, 0, none⟩ (.slice A3 n c3)).setCell ⟨g1, 1, none⟩ (.bool wrap) = wz at RF HF BF ⊢
   have e0 : wz.cell? ⟨g1, 0, none⟩ = some (.slice A3 n c3) := RF.out.get 0
   have e1 : wz.cell? ⟨g1, 1, none⟩ = some (.bool wrap) := RF.out.get 1
   exact bodyPost_ret (v := .tuple #[.agg #[.slice A3 n c3, .bool wrap], .bool false]) (by simp [results, Tryz.results48, go_sem, e0, e1]) rfl (DN.out wz HF.out BF.out)
  by_cases hab : to' < from'
  ·have DN := Lib.hid (DNF.out false (by unfold eraseOk; rw [decide_eq_false (show ¬ from' ≤ to' by omega)]; simp) rfl)
   clear DNF
   have k80 : w5.cell? ⟨g8, 0, none⟩ = some (.slice A3 n c3) := R8x.out.get 0
   have k81 : w5.cell? ⟨g8, 1, none⟩ = some (.bool wrap) := R8x.out.get 1
   have z0 : w5.cell? ⟨g1, 0, none⟩ = some (.slice none 0 0) := Z0x.out.get 0
   have z1 : w5.cell? ⟨g1, 1, none⟩ = some (.bool false) := Z0x.out.get 1
   have zf0 := Z0x.out.free 0
   have zf1 := Z0x.out.free 1
   have RF := Lib.hid (RowAt.put2 Z0x.out (.slice A3 n c3) wrap)
   have OF := (OnlyRow.cell g1 0 w5 (.slice A3 n c3)).trans (OnlyRow.cell g1 1 _ (.bool wrap))
   have HF := Lib.hid (HasC.keep HVx.out (fun j e => OF.block j (NG1.out j e)))
   have BF := Lib.hid (Bx.out.trans ((Turned.ofOnly OF).toBelow Bx.out.size (fun k hk e => by have := HG1.out; omega)))
   clear OF
   go_wp2
   generalize (w5.setCell ⟨g1, 0, none⟩ (.slice A3 n c3)).setCell ⟨g1, 1, none⟩ (.bool wrap) = wz at RF HF BF ⊢
   have e0 : wz.cell? ⟨g1, 0, none⟩ = some (.slice A3 n c3) := RF.out.get 0
   have e1 : wz.cell? ⟨g1, 1, none⟩ = some (.bool wrap) := RF.out.get 1
   exact bodyPost_ret (v := .tuple #[.agg #[.slice A3 n c3, .bool wrap], .bool false]) (by simp [results, Tryz.results48, go_sem, e0, e1]) rfl (DN.out wz HF.out BF.out)
  have y0 : w5.cell? ⟨g0, 0, none⟩ = some (.slice A n c) := R0x.out.get 0
  by_cases hbn : (n : Int) < to'
  ·have DN := Lib.hid (DNF.out false (by unfold eraseOk; rw [LN.out, decide_eq_false (show ¬ to' ≤ (n : Int) by omega)]; simp) rfl)
   clear DNF
   have k80 : w5.cell? ⟨g8, 0, none⟩ = some (.slice A3 n c3) := R8x.out.get 0
   have k81 : w5.cell? ⟨g8, 1, none⟩ = some (.bool wrap) := R8x.out.get 1
   have z0 : w5.cell? ⟨g1, 0, none⟩ = some (.slice none 0 0) := Z0x.out.get 0
   have z1 : w5.cell? ⟨g1, 1, none⟩ = some (.bool false) := Z0x.out.get 1
   have zf0 := Z0x.out.free 0
   have zf1 := Z0x.out.free 1
   have RF := Lib.hid (RowAt.put2 Z0x.out (.slice A3 n c3) wrap)
   have OF := (OnlyRow.cell g1 0 w5 (.slice A3 n c3)).trans (OnlyRow.cell g1 1 _ (.bool wrap))
   have HF := Lib.hid (HasC.keep HVx.out (fun j e => OF.block j (NG1.out j e)))
   have BF := Lib.hid (Bx.out.trans ((Turned.ofOnly OF).toBelow Bx.out.size (fun k hk e => by have := HG1.out; omega)))
   clear OF
   go_wp2
   generalize (w5.setCell ⟨g1, 0, none⟩ (.slice A3 n c3)).setCell ⟨g1, 1, none⟩ (.bool wrap) = wz at RF HF BF ⊢
   have e0 : wz.cell? ⟨g1, 0, none⟩ = some (.slice A3 n c3) := RF.out.get 0
   have e1 : wz.cell? ⟨g1, 1, none⟩ = some (.bool wrap) := RF.out.get 1
   exact bodyPost_ret (v := .tuple #[.agg #[.slice A3 n c3, .bool wrap], .bool false]) (by simp [results, Tryz.results48, go_sem, e0, e1]) rfl (DN.out wz HF.out BF.out)
  have hok : eraseOk l from' to' = true := by
   unfold eraseOk
   rw [MB.out, LN.out, decide_eq_true (show 0 ≤ from' by omega), decide_eq_true (show from' ≤ to' by omega), decide_eq_true (show to' ≤ (n : Int) by omega)]
   rfl
  by_cases hee : from' = to'
  ·have DN := Lib.hid (DNF.out true hok (by rw [decide_eq_false (show ¬ from' < to' by omega)]; rfl))
   have heb : (from' == to') = true := by simp; omega
   clear DNF hok
   have k80 : w5.cell? ⟨g8, 0, none⟩ = some (.slice A3 n c3) := R8x.out.get 0
   have k81 : w5.cell? ⟨g8, 1, none⟩ = some (.bool wrap) := R8x.out.get 1
   have z0 : w5.cell? ⟨g1, 0, none⟩ = some (.slice none 0 0) := Z0x.out.get 0
   have z1 : w5.cell? ⟨g1, 1, none⟩ = some (.bool false) := Z0x.out.get 1
   have zf0 := Z0x.out.free 0
   have zf1 := Z0x.out.free 1
   have RF := Lib.hid (RowAt.put2 Z0x.out (.slice A3 n c3) wrap)
   have OF := (OnlyRow.cell g1 0 w5 (.slice A3 n c3)).trans (OnlyRow.cell g1 1 _ (.bool wrap))
   have HF := Lib.hid (HasC.keep HVx.out (fun j e => OF.block j (NG1.out j e)))
   have BF := Lib.hid (Bx.out.trans ((Turned.ofOnly OF).toBelow Bx.out.size (fun k hk e => by have := HG1.out; omega)))
   clear OF
   go_wp2
   generalize (w5.setCell ⟨g1, 0, none⟩ (.slice A3 n c3)).setCell ⟨g1, 1, none⟩ (.bool wrap) = wz at RF HF BF ⊢
   have e0 : wz.cell? ⟨g1, 0, none⟩ = some (.slice A3 n c3) := RF.out.get 0
   have e1 : wz.cell? ⟨g1, 1, none⟩ = some (.bool wrap) := RF.out.get 1
   exact bodyPost_ret (v := .tuple #[.agg #[.slice A3 n c3, .bool wrap], .bool true]) (by simp [results, Tryz.results48, go_sem, e0, e1]) rfl (DN.out wz HF.out BF.out)
  have heb : (from' == to') = false := by simp; omega
  have hlt : from' < to' := by omega
  obtain ⟨k, rfl⟩ := Int.eq_ofNat_of_zero_le (show 0 ≤ from' by omega)
  obtain ⟨q, rfl⟩ := Int.eq_ofNat_of_zero_le (show 0 ≤ to' by omega)
  obtain ⟨m, hm⟩ : ∃ m, q = k + m := ⟨q - k, by omega⟩
  subst hm
  have hm0 : 0 < m := by omega
  have hkm : k + m ≤ n := by omega
  obtain ⟨gg, tail, rfl, hgb, hnc, RI, CV⟩ := rowIn_of HVx.out (by omega)
  have G := ((mayL_iff l).1 MB.out).2
  have hgw := NB.out gg rfl
  have hg8 := NG8.out gg rfl
  have hgg1 := NG1.out gg rfl
  have hgg0 : gg ≠ g0 := by have := HGW.out; have := HG0.out; omega
  have CV' := Lib.hid CV
  have RIx := Lib.hid RI
  have GX := Lib.hid G
  have hgl := RI.lt
  have HRES := Lib.hid (show eraseRes l (k : Int) ((k + m : Nat) : Int) = ovL l k (blanksL m) by
   unfold eraseRes
   rw [hok, decide_eq_true hlt, Bool.and_self, if_pos rfl, Int.toNat_natCast, show (((k + m : Nat) : Int) - (k : Int)).toNat = m by omega])
  have HOK := Lib.hid hok
  have HWR := Lib.hid (show eraseWrap wrap l (k : Int) ((k + m : Nat) : Int) = if k + m = n then false else wrap by
   unfold eraseWrap
   rw [hok, decide_eq_true hlt, LN.out]
   by_cases he : k + m = n
   ·rw [if_pos he, decide_eq_true (show ((k + m : Nat) : Int) = (n : Int) by omega)]; rfl
   ·rw [if_neg he, decide_eq_false (show ¬ ((k + m : Nat) : Int) = (n : Int) by omega)]; rfl)
  have hsub : IntKind.i64.wrap ((k : Int) + (m : Int) - (k : Int)) = (m : Int) := by rw [IntWalk.i64_in _ (by omega)]; omega
  have SRCF : ∀ (w7 : World) (gb : Nat), RowIn' w7 gb (blanksL m) [] → gb ≠ gg → ∀ W', Turned (· = gg) w7 W' → ∀ j u, (flat (blanksL m))[j]? = some u → W'.cell? ((⟨gb, 0, none⟩ : Addr).add j) = some u := by
   intro w7 gb RB hne W' ht j u hu
   have hj := (List.getElem?_eq_some_iff.1 hu).1
   rw [add_at', Nat.zero_add, World.cell?_of_block (ht.block gb RB.lt hne), cell_of_row _ gb _ _ _ (0, 0) RB.heap, List.append_nil, List.getElem?_toArray]
   exact hu
  have k80 : w5.drew.cell? ⟨g8, 0, none⟩ = some (.slice (some ⟨gg, 0, none⟩) n c3) := R8x.out.get 0
  have R8d := Lib.hid (show RowAt w5.drew g8 (.slice (some ⟨gg, 0, none⟩) n c3) wrap from R8x.out)
  have R0d := Lib.hid (show RowAt w5.drew g0 (.slice A n c) wrap from R0x.out)
  have Z0d := Lib.hid (show RowAt w5.drew g1 (.slice none 0 0) false from Z0x.out)
  have RId := Lib.hid (show RowIn' w5.drew gg l tail from ⟨RI.heap⟩)
  have Bd := Lib.hid Bx.out.drew
  have hgd : gg < w5.drew.heap.size := hgl
  clear DNF RI CV HVx hok G
  go_upto_region 6 with fail
  go_region_with (first | (go_at_call 101; refine (blanks_walk m _ (by omega)).mono ?_; rintro e w7 ⟨gb, rfl, hgb7, RB, b7⟩; (have R87 := Lib.hid (show RowAt w7 g8 (.slice (some ⟨gg, 0, none⟩) n c3) wrap from (b7.block g8 R8d.out.lt).trans R8d.out)); (have R07 := Lib.hid (show RowAt w7 g0 (.slice A n c) wrap from (b7.block g0 R0d.out.lt).trans R0d.out)); (have Z07 := Lib.hid (show RowAt w7 g1 (.slice none 0 0) false from (b7.block g1 Z0d.out.lt).trans Z0d.out)); (have RI7 := Lib.hid (RId.out.below b7)); (have B7 := Lib.hid (Bd.out.trans (b7.mono Bd.out.size))); (have k87 : w7.cell? ⟨g8, 0, none⟩ = some (.slice (some ⟨gg, 0, none⟩) n c3) := R87.out.get 0)) | (go_at_call 105; refine (overwrite_walk gg n c3 k gb 0 m m l (blanksL m) tail w7 RI7.out LN.out hnc hn GX.out (blanksL_length m) hm0 hkm (SRCF w7 gb RB (by omega))).mono ?_; rintro e w8 ⟨⟨_, rfl⟩, RO, T8⟩))
  all_goals
   have R8z := Lib.hid (show RowAt w8 g8 (.slice (some ⟨gg, 0, none⟩) n c3) wrap from (T8.block g8 R87.out.lt (by omega)).trans R87.out)
   have R0z := Lib.hid (show RowAt w8 g0 (.slice A n c) wrap from (T8.block g0 R07.out.lt (by omega)).trans R07.out)
   have Z0z := Lib.hid (show RowAt w8 g1 (.slice none 0 0) false from (T8.block g1 Z07.out.lt (by omega)).trans Z07.out)
   have HVz := Lib.hid (CV'.out w8 _ (by rw [ovL_length]; exact LN.out) RO)
   have Bz := Lib.hid (B7.out.trans (T8.toBelow B7.out.size (fun k hk e => by omega)))
   have y8 : w8.cell? ⟨g0, 0, none⟩ = some (.slice A n c) := R0z.out.get 0
   clear RO T8 R87 R07 Z07 RI7 B7 k87 k80 R8d R0d Z0d RId Bd RIx y0
   have DN0 := Lib.hid (fun (wv : Bool) (he : (if k + m = n then false else wrap) = wv) (W : World) (hv : HasC W wa.heap.size (.slice (some ⟨gg, 0, none⟩) n c3) (ovL l k (blanksL m))) (hb : Below w.heap.size w W) => (show ErasePost (eraseOk l (k : Int) ((k + m : Nat) : Int)) (eraseWrap wrap l (k : Int) ((k + m : Nat) : Int)) (eraseRes l (k : Int) ((k + m : Nat) : Int)) w (.returned (.tuple #[.agg #[.slice (some ⟨gg, 0, none⟩) n c3, .bool wv], .bool true])) W by
    rw [HOK.out, HWR.out, HRES.out, he]
    exact ⟨some ⟨gg, 0, none⟩, n, c3, rfl, HasC.mono hv (by have := HGW.out; omega), hb⟩))
   by_cases hen : k + m = n
   ·have heq : ((k : Int) + (m : Int) == (n : Int)) = true := by simp; omega
    have k81' : w8.cell? ⟨g8, 1, none⟩ = some (.bool wrap) := R8z.out.get 1
    have kf81 := R8z.out.free 1
    have o9 := OnlyRow.cell g8 1 w8 (.bool false)
    have R8v := Lib.hid (show RowAt (w8.setCell ⟨g8, 1, none⟩ (.bool false)) g8 (.slice (some ⟨gg, 0, none⟩) n c3) false from heap_setCell_same w8 g8 1 _ _ _ R8z.out)
    have Z0v := Lib.hid (show RowAt (w8.setCell ⟨g8, 1, none⟩ (.bool false)) g1 (.slice none 0 0) false from (o9.block g1 (fun e => hne8 e.symm)).trans Z0z.out)
    have HVv := Lib.hid (HasC.keep (w' := w8.setCell ⟨g8, 1, none⟩ (.bool false)) HVz.out (fun j e => o9.block j (NG8.out j e)))
    have Bv := Lib.hid (Bz.out.trans ((Turned.ofOnly o9).toBelow Bz.out.size (fun k hk e => by have := HG8.out; have := HG8w.out; omega)))
    have DN := Lib.hid (DN0.out false (by rw [if_pos hen]))
    clear o9 DN0
    have k80 : w8.cell? ⟨g8, 0, none⟩ = some (.slice (some ⟨gg, 0, none⟩) n c3) := R8z.out.get 0
    have z0 : w8.cell? ⟨g1, 0, none⟩ = some (.slice none 0 0) := Z0z.out.get 0
    have z1 : w8.cell? ⟨g1, 1, none⟩ = some (.bool false) := Z0z.out.get 1
    have zf0 := Z0z.out.free 0
    have zf1 := Z0z.out.free 1
    have RF := Lib.hid (RowAt.put2 Z0v.out (.slice (some ⟨gg, 0, none⟩) n c3) false)
    have OF := (OnlyRow.cell g1 0 (w8.setCell ⟨g8, 1, none⟩ (.bool false)) (.slice (some ⟨gg, 0, none⟩) n c3)).trans (OnlyRow.cell g1 1 _ (.bool false))
    have HF := Lib.hid (HasC.keep HVv.out (fun j e => OF.block j (NG1.out j e)))
    have BF := Lib.hid (Bv.out.trans ((Turned.ofOnly OF).toBelow Bv.out.size (fun k hk e => by have := HG1.out; omega)))
    clear OF
    go_wp2
    generalize ((w8.setCell ⟨g8, 1, none⟩ (.bool false)).setCell ⟨g1, 0, none⟩ (.slice (some ⟨gg, 0, none⟩) n c3)).setCell ⟨g1, 1, none⟩ (.bool false) = wz at RF HF BF ⊢
    have e0 : wz.cell? ⟨g1, 0, none⟩ = some (.slice (some ⟨gg, 0, none⟩) n c3) := RF.out.get 0
    have e1 : wz.cell? ⟨g1, 1, none⟩ = some (.bool false) := RF.out.get 1
    exact bodyPost_ret (v := .tuple #[.agg #[(.slice (some ⟨gg, 0, none⟩) n c3), .bool false], .bool true]) (by simp [results, Tryz.results48, go_sem, e0, e1]) rfl (DN.out wz HF.out BF.out)
   ·have heq : ((k : Int) + (m : Int) == (n : Int)) = false := by simp; omega
    have DN := Lib.hid (DN0.out wrap (by rw [if_neg hen]))
    clear DN0
    have k80 : w8.cell? ⟨g8, 0, none⟩ = some (.slice (some ⟨gg, 0, none⟩) n c3) := R8z.out.get 0
    have k81 : w8.cell? ⟨g8, 1, none⟩ = some (.bool wrap) := R8z.out.get 1
    have z0 : w8.cell? ⟨g1, 0, none⟩ = some (.slice none 0 0) := Z0z.out.get 0
    have z1 : w8.cell? ⟨g1, 1, none⟩ = some (.bool false) := Z0z.out.get 1
    have zf0 := Z0z.out.free 0
    have zf1 := Z0z.out.free 1
    have RF := Lib.hid (RowAt.put2 Z0z.out (.slice (some ⟨gg, 0, none⟩) n c3) wrap)
    have OF := (OnlyRow.cell g1 0 w8 (.slice (some ⟨gg, 0, none⟩) n c3)).trans (OnlyRow.cell g1 1 _ (.bool wrap))
    have HF := Lib.hid (HasC.keep HVz.out (fun j e => OF.block j (NG1.out j e)))
    have BF := Lib.hid (Bz.out.trans ((Turned.ofOnly OF).toBelow Bz.out.size (fun k hk e => by have := HG1.out; omega)))
    clear OF
    go_wp2
    generalize (w8.setCell ⟨g1, 0, none⟩ (.slice (some ⟨gg, 0, none⟩) n c3)).setCell ⟨g1, 1, none⟩ (.bool wrap) = wz at RF HF BF ⊢
    have e0 : wz.cell? ⟨g1, 0, none⟩ = some (.slice (some ⟨gg, 0, none⟩) n c3) := RF.out.get 0
    have e1 : wz.cell? ⟨g1, 1, none⟩ = some (.bool wrap) := RF.out.get 1
    exact bodyPost_ret (v := .tuple #[.agg #[.slice (some ⟨gg, 0, none⟩) n c3, .bool wrap], .bool true]) (by simp [results, Tryz.results48, go_sem, e0, e1]) rfl (DN.out wz HF.out BF.out)
end Rw
namespace Rw
theorem whole_pad : Whole [(0, 1, 0)] := by
 refine ⟨by simp, fun j hj => ?_, fun j hj => ?_, fun j hj e => ?_, ?_⟩
 all_goals try (obtain rfl : j = 0 := by simpa using hj)
 ·show mayB (0, 1, 0) = true
  unfold mayB; simp
 ·show ((32, 1, 0) : Cel).2.1 = 2 ↔ ((0, 1, 0) : Cel).2.1 = 0
  simp
 ·cases e
 ·show ((0, 1, 0) : Cel).2.1 ≠ 2
  simp
theorem whole_one {r a : Int} (ha : 0 ≤ a ∧ a ≤ 255) (h : wof r = 1) : Whole [(r, 1, a)] := by
 refine ⟨by simp, fun j hj => ?_, fun j hj => ?_, fun j hj e => ?_, ?_⟩
 all_goals try (obtain rfl : j = 0 := by simpa using hj)
 ·show mayB (r, 1, a) = true
  unfold mayB; simp [h, ha.1, ha.2]
 ·show ((32, 1, 0) : Cel).2.1 = 2 ↔ ((r, 1, a) : Cel).2.1 = 0
  simp
 ·cases e
 ·show ((r, 1, a) : Cel).2.1 ≠ 2
  simp
theorem whole_two {r a : Int} (ha : 0 ≤ a ∧ a ≤ 255) (h : wof r = 2) : Whole [(r, 2, a), (0, 0, a)] := by
 have two : ∀ j, j < ([(r, 2, a), (0, 0, a)] : List Cel).length → j = 0 ∨ j = 1 := fun j hj => by simp at hj; omega
 refine ⟨by simp, fun j hj => ?_, fun j hj => ?_, fun j hj e => ?_, ?_⟩
 ·rcases two j hj with rfl | rfl
  ·show mayB (r, 2, a) = true
   unfold mayB; simp [h, ha.1, ha.2]
  ·show mayB (0, 0, a) = true
   unfold mayB; simp [ha.1, ha.2]
 ·rcases two j hj with rfl | rfl
  ·show ((32, 1, 0) : Cel).2.1 = 2 ↔ ((r, 2, a) : Cel).2.1 = 0
   simp
  ·show ((r, 2, a) : Cel).2.1 = 2 ↔ ((0, 0, a) : Cel).2.1 = 0
   simp
 ·rcases two j hj with rfl | rfl
  ·cases e
  ·rfl
 ·show ((0, 0, a) : Cel).2.1 ≠ 2
  simp
theorem whole_of {r a : Int} (h : ofL r a ≠ []) : Whole (ofL r a) := by
 unfold ofL at h ⊢
 by_cases ha : mayA a = true
 ·have ha' : 0 ≤ a ∧ a ≤ 255 := by unfold mayA at ha; simpa using ha
  rw [if_pos ha] at h ⊢
  by_cases h1 : wof r = 1
  ·rw [if_pos h1]; exact whole_one ha' h1
  ·rw [if_neg h1] at h ⊢
   by_cases h2 : wof r = 2
   ·rw [if_pos h2]; exact whole_two ha' h2
   ·rw [if_neg h2] at h; exact absurd rfl h
 ·rw [if_neg ha] at h; exact absurd rfl h
theorem isOne_whole {L : List Cel} (h : isOneB L = true) : Whole L := by
 cases L with
 | nil => cases h
 | cons c l =>
  unfold isOneB at h
  rw [Bool.or_eq_true, Bool.and_eq_true] at h
  rcases h with ⟨h1, h2⟩ | h
  ·have hl : l = [] := by simpa using h1
   subst hl
   obtain ⟨r, n, a⟩ := c
   unfold isB at h2
   simp at h2
   obtain ⟨⟨rfl, rfl⟩, rfl⟩ := h2
   exact whole_pad
  ·have e : c :: l = ofL c.1 c.2.2 := by unfold eqL at h; exact of_decide_eq_true h
   rw [e]
   exact whole_of (by rw [← e]; simp)
theorem isOne_pad : isOneB [(0, 1, 0)] = true := by unfold isOneB isB; simp
theorem isOne_of {r a : Int} (h : ofL r a ≠ []) : isOneB (ofL r a) = true := by
 have e : ∃ n l, ofL r a = (r, n, a) :: l := by
  unfold ofL at h ⊢
  split
  ·split
   ·exact ⟨_, _, rfl⟩
   ·split
    ·exact ⟨_, _, rfl⟩
    ·simp_all
  ·simp_all
 obtain ⟨n, l, e⟩ := e
 rw [e]
 unfold isOneB
 rw [Bool.or_eq_true]
 right
 rw [e]
 unfold eqL
 exact decide_eq_true rfl
end Rw
namespace Rw
def blankN (x : Int) : Nat := (min (max x 0) 300).toNat
theorem hasC_full {w : World} {base g n : Nat} {l : List Cel} (h : RowIn' w g l []) (hg : base ≤ g) (hl : l.length = n) (hn : n ≤ 1099511627776) : HasC w base (.slice (some ⟨g, 0, none⟩) n n) l := by
 subst hl
 have hf := flat_length l
 refine ⟨hf, .inr ⟨g, l.length, _, rfl, hg, h.heap, Nat.le_refl _, by unfold maxLen; omega, ?_, ?_⟩⟩
 ·rw [List.append_nil, List.size_toArray, hf]
 ·rw [List.append_nil, ← hf]
  exact List.take_length
theorem rowBlank_walk (x : Int) (w : World) : Calls Tryz.prog 46 #[.int .i64 x] w fun e w' => ∃ g, e = .returned (.agg #[.slice (some ⟨g, 0, none⟩) (blankN x) (blankN x), .bool false]) ∧ HasC w' w.heap.size (.slice (some ⟨g, 0, none⟩) (blankN x) (blankN x)) (blanksL (blankN x)) ∧ Below w.heap.size w w' := by
 obtain ⟨k, hk⟩ : ∃ k, blankN x = k := ⟨_, rfl⟩
 have hk3 : k ≤ 300 := by rw [← hk]; unfold blankN; omega
 have hkx : min (max x 0) 300 = (k : Int) := by rw [← hk]; unfold blankN; omega
 rw [hk]
 have b1 := (Below.refl w.heap.size w).alloc (Nat.le_refl _) (.cells #[.slice none 0 0, .bool false] 58)
 have R1 := Lib.hid (show RowAt (w.alloc (.cells #[.slice none 0 0, .bool false] 58)) w.heap.size (.slice none 0 0) false from heap_alloc_new w _)
 have BW := Lib.hid (blanks_walk k (w.alloc (.cells #[.slice none 0 0, .bool false] 58)) (by omega))
 have B1 := Lib.hid b1
 have S1 := Lib.hid (show (w.alloc (.cells #[.slice none 0 0, .bool false] 58)).heap.size = w.heap.size + 1 by simp)
 clear b1 hk
 go_enter Tryz.func46, Tryz.ntmps46
 go_wp2_with fail
 obtain ⟨g1, hg1⟩ : ∃ g1, w.heap.size = g1 := ⟨_, rfl⟩
 have HG1 := Lib.hid hg1
 rw [hg1] at R1 ⊢
 generalize w.alloc (.cells #[.slice none 0 0, .bool false] 58) = w1 at R1 BW B1 S1 ⊢
 refine BW.out.mono ?_
 rintro e w2 ⟨g, rfl, hg, r2, b2⟩
 have R2 := Lib.hid (show RowAt w2 g1 (.slice none 0 0) false from (b2.block g1 R1.out.lt).trans R1.out)
 have B2 := Lib.hid (B1.out.trans (b2.mono B1.out.size))
 have hgw : w.heap.size + 1 ≤ g := by have := S1.out; omega
 have HC := Lib.hid (hasC_full (base := w.heap.size + 1) r2 hgw (blanksL_length k) (by omega))
 have z0 : w2.cell? ⟨g1, 0, none⟩ = some (.slice none 0 0) := R2.out.get 0
 have z1 : w2.cell? ⟨g1, 1, none⟩ = some (.bool false) := R2.out.get 1
 have zf0 := R2.out.free 0
 have zf1 := R2.out.free 1
 have RF := Lib.hid (RowAt.put2 R2.out (.slice (some ⟨g, 0, none⟩) k k) false)
 have OF := (OnlyRow.cell g1 0 w2 (.slice (some ⟨g, 0, none⟩) k k)).trans (OnlyRow.cell g1 1 _ (.bool false))
 have HF := Lib.hid (HasC.keep HC.out (fun j e => OF.block j (by have := (HasC.lt HC.out j e).1; have := HG1.out; omega)))
 have BF := Lib.hid (B2.out.trans ((Turned.ofOnly OF).toBelow B2.out.size (fun q hq e => by have := HG1.out; omega)))
 clear OF r2 b2 hg hg1
 go_wp2
 generalize (w2.setCell ⟨g1, 0, none⟩ (.slice (some ⟨g, 0, none⟩) k k)).setCell ⟨g1, 1, none⟩ (.bool false) = wz at RF HF BF ⊢
 have e0 : wz.cell? ⟨g1, 0, none⟩ = some (.slice (some ⟨g, 0, none⟩) k k) := RF.out.get 0
 have e1 : wz.cell? ⟨g1, 1, none⟩ = some (.bool false) := RF.out.get 1
 exact bodyPost_ret (v := .agg #[.slice (some ⟨g, 0, none⟩) k k, .bool false]) (by simp [results, Tryz.results46, go_sem, e0, e1]) rfl ⟨g, rfl, HasC.mono HF.out (Nat.le_succ _), BF.out⟩
end Rw
