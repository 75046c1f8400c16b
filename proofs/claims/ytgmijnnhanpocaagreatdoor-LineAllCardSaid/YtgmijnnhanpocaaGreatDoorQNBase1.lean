/-
  pack.May of any row. The arguments of the statements of layers 4 to 6 that hold rows: a cell by value, a row, a list of rows. One row out of a slice of rows that came in. Places that came in: a slice of them. A spot that came in. The settled world, the table of widths as its initialiser lays it; what every card of this seat asks of the whole program, looked through once. A long statement whose operations come one behind the other: how it is gone through step by step, over a frame of which only some slots are known. (Over any program.) pack.follows: does a cell go on with the run at the end of a list of cells? Are two lists of cells the same, are two rows? slices.Equal at cells, the reference's EqCells; pack.Eq, the reference's EqRow.
-/
import Derived.Test.YtgmijnnhanpocaaGreatDoorQNBase0
import Derived.Deep.QuietTactic
import Derived.BigQuiet
import Derived.Test.YtgmijnnhanpocaaGreatDoorCards
import Derived.Test.YtgmijnnhanpocaaGreatDoorTie
import Derived.ClosedOfChecked
import Derived.Test.YtgmijnnhanpocaaGreatDoorRows
import Derived.WalkKit
import Derived.ProofKit
import Derived.OpenShut
import Derived.OrdersHeld
import Derived.Deep.RegionHeld
import Derived.Lib.Hide
import Derived.IntWalk
namespace Go.Proofs.YtgmijnnhanpocaaGreatDoor
open Go.ChangeShapes Go.WideShapes Go.ChangeAt Go.RowKit
abbrev rowV (A : Option Addr) (n c : Nat) (wrap : Bool) : Value := .agg #[.slice A n c, .bool wrap]
def CellAt (w : World) (g : Nat) (c : Cel) : Prop := w.heap[g]? = some (.cells #[.int .i32 c.1, .int .i64 c.2.1, .int .i64 c.2.2] 50 (0, 0))
theorem CellAt.get {w : World} {g : Nat} {c : Cel} (h : CellAt w g c) (j : Nat) : w.cell? ⟨g, j, none⟩ = #[Value.int .i32 c.1, .int .i64 c.2.1, .int .i64 c.2.2][j]? := cell_of_row w g j _ _ (0, 0) h
theorem CellAt.lt {w : World} {g : Nat} {c : Cel} (h : CellAt w g c) : g < w.heap.size := (Array.getElem?_eq_some_iff.1 h).1
theorem CellAt.free {w : World} {g : Nat} {c : Cel} (h : CellAt w g c) (j : Nat) : w.frozen? ⟨g, j, none⟩ = false := by
 unfold CellAt at h
 simp [World.frozen?, h]
theorem CellAt.below {w w' : World} {g B : Nat} {c : Cel} (h : CellAt w g c) (hb : Below B w w') (hg : g < B) : CellAt w' g c := (hb.block g hg).trans h
theorem cellAt_put {w : World} {g : Nat} {c : Cel} (h : CellAt w g c) (r m a : Int) : CellAt (((w.setCell ⟨g, 0, none⟩ (.int .i32 r)).setCell ⟨g, 1, none⟩ (.int .i64 m)).setCell ⟨g, 2, none⟩ (.int .i64 a)) g (r, m, a) := by
 have h0 := heap_setCell_same w g 0 _ _ (.int .i32 r) h
 have h1 := heap_setCell_same _ g 1 _ _ (.int .i64 m) h0
 have h2 := heap_setCell_same _ g 2 _ _ (.int .i64 a) h1
 exact h2
set_option maxRecDepth 100000 in
set_option maxHeartbeats 3200000 in
theorem packMay_any (A : Option Addr) (n c : Nat) (wrap : Bool) (l : List Cel) (w : World) (hs : Spans w) (hl : ∀ c ∈ l, -2147483648 ≤ c.1 ∧ c.1 ≤ 2147483647) (hq : Sq w w.heap.size 3 n A (flat l)) :
  Calls Tryz.prog 112 #[rowV A n c wrap] w fun e w' => e = .returned (.bool (mayL l)) ∧ Below w.heap.size w w' := by
 have hln : l.length = n := by have := hq.len; rw [flat_length] at this; omega
 have LN := Lib.hid hln
 have S := Lib.hid hs
 have Q := Lib.hid hq
 have HS := Lib.hid hl
 clear hs hq hl
 by_cases h300 : 300 < n
 ·have E : mayL l = false := by unfold mayL; simp [hln, show ¬ n ≤ 300 by omega]
  rw [E]
  clear E hln
  go_enter Tryz.func112, Tryz.ntmps112
  go_wp2_with fail
  go_ret
  exact ⟨rfl, (Below.refl _ _).alloc (Nat.le_refl _) _⟩
 ·have E : mayL l = mayGo (32, 1, 0) l := by unfold mayL; simp [hln, show n ≤ 300 by omega]
  have EH := Lib.hid E
  rw [E]
  clear E hln
  go_enter Tryz.func112, Tryz.ntmps112
  go_wp2_with fail
  refine (blank_walk _).mono ?_
  rintro e w2 ⟨rfl, b2⟩
  have B2 := Lib.hid (((Below.refl w.heap.size w).alloc (Nat.le_refl _) _).trans (b2.mono (by simp)))
  have hz2 := b2.size
  simp at hz2
  have hc0 : w2.cell? ⟨w.heap.size, 0, none⟩ = some (.slice A n c) := (b2.cell (p := ⟨w.heap.size, 0, none⟩) (by simp)).trans (by rw [cell_of_row _ _ 0 _ _ (0, 0) (heap_alloc_new w _)]; rfl)
  clear b2
  have hz2' : w.heap.size ≤ w2.heap.size := by omega
  have hc1 : (w2.alloc (.cells #[.int .i32 32, .int .i64 1, .int .i64 0] 50)).cell? ⟨w.heap.size, 0, none⟩ = some (.slice A n c) := (World.cell?_alloc_lt _ _ _ (by show w.heap.size < w2.heap.size; omega)).trans hc0
  have CA := Lib.hid (show CellAt (w2.alloc (.cells #[.int .i32 32, .int .i64 1, .int .i64 0] 50)) w2.heap.size (32, 1, 0) from heap_alloc_new w2 _)
  have B3 := Lib.hid (B2.out.alloc (by omega) (.cells #[.int .i32 32, .int .i64 1, .int .i64 0] 50))
  go_wp2_with fail
  clear hc0 hc1
  generalize w2.alloc (.cells #[.int .i32 32, .int .i64 1, .int .i64 0] 50) = w3 at CA B3 ⊢
  go_loopw [16] (fun i wr => ∃ (k : Nat) (p : Cel), i = .int .i64 k ∧ k ≤ n ∧ CellAt wr w2.heap.size p ∧ Below w.heap.size w wr ∧ Hid (mayGo p (l.drop k) = mayGo (32, 1, 0) l)) (fun i _ => n - (intOf i).toNat)
  case atStart => exact ⟨0, (32, 1, 0), rfl, Nat.zero_le _, CA.out, B3.out, Lib.hid rfl⟩
  case round =>
   obtain ⟨k, ⟨pr, pn, pa⟩, rfl, hk, hp, hb, MG⟩ := hrel
   have p0 : wr.cell? ⟨w2.heap.size, 0, none⟩ = some (.int .i32 pr) := hp.get 0
   have p1 : wr.cell? ⟨w2.heap.size, 1, none⟩ = some (.int .i64 pn) := hp.get 1
   have p2 : wr.cell? ⟨w2.heap.size, 2, none⟩ = some (.int .i64 pa) := hp.get 2
   have PF := Lib.hid hp
   have hpl := hp.lt
   have HB := Lib.hid hb
   have hsz := hb.size
   by_cases hlt : k < n
   ·obtain ⟨b, off, rfl, hbb, ⟨r, m, a⟩, hcc, q0, q1, q2⟩ := (Q.out.below hb).three hlt
    have hx := HS.out _ (List.mem_of_getElem? hcc)
    simp only at hx
    have hd : l.drop k = (r, m, a) :: l.drop (k + 1) := by
     obtain ⟨h1, h2⟩ := List.getElem?_eq_some_iff.1 hcc
     rw [List.drop_eq_getElem_cons h1, h2]
    have STEP := Lib.hid (show mayGo (pr, pn, pa) (l.drop k) = (mayB (r, m, a) && ((pn == 2) == (m == 0)) && (!(m == 0) || a == pa) && mayGo (r, m, a) (l.drop (k + 1))) by rw [hd]; rfl)
    clear hp hb hcc hd
    have CC := Lib.hid (show CellAt (wr.alloc (.cells #[.int .i32 r, .int .i64 m, .int .i64 a] 50)) wr.heap.size (r, m, a) from heap_alloc_new wr _)
    have PP := Lib.hid (PF.out.below ((Below.refl wr.heap.size wr).alloc (Nat.le_refl _) (.cells #[.int .i32 r, .int .i64 m, .int .i64 a] 50)) hpl)
    have B4 := Lib.hid (HB.out.alloc hsz (.cells #[.int .i32 r, .int .i64 m, .int .i64 a] 50))
    have hz4 : (wr.alloc (.cells #[.int .i32 r, .int .i64 m, .int .i64 a] 50)).heap.size = wr.heap.size + 1 := by simp
    have Z4 := Lib.hid hz4
    clear hz4
    obtain ⟨B, hB⟩ : ∃ B, mayB (r, m, a) = B := ⟨_, rfl⟩
    have MB := Lib.hid (fun w hs => may_any r m a hx.1 hx.2 w hs)
    rw [hB] at MB STEP
    clear hB
    go_wp2_with fail
    generalize wr.alloc (.cells #[.int .i32 r, .int .i64 m, .int .i64 a] 50) = w4 at CC PP B4 Z4 ⊢
    clear p0 p1 p2 q0 q1 q2
    have c0 : w4.cell? ⟨wr.heap.size, 0, none⟩ = some (.int .i32 r) := CC.out.get 0
    have c1 : w4.cell? ⟨wr.heap.size, 1, none⟩ = some (.int .i64 m) := CC.out.get 1
    have c2 : w4.cell? ⟨wr.heap.size, 2, none⟩ = some (.int .i64 a) := CC.out.get 2
    have p1 : w4.cell? ⟨w2.heap.size, 1, none⟩ = some (.int .i64 pn) := PP.out.get 1
    have s4 := Z4.out
    cases B
    ·have tok := True.intro
     go_quiet (fail)
     go_wp2_with fail
     refine (MB.out _ (S.out.below (show Below w.heap.size w (w4.drewN _) from ⟨B4.out.os, B4.out.tape, B4.out.output, B4.out.size, B4.out.block⟩) S.out.size)).mono ?_
     rintro e w6 ⟨rfl, b6⟩
     have b6' : Below w4.heap.size w4 w6 := ⟨b6.os, b6.tape, b6.output, b6.size, b6.block⟩
     have C6 := Lib.hid (CC.out.below b6' CC.out.lt)
     have P6 := Lib.hid (PP.out.below b6' PP.out.lt)
     have B6 := Lib.hid (B4.out.trans (b6'.mono B4.out.size))
     have k0 : w6.cell? ⟨wr.heap.size, 0, none⟩ = some (.int .i32 r) := C6.out.get 0
     have k1 : w6.cell? ⟨wr.heap.size, 1, none⟩ = some (.int .i64 m) := C6.out.get 1
     have k2 : w6.cell? ⟨wr.heap.size, 2, none⟩ = some (.int .i64 a) := C6.out.get 2
     have l0 : w6.cell? ⟨w2.heap.size, 0, none⟩ = some (.int .i32 pr) := P6.out.get 0
     have l1 : w6.cell? ⟨w2.heap.size, 1, none⟩ = some (.int .i64 pn) := P6.out.get 1
     have l2 : w6.cell? ⟨w2.heap.size, 2, none⟩ = some (.int .i64 pa) := P6.out.get 2
     have g0 := P6.out.free 0
     have g1 := P6.out.free 1
     have g2 := P6.out.free 2
     clear b6 b6' c0 c1 c2 p1
     have RF := Lib.hid (show mayGo (32, 1, 0) l = false by rw [← MG.out, STEP.out]; simp)
     go_wp2
     go_ret
     exact ⟨ret_bool RF.out.symm, B6.out⟩
    ·cases e2 : (pn == 2) <;> cases e3 : (m == 0)
     ·have tok := True.intro
      go_quiet (fail)
      go_wp2_with fail
      refine (MB.out _ (S.out.below (show Below w.heap.size w (w4.drewN _) from ⟨B4.out.os, B4.out.tape, B4.out.output, B4.out.size, B4.out.block⟩) S.out.size)).mono ?_
      rintro e w6 ⟨rfl, b6⟩
      have b6' : Below w4.heap.size w4 w6 := ⟨b6.os, b6.tape, b6.output, b6.size, b6.block⟩
      have C6 := Lib.hid (CC.out.below b6' CC.out.lt)
      have P6 := Lib.hid (PP.out.below b6' PP.out.lt)
      have B6 := Lib.hid (B4.out.trans (b6'.mono B4.out.size))
      have k0 : w6.cell? ⟨wr.heap.size, 0, none⟩ = some (.int .i32 r) := C6.out.get 0
      have k1 : w6.cell? ⟨wr.heap.size, 1, none⟩ = some (.int .i64 m) := C6.out.get 1
      have k2 : w6.cell? ⟨wr.heap.size, 2, none⟩ = some (.int .i64 a) := C6.out.get 2
      have l0 : w6.cell? ⟨w2.heap.size, 0, none⟩ = some (.int .i32 pr) := P6.out.get 0
      have l1 : w6.cell? ⟨w2.heap.size, 1, none⟩ = some (.int .i64 pn) := P6.out.get 1
      have l2 : w6.cell? ⟨w2.heap.size, 2, none⟩ = some (.int .i64 pa) := P6.out.get 2
      have g0 := P6.out.free 0
      have g1 := P6.out.free 1
      have g2 := P6.out.free 2
      clear b6 b6' c0 c1 c2 p1
      have RN := Lib.hid (show mayGo (r, m, a) (l.drop (k + 1)) = mayGo (32, 1, 0) l by rw [← MG.out, STEP.out, e2, e3]; simp)
      have N6 := Lib.hid (cellAt_put P6.out r m a)
      have M6 := Lib.hid ((((B6.out.setCell (p := ⟨w2.heap.size, 0, none⟩) hz2' (.int .i32 r)).setCell (p := ⟨w2.heap.size, 1, none⟩) hz2' (.int .i64 m)).setCell (p := ⟨w2.heap.size, 2, none⟩) hz2' (.int .i64 a)))
      go_wp2
      go_roundw
      case rel => exact ⟨k + 1, (r, m, a), by go_num, by omega, N6.out, M6.out, RN⟩
      case measure => simp [intOf]; omega
     ·have tok := True.intro
      go_quiet (fail)
      go_wp2_with fail
      refine (MB.out _ (S.out.below (show Below w.heap.size w (w4.drewN _) from ⟨B4.out.os, B4.out.tape, B4.out.output, B4.out.size, B4.out.block⟩) S.out.size)).mono ?_
      rintro e w6 ⟨rfl, b6⟩
      have b6' : Below w4.heap.size w4 w6 := ⟨b6.os, b6.tape, b6.output, b6.size, b6.block⟩
      have C6 := Lib.hid (CC.out.below b6' CC.out.lt)
      have P6 := Lib.hid (PP.out.below b6' PP.out.lt)
      have B6 := Lib.hid (B4.out.trans (b6'.mono B4.out.size))
      have k0 : w6.cell? ⟨wr.heap.size, 0, none⟩ = some (.int .i32 r) := C6.out.get 0
      have k1 : w6.cell? ⟨wr.heap.size, 1, none⟩ = some (.int .i64 m) := C6.out.get 1
      have k2 : w6.cell? ⟨wr.heap.size, 2, none⟩ = some (.int .i64 a) := C6.out.get 2
      have l0 : w6.cell? ⟨w2.heap.size, 0, none⟩ = some (.int .i32 pr) := P6.out.get 0
      have l1 : w6.cell? ⟨w2.heap.size, 1, none⟩ = some (.int .i64 pn) := P6.out.get 1
      have l2 : w6.cell? ⟨w2.heap.size, 2, none⟩ = some (.int .i64 pa) := P6.out.get 2
      have g0 := P6.out.free 0
      have g1 := P6.out.free 1
      have g2 := P6.out.free 2
      clear b6 b6' c0 c1 c2 p1
      have RF := Lib.hid (show mayGo (32, 1, 0) l = false by rw [← MG.out, STEP.out, e2, e3]; simp)
      go_wp2
      go_ret
      exact ⟨ret_bool RF.out.symm, B6.out⟩
     ·have tok := True.intro
      go_quiet (fail)
      go_wp2_with fail
      refine (MB.out _ (S.out.below (show Below w.heap.size w (w4.drewN _) from ⟨B4.out.os, B4.out.tape, B4.out.output, B4.out.size, B4.out.block⟩) S.out.size)).mono ?_
      rintro e w6 ⟨rfl, b6⟩
      have b6' : Below w4.heap.size w4 w6 := ⟨b6.os, b6.tape, b6.output, b6.size, b6.block⟩
      have C6 := Lib.hid (CC.out.below b6' CC.out.lt)
      have P6 := Lib.hid (PP.out.below b6' PP.out.lt)
      have B6 := Lib.hid (B4.out.trans (b6'.mono B4.out.size))
      have k0 : w6.cell? ⟨wr.heap.size, 0, none⟩ = some (.int .i32 r) := C6.out.get 0
      have k1 : w6.cell? ⟨wr.heap.size, 1, none⟩ = some (.int .i64 m) := C6.out.get 1
      have k2 : w6.cell? ⟨wr.heap.size, 2, none⟩ = some (.int .i64 a) := C6.out.get 2
      have l0 : w6.cell? ⟨w2.heap.size, 0, none⟩ = some (.int .i32 pr) := P6.out.get 0
      have l1 : w6.cell? ⟨w2.heap.size, 1, none⟩ = some (.int .i64 pn) := P6.out.get 1
      have l2 : w6.cell? ⟨w2.heap.size, 2, none⟩ = some (.int .i64 pa) := P6.out.get 2
      have g0 := P6.out.free 0
      have g1 := P6.out.free 1
      have g2 := P6.out.free 2
      clear b6 b6' c0 c1 c2 p1
      have RF := Lib.hid (show mayGo (32, 1, 0) l = false by rw [← MG.out, STEP.out, e2, e3]; simp)
      go_wp2
      go_ret
      exact ⟨ret_bool RF.out.symm, B6.out⟩
     ·cases e4 : (a == pa)
      ·have e5 : (a != pa) = true := by simpa using e4
       go_quiet (fail)
       go_wp2_with fail
       refine (MB.out _ (S.out.below (show Below w.heap.size w (w4.drewN _) from ⟨B4.out.os, B4.out.tape, B4.out.output, B4.out.size, B4.out.block⟩) S.out.size)).mono ?_
       rintro e w6 ⟨rfl, b6⟩
       have b6' : Below w4.heap.size w4 w6 := ⟨b6.os, b6.tape, b6.output, b6.size, b6.block⟩
       have C6 := Lib.hid (CC.out.below b6' CC.out.lt)
       have P6 := Lib.hid (PP.out.below b6' PP.out.lt)
       have B6 := Lib.hid (B4.out.trans (b6'.mono B4.out.size))
       have k0 : w6.cell? ⟨wr.heap.size, 0, none⟩ = some (.int .i32 r) := C6.out.get 0
       have k1 : w6.cell? ⟨wr.heap.size, 1, none⟩ = some (.int .i64 m) := C6.out.get 1
       have k2 : w6.cell? ⟨wr.heap.size, 2, none⟩ = some (.int .i64 a) := C6.out.get 2
       have l0 : w6.cell? ⟨w2.heap.size, 0, none⟩ = some (.int .i32 pr) := P6.out.get 0
       have l1 : w6.cell? ⟨w2.heap.size, 1, none⟩ = some (.int .i64 pn) := P6.out.get 1
       have l2 : w6.cell? ⟨w2.heap.size, 2, none⟩ = some (.int .i64 pa) := P6.out.get 2
       have g0 := P6.out.free 0
       have g1 := P6.out.free 1
       have g2 := P6.out.free 2
       clear b6 b6' c0 c1 c2 p1
       have RF := Lib.hid (show mayGo (32, 1, 0) l = false by rw [← MG.out, STEP.out, e2, e3, e4]; simp)
       go_wp2
       go_ret
       exact ⟨ret_bool RF.out.symm, B6.out⟩
      ·have e5 : (a != pa) = false := by simpa using e4
       go_quiet (fail)
       go_wp2_with fail
       refine (MB.out _ (S.out.below (show Below w.heap.size w (w4.drewN _) from ⟨B4.out.os, B4.out.tape, B4.out.output, B4.out.size, B4.out.block⟩) S.out.size)).mono ?_
       rintro e w6 ⟨rfl, b6⟩
       have b6' : Below w4.heap.size w4 w6 := ⟨b6.os, b6.tape, b6.output, b6.size, b6.block⟩
       have C6 := Lib.hid (CC.out.below b6' CC.out.lt)
       have P6 := Lib.hid (PP.out.below b6' PP.out.lt)
       have B6 := Lib.hid (B4.out.trans (b6'.mono B4.out.size))
       have k0 : w6.cell? ⟨wr.heap.size, 0, none⟩ = some (.int .i32 r) := C6.out.get 0
       have k1 : w6.cell? ⟨wr.heap.size, 1, none⟩ = some (.int .i64 m) := C6.out.get 1
       have k2 : w6.cell? ⟨wr.heap.size, 2, none⟩ = some (.int .i64 a) := C6.out.get 2
       have l0 : w6.cell? ⟨w2.heap.size, 0, none⟩ = some (.int .i32 pr) := P6.out.get 0
       have l1 : w6.cell? ⟨w2.heap.size, 1, none⟩ = some (.int .i64 pn) := P6.out.get 1
       have l2 : w6.cell? ⟨w2.heap.size, 2, none⟩ = some (.int .i64 pa) := P6.out.get 2
       have g0 := P6.out.free 0
       have g1 := P6.out.free 1
       have g2 := P6.out.free 2
       clear b6 b6' c0 c1 c2 p1
       have RN := Lib.hid (show mayGo (r, m, a) (l.drop (k + 1)) = mayGo (32, 1, 0) l by rw [← MG.out, STEP.out, e2, e3, e4]; simp)
       have N6 := Lib.hid (cellAt_put P6.out r m a)
       have M6 := Lib.hid ((((B6.out.setCell (p := ⟨w2.heap.size, 0, none⟩) hz2' (.int .i32 r)).setCell (p := ⟨w2.heap.size, 1, none⟩) hz2' (.int .i64 m)).setCell (p := ⟨w2.heap.size, 2, none⟩) hz2' (.int .i64 a)))
       go_wp2
       go_roundw
       case rel => exact ⟨k + 1, (r, m, a), by go_num, by omega, N6.out, M6.out, RN⟩
       case measure => simp [intOf]; omega
   ·have hk' : k = n := by omega
    have EN := Lib.hid (show mayGo (32, 1, 0) l = !(pn == 2) by rw [← MG.out, List.drop_eq_nil_of_le (by have := LN.out; omega)]; rfl)
    clear hp hb hk' p0 p2
    cases e2 : (pn == 2)
    ·have e5 : (pn != 2) = true := by simpa using e2
     have E2 := Lib.hid e2
     go_wp2
     go_ret
     exact ⟨ret_bool (a := true) (by rw [EN.out, E2.out]; rfl), HB.out⟩
    ·have e5 : (pn != 2) = false := by simpa using e2
     have E2 := Lib.hid e2
     go_wp2
     go_ret
     exact ⟨ret_bool (a := false) (by rw [EN.out, E2.out]; rfl), HB.out⟩
end Go.Proofs.YtgmijnnhanpocaaGreatDoor
namespace Go.Proofs.YtgmijnnhanpocaaGreatDoor
open Go.ChangeShapes Go.WideShapes Go.ChangeAt Go.RowKit
theorem cellsRow : Tryz.prog.cellsOf 48 = 2 := by kernel_rfl
theorem cellsSl : Tryz.prog.cellsOf 46 = 1 := by kernel_rfl
theorem cellsBool : Tryz.prog.cellsOf 4 = 1 := by kernel_rfl
theorem flatMap_at {α : Type} (f : α → List Value) (s : Nat) (hs : ∀ x, (f x).length = s) : ∀ (l : List α) (j : Nat) (u : Value), (l.flatMap f)[j]? = some u → ∃ (i : Nat) (hi : i < l.length) (k : Nat), j = i * s + k ∧ (f l[i])[k]? = some u
 | [], j, u, h => by simp at h
 | x :: l, j, u, h => by
  rw [List.flatMap_cons, List.getElem?_append] at h
  split at h
  ·exact ⟨0, by simp, j, by omega, h⟩
  ·rename_i hj
   rw [hs] at h hj
   obtain ⟨i, hi, k, e, hk⟩ := flatMap_at f s hs l _ u h
   refine ⟨i + 1, by simpa using hi, k, ?_, hk⟩
   rw [Nat.succ_mul]
   omega
theorem flatMap_len {α : Type} (f : α → List Value) (s : Nat) (hs : ∀ x, (f x).length = s) : ∀ (l : List α), (l.flatMap f).length = l.length * s
 | [] => by simp
 | x :: l => by rw [List.flatMap_cons, List.length_append, hs, flatMap_len f s hs l, List.length_cons, Nat.succ_mul, Nat.add_comm]
theorem sq_of_each {α : Type} (f : α → List Value) (s : Nat) (hs : ∀ x, (f x).length = s) (hs0 : 0 < s) {W : World} {a : Addr} {l : List α} {len : Nat} (hl : l.length = len)
  (h : ∀ (i : Nat) (hi : i < l.length) (k : Nat) (u : Value), (f l[i])[k]? = some u → W.cell? ((a.add (i * s)).add k) = some u) : Sq W W.heap.size s len (some a) (l.flatMap f) := by
 refine ⟨?_, fun hn => ?_⟩
 ·rw [flatMap_len f s hs, hl]
 ·have hi0 : 0 < l.length := by omega
  obtain ⟨u0, hu0⟩ : ∃ u, (f (l[0]'hi0))[0]? = some u := ⟨_, List.getElem?_eq_getElem (by rw [hs]; exact hs0)⟩
  have h0 := h 0 hi0 0 u0 hu0
  obtain ⟨b, off, spot⟩ := a
  have hspot : spot = none := by
   have := World.cell?_spot h0
   revert this
   unfold Addr.add
   simp
  subst hspot
  have hb := World.block_lt_of_cell? W _ h0
  simp only [Nat.zero_mul, add_at] at hb
  refine ⟨b, off, rfl, hb, fun j u hu => ?_⟩
  obtain ⟨i, hi, k, rfl, hk⟩ := flatMap_at f s hs l j u hu
  have := h i hi k u hk
  simp only [add_at] at this
  rw [← Nat.add_assoc]
  exact this
section
variable {H : Type} {enc : TypeId × Value → H} {w W : World} {base : Nat} {sp : Nat → Bool} {held : Bool}
set_option maxRecDepth 100000 in
theorem slice_parts {fuel : Nat} {cs : List Value} {x : DataW H × List MemPlace} (hf : DataW.trod enc Tryz.prog W base sp held fuel 46 cs = some x) :
  ∃ A n c l, cs = [.slice A n c] ∧ n ≤ c ∧ c ≤ maxLen ∧ (∀ c ∈ l, -2147483648 ≤ c.1 ∧ c.1 ≤ 2147483647) ∧ Sq W W.heap.size 3 n A (flat l) := by
 rcases DataW.trod_slice Tryz.underlying46 hf with ⟨hcs, _⟩ | ⟨a, len, cap, elems, rest, m, _, hcs, _, _, hl, hm, hlen, hel, _, _⟩
 ·exact ⟨none, 0, 0, [], hcs, Nat.le_refl _, Nat.zero_le _, (fun r h => by cases h), Sq.nothing _ _ _ _⟩
 ·have each : ∀ i, i < len → ∃ t : Int × Int × Int, (-2147483648 ≤ t.1 ∧ t.1 ≤ 2147483647) ∧ W.cell? ((a.add (i * 3)).add 0) = some (.int .i32 t.1) ∧ W.cell? ((a.add (i * 3)).add 1) = some (.int .i64 t.2.1) ∧ W.cell? ((a.add (i * 3)).add 2) = some (.int .i64 t.2.2) := by
   intro i hi
   have h1 := hel i hi
   rw [List.getElem?_eq_getElem (by omega), cellsCell, Option.bind_eq_some_iff] at h1
   obtain ⟨cs, hc, ht⟩ := h1
   obtain ⟨r, n, b, rfl, hr0, hr1⟩ := cell_parts ht
   obtain ⟨_, _, hcell⟩ := World.cells?_some hc
   exact ⟨(r, n, b), ⟨hr0, hr1⟩, hcell 0 (by omega), hcell 1 (by omega), hcell 2 (by omega)⟩
  obtain ⟨l, hll, hp⟩ := exists_list each
  refine ⟨some a, len, cap, l, hcs, hl, hm, fun t ht => ?_, ⟨by rw [flat_length, hll], fun hn => ?_⟩⟩
  ·obtain ⟨i, hi, rfl⟩ := List.mem_iff_getElem.1 ht
   exact (hp i hi).1
  ·have h0 := (hp 0 (by omega)).2.1
   obtain ⟨b, off, spot⟩ := a
   have hspot : spot = none := by
    have := World.cell?_spot h0
    revert this
    unfold Addr.add
    simp
   subst hspot
   have hb := World.block_lt_of_cell? W _ h0
   simp only [Nat.zero_mul, add_at] at hb
   refine ⟨b, off, rfl, hb, fun j u hu => ?_⟩
   obtain ⟨i, hi, hh⟩ := flat_at l j u hu
   have k := (hp i hi).2
   simp only [add_at] at k
   rcases hh with ⟨rfl, rfl⟩ | ⟨rfl, rfl⟩ | ⟨rfl, rfl⟩
   ·exact k.1
   ·rw [← Nat.add_assoc]; exact k.2.1
   ·rw [← Nat.add_assoc]; exact k.2.2
structure RowIn where
 A : Option Addr
 n : Nat
 c : Nat
 wrap : Bool
 l : List Cel
structure RowIn.Ok (W : World) (B : Nat) (x : RowIn) : Prop where
 le : x.n ≤ x.c
 cap : x.c ≤ maxLen
 signs : ∀ c ∈ x.l, -2147483648 ≤ c.1 ∧ c.1 ≤ 2147483647
 sq : Sq W B 3 x.n x.A (flat x.l)
def RowIn.vals (x : RowIn) : List Value := [.slice x.A x.n x.c, .bool x.wrap]
theorem RowIn.Ok.below {W W' : World} {B : Nat} {x : RowIn} (h : x.Ok W B) (hb : Below B W W') : x.Ok W' B := ⟨h.le, h.cap, h.signs, h.sq.below hb⟩
theorem RowIn.Ok.up {W : World} {B B' : Nat} {x : RowIn} (h : x.Ok W B) (hb : B ≤ B') : x.Ok W B' := ⟨h.le, h.cap, h.signs, h.sq.up hb⟩
set_option maxRecDepth 100000 in
theorem row_parts {fuel : Nat} {cs : List Value} {x : DataW H × List MemPlace} (h : DataW.trod enc Tryz.prog W base sp held fuel 48 cs = some x) :
  ∃ r : RowIn, cs = r.vals ∧ r.Ok W W.heap.size := by
 obtain ⟨xs, m, rfl, rfl, hl, hn, hf⟩ := DataW.trod_struct Tryz.underlying48 h
 rw [cellsRow] at hl
 match cs, hl with
 | [c0, c1], _ =>
  have f0 : DataW.trod enc Tryz.prog W base sp held m 46 [c0] = xs[0]? := by have := hf 0 _ rfl; simpa [cellsSl] using this
  have f1 : DataW.trod enc Tryz.prog W base sp held m 4 [c1] = xs[1]? := by have := hf 1 _ rfl; simpa [cellsBool] using this
  match xs, hn with
  | [x0, x1], _ =>
   simp only [List.getElem?_cons_zero, List.getElem?_cons_succ] at f0 f1
   obtain ⟨A, n, c, l, e0, h1, h2, h3, h4⟩ := slice_parts f0
   obtain ⟨b, e1, _⟩ := DataW.trod_bool Tryz.underlying4 f1
   simp at e0 e1
   exact ⟨⟨A, n, c, b, l⟩, by rw [e0, e1]; rfl, h1, h2, h3, h4⟩
set_option maxRecDepth 100000 in
theorem open_rows {v : Value} {d : DataW H} {p : List MemPlace} (hok : Value.okWide Tryz.prog W .any base 22 v) (h : DataW.Trod enc Tryz.prog W 0 (fun _ => true) true 22 v d p) :
  ∃ (A : Option Addr) (n c : Nat) (l : List RowIn), v = .slice A n c ∧ n ≤ c ∧ c ≤ maxLen ∧ (∀ r ∈ l, r.Ok W W.heap.size) ∧ Sq W W.heap.size 2 n A (l.flatMap RowIn.vals) := by
 obtain ⟨a0, len, cap, rfl⟩ := okWide_slice Tryz.underlying22 hok
 obtain ⟨fuel, hf⟩ := h
 rcases DataW.trod_slice Tryz.underlying22 hf with ⟨hcs, _⟩ | ⟨a, len', cap', elems, rest, m, _, hcs, _, _, hl, hm, hlen, hel, _, _⟩
 ·simp only [Value.cells, List.cons.injEq, Value.slice.injEq, and_true] at hcs
  obtain ⟨rfl, rfl, rfl⟩ := hcs
  exact ⟨none, 0, 0, [], rfl, Nat.le_refl _, Nat.zero_le _, (fun r h => by cases h), Sq.nothing _ _ _ _⟩
 ·simp only [Value.cells, List.cons.injEq, Value.slice.injEq, and_true] at hcs
  obtain ⟨rfl, rfl, rfl⟩ := hcs
  have each : ∀ i, i < len → ∃ t : RowIn, t.Ok W W.heap.size ∧ ∀ (k : Nat) (u : Value), t.vals[k]? = some u → W.cell? ((a.add (i * 2)).add k) = some u := by
   intro i hi
   have h1 := hel i hi
   rw [List.getElem?_eq_getElem (by omega), cellsRow, Option.bind_eq_some_iff] at h1
   obtain ⟨cs, hc, ht⟩ := h1
   obtain ⟨r, rfl, hr⟩ := row_parts ht
   obtain ⟨_, _, hcell⟩ := World.cells?_some hc
   refine ⟨r, hr, fun k u hu => ?_⟩
   have hk : k < 2 := by have := (List.getElem?_eq_some_iff.1 hu).1; simpa [RowIn.vals] using this
   rw [hcell k hk]
   exact hu
  obtain ⟨l, hll, hp⟩ := exists_list each
  exact ⟨some a, len, cap, l, rfl, hl, hm, fun r hr => by obtain ⟨i, hi, rfl⟩ := List.mem_iff_getElem.1 hr; exact (hp i hi).1, sq_of_each RowIn.vals 2 (fun _ => rfl) (by omega) hll fun i hi k u hu => (hp i hi).2 k u hu⟩
end
end Go.Proofs.YtgmijnnhanpocaaGreatDoor
namespace Go.Proofs.YtgmijnnhanpocaaGreatDoor
open Go.ChangeShapes Go.WideShapes Go.ChangeAt Go.RowKit
theorem flatMap_get {α : Type} (f : α → List Value) (s : Nat) (hs : ∀ x, (f x).length = s) : ∀ (l : List α) (k : Nat) (x : α), l[k]? = some x → ∀ (j : Nat) (u : Value), (f x)[j]? = some u → (l.flatMap f)[k * s + j]? = some u
 | [], k, x, h, _, _, _ => by simp at h
 | y :: l, 0, x, h, j, u, hu => by
  simp at h
  subst h
  rw [List.flatMap_cons, Nat.zero_mul, Nat.zero_add, List.getElem?_append_left (List.getElem?_eq_some_iff.1 hu).1]
  exact hu
 | y :: l, k + 1, x, h, j, u, hu => by
  have ih := flatMap_get f s hs l k x (by simpa using h) j u hu
  rw [List.flatMap_cons, List.getElem?_append_right (by rw [hs, Nat.succ_mul]; omega), hs, show (k + 1) * s + j - s = k * s + j by rw [Nat.succ_mul]; omega]
  exact ih
theorem rows_at {W : World} {B n k : Nat} {A : Option Addr} {l : List RowIn} {r : RowIn} (hq : Sq W B 2 n A (l.flatMap RowIn.vals)) (hr : l[k]? = some r) (hk : k < n) :
  ∃ b off, A = some ⟨b, off, none⟩ ∧ b < B ∧ W.cell? ⟨b, off + k * 2, none⟩ = some (.slice r.A r.n r.c) ∧ W.cell? ⟨b, off + k * 2 + 1, none⟩ = some (.bool r.wrap) := by
 obtain ⟨b, off, e, hb, hc⟩ := hq.spot (by omega)
 have h0 := hc (k * 2 + 0) _ (flatMap_get RowIn.vals 2 (fun _ => rfl) l k r hr 0 _ rfl)
 have h1 := hc (k * 2 + 1) _ (flatMap_get RowIn.vals 2 (fun _ => rfl) l k r hr 1 _ rfl)
 exact ⟨b, off, e, hb, by simpa using h0, by rw [Nat.add_assoc]; exact h1⟩
end Go.Proofs.YtgmijnnhanpocaaGreatDoor
namespace Go.Proofs.YtgmijnnhanpocaaGreatDoor
open Go.ChangeShapes Go.WideShapes Go.ChangeAt Go.RowKit
theorem cellsPos1 : Tryz.prog.cellsOf 25 = 2 := by kernel_rfl
def posVals (p : Int × Int) : List Value := [.int .i64 p.1, .int .i64 p.2]
def PosIn (p : Int × Int) : Prop := (-9223372036854775808 ≤ p.1 ∧ p.1 ≤ 9223372036854775807) ∧ (-9223372036854775808 ≤ p.2 ∧ p.2 ≤ 9223372036854775807)
section
variable {H : Type} {enc : TypeId × Value → H} {W : World} {base : Nat} {sp : Nat → Bool}
set_option maxRecDepth 100000 in
theorem pos_parts {fuel : Nat} {cs : List Value} {x : DataW H × List MemPlace} (h : DataW.trod enc Tryz.prog W base sp true fuel 25 cs = some x) : ∃ e : Int × Int, cs = posVals e ∧ PosIn e := by
 obtain ⟨xs, m, rfl, rfl, hl, hn, hf⟩ := DataW.trod_struct Tryz.underlying25 h
 rw [cellsPos1] at hl
 match cs, hl with
 | [c0, c1], _ =>
  have f0 : DataW.trod enc Tryz.prog W base sp true m 3 [c0] = xs[0]? := by have := hf 0 _ rfl; simpa [cellsI] using this
  have f1 : DataW.trod enc Tryz.prog W base sp true m 3 [c1] = xs[1]? := by have := hf 1 _ rfl; simpa [cellsI] using this
  match xs, hn with
  | [x0, x1], _ =>
   simp only [List.getElem?_cons_zero, List.getElem?_cons_succ] at f0 f1
   obtain ⟨z0, e0, _, w0⟩ := DataW.trod_int Tryz.underlying3 f0
   obtain ⟨z1, e1, _, w1⟩ := DataW.trod_int Tryz.underlying3 f1
   simp at e0 e1
   exact ⟨(z0, z1), by rw [e0, e1]; rfl, wf_i64 w0, wf_i64 w1⟩
set_option maxRecDepth 100000 in
theorem open_onepos {v : Value} {d : DataW H} {p : List MemPlace} (hok : Value.okWide Tryz.prog W .any base 25 v) (h : DataW.Trod enc Tryz.prog W 0 (fun _ => true) true 25 v d p) :
  ∃ x : Int × Int, v = .agg #[.int .i64 x.1, .int .i64 x.2] ∧ PosIn x := by
 obtain ⟨cs, rfl, _⟩ := okWide_struct Tryz.underlying25 hok
 obtain ⟨fuel, hf⟩ := h
 obtain ⟨r, e, hr⟩ := pos_parts hf
 refine ⟨r, ?_, hr⟩
 simp only [Value.cells] at e
 rw [← Array.toArray_toList (xs := cs), e]
 rfl
end
end Go.Proofs.YtgmijnnhanpocaaGreatDoor
namespace Go.Proofs.YtgmijnnhanpocaaGreatDoor
open Go.ChangeShapes Go.WideShapes Go.ChangeAt Go.RowKit
theorem cellsSpot : Tryz.prog.cellsOf 27 = 3 := by kernel_rfl
section
variable {H : Type} {enc : TypeId × Value → H} {W : World} {base : Nat} {sp : Nat → Bool}
set_option maxRecDepth 100000 in
theorem spot_parts {fuel : Nat} {cs : List Value} {x : DataW H × List MemPlace} (h : DataW.trod enc Tryz.prog W base sp true fuel 27 cs = some x) : ∃ e : Int × Int × Int, cs = [.int .i64 e.1, .int .i64 e.2.1, .int .i64 e.2.2] := by
 obtain ⟨xs, m, rfl, rfl, hl, hn, hf⟩ := DataW.trod_struct Tryz.underlying27 h
 rw [cellsSpot] at hl
 match cs, hl with
 | [c0, c1, c2], _ =>
  have f0 : DataW.trod enc Tryz.prog W base sp true m 3 [c0] = xs[0]? := by have := hf 0 _ rfl; simpa [cellsI] using this
  have f1 : DataW.trod enc Tryz.prog W base sp true m 3 [c1] = xs[1]? := by have := hf 1 _ rfl; simpa [cellsI] using this
  have f2 : DataW.trod enc Tryz.prog W base sp true m 3 [c2] = xs[2]? := by have := hf 2 _ rfl; simpa [cellsI] using this
  match xs, hn with
  | [x0, x1, x2], _ =>
   simp only [List.getElem?_cons_zero, List.getElem?_cons_succ] at f0 f1 f2
   obtain ⟨z0, e0, _, w0⟩ := DataW.trod_int Tryz.underlying3 f0
   obtain ⟨z1, e1, _, w1⟩ := DataW.trod_int Tryz.underlying3 f1
   obtain ⟨z2, e2, _, w2⟩ := DataW.trod_int Tryz.underlying3 f2
   simp at e0 e1 e2
   exact ⟨(z0, z1, z2), by rw [e0, e1, e2]⟩
set_option maxRecDepth 100000 in
theorem open_onespot {v : Value} {d : DataW H} {p : List MemPlace} (hok : Value.okWide Tryz.prog W .any base 27 v) (h : DataW.Trod enc Tryz.prog W 0 (fun _ => true) true 27 v d p) :
  ∃ x : Int × Int × Int, v = .agg #[.int .i64 x.1, .int .i64 x.2.1, .int .i64 x.2.2] := by
 obtain ⟨cs, rfl, _⟩ := okWide_struct Tryz.underlying27 hok
 obtain ⟨fuel, hf⟩ := h
 obtain ⟨r, e⟩ := spot_parts hf
 refine ⟨r, ?_⟩
 simp only [Value.cells] at e
 rw [← Array.toArray_toList (xs := cs), e]
end
end Go.Proofs.YtgmijnnhanpocaaGreatDoor
namespace Go.Proofs.YtgmijnnhanpocaaGreatDoor
open Go.ChangeShapes Go.WideShapes Go.ChangeAt Go.RowKit
theorem ownNone : ownKnob Tryz.prog.godebug = none := by kernel_rfl
def spanCells : Array Value := #[.int .i32 (-2147483648), .int .i32 31, .int .i64 0, .int .i32 127, .int .i32 159, .int .i64 0, .int .i32 768, .int .i32 879, .int .i64 0, .int .i32 4352, .int .i32 4447, .int .i64 2, .int .i32 8203, .int .i32 8207, .int .i64 0, .int .i32 11904, .int .i32 12350, .int .i64 2, .int .i32 12353, .int .i32 13311, .int .i64 2, .int .i32 13312, .int .i32 19903, .int .i64 2, .int .i32 19968, .int .i32 40959, .int .i64 2, .int .i32 40960, .int .i32 42191, .int .i64 2, .int .i32 44032, .int .i32 55203, .int .i64 2, .int .i32 55296, .int .i32 57343, .int .i64 0, .int .i32 63744, .int .i32 64255, .int .i64 2, .int .i32 65024, .int .i32 65039, .int .i64 0, .int .i32 65072, .int .i32 65135, .int .i64 2, .int .i32 65280, .int .i32 65376, .int .i64 2, .int .i32 65504, .int .i32 65510, .int .i64 2, .int .i32 127744, .int .i32 128591, .int .i64 2, .int .i32 129280, .int .i32 129535, .int .i64 2, .int .i32 131072, .int .i32 262141, .int .i64 2, .int .i32 1114112, .int .i32 2147483647, .int .i64 0]
noncomputable def laidWorld (os : Os) : World :=
 {World.holding Tryz.prog os ⟨#[], #[], []⟩ with heap := (World.holding Tryz.prog os ⟨#[], #[], []⟩).heap.modify 0 fun
   | .cells _ t frozen => .cells spanCells t frozen
   | o => o }
namespace Sum
theorem and_mk {a b : Bool} (h1 : a = true) (h2 : b = true) : (a && b) = true := by rw [h1, h2]; rfl
set_option maxRecDepth 100000 in
theorem tables : laidOutB Tryz.checked.prog = true ∧ mapsRowed Tryz.checked.prog = true ∧ Tryz.checked.prog.plainKeys = true :=
 Go.ClosedOfChecked.closed_of_checked Tryz.checked (by kernel_rfl) (by kernel_rfl) (by kernel_rfl)
set_option maxRecDepth 100000 in
theorem mayEnter : Tryz.checked.prog.mayEnter = true := by kernel_rfl
set_option maxRecDepth 100000 in
theorem lifts : (Rows.lineAllRow.lifted == Tryz.checked.prog.liftsFinal) = true := by kernel_rfl
set_option maxRecDepth 100000 in
theorem make : (Tryz.checked.prog.make == some Rows.lineAllRow.make) = true := by kernel_rfl
end Sum
end Go.Proofs.YtgmijnnhanpocaaGreatDoor
namespace Go.Proofs.YtgmijnnhanpocaaGreatDoor
open Go.ChangeShapes Go.WideShapes Go.ChangeAt Go.RowKit
namespace Chain
section
variable {P : Program} {ops : Array Oper} {Q : Exit → Act → World → Prop} {S : World → Prop}
def done (n k : Nat) : Array Bool := (List.replicate k true ++ List.replicate (n - k) false).toArray
theorem done_zero (n : Nat) : done n 0 = Array.replicate n false := by
 unfold done; apply Array.ext'; simp
theorem done_set {n k : Nat} (h : k < n) : (done n k).setIfInBounds k true = done n (k + 1) := by
 unfold done
 apply Array.ext'
 obtain ⟨m, hm⟩ : ∃ m, n - k = m + 1 := ⟨n - k - 1, by omega⟩
 have e : n - (k + 1) = m := by omega
 rw [hm, e]
 simp only [List.setIfInBounds_toArray]
 rw [List.set_append, List.replicate_succ (n := m), List.replicate_succ' (n := k)]
 simp
theorem done_get {n k : Nat} (hk : k ≤ n) (j : Nat) (b : Bool) : (done n k).getD j b = if j < k then true else if j < n then false else b := by
 unfold done
 simp only [Array.getD_eq_getD_getElem?, List.getElem?_toArray, List.getElem?_append, List.length_replicate, List.getElem?_replicate]
 by_cases h1 : j < k
 ·simp [h1]
 ·by_cases h2 : j < n
  ·simp [h1, h2, show j - k < n - k by omega]
  ·simp [h1, h2, show ¬ j - k < n - k by omega]
def most : List Edge → Nat
 | [] => 0
 | e :: l => if Region.binds .any e then max (e.on + 1) (most l) else most l
theorem most_le (l : List Edge) (k : Nat) : most l ≤ k ↔ ∀ e ∈ l, Region.binds .any e = true → e.on < k := by
 induction l with
 | nil => simp [most]
 | cons e l ih =>
  unfold most
  by_cases h : Region.binds .any e = true
  ·rw [if_pos h]
   constructor
   ·intro hm x hx hb
    rcases List.mem_cons.1 hx with rfl | hx
    ·omega
    ·exact ih.1 (by omega) x hx hb
   ·intro hm
    have h1 := hm e (by simp) h
    have h2 := ih.2 fun x hx => hm x (by simp [hx])
    omega
  ·rw [if_neg h, ih]
   constructor
   ·intro hm x hx hb
    rcases List.mem_cons.1 hx with rfl | hx
    ·exact absurd hb h
    ·exact hm x hx hb
   ·intro hm x hx; exact hm x (by simp [hx])
abbrev Line := Option Tmp × Op × Option (Nat × Bool) × Nat
def line (o : Oper) : Line := (o.dst, o.op, o.guard, most o.after.toList)
def look (ops : Array Oper) : List Line := ops.toList.map line
def ups (k : Nat) : Nat → List Line → List Nat
 | _, [] => []
 | j, x :: l => if Nat.ble k j && Nat.ble x.2.2.2 k then j :: ups k (j + 1) l else ups k (j + 1) l
theorem mem_ups (k : Nat) : ∀ (l : List Line) (j i : Nat), i ∈ ups k j l ↔ ∃ m x, l[m]? = some x ∧ i = j + m ∧ k ≤ i ∧ x.2.2.2 ≤ k
 | [], j, i => by simp [ups]
 | x :: l, j, i => by
  have ih := mem_ups k l (j + 1) i
  unfold ups
  have rest : (∃ m y, (x :: l)[m + 1]? = some y ∧ i = j + (m + 1) ∧ k ≤ i ∧ y.2.2.2 ≤ k) ↔ i ∈ ups k (j + 1) l := by
   rw [ih]
   constructor
   ·rintro ⟨m, y, h1, h2, h3⟩; exact ⟨m, y, by simpa using h1, by omega, h3⟩
   ·rintro ⟨m, y, h1, h2, h3⟩; exact ⟨m, y, by simpa using h1, by omega, h3⟩
  by_cases h : (Nat.ble k j && Nat.ble x.2.2.2 k) = true
  ·rw [if_pos h]
   have h' : k ≤ j ∧ x.2.2.2 ≤ k := by simpa using h
   rw [List.mem_cons]
   constructor
   ·rintro (rfl | hi)
    ·exact ⟨0, x, rfl, rfl, h'.1, h'.2⟩
    ·obtain ⟨m, y, h1⟩ := rest.2 hi; exact ⟨m + 1, y, h1⟩
   ·rintro ⟨m, y, h1, h2, h3⟩
    cases m with
    | zero => left; omega
    | succ m => right; exact rest.1 ⟨m, y, h1, h2, h3⟩
  ·rw [if_neg h]
   have h' : ¬ (k ≤ j ∧ x.2.2.2 ≤ k) := by simpa using h
   constructor
   ·intro hi; obtain ⟨m, y, h1⟩ := rest.2 hi; exact ⟨m + 1, y, h1⟩
   ·rintro ⟨m, y, h1, h2, h3, h4⟩
    cases m with
    | zero => simp at h1; subst h1; exact absurd ⟨by omega, h4⟩ h'
    | succ m => exact rest.1 ⟨m, y, h1, h2, h3, h4⟩
theorem mem_ready_done {L : List Line} {n k i : Nat} (hL : look ops = L) (hn : ops.size = n) (hk : k ≤ n) : i ∈ Region.ready .any ops (done n k) ↔ i ∈ ups k 0 L := by
 subst hL
 rw [mem_ready, mem_ups, done_get hk]
 have hlook : ∀ m : Nat, (look ops)[m]? = (ops[m]?).map line := fun m => by unfold look; simp
 constructor
 ·rintro ⟨h1, o, ho, he⟩
  have hi : i < n := by rw [← hn]; exact (Array.getElem?_eq_some_iff.1 ho).1
  have hki : k ≤ i := by
   rcases Nat.lt_or_ge i k with h | h
   ·rw [if_pos h] at h1; cases h1
   ·exact h
  refine ⟨i, line o, by rw [hlook, ho]; rfl, by omega, hki, ?_⟩
  show most o.after.toList ≤ k
  rw [most_le]
  intro e hm hb
  have := he e (by simpa using hm) hb
  rw [done_get hk] at this
  by_cases h : e.on < k
  ·exact h
  ·rw [if_neg h] at this
   split at this <;> cases this
 ·rintro ⟨m, x, h1, h2, h3, h4⟩
  rw [hlook, Option.map_eq_some_iff] at h1
  obtain ⟨o, ho, rfl⟩ := h1
  have hm : m < n := by rw [← hn]; exact (Array.getElem?_eq_some_iff.1 ho).1
  obtain rfl : i = m := by omega
  refine ⟨by rw [if_neg (by omega), if_pos hm], o, ho, fun e he hb => ?_⟩
  rw [done_get hk, if_pos ((most_le _ _).1 h4 e (by simpa using he) hb)]
theorem ready_one {L : List Line} {n k : Nat} (hL : look ops = L) (hn : ops.size = n) (hk : k ≤ n) (h : ups k 0 L = [k]) : ∀ i ∈ Region.ready .any ops (done n k), i = k := fun i hi => by
 have := (mem_ready_done hL hn hk).1 hi
 rw [h] at this
 simpa using this
def At (a : Act) (t : Nat) (v : Value) : Prop := a.tmps[t]? = some v
theorem At.ev {a : Act} {t : Nat} {v : Value} (h : At a t v) : a.eval (.tmp t) = v := by
 unfold At at h
 simp [Act.eval, h]
theorem At.lt {a : Act} {t : Nat} {v : Value} (h : At a t v) : t < a.tmps.size := (Array.getElem?_eq_some_iff.1 h).1
theorem at_same {a : Act} {t : Nat} (h : t < a.tmps.size) (v : Value) : At (a.put (some t) v) t v := by
 unfold At Act.put
 simp [h]
theorem At.put {a : Act} {t : Nat} {v : Value} (h : At a t v) {d : Nat} (hd : d ≠ t) (u : Value) : At (a.put (some d) u) t v := by
 unfold At Act.put at *
 simp only
 rw [Array.getElem?_setIfInBounds_ne hd]
 exact h
theorem size_put (a : Act) (d : Nat) (u : Value) : (a.put (some d) u).tmps.size = a.tmps.size := by unfold Act.put; simp
def Open (ops : Array Oper) (a : Act) : Option (Nat × Bool) → Prop
 | none => True
 | some (j, b) => ∃ t, ((ops[j]?).bind (·.dst)) = some t ∧ At a t (.bool b)
theorem Open.wanted {a : Act} {o : Oper} (h : Open ops a o.guard) : Region.wanted o (yielded ops a.tmps) = true := by
 unfold Region.wanted
 cases hg : o.guard with
 | none => rfl
 | some p =>
  obtain ⟨j, b⟩ := p
  rw [hg] at h
  obtain ⟨t, ht, hat⟩ := h
  have : yielded ops a.tmps j = some b := by
   unfold yielded
   rw [ht]
   unfold At at hat
   simp [hat]
  simp [this]
theorem line_get {L : List Line} (hL : look ops = L) {k : Nat} {d : Option Tmp} {op : Op} {g : Option (Nat × Bool)} {m : Nat} (h : L[k]? = some (d, op, g, m)) : ∃ o, ops[k]? = some o ∧ o.dst = d ∧ o.op = op ∧ o.guard = g := by
 subst hL
 unfold look at h
 simp only [List.getElem?_map, Option.map_eq_some_iff, Array.getElem?_toList, line, Prod.mk.injEq] at h
 obtain ⟨o, ho, h1, h2, h3, _⟩ := h
 exact ⟨o, ho, h1, h2, h3⟩
theorem exec_shape (ρ : Operand → Value) (o : Oper) : execOp ρ o = execOp ρ ⟨o.dst, o.op, o.type, "", #[], none⟩ := by
 cases o; rfl
structure Next (a a' : Act) (d : Nat) (v : Value) : Prop where
 size : a'.tmps.size = a.tmps.size
 defers : a'.defers = a.defers
 got : At a' d v
 keep : ∀ t u, d ≠ t → At a t u → At a' t u
theorem Next.k {a a' : Act} {d x : Nat} {v u : Value} (N : Next a a' d v) (f : At a x u) (h : d ≠ x := by decide) : At a' x u := N.keep x _ h f
theorem next {a : Act} {d : Nat} (h : d < a.tmps.size) (v : Value) : Next a (a.put (some d) v) d v := ⟨size_put a d v, rfl, at_same h v, fun _ _ hd h => h.put hd v⟩
structure Reg (ops : Array Oper) (L : List Line) (n : Nat) : Prop where
 look : look ops = L
 size : ops.size = n
theorem Reg.opened {L : List Line} {n : Nat} (R : Reg ops L n) {a : Act} {j t m : Nat} {b : Bool} {op : Op} {g : Option (Nat × Bool)} (h : L[j]? = some (some t, op, g, m)) (hat : At a t (.bool b)) : Open ops a (some (j, b)) := by
 obtain ⟨o, ho, h1, _, _⟩ := line_get R.look h
 exact ⟨t, by rw [ho]; exact h1, hat⟩
theorem forced {L : List Line} {n k fuel : Nat} {a : Act} {w : World} (R : Reg ops L n) (hr : ups k 0 L = [k]) (hk : k < n) (h : wpOp P ops Q k (fun a' w' => S w' ∧ wpAnyH P .any ops Q S fuel (done n (k + 1)) a' w') a w) : wpAnyH P .any ops Q S (fuel + 1) (done n k) a w := by
 refine ⟨fun h0 => ?_, fun i hi => ?_⟩
 ·have := (mem_ready_done R.look R.size (Nat.le_of_lt hk)).2 (show k ∈ ups k 0 L by rw [hr]; simp)
  rw [h0] at this
  cases this
 ·obtain rfl := ready_one R.look R.size (Nat.le_of_lt hk) hr i hi
  rw [done_set hk]
  exact h
theorem value {L : List Line} {n k fuel d m : Nat} {op : Op} {g : Option (Nat × Bool)} {v : Value} {a : Act} {w w1 : World} (R : Reg ops L n) (hs : L[k]? = some (some d, op, g, m)) (hr : ups k 0 L = [k]) (hk : k < n)
  (hg : Open ops a g) (hS : S w1) (hv : ∀ ty, (execOp a.eval ⟨some d, op, ty, "", #[], none⟩).run P w = .ok (.value v) w1) (hd : d < a.tmps.size)
  (h : ∀ a', Next a a' d v → wpAnyH P .any ops Q S fuel (done n (k + 1)) a' w1) : wpAnyH P .any ops Q S (fuel + 1) (done n k) a w := by
 obtain ⟨o, ho, e1, e2, e3⟩ := line_get R.look hs
 subst e2 e3
 refine forced R hr hk (wpOp_step ho fun K hK => ?_)
 rw [if_pos hg.wanted]
 unfold Oper.wp
 rw [exec_shape, e1, hv]
 simp only [Oper.upon, e1]
 exact hK _ _ ⟨hS, h _ (next hd v)⟩
theorem take {L : List Line} {n k fuel d m : Nat} {op : Op} {g : Option (Nat × Bool)} {v : Value} {a : Act} {w : World} (R : Reg ops L n) (hs : L[k]? = some (some d, op, g, m)) (hr : (ups k 0 L).contains k = true) (hk : k < n)
  (hns : Region.noSelect ops = true) (hf : Region.free .any ops (done n k) k = true) (hQ : ∀ c a w d v, Q (.panic c) (Act.put a (some d) v) w → Q (.panic c) a w)
  (hg : Open ops a g) (hS : S w) (hv : ∀ w ty, S w → (execOp a.eval ⟨some d, op, ty, "", #[], none⟩).run P w = .ok (.value v) w) (hd : d < a.tmps.size)
  (h : ∀ a', Next a a' d v → wpAnyH P .any ops Q S fuel (done n (k + 1)) a' w) : wpAnyH P .any ops Q S (fuel + 1) (done n k) a w := by
 obtain ⟨o, ho, e1, e2, e3⟩ := line_get R.look hs
 subst e2 e3
 have hr' : (Region.ready .any ops (done n k)).contains k = true := by
  have := (mem_ready_done R.look R.size (Nat.le_of_lt hk)).2 (show k ∈ ups k 0 L by simpa using hr)
  simpa using this
 refine wpAnyH_take (oi := o) (v := v) ho hns hf hr' (fun c a w => by rw [e1]; exact hQ c a w d v) (.inl ⟨hg.wanted, fun w hw => ?_⟩) hS ?_
 ·rw [exec_shape, e1]; exact hv w _ hw
 ·rw [done_set hk, e1]; exact h _ (next hd v)
def enters (P : Program) (f : Nat) : Bool := (P.funcs[f]?).elim false fun fn => !(fn.name == "runtime.NumGoroutine") && fn.body.isSome
theorem run_enters {f : Nat} (h : enters P f = true) (args : Array Value) (w : World) : (callFunc f args).run P w = .ok (.enter f args) w := by
 unfold enters at h
 cases hf : P.funcs[f]? with
 | none => rw [hf] at h; cases h
 | some fn =>
  rw [hf] at h
  simp only [Option.elim_some, Bool.and_eq_true, Bool.not_eq_true'] at h
  obtain ⟨h0, h2⟩ := h
  have h1 : fn.name ≠ "runtime.NumGoroutine" := by simpa using h0
  obtain ⟨c, hb⟩ := Option.isSome_iff_exists.1 h2
  simp [callFunc, hf, h1, hb]
theorem call {L : List Line} {n k fuel d m f : Nat} {xs : Array Operand} {ts : Array TypeId} {args : Array Value} {g : Option (Nat × Bool)} {a : Act} {w : World} {Post : Ending → World → Prop} (R : Reg ops L n)
  (hs : L[k]? = some (some d, .call { callee := .value (.func f), args := xs, argTypes := ts }, g, m)) (hr : ups k 0 L = [k]) (hk : k < n)
  (hg : Open ops a g) (ha : xs.map a.eval = args) (hf : enters P f = true) (hc : Calls P f args w Post) (hd : d < a.tmps.size)
  (h : ∀ e w', Post e w' → ∃ v, e = .returned v ∧ S w' ∧ ∀ a', Next a a' d v → wpAnyH P .any ops Q S fuel (done n (k + 1)) a' w') : wpAnyH P .any ops Q S (fuel + 1) (done n k) a w := by
 obtain ⟨o, ho, e1, e2, e3⟩ := line_get R.look hs
 subst e3
 refine forced R hr hk (wpOp_step ho fun K hK => ?_)
 rw [if_pos hg.wanted]
 unfold Oper.wp
 have he : (execOp a.eval o).run P w = .ok (.enter f args) w := by
  rw [exec_shape, e1, e2]
  subst ha
  simp [execOp, resolve, invoke, Act.eval, Deferred.ofValue, run_enters hf]
 rw [he, Oper.upon_enter]
 refine hc.mono fun e w' hp => ?_
 obtain ⟨v, rfl, hS, hw⟩ := h e w' hp
 rw [e1]
 exact hK _ _ ⟨hS, hw _ (next hd v)⟩
theorem finish {L : List Line} {n fuel : Nat} {a : Act} {w : World} (R : Reg ops L n) (hr : ups n 0 L = []) (h : Q .normal a w) : wpAnyH P .any ops Q S fuel (done n n) a w := by
 refine wpAnyH_done (List.eq_nil_iff_forall_not_mem.2 fun i hi => ?_) h fuel
 have := (mem_ready_done R.look R.size (Nat.le_refl n)).1 hi
 rw [hr] at this
 cases this
theorem start {L : List Line} {n id : Nat} {a : Act} {w : World} (R : Reg ops L n) (hm : P.follows .mixedOrders = true) (hS : S w.drew) (h : wpAnyH P .any ops Q S n (done n 0) a w.drew) : (Code.region id ops true).wp P Q a w := by
 refine wp_region_held_drew (S := S) hm hS fun _ => ?_
 rw [R.size, ← done_zero]
 exact h
/-! What the operations yield. -/
variable {ρ : Operand → Value} {d : Option Tmp} {ty : TypeId} {w : World}
theorem ev_move {x : Operand} {v : Value} (h : ρ x = v) : (execOp ρ ⟨d, .move x, ty, "", #[], none⟩).run P w = .ok (.value v) w := by simp [execOp, h]
theorem ev_assign {x : Operand} {v : Value} (h : ρ x = v) : (execOp ρ ⟨d, .assign x, ty, "", #[], none⟩).run P w = .ok (.value v) w := by simp [execOp, h]
end
end Chain
end Go.Proofs.YtgmijnnhanpocaaGreatDoor
namespace Go.Proofs.YtgmijnnhanpocaaGreatDoor
open Go.ChangeShapes Go.WideShapes Go.ChangeAt Go.RowKit
theorem Below.drewN {B : Nat} {a w : World} (h : Below B a w) (k : Nat) : Below B a (w.drewN k) := ⟨h.os, h.tape, h.output, h.size, h.block⟩
end Go.Proofs.YtgmijnnhanpocaaGreatDoor
namespace Go.Proofs.YtgmijnnhanpocaaGreatDoor
open Go.ChangeShapes Go.WideShapes Go.ChangeAt Go.RowKit
def eqL (l l' : List Cel) : Bool := decide (l = l')
theorem eqL_len {l l' : List Cel} (h : l.length ≠ l'.length) : eqL l l' = false := by
  unfold eqL
  simp only [decide_eq_false_iff_not]
  exact fun e => h (by rw [e])
theorem eqL_other {l l' : List Cel} {k : Nat} {x y : Cel} (hx : l[k]? = some x) (hy : l'[k]? = some y) (h : x ≠ y) : eqL l l' = false := by
  unfold eqL
  simp only [decide_eq_false_iff_not]
  intro e
  rw [e, hy] at hx
  injection hx with hx
  exact h hx.symm
theorem eqL_all {l l' : List Cel} {k : Nat} (hl : l.length = k) (hl' : l'.length = k) (h : l.take k = l'.take k) : eqL l l' = true := by
  unfold eqL
  rw [List.take_of_length_le (by omega), List.take_of_length_le (by omega)] at h
  simpa using h
theorem take_same {l l' : List Cel} {k : Nat} {x : Cel} (h : l.take k = l'.take k) (hx : l[k]? = some x) (hy : l'[k]? = some x) : l.take (k + 1) = l'.take (k + 1) := by
  obtain ⟨h1, h2⟩ := List.getElem?_eq_some_iff.1 hx
  obtain ⟨h3, h4⟩ := List.getElem?_eq_some_iff.1 hy
  rw [List.take_succ_eq_append_getElem h1, List.take_succ_eq_append_getElem h3, h, h2, h4]
theorem cel_ne {r m a r' m' a' : Int} (h : ((r == r') && (m == m') && (a == a')) = false) : ((r, m, a) : Cel) ≠ (r', m', a') := by
  intro e
  injection e with e1 e2
  injection e2 with e2 e3
  subst e1 e2 e3
  simp at h
set_option maxRecDepth 100000 in
set_option maxHeartbeats 3200000 in
theorem slicesEq_walk (A A' : Option Addr) (n c n' c' : Nat) (l l' : List Cel) (w : World) (hn : n ≤ 1000000) (hn' : n' ≤ 1000000) (hq : Sq w w.heap.size 3 n A (flat l)) (hq' : Sq w w.heap.size 3 n' A' (flat l')) :
    Calls Tryz.prog 50 #[.slice A n c, .slice A' n' c'] w fun e w' => e = .returned (.bool (eqL l l')) ∧ Below w.heap.size w w' := by
  have hl : l.length = n := by have := hq.len; rw [flat_length] at this; omega
  have hl' : l'.length = n' := by have := hq'.len; rw [flat_length] at this; omega
  have Q := Lib.hid hq
  have Q' := Lib.hid hq'
  have LN := Lib.hid hl
  have LN' := Lib.hid hl'
  clear hq hq'
  by_cases hne : n = n'
  · subst hne
    clear hl hl'
    go_enter Tryz.func50, Tryz.ntmps50
    go_wp2
    go_loopw [13] (fun i wr => ∃ k : Nat, i = .int .i64 k ∧ k ≤ n ∧ Hid (l.take k = l'.take k) ∧ Below w.heap.size w wr) (fun i _ => n - (intOf i).toNat)
    case atStart => exact ⟨0, rfl, Nat.zero_le _, Lib.hid rfl, Below.refl _ _⟩
    case round =>
      obtain ⟨k, rfl, hk, TK, hb⟩ := hrel
      by_cases hlt : k < n
      · obtain ⟨b, off, rfl, _, ⟨r, m, a⟩, hcc, q0, q1, q2⟩ := (Q.out.below hb).three hlt
        obtain ⟨b', off', rfl, _, ⟨r', m', a'⟩, hcc', q0', q1', q2'⟩ := (Q'.out.below hb).three hlt
        have HB := Lib.hid hb
        have HC := Lib.hid hcc
        have HC' := Lib.hid hcc'
        clear hb hcc hcc'
        simp only at q0 q1 q2 q0' q1' q2'
        cases hE : ((r == r') && (m == m') && (a == a'))
        · have EF := Lib.hid (eqL_other HC.out HC'.out (cel_ne hE))
          cases h1 : (r == r') <;> cases h2 : (m == m') <;> cases h3 : (a == a')
          all_goals
            first
              | (exfalso; rw [h1, h2, h3] at hE; cases hE; done)
              | (clear hE
                 go_wp2_with fail
                 go_quiet (fail)
                 go_wp2
                 go_ret
                 exact ⟨ret_bool EF.out.symm, Below.drewN HB.out _⟩)
        · simp only [Bool.and_eq_true, beq_iff_eq] at hE
          obtain ⟨⟨rfl, rfl⟩, rfl⟩ := hE
          have TK2 := Lib.hid (take_same TK.out HC.out HC'.out)
          go_wp2_with fail
          go_quiet (fail)
          go_wp2
          go_roundw
          case rel => exact ⟨k + 1, by go_num, by omega, TK2, Below.drewN HB.out _⟩
          case measure => simp [intOf]; omega
      · have hk' : k = n := by omega
        have ET := Lib.hid (eqL_all LN.out LN'.out (by rw [← hk']; exact TK.out))
        have HB := Lib.hid hb
        clear hk' hb
        go_wp2
        go_ret
        exact ⟨ret_bool ET.out.symm, HB.out⟩
  · have EF := Lib.hid (eqL_len (l := l) (l' := l') (by omega))
    have d1 : ((n : Int) != (n' : Int)) = true := by simp; omega
    clear hl hl'
    go_enter Tryz.func50, Tryz.ntmps50
    go_wp2
    go_ret
    exact ⟨ret_bool EF.out.symm, Below.refl _ _⟩
set_option maxRecDepth 100000 in
set_option maxHeartbeats 3200000 in
theorem eqCells_walk (A A' : Option Addr) (n c n' c' : Nat) (l l' : List Cel) (w : World) (hn : n ≤ 1000000) (hn' : n' ≤ 1000000) (hq : Sq w w.heap.size 3 n A (flat l)) (hq' : Sq w w.heap.size 3 n' A' (flat l')) :
    Calls Tryz.prog 32 #[.slice A n c, .slice A' n' c'] w fun e w' => e = .returned (.bool (eqL l l')) ∧ Below w.heap.size w w' := by
  have hl : l.length = n := by have := hq.len; rw [flat_length] at this; omega
  have hl' : l'.length = n' := by have := hq'.len; rw [flat_length] at this; omega
  have Q := Lib.hid hq
  have Q' := Lib.hid hq'
  have LN := Lib.hid hl
  have LN' := Lib.hid hl'
  clear hq hq'
  by_cases hne : n = n'
  · subst hne
    clear hl hl'
    go_enter Tryz.func32, Tryz.ntmps32
    go_wp2
    go_loopw [5] (fun i wr => ∃ k : Nat, i = .int .i64 k ∧ k ≤ n ∧ Hid (l.take k = l'.take k) ∧ Below w.heap.size w wr) (fun i _ => n - (intOf i).toNat)
    case atStart => exact ⟨0, rfl, Nat.zero_le _, Lib.hid rfl, Below.refl _ _⟩
    case round =>
      obtain ⟨k, rfl, hk, TK, hb⟩ := hrel
      by_cases hlt : k < n
      · obtain ⟨b, off, rfl, _, ⟨r, m, a⟩, hcc, q0, q1, q2⟩ := (Q.out.below hb).three hlt
        obtain ⟨b', off', rfl, _, ⟨r', m', a'⟩, hcc', q0', q1', q2'⟩ := (Q'.out.below hb).three hlt
        have HB := Lib.hid hb
        have HC := Lib.hid hcc
        have HC' := Lib.hid hcc'
        clear hb hcc hcc'
        simp only at q0 q1 q2 q0' q1' q2'
        cases hE : ((r == r') && (m == m') && (a == a'))
        · have EF := Lib.hid (eqL_other HC.out HC'.out (cel_ne hE))
          cases h1 : (r == r') <;> cases h2 : (m == m') <;> cases h3 : (a == a')
          all_goals
            first
              | (exfalso; rw [h1, h2, h3] at hE; cases hE; done)
              | (clear hE
                 go_wp2_with fail
                 go_quiet (fail)
                 go_wp2
                 go_ret
                 exact ⟨ret_bool EF.out.symm, Below.drewN HB.out _⟩)
        · simp only [Bool.and_eq_true, beq_iff_eq] at hE
          obtain ⟨⟨rfl, rfl⟩, rfl⟩ := hE
          have TK2 := Lib.hid (take_same TK.out HC.out HC'.out)
          go_wp2_with fail
          go_quiet (fail)
          go_wp2
          go_roundw
          case rel => exact ⟨k + 1, by go_num, by omega, TK2, Below.drewN HB.out _⟩
          case measure => simp [intOf]; omega
      · have hk' : k = n := by omega
        have ET := Lib.hid (eqL_all LN.out LN'.out (by rw [← hk']; exact TK.out))
        have HB := Lib.hid hb
        clear hk' hb
        go_wp2
        go_ret
        exact ⟨ret_bool ET.out.symm, HB.out⟩
  · have EF := Lib.hid (eqL_len (l := l) (l' := l') (by omega))
    have d1 : ((n : Int) != (n' : Int)) = true := by simp; omega
    clear hl hl'
    go_enter Tryz.func32, Tryz.ntmps32
    go_wp2
    go_ret
    exact ⟨ret_bool EF.out.symm, Below.refl _ _⟩
set_option maxRecDepth 100000 in
set_option maxHeartbeats 3200000 in
theorem eqRow_walk (A A' : Option Addr) (n c n' c' : Nat) (wrap wrap' : Bool) (l l' : List Cel) (w : World) (hn : n ≤ 1000000) (hn' : n' ≤ 1000000) (hq : Sq w w.heap.size 3 n A (flat l)) (hq' : Sq w w.heap.size 3 n' A' (flat l')) :
    Calls Tryz.prog 43 #[rowV A n c wrap, rowV A' n' c' wrap'] w fun e w' => e = .returned (.bool (wrap == wrap' && eqL l l')) ∧ Below w.heap.size w w' := by
  have w2b : Below w.heap.size w ((w.alloc (.cells #[.slice A n c, .bool wrap] 48)).alloc (.cells #[.slice A' n' c', .bool wrap'] 48)) := ((Below.refl _ _).alloc (Nat.le_refl _) _).alloc (by simp) _
  have EW := Lib.hid (fun w' (h : Below w.heap.size w w') => eqCells_walk A A' n c n' c' l l' w' hn hn' ((hq.below h).up h.size) ((hq'.below h).up h.size))
  have W2B := Lib.hid w2b
  clear hq hq' w2b
  cases wrap <;> cases wrap'
  all_goals
    go_enter Tryz.func43, Tryz.ntmps43
    go_wp2_with fail
    first
      | (go_ret
         exact ⟨rfl, W2B.out⟩)
      | (refine (EW.out _ W2B.out).mono ?_
         rintro e w3 ⟨rfl, b3⟩
         have B3 := Lib.hid (W2B.out.trans (b3.mono W2B.out.size))
         clear b3
         go_wp2
         go_ret
         exact ⟨by simp, B3.out⟩)
end Go.Proofs.YtgmijnnhanpocaaGreatDoor
