import Derived.Test.YtgcfpfhmjhkgnaaGreatDoorQBase1
import Derived.Deep.QuietTactic
import Derived.BigQuiet
import Derived.IntWalk
import Derived.Shelf.Strings.Builder1
import Derived.Shelf.Small.Utf8
import Derived.Shelf.Small.Strs
import Derived.Shelf.Strings.BuilderF
import Derived.Shelf.Strings.BuilderK
import Derived.Shelf.Strings.BuilderRune
import Derived.Shelf.Utf8.AppendRune
import Derived.Shelf.Utf8.AppendRunePlain
import Derived.Shelf.Strings.Search1
import Derived.Shelf.Strings.Runes
import Derived.Shelf.Bits.Mul64
import Derived.Ground.SlbCloneProg
import Derived.Shelf.Bytes.SlClone
import Derived.Test.YtgcfpfhmjhkgnaaGreatDoorProg
set_option maxRecDepth 100000
set_option maxHeartbeats 3200000
namespace Go.Proofs.YtgcfpfhmjhkgnaaGreatDoor
open Go.ChangeShapes Go.WideShapes Go.ChangeAt Go.RowKit
abbrev rowV (A : Option Addr) (n c : Nat) (wrap : Bool) : Value := .agg #[.slice A n c, .bool wrap]
def CellAt (w : World) (g : Nat) (c : Cel) : Prop := w.heap[g]? = some (.cells #[.int .i32 c.1, .int .i64 c.2.1, .int .i64 c.2.2] 33 (0, 0))
theorem CellAt.get {w : World} {g : Nat} {c : Cel} (h : CellAt w g c) (j : Nat) : w.cell? ⟨g, j, none⟩ = #[Value.int .i32 c.1, .int .i64 c.2.1, .int .i64 c.2.2][j]? := cell_of_row w g j _ _ (0, 0) h
theorem CellAt.lt {w : World} {g : Nat} {c : Cel} (h : CellAt w g c) : g < w.heap.size := (Array.getElem?_eq_some_iff.1 h).1
theorem CellAt.free {w : World} {g : Nat} {c : Cel} (h : CellAt w g c) (j : Nat) : w.frozen? ⟨g, j, none⟩ = false := by
 unfold CellAt at h
 simp [World.frozen?, h]
theorem CellAt.below {w w' : World} {g B : Nat} {c : Cel} (h : CellAt w g c) (hb : Below B w w') (hg : g < B) : CellAt w' g c := (hb.block g hg).trans h
theorem cellAt_put {w : World} {g : Nat} {c : Cel} (h : CellAt w g c) (r m a : Int) : CellAt (((w.setCell ⟨g, 0, none⟩ (.int .i32 r)).setCell ⟨g, 1, none⟩ (.int .i64 m)).setCell ⟨g, 2, none⟩ (.int .i64 a)) g (r, m, a) := by
 have h0 := heap_setCell_same w g 0 _ _ (.int .i32 r) h
 have h1 := heap_setCell_same _ g 1 _ _ (.int .i64 m) h0
 have h2 := heap_setCell_same _ g 2 _ _ (.int .i64 a) h1
 exact h2
theorem packMay_walk (A : Option Addr) (n c : Nat) (wrap : Bool) (l : List Cel) (w : World) (hs : Spans w) (hl : ∀ c ∈ l, -2147483648 ≤ c.1 ∧ c.1 ≤ 2147483647) (hq : Sq w w.heap.size 3 n A (flat l)) (hn : n ≤ 1000000) :
  Calls Tryz.prog 33 #[rowV A n c wrap] w fun e w' => e = .returned (.bool (mayL l)) ∧ Below w.heap.size w w' := by
 have hln : l.length = n := by have := hq.len; rw [flat_length] at this; omega
 have LN := Lib.hid hln
 have S := Lib.hid hs
 have Q := Lib.hid hq
 have HS := Lib.hid hl
 clear hs hq hl
 by_cases h300 : 300 < n
 ·have E : mayL l = false := by unfold mayL; simp [hln, show ¬ n ≤ 300 by omega]
  rw [E]
  clear E hln
  go_enter Tryz.func33, Tryz.ntmps33
  go_wp2_with fail
  go_ret
  exact ⟨rfl, (Below.refl _ _).alloc (Nat.le_refl _) _⟩
 ·have E : mayL l = mayGo (32, 1, 0) l := by unfold mayL; simp [hln, show n ≤ 300 by omega]
  have EH := Lib.hid E
  rw [E]
  clear E hln
  go_enter Tryz.func33, Tryz.ntmps33
  go_wp2_with fail
  refine (blank_walk _).mono ?_
  rintro e w2 ⟨rfl, b2⟩
  have B2 := Lib.hid (((Below.refl w.heap.size w).alloc (Nat.le_refl _) _).trans (b2.mono (by simp)))
  have hz2 := b2.size
  simp at hz2
  have hc0 : w2.cell? ⟨w.heap.size, 0, none⟩ = some (.slice A n c) := (b2.cell (p := ⟨w.heap.size, 0, none⟩) (by simp)).trans (by rw [cell_of_row _ _ 0 _ _ (0, 0) (heap_alloc_new w _)]; rfl)
  clear b2
  have hz2' : w.heap.size ≤ w2.heap.size := by omega
  have hc1 : (w2.alloc (.cells #[.int .i32 32, .int .i64 1, .int .i64 0] 33)).cell? ⟨w.heap.size, 0, none⟩ = some (.slice A n c) := (World.cell?_alloc_lt _ _ _ (by show w.heap.size < w2.heap.size; omega)).trans hc0
  have CA := Lib.hid (show CellAt (w2.alloc (.cells #[.int .i32 32, .int .i64 1, .int .i64 0] 33)) w2.heap.size (32, 1, 0) from heap_alloc_new w2 _)
  have B3 := Lib.hid (B2.out.alloc (by omega) (.cells #[.int .i32 32, .int .i64 1, .int .i64 0] 33))
  go_wp2_with fail
  clear hc0 hc1
  generalize w2.alloc (.cells #[.int .i32 32, .int .i64 1, .int .i64 0] 33) = w3 at CA B3 ⊢
  go_loopw [16] (fun i wr => ∃ (k : Nat) (p : Cel), i = .int .i64 k ∧ k ≤ n ∧ CellAt wr w2.heap.size p ∧ Below w.heap.size w wr ∧ Hid (mayGo p (l.drop k) = mayGo (32, 1, 0) l)) (fun i _ => n - (intOf i).toNat)
  case atStart => exact ⟨0, (32, 1, 0), rfl, Nat.zero_le _, CA.out, B3.out, Lib.hid rfl⟩
  case round =>
   obtain ⟨k, ⟨pr, pn, pa⟩, rfl, hk, hp, hb, MG⟩ := hrel
   have p0 : wr.cell? ⟨w2.heap.size, 0, none⟩ = some (.int .i32 pr) := hp.get 0
   have p1 : wr.cell? ⟨w2.heap.size, 1, none⟩ = some (.int .i64 pn) := hp.get 1
   have p2 : wr.cell? ⟨w2.heap.size, 2, none⟩ = some (.int .i64 pa) := hp.get 2
   have PF := Lib.hid hp
   have hpl := hp.lt
   have HB := Lib.hid hb
   have hsz := hb.size
   by_cases hlt : k < n
   ·obtain ⟨b, off, rfl, hbb, ⟨r, m, a⟩, hcc, q0, q1, q2⟩ := (Q.out.below hb).three hlt
    have hx := HS.out _ (List.mem_of_getElem? hcc)
    simp only at hx
    have hd : l.drop k = (r, m, a) :: l.drop (k + 1) := by
     obtain ⟨h1, h2⟩ := List.getElem?_eq_some_iff.1 hcc
     rw [List.drop_eq_getElem_cons h1, h2]
    have STEP := Lib.hid (show mayGo (pr, pn, pa) (l.drop k) = (mayB (r, m, a) && ((pn == 2) == (m == 0)) && (!(m == 0) || a == pa) && mayGo (r, m, a) (l.drop (k + 1))) by rw [hd]; rfl)
    clear hp hb hcc hd
    have CC := Lib.hid (show CellAt (wr.alloc (.cells #[.int .i32 r, .int .i64 m, .int .i64 a] 33)) wr.heap.size (r, m, a) from heap_alloc_new wr _)
    have PP := Lib.hid (PF.out.below ((Below.refl wr.heap.size wr).alloc (Nat.le_refl _) (.cells #[.int .i32 r, .int .i64 m, .int .i64 a] 33)) hpl)
    have B4 := Lib.hid (HB.out.alloc hsz (.cells #[.int .i32 r, .int .i64 m, .int .i64 a] 33))
    have hz4 : (wr.alloc (.cells #[.int .i32 r, .int .i64 m, .int .i64 a] 33)).heap.size = wr.heap.size + 1 := by simp
    have Z4 := Lib.hid hz4
    clear hz4
    obtain ⟨B, hB⟩ : ∃ B, mayB (r, m, a) = B := ⟨_, rfl⟩
    have MB := Lib.hid (fun w hs => may_any r m a hx.1 hx.2 w hs)
    rw [hB] at MB STEP
    clear hB
    go_wp2_with fail
    generalize wr.alloc (.cells #[.int .i32 r, .int .i64 m, .int .i64 a] 33) = w4 at CC PP B4 Z4 ⊢
    clear p0 p1 p2 q0 q1 q2
    have c0 : w4.cell? ⟨wr.heap.size, 0, none⟩ = some (.int .i32 r) := CC.out.get 0
    have c1 : w4.cell? ⟨wr.heap.size, 1, none⟩ = some (.int .i64 m) := CC.out.get 1
    have c2 : w4.cell? ⟨wr.heap.size, 2, none⟩ = some (.int .i64 a) := CC.out.get 2
    have p1 : w4.cell? ⟨w2.heap.size, 1, none⟩ = some (.int .i64 pn) := PP.out.get 1
    have s4 := Z4.out
    cases B
    ·have tok := True.intro
     go_quiet (fail)
     go_wp2_with fail
     refine (MB.out _ (S.out.below (show Below w.heap.size w (w4.drewN _) from ⟨B4.out.os, B4.out.tape, B4.out.output, B4.out.size, B4.out.block⟩) S.out.size)).mono ?_
     rintro e w6 ⟨rfl, b6⟩
     have b6' : Below w4.heap.size w4 w6 := ⟨b6.os, b6.tape, b6.output, b6.size, b6.block⟩
     have C6 := Lib.hid (CC.out.below b6' CC.out.lt)
     have P6 := Lib.hid (PP.out.below b6' PP.out.lt)
     have B6 := Lib.hid (B4.out.trans (b6'.mono B4.out.size))
     have k0 : w6.cell? ⟨wr.heap.size, 0, none⟩ = some (.int .i32 r) := C6.out.get 0
     have k1 : w6.cell? ⟨wr.heap.size, 1, none⟩ = some (.int .i64 m) := C6.out.get 1
     have k2 : w6.cell? ⟨wr.heap.size, 2, none⟩ = some (.int .i64 a) := C6.out.get 2
     have l0 : w6.cell? ⟨w2.heap.size, 0, none⟩ = some (.int .i32 pr) := P6.out.get 0
     have l1 : w6.cell? ⟨w2.heap.size, 1, none⟩ = some (.int .i64 pn) := P6.out.get 1
     have l2 : w6.cell? ⟨w2.heap.size, 2, none⟩ = some (.int .i64 pa) := P6.out.get 2
     have g0 := P6.out.free 0
     have g1 := P6.out.free 1
     have g2 := P6.out.free 2
     clear b6 b6' c0 c1 c2 p1
     have RF := Lib.hid (show mayGo (32, 1, 0) l = false by rw [← MG.out, STEP.out]; simp)
     go_wp2
     go_ret
     exact ⟨ret_bool RF.out.symm, B6.out⟩
    ·cases e2 : (pn == 2) <;> cases e3 : (m == 0)
     ·have tok := True.intro
      go_quiet (fail)
      go_wp2_with fail
      refine (MB.out _ (S.out.below (show Below w.heap.size w (w4.drewN _) from ⟨B4.out.os, B4.out.tape, B4.out.output, B4.out.size, B4.out.block⟩) S.out.size)).mono ?_
      rintro e w6 ⟨rfl, b6⟩
      have b6' : Below w4.heap.size w4 w6 := ⟨b6.os, b6.tape, b6.output, b6.size, b6.block⟩
      have C6 := Lib.hid (CC.out.below b6' CC.out.lt)
      have P6 := Lib.hid (PP.out.below b6' PP.out.lt)
      have B6 := Lib.hid (B4.out.trans (b6'.mono B4.out.size))
      have k0 : w6.cell? ⟨wr.heap.size, 0, none⟩ = some (.int .i32 r) := C6.out.get 0
      have k1 : w6.cell? ⟨wr.heap.size, 1, none⟩ = some (.int .i64 m) := C6.out.get 1
      have k2 : w6.cell? ⟨wr.heap.size, 2, none⟩ = some (.int .i64 a) := C6.out.get 2
      have l0 : w6.cell? ⟨w2.heap.size, 0, none⟩ = some (.int .i32 pr) := P6.out.get 0
      have l1 : w6.cell? ⟨w2.heap.size, 1, none⟩ = some (.int .i64 pn) := P6.out.get 1
      have l2 : w6.cell? ⟨w2.heap.size, 2, none⟩ = some (.int .i64 pa) := P6.out.get 2
      have g0 := P6.out.free 0
      have g1 := P6.out.free 1
      have g2 := P6.out.free 2
      clear b6 b6' c0 c1 c2 p1
      have RN := Lib.hid (show mayGo (r, m, a) (l.drop (k + 1)) = mayGo (32, 1, 0) l by rw [← MG.out, STEP.out, e2, e3]; simp)
      have N6 := Lib.hid (cellAt_put P6.out r m a)
      have M6 := Lib.hid ((((B6.out.setCell (p := ⟨w2.heap.size, 0, none⟩) hz2' (.int .i32 r)).setCell (p := ⟨w2.heap.size, 1, none⟩) hz2' (.int .i64 m)).setCell (p := ⟨w2.heap.size, 2, none⟩) hz2' (.int .i64 a)))
      go_wp2
      go_roundw
      case rel => exact ⟨k + 1, (r, m, a), by go_num, by omega, N6.out, M6.out, RN⟩
      case measure => simp [intOf]; omega
     ·have tok := True.intro
      go_quiet (fail)
      go_wp2_with fail
      refine (MB.out _ (S.out.below (show Below w.heap.size w (w4.drewN _) from ⟨B4.out.os, B4.out.tape, B4.out.output, B4.out.size, B4.out.block⟩) S.out.size)).mono ?_
      rintro e w6 ⟨rfl, b6⟩
      have b6' : Below w4.heap.size w4 w6 := ⟨b6.os, b6.tape, b6.output, b6.size, b6.block⟩
      have C6 := Lib.hid (CC.out.below b6' CC.out.lt)
      have P6 := Lib.hid (PP.out.below b6' PP.out.lt)
      have B6 := Lib.hid (B4.out.trans (b6'.mono B4.out.size))
      have k0 : w6.cell? ⟨wr.heap.size, 0, none⟩ = some (.int .i32 r) := C6.out.get 0
      have k1 : w6.cell? ⟨wr.heap.size, 1, none⟩ = some (.int .i64 m) := C6.out.get 1
      have k2 : w6.cell? ⟨wr.heap.size, 2, none⟩ = some (.int .i64 a) := C6.out.get 2
      have l0 : w6.cell? ⟨w2.heap.size, 0, none⟩ = some (.int .i32 pr) := P6.out.get 0
      have l1 : w6.cell? ⟨w2.heap.size, 1, none⟩ = some (.int .i64 pn) := P6.out.get 1
      have l2 : w6.cell? ⟨w2.heap.size, 2, none⟩ = some (.int .i64 pa) := P6.out.get 2
      have g0 := P6.out.free 0
      have g1 := P6.out.free 1
      have g2 := P6.out.free 2
      clear b6 b6' c0 c1 c2 p1
      have RF := Lib.hid (show mayGo (32, 1, 0) l = false by rw [← MG.out, STEP.out, e2, e3]; simp)
      go_wp2
      go_ret
      exact ⟨ret_bool RF.out.symm, B6.out⟩
     ·have tok := True.intro
      go_quiet (fail)
      go_wp2_with fail
      refine (MB.out _ (S.out.below (show Below w.heap.size w (w4.drewN _) from ⟨B4.out.os, B4.out.tape, B4.out.output, B4.out.size, B4.out.block⟩) S.out.size)).mono ?_
      rintro e w6 ⟨rfl, b6⟩
      have b6' : Below w4.heap.size w4 w6 := ⟨b6.os, b6.tape, b6.output, b6.size, b6.block⟩
      have C6 := Lib.hid (CC.out.below b6' CC.out.lt)
      have P6 := Lib.hid (PP.out.below b6' PP.out.lt)
      have B6 := Lib.hid (B4.out.trans (b6'.mono B4.out.size))
      have k0 : w6.cell? ⟨wr.heap.size, 0, none⟩ = some (.int .i32 r) := C6.out.get 0
      have k1 : w6.cell? ⟨wr.heap.size, 1, none⟩ = some (.int .i64 m) := C6.out.get 1
      have k2 : w6.cell? ⟨wr.heap.size, 2, none⟩ = some (.int .i64 a) := C6.out.get 2
      have l0 : w6.cell? ⟨w2.heap.size, 0, none⟩ = some (.int .i32 pr) := P6.out.get 0
      have l1 : w6.cell? ⟨w2.heap.size, 1, none⟩ = some (.int .i64 pn) := P6.out.get 1
      have l2 : w6.cell? ⟨w2.heap.size, 2, none⟩ = some (.int .i64 pa) := P6.out.get 2
      have g0 := P6.out.free 0
      have g1 := P6.out.free 1
      have g2 := P6.out.free 2
      clear b6 b6' c0 c1 c2 p1
      have RF := Lib.hid (show mayGo (32, 1, 0) l = false by rw [← MG.out, STEP.out, e2, e3]; simp)
      go_wp2
      go_ret
      exact ⟨ret_bool RF.out.symm, B6.out⟩
     ·cases e4 : (a == pa)
      ·have e5 : (a != pa) = true := by simpa using e4
       go_quiet (fail)
       go_wp2_with fail
       refine (MB.out _ (S.out.below (show Below w.heap.size w (w4.drewN _) from ⟨B4.out.os, B4.out.tape, B4.out.output, B4.out.size, B4.out.block⟩) S.out.size)).mono ?_
       rintro e w6 ⟨rfl, b6⟩
       have b6' : Below w4.heap.size w4 w6 := ⟨b6.os, b6.tape, b6.output, b6.size, b6.block⟩
       have C6 := Lib.hid (CC.out.below b6' CC.out.lt)
       have P6 := Lib.hid (PP.out.below b6' PP.out.lt)
       have B6 := Lib.hid (B4.out.trans (b6'.mono B4.out.size))
       have k0 : w6.cell? ⟨wr.heap.size, 0, none⟩ = some (.int .i32 r) := C6.out.get 0
       have k1 : w6.cell? ⟨wr.heap.size, 1, none⟩ = some (.int .i64 m) := C6.out.get 1
       have k2 : w6.cell? ⟨wr.heap.size, 2, none⟩ = some (.int .i64 a) := C6.out.get 2
       have l0 : w6.cell? ⟨w2.heap.size, 0, none⟩ = some (.int .i32 pr) := P6.out.get 0
       have l1 : w6.cell? ⟨w2.heap.size, 1, none⟩ = some (.int .i64 pn) := P6.out.get 1
       have l2 : w6.cell? ⟨w2.heap.size, 2, none⟩ = some (.int .i64 pa) := P6.out.get 2
       have g0 := P6.out.free 0
       have g1 := P6.out.free 1
       have g2 := P6.out.free 2
       clear b6 b6' c0 c1 c2 p1
       have RF := Lib.hid (show mayGo (32, 1, 0) l = false by rw [← MG.out, STEP.out, e2, e3, e4]; simp)
       go_wp2
       go_ret
       exact ⟨ret_bool RF.out.symm, B6.out⟩
      ·have e5 : (a != pa) = false := by simpa using e4
       go_quiet (fail)
       go_wp2_with fail
       refine (MB.out _ (S.out.below (show Below w.heap.size w (w4.drewN _) from ⟨B4.out.os, B4.out.tape, B4.out.output, B4.out.size, B4.out.block⟩) S.out.size)).mono ?_
       rintro e w6 ⟨rfl, b6⟩
       have b6' : Below w4.heap.size w4 w6 := ⟨b6.os, b6.tape, b6.output, b6.size, b6.block⟩
       have C6 := Lib.hid (CC.out.below b6' CC.out.lt)
       have P6 := Lib.hid (PP.out.below b6' PP.out.lt)
       have B6 := Lib.hid (B4.out.trans (b6'.mono B4.out.size))
       have k0 : w6.cell? ⟨wr.heap.size, 0, none⟩ = some (.int .i32 r) := C6.out.get 0
       have k1 : w6.cell? ⟨wr.heap.size, 1, none⟩ = some (.int .i64 m) := C6.out.get 1
       have k2 : w6.cell? ⟨wr.heap.size, 2, none⟩ = some (.int .i64 a) := C6.out.get 2
       have l0 : w6.cell? ⟨w2.heap.size, 0, none⟩ = some (.int .i32 pr) := P6.out.get 0
       have l1 : w6.cell? ⟨w2.heap.size, 1, none⟩ = some (.int .i64 pn) := P6.out.get 1
       have l2 : w6.cell? ⟨w2.heap.size, 2, none⟩ = some (.int .i64 pa) := P6.out.get 2
       have g0 := P6.out.free 0
       have g1 := P6.out.free 1
       have g2 := P6.out.free 2
       clear b6 b6' c0 c1 c2 p1
       have RN := Lib.hid (show mayGo (r, m, a) (l.drop (k + 1)) = mayGo (32, 1, 0) l by rw [← MG.out, STEP.out, e2, e3, e4]; simp)
       have N6 := Lib.hid (cellAt_put P6.out r m a)
       have M6 := Lib.hid ((((B6.out.setCell (p := ⟨w2.heap.size, 0, none⟩) hz2' (.int .i32 r)).setCell (p := ⟨w2.heap.size, 1, none⟩) hz2' (.int .i64 m)).setCell (p := ⟨w2.heap.size, 2, none⟩) hz2' (.int .i64 a)))
       go_wp2
       go_roundw
       case rel => exact ⟨k + 1, (r, m, a), by go_num, by omega, N6.out, M6.out, RN⟩
       case measure => simp [intOf]; omega
   ·have hk' : k = n := by omega
    have EN := Lib.hid (show mayGo (32, 1, 0) l = !(pn == 2) by rw [← MG.out, List.drop_eq_nil_of_le (by have := LN.out; omega)]; rfl)
    clear hp hb hk' p0 p2
    cases e2 : (pn == 2)
    ·have e5 : (pn != 2) = true := by simpa using e2
     have E2 := Lib.hid e2
     go_wp2
     go_ret
     exact ⟨ret_bool (a := true) (by rw [EN.out, E2.out]; rfl), HB.out⟩
    ·have e5 : (pn != 2) = false := by simpa using e2
     have E2 := Lib.hid e2
     go_wp2
     go_ret
     exact ⟨ret_bool (a := false) (by rw [EN.out, E2.out]; rfl), HB.out⟩
def lastB (l : List Cel) (d : Cel) : Bool := decide (l.getLast? = some d)
theorem lastB_nil (d : Cel) : lastB [] d = false := rfl
theorem lastB_get {l : List Cel} {k : Nat} {x : Cel} (hk : l.length = k + 1) (hx : l[k]? = some x) (d : Cel) : lastB l d = (x.1 == d.1 && x.2.1 == d.2.1 && x.2.2 == d.2.2) := by
  have e : l.getLast? = some x := by rw [List.getLast?_eq_getElem?, hk]; exact hx
  unfold lastB
  rw [e, Bool.eq_iff_iff]
  obtain ⟨x1, x2, x3⟩ := x
  obtain ⟨d1, d2, d3⟩ := d
  simp [and_assoc]
theorem Below.drewN {B : Nat} {a w : World} (h : Below B a w) (k : Nat) : Below B a (w.drewN k) := ⟨h.os, h.tape, h.output, h.size, h.block⟩
theorem follows_walk (A : Option Addr) (n c : Nat) (l : List Cel) (r m a : Int) (w : World) (hq : Sq w w.heap.size 3 n A (flat l)) (hn : n ≤ 1000000) :
    Calls Tryz.prog 118 #[.slice A n c, cellV r m a] w fun e w' => e = .returned (.bool (lastB l (r, m, a))) ∧ Below w.heap.size w w' := by
  have hln : l.length = n := by have := hq.len; rw [flat_length] at this; omega
  rcases Nat.eq_zero_or_pos n with h0 | h0
  · subst h0
    have e : l = [] := List.eq_nil_of_length_eq_zero hln
    subst e
    rw [lastB_nil]
    clear hln hq
    go_enter Tryz.func118, Tryz.ntmps118
    go_wp2_with fail
    go_quiet (fail)
    go_wp2
    go_ret
    exact ⟨rfl, Below.drewN ((Below.refl _ _).alloc (Nat.le_refl _) _) _⟩
  · obtain ⟨b, off, rfl, hb, ⟨x, y, z⟩, hcc, q0, q1, q2⟩ := hq.three (show n - 1 < n by omega)
    rw [lastB_get (show l.length = (n - 1) + 1 by omega) hcc]
    simp only
    have hnn : n ≤ 1000000 := hn
    have e1 : IntKind.i64.wrap ((n : Int) - 1) = (n : Int) - 1 := IntWalk.i64_in _ (by omega)
    have e2 : 0 ≤ (n : Int) - 1 := by omega
    have e3 : ((n : Int) - 1).toNat = n - 1 := by omega
    have e4 : n - 1 < n := by omega
    clear hln hcc hq
    cases h1 : (x == r) <;> cases h2 : (y == m) <;> cases h3 : (z == a)
    all_goals
      go_enter Tryz.func118, Tryz.ntmps118
      go_wp2_with fail
      go_quiet (fail)
      go_wp2
      go_ret
      exact ⟨rfl, Below.drewN ((Below.refl _ _).alloc (Nat.le_refl _) _) _⟩
def eqL (l l' : List Cel) : Bool := decide (l = l')
theorem eqL_len {l l' : List Cel} (h : l.length ≠ l'.length) : eqL l l' = false := by
  unfold eqL
  simp only [decide_eq_false_iff_not]
  exact fun e => h (by rw [e])
theorem eqL_other {l l' : List Cel} {k : Nat} {x y : Cel} (hx : l[k]? = some x) (hy : l'[k]? = some y) (h : x ≠ y) : eqL l l' = false := by
  unfold eqL
  simp only [decide_eq_false_iff_not]
  intro e
  rw [e, hy] at hx
  injection hx with hx
  exact h hx.symm
theorem eqL_all {l l' : List Cel} {k : Nat} (hl : l.length = k) (hl' : l'.length = k) (h : l.take k = l'.take k) : eqL l l' = true := by
  unfold eqL
  rw [List.take_of_length_le (by omega), List.take_of_length_le (by omega)] at h
  simpa using h
theorem take_same {l l' : List Cel} {k : Nat} {x : Cel} (h : l.take k = l'.take k) (hx : l[k]? = some x) (hy : l'[k]? = some x) : l.take (k + 1) = l'.take (k + 1) := by
  obtain ⟨h1, h2⟩ := List.getElem?_eq_some_iff.1 hx
  obtain ⟨h3, h4⟩ := List.getElem?_eq_some_iff.1 hy
  rw [List.take_succ_eq_append_getElem h1, List.take_succ_eq_append_getElem h3, h, h2, h4]
theorem cel_ne {r m a r' m' a' : Int} (h : ((r == r') && (m == m') && (a == a')) = false) : ((r, m, a) : Cel) ≠ (r', m', a') := by
  intro e
  injection e with e1 e2
  injection e2 with e2 e3
  subst e1 e2 e3
  simp at h
theorem slicesEq_walk (A A' : Option Addr) (n c n' c' : Nat) (l l' : List Cel) (w : World) (hn : n ≤ 1000000) (hn' : n' ≤ 1000000) (hq : Sq w w.heap.size 3 n A (flat l)) (hq' : Sq w w.heap.size 3 n' A' (flat l')) :
    Calls Tryz.prog 66 #[.slice A n c, .slice A' n' c'] w fun e w' => e = .returned (.bool (eqL l l')) ∧ Below w.heap.size w w' := by
  have hl : l.length = n := by have := hq.len; rw [flat_length] at this; omega
  have hl' : l'.length = n' := by have := hq'.len; rw [flat_length] at this; omega
  have Q := Lib.hid hq
  have Q' := Lib.hid hq'
  have LN := Lib.hid hl
  have LN' := Lib.hid hl'
  clear hq hq'
  by_cases hne : n = n'
  · subst hne
    clear hl hl'
    go_enter Tryz.func66, Tryz.ntmps66
    go_wp2
    go_loopw [13] (fun i wr => ∃ k : Nat, i = .int .i64 k ∧ k ≤ n ∧ Hid (l.take k = l'.take k) ∧ Below w.heap.size w wr) (fun i _ => n - (intOf i).toNat)
    case atStart => exact ⟨0, rfl, Nat.zero_le _, Lib.hid rfl, Below.refl _ _⟩
    case round =>
      obtain ⟨k, rfl, hk, TK, hb⟩ := hrel
      by_cases hlt : k < n
      · obtain ⟨b, off, rfl, _, ⟨r, m, a⟩, hcc, q0, q1, q2⟩ := (Q.out.below hb).three hlt
        obtain ⟨b', off', rfl, _, ⟨r', m', a'⟩, hcc', q0', q1', q2'⟩ := (Q'.out.below hb).three hlt
        have HB := Lib.hid hb
        have HC := Lib.hid hcc
        have HC' := Lib.hid hcc'
        clear hb hcc hcc'
        simp only at q0 q1 q2 q0' q1' q2'
        cases hE : ((r == r') && (m == m') && (a == a'))
        · have EF := Lib.hid (eqL_other HC.out HC'.out (cel_ne hE))
          cases h1 : (r == r') <;> cases h2 : (m == m') <;> cases h3 : (a == a')
          all_goals
            first
              | (exfalso; rw [h1, h2, h3] at hE; cases hE; done)
              | (clear hE
                 go_wp2_with fail
                 go_quiet (fail)
                 go_wp2
                 go_ret
                 exact ⟨ret_bool EF.out.symm, Below.drewN HB.out _⟩)
        · simp only [Bool.and_eq_true, beq_iff_eq] at hE
          obtain ⟨⟨rfl, rfl⟩, rfl⟩ := hE
          have TK2 := Lib.hid (take_same TK.out HC.out HC'.out)
          go_wp2_with fail
          go_quiet (fail)
          go_wp2
          go_roundw
          case rel => exact ⟨k + 1, by go_num, by omega, TK2, Below.drewN HB.out _⟩
          case measure => simp [intOf]; omega
      · have hk' : k = n := by omega
        have ET := Lib.hid (eqL_all LN.out LN'.out (by rw [← hk']; exact TK.out))
        have HB := Lib.hid hb
        clear hk' hb
        go_wp2
        go_ret
        exact ⟨ret_bool ET.out.symm, HB.out⟩
  · have EF := Lib.hid (eqL_len (l := l) (l' := l') (by omega))
    have d1 : ((n : Int) != (n' : Int)) = true := by simp; omega
    clear hl hl'
    go_enter Tryz.func66, Tryz.ntmps66
    go_wp2
    go_ret
    exact ⟨ret_bool EF.out.symm, Below.refl _ _⟩
theorem eqCells_walk (A A' : Option Addr) (n c n' c' : Nat) (l l' : List Cel) (w : World) (hn : n ≤ 1000000) (hn' : n' ≤ 1000000) (hq : Sq w w.heap.size 3 n A (flat l)) (hq' : Sq w w.heap.size 3 n' A' (flat l')) :
    Calls Tryz.prog 39 #[.slice A n c, .slice A' n' c'] w fun e w' => e = .returned (.bool (eqL l l')) ∧ Below w.heap.size w w' := by
  have hl : l.length = n := by have := hq.len; rw [flat_length] at this; omega
  have hl' : l'.length = n' := by have := hq'.len; rw [flat_length] at this; omega
  have Q := Lib.hid hq
  have Q' := Lib.hid hq'
  have LN := Lib.hid hl
  have LN' := Lib.hid hl'
  clear hq hq'
  by_cases hne : n = n'
  · subst hne
    clear hl hl'
    go_enter Tryz.func39, Tryz.ntmps39
    go_wp2
    go_loopw [5] (fun i wr => ∃ k : Nat, i = .int .i64 k ∧ k ≤ n ∧ Hid (l.take k = l'.take k) ∧ Below w.heap.size w wr) (fun i _ => n - (intOf i).toNat)
    case atStart => exact ⟨0, rfl, Nat.zero_le _, Lib.hid rfl, Below.refl _ _⟩
    case round =>
      obtain ⟨k, rfl, hk, TK, hb⟩ := hrel
      by_cases hlt : k < n
      · obtain ⟨b, off, rfl, _, ⟨r, m, a⟩, hcc, q0, q1, q2⟩ := (Q.out.below hb).three hlt
        obtain ⟨b', off', rfl, _, ⟨r', m', a'⟩, hcc', q0', q1', q2'⟩ := (Q'.out.below hb).three hlt
        have HB := Lib.hid hb
        have HC := Lib.hid hcc
        have HC' := Lib.hid hcc'
        clear hb hcc hcc'
        simp only at q0 q1 q2 q0' q1' q2'
        cases hE : ((r == r') && (m == m') && (a == a'))
        · have EF := Lib.hid (eqL_other HC.out HC'.out (cel_ne hE))
          cases h1 : (r == r') <;> cases h2 : (m == m') <;> cases h3 : (a == a')
          all_goals
            first
              | (exfalso; rw [h1, h2, h3] at hE; cases hE; done)
              | (clear hE
                 go_wp2_with fail
                 go_quiet (fail)
                 go_wp2
                 go_ret
                 exact ⟨ret_bool EF.out.symm, Below.drewN HB.out _⟩)
        · simp only [Bool.and_eq_true, beq_iff_eq] at hE
          obtain ⟨⟨rfl, rfl⟩, rfl⟩ := hE
          have TK2 := Lib.hid (take_same TK.out HC.out HC'.out)
          go_wp2_with fail
          go_quiet (fail)
          go_wp2
          go_roundw
          case rel => exact ⟨k + 1, by go_num, by omega, TK2, Below.drewN HB.out _⟩
          case measure => simp [intOf]; omega
      · have hk' : k = n := by omega
        have ET := Lib.hid (eqL_all LN.out LN'.out (by rw [← hk']; exact TK.out))
        have HB := Lib.hid hb
        clear hk' hb
        go_wp2
        go_ret
        exact ⟨ret_bool ET.out.symm, HB.out⟩
  · have EF := Lib.hid (eqL_len (l := l) (l' := l') (by omega))
    have d1 : ((n : Int) != (n' : Int)) = true := by simp; omega
    clear hl hl'
    go_enter Tryz.func39, Tryz.ntmps39
    go_wp2
    go_ret
    exact ⟨ret_bool EF.out.symm, Below.refl _ _⟩
theorem packEq_walk (A A' : Option Addr) (n c n' c' : Nat) (wrap wrap' : Bool) (l l' : List Cel) (w : World) (hn : n ≤ 1000000) (hn' : n' ≤ 1000000) (hq : Sq w w.heap.size 3 n A (flat l)) (hq' : Sq w w.heap.size 3 n' A' (flat l')) :
    Calls Tryz.prog 99 #[rowV A n c wrap, rowV A' n' c' wrap'] w fun e w' => e = .returned (.bool (wrap == wrap' && eqL l l')) ∧ Below w.heap.size w w' := by
  have w2b : Below w.heap.size w ((w.alloc (.cells #[.slice A n c, .bool wrap] 24)).alloc (.cells #[.slice A' n' c', .bool wrap'] 24)) := ((Below.refl _ _).alloc (Nat.le_refl _) _).alloc (by simp) _
  have EW := Lib.hid (fun w' (h : Below w.heap.size w w') => slicesEq_walk A A' n c n' c' l l' w' hn hn' ((hq.below h).up h.size) ((hq'.below h).up h.size))
  have W2B := Lib.hid w2b
  clear hq hq' w2b
  cases wrap <;> cases wrap'
  all_goals
    go_enter Tryz.func99, Tryz.ntmps99
    go_wp2_with fail
    first
      | (go_ret
         exact ⟨rfl, W2B.out⟩)
      | (refine (EW.out _ W2B.out).mono ?_
         rintro e w3 ⟨rfl, b3⟩
         have B3 := Lib.hid (W2B.out.trans (b3.mono W2B.out.size))
         clear b3
         go_wp2
         go_ret
         exact ⟨by simp, B3.out⟩)
theorem eqRow_walk (A A' : Option Addr) (n c n' c' : Nat) (wrap wrap' : Bool) (l l' : List Cel) (w : World) (hn : n ≤ 1000000) (hn' : n' ≤ 1000000) (hq : Sq w w.heap.size 3 n A (flat l)) (hq' : Sq w w.heap.size 3 n' A' (flat l')) :
    Calls Tryz.prog 14 #[rowV A n c wrap, rowV A' n' c' wrap'] w fun e w' => e = .returned (.bool (wrap == wrap' && eqL l l')) ∧ Below w.heap.size w w' := by
  have w2b : Below w.heap.size w ((w.alloc (.cells #[.slice A n c, .bool wrap] 24)).alloc (.cells #[.slice A' n' c', .bool wrap'] 24)) := ((Below.refl _ _).alloc (Nat.le_refl _) _).alloc (by simp) _
  have EW := Lib.hid (fun w' (h : Below w.heap.size w w') => eqCells_walk A A' n c n' c' l l' w' hn hn' ((hq.below h).up h.size) ((hq'.below h).up h.size))
  have W2B := Lib.hid w2b
  clear hq hq' w2b
  cases wrap <;> cases wrap'
  all_goals
    go_enter Tryz.func14, Tryz.ntmps14
    go_wp2_with fail
    first
      | (go_ret
         exact ⟨rfl, W2B.out⟩)
      | (refine (EW.out _ W2B.out).mono ?_
         rintro e w3 ⟨rfl, b3⟩
         have B3 := Lib.hid (W2B.out.trans (b3.mono W2B.out.size))
         clear b3
         go_wp2
         go_ret
         exact ⟨by simp, B3.out⟩)
theorem infoByte : (Tryz.prog.info? 5).map (fun i => (i.zero, i.size, i.bytes)) = some (some (.int .u8 0), 1, 1) := by kernel_rfl
structure OnlyRow (g : Nat) (w w' : World) : Prop where
 os : w'.os = w.os
 tape : w'.tape = w.tape
 output : w'.output = w.output
 size : w'.heap.size = w.heap.size
 block : ∀ k, k ≠ g → w'.heap[k]? = w.heap[k]?
theorem OnlyRow.refl (g : Nat) (w : World) : OnlyRow g w w := ⟨rfl, rfl, rfl, rfl, fun _ _ => rfl⟩
theorem OnlyRow.trans {g : Nat} {w w' w2 : World} (h : OnlyRow g w w') (h2 : OnlyRow g w' w2) : OnlyRow g w w2 :=
 ⟨h2.os.trans h.os, h2.tape.trans h.tape, h2.output.trans h.output, h2.size.trans h.size, fun k hk => (h2.block k hk).trans (h.block k hk)⟩
theorem OnlyRow.ofDrew {g : Nat} {w w' : World} (h : OnlyRow g w.drew w') : OnlyRow g w w' := ⟨h.os, h.tape, h.output, h.size, h.block⟩
theorem OnlyRow.cell (g j : Nat) (w : World) (v : Value) : OnlyRow g w (w.setCell ⟨g, j, none⟩ v) := ⟨rfl, rfl, rfl, by simp, fun k hk => Below.heap_setCell _ _ _ _ hk⟩
structure Turned (M : Nat → Prop) (w w' : World) : Prop where
 os : w'.os = w.os
 tape : w'.tape = w.tape
 output : w'.output = w.output
 size : w.heap.size ≤ w'.heap.size
 block : ∀ k, k < w.heap.size → ¬ M k → w'.heap[k]? = w.heap[k]?
namespace Turned
variable {M M' : Nat → Prop} {w w' w2 : World}
theorem refl (M : Nat → Prop) (w : World) : Turned M w w := ⟨rfl, rfl, rfl, Nat.le_refl _, fun _ _ _ => rfl⟩
theorem trans (h : Turned M w w') (h2 : Turned M' w' w2) (hm : ∀ k, k < w.heap.size → M' k → M k) : Turned M w w2 :=
 ⟨h2.os.trans h.os, h2.tape.trans h.tape, h2.output.trans h.output, Nat.le_trans h.size h2.size, fun k hk hn => (h2.block k (Nat.lt_of_lt_of_le hk h.size) (fun x => hn (hm k hk x))).trans (h.block k hk hn)⟩
theorem mono (h : Turned M w w') (hm : ∀ k, k < w.heap.size → M k → M' k) : Turned M' w w' := ⟨h.os, h.tape, h.output, h.size, fun k hk hn => h.block k hk (fun x => hn (hm k hk x))⟩
theorem ofBelow (h : Below w.heap.size w w') (M : Nat → Prop) : Turned M w w' := ⟨h.os, h.tape, h.output, h.size, fun k hk _ => h.block k hk⟩
theorem ofOnly {g : Nat} (h : OnlyRow g w w') : Turned (· = g) w w' := ⟨h.os, h.tape, h.output, Nat.le_of_eq h.size.symm, fun k _ hk => h.block k hk⟩
theorem ofGrown {row : Option Nat} (h : w.grownBy w' row) : Turned (fun k => row = some k) w w' := ⟨h.os, h.tape, h.output, h.size, fun k hk hn => h.block k hk (fun e => hn e.symm)⟩
theorem ofCell (g j : Nat) (w : World) (v : Value) : Turned (· = g) w (w.setCell ⟨g, j, none⟩ v) := ofOnly (OnlyRow.cell g j w v)
theorem toBelow (h : Turned M w w') {B : Nat} (hB : B ≤ w.heap.size) (hm : ∀ k, k < B → ¬ M k) : Below B w w' := ⟨h.os, h.tape, h.output, h.size, fun k hk => h.block k (Nat.lt_of_lt_of_le hk hB) (hm k hk)⟩
end Turned
def Typed (w : World) (e : TypeId) (k : Nat) : Prop := ∃ cs fr, w.heap[k]? = some (.cells cs e fr)
theorem Typed.apart {w : World} {e e' : TypeId} {k k' : Nat} (h : Typed w e k) (h' : Typed w e' k') (hne : e ≠ e') : k ≠ k' := by
 rintro rfl
 obtain ⟨_, _, h⟩ := h
 obtain ⟨_, _, h'⟩ := h'
 rw [h] at h'
 injection h' with h'
 injection h' with _ h'
 exact hne h'
def HasB (w : World) (base : Nat) (v : Value) (xs : List Int) : Prop := w.ownsRow base 5 1 v xs.length (xs.map (Value.int .u8))
theorem HasB.nothing (w : World) (base : Nat) : HasB w base (.slice none 0 0) [] := World.ownsRow_nil w base _ _
theorem HasB.shape {w : World} {base : Nat} {v : Value} {xs : List Int} (h : HasB w base v xs) : ∃ A c, v = .slice A xs.length c := by
 rcases h.2 with ⟨rfl, h0⟩ | ⟨g, cap, cur, rfl, _⟩
 ·rw [h0]; exact ⟨_, _, rfl⟩
 ·exact ⟨_, _, rfl⟩
theorem HasB.turned {M : Nat → Prop} {w w' : World} {base : Nat} {v : Value} {xs : List Int} (h : HasB w base v xs) (ht : Turned M w w') (hm : ∀ k, M k → ¬ Typed w 5 k) : HasB w' base v xs := by
 refine ⟨h.1, ?_⟩
 rcases h.2 with e | ⟨b, cap, cur, rfl, e2, e3, rr⟩
 ·exact .inl e
 ·exact .inr ⟨b, cap, cur, rfl, e2, (ht.block b (Array.getElem?_eq_some_iff.1 e3).1 (fun x => hm b x ⟨_, _, e3⟩)).trans e3, rr⟩
theorem HasB.below {w w' : World} {B base : Nat} {v : Value} {xs : List Int} (h : HasB w base v xs) (hb : Below B w w') (hv : ∀ k, v.ownBlock = some k → k < B) : HasB w' base v xs := by
 refine ⟨h.1, ?_⟩
 rcases h.2 with e | ⟨g, cap, cur, rfl, e2, e3, r⟩
 ·exact .inl e
 ·exact .inr ⟨g, cap, cur, rfl, e2, (hb.block g (hv g rfl)).trans e3, r⟩
theorem HasB.lt {w : World} {base : Nat} {v : Value} {xs : List Int} (h : HasB w base v xs) : ∀ k, v.ownBlock = some k → k < w.heap.size := fun k e => (World.ownsRow.lt h k e).2
theorem one_byte (x : Int) : ∀ u ∈ [Value.int .u8 x], u.oneCell' = true := by intro u hu; simp at hu; subst hu; rfl
theorem cell_new_at' {w : World} {n : Nat} (h : w.heap.size = n) (x : Value) (t : TypeId) : ∀ j u, [x][j]? = some u → (w.alloc (.cells #[x] t)).cell? ((⟨n, 0, none⟩ : Addr).add j) = some u := by
 subst h; exact cell_one_new w x t
theorem fitb1 {n : Nat} (h : n ≤ 1000000) : n + 1 ≤ maxLen := by unfold maxLen; omega
theorem fitb2 {n : Nat} (h : n ≤ 1000000) : (n + 1) * 1 ≤ 140737488355328 := by omega
structure Grew (v v' : Value) (w w' : World) : Prop where
 by' : w.grownBy w' v.ownBlock
 at' : v'.ownBlock = v.ownBlock ∨ ∃ k, v'.ownBlock = some k ∧ w.heap.size ≤ k
theorem Grew.refl (v : Value) (w : World) : Grew v v w w := ⟨⟨rfl, rfl, rfl, Nat.le_refl _, fun _ _ _ => rfl⟩, .inl rfl⟩
theorem Grew.trans {v v' v'' : Value} {w w' w'' : World} (h : Grew v v' w w') (k : Grew v' v'' w' w'') : Grew v v'' w w'' := by
 have hs := h.by'.size
 refine ⟨⟨k.by'.os.trans h.by'.os, k.by'.tape.trans h.by'.tape, k.by'.output.trans h.by'.output, Nat.le_trans hs k.by'.size, fun i hi hne => ?_⟩, ?_⟩
 ·refine (k.by'.block i (by omega) (fun e => ?_)).trans (h.by'.block i hi hne)
  rcases h.at' with a | ⟨j, a, hj⟩
  ·exact hne (e.trans a)
  ·rw [a] at e; injection e with e; omega
 ·rcases k.at' with a | ⟨j, a, hj⟩
  ·rcases h.at' with b | ⟨j, b, hj⟩
   ·exact .inl (a.trans b)
   ·exact .inr ⟨j, a.trans b, hj⟩
  ·exact .inr ⟨j, a, by omega⟩
theorem Grew.alloc {v v' : Value} {w w' : World} {o : Obj} (hg : (w.alloc o).grownBy w' v.ownBlock) (hat : v'.ownBlock = v.ownBlock ∨ v'.ownBlock = some (w.alloc o).heap.size) : Grew v v' w w' := by
 have hs := hg.size
 simp at hs
 refine ⟨⟨hg.os, hg.tape, hg.output, by omega, fun i hi hne => (hg.block i (by simp; omega) hne).trans (Below.heap_alloc w o i hi)⟩, ?_⟩
 rcases hat with a | a
 ·exact .inl a
 ·exact .inr ⟨_, a, by simp⟩
theorem Grew.below {v v' : Value} {w w' : World} {B : Nat} (h : Grew v v' w w') (hB : B ≤ w.heap.size) (hv : ∀ k, v.ownBlock = some k → B ≤ k) : Below B w w' :=
 (Below.refl B w).grown h.by' hB hv
theorem or128 (k : Nat) : bits .or .u8 ((k : Int) % 256) 128 = ((k % 128 + 128 : Nat) : Int) := by
 have key : ∀ x : Fin 256, bits .or .u8 (x.val : Int) 128 = ((x.val % 128 + 128 : Nat) : Int) := by decide +kernel
 have h := key ⟨k % 256, Nat.mod_lt _ (by omega)⟩
 simp only at h
 rw [show ((k : Int) % 256) = ((k % 256 : Nat) : Int) by omega, h]
 congr 2
 omega
def UintPost (got : List Int) (n : Nat) (base : Nat) (v : Value) (w : World) (e : Ending) (w' : World) : Prop := ∃ v', e = .returned v' ∧ HasB w' base v' (got ++ uintL n) ∧ Grew v v' w w'
theorem appendUint_walk (n : Nat) (hn : n < 2 ^ 64) (got : List Int) (hg : got.length ≤ 900000) (base : Nat) (v : Value) (w : World) (hv : HasB w base v got) (hb : base ≤ w.heap.size) :
  Calls Tryz.prog 114 #[v, .int .u64 n] w fun e w' => UintPost got n base v w e w' := by
 obtain ⟨i0, hi, hz0, hz1, hz2⟩ := info_parts infoByte
 have hn' : (n : Int) ≤ 18446744073709551615 := by omega
 have HV := Lib.hid hv
 have HN := Lib.hid hn'
 have HN2 := Lib.hid hn
 clear hv hn hn'
 go_enter Tryz.func114, Tryz.ntmps114
 go_wp2_with fail
 go_loopw [0, 1] (fun u x wr => ∃ (k : Nat) (got' : List Int), x = .int .u64 k ∧ Hid (got' ++ uintL k = got ++ uintL n) ∧ k ≤ n ∧ HasB wr base u got' ∧ Grew v u w wr) (fun _ x _ => (intOf x).toNat)
 case atStart => exact ⟨n, got, rfl, Lib.hid rfl, Nat.le_refl _, HV.out, Grew.refl _ _⟩
 case round =>
  obtain ⟨k, got', rfl, GE, hkn, hv, hgr⟩ := hrel
  have hl : got'.length ≤ 950000 := by
   have h1 := congrArg List.length GE.out
   simp only [List.length_append] at h1
   have h2 := uintL_len HN2.out
   omega
  have hsz := hgr.by'.size
  have HV' := Lib.hid hv
  have HG := Lib.hid hgr
  clear hv hgr
  by_cases hlt : 128 ≤ k
  ·obtain ⟨x, hx⟩ : ∃ x, bits .or .u8 ((k : Int) % 256) 128 = x := ⟨_, rfl⟩
   have XE := Lib.hid (hx.symm.trans (or128 k))
   go_wp2_with (at_builtin; refine wpList_append_own_at _ rfl _ _ 60 rfl base 5 i0 (.int .u8 0) 1 1 Tryz.underlying60 hi hz0 hz1 hz2 rfl (by decide) u0 got'.length _ rfl (HV'.out.alloc _) ⟨wr.heap.size, 0, none⟩ 1 1 [.int .u8 x] rfl rfl (cell_new_at' rfl _ _) (one_byte _) (fitb1 (by omega)) (fitb2 (by omega)) (by simp; omega) ?_; intro v' w4 hown hg2 _ hat)
   have N4 := HG.out.trans (Grew.alloc hg2 hat)
   have O4 : HasB w4 base v' (got' ++ [x]) := by unfold HasB; rw [List.length_append, List.map_append]; exact hown
   have NH := Lib.hid N4
   have OH := Lib.hid O4
   clear hown hg2 hat hx N4 O4
   go_roundw
   case rel => exact ⟨k / 128, got' ++ [x], by go_num, Lib.hid (by rw [← GE.out, uintL_big (n := k) (by omega), XE.out]; simp), by omega, OH.out, NH.out⟩
   case measure => simp [intOf]; omega
  ·have XE := Lib.hid (uintL_small (n := k) (by omega))
   go_wp2_with (at_builtin; refine wpList_append_own_at _ rfl _ _ 60 rfl base 5 i0 (.int .u8 0) 1 1 Tryz.underlying60 hi hz0 hz1 hz2 rfl (by decide) u0 got'.length _ rfl (HV'.out.alloc _) ⟨wr.heap.size, 0, none⟩ 1 1 [.int .u8 (k : Int)] rfl rfl (cell_new_at' rfl _ _) (one_byte _) (fitb1 (by omega)) (fitb2 (by omega)) (by simp; omega) ?_; intro v' w4 hown hg2 _ hat)
   have N4 := HG.out.trans (Grew.alloc hg2 hat)
   have O4 : HasB w4 base v' (got ++ uintL n) := by rw [← GE.out, XE.out]; unfold HasB; rw [List.length_append, List.map_append]; exact hown
   clear hown hg2 hat
   go_ret
   exact ⟨v', rfl, O4, N4⟩
end Go.Proofs.YtgcfpfhmjhkgnaaGreatDoor
namespace Go.Proofs
open Go.Shelf
def Tryz.lays169_ren : Go.Shelf.Ren := ⟨fun | 169 => 145 | n => n, fun | 70 => 170 | 9 => 9 | 0 => 0 | 72 => 172 | 37 => 60 | 127 => 179 | 3 => 3 | 5 => 5 | n => n, fun | n => n⟩
theorem Tryz.lays169 : Go.Proofs.Lays.n169 Tryz.prog Tryz.lays169_ren := {
 mixed := by kernel_rfl
 f169 := Tryz.func145.trans (congrArg some (by kernel_rfl))
 t0 := Tryz.underlying0
 a0 := Tryz.isAgg0
 z0 := Tryz.sizeOf0
 v0 := Tryz.zeroValue0
 t3 := Tryz.underlying3
 a3 := Tryz.isAgg3
 z3 := Tryz.sizeOf3
 v3 := Tryz.zeroValue3
 t9 := Tryz.underlying9
 a9 := Tryz.isAgg9
 z9 := Tryz.sizeOf9
 v9 := Tryz.zeroValue9
 t37 := Tryz.underlying60
 a37 := Tryz.isAgg60
 z37 := Tryz.sizeOf60
 v37 := Tryz.zeroValue60
 t70 := Tryz.underlying170
 a70 := Tryz.isAgg170
 z70 := Tryz.sizeOf170
 v70 := Tryz.zeroValue170
 t72 := Tryz.underlying172
 a72 := Tryz.isAgg172
 z72 := Tryz.sizeOf172
 v72 := Tryz.zeroValue172
 t127 := Tryz.underlying179
 a127 := Tryz.isAgg179
 z127 := Tryz.sizeOf179
 v127 := Tryz.zeroValue179 }
theorem Tryz.Builder_Extra_169 : Builder.Extra Tryz.prog Tryz.lays169_ren := {
 sizeBuilder := by kernel_rfl
 liesBuilder := by kernel_rfl
 t5 := Tryz.underlying5
 a5 := Tryz.isAgg5
 z5 := Tryz.sizeOf5
 v5 := Tryz.zeroValue5
 infoByte := by kernel_rfl
 cellsByte := by kernel_rfl
 sizeByte := by kernel_rfl
 neB5 := by decide }
open Go.RowKit in
theorem Tryz.Builder_String_any (B b : Nat) (l : List UInt8) (w : World) (h : Lib.IsBuilder 172 5 B b (Lib.byteCells l) w) (hBw : B ≤ w.heap.size) :
  Calls Tryz.prog 145 #[.pointer (some ⟨b, 0, none⟩)] w fun e w' => e = .returned (.string ⟨l.toArray⟩) ∧ Below B w w' := Any.Builder_String_any Tryz.lays169 Tryz.Builder_Extra_169 B b l w h hBw
def Tryz.lays119_ren : Go.Shelf.Ren := ⟨fun | 119 => 130 | n => n, fun | 21 => 21 | 4 => 4 | n => n, fun | n => n⟩
theorem Tryz.lays119 : Go.Proofs.Lays.n119 Tryz.prog Tryz.lays119_ren := {
 mixed := by kernel_rfl
 f119 := Tryz.func130.trans (congrArg some (by kernel_rfl))
 t4 := Tryz.underlying4
 a4 := Tryz.isAgg4
 z4 := Tryz.sizeOf4
 v4 := Tryz.zeroValue4
 t21 := Tryz.underlying21
 a21 := Tryz.isAgg21
 z21 := Tryz.sizeOf21
 v21 := Tryz.zeroValue21 }
theorem Tryz.utf8_ValidRune (r : Int) (w : World) :
  Calls Tryz.prog 130 #[.int .i32 r] w fun e w' => e = .returned (.bool (Lib.validRune r)) ∧ w' = w := Any.utf8_ValidRune Tryz.lays119 r w
def Tryz.lays137_ren : Go.Shelf.Ren := ⟨fun | 137 => 129 | 217 => 140 | 266 => 146 | n => n, fun | 9 => 9 | 5 => 5 | 3 => 3 | n => n, fun | n => n⟩
theorem Tryz.lays137 : Go.Proofs.Lays.n137 Tryz.prog Tryz.lays137_ren := {
 mixed := by kernel_rfl
 f137 := Tryz.func129.trans (congrArg some (by kernel_rfl))
 f217 := Tryz.func140.trans (congrArg some (by kernel_rfl))
 f266 := Tryz.func146.trans (congrArg some (by kernel_rfl))
 t3 := Tryz.underlying3
 a3 := Tryz.isAgg3
 z3 := Tryz.sizeOf3
 v3 := Tryz.zeroValue3
 t5 := Tryz.underlying5
 a5 := Tryz.isAgg5
 z5 := Tryz.sizeOf5
 v5 := Tryz.zeroValue5
 t9 := Tryz.underlying9
 a9 := Tryz.isAgg9
 z9 := Tryz.sizeOf9
 v9 := Tryz.zeroValue9 }
open Go.RowKit in
theorem Tryz.strings_IndexByte (s : ByteArray) (c : Int) (w : World) :
  Calls Tryz.prog 129 #[.string s, .int .u8 c] w fun e w' => e = .returned (.int .i64 (Lib.indexByte s.data.toList c.toNat.toUInt8)) ∧ w' = w := Any.strings_IndexByte Tryz.lays137 s c w
def Tryz.lays242_ren : Go.Shelf.Ren := ⟨fun | 242 => 150 | 278 => 153 | n => n, fun | 37 => 60 | 21 => 21 | 51 => 151 | 4 => 4 | 5 => 5 | 46 => 121 | n => n, fun | n => n⟩
theorem Tryz.lays242 : Go.Proofs.Lays.n242 Tryz.prog Tryz.lays242_ren := {
 mixed := by kernel_rfl
 f242 := Tryz.func150.trans (congrArg some (by kernel_rfl))
 f278 := Tryz.func153.trans (congrArg some (by kernel_rfl))
 t4 := Tryz.underlying4
 a4 := Tryz.isAgg4
 z4 := Tryz.sizeOf4
 v4 := Tryz.zeroValue4
 t5 := Tryz.underlying5
 a5 := Tryz.isAgg5
 z5 := Tryz.sizeOf5
 v5 := Tryz.zeroValue5
 t21 := Tryz.underlying21
 a21 := Tryz.isAgg21
 z21 := Tryz.sizeOf21
 v21 := Tryz.zeroValue21
 t37 := Tryz.underlying60
 a37 := Tryz.isAgg60
 z37 := Tryz.sizeOf60
 v37 := Tryz.zeroValue60
 t46 := Tryz.underlying121
 a46 := Tryz.isAgg121
 z46 := Tryz.sizeOf121
 v46 := Tryz.zeroValue121
 t51 := Tryz.underlying151
 a51 := Tryz.isAgg151
 z51 := Tryz.sizeOf151
 v51 := Tryz.zeroValue151 }
open Go.RowKit in
theorem Tryz.utf8_AppendRune_plain (B : Nat) (v : Value) (n : Nat) (xs : List Value) (r : Int) (hr0 : -2147483648 ≤ r) (hr1 : r ≤ 2147483647) (w : World) (hown : w.ownsRow B 5 1 v n xs) (hlen : n + 4 ≤ 140737488355328) (hBw : B ≤ w.heap.size) :
  Calls Tryz.prog 150 #[v, .int .i32 r] w fun e w' => ∃ v', e = .returned v' ∧ w'.ownsRow B 5 1 v' (n + (Lib.runeCells r).length) (xs ++ Lib.runeCells r) ∧ ∃ o, (w.alloc o).grownBy w' v.ownBlock := Any.utf8_AppendRune_plain Tryz.lays242 (by kernel_rfl) B v n xs r hr0 hr1 w hown hlen hBw
def Tryz.lays151_ren : Go.Shelf.Ren := ⟨fun | 151 => 75 | 152 => 108 | 137 => 129 | 119 => 130 | 224 => 131 | 225 => 132 | 217 => 140 | 266 => 146 | n => n, fun | 9 => 9 | 21 => 21 | 4 => 4 | 3 => 3 | 5 => 5 | 0 => 0 | 46 => 121 | n => n, fun | n => n⟩
theorem Tryz.lays151 : Go.Proofs.Lays.n151 Tryz.prog Tryz.lays151_ren := {
 mixed := by kernel_rfl
 f119 := Tryz.func130.trans (congrArg some (by kernel_rfl))
 f137 := Tryz.func129.trans (congrArg some (by kernel_rfl))
 f151 := Tryz.func75.trans (congrArg some (by kernel_rfl))
 f152 := Tryz.func108.trans (congrArg some (by kernel_rfl))
 f217 := Tryz.func140.trans (congrArg some (by kernel_rfl))
 f224 := Tryz.func131.trans (congrArg some (by kernel_rfl))
 f225 := Tryz.func132.trans (congrArg some (by kernel_rfl))
 f266 := Tryz.func146.trans (congrArg some (by kernel_rfl))
 t0 := Tryz.underlying0
 a0 := Tryz.isAgg0
 z0 := Tryz.sizeOf0
 v0 := Tryz.zeroValue0
 t3 := Tryz.underlying3
 a3 := Tryz.isAgg3
 z3 := Tryz.sizeOf3
 v3 := Tryz.zeroValue3
 t4 := Tryz.underlying4
 a4 := Tryz.isAgg4
 z4 := Tryz.sizeOf4
 v4 := Tryz.zeroValue4
 t5 := Tryz.underlying5
 a5 := Tryz.isAgg5
 z5 := Tryz.sizeOf5
 v5 := Tryz.zeroValue5
 t9 := Tryz.underlying9
 a9 := Tryz.isAgg9
 z9 := Tryz.sizeOf9
 v9 := Tryz.zeroValue9
 t21 := Tryz.underlying21
 a21 := Tryz.isAgg21
 z21 := Tryz.sizeOf21
 v21 := Tryz.zeroValue21
 t46 := Tryz.underlying121
 a46 := Tryz.isAgg121
 z46 := Tryz.sizeOf121
 v46 := Tryz.zeroValue121 }
open Go.RowKit Go.Lib in
theorem Tryz.strings_ContainsRune_ascii (s : ByteArray) (r : Int) (w : World) (h0 : 0 ≤ r) (h1 : r < 128) :
  Calls Tryz.prog 75 #[.string s, .int .i32 r] w fun e w' => e = .returned (.bool (decide (0 ≤ Lib.indexByte s.data.toList r.toNat.toUInt8))) ∧ w' = w := Any.strings_ContainsRune_ascii Tryz.lays151 s r w h0 h1
def Tryz.lays212_ren : Go.Shelf.Ren := ⟨fun | 212 => 106 | 263 => 127 | 264 => 128 | n => n, fun | 46 => 121 | 51 => 151 | 146 => 152 | 53 => 109 | 148 => 154 | n => n, fun | n => n⟩
theorem Tryz.lays212 : Go.Proofs.Lays.n212 Tryz.prog Tryz.lays212_ren := {
 mixed := by kernel_rfl
 f212 := Tryz.func106.trans (congrArg some (by kernel_rfl))
 f263 := Tryz.func127.trans (congrArg some (by kernel_rfl))
 f264 := Tryz.func128.trans (congrArg some (by kernel_rfl))
 t46 := Tryz.underlying121
 a46 := Tryz.isAgg121
 z46 := Tryz.sizeOf121
 v46 := Tryz.zeroValue121
 t51 := Tryz.underlying151
 a51 := Tryz.isAgg151
 z51 := Tryz.sizeOf151
 v51 := Tryz.zeroValue151
 t53 := Tryz.underlying109
 a53 := Tryz.isAgg109
 z53 := Tryz.sizeOf109
 v53 := Tryz.zeroValue109
 t146 := Tryz.underlying152
 a146 := Tryz.isAgg152
 z146 := Tryz.sizeOf152
 v146 := Tryz.zeroValue152
 t148 := Tryz.underlying154
 a148 := Tryz.isAgg154
 z148 := Tryz.sizeOf154
 v148 := Tryz.zeroValue154 }
open Go.RowKit Go.Lib in
theorem Tryz.bits_Mul (x y : Nat) (hx : x < 18446744073709551616) (hy : y < 18446744073709551616) (w : World) :
  Calls Tryz.prog 106 #[.int .u64 x, .int .u64 y] w fun e w' => e = .returned (.tuple #[.int .u64 ((x * y / 18446744073709551616 : Nat) : Int), .int .u64 ((x * y % 18446744073709551616 : Nat) : Int)]) ∧ w' = w := Any.bits_Mul Tryz.lays212 x y hx hy w
end Go.Proofs
namespace Go.Proofs.YtgcfpfhmjhkgnaaGreatDoor
open Go.ChangeShapes Go.WideShapes Go.ChangeAt Go.RowKit
theorem sizeB : (Tryz.prog.info? 172).map (·.size) = some 2 := by kernel_rfl
theorem liesB : liesAt Tryz.prog Tryz.prog.depth 172 (2 / Tryz.prog.cellsOf 172) 0 172 1 = true := by kernel_rfl
theorem copyCheck_used (b : Nat) (v : Value) (w : World) (h : w.heap[b]? = some (.cells #[.pointer (some ⟨b, 0, none⟩), v] 172 (0, 0))) :
  Calls Tryz.prog 149 #[.pointer (some ⟨b, 0, none⟩)] w fun e w' => e = .returned (.tuple #[]) ∧ w = w' := by
 obtain ⟨j, hj, _⟩ := Option.map_eq_some_iff.1 sizeB
 have c0 : w.cell? ⟨b, 0, none⟩ = some (.pointer (some ⟨b, 0, none⟩)) := Lib.cell_of_heap h 0
 clear h
 go_enter Tryz.func149, Tryz.ntmps149
 go_wp2
 rw [Lib.run_neq_ptr_same w _ Tryz.underlying170 hj]
 go_wp2
 go_end0
 exact ⟨rfl, rfl⟩
theorem copyCheck_fresh (b : Nat) (v : Value) (w : World) (h : w.heap[b]? = some (.cells #[.pointer none, v] 172 (0, 0))) :
  Calls Tryz.prog 149 #[.pointer (some ⟨b, 0, none⟩)] w fun e w' => e = .returned (.tuple #[]) ∧ w' = w.setCell ⟨b, 0, none⟩ (.pointer (some ⟨b, 0, none⟩)) := by
 obtain ⟨j, hj, hjs⟩ := Option.map_eq_some_iff.1 sizeB
 have hsh : w.shape? b = some (172, 2) := by simp [World.shape?, h]
 have c0 : w.cell? ⟨b, 0, none⟩ = some (.pointer none) := Lib.cell_of_heap h 0
 have f0 : w.frozen? ⟨b, 0, none⟩ = false := Lib.frozen_of_heap h 0
 clear h
 go_enter Tryz.func149, Tryz.ntmps149
 go_wp2
 rw [Lib.run_to_unsafe w ⟨b, 0, none⟩ Tryz.underlying170 Tryz.underlying182 hj (by rw [hjs]; decide) hsh (Nat.zero_lt_succ 1)]
 simp only [Result.andThen]
 rw [Oper.upon_value]
 go_wp2
 rw [run_callFunc_extern Tryz.func152 (by kernel_rfl) (by kernel_rfl) (by kernel_rfl) (e := Extern.AbiNoEscape.same) (by kernel_rfl)]
 rw [Lib.run_noEscape]
 simp only [Result.andThen]
 rw [Oper.upon_value]
 go_wp2
 rw [Lib.run_from_unsafe w ⟨b, 0, none⟩ Tryz.underlying182 Tryz.underlying170 hj hsh liesB]
 simp only [Result.andThen]
 rw [Oper.upon_value]
 go_wp2
 go_end0
 exact ⟨rfl, rfl⟩
theorem copyCheck_any (B b : Nat) (bs : List Value) (w : World) (h : Lib.IsBuilder 172 5 B b bs w) :
  Calls Tryz.prog 149 #[.pointer (some ⟨b, 0, none⟩)] w fun e w' => e = .returned (.tuple #[]) ∧ Lib.BuilderAt 172 5 B b (.pointer (some ⟨b, 0, none⟩)) bs w' ∧ Below B w w' := by
 rcases h with h | h
 ·obtain ⟨hB, v, hb, _⟩ := id h
  refine (copyCheck_fresh b v w hb).mono ?_
  rintro e w' ⟨rfl, rfl⟩
  exact ⟨rfl, h.used _, (Below.refl B w).setCell (p := ⟨b, 0, none⟩) hB _⟩
 ·obtain ⟨hB, v, hb, _⟩ := id h
  refine (copyCheck_used b v w hb).mono ?_
  rintro e w' ⟨rfl, rfl⟩
  exact ⟨rfl, h, Below.refl B _⟩
theorem own_shape {w : World} {B : Nat} {e : TypeId} {s n : Nat} {v : Value} {xs : List Value} (h : w.ownsRow B e s v n xs) : ∃ A c, v = .slice A n c := by
 rcases h.2 with ⟨rfl, h0⟩ | ⟨g, cap, cur, rfl, _⟩
 ·rw [h0]; exact ⟨_, _, rfl⟩
 ·exact ⟨_, _, rfl⟩
theorem writeRune_at (B b : Nat) (bs : List Value) (r : Int) (hr0 : -2147483648 ≤ r) (hr1 : r ≤ 2147483647) (w : World) (h : Lib.IsBuilder 172 5 B b bs w) (hlen : bs.length + 4 ≤ 1099511627776) (hBw : B ≤ w.heap.size) :
  Calls Tryz.prog 144 #[.pointer (some ⟨b, 0, none⟩), .int .i32 r] w fun e w' => e = .returned (.tuple #[.int .i64 (Lib.runeCells r).length, .nilIface]) ∧ Lib.IsBuilder 172 5 B b (bs ++ Lib.runeCells r) w' ∧ Below B w w' := by
 have C := copyCheck_any B b bs w h
 have CH := Lib.hid C
 have hrl := Lib.runeCells_le r
 clear C h
 go_enter Tryz.func144, Tryz.ntmps144
 go_wp2_with fail
 refine CH.out.mono ?_
 rintro e w1 ⟨rfl, ⟨hB, v, hb, hown, hvb⟩, hbl⟩
 obtain ⟨A, c, rfl⟩ := own_shape hown
 have c1 : w1.cell? ⟨b, 1, none⟩ = some (.slice A bs.length c) := Lib.cell_of_heap hb 1
 have hB1 : B ≤ w1.heap.size := Nat.le_trans hBw hbl.size
 have HB := Lib.hid hb
 have HV := Lib.hid hvb
 clear hb hvb
 go_wp2_with fail
 refine (Tryz.utf8_AppendRune_plain B _ bs.length bs r hr0 hr1 w1 hown (by omega) hB1).mono ?_
 rintro e w2 ⟨v', rfl, hown2, o, hg⟩
 obtain ⟨A', c', rfl⟩ := own_shape hown2
 have hlt : b < w1.heap.size := (Array.getElem?_eq_some_iff.1 HB.out).1
 have hb2 : w2.heap[b]? = some (.cells #[.pointer (some ⟨b, 0, none⟩), .slice A bs.length c] 172 (0, 0)) := by
  rw [hg.block b (by simp; omega) (fun e => HV.out e.symm), Below.heap_alloc _ _ _ hlt]; exact HB.out
 have hbl2 : Below B w w2 := (hbl.alloc hB1 o).grown hg (by simp; omega) (fun k hk => (World.ownsRow.lt hown k hk).1)
 have c2 : w2.cell? ⟨b, 1, none⟩ = some (.slice A bs.length c) := Lib.cell_of_heap hb2 1
 have f2 : w2.frozen? ⟨b, 1, none⟩ = false := Lib.frozen_of_heap hb2 1
 have HB2 := Lib.hid hb2
 clear hb2 hg hown
 go_wp2_with fail
 go_ret2
 refine ⟨?_, .inr ?_, hbl2.setCell (p := ⟨b, 1, none⟩) hB _⟩
 ·have e : ((bs.length : Int) + ((Lib.runeCells r).length : Int) - (bs.length : Int)) = ((Lib.runeCells r).length : Int) := by omega
  exact congrArg (fun z => Ending.returned (.tuple #[.int .i64 z, .nilIface])) e
 ·exact Lib.BuilderAt.put hB HB2.out (by simpa using hown2) (by decide)
theorem builder_below {T e : TypeId} {B b : Nat} {bs : List Value} {w w' : World} (h : Lib.IsBuilder T e B b bs w) (hb : Below w.heap.size w w') : Lib.IsBuilder T e B b bs w' := by
 have hg : w.grownBy w' none := ⟨hb.os, hb.tape, hb.output, hb.size, fun k hk _ => hb.block k hk⟩
 have key : ∀ p, Lib.BuilderAt T e B b p bs w → Lib.BuilderAt T e B b p bs w' := by
  rintro p ⟨h1, v, h2, h3, h4⟩
  exact ⟨h1, v, (hb.block b (Array.getElem?_eq_some_iff.1 h2).1).trans h2, h3.kept hg (by cases hv : v.ownBlock <;> simp), h4⟩
 exact h.imp (key _) (key _)
def textL (l : List (Int × Int × Int)) : List UInt8 := l.flatMap fun c => if hasB c.1 c.2.1 c.2.2 then Lib.encodeRune c.1 else []
theorem textL_append (l m : List (Int × Int × Int)) : textL (l ++ m) = textL l ++ textL m := by simp [textL]
theorem textL_one (c : Int × Int × Int) : textL [c] = if hasB c.1 c.2.1 c.2.2 then Lib.encodeRune c.1 else [] := by simp [textL]
theorem encodeRune_length (r : Int) : (Lib.encodeRune r).length ≤ 4 := by
 have := (Lib.encodeRuneZ_length r).2
 simpa [Lib.encodeRune] using this
theorem textL_length (l : List (Int × Int × Int)) : (textL l).length ≤ 4 * l.length := by
 induction l with
 | nil => simp [textL]
 | cons c l ih =>
  have e : textL (c :: l) = textL [c] ++ textL l := textL_append [c] l
  rw [e, List.length_append, List.length_cons, textL_one]
  have := encodeRune_length c.1
  split
  ·omega
  ·simp; omega
def Signs (l : List (Int × Int × Int)) : Prop := ∀ c ∈ l, -2147483648 ≤ c.1 ∧ c.1 ≤ 2147483647
theorem take_one {α : Type} {l : List α} {k : Nat} {c : α} (h : l[k]? = some c) : l.take (k + 1) = l.take k ++ [c] := by
 obtain ⟨hk, rfl⟩ := List.getElem?_eq_some_iff.1 h
 exact List.take_succ_eq_append_getElem hk
def TextAt (l : List (Int × Int × Int)) (n : Nat) (w : World) (k : Nat) (wr : World) : Prop := k ≤ n ∧ Lib.IsBuilder 172 5 w.heap.size w.heap.size (Lib.byteCells (textL (l.take k))) wr ∧ Below w.heap.size w wr
theorem cellText_walk (A : Option Addr) (n c : Nat) (l : List (Int × Int × Int)) (w : World) (hn : n ≤ 1073741824) (hl : Signs l) (hq : Sq w w.heap.size 3 n A (flat l)) :
  Calls Tryz.prog 138 #[.slice A n c] w fun e w' => e = .returned (.string ⟨(textL l).toArray⟩) ∧ Below w.heap.size w w' := by
 have hln : l.length = n := by have := hq.len; rw [flat_length] at this; omega
 have LN := Lib.hid hln
 clear hln
 go_enter Tryz.func138, Tryz.ntmps138
 go_wp2
 go_loopw [8] (fun i wr => ∃ k : Nat, i = .int .i64 k ∧ TextAt l n w k wr) (fun i _ => n - (intOf i).toNat)
 case atStart => exact ⟨0, rfl, Nat.zero_le _, Lib.fresh_isBuilder _ _ w, (Below.refl _ _).alloc (Nat.le_refl _) _⟩
 case round =>
  obtain ⟨k, rfl, hat⟩ := hrel
  have hbelow := hat.2.2
  have hbuild := hat.2.1
  have hsz : w.heap.size ≤ wr.heap.size := hbelow.size
  by_cases hlt : k < n
  ·obtain ⟨b, off, rfl, hb, ⟨r, m, a⟩, hcc, q0, q1, q2⟩ := (hq.below hbelow).three hlt
   have hcl := hl _ (List.mem_of_getElem? hcc)
   have hlen : (Lib.byteCells (textL (l.take k))).length + 4 ≤ 1099511627776 := by
    rw [Lib.byteCells_length]
    have h1 := textL_length (l.take k)
    have h2 := List.length_take_le k l
    omega
   have HC := Lib.hid hcc
   have BL := Lib.hid hbelow
   have BU := Lib.hid hbuild
   have Q := Lib.hid hq
   have HL := Lib.hid hlen
   have hk := hat.1
   clear hat hcc hbelow hbuild hq hl hlen
   obtain ⟨B, hB⟩ : ∃ B, hasB r m a = B := ⟨_, rfl⟩
   have SG := fun w => hasSign_walk r m a w
   rw [hB] at SG
   have SGH := Lib.hid SG
   have HBB := Lib.hid hB
   clear SG hB
   cases B
   ·go_wp2_with (go_at_call 143; refine (SGH.out _).mono ?_; rintro e w2 ⟨rfl, hb2⟩)
    go_roundw
    case rel =>
     refine ⟨k + 1, by go_num, by omega, ?_, ?_⟩
     ·rw [take_one HC.out, textL_append, textL_one]
      simp only [HBB.out]
      simpa using builder_below (builder_below BU.out ((Below.refl _ _).alloc (Nat.le_refl _) _)) hb2
     ·exact (BL.out.alloc hsz _).trans (hb2.mono (by simp; omega))
    case measure => simp [intOf]; omega
   ·go_wp2_with (go_at_call 143; refine (SGH.out _).mono ?_; rintro e w2 ⟨rfl, hb2⟩; have k0 : w2.cell? ⟨wr.heap.size, 0, none⟩ = some (.int .i32 r) := (hb2.cell (p := ⟨wr.heap.size, 0, none⟩) (by simp)).trans (by simp); have hs2 : w.heap.size ≤ w2.heap.size := by have := hb2.size; simp at this; omega)
    have I2 := builder_below (builder_below BU.out ((Below.refl _ _).alloc (Nat.le_refl _) _)) hb2
    refine (writeRune_at _ _ _ r hcl.1 hcl.2 w2 I2 HL.out hs2).mono ?_
    rintro e w3 ⟨rfl, I3, hb3⟩
    have I3H := Lib.hid I3
    clear I2 I3
    go_wp2
    go_roundw
    case rel =>
     refine ⟨k + 1, by go_num, by omega, ?_, ?_⟩
     ·rw [take_one HC.out, textL_append, textL_one]
      simp only [HBB.out, if_true]
      rw [Lib.byteCells_append, Lib.byteCells_encodeRune]
      exact I3H.out
     ·exact ((BL.out.alloc hsz _).trans (hb2.mono (by simp; omega))).trans hb3
    case measure => simp [intOf]; omega
  ·have hk : k = n := by have := hat.1; omega
   have E := take_all l (k := k) (by have := LN.out; omega)
   rw [E] at hbuild
   have BU := Lib.hid hbuild
   have BL := Lib.hid hbelow
   clear hat hbuild hbelow hq hl E hk
   go_wp2_with (go_at_call 145; refine (Tryz.Builder_String_any _ _ _ _ BU.out (by omega)).mono ?_; rintro e w2 ⟨rfl, hb2⟩)
   go_ret
   exact ⟨rfl, BL.out.trans hb2⟩
theorem line_good (A : Option Addr) (n c : Nat) (l : List (Int × Int × Int)) (w : World) (hs : Spans w) (hn : n ≤ 1073741824) (hl : ∀ c ∈ l, Good c) (hq : Sq w w.heap.size 3 n A (flat l)) :
  Calls Tryz.prog 139 #[.slice A n c] w fun e w' => e = .returned (.bool true) ∧ Below w.heap.size w w' := by
 go_enter Tryz.func139, Tryz.ntmps139
 go_wp2
 go_loopw [7] (fun i wr => ∃ k : Nat, i = .int .i64 k ∧ k ≤ n ∧ Below w.heap.size w wr) (fun i _ => n - (intOf i).toNat)
 case atStart => exact ⟨0, rfl, Nat.zero_le _, Below.refl _ _⟩
 case round =>
  obtain ⟨k, rfl, hk, hbelow⟩ := hrel
  have hsz : w.heap.size ≤ wr.heap.size := hbelow.size
  by_cases hlt : k < n
  ·obtain ⟨b, off, rfl, hb, ⟨r, m, a⟩, hcc, q0, q1, q2⟩ := (hq.below hbelow).three hlt
   have hg := hl _ (List.mem_of_getElem? hcc)
   have SG := fun w => hasSign_walk r m a w
   rw [hg.has] at SG
   have MG := fun w hs => may_sign r m a hg.attr.1 hg.attr.2 hg.sign.1 hg.sign.2 hg.wide hg.two w hs
   have SGH := Lib.hid SG
   have MGH := Lib.hid MG
   have BL := Lib.hid hbelow
   have Q := Lib.hid hq
   have SPH := Lib.hid (fun w' (hb : Below w.heap.size w w') => hs.below hb hs.size)
   clear SG MG hg hcc hbelow hq hl hs
   go_wp2_with (go_at_call 143; refine (SGH.out _).mono ?_; rintro e w2 ⟨rfl, hb2⟩; have k0 : w2.cell? ⟨wr.heap.size, 0, none⟩ = some (.int .i32 r) := (hb2.cell (p := ⟨wr.heap.size, 0, none⟩) (by simp)).trans (by simp); have k1 : w2.cell? ⟨wr.heap.size, 1, none⟩ = some (.int .i64 m) := (hb2.cell (p := ⟨wr.heap.size, 1, none⟩) (by simp)).trans (by simp); have k2 : w2.cell? ⟨wr.heap.size, 2, none⟩ = some (.int .i64 a) := (hb2.cell (p := ⟨wr.heap.size, 2, none⟩) (by simp)).trans (by simp))
   have B2 : Below w.heap.size w w2 := (BL.out.alloc hsz _).trans (hb2.mono (by simp; omega))
   refine (MGH.out w2 (SPH.out _ B2)).mono ?_
   rintro e w3 ⟨rfl, hb3⟩
   have B3 := Lib.hid (B2.trans (hb3.mono B2.size))
   clear B2
   go_wp2
   go_roundw
   case rel => exact ⟨k + 1, by go_num, by omega, B3.out⟩
   case measure => simp [intOf]; omega
  ·clear hq hl hs
   go_wp2
   go_ret
   exact ⟨rfl, hbelow⟩
