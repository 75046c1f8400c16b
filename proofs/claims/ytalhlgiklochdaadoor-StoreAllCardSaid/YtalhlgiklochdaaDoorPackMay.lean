/-
  pack.May of any row.
-/
import Derived.Test.YtalhlgiklochdaaDoorMayAny
import Derived.Deep.QuietTactic
import Derived.BigQuiet
namespace Go.Proofs.YtalhlgiklochdaaDoor
open Go.ChangeShapes Go.WideShapes Go.ChangeAt Go.RowKit

/-- A row as a value. -/
abbrev rowV (A : Option Addr) (n c : Nat) (wrap : Bool) : Value := .agg #[.slice A n c, .bool wrap]
/-- A cell's three cells in a block of their own. -/
def CellAt (w : World) (g : Nat) (c : Cel) : Prop := w.heap[g]? = some (.cells #[.int .i32 c.1, .int .i64 c.2.1, .int .i64 c.2.2] 45 (0, 0))
theorem CellAt.get {w : World} {g : Nat} {c : Cel} (h : CellAt w g c) (j : Nat) : w.cell? ⟨g, j, none⟩ = #[Value.int .i32 c.1, .int .i64 c.2.1, .int .i64 c.2.2][j]? := cell_of_row w g j _ _ (0, 0) h
theorem CellAt.lt {w : World} {g : Nat} {c : Cel} (h : CellAt w g c) : g < w.heap.size := (Array.getElem?_eq_some_iff.1 h).1
theorem CellAt.free {w : World} {g : Nat} {c : Cel} (h : CellAt w g c) (j : Nat) : w.frozen? ⟨g, j, none⟩ = false := by
  unfold CellAt at h
  simp [World.frozen?, h]
theorem CellAt.below {w w' : World} {g B : Nat} {c : Cel} (h : CellAt w g c) (hb : Below B w w') (hg : g < B) : CellAt w' g c := (hb.block g hg).trans h

theorem cellAt_put {w : World} {g : Nat} {c : Cel} (h : CellAt w g c) (r m a : Int) : CellAt (((w.setCell ⟨g, 0, none⟩ (.int .i32 r)).setCell ⟨g, 1, none⟩ (.int .i64 m)).setCell ⟨g, 2, none⟩ (.int .i64 a)) g (r, m, a) := by
  have h0 := heap_setCell_same w g 0 _ _ (.int .i32 r) h
  have h1 := heap_setCell_same _ g 1 _ _ (.int .i64 m) h0
  have h2 := heap_setCell_same _ g 2 _ _ (.int .i64 a) h1
  exact h2
set_option maxRecDepth 100000 in
set_option maxHeartbeats 3200000 in
theorem packMay_walk (A : Option Addr) (n c : Nat) (wrap : Bool) (l : List Cel) (w : World) (hs : Spans w) (hl : ∀ c ∈ l, -2147483648 ≤ c.1 ∧ c.1 ≤ 2147483647) (hq : Sq w w.heap.size 3 n A (flat l)) (hn : n ≤ 1000000) :
    Calls Tryd.prog 26 #[rowV A n c wrap] w fun e w' => e = .returned (.bool (mayL l)) ∧ Below w.heap.size w w' := by
  have hln : l.length = n := by have := hq.len; rw [flat_length] at this; omega
  have LN := Lib.hid hln
  have S := Lib.hid hs
  have Q := Lib.hid hq
  have HS := Lib.hid hl
  clear hs hq hl
  by_cases h300 : 300 < n
  · have E : mayL l = false := by unfold mayL; simp [hln, show ¬ n ≤ 300 by omega]
    rw [E]
    clear E hln
    go_enter Tryd.func26, Tryd.ntmps26
    go_wp2_with fail
    go_ret
    exact ⟨rfl, (Below.refl _ _).alloc (Nat.le_refl _) _⟩
  · have E : mayL l = mayGo (32, 1, 0) l := by unfold mayL; simp [hln, show n ≤ 300 by omega]
    have EH := Lib.hid E
    rw [E]
    clear E hln
    go_enter Tryd.func26, Tryd.ntmps26
    go_wp2_with fail
    refine (blank_walk _).mono ?_
    rintro e w2 ⟨rfl, b2⟩
    have B2 := Lib.hid (((Below.refl w.heap.size w).alloc (Nat.le_refl _) _).trans (b2.mono (by simp)))
    have hz2 := b2.size
    simp at hz2
    have hc0 : w2.cell? ⟨w.heap.size, 0, none⟩ = some (.slice A n c) := (b2.cell (p := ⟨w.heap.size, 0, none⟩) (by simp)).trans (by rw [cell_of_row _ _ 0 _ _ (0, 0) (heap_alloc_new w _)]; rfl)
    clear b2
    have hz2' : w.heap.size ≤ w2.heap.size := by omega
    have hc1 : (w2.alloc (.cells #[.int .i32 32, .int .i64 1, .int .i64 0] 45)).cell? ⟨w.heap.size, 0, none⟩ = some (.slice A n c) := (World.cell?_alloc_lt _ _ _ (by show w.heap.size < w2.heap.size; omega)).trans hc0
    have CA := Lib.hid (show CellAt (w2.alloc (.cells #[.int .i32 32, .int .i64 1, .int .i64 0] 45)) w2.heap.size (32, 1, 0) from heap_alloc_new w2 _)
    have B3 := Lib.hid (B2.out.alloc (by omega) (.cells #[.int .i32 32, .int .i64 1, .int .i64 0] 45))
    go_wp2_with fail
    clear hc0 hc1
    generalize w2.alloc (.cells #[.int .i32 32, .int .i64 1, .int .i64 0] 45) = w3 at CA B3 ⊢
    go_loopw [16] (fun i wr => ∃ (k : Nat) (p : Cel), i = .int .i64 k ∧ k ≤ n ∧ CellAt wr w2.heap.size p ∧ Below w.heap.size w wr ∧ Hid (mayGo p (l.drop k) = mayGo (32, 1, 0) l)) (fun i _ => n - (intOf i).toNat)
    case atStart => exact ⟨0, (32, 1, 0), rfl, Nat.zero_le _, CA.out, B3.out, Lib.hid rfl⟩
    case round =>
      obtain ⟨k, ⟨pr, pn, pa⟩, rfl, hk, hp, hb, MG⟩ := hrel
      have p0 : wr.cell? ⟨w2.heap.size, 0, none⟩ = some (.int .i32 pr) := hp.get 0
      have p1 : wr.cell? ⟨w2.heap.size, 1, none⟩ = some (.int .i64 pn) := hp.get 1
      have p2 : wr.cell? ⟨w2.heap.size, 2, none⟩ = some (.int .i64 pa) := hp.get 2
      have PF := Lib.hid hp
      have hpl := hp.lt
      have HB := Lib.hid hb
      have hsz := hb.size
      by_cases hlt : k < n
      · obtain ⟨b, off, rfl, hbb, ⟨r, m, a⟩, hcc, q0, q1, q2⟩ := (Q.out.below hb).three hlt
        have hx := HS.out _ (List.mem_of_getElem? hcc)
        simp only at hx
        have hd : l.drop k = (r, m, a) :: l.drop (k + 1) := by
          obtain ⟨h1, h2⟩ := List.getElem?_eq_some_iff.1 hcc
          rw [List.drop_eq_getElem_cons h1, h2]
        have STEP := Lib.hid (show mayGo (pr, pn, pa) (l.drop k) = (mayB (r, m, a) && ((pn == 2) == (m == 0)) && (!(m == 0) || a == pa) && mayGo (r, m, a) (l.drop (k + 1))) by rw [hd]; rfl)
        clear hp hb hcc hd
        have CC := Lib.hid (show CellAt (wr.alloc (.cells #[.int .i32 r, .int .i64 m, .int .i64 a] 45)) wr.heap.size (r, m, a) from heap_alloc_new wr _)
        have PP := Lib.hid (PF.out.below ((Below.refl wr.heap.size wr).alloc (Nat.le_refl _) (.cells #[.int .i32 r, .int .i64 m, .int .i64 a] 45)) hpl)
        have B4 := Lib.hid (HB.out.alloc hsz (.cells #[.int .i32 r, .int .i64 m, .int .i64 a] 45))
        have hz4 : (wr.alloc (.cells #[.int .i32 r, .int .i64 m, .int .i64 a] 45)).heap.size = wr.heap.size + 1 := by simp
        have Z4 := Lib.hid hz4
        clear hz4
        obtain ⟨B, hB⟩ : ∃ B, mayB (r, m, a) = B := ⟨_, rfl⟩
        have MB := Lib.hid (fun w hs => may_any r m a hx.1 hx.2 w hs)
        rw [hB] at MB STEP
        clear hB
        go_wp2_with fail
        generalize wr.alloc (.cells #[.int .i32 r, .int .i64 m, .int .i64 a] 45) = w4 at CC PP B4 Z4 ⊢
        clear p0 p1 p2 q0 q1 q2
        have c0 : w4.cell? ⟨wr.heap.size, 0, none⟩ = some (.int .i32 r) := CC.out.get 0
        have c1 : w4.cell? ⟨wr.heap.size, 1, none⟩ = some (.int .i64 m) := CC.out.get 1
        have c2 : w4.cell? ⟨wr.heap.size, 2, none⟩ = some (.int .i64 a) := CC.out.get 2
        have p1 : w4.cell? ⟨w2.heap.size, 1, none⟩ = some (.int .i64 pn) := PP.out.get 1
        have s4 := Z4.out
        cases B
        · have tok := True.intro
          go_quiet (fail)
          go_wp2_with fail
          refine (MB.out _ (S.out.below (show Below w.heap.size w (w4.drewN _) from ⟨B4.out.os, B4.out.tape, B4.out.output, B4.out.size, B4.out.block⟩) S.out.size)).mono ?_
          rintro e w6 ⟨rfl, b6⟩
          have b6' : Below w4.heap.size w4 w6 := ⟨b6.os, b6.tape, b6.output, b6.size, b6.block⟩
          have C6 := Lib.hid (CC.out.below b6' CC.out.lt)
          have P6 := Lib.hid (PP.out.below b6' PP.out.lt)
          have B6 := Lib.hid (B4.out.trans (b6'.mono B4.out.size))
          have k0 : w6.cell? ⟨wr.heap.size, 0, none⟩ = some (.int .i32 r) := C6.out.get 0
          have k1 : w6.cell? ⟨wr.heap.size, 1, none⟩ = some (.int .i64 m) := C6.out.get 1
          have k2 : w6.cell? ⟨wr.heap.size, 2, none⟩ = some (.int .i64 a) := C6.out.get 2
          have l0 : w6.cell? ⟨w2.heap.size, 0, none⟩ = some (.int .i32 pr) := P6.out.get 0
          have l1 : w6.cell? ⟨w2.heap.size, 1, none⟩ = some (.int .i64 pn) := P6.out.get 1
          have l2 : w6.cell? ⟨w2.heap.size, 2, none⟩ = some (.int .i64 pa) := P6.out.get 2
          have g0 := P6.out.free 0
          have g1 := P6.out.free 1
          have g2 := P6.out.free 2
          clear b6 b6' c0 c1 c2 p1
          have RF := Lib.hid (show mayGo (32, 1, 0) l = false by rw [← MG.out, STEP.out]; simp)
          go_wp2
          go_ret
          exact ⟨ret_bool RF.out.symm, B6.out⟩
        · cases e2 : (pn == 2) <;> cases e3 : (m == 0)
          · have tok := True.intro
            go_quiet (fail)
            go_wp2_with fail
            refine (MB.out _ (S.out.below (show Below w.heap.size w (w4.drewN _) from ⟨B4.out.os, B4.out.tape, B4.out.output, B4.out.size, B4.out.block⟩) S.out.size)).mono ?_
            rintro e w6 ⟨rfl, b6⟩
            have b6' : Below w4.heap.size w4 w6 := ⟨b6.os, b6.tape, b6.output, b6.size, b6.block⟩
            have C6 := Lib.hid (CC.out.below b6' CC.out.lt)
            have P6 := Lib.hid (PP.out.below b6' PP.out.lt)
            have B6 := Lib.hid (B4.out.trans (b6'.mono B4.out.size))
            have k0 : w6.cell? ⟨wr.heap.size, 0, none⟩ = some (.int .i32 r) := C6.out.get 0
            have k1 : w6.cell? ⟨wr.heap.size, 1, none⟩ = some (.int .i64 m) := C6.out.get 1
            have k2 : w6.cell? ⟨wr.heap.size, 2, none⟩ = some (.int .i64 a) := C6.out.get 2
            have l0 : w6.cell? ⟨w2.heap.size, 0, none⟩ = some (.int .i32 pr) := P6.out.get 0
            have l1 : w6.cell? ⟨w2.heap.size, 1, none⟩ = some (.int .i64 pn) := P6.out.get 1
            have l2 : w6.cell? ⟨w2.heap.size, 2, none⟩ = some (.int .i64 pa) := P6.out.get 2
            have g0 := P6.out.free 0
            have g1 := P6.out.free 1
            have g2 := P6.out.free 2
            clear b6 b6' c0 c1 c2 p1
            have RN := Lib.hid (show mayGo (r, m, a) (l.drop (k + 1)) = mayGo (32, 1, 0) l by rw [← MG.out, STEP.out, e2, e3]; simp)
            have N6 := Lib.hid (cellAt_put P6.out r m a)
            have M6 := Lib.hid ((((B6.out.setCell (p := ⟨w2.heap.size, 0, none⟩) hz2' (.int .i32 r)).setCell (p := ⟨w2.heap.size, 1, none⟩) hz2' (.int .i64 m)).setCell (p := ⟨w2.heap.size, 2, none⟩) hz2' (.int .i64 a)))
            go_wp2
            go_roundw
            case rel => exact ⟨k + 1, (r, m, a), by go_num, by omega, N6.out, M6.out, RN⟩
            case measure => simp [intOf]; omega
          · have tok := True.intro
            go_quiet (fail)
            go_wp2_with fail
            refine (MB.out _ (S.out.below (show Below w.heap.size w (w4.drewN _) from ⟨B4.out.os, B4.out.tape, B4.out.output, B4.out.size, B4.out.block⟩) S.out.size)).mono ?_
            rintro e w6 ⟨rfl, b6⟩
            have b6' : Below w4.heap.size w4 w6 := ⟨b6.os, b6.tape, b6.output, b6.size, b6.block⟩
            have C6 := Lib.hid (CC.out.below b6' CC.out.lt)
            have P6 := Lib.hid (PP.out.below b6' PP.out.lt)
            have B6 := Lib.hid (B4.out.trans (b6'.mono B4.out.size))
            have k0 : w6.cell? ⟨wr.heap.size, 0, none⟩ = some (.int .i32 r) := C6.out.get 0
            have k1 : w6.cell? ⟨wr.heap.size, 1, none⟩ = some (.int .i64 m) := C6.out.get 1
            have k2 : w6.cell? ⟨wr.heap.size, 2, none⟩ = some (.int .i64 a) := C6.out.get 2
            have l0 : w6.cell? ⟨w2.heap.size, 0, none⟩ = some (.int .i32 pr) := P6.out.get 0
            have l1 : w6.cell? ⟨w2.heap.size, 1, none⟩ = some (.int .i64 pn) := P6.out.get 1
            have l2 : w6.cell? ⟨w2.heap.size, 2, none⟩ = some (.int .i64 pa) := P6.out.get 2
            have g0 := P6.out.free 0
            have g1 := P6.out.free 1
            have g2 := P6.out.free 2
            clear b6 b6' c0 c1 c2 p1
            have RF := Lib.hid (show mayGo (32, 1, 0) l = false by rw [← MG.out, STEP.out, e2, e3]; simp)
            go_wp2
            go_ret
            exact ⟨ret_bool RF.out.symm, B6.out⟩
          · have tok := True.intro
            go_quiet (fail)
            go_wp2_with fail
            refine (MB.out _ (S.out.below (show Below w.heap.size w (w4.drewN _) from ⟨B4.out.os, B4.out.tape, B4.out.output, B4.out.size, B4.out.block⟩) S.out.size)).mono ?_
            rintro e w6 ⟨rfl, b6⟩
            have b6' : Below w4.heap.size w4 w6 := ⟨b6.os, b6.tape, b6.output, b6.size, b6.block⟩
            have C6 := Lib.hid (CC.out.below b6' CC.out.lt)
            have P6 := Lib.hid (PP.out.below b6' PP.out.lt)
            have B6 := Lib.hid (B4.out.trans (b6'.mono B4.out.size))
            have k0 : w6.cell? ⟨wr.heap.size, 0, none⟩ = some (.int .i32 r) := C6.out.get 0
            have k1 : w6.cell? ⟨wr.heap.size, 1, none⟩ = some (.int .i64 m) := C6.out.get 1
            have k2 : w6.cell? ⟨wr.heap.size, 2, none⟩ = some (.int .i64 a) := C6.out.get 2
            have l0 : w6.cell? ⟨w2.heap.size, 0, none⟩ = some (.int .i32 pr) := P6.out.get 0
            have l1 : w6.cell? ⟨w2.heap.size, 1, none⟩ = some (.int .i64 pn) := P6.out.get 1
            have l2 : w6.cell? ⟨w2.heap.size, 2, none⟩ = some (.int .i64 pa) := P6.out.get 2
            have g0 := P6.out.free 0
            have g1 := P6.out.free 1
            have g2 := P6.out.free 2
            clear b6 b6' c0 c1 c2 p1
            have RF := Lib.hid (show mayGo (32, 1, 0) l = false by rw [← MG.out, STEP.out, e2, e3]; simp)
            go_wp2
            go_ret
            exact ⟨ret_bool RF.out.symm, B6.out⟩
          · cases e4 : (a == pa)
            · have e5 : (a != pa) = true := by simpa using e4
              go_quiet (fail)
              go_wp2_with fail
              refine (MB.out _ (S.out.below (show Below w.heap.size w (w4.drewN _) from ⟨B4.out.os, B4.out.tape, B4.out.output, B4.out.size, B4.out.block⟩) S.out.size)).mono ?_
              rintro e w6 ⟨rfl, b6⟩
              have b6' : Below w4.heap.size w4 w6 := ⟨b6.os, b6.tape, b6.output, b6.size, b6.block⟩
              have C6 := Lib.hid (CC.out.below b6' CC.out.lt)
              have P6 := Lib.hid (PP.out.below b6' PP.out.lt)
              have B6 := Lib.hid (B4.out.trans (b6'.mono B4.out.size))
              have k0 : w6.cell? ⟨wr.heap.size, 0, none⟩ = some (.int .i32 r) := C6.out.get 0
              have k1 : w6.cell? ⟨wr.heap.size, 1, none⟩ = some (.int .i64 m) := C6.out.get 1
              have k2 : w6.cell? ⟨wr.heap.size, 2, none⟩ = some (.int .i64 a) := C6.out.get 2
              have l0 : w6.cell? ⟨w2.heap.size, 0, none⟩ = some (.int .i32 pr) := P6.out.get 0
              have l1 : w6.cell? ⟨w2.heap.size, 1, none⟩ = some (.int .i64 pn) := P6.out.get 1
              have l2 : w6.cell? ⟨w2.heap.size, 2, none⟩ = some (.int .i64 pa) := P6.out.get 2
              have g0 := P6.out.free 0
              have g1 := P6.out.free 1
              have g2 := P6.out.free 2
              clear b6 b6' c0 c1 c2 p1
              have RF := Lib.hid (show mayGo (32, 1, 0) l = false by rw [← MG.out, STEP.out, e2, e3, e4]; simp)
              go_wp2
              go_ret
              exact ⟨ret_bool RF.out.symm, B6.out⟩
            · have e5 : (a != pa) = false := by simpa using e4
              go_quiet (fail)
              go_wp2_with fail
              refine (MB.out _ (S.out.below (show Below w.heap.size w (w4.drewN _) from ⟨B4.out.os, B4.out.tape, B4.out.output, B4.out.size, B4.out.block⟩) S.out.size)).mono ?_
              rintro e w6 ⟨rfl, b6⟩
              have b6' : Below w4.heap.size w4 w6 := ⟨b6.os, b6.tape, b6.output, b6.size, b6.block⟩
              have C6 := Lib.hid (CC.out.below b6' CC.out.lt)
              have P6 := Lib.hid (PP.out.below b6' PP.out.lt)
              have B6 := Lib.hid (B4.out.trans (b6'.mono B4.out.size))
              have k0 : w6.cell? ⟨wr.heap.size, 0, none⟩ = some (.int .i32 r) := C6.out.get 0
              have k1 : w6.cell? ⟨wr.heap.size, 1, none⟩ = some (.int .i64 m) := C6.out.get 1
              have k2 : w6.cell? ⟨wr.heap.size, 2, none⟩ = some (.int .i64 a) := C6.out.get 2
              have l0 : w6.cell? ⟨w2.heap.size, 0, none⟩ = some (.int .i32 pr) := P6.out.get 0
              have l1 : w6.cell? ⟨w2.heap.size, 1, none⟩ = some (.int .i64 pn) := P6.out.get 1
              have l2 : w6.cell? ⟨w2.heap.size, 2, none⟩ = some (.int .i64 pa) := P6.out.get 2
              have g0 := P6.out.free 0
              have g1 := P6.out.free 1
              have g2 := P6.out.free 2
              clear b6 b6' c0 c1 c2 p1
              have RN := Lib.hid (show mayGo (r, m, a) (l.drop (k + 1)) = mayGo (32, 1, 0) l by rw [← MG.out, STEP.out, e2, e3, e4]; simp)
              have N6 := Lib.hid (cellAt_put P6.out r m a)
              have M6 := Lib.hid ((((B6.out.setCell (p := ⟨w2.heap.size, 0, none⟩) hz2' (.int .i32 r)).setCell (p := ⟨w2.heap.size, 1, none⟩) hz2' (.int .i64 m)).setCell (p := ⟨w2.heap.size, 2, none⟩) hz2' (.int .i64 a)))
              go_wp2
              go_roundw
              case rel => exact ⟨k + 1, (r, m, a), by go_num, by omega, N6.out, M6.out, RN⟩
              case measure => simp [intOf]; omega
      · have hk' : k = n := by omega
        have EN := Lib.hid (show mayGo (32, 1, 0) l = !(pn == 2) by rw [← MG.out, List.drop_eq_nil_of_le (by have := LN.out; omega)]; rfl)
        clear hp hb hk' p0 p2
        cases e2 : (pn == 2)
        · have e5 : (pn != 2) = true := by simpa using e2
          have E2 := Lib.hid e2
          go_wp2
          go_ret
          exact ⟨ret_bool (a := true) (by rw [EN.out, E2.out]; rfl), HB.out⟩
        · have e5 : (pn != 2) = false := by simpa using e2
          have E2 := Lib.hid e2
          go_wp2
          go_ret
          exact ⟨ret_bool (a := false) (by rw [EN.out, E2.out]; rfl), HB.out⟩
end Go.Proofs.YtalhlgiklochdaaDoor
