import Derived.Test.YteemnmalikomgaaGreatDoorQSrRow0
set_option maxRecDepth 100000
set_option maxHeartbeats 3200000
namespace Go.Proofs.YteemnmalikomgaaGreatDoor
open Go.ChangeShapes Go.WideShapes Go.ChangeAt Go.RowKit
theorem refPad_walk (w : World) : Calls Tryz.prog 102 #[] w fun e w' => e = .returned (cellV 0 1 0) ∧ Below w.heap.size w w' := by
 go_enter Tryz.func102, Tryz.ntmps102
 go_wp2
 exact bodyPost_ret (v := cellV 0 1 0) (by simp [results, Tryz.results102, go_sem]) rfl ⟨rfl, (Below.refl _ _).alloc (Nat.le_refl _) _⟩
structure RC (w0 : World) (r n a : Int) (w : World) : Prop where
 c0 : w.cell? ⟨w0.heap.size, 0, none⟩ = some (.int .i32 r)
 c1 : w.cell? ⟨w0.heap.size, 1, none⟩ = some (.int .i64 n)
 c2 : w.cell? ⟨w0.heap.size, 2, none⟩ = some (.int .i64 a)
 below : Below w0.heap.size w0 w
theorem RC.step {w0 w w' : World} {r n a : Int} (h : RC w0 r n a w) (hb : Below w.heap.size w w') : RC w0 r n a w' := by
 have hl : w0.heap.size < w.heap.size := World.block_lt_of_cell? w _ h.c0
 exact ⟨(hb.cell (p := ⟨w0.heap.size, 0, none⟩) hl).trans h.c0, (hb.cell (p := ⟨w0.heap.size, 1, none⟩) hl).trans h.c1, (hb.cell (p := ⟨w0.heap.size, 2, none⟩) hl).trans h.c2, h.below.trans (hb.mono h.below.size)⟩
theorem RC.drew {w0 w : World} {r n a : Int} (h : RC w0 r n a w) : RC w0 r n a w.drew := ⟨h.c0, h.c1, h.c2, h.below.drew⟩
theorem RC.new (w : World) (r n a : Int) : RC w r n a (w.alloc (.cells #[.int .i32 r, .int .i64 n, .int .i64 a] 76)) := by
 have hb := heap_alloc_new w (.cells #[.int .i32 r, .int .i64 n, .int .i64 a] 76)
 exact ⟨by rw [cell_of_row _ _ _ _ _ (0, 0) hb]; rfl, by rw [cell_of_row _ _ _ _ _ (0, 0) hb]; rfl, by rw [cell_of_row _ _ _ _ _ (0, 0) hb]; rfl, (Below.refl _ _).alloc (Nat.le_refl _) _⟩
abbrev U27RefCellR (k : Nat) := Ord.upto k 27
def refCellL : List Ord.Line := [
 (some 11, .load 76 (.tmp 1), none, []),
 (some 12, .call { callee := .value (.func 102), args := #[], argTypes := #[] }, none, []),
 (some 13, .binOp .eql 76 (.tmp 11) (.tmp 12) 76, none, [0, 1]),
 (some 14, .move (.tmp 13), none, [2, 1]),
 (some 15, .fieldAddr 76 (.tmp 1) 1, some (3, false), [3]),
 (some 16, .load 3 (.tmp 15), some (3, false), [4, 3]),
 (some 17, .binOp .eql 3 (.tmp 16) (.const (.int .i64 0)) 3, some (3, false), [5, 3]),
 (some 18, .move (.tmp 17), some (3, false), [6, 3, 3]),
 (some 19, .fieldAddr 76 (.tmp 1) 0, some (7, true), [7]),
 (some 20, .load 21 (.tmp 19), some (7, true), [8, 7]),
 (some 21, .binOp .eql 21 (.tmp 20) (.const (.int .i32 0)) 21, some (7, true), [9, 7]),
 (some 22, .pick (.tmp 18) (.tmp 21) (.const (.bool false)), some (3, false), [7, 10, 3]),
 (some 23, .pick (.tmp 14) (.const (.bool true)) (.tmp 22), none, [3, 11]),
 (some 24, .move (.tmp 23), none, [12, 7]),
 (some 25, .fieldAddr 76 (.tmp 1) 1, some (13, false), [13]),
 (some 26, .load 3 (.tmp 25), some (13, false), [14, 13]),
 (some 27, .binOp .gtr 3 (.tmp 26) (.const (.int .i64 0)) 3, some (13, false), [15, 13]),
 (some 28, .move (.tmp 27), some (13, false), [16, 13, 13]),
 (some 29, .fieldAddr 76 (.tmp 1) 1, some (17, true), [17]),
 (some 30, .load 3 (.tmp 29), some (17, true), [18, 17]),
 (some 31, .fieldAddr 76 (.tmp 1) 0, some (17, true), [17]),
 (some 32, .load 21 (.tmp 31), some (17, true), [20, 17]),
 (some 33, .call { callee := .value (.func 70), args := #[.tmp 32], argTypes := #[21] }, some (17, true), [21, 17, 17]),
 (some 34, .binOp .eql 3 (.tmp 30) (.tmp 33) 3, some (17, true), [19, 22, 17]),
 (some 35, .pick (.tmp 28) (.tmp 34) (.const (.bool false)), some (13, false), [17, 23, 13]),
 (some 36, .pick (.tmp 24) (.const (.bool true)) (.tmp 35), none, [13, 24]),
 (some 2, .assign (.tmp 36), none, [25, 22, 0, 1, 2, 3, 4, 5, 6, 7, 8, 9, 10, 11, 12, 13, 14, 15, 16, 17, 18, 19, 20, 21, 22, 23, 24, 25])]
structure CellFr (N0 : Nat) (a : Act) : Prop where
 size : a.tmps.size = 37
 defers : a.defers = []
 s1 : Chain.At a 1 (.pointer (some ⟨N0, 0, none⟩))
theorem CellFr.next {N0 : Nat} {a a' : Act} {d : Nat} {v : Value} (F : CellFr N0 a) (nx : Chain.Next a a' d v) (h : d ≠ 1 := by decide) : CellFr N0 a' := ⟨nx.size.trans F.size, nx.defers.trans F.defers, nx.k F.s1 (by omega)⟩
theorem CellFr.lt {N0 : Nat} {a : Act} {d : Nat} (F : CellFr N0 a) (h : d < 37 := by decide) : d < a.tmps.size := by rw [F.size]; exact h
theorem refCell_pad {ops : Array Oper} {Q : Exit → Act → World → Prop} (R : Ord.Reg ops refCellL) (hQ : ∀ c a w d v, Q (.panic c) (Act.put a (some d) v) w → Q (.panic c) a w) {w0 : World} {r n a0 : Int} (hE : ∀ w, (binOp .eql 76 (cellV r n a0) (cellV 0 1 0)).run Tryz.prog w = .ok (.bool true) w) (a : Act) (w : World) (F : CellFr w0.heap.size a)
  (hS : RC w0 r n a0 w) (h : ∀ a w, Chain.At a 2 (.bool true) → a.defers = [] → RC w0 r n a0 w → Q .normal a w) :
  wpAnyH Tryz.prog .any ops Q (RC w0 r n a0) 27 (List.replicate 27 false).toArray a w := by
 refine Ord.take R (k := 0) (v := cellV r n a0) (bs' := U27RefCellR 1) rfl (by kernel_rfl) hQ trivial hS (fun w _ hS => by have e1 := F.s1; unfold Chain.At at e1; have q0 := hS.c0; have q1 := hS.c1; have q2 := hS.c2; clear F; go_simp) F.lt fun a0 N => ?_
 replace F := F.next N
 have f11 := N.got
 clear N a
 refine Ord.call R (k := 1) (args := #[]) (bs' := U27RefCellR 2) rfl (by kernel_rfl) trivial (by simp) (by kernel_rfl) (refPad_walk _) F.lt ?_
 rintro e w ⟨rfl, hb⟩
 replace hS := hS.step hb
 refine ⟨_, rfl, hS, fun a1 N => ?_⟩
 replace F := F.next N
 replace f11 := N.k f11
 have f12 := N.got
 clear N a0
 refine Ord.take R (k := 2) (v := .bool true) (bs' := U27RefCellR 3) rfl (by kernel_rfl) hQ trivial hS (fun w _ hS => by have e11 := f11; unfold Chain.At at e11; have e12 := f12; unfold Chain.At at e12; have q0 := hE w; clear F; go_simp) F.lt fun a2 N => ?_
 replace F := F.next N
 clear f11
 clear f12
 have f13 := N.got
 clear N a1
 refine Ord.take R (k := 3) (v := .bool true) (bs' := U27RefCellR 4) rfl (by kernel_rfl) hQ trivial hS (fun w _ hS => Chain.ev_move f13.ev) F.lt fun a3 N => ?_
 replace F := F.next N
 clear f13
 have f14 := N.got
 clear N a2
 refine Ord.skip R (k := 4) (bs' := U27RefCellR 5) rfl (by kernel_rfl) hQ (R.shut (j := 3) rfl f14 (Ord.ne_not rfl)) hS F.lt fun a4 N => ?_
 replace F := F.next N
 replace f14 := N.k f14
 have f15 := N.got
 clear N a3
 refine Ord.skip R (k := 5) (bs' := U27RefCellR 6) rfl (by kernel_rfl) hQ (R.shut (j := 3) rfl f14 (Ord.ne_not rfl)) hS F.lt fun a5 N => ?_
 replace F := F.next N
 replace f14 := N.k f14
 clear f15
 have f16 := N.got
 clear N a4
 refine Ord.skip R (k := 6) (bs' := U27RefCellR 7) rfl (by kernel_rfl) hQ (R.shut (j := 3) rfl f14 (Ord.ne_not rfl)) hS F.lt fun a6 N => ?_
 replace F := F.next N
 replace f14 := N.k f14
 clear f16
 have f17 := N.got
 clear N a5
 refine Ord.skip R (k := 7) (bs' := U27RefCellR 8) rfl (by kernel_rfl) hQ (R.shut (j := 3) rfl f14 (Ord.ne_not rfl)) hS F.lt fun a7 N => ?_
 replace F := F.next N
 replace f14 := N.k f14
 clear f17
 have f18 := N.got
 clear N a6
 refine Ord.skip R (k := 8) (bs' := U27RefCellR 9) rfl (by kernel_rfl) hQ (R.shut (j := 7) rfl f18 (Ord.ne_undef _)) hS F.lt fun a8 N => ?_
 replace F := F.next N
 replace f14 := N.k f14
 replace f18 := N.k f18
 have f19 := N.got
 clear N a7
 refine Ord.skip R (k := 9) (bs' := U27RefCellR 10) rfl (by kernel_rfl) hQ (R.shut (j := 7) rfl f18 (Ord.ne_undef _)) hS F.lt fun a9 N => ?_
 replace F := F.next N
 replace f14 := N.k f14
 replace f18 := N.k f18
 clear f19
 have f20 := N.got
 clear N a8
 refine Ord.skip R (k := 10) (bs' := U27RefCellR 11) rfl (by kernel_rfl) hQ (R.shut (j := 7) rfl f18 (Ord.ne_undef _)) hS F.lt fun a10 N => ?_
 replace F := F.next N
 replace f14 := N.k f14
 replace f18 := N.k f18
 clear f20
 have f21 := N.got
 clear N a9
 refine Ord.skip R (k := 11) (bs' := U27RefCellR 12) rfl (by kernel_rfl) hQ (R.shut (j := 3) rfl f14 (Ord.ne_not rfl)) hS F.lt fun a11 N => ?_
 replace F := F.next N
 replace f14 := N.k f14
 clear f18
 clear f21
 have f22 := N.got
 clear N a10
 refine Ord.take R (k := 12) (v := Go.Value.bool true) (bs' := U27RefCellR 13) rfl (by kernel_rfl) hQ trivial hS (fun w _ hS => Ord.ev_pick_yes f14.ev rfl) F.lt fun a12 N => ?_
 replace F := F.next N
 clear f14
 clear f22
 have f23 := N.got
 clear N a11
 refine Ord.take R (k := 13) (v := Go.Value.bool true) (bs' := U27RefCellR 14) rfl (by kernel_rfl) hQ trivial hS (fun w _ hS => Chain.ev_move f23.ev) F.lt fun a13 N => ?_
 replace F := F.next N
 clear f23
 have f24 := N.got
 clear N a12
 refine Ord.skip R (k := 14) (bs' := U27RefCellR 15) rfl (by kernel_rfl) hQ (R.shut (j := 13) rfl f24 (Ord.ne_not rfl)) hS F.lt fun a14 N => ?_
 replace F := F.next N
 replace f24 := N.k f24
 have f25 := N.got
 clear N a13
 refine Ord.skip R (k := 15) (bs' := U27RefCellR 16) rfl (by kernel_rfl) hQ (R.shut (j := 13) rfl f24 (Ord.ne_not rfl)) hS F.lt fun a15 N => ?_
 replace F := F.next N
 replace f24 := N.k f24
 clear f25
 have f26 := N.got
 clear N a14
 refine Ord.skip R (k := 16) (bs' := U27RefCellR 17) rfl (by kernel_rfl) hQ (R.shut (j := 13) rfl f24 (Ord.ne_not rfl)) hS F.lt fun a16 N => ?_
 replace F := F.next N
 replace f24 := N.k f24
 clear f26
 have f27 := N.got
 clear N a15
 refine Ord.skip R (k := 17) (bs' := U27RefCellR 18) rfl (by kernel_rfl) hQ (R.shut (j := 13) rfl f24 (Ord.ne_not rfl)) hS F.lt fun a17 N => ?_
 replace F := F.next N
 replace f24 := N.k f24
 clear f27
 have f28 := N.got
 clear N a16
 refine Ord.skip R (k := 18) (bs' := U27RefCellR 19) rfl (by kernel_rfl) hQ (R.shut (j := 17) rfl f28 (Ord.ne_undef _)) hS F.lt fun a18 N => ?_
 replace F := F.next N
 replace f24 := N.k f24
 replace f28 := N.k f28
 have f29 := N.got
 clear N a17
 refine Ord.skip R (k := 19) (bs' := U27RefCellR 20) rfl (by kernel_rfl) hQ (R.shut (j := 17) rfl f28 (Ord.ne_undef _)) hS F.lt fun a19 N => ?_
 replace F := F.next N
 replace f24 := N.k f24
 replace f28 := N.k f28
 clear f29
 have f30 := N.got
 clear N a18
 refine Ord.skip R (k := 20) (bs' := U27RefCellR 21) rfl (by kernel_rfl) hQ (R.shut (j := 17) rfl f28 (Ord.ne_undef _)) hS F.lt fun a20 N => ?_
 replace F := F.next N
 replace f24 := N.k f24
 replace f28 := N.k f28
 replace f30 := N.k f30
 have f31 := N.got
 clear N a19
 refine Ord.skip R (k := 21) (bs' := U27RefCellR 22) rfl (by kernel_rfl) hQ (R.shut (j := 17) rfl f28 (Ord.ne_undef _)) hS F.lt fun a21 N => ?_
 replace F := F.next N
 replace f24 := N.k f24
 replace f28 := N.k f28
 replace f30 := N.k f30
 clear f31
 have f32 := N.got
 clear N a20
 refine Ord.skip R (k := 22) (bs' := U27RefCellR 23) rfl (by kernel_rfl) hQ (R.shut (j := 17) rfl f28 (Ord.ne_undef _)) hS F.lt fun a22 N => ?_
 replace F := F.next N
 replace f24 := N.k f24
 replace f28 := N.k f28
 replace f30 := N.k f30
 clear f32
 have f33 := N.got
 clear N a21
 refine Ord.skip R (k := 23) (bs' := U27RefCellR 24) rfl (by kernel_rfl) hQ (R.shut (j := 17) rfl f28 (Ord.ne_undef _)) hS F.lt fun a23 N => ?_
 replace F := F.next N
 replace f24 := N.k f24
 replace f28 := N.k f28
 clear f30
 clear f33
 have f34 := N.got
 clear N a22
 refine Ord.skip R (k := 24) (bs' := U27RefCellR 25) rfl (by kernel_rfl) hQ (R.shut (j := 13) rfl f24 (Ord.ne_not rfl)) hS F.lt fun a24 N => ?_
 replace F := F.next N
 replace f24 := N.k f24
 clear f28
 clear f34
 have f35 := N.got
 clear N a23
 refine Ord.take R (k := 25) (v := Go.Value.bool true) (bs' := U27RefCellR 26) rfl (by kernel_rfl) hQ trivial hS (fun w _ hS => Ord.ev_pick_yes f24.ev rfl) F.lt fun a25 N => ?_
 replace F := F.next N
 clear f24
 clear f35
 have f36 := N.got
 clear N a24
 refine Ord.take R (k := 26) (v := Go.Value.bool true) (bs' := U27RefCellR 27) rfl (by kernel_rfl) hQ trivial hS (fun w _ hS => Chain.ev_assign f36.ev) F.lt fun a26 N => ?_
 replace F := F.next N
 clear f36
 have f2 := N.got
 clear N a25
 exact Ord.finish R (by kernel_rfl) (h _ _ f2 F.defers hS)
theorem refCell_half {ops : Array Oper} {Q : Exit → Act → World → Prop} (R : Ord.Reg ops refCellL) (hQ : ∀ c a w d v, Q (.panic c) (Act.put a (some d) v) w → Q (.panic c) a w) {w0 : World} {r n a0 : Int} (hE : ∀ w, (binOp .eql 76 (cellV r n a0) (cellV 0 1 0)).run Tryz.prog w = .ok (.bool false) w) (hn : (n == 0) = true) (hr : (r == 0) = true) (a : Act) (w : World) (F : CellFr w0.heap.size a)
  (hS : RC w0 r n a0 w) (h : ∀ a w, Chain.At a 2 (.bool true) → a.defers = [] → RC w0 r n a0 w → Q .normal a w) :
  wpAnyH Tryz.prog .any ops Q (RC w0 r n a0) 27 (List.replicate 27 false).toArray a w := by
 refine Ord.take R (k := 0) (v := cellV r n a0) (bs' := U27RefCellR 1) rfl (by kernel_rfl) hQ trivial hS (fun w _ hS => by have e1 := F.s1; unfold Chain.At at e1; have q0 := hS.c0; have q1 := hS.c1; have q2 := hS.c2; clear F; go_simp) F.lt fun a0 N => ?_
 replace F := F.next N
 have f11 := N.got
 clear N a
 refine Ord.call R (k := 1) (args := #[]) (bs' := U27RefCellR 2) rfl (by kernel_rfl) trivial (by simp) (by kernel_rfl) (refPad_walk _) F.lt ?_
 rintro e w ⟨rfl, hb⟩
 replace hS := hS.step hb
 refine ⟨_, rfl, hS, fun a1 N => ?_⟩
 replace F := F.next N
 replace f11 := N.k f11
 have f12 := N.got
 clear N a0
 refine Ord.take R (k := 2) (v := .bool false) (bs' := U27RefCellR 3) rfl (by kernel_rfl) hQ trivial hS (fun w _ hS => by have e11 := f11; unfold Chain.At at e11; have e12 := f12; unfold Chain.At at e12; have q0 := hE w; clear F; go_simp) F.lt fun a2 N => ?_
 replace F := F.next N
 clear f11
 clear f12
 have f13 := N.got
 clear N a1
 refine Ord.take R (k := 3) (v := .bool false) (bs' := U27RefCellR 4) rfl (by kernel_rfl) hQ trivial hS (fun w _ hS => Chain.ev_move f13.ev) F.lt fun a3 N => ?_
 replace F := F.next N
 clear f13
 have f14 := N.got
 clear N a2
 refine Ord.take R (k := 4) (v := .pointer (some ⟨w0.heap.size, 1, none⟩)) (bs' := U27RefCellR 5) rfl (by kernel_rfl) hQ (R.opened (j := 3) rfl f14) hS (fun w _ hS => by have e1 := F.s1; unfold Chain.At at e1; clear F; go_simp) F.lt fun a4 N => ?_
 replace F := F.next N
 replace f14 := N.k f14
 have f15 := N.got
 clear N a3
 refine Ord.take R (k := 5) (v := .int .i64 n) (bs' := U27RefCellR 6) rfl (by kernel_rfl) hQ (R.opened (j := 3) rfl f14) hS (fun w _ hS => by have e15 := f15; unfold Chain.At at e15; have q0 := hS.c1; clear F; go_simp) F.lt fun a5 N => ?_
 replace F := F.next N
 replace f14 := N.k f14
 clear f15
 have f16 := N.got
 clear N a4
 refine Ord.take R (k := 6) (v := .bool true) (bs' := U27RefCellR 7) rfl (by kernel_rfl) hQ (R.opened (j := 3) rfl f14) hS (fun w _ hS => by have e16 := f16; unfold Chain.At at e16; have q0 := hn; clear F; go_simp) F.lt fun a6 N => ?_
 replace F := F.next N
 replace f14 := N.k f14
 clear f16
 have f17 := N.got
 clear N a5
 refine Ord.take R (k := 7) (v := .bool true) (bs' := U27RefCellR 8) rfl (by kernel_rfl) hQ (R.opened (j := 3) rfl f14) hS (fun w _ hS => Chain.ev_move f17.ev) F.lt fun a7 N => ?_
 replace F := F.next N
 replace f14 := N.k f14
 clear f17
 have f18 := N.got
 clear N a6
 refine Ord.take R (k := 8) (v := .pointer (some ⟨w0.heap.size, 0, none⟩)) (bs' := U27RefCellR 9) rfl (by kernel_rfl) hQ (R.opened (j := 7) rfl f18) hS (fun w _ hS => by have e1 := F.s1; unfold Chain.At at e1; clear F; go_simp) F.lt fun a8 N => ?_
 replace F := F.next N
 replace f14 := N.k f14
 replace f18 := N.k f18
 have f19 := N.got
 clear N a7
 refine Ord.take R (k := 9) (v := .int .i32 r) (bs' := U27RefCellR 10) rfl (by kernel_rfl) hQ (R.opened (j := 7) rfl f18) hS (fun w _ hS => by have e19 := f19; unfold Chain.At at e19; have q0 := hS.c0; clear F; go_simp) F.lt fun a9 N => ?_
 replace F := F.next N
 replace f14 := N.k f14
 replace f18 := N.k f18
 clear f19
 have f20 := N.got
 clear N a8
 refine Ord.take R (k := 10) (v := .bool true) (bs' := U27RefCellR 11) rfl (by kernel_rfl) hQ (R.opened (j := 7) rfl f18) hS (fun w _ hS => by have e20 := f20; unfold Chain.At at e20; have q0 := hr; clear F; go_simp) F.lt fun a10 N => ?_
 replace F := F.next N
 replace f14 := N.k f14
 replace f18 := N.k f18
 clear f20
 have f21 := N.got
 clear N a9
 refine Ord.take R (k := 11) (v := .bool true) (bs' := U27RefCellR 12) rfl (by kernel_rfl) hQ (R.opened (j := 3) rfl f14) hS (fun w _ hS => Ord.ev_pick_yes f18.ev f21.ev) F.lt fun a11 N => ?_
 replace F := F.next N
 replace f14 := N.k f14
 clear f18
 clear f21
 have f22 := N.got
 clear N a10
 refine Ord.take R (k := 12) (v := .bool true) (bs' := U27RefCellR 13) rfl (by kernel_rfl) hQ trivial hS (fun w _ hS => Ord.ev_pick_no f14.ev f22.ev) F.lt fun a12 N => ?_
 replace F := F.next N
 clear f14
 clear f22
 have f23 := N.got
 clear N a11
 refine Ord.take R (k := 13) (v := .bool true) (bs' := U27RefCellR 14) rfl (by kernel_rfl) hQ trivial hS (fun w _ hS => Chain.ev_move f23.ev) F.lt fun a13 N => ?_
 replace F := F.next N
 clear f23
 have f24 := N.got
 clear N a12
 refine Ord.skip R (k := 14) (bs' := U27RefCellR 15) rfl (by kernel_rfl) hQ (R.shut (j := 13) rfl f24 (Ord.ne_not rfl)) hS F.lt fun a14 N => ?_
 replace F := F.next N
 replace f24 := N.k f24
 have f25 := N.got
 clear N a13
 refine Ord.skip R (k := 15) (bs' := U27RefCellR 16) rfl (by kernel_rfl) hQ (R.shut (j := 13) rfl f24 (Ord.ne_not rfl)) hS F.lt fun a15 N => ?_
 replace F := F.next N
 replace f24 := N.k f24
 clear f25
 have f26 := N.got
 clear N a14
 refine Ord.skip R (k := 16) (bs' := U27RefCellR 17) rfl (by kernel_rfl) hQ (R.shut (j := 13) rfl f24 (Ord.ne_not rfl)) hS F.lt fun a16 N => ?_
 replace F := F.next N
 replace f24 := N.k f24
 clear f26
 have f27 := N.got
 clear N a15
 refine Ord.skip R (k := 17) (bs' := U27RefCellR 18) rfl (by kernel_rfl) hQ (R.shut (j := 13) rfl f24 (Ord.ne_not rfl)) hS F.lt fun a17 N => ?_
 replace F := F.next N
 replace f24 := N.k f24
 clear f27
 have f28 := N.got
 clear N a16
 refine Ord.skip R (k := 18) (bs' := U27RefCellR 19) rfl (by kernel_rfl) hQ (R.shut (j := 17) rfl f28 (Ord.ne_undef _)) hS F.lt fun a18 N => ?_
 replace F := F.next N
 replace f24 := N.k f24
 replace f28 := N.k f28
 have f29 := N.got
 clear N a17
 refine Ord.skip R (k := 19) (bs' := U27RefCellR 20) rfl (by kernel_rfl) hQ (R.shut (j := 17) rfl f28 (Ord.ne_undef _)) hS F.lt fun a19 N => ?_
 replace F := F.next N
 replace f24 := N.k f24
 replace f28 := N.k f28
 clear f29
 have f30 := N.got
 clear N a18
 refine Ord.skip R (k := 20) (bs' := U27RefCellR 21) rfl (by kernel_rfl) hQ (R.shut (j := 17) rfl f28 (Ord.ne_undef _)) hS F.lt fun a20 N => ?_
 replace F := F.next N
 replace f24 := N.k f24
 replace f28 := N.k f28
 replace f30 := N.k f30
 have f31 := N.got
 clear N a19
 refine Ord.skip R (k := 21) (bs' := U27RefCellR 22) rfl (by kernel_rfl) hQ (R.shut (j := 17) rfl f28 (Ord.ne_undef _)) hS F.lt fun a21 N => ?_
 replace F := F.next N
 replace f24 := N.k f24
 replace f28 := N.k f28
 replace f30 := N.k f30
 clear f31
 have f32 := N.got
 clear N a20
 refine Ord.skip R (k := 22) (bs' := U27RefCellR 23) rfl (by kernel_rfl) hQ (R.shut (j := 17) rfl f28 (Ord.ne_undef _)) hS F.lt fun a22 N => ?_
 replace F := F.next N
 replace f24 := N.k f24
 replace f28 := N.k f28
 replace f30 := N.k f30
 clear f32
 have f33 := N.got
 clear N a21
 refine Ord.skip R (k := 23) (bs' := U27RefCellR 24) rfl (by kernel_rfl) hQ (R.shut (j := 17) rfl f28 (Ord.ne_undef _)) hS F.lt fun a23 N => ?_
 replace F := F.next N
 replace f24 := N.k f24
 replace f28 := N.k f28
 clear f30
 clear f33
 have f34 := N.got
 clear N a22
 refine Ord.skip R (k := 24) (bs' := U27RefCellR 25) rfl (by kernel_rfl) hQ (R.shut (j := 13) rfl f24 (Ord.ne_not rfl)) hS F.lt fun a24 N => ?_
 replace F := F.next N
 replace f24 := N.k f24
 clear f28
 clear f34
 have f35 := N.got
 clear N a23
 refine Ord.take R (k := 25) (v := Go.Value.bool true) (bs' := U27RefCellR 26) rfl (by kernel_rfl) hQ trivial hS (fun w _ hS => Ord.ev_pick_yes f24.ev rfl) F.lt fun a25 N => ?_
 replace F := F.next N
 clear f24
 clear f35
 have f36 := N.got
 clear N a24
 refine Ord.take R (k := 26) (v := Go.Value.bool true) (bs' := U27RefCellR 27) rfl (by kernel_rfl) hQ trivial hS (fun w _ hS => Chain.ev_assign f36.ev) F.lt fun a26 N => ?_
 replace F := F.next N
 clear f36
 have f2 := N.got
 clear N a25
 exact Ord.finish R (by kernel_rfl) (h _ _ f2 F.defers hS)
theorem refCell_none {ops : Array Oper} {Q : Exit → Act → World → Prop} (R : Ord.Reg ops refCellL) (hQ : ∀ c a w d v, Q (.panic c) (Act.put a (some d) v) w → Q (.panic c) a w) {w0 : World} {r n a0 : Int} (hE : ∀ w, (binOp .eql 76 (cellV r n a0) (cellV 0 1 0)).run Tryz.prog w = .ok (.bool false) w) (hn : (n == 0) = true) (hr : (r == 0) = false) (hp : ¬ 0 < n) (a : Act) (w : World) (F : CellFr w0.heap.size a)
  (hS : RC w0 r n a0 w) (h : ∀ a w, Chain.At a 2 (.bool false) → a.defers = [] → RC w0 r n a0 w → Q .normal a w) :
  wpAnyH Tryz.prog .any ops Q (RC w0 r n a0) 27 (List.replicate 27 false).toArray a w := by
 refine Ord.take R (k := 0) (v := cellV r n a0) (bs' := U27RefCellR 1) rfl (by kernel_rfl) hQ trivial hS (fun w _ hS => by have e1 := F.s1; unfold Chain.At at e1; have q0 := hS.c0; have q1 := hS.c1; have q2 := hS.c2; clear F; go_simp) F.lt fun a0 N => ?_
 replace F := F.next N
 have f11 := N.got
 clear N a
 refine Ord.call R (k := 1) (args := #[]) (bs' := U27RefCellR 2) rfl (by kernel_rfl) trivial (by simp) (by kernel_rfl) (refPad_walk _) F.lt ?_
 rintro e w ⟨rfl, hb⟩
 replace hS := hS.step hb
 refine ⟨_, rfl, hS, fun a1 N => ?_⟩
 replace F := F.next N
 replace f11 := N.k f11
 have f12 := N.got
 clear N a0
 refine Ord.take R (k := 2) (v := .bool false) (bs' := U27RefCellR 3) rfl (by kernel_rfl) hQ trivial hS (fun w _ hS => by have e11 := f11; unfold Chain.At at e11; have e12 := f12; unfold Chain.At at e12; have q0 := hE w; clear F; go_simp) F.lt fun a2 N => ?_
 replace F := F.next N
 clear f11
 clear f12
 have f13 := N.got
 clear N a1
 refine Ord.take R (k := 3) (v := .bool false) (bs' := U27RefCellR 4) rfl (by kernel_rfl) hQ trivial hS (fun w _ hS => Chain.ev_move f13.ev) F.lt fun a3 N => ?_
 replace F := F.next N
 clear f13
 have f14 := N.got
 clear N a2
 refine Ord.take R (k := 4) (v := .pointer (some ⟨w0.heap.size, 1, none⟩)) (bs' := U27RefCellR 5) rfl (by kernel_rfl) hQ (R.opened (j := 3) rfl f14) hS (fun w _ hS => by have e1 := F.s1; unfold Chain.At at e1; clear F; go_simp) F.lt fun a4 N => ?_
 replace F := F.next N
 replace f14 := N.k f14
 have f15 := N.got
 clear N a3
 refine Ord.take R (k := 5) (v := .int .i64 n) (bs' := U27RefCellR 6) rfl (by kernel_rfl) hQ (R.opened (j := 3) rfl f14) hS (fun w _ hS => by have e15 := f15; unfold Chain.At at e15; have q0 := hS.c1; clear F; go_simp) F.lt fun a5 N => ?_
 replace F := F.next N
 replace f14 := N.k f14
 clear f15
 have f16 := N.got
 clear N a4
 refine Ord.take R (k := 6) (v := .bool true) (bs' := U27RefCellR 7) rfl (by kernel_rfl) hQ (R.opened (j := 3) rfl f14) hS (fun w _ hS => by have e16 := f16; unfold Chain.At at e16; have q0 := hn; clear F; go_simp) F.lt fun a6 N => ?_
 replace F := F.next N
 replace f14 := N.k f14
 clear f16
 have f17 := N.got
 clear N a5
 refine Ord.take R (k := 7) (v := .bool true) (bs' := U27RefCellR 8) rfl (by kernel_rfl) hQ (R.opened (j := 3) rfl f14) hS (fun w _ hS => Chain.ev_move f17.ev) F.lt fun a7 N => ?_
 replace F := F.next N
 replace f14 := N.k f14
 clear f17
 have f18 := N.got
 clear N a6
 refine Ord.take R (k := 8) (v := .pointer (some ⟨w0.heap.size, 0, none⟩)) (bs' := U27RefCellR 9) rfl (by kernel_rfl) hQ (R.opened (j := 7) rfl f18) hS (fun w _ hS => by have e1 := F.s1; unfold Chain.At at e1; clear F; go_simp) F.lt fun a8 N => ?_
 replace F := F.next N
 replace f14 := N.k f14
 replace f18 := N.k f18
 have f19 := N.got
 clear N a7
 refine Ord.take R (k := 9) (v := .int .i32 r) (bs' := U27RefCellR 10) rfl (by kernel_rfl) hQ (R.opened (j := 7) rfl f18) hS (fun w _ hS => by have e19 := f19; unfold Chain.At at e19; have q0 := hS.c0; clear F; go_simp) F.lt fun a9 N => ?_
 replace F := F.next N
 replace f14 := N.k f14
 replace f18 := N.k f18
 clear f19
 have f20 := N.got
 clear N a8
 refine Ord.take R (k := 10) (v := .bool false) (bs' := U27RefCellR 11) rfl (by kernel_rfl) hQ (R.opened (j := 7) rfl f18) hS (fun w _ hS => by have e20 := f20; unfold Chain.At at e20; have q0 := hr; clear F; go_simp) F.lt fun a10 N => ?_
 replace F := F.next N
 replace f14 := N.k f14
 replace f18 := N.k f18
 clear f20
 have f21 := N.got
 clear N a9
 refine Ord.take R (k := 11) (v := .bool false) (bs' := U27RefCellR 12) rfl (by kernel_rfl) hQ (R.opened (j := 3) rfl f14) hS (fun w _ hS => Ord.ev_pick_yes f18.ev f21.ev) F.lt fun a11 N => ?_
 replace F := F.next N
 replace f14 := N.k f14
 clear f18
 clear f21
 have f22 := N.got
 clear N a10
 refine Ord.take R (k := 12) (v := .bool false) (bs' := U27RefCellR 13) rfl (by kernel_rfl) hQ trivial hS (fun w _ hS => Ord.ev_pick_no f14.ev f22.ev) F.lt fun a12 N => ?_
 replace F := F.next N
 clear f14
 clear f22
 have f23 := N.got
 clear N a11
 refine Ord.take R (k := 13) (v := .bool false) (bs' := U27RefCellR 14) rfl (by kernel_rfl) hQ trivial hS (fun w _ hS => Chain.ev_move f23.ev) F.lt fun a13 N => ?_
 replace F := F.next N
 clear f23
 have f24 := N.got
 clear N a12
 refine Ord.take R (k := 14) (v := .pointer (some ⟨w0.heap.size, 1, none⟩)) (bs' := U27RefCellR 15) rfl (by kernel_rfl) hQ (R.opened (j := 13) rfl f24) hS (fun w _ hS => by have e1 := F.s1; unfold Chain.At at e1; clear F; go_simp) F.lt fun a14 N => ?_
 replace F := F.next N
 replace f24 := N.k f24
 have f25 := N.got
 clear N a13
 refine Ord.take R (k := 15) (v := .int .i64 n) (bs' := U27RefCellR 16) rfl (by kernel_rfl) hQ (R.opened (j := 13) rfl f24) hS (fun w _ hS => by have e25 := f25; unfold Chain.At at e25; have q0 := hS.c1; clear F; go_simp) F.lt fun a15 N => ?_
 replace F := F.next N
 replace f24 := N.k f24
 clear f25
 have f26 := N.got
 clear N a14
 refine Ord.take R (k := 16) (v := .bool false) (bs' := U27RefCellR 17) rfl (by kernel_rfl) hQ (R.opened (j := 13) rfl f24) hS (fun w _ hS => by have e26 := f26; unfold Chain.At at e26; have q0 := hp; clear F; go_simp) F.lt fun a16 N => ?_
 replace F := F.next N
 replace f24 := N.k f24
 clear f26
 have f27 := N.got
 clear N a15
 refine Ord.take R (k := 17) (v := .bool false) (bs' := U27RefCellR 18) rfl (by kernel_rfl) hQ (R.opened (j := 13) rfl f24) hS (fun w _ hS => Chain.ev_move f27.ev) F.lt fun a17 N => ?_
 replace F := F.next N
 replace f24 := N.k f24
 clear f27
 have f28 := N.got
 clear N a16
 refine Ord.skip R (k := 18) (bs' := U27RefCellR 19) rfl (by kernel_rfl) hQ (R.shut (j := 17) rfl f28 (Ord.ne_not rfl)) hS F.lt fun a18 N => ?_
 replace F := F.next N
 replace f24 := N.k f24
 replace f28 := N.k f28
 have f29 := N.got
 clear N a17
 refine Ord.skip R (k := 19) (bs' := U27RefCellR 20) rfl (by kernel_rfl) hQ (R.shut (j := 17) rfl f28 (Ord.ne_not rfl)) hS F.lt fun a19 N => ?_
 replace F := F.next N
 replace f24 := N.k f24
 replace f28 := N.k f28
 clear f29
 have f30 := N.got
 clear N a18
 refine Ord.skip R (k := 20) (bs' := U27RefCellR 21) rfl (by kernel_rfl) hQ (R.shut (j := 17) rfl f28 (Ord.ne_not rfl)) hS F.lt fun a20 N => ?_
 replace F := F.next N
 replace f24 := N.k f24
 replace f28 := N.k f28
 replace f30 := N.k f30
 have f31 := N.got
 clear N a19
 refine Ord.skip R (k := 21) (bs' := U27RefCellR 22) rfl (by kernel_rfl) hQ (R.shut (j := 17) rfl f28 (Ord.ne_not rfl)) hS F.lt fun a21 N => ?_
 replace F := F.next N
 replace f24 := N.k f24
 replace f28 := N.k f28
 replace f30 := N.k f30
 clear f31
 have f32 := N.got
 clear N a20
 refine Ord.skip R (k := 22) (bs' := U27RefCellR 23) rfl (by kernel_rfl) hQ (R.shut (j := 17) rfl f28 (Ord.ne_not rfl)) hS F.lt fun a22 N => ?_
 replace F := F.next N
 replace f24 := N.k f24
 replace f28 := N.k f28
 replace f30 := N.k f30
 clear f32
 have f33 := N.got
 clear N a21
 refine Ord.skip R (k := 23) (bs' := U27RefCellR 24) rfl (by kernel_rfl) hQ (R.shut (j := 17) rfl f28 (Ord.ne_not rfl)) hS F.lt fun a23 N => ?_
 replace F := F.next N
 replace f24 := N.k f24
 replace f28 := N.k f28
 clear f30
 clear f33
 have f34 := N.got
 clear N a22
 refine Ord.take R (k := 24) (v := Go.Value.bool false) (bs' := U27RefCellR 25) rfl (by kernel_rfl) hQ (R.opened (j := 13) rfl f24) hS (fun w _ hS => Ord.ev_pick_no f28.ev rfl) F.lt fun a24 N => ?_
 replace F := F.next N
 replace f24 := N.k f24
 clear f28
 clear f34
 have f35 := N.got
 clear N a23
 refine Ord.take R (k := 25) (v := Go.Value.bool false) (bs' := U27RefCellR 26) rfl (by kernel_rfl) hQ trivial hS (fun w _ hS => Ord.ev_pick_no f24.ev f35.ev) F.lt fun a25 N => ?_
 replace F := F.next N
 clear f24
 clear f35
 have f36 := N.got
 clear N a24
 refine Ord.take R (k := 26) (v := Go.Value.bool false) (bs' := U27RefCellR 27) rfl (by kernel_rfl) hQ trivial hS (fun w _ hS => Chain.ev_assign f36.ev) F.lt fun a26 N => ?_
 replace F := F.next N
 clear f36
 have f2 := N.got
 clear N a25
 exact Ord.finish R (by kernel_rfl) (h _ _ f2 F.defers hS)
theorem refCell_less {ops : Array Oper} {Q : Exit → Act → World → Prop} (R : Ord.Reg ops refCellL) (hQ : ∀ c a w d v, Q (.panic c) (Act.put a (some d) v) w → Q (.panic c) a w) {w0 : World} {r n a0 : Int} (hE : ∀ w, (binOp .eql 76 (cellV r n a0) (cellV 0 1 0)).run Tryz.prog w = .ok (.bool false) w) (hn : (n == 0) = false) (hp : ¬ 0 < n) (a : Act) (w : World) (F : CellFr w0.heap.size a)
  (hS : RC w0 r n a0 w) (h : ∀ a w, Chain.At a 2 (.bool false) → a.defers = [] → RC w0 r n a0 w → Q .normal a w) :
  wpAnyH Tryz.prog .any ops Q (RC w0 r n a0) 27 (List.replicate 27 false).toArray a w := by
 refine Ord.take R (k := 0) (v := cellV r n a0) (bs' := U27RefCellR 1) rfl (by kernel_rfl) hQ trivial hS (fun w _ hS => by have e1 := F.s1; unfold Chain.At at e1; have q0 := hS.c0; have q1 := hS.c1; have q2 := hS.c2; clear F; go_simp) F.lt fun a0 N => ?_
 replace F := F.next N
 have f11 := N.got
 clear N a
 refine Ord.call R (k := 1) (args := #[]) (bs' := U27RefCellR 2) rfl (by kernel_rfl) trivial (by simp) (by kernel_rfl) (refPad_walk _) F.lt ?_
 rintro e w ⟨rfl, hb⟩
 replace hS := hS.step hb
 refine ⟨_, rfl, hS, fun a1 N => ?_⟩
 replace F := F.next N
 replace f11 := N.k f11
 have f12 := N.got
 clear N a0
 refine Ord.take R (k := 2) (v := .bool false) (bs' := U27RefCellR 3) rfl (by kernel_rfl) hQ trivial hS (fun w _ hS => by have e11 := f11; unfold Chain.At at e11; have e12 := f12; unfold Chain.At at e12; have q0 := hE w; clear F; go_simp) F.lt fun a2 N => ?_
 replace F := F.next N
 clear f11
 clear f12
 have f13 := N.got
 clear N a1
 refine Ord.take R (k := 3) (v := .bool false) (bs' := U27RefCellR 4) rfl (by kernel_rfl) hQ trivial hS (fun w _ hS => Chain.ev_move f13.ev) F.lt fun a3 N => ?_
 replace F := F.next N
 clear f13
 have f14 := N.got
 clear N a2
 refine Ord.take R (k := 4) (v := .pointer (some ⟨w0.heap.size, 1, none⟩)) (bs' := U27RefCellR 5) rfl (by kernel_rfl) hQ (R.opened (j := 3) rfl f14) hS (fun w _ hS => by have e1 := F.s1; unfold Chain.At at e1; clear F; go_simp) F.lt fun a4 N => ?_
 replace F := F.next N
 replace f14 := N.k f14
 have f15 := N.got
 clear N a3
 refine Ord.take R (k := 5) (v := .int .i64 n) (bs' := U27RefCellR 6) rfl (by kernel_rfl) hQ (R.opened (j := 3) rfl f14) hS (fun w _ hS => by have e15 := f15; unfold Chain.At at e15; have q0 := hS.c1; clear F; go_simp) F.lt fun a5 N => ?_
 replace F := F.next N
 replace f14 := N.k f14
 clear f15
 have f16 := N.got
 clear N a4
 refine Ord.take R (k := 6) (v := .bool false) (bs' := U27RefCellR 7) rfl (by kernel_rfl) hQ (R.opened (j := 3) rfl f14) hS (fun w _ hS => by have e16 := f16; unfold Chain.At at e16; have q0 := hn; clear F; go_simp) F.lt fun a6 N => ?_
 replace F := F.next N
 replace f14 := N.k f14
 clear f16
 have f17 := N.got
 clear N a5
 refine Ord.take R (k := 7) (v := .bool false) (bs' := U27RefCellR 8) rfl (by kernel_rfl) hQ (R.opened (j := 3) rfl f14) hS (fun w _ hS => Chain.ev_move f17.ev) F.lt fun a7 N => ?_
 replace F := F.next N
 replace f14 := N.k f14
 clear f17
 have f18 := N.got
 clear N a6
 refine Ord.skip R (k := 8) (bs' := U27RefCellR 9) rfl (by kernel_rfl) hQ (R.shut (j := 7) rfl f18 (Ord.ne_not rfl)) hS F.lt fun a8 N => ?_
 replace F := F.next N
 replace f14 := N.k f14
 replace f18 := N.k f18
 have f19 := N.got
 clear N a7
 refine Ord.skip R (k := 9) (bs' := U27RefCellR 10) rfl (by kernel_rfl) hQ (R.shut (j := 7) rfl f18 (Ord.ne_not rfl)) hS F.lt fun a9 N => ?_
 replace F := F.next N
 replace f14 := N.k f14
 replace f18 := N.k f18
 clear f19
 have f20 := N.got
 clear N a8
 refine Ord.skip R (k := 10) (bs' := U27RefCellR 11) rfl (by kernel_rfl) hQ (R.shut (j := 7) rfl f18 (Ord.ne_not rfl)) hS F.lt fun a10 N => ?_
 replace F := F.next N
 replace f14 := N.k f14
 replace f18 := N.k f18
 clear f20
 have f21 := N.got
 clear N a9
 refine Ord.take R (k := 11) (v := Go.Value.bool false) (bs' := U27RefCellR 12) rfl (by kernel_rfl) hQ (R.opened (j := 3) rfl f14) hS (fun w _ hS => Ord.ev_pick_no f18.ev rfl) F.lt fun a11 N => ?_
 replace F := F.next N
 replace f14 := N.k f14
 clear f18
 clear f21
 have f22 := N.got
 clear N a10
 refine Ord.take R (k := 12) (v := Go.Value.bool false) (bs' := U27RefCellR 13) rfl (by kernel_rfl) hQ trivial hS (fun w _ hS => Ord.ev_pick_no f14.ev f22.ev) F.lt fun a12 N => ?_
 replace F := F.next N
 clear f14
 clear f22
 have f23 := N.got
 clear N a11
 refine Ord.take R (k := 13) (v := Go.Value.bool false) (bs' := U27RefCellR 14) rfl (by kernel_rfl) hQ trivial hS (fun w _ hS => Chain.ev_move f23.ev) F.lt fun a13 N => ?_
 replace F := F.next N
 clear f23
 have f24 := N.got
 clear N a12
 refine Ord.take R (k := 14) (v := .pointer (some ⟨w0.heap.size, 1, none⟩)) (bs' := U27RefCellR 15) rfl (by kernel_rfl) hQ (R.opened (j := 13) rfl f24) hS (fun w _ hS => by have e1 := F.s1; unfold Chain.At at e1; clear F; go_simp) F.lt fun a14 N => ?_
 replace F := F.next N
 replace f24 := N.k f24
 have f25 := N.got
 clear N a13
 refine Ord.take R (k := 15) (v := .int .i64 n) (bs' := U27RefCellR 16) rfl (by kernel_rfl) hQ (R.opened (j := 13) rfl f24) hS (fun w _ hS => by have e25 := f25; unfold Chain.At at e25; have q0 := hS.c1; clear F; go_simp) F.lt fun a15 N => ?_
 replace F := F.next N
 replace f24 := N.k f24
 clear f25
 have f26 := N.got
 clear N a14
 refine Ord.take R (k := 16) (v := .bool false) (bs' := U27RefCellR 17) rfl (by kernel_rfl) hQ (R.opened (j := 13) rfl f24) hS (fun w _ hS => by have e26 := f26; unfold Chain.At at e26; have q0 := hp; clear F; go_simp) F.lt fun a16 N => ?_
 replace F := F.next N
 replace f24 := N.k f24
 clear f26
 have f27 := N.got
 clear N a15
 refine Ord.take R (k := 17) (v := .bool false) (bs' := U27RefCellR 18) rfl (by kernel_rfl) hQ (R.opened (j := 13) rfl f24) hS (fun w _ hS => Chain.ev_move f27.ev) F.lt fun a17 N => ?_
 replace F := F.next N
 replace f24 := N.k f24
 clear f27
 have f28 := N.got
 clear N a16
 refine Ord.skip R (k := 18) (bs' := U27RefCellR 19) rfl (by kernel_rfl) hQ (R.shut (j := 17) rfl f28 (Ord.ne_not rfl)) hS F.lt fun a18 N => ?_
 replace F := F.next N
 replace f24 := N.k f24
 replace f28 := N.k f28
 have f29 := N.got
 clear N a17
 refine Ord.skip R (k := 19) (bs' := U27RefCellR 20) rfl (by kernel_rfl) hQ (R.shut (j := 17) rfl f28 (Ord.ne_not rfl)) hS F.lt fun a19 N => ?_
 replace F := F.next N
 replace f24 := N.k f24
 replace f28 := N.k f28
 clear f29
 have f30 := N.got
 clear N a18
 refine Ord.skip R (k := 20) (bs' := U27RefCellR 21) rfl (by kernel_rfl) hQ (R.shut (j := 17) rfl f28 (Ord.ne_not rfl)) hS F.lt fun a20 N => ?_
 replace F := F.next N
 replace f24 := N.k f24
 replace f28 := N.k f28
 replace f30 := N.k f30
 have f31 := N.got
 clear N a19
 refine Ord.skip R (k := 21) (bs' := U27RefCellR 22) rfl (by kernel_rfl) hQ (R.shut (j := 17) rfl f28 (Ord.ne_not rfl)) hS F.lt fun a21 N => ?_
 replace F := F.next N
 replace f24 := N.k f24
 replace f28 := N.k f28
 replace f30 := N.k f30
 clear f31
 have f32 := N.got
 clear N a20
 refine Ord.skip R (k := 22) (bs' := U27RefCellR 23) rfl (by kernel_rfl) hQ (R.shut (j := 17) rfl f28 (Ord.ne_not rfl)) hS F.lt fun a22 N => ?_
 replace F := F.next N
 replace f24 := N.k f24
 replace f28 := N.k f28
 replace f30 := N.k f30
 clear f32
 have f33 := N.got
 clear N a21
 refine Ord.skip R (k := 23) (bs' := U27RefCellR 24) rfl (by kernel_rfl) hQ (R.shut (j := 17) rfl f28 (Ord.ne_not rfl)) hS F.lt fun a23 N => ?_
 replace F := F.next N
 replace f24 := N.k f24
 replace f28 := N.k f28
 clear f30
 clear f33
 have f34 := N.got
 clear N a22
 refine Ord.take R (k := 24) (v := Go.Value.bool false) (bs' := U27RefCellR 25) rfl (by kernel_rfl) hQ (R.opened (j := 13) rfl f24) hS (fun w _ hS => Ord.ev_pick_no f28.ev rfl) F.lt fun a24 N => ?_
 replace F := F.next N
 replace f24 := N.k f24
 clear f28
 clear f34
 have f35 := N.got
 clear N a23
 refine Ord.take R (k := 25) (v := Go.Value.bool false) (bs' := U27RefCellR 26) rfl (by kernel_rfl) hQ trivial hS (fun w _ hS => Ord.ev_pick_no f24.ev f35.ev) F.lt fun a25 N => ?_
 replace F := F.next N
 clear f24
 clear f35
 have f36 := N.got
 clear N a24
 refine Ord.take R (k := 26) (v := Go.Value.bool false) (bs' := U27RefCellR 27) rfl (by kernel_rfl) hQ trivial hS (fun w _ hS => Chain.ev_assign f36.ev) F.lt fun a26 N => ?_
 replace F := F.next N
 clear f36
 have f2 := N.got
 clear N a25
 exact Ord.finish R (by kernel_rfl) (h _ _ f2 F.defers hS)
theorem refCell_sign {ops : Array Oper} {Q : Exit → Act → World → Prop} (R : Ord.Reg ops refCellL) (hQ : ∀ c a w d v, Q (.panic c) (Act.put a (some d) v) w → Q (.panic c) a w) {w0 : World} {r n a0 : Int} (hE : ∀ w, (binOp .eql 76 (cellV r n a0) (cellV 0 1 0)).run Tryz.prog w = .ok (.bool false) w) {b : Bool} (hr0 : -2147483648 ≤ r) (hr1 : r ≤ 2147483647) (hn : (n == 0) = false) (hp : 0 < n) (hm : (n == wof r) = b) (a : Act) (w : World) (F : CellFr w0.heap.size a)
  (hS : RC w0 r n a0 w) (h : ∀ a w, Chain.At a 2 (.bool b) → a.defers = [] → RC w0 r n a0 w → Q .normal a w) :
  wpAnyH Tryz.prog .any ops Q (RC w0 r n a0) 27 (List.replicate 27 false).toArray a w := by
 refine Ord.take R (k := 0) (v := cellV r n a0) (bs' := U27RefCellR 1) rfl (by kernel_rfl) hQ trivial hS (fun w _ hS => by have e1 := F.s1; unfold Chain.At at e1; have q0 := hS.c0; have q1 := hS.c1; have q2 := hS.c2; clear F; go_simp) F.lt fun a0 N => ?_
 replace F := F.next N
 have f11 := N.got
 clear N a
 refine Ord.call R (k := 1) (args := #[]) (bs' := U27RefCellR 2) rfl (by kernel_rfl) trivial (by simp) (by kernel_rfl) (refPad_walk _) F.lt ?_
 rintro e w ⟨rfl, hb⟩
 replace hS := hS.step hb
 refine ⟨_, rfl, hS, fun a1 N => ?_⟩
 replace F := F.next N
 replace f11 := N.k f11
 have f12 := N.got
 clear N a0
 refine Ord.take R (k := 2) (v := .bool false) (bs' := U27RefCellR 3) rfl (by kernel_rfl) hQ trivial hS (fun w _ hS => by have e11 := f11; unfold Chain.At at e11; have e12 := f12; unfold Chain.At at e12; have q0 := hE w; clear F; go_simp) F.lt fun a2 N => ?_
 replace F := F.next N
 clear f11
 clear f12
 have f13 := N.got
 clear N a1
 refine Ord.take R (k := 3) (v := .bool false) (bs' := U27RefCellR 4) rfl (by kernel_rfl) hQ trivial hS (fun w _ hS => Chain.ev_move f13.ev) F.lt fun a3 N => ?_
 replace F := F.next N
 clear f13
 have f14 := N.got
 clear N a2
 refine Ord.take R (k := 4) (v := .pointer (some ⟨w0.heap.size, 1, none⟩)) (bs' := U27RefCellR 5) rfl (by kernel_rfl) hQ (R.opened (j := 3) rfl f14) hS (fun w _ hS => by have e1 := F.s1; unfold Chain.At at e1; clear F; go_simp) F.lt fun a4 N => ?_
 replace F := F.next N
 replace f14 := N.k f14
 have f15 := N.got
 clear N a3
 refine Ord.take R (k := 5) (v := .int .i64 n) (bs' := U27RefCellR 6) rfl (by kernel_rfl) hQ (R.opened (j := 3) rfl f14) hS (fun w _ hS => by have e15 := f15; unfold Chain.At at e15; have q0 := hS.c1; clear F; go_simp) F.lt fun a5 N => ?_
 replace F := F.next N
 replace f14 := N.k f14
 clear f15
 have f16 := N.got
 clear N a4
 refine Ord.take R (k := 6) (v := .bool false) (bs' := U27RefCellR 7) rfl (by kernel_rfl) hQ (R.opened (j := 3) rfl f14) hS (fun w _ hS => by have e16 := f16; unfold Chain.At at e16; have q0 := hn; clear F; go_simp) F.lt fun a6 N => ?_
 replace F := F.next N
 replace f14 := N.k f14
 clear f16
 have f17 := N.got
 clear N a5
 refine Ord.take R (k := 7) (v := .bool false) (bs' := U27RefCellR 8) rfl (by kernel_rfl) hQ (R.opened (j := 3) rfl f14) hS (fun w _ hS => Chain.ev_move f17.ev) F.lt fun a7 N => ?_
 replace F := F.next N
 replace f14 := N.k f14
 clear f17
 have f18 := N.got
 clear N a6
 refine Ord.skip R (k := 8) (bs' := U27RefCellR 9) rfl (by kernel_rfl) hQ (R.shut (j := 7) rfl f18 (Ord.ne_not rfl)) hS F.lt fun a8 N => ?_
 replace F := F.next N
 replace f14 := N.k f14
 replace f18 := N.k f18
 have f19 := N.got
 clear N a7
 refine Ord.skip R (k := 9) (bs' := U27RefCellR 10) rfl (by kernel_rfl) hQ (R.shut (j := 7) rfl f18 (Ord.ne_not rfl)) hS F.lt fun a9 N => ?_
 replace F := F.next N
 replace f14 := N.k f14
 replace f18 := N.k f18
 clear f19
 have f20 := N.got
 clear N a8
 refine Ord.skip R (k := 10) (bs' := U27RefCellR 11) rfl (by kernel_rfl) hQ (R.shut (j := 7) rfl f18 (Ord.ne_not rfl)) hS F.lt fun a10 N => ?_
 replace F := F.next N
 replace f14 := N.k f14
 replace f18 := N.k f18
 clear f20
 have f21 := N.got
 clear N a9
 refine Ord.take R (k := 11) (v := Go.Value.bool false) (bs' := U27RefCellR 12) rfl (by kernel_rfl) hQ (R.opened (j := 3) rfl f14) hS (fun w _ hS => Ord.ev_pick_no f18.ev rfl) F.lt fun a11 N => ?_
 replace F := F.next N
 replace f14 := N.k f14
 clear f18
 clear f21
 have f22 := N.got
 clear N a10
 refine Ord.take R (k := 12) (v := Go.Value.bool false) (bs' := U27RefCellR 13) rfl (by kernel_rfl) hQ trivial hS (fun w _ hS => Ord.ev_pick_no f14.ev f22.ev) F.lt fun a12 N => ?_
 replace F := F.next N
 clear f14
 clear f22
 have f23 := N.got
 clear N a11
 refine Ord.take R (k := 13) (v := Go.Value.bool false) (bs' := U27RefCellR 14) rfl (by kernel_rfl) hQ trivial hS (fun w _ hS => Chain.ev_move f23.ev) F.lt fun a13 N => ?_
 replace F := F.next N
 clear f23
 have f24 := N.got
 clear N a12
 refine Ord.take R (k := 14) (v := .pointer (some ⟨w0.heap.size, 1, none⟩)) (bs' := U27RefCellR 15) rfl (by kernel_rfl) hQ (R.opened (j := 13) rfl f24) hS (fun w _ hS => by have e1 := F.s1; unfold Chain.At at e1; clear F; go_simp) F.lt fun a14 N => ?_
 replace F := F.next N
 replace f24 := N.k f24
 have f25 := N.got
 clear N a13
 refine Ord.take R (k := 15) (v := .int .i64 n) (bs' := U27RefCellR 16) rfl (by kernel_rfl) hQ (R.opened (j := 13) rfl f24) hS (fun w _ hS => by have e25 := f25; unfold Chain.At at e25; have q0 := hS.c1; clear F; go_simp) F.lt fun a15 N => ?_
 replace F := F.next N
 replace f24 := N.k f24
 clear f25
 have f26 := N.got
 clear N a14
 refine Ord.take R (k := 16) (v := .bool true) (bs' := U27RefCellR 17) rfl (by kernel_rfl) hQ (R.opened (j := 13) rfl f24) hS (fun w _ hS => by have e26 := f26; unfold Chain.At at e26; have q0 := hp; clear F; go_simp) F.lt fun a16 N => ?_
 replace F := F.next N
 replace f24 := N.k f24
 clear f26
 have f27 := N.got
 clear N a15
 refine Ord.take R (k := 17) (v := .bool true) (bs' := U27RefCellR 18) rfl (by kernel_rfl) hQ (R.opened (j := 13) rfl f24) hS (fun w _ hS => Chain.ev_move f27.ev) F.lt fun a17 N => ?_
 replace F := F.next N
 replace f24 := N.k f24
 clear f27
 have f28 := N.got
 clear N a16
 refine Ord.take R (k := 18) (v := .pointer (some ⟨w0.heap.size, 1, none⟩)) (bs' := U27RefCellR 19) rfl (by kernel_rfl) hQ (R.opened (j := 17) rfl f28) hS (fun w _ hS => by have e1 := F.s1; unfold Chain.At at e1; clear F; go_simp) F.lt fun a18 N => ?_
 replace F := F.next N
 replace f24 := N.k f24
 replace f28 := N.k f28
 have f29 := N.got
 clear N a17
 refine Ord.take R (k := 19) (v := .int .i64 n) (bs' := U27RefCellR 20) rfl (by kernel_rfl) hQ (R.opened (j := 17) rfl f28) hS (fun w _ hS => by have e29 := f29; unfold Chain.At at e29; have q0 := hS.c1; clear F; go_simp) F.lt fun a19 N => ?_
 replace F := F.next N
 replace f24 := N.k f24
 replace f28 := N.k f28
 clear f29
 have f30 := N.got
 clear N a18
 refine Ord.take R (k := 20) (v := .pointer (some ⟨w0.heap.size, 0, none⟩)) (bs' := U27RefCellR 21) rfl (by kernel_rfl) hQ (R.opened (j := 17) rfl f28) hS (fun w _ hS => by have e1 := F.s1; unfold Chain.At at e1; clear F; go_simp) F.lt fun a20 N => ?_
 replace F := F.next N
 replace f24 := N.k f24
 replace f28 := N.k f28
 replace f30 := N.k f30
 have f31 := N.got
 clear N a19
 refine Ord.take R (k := 21) (v := .int .i32 r) (bs' := U27RefCellR 22) rfl (by kernel_rfl) hQ (R.opened (j := 17) rfl f28) hS (fun w _ hS => by have e31 := f31; unfold Chain.At at e31; have q0 := hS.c0; clear F; go_simp) F.lt fun a21 N => ?_
 replace F := F.next N
 replace f24 := N.k f24
 replace f28 := N.k f28
 replace f30 := N.k f30
 clear f31
 have f32 := N.got
 clear N a20
 refine Ord.call R (k := 22) (args := #[.int .i32 r]) (bs' := U27RefCellR 23) rfl (by kernel_rfl) (R.opened (j := 17) rfl f28) (by simp [f32.ev]) (by kernel_rfl) (refWidth_walk r hr0 hr1 _) F.lt ?_
 rintro e w ⟨rfl, hb⟩
 replace hS := hS.step hb
 refine ⟨_, rfl, hS, fun a22 N => ?_⟩
 replace F := F.next N
 replace f24 := N.k f24
 replace f28 := N.k f28
 replace f30 := N.k f30
 clear f32
 have f33 := N.got
 clear N a21
 refine Ord.take R (k := 23) (v := .bool b) (bs' := U27RefCellR 24) rfl (by kernel_rfl) hQ (R.opened (j := 17) rfl f28) hS (fun w _ hS => by have e30 := f30; unfold Chain.At at e30; have e33 := f33; unfold Chain.At at e33; have q0 := hm; clear F; go_simp) F.lt fun a23 N => ?_
 replace F := F.next N
 replace f24 := N.k f24
 replace f28 := N.k f28
 clear f30
 clear f33
 have f34 := N.got
 clear N a22
 refine Ord.take R (k := 24) (v := .bool b) (bs' := U27RefCellR 25) rfl (by kernel_rfl) hQ (R.opened (j := 13) rfl f24) hS (fun w _ hS => Ord.ev_pick_yes f28.ev f34.ev) F.lt fun a24 N => ?_
 replace F := F.next N
 replace f24 := N.k f24
 clear f28
 clear f34
 have f35 := N.got
 clear N a23
 refine Ord.take R (k := 25) (v := .bool b) (bs' := U27RefCellR 26) rfl (by kernel_rfl) hQ trivial hS (fun w _ hS => Ord.ev_pick_no f24.ev f35.ev) F.lt fun a25 N => ?_
 replace F := F.next N
 clear f24
 clear f35
 have f36 := N.got
 clear N a24
 refine Ord.take R (k := 26) (v := .bool b) (bs' := U27RefCellR 27) rfl (by kernel_rfl) hQ trivial hS (fun w _ hS => Chain.ev_assign f36.ev) F.lt fun a26 N => ?_
 replace F := F.next N
 clear f36
 have f2 := N.got
 clear N a25
 exact Ord.finish R (by kernel_rfl) (h _ _ f2 F.defers hS)
theorem eql_cell (r n a : Int) (w : World) : (binOp .eql 76 (cellV r n a) (cellV 0 1 0)).run Tryz.prog w = .ok (.bool (isB 0 r n a)) w := by
 have hw := w
 unfold isB
 cases h1 : (r == 0) <;> cases h2 : (n == 1) <;> cases h3 : (a == 0) <;> go_simp
theorem refCell_walk (r n a : Int) (hr0 : -2147483648 ≤ r) (hr1 : r ≤ 2147483647) (w : World) : Calls Tryz.prog 101 #[cellV r n a] w fun e w' => e = .returned (.bool (mayB (r, n, a))) ∧ Below w.heap.size w w' := by
 by_cases ha : 0 ≤ a ∧ a ≤ 255
 ·obtain ⟨h0, h1⟩ := ha
  have RN := Lib.hid (RC.new w r n a)
  have EC := Lib.hid (fun w => eql_cell r n a w)
  go_enter Tryz.func101, Tryz.ntmps101
  go_wp2_with fail
  refine Ord.start (S := RC w r n a) (n := 27) (by kernel_rfl) (by kernel_rfl) RN.out.drew ?_
  cases hb : isB 0 r n a
  ·have hE : ∀ w, (binOp .eql 76 (cellV r n a) (cellV 0 1 0)).run Tryz.prog w = .ok (.bool false) w := fun w => (EC.out w).trans (by rw [hb])
   by_cases hn : n = 0
   ·subst hn
    cases hr : (r == 0)
    ·have MB := Lib.hid (show mayB (r, 0, a) = false by rw [mayB_half h0 h1, hr])
     refine refCell_none ⟨by kernel_rfl, by kernel_rfl⟩ (fun _ _ _ _ _ h => h) hE rfl hr (by omega) _ _ ⟨rfl, rfl, rfl⟩ RN.out.drew ?_
     intro a' w' h2 hd hS
     have OUT := Lib.hid hS.below
     have E2 := Lib.hid h2
     clear hS h2
     go_wp2
     refine bodyPost_ret (v := .bool false) ?_ hd ⟨by rw [MB.out], OUT.out⟩
     have e := E2.out
     unfold Chain.At at e
     simp [results, Tryz.results101, go_sem, e]
    ·have MB := Lib.hid (show mayB (r, 0, a) = true by rw [mayB_half h0 h1, hr])
     refine refCell_half ⟨by kernel_rfl, by kernel_rfl⟩ (fun _ _ _ _ _ h => h) hE rfl hr _ _ ⟨rfl, rfl, rfl⟩ RN.out.drew ?_
     intro a' w' h2 hd hS
     have OUT := Lib.hid hS.below
     have E2 := Lib.hid h2
     clear hS h2
     go_wp2
     refine bodyPost_ret (v := .bool true) ?_ hd ⟨by rw [MB.out], OUT.out⟩
     have e := E2.out
     unfold Chain.At at e
     simp [results, Tryz.results101, go_sem, e]
   ·have hz : (n == 0) = false := by simpa using hn
    by_cases hp : 0 < n
    ·obtain ⟨b, hbb⟩ : ∃ b, (n == wof r) = b := ⟨_, rfl⟩
     have MB := Lib.hid (show mayB (r, n, a) = b by rw [mayB_sign h0 h1 hn, hb, ← hbb, Bool.eq_iff_iff]; simp only [Bool.or_false, beq_iff_eq]; exact eq_comm)
     refine refCell_sign ⟨by kernel_rfl, by kernel_rfl⟩ (fun _ _ _ _ _ h => h) hE hr0 hr1 hz hp hbb _ _ ⟨rfl, rfl, rfl⟩ RN.out.drew ?_
     intro a' w' h2 hd hS
     have OUT := Lib.hid hS.below
     have E2 := Lib.hid h2
     clear hS h2
     go_wp2
     refine bodyPost_ret (v := .bool b) ?_ hd ⟨by rw [MB.out], OUT.out⟩
     have e := E2.out
     unfold Chain.At at e
     simp [results, Tryz.results101, go_sem, e]
    ·have MB := Lib.hid (show mayB (r, n, a) = false by
      rw [mayB_sign h0 h1 hn, hb]
      have := wof_range r
      simp
      omega)
     refine refCell_less ⟨by kernel_rfl, by kernel_rfl⟩ (fun _ _ _ _ _ h => h) hE hz hp _ _ ⟨rfl, rfl, rfl⟩ RN.out.drew ?_
     intro a' w' h2 hd hS
     have OUT := Lib.hid hS.below
     have E2 := Lib.hid h2
     clear hS h2
     go_wp2
     refine bodyPost_ret (v := .bool false) ?_ hd ⟨by rw [MB.out], OUT.out⟩
     have e := E2.out
     unfold Chain.At at e
     simp [results, Tryz.results101, go_sem, e]
  ·have hn : n ≠ 0 := by unfold isB at hb; simp at hb; omega
   have MB := Lib.hid (show mayB (r, n, a) = true by rw [mayB_sign h0 h1 hn, hb]; simp)
   have hE : ∀ w, (binOp .eql 76 (cellV r n a) (cellV 0 1 0)).run Tryz.prog w = .ok (.bool true) w := fun w => (EC.out w).trans (by rw [hb])
   refine refCell_pad ⟨by kernel_rfl, by kernel_rfl⟩ (fun _ _ _ _ _ h => h) hE _ _ ⟨rfl, rfl, rfl⟩ RN.out.drew ?_
   intro a' w' h2 hd hS
   have OUT := Lib.hid hS.below
   have E2 := Lib.hid h2
   clear hS h2
   go_wp2
   refine bodyPost_ret (v := .bool true) ?_ hd ⟨by rw [MB.out], OUT.out⟩
   have e := E2.out
   unfold Chain.At at e
   simp [results, Tryz.results101, go_sem, e]
 ·rw [mayB_out (by omega)]
  by_cases h : a < 0
  all_goals
   go_enter Tryz.func101, Tryz.ntmps101
   go_wp2
   go_ret
   exact ⟨rfl, (Below.refl _ _).alloc (Nat.le_refl _) _⟩
theorem Sq.cells {w : World} {B n b off k : Nat} {l : List Cel} {c : Cel} (h : Sq w B 3 n (some ⟨b, off, none⟩) (flat l)) (hc : l[k]? = some c) : w.cell? ⟨b, off + k * 3, none⟩ = some (.int .i32 c.1) ∧ w.cell? ⟨b, off + k * 3 + 1, none⟩ = some (.int .i64 c.2.1) ∧ w.cell? ⟨b, off + k * 3 + 2, none⟩ = some (.int .i64 c.2.2) := by
 have hl : k < n := by
  have h1 := h.len
  rw [flat_length] at h1
  have := (List.getElem?_eq_some_iff.1 hc).1
  omega
 obtain ⟨b', off', e, _, c', h', q0, q1, q2⟩ := h.three hl
 injection e with e
 injection e with e1 e2
 subst e1 e2
 rw [hc] at h'
 injection h' with h'
 subst h'
 exact ⟨q0, q1, q2⟩
theorem drop_get {l : List Cel} {k : Nat} {c : Cel} (h : l[k]? = some c) : l.drop k = c :: l.drop (k + 1) := by
 obtain ⟨h1, h2⟩ := List.getElem?_eq_some_iff.1 h
 rw [List.drop_eq_getElem_cons h1, h2]
namespace Rw
theorem eql_cell (x y z r m a : Int) (w : World) : (binOp .eql 76 (cellV x y z) (cellV r m a)).run Tryz.prog w = .ok (.bool (x == r && y == m && z == a)) w := by
 have hw := w
 cases h1 : (x == r) <;> cases h2 : (y == m) <;> cases h3 : (z == a) <;> go_simp
end Rw
