/-
  The reference's Row: its great test, way by way.
-/
import Derived.Test.YtalhlgiklochdaaDoorRefCell
namespace Go.Proofs.YtalhlgiklochdaaDoor
open Go.ChangeShapes Go.WideShapes Go.ChangeAt Go.RowKit

def refRowL : List Ord.Line := [
  (some 13, Go.Op.move (Go.Operand.tmp 3), none, []),
  (some 14, Go.Op.move (Go.Operand.tmp 4), none, []),
  (some 15, Go.Op.indexAddr 29 (Go.Operand.tmp 13) (Go.Operand.tmp 14), none, [0, 1]),
  (some 16, Go.Op.load 45 (Go.Operand.tmp 15), none, [2]),
  (some 17, Go.Op.call { callee := Go.Callee.value (Go.Operand.func 55), args := #[Go.Operand.tmp 16], argTypes := #[45] }, none, [3]),
  (some 18, Go.Op.unOp Go.UnOp.not 4 (Go.Operand.tmp 17), none, [4]),
  (some 19, Go.Op.move (Go.Operand.tmp 18), none, [5, 4]),
  (some 20, Go.Op.move (Go.Operand.tmp 3), some (6, false), [6]),
  (some 21, Go.Op.move (Go.Operand.tmp 4), some (6, false), [6]),
  (some 22, Go.Op.indexAddr 29 (Go.Operand.tmp 20) (Go.Operand.tmp 21), some (6, false), [7, 8, 6]),
  (some 23, Go.Op.fieldAddr 45 (Go.Operand.tmp 22) 1, some (6, false), [9, 6]),
  (some 24, Go.Op.load 3 (Go.Operand.tmp 23), some (6, false), [10, 6]),
  (some 25, Go.Op.binOp Go.BinOp.eql 3 (Go.Operand.tmp 24) (Go.Operand.const (Go.Value.int Go.IntKind.i64 2)) 3, some (6, false), [11, 6]),
  (some 26, Go.Op.move (Go.Operand.tmp 25), some (6, false), [12, 6, 6]),
  (some 27, Go.Op.move (Go.Operand.tmp 4), some (13, true), [13]),
  (some 28, Go.Op.binOp Go.BinOp.add 3 (Go.Operand.tmp 27) (Go.Operand.const (Go.Value.int Go.IntKind.i64 1)) 3, some (13, true), [14, 13]),
  (some 29, Go.Op.move (Go.Operand.tmp 3), some (13, true), [13]),
  (some 30, Go.Op.call { callee := Go.Callee.builtin Go.Builtin.len, args := #[Go.Operand.tmp 29], argTypes := #[29] }, some (13, true), [16, 13]),
  (some 31, Go.Op.binOp Go.BinOp.geq 3 (Go.Operand.tmp 28) (Go.Operand.tmp 30) 3, some (13, true), [15, 17, 13]),
  (some 32, Go.Op.move (Go.Operand.tmp 31), some (13, true), [18, 13, 13]),
  (some 33, Go.Op.move (Go.Operand.tmp 3), some (19, false), [19]),
  (some 34, Go.Op.move (Go.Operand.tmp 4), some (19, false), [19]),
  (some 35, Go.Op.binOp Go.BinOp.add 3 (Go.Operand.tmp 34) (Go.Operand.const (Go.Value.int Go.IntKind.i64 1)) 3, some (19, false), [21, 19]),
  (some 36, Go.Op.indexAddr 29 (Go.Operand.tmp 33) (Go.Operand.tmp 35), some (19, false), [20, 22, 19]),
  (some 37, Go.Op.load 45 (Go.Operand.tmp 36), some (19, false), [23, 19]),
  (some 38, Go.Op.move (Go.Operand.tmp 3), some (19, false), [19]),
  (some 39, Go.Op.move (Go.Operand.tmp 4), some (19, false), [19]),
  (some 40, Go.Op.indexAddr 29 (Go.Operand.tmp 38) (Go.Operand.tmp 39), some (19, false), [25, 26, 19]),
  (some 41, Go.Op.fieldAddr 45 (Go.Operand.tmp 40) 2, some (19, false), [27, 19]),
  (some 42, Go.Op.load 3 (Go.Operand.tmp 41), some (19, false), [28, 19]),
  (some 43, Go.Op.build 45 #[(2, Go.Operand.tmp 42)], some (19, false), [29, 19]),
  (some 44, Go.Op.binOp Go.BinOp.neq 45 (Go.Operand.tmp 37) (Go.Operand.tmp 43) 45, some (19, false), [24, 30, 19]),
  (some 45, Go.Op.pick (Go.Operand.tmp 32) (Go.Operand.const (Go.Value.bool true)) (Go.Operand.tmp 44), some (13, true), [19, 31, 13]),
  (some 46, Go.Op.pick (Go.Operand.tmp 26) (Go.Operand.tmp 45) (Go.Operand.const (Go.Value.bool false)), some (6, false), [13, 32, 6]),
  (some 47, Go.Op.pick (Go.Operand.tmp 19) (Go.Operand.const (Go.Value.bool true)) (Go.Operand.tmp 46), none, [6, 33]),
  (some 48, Go.Op.move (Go.Operand.tmp 47), none, [34, 19]),
  (some 49, Go.Op.move (Go.Operand.tmp 3), some (35, false), [35]),
  (some 50, Go.Op.move (Go.Operand.tmp 4), some (35, false), [35]),
  (some 51, Go.Op.indexAddr 29 (Go.Operand.tmp 49) (Go.Operand.tmp 50), some (35, false), [36, 37, 35]),
  (some 52, Go.Op.fieldAddr 45 (Go.Operand.tmp 51) 1, some (35, false), [38, 35]),
  (some 53, Go.Op.load 3 (Go.Operand.tmp 52), some (35, false), [39, 35]),
  (some 54, Go.Op.binOp Go.BinOp.eql 3 (Go.Operand.tmp 53) (Go.Operand.const (Go.Value.int Go.IntKind.i64 0)) 3, some (35, false), [40, 35]),
  (some 55, Go.Op.move (Go.Operand.tmp 54), some (35, false), [41, 35, 35]),
  (some 56, Go.Op.move (Go.Operand.tmp 4), some (42, true), [42]),
  (some 57, Go.Op.binOp Go.BinOp.eql 3 (Go.Operand.tmp 56) (Go.Operand.const (Go.Value.int Go.IntKind.i64 0)) 3, some (42, true), [43, 42]),
  (some 58, Go.Op.move (Go.Operand.tmp 57), some (42, true), [44, 42, 42]),
  (some 59, Go.Op.move (Go.Operand.tmp 3), some (45, false), [45]),
  (some 60, Go.Op.move (Go.Operand.tmp 4), some (45, false), [45]),
  (some 61, Go.Op.binOp Go.BinOp.sub 3 (Go.Operand.tmp 60) (Go.Operand.const (Go.Value.int Go.IntKind.i64 1)) 3, some (45, false), [47, 45]),
  (some 62, Go.Op.indexAddr 29 (Go.Operand.tmp 59) (Go.Operand.tmp 61), some (45, false), [46, 48, 45]),
  (some 63, Go.Op.fieldAddr 45 (Go.Operand.tmp 62) 1, some (45, false), [49, 45]),
  (some 64, Go.Op.load 3 (Go.Operand.tmp 63), some (45, false), [50, 45]),
  (some 65, Go.Op.binOp Go.BinOp.neq 3 (Go.Operand.tmp 64) (Go.Operand.const (Go.Value.int Go.IntKind.i64 2)) 3, some (45, false), [51, 45]),
  (some 66, Go.Op.pick (Go.Operand.tmp 58) (Go.Operand.const (Go.Value.bool true)) (Go.Operand.tmp 65), some (42, true), [45, 52, 42]),
  (some 67, Go.Op.move (Go.Operand.tmp 66), some (42, true), [53, 45, 42]),
  (some 68, Go.Op.move (Go.Operand.tmp 3), some (54, false), [54]),
  (some 69, Go.Op.move (Go.Operand.tmp 4), some (54, false), [54]),
  (some 70, Go.Op.binOp Go.BinOp.sub 3 (Go.Operand.tmp 69) (Go.Operand.const (Go.Value.int Go.IntKind.i64 1)) 3, some (54, false), [56, 54]),
  (some 71, Go.Op.indexAddr 29 (Go.Operand.tmp 68) (Go.Operand.tmp 70), some (54, false), [55, 57, 54]),
  (some 72, Go.Op.fieldAddr 45 (Go.Operand.tmp 71) 2, some (54, false), [58, 54]),
  (some 73, Go.Op.load 3 (Go.Operand.tmp 72), some (54, false), [59, 54]),
  (some 74, Go.Op.move (Go.Operand.tmp 3), some (54, false), [54]),
  (some 75, Go.Op.move (Go.Operand.tmp 4), some (54, false), [54]),
  (some 76, Go.Op.indexAddr 29 (Go.Operand.tmp 74) (Go.Operand.tmp 75), some (54, false), [61, 62, 54]),
  (some 77, Go.Op.fieldAddr 45 (Go.Operand.tmp 76) 2, some (54, false), [63, 54]),
  (some 78, Go.Op.load 3 (Go.Operand.tmp 77), some (54, false), [64, 54]),
  (some 79, Go.Op.binOp Go.BinOp.neq 3 (Go.Operand.tmp 73) (Go.Operand.tmp 78) 3, some (54, false), [60, 65, 54]),
  (some 80, Go.Op.pick (Go.Operand.tmp 67) (Go.Operand.const (Go.Value.bool true)) (Go.Operand.tmp 79), some (42, true), [54, 66, 42]),
  (some 81, Go.Op.pick (Go.Operand.tmp 55) (Go.Operand.tmp 80) (Go.Operand.const (Go.Value.bool false)), some (35, false), [42, 67, 35]),
  (some 82, Go.Op.pick (Go.Operand.tmp 48) (Go.Operand.const (Go.Value.bool true)) (Go.Operand.tmp 81), none, [35, 68])]

/-- The slots that are known all the way. -/
structure RowFr (b off n cc k : Nat) (p0 p1 p5 p6 : Value) (a : Act) : Prop where
  size : a.tmps.size = 86
  defers : a.defers = []
  s0 : Chain.At a 0 (p0)
  s1 : Chain.At a 1 (p1)
  s3 : Chain.At a 3 (.slice (some ⟨b, off, none⟩) n cc)
  s4 : Chain.At a 4 (.int .i64 (k : Int))
  s5 : Chain.At a 5 (p5)
  s6 : Chain.At a 6 (p6)
  s83 : Chain.At a 83 (undef)
  s84 : Chain.At a 84 (undef)
  s85 : Chain.At a 85 (undef)
theorem RowFr.next {b off n cc k : Nat} {p0 p1 p5 p6 : Value} {a a' : Act} {d : Nat} {v : Value} (F : RowFr b off n cc k p0 p1 p5 p6 a) (nx : Chain.Next a a' d v) (h : d ≠ 0 ∧ d ≠ 1 ∧ d ≠ 3 ∧ d ≠ 4 ∧ d ≠ 5 ∧ d ≠ 6 ∧ d ≠ 83 ∧ d ≠ 84 ∧ d ≠ 85) : RowFr b off n cc k p0 p1 p5 p6 a' := ⟨nx.size.trans F.size, nx.defers.trans F.defers, nx.keep 0 _ h.1 F.s0, nx.keep 1 _ h.2.1 F.s1, nx.keep 3 _ h.2.2.1 F.s3, nx.keep 4 _ h.2.2.2.1 F.s4, nx.keep 5 _ h.2.2.2.2.1 F.s5, nx.keep 6 _ h.2.2.2.2.2.1 F.s6, nx.keep 83 _ h.2.2.2.2.2.2.1 F.s83, nx.keep 84 _ h.2.2.2.2.2.2.2.1 F.s84, nx.keep 85 _ h.2.2.2.2.2.2.2.2 F.s85⟩
theorem RowFr.lt {b off n cc k : Nat} {p0 p1 p5 p6 : Value} {a : Act} {d : Nat} (F : RowFr b off n cc k p0 p1 p5 p6 a) (h : d < 86) : d < a.tmps.size := by rw [F.size]; exact h

set_option maxRecDepth 100000 in
theorem refRow_no {ops : Array Oper} {Q : Exit → Act → World → Prop} (R : Ord.Reg ops refRowL) (hQ : ∀ c a w d v, Q (.panic c) (Act.put a (some d) v) w → Q (.panic c) a w) {w0 : World} {b off n cc k : Nat} {r m a0 : Int}
    (_hk0 : (0 : Int) ≤ (k : Int)) (_hkn : (k : Int) < (n : Int)) (c0 : ∀ w, Below w0.heap.size w0 w → w.cell? ⟨b, off + k * 3, none⟩ = some (.int .i32 r)) (c1 : ∀ w, Below w0.heap.size w0 w → w.cell? ⟨b, off + k * 3 + 1, none⟩ = some (.int .i64 m)) (c2 : ∀ w, Below w0.heap.size w0 w → w.cell? ⟨b, off + k * 3 + 2, none⟩ = some (.int .i64 a0)) (hC : ∀ w, Calls Tryd.prog 55 #[cellV r m a0] w fun e w' => e = .returned (.bool false) ∧ Below w.heap.size w w')
    {p0 p1 p5 p6 : Value} (a : Act) (w : World) (F : RowFr b off n cc k p0 p1 p5 p6 a) (hS : Below w0.heap.size w0 w)
    (h : ∀ a w, RowFr b off n cc k p0 p1 p5 p6 a → Chain.At a 82 (.bool true) → Below w0.heap.size w0 w → Q .normal a w) :
    wpAnyH Tryd.prog .any ops Q (fun w' => Below w0.heap.size w0 w') 70 (List.replicate 70 false).toArray a w := by
  refine Ord.take R (k := 0) (v := .slice (some ⟨b, off, none⟩) n cc) (bs' := (Ord.upto 1 70)) rfl (by kernel_rfl) hQ trivial hS (fun w _ hS => Chain.ev_move F.s3.ev) (F.lt (by decide)) fun a0 N => ?_
  replace F := F.next N (by decide)
  have f13 := N.got
  clear N a
  refine Ord.take R (k := 1) (v := .int .i64 (k : Int)) (bs' := (Ord.upto 2 70)) rfl (by kernel_rfl) hQ trivial hS (fun w _ hS => Chain.ev_move F.s4.ev) (F.lt (by decide)) fun a1 N => ?_
  replace F := F.next N (by decide)
  replace f13 := N.keep 13 _ (by decide) f13
  have f14 := N.got
  clear N a0
  refine Ord.take R (k := 2) (v := .pointer (some ⟨b, off + k * 3, none⟩)) (bs' := (Ord.upto 3 70)) rfl (by kernel_rfl) hQ trivial hS (fun w _ hS => by have e13 := f13; unfold Chain.At at e13; have e14 := f14; unfold Chain.At at e14; clear F; go_simp) (F.lt (by decide)) fun a2 N => ?_
  replace F := F.next N (by decide)
  clear f13
  clear f14
  have f15 := N.got
  clear N a1
  refine Ord.take R (k := 3) (v := cellV r m a0) (bs' := (Ord.upto 4 70)) rfl (by kernel_rfl) hQ trivial hS (fun w _ hS => by have e15 := f15; unfold Chain.At at e15; have q0 := c0 w hS; have q1 := c1 w hS; have q2 := c2 w hS; clear F; go_simp) (F.lt (by decide)) fun a3 N => ?_
  replace F := F.next N (by decide)
  clear f15
  have f16 := N.got
  clear N a2
  refine Ord.call R (k := 4) (args := #[cellV r m a0]) (bs' := (Ord.upto 5 70)) rfl (by kernel_rfl) trivial (by simp [f16.ev]) (by kernel_rfl) (hC _) (F.lt (by decide)) ?_
  rintro e w ⟨rfl, hb⟩
  replace hS := hS.trans (hb.mono hS.size)
  refine ⟨_, rfl, hS, fun a4 N => ?_⟩
  replace F := F.next N (by decide)
  clear f16
  have f17 := N.got
  clear N a3
  refine Ord.take R (k := 5) (v := .bool true) (bs' := (Ord.upto 6 70)) rfl (by kernel_rfl) hQ trivial hS (fun w _ hS => by have e17 := f17; unfold Chain.At at e17; clear F; go_simp) (F.lt (by decide)) fun a5 N => ?_
  replace F := F.next N (by decide)
  clear f17
  have f18 := N.got
  clear N a4
  refine Ord.take R (k := 6) (v := .bool true) (bs' := (Ord.upto 7 70)) rfl (by kernel_rfl) hQ trivial hS (fun w _ hS => Chain.ev_move f18.ev) (F.lt (by decide)) fun a6 N => ?_
  replace F := F.next N (by decide)
  clear f18
  have f19 := N.got
  clear N a5
  refine Ord.skip R (k := 7) (bs' := (Ord.upto 8 70)) rfl (by kernel_rfl) hQ (R.shut (j := 6) rfl f19 (Ord.ne_not rfl)) hS (F.lt (by decide)) fun a7 N => ?_
  replace F := F.next N (by decide)
  replace f19 := N.keep 19 _ (by decide) f19
  have f20 := N.got
  clear N a6
  refine Ord.skip R (k := 8) (bs' := (Ord.upto 9 70)) rfl (by kernel_rfl) hQ (R.shut (j := 6) rfl f19 (Ord.ne_not rfl)) hS (F.lt (by decide)) fun a8 N => ?_
  replace F := F.next N (by decide)
  replace f19 := N.keep 19 _ (by decide) f19
  replace f20 := N.keep 20 _ (by decide) f20
  have f21 := N.got
  clear N a7
  refine Ord.skip R (k := 9) (bs' := (Ord.upto 10 70)) rfl (by kernel_rfl) hQ (R.shut (j := 6) rfl f19 (Ord.ne_not rfl)) hS (F.lt (by decide)) fun a9 N => ?_
  replace F := F.next N (by decide)
  replace f19 := N.keep 19 _ (by decide) f19
  clear f20
  clear f21
  have f22 := N.got
  clear N a8
  refine Ord.skip R (k := 10) (bs' := (Ord.upto 11 70)) rfl (by kernel_rfl) hQ (R.shut (j := 6) rfl f19 (Ord.ne_not rfl)) hS (F.lt (by decide)) fun a10 N => ?_
  replace F := F.next N (by decide)
  replace f19 := N.keep 19 _ (by decide) f19
  clear f22
  have f23 := N.got
  clear N a9
  refine Ord.skip R (k := 11) (bs' := (Ord.upto 12 70)) rfl (by kernel_rfl) hQ (R.shut (j := 6) rfl f19 (Ord.ne_not rfl)) hS (F.lt (by decide)) fun a11 N => ?_
  replace F := F.next N (by decide)
  replace f19 := N.keep 19 _ (by decide) f19
  clear f23
  have f24 := N.got
  clear N a10
  refine Ord.skip R (k := 12) (bs' := (Ord.upto 13 70)) rfl (by kernel_rfl) hQ (R.shut (j := 6) rfl f19 (Ord.ne_not rfl)) hS (F.lt (by decide)) fun a12 N => ?_
  replace F := F.next N (by decide)
  replace f19 := N.keep 19 _ (by decide) f19
  clear f24
  have f25 := N.got
  clear N a11
  refine Ord.skip R (k := 13) (bs' := (Ord.upto 14 70)) rfl (by kernel_rfl) hQ (R.shut (j := 6) rfl f19 (Ord.ne_not rfl)) hS (F.lt (by decide)) fun a13 N => ?_
  replace F := F.next N (by decide)
  replace f19 := N.keep 19 _ (by decide) f19
  clear f25
  have f26 := N.got
  clear N a12
  refine Ord.skip R (k := 14) (bs' := (Ord.upto 15 70)) rfl (by kernel_rfl) hQ (R.shut (j := 13) rfl f26 (Ord.ne_undef _)) hS (F.lt (by decide)) fun a14 N => ?_
  replace F := F.next N (by decide)
  replace f19 := N.keep 19 _ (by decide) f19
  replace f26 := N.keep 26 _ (by decide) f26
  have f27 := N.got
  clear N a13
  refine Ord.skip R (k := 15) (bs' := (Ord.upto 16 70)) rfl (by kernel_rfl) hQ (R.shut (j := 13) rfl f26 (Ord.ne_undef _)) hS (F.lt (by decide)) fun a15 N => ?_
  replace F := F.next N (by decide)
  replace f19 := N.keep 19 _ (by decide) f19
  replace f26 := N.keep 26 _ (by decide) f26
  clear f27
  have f28 := N.got
  clear N a14
  refine Ord.skip R (k := 16) (bs' := (Ord.upto 17 70)) rfl (by kernel_rfl) hQ (R.shut (j := 13) rfl f26 (Ord.ne_undef _)) hS (F.lt (by decide)) fun a16 N => ?_
  replace F := F.next N (by decide)
  replace f19 := N.keep 19 _ (by decide) f19
  replace f26 := N.keep 26 _ (by decide) f26
  replace f28 := N.keep 28 _ (by decide) f28
  have f29 := N.got
  clear N a15
  refine Ord.skip R (k := 17) (bs' := (Ord.upto 18 70)) rfl (by kernel_rfl) hQ (R.shut (j := 13) rfl f26 (Ord.ne_undef _)) hS (F.lt (by decide)) fun a17 N => ?_
  replace F := F.next N (by decide)
  replace f19 := N.keep 19 _ (by decide) f19
  replace f26 := N.keep 26 _ (by decide) f26
  replace f28 := N.keep 28 _ (by decide) f28
  clear f29
  have f30 := N.got
  clear N a16
  refine Ord.skip R (k := 18) (bs' := (Ord.upto 19 70)) rfl (by kernel_rfl) hQ (R.shut (j := 13) rfl f26 (Ord.ne_undef _)) hS (F.lt (by decide)) fun a18 N => ?_
  replace F := F.next N (by decide)
  replace f19 := N.keep 19 _ (by decide) f19
  replace f26 := N.keep 26 _ (by decide) f26
  clear f28
  clear f30
  have f31 := N.got
  clear N a17
  refine Ord.skip R (k := 19) (bs' := (Ord.upto 20 70)) rfl (by kernel_rfl) hQ (R.shut (j := 13) rfl f26 (Ord.ne_undef _)) hS (F.lt (by decide)) fun a19 N => ?_
  replace F := F.next N (by decide)
  replace f19 := N.keep 19 _ (by decide) f19
  replace f26 := N.keep 26 _ (by decide) f26
  clear f31
  have f32 := N.got
  clear N a18
  refine Ord.skip R (k := 20) (bs' := (Ord.upto 21 70)) rfl (by kernel_rfl) hQ (R.shut (j := 19) rfl f32 (Ord.ne_undef _)) hS (F.lt (by decide)) fun a20 N => ?_
  replace F := F.next N (by decide)
  replace f19 := N.keep 19 _ (by decide) f19
  replace f26 := N.keep 26 _ (by decide) f26
  replace f32 := N.keep 32 _ (by decide) f32
  have f33 := N.got
  clear N a19
  refine Ord.skip R (k := 21) (bs' := (Ord.upto 22 70)) rfl (by kernel_rfl) hQ (R.shut (j := 19) rfl f32 (Ord.ne_undef _)) hS (F.lt (by decide)) fun a21 N => ?_
  replace F := F.next N (by decide)
  replace f19 := N.keep 19 _ (by decide) f19
  replace f26 := N.keep 26 _ (by decide) f26
  replace f32 := N.keep 32 _ (by decide) f32
  replace f33 := N.keep 33 _ (by decide) f33
  have f34 := N.got
  clear N a20
  refine Ord.skip R (k := 22) (bs' := (Ord.upto 23 70)) rfl (by kernel_rfl) hQ (R.shut (j := 19) rfl f32 (Ord.ne_undef _)) hS (F.lt (by decide)) fun a22 N => ?_
  replace F := F.next N (by decide)
  replace f19 := N.keep 19 _ (by decide) f19
  replace f26 := N.keep 26 _ (by decide) f26
  replace f32 := N.keep 32 _ (by decide) f32
  replace f33 := N.keep 33 _ (by decide) f33
  clear f34
  have f35 := N.got
  clear N a21
  refine Ord.skip R (k := 23) (bs' := (Ord.upto 24 70)) rfl (by kernel_rfl) hQ (R.shut (j := 19) rfl f32 (Ord.ne_undef _)) hS (F.lt (by decide)) fun a23 N => ?_
  replace F := F.next N (by decide)
  replace f19 := N.keep 19 _ (by decide) f19
  replace f26 := N.keep 26 _ (by decide) f26
  replace f32 := N.keep 32 _ (by decide) f32
  clear f33
  clear f35
  have f36 := N.got
  clear N a22
  refine Ord.skip R (k := 24) (bs' := (Ord.upto 25 70)) rfl (by kernel_rfl) hQ (R.shut (j := 19) rfl f32 (Ord.ne_undef _)) hS (F.lt (by decide)) fun a24 N => ?_
  replace F := F.next N (by decide)
  replace f19 := N.keep 19 _ (by decide) f19
  replace f26 := N.keep 26 _ (by decide) f26
  replace f32 := N.keep 32 _ (by decide) f32
  clear f36
  have f37 := N.got
  clear N a23
  refine Ord.skip R (k := 25) (bs' := (Ord.upto 26 70)) rfl (by kernel_rfl) hQ (R.shut (j := 19) rfl f32 (Ord.ne_undef _)) hS (F.lt (by decide)) fun a25 N => ?_
  replace F := F.next N (by decide)
  replace f19 := N.keep 19 _ (by decide) f19
  replace f26 := N.keep 26 _ (by decide) f26
  replace f32 := N.keep 32 _ (by decide) f32
  replace f37 := N.keep 37 _ (by decide) f37
  have f38 := N.got
  clear N a24
  refine Ord.skip R (k := 26) (bs' := (Ord.upto 27 70)) rfl (by kernel_rfl) hQ (R.shut (j := 19) rfl f32 (Ord.ne_undef _)) hS (F.lt (by decide)) fun a26 N => ?_
  replace F := F.next N (by decide)
  replace f19 := N.keep 19 _ (by decide) f19
  replace f26 := N.keep 26 _ (by decide) f26
  replace f32 := N.keep 32 _ (by decide) f32
  replace f37 := N.keep 37 _ (by decide) f37
  replace f38 := N.keep 38 _ (by decide) f38
  have f39 := N.got
  clear N a25
  refine Ord.skip R (k := 27) (bs' := (Ord.upto 28 70)) rfl (by kernel_rfl) hQ (R.shut (j := 19) rfl f32 (Ord.ne_undef _)) hS (F.lt (by decide)) fun a27 N => ?_
  replace F := F.next N (by decide)
  replace f19 := N.keep 19 _ (by decide) f19
  replace f26 := N.keep 26 _ (by decide) f26
  replace f32 := N.keep 32 _ (by decide) f32
  replace f37 := N.keep 37 _ (by decide) f37
  clear f38
  clear f39
  have f40 := N.got
  clear N a26
  refine Ord.skip R (k := 28) (bs' := (Ord.upto 29 70)) rfl (by kernel_rfl) hQ (R.shut (j := 19) rfl f32 (Ord.ne_undef _)) hS (F.lt (by decide)) fun a28 N => ?_
  replace F := F.next N (by decide)
  replace f19 := N.keep 19 _ (by decide) f19
  replace f26 := N.keep 26 _ (by decide) f26
  replace f32 := N.keep 32 _ (by decide) f32
  replace f37 := N.keep 37 _ (by decide) f37
  clear f40
  have f41 := N.got
  clear N a27
  refine Ord.skip R (k := 29) (bs' := (Ord.upto 30 70)) rfl (by kernel_rfl) hQ (R.shut (j := 19) rfl f32 (Ord.ne_undef _)) hS (F.lt (by decide)) fun a29 N => ?_
  replace F := F.next N (by decide)
  replace f19 := N.keep 19 _ (by decide) f19
  replace f26 := N.keep 26 _ (by decide) f26
  replace f32 := N.keep 32 _ (by decide) f32
  replace f37 := N.keep 37 _ (by decide) f37
  clear f41
  have f42 := N.got
  clear N a28
  refine Ord.skip R (k := 30) (bs' := (Ord.upto 31 70)) rfl (by kernel_rfl) hQ (R.shut (j := 19) rfl f32 (Ord.ne_undef _)) hS (F.lt (by decide)) fun a30 N => ?_
  replace F := F.next N (by decide)
  replace f19 := N.keep 19 _ (by decide) f19
  replace f26 := N.keep 26 _ (by decide) f26
  replace f32 := N.keep 32 _ (by decide) f32
  replace f37 := N.keep 37 _ (by decide) f37
  clear f42
  have f43 := N.got
  clear N a29
  refine Ord.skip R (k := 31) (bs' := (Ord.upto 32 70)) rfl (by kernel_rfl) hQ (R.shut (j := 19) rfl f32 (Ord.ne_undef _)) hS (F.lt (by decide)) fun a31 N => ?_
  replace F := F.next N (by decide)
  replace f19 := N.keep 19 _ (by decide) f19
  replace f26 := N.keep 26 _ (by decide) f26
  replace f32 := N.keep 32 _ (by decide) f32
  clear f37
  clear f43
  have f44 := N.got
  clear N a30
  refine Ord.skip R (k := 32) (bs' := (Ord.upto 33 70)) rfl (by kernel_rfl) hQ (R.shut (j := 13) rfl f26 (Ord.ne_undef _)) hS (F.lt (by decide)) fun a32 N => ?_
  replace F := F.next N (by decide)
  replace f19 := N.keep 19 _ (by decide) f19
  replace f26 := N.keep 26 _ (by decide) f26
  clear f32
  clear f44
  have f45 := N.got
  clear N a31
  refine Ord.skip R (k := 33) (bs' := (Ord.upto 34 70)) rfl (by kernel_rfl) hQ (R.shut (j := 6) rfl f19 (Ord.ne_not rfl)) hS (F.lt (by decide)) fun a33 N => ?_
  replace F := F.next N (by decide)
  replace f19 := N.keep 19 _ (by decide) f19
  clear f26
  clear f45
  have f46 := N.got
  clear N a32
  refine Ord.take R (k := 34) (v := Go.Value.bool true) (bs' := (Ord.upto 35 70)) rfl (by kernel_rfl) hQ trivial hS (fun w _ hS => Ord.ev_pick_yes f19.ev rfl) (F.lt (by decide)) fun a34 N => ?_
  replace F := F.next N (by decide)
  clear f19
  clear f46
  have f47 := N.got
  clear N a33
  refine Ord.take R (k := 35) (v := Go.Value.bool true) (bs' := (Ord.upto 36 70)) rfl (by kernel_rfl) hQ trivial hS (fun w _ hS => Chain.ev_move f47.ev) (F.lt (by decide)) fun a35 N => ?_
  replace F := F.next N (by decide)
  clear f47
  have f48 := N.got
  clear N a34
  refine Ord.skip R (k := 36) (bs' := (Ord.upto 37 70)) rfl (by kernel_rfl) hQ (R.shut (j := 35) rfl f48 (Ord.ne_not rfl)) hS (F.lt (by decide)) fun a36 N => ?_
  replace F := F.next N (by decide)
  replace f48 := N.keep 48 _ (by decide) f48
  have f49 := N.got
  clear N a35
  refine Ord.skip R (k := 37) (bs' := (Ord.upto 38 70)) rfl (by kernel_rfl) hQ (R.shut (j := 35) rfl f48 (Ord.ne_not rfl)) hS (F.lt (by decide)) fun a37 N => ?_
  replace F := F.next N (by decide)
  replace f48 := N.keep 48 _ (by decide) f48
  replace f49 := N.keep 49 _ (by decide) f49
  have f50 := N.got
  clear N a36
  refine Ord.skip R (k := 38) (bs' := (Ord.upto 39 70)) rfl (by kernel_rfl) hQ (R.shut (j := 35) rfl f48 (Ord.ne_not rfl)) hS (F.lt (by decide)) fun a38 N => ?_
  replace F := F.next N (by decide)
  replace f48 := N.keep 48 _ (by decide) f48
  clear f49
  clear f50
  have f51 := N.got
  clear N a37
  refine Ord.skip R (k := 39) (bs' := (Ord.upto 40 70)) rfl (by kernel_rfl) hQ (R.shut (j := 35) rfl f48 (Ord.ne_not rfl)) hS (F.lt (by decide)) fun a39 N => ?_
  replace F := F.next N (by decide)
  replace f48 := N.keep 48 _ (by decide) f48
  clear f51
  have f52 := N.got
  clear N a38
  refine Ord.skip R (k := 40) (bs' := (Ord.upto 41 70)) rfl (by kernel_rfl) hQ (R.shut (j := 35) rfl f48 (Ord.ne_not rfl)) hS (F.lt (by decide)) fun a40 N => ?_
  replace F := F.next N (by decide)
  replace f48 := N.keep 48 _ (by decide) f48
  clear f52
  have f53 := N.got
  clear N a39
  refine Ord.skip R (k := 41) (bs' := (Ord.upto 42 70)) rfl (by kernel_rfl) hQ (R.shut (j := 35) rfl f48 (Ord.ne_not rfl)) hS (F.lt (by decide)) fun a41 N => ?_
  replace F := F.next N (by decide)
  replace f48 := N.keep 48 _ (by decide) f48
  clear f53
  have f54 := N.got
  clear N a40
  refine Ord.skip R (k := 42) (bs' := (Ord.upto 43 70)) rfl (by kernel_rfl) hQ (R.shut (j := 35) rfl f48 (Ord.ne_not rfl)) hS (F.lt (by decide)) fun a42 N => ?_
  replace F := F.next N (by decide)
  replace f48 := N.keep 48 _ (by decide) f48
  clear f54
  have f55 := N.got
  clear N a41
  refine Ord.skip R (k := 43) (bs' := (Ord.upto 44 70)) rfl (by kernel_rfl) hQ (R.shut (j := 42) rfl f55 (Ord.ne_undef _)) hS (F.lt (by decide)) fun a43 N => ?_
  replace F := F.next N (by decide)
  replace f48 := N.keep 48 _ (by decide) f48
  replace f55 := N.keep 55 _ (by decide) f55
  have f56 := N.got
  clear N a42
  refine Ord.skip R (k := 44) (bs' := (Ord.upto 45 70)) rfl (by kernel_rfl) hQ (R.shut (j := 42) rfl f55 (Ord.ne_undef _)) hS (F.lt (by decide)) fun a44 N => ?_
  replace F := F.next N (by decide)
  replace f48 := N.keep 48 _ (by decide) f48
  replace f55 := N.keep 55 _ (by decide) f55
  clear f56
  have f57 := N.got
  clear N a43
  refine Ord.skip R (k := 45) (bs' := (Ord.upto 46 70)) rfl (by kernel_rfl) hQ (R.shut (j := 42) rfl f55 (Ord.ne_undef _)) hS (F.lt (by decide)) fun a45 N => ?_
  replace F := F.next N (by decide)
  replace f48 := N.keep 48 _ (by decide) f48
  replace f55 := N.keep 55 _ (by decide) f55
  clear f57
  have f58 := N.got
  clear N a44
  refine Ord.skip R (k := 46) (bs' := (Ord.upto 47 70)) rfl (by kernel_rfl) hQ (R.shut (j := 45) rfl f58 (Ord.ne_undef _)) hS (F.lt (by decide)) fun a46 N => ?_
  replace F := F.next N (by decide)
  replace f48 := N.keep 48 _ (by decide) f48
  replace f55 := N.keep 55 _ (by decide) f55
  replace f58 := N.keep 58 _ (by decide) f58
  have f59 := N.got
  clear N a45
  refine Ord.skip R (k := 47) (bs' := (Ord.upto 48 70)) rfl (by kernel_rfl) hQ (R.shut (j := 45) rfl f58 (Ord.ne_undef _)) hS (F.lt (by decide)) fun a47 N => ?_
  replace F := F.next N (by decide)
  replace f48 := N.keep 48 _ (by decide) f48
  replace f55 := N.keep 55 _ (by decide) f55
  replace f58 := N.keep 58 _ (by decide) f58
  replace f59 := N.keep 59 _ (by decide) f59
  have f60 := N.got
  clear N a46
  refine Ord.skip R (k := 48) (bs' := (Ord.upto 49 70)) rfl (by kernel_rfl) hQ (R.shut (j := 45) rfl f58 (Ord.ne_undef _)) hS (F.lt (by decide)) fun a48 N => ?_
  replace F := F.next N (by decide)
  replace f48 := N.keep 48 _ (by decide) f48
  replace f55 := N.keep 55 _ (by decide) f55
  replace f58 := N.keep 58 _ (by decide) f58
  replace f59 := N.keep 59 _ (by decide) f59
  clear f60
  have f61 := N.got
  clear N a47
  refine Ord.skip R (k := 49) (bs' := (Ord.upto 50 70)) rfl (by kernel_rfl) hQ (R.shut (j := 45) rfl f58 (Ord.ne_undef _)) hS (F.lt (by decide)) fun a49 N => ?_
  replace F := F.next N (by decide)
  replace f48 := N.keep 48 _ (by decide) f48
  replace f55 := N.keep 55 _ (by decide) f55
  replace f58 := N.keep 58 _ (by decide) f58
  clear f59
  clear f61
  have f62 := N.got
  clear N a48
  refine Ord.skip R (k := 50) (bs' := (Ord.upto 51 70)) rfl (by kernel_rfl) hQ (R.shut (j := 45) rfl f58 (Ord.ne_undef _)) hS (F.lt (by decide)) fun a50 N => ?_
  replace F := F.next N (by decide)
  replace f48 := N.keep 48 _ (by decide) f48
  replace f55 := N.keep 55 _ (by decide) f55
  replace f58 := N.keep 58 _ (by decide) f58
  clear f62
  have f63 := N.got
  clear N a49
  refine Ord.skip R (k := 51) (bs' := (Ord.upto 52 70)) rfl (by kernel_rfl) hQ (R.shut (j := 45) rfl f58 (Ord.ne_undef _)) hS (F.lt (by decide)) fun a51 N => ?_
  replace F := F.next N (by decide)
  replace f48 := N.keep 48 _ (by decide) f48
  replace f55 := N.keep 55 _ (by decide) f55
  replace f58 := N.keep 58 _ (by decide) f58
  clear f63
  have f64 := N.got
  clear N a50
  refine Ord.skip R (k := 52) (bs' := (Ord.upto 53 70)) rfl (by kernel_rfl) hQ (R.shut (j := 45) rfl f58 (Ord.ne_undef _)) hS (F.lt (by decide)) fun a52 N => ?_
  replace F := F.next N (by decide)
  replace f48 := N.keep 48 _ (by decide) f48
  replace f55 := N.keep 55 _ (by decide) f55
  replace f58 := N.keep 58 _ (by decide) f58
  clear f64
  have f65 := N.got
  clear N a51
  refine Ord.skip R (k := 53) (bs' := (Ord.upto 54 70)) rfl (by kernel_rfl) hQ (R.shut (j := 42) rfl f55 (Ord.ne_undef _)) hS (F.lt (by decide)) fun a53 N => ?_
  replace F := F.next N (by decide)
  replace f48 := N.keep 48 _ (by decide) f48
  replace f55 := N.keep 55 _ (by decide) f55
  clear f58
  clear f65
  have f66 := N.got
  clear N a52
  refine Ord.skip R (k := 54) (bs' := (Ord.upto 55 70)) rfl (by kernel_rfl) hQ (R.shut (j := 42) rfl f55 (Ord.ne_undef _)) hS (F.lt (by decide)) fun a54 N => ?_
  replace F := F.next N (by decide)
  replace f48 := N.keep 48 _ (by decide) f48
  replace f55 := N.keep 55 _ (by decide) f55
  clear f66
  have f67 := N.got
  clear N a53
  refine Ord.skip R (k := 55) (bs' := (Ord.upto 56 70)) rfl (by kernel_rfl) hQ (R.shut (j := 54) rfl f67 (Ord.ne_undef _)) hS (F.lt (by decide)) fun a55 N => ?_
  replace F := F.next N (by decide)
  replace f48 := N.keep 48 _ (by decide) f48
  replace f55 := N.keep 55 _ (by decide) f55
  replace f67 := N.keep 67 _ (by decide) f67
  have f68 := N.got
  clear N a54
  refine Ord.skip R (k := 56) (bs' := (Ord.upto 57 70)) rfl (by kernel_rfl) hQ (R.shut (j := 54) rfl f67 (Ord.ne_undef _)) hS (F.lt (by decide)) fun a56 N => ?_
  replace F := F.next N (by decide)
  replace f48 := N.keep 48 _ (by decide) f48
  replace f55 := N.keep 55 _ (by decide) f55
  replace f67 := N.keep 67 _ (by decide) f67
  replace f68 := N.keep 68 _ (by decide) f68
  have f69 := N.got
  clear N a55
  refine Ord.skip R (k := 57) (bs' := (Ord.upto 58 70)) rfl (by kernel_rfl) hQ (R.shut (j := 54) rfl f67 (Ord.ne_undef _)) hS (F.lt (by decide)) fun a57 N => ?_
  replace F := F.next N (by decide)
  replace f48 := N.keep 48 _ (by decide) f48
  replace f55 := N.keep 55 _ (by decide) f55
  replace f67 := N.keep 67 _ (by decide) f67
  replace f68 := N.keep 68 _ (by decide) f68
  clear f69
  have f70 := N.got
  clear N a56
  refine Ord.skip R (k := 58) (bs' := (Ord.upto 59 70)) rfl (by kernel_rfl) hQ (R.shut (j := 54) rfl f67 (Ord.ne_undef _)) hS (F.lt (by decide)) fun a58 N => ?_
  replace F := F.next N (by decide)
  replace f48 := N.keep 48 _ (by decide) f48
  replace f55 := N.keep 55 _ (by decide) f55
  replace f67 := N.keep 67 _ (by decide) f67
  clear f68
  clear f70
  have f71 := N.got
  clear N a57
  refine Ord.skip R (k := 59) (bs' := (Ord.upto 60 70)) rfl (by kernel_rfl) hQ (R.shut (j := 54) rfl f67 (Ord.ne_undef _)) hS (F.lt (by decide)) fun a59 N => ?_
  replace F := F.next N (by decide)
  replace f48 := N.keep 48 _ (by decide) f48
  replace f55 := N.keep 55 _ (by decide) f55
  replace f67 := N.keep 67 _ (by decide) f67
  clear f71
  have f72 := N.got
  clear N a58
  refine Ord.skip R (k := 60) (bs' := (Ord.upto 61 70)) rfl (by kernel_rfl) hQ (R.shut (j := 54) rfl f67 (Ord.ne_undef _)) hS (F.lt (by decide)) fun a60 N => ?_
  replace F := F.next N (by decide)
  replace f48 := N.keep 48 _ (by decide) f48
  replace f55 := N.keep 55 _ (by decide) f55
  replace f67 := N.keep 67 _ (by decide) f67
  clear f72
  have f73 := N.got
  clear N a59
  refine Ord.skip R (k := 61) (bs' := (Ord.upto 62 70)) rfl (by kernel_rfl) hQ (R.shut (j := 54) rfl f67 (Ord.ne_undef _)) hS (F.lt (by decide)) fun a61 N => ?_
  replace F := F.next N (by decide)
  replace f48 := N.keep 48 _ (by decide) f48
  replace f55 := N.keep 55 _ (by decide) f55
  replace f67 := N.keep 67 _ (by decide) f67
  replace f73 := N.keep 73 _ (by decide) f73
  have f74 := N.got
  clear N a60
  refine Ord.skip R (k := 62) (bs' := (Ord.upto 63 70)) rfl (by kernel_rfl) hQ (R.shut (j := 54) rfl f67 (Ord.ne_undef _)) hS (F.lt (by decide)) fun a62 N => ?_
  replace F := F.next N (by decide)
  replace f48 := N.keep 48 _ (by decide) f48
  replace f55 := N.keep 55 _ (by decide) f55
  replace f67 := N.keep 67 _ (by decide) f67
  replace f73 := N.keep 73 _ (by decide) f73
  replace f74 := N.keep 74 _ (by decide) f74
  have f75 := N.got
  clear N a61
  refine Ord.skip R (k := 63) (bs' := (Ord.upto 64 70)) rfl (by kernel_rfl) hQ (R.shut (j := 54) rfl f67 (Ord.ne_undef _)) hS (F.lt (by decide)) fun a63 N => ?_
  replace F := F.next N (by decide)
  replace f48 := N.keep 48 _ (by decide) f48
  replace f55 := N.keep 55 _ (by decide) f55
  replace f67 := N.keep 67 _ (by decide) f67
  replace f73 := N.keep 73 _ (by decide) f73
  clear f74
  clear f75
  have f76 := N.got
  clear N a62
  refine Ord.skip R (k := 64) (bs' := (Ord.upto 65 70)) rfl (by kernel_rfl) hQ (R.shut (j := 54) rfl f67 (Ord.ne_undef _)) hS (F.lt (by decide)) fun a64 N => ?_
  replace F := F.next N (by decide)
  replace f48 := N.keep 48 _ (by decide) f48
  replace f55 := N.keep 55 _ (by decide) f55
  replace f67 := N.keep 67 _ (by decide) f67
  replace f73 := N.keep 73 _ (by decide) f73
  clear f76
  have f77 := N.got
  clear N a63
  refine Ord.skip R (k := 65) (bs' := (Ord.upto 66 70)) rfl (by kernel_rfl) hQ (R.shut (j := 54) rfl f67 (Ord.ne_undef _)) hS (F.lt (by decide)) fun a65 N => ?_
  replace F := F.next N (by decide)
  replace f48 := N.keep 48 _ (by decide) f48
  replace f55 := N.keep 55 _ (by decide) f55
  replace f67 := N.keep 67 _ (by decide) f67
  replace f73 := N.keep 73 _ (by decide) f73
  clear f77
  have f78 := N.got
  clear N a64
  refine Ord.skip R (k := 66) (bs' := (Ord.upto 67 70)) rfl (by kernel_rfl) hQ (R.shut (j := 54) rfl f67 (Ord.ne_undef _)) hS (F.lt (by decide)) fun a66 N => ?_
  replace F := F.next N (by decide)
  replace f48 := N.keep 48 _ (by decide) f48
  replace f55 := N.keep 55 _ (by decide) f55
  replace f67 := N.keep 67 _ (by decide) f67
  clear f73
  clear f78
  have f79 := N.got
  clear N a65
  refine Ord.skip R (k := 67) (bs' := (Ord.upto 68 70)) rfl (by kernel_rfl) hQ (R.shut (j := 42) rfl f55 (Ord.ne_undef _)) hS (F.lt (by decide)) fun a67 N => ?_
  replace F := F.next N (by decide)
  replace f48 := N.keep 48 _ (by decide) f48
  replace f55 := N.keep 55 _ (by decide) f55
  clear f67
  clear f79
  have f80 := N.got
  clear N a66
  refine Ord.skip R (k := 68) (bs' := (Ord.upto 69 70)) rfl (by kernel_rfl) hQ (R.shut (j := 35) rfl f48 (Ord.ne_not rfl)) hS (F.lt (by decide)) fun a68 N => ?_
  replace F := F.next N (by decide)
  replace f48 := N.keep 48 _ (by decide) f48
  clear f55
  clear f80
  have f81 := N.got
  clear N a67
  refine Ord.take R (k := 69) (v := Go.Value.bool true) (bs' := (Ord.upto 70 70)) rfl (by kernel_rfl) hQ trivial hS (fun w _ hS => Ord.ev_pick_yes f48.ev rfl) (F.lt (by decide)) fun a69 N => ?_
  replace F := F.next N (by decide)
  clear f48
  clear f81
  have f82 := N.got
  clear N a68
  exact Ord.finish R (by kernel_rfl) (h _ _ F f82 hS)

set_option maxRecDepth 100000 in
theorem refRow_last {ops : Array Oper} {Q : Exit → Act → World → Prop} (R : Ord.Reg ops refRowL) (hQ : ∀ c a w d v, Q (.panic c) (Act.put a (some d) v) w → Q (.panic c) a w) {w0 : World} {b off n cc k : Nat} {r m a0 : Int}
    (_hk0 : (0 : Int) ≤ (k : Int)) (_hkn : (k : Int) < (n : Int)) (c0 : ∀ w, Below w0.heap.size w0 w → w.cell? ⟨b, off + k * 3, none⟩ = some (.int .i32 r)) (c1 : ∀ w, Below w0.heap.size w0 w → w.cell? ⟨b, off + k * 3 + 1, none⟩ = some (.int .i64 m)) (c2 : ∀ w, Below w0.heap.size w0 w → w.cell? ⟨b, off + k * 3 + 2, none⟩ = some (.int .i64 a0)) (hC : ∀ w, Calls Tryd.prog 55 #[cellV r m a0] w fun e w' => e = .returned (.bool true) ∧ Below w.heap.size w w') (hw : IntKind.i64.wrap ((k : Int) + 1) = (k : Int) + 1) (hm : (m == 2) = true) (hx : (n : Int) ≤ (k : Int) + 1)
    {p0 p1 p5 p6 : Value} (a : Act) (w : World) (F : RowFr b off n cc k p0 p1 p5 p6 a) (hS : Below w0.heap.size w0 w)
    (h : ∀ a w, RowFr b off n cc k p0 p1 p5 p6 a → Chain.At a 82 (.bool true) → Below w0.heap.size w0 w → Q .normal a w) :
    wpAnyH Tryd.prog .any ops Q (fun w' => Below w0.heap.size w0 w') 70 (List.replicate 70 false).toArray a w := by
  refine Ord.take R (k := 0) (v := .slice (some ⟨b, off, none⟩) n cc) (bs' := (Ord.upto 1 70)) rfl (by kernel_rfl) hQ trivial hS (fun w _ hS => Chain.ev_move F.s3.ev) (F.lt (by decide)) fun a0 N => ?_
  replace F := F.next N (by decide)
  have f13 := N.got
  clear N a
  refine Ord.take R (k := 1) (v := .int .i64 (k : Int)) (bs' := (Ord.upto 2 70)) rfl (by kernel_rfl) hQ trivial hS (fun w _ hS => Chain.ev_move F.s4.ev) (F.lt (by decide)) fun a1 N => ?_
  replace F := F.next N (by decide)
  replace f13 := N.keep 13 _ (by decide) f13
  have f14 := N.got
  clear N a0
  refine Ord.take R (k := 2) (v := .pointer (some ⟨b, off + k * 3, none⟩)) (bs' := (Ord.upto 3 70)) rfl (by kernel_rfl) hQ trivial hS (fun w _ hS => by have e13 := f13; unfold Chain.At at e13; have e14 := f14; unfold Chain.At at e14; clear F; go_simp) (F.lt (by decide)) fun a2 N => ?_
  replace F := F.next N (by decide)
  clear f13
  clear f14
  have f15 := N.got
  clear N a1
  refine Ord.take R (k := 3) (v := cellV r m a0) (bs' := (Ord.upto 4 70)) rfl (by kernel_rfl) hQ trivial hS (fun w _ hS => by have e15 := f15; unfold Chain.At at e15; have q0 := c0 w hS; have q1 := c1 w hS; have q2 := c2 w hS; clear F; go_simp) (F.lt (by decide)) fun a3 N => ?_
  replace F := F.next N (by decide)
  clear f15
  have f16 := N.got
  clear N a2
  refine Ord.call R (k := 4) (args := #[cellV r m a0]) (bs' := (Ord.upto 5 70)) rfl (by kernel_rfl) trivial (by simp [f16.ev]) (by kernel_rfl) (hC _) (F.lt (by decide)) ?_
  rintro e w ⟨rfl, hb⟩
  replace hS := hS.trans (hb.mono hS.size)
  refine ⟨_, rfl, hS, fun a4 N => ?_⟩
  replace F := F.next N (by decide)
  clear f16
  have f17 := N.got
  clear N a3
  refine Ord.take R (k := 5) (v := .bool false) (bs' := (Ord.upto 6 70)) rfl (by kernel_rfl) hQ trivial hS (fun w _ hS => by have e17 := f17; unfold Chain.At at e17; clear F; go_simp) (F.lt (by decide)) fun a5 N => ?_
  replace F := F.next N (by decide)
  clear f17
  have f18 := N.got
  clear N a4
  refine Ord.take R (k := 6) (v := .bool false) (bs' := (Ord.upto 7 70)) rfl (by kernel_rfl) hQ trivial hS (fun w _ hS => Chain.ev_move f18.ev) (F.lt (by decide)) fun a6 N => ?_
  replace F := F.next N (by decide)
  clear f18
  have f19 := N.got
  clear N a5
  refine Ord.take R (k := 7) (v := .slice (some ⟨b, off, none⟩) n cc) (bs' := (Ord.upto 8 70)) rfl (by kernel_rfl) hQ (R.opened (j := 6) rfl f19) hS (fun w _ hS => Chain.ev_move F.s3.ev) (F.lt (by decide)) fun a7 N => ?_
  replace F := F.next N (by decide)
  replace f19 := N.keep 19 _ (by decide) f19
  have f20 := N.got
  clear N a6
  refine Ord.take R (k := 8) (v := .int .i64 (k : Int)) (bs' := (Ord.upto 9 70)) rfl (by kernel_rfl) hQ (R.opened (j := 6) rfl f19) hS (fun w _ hS => Chain.ev_move F.s4.ev) (F.lt (by decide)) fun a8 N => ?_
  replace F := F.next N (by decide)
  replace f19 := N.keep 19 _ (by decide) f19
  replace f20 := N.keep 20 _ (by decide) f20
  have f21 := N.got
  clear N a7
  refine Ord.take R (k := 9) (v := .pointer (some ⟨b, off + k * 3, none⟩)) (bs' := (Ord.upto 10 70)) rfl (by kernel_rfl) hQ (R.opened (j := 6) rfl f19) hS (fun w _ hS => by have e20 := f20; unfold Chain.At at e20; have e21 := f21; unfold Chain.At at e21; clear F; go_simp) (F.lt (by decide)) fun a9 N => ?_
  replace F := F.next N (by decide)
  replace f19 := N.keep 19 _ (by decide) f19
  clear f20
  clear f21
  have f22 := N.got
  clear N a8
  refine Ord.take R (k := 10) (v := .pointer (some ⟨b, off + k * 3 + 1, none⟩)) (bs' := (Ord.upto 11 70)) rfl (by kernel_rfl) hQ (R.opened (j := 6) rfl f19) hS (fun w _ hS => by have e22 := f22; unfold Chain.At at e22; clear F; go_simp) (F.lt (by decide)) fun a10 N => ?_
  replace F := F.next N (by decide)
  replace f19 := N.keep 19 _ (by decide) f19
  clear f22
  have f23 := N.got
  clear N a9
  refine Ord.take R (k := 11) (v := .int .i64 m) (bs' := (Ord.upto 12 70)) rfl (by kernel_rfl) hQ (R.opened (j := 6) rfl f19) hS (fun w _ hS => by have e23 := f23; unfold Chain.At at e23; have q0 := c1 w hS; clear F; go_simp) (F.lt (by decide)) fun a11 N => ?_
  replace F := F.next N (by decide)
  replace f19 := N.keep 19 _ (by decide) f19
  clear f23
  have f24 := N.got
  clear N a10
  refine Ord.take R (k := 12) (v := .bool true) (bs' := (Ord.upto 13 70)) rfl (by kernel_rfl) hQ (R.opened (j := 6) rfl f19) hS (fun w _ hS => by have e24 := f24; unfold Chain.At at e24; have q0 := hm; clear F; go_simp) (F.lt (by decide)) fun a12 N => ?_
  replace F := F.next N (by decide)
  replace f19 := N.keep 19 _ (by decide) f19
  clear f24
  have f25 := N.got
  clear N a11
  refine Ord.take R (k := 13) (v := .bool true) (bs' := (Ord.upto 14 70)) rfl (by kernel_rfl) hQ (R.opened (j := 6) rfl f19) hS (fun w _ hS => Chain.ev_move f25.ev) (F.lt (by decide)) fun a13 N => ?_
  replace F := F.next N (by decide)
  replace f19 := N.keep 19 _ (by decide) f19
  clear f25
  have f26 := N.got
  clear N a12
  refine Ord.take R (k := 14) (v := .int .i64 (k : Int)) (bs' := (Ord.upto 15 70)) rfl (by kernel_rfl) hQ (R.opened (j := 13) rfl f26) hS (fun w _ hS => Chain.ev_move F.s4.ev) (F.lt (by decide)) fun a14 N => ?_
  replace F := F.next N (by decide)
  replace f19 := N.keep 19 _ (by decide) f19
  replace f26 := N.keep 26 _ (by decide) f26
  have f27 := N.got
  clear N a13
  refine Ord.take R (k := 15) (v := .int .i64 ((k : Int) + 1)) (bs' := (Ord.upto 16 70)) rfl (by kernel_rfl) hQ (R.opened (j := 13) rfl f26) hS (fun w _ hS => by have e27 := f27; unfold Chain.At at e27; have q0 := hw; clear F; go_simp) (F.lt (by decide)) fun a15 N => ?_
  replace F := F.next N (by decide)
  replace f19 := N.keep 19 _ (by decide) f19
  replace f26 := N.keep 26 _ (by decide) f26
  clear f27
  have f28 := N.got
  clear N a14
  refine Ord.take R (k := 16) (v := .slice (some ⟨b, off, none⟩) n cc) (bs' := (Ord.upto 17 70)) rfl (by kernel_rfl) hQ (R.opened (j := 13) rfl f26) hS (fun w _ hS => Chain.ev_move F.s3.ev) (F.lt (by decide)) fun a16 N => ?_
  replace F := F.next N (by decide)
  replace f19 := N.keep 19 _ (by decide) f19
  replace f26 := N.keep 26 _ (by decide) f26
  replace f28 := N.keep 28 _ (by decide) f28
  have f29 := N.got
  clear N a15
  refine Ord.take R (k := 17) (v := .int .i64 (n : Int)) (bs' := (Ord.upto 18 70)) rfl (by kernel_rfl) hQ (R.opened (j := 13) rfl f26) hS (fun w _ hS => Chain.ev_len Tryd.underlying29 f29.ev) (F.lt (by decide)) fun a17 N => ?_
  replace F := F.next N (by decide)
  replace f19 := N.keep 19 _ (by decide) f19
  replace f26 := N.keep 26 _ (by decide) f26
  replace f28 := N.keep 28 _ (by decide) f28
  clear f29
  have f30 := N.got
  clear N a16
  refine Ord.take R (k := 18) (v := .bool true) (bs' := (Ord.upto 19 70)) rfl (by kernel_rfl) hQ (R.opened (j := 13) rfl f26) hS (fun w _ hS => by have e28 := f28; unfold Chain.At at e28; have e30 := f30; unfold Chain.At at e30; have q0 := hx; clear F; go_simp) (F.lt (by decide)) fun a18 N => ?_
  replace F := F.next N (by decide)
  replace f19 := N.keep 19 _ (by decide) f19
  replace f26 := N.keep 26 _ (by decide) f26
  clear f28
  clear f30
  have f31 := N.got
  clear N a17
  refine Ord.take R (k := 19) (v := .bool true) (bs' := (Ord.upto 20 70)) rfl (by kernel_rfl) hQ (R.opened (j := 13) rfl f26) hS (fun w _ hS => Chain.ev_move f31.ev) (F.lt (by decide)) fun a19 N => ?_
  replace F := F.next N (by decide)
  replace f19 := N.keep 19 _ (by decide) f19
  replace f26 := N.keep 26 _ (by decide) f26
  clear f31
  have f32 := N.got
  clear N a18
  refine Ord.skip R (k := 20) (bs' := (Ord.upto 21 70)) rfl (by kernel_rfl) hQ (R.shut (j := 19) rfl f32 (Ord.ne_not rfl)) hS (F.lt (by decide)) fun a20 N => ?_
  replace F := F.next N (by decide)
  replace f19 := N.keep 19 _ (by decide) f19
  replace f26 := N.keep 26 _ (by decide) f26
  replace f32 := N.keep 32 _ (by decide) f32
  have f33 := N.got
  clear N a19
  refine Ord.skip R (k := 21) (bs' := (Ord.upto 22 70)) rfl (by kernel_rfl) hQ (R.shut (j := 19) rfl f32 (Ord.ne_not rfl)) hS (F.lt (by decide)) fun a21 N => ?_
  replace F := F.next N (by decide)
  replace f19 := N.keep 19 _ (by decide) f19
  replace f26 := N.keep 26 _ (by decide) f26
  replace f32 := N.keep 32 _ (by decide) f32
  replace f33 := N.keep 33 _ (by decide) f33
  have f34 := N.got
  clear N a20
  refine Ord.skip R (k := 22) (bs' := (Ord.upto 23 70)) rfl (by kernel_rfl) hQ (R.shut (j := 19) rfl f32 (Ord.ne_not rfl)) hS (F.lt (by decide)) fun a22 N => ?_
  replace F := F.next N (by decide)
  replace f19 := N.keep 19 _ (by decide) f19
  replace f26 := N.keep 26 _ (by decide) f26
  replace f32 := N.keep 32 _ (by decide) f32
  replace f33 := N.keep 33 _ (by decide) f33
  clear f34
  have f35 := N.got
  clear N a21
  refine Ord.skip R (k := 23) (bs' := (Ord.upto 24 70)) rfl (by kernel_rfl) hQ (R.shut (j := 19) rfl f32 (Ord.ne_not rfl)) hS (F.lt (by decide)) fun a23 N => ?_
  replace F := F.next N (by decide)
  replace f19 := N.keep 19 _ (by decide) f19
  replace f26 := N.keep 26 _ (by decide) f26
  replace f32 := N.keep 32 _ (by decide) f32
  clear f33
  clear f35
  have f36 := N.got
  clear N a22
  refine Ord.skip R (k := 24) (bs' := (Ord.upto 25 70)) rfl (by kernel_rfl) hQ (R.shut (j := 19) rfl f32 (Ord.ne_not rfl)) hS (F.lt (by decide)) fun a24 N => ?_
  replace F := F.next N (by decide)
  replace f19 := N.keep 19 _ (by decide) f19
  replace f26 := N.keep 26 _ (by decide) f26
  replace f32 := N.keep 32 _ (by decide) f32
  clear f36
  have f37 := N.got
  clear N a23
  refine Ord.skip R (k := 25) (bs' := (Ord.upto 26 70)) rfl (by kernel_rfl) hQ (R.shut (j := 19) rfl f32 (Ord.ne_not rfl)) hS (F.lt (by decide)) fun a25 N => ?_
  replace F := F.next N (by decide)
  replace f19 := N.keep 19 _ (by decide) f19
  replace f26 := N.keep 26 _ (by decide) f26
  replace f32 := N.keep 32 _ (by decide) f32
  replace f37 := N.keep 37 _ (by decide) f37
  have f38 := N.got
  clear N a24
  refine Ord.skip R (k := 26) (bs' := (Ord.upto 27 70)) rfl (by kernel_rfl) hQ (R.shut (j := 19) rfl f32 (Ord.ne_not rfl)) hS (F.lt (by decide)) fun a26 N => ?_
  replace F := F.next N (by decide)
  replace f19 := N.keep 19 _ (by decide) f19
  replace f26 := N.keep 26 _ (by decide) f26
  replace f32 := N.keep 32 _ (by decide) f32
  replace f37 := N.keep 37 _ (by decide) f37
  replace f38 := N.keep 38 _ (by decide) f38
  have f39 := N.got
  clear N a25
  refine Ord.skip R (k := 27) (bs' := (Ord.upto 28 70)) rfl (by kernel_rfl) hQ (R.shut (j := 19) rfl f32 (Ord.ne_not rfl)) hS (F.lt (by decide)) fun a27 N => ?_
  replace F := F.next N (by decide)
  replace f19 := N.keep 19 _ (by decide) f19
  replace f26 := N.keep 26 _ (by decide) f26
  replace f32 := N.keep 32 _ (by decide) f32
  replace f37 := N.keep 37 _ (by decide) f37
  clear f38
  clear f39
  have f40 := N.got
  clear N a26
  refine Ord.skip R (k := 28) (bs' := (Ord.upto 29 70)) rfl (by kernel_rfl) hQ (R.shut (j := 19) rfl f32 (Ord.ne_not rfl)) hS (F.lt (by decide)) fun a28 N => ?_
  replace F := F.next N (by decide)
  replace f19 := N.keep 19 _ (by decide) f19
  replace f26 := N.keep 26 _ (by decide) f26
  replace f32 := N.keep 32 _ (by decide) f32
  replace f37 := N.keep 37 _ (by decide) f37
  clear f40
  have f41 := N.got
  clear N a27
  refine Ord.skip R (k := 29) (bs' := (Ord.upto 30 70)) rfl (by kernel_rfl) hQ (R.shut (j := 19) rfl f32 (Ord.ne_not rfl)) hS (F.lt (by decide)) fun a29 N => ?_
  replace F := F.next N (by decide)
  replace f19 := N.keep 19 _ (by decide) f19
  replace f26 := N.keep 26 _ (by decide) f26
  replace f32 := N.keep 32 _ (by decide) f32
  replace f37 := N.keep 37 _ (by decide) f37
  clear f41
  have f42 := N.got
  clear N a28
  refine Ord.skip R (k := 30) (bs' := (Ord.upto 31 70)) rfl (by kernel_rfl) hQ (R.shut (j := 19) rfl f32 (Ord.ne_not rfl)) hS (F.lt (by decide)) fun a30 N => ?_
  replace F := F.next N (by decide)
  replace f19 := N.keep 19 _ (by decide) f19
  replace f26 := N.keep 26 _ (by decide) f26
  replace f32 := N.keep 32 _ (by decide) f32
  replace f37 := N.keep 37 _ (by decide) f37
  clear f42
  have f43 := N.got
  clear N a29
  refine Ord.skip R (k := 31) (bs' := (Ord.upto 32 70)) rfl (by kernel_rfl) hQ (R.shut (j := 19) rfl f32 (Ord.ne_not rfl)) hS (F.lt (by decide)) fun a31 N => ?_
  replace F := F.next N (by decide)
  replace f19 := N.keep 19 _ (by decide) f19
  replace f26 := N.keep 26 _ (by decide) f26
  replace f32 := N.keep 32 _ (by decide) f32
  clear f37
  clear f43
  have f44 := N.got
  clear N a30
  refine Ord.take R (k := 32) (v := Go.Value.bool true) (bs' := (Ord.upto 33 70)) rfl (by kernel_rfl) hQ (R.opened (j := 13) rfl f26) hS (fun w _ hS => Ord.ev_pick_yes f32.ev rfl) (F.lt (by decide)) fun a32 N => ?_
  replace F := F.next N (by decide)
  replace f19 := N.keep 19 _ (by decide) f19
  replace f26 := N.keep 26 _ (by decide) f26
  clear f32
  clear f44
  have f45 := N.got
  clear N a31
  refine Ord.take R (k := 33) (v := Go.Value.bool true) (bs' := (Ord.upto 34 70)) rfl (by kernel_rfl) hQ (R.opened (j := 6) rfl f19) hS (fun w _ hS => Ord.ev_pick_yes f26.ev f45.ev) (F.lt (by decide)) fun a33 N => ?_
  replace F := F.next N (by decide)
  replace f19 := N.keep 19 _ (by decide) f19
  clear f26
  clear f45
  have f46 := N.got
  clear N a32
  refine Ord.take R (k := 34) (v := Go.Value.bool true) (bs' := (Ord.upto 35 70)) rfl (by kernel_rfl) hQ trivial hS (fun w _ hS => Ord.ev_pick_no f19.ev f46.ev) (F.lt (by decide)) fun a34 N => ?_
  replace F := F.next N (by decide)
  clear f19
  clear f46
  have f47 := N.got
  clear N a33
  refine Ord.take R (k := 35) (v := Go.Value.bool true) (bs' := (Ord.upto 36 70)) rfl (by kernel_rfl) hQ trivial hS (fun w _ hS => Chain.ev_move f47.ev) (F.lt (by decide)) fun a35 N => ?_
  replace F := F.next N (by decide)
  clear f47
  have f48 := N.got
  clear N a34
  refine Ord.skip R (k := 36) (bs' := (Ord.upto 37 70)) rfl (by kernel_rfl) hQ (R.shut (j := 35) rfl f48 (Ord.ne_not rfl)) hS (F.lt (by decide)) fun a36 N => ?_
  replace F := F.next N (by decide)
  replace f48 := N.keep 48 _ (by decide) f48
  have f49 := N.got
  clear N a35
  refine Ord.skip R (k := 37) (bs' := (Ord.upto 38 70)) rfl (by kernel_rfl) hQ (R.shut (j := 35) rfl f48 (Ord.ne_not rfl)) hS (F.lt (by decide)) fun a37 N => ?_
  replace F := F.next N (by decide)
  replace f48 := N.keep 48 _ (by decide) f48
  replace f49 := N.keep 49 _ (by decide) f49
  have f50 := N.got
  clear N a36
  refine Ord.skip R (k := 38) (bs' := (Ord.upto 39 70)) rfl (by kernel_rfl) hQ (R.shut (j := 35) rfl f48 (Ord.ne_not rfl)) hS (F.lt (by decide)) fun a38 N => ?_
  replace F := F.next N (by decide)
  replace f48 := N.keep 48 _ (by decide) f48
  clear f49
  clear f50
  have f51 := N.got
  clear N a37
  refine Ord.skip R (k := 39) (bs' := (Ord.upto 40 70)) rfl (by kernel_rfl) hQ (R.shut (j := 35) rfl f48 (Ord.ne_not rfl)) hS (F.lt (by decide)) fun a39 N => ?_
  replace F := F.next N (by decide)
  replace f48 := N.keep 48 _ (by decide) f48
  clear f51
  have f52 := N.got
  clear N a38
  refine Ord.skip R (k := 40) (bs' := (Ord.upto 41 70)) rfl (by kernel_rfl) hQ (R.shut (j := 35) rfl f48 (Ord.ne_not rfl)) hS (F.lt (by decide)) fun a40 N => ?_
  replace F := F.next N (by decide)
  replace f48 := N.keep 48 _ (by decide) f48
  clear f52
  have f53 := N.got
  clear N a39
  refine Ord.skip R (k := 41) (bs' := (Ord.upto 42 70)) rfl (by kernel_rfl) hQ (R.shut (j := 35) rfl f48 (Ord.ne_not rfl)) hS (F.lt (by decide)) fun a41 N => ?_
  replace F := F.next N (by decide)
  replace f48 := N.keep 48 _ (by decide) f48
  clear f53
  have f54 := N.got
  clear N a40
  refine Ord.skip R (k := 42) (bs' := (Ord.upto 43 70)) rfl (by kernel_rfl) hQ (R.shut (j := 35) rfl f48 (Ord.ne_not rfl)) hS (F.lt (by decide)) fun a42 N => ?_
  replace F := F.next N (by decide)
  replace f48 := N.keep 48 _ (by decide) f48
  clear f54
  have f55 := N.got
  clear N a41
  refine Ord.skip R (k := 43) (bs' := (Ord.upto 44 70)) rfl (by kernel_rfl) hQ (R.shut (j := 42) rfl f55 (Ord.ne_undef _)) hS (F.lt (by decide)) fun a43 N => ?_
  replace F := F.next N (by decide)
  replace f48 := N.keep 48 _ (by decide) f48
  replace f55 := N.keep 55 _ (by decide) f55
  have f56 := N.got
  clear N a42
  refine Ord.skip R (k := 44) (bs' := (Ord.upto 45 70)) rfl (by kernel_rfl) hQ (R.shut (j := 42) rfl f55 (Ord.ne_undef _)) hS (F.lt (by decide)) fun a44 N => ?_
  replace F := F.next N (by decide)
  replace f48 := N.keep 48 _ (by decide) f48
  replace f55 := N.keep 55 _ (by decide) f55
  clear f56
  have f57 := N.got
  clear N a43
  refine Ord.skip R (k := 45) (bs' := (Ord.upto 46 70)) rfl (by kernel_rfl) hQ (R.shut (j := 42) rfl f55 (Ord.ne_undef _)) hS (F.lt (by decide)) fun a45 N => ?_
  replace F := F.next N (by decide)
  replace f48 := N.keep 48 _ (by decide) f48
  replace f55 := N.keep 55 _ (by decide) f55
  clear f57
  have f58 := N.got
  clear N a44
  refine Ord.skip R (k := 46) (bs' := (Ord.upto 47 70)) rfl (by kernel_rfl) hQ (R.shut (j := 45) rfl f58 (Ord.ne_undef _)) hS (F.lt (by decide)) fun a46 N => ?_
  replace F := F.next N (by decide)
  replace f48 := N.keep 48 _ (by decide) f48
  replace f55 := N.keep 55 _ (by decide) f55
  replace f58 := N.keep 58 _ (by decide) f58
  have f59 := N.got
  clear N a45
  refine Ord.skip R (k := 47) (bs' := (Ord.upto 48 70)) rfl (by kernel_rfl) hQ (R.shut (j := 45) rfl f58 (Ord.ne_undef _)) hS (F.lt (by decide)) fun a47 N => ?_
  replace F := F.next N (by decide)
  replace f48 := N.keep 48 _ (by decide) f48
  replace f55 := N.keep 55 _ (by decide) f55
  replace f58 := N.keep 58 _ (by decide) f58
  replace f59 := N.keep 59 _ (by decide) f59
  have f60 := N.got
  clear N a46
  refine Ord.skip R (k := 48) (bs' := (Ord.upto 49 70)) rfl (by kernel_rfl) hQ (R.shut (j := 45) rfl f58 (Ord.ne_undef _)) hS (F.lt (by decide)) fun a48 N => ?_
  replace F := F.next N (by decide)
  replace f48 := N.keep 48 _ (by decide) f48
  replace f55 := N.keep 55 _ (by decide) f55
  replace f58 := N.keep 58 _ (by decide) f58
  replace f59 := N.keep 59 _ (by decide) f59
  clear f60
  have f61 := N.got
  clear N a47
  refine Ord.skip R (k := 49) (bs' := (Ord.upto 50 70)) rfl (by kernel_rfl) hQ (R.shut (j := 45) rfl f58 (Ord.ne_undef _)) hS (F.lt (by decide)) fun a49 N => ?_
  replace F := F.next N (by decide)
  replace f48 := N.keep 48 _ (by decide) f48
  replace f55 := N.keep 55 _ (by decide) f55
  replace f58 := N.keep 58 _ (by decide) f58
  clear f59
  clear f61
  have f62 := N.got
  clear N a48
  refine Ord.skip R (k := 50) (bs' := (Ord.upto 51 70)) rfl (by kernel_rfl) hQ (R.shut (j := 45) rfl f58 (Ord.ne_undef _)) hS (F.lt (by decide)) fun a50 N => ?_
  replace F := F.next N (by decide)
  replace f48 := N.keep 48 _ (by decide) f48
  replace f55 := N.keep 55 _ (by decide) f55
  replace f58 := N.keep 58 _ (by decide) f58
  clear f62
  have f63 := N.got
  clear N a49
  refine Ord.skip R (k := 51) (bs' := (Ord.upto 52 70)) rfl (by kernel_rfl) hQ (R.shut (j := 45) rfl f58 (Ord.ne_undef _)) hS (F.lt (by decide)) fun a51 N => ?_
  replace F := F.next N (by decide)
  replace f48 := N.keep 48 _ (by decide) f48
  replace f55 := N.keep 55 _ (by decide) f55
  replace f58 := N.keep 58 _ (by decide) f58
  clear f63
  have f64 := N.got
  clear N a50
  refine Ord.skip R (k := 52) (bs' := (Ord.upto 53 70)) rfl (by kernel_rfl) hQ (R.shut (j := 45) rfl f58 (Ord.ne_undef _)) hS (F.lt (by decide)) fun a52 N => ?_
  replace F := F.next N (by decide)
  replace f48 := N.keep 48 _ (by decide) f48
  replace f55 := N.keep 55 _ (by decide) f55
  replace f58 := N.keep 58 _ (by decide) f58
  clear f64
  have f65 := N.got
  clear N a51
  refine Ord.skip R (k := 53) (bs' := (Ord.upto 54 70)) rfl (by kernel_rfl) hQ (R.shut (j := 42) rfl f55 (Ord.ne_undef _)) hS (F.lt (by decide)) fun a53 N => ?_
  replace F := F.next N (by decide)
  replace f48 := N.keep 48 _ (by decide) f48
  replace f55 := N.keep 55 _ (by decide) f55
  clear f58
  clear f65
  have f66 := N.got
  clear N a52
  refine Ord.skip R (k := 54) (bs' := (Ord.upto 55 70)) rfl (by kernel_rfl) hQ (R.shut (j := 42) rfl f55 (Ord.ne_undef _)) hS (F.lt (by decide)) fun a54 N => ?_
  replace F := F.next N (by decide)
  replace f48 := N.keep 48 _ (by decide) f48
  replace f55 := N.keep 55 _ (by decide) f55
  clear f66
  have f67 := N.got
  clear N a53
  refine Ord.skip R (k := 55) (bs' := (Ord.upto 56 70)) rfl (by kernel_rfl) hQ (R.shut (j := 54) rfl f67 (Ord.ne_undef _)) hS (F.lt (by decide)) fun a55 N => ?_
  replace F := F.next N (by decide)
  replace f48 := N.keep 48 _ (by decide) f48
  replace f55 := N.keep 55 _ (by decide) f55
  replace f67 := N.keep 67 _ (by decide) f67
  have f68 := N.got
  clear N a54
  refine Ord.skip R (k := 56) (bs' := (Ord.upto 57 70)) rfl (by kernel_rfl) hQ (R.shut (j := 54) rfl f67 (Ord.ne_undef _)) hS (F.lt (by decide)) fun a56 N => ?_
  replace F := F.next N (by decide)
  replace f48 := N.keep 48 _ (by decide) f48
  replace f55 := N.keep 55 _ (by decide) f55
  replace f67 := N.keep 67 _ (by decide) f67
  replace f68 := N.keep 68 _ (by decide) f68
  have f69 := N.got
  clear N a55
  refine Ord.skip R (k := 57) (bs' := (Ord.upto 58 70)) rfl (by kernel_rfl) hQ (R.shut (j := 54) rfl f67 (Ord.ne_undef _)) hS (F.lt (by decide)) fun a57 N => ?_
  replace F := F.next N (by decide)
  replace f48 := N.keep 48 _ (by decide) f48
  replace f55 := N.keep 55 _ (by decide) f55
  replace f67 := N.keep 67 _ (by decide) f67
  replace f68 := N.keep 68 _ (by decide) f68
  clear f69
  have f70 := N.got
  clear N a56
  refine Ord.skip R (k := 58) (bs' := (Ord.upto 59 70)) rfl (by kernel_rfl) hQ (R.shut (j := 54) rfl f67 (Ord.ne_undef _)) hS (F.lt (by decide)) fun a58 N => ?_
  replace F := F.next N (by decide)
  replace f48 := N.keep 48 _ (by decide) f48
  replace f55 := N.keep 55 _ (by decide) f55
  replace f67 := N.keep 67 _ (by decide) f67
  clear f68
  clear f70
  have f71 := N.got
  clear N a57
  refine Ord.skip R (k := 59) (bs' := (Ord.upto 60 70)) rfl (by kernel_rfl) hQ (R.shut (j := 54) rfl f67 (Ord.ne_undef _)) hS (F.lt (by decide)) fun a59 N => ?_
  replace F := F.next N (by decide)
  replace f48 := N.keep 48 _ (by decide) f48
  replace f55 := N.keep 55 _ (by decide) f55
  replace f67 := N.keep 67 _ (by decide) f67
  clear f71
  have f72 := N.got
  clear N a58
  refine Ord.skip R (k := 60) (bs' := (Ord.upto 61 70)) rfl (by kernel_rfl) hQ (R.shut (j := 54) rfl f67 (Ord.ne_undef _)) hS (F.lt (by decide)) fun a60 N => ?_
  replace F := F.next N (by decide)
  replace f48 := N.keep 48 _ (by decide) f48
  replace f55 := N.keep 55 _ (by decide) f55
  replace f67 := N.keep 67 _ (by decide) f67
  clear f72
  have f73 := N.got
  clear N a59
  refine Ord.skip R (k := 61) (bs' := (Ord.upto 62 70)) rfl (by kernel_rfl) hQ (R.shut (j := 54) rfl f67 (Ord.ne_undef _)) hS (F.lt (by decide)) fun a61 N => ?_
  replace F := F.next N (by decide)
  replace f48 := N.keep 48 _ (by decide) f48
  replace f55 := N.keep 55 _ (by decide) f55
  replace f67 := N.keep 67 _ (by decide) f67
  replace f73 := N.keep 73 _ (by decide) f73
  have f74 := N.got
  clear N a60
  refine Ord.skip R (k := 62) (bs' := (Ord.upto 63 70)) rfl (by kernel_rfl) hQ (R.shut (j := 54) rfl f67 (Ord.ne_undef _)) hS (F.lt (by decide)) fun a62 N => ?_
  replace F := F.next N (by decide)
  replace f48 := N.keep 48 _ (by decide) f48
  replace f55 := N.keep 55 _ (by decide) f55
  replace f67 := N.keep 67 _ (by decide) f67
  replace f73 := N.keep 73 _ (by decide) f73
  replace f74 := N.keep 74 _ (by decide) f74
  have f75 := N.got
  clear N a61
  refine Ord.skip R (k := 63) (bs' := (Ord.upto 64 70)) rfl (by kernel_rfl) hQ (R.shut (j := 54) rfl f67 (Ord.ne_undef _)) hS (F.lt (by decide)) fun a63 N => ?_
  replace F := F.next N (by decide)
  replace f48 := N.keep 48 _ (by decide) f48
  replace f55 := N.keep 55 _ (by decide) f55
  replace f67 := N.keep 67 _ (by decide) f67
  replace f73 := N.keep 73 _ (by decide) f73
  clear f74
  clear f75
  have f76 := N.got
  clear N a62
  refine Ord.skip R (k := 64) (bs' := (Ord.upto 65 70)) rfl (by kernel_rfl) hQ (R.shut (j := 54) rfl f67 (Ord.ne_undef _)) hS (F.lt (by decide)) fun a64 N => ?_
  replace F := F.next N (by decide)
  replace f48 := N.keep 48 _ (by decide) f48
  replace f55 := N.keep 55 _ (by decide) f55
  replace f67 := N.keep 67 _ (by decide) f67
  replace f73 := N.keep 73 _ (by decide) f73
  clear f76
  have f77 := N.got
  clear N a63
  refine Ord.skip R (k := 65) (bs' := (Ord.upto 66 70)) rfl (by kernel_rfl) hQ (R.shut (j := 54) rfl f67 (Ord.ne_undef _)) hS (F.lt (by decide)) fun a65 N => ?_
  replace F := F.next N (by decide)
  replace f48 := N.keep 48 _ (by decide) f48
  replace f55 := N.keep 55 _ (by decide) f55
  replace f67 := N.keep 67 _ (by decide) f67
  replace f73 := N.keep 73 _ (by decide) f73
  clear f77
  have f78 := N.got
  clear N a64
  refine Ord.skip R (k := 66) (bs' := (Ord.upto 67 70)) rfl (by kernel_rfl) hQ (R.shut (j := 54) rfl f67 (Ord.ne_undef _)) hS (F.lt (by decide)) fun a66 N => ?_
  replace F := F.next N (by decide)
  replace f48 := N.keep 48 _ (by decide) f48
  replace f55 := N.keep 55 _ (by decide) f55
  replace f67 := N.keep 67 _ (by decide) f67
  clear f73
  clear f78
  have f79 := N.got
  clear N a65
  refine Ord.skip R (k := 67) (bs' := (Ord.upto 68 70)) rfl (by kernel_rfl) hQ (R.shut (j := 42) rfl f55 (Ord.ne_undef _)) hS (F.lt (by decide)) fun a67 N => ?_
  replace F := F.next N (by decide)
  replace f48 := N.keep 48 _ (by decide) f48
  replace f55 := N.keep 55 _ (by decide) f55
  clear f67
  clear f79
  have f80 := N.got
  clear N a66
  refine Ord.skip R (k := 68) (bs' := (Ord.upto 69 70)) rfl (by kernel_rfl) hQ (R.shut (j := 35) rfl f48 (Ord.ne_not rfl)) hS (F.lt (by decide)) fun a68 N => ?_
  replace F := F.next N (by decide)
  replace f48 := N.keep 48 _ (by decide) f48
  clear f55
  clear f80
  have f81 := N.got
  clear N a67
  refine Ord.take R (k := 69) (v := Go.Value.bool true) (bs' := (Ord.upto 70 70)) rfl (by kernel_rfl) hQ trivial hS (fun w _ hS => Ord.ev_pick_yes f48.ev rfl) (F.lt (by decide)) fun a69 N => ?_
  replace F := F.next N (by decide)
  clear f48
  clear f81
  have f82 := N.got
  clear N a68
  exact Ord.finish R (by kernel_rfl) (h _ _ F f82 hS)

set_option maxRecDepth 100000 in
theorem refRow_other {ops : Array Oper} {Q : Exit → Act → World → Prop} (R : Ord.Reg ops refRowL) (hQ : ∀ c a w d v, Q (.panic c) (Act.put a (some d) v) w → Q (.panic c) a w) {w0 : World} {b off n cc k : Nat} {r m a0 : Int}
    (_hk0 : (0 : Int) ≤ (k : Int)) (_hkn : (k : Int) < (n : Int)) (c0 : ∀ w, Below w0.heap.size w0 w → w.cell? ⟨b, off + k * 3, none⟩ = some (.int .i32 r)) (c1 : ∀ w, Below w0.heap.size w0 w → w.cell? ⟨b, off + k * 3 + 1, none⟩ = some (.int .i64 m)) (c2 : ∀ w, Below w0.heap.size w0 w → w.cell? ⟨b, off + k * 3 + 2, none⟩ = some (.int .i64 a0)) (hC : ∀ w, Calls Tryd.prog 55 #[cellV r m a0] w fun e w' => e = .returned (.bool true) ∧ Below w.heap.size w w') (hw : IntKind.i64.wrap ((k : Int) + 1) = (k : Int) + 1) {r' m' a' : Int} (hm : (m == 2) = true) (hx : ¬ (n : Int) ≤ (k : Int) + 1) (hx0 : (0 : Int) ≤ (k : Int) + 1) (hx1 : (k : Int) + 1 < (n : Int)) (ht : ((k : Int) + 1).toNat = k + 1) (d0 : ∀ w, Below w0.heap.size w0 w → w.cell? ⟨b, off + (k + 1) * 3, none⟩ = some (.int .i32 r')) (d1 : ∀ w, Below w0.heap.size w0 w → w.cell? ⟨b, off + (k + 1) * 3 + 1, none⟩ = some (.int .i64 m')) (d2 : ∀ w, Below w0.heap.size w0 w → w.cell? ⟨b, off + (k + 1) * 3 + 2, none⟩ = some (.int .i64 a')) (hN : ∀ w, (binOp .neq 45 (cellV r' m' a') (cellV 0 0 a0)).run Tryd.prog w = .ok (.bool true) w)
    {p0 p1 p5 p6 : Value} (a : Act) (w : World) (F : RowFr b off n cc k p0 p1 p5 p6 a) (hS : Below w0.heap.size w0 w)
    (h : ∀ a w, RowFr b off n cc k p0 p1 p5 p6 a → Chain.At a 82 (.bool true) → Below w0.heap.size w0 w → Q .normal a w) :
    wpAnyH Tryd.prog .any ops Q (fun w' => Below w0.heap.size w0 w') 70 (List.replicate 70 false).toArray a w := by
  refine Ord.take R (k := 0) (v := .slice (some ⟨b, off, none⟩) n cc) (bs' := (Ord.upto 1 70)) rfl (by kernel_rfl) hQ trivial hS (fun w _ hS => Chain.ev_move F.s3.ev) (F.lt (by decide)) fun a0 N => ?_
  replace F := F.next N (by decide)
  have f13 := N.got
  clear N a
  refine Ord.take R (k := 1) (v := .int .i64 (k : Int)) (bs' := (Ord.upto 2 70)) rfl (by kernel_rfl) hQ trivial hS (fun w _ hS => Chain.ev_move F.s4.ev) (F.lt (by decide)) fun a1 N => ?_
  replace F := F.next N (by decide)
  replace f13 := N.keep 13 _ (by decide) f13
  have f14 := N.got
  clear N a0
  refine Ord.take R (k := 2) (v := .pointer (some ⟨b, off + k * 3, none⟩)) (bs' := (Ord.upto 3 70)) rfl (by kernel_rfl) hQ trivial hS (fun w _ hS => by have e13 := f13; unfold Chain.At at e13; have e14 := f14; unfold Chain.At at e14; clear F; go_simp) (F.lt (by decide)) fun a2 N => ?_
  replace F := F.next N (by decide)
  clear f13
  clear f14
  have f15 := N.got
  clear N a1
  refine Ord.take R (k := 3) (v := cellV r m a0) (bs' := (Ord.upto 4 70)) rfl (by kernel_rfl) hQ trivial hS (fun w _ hS => by have e15 := f15; unfold Chain.At at e15; have q0 := c0 w hS; have q1 := c1 w hS; have q2 := c2 w hS; clear F; go_simp) (F.lt (by decide)) fun a3 N => ?_
  replace F := F.next N (by decide)
  clear f15
  have f16 := N.got
  clear N a2
  refine Ord.call R (k := 4) (args := #[cellV r m a0]) (bs' := (Ord.upto 5 70)) rfl (by kernel_rfl) trivial (by simp [f16.ev]) (by kernel_rfl) (hC _) (F.lt (by decide)) ?_
  rintro e w ⟨rfl, hb⟩
  replace hS := hS.trans (hb.mono hS.size)
  refine ⟨_, rfl, hS, fun a4 N => ?_⟩
  replace F := F.next N (by decide)
  clear f16
  have f17 := N.got
  clear N a3
  refine Ord.take R (k := 5) (v := .bool false) (bs' := (Ord.upto 6 70)) rfl (by kernel_rfl) hQ trivial hS (fun w _ hS => by have e17 := f17; unfold Chain.At at e17; clear F; go_simp) (F.lt (by decide)) fun a5 N => ?_
  replace F := F.next N (by decide)
  clear f17
  have f18 := N.got
  clear N a4
  refine Ord.take R (k := 6) (v := .bool false) (bs' := (Ord.upto 7 70)) rfl (by kernel_rfl) hQ trivial hS (fun w _ hS => Chain.ev_move f18.ev) (F.lt (by decide)) fun a6 N => ?_
  replace F := F.next N (by decide)
  clear f18
  have f19 := N.got
  clear N a5
  refine Ord.take R (k := 7) (v := .slice (some ⟨b, off, none⟩) n cc) (bs' := (Ord.upto 8 70)) rfl (by kernel_rfl) hQ (R.opened (j := 6) rfl f19) hS (fun w _ hS => Chain.ev_move F.s3.ev) (F.lt (by decide)) fun a7 N => ?_
  replace F := F.next N (by decide)
  replace f19 := N.keep 19 _ (by decide) f19
  have f20 := N.got
  clear N a6
  refine Ord.take R (k := 8) (v := .int .i64 (k : Int)) (bs' := (Ord.upto 9 70)) rfl (by kernel_rfl) hQ (R.opened (j := 6) rfl f19) hS (fun w _ hS => Chain.ev_move F.s4.ev) (F.lt (by decide)) fun a8 N => ?_
  replace F := F.next N (by decide)
  replace f19 := N.keep 19 _ (by decide) f19
  replace f20 := N.keep 20 _ (by decide) f20
  have f21 := N.got
  clear N a7
  refine Ord.take R (k := 9) (v := .pointer (some ⟨b, off + k * 3, none⟩)) (bs' := (Ord.upto 10 70)) rfl (by kernel_rfl) hQ (R.opened (j := 6) rfl f19) hS (fun w _ hS => by have e20 := f20; unfold Chain.At at e20; have e21 := f21; unfold Chain.At at e21; clear F; go_simp) (F.lt (by decide)) fun a9 N => ?_
  replace F := F.next N (by decide)
  replace f19 := N.keep 19 _ (by decide) f19
  clear f20
  clear f21
  have f22 := N.got
  clear N a8
  refine Ord.take R (k := 10) (v := .pointer (some ⟨b, off + k * 3 + 1, none⟩)) (bs' := (Ord.upto 11 70)) rfl (by kernel_rfl) hQ (R.opened (j := 6) rfl f19) hS (fun w _ hS => by have e22 := f22; unfold Chain.At at e22; clear F; go_simp) (F.lt (by decide)) fun a10 N => ?_
  replace F := F.next N (by decide)
  replace f19 := N.keep 19 _ (by decide) f19
  clear f22
  have f23 := N.got
  clear N a9
  refine Ord.take R (k := 11) (v := .int .i64 m) (bs' := (Ord.upto 12 70)) rfl (by kernel_rfl) hQ (R.opened (j := 6) rfl f19) hS (fun w _ hS => by have e23 := f23; unfold Chain.At at e23; have q0 := c1 w hS; clear F; go_simp) (F.lt (by decide)) fun a11 N => ?_
  replace F := F.next N (by decide)
  replace f19 := N.keep 19 _ (by decide) f19
  clear f23
  have f24 := N.got
  clear N a10
  refine Ord.take R (k := 12) (v := .bool true) (bs' := (Ord.upto 13 70)) rfl (by kernel_rfl) hQ (R.opened (j := 6) rfl f19) hS (fun w _ hS => by have e24 := f24; unfold Chain.At at e24; have q0 := hm; clear F; go_simp) (F.lt (by decide)) fun a12 N => ?_
  replace F := F.next N (by decide)
  replace f19 := N.keep 19 _ (by decide) f19
  clear f24
  have f25 := N.got
  clear N a11
  refine Ord.take R (k := 13) (v := .bool true) (bs' := (Ord.upto 14 70)) rfl (by kernel_rfl) hQ (R.opened (j := 6) rfl f19) hS (fun w _ hS => Chain.ev_move f25.ev) (F.lt (by decide)) fun a13 N => ?_
  replace F := F.next N (by decide)
  replace f19 := N.keep 19 _ (by decide) f19
  clear f25
  have f26 := N.got
  clear N a12
  refine Ord.take R (k := 14) (v := .int .i64 (k : Int)) (bs' := (Ord.upto 15 70)) rfl (by kernel_rfl) hQ (R.opened (j := 13) rfl f26) hS (fun w _ hS => Chain.ev_move F.s4.ev) (F.lt (by decide)) fun a14 N => ?_
  replace F := F.next N (by decide)
  replace f19 := N.keep 19 _ (by decide) f19
  replace f26 := N.keep 26 _ (by decide) f26
  have f27 := N.got
  clear N a13
  refine Ord.take R (k := 15) (v := .int .i64 ((k : Int) + 1)) (bs' := (Ord.upto 16 70)) rfl (by kernel_rfl) hQ (R.opened (j := 13) rfl f26) hS (fun w _ hS => by have e27 := f27; unfold Chain.At at e27; have q0 := hw; clear F; go_simp) (F.lt (by decide)) fun a15 N => ?_
  replace F := F.next N (by decide)
  replace f19 := N.keep 19 _ (by decide) f19
  replace f26 := N.keep 26 _ (by decide) f26
  clear f27
  have f28 := N.got
  clear N a14
  refine Ord.take R (k := 16) (v := .slice (some ⟨b, off, none⟩) n cc) (bs' := (Ord.upto 17 70)) rfl (by kernel_rfl) hQ (R.opened (j := 13) rfl f26) hS (fun w _ hS => Chain.ev_move F.s3.ev) (F.lt (by decide)) fun a16 N => ?_
  replace F := F.next N (by decide)
  replace f19 := N.keep 19 _ (by decide) f19
  replace f26 := N.keep 26 _ (by decide) f26
  replace f28 := N.keep 28 _ (by decide) f28
  have f29 := N.got
  clear N a15
  refine Ord.take R (k := 17) (v := .int .i64 (n : Int)) (bs' := (Ord.upto 18 70)) rfl (by kernel_rfl) hQ (R.opened (j := 13) rfl f26) hS (fun w _ hS => Chain.ev_len Tryd.underlying29 f29.ev) (F.lt (by decide)) fun a17 N => ?_
  replace F := F.next N (by decide)
  replace f19 := N.keep 19 _ (by decide) f19
  replace f26 := N.keep 26 _ (by decide) f26
  replace f28 := N.keep 28 _ (by decide) f28
  clear f29
  have f30 := N.got
  clear N a16
  refine Ord.take R (k := 18) (v := .bool false) (bs' := (Ord.upto 19 70)) rfl (by kernel_rfl) hQ (R.opened (j := 13) rfl f26) hS (fun w _ hS => by have e28 := f28; unfold Chain.At at e28; have e30 := f30; unfold Chain.At at e30; have q0 := hx; clear F; go_simp) (F.lt (by decide)) fun a18 N => ?_
  replace F := F.next N (by decide)
  replace f19 := N.keep 19 _ (by decide) f19
  replace f26 := N.keep 26 _ (by decide) f26
  clear f28
  clear f30
  have f31 := N.got
  clear N a17
  refine Ord.take R (k := 19) (v := .bool false) (bs' := (Ord.upto 20 70)) rfl (by kernel_rfl) hQ (R.opened (j := 13) rfl f26) hS (fun w _ hS => Chain.ev_move f31.ev) (F.lt (by decide)) fun a19 N => ?_
  replace F := F.next N (by decide)
  replace f19 := N.keep 19 _ (by decide) f19
  replace f26 := N.keep 26 _ (by decide) f26
  clear f31
  have f32 := N.got
  clear N a18
  refine Ord.take R (k := 20) (v := .slice (some ⟨b, off, none⟩) n cc) (bs' := (Ord.upto 21 70)) rfl (by kernel_rfl) hQ (R.opened (j := 19) rfl f32) hS (fun w _ hS => Chain.ev_move F.s3.ev) (F.lt (by decide)) fun a20 N => ?_
  replace F := F.next N (by decide)
  replace f19 := N.keep 19 _ (by decide) f19
  replace f26 := N.keep 26 _ (by decide) f26
  replace f32 := N.keep 32 _ (by decide) f32
  have f33 := N.got
  clear N a19
  refine Ord.take R (k := 21) (v := .int .i64 (k : Int)) (bs' := (Ord.upto 22 70)) rfl (by kernel_rfl) hQ (R.opened (j := 19) rfl f32) hS (fun w _ hS => Chain.ev_move F.s4.ev) (F.lt (by decide)) fun a21 N => ?_
  replace F := F.next N (by decide)
  replace f19 := N.keep 19 _ (by decide) f19
  replace f26 := N.keep 26 _ (by decide) f26
  replace f32 := N.keep 32 _ (by decide) f32
  replace f33 := N.keep 33 _ (by decide) f33
  have f34 := N.got
  clear N a20
  refine Ord.take R (k := 22) (v := .int .i64 ((k : Int) + 1)) (bs' := (Ord.upto 23 70)) rfl (by kernel_rfl) hQ (R.opened (j := 19) rfl f32) hS (fun w _ hS => by have e34 := f34; unfold Chain.At at e34; have q0 := hw; clear F; go_simp) (F.lt (by decide)) fun a22 N => ?_
  replace F := F.next N (by decide)
  replace f19 := N.keep 19 _ (by decide) f19
  replace f26 := N.keep 26 _ (by decide) f26
  replace f32 := N.keep 32 _ (by decide) f32
  replace f33 := N.keep 33 _ (by decide) f33
  clear f34
  have f35 := N.got
  clear N a21
  refine Ord.take R (k := 23) (v := .pointer (some ⟨b, off + (k + 1) * 3, none⟩)) (bs' := (Ord.upto 24 70)) rfl (by kernel_rfl) hQ (R.opened (j := 19) rfl f32) hS (fun w _ hS => by have e33 := f33; unfold Chain.At at e33; have e35 := f35; unfold Chain.At at e35; have q0 := ht; have q1 := hx0; have q2 := hx1; clear F; go_simp) (F.lt (by decide)) fun a23 N => ?_
  replace F := F.next N (by decide)
  replace f19 := N.keep 19 _ (by decide) f19
  replace f26 := N.keep 26 _ (by decide) f26
  replace f32 := N.keep 32 _ (by decide) f32
  clear f33
  clear f35
  have f36 := N.got
  clear N a22
  refine Ord.take R (k := 24) (v := cellV r' m' a') (bs' := (Ord.upto 25 70)) rfl (by kernel_rfl) hQ (R.opened (j := 19) rfl f32) hS (fun w _ hS => by have e36 := f36; unfold Chain.At at e36; have q0 := d0 w hS; have q1 := d1 w hS; have q2 := d2 w hS; clear F; go_simp) (F.lt (by decide)) fun a24 N => ?_
  replace F := F.next N (by decide)
  replace f19 := N.keep 19 _ (by decide) f19
  replace f26 := N.keep 26 _ (by decide) f26
  replace f32 := N.keep 32 _ (by decide) f32
  clear f36
  have f37 := N.got
  clear N a23
  refine Ord.take R (k := 25) (v := .slice (some ⟨b, off, none⟩) n cc) (bs' := (Ord.upto 26 70)) rfl (by kernel_rfl) hQ (R.opened (j := 19) rfl f32) hS (fun w _ hS => Chain.ev_move F.s3.ev) (F.lt (by decide)) fun a25 N => ?_
  replace F := F.next N (by decide)
  replace f19 := N.keep 19 _ (by decide) f19
  replace f26 := N.keep 26 _ (by decide) f26
  replace f32 := N.keep 32 _ (by decide) f32
  replace f37 := N.keep 37 _ (by decide) f37
  have f38 := N.got
  clear N a24
  refine Ord.take R (k := 26) (v := .int .i64 (k : Int)) (bs' := (Ord.upto 27 70)) rfl (by kernel_rfl) hQ (R.opened (j := 19) rfl f32) hS (fun w _ hS => Chain.ev_move F.s4.ev) (F.lt (by decide)) fun a26 N => ?_
  replace F := F.next N (by decide)
  replace f19 := N.keep 19 _ (by decide) f19
  replace f26 := N.keep 26 _ (by decide) f26
  replace f32 := N.keep 32 _ (by decide) f32
  replace f37 := N.keep 37 _ (by decide) f37
  replace f38 := N.keep 38 _ (by decide) f38
  have f39 := N.got
  clear N a25
  refine Ord.take R (k := 27) (v := .pointer (some ⟨b, off + k * 3, none⟩)) (bs' := (Ord.upto 28 70)) rfl (by kernel_rfl) hQ (R.opened (j := 19) rfl f32) hS (fun w _ hS => by have e38 := f38; unfold Chain.At at e38; have e39 := f39; unfold Chain.At at e39; clear F; go_simp) (F.lt (by decide)) fun a27 N => ?_
  replace F := F.next N (by decide)
  replace f19 := N.keep 19 _ (by decide) f19
  replace f26 := N.keep 26 _ (by decide) f26
  replace f32 := N.keep 32 _ (by decide) f32
  replace f37 := N.keep 37 _ (by decide) f37
  clear f38
  clear f39
  have f40 := N.got
  clear N a26
  refine Ord.take R (k := 28) (v := .pointer (some ⟨b, off + k * 3 + 2, none⟩)) (bs' := (Ord.upto 29 70)) rfl (by kernel_rfl) hQ (R.opened (j := 19) rfl f32) hS (fun w _ hS => by have e40 := f40; unfold Chain.At at e40; clear F; go_simp) (F.lt (by decide)) fun a28 N => ?_
  replace F := F.next N (by decide)
  replace f19 := N.keep 19 _ (by decide) f19
  replace f26 := N.keep 26 _ (by decide) f26
  replace f32 := N.keep 32 _ (by decide) f32
  replace f37 := N.keep 37 _ (by decide) f37
  clear f40
  have f41 := N.got
  clear N a27
  refine Ord.take R (k := 29) (v := .int .i64 a0) (bs' := (Ord.upto 30 70)) rfl (by kernel_rfl) hQ (R.opened (j := 19) rfl f32) hS (fun w _ hS => by have e41 := f41; unfold Chain.At at e41; have q0 := c2 w hS; clear F; go_simp) (F.lt (by decide)) fun a29 N => ?_
  replace F := F.next N (by decide)
  replace f19 := N.keep 19 _ (by decide) f19
  replace f26 := N.keep 26 _ (by decide) f26
  replace f32 := N.keep 32 _ (by decide) f32
  replace f37 := N.keep 37 _ (by decide) f37
  clear f41
  have f42 := N.got
  clear N a28
  refine Ord.take R (k := 30) (v := cellV 0 0 a0) (bs' := (Ord.upto 31 70)) rfl (by kernel_rfl) hQ (R.opened (j := 19) rfl f32) hS (fun w _ hS => by have e42 := f42; unfold Chain.At at e42; clear F; go_simp) (F.lt (by decide)) fun a30 N => ?_
  replace F := F.next N (by decide)
  replace f19 := N.keep 19 _ (by decide) f19
  replace f26 := N.keep 26 _ (by decide) f26
  replace f32 := N.keep 32 _ (by decide) f32
  replace f37 := N.keep 37 _ (by decide) f37
  clear f42
  have f43 := N.got
  clear N a29
  refine Ord.take R (k := 31) (v := .bool true) (bs' := (Ord.upto 32 70)) rfl (by kernel_rfl) hQ (R.opened (j := 19) rfl f32) hS (fun w _ hS => by have e37 := f37; unfold Chain.At at e37; have e43 := f43; unfold Chain.At at e43; have q0 := hN w; clear F; go_simp) (F.lt (by decide)) fun a31 N => ?_
  replace F := F.next N (by decide)
  replace f19 := N.keep 19 _ (by decide) f19
  replace f26 := N.keep 26 _ (by decide) f26
  replace f32 := N.keep 32 _ (by decide) f32
  clear f37
  clear f43
  have f44 := N.got
  clear N a30
  refine Ord.take R (k := 32) (v := .bool true) (bs' := (Ord.upto 33 70)) rfl (by kernel_rfl) hQ (R.opened (j := 13) rfl f26) hS (fun w _ hS => Ord.ev_pick_no f32.ev f44.ev) (F.lt (by decide)) fun a32 N => ?_
  replace F := F.next N (by decide)
  replace f19 := N.keep 19 _ (by decide) f19
  replace f26 := N.keep 26 _ (by decide) f26
  clear f32
  clear f44
  have f45 := N.got
  clear N a31
  refine Ord.take R (k := 33) (v := .bool true) (bs' := (Ord.upto 34 70)) rfl (by kernel_rfl) hQ (R.opened (j := 6) rfl f19) hS (fun w _ hS => Ord.ev_pick_yes f26.ev f45.ev) (F.lt (by decide)) fun a33 N => ?_
  replace F := F.next N (by decide)
  replace f19 := N.keep 19 _ (by decide) f19
  clear f26
  clear f45
  have f46 := N.got
  clear N a32
  refine Ord.take R (k := 34) (v := .bool true) (bs' := (Ord.upto 35 70)) rfl (by kernel_rfl) hQ trivial hS (fun w _ hS => Ord.ev_pick_no f19.ev f46.ev) (F.lt (by decide)) fun a34 N => ?_
  replace F := F.next N (by decide)
  clear f19
  clear f46
  have f47 := N.got
  clear N a33
  refine Ord.take R (k := 35) (v := .bool true) (bs' := (Ord.upto 36 70)) rfl (by kernel_rfl) hQ trivial hS (fun w _ hS => Chain.ev_move f47.ev) (F.lt (by decide)) fun a35 N => ?_
  replace F := F.next N (by decide)
  clear f47
  have f48 := N.got
  clear N a34
  refine Ord.skip R (k := 36) (bs' := (Ord.upto 37 70)) rfl (by kernel_rfl) hQ (R.shut (j := 35) rfl f48 (Ord.ne_not rfl)) hS (F.lt (by decide)) fun a36 N => ?_
  replace F := F.next N (by decide)
  replace f48 := N.keep 48 _ (by decide) f48
  have f49 := N.got
  clear N a35
  refine Ord.skip R (k := 37) (bs' := (Ord.upto 38 70)) rfl (by kernel_rfl) hQ (R.shut (j := 35) rfl f48 (Ord.ne_not rfl)) hS (F.lt (by decide)) fun a37 N => ?_
  replace F := F.next N (by decide)
  replace f48 := N.keep 48 _ (by decide) f48
  replace f49 := N.keep 49 _ (by decide) f49
  have f50 := N.got
  clear N a36
  refine Ord.skip R (k := 38) (bs' := (Ord.upto 39 70)) rfl (by kernel_rfl) hQ (R.shut (j := 35) rfl f48 (Ord.ne_not rfl)) hS (F.lt (by decide)) fun a38 N => ?_
  replace F := F.next N (by decide)
  replace f48 := N.keep 48 _ (by decide) f48
  clear f49
  clear f50
  have f51 := N.got
  clear N a37
  refine Ord.skip R (k := 39) (bs' := (Ord.upto 40 70)) rfl (by kernel_rfl) hQ (R.shut (j := 35) rfl f48 (Ord.ne_not rfl)) hS (F.lt (by decide)) fun a39 N => ?_
  replace F := F.next N (by decide)
  replace f48 := N.keep 48 _ (by decide) f48
  clear f51
  have f52 := N.got
  clear N a38
  refine Ord.skip R (k := 40) (bs' := (Ord.upto 41 70)) rfl (by kernel_rfl) hQ (R.shut (j := 35) rfl f48 (Ord.ne_not rfl)) hS (F.lt (by decide)) fun a40 N => ?_
  replace F := F.next N (by decide)
  replace f48 := N.keep 48 _ (by decide) f48
  clear f52
  have f53 := N.got
  clear N a39
  refine Ord.skip R (k := 41) (bs' := (Ord.upto 42 70)) rfl (by kernel_rfl) hQ (R.shut (j := 35) rfl f48 (Ord.ne_not rfl)) hS (F.lt (by decide)) fun a41 N => ?_
  replace F := F.next N (by decide)
  replace f48 := N.keep 48 _ (by decide) f48
  clear f53
  have f54 := N.got
  clear N a40
  refine Ord.skip R (k := 42) (bs' := (Ord.upto 43 70)) rfl (by kernel_rfl) hQ (R.shut (j := 35) rfl f48 (Ord.ne_not rfl)) hS (F.lt (by decide)) fun a42 N => ?_
  replace F := F.next N (by decide)
  replace f48 := N.keep 48 _ (by decide) f48
  clear f54
  have f55 := N.got
  clear N a41
  refine Ord.skip R (k := 43) (bs' := (Ord.upto 44 70)) rfl (by kernel_rfl) hQ (R.shut (j := 42) rfl f55 (Ord.ne_undef _)) hS (F.lt (by decide)) fun a43 N => ?_
  replace F := F.next N (by decide)
  replace f48 := N.keep 48 _ (by decide) f48
  replace f55 := N.keep 55 _ (by decide) f55
  have f56 := N.got
  clear N a42
  refine Ord.skip R (k := 44) (bs' := (Ord.upto 45 70)) rfl (by kernel_rfl) hQ (R.shut (j := 42) rfl f55 (Ord.ne_undef _)) hS (F.lt (by decide)) fun a44 N => ?_
  replace F := F.next N (by decide)
  replace f48 := N.keep 48 _ (by decide) f48
  replace f55 := N.keep 55 _ (by decide) f55
  clear f56
  have f57 := N.got
  clear N a43
  refine Ord.skip R (k := 45) (bs' := (Ord.upto 46 70)) rfl (by kernel_rfl) hQ (R.shut (j := 42) rfl f55 (Ord.ne_undef _)) hS (F.lt (by decide)) fun a45 N => ?_
  replace F := F.next N (by decide)
  replace f48 := N.keep 48 _ (by decide) f48
  replace f55 := N.keep 55 _ (by decide) f55
  clear f57
  have f58 := N.got
  clear N a44
  refine Ord.skip R (k := 46) (bs' := (Ord.upto 47 70)) rfl (by kernel_rfl) hQ (R.shut (j := 45) rfl f58 (Ord.ne_undef _)) hS (F.lt (by decide)) fun a46 N => ?_
  replace F := F.next N (by decide)
  replace f48 := N.keep 48 _ (by decide) f48
  replace f55 := N.keep 55 _ (by decide) f55
  replace f58 := N.keep 58 _ (by decide) f58
  have f59 := N.got
  clear N a45
  refine Ord.skip R (k := 47) (bs' := (Ord.upto 48 70)) rfl (by kernel_rfl) hQ (R.shut (j := 45) rfl f58 (Ord.ne_undef _)) hS (F.lt (by decide)) fun a47 N => ?_
  replace F := F.next N (by decide)
  replace f48 := N.keep 48 _ (by decide) f48
  replace f55 := N.keep 55 _ (by decide) f55
  replace f58 := N.keep 58 _ (by decide) f58
  replace f59 := N.keep 59 _ (by decide) f59
  have f60 := N.got
  clear N a46
  refine Ord.skip R (k := 48) (bs' := (Ord.upto 49 70)) rfl (by kernel_rfl) hQ (R.shut (j := 45) rfl f58 (Ord.ne_undef _)) hS (F.lt (by decide)) fun a48 N => ?_
  replace F := F.next N (by decide)
  replace f48 := N.keep 48 _ (by decide) f48
  replace f55 := N.keep 55 _ (by decide) f55
  replace f58 := N.keep 58 _ (by decide) f58
  replace f59 := N.keep 59 _ (by decide) f59
  clear f60
  have f61 := N.got
  clear N a47
  refine Ord.skip R (k := 49) (bs' := (Ord.upto 50 70)) rfl (by kernel_rfl) hQ (R.shut (j := 45) rfl f58 (Ord.ne_undef _)) hS (F.lt (by decide)) fun a49 N => ?_
  replace F := F.next N (by decide)
  replace f48 := N.keep 48 _ (by decide) f48
  replace f55 := N.keep 55 _ (by decide) f55
  replace f58 := N.keep 58 _ (by decide) f58
  clear f59
  clear f61
  have f62 := N.got
  clear N a48
  refine Ord.skip R (k := 50) (bs' := (Ord.upto 51 70)) rfl (by kernel_rfl) hQ (R.shut (j := 45) rfl f58 (Ord.ne_undef _)) hS (F.lt (by decide)) fun a50 N => ?_
  replace F := F.next N (by decide)
  replace f48 := N.keep 48 _ (by decide) f48
  replace f55 := N.keep 55 _ (by decide) f55
  replace f58 := N.keep 58 _ (by decide) f58
  clear f62
  have f63 := N.got
  clear N a49
  refine Ord.skip R (k := 51) (bs' := (Ord.upto 52 70)) rfl (by kernel_rfl) hQ (R.shut (j := 45) rfl f58 (Ord.ne_undef _)) hS (F.lt (by decide)) fun a51 N => ?_
  replace F := F.next N (by decide)
  replace f48 := N.keep 48 _ (by decide) f48
  replace f55 := N.keep 55 _ (by decide) f55
  replace f58 := N.keep 58 _ (by decide) f58
  clear f63
  have f64 := N.got
  clear N a50
  refine Ord.skip R (k := 52) (bs' := (Ord.upto 53 70)) rfl (by kernel_rfl) hQ (R.shut (j := 45) rfl f58 (Ord.ne_undef _)) hS (F.lt (by decide)) fun a52 N => ?_
  replace F := F.next N (by decide)
  replace f48 := N.keep 48 _ (by decide) f48
  replace f55 := N.keep 55 _ (by decide) f55
  replace f58 := N.keep 58 _ (by decide) f58
  clear f64
  have f65 := N.got
  clear N a51
  refine Ord.skip R (k := 53) (bs' := (Ord.upto 54 70)) rfl (by kernel_rfl) hQ (R.shut (j := 42) rfl f55 (Ord.ne_undef _)) hS (F.lt (by decide)) fun a53 N => ?_
  replace F := F.next N (by decide)
  replace f48 := N.keep 48 _ (by decide) f48
  replace f55 := N.keep 55 _ (by decide) f55
  clear f58
  clear f65
  have f66 := N.got
  clear N a52
  refine Ord.skip R (k := 54) (bs' := (Ord.upto 55 70)) rfl (by kernel_rfl) hQ (R.shut (j := 42) rfl f55 (Ord.ne_undef _)) hS (F.lt (by decide)) fun a54 N => ?_
  replace F := F.next N (by decide)
  replace f48 := N.keep 48 _ (by decide) f48
  replace f55 := N.keep 55 _ (by decide) f55
  clear f66
  have f67 := N.got
  clear N a53
  refine Ord.skip R (k := 55) (bs' := (Ord.upto 56 70)) rfl (by kernel_rfl) hQ (R.shut (j := 54) rfl f67 (Ord.ne_undef _)) hS (F.lt (by decide)) fun a55 N => ?_
  replace F := F.next N (by decide)
  replace f48 := N.keep 48 _ (by decide) f48
  replace f55 := N.keep 55 _ (by decide) f55
  replace f67 := N.keep 67 _ (by decide) f67
  have f68 := N.got
  clear N a54
  refine Ord.skip R (k := 56) (bs' := (Ord.upto 57 70)) rfl (by kernel_rfl) hQ (R.shut (j := 54) rfl f67 (Ord.ne_undef _)) hS (F.lt (by decide)) fun a56 N => ?_
  replace F := F.next N (by decide)
  replace f48 := N.keep 48 _ (by decide) f48
  replace f55 := N.keep 55 _ (by decide) f55
  replace f67 := N.keep 67 _ (by decide) f67
  replace f68 := N.keep 68 _ (by decide) f68
  have f69 := N.got
  clear N a55
  refine Ord.skip R (k := 57) (bs' := (Ord.upto 58 70)) rfl (by kernel_rfl) hQ (R.shut (j := 54) rfl f67 (Ord.ne_undef _)) hS (F.lt (by decide)) fun a57 N => ?_
  replace F := F.next N (by decide)
  replace f48 := N.keep 48 _ (by decide) f48
  replace f55 := N.keep 55 _ (by decide) f55
  replace f67 := N.keep 67 _ (by decide) f67
  replace f68 := N.keep 68 _ (by decide) f68
  clear f69
  have f70 := N.got
  clear N a56
  refine Ord.skip R (k := 58) (bs' := (Ord.upto 59 70)) rfl (by kernel_rfl) hQ (R.shut (j := 54) rfl f67 (Ord.ne_undef _)) hS (F.lt (by decide)) fun a58 N => ?_
  replace F := F.next N (by decide)
  replace f48 := N.keep 48 _ (by decide) f48
  replace f55 := N.keep 55 _ (by decide) f55
  replace f67 := N.keep 67 _ (by decide) f67
  clear f68
  clear f70
  have f71 := N.got
  clear N a57
  refine Ord.skip R (k := 59) (bs' := (Ord.upto 60 70)) rfl (by kernel_rfl) hQ (R.shut (j := 54) rfl f67 (Ord.ne_undef _)) hS (F.lt (by decide)) fun a59 N => ?_
  replace F := F.next N (by decide)
  replace f48 := N.keep 48 _ (by decide) f48
  replace f55 := N.keep 55 _ (by decide) f55
  replace f67 := N.keep 67 _ (by decide) f67
  clear f71
  have f72 := N.got
  clear N a58
  refine Ord.skip R (k := 60) (bs' := (Ord.upto 61 70)) rfl (by kernel_rfl) hQ (R.shut (j := 54) rfl f67 (Ord.ne_undef _)) hS (F.lt (by decide)) fun a60 N => ?_
  replace F := F.next N (by decide)
  replace f48 := N.keep 48 _ (by decide) f48
  replace f55 := N.keep 55 _ (by decide) f55
  replace f67 := N.keep 67 _ (by decide) f67
  clear f72
  have f73 := N.got
  clear N a59
  refine Ord.skip R (k := 61) (bs' := (Ord.upto 62 70)) rfl (by kernel_rfl) hQ (R.shut (j := 54) rfl f67 (Ord.ne_undef _)) hS (F.lt (by decide)) fun a61 N => ?_
  replace F := F.next N (by decide)
  replace f48 := N.keep 48 _ (by decide) f48
  replace f55 := N.keep 55 _ (by decide) f55
  replace f67 := N.keep 67 _ (by decide) f67
  replace f73 := N.keep 73 _ (by decide) f73
  have f74 := N.got
  clear N a60
  refine Ord.skip R (k := 62) (bs' := (Ord.upto 63 70)) rfl (by kernel_rfl) hQ (R.shut (j := 54) rfl f67 (Ord.ne_undef _)) hS (F.lt (by decide)) fun a62 N => ?_
  replace F := F.next N (by decide)
  replace f48 := N.keep 48 _ (by decide) f48
  replace f55 := N.keep 55 _ (by decide) f55
  replace f67 := N.keep 67 _ (by decide) f67
  replace f73 := N.keep 73 _ (by decide) f73
  replace f74 := N.keep 74 _ (by decide) f74
  have f75 := N.got
  clear N a61
  refine Ord.skip R (k := 63) (bs' := (Ord.upto 64 70)) rfl (by kernel_rfl) hQ (R.shut (j := 54) rfl f67 (Ord.ne_undef _)) hS (F.lt (by decide)) fun a63 N => ?_
  replace F := F.next N (by decide)
  replace f48 := N.keep 48 _ (by decide) f48
  replace f55 := N.keep 55 _ (by decide) f55
  replace f67 := N.keep 67 _ (by decide) f67
  replace f73 := N.keep 73 _ (by decide) f73
  clear f74
  clear f75
  have f76 := N.got
  clear N a62
  refine Ord.skip R (k := 64) (bs' := (Ord.upto 65 70)) rfl (by kernel_rfl) hQ (R.shut (j := 54) rfl f67 (Ord.ne_undef _)) hS (F.lt (by decide)) fun a64 N => ?_
  replace F := F.next N (by decide)
  replace f48 := N.keep 48 _ (by decide) f48
  replace f55 := N.keep 55 _ (by decide) f55
  replace f67 := N.keep 67 _ (by decide) f67
  replace f73 := N.keep 73 _ (by decide) f73
  clear f76
  have f77 := N.got
  clear N a63
  refine Ord.skip R (k := 65) (bs' := (Ord.upto 66 70)) rfl (by kernel_rfl) hQ (R.shut (j := 54) rfl f67 (Ord.ne_undef _)) hS (F.lt (by decide)) fun a65 N => ?_
  replace F := F.next N (by decide)
  replace f48 := N.keep 48 _ (by decide) f48
  replace f55 := N.keep 55 _ (by decide) f55
  replace f67 := N.keep 67 _ (by decide) f67
  replace f73 := N.keep 73 _ (by decide) f73
  clear f77
  have f78 := N.got
  clear N a64
  refine Ord.skip R (k := 66) (bs' := (Ord.upto 67 70)) rfl (by kernel_rfl) hQ (R.shut (j := 54) rfl f67 (Ord.ne_undef _)) hS (F.lt (by decide)) fun a66 N => ?_
  replace F := F.next N (by decide)
  replace f48 := N.keep 48 _ (by decide) f48
  replace f55 := N.keep 55 _ (by decide) f55
  replace f67 := N.keep 67 _ (by decide) f67
  clear f73
  clear f78
  have f79 := N.got
  clear N a65
  refine Ord.skip R (k := 67) (bs' := (Ord.upto 68 70)) rfl (by kernel_rfl) hQ (R.shut (j := 42) rfl f55 (Ord.ne_undef _)) hS (F.lt (by decide)) fun a67 N => ?_
  replace F := F.next N (by decide)
  replace f48 := N.keep 48 _ (by decide) f48
  replace f55 := N.keep 55 _ (by decide) f55
  clear f67
  clear f79
  have f80 := N.got
  clear N a66
  refine Ord.skip R (k := 68) (bs' := (Ord.upto 69 70)) rfl (by kernel_rfl) hQ (R.shut (j := 35) rfl f48 (Ord.ne_not rfl)) hS (F.lt (by decide)) fun a68 N => ?_
  replace F := F.next N (by decide)
  replace f48 := N.keep 48 _ (by decide) f48
  clear f55
  clear f80
  have f81 := N.got
  clear N a67
  refine Ord.take R (k := 69) (v := Go.Value.bool true) (bs' := (Ord.upto 70 70)) rfl (by kernel_rfl) hQ trivial hS (fun w _ hS => Ord.ev_pick_yes f48.ev rfl) (F.lt (by decide)) fun a69 N => ?_
  replace F := F.next N (by decide)
  clear f48
  clear f81
  have f82 := N.got
  clear N a68
  exact Ord.finish R (by kernel_rfl) (h _ _ F f82 hS)

set_option maxRecDepth 100000 in
theorem refRow_two {ops : Array Oper} {Q : Exit → Act → World → Prop} (R : Ord.Reg ops refRowL) (hQ : ∀ c a w d v, Q (.panic c) (Act.put a (some d) v) w → Q (.panic c) a w) {w0 : World} {b off n cc k : Nat} {r m a0 : Int}
    (_hk0 : (0 : Int) ≤ (k : Int)) (_hkn : (k : Int) < (n : Int)) (c0 : ∀ w, Below w0.heap.size w0 w → w.cell? ⟨b, off + k * 3, none⟩ = some (.int .i32 r)) (c1 : ∀ w, Below w0.heap.size w0 w → w.cell? ⟨b, off + k * 3 + 1, none⟩ = some (.int .i64 m)) (c2 : ∀ w, Below w0.heap.size w0 w → w.cell? ⟨b, off + k * 3 + 2, none⟩ = some (.int .i64 a0)) (hC : ∀ w, Calls Tryd.prog 55 #[cellV r m a0] w fun e w' => e = .returned (.bool true) ∧ Below w.heap.size w w') (hw : IntKind.i64.wrap ((k : Int) + 1) = (k : Int) + 1) {r' m' a' : Int} (hm : (m == 2) = true) (hx : ¬ (n : Int) ≤ (k : Int) + 1) (hx0 : (0 : Int) ≤ (k : Int) + 1) (hx1 : (k : Int) + 1 < (n : Int)) (ht : ((k : Int) + 1).toNat = k + 1) (d0 : ∀ w, Below w0.heap.size w0 w → w.cell? ⟨b, off + (k + 1) * 3, none⟩ = some (.int .i32 r')) (d1 : ∀ w, Below w0.heap.size w0 w → w.cell? ⟨b, off + (k + 1) * 3 + 1, none⟩ = some (.int .i64 m')) (d2 : ∀ w, Below w0.heap.size w0 w → w.cell? ⟨b, off + (k + 1) * 3 + 2, none⟩ = some (.int .i64 a')) (hN : ∀ w, (binOp .neq 45 (cellV r' m' a') (cellV 0 0 a0)).run Tryd.prog w = .ok (.bool false) w) (hm0 : (m == 0) = false)
    {p0 p1 p5 p6 : Value} (a : Act) (w : World) (F : RowFr b off n cc k p0 p1 p5 p6 a) (hS : Below w0.heap.size w0 w)
    (h : ∀ a w, RowFr b off n cc k p0 p1 p5 p6 a → Chain.At a 82 (.bool false) → Below w0.heap.size w0 w → Q .normal a w) :
    wpAnyH Tryd.prog .any ops Q (fun w' => Below w0.heap.size w0 w') 70 (List.replicate 70 false).toArray a w := by
  refine Ord.take R (k := 0) (v := .slice (some ⟨b, off, none⟩) n cc) (bs' := (Ord.upto 1 70)) rfl (by kernel_rfl) hQ trivial hS (fun w _ hS => Chain.ev_move F.s3.ev) (F.lt (by decide)) fun a0 N => ?_
  replace F := F.next N (by decide)
  have f13 := N.got
  clear N a
  refine Ord.take R (k := 1) (v := .int .i64 (k : Int)) (bs' := (Ord.upto 2 70)) rfl (by kernel_rfl) hQ trivial hS (fun w _ hS => Chain.ev_move F.s4.ev) (F.lt (by decide)) fun a1 N => ?_
  replace F := F.next N (by decide)
  replace f13 := N.keep 13 _ (by decide) f13
  have f14 := N.got
  clear N a0
  refine Ord.take R (k := 2) (v := .pointer (some ⟨b, off + k * 3, none⟩)) (bs' := (Ord.upto 3 70)) rfl (by kernel_rfl) hQ trivial hS (fun w _ hS => by have e13 := f13; unfold Chain.At at e13; have e14 := f14; unfold Chain.At at e14; clear F; go_simp) (F.lt (by decide)) fun a2 N => ?_
  replace F := F.next N (by decide)
  clear f13
  clear f14
  have f15 := N.got
  clear N a1
  refine Ord.take R (k := 3) (v := cellV r m a0) (bs' := (Ord.upto 4 70)) rfl (by kernel_rfl) hQ trivial hS (fun w _ hS => by have e15 := f15; unfold Chain.At at e15; have q0 := c0 w hS; have q1 := c1 w hS; have q2 := c2 w hS; clear F; go_simp) (F.lt (by decide)) fun a3 N => ?_
  replace F := F.next N (by decide)
  clear f15
  have f16 := N.got
  clear N a2
  refine Ord.call R (k := 4) (args := #[cellV r m a0]) (bs' := (Ord.upto 5 70)) rfl (by kernel_rfl) trivial (by simp [f16.ev]) (by kernel_rfl) (hC _) (F.lt (by decide)) ?_
  rintro e w ⟨rfl, hb⟩
  replace hS := hS.trans (hb.mono hS.size)
  refine ⟨_, rfl, hS, fun a4 N => ?_⟩
  replace F := F.next N (by decide)
  clear f16
  have f17 := N.got
  clear N a3
  refine Ord.take R (k := 5) (v := .bool false) (bs' := (Ord.upto 6 70)) rfl (by kernel_rfl) hQ trivial hS (fun w _ hS => by have e17 := f17; unfold Chain.At at e17; clear F; go_simp) (F.lt (by decide)) fun a5 N => ?_
  replace F := F.next N (by decide)
  clear f17
  have f18 := N.got
  clear N a4
  refine Ord.take R (k := 6) (v := .bool false) (bs' := (Ord.upto 7 70)) rfl (by kernel_rfl) hQ trivial hS (fun w _ hS => Chain.ev_move f18.ev) (F.lt (by decide)) fun a6 N => ?_
  replace F := F.next N (by decide)
  clear f18
  have f19 := N.got
  clear N a5
  refine Ord.take R (k := 7) (v := .slice (some ⟨b, off, none⟩) n cc) (bs' := (Ord.upto 8 70)) rfl (by kernel_rfl) hQ (R.opened (j := 6) rfl f19) hS (fun w _ hS => Chain.ev_move F.s3.ev) (F.lt (by decide)) fun a7 N => ?_
  replace F := F.next N (by decide)
  replace f19 := N.keep 19 _ (by decide) f19
  have f20 := N.got
  clear N a6
  refine Ord.take R (k := 8) (v := .int .i64 (k : Int)) (bs' := (Ord.upto 9 70)) rfl (by kernel_rfl) hQ (R.opened (j := 6) rfl f19) hS (fun w _ hS => Chain.ev_move F.s4.ev) (F.lt (by decide)) fun a8 N => ?_
  replace F := F.next N (by decide)
  replace f19 := N.keep 19 _ (by decide) f19
  replace f20 := N.keep 20 _ (by decide) f20
  have f21 := N.got
  clear N a7
  refine Ord.take R (k := 9) (v := .pointer (some ⟨b, off + k * 3, none⟩)) (bs' := (Ord.upto 10 70)) rfl (by kernel_rfl) hQ (R.opened (j := 6) rfl f19) hS (fun w _ hS => by have e20 := f20; unfold Chain.At at e20; have e21 := f21; unfold Chain.At at e21; clear F; go_simp) (F.lt (by decide)) fun a9 N => ?_
  replace F := F.next N (by decide)
  replace f19 := N.keep 19 _ (by decide) f19
  clear f20
  clear f21
  have f22 := N.got
  clear N a8
  refine Ord.take R (k := 10) (v := .pointer (some ⟨b, off + k * 3 + 1, none⟩)) (bs' := (Ord.upto 11 70)) rfl (by kernel_rfl) hQ (R.opened (j := 6) rfl f19) hS (fun w _ hS => by have e22 := f22; unfold Chain.At at e22; clear F; go_simp) (F.lt (by decide)) fun a10 N => ?_
  replace F := F.next N (by decide)
  replace f19 := N.keep 19 _ (by decide) f19
  clear f22
  have f23 := N.got
  clear N a9
  refine Ord.take R (k := 11) (v := .int .i64 m) (bs' := (Ord.upto 12 70)) rfl (by kernel_rfl) hQ (R.opened (j := 6) rfl f19) hS (fun w _ hS => by have e23 := f23; unfold Chain.At at e23; have q0 := c1 w hS; clear F; go_simp) (F.lt (by decide)) fun a11 N => ?_
  replace F := F.next N (by decide)
  replace f19 := N.keep 19 _ (by decide) f19
  clear f23
  have f24 := N.got
  clear N a10
  refine Ord.take R (k := 12) (v := .bool true) (bs' := (Ord.upto 13 70)) rfl (by kernel_rfl) hQ (R.opened (j := 6) rfl f19) hS (fun w _ hS => by have e24 := f24; unfold Chain.At at e24; have q0 := hm; clear F; go_simp) (F.lt (by decide)) fun a12 N => ?_
  replace F := F.next N (by decide)
  replace f19 := N.keep 19 _ (by decide) f19
  clear f24
  have f25 := N.got
  clear N a11
  refine Ord.take R (k := 13) (v := .bool true) (bs' := (Ord.upto 14 70)) rfl (by kernel_rfl) hQ (R.opened (j := 6) rfl f19) hS (fun w _ hS => Chain.ev_move f25.ev) (F.lt (by decide)) fun a13 N => ?_
  replace F := F.next N (by decide)
  replace f19 := N.keep 19 _ (by decide) f19
  clear f25
  have f26 := N.got
  clear N a12
  refine Ord.take R (k := 14) (v := .int .i64 (k : Int)) (bs' := (Ord.upto 15 70)) rfl (by kernel_rfl) hQ (R.opened (j := 13) rfl f26) hS (fun w _ hS => Chain.ev_move F.s4.ev) (F.lt (by decide)) fun a14 N => ?_
  replace F := F.next N (by decide)
  replace f19 := N.keep 19 _ (by decide) f19
  replace f26 := N.keep 26 _ (by decide) f26
  have f27 := N.got
  clear N a13
  refine Ord.take R (k := 15) (v := .int .i64 ((k : Int) + 1)) (bs' := (Ord.upto 16 70)) rfl (by kernel_rfl) hQ (R.opened (j := 13) rfl f26) hS (fun w _ hS => by have e27 := f27; unfold Chain.At at e27; have q0 := hw; clear F; go_simp) (F.lt (by decide)) fun a15 N => ?_
  replace F := F.next N (by decide)
  replace f19 := N.keep 19 _ (by decide) f19
  replace f26 := N.keep 26 _ (by decide) f26
  clear f27
  have f28 := N.got
  clear N a14
  refine Ord.take R (k := 16) (v := .slice (some ⟨b, off, none⟩) n cc) (bs' := (Ord.upto 17 70)) rfl (by kernel_rfl) hQ (R.opened (j := 13) rfl f26) hS (fun w _ hS => Chain.ev_move F.s3.ev) (F.lt (by decide)) fun a16 N => ?_
  replace F := F.next N (by decide)
  replace f19 := N.keep 19 _ (by decide) f19
  replace f26 := N.keep 26 _ (by decide) f26
  replace f28 := N.keep 28 _ (by decide) f28
  have f29 := N.got
  clear N a15
  refine Ord.take R (k := 17) (v := .int .i64 (n : Int)) (bs' := (Ord.upto 18 70)) rfl (by kernel_rfl) hQ (R.opened (j := 13) rfl f26) hS (fun w _ hS => Chain.ev_len Tryd.underlying29 f29.ev) (F.lt (by decide)) fun a17 N => ?_
  replace F := F.next N (by decide)
  replace f19 := N.keep 19 _ (by decide) f19
  replace f26 := N.keep 26 _ (by decide) f26
  replace f28 := N.keep 28 _ (by decide) f28
  clear f29
  have f30 := N.got
  clear N a16
  refine Ord.take R (k := 18) (v := .bool false) (bs' := (Ord.upto 19 70)) rfl (by kernel_rfl) hQ (R.opened (j := 13) rfl f26) hS (fun w _ hS => by have e28 := f28; unfold Chain.At at e28; have e30 := f30; unfold Chain.At at e30; have q0 := hx; clear F; go_simp) (F.lt (by decide)) fun a18 N => ?_
  replace F := F.next N (by decide)
  replace f19 := N.keep 19 _ (by decide) f19
  replace f26 := N.keep 26 _ (by decide) f26
  clear f28
  clear f30
  have f31 := N.got
  clear N a17
  refine Ord.take R (k := 19) (v := .bool false) (bs' := (Ord.upto 20 70)) rfl (by kernel_rfl) hQ (R.opened (j := 13) rfl f26) hS (fun w _ hS => Chain.ev_move f31.ev) (F.lt (by decide)) fun a19 N => ?_
  replace F := F.next N (by decide)
  replace f19 := N.keep 19 _ (by decide) f19
  replace f26 := N.keep 26 _ (by decide) f26
  clear f31
  have f32 := N.got
  clear N a18
  refine Ord.take R (k := 20) (v := .slice (some ⟨b, off, none⟩) n cc) (bs' := (Ord.upto 21 70)) rfl (by kernel_rfl) hQ (R.opened (j := 19) rfl f32) hS (fun w _ hS => Chain.ev_move F.s3.ev) (F.lt (by decide)) fun a20 N => ?_
  replace F := F.next N (by decide)
  replace f19 := N.keep 19 _ (by decide) f19
  replace f26 := N.keep 26 _ (by decide) f26
  replace f32 := N.keep 32 _ (by decide) f32
  have f33 := N.got
  clear N a19
  refine Ord.take R (k := 21) (v := .int .i64 (k : Int)) (bs' := (Ord.upto 22 70)) rfl (by kernel_rfl) hQ (R.opened (j := 19) rfl f32) hS (fun w _ hS => Chain.ev_move F.s4.ev) (F.lt (by decide)) fun a21 N => ?_
  replace F := F.next N (by decide)
  replace f19 := N.keep 19 _ (by decide) f19
  replace f26 := N.keep 26 _ (by decide) f26
  replace f32 := N.keep 32 _ (by decide) f32
  replace f33 := N.keep 33 _ (by decide) f33
  have f34 := N.got
  clear N a20
  refine Ord.take R (k := 22) (v := .int .i64 ((k : Int) + 1)) (bs' := (Ord.upto 23 70)) rfl (by kernel_rfl) hQ (R.opened (j := 19) rfl f32) hS (fun w _ hS => by have e34 := f34; unfold Chain.At at e34; have q0 := hw; clear F; go_simp) (F.lt (by decide)) fun a22 N => ?_
  replace F := F.next N (by decide)
  replace f19 := N.keep 19 _ (by decide) f19
  replace f26 := N.keep 26 _ (by decide) f26
  replace f32 := N.keep 32 _ (by decide) f32
  replace f33 := N.keep 33 _ (by decide) f33
  clear f34
  have f35 := N.got
  clear N a21
  refine Ord.take R (k := 23) (v := .pointer (some ⟨b, off + (k + 1) * 3, none⟩)) (bs' := (Ord.upto 24 70)) rfl (by kernel_rfl) hQ (R.opened (j := 19) rfl f32) hS (fun w _ hS => by have e33 := f33; unfold Chain.At at e33; have e35 := f35; unfold Chain.At at e35; have q0 := ht; have q1 := hx0; have q2 := hx1; clear F; go_simp) (F.lt (by decide)) fun a23 N => ?_
  replace F := F.next N (by decide)
  replace f19 := N.keep 19 _ (by decide) f19
  replace f26 := N.keep 26 _ (by decide) f26
  replace f32 := N.keep 32 _ (by decide) f32
  clear f33
  clear f35
  have f36 := N.got
  clear N a22
  refine Ord.take R (k := 24) (v := cellV r' m' a') (bs' := (Ord.upto 25 70)) rfl (by kernel_rfl) hQ (R.opened (j := 19) rfl f32) hS (fun w _ hS => by have e36 := f36; unfold Chain.At at e36; have q0 := d0 w hS; have q1 := d1 w hS; have q2 := d2 w hS; clear F; go_simp) (F.lt (by decide)) fun a24 N => ?_
  replace F := F.next N (by decide)
  replace f19 := N.keep 19 _ (by decide) f19
  replace f26 := N.keep 26 _ (by decide) f26
  replace f32 := N.keep 32 _ (by decide) f32
  clear f36
  have f37 := N.got
  clear N a23
  refine Ord.take R (k := 25) (v := .slice (some ⟨b, off, none⟩) n cc) (bs' := (Ord.upto 26 70)) rfl (by kernel_rfl) hQ (R.opened (j := 19) rfl f32) hS (fun w _ hS => Chain.ev_move F.s3.ev) (F.lt (by decide)) fun a25 N => ?_
  replace F := F.next N (by decide)
  replace f19 := N.keep 19 _ (by decide) f19
  replace f26 := N.keep 26 _ (by decide) f26
  replace f32 := N.keep 32 _ (by decide) f32
  replace f37 := N.keep 37 _ (by decide) f37
  have f38 := N.got
  clear N a24
  refine Ord.take R (k := 26) (v := .int .i64 (k : Int)) (bs' := (Ord.upto 27 70)) rfl (by kernel_rfl) hQ (R.opened (j := 19) rfl f32) hS (fun w _ hS => Chain.ev_move F.s4.ev) (F.lt (by decide)) fun a26 N => ?_
  replace F := F.next N (by decide)
  replace f19 := N.keep 19 _ (by decide) f19
  replace f26 := N.keep 26 _ (by decide) f26
  replace f32 := N.keep 32 _ (by decide) f32
  replace f37 := N.keep 37 _ (by decide) f37
  replace f38 := N.keep 38 _ (by decide) f38
  have f39 := N.got
  clear N a25
  refine Ord.take R (k := 27) (v := .pointer (some ⟨b, off + k * 3, none⟩)) (bs' := (Ord.upto 28 70)) rfl (by kernel_rfl) hQ (R.opened (j := 19) rfl f32) hS (fun w _ hS => by have e38 := f38; unfold Chain.At at e38; have e39 := f39; unfold Chain.At at e39; clear F; go_simp) (F.lt (by decide)) fun a27 N => ?_
  replace F := F.next N (by decide)
  replace f19 := N.keep 19 _ (by decide) f19
  replace f26 := N.keep 26 _ (by decide) f26
  replace f32 := N.keep 32 _ (by decide) f32
  replace f37 := N.keep 37 _ (by decide) f37
  clear f38
  clear f39
  have f40 := N.got
  clear N a26
  refine Ord.take R (k := 28) (v := .pointer (some ⟨b, off + k * 3 + 2, none⟩)) (bs' := (Ord.upto 29 70)) rfl (by kernel_rfl) hQ (R.opened (j := 19) rfl f32) hS (fun w _ hS => by have e40 := f40; unfold Chain.At at e40; clear F; go_simp) (F.lt (by decide)) fun a28 N => ?_
  replace F := F.next N (by decide)
  replace f19 := N.keep 19 _ (by decide) f19
  replace f26 := N.keep 26 _ (by decide) f26
  replace f32 := N.keep 32 _ (by decide) f32
  replace f37 := N.keep 37 _ (by decide) f37
  clear f40
  have f41 := N.got
  clear N a27
  refine Ord.take R (k := 29) (v := .int .i64 a0) (bs' := (Ord.upto 30 70)) rfl (by kernel_rfl) hQ (R.opened (j := 19) rfl f32) hS (fun w _ hS => by have e41 := f41; unfold Chain.At at e41; have q0 := c2 w hS; clear F; go_simp) (F.lt (by decide)) fun a29 N => ?_
  replace F := F.next N (by decide)
  replace f19 := N.keep 19 _ (by decide) f19
  replace f26 := N.keep 26 _ (by decide) f26
  replace f32 := N.keep 32 _ (by decide) f32
  replace f37 := N.keep 37 _ (by decide) f37
  clear f41
  have f42 := N.got
  clear N a28
  refine Ord.take R (k := 30) (v := cellV 0 0 a0) (bs' := (Ord.upto 31 70)) rfl (by kernel_rfl) hQ (R.opened (j := 19) rfl f32) hS (fun w _ hS => by have e42 := f42; unfold Chain.At at e42; clear F; go_simp) (F.lt (by decide)) fun a30 N => ?_
  replace F := F.next N (by decide)
  replace f19 := N.keep 19 _ (by decide) f19
  replace f26 := N.keep 26 _ (by decide) f26
  replace f32 := N.keep 32 _ (by decide) f32
  replace f37 := N.keep 37 _ (by decide) f37
  clear f42
  have f43 := N.got
  clear N a29
  refine Ord.take R (k := 31) (v := .bool false) (bs' := (Ord.upto 32 70)) rfl (by kernel_rfl) hQ (R.opened (j := 19) rfl f32) hS (fun w _ hS => by have e37 := f37; unfold Chain.At at e37; have e43 := f43; unfold Chain.At at e43; have q0 := hN w; clear F; go_simp) (F.lt (by decide)) fun a31 N => ?_
  replace F := F.next N (by decide)
  replace f19 := N.keep 19 _ (by decide) f19
  replace f26 := N.keep 26 _ (by decide) f26
  replace f32 := N.keep 32 _ (by decide) f32
  clear f37
  clear f43
  have f44 := N.got
  clear N a30
  refine Ord.take R (k := 32) (v := .bool false) (bs' := (Ord.upto 33 70)) rfl (by kernel_rfl) hQ (R.opened (j := 13) rfl f26) hS (fun w _ hS => Ord.ev_pick_no f32.ev f44.ev) (F.lt (by decide)) fun a32 N => ?_
  replace F := F.next N (by decide)
  replace f19 := N.keep 19 _ (by decide) f19
  replace f26 := N.keep 26 _ (by decide) f26
  clear f32
  clear f44
  have f45 := N.got
  clear N a31
  refine Ord.take R (k := 33) (v := .bool false) (bs' := (Ord.upto 34 70)) rfl (by kernel_rfl) hQ (R.opened (j := 6) rfl f19) hS (fun w _ hS => Ord.ev_pick_yes f26.ev f45.ev) (F.lt (by decide)) fun a33 N => ?_
  replace F := F.next N (by decide)
  replace f19 := N.keep 19 _ (by decide) f19
  clear f26
  clear f45
  have f46 := N.got
  clear N a32
  refine Ord.take R (k := 34) (v := .bool false) (bs' := (Ord.upto 35 70)) rfl (by kernel_rfl) hQ trivial hS (fun w _ hS => Ord.ev_pick_no f19.ev f46.ev) (F.lt (by decide)) fun a34 N => ?_
  replace F := F.next N (by decide)
  clear f19
  clear f46
  have f47 := N.got
  clear N a33
  refine Ord.take R (k := 35) (v := .bool false) (bs' := (Ord.upto 36 70)) rfl (by kernel_rfl) hQ trivial hS (fun w _ hS => Chain.ev_move f47.ev) (F.lt (by decide)) fun a35 N => ?_
  replace F := F.next N (by decide)
  clear f47
  have f48 := N.got
  clear N a34
  refine Ord.take R (k := 36) (v := .slice (some ⟨b, off, none⟩) n cc) (bs' := (Ord.upto 37 70)) rfl (by kernel_rfl) hQ (R.opened (j := 35) rfl f48) hS (fun w _ hS => Chain.ev_move F.s3.ev) (F.lt (by decide)) fun a36 N => ?_
  replace F := F.next N (by decide)
  replace f48 := N.keep 48 _ (by decide) f48
  have f49 := N.got
  clear N a35
  refine Ord.take R (k := 37) (v := .int .i64 (k : Int)) (bs' := (Ord.upto 38 70)) rfl (by kernel_rfl) hQ (R.opened (j := 35) rfl f48) hS (fun w _ hS => Chain.ev_move F.s4.ev) (F.lt (by decide)) fun a37 N => ?_
  replace F := F.next N (by decide)
  replace f48 := N.keep 48 _ (by decide) f48
  replace f49 := N.keep 49 _ (by decide) f49
  have f50 := N.got
  clear N a36
  refine Ord.take R (k := 38) (v := .pointer (some ⟨b, off + k * 3, none⟩)) (bs' := (Ord.upto 39 70)) rfl (by kernel_rfl) hQ (R.opened (j := 35) rfl f48) hS (fun w _ hS => by have e49 := f49; unfold Chain.At at e49; have e50 := f50; unfold Chain.At at e50; clear F; go_simp) (F.lt (by decide)) fun a38 N => ?_
  replace F := F.next N (by decide)
  replace f48 := N.keep 48 _ (by decide) f48
  clear f49
  clear f50
  have f51 := N.got
  clear N a37
  refine Ord.take R (k := 39) (v := .pointer (some ⟨b, off + k * 3 + 1, none⟩)) (bs' := (Ord.upto 40 70)) rfl (by kernel_rfl) hQ (R.opened (j := 35) rfl f48) hS (fun w _ hS => by have e51 := f51; unfold Chain.At at e51; clear F; go_simp) (F.lt (by decide)) fun a39 N => ?_
  replace F := F.next N (by decide)
  replace f48 := N.keep 48 _ (by decide) f48
  clear f51
  have f52 := N.got
  clear N a38
  refine Ord.take R (k := 40) (v := .int .i64 m) (bs' := (Ord.upto 41 70)) rfl (by kernel_rfl) hQ (R.opened (j := 35) rfl f48) hS (fun w _ hS => by have e52 := f52; unfold Chain.At at e52; have q0 := c1 w hS; clear F; go_simp) (F.lt (by decide)) fun a40 N => ?_
  replace F := F.next N (by decide)
  replace f48 := N.keep 48 _ (by decide) f48
  clear f52
  have f53 := N.got
  clear N a39
  refine Ord.take R (k := 41) (v := .bool false) (bs' := (Ord.upto 42 70)) rfl (by kernel_rfl) hQ (R.opened (j := 35) rfl f48) hS (fun w _ hS => by have e53 := f53; unfold Chain.At at e53; have q0 := hm0; clear F; go_simp) (F.lt (by decide)) fun a41 N => ?_
  replace F := F.next N (by decide)
  replace f48 := N.keep 48 _ (by decide) f48
  clear f53
  have f54 := N.got
  clear N a40
  refine Ord.take R (k := 42) (v := .bool false) (bs' := (Ord.upto 43 70)) rfl (by kernel_rfl) hQ (R.opened (j := 35) rfl f48) hS (fun w _ hS => Chain.ev_move f54.ev) (F.lt (by decide)) fun a42 N => ?_
  replace F := F.next N (by decide)
  replace f48 := N.keep 48 _ (by decide) f48
  clear f54
  have f55 := N.got
  clear N a41
  refine Ord.skip R (k := 43) (bs' := (Ord.upto 44 70)) rfl (by kernel_rfl) hQ (R.shut (j := 42) rfl f55 (Ord.ne_not rfl)) hS (F.lt (by decide)) fun a43 N => ?_
  replace F := F.next N (by decide)
  replace f48 := N.keep 48 _ (by decide) f48
  replace f55 := N.keep 55 _ (by decide) f55
  have f56 := N.got
  clear N a42
  refine Ord.skip R (k := 44) (bs' := (Ord.upto 45 70)) rfl (by kernel_rfl) hQ (R.shut (j := 42) rfl f55 (Ord.ne_not rfl)) hS (F.lt (by decide)) fun a44 N => ?_
  replace F := F.next N (by decide)
  replace f48 := N.keep 48 _ (by decide) f48
  replace f55 := N.keep 55 _ (by decide) f55
  clear f56
  have f57 := N.got
  clear N a43
  refine Ord.skip R (k := 45) (bs' := (Ord.upto 46 70)) rfl (by kernel_rfl) hQ (R.shut (j := 42) rfl f55 (Ord.ne_not rfl)) hS (F.lt (by decide)) fun a45 N => ?_
  replace F := F.next N (by decide)
  replace f48 := N.keep 48 _ (by decide) f48
  replace f55 := N.keep 55 _ (by decide) f55
  clear f57
  have f58 := N.got
  clear N a44
  refine Ord.skip R (k := 46) (bs' := (Ord.upto 47 70)) rfl (by kernel_rfl) hQ (R.shut (j := 45) rfl f58 (Ord.ne_undef _)) hS (F.lt (by decide)) fun a46 N => ?_
  replace F := F.next N (by decide)
  replace f48 := N.keep 48 _ (by decide) f48
  replace f55 := N.keep 55 _ (by decide) f55
  replace f58 := N.keep 58 _ (by decide) f58
  have f59 := N.got
  clear N a45
  refine Ord.skip R (k := 47) (bs' := (Ord.upto 48 70)) rfl (by kernel_rfl) hQ (R.shut (j := 45) rfl f58 (Ord.ne_undef _)) hS (F.lt (by decide)) fun a47 N => ?_
  replace F := F.next N (by decide)
  replace f48 := N.keep 48 _ (by decide) f48
  replace f55 := N.keep 55 _ (by decide) f55
  replace f58 := N.keep 58 _ (by decide) f58
  replace f59 := N.keep 59 _ (by decide) f59
  have f60 := N.got
  clear N a46
  refine Ord.skip R (k := 48) (bs' := (Ord.upto 49 70)) rfl (by kernel_rfl) hQ (R.shut (j := 45) rfl f58 (Ord.ne_undef _)) hS (F.lt (by decide)) fun a48 N => ?_
  replace F := F.next N (by decide)
  replace f48 := N.keep 48 _ (by decide) f48
  replace f55 := N.keep 55 _ (by decide) f55
  replace f58 := N.keep 58 _ (by decide) f58
  replace f59 := N.keep 59 _ (by decide) f59
  clear f60
  have f61 := N.got
  clear N a47
  refine Ord.skip R (k := 49) (bs' := (Ord.upto 50 70)) rfl (by kernel_rfl) hQ (R.shut (j := 45) rfl f58 (Ord.ne_undef _)) hS (F.lt (by decide)) fun a49 N => ?_
  replace F := F.next N (by decide)
  replace f48 := N.keep 48 _ (by decide) f48
  replace f55 := N.keep 55 _ (by decide) f55
  replace f58 := N.keep 58 _ (by decide) f58
  clear f59
  clear f61
  have f62 := N.got
  clear N a48
  refine Ord.skip R (k := 50) (bs' := (Ord.upto 51 70)) rfl (by kernel_rfl) hQ (R.shut (j := 45) rfl f58 (Ord.ne_undef _)) hS (F.lt (by decide)) fun a50 N => ?_
  replace F := F.next N (by decide)
  replace f48 := N.keep 48 _ (by decide) f48
  replace f55 := N.keep 55 _ (by decide) f55
  replace f58 := N.keep 58 _ (by decide) f58
  clear f62
  have f63 := N.got
  clear N a49
  refine Ord.skip R (k := 51) (bs' := (Ord.upto 52 70)) rfl (by kernel_rfl) hQ (R.shut (j := 45) rfl f58 (Ord.ne_undef _)) hS (F.lt (by decide)) fun a51 N => ?_
  replace F := F.next N (by decide)
  replace f48 := N.keep 48 _ (by decide) f48
  replace f55 := N.keep 55 _ (by decide) f55
  replace f58 := N.keep 58 _ (by decide) f58
  clear f63
  have f64 := N.got
  clear N a50
  refine Ord.skip R (k := 52) (bs' := (Ord.upto 53 70)) rfl (by kernel_rfl) hQ (R.shut (j := 45) rfl f58 (Ord.ne_undef _)) hS (F.lt (by decide)) fun a52 N => ?_
  replace F := F.next N (by decide)
  replace f48 := N.keep 48 _ (by decide) f48
  replace f55 := N.keep 55 _ (by decide) f55
  replace f58 := N.keep 58 _ (by decide) f58
  clear f64
  have f65 := N.got
  clear N a51
  refine Ord.skip R (k := 53) (bs' := (Ord.upto 54 70)) rfl (by kernel_rfl) hQ (R.shut (j := 42) rfl f55 (Ord.ne_not rfl)) hS (F.lt (by decide)) fun a53 N => ?_
  replace F := F.next N (by decide)
  replace f48 := N.keep 48 _ (by decide) f48
  replace f55 := N.keep 55 _ (by decide) f55
  clear f58
  clear f65
  have f66 := N.got
  clear N a52
  refine Ord.skip R (k := 54) (bs' := (Ord.upto 55 70)) rfl (by kernel_rfl) hQ (R.shut (j := 42) rfl f55 (Ord.ne_not rfl)) hS (F.lt (by decide)) fun a54 N => ?_
  replace F := F.next N (by decide)
  replace f48 := N.keep 48 _ (by decide) f48
  replace f55 := N.keep 55 _ (by decide) f55
  clear f66
  have f67 := N.got
  clear N a53
  refine Ord.skip R (k := 55) (bs' := (Ord.upto 56 70)) rfl (by kernel_rfl) hQ (R.shut (j := 54) rfl f67 (Ord.ne_undef _)) hS (F.lt (by decide)) fun a55 N => ?_
  replace F := F.next N (by decide)
  replace f48 := N.keep 48 _ (by decide) f48
  replace f55 := N.keep 55 _ (by decide) f55
  replace f67 := N.keep 67 _ (by decide) f67
  have f68 := N.got
  clear N a54
  refine Ord.skip R (k := 56) (bs' := (Ord.upto 57 70)) rfl (by kernel_rfl) hQ (R.shut (j := 54) rfl f67 (Ord.ne_undef _)) hS (F.lt (by decide)) fun a56 N => ?_
  replace F := F.next N (by decide)
  replace f48 := N.keep 48 _ (by decide) f48
  replace f55 := N.keep 55 _ (by decide) f55
  replace f67 := N.keep 67 _ (by decide) f67
  replace f68 := N.keep 68 _ (by decide) f68
  have f69 := N.got
  clear N a55
  refine Ord.skip R (k := 57) (bs' := (Ord.upto 58 70)) rfl (by kernel_rfl) hQ (R.shut (j := 54) rfl f67 (Ord.ne_undef _)) hS (F.lt (by decide)) fun a57 N => ?_
  replace F := F.next N (by decide)
  replace f48 := N.keep 48 _ (by decide) f48
  replace f55 := N.keep 55 _ (by decide) f55
  replace f67 := N.keep 67 _ (by decide) f67
  replace f68 := N.keep 68 _ (by decide) f68
  clear f69
  have f70 := N.got
  clear N a56
  refine Ord.skip R (k := 58) (bs' := (Ord.upto 59 70)) rfl (by kernel_rfl) hQ (R.shut (j := 54) rfl f67 (Ord.ne_undef _)) hS (F.lt (by decide)) fun a58 N => ?_
  replace F := F.next N (by decide)
  replace f48 := N.keep 48 _ (by decide) f48
  replace f55 := N.keep 55 _ (by decide) f55
  replace f67 := N.keep 67 _ (by decide) f67
  clear f68
  clear f70
  have f71 := N.got
  clear N a57
  refine Ord.skip R (k := 59) (bs' := (Ord.upto 60 70)) rfl (by kernel_rfl) hQ (R.shut (j := 54) rfl f67 (Ord.ne_undef _)) hS (F.lt (by decide)) fun a59 N => ?_
  replace F := F.next N (by decide)
  replace f48 := N.keep 48 _ (by decide) f48
  replace f55 := N.keep 55 _ (by decide) f55
  replace f67 := N.keep 67 _ (by decide) f67
  clear f71
  have f72 := N.got
  clear N a58
  refine Ord.skip R (k := 60) (bs' := (Ord.upto 61 70)) rfl (by kernel_rfl) hQ (R.shut (j := 54) rfl f67 (Ord.ne_undef _)) hS (F.lt (by decide)) fun a60 N => ?_
  replace F := F.next N (by decide)
  replace f48 := N.keep 48 _ (by decide) f48
  replace f55 := N.keep 55 _ (by decide) f55
  replace f67 := N.keep 67 _ (by decide) f67
  clear f72
  have f73 := N.got
  clear N a59
  refine Ord.skip R (k := 61) (bs' := (Ord.upto 62 70)) rfl (by kernel_rfl) hQ (R.shut (j := 54) rfl f67 (Ord.ne_undef _)) hS (F.lt (by decide)) fun a61 N => ?_
  replace F := F.next N (by decide)
  replace f48 := N.keep 48 _ (by decide) f48
  replace f55 := N.keep 55 _ (by decide) f55
  replace f67 := N.keep 67 _ (by decide) f67
  replace f73 := N.keep 73 _ (by decide) f73
  have f74 := N.got
  clear N a60
  refine Ord.skip R (k := 62) (bs' := (Ord.upto 63 70)) rfl (by kernel_rfl) hQ (R.shut (j := 54) rfl f67 (Ord.ne_undef _)) hS (F.lt (by decide)) fun a62 N => ?_
  replace F := F.next N (by decide)
  replace f48 := N.keep 48 _ (by decide) f48
  replace f55 := N.keep 55 _ (by decide) f55
  replace f67 := N.keep 67 _ (by decide) f67
  replace f73 := N.keep 73 _ (by decide) f73
  replace f74 := N.keep 74 _ (by decide) f74
  have f75 := N.got
  clear N a61
  refine Ord.skip R (k := 63) (bs' := (Ord.upto 64 70)) rfl (by kernel_rfl) hQ (R.shut (j := 54) rfl f67 (Ord.ne_undef _)) hS (F.lt (by decide)) fun a63 N => ?_
  replace F := F.next N (by decide)
  replace f48 := N.keep 48 _ (by decide) f48
  replace f55 := N.keep 55 _ (by decide) f55
  replace f67 := N.keep 67 _ (by decide) f67
  replace f73 := N.keep 73 _ (by decide) f73
  clear f74
  clear f75
  have f76 := N.got
  clear N a62
  refine Ord.skip R (k := 64) (bs' := (Ord.upto 65 70)) rfl (by kernel_rfl) hQ (R.shut (j := 54) rfl f67 (Ord.ne_undef _)) hS (F.lt (by decide)) fun a64 N => ?_
  replace F := F.next N (by decide)
  replace f48 := N.keep 48 _ (by decide) f48
  replace f55 := N.keep 55 _ (by decide) f55
  replace f67 := N.keep 67 _ (by decide) f67
  replace f73 := N.keep 73 _ (by decide) f73
  clear f76
  have f77 := N.got
  clear N a63
  refine Ord.skip R (k := 65) (bs' := (Ord.upto 66 70)) rfl (by kernel_rfl) hQ (R.shut (j := 54) rfl f67 (Ord.ne_undef _)) hS (F.lt (by decide)) fun a65 N => ?_
  replace F := F.next N (by decide)
  replace f48 := N.keep 48 _ (by decide) f48
  replace f55 := N.keep 55 _ (by decide) f55
  replace f67 := N.keep 67 _ (by decide) f67
  replace f73 := N.keep 73 _ (by decide) f73
  clear f77
  have f78 := N.got
  clear N a64
  refine Ord.skip R (k := 66) (bs' := (Ord.upto 67 70)) rfl (by kernel_rfl) hQ (R.shut (j := 54) rfl f67 (Ord.ne_undef _)) hS (F.lt (by decide)) fun a66 N => ?_
  replace F := F.next N (by decide)
  replace f48 := N.keep 48 _ (by decide) f48
  replace f55 := N.keep 55 _ (by decide) f55
  replace f67 := N.keep 67 _ (by decide) f67
  clear f73
  clear f78
  have f79 := N.got
  clear N a65
  refine Ord.skip R (k := 67) (bs' := (Ord.upto 68 70)) rfl (by kernel_rfl) hQ (R.shut (j := 42) rfl f55 (Ord.ne_not rfl)) hS (F.lt (by decide)) fun a67 N => ?_
  replace F := F.next N (by decide)
  replace f48 := N.keep 48 _ (by decide) f48
  replace f55 := N.keep 55 _ (by decide) f55
  clear f67
  clear f79
  have f80 := N.got
  clear N a66
  refine Ord.take R (k := 68) (v := Go.Value.bool false) (bs' := (Ord.upto 69 70)) rfl (by kernel_rfl) hQ (R.opened (j := 35) rfl f48) hS (fun w _ hS => Ord.ev_pick_no f55.ev rfl) (F.lt (by decide)) fun a68 N => ?_
  replace F := F.next N (by decide)
  replace f48 := N.keep 48 _ (by decide) f48
  clear f55
  clear f80
  have f81 := N.got
  clear N a67
  refine Ord.take R (k := 69) (v := Go.Value.bool false) (bs' := (Ord.upto 70 70)) rfl (by kernel_rfl) hQ trivial hS (fun w _ hS => Ord.ev_pick_no f48.ev f81.ev) (F.lt (by decide)) fun a69 N => ?_
  replace F := F.next N (by decide)
  clear f48
  clear f81
  have f82 := N.got
  clear N a68
  exact Ord.finish R (by kernel_rfl) (h _ _ F f82 hS)

set_option maxRecDepth 100000 in
theorem refRow_one {ops : Array Oper} {Q : Exit → Act → World → Prop} (R : Ord.Reg ops refRowL) (hQ : ∀ c a w d v, Q (.panic c) (Act.put a (some d) v) w → Q (.panic c) a w) {w0 : World} {b off n cc k : Nat} {r m a0 : Int}
    (_hk0 : (0 : Int) ≤ (k : Int)) (_hkn : (k : Int) < (n : Int)) (c0 : ∀ w, Below w0.heap.size w0 w → w.cell? ⟨b, off + k * 3, none⟩ = some (.int .i32 r)) (c1 : ∀ w, Below w0.heap.size w0 w → w.cell? ⟨b, off + k * 3 + 1, none⟩ = some (.int .i64 m)) (c2 : ∀ w, Below w0.heap.size w0 w → w.cell? ⟨b, off + k * 3 + 2, none⟩ = some (.int .i64 a0)) (hC : ∀ w, Calls Tryd.prog 55 #[cellV r m a0] w fun e w' => e = .returned (.bool true) ∧ Below w.heap.size w w') (hm : (m == 2) = false) (hm0 : (m == 0) = false)
    {p0 p1 p5 p6 : Value} (a : Act) (w : World) (F : RowFr b off n cc k p0 p1 p5 p6 a) (hS : Below w0.heap.size w0 w)
    (h : ∀ a w, RowFr b off n cc k p0 p1 p5 p6 a → Chain.At a 82 (.bool false) → Below w0.heap.size w0 w → Q .normal a w) :
    wpAnyH Tryd.prog .any ops Q (fun w' => Below w0.heap.size w0 w') 70 (List.replicate 70 false).toArray a w := by
  refine Ord.take R (k := 0) (v := .slice (some ⟨b, off, none⟩) n cc) (bs' := (Ord.upto 1 70)) rfl (by kernel_rfl) hQ trivial hS (fun w _ hS => Chain.ev_move F.s3.ev) (F.lt (by decide)) fun a0 N => ?_
  replace F := F.next N (by decide)
  have f13 := N.got
  clear N a
  refine Ord.take R (k := 1) (v := .int .i64 (k : Int)) (bs' := (Ord.upto 2 70)) rfl (by kernel_rfl) hQ trivial hS (fun w _ hS => Chain.ev_move F.s4.ev) (F.lt (by decide)) fun a1 N => ?_
  replace F := F.next N (by decide)
  replace f13 := N.keep 13 _ (by decide) f13
  have f14 := N.got
  clear N a0
  refine Ord.take R (k := 2) (v := .pointer (some ⟨b, off + k * 3, none⟩)) (bs' := (Ord.upto 3 70)) rfl (by kernel_rfl) hQ trivial hS (fun w _ hS => by have e13 := f13; unfold Chain.At at e13; have e14 := f14; unfold Chain.At at e14; clear F; go_simp) (F.lt (by decide)) fun a2 N => ?_
  replace F := F.next N (by decide)
  clear f13
  clear f14
  have f15 := N.got
  clear N a1
  refine Ord.take R (k := 3) (v := cellV r m a0) (bs' := (Ord.upto 4 70)) rfl (by kernel_rfl) hQ trivial hS (fun w _ hS => by have e15 := f15; unfold Chain.At at e15; have q0 := c0 w hS; have q1 := c1 w hS; have q2 := c2 w hS; clear F; go_simp) (F.lt (by decide)) fun a3 N => ?_
  replace F := F.next N (by decide)
  clear f15
  have f16 := N.got
  clear N a2
  refine Ord.call R (k := 4) (args := #[cellV r m a0]) (bs' := (Ord.upto 5 70)) rfl (by kernel_rfl) trivial (by simp [f16.ev]) (by kernel_rfl) (hC _) (F.lt (by decide)) ?_
  rintro e w ⟨rfl, hb⟩
  replace hS := hS.trans (hb.mono hS.size)
  refine ⟨_, rfl, hS, fun a4 N => ?_⟩
  replace F := F.next N (by decide)
  clear f16
  have f17 := N.got
  clear N a3
  refine Ord.take R (k := 5) (v := .bool false) (bs' := (Ord.upto 6 70)) rfl (by kernel_rfl) hQ trivial hS (fun w _ hS => by have e17 := f17; unfold Chain.At at e17; clear F; go_simp) (F.lt (by decide)) fun a5 N => ?_
  replace F := F.next N (by decide)
  clear f17
  have f18 := N.got
  clear N a4
  refine Ord.take R (k := 6) (v := .bool false) (bs' := (Ord.upto 7 70)) rfl (by kernel_rfl) hQ trivial hS (fun w _ hS => Chain.ev_move f18.ev) (F.lt (by decide)) fun a6 N => ?_
  replace F := F.next N (by decide)
  clear f18
  have f19 := N.got
  clear N a5
  refine Ord.take R (k := 7) (v := .slice (some ⟨b, off, none⟩) n cc) (bs' := (Ord.upto 8 70)) rfl (by kernel_rfl) hQ (R.opened (j := 6) rfl f19) hS (fun w _ hS => Chain.ev_move F.s3.ev) (F.lt (by decide)) fun a7 N => ?_
  replace F := F.next N (by decide)
  replace f19 := N.keep 19 _ (by decide) f19
  have f20 := N.got
  clear N a6
  refine Ord.take R (k := 8) (v := .int .i64 (k : Int)) (bs' := (Ord.upto 9 70)) rfl (by kernel_rfl) hQ (R.opened (j := 6) rfl f19) hS (fun w _ hS => Chain.ev_move F.s4.ev) (F.lt (by decide)) fun a8 N => ?_
  replace F := F.next N (by decide)
  replace f19 := N.keep 19 _ (by decide) f19
  replace f20 := N.keep 20 _ (by decide) f20
  have f21 := N.got
  clear N a7
  refine Ord.take R (k := 9) (v := .pointer (some ⟨b, off + k * 3, none⟩)) (bs' := (Ord.upto 10 70)) rfl (by kernel_rfl) hQ (R.opened (j := 6) rfl f19) hS (fun w _ hS => by have e20 := f20; unfold Chain.At at e20; have e21 := f21; unfold Chain.At at e21; clear F; go_simp) (F.lt (by decide)) fun a9 N => ?_
  replace F := F.next N (by decide)
  replace f19 := N.keep 19 _ (by decide) f19
  clear f20
  clear f21
  have f22 := N.got
  clear N a8
  refine Ord.take R (k := 10) (v := .pointer (some ⟨b, off + k * 3 + 1, none⟩)) (bs' := (Ord.upto 11 70)) rfl (by kernel_rfl) hQ (R.opened (j := 6) rfl f19) hS (fun w _ hS => by have e22 := f22; unfold Chain.At at e22; clear F; go_simp) (F.lt (by decide)) fun a10 N => ?_
  replace F := F.next N (by decide)
  replace f19 := N.keep 19 _ (by decide) f19
  clear f22
  have f23 := N.got
  clear N a9
  refine Ord.take R (k := 11) (v := .int .i64 m) (bs' := (Ord.upto 12 70)) rfl (by kernel_rfl) hQ (R.opened (j := 6) rfl f19) hS (fun w _ hS => by have e23 := f23; unfold Chain.At at e23; have q0 := c1 w hS; clear F; go_simp) (F.lt (by decide)) fun a11 N => ?_
  replace F := F.next N (by decide)
  replace f19 := N.keep 19 _ (by decide) f19
  clear f23
  have f24 := N.got
  clear N a10
  refine Ord.take R (k := 12) (v := .bool false) (bs' := (Ord.upto 13 70)) rfl (by kernel_rfl) hQ (R.opened (j := 6) rfl f19) hS (fun w _ hS => by have e24 := f24; unfold Chain.At at e24; have q0 := hm; clear F; go_simp) (F.lt (by decide)) fun a12 N => ?_
  replace F := F.next N (by decide)
  replace f19 := N.keep 19 _ (by decide) f19
  clear f24
  have f25 := N.got
  clear N a11
  refine Ord.take R (k := 13) (v := .bool false) (bs' := (Ord.upto 14 70)) rfl (by kernel_rfl) hQ (R.opened (j := 6) rfl f19) hS (fun w _ hS => Chain.ev_move f25.ev) (F.lt (by decide)) fun a13 N => ?_
  replace F := F.next N (by decide)
  replace f19 := N.keep 19 _ (by decide) f19
  clear f25
  have f26 := N.got
  clear N a12
  refine Ord.skip R (k := 14) (bs' := (Ord.upto 15 70)) rfl (by kernel_rfl) hQ (R.shut (j := 13) rfl f26 (Ord.ne_not rfl)) hS (F.lt (by decide)) fun a14 N => ?_
  replace F := F.next N (by decide)
  replace f19 := N.keep 19 _ (by decide) f19
  replace f26 := N.keep 26 _ (by decide) f26
  have f27 := N.got
  clear N a13
  refine Ord.skip R (k := 15) (bs' := (Ord.upto 16 70)) rfl (by kernel_rfl) hQ (R.shut (j := 13) rfl f26 (Ord.ne_not rfl)) hS (F.lt (by decide)) fun a15 N => ?_
  replace F := F.next N (by decide)
  replace f19 := N.keep 19 _ (by decide) f19
  replace f26 := N.keep 26 _ (by decide) f26
  clear f27
  have f28 := N.got
  clear N a14
  refine Ord.skip R (k := 16) (bs' := (Ord.upto 17 70)) rfl (by kernel_rfl) hQ (R.shut (j := 13) rfl f26 (Ord.ne_not rfl)) hS (F.lt (by decide)) fun a16 N => ?_
  replace F := F.next N (by decide)
  replace f19 := N.keep 19 _ (by decide) f19
  replace f26 := N.keep 26 _ (by decide) f26
  replace f28 := N.keep 28 _ (by decide) f28
  have f29 := N.got
  clear N a15
  refine Ord.skip R (k := 17) (bs' := (Ord.upto 18 70)) rfl (by kernel_rfl) hQ (R.shut (j := 13) rfl f26 (Ord.ne_not rfl)) hS (F.lt (by decide)) fun a17 N => ?_
  replace F := F.next N (by decide)
  replace f19 := N.keep 19 _ (by decide) f19
  replace f26 := N.keep 26 _ (by decide) f26
  replace f28 := N.keep 28 _ (by decide) f28
  clear f29
  have f30 := N.got
  clear N a16
  refine Ord.skip R (k := 18) (bs' := (Ord.upto 19 70)) rfl (by kernel_rfl) hQ (R.shut (j := 13) rfl f26 (Ord.ne_not rfl)) hS (F.lt (by decide)) fun a18 N => ?_
  replace F := F.next N (by decide)
  replace f19 := N.keep 19 _ (by decide) f19
  replace f26 := N.keep 26 _ (by decide) f26
  clear f28
  clear f30
  have f31 := N.got
  clear N a17
  refine Ord.skip R (k := 19) (bs' := (Ord.upto 20 70)) rfl (by kernel_rfl) hQ (R.shut (j := 13) rfl f26 (Ord.ne_not rfl)) hS (F.lt (by decide)) fun a19 N => ?_
  replace F := F.next N (by decide)
  replace f19 := N.keep 19 _ (by decide) f19
  replace f26 := N.keep 26 _ (by decide) f26
  clear f31
  have f32 := N.got
  clear N a18
  refine Ord.skip R (k := 20) (bs' := (Ord.upto 21 70)) rfl (by kernel_rfl) hQ (R.shut (j := 19) rfl f32 (Ord.ne_undef _)) hS (F.lt (by decide)) fun a20 N => ?_
  replace F := F.next N (by decide)
  replace f19 := N.keep 19 _ (by decide) f19
  replace f26 := N.keep 26 _ (by decide) f26
  replace f32 := N.keep 32 _ (by decide) f32
  have f33 := N.got
  clear N a19
  refine Ord.skip R (k := 21) (bs' := (Ord.upto 22 70)) rfl (by kernel_rfl) hQ (R.shut (j := 19) rfl f32 (Ord.ne_undef _)) hS (F.lt (by decide)) fun a21 N => ?_
  replace F := F.next N (by decide)
  replace f19 := N.keep 19 _ (by decide) f19
  replace f26 := N.keep 26 _ (by decide) f26
  replace f32 := N.keep 32 _ (by decide) f32
  replace f33 := N.keep 33 _ (by decide) f33
  have f34 := N.got
  clear N a20
  refine Ord.skip R (k := 22) (bs' := (Ord.upto 23 70)) rfl (by kernel_rfl) hQ (R.shut (j := 19) rfl f32 (Ord.ne_undef _)) hS (F.lt (by decide)) fun a22 N => ?_
  replace F := F.next N (by decide)
  replace f19 := N.keep 19 _ (by decide) f19
  replace f26 := N.keep 26 _ (by decide) f26
  replace f32 := N.keep 32 _ (by decide) f32
  replace f33 := N.keep 33 _ (by decide) f33
  clear f34
  have f35 := N.got
  clear N a21
  refine Ord.skip R (k := 23) (bs' := (Ord.upto 24 70)) rfl (by kernel_rfl) hQ (R.shut (j := 19) rfl f32 (Ord.ne_undef _)) hS (F.lt (by decide)) fun a23 N => ?_
  replace F := F.next N (by decide)
  replace f19 := N.keep 19 _ (by decide) f19
  replace f26 := N.keep 26 _ (by decide) f26
  replace f32 := N.keep 32 _ (by decide) f32
  clear f33
  clear f35
  have f36 := N.got
  clear N a22
  refine Ord.skip R (k := 24) (bs' := (Ord.upto 25 70)) rfl (by kernel_rfl) hQ (R.shut (j := 19) rfl f32 (Ord.ne_undef _)) hS (F.lt (by decide)) fun a24 N => ?_
  replace F := F.next N (by decide)
  replace f19 := N.keep 19 _ (by decide) f19
  replace f26 := N.keep 26 _ (by decide) f26
  replace f32 := N.keep 32 _ (by decide) f32
  clear f36
  have f37 := N.got
  clear N a23
  refine Ord.skip R (k := 25) (bs' := (Ord.upto 26 70)) rfl (by kernel_rfl) hQ (R.shut (j := 19) rfl f32 (Ord.ne_undef _)) hS (F.lt (by decide)) fun a25 N => ?_
  replace F := F.next N (by decide)
  replace f19 := N.keep 19 _ (by decide) f19
  replace f26 := N.keep 26 _ (by decide) f26
  replace f32 := N.keep 32 _ (by decide) f32
  replace f37 := N.keep 37 _ (by decide) f37
  have f38 := N.got
  clear N a24
  refine Ord.skip R (k := 26) (bs' := (Ord.upto 27 70)) rfl (by kernel_rfl) hQ (R.shut (j := 19) rfl f32 (Ord.ne_undef _)) hS (F.lt (by decide)) fun a26 N => ?_
  replace F := F.next N (by decide)
  replace f19 := N.keep 19 _ (by decide) f19
  replace f26 := N.keep 26 _ (by decide) f26
  replace f32 := N.keep 32 _ (by decide) f32
  replace f37 := N.keep 37 _ (by decide) f37
  replace f38 := N.keep 38 _ (by decide) f38
  have f39 := N.got
  clear N a25
  refine Ord.skip R (k := 27) (bs' := (Ord.upto 28 70)) rfl (by kernel_rfl) hQ (R.shut (j := 19) rfl f32 (Ord.ne_undef _)) hS (F.lt (by decide)) fun a27 N => ?_
  replace F := F.next N (by decide)
  replace f19 := N.keep 19 _ (by decide) f19
  replace f26 := N.keep 26 _ (by decide) f26
  replace f32 := N.keep 32 _ (by decide) f32
  replace f37 := N.keep 37 _ (by decide) f37
  clear f38
  clear f39
  have f40 := N.got
  clear N a26
  refine Ord.skip R (k := 28) (bs' := (Ord.upto 29 70)) rfl (by kernel_rfl) hQ (R.shut (j := 19) rfl f32 (Ord.ne_undef _)) hS (F.lt (by decide)) fun a28 N => ?_
  replace F := F.next N (by decide)
  replace f19 := N.keep 19 _ (by decide) f19
  replace f26 := N.keep 26 _ (by decide) f26
  replace f32 := N.keep 32 _ (by decide) f32
  replace f37 := N.keep 37 _ (by decide) f37
  clear f40
  have f41 := N.got
  clear N a27
  refine Ord.skip R (k := 29) (bs' := (Ord.upto 30 70)) rfl (by kernel_rfl) hQ (R.shut (j := 19) rfl f32 (Ord.ne_undef _)) hS (F.lt (by decide)) fun a29 N => ?_
  replace F := F.next N (by decide)
  replace f19 := N.keep 19 _ (by decide) f19
  replace f26 := N.keep 26 _ (by decide) f26
  replace f32 := N.keep 32 _ (by decide) f32
  replace f37 := N.keep 37 _ (by decide) f37
  clear f41
  have f42 := N.got
  clear N a28
  refine Ord.skip R (k := 30) (bs' := (Ord.upto 31 70)) rfl (by kernel_rfl) hQ (R.shut (j := 19) rfl f32 (Ord.ne_undef _)) hS (F.lt (by decide)) fun a30 N => ?_
  replace F := F.next N (by decide)
  replace f19 := N.keep 19 _ (by decide) f19
  replace f26 := N.keep 26 _ (by decide) f26
  replace f32 := N.keep 32 _ (by decide) f32
  replace f37 := N.keep 37 _ (by decide) f37
  clear f42
  have f43 := N.got
  clear N a29
  refine Ord.skip R (k := 31) (bs' := (Ord.upto 32 70)) rfl (by kernel_rfl) hQ (R.shut (j := 19) rfl f32 (Ord.ne_undef _)) hS (F.lt (by decide)) fun a31 N => ?_
  replace F := F.next N (by decide)
  replace f19 := N.keep 19 _ (by decide) f19
  replace f26 := N.keep 26 _ (by decide) f26
  replace f32 := N.keep 32 _ (by decide) f32
  clear f37
  clear f43
  have f44 := N.got
  clear N a30
  refine Ord.skip R (k := 32) (bs' := (Ord.upto 33 70)) rfl (by kernel_rfl) hQ (R.shut (j := 13) rfl f26 (Ord.ne_not rfl)) hS (F.lt (by decide)) fun a32 N => ?_
  replace F := F.next N (by decide)
  replace f19 := N.keep 19 _ (by decide) f19
  replace f26 := N.keep 26 _ (by decide) f26
  clear f32
  clear f44
  have f45 := N.got
  clear N a31
  refine Ord.take R (k := 33) (v := Go.Value.bool false) (bs' := (Ord.upto 34 70)) rfl (by kernel_rfl) hQ (R.opened (j := 6) rfl f19) hS (fun w _ hS => Ord.ev_pick_no f26.ev rfl) (F.lt (by decide)) fun a33 N => ?_
  replace F := F.next N (by decide)
  replace f19 := N.keep 19 _ (by decide) f19
  clear f26
  clear f45
  have f46 := N.got
  clear N a32
  refine Ord.take R (k := 34) (v := Go.Value.bool false) (bs' := (Ord.upto 35 70)) rfl (by kernel_rfl) hQ trivial hS (fun w _ hS => Ord.ev_pick_no f19.ev f46.ev) (F.lt (by decide)) fun a34 N => ?_
  replace F := F.next N (by decide)
  clear f19
  clear f46
  have f47 := N.got
  clear N a33
  refine Ord.take R (k := 35) (v := Go.Value.bool false) (bs' := (Ord.upto 36 70)) rfl (by kernel_rfl) hQ trivial hS (fun w _ hS => Chain.ev_move f47.ev) (F.lt (by decide)) fun a35 N => ?_
  replace F := F.next N (by decide)
  clear f47
  have f48 := N.got
  clear N a34
  refine Ord.take R (k := 36) (v := .slice (some ⟨b, off, none⟩) n cc) (bs' := (Ord.upto 37 70)) rfl (by kernel_rfl) hQ (R.opened (j := 35) rfl f48) hS (fun w _ hS => Chain.ev_move F.s3.ev) (F.lt (by decide)) fun a36 N => ?_
  replace F := F.next N (by decide)
  replace f48 := N.keep 48 _ (by decide) f48
  have f49 := N.got
  clear N a35
  refine Ord.take R (k := 37) (v := .int .i64 (k : Int)) (bs' := (Ord.upto 38 70)) rfl (by kernel_rfl) hQ (R.opened (j := 35) rfl f48) hS (fun w _ hS => Chain.ev_move F.s4.ev) (F.lt (by decide)) fun a37 N => ?_
  replace F := F.next N (by decide)
  replace f48 := N.keep 48 _ (by decide) f48
  replace f49 := N.keep 49 _ (by decide) f49
  have f50 := N.got
  clear N a36
  refine Ord.take R (k := 38) (v := .pointer (some ⟨b, off + k * 3, none⟩)) (bs' := (Ord.upto 39 70)) rfl (by kernel_rfl) hQ (R.opened (j := 35) rfl f48) hS (fun w _ hS => by have e49 := f49; unfold Chain.At at e49; have e50 := f50; unfold Chain.At at e50; clear F; go_simp) (F.lt (by decide)) fun a38 N => ?_
  replace F := F.next N (by decide)
  replace f48 := N.keep 48 _ (by decide) f48
  clear f49
  clear f50
  have f51 := N.got
  clear N a37
  refine Ord.take R (k := 39) (v := .pointer (some ⟨b, off + k * 3 + 1, none⟩)) (bs' := (Ord.upto 40 70)) rfl (by kernel_rfl) hQ (R.opened (j := 35) rfl f48) hS (fun w _ hS => by have e51 := f51; unfold Chain.At at e51; clear F; go_simp) (F.lt (by decide)) fun a39 N => ?_
  replace F := F.next N (by decide)
  replace f48 := N.keep 48 _ (by decide) f48
  clear f51
  have f52 := N.got
  clear N a38
  refine Ord.take R (k := 40) (v := .int .i64 m) (bs' := (Ord.upto 41 70)) rfl (by kernel_rfl) hQ (R.opened (j := 35) rfl f48) hS (fun w _ hS => by have e52 := f52; unfold Chain.At at e52; have q0 := c1 w hS; clear F; go_simp) (F.lt (by decide)) fun a40 N => ?_
  replace F := F.next N (by decide)
  replace f48 := N.keep 48 _ (by decide) f48
  clear f52
  have f53 := N.got
  clear N a39
  refine Ord.take R (k := 41) (v := .bool false) (bs' := (Ord.upto 42 70)) rfl (by kernel_rfl) hQ (R.opened (j := 35) rfl f48) hS (fun w _ hS => by have e53 := f53; unfold Chain.At at e53; have q0 := hm0; clear F; go_simp) (F.lt (by decide)) fun a41 N => ?_
  replace F := F.next N (by decide)
  replace f48 := N.keep 48 _ (by decide) f48
  clear f53
  have f54 := N.got
  clear N a40
  refine Ord.take R (k := 42) (v := .bool false) (bs' := (Ord.upto 43 70)) rfl (by kernel_rfl) hQ (R.opened (j := 35) rfl f48) hS (fun w _ hS => Chain.ev_move f54.ev) (F.lt (by decide)) fun a42 N => ?_
  replace F := F.next N (by decide)
  replace f48 := N.keep 48 _ (by decide) f48
  clear f54
  have f55 := N.got
  clear N a41
  refine Ord.skip R (k := 43) (bs' := (Ord.upto 44 70)) rfl (by kernel_rfl) hQ (R.shut (j := 42) rfl f55 (Ord.ne_not rfl)) hS (F.lt (by decide)) fun a43 N => ?_
  replace F := F.next N (by decide)
  replace f48 := N.keep 48 _ (by decide) f48
  replace f55 := N.keep 55 _ (by decide) f55
  have f56 := N.got
  clear N a42
  refine Ord.skip R (k := 44) (bs' := (Ord.upto 45 70)) rfl (by kernel_rfl) hQ (R.shut (j := 42) rfl f55 (Ord.ne_not rfl)) hS (F.lt (by decide)) fun a44 N => ?_
  replace F := F.next N (by decide)
  replace f48 := N.keep 48 _ (by decide) f48
  replace f55 := N.keep 55 _ (by decide) f55
  clear f56
  have f57 := N.got
  clear N a43
  refine Ord.skip R (k := 45) (bs' := (Ord.upto 46 70)) rfl (by kernel_rfl) hQ (R.shut (j := 42) rfl f55 (Ord.ne_not rfl)) hS (F.lt (by decide)) fun a45 N => ?_
  replace F := F.next N (by decide)
  replace f48 := N.keep 48 _ (by decide) f48
  replace f55 := N.keep 55 _ (by decide) f55
  clear f57
  have f58 := N.got
  clear N a44
  refine Ord.skip R (k := 46) (bs' := (Ord.upto 47 70)) rfl (by kernel_rfl) hQ (R.shut (j := 45) rfl f58 (Ord.ne_undef _)) hS (F.lt (by decide)) fun a46 N => ?_
  replace F := F.next N (by decide)
  replace f48 := N.keep 48 _ (by decide) f48
  replace f55 := N.keep 55 _ (by decide) f55
  replace f58 := N.keep 58 _ (by decide) f58
  have f59 := N.got
  clear N a45
  refine Ord.skip R (k := 47) (bs' := (Ord.upto 48 70)) rfl (by kernel_rfl) hQ (R.shut (j := 45) rfl f58 (Ord.ne_undef _)) hS (F.lt (by decide)) fun a47 N => ?_
  replace F := F.next N (by decide)
  replace f48 := N.keep 48 _ (by decide) f48
  replace f55 := N.keep 55 _ (by decide) f55
  replace f58 := N.keep 58 _ (by decide) f58
  replace f59 := N.keep 59 _ (by decide) f59
  have f60 := N.got
  clear N a46
  refine Ord.skip R (k := 48) (bs' := (Ord.upto 49 70)) rfl (by kernel_rfl) hQ (R.shut (j := 45) rfl f58 (Ord.ne_undef _)) hS (F.lt (by decide)) fun a48 N => ?_
  replace F := F.next N (by decide)
  replace f48 := N.keep 48 _ (by decide) f48
  replace f55 := N.keep 55 _ (by decide) f55
  replace f58 := N.keep 58 _ (by decide) f58
  replace f59 := N.keep 59 _ (by decide) f59
  clear f60
  have f61 := N.got
  clear N a47
  refine Ord.skip R (k := 49) (bs' := (Ord.upto 50 70)) rfl (by kernel_rfl) hQ (R.shut (j := 45) rfl f58 (Ord.ne_undef _)) hS (F.lt (by decide)) fun a49 N => ?_
  replace F := F.next N (by decide)
  replace f48 := N.keep 48 _ (by decide) f48
  replace f55 := N.keep 55 _ (by decide) f55
  replace f58 := N.keep 58 _ (by decide) f58
  clear f59
  clear f61
  have f62 := N.got
  clear N a48
  refine Ord.skip R (k := 50) (bs' := (Ord.upto 51 70)) rfl (by kernel_rfl) hQ (R.shut (j := 45) rfl f58 (Ord.ne_undef _)) hS (F.lt (by decide)) fun a50 N => ?_
  replace F := F.next N (by decide)
  replace f48 := N.keep 48 _ (by decide) f48
  replace f55 := N.keep 55 _ (by decide) f55
  replace f58 := N.keep 58 _ (by decide) f58
  clear f62
  have f63 := N.got
  clear N a49
  refine Ord.skip R (k := 51) (bs' := (Ord.upto 52 70)) rfl (by kernel_rfl) hQ (R.shut (j := 45) rfl f58 (Ord.ne_undef _)) hS (F.lt (by decide)) fun a51 N => ?_
  replace F := F.next N (by decide)
  replace f48 := N.keep 48 _ (by decide) f48
  replace f55 := N.keep 55 _ (by decide) f55
  replace f58 := N.keep 58 _ (by decide) f58
  clear f63
  have f64 := N.got
  clear N a50
  refine Ord.skip R (k := 52) (bs' := (Ord.upto 53 70)) rfl (by kernel_rfl) hQ (R.shut (j := 45) rfl f58 (Ord.ne_undef _)) hS (F.lt (by decide)) fun a52 N => ?_
  replace F := F.next N (by decide)
  replace f48 := N.keep 48 _ (by decide) f48
  replace f55 := N.keep 55 _ (by decide) f55
  replace f58 := N.keep 58 _ (by decide) f58
  clear f64
  have f65 := N.got
  clear N a51
  refine Ord.skip R (k := 53) (bs' := (Ord.upto 54 70)) rfl (by kernel_rfl) hQ (R.shut (j := 42) rfl f55 (Ord.ne_not rfl)) hS (F.lt (by decide)) fun a53 N => ?_
  replace F := F.next N (by decide)
  replace f48 := N.keep 48 _ (by decide) f48
  replace f55 := N.keep 55 _ (by decide) f55
  clear f58
  clear f65
  have f66 := N.got
  clear N a52
  refine Ord.skip R (k := 54) (bs' := (Ord.upto 55 70)) rfl (by kernel_rfl) hQ (R.shut (j := 42) rfl f55 (Ord.ne_not rfl)) hS (F.lt (by decide)) fun a54 N => ?_
  replace F := F.next N (by decide)
  replace f48 := N.keep 48 _ (by decide) f48
  replace f55 := N.keep 55 _ (by decide) f55
  clear f66
  have f67 := N.got
  clear N a53
  refine Ord.skip R (k := 55) (bs' := (Ord.upto 56 70)) rfl (by kernel_rfl) hQ (R.shut (j := 54) rfl f67 (Ord.ne_undef _)) hS (F.lt (by decide)) fun a55 N => ?_
  replace F := F.next N (by decide)
  replace f48 := N.keep 48 _ (by decide) f48
  replace f55 := N.keep 55 _ (by decide) f55
  replace f67 := N.keep 67 _ (by decide) f67
  have f68 := N.got
  clear N a54
  refine Ord.skip R (k := 56) (bs' := (Ord.upto 57 70)) rfl (by kernel_rfl) hQ (R.shut (j := 54) rfl f67 (Ord.ne_undef _)) hS (F.lt (by decide)) fun a56 N => ?_
  replace F := F.next N (by decide)
  replace f48 := N.keep 48 _ (by decide) f48
  replace f55 := N.keep 55 _ (by decide) f55
  replace f67 := N.keep 67 _ (by decide) f67
  replace f68 := N.keep 68 _ (by decide) f68
  have f69 := N.got
  clear N a55
  refine Ord.skip R (k := 57) (bs' := (Ord.upto 58 70)) rfl (by kernel_rfl) hQ (R.shut (j := 54) rfl f67 (Ord.ne_undef _)) hS (F.lt (by decide)) fun a57 N => ?_
  replace F := F.next N (by decide)
  replace f48 := N.keep 48 _ (by decide) f48
  replace f55 := N.keep 55 _ (by decide) f55
  replace f67 := N.keep 67 _ (by decide) f67
  replace f68 := N.keep 68 _ (by decide) f68
  clear f69
  have f70 := N.got
  clear N a56
  refine Ord.skip R (k := 58) (bs' := (Ord.upto 59 70)) rfl (by kernel_rfl) hQ (R.shut (j := 54) rfl f67 (Ord.ne_undef _)) hS (F.lt (by decide)) fun a58 N => ?_
  replace F := F.next N (by decide)
  replace f48 := N.keep 48 _ (by decide) f48
  replace f55 := N.keep 55 _ (by decide) f55
  replace f67 := N.keep 67 _ (by decide) f67
  clear f68
  clear f70
  have f71 := N.got
  clear N a57
  refine Ord.skip R (k := 59) (bs' := (Ord.upto 60 70)) rfl (by kernel_rfl) hQ (R.shut (j := 54) rfl f67 (Ord.ne_undef _)) hS (F.lt (by decide)) fun a59 N => ?_
  replace F := F.next N (by decide)
  replace f48 := N.keep 48 _ (by decide) f48
  replace f55 := N.keep 55 _ (by decide) f55
  replace f67 := N.keep 67 _ (by decide) f67
  clear f71
  have f72 := N.got
  clear N a58
  refine Ord.skip R (k := 60) (bs' := (Ord.upto 61 70)) rfl (by kernel_rfl) hQ (R.shut (j := 54) rfl f67 (Ord.ne_undef _)) hS (F.lt (by decide)) fun a60 N => ?_
  replace F := F.next N (by decide)
  replace f48 := N.keep 48 _ (by decide) f48
  replace f55 := N.keep 55 _ (by decide) f55
  replace f67 := N.keep 67 _ (by decide) f67
  clear f72
  have f73 := N.got
  clear N a59
  refine Ord.skip R (k := 61) (bs' := (Ord.upto 62 70)) rfl (by kernel_rfl) hQ (R.shut (j := 54) rfl f67 (Ord.ne_undef _)) hS (F.lt (by decide)) fun a61 N => ?_
  replace F := F.next N (by decide)
  replace f48 := N.keep 48 _ (by decide) f48
  replace f55 := N.keep 55 _ (by decide) f55
  replace f67 := N.keep 67 _ (by decide) f67
  replace f73 := N.keep 73 _ (by decide) f73
  have f74 := N.got
  clear N a60
  refine Ord.skip R (k := 62) (bs' := (Ord.upto 63 70)) rfl (by kernel_rfl) hQ (R.shut (j := 54) rfl f67 (Ord.ne_undef _)) hS (F.lt (by decide)) fun a62 N => ?_
  replace F := F.next N (by decide)
  replace f48 := N.keep 48 _ (by decide) f48
  replace f55 := N.keep 55 _ (by decide) f55
  replace f67 := N.keep 67 _ (by decide) f67
  replace f73 := N.keep 73 _ (by decide) f73
  replace f74 := N.keep 74 _ (by decide) f74
  have f75 := N.got
  clear N a61
  refine Ord.skip R (k := 63) (bs' := (Ord.upto 64 70)) rfl (by kernel_rfl) hQ (R.shut (j := 54) rfl f67 (Ord.ne_undef _)) hS (F.lt (by decide)) fun a63 N => ?_
  replace F := F.next N (by decide)
  replace f48 := N.keep 48 _ (by decide) f48
  replace f55 := N.keep 55 _ (by decide) f55
  replace f67 := N.keep 67 _ (by decide) f67
  replace f73 := N.keep 73 _ (by decide) f73
  clear f74
  clear f75
  have f76 := N.got
  clear N a62
  refine Ord.skip R (k := 64) (bs' := (Ord.upto 65 70)) rfl (by kernel_rfl) hQ (R.shut (j := 54) rfl f67 (Ord.ne_undef _)) hS (F.lt (by decide)) fun a64 N => ?_
  replace F := F.next N (by decide)
  replace f48 := N.keep 48 _ (by decide) f48
  replace f55 := N.keep 55 _ (by decide) f55
  replace f67 := N.keep 67 _ (by decide) f67
  replace f73 := N.keep 73 _ (by decide) f73
  clear f76
  have f77 := N.got
  clear N a63
  refine Ord.skip R (k := 65) (bs' := (Ord.upto 66 70)) rfl (by kernel_rfl) hQ (R.shut (j := 54) rfl f67 (Ord.ne_undef _)) hS (F.lt (by decide)) fun a65 N => ?_
  replace F := F.next N (by decide)
  replace f48 := N.keep 48 _ (by decide) f48
  replace f55 := N.keep 55 _ (by decide) f55
  replace f67 := N.keep 67 _ (by decide) f67
  replace f73 := N.keep 73 _ (by decide) f73
  clear f77
  have f78 := N.got
  clear N a64
  refine Ord.skip R (k := 66) (bs' := (Ord.upto 67 70)) rfl (by kernel_rfl) hQ (R.shut (j := 54) rfl f67 (Ord.ne_undef _)) hS (F.lt (by decide)) fun a66 N => ?_
  replace F := F.next N (by decide)
  replace f48 := N.keep 48 _ (by decide) f48
  replace f55 := N.keep 55 _ (by decide) f55
  replace f67 := N.keep 67 _ (by decide) f67
  clear f73
  clear f78
  have f79 := N.got
  clear N a65
  refine Ord.skip R (k := 67) (bs' := (Ord.upto 68 70)) rfl (by kernel_rfl) hQ (R.shut (j := 42) rfl f55 (Ord.ne_not rfl)) hS (F.lt (by decide)) fun a67 N => ?_
  replace F := F.next N (by decide)
  replace f48 := N.keep 48 _ (by decide) f48
  replace f55 := N.keep 55 _ (by decide) f55
  clear f67
  clear f79
  have f80 := N.got
  clear N a66
  refine Ord.take R (k := 68) (v := Go.Value.bool false) (bs' := (Ord.upto 69 70)) rfl (by kernel_rfl) hQ (R.opened (j := 35) rfl f48) hS (fun w _ hS => Ord.ev_pick_no f55.ev rfl) (F.lt (by decide)) fun a68 N => ?_
  replace F := F.next N (by decide)
  replace f48 := N.keep 48 _ (by decide) f48
  clear f55
  clear f80
  have f81 := N.got
  clear N a67
  refine Ord.take R (k := 69) (v := Go.Value.bool false) (bs' := (Ord.upto 70 70)) rfl (by kernel_rfl) hQ trivial hS (fun w _ hS => Ord.ev_pick_no f48.ev f81.ev) (F.lt (by decide)) fun a69 N => ?_
  replace F := F.next N (by decide)
  clear f48
  clear f81
  have f82 := N.got
  clear N a68
  exact Ord.finish R (by kernel_rfl) (h _ _ F f82 hS)

set_option maxRecDepth 100000 in
theorem refRow_first {ops : Array Oper} {Q : Exit → Act → World → Prop} (R : Ord.Reg ops refRowL) (hQ : ∀ c a w d v, Q (.panic c) (Act.put a (some d) v) w → Q (.panic c) a w) {w0 : World} {b off n cc k : Nat} {r m a0 : Int}
    (_hk0 : (0 : Int) ≤ (k : Int)) (_hkn : (k : Int) < (n : Int)) (c0 : ∀ w, Below w0.heap.size w0 w → w.cell? ⟨b, off + k * 3, none⟩ = some (.int .i32 r)) (c1 : ∀ w, Below w0.heap.size w0 w → w.cell? ⟨b, off + k * 3 + 1, none⟩ = some (.int .i64 m)) (c2 : ∀ w, Below w0.heap.size w0 w → w.cell? ⟨b, off + k * 3 + 2, none⟩ = some (.int .i64 a0)) (hC : ∀ w, Calls Tryd.prog 55 #[cellV r m a0] w fun e w' => e = .returned (.bool true) ∧ Below w.heap.size w w') (hm : (m == 2) = false) (hm0 : (m == 0) = true) (hi : ((k : Int) == 0) = true)
    {p0 p1 p5 p6 : Value} (a : Act) (w : World) (F : RowFr b off n cc k p0 p1 p5 p6 a) (hS : Below w0.heap.size w0 w)
    (h : ∀ a w, RowFr b off n cc k p0 p1 p5 p6 a → Chain.At a 82 (.bool true) → Below w0.heap.size w0 w → Q .normal a w) :
    wpAnyH Tryd.prog .any ops Q (fun w' => Below w0.heap.size w0 w') 70 (List.replicate 70 false).toArray a w := by
  refine Ord.take R (k := 0) (v := .slice (some ⟨b, off, none⟩) n cc) (bs' := (Ord.upto 1 70)) rfl (by kernel_rfl) hQ trivial hS (fun w _ hS => Chain.ev_move F.s3.ev) (F.lt (by decide)) fun a0 N => ?_
  replace F := F.next N (by decide)
  have f13 := N.got
  clear N a
  refine Ord.take R (k := 1) (v := .int .i64 (k : Int)) (bs' := (Ord.upto 2 70)) rfl (by kernel_rfl) hQ trivial hS (fun w _ hS => Chain.ev_move F.s4.ev) (F.lt (by decide)) fun a1 N => ?_
  replace F := F.next N (by decide)
  replace f13 := N.keep 13 _ (by decide) f13
  have f14 := N.got
  clear N a0
  refine Ord.take R (k := 2) (v := .pointer (some ⟨b, off + k * 3, none⟩)) (bs' := (Ord.upto 3 70)) rfl (by kernel_rfl) hQ trivial hS (fun w _ hS => by have e13 := f13; unfold Chain.At at e13; have e14 := f14; unfold Chain.At at e14; clear F; go_simp) (F.lt (by decide)) fun a2 N => ?_
  replace F := F.next N (by decide)
  clear f13
  clear f14
  have f15 := N.got
  clear N a1
  refine Ord.take R (k := 3) (v := cellV r m a0) (bs' := (Ord.upto 4 70)) rfl (by kernel_rfl) hQ trivial hS (fun w _ hS => by have e15 := f15; unfold Chain.At at e15; have q0 := c0 w hS; have q1 := c1 w hS; have q2 := c2 w hS; clear F; go_simp) (F.lt (by decide)) fun a3 N => ?_
  replace F := F.next N (by decide)
  clear f15
  have f16 := N.got
  clear N a2
  refine Ord.call R (k := 4) (args := #[cellV r m a0]) (bs' := (Ord.upto 5 70)) rfl (by kernel_rfl) trivial (by simp [f16.ev]) (by kernel_rfl) (hC _) (F.lt (by decide)) ?_
  rintro e w ⟨rfl, hb⟩
  replace hS := hS.trans (hb.mono hS.size)
  refine ⟨_, rfl, hS, fun a4 N => ?_⟩
  replace F := F.next N (by decide)
  clear f16
  have f17 := N.got
  clear N a3
  refine Ord.take R (k := 5) (v := .bool false) (bs' := (Ord.upto 6 70)) rfl (by kernel_rfl) hQ trivial hS (fun w _ hS => by have e17 := f17; unfold Chain.At at e17; clear F; go_simp) (F.lt (by decide)) fun a5 N => ?_
  replace F := F.next N (by decide)
  clear f17
  have f18 := N.got
  clear N a4
  refine Ord.take R (k := 6) (v := .bool false) (bs' := (Ord.upto 7 70)) rfl (by kernel_rfl) hQ trivial hS (fun w _ hS => Chain.ev_move f18.ev) (F.lt (by decide)) fun a6 N => ?_
  replace F := F.next N (by decide)
  clear f18
  have f19 := N.got
  clear N a5
  refine Ord.take R (k := 7) (v := .slice (some ⟨b, off, none⟩) n cc) (bs' := (Ord.upto 8 70)) rfl (by kernel_rfl) hQ (R.opened (j := 6) rfl f19) hS (fun w _ hS => Chain.ev_move F.s3.ev) (F.lt (by decide)) fun a7 N => ?_
  replace F := F.next N (by decide)
  replace f19 := N.keep 19 _ (by decide) f19
  have f20 := N.got
  clear N a6
  refine Ord.take R (k := 8) (v := .int .i64 (k : Int)) (bs' := (Ord.upto 9 70)) rfl (by kernel_rfl) hQ (R.opened (j := 6) rfl f19) hS (fun w _ hS => Chain.ev_move F.s4.ev) (F.lt (by decide)) fun a8 N => ?_
  replace F := F.next N (by decide)
  replace f19 := N.keep 19 _ (by decide) f19
  replace f20 := N.keep 20 _ (by decide) f20
  have f21 := N.got
  clear N a7
  refine Ord.take R (k := 9) (v := .pointer (some ⟨b, off + k * 3, none⟩)) (bs' := (Ord.upto 10 70)) rfl (by kernel_rfl) hQ (R.opened (j := 6) rfl f19) hS (fun w _ hS => by have e20 := f20; unfold Chain.At at e20; have e21 := f21; unfold Chain.At at e21; clear F; go_simp) (F.lt (by decide)) fun a9 N => ?_
  replace F := F.next N (by decide)
  replace f19 := N.keep 19 _ (by decide) f19
  clear f20
  clear f21
  have f22 := N.got
  clear N a8
  refine Ord.take R (k := 10) (v := .pointer (some ⟨b, off + k * 3 + 1, none⟩)) (bs' := (Ord.upto 11 70)) rfl (by kernel_rfl) hQ (R.opened (j := 6) rfl f19) hS (fun w _ hS => by have e22 := f22; unfold Chain.At at e22; clear F; go_simp) (F.lt (by decide)) fun a10 N => ?_
  replace F := F.next N (by decide)
  replace f19 := N.keep 19 _ (by decide) f19
  clear f22
  have f23 := N.got
  clear N a9
  refine Ord.take R (k := 11) (v := .int .i64 m) (bs' := (Ord.upto 12 70)) rfl (by kernel_rfl) hQ (R.opened (j := 6) rfl f19) hS (fun w _ hS => by have e23 := f23; unfold Chain.At at e23; have q0 := c1 w hS; clear F; go_simp) (F.lt (by decide)) fun a11 N => ?_
  replace F := F.next N (by decide)
  replace f19 := N.keep 19 _ (by decide) f19
  clear f23
  have f24 := N.got
  clear N a10
  refine Ord.take R (k := 12) (v := .bool false) (bs' := (Ord.upto 13 70)) rfl (by kernel_rfl) hQ (R.opened (j := 6) rfl f19) hS (fun w _ hS => by have e24 := f24; unfold Chain.At at e24; have q0 := hm; clear F; go_simp) (F.lt (by decide)) fun a12 N => ?_
  replace F := F.next N (by decide)
  replace f19 := N.keep 19 _ (by decide) f19
  clear f24
  have f25 := N.got
  clear N a11
  refine Ord.take R (k := 13) (v := .bool false) (bs' := (Ord.upto 14 70)) rfl (by kernel_rfl) hQ (R.opened (j := 6) rfl f19) hS (fun w _ hS => Chain.ev_move f25.ev) (F.lt (by decide)) fun a13 N => ?_
  replace F := F.next N (by decide)
  replace f19 := N.keep 19 _ (by decide) f19
  clear f25
  have f26 := N.got
  clear N a12
  refine Ord.skip R (k := 14) (bs' := (Ord.upto 15 70)) rfl (by kernel_rfl) hQ (R.shut (j := 13) rfl f26 (Ord.ne_not rfl)) hS (F.lt (by decide)) fun a14 N => ?_
  replace F := F.next N (by decide)
  replace f19 := N.keep 19 _ (by decide) f19
  replace f26 := N.keep 26 _ (by decide) f26
  have f27 := N.got
  clear N a13
  refine Ord.skip R (k := 15) (bs' := (Ord.upto 16 70)) rfl (by kernel_rfl) hQ (R.shut (j := 13) rfl f26 (Ord.ne_not rfl)) hS (F.lt (by decide)) fun a15 N => ?_
  replace F := F.next N (by decide)
  replace f19 := N.keep 19 _ (by decide) f19
  replace f26 := N.keep 26 _ (by decide) f26
  clear f27
  have f28 := N.got
  clear N a14
  refine Ord.skip R (k := 16) (bs' := (Ord.upto 17 70)) rfl (by kernel_rfl) hQ (R.shut (j := 13) rfl f26 (Ord.ne_not rfl)) hS (F.lt (by decide)) fun a16 N => ?_
  replace F := F.next N (by decide)
  replace f19 := N.keep 19 _ (by decide) f19
  replace f26 := N.keep 26 _ (by decide) f26
  replace f28 := N.keep 28 _ (by decide) f28
  have f29 := N.got
  clear N a15
  refine Ord.skip R (k := 17) (bs' := (Ord.upto 18 70)) rfl (by kernel_rfl) hQ (R.shut (j := 13) rfl f26 (Ord.ne_not rfl)) hS (F.lt (by decide)) fun a17 N => ?_
  replace F := F.next N (by decide)
  replace f19 := N.keep 19 _ (by decide) f19
  replace f26 := N.keep 26 _ (by decide) f26
  replace f28 := N.keep 28 _ (by decide) f28
  clear f29
  have f30 := N.got
  clear N a16
  refine Ord.skip R (k := 18) (bs' := (Ord.upto 19 70)) rfl (by kernel_rfl) hQ (R.shut (j := 13) rfl f26 (Ord.ne_not rfl)) hS (F.lt (by decide)) fun a18 N => ?_
  replace F := F.next N (by decide)
  replace f19 := N.keep 19 _ (by decide) f19
  replace f26 := N.keep 26 _ (by decide) f26
  clear f28
  clear f30
  have f31 := N.got
  clear N a17
  refine Ord.skip R (k := 19) (bs' := (Ord.upto 20 70)) rfl (by kernel_rfl) hQ (R.shut (j := 13) rfl f26 (Ord.ne_not rfl)) hS (F.lt (by decide)) fun a19 N => ?_
  replace F := F.next N (by decide)
  replace f19 := N.keep 19 _ (by decide) f19
  replace f26 := N.keep 26 _ (by decide) f26
  clear f31
  have f32 := N.got
  clear N a18
  refine Ord.skip R (k := 20) (bs' := (Ord.upto 21 70)) rfl (by kernel_rfl) hQ (R.shut (j := 19) rfl f32 (Ord.ne_undef _)) hS (F.lt (by decide)) fun a20 N => ?_
  replace F := F.next N (by decide)
  replace f19 := N.keep 19 _ (by decide) f19
  replace f26 := N.keep 26 _ (by decide) f26
  replace f32 := N.keep 32 _ (by decide) f32
  have f33 := N.got
  clear N a19
  refine Ord.skip R (k := 21) (bs' := (Ord.upto 22 70)) rfl (by kernel_rfl) hQ (R.shut (j := 19) rfl f32 (Ord.ne_undef _)) hS (F.lt (by decide)) fun a21 N => ?_
  replace F := F.next N (by decide)
  replace f19 := N.keep 19 _ (by decide) f19
  replace f26 := N.keep 26 _ (by decide) f26
  replace f32 := N.keep 32 _ (by decide) f32
  replace f33 := N.keep 33 _ (by decide) f33
  have f34 := N.got
  clear N a20
  refine Ord.skip R (k := 22) (bs' := (Ord.upto 23 70)) rfl (by kernel_rfl) hQ (R.shut (j := 19) rfl f32 (Ord.ne_undef _)) hS (F.lt (by decide)) fun a22 N => ?_
  replace F := F.next N (by decide)
  replace f19 := N.keep 19 _ (by decide) f19
  replace f26 := N.keep 26 _ (by decide) f26
  replace f32 := N.keep 32 _ (by decide) f32
  replace f33 := N.keep 33 _ (by decide) f33
  clear f34
  have f35 := N.got
  clear N a21
  refine Ord.skip R (k := 23) (bs' := (Ord.upto 24 70)) rfl (by kernel_rfl) hQ (R.shut (j := 19) rfl f32 (Ord.ne_undef _)) hS (F.lt (by decide)) fun a23 N => ?_
  replace F := F.next N (by decide)
  replace f19 := N.keep 19 _ (by decide) f19
  replace f26 := N.keep 26 _ (by decide) f26
  replace f32 := N.keep 32 _ (by decide) f32
  clear f33
  clear f35
  have f36 := N.got
  clear N a22
  refine Ord.skip R (k := 24) (bs' := (Ord.upto 25 70)) rfl (by kernel_rfl) hQ (R.shut (j := 19) rfl f32 (Ord.ne_undef _)) hS (F.lt (by decide)) fun a24 N => ?_
  replace F := F.next N (by decide)
  replace f19 := N.keep 19 _ (by decide) f19
  replace f26 := N.keep 26 _ (by decide) f26
  replace f32 := N.keep 32 _ (by decide) f32
  clear f36
  have f37 := N.got
  clear N a23
  refine Ord.skip R (k := 25) (bs' := (Ord.upto 26 70)) rfl (by kernel_rfl) hQ (R.shut (j := 19) rfl f32 (Ord.ne_undef _)) hS (F.lt (by decide)) fun a25 N => ?_
  replace F := F.next N (by decide)
  replace f19 := N.keep 19 _ (by decide) f19
  replace f26 := N.keep 26 _ (by decide) f26
  replace f32 := N.keep 32 _ (by decide) f32
  replace f37 := N.keep 37 _ (by decide) f37
  have f38 := N.got
  clear N a24
  refine Ord.skip R (k := 26) (bs' := (Ord.upto 27 70)) rfl (by kernel_rfl) hQ (R.shut (j := 19) rfl f32 (Ord.ne_undef _)) hS (F.lt (by decide)) fun a26 N => ?_
  replace F := F.next N (by decide)
  replace f19 := N.keep 19 _ (by decide) f19
  replace f26 := N.keep 26 _ (by decide) f26
  replace f32 := N.keep 32 _ (by decide) f32
  replace f37 := N.keep 37 _ (by decide) f37
  replace f38 := N.keep 38 _ (by decide) f38
  have f39 := N.got
  clear N a25
  refine Ord.skip R (k := 27) (bs' := (Ord.upto 28 70)) rfl (by kernel_rfl) hQ (R.shut (j := 19) rfl f32 (Ord.ne_undef _)) hS (F.lt (by decide)) fun a27 N => ?_
  replace F := F.next N (by decide)
  replace f19 := N.keep 19 _ (by decide) f19
  replace f26 := N.keep 26 _ (by decide) f26
  replace f32 := N.keep 32 _ (by decide) f32
  replace f37 := N.keep 37 _ (by decide) f37
  clear f38
  clear f39
  have f40 := N.got
  clear N a26
  refine Ord.skip R (k := 28) (bs' := (Ord.upto 29 70)) rfl (by kernel_rfl) hQ (R.shut (j := 19) rfl f32 (Ord.ne_undef _)) hS (F.lt (by decide)) fun a28 N => ?_
  replace F := F.next N (by decide)
  replace f19 := N.keep 19 _ (by decide) f19
  replace f26 := N.keep 26 _ (by decide) f26
  replace f32 := N.keep 32 _ (by decide) f32
  replace f37 := N.keep 37 _ (by decide) f37
  clear f40
  have f41 := N.got
  clear N a27
  refine Ord.skip R (k := 29) (bs' := (Ord.upto 30 70)) rfl (by kernel_rfl) hQ (R.shut (j := 19) rfl f32 (Ord.ne_undef _)) hS (F.lt (by decide)) fun a29 N => ?_
  replace F := F.next N (by decide)
  replace f19 := N.keep 19 _ (by decide) f19
  replace f26 := N.keep 26 _ (by decide) f26
  replace f32 := N.keep 32 _ (by decide) f32
  replace f37 := N.keep 37 _ (by decide) f37
  clear f41
  have f42 := N.got
  clear N a28
  refine Ord.skip R (k := 30) (bs' := (Ord.upto 31 70)) rfl (by kernel_rfl) hQ (R.shut (j := 19) rfl f32 (Ord.ne_undef _)) hS (F.lt (by decide)) fun a30 N => ?_
  replace F := F.next N (by decide)
  replace f19 := N.keep 19 _ (by decide) f19
  replace f26 := N.keep 26 _ (by decide) f26
  replace f32 := N.keep 32 _ (by decide) f32
  replace f37 := N.keep 37 _ (by decide) f37
  clear f42
  have f43 := N.got
  clear N a29
  refine Ord.skip R (k := 31) (bs' := (Ord.upto 32 70)) rfl (by kernel_rfl) hQ (R.shut (j := 19) rfl f32 (Ord.ne_undef _)) hS (F.lt (by decide)) fun a31 N => ?_
  replace F := F.next N (by decide)
  replace f19 := N.keep 19 _ (by decide) f19
  replace f26 := N.keep 26 _ (by decide) f26
  replace f32 := N.keep 32 _ (by decide) f32
  clear f37
  clear f43
  have f44 := N.got
  clear N a30
  refine Ord.skip R (k := 32) (bs' := (Ord.upto 33 70)) rfl (by kernel_rfl) hQ (R.shut (j := 13) rfl f26 (Ord.ne_not rfl)) hS (F.lt (by decide)) fun a32 N => ?_
  replace F := F.next N (by decide)
  replace f19 := N.keep 19 _ (by decide) f19
  replace f26 := N.keep 26 _ (by decide) f26
  clear f32
  clear f44
  have f45 := N.got
  clear N a31
  refine Ord.take R (k := 33) (v := Go.Value.bool false) (bs' := (Ord.upto 34 70)) rfl (by kernel_rfl) hQ (R.opened (j := 6) rfl f19) hS (fun w _ hS => Ord.ev_pick_no f26.ev rfl) (F.lt (by decide)) fun a33 N => ?_
  replace F := F.next N (by decide)
  replace f19 := N.keep 19 _ (by decide) f19
  clear f26
  clear f45
  have f46 := N.got
  clear N a32
  refine Ord.take R (k := 34) (v := Go.Value.bool false) (bs' := (Ord.upto 35 70)) rfl (by kernel_rfl) hQ trivial hS (fun w _ hS => Ord.ev_pick_no f19.ev f46.ev) (F.lt (by decide)) fun a34 N => ?_
  replace F := F.next N (by decide)
  clear f19
  clear f46
  have f47 := N.got
  clear N a33
  refine Ord.take R (k := 35) (v := Go.Value.bool false) (bs' := (Ord.upto 36 70)) rfl (by kernel_rfl) hQ trivial hS (fun w _ hS => Chain.ev_move f47.ev) (F.lt (by decide)) fun a35 N => ?_
  replace F := F.next N (by decide)
  clear f47
  have f48 := N.got
  clear N a34
  refine Ord.take R (k := 36) (v := .slice (some ⟨b, off, none⟩) n cc) (bs' := (Ord.upto 37 70)) rfl (by kernel_rfl) hQ (R.opened (j := 35) rfl f48) hS (fun w _ hS => Chain.ev_move F.s3.ev) (F.lt (by decide)) fun a36 N => ?_
  replace F := F.next N (by decide)
  replace f48 := N.keep 48 _ (by decide) f48
  have f49 := N.got
  clear N a35
  refine Ord.take R (k := 37) (v := .int .i64 (k : Int)) (bs' := (Ord.upto 38 70)) rfl (by kernel_rfl) hQ (R.opened (j := 35) rfl f48) hS (fun w _ hS => Chain.ev_move F.s4.ev) (F.lt (by decide)) fun a37 N => ?_
  replace F := F.next N (by decide)
  replace f48 := N.keep 48 _ (by decide) f48
  replace f49 := N.keep 49 _ (by decide) f49
  have f50 := N.got
  clear N a36
  refine Ord.take R (k := 38) (v := .pointer (some ⟨b, off + k * 3, none⟩)) (bs' := (Ord.upto 39 70)) rfl (by kernel_rfl) hQ (R.opened (j := 35) rfl f48) hS (fun w _ hS => by have e49 := f49; unfold Chain.At at e49; have e50 := f50; unfold Chain.At at e50; clear F; go_simp) (F.lt (by decide)) fun a38 N => ?_
  replace F := F.next N (by decide)
  replace f48 := N.keep 48 _ (by decide) f48
  clear f49
  clear f50
  have f51 := N.got
  clear N a37
  refine Ord.take R (k := 39) (v := .pointer (some ⟨b, off + k * 3 + 1, none⟩)) (bs' := (Ord.upto 40 70)) rfl (by kernel_rfl) hQ (R.opened (j := 35) rfl f48) hS (fun w _ hS => by have e51 := f51; unfold Chain.At at e51; clear F; go_simp) (F.lt (by decide)) fun a39 N => ?_
  replace F := F.next N (by decide)
  replace f48 := N.keep 48 _ (by decide) f48
  clear f51
  have f52 := N.got
  clear N a38
  refine Ord.take R (k := 40) (v := .int .i64 m) (bs' := (Ord.upto 41 70)) rfl (by kernel_rfl) hQ (R.opened (j := 35) rfl f48) hS (fun w _ hS => by have e52 := f52; unfold Chain.At at e52; have q0 := c1 w hS; clear F; go_simp) (F.lt (by decide)) fun a40 N => ?_
  replace F := F.next N (by decide)
  replace f48 := N.keep 48 _ (by decide) f48
  clear f52
  have f53 := N.got
  clear N a39
  refine Ord.take R (k := 41) (v := .bool true) (bs' := (Ord.upto 42 70)) rfl (by kernel_rfl) hQ (R.opened (j := 35) rfl f48) hS (fun w _ hS => by have e53 := f53; unfold Chain.At at e53; have q0 := hm0; clear F; go_simp) (F.lt (by decide)) fun a41 N => ?_
  replace F := F.next N (by decide)
  replace f48 := N.keep 48 _ (by decide) f48
  clear f53
  have f54 := N.got
  clear N a40
  refine Ord.take R (k := 42) (v := .bool true) (bs' := (Ord.upto 43 70)) rfl (by kernel_rfl) hQ (R.opened (j := 35) rfl f48) hS (fun w _ hS => Chain.ev_move f54.ev) (F.lt (by decide)) fun a42 N => ?_
  replace F := F.next N (by decide)
  replace f48 := N.keep 48 _ (by decide) f48
  clear f54
  have f55 := N.got
  clear N a41
  refine Ord.take R (k := 43) (v := .int .i64 (k : Int)) (bs' := (Ord.upto 44 70)) rfl (by kernel_rfl) hQ (R.opened (j := 42) rfl f55) hS (fun w _ hS => Chain.ev_move F.s4.ev) (F.lt (by decide)) fun a43 N => ?_
  replace F := F.next N (by decide)
  replace f48 := N.keep 48 _ (by decide) f48
  replace f55 := N.keep 55 _ (by decide) f55
  have f56 := N.got
  clear N a42
  refine Ord.take R (k := 44) (v := .bool true) (bs' := (Ord.upto 45 70)) rfl (by kernel_rfl) hQ (R.opened (j := 42) rfl f55) hS (fun w _ hS => by have e56 := f56; unfold Chain.At at e56; have q0 := hi; clear F; go_simp) (F.lt (by decide)) fun a44 N => ?_
  replace F := F.next N (by decide)
  replace f48 := N.keep 48 _ (by decide) f48
  replace f55 := N.keep 55 _ (by decide) f55
  clear f56
  have f57 := N.got
  clear N a43
  refine Ord.take R (k := 45) (v := .bool true) (bs' := (Ord.upto 46 70)) rfl (by kernel_rfl) hQ (R.opened (j := 42) rfl f55) hS (fun w _ hS => Chain.ev_move f57.ev) (F.lt (by decide)) fun a45 N => ?_
  replace F := F.next N (by decide)
  replace f48 := N.keep 48 _ (by decide) f48
  replace f55 := N.keep 55 _ (by decide) f55
  clear f57
  have f58 := N.got
  clear N a44
  refine Ord.skip R (k := 46) (bs' := (Ord.upto 47 70)) rfl (by kernel_rfl) hQ (R.shut (j := 45) rfl f58 (Ord.ne_not rfl)) hS (F.lt (by decide)) fun a46 N => ?_
  replace F := F.next N (by decide)
  replace f48 := N.keep 48 _ (by decide) f48
  replace f55 := N.keep 55 _ (by decide) f55
  replace f58 := N.keep 58 _ (by decide) f58
  have f59 := N.got
  clear N a45
  refine Ord.skip R (k := 47) (bs' := (Ord.upto 48 70)) rfl (by kernel_rfl) hQ (R.shut (j := 45) rfl f58 (Ord.ne_not rfl)) hS (F.lt (by decide)) fun a47 N => ?_
  replace F := F.next N (by decide)
  replace f48 := N.keep 48 _ (by decide) f48
  replace f55 := N.keep 55 _ (by decide) f55
  replace f58 := N.keep 58 _ (by decide) f58
  replace f59 := N.keep 59 _ (by decide) f59
  have f60 := N.got
  clear N a46
  refine Ord.skip R (k := 48) (bs' := (Ord.upto 49 70)) rfl (by kernel_rfl) hQ (R.shut (j := 45) rfl f58 (Ord.ne_not rfl)) hS (F.lt (by decide)) fun a48 N => ?_
  replace F := F.next N (by decide)
  replace f48 := N.keep 48 _ (by decide) f48
  replace f55 := N.keep 55 _ (by decide) f55
  replace f58 := N.keep 58 _ (by decide) f58
  replace f59 := N.keep 59 _ (by decide) f59
  clear f60
  have f61 := N.got
  clear N a47
  refine Ord.skip R (k := 49) (bs' := (Ord.upto 50 70)) rfl (by kernel_rfl) hQ (R.shut (j := 45) rfl f58 (Ord.ne_not rfl)) hS (F.lt (by decide)) fun a49 N => ?_
  replace F := F.next N (by decide)
  replace f48 := N.keep 48 _ (by decide) f48
  replace f55 := N.keep 55 _ (by decide) f55
  replace f58 := N.keep 58 _ (by decide) f58
  clear f59
  clear f61
  have f62 := N.got
  clear N a48
  refine Ord.skip R (k := 50) (bs' := (Ord.upto 51 70)) rfl (by kernel_rfl) hQ (R.shut (j := 45) rfl f58 (Ord.ne_not rfl)) hS (F.lt (by decide)) fun a50 N => ?_
  replace F := F.next N (by decide)
  replace f48 := N.keep 48 _ (by decide) f48
  replace f55 := N.keep 55 _ (by decide) f55
  replace f58 := N.keep 58 _ (by decide) f58
  clear f62
  have f63 := N.got
  clear N a49
  refine Ord.skip R (k := 51) (bs' := (Ord.upto 52 70)) rfl (by kernel_rfl) hQ (R.shut (j := 45) rfl f58 (Ord.ne_not rfl)) hS (F.lt (by decide)) fun a51 N => ?_
  replace F := F.next N (by decide)
  replace f48 := N.keep 48 _ (by decide) f48
  replace f55 := N.keep 55 _ (by decide) f55
  replace f58 := N.keep 58 _ (by decide) f58
  clear f63
  have f64 := N.got
  clear N a50
  refine Ord.skip R (k := 52) (bs' := (Ord.upto 53 70)) rfl (by kernel_rfl) hQ (R.shut (j := 45) rfl f58 (Ord.ne_not rfl)) hS (F.lt (by decide)) fun a52 N => ?_
  replace F := F.next N (by decide)
  replace f48 := N.keep 48 _ (by decide) f48
  replace f55 := N.keep 55 _ (by decide) f55
  replace f58 := N.keep 58 _ (by decide) f58
  clear f64
  have f65 := N.got
  clear N a51
  refine Ord.take R (k := 53) (v := Go.Value.bool true) (bs' := (Ord.upto 54 70)) rfl (by kernel_rfl) hQ (R.opened (j := 42) rfl f55) hS (fun w _ hS => Ord.ev_pick_yes f58.ev rfl) (F.lt (by decide)) fun a53 N => ?_
  replace F := F.next N (by decide)
  replace f48 := N.keep 48 _ (by decide) f48
  replace f55 := N.keep 55 _ (by decide) f55
  clear f58
  clear f65
  have f66 := N.got
  clear N a52
  refine Ord.take R (k := 54) (v := Go.Value.bool true) (bs' := (Ord.upto 55 70)) rfl (by kernel_rfl) hQ (R.opened (j := 42) rfl f55) hS (fun w _ hS => Chain.ev_move f66.ev) (F.lt (by decide)) fun a54 N => ?_
  replace F := F.next N (by decide)
  replace f48 := N.keep 48 _ (by decide) f48
  replace f55 := N.keep 55 _ (by decide) f55
  clear f66
  have f67 := N.got
  clear N a53
  refine Ord.skip R (k := 55) (bs' := (Ord.upto 56 70)) rfl (by kernel_rfl) hQ (R.shut (j := 54) rfl f67 (Ord.ne_not rfl)) hS (F.lt (by decide)) fun a55 N => ?_
  replace F := F.next N (by decide)
  replace f48 := N.keep 48 _ (by decide) f48
  replace f55 := N.keep 55 _ (by decide) f55
  replace f67 := N.keep 67 _ (by decide) f67
  have f68 := N.got
  clear N a54
  refine Ord.skip R (k := 56) (bs' := (Ord.upto 57 70)) rfl (by kernel_rfl) hQ (R.shut (j := 54) rfl f67 (Ord.ne_not rfl)) hS (F.lt (by decide)) fun a56 N => ?_
  replace F := F.next N (by decide)
  replace f48 := N.keep 48 _ (by decide) f48
  replace f55 := N.keep 55 _ (by decide) f55
  replace f67 := N.keep 67 _ (by decide) f67
  replace f68 := N.keep 68 _ (by decide) f68
  have f69 := N.got
  clear N a55
  refine Ord.skip R (k := 57) (bs' := (Ord.upto 58 70)) rfl (by kernel_rfl) hQ (R.shut (j := 54) rfl f67 (Ord.ne_not rfl)) hS (F.lt (by decide)) fun a57 N => ?_
  replace F := F.next N (by decide)
  replace f48 := N.keep 48 _ (by decide) f48
  replace f55 := N.keep 55 _ (by decide) f55
  replace f67 := N.keep 67 _ (by decide) f67
  replace f68 := N.keep 68 _ (by decide) f68
  clear f69
  have f70 := N.got
  clear N a56
  refine Ord.skip R (k := 58) (bs' := (Ord.upto 59 70)) rfl (by kernel_rfl) hQ (R.shut (j := 54) rfl f67 (Ord.ne_not rfl)) hS (F.lt (by decide)) fun a58 N => ?_
  replace F := F.next N (by decide)
  replace f48 := N.keep 48 _ (by decide) f48
  replace f55 := N.keep 55 _ (by decide) f55
  replace f67 := N.keep 67 _ (by decide) f67
  clear f68
  clear f70
  have f71 := N.got
  clear N a57
  refine Ord.skip R (k := 59) (bs' := (Ord.upto 60 70)) rfl (by kernel_rfl) hQ (R.shut (j := 54) rfl f67 (Ord.ne_not rfl)) hS (F.lt (by decide)) fun a59 N => ?_
  replace F := F.next N (by decide)
  replace f48 := N.keep 48 _ (by decide) f48
  replace f55 := N.keep 55 _ (by decide) f55
  replace f67 := N.keep 67 _ (by decide) f67
  clear f71
  have f72 := N.got
  clear N a58
  refine Ord.skip R (k := 60) (bs' := (Ord.upto 61 70)) rfl (by kernel_rfl) hQ (R.shut (j := 54) rfl f67 (Ord.ne_not rfl)) hS (F.lt (by decide)) fun a60 N => ?_
  replace F := F.next N (by decide)
  replace f48 := N.keep 48 _ (by decide) f48
  replace f55 := N.keep 55 _ (by decide) f55
  replace f67 := N.keep 67 _ (by decide) f67
  clear f72
  have f73 := N.got
  clear N a59
  refine Ord.skip R (k := 61) (bs' := (Ord.upto 62 70)) rfl (by kernel_rfl) hQ (R.shut (j := 54) rfl f67 (Ord.ne_not rfl)) hS (F.lt (by decide)) fun a61 N => ?_
  replace F := F.next N (by decide)
  replace f48 := N.keep 48 _ (by decide) f48
  replace f55 := N.keep 55 _ (by decide) f55
  replace f67 := N.keep 67 _ (by decide) f67
  replace f73 := N.keep 73 _ (by decide) f73
  have f74 := N.got
  clear N a60
  refine Ord.skip R (k := 62) (bs' := (Ord.upto 63 70)) rfl (by kernel_rfl) hQ (R.shut (j := 54) rfl f67 (Ord.ne_not rfl)) hS (F.lt (by decide)) fun a62 N => ?_
  replace F := F.next N (by decide)
  replace f48 := N.keep 48 _ (by decide) f48
  replace f55 := N.keep 55 _ (by decide) f55
  replace f67 := N.keep 67 _ (by decide) f67
  replace f73 := N.keep 73 _ (by decide) f73
  replace f74 := N.keep 74 _ (by decide) f74
  have f75 := N.got
  clear N a61
  refine Ord.skip R (k := 63) (bs' := (Ord.upto 64 70)) rfl (by kernel_rfl) hQ (R.shut (j := 54) rfl f67 (Ord.ne_not rfl)) hS (F.lt (by decide)) fun a63 N => ?_
  replace F := F.next N (by decide)
  replace f48 := N.keep 48 _ (by decide) f48
  replace f55 := N.keep 55 _ (by decide) f55
  replace f67 := N.keep 67 _ (by decide) f67
  replace f73 := N.keep 73 _ (by decide) f73
  clear f74
  clear f75
  have f76 := N.got
  clear N a62
  refine Ord.skip R (k := 64) (bs' := (Ord.upto 65 70)) rfl (by kernel_rfl) hQ (R.shut (j := 54) rfl f67 (Ord.ne_not rfl)) hS (F.lt (by decide)) fun a64 N => ?_
  replace F := F.next N (by decide)
  replace f48 := N.keep 48 _ (by decide) f48
  replace f55 := N.keep 55 _ (by decide) f55
  replace f67 := N.keep 67 _ (by decide) f67
  replace f73 := N.keep 73 _ (by decide) f73
  clear f76
  have f77 := N.got
  clear N a63
  refine Ord.skip R (k := 65) (bs' := (Ord.upto 66 70)) rfl (by kernel_rfl) hQ (R.shut (j := 54) rfl f67 (Ord.ne_not rfl)) hS (F.lt (by decide)) fun a65 N => ?_
  replace F := F.next N (by decide)
  replace f48 := N.keep 48 _ (by decide) f48
  replace f55 := N.keep 55 _ (by decide) f55
  replace f67 := N.keep 67 _ (by decide) f67
  replace f73 := N.keep 73 _ (by decide) f73
  clear f77
  have f78 := N.got
  clear N a64
  refine Ord.skip R (k := 66) (bs' := (Ord.upto 67 70)) rfl (by kernel_rfl) hQ (R.shut (j := 54) rfl f67 (Ord.ne_not rfl)) hS (F.lt (by decide)) fun a66 N => ?_
  replace F := F.next N (by decide)
  replace f48 := N.keep 48 _ (by decide) f48
  replace f55 := N.keep 55 _ (by decide) f55
  replace f67 := N.keep 67 _ (by decide) f67
  clear f73
  clear f78
  have f79 := N.got
  clear N a65
  refine Ord.take R (k := 67) (v := Go.Value.bool true) (bs' := (Ord.upto 68 70)) rfl (by kernel_rfl) hQ (R.opened (j := 42) rfl f55) hS (fun w _ hS => Ord.ev_pick_yes f67.ev rfl) (F.lt (by decide)) fun a67 N => ?_
  replace F := F.next N (by decide)
  replace f48 := N.keep 48 _ (by decide) f48
  replace f55 := N.keep 55 _ (by decide) f55
  clear f67
  clear f79
  have f80 := N.got
  clear N a66
  refine Ord.take R (k := 68) (v := Go.Value.bool true) (bs' := (Ord.upto 69 70)) rfl (by kernel_rfl) hQ (R.opened (j := 35) rfl f48) hS (fun w _ hS => Ord.ev_pick_yes f55.ev f80.ev) (F.lt (by decide)) fun a68 N => ?_
  replace F := F.next N (by decide)
  replace f48 := N.keep 48 _ (by decide) f48
  clear f55
  clear f80
  have f81 := N.got
  clear N a67
  refine Ord.take R (k := 69) (v := Go.Value.bool true) (bs' := (Ord.upto 70 70)) rfl (by kernel_rfl) hQ trivial hS (fun w _ hS => Ord.ev_pick_no f48.ev f81.ev) (F.lt (by decide)) fun a69 N => ?_
  replace F := F.next N (by decide)
  clear f48
  clear f81
  have f82 := N.got
  clear N a68
  exact Ord.finish R (by kernel_rfl) (h _ _ F f82 hS)

set_option maxRecDepth 100000 in
theorem refRow_alone {ops : Array Oper} {Q : Exit → Act → World → Prop} (R : Ord.Reg ops refRowL) (hQ : ∀ c a w d v, Q (.panic c) (Act.put a (some d) v) w → Q (.panic c) a w) {w0 : World} {b off n cc k : Nat} {r m a0 : Int}
    (_hk0 : (0 : Int) ≤ (k : Int)) (_hkn : (k : Int) < (n : Int)) (c0 : ∀ w, Below w0.heap.size w0 w → w.cell? ⟨b, off + k * 3, none⟩ = some (.int .i32 r)) (c1 : ∀ w, Below w0.heap.size w0 w → w.cell? ⟨b, off + k * 3 + 1, none⟩ = some (.int .i64 m)) (c2 : ∀ w, Below w0.heap.size w0 w → w.cell? ⟨b, off + k * 3 + 2, none⟩ = some (.int .i64 a0)) (hC : ∀ w, Calls Tryd.prog 55 #[cellV r m a0] w fun e w' => e = .returned (.bool true) ∧ Below w.heap.size w w') (hm : (m == 2) = false) (hm0 : (m == 0) = true) {pm pa : Int} (hi : ((k : Int) == 0) = false) (_hx2 : ¬ ((k : Int) < 1)) (hw : IntKind.i64.wrap ((k : Int) - 1) = (k : Int) - 1) (hx0 : (0 : Int) ≤ (k : Int) - 1) (hx1 : (k : Int) - 1 < (n : Int)) (ht : ((k : Int) - 1).toNat = k - 1) (p1c : ∀ w, Below w0.heap.size w0 w → w.cell? ⟨b, off + (k - 1) * 3 + 1, none⟩ = some (.int .i64 pm)) (_p2c : ∀ w, Below w0.heap.size w0 w → w.cell? ⟨b, off + (k - 1) * 3 + 2, none⟩ = some (.int .i64 pa)) (hp : (pm != 2) = true)
    {p0 p1 p5 p6 : Value} (a : Act) (w : World) (F : RowFr b off n cc k p0 p1 p5 p6 a) (hS : Below w0.heap.size w0 w)
    (h : ∀ a w, RowFr b off n cc k p0 p1 p5 p6 a → Chain.At a 82 (.bool true) → Below w0.heap.size w0 w → Q .normal a w) :
    wpAnyH Tryd.prog .any ops Q (fun w' => Below w0.heap.size w0 w') 70 (List.replicate 70 false).toArray a w := by
  refine Ord.take R (k := 0) (v := .slice (some ⟨b, off, none⟩) n cc) (bs' := (Ord.upto 1 70)) rfl (by kernel_rfl) hQ trivial hS (fun w _ hS => Chain.ev_move F.s3.ev) (F.lt (by decide)) fun a0 N => ?_
  replace F := F.next N (by decide)
  have f13 := N.got
  clear N a
  refine Ord.take R (k := 1) (v := .int .i64 (k : Int)) (bs' := (Ord.upto 2 70)) rfl (by kernel_rfl) hQ trivial hS (fun w _ hS => Chain.ev_move F.s4.ev) (F.lt (by decide)) fun a1 N => ?_
  replace F := F.next N (by decide)
  replace f13 := N.keep 13 _ (by decide) f13
  have f14 := N.got
  clear N a0
  refine Ord.take R (k := 2) (v := .pointer (some ⟨b, off + k * 3, none⟩)) (bs' := (Ord.upto 3 70)) rfl (by kernel_rfl) hQ trivial hS (fun w _ hS => by have e13 := f13; unfold Chain.At at e13; have e14 := f14; unfold Chain.At at e14; clear F; go_simp) (F.lt (by decide)) fun a2 N => ?_
  replace F := F.next N (by decide)
  clear f13
  clear f14
  have f15 := N.got
  clear N a1
  refine Ord.take R (k := 3) (v := cellV r m a0) (bs' := (Ord.upto 4 70)) rfl (by kernel_rfl) hQ trivial hS (fun w _ hS => by have e15 := f15; unfold Chain.At at e15; have q0 := c0 w hS; have q1 := c1 w hS; have q2 := c2 w hS; clear F; go_simp) (F.lt (by decide)) fun a3 N => ?_
  replace F := F.next N (by decide)
  clear f15
  have f16 := N.got
  clear N a2
  refine Ord.call R (k := 4) (args := #[cellV r m a0]) (bs' := (Ord.upto 5 70)) rfl (by kernel_rfl) trivial (by simp [f16.ev]) (by kernel_rfl) (hC _) (F.lt (by decide)) ?_
  rintro e w ⟨rfl, hb⟩
  replace hS := hS.trans (hb.mono hS.size)
  refine ⟨_, rfl, hS, fun a4 N => ?_⟩
  replace F := F.next N (by decide)
  clear f16
  have f17 := N.got
  clear N a3
  refine Ord.take R (k := 5) (v := .bool false) (bs' := (Ord.upto 6 70)) rfl (by kernel_rfl) hQ trivial hS (fun w _ hS => by have e17 := f17; unfold Chain.At at e17; clear F; go_simp) (F.lt (by decide)) fun a5 N => ?_
  replace F := F.next N (by decide)
  clear f17
  have f18 := N.got
  clear N a4
  refine Ord.take R (k := 6) (v := .bool false) (bs' := (Ord.upto 7 70)) rfl (by kernel_rfl) hQ trivial hS (fun w _ hS => Chain.ev_move f18.ev) (F.lt (by decide)) fun a6 N => ?_
  replace F := F.next N (by decide)
  clear f18
  have f19 := N.got
  clear N a5
  refine Ord.take R (k := 7) (v := .slice (some ⟨b, off, none⟩) n cc) (bs' := (Ord.upto 8 70)) rfl (by kernel_rfl) hQ (R.opened (j := 6) rfl f19) hS (fun w _ hS => Chain.ev_move F.s3.ev) (F.lt (by decide)) fun a7 N => ?_
  replace F := F.next N (by decide)
  replace f19 := N.keep 19 _ (by decide) f19
  have f20 := N.got
  clear N a6
  refine Ord.take R (k := 8) (v := .int .i64 (k : Int)) (bs' := (Ord.upto 9 70)) rfl (by kernel_rfl) hQ (R.opened (j := 6) rfl f19) hS (fun w _ hS => Chain.ev_move F.s4.ev) (F.lt (by decide)) fun a8 N => ?_
  replace F := F.next N (by decide)
  replace f19 := N.keep 19 _ (by decide) f19
  replace f20 := N.keep 20 _ (by decide) f20
  have f21 := N.got
  clear N a7
  refine Ord.take R (k := 9) (v := .pointer (some ⟨b, off + k * 3, none⟩)) (bs' := (Ord.upto 10 70)) rfl (by kernel_rfl) hQ (R.opened (j := 6) rfl f19) hS (fun w _ hS => by have e20 := f20; unfold Chain.At at e20; have e21 := f21; unfold Chain.At at e21; clear F; go_simp) (F.lt (by decide)) fun a9 N => ?_
  replace F := F.next N (by decide)
  replace f19 := N.keep 19 _ (by decide) f19
  clear f20
  clear f21
  have f22 := N.got
  clear N a8
  refine Ord.take R (k := 10) (v := .pointer (some ⟨b, off + k * 3 + 1, none⟩)) (bs' := (Ord.upto 11 70)) rfl (by kernel_rfl) hQ (R.opened (j := 6) rfl f19) hS (fun w _ hS => by have e22 := f22; unfold Chain.At at e22; clear F; go_simp) (F.lt (by decide)) fun a10 N => ?_
  replace F := F.next N (by decide)
  replace f19 := N.keep 19 _ (by decide) f19
  clear f22
  have f23 := N.got
  clear N a9
  refine Ord.take R (k := 11) (v := .int .i64 m) (bs' := (Ord.upto 12 70)) rfl (by kernel_rfl) hQ (R.opened (j := 6) rfl f19) hS (fun w _ hS => by have e23 := f23; unfold Chain.At at e23; have q0 := c1 w hS; clear F; go_simp) (F.lt (by decide)) fun a11 N => ?_
  replace F := F.next N (by decide)
  replace f19 := N.keep 19 _ (by decide) f19
  clear f23
  have f24 := N.got
  clear N a10
  refine Ord.take R (k := 12) (v := .bool false) (bs' := (Ord.upto 13 70)) rfl (by kernel_rfl) hQ (R.opened (j := 6) rfl f19) hS (fun w _ hS => by have e24 := f24; unfold Chain.At at e24; have q0 := hm; clear F; go_simp) (F.lt (by decide)) fun a12 N => ?_
  replace F := F.next N (by decide)
  replace f19 := N.keep 19 _ (by decide) f19
  clear f24
  have f25 := N.got
  clear N a11
  refine Ord.take R (k := 13) (v := .bool false) (bs' := (Ord.upto 14 70)) rfl (by kernel_rfl) hQ (R.opened (j := 6) rfl f19) hS (fun w _ hS => Chain.ev_move f25.ev) (F.lt (by decide)) fun a13 N => ?_
  replace F := F.next N (by decide)
  replace f19 := N.keep 19 _ (by decide) f19
  clear f25
  have f26 := N.got
  clear N a12
  refine Ord.skip R (k := 14) (bs' := (Ord.upto 15 70)) rfl (by kernel_rfl) hQ (R.shut (j := 13) rfl f26 (Ord.ne_not rfl)) hS (F.lt (by decide)) fun a14 N => ?_
  replace F := F.next N (by decide)
  replace f19 := N.keep 19 _ (by decide) f19
  replace f26 := N.keep 26 _ (by decide) f26
  have f27 := N.got
  clear N a13
  refine Ord.skip R (k := 15) (bs' := (Ord.upto 16 70)) rfl (by kernel_rfl) hQ (R.shut (j := 13) rfl f26 (Ord.ne_not rfl)) hS (F.lt (by decide)) fun a15 N => ?_
  replace F := F.next N (by decide)
  replace f19 := N.keep 19 _ (by decide) f19
  replace f26 := N.keep 26 _ (by decide) f26
  clear f27
  have f28 := N.got
  clear N a14
  refine Ord.skip R (k := 16) (bs' := (Ord.upto 17 70)) rfl (by kernel_rfl) hQ (R.shut (j := 13) rfl f26 (Ord.ne_not rfl)) hS (F.lt (by decide)) fun a16 N => ?_
  replace F := F.next N (by decide)
  replace f19 := N.keep 19 _ (by decide) f19
  replace f26 := N.keep 26 _ (by decide) f26
  replace f28 := N.keep 28 _ (by decide) f28
  have f29 := N.got
  clear N a15
  refine Ord.skip R (k := 17) (bs' := (Ord.upto 18 70)) rfl (by kernel_rfl) hQ (R.shut (j := 13) rfl f26 (Ord.ne_not rfl)) hS (F.lt (by decide)) fun a17 N => ?_
  replace F := F.next N (by decide)
  replace f19 := N.keep 19 _ (by decide) f19
  replace f26 := N.keep 26 _ (by decide) f26
  replace f28 := N.keep 28 _ (by decide) f28
  clear f29
  have f30 := N.got
  clear N a16
  refine Ord.skip R (k := 18) (bs' := (Ord.upto 19 70)) rfl (by kernel_rfl) hQ (R.shut (j := 13) rfl f26 (Ord.ne_not rfl)) hS (F.lt (by decide)) fun a18 N => ?_
  replace F := F.next N (by decide)
  replace f19 := N.keep 19 _ (by decide) f19
  replace f26 := N.keep 26 _ (by decide) f26
  clear f28
  clear f30
  have f31 := N.got
  clear N a17
  refine Ord.skip R (k := 19) (bs' := (Ord.upto 20 70)) rfl (by kernel_rfl) hQ (R.shut (j := 13) rfl f26 (Ord.ne_not rfl)) hS (F.lt (by decide)) fun a19 N => ?_
  replace F := F.next N (by decide)
  replace f19 := N.keep 19 _ (by decide) f19
  replace f26 := N.keep 26 _ (by decide) f26
  clear f31
  have f32 := N.got
  clear N a18
  refine Ord.skip R (k := 20) (bs' := (Ord.upto 21 70)) rfl (by kernel_rfl) hQ (R.shut (j := 19) rfl f32 (Ord.ne_undef _)) hS (F.lt (by decide)) fun a20 N => ?_
  replace F := F.next N (by decide)
  replace f19 := N.keep 19 _ (by decide) f19
  replace f26 := N.keep 26 _ (by decide) f26
  replace f32 := N.keep 32 _ (by decide) f32
  have f33 := N.got
  clear N a19
  refine Ord.skip R (k := 21) (bs' := (Ord.upto 22 70)) rfl (by kernel_rfl) hQ (R.shut (j := 19) rfl f32 (Ord.ne_undef _)) hS (F.lt (by decide)) fun a21 N => ?_
  replace F := F.next N (by decide)
  replace f19 := N.keep 19 _ (by decide) f19
  replace f26 := N.keep 26 _ (by decide) f26
  replace f32 := N.keep 32 _ (by decide) f32
  replace f33 := N.keep 33 _ (by decide) f33
  have f34 := N.got
  clear N a20
  refine Ord.skip R (k := 22) (bs' := (Ord.upto 23 70)) rfl (by kernel_rfl) hQ (R.shut (j := 19) rfl f32 (Ord.ne_undef _)) hS (F.lt (by decide)) fun a22 N => ?_
  replace F := F.next N (by decide)
  replace f19 := N.keep 19 _ (by decide) f19
  replace f26 := N.keep 26 _ (by decide) f26
  replace f32 := N.keep 32 _ (by decide) f32
  replace f33 := N.keep 33 _ (by decide) f33
  clear f34
  have f35 := N.got
  clear N a21
  refine Ord.skip R (k := 23) (bs' := (Ord.upto 24 70)) rfl (by kernel_rfl) hQ (R.shut (j := 19) rfl f32 (Ord.ne_undef _)) hS (F.lt (by decide)) fun a23 N => ?_
  replace F := F.next N (by decide)
  replace f19 := N.keep 19 _ (by decide) f19
  replace f26 := N.keep 26 _ (by decide) f26
  replace f32 := N.keep 32 _ (by decide) f32
  clear f33
  clear f35
  have f36 := N.got
  clear N a22
  refine Ord.skip R (k := 24) (bs' := (Ord.upto 25 70)) rfl (by kernel_rfl) hQ (R.shut (j := 19) rfl f32 (Ord.ne_undef _)) hS (F.lt (by decide)) fun a24 N => ?_
  replace F := F.next N (by decide)
  replace f19 := N.keep 19 _ (by decide) f19
  replace f26 := N.keep 26 _ (by decide) f26
  replace f32 := N.keep 32 _ (by decide) f32
  clear f36
  have f37 := N.got
  clear N a23
  refine Ord.skip R (k := 25) (bs' := (Ord.upto 26 70)) rfl (by kernel_rfl) hQ (R.shut (j := 19) rfl f32 (Ord.ne_undef _)) hS (F.lt (by decide)) fun a25 N => ?_
  replace F := F.next N (by decide)
  replace f19 := N.keep 19 _ (by decide) f19
  replace f26 := N.keep 26 _ (by decide) f26
  replace f32 := N.keep 32 _ (by decide) f32
  replace f37 := N.keep 37 _ (by decide) f37
  have f38 := N.got
  clear N a24
  refine Ord.skip R (k := 26) (bs' := (Ord.upto 27 70)) rfl (by kernel_rfl) hQ (R.shut (j := 19) rfl f32 (Ord.ne_undef _)) hS (F.lt (by decide)) fun a26 N => ?_
  replace F := F.next N (by decide)
  replace f19 := N.keep 19 _ (by decide) f19
  replace f26 := N.keep 26 _ (by decide) f26
  replace f32 := N.keep 32 _ (by decide) f32
  replace f37 := N.keep 37 _ (by decide) f37
  replace f38 := N.keep 38 _ (by decide) f38
  have f39 := N.got
  clear N a25
  refine Ord.skip R (k := 27) (bs' := (Ord.upto 28 70)) rfl (by kernel_rfl) hQ (R.shut (j := 19) rfl f32 (Ord.ne_undef _)) hS (F.lt (by decide)) fun a27 N => ?_
  replace F := F.next N (by decide)
  replace f19 := N.keep 19 _ (by decide) f19
  replace f26 := N.keep 26 _ (by decide) f26
  replace f32 := N.keep 32 _ (by decide) f32
  replace f37 := N.keep 37 _ (by decide) f37
  clear f38
  clear f39
  have f40 := N.got
  clear N a26
  refine Ord.skip R (k := 28) (bs' := (Ord.upto 29 70)) rfl (by kernel_rfl) hQ (R.shut (j := 19) rfl f32 (Ord.ne_undef _)) hS (F.lt (by decide)) fun a28 N => ?_
  replace F := F.next N (by decide)
  replace f19 := N.keep 19 _ (by decide) f19
  replace f26 := N.keep 26 _ (by decide) f26
  replace f32 := N.keep 32 _ (by decide) f32
  replace f37 := N.keep 37 _ (by decide) f37
  clear f40
  have f41 := N.got
  clear N a27
  refine Ord.skip R (k := 29) (bs' := (Ord.upto 30 70)) rfl (by kernel_rfl) hQ (R.shut (j := 19) rfl f32 (Ord.ne_undef _)) hS (F.lt (by decide)) fun a29 N => ?_
  replace F := F.next N (by decide)
  replace f19 := N.keep 19 _ (by decide) f19
  replace f26 := N.keep 26 _ (by decide) f26
  replace f32 := N.keep 32 _ (by decide) f32
  replace f37 := N.keep 37 _ (by decide) f37
  clear f41
  have f42 := N.got
  clear N a28
  refine Ord.skip R (k := 30) (bs' := (Ord.upto 31 70)) rfl (by kernel_rfl) hQ (R.shut (j := 19) rfl f32 (Ord.ne_undef _)) hS (F.lt (by decide)) fun a30 N => ?_
  replace F := F.next N (by decide)
  replace f19 := N.keep 19 _ (by decide) f19
  replace f26 := N.keep 26 _ (by decide) f26
  replace f32 := N.keep 32 _ (by decide) f32
  replace f37 := N.keep 37 _ (by decide) f37
  clear f42
  have f43 := N.got
  clear N a29
  refine Ord.skip R (k := 31) (bs' := (Ord.upto 32 70)) rfl (by kernel_rfl) hQ (R.shut (j := 19) rfl f32 (Ord.ne_undef _)) hS (F.lt (by decide)) fun a31 N => ?_
  replace F := F.next N (by decide)
  replace f19 := N.keep 19 _ (by decide) f19
  replace f26 := N.keep 26 _ (by decide) f26
  replace f32 := N.keep 32 _ (by decide) f32
  clear f37
  clear f43
  have f44 := N.got
  clear N a30
  refine Ord.skip R (k := 32) (bs' := (Ord.upto 33 70)) rfl (by kernel_rfl) hQ (R.shut (j := 13) rfl f26 (Ord.ne_not rfl)) hS (F.lt (by decide)) fun a32 N => ?_
  replace F := F.next N (by decide)
  replace f19 := N.keep 19 _ (by decide) f19
  replace f26 := N.keep 26 _ (by decide) f26
  clear f32
  clear f44
  have f45 := N.got
  clear N a31
  refine Ord.take R (k := 33) (v := Go.Value.bool false) (bs' := (Ord.upto 34 70)) rfl (by kernel_rfl) hQ (R.opened (j := 6) rfl f19) hS (fun w _ hS => Ord.ev_pick_no f26.ev rfl) (F.lt (by decide)) fun a33 N => ?_
  replace F := F.next N (by decide)
  replace f19 := N.keep 19 _ (by decide) f19
  clear f26
  clear f45
  have f46 := N.got
  clear N a32
  refine Ord.take R (k := 34) (v := Go.Value.bool false) (bs' := (Ord.upto 35 70)) rfl (by kernel_rfl) hQ trivial hS (fun w _ hS => Ord.ev_pick_no f19.ev f46.ev) (F.lt (by decide)) fun a34 N => ?_
  replace F := F.next N (by decide)
  clear f19
  clear f46
  have f47 := N.got
  clear N a33
  refine Ord.take R (k := 35) (v := Go.Value.bool false) (bs' := (Ord.upto 36 70)) rfl (by kernel_rfl) hQ trivial hS (fun w _ hS => Chain.ev_move f47.ev) (F.lt (by decide)) fun a35 N => ?_
  replace F := F.next N (by decide)
  clear f47
  have f48 := N.got
  clear N a34
  refine Ord.take R (k := 36) (v := .slice (some ⟨b, off, none⟩) n cc) (bs' := (Ord.upto 37 70)) rfl (by kernel_rfl) hQ (R.opened (j := 35) rfl f48) hS (fun w _ hS => Chain.ev_move F.s3.ev) (F.lt (by decide)) fun a36 N => ?_
  replace F := F.next N (by decide)
  replace f48 := N.keep 48 _ (by decide) f48
  have f49 := N.got
  clear N a35
  refine Ord.take R (k := 37) (v := .int .i64 (k : Int)) (bs' := (Ord.upto 38 70)) rfl (by kernel_rfl) hQ (R.opened (j := 35) rfl f48) hS (fun w _ hS => Chain.ev_move F.s4.ev) (F.lt (by decide)) fun a37 N => ?_
  replace F := F.next N (by decide)
  replace f48 := N.keep 48 _ (by decide) f48
  replace f49 := N.keep 49 _ (by decide) f49
  have f50 := N.got
  clear N a36
  refine Ord.take R (k := 38) (v := .pointer (some ⟨b, off + k * 3, none⟩)) (bs' := (Ord.upto 39 70)) rfl (by kernel_rfl) hQ (R.opened (j := 35) rfl f48) hS (fun w _ hS => by have e49 := f49; unfold Chain.At at e49; have e50 := f50; unfold Chain.At at e50; clear F; go_simp) (F.lt (by decide)) fun a38 N => ?_
  replace F := F.next N (by decide)
  replace f48 := N.keep 48 _ (by decide) f48
  clear f49
  clear f50
  have f51 := N.got
  clear N a37
  refine Ord.take R (k := 39) (v := .pointer (some ⟨b, off + k * 3 + 1, none⟩)) (bs' := (Ord.upto 40 70)) rfl (by kernel_rfl) hQ (R.opened (j := 35) rfl f48) hS (fun w _ hS => by have e51 := f51; unfold Chain.At at e51; clear F; go_simp) (F.lt (by decide)) fun a39 N => ?_
  replace F := F.next N (by decide)
  replace f48 := N.keep 48 _ (by decide) f48
  clear f51
  have f52 := N.got
  clear N a38
  refine Ord.take R (k := 40) (v := .int .i64 m) (bs' := (Ord.upto 41 70)) rfl (by kernel_rfl) hQ (R.opened (j := 35) rfl f48) hS (fun w _ hS => by have e52 := f52; unfold Chain.At at e52; have q0 := c1 w hS; clear F; go_simp) (F.lt (by decide)) fun a40 N => ?_
  replace F := F.next N (by decide)
  replace f48 := N.keep 48 _ (by decide) f48
  clear f52
  have f53 := N.got
  clear N a39
  refine Ord.take R (k := 41) (v := .bool true) (bs' := (Ord.upto 42 70)) rfl (by kernel_rfl) hQ (R.opened (j := 35) rfl f48) hS (fun w _ hS => by have e53 := f53; unfold Chain.At at e53; have q0 := hm0; clear F; go_simp) (F.lt (by decide)) fun a41 N => ?_
  replace F := F.next N (by decide)
  replace f48 := N.keep 48 _ (by decide) f48
  clear f53
  have f54 := N.got
  clear N a40
  refine Ord.take R (k := 42) (v := .bool true) (bs' := (Ord.upto 43 70)) rfl (by kernel_rfl) hQ (R.opened (j := 35) rfl f48) hS (fun w _ hS => Chain.ev_move f54.ev) (F.lt (by decide)) fun a42 N => ?_
  replace F := F.next N (by decide)
  replace f48 := N.keep 48 _ (by decide) f48
  clear f54
  have f55 := N.got
  clear N a41
  refine Ord.take R (k := 43) (v := .int .i64 (k : Int)) (bs' := (Ord.upto 44 70)) rfl (by kernel_rfl) hQ (R.opened (j := 42) rfl f55) hS (fun w _ hS => Chain.ev_move F.s4.ev) (F.lt (by decide)) fun a43 N => ?_
  replace F := F.next N (by decide)
  replace f48 := N.keep 48 _ (by decide) f48
  replace f55 := N.keep 55 _ (by decide) f55
  have f56 := N.got
  clear N a42
  refine Ord.take R (k := 44) (v := .bool false) (bs' := (Ord.upto 45 70)) rfl (by kernel_rfl) hQ (R.opened (j := 42) rfl f55) hS (fun w _ hS => by have e56 := f56; unfold Chain.At at e56; have q0 := hi; clear F; go_simp) (F.lt (by decide)) fun a44 N => ?_
  replace F := F.next N (by decide)
  replace f48 := N.keep 48 _ (by decide) f48
  replace f55 := N.keep 55 _ (by decide) f55
  clear f56
  have f57 := N.got
  clear N a43
  refine Ord.take R (k := 45) (v := .bool false) (bs' := (Ord.upto 46 70)) rfl (by kernel_rfl) hQ (R.opened (j := 42) rfl f55) hS (fun w _ hS => Chain.ev_move f57.ev) (F.lt (by decide)) fun a45 N => ?_
  replace F := F.next N (by decide)
  replace f48 := N.keep 48 _ (by decide) f48
  replace f55 := N.keep 55 _ (by decide) f55
  clear f57
  have f58 := N.got
  clear N a44
  refine Ord.take R (k := 46) (v := .slice (some ⟨b, off, none⟩) n cc) (bs' := (Ord.upto 47 70)) rfl (by kernel_rfl) hQ (R.opened (j := 45) rfl f58) hS (fun w _ hS => Chain.ev_move F.s3.ev) (F.lt (by decide)) fun a46 N => ?_
  replace F := F.next N (by decide)
  replace f48 := N.keep 48 _ (by decide) f48
  replace f55 := N.keep 55 _ (by decide) f55
  replace f58 := N.keep 58 _ (by decide) f58
  have f59 := N.got
  clear N a45
  refine Ord.take R (k := 47) (v := .int .i64 (k : Int)) (bs' := (Ord.upto 48 70)) rfl (by kernel_rfl) hQ (R.opened (j := 45) rfl f58) hS (fun w _ hS => Chain.ev_move F.s4.ev) (F.lt (by decide)) fun a47 N => ?_
  replace F := F.next N (by decide)
  replace f48 := N.keep 48 _ (by decide) f48
  replace f55 := N.keep 55 _ (by decide) f55
  replace f58 := N.keep 58 _ (by decide) f58
  replace f59 := N.keep 59 _ (by decide) f59
  have f60 := N.got
  clear N a46
  refine Ord.take R (k := 48) (v := .int .i64 ((k : Int) - 1)) (bs' := (Ord.upto 49 70)) rfl (by kernel_rfl) hQ (R.opened (j := 45) rfl f58) hS (fun w _ hS => by have e60 := f60; unfold Chain.At at e60; have q0 := hw; clear F; go_simp) (F.lt (by decide)) fun a48 N => ?_
  replace F := F.next N (by decide)
  replace f48 := N.keep 48 _ (by decide) f48
  replace f55 := N.keep 55 _ (by decide) f55
  replace f58 := N.keep 58 _ (by decide) f58
  replace f59 := N.keep 59 _ (by decide) f59
  clear f60
  have f61 := N.got
  clear N a47
  refine Ord.take R (k := 49) (v := .pointer (some ⟨b, off + (k - 1) * 3, none⟩)) (bs' := (Ord.upto 50 70)) rfl (by kernel_rfl) hQ (R.opened (j := 45) rfl f58) hS (fun w _ hS => by have e59 := f59; unfold Chain.At at e59; have e61 := f61; unfold Chain.At at e61; have q0 := ht; have q1 := hx0; have q2 := hx1; clear F; go_simp) (F.lt (by decide)) fun a49 N => ?_
  replace F := F.next N (by decide)
  replace f48 := N.keep 48 _ (by decide) f48
  replace f55 := N.keep 55 _ (by decide) f55
  replace f58 := N.keep 58 _ (by decide) f58
  clear f59
  clear f61
  have f62 := N.got
  clear N a48
  refine Ord.take R (k := 50) (v := .pointer (some ⟨b, off + (k - 1) * 3 + 1, none⟩)) (bs' := (Ord.upto 51 70)) rfl (by kernel_rfl) hQ (R.opened (j := 45) rfl f58) hS (fun w _ hS => by have e62 := f62; unfold Chain.At at e62; clear F; go_simp) (F.lt (by decide)) fun a50 N => ?_
  replace F := F.next N (by decide)
  replace f48 := N.keep 48 _ (by decide) f48
  replace f55 := N.keep 55 _ (by decide) f55
  replace f58 := N.keep 58 _ (by decide) f58
  clear f62
  have f63 := N.got
  clear N a49
  refine Ord.take R (k := 51) (v := .int .i64 pm) (bs' := (Ord.upto 52 70)) rfl (by kernel_rfl) hQ (R.opened (j := 45) rfl f58) hS (fun w _ hS => by have e63 := f63; unfold Chain.At at e63; have q0 := p1c w hS; clear F; go_simp) (F.lt (by decide)) fun a51 N => ?_
  replace F := F.next N (by decide)
  replace f48 := N.keep 48 _ (by decide) f48
  replace f55 := N.keep 55 _ (by decide) f55
  replace f58 := N.keep 58 _ (by decide) f58
  clear f63
  have f64 := N.got
  clear N a50
  refine Ord.take R (k := 52) (v := .bool true) (bs' := (Ord.upto 53 70)) rfl (by kernel_rfl) hQ (R.opened (j := 45) rfl f58) hS (fun w _ hS => by have e64 := f64; unfold Chain.At at e64; have q0 := hp; clear F; go_simp) (F.lt (by decide)) fun a52 N => ?_
  replace F := F.next N (by decide)
  replace f48 := N.keep 48 _ (by decide) f48
  replace f55 := N.keep 55 _ (by decide) f55
  replace f58 := N.keep 58 _ (by decide) f58
  clear f64
  have f65 := N.got
  clear N a51
  refine Ord.take R (k := 53) (v := .bool true) (bs' := (Ord.upto 54 70)) rfl (by kernel_rfl) hQ (R.opened (j := 42) rfl f55) hS (fun w _ hS => Ord.ev_pick_no f58.ev f65.ev) (F.lt (by decide)) fun a53 N => ?_
  replace F := F.next N (by decide)
  replace f48 := N.keep 48 _ (by decide) f48
  replace f55 := N.keep 55 _ (by decide) f55
  clear f58
  clear f65
  have f66 := N.got
  clear N a52
  refine Ord.take R (k := 54) (v := .bool true) (bs' := (Ord.upto 55 70)) rfl (by kernel_rfl) hQ (R.opened (j := 42) rfl f55) hS (fun w _ hS => Chain.ev_move f66.ev) (F.lt (by decide)) fun a54 N => ?_
  replace F := F.next N (by decide)
  replace f48 := N.keep 48 _ (by decide) f48
  replace f55 := N.keep 55 _ (by decide) f55
  clear f66
  have f67 := N.got
  clear N a53
  refine Ord.skip R (k := 55) (bs' := (Ord.upto 56 70)) rfl (by kernel_rfl) hQ (R.shut (j := 54) rfl f67 (Ord.ne_not rfl)) hS (F.lt (by decide)) fun a55 N => ?_
  replace F := F.next N (by decide)
  replace f48 := N.keep 48 _ (by decide) f48
  replace f55 := N.keep 55 _ (by decide) f55
  replace f67 := N.keep 67 _ (by decide) f67
  have f68 := N.got
  clear N a54
  refine Ord.skip R (k := 56) (bs' := (Ord.upto 57 70)) rfl (by kernel_rfl) hQ (R.shut (j := 54) rfl f67 (Ord.ne_not rfl)) hS (F.lt (by decide)) fun a56 N => ?_
  replace F := F.next N (by decide)
  replace f48 := N.keep 48 _ (by decide) f48
  replace f55 := N.keep 55 _ (by decide) f55
  replace f67 := N.keep 67 _ (by decide) f67
  replace f68 := N.keep 68 _ (by decide) f68
  have f69 := N.got
  clear N a55
  refine Ord.skip R (k := 57) (bs' := (Ord.upto 58 70)) rfl (by kernel_rfl) hQ (R.shut (j := 54) rfl f67 (Ord.ne_not rfl)) hS (F.lt (by decide)) fun a57 N => ?_
  replace F := F.next N (by decide)
  replace f48 := N.keep 48 _ (by decide) f48
  replace f55 := N.keep 55 _ (by decide) f55
  replace f67 := N.keep 67 _ (by decide) f67
  replace f68 := N.keep 68 _ (by decide) f68
  clear f69
  have f70 := N.got
  clear N a56
  refine Ord.skip R (k := 58) (bs' := (Ord.upto 59 70)) rfl (by kernel_rfl) hQ (R.shut (j := 54) rfl f67 (Ord.ne_not rfl)) hS (F.lt (by decide)) fun a58 N => ?_
  replace F := F.next N (by decide)
  replace f48 := N.keep 48 _ (by decide) f48
  replace f55 := N.keep 55 _ (by decide) f55
  replace f67 := N.keep 67 _ (by decide) f67
  clear f68
  clear f70
  have f71 := N.got
  clear N a57
  refine Ord.skip R (k := 59) (bs' := (Ord.upto 60 70)) rfl (by kernel_rfl) hQ (R.shut (j := 54) rfl f67 (Ord.ne_not rfl)) hS (F.lt (by decide)) fun a59 N => ?_
  replace F := F.next N (by decide)
  replace f48 := N.keep 48 _ (by decide) f48
  replace f55 := N.keep 55 _ (by decide) f55
  replace f67 := N.keep 67 _ (by decide) f67
  clear f71
  have f72 := N.got
  clear N a58
  refine Ord.skip R (k := 60) (bs' := (Ord.upto 61 70)) rfl (by kernel_rfl) hQ (R.shut (j := 54) rfl f67 (Ord.ne_not rfl)) hS (F.lt (by decide)) fun a60 N => ?_
  replace F := F.next N (by decide)
  replace f48 := N.keep 48 _ (by decide) f48
  replace f55 := N.keep 55 _ (by decide) f55
  replace f67 := N.keep 67 _ (by decide) f67
  clear f72
  have f73 := N.got
  clear N a59
  refine Ord.skip R (k := 61) (bs' := (Ord.upto 62 70)) rfl (by kernel_rfl) hQ (R.shut (j := 54) rfl f67 (Ord.ne_not rfl)) hS (F.lt (by decide)) fun a61 N => ?_
  replace F := F.next N (by decide)
  replace f48 := N.keep 48 _ (by decide) f48
  replace f55 := N.keep 55 _ (by decide) f55
  replace f67 := N.keep 67 _ (by decide) f67
  replace f73 := N.keep 73 _ (by decide) f73
  have f74 := N.got
  clear N a60
  refine Ord.skip R (k := 62) (bs' := (Ord.upto 63 70)) rfl (by kernel_rfl) hQ (R.shut (j := 54) rfl f67 (Ord.ne_not rfl)) hS (F.lt (by decide)) fun a62 N => ?_
  replace F := F.next N (by decide)
  replace f48 := N.keep 48 _ (by decide) f48
  replace f55 := N.keep 55 _ (by decide) f55
  replace f67 := N.keep 67 _ (by decide) f67
  replace f73 := N.keep 73 _ (by decide) f73
  replace f74 := N.keep 74 _ (by decide) f74
  have f75 := N.got
  clear N a61
  refine Ord.skip R (k := 63) (bs' := (Ord.upto 64 70)) rfl (by kernel_rfl) hQ (R.shut (j := 54) rfl f67 (Ord.ne_not rfl)) hS (F.lt (by decide)) fun a63 N => ?_
  replace F := F.next N (by decide)
  replace f48 := N.keep 48 _ (by decide) f48
  replace f55 := N.keep 55 _ (by decide) f55
  replace f67 := N.keep 67 _ (by decide) f67
  replace f73 := N.keep 73 _ (by decide) f73
  clear f74
  clear f75
  have f76 := N.got
  clear N a62
  refine Ord.skip R (k := 64) (bs' := (Ord.upto 65 70)) rfl (by kernel_rfl) hQ (R.shut (j := 54) rfl f67 (Ord.ne_not rfl)) hS (F.lt (by decide)) fun a64 N => ?_
  replace F := F.next N (by decide)
  replace f48 := N.keep 48 _ (by decide) f48
  replace f55 := N.keep 55 _ (by decide) f55
  replace f67 := N.keep 67 _ (by decide) f67
  replace f73 := N.keep 73 _ (by decide) f73
  clear f76
  have f77 := N.got
  clear N a63
  refine Ord.skip R (k := 65) (bs' := (Ord.upto 66 70)) rfl (by kernel_rfl) hQ (R.shut (j := 54) rfl f67 (Ord.ne_not rfl)) hS (F.lt (by decide)) fun a65 N => ?_
  replace F := F.next N (by decide)
  replace f48 := N.keep 48 _ (by decide) f48
  replace f55 := N.keep 55 _ (by decide) f55
  replace f67 := N.keep 67 _ (by decide) f67
  replace f73 := N.keep 73 _ (by decide) f73
  clear f77
  have f78 := N.got
  clear N a64
  refine Ord.skip R (k := 66) (bs' := (Ord.upto 67 70)) rfl (by kernel_rfl) hQ (R.shut (j := 54) rfl f67 (Ord.ne_not rfl)) hS (F.lt (by decide)) fun a66 N => ?_
  replace F := F.next N (by decide)
  replace f48 := N.keep 48 _ (by decide) f48
  replace f55 := N.keep 55 _ (by decide) f55
  replace f67 := N.keep 67 _ (by decide) f67
  clear f73
  clear f78
  have f79 := N.got
  clear N a65
  refine Ord.take R (k := 67) (v := Go.Value.bool true) (bs' := (Ord.upto 68 70)) rfl (by kernel_rfl) hQ (R.opened (j := 42) rfl f55) hS (fun w _ hS => Ord.ev_pick_yes f67.ev rfl) (F.lt (by decide)) fun a67 N => ?_
  replace F := F.next N (by decide)
  replace f48 := N.keep 48 _ (by decide) f48
  replace f55 := N.keep 55 _ (by decide) f55
  clear f67
  clear f79
  have f80 := N.got
  clear N a66
  refine Ord.take R (k := 68) (v := Go.Value.bool true) (bs' := (Ord.upto 69 70)) rfl (by kernel_rfl) hQ (R.opened (j := 35) rfl f48) hS (fun w _ hS => Ord.ev_pick_yes f55.ev f80.ev) (F.lt (by decide)) fun a68 N => ?_
  replace F := F.next N (by decide)
  replace f48 := N.keep 48 _ (by decide) f48
  clear f55
  clear f80
  have f81 := N.got
  clear N a67
  refine Ord.take R (k := 69) (v := Go.Value.bool true) (bs' := (Ord.upto 70 70)) rfl (by kernel_rfl) hQ trivial hS (fun w _ hS => Ord.ev_pick_no f48.ev f81.ev) (F.lt (by decide)) fun a69 N => ?_
  replace F := F.next N (by decide)
  clear f48
  clear f81
  have f82 := N.got
  clear N a68
  exact Ord.finish R (by kernel_rfl) (h _ _ F f82 hS)

set_option maxRecDepth 100000 in
theorem refRow_half {ops : Array Oper} {Q : Exit → Act → World → Prop} (R : Ord.Reg ops refRowL) (hQ : ∀ c a w d v, Q (.panic c) (Act.put a (some d) v) w → Q (.panic c) a w) {w0 : World} {b off n cc k : Nat} {r m a0 : Int}
    (_hk0 : (0 : Int) ≤ (k : Int)) (_hkn : (k : Int) < (n : Int)) (c0 : ∀ w, Below w0.heap.size w0 w → w.cell? ⟨b, off + k * 3, none⟩ = some (.int .i32 r)) (c1 : ∀ w, Below w0.heap.size w0 w → w.cell? ⟨b, off + k * 3 + 1, none⟩ = some (.int .i64 m)) (c2 : ∀ w, Below w0.heap.size w0 w → w.cell? ⟨b, off + k * 3 + 2, none⟩ = some (.int .i64 a0)) (hC : ∀ w, Calls Tryd.prog 55 #[cellV r m a0] w fun e w' => e = .returned (.bool true) ∧ Below w.heap.size w w') (hm : (m == 2) = false) (hm0 : (m == 0) = true) {pm pa : Int} (hi : ((k : Int) == 0) = false) (_hx2 : ¬ ((k : Int) < 1)) (hw : IntKind.i64.wrap ((k : Int) - 1) = (k : Int) - 1) (hx0 : (0 : Int) ≤ (k : Int) - 1) (hx1 : (k : Int) - 1 < (n : Int)) (ht : ((k : Int) - 1).toNat = k - 1) (p1c : ∀ w, Below w0.heap.size w0 w → w.cell? ⟨b, off + (k - 1) * 3 + 1, none⟩ = some (.int .i64 pm)) (p2c : ∀ w, Below w0.heap.size w0 w → w.cell? ⟨b, off + (k - 1) * 3 + 2, none⟩ = some (.int .i64 pa)) {y : Bool} (hp : (pm != 2) = false) (ha : (pa != a0) = y)
    {p0 p1 p5 p6 : Value} (a : Act) (w : World) (F : RowFr b off n cc k p0 p1 p5 p6 a) (hS : Below w0.heap.size w0 w)
    (h : ∀ a w, RowFr b off n cc k p0 p1 p5 p6 a → Chain.At a 82 (.bool y) → Below w0.heap.size w0 w → Q .normal a w) :
    wpAnyH Tryd.prog .any ops Q (fun w' => Below w0.heap.size w0 w') 70 (List.replicate 70 false).toArray a w := by
  refine Ord.take R (k := 0) (v := .slice (some ⟨b, off, none⟩) n cc) (bs' := (Ord.upto 1 70)) rfl (by kernel_rfl) hQ trivial hS (fun w _ hS => Chain.ev_move F.s3.ev) (F.lt (by decide)) fun a0 N => ?_
  replace F := F.next N (by decide)
  have f13 := N.got
  clear N a
  refine Ord.take R (k := 1) (v := .int .i64 (k : Int)) (bs' := (Ord.upto 2 70)) rfl (by kernel_rfl) hQ trivial hS (fun w _ hS => Chain.ev_move F.s4.ev) (F.lt (by decide)) fun a1 N => ?_
  replace F := F.next N (by decide)
  replace f13 := N.keep 13 _ (by decide) f13
  have f14 := N.got
  clear N a0
  refine Ord.take R (k := 2) (v := .pointer (some ⟨b, off + k * 3, none⟩)) (bs' := (Ord.upto 3 70)) rfl (by kernel_rfl) hQ trivial hS (fun w _ hS => by have e13 := f13; unfold Chain.At at e13; have e14 := f14; unfold Chain.At at e14; clear F; go_simp) (F.lt (by decide)) fun a2 N => ?_
  replace F := F.next N (by decide)
  clear f13
  clear f14
  have f15 := N.got
  clear N a1
  refine Ord.take R (k := 3) (v := cellV r m a0) (bs' := (Ord.upto 4 70)) rfl (by kernel_rfl) hQ trivial hS (fun w _ hS => by have e15 := f15; unfold Chain.At at e15; have q0 := c0 w hS; have q1 := c1 w hS; have q2 := c2 w hS; clear F; go_simp) (F.lt (by decide)) fun a3 N => ?_
  replace F := F.next N (by decide)
  clear f15
  have f16 := N.got
  clear N a2
  refine Ord.call R (k := 4) (args := #[cellV r m a0]) (bs' := (Ord.upto 5 70)) rfl (by kernel_rfl) trivial (by simp [f16.ev]) (by kernel_rfl) (hC _) (F.lt (by decide)) ?_
  rintro e w ⟨rfl, hb⟩
  replace hS := hS.trans (hb.mono hS.size)
  refine ⟨_, rfl, hS, fun a4 N => ?_⟩
  replace F := F.next N (by decide)
  clear f16
  have f17 := N.got
  clear N a3
  refine Ord.take R (k := 5) (v := .bool false) (bs' := (Ord.upto 6 70)) rfl (by kernel_rfl) hQ trivial hS (fun w _ hS => by have e17 := f17; unfold Chain.At at e17; clear F; go_simp) (F.lt (by decide)) fun a5 N => ?_
  replace F := F.next N (by decide)
  clear f17
  have f18 := N.got
  clear N a4
  refine Ord.take R (k := 6) (v := .bool false) (bs' := (Ord.upto 7 70)) rfl (by kernel_rfl) hQ trivial hS (fun w _ hS => Chain.ev_move f18.ev) (F.lt (by decide)) fun a6 N => ?_
  replace F := F.next N (by decide)
  clear f18
  have f19 := N.got
  clear N a5
  refine Ord.take R (k := 7) (v := .slice (some ⟨b, off, none⟩) n cc) (bs' := (Ord.upto 8 70)) rfl (by kernel_rfl) hQ (R.opened (j := 6) rfl f19) hS (fun w _ hS => Chain.ev_move F.s3.ev) (F.lt (by decide)) fun a7 N => ?_
  replace F := F.next N (by decide)
  replace f19 := N.keep 19 _ (by decide) f19
  have f20 := N.got
  clear N a6
  refine Ord.take R (k := 8) (v := .int .i64 (k : Int)) (bs' := (Ord.upto 9 70)) rfl (by kernel_rfl) hQ (R.opened (j := 6) rfl f19) hS (fun w _ hS => Chain.ev_move F.s4.ev) (F.lt (by decide)) fun a8 N => ?_
  replace F := F.next N (by decide)
  replace f19 := N.keep 19 _ (by decide) f19
  replace f20 := N.keep 20 _ (by decide) f20
  have f21 := N.got
  clear N a7
  refine Ord.take R (k := 9) (v := .pointer (some ⟨b, off + k * 3, none⟩)) (bs' := (Ord.upto 10 70)) rfl (by kernel_rfl) hQ (R.opened (j := 6) rfl f19) hS (fun w _ hS => by have e20 := f20; unfold Chain.At at e20; have e21 := f21; unfold Chain.At at e21; clear F; go_simp) (F.lt (by decide)) fun a9 N => ?_
  replace F := F.next N (by decide)
  replace f19 := N.keep 19 _ (by decide) f19
  clear f20
  clear f21
  have f22 := N.got
  clear N a8
  refine Ord.take R (k := 10) (v := .pointer (some ⟨b, off + k * 3 + 1, none⟩)) (bs' := (Ord.upto 11 70)) rfl (by kernel_rfl) hQ (R.opened (j := 6) rfl f19) hS (fun w _ hS => by have e22 := f22; unfold Chain.At at e22; clear F; go_simp) (F.lt (by decide)) fun a10 N => ?_
  replace F := F.next N (by decide)
  replace f19 := N.keep 19 _ (by decide) f19
  clear f22
  have f23 := N.got
  clear N a9
  refine Ord.take R (k := 11) (v := .int .i64 m) (bs' := (Ord.upto 12 70)) rfl (by kernel_rfl) hQ (R.opened (j := 6) rfl f19) hS (fun w _ hS => by have e23 := f23; unfold Chain.At at e23; have q0 := c1 w hS; clear F; go_simp) (F.lt (by decide)) fun a11 N => ?_
  replace F := F.next N (by decide)
  replace f19 := N.keep 19 _ (by decide) f19
  clear f23
  have f24 := N.got
  clear N a10
  refine Ord.take R (k := 12) (v := .bool false) (bs' := (Ord.upto 13 70)) rfl (by kernel_rfl) hQ (R.opened (j := 6) rfl f19) hS (fun w _ hS => by have e24 := f24; unfold Chain.At at e24; have q0 := hm; clear F; go_simp) (F.lt (by decide)) fun a12 N => ?_
  replace F := F.next N (by decide)
  replace f19 := N.keep 19 _ (by decide) f19
  clear f24
  have f25 := N.got
  clear N a11
  refine Ord.take R (k := 13) (v := .bool false) (bs' := (Ord.upto 14 70)) rfl (by kernel_rfl) hQ (R.opened (j := 6) rfl f19) hS (fun w _ hS => Chain.ev_move f25.ev) (F.lt (by decide)) fun a13 N => ?_
  replace F := F.next N (by decide)
  replace f19 := N.keep 19 _ (by decide) f19
  clear f25
  have f26 := N.got
  clear N a12
  refine Ord.skip R (k := 14) (bs' := (Ord.upto 15 70)) rfl (by kernel_rfl) hQ (R.shut (j := 13) rfl f26 (Ord.ne_not rfl)) hS (F.lt (by decide)) fun a14 N => ?_
  replace F := F.next N (by decide)
  replace f19 := N.keep 19 _ (by decide) f19
  replace f26 := N.keep 26 _ (by decide) f26
  have f27 := N.got
  clear N a13
  refine Ord.skip R (k := 15) (bs' := (Ord.upto 16 70)) rfl (by kernel_rfl) hQ (R.shut (j := 13) rfl f26 (Ord.ne_not rfl)) hS (F.lt (by decide)) fun a15 N => ?_
  replace F := F.next N (by decide)
  replace f19 := N.keep 19 _ (by decide) f19
  replace f26 := N.keep 26 _ (by decide) f26
  clear f27
  have f28 := N.got
  clear N a14
  refine Ord.skip R (k := 16) (bs' := (Ord.upto 17 70)) rfl (by kernel_rfl) hQ (R.shut (j := 13) rfl f26 (Ord.ne_not rfl)) hS (F.lt (by decide)) fun a16 N => ?_
  replace F := F.next N (by decide)
  replace f19 := N.keep 19 _ (by decide) f19
  replace f26 := N.keep 26 _ (by decide) f26
  replace f28 := N.keep 28 _ (by decide) f28
  have f29 := N.got
  clear N a15
  refine Ord.skip R (k := 17) (bs' := (Ord.upto 18 70)) rfl (by kernel_rfl) hQ (R.shut (j := 13) rfl f26 (Ord.ne_not rfl)) hS (F.lt (by decide)) fun a17 N => ?_
  replace F := F.next N (by decide)
  replace f19 := N.keep 19 _ (by decide) f19
  replace f26 := N.keep 26 _ (by decide) f26
  replace f28 := N.keep 28 _ (by decide) f28
  clear f29
  have f30 := N.got
  clear N a16
  refine Ord.skip R (k := 18) (bs' := (Ord.upto 19 70)) rfl (by kernel_rfl) hQ (R.shut (j := 13) rfl f26 (Ord.ne_not rfl)) hS (F.lt (by decide)) fun a18 N => ?_
  replace F := F.next N (by decide)
  replace f19 := N.keep 19 _ (by decide) f19
  replace f26 := N.keep 26 _ (by decide) f26
  clear f28
  clear f30
  have f31 := N.got
  clear N a17
  refine Ord.skip R (k := 19) (bs' := (Ord.upto 20 70)) rfl (by kernel_rfl) hQ (R.shut (j := 13) rfl f26 (Ord.ne_not rfl)) hS (F.lt (by decide)) fun a19 N => ?_
  replace F := F.next N (by decide)
  replace f19 := N.keep 19 _ (by decide) f19
  replace f26 := N.keep 26 _ (by decide) f26
  clear f31
  have f32 := N.got
  clear N a18
  refine Ord.skip R (k := 20) (bs' := (Ord.upto 21 70)) rfl (by kernel_rfl) hQ (R.shut (j := 19) rfl f32 (Ord.ne_undef _)) hS (F.lt (by decide)) fun a20 N => ?_
  replace F := F.next N (by decide)
  replace f19 := N.keep 19 _ (by decide) f19
  replace f26 := N.keep 26 _ (by decide) f26
  replace f32 := N.keep 32 _ (by decide) f32
  have f33 := N.got
  clear N a19
  refine Ord.skip R (k := 21) (bs' := (Ord.upto 22 70)) rfl (by kernel_rfl) hQ (R.shut (j := 19) rfl f32 (Ord.ne_undef _)) hS (F.lt (by decide)) fun a21 N => ?_
  replace F := F.next N (by decide)
  replace f19 := N.keep 19 _ (by decide) f19
  replace f26 := N.keep 26 _ (by decide) f26
  replace f32 := N.keep 32 _ (by decide) f32
  replace f33 := N.keep 33 _ (by decide) f33
  have f34 := N.got
  clear N a20
  refine Ord.skip R (k := 22) (bs' := (Ord.upto 23 70)) rfl (by kernel_rfl) hQ (R.shut (j := 19) rfl f32 (Ord.ne_undef _)) hS (F.lt (by decide)) fun a22 N => ?_
  replace F := F.next N (by decide)
  replace f19 := N.keep 19 _ (by decide) f19
  replace f26 := N.keep 26 _ (by decide) f26
  replace f32 := N.keep 32 _ (by decide) f32
  replace f33 := N.keep 33 _ (by decide) f33
  clear f34
  have f35 := N.got
  clear N a21
  refine Ord.skip R (k := 23) (bs' := (Ord.upto 24 70)) rfl (by kernel_rfl) hQ (R.shut (j := 19) rfl f32 (Ord.ne_undef _)) hS (F.lt (by decide)) fun a23 N => ?_
  replace F := F.next N (by decide)
  replace f19 := N.keep 19 _ (by decide) f19
  replace f26 := N.keep 26 _ (by decide) f26
  replace f32 := N.keep 32 _ (by decide) f32
  clear f33
  clear f35
  have f36 := N.got
  clear N a22
  refine Ord.skip R (k := 24) (bs' := (Ord.upto 25 70)) rfl (by kernel_rfl) hQ (R.shut (j := 19) rfl f32 (Ord.ne_undef _)) hS (F.lt (by decide)) fun a24 N => ?_
  replace F := F.next N (by decide)
  replace f19 := N.keep 19 _ (by decide) f19
  replace f26 := N.keep 26 _ (by decide) f26
  replace f32 := N.keep 32 _ (by decide) f32
  clear f36
  have f37 := N.got
  clear N a23
  refine Ord.skip R (k := 25) (bs' := (Ord.upto 26 70)) rfl (by kernel_rfl) hQ (R.shut (j := 19) rfl f32 (Ord.ne_undef _)) hS (F.lt (by decide)) fun a25 N => ?_
  replace F := F.next N (by decide)
  replace f19 := N.keep 19 _ (by decide) f19
  replace f26 := N.keep 26 _ (by decide) f26
  replace f32 := N.keep 32 _ (by decide) f32
  replace f37 := N.keep 37 _ (by decide) f37
  have f38 := N.got
  clear N a24
  refine Ord.skip R (k := 26) (bs' := (Ord.upto 27 70)) rfl (by kernel_rfl) hQ (R.shut (j := 19) rfl f32 (Ord.ne_undef _)) hS (F.lt (by decide)) fun a26 N => ?_
  replace F := F.next N (by decide)
  replace f19 := N.keep 19 _ (by decide) f19
  replace f26 := N.keep 26 _ (by decide) f26
  replace f32 := N.keep 32 _ (by decide) f32
  replace f37 := N.keep 37 _ (by decide) f37
  replace f38 := N.keep 38 _ (by decide) f38
  have f39 := N.got
  clear N a25
  refine Ord.skip R (k := 27) (bs' := (Ord.upto 28 70)) rfl (by kernel_rfl) hQ (R.shut (j := 19) rfl f32 (Ord.ne_undef _)) hS (F.lt (by decide)) fun a27 N => ?_
  replace F := F.next N (by decide)
  replace f19 := N.keep 19 _ (by decide) f19
  replace f26 := N.keep 26 _ (by decide) f26
  replace f32 := N.keep 32 _ (by decide) f32
  replace f37 := N.keep 37 _ (by decide) f37
  clear f38
  clear f39
  have f40 := N.got
  clear N a26
  refine Ord.skip R (k := 28) (bs' := (Ord.upto 29 70)) rfl (by kernel_rfl) hQ (R.shut (j := 19) rfl f32 (Ord.ne_undef _)) hS (F.lt (by decide)) fun a28 N => ?_
  replace F := F.next N (by decide)
  replace f19 := N.keep 19 _ (by decide) f19
  replace f26 := N.keep 26 _ (by decide) f26
  replace f32 := N.keep 32 _ (by decide) f32
  replace f37 := N.keep 37 _ (by decide) f37
  clear f40
  have f41 := N.got
  clear N a27
  refine Ord.skip R (k := 29) (bs' := (Ord.upto 30 70)) rfl (by kernel_rfl) hQ (R.shut (j := 19) rfl f32 (Ord.ne_undef _)) hS (F.lt (by decide)) fun a29 N => ?_
  replace F := F.next N (by decide)
  replace f19 := N.keep 19 _ (by decide) f19
  replace f26 := N.keep 26 _ (by decide) f26
  replace f32 := N.keep 32 _ (by decide) f32
  replace f37 := N.keep 37 _ (by decide) f37
  clear f41
  have f42 := N.got
  clear N a28
  refine Ord.skip R (k := 30) (bs' := (Ord.upto 31 70)) rfl (by kernel_rfl) hQ (R.shut (j := 19) rfl f32 (Ord.ne_undef _)) hS (F.lt (by decide)) fun a30 N => ?_
  replace F := F.next N (by decide)
  replace f19 := N.keep 19 _ (by decide) f19
  replace f26 := N.keep 26 _ (by decide) f26
  replace f32 := N.keep 32 _ (by decide) f32
  replace f37 := N.keep 37 _ (by decide) f37
  clear f42
  have f43 := N.got
  clear N a29
  refine Ord.skip R (k := 31) (bs' := (Ord.upto 32 70)) rfl (by kernel_rfl) hQ (R.shut (j := 19) rfl f32 (Ord.ne_undef _)) hS (F.lt (by decide)) fun a31 N => ?_
  replace F := F.next N (by decide)
  replace f19 := N.keep 19 _ (by decide) f19
  replace f26 := N.keep 26 _ (by decide) f26
  replace f32 := N.keep 32 _ (by decide) f32
  clear f37
  clear f43
  have f44 := N.got
  clear N a30
  refine Ord.skip R (k := 32) (bs' := (Ord.upto 33 70)) rfl (by kernel_rfl) hQ (R.shut (j := 13) rfl f26 (Ord.ne_not rfl)) hS (F.lt (by decide)) fun a32 N => ?_
  replace F := F.next N (by decide)
  replace f19 := N.keep 19 _ (by decide) f19
  replace f26 := N.keep 26 _ (by decide) f26
  clear f32
  clear f44
  have f45 := N.got
  clear N a31
  refine Ord.take R (k := 33) (v := Go.Value.bool false) (bs' := (Ord.upto 34 70)) rfl (by kernel_rfl) hQ (R.opened (j := 6) rfl f19) hS (fun w _ hS => Ord.ev_pick_no f26.ev rfl) (F.lt (by decide)) fun a33 N => ?_
  replace F := F.next N (by decide)
  replace f19 := N.keep 19 _ (by decide) f19
  clear f26
  clear f45
  have f46 := N.got
  clear N a32
  refine Ord.take R (k := 34) (v := Go.Value.bool false) (bs' := (Ord.upto 35 70)) rfl (by kernel_rfl) hQ trivial hS (fun w _ hS => Ord.ev_pick_no f19.ev f46.ev) (F.lt (by decide)) fun a34 N => ?_
  replace F := F.next N (by decide)
  clear f19
  clear f46
  have f47 := N.got
  clear N a33
  refine Ord.take R (k := 35) (v := Go.Value.bool false) (bs' := (Ord.upto 36 70)) rfl (by kernel_rfl) hQ trivial hS (fun w _ hS => Chain.ev_move f47.ev) (F.lt (by decide)) fun a35 N => ?_
  replace F := F.next N (by decide)
  clear f47
  have f48 := N.got
  clear N a34
  refine Ord.take R (k := 36) (v := .slice (some ⟨b, off, none⟩) n cc) (bs' := (Ord.upto 37 70)) rfl (by kernel_rfl) hQ (R.opened (j := 35) rfl f48) hS (fun w _ hS => Chain.ev_move F.s3.ev) (F.lt (by decide)) fun a36 N => ?_
  replace F := F.next N (by decide)
  replace f48 := N.keep 48 _ (by decide) f48
  have f49 := N.got
  clear N a35
  refine Ord.take R (k := 37) (v := .int .i64 (k : Int)) (bs' := (Ord.upto 38 70)) rfl (by kernel_rfl) hQ (R.opened (j := 35) rfl f48) hS (fun w _ hS => Chain.ev_move F.s4.ev) (F.lt (by decide)) fun a37 N => ?_
  replace F := F.next N (by decide)
  replace f48 := N.keep 48 _ (by decide) f48
  replace f49 := N.keep 49 _ (by decide) f49
  have f50 := N.got
  clear N a36
  refine Ord.take R (k := 38) (v := .pointer (some ⟨b, off + k * 3, none⟩)) (bs' := (Ord.upto 39 70)) rfl (by kernel_rfl) hQ (R.opened (j := 35) rfl f48) hS (fun w _ hS => by have e49 := f49; unfold Chain.At at e49; have e50 := f50; unfold Chain.At at e50; clear F; go_simp) (F.lt (by decide)) fun a38 N => ?_
  replace F := F.next N (by decide)
  replace f48 := N.keep 48 _ (by decide) f48
  clear f49
  clear f50
  have f51 := N.got
  clear N a37
  refine Ord.take R (k := 39) (v := .pointer (some ⟨b, off + k * 3 + 1, none⟩)) (bs' := (Ord.upto 40 70)) rfl (by kernel_rfl) hQ (R.opened (j := 35) rfl f48) hS (fun w _ hS => by have e51 := f51; unfold Chain.At at e51; clear F; go_simp) (F.lt (by decide)) fun a39 N => ?_
  replace F := F.next N (by decide)
  replace f48 := N.keep 48 _ (by decide) f48
  clear f51
  have f52 := N.got
  clear N a38
  refine Ord.take R (k := 40) (v := .int .i64 m) (bs' := (Ord.upto 41 70)) rfl (by kernel_rfl) hQ (R.opened (j := 35) rfl f48) hS (fun w _ hS => by have e52 := f52; unfold Chain.At at e52; have q0 := c1 w hS; clear F; go_simp) (F.lt (by decide)) fun a40 N => ?_
  replace F := F.next N (by decide)
  replace f48 := N.keep 48 _ (by decide) f48
  clear f52
  have f53 := N.got
  clear N a39
  refine Ord.take R (k := 41) (v := .bool true) (bs' := (Ord.upto 42 70)) rfl (by kernel_rfl) hQ (R.opened (j := 35) rfl f48) hS (fun w _ hS => by have e53 := f53; unfold Chain.At at e53; have q0 := hm0; clear F; go_simp) (F.lt (by decide)) fun a41 N => ?_
  replace F := F.next N (by decide)
  replace f48 := N.keep 48 _ (by decide) f48
  clear f53
  have f54 := N.got
  clear N a40
  refine Ord.take R (k := 42) (v := .bool true) (bs' := (Ord.upto 43 70)) rfl (by kernel_rfl) hQ (R.opened (j := 35) rfl f48) hS (fun w _ hS => Chain.ev_move f54.ev) (F.lt (by decide)) fun a42 N => ?_
  replace F := F.next N (by decide)
  replace f48 := N.keep 48 _ (by decide) f48
  clear f54
  have f55 := N.got
  clear N a41
  refine Ord.take R (k := 43) (v := .int .i64 (k : Int)) (bs' := (Ord.upto 44 70)) rfl (by kernel_rfl) hQ (R.opened (j := 42) rfl f55) hS (fun w _ hS => Chain.ev_move F.s4.ev) (F.lt (by decide)) fun a43 N => ?_
  replace F := F.next N (by decide)
  replace f48 := N.keep 48 _ (by decide) f48
  replace f55 := N.keep 55 _ (by decide) f55
  have f56 := N.got
  clear N a42
  refine Ord.take R (k := 44) (v := .bool false) (bs' := (Ord.upto 45 70)) rfl (by kernel_rfl) hQ (R.opened (j := 42) rfl f55) hS (fun w _ hS => by have e56 := f56; unfold Chain.At at e56; have q0 := hi; clear F; go_simp) (F.lt (by decide)) fun a44 N => ?_
  replace F := F.next N (by decide)
  replace f48 := N.keep 48 _ (by decide) f48
  replace f55 := N.keep 55 _ (by decide) f55
  clear f56
  have f57 := N.got
  clear N a43
  refine Ord.take R (k := 45) (v := .bool false) (bs' := (Ord.upto 46 70)) rfl (by kernel_rfl) hQ (R.opened (j := 42) rfl f55) hS (fun w _ hS => Chain.ev_move f57.ev) (F.lt (by decide)) fun a45 N => ?_
  replace F := F.next N (by decide)
  replace f48 := N.keep 48 _ (by decide) f48
  replace f55 := N.keep 55 _ (by decide) f55
  clear f57
  have f58 := N.got
  clear N a44
  refine Ord.take R (k := 46) (v := .slice (some ⟨b, off, none⟩) n cc) (bs' := (Ord.upto 47 70)) rfl (by kernel_rfl) hQ (R.opened (j := 45) rfl f58) hS (fun w _ hS => Chain.ev_move F.s3.ev) (F.lt (by decide)) fun a46 N => ?_
  replace F := F.next N (by decide)
  replace f48 := N.keep 48 _ (by decide) f48
  replace f55 := N.keep 55 _ (by decide) f55
  replace f58 := N.keep 58 _ (by decide) f58
  have f59 := N.got
  clear N a45
  refine Ord.take R (k := 47) (v := .int .i64 (k : Int)) (bs' := (Ord.upto 48 70)) rfl (by kernel_rfl) hQ (R.opened (j := 45) rfl f58) hS (fun w _ hS => Chain.ev_move F.s4.ev) (F.lt (by decide)) fun a47 N => ?_
  replace F := F.next N (by decide)
  replace f48 := N.keep 48 _ (by decide) f48
  replace f55 := N.keep 55 _ (by decide) f55
  replace f58 := N.keep 58 _ (by decide) f58
  replace f59 := N.keep 59 _ (by decide) f59
  have f60 := N.got
  clear N a46
  refine Ord.take R (k := 48) (v := .int .i64 ((k : Int) - 1)) (bs' := (Ord.upto 49 70)) rfl (by kernel_rfl) hQ (R.opened (j := 45) rfl f58) hS (fun w _ hS => by have e60 := f60; unfold Chain.At at e60; have q0 := hw; clear F; go_simp) (F.lt (by decide)) fun a48 N => ?_
  replace F := F.next N (by decide)
  replace f48 := N.keep 48 _ (by decide) f48
  replace f55 := N.keep 55 _ (by decide) f55
  replace f58 := N.keep 58 _ (by decide) f58
  replace f59 := N.keep 59 _ (by decide) f59
  clear f60
  have f61 := N.got
  clear N a47
  refine Ord.take R (k := 49) (v := .pointer (some ⟨b, off + (k - 1) * 3, none⟩)) (bs' := (Ord.upto 50 70)) rfl (by kernel_rfl) hQ (R.opened (j := 45) rfl f58) hS (fun w _ hS => by have e59 := f59; unfold Chain.At at e59; have e61 := f61; unfold Chain.At at e61; have q0 := ht; have q1 := hx0; have q2 := hx1; clear F; go_simp) (F.lt (by decide)) fun a49 N => ?_
  replace F := F.next N (by decide)
  replace f48 := N.keep 48 _ (by decide) f48
  replace f55 := N.keep 55 _ (by decide) f55
  replace f58 := N.keep 58 _ (by decide) f58
  clear f59
  clear f61
  have f62 := N.got
  clear N a48
  refine Ord.take R (k := 50) (v := .pointer (some ⟨b, off + (k - 1) * 3 + 1, none⟩)) (bs' := (Ord.upto 51 70)) rfl (by kernel_rfl) hQ (R.opened (j := 45) rfl f58) hS (fun w _ hS => by have e62 := f62; unfold Chain.At at e62; clear F; go_simp) (F.lt (by decide)) fun a50 N => ?_
  replace F := F.next N (by decide)
  replace f48 := N.keep 48 _ (by decide) f48
  replace f55 := N.keep 55 _ (by decide) f55
  replace f58 := N.keep 58 _ (by decide) f58
  clear f62
  have f63 := N.got
  clear N a49
  refine Ord.take R (k := 51) (v := .int .i64 pm) (bs' := (Ord.upto 52 70)) rfl (by kernel_rfl) hQ (R.opened (j := 45) rfl f58) hS (fun w _ hS => by have e63 := f63; unfold Chain.At at e63; have q0 := p1c w hS; clear F; go_simp) (F.lt (by decide)) fun a51 N => ?_
  replace F := F.next N (by decide)
  replace f48 := N.keep 48 _ (by decide) f48
  replace f55 := N.keep 55 _ (by decide) f55
  replace f58 := N.keep 58 _ (by decide) f58
  clear f63
  have f64 := N.got
  clear N a50
  refine Ord.take R (k := 52) (v := .bool false) (bs' := (Ord.upto 53 70)) rfl (by kernel_rfl) hQ (R.opened (j := 45) rfl f58) hS (fun w _ hS => by have e64 := f64; unfold Chain.At at e64; have q0 := hp; clear F; go_simp) (F.lt (by decide)) fun a52 N => ?_
  replace F := F.next N (by decide)
  replace f48 := N.keep 48 _ (by decide) f48
  replace f55 := N.keep 55 _ (by decide) f55
  replace f58 := N.keep 58 _ (by decide) f58
  clear f64
  have f65 := N.got
  clear N a51
  refine Ord.take R (k := 53) (v := .bool false) (bs' := (Ord.upto 54 70)) rfl (by kernel_rfl) hQ (R.opened (j := 42) rfl f55) hS (fun w _ hS => Ord.ev_pick_no f58.ev f65.ev) (F.lt (by decide)) fun a53 N => ?_
  replace F := F.next N (by decide)
  replace f48 := N.keep 48 _ (by decide) f48
  replace f55 := N.keep 55 _ (by decide) f55
  clear f58
  clear f65
  have f66 := N.got
  clear N a52
  refine Ord.take R (k := 54) (v := .bool false) (bs' := (Ord.upto 55 70)) rfl (by kernel_rfl) hQ (R.opened (j := 42) rfl f55) hS (fun w _ hS => Chain.ev_move f66.ev) (F.lt (by decide)) fun a54 N => ?_
  replace F := F.next N (by decide)
  replace f48 := N.keep 48 _ (by decide) f48
  replace f55 := N.keep 55 _ (by decide) f55
  clear f66
  have f67 := N.got
  clear N a53
  refine Ord.take R (k := 55) (v := .slice (some ⟨b, off, none⟩) n cc) (bs' := (Ord.upto 56 70)) rfl (by kernel_rfl) hQ (R.opened (j := 54) rfl f67) hS (fun w _ hS => Chain.ev_move F.s3.ev) (F.lt (by decide)) fun a55 N => ?_
  replace F := F.next N (by decide)
  replace f48 := N.keep 48 _ (by decide) f48
  replace f55 := N.keep 55 _ (by decide) f55
  replace f67 := N.keep 67 _ (by decide) f67
  have f68 := N.got
  clear N a54
  refine Ord.take R (k := 56) (v := .int .i64 (k : Int)) (bs' := (Ord.upto 57 70)) rfl (by kernel_rfl) hQ (R.opened (j := 54) rfl f67) hS (fun w _ hS => Chain.ev_move F.s4.ev) (F.lt (by decide)) fun a56 N => ?_
  replace F := F.next N (by decide)
  replace f48 := N.keep 48 _ (by decide) f48
  replace f55 := N.keep 55 _ (by decide) f55
  replace f67 := N.keep 67 _ (by decide) f67
  replace f68 := N.keep 68 _ (by decide) f68
  have f69 := N.got
  clear N a55
  refine Ord.take R (k := 57) (v := .int .i64 ((k : Int) - 1)) (bs' := (Ord.upto 58 70)) rfl (by kernel_rfl) hQ (R.opened (j := 54) rfl f67) hS (fun w _ hS => by have e69 := f69; unfold Chain.At at e69; have q0 := hw; clear F; go_simp) (F.lt (by decide)) fun a57 N => ?_
  replace F := F.next N (by decide)
  replace f48 := N.keep 48 _ (by decide) f48
  replace f55 := N.keep 55 _ (by decide) f55
  replace f67 := N.keep 67 _ (by decide) f67
  replace f68 := N.keep 68 _ (by decide) f68
  clear f69
  have f70 := N.got
  clear N a56
  refine Ord.take R (k := 58) (v := .pointer (some ⟨b, off + (k - 1) * 3, none⟩)) (bs' := (Ord.upto 59 70)) rfl (by kernel_rfl) hQ (R.opened (j := 54) rfl f67) hS (fun w _ hS => by have e68 := f68; unfold Chain.At at e68; have e70 := f70; unfold Chain.At at e70; have q0 := ht; have q1 := hx0; have q2 := hx1; clear F; go_simp) (F.lt (by decide)) fun a58 N => ?_
  replace F := F.next N (by decide)
  replace f48 := N.keep 48 _ (by decide) f48
  replace f55 := N.keep 55 _ (by decide) f55
  replace f67 := N.keep 67 _ (by decide) f67
  clear f68
  clear f70
  have f71 := N.got
  clear N a57
  refine Ord.take R (k := 59) (v := .pointer (some ⟨b, off + (k - 1) * 3 + 2, none⟩)) (bs' := (Ord.upto 60 70)) rfl (by kernel_rfl) hQ (R.opened (j := 54) rfl f67) hS (fun w _ hS => by have e71 := f71; unfold Chain.At at e71; clear F; go_simp) (F.lt (by decide)) fun a59 N => ?_
  replace F := F.next N (by decide)
  replace f48 := N.keep 48 _ (by decide) f48
  replace f55 := N.keep 55 _ (by decide) f55
  replace f67 := N.keep 67 _ (by decide) f67
  clear f71
  have f72 := N.got
  clear N a58
  refine Ord.take R (k := 60) (v := .int .i64 pa) (bs' := (Ord.upto 61 70)) rfl (by kernel_rfl) hQ (R.opened (j := 54) rfl f67) hS (fun w _ hS => by have e72 := f72; unfold Chain.At at e72; have q0 := p2c w hS; clear F; go_simp) (F.lt (by decide)) fun a60 N => ?_
  replace F := F.next N (by decide)
  replace f48 := N.keep 48 _ (by decide) f48
  replace f55 := N.keep 55 _ (by decide) f55
  replace f67 := N.keep 67 _ (by decide) f67
  clear f72
  have f73 := N.got
  clear N a59
  refine Ord.take R (k := 61) (v := .slice (some ⟨b, off, none⟩) n cc) (bs' := (Ord.upto 62 70)) rfl (by kernel_rfl) hQ (R.opened (j := 54) rfl f67) hS (fun w _ hS => Chain.ev_move F.s3.ev) (F.lt (by decide)) fun a61 N => ?_
  replace F := F.next N (by decide)
  replace f48 := N.keep 48 _ (by decide) f48
  replace f55 := N.keep 55 _ (by decide) f55
  replace f67 := N.keep 67 _ (by decide) f67
  replace f73 := N.keep 73 _ (by decide) f73
  have f74 := N.got
  clear N a60
  refine Ord.take R (k := 62) (v := .int .i64 (k : Int)) (bs' := (Ord.upto 63 70)) rfl (by kernel_rfl) hQ (R.opened (j := 54) rfl f67) hS (fun w _ hS => Chain.ev_move F.s4.ev) (F.lt (by decide)) fun a62 N => ?_
  replace F := F.next N (by decide)
  replace f48 := N.keep 48 _ (by decide) f48
  replace f55 := N.keep 55 _ (by decide) f55
  replace f67 := N.keep 67 _ (by decide) f67
  replace f73 := N.keep 73 _ (by decide) f73
  replace f74 := N.keep 74 _ (by decide) f74
  have f75 := N.got
  clear N a61
  refine Ord.take R (k := 63) (v := .pointer (some ⟨b, off + k * 3, none⟩)) (bs' := (Ord.upto 64 70)) rfl (by kernel_rfl) hQ (R.opened (j := 54) rfl f67) hS (fun w _ hS => by have e74 := f74; unfold Chain.At at e74; have e75 := f75; unfold Chain.At at e75; clear F; go_simp) (F.lt (by decide)) fun a63 N => ?_
  replace F := F.next N (by decide)
  replace f48 := N.keep 48 _ (by decide) f48
  replace f55 := N.keep 55 _ (by decide) f55
  replace f67 := N.keep 67 _ (by decide) f67
  replace f73 := N.keep 73 _ (by decide) f73
  clear f74
  clear f75
  have f76 := N.got
  clear N a62
  refine Ord.take R (k := 64) (v := .pointer (some ⟨b, off + k * 3 + 2, none⟩)) (bs' := (Ord.upto 65 70)) rfl (by kernel_rfl) hQ (R.opened (j := 54) rfl f67) hS (fun w _ hS => by have e76 := f76; unfold Chain.At at e76; clear F; go_simp) (F.lt (by decide)) fun a64 N => ?_
  replace F := F.next N (by decide)
  replace f48 := N.keep 48 _ (by decide) f48
  replace f55 := N.keep 55 _ (by decide) f55
  replace f67 := N.keep 67 _ (by decide) f67
  replace f73 := N.keep 73 _ (by decide) f73
  clear f76
  have f77 := N.got
  clear N a63
  refine Ord.take R (k := 65) (v := .int .i64 a0) (bs' := (Ord.upto 66 70)) rfl (by kernel_rfl) hQ (R.opened (j := 54) rfl f67) hS (fun w _ hS => by have e77 := f77; unfold Chain.At at e77; have q0 := c2 w hS; clear F; go_simp) (F.lt (by decide)) fun a65 N => ?_
  replace F := F.next N (by decide)
  replace f48 := N.keep 48 _ (by decide) f48
  replace f55 := N.keep 55 _ (by decide) f55
  replace f67 := N.keep 67 _ (by decide) f67
  replace f73 := N.keep 73 _ (by decide) f73
  clear f77
  have f78 := N.got
  clear N a64
  refine Ord.take R (k := 66) (v := .bool y) (bs' := (Ord.upto 67 70)) rfl (by kernel_rfl) hQ (R.opened (j := 54) rfl f67) hS (fun w _ hS => by have e73 := f73; unfold Chain.At at e73; have e78 := f78; unfold Chain.At at e78; have q0 := ha; clear F; go_simp) (F.lt (by decide)) fun a66 N => ?_
  replace F := F.next N (by decide)
  replace f48 := N.keep 48 _ (by decide) f48
  replace f55 := N.keep 55 _ (by decide) f55
  replace f67 := N.keep 67 _ (by decide) f67
  clear f73
  clear f78
  have f79 := N.got
  clear N a65
  refine Ord.take R (k := 67) (v := .bool y) (bs' := (Ord.upto 68 70)) rfl (by kernel_rfl) hQ (R.opened (j := 42) rfl f55) hS (fun w _ hS => Ord.ev_pick_no f67.ev f79.ev) (F.lt (by decide)) fun a67 N => ?_
  replace F := F.next N (by decide)
  replace f48 := N.keep 48 _ (by decide) f48
  replace f55 := N.keep 55 _ (by decide) f55
  clear f67
  clear f79
  have f80 := N.got
  clear N a66
  refine Ord.take R (k := 68) (v := .bool y) (bs' := (Ord.upto 69 70)) rfl (by kernel_rfl) hQ (R.opened (j := 35) rfl f48) hS (fun w _ hS => Ord.ev_pick_yes f55.ev f80.ev) (F.lt (by decide)) fun a68 N => ?_
  replace F := F.next N (by decide)
  replace f48 := N.keep 48 _ (by decide) f48
  clear f55
  clear f80
  have f81 := N.got
  clear N a67
  refine Ord.take R (k := 69) (v := .bool y) (bs' := (Ord.upto 70 70)) rfl (by kernel_rfl) hQ trivial hS (fun w _ hS => Ord.ev_pick_no f48.ev f81.ev) (F.lt (by decide)) fun a69 N => ?_
  replace F := F.next N (by decide)
  clear f48
  clear f81
  have f82 := N.got
  clear N a68
  exact Ord.finish R (by kernel_rfl) (h _ _ F f82 hS)

set_option maxRecDepth 100000 in
/-- The frame written out, its known slots in their places. -/
theorem refRow_frame {a : Act} {w : World} {K : Act → World → Prop} {v0 v1 v3 v4 v5 v6 v82 v83 v84 v85 : Value} (hz : a.tmps.size = 86) (hd : a.defers = []) (f0 : Chain.At a 0 v0) (f1 : Chain.At a 1 v1) (f3 : Chain.At a 3 v3) (f4 : Chain.At a 4 v4) (f5 : Chain.At a 5 v5) (f6 : Chain.At a 6 v6) (f82 : Chain.At a 82 v82) (f83 : Chain.At a 83 v83) (f84 : Chain.At a 84 v84) (f85 : Chain.At a 85 v85)
    (h : ∀ u2 u7 u8 u9 u10 u11 u12 u13 u14 u15 u16 u17 u18 u19 u20 u21 u22 u23 u24 u25 u26 u27 u28 u29 u30 u31 u32 u33 u34 u35 u36 u37 u38 u39 u40 u41 u42 u43 u44 u45 u46 u47 u48 u49 u50 u51 u52 u53 u54 u55 u56 u57 u58 u59 u60 u61 u62 u63 u64 u65 u66 u67 u68 u69 u70 u71 u72 u73 u74 u75 u76 u77 u78 u79 u80 u81 : Value, K ⟨#[v0, v1, u2, v3, v4, v5, v6, u7, u8, u9, u10, u11, u12, u13, u14, u15, u16, u17, u18, u19, u20, u21, u22, u23, u24, u25, u26, u27, u28, u29, u30, u31, u32, u33, u34, u35, u36, u37, u38, u39, u40, u41, u42, u43, u44, u45, u46, u47, u48, u49, u50, u51, u52, u53, u54, u55, u56, u57, u58, u59, u60, u61, u62, u63, u64, u65, u66, u67, u68, u69, u70, u71, u72, u73, u74, u75, u76, u77, u78, u79, u80, u81, v82, v83, v84, v85], []⟩ w) : K a w := by
  have e := Ord.frame_out hz hd
  have r : (List.range 86).map (fun i => a.tmps.toList.getD i undef) = [a.tmps.toList.getD 0 undef, a.tmps.toList.getD 1 undef, a.tmps.toList.getD 2 undef, a.tmps.toList.getD 3 undef, a.tmps.toList.getD 4 undef, a.tmps.toList.getD 5 undef, a.tmps.toList.getD 6 undef, a.tmps.toList.getD 7 undef, a.tmps.toList.getD 8 undef, a.tmps.toList.getD 9 undef, a.tmps.toList.getD 10 undef, a.tmps.toList.getD 11 undef, a.tmps.toList.getD 12 undef, a.tmps.toList.getD 13 undef, a.tmps.toList.getD 14 undef, a.tmps.toList.getD 15 undef, a.tmps.toList.getD 16 undef, a.tmps.toList.getD 17 undef, a.tmps.toList.getD 18 undef, a.tmps.toList.getD 19 undef, a.tmps.toList.getD 20 undef, a.tmps.toList.getD 21 undef, a.tmps.toList.getD 22 undef, a.tmps.toList.getD 23 undef, a.tmps.toList.getD 24 undef, a.tmps.toList.getD 25 undef, a.tmps.toList.getD 26 undef, a.tmps.toList.getD 27 undef, a.tmps.toList.getD 28 undef, a.tmps.toList.getD 29 undef, a.tmps.toList.getD 30 undef, a.tmps.toList.getD 31 undef, a.tmps.toList.getD 32 undef, a.tmps.toList.getD 33 undef, a.tmps.toList.getD 34 undef, a.tmps.toList.getD 35 undef, a.tmps.toList.getD 36 undef, a.tmps.toList.getD 37 undef, a.tmps.toList.getD 38 undef, a.tmps.toList.getD 39 undef, a.tmps.toList.getD 40 undef, a.tmps.toList.getD 41 undef, a.tmps.toList.getD 42 undef, a.tmps.toList.getD 43 undef, a.tmps.toList.getD 44 undef, a.tmps.toList.getD 45 undef, a.tmps.toList.getD 46 undef, a.tmps.toList.getD 47 undef, a.tmps.toList.getD 48 undef, a.tmps.toList.getD 49 undef, a.tmps.toList.getD 50 undef, a.tmps.toList.getD 51 undef, a.tmps.toList.getD 52 undef, a.tmps.toList.getD 53 undef, a.tmps.toList.getD 54 undef, a.tmps.toList.getD 55 undef, a.tmps.toList.getD 56 undef, a.tmps.toList.getD 57 undef, a.tmps.toList.getD 58 undef, a.tmps.toList.getD 59 undef, a.tmps.toList.getD 60 undef, a.tmps.toList.getD 61 undef, a.tmps.toList.getD 62 undef, a.tmps.toList.getD 63 undef, a.tmps.toList.getD 64 undef, a.tmps.toList.getD 65 undef, a.tmps.toList.getD 66 undef, a.tmps.toList.getD 67 undef, a.tmps.toList.getD 68 undef, a.tmps.toList.getD 69 undef, a.tmps.toList.getD 70 undef, a.tmps.toList.getD 71 undef, a.tmps.toList.getD 72 undef, a.tmps.toList.getD 73 undef, a.tmps.toList.getD 74 undef, a.tmps.toList.getD 75 undef, a.tmps.toList.getD 76 undef, a.tmps.toList.getD 77 undef, a.tmps.toList.getD 78 undef, a.tmps.toList.getD 79 undef, a.tmps.toList.getD 80 undef, a.tmps.toList.getD 81 undef, a.tmps.toList.getD 82 undef, a.tmps.toList.getD 83 undef, a.tmps.toList.getD 84 undef, a.tmps.toList.getD 85 undef] := rfl
  rw [r, Ord.at_get f0, Ord.at_get f1, Ord.at_get f3, Ord.at_get f4, Ord.at_get f5, Ord.at_get f6, Ord.at_get f82, Ord.at_get f83, Ord.at_get f84, Ord.at_get f85] at e
  rw [e]
  exact h _ _ _ _ _ _ _ _ _ _ _ _ _ _ _ _ _ _ _ _ _ _ _ _ _ _ _ _ _ _ _ _ _ _ _ _ _ _ _ _ _ _ _ _ _ _ _ _ _ _ _ _ _ _ _ _ _ _ _ _ _ _ _ _ _ _ _ _ _ _ _ _ _ _ _ _

end Go.Proofs.YtalhlgiklochdaaDoor
