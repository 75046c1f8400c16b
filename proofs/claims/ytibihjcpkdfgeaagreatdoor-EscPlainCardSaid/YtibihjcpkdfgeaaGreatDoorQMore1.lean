/-
  EscPlain: what is asked behind each sign, step by step.
-/
import Derived.Test.YtibihjcpkdfgeaaGreatDoorQBase1
import Derived.Test.YtibihjcpkdfgeaaGreatDoorQEscRef0
namespace Go.Proofs.YtibihjcpkdfgeaaGreatDoor
open Go.ChangeShapes Go.WideShapes Go.ChangeAt Go.RowKit Chain
namespace Esc
theorem _root_.Go.Proofs.YtibihjcpkdfgeaaGreatDoor.Chain.Next.k {a a' : Act} {d x : Nat} {v u : Value} (N : Chain.Next a a' d v) (f : Chain.At a x u) (h : d ≠ x := by decide) : Chain.At a' x u := N.keep x _ h f
abbrev U47 (k : Nat) := Ord.upto k 47


def plainL : List Ord.Line := [
  (some 73, Op.move (Operand.tmp 6), none, []),
  (some 74, Op.call { callee := Callee.builtin Builtin.len, args := #[Operand.tmp 73], argTypes := #[33] }, none, [0]),
  (some 75, Op.move (Operand.tmp 7), none, []),
  (some 76, Op.move (Operand.tmp 75), none, [2]),
  (some 77, Op.move (Operand.tmp 8), some (3, false), [3]),
  (some 78, Op.pick (Operand.tmp 76) (Operand.const (Value.bool true)) (Operand.tmp 77), none, [3, 4]),
  (some 79, Op.call { callee := Callee.value (Operand.func 25), args := #[Operand.tmp 78], argTypes := #[4] }, none, [5, 3]),
  (some 80, Op.binOp BinOp.neq 3 (Operand.tmp 74) (Operand.tmp 79) 3, none, [1, 6]),
  (some 81, Op.move (Operand.tmp 80), none, [7, 6]),
  (some 82, Op.move (Operand.tmp 6), some (8, false), [8]),
  (some 83, Op.call { callee := Callee.builtin Builtin.len, args := #[Operand.tmp 82], argTypes := #[33] }, some (8, false), [9, 8]),
  (some 84, Op.binOp BinOp.eql 3 (Operand.tmp 83) (Operand.const (Value.int IntKind.i64 1)) 3, some (8, false), [10, 8]),
  (some 85, Op.move (Operand.tmp 84), some (8, false), [11, 8, 8]),
  (some 86, Op.move (Operand.tmp 6), some (12, true), [12]),
  (some 87, Op.indexAddr 33 (Operand.tmp 86) (Operand.const (Value.int IntKind.i64 0)), some (12, true), [13, 12]),
  (some 88, Op.fieldAddr 37 (Operand.tmp 87) 1, some (12, true), [14, 12]),
  (some 89, Op.load 21 (Operand.tmp 88), some (12, true), [15, 12]),
  (some 90, Op.move (Operand.tmp 0), some (12, true), [12]),
  (some 91, Op.move (Operand.tmp 5), some (12, true), [12]),
  (some 92, Op.indexAddr 22 (Operand.tmp 90) (Operand.tmp 91), some (12, true), [17, 18, 12]),
  (some 93, Op.load 21 (Operand.tmp 92), some (12, true), [19, 12]),
  (some 94, Op.binOp BinOp.neq 21 (Operand.tmp 89) (Operand.tmp 93) 21, some (12, true), [16, 20, 12]),
  (some 95, Op.move (Operand.tmp 94), some (12, true), [21, 12, 12]),
  (some 96, Op.move (Operand.tmp 6), some (22, false), [22]),
  (some 97, Op.indexAddr 33 (Operand.tmp 96) (Operand.const (Value.int IntKind.i64 0)), some (22, false), [23, 22]),
  (some 98, Op.fieldAddr 37 (Operand.tmp 97) 0, some (22, false), [24, 22]),
  (some 99, Op.load 3 (Operand.tmp 98), some (22, false), [25, 22]),
  (some 100, Op.binOp BinOp.eql 3 (Operand.tmp 99) (Operand.const (Value.int IntKind.i64 2)) 3, some (22, false), [26, 22]),
  (some 101, Op.move (Operand.tmp 7), some (22, false), [22]),
  (some 102, Op.binOp BinOp.neq 4 (Operand.tmp 100) (Operand.tmp 101) 4, some (22, false), [27, 28, 22]),
  (some 103, Op.pick (Operand.tmp 95) (Operand.const (Value.bool true)) (Operand.tmp 102), some (12, true), [22, 29, 12]),
  (some 104, Op.move (Operand.tmp 103), some (12, true), [30, 22, 12]),
  (some 105, Op.move (Operand.tmp 6), some (31, false), [31]),
  (some 106, Op.indexAddr 33 (Operand.tmp 105) (Operand.const (Value.int IntKind.i64 0)), some (31, false), [32, 31]),
  (some 107, Op.fieldAddr 37 (Operand.tmp 106) 0, some (31, false), [33, 31]),
  (some 108, Op.load 3 (Operand.tmp 107), some (31, false), [34, 31]),
  (some 109, Op.binOp BinOp.eql 3 (Operand.tmp 108) (Operand.const (Value.int IntKind.i64 1)) 3, some (31, false), [35, 31]),
  (some 110, Op.move (Operand.tmp 8), some (31, false), [31]),
  (some 111, Op.binOp BinOp.neq 4 (Operand.tmp 109) (Operand.tmp 110) 4, some (31, false), [36, 37, 31]),
  (some 112, Op.pick (Operand.tmp 104) (Operand.const (Value.bool true)) (Operand.tmp 111), some (12, true), [31, 38, 12]),
  (some 113, Op.pick (Operand.tmp 85) (Operand.tmp 112) (Operand.const (Value.bool false)), some (8, false), [12, 39, 8]),
  (some 114, Op.pick (Operand.tmp 81) (Operand.const (Value.bool true)) (Operand.tmp 113), none, [8, 40]),
  (some 115, Op.move (Operand.tmp 114), none, [41, 31]),
  (some 116, Op.move (Operand.tmp 4), some (42, false), [42]),
  (some 117, Op.call { callee := Callee.value (Operand.func 27), args := #[Operand.tmp 116], argTypes := #[24] }, some (42, false), [43, 42, 42]),
  (some 118, Op.unOp UnOp.not 4 (Operand.tmp 117), some (42, false), [44, 42]),
  (some 119, Op.pick (Operand.tmp 115) (Operand.const (Value.bool true)) (Operand.tmp 118), none, [42, 45])]

/-- The slots that are known all the way. -/
structure PlainFr0 (g bq off n c i : Nat) (p1 p2 p3 p9 p10 p11 p12 p13 : Value) (a : Act) : Prop where
  size : a.tmps.size = 120
  defers : a.defers = []
  s0 : At a 0 (.slice (some ⟨bq, off, none⟩) n c)
  s1 : At a 1 (p1)
  s2 : At a 2 (p2)
  s3 : At a 3 (p3)
  s4 : At a 4 (.pointer (some ⟨g, 0, none⟩))
  s5 : At a 5 (.int .i64 (i : Int))
  s6 : At a 6 (.slice none 0 0)
  s7 : At a 7 (.bool false)
  s8 : At a 8 (.bool false)
  s9 : At a 9 (p9)
  s10 : At a 10 (p10)
  s11 : At a 11 (p11)
  s12 : At a 12 (p12)
  s13 : At a 13 (p13)
theorem PlainFr0.next {g bq off n c i : Nat} {p1 p2 p3 p9 p10 p11 p12 p13 : Value} {a a' : Act} {d : Nat} {v : Value} (F : PlainFr0 g bq off n c i p1 p2 p3 p9 p10 p11 p12 p13 a) (nx : Chain.Next a a' d v) (h : d ≠ 0 ∧ d ≠ 1 ∧ d ≠ 2 ∧ d ≠ 3 ∧ d ≠ 4 ∧ d ≠ 5 ∧ d ≠ 6 ∧ d ≠ 7 ∧ d ≠ 8 ∧ d ≠ 9 ∧ d ≠ 10 ∧ d ≠ 11 ∧ d ≠ 12 ∧ d ≠ 13 := by decide) : PlainFr0 g bq off n c i p1 p2 p3 p9 p10 p11 p12 p13 a' := ⟨nx.size.trans F.size, nx.defers.trans F.defers, nx.k F.s0 (by omega), nx.k F.s1 (by omega), nx.k F.s2 (by omega), nx.k F.s3 (by omega), nx.k F.s4 (by omega), nx.k F.s5 (by omega), nx.k F.s6 (by omega), nx.k F.s7 (by omega), nx.k F.s8 (by omega), nx.k F.s9 (by omega), nx.k F.s10 (by omega), nx.k F.s11 (by omega), nx.k F.s12 (by omega), nx.k F.s13 (by omega)⟩
theorem PlainFr0.lt {g bq off n c i : Nat} {p1 p2 p3 p9 p10 p11 p12 p13 : Value} {a : Act} {d : Nat} (F : PlainFr0 g bq off n c i p1 p2 p3 p9 p10 p11 p12 p13 a) (h : d < 120 := by decide) : d < a.tmps.size := by rw [F.size]; exact h

set_option maxRecDepth 100000 in
theorem plain_none {ops : Array Oper} {Q : Exit → Act → World → Prop} (R : Ord.Reg ops plainL) (hQ : ∀ c a w d v, Q (.panic c) (Act.put a (some d) v) w → Q (.panic c) a w) {w1 : World} {g bq off n c i : Nat} {p1 p2 p3 p9 p10 p11 p12 p13 : Value}
    (QW : ∀ w : World, w = w1 → Calls Tryz.prog 27 #[.pointer (some ⟨g, 0, none⟩)] w fun e w' => e = .returned (.bool true) ∧ w = w')
    (B2 : ∀ w : World, Calls Tryz.prog 25 #[.bool false] w fun e w' => e = .returned (.int .i64 0) ∧ w = w')
    (a : Act) (F : PlainFr0 g bq off n c i p1 p2 p3 p9 p10 p11 p12 p13 a) (h : ∀ a, PlainFr0 g bq off n c i p1 p2 p3 p9 p10 p11 p12 p13 a → At a 119 (.bool false) → Q .normal a w1) (w : World) (hS : w = w1) :
    wpAnyH Tryz.prog .any ops Q (fun w => w = w1) 47 (List.replicate 47 false).toArray a w := by
  refine Ord.take R (k := 0) (v := .slice none 0 0) (bs' := U47 1) rfl (by kernel_rfl) hQ trivial hS (fun w _ hS => ev_move F.s6.ev) F.lt fun a0 N => ?_
  replace F := F.next N
  have f73 := N.got
  clear N a
  refine Ord.take R (k := 1) (v := .int .i64 0) (bs' := U47 2) rfl (by kernel_rfl) hQ trivial hS (fun w _ hS => by have e73 := f73; unfold At at e73; clear F; go_simp) F.lt fun a1 N => ?_
  replace F := F.next N
  clear f73
  have f74 := N.got
  clear N a0
  refine Ord.take R (k := 2) (v := .bool false) (bs' := U47 3) rfl (by kernel_rfl) hQ trivial hS (fun w _ hS => ev_move F.s7.ev) F.lt fun a2 N => ?_
  replace F := F.next N
  replace f74 := N.k f74
  have f75 := N.got
  clear N a1
  refine Ord.take R (k := 3) (v := .bool false) (bs' := U47 4) rfl (by kernel_rfl) hQ trivial hS (fun w _ hS => ev_move f75.ev) F.lt fun a3 N => ?_
  replace F := F.next N
  replace f74 := N.k f74
  clear f75
  have f76 := N.got
  clear N a2
  refine Ord.take R (k := 4) (v := .bool false) (bs' := U47 5) rfl (by kernel_rfl) hQ (R.opened (j := 3) rfl f76) hS (fun w _ hS => ev_move F.s8.ev) F.lt fun a4 N => ?_
  replace F := F.next N
  replace f74 := N.k f74
  replace f76 := N.k f76
  have f77 := N.got
  clear N a3
  refine Ord.take R (k := 5) (v := .bool false) (bs' := U47 6) rfl (by kernel_rfl) hQ trivial hS (fun w _ hS => Ord.ev_pick_no f76.ev f77.ev) F.lt fun a5 N => ?_
  replace F := F.next N
  replace f74 := N.k f74
  clear f76
  clear f77
  have f78 := N.got
  clear N a4
  refine Ord.call R (k := 6) (args := #[.bool false]) (bs' := U47 7) rfl (by kernel_rfl) trivial (by simp [f78.ev]) (by kernel_rfl) (B2 _) F.lt ?_
  rintro e w ⟨rfl, rfl⟩
  replace hS := hS
  refine ⟨_, rfl, hS, fun a6 N => ?_⟩
  replace F := F.next N
  replace f74 := N.k f74
  clear f78
  have f79 := N.got
  clear N a5
  refine Ord.take R (k := 7) (v := .bool false) (bs' := U47 8) rfl (by kernel_rfl) hQ trivial hS (fun w _ hS => by have e74 := f74; unfold At at e74; have e79 := f79; unfold At at e79; clear F; go_simp) F.lt fun a7 N => ?_
  replace F := F.next N
  clear f74
  clear f79
  have f80 := N.got
  clear N a6
  refine Ord.take R (k := 8) (v := .bool false) (bs' := U47 9) rfl (by kernel_rfl) hQ trivial hS (fun w _ hS => ev_move f80.ev) F.lt fun a8 N => ?_
  replace F := F.next N
  clear f80
  have f81 := N.got
  clear N a7
  refine Ord.take R (k := 9) (v := .slice none 0 0) (bs' := U47 10) rfl (by kernel_rfl) hQ (R.opened (j := 8) rfl f81) hS (fun w _ hS => ev_move F.s6.ev) F.lt fun a9 N => ?_
  replace F := F.next N
  replace f81 := N.k f81
  have f82 := N.got
  clear N a8
  refine Ord.take R (k := 10) (v := .int .i64 0) (bs' := U47 11) rfl (by kernel_rfl) hQ (R.opened (j := 8) rfl f81) hS (fun w _ hS => by have e82 := f82; unfold At at e82; clear F; go_simp) F.lt fun a10 N => ?_
  replace F := F.next N
  replace f81 := N.k f81
  clear f82
  have f83 := N.got
  clear N a9
  refine Ord.take R (k := 11) (v := .bool false) (bs' := U47 12) rfl (by kernel_rfl) hQ (R.opened (j := 8) rfl f81) hS (fun w _ hS => by have e83 := f83; unfold At at e83; clear F; go_simp) F.lt fun a11 N => ?_
  replace F := F.next N
  replace f81 := N.k f81
  clear f83
  have f84 := N.got
  clear N a10
  refine Ord.take R (k := 12) (v := .bool false) (bs' := U47 13) rfl (by kernel_rfl) hQ (R.opened (j := 8) rfl f81) hS (fun w _ hS => ev_move f84.ev) F.lt fun a12 N => ?_
  replace F := F.next N
  replace f81 := N.k f81
  clear f84
  have f85 := N.got
  clear N a11
  refine Ord.skip R (k := 13) (bs' := U47 14) rfl (by kernel_rfl) hQ (R.shut (j := 12) rfl f85 (Ord.ne_not rfl)) hS F.lt fun a13 N => ?_
  replace F := F.next N
  replace f81 := N.k f81
  replace f85 := N.k f85
  have f86 := N.got
  clear N a12
  refine Ord.skip R (k := 14) (bs' := U47 15) rfl (by kernel_rfl) hQ (R.shut (j := 12) rfl f85 (Ord.ne_not rfl)) hS F.lt fun a14 N => ?_
  replace F := F.next N
  replace f81 := N.k f81
  replace f85 := N.k f85
  clear f86
  have f87 := N.got
  clear N a13
  refine Ord.skip R (k := 15) (bs' := U47 16) rfl (by kernel_rfl) hQ (R.shut (j := 12) rfl f85 (Ord.ne_not rfl)) hS F.lt fun a15 N => ?_
  replace F := F.next N
  replace f81 := N.k f81
  replace f85 := N.k f85
  clear f87
  have f88 := N.got
  clear N a14
  refine Ord.skip R (k := 16) (bs' := U47 17) rfl (by kernel_rfl) hQ (R.shut (j := 12) rfl f85 (Ord.ne_not rfl)) hS F.lt fun a16 N => ?_
  replace F := F.next N
  replace f81 := N.k f81
  replace f85 := N.k f85
  clear f88
  have f89 := N.got
  clear N a15
  refine Ord.skip R (k := 17) (bs' := U47 18) rfl (by kernel_rfl) hQ (R.shut (j := 12) rfl f85 (Ord.ne_not rfl)) hS F.lt fun a17 N => ?_
  replace F := F.next N
  replace f81 := N.k f81
  replace f85 := N.k f85
  replace f89 := N.k f89
  have f90 := N.got
  clear N a16
  refine Ord.skip R (k := 18) (bs' := U47 19) rfl (by kernel_rfl) hQ (R.shut (j := 12) rfl f85 (Ord.ne_not rfl)) hS F.lt fun a18 N => ?_
  replace F := F.next N
  replace f81 := N.k f81
  replace f85 := N.k f85
  replace f89 := N.k f89
  replace f90 := N.k f90
  have f91 := N.got
  clear N a17
  refine Ord.skip R (k := 19) (bs' := U47 20) rfl (by kernel_rfl) hQ (R.shut (j := 12) rfl f85 (Ord.ne_not rfl)) hS F.lt fun a19 N => ?_
  replace F := F.next N
  replace f81 := N.k f81
  replace f85 := N.k f85
  replace f89 := N.k f89
  clear f90
  clear f91
  have f92 := N.got
  clear N a18
  refine Ord.skip R (k := 20) (bs' := U47 21) rfl (by kernel_rfl) hQ (R.shut (j := 12) rfl f85 (Ord.ne_not rfl)) hS F.lt fun a20 N => ?_
  replace F := F.next N
  replace f81 := N.k f81
  replace f85 := N.k f85
  replace f89 := N.k f89
  clear f92
  have f93 := N.got
  clear N a19
  refine Ord.skip R (k := 21) (bs' := U47 22) rfl (by kernel_rfl) hQ (R.shut (j := 12) rfl f85 (Ord.ne_not rfl)) hS F.lt fun a21 N => ?_
  replace F := F.next N
  replace f81 := N.k f81
  replace f85 := N.k f85
  clear f89
  clear f93
  have f94 := N.got
  clear N a20
  refine Ord.skip R (k := 22) (bs' := U47 23) rfl (by kernel_rfl) hQ (R.shut (j := 12) rfl f85 (Ord.ne_not rfl)) hS F.lt fun a22 N => ?_
  replace F := F.next N
  replace f81 := N.k f81
  replace f85 := N.k f85
  clear f94
  have f95 := N.got
  clear N a21
  refine Ord.skip R (k := 23) (bs' := U47 24) rfl (by kernel_rfl) hQ (R.shut (j := 22) rfl f95 (Ord.ne_undef _)) hS F.lt fun a23 N => ?_
  replace F := F.next N
  replace f81 := N.k f81
  replace f85 := N.k f85
  replace f95 := N.k f95
  have f96 := N.got
  clear N a22
  refine Ord.skip R (k := 24) (bs' := U47 25) rfl (by kernel_rfl) hQ (R.shut (j := 22) rfl f95 (Ord.ne_undef _)) hS F.lt fun a24 N => ?_
  replace F := F.next N
  replace f81 := N.k f81
  replace f85 := N.k f85
  replace f95 := N.k f95
  clear f96
  have f97 := N.got
  clear N a23
  refine Ord.skip R (k := 25) (bs' := U47 26) rfl (by kernel_rfl) hQ (R.shut (j := 22) rfl f95 (Ord.ne_undef _)) hS F.lt fun a25 N => ?_
  replace F := F.next N
  replace f81 := N.k f81
  replace f85 := N.k f85
  replace f95 := N.k f95
  clear f97
  have f98 := N.got
  clear N a24
  refine Ord.skip R (k := 26) (bs' := U47 27) rfl (by kernel_rfl) hQ (R.shut (j := 22) rfl f95 (Ord.ne_undef _)) hS F.lt fun a26 N => ?_
  replace F := F.next N
  replace f81 := N.k f81
  replace f85 := N.k f85
  replace f95 := N.k f95
  clear f98
  have f99 := N.got
  clear N a25
  refine Ord.skip R (k := 27) (bs' := U47 28) rfl (by kernel_rfl) hQ (R.shut (j := 22) rfl f95 (Ord.ne_undef _)) hS F.lt fun a27 N => ?_
  replace F := F.next N
  replace f81 := N.k f81
  replace f85 := N.k f85
  replace f95 := N.k f95
  clear f99
  have f100 := N.got
  clear N a26
  refine Ord.skip R (k := 28) (bs' := U47 29) rfl (by kernel_rfl) hQ (R.shut (j := 22) rfl f95 (Ord.ne_undef _)) hS F.lt fun a28 N => ?_
  replace F := F.next N
  replace f81 := N.k f81
  replace f85 := N.k f85
  replace f95 := N.k f95
  replace f100 := N.k f100
  have f101 := N.got
  clear N a27
  refine Ord.skip R (k := 29) (bs' := U47 30) rfl (by kernel_rfl) hQ (R.shut (j := 22) rfl f95 (Ord.ne_undef _)) hS F.lt fun a29 N => ?_
  replace F := F.next N
  replace f81 := N.k f81
  replace f85 := N.k f85
  replace f95 := N.k f95
  clear f100
  clear f101
  have f102 := N.got
  clear N a28
  refine Ord.skip R (k := 30) (bs' := U47 31) rfl (by kernel_rfl) hQ (R.shut (j := 12) rfl f85 (Ord.ne_not rfl)) hS F.lt fun a30 N => ?_
  replace F := F.next N
  replace f81 := N.k f81
  replace f85 := N.k f85
  clear f95
  clear f102
  have f103 := N.got
  clear N a29
  refine Ord.skip R (k := 31) (bs' := U47 32) rfl (by kernel_rfl) hQ (R.shut (j := 12) rfl f85 (Ord.ne_not rfl)) hS F.lt fun a31 N => ?_
  replace F := F.next N
  replace f81 := N.k f81
  replace f85 := N.k f85
  clear f103
  have f104 := N.got
  clear N a30
  refine Ord.skip R (k := 32) (bs' := U47 33) rfl (by kernel_rfl) hQ (R.shut (j := 31) rfl f104 (Ord.ne_undef _)) hS F.lt fun a32 N => ?_
  replace F := F.next N
  replace f81 := N.k f81
  replace f85 := N.k f85
  replace f104 := N.k f104
  have f105 := N.got
  clear N a31
  refine Ord.skip R (k := 33) (bs' := U47 34) rfl (by kernel_rfl) hQ (R.shut (j := 31) rfl f104 (Ord.ne_undef _)) hS F.lt fun a33 N => ?_
  replace F := F.next N
  replace f81 := N.k f81
  replace f85 := N.k f85
  replace f104 := N.k f104
  clear f105
  have f106 := N.got
  clear N a32
  refine Ord.skip R (k := 34) (bs' := U47 35) rfl (by kernel_rfl) hQ (R.shut (j := 31) rfl f104 (Ord.ne_undef _)) hS F.lt fun a34 N => ?_
  replace F := F.next N
  replace f81 := N.k f81
  replace f85 := N.k f85
  replace f104 := N.k f104
  clear f106
  have f107 := N.got
  clear N a33
  refine Ord.skip R (k := 35) (bs' := U47 36) rfl (by kernel_rfl) hQ (R.shut (j := 31) rfl f104 (Ord.ne_undef _)) hS F.lt fun a35 N => ?_
  replace F := F.next N
  replace f81 := N.k f81
  replace f85 := N.k f85
  replace f104 := N.k f104
  clear f107
  have f108 := N.got
  clear N a34
  refine Ord.skip R (k := 36) (bs' := U47 37) rfl (by kernel_rfl) hQ (R.shut (j := 31) rfl f104 (Ord.ne_undef _)) hS F.lt fun a36 N => ?_
  replace F := F.next N
  replace f81 := N.k f81
  replace f85 := N.k f85
  replace f104 := N.k f104
  clear f108
  have f109 := N.got
  clear N a35
  refine Ord.skip R (k := 37) (bs' := U47 38) rfl (by kernel_rfl) hQ (R.shut (j := 31) rfl f104 (Ord.ne_undef _)) hS F.lt fun a37 N => ?_
  replace F := F.next N
  replace f81 := N.k f81
  replace f85 := N.k f85
  replace f104 := N.k f104
  replace f109 := N.k f109
  have f110 := N.got
  clear N a36
  refine Ord.skip R (k := 38) (bs' := U47 39) rfl (by kernel_rfl) hQ (R.shut (j := 31) rfl f104 (Ord.ne_undef _)) hS F.lt fun a38 N => ?_
  replace F := F.next N
  replace f81 := N.k f81
  replace f85 := N.k f85
  replace f104 := N.k f104
  clear f109
  clear f110
  have f111 := N.got
  clear N a37
  refine Ord.skip R (k := 39) (bs' := U47 40) rfl (by kernel_rfl) hQ (R.shut (j := 12) rfl f85 (Ord.ne_not rfl)) hS F.lt fun a39 N => ?_
  replace F := F.next N
  replace f81 := N.k f81
  replace f85 := N.k f85
  clear f104
  clear f111
  have f112 := N.got
  clear N a38
  refine Ord.take R (k := 40) (v := Value.bool false) (bs' := U47 41) rfl (by kernel_rfl) hQ (R.opened (j := 8) rfl f81) hS (fun w _ hS => Ord.ev_pick_no f85.ev rfl) F.lt fun a40 N => ?_
  replace F := F.next N
  replace f81 := N.k f81
  clear f85
  clear f112
  have f113 := N.got
  clear N a39
  refine Ord.take R (k := 41) (v := Value.bool false) (bs' := U47 42) rfl (by kernel_rfl) hQ trivial hS (fun w _ hS => Ord.ev_pick_no f81.ev f113.ev) F.lt fun a41 N => ?_
  replace F := F.next N
  clear f81
  clear f113
  have f114 := N.got
  clear N a40
  refine Ord.take R (k := 42) (v := Value.bool false) (bs' := U47 43) rfl (by kernel_rfl) hQ trivial hS (fun w _ hS => ev_move f114.ev) F.lt fun a42 N => ?_
  replace F := F.next N
  clear f114
  have f115 := N.got
  clear N a41
  refine Ord.take R (k := 43) (v := .pointer (some ⟨g, 0, none⟩)) (bs' := U47 44) rfl (by kernel_rfl) hQ (R.opened (j := 42) rfl f115) hS (fun w _ hS => ev_move F.s4.ev) F.lt fun a43 N => ?_
  replace F := F.next N
  replace f115 := N.k f115
  have f116 := N.got
  clear N a42
  refine Ord.call R (k := 44) (args := #[.pointer (some ⟨g, 0, none⟩)]) (bs' := U47 45) rfl (by kernel_rfl) (R.opened (j := 42) rfl f115) (by simp [f116.ev]) (by kernel_rfl) (QW _ hS) F.lt ?_
  rintro e w ⟨rfl, rfl⟩
  replace hS := hS
  refine ⟨_, rfl, hS, fun a44 N => ?_⟩
  replace F := F.next N
  replace f115 := N.k f115
  clear f116
  have f117 := N.got
  clear N a43
  refine Ord.take R (k := 45) (v := .bool false) (bs' := U47 46) rfl (by kernel_rfl) hQ (R.opened (j := 42) rfl f115) hS (fun w _ hS => by have e117 := f117; unfold At at e117; clear F; go_simp) F.lt fun a45 N => ?_
  replace F := F.next N
  replace f115 := N.k f115
  clear f117
  have f118 := N.got
  clear N a44
  refine Ord.take R (k := 46) (v := .bool false) (bs' := U47 47) rfl (by kernel_rfl) hQ trivial hS (fun w _ hS => Ord.ev_pick_no f115.ev f118.ev) F.lt fun a46 N => ?_
  replace F := F.next N
  clear f115
  clear f118
  have f119 := N.got
  clear N a45
  subst hS
  exact Ord.finish R (by kernel_rfl) (h _ F f119)

/-- The slots that are known all the way. -/
structure PlainFr1 (g bq off n c i b : Nat) (p1 p2 p3 p9 p10 p11 p12 p13 : Value) (a : Act) : Prop where
  size : a.tmps.size = 120
  defers : a.defers = []
  s0 : At a 0 (.slice (some ⟨bq, off, none⟩) n c)
  s1 : At a 1 (p1)
  s2 : At a 2 (p2)
  s3 : At a 3 (p3)
  s4 : At a 4 (.pointer (some ⟨g, 0, none⟩))
  s5 : At a 5 (.int .i64 (i : Int))
  s6 : At a 6 (.slice (some ⟨b, 0, none⟩) 1 1)
  s7 : At a 7 (.bool true)
  s8 : At a 8 (.bool false)
  s9 : At a 9 (p9)
  s10 : At a 10 (p10)
  s11 : At a 11 (p11)
  s12 : At a 12 (p12)
  s13 : At a 13 (p13)
theorem PlainFr1.next {g bq off n c i b : Nat} {p1 p2 p3 p9 p10 p11 p12 p13 : Value} {a a' : Act} {d : Nat} {v : Value} (F : PlainFr1 g bq off n c i b p1 p2 p3 p9 p10 p11 p12 p13 a) (nx : Chain.Next a a' d v) (h : d ≠ 0 ∧ d ≠ 1 ∧ d ≠ 2 ∧ d ≠ 3 ∧ d ≠ 4 ∧ d ≠ 5 ∧ d ≠ 6 ∧ d ≠ 7 ∧ d ≠ 8 ∧ d ≠ 9 ∧ d ≠ 10 ∧ d ≠ 11 ∧ d ≠ 12 ∧ d ≠ 13 := by decide) : PlainFr1 g bq off n c i b p1 p2 p3 p9 p10 p11 p12 p13 a' := ⟨nx.size.trans F.size, nx.defers.trans F.defers, nx.k F.s0 (by omega), nx.k F.s1 (by omega), nx.k F.s2 (by omega), nx.k F.s3 (by omega), nx.k F.s4 (by omega), nx.k F.s5 (by omega), nx.k F.s6 (by omega), nx.k F.s7 (by omega), nx.k F.s8 (by omega), nx.k F.s9 (by omega), nx.k F.s10 (by omega), nx.k F.s11 (by omega), nx.k F.s12 (by omega), nx.k F.s13 (by omega)⟩
theorem PlainFr1.lt {g bq off n c i b : Nat} {p1 p2 p3 p9 p10 p11 p12 p13 : Value} {a : Act} {d : Nat} (F : PlainFr1 g bq off n c i b p1 p2 p3 p9 p10 p11 p12 p13 a) (h : d < 120 := by decide) : d < a.tmps.size := by rw [F.size]; exact h

set_option maxRecDepth 100000 in
theorem plain_ctrl {ops : Array Oper} {Q : Exit → Act → World → Prop} (R : Ord.Reg ops plainL) (hQ : ∀ c a w d v, Q (.panic c) (Act.put a (some d) v) w → Q (.panic c) a w) {w1 : World} {g bq off n c i b : Nat} {p1 p2 p3 p9 p10 p11 p12 p13 : Value}
    {r : Int}
    (QW : ∀ w : World, w = w1 → Calls Tryz.prog 27 #[.pointer (some ⟨g, 0, none⟩)] w fun e w' => e = .returned (.bool true) ∧ w = w')
    (B2 : ∀ w : World, Calls Tryz.prog 25 #[.bool true] w fun e w' => e = .returned (.int .i64 1) ∧ w = w')
    (c0 : ∀ w : World, w = w1 → w.cell? ⟨b, 0, none⟩ = some (.int .i64 2)) (c1 : ∀ w : World, w = w1 → w.cell? ⟨b, 1, none⟩ = some (.int .i32 r)) (cl : ∀ w : World, w = w1 → w.cell? ⟨bq, off + i, none⟩ = some (.int .i32 r)) (hi0 : (0 : Int) ≤ (i : Int)) (hin : (i : Int) < (n : Int))
    (a : Act) (F : PlainFr1 g bq off n c i b p1 p2 p3 p9 p10 p11 p12 p13 a) (h : ∀ a, PlainFr1 g bq off n c i b p1 p2 p3 p9 p10 p11 p12 p13 a → At a 119 (.bool false) → Q .normal a w1) (w : World) (hS : w = w1) :
    wpAnyH Tryz.prog .any ops Q (fun w => w = w1) 47 (List.replicate 47 false).toArray a w := by
  refine Ord.take R (k := 0) (v := .slice (some ⟨b, 0, none⟩) 1 1) (bs' := U47 1) rfl (by kernel_rfl) hQ trivial hS (fun w _ hS => ev_move F.s6.ev) F.lt fun a0 N => ?_
  replace F := F.next N
  have f73 := N.got
  clear N a
  refine Ord.take R (k := 1) (v := .int .i64 1) (bs' := U47 2) rfl (by kernel_rfl) hQ trivial hS (fun w _ hS => by have e73 := f73; unfold At at e73; clear F; go_simp) F.lt fun a1 N => ?_
  replace F := F.next N
  clear f73
  have f74 := N.got
  clear N a0
  refine Ord.take R (k := 2) (v := .bool true) (bs' := U47 3) rfl (by kernel_rfl) hQ trivial hS (fun w _ hS => ev_move F.s7.ev) F.lt fun a2 N => ?_
  replace F := F.next N
  replace f74 := N.k f74
  have f75 := N.got
  clear N a1
  refine Ord.take R (k := 3) (v := .bool true) (bs' := U47 4) rfl (by kernel_rfl) hQ trivial hS (fun w _ hS => ev_move f75.ev) F.lt fun a3 N => ?_
  replace F := F.next N
  replace f74 := N.k f74
  clear f75
  have f76 := N.got
  clear N a2
  refine Ord.skip R (k := 4) (bs' := U47 5) rfl (by kernel_rfl) hQ (R.shut (j := 3) rfl f76 (Ord.ne_not rfl)) hS F.lt fun a4 N => ?_
  replace F := F.next N
  replace f74 := N.k f74
  replace f76 := N.k f76
  have f77 := N.got
  clear N a3
  refine Ord.take R (k := 5) (v := Value.bool true) (bs' := U47 6) rfl (by kernel_rfl) hQ trivial hS (fun w _ hS => Ord.ev_pick_yes f76.ev rfl) F.lt fun a5 N => ?_
  replace F := F.next N
  replace f74 := N.k f74
  clear f76
  clear f77
  have f78 := N.got
  clear N a4
  refine Ord.call R (k := 6) (args := #[.bool true]) (bs' := U47 7) rfl (by kernel_rfl) trivial (by simp [f78.ev]) (by kernel_rfl) (B2 _) F.lt ?_
  rintro e w ⟨rfl, rfl⟩
  replace hS := hS
  refine ⟨_, rfl, hS, fun a6 N => ?_⟩
  replace F := F.next N
  replace f74 := N.k f74
  clear f78
  have f79 := N.got
  clear N a5
  refine Ord.take R (k := 7) (v := .bool false) (bs' := U47 8) rfl (by kernel_rfl) hQ trivial hS (fun w _ hS => by have e74 := f74; unfold At at e74; have e79 := f79; unfold At at e79; clear F; go_simp) F.lt fun a7 N => ?_
  replace F := F.next N
  clear f74
  clear f79
  have f80 := N.got
  clear N a6
  refine Ord.take R (k := 8) (v := .bool false) (bs' := U47 9) rfl (by kernel_rfl) hQ trivial hS (fun w _ hS => ev_move f80.ev) F.lt fun a8 N => ?_
  replace F := F.next N
  clear f80
  have f81 := N.got
  clear N a7
  refine Ord.take R (k := 9) (v := .slice (some ⟨b, 0, none⟩) 1 1) (bs' := U47 10) rfl (by kernel_rfl) hQ (R.opened (j := 8) rfl f81) hS (fun w _ hS => ev_move F.s6.ev) F.lt fun a9 N => ?_
  replace F := F.next N
  replace f81 := N.k f81
  have f82 := N.got
  clear N a8
  refine Ord.take R (k := 10) (v := .int .i64 1) (bs' := U47 11) rfl (by kernel_rfl) hQ (R.opened (j := 8) rfl f81) hS (fun w _ hS => by have e82 := f82; unfold At at e82; clear F; go_simp) F.lt fun a10 N => ?_
  replace F := F.next N
  replace f81 := N.k f81
  clear f82
  have f83 := N.got
  clear N a9
  refine Ord.take R (k := 11) (v := .bool true) (bs' := U47 12) rfl (by kernel_rfl) hQ (R.opened (j := 8) rfl f81) hS (fun w _ hS => by have e83 := f83; unfold At at e83; clear F; go_simp) F.lt fun a11 N => ?_
  replace F := F.next N
  replace f81 := N.k f81
  clear f83
  have f84 := N.got
  clear N a10
  refine Ord.take R (k := 12) (v := .bool true) (bs' := U47 13) rfl (by kernel_rfl) hQ (R.opened (j := 8) rfl f81) hS (fun w _ hS => ev_move f84.ev) F.lt fun a12 N => ?_
  replace F := F.next N
  replace f81 := N.k f81
  clear f84
  have f85 := N.got
  clear N a11
  refine Ord.take R (k := 13) (v := .slice (some ⟨b, 0, none⟩) 1 1) (bs' := U47 14) rfl (by kernel_rfl) hQ (R.opened (j := 12) rfl f85) hS (fun w _ hS => ev_move F.s6.ev) F.lt fun a13 N => ?_
  replace F := F.next N
  replace f81 := N.k f81
  replace f85 := N.k f85
  have f86 := N.got
  clear N a12
  refine Ord.take R (k := 14) (v := .pointer (some ⟨b, 0, none⟩)) (bs' := U47 15) rfl (by kernel_rfl) hQ (R.opened (j := 12) rfl f85) hS (fun w _ hS => by have e86 := f86; unfold At at e86; clear F; go_simp) F.lt fun a14 N => ?_
  replace F := F.next N
  replace f81 := N.k f81
  replace f85 := N.k f85
  clear f86
  have f87 := N.got
  clear N a13
  refine Ord.take R (k := 15) (v := .pointer (some ⟨b, 1, none⟩)) (bs' := U47 16) rfl (by kernel_rfl) hQ (R.opened (j := 12) rfl f85) hS (fun w _ hS => by have e87 := f87; unfold At at e87; clear F; go_simp) F.lt fun a15 N => ?_
  replace F := F.next N
  replace f81 := N.k f81
  replace f85 := N.k f85
  clear f87
  have f88 := N.got
  clear N a14
  refine Ord.take R (k := 16) (v := .int .i32 r) (bs' := U47 17) rfl (by kernel_rfl) hQ (R.opened (j := 12) rfl f85) hS (fun w _ hS => by have e88 := f88; unfold At at e88; have q0 := (c1 w hS); clear F; go_simp) F.lt fun a16 N => ?_
  replace F := F.next N
  replace f81 := N.k f81
  replace f85 := N.k f85
  clear f88
  have f89 := N.got
  clear N a15
  refine Ord.take R (k := 17) (v := .slice (some ⟨bq, off, none⟩) n c) (bs' := U47 18) rfl (by kernel_rfl) hQ (R.opened (j := 12) rfl f85) hS (fun w _ hS => ev_move F.s0.ev) F.lt fun a17 N => ?_
  replace F := F.next N
  replace f81 := N.k f81
  replace f85 := N.k f85
  replace f89 := N.k f89
  have f90 := N.got
  clear N a16
  refine Ord.take R (k := 18) (v := .int .i64 (i : Int)) (bs' := U47 19) rfl (by kernel_rfl) hQ (R.opened (j := 12) rfl f85) hS (fun w _ hS => ev_move F.s5.ev) F.lt fun a18 N => ?_
  replace F := F.next N
  replace f81 := N.k f81
  replace f85 := N.k f85
  replace f89 := N.k f89
  replace f90 := N.k f90
  have f91 := N.got
  clear N a17
  refine Ord.take R (k := 19) (v := .pointer (some ⟨bq, off + i, none⟩)) (bs' := U47 20) rfl (by kernel_rfl) hQ (R.opened (j := 12) rfl f85) hS (fun w _ hS => by have e90 := f90; unfold At at e90; have e91 := f91; unfold At at e91; have q0 := hi0; have q1 := hin; clear F; go_simp) F.lt fun a19 N => ?_
  replace F := F.next N
  replace f81 := N.k f81
  replace f85 := N.k f85
  replace f89 := N.k f89
  clear f90
  clear f91
  have f92 := N.got
  clear N a18
  refine Ord.take R (k := 20) (v := .int .i32 r) (bs' := U47 21) rfl (by kernel_rfl) hQ (R.opened (j := 12) rfl f85) hS (fun w _ hS => by have e92 := f92; unfold At at e92; have q0 := (cl w hS); clear F; go_simp) F.lt fun a20 N => ?_
  replace F := F.next N
  replace f81 := N.k f81
  replace f85 := N.k f85
  replace f89 := N.k f89
  clear f92
  have f93 := N.got
  clear N a19
  refine Ord.take R (k := 21) (v := .bool false) (bs' := U47 22) rfl (by kernel_rfl) hQ (R.opened (j := 12) rfl f85) hS (fun w _ hS => by have e89 := f89; unfold At at e89; have e93 := f93; unfold At at e93; clear F; go_simp) F.lt fun a21 N => ?_
  replace F := F.next N
  replace f81 := N.k f81
  replace f85 := N.k f85
  clear f89
  clear f93
  have f94 := N.got
  clear N a20
  refine Ord.take R (k := 22) (v := .bool false) (bs' := U47 23) rfl (by kernel_rfl) hQ (R.opened (j := 12) rfl f85) hS (fun w _ hS => ev_move f94.ev) F.lt fun a22 N => ?_
  replace F := F.next N
  replace f81 := N.k f81
  replace f85 := N.k f85
  clear f94
  have f95 := N.got
  clear N a21
  refine Ord.take R (k := 23) (v := .slice (some ⟨b, 0, none⟩) 1 1) (bs' := U47 24) rfl (by kernel_rfl) hQ (R.opened (j := 22) rfl f95) hS (fun w _ hS => ev_move F.s6.ev) F.lt fun a23 N => ?_
  replace F := F.next N
  replace f81 := N.k f81
  replace f85 := N.k f85
  replace f95 := N.k f95
  have f96 := N.got
  clear N a22
  refine Ord.take R (k := 24) (v := .pointer (some ⟨b, 0, none⟩)) (bs' := U47 25) rfl (by kernel_rfl) hQ (R.opened (j := 22) rfl f95) hS (fun w _ hS => by have e96 := f96; unfold At at e96; clear F; go_simp) F.lt fun a24 N => ?_
  replace F := F.next N
  replace f81 := N.k f81
  replace f85 := N.k f85
  replace f95 := N.k f95
  clear f96
  have f97 := N.got
  clear N a23
  refine Ord.take R (k := 25) (v := .pointer (some ⟨b, 0, none⟩)) (bs' := U47 26) rfl (by kernel_rfl) hQ (R.opened (j := 22) rfl f95) hS (fun w _ hS => by have e97 := f97; unfold At at e97; clear F; go_simp) F.lt fun a25 N => ?_
  replace F := F.next N
  replace f81 := N.k f81
  replace f85 := N.k f85
  replace f95 := N.k f95
  clear f97
  have f98 := N.got
  clear N a24
  refine Ord.take R (k := 26) (v := .int .i64 2) (bs' := U47 27) rfl (by kernel_rfl) hQ (R.opened (j := 22) rfl f95) hS (fun w _ hS => by have e98 := f98; unfold At at e98; have q0 := (c0 w hS); clear F; go_simp) F.lt fun a26 N => ?_
  replace F := F.next N
  replace f81 := N.k f81
  replace f85 := N.k f85
  replace f95 := N.k f95
  clear f98
  have f99 := N.got
  clear N a25
  refine Ord.take R (k := 27) (v := .bool true) (bs' := U47 28) rfl (by kernel_rfl) hQ (R.opened (j := 22) rfl f95) hS (fun w _ hS => by have e99 := f99; unfold At at e99; clear F; go_simp) F.lt fun a27 N => ?_
  replace F := F.next N
  replace f81 := N.k f81
  replace f85 := N.k f85
  replace f95 := N.k f95
  clear f99
  have f100 := N.got
  clear N a26
  refine Ord.take R (k := 28) (v := .bool true) (bs' := U47 29) rfl (by kernel_rfl) hQ (R.opened (j := 22) rfl f95) hS (fun w _ hS => ev_move F.s7.ev) F.lt fun a28 N => ?_
  replace F := F.next N
  replace f81 := N.k f81
  replace f85 := N.k f85
  replace f95 := N.k f95
  replace f100 := N.k f100
  have f101 := N.got
  clear N a27
  refine Ord.take R (k := 29) (v := .bool false) (bs' := U47 30) rfl (by kernel_rfl) hQ (R.opened (j := 22) rfl f95) hS (fun w _ hS => by have e100 := f100; unfold At at e100; have e101 := f101; unfold At at e101; clear F; go_simp) F.lt fun a29 N => ?_
  replace F := F.next N
  replace f81 := N.k f81
  replace f85 := N.k f85
  replace f95 := N.k f95
  clear f100
  clear f101
  have f102 := N.got
  clear N a28
  refine Ord.take R (k := 30) (v := .bool false) (bs' := U47 31) rfl (by kernel_rfl) hQ (R.opened (j := 12) rfl f85) hS (fun w _ hS => Ord.ev_pick_no f95.ev f102.ev) F.lt fun a30 N => ?_
  replace F := F.next N
  replace f81 := N.k f81
  replace f85 := N.k f85
  clear f95
  clear f102
  have f103 := N.got
  clear N a29
  refine Ord.take R (k := 31) (v := .bool false) (bs' := U47 32) rfl (by kernel_rfl) hQ (R.opened (j := 12) rfl f85) hS (fun w _ hS => ev_move f103.ev) F.lt fun a31 N => ?_
  replace F := F.next N
  replace f81 := N.k f81
  replace f85 := N.k f85
  clear f103
  have f104 := N.got
  clear N a30
  refine Ord.take R (k := 32) (v := .slice (some ⟨b, 0, none⟩) 1 1) (bs' := U47 33) rfl (by kernel_rfl) hQ (R.opened (j := 31) rfl f104) hS (fun w _ hS => ev_move F.s6.ev) F.lt fun a32 N => ?_
  replace F := F.next N
  replace f81 := N.k f81
  replace f85 := N.k f85
  replace f104 := N.k f104
  have f105 := N.got
  clear N a31
  refine Ord.take R (k := 33) (v := .pointer (some ⟨b, 0, none⟩)) (bs' := U47 34) rfl (by kernel_rfl) hQ (R.opened (j := 31) rfl f104) hS (fun w _ hS => by have e105 := f105; unfold At at e105; clear F; go_simp) F.lt fun a33 N => ?_
  replace F := F.next N
  replace f81 := N.k f81
  replace f85 := N.k f85
  replace f104 := N.k f104
  clear f105
  have f106 := N.got
  clear N a32
  refine Ord.take R (k := 34) (v := .pointer (some ⟨b, 0, none⟩)) (bs' := U47 35) rfl (by kernel_rfl) hQ (R.opened (j := 31) rfl f104) hS (fun w _ hS => by have e106 := f106; unfold At at e106; clear F; go_simp) F.lt fun a34 N => ?_
  replace F := F.next N
  replace f81 := N.k f81
  replace f85 := N.k f85
  replace f104 := N.k f104
  clear f106
  have f107 := N.got
  clear N a33
  refine Ord.take R (k := 35) (v := .int .i64 2) (bs' := U47 36) rfl (by kernel_rfl) hQ (R.opened (j := 31) rfl f104) hS (fun w _ hS => by have e107 := f107; unfold At at e107; have q0 := (c0 w hS); clear F; go_simp) F.lt fun a35 N => ?_
  replace F := F.next N
  replace f81 := N.k f81
  replace f85 := N.k f85
  replace f104 := N.k f104
  clear f107
  have f108 := N.got
  clear N a34
  refine Ord.take R (k := 36) (v := .bool false) (bs' := U47 37) rfl (by kernel_rfl) hQ (R.opened (j := 31) rfl f104) hS (fun w _ hS => by have e108 := f108; unfold At at e108; clear F; go_simp) F.lt fun a36 N => ?_
  replace F := F.next N
  replace f81 := N.k f81
  replace f85 := N.k f85
  replace f104 := N.k f104
  clear f108
  have f109 := N.got
  clear N a35
  refine Ord.take R (k := 37) (v := .bool false) (bs' := U47 38) rfl (by kernel_rfl) hQ (R.opened (j := 31) rfl f104) hS (fun w _ hS => ev_move F.s8.ev) F.lt fun a37 N => ?_
  replace F := F.next N
  replace f81 := N.k f81
  replace f85 := N.k f85
  replace f104 := N.k f104
  replace f109 := N.k f109
  have f110 := N.got
  clear N a36
  refine Ord.take R (k := 38) (v := .bool false) (bs' := U47 39) rfl (by kernel_rfl) hQ (R.opened (j := 31) rfl f104) hS (fun w _ hS => by have e109 := f109; unfold At at e109; have e110 := f110; unfold At at e110; clear F; go_simp) F.lt fun a38 N => ?_
  replace F := F.next N
  replace f81 := N.k f81
  replace f85 := N.k f85
  replace f104 := N.k f104
  clear f109
  clear f110
  have f111 := N.got
  clear N a37
  refine Ord.take R (k := 39) (v := .bool false) (bs' := U47 40) rfl (by kernel_rfl) hQ (R.opened (j := 12) rfl f85) hS (fun w _ hS => Ord.ev_pick_no f104.ev f111.ev) F.lt fun a39 N => ?_
  replace F := F.next N
  replace f81 := N.k f81
  replace f85 := N.k f85
  clear f104
  clear f111
  have f112 := N.got
  clear N a38
  refine Ord.take R (k := 40) (v := .bool false) (bs' := U47 41) rfl (by kernel_rfl) hQ (R.opened (j := 8) rfl f81) hS (fun w _ hS => Ord.ev_pick_yes f85.ev f112.ev) F.lt fun a40 N => ?_
  replace F := F.next N
  replace f81 := N.k f81
  clear f85
  clear f112
  have f113 := N.got
  clear N a39
  refine Ord.take R (k := 41) (v := .bool false) (bs' := U47 42) rfl (by kernel_rfl) hQ trivial hS (fun w _ hS => Ord.ev_pick_no f81.ev f113.ev) F.lt fun a41 N => ?_
  replace F := F.next N
  clear f81
  clear f113
  have f114 := N.got
  clear N a40
  refine Ord.take R (k := 42) (v := .bool false) (bs' := U47 43) rfl (by kernel_rfl) hQ trivial hS (fun w _ hS => ev_move f114.ev) F.lt fun a42 N => ?_
  replace F := F.next N
  clear f114
  have f115 := N.got
  clear N a41
  refine Ord.take R (k := 43) (v := .pointer (some ⟨g, 0, none⟩)) (bs' := U47 44) rfl (by kernel_rfl) hQ (R.opened (j := 42) rfl f115) hS (fun w _ hS => ev_move F.s4.ev) F.lt fun a43 N => ?_
  replace F := F.next N
  replace f115 := N.k f115
  have f116 := N.got
  clear N a42
  refine Ord.call R (k := 44) (args := #[.pointer (some ⟨g, 0, none⟩)]) (bs' := U47 45) rfl (by kernel_rfl) (R.opened (j := 42) rfl f115) (by simp [f116.ev]) (by kernel_rfl) (QW _ hS) F.lt ?_
  rintro e w ⟨rfl, rfl⟩
  replace hS := hS
  refine ⟨_, rfl, hS, fun a44 N => ?_⟩
  replace F := F.next N
  replace f115 := N.k f115
  clear f116
  have f117 := N.got
  clear N a43
  refine Ord.take R (k := 45) (v := .bool false) (bs' := U47 46) rfl (by kernel_rfl) hQ (R.opened (j := 42) rfl f115) hS (fun w _ hS => by have e117 := f117; unfold At at e117; clear F; go_simp) F.lt fun a45 N => ?_
  replace F := F.next N
  replace f115 := N.k f115
  clear f117
  have f118 := N.got
  clear N a44
  refine Ord.take R (k := 46) (v := .bool false) (bs' := U47 47) rfl (by kernel_rfl) hQ trivial hS (fun w _ hS => Ord.ev_pick_no f115.ev f118.ev) F.lt fun a46 N => ?_
  replace F := F.next N
  clear f115
  clear f118
  have f119 := N.got
  clear N a45
  subst hS
  exact Ord.finish R (by kernel_rfl) (h _ F f119)

/-- The slots that are known all the way. -/
structure PlainFr2 (g bq off n c i b : Nat) (p1 p2 p3 p9 p10 p11 p12 p13 : Value) (a : Act) : Prop where
  size : a.tmps.size = 120
  defers : a.defers = []
  s0 : At a 0 (.slice (some ⟨bq, off, none⟩) n c)
  s1 : At a 1 (p1)
  s2 : At a 2 (p2)
  s3 : At a 3 (p3)
  s4 : At a 4 (.pointer (some ⟨g, 0, none⟩))
  s5 : At a 5 (.int .i64 (i : Int))
  s6 : At a 6 (.slice (some ⟨b, 0, none⟩) 1 1)
  s7 : At a 7 (.bool false)
  s8 : At a 8 (.bool true)
  s9 : At a 9 (p9)
  s10 : At a 10 (p10)
  s11 : At a 11 (p11)
  s12 : At a 12 (p12)
  s13 : At a 13 (p13)
theorem PlainFr2.next {g bq off n c i b : Nat} {p1 p2 p3 p9 p10 p11 p12 p13 : Value} {a a' : Act} {d : Nat} {v : Value} (F : PlainFr2 g bq off n c i b p1 p2 p3 p9 p10 p11 p12 p13 a) (nx : Chain.Next a a' d v) (h : d ≠ 0 ∧ d ≠ 1 ∧ d ≠ 2 ∧ d ≠ 3 ∧ d ≠ 4 ∧ d ≠ 5 ∧ d ≠ 6 ∧ d ≠ 7 ∧ d ≠ 8 ∧ d ≠ 9 ∧ d ≠ 10 ∧ d ≠ 11 ∧ d ≠ 12 ∧ d ≠ 13 := by decide) : PlainFr2 g bq off n c i b p1 p2 p3 p9 p10 p11 p12 p13 a' := ⟨nx.size.trans F.size, nx.defers.trans F.defers, nx.k F.s0 (by omega), nx.k F.s1 (by omega), nx.k F.s2 (by omega), nx.k F.s3 (by omega), nx.k F.s4 (by omega), nx.k F.s5 (by omega), nx.k F.s6 (by omega), nx.k F.s7 (by omega), nx.k F.s8 (by omega), nx.k F.s9 (by omega), nx.k F.s10 (by omega), nx.k F.s11 (by omega), nx.k F.s12 (by omega), nx.k F.s13 (by omega)⟩
theorem PlainFr2.lt {g bq off n c i b : Nat} {p1 p2 p3 p9 p10 p11 p12 p13 : Value} {a : Act} {d : Nat} (F : PlainFr2 g bq off n c i b p1 p2 p3 p9 p10 p11 p12 p13 a) (h : d < 120 := by decide) : d < a.tmps.size := by rw [F.size]; exact h

set_option maxRecDepth 100000 in
theorem plain_print {ops : Array Oper} {Q : Exit → Act → World → Prop} (R : Ord.Reg ops plainL) (hQ : ∀ c a w d v, Q (.panic c) (Act.put a (some d) v) w → Q (.panic c) a w) {w1 : World} {g bq off n c i b : Nat} {p1 p2 p3 p9 p10 p11 p12 p13 : Value}
    {r : Int}
    (QW : ∀ w : World, w = w1 → Calls Tryz.prog 27 #[.pointer (some ⟨g, 0, none⟩)] w fun e w' => e = .returned (.bool true) ∧ w = w')
    (B2 : ∀ w : World, Calls Tryz.prog 25 #[.bool true] w fun e w' => e = .returned (.int .i64 1) ∧ w = w')
    (c0 : ∀ w : World, w = w1 → w.cell? ⟨b, 0, none⟩ = some (.int .i64 1)) (c1 : ∀ w : World, w = w1 → w.cell? ⟨b, 1, none⟩ = some (.int .i32 r)) (cl : ∀ w : World, w = w1 → w.cell? ⟨bq, off + i, none⟩ = some (.int .i32 r)) (hi0 : (0 : Int) ≤ (i : Int)) (hin : (i : Int) < (n : Int))
    (a : Act) (F : PlainFr2 g bq off n c i b p1 p2 p3 p9 p10 p11 p12 p13 a) (h : ∀ a, PlainFr2 g bq off n c i b p1 p2 p3 p9 p10 p11 p12 p13 a → At a 119 (.bool false) → Q .normal a w1) (w : World) (hS : w = w1) :
    wpAnyH Tryz.prog .any ops Q (fun w => w = w1) 47 (List.replicate 47 false).toArray a w := by
  refine Ord.take R (k := 0) (v := .slice (some ⟨b, 0, none⟩) 1 1) (bs' := U47 1) rfl (by kernel_rfl) hQ trivial hS (fun w _ hS => ev_move F.s6.ev) F.lt fun a0 N => ?_
  replace F := F.next N
  have f73 := N.got
  clear N a
  refine Ord.take R (k := 1) (v := .int .i64 1) (bs' := U47 2) rfl (by kernel_rfl) hQ trivial hS (fun w _ hS => by have e73 := f73; unfold At at e73; clear F; go_simp) F.lt fun a1 N => ?_
  replace F := F.next N
  clear f73
  have f74 := N.got
  clear N a0
  refine Ord.take R (k := 2) (v := .bool false) (bs' := U47 3) rfl (by kernel_rfl) hQ trivial hS (fun w _ hS => ev_move F.s7.ev) F.lt fun a2 N => ?_
  replace F := F.next N
  replace f74 := N.k f74
  have f75 := N.got
  clear N a1
  refine Ord.take R (k := 3) (v := .bool false) (bs' := U47 4) rfl (by kernel_rfl) hQ trivial hS (fun w _ hS => ev_move f75.ev) F.lt fun a3 N => ?_
  replace F := F.next N
  replace f74 := N.k f74
  clear f75
  have f76 := N.got
  clear N a2
  refine Ord.take R (k := 4) (v := .bool true) (bs' := U47 5) rfl (by kernel_rfl) hQ (R.opened (j := 3) rfl f76) hS (fun w _ hS => ev_move F.s8.ev) F.lt fun a4 N => ?_
  replace F := F.next N
  replace f74 := N.k f74
  replace f76 := N.k f76
  have f77 := N.got
  clear N a3
  refine Ord.take R (k := 5) (v := .bool true) (bs' := U47 6) rfl (by kernel_rfl) hQ trivial hS (fun w _ hS => Ord.ev_pick_no f76.ev f77.ev) F.lt fun a5 N => ?_
  replace F := F.next N
  replace f74 := N.k f74
  clear f76
  clear f77
  have f78 := N.got
  clear N a4
  refine Ord.call R (k := 6) (args := #[.bool true]) (bs' := U47 7) rfl (by kernel_rfl) trivial (by simp [f78.ev]) (by kernel_rfl) (B2 _) F.lt ?_
  rintro e w ⟨rfl, rfl⟩
  replace hS := hS
  refine ⟨_, rfl, hS, fun a6 N => ?_⟩
  replace F := F.next N
  replace f74 := N.k f74
  clear f78
  have f79 := N.got
  clear N a5
  refine Ord.take R (k := 7) (v := .bool false) (bs' := U47 8) rfl (by kernel_rfl) hQ trivial hS (fun w _ hS => by have e74 := f74; unfold At at e74; have e79 := f79; unfold At at e79; clear F; go_simp) F.lt fun a7 N => ?_
  replace F := F.next N
  clear f74
  clear f79
  have f80 := N.got
  clear N a6
  refine Ord.take R (k := 8) (v := .bool false) (bs' := U47 9) rfl (by kernel_rfl) hQ trivial hS (fun w _ hS => ev_move f80.ev) F.lt fun a8 N => ?_
  replace F := F.next N
  clear f80
  have f81 := N.got
  clear N a7
  refine Ord.take R (k := 9) (v := .slice (some ⟨b, 0, none⟩) 1 1) (bs' := U47 10) rfl (by kernel_rfl) hQ (R.opened (j := 8) rfl f81) hS (fun w _ hS => ev_move F.s6.ev) F.lt fun a9 N => ?_
  replace F := F.next N
  replace f81 := N.k f81
  have f82 := N.got
  clear N a8
  refine Ord.take R (k := 10) (v := .int .i64 1) (bs' := U47 11) rfl (by kernel_rfl) hQ (R.opened (j := 8) rfl f81) hS (fun w _ hS => by have e82 := f82; unfold At at e82; clear F; go_simp) F.lt fun a10 N => ?_
  replace F := F.next N
  replace f81 := N.k f81
  clear f82
  have f83 := N.got
  clear N a9
  refine Ord.take R (k := 11) (v := .bool true) (bs' := U47 12) rfl (by kernel_rfl) hQ (R.opened (j := 8) rfl f81) hS (fun w _ hS => by have e83 := f83; unfold At at e83; clear F; go_simp) F.lt fun a11 N => ?_
  replace F := F.next N
  replace f81 := N.k f81
  clear f83
  have f84 := N.got
  clear N a10
  refine Ord.take R (k := 12) (v := .bool true) (bs' := U47 13) rfl (by kernel_rfl) hQ (R.opened (j := 8) rfl f81) hS (fun w _ hS => ev_move f84.ev) F.lt fun a12 N => ?_
  replace F := F.next N
  replace f81 := N.k f81
  clear f84
  have f85 := N.got
  clear N a11
  refine Ord.take R (k := 13) (v := .slice (some ⟨b, 0, none⟩) 1 1) (bs' := U47 14) rfl (by kernel_rfl) hQ (R.opened (j := 12) rfl f85) hS (fun w _ hS => ev_move F.s6.ev) F.lt fun a13 N => ?_
  replace F := F.next N
  replace f81 := N.k f81
  replace f85 := N.k f85
  have f86 := N.got
  clear N a12
  refine Ord.take R (k := 14) (v := .pointer (some ⟨b, 0, none⟩)) (bs' := U47 15) rfl (by kernel_rfl) hQ (R.opened (j := 12) rfl f85) hS (fun w _ hS => by have e86 := f86; unfold At at e86; clear F; go_simp) F.lt fun a14 N => ?_
  replace F := F.next N
  replace f81 := N.k f81
  replace f85 := N.k f85
  clear f86
  have f87 := N.got
  clear N a13
  refine Ord.take R (k := 15) (v := .pointer (some ⟨b, 1, none⟩)) (bs' := U47 16) rfl (by kernel_rfl) hQ (R.opened (j := 12) rfl f85) hS (fun w _ hS => by have e87 := f87; unfold At at e87; clear F; go_simp) F.lt fun a15 N => ?_
  replace F := F.next N
  replace f81 := N.k f81
  replace f85 := N.k f85
  clear f87
  have f88 := N.got
  clear N a14
  refine Ord.take R (k := 16) (v := .int .i32 r) (bs' := U47 17) rfl (by kernel_rfl) hQ (R.opened (j := 12) rfl f85) hS (fun w _ hS => by have e88 := f88; unfold At at e88; have q0 := (c1 w hS); clear F; go_simp) F.lt fun a16 N => ?_
  replace F := F.next N
  replace f81 := N.k f81
  replace f85 := N.k f85
  clear f88
  have f89 := N.got
  clear N a15
  refine Ord.take R (k := 17) (v := .slice (some ⟨bq, off, none⟩) n c) (bs' := U47 18) rfl (by kernel_rfl) hQ (R.opened (j := 12) rfl f85) hS (fun w _ hS => ev_move F.s0.ev) F.lt fun a17 N => ?_
  replace F := F.next N
  replace f81 := N.k f81
  replace f85 := N.k f85
  replace f89 := N.k f89
  have f90 := N.got
  clear N a16
  refine Ord.take R (k := 18) (v := .int .i64 (i : Int)) (bs' := U47 19) rfl (by kernel_rfl) hQ (R.opened (j := 12) rfl f85) hS (fun w _ hS => ev_move F.s5.ev) F.lt fun a18 N => ?_
  replace F := F.next N
  replace f81 := N.k f81
  replace f85 := N.k f85
  replace f89 := N.k f89
  replace f90 := N.k f90
  have f91 := N.got
  clear N a17
  refine Ord.take R (k := 19) (v := .pointer (some ⟨bq, off + i, none⟩)) (bs' := U47 20) rfl (by kernel_rfl) hQ (R.opened (j := 12) rfl f85) hS (fun w _ hS => by have e90 := f90; unfold At at e90; have e91 := f91; unfold At at e91; have q0 := hi0; have q1 := hin; clear F; go_simp) F.lt fun a19 N => ?_
  replace F := F.next N
  replace f81 := N.k f81
  replace f85 := N.k f85
  replace f89 := N.k f89
  clear f90
  clear f91
  have f92 := N.got
  clear N a18
  refine Ord.take R (k := 20) (v := .int .i32 r) (bs' := U47 21) rfl (by kernel_rfl) hQ (R.opened (j := 12) rfl f85) hS (fun w _ hS => by have e92 := f92; unfold At at e92; have q0 := (cl w hS); clear F; go_simp) F.lt fun a20 N => ?_
  replace F := F.next N
  replace f81 := N.k f81
  replace f85 := N.k f85
  replace f89 := N.k f89
  clear f92
  have f93 := N.got
  clear N a19
  refine Ord.take R (k := 21) (v := .bool false) (bs' := U47 22) rfl (by kernel_rfl) hQ (R.opened (j := 12) rfl f85) hS (fun w _ hS => by have e89 := f89; unfold At at e89; have e93 := f93; unfold At at e93; clear F; go_simp) F.lt fun a21 N => ?_
  replace F := F.next N
  replace f81 := N.k f81
  replace f85 := N.k f85
  clear f89
  clear f93
  have f94 := N.got
  clear N a20
  refine Ord.take R (k := 22) (v := .bool false) (bs' := U47 23) rfl (by kernel_rfl) hQ (R.opened (j := 12) rfl f85) hS (fun w _ hS => ev_move f94.ev) F.lt fun a22 N => ?_
  replace F := F.next N
  replace f81 := N.k f81
  replace f85 := N.k f85
  clear f94
  have f95 := N.got
  clear N a21
  refine Ord.take R (k := 23) (v := .slice (some ⟨b, 0, none⟩) 1 1) (bs' := U47 24) rfl (by kernel_rfl) hQ (R.opened (j := 22) rfl f95) hS (fun w _ hS => ev_move F.s6.ev) F.lt fun a23 N => ?_
  replace F := F.next N
  replace f81 := N.k f81
  replace f85 := N.k f85
  replace f95 := N.k f95
  have f96 := N.got
  clear N a22
  refine Ord.take R (k := 24) (v := .pointer (some ⟨b, 0, none⟩)) (bs' := U47 25) rfl (by kernel_rfl) hQ (R.opened (j := 22) rfl f95) hS (fun w _ hS => by have e96 := f96; unfold At at e96; clear F; go_simp) F.lt fun a24 N => ?_
  replace F := F.next N
  replace f81 := N.k f81
  replace f85 := N.k f85
  replace f95 := N.k f95
  clear f96
  have f97 := N.got
  clear N a23
  refine Ord.take R (k := 25) (v := .pointer (some ⟨b, 0, none⟩)) (bs' := U47 26) rfl (by kernel_rfl) hQ (R.opened (j := 22) rfl f95) hS (fun w _ hS => by have e97 := f97; unfold At at e97; clear F; go_simp) F.lt fun a25 N => ?_
  replace F := F.next N
  replace f81 := N.k f81
  replace f85 := N.k f85
  replace f95 := N.k f95
  clear f97
  have f98 := N.got
  clear N a24
  refine Ord.take R (k := 26) (v := .int .i64 1) (bs' := U47 27) rfl (by kernel_rfl) hQ (R.opened (j := 22) rfl f95) hS (fun w _ hS => by have e98 := f98; unfold At at e98; have q0 := (c0 w hS); clear F; go_simp) F.lt fun a26 N => ?_
  replace F := F.next N
  replace f81 := N.k f81
  replace f85 := N.k f85
  replace f95 := N.k f95
  clear f98
  have f99 := N.got
  clear N a25
  refine Ord.take R (k := 27) (v := .bool false) (bs' := U47 28) rfl (by kernel_rfl) hQ (R.opened (j := 22) rfl f95) hS (fun w _ hS => by have e99 := f99; unfold At at e99; clear F; go_simp) F.lt fun a27 N => ?_
  replace F := F.next N
  replace f81 := N.k f81
  replace f85 := N.k f85
  replace f95 := N.k f95
  clear f99
  have f100 := N.got
  clear N a26
  refine Ord.take R (k := 28) (v := .bool false) (bs' := U47 29) rfl (by kernel_rfl) hQ (R.opened (j := 22) rfl f95) hS (fun w _ hS => ev_move F.s7.ev) F.lt fun a28 N => ?_
  replace F := F.next N
  replace f81 := N.k f81
  replace f85 := N.k f85
  replace f95 := N.k f95
  replace f100 := N.k f100
  have f101 := N.got
  clear N a27
  refine Ord.take R (k := 29) (v := .bool false) (bs' := U47 30) rfl (by kernel_rfl) hQ (R.opened (j := 22) rfl f95) hS (fun w _ hS => by have e100 := f100; unfold At at e100; have e101 := f101; unfold At at e101; clear F; go_simp) F.lt fun a29 N => ?_
  replace F := F.next N
  replace f81 := N.k f81
  replace f85 := N.k f85
  replace f95 := N.k f95
  clear f100
  clear f101
  have f102 := N.got
  clear N a28
  refine Ord.take R (k := 30) (v := .bool false) (bs' := U47 31) rfl (by kernel_rfl) hQ (R.opened (j := 12) rfl f85) hS (fun w _ hS => Ord.ev_pick_no f95.ev f102.ev) F.lt fun a30 N => ?_
  replace F := F.next N
  replace f81 := N.k f81
  replace f85 := N.k f85
  clear f95
  clear f102
  have f103 := N.got
  clear N a29
  refine Ord.take R (k := 31) (v := .bool false) (bs' := U47 32) rfl (by kernel_rfl) hQ (R.opened (j := 12) rfl f85) hS (fun w _ hS => ev_move f103.ev) F.lt fun a31 N => ?_
  replace F := F.next N
  replace f81 := N.k f81
  replace f85 := N.k f85
  clear f103
  have f104 := N.got
  clear N a30
  refine Ord.take R (k := 32) (v := .slice (some ⟨b, 0, none⟩) 1 1) (bs' := U47 33) rfl (by kernel_rfl) hQ (R.opened (j := 31) rfl f104) hS (fun w _ hS => ev_move F.s6.ev) F.lt fun a32 N => ?_
  replace F := F.next N
  replace f81 := N.k f81
  replace f85 := N.k f85
  replace f104 := N.k f104
  have f105 := N.got
  clear N a31
  refine Ord.take R (k := 33) (v := .pointer (some ⟨b, 0, none⟩)) (bs' := U47 34) rfl (by kernel_rfl) hQ (R.opened (j := 31) rfl f104) hS (fun w _ hS => by have e105 := f105; unfold At at e105; clear F; go_simp) F.lt fun a33 N => ?_
  replace F := F.next N
  replace f81 := N.k f81
  replace f85 := N.k f85
  replace f104 := N.k f104
  clear f105
  have f106 := N.got
  clear N a32
  refine Ord.take R (k := 34) (v := .pointer (some ⟨b, 0, none⟩)) (bs' := U47 35) rfl (by kernel_rfl) hQ (R.opened (j := 31) rfl f104) hS (fun w _ hS => by have e106 := f106; unfold At at e106; clear F; go_simp) F.lt fun a34 N => ?_
  replace F := F.next N
  replace f81 := N.k f81
  replace f85 := N.k f85
  replace f104 := N.k f104
  clear f106
  have f107 := N.got
  clear N a33
  refine Ord.take R (k := 35) (v := .int .i64 1) (bs' := U47 36) rfl (by kernel_rfl) hQ (R.opened (j := 31) rfl f104) hS (fun w _ hS => by have e107 := f107; unfold At at e107; have q0 := (c0 w hS); clear F; go_simp) F.lt fun a35 N => ?_
  replace F := F.next N
  replace f81 := N.k f81
  replace f85 := N.k f85
  replace f104 := N.k f104
  clear f107
  have f108 := N.got
  clear N a34
  refine Ord.take R (k := 36) (v := .bool true) (bs' := U47 37) rfl (by kernel_rfl) hQ (R.opened (j := 31) rfl f104) hS (fun w _ hS => by have e108 := f108; unfold At at e108; clear F; go_simp) F.lt fun a36 N => ?_
  replace F := F.next N
  replace f81 := N.k f81
  replace f85 := N.k f85
  replace f104 := N.k f104
  clear f108
  have f109 := N.got
  clear N a35
  refine Ord.take R (k := 37) (v := .bool true) (bs' := U47 38) rfl (by kernel_rfl) hQ (R.opened (j := 31) rfl f104) hS (fun w _ hS => ev_move F.s8.ev) F.lt fun a37 N => ?_
  replace F := F.next N
  replace f81 := N.k f81
  replace f85 := N.k f85
  replace f104 := N.k f104
  replace f109 := N.k f109
  have f110 := N.got
  clear N a36
  refine Ord.take R (k := 38) (v := .bool false) (bs' := U47 39) rfl (by kernel_rfl) hQ (R.opened (j := 31) rfl f104) hS (fun w _ hS => by have e109 := f109; unfold At at e109; have e110 := f110; unfold At at e110; clear F; go_simp) F.lt fun a38 N => ?_
  replace F := F.next N
  replace f81 := N.k f81
  replace f85 := N.k f85
  replace f104 := N.k f104
  clear f109
  clear f110
  have f111 := N.got
  clear N a37
  refine Ord.take R (k := 39) (v := .bool false) (bs' := U47 40) rfl (by kernel_rfl) hQ (R.opened (j := 12) rfl f85) hS (fun w _ hS => Ord.ev_pick_no f104.ev f111.ev) F.lt fun a39 N => ?_
  replace F := F.next N
  replace f81 := N.k f81
  replace f85 := N.k f85
  clear f104
  clear f111
  have f112 := N.got
  clear N a38
  refine Ord.take R (k := 40) (v := .bool false) (bs' := U47 41) rfl (by kernel_rfl) hQ (R.opened (j := 8) rfl f81) hS (fun w _ hS => Ord.ev_pick_yes f85.ev f112.ev) F.lt fun a40 N => ?_
  replace F := F.next N
  replace f81 := N.k f81
  clear f85
  clear f112
  have f113 := N.got
  clear N a39
  refine Ord.take R (k := 41) (v := .bool false) (bs' := U47 42) rfl (by kernel_rfl) hQ trivial hS (fun w _ hS => Ord.ev_pick_no f81.ev f113.ev) F.lt fun a41 N => ?_
  replace F := F.next N
  clear f81
  clear f113
  have f114 := N.got
  clear N a40
  refine Ord.take R (k := 42) (v := .bool false) (bs' := U47 43) rfl (by kernel_rfl) hQ trivial hS (fun w _ hS => ev_move f114.ev) F.lt fun a42 N => ?_
  replace F := F.next N
  clear f114
  have f115 := N.got
  clear N a41
  refine Ord.take R (k := 43) (v := .pointer (some ⟨g, 0, none⟩)) (bs' := U47 44) rfl (by kernel_rfl) hQ (R.opened (j := 42) rfl f115) hS (fun w _ hS => ev_move F.s4.ev) F.lt fun a43 N => ?_
  replace F := F.next N
  replace f115 := N.k f115
  have f116 := N.got
  clear N a42
  refine Ord.call R (k := 44) (args := #[.pointer (some ⟨g, 0, none⟩)]) (bs' := U47 45) rfl (by kernel_rfl) (R.opened (j := 42) rfl f115) (by simp [f116.ev]) (by kernel_rfl) (QW _ hS) F.lt ?_
  rintro e w ⟨rfl, rfl⟩
  replace hS := hS
  refine ⟨_, rfl, hS, fun a44 N => ?_⟩
  replace F := F.next N
  replace f115 := N.k f115
  clear f116
  have f117 := N.got
  clear N a43
  refine Ord.take R (k := 45) (v := .bool false) (bs' := U47 46) rfl (by kernel_rfl) hQ (R.opened (j := 42) rfl f115) hS (fun w _ hS => by have e117 := f117; unfold At at e117; clear F; go_simp) F.lt fun a45 N => ?_
  replace F := F.next N
  replace f115 := N.k f115
  clear f117
  have f118 := N.got
  clear N a44
  refine Ord.take R (k := 46) (v := .bool false) (bs' := U47 47) rfl (by kernel_rfl) hQ trivial hS (fun w _ hS => Ord.ev_pick_no f115.ev f118.ev) F.lt fun a46 N => ?_
  replace F := F.next N
  clear f115
  clear f118
  have f119 := N.got
  clear N a45
  subst hS
  exact Ord.finish R (by kernel_rfl) (h _ F f119)

set_option maxRecDepth 100000 in
/-- The frame written out, its known slots in their places. -/
theorem plain_frame {a : Act} {w : World} {K : Act → World → Prop} {v0 v1 v2 v3 v4 v5 v6 v7 v8 v9 v10 v11 v12 v13 v119 : Value} (hz : a.tmps.size = 120) (hd : a.defers = []) (f0 : At a 0 v0) (f1 : At a 1 v1) (f2 : At a 2 v2) (f3 : At a 3 v3) (f4 : At a 4 v4) (f5 : At a 5 v5) (f6 : At a 6 v6) (f7 : At a 7 v7) (f8 : At a 8 v8) (f9 : At a 9 v9) (f10 : At a 10 v10) (f11 : At a 11 v11) (f12 : At a 12 v12) (f13 : At a 13 v13) (f119 : At a 119 v119)
    (h : ∀ u14 u15 u16 u17 u18 u19 u20 u21 u22 u23 u24 u25 u26 u27 u28 u29 u30 u31 u32 u33 u34 u35 u36 u37 u38 u39 u40 u41 u42 u43 u44 u45 u46 u47 u48 u49 u50 u51 u52 u53 u54 u55 u56 u57 u58 u59 u60 u61 u62 u63 u64 u65 u66 u67 u68 u69 u70 u71 u72 u73 u74 u75 u76 u77 u78 u79 u80 u81 u82 u83 u84 u85 u86 u87 u88 u89 u90 u91 u92 u93 u94 u95 u96 u97 u98 u99 u100 u101 u102 u103 u104 u105 u106 u107 u108 u109 u110 u111 u112 u113 u114 u115 u116 u117 u118 : Value, K ⟨#[v0, v1, v2, v3, v4, v5, v6, v7, v8, v9, v10, v11, v12, v13, u14, u15, u16, u17, u18, u19, u20, u21, u22, u23, u24, u25, u26, u27, u28, u29, u30, u31, u32, u33, u34, u35, u36, u37, u38, u39, u40, u41, u42, u43, u44, u45, u46, u47, u48, u49, u50, u51, u52, u53, u54, u55, u56, u57, u58, u59, u60, u61, u62, u63, u64, u65, u66, u67, u68, u69, u70, u71, u72, u73, u74, u75, u76, u77, u78, u79, u80, u81, u82, u83, u84, u85, u86, u87, u88, u89, u90, u91, u92, u93, u94, u95, u96, u97, u98, u99, u100, u101, u102, u103, u104, u105, u106, u107, u108, u109, u110, u111, u112, u113, u114, u115, u116, u117, u118, v119], []⟩ w) : K a w := by
  have e := Ord.frame_out hz hd
  have r : (List.range 120).map (fun i => a.tmps.toList.getD i undef) = [a.tmps.toList.getD 0 undef, a.tmps.toList.getD 1 undef, a.tmps.toList.getD 2 undef, a.tmps.toList.getD 3 undef, a.tmps.toList.getD 4 undef, a.tmps.toList.getD 5 undef, a.tmps.toList.getD 6 undef, a.tmps.toList.getD 7 undef, a.tmps.toList.getD 8 undef, a.tmps.toList.getD 9 undef, a.tmps.toList.getD 10 undef, a.tmps.toList.getD 11 undef, a.tmps.toList.getD 12 undef, a.tmps.toList.getD 13 undef, a.tmps.toList.getD 14 undef, a.tmps.toList.getD 15 undef, a.tmps.toList.getD 16 undef, a.tmps.toList.getD 17 undef, a.tmps.toList.getD 18 undef, a.tmps.toList.getD 19 undef, a.tmps.toList.getD 20 undef, a.tmps.toList.getD 21 undef, a.tmps.toList.getD 22 undef, a.tmps.toList.getD 23 undef, a.tmps.toList.getD 24 undef, a.tmps.toList.getD 25 undef, a.tmps.toList.getD 26 undef, a.tmps.toList.getD 27 undef, a.tmps.toList.getD 28 undef, a.tmps.toList.getD 29 undef, a.tmps.toList.getD 30 undef, a.tmps.toList.getD 31 undef, a.tmps.toList.getD 32 undef, a.tmps.toList.getD 33 undef, a.tmps.toList.getD 34 undef, a.tmps.toList.getD 35 undef, a.tmps.toList.getD 36 undef, a.tmps.toList.getD 37 undef, a.tmps.toList.getD 38 undef, a.tmps.toList.getD 39 undef, a.tmps.toList.getD 40 undef, a.tmps.toList.getD 41 undef, a.tmps.toList.getD 42 undef, a.tmps.toList.getD 43 undef, a.tmps.toList.getD 44 undef, a.tmps.toList.getD 45 undef, a.tmps.toList.getD 46 undef, a.tmps.toList.getD 47 undef, a.tmps.toList.getD 48 undef, a.tmps.toList.getD 49 undef, a.tmps.toList.getD 50 undef, a.tmps.toList.getD 51 undef, a.tmps.toList.getD 52 undef, a.tmps.toList.getD 53 undef, a.tmps.toList.getD 54 undef, a.tmps.toList.getD 55 undef, a.tmps.toList.getD 56 undef, a.tmps.toList.getD 57 undef, a.tmps.toList.getD 58 undef, a.tmps.toList.getD 59 undef, a.tmps.toList.getD 60 undef, a.tmps.toList.getD 61 undef, a.tmps.toList.getD 62 undef, a.tmps.toList.getD 63 undef, a.tmps.toList.getD 64 undef, a.tmps.toList.getD 65 undef, a.tmps.toList.getD 66 undef, a.tmps.toList.getD 67 undef, a.tmps.toList.getD 68 undef, a.tmps.toList.getD 69 undef, a.tmps.toList.getD 70 undef, a.tmps.toList.getD 71 undef, a.tmps.toList.getD 72 undef, a.tmps.toList.getD 73 undef, a.tmps.toList.getD 74 undef, a.tmps.toList.getD 75 undef, a.tmps.toList.getD 76 undef, a.tmps.toList.getD 77 undef, a.tmps.toList.getD 78 undef, a.tmps.toList.getD 79 undef, a.tmps.toList.getD 80 undef, a.tmps.toList.getD 81 undef, a.tmps.toList.getD 82 undef, a.tmps.toList.getD 83 undef, a.tmps.toList.getD 84 undef, a.tmps.toList.getD 85 undef, a.tmps.toList.getD 86 undef, a.tmps.toList.getD 87 undef, a.tmps.toList.getD 88 undef, a.tmps.toList.getD 89 undef, a.tmps.toList.getD 90 undef, a.tmps.toList.getD 91 undef, a.tmps.toList.getD 92 undef, a.tmps.toList.getD 93 undef, a.tmps.toList.getD 94 undef, a.tmps.toList.getD 95 undef, a.tmps.toList.getD 96 undef, a.tmps.toList.getD 97 undef, a.tmps.toList.getD 98 undef, a.tmps.toList.getD 99 undef, a.tmps.toList.getD 100 undef, a.tmps.toList.getD 101 undef, a.tmps.toList.getD 102 undef, a.tmps.toList.getD 103 undef, a.tmps.toList.getD 104 undef, a.tmps.toList.getD 105 undef, a.tmps.toList.getD 106 undef, a.tmps.toList.getD 107 undef, a.tmps.toList.getD 108 undef, a.tmps.toList.getD 109 undef, a.tmps.toList.getD 110 undef, a.tmps.toList.getD 111 undef, a.tmps.toList.getD 112 undef, a.tmps.toList.getD 113 undef, a.tmps.toList.getD 114 undef, a.tmps.toList.getD 115 undef, a.tmps.toList.getD 116 undef, a.tmps.toList.getD 117 undef, a.tmps.toList.getD 118 undef, a.tmps.toList.getD 119 undef] := rfl
  rw [r, Ord.at_get f0, Ord.at_get f1, Ord.at_get f2, Ord.at_get f3, Ord.at_get f4, Ord.at_get f5, Ord.at_get f6, Ord.at_get f7, Ord.at_get f8, Ord.at_get f9, Ord.at_get f10, Ord.at_get f11, Ord.at_get f12, Ord.at_get f13, Ord.at_get f119] at e
  rw [e]
  exact h _ _ _ _ _ _ _ _ _ _ _ _ _ _ _ _ _ _ _ _ _ _ _ _ _ _ _ _ _ _ _ _ _ _ _ _ _ _ _ _ _ _ _ _ _ _ _ _ _ _ _ _ _ _ _ _ _ _ _ _ _ _ _ _ _ _ _ _ _ _ _ _ _ _ _ _ _ _ _ _ _ _ _ _ _ _ _ _ _ _ _ _ _ _ _ _ _ _ _ _ _ _ _ _ _

end Esc
end Go.Proofs.YtibihjcpkdfgeaaGreatDoor
