/-
  EscOsc: what is asked of the event, step by step.
-/
import Derived.Test.YtaclmhopcfgbmaaGreatDoorQBase4
import Derived.Test.YtaclmhopcfgbmaaGreatDoorQEsc1
namespace Go.Proofs.YtaclmhopcfgbmaaGreatDoor
open Go.ChangeShapes Go.WideShapes Go.ChangeAt Go.RowKit
namespace Esc
abbrev U28OscR (k : Nat) := Ord.upto k 28
def oscL : List Ord.Line := [
 (some 66, Go.Op.move (Go.Operand.tmp 10), none, []),
 (some 67, Go.Op.call { callee := Go.Callee.builtin Go.Builtin.len, args := #[Go.Operand.tmp 66], argTypes := #[30] }, none, [0]),
 (some 68, Go.Op.binOp Go.BinOp.eql 3 (Go.Operand.tmp 67) (Go.Operand.const (Go.Value.int Go.IntKind.i64 1)) 3, none, [1]),
 (some 69, Go.Op.move (Go.Operand.tmp 68), none, [2]),
 (some 70, Go.Op.move (Go.Operand.tmp 10), some (3, true), [3]),
 (some 71, Go.Op.indexAddr 30 (Go.Operand.tmp 70) (Go.Operand.const (Go.Value.int Go.IntKind.i64 0)), some (3, true), [4, 3]),
 (some 72, Go.Op.fieldAddr 35 (Go.Operand.tmp 71) 0, some (3, true), [5, 3]),
 (some 73, Go.Op.load 3 (Go.Operand.tmp 72), some (3, true), [6, 3]),
 (some 74, Go.Op.binOp Go.BinOp.eql 3 (Go.Operand.tmp 73) (Go.Operand.const (Go.Value.int Go.IntKind.i64 4)) 3, some (3, true), [7, 3]),
 (some 75, Go.Op.pick (Go.Operand.tmp 69) (Go.Operand.tmp 74) (Go.Operand.const (Go.Value.bool false)), none, [3, 8]),
 (some 76, Go.Op.move (Go.Operand.tmp 75), none, [9, 3]),
 (some 77, Go.Op.move (Go.Operand.tmp 10), some (10, true), [10]),
 (some 78, Go.Op.indexAddr 30 (Go.Operand.tmp 77) (Go.Operand.const (Go.Value.int Go.IntKind.i64 0)), some (10, true), [11, 10]),
 (some 79, Go.Op.fieldAddr 35 (Go.Operand.tmp 78) 3, some (10, true), [12, 10]),
 (some 80, Go.Op.load 9 (Go.Operand.tmp 79), some (10, true), [13, 10]),
 (some 81, Go.Op.call { callee := Go.Callee.builtin Go.Builtin.len, args := #[Go.Operand.tmp 80], argTypes := #[9] }, some (10, true), [14, 10]),
 (some 82, Go.Op.move (Go.Operand.tmp 0), some (10, true), [10]),
 (some 83, Go.Op.move (Go.Operand.tmp 2), some (10, true), [10]),
 (some 84, Go.Op.call { callee := Go.Callee.value (Go.Operand.func 18), args := #[Go.Operand.tmp 83], argTypes := #[21] }, some (10, true), [17, 10, 10]),
 (some 85, Go.Op.call { callee := Go.Callee.builtin Go.Builtin.len, args := #[Go.Operand.tmp 84], argTypes := #[9] }, some (10, true), [18, 10]),
 (some 86, Go.Op.binOp Go.BinOp.mul 3 (Go.Operand.tmp 82) (Go.Operand.tmp 85) 3, some (10, true), [16, 19, 10]),
 (some 87, Go.Op.binOp Go.BinOp.eql 3 (Go.Operand.tmp 81) (Go.Operand.tmp 86) 3, some (10, true), [15, 20, 10]),
 (some 88, Go.Op.pick (Go.Operand.tmp 76) (Go.Operand.tmp 87) (Go.Operand.const (Go.Value.bool false)), none, [10, 21]),
 (some 89, Go.Op.move (Go.Operand.tmp 88), none, [22, 18]),
 (some 90, Go.Op.move (Go.Operand.tmp 8), some (23, true), [23]),
 (some 91, Go.Op.call { callee := Go.Callee.value (Go.Operand.func 19), args := #[Go.Operand.tmp 90], argTypes := #[24] }, some (23, true), [24, 23, 23]),
 (some 92, Go.Op.pick (Go.Operand.tmp 89) (Go.Operand.tmp 91) (Go.Operand.const (Go.Value.bool false)), none, [23, 25]),
 (some 6, Go.Op.assign (Go.Operand.tmp 92), none, [26, 25, 0, 1, 2, 3, 4, 5, 6, 7, 8, 9, 10, 11, 12, 13, 14, 15, 16, 17, 18, 19, 20, 21, 22, 23, 24, 25, 26])]
structure OscFr (n : Nat) (c : Int) (g b lc : Nat) (a : Act) : Prop where
 size : a.tmps.size = 93
 defers : a.defers = []
 s0 : Chain.At a 0 (.int .i64 (n : Int))
 s2 : Chain.At a 2 (.int .i32 c)
 s8 : Chain.At a 8 (.pointer (some ⟨g, 0, none⟩))
 s10 : Chain.At a 10 (.slice (some ⟨b, 0, none⟩) 1 lc)
theorem OscFr.next {n : Nat} {c : Int} {g b lc : Nat} {a a' : Act} {d : Nat} {v : Value} (F : OscFr n c g b lc a) (nx : Chain.Next a a' d v) (h : d ≠ 0 ∧ d ≠ 2 ∧ d ≠ 8 ∧ d ≠ 10 := by decide) : OscFr n c g b lc a' := ⟨nx.size.trans F.size, nx.defers.trans F.defers, nx.k F.s0 (by omega), nx.k F.s2 (by omega), nx.k F.s8 (by omega), nx.k F.s10 (by omega)⟩
theorem OscFr.lt {n : Nat} {c : Int} {g b lc : Nat} {a : Act} {d : Nat} (F : OscFr n c g b lc a) (h : d < 93 := by decide) : d < a.tmps.size := by rw [F.size]; exact h
set_option maxRecDepth 100000 in
theorem osc_region {ops : Array Oper} {Q : Exit → Act → World → Prop} (R : Ord.Reg ops oscL) (hQ : ∀ c a w d v, Q (.panic c) (Act.put a (some d) v) w → Q (.panic c) a w) {w1 : World} {n : Nat} {c : Int} {g b lc : Nat} {s ps : ByteArray}
  (c0 : ∀ w : World, Below w1.heap.size w1 w → w.cell? ⟨b, 0, none⟩ = some (.int .i64 4)) (c3 : ∀ w : World, Below w1.heap.size w1 w → w.cell? ⟨b, 3, none⟩ = some (.string s)) (hmul : IntKind.i64.wrap ((n : Int) * (ps.size : Int)) = (s.size : Int))
  (PT : ∀ w : World, Calls Tryz.prog 18 #[.int .i32 c] w fun e w' => e = .returned (.string ps) ∧ Below w.heap.size w w') (QW : ∀ w : World, Below w1.heap.size w1 w → Calls Tryz.prog 19 #[.pointer (some ⟨g, 0, none⟩)] w fun e w' => e = .returned (.bool true) ∧ w = w')
  (a : Act) (F : OscFr n c g b lc a) (h : ∀ a w, OscFr n c g b lc a → Chain.At a 6 (.bool true) → Below w1.heap.size w1 w → Q .normal a w) (w : World) (hS : Below w1.heap.size w1 w) :
  wpAnyH Tryz.prog .any ops Q (fun w => Below w1.heap.size w1 w) 28 (List.replicate 28 false).toArray a w := by
 refine Ord.take R (k := 0) (v := .slice (some ⟨b, 0, none⟩) 1 lc) (bs' := U28OscR 1) rfl (by kernel_rfl) hQ trivial hS (fun w _ hS => Chain.ev_move F.s10.ev) F.lt fun a0 N => ?_
 replace F := F.next N
 have f66 := N.got
 clear N a
 refine Ord.take R (k := 1) (v := .int .i64 1) (bs' := U28OscR 2) rfl (by kernel_rfl) hQ trivial hS (fun w _ hS => by have e66 := f66; unfold Chain.At at e66; clear F; go_simp) F.lt fun a1 N => ?_
 replace F := F.next N
 clear f66
 have f67 := N.got
 clear N a0
 refine Ord.take R (k := 2) (v := .bool true) (bs' := U28OscR 3) rfl (by kernel_rfl) hQ trivial hS (fun w _ hS => by have e67 := f67; unfold Chain.At at e67; clear F; go_simp) F.lt fun a2 N => ?_
 replace F := F.next N
 clear f67
 have f68 := N.got
 clear N a1
 refine Ord.take R (k := 3) (v := .bool true) (bs' := U28OscR 4) rfl (by kernel_rfl) hQ trivial hS (fun w _ hS => Chain.ev_move f68.ev) F.lt fun a3 N => ?_
 replace F := F.next N
 clear f68
 have f69 := N.got
 clear N a2
 refine Ord.take R (k := 4) (v := .slice (some ⟨b, 0, none⟩) 1 lc) (bs' := U28OscR 5) rfl (by kernel_rfl) hQ (R.opened (j := 3) rfl f69) hS (fun w _ hS => Chain.ev_move F.s10.ev) F.lt fun a4 N => ?_
 replace F := F.next N
 replace f69 := N.k f69
 have f70 := N.got
 clear N a3
 refine Ord.take R (k := 5) (v := .pointer (some ⟨b, 0, none⟩)) (bs' := U28OscR 6) rfl (by kernel_rfl) hQ (R.opened (j := 3) rfl f69) hS (fun w _ hS => by have e70 := f70; unfold Chain.At at e70; clear F; go_simp) F.lt fun a5 N => ?_
 replace F := F.next N
 replace f69 := N.k f69
 clear f70
 have f71 := N.got
 clear N a4
 refine Ord.take R (k := 6) (v := .pointer (some ⟨b, 0, none⟩)) (bs' := U28OscR 7) rfl (by kernel_rfl) hQ (R.opened (j := 3) rfl f69) hS (fun w _ hS => by have e71 := f71; unfold Chain.At at e71; clear F; go_simp) F.lt fun a6 N => ?_
 replace F := F.next N
 replace f69 := N.k f69
 clear f71
 have f72 := N.got
 clear N a5
 refine Ord.take R (k := 7) (v := .int .i64 4) (bs' := U28OscR 8) rfl (by kernel_rfl) hQ (R.opened (j := 3) rfl f69) hS (fun w _ hS => by have e72 := f72; unfold Chain.At at e72; have q0 := (c0 w hS); clear F; go_simp) F.lt fun a7 N => ?_
 replace F := F.next N
 replace f69 := N.k f69
 clear f72
 have f73 := N.got
 clear N a6
 refine Ord.take R (k := 8) (v := .bool true) (bs' := U28OscR 9) rfl (by kernel_rfl) hQ (R.opened (j := 3) rfl f69) hS (fun w _ hS => by have e73 := f73; unfold Chain.At at e73; clear F; go_simp) F.lt fun a8 N => ?_
 replace F := F.next N
 replace f69 := N.k f69
 clear f73
 have f74 := N.got
 clear N a7
 refine Ord.take R (k := 9) (v := .bool true) (bs' := U28OscR 10) rfl (by kernel_rfl) hQ trivial hS (fun w _ hS => Ord.ev_pick_yes f69.ev f74.ev) F.lt fun a9 N => ?_
 replace F := F.next N
 clear f69
 clear f74
 have f75 := N.got
 clear N a8
 refine Ord.take R (k := 10) (v := .bool true) (bs' := U28OscR 11) rfl (by kernel_rfl) hQ trivial hS (fun w _ hS => Chain.ev_move f75.ev) F.lt fun a10 N => ?_
 replace F := F.next N
 clear f75
 have f76 := N.got
 clear N a9
 refine Ord.take R (k := 11) (v := .slice (some ⟨b, 0, none⟩) 1 lc) (bs' := U28OscR 12) rfl (by kernel_rfl) hQ (R.opened (j := 10) rfl f76) hS (fun w _ hS => Chain.ev_move F.s10.ev) F.lt fun a11 N => ?_
 replace F := F.next N
 replace f76 := N.k f76
 have f77 := N.got
 clear N a10
 refine Ord.take R (k := 12) (v := .pointer (some ⟨b, 0, none⟩)) (bs' := U28OscR 13) rfl (by kernel_rfl) hQ (R.opened (j := 10) rfl f76) hS (fun w _ hS => by have e77 := f77; unfold Chain.At at e77; clear F; go_simp) F.lt fun a12 N => ?_
 replace F := F.next N
 replace f76 := N.k f76
 clear f77
 have f78 := N.got
 clear N a11
 refine Ord.take R (k := 13) (v := .pointer (some ⟨b, 3, none⟩)) (bs' := U28OscR 14) rfl (by kernel_rfl) hQ (R.opened (j := 10) rfl f76) hS (fun w _ hS => by have e78 := f78; unfold Chain.At at e78; clear F; go_simp) F.lt fun a13 N => ?_
 replace F := F.next N
 replace f76 := N.k f76
 clear f78
 have f79 := N.got
 clear N a12
 refine Ord.take R (k := 14) (v := .string s) (bs' := U28OscR 15) rfl (by kernel_rfl) hQ (R.opened (j := 10) rfl f76) hS (fun w _ hS => by have e79 := f79; unfold Chain.At at e79; have q0 := (c3 w hS); clear F; go_simp) F.lt fun a14 N => ?_
 replace F := F.next N
 replace f76 := N.k f76
 clear f79
 have f80 := N.got
 clear N a13
 refine Ord.take R (k := 15) (v := .int .i64 (s.size : Int)) (bs' := U28OscR 16) rfl (by kernel_rfl) hQ (R.opened (j := 10) rfl f76) hS (fun w _ hS => by have e80 := f80; unfold Chain.At at e80; clear F; go_simp) F.lt fun a15 N => ?_
 replace F := F.next N
 replace f76 := N.k f76
 clear f80
 have f81 := N.got
 clear N a14
 refine Ord.take R (k := 16) (v := .int .i64 (n : Int)) (bs' := U28OscR 17) rfl (by kernel_rfl) hQ (R.opened (j := 10) rfl f76) hS (fun w _ hS => Chain.ev_move F.s0.ev) F.lt fun a16 N => ?_
 replace F := F.next N
 replace f76 := N.k f76
 replace f81 := N.k f81
 have f82 := N.got
 clear N a15
 refine Ord.take R (k := 17) (v := .int .i32 c) (bs' := U28OscR 18) rfl (by kernel_rfl) hQ (R.opened (j := 10) rfl f76) hS (fun w _ hS => Chain.ev_move F.s2.ev) F.lt fun a17 N => ?_
 replace F := F.next N
 replace f76 := N.k f76
 replace f81 := N.k f81
 replace f82 := N.k f82
 have f83 := N.got
 clear N a16
 refine Ord.call R (k := 18) (args := #[.int .i32 c]) (bs' := U28OscR 19) rfl (by kernel_rfl) (R.opened (j := 10) rfl f76) (by simp [f83.ev]) (by kernel_rfl) (PT _) F.lt ?_
 rintro e w ⟨rfl, hb⟩
 replace hS := hS.trans (hb.mono hS.size)
 refine ⟨_, rfl, hS, fun a18 N => ?_⟩
 replace F := F.next N
 replace f76 := N.k f76
 replace f81 := N.k f81
 replace f82 := N.k f82
 clear f83
 have f84 := N.got
 clear N a17
 refine Ord.take R (k := 19) (v := .int .i64 (ps.size : Int)) (bs' := U28OscR 20) rfl (by kernel_rfl) hQ (R.opened (j := 10) rfl f76) hS (fun w _ hS => by have e84 := f84; unfold Chain.At at e84; clear F; go_simp) F.lt fun a19 N => ?_
 replace F := F.next N
 replace f76 := N.k f76
 replace f81 := N.k f81
 replace f82 := N.k f82
 clear f84
 have f85 := N.got
 clear N a18
 refine Ord.take R (k := 20) (v := .int .i64 (s.size : Int)) (bs' := U28OscR 21) rfl (by kernel_rfl) hQ (R.opened (j := 10) rfl f76) hS (fun w _ hS => by have e82 := f82; unfold Chain.At at e82; have e85 := f85; unfold Chain.At at e85; have q0 := hmul; clear F; go_simp) F.lt fun a20 N => ?_
 replace F := F.next N
 replace f76 := N.k f76
 replace f81 := N.k f81
 clear f82
 clear f85
 have f86 := N.got
 clear N a19
 refine Ord.take R (k := 21) (v := .bool true) (bs' := U28OscR 22) rfl (by kernel_rfl) hQ (R.opened (j := 10) rfl f76) hS (fun w _ hS => by have e81 := f81; unfold Chain.At at e81; have e86 := f86; unfold Chain.At at e86; clear F; go_simp) F.lt fun a21 N => ?_
 replace F := F.next N
 replace f76 := N.k f76
 clear f81
 clear f86
 have f87 := N.got
 clear N a20
 refine Ord.take R (k := 22) (v := .bool true) (bs' := U28OscR 23) rfl (by kernel_rfl) hQ trivial hS (fun w _ hS => Ord.ev_pick_yes f76.ev f87.ev) F.lt fun a22 N => ?_
 replace F := F.next N
 clear f76
 clear f87
 have f88 := N.got
 clear N a21
 refine Ord.take R (k := 23) (v := .bool true) (bs' := U28OscR 24) rfl (by kernel_rfl) hQ trivial hS (fun w _ hS => Chain.ev_move f88.ev) F.lt fun a23 N => ?_
 replace F := F.next N
 clear f88
 have f89 := N.got
 clear N a22
 refine Ord.take R (k := 24) (v := .pointer (some ⟨g, 0, none⟩)) (bs' := U28OscR 25) rfl (by kernel_rfl) hQ (R.opened (j := 23) rfl f89) hS (fun w _ hS => Chain.ev_move F.s8.ev) F.lt fun a24 N => ?_
 replace F := F.next N
 replace f89 := N.k f89
 have f90 := N.got
 clear N a23
 refine Ord.call R (k := 25) (args := #[.pointer (some ⟨g, 0, none⟩)]) (bs' := U28OscR 26) rfl (by kernel_rfl) (R.opened (j := 23) rfl f89) (by simp [f90.ev]) (by kernel_rfl) (QW _ hS) F.lt ?_
 rintro e w ⟨rfl, rfl⟩
 replace hS := hS
 refine ⟨_, rfl, hS, fun a25 N => ?_⟩
 replace F := F.next N
 replace f89 := N.k f89
 clear f90
 have f91 := N.got
 clear N a24
 refine Ord.take R (k := 26) (v := .bool true) (bs' := U28OscR 27) rfl (by kernel_rfl) hQ trivial hS (fun w _ hS => Ord.ev_pick_yes f89.ev f91.ev) F.lt fun a26 N => ?_
 replace F := F.next N
 clear f89
 clear f91
 have f92 := N.got
 clear N a25
 refine Ord.take R (k := 27) (v := .bool true) (bs' := U28OscR 28) rfl (by kernel_rfl) hQ trivial hS (fun w _ hS => Chain.ev_assign f92.ev) F.lt fun a27 N => ?_
 replace F := F.next N
 clear f92
 have f6 := N.got
 clear N a26
 exact Ord.finish R (by kernel_rfl) (h _ _ F f6 hS)
set_option maxRecDepth 100000 in
theorem osc_frame {a : Act} {w : World} {K : Act → World → Prop} {v0 v2 v6 v8 v10 : Value} (hz : a.tmps.size = 93) (hd : a.defers = []) (f0 : Chain.At a 0 v0) (f2 : Chain.At a 2 v2) (f6 : Chain.At a 6 v6) (f8 : Chain.At a 8 v8) (f10 : Chain.At a 10 v10)
  (h : ∀ u1 u3 u4 u5 u7 u9 u11 u12 u13 u14 u15 u16 u17 u18 u19 u20 u21 u22 u23 u24 u25 u26 u27 u28 u29 u30 u31 u32 u33 u34 u35 u36 u37 u38 u39 u40 u41 u42 u43 u44 u45 u46 u47 u48 u49 u50 u51 u52 u53 u54 u55 u56 u57 u58 u59 u60 u61 u62 u63 u64 u65 u66 u67 u68 u69 u70 u71 u72 u73 u74 u75 u76 u77 u78 u79 u80 u81 u82 u83 u84 u85 u86 u87 u88 u89 u90 u91 u92 : Value, K ⟨#[v0, u1, v2, u3, u4, u5, v6, u7, v8, u9, v10, u11, u12, u13, u14, u15, u16, u17, u18, u19, u20, u21, u22, u23, u24, u25, u26, u27, u28, u29, u30, u31, u32, u33, u34, u35, u36, u37, u38, u39, u40, u41, u42, u43, u44, u45, u46, u47, u48, u49, u50, u51, u52, u53, u54, u55, u56, u57, u58, u59, u60, u61, u62, u63, u64, u65, u66, u67, u68, u69, u70, u71, u72, u73, u74, u75, u76, u77, u78, u79, u80, u81, u82, u83, u84, u85, u86, u87, u88, u89, u90, u91, u92], []⟩ w) : K a w := by
 have e := Ord.frame_out hz hd
 have r : (List.range 93).map (fun i => a.tmps.toList.getD i undef) = [a.tmps.toList.getD 0 undef, a.tmps.toList.getD 1 undef, a.tmps.toList.getD 2 undef, a.tmps.toList.getD 3 undef, a.tmps.toList.getD 4 undef, a.tmps.toList.getD 5 undef, a.tmps.toList.getD 6 undef, a.tmps.toList.getD 7 undef, a.tmps.toList.getD 8 undef, a.tmps.toList.getD 9 undef, a.tmps.toList.getD 10 undef, a.tmps.toList.getD 11 undef, a.tmps.toList.getD 12 undef, a.tmps.toList.getD 13 undef, a.tmps.toList.getD 14 undef, a.tmps.toList.getD 15 undef, a.tmps.toList.getD 16 undef, a.tmps.toList.getD 17 undef, a.tmps.toList.getD 18 undef, a.tmps.toList.getD 19 undef, a.tmps.toList.getD 20 undef, a.tmps.toList.getD 21 undef, a.tmps.toList.getD 22 undef, a.tmps.toList.getD 23 undef, a.tmps.toList.getD 24 undef, a.tmps.toList.getD 25 undef, a.tmps.toList.getD 26 undef, a.tmps.toList.getD 27 undef, a.tmps.toList.getD 28 undef, a.tmps.toList.getD 29 undef, a.tmps.toList.getD 30 undef, a.tmps.toList.getD 31 undef, a.tmps.toList.getD 32 undef, a.tmps.toList.getD 33 undef, a.tmps.toList.getD 34 undef, a.tmps.toList.getD 35 undef, a.tmps.toList.getD 36 undef, a.tmps.toList.getD 37 undef, a.tmps.toList.getD 38 undef, a.tmps.toList.getD 39 undef, a.tmps.toList.getD 40 undef, a.tmps.toList.getD 41 undef, a.tmps.toList.getD 42 undef, a.tmps.toList.getD 43 undef, a.tmps.toList.getD 44 undef, a.tmps.toList.getD 45 undef, a.tmps.toList.getD 46 undef, a.tmps.toList.getD 47 undef, a.tmps.toList.getD 48 undef, a.tmps.toList.getD 49 undef, a.tmps.toList.getD 50 undef, a.tmps.toList.getD 51 undef, a.tmps.toList.getD 52 undef, a.tmps.toList.getD 53 undef, a.tmps.toList.getD 54 undef, a.tmps.toList.getD 55 undef, a.tmps.toList.getD 56 undef, a.tmps.toList.getD 57 undef, a.tmps.toList.getD 58 undef, a.tmps.toList.getD 59 undef, a.tmps.toList.getD 60 undef, a.tmps.toList.getD 61 undef, a.tmps.toList.getD 62 undef, a.tmps.toList.getD 63 undef, a.tmps.toList.getD 64 undef, a.tmps.toList.getD 65 undef, a.tmps.toList.getD 66 undef, a.tmps.toList.getD 67 undef, a.tmps.toList.getD 68 undef, a.tmps.toList.getD 69 undef, a.tmps.toList.getD 70 undef, a.tmps.toList.getD 71 undef, a.tmps.toList.getD 72 undef, a.tmps.toList.getD 73 undef, a.tmps.toList.getD 74 undef, a.tmps.toList.getD 75 undef, a.tmps.toList.getD 76 undef, a.tmps.toList.getD 77 undef, a.tmps.toList.getD 78 undef, a.tmps.toList.getD 79 undef, a.tmps.toList.getD 80 undef, a.tmps.toList.getD 81 undef, a.tmps.toList.getD 82 undef, a.tmps.toList.getD 83 undef, a.tmps.toList.getD 84 undef, a.tmps.toList.getD 85 undef, a.tmps.toList.getD 86 undef, a.tmps.toList.getD 87 undef, a.tmps.toList.getD 88 undef, a.tmps.toList.getD 89 undef, a.tmps.toList.getD 90 undef, a.tmps.toList.getD 91 undef, a.tmps.toList.getD 92 undef] := rfl
 rw [r, Ord.at_get f0, Ord.at_get f2, Ord.at_get f6, Ord.at_get f8, Ord.at_get f10] at e
 rw [e]
 exact h _ _ _ _ _ _ _ _ _ _ _ _ _ _ _ _ _ _ _ _ _ _ _ _ _ _ _ _ _ _ _ _ _ _ _ _ _ _ _ _ _ _ _ _ _ _ _ _ _ _ _ _ _ _ _ _ _ _ _ _ _ _ _ _ _ _ _ _ _ _ _ _ _ _ _ _ _ _ _ _ _ _ _ _ _ _ _ _
end Esc
end Go.Proofs.YtaclmhopcfgbmaaGreatDoor
