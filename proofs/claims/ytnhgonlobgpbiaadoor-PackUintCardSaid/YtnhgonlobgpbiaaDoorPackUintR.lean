/-
  The statement PackUint: its great statement, step by step.
-/
import Derived.Test.YtnhgonlobgpbiaaDoorOrder
import Derived.Test.YtnhgonlobgpbiaaDoorStr
import Derived.Test.YtnhgonlobgpbiaaDoorUint
namespace Go.Proofs.YtnhgonlobgpbiaaDoor
open Go.ChangeShapes Go.WideShapes Go.ChangeAt Go.RowKit

def uint4L : List Ord.Line := [
  (some 41, Go.Op.move (Go.Operand.tmp 6), none, []),
  (some 42, Go.Op.convert 23 9 (Go.Operand.tmp 41), none, [0]),
  (some 43, Go.Op.move (Go.Operand.tmp 0), none, []),
  (some 44, Go.Op.call { callee := Go.Callee.value (Go.Operand.func 22), args := #[Go.Operand.tmp 43], argTypes := #[22] }, none, [2]),
  (some 45, Go.Op.convert 23 9 (Go.Operand.tmp 44), none, [3]),
  (some 46, Go.Op.binOp Go.BinOp.eql 9 (Go.Operand.tmp 42) (Go.Operand.tmp 45) 9, none, [1, 4]),
  (some 47, Go.Op.move (Go.Operand.tmp 46), none, [5, 3]),
  (some 48, Go.Op.move (Go.Operand.tmp 7), some (6, true), [6]),
  (some 49, Go.Op.move (Go.Operand.tmp 0), some (6, true), [6]),
  (some 50, Go.Op.binOp Go.BinOp.eql 22 (Go.Operand.tmp 48) (Go.Operand.tmp 49) 22, some (6, true), [7, 8, 6]),
  (some 51, Go.Op.pick (Go.Operand.tmp 47) (Go.Operand.tmp 50) (Go.Operand.const (Go.Value.bool false)), none, [6, 9]),
  (some 52, Go.Op.move (Go.Operand.tmp 51), none, [10, 6]),
  (some 53, Go.Op.move (Go.Operand.tmp 8), some (11, true), [11]),
  (some 54, Go.Op.move (Go.Operand.tmp 6), some (11, true), [11]),
  (some 55, Go.Op.call { callee := Go.Callee.builtin Go.Builtin.len, args := #[Go.Operand.tmp 54], argTypes := #[23] }, some (11, true), [13, 11]),
  (some 56, Go.Op.binOp Go.BinOp.eql 3 (Go.Operand.tmp 53) (Go.Operand.tmp 55) 3, some (11, true), [12, 14, 11]),
  (some 57, Go.Op.pick (Go.Operand.tmp 52) (Go.Operand.tmp 56) (Go.Operand.const (Go.Value.bool false)), none, [11, 15]),
  (some 58, Go.Op.move (Go.Operand.tmp 57), none, [16, 11]),
  (some 59, Go.Op.move (Go.Operand.tmp 9), some (17, true), [17]),
  (some 60, Go.Op.move (Go.Operand.tmp 11), some (17, true), [17]),
  (some 61, Go.Op.binOp Go.BinOp.eql 22 (Go.Operand.tmp 59) (Go.Operand.tmp 60) 22, some (17, true), [18, 19, 17]),
  (some 62, Go.Op.pick (Go.Operand.tmp 58) (Go.Operand.tmp 61) (Go.Operand.const (Go.Value.bool false)), none, [17, 20]),
  (some 63, Go.Op.move (Go.Operand.tmp 62), none, [21, 17]),
  (some 64, Go.Op.move (Go.Operand.tmp 10), some (22, true), [22]),
  (some 65, Go.Op.move (Go.Operand.tmp 12), some (22, true), [22]),
  (some 66, Go.Op.binOp Go.BinOp.eql 3 (Go.Operand.tmp 64) (Go.Operand.tmp 65) 3, some (22, true), [23, 24, 22]),
  (some 67, Go.Op.pick (Go.Operand.tmp 63) (Go.Operand.tmp 66) (Go.Operand.const (Go.Value.bool false)), none, [22, 25]),
  (some 4, Go.Op.assign (Go.Operand.tmp 67), none, [26, 22, 0, 1, 2, 3, 4, 5, 6, 7, 8, 9, 10, 11, 12, 13, 14, 15, 16, 17, 18, 19, 20, 21, 22, 23, 24, 25, 26])]

/-- The slots that are known all the way. -/
structure Uint4Fr (n la gv gk c1 : Nat) (A1 : Option Addr) (a : Act) : Prop where
  size : a.tmps.size = 68
  defers : a.defers = []
  s0 : Chain.At a 0 (.int .u64 (n : Int))
  s6 : Chain.At a 6 (.slice A1 la c1)
  s7 : Chain.At a 7 (.int .u64 (n : Int))
  s8 : Chain.At a 8 (.int .i64 (la : Int))
  s9 : Chain.At a 9 (.int .u64 (gv : Int))
  s10 : Chain.At a 10 (.int .i64 (gk : Int))
  s11 : Chain.At a 11 (.int .u64 (gv : Int))
  s12 : Chain.At a 12 (.int .i64 (gk : Int))
theorem Uint4Fr.next {n la gv gk c1 : Nat} {A1 : Option Addr} {a a' : Act} {d : Nat} {v : Value} (F : Uint4Fr n la gv gk c1 A1 a) (nx : Chain.Next a a' d v) (h : d ≠ 0 ∧ d ≠ 6 ∧ d ≠ 7 ∧ d ≠ 8 ∧ d ≠ 9 ∧ d ≠ 10 ∧ d ≠ 11 ∧ d ≠ 12) : Uint4Fr n la gv gk c1 A1 a' := ⟨nx.size.trans F.size, nx.defers.trans F.defers, nx.keep 0 _ h.1 F.s0, nx.keep 6 _ h.2.1 F.s6, nx.keep 7 _ h.2.2.1 F.s7, nx.keep 8 _ h.2.2.2.1 F.s8, nx.keep 9 _ h.2.2.2.2.1 F.s9, nx.keep 10 _ h.2.2.2.2.2.1 F.s10, nx.keep 11 _ h.2.2.2.2.2.2.1 F.s11, nx.keep 12 _ h.2.2.2.2.2.2.2 F.s12⟩
theorem Uint4Fr.lt {n la gv gk c1 : Nat} {A1 : Option Addr} {a : Act} {d : Nat} (F : Uint4Fr n la gv gk c1 A1 a) (h : d < 68) : d < a.tmps.size := by rw [F.size]; exact h

set_option maxRecDepth 100000 in
theorem uint4_great {ops : Array Oper} {Q : Exit → Act → World → Prop} {S : World → Prop} (R : Ord.Reg ops uint4L) (hQ : ∀ c a w d v, Q (.panic c) (Act.put a (some d) v) w → Q (.panic c) a w) {w : World} {n la gv gk c1 : Nat} {A1 : Option Addr} {s : ByteArray} (hn : n < 2 ^ 64) (hla : (uintL n).length = la)
    (hconvP : ∀ w, S w → (convert 23 9 (.slice A1 la c1)).run Tryd.prog w = .ok (.string s) w) (hstep : ∀ w w2, S w → Below w.heap.size w w2 → S w2) (hconv : ∀ w B A7 c7, HasB w B (.slice A7 (uintL n).length c7) (uintL n) → (convert 23 9 (.slice A7 (uintL n).length c7)).run Tryd.prog w = .ok (.string s) w)
    (a : Act) (F : Uint4Fr n la gv gk c1 A1 a) (hS : S w) (h : ∀ a w, Chain.At a 4 (.bool true) → a.defers = [] → S w → Q .normal a w) :
    wpAnyH Tryd.prog .any ops Q S 28 (List.replicate 28 false).toArray a w := by
  refine Ord.take R (k := 0) (v := .slice A1 la c1) (bs' := (Ord.upto 1 28)) rfl (by kernel_rfl) hQ trivial hS (fun w _ hS => Chain.ev_move F.s6.ev) (F.lt (by decide)) fun a0 N => ?_
  replace F := F.next N (by decide)
  have f41 := N.got
  clear N a
  refine Ord.take R (k := 1) (v := .string s) (bs' := (Ord.upto 2 28)) rfl (by kernel_rfl) hQ trivial hS (fun w _ hS => by have e41 := f41; unfold Chain.At at e41; have q0 := hconvP w hS; clear F; go_simp) (F.lt (by decide)) fun a1 N => ?_
  replace F := F.next N (by decide)
  clear f41
  have f42 := N.got
  clear N a0
  refine Ord.take R (k := 2) (v := .int .u64 (n : Int)) (bs' := (Ord.upto 3 28)) rfl (by kernel_rfl) hQ trivial hS (fun w _ hS => Chain.ev_move F.s0.ev) (F.lt (by decide)) fun a2 N => ?_
  replace F := F.next N (by decide)
  replace f42 := N.keep 42 _ (by decide) f42
  have f43 := N.got
  clear N a1
  refine Ord.call R (k := 3) (args := #[.int .u64 (n : Int)]) (bs' := (Ord.upto 4 28)) rfl (by kernel_rfl) trivial (by simp [f43.ev]) (by kernel_rfl) (refUint_walk n hn w) (F.lt (by decide)) ?_
  rintro e w ⟨v7, rfl, h7, b7⟩
  obtain ⟨A7, c7, rfl⟩ := h7.shape
  have cv7 := hconv w _ _ _ h7
  rw [hla] at cv7 ⊢
  replace hS := hstep _ _ hS b7
  refine ⟨_, rfl, hS, fun a3 N => ?_⟩
  replace F := F.next N (by decide)
  replace f42 := N.keep 42 _ (by decide) f42
  clear f43
  have f44 := N.got
  clear N a2
  refine Ord.value R (k := 4) (v := .string s) (bs' := (Ord.upto 5 28)) rfl (by kernel_rfl) trivial hS (fun _ => by have e44 := f44; unfold Chain.At at e44; have q0 := cv7; clear F; go_simp) (F.lt (by decide)) fun a4 N => ?_
  replace F := F.next N (by decide)
  replace f42 := N.keep 42 _ (by decide) f42
  clear f44
  have f45 := N.got
  clear N a3
  refine Ord.take R (k := 5) (v := .bool true) (bs' := (Ord.upto 6 28)) rfl (by kernel_rfl) hQ trivial hS (fun w _ hS => by have e42 := f42; unfold Chain.At at e42; have e45 := f45; unfold Chain.At at e45; clear F; go_simp) (F.lt (by decide)) fun a5 N => ?_
  replace F := F.next N (by decide)
  clear f42
  clear f45
  have f46 := N.got
  clear N a4
  refine Ord.take R (k := 6) (v := .bool true) (bs' := (Ord.upto 7 28)) rfl (by kernel_rfl) hQ trivial hS (fun w _ hS => Chain.ev_move f46.ev) (F.lt (by decide)) fun a6 N => ?_
  replace F := F.next N (by decide)
  clear f46
  have f47 := N.got
  clear N a5
  refine Ord.take R (k := 7) (v := .int .u64 (n : Int)) (bs' := (Ord.upto 8 28)) rfl (by kernel_rfl) hQ (R.opened (j := 6) rfl f47) hS (fun w _ hS => Chain.ev_move F.s7.ev) (F.lt (by decide)) fun a7 N => ?_
  replace F := F.next N (by decide)
  replace f47 := N.keep 47 _ (by decide) f47
  have f48 := N.got
  clear N a6
  refine Ord.take R (k := 8) (v := .int .u64 (n : Int)) (bs' := (Ord.upto 9 28)) rfl (by kernel_rfl) hQ (R.opened (j := 6) rfl f47) hS (fun w _ hS => Chain.ev_move F.s0.ev) (F.lt (by decide)) fun a8 N => ?_
  replace F := F.next N (by decide)
  replace f47 := N.keep 47 _ (by decide) f47
  replace f48 := N.keep 48 _ (by decide) f48
  have f49 := N.got
  clear N a7
  refine Ord.take R (k := 9) (v := .bool true) (bs' := (Ord.upto 10 28)) rfl (by kernel_rfl) hQ (R.opened (j := 6) rfl f47) hS (fun w _ hS => by have e48 := f48; unfold Chain.At at e48; have e49 := f49; unfold Chain.At at e49; clear F; go_simp) (F.lt (by decide)) fun a9 N => ?_
  replace F := F.next N (by decide)
  replace f47 := N.keep 47 _ (by decide) f47
  clear f48
  clear f49
  have f50 := N.got
  clear N a8
  refine Ord.take R (k := 10) (v := .bool true) (bs' := (Ord.upto 11 28)) rfl (by kernel_rfl) hQ trivial hS (fun w _ hS => Ord.ev_pick_yes f47.ev f50.ev) (F.lt (by decide)) fun a10 N => ?_
  replace F := F.next N (by decide)
  clear f47
  clear f50
  have f51 := N.got
  clear N a9
  refine Ord.take R (k := 11) (v := .bool true) (bs' := (Ord.upto 12 28)) rfl (by kernel_rfl) hQ trivial hS (fun w _ hS => Chain.ev_move f51.ev) (F.lt (by decide)) fun a11 N => ?_
  replace F := F.next N (by decide)
  clear f51
  have f52 := N.got
  clear N a10
  refine Ord.take R (k := 12) (v := .int .i64 (la : Int)) (bs' := (Ord.upto 13 28)) rfl (by kernel_rfl) hQ (R.opened (j := 11) rfl f52) hS (fun w _ hS => Chain.ev_move F.s8.ev) (F.lt (by decide)) fun a12 N => ?_
  replace F := F.next N (by decide)
  replace f52 := N.keep 52 _ (by decide) f52
  have f53 := N.got
  clear N a11
  refine Ord.take R (k := 13) (v := .slice A1 la c1) (bs' := (Ord.upto 14 28)) rfl (by kernel_rfl) hQ (R.opened (j := 11) rfl f52) hS (fun w _ hS => Chain.ev_move F.s6.ev) (F.lt (by decide)) fun a13 N => ?_
  replace F := F.next N (by decide)
  replace f52 := N.keep 52 _ (by decide) f52
  replace f53 := N.keep 53 _ (by decide) f53
  have f54 := N.got
  clear N a12
  refine Ord.take R (k := 14) (v := .int .i64 (la : Int)) (bs' := (Ord.upto 15 28)) rfl (by kernel_rfl) hQ (R.opened (j := 11) rfl f52) hS (fun w _ hS => by have e54 := f54; unfold Chain.At at e54; clear F; go_simp) (F.lt (by decide)) fun a14 N => ?_
  replace F := F.next N (by decide)
  replace f52 := N.keep 52 _ (by decide) f52
  replace f53 := N.keep 53 _ (by decide) f53
  clear f54
  have f55 := N.got
  clear N a13
  refine Ord.take R (k := 15) (v := .bool true) (bs' := (Ord.upto 16 28)) rfl (by kernel_rfl) hQ (R.opened (j := 11) rfl f52) hS (fun w _ hS => by have e53 := f53; unfold Chain.At at e53; have e55 := f55; unfold Chain.At at e55; clear F; go_simp) (F.lt (by decide)) fun a15 N => ?_
  replace F := F.next N (by decide)
  replace f52 := N.keep 52 _ (by decide) f52
  clear f53
  clear f55
  have f56 := N.got
  clear N a14
  refine Ord.take R (k := 16) (v := .bool true) (bs' := (Ord.upto 17 28)) rfl (by kernel_rfl) hQ trivial hS (fun w _ hS => Ord.ev_pick_yes f52.ev f56.ev) (F.lt (by decide)) fun a16 N => ?_
  replace F := F.next N (by decide)
  clear f52
  clear f56
  have f57 := N.got
  clear N a15
  refine Ord.take R (k := 17) (v := .bool true) (bs' := (Ord.upto 18 28)) rfl (by kernel_rfl) hQ trivial hS (fun w _ hS => Chain.ev_move f57.ev) (F.lt (by decide)) fun a17 N => ?_
  replace F := F.next N (by decide)
  clear f57
  have f58 := N.got
  clear N a16
  refine Ord.take R (k := 18) (v := .int .u64 (gv : Int)) (bs' := (Ord.upto 19 28)) rfl (by kernel_rfl) hQ (R.opened (j := 17) rfl f58) hS (fun w _ hS => Chain.ev_move F.s9.ev) (F.lt (by decide)) fun a18 N => ?_
  replace F := F.next N (by decide)
  replace f58 := N.keep 58 _ (by decide) f58
  have f59 := N.got
  clear N a17
  refine Ord.take R (k := 19) (v := .int .u64 (gv : Int)) (bs' := (Ord.upto 20 28)) rfl (by kernel_rfl) hQ (R.opened (j := 17) rfl f58) hS (fun w _ hS => Chain.ev_move F.s11.ev) (F.lt (by decide)) fun a19 N => ?_
  replace F := F.next N (by decide)
  replace f58 := N.keep 58 _ (by decide) f58
  replace f59 := N.keep 59 _ (by decide) f59
  have f60 := N.got
  clear N a18
  refine Ord.take R (k := 20) (v := .bool true) (bs' := (Ord.upto 21 28)) rfl (by kernel_rfl) hQ (R.opened (j := 17) rfl f58) hS (fun w _ hS => by have e59 := f59; unfold Chain.At at e59; have e60 := f60; unfold Chain.At at e60; clear F; go_simp) (F.lt (by decide)) fun a20 N => ?_
  replace F := F.next N (by decide)
  replace f58 := N.keep 58 _ (by decide) f58
  clear f59
  clear f60
  have f61 := N.got
  clear N a19
  refine Ord.take R (k := 21) (v := .bool true) (bs' := (Ord.upto 22 28)) rfl (by kernel_rfl) hQ trivial hS (fun w _ hS => Ord.ev_pick_yes f58.ev f61.ev) (F.lt (by decide)) fun a21 N => ?_
  replace F := F.next N (by decide)
  clear f58
  clear f61
  have f62 := N.got
  clear N a20
  refine Ord.take R (k := 22) (v := .bool true) (bs' := (Ord.upto 23 28)) rfl (by kernel_rfl) hQ trivial hS (fun w _ hS => Chain.ev_move f62.ev) (F.lt (by decide)) fun a22 N => ?_
  replace F := F.next N (by decide)
  clear f62
  have f63 := N.got
  clear N a21
  refine Ord.take R (k := 23) (v := .int .i64 (gk : Int)) (bs' := (Ord.upto 24 28)) rfl (by kernel_rfl) hQ (R.opened (j := 22) rfl f63) hS (fun w _ hS => Chain.ev_move F.s10.ev) (F.lt (by decide)) fun a23 N => ?_
  replace F := F.next N (by decide)
  replace f63 := N.keep 63 _ (by decide) f63
  have f64 := N.got
  clear N a22
  refine Ord.take R (k := 24) (v := .int .i64 (gk : Int)) (bs' := (Ord.upto 25 28)) rfl (by kernel_rfl) hQ (R.opened (j := 22) rfl f63) hS (fun w _ hS => Chain.ev_move F.s12.ev) (F.lt (by decide)) fun a24 N => ?_
  replace F := F.next N (by decide)
  replace f63 := N.keep 63 _ (by decide) f63
  replace f64 := N.keep 64 _ (by decide) f64
  have f65 := N.got
  clear N a23
  refine Ord.take R (k := 25) (v := .bool true) (bs' := (Ord.upto 26 28)) rfl (by kernel_rfl) hQ (R.opened (j := 22) rfl f63) hS (fun w _ hS => by have e64 := f64; unfold Chain.At at e64; have e65 := f65; unfold Chain.At at e65; clear F; go_simp) (F.lt (by decide)) fun a25 N => ?_
  replace F := F.next N (by decide)
  replace f63 := N.keep 63 _ (by decide) f63
  clear f64
  clear f65
  have f66 := N.got
  clear N a24
  refine Ord.take R (k := 26) (v := .bool true) (bs' := (Ord.upto 27 28)) rfl (by kernel_rfl) hQ trivial hS (fun w _ hS => Ord.ev_pick_yes f63.ev f66.ev) (F.lt (by decide)) fun a26 N => ?_
  replace F := F.next N (by decide)
  clear f63
  clear f66
  have f67 := N.got
  clear N a25
  refine Ord.take R (k := 27) (v := .bool true) (bs' := (Ord.upto 28 28)) rfl (by kernel_rfl) hQ trivial hS (fun w _ hS => Chain.ev_assign f67.ev) (F.lt (by decide)) fun a27 N => ?_
  replace F := F.next N (by decide)
  clear f67
  have f4 := N.got
  clear N a26
  exact Ord.finish R (by kernel_rfl) (h _ _ f4 F.defers hS)
end Go.Proofs.YtnhgonlobgpbiaaDoor
