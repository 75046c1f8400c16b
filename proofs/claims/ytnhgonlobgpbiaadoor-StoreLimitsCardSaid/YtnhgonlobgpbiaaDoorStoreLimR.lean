/-
  StoreLimits: what is asked behind each limit, step by step.
-/
import Derived.Test.YtnhgonlobgpbiaaDoorOrder
import Derived.Test.YtnhgonlobgpbiaaDoorStoreA
namespace Go.Proofs.YtnhgonlobgpbiaaDoor
open Go.ChangeShapes Go.WideShapes Go.ChangeAt Go.RowKit

def limL : List Ord.Line := [
  (some 49, Go.Op.move (Go.Operand.tmp 4), none, []),
  (some 50, Go.Op.call { callee := Go.Callee.value (Go.Operand.func 42), args := #[Go.Operand.tmp 49], argTypes := #[57] }, none, [0]),
  (some 51, Go.Op.move (Go.Operand.tmp 6), none, []),
  (some 52, Go.Op.binOp Go.BinOp.neq 3 (Go.Operand.tmp 50) (Go.Operand.tmp 51) 3, none, [1, 2]),
  (some 53, Go.Op.move (Go.Operand.tmp 52), none, [3, 1]),
  (some 54, Go.Op.move (Go.Operand.tmp 4), some (4, false), [4]),
  (some 55, Go.Op.call { callee := Go.Callee.value (Go.Operand.func 44), args := #[Go.Operand.tmp 54], argTypes := #[57] }, some (4, false), [5, 4, 4]),
  (some 56, Go.Op.move (Go.Operand.tmp 6), some (4, false), [4]),
  (some 57, Go.Op.binOp Go.BinOp.sub 3 (Go.Operand.const (Go.Value.int Go.IntKind.i64 40)) (Go.Operand.tmp 56) 3, some (4, false), [7, 4]),
  (some 58, Go.Op.binOp Go.BinOp.neq 3 (Go.Operand.tmp 55) (Go.Operand.tmp 57) 3, some (4, false), [6, 8, 4]),
  (some 59, Go.Op.pick (Go.Operand.tmp 53) (Go.Operand.const (Go.Value.bool true)) (Go.Operand.tmp 58), none, [4, 9]),
  (some 60, Go.Op.move (Go.Operand.tmp 59), none, [10, 6]),
  (some 61, Go.Op.move (Go.Operand.tmp 4), some (11, false), [11]),
  (some 62, Go.Op.call { callee := Go.Callee.value (Go.Operand.func 43), args := #[Go.Operand.tmp 61], argTypes := #[57] }, some (11, false), [12, 11, 11]),
  (some 63, Go.Op.move (Go.Operand.tmp 0), some (11, false), [11]),
  (some 64, Go.Op.move (Go.Operand.tmp 7), some (11, false), [11]),
  (some 65, Go.Op.indexAddr 48 (Go.Operand.tmp 63) (Go.Operand.tmp 64), some (11, false), [14, 15, 11]),
  (some 66, Go.Op.load 3 (Go.Operand.tmp 65), some (11, false), [16, 11]),
  (some 67, Go.Op.call { callee := Go.Callee.builtin Go.Builtin.min, args := #[Go.Operand.tmp 66, Go.Operand.const (Go.Value.int Go.IntKind.i64 1000000)], argTypes := #[3, 3] }, some (11, false), [17, 11]),
  (some 68, Go.Op.call { callee := Go.Callee.builtin Go.Builtin.max, args := #[Go.Operand.const (Go.Value.int Go.IntKind.i64 0), Go.Operand.tmp 67], argTypes := #[3, 3] }, some (11, false), [18, 11]),
  (some 69, Go.Op.binOp Go.BinOp.neq 3 (Go.Operand.tmp 62) (Go.Operand.tmp 68) 3, some (11, false), [13, 19, 11]),
  (some 70, Go.Op.pick (Go.Operand.tmp 60) (Go.Operand.const (Go.Value.bool true)) (Go.Operand.tmp 69), none, [11, 20])]

/-- The slots that are known all the way. -/
structure LimFr (b off n c0 gs q i : Nat) (p1 p2 p3 p5 p8 p9 p10 p11 p12 p13 p14 p15 p16 p17 p18 p19 p20 p21 p22 p23 p24 p25 : Value) (a : Act) : Prop where
  size : a.tmps.size = 92
  defers : a.defers = []
  s0 : Chain.At a 0 (.slice (some ⟨b, off, none⟩) n c0)
  s1 : Chain.At a 1 (p1)
  s2 : Chain.At a 2 (p2)
  s3 : Chain.At a 3 (p3)
  s4 : Chain.At a 4 (ptr gs)
  s5 : Chain.At a 5 (p5)
  s6 : Chain.At a 6 (.int .i64 (q : Int))
  s7 : Chain.At a 7 (.int .i64 (i : Int))
  s8 : Chain.At a 8 (p8)
  s9 : Chain.At a 9 (p9)
  s10 : Chain.At a 10 (p10)
  s11 : Chain.At a 11 (p11)
  s12 : Chain.At a 12 (p12)
  s13 : Chain.At a 13 (p13)
  s14 : Chain.At a 14 (p14)
  s15 : Chain.At a 15 (p15)
  s16 : Chain.At a 16 (p16)
  s17 : Chain.At a 17 (p17)
  s18 : Chain.At a 18 (p18)
  s19 : Chain.At a 19 (p19)
  s20 : Chain.At a 20 (p20)
  s21 : Chain.At a 21 (p21)
  s22 : Chain.At a 22 (p22)
  s23 : Chain.At a 23 (p23)
  s24 : Chain.At a 24 (p24)
  s25 : Chain.At a 25 (p25)
theorem LimFr.next {b off n c0 gs q i : Nat} {p1 p2 p3 p5 p8 p9 p10 p11 p12 p13 p14 p15 p16 p17 p18 p19 p20 p21 p22 p23 p24 p25 : Value} {a a' : Act} {d : Nat} {v : Value} (F : LimFr b off n c0 gs q i p1 p2 p3 p5 p8 p9 p10 p11 p12 p13 p14 p15 p16 p17 p18 p19 p20 p21 p22 p23 p24 p25 a) (nx : Chain.Next a a' d v) (h : d ≠ 0 ∧ d ≠ 1 ∧ d ≠ 2 ∧ d ≠ 3 ∧ d ≠ 4 ∧ d ≠ 5 ∧ d ≠ 6 ∧ d ≠ 7 ∧ d ≠ 8 ∧ d ≠ 9 ∧ d ≠ 10 ∧ d ≠ 11 ∧ d ≠ 12 ∧ d ≠ 13 ∧ d ≠ 14 ∧ d ≠ 15 ∧ d ≠ 16 ∧ d ≠ 17 ∧ d ≠ 18 ∧ d ≠ 19 ∧ d ≠ 20 ∧ d ≠ 21 ∧ d ≠ 22 ∧ d ≠ 23 ∧ d ≠ 24 ∧ d ≠ 25) : LimFr b off n c0 gs q i p1 p2 p3 p5 p8 p9 p10 p11 p12 p13 p14 p15 p16 p17 p18 p19 p20 p21 p22 p23 p24 p25 a' := ⟨nx.size.trans F.size, nx.defers.trans F.defers, nx.keep 0 _ h.1 F.s0, nx.keep 1 _ h.2.1 F.s1, nx.keep 2 _ h.2.2.1 F.s2, nx.keep 3 _ h.2.2.2.1 F.s3, nx.keep 4 _ h.2.2.2.2.1 F.s4, nx.keep 5 _ h.2.2.2.2.2.1 F.s5, nx.keep 6 _ h.2.2.2.2.2.2.1 F.s6, nx.keep 7 _ h.2.2.2.2.2.2.2.1 F.s7, nx.keep 8 _ h.2.2.2.2.2.2.2.2.1 F.s8, nx.keep 9 _ h.2.2.2.2.2.2.2.2.2.1 F.s9, nx.keep 10 _ h.2.2.2.2.2.2.2.2.2.2.1 F.s10, nx.keep 11 _ h.2.2.2.2.2.2.2.2.2.2.2.1 F.s11, nx.keep 12 _ h.2.2.2.2.2.2.2.2.2.2.2.2.1 F.s12, nx.keep 13 _ h.2.2.2.2.2.2.2.2.2.2.2.2.2.1 F.s13, nx.keep 14 _ h.2.2.2.2.2.2.2.2.2.2.2.2.2.2.1 F.s14, nx.keep 15 _ h.2.2.2.2.2.2.2.2.2.2.2.2.2.2.2.1 F.s15, nx.keep 16 _ h.2.2.2.2.2.2.2.2.2.2.2.2.2.2.2.2.1 F.s16, nx.keep 17 _ h.2.2.2.2.2.2.2.2.2.2.2.2.2.2.2.2.2.1 F.s17, nx.keep 18 _ h.2.2.2.2.2.2.2.2.2.2.2.2.2.2.2.2.2.2.1 F.s18, nx.keep 19 _ h.2.2.2.2.2.2.2.2.2.2.2.2.2.2.2.2.2.2.2.1 F.s19, nx.keep 20 _ h.2.2.2.2.2.2.2.2.2.2.2.2.2.2.2.2.2.2.2.2.1 F.s20, nx.keep 21 _ h.2.2.2.2.2.2.2.2.2.2.2.2.2.2.2.2.2.2.2.2.2.1 F.s21, nx.keep 22 _ h.2.2.2.2.2.2.2.2.2.2.2.2.2.2.2.2.2.2.2.2.2.2.1 F.s22, nx.keep 23 _ h.2.2.2.2.2.2.2.2.2.2.2.2.2.2.2.2.2.2.2.2.2.2.2.1 F.s23, nx.keep 24 _ h.2.2.2.2.2.2.2.2.2.2.2.2.2.2.2.2.2.2.2.2.2.2.2.2.1 F.s24, nx.keep 25 _ h.2.2.2.2.2.2.2.2.2.2.2.2.2.2.2.2.2.2.2.2.2.2.2.2.2 F.s25⟩
theorem LimFr.lt {b off n c0 gs q i : Nat} {p1 p2 p3 p5 p8 p9 p10 p11 p12 p13 p14 p15 p16 p17 p18 p19 p20 p21 p22 p23 p24 p25 : Value} {a : Act} {d : Nat} (F : LimFr b off n c0 gs q i p1 p2 p3 p5 p8 p9 p10 p11 p12 p13 p14 p15 p16 p17 p18 p19 p20 p21 p22 p23 p24 p25 a) (h : d < 92) : d < a.tmps.size := by rw [F.size]; exact h

set_option maxRecDepth 100000 in
theorem lim_asked {ops : Array Oper} {Q : Exit → Act → World → Prop} (R : Ord.Reg ops limL) (hQ : ∀ c a w d v, Q (.panic c) (Act.put a (some d) v) w → Q (.panic c) a w) {w1 : World} {b off n c0 gs q i mg cl : Nat} {x : Int} {p1 p2 p3 p5 p8 p9 p10 p11 p12 p13 p14 p15 p16 p17 p18 p19 p20 p21 p22 p23 p24 p25 : Value}
    (hi : i < n) (cx : w1.cell? ⟨b, off + i, none⟩ = some (.int .i64 x)) (hsub : IntKind.i64.wrap (40 - (q : Int)) = (mg : Int)) (hcl : max 0 (min x 1000000) = (cl : Int))
    (LW : Calls Tryd.prog 42 #[ptr gs] w1 fun e w' => e = .returned (.int .i64 (q : Int)) ∧ w1 = w') (GW : Calls Tryd.prog 44 #[ptr gs] w1 fun e w' => e = .returned (.int .i64 (mg : Int)) ∧ w1 = w') (MW : Calls Tryd.prog 43 #[ptr gs] w1 fun e w' => e = .returned (.int .i64 (cl : Int)) ∧ w1 = w')
    (a : Act) (F : LimFr b off n c0 gs q i p1 p2 p3 p5 p8 p9 p10 p11 p12 p13 p14 p15 p16 p17 p18 p19 p20 p21 p22 p23 p24 p25 a) (h : ∀ a, LimFr b off n c0 gs q i p1 p2 p3 p5 p8 p9 p10 p11 p12 p13 p14 p15 p16 p17 p18 p19 p20 p21 p22 p23 p24 p25 a → Chain.At a 70 (.bool false) → Q .normal a w1) :
    wpAnyH Tryd.prog .any ops Q (fun w' => w' = w1) 22 (List.replicate 22 false).toArray a w1 := by
  have hS : w1 = w1 := rfl
  refine Ord.take R (k := 0) (v := ptr gs) (bs' := (Ord.upto 1 22)) rfl (by kernel_rfl) hQ trivial hS (fun w _ hS => Chain.ev_move F.s4.ev) (F.lt (by decide)) fun a0 N => ?_
  replace F := F.next N (by decide)
  have f49 := N.got
  clear N a
  refine Ord.take R (k := 2) (v := .int .i64 (q : Int)) (bs' := [true, false, true, false, false, false, false, false, false, false, false, false, false, false, false, false, false, false, false, false, false, false]) rfl (by kernel_rfl) hQ trivial hS (fun w _ hS => Chain.ev_move F.s6.ev) (F.lt (by decide)) fun a2 N => ?_
  replace F := F.next N (by decide)
  replace f49 := N.keep 49 _ (by decide) f49
  have f51 := N.got
  clear N a0
  refine Ord.call R (k := 1) (args := #[ptr gs]) (bs' := (Ord.upto 3 22)) rfl (by kernel_rfl) trivial (by simp [f49.ev]) (by kernel_rfl) (LW) (F.lt (by decide)) ?_
  rintro e w ⟨rfl, rfl⟩
  replace hS := (rfl : w1 = w1)
  refine ⟨_, rfl, hS, fun a1 N => ?_⟩
  replace F := F.next N (by decide)
  clear f49
  replace f51 := N.keep 51 _ (by decide) f51
  have f50 := N.got
  clear N a2
  refine Ord.take R (k := 3) (v := .bool false) (bs' := (Ord.upto 4 22)) rfl (by kernel_rfl) hQ trivial hS (fun w _ hS => by have e50 := f50; unfold Chain.At at e50; have e51 := f51; unfold Chain.At at e51; clear F; go_simp) (F.lt (by decide)) fun a3 N => ?_
  replace F := F.next N (by decide)
  clear f50
  clear f51
  have f52 := N.got
  clear N a1
  refine Ord.take R (k := 4) (v := .bool false) (bs' := (Ord.upto 5 22)) rfl (by kernel_rfl) hQ trivial hS (fun w _ hS => Chain.ev_move f52.ev) (F.lt (by decide)) fun a4 N => ?_
  replace F := F.next N (by decide)
  clear f52
  have f53 := N.got
  clear N a3
  refine Ord.take R (k := 5) (v := ptr gs) (bs' := (Ord.upto 6 22)) rfl (by kernel_rfl) hQ (R.opened (j := 4) rfl f53) hS (fun w _ hS => Chain.ev_move F.s4.ev) (F.lt (by decide)) fun a5 N => ?_
  replace F := F.next N (by decide)
  replace f53 := N.keep 53 _ (by decide) f53
  have f54 := N.got
  clear N a4
  refine Ord.take R (k := 7) (v := .int .i64 (q : Int)) (bs' := [true, true, true, true, true, true, false, true, false, false, false, false, false, false, false, false, false, false, false, false, false, false]) rfl (by kernel_rfl) hQ (R.opened (j := 4) rfl f53) hS (fun w _ hS => Chain.ev_move F.s6.ev) (F.lt (by decide)) fun a7 N => ?_
  replace F := F.next N (by decide)
  replace f53 := N.keep 53 _ (by decide) f53
  replace f54 := N.keep 54 _ (by decide) f54
  have f56 := N.got
  clear N a5
  refine Ord.take R (k := 8) (v := .int .i64 (mg : Int)) (bs' := [true, true, true, true, true, true, false, true, true, false, false, false, false, false, false, false, false, false, false, false, false, false]) rfl (by kernel_rfl) hQ (R.opened (j := 4) rfl f53) hS (fun w _ hS => by have e56 := f56; unfold Chain.At at e56; have q0 := hsub; clear F; go_simp) (F.lt (by decide)) fun a8 N => ?_
  replace F := F.next N (by decide)
  replace f53 := N.keep 53 _ (by decide) f53
  replace f54 := N.keep 54 _ (by decide) f54
  clear f56
  have f57 := N.got
  clear N a7
  refine Ord.call R (k := 6) (args := #[ptr gs]) (bs' := (Ord.upto 9 22)) rfl (by kernel_rfl) (R.opened (j := 4) rfl f53) (by simp [f54.ev]) (by kernel_rfl) (GW) (F.lt (by decide)) ?_
  rintro e w ⟨rfl, rfl⟩
  replace hS := (rfl : w1 = w1)
  refine ⟨_, rfl, hS, fun a6 N => ?_⟩
  replace F := F.next N (by decide)
  replace f53 := N.keep 53 _ (by decide) f53
  clear f54
  replace f57 := N.keep 57 _ (by decide) f57
  have f55 := N.got
  clear N a8
  refine Ord.take R (k := 9) (v := .bool false) (bs' := (Ord.upto 10 22)) rfl (by kernel_rfl) hQ (R.opened (j := 4) rfl f53) hS (fun w _ hS => by have e55 := f55; unfold Chain.At at e55; have e57 := f57; unfold Chain.At at e57; clear F; go_simp) (F.lt (by decide)) fun a9 N => ?_
  replace F := F.next N (by decide)
  replace f53 := N.keep 53 _ (by decide) f53
  clear f55
  clear f57
  have f58 := N.got
  clear N a6
  refine Ord.take R (k := 10) (v := .bool false) (bs' := (Ord.upto 11 22)) rfl (by kernel_rfl) hQ trivial hS (fun w _ hS => Ord.ev_pick_no f53.ev f58.ev) (F.lt (by decide)) fun a10 N => ?_
  replace F := F.next N (by decide)
  clear f53
  clear f58
  have f59 := N.got
  clear N a9
  refine Ord.take R (k := 11) (v := .bool false) (bs' := (Ord.upto 12 22)) rfl (by kernel_rfl) hQ trivial hS (fun w _ hS => Chain.ev_move f59.ev) (F.lt (by decide)) fun a11 N => ?_
  replace F := F.next N (by decide)
  clear f59
  have f60 := N.got
  clear N a10
  refine Ord.take R (k := 12) (v := ptr gs) (bs' := (Ord.upto 13 22)) rfl (by kernel_rfl) hQ (R.opened (j := 11) rfl f60) hS (fun w _ hS => Chain.ev_move F.s4.ev) (F.lt (by decide)) fun a12 N => ?_
  replace F := F.next N (by decide)
  replace f60 := N.keep 60 _ (by decide) f60
  have f61 := N.got
  clear N a11
  refine Ord.take R (k := 14) (v := .slice (some ⟨b, off, none⟩) n c0) (bs' := [true, true, true, true, true, true, true, true, true, true, true, true, true, false, true, false, false, false, false, false, false, false]) rfl (by kernel_rfl) hQ (R.opened (j := 11) rfl f60) hS (fun w _ hS => Chain.ev_move F.s0.ev) (F.lt (by decide)) fun a14 N => ?_
  replace F := F.next N (by decide)
  replace f60 := N.keep 60 _ (by decide) f60
  replace f61 := N.keep 61 _ (by decide) f61
  have f63 := N.got
  clear N a12
  refine Ord.take R (k := 15) (v := .int .i64 (i : Int)) (bs' := [true, true, true, true, true, true, true, true, true, true, true, true, true, false, true, true, false, false, false, false, false, false]) rfl (by kernel_rfl) hQ (R.opened (j := 11) rfl f60) hS (fun w _ hS => Chain.ev_move F.s7.ev) (F.lt (by decide)) fun a15 N => ?_
  replace F := F.next N (by decide)
  replace f60 := N.keep 60 _ (by decide) f60
  replace f61 := N.keep 61 _ (by decide) f61
  replace f63 := N.keep 63 _ (by decide) f63
  have f64 := N.got
  clear N a14
  refine Ord.take R (k := 16) (v := .pointer (some ⟨b, off + i, none⟩)) (bs' := [true, true, true, true, true, true, true, true, true, true, true, true, true, false, true, true, true, false, false, false, false, false]) rfl (by kernel_rfl) hQ (R.opened (j := 11) rfl f60) hS (fun w _ hS => by have e63 := f63; unfold Chain.At at e63; have e64 := f64; unfold Chain.At at e64; have q0 := hi; clear F; go_simp) (F.lt (by decide)) fun a16 N => ?_
  replace F := F.next N (by decide)
  replace f60 := N.keep 60 _ (by decide) f60
  replace f61 := N.keep 61 _ (by decide) f61
  clear f63
  clear f64
  have f65 := N.got
  clear N a15
  refine Ord.take R (k := 17) (v := .int .i64 x) (bs' := [true, true, true, true, true, true, true, true, true, true, true, true, true, false, true, true, true, true, false, false, false, false]) rfl (by kernel_rfl) hQ (R.opened (j := 11) rfl f60) hS (fun w _ hS => by have e65 := f65; unfold Chain.At at e65; have q0 := (show w.cell? ⟨b, off + i, none⟩ = some (.int .i64 x) from (by rw [hS]; exact cx)); clear F; go_simp) (F.lt (by decide)) fun a17 N => ?_
  replace F := F.next N (by decide)
  replace f60 := N.keep 60 _ (by decide) f60
  replace f61 := N.keep 61 _ (by decide) f61
  clear f65
  have f66 := N.got
  clear N a16
  refine Ord.take R (k := 18) (v := .int .i64 (min x 1000000)) (bs' := [true, true, true, true, true, true, true, true, true, true, true, true, true, false, true, true, true, true, true, false, false, false]) rfl (by kernel_rfl) hQ (R.opened (j := 11) rfl f60) hS (fun w _ hS => by have e66 := f66; unfold Chain.At at e66; clear F; go_simp) (F.lt (by decide)) fun a18 N => ?_
  replace F := F.next N (by decide)
  replace f60 := N.keep 60 _ (by decide) f60
  replace f61 := N.keep 61 _ (by decide) f61
  clear f66
  have f67 := N.got
  clear N a17
  refine Ord.take R (k := 19) (v := .int .i64 (cl : Int)) (bs' := [true, true, true, true, true, true, true, true, true, true, true, true, true, false, true, true, true, true, true, true, false, false]) rfl (by kernel_rfl) hQ (R.opened (j := 11) rfl f60) hS (fun w _ hS => by have e67 := f67; unfold Chain.At at e67; have q0 := hcl; clear F; go_simp) (F.lt (by decide)) fun a19 N => ?_
  replace F := F.next N (by decide)
  replace f60 := N.keep 60 _ (by decide) f60
  replace f61 := N.keep 61 _ (by decide) f61
  clear f67
  have f68 := N.got
  clear N a18
  refine Ord.call R (k := 13) (args := #[ptr gs]) (bs' := (Ord.upto 20 22)) rfl (by kernel_rfl) (R.opened (j := 11) rfl f60) (by simp [f61.ev]) (by kernel_rfl) (MW) (F.lt (by decide)) ?_
  rintro e w ⟨rfl, rfl⟩
  replace hS := (rfl : w1 = w1)
  refine ⟨_, rfl, hS, fun a13 N => ?_⟩
  replace F := F.next N (by decide)
  replace f60 := N.keep 60 _ (by decide) f60
  clear f61
  replace f68 := N.keep 68 _ (by decide) f68
  have f62 := N.got
  clear N a19
  refine Ord.take R (k := 20) (v := .bool false) (bs' := (Ord.upto 21 22)) rfl (by kernel_rfl) hQ (R.opened (j := 11) rfl f60) hS (fun w _ hS => by have e62 := f62; unfold Chain.At at e62; have e68 := f68; unfold Chain.At at e68; clear F; go_simp) (F.lt (by decide)) fun a20 N => ?_
  replace F := F.next N (by decide)
  replace f60 := N.keep 60 _ (by decide) f60
  clear f62
  clear f68
  have f69 := N.got
  clear N a13
  refine Ord.take R (k := 21) (v := .bool false) (bs' := (Ord.upto 22 22)) rfl (by kernel_rfl) hQ trivial hS (fun w _ hS => Ord.ev_pick_no f60.ev f69.ev) (F.lt (by decide)) fun a21 N => ?_
  replace F := F.next N (by decide)
  clear f60
  clear f69
  have f70 := N.got
  clear N a20
  exact Ord.finish R (by kernel_rfl) (h _ F f70)

set_option maxRecDepth 100000 in
/-- The frame written out, its known slots in their places. -/
theorem lim_frame {a : Act} {w : World} {K : Act → World → Prop} {v0 v1 v2 v3 v4 v5 v6 v7 v8 v9 v10 v11 v12 v13 v14 v15 v16 v17 v18 v19 v20 v21 v22 v23 v24 v25 v70 : Value} (hz : a.tmps.size = 92) (hd : a.defers = []) (f0 : Chain.At a 0 v0) (f1 : Chain.At a 1 v1) (f2 : Chain.At a 2 v2) (f3 : Chain.At a 3 v3) (f4 : Chain.At a 4 v4) (f5 : Chain.At a 5 v5) (f6 : Chain.At a 6 v6) (f7 : Chain.At a 7 v7) (f8 : Chain.At a 8 v8) (f9 : Chain.At a 9 v9) (f10 : Chain.At a 10 v10) (f11 : Chain.At a 11 v11) (f12 : Chain.At a 12 v12) (f13 : Chain.At a 13 v13) (f14 : Chain.At a 14 v14) (f15 : Chain.At a 15 v15) (f16 : Chain.At a 16 v16) (f17 : Chain.At a 17 v17) (f18 : Chain.At a 18 v18) (f19 : Chain.At a 19 v19) (f20 : Chain.At a 20 v20) (f21 : Chain.At a 21 v21) (f22 : Chain.At a 22 v22) (f23 : Chain.At a 23 v23) (f24 : Chain.At a 24 v24) (f25 : Chain.At a 25 v25) (f70 : Chain.At a 70 v70)
    (h : ∀ u26 u27 u28 u29 u30 u31 u32 u33 u34 u35 u36 u37 u38 u39 u40 u41 u42 u43 u44 u45 u46 u47 u48 u49 u50 u51 u52 u53 u54 u55 u56 u57 u58 u59 u60 u61 u62 u63 u64 u65 u66 u67 u68 u69 u71 u72 u73 u74 u75 u76 u77 u78 u79 u80 u81 u82 u83 u84 u85 u86 u87 u88 u89 u90 u91 : Value, K ⟨#[v0, v1, v2, v3, v4, v5, v6, v7, v8, v9, v10, v11, v12, v13, v14, v15, v16, v17, v18, v19, v20, v21, v22, v23, v24, v25, u26, u27, u28, u29, u30, u31, u32, u33, u34, u35, u36, u37, u38, u39, u40, u41, u42, u43, u44, u45, u46, u47, u48, u49, u50, u51, u52, u53, u54, u55, u56, u57, u58, u59, u60, u61, u62, u63, u64, u65, u66, u67, u68, u69, v70, u71, u72, u73, u74, u75, u76, u77, u78, u79, u80, u81, u82, u83, u84, u85, u86, u87, u88, u89, u90, u91], []⟩ w) : K a w := by
  have e := Ord.frame_out hz hd
  have r : (List.range 92).map (fun i => a.tmps.toList.getD i undef) = [a.tmps.toList.getD 0 undef, a.tmps.toList.getD 1 undef, a.tmps.toList.getD 2 undef, a.tmps.toList.getD 3 undef, a.tmps.toList.getD 4 undef, a.tmps.toList.getD 5 undef, a.tmps.toList.getD 6 undef, a.tmps.toList.getD 7 undef, a.tmps.toList.getD 8 undef, a.tmps.toList.getD 9 undef, a.tmps.toList.getD 10 undef, a.tmps.toList.getD 11 undef, a.tmps.toList.getD 12 undef, a.tmps.toList.getD 13 undef, a.tmps.toList.getD 14 undef, a.tmps.toList.getD 15 undef, a.tmps.toList.getD 16 undef, a.tmps.toList.getD 17 undef, a.tmps.toList.getD 18 undef, a.tmps.toList.getD 19 undef, a.tmps.toList.getD 20 undef, a.tmps.toList.getD 21 undef, a.tmps.toList.getD 22 undef, a.tmps.toList.getD 23 undef, a.tmps.toList.getD 24 undef, a.tmps.toList.getD 25 undef, a.tmps.toList.getD 26 undef, a.tmps.toList.getD 27 undef, a.tmps.toList.getD 28 undef, a.tmps.toList.getD 29 undef, a.tmps.toList.getD 30 undef, a.tmps.toList.getD 31 undef, a.tmps.toList.getD 32 undef, a.tmps.toList.getD 33 undef, a.tmps.toList.getD 34 undef, a.tmps.toList.getD 35 undef, a.tmps.toList.getD 36 undef, a.tmps.toList.getD 37 undef, a.tmps.toList.getD 38 undef, a.tmps.toList.getD 39 undef, a.tmps.toList.getD 40 undef, a.tmps.toList.getD 41 undef, a.tmps.toList.getD 42 undef, a.tmps.toList.getD 43 undef, a.tmps.toList.getD 44 undef, a.tmps.toList.getD 45 undef, a.tmps.toList.getD 46 undef, a.tmps.toList.getD 47 undef, a.tmps.toList.getD 48 undef, a.tmps.toList.getD 49 undef, a.tmps.toList.getD 50 undef, a.tmps.toList.getD 51 undef, a.tmps.toList.getD 52 undef, a.tmps.toList.getD 53 undef, a.tmps.toList.getD 54 undef, a.tmps.toList.getD 55 undef, a.tmps.toList.getD 56 undef, a.tmps.toList.getD 57 undef, a.tmps.toList.getD 58 undef, a.tmps.toList.getD 59 undef, a.tmps.toList.getD 60 undef, a.tmps.toList.getD 61 undef, a.tmps.toList.getD 62 undef, a.tmps.toList.getD 63 undef, a.tmps.toList.getD 64 undef, a.tmps.toList.getD 65 undef, a.tmps.toList.getD 66 undef, a.tmps.toList.getD 67 undef, a.tmps.toList.getD 68 undef, a.tmps.toList.getD 69 undef, a.tmps.toList.getD 70 undef, a.tmps.toList.getD 71 undef, a.tmps.toList.getD 72 undef, a.tmps.toList.getD 73 undef, a.tmps.toList.getD 74 undef, a.tmps.toList.getD 75 undef, a.tmps.toList.getD 76 undef, a.tmps.toList.getD 77 undef, a.tmps.toList.getD 78 undef, a.tmps.toList.getD 79 undef, a.tmps.toList.getD 80 undef, a.tmps.toList.getD 81 undef, a.tmps.toList.getD 82 undef, a.tmps.toList.getD 83 undef, a.tmps.toList.getD 84 undef, a.tmps.toList.getD 85 undef, a.tmps.toList.getD 86 undef, a.tmps.toList.getD 87 undef, a.tmps.toList.getD 88 undef, a.tmps.toList.getD 89 undef, a.tmps.toList.getD 90 undef, a.tmps.toList.getD 91 undef] := rfl
  rw [r, Ord.at_get f0, Ord.at_get f1, Ord.at_get f2, Ord.at_get f3, Ord.at_get f4, Ord.at_get f5, Ord.at_get f6, Ord.at_get f7, Ord.at_get f8, Ord.at_get f9, Ord.at_get f10, Ord.at_get f11, Ord.at_get f12, Ord.at_get f13, Ord.at_get f14, Ord.at_get f15, Ord.at_get f16, Ord.at_get f17, Ord.at_get f18, Ord.at_get f19, Ord.at_get f20, Ord.at_get f21, Ord.at_get f22, Ord.at_get f23, Ord.at_get f24, Ord.at_get f25, Ord.at_get f70] at e
  rw [e]
  exact h _ _ _ _ _ _ _ _ _ _ _ _ _ _ _ _ _ _ _ _ _ _ _ _ _ _ _ _ _ _ _ _ _ _ _ _ _ _ _ _ _ _ _ _ _ _ _ _ _ _ _ _ _ _ _ _ _ _ _ _ _ _ _ _ _

end Go.Proofs.YtnhgonlobgpbiaaDoor
