/-
  store.fit: the statement that asks how many rows go.
-/
import Derived.Test.YtalhlgiklochdaaDoorOrder
import Derived.Test.YtalhlgiklochdaaDoorStoreA
namespace Go.Proofs.YtalhlgiklochdaaDoor
open Go.ChangeShapes Go.WideShapes Go.ChangeAt Go.RowKit

def fitL : List Ord.Line := [
  (some 20, Go.Op.move (Go.Operand.tmp 2), none, []),
  (some 21, Go.Op.call { callee := Go.Callee.value (Go.Operand.func 38), args := #[Go.Operand.tmp 20], argTypes := #[49] }, none, [0]),
  (some 22, Go.Op.move (Go.Operand.tmp 2), none, []),
  (some 23, Go.Op.call { callee := Go.Callee.value (Go.Operand.func 37), args := #[Go.Operand.tmp 22], argTypes := #[49] }, none, [2, 1]),
  (some 24, Go.Op.move (Go.Operand.tmp 0), none, []),
  (some 25, Go.Op.nilCheck (Go.Operand.tmp 24), none, [4]),
  (some 26, Go.Op.fieldAddr 95 (Go.Operand.tmp 25) 2, none, [5]),
  (some 27, Go.Op.load 3 (Go.Operand.tmp 26), none, [6]),
  (some 28, Go.Op.move (Go.Operand.tmp 0), none, []),
  (some 29, Go.Op.nilCheck (Go.Operand.tmp 28), none, [8]),
  (some 30, Go.Op.fieldAddr 95 (Go.Operand.tmp 29) 1, none, [9]),
  (some 31, Go.Op.load 3 (Go.Operand.tmp 30), none, [10]),
  (some 32, Go.Op.binOp Go.BinOp.sub 3 (Go.Operand.tmp 27) (Go.Operand.tmp 31) 3, none, [7, 11]),
  (some 33, Go.Op.call { callee := Go.Callee.builtin Go.Builtin.min, args := #[Go.Operand.tmp 23, Go.Operand.tmp 32], argTypes := #[3, 3] }, none, [3, 12]),
  (some 3, Go.Op.assign (Go.Operand.tmp 21), none, [1, 3, 0, 1]),
  (some 4, Go.Op.assign (Go.Operand.tmp 33), none, [13, 14, 0, 1, 2, 3, 4, 5, 6, 7, 8, 9, 10, 11, 12, 13, 14])]

/-- The slots that are known all the way. -/
structure FitFr (g pg : Nat) (a : Act) : Prop where
  size : a.tmps.size = 80
  defers : a.defers = []
  s0 : Chain.At a 0 (ptr g)
  s1 : Chain.At a 1 (undef)
  s2 : Chain.At a 2 (ptr pg)
theorem FitFr.next {g pg : Nat} {a a' : Act} {d : Nat} {v : Value} (F : FitFr g pg a) (nx : Chain.Next a a' d v) (h : d ≠ 0 ∧ d ≠ 1 ∧ d ≠ 2) : FitFr g pg a' := ⟨nx.size.trans F.size, nx.defers.trans F.defers, nx.keep 0 _ h.1 F.s0, nx.keep 1 _ h.2.1 F.s1, nx.keep 2 _ h.2.2 F.s2⟩
theorem FitFr.lt {g pg : Nat} {a : Act} {d : Nat} (F : FitFr g pg a) (h : d < 80) : d < a.tmps.size := by rw [F.size]; exact h

set_option maxRecDepth 100000 in
theorem fit_two {ops : Array Oper} {Q : Exit → Act → World → Prop} (R : Ord.Reg ops fitL) (hQ : ∀ c a w d v, Q (.panic c) (Act.put a (some d) v) w → Q (.panic c) a w) {w1 : World} {g pg lim m b1 len k : Nat}
    (c1 : w1.cell? ⟨g, 1, none⟩ = some (.int .i64 (lim : Int))) (c2 : w1.cell? ⟨g, 2, none⟩ = some (.int .i64 (m : Int))) (hsub : IntKind.i64.wrap ((m : Int) - (lim : Int)) = (m : Int) - (lim : Int)) (hmin : min (len : Int) ((m : Int) - (lim : Int)) = (k : Int))
    (BW : Calls Tryd.prog 38 #[ptr pg] w1 fun e w' => e = .returned (.int .i64 (b1 : Int)) ∧ w1 = w') (LW : Calls Tryd.prog 37 #[ptr pg] w1 fun e w' => e = .returned (.int .i64 (len : Int)) ∧ w1 = w')
    (a : Act) (F : FitFr g pg a) (h : ∀ a, FitFr g pg a → Chain.At a 3 (.int .i64 (b1 : Int)) → Chain.At a 4 (.int .i64 (k : Int)) → Q .normal a w1) :
    wpAnyH Tryd.prog .any ops Q (fun w' => w' = w1) 16 (List.replicate 16 false).toArray a w1 := by
  have hS : w1 = w1 := rfl
  refine Ord.take R (k := 0) (v := ptr pg) (bs' := (Ord.upto 1 16)) rfl (by kernel_rfl) hQ trivial hS (fun w _ hS => Chain.ev_move F.s2.ev) (F.lt (by decide)) fun a0 N => ?_
  replace F := F.next N (by decide)
  have f20 := N.got
  clear N a
  refine Ord.take R (k := 2) (v := ptr pg) (bs' := [true, false, true, false, false, false, false, false, false, false, false, false, false, false, false, false]) rfl (by kernel_rfl) hQ trivial hS (fun w _ hS => Chain.ev_move F.s2.ev) (F.lt (by decide)) fun a2 N => ?_
  replace F := F.next N (by decide)
  replace f20 := N.keep 20 _ (by decide) f20
  have f22 := N.got
  clear N a0
  refine Ord.take R (k := 4) (v := ptr g) (bs' := [true, false, true, false, true, false, false, false, false, false, false, false, false, false, false, false]) rfl (by kernel_rfl) hQ trivial hS (fun w _ hS => Chain.ev_move F.s0.ev) (F.lt (by decide)) fun a4 N => ?_
  replace F := F.next N (by decide)
  replace f20 := N.keep 20 _ (by decide) f20
  replace f22 := N.keep 22 _ (by decide) f22
  have f24 := N.got
  clear N a2
  refine Ord.take R (k := 5) (v := .pointer (some ⟨g, 0, none⟩)) (bs' := [true, false, true, false, true, true, false, false, false, false, false, false, false, false, false, false]) rfl (by kernel_rfl) hQ trivial hS (fun w _ hS => by have e24 := f24; unfold Chain.At at e24; clear F; go_simp) (F.lt (by decide)) fun a5 N => ?_
  replace F := F.next N (by decide)
  replace f20 := N.keep 20 _ (by decide) f20
  replace f22 := N.keep 22 _ (by decide) f22
  clear f24
  have f25 := N.got
  clear N a4
  refine Ord.take R (k := 6) (v := .pointer (some ⟨g, 2, none⟩)) (bs' := [true, false, true, false, true, true, true, false, false, false, false, false, false, false, false, false]) rfl (by kernel_rfl) hQ trivial hS (fun w _ hS => by have e25 := f25; unfold Chain.At at e25; clear F; go_simp) (F.lt (by decide)) fun a6 N => ?_
  replace F := F.next N (by decide)
  replace f20 := N.keep 20 _ (by decide) f20
  replace f22 := N.keep 22 _ (by decide) f22
  clear f25
  have f26 := N.got
  clear N a5
  refine Ord.take R (k := 7) (v := .int .i64 (m : Int)) (bs' := [true, false, true, false, true, true, true, true, false, false, false, false, false, false, false, false]) rfl (by kernel_rfl) hQ trivial hS (fun w _ hS => by have e26 := f26; unfold Chain.At at e26; have q0 := show w.cell? ⟨g, 2, none⟩ = some (.int .i64 (m : Int)) from (by rw [hS]; exact c2); clear F; go_simp) (F.lt (by decide)) fun a7 N => ?_
  replace F := F.next N (by decide)
  replace f20 := N.keep 20 _ (by decide) f20
  replace f22 := N.keep 22 _ (by decide) f22
  clear f26
  have f27 := N.got
  clear N a6
  refine Ord.take R (k := 8) (v := ptr g) (bs' := [true, false, true, false, true, true, true, true, true, false, false, false, false, false, false, false]) rfl (by kernel_rfl) hQ trivial hS (fun w _ hS => Chain.ev_move F.s0.ev) (F.lt (by decide)) fun a8 N => ?_
  replace F := F.next N (by decide)
  replace f20 := N.keep 20 _ (by decide) f20
  replace f22 := N.keep 22 _ (by decide) f22
  replace f27 := N.keep 27 _ (by decide) f27
  have f28 := N.got
  clear N a7
  refine Ord.take R (k := 9) (v := .pointer (some ⟨g, 0, none⟩)) (bs' := [true, false, true, false, true, true, true, true, true, true, false, false, false, false, false, false]) rfl (by kernel_rfl) hQ trivial hS (fun w _ hS => by have e28 := f28; unfold Chain.At at e28; clear F; go_simp) (F.lt (by decide)) fun a9 N => ?_
  replace F := F.next N (by decide)
  replace f20 := N.keep 20 _ (by decide) f20
  replace f22 := N.keep 22 _ (by decide) f22
  replace f27 := N.keep 27 _ (by decide) f27
  clear f28
  have f29 := N.got
  clear N a8
  refine Ord.take R (k := 10) (v := .pointer (some ⟨g, 1, none⟩)) (bs' := [true, false, true, false, true, true, true, true, true, true, true, false, false, false, false, false]) rfl (by kernel_rfl) hQ trivial hS (fun w _ hS => by have e29 := f29; unfold Chain.At at e29; clear F; go_simp) (F.lt (by decide)) fun a10 N => ?_
  replace F := F.next N (by decide)
  replace f20 := N.keep 20 _ (by decide) f20
  replace f22 := N.keep 22 _ (by decide) f22
  replace f27 := N.keep 27 _ (by decide) f27
  clear f29
  have f30 := N.got
  clear N a9
  refine Ord.take R (k := 11) (v := .int .i64 (lim : Int)) (bs' := [true, false, true, false, true, true, true, true, true, true, true, true, false, false, false, false]) rfl (by kernel_rfl) hQ trivial hS (fun w _ hS => by have e30 := f30; unfold Chain.At at e30; have q0 := show w.cell? ⟨g, 1, none⟩ = some (.int .i64 (lim : Int)) from (by rw [hS]; exact c1); clear F; go_simp) (F.lt (by decide)) fun a11 N => ?_
  replace F := F.next N (by decide)
  replace f20 := N.keep 20 _ (by decide) f20
  replace f22 := N.keep 22 _ (by decide) f22
  replace f27 := N.keep 27 _ (by decide) f27
  clear f30
  have f31 := N.got
  clear N a10
  refine Ord.take R (k := 12) (v := .int .i64 ((m : Int) - (lim : Int))) (bs' := [true, false, true, false, true, true, true, true, true, true, true, true, true, false, false, false]) rfl (by kernel_rfl) hQ trivial hS (fun w _ hS => by have e27 := f27; unfold Chain.At at e27; have e31 := f31; unfold Chain.At at e31; have q0 := hsub; clear F; go_simp) (F.lt (by decide)) fun a12 N => ?_
  replace F := F.next N (by decide)
  replace f20 := N.keep 20 _ (by decide) f20
  replace f22 := N.keep 22 _ (by decide) f22
  clear f27
  clear f31
  have f32 := N.got
  clear N a11
  refine Ord.call R (k := 1) (args := #[ptr pg]) (bs' := [true, true, true, false, true, true, true, true, true, true, true, true, true, false, false, false]) rfl (by kernel_rfl) trivial (by simp [f20.ev]) (by kernel_rfl) (BW) (F.lt (by decide)) ?_
  rintro e w ⟨rfl, rfl⟩
  replace hS := (rfl : w1 = w1)
  refine ⟨_, rfl, hS, fun a1 N => ?_⟩
  replace F := F.next N (by decide)
  clear f20
  replace f22 := N.keep 22 _ (by decide) f22
  replace f32 := N.keep 32 _ (by decide) f32
  have f21 := N.got
  clear N a12
  refine Ord.call R (k := 3) (args := #[ptr pg]) (bs' := (Ord.upto 13 16)) rfl (by kernel_rfl) trivial (by simp [f22.ev]) (by kernel_rfl) (LW) (F.lt (by decide)) ?_
  rintro e w ⟨rfl, rfl⟩
  replace hS := (rfl : w1 = w1)
  refine ⟨_, rfl, hS, fun a3 N => ?_⟩
  replace F := F.next N (by decide)
  replace f21 := N.keep 21 _ (by decide) f21
  clear f22
  replace f32 := N.keep 32 _ (by decide) f32
  have f23 := N.got
  clear N a1
  refine Ord.take R (k := 13) (v := .int .i64 (k : Int)) (bs' := (Ord.upto 14 16)) rfl (by kernel_rfl) hQ trivial hS (fun w _ hS => by have e23 := f23; unfold Chain.At at e23; have e32 := f32; unfold Chain.At at e32; have q0 := hmin; clear F; go_simp) (F.lt (by decide)) fun a13 N => ?_
  replace F := F.next N (by decide)
  replace f21 := N.keep 21 _ (by decide) f21
  clear f23
  clear f32
  have f33 := N.got
  clear N a3
  refine Ord.take R (k := 14) (v := .int .i64 (b1 : Int)) (bs' := (Ord.upto 15 16)) rfl (by kernel_rfl) hQ trivial hS (fun w _ hS => Chain.ev_assign f21.ev) (F.lt (by decide)) fun a14 N => ?_
  replace F := F.next N (by decide)
  clear f21
  replace f33 := N.keep 33 _ (by decide) f33
  have f3 := N.got
  clear N a13
  refine Ord.take R (k := 15) (v := .int .i64 (k : Int)) (bs' := (Ord.upto 16 16)) rfl (by kernel_rfl) hQ trivial hS (fun w _ hS => Chain.ev_assign f33.ev) (F.lt (by decide)) fun a15 N => ?_
  replace F := F.next N (by decide)
  replace f3 := N.keep 3 _ (by decide) f3
  clear f33
  have f4 := N.got
  clear N a14
  exact Ord.finish R (by kernel_rfl) (h _ F f3 f4)

set_option maxRecDepth 100000 in
/-- The frame written out, its known slots in their places. -/
theorem fit_frame {a : Act} {w : World} {K : Act → World → Prop} {v0 v1 v2 v3 v4 : Value} (hz : a.tmps.size = 80) (hd : a.defers = []) (f0 : Chain.At a 0 v0) (f1 : Chain.At a 1 v1) (f2 : Chain.At a 2 v2) (f3 : Chain.At a 3 v3) (f4 : Chain.At a 4 v4)
    (h : ∀ u5 u6 u7 u8 u9 u10 u11 u12 u13 u14 u15 u16 u17 u18 u19 u20 u21 u22 u23 u24 u25 u26 u27 u28 u29 u30 u31 u32 u33 u34 u35 u36 u37 u38 u39 u40 u41 u42 u43 u44 u45 u46 u47 u48 u49 u50 u51 u52 u53 u54 u55 u56 u57 u58 u59 u60 u61 u62 u63 u64 u65 u66 u67 u68 u69 u70 u71 u72 u73 u74 u75 u76 u77 u78 u79 : Value, K ⟨#[v0, v1, v2, v3, v4, u5, u6, u7, u8, u9, u10, u11, u12, u13, u14, u15, u16, u17, u18, u19, u20, u21, u22, u23, u24, u25, u26, u27, u28, u29, u30, u31, u32, u33, u34, u35, u36, u37, u38, u39, u40, u41, u42, u43, u44, u45, u46, u47, u48, u49, u50, u51, u52, u53, u54, u55, u56, u57, u58, u59, u60, u61, u62, u63, u64, u65, u66, u67, u68, u69, u70, u71, u72, u73, u74, u75, u76, u77, u78, u79], []⟩ w) : K a w := by
  have e := Ord.frame_out hz hd
  have r : (List.range 80).map (fun i => a.tmps.toList.getD i undef) = [a.tmps.toList.getD 0 undef, a.tmps.toList.getD 1 undef, a.tmps.toList.getD 2 undef, a.tmps.toList.getD 3 undef, a.tmps.toList.getD 4 undef, a.tmps.toList.getD 5 undef, a.tmps.toList.getD 6 undef, a.tmps.toList.getD 7 undef, a.tmps.toList.getD 8 undef, a.tmps.toList.getD 9 undef, a.tmps.toList.getD 10 undef, a.tmps.toList.getD 11 undef, a.tmps.toList.getD 12 undef, a.tmps.toList.getD 13 undef, a.tmps.toList.getD 14 undef, a.tmps.toList.getD 15 undef, a.tmps.toList.getD 16 undef, a.tmps.toList.getD 17 undef, a.tmps.toList.getD 18 undef, a.tmps.toList.getD 19 undef, a.tmps.toList.getD 20 undef, a.tmps.toList.getD 21 undef, a.tmps.toList.getD 22 undef, a.tmps.toList.getD 23 undef, a.tmps.toList.getD 24 undef, a.tmps.toList.getD 25 undef, a.tmps.toList.getD 26 undef, a.tmps.toList.getD 27 undef, a.tmps.toList.getD 28 undef, a.tmps.toList.getD 29 undef, a.tmps.toList.getD 30 undef, a.tmps.toList.getD 31 undef, a.tmps.toList.getD 32 undef, a.tmps.toList.getD 33 undef, a.tmps.toList.getD 34 undef, a.tmps.toList.getD 35 undef, a.tmps.toList.getD 36 undef, a.tmps.toList.getD 37 undef, a.tmps.toList.getD 38 undef, a.tmps.toList.getD 39 undef, a.tmps.toList.getD 40 undef, a.tmps.toList.getD 41 undef, a.tmps.toList.getD 42 undef, a.tmps.toList.getD 43 undef, a.tmps.toList.getD 44 undef, a.tmps.toList.getD 45 undef, a.tmps.toList.getD 46 undef, a.tmps.toList.getD 47 undef, a.tmps.toList.getD 48 undef, a.tmps.toList.getD 49 undef, a.tmps.toList.getD 50 undef, a.tmps.toList.getD 51 undef, a.tmps.toList.getD 52 undef, a.tmps.toList.getD 53 undef, a.tmps.toList.getD 54 undef, a.tmps.toList.getD 55 undef, a.tmps.toList.getD 56 undef, a.tmps.toList.getD 57 undef, a.tmps.toList.getD 58 undef, a.tmps.toList.getD 59 undef, a.tmps.toList.getD 60 undef, a.tmps.toList.getD 61 undef, a.tmps.toList.getD 62 undef, a.tmps.toList.getD 63 undef, a.tmps.toList.getD 64 undef, a.tmps.toList.getD 65 undef, a.tmps.toList.getD 66 undef, a.tmps.toList.getD 67 undef, a.tmps.toList.getD 68 undef, a.tmps.toList.getD 69 undef, a.tmps.toList.getD 70 undef, a.tmps.toList.getD 71 undef, a.tmps.toList.getD 72 undef, a.tmps.toList.getD 73 undef, a.tmps.toList.getD 74 undef, a.tmps.toList.getD 75 undef, a.tmps.toList.getD 76 undef, a.tmps.toList.getD 77 undef, a.tmps.toList.getD 78 undef, a.tmps.toList.getD 79 undef] := rfl
  rw [r, Ord.at_get f0, Ord.at_get f1, Ord.at_get f2, Ord.at_get f3, Ord.at_get f4] at e
  rw [e]
  exact h _ _ _ _ _ _ _ _ _ _ _ _ _ _ _ _ _ _ _ _ _ _ _ _ _ _ _ _ _ _ _ _ _ _ _ _ _ _ _ _ _ _ _ _ _ _ _ _ _ _ _ _ _ _ _ _ _ _ _ _ _ _ _ _ _ _ _ _ _ _ _ _ _ _ _

end Go.Proofs.YtalhlgiklochdaaDoor
