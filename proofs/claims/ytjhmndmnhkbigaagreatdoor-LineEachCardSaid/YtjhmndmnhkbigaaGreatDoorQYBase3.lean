/-
  The reference's Join: a row's signs are put behind the line that goes on, step by step. A region that draws its order, gone through once, in every world of a class: what it reads stays there, and what it calls may make memory. The reference's Width answers what width.Of answers, for every sign.
-/
import Derived.Test.YtjhmndmnhkbigaaGreatDoorQYLine2
import Derived.Test.YtjhmndmnhkbigaaGreatDoorQYBase1
import Derived.BigQuiet
import Derived.Test.YtjhmndmnhkbigaaGreatDoorQYBase0
import Derived.Outline
namespace Go.Proofs.YtjhmndmnhkbigaaGreatDoor
open Go.ChangeShapes Go.WideShapes Go.ChangeAt Go.RowKit
namespace Ln
open Rw
def jrL : List Ord.Line := [
 (some 29, Go.Op.move (Go.Operand.tmp 3), none, []),
 (some 30, Go.Op.move (Go.Operand.tmp 4), none, []),
 (some 31, Go.Op.move (Go.Operand.tmp 6), none, []),
 (some 32, Go.Op.indexAddr 71 (Go.Operand.tmp 30) (Go.Operand.tmp 31), none, [1, 2]),
 (some 33, Go.Op.load 3 (Go.Operand.tmp 32), none, [3]),
 (some 34, Go.Op.move (Go.Operand.tmp 3), none, []),
 (some 35, Go.Op.move (Go.Operand.tmp 4), none, []),
 (some 36, Go.Op.move (Go.Operand.tmp 6), none, []),
 (some 37, Go.Op.indexAddr 71 (Go.Operand.tmp 35) (Go.Operand.tmp 36), none, [6, 7]),
 (some 38, Go.Op.load 3 (Go.Operand.tmp 37), none, [8]),
 (some 39, Go.Op.indexAddr 23 (Go.Operand.tmp 34) (Go.Operand.tmp 38), none, [5, 9]),
 (some 40, Go.Op.load 41 (Go.Operand.tmp 39), none, [10]),
 (some 41, Go.Op.move (Go.Operand.tmp 0), none, []),
 (some 42, Go.Op.move (Go.Operand.tmp 6), none, []),
 (some 43, Go.Op.indexAddr 22 (Go.Operand.tmp 41) (Go.Operand.tmp 42), none, [12, 13]),
 (some 44, Go.Op.load 48 (Go.Operand.tmp 43), none, [14]),
 (some 45, Go.Op.call { callee := Go.Callee.value (Go.Operand.func 43), args := #[Go.Operand.tmp 44], argTypes := #[48] }, none, [15]),
 (some 46, Go.Op.call { callee := Go.Callee.builtin Go.Builtin.append, args := #[Go.Operand.tmp 40, Go.Operand.tmp 45], argTypes := #[41, 41] }, none, [11, 16, 16]),
 (some 47, Go.Op.indexAddr 23 (Go.Operand.tmp 29) (Go.Operand.tmp 33), none, [0, 4, 0, 1, 2, 3, 4, 5, 6, 7, 8, 9, 10, 11, 12, 13, 14, 15, 16, 17]),
 (none, Go.Op.store 41 (Go.Operand.tmp 47) (Go.Operand.tmp 46), none, [18, 17, 17, 0, 1, 2, 3, 4, 5, 6, 7, 8, 9, 10, 11, 12, 13, 14, 15, 16, 17])]
structure JrFr (b0 o0 n c go p d3 g4 d4 k : Nat) (a0 a : Act) : Prop where
 size : a.tmps.size = 63
 s0 : Chain.At a 0 (.slice (some ⟨b0, o0, none⟩) n c)
 s3 : Chain.At a 3 (.slice (some ⟨go, 0, none⟩) p d3)
 s4 : Chain.At a 4 (.slice (some ⟨g4, 0, none⟩) n d4)
 s6 : Chain.At a 6 (.int .i64 (k : Int))
 fr : Fr 29 47 a0 a
theorem JrFr.next {b0 o0 n c go p d3 g4 d4 k : Nat} {a0 a a' : Act} {d : Nat} {v : Value} (F : JrFr b0 o0 n c go p d3 g4 d4 k a0 a) (nx : Chain.Next a a' d v) (h : 29 ≤ d ∧ d ≤ 47) : JrFr b0 o0 n c go p d3 g4 d4 k a0 a' := ⟨nx.size.trans F.size, nx.keep 0 _ (by omega) F.s0, nx.keep 3 _ (by omega) F.s3, nx.keep 4 _ (by omega) F.s4, nx.keep 6 _ (by omega) F.s6, F.fr.next nx h⟩
theorem JrFr.lt {b0 o0 n c go p d3 g4 d4 k : Nat} {a0 a : Act} {d : Nat} (F : JrFr b0 o0 n c go p d3 g4 d4 k a0 a) (h : d < 63) : d < a.tmps.size := by rw [F.size]; exact h
set_option maxRecDepth 100000 in
set_option maxHeartbeats 3200000 in
theorem jr_region {ops : Array Oper} {Q : Exit → Act → World → Prop} (R : Ord.Reg ops jrL) (hQ : ∀ c a w d v, Q (.panic c) (Act.put a (some d) v) w → Q (.panic c) a w) {w1 : World} {Rd : World → Prop} {b0 o0 n c go p d3 g4 d4 k E nx cX rn rc sL B : Nat} {AX rA : Option Addr} {rb : Bool} {xs news : List Value} {P1 : World → Option Addr → Nat → Prop} {i0 : TypeInfo}
  (hi : Tryz.prog.info? 52 = some i0) (hz0 : i0.zero = some (.agg #[.int .i32 0, .int .i64 0, .int .i64 0])) (hz1 : i0.size = 3) (hz2 : i0.bytes = 24)
  (hk0 : (0 : Int) ≤ (k : Int)) (hkn : (k : Int) < (n : Int)) (hE0 : (0 : Int) ≤ (E : Int)) (hEp : (E : Int) < (p : Int))
  (k0 : ∀ w : World, Rd w → w.cell? ⟨g4, k, none⟩ = some (.int .i64 (E : Int))) (kx : w1.cell? ⟨go, E, none⟩ = some (.slice AX nx cX)) (ka : ∀ w : World, Rd w → w.cell? ⟨b0, o0 + k * 2, none⟩ = some (.slice rA rn rc)) (kb : ∀ w : World, Rd w → w.cell? ⟨b0, o0 + k * 2 + 1, none⟩ = some (.bool rb))
  (C1 : Calls Tryz.prog 43 #[.agg #[.slice rA rn rc, .bool rb]] w1 fun e w' => ∃ A6 c6, e = .returned (.slice A6 sL c6) ∧ P1 w' A6 c6)
  (KS1 : ∀ w A6 c6, P1 w A6 c6 → Rd w) (X1 : ∀ w A6 c6, P1 w A6 c6 → w.ownsRow B 52 3 (.slice AX nx cX) nx xs ∧ Sq w w.heap.size 3 sL A6 news ∧ B ≤ w.heap.size) (KX : ∀ w A6 c6, P1 w A6 c6 → w.cell? ⟨go, E, none⟩ = some (.slice AX nx cX)) (KA : ∀ w A6 c6 w', P1 w A6 c6 → w.grownBy w' (Value.slice AX nx cX).ownBlock → Rd w' ∧ (∃ x, w'.cell? ⟨go, E, none⟩ = some x) ∧ w'.frozen? ⟨go, E, none⟩ = false) (ks : ∀ (w : World) (v : Value), Rd w → Rd (w.setCell ⟨go, E, none⟩ v))
  (h1 : ∀ u ∈ news, u.oneCell' = true) (hm : nx + sL ≤ maxLen) (hm2 : (nx + sL) * 24 ≤ 140737488355328) (hS : Rd w1)
  (a0 a : Act) (F : JrFr b0 o0 n c go p d3 g4 d4 k a0 a) (h : ∀ a w A6 c6 w4 A4 c4, P1 w A6 c6 → w4.ownsRow B 52 3 (.slice A4 (nx + sL) c4) (nx + sL) (xs ++ news) → w.grownBy w4 (Value.slice AX nx cX).ownBlock → ((Value.slice A4 (nx + sL) c4).ownBlock = (Value.slice AX nx cX).ownBlock ∨ (Value.slice A4 (nx + sL) c4).ownBlock = some w.heap.size) → JrFr b0 o0 n c go p d3 g4 d4 k a0 a → Q .normal a (w4.setCell ⟨go, E, none⟩ (.slice A4 (nx + sL) c4))) :
  wpAnyH Tryz.prog .any ops Q (fun w => Rd w) 20 (List.replicate 20 false).toArray a w1 := by
 have hld : ∀ (w : World) (a : Act), w.cell? ⟨go, E, none⟩ = some (.slice AX nx cX) → Chain.At a 39 (.pointer (some ⟨go, E, none⟩)) → ∀ ty, (execOp a.eval ⟨some 40, .load 41 (.tmp 39), ty, "", #[], none⟩).run Tryz.prog w = .ok (.value (.slice AX nx cX)) w := fun w a q f ty => by
  have e := f
  unfold Chain.At at e
  go_simp
 have tail : ∀ (a : Act) (w : World) (A6 : Option Addr) (c6 : Nat), P1 w A6 c6 → JrFr b0 o0 n c go p d3 g4 d4 k a0 a → Chain.At a 29 (.slice (some ⟨go, 0, none⟩) p d3) → Chain.At a 33 (.int .i64 (E : Int)) → Chain.At a 40 (.slice AX nx cX) → Chain.At a 45 (.slice A6 sL c6) → wpAnyH Tryz.prog .any ops Q (fun w => Rd w) 3 (Ord.upto 17 20).toArray a w := by
  intro a w A6 c6 K1 F f29 f33 f40 f45
  refine Ord.append R (k := 17) (.tmp 40) (.tmp 45) 41 (bs' := (Ord.upto 18 20)) rfl (by kernel_rfl) trivial (F.lt (by decide)) B 52 i0 (.agg #[.int .i32 0, .int .i64 0, .int .i64 0]) 3 24 Tryz.underlying41 hi hz0 hz1 hz2 rfl (by decide) (.slice AX nx cX) nx xs f40.ev (X1 _ _ _ K1).1 A6 sL c6 news f45.ev _ (X1 _ _ _ K1).2.1 h1 hm hm2 (X1 _ _ _ K1).2.2 ?_
  intro A4 c4 w4 hown hg hat
  obtain ⟨hR4, ⟨x4, hx4⟩, hf4⟩ := KA _ _ _ _ K1 hg
  refine ⟨hR4, fun a17 N => ?_⟩
  have F2 := F.next N (by decide)
  have g29 := N.keep 29 _ (by decide) f29
  have g33 := N.keep 33 _ (by decide) f33
  have g46 := N.got
  refine Ord.value R (k := 18) (v := .pointer (some ⟨go, E, none⟩)) (bs' := (Ord.upto 19 20)) rfl (by kernel_rfl) trivial hR4 (fun ty => by have e1 := g29; have e2 := g33; unfold Chain.At at e1 e2; have q0 := hE0; have q1 := hEp; clear F F2; go_simp) (F2.lt (by decide)) fun a18 N2 => ?_
  have F3 := F2.next N2 (by decide)
  have k46 := N2.keep 46 _ (by decide) g46
  have k47 := N2.got
  refine Ord.effect R (k := 19) (bs' := (Ord.upto 20 20)) rfl (by kernel_rfl) trivial (ks _ _ hR4) (w1 := w4.setCell ⟨go, E, none⟩ (.slice A4 (nx + sL) c4)) (fun ty => ?_) ?_
  ·have q0 := hx4
   have q1 := hf4
   have e1 := k46
   have e2 := k47
   unfold Chain.At at e1 e2
   clear F F2 F3
   go_simp
  ·exact Ord.finish R (by kernel_rfl) (h _ _ _ _ _ _ _ K1 hown hg hat F3)
 refine Ord.take R (k := 0) (v := .slice (some ⟨go, 0, none⟩) p d3) (bs' := (Ord.upto 1 20)) rfl (by kernel_rfl) hQ trivial hS (fun w _ hS => Chain.ev_move F.s3.ev) (F.lt (by decide)) fun a0 N => ?_
 replace F := F.next N (by decide)
 have f29 := N.got
 clear N a
 refine Ord.take R (k := 1) (v := .slice (some ⟨g4, 0, none⟩) n d4) (bs' := (Ord.upto 2 20)) rfl (by kernel_rfl) hQ trivial hS (fun w _ hS => Chain.ev_move F.s4.ev) (F.lt (by decide)) fun a1 N => ?_
 replace F := F.next N (by decide)
 replace f29 := N.keep 29 _ (by decide) f29
 have f30 := N.got
 clear N a0
 refine Ord.take R (k := 2) (v := .int .i64 (k : Int)) (bs' := (Ord.upto 3 20)) rfl (by kernel_rfl) hQ trivial hS (fun w _ hS => Chain.ev_move F.s6.ev) (F.lt (by decide)) fun a2 N => ?_
 replace F := F.next N (by decide)
 replace f29 := N.keep 29 _ (by decide) f29
 replace f30 := N.keep 30 _ (by decide) f30
 have f31 := N.got
 clear N a1
 refine Ord.take R (k := 3) (v := .pointer (some ⟨g4, k, none⟩)) (bs' := (Ord.upto 4 20)) rfl (by kernel_rfl) hQ trivial hS (fun w _ hS => by have e30 := f30; unfold Chain.At at e30; have e31 := f31; unfold Chain.At at e31; have q0 := hk0; have q1 := hkn; clear F; go_simp) (F.lt (by decide)) fun a3 N => ?_
 replace F := F.next N (by decide)
 replace f29 := N.keep 29 _ (by decide) f29
 clear f30
 clear f31
 have f32 := N.got
 clear N a2
 refine Ord.take R (k := 4) (v := .int .i64 (E : Int)) (bs' := (Ord.upto 5 20)) rfl (by kernel_rfl) hQ trivial hS (fun w _ hS => by have e32 := f32; unfold Chain.At at e32; have q0 := (k0 w hS); clear F; go_simp) (F.lt (by decide)) fun a4 N => ?_
 replace F := F.next N (by decide)
 replace f29 := N.keep 29 _ (by decide) f29
 clear f32
 have f33 := N.got
 clear N a3
 refine Ord.take R (k := 5) (v := .slice (some ⟨go, 0, none⟩) p d3) (bs' := (Ord.upto 6 20)) rfl (by kernel_rfl) hQ trivial hS (fun w _ hS => Chain.ev_move F.s3.ev) (F.lt (by decide)) fun a5 N => ?_
 replace F := F.next N (by decide)
 replace f29 := N.keep 29 _ (by decide) f29
 replace f33 := N.keep 33 _ (by decide) f33
 have f34 := N.got
 clear N a4
 refine Ord.take R (k := 6) (v := .slice (some ⟨g4, 0, none⟩) n d4) (bs' := (Ord.upto 7 20)) rfl (by kernel_rfl) hQ trivial hS (fun w _ hS => Chain.ev_move F.s4.ev) (F.lt (by decide)) fun a6 N => ?_
 replace F := F.next N (by decide)
 replace f29 := N.keep 29 _ (by decide) f29
 replace f33 := N.keep 33 _ (by decide) f33
 replace f34 := N.keep 34 _ (by decide) f34
 have f35 := N.got
 clear N a5
 refine Ord.take R (k := 7) (v := .int .i64 (k : Int)) (bs' := (Ord.upto 8 20)) rfl (by kernel_rfl) hQ trivial hS (fun w _ hS => Chain.ev_move F.s6.ev) (F.lt (by decide)) fun a7 N => ?_
 replace F := F.next N (by decide)
 replace f29 := N.keep 29 _ (by decide) f29
 replace f33 := N.keep 33 _ (by decide) f33
 replace f34 := N.keep 34 _ (by decide) f34
 replace f35 := N.keep 35 _ (by decide) f35
 have f36 := N.got
 clear N a6
 refine Ord.take R (k := 8) (v := .pointer (some ⟨g4, k, none⟩)) (bs' := (Ord.upto 9 20)) rfl (by kernel_rfl) hQ trivial hS (fun w _ hS => by have e35 := f35; unfold Chain.At at e35; have e36 := f36; unfold Chain.At at e36; have q0 := hk0; have q1 := hkn; clear F; go_simp) (F.lt (by decide)) fun a8 N => ?_
 replace F := F.next N (by decide)
 replace f29 := N.keep 29 _ (by decide) f29
 replace f33 := N.keep 33 _ (by decide) f33
 replace f34 := N.keep 34 _ (by decide) f34
 clear f35
 clear f36
 have f37 := N.got
 clear N a7
 refine Ord.take R (k := 9) (v := .int .i64 (E : Int)) (bs' := (Ord.upto 10 20)) rfl (by kernel_rfl) hQ trivial hS (fun w _ hS => by have e37 := f37; unfold Chain.At at e37; have q0 := (k0 w hS); clear F; go_simp) (F.lt (by decide)) fun a9 N => ?_
 replace F := F.next N (by decide)
 replace f29 := N.keep 29 _ (by decide) f29
 replace f33 := N.keep 33 _ (by decide) f33
 replace f34 := N.keep 34 _ (by decide) f34
 clear f37
 have f38 := N.got
 clear N a8
 refine Ord.take R (k := 10) (v := .pointer (some ⟨go, E, none⟩)) (bs' := (Ord.upto 11 20)) rfl (by kernel_rfl) hQ trivial hS (fun w _ hS => by have e34 := f34; unfold Chain.At at e34; have e38 := f38; unfold Chain.At at e38; have q0 := hE0; have q1 := hEp; clear F; go_simp) (F.lt (by decide)) fun a10 N => ?_
 replace F := F.next N (by decide)
 replace f29 := N.keep 29 _ (by decide) f29
 replace f33 := N.keep 33 _ (by decide) f33
 clear f34
 clear f38
 have f39 := N.got
 clear N a9
 refine Ord.take R (k := 12) (v := .slice (some ⟨b0, o0, none⟩) n c) (bs' := [true, true, true, true, true, true, true, true, true, true, true, false, true, false, false, false, false, false, false, false]) rfl (by kernel_rfl) hQ trivial hS (fun w _ hS => Chain.ev_move F.s0.ev) (F.lt (by decide)) fun a12 N => ?_
 replace F := F.next N (by decide)
 replace f29 := N.keep 29 _ (by decide) f29
 replace f33 := N.keep 33 _ (by decide) f33
 replace f39 := N.keep 39 _ (by decide) f39
 have f41 := N.got
 clear N a10
 refine Ord.take R (k := 13) (v := .int .i64 (k : Int)) (bs' := [true, true, true, true, true, true, true, true, true, true, true, false, true, true, false, false, false, false, false, false]) rfl (by kernel_rfl) hQ trivial hS (fun w _ hS => Chain.ev_move F.s6.ev) (F.lt (by decide)) fun a13 N => ?_
 replace F := F.next N (by decide)
 replace f29 := N.keep 29 _ (by decide) f29
 replace f33 := N.keep 33 _ (by decide) f33
 replace f39 := N.keep 39 _ (by decide) f39
 replace f41 := N.keep 41 _ (by decide) f41
 have f42 := N.got
 clear N a12
 refine Ord.take R (k := 14) (v := .pointer (some ⟨b0, o0 + k * 2, none⟩)) (bs' := [true, true, true, true, true, true, true, true, true, true, true, false, true, true, true, false, false, false, false, false]) rfl (by kernel_rfl) hQ trivial hS (fun w _ hS => by have e41 := f41; unfold Chain.At at e41; have e42 := f42; unfold Chain.At at e42; have q0 := hk0; have q1 := hkn; clear F; go_simp) (F.lt (by decide)) fun a14 N => ?_
 replace F := F.next N (by decide)
 replace f29 := N.keep 29 _ (by decide) f29
 replace f33 := N.keep 33 _ (by decide) f33
 replace f39 := N.keep 39 _ (by decide) f39
 clear f41
 clear f42
 have f43 := N.got
 clear N a13
 refine Ord.take R (k := 15) (v := .agg #[.slice rA rn rc, .bool rb]) (bs' := [true, true, true, true, true, true, true, true, true, true, true, false, true, true, true, true, false, false, false, false]) rfl (by kernel_rfl) hQ trivial hS (fun w _ hS => by have e43 := f43; unfold Chain.At at e43; have q0 := (ka w hS); have q1 := (kb w hS); clear F; go_simp) (F.lt (by decide)) fun a15 N => ?_
 replace F := F.next N (by decide)
 replace f29 := N.keep 29 _ (by decide) f29
 replace f33 := N.keep 33 _ (by decide) f33
 replace f39 := N.keep 39 _ (by decide) f39
 clear f43
 have f44 := N.got
 clear N a14
 refine Ord.either R (i := 11) (j := 16) (bs1 := [true, true, true, true, true, true, true, true, true, true, true, true, true, true, true, true, false, false, false, false]) (bs2 := [true, true, true, true, true, true, true, true, true, true, true, false, true, true, true, true, true, false, false, false]) (by kernel_rfl) ?_ ?_
 ·refine Ord.step_value R (k := 11) rfl trivial hS (hld w1 _ kx f39) (F.lt (by decide)) fun a16 N => ?_
  have G := F.next N (by decide)
  have g29 := N.keep 29 _ (by decide) f29
  have g33 := N.keep 33 _ (by decide) f33
  have g44 := N.keep 44 _ (by decide) f44
  have g40 := N.got
  refine Ord.call R (k := 16) (bs' := (Ord.upto 17 20)) (args := #[.agg #[.slice rA rn rc, .bool rb]]) rfl (by kernel_rfl) trivial (by simp [g44.ev]) (by kernel_rfl) C1 (G.lt (by decide)) ?_
  rintro e w ⟨A6, c6, rfl, K1⟩
  refine ⟨_, rfl, KS1 _ _ _ K1, fun a17 N2 => ?_⟩
  exact tail _ _ _ _ K1 (G.next N2 (by decide)) (N2.keep 29 _ (by decide) g29) (N2.keep 33 _ (by decide) g33) (N2.keep 40 _ (by decide) g40) N2.got
 ·refine Ord.step_call R (k := 16) (args := #[.agg #[.slice rA rn rc, .bool rb]]) rfl trivial (by simp [f44.ev]) (by kernel_rfl) C1 (F.lt (by decide)) ?_
  rintro e w ⟨A6, c6, rfl, K1⟩
  refine ⟨_, rfl, KS1 _ _ _ K1, fun a16 N => ?_⟩
  have G := F.next N (by decide)
  have g29 := N.keep 29 _ (by decide) f29
  have g33 := N.keep 33 _ (by decide) f33
  have g39 := N.keep 39 _ (by decide) f39
  have g45 := N.got
  refine Ord.value R (k := 11) (bs' := (Ord.upto 17 20)) rfl (by kernel_rfl) trivial (KS1 _ _ _ K1) (hld w _ (KX _ _ _ K1) g39) (G.lt (by decide)) fun a17 N2 => ?_
  exact tail _ _ _ _ K1 (G.next N2 (by decide)) (N2.keep 29 _ (by decide) g29) (N2.keep 33 _ (by decide) g33) N2.got (N2.keep 45 _ (by decide) g45)
end Ln
end Go.Proofs.YtjhmndmnhkbigaaGreatDoor
namespace Go.Proofs.YtjhmndmnhkbigaaGreatDoor
open Go.ChangeShapes Go.WideShapes Go.ChangeAt Go.RowKit
namespace Cls
theorem region {P : Program} {id : Nat} {Q : Exit → Act → World → Prop} {a : Act} {w : World} {l : List Oper} {I : Type} (F : I → World) (h0 : ∃ n, w.drew = F n) (hm : P.follows .mixedOrders = true) (hB : Region.lexB .any l.toArray = true)
  (h : wpQuiet P l.toArray (fun w' => ∃ n, w' = F n) (fun a' => ∀ w', (∃ n, w' = F n) → Q .normal a' w') l a) : (Code.region id l.toArray true).wp P Q a w :=
 wp_region_quiet (C := fun w' => ∃ n, w' = F n) hm hB h0 (by simpa using h)
theorem below (w : World) : ∃ (I : Type) (_ : Nonempty I) (F : I → World), (∃ n, w.drew = F n) ∧ (∀ n, Below w.heap.size w (F n)) ∧ ∀ n W, Below (F n).heap.size (F n) W → ∃ m, W = F m :=
 ⟨{ W : World // Below w.heap.size w W }, ⟨⟨w, Below.refl _ _⟩⟩, Subtype.val, ⟨⟨w.drew, (Below.refl _ _).drew⟩, rfl⟩, fun n => n.2, fun n W h => ⟨⟨W, n.2.trans (h.mono n.2.size)⟩, rfl⟩⟩
end Cls
end Go.Proofs.YtjhmndmnhkbigaaGreatDoor
namespace Go.Proofs.YtjhmndmnhkbigaaGreatDoor
open Go.ChangeShapes Go.WideShapes Go.ChangeAt Go.RowKit
def zeroRows : List (Int × Int) := [(-2147483648, 31), (127, 159), (768, 879), (8203, 8207), (65024, 65039), (1114112, 2147483647), (55296, 57343)]
def wideRows : List (Int × Int) := [(4352, 4447), (11904, 12350), (12353, 13311), (13312, 19903), (19968, 40959), (40960, 42191), (44032, 55203), (63744, 64255), (65072, 65135), (65280, 65376), (65504, 65510), (127744, 128591), (129280, 129535), (131072, 262141)]
def zLo (i : Nat) : Int := (zeroRows.getD i (0, 0)).1
def zHi (i : Nat) : Int := (zeroRows.getD i (0, 0)).2
def wLo (i : Nat) : Int := (wideRows.getD i (0, 0)).1
def wHi (i : Nat) : Int := (wideRows.getD i (0, 0)).2
def zeroCells : Array Value := #[.int .i32 (-2147483648), .int .i32 31, .int .i32 127, .int .i32 159, .int .i32 768, .int .i32 879, .int .i32 8203, .int .i32 8207, .int .i32 65024, .int .i32 65039, .int .i32 1114112, .int .i32 2147483647, .int .i32 55296, .int .i32 57343]
def wideCells : Array Value := #[.int .i32 4352, .int .i32 4447, .int .i32 11904, .int .i32 12350, .int .i32 12353, .int .i32 13311, .int .i32 13312, .int .i32 19903, .int .i32 19968, .int .i32 40959, .int .i32 40960, .int .i32 42191, .int .i32 44032, .int .i32 55203, .int .i32 63744, .int .i32 64255, .int .i32 65072, .int .i32 65135, .int .i32 65280, .int .i32 65376, .int .i32 65504, .int .i32 65510, .int .i32 127744, .int .i32 128591, .int .i32 129280, .int .i32 129535, .int .i32 131072, .int .i32 262141]
theorem wof_zero (r : Int) (i : Nat) (hi : i < 7) (h0 : zLo i ≤ r) (h1 : r ≤ zHi i) : wof r = 0 := by
 unfold wof
 match i, hi with
 | 0, _ => simp only [zLo, zHi, zeroRows, List.getD_cons_zero] at h0 h1; (repeat rw [if_neg (by omega)]); rw [if_pos (by omega)]
 | 1, _ => simp only [zLo, zHi, zeroRows, List.getD_cons_zero, List.getD_cons_succ] at h0 h1; (repeat rw [if_neg (by omega)]); rw [if_pos (by omega)]
 | 2, _ => simp only [zLo, zHi, zeroRows, List.getD_cons_zero, List.getD_cons_succ] at h0 h1; (repeat rw [if_neg (by omega)]); rw [if_pos (by omega)]
 | 3, _ => simp only [zLo, zHi, zeroRows, List.getD_cons_zero, List.getD_cons_succ] at h0 h1; (repeat rw [if_neg (by omega)]); rw [if_pos (by omega)]
 | 4, _ => simp only [zLo, zHi, zeroRows, List.getD_cons_zero, List.getD_cons_succ] at h0 h1; (repeat rw [if_neg (by omega)]); rw [if_pos (by omega)]
 | 5, _ => simp only [zLo, zHi, zeroRows, List.getD_cons_zero, List.getD_cons_succ] at h0 h1; (repeat rw [if_neg (by omega)]); rw [if_pos (by omega)]
 | 6, _ => simp only [zLo, zHi, zeroRows, List.getD_cons_zero, List.getD_cons_succ] at h0 h1; (repeat rw [if_neg (by omega)]); rw [if_pos (by omega)]
 | n + 7, h => omega
theorem wof_wide (r : Int) (i : Nat) (hi : i < 14) (h0 : wLo i ≤ r) (h1 : r ≤ wHi i) : wof r = 2 := by
 unfold wof
 match i, hi with
 | 0, _ => simp only [wLo, wHi, wideRows, List.getD_cons_zero] at h0 h1; (repeat rw [if_neg (by omega)]); rw [if_pos (by omega)]
 | 1, _ => simp only [wLo, wHi, wideRows, List.getD_cons_zero, List.getD_cons_succ] at h0 h1; (repeat rw [if_neg (by omega)]); rw [if_pos (by omega)]
 | 2, _ => simp only [wLo, wHi, wideRows, List.getD_cons_zero, List.getD_cons_succ] at h0 h1; (repeat rw [if_neg (by omega)]); rw [if_pos (by omega)]
 | 3, _ => simp only [wLo, wHi, wideRows, List.getD_cons_zero, List.getD_cons_succ] at h0 h1; (repeat rw [if_neg (by omega)]); rw [if_pos (by omega)]
 | 4, _ => simp only [wLo, wHi, wideRows, List.getD_cons_zero, List.getD_cons_succ] at h0 h1; (repeat rw [if_neg (by omega)]); rw [if_pos (by omega)]
 | 5, _ => simp only [wLo, wHi, wideRows, List.getD_cons_zero, List.getD_cons_succ] at h0 h1; (repeat rw [if_neg (by omega)]); rw [if_pos (by omega)]
 | 6, _ => simp only [wLo, wHi, wideRows, List.getD_cons_zero, List.getD_cons_succ] at h0 h1; (repeat rw [if_neg (by omega)]); rw [if_pos (by omega)]
 | 7, _ => simp only [wLo, wHi, wideRows, List.getD_cons_zero, List.getD_cons_succ] at h0 h1; (repeat rw [if_neg (by omega)]); rw [if_pos (by omega)]
 | 8, _ => simp only [wLo, wHi, wideRows, List.getD_cons_zero, List.getD_cons_succ] at h0 h1; (repeat rw [if_neg (by omega)]); rw [if_pos (by omega)]
 | 9, _ => simp only [wLo, wHi, wideRows, List.getD_cons_zero, List.getD_cons_succ] at h0 h1; (repeat rw [if_neg (by omega)]); rw [if_pos (by omega)]
 | 10, _ => simp only [wLo, wHi, wideRows, List.getD_cons_zero, List.getD_cons_succ] at h0 h1; (repeat rw [if_neg (by omega)]); rw [if_pos (by omega)]
 | 11, _ => simp only [wLo, wHi, wideRows, List.getD_cons_zero, List.getD_cons_succ] at h0 h1; (repeat rw [if_neg (by omega)]); rw [if_pos (by omega)]
 | 12, _ => simp only [wLo, wHi, wideRows, List.getD_cons_zero, List.getD_cons_succ] at h0 h1; (repeat rw [if_neg (by omega)]); rw [if_pos (by omega)]
 | 13, _ => simp only [wLo, wHi, wideRows, List.getD_cons_zero, List.getD_cons_succ] at h0 h1; (repeat rw [if_neg (by omega)]); rw [if_pos (by omega)]
 | n + 14, h => omega
theorem wof_none (r : Int) (hr0 : -2147483648 ≤ r) (hr1 : r ≤ 2147483647) (h : ∀ i, i < 7 → ¬ (zLo i ≤ r ∧ r ≤ zHi i)) (k : ∀ i, i < 14 → ¬ (wLo i ≤ r ∧ r ≤ wHi i)) : wof r = 1 := by
 have h0 := h 0 (by omega); have h1 := h 1 (by omega); have h2 := h 2 (by omega); have h3 := h 3 (by omega); have h4 := h 4 (by omega); have h5 := h 5 (by omega); have h6 := h 6 (by omega)
 have k0 := k 0 (by omega); have k1 := k 1 (by omega); have k2 := k 2 (by omega); have k3 := k 3 (by omega); have k4 := k 4 (by omega); have k5 := k 5 (by omega); have k6 := k 6 (by omega); have k7 := k 7 (by omega); have k8 := k 8 (by omega); have k9 := k 9 (by omega); have k10 := k 10 (by omega); have k11 := k 11 (by omega); have k12 := k 12 (by omega); have k13 := k 13 (by omega)
 simp only [zLo, zHi, wLo, wHi, zeroRows, wideRows, List.getD_cons_zero, List.getD_cons_succ] at h0 h1 h2 h3 h4 h5 h6 k0 k1 k2 k3 k4 k5 k6 k7 k8 k9 k10 k11 k12 k13
 unfold wof
 repeat rw [if_neg (by omega)]
theorem zero_cells (i : Nat) (hi : i < 7) : zeroCells[i * 2]? = some (.int .i32 (zLo i)) ∧ zeroCells[i * 2 + 1]? = some (.int .i32 (zHi i)) := by
 match i, hi with
 | 0, _ => exact ⟨rfl, rfl⟩
 | 1, _ => exact ⟨rfl, rfl⟩
 | 2, _ => exact ⟨rfl, rfl⟩
 | 3, _ => exact ⟨rfl, rfl⟩
 | 4, _ => exact ⟨rfl, rfl⟩
 | 5, _ => exact ⟨rfl, rfl⟩
 | 6, _ => exact ⟨rfl, rfl⟩
 | n + 7, h => omega
theorem wide_cells (i : Nat) (hi : i < 14) : wideCells[i * 2]? = some (.int .i32 (wLo i)) ∧ wideCells[i * 2 + 1]? = some (.int .i32 (wHi i)) := by
 match i, hi with
 | 0, _ => exact ⟨rfl, rfl⟩
 | 1, _ => exact ⟨rfl, rfl⟩
 | 2, _ => exact ⟨rfl, rfl⟩
 | 3, _ => exact ⟨rfl, rfl⟩
 | 4, _ => exact ⟨rfl, rfl⟩
 | 5, _ => exact ⟨rfl, rfl⟩
 | 6, _ => exact ⟨rfl, rfl⟩
 | 7, _ => exact ⟨rfl, rfl⟩
 | 8, _ => exact ⟨rfl, rfl⟩
 | 9, _ => exact ⟨rfl, rfl⟩
 | 10, _ => exact ⟨rfl, rfl⟩
 | 11, _ => exact ⟨rfl, rfl⟩
 | 12, _ => exact ⟨rfl, rfl⟩
 | 13, _ => exact ⟨rfl, rfl⟩
 | n + 14, h => omega
abbrev refWorld (w : World) : World := (w.alloc (.cells #[.int .i32 (-2147483648), .int .i32 31, .int .i32 127, .int .i32 159, .int .i32 768, .int .i32 879, .int .i32 8203, .int .i32 8207, .int .i32 65024, .int .i32 65039, .int .i32 1114112, .int .i32 2147483647, .int .i32 55296, .int .i32 57343] 144)).alloc (.cells #[.int .i32 4352, .int .i32 4447, .int .i32 11904, .int .i32 12350, .int .i32 12353, .int .i32 13311, .int .i32 13312, .int .i32 19903, .int .i32 19968, .int .i32 40959, .int .i32 40960, .int .i32 42191, .int .i32 44032, .int .i32 55203, .int .i32 63744, .int .i32 64255, .int .i32 65072, .int .i32 65135, .int .i32 65280, .int .i32 65376, .int .i32 65504, .int .i32 65510, .int .i32 127744, .int .i32 128591, .int .i32 129280, .int .i32 129535, .int .i32 131072, .int .i32 262141] 144)
theorem ref_zero (w : World) (i : Nat) (hi : i < 7) : (refWorld w).cell? ⟨w.heap.size, i * 2, none⟩ = some (.int .i32 (zLo i)) ∧ (refWorld w).cell? ⟨w.heap.size, i * 2 + 1, none⟩ = some (.int .i32 (zHi i)) := by
 have hb : (refWorld w).heap[w.heap.size]? = some (.cells zeroCells 144 (0, 0)) := by
  rw [refWorld, Below.heap_alloc _ _ _ (by simp)]; exact heap_alloc_new w _
 rw [cell_of_row _ _ _ _ _ (0, 0) hb, cell_of_row _ _ _ _ _ (0, 0) hb]
 exact zero_cells i hi
theorem ref_wide (w : World) (i : Nat) (hi : i < 14) : (refWorld w).cell? ⟨w.heap.size + 1, i * 2, none⟩ = some (.int .i32 (wLo i)) ∧ (refWorld w).cell? ⟨w.heap.size + 1, i * 2 + 1, none⟩ = some (.int .i32 (wHi i)) := by
 have hb : (refWorld w).heap[w.heap.size + 1]? = some (.cells wideCells 144 (0, 0)) := by
  have h := heap_alloc_new (w.alloc (.cells zeroCells 144)) (.cells wideCells 144)
  rw [World.size_alloc] at h
  exact h
 rw [cell_of_row _ _ _ _ _ (0, 0) hb, cell_of_row _ _ _ _ _ (0, 0) hb]
 exact wide_cells i hi
set_option maxRecDepth 100000 in
set_option maxHeartbeats 1600000 in
theorem refWidth_walk (r : Int) (hr0 : -2147483648 ≤ r) (hr1 : r ≤ 2147483647) (w : World) :
  Calls Tryz.prog 85 #[.int .i32 r] w fun e w' => e = .returned (.int .i64 (wof r)) ∧ Below w.heap.size w w' := by
 have hz := ref_zero w
 have hw := ref_wide w
 have ZH := Lib.hid hz
 have WH := Lib.hid hw
 clear hz hw
 have hbl : Below w.heap.size w (refWorld w) := ((Below.refl _ _).alloc (Nat.le_refl _) _).alloc (by simp) _
 have BL := Lib.hid hbl
 clear hbl
 go_enter Tryz.func85, Tryz.ntmps85
 go_wp2
 go_loop [5] (fun i => ∃ k : Nat, k ≤ 7 ∧ i = .int .i64 k ∧ (∀ j, j < k → ¬ (zLo j ≤ r ∧ r ≤ zHi j))) (fun i => 7 - (intOf i).toNat)
 case atStart => exact ⟨0, by omega, rfl, fun j h => by omega⟩
 case round =>
  obtain ⟨k, hk, rfl, hno⟩ := hrel
  by_cases hlt : k < 7
  ·obtain ⟨z0, z1⟩ := ZH.out k hlt
   have NO := Lib.hid hno
   have HIT := Lib.hid (wof_zero r k hlt)
   clear hno
   by_cases c1 : zLo k ≤ r
   ·by_cases c2 : r ≤ zHi k
    ·go_wp2
     go_ret
     exact ⟨ret_int (HIT.out c1 c2).symm, BL.out⟩
    ·go_wp2
     go_round
     case rel => exact ⟨k + 1, by omega, by go_num, fun j h => (Nat.lt_or_eq_of_le (Nat.le_of_lt_succ h)).elim (NO.out j) (fun e => by subst e; omega)⟩
     case measure => simp [intOf]; omega
   ·go_wp2
    go_round
    case rel => exact ⟨k + 1, by omega, by go_num, fun j h => (Nat.lt_or_eq_of_le (Nat.le_of_lt_succ h)).elim (NO.out j) (fun e => by subst e; omega)⟩
    case measure => simp [intOf]; omega
  ·obtain rfl : k = 7 := by omega
   have NO := Lib.hid hno
   clear hno
   go_wp2
   go_loop [6] (fun i => ∃ k : Nat, k ≤ 14 ∧ i = .int .i64 k ∧ (∀ j, j < k → ¬ (wLo j ≤ r ∧ r ≤ wHi j))) (fun i => 14 - (intOf i).toNat)
   case atStart => exact ⟨0, by omega, rfl, fun j h => by omega⟩
   case round =>
    obtain ⟨k, hk, rfl, hno⟩ := hrel
    by_cases hlt : k < 14
    ·obtain ⟨z0, z1⟩ := WH.out k hlt
     have NW := Lib.hid hno
     have HIT := Lib.hid (wof_wide r k hlt)
     clear hno
     by_cases c1 : wLo k ≤ r
     ·by_cases c2 : r ≤ wHi k
      ·go_wp2
       go_ret
       exact ⟨ret_int (HIT.out c1 c2).symm, BL.out⟩
      ·go_wp2
       go_round
       case rel => exact ⟨k + 1, by omega, by go_num, fun j h => (Nat.lt_or_eq_of_le (Nat.le_of_lt_succ h)).elim (NW.out j) (fun e => by subst e; omega)⟩
       case measure => simp [intOf]; omega
     ·go_wp2
      go_round
      case rel => exact ⟨k + 1, by omega, by go_num, fun j h => (Nat.lt_or_eq_of_le (Nat.le_of_lt_succ h)).elim (NW.out j) (fun e => by subst e; omega)⟩
      case measure => simp [intOf]; omega
    ·obtain rfl : k = 14 := by omega
     have M := Lib.hid (wof_none r hr0 hr1 NO.out hno)
     clear hno
     go_wp2
     go_ret
     exact ⟨ret_int M.out.symm, BL.out⟩
end Go.Proofs.YtjhmndmnhkbigaaGreatDoor
