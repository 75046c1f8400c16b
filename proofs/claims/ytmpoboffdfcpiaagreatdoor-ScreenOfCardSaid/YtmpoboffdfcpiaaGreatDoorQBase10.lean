import Derived.Test.YtmpoboffdfcpiaaGreatDoorQLaw1
import Derived.Test.YtmpoboffdfcpiaaGreatDoorQScr4
import Derived.Test.YtmpoboffdfcpiaaGreatDoorQBase9
set_option maxRecDepth 100000
set_option maxHeartbeats 6400000
namespace Go.Proofs.YtmpoboffdfcpiaaGreatDoor
open Go.ChangeShapes Go.WideShapes Go.ChangeAt Go.RowKit
namespace Sc
abbrev U42SameR (k : Nat) := Ord.upto k 42
def sameL : List Ord.Line := [
 (some 12, .move (.tmp 0), none, []),
 (some 13, .call { callee := .value (.func 49), args := #[.tmp 12], argTypes := #[29] }, none, [0]),
 (some 14, .move (.tmp 1), none, []),
 (some 15, .nilCheck (.tmp 14), none, [2]),
 (some 16, .fieldAddr 97 (.tmp 15) 2, none, [3]),
 (some 17, .load 22 (.tmp 16), none, [4]),
 (some 18, .call { callee := .value (.func 20), args := #[.tmp 13, .tmp 17], argTypes := #[22, 22] }, none, [1, 5, 1]),
 (some 19, .move (.tmp 18), none, [6, 6]),
 (some 20, .move (.tmp 0), some (7, true), [7]),
 (some 21, .call { callee := .value (.func 52), args := #[.tmp 20], argTypes := #[29] }, some (7, true), [8, 7, 7]),
 (some 22, .move (.tmp 1), some (7, true), [7]),
 (some 23, .nilCheck (.tmp 22), some (7, true), [10, 7]),
 (some 24, .fieldAddr 97 (.tmp 23) 3, some (7, true), [11, 7]),
 (some 25, .load 24 (.tmp 24), some (7, true), [12, 7]),
 (some 26, .binOp .eql 24 (.tmp 21) (.tmp 25) 24, some (7, true), [9, 13, 7]),
 (some 27, .pick (.tmp 19) (.tmp 26) (.const (.bool false)), none, [7, 14]),
 (some 28, .move (.tmp 27), none, [15, 9]),
 (some 29, .move (.tmp 0), some (16, true), [16]),
 (some 30, .call { callee := .value (.func 64), args := #[.tmp 29], argTypes := #[29] }, some (16, true), [17, 16, 16]),
 (some 31, .move (.tmp 1), some (16, true), [16]),
 (some 32, .nilCheck (.tmp 31), some (16, true), [19, 16]),
 (some 33, .fieldAddr 97 (.tmp 32) 4, some (16, true), [20, 16]),
 (some 34, .load 3 (.tmp 33), some (16, true), [21, 16]),
 (some 35, .binOp .eql 3 (.tmp 30) (.tmp 34) 3, some (16, true), [18, 22, 16]),
 (some 36, .pick (.tmp 28) (.tmp 35) (.const (.bool false)), none, [16, 23]),
 (some 37, .move (.tmp 36), none, [24, 18]),
 (some 38, .move (.tmp 5), some (25, true), [25]),
 (some 39, .move (.tmp 1), some (25, true), [25]),
 (some 40, .nilCheck (.tmp 39), some (25, true), [27, 25]),
 (some 41, .fieldAddr 97 (.tmp 40) 0, some (25, true), [28, 25]),
 (some 42, .load 3 (.tmp 41), some (25, true), [29, 25]),
 (some 43, .binOp .eql 3 (.tmp 38) (.tmp 42) 3, some (25, true), [26, 30, 25]),
 (some 44, .pick (.tmp 37) (.tmp 43) (.const (.bool false)), none, [25, 31]),
 (some 45, .move (.tmp 44), none, [32, 25]),
 (some 46, .move (.tmp 6), some (33, true), [33]),
 (some 47, .move (.tmp 1), some (33, true), [33]),
 (some 48, .nilCheck (.tmp 47), some (33, true), [35, 33]),
 (some 49, .fieldAddr 97 (.tmp 48) 1, some (33, true), [36, 33]),
 (some 50, .load 3 (.tmp 49), some (33, true), [37, 33]),
 (some 51, .binOp .eql 3 (.tmp 46) (.tmp 50) 3, some (33, true), [34, 38, 33]),
 (some 52, .pick (.tmp 45) (.tmp 51) (.const (.bool false)), none, [33, 39]),
 (some 4, .assign (.tmp 52), none, [40, 33, 0, 1, 2, 3, 4, 5, 6, 7, 8, 9, 10, 11, 12, 13, 14, 15, 16, 17, 18, 19, 20, 21, 22, 23, 24, 25, 26, 27, 28, 29, 30, 31, 32, 33, 34, 35, 36, 37, 38, 39, 40])]
structure SameFr (p q : Nat) (x y : Int) (p2 p3 p7 p8 p9 p10 p11 : Value) (a : Act) : Prop where
 size : a.tmps.size = 53
 defers : a.defers = []
 s0 : Chain.At a 0 (.pointer (some ⟨p, 0, none⟩))
 s1 : Chain.At a 1 (.pointer (some ⟨q, 0, none⟩))
 s2 : Chain.At a 2 (p2)
 s3 : Chain.At a 3 (p3)
 s5 : Chain.At a 5 (.int .i64 x)
 s6 : Chain.At a 6 (.int .i64 y)
 s7 : Chain.At a 7 (p7)
 s8 : Chain.At a 8 (p8)
 s9 : Chain.At a 9 (p9)
 s10 : Chain.At a 10 (p10)
 s11 : Chain.At a 11 (p11)
theorem SameFr.next {p q : Nat} {x y : Int} {p2 p3 p7 p8 p9 p10 p11 : Value} {a a' : Act} {d : Nat} {v : Value} (F : SameFr p q x y p2 p3 p7 p8 p9 p10 p11 a) (nx : Chain.Next a a' d v) (h : d = 4 ∨ (11 < d ∧ d < 53) := by decide) : SameFr p q x y p2 p3 p7 p8 p9 p10 p11 a' := ⟨nx.size.trans F.size, nx.defers.trans F.defers, nx.k F.s0 (by omega), nx.k F.s1 (by omega), nx.k F.s2 (by omega), nx.k F.s3 (by omega), nx.k F.s5 (by omega), nx.k F.s6 (by omega), nx.k F.s7 (by omega), nx.k F.s8 (by omega), nx.k F.s9 (by omega), nx.k F.s10 (by omega), nx.k F.s11 (by omega)⟩
theorem SameFr.lt {p q : Nat} {x y : Int} {p2 p3 p7 p8 p9 p10 p11 : Value} {a : Act} {d : Nat} (F : SameFr p q x y p2 p3 p7 p8 p9 p10 p11 a) (h : d < 53 := by decide) : d < a.tmps.size := by rw [F.size]; exact h
theorem same_region {ops : Array Oper} {Q : Exit → Act → World → Prop} (R : Ord.Reg ops sameL) (hQ : Ord.HQ Q) {w1 : World} {p q g sh sc : Nat} {x y r c t : Int} {p2 p3 p7 p8 p9 p10 p11 : Value} {P1 : World → Option Addr → Nat → Nat → Prop}
  (E0 : ∀ w, (binOp .eql 24 (.agg #[.int .i64 r, .int .i64 c]) (.agg #[.int .i64 r, .int .i64 c])).run Tryz.prog w = .ok (.bool true) w)
  (k0 : ∀ w : World, Below w1.heap.size w1 w → w.cell? ⟨q, 0, none⟩ = some (.int .i64 x)) (k1 : ∀ w : World, Below w1.heap.size w1 w → w.cell? ⟨q, 1, none⟩ = some (.int .i64 y)) (k2 : ∀ w : World, Below w1.heap.size w1 w → w.cell? ⟨q, 2, none⟩ = some (.slice (some ⟨g, 0, none⟩) sh sc)) (k3 : ∀ w : World, Below w1.heap.size w1 w → w.cell? ⟨q, 3, none⟩ = some (.int .i64 r)) (k4 : ∀ w : World, Below w1.heap.size w1 w → w.cell? ⟨q, 4, none⟩ = some (.int .i64 c)) (k5 : ∀ w : World, Below w1.heap.size w1 w → w.cell? ⟨q, 5, none⟩ = some (.int .i64 t))
  (C1 : Calls Tryz.prog 49 #[.pointer (some ⟨p, 0, none⟩)] w1 fun e w' => ∃ A m c, e = .returned (.slice A m c) ∧ P1 w' A m c)
  (KS1 : ∀ w A m c, P1 w A m c → Below w1.heap.size w1 w)
  (C2 : ∀ w A m c, Below w1.heap.size w1 w → P1 w A m c → Calls Tryz.prog 20 #[.slice A m c, .slice (some ⟨g, 0, none⟩) sh sc] w fun e w' => e = .returned (.bool true) ∧ Below w1.heap.size w1 w')
  (C3 : ∀ w, Below w1.heap.size w1 w → Calls Tryz.prog 52 #[.pointer (some ⟨p, 0, none⟩)] w fun e w' => e = .returned (.agg #[.int .i64 r, .int .i64 c]) ∧ Below w1.heap.size w1 w')
  (C4 : ∀ w, Below w1.heap.size w1 w → Calls Tryz.prog 64 #[.pointer (some ⟨p, 0, none⟩)] w fun e w' => e = .returned (.int .i64 t) ∧ Below w1.heap.size w1 w')
  (a : Act) (F : SameFr p q x y p2 p3 p7 p8 p9 p10 p11 a) (h : ∀ a w, Below w1.heap.size w1 w → SameFr p q x y p2 p3 p7 p8 p9 p10 p11 a → Chain.At a 4 (.bool true) → Q .normal a w) :
  wpAnyH Tryz.prog .any ops Q (fun w => Below w1.heap.size w1 w) 42 (List.replicate 42 false).toArray a w1 := by
 have hS : Below w1.heap.size w1 w1 := Below.refl _ _
 refine Ord.tj R 0 (.pointer (some ⟨p, 0, none⟩)) (U42SameR 1) rfl hQ trivial hS (fun w _ hS => Chain.ev_move F.s0.ev) F.lt fun a0 N => ?_
 replace F := F.next N
 have f12 := N.got
 clear N a
 refine Ord.tj R 2 (.pointer (some ⟨q, 0, none⟩)) (Ord.bt 42 5) rfl hQ trivial hS (fun w _ hS => Chain.ev_move F.s1.ev) F.lt fun a2 N => ?_
 replace F := F.next N
 replace f12 := N.k f12
 have f14 := N.got
 clear N a0
 refine Ord.tj R 3 (.pointer (some ⟨q, 0, none⟩)) (Ord.bt 42 13) rfl hQ trivial hS (fun w _ hS => by have e14 := f14.u; clear F; go_simp) F.lt fun a3 N => ?_
 replace F := F.next N
 replace f12 := N.k f12
 clear f14
 have f15 := N.got
 clear N a2
 refine Ord.tj R 4 (.pointer (some ⟨q, 2, none⟩)) (Ord.bt 42 29) rfl hQ trivial hS (fun w _ hS => by have e15 := f15.u; clear F; go_simp) F.lt fun a4 N => ?_
 replace F := F.next N
 replace f12 := N.k f12
 clear f15
 have f16 := N.got
 clear N a3
 refine Ord.tj R 5 (.slice (some ⟨g, 0, none⟩) sh sc) (Ord.bt 42 61) rfl hQ trivial hS (fun w _ hS => by have e16 := f16.u; have q0 := (k2 w hS); clear F; go_simp) F.lt fun a5 N => ?_
 replace F := F.next N
 replace f12 := N.k f12
 clear f16
 have f17 := N.got
 clear N a4
 refine Ord.call R (k := 1) (args := #[.pointer (some ⟨p, 0, none⟩)]) (bs' := U42SameR 6) rfl (by kernel_rfl) trivial (by simp [f12.ev]) (by kernel_rfl) (C1) F.lt ?_
 rintro e w ⟨A8, m8, c8, rfl, K1⟩
 replace hS := KS1 w A8 m8 c8 K1
 refine ⟨_, rfl, hS, fun a1 N => ?_⟩
 replace F := F.next N
 clear f12
 replace f17 := N.k f17
 have f13 := N.got
 clear N a5
 refine Ord.call R (k := 6) (args := #[.slice A8 m8 c8, .slice (some ⟨g, 0, none⟩) sh sc]) (bs' := U42SameR 7) rfl (by kernel_rfl) trivial (by simp [f13.ev, f17.ev]) (by kernel_rfl) (C2 w A8 m8 c8 hS K1) F.lt ?_
 rintro e w ⟨rfl, K2⟩
 replace hS := K2
 refine ⟨_, rfl, hS, fun a6 N => ?_⟩
 replace F := F.next N
 clear f13
 clear f17
 have f18 := N.got
 clear N a1
 refine Ord.tk R 7 (.bool true) rfl hQ hS (fun w _ hS => Chain.ev_move f18.ev) F.lt fun a7 N => ?_
 replace F := F.next N
 clear f18
 have f19 := N.got
 clear N a6
 refine Ord.tj R 8 (.pointer (some ⟨p, 0, none⟩)) (U42SameR 9) rfl hQ (R.opened (j := 7) rfl f19) hS (fun w _ hS => Chain.ev_move F.s0.ev) F.lt fun a8 N => ?_
 replace F := F.next N
 replace f19 := N.k f19
 have f20 := N.got
 clear N a7
 refine Ord.tj R 10 (.pointer (some ⟨q, 0, none⟩)) (Ord.bt 42 1535) rfl hQ (R.opened (j := 7) rfl f19) hS (fun w _ hS => Chain.ev_move F.s1.ev) F.lt fun a10 N => ?_
 replace F := F.next N
 replace f19 := N.k f19
 replace f20 := N.k f20
 have f22 := N.got
 clear N a8
 refine Ord.tj R 11 (.pointer (some ⟨q, 0, none⟩)) (Ord.bt 42 3583) rfl hQ (R.opened (j := 7) rfl f19) hS (fun w _ hS => by have e22 := f22.u; clear F; go_simp) F.lt fun a11 N => ?_
 replace F := F.next N
 replace f19 := N.k f19
 replace f20 := N.k f20
 clear f22
 have f23 := N.got
 clear N a10
 refine Ord.tj R 12 (.pointer (some ⟨q, 3, none⟩)) (Ord.bt 42 7679) rfl hQ (R.opened (j := 7) rfl f19) hS (fun w _ hS => by have e23 := f23.u; clear F; go_simp) F.lt fun a12 N => ?_
 replace F := F.next N
 replace f19 := N.k f19
 replace f20 := N.k f20
 clear f23
 have f24 := N.got
 clear N a11
 refine Ord.tj R 13 (.agg #[.int .i64 r, .int .i64 c]) (Ord.bt 42 15871) rfl hQ (R.opened (j := 7) rfl f19) hS (fun w _ hS => by have e24 := f24.u; have q0 := (k3 w hS); have q1 := (k4 w hS); clear F; go_simp) F.lt fun a13 N => ?_
 replace F := F.next N
 replace f19 := N.k f19
 replace f20 := N.k f20
 clear f24
 have f25 := N.got
 clear N a12
 refine Ord.call R (k := 9) (args := #[.pointer (some ⟨p, 0, none⟩)]) (bs' := U42SameR 14) rfl (by kernel_rfl) (R.opened (j := 7) rfl f19) (by simp [f20.ev]) (by kernel_rfl) (C3 w hS) F.lt ?_
 rintro e w ⟨rfl, K3⟩
 replace hS := K3
 refine ⟨_, rfl, hS, fun a9 N => ?_⟩
 replace F := F.next N
 replace f19 := N.k f19
 clear f20
 replace f25 := N.k f25
 have f21 := N.got
 clear N a13
 refine Ord.tj R 14 (.bool true) (U42SameR 15) rfl hQ (R.opened (j := 7) rfl f19) hS (fun w _ hS => by have e21 := f21.u; have e25 := f25.u; have q0 := E0 w; clear F; first | exact q0 | (go_simp)) F.lt fun a14 N => ?_
 replace F := F.next N
 replace f19 := N.k f19
 clear f21
 clear f25
 have f26 := N.got
 clear N a9
 refine Ord.tk R 15 (.bool true) rfl hQ hS (fun w _ hS => Ord.ev_pick_yes f19.ev f26.ev) F.lt fun a15 N => ?_
 replace F := F.next N
 clear f19
 clear f26
 have f27 := N.got
 clear N a14
 refine Ord.tk R 16 (.bool true) rfl hQ hS (fun w _ hS => Chain.ev_move f27.ev) F.lt fun a16 N => ?_
 replace F := F.next N
 clear f27
 have f28 := N.got
 clear N a15
 refine Ord.tj R 17 (.pointer (some ⟨p, 0, none⟩)) (U42SameR 18) rfl hQ (R.opened (j := 16) rfl f28) hS (fun w _ hS => Chain.ev_move F.s0.ev) F.lt fun a17 N => ?_
 replace F := F.next N
 replace f28 := N.k f28
 have f29 := N.got
 clear N a16
 refine Ord.tj R 19 (.pointer (some ⟨q, 0, none⟩)) (Ord.bt 42 786431) rfl hQ (R.opened (j := 16) rfl f28) hS (fun w _ hS => Chain.ev_move F.s1.ev) F.lt fun a19 N => ?_
 replace F := F.next N
 replace f28 := N.k f28
 replace f29 := N.k f29
 have f31 := N.got
 clear N a17
 refine Ord.tj R 20 (.pointer (some ⟨q, 0, none⟩)) (Ord.bt 42 1835007) rfl hQ (R.opened (j := 16) rfl f28) hS (fun w _ hS => by have e31 := f31.u; clear F; go_simp) F.lt fun a20 N => ?_
 replace F := F.next N
 replace f28 := N.k f28
 replace f29 := N.k f29
 clear f31
 have f32 := N.got
 clear N a19
 refine Ord.tj R 21 (.pointer (some ⟨q, 5, none⟩)) (Ord.bt 42 3932159) rfl hQ (R.opened (j := 16) rfl f28) hS (fun w _ hS => by have e32 := f32.u; clear F; go_simp) F.lt fun a21 N => ?_
 replace F := F.next N
 replace f28 := N.k f28
 replace f29 := N.k f29
 clear f32
 have f33 := N.got
 clear N a20
 refine Ord.tj R 22 (.int .i64 t) (Ord.bt 42 8126463) rfl hQ (R.opened (j := 16) rfl f28) hS (fun w _ hS => by have e33 := f33.u; have q0 := (k5 w hS); clear F; go_simp) F.lt fun a22 N => ?_
 replace F := F.next N
 replace f28 := N.k f28
 replace f29 := N.k f29
 clear f33
 have f34 := N.got
 clear N a21
 refine Ord.call R (k := 18) (args := #[.pointer (some ⟨p, 0, none⟩)]) (bs' := U42SameR 23) rfl (by kernel_rfl) (R.opened (j := 16) rfl f28) (by simp [f29.ev]) (by kernel_rfl) (C4 w hS) F.lt ?_
 rintro e w ⟨rfl, K4⟩
 replace hS := K4
 refine ⟨_, rfl, hS, fun a18 N => ?_⟩
 replace F := F.next N
 replace f28 := N.k f28
 clear f29
 replace f34 := N.k f34
 have f30 := N.got
 clear N a22
 refine Ord.tj R 23 (.bool true) (U42SameR 24) rfl hQ (R.opened (j := 16) rfl f28) hS (fun w _ hS => by have e30 := f30.u; have e34 := f34.u; have q0 := (by simp : (t == t) = true); clear F; go_simp) F.lt fun a23 N => ?_
 replace F := F.next N
 replace f28 := N.k f28
 clear f30
 clear f34
 have f35 := N.got
 clear N a18
 refine Ord.tk R 24 (.bool true) rfl hQ hS (fun w _ hS => Ord.ev_pick_yes f28.ev f35.ev) F.lt fun a24 N => ?_
 replace F := F.next N
 clear f28
 clear f35
 have f36 := N.got
 clear N a23
 refine Ord.tk R 25 (.bool true) rfl hQ hS (fun w _ hS => Chain.ev_move f36.ev) F.lt fun a25 N => ?_
 replace F := F.next N
 clear f36
 have f37 := N.got
 clear N a24
 refine Ord.tj R 26 (.int .i64 x) (U42SameR 27) rfl hQ (R.opened (j := 25) rfl f37) hS (fun w _ hS => Chain.ev_move F.s5.ev) F.lt fun a26 N => ?_
 replace F := F.next N
 replace f37 := N.k f37
 have f38 := N.got
 clear N a25
 refine Ord.tj R 27 (.pointer (some ⟨q, 0, none⟩)) (U42SameR 28) rfl hQ (R.opened (j := 25) rfl f37) hS (fun w _ hS => Chain.ev_move F.s1.ev) F.lt fun a27 N => ?_
 replace F := F.next N
 replace f37 := N.k f37
 replace f38 := N.k f38
 have f39 := N.got
 clear N a26
 refine Ord.tj R 28 (.pointer (some ⟨q, 0, none⟩)) (U42SameR 29) rfl hQ (R.opened (j := 25) rfl f37) hS (fun w _ hS => by have e39 := f39.u; clear F; go_simp) F.lt fun a28 N => ?_
 replace F := F.next N
 replace f37 := N.k f37
 replace f38 := N.k f38
 clear f39
 have f40 := N.got
 clear N a27
 refine Ord.tj R 29 (.pointer (some ⟨q, 0, none⟩)) (U42SameR 30) rfl hQ (R.opened (j := 25) rfl f37) hS (fun w _ hS => by have e40 := f40.u; clear F; go_simp) F.lt fun a29 N => ?_
 replace F := F.next N
 replace f37 := N.k f37
 replace f38 := N.k f38
 clear f40
 have f41 := N.got
 clear N a28
 refine Ord.tj R 30 (.int .i64 x) (U42SameR 31) rfl hQ (R.opened (j := 25) rfl f37) hS (fun w _ hS => by have e41 := f41.u; have q0 := (k0 w hS); clear F; go_simp) F.lt fun a30 N => ?_
 replace F := F.next N
 replace f37 := N.k f37
 replace f38 := N.k f38
 clear f41
 have f42 := N.got
 clear N a29
 refine Ord.tj R 31 (.bool true) (U42SameR 32) rfl hQ (R.opened (j := 25) rfl f37) hS (fun w _ hS => by have e38 := f38.u; have e42 := f42.u; have q0 := (by simp : (x == x) = true); clear F; go_simp) F.lt fun a31 N => ?_
 replace F := F.next N
 replace f37 := N.k f37
 clear f38
 clear f42
 have f43 := N.got
 clear N a30
 refine Ord.tk R 32 (.bool true) rfl hQ hS (fun w _ hS => Ord.ev_pick_yes f37.ev f43.ev) F.lt fun a32 N => ?_
 replace F := F.next N
 clear f37
 clear f43
 have f44 := N.got
 clear N a31
 refine Ord.tk R 33 (.bool true) rfl hQ hS (fun w _ hS => Chain.ev_move f44.ev) F.lt fun a33 N => ?_
 replace F := F.next N
 clear f44
 have f45 := N.got
 clear N a32
 refine Ord.tj R 34 (.int .i64 y) (U42SameR 35) rfl hQ (R.opened (j := 33) rfl f45) hS (fun w _ hS => Chain.ev_move F.s6.ev) F.lt fun a34 N => ?_
 replace F := F.next N
 replace f45 := N.k f45
 have f46 := N.got
 clear N a33
 refine Ord.tj R 35 (.pointer (some ⟨q, 0, none⟩)) (U42SameR 36) rfl hQ (R.opened (j := 33) rfl f45) hS (fun w _ hS => Chain.ev_move F.s1.ev) F.lt fun a35 N => ?_
 replace F := F.next N
 replace f45 := N.k f45
 replace f46 := N.k f46
 have f47 := N.got
 clear N a34
 refine Ord.tj R 36 (.pointer (some ⟨q, 0, none⟩)) (U42SameR 37) rfl hQ (R.opened (j := 33) rfl f45) hS (fun w _ hS => by have e47 := f47.u; clear F; go_simp) F.lt fun a36 N => ?_
 replace F := F.next N
 replace f45 := N.k f45
 replace f46 := N.k f46
 clear f47
 have f48 := N.got
 clear N a35
 refine Ord.tj R 37 (.pointer (some ⟨q, 1, none⟩)) (U42SameR 38) rfl hQ (R.opened (j := 33) rfl f45) hS (fun w _ hS => by have e48 := f48.u; clear F; go_simp) F.lt fun a37 N => ?_
 replace F := F.next N
 replace f45 := N.k f45
 replace f46 := N.k f46
 clear f48
 have f49 := N.got
 clear N a36
 refine Ord.tj R 38 (.int .i64 y) (U42SameR 39) rfl hQ (R.opened (j := 33) rfl f45) hS (fun w _ hS => by have e49 := f49.u; have q0 := (k1 w hS); clear F; go_simp) F.lt fun a38 N => ?_
 replace F := F.next N
 replace f45 := N.k f45
 replace f46 := N.k f46
 clear f49
 have f50 := N.got
 clear N a37
 refine Ord.tj R 39 (.bool true) (U42SameR 40) rfl hQ (R.opened (j := 33) rfl f45) hS (fun w _ hS => by have e46 := f46.u; have e50 := f50.u; have q0 := (by simp : (y == y) = true); clear F; go_simp) F.lt fun a39 N => ?_
 replace F := F.next N
 replace f45 := N.k f45
 clear f46
 clear f50
 have f51 := N.got
 clear N a38
 refine Ord.tk R 40 (.bool true) rfl hQ hS (fun w _ hS => Ord.ev_pick_yes f45.ev f51.ev) F.lt fun a40 N => ?_
 replace F := F.next N
 clear f45
 clear f51
 have f52 := N.got
 clear N a39
 refine Ord.tk R 41 (.bool true) rfl hQ hS (fun w _ hS => Chain.ev_assign f52.ev) F.lt fun a41 N => ?_
 replace F := F.next N
 clear f52
 have f4 := N.got
 clear N a40
 exact Ord.finish R (by kernel_rfl) (h _ _ hS F f4)
theorem same_frame {a : Act} {w : World} {K : Act → World → Prop} {v0 v1 v2 v3 v4 v5 v6 v7 v8 v9 v10 v11 : Value} (hz : a.tmps.size = 53) (hd : a.defers = []) (f0 : Chain.At a 0 v0) (f1 : Chain.At a 1 v1) (f2 : Chain.At a 2 v2) (f3 : Chain.At a 3 v3) (f4 : Chain.At a 4 v4) (f5 : Chain.At a 5 v5) (f6 : Chain.At a 6 v6) (f7 : Chain.At a 7 v7) (f8 : Chain.At a 8 v8) (f9 : Chain.At a 9 v9) (f10 : Chain.At a 10 v10) (f11 : Chain.At a 11 v11)
  (h : ∀ u12 u13 u14 u15 u16 u17 u18 u19 u20 u21 u22 u23 u24 u25 u26 u27 u28 u29 u30 u31 u32 u33 u34 u35 u36 u37 u38 u39 u40 u41 u42 u43 u44 u45 u46 u47 u48 u49 u50 u51 u52 : Value, K ⟨#[v0, v1, v2, v3, v4, v5, v6, v7, v8, v9, v10, v11, u12, u13, u14, u15, u16, u17, u18, u19, u20, u21, u22, u23, u24, u25, u26, u27, u28, u29, u30, u31, u32, u33, u34, u35, u36, u37, u38, u39, u40, u41, u42, u43, u44, u45, u46, u47, u48, u49, u50, u51, u52], []⟩ w) : K a w := by
 have e := Ord.frame_gets hz hd
 simp only [Ord.gets, Nat.reduceAdd] at e
 rw [Ord.at_get f0, Ord.at_get f1, Ord.at_get f2, Ord.at_get f3, Ord.at_get f4, Ord.at_get f5, Ord.at_get f6, Ord.at_get f7, Ord.at_get f8, Ord.at_get f9, Ord.at_get f10, Ord.at_get f11] at e
 rw [e]
 exact h _ _ _ _ _ _ _ _ _ _ _ _ _ _ _ _ _ _ _ _ _ _ _ _ _ _ _ _ _ _ _ _ _ _ _ _ _ _ _ _ _
end Sc
namespace Sc
open Rw
theorem RAt.rd {W : World} {p g cap : Nat} {tail : List Value} {s : Scr} {xs : List RowIn} (h : RAt W p g cap tail s xs) : Rd W (some ⟨g, 0, none⟩) s.rows.length xs := by
 refine ⟨⟨by rw [vals_length, h.len], fun _ => ⟨g, 0, rfl, h.ltg, fun j u hu => ?_⟩⟩, fun x hx => ?_⟩
 ·simpa using h.rowc hu
 ·obtain ⟨i, hi, rfl⟩ := List.mem_iff_getElem.1 hx
  obtain ⟨x', hx', _, hc, hn, _⟩ := h.at' (i := i) (by rw [← h.len]; exact hi)
  rw [List.getElem?_eq_getElem hi] at hx'
  injection hx' with hx'
  subst hx'
  exact ⟨HasC.sq hc, by rw [hn]; have := h.ok.w3; omega⟩
theorem same_walk {p g q g2 cap : Nat} {tail : List Value} {s : Scr} {xs ys : List RowIn} (w : World) (h : ScAt w p g s xs) (h' : RAt w q g2 cap tail s ys) :
  Calls Tryz.prog 18 #[ptrS p, ptrS q] w fun e w' => e = .returned (.bool true) ∧ Below w.heap.size w w' := by
 have Z := Lib.hid (size_walk w h)
 have H := Lib.hid h
 have H' := Lib.hid h'
 clear h h'
 go_enter Tryz.func18, Tryz.ntmps18
 go_wp2_with fail
 refine Z.out.mono ?_
 rintro e w1 ⟨rfl, b1⟩
 have H1 := Lib.hid (H.out.laid b1)
 have H1' := Lib.hid (H'.out.laid b1)
 have B1 := Lib.hid b1
 clear b1 Z H H'
 go_wp2_with fail
 have hn : s.rows.length ≤ 1000000 := by have := H1'.out.ok.h2; omega
 have ld : ∀ W, Below w1.drew.heap.size w1.drew W → RAt W q g2 cap tail s ys := fun W b => H1'.out.laid ((Below.refl w1.heap.size w1).drew.trans b)
 have ldc : ∀ W, Below w1.drew.heap.size w1.drew W → ScAt W p g s xs := fun W b => H1.out.laid ((Below.refl w1.heap.size w1).drew.trans b)
 refine Ord.start (S := fun W => Below w1.drew.heap.size w1.drew W) (n := 42) (by kernel_rfl) (by kernel_rfl) (Below.refl _ _) ?_
 apply same_region (w1 := w1.drew) (p := p) (q := q) (g := g2) (sh := s.rows.length) (sc := cap) (x := (s.w : Int)) (y := (s.rows.length : Int)) (r := (s.r : Int)) (c := (s.c : Int)) (t := s.a) (p2 := undef) (p3 := undef) (p7 := .tuple #[.int .i64 (s.w : Int), .int .i64 (s.rows.length : Int)]) (p8 := ptrS p) (p9 := .tuple #[.int .i64 (s.w : Int), .int .i64 (s.rows.length : Int)]) (p10 := .int .i64 (s.w : Int)) (p11 := .int .i64 (s.rows.length : Int))
  (P1 := fun W A m c => ∃ zs, Shown w1.drew s.w s.rows (.slice A m c) zs W)
 case R => exact ⟨by kernel_rfl, by kernel_rfl⟩
 case hQ => exact fun _ _ _ _ _ h => h
 case E0 => exact fun w => eql_pos _ _ w
 case k0 => exact fun W b => (ld W b).get 0
 case k1 => exact fun W b => (ld W b).get 1
 case k2 => exact fun W b => (ld W b).get 2
 case k3 => exact fun W b => (ld W b).get 3
 case k4 => exact fun W b => (ld W b).get 4
 case k5 => exact fun W b => (ld W b).get 5
 case C1 =>
  refine (rows_walk w1.drew (ldc _ (Below.refl _ _))).mono ?_
  rintro e W' ⟨v, zs, rfl, SH⟩
  obtain ⟨A, c, rfl, _⟩ := SH.rows.shape
  exact ⟨A, _, c, rfl, zs, SH⟩
 case KS1 => exact fun W A m c ⟨zs, SH⟩ => SH.old
 case C2 =>
  rintro W A m c hb ⟨zs, SH⟩
  have hl : zs.length = s.rows.length := by rw [← SH.same, List.length_map]
  obtain rfl : m = s.rows.length := by obtain ⟨_, _, e, _⟩ := SH.rows.shape; injection e with _ e _; omega
  refine (eqRows_walk A (some ⟨g2, 0, none⟩) s.rows.length c cap zs ys W hn (RowsIn.rd SH.rows (fun x hx => by rw [(SH.each x hx).1]; have := H1.out.ok.w3; omega)) (ld W hb).rd (SH.same.trans (ld W hb).same.symm)).mono ?_
  rintro e W' ⟨rfl, b⟩
  exact ⟨rfl, hb.trans (b.mono hb.size)⟩
 case C3 =>
  intro W hb
  refine (cursor_walk W (ldc W hb)).mono ?_
  rintro e W' ⟨rfl, b⟩
  exact ⟨rfl, hb.trans (b.mono hb.size)⟩
 case C4 =>
  intro W hb
  refine (attr_walk W (ldc W hb)).mono ?_
  rintro e W' ⟨rfl, rfl⟩
  exact ⟨rfl, hb⟩
 case F => constructor <;> rfl
 intro a w2 hb F2 f4
 refine same_frame F2.size F2.defers F2.s0 F2.s1 F2.s2 F2.s3 f4 F2.s5 F2.s6 F2.s7 F2.s8 F2.s9 F2.s10 F2.s11 ?_
 have B2 := Lib.hid (B1.out.trans (((Below.refl w1.heap.size w1).drew.trans hb).mono B1.out.size))
 clear ld ldc F2 f4 hb H1 H1' B1
 intros
 try dsimp only
 go_wp2_with fail
 exact bodyPost_ret (v := .bool true) (by simp [results, Tryz.results18, go_sem]) rfl ⟨rfl, B2.out⟩
end Sc
namespace Sc
open Rw
structure Duo (w0 : World) (p g q g2 cap : Nat) (tail : List Value) (s : Scr) (xs ys : List RowIn) (W : World) : Prop where
 a : Wp w0 p g s xs W
 b : RAt W q g2 cap tail s ys
 q0 : w0.heap.size ≤ q
 h0 : w0.heap.size ≤ g2
 ng : g ≠ g2
def Two (w0 : World) (p q : Nat) (s : Scr) (W : World) : Prop := ∃ g g2 cap tail xs ys, Duo w0 p g q g2 cap tail s xs ys W
theorem Duo.laid {w0 W W' : World} {p g q g2 cap : Nat} {tail : List Value} {s : Scr} {xs ys : List RowIn} (H : Duo w0 p g q g2 cap tail s xs ys W) (b : Below W.heap.size W W') : Duo w0 p g q g2 cap tail s xs ys W' := ⟨H.a.laid b, H.b.laid b, H.q0, H.h0, H.ng⟩
theorem Two.laid {w0 W W' : World} {p q : Nat} {s : Scr} (H : Two w0 p q s W) (b : Below W.heap.size W W') : Two w0 p q s W' := let ⟨_, _, _, _, _, _, H⟩ := H; ⟨_, _, _, _, _, _, H.laid b⟩
theorem Two.old {w0 W : World} {p q : Nat} {s : Scr} (H : Two w0 p q s W) : Below w0.heap.size w0 W := let ⟨_, _, _, _, _, _, H⟩ := H; H.a.old
structure Half (w0 : World) (p q : Nat) (s s' : Scr) (v : Value) (R : List SR) (W : World) : Prop where
 ex : ∃ g g2 cap tail xs ys out B, Wp w0 p g s' xs W ∧ RAt W q g2 cap tail s ys ∧ w0.heap.size ≤ q ∧ w0.heap.size ≤ g2 ∧ g ≠ g2 ∧ RowsIn W B v out ∧ q < B ∧ g2 < B ∧ out.map sr = R ∧ ∀ y ∈ out, y.n ≤ 300
theorem Two.first {w0 W : World} {p q : Nat} {s : Scr} (H : Two w0 p q s W) (k r : Int) (A : Option Addr) (n c : Nat) (str : ByteArray) (l : List Int) (hr0 : -2147483648 ≤ r) (hr1 : r ≤ 2147483647) (hn : n ≤ 1000000) (hq : Sq w0 w0.heap.size 1 n A (l.map (Value.int .i64))) :
  Calls Tryz.prog 19 #[ptrS p, .agg #[.int .i64 k, .int .i32 r, .slice A n c, .string str]] W fun e W' => ∃ A8 m8 c8, e = .returned (.slice A8 m8 c8) ∧ Half w0 p q s (doS s k r l) (.slice A8 m8 c8) (doO s k r) W' ∧ ∀ b, Typed W 27 b → W'.heap[b]? = W.heap[b]? := by
 obtain ⟨g, g2, cap, tail, xs, ys, H⟩ := H
 have up : ∀ W', Below w0.heap.size w0 W' → Sq W' W'.heap.size 1 n A (l.map (Value.int .i64)) := fun W' b => (hq.below b).up b.size
 have stays : ∀ W' zs, Went W W' p g xs zs → Below w0.heap.size w0 W' := fun W' zs hw => H.a.old.trans (hw.turned.toBelow H.a.old.size (fun k hk m => by have := H.a.p0; have := H.a.g0; omega))
 refine (doAll_walk k r A n c str l W hr0 hr1 hn H.a.spans H.a.scr (fun W' zs hw => up W' (stays W' zs hw))).mono ?_
 rintro e W' ⟨v, out, xs', rfl, h1, h2, h3, h4, h5⟩
 obtain ⟨A8, c8, rfl, _⟩ := h3.shape
 have hb := H.b.kept h2.turned (fun m => by
  rcases m with e | e
  ·exact (H.b.typ.apart H.a.scr.typ (by decide)) e
  ·exact (H.b.typ.apart H.a.scr.tyg (by decide)) e) (fun m => by
  rcases m with e | e
  ·exact (H.b.tyg.apart H.a.scr.typ (by decide)) e
  ·exact H.ng e.symm) H.a.scr.noC
 refine ⟨A8, _, c8, rfl, ⟨g, g2, cap, tail, xs', ys, out, W.heap.size, H.a.step h1 h2, hb, H.q0, H.h0, H.ng, h3, H.b.ltp, H.b.ltg, h4, fun y hy => ?_⟩, fun b t => h2.turned.block b (by obtain ⟨_, _, t⟩ := t; exact (Array.getElem?_eq_some_iff.1 t).1) (fun m => by
  rcases m with e | e
  ·exact (t.apart H.a.scr.typ (by decide)) e
  ·exact (t.apart H.a.scr.tyg (by decide)) e)⟩
 rw [(h5 y hy).1]
 exact H.a.scr.ok.w3
theorem Half.second {w0 W : World} {p q : Nat} {s s' : Scr} {A8 : Option Addr} {m8 c8 : Nat} {R : List SR} (S : Spans w0) (H : Half w0 p q s s' (.slice A8 m8 c8) R W) (k r : Int) (A : Option Addr) (n c : Nat) (str : ByteArray) (l : List Int) (hr0 : -2147483648 ≤ r) (hr1 : r ≤ 2147483647) (hn : n ≤ 1000000) (hl : Few l) (hq : Sq w0 w0.heap.size 1 n A (l.map (Value.int .i64)))
  (es : s' = doS s k r l) (eR : R = doO s k r) (hR : R.length ≤ 1000000) :
  Calls Tryz.prog 21 #[ptrS q, .agg #[.int .i64 k, .int .i32 r, .slice A n c, .string str]] W fun e W' => ∃ (A9 : Option Addr) (m9 c9 : Nat) (out out' : List RowIn), e = .returned (.slice A9 m9 c9) ∧ Two w0 p q s' W' ∧ m8 = m9 ∧ m8 ≤ 1000000 ∧ Sc.Rd W' A8 m8 out ∧ Sc.Rd W' A9 m8 out' ∧ out.map sr = out'.map sr := by
 obtain ⟨g, g2, cap, tail, xs, ys, out, B, ha, hb, q0, h0, ng, hrow, hqB, hgB, hsr, h300⟩ := H.ex
 have low : ∀ W', Turned (fun k => k = q ∨ k = g2) W W' → Below w0.heap.size w0 W' := fun W' ht => ha.old.trans (ht.toBelow ha.old.size (fun k hk m => by omega))
 refine (rdo_walk k r A n c str l W hr0 hr1 hn hb hl (fun W' ht => (hq.below (low W' ht)).up (low W' ht).size)).mono ?_
 rintro e W' ⟨v, out', g', rfl, ⟨⟨cap', tail', ys', hb'⟩, ht, hfrom⟩, hrow', hsr', h300', _⟩
 obtain ⟨A9, c9, rfl, _⟩ := hrow'.shape
 have hl8 : out.length = m8 := by obtain ⟨_, _, e, _⟩ := hrow.shape; injection e with _ e _; exact e.symm
 have e8 : out.length = R.length := by rw [← hsr, List.length_map]
 have e9 : out'.length = R.length := by rw [eR, ← hsr', List.length_map]
 have hl9 : out'.length = m8 := by rw [e9, ← e8, hl8]
 have hm8 : m8 ≤ 1000000 := by rw [← hl8, e8]; exact hR
 have hrow2 := hrow.turned ht (fun k hk m => by have := (hrow.lt k hk).1; omega) hb.noC
 refine ⟨A9, _, c9, out, out', rfl, ⟨g, g', cap', tail', xs, ys', ⟨low W' ht, ha.p0, ha.g0, ha.scr.kept ht (fun m => by
  rcases m with e | e
  ·exact (ha.scr.typ.apart hb.typ (by decide)) e
  ·exact (ha.scr.typ.apart hb.tyg (by decide)) e) (fun m => by
  rcases m with e | e
  ·exact (ha.scr.tyg.apart hb.typ (by decide)) e
  ·exact ng e) hb.noC, S.below (low W' ht) S.size⟩, by rw [es]; exact hb', q0, ?_, ?_⟩, hl9.symm, hm8, ?_, ?_, by rw [hsr, hsr', eR]⟩
 ·rcases hfrom with e | e
  ·rw [e]; exact h0
  ·have := ha.old.size; omega
 ·rcases hfrom with e | e
  ·rw [e]; exact ng
  ·have := ha.scr.ltg; omega
 ·exact RowsIn.rd hrow2 (fun x hx => by have := h300 x hx; omega)
 ·have := RowsIn.rd hrow' (fun x hx => by have := h300' x hx; omega)
  rwa [hl9] at this
theorem Two.same {w0 W : World} {p q : Nat} {s : Scr} (H : Two w0 p q s W) : Calls Tryz.prog 18 #[ptrS p, ptrS q] W fun e W' => e = .returned (.bool true) ∧ Below W.heap.size W W' := by
 obtain ⟨g, g2, cap, tail, xs, ys, H⟩ := H
 exact same_walk W H.a.scr H.b
end Sc
namespace Sc
abbrev U14OfR (k : Nat) := Ord.upto k 14
def ofTwoL : List Ord.Line := [
 (some 37, .move (.tmp 0), none, []),
 (some 38, .move (.tmp 1), none, []),
 (some 39, .move (.tmp 2), none, []),
 (some 40, .load 24 (.tmp 9), none, []),
 (some 41, .move (.tmp 4), none, []),
 (some 42, .call { callee := .value (.func 16), args := #[.tmp 37, .tmp 38, .tmp 39, .tmp 40, .tmp 41], argTypes := #[22, 3, 3, 24, 3] }, none, [0, 1, 2, 3, 4]),
 (some 43, .move (.tmp 0), none, []),
 (some 44, .move (.tmp 1), none, []),
 (some 45, .move (.tmp 2), none, []),
 (some 46, .load 24 (.tmp 9), none, []),
 (some 47, .move (.tmp 4), none, []),
 (some 48, .call { callee := .value (.func 17), args := #[.tmp 43, .tmp 44, .tmp 45, .tmp 46, .tmp 47], argTypes := #[22, 3, 3, 24, 3] }, none, [6, 7, 8, 9, 10, 5]),
 (some 14, .assign (.tmp 42), none, [5, 11, 0, 1, 2, 3, 4, 5]),
 (some 15, .assign (.tmp 48), none, [11, 12, 0, 1, 2, 3, 4, 5, 6, 7, 8, 9, 10, 11, 12])]
structure OfTwoFr (A : Option Addr) (n c : Nat) (wd ht t : Int) (b9 : Nat) (p3 p5 p6 p7 p8 p10 p11 p12 p13 p16 p17 p18 p19 p20 p21 p22 p23 p24 p25 p26 p27 p28 p29 p30 p31 p32 p33 p34 p35 p36 p49 p50 p51 p52 p53 p54 p55 p56 p57 p58 p59 p60 p61 p62 p63 p64 p65 : Value) (a : Act) : Prop where
 size : a.tmps.size = 66
 defers : a.defers = []
 s0 : Chain.At a 0 (.slice A n c)
 s1 : Chain.At a 1 (.int .i64 wd)
 s2 : Chain.At a 2 (.int .i64 ht)
 s3 : Chain.At a 3 (p3)
 s4 : Chain.At a 4 (.int .i64 t)
 s5 : Chain.At a 5 (p5)
 s6 : Chain.At a 6 (p6)
 s7 : Chain.At a 7 (p7)
 s8 : Chain.At a 8 (p8)
 s9 : Chain.At a 9 (.pointer (some ⟨b9, 0, none⟩))
 s10 : Chain.At a 10 (p10)
 s11 : Chain.At a 11 (p11)
 s12 : Chain.At a 12 (p12)
 s13 : Chain.At a 13 (p13)
 s16 : Chain.At a 16 (p16)
 s17 : Chain.At a 17 (p17)
 s18 : Chain.At a 18 (p18)
 s19 : Chain.At a 19 (p19)
 s20 : Chain.At a 20 (p20)
 s21 : Chain.At a 21 (p21)
 s22 : Chain.At a 22 (p22)
 s23 : Chain.At a 23 (p23)
 s24 : Chain.At a 24 (p24)
 s25 : Chain.At a 25 (p25)
 s26 : Chain.At a 26 (p26)
 s27 : Chain.At a 27 (p27)
 s28 : Chain.At a 28 (p28)
 s29 : Chain.At a 29 (p29)
 s30 : Chain.At a 30 (p30)
 s31 : Chain.At a 31 (p31)
 s32 : Chain.At a 32 (p32)
 s33 : Chain.At a 33 (p33)
 s34 : Chain.At a 34 (p34)
 s35 : Chain.At a 35 (p35)
 s36 : Chain.At a 36 (p36)
 s49 : Chain.At a 49 (p49)
 s50 : Chain.At a 50 (p50)
 s51 : Chain.At a 51 (p51)
 s52 : Chain.At a 52 (p52)
 s53 : Chain.At a 53 (p53)
 s54 : Chain.At a 54 (p54)
 s55 : Chain.At a 55 (p55)
 s56 : Chain.At a 56 (p56)
 s57 : Chain.At a 57 (p57)
 s58 : Chain.At a 58 (p58)
 s59 : Chain.At a 59 (p59)
 s60 : Chain.At a 60 (p60)
 s61 : Chain.At a 61 (p61)
 s62 : Chain.At a 62 (p62)
 s63 : Chain.At a 63 (p63)
 s64 : Chain.At a 64 (p64)
 s65 : Chain.At a 65 (p65)
theorem OfTwoFr.next {A : Option Addr} {n c : Nat} {wd ht t : Int} {b9 : Nat} {p3 p5 p6 p7 p8 p10 p11 p12 p13 p16 p17 p18 p19 p20 p21 p22 p23 p24 p25 p26 p27 p28 p29 p30 p31 p32 p33 p34 p35 p36 p49 p50 p51 p52 p53 p54 p55 p56 p57 p58 p59 p60 p61 p62 p63 p64 p65 : Value} {a a' : Act} {d : Nat} {v : Value} (F : OfTwoFr A n c wd ht t b9 p3 p5 p6 p7 p8 p10 p11 p12 p13 p16 p17 p18 p19 p20 p21 p22 p23 p24 p25 p26 p27 p28 p29 p30 p31 p32 p33 p34 p35 p36 p49 p50 p51 p52 p53 p54 p55 p56 p57 p58 p59 p60 p61 p62 p63 p64 p65 a) (nx : Chain.Next a a' d v) (h : d = 14 ∨ d = 15 ∨ (36 < d ∧ d < 49) := by decide) : OfTwoFr A n c wd ht t b9 p3 p5 p6 p7 p8 p10 p11 p12 p13 p16 p17 p18 p19 p20 p21 p22 p23 p24 p25 p26 p27 p28 p29 p30 p31 p32 p33 p34 p35 p36 p49 p50 p51 p52 p53 p54 p55 p56 p57 p58 p59 p60 p61 p62 p63 p64 p65 a' := ⟨nx.size.trans F.size, nx.defers.trans F.defers, nx.k F.s0 (by omega), nx.k F.s1 (by omega), nx.k F.s2 (by omega), nx.k F.s3 (by omega), nx.k F.s4 (by omega), nx.k F.s5 (by omega), nx.k F.s6 (by omega), nx.k F.s7 (by omega), nx.k F.s8 (by omega), nx.k F.s9 (by omega), nx.k F.s10 (by omega), nx.k F.s11 (by omega), nx.k F.s12 (by omega), nx.k F.s13 (by omega), nx.k F.s16 (by omega), nx.k F.s17 (by omega), nx.k F.s18 (by omega), nx.k F.s19 (by omega), nx.k F.s20 (by omega), nx.k F.s21 (by omega), nx.k F.s22 (by omega), nx.k F.s23 (by omega), nx.k F.s24 (by omega), nx.k F.s25 (by omega), nx.k F.s26 (by omega), nx.k F.s27 (by omega), nx.k F.s28 (by omega), nx.k F.s29 (by omega), nx.k F.s30 (by omega), nx.k F.s31 (by omega), nx.k F.s32 (by omega), nx.k F.s33 (by omega), nx.k F.s34 (by omega), nx.k F.s35 (by omega), nx.k F.s36 (by omega), nx.k F.s49 (by omega), nx.k F.s50 (by omega), nx.k F.s51 (by omega), nx.k F.s52 (by omega), nx.k F.s53 (by omega), nx.k F.s54 (by omega), nx.k F.s55 (by omega), nx.k F.s56 (by omega), nx.k F.s57 (by omega), nx.k F.s58 (by omega), nx.k F.s59 (by omega), nx.k F.s60 (by omega), nx.k F.s61 (by omega), nx.k F.s62 (by omega), nx.k F.s63 (by omega), nx.k F.s64 (by omega), nx.k F.s65 (by omega)⟩
theorem OfTwoFr.lt {A : Option Addr} {n c : Nat} {wd ht t : Int} {b9 : Nat} {p3 p5 p6 p7 p8 p10 p11 p12 p13 p16 p17 p18 p19 p20 p21 p22 p23 p24 p25 p26 p27 p28 p29 p30 p31 p32 p33 p34 p35 p36 p49 p50 p51 p52 p53 p54 p55 p56 p57 p58 p59 p60 p61 p62 p63 p64 p65 : Value} {a : Act} {d : Nat} (F : OfTwoFr A n c wd ht t b9 p3 p5 p6 p7 p8 p10 p11 p12 p13 p16 p17 p18 p19 p20 p21 p22 p23 p24 p25 p26 p27 p28 p29 p30 p31 p32 p33 p34 p35 p36 p49 p50 p51 p52 p53 p54 p55 p56 p57 p58 p59 p60 p61 p62 p63 p64 p65 a) (h : d < 66 := by decide) : d < a.tmps.size := by rw [F.size]; exact h
theorem ofTwo_region {ops : Array Oper} {Q : Exit → Act → World → Prop} (R : Ord.Reg ops ofTwoL) (hQ : Ord.HQ Q) {w1 : World} {A : Option Addr} {n c b9 : Nat} {wd ht t r cc : Int} {p3 p5 p6 p7 p8 p10 p11 p12 p13 p16 p17 p18 p19 p20 p21 p22 p23 p24 p25 p26 p27 p28 p29 p30 p31 p32 p33 p34 p35 p36 p49 p50 p51 p52 p53 p54 p55 p56 p57 p58 p59 p60 p61 p62 p63 p64 p65 : Value} {P1 : World → Nat → Prop} {P2 : World → Nat → Nat → Prop}
  (k0 : ∀ w : World, Below w1.heap.size w1 w → w.cell? ⟨b9, 0, none⟩ = some (.int .i64 r)) (k1 : ∀ w : World, Below w1.heap.size w1 w → w.cell? ⟨b9, 1, none⟩ = some (.int .i64 cc))
  (C1 : Calls Tryz.prog 16 #[.slice A n c, .int .i64 wd, .int .i64 ht, .agg #[.int .i64 r, .int .i64 cc], .int .i64 t] w1 fun e w' => ∃ p, e = .returned (.pointer (some ⟨p, 0, none⟩)) ∧ P1 w' p)
  (C2 : ∀ w p, P1 w p → Calls Tryz.prog 17 #[.slice A n c, .int .i64 wd, .int .i64 ht, .agg #[.int .i64 r, .int .i64 cc], .int .i64 t] w fun e w' => ∃ q, e = .returned (.pointer (some ⟨q, 0, none⟩)) ∧ P2 w' p q)
  (KS1 : ∀ w p, P1 w p → Below w1.heap.size w1 w) (KS2 : ∀ w p q, P2 w p q → Below w1.heap.size w1 w)
  (a : Act) (F : OfTwoFr A n c wd ht t b9 p3 p5 p6 p7 p8 p10 p11 p12 p13 p16 p17 p18 p19 p20 p21 p22 p23 p24 p25 p26 p27 p28 p29 p30 p31 p32 p33 p34 p35 p36 p49 p50 p51 p52 p53 p54 p55 p56 p57 p58 p59 p60 p61 p62 p63 p64 p65 a) (h : ∀ a w p q, P2 w p q → OfTwoFr A n c wd ht t b9 p3 p5 p6 p7 p8 p10 p11 p12 p13 p16 p17 p18 p19 p20 p21 p22 p23 p24 p25 p26 p27 p28 p29 p30 p31 p32 p33 p34 p35 p36 p49 p50 p51 p52 p53 p54 p55 p56 p57 p58 p59 p60 p61 p62 p63 p64 p65 a → Chain.At a 14 (.pointer (some ⟨p, 0, none⟩)) → Chain.At a 15 (.pointer (some ⟨q, 0, none⟩)) → Q .normal a w) :
  wpAnyH Tryz.prog .any ops Q (fun w => Below w1.heap.size w1 w) 14 (List.replicate 14 false).toArray a w1 := by
 have hS : Below w1.heap.size w1 w1 := Below.refl _ _
 refine Ord.tj R 0 (.slice A n c) (U14OfR 1) rfl hQ trivial hS (fun w _ hS => Chain.ev_move F.s0.ev) F.lt fun a0 N => ?_
 replace F := F.next N
 have f37 := N.got
 clear N a
 refine Ord.tk R 1 (.int .i64 wd) rfl hQ hS (fun w _ hS => Chain.ev_move F.s1.ev) F.lt fun a1 N => ?_
 replace F := F.next N
 replace f37 := N.k f37
 have f38 := N.got
 clear N a0
 refine Ord.tk R 2 (.int .i64 ht) rfl hQ hS (fun w _ hS => Chain.ev_move F.s2.ev) F.lt fun a2 N => ?_
 replace F := F.next N
 replace f37 := N.k f37
 replace f38 := N.k f38
 have f39 := N.got
 clear N a1
 refine Ord.tk R 3 (.agg #[.int .i64 r, .int .i64 cc]) rfl hQ hS (fun w _ hS => by have e9 := F.s9.u; have q0 := (k0 w hS); have q1 := (k1 w hS); clear F; go_simp) F.lt fun a3 N => ?_
 replace F := F.next N
 replace f37 := N.k f37
 replace f38 := N.k f38
 replace f39 := N.k f39
 have f40 := N.got
 clear N a2
 refine Ord.tk R 4 (.int .i64 t) rfl hQ hS (fun w _ hS => Chain.ev_move F.s4.ev) F.lt fun a4 N => ?_
 replace F := F.next N
 replace f37 := N.k f37
 replace f38 := N.k f38
 replace f39 := N.k f39
 replace f40 := N.k f40
 have f41 := N.got
 clear N a3
 refine Ord.tj R 6 (.slice A n c) (Ord.bt 14 95) rfl hQ trivial hS (fun w _ hS => Chain.ev_move F.s0.ev) F.lt fun a6 N => ?_
 replace F := F.next N
 replace f37 := N.k f37
 replace f38 := N.k f38
 replace f39 := N.k f39
 replace f40 := N.k f40
 replace f41 := N.k f41
 have f43 := N.got
 clear N a4
 refine Ord.tj R 7 (.int .i64 wd) (Ord.bt 14 223) rfl hQ trivial hS (fun w _ hS => Chain.ev_move F.s1.ev) F.lt fun a7 N => ?_
 replace F := F.next N
 replace f37 := N.k f37
 replace f38 := N.k f38
 replace f39 := N.k f39
 replace f40 := N.k f40
 replace f41 := N.k f41
 replace f43 := N.k f43
 have f44 := N.got
 clear N a6
 refine Ord.tj R 8 (.int .i64 ht) (Ord.bt 14 479) rfl hQ trivial hS (fun w _ hS => Chain.ev_move F.s2.ev) F.lt fun a8 N => ?_
 replace F := F.next N
 replace f37 := N.k f37
 replace f38 := N.k f38
 replace f39 := N.k f39
 replace f40 := N.k f40
 replace f41 := N.k f41
 replace f43 := N.k f43
 replace f44 := N.k f44
 have f45 := N.got
 clear N a7
 refine Ord.tj R 9 (.agg #[.int .i64 r, .int .i64 cc]) (Ord.bt 14 991) rfl hQ trivial hS (fun w _ hS => by have e9 := F.s9.u; have q0 := (k0 w hS); have q1 := (k1 w hS); clear F; go_simp) F.lt fun a9 N => ?_
 replace F := F.next N
 replace f37 := N.k f37
 replace f38 := N.k f38
 replace f39 := N.k f39
 replace f40 := N.k f40
 replace f41 := N.k f41
 replace f43 := N.k f43
 replace f44 := N.k f44
 replace f45 := N.k f45
 have f46 := N.got
 clear N a8
 refine Ord.tj R 10 (.int .i64 t) (Ord.bt 14 2015) rfl hQ trivial hS (fun w _ hS => Chain.ev_move F.s4.ev) F.lt fun a10 N => ?_
 replace F := F.next N
 replace f37 := N.k f37
 replace f38 := N.k f38
 replace f39 := N.k f39
 replace f40 := N.k f40
 replace f41 := N.k f41
 replace f43 := N.k f43
 replace f44 := N.k f44
 replace f45 := N.k f45
 replace f46 := N.k f46
 have f47 := N.got
 clear N a9
 refine Ord.call R (k := 5) (args := #[.slice A n c, .int .i64 wd, .int .i64 ht, .agg #[.int .i64 r, .int .i64 cc], .int .i64 t]) (bs' := U14OfR 11) rfl (by kernel_rfl) trivial (by simp [f37.ev, f38.ev, f39.ev, f40.ev, f41.ev]) (by kernel_rfl) (C1) F.lt ?_
 rintro e w ⟨p, rfl, K1⟩
 replace hS := KS1 w p K1
 refine ⟨_, rfl, hS, fun a5 N => ?_⟩
 replace F := F.next N
 clear f37
 clear f38
 clear f39
 clear f40
 clear f41
 replace f43 := N.k f43
 replace f44 := N.k f44
 replace f45 := N.k f45
 replace f46 := N.k f46
 replace f47 := N.k f47
 have f42 := N.got
 clear N a10
 refine Ord.call R (k := 11) (args := #[.slice A n c, .int .i64 wd, .int .i64 ht, .agg #[.int .i64 r, .int .i64 cc], .int .i64 t]) (bs' := U14OfR 12) rfl (by kernel_rfl) trivial (by simp [f43.ev, f44.ev, f45.ev, f46.ev, f47.ev]) (by kernel_rfl) (C2 w p K1) F.lt ?_
 rintro e w ⟨q, rfl, K2⟩
 replace hS := KS2 w p q K2
 refine ⟨_, rfl, hS, fun a11 N => ?_⟩
 replace F := F.next N
 replace f42 := N.k f42
 clear f43
 clear f44
 clear f45
 clear f46
 clear f47
 have f48 := N.got
 clear N a5
 refine Ord.tk R 12 (.pointer (some ⟨p, 0, none⟩)) rfl hQ hS (fun w _ hS => Chain.ev_assign f42.ev) F.lt fun a12 N => ?_
 replace F := F.next N
 clear f42
 replace f48 := N.k f48
 have f14 := N.got
 clear N a11
 refine Ord.tk R 13 (.pointer (some ⟨q, 0, none⟩)) rfl hQ hS (fun w _ hS => Chain.ev_assign f48.ev) F.lt fun a13 N => ?_
 replace F := F.next N
 replace f14 := N.k f14
 clear f48
 have f15 := N.got
 clear N a12
 exact Ord.finish R (by kernel_rfl) (h _ _ _ _ K2 F f14 f15)
theorem ofTwo_frame {a : Act} {w : World} {K : Act → World → Prop} {v0 v1 v2 v3 v4 v5 v6 v7 v8 v9 v10 v11 v12 v13 v14 v15 v16 v17 v18 v19 v20 v21 v22 v23 v24 v25 v26 v27 v28 v29 v30 v31 v32 v33 v34 v35 v36 v49 v50 v51 v52 v53 v54 v55 v56 v57 v58 v59 v60 v61 v62 v63 v64 v65 : Value} (hz : a.tmps.size = 66) (hd : a.defers = []) (f0 : Chain.At a 0 v0) (f1 : Chain.At a 1 v1) (f2 : Chain.At a 2 v2) (f3 : Chain.At a 3 v3) (f4 : Chain.At a 4 v4) (f5 : Chain.At a 5 v5) (f6 : Chain.At a 6 v6) (f7 : Chain.At a 7 v7) (f8 : Chain.At a 8 v8) (f9 : Chain.At a 9 v9) (f10 : Chain.At a 10 v10) (f11 : Chain.At a 11 v11) (f12 : Chain.At a 12 v12) (f13 : Chain.At a 13 v13) (f14 : Chain.At a 14 v14) (f15 : Chain.At a 15 v15) (f16 : Chain.At a 16 v16) (f17 : Chain.At a 17 v17) (f18 : Chain.At a 18 v18) (f19 : Chain.At a 19 v19) (f20 : Chain.At a 20 v20) (f21 : Chain.At a 21 v21) (f22 : Chain.At a 22 v22) (f23 : Chain.At a 23 v23) (f24 : Chain.At a 24 v24) (f25 : Chain.At a 25 v25) (f26 : Chain.At a 26 v26) (f27 : Chain.At a 27 v27) (f28 : Chain.At a 28 v28) (f29 : Chain.At a 29 v29) (f30 : Chain.At a 30 v30) (f31 : Chain.At a 31 v31) (f32 : Chain.At a 32 v32) (f33 : Chain.At a 33 v33) (f34 : Chain.At a 34 v34) (f35 : Chain.At a 35 v35) (f36 : Chain.At a 36 v36) (f49 : Chain.At a 49 v49) (f50 : Chain.At a 50 v50) (f51 : Chain.At a 51 v51) (f52 : Chain.At a 52 v52) (f53 : Chain.At a 53 v53) (f54 : Chain.At a 54 v54) (f55 : Chain.At a 55 v55) (f56 : Chain.At a 56 v56) (f57 : Chain.At a 57 v57) (f58 : Chain.At a 58 v58) (f59 : Chain.At a 59 v59) (f60 : Chain.At a 60 v60) (f61 : Chain.At a 61 v61) (f62 : Chain.At a 62 v62) (f63 : Chain.At a 63 v63) (f64 : Chain.At a 64 v64) (f65 : Chain.At a 65 v65)
  (h : ∀ u37 u38 u39 u40 u41 u42 u43 u44 u45 u46 u47 u48 : Value, K ⟨#[v0, v1, v2, v3, v4, v5, v6, v7, v8, v9, v10, v11, v12, v13, v14, v15, v16, v17, v18, v19, v20, v21, v22, v23, v24, v25, v26, v27, v28, v29, v30, v31, v32, v33, v34, v35, v36, u37, u38, u39, u40, u41, u42, u43, u44, u45, u46, u47, u48, v49, v50, v51, v52, v53, v54, v55, v56, v57, v58, v59, v60, v61, v62, v63, v64, v65], []⟩ w) : K a w := by
 have e := Ord.frame_gets hz hd
 simp only [Ord.gets, Nat.reduceAdd] at e
 rw [Ord.at_get f0, Ord.at_get f1, Ord.at_get f2, Ord.at_get f3, Ord.at_get f4, Ord.at_get f5, Ord.at_get f6, Ord.at_get f7, Ord.at_get f8, Ord.at_get f9, Ord.at_get f10, Ord.at_get f11, Ord.at_get f12, Ord.at_get f13, Ord.at_get f14, Ord.at_get f15, Ord.at_get f16, Ord.at_get f17, Ord.at_get f18, Ord.at_get f19, Ord.at_get f20, Ord.at_get f21, Ord.at_get f22, Ord.at_get f23, Ord.at_get f24, Ord.at_get f25, Ord.at_get f26, Ord.at_get f27, Ord.at_get f28, Ord.at_get f29, Ord.at_get f30, Ord.at_get f31, Ord.at_get f32, Ord.at_get f33, Ord.at_get f34, Ord.at_get f35, Ord.at_get f36, Ord.at_get f49, Ord.at_get f50, Ord.at_get f51, Ord.at_get f52, Ord.at_get f53, Ord.at_get f54, Ord.at_get f55, Ord.at_get f56, Ord.at_get f57, Ord.at_get f58, Ord.at_get f59, Ord.at_get f60, Ord.at_get f61, Ord.at_get f62, Ord.at_get f63, Ord.at_get f64, Ord.at_get f65] at e
 rw [e]
 exact h _ _ _ _ _ _ _ _ _ _ _ _
end Sc
