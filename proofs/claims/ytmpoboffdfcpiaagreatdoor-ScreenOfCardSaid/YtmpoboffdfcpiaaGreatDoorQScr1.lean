import Derived.Test.YtmpoboffdfcpiaaGreatDoorQScr0
set_option maxRecDepth 100000
namespace Go.Proofs.YtmpoboffdfcpiaaGreatDoor
open Go.ChangeShapes Go.WideShapes Go.ChangeAt Go.RowKit
namespace Sc
abbrev U10ScrR (k : Nat) := Ord.upto k 10
abbrev U14ScrR (k : Nat) := Ord.upto k 14
abbrev U16ScrR (k : Nat) := Ord.upto k 16
abbrev U20ScrR (k : Nat) := Ord.upto k 20
abbrev U32ScrR (k : Nat) := Ord.upto k 32
def moveL : List Ord.Line := [
 (some 6, .move (.tmp 0), none, []),
 (some 7, .move (.tmp 1), none, []),
 (some 8, .move (.tmp 0), none, []),
 (some 9, .nilCheck (.tmp 8), none, [2]),
 (some 10, .fieldAddr 93 (.tmp 9) 1, none, [3]),
 (some 11, .load 22 (.tmp 10), none, [4]),
 (some 12, .call { callee := .builtin .len, args := #[.tmp 11], argTypes := #[22] }, none, [5]),
 (some 13, .binOp .sub 3 (.tmp 12) (.const (.int .i64 1)) 3, none, [6]),
 (some 14, .call { callee := .value (.func 56), args := #[.tmp 7, .const (.int .i64 0), .tmp 13], argTypes := #[3, 3, 3] }, none, [1, 7]),
 (some 15, .move (.tmp 2), none, []),
 (some 16, .move (.tmp 0), none, []),
 (some 17, .nilCheck (.tmp 16), none, [10]),
 (some 18, .fieldAddr 93 (.tmp 17) 0, none, [11]),
 (some 19, .load 3 (.tmp 18), none, [12]),
 (some 20, .binOp .sub 3 (.tmp 19) (.const (.int .i64 1)) 3, none, [13]),
 (some 21, .call { callee := .value (.func 56), args := #[.tmp 15, .const (.int .i64 0), .tmp 20], argTypes := #[3, 3, 3] }, none, [9, 14, 8]),
 (some 22, .build 24 #[(0, .tmp 14), (1, .tmp 21)], none, [8, 15]),
 (some 23, .nilCheck (.tmp 6), none, [0, 0, 1, 2, 3, 4, 5, 6, 7, 8, 9, 10, 11, 12, 13, 14, 15, 16]),
 (some 24, .fieldAddr 93 (.tmp 23) 2, none, [17, 0, 1, 2, 3, 4, 5, 6, 7, 8, 9, 10, 11, 12, 13, 14, 15, 16]),
 (none, .store 24 (.tmp 24) (.tmp 22), none, [18, 16, 15, 0, 1, 2, 3, 4, 5, 6, 7, 8, 9, 10, 11, 12, 13, 14, 15, 16])]
structure MoveFr (p : Nat) (line col : Int) (p3 p4 p5 : Value) (a : Act) : Prop where
 size : a.tmps.size = 25
 defers : a.defers = []
 s0 : Chain.At a 0 (.pointer (some ⟨p, 0, none⟩))
 s1 : Chain.At a 1 (.int .i64 line)
 s2 : Chain.At a 2 (.int .i64 col)
 s3 : Chain.At a 3 (p3)
 s4 : Chain.At a 4 (p4)
 s5 : Chain.At a 5 (p5)
theorem MoveFr.next {p : Nat} {line col : Int} {p3 p4 p5 : Value} {a a' : Act} {d : Nat} {v : Value} (F : MoveFr p line col p3 p4 p5 a) (nx : Chain.Next a a' d v) (h : d ≠ 0 ∧ d ≠ 1 ∧ d ≠ 2 ∧ d ≠ 3 ∧ d ≠ 4 ∧ d ≠ 5 := by decide) : MoveFr p line col p3 p4 p5 a' := ⟨nx.size.trans F.size, nx.defers.trans F.defers, nx.k F.s0 (by omega), nx.k F.s1 (by omega), nx.k F.s2 (by omega), nx.k F.s3 (by omega), nx.k F.s4 (by omega), nx.k F.s5 (by omega)⟩
theorem MoveFr.lt {p : Nat} {line col : Int} {p3 p4 p5 : Value} {a : Act} {d : Nat} (F : MoveFr p line col p3 p4 p5 a) (h : d < 25 := by decide) : d < a.tmps.size := by rw [F.size]; exact h
theorem move_region {ops : Array Oper} {Q : Exit → Act → World → Prop} (R : Ord.Reg ops moveL) (hQ : Ord.HQ Q) {w1 : World} {p g sw sh : Nat} {line col X Y : Int} {p3 p4 p5 : Value}
  (k0 : ∀ w, w = w1 ∨ w = (w1.setCell ⟨p, 2, none⟩ (.int .i64 X)).setCell ⟨p, 3, none⟩ (.int .i64 Y) → w.cell? ⟨p, 0, none⟩ = some (.int .i64 (sw : Int))) (k1 : ∀ w, w = w1 ∨ w = (w1.setCell ⟨p, 2, none⟩ (.int .i64 X)).setCell ⟨p, 3, none⟩ (.int .i64 Y) → w.cell? ⟨p, 1, none⟩ = some (.slice (some ⟨g, 0, none⟩) sh sh))
  (k2 : ∃ v, w1.cell? ⟨p, 2, none⟩ = some v) (k3 : ∃ v, w1.cell? ⟨p, 3, none⟩ = some v) (f2 : w1.frozen? ⟨p, 2, none⟩ = false) (f3 : w1.frozen? ⟨p, 3, none⟩ = false)
  (hh : IntKind.i64.wrap ((sh : Int) - 1) = ((sh - 1 : Nat) : Int)) (hw : IntKind.i64.wrap ((sw : Int) - 1) = ((sw - 1 : Nat) : Int))
  (CL : ∀ w, Calls Tryz.prog 56 #[.int .i64 line, .int .i64 0, .int .i64 ((sh - 1 : Nat) : Int)] w fun e w' => e = .returned (.int .i64 X) ∧ w = w') (CC : ∀ w, Calls Tryz.prog 56 #[.int .i64 col, .int .i64 0, .int .i64 ((sw - 1 : Nat) : Int)] w fun e w' => e = .returned (.int .i64 Y) ∧ w = w')
  (a : Act) (F : MoveFr p line col p3 p4 p5 a) (h : ∀ a, MoveFr p line col p3 p4 p5 a → Q .normal a ((w1.setCell ⟨p, 2, none⟩ (.int .i64 X)).setCell ⟨p, 3, none⟩ (.int .i64 Y))) :
  wpAnyH Tryz.prog .any ops Q (fun w => w = w1 ∨ w = (w1.setCell ⟨p, 2, none⟩ (.int .i64 X)).setCell ⟨p, 3, none⟩ (.int .i64 Y)) 20 (List.replicate 20 false).toArray a w1 := by
 obtain ⟨v2, k2⟩ := k2
 obtain ⟨v3, k3⟩ := k3
 have hS : w1 = w1 ∨ w1 = (w1.setCell ⟨p, 2, none⟩ (.int .i64 X)).setCell ⟨p, 3, none⟩ (.int .i64 Y) := .inl rfl
 refine Ord.tj R 0 (.pointer (some ⟨p, 0, none⟩)) (U20ScrR 1) rfl hQ trivial hS (fun w _ hS => Chain.ev_move F.s0.ev) F.lt fun a0 N => ?_
 replace F := F.next N
 have f6 := N.got
 clear N a
 refine Ord.tk R 1 (.int .i64 line) rfl hQ hS (fun w _ hS => Chain.ev_move F.s1.ev) F.lt fun a1 N => ?_
 replace F := F.next N
 replace f6 := N.k f6
 have f7 := N.got
 clear N a0
 refine Ord.tk R 2 (.pointer (some ⟨p, 0, none⟩)) rfl hQ hS (fun w _ hS => Chain.ev_move F.s0.ev) F.lt fun a2 N => ?_
 replace F := F.next N
 replace f6 := N.k f6
 replace f7 := N.k f7
 have f8 := N.got
 clear N a1
 refine Ord.tk R 3 (.pointer (some ⟨p, 0, none⟩)) rfl hQ hS (fun w _ hS => by have e8 := f8.u; clear F; go_simp) F.lt fun a3 N => ?_
 replace F := F.next N
 replace f6 := N.k f6
 replace f7 := N.k f7
 clear f8
 have f9 := N.got
 clear N a2
 refine Ord.tk R 4 (.pointer (some ⟨p, 1, none⟩)) rfl hQ hS (fun w _ hS => by have e9 := f9.u; clear F; go_simp) F.lt fun a4 N => ?_
 replace F := F.next N
 replace f6 := N.k f6
 replace f7 := N.k f7
 clear f9
 have f10 := N.got
 clear N a3
 refine Ord.tk R 5 (.slice (some ⟨g, 0, none⟩) sh sh) rfl hQ hS (fun w _ hS => by have e10 := f10.u; have q0 := (k1 w hS); clear F; go_simp) F.lt fun a5 N => ?_
 replace F := F.next N
 replace f6 := N.k f6
 replace f7 := N.k f7
 clear f10
 have f11 := N.got
 clear N a4
 refine Ord.tk R 6 (.int .i64 (sh : Int)) rfl hQ hS (fun w _ hS => by have e11 := f11.u; clear F; go_simp) F.lt fun a6 N => ?_
 replace F := F.next N
 replace f6 := N.k f6
 replace f7 := N.k f7
 clear f11
 have f12 := N.got
 clear N a5
 refine Ord.tk R 7 (.int .i64 ((sh - 1 : Nat) : Int)) rfl hQ hS (fun w _ hS => by have e12 := f12.u; have q0 := hh; clear F; go_simp) F.lt fun a7 N => ?_
 replace F := F.next N
 replace f6 := N.k f6
 replace f7 := N.k f7
 clear f12
 have f13 := N.got
 clear N a6
 refine Ord.tj R 9 (.int .i64 col) (Ord.bt 20 767) rfl hQ trivial hS (fun w _ hS => Chain.ev_move F.s2.ev) F.lt fun a9 N => ?_
 replace F := F.next N
 replace f6 := N.k f6
 replace f7 := N.k f7
 replace f13 := N.k f13
 have f15 := N.got
 clear N a7
 refine Ord.tj R 10 (.pointer (some ⟨p, 0, none⟩)) (Ord.bt 20 1791) rfl hQ trivial hS (fun w _ hS => Chain.ev_move F.s0.ev) F.lt fun a10 N => ?_
 replace F := F.next N
 replace f6 := N.k f6
 replace f7 := N.k f7
 replace f13 := N.k f13
 replace f15 := N.k f15
 have f16 := N.got
 clear N a9
 refine Ord.tj R 11 (.pointer (some ⟨p, 0, none⟩)) (Ord.bt 20 3839) rfl hQ trivial hS (fun w _ hS => by have e16 := f16.u; clear F; go_simp) F.lt fun a11 N => ?_
 replace F := F.next N
 replace f6 := N.k f6
 replace f7 := N.k f7
 replace f13 := N.k f13
 replace f15 := N.k f15
 clear f16
 have f17 := N.got
 clear N a10
 refine Ord.tj R 12 (.pointer (some ⟨p, 0, none⟩)) (Ord.bt 20 7935) rfl hQ trivial hS (fun w _ hS => by have e17 := f17.u; clear F; go_simp) F.lt fun a12 N => ?_
 replace F := F.next N
 replace f6 := N.k f6
 replace f7 := N.k f7
 replace f13 := N.k f13
 replace f15 := N.k f15
 clear f17
 have f18 := N.got
 clear N a11
 refine Ord.tj R 13 (.int .i64 (sw : Int)) (Ord.bt 20 16127) rfl hQ trivial hS (fun w _ hS => by have e18 := f18.u; have q0 := (k0 w hS); clear F; go_simp) F.lt fun a13 N => ?_
 replace F := F.next N
 replace f6 := N.k f6
 replace f7 := N.k f7
 replace f13 := N.k f13
 replace f15 := N.k f15
 clear f18
 have f19 := N.got
 clear N a12
 refine Ord.tj R 14 (.int .i64 ((sw - 1 : Nat) : Int)) (Ord.bt 20 32511) rfl hQ trivial hS (fun w _ hS => by have e19 := f19.u; have q0 := hw; clear F; go_simp) F.lt fun a14 N => ?_
 replace F := F.next N
 replace f6 := N.k f6
 replace f7 := N.k f7
 replace f13 := N.k f13
 replace f15 := N.k f15
 clear f19
 have f20 := N.got
 clear N a13
 refine Ord.call R (k := 8) (args := #[.int .i64 line, .int .i64 0, .int .i64 ((sh - 1 : Nat) : Int)]) (bs' := U20ScrR 15) rfl (by kernel_rfl) trivial (by simp [f7.ev, f13.ev, Ord.ev_c]) (by kernel_rfl) (CL _) F.lt ?_
 rintro e w ⟨rfl, rfl⟩
 replace hS := hS
 refine ⟨_, rfl, hS, fun a8 N => ?_⟩
 replace F := F.next N
 replace f6 := N.k f6
 clear f7
 clear f13
 replace f15 := N.k f15
 replace f20 := N.k f20
 have f14 := N.got
 clear N a14
 refine Ord.call R (k := 15) (args := #[.int .i64 col, .int .i64 0, .int .i64 ((sw - 1 : Nat) : Int)]) (bs' := U20ScrR 16) rfl (by kernel_rfl) trivial (by simp [f15.ev, f20.ev, Ord.ev_c]) (by kernel_rfl) (CC _) F.lt ?_
 rintro e w ⟨rfl, rfl⟩
 replace hS := hS
 refine ⟨_, rfl, hS, fun a15 N => ?_⟩
 replace F := F.next N
 replace f6 := N.k f6
 replace f14 := N.k f14
 clear f15
 clear f20
 have f21 := N.got
 clear N a8
 refine Ord.tk R 16 (.agg #[.int .i64 X, .int .i64 Y]) rfl hQ hS (fun w _ hS => by have e14 := f14.u; have e21 := f21.u; clear F; go_simp) F.lt fun a16 N => ?_
 replace F := F.next N
 replace f6 := N.k f6
 clear f14
 clear f21
 have f22 := N.got
 clear N a15
 refine Ord.tk R 17 (.pointer (some ⟨p, 0, none⟩)) rfl hQ hS (fun w _ hS => by have e6 := f6.u; clear F; go_simp) F.lt fun a17 N => ?_
 replace F := F.next N
 clear f6
 replace f22 := N.k f22
 have f23 := N.got
 clear N a16
 refine Ord.tk R 18 (.pointer (some ⟨p, 2, none⟩)) rfl hQ hS (fun w _ hS => by have e23 := f23.u; clear F; go_simp) F.lt fun a18 N => ?_
 replace F := F.next N
 replace f22 := N.k f22
 clear f23
 have f24 := N.got
 clear N a17
 refine Ord.effect R (k := 19) (bs' := U20ScrR 20) (w1 := (w1.setCell ⟨p, 2, none⟩ (.int .i64 X)).setCell ⟨p, 3, none⟩ (.int .i64 Y)) rfl (by kernel_rfl) trivial (.inr rfl) (fun _ => by have e0 := f22; have e1 := f24; unfold Chain.At at e0 e1; clear F; go_simp) ?_
 exact Ord.finish R (by kernel_rfl) (h _ F)
theorem move_frame {a : Act} {w : World} {K : Act → World → Prop} {v0 v1 v2 v3 v4 v5 : Value} (hz : a.tmps.size = 25) (hd : a.defers = []) (f0 : Chain.At a 0 v0) (f1 : Chain.At a 1 v1) (f2 : Chain.At a 2 v2) (f3 : Chain.At a 3 v3) (f4 : Chain.At a 4 v4) (f5 : Chain.At a 5 v5)
  (h : ∀ u6 u7 u8 u9 u10 u11 u12 u13 u14 u15 u16 u17 u18 u19 u20 u21 u22 u23 u24 : Value, K ⟨#[v0, v1, v2, v3, v4, v5, u6, u7, u8, u9, u10, u11, u12, u13, u14, u15, u16, u17, u18, u19, u20, u21, u22, u23, u24], []⟩ w) : K a w := by
 have e := Ord.frame_gets hz hd
 simp only [Ord.gets, Nat.reduceAdd] at e
 rw [Ord.at_get f0, Ord.at_get f1, Ord.at_get f2, Ord.at_get f3, Ord.at_get f4, Ord.at_get f5] at e
 rw [e]
 exact h _ _ _ _ _ _ _ _ _ _ _ _ _ _ _ _ _ _ _
def setL : List Ord.Line := [
 (some 5, .move (.tmp 0), none, []),
 (some 6, .nilCheck (.tmp 5), none, [0]),
 (some 7, .fieldAddr 93 (.tmp 6) 1, none, [1]),
 (some 8, .load 22 (.tmp 7), none, [2]),
 (some 9, .move (.tmp 0), none, []),
 (some 10, .nilCheck (.tmp 9), none, [4]),
 (some 11, .fieldAddr 93 (.tmp 10) 2, none, [5]),
 (some 12, .fieldAddr 24 (.tmp 11) 0, none, [6]),
 (some 13, .load 3 (.tmp 12), none, [7]),
 (some 14, .move (.tmp 0), none, []),
 (some 15, .nilCheck (.tmp 14), none, [9]),
 (some 16, .fieldAddr 93 (.tmp 15) 1, none, [10]),
 (some 17, .load 22 (.tmp 16), none, [11]),
 (some 18, .move (.tmp 0), none, []),
 (some 19, .nilCheck (.tmp 18), none, [13]),
 (some 20, .fieldAddr 93 (.tmp 19) 2, none, [14]),
 (some 21, .fieldAddr 24 (.tmp 20) 0, none, [15]),
 (some 22, .load 3 (.tmp 21), none, [16]),
 (some 23, .indexAddr 22 (.tmp 17) (.tmp 22), none, [12, 17]),
 (some 24, .load 58 (.tmp 23), none, [18]),
 (some 25, .move (.tmp 0), none, []),
 (some 26, .nilCheck (.tmp 25), none, [20]),
 (some 27, .fieldAddr 93 (.tmp 26) 2, none, [21]),
 (some 28, .fieldAddr 24 (.tmp 27) 1, none, [22]),
 (some 29, .load 3 (.tmp 28), none, [23]),
 (some 30, .move (.tmp 1), none, []),
 (some 31, .call { callee := .value (.func 47), args := #[.tmp 24, .tmp 29, .tmp 30], argTypes := #[58, 3, 51] }, none, [19, 24, 25]),
 (some 4, .move (.tmp 31), none, [26]),
 (some 32, .extract (.tmp 4) 0, none, [27]),
 (some 33, .extract (.tmp 4) 1, none, [27]),
 (some 34, .indexAddr 22 (.tmp 8) (.tmp 13), none, [3, 8, 0, 1, 2, 3, 4, 5, 6, 7, 8, 9, 10, 11, 12, 13, 14, 15, 16, 17, 18, 19, 20, 21, 22, 23, 24, 25, 26, 27, 28]),
 (none, .store 58 (.tmp 34) (.tmp 32), none, [30, 28, 26, 0, 1, 2, 3, 4, 5, 6, 7, 8, 9, 10, 11, 12, 13, 14, 15, 16, 17, 18, 19, 20, 21, 22, 23, 24, 25, 26, 27, 28])]
structure SetFr (p : Nat) (lA : Option Addr) (lm lc : Nat) (p2 p3 : Value) (a : Act) : Prop where
 size : a.tmps.size = 35
 defers : a.defers = []
 s0 : Chain.At a 0 (.pointer (some ⟨p, 0, none⟩))
 s1 : Chain.At a 1 (.slice lA lm lc)
 s2 : Chain.At a 2 (p2)
 s3 : Chain.At a 3 (p3)
theorem SetFr.next {p : Nat} {lA : Option Addr} {lm lc : Nat} {p2 p3 : Value} {a a' : Act} {d : Nat} {v : Value} (F : SetFr p lA lm lc p2 p3 a) (nx : Chain.Next a a' d v) (h : d ≠ 0 ∧ d ≠ 1 ∧ d ≠ 2 ∧ d ≠ 3 := by decide) : SetFr p lA lm lc p2 p3 a' := ⟨nx.size.trans F.size, nx.defers.trans F.defers, nx.k F.s0 (by omega), nx.k F.s1 (by omega), nx.k F.s2 (by omega), nx.k F.s3 (by omega)⟩
theorem SetFr.lt {p : Nat} {lA : Option Addr} {lm lc : Nat} {p2 p3 : Value} {a : Act} {d : Nat} (F : SetFr p lA lm lc p2 p3 a) (h : d < 35 := by decide) : d < a.tmps.size := by rw [F.size]; exact h
theorem set_region {ops : Array Oper} {Q : Exit → Act → World → Prop} (R : Ord.Reg ops setL) (hQ : Ord.HQ Q) {w1 : World} {p g sh i c xn xc lm lc : Nat} {xA lA : Option Addr} {xw ok : Bool} {p2 p3 : Value} {K : World → Option Addr → Nat → Nat → Prop}
  (k1 : ∀ w : World, w.heap[p]? = w1.heap[p]? → w.cell? ⟨p, 1, none⟩ = some (.slice (some ⟨g, 0, none⟩) sh sh))
  (k2 : ∀ w : World, w.heap[p]? = w1.heap[p]? → w.cell? ⟨p, 2, none⟩ = some (.int .i64 (i : Int)))
  (k3 : ∀ w : World, w.heap[p]? = w1.heap[p]? → w.cell? ⟨p, 3, none⟩ = some (.int .i64 (c : Int)))
  (hi0 : (0 : Int) ≤ (i : Int)) (hih : (i : Int) < (sh : Int)) (g0 : w1.cell? ⟨g, i * 2, none⟩ = some (.slice xA xn xc)) (g1 : w1.cell? ⟨g, i * 2 + 1, none⟩ = some (.bool xw))
  (SW : Calls Tryz.prog 47 #[.agg #[.slice xA xn xc, .bool xw], .int .i64 (c : Int), .slice lA lm lc] w1 fun e w' => ∃ A n c, e = .returned (.tuple #[.agg #[.slice A n c, .bool xw], .bool ok]) ∧ K w' A n c)
  (KS : ∀ w A n c, K w A n c → w.heap[p]? = w1.heap[p]?) (KG : ∀ w A n c, K w A n c → (∃ v, w.cell? ⟨g, i * 2, none⟩ = some v) ∧ (∃ v, w.cell? ⟨g, i * 2 + 1, none⟩ = some v) ∧ w.frozen? ⟨g, i * 2, none⟩ = false ∧ w.frozen? ⟨g, i * 2 + 1, none⟩ = false)
  (KE : ∀ w A7 n7 c7, K w A7 n7 c7 → ((w.setCell ⟨g, i * 2, none⟩ (.slice A7 n7 c7)).setCell ⟨g, i * 2 + 1, none⟩ (.bool xw)).heap[p]? = w1.heap[p]?)
  (a : Act) (F : SetFr p lA lm lc p2 p3 a) (h : ∀ a w A7 n7 c7, K w A7 n7 c7 → SetFr p lA lm lc p2 p3 a → Q .normal a ((w.setCell ⟨g, i * 2, none⟩ (.slice A7 n7 c7)).setCell ⟨g, i * 2 + 1, none⟩ (.bool xw))) :
  wpAnyH Tryz.prog .any ops Q (fun w => w.heap[p]? = w1.heap[p]?) 32 (List.replicate 32 false).toArray a w1 := by
 have hS : w1.heap[p]? = w1.heap[p]? := rfl
 refine Ord.tj R 0 (.pointer (some ⟨p, 0, none⟩)) (U32ScrR 1) rfl hQ trivial hS (fun w _ hS => Chain.ev_move F.s0.ev) F.lt fun a0 N => ?_
 replace F := F.next N
 have f5 := N.got
 clear N a
 refine Ord.tk R 1 (.pointer (some ⟨p, 0, none⟩)) rfl hQ hS (fun w _ hS => by have e5 := f5.u; clear F; go_simp) F.lt fun a1 N => ?_
 replace F := F.next N
 clear f5
 have f6 := N.got
 clear N a0
 refine Ord.tk R 2 (.pointer (some ⟨p, 1, none⟩)) rfl hQ hS (fun w _ hS => by have e6 := f6.u; clear F; go_simp) F.lt fun a2 N => ?_
 replace F := F.next N
 clear f6
 have f7 := N.got
 clear N a1
 refine Ord.tk R 3 (.slice (some ⟨g, 0, none⟩) sh sh) rfl hQ hS (fun w _ hS => by have e7 := f7.u; have q0 := (k1 w hS); clear F; go_simp) F.lt fun a3 N => ?_
 replace F := F.next N
 clear f7
 have f8 := N.got
 clear N a2
 refine Ord.tk R 4 (.pointer (some ⟨p, 0, none⟩)) rfl hQ hS (fun w _ hS => Chain.ev_move F.s0.ev) F.lt fun a4 N => ?_
 replace F := F.next N
 replace f8 := N.k f8
 have f9 := N.got
 clear N a3
 refine Ord.tk R 5 (.pointer (some ⟨p, 0, none⟩)) rfl hQ hS (fun w _ hS => by have e9 := f9.u; clear F; go_simp) F.lt fun a5 N => ?_
 replace F := F.next N
 replace f8 := N.k f8
 clear f9
 have f10 := N.got
 clear N a4
 refine Ord.tk R 6 (.pointer (some ⟨p, 2, none⟩)) rfl hQ hS (fun w _ hS => by have e10 := f10.u; clear F; go_simp) F.lt fun a6 N => ?_
 replace F := F.next N
 replace f8 := N.k f8
 clear f10
 have f11 := N.got
 clear N a5
 refine Ord.tk R 7 (.pointer (some ⟨p, 2, none⟩)) rfl hQ hS (fun w _ hS => by have e11 := f11.u; clear F; go_simp) F.lt fun a7 N => ?_
 replace F := F.next N
 replace f8 := N.k f8
 clear f11
 have f12 := N.got
 clear N a6
 refine Ord.tk R 8 (.int .i64 (i : Int)) rfl hQ hS (fun w _ hS => by have e12 := f12.u; have q0 := (k2 w hS); clear F; go_simp) F.lt fun a8 N => ?_
 replace F := F.next N
 replace f8 := N.k f8
 clear f12
 have f13 := N.got
 clear N a7
 refine Ord.tk R 9 (.pointer (some ⟨p, 0, none⟩)) rfl hQ hS (fun w _ hS => Chain.ev_move F.s0.ev) F.lt fun a9 N => ?_
 replace F := F.next N
 replace f8 := N.k f8
 replace f13 := N.k f13
 have f14 := N.got
 clear N a8
 refine Ord.tk R 10 (.pointer (some ⟨p, 0, none⟩)) rfl hQ hS (fun w _ hS => by have e14 := f14.u; clear F; go_simp) F.lt fun a10 N => ?_
 replace F := F.next N
 replace f8 := N.k f8
 replace f13 := N.k f13
 clear f14
 have f15 := N.got
 clear N a9
 refine Ord.tk R 11 (.pointer (some ⟨p, 1, none⟩)) rfl hQ hS (fun w _ hS => by have e15 := f15.u; clear F; go_simp) F.lt fun a11 N => ?_
 replace F := F.next N
 replace f8 := N.k f8
 replace f13 := N.k f13
 clear f15
 have f16 := N.got
 clear N a10
 refine Ord.tk R 12 (.slice (some ⟨g, 0, none⟩) sh sh) rfl hQ hS (fun w _ hS => by have e16 := f16.u; have q0 := (k1 w hS); clear F; go_simp) F.lt fun a12 N => ?_
 replace F := F.next N
 replace f8 := N.k f8
 replace f13 := N.k f13
 clear f16
 have f17 := N.got
 clear N a11
 refine Ord.tk R 13 (.pointer (some ⟨p, 0, none⟩)) rfl hQ hS (fun w _ hS => Chain.ev_move F.s0.ev) F.lt fun a13 N => ?_
 replace F := F.next N
 replace f8 := N.k f8
 replace f13 := N.k f13
 replace f17 := N.k f17
 have f18 := N.got
 clear N a12
 refine Ord.tk R 14 (.pointer (some ⟨p, 0, none⟩)) rfl hQ hS (fun w _ hS => by have e18 := f18.u; clear F; go_simp) F.lt fun a14 N => ?_
 replace F := F.next N
 replace f8 := N.k f8
 replace f13 := N.k f13
 replace f17 := N.k f17
 clear f18
 have f19 := N.got
 clear N a13
 refine Ord.tk R 15 (.pointer (some ⟨p, 2, none⟩)) rfl hQ hS (fun w _ hS => by have e19 := f19.u; clear F; go_simp) F.lt fun a15 N => ?_
 replace F := F.next N
 replace f8 := N.k f8
 replace f13 := N.k f13
 replace f17 := N.k f17
 clear f19
 have f20 := N.got
 clear N a14
 refine Ord.tk R 16 (.pointer (some ⟨p, 2, none⟩)) rfl hQ hS (fun w _ hS => by have e20 := f20.u; clear F; go_simp) F.lt fun a16 N => ?_
 replace F := F.next N
 replace f8 := N.k f8
 replace f13 := N.k f13
 replace f17 := N.k f17
 clear f20
 have f21 := N.got
 clear N a15
 refine Ord.tk R 17 (.int .i64 (i : Int)) rfl hQ hS (fun w _ hS => by have e21 := f21.u; have q0 := (k2 w hS); clear F; go_simp) F.lt fun a17 N => ?_
 replace F := F.next N
 replace f8 := N.k f8
 replace f13 := N.k f13
 replace f17 := N.k f17
 clear f21
 have f22 := N.got
 clear N a16
 refine Ord.tk R 18 (.pointer (some ⟨g, i * 2, none⟩)) rfl hQ hS (fun w _ hS => by have e17 := f17.u; have e22 := f22.u; have q0 := hi0; have q1 := hih; clear F; go_simp) F.lt fun a18 N => ?_
 replace F := F.next N
 replace f8 := N.k f8
 replace f13 := N.k f13
 clear f17
 clear f22
 have f23 := N.got
 clear N a17
 refine Ord.tj R 20 (.pointer (some ⟨p, 0, none⟩)) (Ord.bt 32 1572863) rfl hQ trivial hS (fun w _ hS => Chain.ev_move F.s0.ev) F.lt fun a20 N => ?_
 replace F := F.next N
 replace f8 := N.k f8
 replace f13 := N.k f13
 replace f23 := N.k f23
 have f25 := N.got
 clear N a18
 refine Ord.tj R 21 (.pointer (some ⟨p, 0, none⟩)) (Ord.bt 32 3670015) rfl hQ trivial hS (fun w _ hS => by have e25 := f25.u; clear F; go_simp) F.lt fun a21 N => ?_
 replace F := F.next N
 replace f8 := N.k f8
 replace f13 := N.k f13
 replace f23 := N.k f23
 clear f25
 have f26 := N.got
 clear N a20
 refine Ord.tj R 22 (.pointer (some ⟨p, 2, none⟩)) (Ord.bt 32 7864319) rfl hQ trivial hS (fun w _ hS => by have e26 := f26.u; clear F; go_simp) F.lt fun a22 N => ?_
 replace F := F.next N
 replace f8 := N.k f8
 replace f13 := N.k f13
 replace f23 := N.k f23
 clear f26
 have f27 := N.got
 clear N a21
 refine Ord.tj R 23 (.pointer (some ⟨p, 3, none⟩)) (Ord.bt 32 16252927) rfl hQ trivial hS (fun w _ hS => by have e27 := f27.u; clear F; go_simp) F.lt fun a23 N => ?_
 replace F := F.next N
 replace f8 := N.k f8
 replace f13 := N.k f13
 replace f23 := N.k f23
 clear f27
 have f28 := N.got
 clear N a22
 refine Ord.tj R 24 (.int .i64 (c : Int)) (Ord.bt 32 33030143) rfl hQ trivial hS (fun w _ hS => by have e28 := f28.u; have q0 := (k3 w hS); clear F; go_simp) F.lt fun a24 N => ?_
 replace F := F.next N
 replace f8 := N.k f8
 replace f13 := N.k f13
 replace f23 := N.k f23
 clear f28
 have f29 := N.got
 clear N a23
 refine Ord.tj R 25 (.slice lA lm lc) (Ord.bt 32 66584575) rfl hQ trivial hS (fun w _ hS => Chain.ev_move F.s1.ev) F.lt fun a25 N => ?_
 replace F := F.next N
 replace f8 := N.k f8
 replace f13 := N.k f13
 replace f23 := N.k f23
 replace f29 := N.k f29
 have f30 := N.got
 clear N a24
 refine Ord.value R (k := 19) (v := .agg #[.slice xA xn xc, .bool xw]) (bs' := U32ScrR 26) rfl (by kernel_rfl) trivial hS (fun _ => by have e23 := f23.u; have q0 := g0; have q1 := g1; clear F; go_simp) F.lt fun a19 N => ?_
 replace F := F.next N
 replace f8 := N.k f8
 replace f13 := N.k f13
 clear f23
 replace f29 := N.k f29
 replace f30 := N.k f30
 have f24 := N.got
 clear N a25
 refine Ord.call R (k := 26) (args := #[.agg #[.slice xA xn xc, .bool xw], .int .i64 (c : Int), .slice lA lm lc]) (bs' := U32ScrR 27) rfl (by kernel_rfl) trivial (by simp [f24.ev, f29.ev, f30.ev]) (by kernel_rfl) (SW) F.lt ?_
 rintro e w ⟨A7, n7, c7, rfl, K7⟩
 replace hS := KS w A7 n7 c7 K7
 refine ⟨_, rfl, hS, fun a26 N => ?_⟩
 replace F := F.next N
 replace f8 := N.k f8
 replace f13 := N.k f13
 clear f24
 clear f29
 clear f30
 have f31 := N.got
 clear N a19
 refine Ord.tk R 27 (.tuple #[.agg #[.slice A7 n7 c7, .bool xw], .bool ok]) rfl hQ hS (fun w _ hS => Chain.ev_move f31.ev) F.lt fun a27 N => ?_
 replace F := F.next N
 replace f8 := N.k f8
 replace f13 := N.k f13
 clear f31
 have f4 := N.got
 clear N a26
 refine Ord.tk R 28 (.agg #[.slice A7 n7 c7, .bool xw]) rfl hQ hS (fun w _ hS => by have e4 := f4.u; clear F; go_simp) F.lt fun a28 N => ?_
 replace F := F.next N
 replace f4 := N.k f4
 replace f8 := N.k f8
 replace f13 := N.k f13
 have f32 := N.got
 clear N a27
 refine Ord.tk R 29 (.bool ok) rfl hQ hS (fun w _ hS => by have e4 := f4.u; clear F; go_simp) F.lt fun a29 N => ?_
 replace F := F.next N
 clear f4
 replace f8 := N.k f8
 replace f13 := N.k f13
 replace f32 := N.k f32
 clear N a28
 refine Ord.tk R 30 (.pointer (some ⟨g, i * 2, none⟩)) rfl hQ hS (fun w _ hS => by have e8 := f8.u; have e13 := f13.u; have q0 := hi0; have q1 := hih; clear F; go_simp) F.lt fun a30 N => ?_
 replace F := F.next N
 clear f8
 clear f13
 replace f32 := N.k f32
 have f34 := N.got
 clear N a29
 obtain ⟨⟨v0, q0⟩, ⟨v1, q1⟩, q2, q3⟩ := KG w A7 n7 c7 K7
 refine Ord.effect R (k := 31) (bs' := U32ScrR 32) (w1 := (w.setCell ⟨g, i * 2, none⟩ (.slice A7 n7 c7)).setCell ⟨g, i * 2 + 1, none⟩ (.bool xw)) rfl (by kernel_rfl) trivial (KE w A7 n7 c7 K7) (fun _ => by have e0 := f32; have e1 := f34; unfold Chain.At at e0 e1; clear F; go_simp) ?_
 exact Ord.finish R (by kernel_rfl) (h _ _ _ _ _ K7 F)
theorem set_frame {a : Act} {w : World} {K : Act → World → Prop} {v0 v1 v2 v3 : Value} (hz : a.tmps.size = 35) (hd : a.defers = []) (f0 : Chain.At a 0 v0) (f1 : Chain.At a 1 v1) (f2 : Chain.At a 2 v2) (f3 : Chain.At a 3 v3)
  (h : ∀ u4 u5 u6 u7 u8 u9 u10 u11 u12 u13 u14 u15 u16 u17 u18 u19 u20 u21 u22 u23 u24 u25 u26 u27 u28 u29 u30 u31 u32 u33 u34 : Value, K ⟨#[v0, v1, v2, v3, u4, u5, u6, u7, u8, u9, u10, u11, u12, u13, u14, u15, u16, u17, u18, u19, u20, u21, u22, u23, u24, u25, u26, u27, u28, u29, u30, u31, u32, u33, u34], []⟩ w) : K a w := by
 have e := Ord.frame_gets hz hd
 simp only [Ord.gets, Nat.reduceAdd] at e
 rw [Ord.at_get f0, Ord.at_get f1, Ord.at_get f2, Ord.at_get f3] at e
 rw [e]
 exact h _ _ _ _ _ _ _ _ _ _ _ _ _ _ _ _ _ _ _ _ _ _ _ _ _ _ _ _ _ _ _
def downL : List Ord.Line := [
 (some 31, .move (.tmp 0), none, []),
 (some 32, .move (.tmp 0), none, []),
 (some 33, .nilCheck (.tmp 32), none, [1]),
 (some 34, .fieldAddr 93 (.tmp 33) 1, none, [2]),
 (some 35, .load 22 (.tmp 34), none, [3]),
 (some 36, .call { callee := .value (.func 167), args := #[.tmp 35, .const (.int .i64 0), .const (.int .i64 1)], argTypes := #[22, 3, 3] }, none, [4]),
 (some 37, .move (.tmp 0), none, []),
 (some 38, .nilCheck (.tmp 37), none, [6]),
 (some 39, .fieldAddr 93 (.tmp 38) 0, none, [7]),
 (some 40, .load 3 (.tmp 39), none, [8]),
 (some 41, .call { callee := .value (.func 46), args := #[.tmp 40], argTypes := #[3] }, none, [9, 5]),
 (some 42, .buildSlice 22 1 #[(0, .tmp 41)], none, [10]),
 (some 43, .call { callee := .builtin .append, args := #[.tmp 36, .tmp 42], argTypes := #[22, 22] }, none, [5, 11, 10]),
 (some 44, .nilCheck (.tmp 31), none, [0, 0, 1, 2, 3, 4, 5, 6, 7, 8, 9, 10, 11, 12]),
 (some 45, .fieldAddr 93 (.tmp 44) 1, none, [13, 0, 1, 2, 3, 4, 5, 6, 7, 8, 9, 10, 11, 12]),
 (none, .store 22 (.tmp 45) (.tmp 43), none, [14, 12, 12, 0, 1, 2, 3, 4, 5, 6, 7, 8, 9, 10, 11, 12])]
structure DownFr (p : Nat) (p3 : Value) (a : Act) : Prop where
 size : a.tmps.size = 48
 defers : a.defers = []
 s0 : Chain.At a 0 (.pointer (some ⟨p, 0, none⟩))
 s3 : Chain.At a 3 (p3)
theorem DownFr.next {p : Nat} {p3 : Value} {a a' : Act} {d : Nat} {v : Value} (F : DownFr p p3 a) (nx : Chain.Next a a' d v) (h : d ≠ 0 ∧ d ≠ 3 := by decide) : DownFr p p3 a' := ⟨nx.size.trans F.size, nx.defers.trans F.defers, nx.k F.s0 (by omega), nx.k F.s3 (by omega)⟩
theorem DownFr.lt {p : Nat} {p3 : Value} {a : Act} {d : Nat} (F : DownFr p p3 a) (h : d < 48 := by decide) : d < a.tmps.size := by rw [F.size]; exact h
theorem down_region {ops : Array Oper} {Q : Exit → Act → World → Prop} (R : Ord.Reg ops downL) (hQ : Ord.HQ Q) {w1 : World} {p g q sw : Nat} {p3 : Value} {P1 : World → Prop} {P2 : World → Option Addr → Nat → Nat → Prop}
  (k1 : ∀ w : World, w.heap[p]? = w1.heap[p]? → w.cell? ⟨p, 1, none⟩ = some (.slice (some ⟨g, 0, none⟩) (q + 1) (q + 1)))
  (k0 : ∀ w : World, w.heap[p]? = w1.heap[p]? → w.cell? ⟨p, 0, none⟩ = some (.int .i64 (sw : Int)))
  (DEL : Calls Tryz.prog 167 #[.slice (some ⟨g, 0, none⟩) (q + 1) (q + 1), .int .i64 0, .int .i64 1] w1 fun e w' => e = .returned (.slice (some ⟨g, 0, none⟩) q (q + 1)) ∧ P1 w')
  (BLK : ∀ w, P1 w → Calls Tryz.prog 46 #[.int .i64 (sw : Int)] w fun e w' => ∃ A n c, e = .returned (.agg #[.slice A n c, .bool false]) ∧ P2 w' A n c)
  (KA : ∀ w A7 n7 c7, P2 w A7 n7 c7 → (∃ v, (w.alloc (.cells #[.slice A7 n7 c7, .bool false] 58)).cell? ⟨g, q * 2, none⟩ = some v) ∧ (∃ v, (w.alloc (.cells #[.slice A7 n7 c7, .bool false] 58)).cell? ⟨g, q * 2 + 1, none⟩ = some v) ∧ (w.alloc (.cells #[.slice A7 n7 c7, .bool false] 58)).frozen? ⟨g, q * 2, none⟩ = false ∧ (w.alloc (.cells #[.slice A7 n7 c7, .bool false] 58)).frozen? ⟨g, q * 2 + 1, none⟩ = false)
  (KS1 : ∀ w, P1 w → w.heap[p]? = w1.heap[p]?) (KS2 : ∀ w A n c, P2 w A n c → w.heap[p]? = w1.heap[p]?) (KS3 : ∀ w A n c, P2 w A n c → (w.alloc (.cells #[.slice A n c, .bool false] 58)).heap[p]? = w1.heap[p]?) (KS4 : ∀ w A7 n7 c7, P2 w A7 n7 c7 → (((w.alloc (.cells #[.slice A7 n7 c7, .bool false] 58)).setCell ⟨g, q * 2, none⟩ (.slice A7 n7 c7)).setCell ⟨g, q * 2 + 1, none⟩ (.bool false)).heap[p]? = w1.heap[p]?) (KF : ∀ w A7 n7 c7, P2 w A7 n7 c7 → (((w.alloc (.cells #[.slice A7 n7 c7, .bool false] 58)).setCell ⟨g, q * 2, none⟩ (.slice A7 n7 c7)).setCell ⟨g, q * 2 + 1, none⟩ (.bool false)).frozen? ⟨p, 1, none⟩ = false)
  (KE : ∀ w A7 n7 c7, P2 w A7 n7 c7 → ((((w.alloc (.cells #[.slice A7 n7 c7, .bool false] 58)).setCell ⟨g, q * 2, none⟩ (.slice A7 n7 c7)).setCell ⟨g, q * 2 + 1, none⟩ (.bool false)).setCell ⟨p, 1, none⟩ (.slice (some ⟨g, 0, none⟩) (q + 1) (q + 1))).heap[p]? = w1.heap[p]?)
  (a : Act) (F : DownFr p p3 a) (h : ∀ a w A7 n7 c7, P2 w A7 n7 c7 → DownFr p p3 a → Q .normal a ((((w.alloc (.cells #[.slice A7 n7 c7, .bool false] 58)).setCell ⟨g, q * 2, none⟩ (.slice A7 n7 c7)).setCell ⟨g, q * 2 + 1, none⟩ (.bool false)).setCell ⟨p, 1, none⟩ (.slice (some ⟨g, 0, none⟩) (q + 1) (q + 1)))) :
  wpAnyH Tryz.prog .any ops Q (fun w => w.heap[p]? = w1.heap[p]?) 16 (List.replicate 16 false).toArray a w1 := by
 have hS : w1.heap[p]? = w1.heap[p]? := rfl
 refine Ord.tj R 0 (.pointer (some ⟨p, 0, none⟩)) (U16ScrR 1) rfl hQ trivial hS (fun w _ hS => Chain.ev_move F.s0.ev) F.lt fun a0 N => ?_
 replace F := F.next N
 have f31 := N.got
 clear N a
 refine Ord.tk R 1 (.pointer (some ⟨p, 0, none⟩)) rfl hQ hS (fun w _ hS => Chain.ev_move F.s0.ev) F.lt fun a1 N => ?_
 replace F := F.next N
 replace f31 := N.k f31
 have f32 := N.got
 clear N a0
 refine Ord.tk R 2 (.pointer (some ⟨p, 0, none⟩)) rfl hQ hS (fun w _ hS => by have e32 := f32.u; clear F; go_simp) F.lt fun a2 N => ?_
 replace F := F.next N
 replace f31 := N.k f31
 clear f32
 have f33 := N.got
 clear N a1
 refine Ord.tk R 3 (.pointer (some ⟨p, 1, none⟩)) rfl hQ hS (fun w _ hS => by have e33 := f33.u; clear F; go_simp) F.lt fun a3 N => ?_
 replace F := F.next N
 replace f31 := N.k f31
 clear f33
 have f34 := N.got
 clear N a2
 refine Ord.tk R 4 (.slice (some ⟨g, 0, none⟩) (q + 1) (q + 1)) rfl hQ hS (fun w _ hS => by have e34 := f34.u; have q0 := (k1 w hS); clear F; go_simp) F.lt fun a4 N => ?_
 replace F := F.next N
 replace f31 := N.k f31
 clear f34
 have f35 := N.got
 clear N a3
 refine Ord.tj R 6 (.pointer (some ⟨p, 0, none⟩)) (Ord.bt 16 95) rfl hQ trivial hS (fun w _ hS => Chain.ev_move F.s0.ev) F.lt fun a6 N => ?_
 replace F := F.next N
 replace f31 := N.k f31
 replace f35 := N.k f35
 have f37 := N.got
 clear N a4
 refine Ord.tj R 7 (.pointer (some ⟨p, 0, none⟩)) (Ord.bt 16 223) rfl hQ trivial hS (fun w _ hS => by have e37 := f37.u; clear F; go_simp) F.lt fun a7 N => ?_
 replace F := F.next N
 replace f31 := N.k f31
 replace f35 := N.k f35
 clear f37
 have f38 := N.got
 clear N a6
 refine Ord.tj R 8 (.pointer (some ⟨p, 0, none⟩)) (Ord.bt 16 479) rfl hQ trivial hS (fun w _ hS => by have e38 := f38.u; clear F; go_simp) F.lt fun a8 N => ?_
 replace F := F.next N
 replace f31 := N.k f31
 replace f35 := N.k f35
 clear f38
 have f39 := N.got
 clear N a7
 refine Ord.tj R 9 (.int .i64 (sw : Int)) (Ord.bt 16 991) rfl hQ trivial hS (fun w _ hS => by have e39 := f39.u; have q0 := (k0 w hS); clear F; go_simp) F.lt fun a9 N => ?_
 replace F := F.next N
 replace f31 := N.k f31
 replace f35 := N.k f35
 clear f39
 have f40 := N.got
 clear N a8
 refine Ord.call R (k := 5) (args := #[.slice (some ⟨g, 0, none⟩) (q + 1) (q + 1), .int .i64 0, .int .i64 1]) (bs' := U16ScrR 10) rfl (by kernel_rfl) trivial (by simp [f35.ev, Ord.ev_c]) (by kernel_rfl) (DEL) F.lt ?_
 rintro e w ⟨rfl, K1⟩
 replace hS := KS1 w K1
 refine ⟨_, rfl, hS, fun a5 N => ?_⟩
 replace F := F.next N
 replace f31 := N.k f31
 clear f35
 replace f40 := N.k f40
 have f36 := N.got
 clear N a9
 refine Ord.call R (k := 10) (args := #[.int .i64 (sw : Int)]) (bs' := U16ScrR 11) rfl (by kernel_rfl) trivial (by simp [f40.ev]) (by kernel_rfl) (BLK w K1) F.lt ?_
 rintro e w ⟨A7, n7, c7, rfl, K2⟩
 replace hS := KS2 w A7 n7 c7 K2
 refine ⟨_, rfl, hS, fun a10 N => ?_⟩
 replace F := F.next N
 replace f31 := N.k f31
 replace f36 := N.k f36
 clear f40
 have f41 := N.got
 clear N a5
 obtain ⟨b, hb⟩ : ∃ b, w.heap.size = b := ⟨_, rfl⟩
 refine Ord.value R (k := 11) (v := .slice (some ⟨b, 0, none⟩) 1 1) (w1 := w.alloc (.cells #[.slice A7 n7 c7, .bool false] 58)) (bs' := U16ScrR 12) rfl (by kernel_rfl) trivial (KS3 w A7 n7 c7 K2) (fun _ => by have e0 := f41.u; subst hb; clear F; go_simp) F.lt fun a11 N => ?_
 replace hS := KS3 w A7 n7 c7 K2
 replace F := F.next N
 replace f31 := N.k f31
 replace f36 := N.k f36
 clear f41
 have f42 := N.got
 clear N a10
 obtain ⟨⟨v0, q0⟩, ⟨v1, q1⟩, q2, q3⟩ := KA w A7 n7 c7 K2
 refine Ord.value R (k := 12) (v := .slice (some ⟨g, 0, none⟩) (q + 1) (q + 1)) (w1 := ((w.alloc (.cells #[.slice A7 n7 c7, .bool false] 58)).setCell ⟨g, q * 2, none⟩ (.slice A7 n7 c7)).setCell ⟨g, q * 2 + 1, none⟩ (.bool false)) (bs' := U16ScrR 13) rfl (by kernel_rfl) trivial (KS4 w A7 n7 c7 K2) (fun ty => by have e0 := f36; have e1 := f42; unfold Chain.At at e0 e1; subst hb; clear F; go_simp) F.lt fun a12 N => ?_
 replace hS := KS4 w A7 n7 c7 K2
 have q4 := k1 _ hS
 have q5 := KF w A7 n7 c7 K2
 clear q0 q1 q2 q3
 replace F := F.next N
 replace f31 := N.k f31
 clear f36
 clear f42
 have f43 := N.got
 clear N a11
 refine Ord.tk R 13 (.pointer (some ⟨p, 0, none⟩)) rfl hQ hS (fun w _ hS => by have e31 := f31.u; clear F; go_simp) F.lt fun a13 N => ?_
 replace F := F.next N
 clear f31
 replace f43 := N.k f43
 have f44 := N.got
 clear N a12
 refine Ord.tk R 14 (.pointer (some ⟨p, 1, none⟩)) rfl hQ hS (fun w _ hS => by have e44 := f44.u; clear F; go_simp) F.lt fun a14 N => ?_
 replace F := F.next N
 replace f43 := N.k f43
 clear f44
 have f45 := N.got
 clear N a13
 refine Ord.effect R (k := 15) (bs' := U16ScrR 16) (w1 := (((w.alloc (.cells #[.slice A7 n7 c7, .bool false] 58)).setCell ⟨g, q * 2, none⟩ (.slice A7 n7 c7)).setCell ⟨g, q * 2 + 1, none⟩ (.bool false)).setCell ⟨p, 1, none⟩ (.slice (some ⟨g, 0, none⟩) (q + 1) (q + 1))) rfl (by kernel_rfl) trivial (KE w A7 n7 c7 K2) (fun _ => by have e0 := f43; have e1 := f45; unfold Chain.At at e0 e1; clear F; go_simp) ?_
 exact Ord.finish R (by kernel_rfl) (h _ _ _ _ _ K2 F)
theorem down_frame {a : Act} {w : World} {K : Act → World → Prop} {v0 v3 : Value} (hz : a.tmps.size = 48) (hd : a.defers = []) (f0 : Chain.At a 0 v0) (f3 : Chain.At a 3 v3)
  (h : ∀ u1 u2 u4 u5 u6 u7 u8 u9 u10 u11 u12 u13 u14 u15 u16 u17 u18 u19 u20 u21 u22 u23 u24 u25 u26 u27 u28 u29 u30 u31 u32 u33 u34 u35 u36 u37 u38 u39 u40 u41 u42 u43 u44 u45 u46 u47 : Value, K ⟨#[v0, u1, u2, v3, u4, u5, u6, u7, u8, u9, u10, u11, u12, u13, u14, u15, u16, u17, u18, u19, u20, u21, u22, u23, u24, u25, u26, u27, u28, u29, u30, u31, u32, u33, u34, u35, u36, u37, u38, u39, u40, u41, u42, u43, u44, u45, u46, u47], []⟩ w) : K a w := by
 have e := Ord.frame_gets hz hd
 simp only [Ord.gets, Nat.reduceAdd] at e
 rw [Ord.at_get f0, Ord.at_get f3] at e
 rw [e]
 exact h _ _ _ _ _ _ _ _ _ _ _ _ _ _ _ _ _ _ _ _ _ _ _ _ _ _ _ _ _ _ _ _ _ _ _ _ _ _ _ _ _ _ _ _ _ _
def ofOps : List Ord.Line := [
 (some 57, .move (.tmp 11), none, []),
 (some 58, .fieldAddr 24 (.tmp 8) 0, none, []),
 (some 59, .load 3 (.tmp 58), none, [1]),
 (some 60, .move (.tmp 2), none, []),
 (some 61, .binOp .sub 3 (.tmp 60) (.const (.int .i64 1)) 3, none, [3]),
 (some 62, .call { callee := .value (.func 56), args := #[.tmp 59, .const (.int .i64 0), .tmp 61], argTypes := #[3, 3, 3] }, none, [2, 4]),
 (some 63, .fieldAddr 24 (.tmp 8) 1, none, []),
 (some 64, .load 3 (.tmp 63), none, [6]),
 (some 65, .move (.tmp 1), none, []),
 (some 66, .call { callee := .value (.func 56), args := #[.tmp 64, .const (.int .i64 0), .tmp 65], argTypes := #[3, 3, 3] }, none, [7, 8, 5]),
 (some 67, .build 24 #[(0, .tmp 62), (1, .tmp 66)], none, [5, 9]),
 (some 68, .nilCheck (.tmp 57), none, [0, 0, 1, 2, 3, 4, 5, 6, 7, 8, 9, 10]),
 (some 69, .fieldAddr 93 (.tmp 68) 2, none, [11, 0, 1, 2, 3, 4, 5, 6, 7, 8, 9, 10]),
 (none, .store 24 (.tmp 69) (.tmp 67), none, [12, 10, 9, 0, 1, 2, 3, 4, 5, 6, 7, 8, 9, 10])]
structure OfFr (wd ht : Int) (b8 p : Nat) (a : Act) : Prop where
 size : a.tmps.size = 71
 defers : a.defers = []
 s1 : Chain.At a 1 (.int .i64 wd)
 s2 : Chain.At a 2 (.int .i64 ht)
 s8 : Chain.At a 8 (.pointer (some ⟨b8, 0, none⟩))
 s11 : Chain.At a 11 (.pointer (some ⟨p, 0, none⟩))
theorem OfFr.next {wd ht : Int} {b8 p : Nat} {a a' : Act} {d : Nat} {v : Value} (F : OfFr wd ht b8 p a) (nx : Chain.Next a a' d v) (h : d ≠ 1 ∧ d ≠ 2 ∧ d ≠ 8 ∧ d ≠ 11 := by decide) : OfFr wd ht b8 p a' := ⟨nx.size.trans F.size, nx.defers.trans F.defers, nx.k F.s1 (by omega), nx.k F.s2 (by omega), nx.k F.s8 (by omega), nx.k F.s11 (by omega)⟩
theorem OfFr.lt {wd ht : Int} {b8 p : Nat} {a : Act} {d : Nat} (F : OfFr wd ht b8 p a) (h : d < 71 := by decide) : d < a.tmps.size := by rw [F.size]; exact h
theorem of_region {ops : Array Oper} {Q : Exit → Act → World → Prop} (R : Ord.Reg ops ofOps) (hQ : Ord.HQ Q) {w1 : World} {b8 p : Nat} {wd ht hm ar ac X Y : Int}
  (k0 : ∀ w, w = w1 ∨ w = (w1.setCell ⟨p, 2, none⟩ (.int .i64 X)).setCell ⟨p, 3, none⟩ (.int .i64 Y) → w.cell? ⟨b8, 0, none⟩ = some (.int .i64 ar)) (k1 : ∀ w, w = w1 ∨ w = (w1.setCell ⟨p, 2, none⟩ (.int .i64 X)).setCell ⟨p, 3, none⟩ (.int .i64 Y) → w.cell? ⟨b8, 1, none⟩ = some (.int .i64 ac))
  (k2 : ∃ v, w1.cell? ⟨p, 2, none⟩ = some v) (k3 : ∃ v, w1.cell? ⟨p, 3, none⟩ = some v) (f2 : w1.frozen? ⟨p, 2, none⟩ = false) (f3 : w1.frozen? ⟨p, 3, none⟩ = false)
  (hh : IntKind.i64.wrap (ht - 1) = hm)
  (CL : ∀ w, Calls Tryz.prog 56 #[.int .i64 ar, .int .i64 0, .int .i64 hm] w fun e w' => e = .returned (.int .i64 X) ∧ w = w') (CC : ∀ w, Calls Tryz.prog 56 #[.int .i64 ac, .int .i64 0, .int .i64 wd] w fun e w' => e = .returned (.int .i64 Y) ∧ w = w')
  (a : Act) (F : OfFr wd ht b8 p a) (h : ∀ a, OfFr wd ht b8 p a → Q .normal a ((w1.setCell ⟨p, 2, none⟩ (.int .i64 X)).setCell ⟨p, 3, none⟩ (.int .i64 Y))) :
  wpAnyH Tryz.prog .any ops Q (fun w => w = w1 ∨ w = (w1.setCell ⟨p, 2, none⟩ (.int .i64 X)).setCell ⟨p, 3, none⟩ (.int .i64 Y)) 14 (List.replicate 14 false).toArray a w1 := by
 obtain ⟨v2, k2⟩ := k2
 obtain ⟨v3, k3⟩ := k3
 have hS : w1 = w1 ∨ w1 = (w1.setCell ⟨p, 2, none⟩ (.int .i64 X)).setCell ⟨p, 3, none⟩ (.int .i64 Y) := .inl rfl
 refine Ord.tj R 0 (.pointer (some ⟨p, 0, none⟩)) (U14ScrR 1) rfl hQ trivial hS (fun w _ hS => Chain.ev_move F.s11.ev) F.lt fun a0 N => ?_
 replace F := F.next N
 have f57 := N.got
 clear N a
 refine Ord.tk R 1 (.pointer (some ⟨b8, 0, none⟩)) rfl hQ hS (fun w _ hS => by have e8 := F.s8.u; clear F; go_simp) F.lt fun a1 N => ?_
 replace F := F.next N
 replace f57 := N.k f57
 have f58 := N.got
 clear N a0
 refine Ord.tk R 2 (.int .i64 ar) rfl hQ hS (fun w _ hS => by have e58 := f58.u; have q0 := (k0 w hS); clear F; go_simp) F.lt fun a2 N => ?_
 replace F := F.next N
 replace f57 := N.k f57
 clear f58
 have f59 := N.got
 clear N a1
 refine Ord.tk R 3 (.int .i64 ht) rfl hQ hS (fun w _ hS => Chain.ev_move F.s2.ev) F.lt fun a3 N => ?_
 replace F := F.next N
 replace f57 := N.k f57
 replace f59 := N.k f59
 have f60 := N.got
 clear N a2
 refine Ord.tk R 4 (.int .i64 hm) rfl hQ hS (fun w _ hS => by have e60 := f60.u; have q0 := hh; clear F; go_simp) F.lt fun a4 N => ?_
 replace F := F.next N
 replace f57 := N.k f57
 replace f59 := N.k f59
 clear f60
 have f61 := N.got
 clear N a3
 refine Ord.tj R 6 (.pointer (some ⟨b8, 1, none⟩)) (Ord.bt 14 95) rfl hQ trivial hS (fun w _ hS => by have e8 := F.s8.u; clear F; go_simp) F.lt fun a6 N => ?_
 replace F := F.next N
 replace f57 := N.k f57
 replace f59 := N.k f59
 replace f61 := N.k f61
 have f63 := N.got
 clear N a4
 refine Ord.tj R 7 (.int .i64 ac) (Ord.bt 14 223) rfl hQ trivial hS (fun w _ hS => by have e63 := f63.u; have q0 := (k1 w hS); clear F; go_simp) F.lt fun a7 N => ?_
 replace F := F.next N
 replace f57 := N.k f57
 replace f59 := N.k f59
 replace f61 := N.k f61
 clear f63
 have f64 := N.got
 clear N a6
 refine Ord.tj R 8 (.int .i64 wd) (Ord.bt 14 479) rfl hQ trivial hS (fun w _ hS => Chain.ev_move F.s1.ev) F.lt fun a8 N => ?_
 replace F := F.next N
 replace f57 := N.k f57
 replace f59 := N.k f59
 replace f61 := N.k f61
 replace f64 := N.k f64
 have f65 := N.got
 clear N a7
 refine Ord.call R (k := 5) (args := #[.int .i64 ar, .int .i64 0, .int .i64 hm]) (bs' := U14ScrR 9) rfl (by kernel_rfl) trivial (by simp [f59.ev, f61.ev, Ord.ev_c]) (by kernel_rfl) (CL _) F.lt ?_
 rintro e w ⟨rfl, rfl⟩
 replace hS := hS
 refine ⟨_, rfl, hS, fun a5 N => ?_⟩
 replace F := F.next N
 replace f57 := N.k f57
 clear f59
 clear f61
 replace f64 := N.k f64
 replace f65 := N.k f65
 have f62 := N.got
 clear N a8
 refine Ord.call R (k := 9) (args := #[.int .i64 ac, .int .i64 0, .int .i64 wd]) (bs' := U14ScrR 10) rfl (by kernel_rfl) trivial (by simp [f64.ev, f65.ev, Ord.ev_c]) (by kernel_rfl) (CC _) F.lt ?_
 rintro e w ⟨rfl, rfl⟩
 replace hS := hS
 refine ⟨_, rfl, hS, fun a9 N => ?_⟩
 replace F := F.next N
 replace f57 := N.k f57
 replace f62 := N.k f62
 clear f64
 clear f65
 have f66 := N.got
 clear N a5
 refine Ord.tk R 10 (.agg #[.int .i64 X, .int .i64 Y]) rfl hQ hS (fun w _ hS => by have e62 := f62.u; have e66 := f66.u; clear F; go_simp) F.lt fun a10 N => ?_
 replace F := F.next N
 replace f57 := N.k f57
 clear f62
 clear f66
 have f67 := N.got
 clear N a9
 refine Ord.tk R 11 (.pointer (some ⟨p, 0, none⟩)) rfl hQ hS (fun w _ hS => by have e57 := f57.u; clear F; go_simp) F.lt fun a11 N => ?_
 replace F := F.next N
 clear f57
 replace f67 := N.k f67
 have f68 := N.got
 clear N a10
 refine Ord.tk R 12 (.pointer (some ⟨p, 2, none⟩)) rfl hQ hS (fun w _ hS => by have e68 := f68.u; clear F; go_simp) F.lt fun a12 N => ?_
 replace F := F.next N
 replace f67 := N.k f67
 clear f68
 have f69 := N.got
 clear N a11
 refine Ord.effect R (k := 13) (bs' := U14ScrR 14) (w1 := (w1.setCell ⟨p, 2, none⟩ (.int .i64 X)).setCell ⟨p, 3, none⟩ (.int .i64 Y)) rfl (by kernel_rfl) trivial (.inr rfl) (fun _ => by have e0 := f67; have e1 := f69; unfold Chain.At at e0 e1; clear F; go_simp) ?_
 exact Ord.finish R (by kernel_rfl) (h _ F)
theorem of_frame {a : Act} {w : World} {K : Act → World → Prop} {v1 v2 v8 v11 : Value} (hz : a.tmps.size = 71) (hd : a.defers = []) (f1 : Chain.At a 1 v1) (f2 : Chain.At a 2 v2) (f8 : Chain.At a 8 v8) (f11 : Chain.At a 11 v11)
  (h : ∀ u0 u3 u4 u5 u6 u7 u9 u10 u12 u13 u14 u15 u16 u17 u18 u19 u20 u21 u22 u23 u24 u25 u26 u27 u28 u29 u30 u31 u32 u33 u34 u35 u36 u37 u38 u39 u40 u41 u42 u43 u44 u45 u46 u47 u48 u49 u50 u51 u52 u53 u54 u55 u56 u57 u58 u59 u60 u61 u62 u63 u64 u65 u66 u67 u68 u69 u70 : Value, K ⟨#[u0, v1, v2, u3, u4, u5, u6, u7, v8, u9, u10, v11, u12, u13, u14, u15, u16, u17, u18, u19, u20, u21, u22, u23, u24, u25, u26, u27, u28, u29, u30, u31, u32, u33, u34, u35, u36, u37, u38, u39, u40, u41, u42, u43, u44, u45, u46, u47, u48, u49, u50, u51, u52, u53, u54, u55, u56, u57, u58, u59, u60, u61, u62, u63, u64, u65, u66, u67, u68, u69, u70], []⟩ w) : K a w := by
 have e := Ord.frame_gets hz hd
 simp only [Ord.gets, Nat.reduceAdd] at e
 rw [Ord.at_get f1, Ord.at_get f2, Ord.at_get f8, Ord.at_get f11] at e
 rw [e]
 exact h _ _ _ _ _ _ _ _ _ _ _ _ _ _ _ _ _ _ _ _ _ _ _ _ _ _ _ _ _ _ _ _ _ _ _ _ _ _ _ _ _ _ _ _ _ _ _ _ _ _ _ _ _ _ _ _ _ _ _ _ _ _ _ _ _ _ _
def rowsOps : List Ord.Line := [
 (some 17, .move (.tmp 3), none, []),
 (some 18, .fieldAddr 58 (.tmp 5) 0, none, []),
 (some 19, .load 51 (.tmp 18), none, [1]),
 (some 20, .call { callee := .value (.func 90), args := #[.tmp 19], argTypes := #[51] }, none, [2]),
 (some 21, .fieldAddr 58 (.tmp 5) 1, none, []),
 (some 22, .load 4 (.tmp 21), none, [4]),
 (some 23, .build 58 #[(0, .tmp 20), (1, .tmp 22)], none, [3, 5]),
 (some 24, .buildSlice 22 1 #[(0, .tmp 23)], none, [6]),
 (some 25, .call { callee := .builtin .append, args := #[.tmp 17, .tmp 24], argTypes := #[22, 22] }, none, [0, 7, 3]),
 (some 3, .assign (.tmp 25), none, [8, 8, 0, 1, 2, 3, 4, 5, 6, 7, 8])]
structure RowsFr (b5 : Nat) (p0 p1 p2 p4 p6 p7 p8 p9 p10 p11 p12 p13 p14 p15 p16 p26 p27 : Value) (a : Act) : Prop where
 size : a.tmps.size = 28
 defers : a.defers = []
 s0 : Chain.At a 0 (p0)
 s1 : Chain.At a 1 (p1)
 s2 : Chain.At a 2 (p2)
 s4 : Chain.At a 4 (p4)
 s5 : Chain.At a 5 (.pointer (some ⟨b5, 0, none⟩))
 s6 : Chain.At a 6 (p6)
 s7 : Chain.At a 7 (p7)
 s8 : Chain.At a 8 (p8)
 s9 : Chain.At a 9 (p9)
 s10 : Chain.At a 10 (p10)
 s11 : Chain.At a 11 (p11)
 s12 : Chain.At a 12 (p12)
 s13 : Chain.At a 13 (p13)
 s14 : Chain.At a 14 (p14)
 s15 : Chain.At a 15 (p15)
 s16 : Chain.At a 16 (p16)
 s26 : Chain.At a 26 (p26)
 s27 : Chain.At a 27 (p27)
theorem RowsFr.next {b5 : Nat} {p0 p1 p2 p4 p6 p7 p8 p9 p10 p11 p12 p13 p14 p15 p16 p26 p27 : Value} {a a' : Act} {d : Nat} {v : Value} (F : RowsFr b5 p0 p1 p2 p4 p6 p7 p8 p9 p10 p11 p12 p13 p14 p15 p16 p26 p27 a) (nx : Chain.Next a a' d v) (h : d ≠ 0 ∧ d ≠ 1 ∧ d ≠ 2 ∧ d ≠ 4 ∧ d ≠ 5 ∧ d ≠ 6 ∧ d ≠ 7 ∧ d ≠ 8 ∧ d ≠ 9 ∧ d ≠ 10 ∧ d ≠ 11 ∧ d ≠ 12 ∧ d ≠ 13 ∧ d ≠ 14 ∧ d ≠ 15 ∧ d ≠ 16 ∧ d ≠ 26 ∧ d ≠ 27 := by decide) : RowsFr b5 p0 p1 p2 p4 p6 p7 p8 p9 p10 p11 p12 p13 p14 p15 p16 p26 p27 a' := ⟨nx.size.trans F.size, nx.defers.trans F.defers, nx.k F.s0 (by omega), nx.k F.s1 (by omega), nx.k F.s2 (by omega), nx.k F.s4 (by omega), nx.k F.s5 (by omega), nx.k F.s6 (by omega), nx.k F.s7 (by omega), nx.k F.s8 (by omega), nx.k F.s9 (by omega), nx.k F.s10 (by omega), nx.k F.s11 (by omega), nx.k F.s12 (by omega), nx.k F.s13 (by omega), nx.k F.s14 (by omega), nx.k F.s15 (by omega), nx.k F.s16 (by omega), nx.k F.s26 (by omega), nx.k F.s27 (by omega)⟩
theorem RowsFr.lt {b5 : Nat} {p0 p1 p2 p4 p6 p7 p8 p9 p10 p11 p12 p13 p14 p15 p16 p26 p27 : Value} {a : Act} {d : Nat} (F : RowsFr b5 p0 p1 p2 p4 p6 p7 p8 p9 p10 p11 p12 p13 p14 p15 p16 p26 p27 a) (h : d < 28 := by decide) : d < a.tmps.size := by rw [F.size]; exact h
theorem rows_region {ops : Array Oper} {Q : Exit → Act → World → Prop} (R : Ord.Reg ops rowsOps) (hQ : Ord.HQ Q) {w1 : World} {b5 xn xc n base : Nat} {xA : Option Addr} {xw : Bool} {vo : Value} {xsv : List Value} {p0 p1 p2 p4 p6 p7 p8 p9 p10 p11 p12 p13 p14 p15 p16 p26 p27 : Value} {K : World → Option Addr → Nat → Prop} {i0 : TypeInfo} (hi : Tryz.prog.info? 58 = some i0) (hz0 : i0.zero = some (.agg #[.slice none 0 0, .bool false])) (hz1 : i0.size = 2) (hz2 : i0.bytes = 32)
  (k0 : ∀ w : World, w.heap[b5]? = w1.heap[b5]? → w.cell? ⟨b5, 0, none⟩ = some (.slice xA xn xc)) (k1 : ∀ w : World, w.heap[b5]? = w1.heap[b5]? → w.cell? ⟨b5, 1, none⟩ = some (.bool xw))
  (CL : Calls Tryz.prog 90 #[.slice xA xn xc] w1 fun e w' => ∃ A c, e = .returned (.slice A xn c) ∧ K w' A c)
  (KS : ∀ w A c, K w A c → w.heap[b5]? = w1.heap[b5]?) (KS2 : ∀ w A7 c7, K w A7 c7 → (w.alloc (.cells #[.slice A7 xn c7, .bool xw] 58)).heap[b5]? = w1.heap[b5]?) (KO : ∀ w A7 c7, K w A7 c7 → (w.alloc (.cells #[.slice A7 xn c7, .bool xw] 58)).ownsRow base 58 2 vo n xsv) (KB : ∀ w A7 c7, K w A7 c7 → base ≤ (w.alloc (.cells #[.slice A7 xn c7, .bool xw] 58)).heap.size)
  (KQ : ∀ w A7 c7, K w A7 c7 → ∀ b, w.heap.size = b → Sq (w.alloc (.cells #[.slice A7 xn c7, .bool xw] 58)) (w.alloc (.cells #[.slice A7 xn c7, .bool xw] 58)).heap.size 2 1 (some ⟨b, 0, none⟩) [.slice A7 xn c7, .bool xw]) (KE : ∀ w A7 c7 w8, K w A7 c7 → (w.alloc (.cells #[.slice A7 xn c7, .bool xw] 58)).grownBy w8 vo.ownBlock → w8.heap[b5]? = w1.heap[b5]?)
  (fit1 : n + 1 ≤ maxLen) (fit2 : (n + 1) * 32 ≤ 140737488355328)
  (a : Act) (F : RowsFr b5 p0 p1 p2 p4 p6 p7 p8 p9 p10 p11 p12 p13 p14 p15 p16 p26 p27 a) (f3 : Chain.At a 3 vo) (h : ∀ a w A7 c7 w8 A8 c8, K w A7 c7 → (w.alloc (.cells #[.slice A7 xn c7, .bool xw] 58)).grownBy w8 vo.ownBlock → w8.ownsRow base 58 2 (.slice A8 (n + 1) c8) (n + 1) (xsv ++ [.slice A7 xn c7, .bool xw]) → RowsFr b5 p0 p1 p2 p4 p6 p7 p8 p9 p10 p11 p12 p13 p14 p15 p16 p26 p27 a → Chain.At a 3 (.slice A8 (n + 1) c8) → Q .normal a w8) :
  wpAnyH Tryz.prog .any ops Q (fun w => w.heap[b5]? = w1.heap[b5]?) 10 (List.replicate 10 false).toArray a w1 := by
 have hS : w1.heap[b5]? = w1.heap[b5]? := rfl
 refine Ord.tj R 0 (vo) (U10ScrR 1) rfl hQ trivial hS (fun w _ hS => Chain.ev_move f3.ev) F.lt fun a0 N => ?_
 replace F := F.next N
 replace f3 := N.k f3
 have f17 := N.got
 clear N a
 refine Ord.tk R 1 (.pointer (some ⟨b5, 0, none⟩)) rfl hQ hS (fun w _ hS => by have e5 := F.s5.u; clear F; go_simp) F.lt fun a1 N => ?_
 replace F := F.next N
 replace f3 := N.k f3
 replace f17 := N.k f17
 have f18 := N.got
 clear N a0
 refine Ord.tk R 2 (.slice xA xn xc) rfl hQ hS (fun w _ hS => by have e18 := f18.u; have q0 := (k0 w hS); clear F; go_simp) F.lt fun a2 N => ?_
 replace F := F.next N
 replace f3 := N.k f3
 replace f17 := N.k f17
 clear f18
 have f19 := N.got
 clear N a1
 refine Ord.tj R 4 (.pointer (some ⟨b5, 1, none⟩)) (Ord.bt 10 23) rfl hQ trivial hS (fun w _ hS => by have e5 := F.s5.u; clear F; go_simp) F.lt fun a4 N => ?_
 replace F := F.next N
 replace f3 := N.k f3
 replace f17 := N.k f17
 replace f19 := N.k f19
 have f21 := N.got
 clear N a2
 refine Ord.tj R 5 (.bool xw) (Ord.bt 10 55) rfl hQ trivial hS (fun w _ hS => by have e21 := f21.u; have q0 := (k1 w hS); clear F; go_simp) F.lt fun a5 N => ?_
 replace F := F.next N
 replace f3 := N.k f3
 replace f17 := N.k f17
 replace f19 := N.k f19
 clear f21
 have f22 := N.got
 clear N a4
 refine Ord.call R (k := 3) (args := #[.slice xA xn xc]) (bs' := U10ScrR 6) rfl (by kernel_rfl) trivial (by simp [f19.ev]) (by kernel_rfl) (CL) F.lt ?_
 rintro e w ⟨A7, c7, rfl, K7⟩
 replace hS := KS w A7 c7 K7
 refine ⟨_, rfl, hS, fun a3 N => ?_⟩
 replace F := F.next N
 replace f3 := N.k f3
 replace f17 := N.k f17
 clear f19
 replace f22 := N.k f22
 have f20 := N.got
 clear N a5
 refine Ord.tk R 6 (.agg #[.slice A7 xn c7, .bool xw]) rfl hQ hS (fun w _ hS => by have e20 := f20.u; have e22 := f22.u; clear F; go_simp) F.lt fun a6 N => ?_
 replace F := F.next N
 replace f3 := N.k f3
 replace f17 := N.k f17
 clear f20
 clear f22
 have f23 := N.got
 clear N a3
 obtain ⟨b, hb⟩ : ∃ b, w.heap.size = b := ⟨_, rfl⟩
 refine Ord.value R (k := 7) (v := .slice (some ⟨b, 0, none⟩) 1 1) (w1 := (w.alloc (.cells #[.slice A7 xn c7, .bool xw] 58))) (bs' := U10ScrR 8) rfl (by kernel_rfl) trivial (KS2 w A7 c7 K7) (fun _ => by have e0 := f23.u; subst hb; clear F; go_simp) F.lt fun a7 N => ?_
 replace hS := KS2 w A7 c7 K7
 replace F := F.next N
 replace f3 := N.k f3
 replace f17 := N.k f17
 clear f23
 have f24 := N.got
 clear N a6
 refine Ord.append R (k := 8) (bs' := U10ScrR 9) (.tmp 17) (.tmp 24) 22 rfl (by kernel_rfl) trivial F.lt base 58 i0 (.agg #[.slice none 0 0, .bool false]) 2 32 Tryz.underlying22 hi hz0 hz1 hz2 rfl (by decide) vo n xsv f17.ev (KO w A7 c7 K7) (some ⟨b, 0, none⟩) 1 1 [.slice A7 xn c7, .bool xw] f24.ev (w.alloc (.cells #[.slice A7 xn c7, .bool xw] 58)).heap.size (KQ w A7 c7 K7 b hb) (by simp [Value.oneCell']) fit1 fit2 (KB w A7 c7 K7) ?_
 intro A8 c8 w8 H8 hg8 _
 have hS8 := KE w A7 c7 w8 K7 hg8
 refine ⟨hS8, fun a8 N => ?_⟩
 replace hS := hS8
 replace F := F.next N
 replace f3 := N.k f3
 clear f17
 clear f24
 have f25 := N.got
 clear N a7
 refine Ord.tk R 9 (.slice A8 (n + 1) c8) rfl hQ hS (fun w _ hS => Chain.ev_assign f25.ev) F.lt fun a9 N => ?_
 replace F := F.next N
 clear f3
 clear f25
 have f3 := N.got
 clear N a8
 exact Ord.finish R (by kernel_rfl) (h _ _ _ _ _ _ _ K7 hg8 H8 F f3)
theorem rows_frame {a : Act} {w : World} {K : Act → World → Prop} {v0 v1 v2 v3 v4 v5 v6 v7 v8 v9 v10 v11 v12 v13 v14 v15 v16 v26 v27 : Value} (hz : a.tmps.size = 28) (hd : a.defers = []) (f0 : Chain.At a 0 v0) (f1 : Chain.At a 1 v1) (f2 : Chain.At a 2 v2) (f3 : Chain.At a 3 v3) (f4 : Chain.At a 4 v4) (f5 : Chain.At a 5 v5) (f6 : Chain.At a 6 v6) (f7 : Chain.At a 7 v7) (f8 : Chain.At a 8 v8) (f9 : Chain.At a 9 v9) (f10 : Chain.At a 10 v10) (f11 : Chain.At a 11 v11) (f12 : Chain.At a 12 v12) (f13 : Chain.At a 13 v13) (f14 : Chain.At a 14 v14) (f15 : Chain.At a 15 v15) (f16 : Chain.At a 16 v16) (f26 : Chain.At a 26 v26) (f27 : Chain.At a 27 v27)
  (h : ∀ u17 u18 u19 u20 u21 u22 u23 u24 u25 : Value, K ⟨#[v0, v1, v2, v3, v4, v5, v6, v7, v8, v9, v10, v11, v12, v13, v14, v15, v16, u17, u18, u19, u20, u21, u22, u23, u24, u25, v26, v27], []⟩ w) : K a w := by
 have e := Ord.frame_gets hz hd
 simp only [Ord.gets, Nat.reduceAdd] at e
 rw [Ord.at_get f0, Ord.at_get f1, Ord.at_get f2, Ord.at_get f3, Ord.at_get f4, Ord.at_get f5, Ord.at_get f6, Ord.at_get f7, Ord.at_get f8, Ord.at_get f9, Ord.at_get f10, Ord.at_get f11, Ord.at_get f12, Ord.at_get f13, Ord.at_get f14, Ord.at_get f15, Ord.at_get f16, Ord.at_get f26, Ord.at_get f27] at e
 rw [e]
 exact h _ _ _ _ _ _ _ _ _
end Sc
