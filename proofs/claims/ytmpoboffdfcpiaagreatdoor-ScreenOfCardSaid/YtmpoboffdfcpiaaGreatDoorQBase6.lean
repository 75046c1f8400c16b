import Derived.Test.YtmpoboffdfcpiaaGreatDoorQRefRow0
set_option maxRecDepth 100000
namespace Go.Proofs.YtmpoboffdfcpiaaGreatDoor
open Go.ChangeShapes Go.WideShapes Go.ChangeAt Go.RowKit
namespace Sc
abbrev U17RScrR (k : Nat) := Ord.upto k 17
abbrev U20RScrR (k : Nat) := Ord.upto k 20
abbrev U22RScrR (k : Nat) := Ord.upto k 22
abbrev U32RScrR (k : Nat) := Ord.upto k 32
abbrev U33RScrR (k : Nat) := Ord.upto k 33
def rwipeL : List Ord.Line := [
 (some 9, .move (.tmp 0), none, []),
 (some 10, .nilCheck (.tmp 9), none, [0]),
 (some 11, .fieldAddr 97 (.tmp 10) 2, none, [1]),
 (some 12, .load 22 (.tmp 11), none, [2]),
 (some 13, .move (.tmp 1), none, []),
 (some 14, .move (.tmp 0), none, []),
 (some 15, .nilCheck (.tmp 14), none, [5]),
 (some 16, .fieldAddr 97 (.tmp 15) 2, none, [6]),
 (some 17, .load 22 (.tmp 16), none, [7]),
 (some 18, .move (.tmp 1), none, []),
 (some 19, .indexAddr 22 (.tmp 17) (.tmp 18), none, [8, 9]),
 (some 20, .load 58 (.tmp 19), none, [10]),
 (some 21, .move (.tmp 2), none, []),
 (some 22, .move (.tmp 3), none, []),
 (some 23, .call { callee := .value (.func 172), args := #[.tmp 20, .tmp 21, .tmp 22], argTypes := #[58, 3, 3] }, none, [11, 12, 13]),
 (some 8, .move (.tmp 23), none, [14]),
 (some 24, .extract (.tmp 8) 0, none, [15]),
 (some 25, .extract (.tmp 8) 1, none, [15]),
 (some 26, .indexAddr 22 (.tmp 12) (.tmp 13), none, [3, 4, 0, 1, 2, 3, 4, 5, 6, 7, 8, 9, 10, 11, 12, 13, 14, 15, 16]),
 (none, .store 58 (.tmp 26) (.tmp 24), none, [18, 16, 14, 0, 1, 2, 3, 4, 5, 6, 7, 8, 9, 10, 11, 12, 13, 14, 15, 16])]
structure rwipeFr (p i : Nat) (f t : Int) (a : Act) : Prop where
 size : a.tmps.size = 27
 defers : a.defers = []
 s0 : Chain.At a 0 (.pointer (some ⟨p, 0, none⟩))
 s1 : Chain.At a 1 (.int .i64 (i : Int))
 s2 : Chain.At a 2 (.int .i64 f)
 s3 : Chain.At a 3 (.int .i64 t)
theorem rwipeFr.next {p i : Nat} {f t : Int} {a a' : Act} {d : Nat} {v : Value} (F : rwipeFr p i f t a) (nx : Chain.Next a a' d v) (h : d ≠ 0 ∧ d ≠ 1 ∧ d ≠ 2 ∧ d ≠ 3 := by decide) : rwipeFr p i f t a' := ⟨nx.size.trans F.size, nx.defers.trans F.defers, nx.k F.s0 (by omega), nx.k F.s1 (by omega), nx.k F.s2 (by omega), nx.k F.s3 (by omega)⟩
theorem rwipeFr.lt {p i : Nat} {f t : Int} {a : Act} {d : Nat} (F : rwipeFr p i f t a) (h : d < 27 := by decide) : d < a.tmps.size := by rw [F.size]; exact h
theorem rwipe_region {ops : Array Oper} {Q : Exit → Act → World → Prop} (R : Ord.Reg ops rwipeL) (hQ : Ord.HQ Q) {w1 : World} {p g sh sc i xn xc : Nat} {f t : Int} {xA : Option Addr} {xw yw ok : Bool} {K : World → Option Addr → Nat → Nat → Prop}
  (k2 : ∀ w : World, w.heap[p]? = w1.heap[p]? → w.cell? ⟨p, 2, none⟩ = some (.slice (some ⟨g, 0, none⟩) sh sc))
  (hi0 : (0 : Int) ≤ (i : Int)) (hih : (i : Int) < (sh : Int)) (g0 : w1.cell? ⟨g, i * 2, none⟩ = some (.slice xA xn xc)) (g1 : w1.cell? ⟨g, i * 2 + 1, none⟩ = some (.bool xw))
  (SW : Calls Tryz.prog 172 #[.agg #[.slice xA xn xc, .bool xw], .int .i64 f, .int .i64 t] w1 fun e w' => ∃ A n c, e = .returned (.tuple #[.agg #[.slice A n c, .bool yw], .bool ok]) ∧ K w' A n c)
  (KS : ∀ w A n c, K w A n c → w.heap[p]? = w1.heap[p]?) (KG : ∀ w A n c, K w A n c → (∃ v, w.cell? ⟨g, i * 2, none⟩ = some v) ∧ (∃ v, w.cell? ⟨g, i * 2 + 1, none⟩ = some v) ∧ w.frozen? ⟨g, i * 2, none⟩ = false ∧ w.frozen? ⟨g, i * 2 + 1, none⟩ = false)
  (KE : ∀ w A7 n7 c7, K w A7 n7 c7 → ((w.setCell ⟨g, i * 2, none⟩ (.slice A7 n7 c7)).setCell ⟨g, i * 2 + 1, none⟩ (.bool yw)).heap[p]? = w1.heap[p]?)
  (a : Act) (F : rwipeFr p i f t a) (h : ∀ a w A7 n7 c7, K w A7 n7 c7 → rwipeFr p i f t a → Q .normal a ((w.setCell ⟨g, i * 2, none⟩ (.slice A7 n7 c7)).setCell ⟨g, i * 2 + 1, none⟩ (.bool yw))) :
  wpAnyH Tryz.prog .any ops Q (fun w => w.heap[p]? = w1.heap[p]?) 20 (List.replicate 20 false).toArray a w1 := by
 have hS : w1.heap[p]? = w1.heap[p]? := rfl
 refine Ord.tj R 0 (.pointer (some ⟨p, 0, none⟩)) (U20RScrR 1) rfl hQ trivial hS (fun w _ hS => Chain.ev_move F.s0.ev) F.lt fun a0 N => ?_
 replace F := F.next N
 have f9 := N.got
 clear N a
 refine Ord.tk R 1 (.pointer (some ⟨p, 0, none⟩)) rfl hQ hS (fun w _ hS => by have e9 := f9.u; clear F; go_simp) F.lt fun a1 N => ?_
 replace F := F.next N
 clear f9
 have f10 := N.got
 clear N a0
 refine Ord.tk R 2 (.pointer (some ⟨p, 2, none⟩)) rfl hQ hS (fun w _ hS => by have e10 := f10.u; clear F; go_simp) F.lt fun a2 N => ?_
 replace F := F.next N
 clear f10
 have f11 := N.got
 clear N a1
 refine Ord.tk R 3 (.slice (some ⟨g, 0, none⟩) sh sc) rfl hQ hS (fun w _ hS => by have e11 := f11.u; have q0 := (k2 w hS); clear F; go_simp) F.lt fun a3 N => ?_
 replace F := F.next N
 clear f11
 have f12 := N.got
 clear N a2
 refine Ord.tk R 4 (.int .i64 (i : Int)) rfl hQ hS (fun w _ hS => Chain.ev_move F.s1.ev) F.lt fun a4 N => ?_
 replace F := F.next N
 replace f12 := N.k f12
 have f13 := N.got
 clear N a3
 refine Ord.tk R 5 (.pointer (some ⟨p, 0, none⟩)) rfl hQ hS (fun w _ hS => Chain.ev_move F.s0.ev) F.lt fun a5 N => ?_
 replace F := F.next N
 replace f12 := N.k f12
 replace f13 := N.k f13
 have f14 := N.got
 clear N a4
 refine Ord.tk R 6 (.pointer (some ⟨p, 0, none⟩)) rfl hQ hS (fun w _ hS => by have e14 := f14.u; clear F; go_simp) F.lt fun a6 N => ?_
 replace F := F.next N
 replace f12 := N.k f12
 replace f13 := N.k f13
 clear f14
 have f15 := N.got
 clear N a5
 refine Ord.tk R 7 (.pointer (some ⟨p, 2, none⟩)) rfl hQ hS (fun w _ hS => by have e15 := f15.u; clear F; go_simp) F.lt fun a7 N => ?_
 replace F := F.next N
 replace f12 := N.k f12
 replace f13 := N.k f13
 clear f15
 have f16 := N.got
 clear N a6
 refine Ord.tk R 8 (.slice (some ⟨g, 0, none⟩) sh sc) rfl hQ hS (fun w _ hS => by have e16 := f16.u; have q0 := (k2 w hS); clear F; go_simp) F.lt fun a8 N => ?_
 replace F := F.next N
 replace f12 := N.k f12
 replace f13 := N.k f13
 clear f16
 have f17 := N.got
 clear N a7
 refine Ord.tk R 9 (.int .i64 (i : Int)) rfl hQ hS (fun w _ hS => Chain.ev_move F.s1.ev) F.lt fun a9 N => ?_
 replace F := F.next N
 replace f12 := N.k f12
 replace f13 := N.k f13
 replace f17 := N.k f17
 have f18 := N.got
 clear N a8
 refine Ord.tk R 10 (.pointer (some ⟨g, i * 2, none⟩)) rfl hQ hS (fun w _ hS => by have e17 := f17.u; have e18 := f18.u; have q0 := hi0; have q1 := hih; clear F; go_simp) F.lt fun a10 N => ?_
 replace F := F.next N
 replace f12 := N.k f12
 replace f13 := N.k f13
 clear f17
 clear f18
 have f19 := N.got
 clear N a9
 refine Ord.tj R 12 (.int .i64 f) (Ord.bt 20 6143) rfl hQ trivial hS (fun w _ hS => Chain.ev_move F.s2.ev) F.lt fun a12 N => ?_
 replace F := F.next N
 replace f12 := N.k f12
 replace f13 := N.k f13
 replace f19 := N.k f19
 have f21 := N.got
 clear N a10
 refine Ord.tj R 13 (.int .i64 t) (Ord.bt 20 14335) rfl hQ trivial hS (fun w _ hS => Chain.ev_move F.s3.ev) F.lt fun a13 N => ?_
 replace F := F.next N
 replace f12 := N.k f12
 replace f13 := N.k f13
 replace f19 := N.k f19
 replace f21 := N.k f21
 have f22 := N.got
 clear N a12
 refine Ord.value R (k := 11) (v := .agg #[.slice xA xn xc, .bool xw]) (bs' := U20RScrR 14) rfl (by kernel_rfl) trivial hS (fun _ => by have e19 := f19.u; have q0 := g0; have q1 := g1; clear F; go_simp) F.lt fun a11 N => ?_
 replace F := F.next N
 replace f12 := N.k f12
 replace f13 := N.k f13
 clear f19
 replace f21 := N.k f21
 replace f22 := N.k f22
 have f20 := N.got
 clear N a13
 refine Ord.call R (k := 14) (args := #[.agg #[.slice xA xn xc, .bool xw], .int .i64 f, .int .i64 t]) (bs' := U20RScrR 15) rfl (by kernel_rfl) trivial (by simp [f20.ev, f21.ev, f22.ev]) (by kernel_rfl) (SW) F.lt ?_
 rintro e w ⟨A7, n7, c7, rfl, K7⟩
 replace hS := KS w A7 n7 c7 K7
 refine ⟨_, rfl, hS, fun a14 N => ?_⟩
 replace F := F.next N
 replace f12 := N.k f12
 replace f13 := N.k f13
 clear f20
 clear f21
 clear f22
 have f23 := N.got
 clear N a11
 refine Ord.tk R 15 (.tuple #[.agg #[.slice A7 n7 c7, .bool yw], .bool ok]) rfl hQ hS (fun w _ hS => Chain.ev_move f23.ev) F.lt fun a15 N => ?_
 replace F := F.next N
 replace f12 := N.k f12
 replace f13 := N.k f13
 clear f23
 have f8 := N.got
 clear N a14
 refine Ord.tk R 16 (.agg #[.slice A7 n7 c7, .bool yw]) rfl hQ hS (fun w _ hS => by have e8 := f8.u; clear F; go_simp) F.lt fun a16 N => ?_
 replace F := F.next N
 replace f8 := N.k f8
 replace f12 := N.k f12
 replace f13 := N.k f13
 have f24 := N.got
 clear N a15
 refine Ord.tk R 17 (.bool ok) rfl hQ hS (fun w _ hS => by have e8 := f8.u; clear F; go_simp) F.lt fun a17 N => ?_
 replace F := F.next N
 clear f8
 replace f12 := N.k f12
 replace f13 := N.k f13
 replace f24 := N.k f24
 clear N a16
 refine Ord.tk R 18 (.pointer (some ⟨g, i * 2, none⟩)) rfl hQ hS (fun w _ hS => by have e12 := f12.u; have e13 := f13.u; have q0 := hi0; have q1 := hih; clear F; go_simp) F.lt fun a18 N => ?_
 replace F := F.next N
 clear f12
 clear f13
 replace f24 := N.k f24
 have f26 := N.got
 clear N a17
 obtain ⟨⟨v0, q0⟩, ⟨v1, q1⟩, q2, q3⟩ := KG w A7 n7 c7 K7
 refine Ord.effect R (k := 19) (bs' := U20RScrR 20) (w1 := (w.setCell ⟨g, i * 2, none⟩ (.slice A7 n7 c7)).setCell ⟨g, i * 2 + 1, none⟩ (.bool yw)) rfl (by kernel_rfl) trivial (KE w A7 n7 c7 K7) (fun _ => by have e0 := f24; have e1 := f26; unfold Chain.At at e0 e1; clear F; go_simp) ?_
 exact Ord.finish R (by kernel_rfl) (h _ _ _ _ _ K7 F)
theorem rwipe_frame {a : Act} {w : World} {K : Act → World → Prop} {v0 v1 v2 v3 : Value} (hz : a.tmps.size = 27) (hd : a.defers = []) (f0 : Chain.At a 0 v0) (f1 : Chain.At a 1 v1) (f2 : Chain.At a 2 v2) (f3 : Chain.At a 3 v3)
  (h : ∀ u4 u5 u6 u7 u8 u9 u10 u11 u12 u13 u14 u15 u16 u17 u18 u19 u20 u21 u22 u23 u24 u25 u26 : Value, K ⟨#[v0, v1, v2, v3, u4, u5, u6, u7, u8, u9, u10, u11, u12, u13, u14, u15, u16, u17, u18, u19, u20, u21, u22, u23, u24, u25, u26], []⟩ w) : K a w := by
 have e := Ord.frame_gets hz hd
 simp only [Ord.gets, Nat.reduceAdd] at e
 rw [Ord.at_get f0, Ord.at_get f1, Ord.at_get f2, Ord.at_get f3] at e
 rw [e]
 exact h _ _ _ _ _ _ _ _ _ _ _ _ _ _ _ _ _ _ _ _ _ _ _
def rputL : List Ord.Line := [
 (some 89, .move (.tmp 0), none, []),
 (some 90, .nilCheck (.tmp 89), none, [0]),
 (some 91, .fieldAddr 97 (.tmp 90) 2, none, [1]),
 (some 92, .load 22 (.tmp 91), none, [2]),
 (some 93, .move (.tmp 0), none, []),
 (some 94, .nilCheck (.tmp 93), none, [4]),
 (some 95, .fieldAddr 97 (.tmp 94) 3, none, [5]),
 (some 96, .fieldAddr 24 (.tmp 95) 0, none, [6]),
 (some 97, .load 3 (.tmp 96), none, [7]),
 (some 98, .move (.tmp 0), none, []),
 (some 99, .nilCheck (.tmp 98), none, [9]),
 (some 100, .fieldAddr 97 (.tmp 99) 2, none, [10]),
 (some 101, .load 22 (.tmp 100), none, [11]),
 (some 102, .move (.tmp 0), none, []),
 (some 103, .nilCheck (.tmp 102), none, [13]),
 (some 104, .fieldAddr 97 (.tmp 103) 3, none, [14]),
 (some 105, .fieldAddr 24 (.tmp 104) 0, none, [15]),
 (some 106, .load 3 (.tmp 105), none, [16]),
 (some 107, .indexAddr 22 (.tmp 101) (.tmp 106), none, [12, 17]),
 (some 108, .load 58 (.tmp 107), none, [18]),
 (some 109, .move (.tmp 0), none, []),
 (some 110, .nilCheck (.tmp 109), none, [20]),
 (some 111, .fieldAddr 97 (.tmp 110) 3, none, [21]),
 (some 112, .fieldAddr 24 (.tmp 111) 1, none, [22]),
 (some 113, .load 3 (.tmp 112), none, [23]),
 (some 114, .move (.tmp 5), none, []),
 (some 115, .call { callee := .value (.func 124), args := #[.tmp 108, .tmp 113, .tmp 114], argTypes := #[58, 3, 51] }, none, [19, 24, 25]),
 (some 88, .move (.tmp 115), none, [26]),
 (some 116, .extract (.tmp 88) 0, none, [27]),
 (some 117, .extract (.tmp 88) 1, none, [27]),
 (some 118, .indexAddr 22 (.tmp 92) (.tmp 97), none, [3, 8, 0, 1, 2, 3, 4, 5, 6, 7, 8, 9, 10, 11, 12, 13, 14, 15, 16, 17, 18, 19, 20, 21, 22, 23, 24, 25, 26, 27, 28]),
 (none, .store 58 (.tmp 118) (.tmp 116), none, [30, 28, 26, 0, 1, 2, 3, 4, 5, 6, 7, 8, 9, 10, 11, 12, 13, 14, 15, 16, 17, 18, 19, 20, 21, 22, 23, 24, 25, 26, 27, 28])]
structure rputFr (p : Nat) (r : Int) (lA : Option Addr) (lm lc : Nat) (p6 : Value) (a : Act) : Prop where
 size : a.tmps.size = 131
 defers : a.defers = []
 s0 : Chain.At a 0 (.pointer (some ⟨p, 0, none⟩))
 s1 : Chain.At a 1 (.int .i32 r)
 s5 : Chain.At a 5 (.slice lA lm lc)
 s6 : Chain.At a 6 (p6)
theorem rputFr.next {p : Nat} {r : Int} {lA : Option Addr} {lm lc : Nat} {p6 : Value} {a a' : Act} {d : Nat} {v : Value} (F : rputFr p r lA lm lc p6 a) (nx : Chain.Next a a' d v) (h : d ≠ 0 ∧ d ≠ 1 ∧ d ≠ 5 ∧ d ≠ 6 := by decide) : rputFr p r lA lm lc p6 a' := ⟨nx.size.trans F.size, nx.defers.trans F.defers, nx.k F.s0 (by omega), nx.k F.s1 (by omega), nx.k F.s5 (by omega), nx.k F.s6 (by omega)⟩
theorem rputFr.lt {p : Nat} {r : Int} {lA : Option Addr} {lm lc : Nat} {p6 : Value} {a : Act} {d : Nat} (F : rputFr p r lA lm lc p6 a) (h : d < 131 := by decide) : d < a.tmps.size := by rw [F.size]; exact h
theorem rput_region {ops : Array Oper} {Q : Exit → Act → World → Prop} (R : Ord.Reg ops rputL) (hQ : Ord.HQ Q) {w1 : World} {p g sh sc i c xn xc lm lc : Nat} {r : Int} {lA : Option Addr} {p6 : Value} {xA : Option Addr} {xw yw ok : Bool} {K : World → Option Addr → Nat → Nat → Prop}
  (k2 : ∀ w : World, w.heap[p]? = w1.heap[p]? → w.cell? ⟨p, 2, none⟩ = some (.slice (some ⟨g, 0, none⟩) sh sc))
  (k3 : ∀ w : World, w.heap[p]? = w1.heap[p]? → w.cell? ⟨p, 3, none⟩ = some (.int .i64 (i : Int)))
  (k4 : ∀ w : World, w.heap[p]? = w1.heap[p]? → w.cell? ⟨p, 4, none⟩ = some (.int .i64 (c : Int)))
  (hi0 : (0 : Int) ≤ (i : Int)) (hih : (i : Int) < (sh : Int)) (g0 : w1.cell? ⟨g, i * 2, none⟩ = some (.slice xA xn xc)) (g1 : w1.cell? ⟨g, i * 2 + 1, none⟩ = some (.bool xw))
  (SW : Calls Tryz.prog 124 #[.agg #[.slice xA xn xc, .bool xw], .int .i64 (c : Int), .slice lA lm lc] w1 fun e w' => ∃ A n c, e = .returned (.tuple #[.agg #[.slice A n c, .bool yw], .bool ok]) ∧ K w' A n c)
  (KS : ∀ w A n c, K w A n c → w.heap[p]? = w1.heap[p]?) (KG : ∀ w A n c, K w A n c → (∃ v, w.cell? ⟨g, i * 2, none⟩ = some v) ∧ (∃ v, w.cell? ⟨g, i * 2 + 1, none⟩ = some v) ∧ w.frozen? ⟨g, i * 2, none⟩ = false ∧ w.frozen? ⟨g, i * 2 + 1, none⟩ = false)
  (KE : ∀ w A7 n7 c7, K w A7 n7 c7 → ((w.setCell ⟨g, i * 2, none⟩ (.slice A7 n7 c7)).setCell ⟨g, i * 2 + 1, none⟩ (.bool yw)).heap[p]? = w1.heap[p]?)
  (a : Act) (F : rputFr p r lA lm lc p6 a) (h : ∀ a w A7 n7 c7, K w A7 n7 c7 → rputFr p r lA lm lc p6 a → Q .normal a ((w.setCell ⟨g, i * 2, none⟩ (.slice A7 n7 c7)).setCell ⟨g, i * 2 + 1, none⟩ (.bool yw))) :
  wpAnyH Tryz.prog .any ops Q (fun w => w.heap[p]? = w1.heap[p]?) 32 (List.replicate 32 false).toArray a w1 := by
 have hS : w1.heap[p]? = w1.heap[p]? := rfl
 refine Ord.tj R 0 (.pointer (some ⟨p, 0, none⟩)) (U32RScrR 1) rfl hQ trivial hS (fun w _ hS => Chain.ev_move F.s0.ev) F.lt fun a0 N => ?_
 replace F := F.next N
 have f89 := N.got
 clear N a
 refine Ord.tk R 1 (.pointer (some ⟨p, 0, none⟩)) rfl hQ hS (fun w _ hS => by have e89 := f89.u; clear F; go_simp) F.lt fun a1 N => ?_
 replace F := F.next N
 clear f89
 have f90 := N.got
 clear N a0
 refine Ord.tk R 2 (.pointer (some ⟨p, 2, none⟩)) rfl hQ hS (fun w _ hS => by have e90 := f90.u; clear F; go_simp) F.lt fun a2 N => ?_
 replace F := F.next N
 clear f90
 have f91 := N.got
 clear N a1
 refine Ord.tk R 3 (.slice (some ⟨g, 0, none⟩) sh sc) rfl hQ hS (fun w _ hS => by have e91 := f91.u; have q0 := (k2 w hS); clear F; go_simp) F.lt fun a3 N => ?_
 replace F := F.next N
 clear f91
 have f92 := N.got
 clear N a2
 refine Ord.tk R 4 (.pointer (some ⟨p, 0, none⟩)) rfl hQ hS (fun w _ hS => Chain.ev_move F.s0.ev) F.lt fun a4 N => ?_
 replace F := F.next N
 replace f92 := N.k f92
 have f93 := N.got
 clear N a3
 refine Ord.tk R 5 (.pointer (some ⟨p, 0, none⟩)) rfl hQ hS (fun w _ hS => by have e93 := f93.u; clear F; go_simp) F.lt fun a5 N => ?_
 replace F := F.next N
 replace f92 := N.k f92
 clear f93
 have f94 := N.got
 clear N a4
 refine Ord.tk R 6 (.pointer (some ⟨p, 3, none⟩)) rfl hQ hS (fun w _ hS => by have e94 := f94.u; clear F; go_simp) F.lt fun a6 N => ?_
 replace F := F.next N
 replace f92 := N.k f92
 clear f94
 have f95 := N.got
 clear N a5
 refine Ord.tk R 7 (.pointer (some ⟨p, 3, none⟩)) rfl hQ hS (fun w _ hS => by have e95 := f95.u; clear F; go_simp) F.lt fun a7 N => ?_
 replace F := F.next N
 replace f92 := N.k f92
 clear f95
 have f96 := N.got
 clear N a6
 refine Ord.tk R 8 (.int .i64 (i : Int)) rfl hQ hS (fun w _ hS => by have e96 := f96.u; have q0 := (k3 w hS); clear F; go_simp) F.lt fun a8 N => ?_
 replace F := F.next N
 replace f92 := N.k f92
 clear f96
 have f97 := N.got
 clear N a7
 refine Ord.tk R 9 (.pointer (some ⟨p, 0, none⟩)) rfl hQ hS (fun w _ hS => Chain.ev_move F.s0.ev) F.lt fun a9 N => ?_
 replace F := F.next N
 replace f92 := N.k f92
 replace f97 := N.k f97
 have f98 := N.got
 clear N a8
 refine Ord.tk R 10 (.pointer (some ⟨p, 0, none⟩)) rfl hQ hS (fun w _ hS => by have e98 := f98.u; clear F; go_simp) F.lt fun a10 N => ?_
 replace F := F.next N
 replace f92 := N.k f92
 replace f97 := N.k f97
 clear f98
 have f99 := N.got
 clear N a9
 refine Ord.tk R 11 (.pointer (some ⟨p, 2, none⟩)) rfl hQ hS (fun w _ hS => by have e99 := f99.u; clear F; go_simp) F.lt fun a11 N => ?_
 replace F := F.next N
 replace f92 := N.k f92
 replace f97 := N.k f97
 clear f99
 have f100 := N.got
 clear N a10
 refine Ord.tk R 12 (.slice (some ⟨g, 0, none⟩) sh sc) rfl hQ hS (fun w _ hS => by have e100 := f100.u; have q0 := (k2 w hS); clear F; go_simp) F.lt fun a12 N => ?_
 replace F := F.next N
 replace f92 := N.k f92
 replace f97 := N.k f97
 clear f100
 have f101 := N.got
 clear N a11
 refine Ord.tk R 13 (.pointer (some ⟨p, 0, none⟩)) rfl hQ hS (fun w _ hS => Chain.ev_move F.s0.ev) F.lt fun a13 N => ?_
 replace F := F.next N
 replace f92 := N.k f92
 replace f97 := N.k f97
 replace f101 := N.k f101
 have f102 := N.got
 clear N a12
 refine Ord.tk R 14 (.pointer (some ⟨p, 0, none⟩)) rfl hQ hS (fun w _ hS => by have e102 := f102.u; clear F; go_simp) F.lt fun a14 N => ?_
 replace F := F.next N
 replace f92 := N.k f92
 replace f97 := N.k f97
 replace f101 := N.k f101
 clear f102
 have f103 := N.got
 clear N a13
 refine Ord.tk R 15 (.pointer (some ⟨p, 3, none⟩)) rfl hQ hS (fun w _ hS => by have e103 := f103.u; clear F; go_simp) F.lt fun a15 N => ?_
 replace F := F.next N
 replace f92 := N.k f92
 replace f97 := N.k f97
 replace f101 := N.k f101
 clear f103
 have f104 := N.got
 clear N a14
 refine Ord.tk R 16 (.pointer (some ⟨p, 3, none⟩)) rfl hQ hS (fun w _ hS => by have e104 := f104.u; clear F; go_simp) F.lt fun a16 N => ?_
 replace F := F.next N
 replace f92 := N.k f92
 replace f97 := N.k f97
 replace f101 := N.k f101
 clear f104
 have f105 := N.got
 clear N a15
 refine Ord.tk R 17 (.int .i64 (i : Int)) rfl hQ hS (fun w _ hS => by have e105 := f105.u; have q0 := (k3 w hS); clear F; go_simp) F.lt fun a17 N => ?_
 replace F := F.next N
 replace f92 := N.k f92
 replace f97 := N.k f97
 replace f101 := N.k f101
 clear f105
 have f106 := N.got
 clear N a16
 refine Ord.tk R 18 (.pointer (some ⟨g, i * 2, none⟩)) rfl hQ hS (fun w _ hS => by have e101 := f101.u; have e106 := f106.u; have q0 := hi0; have q1 := hih; clear F; go_simp) F.lt fun a18 N => ?_
 replace F := F.next N
 replace f92 := N.k f92
 replace f97 := N.k f97
 clear f101
 clear f106
 have f107 := N.got
 clear N a17
 refine Ord.tj R 20 (.pointer (some ⟨p, 0, none⟩)) (Ord.bt 32 1572863) rfl hQ trivial hS (fun w _ hS => Chain.ev_move F.s0.ev) F.lt fun a20 N => ?_
 replace F := F.next N
 replace f92 := N.k f92
 replace f97 := N.k f97
 replace f107 := N.k f107
 have f109 := N.got
 clear N a18
 refine Ord.tj R 21 (.pointer (some ⟨p, 0, none⟩)) (Ord.bt 32 3670015) rfl hQ trivial hS (fun w _ hS => by have e109 := f109.u; clear F; go_simp) F.lt fun a21 N => ?_
 replace F := F.next N
 replace f92 := N.k f92
 replace f97 := N.k f97
 replace f107 := N.k f107
 clear f109
 have f110 := N.got
 clear N a20
 refine Ord.tj R 22 (.pointer (some ⟨p, 3, none⟩)) (Ord.bt 32 7864319) rfl hQ trivial hS (fun w _ hS => by have e110 := f110.u; clear F; go_simp) F.lt fun a22 N => ?_
 replace F := F.next N
 replace f92 := N.k f92
 replace f97 := N.k f97
 replace f107 := N.k f107
 clear f110
 have f111 := N.got
 clear N a21
 refine Ord.tj R 23 (.pointer (some ⟨p, 4, none⟩)) (Ord.bt 32 16252927) rfl hQ trivial hS (fun w _ hS => by have e111 := f111.u; clear F; go_simp) F.lt fun a23 N => ?_
 replace F := F.next N
 replace f92 := N.k f92
 replace f97 := N.k f97
 replace f107 := N.k f107
 clear f111
 have f112 := N.got
 clear N a22
 refine Ord.tj R 24 (.int .i64 (c : Int)) (Ord.bt 32 33030143) rfl hQ trivial hS (fun w _ hS => by have e112 := f112.u; have q0 := (k4 w hS); clear F; go_simp) F.lt fun a24 N => ?_
 replace F := F.next N
 replace f92 := N.k f92
 replace f97 := N.k f97
 replace f107 := N.k f107
 clear f112
 have f113 := N.got
 clear N a23
 refine Ord.tj R 25 (.slice lA lm lc) (Ord.bt 32 66584575) rfl hQ trivial hS (fun w _ hS => Chain.ev_move F.s5.ev) F.lt fun a25 N => ?_
 replace F := F.next N
 replace f92 := N.k f92
 replace f97 := N.k f97
 replace f107 := N.k f107
 replace f113 := N.k f113
 have f114 := N.got
 clear N a24
 refine Ord.value R (k := 19) (v := .agg #[.slice xA xn xc, .bool xw]) (bs' := U32RScrR 26) rfl (by kernel_rfl) trivial hS (fun _ => by have e107 := f107.u; have q0 := g0; have q1 := g1; clear F; go_simp) F.lt fun a19 N => ?_
 replace F := F.next N
 replace f92 := N.k f92
 replace f97 := N.k f97
 clear f107
 replace f113 := N.k f113
 replace f114 := N.k f114
 have f108 := N.got
 clear N a25
 refine Ord.call R (k := 26) (args := #[.agg #[.slice xA xn xc, .bool xw], .int .i64 (c : Int), .slice lA lm lc]) (bs' := U32RScrR 27) rfl (by kernel_rfl) trivial (by simp [f108.ev, f113.ev, f114.ev]) (by kernel_rfl) (SW) F.lt ?_
 rintro e w ⟨A7, n7, c7, rfl, K7⟩
 replace hS := KS w A7 n7 c7 K7
 refine ⟨_, rfl, hS, fun a26 N => ?_⟩
 replace F := F.next N
 replace f92 := N.k f92
 replace f97 := N.k f97
 clear f108
 clear f113
 clear f114
 have f115 := N.got
 clear N a19
 refine Ord.tk R 27 (.tuple #[.agg #[.slice A7 n7 c7, .bool yw], .bool ok]) rfl hQ hS (fun w _ hS => Chain.ev_move f115.ev) F.lt fun a27 N => ?_
 replace F := F.next N
 replace f92 := N.k f92
 replace f97 := N.k f97
 clear f115
 have f88 := N.got
 clear N a26
 refine Ord.tk R 28 (.agg #[.slice A7 n7 c7, .bool yw]) rfl hQ hS (fun w _ hS => by have e88 := f88.u; clear F; go_simp) F.lt fun a28 N => ?_
 replace F := F.next N
 replace f88 := N.k f88
 replace f92 := N.k f92
 replace f97 := N.k f97
 have f116 := N.got
 clear N a27
 refine Ord.tk R 29 (.bool ok) rfl hQ hS (fun w _ hS => by have e88 := f88.u; clear F; go_simp) F.lt fun a29 N => ?_
 replace F := F.next N
 clear f88
 replace f92 := N.k f92
 replace f97 := N.k f97
 replace f116 := N.k f116
 clear N a28
 refine Ord.tk R 30 (.pointer (some ⟨g, i * 2, none⟩)) rfl hQ hS (fun w _ hS => by have e92 := f92.u; have e97 := f97.u; have q0 := hi0; have q1 := hih; clear F; go_simp) F.lt fun a30 N => ?_
 replace F := F.next N
 clear f92
 clear f97
 replace f116 := N.k f116
 have f118 := N.got
 clear N a29
 obtain ⟨⟨v0, q0⟩, ⟨v1, q1⟩, q2, q3⟩ := KG w A7 n7 c7 K7
 refine Ord.effect R (k := 31) (bs' := U32RScrR 32) (w1 := (w.setCell ⟨g, i * 2, none⟩ (.slice A7 n7 c7)).setCell ⟨g, i * 2 + 1, none⟩ (.bool yw)) rfl (by kernel_rfl) trivial (KE w A7 n7 c7 K7) (fun _ => by have e0 := f116; have e1 := f118; unfold Chain.At at e0 e1; clear F; go_simp) ?_
 exact Ord.finish R (by kernel_rfl) (h _ _ _ _ _ K7 F)
theorem rput_frame {a : Act} {w : World} {K : Act → World → Prop} {v0 v1 v5 v6 : Value} (hz : a.tmps.size = 131) (hd : a.defers = []) (f0 : Chain.At a 0 v0) (f1 : Chain.At a 1 v1) (f5 : Chain.At a 5 v5) (f6 : Chain.At a 6 v6)
  (h : ∀ u2 u3 u4 u7 u8 u9 u10 u11 u12 u13 u14 u15 u16 u17 u18 u19 u20 u21 u22 u23 u24 u25 u26 u27 u28 u29 u30 u31 u32 u33 u34 u35 u36 u37 u38 u39 u40 u41 u42 u43 u44 u45 u46 u47 u48 u49 u50 u51 u52 u53 u54 u55 u56 u57 u58 u59 u60 u61 u62 u63 u64 u65 u66 u67 u68 u69 u70 u71 u72 u73 u74 u75 u76 u77 u78 u79 u80 u81 u82 u83 u84 u85 u86 u87 u88 u89 u90 u91 u92 u93 u94 u95 u96 u97 u98 u99 u100 u101 u102 u103 u104 u105 u106 u107 u108 u109 u110 u111 u112 u113 u114 u115 u116 u117 u118 u119 u120 u121 u122 u123 u124 u125 u126 u127 u128 u129 u130 : Value, K ⟨#[v0, v1, u2, u3, u4, v5, v6, u7, u8, u9, u10, u11, u12, u13, u14, u15, u16, u17, u18, u19, u20, u21, u22, u23, u24, u25, u26, u27, u28, u29, u30, u31, u32, u33, u34, u35, u36, u37, u38, u39, u40, u41, u42, u43, u44, u45, u46, u47, u48, u49, u50, u51, u52, u53, u54, u55, u56, u57, u58, u59, u60, u61, u62, u63, u64, u65, u66, u67, u68, u69, u70, u71, u72, u73, u74, u75, u76, u77, u78, u79, u80, u81, u82, u83, u84, u85, u86, u87, u88, u89, u90, u91, u92, u93, u94, u95, u96, u97, u98, u99, u100, u101, u102, u103, u104, u105, u106, u107, u108, u109, u110, u111, u112, u113, u114, u115, u116, u117, u118, u119, u120, u121, u122, u123, u124, u125, u126, u127, u128, u129, u130], []⟩ w) : K a w := by
 have e := Ord.frame_gets hz hd
 simp only [Ord.gets, Nat.reduceAdd] at e
 rw [Ord.at_get f0, Ord.at_get f1, Ord.at_get f5, Ord.at_get f6] at e
 rw [e]
 exact h _ _ _ _ _ _ _ _ _ _ _ _ _ _ _ _ _ _ _ _ _ _ _ _ _ _ _ _ _ _ _ _ _ _ _ _ _ _ _ _ _ _ _ _ _ _ _ _ _ _ _ _ _ _ _ _ _ _ _ _ _ _ _ _ _ _ _ _ _ _ _ _ _ _ _ _ _ _ _ _ _ _ _ _ _ _ _ _ _ _ _ _ _ _ _ _ _ _ _ _ _ _ _ _ _ _ _ _ _ _ _ _ _ _ _ _ _ _ _ _ _ _ _ _ _ _ _
def rpadL : List Ord.Line := [
 (some 40, .move (.tmp 0), none, []),
 (some 41, .nilCheck (.tmp 40), none, [0]),
 (some 42, .fieldAddr 97 (.tmp 41) 2, none, [1]),
 (some 43, .load 22 (.tmp 42), none, [2]),
 (some 44, .move (.tmp 0), none, []),
 (some 45, .nilCheck (.tmp 44), none, [4]),
 (some 46, .fieldAddr 97 (.tmp 45) 3, none, [5]),
 (some 47, .fieldAddr 24 (.tmp 46) 0, none, [6]),
 (some 48, .load 3 (.tmp 47), none, [7]),
 (some 49, .move (.tmp 0), none, []),
 (some 50, .nilCheck (.tmp 49), none, [9]),
 (some 51, .fieldAddr 97 (.tmp 50) 2, none, [10]),
 (some 52, .load 22 (.tmp 51), none, [11]),
 (some 53, .move (.tmp 0), none, []),
 (some 54, .nilCheck (.tmp 53), none, [13]),
 (some 55, .fieldAddr 97 (.tmp 54) 3, none, [14]),
 (some 56, .fieldAddr 24 (.tmp 55) 0, none, [15]),
 (some 57, .load 3 (.tmp 56), none, [16]),
 (some 58, .indexAddr 22 (.tmp 52) (.tmp 57), none, [12, 17]),
 (some 59, .load 58 (.tmp 58), none, [18]),
 (some 60, .move (.tmp 0), none, []),
 (some 61, .nilCheck (.tmp 60), none, [20]),
 (some 62, .fieldAddr 97 (.tmp 61) 3, none, [21]),
 (some 63, .fieldAddr 24 (.tmp 62) 1, none, [22]),
 (some 64, .load 3 (.tmp 63), none, [23]),
 (some 65, .call { callee := .value (.func 43), args := #[], argTypes := #[] }, none, []),
 (some 66, .buildSlice 51 1 #[(0, .tmp 65)], none, [25]),
 (some 67, .call { callee := .value (.func 124), args := #[.tmp 59, .tmp 64, .tmp 66], argTypes := #[58, 3, 51] }, none, [19, 24, 26, 25]),
 (some 39, .move (.tmp 67), none, [27]),
 (some 68, .extract (.tmp 39) 0, none, [28]),
 (some 69, .extract (.tmp 39) 1, none, [28]),
 (some 70, .indexAddr 22 (.tmp 43) (.tmp 48), none, [3, 8, 0, 1, 2, 3, 4, 5, 6, 7, 8, 9, 10, 11, 12, 13, 14, 15, 16, 17, 18, 19, 20, 21, 22, 23, 24, 25, 26, 27, 28, 29]),
 (none, .store 58 (.tmp 70) (.tmp 68), none, [31, 29, 27, 0, 1, 2, 3, 4, 5, 6, 7, 8, 9, 10, 11, 12, 13, 14, 15, 16, 17, 18, 19, 20, 21, 22, 23, 24, 25, 26, 27, 28, 29])]
structure rpadFr (p : Nat) (r : Int) (lA : Option Addr) (lm lc : Nat) (p6 : Value) (a : Act) : Prop where
 size : a.tmps.size = 131
 defers : a.defers = []
 s0 : Chain.At a 0 (.pointer (some ⟨p, 0, none⟩))
 s1 : Chain.At a 1 (.int .i32 r)
 s5 : Chain.At a 5 (.slice lA lm lc)
 s6 : Chain.At a 6 (p6)
theorem rpadFr.next {p : Nat} {r : Int} {lA : Option Addr} {lm lc : Nat} {p6 : Value} {a a' : Act} {d : Nat} {v : Value} (F : rpadFr p r lA lm lc p6 a) (nx : Chain.Next a a' d v) (h : d ≠ 0 ∧ d ≠ 1 ∧ d ≠ 5 ∧ d ≠ 6 := by decide) : rpadFr p r lA lm lc p6 a' := ⟨nx.size.trans F.size, nx.defers.trans F.defers, nx.k F.s0 (by omega), nx.k F.s1 (by omega), nx.k F.s5 (by omega), nx.k F.s6 (by omega)⟩
theorem rpadFr.lt {p : Nat} {r : Int} {lA : Option Addr} {lm lc : Nat} {p6 : Value} {a : Act} {d : Nat} (F : rpadFr p r lA lm lc p6 a) (h : d < 131 := by decide) : d < a.tmps.size := by rw [F.size]; exact h
theorem rpad_region {ops : Array Oper} {Q : Exit → Act → World → Prop} (R : Ord.Reg ops rpadL) (hQ : Ord.HQ Q) {w1 : World} {p g sh sc i c xn xc lm lc : Nat} {r : Int} {xA lA : Option Addr} {xw ok : Bool} {p6 : Value} {K : World → Option Addr → Nat → Nat → Prop}
  (k2 : ∀ w : World, w.heap[p]? = w1.heap[p]? → w.cell? ⟨p, 2, none⟩ = some (.slice (some ⟨g, 0, none⟩) sh sc))
  (k3 : ∀ w : World, w.heap[p]? = w1.heap[p]? → w.cell? ⟨p, 3, none⟩ = some (.int .i64 (i : Int)))
  (k4 : ∀ w : World, w.heap[p]? = w1.heap[p]? → w.cell? ⟨p, 4, none⟩ = some (.int .i64 (c : Int)))
  (hp : p < w1.heap.size) (hg : g < w1.heap.size) (hi0 : (0 : Int) ≤ (i : Int)) (hih : (i : Int) < (sh : Int)) (g0 : w1.cell? ⟨g, i * 2, none⟩ = some (.slice xA xn xc)) (g1 : w1.cell? ⟨g, i * 2 + 1, none⟩ = some (.bool xw))
  (PAD : ∀ w, Calls Tryz.prog 43 #[] w fun e w' => e = .returned (.agg #[.int .i32 0, .int .i64 1, .int .i64 0]) ∧ Below w.heap.size w w')
  (SW : ∀ w b, Below w1.heap.size w1 w → Sq w w.heap.size 3 1 (some ⟨b, 0, none⟩) (flat [(0, 1, 0)]) → Calls Tryz.prog 124 #[.agg #[.slice xA xn xc, .bool xw], .int .i64 (c : Int), .slice (some ⟨b, 0, none⟩) 1 1] w fun e w' => ∃ A n c, e = .returned (.tuple #[.agg #[.slice A n c, .bool xw], .bool ok]) ∧ K w' A n c)
  (KS : ∀ w A n c, K w A n c → w.heap[p]? = w1.heap[p]?) (KG : ∀ w A n c, K w A n c → (∃ v, w.cell? ⟨g, i * 2, none⟩ = some v) ∧ (∃ v, w.cell? ⟨g, i * 2 + 1, none⟩ = some v) ∧ w.frozen? ⟨g, i * 2, none⟩ = false ∧ w.frozen? ⟨g, i * 2 + 1, none⟩ = false)
  (KE : ∀ w A7 n7 c7, K w A7 n7 c7 → ((w.setCell ⟨g, i * 2, none⟩ (.slice A7 n7 c7)).setCell ⟨g, i * 2 + 1, none⟩ (.bool xw)).heap[p]? = w1.heap[p]?)
  (a : Act) (F : rpadFr p r lA lm lc p6 a) (h : ∀ a w A7 n7 c7, K w A7 n7 c7 → rpadFr p r lA lm lc p6 a → Q .normal a ((w.setCell ⟨g, i * 2, none⟩ (.slice A7 n7 c7)).setCell ⟨g, i * 2 + 1, none⟩ (.bool xw))) :
  wpAnyH Tryz.prog .any ops Q (fun w => w.heap[p]? = w1.heap[p]?) 33 (List.replicate 33 false).toArray a w1 := by
 have Bel := Below.refl w1.heap.size w1
 refine Ord.tj R 0 (.pointer (some ⟨p, 0, none⟩)) (U33RScrR 1) rfl hQ trivial (Bel.block p hp) (fun w _ hS => Chain.ev_move F.s0.ev) F.lt fun a0 N => ?_
 replace F := F.next N (by simp)
 have f40 := N.got
 clear N
 refine Ord.tk R 1 (.pointer (some ⟨p, 0, none⟩)) rfl hQ (Bel.block p hp) (fun w _ hS => by have e40 := f40.u; clear F; go_simp) F.lt fun a1 N => ?_
 replace F := F.next N (by simp)
 clear f40
 have f41 := N.got
 clear N
 refine Ord.tk R 2 (.pointer (some ⟨p, 2, none⟩)) rfl hQ (Bel.block p hp) (fun w _ hS => by have e41 := f41.u; clear F; go_simp) F.lt fun a2 N => ?_
 replace F := F.next N (by simp)
 clear f41
 have f42 := N.got
 clear N
 refine Ord.tk R 3 (.slice (some ⟨g, 0, none⟩) sh sc) rfl hQ (Bel.block p hp) (fun w _ hS => by have e42 := f42.u; have q0 := (k2 w hS); clear F; go_simp) F.lt fun a3 N => ?_
 replace F := F.next N (by simp)
 clear f42
 have f43 := N.got
 clear N
 refine Ord.tk R 4 (.pointer (some ⟨p, 0, none⟩)) rfl hQ (Bel.block p hp) (fun w _ hS => Chain.ev_move F.s0.ev) F.lt fun a4 N => ?_
 replace F := F.next N (by simp)
 replace f43 := N.k f43
 have f44 := N.got
 clear N
 refine Ord.tk R 5 (.pointer (some ⟨p, 0, none⟩)) rfl hQ (Bel.block p hp) (fun w _ hS => by have e44 := f44.u; clear F; go_simp) F.lt fun a5 N => ?_
 replace F := F.next N (by simp)
 replace f43 := N.k f43
 clear f44
 have f45 := N.got
 clear N
 refine Ord.tk R 6 (.pointer (some ⟨p, 3, none⟩)) rfl hQ (Bel.block p hp) (fun w _ hS => by have e45 := f45.u; clear F; go_simp) F.lt fun a6 N => ?_
 replace F := F.next N (by simp)
 replace f43 := N.k f43
 clear f45
 have f46 := N.got
 clear N
 refine Ord.tk R 7 (.pointer (some ⟨p, 3, none⟩)) rfl hQ (Bel.block p hp) (fun w _ hS => by have e46 := f46.u; clear F; go_simp) F.lt fun a7 N => ?_
 replace F := F.next N (by simp)
 replace f43 := N.k f43
 clear f46
 have f47 := N.got
 clear N
 refine Ord.tk R 8 (.int .i64 (i : Int)) rfl hQ (Bel.block p hp) (fun w _ hS => by have e47 := f47.u; have q0 := (k3 w hS); clear F; go_simp) F.lt fun a8 N => ?_
 replace F := F.next N (by simp)
 replace f43 := N.k f43
 clear f47
 have f48 := N.got
 clear N
 refine Ord.tk R 9 (.pointer (some ⟨p, 0, none⟩)) rfl hQ (Bel.block p hp) (fun w _ hS => Chain.ev_move F.s0.ev) F.lt fun a9 N => ?_
 replace F := F.next N (by simp)
 replace f43 := N.k f43
 replace f48 := N.k f48
 have f49 := N.got
 clear N
 refine Ord.tk R 10 (.pointer (some ⟨p, 0, none⟩)) rfl hQ (Bel.block p hp) (fun w _ hS => by have e49 := f49.u; clear F; go_simp) F.lt fun a10 N => ?_
 replace F := F.next N (by simp)
 replace f43 := N.k f43
 replace f48 := N.k f48
 clear f49
 have f50 := N.got
 clear N
 refine Ord.tk R 11 (.pointer (some ⟨p, 2, none⟩)) rfl hQ (Bel.block p hp) (fun w _ hS => by have e50 := f50.u; clear F; go_simp) F.lt fun a11 N => ?_
 replace F := F.next N (by simp)
 replace f43 := N.k f43
 replace f48 := N.k f48
 clear f50
 have f51 := N.got
 clear N
 refine Ord.tk R 12 (.slice (some ⟨g, 0, none⟩) sh sc) rfl hQ (Bel.block p hp) (fun w _ hS => by have e51 := f51.u; have q0 := (k2 w hS); clear F; go_simp) F.lt fun a12 N => ?_
 replace F := F.next N (by simp)
 replace f43 := N.k f43
 replace f48 := N.k f48
 clear f51
 have f52 := N.got
 clear N
 refine Ord.tk R 13 (.pointer (some ⟨p, 0, none⟩)) rfl hQ (Bel.block p hp) (fun w _ hS => Chain.ev_move F.s0.ev) F.lt fun a13 N => ?_
 replace F := F.next N (by simp)
 replace f43 := N.k f43
 replace f48 := N.k f48
 replace f52 := N.k f52
 have f53 := N.got
 clear N
 refine Ord.tk R 14 (.pointer (some ⟨p, 0, none⟩)) rfl hQ (Bel.block p hp) (fun w _ hS => by have e53 := f53.u; clear F; go_simp) F.lt fun a14 N => ?_
 replace F := F.next N (by simp)
 replace f43 := N.k f43
 replace f48 := N.k f48
 replace f52 := N.k f52
 clear f53
 have f54 := N.got
 clear N
 refine Ord.tk R 15 (.pointer (some ⟨p, 3, none⟩)) rfl hQ (Bel.block p hp) (fun w _ hS => by have e54 := f54.u; clear F; go_simp) F.lt fun a15 N => ?_
 replace F := F.next N (by simp)
 replace f43 := N.k f43
 replace f48 := N.k f48
 replace f52 := N.k f52
 clear f54
 have f55 := N.got
 clear N
 refine Ord.tk R 16 (.pointer (some ⟨p, 3, none⟩)) rfl hQ (Bel.block p hp) (fun w _ hS => by have e55 := f55.u; clear F; go_simp) F.lt fun a16 N => ?_
 replace F := F.next N (by simp)
 replace f43 := N.k f43
 replace f48 := N.k f48
 replace f52 := N.k f52
 clear f55
 have f56 := N.got
 clear N
 refine Ord.tk R 17 (.int .i64 (i : Int)) rfl hQ (Bel.block p hp) (fun w _ hS => by have e56 := f56.u; have q0 := (k3 w hS); clear F; go_simp) F.lt fun a17 N => ?_
 replace F := F.next N (by simp)
 replace f43 := N.k f43
 replace f48 := N.k f48
 replace f52 := N.k f52
 clear f56
 have f57 := N.got
 clear N
 refine Ord.tk R 18 (.pointer (some ⟨g, i * 2, none⟩)) rfl hQ (Bel.block p hp) (fun w _ hS => by have e52 := f52.u; have e57 := f57.u; have q0 := hi0; have q1 := hih; clear F; go_simp) F.lt fun a18 N => ?_
 replace F := F.next N (by simp)
 replace f43 := N.k f43
 replace f48 := N.k f48
 clear f52
 clear f57
 have f58 := N.got
 clear N
 refine Ord.tj R 20 (.pointer (some ⟨p, 0, none⟩)) (Ord.bt 33 1572863) rfl hQ trivial (Bel.block p hp) (fun w _ hS => Chain.ev_move F.s0.ev) F.lt fun a20 N => ?_
 replace F := F.next N (by simp)
 replace f43 := N.k f43
 replace f48 := N.k f48
 replace f58 := N.k f58
 have f60 := N.got
 clear N
 refine Ord.tj R 21 (.pointer (some ⟨p, 0, none⟩)) (Ord.bt 33 3670015) rfl hQ trivial (Bel.block p hp) (fun w _ hS => by have e60 := f60.u; clear F; go_simp) F.lt fun a21 N => ?_
 replace F := F.next N (by simp)
 replace f43 := N.k f43
 replace f48 := N.k f48
 replace f58 := N.k f58
 clear f60
 have f61 := N.got
 clear N
 refine Ord.tj R 22 (.pointer (some ⟨p, 3, none⟩)) (Ord.bt 33 7864319) rfl hQ trivial (Bel.block p hp) (fun w _ hS => by have e61 := f61.u; clear F; go_simp) F.lt fun a22 N => ?_
 replace F := F.next N (by simp)
 replace f43 := N.k f43
 replace f48 := N.k f48
 replace f58 := N.k f58
 clear f61
 have f62 := N.got
 clear N
 refine Ord.tj R 23 (.pointer (some ⟨p, 4, none⟩)) (Ord.bt 33 16252927) rfl hQ trivial (Bel.block p hp) (fun w _ hS => by have e62 := f62.u; clear F; go_simp) F.lt fun a23 N => ?_
 replace F := F.next N (by simp)
 replace f43 := N.k f43
 replace f48 := N.k f48
 replace f58 := N.k f58
 clear f62
 have f63 := N.got
 clear N
 refine Ord.tj R 24 (.int .i64 (c : Int)) (Ord.bt 33 33030143) rfl hQ trivial (Bel.block p hp) (fun w _ hS => by have e63 := f63.u; have q0 := (k4 w hS); clear F; go_simp) F.lt fun a24 N => ?_
 replace F := F.next N (by simp)
 replace f43 := N.k f43
 replace f48 := N.k f48
 replace f58 := N.k f58
 clear f63
 have f64 := N.got
 clear N
 refine Ord.either R (i := 19) (j := 25) (bs1 := (Ord.upto 25 33)) (bs2 := Ord.bt 33 66584575) (by kernel_rfl) ?_ ?_
 ·skip
  refine Ord.step_value R (k := 19) (v := .agg #[.slice xA xn xc, .bool xw]) (w1 := w1) rfl trivial (Bel.block p hp) (fun _ => by have e0 := f58.u; have q0 := (Bel.cell (p := ⟨g, i * 2, none⟩) hg).trans g0; have q1 := (Bel.cell (p := ⟨g, i * 2 + 1, none⟩) hg).trans g1; clear F; go_simp) F.lt fun a59 N => ?_
  replace F := F.next N (by simp)
  replace f43 := N.k f43
  replace f48 := N.k f48
  clear f58
  replace f64 := N.k f64
  have f59 := N.got
  clear N
  refine Ord.step_next R (k := 25) (bs' := U33RScrR 26) (by kernel_rfl) (Ord.step_call R (k := 25) (args := #[]) rfl trivial (by simp) (by kernel_rfl) (PAD _) F.lt ?_)
  rintro e w ⟨rfl, b65⟩
  replace Bel := Bel.trans (b65.mono Bel.size)
  clear b65
  refine ⟨_, rfl, Bel.block p hp, fun a65 N => ?_⟩
  replace F := F.next N (by simp)
  replace f43 := N.k f43
  replace f48 := N.k f48
  replace f59 := N.k f59
  replace f64 := N.k f64
  have f65 := N.got
  clear N
  refine Ord.step_next R (k := 26) (bs' := U33RScrR 27) (by kernel_rfl) (Ord.step_value R (k := 26) (v := .slice (some ⟨w.heap.size, 0, none⟩) 1 1) (w1 := w.alloc (.cells #[.int .i32 0, .int .i64 1, .int .i64 0] 62)) rfl trivial ((Bel.alloc Bel.size _).block p hp) (fun _ => by have e0 := f65.u; clear F; go_simp) F.lt fun a66 N => ?_)
  obtain ⟨b, hb⟩ : ∃ b, w.heap.size = b := ⟨_, rfl⟩
  rw [hb] at N
  have QL : Sq (w.alloc (.cells #[.int .i32 0, .int .i64 1, .int .i64 0] 62)) (w.alloc (.cells #[.int .i32 0, .int .i64 1, .int .i64 0] 62)).heap.size 3 1 (some ⟨b, 0, none⟩) (flat [(0, 1, 0)]) := by rw [← hb]; exact ⟨rfl, fun _ => ⟨_, 0, rfl, by simp, fun j u hu => (cell_of_row _ _ _ _ _ (0, 0) (heap_alloc_new w _)).trans (by rw [Nat.zero_add, List.getElem?_toArray]; exact hu)⟩⟩
  replace Bel := Bel.alloc Bel.size (.cells #[.int .i32 0, .int .i64 1, .int .i64 0] 62)
  generalize w.alloc (.cells #[.int .i32 0, .int .i64 1, .int .i64 0] 62) = wa at Bel QL ⊢
  clear hb
  replace F := F.next N (by simp)
  replace f43 := N.k f43
  replace f48 := N.k f48
  replace f59 := N.k f59
  replace f64 := N.k f64
  clear f65
  have f66 := N.got
  clear N
  refine Ord.step_next R (k := 27) (bs' := U33RScrR 28) (by kernel_rfl) (Ord.step_call R (k := 27) (args := #[.agg #[.slice xA xn xc, .bool xw], .int .i64 (c : Int), .slice (some ⟨b, 0, none⟩) 1 1]) rfl trivial (by simp [f59.ev, f64.ev, f66.ev]) (by kernel_rfl) (SW _ b Bel QL) F.lt ?_)
  rintro e w ⟨A7, n7, c7, rfl, K7⟩
  have hK := KS w A7 n7 c7 K7
  clear QL Bel
  refine ⟨_, rfl, hK, fun a67 N => ?_⟩
  replace F := F.next N (by simp)
  replace f43 := N.k f43
  replace f48 := N.k f48
  clear f59
  clear f64
  clear f66
  have f67 := N.got
  clear N
  refine Ord.tk R 28 (.tuple #[.agg #[.slice A7 n7 c7, .bool xw], .bool ok]) rfl hQ hK (fun w _ hS => Chain.ev_move f67.ev) F.lt fun a28 N => ?_
  replace F := F.next N (by simp)
  replace f43 := N.k f43
  replace f48 := N.k f48
  clear f67
  have f39 := N.got
  clear N
  refine Ord.tk R 29 (.agg #[.slice A7 n7 c7, .bool xw]) rfl hQ hK (fun w _ hS => by have e39 := f39.u; clear F; go_simp) F.lt fun a29 N => ?_
  replace F := F.next N (by simp)
  replace f39 := N.k f39
  replace f43 := N.k f43
  replace f48 := N.k f48
  have f68 := N.got
  clear N
  refine Ord.tk R 30 (.bool ok) rfl hQ hK (fun w _ hS => by have e39 := f39.u; clear F; go_simp) F.lt fun a30 N => ?_
  replace F := F.next N (by simp)
  clear f39
  replace f43 := N.k f43
  replace f48 := N.k f48
  replace f68 := N.k f68
  clear N
  refine Ord.tk R 31 (.pointer (some ⟨g, i * 2, none⟩)) rfl hQ hK (fun w _ hS => by have e43 := f43.u; have e48 := f48.u; have q0 := hi0; have q1 := hih; clear F; go_simp) F.lt fun a31 N => ?_
  replace F := F.next N (by simp)
  clear f43
  clear f48
  replace f68 := N.k f68
  have f70 := N.got
  clear N
  refine Ord.effect R (k := 32) (bs' := U33RScrR 33) (w1 := (w.setCell ⟨g, i * 2, none⟩ (.slice A7 n7 c7)).setCell ⟨g, i * 2 + 1, none⟩ (.bool xw)) rfl (by kernel_rfl) trivial (KE w A7 n7 c7 K7) (fun _ => by obtain ⟨⟨v0, q0⟩, ⟨v1, q1⟩, q2, q3⟩ := KG w A7 n7 c7 K7; have e0 := f68; have e1 := f70; unfold Chain.At at e0 e1; clear F; go_simp) ?_
  refine Ord.finish R (by kernel_rfl) ?_
  exact h _ _ _ _ _ K7 F
 ·skip
  refine Ord.step_call R (k := 25) (args := #[]) rfl trivial (by simp) (by kernel_rfl) (PAD _) F.lt ?_
  rintro e w ⟨rfl, b65⟩
  replace Bel := Bel.trans (b65.mono Bel.size)
  clear b65
  refine ⟨_, rfl, Bel.block p hp, fun a65 N => ?_⟩
  replace F := F.next N (by simp)
  replace f43 := N.k f43
  replace f48 := N.k f48
  replace f58 := N.k f58
  replace f64 := N.k f64
  have f65 := N.got
  clear N
  refine Ord.either R (i := 19) (j := 26) (bs1 := (Ord.upto 26 33)) (bs2 := Ord.bt 33 133693439) (by kernel_rfl) ?_ ?_
  ·skip
   refine Ord.step_value R (k := 19) (v := .agg #[.slice xA xn xc, .bool xw]) (w1 := w) rfl trivial (Bel.block p hp) (fun _ => by have e0 := f58.u; have q0 := (Bel.cell (p := ⟨g, i * 2, none⟩) hg).trans g0; have q1 := (Bel.cell (p := ⟨g, i * 2 + 1, none⟩) hg).trans g1; clear F; go_simp) F.lt fun a59 N => ?_
   replace F := F.next N (by simp)
   replace f43 := N.k f43
   replace f48 := N.k f48
   clear f58
   replace f64 := N.k f64
   replace f65 := N.k f65
   have f59 := N.got
   clear N
   refine Ord.step_next R (k := 26) (bs' := U33RScrR 27) (by kernel_rfl) (Ord.step_value R (k := 26) (v := .slice (some ⟨w.heap.size, 0, none⟩) 1 1) (w1 := w.alloc (.cells #[.int .i32 0, .int .i64 1, .int .i64 0] 62)) rfl trivial ((Bel.alloc Bel.size _).block p hp) (fun _ => by have e0 := f65.u; clear F; go_simp) F.lt fun a66 N => ?_)
   obtain ⟨b, hb⟩ : ∃ b, w.heap.size = b := ⟨_, rfl⟩
   rw [hb] at N
   have QL : Sq (w.alloc (.cells #[.int .i32 0, .int .i64 1, .int .i64 0] 62)) (w.alloc (.cells #[.int .i32 0, .int .i64 1, .int .i64 0] 62)).heap.size 3 1 (some ⟨b, 0, none⟩) (flat [(0, 1, 0)]) := by rw [← hb]; exact ⟨rfl, fun _ => ⟨_, 0, rfl, by simp, fun j u hu => (cell_of_row _ _ _ _ _ (0, 0) (heap_alloc_new w _)).trans (by rw [Nat.zero_add, List.getElem?_toArray]; exact hu)⟩⟩
   replace Bel := Bel.alloc Bel.size (.cells #[.int .i32 0, .int .i64 1, .int .i64 0] 62)
   generalize w.alloc (.cells #[.int .i32 0, .int .i64 1, .int .i64 0] 62) = wa at Bel QL ⊢
   clear hb
   replace F := F.next N (by simp)
   replace f43 := N.k f43
   replace f48 := N.k f48
   replace f59 := N.k f59
   replace f64 := N.k f64
   clear f65
   have f66 := N.got
   clear N
   refine Ord.step_next R (k := 27) (bs' := U33RScrR 28) (by kernel_rfl) (Ord.step_call R (k := 27) (args := #[.agg #[.slice xA xn xc, .bool xw], .int .i64 (c : Int), .slice (some ⟨b, 0, none⟩) 1 1]) rfl trivial (by simp [f59.ev, f64.ev, f66.ev]) (by kernel_rfl) (SW _ b Bel QL) F.lt ?_)
   rintro e w ⟨A7, n7, c7, rfl, K7⟩
   have hK := KS w A7 n7 c7 K7
   clear QL Bel
   refine ⟨_, rfl, hK, fun a67 N => ?_⟩
   replace F := F.next N (by simp)
   replace f43 := N.k f43
   replace f48 := N.k f48
   clear f59
   clear f64
   clear f66
   have f67 := N.got
   clear N
   refine Ord.tk R 28 (.tuple #[.agg #[.slice A7 n7 c7, .bool xw], .bool ok]) rfl hQ hK (fun w _ hS => Chain.ev_move f67.ev) F.lt fun a28 N => ?_
   replace F := F.next N (by simp)
   replace f43 := N.k f43
   replace f48 := N.k f48
   clear f67
   have f39 := N.got
   clear N
   refine Ord.tk R 29 (.agg #[.slice A7 n7 c7, .bool xw]) rfl hQ hK (fun w _ hS => by have e39 := f39.u; clear F; go_simp) F.lt fun a29 N => ?_
   replace F := F.next N (by simp)
   replace f39 := N.k f39
   replace f43 := N.k f43
   replace f48 := N.k f48
   have f68 := N.got
   clear N
   refine Ord.tk R 30 (.bool ok) rfl hQ hK (fun w _ hS => by have e39 := f39.u; clear F; go_simp) F.lt fun a30 N => ?_
   replace F := F.next N (by simp)
   clear f39
   replace f43 := N.k f43
   replace f48 := N.k f48
   replace f68 := N.k f68
   clear N
   refine Ord.tk R 31 (.pointer (some ⟨g, i * 2, none⟩)) rfl hQ hK (fun w _ hS => by have e43 := f43.u; have e48 := f48.u; have q0 := hi0; have q1 := hih; clear F; go_simp) F.lt fun a31 N => ?_
   replace F := F.next N (by simp)
   clear f43
   clear f48
   replace f68 := N.k f68
   have f70 := N.got
   clear N
   refine Ord.effect R (k := 32) (bs' := U33RScrR 33) (w1 := (w.setCell ⟨g, i * 2, none⟩ (.slice A7 n7 c7)).setCell ⟨g, i * 2 + 1, none⟩ (.bool xw)) rfl (by kernel_rfl) trivial (KE w A7 n7 c7 K7) (fun _ => by obtain ⟨⟨v0, q0⟩, ⟨v1, q1⟩, q2, q3⟩ := KG w A7 n7 c7 K7; have e0 := f68; have e1 := f70; unfold Chain.At at e0 e1; clear F; go_simp) ?_
   refine Ord.finish R (by kernel_rfl) ?_
   exact h _ _ _ _ _ K7 F
  ·skip
   refine Ord.step_value R (k := 26) (v := .slice (some ⟨w.heap.size, 0, none⟩) 1 1) (w1 := w.alloc (.cells #[.int .i32 0, .int .i64 1, .int .i64 0] 62)) rfl trivial ((Bel.alloc Bel.size _).block p hp) (fun _ => by have e0 := f65.u; clear F; go_simp) F.lt fun a66 N => ?_
   obtain ⟨b, hb⟩ : ∃ b, w.heap.size = b := ⟨_, rfl⟩
   rw [hb] at N
   have QL : Sq (w.alloc (.cells #[.int .i32 0, .int .i64 1, .int .i64 0] 62)) (w.alloc (.cells #[.int .i32 0, .int .i64 1, .int .i64 0] 62)).heap.size 3 1 (some ⟨b, 0, none⟩) (flat [(0, 1, 0)]) := by rw [← hb]; exact ⟨rfl, fun _ => ⟨_, 0, rfl, by simp, fun j u hu => (cell_of_row _ _ _ _ _ (0, 0) (heap_alloc_new w _)).trans (by rw [Nat.zero_add, List.getElem?_toArray]; exact hu)⟩⟩
   replace Bel := Bel.alloc Bel.size (.cells #[.int .i32 0, .int .i64 1, .int .i64 0] 62)
   generalize w.alloc (.cells #[.int .i32 0, .int .i64 1, .int .i64 0] 62) = wa at Bel QL ⊢
   clear hb
   replace F := F.next N (by simp)
   replace f43 := N.k f43
   replace f48 := N.k f48
   replace f58 := N.k f58
   replace f64 := N.k f64
   clear f65
   have f66 := N.got
   clear N
   refine Ord.step_next R (k := 19) (bs' := U33RScrR 27) (by kernel_rfl) (Ord.step_value R (k := 19) (v := .agg #[.slice xA xn xc, .bool xw]) (w1 := wa) rfl trivial (Bel.block p hp) (fun _ => by have e0 := f58.u; have q0 := (Bel.cell (p := ⟨g, i * 2, none⟩) hg).trans g0; have q1 := (Bel.cell (p := ⟨g, i * 2 + 1, none⟩) hg).trans g1; clear F; go_simp) F.lt fun a59 N => ?_)
   replace F := F.next N (by simp)
   replace f43 := N.k f43
   replace f48 := N.k f48
   clear f58
   replace f64 := N.k f64
   replace f66 := N.k f66
   have f59 := N.got
   clear N
   refine Ord.step_next R (k := 27) (bs' := U33RScrR 28) (by kernel_rfl) (Ord.step_call R (k := 27) (args := #[.agg #[.slice xA xn xc, .bool xw], .int .i64 (c : Int), .slice (some ⟨b, 0, none⟩) 1 1]) rfl trivial (by simp [f59.ev, f64.ev, f66.ev]) (by kernel_rfl) (SW _ b Bel QL) F.lt ?_)
   rintro e w ⟨A7, n7, c7, rfl, K7⟩
   have hK := KS w A7 n7 c7 K7
   clear QL Bel
   refine ⟨_, rfl, hK, fun a67 N => ?_⟩
   replace F := F.next N (by simp)
   replace f43 := N.k f43
   replace f48 := N.k f48
   clear f59
   clear f64
   clear f66
   have f67 := N.got
   clear N
   refine Ord.tk R 28 (.tuple #[.agg #[.slice A7 n7 c7, .bool xw], .bool ok]) rfl hQ hK (fun w _ hS => Chain.ev_move f67.ev) F.lt fun a28 N => ?_
   replace F := F.next N (by simp)
   replace f43 := N.k f43
   replace f48 := N.k f48
   clear f67
   have f39 := N.got
   clear N
   refine Ord.tk R 29 (.agg #[.slice A7 n7 c7, .bool xw]) rfl hQ hK (fun w _ hS => by have e39 := f39.u; clear F; go_simp) F.lt fun a29 N => ?_
   replace F := F.next N (by simp)
   replace f39 := N.k f39
   replace f43 := N.k f43
   replace f48 := N.k f48
   have f68 := N.got
   clear N
   refine Ord.tk R 30 (.bool ok) rfl hQ hK (fun w _ hS => by have e39 := f39.u; clear F; go_simp) F.lt fun a30 N => ?_
   replace F := F.next N (by simp)
   clear f39
   replace f43 := N.k f43
   replace f48 := N.k f48
   replace f68 := N.k f68
   clear N
   refine Ord.tk R 31 (.pointer (some ⟨g, i * 2, none⟩)) rfl hQ hK (fun w _ hS => by have e43 := f43.u; have e48 := f48.u; have q0 := hi0; have q1 := hih; clear F; go_simp) F.lt fun a31 N => ?_
   replace F := F.next N (by simp)
   clear f43
   clear f48
   replace f68 := N.k f68
   have f70 := N.got
   clear N
   refine Ord.effect R (k := 32) (bs' := U33RScrR 33) (w1 := (w.setCell ⟨g, i * 2, none⟩ (.slice A7 n7 c7)).setCell ⟨g, i * 2 + 1, none⟩ (.bool xw)) rfl (by kernel_rfl) trivial (KE w A7 n7 c7 K7) (fun _ => by obtain ⟨⟨v0, q0⟩, ⟨v1, q1⟩, q2, q3⟩ := KG w A7 n7 c7 K7; have e0 := f68; have e1 := f70; unfold Chain.At at e0 e1; clear F; go_simp) ?_
   refine Ord.finish R (by kernel_rfl) ?_
   exact h _ _ _ _ _ K7 F
theorem rpad_frame {a : Act} {w : World} {K : Act → World → Prop} {v0 v1 v5 v6 : Value} (hz : a.tmps.size = 131) (hd : a.defers = []) (f0 : Chain.At a 0 v0) (f1 : Chain.At a 1 v1) (f5 : Chain.At a 5 v5) (f6 : Chain.At a 6 v6)
  (h : ∀ u2 u3 u4 u7 u8 u9 u10 u11 u12 u13 u14 u15 u16 u17 u18 u19 u20 u21 u22 u23 u24 u25 u26 u27 u28 u29 u30 u31 u32 u33 u34 u35 u36 u37 u38 u39 u40 u41 u42 u43 u44 u45 u46 u47 u48 u49 u50 u51 u52 u53 u54 u55 u56 u57 u58 u59 u60 u61 u62 u63 u64 u65 u66 u67 u68 u69 u70 u71 u72 u73 u74 u75 u76 u77 u78 u79 u80 u81 u82 u83 u84 u85 u86 u87 u88 u89 u90 u91 u92 u93 u94 u95 u96 u97 u98 u99 u100 u101 u102 u103 u104 u105 u106 u107 u108 u109 u110 u111 u112 u113 u114 u115 u116 u117 u118 u119 u120 u121 u122 u123 u124 u125 u126 u127 u128 u129 u130 : Value, K ⟨#[v0, v1, u2, u3, u4, v5, v6, u7, u8, u9, u10, u11, u12, u13, u14, u15, u16, u17, u18, u19, u20, u21, u22, u23, u24, u25, u26, u27, u28, u29, u30, u31, u32, u33, u34, u35, u36, u37, u38, u39, u40, u41, u42, u43, u44, u45, u46, u47, u48, u49, u50, u51, u52, u53, u54, u55, u56, u57, u58, u59, u60, u61, u62, u63, u64, u65, u66, u67, u68, u69, u70, u71, u72, u73, u74, u75, u76, u77, u78, u79, u80, u81, u82, u83, u84, u85, u86, u87, u88, u89, u90, u91, u92, u93, u94, u95, u96, u97, u98, u99, u100, u101, u102, u103, u104, u105, u106, u107, u108, u109, u110, u111, u112, u113, u114, u115, u116, u117, u118, u119, u120, u121, u122, u123, u124, u125, u126, u127, u128, u129, u130], []⟩ w) : K a w := by
 have e := Ord.frame_gets hz hd
 simp only [Ord.gets, Nat.reduceAdd] at e
 rw [Ord.at_get f0, Ord.at_get f1, Ord.at_get f5, Ord.at_get f6] at e
 rw [e]
 exact h _ _ _ _ _ _ _ _ _ _ _ _ _ _ _ _ _ _ _ _ _ _ _ _ _ _ _ _ _ _ _ _ _ _ _ _ _ _ _ _ _ _ _ _ _ _ _ _ _ _ _ _ _ _ _ _ _ _ _ _ _ _ _ _ _ _ _ _ _ _ _ _ _ _ _ _ _ _ _ _ _ _ _ _ _ _ _ _ _ _ _ _ _ _ _ _ _ _ _ _ _ _ _ _ _ _ _ _ _ _ _ _ _ _ _ _ _ _ _ _ _ _ _ _ _ _ _
def rdownL : List Ord.Line := [
 (some 31, .move (.tmp 0), none, []),
 (some 32, .move (.tmp 0), none, []),
 (some 33, .nilCheck (.tmp 32), none, [1]),
 (some 34, .fieldAddr 97 (.tmp 33) 2, none, [2]),
 (some 35, .load 22 (.tmp 34), none, [3]),
 (some 36, .slice 22 (.tmp 35) (some (.const (.int .i64 1))) none none, none, [4]),
 (some 37, .call { callee := .builtin .append, args := #[.const (.slice none 0 0), .tmp 36], argTypes := #[22, 22] }, none, [5]),
 (some 38, .move (.tmp 0), none, []),
 (some 39, .nilCheck (.tmp 38), none, [7]),
 (some 40, .fieldAddr 97 (.tmp 39) 0, none, [8]),
 (some 41, .load 3 (.tmp 40), none, [9]),
 (some 42, .call { callee := .value (.func 109), args := #[.tmp 41], argTypes := #[3] }, none, [10, 6]),
 (some 43, .buildSlice 22 1 #[(0, .tmp 42)], none, [11]),
 (some 44, .call { callee := .builtin .append, args := #[.tmp 37, .tmp 43], argTypes := #[22, 22] }, none, [6, 12, 11]),
 (some 45, .nilCheck (.tmp 31), none, [0, 0, 1, 2, 3, 4, 5, 6, 7, 8, 9, 10, 11, 12, 13]),
 (some 46, .fieldAddr 97 (.tmp 45) 2, none, [14, 0, 1, 2, 3, 4, 5, 6, 7, 8, 9, 10, 11, 12, 13]),
 (none, .store 22 (.tmp 46) (.tmp 44), none, [15, 13, 13, 0, 1, 2, 3, 4, 5, 6, 7, 8, 9, 10, 11, 12, 13])]
structure rdownFr (p : Nat) (p3 : Value) (a : Act) : Prop where
 size : a.tmps.size = 48
 defers : a.defers = []
 s0 : Chain.At a 0 (.pointer (some ⟨p, 0, none⟩))
 s3 : Chain.At a 3 (p3)
theorem rdownFr.next {p : Nat} {p3 : Value} {a a' : Act} {d : Nat} {v : Value} (F : rdownFr p p3 a) (nx : Chain.Next a a' d v) (h : d ≠ 0 ∧ d ≠ 3 := by decide) : rdownFr p p3 a' := ⟨nx.size.trans F.size, nx.defers.trans F.defers, nx.k F.s0 (by omega), nx.k F.s3 (by omega)⟩
theorem rdownFr.lt {p : Nat} {p3 : Value} {a : Act} {d : Nat} (F : rdownFr p p3 a) (h : d < 48 := by decide) : d < a.tmps.size := by rw [F.size]; exact h
theorem own_typedR {w : World} {base n : Nat} {e : TypeId} {size : Nat} {v : Value} {xs : List Value} (h : w.ownsRow base e size v n xs) : ∀ k, v.ownBlock = some k → Typed w e k := by
 intro k hk
 rcases h.2 with ⟨e, _⟩ | ⟨g, cap, cur, e, _, e3, _⟩
 ·rw [e] at hk; cases hk
 ·rw [e] at hk
  injection hk with hk
  subst hk
  exact ⟨_, _, e3⟩
theorem cell_typedR {w : World} {base : Nat} {v : Value} {l : List Cel} (h : HasC w base v l) : ∀ k, v.ownBlock = some k → Typed w 62 k := own_typedR h
theorem below_frozenR {B : Nat} {w W : World} {p j : Nat} (h : Below B w W) (hp : p < B) : W.frozen? ⟨p, j, none⟩ = w.frozen? ⟨p, j, none⟩ := by unfold World.frozen?; rw [h.block p hp]
theorem rdown_region {ops : Array Oper} {Q : Exit → Act → World → Prop} (R : Ord.Reg ops rdownL) (hQ : Ord.HQ Q) {w1 : World} {p g q sh sc c36 sw : Nat} {A36 : Option Addr} {vs : List Value} {bl : List Cel} {p3 : Value}
  {i0 : TypeInfo} (hi : Tryz.prog.info? 58 = some i0) (hz0 : i0.zero = some (.agg #[.slice none 0 0, .bool false])) (hz1 : i0.size = 2) (hz2 : i0.bytes = 32)
  (hp : p < w1.heap.size) (k0 : w1.cell? ⟨p, 0, none⟩ = some (.int .i64 (sw : Int))) (k2 : w1.cell? ⟨p, 2, none⟩ = some (.slice (some ⟨g, 0, none⟩) sh sc)) (f2 : w1.frozen? ⟨p, 2, none⟩ = false)
  (hcut : sh = q + 1 ∧ 1 ≤ sc ∧ (if sc = 1 then (some (⟨g, 0, none⟩ : Addr)) else some ⟨g, 2, none⟩) = A36 ∧ sc - 1 = c36) (Q36 : Sq w1 w1.heap.size 2 q A36 vs) (hvs : ∀ u ∈ vs, u.oneCell' = true)
  (BLK : ∀ w, Calls Tryz.prog 109 #[.int .i64 (sw : Int)] w fun e w' => ∃ A n c, e = .returned (.agg #[.slice A n c, .bool false]) ∧ HasC w' w.heap.size (.slice A n c) bl ∧ Below w.heap.size w w')
  (fit1 : 0 + q ≤ maxLen) (fit2 : (0 + q) * 32 ≤ 140737488355328) (fit3 : q + 1 ≤ maxLen) (fit4 : (q + 1) * 32 ≤ 140737488355328)
  (a : Act) (F : rdownFr p p3 a) (h : ∀ a w A5 c5 A7 n7 c7, Below w1.heap.size w1 w → w.ownsRow w1.heap.size 58 2 (.slice A5 (q + 1) c5) (q + 1) (vs ++ [.slice A7 n7 c7, .bool false]) → HasC w w1.heap.size (.slice A7 n7 c7) bl → rdownFr p p3 a → Q .normal a (w.setCell ⟨p, 2, none⟩ (.slice A5 (q + 1) c5))) :
  wpAnyH Tryz.prog .any ops Q (fun w => w.cell? ⟨p, 0, none⟩ = some (.int .i64 (sw : Int))) 17 (List.replicate 17 false).toArray a w1 := by
 have Bel := Below.refl w1.heap.size w1
 refine Ord.tj R 0 (.pointer (some ⟨p, 0, none⟩)) (U17RScrR 1) rfl hQ trivial ((Bel.cell (p := ⟨p, 0, none⟩) hp).trans k0) (fun w _ hS => Chain.ev_move F.s0.ev) F.lt fun a0 N => ?_
 replace F := F.next N (by simp)
 have f31 := N.got
 clear N
 refine Ord.tk R 1 (.pointer (some ⟨p, 0, none⟩)) rfl hQ ((Bel.cell (p := ⟨p, 0, none⟩) hp).trans k0) (fun w _ hS => Chain.ev_move F.s0.ev) F.lt fun a1 N => ?_
 replace F := F.next N (by simp)
 replace f31 := N.k f31
 have f32 := N.got
 clear N
 refine Ord.tk R 2 (.pointer (some ⟨p, 0, none⟩)) rfl hQ ((Bel.cell (p := ⟨p, 0, none⟩) hp).trans k0) (fun w _ hS => by have e32 := f32.u; clear F; go_simp) F.lt fun a2 N => ?_
 replace F := F.next N (by simp)
 replace f31 := N.k f31
 clear f32
 have f33 := N.got
 clear N
 refine Ord.tk R 3 (.pointer (some ⟨p, 2, none⟩)) rfl hQ ((Bel.cell (p := ⟨p, 0, none⟩) hp).trans k0) (fun w _ hS => by have e33 := f33.u; clear F; go_simp) F.lt fun a3 N => ?_
 replace F := F.next N (by simp)
 replace f31 := N.k f31
 clear f33
 have f34 := N.got
 clear N
 refine Ord.tj R 7 (.pointer (some ⟨p, 0, none⟩)) (Ord.bt 17 143) rfl hQ trivial ((Bel.cell (p := ⟨p, 0, none⟩) hp).trans k0) (fun w _ hS => Chain.ev_move F.s0.ev) F.lt fun a7 N => ?_
 replace F := F.next N (by simp)
 replace f31 := N.k f31
 replace f34 := N.k f34
 have f38 := N.got
 clear N
 refine Ord.tj R 8 (.pointer (some ⟨p, 0, none⟩)) (Ord.bt 17 399) rfl hQ trivial ((Bel.cell (p := ⟨p, 0, none⟩) hp).trans k0) (fun w _ hS => by have e38 := f38.u; clear F; go_simp) F.lt fun a8 N => ?_
 replace F := F.next N (by simp)
 replace f31 := N.k f31
 replace f34 := N.k f34
 clear f38
 have f39 := N.got
 clear N
 refine Ord.tj R 9 (.pointer (some ⟨p, 0, none⟩)) (Ord.bt 17 911) rfl hQ trivial ((Bel.cell (p := ⟨p, 0, none⟩) hp).trans k0) (fun w _ hS => by have e39 := f39.u; clear F; go_simp) F.lt fun a9 N => ?_
 replace F := F.next N (by simp)
 replace f31 := N.k f31
 replace f34 := N.k f34
 clear f39
 have f40 := N.got
 clear N
 refine Ord.tj R 10 (.int .i64 (sw : Int)) (Ord.bt 17 1935) rfl hQ trivial ((Bel.cell (p := ⟨p, 0, none⟩) hp).trans k0) (fun w _ hS => by have e40 := f40.u; have q0 := hS; clear F; go_simp) F.lt fun a10 N => ?_
 replace F := F.next N (by simp)
 replace f31 := N.k f31
 replace f34 := N.k f34
 clear f40
 have f41 := N.got
 clear N
 refine Ord.step_next R (k := 4) (bs' := Ord.bt 17 1951) (by kernel_rfl) (Ord.step_value R (k := 4) (v := .slice (some ⟨g, 0, none⟩) sh sc) (w1 := w1) rfl trivial ((Bel.cell (p := ⟨p, 0, none⟩) hp).trans k0) (fun _ => by have e0 := f34.u; have q0 := (Bel.cell (p := ⟨p, 2, none⟩) hp).trans k2; clear F; go_simp) F.lt fun a35 N => ?_)
 replace F := F.next N (by simp)
 replace f31 := N.k f31
 clear f34
 replace f41 := N.k f41
 have f35 := N.got
 clear N
 refine Ord.tj R 5 (.slice A36 q c36) (Ord.bt 17 1983) rfl hQ trivial ((Bel.cell (p := ⟨p, 0, none⟩) hp).trans k0) (fun w _ hS => by have e35 := f35.u; have q0 := hcut.1; have q1 := hcut.2.1; have q2 := hcut.2.2.1; have q3 := hcut.2.2.2; have q4 := (by omega : (1 : Int) ≤ (q : Int) + 1); clear F; go_simp) F.lt fun a5 N => ?_
 replace F := F.next N (by simp)
 replace f31 := N.k f31
 clear f35
 replace f41 := N.k f41
 have f36 := N.got
 clear N
 refine Ord.step_next R (k := 6) (bs' := U17RScrR 11) (by kernel_rfl) (Ord.step_append R (k := 6) (.const (.slice none 0 0)) (.tmp 36) 22 rfl trivial F.lt w1.heap.size 58 i0 (.agg #[.slice none 0 0, .bool false]) 2 32 Tryz.underlying22 hi hz0 hz1 hz2 rfl (by decide) (.slice none 0 0) 0 [] rfl (World.ownsRow_nil _ _ _ _) A36 q c36 vs f36.ev w1.heap.size (Q36.below Bel) hvs fit1 fit2 Bel.size ?_)
 intro A1 c1 w H1 hg
 rw [Nat.zero_add, List.nil_append] at H1
 rw [Nat.zero_add]
 have bg := (Turned.ofGrown hg).toBelow (Nat.le_refl _) (fun j hj m => by cases m)
 replace Bel := Bel.trans (bg.mono Bel.size)
 clear hg bg
 refine ⟨((Bel.cell (p := ⟨p, 0, none⟩) hp).trans k0), fun a37 N => ?_⟩
 replace F := F.next N (by simp)
 replace f31 := N.k f31
 clear f36
 replace f41 := N.k f41
 have f37 := N.got
 clear N
 refine Ord.step_next R (k := 11) (bs' := U17RScrR 12) (by kernel_rfl) (Ord.step_call R (k := 11) (args := #[.int .i64 (sw : Int)]) rfl trivial (by simp [f41.ev]) (by kernel_rfl) (BLK _) F.lt ?_)
 rintro e w ⟨A7, n7, c7, rfl, HB, b42⟩
 replace HB := HasC.mono HB Bel.size
 replace H1 := own_keep (w' := w) H1 (fun j e => b42.block j (World.ownsRow.lt H1 j e).2)
 replace Bel := Bel.trans (b42.mono Bel.size)
 clear b42
 refine ⟨_, rfl, ((Bel.cell (p := ⟨p, 0, none⟩) hp).trans k0), fun a42 N => ?_⟩
 replace F := F.next N (by simp)
 replace f31 := N.k f31
 replace f37 := N.k f37
 clear f41
 have f42 := N.got
 clear N
 refine Ord.step_next R (k := 12) (bs' := U17RScrR 13) (by kernel_rfl) (Ord.step_value R (k := 12) (v := .slice (some ⟨w.heap.size, 0, none⟩) 1 1) (w1 := w.alloc (.cells #[.slice A7 n7 c7, .bool false] 58)) rfl trivial (((Bel.alloc Bel.size _).cell (p := ⟨p, 0, none⟩) hp).trans k0) (fun _ => by have e0 := f42.u; clear F; go_simp) F.lt fun a43 N => ?_)
 obtain ⟨b, hb⟩ : ∃ b, w.heap.size = b := ⟨_, rfl⟩
 rw [hb] at N
 have QB : Sq (w.alloc (.cells #[.slice A7 n7 c7, .bool false] 58)) (w.alloc (.cells #[.slice A7 n7 c7, .bool false] 58)).heap.size 2 1 (some ⟨b, 0, none⟩) [.slice A7 n7 c7, .bool false] := by rw [← hb]; exact ⟨rfl, fun _ => ⟨_, 0, rfl, by simp, fun j u hu => (cell_of_row _ _ _ _ _ (0, 0) (heap_alloc_new w _)).trans (by rw [Nat.zero_add, List.getElem?_toArray]; exact hu)⟩⟩
 replace HB := HasC.keep (w' := w.alloc (.cells #[.slice A7 n7 c7, .bool false] 58)) HB (fun j e => Below.heap_alloc _ _ _ (HasC.lt HB j e).2)
 replace H1 := own_keep (w' := w.alloc (.cells #[.slice A7 n7 c7, .bool false] 58)) H1 (fun j e => Below.heap_alloc _ _ _ (World.ownsRow.lt H1 j e).2)
 replace Bel := Bel.alloc Bel.size (.cells #[.slice A7 n7 c7, .bool false] 58)
 generalize w.alloc (.cells #[.slice A7 n7 c7, .bool false] 58) = wa at Bel QB HB H1 ⊢
 clear hb
 replace F := F.next N (by simp)
 replace f31 := N.k f31
 replace f37 := N.k f37
 clear f42
 have f43 := N.got
 clear N
 refine Ord.step_next R (k := 13) (bs' := U17RScrR 14) (by kernel_rfl) (Ord.step_append R (k := 13) (.tmp 37) (.tmp 43) 22 rfl trivial F.lt w1.heap.size 58 i0 (.agg #[.slice none 0 0, .bool false]) 2 32 Tryz.underlying22 hi hz0 hz1 hz2 rfl (by decide) (.slice A1 q c1) q vs f37.ev H1 (some ⟨b, 0, none⟩) 1 1 [.slice A7 n7 c7, .bool false] f43.ev _ QB (by simp [Value.oneCell']) fit3 fit4 Bel.size ?_)
 intro A5 c5 w H5 hg
 have hb1 : ∀ j, (Value.slice A1 q c1).ownBlock = some j → w1.heap.size ≤ j := fun j e => (World.ownsRow.lt H1 j e).1
 replace HB := HasC.keep (w' := w) HB (fun j e => hg.block j (HasC.lt HB j e).2 (fun e2 => (own_typedR H1 j e2.symm).apart (cell_typedR HB j e) (by decide) rfl))
 replace Bel := Bel.trans ((Turned.ofGrown hg).toBelow Bel.size (fun j hj m => by have := hb1 j m; omega))
 clear hg QB H1 hb1
 refine ⟨((Bel.cell (p := ⟨p, 0, none⟩) hp).trans k0), fun a44 N => ?_⟩
 replace F := F.next N (by simp)
 replace f31 := N.k f31
 clear f37
 clear f43
 have f44 := N.got
 clear N
 refine Ord.tk R 14 (.pointer (some ⟨p, 0, none⟩)) rfl hQ ((Bel.cell (p := ⟨p, 0, none⟩) hp).trans k0) (fun w _ hS => by have e31 := f31.u; clear F; go_simp) F.lt fun a14 N => ?_
 replace F := F.next N (by simp)
 clear f31
 replace f44 := N.k f44
 have f45 := N.got
 clear N
 refine Ord.tk R 15 (.pointer (some ⟨p, 2, none⟩)) rfl hQ ((Bel.cell (p := ⟨p, 0, none⟩) hp).trans k0) (fun w _ hS => by have e45 := f45.u; clear F; go_simp) F.lt fun a15 N => ?_
 replace F := F.next N (by simp)
 replace f44 := N.k f44
 clear f45
 have f46 := N.got
 clear N
 refine Ord.effect R (k := 16) (bs' := U17RScrR 17) (w1 := w.setCell ⟨p, 2, none⟩ (.slice A5 (q + 1) c5)) rfl (by kernel_rfl) trivial ((World.cell?_setCell_other _ _ _ _ (by simp)).trans ((Bel.cell (p := ⟨p, 0, none⟩) hp).trans k0)) (fun _ => by have q0 := (Bel.cell (p := ⟨p, 2, none⟩) hp).trans k2; have q1 : w.frozen? ⟨p, 2, none⟩ = false := (below_frozenR Bel hp).trans f2; have e0 := f44; have e1 := f46; unfold Chain.At at e0 e1; clear F; go_simp) ?_
 refine Ord.finish R (by kernel_rfl) ?_
 exact h _ _ _ _ _ _ _ Bel H5 HB F
theorem rdown_frame {a : Act} {w : World} {K : Act → World → Prop} {v0 v3 : Value} (hz : a.tmps.size = 48) (hd : a.defers = []) (f0 : Chain.At a 0 v0) (f3 : Chain.At a 3 v3)
  (h : ∀ u1 u2 u4 u5 u6 u7 u8 u9 u10 u11 u12 u13 u14 u15 u16 u17 u18 u19 u20 u21 u22 u23 u24 u25 u26 u27 u28 u29 u30 u31 u32 u33 u34 u35 u36 u37 u38 u39 u40 u41 u42 u43 u44 u45 u46 u47 : Value, K ⟨#[v0, u1, u2, v3, u4, u5, u6, u7, u8, u9, u10, u11, u12, u13, u14, u15, u16, u17, u18, u19, u20, u21, u22, u23, u24, u25, u26, u27, u28, u29, u30, u31, u32, u33, u34, u35, u36, u37, u38, u39, u40, u41, u42, u43, u44, u45, u46, u47], []⟩ w) : K a w := by
 have e := Ord.frame_gets hz hd
 simp only [Ord.gets, Nat.reduceAdd] at e
 rw [Ord.at_get f0, Ord.at_get f3] at e
 rw [e]
 exact h _ _ _ _ _ _ _ _ _ _ _ _ _ _ _ _ _ _ _ _ _ _ _ _ _ _ _ _ _ _ _ _ _ _ _ _ _ _ _ _ _ _ _ _ _ _
def rhomeL : List Ord.Line := [
 (some 81, .move (.tmp 0), none, []),
 (some 82, .move (.tmp 6), none, []),
 (some 83, .move (.tmp 0), none, []),
 (some 84, .nilCheck (.tmp 83), none, [2]),
 (some 85, .fieldAddr 97 (.tmp 84) 1, none, [3]),
 (some 86, .load 3 (.tmp 85), none, [4]),
 (some 87, .call { callee := .builtin .min, args := #[.tmp 82, .tmp 86], argTypes := #[3, 3] }, none, [1, 5]),
 (some 88, .binOp .sub 3 (.tmp 87) (.const (.int .i64 1)) 3, none, [6]),
 (some 89, .call { callee := .builtin .max, args := #[.const (.int .i64 0), .tmp 88], argTypes := #[3, 3] }, none, [7]),
 (some 90, .move (.tmp 2), none, []),
 (some 91, .call { callee := .value (.func 125), args := #[.tmp 90, .const (.int .i64 1), .const (.int .i64 1)], argTypes := #[25, 3, 3] }, none, [9]),
 (some 92, .move (.tmp 0), none, []),
 (some 93, .nilCheck (.tmp 92), none, [11]),
 (some 94, .fieldAddr 97 (.tmp 93) 0, none, [12]),
 (some 95, .load 3 (.tmp 94), none, [13]),
 (some 96, .call { callee := .builtin .min, args := #[.tmp 91, .tmp 95], argTypes := #[3, 3] }, none, [10, 14]),
 (some 97, .binOp .sub 3 (.tmp 96) (.const (.int .i64 1)) 3, none, [15]),
 (some 98, .call { callee := .builtin .max, args := #[.const (.int .i64 0), .tmp 97], argTypes := #[3, 3] }, none, [16]),
 (some 99, .build 24 #[(0, .tmp 89), (1, .tmp 98)], none, [8, 17]),
 (some 100, .nilCheck (.tmp 81), none, [0, 0, 1, 2, 3, 4, 5, 6, 7, 8, 9, 10, 11, 12, 13, 14, 15, 16, 17, 18]),
 (some 101, .fieldAddr 97 (.tmp 100) 3, none, [19, 0, 1, 2, 3, 4, 5, 6, 7, 8, 9, 10, 11, 12, 13, 14, 15, 16, 17, 18]),
 (none, .store 24 (.tmp 101) (.tmp 99), none, [20, 18, 10, 0, 1, 2, 3, 4, 5, 6, 7, 8, 9, 10, 11, 12, 13, 14, 15, 16, 17, 18])]
structure rhomeFr (p ln lc : Nat) (lA : Option Addr) (nn : Int) (a : Act) : Prop where
 size : a.tmps.size = 223
 defers : a.defers = []
 s0 : Chain.At a 0 (.pointer (some ⟨p, 0, none⟩))
 s2 : Chain.At a 2 (.slice lA ln lc)
 s6 : Chain.At a 6 (.int .i64 nn)
theorem rhomeFr.next {p ln lc : Nat} {lA : Option Addr} {nn : Int} {a a' : Act} {d : Nat} {v : Value} (F : rhomeFr p ln lc lA nn a) (nx : Chain.Next a a' d v) (h : d ≠ 0 ∧ d ≠ 2 ∧ d ≠ 6 := by decide) : rhomeFr p ln lc lA nn a' := ⟨nx.size.trans F.size, nx.defers.trans F.defers, nx.k F.s0 (by omega), nx.k F.s2 (by omega), nx.k F.s6 (by omega)⟩
theorem rhomeFr.lt {p ln lc : Nat} {lA : Option Addr} {nn : Int} {a : Act} {d : Nat} (F : rhomeFr p ln lc lA nn a) (h : d < 223 := by decide) : d < a.tmps.size := by rw [F.size]; exact h
theorem rhome_region {ops : Array Oper} {Q : Exit → Act → World → Prop} (R : Ord.Reg ops rhomeL) (hQ : Ord.HQ Q) {w1 : World} {p sw sh ln lc : Nat} {lA : Option Addr} {nn mm X Y : Int}
  (k0 : ∀ w, w = w1 ∨ w = (w1.setCell ⟨p, 3, none⟩ (.int .i64 X)).setCell ⟨p, 4, none⟩ (.int .i64 Y) → w.cell? ⟨p, 0, none⟩ = some (.int .i64 (sw : Int))) (k1 : ∀ w, w = w1 ∨ w = (w1.setCell ⟨p, 3, none⟩ (.int .i64 X)).setCell ⟨p, 4, none⟩ (.int .i64 Y) → w.cell? ⟨p, 1, none⟩ = some (.int .i64 (sh : Int)))
  (k3 : ∃ v, w1.cell? ⟨p, 3, none⟩ = some v) (k4 : ∃ v, w1.cell? ⟨p, 4, none⟩ = some v) (f3 : w1.frozen? ⟨p, 3, none⟩ = false) (f4 : w1.frozen? ⟨p, 4, none⟩ = false)
  (hs1 : IntKind.i64.wrap (min nn (sh : Int) - 1) = min nn (sh : Int) - 1) (hX : max 0 (min nn (sh : Int) - 1) = X) (hs2 : IntKind.i64.wrap (min mm (sw : Int) - 1) = min mm (sw : Int) - 1) (hY : max 0 (min mm (sw : Int) - 1) = Y)
  (AG : ∀ w, (w = w1 ∨ w = (w1.setCell ⟨p, 3, none⟩ (.int .i64 X)).setCell ⟨p, 4, none⟩ (.int .i64 Y)) → Calls Tryz.prog 125 #[.slice lA ln lc, .int .i64 1, .int .i64 1] w fun e w' => e = .returned (.int .i64 mm) ∧ w = w')
  (a : Act) (F : rhomeFr p ln lc lA nn a) (h : ∀ a, rhomeFr p ln lc lA nn a → Q .normal a ((w1.setCell ⟨p, 3, none⟩ (.int .i64 X)).setCell ⟨p, 4, none⟩ (.int .i64 Y))) :
  wpAnyH Tryz.prog .any ops Q (fun w => w = w1 ∨ w = (w1.setCell ⟨p, 3, none⟩ (.int .i64 X)).setCell ⟨p, 4, none⟩ (.int .i64 Y)) 22 (List.replicate 22 false).toArray a w1 := by
 obtain ⟨v3, k3⟩ := k3
 obtain ⟨v4, k4⟩ := k4
 have hS : w1 = w1 ∨ w1 = (w1.setCell ⟨p, 3, none⟩ (.int .i64 X)).setCell ⟨p, 4, none⟩ (.int .i64 Y) := .inl rfl
 refine Ord.tj R 0 (.pointer (some ⟨p, 0, none⟩)) (U22RScrR 1) rfl hQ trivial hS (fun w _ hS => Chain.ev_move F.s0.ev) F.lt fun a0 N => ?_
 replace F := F.next N
 have f81 := N.got
 clear N a
 refine Ord.tk R 1 (.int .i64 nn) rfl hQ hS (fun w _ hS => Chain.ev_move F.s6.ev) F.lt fun a1 N => ?_
 replace F := F.next N
 replace f81 := N.k f81
 have f82 := N.got
 clear N a0
 refine Ord.tk R 2 (.pointer (some ⟨p, 0, none⟩)) rfl hQ hS (fun w _ hS => Chain.ev_move F.s0.ev) F.lt fun a2 N => ?_
 replace F := F.next N
 replace f81 := N.k f81
 replace f82 := N.k f82
 have f83 := N.got
 clear N a1
 refine Ord.tk R 3 (.pointer (some ⟨p, 0, none⟩)) rfl hQ hS (fun w _ hS => by have e83 := f83.u; clear F; go_simp) F.lt fun a3 N => ?_
 replace F := F.next N
 replace f81 := N.k f81
 replace f82 := N.k f82
 clear f83
 have f84 := N.got
 clear N a2
 refine Ord.tk R 4 (.pointer (some ⟨p, 1, none⟩)) rfl hQ hS (fun w _ hS => by have e84 := f84.u; clear F; go_simp) F.lt fun a4 N => ?_
 replace F := F.next N
 replace f81 := N.k f81
 replace f82 := N.k f82
 clear f84
 have f85 := N.got
 clear N a3
 refine Ord.tk R 5 (.int .i64 (sh : Int)) rfl hQ hS (fun w _ hS => by have e85 := f85.u; have q0 := (k1 w hS); clear F; go_simp) F.lt fun a5 N => ?_
 replace F := F.next N
 replace f81 := N.k f81
 replace f82 := N.k f82
 clear f85
 have f86 := N.got
 clear N a4
 refine Ord.tk R 6 (.int .i64 (min nn (sh : Int))) rfl hQ hS (fun w _ hS => by have e82 := f82.u; have e86 := f86.u; clear F; go_simp) F.lt fun a6 N => ?_
 replace F := F.next N
 replace f81 := N.k f81
 clear f82
 clear f86
 have f87 := N.got
 clear N a5
 refine Ord.tk R 7 (.int .i64 (min nn (sh : Int) - 1)) rfl hQ hS (fun w _ hS => by have e87 := f87.u; have q0 := hs1; clear F; go_simp) F.lt fun a7 N => ?_
 replace F := F.next N
 replace f81 := N.k f81
 clear f87
 have f88 := N.got
 clear N a6
 refine Ord.tk R 8 (.int .i64 X) rfl hQ hS (fun w _ hS => by have e88 := f88.u; have q0 := hX; clear F; go_simp) F.lt fun a8 N => ?_
 replace F := F.next N
 replace f81 := N.k f81
 clear f88
 have f89 := N.got
 clear N a7
 refine Ord.tk R 9 (.slice lA ln lc) rfl hQ hS (fun w _ hS => Chain.ev_move F.s2.ev) F.lt fun a9 N => ?_
 replace F := F.next N
 replace f81 := N.k f81
 replace f89 := N.k f89
 have f90 := N.got
 clear N a8
 refine Ord.tj R 11 (.pointer (some ⟨p, 0, none⟩)) (Ord.bt 22 3071) rfl hQ trivial hS (fun w _ hS => Chain.ev_move F.s0.ev) F.lt fun a11 N => ?_
 replace F := F.next N
 replace f81 := N.k f81
 replace f89 := N.k f89
 replace f90 := N.k f90
 have f92 := N.got
 clear N a9
 refine Ord.tj R 12 (.pointer (some ⟨p, 0, none⟩)) (Ord.bt 22 7167) rfl hQ trivial hS (fun w _ hS => by have e92 := f92.u; clear F; go_simp) F.lt fun a12 N => ?_
 replace F := F.next N
 replace f81 := N.k f81
 replace f89 := N.k f89
 replace f90 := N.k f90
 clear f92
 have f93 := N.got
 clear N a11
 refine Ord.tj R 13 (.pointer (some ⟨p, 0, none⟩)) (Ord.bt 22 15359) rfl hQ trivial hS (fun w _ hS => by have e93 := f93.u; clear F; go_simp) F.lt fun a13 N => ?_
 replace F := F.next N
 replace f81 := N.k f81
 replace f89 := N.k f89
 replace f90 := N.k f90
 clear f93
 have f94 := N.got
 clear N a12
 refine Ord.tj R 14 (.int .i64 (sw : Int)) (Ord.bt 22 31743) rfl hQ trivial hS (fun w _ hS => by have e94 := f94.u; have q0 := (k0 w hS); clear F; go_simp) F.lt fun a14 N => ?_
 replace F := F.next N
 replace f81 := N.k f81
 replace f89 := N.k f89
 replace f90 := N.k f90
 clear f94
 have f95 := N.got
 clear N a13
 refine Ord.call R (k := 10) (args := #[.slice lA ln lc, .int .i64 1, .int .i64 1]) (bs' := U22RScrR 15) rfl (by kernel_rfl) trivial (by simp [f90.ev, Ord.ev_c]) (by kernel_rfl) (AG _ hS) F.lt ?_
 rintro e w ⟨rfl, rfl⟩
 replace hS := hS
 refine ⟨_, rfl, hS, fun a10 N => ?_⟩
 replace F := F.next N
 replace f81 := N.k f81
 replace f89 := N.k f89
 clear f90
 replace f95 := N.k f95
 have f91 := N.got
 clear N a14
 refine Ord.tk R 15 (.int .i64 (min mm (sw : Int))) rfl hQ hS (fun w _ hS => by have e91 := f91.u; have e95 := f95.u; clear F; go_simp) F.lt fun a15 N => ?_
 replace F := F.next N
 replace f81 := N.k f81
 replace f89 := N.k f89
 clear f91
 clear f95
 have f96 := N.got
 clear N a10
 refine Ord.tk R 16 (.int .i64 (min mm (sw : Int) - 1)) rfl hQ hS (fun w _ hS => by have e96 := f96.u; have q0 := hs2; clear F; go_simp) F.lt fun a16 N => ?_
 replace F := F.next N
 replace f81 := N.k f81
 replace f89 := N.k f89
 clear f96
 have f97 := N.got
 clear N a15
 refine Ord.tk R 17 (.int .i64 Y) rfl hQ hS (fun w _ hS => by have e97 := f97.u; have q0 := hY; clear F; go_simp) F.lt fun a17 N => ?_
 replace F := F.next N
 replace f81 := N.k f81
 replace f89 := N.k f89
 clear f97
 have f98 := N.got
 clear N a16
 refine Ord.tk R 18 (.agg #[.int .i64 X, .int .i64 Y]) rfl hQ hS (fun w _ hS => by have e89 := f89.u; have e98 := f98.u; clear F; go_simp) F.lt fun a18 N => ?_
 replace F := F.next N
 replace f81 := N.k f81
 clear f89
 clear f98
 have f99 := N.got
 clear N a17
 refine Ord.tk R 19 (.pointer (some ⟨p, 0, none⟩)) rfl hQ hS (fun w _ hS => by have e81 := f81.u; clear F; go_simp) F.lt fun a19 N => ?_
 replace F := F.next N
 clear f81
 replace f99 := N.k f99
 have f100 := N.got
 clear N a18
 refine Ord.tk R 20 (.pointer (some ⟨p, 3, none⟩)) rfl hQ hS (fun w _ hS => by have e100 := f100.u; clear F; go_simp) F.lt fun a20 N => ?_
 replace F := F.next N
 replace f99 := N.k f99
 clear f100
 have f101 := N.got
 clear N a19
 refine Ord.effect R (k := 21) (bs' := U22RScrR 22) (w1 := (w1.setCell ⟨p, 3, none⟩ (.int .i64 X)).setCell ⟨p, 4, none⟩ (.int .i64 Y)) rfl (by kernel_rfl) trivial (.inr rfl) (fun _ => by have e0 := f99; have e1 := f101; unfold Chain.At at e0 e1; clear F; go_simp) ?_
 exact Ord.finish R (by kernel_rfl) (h _ F)
theorem rhome_frame {a : Act} {w : World} {K : Act → World → Prop} {v0 v2 v6 : Value} (hz : a.tmps.size = 223) (hd : a.defers = []) (f0 : Chain.At a 0 v0) (f2 : Chain.At a 2 v2) (f6 : Chain.At a 6 v6)
  (h : ∀ u1 u3 u4 u5 u7 u8 u9 u10 u11 u12 u13 u14 u15 u16 u17 u18 u19 u20 u21 u22 u23 u24 u25 u26 u27 u28 u29 u30 u31 u32 u33 u34 u35 u36 u37 u38 u39 u40 u41 u42 u43 u44 u45 u46 u47 u48 u49 u50 u51 u52 u53 u54 u55 u56 u57 u58 u59 u60 u61 u62 u63 u64 u65 u66 u67 u68 u69 u70 u71 u72 u73 u74 u75 u76 u77 u78 u79 u80 u81 u82 u83 u84 u85 u86 u87 u88 u89 u90 u91 u92 u93 u94 u95 u96 u97 u98 u99 u100 u101 u102 u103 u104 u105 u106 u107 u108 u109 u110 u111 u112 u113 u114 u115 u116 u117 u118 u119 u120 u121 u122 u123 u124 u125 u126 u127 u128 u129 u130 u131 u132 u133 u134 u135 u136 u137 u138 u139 u140 u141 u142 u143 u144 u145 u146 u147 u148 u149 u150 u151 u152 u153 u154 u155 u156 u157 u158 u159 u160 u161 u162 u163 u164 u165 u166 u167 u168 u169 u170 u171 u172 u173 u174 u175 u176 u177 u178 u179 u180 u181 u182 u183 u184 u185 u186 u187 u188 u189 u190 u191 u192 u193 u194 u195 u196 u197 u198 u199 u200 u201 u202 u203 u204 u205 u206 u207 u208 u209 u210 u211 u212 u213 u214 u215 u216 u217 u218 u219 u220 u221 u222 : Value, K ⟨#[v0, u1, v2, u3, u4, u5, v6, u7, u8, u9, u10, u11, u12, u13, u14, u15, u16, u17, u18, u19, u20, u21, u22, u23, u24, u25, u26, u27, u28, u29, u30, u31, u32, u33, u34, u35, u36, u37, u38, u39, u40, u41, u42, u43, u44, u45, u46, u47, u48, u49, u50, u51, u52, u53, u54, u55, u56, u57, u58, u59, u60, u61, u62, u63, u64, u65, u66, u67, u68, u69, u70, u71, u72, u73, u74, u75, u76, u77, u78, u79, u80, u81, u82, u83, u84, u85, u86, u87, u88, u89, u90, u91, u92, u93, u94, u95, u96, u97, u98, u99, u100, u101, u102, u103, u104, u105, u106, u107, u108, u109, u110, u111, u112, u113, u114, u115, u116, u117, u118, u119, u120, u121, u122, u123, u124, u125, u126, u127, u128, u129, u130, u131, u132, u133, u134, u135, u136, u137, u138, u139, u140, u141, u142, u143, u144, u145, u146, u147, u148, u149, u150, u151, u152, u153, u154, u155, u156, u157, u158, u159, u160, u161, u162, u163, u164, u165, u166, u167, u168, u169, u170, u171, u172, u173, u174, u175, u176, u177, u178, u179, u180, u181, u182, u183, u184, u185, u186, u187, u188, u189, u190, u191, u192, u193, u194, u195, u196, u197, u198, u199, u200, u201, u202, u203, u204, u205, u206, u207, u208, u209, u210, u211, u212, u213, u214, u215, u216, u217, u218, u219, u220, u221, u222], []⟩ w) : K a w := by
 have e := Ord.frame_gets hz hd
 simp only [Ord.gets, Nat.reduceAdd] at e
 rw [Ord.at_get f0, Ord.at_get f2, Ord.at_get f6] at e
 rw [e]
 exact h _ _ _ _ _ _ _ _ _ _ _ _ _ _ _ _ _ _ _ _ _ _ _ _ _ _ _ _ _ _ _ _ _ _ _ _ _ _ _ _ _ _ _ _ _ _ _ _ _ _ _ _ _ _ _ _ _ _ _ _ _ _ _ _ _ _ _ _ _ _ _ _ _ _ _ _ _ _ _ _ _ _ _ _ _ _ _ _ _ _ _ _ _ _ _ _ _ _ _ _ _ _ _ _ _ _ _ _ _ _ _ _ _ _ _ _ _ _ _ _ _ _ _ _ _ _ _ _ _ _ _ _ _ _ _ _ _ _ _ _ _ _ _ _ _ _ _ _ _ _ _ _ _ _ _ _ _ _ _ _ _ _ _ _ _ _ _ _ _ _ _ _ _ _ _ _ _ _ _ _ _ _ _ _ _ _ _ _ _ _ _ _ _ _ _ _ _ _ _ _ _ _ _ _ _ _ _ _ _ _ _ _ _ _ _ _ _ _ _ _
end Sc
