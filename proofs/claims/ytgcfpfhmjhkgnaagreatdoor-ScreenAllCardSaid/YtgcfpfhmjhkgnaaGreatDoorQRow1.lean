import Derived.Test.YtgcfpfhmjhkgnaaGreatDoorQRow0
import Derived.Laws.MakeOwn
import Derived.StillTailTactics
set_option maxRecDepth 100000
set_option maxHeartbeats 6400000
namespace Go.Proofs.YtgcfpfhmjhkgnaaGreatDoor
open Go.ChangeShapes Go.WideShapes Go.ChangeAt Go.RowKit
namespace Rw
abbrev U15RowOneR (k : Nat) := Ord.upto k 15
def oneL : List Ord.Line := [
 (some 16, .move (.tmp 3), none, []),
 (some 17, .move (.tmp 16), none, [0]),
 (some 18, .move (.tmp 0), some (1, false), [1]),
 (some 19, .move (.tmp 0), some (1, false), [1]),
 (some 20, .indexAddr 22 (.tmp 19) (.const (.int .i64 0)), some (1, false), [3, 1]),
 (some 21, .fieldAddr 33 (.tmp 20) 0, some (1, false), [4, 1]),
 (some 22, .load 21 (.tmp 21), some (1, false), [5, 1]),
 (some 23, .move (.tmp 0), some (1, false), [1]),
 (some 24, .indexAddr 22 (.tmp 23) (.const (.int .i64 0)), some (1, false), [7, 1]),
 (some 25, .fieldAddr 33 (.tmp 24) 2, some (1, false), [8, 1]),
 (some 26, .load 3 (.tmp 25), some (1, false), [9, 1]),
 (some 27, .call { callee := .value (.func 67), args := #[.tmp 22, .tmp 26], argTypes := #[21, 3] }, some (1, false), [6, 10, 1, 1]),
 (some 28, .call { callee := .value (.func 66), args := #[.tmp 18, .tmp 27], argTypes := #[22, 22] }, some (1, false), [2, 11, 11, 1]),
 (some 29, .pick (.tmp 17) (.const (.bool true)) (.tmp 28), none, [1, 12]),
 (some 2, .assign (.tmp 29), none, [13, 12, 0, 1, 2, 3, 4, 5, 6, 7, 8, 9, 10, 11, 12, 13])]
structure OneFr0 (b2 o2 m c2 : Nat) (a : Act) : Prop where
 size : a.tmps.size = 30
 defers : a.defers = []
 s0 : Chain.At a 0 (.slice (some ⟨b2, o2, none⟩) m c2)
 s3 : Chain.At a 3 (.bool false)
theorem OneFr0.next {b2 o2 m c2 : Nat} {a a' : Act} {d : Nat} {v : Value} (F : OneFr0 b2 o2 m c2 a) (nx : Chain.Next a a' d v) (h : d ≠ 0 ∧ d ≠ 3 := by decide) : OneFr0 b2 o2 m c2 a' := ⟨nx.size.trans F.size, nx.defers.trans F.defers, nx.k F.s0 (by omega), nx.k F.s3 (by omega)⟩
theorem OneFr0.lt {b2 o2 m c2 : Nat} {a : Act} {d : Nat} (F : OneFr0 b2 o2 m c2 a) (h : d < 30 := by decide) : d < a.tmps.size := by rw [F.size]; exact h
theorem one_no {ops : Array Oper} {Q : Exit → Act → World → Prop} (R : Ord.Reg ops oneL) (hQ : Ord.HQ Q) {w1 : World} {b2 o2 m c2 : Nat}
  {r x : Int} {q : Bool} {Lo : List Cel} (hm0 : 0 < m) (cr : ∀ w, Below w1.heap.size w1 w → w.cell? ⟨b2, o2, none⟩ = some (.int .i32 r)) (cx : ∀ w, Below w1.heap.size w1 w → w.cell? ⟨b2, o2 + 2, none⟩ = some (.int .i64 x))
  (OF : ∀ w, Below w1.heap.size w1 w → Calls Tryz.prog 67 #[.int .i32 r, .int .i64 x] w fun e w' => OfPost Lo w e w')
  (EW : ∀ (w : World) (A3 : Option Addr) (c3 : Nat) {base : Nat}, Below w1.heap.size w1 w → HasC w base (.slice A3 Lo.length c3) Lo → Calls Tryz.prog 66 #[.slice (some ⟨b2, o2, none⟩) m c2, .slice A3 Lo.length c3] w fun e w' => e = .returned (.bool q) ∧ Below w.heap.size w w')
  (a : Act) (F : OneFr0 b2 o2 m c2 a) (h : ∀ a w, Below w1.heap.size w1 w → OneFr0 b2 o2 m c2 a → Chain.At a 2 (.bool q) → Q .normal a w) (w : World) (hS : Below w1.heap.size w1 w) :
  wpAnyH Tryz.prog .any ops Q (fun w => Below w1.heap.size w1 w) 15 (List.replicate 15 false).toArray a w := by
 refine Ord.tj R 0 (.bool false) (U15RowOneR 1) rfl hQ trivial hS (fun w _ hS => Chain.ev_move F.s3.ev) F.lt fun a0 N => ?_
 replace F := F.next N
 have f16 := N.got
 clear N a
 refine Ord.tk R 1 (.bool false) rfl hQ hS (fun w _ hS => Chain.ev_move f16.ev) F.lt fun a1 N => ?_
 replace F := F.next N
 clear f16
 have f17 := N.got
 clear N a0
 refine Ord.tj R 2 (.slice (some ⟨b2, o2, none⟩) m c2) (U15RowOneR 3) rfl hQ (R.opened (j := 1) rfl f17) hS (fun w _ hS => Chain.ev_move F.s0.ev) F.lt fun a2 N => ?_
 replace F := F.next N
 replace f17 := N.k f17
 have f18 := N.got
 clear N a1
 refine Ord.tj R 3 (.slice (some ⟨b2, o2, none⟩) m c2) (U15RowOneR 4) rfl hQ (R.opened (j := 1) rfl f17) hS (fun w _ hS => Chain.ev_move F.s0.ev) F.lt fun a3 N => ?_
 replace F := F.next N
 replace f17 := N.k f17
 replace f18 := N.k f18
 have f19 := N.got
 clear N a2
 refine Ord.tj R 4 (.pointer (some ⟨b2, o2, none⟩)) (U15RowOneR 5) rfl hQ (R.opened (j := 1) rfl f17) hS (fun w _ hS => by have e19 := f19.u; have q0 := hm0; clear F; go_simp) F.lt fun a4 N => ?_
 replace F := F.next N
 replace f17 := N.k f17
 replace f18 := N.k f18
 clear f19
 have f20 := N.got
 clear N a3
 refine Ord.tj R 5 (.pointer (some ⟨b2, o2, none⟩)) (U15RowOneR 6) rfl hQ (R.opened (j := 1) rfl f17) hS (fun w _ hS => by have e20 := f20.u; clear F; go_simp) F.lt fun a5 N => ?_
 replace F := F.next N
 replace f17 := N.k f17
 replace f18 := N.k f18
 clear f20
 have f21 := N.got
 clear N a4
 refine Ord.tj R 6 (.int .i32 r) (U15RowOneR 7) rfl hQ (R.opened (j := 1) rfl f17) hS (fun w _ hS => by have e21 := f21.u; have q0 := (cr w hS); clear F; go_simp) F.lt fun a6 N => ?_
 replace F := F.next N
 replace f17 := N.k f17
 replace f18 := N.k f18
 clear f21
 have f22 := N.got
 clear N a5
 refine Ord.tj R 7 (.slice (some ⟨b2, o2, none⟩) m c2) (U15RowOneR 8) rfl hQ (R.opened (j := 1) rfl f17) hS (fun w _ hS => Chain.ev_move F.s0.ev) F.lt fun a7 N => ?_
 replace F := F.next N
 replace f17 := N.k f17
 replace f18 := N.k f18
 replace f22 := N.k f22
 have f23 := N.got
 clear N a6
 refine Ord.tj R 8 (.pointer (some ⟨b2, o2, none⟩)) (U15RowOneR 9) rfl hQ (R.opened (j := 1) rfl f17) hS (fun w _ hS => by have e23 := f23.u; have q0 := hm0; clear F; go_simp) F.lt fun a8 N => ?_
 replace F := F.next N
 replace f17 := N.k f17
 replace f18 := N.k f18
 replace f22 := N.k f22
 clear f23
 have f24 := N.got
 clear N a7
 refine Ord.tj R 9 (.pointer (some ⟨b2, o2 + 2, none⟩)) (U15RowOneR 10) rfl hQ (R.opened (j := 1) rfl f17) hS (fun w _ hS => by have e24 := f24.u; clear F; go_simp) F.lt fun a9 N => ?_
 replace F := F.next N
 replace f17 := N.k f17
 replace f18 := N.k f18
 replace f22 := N.k f22
 clear f24
 have f25 := N.got
 clear N a8
 refine Ord.tj R 10 (.int .i64 x) (U15RowOneR 11) rfl hQ (R.opened (j := 1) rfl f17) hS (fun w _ hS => by have e25 := f25.u; have q0 := (cx w hS); clear F; go_simp) F.lt fun a10 N => ?_
 replace F := F.next N
 replace f17 := N.k f17
 replace f18 := N.k f18
 replace f22 := N.k f22
 clear f25
 have f26 := N.got
 clear N a9
 refine Ord.call R (k := 11) (args := #[.int .i32 r, .int .i64 x]) (bs' := U15RowOneR 12) rfl (by kernel_rfl) (R.opened (j := 1) rfl f17) (by simp [f22.ev, f26.ev]) (by kernel_rfl) (OF _ hS) F.lt ?_
 rintro e w ⟨v3, rfl, h3, b3⟩
 obtain ⟨A3, c3, rfl, _⟩ := HasC.shape h3
 have hS3 := hS.trans (b3.mono hS.size)
 have EQ := EW _ _ _ hS3 h3
 replace hS := hS3
 refine ⟨_, rfl, hS, fun a11 N => ?_⟩
 replace F := F.next N
 replace f17 := N.k f17
 replace f18 := N.k f18
 clear f22
 clear f26
 have f27 := N.got
 clear N a10
 refine Ord.call R (k := 12) (args := #[.slice (some ⟨b2, o2, none⟩) m c2, .slice A3 Lo.length c3]) (bs' := U15RowOneR 13) rfl (by kernel_rfl) (R.opened (j := 1) rfl f17) (by simp [f18.ev, f27.ev]) (by kernel_rfl) (EQ) F.lt ?_
 rintro e w ⟨rfl, b4⟩
 replace hS := hS.trans (b4.mono hS.size)
 refine ⟨_, rfl, hS, fun a12 N => ?_⟩
 replace F := F.next N
 replace f17 := N.k f17
 clear f18
 clear f27
 have f28 := N.got
 clear N a11
 refine Ord.tk R 13 (.bool q) rfl hQ hS (fun w _ hS => Ord.ev_pick_no f17.ev f28.ev) F.lt fun a13 N => ?_
 replace F := F.next N
 clear f17
 clear f28
 have f29 := N.got
 clear N a12
 refine Ord.tk R 14 (.bool q) rfl hQ hS (fun w _ hS => Chain.ev_assign f29.ev) F.lt fun a14 N => ?_
 replace F := F.next N
 clear f29
 have f2 := N.got
 clear N a13
 exact Ord.finish R (by kernel_rfl) (h _ _ hS F f2)
structure OneFr1 (b2 o2 m c2 : Nat) (a : Act) : Prop where
 size : a.tmps.size = 30
 defers : a.defers = []
 s0 : Chain.At a 0 (.slice (some ⟨b2, o2, none⟩) m c2)
 s3 : Chain.At a 3 (.bool true)
theorem OneFr1.next {b2 o2 m c2 : Nat} {a a' : Act} {d : Nat} {v : Value} (F : OneFr1 b2 o2 m c2 a) (nx : Chain.Next a a' d v) (h : d ≠ 0 ∧ d ≠ 3 := by decide) : OneFr1 b2 o2 m c2 a' := ⟨nx.size.trans F.size, nx.defers.trans F.defers, nx.k F.s0 (by omega), nx.k F.s3 (by omega)⟩
theorem OneFr1.lt {b2 o2 m c2 : Nat} {a : Act} {d : Nat} (F : OneFr1 b2 o2 m c2 a) (h : d < 30 := by decide) : d < a.tmps.size := by rw [F.size]; exact h
theorem one_yes {ops : Array Oper} {Q : Exit → Act → World → Prop} (R : Ord.Reg ops oneL) (hQ : Ord.HQ Q) {w1 : World} {b2 o2 m c2 : Nat}
  (a : Act) (F : OneFr1 b2 o2 m c2 a) (h : ∀ a w, Below w1.heap.size w1 w → OneFr1 b2 o2 m c2 a → Chain.At a 2 (.bool true) → Q .normal a w) (w : World) (hS : Below w1.heap.size w1 w) :
  wpAnyH Tryz.prog .any ops Q (fun w => Below w1.heap.size w1 w) 15 (List.replicate 15 false).toArray a w := by
 refine Ord.tj R 0 (.bool true) (U15RowOneR 1) rfl hQ trivial hS (fun w _ hS => Chain.ev_move F.s3.ev) F.lt fun a0 N => ?_
 replace F := F.next N
 have f16 := N.got
 clear N a
 refine Ord.tk R 1 (.bool true) rfl hQ hS (fun w _ hS => Chain.ev_move f16.ev) F.lt fun a1 N => ?_
 replace F := F.next N
 clear f16
 have f17 := N.got
 clear N a0
 refine Ord.sk R 2 (U15RowOneR 3) rfl hQ (R.shut (j := 1) rfl f17 (Ord.ne_not rfl)) hS F.lt fun a2 N => ?_
 replace F := F.next N
 replace f17 := N.k f17
 have f18 := N.got
 clear N a1
 refine Ord.sk R 3 (U15RowOneR 4) rfl hQ (R.shut (j := 1) rfl f17 (Ord.ne_not rfl)) hS F.lt fun a3 N => ?_
 replace F := F.next N
 replace f17 := N.k f17
 replace f18 := N.k f18
 have f19 := N.got
 clear N a2
 refine Ord.sk R 4 (U15RowOneR 5) rfl hQ (R.shut (j := 1) rfl f17 (Ord.ne_not rfl)) hS F.lt fun a4 N => ?_
 replace F := F.next N
 replace f17 := N.k f17
 replace f18 := N.k f18
 clear f19
 have f20 := N.got
 clear N a3
 refine Ord.sk R 5 (U15RowOneR 6) rfl hQ (R.shut (j := 1) rfl f17 (Ord.ne_not rfl)) hS F.lt fun a5 N => ?_
 replace F := F.next N
 replace f17 := N.k f17
 replace f18 := N.k f18
 clear f20
 have f21 := N.got
 clear N a4
 refine Ord.sk R 6 (U15RowOneR 7) rfl hQ (R.shut (j := 1) rfl f17 (Ord.ne_not rfl)) hS F.lt fun a6 N => ?_
 replace F := F.next N
 replace f17 := N.k f17
 replace f18 := N.k f18
 clear f21
 have f22 := N.got
 clear N a5
 refine Ord.sk R 7 (U15RowOneR 8) rfl hQ (R.shut (j := 1) rfl f17 (Ord.ne_not rfl)) hS F.lt fun a7 N => ?_
 replace F := F.next N
 replace f17 := N.k f17
 replace f18 := N.k f18
 replace f22 := N.k f22
 have f23 := N.got
 clear N a6
 refine Ord.sk R 8 (U15RowOneR 9) rfl hQ (R.shut (j := 1) rfl f17 (Ord.ne_not rfl)) hS F.lt fun a8 N => ?_
 replace F := F.next N
 replace f17 := N.k f17
 replace f18 := N.k f18
 replace f22 := N.k f22
 clear f23
 have f24 := N.got
 clear N a7
 refine Ord.sk R 9 (U15RowOneR 10) rfl hQ (R.shut (j := 1) rfl f17 (Ord.ne_not rfl)) hS F.lt fun a9 N => ?_
 replace F := F.next N
 replace f17 := N.k f17
 replace f18 := N.k f18
 replace f22 := N.k f22
 clear f24
 have f25 := N.got
 clear N a8
 refine Ord.sk R 10 (U15RowOneR 11) rfl hQ (R.shut (j := 1) rfl f17 (Ord.ne_not rfl)) hS F.lt fun a10 N => ?_
 replace F := F.next N
 replace f17 := N.k f17
 replace f18 := N.k f18
 replace f22 := N.k f22
 clear f25
 have f26 := N.got
 clear N a9
 refine Ord.sk R 11 (U15RowOneR 12) rfl hQ (R.shut (j := 1) rfl f17 (Ord.ne_not rfl)) hS F.lt fun a11 N => ?_
 replace F := F.next N
 replace f17 := N.k f17
 replace f18 := N.k f18
 clear f22
 clear f26
 have f27 := N.got
 clear N a10
 refine Ord.sk R 12 (U15RowOneR 13) rfl hQ (R.shut (j := 1) rfl f17 (Ord.ne_not rfl)) hS F.lt fun a12 N => ?_
 replace F := F.next N
 replace f17 := N.k f17
 clear f18
 clear f27
 have f28 := N.got
 clear N a11
 refine Ord.tk R 13 (Go.Value.bool true) rfl hQ hS (fun w _ hS => Ord.ev_pick_yes f17.ev rfl) F.lt fun a13 N => ?_
 replace F := F.next N
 clear f17
 clear f28
 have f29 := N.got
 clear N a12
 refine Ord.tk R 14 (Go.Value.bool true) rfl hQ hS (fun w _ hS => Chain.ev_assign f29.ev) F.lt fun a14 N => ?_
 replace F := F.next N
 clear f29
 have f2 := N.got
 clear N a13
 exact Ord.finish R (by kernel_rfl) (h _ _ hS F f2)
theorem one_frame {a : Act} {w : World} {K : Act → World → Prop} {v0 v2 v3 : Value} (hz : a.tmps.size = 30) (hd : a.defers = []) (f0 : Chain.At a 0 v0) (f2 : Chain.At a 2 v2) (f3 : Chain.At a 3 v3)
  (h : ∀ u1 u4 u5 u6 u7 u8 u9 u10 u11 u12 u13 u14 u15 u16 u17 u18 u19 u20 u21 u22 u23 u24 u25 u26 u27 u28 u29 : Value, K ⟨#[v0, u1, v2, v3, u4, u5, u6, u7, u8, u9, u10, u11, u12, u13, u14, u15, u16, u17, u18, u19, u20, u21, u22, u23, u24, u25, u26, u27, u28, u29], []⟩ w) : K a w := by
 have e := Ord.frame_gets hz hd
 simp only [Ord.gets, Nat.reduceAdd] at e
 rw [Ord.at_get f0, Ord.at_get f2, Ord.at_get f3] at e
 rw [e]
 exact h _ _ _ _ _ _ _ _ _ _ _ _ _ _ _ _ _ _ _ _ _ _ _ _ _ _ _
end Rw
namespace Rw
def isOneB : List Cel → Bool
 | [] => false
 | c :: l => (decide (l = []) && isB 0 c.1 c.2.1 c.2.2) || eqL (c :: l) (ofL c.1 c.2.2)
theorem isOne_walk (A : Option Addr) (m c2 : Nat) (L : List Cel) (w : World) (hs : Spans w) (hl : ∀ c ∈ L, -2147483648 ≤ c.1 ∧ c.1 ≤ 2147483647) (hm : m ≤ 1000000) (hq : Sq w w.heap.size 3 m A (flat L)) :
  Calls Tryz.prog 34 #[.slice A m c2] w fun e w' => e = .returned (.bool (isOneB L)) ∧ Below w.heap.size w w' := by
 have hln : L.length = m := by have := hq.len; rw [flat_length] at this; omega
 cases L with
 | nil =>
  obtain rfl : m = 0 := by simpa using hln.symm
  clear hq hs hl
  go_enter Tryz.func34, Tryz.ntmps34
  go_wp2
  go_ret
  exact ⟨rfl, Below.refl _ _⟩
 | cons c l =>
  have hm0 : 0 < m := by rw [← hln]; simp
  obtain ⟨b2, o2, rfl, hbl, x, hx, q0, q1, q2⟩ := hq.three hm0
  simp only [List.getElem?_cons_zero, Option.some.injEq] at hx
  subst hx
  simp only [Nat.zero_mul, Nat.add_zero] at q0 q1 q2
  obtain ⟨hr0, hr1⟩ := hl c (List.mem_cons_self ..)
  have Q := Lib.hid hq
  have S := Lib.hid hs
  have LN := Lib.hid hln
  have hmb : ((m : Int) == 0) = false := by simp; omega
  obtain ⟨r, wd, a⟩ := c
  simp only at q0 q1 q2 hr0 hr1
  have OF : ∀ w', Below w.heap.size w w' → Calls Tryz.prog 67 #[.int .i32 r, .int .i64 a] w' fun e w'' => OfPost (ofL r a) w' e w'' := fun w' hb => cellOf_walk r a hr0 hr1 w' (S.out.below hb S.out.size)
  have EW : ∀ (w' : World) (A3 : Option Addr) (c3 : Nat) {base : Nat}, Below w.heap.size w w' → HasC w' base (.slice A3 (ofL r a).length c3) (ofL r a) → Calls Tryz.prog 66 #[.slice (some ⟨b2, o2, none⟩) m c2, .slice A3 (ofL r a).length c3] w' fun e w'' => e = .returned (.bool (eqL ((r, wd, a) :: l) (ofL r a))) ∧ Below w'.heap.size w' w'' := fun w' A3 c3 base hb h3 =>
   slicesEq_walk _ _ _ _ _ _ _ _ w' hm (by unfold ofL; split <;> (try split) <;> (try split) <;> simp) ((Q.out.below hb).up hb.size) (HasC.sq h3)
  have CR : ∀ w', Below w.heap.size w w' → w'.cell? ⟨b2, o2, none⟩ = some (.int .i32 r) := fun w' hb => (hb.cell (p := ⟨b2, o2, none⟩) hbl).trans q0
  have CX : ∀ w', Below w.heap.size w w' → w'.cell? ⟨b2, o2 + 2, none⟩ = some (.int .i64 a) := fun w' hb => (hb.cell (p := ⟨b2, o2 + 2, none⟩) hbl).trans q2
  have hnil : (l = []) ↔ m = 1 := by
   rw [← hln]
   simp
  clear hq hs hl hln
  by_cases h1 : m = 1
  ·have hl0 : l = [] := hnil.2 h1
   subst h1
   have PW := Lib.hid (isPad_walk r wd a w)
   go_enter Tryz.func34, Tryz.ntmps34
   go_wp2_with fail
   refine PW.out.mono ?_
   rintro e w2 ⟨rfl, b2'⟩
   have B2 := Lib.hid b2'
   clear b2' PW q0 q1 q2
   cases hp : isB 0 r wd a with
   | true =>
    have RES := Lib.hid (show true = isOneB ((r, wd, a) :: l) by unfold isOneB; simp [hl0, hp])
    go_wp2_with fail
    refine Ord.start (S := fun w' => Below w2.heap.size w2 w') (n := 15) (by kernel_rfl) (by kernel_rfl) (Below.refl w2.heap.size w2).drew ?_
    apply one_yes (b2 := b2) (o2 := o2) (m := 1) (c2 := c2)
    case R => exact ⟨by kernel_rfl, by kernel_rfl⟩
    case hQ => exact fun _ _ _ _ _ h => h
    case F => exact ⟨rfl, rfl, rfl, rfl⟩
    case hS => exact (Below.refl w2.heap.size w2).drew
    intro a2 w9 hS9 F9 f2
    have DN := Lib.hid (show Below w.heap.size w w9 from B2.out.trans (hS9.mono B2.out.size))
    refine one_frame F9.size F9.defers F9.s0 f2 F9.s3 ?_
    intros
    try dsimp only
    clear OF EW CR CX F9 f2
    go_wp2
    go_ret
    exact ⟨ret_bool RES.out, DN.out⟩
   | false =>
    have RES := Lib.hid (show eqL ((r, wd, a) :: l) (ofL r a) = isOneB ((r, wd, a) :: l) by unfold isOneB; simp [hp])
    go_wp2_with fail
    refine Ord.start (S := fun w' => Below w2.heap.size w2 w') (n := 15) (by kernel_rfl) (by kernel_rfl) (Below.refl w2.heap.size w2).drew ?_
    apply one_no (b2 := b2) (o2 := o2) (m := 1) (c2 := c2) (r := r) (x := a) (q := eqL ((r, wd, a) :: l) (ofL r a)) (Lo := ofL r a)
    case R => exact ⟨by kernel_rfl, by kernel_rfl⟩
    case hQ => exact fun _ _ _ _ _ h => h
    case hm0 => exact hm0
    case cr => exact fun w' hb => CR w' (B2.out.trans (hb.mono B2.out.size))
    case cx => exact fun w' hb => CX w' (B2.out.trans (hb.mono B2.out.size))
    case OF => exact fun w' hb => OF w' (B2.out.trans (hb.mono B2.out.size))
    case EW => exact fun w' A3 c3 _ hb h3 => EW w' A3 c3 (B2.out.trans (hb.mono B2.out.size)) h3
    case F => exact ⟨rfl, rfl, rfl, rfl⟩
    case hS => exact (Below.refl w2.heap.size w2).drew
    intro a2 w9 hS9 F9 f2
    have DN := Lib.hid (show Below w.heap.size w w9 from B2.out.trans (hS9.mono B2.out.size))
    refine one_frame F9.size F9.defers F9.s0 f2 F9.s3 ?_
    intros
    try dsimp only
    clear OF EW CR CX F9 f2
    go_wp2
    go_ret
    exact ⟨ret_bool RES.out, DN.out⟩
  ·have hl0 : ¬ l = [] := fun e => h1 (hnil.1 e)
   have hm1 : ((m : Int) == 1) = false := by simp; omega
   go_enter Tryz.func34, Tryz.ntmps34
   have RES := Lib.hid (show eqL ((r, wd, a) :: l) (ofL r a) = isOneB ((r, wd, a) :: l) by unfold isOneB; simp [hl0])
   clear q0 q1 q2
   go_wp2_with fail
   refine Ord.start (S := fun w' => Below w.heap.size w w') (n := 15) (by kernel_rfl) (by kernel_rfl) (Below.refl w.heap.size w).drew ?_
   apply one_no (b2 := b2) (o2 := o2) (m := m) (c2 := c2) (r := r) (x := a) (q := eqL ((r, wd, a) :: l) (ofL r a)) (Lo := ofL r a)
   case R => exact ⟨by kernel_rfl, by kernel_rfl⟩
   case hQ => exact fun _ _ _ _ _ h => h
   case hm0 => exact hm0
   case cr => exact fun w' hb => CR w' (hb)
   case cx => exact fun w' hb => CX w' (hb)
   case OF => exact fun w' hb => OF w' (hb)
   case EW => exact fun w' A3 c3 _ hb h3 => EW w' A3 c3 (hb) h3
   case F => exact ⟨rfl, rfl, rfl, rfl⟩
   case hS => exact (Below.refl w.heap.size w).drew
   intro a2 w9 hS9 F9 f2
   have DN := Lib.hid (show Below w.heap.size w w9 from hS9)
   refine one_frame F9.size F9.defers F9.s0 f2 F9.s3 ?_
   intros
   try dsimp only
   clear OF EW CR CX F9 f2
   go_wp2
   go_ret
   exact ⟨ret_bool RES.out, DN.out⟩
end Rw
namespace Rw
abbrev U10RepR (k : Nat) := Ord.upto k 10
def repL : List Ord.Line := [
 (some 38, .move (.tmp 8), none, []),
 (some 39, .move (.tmp 7), none, []),
 (some 40, .move (.tmp 8), none, []),
 (some 41, .slice 22 (.tmp 39) (some (.tmp 40)) none none, none, [1, 2]),
 (some 42, .move (.tmp 7), none, []),
 (some 43, .move (.tmp 8), none, []),
 (some 44, .slice 22 (.tmp 42) none (some (.tmp 43)) none, none, [4, 5]),
 (some 45, .call { callee := .builtin .copy, args := #[.tmp 41, .tmp 44], argTypes := #[22, 22] }, none, [3, 6]),
 (some 46, .binOp .add 3 (.tmp 38) (.tmp 45) 3, none, [0, 7]),
 (some 8, .assign (.tmp 46), none, [8, 7, 0, 1, 2, 3, 4, 5, 6, 7, 8])]
structure RepFr (g cnt : Nat) (p0 p1 p2 p3 p4 p5 p6 p9 p10 p11 p12 p13 p14 p15 p16 p17 p18 p19 p20 p21 p22 p23 p24 p25 p26 p27 p28 p29 p30 p31 p32 p33 p47 : Value) (a : Act) : Prop where
 size : a.tmps.size = 48
 defers : a.defers = []
 s0 : Chain.At a 0 (p0)
 s1 : Chain.At a 1 (p1)
 s2 : Chain.At a 2 (p2)
 s3 : Chain.At a 3 (p3)
 s4 : Chain.At a 4 (p4)
 s5 : Chain.At a 5 (p5)
 s6 : Chain.At a 6 (p6)
 s9 : Chain.At a 9 (p9)
 s10 : Chain.At a 10 (p10)
 s11 : Chain.At a 11 (p11)
 s12 : Chain.At a 12 (p12)
 s13 : Chain.At a 13 (p13)
 s14 : Chain.At a 14 (p14)
 s15 : Chain.At a 15 (p15)
 s16 : Chain.At a 16 (p16)
 s17 : Chain.At a 17 (p17)
 s18 : Chain.At a 18 (p18)
 s19 : Chain.At a 19 (p19)
 s20 : Chain.At a 20 (p20)
 s21 : Chain.At a 21 (p21)
 s22 : Chain.At a 22 (p22)
 s23 : Chain.At a 23 (p23)
 s24 : Chain.At a 24 (p24)
 s25 : Chain.At a 25 (p25)
 s26 : Chain.At a 26 (p26)
 s27 : Chain.At a 27 (p27)
 s28 : Chain.At a 28 (p28)
 s29 : Chain.At a 29 (p29)
 s30 : Chain.At a 30 (p30)
 s31 : Chain.At a 31 (p31)
 s32 : Chain.At a 32 (p32)
 s33 : Chain.At a 33 (p33)
 s47 : Chain.At a 47 (p47)
 s7 : Chain.At a 7 (.slice (some ⟨g, 0, none⟩) cnt cnt)
theorem RepFr.next {g cnt : Nat} {p0 p1 p2 p3 p4 p5 p6 p9 p10 p11 p12 p13 p14 p15 p16 p17 p18 p19 p20 p21 p22 p23 p24 p25 p26 p27 p28 p29 p30 p31 p32 p33 p47 : Value} {a a' : Act} {d : Nat} {v : Value} (F : RepFr g cnt p0 p1 p2 p3 p4 p5 p6 p9 p10 p11 p12 p13 p14 p15 p16 p17 p18 p19 p20 p21 p22 p23 p24 p25 p26 p27 p28 p29 p30 p31 p32 p33 p47 a) (nx : Chain.Next a a' d v) (h : d ≠ 0 ∧ d ≠ 1 ∧ d ≠ 2 ∧ d ≠ 3 ∧ d ≠ 4 ∧ d ≠ 5 ∧ d ≠ 6 ∧ d ≠ 9 ∧ d ≠ 10 ∧ d ≠ 11 ∧ d ≠ 12 ∧ d ≠ 13 ∧ d ≠ 14 ∧ d ≠ 15 ∧ d ≠ 16 ∧ d ≠ 17 ∧ d ≠ 18 ∧ d ≠ 19 ∧ d ≠ 20 ∧ d ≠ 21 ∧ d ≠ 22 ∧ d ≠ 23 ∧ d ≠ 24 ∧ d ≠ 25 ∧ d ≠ 26 ∧ d ≠ 27 ∧ d ≠ 28 ∧ d ≠ 29 ∧ d ≠ 30 ∧ d ≠ 31 ∧ d ≠ 32 ∧ d ≠ 33 ∧ d ≠ 47 ∧ d ≠ 7 := by decide) : RepFr g cnt p0 p1 p2 p3 p4 p5 p6 p9 p10 p11 p12 p13 p14 p15 p16 p17 p18 p19 p20 p21 p22 p23 p24 p25 p26 p27 p28 p29 p30 p31 p32 p33 p47 a' := ⟨nx.size.trans F.size, nx.defers.trans F.defers, nx.k F.s0 (by omega), nx.k F.s1 (by omega), nx.k F.s2 (by omega), nx.k F.s3 (by omega), nx.k F.s4 (by omega), nx.k F.s5 (by omega), nx.k F.s6 (by omega), nx.k F.s9 (by omega), nx.k F.s10 (by omega), nx.k F.s11 (by omega), nx.k F.s12 (by omega), nx.k F.s13 (by omega), nx.k F.s14 (by omega), nx.k F.s15 (by omega), nx.k F.s16 (by omega), nx.k F.s17 (by omega), nx.k F.s18 (by omega), nx.k F.s19 (by omega), nx.k F.s20 (by omega), nx.k F.s21 (by omega), nx.k F.s22 (by omega), nx.k F.s23 (by omega), nx.k F.s24 (by omega), nx.k F.s25 (by omega), nx.k F.s26 (by omega), nx.k F.s27 (by omega), nx.k F.s28 (by omega), nx.k F.s29 (by omega), nx.k F.s30 (by omega), nx.k F.s31 (by omega), nx.k F.s32 (by omega), nx.k F.s33 (by omega), nx.k F.s47 (by omega), nx.k F.s7 (by omega)⟩
theorem RepFr.lt {g cnt : Nat} {p0 p1 p2 p3 p4 p5 p6 p9 p10 p11 p12 p13 p14 p15 p16 p17 p18 p19 p20 p21 p22 p23 p24 p25 p26 p27 p28 p29 p30 p31 p32 p33 p47 : Value} {a : Act} {d : Nat} (F : RepFr g cnt p0 p1 p2 p3 p4 p5 p6 p9 p10 p11 p12 p13 p14 p15 p16 p17 p18 p19 p20 p21 p22 p23 p24 p25 p26 p27 p28 p29 p30 p31 p32 p33 p47 a) (h : d < 48 := by decide) : d < a.tmps.size := by rw [F.size]; exact h
theorem rep_round {ops : Array Oper} {Q : Exit → Act → World → Prop} (R : Ord.Reg ops repL) (hQ : Ord.HQ Q) {w1 w9 : World} {g cnt n d : Nat} {p0 p1 p2 p3 p4 p5 p6 p9 p10 p11 p12 p13 p14 p15 p16 p17 p18 p19 p20 p21 p22 p23 p24 p25 p26 p27 p28 p29 p30 p31 p32 p33 p47 : Value}
  (hni : (n : Int) ≤ (cnt : Int)) (hn0 : (0 : Int) ≤ (n : Int)) (hnl : n < cnt) (hsub : cnt - n ≠ 0) (hcn : cnt ≠ 0) (hsum : IntKind.i64.wrap ((n : Int) + (d : Int)) = (n : Int) + (d : Int))
  (CP : ∀ ty, (Builtin.copy_ #[22, 22] ty #[.slice (some ⟨g, n * 3, none⟩) (cnt - n) (cnt - n), .slice (some ⟨g, 0, none⟩) n cnt]).run Tryz.prog w1 = .ok (.int .i64 (d : Int)) w9)
  (a : Act) (F : RepFr g cnt p0 p1 p2 p3 p4 p5 p6 p9 p10 p11 p12 p13 p14 p15 p16 p17 p18 p19 p20 p21 p22 p23 p24 p25 p26 p27 p28 p29 p30 p31 p32 p33 p47 a) (f8 : Chain.At a 8 (.int .i64 (n : Int))) (h : ∀ a, RepFr g cnt p0 p1 p2 p3 p4 p5 p6 p9 p10 p11 p12 p13 p14 p15 p16 p17 p18 p19 p20 p21 p22 p23 p24 p25 p26 p27 p28 p29 p30 p31 p32 p33 p47 a → Chain.At a 8 (.int .i64 ((n + d : Nat) : Int)) → Q .normal a w9) :
  wpAnyH Tryz.prog .any ops Q (fun w' => w' = w1 ∨ w' = w9) 10 (List.replicate 10 false).toArray a w1 := by
 have hS : w1 = w1 ∨ w1 = w9 := .inl rfl
 refine Ord.tj R 0 (.int .i64 (n : Int)) (U10RepR 1) rfl hQ trivial hS (fun w _ hS => Chain.ev_move f8.ev) F.lt fun a0 N => ?_
 replace F := F.next N
 replace f8 := N.k f8
 have f38 := N.got
 clear N a
 refine Ord.tk R 1 (.slice (some ⟨g, 0, none⟩) cnt cnt) rfl hQ hS (fun w _ hS => Chain.ev_move F.s7.ev) F.lt fun a1 N => ?_
 replace F := F.next N
 replace f8 := N.k f8
 replace f38 := N.k f38
 have f39 := N.got
 clear N a0
 refine Ord.tk R 2 (.int .i64 (n : Int)) rfl hQ hS (fun w _ hS => Chain.ev_move f8.ev) F.lt fun a2 N => ?_
 replace F := F.next N
 replace f8 := N.k f8
 replace f38 := N.k f38
 replace f39 := N.k f39
 have f40 := N.got
 clear N a1
 refine Ord.tk R 3 (.slice (some ⟨g, n * 3, none⟩) (cnt - n) (cnt - n)) rfl hQ hS (fun w _ hS => by have e39 := f39.u; have e40 := f40.u; have q0 := hni; have q1 := hn0; have q2 := hnl; have q3 := hsub; clear F; go_simp; omega) F.lt fun a3 N => ?_
 replace F := F.next N
 replace f8 := N.k f8
 replace f38 := N.k f38
 clear f39
 clear f40
 have f41 := N.got
 clear N a2
 refine Ord.tk R 4 (.slice (some ⟨g, 0, none⟩) cnt cnt) rfl hQ hS (fun w _ hS => Chain.ev_move F.s7.ev) F.lt fun a4 N => ?_
 replace F := F.next N
 replace f8 := N.k f8
 replace f38 := N.k f38
 replace f41 := N.k f41
 have f42 := N.got
 clear N a3
 refine Ord.tk R 5 (.int .i64 (n : Int)) rfl hQ hS (fun w _ hS => Chain.ev_move f8.ev) F.lt fun a5 N => ?_
 replace F := F.next N
 replace f8 := N.k f8
 replace f38 := N.k f38
 replace f41 := N.k f41
 replace f42 := N.k f42
 have f43 := N.got
 clear N a4
 refine Ord.tk R 6 (.slice (some ⟨g, 0, none⟩) n cnt) rfl hQ hS (fun w _ hS => by have e42 := f42.u; have e43 := f43.u; have q0 := hni; have q1 := hn0; have q2 := hnl; have q3 := hcn; clear F; go_simp) F.lt fun a6 N => ?_
 replace F := F.next N
 replace f8 := N.k f8
 replace f38 := N.k f38
 replace f41 := N.k f41
 clear f42
 clear f43
 have f44 := N.got
 clear N a5
 refine Ord.value R (k := 7) (v := .int .i64 (d : Int)) (w1 := w9) (bs' := U10RepR 8) rfl (by kernel_rfl) trivial (show w9 = w1 ∨ w9 = w9 from .inr rfl) (fun _ => by have e41 := f41.u; have e44 := f44.u; have q0 := CP; clear F; go_simp) F.lt fun a7 N => ?_
 replace hS := (show w9 = w1 ∨ w9 = w9 from .inr rfl)
 replace F := F.next N
 replace f8 := N.k f8
 replace f38 := N.k f38
 clear f41
 clear f44
 have f45 := N.got
 clear N a6
 refine Ord.tk R 8 (.int .i64 ((n + d : Nat) : Int)) rfl hQ hS (fun w _ hS => by have e38 := f38.u; have e45 := f45.u; have q0 := hsum; clear F; go_simp) F.lt fun a8 N => ?_
 replace F := F.next N
 replace f8 := N.k f8
 clear f38
 clear f45
 have f46 := N.got
 clear N a7
 refine Ord.tk R 9 (.int .i64 ((n + d : Nat) : Int)) rfl hQ hS (fun w _ hS => Chain.ev_assign f46.ev) F.lt fun a9 N => ?_
 replace F := F.next N
 clear f8
 clear f46
 have f8 := N.got
 clear N a8
 exact Ord.finish R (by kernel_rfl) (h _ F f8)
theorem rep_frame {a : Act} {w : World} {K : Act → World → Prop} {v0 v1 v2 v3 v4 v5 v6 v7 v8 v9 v10 v11 v12 v13 v14 v15 v16 v17 v18 v19 v20 v21 v22 v23 v24 v25 v26 v27 v28 v29 v30 v31 v32 v33 v47 : Value} (hz : a.tmps.size = 48) (hd : a.defers = []) (f0 : Chain.At a 0 v0) (f1 : Chain.At a 1 v1) (f2 : Chain.At a 2 v2) (f3 : Chain.At a 3 v3) (f4 : Chain.At a 4 v4) (f5 : Chain.At a 5 v5) (f6 : Chain.At a 6 v6) (f7 : Chain.At a 7 v7) (f8 : Chain.At a 8 v8) (f9 : Chain.At a 9 v9) (f10 : Chain.At a 10 v10) (f11 : Chain.At a 11 v11) (f12 : Chain.At a 12 v12) (f13 : Chain.At a 13 v13) (f14 : Chain.At a 14 v14) (f15 : Chain.At a 15 v15) (f16 : Chain.At a 16 v16) (f17 : Chain.At a 17 v17) (f18 : Chain.At a 18 v18) (f19 : Chain.At a 19 v19) (f20 : Chain.At a 20 v20) (f21 : Chain.At a 21 v21) (f22 : Chain.At a 22 v22) (f23 : Chain.At a 23 v23) (f24 : Chain.At a 24 v24) (f25 : Chain.At a 25 v25) (f26 : Chain.At a 26 v26) (f27 : Chain.At a 27 v27) (f28 : Chain.At a 28 v28) (f29 : Chain.At a 29 v29) (f30 : Chain.At a 30 v30) (f31 : Chain.At a 31 v31) (f32 : Chain.At a 32 v32) (f33 : Chain.At a 33 v33) (f47 : Chain.At a 47 v47)
  (h : ∀ u34 u35 u36 u37 u38 u39 u40 u41 u42 u43 u44 u45 u46 : Value, K ⟨#[v0, v1, v2, v3, v4, v5, v6, v7, v8, v9, v10, v11, v12, v13, v14, v15, v16, v17, v18, v19, v20, v21, v22, v23, v24, v25, v26, v27, v28, v29, v30, v31, v32, v33, u34, u35, u36, u37, u38, u39, u40, u41, u42, u43, u44, u45, u46, v47], []⟩ w) : K a w := by
 have e := Ord.frame_gets hz hd
 simp only [Ord.gets, Nat.reduceAdd] at e
 rw [Ord.at_get f0, Ord.at_get f1, Ord.at_get f2, Ord.at_get f3, Ord.at_get f4, Ord.at_get f5, Ord.at_get f6, Ord.at_get f7, Ord.at_get f8, Ord.at_get f9, Ord.at_get f10, Ord.at_get f11, Ord.at_get f12, Ord.at_get f13, Ord.at_get f14, Ord.at_get f15, Ord.at_get f16, Ord.at_get f17, Ord.at_get f18, Ord.at_get f19, Ord.at_get f20, Ord.at_get f21, Ord.at_get f22, Ord.at_get f23, Ord.at_get f24, Ord.at_get f25, Ord.at_get f26, Ord.at_get f27, Ord.at_get f28, Ord.at_get f29, Ord.at_get f30, Ord.at_get f31, Ord.at_get f32, Ord.at_get f33, Ord.at_get f47] at e
 rw [e]
 exact h _ _ _ _ _ _ _ _ _ _ _ _ _
end Rw
namespace Rw
def noughts (n : Nat) : List Cel := List.replicate n (0, 0, 0)
theorem made_list (n : Nat) : (List.range (n * 3)).map (fun i => (#[Value.int .i32 0, .int .i64 0, .int .i64 0] : Array Value)[i % 3]!) = flat (noughts n) := by
 induction n with
 | zero => rfl
 | succ n ih =>
  have e : noughts (n + 1) = noughts n ++ [(0, 0, 0)] := by unfold noughts; rw [List.replicate_succ']
  have h0 : n * 3 % 3 = 0 := by omega
  have h1 : (n * 3 + 1) % 3 = 1 := by omega
  have h2 : (n * 3 + 1 + 1) % 3 = 2 := by omega
  rw [show (n + 1) * 3 = n * 3 + 1 + 1 + 1 by omega, List.range_succ, List.range_succ, List.range_succ, List.map_append, List.map_append, List.map_append, ih, e, flat_append]
  simp only [List.map_cons, List.map_nil, h0, h1, h2, List.append_assoc]
  rfl
theorem made_noughts (n : Nat) : madeCells #[.int .i32 0, .int .i64 0, .int .i64 0] (n * 3) = (flat (noughts n) ++ []).toArray := by
 rw [List.append_nil, ← made_list]
 apply Array.ext'
 simp [madeCells]
theorem noughts_length (n : Nat) : (noughts n).length = n := List.length_replicate
theorem filled_length {n cnt : Nat} (h : n ≤ cnt) : (blanksL n ++ noughts (cnt - n)).length = cnt := by rw [List.length_append, blanksL_length, noughts_length]; omega
theorem blanks_append (n d : Nat) : blanksL n ++ blanksL d = blanksL (n + d) := List.replicate_append_replicate
theorem fill_more {n d cnt : Nat} (h : n + d ≤ cnt) : putO (blanksL n ++ noughts (cnt - n)) n (blanksL d) = blanksL (n + d) ++ noughts (cnt - (n + d)) := by
 unfold putO
 have h1 : (blanksL n ++ noughts (cnt - n)).take n = blanksL n := by
  have := List.take_left (l₁ := blanksL n) (l₂ := noughts (cnt - n))
  rwa [blanksL_length] at this
 have h2 : (blanksL n ++ noughts (cnt - n)).drop (n + d) = noughts (cnt - (n + d)) := by
  rw [List.drop_append, blanksL_length, List.drop_of_length_le (by rw [blanksL_length]; omega), List.nil_append]
  unfold noughts
  rw [List.drop_replicate]
  congr 1
  omega
 rw [h1, blanksL_length, h2, blanks_append]
abbrev Filled (w : World) (g n cnt : Nat) : Prop := RowIn' w g (blanksL n ++ noughts (cnt - n)) []
theorem repeat_walk (b0 cnt : Nat) (w : World) (hc : cnt ≤ 1000000) (h0 : w.heap[b0]? = some (.cells #[.int .i32 32, .int .i64 1, .int .i64 0] 33 (0, 0))) :
  Calls Tryz.prog 68 #[.slice (some ⟨b0, 0, none⟩) 1 1, .int .i64 (cnt : Int)] w fun e w' => ∃ g, e = .returned (.slice (some ⟨g, 0, none⟩) cnt cnt) ∧ w.heap.size ≤ g ∧ RowIn' w' g (blanksL cnt) [] ∧ Below w.heap.size w w' := by
 obtain ⟨i0, hi0, hz0, hz1, hz2⟩ := info_parts infoCell
 have hc0 : (0 : Int) ≤ (cnt : Int) := by omega
 have MW := Lib.hid (Tryz.bits_Mul 1 cnt (by omega) (by omega) w)
 have e1 : 1 * cnt / 18446744073709551616 = 0 := by omega
 have e2 : 1 * cnt % 18446744073709551616 = cnt := by omega
 rw [e1, e2] at MW
 have H0 := Lib.hid h0
 have hw2 : IntKind.i64.wrap (cnt : Int) = (cnt : Int) := IntWalk.i64_in _ (by omega)
 clear h0 e1 e2
 go_enter Tryz.func68, Tryz.ntmps68
 go_wp2_with fail
 refine MW.out.mono ?_
 rintro e w2 ⟨rfl, hw⟩
 subst hw
 have hc63 : ¬ ((9223372036854775807 : Int) < (cnt : Int)) := by omega
 have MK := run_make w2 22 33 i0 (.agg #[.int .i32 0, .int .i64 0, .int .i64 0]) Tryz.underlying22 hi0 hz0 .i64 .i64 (cnt : Int) (cnt : Int) hc0 (Int.le_refl _) (by rw [hz2]; omega) (by omega)
 rw [hz1, Int.toNat_natCast] at MK
 have b3 := (Below.refl w2.heap.size w2).alloc (Nat.le_refl _) (.cells (madeCells (Value.agg #[.int .i32 0, .int .i64 0, .int .i64 0]).cells (cnt * 3)) 33)
 have R3 := Lib.hid (show RowIn' (w2.alloc (.cells (madeCells (Value.agg #[.int .i32 0, .int .i64 0, .int .i64 0]).cells (cnt * 3)) 33)) w2.heap.size (noughts cnt) [] from ⟨by rw [← made_noughts]; exact heap_alloc_new w2 _⟩)
 have S3 := Lib.hid (show (w2.alloc (.cells (madeCells (Value.agg #[.int .i32 0, .int .i64 0, .int .i64 0]).cells (cnt * 3)) 33)).heap[b0]? = some (.cells #[.int .i32 32, .int .i64 1, .int .i64 0] 33 (0, 0)) from (b3.block b0 (Array.getElem?_eq_some_iff.1 H0.out).1).trans H0.out)
 have B3 := Lib.hid b3
 obtain ⟨w3, hw3⟩ : ∃ w3, w2.alloc (.cells (madeCells (Value.agg #[.int .i32 0, .int .i64 0, .int .i64 0]).cells (cnt * 3)) 33) = w3 := ⟨_, rfl⟩
 rw [hw3] at MK B3 R3 S3
 obtain ⟨g, hg⟩ : ∃ g, w2.heap.size = g := ⟨_, rfl⟩
 have HG := Lib.hid hg
 rw [hg] at MK R3
 clear b3 hw3 MW hg
 obtain ⟨n1, hn1⟩ : ∃ n1, Nat.min 1 cnt = n1 := ⟨_, rfl⟩
 have hn1c : n1 ≤ cnt ∧ n1 ≤ 1 ∧ (0 < cnt → 0 < n1) := by
  have : Nat.min 1 cnt = min 1 cnt := rfl
  omega
 obtain ⟨hn1a, hn1b, hn1d⟩ := hn1c
 have CP := run_copy_three (P := Tryz.prog) w3 22 22 3 33 i0 g 0 cnt cnt ⟨b0, 0, none⟩ 1 1 _ 33 (flat (blanksL n1)) Tryz.underlying22 hi0 hz1 R3.out.heap (by rw [flat_length, blanksL_length, hn1]) (fun j u hu => by
  have hj := (List.getElem?_eq_some_iff.1 hu).1
  rw [flat_length, blanksL_length] at hj
  obtain rfl : n1 = 1 := by omega
  rw [add_at', cell_of_row _ b0 _ _ _ (0, 0) S3.out, Nat.zero_add]
  simpa [blanksL, flat] using hu) (by have h1 := flat_length (noughts cnt); have h2 := flat_length (blanksL n1); rw [noughts_length] at h1; rw [blanksL_length] at h2; simp; omega) (flat_one _)
 have R4 := Lib.hid (R3.out.copied (k := 0) (L := blanksL n1) (by rw [noughts_length, blanksL_length]; omega))
 obtain ⟨w4, hw4⟩ : ∃ w4, w3.setRow g ((flat (noughts cnt) ++ []).toArray.toList.take (0 * 3) ++ flat (blanksL n1) ++ (flat (noughts cnt) ++ []).toArray.toList.drop (0 * 3 + (flat (blanksL n1)).length)).toArray = w4 := ⟨_, rfl⟩
 have B4 := Lib.hid (show Below w2.heap.size w2 w4 by rw [← hw4]; exact B3.out.trans ((Turned.ofOnly (onlyRow g _ _)).toBelow B3.out.size (fun k hk e => by have := HG.out; omega)))
 rw [hw4] at R4
 rw [hn1, show (0 : Nat) = 0 * 3 by omega, hw4] at CP
 have F4 := Lib.hid (show Filled w4 g n1 cnt by
  have h := R4.out
  have e := fill_more (n := 0) (d := n1) (cnt := cnt) (by omega)
  rw [show blanksL 0 ++ noughts (cnt - 0) = noughts cnt from rfl, Nat.zero_add] at e
  rw [e] at h
  exact h)
 clear hw4 R3 R4 S3 B3
 go_wp2_with fail
 go_loopw [8] (fun v8 wr => ∃ n : Nat, v8 = .int .i64 n ∧ n ≤ cnt ∧ (0 < cnt → 0 < n) ∧ Hid (Filled wr g n cnt) ∧ Hid (Below w2.heap.size w2 wr)) (fun v8 _ => cnt - (intOf v8).toNat)
 case atStart => exact ⟨n1, rfl, hn1a, hn1d, F4, B4⟩
 case round =>
  obtain ⟨n, rfl, hn, hnp, FN, BN⟩ := hrel
  by_cases hlt : n < cnt
  ·have hnp := hnp (by omega)
   obtain ⟨d, hd⟩ : ∃ d, Nat.min n (cnt - n) = d := ⟨_, rfl⟩
   have hd' : d ≤ n ∧ n + d ≤ cnt ∧ 0 < d := by
    have : Nat.min n (cnt - n) = min n (cnt - n) := rfl
    omega
   obtain ⟨hd1, hd2, hd3⟩ := hd'
   have hni : (n : Int) < (cnt : Int) := by omega
   go_wp2_with fail
   have RD := Lib.hid (show RowIn' wr.drew g (blanksL n ++ noughts (cnt - n)) [] from ⟨FN.out.heap⟩)
   have fl := flat_length (blanksL n ++ noughts (cnt - n))
   rw [filled_length hn] at fl
   have fb := flat_length (blanksL d)
   rw [blanksL_length] at fb
   have CQ := fun ty => run_copy_three (P := Tryz.prog) wr.drew 22 22 ty 33 i0 g (n * 3) (cnt - n) (cnt - n) ⟨g, 0, none⟩ n cnt _ 33 (flat (blanksL d)) Tryz.underlying22 hi0 hz1 RD.out.heap (by rw [fb, hd]) (fun j u hu => by
    have hj := (List.getElem?_eq_some_iff.1 hu).1
    rw [add_at', cell_of_row _ g _ _ _ (0, 0) RD.out.heap, Nat.zero_add]
    have hfn := flat_length (blanksL n)
    rw [blanksL_length] at hfn
    rw [List.append_nil, List.getElem?_toArray, flat_append, List.getElem?_append_left (by omega)]
    have e : blanksL n = blanksL d ++ blanksL (n - d) := by rw [blanks_append]; congr 1; omega
    rw [e, flat_append, List.getElem?_append_left hj]
    exact hu) (by simp only [List.append_nil, List.size_toArray]; omega) (flat_one _)
   have R9 := Lib.hid (RD.out.copied (k := n) (L := blanksL d) (by rw [filled_length hn, blanksL_length]; exact hd2))
   obtain ⟨w9, hw9⟩ : ∃ w9, wr.drew.setRow g ((flat (blanksL n ++ noughts (cnt - n)) ++ []).toArray.toList.take (n * 3) ++ flat (blanksL d) ++ (flat (blanksL n ++ noughts (cnt - n)) ++ []).toArray.toList.drop (n * 3 + (flat (blanksL d)).length)).toArray = w9 := ⟨_, rfl⟩
   have B9 := Lib.hid (show Below w2.heap.size w2 w9 by rw [← hw9]; exact BN.out.drew.trans ((Turned.ofOnly (onlyRow g _ _)).toBelow BN.out.drew.size (fun k hk e => by have := HG.out; omega)))
   rw [hw9, fill_more hd2] at R9
   rw [hw9, hd] at CQ
   have hsum : IntKind.i64.wrap ((n : Int) + (d : Int)) = (n : Int) + (d : Int) := IntWalk.i64_in _ (by omega)
   refine Ord.start (S := fun w' => w' = wr.drew ∨ w' = w9) (n := 10) (by kernel_rfl) (by kernel_rfl) (.inl rfl) ?_
   apply rep_round (w1 := wr.drew) (w9 := w9) (g := g) (cnt := cnt) (n := n) (d := d) (p0 := .slice (some ⟨b0, 0, none⟩) 1 1) (p1 := .int .i64 (cnt : Int)) (p2 := undef) (p3 := undef) (p4 := .slice none 0 0) (p5 := .int .u64 0) (p6 := .int .u64 (cnt : Int)) (p9 := .int .i64 (cnt : Int)) (p10 := .bool (decide ((cnt : Int) < 0))) (p11 := undef) (p12 := .tuple #[.int .u64 0, .int .u64 (cnt : Int)]) (p13 := .slice (some ⟨b0, 0, none⟩) 1 1) (p14 := .int .i64 1) (p15 := .int .u64 1) (p16 := .int .i64 (cnt : Int)) (p17 := .int .u64 (cnt : Int)) (p18 := .tuple #[.int .u64 0, .int .u64 (cnt : Int)]) (p19 := .int .u64 0) (p20 := .int .u64 (cnt : Int)) (p21 := .int .u64 0) (p22 := .bool false) (p23 := .bool false) (p24 := .int .u64 (cnt : Int)) (p25 := .bool (decide ((9223372036854775807 : Int) < (cnt : Int)))) (p26 := .bool (decide ((9223372036854775807 : Int) < (cnt : Int)))) (p27 := undef) (p28 := .int .u64 (cnt : Int)) (p29 := .int .i64 (cnt : Int)) (p30 := .slice (some ⟨g, 0, none⟩) cnt cnt) (p31 := .slice (some ⟨g, 0, none⟩) cnt cnt) (p32 := .slice (some ⟨b0, 0, none⟩) 1 1) (p33 := .int .i64 (n1 : Int)) (p47 := undef)
   case R => exact ⟨by kernel_rfl, by kernel_rfl⟩
   case hQ => exact fun _ _ _ _ _ h => h
   case hni => omega
   case hn0 => omega
   case hnl => exact hlt
   case hsub => omega
   case hcn => omega
   case hsum => exact hsum
   case CP => exact CQ
   case F => exact ⟨rfl, rfl, rfl, rfl, rfl, rfl, rfl, rfl, rfl, rfl, rfl, rfl, rfl, rfl, rfl, rfl, rfl, rfl, rfl, rfl, rfl, rfl, rfl, rfl, rfl, rfl, rfl, rfl, rfl, rfl, rfl, rfl, rfl, rfl, rfl, rfl⟩
   case f8 => rfl
   intro a2 F2 f8
   refine rep_frame F2.size F2.defers F2.s0 F2.s1 F2.s2 F2.s3 F2.s4 F2.s5 F2.s6 F2.s7 f8 F2.s9 F2.s10 F2.s11 F2.s12 F2.s13 F2.s14 F2.s15 F2.s16 F2.s17 F2.s18 F2.s19 F2.s20 F2.s21 F2.s22 F2.s23 F2.s24 F2.s25 F2.s26 F2.s27 F2.s28 F2.s29 F2.s30 F2.s31 F2.s32 F2.s33 F2.s47 ?_
   intros
   clear F2 f8 CQ
   try dsimp only
   go_wp2
   go_roundw
   case rel => exact ⟨n + d, by first | rfl | (congr 1; done) | (congr 1; omega), hd2, fun _ => by omega, R9, B9⟩
   case measure => first | (simp [intOf]; done) | (simp [intOf]; omega)
  ·obtain rfl : n = cnt := by omega
   have DN := Lib.hid (show RowIn' wr g (blanksL n) [] by
    have h := FN.out
    unfold Filled at h
    rw [Nat.sub_self] at h
    simpa [noughts] using h)
   go_wp2
   go_ret
   exact ⟨g, rfl, Nat.le_of_eq HG.out, DN.out, BN.out⟩
theorem blanks_walk (cnt : Nat) (w : World) (hc : cnt ≤ 1000000) :
  Calls Tryz.prog 37 #[.int .i64 (cnt : Int)] w fun e w' => ∃ g, e = .returned (.slice (some ⟨g, 0, none⟩) cnt cnt) ∧ w.heap.size ≤ g ∧ RowIn' w' g (blanksL cnt) [] ∧ Below w.heap.size w w' := by
 have BW := Lib.hid (blank_walk w)
 go_enter Tryz.func37, Tryz.ntmps37
 go_wp2_with fail
 refine BW.out.mono ?_
 rintro e w2 ⟨rfl, b2⟩
 have B2 := Lib.hid b2
 have b3 := (Below.refl w2.heap.size w2).alloc (Nat.le_refl _) (.cells #[.int .i32 32, .int .i64 1, .int .i64 0] 33)
 have RW := Lib.hid (repeat_walk w2.heap.size cnt (w2.alloc (.cells #[.int .i32 32, .int .i64 1, .int .i64 0] 33)) hc (heap_alloc_new w2 _))
 have B3 := Lib.hid b3
 clear b2 b3 BW
 go_wp2_with fail
 refine RW.out.mono ?_
 rintro e w4 ⟨g, rfl, hg, r4, b4⟩
 have B34 := B3.out.trans (b4.mono B3.out.size)
 have DN := Lib.hid (And.intro (show w.heap.size ≤ g from Nat.le_trans B2.out.size (Nat.le_trans B3.out.size hg)) (And.intro r4 (B2.out.trans (B34.mono B2.out.size))))
 clear hg r4 b4 RW B34
 go_wp2
 go_ret
 exact ⟨g, rfl, DN.out⟩
end Rw
