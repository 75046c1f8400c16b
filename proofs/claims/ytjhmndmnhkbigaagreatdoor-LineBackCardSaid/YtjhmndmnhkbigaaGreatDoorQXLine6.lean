/-
  LineBack: the one line that is joined again, held against the line trimmed, step by step. The statements' own way to hold lists of lines against each other.
-/
import Derived.Test.YtjhmndmnhkbigaaGreatDoorQXLine3
import Derived.Test.YtjhmndmnhkbigaaGreatDoorQXLine1
import Derived.Test.YtjhmndmnhkbigaaGreatDoorQXBase1
namespace Go.Proofs.YtjhmndmnhkbigaaGreatDoor
open Go.ChangeShapes Go.WideShapes Go.ChangeAt Go.RowKit
namespace Ln
open Rw
def bkL : List Ord.Line := [
 (some 33, Go.Op.move (Go.Operand.tmp 7), none, []),
 (some 34, Go.Op.call { callee := Go.Callee.builtin Go.Builtin.len, args := #[Go.Operand.tmp 33], argTypes := #[23] }, none, [0]),
 (some 35, Go.Op.binOp Go.BinOp.neq 3 (Go.Operand.tmp 34) (Go.Operand.const (Go.Value.int Go.IntKind.i64 1)) 3, none, [1]),
 (some 36, Go.Op.move (Go.Operand.tmp 35), none, [2]),
 (some 37, Go.Op.move (Go.Operand.tmp 7), some (3, false), [3]),
 (some 38, Go.Op.indexAddr 23 (Go.Operand.tmp 37) (Go.Operand.const (Go.Value.int Go.IntKind.i64 0)), some (3, false), [4, 3]),
 (some 39, Go.Op.load 41 (Go.Operand.tmp 38), some (3, false), [5, 3]),
 (some 40, Go.Op.move (Go.Operand.tmp 0), some (3, false), [3]),
 (some 41, Go.Op.call { callee := Go.Callee.value (Go.Operand.func 27), args := #[Go.Operand.tmp 40], argTypes := #[41] }, some (3, false), [7, 3, 3]),
 (some 42, Go.Op.call { callee := Go.Callee.value (Go.Operand.func 24), args := #[Go.Operand.tmp 39, Go.Operand.tmp 41], argTypes := #[41, 41] }, some (3, false), [6, 8, 8, 3]),
 (some 43, Go.Op.unOp Go.UnOp.not 4 (Go.Operand.tmp 42), some (3, false), [9, 3]),
 (some 44, Go.Op.pick (Go.Operand.tmp 36) (Go.Operand.const (Go.Value.bool true)) (Go.Operand.tmp 43), none, [3, 10])]
structure BkFr (A : Option Addr) (n c b7 o7 c7 : Nat) (a0 a : Act) : Prop where
 size : a.tmps.size = 80
 s0 : Chain.At a 0 (.slice A n c)
 s7 : Chain.At a 7 (.slice (some ⟨b7, o7, none⟩) 1 c7)
 fr : Fr 33 44 a0 a
theorem BkFr.next {A : Option Addr} {n c b7 o7 c7 : Nat} {a0 a a' : Act} {d : Nat} {v : Value} (F : BkFr A n c b7 o7 c7 a0 a) (nx : Chain.Next a a' d v) (h : 33 ≤ d ∧ d ≤ 44) : BkFr A n c b7 o7 c7 a0 a' := ⟨nx.size.trans F.size, nx.keep 0 _ (by omega) F.s0, nx.keep 7 _ (by omega) F.s7, F.fr.next nx h⟩
theorem BkFr.lt {A : Option Addr} {n c b7 o7 c7 : Nat} {a0 a : Act} {d : Nat} (F : BkFr A n c b7 o7 c7 a0 a) (h : d < 80) : d < a.tmps.size := by rw [F.size]; exact h
set_option maxRecDepth 100000 in
set_option maxHeartbeats 3200000 in
theorem bk_region {ops : Array Oper} {Q : Exit → Act → World → Prop} (R : Ord.Reg ops bkL) (hQ : ∀ c a w d v, Q (.panic c) (Act.put a (some d) v) w → Q (.panic c) a w) {w1 : World} {A AJ : Option Addr} {n c b7 o7 c7 nJ cJ : Nat} {P1 : World → Value → Prop} {P2 : World → Prop}
  (k0 : ∀ w : World, Below w1.heap.size w1 w → w.cell? ⟨b7, o7, none⟩ = some (.slice AJ nJ cJ))
  (C1 : Calls Tryz.prog 27 #[.slice A n c] w1 fun e w' => ∃ v, e = .returned v ∧ P1 w' v)
  (C2 : ∀ w v, P1 w v → Calls Tryz.prog 24 #[.slice AJ nJ cJ, v] w fun e w' => e = .returned (.bool true) ∧ P2 w')
  (KS1 : ∀ w v, P1 w v → Below w1.heap.size w1 w) (KS2 : ∀ w, P2 w → Below w1.heap.size w1 w)
  (a0 a : Act) (F : BkFr A n c b7 o7 c7 a0 a) (h : ∀ a w, P2 w → BkFr A n c b7 o7 c7 a0 a → Chain.At a 44 (.bool false) → Q .normal a w) :
  wpAnyH Tryz.prog .any ops Q (fun w => Below w1.heap.size w1 w) 12 (List.replicate 12 false).toArray a w1 := by
 have hS : Below w1.heap.size w1 w1 := Below.refl _ _
 refine Ord.take R (k := 0) (v := .slice (some ⟨b7, o7, none⟩) 1 c7) (bs' := (Ord.upto 1 12)) rfl (by kernel_rfl) hQ trivial hS (fun w _ hS => Chain.ev_move F.s7.ev) (F.lt (by decide)) fun a0 N => ?_
 replace F := F.next N (by decide)
 have f33 := N.got
 clear N a
 refine Ord.take R (k := 1) (v := .int .i64 1) (bs' := (Ord.upto 2 12)) rfl (by kernel_rfl) hQ trivial hS (fun w _ hS => by have e33 := f33; unfold Chain.At at e33; clear F; go_simp) (F.lt (by decide)) fun a1 N => ?_
 replace F := F.next N (by decide)
 clear f33
 have f34 := N.got
 clear N a0
 refine Ord.take R (k := 2) (v := .bool false) (bs' := (Ord.upto 3 12)) rfl (by kernel_rfl) hQ trivial hS (fun w _ hS => by have e34 := f34; unfold Chain.At at e34; clear F; go_simp) (F.lt (by decide)) fun a2 N => ?_
 replace F := F.next N (by decide)
 clear f34
 have f35 := N.got
 clear N a1
 refine Ord.take R (k := 3) (v := .bool false) (bs' := (Ord.upto 4 12)) rfl (by kernel_rfl) hQ trivial hS (fun w _ hS => Chain.ev_move f35.ev) (F.lt (by decide)) fun a3 N => ?_
 replace F := F.next N (by decide)
 clear f35
 have f36 := N.got
 clear N a2
 refine Ord.take R (k := 4) (v := .slice (some ⟨b7, o7, none⟩) 1 c7) (bs' := (Ord.upto 5 12)) rfl (by kernel_rfl) hQ (R.opened (j := 3) rfl f36) hS (fun w _ hS => Chain.ev_move F.s7.ev) (F.lt (by decide)) fun a4 N => ?_
 replace F := F.next N (by decide)
 replace f36 := N.keep 36 _ (by decide) f36
 have f37 := N.got
 clear N a3
 refine Ord.take R (k := 5) (v := .pointer (some ⟨b7, o7, none⟩)) (bs' := (Ord.upto 6 12)) rfl (by kernel_rfl) hQ (R.opened (j := 3) rfl f36) hS (fun w _ hS => by have e37 := f37; unfold Chain.At at e37; clear F; go_simp) (F.lt (by decide)) fun a5 N => ?_
 replace F := F.next N (by decide)
 replace f36 := N.keep 36 _ (by decide) f36
 clear f37
 have f38 := N.got
 clear N a4
 refine Ord.take R (k := 6) (v := .slice AJ nJ cJ) (bs' := (Ord.upto 7 12)) rfl (by kernel_rfl) hQ (R.opened (j := 3) rfl f36) hS (fun w _ hS => by have e38 := f38; unfold Chain.At at e38; have q0 := (k0 w hS); clear F; go_simp) (F.lt (by decide)) fun a6 N => ?_
 replace F := F.next N (by decide)
 replace f36 := N.keep 36 _ (by decide) f36
 clear f38
 have f39 := N.got
 clear N a5
 refine Ord.take R (k := 7) (v := .slice A n c) (bs' := (Ord.upto 8 12)) rfl (by kernel_rfl) hQ (R.opened (j := 3) rfl f36) hS (fun w _ hS => Chain.ev_move F.s0.ev) (F.lt (by decide)) fun a7 N => ?_
 replace F := F.next N (by decide)
 replace f36 := N.keep 36 _ (by decide) f36
 replace f39 := N.keep 39 _ (by decide) f39
 have f40 := N.got
 clear N a6
 refine Ord.call R (k := 8) (args := #[.slice A n c]) (bs' := (Ord.upto 9 12)) rfl (by kernel_rfl) (R.opened (j := 3) rfl f36) (by simp [f40.ev]) (by kernel_rfl) (C1) (F.lt (by decide)) ?_
 rintro e w ⟨v, rfl, K1⟩
 replace hS := KS1 w v K1
 refine ⟨_, rfl, hS, fun a8 N => ?_⟩
 replace F := F.next N (by decide)
 replace f36 := N.keep 36 _ (by decide) f36
 replace f39 := N.keep 39 _ (by decide) f39
 clear f40
 have f41 := N.got
 clear N a7
 refine Ord.call R (k := 9) (args := #[.slice AJ nJ cJ, v]) (bs' := (Ord.upto 10 12)) rfl (by kernel_rfl) (R.opened (j := 3) rfl f36) (by simp [f39.ev, f41.ev]) (by kernel_rfl) (C2 w v K1) (F.lt (by decide)) ?_
 rintro e w ⟨rfl, K2⟩
 replace hS := KS2 w K2
 refine ⟨_, rfl, hS, fun a9 N => ?_⟩
 replace F := F.next N (by decide)
 replace f36 := N.keep 36 _ (by decide) f36
 clear f39
 clear f41
 have f42 := N.got
 clear N a8
 refine Ord.take R (k := 10) (v := .bool false) (bs' := (Ord.upto 11 12)) rfl (by kernel_rfl) hQ (R.opened (j := 3) rfl f36) hS (fun w _ hS => by have e42 := f42; unfold Chain.At at e42; clear F; go_simp) (F.lt (by decide)) fun a10 N => ?_
 replace F := F.next N (by decide)
 replace f36 := N.keep 36 _ (by decide) f36
 clear f42
 have f43 := N.got
 clear N a9
 refine Ord.take R (k := 11) (v := .bool false) (bs' := (Ord.upto 12 12)) rfl (by kernel_rfl) hQ trivial hS (fun w _ hS => Ord.ev_pick_no f36.ev f43.ev) (F.lt (by decide)) fun a11 N => ?_
 replace F := F.next N (by decide)
 clear f36
 clear f43
 have f44 := N.got
 clear N a10
 exact Ord.finish R (by kernel_rfl) (h _ _ K2 F f44)
end Ln
end Go.Proofs.YtjhmndmnhkbigaaGreatDoor
namespace Go.Proofs.YtjhmndmnhkbigaaGreatDoor
open Go.ChangeShapes Go.WideShapes Go.ChangeAt Go.RowKit
namespace Ln
open Rw
structure Lrd (W : World) (B : Nat) (A : Option Addr) (n : Nat) (vs : List Value) (ls : List (List Cel)) : Prop where
 sq : Sq W B 1 n A vs
 len : ls.length = n
 each : ∀ (i : Nat) (x : Value) (l : List Cel), vs[i]? = some x → ls[i]? = some l → ∃ A' n' c', x = .slice A' n' c' ∧ n' ≤ c' ∧ Sq W B 3 n' A' (flat l) ∧ n' ≤ 1000000
theorem Lrd.below {W W' : World} {B n : Nat} {A : Option Addr} {vs : List Value} {ls : List (List Cel)} (h : Lrd W B A n vs ls) (hb : Below B W W') : Lrd W' B A n vs ls :=
 ⟨h.sq.below hb, h.len, fun i x l hx hl => by obtain ⟨A', n', c', e, hc, hq, hn⟩ := h.each i x l hx hl; exact ⟨A', n', c', e, hc, hq.below hb, hn⟩⟩
theorem Lrd.up {W : World} {B B' n : Nat} {A : Option Addr} {vs : List Value} {ls : List (List Cel)} (h : Lrd W B A n vs ls) (hb : B ≤ B') : Lrd W B' A n vs ls :=
 ⟨h.sq.up hb, h.len, fun i x l hx hl => by obtain ⟨A', n', c', e, hc, hq, hn⟩ := h.each i x l hx hl; exact ⟨A', n', c', e, hc, hq.up hb, hn⟩⟩
theorem one_at {W : World} {B n k : Nat} {A : Option Addr} {vs : List Value} {x : Value} (h : Sq W B 1 n A vs) (hx : vs[k]? = some x) (hk : k < n) : ∃ b off, A = some ⟨b, off, none⟩ ∧ b < B ∧ W.cell? ⟨b, off + k, none⟩ = some x := by
 obtain ⟨b, off, e, hb, hc⟩ := h.spot (by omega)
 exact ⟨b, off, e, hb, hc k x hx⟩
end Ln
end Go.Proofs.YtjhmndmnhkbigaaGreatDoor
