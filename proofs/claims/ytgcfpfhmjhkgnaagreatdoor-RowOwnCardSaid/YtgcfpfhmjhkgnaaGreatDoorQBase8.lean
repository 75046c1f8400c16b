/-
  RowOwn: what Set and Erase answer is laid in boxes.
-/
import Derived.Test.YtgcfpfhmjhkgnaaGreatDoorQBase5
import Derived.Test.YtgcfpfhmjhkgnaaGreatDoorQRefRow1
import Derived.Test.YtgcfpfhmjhkgnaaGreatDoorQRow1
import Derived.Test.YtgcfpfhmjhkgnaaGreatDoorQRow2
import Derived.Test.YtgcfpfhmjhkgnaaGreatDoorQBase4
namespace Go.Proofs.YtgcfpfhmjhkgnaaGreatDoor
open Go.ChangeShapes Go.WideShapes Go.ChangeAt Go.RowKit
namespace Rw
def own8L : List Ord.Line := [
 (some 31, Go.Op.load 24 (Go.Operand.tmp 3), none, []),
 (some 32, Go.Op.move (Go.Operand.tmp 1), none, []),
 (some 33, Go.Op.fieldAddr 24 (Go.Operand.tmp 3) 0, none, []),
 (some 34, Go.Op.load 22 (Go.Operand.tmp 33), none, [2]),
 (some 35, Go.Op.call { callee := Go.Callee.builtin Go.Builtin.len, args := #[Go.Operand.tmp 34], argTypes := #[22] }, none, [3]),
 (some 36, Go.Op.binOp Go.BinOp.rem 3 (Go.Operand.tmp 32) (Go.Operand.tmp 35) 3, none, [1, 4]),
 (some 37, Go.Op.move (Go.Operand.tmp 2), none, []),
 (some 38, Go.Op.call { callee := Go.Callee.value (Go.Operand.func 11), args := #[Go.Operand.tmp 37, Go.Operand.const (Go.Value.int Go.IntKind.i64 1)], argTypes := #[21, 3] }, none, [6]),
 (some 39, Go.Op.call { callee := Go.Callee.value (Go.Operand.func 10), args := #[Go.Operand.tmp 31, Go.Operand.tmp 36, Go.Operand.tmp 38], argTypes := #[24, 3, 22] }, none, [0, 5, 7, 7]),
 (some 30, Go.Op.move (Go.Operand.tmp 39), none, [8]),
 (some 40, Go.Op.extract (Go.Operand.tmp 30) 0, none, [9]),
 (some 41, Go.Op.extract (Go.Operand.tmp 30) 1, none, [9]),
 (some 9, Go.Op.alloc 24, none, []),
 (none, Go.Op.store 24 (Go.Operand.tmp 9) (Go.Operand.tmp 40), none, [12, 10, 8, 0, 1, 2, 3, 4, 5, 6, 7, 8, 9, 10, 12]),
 (some 10, Go.Op.assign (Go.Operand.tmp 41), none, [11, 13, 0, 1, 2, 3, 4, 5, 6, 7, 8, 9, 10, 11, 12, 13])]
def own9L : List Ord.Line := [
 (some 43, Go.Op.load 24 (Go.Operand.tmp 3), none, []),
 (some 44, Go.Op.move (Go.Operand.tmp 1), none, []),
 (some 45, Go.Op.fieldAddr 24 (Go.Operand.tmp 3) 0, none, []),
 (some 46, Go.Op.load 22 (Go.Operand.tmp 45), none, [2]),
 (some 47, Go.Op.call { callee := Go.Callee.builtin Go.Builtin.len, args := #[Go.Operand.tmp 46], argTypes := #[22] }, none, [3]),
 (some 48, Go.Op.binOp Go.BinOp.rem 3 (Go.Operand.tmp 44) (Go.Operand.tmp 47) 3, none, [1, 4]),
 (some 49, Go.Op.fieldAddr 24 (Go.Operand.tmp 3) 0, none, []),
 (some 50, Go.Op.load 22 (Go.Operand.tmp 49), none, [6]),
 (some 51, Go.Op.call { callee := Go.Callee.builtin Go.Builtin.len, args := #[Go.Operand.tmp 50], argTypes := #[22] }, none, [7]),
 (some 52, Go.Op.call { callee := Go.Callee.value (Go.Operand.func 12), args := #[Go.Operand.tmp 43, Go.Operand.tmp 48, Go.Operand.tmp 51], argTypes := #[24, 3, 3] }, none, [0, 5, 8]),
 (some 42, Go.Op.move (Go.Operand.tmp 52), none, [9]),
 (some 53, Go.Op.extract (Go.Operand.tmp 42) 0, none, [10]),
 (some 54, Go.Op.extract (Go.Operand.tmp 42) 1, none, [10]),
 (some 11, Go.Op.alloc 24, none, []),
 (none, Go.Op.store 24 (Go.Operand.tmp 11) (Go.Operand.tmp 53), none, [13, 11, 9, 0, 1, 2, 3, 4, 5, 6, 7, 8, 9, 10, 11, 13]),
 (some 12, Go.Op.assign (Go.Operand.tmp 54), none, [12, 14, 0, 1, 2, 3, 4, 5, 6, 7, 8, 9, 10, 11, 12, 13, 14])]
theorem celL_typed {w : World} {base : Nat} {v : Value} {l : List Cel} (h : HasC w base v l) : ∀ k, v.ownBlock = some k → Typed w 33 k := by
 intro k hk
 unfold HasC at h
 rcases h.2 with ⟨e, _⟩ | ⟨g, cap, cur, e, _, e3, _⟩
 ·rw [e] at hk; cases hk
 ·rw [e] at hk
  injection hk with hk
  subst hk
  exact ⟨_, _, e3⟩
structure Own8Fr (b0 : Nat) (y z : Int) (p8 : Value) (a : Act) : Prop where
 size : a.tmps.size = 103
 defers : a.defers = []
 s1 : Chain.At a 1 (.int .i64 y)
 s2 : Chain.At a 2 (.int .i32 z)
 s3 : Chain.At a 3 (.pointer (some ⟨b0, 0, none⟩))
 s8 : Chain.At a 8 (p8)
theorem Own8Fr.next {b0 : Nat} {y z : Int} {p8 : Value} {a a' : Act} {d : Nat} {v : Value} (F : Own8Fr b0 y z p8 a) (nx : Chain.Next a a' d v) (h : d ≠ 1 ∧ d ≠ 2 ∧ d ≠ 3 ∧ d ≠ 8) : Own8Fr b0 y z p8 a' := ⟨nx.size.trans F.size, nx.defers.trans F.defers, nx.keep 1 _ h.1 F.s1, nx.keep 2 _ h.2.1 F.s2, nx.keep 3 _ h.2.2.1 F.s3, nx.keep 8 _ h.2.2.2 F.s8⟩
theorem Own8Fr.lt {b0 : Nat} {y z : Int} {p8 : Value} {a : Act} {d : Nat} (F : Own8Fr b0 y z p8 a) (h : d < 103) : d < a.tmps.size := by rw [F.size]; exact h
set_option maxRecDepth 100000 in
theorem own8_great {ops : Array Oper} {Q : Exit → Act → World → Prop} (R : Ord.Reg ops own8L) (hQ : ∀ c a w d v, Q (.panic c) (Act.put a (some d) v) w → Q (.panic c) a w) {w0 : World} {A2 : Option Addr} {n c2 b0 m col : Nat} {y z : Int} {l : List Cel} {wr : Bool} {p8 : Value}
  (hsp : Spans w0) (hspz : 0 < w0.heap.size) (RR : RowAt w0 b0 (.slice A2 n c2) wr) (Q0 : Sq w0 w0.heap.size 3 n A2 (flat l)) (hl : ∀ c ∈ l, -2147483648 ≤ c.1 ∧ c.1 ≤ 2147483647) (hn : n ≤ 1000000) (hn0 : ¬ n = 0) (hcol : y.tmod (n : Int) = (col : Int)) (hcw : IntKind.i64.wrap (col : Int) = (col : Int)) (hlS : (setRes l (col : Int) (ofL z 1)).length = n)
  (hz : -2147483648 ≤ z ∧ z ≤ 2147483647) (hL : ∀ c ∈ ofL z 1, -2147483648 ≤ c.1 ∧ c.1 ≤ 2147483647) (hLm : (ofL z 1).length = m) (hm : m ≤ 1000000)
  (a : Act) (F : Own8Fr b0 y z p8 a)
  (h : ∀ a w g9 AV cV, Own8Fr b0 y z p8 a → Chain.At a 9 (.pointer (some ⟨g9, 0, none⟩)) → RowAt w g9 (.slice AV n cV) wr → HasC w w0.heap.size (.slice AV n cV) (setRes l (col : Int) (ofL z 1)) → Below w0.heap.size w0 w → w0.heap.size ≤ g9 → Q .normal a w) :
  wpAnyH Tryz.prog .any ops Q (fun w' => Below w0.heap.size w0 w') 15 (List.replicate 15 false).toArray a w0 := by
 have Bel := Below.refl w0.heap.size w0
 refine Ord.take R (k := 0) (v := .agg #[.slice A2 n c2, .bool wr]) (bs' := (Ord.upto 1 15)) rfl (by kernel_rfl) hQ trivial Bel (fun w _ hS => by have e3 := F.s3; unfold Chain.At at e3; have q0 := show w.cell? ⟨b0, 0, none⟩ = some (.slice A2 n c2) from (hS.cell (p := ⟨b0, 0, none⟩) RR.lt).trans (RR.get 0); have q1 := show w.cell? ⟨b0, 1, none⟩ = some (.bool wr) from (hS.cell (p := ⟨b0, 1, none⟩) RR.lt).trans (RR.get 1); clear F; go_simp) (F.lt (by decide)) fun a0 N => ?_
 replace F := F.next N (by simp)
 have f31 := N.got
 clear N
 refine Ord.take R (k := 1) (v := .int .i64 y) (bs' := (Ord.upto 2 15)) rfl (by kernel_rfl) hQ trivial Bel (fun w _ hS => Chain.ev_move F.s1.ev) (F.lt (by decide)) fun a1 N => ?_
 replace F := F.next N (by simp)
 replace f31 := N.keep 31 _ (by decide) f31
 have f32 := N.got
 clear N
 refine Ord.take R (k := 2) (v := .pointer (some ⟨b0, 0, none⟩)) (bs' := (Ord.upto 3 15)) rfl (by kernel_rfl) hQ trivial Bel (fun w _ hS => by have e3 := F.s3; unfold Chain.At at e3; clear F; go_simp) (F.lt (by decide)) fun a2 N => ?_
 replace F := F.next N (by simp)
 replace f31 := N.keep 31 _ (by decide) f31
 replace f32 := N.keep 32 _ (by decide) f32
 have f33 := N.got
 clear N
 refine Ord.take R (k := 3) (v := .slice A2 n c2) (bs' := (Ord.upto 4 15)) rfl (by kernel_rfl) hQ trivial Bel (fun w _ hS => by have e33 := f33; unfold Chain.At at e33; have q0 := show w.cell? ⟨b0, 0, none⟩ = some (.slice A2 n c2) from (hS.cell (p := ⟨b0, 0, none⟩) RR.lt).trans (RR.get 0); clear F; go_simp) (F.lt (by decide)) fun a3 N => ?_
 replace F := F.next N (by simp)
 replace f31 := N.keep 31 _ (by decide) f31
 replace f32 := N.keep 32 _ (by decide) f32
 clear f33
 have f34 := N.got
 clear N
 refine Ord.take R (k := 4) (v := .int .i64 (n : Int)) (bs' := (Ord.upto 5 15)) rfl (by kernel_rfl) hQ trivial Bel (fun w _ hS => by have e34 := f34; unfold Chain.At at e34; clear F; go_simp) (F.lt (by decide)) fun a4 N => ?_
 replace F := F.next N (by simp)
 replace f31 := N.keep 31 _ (by decide) f31
 replace f32 := N.keep 32 _ (by decide) f32
 clear f34
 have f35 := N.got
 clear N
 refine Ord.take R (k := 5) (v := .int .i64 (col : Int)) (bs' := (Ord.upto 6 15)) rfl (by kernel_rfl) hQ trivial Bel (fun w _ hS => by have e32 := f32; unfold Chain.At at e32; have e35 := f35; unfold Chain.At at e35; have q0 := hn0; have q1 := hcol; have q2 := hcw; clear F; go_simp) (F.lt (by decide)) fun a5 N => ?_
 replace F := F.next N (by simp)
 replace f31 := N.keep 31 _ (by decide) f31
 clear f32
 clear f35
 have f36 := N.got
 clear N
 refine Ord.take R (k := 6) (v := .int .i32 z) (bs' := (Ord.upto 7 15)) rfl (by kernel_rfl) hQ trivial Bel (fun w _ hS => Chain.ev_move F.s2.ev) (F.lt (by decide)) fun a6 N => ?_
 replace F := F.next N (by simp)
 replace f31 := N.keep 31 _ (by decide) f31
 replace f36 := N.keep 36 _ (by decide) f36
 have f37 := N.got
 clear N
 refine Ord.either R (i := 7) (j := 12) (bs1 := (Ord.upto 8 15)) (bs2 := [true, true, true, true, true, true, true, false, false, false, false, false, true, false, false]) (by kernel_rfl) ?_ ?_
 ·skip
  refine Ord.step_call R (k := 7) (args := #[.int .i32 z, .int .i64 1]) rfl trivial (by simp [f37.ev, Ord.ev_c]) (by kernel_rfl) (refCells_walk z 1 hz.1 hz.2 (by omega) (by omega) _) (F.lt (by decide)) ?_
  rintro e w ⟨vL, rfl, HL, b7⟩
  obtain ⟨AL, cL, rfl, _⟩ := HasC.shape HL
  rw [hLm] at HL ⊢
  replace Bel := Bel.trans (b7.mono Bel.size)
  clear b7
  refine ⟨_, rfl, Bel, fun a7 N => ?_⟩
  replace F := F.next N (by simp)
  replace f31 := N.keep 31 _ (by decide) f31
  replace f36 := N.keep 36 _ (by decide) f36
  clear f37
  have f38 := N.got
  clear N
  refine Ord.either R (i := 8) (j := 12) (bs1 := (Ord.upto 9 15)) (bs2 := [true, true, true, true, true, true, true, true, false, false, false, false, true, false, false]) (by kernel_rfl) ?_ ?_
  ·skip
   refine Ord.step_call R (k := 8) (args := #[.agg #[.slice A2 n c2, .bool wr], .int .i64 (col : Int), .slice AL m cL]) rfl trivial (by simp [f31.ev, f36.ev, f38.ev]) (by kernel_rfl) (rowSet_walk A2 n c2 wr l (col : Int) AL m cL (ofL z 1) _ (hsp.below Bel hspz) hl hL ((Q0.below Bel).up Bel.size) hn hm (HasC.sq HL)) (F.lt (by decide)) ?_
   rintro e w ⟨AV, nV, cV, rfl, V, b8⟩
   obtain rfl : n = nV := by
    obtain ⟨_, _, e, _⟩ := HasC.shape V
    injection e with _ e1 _
    rw [e1, hlS]
   replace V := HasC.mono V Bel.size
   replace Bel := Bel.trans (b8.mono Bel.size)
   clear b8 HL
   refine ⟨_, rfl, Bel, fun a8 N => ?_⟩
   replace F := F.next N (by simp)
   clear f31
   clear f36
   clear f38
   have f39 := N.got
   clear N
   refine Ord.take R (k := 9) (v := .tuple #[.agg #[.slice AV n cV, .bool wr], .bool (setOk l (col : Int) (ofL z 1))]) (bs' := (Ord.upto 10 15)) rfl (by kernel_rfl) hQ trivial Bel (fun w _ hS => Chain.ev_move f39.ev) (F.lt (by decide)) fun a9 N => ?_
   replace F := F.next N (by simp)
   clear f39
   have f30 := N.got
   clear N
   refine Ord.take R (k := 10) (v := .agg #[.slice AV n cV, .bool wr]) (bs' := (Ord.upto 11 15)) rfl (by kernel_rfl) hQ trivial Bel (fun w _ hS => by have e30 := f30; unfold Chain.At at e30; clear F; go_simp) (F.lt (by decide)) fun a10 N => ?_
   replace F := F.next N (by simp)
   replace f30 := N.keep 30 _ (by decide) f30
   have f40 := N.got
   clear N
   refine Ord.take R (k := 11) (v := .bool (setOk l (col : Int) (ofL z 1))) (bs' := (Ord.upto 12 15)) rfl (by kernel_rfl) hQ trivial Bel (fun w _ hS => by have e30 := f30; unfold Chain.At at e30; clear F; go_simp) (F.lt (by decide)) fun a11 N => ?_
   replace F := F.next N (by simp)
   clear f30
   replace f40 := N.keep 40 _ (by decide) f40
   have f41 := N.got
   clear N
   refine Ord.step_next R (k := 12) (bs' := (Ord.upto 13 15)) (by kernel_rfl) (Ord.step_value R (k := 12) (v := .pointer (some ⟨w.heap.size, 0, none⟩)) (w1 := w.alloc (.cells #[.slice none 0 0, .bool false] 24)) rfl trivial (Bel.alloc Bel.size _) (fun _ => by clear F; go_simp) (F.lt (by decide)) fun a13 N => ?_)
   obtain ⟨g9, hg9⟩ : ∃ g, w.heap.size = g := ⟨_, rfl⟩
   rw [hg9] at N
   have hge : w0.heap.size ≤ g9 := by rw [← hg9]; exact Bel.size
   have RA : RowAt (w.alloc (.cells #[.slice none 0 0, .bool false] 24)) g9 (.slice none 0 0) false := by rw [← hg9]; exact heap_alloc_new _ _
   replace V := HasC.keep (w' := w.alloc (.cells #[.slice none 0 0, .bool false] 24)) V (fun j e => Below.heap_alloc _ _ _ (HasC.lt V j e).2)
   replace Bel := Bel.alloc Bel.size (.cells #[.slice none 0 0, .bool false] 24)
   generalize w.alloc (.cells #[.slice none 0 0, .bool false] 24) = wa at Bel RA V ⊢
   clear hg9
   replace F := F.next N (by simp)
   replace f40 := N.keep 40 _ (by decide) f40
   replace f41 := N.keep 41 _ (by decide) f41
   have f9 := N.got
   clear N
   refine Ord.effect R (k := 13) (bs' := (Ord.upto 14 15)) (w1 := (wa.setCell ⟨g9, 0, none⟩ (.slice AV n cV)).setCell ⟨g9, 1, none⟩ (.bool wr)) rfl (by kernel_rfl) trivial ((Bel.setCell (p := ⟨g9, 0, none⟩) hge _).setCell (p := ⟨g9, 1, none⟩) hge _) (fun _ => by have e0 := f9; have e1 := f40; unfold Chain.At at e0 e1; have q0 : wa.cell? ⟨g9, 0, none⟩ = _ := RA.get 0; have q1 : wa.cell? ⟨g9, 1, none⟩ = _ := RA.get 1; have q2 := RA.free 0; have q3 := RA.free 1; clear F; go_simp) ?_
   have RN := RowAt.put2 RA (.slice AV n cV) wr
   have hne : ∀ j, (Value.slice AV n cV).ownBlock = some j → j ≠ g9 := fun j e e2 => by
    subst e2
    exact (celL_typed V j e).apart ⟨_, _, RA⟩ (by decide) rfl
   have V6 := HasC.keep (w' := (wa.setCell ⟨g9, 0, none⟩ (.slice AV n cV)).setCell ⟨g9, 1, none⟩ (.bool wr)) V (fun j e => by rw [Below.heap_setCell _ _ _ _ (by exact hne j e), Below.heap_setCell _ _ _ _ (by exact hne j e)])
   have BN : Below w0.heap.size w0 ((wa.setCell ⟨g9, 0, none⟩ (.slice AV n cV)).setCell ⟨g9, 1, none⟩ (.bool wr)) := (Bel.setCell (p := ⟨g9, 0, none⟩) hge _).setCell (p := ⟨g9, 1, none⟩) hge _
   generalize (wa.setCell ⟨g9, 0, none⟩ (.slice AV n cV)).setCell ⟨g9, 1, none⟩ (.bool wr) = wz at RN V6 BN ⊢
   replace Bel := BN
   refine Ord.take R (k := 14) (v := .bool (setOk l (col : Int) (ofL z 1))) (bs' := (Ord.upto 15 15)) rfl (by kernel_rfl) hQ trivial Bel (fun w _ hS => Chain.ev_assign f41.ev) (F.lt (by decide)) fun a14 N => ?_
   replace F := F.next N (by simp)
   replace f9 := N.keep 9 _ (by decide) f9
   clear f40
   clear f41
   clear N
   refine Ord.finish R (by kernel_rfl) ?_
   exact h _ _ _ _ _ F f9 RN V6 BN hge
  ·skip
   refine Ord.step_value R (k := 12) (v := .pointer (some ⟨w.heap.size, 0, none⟩)) (w1 := w.alloc (.cells #[.slice none 0 0, .bool false] 24)) rfl trivial (Bel.alloc Bel.size _) (fun _ => by clear F; go_simp) (F.lt (by decide)) fun a13 N => ?_
   obtain ⟨g9, hg9⟩ : ∃ g, w.heap.size = g := ⟨_, rfl⟩
   rw [hg9] at N
   have hge : w0.heap.size ≤ g9 := by rw [← hg9]; exact Bel.size
   have RA : RowAt (w.alloc (.cells #[.slice none 0 0, .bool false] 24)) g9 (.slice none 0 0) false := by rw [← hg9]; exact heap_alloc_new _ _
   replace HL := HasC.keep (w' := w.alloc (.cells #[.slice none 0 0, .bool false] 24)) HL (fun j e => Below.heap_alloc _ _ _ (HasC.lt HL j e).2)
   replace Bel := Bel.alloc Bel.size (.cells #[.slice none 0 0, .bool false] 24)
   generalize w.alloc (.cells #[.slice none 0 0, .bool false] 24) = wa at Bel RA HL ⊢
   clear hg9
   replace F := F.next N (by simp)
   replace f31 := N.keep 31 _ (by decide) f31
   replace f36 := N.keep 36 _ (by decide) f36
   replace f38 := N.keep 38 _ (by decide) f38
   have f9 := N.got
   clear N
   refine Ord.step_next R (k := 8) (bs' := [true, true, true, true, true, true, true, true, true, false, false, false, true, false, false]) (by kernel_rfl) (Ord.step_call R (k := 8) (args := #[.agg #[.slice A2 n c2, .bool wr], .int .i64 (col : Int), .slice AL m cL]) rfl trivial (by simp [f31.ev, f36.ev, f38.ev]) (by kernel_rfl) (rowSet_walk A2 n c2 wr l (col : Int) AL m cL (ofL z 1) _ (hsp.below Bel hspz) hl hL ((Q0.below Bel).up Bel.size) hn hm (HasC.sq HL)) (F.lt (by decide)) ?_)
   rintro e w ⟨AV, nV, cV, rfl, V, b8⟩
   obtain rfl : n = nV := by
    obtain ⟨_, _, e, _⟩ := HasC.shape V
    injection e with _ e1 _
    rw [e1, hlS]
   replace V := HasC.mono V Bel.size
   replace RA := (show RowAt w g9 (.slice none 0 0) false from (b8.block g9 RA.lt).trans RA)
   replace Bel := Bel.trans (b8.mono Bel.size)
   clear b8 HL
   refine ⟨_, rfl, Bel, fun a8 N => ?_⟩
   replace F := F.next N (by simp)
   replace f9 := N.keep 9 _ (by decide) f9
   clear f31
   clear f36
   clear f38
   have f39 := N.got
   clear N
   refine Ord.take R (k := 9) (v := .tuple #[.agg #[.slice AV n cV, .bool wr], .bool (setOk l (col : Int) (ofL z 1))]) (bs' := [true, true, true, true, true, true, true, true, true, true, false, false, true, false, false]) rfl (by kernel_rfl) hQ trivial Bel (fun w _ hS => Chain.ev_move f39.ev) (F.lt (by decide)) fun a9 N => ?_
   replace F := F.next N (by simp)
   replace f9 := N.keep 9 _ (by decide) f9
   clear f39
   have f30 := N.got
   clear N
   refine Ord.take R (k := 10) (v := .agg #[.slice AV n cV, .bool wr]) (bs' := [true, true, true, true, true, true, true, true, true, true, true, false, true, false, false]) rfl (by kernel_rfl) hQ trivial Bel (fun w _ hS => by have e30 := f30; unfold Chain.At at e30; clear F; go_simp) (F.lt (by decide)) fun a10 N => ?_
   replace F := F.next N (by simp)
   replace f9 := N.keep 9 _ (by decide) f9
   replace f30 := N.keep 30 _ (by decide) f30
   have f40 := N.got
   clear N
   refine Ord.take R (k := 11) (v := .bool (setOk l (col : Int) (ofL z 1))) (bs' := (Ord.upto 13 15)) rfl (by kernel_rfl) hQ trivial Bel (fun w _ hS => by have e30 := f30; unfold Chain.At at e30; clear F; go_simp) (F.lt (by decide)) fun a11 N => ?_
   replace F := F.next N (by simp)
   replace f9 := N.keep 9 _ (by decide) f9
   clear f30
   replace f40 := N.keep 40 _ (by decide) f40
   have f41 := N.got
   clear N
   refine Ord.effect R (k := 13) (bs' := (Ord.upto 14 15)) (w1 := (w.setCell ⟨g9, 0, none⟩ (.slice AV n cV)).setCell ⟨g9, 1, none⟩ (.bool wr)) rfl (by kernel_rfl) trivial ((Bel.setCell (p := ⟨g9, 0, none⟩) hge _).setCell (p := ⟨g9, 1, none⟩) hge _) (fun _ => by have e0 := f9; have e1 := f40; unfold Chain.At at e0 e1; have q0 : w.cell? ⟨g9, 0, none⟩ = _ := RA.get 0; have q1 : w.cell? ⟨g9, 1, none⟩ = _ := RA.get 1; have q2 := RA.free 0; have q3 := RA.free 1; clear F; go_simp) ?_
   have RN := RowAt.put2 RA (.slice AV n cV) wr
   have hne : ∀ j, (Value.slice AV n cV).ownBlock = some j → j ≠ g9 := fun j e e2 => by
    subst e2
    exact (celL_typed V j e).apart ⟨_, _, RA⟩ (by decide) rfl
   have V6 := HasC.keep (w' := (w.setCell ⟨g9, 0, none⟩ (.slice AV n cV)).setCell ⟨g9, 1, none⟩ (.bool wr)) V (fun j e => by rw [Below.heap_setCell _ _ _ _ (by exact hne j e), Below.heap_setCell _ _ _ _ (by exact hne j e)])
   have BN : Below w0.heap.size w0 ((w.setCell ⟨g9, 0, none⟩ (.slice AV n cV)).setCell ⟨g9, 1, none⟩ (.bool wr)) := (Bel.setCell (p := ⟨g9, 0, none⟩) hge _).setCell (p := ⟨g9, 1, none⟩) hge _
   generalize (w.setCell ⟨g9, 0, none⟩ (.slice AV n cV)).setCell ⟨g9, 1, none⟩ (.bool wr) = wz at RN V6 BN ⊢
   replace Bel := BN
   refine Ord.take R (k := 14) (v := .bool (setOk l (col : Int) (ofL z 1))) (bs' := (Ord.upto 15 15)) rfl (by kernel_rfl) hQ trivial Bel (fun w _ hS => Chain.ev_assign f41.ev) (F.lt (by decide)) fun a14 N => ?_
   replace F := F.next N (by simp)
   replace f9 := N.keep 9 _ (by decide) f9
   clear f40
   clear f41
   clear N
   refine Ord.finish R (by kernel_rfl) ?_
   exact h _ _ _ _ _ F f9 RN V6 BN hge
 ·skip
  refine Ord.step_value R (k := 12) (v := .pointer (some ⟨w0.heap.size, 0, none⟩)) (w1 := w0.alloc (.cells #[.slice none 0 0, .bool false] 24)) rfl trivial (Bel.alloc Bel.size _) (fun _ => by clear F; go_simp) (F.lt (by decide)) fun a13 N => ?_
  obtain ⟨g9, hg9⟩ : ∃ g, w0.heap.size = g := ⟨_, rfl⟩
  rw [hg9] at N
  have hge : w0.heap.size ≤ g9 := by rw [← hg9]; exact Bel.size
  have RA : RowAt (w0.alloc (.cells #[.slice none 0 0, .bool false] 24)) g9 (.slice none 0 0) false := by rw [← hg9]; exact heap_alloc_new _ _
  replace Bel := Bel.alloc Bel.size (.cells #[.slice none 0 0, .bool false] 24)
  generalize w0.alloc (.cells #[.slice none 0 0, .bool false] 24) = w at Bel RA ⊢
  clear hg9
  replace F := F.next N (by simp)
  replace f31 := N.keep 31 _ (by decide) f31
  replace f36 := N.keep 36 _ (by decide) f36
  replace f37 := N.keep 37 _ (by decide) f37
  have f9 := N.got
  clear N
  refine Ord.step_next R (k := 7) (bs' := [true, true, true, true, true, true, true, true, false, false, false, false, true, false, false]) (by kernel_rfl) (Ord.step_call R (k := 7) (args := #[.int .i32 z, .int .i64 1]) rfl trivial (by simp [f37.ev, Ord.ev_c]) (by kernel_rfl) (refCells_walk z 1 hz.1 hz.2 (by omega) (by omega) _) (F.lt (by decide)) ?_)
  rintro e w ⟨vL, rfl, HL, b7⟩
  obtain ⟨AL, cL, rfl, _⟩ := HasC.shape HL
  rw [hLm] at HL ⊢
  replace RA := (show RowAt w g9 (.slice none 0 0) false from (b7.block g9 RA.lt).trans RA)
  replace Bel := Bel.trans (b7.mono Bel.size)
  clear b7
  refine ⟨_, rfl, Bel, fun a7 N => ?_⟩
  replace F := F.next N (by simp)
  replace f9 := N.keep 9 _ (by decide) f9
  replace f31 := N.keep 31 _ (by decide) f31
  replace f36 := N.keep 36 _ (by decide) f36
  clear f37
  have f38 := N.got
  clear N
  refine Ord.step_next R (k := 8) (bs' := [true, true, true, true, true, true, true, true, true, false, false, false, true, false, false]) (by kernel_rfl) (Ord.step_call R (k := 8) (args := #[.agg #[.slice A2 n c2, .bool wr], .int .i64 (col : Int), .slice AL m cL]) rfl trivial (by simp [f31.ev, f36.ev, f38.ev]) (by kernel_rfl) (rowSet_walk A2 n c2 wr l (col : Int) AL m cL (ofL z 1) _ (hsp.below Bel hspz) hl hL ((Q0.below Bel).up Bel.size) hn hm (HasC.sq HL)) (F.lt (by decide)) ?_)
  rintro e w ⟨AV, nV, cV, rfl, V, b8⟩
  obtain rfl : n = nV := by
   obtain ⟨_, _, e, _⟩ := HasC.shape V
   injection e with _ e1 _
   rw [e1, hlS]
  replace V := HasC.mono V Bel.size
  replace RA := (show RowAt w g9 (.slice none 0 0) false from (b8.block g9 RA.lt).trans RA)
  replace Bel := Bel.trans (b8.mono Bel.size)
  clear b8 HL
  refine ⟨_, rfl, Bel, fun a8 N => ?_⟩
  replace F := F.next N (by simp)
  replace f9 := N.keep 9 _ (by decide) f9
  clear f31
  clear f36
  clear f38
  have f39 := N.got
  clear N
  refine Ord.take R (k := 9) (v := .tuple #[.agg #[.slice AV n cV, .bool wr], .bool (setOk l (col : Int) (ofL z 1))]) (bs' := [true, true, true, true, true, true, true, true, true, true, false, false, true, false, false]) rfl (by kernel_rfl) hQ trivial Bel (fun w _ hS => Chain.ev_move f39.ev) (F.lt (by decide)) fun a9 N => ?_
  replace F := F.next N (by simp)
  replace f9 := N.keep 9 _ (by decide) f9
  clear f39
  have f30 := N.got
  clear N
  refine Ord.take R (k := 10) (v := .agg #[.slice AV n cV, .bool wr]) (bs' := [true, true, true, true, true, true, true, true, true, true, true, false, true, false, false]) rfl (by kernel_rfl) hQ trivial Bel (fun w _ hS => by have e30 := f30; unfold Chain.At at e30; clear F; go_simp) (F.lt (by decide)) fun a10 N => ?_
  replace F := F.next N (by simp)
  replace f9 := N.keep 9 _ (by decide) f9
  replace f30 := N.keep 30 _ (by decide) f30
  have f40 := N.got
  clear N
  refine Ord.take R (k := 11) (v := .bool (setOk l (col : Int) (ofL z 1))) (bs' := (Ord.upto 13 15)) rfl (by kernel_rfl) hQ trivial Bel (fun w _ hS => by have e30 := f30; unfold Chain.At at e30; clear F; go_simp) (F.lt (by decide)) fun a11 N => ?_
  replace F := F.next N (by simp)
  replace f9 := N.keep 9 _ (by decide) f9
  clear f30
  replace f40 := N.keep 40 _ (by decide) f40
  have f41 := N.got
  clear N
  refine Ord.effect R (k := 13) (bs' := (Ord.upto 14 15)) (w1 := (w.setCell ⟨g9, 0, none⟩ (.slice AV n cV)).setCell ⟨g9, 1, none⟩ (.bool wr)) rfl (by kernel_rfl) trivial ((Bel.setCell (p := ⟨g9, 0, none⟩) hge _).setCell (p := ⟨g9, 1, none⟩) hge _) (fun _ => by have e0 := f9; have e1 := f40; unfold Chain.At at e0 e1; have q0 : w.cell? ⟨g9, 0, none⟩ = _ := RA.get 0; have q1 : w.cell? ⟨g9, 1, none⟩ = _ := RA.get 1; have q2 := RA.free 0; have q3 := RA.free 1; clear F; go_simp) ?_
  have RN := RowAt.put2 RA (.slice AV n cV) wr
  have hne : ∀ j, (Value.slice AV n cV).ownBlock = some j → j ≠ g9 := fun j e e2 => by
   subst e2
   exact (celL_typed V j e).apart ⟨_, _, RA⟩ (by decide) rfl
  have V6 := HasC.keep (w' := (w.setCell ⟨g9, 0, none⟩ (.slice AV n cV)).setCell ⟨g9, 1, none⟩ (.bool wr)) V (fun j e => by rw [Below.heap_setCell _ _ _ _ (by exact hne j e), Below.heap_setCell _ _ _ _ (by exact hne j e)])
  have BN : Below w0.heap.size w0 ((w.setCell ⟨g9, 0, none⟩ (.slice AV n cV)).setCell ⟨g9, 1, none⟩ (.bool wr)) := (Bel.setCell (p := ⟨g9, 0, none⟩) hge _).setCell (p := ⟨g9, 1, none⟩) hge _
  generalize (w.setCell ⟨g9, 0, none⟩ (.slice AV n cV)).setCell ⟨g9, 1, none⟩ (.bool wr) = wz at RN V6 BN ⊢
  replace Bel := BN
  refine Ord.take R (k := 14) (v := .bool (setOk l (col : Int) (ofL z 1))) (bs' := (Ord.upto 15 15)) rfl (by kernel_rfl) hQ trivial Bel (fun w _ hS => Chain.ev_assign f41.ev) (F.lt (by decide)) fun a14 N => ?_
  replace F := F.next N (by simp)
  replace f9 := N.keep 9 _ (by decide) f9
  clear f40
  clear f41
  clear N
  refine Ord.finish R (by kernel_rfl) ?_
  exact h _ _ _ _ _ F f9 RN V6 BN hge
set_option maxRecDepth 100000 in
theorem own8_frame {a : Act} {w : World} {K : Act → World → Prop} {v1 v2 v3 v8 v9 : Value} (hz : a.tmps.size = 103) (hd : a.defers = []) (f1 : Chain.At a 1 v1) (f2 : Chain.At a 2 v2) (f3 : Chain.At a 3 v3) (f8 : Chain.At a 8 v8) (f9 : Chain.At a 9 v9)
  (h : ∀ u0 u4 u5 u6 u7 u10 u11 u12 u13 u14 u15 u16 u17 u18 u19 u20 u21 u22 u23 u24 u25 u26 u27 u28 u29 u30 u31 u32 u33 u34 u35 u36 u37 u38 u39 u40 u41 u42 u43 u44 u45 u46 u47 u48 u49 u50 u51 u52 u53 u54 u55 u56 u57 u58 u59 u60 u61 u62 u63 u64 u65 u66 u67 u68 u69 u70 u71 u72 u73 u74 u75 u76 u77 u78 u79 u80 u81 u82 u83 u84 u85 u86 u87 u88 u89 u90 u91 u92 u93 u94 u95 u96 u97 u98 u99 u100 u101 u102 : Value, K ⟨#[u0, v1, v2, v3, u4, u5, u6, u7, v8, v9, u10, u11, u12, u13, u14, u15, u16, u17, u18, u19, u20, u21, u22, u23, u24, u25, u26, u27, u28, u29, u30, u31, u32, u33, u34, u35, u36, u37, u38, u39, u40, u41, u42, u43, u44, u45, u46, u47, u48, u49, u50, u51, u52, u53, u54, u55, u56, u57, u58, u59, u60, u61, u62, u63, u64, u65, u66, u67, u68, u69, u70, u71, u72, u73, u74, u75, u76, u77, u78, u79, u80, u81, u82, u83, u84, u85, u86, u87, u88, u89, u90, u91, u92, u93, u94, u95, u96, u97, u98, u99, u100, u101, u102], []⟩ w) : K a w := by
 have e := Ord.frame_out hz hd
 have r : (List.range 103).map (fun i => a.tmps.toList.getD i undef) = [a.tmps.toList.getD 0 undef, a.tmps.toList.getD 1 undef, a.tmps.toList.getD 2 undef, a.tmps.toList.getD 3 undef, a.tmps.toList.getD 4 undef, a.tmps.toList.getD 5 undef, a.tmps.toList.getD 6 undef, a.tmps.toList.getD 7 undef, a.tmps.toList.getD 8 undef, a.tmps.toList.getD 9 undef, a.tmps.toList.getD 10 undef, a.tmps.toList.getD 11 undef, a.tmps.toList.getD 12 undef, a.tmps.toList.getD 13 undef, a.tmps.toList.getD 14 undef, a.tmps.toList.getD 15 undef, a.tmps.toList.getD 16 undef, a.tmps.toList.getD 17 undef, a.tmps.toList.getD 18 undef, a.tmps.toList.getD 19 undef, a.tmps.toList.getD 20 undef, a.tmps.toList.getD 21 undef, a.tmps.toList.getD 22 undef, a.tmps.toList.getD 23 undef, a.tmps.toList.getD 24 undef, a.tmps.toList.getD 25 undef, a.tmps.toList.getD 26 undef, a.tmps.toList.getD 27 undef, a.tmps.toList.getD 28 undef, a.tmps.toList.getD 29 undef, a.tmps.toList.getD 30 undef, a.tmps.toList.getD 31 undef, a.tmps.toList.getD 32 undef, a.tmps.toList.getD 33 undef, a.tmps.toList.getD 34 undef, a.tmps.toList.getD 35 undef, a.tmps.toList.getD 36 undef, a.tmps.toList.getD 37 undef, a.tmps.toList.getD 38 undef, a.tmps.toList.getD 39 undef, a.tmps.toList.getD 40 undef, a.tmps.toList.getD 41 undef, a.tmps.toList.getD 42 undef, a.tmps.toList.getD 43 undef, a.tmps.toList.getD 44 undef, a.tmps.toList.getD 45 undef, a.tmps.toList.getD 46 undef, a.tmps.toList.getD 47 undef, a.tmps.toList.getD 48 undef, a.tmps.toList.getD 49 undef, a.tmps.toList.getD 50 undef, a.tmps.toList.getD 51 undef, a.tmps.toList.getD 52 undef, a.tmps.toList.getD 53 undef, a.tmps.toList.getD 54 undef, a.tmps.toList.getD 55 undef, a.tmps.toList.getD 56 undef, a.tmps.toList.getD 57 undef, a.tmps.toList.getD 58 undef, a.tmps.toList.getD 59 undef, a.tmps.toList.getD 60 undef, a.tmps.toList.getD 61 undef, a.tmps.toList.getD 62 undef, a.tmps.toList.getD 63 undef, a.tmps.toList.getD 64 undef, a.tmps.toList.getD 65 undef, a.tmps.toList.getD 66 undef, a.tmps.toList.getD 67 undef, a.tmps.toList.getD 68 undef, a.tmps.toList.getD 69 undef, a.tmps.toList.getD 70 undef, a.tmps.toList.getD 71 undef, a.tmps.toList.getD 72 undef, a.tmps.toList.getD 73 undef, a.tmps.toList.getD 74 undef, a.tmps.toList.getD 75 undef, a.tmps.toList.getD 76 undef, a.tmps.toList.getD 77 undef, a.tmps.toList.getD 78 undef, a.tmps.toList.getD 79 undef, a.tmps.toList.getD 80 undef, a.tmps.toList.getD 81 undef, a.tmps.toList.getD 82 undef, a.tmps.toList.getD 83 undef, a.tmps.toList.getD 84 undef, a.tmps.toList.getD 85 undef, a.tmps.toList.getD 86 undef, a.tmps.toList.getD 87 undef, a.tmps.toList.getD 88 undef, a.tmps.toList.getD 89 undef, a.tmps.toList.getD 90 undef, a.tmps.toList.getD 91 undef, a.tmps.toList.getD 92 undef, a.tmps.toList.getD 93 undef, a.tmps.toList.getD 94 undef, a.tmps.toList.getD 95 undef, a.tmps.toList.getD 96 undef, a.tmps.toList.getD 97 undef, a.tmps.toList.getD 98 undef, a.tmps.toList.getD 99 undef, a.tmps.toList.getD 100 undef, a.tmps.toList.getD 101 undef, a.tmps.toList.getD 102 undef] := rfl
 rw [r, Ord.at_get f1, Ord.at_get f2, Ord.at_get f3, Ord.at_get f8, Ord.at_get f9] at e
 rw [e]
 exact h _ _ _ _ _ _ _ _ _ _ _ _ _ _ _ _ _ _ _ _ _ _ _ _ _ _ _ _ _ _ _ _ _ _ _ _ _ _ _ _ _ _ _ _ _ _ _ _ _ _ _ _ _ _ _ _ _ _ _ _ _ _ _ _ _ _ _ _ _ _ _ _ _ _ _ _ _ _ _ _ _ _ _ _ _ _ _ _ _ _ _ _ _ _ _ _ _ _
structure Own9Fr (b0 : Nat) (y z : Int) (p8 p9 : Value) (a : Act) : Prop where
 size : a.tmps.size = 103
 defers : a.defers = []
 s1 : Chain.At a 1 (.int .i64 y)
 s2 : Chain.At a 2 (.int .i32 z)
 s3 : Chain.At a 3 (.pointer (some ⟨b0, 0, none⟩))
 s8 : Chain.At a 8 (p8)
 s9 : Chain.At a 9 (p9)
theorem Own9Fr.next {b0 : Nat} {y z : Int} {p8 p9 : Value} {a a' : Act} {d : Nat} {v : Value} (F : Own9Fr b0 y z p8 p9 a) (nx : Chain.Next a a' d v) (h : d ≠ 1 ∧ d ≠ 2 ∧ d ≠ 3 ∧ d ≠ 8 ∧ d ≠ 9) : Own9Fr b0 y z p8 p9 a' := ⟨nx.size.trans F.size, nx.defers.trans F.defers, nx.keep 1 _ h.1 F.s1, nx.keep 2 _ h.2.1 F.s2, nx.keep 3 _ h.2.2.1 F.s3, nx.keep 8 _ h.2.2.2.1 F.s8, nx.keep 9 _ h.2.2.2.2 F.s9⟩
theorem Own9Fr.lt {b0 : Nat} {y z : Int} {p8 p9 : Value} {a : Act} {d : Nat} (F : Own9Fr b0 y z p8 p9 a) (h : d < 103) : d < a.tmps.size := by rw [F.size]; exact h
set_option maxRecDepth 100000 in
theorem own9_great {ops : Array Oper} {Q : Exit → Act → World → Prop} (R : Ord.Reg ops own9L) (hQ : ∀ c a w d v, Q (.panic c) (Act.put a (some d) v) w → Q (.panic c) a w) {w0 : World} {A2 : Option Addr} {n c2 b0 col : Nat} {y z : Int} {l : List Cel} {wr : Bool} {p8 p9 : Value}
  (hsp : Spans w0) (hspz : 0 < w0.heap.size) (RR : RowAt w0 b0 (.slice A2 n c2) wr) (Q0 : Sq w0 w0.heap.size 3 n A2 (flat l)) (hl : ∀ c ∈ l, -2147483648 ≤ c.1 ∧ c.1 ≤ 2147483647) (hn : n ≤ 1000000) (hn0 : ¬ n = 0) (hcol : y.tmod (n : Int) = (col : Int)) (hcw : IntKind.i64.wrap (col : Int) = (col : Int)) (hlS : (eraseRes l (col : Int) (n : Int)).length = n)
  (a : Act) (F : Own9Fr b0 y z p8 p9 a)
  (h : ∀ a w g9 AV cV, Own9Fr b0 y z p8 p9 a → Chain.At a 11 (.pointer (some ⟨g9, 0, none⟩)) → RowAt w g9 (.slice AV n cV) (eraseWrap wr l (col : Int) (n : Int)) → HasC w w0.heap.size (.slice AV n cV) (eraseRes l (col : Int) (n : Int)) → Below w0.heap.size w0 w → w0.heap.size ≤ g9 → Q .normal a w) :
  wpAnyH Tryz.prog .any ops Q (fun w' => Below w0.heap.size w0 w') 16 (List.replicate 16 false).toArray a w0 := by
 have Bel := Below.refl w0.heap.size w0
 refine Ord.take R (k := 0) (v := .agg #[.slice A2 n c2, .bool wr]) (bs' := (Ord.upto 1 16)) rfl (by kernel_rfl) hQ trivial Bel (fun w _ hS => by have e3 := F.s3; unfold Chain.At at e3; have q0 := show w.cell? ⟨b0, 0, none⟩ = some (.slice A2 n c2) from (hS.cell (p := ⟨b0, 0, none⟩) RR.lt).trans (RR.get 0); have q1 := show w.cell? ⟨b0, 1, none⟩ = some (.bool wr) from (hS.cell (p := ⟨b0, 1, none⟩) RR.lt).trans (RR.get 1); clear F; go_simp) (F.lt (by decide)) fun a0 N => ?_
 replace F := F.next N (by simp)
 have f43 := N.got
 clear N
 refine Ord.take R (k := 1) (v := .int .i64 y) (bs' := (Ord.upto 2 16)) rfl (by kernel_rfl) hQ trivial Bel (fun w _ hS => Chain.ev_move F.s1.ev) (F.lt (by decide)) fun a1 N => ?_
 replace F := F.next N (by simp)
 replace f43 := N.keep 43 _ (by decide) f43
 have f44 := N.got
 clear N
 refine Ord.take R (k := 2) (v := .pointer (some ⟨b0, 0, none⟩)) (bs' := (Ord.upto 3 16)) rfl (by kernel_rfl) hQ trivial Bel (fun w _ hS => by have e3 := F.s3; unfold Chain.At at e3; clear F; go_simp) (F.lt (by decide)) fun a2 N => ?_
 replace F := F.next N (by simp)
 replace f43 := N.keep 43 _ (by decide) f43
 replace f44 := N.keep 44 _ (by decide) f44
 have f45 := N.got
 clear N
 refine Ord.take R (k := 3) (v := .slice A2 n c2) (bs' := (Ord.upto 4 16)) rfl (by kernel_rfl) hQ trivial Bel (fun w _ hS => by have e45 := f45; unfold Chain.At at e45; have q0 := show w.cell? ⟨b0, 0, none⟩ = some (.slice A2 n c2) from (hS.cell (p := ⟨b0, 0, none⟩) RR.lt).trans (RR.get 0); clear F; go_simp) (F.lt (by decide)) fun a3 N => ?_
 replace F := F.next N (by simp)
 replace f43 := N.keep 43 _ (by decide) f43
 replace f44 := N.keep 44 _ (by decide) f44
 clear f45
 have f46 := N.got
 clear N
 refine Ord.take R (k := 4) (v := .int .i64 (n : Int)) (bs' := (Ord.upto 5 16)) rfl (by kernel_rfl) hQ trivial Bel (fun w _ hS => by have e46 := f46; unfold Chain.At at e46; clear F; go_simp) (F.lt (by decide)) fun a4 N => ?_
 replace F := F.next N (by simp)
 replace f43 := N.keep 43 _ (by decide) f43
 replace f44 := N.keep 44 _ (by decide) f44
 clear f46
 have f47 := N.got
 clear N
 refine Ord.take R (k := 5) (v := .int .i64 (col : Int)) (bs' := (Ord.upto 6 16)) rfl (by kernel_rfl) hQ trivial Bel (fun w _ hS => by have e44 := f44; unfold Chain.At at e44; have e47 := f47; unfold Chain.At at e47; have q0 := hn0; have q1 := hcol; have q2 := hcw; clear F; go_simp) (F.lt (by decide)) fun a5 N => ?_
 replace F := F.next N (by simp)
 replace f43 := N.keep 43 _ (by decide) f43
 clear f44
 clear f47
 have f48 := N.got
 clear N
 refine Ord.take R (k := 6) (v := .pointer (some ⟨b0, 0, none⟩)) (bs' := (Ord.upto 7 16)) rfl (by kernel_rfl) hQ trivial Bel (fun w _ hS => by have e3 := F.s3; unfold Chain.At at e3; clear F; go_simp) (F.lt (by decide)) fun a6 N => ?_
 replace F := F.next N (by simp)
 replace f43 := N.keep 43 _ (by decide) f43
 replace f48 := N.keep 48 _ (by decide) f48
 have f49 := N.got
 clear N
 refine Ord.take R (k := 7) (v := .slice A2 n c2) (bs' := (Ord.upto 8 16)) rfl (by kernel_rfl) hQ trivial Bel (fun w _ hS => by have e49 := f49; unfold Chain.At at e49; have q0 := show w.cell? ⟨b0, 0, none⟩ = some (.slice A2 n c2) from (hS.cell (p := ⟨b0, 0, none⟩) RR.lt).trans (RR.get 0); clear F; go_simp) (F.lt (by decide)) fun a7 N => ?_
 replace F := F.next N (by simp)
 replace f43 := N.keep 43 _ (by decide) f43
 replace f48 := N.keep 48 _ (by decide) f48
 clear f49
 have f50 := N.got
 clear N
 refine Ord.take R (k := 8) (v := .int .i64 (n : Int)) (bs' := (Ord.upto 9 16)) rfl (by kernel_rfl) hQ trivial Bel (fun w _ hS => by have e50 := f50; unfold Chain.At at e50; clear F; go_simp) (F.lt (by decide)) fun a8 N => ?_
 replace F := F.next N (by simp)
 replace f43 := N.keep 43 _ (by decide) f43
 replace f48 := N.keep 48 _ (by decide) f48
 clear f50
 have f51 := N.got
 clear N
 refine Ord.either R (i := 9) (j := 13) (bs1 := (Ord.upto 10 16)) (bs2 := [true, true, true, true, true, true, true, true, true, false, false, false, false, true, false, false]) (by kernel_rfl) ?_ ?_
 ·skip
  refine Ord.step_call R (k := 9) (args := #[.agg #[.slice A2 n c2, .bool wr], .int .i64 (col : Int), .int .i64 (n : Int)]) rfl trivial (by simp [f43.ev, f48.ev, f51.ev]) (by kernel_rfl) (rowErase_walk A2 n c2 wr l (col : Int) (n : Int) _ (hsp.below Bel hspz) hl ((Q0.below Bel).up Bel.size) hn) (F.lt (by decide)) ?_
  rintro e w ⟨AV, nV, cV, rfl, V, b8⟩
  obtain rfl : n = nV := by
   obtain ⟨_, _, e, _⟩ := HasC.shape V
   injection e with _ e1 _
   rw [e1, hlS]
  replace V := HasC.mono V Bel.size
  replace Bel := Bel.trans (b8.mono Bel.size)
  clear b8
  refine ⟨_, rfl, Bel, fun a8 N => ?_⟩
  replace F := F.next N (by simp)
  clear f43
  clear f48
  clear f51
  have f52 := N.got
  clear N
  refine Ord.take R (k := 10) (v := .tuple #[.agg #[.slice AV n cV, .bool (eraseWrap wr l (col : Int) (n : Int))], .bool (eraseOk l (col : Int) (n : Int))]) (bs' := (Ord.upto 11 16)) rfl (by kernel_rfl) hQ trivial Bel (fun w _ hS => Chain.ev_move f52.ev) (F.lt (by decide)) fun a10 N => ?_
  replace F := F.next N (by simp)
  clear f52
  have f42 := N.got
  clear N
  refine Ord.take R (k := 11) (v := .agg #[.slice AV n cV, .bool (eraseWrap wr l (col : Int) (n : Int))]) (bs' := (Ord.upto 12 16)) rfl (by kernel_rfl) hQ trivial Bel (fun w _ hS => by have e42 := f42; unfold Chain.At at e42; clear F; go_simp) (F.lt (by decide)) fun a11 N => ?_
  replace F := F.next N (by simp)
  replace f42 := N.keep 42 _ (by decide) f42
  have f53 := N.got
  clear N
  refine Ord.take R (k := 12) (v := .bool (eraseOk l (col : Int) (n : Int))) (bs' := (Ord.upto 13 16)) rfl (by kernel_rfl) hQ trivial Bel (fun w _ hS => by have e42 := f42; unfold Chain.At at e42; clear F; go_simp) (F.lt (by decide)) fun a12 N => ?_
  replace F := F.next N (by simp)
  clear f42
  replace f53 := N.keep 53 _ (by decide) f53
  have f54 := N.got
  clear N
  refine Ord.step_next R (k := 13) (bs' := (Ord.upto 14 16)) (by kernel_rfl) (Ord.step_value R (k := 13) (v := .pointer (some ⟨w.heap.size, 0, none⟩)) (w1 := w.alloc (.cells #[.slice none 0 0, .bool false] 24)) rfl trivial (Bel.alloc Bel.size _) (fun _ => by clear F; go_simp) (F.lt (by decide)) fun a13 N => ?_)
  obtain ⟨g9, hg9⟩ : ∃ g, w.heap.size = g := ⟨_, rfl⟩
  rw [hg9] at N
  have hge : w0.heap.size ≤ g9 := by rw [← hg9]; exact Bel.size
  have RA : RowAt (w.alloc (.cells #[.slice none 0 0, .bool false] 24)) g9 (.slice none 0 0) false := by rw [← hg9]; exact heap_alloc_new _ _
  replace V := HasC.keep (w' := w.alloc (.cells #[.slice none 0 0, .bool false] 24)) V (fun j e => Below.heap_alloc _ _ _ (HasC.lt V j e).2)
  replace Bel := Bel.alloc Bel.size (.cells #[.slice none 0 0, .bool false] 24)
  generalize w.alloc (.cells #[.slice none 0 0, .bool false] 24) = wa at Bel RA V ⊢
  clear hg9
  replace F := F.next N (by simp)
  replace f53 := N.keep 53 _ (by decide) f53
  replace f54 := N.keep 54 _ (by decide) f54
  have f11 := N.got
  clear N
  refine Ord.effect R (k := 14) (bs' := (Ord.upto 15 16)) (w1 := (wa.setCell ⟨g9, 0, none⟩ (.slice AV n cV)).setCell ⟨g9, 1, none⟩ (.bool (eraseWrap wr l (col : Int) (n : Int)))) rfl (by kernel_rfl) trivial ((Bel.setCell (p := ⟨g9, 0, none⟩) hge _).setCell (p := ⟨g9, 1, none⟩) hge _) (fun _ => by have e0 := f11; have e1 := f53; unfold Chain.At at e0 e1; have q0 : wa.cell? ⟨g9, 0, none⟩ = _ := RA.get 0; have q1 : wa.cell? ⟨g9, 1, none⟩ = _ := RA.get 1; have q2 := RA.free 0; have q3 := RA.free 1; clear F; go_simp) ?_
  have RN := RowAt.put2 RA (.slice AV n cV) (eraseWrap wr l (col : Int) (n : Int))
  have hne : ∀ j, (Value.slice AV n cV).ownBlock = some j → j ≠ g9 := fun j e e2 => by
   subst e2
   exact (celL_typed V j e).apart ⟨_, _, RA⟩ (by decide) rfl
  have V6 := HasC.keep (w' := (wa.setCell ⟨g9, 0, none⟩ (.slice AV n cV)).setCell ⟨g9, 1, none⟩ (.bool (eraseWrap wr l (col : Int) (n : Int)))) V (fun j e => by rw [Below.heap_setCell _ _ _ _ (by exact hne j e), Below.heap_setCell _ _ _ _ (by exact hne j e)])
  have BN : Below w0.heap.size w0 ((wa.setCell ⟨g9, 0, none⟩ (.slice AV n cV)).setCell ⟨g9, 1, none⟩ (.bool (eraseWrap wr l (col : Int) (n : Int)))) := (Bel.setCell (p := ⟨g9, 0, none⟩) hge _).setCell (p := ⟨g9, 1, none⟩) hge _
  generalize (wa.setCell ⟨g9, 0, none⟩ (.slice AV n cV)).setCell ⟨g9, 1, none⟩ (.bool (eraseWrap wr l (col : Int) (n : Int))) = wz at RN V6 BN ⊢
  replace Bel := BN
  refine Ord.take R (k := 15) (v := .bool (eraseOk l (col : Int) (n : Int))) (bs' := (Ord.upto 16 16)) rfl (by kernel_rfl) hQ trivial Bel (fun w _ hS => Chain.ev_assign f54.ev) (F.lt (by decide)) fun a15 N => ?_
  replace F := F.next N (by simp)
  replace f11 := N.keep 11 _ (by decide) f11
  clear f53
  clear f54
  clear N
  refine Ord.finish R (by kernel_rfl) ?_
  exact h _ _ _ _ _ F f11 RN V6 BN hge
 ·skip
  refine Ord.step_value R (k := 13) (v := .pointer (some ⟨w0.heap.size, 0, none⟩)) (w1 := w0.alloc (.cells #[.slice none 0 0, .bool false] 24)) rfl trivial (Bel.alloc Bel.size _) (fun _ => by clear F; go_simp) (F.lt (by decide)) fun a13 N => ?_
  obtain ⟨g9, hg9⟩ : ∃ g, w0.heap.size = g := ⟨_, rfl⟩
  rw [hg9] at N
  have hge : w0.heap.size ≤ g9 := by rw [← hg9]; exact Bel.size
  have RA : RowAt (w0.alloc (.cells #[.slice none 0 0, .bool false] 24)) g9 (.slice none 0 0) false := by rw [← hg9]; exact heap_alloc_new _ _
  replace Bel := Bel.alloc Bel.size (.cells #[.slice none 0 0, .bool false] 24)
  generalize w0.alloc (.cells #[.slice none 0 0, .bool false] 24) = w at Bel RA ⊢
  clear hg9
  replace F := F.next N (by simp)
  replace f43 := N.keep 43 _ (by decide) f43
  replace f48 := N.keep 48 _ (by decide) f48
  replace f51 := N.keep 51 _ (by decide) f51
  have f11 := N.got
  clear N
  refine Ord.step_next R (k := 9) (bs' := [true, true, true, true, true, true, true, true, true, true, false, false, false, true, false, false]) (by kernel_rfl) (Ord.step_call R (k := 9) (args := #[.agg #[.slice A2 n c2, .bool wr], .int .i64 (col : Int), .int .i64 (n : Int)]) rfl trivial (by simp [f43.ev, f48.ev, f51.ev]) (by kernel_rfl) (rowErase_walk A2 n c2 wr l (col : Int) (n : Int) _ (hsp.below Bel hspz) hl ((Q0.below Bel).up Bel.size) hn) (F.lt (by decide)) ?_)
  rintro e w ⟨AV, nV, cV, rfl, V, b8⟩
  obtain rfl : n = nV := by
   obtain ⟨_, _, e, _⟩ := HasC.shape V
   injection e with _ e1 _
   rw [e1, hlS]
  replace V := HasC.mono V Bel.size
  replace RA := (show RowAt w g9 (.slice none 0 0) false from (b8.block g9 RA.lt).trans RA)
  replace Bel := Bel.trans (b8.mono Bel.size)
  clear b8
  refine ⟨_, rfl, Bel, fun a8 N => ?_⟩
  replace F := F.next N (by simp)
  replace f11 := N.keep 11 _ (by decide) f11
  clear f43
  clear f48
  clear f51
  have f52 := N.got
  clear N
  refine Ord.take R (k := 10) (v := .tuple #[.agg #[.slice AV n cV, .bool (eraseWrap wr l (col : Int) (n : Int))], .bool (eraseOk l (col : Int) (n : Int))]) (bs' := [true, true, true, true, true, true, true, true, true, true, true, false, false, true, false, false]) rfl (by kernel_rfl) hQ trivial Bel (fun w _ hS => Chain.ev_move f52.ev) (F.lt (by decide)) fun a10 N => ?_
  replace F := F.next N (by simp)
  replace f11 := N.keep 11 _ (by decide) f11
  clear f52
  have f42 := N.got
  clear N
  refine Ord.take R (k := 11) (v := .agg #[.slice AV n cV, .bool (eraseWrap wr l (col : Int) (n : Int))]) (bs' := [true, true, true, true, true, true, true, true, true, true, true, true, false, true, false, false]) rfl (by kernel_rfl) hQ trivial Bel (fun w _ hS => by have e42 := f42; unfold Chain.At at e42; clear F; go_simp) (F.lt (by decide)) fun a11 N => ?_
  replace F := F.next N (by simp)
  replace f11 := N.keep 11 _ (by decide) f11
  replace f42 := N.keep 42 _ (by decide) f42
  have f53 := N.got
  clear N
  refine Ord.take R (k := 12) (v := .bool (eraseOk l (col : Int) (n : Int))) (bs' := (Ord.upto 14 16)) rfl (by kernel_rfl) hQ trivial Bel (fun w _ hS => by have e42 := f42; unfold Chain.At at e42; clear F; go_simp) (F.lt (by decide)) fun a12 N => ?_
  replace F := F.next N (by simp)
  replace f11 := N.keep 11 _ (by decide) f11
  clear f42
  replace f53 := N.keep 53 _ (by decide) f53
  have f54 := N.got
  clear N
  refine Ord.effect R (k := 14) (bs' := (Ord.upto 15 16)) (w1 := (w.setCell ⟨g9, 0, none⟩ (.slice AV n cV)).setCell ⟨g9, 1, none⟩ (.bool (eraseWrap wr l (col : Int) (n : Int)))) rfl (by kernel_rfl) trivial ((Bel.setCell (p := ⟨g9, 0, none⟩) hge _).setCell (p := ⟨g9, 1, none⟩) hge _) (fun _ => by have e0 := f11; have e1 := f53; unfold Chain.At at e0 e1; have q0 : w.cell? ⟨g9, 0, none⟩ = _ := RA.get 0; have q1 : w.cell? ⟨g9, 1, none⟩ = _ := RA.get 1; have q2 := RA.free 0; have q3 := RA.free 1; clear F; go_simp) ?_
  have RN := RowAt.put2 RA (.slice AV n cV) (eraseWrap wr l (col : Int) (n : Int))
  have hne : ∀ j, (Value.slice AV n cV).ownBlock = some j → j ≠ g9 := fun j e e2 => by
   subst e2
   exact (celL_typed V j e).apart ⟨_, _, RA⟩ (by decide) rfl
  have V6 := HasC.keep (w' := (w.setCell ⟨g9, 0, none⟩ (.slice AV n cV)).setCell ⟨g9, 1, none⟩ (.bool (eraseWrap wr l (col : Int) (n : Int)))) V (fun j e => by rw [Below.heap_setCell _ _ _ _ (by exact hne j e), Below.heap_setCell _ _ _ _ (by exact hne j e)])
  have BN : Below w0.heap.size w0 ((w.setCell ⟨g9, 0, none⟩ (.slice AV n cV)).setCell ⟨g9, 1, none⟩ (.bool (eraseWrap wr l (col : Int) (n : Int)))) := (Bel.setCell (p := ⟨g9, 0, none⟩) hge _).setCell (p := ⟨g9, 1, none⟩) hge _
  generalize (w.setCell ⟨g9, 0, none⟩ (.slice AV n cV)).setCell ⟨g9, 1, none⟩ (.bool (eraseWrap wr l (col : Int) (n : Int))) = wz at RN V6 BN ⊢
  replace Bel := BN
  refine Ord.take R (k := 15) (v := .bool (eraseOk l (col : Int) (n : Int))) (bs' := (Ord.upto 16 16)) rfl (by kernel_rfl) hQ trivial Bel (fun w _ hS => Chain.ev_assign f54.ev) (F.lt (by decide)) fun a15 N => ?_
  replace F := F.next N (by simp)
  replace f11 := N.keep 11 _ (by decide) f11
  clear f53
  clear f54
  clear N
  refine Ord.finish R (by kernel_rfl) ?_
  exact h _ _ _ _ _ F f11 RN V6 BN hge
set_option maxRecDepth 100000 in
theorem own9_frame {a : Act} {w : World} {K : Act → World → Prop} {v1 v2 v3 v8 v9 v11 : Value} (hz : a.tmps.size = 103) (hd : a.defers = []) (f1 : Chain.At a 1 v1) (f2 : Chain.At a 2 v2) (f3 : Chain.At a 3 v3) (f8 : Chain.At a 8 v8) (f9 : Chain.At a 9 v9) (f11 : Chain.At a 11 v11)
  (h : ∀ u0 u4 u5 u6 u7 u10 u12 u13 u14 u15 u16 u17 u18 u19 u20 u21 u22 u23 u24 u25 u26 u27 u28 u29 u30 u31 u32 u33 u34 u35 u36 u37 u38 u39 u40 u41 u42 u43 u44 u45 u46 u47 u48 u49 u50 u51 u52 u53 u54 u55 u56 u57 u58 u59 u60 u61 u62 u63 u64 u65 u66 u67 u68 u69 u70 u71 u72 u73 u74 u75 u76 u77 u78 u79 u80 u81 u82 u83 u84 u85 u86 u87 u88 u89 u90 u91 u92 u93 u94 u95 u96 u97 u98 u99 u100 u101 u102 : Value, K ⟨#[u0, v1, v2, v3, u4, u5, u6, u7, v8, v9, u10, v11, u12, u13, u14, u15, u16, u17, u18, u19, u20, u21, u22, u23, u24, u25, u26, u27, u28, u29, u30, u31, u32, u33, u34, u35, u36, u37, u38, u39, u40, u41, u42, u43, u44, u45, u46, u47, u48, u49, u50, u51, u52, u53, u54, u55, u56, u57, u58, u59, u60, u61, u62, u63, u64, u65, u66, u67, u68, u69, u70, u71, u72, u73, u74, u75, u76, u77, u78, u79, u80, u81, u82, u83, u84, u85, u86, u87, u88, u89, u90, u91, u92, u93, u94, u95, u96, u97, u98, u99, u100, u101, u102], []⟩ w) : K a w := by
 have e := Ord.frame_out hz hd
 have r : (List.range 103).map (fun i => a.tmps.toList.getD i undef) = [a.tmps.toList.getD 0 undef, a.tmps.toList.getD 1 undef, a.tmps.toList.getD 2 undef, a.tmps.toList.getD 3 undef, a.tmps.toList.getD 4 undef, a.tmps.toList.getD 5 undef, a.tmps.toList.getD 6 undef, a.tmps.toList.getD 7 undef, a.tmps.toList.getD 8 undef, a.tmps.toList.getD 9 undef, a.tmps.toList.getD 10 undef, a.tmps.toList.getD 11 undef, a.tmps.toList.getD 12 undef, a.tmps.toList.getD 13 undef, a.tmps.toList.getD 14 undef, a.tmps.toList.getD 15 undef, a.tmps.toList.getD 16 undef, a.tmps.toList.getD 17 undef, a.tmps.toList.getD 18 undef, a.tmps.toList.getD 19 undef, a.tmps.toList.getD 20 undef, a.tmps.toList.getD 21 undef, a.tmps.toList.getD 22 undef, a.tmps.toList.getD 23 undef, a.tmps.toList.getD 24 undef, a.tmps.toList.getD 25 undef, a.tmps.toList.getD 26 undef, a.tmps.toList.getD 27 undef, a.tmps.toList.getD 28 undef, a.tmps.toList.getD 29 undef, a.tmps.toList.getD 30 undef, a.tmps.toList.getD 31 undef, a.tmps.toList.getD 32 undef, a.tmps.toList.getD 33 undef, a.tmps.toList.getD 34 undef, a.tmps.toList.getD 35 undef, a.tmps.toList.getD 36 undef, a.tmps.toList.getD 37 undef, a.tmps.toList.getD 38 undef, a.tmps.toList.getD 39 undef, a.tmps.toList.getD 40 undef, a.tmps.toList.getD 41 undef, a.tmps.toList.getD 42 undef, a.tmps.toList.getD 43 undef, a.tmps.toList.getD 44 undef, a.tmps.toList.getD 45 undef, a.tmps.toList.getD 46 undef, a.tmps.toList.getD 47 undef, a.tmps.toList.getD 48 undef, a.tmps.toList.getD 49 undef, a.tmps.toList.getD 50 undef, a.tmps.toList.getD 51 undef, a.tmps.toList.getD 52 undef, a.tmps.toList.getD 53 undef, a.tmps.toList.getD 54 undef, a.tmps.toList.getD 55 undef, a.tmps.toList.getD 56 undef, a.tmps.toList.getD 57 undef, a.tmps.toList.getD 58 undef, a.tmps.toList.getD 59 undef, a.tmps.toList.getD 60 undef, a.tmps.toList.getD 61 undef, a.tmps.toList.getD 62 undef, a.tmps.toList.getD 63 undef, a.tmps.toList.getD 64 undef, a.tmps.toList.getD 65 undef, a.tmps.toList.getD 66 undef, a.tmps.toList.getD 67 undef, a.tmps.toList.getD 68 undef, a.tmps.toList.getD 69 undef, a.tmps.toList.getD 70 undef, a.tmps.toList.getD 71 undef, a.tmps.toList.getD 72 undef, a.tmps.toList.getD 73 undef, a.tmps.toList.getD 74 undef, a.tmps.toList.getD 75 undef, a.tmps.toList.getD 76 undef, a.tmps.toList.getD 77 undef, a.tmps.toList.getD 78 undef, a.tmps.toList.getD 79 undef, a.tmps.toList.getD 80 undef, a.tmps.toList.getD 81 undef, a.tmps.toList.getD 82 undef, a.tmps.toList.getD 83 undef, a.tmps.toList.getD 84 undef, a.tmps.toList.getD 85 undef, a.tmps.toList.getD 86 undef, a.tmps.toList.getD 87 undef, a.tmps.toList.getD 88 undef, a.tmps.toList.getD 89 undef, a.tmps.toList.getD 90 undef, a.tmps.toList.getD 91 undef, a.tmps.toList.getD 92 undef, a.tmps.toList.getD 93 undef, a.tmps.toList.getD 94 undef, a.tmps.toList.getD 95 undef, a.tmps.toList.getD 96 undef, a.tmps.toList.getD 97 undef, a.tmps.toList.getD 98 undef, a.tmps.toList.getD 99 undef, a.tmps.toList.getD 100 undef, a.tmps.toList.getD 101 undef, a.tmps.toList.getD 102 undef] := rfl
 rw [r, Ord.at_get f1, Ord.at_get f2, Ord.at_get f3, Ord.at_get f8, Ord.at_get f9, Ord.at_get f11] at e
 rw [e]
 exact h _ _ _ _ _ _ _ _ _ _ _ _ _ _ _ _ _ _ _ _ _ _ _ _ _ _ _ _ _ _ _ _ _ _ _ _ _ _ _ _ _ _ _ _ _ _ _ _ _ _ _ _ _ _ _ _ _ _ _ _ _ _ _ _ _ _ _ _ _ _ _ _ _ _ _ _ _ _ _ _ _ _ _ _ _ _ _ _ _ _ _ _ _ _ _ _ _
def own14L : List Ord.Line := [
 (some 63, Go.Op.move (Go.Operand.tmp 2), none, []),
 (some 64, Go.Op.call { callee := Go.Callee.value (Go.Operand.func 11), args := #[Go.Operand.tmp 63, Go.Operand.const (Go.Value.int Go.IntKind.i64 1)], argTypes := #[21, 3] }, none, [0]),
 (some 65, Go.Op.call { callee := Go.Callee.builtin Go.Builtin.len, args := #[Go.Operand.tmp 64], argTypes := #[22] }, none, [1]),
 (some 66, Go.Op.binOp Go.BinOp.gtr 3 (Go.Operand.tmp 65) (Go.Operand.const (Go.Value.int Go.IntKind.i64 0)) 3, none, [2]),
 (some 67, Go.Op.move (Go.Operand.tmp 66), none, [3, 1]),
 (some 68, Go.Op.move (Go.Operand.tmp 1), some (4, true), [4]),
 (some 69, Go.Op.fieldAddr 24 (Go.Operand.tmp 3) 0, some (4, true), [4]),
 (some 70, Go.Op.load 22 (Go.Operand.tmp 69), some (4, true), [6, 4]),
 (some 71, Go.Op.call { callee := Go.Callee.builtin Go.Builtin.len, args := #[Go.Operand.tmp 70], argTypes := #[22] }, some (4, true), [7, 4]),
 (some 72, Go.Op.binOp Go.BinOp.rem 3 (Go.Operand.tmp 68) (Go.Operand.tmp 71) 3, some (4, true), [5, 8, 4]),
 (some 73, Go.Op.move (Go.Operand.tmp 2), some (4, true), [4]),
 (some 74, Go.Op.call { callee := Go.Callee.value (Go.Operand.func 11), args := #[Go.Operand.tmp 73, Go.Operand.const (Go.Value.int Go.IntKind.i64 1)], argTypes := #[21, 3] }, some (4, true), [10, 4, 4]),
 (some 75, Go.Op.call { callee := Go.Callee.builtin Go.Builtin.len, args := #[Go.Operand.tmp 74], argTypes := #[22] }, some (4, true), [11, 4]),
 (some 76, Go.Op.binOp Go.BinOp.add 3 (Go.Operand.tmp 72) (Go.Operand.tmp 75) 3, some (4, true), [9, 12, 4]),
 (some 77, Go.Op.fieldAddr 24 (Go.Operand.tmp 3) 0, some (4, true), [4]),
 (some 78, Go.Op.load 22 (Go.Operand.tmp 77), some (4, true), [14, 4]),
 (some 79, Go.Op.call { callee := Go.Callee.builtin Go.Builtin.len, args := #[Go.Operand.tmp 78], argTypes := #[22] }, some (4, true), [15, 4]),
 (some 80, Go.Op.binOp Go.BinOp.leq 3 (Go.Operand.tmp 76) (Go.Operand.tmp 79) 3, some (4, true), [13, 16, 4]),
 (some 81, Go.Op.pick (Go.Operand.tmp 67) (Go.Operand.tmp 80) (Go.Operand.const (Go.Value.bool false)), none, [4, 17])]
structure Own14Fr (b0 : Nat) (y z : Int) (p0 p4 p5 p6 p7 p8 p9 p10 p11 p12 p13 p14 p15 p16 p17 p18 p19 p20 p21 p22 p23 p24 p25 p26 p27 p28 p29 p30 p31 p32 p33 p34 p35 p36 p37 p38 p39 p40 p41 p42 p43 p44 p45 p46 p47 p48 p49 p50 p51 p52 p53 p54 p55 p56 p57 p58 p59 p60 p61 p62 p82 p83 p84 p85 p86 p87 p88 p89 p90 p91 p92 p93 p94 p95 p96 p97 p98 p99 p100 p101 p102 : Value) (a : Act) : Prop where
 size : a.tmps.size = 103
 defers : a.defers = []
 s0 : Chain.At a 0 (p0)
 s1 : Chain.At a 1 (.int .i64 y)
 s2 : Chain.At a 2 (.int .i32 z)
 s3 : Chain.At a 3 (.pointer (some ⟨b0, 0, none⟩))
 s4 : Chain.At a 4 (p4)
 s5 : Chain.At a 5 (p5)
 s6 : Chain.At a 6 (p6)
 s7 : Chain.At a 7 (p7)
 s8 : Chain.At a 8 (p8)
 s9 : Chain.At a 9 (p9)
 s10 : Chain.At a 10 (p10)
 s11 : Chain.At a 11 (p11)
 s12 : Chain.At a 12 (p12)
 s13 : Chain.At a 13 (p13)
 s14 : Chain.At a 14 (p14)
 s15 : Chain.At a 15 (p15)
 s16 : Chain.At a 16 (p16)
 s17 : Chain.At a 17 (p17)
 s18 : Chain.At a 18 (p18)
 s19 : Chain.At a 19 (p19)
 s20 : Chain.At a 20 (p20)
 s21 : Chain.At a 21 (p21)
 s22 : Chain.At a 22 (p22)
 s23 : Chain.At a 23 (p23)
 s24 : Chain.At a 24 (p24)
 s25 : Chain.At a 25 (p25)
 s26 : Chain.At a 26 (p26)
 s27 : Chain.At a 27 (p27)
 s28 : Chain.At a 28 (p28)
 s29 : Chain.At a 29 (p29)
 s30 : Chain.At a 30 (p30)
 s31 : Chain.At a 31 (p31)
 s32 : Chain.At a 32 (p32)
 s33 : Chain.At a 33 (p33)
 s34 : Chain.At a 34 (p34)
 s35 : Chain.At a 35 (p35)
 s36 : Chain.At a 36 (p36)
 s37 : Chain.At a 37 (p37)
 s38 : Chain.At a 38 (p38)
 s39 : Chain.At a 39 (p39)
 s40 : Chain.At a 40 (p40)
 s41 : Chain.At a 41 (p41)
 s42 : Chain.At a 42 (p42)
 s43 : Chain.At a 43 (p43)
 s44 : Chain.At a 44 (p44)
 s45 : Chain.At a 45 (p45)
 s46 : Chain.At a 46 (p46)
 s47 : Chain.At a 47 (p47)
 s48 : Chain.At a 48 (p48)
 s49 : Chain.At a 49 (p49)
 s50 : Chain.At a 50 (p50)
 s51 : Chain.At a 51 (p51)
 s52 : Chain.At a 52 (p52)
 s53 : Chain.At a 53 (p53)
 s54 : Chain.At a 54 (p54)
 s55 : Chain.At a 55 (p55)
 s56 : Chain.At a 56 (p56)
 s57 : Chain.At a 57 (p57)
 s58 : Chain.At a 58 (p58)
 s59 : Chain.At a 59 (p59)
 s60 : Chain.At a 60 (p60)
 s61 : Chain.At a 61 (p61)
 s62 : Chain.At a 62 (p62)
 s82 : Chain.At a 82 (p82)
 s83 : Chain.At a 83 (p83)
 s84 : Chain.At a 84 (p84)
 s85 : Chain.At a 85 (p85)
 s86 : Chain.At a 86 (p86)
 s87 : Chain.At a 87 (p87)
 s88 : Chain.At a 88 (p88)
 s89 : Chain.At a 89 (p89)
 s90 : Chain.At a 90 (p90)
 s91 : Chain.At a 91 (p91)
 s92 : Chain.At a 92 (p92)
 s93 : Chain.At a 93 (p93)
 s94 : Chain.At a 94 (p94)
 s95 : Chain.At a 95 (p95)
 s96 : Chain.At a 96 (p96)
 s97 : Chain.At a 97 (p97)
 s98 : Chain.At a 98 (p98)
 s99 : Chain.At a 99 (p99)
 s100 : Chain.At a 100 (p100)
 s101 : Chain.At a 101 (p101)
 s102 : Chain.At a 102 (p102)
theorem Own14Fr.next {b0 : Nat} {y z : Int} {p0 p4 p5 p6 p7 p8 p9 p10 p11 p12 p13 p14 p15 p16 p17 p18 p19 p20 p21 p22 p23 p24 p25 p26 p27 p28 p29 p30 p31 p32 p33 p34 p35 p36 p37 p38 p39 p40 p41 p42 p43 p44 p45 p46 p47 p48 p49 p50 p51 p52 p53 p54 p55 p56 p57 p58 p59 p60 p61 p62 p82 p83 p84 p85 p86 p87 p88 p89 p90 p91 p92 p93 p94 p95 p96 p97 p98 p99 p100 p101 p102 : Value} {a a' : Act} {d : Nat} {v : Value} (F : Own14Fr b0 y z p0 p4 p5 p6 p7 p8 p9 p10 p11 p12 p13 p14 p15 p16 p17 p18 p19 p20 p21 p22 p23 p24 p25 p26 p27 p28 p29 p30 p31 p32 p33 p34 p35 p36 p37 p38 p39 p40 p41 p42 p43 p44 p45 p46 p47 p48 p49 p50 p51 p52 p53 p54 p55 p56 p57 p58 p59 p60 p61 p62 p82 p83 p84 p85 p86 p87 p88 p89 p90 p91 p92 p93 p94 p95 p96 p97 p98 p99 p100 p101 p102 a) (nx : Chain.Next a a' d v) (h : 62 < d ∧ d < 82) : Own14Fr b0 y z p0 p4 p5 p6 p7 p8 p9 p10 p11 p12 p13 p14 p15 p16 p17 p18 p19 p20 p21 p22 p23 p24 p25 p26 p27 p28 p29 p30 p31 p32 p33 p34 p35 p36 p37 p38 p39 p40 p41 p42 p43 p44 p45 p46 p47 p48 p49 p50 p51 p52 p53 p54 p55 p56 p57 p58 p59 p60 p61 p62 p82 p83 p84 p85 p86 p87 p88 p89 p90 p91 p92 p93 p94 p95 p96 p97 p98 p99 p100 p101 p102 a' := ⟨nx.size.trans F.size, nx.defers.trans F.defers, nx.k F.s0 (by omega), nx.k F.s1 (by omega), nx.k F.s2 (by omega), nx.k F.s3 (by omega), nx.k F.s4 (by omega), nx.k F.s5 (by omega), nx.k F.s6 (by omega), nx.k F.s7 (by omega), nx.k F.s8 (by omega), nx.k F.s9 (by omega), nx.k F.s10 (by omega), nx.k F.s11 (by omega), nx.k F.s12 (by omega), nx.k F.s13 (by omega), nx.k F.s14 (by omega), nx.k F.s15 (by omega), nx.k F.s16 (by omega), nx.k F.s17 (by omega), nx.k F.s18 (by omega), nx.k F.s19 (by omega), nx.k F.s20 (by omega), nx.k F.s21 (by omega), nx.k F.s22 (by omega), nx.k F.s23 (by omega), nx.k F.s24 (by omega), nx.k F.s25 (by omega), nx.k F.s26 (by omega), nx.k F.s27 (by omega), nx.k F.s28 (by omega), nx.k F.s29 (by omega), nx.k F.s30 (by omega), nx.k F.s31 (by omega), nx.k F.s32 (by omega), nx.k F.s33 (by omega), nx.k F.s34 (by omega), nx.k F.s35 (by omega), nx.k F.s36 (by omega), nx.k F.s37 (by omega), nx.k F.s38 (by omega), nx.k F.s39 (by omega), nx.k F.s40 (by omega), nx.k F.s41 (by omega), nx.k F.s42 (by omega), nx.k F.s43 (by omega), nx.k F.s44 (by omega), nx.k F.s45 (by omega), nx.k F.s46 (by omega), nx.k F.s47 (by omega), nx.k F.s48 (by omega), nx.k F.s49 (by omega), nx.k F.s50 (by omega), nx.k F.s51 (by omega), nx.k F.s52 (by omega), nx.k F.s53 (by omega), nx.k F.s54 (by omega), nx.k F.s55 (by omega), nx.k F.s56 (by omega), nx.k F.s57 (by omega), nx.k F.s58 (by omega), nx.k F.s59 (by omega), nx.k F.s60 (by omega), nx.k F.s61 (by omega), nx.k F.s62 (by omega), nx.k F.s82 (by omega), nx.k F.s83 (by omega), nx.k F.s84 (by omega), nx.k F.s85 (by omega), nx.k F.s86 (by omega), nx.k F.s87 (by omega), nx.k F.s88 (by omega), nx.k F.s89 (by omega), nx.k F.s90 (by omega), nx.k F.s91 (by omega), nx.k F.s92 (by omega), nx.k F.s93 (by omega), nx.k F.s94 (by omega), nx.k F.s95 (by omega), nx.k F.s96 (by omega), nx.k F.s97 (by omega), nx.k F.s98 (by omega), nx.k F.s99 (by omega), nx.k F.s100 (by omega), nx.k F.s101 (by omega), nx.k F.s102 (by omega)⟩
theorem Own14Fr.lt {b0 : Nat} {y z : Int} {p0 p4 p5 p6 p7 p8 p9 p10 p11 p12 p13 p14 p15 p16 p17 p18 p19 p20 p21 p22 p23 p24 p25 p26 p27 p28 p29 p30 p31 p32 p33 p34 p35 p36 p37 p38 p39 p40 p41 p42 p43 p44 p45 p46 p47 p48 p49 p50 p51 p52 p53 p54 p55 p56 p57 p58 p59 p60 p61 p62 p82 p83 p84 p85 p86 p87 p88 p89 p90 p91 p92 p93 p94 p95 p96 p97 p98 p99 p100 p101 p102 : Value} {a : Act} {d : Nat} (F : Own14Fr b0 y z p0 p4 p5 p6 p7 p8 p9 p10 p11 p12 p13 p14 p15 p16 p17 p18 p19 p20 p21 p22 p23 p24 p25 p26 p27 p28 p29 p30 p31 p32 p33 p34 p35 p36 p37 p38 p39 p40 p41 p42 p43 p44 p45 p46 p47 p48 p49 p50 p51 p52 p53 p54 p55 p56 p57 p58 p59 p60 p61 p62 p82 p83 p84 p85 p86 p87 p88 p89 p90 p91 p92 p93 p94 p95 p96 p97 p98 p99 p100 p101 p102 a) (h : d < 103) : d < a.tmps.size := by rw [F.size]; exact h
set_option maxRecDepth 100000 in
theorem own14_no {ops : Array Oper} {Q : Exit → Act → World → Prop} (R : Ord.Reg ops own14L) (hQ : ∀ c a w d v, Q (.panic c) (Act.put a (some d) v) w → Q (.panic c) a w) {w1 : World} {b0 m : Nat} {y z : Int} {p0 p4 p5 p6 p7 p8 p9 p10 p11 p12 p13 p14 p15 p16 p17 p18 p19 p20 p21 p22 p23 p24 p25 p26 p27 p28 p29 p30 p31 p32 p33 p34 p35 p36 p37 p38 p39 p40 p41 p42 p43 p44 p45 p46 p47 p48 p49 p50 p51 p52 p53 p54 p55 p56 p57 p58 p59 p60 p61 p62 p82 p83 p84 p85 p86 p87 p88 p89 p90 p91 p92 p93 p94 p95 p96 p97 p98 p99 p100 p101 p102 : Value}
  (hz : -2147483648 ≤ z ∧ z ≤ 2147483647) (hLm : (ofL z 1).length = m) (hgt : m = 0)
  (a : Act) (F : Own14Fr b0 y z p0 p4 p5 p6 p7 p8 p9 p10 p11 p12 p13 p14 p15 p16 p17 p18 p19 p20 p21 p22 p23 p24 p25 p26 p27 p28 p29 p30 p31 p32 p33 p34 p35 p36 p37 p38 p39 p40 p41 p42 p43 p44 p45 p46 p47 p48 p49 p50 p51 p52 p53 p54 p55 p56 p57 p58 p59 p60 p61 p62 p82 p83 p84 p85 p86 p87 p88 p89 p90 p91 p92 p93 p94 p95 p96 p97 p98 p99 p100 p101 p102 a) (h : ∀ a w, Own14Fr b0 y z p0 p4 p5 p6 p7 p8 p9 p10 p11 p12 p13 p14 p15 p16 p17 p18 p19 p20 p21 p22 p23 p24 p25 p26 p27 p28 p29 p30 p31 p32 p33 p34 p35 p36 p37 p38 p39 p40 p41 p42 p43 p44 p45 p46 p47 p48 p49 p50 p51 p52 p53 p54 p55 p56 p57 p58 p59 p60 p61 p62 p82 p83 p84 p85 p86 p87 p88 p89 p90 p91 p92 p93 p94 p95 p96 p97 p98 p99 p100 p101 p102 a → Chain.At a 81 (.bool false) → Below w1.heap.size w1 w → Q .normal a w) (w : World) (hS : Below w1.heap.size w1 w) :
  wpAnyH Tryz.prog .any ops Q (fun w => Below w1.heap.size w1 w) 19 (List.replicate 19 false).toArray a w := by
 refine Ord.take R (k := 0) (v := .int .i32 z) (bs' := (Ord.upto 1 19)) rfl (by kernel_rfl) hQ trivial hS (fun w _ hS => Chain.ev_move F.s2.ev) (F.lt (by decide)) fun a0 N => ?_
 replace F := F.next N (by decide)
 have f63 := N.got
 clear N a
 refine Ord.call R (k := 1) (args := #[.int .i32 z, .int .i64 1]) (bs' := (Ord.upto 2 19)) rfl (by kernel_rfl) trivial (by simp [f63.ev, Ord.ev_c]) (by kernel_rfl) (refCells_walk z 1 hz.1 hz.2 (by omega) (by omega) _) (F.lt (by decide)) ?_
 rintro e w ⟨vL64, rfl, HL, hb⟩
 obtain ⟨AL64, cL64, rfl, _⟩ := HasC.shape HL
 rw [hLm] at HL ⊢
 replace hS := hS.trans (hb.mono hS.size)
 clear hb HL
 refine ⟨_, rfl, hS, fun a1 N => ?_⟩
 replace F := F.next N (by decide)
 clear f63
 have f64 := N.got
 clear N a0
 refine Ord.take R (k := 2) (v := .int .i64 (m : Int)) (bs' := (Ord.upto 3 19)) rfl (by kernel_rfl) hQ trivial hS (fun w _ hS => by have e64 := f64; unfold Chain.At at e64; clear F; go_simp) (F.lt (by decide)) fun a2 N => ?_
 replace F := F.next N (by decide)
 clear f64
 have f65 := N.got
 clear N a1
 refine Ord.take R (k := 3) (v := .bool false) (bs' := (Ord.upto 4 19)) rfl (by kernel_rfl) hQ trivial hS (fun w _ hS => by have e65 := f65; unfold Chain.At at e65; have q0 := hgt; clear F; go_simp) (F.lt (by decide)) fun a3 N => ?_
 replace F := F.next N (by decide)
 clear f65
 have f66 := N.got
 clear N a2
 refine Ord.take R (k := 4) (v := .bool false) (bs' := (Ord.upto 5 19)) rfl (by kernel_rfl) hQ trivial hS (fun w _ hS => Chain.ev_move f66.ev) (F.lt (by decide)) fun a4 N => ?_
 replace F := F.next N (by decide)
 clear f66
 have f67 := N.got
 clear N a3
 refine Ord.skip R (k := 5) (bs' := (Ord.upto 6 19)) rfl (by kernel_rfl) hQ (R.shut (j := 4) rfl f67 (Ord.ne_not rfl)) hS (F.lt (by decide)) fun a5 N => ?_
 replace F := F.next N (by decide)
 replace f67 := N.keep 67 _ (by decide) f67
 have f68 := N.got
 clear N a4
 refine Ord.skip R (k := 6) (bs' := (Ord.upto 7 19)) rfl (by kernel_rfl) hQ (R.shut (j := 4) rfl f67 (Ord.ne_not rfl)) hS (F.lt (by decide)) fun a6 N => ?_
 replace F := F.next N (by decide)
 replace f67 := N.keep 67 _ (by decide) f67
 replace f68 := N.keep 68 _ (by decide) f68
 have f69 := N.got
 clear N a5
 refine Ord.skip R (k := 7) (bs' := (Ord.upto 8 19)) rfl (by kernel_rfl) hQ (R.shut (j := 4) rfl f67 (Ord.ne_not rfl)) hS (F.lt (by decide)) fun a7 N => ?_
 replace F := F.next N (by decide)
 replace f67 := N.keep 67 _ (by decide) f67
 replace f68 := N.keep 68 _ (by decide) f68
 clear f69
 have f70 := N.got
 clear N a6
 refine Ord.skip R (k := 8) (bs' := (Ord.upto 9 19)) rfl (by kernel_rfl) hQ (R.shut (j := 4) rfl f67 (Ord.ne_not rfl)) hS (F.lt (by decide)) fun a8 N => ?_
 replace F := F.next N (by decide)
 replace f67 := N.keep 67 _ (by decide) f67
 replace f68 := N.keep 68 _ (by decide) f68
 clear f70
 have f71 := N.got
 clear N a7
 refine Ord.skip R (k := 9) (bs' := (Ord.upto 10 19)) rfl (by kernel_rfl) hQ (R.shut (j := 4) rfl f67 (Ord.ne_not rfl)) hS (F.lt (by decide)) fun a9 N => ?_
 replace F := F.next N (by decide)
 replace f67 := N.keep 67 _ (by decide) f67
 clear f68
 clear f71
 have f72 := N.got
 clear N a8
 refine Ord.skip R (k := 10) (bs' := (Ord.upto 11 19)) rfl (by kernel_rfl) hQ (R.shut (j := 4) rfl f67 (Ord.ne_not rfl)) hS (F.lt (by decide)) fun a10 N => ?_
 replace F := F.next N (by decide)
 replace f67 := N.keep 67 _ (by decide) f67
 replace f72 := N.keep 72 _ (by decide) f72
 have f73 := N.got
 clear N a9
 refine Ord.skip R (k := 11) (bs' := (Ord.upto 12 19)) rfl (by kernel_rfl) hQ (R.shut (j := 4) rfl f67 (Ord.ne_not rfl)) hS (F.lt (by decide)) fun a11 N => ?_
 replace F := F.next N (by decide)
 replace f67 := N.keep 67 _ (by decide) f67
 replace f72 := N.keep 72 _ (by decide) f72
 clear f73
 have f74 := N.got
 clear N a10
 refine Ord.skip R (k := 12) (bs' := (Ord.upto 13 19)) rfl (by kernel_rfl) hQ (R.shut (j := 4) rfl f67 (Ord.ne_not rfl)) hS (F.lt (by decide)) fun a12 N => ?_
 replace F := F.next N (by decide)
 replace f67 := N.keep 67 _ (by decide) f67
 replace f72 := N.keep 72 _ (by decide) f72
 clear f74
 have f75 := N.got
 clear N a11
 refine Ord.skip R (k := 13) (bs' := (Ord.upto 14 19)) rfl (by kernel_rfl) hQ (R.shut (j := 4) rfl f67 (Ord.ne_not rfl)) hS (F.lt (by decide)) fun a13 N => ?_
 replace F := F.next N (by decide)
 replace f67 := N.keep 67 _ (by decide) f67
 clear f72
 clear f75
 have f76 := N.got
 clear N a12
 refine Ord.skip R (k := 14) (bs' := (Ord.upto 15 19)) rfl (by kernel_rfl) hQ (R.shut (j := 4) rfl f67 (Ord.ne_not rfl)) hS (F.lt (by decide)) fun a14 N => ?_
 replace F := F.next N (by decide)
 replace f67 := N.keep 67 _ (by decide) f67
 replace f76 := N.keep 76 _ (by decide) f76
 have f77 := N.got
 clear N a13
 refine Ord.skip R (k := 15) (bs' := (Ord.upto 16 19)) rfl (by kernel_rfl) hQ (R.shut (j := 4) rfl f67 (Ord.ne_not rfl)) hS (F.lt (by decide)) fun a15 N => ?_
 replace F := F.next N (by decide)
 replace f67 := N.keep 67 _ (by decide) f67
 replace f76 := N.keep 76 _ (by decide) f76
 clear f77
 have f78 := N.got
 clear N a14
 refine Ord.skip R (k := 16) (bs' := (Ord.upto 17 19)) rfl (by kernel_rfl) hQ (R.shut (j := 4) rfl f67 (Ord.ne_not rfl)) hS (F.lt (by decide)) fun a16 N => ?_
 replace F := F.next N (by decide)
 replace f67 := N.keep 67 _ (by decide) f67
 replace f76 := N.keep 76 _ (by decide) f76
 clear f78
 have f79 := N.got
 clear N a15
 refine Ord.skip R (k := 17) (bs' := (Ord.upto 18 19)) rfl (by kernel_rfl) hQ (R.shut (j := 4) rfl f67 (Ord.ne_not rfl)) hS (F.lt (by decide)) fun a17 N => ?_
 replace F := F.next N (by decide)
 replace f67 := N.keep 67 _ (by decide) f67
 clear f76
 clear f79
 have f80 := N.got
 clear N a16
 refine Ord.take R (k := 18) (v := Go.Value.bool false) (bs' := (Ord.upto 19 19)) rfl (by kernel_rfl) hQ trivial hS (fun w _ hS => Ord.ev_pick_no f67.ev rfl) (F.lt (by decide)) fun a18 N => ?_
 replace F := F.next N (by decide)
 clear f67
 clear f80
 have f81 := N.got
 clear N a17
 exact Ord.finish R (by kernel_rfl) (h _ _ F f81 hS)
set_option maxRecDepth 100000 in
theorem own14_yes {ops : Array Oper} {Q : Exit → Act → World → Prop} (R : Ord.Reg ops own14L) (hQ : ∀ c a w d v, Q (.panic c) (Act.put a (some d) v) w → Q (.panic c) a w) {w1 : World} {A2 : Option Addr} {n c2 b0 m col : Nat} {y z : Int} {wr bb : Bool} {p0 p4 p5 p6 p7 p8 p9 p10 p11 p12 p13 p14 p15 p16 p17 p18 p19 p20 p21 p22 p23 p24 p25 p26 p27 p28 p29 p30 p31 p32 p33 p34 p35 p36 p37 p38 p39 p40 p41 p42 p43 p44 p45 p46 p47 p48 p49 p50 p51 p52 p53 p54 p55 p56 p57 p58 p59 p60 p61 p62 p82 p83 p84 p85 p86 p87 p88 p89 p90 p91 p92 p93 p94 p95 p96 p97 p98 p99 p100 p101 p102 : Value}
  (hz : -2147483648 ≤ z ∧ z ≤ 2147483647) (hLm : (ofL z 1).length = m) (hgt : 0 < m) (RR : RowAt w1 b0 (.slice A2 n c2) wr) (hn0 : ¬ n = 0) (hcol : y.tmod (n : Int) = (col : Int)) (hcw : IntKind.i64.wrap (col : Int) = (col : Int)) (hsum : IntKind.i64.wrap ((col : Int) + (m : Int)) = (col : Int) + (m : Int)) (hle : decide ((col : Int) + (m : Int) ≤ (n : Int)) = bb)
  (a : Act) (F : Own14Fr b0 y z p0 p4 p5 p6 p7 p8 p9 p10 p11 p12 p13 p14 p15 p16 p17 p18 p19 p20 p21 p22 p23 p24 p25 p26 p27 p28 p29 p30 p31 p32 p33 p34 p35 p36 p37 p38 p39 p40 p41 p42 p43 p44 p45 p46 p47 p48 p49 p50 p51 p52 p53 p54 p55 p56 p57 p58 p59 p60 p61 p62 p82 p83 p84 p85 p86 p87 p88 p89 p90 p91 p92 p93 p94 p95 p96 p97 p98 p99 p100 p101 p102 a) (h : ∀ a w, Own14Fr b0 y z p0 p4 p5 p6 p7 p8 p9 p10 p11 p12 p13 p14 p15 p16 p17 p18 p19 p20 p21 p22 p23 p24 p25 p26 p27 p28 p29 p30 p31 p32 p33 p34 p35 p36 p37 p38 p39 p40 p41 p42 p43 p44 p45 p46 p47 p48 p49 p50 p51 p52 p53 p54 p55 p56 p57 p58 p59 p60 p61 p62 p82 p83 p84 p85 p86 p87 p88 p89 p90 p91 p92 p93 p94 p95 p96 p97 p98 p99 p100 p101 p102 a → Chain.At a 81 (.bool bb) → Below w1.heap.size w1 w → Q .normal a w) (w : World) (hS : Below w1.heap.size w1 w) :
  wpAnyH Tryz.prog .any ops Q (fun w => Below w1.heap.size w1 w) 19 (List.replicate 19 false).toArray a w := by
 refine Ord.take R (k := 0) (v := .int .i32 z) (bs' := (Ord.upto 1 19)) rfl (by kernel_rfl) hQ trivial hS (fun w _ hS => Chain.ev_move F.s2.ev) (F.lt (by decide)) fun a0 N => ?_
 replace F := F.next N (by decide)
 have f63 := N.got
 clear N a
 refine Ord.call R (k := 1) (args := #[.int .i32 z, .int .i64 1]) (bs' := (Ord.upto 2 19)) rfl (by kernel_rfl) trivial (by simp [f63.ev, Ord.ev_c]) (by kernel_rfl) (refCells_walk z 1 hz.1 hz.2 (by omega) (by omega) _) (F.lt (by decide)) ?_
 rintro e w ⟨vL64, rfl, HL, hb⟩
 obtain ⟨AL64, cL64, rfl, _⟩ := HasC.shape HL
 rw [hLm] at HL ⊢
 replace hS := hS.trans (hb.mono hS.size)
 clear hb HL
 refine ⟨_, rfl, hS, fun a1 N => ?_⟩
 replace F := F.next N (by decide)
 clear f63
 have f64 := N.got
 clear N a0
 refine Ord.take R (k := 2) (v := .int .i64 (m : Int)) (bs' := (Ord.upto 3 19)) rfl (by kernel_rfl) hQ trivial hS (fun w _ hS => by have e64 := f64; unfold Chain.At at e64; clear F; go_simp) (F.lt (by decide)) fun a2 N => ?_
 replace F := F.next N (by decide)
 clear f64
 have f65 := N.got
 clear N a1
 refine Ord.take R (k := 3) (v := .bool true) (bs' := (Ord.upto 4 19)) rfl (by kernel_rfl) hQ trivial hS (fun w _ hS => by have e65 := f65; unfold Chain.At at e65; have q0 := hgt; clear F; go_simp) (F.lt (by decide)) fun a3 N => ?_
 replace F := F.next N (by decide)
 clear f65
 have f66 := N.got
 clear N a2
 refine Ord.take R (k := 4) (v := .bool true) (bs' := (Ord.upto 5 19)) rfl (by kernel_rfl) hQ trivial hS (fun w _ hS => Chain.ev_move f66.ev) (F.lt (by decide)) fun a4 N => ?_
 replace F := F.next N (by decide)
 clear f66
 have f67 := N.got
 clear N a3
 refine Ord.take R (k := 5) (v := .int .i64 y) (bs' := (Ord.upto 6 19)) rfl (by kernel_rfl) hQ (R.opened (j := 4) rfl f67) hS (fun w _ hS => Chain.ev_move F.s1.ev) (F.lt (by decide)) fun a5 N => ?_
 replace F := F.next N (by decide)
 replace f67 := N.keep 67 _ (by decide) f67
 have f68 := N.got
 clear N a4
 refine Ord.take R (k := 6) (v := .pointer (some ⟨b0, 0, none⟩)) (bs' := (Ord.upto 7 19)) rfl (by kernel_rfl) hQ (R.opened (j := 4) rfl f67) hS (fun w _ hS => by have e3 := F.s3; unfold Chain.At at e3; clear F; go_simp) (F.lt (by decide)) fun a6 N => ?_
 replace F := F.next N (by decide)
 replace f67 := N.keep 67 _ (by decide) f67
 replace f68 := N.keep 68 _ (by decide) f68
 have f69 := N.got
 clear N a5
 refine Ord.take R (k := 7) (v := .slice A2 n c2) (bs' := (Ord.upto 8 19)) rfl (by kernel_rfl) hQ (R.opened (j := 4) rfl f67) hS (fun w _ hS => by have e69 := f69; unfold Chain.At at e69; have q0 := show w.cell? ⟨b0, 0, none⟩ = some (.slice A2 n c2) from (hS.cell (p := ⟨b0, 0, none⟩) RR.lt).trans (RR.get 0); clear F; go_simp) (F.lt (by decide)) fun a7 N => ?_
 replace F := F.next N (by decide)
 replace f67 := N.keep 67 _ (by decide) f67
 replace f68 := N.keep 68 _ (by decide) f68
 clear f69
 have f70 := N.got
 clear N a6
 refine Ord.take R (k := 8) (v := .int .i64 (n : Int)) (bs' := (Ord.upto 9 19)) rfl (by kernel_rfl) hQ (R.opened (j := 4) rfl f67) hS (fun w _ hS => by have e70 := f70; unfold Chain.At at e70; clear F; go_simp) (F.lt (by decide)) fun a8 N => ?_
 replace F := F.next N (by decide)
 replace f67 := N.keep 67 _ (by decide) f67
 replace f68 := N.keep 68 _ (by decide) f68
 clear f70
 have f71 := N.got
 clear N a7
 refine Ord.take R (k := 9) (v := .int .i64 (col : Int)) (bs' := (Ord.upto 10 19)) rfl (by kernel_rfl) hQ (R.opened (j := 4) rfl f67) hS (fun w _ hS => by have e68 := f68; unfold Chain.At at e68; have e71 := f71; unfold Chain.At at e71; have q0 := hn0; have q1 := hcol; have q2 := hcw; clear F; go_simp) (F.lt (by decide)) fun a9 N => ?_
 replace F := F.next N (by decide)
 replace f67 := N.keep 67 _ (by decide) f67
 clear f68
 clear f71
 have f72 := N.got
 clear N a8
 refine Ord.take R (k := 10) (v := .int .i32 z) (bs' := (Ord.upto 11 19)) rfl (by kernel_rfl) hQ (R.opened (j := 4) rfl f67) hS (fun w _ hS => Chain.ev_move F.s2.ev) (F.lt (by decide)) fun a10 N => ?_
 replace F := F.next N (by decide)
 replace f67 := N.keep 67 _ (by decide) f67
 replace f72 := N.keep 72 _ (by decide) f72
 have f73 := N.got
 clear N a9
 refine Ord.take R (k := 14) (v := .pointer (some ⟨b0, 0, none⟩)) (bs' := [true, true, true, true, true, true, true, true, true, true, true, false, false, false, true, false, false, false, false]) rfl (by kernel_rfl) hQ (R.opened (j := 4) rfl f67) hS (fun w _ hS => by have e3 := F.s3; unfold Chain.At at e3; clear F; go_simp) (F.lt (by decide)) fun a14 N => ?_
 replace F := F.next N (by decide)
 replace f67 := N.keep 67 _ (by decide) f67
 replace f72 := N.keep 72 _ (by decide) f72
 replace f73 := N.keep 73 _ (by decide) f73
 have f77 := N.got
 clear N a10
 refine Ord.take R (k := 15) (v := .slice A2 n c2) (bs' := [true, true, true, true, true, true, true, true, true, true, true, false, false, false, true, true, false, false, false]) rfl (by kernel_rfl) hQ (R.opened (j := 4) rfl f67) hS (fun w _ hS => by have e77 := f77; unfold Chain.At at e77; have q0 := show w.cell? ⟨b0, 0, none⟩ = some (.slice A2 n c2) from (hS.cell (p := ⟨b0, 0, none⟩) RR.lt).trans (RR.get 0); clear F; go_simp) (F.lt (by decide)) fun a15 N => ?_
 replace F := F.next N (by decide)
 replace f67 := N.keep 67 _ (by decide) f67
 replace f72 := N.keep 72 _ (by decide) f72
 replace f73 := N.keep 73 _ (by decide) f73
 clear f77
 have f78 := N.got
 clear N a14
 refine Ord.take R (k := 16) (v := .int .i64 (n : Int)) (bs' := [true, true, true, true, true, true, true, true, true, true, true, false, false, false, true, true, true, false, false]) rfl (by kernel_rfl) hQ (R.opened (j := 4) rfl f67) hS (fun w _ hS => by have e78 := f78; unfold Chain.At at e78; clear F; go_simp) (F.lt (by decide)) fun a16 N => ?_
 replace F := F.next N (by decide)
 replace f67 := N.keep 67 _ (by decide) f67
 replace f72 := N.keep 72 _ (by decide) f72
 replace f73 := N.keep 73 _ (by decide) f73
 clear f78
 have f79 := N.got
 clear N a15
 refine Ord.call R (k := 11) (args := #[.int .i32 z, .int .i64 1]) (bs' := [true, true, true, true, true, true, true, true, true, true, true, true, false, false, true, true, true, false, false]) rfl (by kernel_rfl) (R.opened (j := 4) rfl f67) (by simp [f73.ev, Ord.ev_c]) (by kernel_rfl) (refCells_walk z 1 hz.1 hz.2 (by omega) (by omega) _) (F.lt (by decide)) ?_
 rintro e w ⟨vL74, rfl, HL, hb⟩
 obtain ⟨AL74, cL74, rfl, _⟩ := HasC.shape HL
 rw [hLm] at HL ⊢
 replace hS := hS.trans (hb.mono hS.size)
 clear hb HL
 refine ⟨_, rfl, hS, fun a11 N => ?_⟩
 replace F := F.next N (by decide)
 replace f67 := N.keep 67 _ (by decide) f67
 replace f72 := N.keep 72 _ (by decide) f72
 clear f73
 replace f79 := N.keep 79 _ (by decide) f79
 have f74 := N.got
 clear N a16
 refine Ord.take R (k := 12) (v := .int .i64 (m : Int)) (bs' := [true, true, true, true, true, true, true, true, true, true, true, true, true, false, true, true, true, false, false]) rfl (by kernel_rfl) hQ (R.opened (j := 4) rfl f67) hS (fun w _ hS => by have e74 := f74; unfold Chain.At at e74; clear F; go_simp) (F.lt (by decide)) fun a12 N => ?_
 replace F := F.next N (by decide)
 replace f67 := N.keep 67 _ (by decide) f67
 replace f72 := N.keep 72 _ (by decide) f72
 clear f74
 replace f79 := N.keep 79 _ (by decide) f79
 have f75 := N.got
 clear N a11
 refine Ord.take R (k := 13) (v := .int .i64 ((col : Int) + (m : Int))) (bs' := (Ord.upto 17 19)) rfl (by kernel_rfl) hQ (R.opened (j := 4) rfl f67) hS (fun w _ hS => by have e72 := f72; unfold Chain.At at e72; have e75 := f75; unfold Chain.At at e75; have q0 := hsum; clear F; go_simp) (F.lt (by decide)) fun a13 N => ?_
 replace F := F.next N (by decide)
 replace f67 := N.keep 67 _ (by decide) f67
 clear f72
 clear f75
 replace f79 := N.keep 79 _ (by decide) f79
 have f76 := N.got
 clear N a12
 refine Ord.take R (k := 17) (v := .bool bb) (bs' := (Ord.upto 18 19)) rfl (by kernel_rfl) hQ (R.opened (j := 4) rfl f67) hS (fun w _ hS => by have e76 := f76; unfold Chain.At at e76; have e79 := f79; unfold Chain.At at e79; have q0 := hle; clear F; go_simp) (F.lt (by decide)) fun a17 N => ?_
 replace F := F.next N (by decide)
 replace f67 := N.keep 67 _ (by decide) f67
 clear f76
 clear f79
 have f80 := N.got
 clear N a13
 refine Ord.take R (k := 18) (v := .bool bb) (bs' := (Ord.upto 19 19)) rfl (by kernel_rfl) hQ trivial hS (fun w _ hS => Ord.ev_pick_yes f67.ev f80.ev) (F.lt (by decide)) fun a18 N => ?_
 replace F := F.next N (by decide)
 clear f67
 clear f80
 have f81 := N.got
 clear N a17
 exact Ord.finish R (by kernel_rfl) (h _ _ F f81 hS)
set_option maxRecDepth 100000 in
theorem own14_frame {a : Act} {w : World} {K : Act → World → Prop} {v0 v1 v2 v3 v4 v5 v6 v7 v8 v9 v10 v11 v12 v13 v14 v15 v16 v17 v18 v19 v20 v21 v22 v23 v24 v25 v26 v27 v28 v29 v30 v31 v32 v33 v34 v35 v36 v37 v38 v39 v40 v41 v42 v43 v44 v45 v46 v47 v48 v49 v50 v51 v52 v53 v54 v55 v56 v57 v58 v59 v60 v61 v62 v81 v82 v83 v84 v85 v86 v87 v88 v89 v90 v91 v92 v93 v94 v95 v96 v97 v98 v99 v100 v101 v102 : Value} (hz : a.tmps.size = 103) (hd : a.defers = []) (f0 : Chain.At a 0 v0) (f1 : Chain.At a 1 v1) (f2 : Chain.At a 2 v2) (f3 : Chain.At a 3 v3) (f4 : Chain.At a 4 v4) (f5 : Chain.At a 5 v5) (f6 : Chain.At a 6 v6) (f7 : Chain.At a 7 v7) (f8 : Chain.At a 8 v8) (f9 : Chain.At a 9 v9) (f10 : Chain.At a 10 v10) (f11 : Chain.At a 11 v11) (f12 : Chain.At a 12 v12) (f13 : Chain.At a 13 v13) (f14 : Chain.At a 14 v14) (f15 : Chain.At a 15 v15) (f16 : Chain.At a 16 v16) (f17 : Chain.At a 17 v17) (f18 : Chain.At a 18 v18) (f19 : Chain.At a 19 v19) (f20 : Chain.At a 20 v20) (f21 : Chain.At a 21 v21) (f22 : Chain.At a 22 v22) (f23 : Chain.At a 23 v23) (f24 : Chain.At a 24 v24) (f25 : Chain.At a 25 v25) (f26 : Chain.At a 26 v26) (f27 : Chain.At a 27 v27) (f28 : Chain.At a 28 v28) (f29 : Chain.At a 29 v29) (f30 : Chain.At a 30 v30) (f31 : Chain.At a 31 v31) (f32 : Chain.At a 32 v32) (f33 : Chain.At a 33 v33) (f34 : Chain.At a 34 v34) (f35 : Chain.At a 35 v35) (f36 : Chain.At a 36 v36) (f37 : Chain.At a 37 v37) (f38 : Chain.At a 38 v38) (f39 : Chain.At a 39 v39) (f40 : Chain.At a 40 v40) (f41 : Chain.At a 41 v41) (f42 : Chain.At a 42 v42) (f43 : Chain.At a 43 v43) (f44 : Chain.At a 44 v44) (f45 : Chain.At a 45 v45) (f46 : Chain.At a 46 v46) (f47 : Chain.At a 47 v47) (f48 : Chain.At a 48 v48) (f49 : Chain.At a 49 v49) (f50 : Chain.At a 50 v50) (f51 : Chain.At a 51 v51) (f52 : Chain.At a 52 v52) (f53 : Chain.At a 53 v53) (f54 : Chain.At a 54 v54) (f55 : Chain.At a 55 v55) (f56 : Chain.At a 56 v56) (f57 : Chain.At a 57 v57) (f58 : Chain.At a 58 v58) (f59 : Chain.At a 59 v59) (f60 : Chain.At a 60 v60) (f61 : Chain.At a 61 v61) (f62 : Chain.At a 62 v62) (f81 : Chain.At a 81 v81) (f82 : Chain.At a 82 v82) (f83 : Chain.At a 83 v83) (f84 : Chain.At a 84 v84) (f85 : Chain.At a 85 v85) (f86 : Chain.At a 86 v86) (f87 : Chain.At a 87 v87) (f88 : Chain.At a 88 v88) (f89 : Chain.At a 89 v89) (f90 : Chain.At a 90 v90) (f91 : Chain.At a 91 v91) (f92 : Chain.At a 92 v92) (f93 : Chain.At a 93 v93) (f94 : Chain.At a 94 v94) (f95 : Chain.At a 95 v95) (f96 : Chain.At a 96 v96) (f97 : Chain.At a 97 v97) (f98 : Chain.At a 98 v98) (f99 : Chain.At a 99 v99) (f100 : Chain.At a 100 v100) (f101 : Chain.At a 101 v101) (f102 : Chain.At a 102 v102)
  (h : ∀ u63 u64 u65 u66 u67 u68 u69 u70 u71 u72 u73 u74 u75 u76 u77 u78 u79 u80 : Value, K ⟨#[v0, v1, v2, v3, v4, v5, v6, v7, v8, v9, v10, v11, v12, v13, v14, v15, v16, v17, v18, v19, v20, v21, v22, v23, v24, v25, v26, v27, v28, v29, v30, v31, v32, v33, v34, v35, v36, v37, v38, v39, v40, v41, v42, v43, v44, v45, v46, v47, v48, v49, v50, v51, v52, v53, v54, v55, v56, v57, v58, v59, v60, v61, v62, u63, u64, u65, u66, u67, u68, u69, u70, u71, u72, u73, u74, u75, u76, u77, u78, u79, u80, v81, v82, v83, v84, v85, v86, v87, v88, v89, v90, v91, v92, v93, v94, v95, v96, v97, v98, v99, v100, v101, v102], []⟩ w) : K a w := by
 have e := Ord.frame_out hz hd
 have r : (List.range 103).map (fun i => a.tmps.toList.getD i undef) = [a.tmps.toList.getD 0 undef, a.tmps.toList.getD 1 undef, a.tmps.toList.getD 2 undef, a.tmps.toList.getD 3 undef, a.tmps.toList.getD 4 undef, a.tmps.toList.getD 5 undef, a.tmps.toList.getD 6 undef, a.tmps.toList.getD 7 undef, a.tmps.toList.getD 8 undef, a.tmps.toList.getD 9 undef, a.tmps.toList.getD 10 undef, a.tmps.toList.getD 11 undef, a.tmps.toList.getD 12 undef, a.tmps.toList.getD 13 undef, a.tmps.toList.getD 14 undef, a.tmps.toList.getD 15 undef, a.tmps.toList.getD 16 undef, a.tmps.toList.getD 17 undef, a.tmps.toList.getD 18 undef, a.tmps.toList.getD 19 undef, a.tmps.toList.getD 20 undef, a.tmps.toList.getD 21 undef, a.tmps.toList.getD 22 undef, a.tmps.toList.getD 23 undef, a.tmps.toList.getD 24 undef, a.tmps.toList.getD 25 undef, a.tmps.toList.getD 26 undef, a.tmps.toList.getD 27 undef, a.tmps.toList.getD 28 undef, a.tmps.toList.getD 29 undef, a.tmps.toList.getD 30 undef, a.tmps.toList.getD 31 undef, a.tmps.toList.getD 32 undef, a.tmps.toList.getD 33 undef, a.tmps.toList.getD 34 undef, a.tmps.toList.getD 35 undef, a.tmps.toList.getD 36 undef, a.tmps.toList.getD 37 undef, a.tmps.toList.getD 38 undef, a.tmps.toList.getD 39 undef, a.tmps.toList.getD 40 undef, a.tmps.toList.getD 41 undef, a.tmps.toList.getD 42 undef, a.tmps.toList.getD 43 undef, a.tmps.toList.getD 44 undef, a.tmps.toList.getD 45 undef, a.tmps.toList.getD 46 undef, a.tmps.toList.getD 47 undef, a.tmps.toList.getD 48 undef, a.tmps.toList.getD 49 undef, a.tmps.toList.getD 50 undef, a.tmps.toList.getD 51 undef, a.tmps.toList.getD 52 undef, a.tmps.toList.getD 53 undef, a.tmps.toList.getD 54 undef, a.tmps.toList.getD 55 undef, a.tmps.toList.getD 56 undef, a.tmps.toList.getD 57 undef, a.tmps.toList.getD 58 undef, a.tmps.toList.getD 59 undef, a.tmps.toList.getD 60 undef, a.tmps.toList.getD 61 undef, a.tmps.toList.getD 62 undef, a.tmps.toList.getD 63 undef, a.tmps.toList.getD 64 undef, a.tmps.toList.getD 65 undef, a.tmps.toList.getD 66 undef, a.tmps.toList.getD 67 undef, a.tmps.toList.getD 68 undef, a.tmps.toList.getD 69 undef, a.tmps.toList.getD 70 undef, a.tmps.toList.getD 71 undef, a.tmps.toList.getD 72 undef, a.tmps.toList.getD 73 undef, a.tmps.toList.getD 74 undef, a.tmps.toList.getD 75 undef, a.tmps.toList.getD 76 undef, a.tmps.toList.getD 77 undef, a.tmps.toList.getD 78 undef, a.tmps.toList.getD 79 undef, a.tmps.toList.getD 80 undef, a.tmps.toList.getD 81 undef, a.tmps.toList.getD 82 undef, a.tmps.toList.getD 83 undef, a.tmps.toList.getD 84 undef, a.tmps.toList.getD 85 undef, a.tmps.toList.getD 86 undef, a.tmps.toList.getD 87 undef, a.tmps.toList.getD 88 undef, a.tmps.toList.getD 89 undef, a.tmps.toList.getD 90 undef, a.tmps.toList.getD 91 undef, a.tmps.toList.getD 92 undef, a.tmps.toList.getD 93 undef, a.tmps.toList.getD 94 undef, a.tmps.toList.getD 95 undef, a.tmps.toList.getD 96 undef, a.tmps.toList.getD 97 undef, a.tmps.toList.getD 98 undef, a.tmps.toList.getD 99 undef, a.tmps.toList.getD 100 undef, a.tmps.toList.getD 101 undef, a.tmps.toList.getD 102 undef] := rfl
 rw [r, Ord.at_get f0, Ord.at_get f1, Ord.at_get f2, Ord.at_get f3, Ord.at_get f4, Ord.at_get f5, Ord.at_get f6, Ord.at_get f7, Ord.at_get f8, Ord.at_get f9, Ord.at_get f10, Ord.at_get f11, Ord.at_get f12, Ord.at_get f13, Ord.at_get f14, Ord.at_get f15, Ord.at_get f16, Ord.at_get f17, Ord.at_get f18, Ord.at_get f19, Ord.at_get f20, Ord.at_get f21, Ord.at_get f22, Ord.at_get f23, Ord.at_get f24, Ord.at_get f25, Ord.at_get f26, Ord.at_get f27, Ord.at_get f28, Ord.at_get f29, Ord.at_get f30, Ord.at_get f31, Ord.at_get f32, Ord.at_get f33, Ord.at_get f34, Ord.at_get f35, Ord.at_get f36, Ord.at_get f37, Ord.at_get f38, Ord.at_get f39, Ord.at_get f40, Ord.at_get f41, Ord.at_get f42, Ord.at_get f43, Ord.at_get f44, Ord.at_get f45, Ord.at_get f46, Ord.at_get f47, Ord.at_get f48, Ord.at_get f49, Ord.at_get f50, Ord.at_get f51, Ord.at_get f52, Ord.at_get f53, Ord.at_get f54, Ord.at_get f55, Ord.at_get f56, Ord.at_get f57, Ord.at_get f58, Ord.at_get f59, Ord.at_get f60, Ord.at_get f61, Ord.at_get f62, Ord.at_get f81, Ord.at_get f82, Ord.at_get f83, Ord.at_get f84, Ord.at_get f85, Ord.at_get f86, Ord.at_get f87, Ord.at_get f88, Ord.at_get f89, Ord.at_get f90, Ord.at_get f91, Ord.at_get f92, Ord.at_get f93, Ord.at_get f94, Ord.at_get f95, Ord.at_get f96, Ord.at_get f97, Ord.at_get f98, Ord.at_get f99, Ord.at_get f100, Ord.at_get f101, Ord.at_get f102] at e
 rw [e]
 exact h _ _ _ _ _ _ _ _ _ _ _ _ _ _ _ _ _ _
end Rw
end Go.Proofs.YtgcfpfhmjhkgnaaGreatDoor
