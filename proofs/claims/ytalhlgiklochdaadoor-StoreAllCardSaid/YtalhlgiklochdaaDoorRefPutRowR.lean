/-
  The reference's PutRow: the statement that puts a run's four numbers behind each other.
-/
import Derived.Test.YtalhlgiklochdaaDoorOrder
import Derived.Test.YtalhlgiklochdaaDoorUint
namespace Go.Proofs.YtalhlgiklochdaaDoor
open Go.ChangeShapes Go.WideShapes Go.ChangeAt Go.RowKit

theorem Grew.of_below {v : Value} {w w' : World} (h : Below w.heap.size w w') : Grew v v w w' := ⟨⟨h.os, h.tape, h.output, h.size, fun k hk _ => h.block k hk⟩, .inl rfl⟩
theorem Grew.of_append {v v' : Value} {w w' : World} (h : w.grownBy w' v.ownBlock) (k : v'.ownBlock = v.ownBlock ∨ v'.ownBlock = some w.heap.size) : Grew v v' w w' := ⟨h, k.imp id fun e => ⟨_, e, Nat.le_refl _⟩⟩
theorem bytes_one (l : List Int) : ∀ u ∈ l.map (Value.int .u8), u.oneCell' = true := by
  intro u hu
  obtain ⟨x, _, rfl⟩ := List.mem_map.1 hu
  rfl
theorem hasB_append {w : World} {base : Nat} {v : Value} {l m : List Int} (h : w.ownsRow base 5 1 v (l.length + m.length) (l.map (Value.int .u8) ++ m.map (Value.int .u8))) : HasB w base v (l ++ m) := by
  unfold HasB
  rw [List.length_append, List.map_append]
  exact h
theorem fitb3 {a b : Nat} (h : a ≤ 1000000) (k : b ≤ 10) : a + b ≤ maxLen := by unfold maxLen; omega
theorem fitb4 {a b : Nat} (h : a ≤ 1000000) (k : b ≤ 10) : (a + b) * 1 ≤ 140737488355328 := by omega

def refPutL : List Ord.Line := [
  (some 47, Go.Op.move (Go.Operand.tmp 5), none, []),
  (some 48, Go.Op.move (Go.Operand.tmp 7), none, []),
  (some 49, Go.Op.convert 3 22 (Go.Operand.tmp 48), none, [1]),
  (some 50, Go.Op.call { callee := Go.Callee.value (Go.Operand.func 22), args := #[Go.Operand.tmp 49], argTypes := #[22] }, none, [2]),
  (some 51, Go.Op.call { callee := Go.Callee.builtin Go.Builtin.append, args := #[Go.Operand.tmp 47, Go.Operand.tmp 50], argTypes := #[23, 23] }, none, [0, 3, 3]),
  (some 52, Go.Op.fieldAddr 45 (Go.Operand.tmp 8) 0, none, []),
  (some 53, Go.Op.load 21 (Go.Operand.tmp 52), none, [5]),
  (some 54, Go.Op.convert 21 22 (Go.Operand.tmp 53), none, [6]),
  (some 55, Go.Op.call { callee := Go.Callee.value (Go.Operand.func 22), args := #[Go.Operand.tmp 54], argTypes := #[22] }, none, [7, 4]),
  (some 56, Go.Op.call { callee := Go.Callee.builtin Go.Builtin.append, args := #[Go.Operand.tmp 51, Go.Operand.tmp 55], argTypes := #[23, 23] }, none, [4, 8, 8]),
  (some 57, Go.Op.fieldAddr 45 (Go.Operand.tmp 8) 1, none, []),
  (some 58, Go.Op.load 3 (Go.Operand.tmp 57), none, [10]),
  (some 59, Go.Op.convert 3 22 (Go.Operand.tmp 58), none, [11]),
  (some 60, Go.Op.call { callee := Go.Callee.value (Go.Operand.func 22), args := #[Go.Operand.tmp 59], argTypes := #[22] }, none, [12, 9]),
  (some 61, Go.Op.call { callee := Go.Callee.builtin Go.Builtin.append, args := #[Go.Operand.tmp 56, Go.Operand.tmp 60], argTypes := #[23, 23] }, none, [9, 13, 13]),
  (some 62, Go.Op.fieldAddr 45 (Go.Operand.tmp 8) 2, none, []),
  (some 63, Go.Op.load 3 (Go.Operand.tmp 62), none, [15]),
  (some 64, Go.Op.convert 3 22 (Go.Operand.tmp 63), none, [16]),
  (some 65, Go.Op.call { callee := Go.Callee.value (Go.Operand.func 22), args := #[Go.Operand.tmp 64], argTypes := #[22] }, none, [17, 14]),
  (some 66, Go.Op.call { callee := Go.Callee.builtin Go.Builtin.append, args := #[Go.Operand.tmp 61, Go.Operand.tmp 65], argTypes := #[23, 23] }, none, [14, 18, 18]),
  (some 5, Go.Op.assign (Go.Operand.tmp 66), none, [19, 19, 0, 1, 2, 3, 4, 5, 6, 7, 8, 9, 10, 11, 12, 13, 14, 15, 16, 17, 18, 19])]

/-- The slots that are known all the way. -/
structure PutFr (cnt g8 : Nat) (p0 p1 p2 p3 p4 p6 p10 p11 p12 : Value) (a : Act) : Prop where
  size : a.tmps.size = 83
  defers : a.defers = []
  s0 : Chain.At a 0 (p0)
  s1 : Chain.At a 1 (p1)
  s2 : Chain.At a 2 (p2)
  s3 : Chain.At a 3 (p3)
  s4 : Chain.At a 4 (p4)
  s6 : Chain.At a 6 (p6)
  s7 : Chain.At a 7 (.int .i64 (cnt : Int))
  s8 : Chain.At a 8 (.pointer (some ⟨g8, 0, none⟩))
  s9 : Chain.At a 9 (undef)
  s10 : Chain.At a 10 (p10)
  s11 : Chain.At a 11 (p11)
  s12 : Chain.At a 12 (p12)
  s72 : Chain.At a 72 (undef)
  s73 : Chain.At a 73 (undef)
  s74 : Chain.At a 74 (undef)
  s75 : Chain.At a 75 (undef)
  s76 : Chain.At a 76 (undef)
  s77 : Chain.At a 77 (undef)
  s78 : Chain.At a 78 (undef)
  s79 : Chain.At a 79 (undef)
  s80 : Chain.At a 80 (undef)
  s81 : Chain.At a 81 (undef)
  s82 : Chain.At a 82 (undef)
theorem PutFr.next {cnt g8 : Nat} {p0 p1 p2 p3 p4 p6 p10 p11 p12 : Value} {a a' : Act} {d : Nat} {v : Value} (F : PutFr cnt g8 p0 p1 p2 p3 p4 p6 p10 p11 p12 a) (nx : Chain.Next a a' d v) (h : d ≠ 0 ∧ d ≠ 1 ∧ d ≠ 2 ∧ d ≠ 3 ∧ d ≠ 4 ∧ d ≠ 6 ∧ d ≠ 7 ∧ d ≠ 8 ∧ d ≠ 9 ∧ d ≠ 10 ∧ d ≠ 11 ∧ d ≠ 12 ∧ d ≠ 72 ∧ d ≠ 73 ∧ d ≠ 74 ∧ d ≠ 75 ∧ d ≠ 76 ∧ d ≠ 77 ∧ d ≠ 78 ∧ d ≠ 79 ∧ d ≠ 80 ∧ d ≠ 81 ∧ d ≠ 82) : PutFr cnt g8 p0 p1 p2 p3 p4 p6 p10 p11 p12 a' := ⟨nx.size.trans F.size, nx.defers.trans F.defers, nx.keep 0 _ h.1 F.s0, nx.keep 1 _ h.2.1 F.s1, nx.keep 2 _ h.2.2.1 F.s2, nx.keep 3 _ h.2.2.2.1 F.s3, nx.keep 4 _ h.2.2.2.2.1 F.s4, nx.keep 6 _ h.2.2.2.2.2.1 F.s6, nx.keep 7 _ h.2.2.2.2.2.2.1 F.s7, nx.keep 8 _ h.2.2.2.2.2.2.2.1 F.s8, nx.keep 9 _ h.2.2.2.2.2.2.2.2.1 F.s9, nx.keep 10 _ h.2.2.2.2.2.2.2.2.2.1 F.s10, nx.keep 11 _ h.2.2.2.2.2.2.2.2.2.2.1 F.s11, nx.keep 12 _ h.2.2.2.2.2.2.2.2.2.2.2.1 F.s12, nx.keep 72 _ h.2.2.2.2.2.2.2.2.2.2.2.2.1 F.s72, nx.keep 73 _ h.2.2.2.2.2.2.2.2.2.2.2.2.2.1 F.s73, nx.keep 74 _ h.2.2.2.2.2.2.2.2.2.2.2.2.2.2.1 F.s74, nx.keep 75 _ h.2.2.2.2.2.2.2.2.2.2.2.2.2.2.2.1 F.s75, nx.keep 76 _ h.2.2.2.2.2.2.2.2.2.2.2.2.2.2.2.2.1 F.s76, nx.keep 77 _ h.2.2.2.2.2.2.2.2.2.2.2.2.2.2.2.2.2.1 F.s77, nx.keep 78 _ h.2.2.2.2.2.2.2.2.2.2.2.2.2.2.2.2.2.2.1 F.s78, nx.keep 79 _ h.2.2.2.2.2.2.2.2.2.2.2.2.2.2.2.2.2.2.2.1 F.s79, nx.keep 80 _ h.2.2.2.2.2.2.2.2.2.2.2.2.2.2.2.2.2.2.2.2.1 F.s80, nx.keep 81 _ h.2.2.2.2.2.2.2.2.2.2.2.2.2.2.2.2.2.2.2.2.2.1 F.s81, nx.keep 82 _ h.2.2.2.2.2.2.2.2.2.2.2.2.2.2.2.2.2.2.2.2.2.2 F.s82⟩
theorem PutFr.lt {cnt g8 : Nat} {p0 p1 p2 p3 p4 p6 p10 p11 p12 : Value} {a : Act} {d : Nat} (F : PutFr cnt g8 p0 p1 p2 p3 p4 p6 p10 p11 p12 a) (h : d < 83) : d < a.tmps.size := by rw [F.size]; exact h

set_option maxRecDepth 100000 in
theorem refPut_four {ops : Array Oper} {Q : Exit → Act → World → Prop} (R : Ord.Reg ops refPutL) (hQ : ∀ c a w d v, Q (.panic c) (Act.put a (some d) v) w → Q (.panic c) a w) {w0 : World} {cnt r m a0 g8 base : Nat} {got : List Int} {u : Value}
    (hcnt : cnt < 2 ^ 64) (hr : r < 2 ^ 64) (hm : m < 2 ^ 64) (ha0 : a0 < 2 ^ 64) (hgot : got.length ≤ 900000) (hg8 : g8 < w0.heap.size) (hun : ∀ k, u.ownBlock = some k → k < g8) (hbase : base ≤ w0.heap.size) (H : HasB w0 base u got) (hS0 : CellAt w0 g8 ((r : Int), (m : Int), (a0 : Int)))
    {p0 p1 p2 p3 p4 p6 p10 p11 p12 : Value} (a : Act) (F : PutFr cnt g8 p0 p1 p2 p3 p4 p6 p10 p11 p12 a) (f5 : Chain.At a 5 u)
    (h : ∀ a w v, PutFr cnt g8 p0 p1 p2 p3 p4 p6 p10 p11 p12 a → Chain.At a 5 v → HasB w base v (got ++ uintL cnt ++ uintL r ++ uintL m ++ uintL a0) → Grew u v w0 w → Q .normal a w) :
    wpAnyH Tryd.prog .any ops Q (fun w' => CellAt w' g8 ((r : Int), (m : Int), (a0 : Int))) 21 (List.replicate 21 false).toArray a w0 := by
  obtain ⟨i0, hi, hz0, hz1, hz2⟩ := info_parts infoByte
  have hS := hS0
  have G : Grew u u w0 w0 := Grew.refl _ _
  refine Ord.take R (k := 0) (v := u) (bs' := (Ord.upto 1 21)) rfl (by kernel_rfl) hQ trivial hS (fun w _ hS => Chain.ev_move f5.ev) (F.lt (by decide)) fun a0 N => ?_
  replace F := F.next N (by decide)
  replace f5 := N.keep 5 _ (by decide) f5
  have f47 := N.got
  clear N a
  refine Ord.take R (k := 1) (v := .int .i64 (cnt : Int)) (bs' := (Ord.upto 2 21)) rfl (by kernel_rfl) hQ trivial hS (fun w _ hS => Chain.ev_move F.s7.ev) (F.lt (by decide)) fun a1 N => ?_
  replace F := F.next N (by decide)
  replace f5 := N.keep 5 _ (by decide) f5
  replace f47 := N.keep 47 _ (by decide) f47
  have f48 := N.got
  clear N a0
  refine Ord.take R (k := 2) (v := .int .u64 (cnt : Int)) (bs' := (Ord.upto 3 21)) rfl (by kernel_rfl) hQ trivial hS (fun w _ hS => by have e48 := f48; unfold Chain.At at e48; have q0 := wrap_u64 hcnt; clear F; go_simp) (F.lt (by decide)) fun a2 N => ?_
  replace F := F.next N (by decide)
  replace f5 := N.keep 5 _ (by decide) f5
  replace f47 := N.keep 47 _ (by decide) f47
  clear f48
  have f49 := N.got
  clear N a1
  refine Ord.take R (k := 5) (v := .pointer (some ⟨g8, 0, none⟩)) (bs' := [true, true, true, false, false, true, false, false, false, false, false, false, false, false, false, false, false, false, false, false, false]) rfl (by kernel_rfl) hQ trivial hS (fun w _ hS => by have e8 := F.s8; unfold Chain.At at e8; clear F; go_simp) (F.lt (by decide)) fun a5 N => ?_
  replace F := F.next N (by decide)
  replace f5 := N.keep 5 _ (by decide) f5
  replace f47 := N.keep 47 _ (by decide) f47
  replace f49 := N.keep 49 _ (by decide) f49
  have f52 := N.got
  clear N a2
  refine Ord.take R (k := 6) (v := .int .i32 (r : Int)) (bs' := [true, true, true, false, false, true, true, false, false, false, false, false, false, false, false, false, false, false, false, false, false]) rfl (by kernel_rfl) hQ trivial hS (fun w _ hS => by have e52 := f52; unfold Chain.At at e52; have q0 := show w.cell? ⟨g8, 0, none⟩ = some (.int .i32 (r : Int)) from hS.get 0; clear F; go_simp) (F.lt (by decide)) fun a6 N => ?_
  replace F := F.next N (by decide)
  replace f5 := N.keep 5 _ (by decide) f5
  replace f47 := N.keep 47 _ (by decide) f47
  replace f49 := N.keep 49 _ (by decide) f49
  clear f52
  have f53 := N.got
  clear N a5
  refine Ord.take R (k := 7) (v := .int .u64 (r : Int)) (bs' := [true, true, true, false, false, true, true, true, false, false, false, false, false, false, false, false, false, false, false, false, false]) rfl (by kernel_rfl) hQ trivial hS (fun w _ hS => by have e53 := f53; unfold Chain.At at e53; have q0 := wrap_u64 hr; clear F; go_simp) (F.lt (by decide)) fun a7 N => ?_
  replace F := F.next N (by decide)
  replace f5 := N.keep 5 _ (by decide) f5
  replace f47 := N.keep 47 _ (by decide) f47
  replace f49 := N.keep 49 _ (by decide) f49
  clear f53
  have f54 := N.got
  clear N a6
  refine Ord.take R (k := 10) (v := .pointer (some ⟨g8, 1, none⟩)) (bs' := [true, true, true, false, false, true, true, true, false, false, true, false, false, false, false, false, false, false, false, false, false]) rfl (by kernel_rfl) hQ trivial hS (fun w _ hS => by have e8 := F.s8; unfold Chain.At at e8; clear F; go_simp) (F.lt (by decide)) fun a10 N => ?_
  replace F := F.next N (by decide)
  replace f5 := N.keep 5 _ (by decide) f5
  replace f47 := N.keep 47 _ (by decide) f47
  replace f49 := N.keep 49 _ (by decide) f49
  replace f54 := N.keep 54 _ (by decide) f54
  have f57 := N.got
  clear N a7
  refine Ord.take R (k := 11) (v := .int .i64 (m : Int)) (bs' := [true, true, true, false, false, true, true, true, false, false, true, true, false, false, false, false, false, false, false, false, false]) rfl (by kernel_rfl) hQ trivial hS (fun w _ hS => by have e57 := f57; unfold Chain.At at e57; have q0 := show w.cell? ⟨g8, 1, none⟩ = some (.int .i64 (m : Int)) from hS.get 1; clear F; go_simp) (F.lt (by decide)) fun a11 N => ?_
  replace F := F.next N (by decide)
  replace f5 := N.keep 5 _ (by decide) f5
  replace f47 := N.keep 47 _ (by decide) f47
  replace f49 := N.keep 49 _ (by decide) f49
  replace f54 := N.keep 54 _ (by decide) f54
  clear f57
  have f58 := N.got
  clear N a10
  refine Ord.take R (k := 12) (v := .int .u64 (m : Int)) (bs' := [true, true, true, false, false, true, true, true, false, false, true, true, true, false, false, false, false, false, false, false, false]) rfl (by kernel_rfl) hQ trivial hS (fun w _ hS => by have e58 := f58; unfold Chain.At at e58; have q0 := wrap_u64 hm; clear F; go_simp) (F.lt (by decide)) fun a12 N => ?_
  replace F := F.next N (by decide)
  replace f5 := N.keep 5 _ (by decide) f5
  replace f47 := N.keep 47 _ (by decide) f47
  replace f49 := N.keep 49 _ (by decide) f49
  replace f54 := N.keep 54 _ (by decide) f54
  clear f58
  have f59 := N.got
  clear N a11
  refine Ord.take R (k := 15) (v := .pointer (some ⟨g8, 2, none⟩)) (bs' := [true, true, true, false, false, true, true, true, false, false, true, true, true, false, false, true, false, false, false, false, false]) rfl (by kernel_rfl) hQ trivial hS (fun w _ hS => by have e8 := F.s8; unfold Chain.At at e8; clear F; go_simp) (F.lt (by decide)) fun a15 N => ?_
  replace F := F.next N (by decide)
  replace f5 := N.keep 5 _ (by decide) f5
  replace f47 := N.keep 47 _ (by decide) f47
  replace f49 := N.keep 49 _ (by decide) f49
  replace f54 := N.keep 54 _ (by decide) f54
  replace f59 := N.keep 59 _ (by decide) f59
  have f62 := N.got
  clear N a12
  refine Ord.take R (k := 16) (v := .int .i64 (a0 : Int)) (bs' := [true, true, true, false, false, true, true, true, false, false, true, true, true, false, false, true, true, false, false, false, false]) rfl (by kernel_rfl) hQ trivial hS (fun w _ hS => by have e62 := f62; unfold Chain.At at e62; have q0 := show w.cell? ⟨g8, 2, none⟩ = some (.int .i64 (a0 : Int)) from hS.get 2; clear F; go_simp) (F.lt (by decide)) fun a16 N => ?_
  replace F := F.next N (by decide)
  replace f5 := N.keep 5 _ (by decide) f5
  replace f47 := N.keep 47 _ (by decide) f47
  replace f49 := N.keep 49 _ (by decide) f49
  replace f54 := N.keep 54 _ (by decide) f54
  replace f59 := N.keep 59 _ (by decide) f59
  clear f62
  have f63 := N.got
  clear N a15
  refine Ord.take R (k := 17) (v := .int .u64 (a0 : Int)) (bs' := [true, true, true, false, false, true, true, true, false, false, true, true, true, false, false, true, true, true, false, false, false]) rfl (by kernel_rfl) hQ trivial hS (fun w _ hS => by have e63 := f63; unfold Chain.At at e63; have q0 := wrap_u64 ha0; clear F; go_simp) (F.lt (by decide)) fun a17 N => ?_
  replace F := F.next N (by decide)
  replace f5 := N.keep 5 _ (by decide) f5
  replace f47 := N.keep 47 _ (by decide) f47
  replace f49 := N.keep 49 _ (by decide) f49
  replace f54 := N.keep 54 _ (by decide) f54
  replace f59 := N.keep 59 _ (by decide) f59
  clear f63
  have f64 := N.got
  clear N a16
  refine Ord.call R (k := 3) (args := #[.int .u64 (cnt : Int)]) (bs' := [true, true, true, true, false, true, true, true, false, false, true, true, true, false, false, true, true, true, false, false, false]) rfl (by kernel_rfl) trivial (by simp [f49.ev]) (by kernel_rfl) (refUint_walk cnt hcnt _) (F.lt (by decide)) ?_
  rintro e w ⟨v1, rfl, hv1, hb1⟩
  obtain ⟨A1, d1, rfl⟩ := hv1.shape
  have QV := hv1.sq
  replace H := H.below hb1 H.lt
  replace G := G.trans (Grew.of_below hb1)
  have hz := G.by'.size
  replace hS := hS.below hb1 hS.lt
  clear hb1 hv1
  refine ⟨_, rfl, hS, fun a3 N => ?_⟩
  replace F := F.next N (by decide)
  replace f5 := N.keep 5 _ (by decide) f5
  replace f47 := N.keep 47 _ (by decide) f47
  clear f49
  replace f54 := N.keep 54 _ (by decide) f54
  replace f59 := N.keep 59 _ (by decide) f59
  replace f64 := N.keep 64 _ (by decide) f64
  have f50 := N.got
  clear N a17
  refine Ord.append R (k := 4) (.tmp 47) (.tmp 50) 23 (bs' := [true, true, true, true, true, true, true, true, false, false, true, true, true, false, false, true, true, true, false, false, false]) rfl (by kernel_rfl) trivial (F.lt (by decide)) base 5 i0 (.int .u8 0) 1 1 Tryd.underlying23 hi hz0 hz1 hz2 rfl (by decide) u _ _ f47.ev H A1 _ d1 _ f50.ev _ QV (bytes_one _) (fitb3 (by skip; omega) (uintL_len hcnt)) (fitb4 (by skip; omega) (uintL_len hcnt)) (by omega) ?_
  intro A' c' w1 hown hg hat
  replace H := hasB_append hown
  replace G := G.trans (Grew.of_append hg hat)
  replace hz := G.by'.size
  replace hS : CellAt w1 g8 ((r : Int), (m : Int), (a0 : Int)) := (G.keeps hg8 hun).trans hS0
  have hl1 := uintL_len hcnt
  obtain ⟨B1, hB1⟩ : ∃ B, Value.slice A' (got.length + (uintL cnt).length) c' = B := ⟨_, rfl⟩
  rw [hB1] at H G ⊢
  clear QV hown hg hat hB1
  refine ⟨hS, fun a4 N => ?_⟩
  replace F := F.next N (by decide)
  replace f5 := N.keep 5 _ (by decide) f5
  clear f47
  clear f50
  replace f54 := N.keep 54 _ (by decide) f54
  replace f59 := N.keep 59 _ (by decide) f59
  replace f64 := N.keep 64 _ (by decide) f64
  have f51 := N.got
  clear N a3
  refine Ord.call R (k := 8) (args := #[.int .u64 (r : Int)]) (bs' := [true, true, true, true, true, true, true, true, true, false, true, true, true, false, false, true, true, true, false, false, false]) rfl (by kernel_rfl) trivial (by simp [f54.ev]) (by kernel_rfl) (refUint_walk r hr _) (F.lt (by decide)) ?_
  rintro e w ⟨v2, rfl, hv2, hb2⟩
  obtain ⟨A2, d2, rfl⟩ := hv2.shape
  have QV := hv2.sq
  replace H := H.below hb2 H.lt
  replace G := G.trans (Grew.of_below hb2)
  have hz := G.by'.size
  replace hS := hS.below hb2 hS.lt
  clear hb2 hv2
  refine ⟨_, rfl, hS, fun a8 N => ?_⟩
  replace F := F.next N (by decide)
  replace f5 := N.keep 5 _ (by decide) f5
  replace f51 := N.keep 51 _ (by decide) f51
  clear f54
  replace f59 := N.keep 59 _ (by decide) f59
  replace f64 := N.keep 64 _ (by decide) f64
  have f55 := N.got
  clear N a4
  refine Ord.append R (k := 9) (.tmp 51) (.tmp 55) 23 (bs' := [true, true, true, true, true, true, true, true, true, true, true, true, true, false, false, true, true, true, false, false, false]) rfl (by kernel_rfl) trivial (F.lt (by decide)) base 5 i0 (.int .u8 0) 1 1 Tryd.underlying23 hi hz0 hz1 hz2 rfl (by decide) B1 _ _ f51.ev H A2 _ d2 _ f55.ev _ QV (bytes_one _) (fitb3 (by simp only [List.length_append]; omega) (uintL_len hr)) (fitb4 (by simp only [List.length_append]; omega) (uintL_len hr)) (by omega) ?_
  intro A' c' w2 hown hg hat
  replace H := hasB_append hown
  replace G := G.trans (Grew.of_append hg hat)
  replace hz := G.by'.size
  replace hS : CellAt w2 g8 ((r : Int), (m : Int), (a0 : Int)) := (G.keeps hg8 hun).trans hS0
  have hl2 := uintL_len hr
  obtain ⟨B2, hB2⟩ : ∃ B, Value.slice A' ((got ++ uintL cnt).length + (uintL r).length) c' = B := ⟨_, rfl⟩
  rw [hB2] at H G ⊢
  clear QV hown hg hat hB2
  refine ⟨hS, fun a9 N => ?_⟩
  replace F := F.next N (by decide)
  replace f5 := N.keep 5 _ (by decide) f5
  clear f51
  clear f55
  replace f59 := N.keep 59 _ (by decide) f59
  replace f64 := N.keep 64 _ (by decide) f64
  have f56 := N.got
  clear N a8
  refine Ord.call R (k := 13) (args := #[.int .u64 (m : Int)]) (bs' := [true, true, true, true, true, true, true, true, true, true, true, true, true, true, false, true, true, true, false, false, false]) rfl (by kernel_rfl) trivial (by simp [f59.ev]) (by kernel_rfl) (refUint_walk m hm _) (F.lt (by decide)) ?_
  rintro e w ⟨v3, rfl, hv3, hb3⟩
  obtain ⟨A3, d3, rfl⟩ := hv3.shape
  have QV := hv3.sq
  replace H := H.below hb3 H.lt
  replace G := G.trans (Grew.of_below hb3)
  have hz := G.by'.size
  replace hS := hS.below hb3 hS.lt
  clear hb3 hv3
  refine ⟨_, rfl, hS, fun a13 N => ?_⟩
  replace F := F.next N (by decide)
  replace f5 := N.keep 5 _ (by decide) f5
  replace f56 := N.keep 56 _ (by decide) f56
  clear f59
  replace f64 := N.keep 64 _ (by decide) f64
  have f60 := N.got
  clear N a9
  refine Ord.append R (k := 14) (.tmp 56) (.tmp 60) 23 (bs' := (Ord.upto 18 21)) rfl (by kernel_rfl) trivial (F.lt (by decide)) base 5 i0 (.int .u8 0) 1 1 Tryd.underlying23 hi hz0 hz1 hz2 rfl (by decide) B2 _ _ f56.ev H A3 _ d3 _ f60.ev _ QV (bytes_one _) (fitb3 (by simp only [List.length_append]; omega) (uintL_len hm)) (fitb4 (by simp only [List.length_append]; omega) (uintL_len hm)) (by omega) ?_
  intro A' c' w3 hown hg hat
  replace H := hasB_append hown
  replace G := G.trans (Grew.of_append hg hat)
  replace hz := G.by'.size
  replace hS : CellAt w3 g8 ((r : Int), (m : Int), (a0 : Int)) := (G.keeps hg8 hun).trans hS0
  have hl3 := uintL_len hm
  obtain ⟨B3, hB3⟩ : ∃ B, Value.slice A' ((got ++ uintL cnt ++ uintL r).length + (uintL m).length) c' = B := ⟨_, rfl⟩
  rw [hB3] at H G ⊢
  clear QV hown hg hat hB3
  refine ⟨hS, fun a14 N => ?_⟩
  replace F := F.next N (by decide)
  replace f5 := N.keep 5 _ (by decide) f5
  clear f56
  clear f60
  replace f64 := N.keep 64 _ (by decide) f64
  have f61 := N.got
  clear N a13
  refine Ord.call R (k := 18) (args := #[.int .u64 (a0 : Int)]) (bs' := (Ord.upto 19 21)) rfl (by kernel_rfl) trivial (by simp [f64.ev]) (by kernel_rfl) (refUint_walk a0 ha0 _) (F.lt (by decide)) ?_
  rintro e w ⟨v4, rfl, hv4, hb4⟩
  obtain ⟨A4, d4, rfl⟩ := hv4.shape
  have QV := hv4.sq
  replace H := H.below hb4 H.lt
  replace G := G.trans (Grew.of_below hb4)
  have hz := G.by'.size
  replace hS := hS.below hb4 hS.lt
  clear hb4 hv4
  refine ⟨_, rfl, hS, fun a18 N => ?_⟩
  replace F := F.next N (by decide)
  replace f5 := N.keep 5 _ (by decide) f5
  replace f61 := N.keep 61 _ (by decide) f61
  clear f64
  have f65 := N.got
  clear N a14
  refine Ord.append R (k := 19) (.tmp 61) (.tmp 65) 23 (bs' := (Ord.upto 20 21)) rfl (by kernel_rfl) trivial (F.lt (by decide)) base 5 i0 (.int .u8 0) 1 1 Tryd.underlying23 hi hz0 hz1 hz2 rfl (by decide) B3 _ _ f61.ev H A4 _ d4 _ f65.ev _ QV (bytes_one _) (fitb3 (by simp only [List.length_append]; omega) (uintL_len ha0)) (fitb4 (by simp only [List.length_append]; omega) (uintL_len ha0)) (by omega) ?_
  intro A' c' w4 hown hg hat
  replace H := hasB_append hown
  replace G := G.trans (Grew.of_append hg hat)
  replace hz := G.by'.size
  replace hS : CellAt w4 g8 ((r : Int), (m : Int), (a0 : Int)) := (G.keeps hg8 hun).trans hS0
  have hl4 := uintL_len ha0
  obtain ⟨B4, hB4⟩ : ∃ B, Value.slice A' ((got ++ uintL cnt ++ uintL r ++ uintL m).length + (uintL a0).length) c' = B := ⟨_, rfl⟩
  rw [hB4] at H G ⊢
  clear QV hown hg hat hB4
  refine ⟨hS, fun a19 N => ?_⟩
  replace F := F.next N (by decide)
  replace f5 := N.keep 5 _ (by decide) f5
  clear f61
  clear f65
  have f66 := N.got
  clear N a18
  refine Ord.take R (k := 20) (v := B4) (bs' := (Ord.upto 21 21)) rfl (by kernel_rfl) hQ trivial hS (fun w _ hS => Chain.ev_assign f66.ev) (F.lt (by decide)) fun a20 N => ?_
  replace F := F.next N (by decide)
  clear f5
  clear f66
  have f5 := N.got
  clear N a19
  exact Ord.finish R (by kernel_rfl) (h _ _ _ F f5 H G)

set_option maxRecDepth 100000 in
/-- The frame written out, its known slots in their places. -/
theorem refPut_frame {a : Act} {w : World} {K : Act → World → Prop} {v0 v1 v2 v3 v4 v5 v6 v7 v8 v9 v10 v11 v12 v72 v73 v74 v75 v76 v77 v78 v79 v80 v81 v82 : Value} (hz : a.tmps.size = 83) (hd : a.defers = []) (f0 : Chain.At a 0 v0) (f1 : Chain.At a 1 v1) (f2 : Chain.At a 2 v2) (f3 : Chain.At a 3 v3) (f4 : Chain.At a 4 v4) (f5 : Chain.At a 5 v5) (f6 : Chain.At a 6 v6) (f7 : Chain.At a 7 v7) (f8 : Chain.At a 8 v8) (f9 : Chain.At a 9 v9) (f10 : Chain.At a 10 v10) (f11 : Chain.At a 11 v11) (f12 : Chain.At a 12 v12) (f72 : Chain.At a 72 v72) (f73 : Chain.At a 73 v73) (f74 : Chain.At a 74 v74) (f75 : Chain.At a 75 v75) (f76 : Chain.At a 76 v76) (f77 : Chain.At a 77 v77) (f78 : Chain.At a 78 v78) (f79 : Chain.At a 79 v79) (f80 : Chain.At a 80 v80) (f81 : Chain.At a 81 v81) (f82 : Chain.At a 82 v82)
    (h : ∀ u13 u14 u15 u16 u17 u18 u19 u20 u21 u22 u23 u24 u25 u26 u27 u28 u29 u30 u31 u32 u33 u34 u35 u36 u37 u38 u39 u40 u41 u42 u43 u44 u45 u46 u47 u48 u49 u50 u51 u52 u53 u54 u55 u56 u57 u58 u59 u60 u61 u62 u63 u64 u65 u66 u67 u68 u69 u70 u71 : Value, K ⟨#[v0, v1, v2, v3, v4, v5, v6, v7, v8, v9, v10, v11, v12, u13, u14, u15, u16, u17, u18, u19, u20, u21, u22, u23, u24, u25, u26, u27, u28, u29, u30, u31, u32, u33, u34, u35, u36, u37, u38, u39, u40, u41, u42, u43, u44, u45, u46, u47, u48, u49, u50, u51, u52, u53, u54, u55, u56, u57, u58, u59, u60, u61, u62, u63, u64, u65, u66, u67, u68, u69, u70, u71, v72, v73, v74, v75, v76, v77, v78, v79, v80, v81, v82], []⟩ w) : K a w := by
  have e := Ord.frame_out hz hd
  have r : (List.range 83).map (fun i => a.tmps.toList.getD i undef) = [a.tmps.toList.getD 0 undef, a.tmps.toList.getD 1 undef, a.tmps.toList.getD 2 undef, a.tmps.toList.getD 3 undef, a.tmps.toList.getD 4 undef, a.tmps.toList.getD 5 undef, a.tmps.toList.getD 6 undef, a.tmps.toList.getD 7 undef, a.tmps.toList.getD 8 undef, a.tmps.toList.getD 9 undef, a.tmps.toList.getD 10 undef, a.tmps.toList.getD 11 undef, a.tmps.toList.getD 12 undef, a.tmps.toList.getD 13 undef, a.tmps.toList.getD 14 undef, a.tmps.toList.getD 15 undef, a.tmps.toList.getD 16 undef, a.tmps.toList.getD 17 undef, a.tmps.toList.getD 18 undef, a.tmps.toList.getD 19 undef, a.tmps.toList.getD 20 undef, a.tmps.toList.getD 21 undef, a.tmps.toList.getD 22 undef, a.tmps.toList.getD 23 undef, a.tmps.toList.getD 24 undef, a.tmps.toList.getD 25 undef, a.tmps.toList.getD 26 undef, a.tmps.toList.getD 27 undef, a.tmps.toList.getD 28 undef, a.tmps.toList.getD 29 undef, a.tmps.toList.getD 30 undef, a.tmps.toList.getD 31 undef, a.tmps.toList.getD 32 undef, a.tmps.toList.getD 33 undef, a.tmps.toList.getD 34 undef, a.tmps.toList.getD 35 undef, a.tmps.toList.getD 36 undef, a.tmps.toList.getD 37 undef, a.tmps.toList.getD 38 undef, a.tmps.toList.getD 39 undef, a.tmps.toList.getD 40 undef, a.tmps.toList.getD 41 undef, a.tmps.toList.getD 42 undef, a.tmps.toList.getD 43 undef, a.tmps.toList.getD 44 undef, a.tmps.toList.getD 45 undef, a.tmps.toList.getD 46 undef, a.tmps.toList.getD 47 undef, a.tmps.toList.getD 48 undef, a.tmps.toList.getD 49 undef, a.tmps.toList.getD 50 undef, a.tmps.toList.getD 51 undef, a.tmps.toList.getD 52 undef, a.tmps.toList.getD 53 undef, a.tmps.toList.getD 54 undef, a.tmps.toList.getD 55 undef, a.tmps.toList.getD 56 undef, a.tmps.toList.getD 57 undef, a.tmps.toList.getD 58 undef, a.tmps.toList.getD 59 undef, a.tmps.toList.getD 60 undef, a.tmps.toList.getD 61 undef, a.tmps.toList.getD 62 undef, a.tmps.toList.getD 63 undef, a.tmps.toList.getD 64 undef, a.tmps.toList.getD 65 undef, a.tmps.toList.getD 66 undef, a.tmps.toList.getD 67 undef, a.tmps.toList.getD 68 undef, a.tmps.toList.getD 69 undef, a.tmps.toList.getD 70 undef, a.tmps.toList.getD 71 undef, a.tmps.toList.getD 72 undef, a.tmps.toList.getD 73 undef, a.tmps.toList.getD 74 undef, a.tmps.toList.getD 75 undef, a.tmps.toList.getD 76 undef, a.tmps.toList.getD 77 undef, a.tmps.toList.getD 78 undef, a.tmps.toList.getD 79 undef, a.tmps.toList.getD 80 undef, a.tmps.toList.getD 81 undef, a.tmps.toList.getD 82 undef] := rfl
  rw [r, Ord.at_get f0, Ord.at_get f1, Ord.at_get f2, Ord.at_get f3, Ord.at_get f4, Ord.at_get f5, Ord.at_get f6, Ord.at_get f7, Ord.at_get f8, Ord.at_get f9, Ord.at_get f10, Ord.at_get f11, Ord.at_get f12, Ord.at_get f72, Ord.at_get f73, Ord.at_get f74, Ord.at_get f75, Ord.at_get f76, Ord.at_get f77, Ord.at_get f78, Ord.at_get f79, Ord.at_get f80, Ord.at_get f81, Ord.at_get f82] at e
  rw [e]
  exact h _ _ _ _ _ _ _ _ _ _ _ _ _ _ _ _ _ _ _ _ _ _ _ _ _ _ _ _ _ _ _ _ _ _ _ _ _ _ _ _ _ _ _ _ _ _ _ _ _ _ _ _ _ _ _ _ _ _ _

end Go.Proofs.YtalhlgiklochdaaDoor
