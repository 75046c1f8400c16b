/-
  PackMany: the statement that puts a row's bytes behind the bytes, and the row behind the rows.
-/
import Derived.Test.YtikdlikdknfcfaaDoorOrder
import Derived.Test.YtikdlikdknfcfaaDoorRowsIn
import Derived.Test.YtikdlikdknfcfaaDoorPage
namespace Go.Proofs.YtikdlikdknfcfaaDoor
open Go.ChangeShapes Go.WideShapes Go.ChangeAt Go.RowKit

def manyL : List Ord.Line := [
  (some 36, Go.Op.move (Go.Operand.tmp 4), none, []),
  (some 37, Go.Op.move (Go.Operand.tmp 7), none, []),
  (some 38, Go.Op.call { callee := Go.Callee.builtin Go.Builtin.append, args := #[Go.Operand.tmp 36, Go.Operand.tmp 37], argTypes := #[23, 23] }, none, [0, 1]),
  (some 39, Go.Op.move (Go.Operand.tmp 5), none, []),
  (some 40, Go.Op.move (Go.Operand.tmp 0), none, []),
  (some 41, Go.Op.move (Go.Operand.tmp 6), none, []),
  (some 42, Go.Op.indexAddr 47 (Go.Operand.tmp 40) (Go.Operand.tmp 41), none, [4, 5]),
  (some 43, Go.Op.load 31 (Go.Operand.tmp 42), none, [6]),
  (some 44, Go.Op.call { callee := Go.Callee.value (Go.Operand.func 23), args := #[Go.Operand.tmp 43], argTypes := #[31] }, none, [7, 2]),
  (some 45, Go.Op.buildSlice 47 1 #[(0, Go.Operand.tmp 44)], none, [8]),
  (some 46, Go.Op.call { callee := Go.Callee.builtin Go.Builtin.append, args := #[Go.Operand.tmp 39, Go.Operand.tmp 45], argTypes := #[47, 47] }, none, [3, 9, 8]),
  (some 4, Go.Op.assign (Go.Operand.tmp 38), none, [2, 10, 0, 1, 2]),
  (some 5, Go.Op.assign (Go.Operand.tmp 46), none, [10, 11, 0, 1, 2, 3, 4, 5, 6, 7, 8, 9, 10, 11])]

/-- The slots that are known all the way. -/
structure ManyFr (b0 o0 n0 c0 k m7 c7 : Nat) (A7 : Option Addr) (p1 p2 p3 p8 p9 p10 p11 p12 p13 p14 p15 : Value) (a : Act) : Prop where
  size : a.tmps.size = 86
  defers : a.defers = []
  s0 : Chain.At a 0 (.slice (some ⟨b0, o0, none⟩) n0 c0)
  s1 : Chain.At a 1 (p1)
  s2 : Chain.At a 2 (p2)
  s3 : Chain.At a 3 (p3)
  s6 : Chain.At a 6 (.int .i64 (k : Int))
  s7 : Chain.At a 7 (.slice A7 m7 c7)
  s8 : Chain.At a 8 (p8)
  s9 : Chain.At a 9 (p9)
  s10 : Chain.At a 10 (p10)
  s11 : Chain.At a 11 (p11)
  s12 : Chain.At a 12 (p12)
  s13 : Chain.At a 13 (p13)
  s14 : Chain.At a 14 (p14)
  s15 : Chain.At a 15 (p15)
  s47 : Chain.At a 47 (undef)
  s48 : Chain.At a 48 (undef)
  s49 : Chain.At a 49 (undef)
  s50 : Chain.At a 50 (undef)
  s51 : Chain.At a 51 (undef)
  s52 : Chain.At a 52 (undef)
  s53 : Chain.At a 53 (undef)
  s54 : Chain.At a 54 (undef)
  s55 : Chain.At a 55 (undef)
  s56 : Chain.At a 56 (undef)
  s57 : Chain.At a 57 (undef)
  s58 : Chain.At a 58 (undef)
  s59 : Chain.At a 59 (undef)
  s60 : Chain.At a 60 (undef)
  s61 : Chain.At a 61 (undef)
  s62 : Chain.At a 62 (undef)
  s63 : Chain.At a 63 (undef)
  s64 : Chain.At a 64 (undef)
  s65 : Chain.At a 65 (undef)
  s66 : Chain.At a 66 (undef)
  s67 : Chain.At a 67 (undef)
  s68 : Chain.At a 68 (undef)
  s69 : Chain.At a 69 (undef)
  s70 : Chain.At a 70 (undef)
  s71 : Chain.At a 71 (undef)
  s72 : Chain.At a 72 (undef)
  s73 : Chain.At a 73 (undef)
  s74 : Chain.At a 74 (undef)
  s75 : Chain.At a 75 (undef)
  s76 : Chain.At a 76 (undef)
  s77 : Chain.At a 77 (undef)
  s78 : Chain.At a 78 (undef)
  s79 : Chain.At a 79 (undef)
  s80 : Chain.At a 80 (undef)
  s81 : Chain.At a 81 (undef)
  s82 : Chain.At a 82 (undef)
  s83 : Chain.At a 83 (undef)
  s84 : Chain.At a 84 (undef)
  s85 : Chain.At a 85 (undef)
theorem ManyFr.next {b0 o0 n0 c0 k m7 c7 : Nat} {A7 : Option Addr} {p1 p2 p3 p8 p9 p10 p11 p12 p13 p14 p15 : Value} {a a' : Act} {d : Nat} {v : Value} (F : ManyFr b0 o0 n0 c0 k m7 c7 A7 p1 p2 p3 p8 p9 p10 p11 p12 p13 p14 p15 a) (nx : Chain.Next a a' d v) (h : d ≠ 0 ∧ d ≠ 1 ∧ d ≠ 2 ∧ d ≠ 3 ∧ d ≠ 6 ∧ d ≠ 7 ∧ d ≠ 8 ∧ d ≠ 9 ∧ d ≠ 10 ∧ d ≠ 11 ∧ d ≠ 12 ∧ d ≠ 13 ∧ d ≠ 14 ∧ d ≠ 15 ∧ d ≠ 47 ∧ d ≠ 48 ∧ d ≠ 49 ∧ d ≠ 50 ∧ d ≠ 51 ∧ d ≠ 52 ∧ d ≠ 53 ∧ d ≠ 54 ∧ d ≠ 55 ∧ d ≠ 56 ∧ d ≠ 57 ∧ d ≠ 58 ∧ d ≠ 59 ∧ d ≠ 60 ∧ d ≠ 61 ∧ d ≠ 62 ∧ d ≠ 63 ∧ d ≠ 64 ∧ d ≠ 65 ∧ d ≠ 66 ∧ d ≠ 67 ∧ d ≠ 68 ∧ d ≠ 69 ∧ d ≠ 70 ∧ d ≠ 71 ∧ d ≠ 72 ∧ d ≠ 73 ∧ d ≠ 74 ∧ d ≠ 75 ∧ d ≠ 76 ∧ d ≠ 77 ∧ d ≠ 78 ∧ d ≠ 79 ∧ d ≠ 80 ∧ d ≠ 81 ∧ d ≠ 82 ∧ d ≠ 83 ∧ d ≠ 84 ∧ d ≠ 85) : ManyFr b0 o0 n0 c0 k m7 c7 A7 p1 p2 p3 p8 p9 p10 p11 p12 p13 p14 p15 a' := ⟨nx.size.trans F.size, nx.defers.trans F.defers, nx.keep 0 _ h.1 F.s0, nx.keep 1 _ h.2.1 F.s1, nx.keep 2 _ h.2.2.1 F.s2, nx.keep 3 _ h.2.2.2.1 F.s3, nx.keep 6 _ h.2.2.2.2.1 F.s6, nx.keep 7 _ h.2.2.2.2.2.1 F.s7, nx.keep 8 _ h.2.2.2.2.2.2.1 F.s8, nx.keep 9 _ h.2.2.2.2.2.2.2.1 F.s9, nx.keep 10 _ h.2.2.2.2.2.2.2.2.1 F.s10, nx.keep 11 _ h.2.2.2.2.2.2.2.2.2.1 F.s11, nx.keep 12 _ h.2.2.2.2.2.2.2.2.2.2.1 F.s12, nx.keep 13 _ h.2.2.2.2.2.2.2.2.2.2.2.1 F.s13, nx.keep 14 _ h.2.2.2.2.2.2.2.2.2.2.2.2.1 F.s14, nx.keep 15 _ h.2.2.2.2.2.2.2.2.2.2.2.2.2.1 F.s15, nx.keep 47 _ h.2.2.2.2.2.2.2.2.2.2.2.2.2.2.1 F.s47, nx.keep 48 _ h.2.2.2.2.2.2.2.2.2.2.2.2.2.2.2.1 F.s48, nx.keep 49 _ h.2.2.2.2.2.2.2.2.2.2.2.2.2.2.2.2.1 F.s49, nx.keep 50 _ h.2.2.2.2.2.2.2.2.2.2.2.2.2.2.2.2.2.1 F.s50, nx.keep 51 _ h.2.2.2.2.2.2.2.2.2.2.2.2.2.2.2.2.2.2.1 F.s51, nx.keep 52 _ h.2.2.2.2.2.2.2.2.2.2.2.2.2.2.2.2.2.2.2.1 F.s52, nx.keep 53 _ h.2.2.2.2.2.2.2.2.2.2.2.2.2.2.2.2.2.2.2.2.1 F.s53, nx.keep 54 _ h.2.2.2.2.2.2.2.2.2.2.2.2.2.2.2.2.2.2.2.2.2.1 F.s54, nx.keep 55 _ h.2.2.2.2.2.2.2.2.2.2.2.2.2.2.2.2.2.2.2.2.2.2.1 F.s55, nx.keep 56 _ h.2.2.2.2.2.2.2.2.2.2.2.2.2.2.2.2.2.2.2.2.2.2.2.1 F.s56, nx.keep 57 _ h.2.2.2.2.2.2.2.2.2.2.2.2.2.2.2.2.2.2.2.2.2.2.2.2.1 F.s57, nx.keep 58 _ h.2.2.2.2.2.2.2.2.2.2.2.2.2.2.2.2.2.2.2.2.2.2.2.2.2.1 F.s58, nx.keep 59 _ h.2.2.2.2.2.2.2.2.2.2.2.2.2.2.2.2.2.2.2.2.2.2.2.2.2.2.1 F.s59, nx.keep 60 _ h.2.2.2.2.2.2.2.2.2.2.2.2.2.2.2.2.2.2.2.2.2.2.2.2.2.2.2.1 F.s60, nx.keep 61 _ h.2.2.2.2.2.2.2.2.2.2.2.2.2.2.2.2.2.2.2.2.2.2.2.2.2.2.2.2.1 F.s61, nx.keep 62 _ h.2.2.2.2.2.2.2.2.2.2.2.2.2.2.2.2.2.2.2.2.2.2.2.2.2.2.2.2.2.1 F.s62, nx.keep 63 _ h.2.2.2.2.2.2.2.2.2.2.2.2.2.2.2.2.2.2.2.2.2.2.2.2.2.2.2.2.2.2.1 F.s63, nx.keep 64 _ h.2.2.2.2.2.2.2.2.2.2.2.2.2.2.2.2.2.2.2.2.2.2.2.2.2.2.2.2.2.2.2.1 F.s64, nx.keep 65 _ h.2.2.2.2.2.2.2.2.2.2.2.2.2.2.2.2.2.2.2.2.2.2.2.2.2.2.2.2.2.2.2.2.1 F.s65, nx.keep 66 _ h.2.2.2.2.2.2.2.2.2.2.2.2.2.2.2.2.2.2.2.2.2.2.2.2.2.2.2.2.2.2.2.2.2.1 F.s66, nx.keep 67 _ h.2.2.2.2.2.2.2.2.2.2.2.2.2.2.2.2.2.2.2.2.2.2.2.2.2.2.2.2.2.2.2.2.2.2.1 F.s67, nx.keep 68 _ h.2.2.2.2.2.2.2.2.2.2.2.2.2.2.2.2.2.2.2.2.2.2.2.2.2.2.2.2.2.2.2.2.2.2.2.1 F.s68, nx.keep 69 _ h.2.2.2.2.2.2.2.2.2.2.2.2.2.2.2.2.2.2.2.2.2.2.2.2.2.2.2.2.2.2.2.2.2.2.2.2.1 F.s69, nx.keep 70 _ h.2.2.2.2.2.2.2.2.2.2.2.2.2.2.2.2.2.2.2.2.2.2.2.2.2.2.2.2.2.2.2.2.2.2.2.2.2.1 F.s70, nx.keep 71 _ h.2.2.2.2.2.2.2.2.2.2.2.2.2.2.2.2.2.2.2.2.2.2.2.2.2.2.2.2.2.2.2.2.2.2.2.2.2.2.1 F.s71, nx.keep 72 _ h.2.2.2.2.2.2.2.2.2.2.2.2.2.2.2.2.2.2.2.2.2.2.2.2.2.2.2.2.2.2.2.2.2.2.2.2.2.2.2.1 F.s72, nx.keep 73 _ h.2.2.2.2.2.2.2.2.2.2.2.2.2.2.2.2.2.2.2.2.2.2.2.2.2.2.2.2.2.2.2.2.2.2.2.2.2.2.2.2.1 F.s73, nx.keep 74 _ h.2.2.2.2.2.2.2.2.2.2.2.2.2.2.2.2.2.2.2.2.2.2.2.2.2.2.2.2.2.2.2.2.2.2.2.2.2.2.2.2.2.1 F.s74, nx.keep 75 _ h.2.2.2.2.2.2.2.2.2.2.2.2.2.2.2.2.2.2.2.2.2.2.2.2.2.2.2.2.2.2.2.2.2.2.2.2.2.2.2.2.2.2.1 F.s75, nx.keep 76 _ h.2.2.2.2.2.2.2.2.2.2.2.2.2.2.2.2.2.2.2.2.2.2.2.2.2.2.2.2.2.2.2.2.2.2.2.2.2.2.2.2.2.2.2.1 F.s76, nx.keep 77 _ h.2.2.2.2.2.2.2.2.2.2.2.2.2.2.2.2.2.2.2.2.2.2.2.2.2.2.2.2.2.2.2.2.2.2.2.2.2.2.2.2.2.2.2.2.1 F.s77, nx.keep 78 _ h.2.2.2.2.2.2.2.2.2.2.2.2.2.2.2.2.2.2.2.2.2.2.2.2.2.2.2.2.2.2.2.2.2.2.2.2.2.2.2.2.2.2.2.2.2.1 F.s78, nx.keep 79 _ h.2.2.2.2.2.2.2.2.2.2.2.2.2.2.2.2.2.2.2.2.2.2.2.2.2.2.2.2.2.2.2.2.2.2.2.2.2.2.2.2.2.2.2.2.2.2.1 F.s79, nx.keep 80 _ h.2.2.2.2.2.2.2.2.2.2.2.2.2.2.2.2.2.2.2.2.2.2.2.2.2.2.2.2.2.2.2.2.2.2.2.2.2.2.2.2.2.2.2.2.2.2.2.1 F.s80, nx.keep 81 _ h.2.2.2.2.2.2.2.2.2.2.2.2.2.2.2.2.2.2.2.2.2.2.2.2.2.2.2.2.2.2.2.2.2.2.2.2.2.2.2.2.2.2.2.2.2.2.2.2.1 F.s81, nx.keep 82 _ h.2.2.2.2.2.2.2.2.2.2.2.2.2.2.2.2.2.2.2.2.2.2.2.2.2.2.2.2.2.2.2.2.2.2.2.2.2.2.2.2.2.2.2.2.2.2.2.2.2.1 F.s82, nx.keep 83 _ h.2.2.2.2.2.2.2.2.2.2.2.2.2.2.2.2.2.2.2.2.2.2.2.2.2.2.2.2.2.2.2.2.2.2.2.2.2.2.2.2.2.2.2.2.2.2.2.2.2.2.1 F.s83, nx.keep 84 _ h.2.2.2.2.2.2.2.2.2.2.2.2.2.2.2.2.2.2.2.2.2.2.2.2.2.2.2.2.2.2.2.2.2.2.2.2.2.2.2.2.2.2.2.2.2.2.2.2.2.2.2.1 F.s84, nx.keep 85 _ h.2.2.2.2.2.2.2.2.2.2.2.2.2.2.2.2.2.2.2.2.2.2.2.2.2.2.2.2.2.2.2.2.2.2.2.2.2.2.2.2.2.2.2.2.2.2.2.2.2.2.2.2 F.s85⟩
theorem ManyFr.lt {b0 o0 n0 c0 k m7 c7 : Nat} {A7 : Option Addr} {p1 p2 p3 p8 p9 p10 p11 p12 p13 p14 p15 : Value} {a : Act} {d : Nat} (F : ManyFr b0 o0 n0 c0 k m7 c7 A7 p1 p2 p3 p8 p9 p10 p11 p12 p13 p14 p15 a) (h : d < 86) : d < a.tmps.size := by rw [F.size]; exact h

theorem own_keep2 {w w' : World} {base : Nat} {e : TypeId} {size n : Nat} {v : Value} {xs : List Value} (h : w.ownsRow base e size v n xs) (hk : ∀ k, v.ownBlock = some k → w'.heap[k]? = w.heap[k]?) : w'.ownsRow base e size v n xs := by
  refine ⟨h.1, ?_⟩
  rcases h.2 with e | ⟨g, cap, cur, rfl, e2, e3, r⟩
  · exact .inl e
  · exact .inr ⟨g, cap, cur, rfl, e2, (hk g rfl).trans e3, r⟩
theorem bytes_typed {w : World} {base n : Nat} {e : TypeId} {size : Nat} {v : Value} {xs : List Value} (h : w.ownsRow base e size v n xs) : ∀ k, v.ownBlock = some k → Typed w e k := by
  intro k hk
  rcases h.2 with ⟨e, _⟩ | ⟨g, cap, cur, e, _, e3, _⟩
  · rw [e] at hk; cases hk
  · rw [e] at hk
    injection hk with hk
    subst hk
    exact ⟨_, _, e3⟩
set_option maxRecDepth 100000 in
theorem many_add {ops : Array Oper} {Q : Exit → Act → World → Prop} (R : Ord.Reg ops manyL) (hQ : ∀ c a w d v, Q (.panic c) (Act.put a (some d) v) w → Q (.panic c) a w) {w : World} {b0 o0 n0 c0 k m7 c7 base nb BP rn rc : Nat} {A7 rA : Option Addr} {rw : Bool} {rl : List Cel} {bs pb : List Int} {xs : List RowIn} {vb vw : Value} {p1 p2 p3 p8 p9 p10 p11 p12 p13 p14 p15 : Value}
    (hk : (k : Int) < (n0 : Int)) (hk0 : (0 : Int) ≤ (k : Int)) (hb0 : b0 < base) (hbase : base ≤ w.heap.size) (hS0 : w.cell? ⟨b0, o0 + k * 2, none⟩ = some (.slice rA rn rc) ∧ w.cell? ⟨b0, o0 + k * 2 + 1, none⟩ = some (.bool rw))
    (RQ : Sq w base 3 rn rA (flat rl)) (rle : rn ≤ rc) (rcap : rc ≤ maxLen) (rsig : ∀ c ∈ rl, -2147483648 ≤ c.1 ∧ c.1 ≤ 2147483647) (PQ : Sq w BP 1 m7 A7 (pb.map (Value.int .u8)))
    (HB : w.ownsRow base 5 1 vb nb (bs.map (Value.int .u8))) (HW : RowsIn w base vw xs) (hap : ∀ j, vb.ownBlock = some j → vw.ownBlock ≠ some j) (fit1 : nb + m7 ≤ maxLen) (fit2 : (nb + m7) * 1 ≤ 140737488355328) (fit3 : xs.length + 1 ≤ maxLen) (fit4 : (xs.length + 1) * 32 ≤ 140737488355328)
    (a : Act) (F : ManyFr b0 o0 n0 c0 k m7 c7 A7 p1 p2 p3 p8 p9 p10 p11 p12 p13 p14 p15 a) (f4 : Chain.At a 4 vb) (f5 : Chain.At a 5 vw)
    (h : ∀ a w' vb' vw' A3 d3, ManyFr b0 o0 n0 c0 k m7 c7 A7 p1 p2 p3 p8 p9 p10 p11 p12 p13 p14 p15 a → Chain.At a 4 vb' → Chain.At a 5 vw' → w'.ownsRow base 5 1 vb' (nb + m7) (bs.map (Value.int .u8) ++ pb.map (Value.int .u8)) → RowsIn w' base vw' (xs ++ [⟨A3, (cut310 rl).length, d3, rw, cut310 rl⟩]) → Below base w w' → Q .normal a w') :
    wpAnyH Tryd.prog .any ops Q (fun w' => w'.cell? ⟨b0, o0 + k * 2, none⟩ = some (.slice rA rn rc) ∧ w'.cell? ⟨b0, o0 + k * 2 + 1, none⟩ = some (.bool rw)) 13 (List.replicate 13 false).toArray a w := by
  obtain ⟨i0, hi, hz0, hz1, hz2⟩ := info_parts infoByte
  obtain ⟨j0, hj, jz0, jz1, jz2⟩ := info_parts infoRow
  have hS := hS0
  refine Ord.take R (k := 0) (v := vb) (bs' := (Ord.upto 1 13)) rfl (by kernel_rfl) hQ trivial hS (fun w _ hS => Chain.ev_move f4.ev) (F.lt (by decide)) fun a0 N => ?_
  replace F := F.next N (by simp)
  replace f4 := N.keep 4 _ (by decide) f4
  replace f5 := N.keep 5 _ (by decide) f5
  have f36 := N.got
  clear N a
  refine Ord.take R (k := 1) (v := .slice A7 m7 c7) (bs' := (Ord.upto 2 13)) rfl (by kernel_rfl) hQ trivial hS (fun w _ hS => Chain.ev_move F.s7.ev) (F.lt (by decide)) fun a1 N => ?_
  replace F := F.next N (by simp)
  replace f4 := N.keep 4 _ (by decide) f4
  replace f5 := N.keep 5 _ (by decide) f5
  replace f36 := N.keep 36 _ (by decide) f36
  have f37 := N.got
  clear N a0
  refine Ord.take R (k := 3) (v := vw) (bs' := [true, true, false, true, false, false, false, false, false, false, false, false, false]) rfl (by kernel_rfl) hQ trivial hS (fun w _ hS => Chain.ev_move f5.ev) (F.lt (by decide)) fun a3 N => ?_
  replace F := F.next N (by simp)
  replace f4 := N.keep 4 _ (by decide) f4
  replace f5 := N.keep 5 _ (by decide) f5
  replace f36 := N.keep 36 _ (by decide) f36
  replace f37 := N.keep 37 _ (by decide) f37
  have f39 := N.got
  clear N a1
  refine Ord.take R (k := 4) (v := .slice (some ⟨b0, o0, none⟩) n0 c0) (bs' := [true, true, false, true, true, false, false, false, false, false, false, false, false]) rfl (by kernel_rfl) hQ trivial hS (fun w _ hS => Chain.ev_move F.s0.ev) (F.lt (by decide)) fun a4 N => ?_
  replace F := F.next N (by simp)
  replace f4 := N.keep 4 _ (by decide) f4
  replace f5 := N.keep 5 _ (by decide) f5
  replace f36 := N.keep 36 _ (by decide) f36
  replace f37 := N.keep 37 _ (by decide) f37
  replace f39 := N.keep 39 _ (by decide) f39
  have f40 := N.got
  clear N a3
  refine Ord.take R (k := 5) (v := .int .i64 (k : Int)) (bs' := [true, true, false, true, true, true, false, false, false, false, false, false, false]) rfl (by kernel_rfl) hQ trivial hS (fun w _ hS => Chain.ev_move F.s6.ev) (F.lt (by decide)) fun a5 N => ?_
  replace F := F.next N (by simp)
  replace f4 := N.keep 4 _ (by decide) f4
  replace f5 := N.keep 5 _ (by decide) f5
  replace f36 := N.keep 36 _ (by decide) f36
  replace f37 := N.keep 37 _ (by decide) f37
  replace f39 := N.keep 39 _ (by decide) f39
  replace f40 := N.keep 40 _ (by decide) f40
  have f41 := N.got
  clear N a4
  refine Ord.take R (k := 6) (v := .pointer (some ⟨b0, o0 + k * 2, none⟩)) (bs' := [true, true, false, true, true, true, true, false, false, false, false, false, false]) rfl (by kernel_rfl) hQ trivial hS (fun w _ hS => by have e40 := f40; unfold Chain.At at e40; have e41 := f41; unfold Chain.At at e41; have q0 := hk; have q1 := hk0; clear F; go_simp) (F.lt (by decide)) fun a6 N => ?_
  replace F := F.next N (by simp)
  replace f4 := N.keep 4 _ (by decide) f4
  replace f5 := N.keep 5 _ (by decide) f5
  replace f36 := N.keep 36 _ (by decide) f36
  replace f37 := N.keep 37 _ (by decide) f37
  replace f39 := N.keep 39 _ (by decide) f39
  clear f40
  clear f41
  have f42 := N.got
  clear N a5
  refine Ord.take R (k := 7) (v := .agg #[.slice rA rn rc, .bool rw]) (bs' := [true, true, false, true, true, true, true, true, false, false, false, false, false]) rfl (by kernel_rfl) hQ trivial hS (fun w _ hS => by have e42 := f42; unfold Chain.At at e42; have q0 := hS.1; have q1 := hS.2; clear F; go_simp) (F.lt (by decide)) fun a7 N => ?_
  replace F := F.next N (by simp)
  replace f4 := N.keep 4 _ (by decide) f4
  replace f5 := N.keep 5 _ (by decide) f5
  replace f36 := N.keep 36 _ (by decide) f36
  replace f37 := N.keep 37 _ (by decide) f37
  replace f39 := N.keep 39 _ (by decide) f39
  clear f42
  have f43 := N.got
  clear N a6
  refine Ord.append R (k := 2) (.tmp 36) (.tmp 37) 23 (bs' := (Ord.upto 8 13)) rfl (by kernel_rfl) trivial (F.lt (by decide)) base 5 i0 (.int .u8 0) 1 1 Tryd.underlying23 hi hz0 hz1 hz2 rfl (by decide) vb nb (bs.map (Value.int .u8)) f36.ev HB A7 m7 c7 (pb.map (Value.int .u8)) f37.ev BP PQ (byte_all pb) fit1 fit2 hbase ?_
  intro A1 c1 w1 hown hg hat
  have t1 := Turned.ofGrown hg
  have b1 : Below base w w1 := t1.toBelow hbase (fun j hj m => by have := (World.ownsRow.lt HB j m).1; omega)
  replace HW := HW.turned t1 (fun j e m => hap j m e) (fun j m hty => by have h1 := bytes_typed HB j m; exact h1.apart hty (by decide) rfl)
  have hS1 : w1.cell? ⟨b0, o0 + k * 2, none⟩ = some (.slice rA rn rc) ∧ w1.cell? ⟨b0, o0 + k * 2 + 1, none⟩ = some (.bool rw) := ⟨(b1.cell (p := ⟨b0, _, none⟩) hb0).trans hS.1, (b1.cell (p := ⟨b0, _, none⟩) hb0).trans hS.2⟩
  obtain ⟨B1, hB1⟩ : ∃ B, Value.slice A1 (nb + m7) c1 = B := ⟨_, rfl⟩
  rw [hB1] at hown ⊢
  have hap1 : ∀ j, B1.ownBlock = some j → vw.ownBlock ≠ some j := fun j e e2 => by
    have h1 := bytes_typed hown j e
    exact h1.apart (HW.typed j e2) (by decide) rfl
  replace hS := hS1
  clear hS1 hg hat t1 HB
  have hz1' := b1.size
  refine ⟨hS, fun a2 N => ?_⟩
  replace F := F.next N (by simp)
  replace f4 := N.keep 4 _ (by decide) f4
  replace f5 := N.keep 5 _ (by decide) f5
  clear f36
  clear f37
  replace f39 := N.keep 39 _ (by decide) f39
  replace f43 := N.keep 43 _ (by decide) f43
  have f38 := N.got
  clear N a7
  refine Ord.call R (k := 8) (args := #[.agg #[.slice rA rn rc, .bool rw]]) (bs' := (Ord.upto 9 13)) rfl (by kernel_rfl) trivial (by simp [f43.ev]) (by kernel_rfl) (lawRow_walk rA rn rc rw rl w1 ((RQ.below b1).up (Nat.le_trans hbase hz1')) rle rcap) (F.lt (by decide)) ?_
  rintro e w ⟨v3, rfl, hv, b2⟩
  obtain ⟨A3, d3, rfl, _⟩ := HasC.shape hv
  have HC := HasC.mono hv (Nat.zero_le _)
  have b3 : Below base _ w := b1.trans (b2.mono (Nat.le_trans hbase hz1'))
  replace HW := HW.below b2
  replace hown := own_keep2 hown (fun j e => b2.block j (World.ownsRow.lt hown j e).2)
  have hz3 := b2.size
  obtain ⟨m3, hm3⟩ : ∃ m, (cut310 rl).length = m := ⟨_, rfl⟩
  rw [hm3] at HC hv ⊢
  replace hS := And.intro ((b2.cell (p := ⟨b0, _, none⟩) (by show b0 < w1.heap.size; omega)).trans hS.1) ((b2.cell (p := ⟨b0, _, none⟩) (by show b0 < w1.heap.size; omega)).trans hS.2)
  clear hv
  refine ⟨_, rfl, hS, fun a8 N => ?_⟩
  replace F := F.next N (by simp)
  replace f4 := N.keep 4 _ (by decide) f4
  replace f5 := N.keep 5 _ (by decide) f5
  replace f38 := N.keep 38 _ (by decide) f38
  replace f39 := N.keep 39 _ (by decide) f39
  clear f43
  have f44 := N.got
  clear N a2
  refine Ord.value R (k := 9) (v := .slice (some ⟨w.heap.size, 0, none⟩) 1 1) (w1 := w.alloc (.cells #[.slice A3 m3 d3, .bool rw] 31)) (bs' := (Ord.upto 10 13)) rfl (by kernel_rfl) trivial (And.intro ((World.cell?_alloc_lt w (.cells #[.slice A3 m3 d3, .bool rw] 31) _ (by show b0 < w.heap.size; omega)).trans hS.1) ((World.cell?_alloc_lt w (.cells #[.slice A3 m3 d3, .bool rw] 31) _ (by show b0 < w.heap.size; omega)).trans hS.2)) (fun _ => by have e44 := f44; unfold Chain.At at e44; clear F; go_simp) (F.lt (by decide)) fun a9 N => ?_
  replace hS := (And.intro ((World.cell?_alloc_lt w (.cells #[.slice A3 m3 d3, .bool rw] 31) _ (by show b0 < w.heap.size; omega)).trans hS.1) ((World.cell?_alloc_lt w (.cells #[.slice A3 m3 d3, .bool rw] 31) _ (by show b0 < w.heap.size; omega)).trans hS.2))
  replace F := F.next N (by simp)
  replace f4 := N.keep 4 _ (by decide) f4
  replace f5 := N.keep 5 _ (by decide) f5
  replace f38 := N.keep 38 _ (by decide) f38
  replace f39 := N.keep 39 _ (by decide) f39
  clear f44
  have f45 := N.got
  clear N a8
  have b4 := (Below.refl w.heap.size w).alloc (Nat.le_refl _) (.cells #[.slice A3 m3 d3, .bool rw] 31)
  replace HW := HW.below b4
  replace hown := own_keep2 hown (fun j e => b4.block j (World.ownsRow.lt hown j e).2)
  replace HC := HasC.keep HC (fun j e => b4.block j (HasC.lt HC j e).2)
  have hz4 := b4.size
  have QN : Sq (w.alloc (.cells #[.slice A3 m3 d3, .bool rw] 31)) (w.heap.size + 1) 2 1 (some ⟨w.heap.size, 0, none⟩) [.slice A3 m3 d3, .bool rw] := ⟨rfl, fun _ => ⟨w.heap.size, 0, rfl, by simp, fun j u hu => (cell_of_row _ _ _ _ _ (0, 0) (heap_alloc_new w _)).trans (by rw [Nat.zero_add, List.getElem?_toArray]; exact hu)⟩⟩
  refine Ord.append R (k := 10) (.tmp 39) (.tmp 45) 47 (bs' := (Ord.upto 11 13)) rfl (by kernel_rfl) trivial (F.lt (by decide)) base 31 j0 (.agg #[.slice none 0 0, .bool false]) 2 32 Tryd.underlying47 hj jz0 jz1 jz2 rfl (by decide) vw xs.length (xs.flatMap RowIn.vals) f39.ev HW.own (some ⟨w.heap.size, 0, none⟩) 1 1 [.slice A3 m3 d3, .bool rw] f45.ev (w.heap.size + 1) QN (vals_one ⟨A3, m3, d3, rw, cut310 rl⟩) fit3 fit4 (by omega) ?_
  intro A5 c5 w5 hown5 hg5 hat5
  have t5 := Turned.ofGrown hg5
  have HW5 := HW.snoc (x := ⟨A3, m3, d3, rw, cut310 rl⟩) hg5 hown5 HC (fun c hc => rsig c (List.mem_of_mem_take hc))
  have hown2 := own_keep2 hown (fun j e => t5.block j (World.ownsRow.lt hown j e).2 (fun m => hap1 j e m))
  have b5 : Below base _ w5 := b3.trans ((b4.mono (by omega)).trans (t5.toBelow (by omega) (fun j hj m => by have := (HW.lt j m).1; omega)))
  have hS5 : w5.cell? ⟨b0, o0 + k * 2, none⟩ = some (.slice rA rn rc) ∧ w5.cell? ⟨b0, o0 + k * 2 + 1, none⟩ = some (.bool rw) := ⟨(b5.cell (p := ⟨b0, _, none⟩) hb0).trans hS0.1, (b5.cell (p := ⟨b0, _, none⟩) hb0).trans hS0.2⟩
  obtain ⟨B2, hB2⟩ : ∃ B, Value.slice A5 (xs.length + 1) c5 = B := ⟨_, rfl⟩
  rw [hB2] at HW5 ⊢
  replace hS := hS5
  clear HW hown QN hown5 hg5 hat5
  refine ⟨hS, fun a10 N => ?_⟩
  replace F := F.next N (by simp)
  replace f4 := N.keep 4 _ (by decide) f4
  replace f5 := N.keep 5 _ (by decide) f5
  replace f38 := N.keep 38 _ (by decide) f38
  clear f39
  clear f45
  have f46 := N.got
  clear N a9
  refine Ord.take R (k := 11) (v := B1) (bs' := (Ord.upto 12 13)) rfl (by kernel_rfl) hQ trivial hS (fun w _ hS => Chain.ev_assign f38.ev) (F.lt (by decide)) fun a11 N => ?_
  replace F := F.next N (by simp)
  clear f4
  replace f5 := N.keep 5 _ (by decide) f5
  clear f38
  replace f46 := N.keep 46 _ (by decide) f46
  have f4 := N.got
  clear N a10
  refine Ord.take R (k := 12) (v := B2) (bs' := (Ord.upto 13 13)) rfl (by kernel_rfl) hQ trivial hS (fun w _ hS => Chain.ev_assign f46.ev) (F.lt (by decide)) fun a12 N => ?_
  replace F := F.next N (by simp)
  replace f4 := N.keep 4 _ (by decide) f4
  clear f5
  clear f46
  have f5 := N.got
  clear N a11
  exact Ord.finish R (by kernel_rfl) (h _ _ _ _ A3 d3 F f4 f5 hown2 (by rw [hm3]; exact HW5) b5)

set_option maxRecDepth 100000 in
/-- The frame written out, its known slots in their places. -/
theorem many_frame {a : Act} {w : World} {K : Act → World → Prop} {v0 v1 v2 v3 v4 v5 v6 v7 v8 v9 v10 v11 v12 v13 v14 v15 v47 v48 v49 v50 v51 v52 v53 v54 v55 v56 v57 v58 v59 v60 v61 v62 v63 v64 v65 v66 v67 v68 v69 v70 v71 v72 v73 v74 v75 v76 v77 v78 v79 v80 v81 v82 v83 v84 v85 : Value} (hz : a.tmps.size = 86) (hd : a.defers = []) (f0 : Chain.At a 0 v0) (f1 : Chain.At a 1 v1) (f2 : Chain.At a 2 v2) (f3 : Chain.At a 3 v3) (f4 : Chain.At a 4 v4) (f5 : Chain.At a 5 v5) (f6 : Chain.At a 6 v6) (f7 : Chain.At a 7 v7) (f8 : Chain.At a 8 v8) (f9 : Chain.At a 9 v9) (f10 : Chain.At a 10 v10) (f11 : Chain.At a 11 v11) (f12 : Chain.At a 12 v12) (f13 : Chain.At a 13 v13) (f14 : Chain.At a 14 v14) (f15 : Chain.At a 15 v15) (f47 : Chain.At a 47 v47) (f48 : Chain.At a 48 v48) (f49 : Chain.At a 49 v49) (f50 : Chain.At a 50 v50) (f51 : Chain.At a 51 v51) (f52 : Chain.At a 52 v52) (f53 : Chain.At a 53 v53) (f54 : Chain.At a 54 v54) (f55 : Chain.At a 55 v55) (f56 : Chain.At a 56 v56) (f57 : Chain.At a 57 v57) (f58 : Chain.At a 58 v58) (f59 : Chain.At a 59 v59) (f60 : Chain.At a 60 v60) (f61 : Chain.At a 61 v61) (f62 : Chain.At a 62 v62) (f63 : Chain.At a 63 v63) (f64 : Chain.At a 64 v64) (f65 : Chain.At a 65 v65) (f66 : Chain.At a 66 v66) (f67 : Chain.At a 67 v67) (f68 : Chain.At a 68 v68) (f69 : Chain.At a 69 v69) (f70 : Chain.At a 70 v70) (f71 : Chain.At a 71 v71) (f72 : Chain.At a 72 v72) (f73 : Chain.At a 73 v73) (f74 : Chain.At a 74 v74) (f75 : Chain.At a 75 v75) (f76 : Chain.At a 76 v76) (f77 : Chain.At a 77 v77) (f78 : Chain.At a 78 v78) (f79 : Chain.At a 79 v79) (f80 : Chain.At a 80 v80) (f81 : Chain.At a 81 v81) (f82 : Chain.At a 82 v82) (f83 : Chain.At a 83 v83) (f84 : Chain.At a 84 v84) (f85 : Chain.At a 85 v85)
    (h : ∀ u16 u17 u18 u19 u20 u21 u22 u23 u24 u25 u26 u27 u28 u29 u30 u31 u32 u33 u34 u35 u36 u37 u38 u39 u40 u41 u42 u43 u44 u45 u46 : Value, K ⟨#[v0, v1, v2, v3, v4, v5, v6, v7, v8, v9, v10, v11, v12, v13, v14, v15, u16, u17, u18, u19, u20, u21, u22, u23, u24, u25, u26, u27, u28, u29, u30, u31, u32, u33, u34, u35, u36, u37, u38, u39, u40, u41, u42, u43, u44, u45, u46, v47, v48, v49, v50, v51, v52, v53, v54, v55, v56, v57, v58, v59, v60, v61, v62, v63, v64, v65, v66, v67, v68, v69, v70, v71, v72, v73, v74, v75, v76, v77, v78, v79, v80, v81, v82, v83, v84, v85], []⟩ w) : K a w := by
  have e := Ord.frame_out hz hd
  have r : (List.range 86).map (fun i => a.tmps.toList.getD i undef) = [a.tmps.toList.getD 0 undef, a.tmps.toList.getD 1 undef, a.tmps.toList.getD 2 undef, a.tmps.toList.getD 3 undef, a.tmps.toList.getD 4 undef, a.tmps.toList.getD 5 undef, a.tmps.toList.getD 6 undef, a.tmps.toList.getD 7 undef, a.tmps.toList.getD 8 undef, a.tmps.toList.getD 9 undef, a.tmps.toList.getD 10 undef, a.tmps.toList.getD 11 undef, a.tmps.toList.getD 12 undef, a.tmps.toList.getD 13 undef, a.tmps.toList.getD 14 undef, a.tmps.toList.getD 15 undef, a.tmps.toList.getD 16 undef, a.tmps.toList.getD 17 undef, a.tmps.toList.getD 18 undef, a.tmps.toList.getD 19 undef, a.tmps.toList.getD 20 undef, a.tmps.toList.getD 21 undef, a.tmps.toList.getD 22 undef, a.tmps.toList.getD 23 undef, a.tmps.toList.getD 24 undef, a.tmps.toList.getD 25 undef, a.tmps.toList.getD 26 undef, a.tmps.toList.getD 27 undef, a.tmps.toList.getD 28 undef, a.tmps.toList.getD 29 undef, a.tmps.toList.getD 30 undef, a.tmps.toList.getD 31 undef, a.tmps.toList.getD 32 undef, a.tmps.toList.getD 33 undef, a.tmps.toList.getD 34 undef, a.tmps.toList.getD 35 undef, a.tmps.toList.getD 36 undef, a.tmps.toList.getD 37 undef, a.tmps.toList.getD 38 undef, a.tmps.toList.getD 39 undef, a.tmps.toList.getD 40 undef, a.tmps.toList.getD 41 undef, a.tmps.toList.getD 42 undef, a.tmps.toList.getD 43 undef, a.tmps.toList.getD 44 undef, a.tmps.toList.getD 45 undef, a.tmps.toList.getD 46 undef, a.tmps.toList.getD 47 undef, a.tmps.toList.getD 48 undef, a.tmps.toList.getD 49 undef, a.tmps.toList.getD 50 undef, a.tmps.toList.getD 51 undef, a.tmps.toList.getD 52 undef, a.tmps.toList.getD 53 undef, a.tmps.toList.getD 54 undef, a.tmps.toList.getD 55 undef, a.tmps.toList.getD 56 undef, a.tmps.toList.getD 57 undef, a.tmps.toList.getD 58 undef, a.tmps.toList.getD 59 undef, a.tmps.toList.getD 60 undef, a.tmps.toList.getD 61 undef, a.tmps.toList.getD 62 undef, a.tmps.toList.getD 63 undef, a.tmps.toList.getD 64 undef, a.tmps.toList.getD 65 undef, a.tmps.toList.getD 66 undef, a.tmps.toList.getD 67 undef, a.tmps.toList.getD 68 undef, a.tmps.toList.getD 69 undef, a.tmps.toList.getD 70 undef, a.tmps.toList.getD 71 undef, a.tmps.toList.getD 72 undef, a.tmps.toList.getD 73 undef, a.tmps.toList.getD 74 undef, a.tmps.toList.getD 75 undef, a.tmps.toList.getD 76 undef, a.tmps.toList.getD 77 undef, a.tmps.toList.getD 78 undef, a.tmps.toList.getD 79 undef, a.tmps.toList.getD 80 undef, a.tmps.toList.getD 81 undef, a.tmps.toList.getD 82 undef, a.tmps.toList.getD 83 undef, a.tmps.toList.getD 84 undef, a.tmps.toList.getD 85 undef] := rfl
  rw [r, Ord.at_get f0, Ord.at_get f1, Ord.at_get f2, Ord.at_get f3, Ord.at_get f4, Ord.at_get f5, Ord.at_get f6, Ord.at_get f7, Ord.at_get f8, Ord.at_get f9, Ord.at_get f10, Ord.at_get f11, Ord.at_get f12, Ord.at_get f13, Ord.at_get f14, Ord.at_get f15, Ord.at_get f47, Ord.at_get f48, Ord.at_get f49, Ord.at_get f50, Ord.at_get f51, Ord.at_get f52, Ord.at_get f53, Ord.at_get f54, Ord.at_get f55, Ord.at_get f56, Ord.at_get f57, Ord.at_get f58, Ord.at_get f59, Ord.at_get f60, Ord.at_get f61, Ord.at_get f62, Ord.at_get f63, Ord.at_get f64, Ord.at_get f65, Ord.at_get f66, Ord.at_get f67, Ord.at_get f68, Ord.at_get f69, Ord.at_get f70, Ord.at_get f71, Ord.at_get f72, Ord.at_get f73, Ord.at_get f74, Ord.at_get f75, Ord.at_get f76, Ord.at_get f77, Ord.at_get f78, Ord.at_get f79, Ord.at_get f80, Ord.at_get f81, Ord.at_get f82, Ord.at_get f83, Ord.at_get f84, Ord.at_get f85] at e
  rw [e]
  exact h _ _ _ _ _ _ _ _ _ _ _ _ _ _ _ _ _ _ _ _ _ _ _ _ _ _ _ _ _ _ _

end Go.Proofs.YtikdlikdknfcfaaDoor
