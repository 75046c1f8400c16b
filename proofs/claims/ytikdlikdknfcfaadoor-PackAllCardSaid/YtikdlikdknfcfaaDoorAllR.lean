/-
  PackAll: its statements that draw their order: the two rows copied; the bytes read again; the two great ones.
-/
import Derived.Test.YtikdlikdknfcfaaDoorOrder
import Derived.Test.YtikdlikdknfcfaaDoorStr
import Derived.Test.YtikdlikdknfcfaaDoorFollows
import Derived.Test.YtikdlikdknfcfaaDoorRefRow
import Derived.Test.YtikdlikdknfcfaaDoorGrow
import Derived.Test.YtikdlikdknfcfaaDoorStore
namespace Go.Proofs.YtikdlikdknfcfaaDoor.Ord
open Go.ChangeShapes Go.WideShapes Go.ChangeAt Go.RowKit
section
variable {P : Program} {ops : Array Oper} {L : List Line} {Q : Exit → Act → World → Prop} {S : World → Prop}
/-- A store, as the next one. -/
theorem effect {bs bs' : List Bool} {k fuel : Nat} {m : List Nat} {op : Op} {g : Option (Nat × Bool)} {a : Act} {w w1 : World} (R : Reg ops L) (hs : L[k]? = some (none, op, g, m)) (hok : okF bs L k bs' = true)
    (hg : Chain.Open ops a g) (hS : S w1) (hv : ∀ ty, (execOp a.eval ⟨none, op, ty, "", #[], none⟩).run P w = .ok .skip w1)
    (h : wpAnyH P .any ops Q S fuel bs'.toArray a w1) : wpAnyH P .any ops Q S (fuel + 1) bs.toArray a w := by
  obtain ⟨o, ho, e1, e2, e3⟩ := line_get R.look hs
  subst e2 e3
  refine forced R hok (wpOp_step ho fun K hK => ?_)
  rw [if_pos hg.wanted]
  unfold Oper.wp
  rw [Chain.exec_shape, e1, hv]
  simp only [Oper.upon, e1]
  exact hK _ _ ⟨hS, h⟩
/-- What is to be shown of the k-th operation where it is the next one. -/
def Step (P : Program) (ops : Array Oper) (Q : Exit → Act → World → Prop) (S : World → Prop) (fuel k : Nat) (bs' : List Bool) (a : Act) (w : World) : Prop := wpOp P ops Q k (fun a' w' => S w' ∧ wpAnyH P .any ops Q S fuel bs'.toArray a' w') a w
/-- Two operations may come up; either may be the next one. -/
theorem either {bs bs1 bs2 : List Bool} {i j fuel : Nat} {a : Act} {w : World} (R : Reg ops L) (hr : (up bs L == [i, j] && bs.set i true == bs1 && bs.set j true == bs2) = true) (h1 : Step P ops Q S fuel i bs1 a w) (h2 : Step P ops Q S fuel j bs2 a w) : wpAnyH P .any ops Q S (fuel + 1) bs.toArray a w := by
  simp only [Bool.and_eq_true, beq_iff_eq] at hr
  obtain ⟨⟨hr, hb1⟩, hb2⟩ := hr
  subst hb1 hb2
  refine ⟨fun h0 => ?_, fun t ht => ?_⟩
  · have := (mem_up R.look bs i).2 (by rw [hr]; simp)
    rw [h0] at this
    cases this
  · have ht' := (mem_up R.look bs t).1 ht
    rw [hr] at ht'
    have ht2 : t = i ∨ t = j := by simpa using ht'
    rw [List.setIfInBounds_toArray]
    rcases ht2 with rfl | rfl
    · exact h1
    · exact h2
theorem step_next {bs bs' : List Bool} {k fuel : Nat} {a : Act} {w : World} (R : Reg ops L) (hok : okF bs L k bs' = true) (h : Step P ops Q S fuel k bs' a w) : wpAnyH P .any ops Q S (fuel + 1) bs.toArray a w := forced R hok h
theorem step_value {bs' : List Bool} {k fuel d : Nat} {m : List Nat} {op : Op} {g : Option (Nat × Bool)} {v : Value} {a : Act} {w w1 : World} (R : Reg ops L) (hs : L[k]? = some (some d, op, g, m))
    (hg : Chain.Open ops a g) (hS : S w1) (hv : ∀ ty, (execOp a.eval ⟨some d, op, ty, "", #[], none⟩).run P w = .ok (.value v) w1) (hd : d < a.tmps.size)
    (h : ∀ a', Chain.Next a a' d v → wpAnyH P .any ops Q S fuel bs'.toArray a' w1) : Step P ops Q S fuel k bs' a w := by
  obtain ⟨o, ho, e1, e2, e3⟩ := line_get R.look hs
  subst e2 e3
  refine wpOp_step ho fun K hK => ?_
  rw [if_pos hg.wanted]
  unfold Oper.wp
  rw [Chain.exec_shape, e1, hv]
  simp only [Oper.upon, e1]
  exact hK _ _ ⟨hS, h _ (Chain.next hd v)⟩
theorem step_call {bs' : List Bool} {k fuel d f : Nat} {m : List Nat} {xs : Array Operand} {ts : Array TypeId} {args : Array Value} {g : Option (Nat × Bool)} {a : Act} {w : World} {Post : Ending → World → Prop} (R : Reg ops L)
    (hs : L[k]? = some (some d, .call { callee := .value (.func f), args := xs, argTypes := ts }, g, m))
    (hg : Chain.Open ops a g) (ha : xs.map a.eval = args) (hf : Chain.enters P f = true) (hc : Calls P f args w Post) (hd : d < a.tmps.size)
    (h : ∀ e w', Post e w' → ∃ v, e = .returned v ∧ S w' ∧ ∀ a', Chain.Next a a' d v → wpAnyH P .any ops Q S fuel bs'.toArray a' w') : Step P ops Q S fuel k bs' a w := by
  obtain ⟨o, ho, e1, e2, e3⟩ := line_get R.look hs
  subst e3
  refine wpOp_step ho fun K hK => ?_
  rw [if_pos hg.wanted]
  unfold Oper.wp
  have he : (execOp a.eval o).run P w = .ok (.enter f args) w := by
    rw [Chain.exec_shape, e1, e2]
    subst ha
    simp [execOp, resolve, invoke, Act.eval, Deferred.ofValue, Chain.run_enters hf]
  rw [he, Oper.upon_enter]
  refine hc.mono fun e w' hp => ?_
  obtain ⟨v, rfl, hS, hw⟩ := h e w' hp
  rw [e1]
  exact hK _ _ ⟨hS, hw _ (Chain.next hd v)⟩
theorem step_append {bs' : List Bool} {k fuel d : Nat} {l : List Nat} {g : Option (Nat × Bool)} {a : Act} {w : World} (R : Reg ops L) (s x : Operand) (t : TypeId)
    (hsl : L[k]? = some (some d, .call { callee := .builtin .append, args := #[s, x], argTypes := #[t, t] }, g, l)) (hg : Chain.Open ops a g) (hd : d < a.tmps.size)
    (base : Nat) (e : TypeId) (i : TypeInfo) (z : Value) (size bytes : Nat) (ht : P.underlying t = some (.slice e)) (hi : P.info? e = some i) (hz : i.zero = some z)
    (hsize : i.size = size) (hby : i.bytes = bytes) (hzs : z.cells.size = size) (hsz : 0 < size) (v : Value) (n : Nat) (xs : List Value) (hs : a.eval s = v) (hown : w.ownsRow base e size v n xs)
    (A : Option Addr) (m c : Nat) (news : List Value) (hx : a.eval x = .slice A m c) (B : Nat) (hq : Sq w B size m A news) (h1 : ∀ u ∈ news, u.oneCell' = true) (h63 : n + m ≤ maxLen) (hbytes : (n + m) * bytes ≤ 140737488355328) (hbase : base ≤ w.heap.size)
    (h : ∀ A' c' w', w'.ownsRow base e size (.slice A' (n + m) c') (n + m) (xs ++ news) → w.grownBy w' v.ownBlock → S w' ∧ ∀ a', Chain.Next a a' d (.slice A' (n + m) c') → wpAnyH P .any ops Q S fuel bs'.toArray a' w') : Step P ops Q S fuel k bs' a w := by
  obtain ⟨o, ho, e1, e2, e3⟩ := line_get R.look hsl
  subst e3
  refine wpOp_step ho fun K hK => ?_
  rw [if_pos hg.wanted]
  obtain ⟨A', c', w', hrun, h2, h3, _⟩ := run_app (P := P) w t o.type base e i z size bytes ht hi hz hsize hby hzs hsz v n xs hown A m c news B hq h1 h63 hbytes hbase
  unfold Oper.wp execOp
  simp only [e2, resolve, invoke, builtin, Sem.run_bind, Sem.run_pure, Result.andThen_ok, List.map_toArray, List.map_cons, List.map_nil, hs, hx, hrun]
  simp only [Oper.upon, e1]
  obtain ⟨hS, hw⟩ := h A' c' w' h2 h3
  exact hK _ _ ⟨hS, hw _ (Chain.next hd _)⟩
end
end Go.Proofs.YtikdlikdknfcfaaDoor.Ord

namespace Go.Proofs.YtikdlikdknfcfaaDoor
open Go.ChangeShapes Go.WideShapes Go.ChangeAt Go.RowKit

def all4L : List Ord.Line := [
  (some 20, Go.Op.load 31 (Go.Operand.tmp 3), none, []),
  (some 21, Go.Op.call { callee := Go.Callee.value (Go.Operand.func 23), args := #[Go.Operand.tmp 20], argTypes := #[31] }, none, [0]),
  (some 22, Go.Op.load 31 (Go.Operand.tmp 4), none, []),
  (some 23, Go.Op.call { callee := Go.Callee.value (Go.Operand.func 23), args := #[Go.Operand.tmp 22], argTypes := #[31] }, none, [2, 1]),
  (none, Go.Op.store 31 (Go.Operand.tmp 3) (Go.Operand.tmp 21), none, [1, 3, 0, 1]),
  (none, Go.Op.store 31 (Go.Operand.tmp 4) (Go.Operand.tmp 23), none, [3, 4, 0, 1, 2, 3, 4])]

/-- The slots that are known all the way. -/
structure All4Fr (A : Option Addr) (n c g3 g4 : Nat) (a : Act) : Prop where
  size : a.tmps.size = 117
  defers : a.defers = []
  s2 : Chain.At a 2 (.slice A n c)
  s3 : Chain.At a 3 (.pointer (some ⟨g3, 0, none⟩))
  s4 : Chain.At a 4 (.pointer (some ⟨g4, 0, none⟩))
theorem All4Fr.next {A : Option Addr} {n c g3 g4 : Nat} {a a' : Act} {d : Nat} {v : Value} (F : All4Fr A n c g3 g4 a) (nx : Chain.Next a a' d v) (h : d ≠ 2 ∧ d ≠ 3 ∧ d ≠ 4) : All4Fr A n c g3 g4 a' := ⟨nx.size.trans F.size, nx.defers.trans F.defers, nx.keep 2 _ h.1 F.s2, nx.keep 3 _ h.2.1 F.s3, nx.keep 4 _ h.2.2 F.s4⟩
theorem All4Fr.lt {A : Option Addr} {n c g3 g4 : Nat} {a : Act} {d : Nat} (F : All4Fr A n c g3 g4 a) (h : d < 117) : d < a.tmps.size := by rw [F.size]; exact h

set_option maxRecDepth 100000 in
theorem all4_great {ops : Array Oper} {Q : Exit → Act → World → Prop} (R : Ord.Reg ops all4L) {w0 : World} {A rA sA : Option Addr} {n c g3 g4 base rn rc sn sc : Nat} {wr ws : Bool} {rl sl : List Cel}
    (RR : RowAt w0 g3 (.slice rA rn rc) wr) (TT : RowAt w0 g4 (.slice sA sn sc) ws) (RQ0 : Sq w0 w0.heap.size 3 rn rA (flat rl)) (SQ0 : Sq w0 w0.heap.size 3 sn sA (flat sl)) (rle : rn ≤ rc) (rcap : rc ≤ maxLen) (sle : sn ≤ sc) (scap : sc ≤ maxLen)
    (h34 : g3 < g4) (hb3 : base ≤ g3) (hg4 : g4 < w0.heap.size) (a : Act) (F : All4Fr A n c g3 g4 a)
    (h : ∀ a w A3 m3 c3 A4 m4 c4, All4Fr A n c g3 g4 a → RowAt w g3 (.slice A3 m3 c3) wr → RowAt w g4 (.slice A4 m4 c4) ws → HasC w 0 (.slice A3 m3 c3) (cut310 rl) → HasC w 0 (.slice A4 m4 c4) (cut310 sl) → (cut310 rl).length = m3 → (cut310 sl).length = m4 → Below base w0 w → Q .normal a w) :
    wpAnyH Tryd.prog .any ops Q (fun _ => True) 6 (List.replicate 6 false).toArray a w0 := by
  have Bel := Below.refl w0.heap.size w0
  have hbase : base ≤ w0.heap.size := by omega
  obtain ⟨w, hw⟩ : ∃ w, w0 = w := ⟨_, rfl⟩
  have RR2 := RR
  have TT2 := TT
  have Bel2 := Bel
  clear RR TT Bel
  rw [hw] at RR2 TT2 ⊢
  have Bel : Below w0.heap.size w0 w := by rw [← hw]; exact Bel2
  have RR := RR2
  have TT := TT2
  clear RR2 TT2 Bel2 hw
  refine Ord.either R (i := 0) (j := 2) (bs1 := (Ord.upto 1 6)) (bs2 := [false, false, true, false, false, false]) (by kernel_rfl) ?_ ?_
  · skip
    refine Ord.step_value R (k := 0) (v := .agg #[.slice rA rn rc, .bool wr]) (w1 := w) rfl trivial trivial (fun _ => by have e0 := F.s3; unfold Chain.At at e0; have q0 : w.cell? ⟨g3, 0, none⟩ = _ := RR.get 0; have q1 : w.cell? ⟨g3, 1, none⟩ = _ := RR.get 1; clear F; go_simp) (F.lt (by decide)) fun a0 N => ?_
    replace F := F.next N (by simp)
    have f20 := N.got
    clear N
    refine Ord.either R (i := 1) (j := 2) (bs1 := (Ord.upto 2 6)) (bs2 := [true, false, true, false, false, false]) (by kernel_rfl) ?_ ?_
    · skip
      refine Ord.step_call R (k := 1) (args := #[.agg #[.slice rA rn rc, .bool wr]]) rfl trivial (by simp [f20.ev]) (by kernel_rfl) (lawRow_walk rA rn rc wr rl w (RQ0.below Bel |>.up Bel.size) rle rcap) (F.lt (by decide)) ?_
      rintro e w ⟨v1, rfl, hv1, b1⟩
      obtain ⟨A3, c3, rfl, _⟩ := HasC.shape hv1
      obtain ⟨m3, hm3⟩ : ∃ m, (cut310 rl).length = m := ⟨_, rfl⟩
      rw [hm3] at hv1 ⊢
      replace RR := (show RowAt w g3 (.slice rA rn rc) wr from (b1.block _ RR.lt).trans RR)
      replace TT := (show RowAt w g4 (.slice sA sn sc) ws from (b1.block _ TT.lt).trans TT)
      have V3 := HasC.mono hv1 Bel.size
      replace Bel := Bel.trans (b1.mono Bel.size)
      clear hv1 b1
      refine ⟨_, rfl, trivial, fun a1 N => ?_⟩
      replace F := F.next N (by simp)
      clear f20
      have f21 := N.got
      clear N
      refine Ord.step_next R (k := 2) (bs' := (Ord.upto 3 6)) (by kernel_rfl) (Ord.step_value R (k := 2) (v := .agg #[.slice sA sn sc, .bool ws]) (w1 := w) rfl trivial trivial (fun _ => by have e0 := F.s4; unfold Chain.At at e0; have q0 : w.cell? ⟨g4, 0, none⟩ = _ := TT.get 0; have q1 : w.cell? ⟨g4, 1, none⟩ = _ := TT.get 1; clear F; go_simp) (F.lt (by decide)) fun a2 N => ?_)
      replace F := F.next N (by simp)
      replace f21 := N.keep 21 _ (by decide) f21
      have f22 := N.got
      clear N
      refine Ord.step_next R (k := 3) (bs' := (Ord.upto 4 6)) (by kernel_rfl) (Ord.step_call R (k := 3) (args := #[.agg #[.slice sA sn sc, .bool ws]]) rfl trivial (by simp [f22.ev]) (by kernel_rfl) (lawRow_walk sA sn sc ws sl w (SQ0.below Bel |>.up Bel.size) sle scap) (F.lt (by decide)) ?_)
      rintro e w ⟨v3, rfl, hv3, b3⟩
      obtain ⟨A4, c4, rfl, _⟩ := HasC.shape hv3
      obtain ⟨m4, hm4⟩ : ∃ m, (cut310 sl).length = m := ⟨_, rfl⟩
      rw [hm4] at hv3 ⊢
      replace RR := (show RowAt w g3 (.slice rA rn rc) wr from (b3.block _ RR.lt).trans RR)
      replace TT := (show RowAt w g4 (.slice sA sn sc) ws from (b3.block _ TT.lt).trans TT)
      replace V3 := HasC.keep (w' := w) V3 (fun j e => b3.block j (HasC.lt V3 j e).2)
      have V4 := HasC.mono hv3 Bel.size
      replace Bel := Bel.trans (b3.mono Bel.size)
      clear hv3 b3
      refine ⟨_, rfl, trivial, fun a3 N => ?_⟩
      replace F := F.next N (by simp)
      replace f21 := N.keep 21 _ (by decide) f21
      clear f22
      have f23 := N.got
      clear N
      refine Ord.effect R (k := 4) (bs' := (Ord.upto 5 6)) (w1 := (w.setCell ⟨g3, 0, none⟩ (.slice A3 m3 c3)).setCell ⟨g3, 1, none⟩ (.bool wr)) rfl (by kernel_rfl) trivial trivial (fun _ => by have e0 := F.s3; have e1 := f21; unfold Chain.At at e0 e1; have q0 : w.cell? ⟨g3, 0, none⟩ = _ := RR.get 0; have q1 : w.cell? ⟨g3, 1, none⟩ = _ := RR.get 1; have q2 := RR.free 0; have q3 := RR.free 1; clear F; go_simp) ?_
      have RN := RowAt.put2 RR (.slice A3 m3 c3) wr
      have ON : RowAt ((w.setCell ⟨g3, 0, none⟩ (.slice A3 m3 c3)).setCell ⟨g3, 1, none⟩ (.bool wr)) g4 _ _ := (by have h := TT; unfold RowAt at h ⊢; rw [Below.heap_setCell _ _ _ _ (by show g4 ≠ g3; omega), Below.heap_setCell _ _ _ _ (by show g4 ≠ g3; omega)]; exact h)
      have V3N := HasC.keep (w' := (w.setCell ⟨g3, 0, none⟩ (.slice A3 m3 c3)).setCell ⟨g3, 1, none⟩ (.bool wr)) V3 (fun j e => by have h := (HasC.lt V3 j e).1; rw [Below.heap_setCell _ _ _ _ (by show j ≠ g3; omega), Below.heap_setCell _ _ _ _ (by show j ≠ g3; omega)])
      have V4N := HasC.keep (w' := (w.setCell ⟨g3, 0, none⟩ (.slice A3 m3 c3)).setCell ⟨g3, 1, none⟩ (.bool wr)) V4 (fun j e => by have h := (HasC.lt V4 j e).1; rw [Below.heap_setCell _ _ _ _ (by show j ≠ g3; omega), Below.heap_setCell _ _ _ _ (by show j ≠ g3; omega)])
      have BN : Below base w0 ((w.setCell ⟨g3, 0, none⟩ (.slice A3 m3 c3)).setCell ⟨g3, 1, none⟩ (.bool wr)) := ((Bel.mono hbase).setCell (p := ⟨g3, 0, none⟩) (by show base ≤ g3; omega) _).setCell (p := ⟨g3, 1, none⟩) (by show base ≤ g3; omega) _
      generalize (w.setCell ⟨g3, 0, none⟩ (.slice A3 m3 c3)).setCell ⟨g3, 1, none⟩ (.bool wr) = w1 at RN ON V3N V4N BN ⊢
      clear RR TT V3 V4 Bel
      have RR := RN
      have TT := ON
      have V3 := V3N
      have V4 := V4N
      have BB := BN
      clear RN ON V3N V4N BN
      skip
      refine Ord.effect R (k := 5) (bs' := (Ord.upto 6 6)) (w1 := (w1.setCell ⟨g4, 0, none⟩ (.slice A4 m4 c4)).setCell ⟨g4, 1, none⟩ (.bool ws)) rfl (by kernel_rfl) trivial trivial (fun _ => by have e0 := F.s4; have e1 := f23; unfold Chain.At at e0 e1; have q0 : w1.cell? ⟨g4, 0, none⟩ = _ := TT.get 0; have q1 : w1.cell? ⟨g4, 1, none⟩ = _ := TT.get 1; have q2 := TT.free 0; have q3 := TT.free 1; clear F; go_simp) ?_
      have RN := RowAt.put2 TT (.slice A4 m4 c4) ws
      have ON : RowAt ((w1.setCell ⟨g4, 0, none⟩ (.slice A4 m4 c4)).setCell ⟨g4, 1, none⟩ (.bool ws)) g3 _ _ := (by have h := RR; unfold RowAt at h ⊢; rw [Below.heap_setCell _ _ _ _ (by show g3 ≠ g4; omega), Below.heap_setCell _ _ _ _ (by show g3 ≠ g4; omega)]; exact h)
      have V3N := HasC.keep (w' := (w1.setCell ⟨g4, 0, none⟩ (.slice A4 m4 c4)).setCell ⟨g4, 1, none⟩ (.bool ws)) V3 (fun j e => by have h := (HasC.lt V3 j e).1; rw [Below.heap_setCell _ _ _ _ (by show j ≠ g4; omega), Below.heap_setCell _ _ _ _ (by show j ≠ g4; omega)])
      have V4N := HasC.keep (w' := (w1.setCell ⟨g4, 0, none⟩ (.slice A4 m4 c4)).setCell ⟨g4, 1, none⟩ (.bool ws)) V4 (fun j e => by have h := (HasC.lt V4 j e).1; rw [Below.heap_setCell _ _ _ _ (by show j ≠ g4; omega), Below.heap_setCell _ _ _ _ (by show j ≠ g4; omega)])
      have BN : Below base w0 ((w1.setCell ⟨g4, 0, none⟩ (.slice A4 m4 c4)).setCell ⟨g4, 1, none⟩ (.bool ws)) := ((BB).setCell (p := ⟨g4, 0, none⟩) (by show base ≤ g4; omega) _).setCell (p := ⟨g4, 1, none⟩) (by show base ≤ g4; omega) _
      generalize (w1.setCell ⟨g4, 0, none⟩ (.slice A4 m4 c4)).setCell ⟨g4, 1, none⟩ (.bool ws) = w5 at RN ON V3N V4N BN ⊢
      clear RR TT V3 V4 BB
      have TT := RN
      have RR := ON
      have V3 := V3N
      have V4 := V4N
      have BB := BN
      clear RN ON V3N V4N BN
      skip
      refine Ord.finish R (by kernel_rfl) ?_
      exact h _ _ _ _ _ _ _ _ F RR TT (HasC.mono V3 (Nat.zero_le _)) (HasC.mono V4 (Nat.zero_le _)) hm3 hm4 BB
    · skip
      refine Ord.step_value R (k := 2) (v := .agg #[.slice sA sn sc, .bool ws]) (w1 := w) rfl trivial trivial (fun _ => by have e0 := F.s4; unfold Chain.At at e0; have q0 : w.cell? ⟨g4, 0, none⟩ = _ := TT.get 0; have q1 : w.cell? ⟨g4, 1, none⟩ = _ := TT.get 1; clear F; go_simp) (F.lt (by decide)) fun a2 N => ?_
      replace F := F.next N (by simp)
      replace f20 := N.keep 20 _ (by decide) f20
      have f22 := N.got
      clear N
      refine Ord.step_next R (k := 1) (bs' := (Ord.upto 3 6)) (by kernel_rfl) (Ord.step_call R (k := 1) (args := #[.agg #[.slice rA rn rc, .bool wr]]) rfl trivial (by simp [f20.ev]) (by kernel_rfl) (lawRow_walk rA rn rc wr rl w (RQ0.below Bel |>.up Bel.size) rle rcap) (F.lt (by decide)) ?_)
      rintro e w ⟨v1, rfl, hv1, b1⟩
      obtain ⟨A3, c3, rfl, _⟩ := HasC.shape hv1
      obtain ⟨m3, hm3⟩ : ∃ m, (cut310 rl).length = m := ⟨_, rfl⟩
      rw [hm3] at hv1 ⊢
      replace RR := (show RowAt w g3 (.slice rA rn rc) wr from (b1.block _ RR.lt).trans RR)
      replace TT := (show RowAt w g4 (.slice sA sn sc) ws from (b1.block _ TT.lt).trans TT)
      have V3 := HasC.mono hv1 Bel.size
      replace Bel := Bel.trans (b1.mono Bel.size)
      clear hv1 b1
      refine ⟨_, rfl, trivial, fun a1 N => ?_⟩
      replace F := F.next N (by simp)
      clear f20
      replace f22 := N.keep 22 _ (by decide) f22
      have f21 := N.got
      clear N
      refine Ord.step_next R (k := 3) (bs' := (Ord.upto 4 6)) (by kernel_rfl) (Ord.step_call R (k := 3) (args := #[.agg #[.slice sA sn sc, .bool ws]]) rfl trivial (by simp [f22.ev]) (by kernel_rfl) (lawRow_walk sA sn sc ws sl w (SQ0.below Bel |>.up Bel.size) sle scap) (F.lt (by decide)) ?_)
      rintro e w ⟨v3, rfl, hv3, b3⟩
      obtain ⟨A4, c4, rfl, _⟩ := HasC.shape hv3
      obtain ⟨m4, hm4⟩ : ∃ m, (cut310 sl).length = m := ⟨_, rfl⟩
      rw [hm4] at hv3 ⊢
      replace RR := (show RowAt w g3 (.slice rA rn rc) wr from (b3.block _ RR.lt).trans RR)
      replace TT := (show RowAt w g4 (.slice sA sn sc) ws from (b3.block _ TT.lt).trans TT)
      replace V3 := HasC.keep (w' := w) V3 (fun j e => b3.block j (HasC.lt V3 j e).2)
      have V4 := HasC.mono hv3 Bel.size
      replace Bel := Bel.trans (b3.mono Bel.size)
      clear hv3 b3
      refine ⟨_, rfl, trivial, fun a3 N => ?_⟩
      replace F := F.next N (by simp)
      replace f21 := N.keep 21 _ (by decide) f21
      clear f22
      have f23 := N.got
      clear N
      refine Ord.effect R (k := 4) (bs' := (Ord.upto 5 6)) (w1 := (w.setCell ⟨g3, 0, none⟩ (.slice A3 m3 c3)).setCell ⟨g3, 1, none⟩ (.bool wr)) rfl (by kernel_rfl) trivial trivial (fun _ => by have e0 := F.s3; have e1 := f21; unfold Chain.At at e0 e1; have q0 : w.cell? ⟨g3, 0, none⟩ = _ := RR.get 0; have q1 : w.cell? ⟨g3, 1, none⟩ = _ := RR.get 1; have q2 := RR.free 0; have q3 := RR.free 1; clear F; go_simp) ?_
      have RN := RowAt.put2 RR (.slice A3 m3 c3) wr
      have ON : RowAt ((w.setCell ⟨g3, 0, none⟩ (.slice A3 m3 c3)).setCell ⟨g3, 1, none⟩ (.bool wr)) g4 _ _ := (by have h := TT; unfold RowAt at h ⊢; rw [Below.heap_setCell _ _ _ _ (by show g4 ≠ g3; omega), Below.heap_setCell _ _ _ _ (by show g4 ≠ g3; omega)]; exact h)
      have V3N := HasC.keep (w' := (w.setCell ⟨g3, 0, none⟩ (.slice A3 m3 c3)).setCell ⟨g3, 1, none⟩ (.bool wr)) V3 (fun j e => by have h := (HasC.lt V3 j e).1; rw [Below.heap_setCell _ _ _ _ (by show j ≠ g3; omega), Below.heap_setCell _ _ _ _ (by show j ≠ g3; omega)])
      have V4N := HasC.keep (w' := (w.setCell ⟨g3, 0, none⟩ (.slice A3 m3 c3)).setCell ⟨g3, 1, none⟩ (.bool wr)) V4 (fun j e => by have h := (HasC.lt V4 j e).1; rw [Below.heap_setCell _ _ _ _ (by show j ≠ g3; omega), Below.heap_setCell _ _ _ _ (by show j ≠ g3; omega)])
      have BN : Below base w0 ((w.setCell ⟨g3, 0, none⟩ (.slice A3 m3 c3)).setCell ⟨g3, 1, none⟩ (.bool wr)) := ((Bel.mono hbase).setCell (p := ⟨g3, 0, none⟩) (by show base ≤ g3; omega) _).setCell (p := ⟨g3, 1, none⟩) (by show base ≤ g3; omega) _
      generalize (w.setCell ⟨g3, 0, none⟩ (.slice A3 m3 c3)).setCell ⟨g3, 1, none⟩ (.bool wr) = w1 at RN ON V3N V4N BN ⊢
      clear RR TT V3 V4 Bel
      have RR := RN
      have TT := ON
      have V3 := V3N
      have V4 := V4N
      have BB := BN
      clear RN ON V3N V4N BN
      skip
      refine Ord.effect R (k := 5) (bs' := (Ord.upto 6 6)) (w1 := (w1.setCell ⟨g4, 0, none⟩ (.slice A4 m4 c4)).setCell ⟨g4, 1, none⟩ (.bool ws)) rfl (by kernel_rfl) trivial trivial (fun _ => by have e0 := F.s4; have e1 := f23; unfold Chain.At at e0 e1; have q0 : w1.cell? ⟨g4, 0, none⟩ = _ := TT.get 0; have q1 : w1.cell? ⟨g4, 1, none⟩ = _ := TT.get 1; have q2 := TT.free 0; have q3 := TT.free 1; clear F; go_simp) ?_
      have RN := RowAt.put2 TT (.slice A4 m4 c4) ws
      have ON : RowAt ((w1.setCell ⟨g4, 0, none⟩ (.slice A4 m4 c4)).setCell ⟨g4, 1, none⟩ (.bool ws)) g3 _ _ := (by have h := RR; unfold RowAt at h ⊢; rw [Below.heap_setCell _ _ _ _ (by show g3 ≠ g4; omega), Below.heap_setCell _ _ _ _ (by show g3 ≠ g4; omega)]; exact h)
      have V3N := HasC.keep (w' := (w1.setCell ⟨g4, 0, none⟩ (.slice A4 m4 c4)).setCell ⟨g4, 1, none⟩ (.bool ws)) V3 (fun j e => by have h := (HasC.lt V3 j e).1; rw [Below.heap_setCell _ _ _ _ (by show j ≠ g4; omega), Below.heap_setCell _ _ _ _ (by show j ≠ g4; omega)])
      have V4N := HasC.keep (w' := (w1.setCell ⟨g4, 0, none⟩ (.slice A4 m4 c4)).setCell ⟨g4, 1, none⟩ (.bool ws)) V4 (fun j e => by have h := (HasC.lt V4 j e).1; rw [Below.heap_setCell _ _ _ _ (by show j ≠ g4; omega), Below.heap_setCell _ _ _ _ (by show j ≠ g4; omega)])
      have BN : Below base w0 ((w1.setCell ⟨g4, 0, none⟩ (.slice A4 m4 c4)).setCell ⟨g4, 1, none⟩ (.bool ws)) := ((BB).setCell (p := ⟨g4, 0, none⟩) (by show base ≤ g4; omega) _).setCell (p := ⟨g4, 1, none⟩) (by show base ≤ g4; omega) _
      generalize (w1.setCell ⟨g4, 0, none⟩ (.slice A4 m4 c4)).setCell ⟨g4, 1, none⟩ (.bool ws) = w5 at RN ON V3N V4N BN ⊢
      clear RR TT V3 V4 BB
      have TT := RN
      have RR := ON
      have V3 := V3N
      have V4 := V4N
      have BB := BN
      clear RN ON V3N V4N BN
      skip
      refine Ord.finish R (by kernel_rfl) ?_
      exact h _ _ _ _ _ _ _ _ F RR TT (HasC.mono V3 (Nat.zero_le _)) (HasC.mono V4 (Nat.zero_le _)) hm3 hm4 BB
  · skip
    refine Ord.step_value R (k := 2) (v := .agg #[.slice sA sn sc, .bool ws]) (w1 := w) rfl trivial trivial (fun _ => by have e0 := F.s4; unfold Chain.At at e0; have q0 : w.cell? ⟨g4, 0, none⟩ = _ := TT.get 0; have q1 : w.cell? ⟨g4, 1, none⟩ = _ := TT.get 1; clear F; go_simp) (F.lt (by decide)) fun a2 N => ?_
    replace F := F.next N (by simp)
    have f22 := N.got
    clear N
    refine Ord.step_next R (k := 0) (bs' := [true, false, true, false, false, false]) (by kernel_rfl) (Ord.step_value R (k := 0) (v := .agg #[.slice rA rn rc, .bool wr]) (w1 := w) rfl trivial trivial (fun _ => by have e0 := F.s3; unfold Chain.At at e0; have q0 : w.cell? ⟨g3, 0, none⟩ = _ := RR.get 0; have q1 : w.cell? ⟨g3, 1, none⟩ = _ := RR.get 1; clear F; go_simp) (F.lt (by decide)) fun a0 N => ?_)
    replace F := F.next N (by simp)
    replace f22 := N.keep 22 _ (by decide) f22
    have f20 := N.got
    clear N
    refine Ord.step_next R (k := 1) (bs' := (Ord.upto 3 6)) (by kernel_rfl) (Ord.step_call R (k := 1) (args := #[.agg #[.slice rA rn rc, .bool wr]]) rfl trivial (by simp [f20.ev]) (by kernel_rfl) (lawRow_walk rA rn rc wr rl w (RQ0.below Bel |>.up Bel.size) rle rcap) (F.lt (by decide)) ?_)
    rintro e w ⟨v1, rfl, hv1, b1⟩
    obtain ⟨A3, c3, rfl, _⟩ := HasC.shape hv1
    obtain ⟨m3, hm3⟩ : ∃ m, (cut310 rl).length = m := ⟨_, rfl⟩
    rw [hm3] at hv1 ⊢
    replace RR := (show RowAt w g3 (.slice rA rn rc) wr from (b1.block _ RR.lt).trans RR)
    replace TT := (show RowAt w g4 (.slice sA sn sc) ws from (b1.block _ TT.lt).trans TT)
    have V3 := HasC.mono hv1 Bel.size
    replace Bel := Bel.trans (b1.mono Bel.size)
    clear hv1 b1
    refine ⟨_, rfl, trivial, fun a1 N => ?_⟩
    replace F := F.next N (by simp)
    clear f20
    replace f22 := N.keep 22 _ (by decide) f22
    have f21 := N.got
    clear N
    refine Ord.step_next R (k := 3) (bs' := (Ord.upto 4 6)) (by kernel_rfl) (Ord.step_call R (k := 3) (args := #[.agg #[.slice sA sn sc, .bool ws]]) rfl trivial (by simp [f22.ev]) (by kernel_rfl) (lawRow_walk sA sn sc ws sl w (SQ0.below Bel |>.up Bel.size) sle scap) (F.lt (by decide)) ?_)
    rintro e w ⟨v3, rfl, hv3, b3⟩
    obtain ⟨A4, c4, rfl, _⟩ := HasC.shape hv3
    obtain ⟨m4, hm4⟩ : ∃ m, (cut310 sl).length = m := ⟨_, rfl⟩
    rw [hm4] at hv3 ⊢
    replace RR := (show RowAt w g3 (.slice rA rn rc) wr from (b3.block _ RR.lt).trans RR)
    replace TT := (show RowAt w g4 (.slice sA sn sc) ws from (b3.block _ TT.lt).trans TT)
    replace V3 := HasC.keep (w' := w) V3 (fun j e => b3.block j (HasC.lt V3 j e).2)
    have V4 := HasC.mono hv3 Bel.size
    replace Bel := Bel.trans (b3.mono Bel.size)
    clear hv3 b3
    refine ⟨_, rfl, trivial, fun a3 N => ?_⟩
    replace F := F.next N (by simp)
    replace f21 := N.keep 21 _ (by decide) f21
    clear f22
    have f23 := N.got
    clear N
    refine Ord.effect R (k := 4) (bs' := (Ord.upto 5 6)) (w1 := (w.setCell ⟨g3, 0, none⟩ (.slice A3 m3 c3)).setCell ⟨g3, 1, none⟩ (.bool wr)) rfl (by kernel_rfl) trivial trivial (fun _ => by have e0 := F.s3; have e1 := f21; unfold Chain.At at e0 e1; have q0 : w.cell? ⟨g3, 0, none⟩ = _ := RR.get 0; have q1 : w.cell? ⟨g3, 1, none⟩ = _ := RR.get 1; have q2 := RR.free 0; have q3 := RR.free 1; clear F; go_simp) ?_
    have RN := RowAt.put2 RR (.slice A3 m3 c3) wr
    have ON : RowAt ((w.setCell ⟨g3, 0, none⟩ (.slice A3 m3 c3)).setCell ⟨g3, 1, none⟩ (.bool wr)) g4 _ _ := (by have h := TT; unfold RowAt at h ⊢; rw [Below.heap_setCell _ _ _ _ (by show g4 ≠ g3; omega), Below.heap_setCell _ _ _ _ (by show g4 ≠ g3; omega)]; exact h)
    have V3N := HasC.keep (w' := (w.setCell ⟨g3, 0, none⟩ (.slice A3 m3 c3)).setCell ⟨g3, 1, none⟩ (.bool wr)) V3 (fun j e => by have h := (HasC.lt V3 j e).1; rw [Below.heap_setCell _ _ _ _ (by show j ≠ g3; omega), Below.heap_setCell _ _ _ _ (by show j ≠ g3; omega)])
    have V4N := HasC.keep (w' := (w.setCell ⟨g3, 0, none⟩ (.slice A3 m3 c3)).setCell ⟨g3, 1, none⟩ (.bool wr)) V4 (fun j e => by have h := (HasC.lt V4 j e).1; rw [Below.heap_setCell _ _ _ _ (by show j ≠ g3; omega), Below.heap_setCell _ _ _ _ (by show j ≠ g3; omega)])
    have BN : Below base w0 ((w.setCell ⟨g3, 0, none⟩ (.slice A3 m3 c3)).setCell ⟨g3, 1, none⟩ (.bool wr)) := ((Bel.mono hbase).setCell (p := ⟨g3, 0, none⟩) (by show base ≤ g3; omega) _).setCell (p := ⟨g3, 1, none⟩) (by show base ≤ g3; omega) _
    generalize (w.setCell ⟨g3, 0, none⟩ (.slice A3 m3 c3)).setCell ⟨g3, 1, none⟩ (.bool wr) = w1 at RN ON V3N V4N BN ⊢
    clear RR TT V3 V4 Bel
    have RR := RN
    have TT := ON
    have V3 := V3N
    have V4 := V4N
    have BB := BN
    clear RN ON V3N V4N BN
    skip
    refine Ord.effect R (k := 5) (bs' := (Ord.upto 6 6)) (w1 := (w1.setCell ⟨g4, 0, none⟩ (.slice A4 m4 c4)).setCell ⟨g4, 1, none⟩ (.bool ws)) rfl (by kernel_rfl) trivial trivial (fun _ => by have e0 := F.s4; have e1 := f23; unfold Chain.At at e0 e1; have q0 : w1.cell? ⟨g4, 0, none⟩ = _ := TT.get 0; have q1 : w1.cell? ⟨g4, 1, none⟩ = _ := TT.get 1; have q2 := TT.free 0; have q3 := TT.free 1; clear F; go_simp) ?_
    have RN := RowAt.put2 TT (.slice A4 m4 c4) ws
    have ON : RowAt ((w1.setCell ⟨g4, 0, none⟩ (.slice A4 m4 c4)).setCell ⟨g4, 1, none⟩ (.bool ws)) g3 _ _ := (by have h := RR; unfold RowAt at h ⊢; rw [Below.heap_setCell _ _ _ _ (by show g3 ≠ g4; omega), Below.heap_setCell _ _ _ _ (by show g3 ≠ g4; omega)]; exact h)
    have V3N := HasC.keep (w' := (w1.setCell ⟨g4, 0, none⟩ (.slice A4 m4 c4)).setCell ⟨g4, 1, none⟩ (.bool ws)) V3 (fun j e => by have h := (HasC.lt V3 j e).1; rw [Below.heap_setCell _ _ _ _ (by show j ≠ g4; omega), Below.heap_setCell _ _ _ _ (by show j ≠ g4; omega)])
    have V4N := HasC.keep (w' := (w1.setCell ⟨g4, 0, none⟩ (.slice A4 m4 c4)).setCell ⟨g4, 1, none⟩ (.bool ws)) V4 (fun j e => by have h := (HasC.lt V4 j e).1; rw [Below.heap_setCell _ _ _ _ (by show j ≠ g4; omega), Below.heap_setCell _ _ _ _ (by show j ≠ g4; omega)])
    have BN : Below base w0 ((w1.setCell ⟨g4, 0, none⟩ (.slice A4 m4 c4)).setCell ⟨g4, 1, none⟩ (.bool ws)) := ((BB).setCell (p := ⟨g4, 0, none⟩) (by show base ≤ g4; omega) _).setCell (p := ⟨g4, 1, none⟩) (by show base ≤ g4; omega) _
    generalize (w1.setCell ⟨g4, 0, none⟩ (.slice A4 m4 c4)).setCell ⟨g4, 1, none⟩ (.bool ws) = w5 at RN ON V3N V4N BN ⊢
    clear RR TT V3 V4 BB
    have TT := RN
    have RR := ON
    have V3 := V3N
    have V4 := V4N
    have BB := BN
    clear RN ON V3N V4N BN
    skip
    refine Ord.finish R (by kernel_rfl) ?_
    exact h _ _ _ _ _ _ _ _ F RR TT (HasC.mono V3 (Nat.zero_le _)) (HasC.mono V4 (Nat.zero_le _)) hm3 hm4 BB

set_option maxRecDepth 100000 in
/-- The frame written out, its known slots in their places. -/
theorem all4_frame {a : Act} {w : World} {K : Act → World → Prop} {v2 v3 v4 : Value} (hz : a.tmps.size = 117) (hd : a.defers = []) (f2 : Chain.At a 2 v2) (f3 : Chain.At a 3 v3) (f4 : Chain.At a 4 v4)
    (h : ∀ u0 u1 u5 u6 u7 u8 u9 u10 u11 u12 u13 u14 u15 u16 u17 u18 u19 u20 u21 u22 u23 u24 u25 u26 u27 u28 u29 u30 u31 u32 u33 u34 u35 u36 u37 u38 u39 u40 u41 u42 u43 u44 u45 u46 u47 u48 u49 u50 u51 u52 u53 u54 u55 u56 u57 u58 u59 u60 u61 u62 u63 u64 u65 u66 u67 u68 u69 u70 u71 u72 u73 u74 u75 u76 u77 u78 u79 u80 u81 u82 u83 u84 u85 u86 u87 u88 u89 u90 u91 u92 u93 u94 u95 u96 u97 u98 u99 u100 u101 u102 u103 u104 u105 u106 u107 u108 u109 u110 u111 u112 u113 u114 u115 u116 : Value, K ⟨#[u0, u1, v2, v3, v4, u5, u6, u7, u8, u9, u10, u11, u12, u13, u14, u15, u16, u17, u18, u19, u20, u21, u22, u23, u24, u25, u26, u27, u28, u29, u30, u31, u32, u33, u34, u35, u36, u37, u38, u39, u40, u41, u42, u43, u44, u45, u46, u47, u48, u49, u50, u51, u52, u53, u54, u55, u56, u57, u58, u59, u60, u61, u62, u63, u64, u65, u66, u67, u68, u69, u70, u71, u72, u73, u74, u75, u76, u77, u78, u79, u80, u81, u82, u83, u84, u85, u86, u87, u88, u89, u90, u91, u92, u93, u94, u95, u96, u97, u98, u99, u100, u101, u102, u103, u104, u105, u106, u107, u108, u109, u110, u111, u112, u113, u114, u115, u116], []⟩ w) : K a w := by
  have e := Ord.frame_out hz hd
  have r : (List.range 117).map (fun i => a.tmps.toList.getD i undef) = [a.tmps.toList.getD 0 undef, a.tmps.toList.getD 1 undef, a.tmps.toList.getD 2 undef, a.tmps.toList.getD 3 undef, a.tmps.toList.getD 4 undef, a.tmps.toList.getD 5 undef, a.tmps.toList.getD 6 undef, a.tmps.toList.getD 7 undef, a.tmps.toList.getD 8 undef, a.tmps.toList.getD 9 undef, a.tmps.toList.getD 10 undef, a.tmps.toList.getD 11 undef, a.tmps.toList.getD 12 undef, a.tmps.toList.getD 13 undef, a.tmps.toList.getD 14 undef, a.tmps.toList.getD 15 undef, a.tmps.toList.getD 16 undef, a.tmps.toList.getD 17 undef, a.tmps.toList.getD 18 undef, a.tmps.toList.getD 19 undef, a.tmps.toList.getD 20 undef, a.tmps.toList.getD 21 undef, a.tmps.toList.getD 22 undef, a.tmps.toList.getD 23 undef, a.tmps.toList.getD 24 undef, a.tmps.toList.getD 25 undef, a.tmps.toList.getD 26 undef, a.tmps.toList.getD 27 undef, a.tmps.toList.getD 28 undef, a.tmps.toList.getD 29 undef, a.tmps.toList.getD 30 undef, a.tmps.toList.getD 31 undef, a.tmps.toList.getD 32 undef, a.tmps.toList.getD 33 undef, a.tmps.toList.getD 34 undef, a.tmps.toList.getD 35 undef, a.tmps.toList.getD 36 undef, a.tmps.toList.getD 37 undef, a.tmps.toList.getD 38 undef, a.tmps.toList.getD 39 undef, a.tmps.toList.getD 40 undef, a.tmps.toList.getD 41 undef, a.tmps.toList.getD 42 undef, a.tmps.toList.getD 43 undef, a.tmps.toList.getD 44 undef, a.tmps.toList.getD 45 undef, a.tmps.toList.getD 46 undef, a.tmps.toList.getD 47 undef, a.tmps.toList.getD 48 undef, a.tmps.toList.getD 49 undef, a.tmps.toList.getD 50 undef, a.tmps.toList.getD 51 undef, a.tmps.toList.getD 52 undef, a.tmps.toList.getD 53 undef, a.tmps.toList.getD 54 undef, a.tmps.toList.getD 55 undef, a.tmps.toList.getD 56 undef, a.tmps.toList.getD 57 undef, a.tmps.toList.getD 58 undef, a.tmps.toList.getD 59 undef, a.tmps.toList.getD 60 undef, a.tmps.toList.getD 61 undef, a.tmps.toList.getD 62 undef, a.tmps.toList.getD 63 undef, a.tmps.toList.getD 64 undef, a.tmps.toList.getD 65 undef, a.tmps.toList.getD 66 undef, a.tmps.toList.getD 67 undef, a.tmps.toList.getD 68 undef, a.tmps.toList.getD 69 undef, a.tmps.toList.getD 70 undef, a.tmps.toList.getD 71 undef, a.tmps.toList.getD 72 undef, a.tmps.toList.getD 73 undef, a.tmps.toList.getD 74 undef, a.tmps.toList.getD 75 undef, a.tmps.toList.getD 76 undef, a.tmps.toList.getD 77 undef, a.tmps.toList.getD 78 undef, a.tmps.toList.getD 79 undef, a.tmps.toList.getD 80 undef, a.tmps.toList.getD 81 undef, a.tmps.toList.getD 82 undef, a.tmps.toList.getD 83 undef, a.tmps.toList.getD 84 undef, a.tmps.toList.getD 85 undef, a.tmps.toList.getD 86 undef, a.tmps.toList.getD 87 undef, a.tmps.toList.getD 88 undef, a.tmps.toList.getD 89 undef, a.tmps.toList.getD 90 undef, a.tmps.toList.getD 91 undef, a.tmps.toList.getD 92 undef, a.tmps.toList.getD 93 undef, a.tmps.toList.getD 94 undef, a.tmps.toList.getD 95 undef, a.tmps.toList.getD 96 undef, a.tmps.toList.getD 97 undef, a.tmps.toList.getD 98 undef, a.tmps.toList.getD 99 undef, a.tmps.toList.getD 100 undef, a.tmps.toList.getD 101 undef, a.tmps.toList.getD 102 undef, a.tmps.toList.getD 103 undef, a.tmps.toList.getD 104 undef, a.tmps.toList.getD 105 undef, a.tmps.toList.getD 106 undef, a.tmps.toList.getD 107 undef, a.tmps.toList.getD 108 undef, a.tmps.toList.getD 109 undef, a.tmps.toList.getD 110 undef, a.tmps.toList.getD 111 undef, a.tmps.toList.getD 112 undef, a.tmps.toList.getD 113 undef, a.tmps.toList.getD 114 undef, a.tmps.toList.getD 115 undef, a.tmps.toList.getD 116 undef] := rfl
  rw [r, Ord.at_get f2, Ord.at_get f3, Ord.at_get f4] at e
  rw [e]
  exact h _ _ _ _ _ _ _ _ _ _ _ _ _ _ _ _ _ _ _ _ _ _ _ _ _ _ _ _ _ _ _ _ _ _ _ _ _ _ _ _ _ _ _ _ _ _ _ _ _ _ _ _ _ _ _ _ _ _ _ _ _ _ _ _ _ _ _ _ _ _ _ _ _ _ _ _ _ _ _ _ _ _ _ _ _ _ _ _ _ _ _ _ _ _ _ _ _ _ _ _ _ _ _ _ _ _ _ _ _ _ _ _ _ _

end Go.Proofs.YtikdlikdknfcfaaDoor

namespace Go.Proofs.YtikdlikdknfcfaaDoor
open Go.ChangeShapes Go.WideShapes Go.ChangeAt Go.RowKit

theorem eqL_self (wr : Bool) (l : List Cel) : (wr == wr && eqL l l) = true := by simp [eqL]
def all8L : List Ord.Line := [
  (some 39, Go.Op.load 31 (Go.Operand.tmp 3), none, []),
  (some 40, Go.Op.call { callee := Go.Callee.value (Go.Operand.func 26), args := #[Go.Operand.tmp 39], argTypes := #[31] }, none, [0]),
  (some 41, Go.Op.load 31 (Go.Operand.tmp 3), none, []),
  (some 42, Go.Op.call { callee := Go.Callee.value (Go.Operand.func 27), args := #[Go.Operand.tmp 41], argTypes := #[31] }, none, [2, 1]),
  (some 43, Go.Op.binOp Go.BinOp.neq 4 (Go.Operand.tmp 40) (Go.Operand.tmp 42) 4, none, [1, 3]),
  (some 44, Go.Op.move (Go.Operand.tmp 43), none, [4, 3]),
  (some 45, Go.Op.move (Go.Operand.tmp 9), some (5, false), [5]),
  (some 46, Go.Op.move (Go.Operand.tmp 13), some (5, false), [5]),
  (some 47, Go.Op.binOp Go.BinOp.neq 4 (Go.Operand.tmp 45) (Go.Operand.tmp 46) 4, some (5, false), [6, 7, 5]),
  (some 48, Go.Op.pick (Go.Operand.tmp 44) (Go.Operand.const (Go.Value.bool true)) (Go.Operand.tmp 47), none, [5, 8]),
  (some 49, Go.Op.move (Go.Operand.tmp 48), none, [9, 5]),
  (some 50, Go.Op.move (Go.Operand.tmp 8), some (10, false), [10]),
  (some 51, Go.Op.convert 23 9 (Go.Operand.tmp 50), some (10, false), [11, 10]),
  (some 52, Go.Op.move (Go.Operand.tmp 12), some (10, false), [10]),
  (some 53, Go.Op.convert 23 9 (Go.Operand.tmp 52), some (10, false), [13, 10]),
  (some 54, Go.Op.binOp Go.BinOp.neq 9 (Go.Operand.tmp 51) (Go.Operand.tmp 53) 9, some (10, false), [12, 14, 10]),
  (some 55, Go.Op.pick (Go.Operand.tmp 49) (Go.Operand.const (Go.Value.bool true)) (Go.Operand.tmp 54), none, [10, 15]),
  (some 56, Go.Op.move (Go.Operand.tmp 55), none, [16, 10]),
  (some 57, Go.Op.load 31 (Go.Operand.tmp 3), some (17, false), [17]),
  (some 58, Go.Op.load 31 (Go.Operand.tmp 4), some (17, false), [17]),
  (some 59, Go.Op.call { callee := Go.Callee.value (Go.Operand.func 28), args := #[Go.Operand.tmp 57, Go.Operand.tmp 58], argTypes := #[31, 31] }, some (17, false), [18, 19, 17, 17]),
  (some 60, Go.Op.load 31 (Go.Operand.tmp 3), some (17, false), [17]),
  (some 61, Go.Op.load 31 (Go.Operand.tmp 4), some (17, false), [17]),
  (some 62, Go.Op.call { callee := Go.Callee.value (Go.Operand.func 29), args := #[Go.Operand.tmp 60, Go.Operand.tmp 61], argTypes := #[31, 31] }, some (17, false), [21, 22, 20, 17]),
  (some 63, Go.Op.binOp Go.BinOp.neq 4 (Go.Operand.tmp 59) (Go.Operand.tmp 62) 4, some (17, false), [20, 23, 17]),
  (some 64, Go.Op.pick (Go.Operand.tmp 56) (Go.Operand.const (Go.Value.bool true)) (Go.Operand.tmp 63), none, [17, 24]),
  (some 65, Go.Op.move (Go.Operand.tmp 64), none, [25, 23]),
  (some 66, Go.Op.load 31 (Go.Operand.tmp 3), some (26, false), [26]),
  (some 67, Go.Op.load 31 (Go.Operand.tmp 3), some (26, false), [26]),
  (some 68, Go.Op.call { callee := Go.Callee.value (Go.Operand.func 28), args := #[Go.Operand.tmp 66, Go.Operand.tmp 67], argTypes := #[31, 31] }, some (26, false), [27, 28, 26, 26]),
  (some 69, Go.Op.unOp Go.UnOp.not 4 (Go.Operand.tmp 68), some (26, false), [29, 26]),
  (some 70, Go.Op.pick (Go.Operand.tmp 65) (Go.Operand.const (Go.Value.bool true)) (Go.Operand.tmp 69), none, [26, 30])]

def all13L : List Ord.Line := [
  (some 89, Go.Op.move (Go.Operand.tmp 16), none, []),
  (some 90, Go.Op.binOp Go.BinOp.eql 37 (Go.Operand.tmp 89) (Go.Operand.const (Go.Value.int Go.IntKind.i64 0)) 37, none, [0]),
  (some 91, Go.Op.move (Go.Operand.tmp 90), none, [1]),
  (some 92, Go.Op.move (Go.Operand.tmp 15), some (2, true), [2]),
  (some 93, Go.Op.move (Go.Operand.tmp 8), some (2, true), [2]),
  (some 94, Go.Op.call { callee := Go.Callee.builtin Go.Builtin.len, args := #[Go.Operand.tmp 93], argTypes := #[23] }, some (2, true), [4, 2]),
  (some 95, Go.Op.binOp Go.BinOp.eql 3 (Go.Operand.tmp 92) (Go.Operand.tmp 94) 3, some (2, true), [3, 5, 2]),
  (some 96, Go.Op.pick (Go.Operand.tmp 91) (Go.Operand.tmp 95) (Go.Operand.const (Go.Value.bool false)), none, [2, 6]),
  (some 97, Go.Op.move (Go.Operand.tmp 96), none, [7, 2]),
  (some 98, Go.Op.load 31 (Go.Operand.tmp 14), some (8, true), [8]),
  (some 99, Go.Op.load 31 (Go.Operand.tmp 3), some (8, true), [8]),
  (some 100, Go.Op.call { callee := Go.Callee.value (Go.Operand.func 29), args := #[Go.Operand.tmp 98, Go.Operand.tmp 99], argTypes := #[31, 31] }, some (8, true), [9, 10, 8, 8]),
  (some 101, Go.Op.pick (Go.Operand.tmp 97) (Go.Operand.tmp 100) (Go.Operand.const (Go.Value.bool false)), none, [8, 11]),
  (some 102, Go.Op.move (Go.Operand.tmp 101), none, [12, 11]),
  (some 103, Go.Op.move (Go.Operand.tmp 11), some (13, true), [13]),
  (some 104, Go.Op.unOp Go.UnOp.not 4 (Go.Operand.tmp 103), some (13, true), [14, 13]),
  (some 105, Go.Op.move (Go.Operand.tmp 104), some (13, true), [15, 13, 13]),
  (some 106, Go.Op.move (Go.Operand.tmp 8), some (16, false), [16]),
  (some 107, Go.Op.convert 23 9 (Go.Operand.tmp 106), some (16, false), [17, 16]),
  (some 108, Go.Op.move (Go.Operand.tmp 10), some (16, false), [16]),
  (some 109, Go.Op.convert 23 9 (Go.Operand.tmp 108), some (16, false), [19, 16]),
  (some 110, Go.Op.binOp Go.BinOp.eql 9 (Go.Operand.tmp 107) (Go.Operand.tmp 109) 9, some (16, false), [18, 20, 16]),
  (some 111, Go.Op.load 31 (Go.Operand.tmp 3), some (16, false), [16]),
  (some 112, Go.Op.load 31 (Go.Operand.tmp 4), some (16, false), [16]),
  (some 113, Go.Op.call { callee := Go.Callee.value (Go.Operand.func 29), args := #[Go.Operand.tmp 111, Go.Operand.tmp 112], argTypes := #[31, 31] }, some (16, false), [22, 23, 16, 16]),
  (some 114, Go.Op.binOp Go.BinOp.eql 4 (Go.Operand.tmp 110) (Go.Operand.tmp 113) 4, some (16, false), [21, 24, 16]),
  (some 115, Go.Op.pick (Go.Operand.tmp 105) (Go.Operand.const (Go.Value.bool true)) (Go.Operand.tmp 114), some (13, true), [16, 25, 13]),
  (some 116, Go.Op.pick (Go.Operand.tmp 102) (Go.Operand.tmp 115) (Go.Operand.const (Go.Value.bool false)), none, [13, 26]),
  (some 6, Go.Op.assign (Go.Operand.tmp 116), none, [27, 24, 0, 1, 2, 3, 4, 5, 6, 7, 8, 9, 10, 11, 12, 13, 14, 15, 16, 17, 18, 19, 20, 21, 22, 23, 24, 25, 26, 27])]

/-- The slots that are known all the way. -/
structure All8Fr (g3 g4 pl c8 c12 : Nat) (A8 A12 : Option Addr) (L3 : List Cel) (p2 p6 p10 p11 : Value) (a : Act) : Prop where
  size : a.tmps.size = 117
  defers : a.defers = []
  s2 : Chain.At a 2 (p2)
  s3 : Chain.At a 3 (.pointer (some ⟨g3, 0, none⟩))
  s4 : Chain.At a 4 (.pointer (some ⟨g4, 0, none⟩))
  s6 : Chain.At a 6 (p6)
  s8 : Chain.At a 8 (.slice A8 pl c8)
  s9 : Chain.At a 9 (.bool (mayL L3))
  s10 : Chain.At a 10 (p10)
  s11 : Chain.At a 11 (p11)
  s12 : Chain.At a 12 (.slice A12 pl c12)
  s13 : Chain.At a 13 (.bool (mayL L3))
theorem All8Fr.next {g3 g4 pl c8 c12 : Nat} {A8 A12 : Option Addr} {L3 : List Cel} {p2 p6 p10 p11 : Value} {a a' : Act} {d : Nat} {v : Value} (F : All8Fr g3 g4 pl c8 c12 A8 A12 L3 p2 p6 p10 p11 a) (nx : Chain.Next a a' d v) (h : d ≠ 2 ∧ d ≠ 3 ∧ d ≠ 4 ∧ d ≠ 6 ∧ d ≠ 8 ∧ d ≠ 9 ∧ d ≠ 10 ∧ d ≠ 11 ∧ d ≠ 12 ∧ d ≠ 13) : All8Fr g3 g4 pl c8 c12 A8 A12 L3 p2 p6 p10 p11 a' := ⟨nx.size.trans F.size, nx.defers.trans F.defers, nx.keep 2 _ h.1 F.s2, nx.keep 3 _ h.2.1 F.s3, nx.keep 4 _ h.2.2.1 F.s4, nx.keep 6 _ h.2.2.2.1 F.s6, nx.keep 8 _ h.2.2.2.2.1 F.s8, nx.keep 9 _ h.2.2.2.2.2.1 F.s9, nx.keep 10 _ h.2.2.2.2.2.2.1 F.s10, nx.keep 11 _ h.2.2.2.2.2.2.2.1 F.s11, nx.keep 12 _ h.2.2.2.2.2.2.2.2.1 F.s12, nx.keep 13 _ h.2.2.2.2.2.2.2.2.2 F.s13⟩
theorem All8Fr.lt {g3 g4 pl c8 c12 : Nat} {A8 A12 : Option Addr} {L3 : List Cel} {p2 p6 p10 p11 : Value} {a : Act} {d : Nat} (F : All8Fr g3 g4 pl c8 c12 A8 A12 L3 p2 p6 p10 p11 a) (h : d < 117) : d < a.tmps.size := by rw [F.size]; exact h

set_option maxRecDepth 100000 in
theorem all8_great {ops : Array Oper} {Q : Exit → Act → World → Prop} (R : Ord.Reg ops all8L) (hQ : ∀ c a w d v, Q (.panic c) (Act.put a (some d) v) w → Q (.panic c) a w) {w0 : World} {g3 g4 pl c8 c12 m3 c3 m4 c4 : Nat} {A8 A12 A3 A4 : Option Addr} {L3 L4 : List Cel} {wr ws : Bool} {p2 p6 p10 p11 : Value} {sp : ByteArray}
    (RR : RowAt w0 g3 (.slice A3 m3 c3) wr) (TT : RowAt w0 g4 (.slice A4 m4 c4) ws) (Q3 : Sq w0 w0.heap.size 3 m3 A3 (flat L3)) (Q4 : Sq w0 w0.heap.size 3 m4 A4 (flat L4)) (h3 : ∀ c ∈ L3, -2147483648 ≤ c.1 ∧ c.1 ≤ 2147483647) (hm3 : m3 ≤ 1000000) (hm4 : m4 ≤ 1000000) (hsp : Spans w0) (hspz : 0 < w0.heap.size)
    (cv8 : ∀ w, Below w0.heap.size w0 w → (convert 23 9 (.slice A8 pl c8)).run Tryd.prog w = .ok (.string sp) w) (cv12 : ∀ w, Below w0.heap.size w0 w → (convert 23 9 (.slice A12 pl c12)).run Tryd.prog w = .ok (.string sp) w)
    (a : Act) (F : All8Fr g3 g4 pl c8 c12 A8 A12 L3 p2 p6 p10 p11 a)
    (h : ∀ a w, All8Fr g3 g4 pl c8 c12 A8 A12 L3 p2 p6 p10 p11 a → Chain.At a 70 (.bool false) → Below w0.heap.size w0 w → Q .normal a w) :
    wpAnyH Tryd.prog .any ops Q (fun w' => Below w0.heap.size w0 w') 32 (List.replicate 32 false).toArray a w0 := by
  have hS := Below.refl w0.heap.size w0
  skip
  refine Ord.take R (k := 0) (v := .agg #[.slice A3 m3 c3, .bool wr]) (bs' := (Ord.upto 1 32)) rfl (by kernel_rfl) hQ trivial hS (fun w _ hS => by have e3 := F.s3; unfold Chain.At at e3; have q0 := show w.cell? ⟨g3, 0, none⟩ = some (.slice A3 m3 c3) from (hS.cell (p := ⟨g3, 0, none⟩) RR.lt).trans (RR.get 0); have q1 := show w.cell? ⟨g3, 1, none⟩ = some (.bool wr) from (hS.cell (p := ⟨g3, 1, none⟩) RR.lt).trans (RR.get 1); clear F; go_simp) (F.lt (by decide)) fun a0 N => ?_
  replace F := F.next N (by decide)
  have f39 := N.got
  clear N a
  refine Ord.take R (k := 2) (v := .agg #[.slice A3 m3 c3, .bool wr]) (bs' := [true, false, true, false, false, false, false, false, false, false, false, false, false, false, false, false, false, false, false, false, false, false, false, false, false, false, false, false, false, false, false, false]) rfl (by kernel_rfl) hQ trivial hS (fun w _ hS => by have e3 := F.s3; unfold Chain.At at e3; have q0 := show w.cell? ⟨g3, 0, none⟩ = some (.slice A3 m3 c3) from (hS.cell (p := ⟨g3, 0, none⟩) RR.lt).trans (RR.get 0); have q1 := show w.cell? ⟨g3, 1, none⟩ = some (.bool wr) from (hS.cell (p := ⟨g3, 1, none⟩) RR.lt).trans (RR.get 1); clear F; go_simp) (F.lt (by decide)) fun a2 N => ?_
  replace F := F.next N (by decide)
  replace f39 := N.keep 39 _ (by decide) f39
  have f41 := N.got
  clear N a0
  refine Ord.call R (k := 1) (args := #[.agg #[.slice A3 m3 c3, .bool wr]]) (bs' := (Ord.upto 3 32)) rfl (by kernel_rfl) trivial (by simp [f39.ev]) (by kernel_rfl) (packMay_walk A3 m3 c3 wr L3 _ (hsp.below hS hspz) h3 ((Q3.below hS).up hS.size) hm3) (F.lt (by decide)) ?_
  rintro e w ⟨rfl, b40⟩
  replace hS := hS.trans (b40.mono hS.size)
  clear b40
  refine ⟨_, rfl, hS, fun a1 N => ?_⟩
  replace F := F.next N (by decide)
  clear f39
  replace f41 := N.keep 41 _ (by decide) f41
  have f40 := N.got
  clear N a2
  refine Ord.call R (k := 3) (args := #[.agg #[.slice A3 m3 c3, .bool wr]]) (bs' := (Ord.upto 4 32)) rfl (by kernel_rfl) trivial (by simp [f41.ev]) (by kernel_rfl) (refRow_walk A3 m3 c3 wr L3 _ h3 ((Q3.below hS).up hS.size) hm3) (F.lt (by decide)) ?_
  rintro e w ⟨rfl, b42⟩
  replace hS := hS.trans (b42.mono hS.size)
  clear b42
  refine ⟨_, rfl, hS, fun a3 N => ?_⟩
  replace F := F.next N (by decide)
  replace f40 := N.keep 40 _ (by decide) f40
  clear f41
  have f42 := N.got
  clear N a1
  refine Ord.take R (k := 4) (v := .bool false) (bs' := (Ord.upto 5 32)) rfl (by kernel_rfl) hQ trivial hS (fun w _ hS => by have e40 := f40; unfold Chain.At at e40; have e42 := f42; unfold Chain.At at e42; clear F; go_simp) (F.lt (by decide)) fun a4 N => ?_
  replace F := F.next N (by decide)
  clear f40
  clear f42
  have f43 := N.got
  clear N a3
  refine Ord.take R (k := 5) (v := .bool false) (bs' := (Ord.upto 6 32)) rfl (by kernel_rfl) hQ trivial hS (fun w _ hS => Chain.ev_move f43.ev) (F.lt (by decide)) fun a5 N => ?_
  replace F := F.next N (by decide)
  clear f43
  have f44 := N.got
  clear N a4
  refine Ord.take R (k := 6) (v := .bool (mayL L3)) (bs' := (Ord.upto 7 32)) rfl (by kernel_rfl) hQ (R.opened (j := 5) rfl f44) hS (fun w _ hS => Chain.ev_move F.s9.ev) (F.lt (by decide)) fun a6 N => ?_
  replace F := F.next N (by decide)
  replace f44 := N.keep 44 _ (by decide) f44
  have f45 := N.got
  clear N a5
  refine Ord.take R (k := 7) (v := .bool (mayL L3)) (bs' := (Ord.upto 8 32)) rfl (by kernel_rfl) hQ (R.opened (j := 5) rfl f44) hS (fun w _ hS => Chain.ev_move F.s13.ev) (F.lt (by decide)) fun a7 N => ?_
  replace F := F.next N (by decide)
  replace f44 := N.keep 44 _ (by decide) f44
  replace f45 := N.keep 45 _ (by decide) f45
  have f46 := N.got
  clear N a6
  refine Ord.take R (k := 8) (v := .bool false) (bs' := (Ord.upto 9 32)) rfl (by kernel_rfl) hQ (R.opened (j := 5) rfl f44) hS (fun w _ hS => by have e45 := f45; unfold Chain.At at e45; have e46 := f46; unfold Chain.At at e46; clear F; go_simp) (F.lt (by decide)) fun a8 N => ?_
  replace F := F.next N (by decide)
  replace f44 := N.keep 44 _ (by decide) f44
  clear f45
  clear f46
  have f47 := N.got
  clear N a7
  refine Ord.take R (k := 9) (v := .bool false) (bs' := (Ord.upto 10 32)) rfl (by kernel_rfl) hQ trivial hS (fun w _ hS => Ord.ev_pick_no f44.ev f47.ev) (F.lt (by decide)) fun a9 N => ?_
  replace F := F.next N (by decide)
  clear f44
  clear f47
  have f48 := N.got
  clear N a8
  refine Ord.take R (k := 10) (v := .bool false) (bs' := (Ord.upto 11 32)) rfl (by kernel_rfl) hQ trivial hS (fun w _ hS => Chain.ev_move f48.ev) (F.lt (by decide)) fun a10 N => ?_
  replace F := F.next N (by decide)
  clear f48
  have f49 := N.got
  clear N a9
  refine Ord.take R (k := 11) (v := .slice A8 pl c8) (bs' := (Ord.upto 12 32)) rfl (by kernel_rfl) hQ (R.opened (j := 10) rfl f49) hS (fun w _ hS => Chain.ev_move F.s8.ev) (F.lt (by decide)) fun a11 N => ?_
  replace F := F.next N (by decide)
  replace f49 := N.keep 49 _ (by decide) f49
  have f50 := N.got
  clear N a10
  refine Ord.take R (k := 12) (v := .string sp) (bs' := (Ord.upto 13 32)) rfl (by kernel_rfl) hQ (R.opened (j := 10) rfl f49) hS (fun w _ hS => by have e50 := f50; unfold Chain.At at e50; have q0 := cv8 w hS; clear F; go_simp) (F.lt (by decide)) fun a12 N => ?_
  replace F := F.next N (by decide)
  replace f49 := N.keep 49 _ (by decide) f49
  clear f50
  have f51 := N.got
  clear N a11
  refine Ord.take R (k := 13) (v := .slice A12 pl c12) (bs' := (Ord.upto 14 32)) rfl (by kernel_rfl) hQ (R.opened (j := 10) rfl f49) hS (fun w _ hS => Chain.ev_move F.s12.ev) (F.lt (by decide)) fun a13 N => ?_
  replace F := F.next N (by decide)
  replace f49 := N.keep 49 _ (by decide) f49
  replace f51 := N.keep 51 _ (by decide) f51
  have f52 := N.got
  clear N a12
  refine Ord.take R (k := 14) (v := .string sp) (bs' := (Ord.upto 15 32)) rfl (by kernel_rfl) hQ (R.opened (j := 10) rfl f49) hS (fun w _ hS => by have e52 := f52; unfold Chain.At at e52; have q0 := cv12 w hS; clear F; go_simp) (F.lt (by decide)) fun a14 N => ?_
  replace F := F.next N (by decide)
  replace f49 := N.keep 49 _ (by decide) f49
  replace f51 := N.keep 51 _ (by decide) f51
  clear f52
  have f53 := N.got
  clear N a13
  refine Ord.take R (k := 15) (v := .bool false) (bs' := (Ord.upto 16 32)) rfl (by kernel_rfl) hQ (R.opened (j := 10) rfl f49) hS (fun w _ hS => by have e51 := f51; unfold Chain.At at e51; have e53 := f53; unfold Chain.At at e53; clear F; go_simp) (F.lt (by decide)) fun a15 N => ?_
  replace F := F.next N (by decide)
  replace f49 := N.keep 49 _ (by decide) f49
  clear f51
  clear f53
  have f54 := N.got
  clear N a14
  refine Ord.take R (k := 16) (v := .bool false) (bs' := (Ord.upto 17 32)) rfl (by kernel_rfl) hQ trivial hS (fun w _ hS => Ord.ev_pick_no f49.ev f54.ev) (F.lt (by decide)) fun a16 N => ?_
  replace F := F.next N (by decide)
  clear f49
  clear f54
  have f55 := N.got
  clear N a15
  refine Ord.take R (k := 17) (v := .bool false) (bs' := (Ord.upto 18 32)) rfl (by kernel_rfl) hQ trivial hS (fun w _ hS => Chain.ev_move f55.ev) (F.lt (by decide)) fun a17 N => ?_
  replace F := F.next N (by decide)
  clear f55
  have f56 := N.got
  clear N a16
  refine Ord.take R (k := 18) (v := .agg #[.slice A3 m3 c3, .bool wr]) (bs' := (Ord.upto 19 32)) rfl (by kernel_rfl) hQ (R.opened (j := 17) rfl f56) hS (fun w _ hS => by have e3 := F.s3; unfold Chain.At at e3; have q0 := show w.cell? ⟨g3, 0, none⟩ = some (.slice A3 m3 c3) from (hS.cell (p := ⟨g3, 0, none⟩) RR.lt).trans (RR.get 0); have q1 := show w.cell? ⟨g3, 1, none⟩ = some (.bool wr) from (hS.cell (p := ⟨g3, 1, none⟩) RR.lt).trans (RR.get 1); clear F; go_simp) (F.lt (by decide)) fun a18 N => ?_
  replace F := F.next N (by decide)
  replace f56 := N.keep 56 _ (by decide) f56
  have f57 := N.got
  clear N a17
  refine Ord.take R (k := 19) (v := .agg #[.slice A4 m4 c4, .bool ws]) (bs' := (Ord.upto 20 32)) rfl (by kernel_rfl) hQ (R.opened (j := 17) rfl f56) hS (fun w _ hS => by have e4 := F.s4; unfold Chain.At at e4; have q0 := show w.cell? ⟨g4, 0, none⟩ = some (.slice A4 m4 c4) from (hS.cell (p := ⟨g4, 0, none⟩) TT.lt).trans (TT.get 0); have q1 := show w.cell? ⟨g4, 1, none⟩ = some (.bool ws) from (hS.cell (p := ⟨g4, 1, none⟩) TT.lt).trans (TT.get 1); clear F; go_simp) (F.lt (by decide)) fun a19 N => ?_
  replace F := F.next N (by decide)
  replace f56 := N.keep 56 _ (by decide) f56
  replace f57 := N.keep 57 _ (by decide) f57
  have f58 := N.got
  clear N a18
  refine Ord.take R (k := 21) (v := .agg #[.slice A3 m3 c3, .bool wr]) (bs' := [true, true, true, true, true, true, true, true, true, true, true, true, true, true, true, true, true, true, true, true, false, true, false, false, false, false, false, false, false, false, false, false]) rfl (by kernel_rfl) hQ (R.opened (j := 17) rfl f56) hS (fun w _ hS => by have e3 := F.s3; unfold Chain.At at e3; have q0 := show w.cell? ⟨g3, 0, none⟩ = some (.slice A3 m3 c3) from (hS.cell (p := ⟨g3, 0, none⟩) RR.lt).trans (RR.get 0); have q1 := show w.cell? ⟨g3, 1, none⟩ = some (.bool wr) from (hS.cell (p := ⟨g3, 1, none⟩) RR.lt).trans (RR.get 1); clear F; go_simp) (F.lt (by decide)) fun a21 N => ?_
  replace F := F.next N (by decide)
  replace f56 := N.keep 56 _ (by decide) f56
  replace f57 := N.keep 57 _ (by decide) f57
  replace f58 := N.keep 58 _ (by decide) f58
  have f60 := N.got
  clear N a19
  refine Ord.take R (k := 22) (v := .agg #[.slice A4 m4 c4, .bool ws]) (bs' := [true, true, true, true, true, true, true, true, true, true, true, true, true, true, true, true, true, true, true, true, false, true, true, false, false, false, false, false, false, false, false, false]) rfl (by kernel_rfl) hQ (R.opened (j := 17) rfl f56) hS (fun w _ hS => by have e4 := F.s4; unfold Chain.At at e4; have q0 := show w.cell? ⟨g4, 0, none⟩ = some (.slice A4 m4 c4) from (hS.cell (p := ⟨g4, 0, none⟩) TT.lt).trans (TT.get 0); have q1 := show w.cell? ⟨g4, 1, none⟩ = some (.bool ws) from (hS.cell (p := ⟨g4, 1, none⟩) TT.lt).trans (TT.get 1); clear F; go_simp) (F.lt (by decide)) fun a22 N => ?_
  replace F := F.next N (by decide)
  replace f56 := N.keep 56 _ (by decide) f56
  replace f57 := N.keep 57 _ (by decide) f57
  replace f58 := N.keep 58 _ (by decide) f58
  replace f60 := N.keep 60 _ (by decide) f60
  have f61 := N.got
  clear N a21
  refine Ord.call R (k := 20) (args := #[.agg #[.slice A3 m3 c3, .bool wr], .agg #[.slice A4 m4 c4, .bool ws]]) (bs' := (Ord.upto 23 32)) rfl (by kernel_rfl) (R.opened (j := 17) rfl f56) (by simp [f57.ev, f58.ev]) (by kernel_rfl) (packEq_walk A3 A4 m3 c3 m4 c4 wr ws L3 L4 _ hm3 hm4 ((Q3.below hS).up hS.size) ((Q4.below hS).up hS.size)) (F.lt (by decide)) ?_
  rintro e w ⟨rfl, b59⟩
  replace hS := hS.trans (b59.mono hS.size)
  clear b59
  refine ⟨_, rfl, hS, fun a20 N => ?_⟩
  replace F := F.next N (by decide)
  replace f56 := N.keep 56 _ (by decide) f56
  clear f57
  clear f58
  replace f60 := N.keep 60 _ (by decide) f60
  replace f61 := N.keep 61 _ (by decide) f61
  have f59 := N.got
  clear N a22
  refine Ord.call R (k := 23) (args := #[.agg #[.slice A3 m3 c3, .bool wr], .agg #[.slice A4 m4 c4, .bool ws]]) (bs' := (Ord.upto 24 32)) rfl (by kernel_rfl) (R.opened (j := 17) rfl f56) (by simp [f60.ev, f61.ev]) (by kernel_rfl) (eqRow_walk A3 A4 m3 c3 m4 c4 wr ws L3 L4 _ hm3 hm4 ((Q3.below hS).up hS.size) ((Q4.below hS).up hS.size)) (F.lt (by decide)) ?_
  rintro e w ⟨rfl, b62⟩
  replace hS := hS.trans (b62.mono hS.size)
  clear b62
  refine ⟨_, rfl, hS, fun a23 N => ?_⟩
  replace F := F.next N (by decide)
  replace f56 := N.keep 56 _ (by decide) f56
  replace f59 := N.keep 59 _ (by decide) f59
  clear f60
  clear f61
  have f62 := N.got
  clear N a20
  refine Ord.take R (k := 24) (v := .bool false) (bs' := (Ord.upto 25 32)) rfl (by kernel_rfl) hQ (R.opened (j := 17) rfl f56) hS (fun w _ hS => by have e59 := f59; unfold Chain.At at e59; have e62 := f62; unfold Chain.At at e62; clear F; go_simp) (F.lt (by decide)) fun a24 N => ?_
  replace F := F.next N (by decide)
  replace f56 := N.keep 56 _ (by decide) f56
  clear f59
  clear f62
  have f63 := N.got
  clear N a23
  refine Ord.take R (k := 25) (v := .bool false) (bs' := (Ord.upto 26 32)) rfl (by kernel_rfl) hQ trivial hS (fun w _ hS => Ord.ev_pick_no f56.ev f63.ev) (F.lt (by decide)) fun a25 N => ?_
  replace F := F.next N (by decide)
  clear f56
  clear f63
  have f64 := N.got
  clear N a24
  refine Ord.take R (k := 26) (v := .bool false) (bs' := (Ord.upto 27 32)) rfl (by kernel_rfl) hQ trivial hS (fun w _ hS => Chain.ev_move f64.ev) (F.lt (by decide)) fun a26 N => ?_
  replace F := F.next N (by decide)
  clear f64
  have f65 := N.got
  clear N a25
  refine Ord.take R (k := 27) (v := .agg #[.slice A3 m3 c3, .bool wr]) (bs' := (Ord.upto 28 32)) rfl (by kernel_rfl) hQ (R.opened (j := 26) rfl f65) hS (fun w _ hS => by have e3 := F.s3; unfold Chain.At at e3; have q0 := show w.cell? ⟨g3, 0, none⟩ = some (.slice A3 m3 c3) from (hS.cell (p := ⟨g3, 0, none⟩) RR.lt).trans (RR.get 0); have q1 := show w.cell? ⟨g3, 1, none⟩ = some (.bool wr) from (hS.cell (p := ⟨g3, 1, none⟩) RR.lt).trans (RR.get 1); clear F; go_simp) (F.lt (by decide)) fun a27 N => ?_
  replace F := F.next N (by decide)
  replace f65 := N.keep 65 _ (by decide) f65
  have f66 := N.got
  clear N a26
  refine Ord.take R (k := 28) (v := .agg #[.slice A3 m3 c3, .bool wr]) (bs' := (Ord.upto 29 32)) rfl (by kernel_rfl) hQ (R.opened (j := 26) rfl f65) hS (fun w _ hS => by have e3 := F.s3; unfold Chain.At at e3; have q0 := show w.cell? ⟨g3, 0, none⟩ = some (.slice A3 m3 c3) from (hS.cell (p := ⟨g3, 0, none⟩) RR.lt).trans (RR.get 0); have q1 := show w.cell? ⟨g3, 1, none⟩ = some (.bool wr) from (hS.cell (p := ⟨g3, 1, none⟩) RR.lt).trans (RR.get 1); clear F; go_simp) (F.lt (by decide)) fun a28 N => ?_
  replace F := F.next N (by decide)
  replace f65 := N.keep 65 _ (by decide) f65
  replace f66 := N.keep 66 _ (by decide) f66
  have f67 := N.got
  clear N a27
  refine Ord.call R (k := 29) (args := #[.agg #[.slice A3 m3 c3, .bool wr], .agg #[.slice A3 m3 c3, .bool wr]]) (bs' := (Ord.upto 30 32)) rfl (by kernel_rfl) (R.opened (j := 26) rfl f65) (by simp [f66.ev, f67.ev]) (by kernel_rfl) (packEq_walk A3 A3 m3 c3 m3 c3 wr wr L3 L3 _ hm3 hm3 ((Q3.below hS).up hS.size) ((Q3.below hS).up hS.size)) (F.lt (by decide)) ?_
  rintro e w ⟨rfl, b68⟩
  rw [eqL_self wr L3]
  replace hS := hS.trans (b68.mono hS.size)
  clear b68
  refine ⟨_, rfl, hS, fun a29 N => ?_⟩
  replace F := F.next N (by decide)
  replace f65 := N.keep 65 _ (by decide) f65
  clear f66
  clear f67
  have f68 := N.got
  clear N a28
  refine Ord.take R (k := 30) (v := .bool false) (bs' := (Ord.upto 31 32)) rfl (by kernel_rfl) hQ (R.opened (j := 26) rfl f65) hS (fun w _ hS => by have e68 := f68; unfold Chain.At at e68; clear F; go_simp) (F.lt (by decide)) fun a30 N => ?_
  replace F := F.next N (by decide)
  replace f65 := N.keep 65 _ (by decide) f65
  clear f68
  have f69 := N.got
  clear N a29
  refine Ord.take R (k := 31) (v := .bool false) (bs' := (Ord.upto 32 32)) rfl (by kernel_rfl) hQ trivial hS (fun w _ hS => Ord.ev_pick_no f65.ev f69.ev) (F.lt (by decide)) fun a31 N => ?_
  replace F := F.next N (by decide)
  clear f65
  clear f69
  have f70 := N.got
  clear N a30
  exact Ord.finish R (by kernel_rfl) (h _ _ F f70 hS)

set_option maxRecDepth 100000 in
/-- The frame written out, its known slots in their places. -/
theorem all8_frame {a : Act} {w : World} {K : Act → World → Prop} {v2 v3 v4 v6 v8 v9 v10 v11 v12 v13 v70 : Value} (hz : a.tmps.size = 117) (hd : a.defers = []) (f2 : Chain.At a 2 v2) (f3 : Chain.At a 3 v3) (f4 : Chain.At a 4 v4) (f6 : Chain.At a 6 v6) (f8 : Chain.At a 8 v8) (f9 : Chain.At a 9 v9) (f10 : Chain.At a 10 v10) (f11 : Chain.At a 11 v11) (f12 : Chain.At a 12 v12) (f13 : Chain.At a 13 v13) (f70 : Chain.At a 70 v70)
    (h : ∀ u0 u1 u5 u7 u14 u15 u16 u17 u18 u19 u20 u21 u22 u23 u24 u25 u26 u27 u28 u29 u30 u31 u32 u33 u34 u35 u36 u37 u38 u39 u40 u41 u42 u43 u44 u45 u46 u47 u48 u49 u50 u51 u52 u53 u54 u55 u56 u57 u58 u59 u60 u61 u62 u63 u64 u65 u66 u67 u68 u69 u71 u72 u73 u74 u75 u76 u77 u78 u79 u80 u81 u82 u83 u84 u85 u86 u87 u88 u89 u90 u91 u92 u93 u94 u95 u96 u97 u98 u99 u100 u101 u102 u103 u104 u105 u106 u107 u108 u109 u110 u111 u112 u113 u114 u115 u116 : Value, K ⟨#[u0, u1, v2, v3, v4, u5, v6, u7, v8, v9, v10, v11, v12, v13, u14, u15, u16, u17, u18, u19, u20, u21, u22, u23, u24, u25, u26, u27, u28, u29, u30, u31, u32, u33, u34, u35, u36, u37, u38, u39, u40, u41, u42, u43, u44, u45, u46, u47, u48, u49, u50, u51, u52, u53, u54, u55, u56, u57, u58, u59, u60, u61, u62, u63, u64, u65, u66, u67, u68, u69, v70, u71, u72, u73, u74, u75, u76, u77, u78, u79, u80, u81, u82, u83, u84, u85, u86, u87, u88, u89, u90, u91, u92, u93, u94, u95, u96, u97, u98, u99, u100, u101, u102, u103, u104, u105, u106, u107, u108, u109, u110, u111, u112, u113, u114, u115, u116], []⟩ w) : K a w := by
  have e := Ord.frame_out hz hd
  have r : (List.range 117).map (fun i => a.tmps.toList.getD i undef) = [a.tmps.toList.getD 0 undef, a.tmps.toList.getD 1 undef, a.tmps.toList.getD 2 undef, a.tmps.toList.getD 3 undef, a.tmps.toList.getD 4 undef, a.tmps.toList.getD 5 undef, a.tmps.toList.getD 6 undef, a.tmps.toList.getD 7 undef, a.tmps.toList.getD 8 undef, a.tmps.toList.getD 9 undef, a.tmps.toList.getD 10 undef, a.tmps.toList.getD 11 undef, a.tmps.toList.getD 12 undef, a.tmps.toList.getD 13 undef, a.tmps.toList.getD 14 undef, a.tmps.toList.getD 15 undef, a.tmps.toList.getD 16 undef, a.tmps.toList.getD 17 undef, a.tmps.toList.getD 18 undef, a.tmps.toList.getD 19 undef, a.tmps.toList.getD 20 undef, a.tmps.toList.getD 21 undef, a.tmps.toList.getD 22 undef, a.tmps.toList.getD 23 undef, a.tmps.toList.getD 24 undef, a.tmps.toList.getD 25 undef, a.tmps.toList.getD 26 undef, a.tmps.toList.getD 27 undef, a.tmps.toList.getD 28 undef, a.tmps.toList.getD 29 undef, a.tmps.toList.getD 30 undef, a.tmps.toList.getD 31 undef, a.tmps.toList.getD 32 undef, a.tmps.toList.getD 33 undef, a.tmps.toList.getD 34 undef, a.tmps.toList.getD 35 undef, a.tmps.toList.getD 36 undef, a.tmps.toList.getD 37 undef, a.tmps.toList.getD 38 undef, a.tmps.toList.getD 39 undef, a.tmps.toList.getD 40 undef, a.tmps.toList.getD 41 undef, a.tmps.toList.getD 42 undef, a.tmps.toList.getD 43 undef, a.tmps.toList.getD 44 undef, a.tmps.toList.getD 45 undef, a.tmps.toList.getD 46 undef, a.tmps.toList.getD 47 undef, a.tmps.toList.getD 48 undef, a.tmps.toList.getD 49 undef, a.tmps.toList.getD 50 undef, a.tmps.toList.getD 51 undef, a.tmps.toList.getD 52 undef, a.tmps.toList.getD 53 undef, a.tmps.toList.getD 54 undef, a.tmps.toList.getD 55 undef, a.tmps.toList.getD 56 undef, a.tmps.toList.getD 57 undef, a.tmps.toList.getD 58 undef, a.tmps.toList.getD 59 undef, a.tmps.toList.getD 60 undef, a.tmps.toList.getD 61 undef, a.tmps.toList.getD 62 undef, a.tmps.toList.getD 63 undef, a.tmps.toList.getD 64 undef, a.tmps.toList.getD 65 undef, a.tmps.toList.getD 66 undef, a.tmps.toList.getD 67 undef, a.tmps.toList.getD 68 undef, a.tmps.toList.getD 69 undef, a.tmps.toList.getD 70 undef, a.tmps.toList.getD 71 undef, a.tmps.toList.getD 72 undef, a.tmps.toList.getD 73 undef, a.tmps.toList.getD 74 undef, a.tmps.toList.getD 75 undef, a.tmps.toList.getD 76 undef, a.tmps.toList.getD 77 undef, a.tmps.toList.getD 78 undef, a.tmps.toList.getD 79 undef, a.tmps.toList.getD 80 undef, a.tmps.toList.getD 81 undef, a.tmps.toList.getD 82 undef, a.tmps.toList.getD 83 undef, a.tmps.toList.getD 84 undef, a.tmps.toList.getD 85 undef, a.tmps.toList.getD 86 undef, a.tmps.toList.getD 87 undef, a.tmps.toList.getD 88 undef, a.tmps.toList.getD 89 undef, a.tmps.toList.getD 90 undef, a.tmps.toList.getD 91 undef, a.tmps.toList.getD 92 undef, a.tmps.toList.getD 93 undef, a.tmps.toList.getD 94 undef, a.tmps.toList.getD 95 undef, a.tmps.toList.getD 96 undef, a.tmps.toList.getD 97 undef, a.tmps.toList.getD 98 undef, a.tmps.toList.getD 99 undef, a.tmps.toList.getD 100 undef, a.tmps.toList.getD 101 undef, a.tmps.toList.getD 102 undef, a.tmps.toList.getD 103 undef, a.tmps.toList.getD 104 undef, a.tmps.toList.getD 105 undef, a.tmps.toList.getD 106 undef, a.tmps.toList.getD 107 undef, a.tmps.toList.getD 108 undef, a.tmps.toList.getD 109 undef, a.tmps.toList.getD 110 undef, a.tmps.toList.getD 111 undef, a.tmps.toList.getD 112 undef, a.tmps.toList.getD 113 undef, a.tmps.toList.getD 114 undef, a.tmps.toList.getD 115 undef, a.tmps.toList.getD 116 undef] := rfl
  rw [r, Ord.at_get f2, Ord.at_get f3, Ord.at_get f4, Ord.at_get f6, Ord.at_get f8, Ord.at_get f9, Ord.at_get f10, Ord.at_get f11, Ord.at_get f12, Ord.at_get f13, Ord.at_get f70] at e
  rw [e]
  exact h _ _ _ _ _ _ _ _ _ _ _ _ _ _ _ _ _ _ _ _ _ _ _ _ _ _ _ _ _ _ _ _ _ _ _ _ _ _ _ _ _ _ _ _ _ _ _ _ _ _ _ _ _ _ _ _ _ _ _ _ _ _ _ _ _ _ _ _ _ _ _ _ _ _ _ _ _ _ _ _ _ _ _ _ _ _ _ _ _ _ _ _ _ _ _ _ _ _ _ _ _ _ _ _ _ _

/-- The slots that are known all the way. -/
structure All13yes (g3 g4 g14 pl c8 ql c10 : Nat) (A8 A10 : Option Addr) (a : Act) : Prop where
  size : a.tmps.size = 117
  defers : a.defers = []
  s3 : Chain.At a 3 (.pointer (some ⟨g3, 0, none⟩))
  s4 : Chain.At a 4 (.pointer (some ⟨g4, 0, none⟩))
  s8 : Chain.At a 8 (.slice A8 pl c8)
  s10 : Chain.At a 10 (.slice A10 ql c10)
  s11 : Chain.At a 11 (.bool true)
  s14 : Chain.At a 14 (.pointer (some ⟨g14, 0, none⟩))
  s15 : Chain.At a 15 (.int .i64 (pl : Int))
  s16 : Chain.At a 16 (.int .i64 0)
theorem All13yes.next {g3 g4 g14 pl c8 ql c10 : Nat} {A8 A10 : Option Addr} {a a' : Act} {d : Nat} {v : Value} (F : All13yes g3 g4 g14 pl c8 ql c10 A8 A10 a) (nx : Chain.Next a a' d v) (h : d ≠ 3 ∧ d ≠ 4 ∧ d ≠ 8 ∧ d ≠ 10 ∧ d ≠ 11 ∧ d ≠ 14 ∧ d ≠ 15 ∧ d ≠ 16) : All13yes g3 g4 g14 pl c8 ql c10 A8 A10 a' := ⟨nx.size.trans F.size, nx.defers.trans F.defers, nx.keep 3 _ h.1 F.s3, nx.keep 4 _ h.2.1 F.s4, nx.keep 8 _ h.2.2.1 F.s8, nx.keep 10 _ h.2.2.2.1 F.s10, nx.keep 11 _ h.2.2.2.2.1 F.s11, nx.keep 14 _ h.2.2.2.2.2.1 F.s14, nx.keep 15 _ h.2.2.2.2.2.2.1 F.s15, nx.keep 16 _ h.2.2.2.2.2.2.2 F.s16⟩
theorem All13yes.lt {g3 g4 g14 pl c8 ql c10 : Nat} {A8 A10 : Option Addr} {a : Act} {d : Nat} (F : All13yes g3 g4 g14 pl c8 ql c10 A8 A10 a) (h : d < 117) : d < a.tmps.size := by rw [F.size]; exact h

set_option maxRecDepth 100000 in
theorem all13_yes {ops : Array Oper} {Q : Exit → Act → World → Prop} (R : Ord.Reg ops all13L) (hQ : ∀ c a w d v, Q (.panic c) (Act.put a (some d) v) w → Q (.panic c) a w) {w0 : World} {g3 g4 g14 pl c8 ql c10 m3 c3 m4 c4 c5 : Nat} {A8 A10 A3 A4 A5 : Option Addr} {L3 L4 : List Cel} {wr ws bE : Bool} {sp sq : ByteArray}
    (RR : RowAt w0 g3 (.slice A3 m3 c3) wr) (TT : RowAt w0 g4 (.slice A4 m4 c4) ws) (Q3 : Sq w0 w0.heap.size 3 m3 A3 (flat L3)) (Q4 : Sq w0 w0.heap.size 3 m4 A4 (flat L4)) (hm3 : m3 ≤ 1000000) (hm4 : m4 ≤ 1000000) (GG : RowAt w0 g14 (.slice A5 m3 c5) wr) (Q5 : Sq w0 w0.heap.size 3 m3 A5 (flat L3))
    (cv8 : ∀ w, Below w0.heap.size w0 w → (convert 23 9 (.slice A8 pl c8)).run Tryd.prog w = .ok (.string sp) w) (cv10 : ∀ w, Below w0.heap.size w0 w → (convert 23 9 (.slice A10 ql c10)).run Tryd.prog w = .ok (.string sq) w) (hsE : (sp.toList == sq.toList) = bE) (heE : (wr == ws && eqL L3 L4) = bE)
    (a : Act) (F : All13yes g3 g4 g14 pl c8 ql c10 A8 A10 a)
    (h : ∀ a w, Chain.At a 6 (.bool true) → a.defers = [] → Below w0.heap.size w0 w → Q .normal a w) :
    wpAnyH Tryd.prog .any ops Q (fun w' => Below w0.heap.size w0 w') 29 (List.replicate 29 false).toArray a w0 := by
  have hS := Below.refl w0.heap.size w0
  refine Ord.take R (k := 0) (v := .int .i64 0) (bs' := (Ord.upto 1 29)) rfl (by kernel_rfl) hQ trivial hS (fun w _ hS => Chain.ev_move F.s16.ev) (F.lt (by decide)) fun a0 N => ?_
  replace F := F.next N (by decide)
  have f89 := N.got
  clear N a
  refine Ord.take R (k := 1) (v := .bool true) (bs' := (Ord.upto 2 29)) rfl (by kernel_rfl) hQ trivial hS (fun w _ hS => by have e89 := f89; unfold Chain.At at e89; clear F; go_simp) (F.lt (by decide)) fun a1 N => ?_
  replace F := F.next N (by decide)
  clear f89
  have f90 := N.got
  clear N a0
  refine Ord.take R (k := 2) (v := .bool true) (bs' := (Ord.upto 3 29)) rfl (by kernel_rfl) hQ trivial hS (fun w _ hS => Chain.ev_move f90.ev) (F.lt (by decide)) fun a2 N => ?_
  replace F := F.next N (by decide)
  clear f90
  have f91 := N.got
  clear N a1
  refine Ord.take R (k := 3) (v := .int .i64 (pl : Int)) (bs' := (Ord.upto 4 29)) rfl (by kernel_rfl) hQ (R.opened (j := 2) rfl f91) hS (fun w _ hS => Chain.ev_move F.s15.ev) (F.lt (by decide)) fun a3 N => ?_
  replace F := F.next N (by decide)
  replace f91 := N.keep 91 _ (by decide) f91
  have f92 := N.got
  clear N a2
  refine Ord.take R (k := 4) (v := .slice A8 pl c8) (bs' := (Ord.upto 5 29)) rfl (by kernel_rfl) hQ (R.opened (j := 2) rfl f91) hS (fun w _ hS => Chain.ev_move F.s8.ev) (F.lt (by decide)) fun a4 N => ?_
  replace F := F.next N (by decide)
  replace f91 := N.keep 91 _ (by decide) f91
  replace f92 := N.keep 92 _ (by decide) f92
  have f93 := N.got
  clear N a3
  refine Ord.take R (k := 5) (v := .int .i64 (pl : Int)) (bs' := (Ord.upto 6 29)) rfl (by kernel_rfl) hQ (R.opened (j := 2) rfl f91) hS (fun w _ hS => by have e93 := f93; unfold Chain.At at e93; clear F; go_simp) (F.lt (by decide)) fun a5 N => ?_
  replace F := F.next N (by decide)
  replace f91 := N.keep 91 _ (by decide) f91
  replace f92 := N.keep 92 _ (by decide) f92
  clear f93
  have f94 := N.got
  clear N a4
  refine Ord.take R (k := 6) (v := .bool true) (bs' := (Ord.upto 7 29)) rfl (by kernel_rfl) hQ (R.opened (j := 2) rfl f91) hS (fun w _ hS => by have e92 := f92; unfold Chain.At at e92; have e94 := f94; unfold Chain.At at e94; clear F; go_simp) (F.lt (by decide)) fun a6 N => ?_
  replace F := F.next N (by decide)
  replace f91 := N.keep 91 _ (by decide) f91
  clear f92
  clear f94
  have f95 := N.got
  clear N a5
  refine Ord.take R (k := 7) (v := .bool true) (bs' := (Ord.upto 8 29)) rfl (by kernel_rfl) hQ trivial hS (fun w _ hS => Ord.ev_pick_yes f91.ev f95.ev) (F.lt (by decide)) fun a7 N => ?_
  replace F := F.next N (by decide)
  clear f91
  clear f95
  have f96 := N.got
  clear N a6
  refine Ord.take R (k := 8) (v := .bool true) (bs' := (Ord.upto 9 29)) rfl (by kernel_rfl) hQ trivial hS (fun w _ hS => Chain.ev_move f96.ev) (F.lt (by decide)) fun a8 N => ?_
  replace F := F.next N (by decide)
  clear f96
  have f97 := N.got
  clear N a7
  refine Ord.take R (k := 9) (v := .agg #[.slice A5 m3 c5, .bool wr]) (bs' := (Ord.upto 10 29)) rfl (by kernel_rfl) hQ (R.opened (j := 8) rfl f97) hS (fun w _ hS => by have e14 := F.s14; unfold Chain.At at e14; have q0 := show w.cell? ⟨g14, 0, none⟩ = some (.slice A5 m3 c5) from (hS.cell (p := ⟨g14, 0, none⟩) GG.lt).trans (GG.get 0); have q1 := show w.cell? ⟨g14, 1, none⟩ = some (.bool wr) from (hS.cell (p := ⟨g14, 1, none⟩) GG.lt).trans (GG.get 1); clear F; go_simp) (F.lt (by decide)) fun a9 N => ?_
  replace F := F.next N (by decide)
  replace f97 := N.keep 97 _ (by decide) f97
  have f98 := N.got
  clear N a8
  refine Ord.take R (k := 10) (v := .agg #[.slice A3 m3 c3, .bool wr]) (bs' := (Ord.upto 11 29)) rfl (by kernel_rfl) hQ (R.opened (j := 8) rfl f97) hS (fun w _ hS => by have e3 := F.s3; unfold Chain.At at e3; have q0 := show w.cell? ⟨g3, 0, none⟩ = some (.slice A3 m3 c3) from (hS.cell (p := ⟨g3, 0, none⟩) RR.lt).trans (RR.get 0); have q1 := show w.cell? ⟨g3, 1, none⟩ = some (.bool wr) from (hS.cell (p := ⟨g3, 1, none⟩) RR.lt).trans (RR.get 1); clear F; go_simp) (F.lt (by decide)) fun a10 N => ?_
  replace F := F.next N (by decide)
  replace f97 := N.keep 97 _ (by decide) f97
  replace f98 := N.keep 98 _ (by decide) f98
  have f99 := N.got
  clear N a9
  refine Ord.call R (k := 11) (args := #[.agg #[.slice A5 m3 c5, .bool wr], .agg #[.slice A3 m3 c3, .bool wr]]) (bs' := (Ord.upto 12 29)) rfl (by kernel_rfl) (R.opened (j := 8) rfl f97) (by simp [f98.ev, f99.ev]) (by kernel_rfl) (eqRow_walk A5 A3 m3 c5 m3 c3 wr wr L3 L3 _ hm3 hm3 ((Q5.below hS).up hS.size) ((Q3.below hS).up hS.size)) (F.lt (by decide)) ?_
  rintro e w ⟨rfl, b100⟩
  rw [eqL_self wr L3]
  replace hS := hS.trans (b100.mono hS.size)
  clear b100
  refine ⟨_, rfl, hS, fun a11 N => ?_⟩
  replace F := F.next N (by decide)
  replace f97 := N.keep 97 _ (by decide) f97
  clear f98
  clear f99
  have f100 := N.got
  clear N a10
  refine Ord.take R (k := 12) (v := .bool true) (bs' := (Ord.upto 13 29)) rfl (by kernel_rfl) hQ trivial hS (fun w _ hS => Ord.ev_pick_yes f97.ev f100.ev) (F.lt (by decide)) fun a12 N => ?_
  replace F := F.next N (by decide)
  clear f97
  clear f100
  have f101 := N.got
  clear N a11
  refine Ord.take R (k := 13) (v := .bool true) (bs' := (Ord.upto 14 29)) rfl (by kernel_rfl) hQ trivial hS (fun w _ hS => Chain.ev_move f101.ev) (F.lt (by decide)) fun a13 N => ?_
  replace F := F.next N (by decide)
  clear f101
  have f102 := N.got
  clear N a12
  refine Ord.take R (k := 14) (v := .bool true) (bs' := (Ord.upto 15 29)) rfl (by kernel_rfl) hQ (R.opened (j := 13) rfl f102) hS (fun w _ hS => Chain.ev_move F.s11.ev) (F.lt (by decide)) fun a14 N => ?_
  replace F := F.next N (by decide)
  replace f102 := N.keep 102 _ (by decide) f102
  have f103 := N.got
  clear N a13
  refine Ord.take R (k := 15) (v := .bool false) (bs' := (Ord.upto 16 29)) rfl (by kernel_rfl) hQ (R.opened (j := 13) rfl f102) hS (fun w _ hS => by have e103 := f103; unfold Chain.At at e103; clear F; go_simp) (F.lt (by decide)) fun a15 N => ?_
  replace F := F.next N (by decide)
  replace f102 := N.keep 102 _ (by decide) f102
  clear f103
  have f104 := N.got
  clear N a14
  refine Ord.take R (k := 16) (v := .bool false) (bs' := (Ord.upto 17 29)) rfl (by kernel_rfl) hQ (R.opened (j := 13) rfl f102) hS (fun w _ hS => Chain.ev_move f104.ev) (F.lt (by decide)) fun a16 N => ?_
  replace F := F.next N (by decide)
  replace f102 := N.keep 102 _ (by decide) f102
  clear f104
  have f105 := N.got
  clear N a15
  refine Ord.take R (k := 17) (v := .slice A8 pl c8) (bs' := (Ord.upto 18 29)) rfl (by kernel_rfl) hQ (R.opened (j := 16) rfl f105) hS (fun w _ hS => Chain.ev_move F.s8.ev) (F.lt (by decide)) fun a17 N => ?_
  replace F := F.next N (by decide)
  replace f102 := N.keep 102 _ (by decide) f102
  replace f105 := N.keep 105 _ (by decide) f105
  have f106 := N.got
  clear N a16
  refine Ord.take R (k := 18) (v := .string sp) (bs' := (Ord.upto 19 29)) rfl (by kernel_rfl) hQ (R.opened (j := 16) rfl f105) hS (fun w _ hS => by have e106 := f106; unfold Chain.At at e106; have q0 := cv8 w hS; clear F; go_simp) (F.lt (by decide)) fun a18 N => ?_
  replace F := F.next N (by decide)
  replace f102 := N.keep 102 _ (by decide) f102
  replace f105 := N.keep 105 _ (by decide) f105
  clear f106
  have f107 := N.got
  clear N a17
  refine Ord.take R (k := 19) (v := .slice A10 ql c10) (bs' := (Ord.upto 20 29)) rfl (by kernel_rfl) hQ (R.opened (j := 16) rfl f105) hS (fun w _ hS => Chain.ev_move F.s10.ev) (F.lt (by decide)) fun a19 N => ?_
  replace F := F.next N (by decide)
  replace f102 := N.keep 102 _ (by decide) f102
  replace f105 := N.keep 105 _ (by decide) f105
  replace f107 := N.keep 107 _ (by decide) f107
  have f108 := N.got
  clear N a18
  refine Ord.take R (k := 20) (v := .string sq) (bs' := (Ord.upto 21 29)) rfl (by kernel_rfl) hQ (R.opened (j := 16) rfl f105) hS (fun w _ hS => by have e108 := f108; unfold Chain.At at e108; have q0 := cv10 w hS; clear F; go_simp) (F.lt (by decide)) fun a20 N => ?_
  replace F := F.next N (by decide)
  replace f102 := N.keep 102 _ (by decide) f102
  replace f105 := N.keep 105 _ (by decide) f105
  replace f107 := N.keep 107 _ (by decide) f107
  clear f108
  have f109 := N.got
  clear N a19
  refine Ord.take R (k := 21) (v := .bool bE) (bs' := (Ord.upto 22 29)) rfl (by kernel_rfl) hQ (R.opened (j := 16) rfl f105) hS (fun w _ hS => by have e107 := f107; unfold Chain.At at e107; have e109 := f109; unfold Chain.At at e109; have q0 := hsE; clear F; go_simp) (F.lt (by decide)) fun a21 N => ?_
  replace F := F.next N (by decide)
  replace f102 := N.keep 102 _ (by decide) f102
  replace f105 := N.keep 105 _ (by decide) f105
  clear f107
  clear f109
  have f110 := N.got
  clear N a20
  refine Ord.take R (k := 22) (v := .agg #[.slice A3 m3 c3, .bool wr]) (bs' := (Ord.upto 23 29)) rfl (by kernel_rfl) hQ (R.opened (j := 16) rfl f105) hS (fun w _ hS => by have e3 := F.s3; unfold Chain.At at e3; have q0 := show w.cell? ⟨g3, 0, none⟩ = some (.slice A3 m3 c3) from (hS.cell (p := ⟨g3, 0, none⟩) RR.lt).trans (RR.get 0); have q1 := show w.cell? ⟨g3, 1, none⟩ = some (.bool wr) from (hS.cell (p := ⟨g3, 1, none⟩) RR.lt).trans (RR.get 1); clear F; go_simp) (F.lt (by decide)) fun a22 N => ?_
  replace F := F.next N (by decide)
  replace f102 := N.keep 102 _ (by decide) f102
  replace f105 := N.keep 105 _ (by decide) f105
  replace f110 := N.keep 110 _ (by decide) f110
  have f111 := N.got
  clear N a21
  refine Ord.take R (k := 23) (v := .agg #[.slice A4 m4 c4, .bool ws]) (bs' := (Ord.upto 24 29)) rfl (by kernel_rfl) hQ (R.opened (j := 16) rfl f105) hS (fun w _ hS => by have e4 := F.s4; unfold Chain.At at e4; have q0 := show w.cell? ⟨g4, 0, none⟩ = some (.slice A4 m4 c4) from (hS.cell (p := ⟨g4, 0, none⟩) TT.lt).trans (TT.get 0); have q1 := show w.cell? ⟨g4, 1, none⟩ = some (.bool ws) from (hS.cell (p := ⟨g4, 1, none⟩) TT.lt).trans (TT.get 1); clear F; go_simp) (F.lt (by decide)) fun a23 N => ?_
  replace F := F.next N (by decide)
  replace f102 := N.keep 102 _ (by decide) f102
  replace f105 := N.keep 105 _ (by decide) f105
  replace f110 := N.keep 110 _ (by decide) f110
  replace f111 := N.keep 111 _ (by decide) f111
  have f112 := N.got
  clear N a22
  refine Ord.call R (k := 24) (args := #[.agg #[.slice A3 m3 c3, .bool wr], .agg #[.slice A4 m4 c4, .bool ws]]) (bs' := (Ord.upto 25 29)) rfl (by kernel_rfl) (R.opened (j := 16) rfl f105) (by simp [f111.ev, f112.ev]) (by kernel_rfl) (eqRow_walk A3 A4 m3 c3 m4 c4 wr ws L3 L4 _ hm3 hm4 ((Q3.below hS).up hS.size) ((Q4.below hS).up hS.size)) (F.lt (by decide)) ?_
  rintro e w ⟨rfl, b113⟩
  rw [heE]
  replace hS := hS.trans (b113.mono hS.size)
  clear b113
  refine ⟨_, rfl, hS, fun a24 N => ?_⟩
  replace F := F.next N (by decide)
  replace f102 := N.keep 102 _ (by decide) f102
  replace f105 := N.keep 105 _ (by decide) f105
  replace f110 := N.keep 110 _ (by decide) f110
  clear f111
  clear f112
  have f113 := N.got
  clear N a23
  refine Ord.take R (k := 25) (v := .bool true) (bs' := (Ord.upto 26 29)) rfl (by kernel_rfl) hQ (R.opened (j := 16) rfl f105) hS (fun w _ hS => by have e110 := f110; unfold Chain.At at e110; have e113 := f113; unfold Chain.At at e113; clear F; go_simp) (F.lt (by decide)) fun a25 N => ?_
  replace F := F.next N (by decide)
  replace f102 := N.keep 102 _ (by decide) f102
  replace f105 := N.keep 105 _ (by decide) f105
  clear f110
  clear f113
  have f114 := N.got
  clear N a24
  refine Ord.take R (k := 26) (v := .bool true) (bs' := (Ord.upto 27 29)) rfl (by kernel_rfl) hQ (R.opened (j := 13) rfl f102) hS (fun w _ hS => Ord.ev_pick_no f105.ev f114.ev) (F.lt (by decide)) fun a26 N => ?_
  replace F := F.next N (by decide)
  replace f102 := N.keep 102 _ (by decide) f102
  clear f105
  clear f114
  have f115 := N.got
  clear N a25
  refine Ord.take R (k := 27) (v := .bool true) (bs' := (Ord.upto 28 29)) rfl (by kernel_rfl) hQ trivial hS (fun w _ hS => Ord.ev_pick_yes f102.ev f115.ev) (F.lt (by decide)) fun a27 N => ?_
  replace F := F.next N (by decide)
  clear f102
  clear f115
  have f116 := N.got
  clear N a26
  refine Ord.take R (k := 28) (v := .bool true) (bs' := (Ord.upto 29 29)) rfl (by kernel_rfl) hQ trivial hS (fun w _ hS => Chain.ev_assign f116.ev) (F.lt (by decide)) fun a28 N => ?_
  replace F := F.next N (by decide)
  clear f116
  have f6 := N.got
  clear N a27
  exact Ord.finish R (by kernel_rfl) (h _ _ f6 F.defers hS)
/-- The slots that are known all the way. -/
structure All13no (g3 g4 g14 pl c8 ql c10 : Nat) (A8 A10 : Option Addr) (a : Act) : Prop where
  size : a.tmps.size = 117
  defers : a.defers = []
  s3 : Chain.At a 3 (.pointer (some ⟨g3, 0, none⟩))
  s4 : Chain.At a 4 (.pointer (some ⟨g4, 0, none⟩))
  s8 : Chain.At a 8 (.slice A8 pl c8)
  s10 : Chain.At a 10 (.slice A10 ql c10)
  s11 : Chain.At a 11 (.bool false)
  s14 : Chain.At a 14 (.pointer (some ⟨g14, 0, none⟩))
  s15 : Chain.At a 15 (.int .i64 (pl : Int))
  s16 : Chain.At a 16 (.int .i64 0)
theorem All13no.next {g3 g4 g14 pl c8 ql c10 : Nat} {A8 A10 : Option Addr} {a a' : Act} {d : Nat} {v : Value} (F : All13no g3 g4 g14 pl c8 ql c10 A8 A10 a) (nx : Chain.Next a a' d v) (h : d ≠ 3 ∧ d ≠ 4 ∧ d ≠ 8 ∧ d ≠ 10 ∧ d ≠ 11 ∧ d ≠ 14 ∧ d ≠ 15 ∧ d ≠ 16) : All13no g3 g4 g14 pl c8 ql c10 A8 A10 a' := ⟨nx.size.trans F.size, nx.defers.trans F.defers, nx.keep 3 _ h.1 F.s3, nx.keep 4 _ h.2.1 F.s4, nx.keep 8 _ h.2.2.1 F.s8, nx.keep 10 _ h.2.2.2.1 F.s10, nx.keep 11 _ h.2.2.2.2.1 F.s11, nx.keep 14 _ h.2.2.2.2.2.1 F.s14, nx.keep 15 _ h.2.2.2.2.2.2.1 F.s15, nx.keep 16 _ h.2.2.2.2.2.2.2 F.s16⟩
theorem All13no.lt {g3 g4 g14 pl c8 ql c10 : Nat} {A8 A10 : Option Addr} {a : Act} {d : Nat} (F : All13no g3 g4 g14 pl c8 ql c10 A8 A10 a) (h : d < 117) : d < a.tmps.size := by rw [F.size]; exact h

set_option maxRecDepth 100000 in
theorem all13_no {ops : Array Oper} {Q : Exit → Act → World → Prop} (R : Ord.Reg ops all13L) (hQ : ∀ c a w d v, Q (.panic c) (Act.put a (some d) v) w → Q (.panic c) a w) {w0 : World} {g3 g4 g14 pl c8 ql c10 m3 c3 c5 : Nat} {A8 A10 A3 A5 : Option Addr} {L3 : List Cel} {wr : Bool}
    (RR : RowAt w0 g3 (.slice A3 m3 c3) wr) (Q3 : Sq w0 w0.heap.size 3 m3 A3 (flat L3)) (hm3 : m3 ≤ 1000000) (GG : RowAt w0 g14 (.slice A5 m3 c5) wr) (Q5 : Sq w0 w0.heap.size 3 m3 A5 (flat L3))
    (a : Act) (F : All13no g3 g4 g14 pl c8 ql c10 A8 A10 a)
    (h : ∀ a w, Chain.At a 6 (.bool true) → a.defers = [] → Below w0.heap.size w0 w → Q .normal a w) :
    wpAnyH Tryd.prog .any ops Q (fun w' => Below w0.heap.size w0 w') 29 (List.replicate 29 false).toArray a w0 := by
  have hS := Below.refl w0.heap.size w0
  refine Ord.take R (k := 0) (v := .int .i64 0) (bs' := (Ord.upto 1 29)) rfl (by kernel_rfl) hQ trivial hS (fun w _ hS => Chain.ev_move F.s16.ev) (F.lt (by decide)) fun a0 N => ?_
  replace F := F.next N (by decide)
  have f89 := N.got
  clear N a
  refine Ord.take R (k := 1) (v := .bool true) (bs' := (Ord.upto 2 29)) rfl (by kernel_rfl) hQ trivial hS (fun w _ hS => by have e89 := f89; unfold Chain.At at e89; clear F; go_simp) (F.lt (by decide)) fun a1 N => ?_
  replace F := F.next N (by decide)
  clear f89
  have f90 := N.got
  clear N a0
  refine Ord.take R (k := 2) (v := .bool true) (bs' := (Ord.upto 3 29)) rfl (by kernel_rfl) hQ trivial hS (fun w _ hS => Chain.ev_move f90.ev) (F.lt (by decide)) fun a2 N => ?_
  replace F := F.next N (by decide)
  clear f90
  have f91 := N.got
  clear N a1
  refine Ord.take R (k := 3) (v := .int .i64 (pl : Int)) (bs' := (Ord.upto 4 29)) rfl (by kernel_rfl) hQ (R.opened (j := 2) rfl f91) hS (fun w _ hS => Chain.ev_move F.s15.ev) (F.lt (by decide)) fun a3 N => ?_
  replace F := F.next N (by decide)
  replace f91 := N.keep 91 _ (by decide) f91
  have f92 := N.got
  clear N a2
  refine Ord.take R (k := 4) (v := .slice A8 pl c8) (bs' := (Ord.upto 5 29)) rfl (by kernel_rfl) hQ (R.opened (j := 2) rfl f91) hS (fun w _ hS => Chain.ev_move F.s8.ev) (F.lt (by decide)) fun a4 N => ?_
  replace F := F.next N (by decide)
  replace f91 := N.keep 91 _ (by decide) f91
  replace f92 := N.keep 92 _ (by decide) f92
  have f93 := N.got
  clear N a3
  refine Ord.take R (k := 5) (v := .int .i64 (pl : Int)) (bs' := (Ord.upto 6 29)) rfl (by kernel_rfl) hQ (R.opened (j := 2) rfl f91) hS (fun w _ hS => by have e93 := f93; unfold Chain.At at e93; clear F; go_simp) (F.lt (by decide)) fun a5 N => ?_
  replace F := F.next N (by decide)
  replace f91 := N.keep 91 _ (by decide) f91
  replace f92 := N.keep 92 _ (by decide) f92
  clear f93
  have f94 := N.got
  clear N a4
  refine Ord.take R (k := 6) (v := .bool true) (bs' := (Ord.upto 7 29)) rfl (by kernel_rfl) hQ (R.opened (j := 2) rfl f91) hS (fun w _ hS => by have e92 := f92; unfold Chain.At at e92; have e94 := f94; unfold Chain.At at e94; clear F; go_simp) (F.lt (by decide)) fun a6 N => ?_
  replace F := F.next N (by decide)
  replace f91 := N.keep 91 _ (by decide) f91
  clear f92
  clear f94
  have f95 := N.got
  clear N a5
  refine Ord.take R (k := 7) (v := .bool true) (bs' := (Ord.upto 8 29)) rfl (by kernel_rfl) hQ trivial hS (fun w _ hS => Ord.ev_pick_yes f91.ev f95.ev) (F.lt (by decide)) fun a7 N => ?_
  replace F := F.next N (by decide)
  clear f91
  clear f95
  have f96 := N.got
  clear N a6
  refine Ord.take R (k := 8) (v := .bool true) (bs' := (Ord.upto 9 29)) rfl (by kernel_rfl) hQ trivial hS (fun w _ hS => Chain.ev_move f96.ev) (F.lt (by decide)) fun a8 N => ?_
  replace F := F.next N (by decide)
  clear f96
  have f97 := N.got
  clear N a7
  refine Ord.take R (k := 9) (v := .agg #[.slice A5 m3 c5, .bool wr]) (bs' := (Ord.upto 10 29)) rfl (by kernel_rfl) hQ (R.opened (j := 8) rfl f97) hS (fun w _ hS => by have e14 := F.s14; unfold Chain.At at e14; have q0 := show w.cell? ⟨g14, 0, none⟩ = some (.slice A5 m3 c5) from (hS.cell (p := ⟨g14, 0, none⟩) GG.lt).trans (GG.get 0); have q1 := show w.cell? ⟨g14, 1, none⟩ = some (.bool wr) from (hS.cell (p := ⟨g14, 1, none⟩) GG.lt).trans (GG.get 1); clear F; go_simp) (F.lt (by decide)) fun a9 N => ?_
  replace F := F.next N (by decide)
  replace f97 := N.keep 97 _ (by decide) f97
  have f98 := N.got
  clear N a8
  refine Ord.take R (k := 10) (v := .agg #[.slice A3 m3 c3, .bool wr]) (bs' := (Ord.upto 11 29)) rfl (by kernel_rfl) hQ (R.opened (j := 8) rfl f97) hS (fun w _ hS => by have e3 := F.s3; unfold Chain.At at e3; have q0 := show w.cell? ⟨g3, 0, none⟩ = some (.slice A3 m3 c3) from (hS.cell (p := ⟨g3, 0, none⟩) RR.lt).trans (RR.get 0); have q1 := show w.cell? ⟨g3, 1, none⟩ = some (.bool wr) from (hS.cell (p := ⟨g3, 1, none⟩) RR.lt).trans (RR.get 1); clear F; go_simp) (F.lt (by decide)) fun a10 N => ?_
  replace F := F.next N (by decide)
  replace f97 := N.keep 97 _ (by decide) f97
  replace f98 := N.keep 98 _ (by decide) f98
  have f99 := N.got
  clear N a9
  refine Ord.call R (k := 11) (args := #[.agg #[.slice A5 m3 c5, .bool wr], .agg #[.slice A3 m3 c3, .bool wr]]) (bs' := (Ord.upto 12 29)) rfl (by kernel_rfl) (R.opened (j := 8) rfl f97) (by simp [f98.ev, f99.ev]) (by kernel_rfl) (eqRow_walk A5 A3 m3 c5 m3 c3 wr wr L3 L3 _ hm3 hm3 ((Q5.below hS).up hS.size) ((Q3.below hS).up hS.size)) (F.lt (by decide)) ?_
  rintro e w ⟨rfl, b100⟩
  rw [eqL_self wr L3]
  replace hS := hS.trans (b100.mono hS.size)
  clear b100
  refine ⟨_, rfl, hS, fun a11 N => ?_⟩
  replace F := F.next N (by decide)
  replace f97 := N.keep 97 _ (by decide) f97
  clear f98
  clear f99
  have f100 := N.got
  clear N a10
  refine Ord.take R (k := 12) (v := .bool true) (bs' := (Ord.upto 13 29)) rfl (by kernel_rfl) hQ trivial hS (fun w _ hS => Ord.ev_pick_yes f97.ev f100.ev) (F.lt (by decide)) fun a12 N => ?_
  replace F := F.next N (by decide)
  clear f97
  clear f100
  have f101 := N.got
  clear N a11
  refine Ord.take R (k := 13) (v := .bool true) (bs' := (Ord.upto 14 29)) rfl (by kernel_rfl) hQ trivial hS (fun w _ hS => Chain.ev_move f101.ev) (F.lt (by decide)) fun a13 N => ?_
  replace F := F.next N (by decide)
  clear f101
  have f102 := N.got
  clear N a12
  refine Ord.take R (k := 14) (v := .bool false) (bs' := (Ord.upto 15 29)) rfl (by kernel_rfl) hQ (R.opened (j := 13) rfl f102) hS (fun w _ hS => Chain.ev_move F.s11.ev) (F.lt (by decide)) fun a14 N => ?_
  replace F := F.next N (by decide)
  replace f102 := N.keep 102 _ (by decide) f102
  have f103 := N.got
  clear N a13
  refine Ord.take R (k := 15) (v := .bool true) (bs' := (Ord.upto 16 29)) rfl (by kernel_rfl) hQ (R.opened (j := 13) rfl f102) hS (fun w _ hS => by have e103 := f103; unfold Chain.At at e103; clear F; go_simp) (F.lt (by decide)) fun a15 N => ?_
  replace F := F.next N (by decide)
  replace f102 := N.keep 102 _ (by decide) f102
  clear f103
  have f104 := N.got
  clear N a14
  refine Ord.take R (k := 16) (v := .bool true) (bs' := (Ord.upto 17 29)) rfl (by kernel_rfl) hQ (R.opened (j := 13) rfl f102) hS (fun w _ hS => Chain.ev_move f104.ev) (F.lt (by decide)) fun a16 N => ?_
  replace F := F.next N (by decide)
  replace f102 := N.keep 102 _ (by decide) f102
  clear f104
  have f105 := N.got
  clear N a15
  refine Ord.skip R (k := 17) (bs' := (Ord.upto 18 29)) rfl (by kernel_rfl) hQ (R.shut (j := 16) rfl f105 (Ord.ne_not rfl)) hS (F.lt (by decide)) fun a17 N => ?_
  replace F := F.next N (by decide)
  replace f102 := N.keep 102 _ (by decide) f102
  replace f105 := N.keep 105 _ (by decide) f105
  have f106 := N.got
  clear N a16
  refine Ord.skip R (k := 18) (bs' := (Ord.upto 19 29)) rfl (by kernel_rfl) hQ (R.shut (j := 16) rfl f105 (Ord.ne_not rfl)) hS (F.lt (by decide)) fun a18 N => ?_
  replace F := F.next N (by decide)
  replace f102 := N.keep 102 _ (by decide) f102
  replace f105 := N.keep 105 _ (by decide) f105
  clear f106
  have f107 := N.got
  clear N a17
  refine Ord.skip R (k := 19) (bs' := (Ord.upto 20 29)) rfl (by kernel_rfl) hQ (R.shut (j := 16) rfl f105 (Ord.ne_not rfl)) hS (F.lt (by decide)) fun a19 N => ?_
  replace F := F.next N (by decide)
  replace f102 := N.keep 102 _ (by decide) f102
  replace f105 := N.keep 105 _ (by decide) f105
  replace f107 := N.keep 107 _ (by decide) f107
  have f108 := N.got
  clear N a18
  refine Ord.skip R (k := 20) (bs' := (Ord.upto 21 29)) rfl (by kernel_rfl) hQ (R.shut (j := 16) rfl f105 (Ord.ne_not rfl)) hS (F.lt (by decide)) fun a20 N => ?_
  replace F := F.next N (by decide)
  replace f102 := N.keep 102 _ (by decide) f102
  replace f105 := N.keep 105 _ (by decide) f105
  replace f107 := N.keep 107 _ (by decide) f107
  clear f108
  have f109 := N.got
  clear N a19
  refine Ord.skip R (k := 21) (bs' := (Ord.upto 22 29)) rfl (by kernel_rfl) hQ (R.shut (j := 16) rfl f105 (Ord.ne_not rfl)) hS (F.lt (by decide)) fun a21 N => ?_
  replace F := F.next N (by decide)
  replace f102 := N.keep 102 _ (by decide) f102
  replace f105 := N.keep 105 _ (by decide) f105
  clear f107
  clear f109
  have f110 := N.got
  clear N a20
  refine Ord.skip R (k := 22) (bs' := (Ord.upto 23 29)) rfl (by kernel_rfl) hQ (R.shut (j := 16) rfl f105 (Ord.ne_not rfl)) hS (F.lt (by decide)) fun a22 N => ?_
  replace F := F.next N (by decide)
  replace f102 := N.keep 102 _ (by decide) f102
  replace f105 := N.keep 105 _ (by decide) f105
  replace f110 := N.keep 110 _ (by decide) f110
  have f111 := N.got
  clear N a21
  refine Ord.skip R (k := 23) (bs' := (Ord.upto 24 29)) rfl (by kernel_rfl) hQ (R.shut (j := 16) rfl f105 (Ord.ne_not rfl)) hS (F.lt (by decide)) fun a23 N => ?_
  replace F := F.next N (by decide)
  replace f102 := N.keep 102 _ (by decide) f102
  replace f105 := N.keep 105 _ (by decide) f105
  replace f110 := N.keep 110 _ (by decide) f110
  replace f111 := N.keep 111 _ (by decide) f111
  have f112 := N.got
  clear N a22
  refine Ord.skip R (k := 24) (bs' := (Ord.upto 25 29)) rfl (by kernel_rfl) hQ (R.shut (j := 16) rfl f105 (Ord.ne_not rfl)) hS (F.lt (by decide)) fun a24 N => ?_
  replace F := F.next N (by decide)
  replace f102 := N.keep 102 _ (by decide) f102
  replace f105 := N.keep 105 _ (by decide) f105
  replace f110 := N.keep 110 _ (by decide) f110
  clear f111
  clear f112
  have f113 := N.got
  clear N a23
  refine Ord.skip R (k := 25) (bs' := (Ord.upto 26 29)) rfl (by kernel_rfl) hQ (R.shut (j := 16) rfl f105 (Ord.ne_not rfl)) hS (F.lt (by decide)) fun a25 N => ?_
  replace F := F.next N (by decide)
  replace f102 := N.keep 102 _ (by decide) f102
  replace f105 := N.keep 105 _ (by decide) f105
  clear f110
  clear f113
  have f114 := N.got
  clear N a24
  refine Ord.take R (k := 26) (v := Go.Value.bool true) (bs' := (Ord.upto 27 29)) rfl (by kernel_rfl) hQ (R.opened (j := 13) rfl f102) hS (fun w _ hS => Ord.ev_pick_yes f105.ev rfl) (F.lt (by decide)) fun a26 N => ?_
  replace F := F.next N (by decide)
  replace f102 := N.keep 102 _ (by decide) f102
  clear f105
  clear f114
  have f115 := N.got
  clear N a25
  refine Ord.take R (k := 27) (v := Go.Value.bool true) (bs' := (Ord.upto 28 29)) rfl (by kernel_rfl) hQ trivial hS (fun w _ hS => Ord.ev_pick_yes f102.ev f115.ev) (F.lt (by decide)) fun a27 N => ?_
  replace F := F.next N (by decide)
  clear f102
  clear f115
  have f116 := N.got
  clear N a26
  refine Ord.take R (k := 28) (v := Go.Value.bool true) (bs' := (Ord.upto 29 29)) rfl (by kernel_rfl) hQ trivial hS (fun w _ hS => Chain.ev_assign f116.ev) (F.lt (by decide)) fun a28 N => ?_
  replace F := F.next N (by decide)
  clear f116
  have f6 := N.got
  clear N a27
  exact Ord.finish R (by kernel_rfl) (h _ _ f6 F.defers hS)
end Go.Proofs.YtikdlikdknfcfaaDoor

namespace Go.Proofs.YtikdlikdknfcfaaDoor
open Go.ChangeShapes Go.WideShapes Go.ChangeAt Go.RowKit

def all12L : List Ord.Line := [
  (some 77, Go.Op.move (Go.Operand.tmp 8), none, []),
  (some 78, Go.Op.call { callee := Go.Callee.builtin Go.Builtin.append, args := #[Go.Operand.const (Go.Value.slice none 0 0), Go.Operand.tmp 77], argTypes := #[23, 23] }, none, [0]),
  (some 79, Go.Op.move (Go.Operand.tmp 2), none, []),
  (some 80, Go.Op.move (Go.Operand.tmp 2), none, []),
  (some 81, Go.Op.call { callee := Go.Callee.builtin Go.Builtin.len, args := #[Go.Operand.tmp 80], argTypes := #[23] }, none, [3]),
  (some 82, Go.Op.call { callee := Go.Callee.builtin Go.Builtin.min, args := #[Go.Operand.tmp 81, Go.Operand.const (Go.Value.int Go.IntKind.i64 20)], argTypes := #[3, 3] }, none, [4]),
  (some 83, Go.Op.slice 23 (Go.Operand.tmp 79) none (some (Go.Operand.tmp 82)) none, none, [2, 5]),
  (some 84, Go.Op.call { callee := Go.Callee.builtin Go.Builtin.append, args := #[Go.Operand.tmp 78, Go.Operand.tmp 83], argTypes := #[23, 23] }, none, [1, 6, 1]),
  (some 85, Go.Op.call { callee := Go.Callee.value (Go.Operand.func 30), args := #[Go.Operand.tmp 84], argTypes := #[23] }, none, [7, 7]),
  (some 76, Go.Op.move (Go.Operand.tmp 85), none, [8]),
  (some 86, Go.Op.extract (Go.Operand.tmp 76) 0, none, [9]),
  (some 87, Go.Op.extract (Go.Operand.tmp 76) 1, none, [9]),
  (some 88, Go.Op.extract (Go.Operand.tmp 76) 2, none, [9]),
  (some 14, Go.Op.alloc 31, none, []),
  (none, Go.Op.store 31 (Go.Operand.tmp 14) (Go.Operand.tmp 86), none, [13, 10, 8, 0, 1, 2, 3, 4, 5, 6, 7, 8, 9, 10, 13]),
  (some 15, Go.Op.assign (Go.Operand.tmp 87), none, [11, 14, 0, 1, 2, 3, 4, 5, 6, 7, 8, 9, 10, 11, 13, 14]),
  (some 16, Go.Op.assign (Go.Operand.tmp 88), none, [12, 15, 0, 1, 2, 3, 4, 5, 6, 7, 8, 9, 10, 11, 12, 13, 14, 15])]

/-- The slots that are known all the way. -/
structure All12Fr (A A8 : Option Addr) (n c g3 g4 pl c8 : Nat) (p10 p11 : Value) (a : Act) : Prop where
  size : a.tmps.size = 117
  defers : a.defers = []
  s2 : Chain.At a 2 (.slice A n c)
  s3 : Chain.At a 3 (.pointer (some ⟨g3, 0, none⟩))
  s4 : Chain.At a 4 (.pointer (some ⟨g4, 0, none⟩))
  s8 : Chain.At a 8 (.slice A8 pl c8)
  s10 : Chain.At a 10 (p10)
  s11 : Chain.At a 11 (p11)
theorem All12Fr.next {A A8 : Option Addr} {n c g3 g4 pl c8 : Nat} {p10 p11 : Value} {a a' : Act} {d : Nat} {v : Value} (F : All12Fr A A8 n c g3 g4 pl c8 p10 p11 a) (nx : Chain.Next a a' d v) (h : d ≠ 2 ∧ d ≠ 3 ∧ d ≠ 4 ∧ d ≠ 8 ∧ d ≠ 10 ∧ d ≠ 11) : All12Fr A A8 n c g3 g4 pl c8 p10 p11 a' := ⟨nx.size.trans F.size, nx.defers.trans F.defers, nx.keep 2 _ h.1 F.s2, nx.keep 3 _ h.2.1 F.s3, nx.keep 4 _ h.2.2.1 F.s4, nx.keep 8 _ h.2.2.2.1 F.s8, nx.keep 10 _ h.2.2.2.2.1 F.s10, nx.keep 11 _ h.2.2.2.2.2 F.s11⟩
theorem All12Fr.lt {A A8 : Option Addr} {n c g3 g4 pl c8 : Nat} {p10 p11 : Value} {a : Act} {d : Nat} (F : All12Fr A A8 n c g3 g4 pl c8 p10 p11 a) (h : d < 117) : d < a.tmps.size := by rw [F.size]; exact h

theorem own_typed12 {w : World} {base n : Nat} {e : TypeId} {size : Nat} {v : Value} {xs : List Value} (h : w.ownsRow base e size v n xs) : ∀ k, v.ownBlock = some k → Typed w e k := by
  intro k hk
  rcases h.2 with ⟨e, _⟩ | ⟨g, cap, cur, e, _, e3, _⟩
  · rw [e] at hk; cases hk
  · rw [e] at hk
    injection hk with hk
    subst hk
    exact ⟨_, _, e3⟩
theorem own_keep12 {w w' : World} {base : Nat} {e : TypeId} {size n : Nat} {v : Value} {xs : List Value} (h : w.ownsRow base e size v n xs) (hk : ∀ k, v.ownBlock = some k → w'.heap[k]? = w.heap[k]?) : w'.ownsRow base e size v n xs := by
  refine ⟨h.1, ?_⟩
  rcases h.2 with e | ⟨g, cap, cur, rfl, e2, e3, r⟩
  · exact .inl e
  · exact .inr ⟨g, cap, cur, rfl, e2, (hk g rfl).trans e3, r⟩
theorem own_cap12 {w : World} {B : Nat} {e : TypeId} {s n c : Nat} {A : Option Addr} {xs : List Value} (h : w.ownsRow B e s (.slice A n c) n xs) : n ≤ c := by
  rcases Nat.eq_zero_or_pos n with h0 | h0
  · omega
  · obtain ⟨g, c', ev, h1, _⟩ := own_at h h0
    injection ev with e1 e2 e3
    omega
set_option maxRecDepth 100000 in
theorem all12_great {ops : Array Oper} {Q : Exit → Act → World → Prop} (R : Ord.Reg ops all12L) (hQ : ∀ c a w d v, Q (.panic c) (Act.put a (some d) v) w → Q (.panic c) a w) {w0 : World} {A A8 : Option Addr} {n c g3 g4 pl c8 m m3 : Nat} {p10 p11 : Value} {pb mb : List Int} {L3 : List Cel} {wr : Bool}
    (hsp : Spans w0) (hspz : 0 < w0.heap.size) (PQ : Sq w0 w0.heap.size 1 pl A8 (pb.map (Value.int .u8))) (MQ : Sq w0 w0.heap.size 1 m A (mb.map (Value.int .u8))) (hmin : min (n : Int) 20 = (m : Int)) (hmc : (m : Int) ≤ (c : Int)) (hmc2 : m ≤ c) (hm0 : (0 : Int) ≤ (m : Int))
    (fit1 : 0 + pl ≤ maxLen) (fit2 : (0 + pl) * 1 ≤ 140737488355328) (fit3 : pl + m ≤ maxLen) (fit4 : (pl + m) * 1 ≤ 140737488355328) (fit5 : pl + m ≤ 1000000) (hbb : ∀ y ∈ pb ++ mb, 0 ≤ y ∧ y ≤ 255) (HG : gotR (pb ++ mb) = (wr, L3, pl, 0)) (hm3 : L3.length = m3)
    (a : Act) (F : All12Fr A A8 n c g3 g4 pl c8 p10 p11 a)
    (h : ∀ a w g14 A5 c5, All12Fr A A8 n c g3 g4 pl c8 p10 p11 a → Chain.At a 14 (.pointer (some ⟨g14, 0, none⟩)) → Chain.At a 15 (.int .i64 (pl : Int)) → Chain.At a 16 (.int .i64 0) → RowAt w g14 (.slice A5 m3 c5) wr → HasC w 0 (.slice A5 m3 c5) L3 → Below w0.heap.size w0 w → Q .normal a w) :
    wpAnyH Tryd.prog .any ops Q (fun _ => True) 17 (List.replicate 17 false).toArray a w0 := by
  obtain ⟨i0, hi, hz0, hz1, hz2⟩ := info_parts infoByte
  have Bel := Below.refl w0.heap.size w0
  refine Ord.take R (k := 0) (v := .slice A8 pl c8) (bs' := (Ord.upto 1 17)) rfl (by kernel_rfl) hQ trivial trivial (fun w _ hS => Chain.ev_move F.s8.ev) (F.lt (by decide)) fun a0 N => ?_
  replace F := F.next N (by simp)
  have f77 := N.got
  clear N
  refine Ord.take R (k := 2) (v := .slice A n c) (bs' := [true, false, true, false, false, false, false, false, false, false, false, false, false, false, false, false, false]) rfl (by kernel_rfl) hQ trivial trivial (fun w _ hS => Chain.ev_move F.s2.ev) (F.lt (by decide)) fun a2 N => ?_
  replace F := F.next N (by simp)
  replace f77 := N.keep 77 _ (by decide) f77
  have f79 := N.got
  clear N
  refine Ord.take R (k := 3) (v := .slice A n c) (bs' := [true, false, true, true, false, false, false, false, false, false, false, false, false, false, false, false, false]) rfl (by kernel_rfl) hQ trivial trivial (fun w _ hS => Chain.ev_move F.s2.ev) (F.lt (by decide)) fun a3 N => ?_
  replace F := F.next N (by simp)
  replace f77 := N.keep 77 _ (by decide) f77
  replace f79 := N.keep 79 _ (by decide) f79
  have f80 := N.got
  clear N
  refine Ord.take R (k := 4) (v := .int .i64 (n : Int)) (bs' := [true, false, true, true, true, false, false, false, false, false, false, false, false, false, false, false, false]) rfl (by kernel_rfl) hQ trivial trivial (fun w _ hS => by have e80 := f80; unfold Chain.At at e80; clear F; go_simp) (F.lt (by decide)) fun a4 N => ?_
  replace F := F.next N (by simp)
  replace f77 := N.keep 77 _ (by decide) f77
  replace f79 := N.keep 79 _ (by decide) f79
  clear f80
  have f81 := N.got
  clear N
  refine Ord.take R (k := 5) (v := .int .i64 (m : Int)) (bs' := [true, false, true, true, true, true, false, false, false, false, false, false, false, false, false, false, false]) rfl (by kernel_rfl) hQ trivial trivial (fun w _ hS => by have e81 := f81; unfold Chain.At at e81; have q0 := hmin; clear F; go_simp) (F.lt (by decide)) fun a5 N => ?_
  replace F := F.next N (by simp)
  replace f77 := N.keep 77 _ (by decide) f77
  replace f79 := N.keep 79 _ (by decide) f79
  clear f81
  have f82 := N.got
  clear N
  refine Ord.take R (k := 6) (v := .slice A m c) (bs' := [true, false, true, true, true, true, true, false, false, false, false, false, false, false, false, false, false]) rfl (by kernel_rfl) hQ trivial trivial (fun w _ hS => by have e79 := f79; unfold Chain.At at e79; have e82 := f82; unfold Chain.At at e82; have q0 := hmc; have q1 := hmc2; have q2 := hm0; clear F; go_simp) (F.lt (by decide)) fun a6 N => ?_
  replace F := F.next N (by simp)
  replace f77 := N.keep 77 _ (by decide) f77
  clear f79
  clear f82
  have f83 := N.got
  clear N
  refine Ord.either R (i := 1) (j := 13) (bs1 := (Ord.upto 7 17)) (bs2 := [true, false, true, true, true, true, true, false, false, false, false, false, false, true, false, false, false]) (by kernel_rfl) ?_ ?_
  · skip
    refine Ord.step_append R (k := 1) (.const (.slice none 0 0)) (.tmp 77) 23 rfl trivial (F.lt (by decide)) w0.heap.size 5 i0 (.int .u8 0) 1 1 Tryd.underlying23 hi hz0 hz1 hz2 rfl (by decide) (.slice none 0 0) 0 [] rfl (World.ownsRow_nil _ _ _ _) A8 pl c8 (pb.map (Value.int .u8)) f77.ev w0.heap.size (PQ.below Bel) (byte_all pb) fit1 fit2 Bel.size ?_
    intro A1 c1 w H1 hg
    rw [Nat.zero_add, List.nil_append] at H1
    rw [Nat.zero_add]
    replace Bel := Bel.trans ((Turned.ofGrown hg).toBelow Bel.size (fun j hj m => by cases m))
    clear hg
    refine ⟨trivial, fun a1 N => ?_⟩
    replace F := F.next N (by simp)
    clear f77
    replace f83 := N.keep 83 _ (by decide) f83
    have f78 := N.got
    clear N
    refine Ord.either R (i := 7) (j := 13) (bs1 := (Ord.upto 8 17)) (bs2 := [true, true, true, true, true, true, true, false, false, false, false, false, false, true, false, false, false]) (by kernel_rfl) ?_ ?_
    · skip
      refine Ord.step_append R (k := 7) (.tmp 78) (.tmp 83) 23 rfl trivial (F.lt (by decide)) w0.heap.size 5 i0 (.int .u8 0) 1 1 Tryd.underlying23 hi hz0 hz1 hz2 rfl (by decide) (.slice A1 pl c1) pl (pb.map (Value.int .u8)) f78.ev H1 A m c (mb.map (Value.int .u8)) f83.ev w0.heap.size (MQ.below Bel) (byte_all mb) fit3 fit4 Bel.size ?_
      intro A2 c2 w H2 hg
      replace Bel := Bel.trans ((Turned.ofGrown hg).toBelow Bel.size (fun j hj m => by have := (World.ownsRow.lt H1 j m).1; omega))
      have hcap := own_cap12 H2
      clear hg H1
      refine ⟨trivial, fun a7 N => ?_⟩
      replace F := F.next N (by simp)
      clear f78
      clear f83
      have f84 := N.got
      clear N
      refine Ord.either R (i := 8) (j := 13) (bs1 := (Ord.upto 9 17)) (bs2 := [true, true, true, true, true, true, true, true, false, false, false, false, false, true, false, false, false]) (by kernel_rfl) ?_ ?_
      · skip
        refine Ord.step_call R (k := 8) (args := #[.slice A2 (pl + m) c2]) rfl trivial (by simp [f84.ev]) (by kernel_rfl) (get_walk A2 (pl + m) c2 (pb ++ mb) _ (hsp.below Bel hspz) (by rw [List.map_append]; exact Sq.own H2) hcap fit5 hbb) (F.lt (by decide)) ?_
        rintro e w ⟨v5, rfl, hv5, b5⟩
        rw [HG] at hv5 ⊢
        simp only at hv5 ⊢
        obtain ⟨A5, c5, rfl, _⟩ := HasC.shape hv5
        rw [hm3] at hv5 ⊢
        have V5 := HasC.mono hv5 (Nat.zero_le _)
        replace Bel := Bel.trans (b5.mono Bel.size)
        clear hv5 b5 H2
        refine ⟨_, rfl, trivial, fun a8 N => ?_⟩
        replace F := F.next N (by simp)
        clear f84
        have f85 := N.got
        clear N
        refine Ord.take R (k := 9) (v := .tuple #[.agg #[.slice A5 m3 c5, .bool wr], .int .i64 (pl : Int), .int .i64 ((0 : Nat) : Int)]) (bs' := (Ord.upto 10 17)) rfl (by kernel_rfl) hQ trivial trivial (fun w _ hS => Chain.ev_move f85.ev) (F.lt (by decide)) fun a9 N => ?_
        replace F := F.next N (by simp)
        clear f85
        have f76 := N.got
        clear N
        refine Ord.take R (k := 10) (v := .agg #[.slice A5 m3 c5, .bool wr]) (bs' := (Ord.upto 11 17)) rfl (by kernel_rfl) hQ trivial trivial (fun w _ hS => by have e76 := f76; unfold Chain.At at e76; clear F; go_simp) (F.lt (by decide)) fun a10 N => ?_
        replace F := F.next N (by simp)
        replace f76 := N.keep 76 _ (by decide) f76
        have f86 := N.got
        clear N
        refine Ord.take R (k := 11) (v := .int .i64 (pl : Int)) (bs' := (Ord.upto 12 17)) rfl (by kernel_rfl) hQ trivial trivial (fun w _ hS => by have e76 := f76; unfold Chain.At at e76; clear F; go_simp) (F.lt (by decide)) fun a11 N => ?_
        replace F := F.next N (by simp)
        replace f76 := N.keep 76 _ (by decide) f76
        replace f86 := N.keep 86 _ (by decide) f86
        have f87 := N.got
        clear N
        refine Ord.take R (k := 12) (v := .int .i64 ((0 : Nat) : Int)) (bs' := (Ord.upto 13 17)) rfl (by kernel_rfl) hQ trivial trivial (fun w _ hS => by have e76 := f76; unfold Chain.At at e76; clear F; go_simp) (F.lt (by decide)) fun a12 N => ?_
        replace F := F.next N (by simp)
        clear f76
        replace f86 := N.keep 86 _ (by decide) f86
        replace f87 := N.keep 87 _ (by decide) f87
        have f88 := N.got
        clear N
        refine Ord.step_next R (k := 13) (bs' := (Ord.upto 14 17)) (by kernel_rfl) (Ord.step_value R (k := 13) (v := .pointer (some ⟨w.heap.size, 0, none⟩)) (w1 := w.alloc (.cells #[.slice none 0 0, .bool false] 31)) rfl trivial trivial (fun _ => by clear F; go_simp) (F.lt (by decide)) fun a13 N => ?_)
        obtain ⟨g14, hg14⟩ : ∃ g, w.heap.size = g := ⟨_, rfl⟩
        rw [hg14] at N
        have hge : w0.heap.size ≤ g14 := by rw [← hg14]; exact Bel.size
        have RA : RowAt (w.alloc (.cells #[.slice none 0 0, .bool false] 31)) g14 (.slice none 0 0) false := by rw [← hg14]; exact heap_alloc_new _ _
        replace V5 := HasC.keep (w' := w.alloc (.cells #[.slice none 0 0, .bool false] 31)) V5 (fun j e => Below.heap_alloc _ _ _ (HasC.lt V5 j e).2)
        replace Bel := Bel.alloc Bel.size (.cells #[.slice none 0 0, .bool false] 31)
        generalize w.alloc (.cells #[.slice none 0 0, .bool false] 31) = wa at Bel RA V5 ⊢
        clear hg14
        replace F := F.next N (by simp)
        replace f86 := N.keep 86 _ (by decide) f86
        replace f87 := N.keep 87 _ (by decide) f87
        replace f88 := N.keep 88 _ (by decide) f88
        have f14 := N.got
        clear N
        refine Ord.effect R (k := 14) (bs' := (Ord.upto 15 17)) (w1 := (wa.setCell ⟨g14, 0, none⟩ (.slice A5 m3 c5)).setCell ⟨g14, 1, none⟩ (.bool wr)) rfl (by kernel_rfl) trivial trivial (fun _ => by have e0 := f14; have e1 := f86; unfold Chain.At at e0 e1; have q0 : wa.cell? ⟨g14, 0, none⟩ = _ := RA.get 0; have q1 : wa.cell? ⟨g14, 1, none⟩ = _ := RA.get 1; have q2 := RA.free 0; have q3 := RA.free 1; clear F; go_simp) ?_
        have RN := RowAt.put2 RA (.slice A5 m3 c5) wr
        have hne : ∀ j, (Value.slice A5 m3 c5).ownBlock = some j → j ≠ g14 := fun j e e2 => by
          subst e2
          exact (own_typed12 V5 j e).apart ⟨_, _, RA⟩ (by decide) rfl
        have V6 := HasC.keep (w' := (wa.setCell ⟨g14, 0, none⟩ (.slice A5 m3 c5)).setCell ⟨g14, 1, none⟩ (.bool wr)) V5 (fun j e => by rw [Below.heap_setCell _ _ _ _ (by exact hne j e), Below.heap_setCell _ _ _ _ (by exact hne j e)])
        have BN : Below w0.heap.size w0 ((wa.setCell ⟨g14, 0, none⟩ (.slice A5 m3 c5)).setCell ⟨g14, 1, none⟩ (.bool wr)) := (Bel.setCell (p := ⟨g14, 0, none⟩) hge _).setCell (p := ⟨g14, 1, none⟩) hge _
        generalize (wa.setCell ⟨g14, 0, none⟩ (.slice A5 m3 c5)).setCell ⟨g14, 1, none⟩ (.bool wr) = wz at RN V6 BN ⊢
        refine Ord.take R (k := 15) (v := .int .i64 (pl : Int)) (bs' := (Ord.upto 16 17)) rfl (by kernel_rfl) hQ trivial trivial (fun w _ hS => Chain.ev_assign f87.ev) (F.lt (by decide)) fun a15 N => ?_
        replace F := F.next N (by simp)
        replace f14 := N.keep 14 _ (by decide) f14
        clear f86
        clear f87
        replace f88 := N.keep 88 _ (by decide) f88
        have f15 := N.got
        clear N
        refine Ord.take R (k := 16) (v := .int .i64 ((0 : Nat) : Int)) (bs' := (Ord.upto 17 17)) rfl (by kernel_rfl) hQ trivial trivial (fun w _ hS => Chain.ev_assign f88.ev) (F.lt (by decide)) fun a16 N => ?_
        replace F := F.next N (by simp)
        replace f14 := N.keep 14 _ (by decide) f14
        replace f15 := N.keep 15 _ (by decide) f15
        clear f88
        have f16 := N.got
        clear N
        refine Ord.finish R (by kernel_rfl) ?_
        exact h _ _ _ _ _ F f14 f15 f16 RN V6 BN
      · skip
        refine Ord.step_value R (k := 13) (v := .pointer (some ⟨w.heap.size, 0, none⟩)) (w1 := w.alloc (.cells #[.slice none 0 0, .bool false] 31)) rfl trivial trivial (fun _ => by clear F; go_simp) (F.lt (by decide)) fun a13 N => ?_
        obtain ⟨g14, hg14⟩ : ∃ g, w.heap.size = g := ⟨_, rfl⟩
        rw [hg14] at N
        have hge : w0.heap.size ≤ g14 := by rw [← hg14]; exact Bel.size
        have RA : RowAt (w.alloc (.cells #[.slice none 0 0, .bool false] 31)) g14 (.slice none 0 0) false := by rw [← hg14]; exact heap_alloc_new _ _
        replace H2 := own_keep12 (w' := w.alloc (.cells #[.slice none 0 0, .bool false] 31)) H2 (fun j e => Below.heap_alloc _ _ _ (World.ownsRow.lt H2 j e).2)
        replace Bel := Bel.alloc Bel.size (.cells #[.slice none 0 0, .bool false] 31)
        generalize w.alloc (.cells #[.slice none 0 0, .bool false] 31) = wa at Bel RA H2 ⊢
        clear hg14
        replace F := F.next N (by simp)
        replace f84 := N.keep 84 _ (by decide) f84
        have f14 := N.got
        clear N
        refine Ord.step_next R (k := 8) (bs' := [true, true, true, true, true, true, true, true, true, false, false, false, false, true, false, false, false]) (by kernel_rfl) (Ord.step_call R (k := 8) (args := #[.slice A2 (pl + m) c2]) rfl trivial (by simp [f84.ev]) (by kernel_rfl) (get_walk A2 (pl + m) c2 (pb ++ mb) _ (hsp.below Bel hspz) (by rw [List.map_append]; exact Sq.own H2) hcap fit5 hbb) (F.lt (by decide)) ?_)
        rintro e w ⟨v5, rfl, hv5, b5⟩
        rw [HG] at hv5 ⊢
        simp only at hv5 ⊢
        obtain ⟨A5, c5, rfl, _⟩ := HasC.shape hv5
        rw [hm3] at hv5 ⊢
        have V5 := HasC.mono hv5 (Nat.zero_le _)
        replace RA := (show RowAt w g14 (.slice none 0 0) false from (b5.block g14 RA.lt).trans RA)
        replace Bel := Bel.trans (b5.mono Bel.size)
        clear hv5 b5 H2
        refine ⟨_, rfl, trivial, fun a8 N => ?_⟩
        replace F := F.next N (by simp)
        replace f14 := N.keep 14 _ (by decide) f14
        clear f84
        have f85 := N.got
        clear N
        refine Ord.take R (k := 9) (v := .tuple #[.agg #[.slice A5 m3 c5, .bool wr], .int .i64 (pl : Int), .int .i64 ((0 : Nat) : Int)]) (bs' := [true, true, true, true, true, true, true, true, true, true, false, false, false, true, false, false, false]) rfl (by kernel_rfl) hQ trivial trivial (fun w _ hS => Chain.ev_move f85.ev) (F.lt (by decide)) fun a9 N => ?_
        replace F := F.next N (by simp)
        replace f14 := N.keep 14 _ (by decide) f14
        clear f85
        have f76 := N.got
        clear N
        refine Ord.take R (k := 10) (v := .agg #[.slice A5 m3 c5, .bool wr]) (bs' := [true, true, true, true, true, true, true, true, true, true, true, false, false, true, false, false, false]) rfl (by kernel_rfl) hQ trivial trivial (fun w _ hS => by have e76 := f76; unfold Chain.At at e76; clear F; go_simp) (F.lt (by decide)) fun a10 N => ?_
        replace F := F.next N (by simp)
        replace f14 := N.keep 14 _ (by decide) f14
        replace f76 := N.keep 76 _ (by decide) f76
        have f86 := N.got
        clear N
        refine Ord.take R (k := 11) (v := .int .i64 (pl : Int)) (bs' := [true, true, true, true, true, true, true, true, true, true, true, true, false, true, false, false, false]) rfl (by kernel_rfl) hQ trivial trivial (fun w _ hS => by have e76 := f76; unfold Chain.At at e76; clear F; go_simp) (F.lt (by decide)) fun a11 N => ?_
        replace F := F.next N (by simp)
        replace f14 := N.keep 14 _ (by decide) f14
        replace f76 := N.keep 76 _ (by decide) f76
        replace f86 := N.keep 86 _ (by decide) f86
        have f87 := N.got
        clear N
        refine Ord.take R (k := 12) (v := .int .i64 ((0 : Nat) : Int)) (bs' := (Ord.upto 14 17)) rfl (by kernel_rfl) hQ trivial trivial (fun w _ hS => by have e76 := f76; unfold Chain.At at e76; clear F; go_simp) (F.lt (by decide)) fun a12 N => ?_
        replace F := F.next N (by simp)
        replace f14 := N.keep 14 _ (by decide) f14
        clear f76
        replace f86 := N.keep 86 _ (by decide) f86
        replace f87 := N.keep 87 _ (by decide) f87
        have f88 := N.got
        clear N
        refine Ord.effect R (k := 14) (bs' := (Ord.upto 15 17)) (w1 := (w.setCell ⟨g14, 0, none⟩ (.slice A5 m3 c5)).setCell ⟨g14, 1, none⟩ (.bool wr)) rfl (by kernel_rfl) trivial trivial (fun _ => by have e0 := f14; have e1 := f86; unfold Chain.At at e0 e1; have q0 : w.cell? ⟨g14, 0, none⟩ = _ := RA.get 0; have q1 : w.cell? ⟨g14, 1, none⟩ = _ := RA.get 1; have q2 := RA.free 0; have q3 := RA.free 1; clear F; go_simp) ?_
        have RN := RowAt.put2 RA (.slice A5 m3 c5) wr
        have hne : ∀ j, (Value.slice A5 m3 c5).ownBlock = some j → j ≠ g14 := fun j e e2 => by
          subst e2
          exact (own_typed12 V5 j e).apart ⟨_, _, RA⟩ (by decide) rfl
        have V6 := HasC.keep (w' := (w.setCell ⟨g14, 0, none⟩ (.slice A5 m3 c5)).setCell ⟨g14, 1, none⟩ (.bool wr)) V5 (fun j e => by rw [Below.heap_setCell _ _ _ _ (by exact hne j e), Below.heap_setCell _ _ _ _ (by exact hne j e)])
        have BN : Below w0.heap.size w0 ((w.setCell ⟨g14, 0, none⟩ (.slice A5 m3 c5)).setCell ⟨g14, 1, none⟩ (.bool wr)) := (Bel.setCell (p := ⟨g14, 0, none⟩) hge _).setCell (p := ⟨g14, 1, none⟩) hge _
        generalize (w.setCell ⟨g14, 0, none⟩ (.slice A5 m3 c5)).setCell ⟨g14, 1, none⟩ (.bool wr) = wz at RN V6 BN ⊢
        refine Ord.take R (k := 15) (v := .int .i64 (pl : Int)) (bs' := (Ord.upto 16 17)) rfl (by kernel_rfl) hQ trivial trivial (fun w _ hS => Chain.ev_assign f87.ev) (F.lt (by decide)) fun a15 N => ?_
        replace F := F.next N (by simp)
        replace f14 := N.keep 14 _ (by decide) f14
        clear f86
        clear f87
        replace f88 := N.keep 88 _ (by decide) f88
        have f15 := N.got
        clear N
        refine Ord.take R (k := 16) (v := .int .i64 ((0 : Nat) : Int)) (bs' := (Ord.upto 17 17)) rfl (by kernel_rfl) hQ trivial trivial (fun w _ hS => Chain.ev_assign f88.ev) (F.lt (by decide)) fun a16 N => ?_
        replace F := F.next N (by simp)
        replace f14 := N.keep 14 _ (by decide) f14
        replace f15 := N.keep 15 _ (by decide) f15
        clear f88
        have f16 := N.got
        clear N
        refine Ord.finish R (by kernel_rfl) ?_
        exact h _ _ _ _ _ F f14 f15 f16 RN V6 BN
    · skip
      refine Ord.step_value R (k := 13) (v := .pointer (some ⟨w.heap.size, 0, none⟩)) (w1 := w.alloc (.cells #[.slice none 0 0, .bool false] 31)) rfl trivial trivial (fun _ => by clear F; go_simp) (F.lt (by decide)) fun a13 N => ?_
      obtain ⟨g14, hg14⟩ : ∃ g, w.heap.size = g := ⟨_, rfl⟩
      rw [hg14] at N
      have hge : w0.heap.size ≤ g14 := by rw [← hg14]; exact Bel.size
      have RA : RowAt (w.alloc (.cells #[.slice none 0 0, .bool false] 31)) g14 (.slice none 0 0) false := by rw [← hg14]; exact heap_alloc_new _ _
      replace H1 := own_keep12 (w' := w.alloc (.cells #[.slice none 0 0, .bool false] 31)) H1 (fun j e => Below.heap_alloc _ _ _ (World.ownsRow.lt H1 j e).2)
      replace Bel := Bel.alloc Bel.size (.cells #[.slice none 0 0, .bool false] 31)
      generalize w.alloc (.cells #[.slice none 0 0, .bool false] 31) = wa at Bel RA H1 ⊢
      clear hg14
      replace F := F.next N (by simp)
      replace f78 := N.keep 78 _ (by decide) f78
      replace f83 := N.keep 83 _ (by decide) f83
      have f14 := N.got
      clear N
      refine Ord.step_next R (k := 7) (bs' := [true, true, true, true, true, true, true, true, false, false, false, false, false, true, false, false, false]) (by kernel_rfl) (Ord.step_append R (k := 7) (.tmp 78) (.tmp 83) 23 rfl trivial (F.lt (by decide)) w0.heap.size 5 i0 (.int .u8 0) 1 1 Tryd.underlying23 hi hz0 hz1 hz2 rfl (by decide) (.slice A1 pl c1) pl (pb.map (Value.int .u8)) f78.ev H1 A m c (mb.map (Value.int .u8)) f83.ev w0.heap.size (MQ.below Bel) (byte_all mb) fit3 fit4 Bel.size ?_)
      intro A2 c2 w H2 hg
      replace RA := (show RowAt w g14 (.slice none 0 0) false from (hg.block g14 RA.lt (fun e => (own_typed12 H1 _ e.symm).apart ⟨_, _, RA⟩ (by decide) rfl)).trans RA)
      replace Bel := Bel.trans ((Turned.ofGrown hg).toBelow Bel.size (fun j hj m => by have := (World.ownsRow.lt H1 j m).1; omega))
      have hcap := own_cap12 H2
      clear hg H1
      refine ⟨trivial, fun a7 N => ?_⟩
      replace F := F.next N (by simp)
      replace f14 := N.keep 14 _ (by decide) f14
      clear f78
      clear f83
      have f84 := N.got
      clear N
      refine Ord.step_next R (k := 8) (bs' := [true, true, true, true, true, true, true, true, true, false, false, false, false, true, false, false, false]) (by kernel_rfl) (Ord.step_call R (k := 8) (args := #[.slice A2 (pl + m) c2]) rfl trivial (by simp [f84.ev]) (by kernel_rfl) (get_walk A2 (pl + m) c2 (pb ++ mb) _ (hsp.below Bel hspz) (by rw [List.map_append]; exact Sq.own H2) hcap fit5 hbb) (F.lt (by decide)) ?_)
      rintro e w ⟨v5, rfl, hv5, b5⟩
      rw [HG] at hv5 ⊢
      simp only at hv5 ⊢
      obtain ⟨A5, c5, rfl, _⟩ := HasC.shape hv5
      rw [hm3] at hv5 ⊢
      have V5 := HasC.mono hv5 (Nat.zero_le _)
      replace RA := (show RowAt w g14 (.slice none 0 0) false from (b5.block g14 RA.lt).trans RA)
      replace Bel := Bel.trans (b5.mono Bel.size)
      clear hv5 b5 H2
      refine ⟨_, rfl, trivial, fun a8 N => ?_⟩
      replace F := F.next N (by simp)
      replace f14 := N.keep 14 _ (by decide) f14
      clear f84
      have f85 := N.got
      clear N
      refine Ord.take R (k := 9) (v := .tuple #[.agg #[.slice A5 m3 c5, .bool wr], .int .i64 (pl : Int), .int .i64 ((0 : Nat) : Int)]) (bs' := [true, true, true, true, true, true, true, true, true, true, false, false, false, true, false, false, false]) rfl (by kernel_rfl) hQ trivial trivial (fun w _ hS => Chain.ev_move f85.ev) (F.lt (by decide)) fun a9 N => ?_
      replace F := F.next N (by simp)
      replace f14 := N.keep 14 _ (by decide) f14
      clear f85
      have f76 := N.got
      clear N
      refine Ord.take R (k := 10) (v := .agg #[.slice A5 m3 c5, .bool wr]) (bs' := [true, true, true, true, true, true, true, true, true, true, true, false, false, true, false, false, false]) rfl (by kernel_rfl) hQ trivial trivial (fun w _ hS => by have e76 := f76; unfold Chain.At at e76; clear F; go_simp) (F.lt (by decide)) fun a10 N => ?_
      replace F := F.next N (by simp)
      replace f14 := N.keep 14 _ (by decide) f14
      replace f76 := N.keep 76 _ (by decide) f76
      have f86 := N.got
      clear N
      refine Ord.take R (k := 11) (v := .int .i64 (pl : Int)) (bs' := [true, true, true, true, true, true, true, true, true, true, true, true, false, true, false, false, false]) rfl (by kernel_rfl) hQ trivial trivial (fun w _ hS => by have e76 := f76; unfold Chain.At at e76; clear F; go_simp) (F.lt (by decide)) fun a11 N => ?_
      replace F := F.next N (by simp)
      replace f14 := N.keep 14 _ (by decide) f14
      replace f76 := N.keep 76 _ (by decide) f76
      replace f86 := N.keep 86 _ (by decide) f86
      have f87 := N.got
      clear N
      refine Ord.take R (k := 12) (v := .int .i64 ((0 : Nat) : Int)) (bs' := (Ord.upto 14 17)) rfl (by kernel_rfl) hQ trivial trivial (fun w _ hS => by have e76 := f76; unfold Chain.At at e76; clear F; go_simp) (F.lt (by decide)) fun a12 N => ?_
      replace F := F.next N (by simp)
      replace f14 := N.keep 14 _ (by decide) f14
      clear f76
      replace f86 := N.keep 86 _ (by decide) f86
      replace f87 := N.keep 87 _ (by decide) f87
      have f88 := N.got
      clear N
      refine Ord.effect R (k := 14) (bs' := (Ord.upto 15 17)) (w1 := (w.setCell ⟨g14, 0, none⟩ (.slice A5 m3 c5)).setCell ⟨g14, 1, none⟩ (.bool wr)) rfl (by kernel_rfl) trivial trivial (fun _ => by have e0 := f14; have e1 := f86; unfold Chain.At at e0 e1; have q0 : w.cell? ⟨g14, 0, none⟩ = _ := RA.get 0; have q1 : w.cell? ⟨g14, 1, none⟩ = _ := RA.get 1; have q2 := RA.free 0; have q3 := RA.free 1; clear F; go_simp) ?_
      have RN := RowAt.put2 RA (.slice A5 m3 c5) wr
      have hne : ∀ j, (Value.slice A5 m3 c5).ownBlock = some j → j ≠ g14 := fun j e e2 => by
        subst e2
        exact (own_typed12 V5 j e).apart ⟨_, _, RA⟩ (by decide) rfl
      have V6 := HasC.keep (w' := (w.setCell ⟨g14, 0, none⟩ (.slice A5 m3 c5)).setCell ⟨g14, 1, none⟩ (.bool wr)) V5 (fun j e => by rw [Below.heap_setCell _ _ _ _ (by exact hne j e), Below.heap_setCell _ _ _ _ (by exact hne j e)])
      have BN : Below w0.heap.size w0 ((w.setCell ⟨g14, 0, none⟩ (.slice A5 m3 c5)).setCell ⟨g14, 1, none⟩ (.bool wr)) := (Bel.setCell (p := ⟨g14, 0, none⟩) hge _).setCell (p := ⟨g14, 1, none⟩) hge _
      generalize (w.setCell ⟨g14, 0, none⟩ (.slice A5 m3 c5)).setCell ⟨g14, 1, none⟩ (.bool wr) = wz at RN V6 BN ⊢
      refine Ord.take R (k := 15) (v := .int .i64 (pl : Int)) (bs' := (Ord.upto 16 17)) rfl (by kernel_rfl) hQ trivial trivial (fun w _ hS => Chain.ev_assign f87.ev) (F.lt (by decide)) fun a15 N => ?_
      replace F := F.next N (by simp)
      replace f14 := N.keep 14 _ (by decide) f14
      clear f86
      clear f87
      replace f88 := N.keep 88 _ (by decide) f88
      have f15 := N.got
      clear N
      refine Ord.take R (k := 16) (v := .int .i64 ((0 : Nat) : Int)) (bs' := (Ord.upto 17 17)) rfl (by kernel_rfl) hQ trivial trivial (fun w _ hS => Chain.ev_assign f88.ev) (F.lt (by decide)) fun a16 N => ?_
      replace F := F.next N (by simp)
      replace f14 := N.keep 14 _ (by decide) f14
      replace f15 := N.keep 15 _ (by decide) f15
      clear f88
      have f16 := N.got
      clear N
      refine Ord.finish R (by kernel_rfl) ?_
      exact h _ _ _ _ _ F f14 f15 f16 RN V6 BN
  · skip
    refine Ord.step_value R (k := 13) (v := .pointer (some ⟨w0.heap.size, 0, none⟩)) (w1 := w0.alloc (.cells #[.slice none 0 0, .bool false] 31)) rfl trivial trivial (fun _ => by clear F; go_simp) (F.lt (by decide)) fun a13 N => ?_
    obtain ⟨g14, hg14⟩ : ∃ g, w0.heap.size = g := ⟨_, rfl⟩
    rw [hg14] at N
    have hge : w0.heap.size ≤ g14 := by rw [← hg14]; exact Bel.size
    have RA : RowAt (w0.alloc (.cells #[.slice none 0 0, .bool false] 31)) g14 (.slice none 0 0) false := by rw [← hg14]; exact heap_alloc_new _ _
    replace Bel := Bel.alloc Bel.size (.cells #[.slice none 0 0, .bool false] 31)
    generalize w0.alloc (.cells #[.slice none 0 0, .bool false] 31) = wa at Bel RA ⊢
    clear hg14
    replace F := F.next N (by simp)
    replace f77 := N.keep 77 _ (by decide) f77
    replace f83 := N.keep 83 _ (by decide) f83
    have f14 := N.got
    clear N
    refine Ord.step_next R (k := 1) (bs' := [true, true, true, true, true, true, true, false, false, false, false, false, false, true, false, false, false]) (by kernel_rfl) (Ord.step_append R (k := 1) (.const (.slice none 0 0)) (.tmp 77) 23 rfl trivial (F.lt (by decide)) w0.heap.size 5 i0 (.int .u8 0) 1 1 Tryd.underlying23 hi hz0 hz1 hz2 rfl (by decide) (.slice none 0 0) 0 [] rfl (World.ownsRow_nil _ _ _ _) A8 pl c8 (pb.map (Value.int .u8)) f77.ev w0.heap.size (PQ.below Bel) (byte_all pb) fit1 fit2 Bel.size ?_)
    intro A1 c1 w H1 hg
    rw [Nat.zero_add, List.nil_append] at H1
    rw [Nat.zero_add]
    replace RA := (show RowAt w g14 (.slice none 0 0) false from (hg.block g14 RA.lt (by simp [Value.ownBlock])).trans RA)
    replace Bel := Bel.trans ((Turned.ofGrown hg).toBelow Bel.size (fun j hj m => by cases m))
    clear hg
    refine ⟨trivial, fun a1 N => ?_⟩
    replace F := F.next N (by simp)
    replace f14 := N.keep 14 _ (by decide) f14
    clear f77
    replace f83 := N.keep 83 _ (by decide) f83
    have f78 := N.got
    clear N
    refine Ord.step_next R (k := 7) (bs' := [true, true, true, true, true, true, true, true, false, false, false, false, false, true, false, false, false]) (by kernel_rfl) (Ord.step_append R (k := 7) (.tmp 78) (.tmp 83) 23 rfl trivial (F.lt (by decide)) w0.heap.size 5 i0 (.int .u8 0) 1 1 Tryd.underlying23 hi hz0 hz1 hz2 rfl (by decide) (.slice A1 pl c1) pl (pb.map (Value.int .u8)) f78.ev H1 A m c (mb.map (Value.int .u8)) f83.ev w0.heap.size (MQ.below Bel) (byte_all mb) fit3 fit4 Bel.size ?_)
    intro A2 c2 w H2 hg
    replace RA := (show RowAt w g14 (.slice none 0 0) false from (hg.block g14 RA.lt (fun e => (own_typed12 H1 _ e.symm).apart ⟨_, _, RA⟩ (by decide) rfl)).trans RA)
    replace Bel := Bel.trans ((Turned.ofGrown hg).toBelow Bel.size (fun j hj m => by have := (World.ownsRow.lt H1 j m).1; omega))
    have hcap := own_cap12 H2
    clear hg H1
    refine ⟨trivial, fun a7 N => ?_⟩
    replace F := F.next N (by simp)
    replace f14 := N.keep 14 _ (by decide) f14
    clear f78
    clear f83
    have f84 := N.got
    clear N
    refine Ord.step_next R (k := 8) (bs' := [true, true, true, true, true, true, true, true, true, false, false, false, false, true, false, false, false]) (by kernel_rfl) (Ord.step_call R (k := 8) (args := #[.slice A2 (pl + m) c2]) rfl trivial (by simp [f84.ev]) (by kernel_rfl) (get_walk A2 (pl + m) c2 (pb ++ mb) _ (hsp.below Bel hspz) (by rw [List.map_append]; exact Sq.own H2) hcap fit5 hbb) (F.lt (by decide)) ?_)
    rintro e w ⟨v5, rfl, hv5, b5⟩
    rw [HG] at hv5 ⊢
    simp only at hv5 ⊢
    obtain ⟨A5, c5, rfl, _⟩ := HasC.shape hv5
    rw [hm3] at hv5 ⊢
    have V5 := HasC.mono hv5 (Nat.zero_le _)
    replace RA := (show RowAt w g14 (.slice none 0 0) false from (b5.block g14 RA.lt).trans RA)
    replace Bel := Bel.trans (b5.mono Bel.size)
    clear hv5 b5 H2
    refine ⟨_, rfl, trivial, fun a8 N => ?_⟩
    replace F := F.next N (by simp)
    replace f14 := N.keep 14 _ (by decide) f14
    clear f84
    have f85 := N.got
    clear N
    refine Ord.take R (k := 9) (v := .tuple #[.agg #[.slice A5 m3 c5, .bool wr], .int .i64 (pl : Int), .int .i64 ((0 : Nat) : Int)]) (bs' := [true, true, true, true, true, true, true, true, true, true, false, false, false, true, false, false, false]) rfl (by kernel_rfl) hQ trivial trivial (fun w _ hS => Chain.ev_move f85.ev) (F.lt (by decide)) fun a9 N => ?_
    replace F := F.next N (by simp)
    replace f14 := N.keep 14 _ (by decide) f14
    clear f85
    have f76 := N.got
    clear N
    refine Ord.take R (k := 10) (v := .agg #[.slice A5 m3 c5, .bool wr]) (bs' := [true, true, true, true, true, true, true, true, true, true, true, false, false, true, false, false, false]) rfl (by kernel_rfl) hQ trivial trivial (fun w _ hS => by have e76 := f76; unfold Chain.At at e76; clear F; go_simp) (F.lt (by decide)) fun a10 N => ?_
    replace F := F.next N (by simp)
    replace f14 := N.keep 14 _ (by decide) f14
    replace f76 := N.keep 76 _ (by decide) f76
    have f86 := N.got
    clear N
    refine Ord.take R (k := 11) (v := .int .i64 (pl : Int)) (bs' := [true, true, true, true, true, true, true, true, true, true, true, true, false, true, false, false, false]) rfl (by kernel_rfl) hQ trivial trivial (fun w _ hS => by have e76 := f76; unfold Chain.At at e76; clear F; go_simp) (F.lt (by decide)) fun a11 N => ?_
    replace F := F.next N (by simp)
    replace f14 := N.keep 14 _ (by decide) f14
    replace f76 := N.keep 76 _ (by decide) f76
    replace f86 := N.keep 86 _ (by decide) f86
    have f87 := N.got
    clear N
    refine Ord.take R (k := 12) (v := .int .i64 ((0 : Nat) : Int)) (bs' := (Ord.upto 14 17)) rfl (by kernel_rfl) hQ trivial trivial (fun w _ hS => by have e76 := f76; unfold Chain.At at e76; clear F; go_simp) (F.lt (by decide)) fun a12 N => ?_
    replace F := F.next N (by simp)
    replace f14 := N.keep 14 _ (by decide) f14
    clear f76
    replace f86 := N.keep 86 _ (by decide) f86
    replace f87 := N.keep 87 _ (by decide) f87
    have f88 := N.got
    clear N
    refine Ord.effect R (k := 14) (bs' := (Ord.upto 15 17)) (w1 := (w.setCell ⟨g14, 0, none⟩ (.slice A5 m3 c5)).setCell ⟨g14, 1, none⟩ (.bool wr)) rfl (by kernel_rfl) trivial trivial (fun _ => by have e0 := f14; have e1 := f86; unfold Chain.At at e0 e1; have q0 : w.cell? ⟨g14, 0, none⟩ = _ := RA.get 0; have q1 : w.cell? ⟨g14, 1, none⟩ = _ := RA.get 1; have q2 := RA.free 0; have q3 := RA.free 1; clear F; go_simp) ?_
    have RN := RowAt.put2 RA (.slice A5 m3 c5) wr
    have hne : ∀ j, (Value.slice A5 m3 c5).ownBlock = some j → j ≠ g14 := fun j e e2 => by
      subst e2
      exact (own_typed12 V5 j e).apart ⟨_, _, RA⟩ (by decide) rfl
    have V6 := HasC.keep (w' := (w.setCell ⟨g14, 0, none⟩ (.slice A5 m3 c5)).setCell ⟨g14, 1, none⟩ (.bool wr)) V5 (fun j e => by rw [Below.heap_setCell _ _ _ _ (by exact hne j e), Below.heap_setCell _ _ _ _ (by exact hne j e)])
    have BN : Below w0.heap.size w0 ((w.setCell ⟨g14, 0, none⟩ (.slice A5 m3 c5)).setCell ⟨g14, 1, none⟩ (.bool wr)) := (Bel.setCell (p := ⟨g14, 0, none⟩) hge _).setCell (p := ⟨g14, 1, none⟩) hge _
    generalize (w.setCell ⟨g14, 0, none⟩ (.slice A5 m3 c5)).setCell ⟨g14, 1, none⟩ (.bool wr) = wz at RN V6 BN ⊢
    refine Ord.take R (k := 15) (v := .int .i64 (pl : Int)) (bs' := (Ord.upto 16 17)) rfl (by kernel_rfl) hQ trivial trivial (fun w _ hS => Chain.ev_assign f87.ev) (F.lt (by decide)) fun a15 N => ?_
    replace F := F.next N (by simp)
    replace f14 := N.keep 14 _ (by decide) f14
    clear f86
    clear f87
    replace f88 := N.keep 88 _ (by decide) f88
    have f15 := N.got
    clear N
    refine Ord.take R (k := 16) (v := .int .i64 ((0 : Nat) : Int)) (bs' := (Ord.upto 17 17)) rfl (by kernel_rfl) hQ trivial trivial (fun w _ hS => Chain.ev_assign f88.ev) (F.lt (by decide)) fun a16 N => ?_
    replace F := F.next N (by simp)
    replace f14 := N.keep 14 _ (by decide) f14
    replace f15 := N.keep 15 _ (by decide) f15
    clear f88
    have f16 := N.got
    clear N
    refine Ord.finish R (by kernel_rfl) ?_
    exact h _ _ _ _ _ F f14 f15 f16 RN V6 BN

set_option maxRecDepth 100000 in
/-- The frame written out, its known slots in their places. -/
theorem all12_frame {a : Act} {w : World} {K : Act → World → Prop} {v2 v3 v4 v8 v10 v11 v14 v15 v16 : Value} (hz : a.tmps.size = 117) (hd : a.defers = []) (f2 : Chain.At a 2 v2) (f3 : Chain.At a 3 v3) (f4 : Chain.At a 4 v4) (f8 : Chain.At a 8 v8) (f10 : Chain.At a 10 v10) (f11 : Chain.At a 11 v11) (f14 : Chain.At a 14 v14) (f15 : Chain.At a 15 v15) (f16 : Chain.At a 16 v16)
    (h : ∀ u0 u1 u5 u6 u7 u9 u12 u13 u17 u18 u19 u20 u21 u22 u23 u24 u25 u26 u27 u28 u29 u30 u31 u32 u33 u34 u35 u36 u37 u38 u39 u40 u41 u42 u43 u44 u45 u46 u47 u48 u49 u50 u51 u52 u53 u54 u55 u56 u57 u58 u59 u60 u61 u62 u63 u64 u65 u66 u67 u68 u69 u70 u71 u72 u73 u74 u75 u76 u77 u78 u79 u80 u81 u82 u83 u84 u85 u86 u87 u88 u89 u90 u91 u92 u93 u94 u95 u96 u97 u98 u99 u100 u101 u102 u103 u104 u105 u106 u107 u108 u109 u110 u111 u112 u113 u114 u115 u116 : Value, K ⟨#[u0, u1, v2, v3, v4, u5, u6, u7, v8, u9, v10, v11, u12, u13, v14, v15, v16, u17, u18, u19, u20, u21, u22, u23, u24, u25, u26, u27, u28, u29, u30, u31, u32, u33, u34, u35, u36, u37, u38, u39, u40, u41, u42, u43, u44, u45, u46, u47, u48, u49, u50, u51, u52, u53, u54, u55, u56, u57, u58, u59, u60, u61, u62, u63, u64, u65, u66, u67, u68, u69, u70, u71, u72, u73, u74, u75, u76, u77, u78, u79, u80, u81, u82, u83, u84, u85, u86, u87, u88, u89, u90, u91, u92, u93, u94, u95, u96, u97, u98, u99, u100, u101, u102, u103, u104, u105, u106, u107, u108, u109, u110, u111, u112, u113, u114, u115, u116], []⟩ w) : K a w := by
  have e := Ord.frame_out hz hd
  have r : (List.range 117).map (fun i => a.tmps.toList.getD i undef) = [a.tmps.toList.getD 0 undef, a.tmps.toList.getD 1 undef, a.tmps.toList.getD 2 undef, a.tmps.toList.getD 3 undef, a.tmps.toList.getD 4 undef, a.tmps.toList.getD 5 undef, a.tmps.toList.getD 6 undef, a.tmps.toList.getD 7 undef, a.tmps.toList.getD 8 undef, a.tmps.toList.getD 9 undef, a.tmps.toList.getD 10 undef, a.tmps.toList.getD 11 undef, a.tmps.toList.getD 12 undef, a.tmps.toList.getD 13 undef, a.tmps.toList.getD 14 undef, a.tmps.toList.getD 15 undef, a.tmps.toList.getD 16 undef, a.tmps.toList.getD 17 undef, a.tmps.toList.getD 18 undef, a.tmps.toList.getD 19 undef, a.tmps.toList.getD 20 undef, a.tmps.toList.getD 21 undef, a.tmps.toList.getD 22 undef, a.tmps.toList.getD 23 undef, a.tmps.toList.getD 24 undef, a.tmps.toList.getD 25 undef, a.tmps.toList.getD 26 undef, a.tmps.toList.getD 27 undef, a.tmps.toList.getD 28 undef, a.tmps.toList.getD 29 undef, a.tmps.toList.getD 30 undef, a.tmps.toList.getD 31 undef, a.tmps.toList.getD 32 undef, a.tmps.toList.getD 33 undef, a.tmps.toList.getD 34 undef, a.tmps.toList.getD 35 undef, a.tmps.toList.getD 36 undef, a.tmps.toList.getD 37 undef, a.tmps.toList.getD 38 undef, a.tmps.toList.getD 39 undef, a.tmps.toList.getD 40 undef, a.tmps.toList.getD 41 undef, a.tmps.toList.getD 42 undef, a.tmps.toList.getD 43 undef, a.tmps.toList.getD 44 undef, a.tmps.toList.getD 45 undef, a.tmps.toList.getD 46 undef, a.tmps.toList.getD 47 undef, a.tmps.toList.getD 48 undef, a.tmps.toList.getD 49 undef, a.tmps.toList.getD 50 undef, a.tmps.toList.getD 51 undef, a.tmps.toList.getD 52 undef, a.tmps.toList.getD 53 undef, a.tmps.toList.getD 54 undef, a.tmps.toList.getD 55 undef, a.tmps.toList.getD 56 undef, a.tmps.toList.getD 57 undef, a.tmps.toList.getD 58 undef, a.tmps.toList.getD 59 undef, a.tmps.toList.getD 60 undef, a.tmps.toList.getD 61 undef, a.tmps.toList.getD 62 undef, a.tmps.toList.getD 63 undef, a.tmps.toList.getD 64 undef, a.tmps.toList.getD 65 undef, a.tmps.toList.getD 66 undef, a.tmps.toList.getD 67 undef, a.tmps.toList.getD 68 undef, a.tmps.toList.getD 69 undef, a.tmps.toList.getD 70 undef, a.tmps.toList.getD 71 undef, a.tmps.toList.getD 72 undef, a.tmps.toList.getD 73 undef, a.tmps.toList.getD 74 undef, a.tmps.toList.getD 75 undef, a.tmps.toList.getD 76 undef, a.tmps.toList.getD 77 undef, a.tmps.toList.getD 78 undef, a.tmps.toList.getD 79 undef, a.tmps.toList.getD 80 undef, a.tmps.toList.getD 81 undef, a.tmps.toList.getD 82 undef, a.tmps.toList.getD 83 undef, a.tmps.toList.getD 84 undef, a.tmps.toList.getD 85 undef, a.tmps.toList.getD 86 undef, a.tmps.toList.getD 87 undef, a.tmps.toList.getD 88 undef, a.tmps.toList.getD 89 undef, a.tmps.toList.getD 90 undef, a.tmps.toList.getD 91 undef, a.tmps.toList.getD 92 undef, a.tmps.toList.getD 93 undef, a.tmps.toList.getD 94 undef, a.tmps.toList.getD 95 undef, a.tmps.toList.getD 96 undef, a.tmps.toList.getD 97 undef, a.tmps.toList.getD 98 undef, a.tmps.toList.getD 99 undef, a.tmps.toList.getD 100 undef, a.tmps.toList.getD 101 undef, a.tmps.toList.getD 102 undef, a.tmps.toList.getD 103 undef, a.tmps.toList.getD 104 undef, a.tmps.toList.getD 105 undef, a.tmps.toList.getD 106 undef, a.tmps.toList.getD 107 undef, a.tmps.toList.getD 108 undef, a.tmps.toList.getD 109 undef, a.tmps.toList.getD 110 undef, a.tmps.toList.getD 111 undef, a.tmps.toList.getD 112 undef, a.tmps.toList.getD 113 undef, a.tmps.toList.getD 114 undef, a.tmps.toList.getD 115 undef, a.tmps.toList.getD 116 undef] := rfl
  rw [r, Ord.at_get f2, Ord.at_get f3, Ord.at_get f4, Ord.at_get f8, Ord.at_get f10, Ord.at_get f11, Ord.at_get f14, Ord.at_get f15, Ord.at_get f16] at e
  rw [e]
  exact h _ _ _ _ _ _ _ _ _ _ _ _ _ _ _ _ _ _ _ _ _ _ _ _ _ _ _ _ _ _ _ _ _ _ _ _ _ _ _ _ _ _ _ _ _ _ _ _ _ _ _ _ _ _ _ _ _ _ _ _ _ _ _ _ _ _ _ _ _ _ _ _ _ _ _ _ _ _ _ _ _ _ _ _ _ _ _ _ _ _ _ _ _ _ _ _ _ _ _ _ _ _ _ _ _ _ _ _

end Go.Proofs.YtikdlikdknfcfaaDoor
