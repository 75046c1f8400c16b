/-
  Layer 8 in plain words: rows that may be, by their places; cells put over others; that the reference's way comes to the same. The row of package row: its copy; Used, IsBlank, First. row.overwrite: cells put over those of a row that is the caller's own. row.overwrite. row.isOne: its last statement, step by step. row.isOne: are these the cells of one sign, a Blank or a Pad? slices.Repeat: one round, step by step. slices.Repeat of one Blank; row.blanks. row.Set. row.Blank, row.IsBlank.
-/
import Derived.Test.YtgmijnnhanpocaaGreatDoorQNBase0
import Derived.Test.YtgmijnnhanpocaaGreatDoorQNBase3
import Derived.Test.YtgmijnnhanpocaaGreatDoorQNBase1
import Derived.IntWalk
import Derived.Laws.CopyRow
import Derived.Deep.CutRange
import Derived.Laws.MakeOwn
import Derived.StillTailTactics
namespace Go.Proofs.YtgmijnnhanpocaaGreatDoor
namespace Rw
def cAt (l : List Cel) (i : Nat) : Cel := l.getD i (32, 1, 0)
def cPrev (l : List Cel) (i : Nat) : Cel := if i = 0 then (32, 1, 0) else cAt l (i - 1)
theorem cAt_some {l : List Cel} {i : Nat} {c : Cel} (h : l[i]? = some c) : cAt l i = c := by unfold cAt; rw [List.getD_eq_getElem?_getD, h]; rfl
theorem cAt_none {l : List Cel} {i : Nat} (h : l.length ≤ i) : cAt l i = (32, 1, 0) := by unfold cAt; rw [List.getD_eq_getElem?_getD, List.getElem?_eq_none h]; rfl
theorem cAt_get {l : List Cel} {i : Nat} (h : i < l.length) : l[i]? = some (cAt l i) := by
 rw [cAt_some (List.getElem?_eq_getElem h)]
 exact List.getElem?_eq_getElem h
theorem cAt_cons (c : Cel) (l : List Cel) (i : Nat) : cAt (c :: l) (i + 1) = cAt l i := rfl
theorem cAt_zero (c : Cel) (l : List Cel) : cAt (c :: l) 0 = c := rfl
structure Good (l : List Cel) : Prop where
 each : ∀ i, i < l.length → mayB (cAt l i) = true
 pair : ∀ i, ((cPrev l i).2.1 = 2 ↔ (cAt l i).2.1 = 0)
 like : ∀ i, (cAt l i).2.1 = 0 → (cAt l i).2.2 = (cPrev l i).2.2
theorem mayGo_iff (l : List Cel) : ∀ p : Cel, mayGo p l = true ↔ ∀ i, (i < l.length → mayB (cAt l i) = true) ∧ ((if i = 0 then p else cAt l (i - 1)).2.1 = 2 ↔ (cAt l i).2.1 = 0) ∧ ((cAt l i).2.1 = 0 → (cAt l i).2.2 = (if i = 0 then p else cAt l (i - 1)).2.2) := by
 induction l with
 | nil =>
  intro p
  constructor
  ·intro h i
   have hb : cAt [] i = (32, 1, 0) := cAt_none (Nat.zero_le _)
   simp only [mayGo, Bool.not_eq_true', beq_eq_false_iff_ne] at h
   refine ⟨fun h => absurd h (Nat.not_lt_zero _), ?_, ?_⟩
   ·rw [hb]
    by_cases hi : i = 0
    ·rw [if_pos hi]; simpa using h
    ·rw [if_neg hi, cAt_none (Nat.zero_le _)]; simp
   ·rw [hb]; intro h; cases h
  ·intro h
   have := (h 0).2.1
   rw [if_pos rfl, cAt_none (Nat.zero_le _)] at this
   simp only [mayGo, Bool.not_eq_true', beq_eq_false_iff_ne]
   intro e
   have := this.1 e
   cases this
 | cons c l ih =>
  intro p
  simp only [mayGo, Bool.and_eq_true]
  rw [ih c]
  have hpc : ((p.2.1 == 2) == (c.2.1 == 0)) = true ↔ (p.2.1 = 2 ↔ c.2.1 = 0) := by
   rw [beq_iff_eq (α := Bool), Bool.eq_iff_iff, beq_iff_eq, beq_iff_eq]
  have hlk : (!(c.2.1 == 0) || c.2.2 == p.2.2) = true ↔ (c.2.1 = 0 → c.2.2 = p.2.2) := by
   by_cases h1 : c.2.1 = 0 <;> simp [h1]
  rw [hpc, hlk]
  constructor
  ·rintro ⟨⟨⟨h1, h2⟩, h3⟩, h4⟩ i
   cases i with
   | zero =>
    rw [if_pos rfl, cAt_zero]
    exact ⟨fun _ => h1, h2, h3⟩
   | succ j =>
    have := h4 j
    rw [if_neg (by omega), cAt_cons, Nat.add_sub_cancel]
    refine ⟨fun hj => this.1 (by simpa using hj), ?_, ?_⟩
    ·cases j with
     | zero => rw [cAt_zero]; have := this.2.1; rwa [if_pos rfl] at this
     | succ j => rw [cAt_cons]; have := this.2.1; rwa [if_neg (by omega), Nat.add_sub_cancel] at this
    ·cases j with
     | zero => rw [cAt_zero]; have := this.2.2; rwa [if_pos rfl] at this
     | succ j => rw [cAt_cons]; have := this.2.2; rwa [if_neg (by omega), Nat.add_sub_cancel] at this
  ·intro h
   have h0 := h 0
   rw [if_pos rfl, cAt_zero] at h0
   refine ⟨⟨⟨h0.1 (by simp), h0.2.1⟩, h0.2.2⟩, fun j => ?_⟩
   have := h (j + 1)
   rw [if_neg (by omega), cAt_cons, Nat.add_sub_cancel] at this
   refine ⟨fun hj => this.1 (by simpa using hj), ?_, ?_⟩
   ·cases j with
    | zero => rw [if_pos rfl]; have := this.2.1; rwa [cAt_zero] at this
    | succ j => rw [if_neg (by omega), Nat.add_sub_cancel]; have := this.2.1; rwa [cAt_cons] at this
   ·cases j with
    | zero => rw [if_pos rfl]; have := this.2.2; rwa [cAt_zero] at this
    | succ j => rw [if_neg (by omega), Nat.add_sub_cancel]; have := this.2.2; rwa [cAt_cons] at this
theorem good_iff (l : List Cel) : mayGo (32, 1, 0) l = true ↔ Good l := by
 rw [mayGo_iff]
 constructor
 ·intro h
  exact ⟨fun i => (h i).1, fun i => (h i).2.1, fun i => (h i).2.2⟩
 ·intro h i
  exact ⟨h.each i, h.pair i, h.like i⟩
theorem mayL_iff (l : List Cel) : mayL l = true ↔ l.length ≤ 300 ∧ Good l := by
 unfold mayL
 rw [Bool.and_eq_true, decide_eq_true_eq, good_iff]
theorem Good.next {l : List Cel} (h : Good l) (i : Nat) : (cAt l i).2.1 = 2 ↔ (cAt l (i + 1)).2.1 = 0 := by
 have := h.pair (i + 1)
 unfold cPrev at this
 rwa [if_neg (by omega), Nat.add_sub_cancel] at this
theorem Good.first {l : List Cel} (h : Good l) : (cAt l 0).2.1 ≠ 0 := by
 intro e
 have := (h.pair 0).2 e
 unfold cPrev at this
 rw [if_pos rfl] at this
 cases this
structure Whole (L : List Cel) : Prop where
 some' : 0 < L.length
 each : ∀ j, j < L.length → mayB (cAt L j) = true
 pair : ∀ j, j < L.length → ((cPrev L j).2.1 = 2 ↔ (cAt L j).2.1 = 0)
 like : ∀ j, j < L.length → (cAt L j).2.1 = 0 → (cAt L j).2.2 = (cPrev L j).2.2
 last : (cAt L (L.length - 1)).2.1 ≠ 2
theorem mayB_blank : mayB (32, 1, 0) = true := by unfold mayB; simp; decide
def putO (l : List Cel) (k : Nat) (L : List Cel) : List Cel := l.take k ++ L ++ l.drop (k + L.length)
def lone (o : List Cel) (i : Nat) : Bool := ((cAt o i).2.1 == 2 && !((cAt o (i + 1)).2.1 == 0)) || ((cAt o i).2.1 == 0 && !((cPrev o i).2.1 == 2))
def blanksL (n : Nat) : List Cel := List.replicate n (32, 1, 0)
theorem blanksL_length (n : Nat) : (blanksL n).length = n := List.length_replicate
theorem Good.ahead {l : List Cel} (h : Good l) {i : Nat} (h0 : (cAt l i).2.1 = 0) : 0 < i ∧ i < l.length := by
 constructor
 ·rcases Nat.eq_zero_or_pos i with e | e
  ·subst e; exact absurd h0 h.first
  ·exact e
 ·rcases Nat.lt_or_ge i l.length with h' | h'
  ·exact h'
  ·rw [cAt_none h'] at h0; cases h0
end Rw
end Go.Proofs.YtgmijnnhanpocaaGreatDoor
namespace Go.Proofs.YtgmijnnhanpocaaGreatDoor
open Go.ChangeShapes Go.WideShapes Go.ChangeAt Go.RowKit
theorem Sq.cellsAt {w : World} {B n b off k : Nat} {l : List Cel} {c : Cel} (h : Sq w B 3 n (some ⟨b, off, none⟩) (flat l)) (hc : l[k]? = some c) : w.cell? ⟨b, off + k * 3, none⟩ = some (.int .i32 c.1) ∧ w.cell? ⟨b, off + k * 3 + 1, none⟩ = some (.int .i64 c.2.1) ∧ w.cell? ⟨b, off + k * 3 + 2, none⟩ = some (.int .i64 c.2.2) := by
 have hl : k < n := by
  have h1 := h.len
  rw [flat_length] at h1
  have := (List.getElem?_eq_some_iff.1 hc).1
  omega
 obtain ⟨b', off', e, _, c', h', q0, q1, q2⟩ := h.three hl
 injection e with e
 injection e with e1 e2
 subst e1 e2
 rw [hc] at h'
 injection h' with h'
 subst h'
 exact ⟨q0, q1, q2⟩
end Go.Proofs.YtgmijnnhanpocaaGreatDoor
namespace Go.Proofs.YtgmijnnhanpocaaGreatDoor
open Go.ChangeShapes Go.WideShapes Go.ChangeAt Go.RowKit
namespace Rw
theorem run_copy_three {P : Program} (w : World) (dT sT ty elem : TypeId) (i : TypeInfo) (g o dLen dCap : Nat) (a : Addr) (sLen sCap : Nat) (cur : Array Value) (t : TypeId) (cs : List Value)
  (hu : P.underlying dT = some (.slice elem)) (hi : P.info? elem = some i) (hsz : i.size = 3)
  (hg : w.heap[g]? = some (.cells cur t (0, 0))) (hn : cs.length = Nat.min sLen dLen * 3)
  (hsrc : ∀ j v, cs[j]? = some v → w.cell? (a.add j) = some v) (hfit : o + cs.length ≤ cur.size) (h1 : ∀ v ∈ cs, v.oneCell' = true) :
  (Builtin.copy_ #[dT, sT] ty #[.slice (some ⟨g, o, none⟩) dLen dCap, .slice (some a) sLen sCap]).run P w =
   .ok (goInt (Nat.min sLen dLen)) (w.setRow g (cur.toList.take o ++ cs ++ cur.toList.drop (o + cs.length)).toArray) := by
 have hl := run_loadCells_list (P := P) w a cs hsrc
 have hst := run_storeCells_at P g o t cs 0 cur w hg (by simpa using hfit) h1
 simp [Builtin.copy_, run_underlying hu, Builtin.lenOf, Builtin.firstCells, sizeOf, typeInfo, hi, hsz, ← hn, hl, hst]
theorem flat_set : ∀ (l : List Cel) (k : Nat) (r m a : Int), (((flat l).set (k * 3) (.int .i32 r)).set (k * 3 + 1) (.int .i64 m)).set (k * 3 + 2) (.int .i64 a) = flat (l.set k (r, m, a))
 | [], k, r, m, a => by simp [flat]
 | c :: l, 0, r, m, a => by simp [flat]
 | c :: l, k + 1, r, m, a => by
  have h := flat_set l k r m a
  have e : flat (c :: l) = .int .i32 c.1 :: .int .i64 c.2.1 :: .int .i64 c.2.2 :: flat l := by simp [flat]
  have e' : flat (c :: l.set k (r, m, a)) = .int .i32 c.1 :: .int .i64 c.2.1 :: .int .i64 c.2.2 :: flat (l.set k (r, m, a)) := by simp [flat]
  rw [List.set_cons_succ, e, e', ← h, show (k + 1) * 3 = k * 3 + 1 + 1 + 1 by omega]
  rfl
structure RowIn' (w : World) (b : Nat) (l : List Cel) (tail : List Value) : Prop where
 heap : w.heap[b]? = some (.cells (flat l ++ tail).toArray 50 (0, 0))
theorem RowIn'.cell {w : World} {b : Nat} {l : List Cel} {tail : List Value} (h : RowIn' w b l tail) {k : Nat} (hk : k < l.length) :
  w.cell? ⟨b, k * 3, none⟩ = some (.int .i32 (cAt l k).1) ∧ w.cell? ⟨b, k * 3 + 1, none⟩ = some (.int .i64 (cAt l k).2.1) ∧ w.cell? ⟨b, k * 3 + 2, none⟩ = some (.int .i64 (cAt l k).2.2) := by
 have hb : b < w.heap.size := (Array.getElem?_eq_some_iff.1 h.heap).1
 have hq : Sq w w.heap.size 3 l.length (some ⟨b, 0, none⟩) (flat l) := ⟨flat_length l, fun _ => ⟨b, 0, rfl, hb, fun j u hu => by
  rw [Nat.zero_add, cell_of_row _ b j _ _ (0, 0) h.heap]
  have hj := (List.getElem?_eq_some_iff.1 hu).1
  rw [List.getElem?_toArray, List.getElem?_append_left hj]
  exact hu⟩⟩
 have := hq.cellsAt (cAt_get hk)
 simpa using this
theorem RowIn'.free {w : World} {b : Nat} {l : List Cel} {tail : List Value} (h : RowIn' w b l tail) (j : Nat) : w.frozen? ⟨b, j, none⟩ = false := frozen_of_row w b j _ _ h.heap
theorem RowIn'.set {w : World} {b : Nat} {l : List Cel} {tail : List Value} (h : RowIn' w b l tail) {k : Nat} (hk : k < l.length) (r m a : Int) :
  RowIn' (((w.setCell ⟨b, k * 3, none⟩ (.int .i32 r)).setCell ⟨b, k * 3 + 1, none⟩ (.int .i64 m)).setCell ⟨b, k * 3 + 2, none⟩ (.int .i64 a)) b (l.set k (r, m, a)) tail := by
 have h0 := heap_setCell_same w b (k * 3) _ _ (.int .i32 r) h.heap
 have h1 := heap_setCell_same _ b (k * 3 + 1) _ _ (.int .i64 m) h0
 have h2 := heap_setCell_same _ b (k * 3 + 2) _ _ (.int .i64 a) h1
 refine ⟨?_⟩
 rw [h2]
 have hl := flat_length l
 have e : ((((flat l ++ tail).toArray.setIfInBounds (k * 3) (.int .i32 r)).setIfInBounds (k * 3 + 1) (.int .i64 m)).setIfInBounds (k * 3 + 2) (.int .i64 a)) = (flat (l.set k (r, m, a)) ++ tail).toArray := by
  rw [← flat_set]
  simp only [List.setIfInBounds_toArray]
  congr 1
  rw [List.set_append_left _ _ (by omega), List.set_append_left _ _ (by rw [List.length_set]; omega), List.set_append_left _ _ (by rw [List.length_set, List.length_set]; omega)]
 rw [e]
theorem RowIn'.only (w : World) (b k : Nat) (r m a : Value) : OnlyRow b w (((w.setCell ⟨b, k * 3, none⟩ r).setCell ⟨b, k * 3 + 1, none⟩ m).setCell ⟨b, k * 3 + 2, none⟩ a) :=
 ((OnlyRow.cell b (k * 3) w r).trans (OnlyRow.cell b (k * 3 + 1) _ m)).trans (OnlyRow.cell b (k * 3 + 2) _ a)
theorem RowIn'.below {w w' : World} {b : Nat} {l : List Cel} {tail : List Value} (h : RowIn' w b l tail) (hb : Below w.heap.size w w') : RowIn' w' b l tail := ⟨(hb.block b (Array.getElem?_eq_some_iff.1 h.heap).1).trans h.heap⟩
theorem RowIn'.copied {w : World} {b : Nat} {l : List Cel} {tail : List Value} (h : RowIn' w b l tail) {k : Nat} {L : List Cel} (hL : k + L.length ≤ l.length) :
  RowIn' (w.setRow b ((flat l ++ tail).toArray.toList.take (k * 3) ++ flat L ++ (flat l ++ tail).toArray.toList.drop (k * 3 + (flat L).length)).toArray) b (putO l k L) tail := by
 refine ⟨?_⟩
 rw [setRow_heap w b _ _ _ _ h.heap]
 have hl := flat_length l
 have hL' := flat_length L
 have e : (flat l ++ tail).toArray.toList.take (k * 3) ++ flat L ++ (flat l ++ tail).toArray.toList.drop (k * 3 + (flat L).length) = flat (putO l k L) ++ tail := by
  have hd : (flat l).drop (k * 3 + L.length * 3) = flat (l.drop (k + L.length)) := by
   rw [show k * 3 + L.length * 3 = (k + L.length) * 3 by omega]
   have h1 : flat l = flat (l.take (k + L.length)) ++ flat (l.drop (k + L.length)) := by rw [← flat_append, List.take_append_drop]
   rw [h1, List.drop_append_of_le_length (by rw [flat_length, List.length_take]; omega), List.drop_of_length_le (by rw [flat_length, List.length_take]; omega), List.nil_append]
  unfold putO
  rw [flat_append, flat_append, flat_take, List.take_append_of_le_length (by omega), List.drop_append_of_le_length (by omega), hL', hd]
  simp [List.append_assoc]
 rw [e]
end Rw
end Go.Proofs.YtgmijnnhanpocaaGreatDoor
namespace Go.Proofs.YtgmijnnhanpocaaGreatDoor
open Go.ChangeShapes Go.WideShapes Go.ChangeAt Go.RowKit
namespace Rw
theorem onlyRow (g : Nat) (w : World) (cs : Array Value) : OnlyRow g w (w.setRow g cs) := ⟨rfl, rfl, rfl, by simp [World.setRow], fun k hk => setRow_other w g k cs hk⟩
theorem RowIn'.lt {w : World} {b : Nat} {l : List Cel} {tail : List Value} (h : RowIn' w b l tail) : b < w.heap.size := (Array.getElem?_eq_some_iff.1 h.heap).1
end Rw
end Go.Proofs.YtgmijnnhanpocaaGreatDoor


namespace Go.Proofs.YtgmijnnhanpocaaGreatDoor
open Go.ChangeShapes Go.WideShapes Go.ChangeAt Go.RowKit
namespace Rw
abbrev U10RepR (k : Nat) := Ord.upto k 10
def repL : List Ord.Line := [
 (some 38, Go.Op.move (Go.Operand.tmp 8), none, []),
 (some 39, Go.Op.move (Go.Operand.tmp 7), none, []),
 (some 40, Go.Op.move (Go.Operand.tmp 8), none, []),
 (some 41, Go.Op.slice 46 (Go.Operand.tmp 39) (some (Go.Operand.tmp 40)) none none, none, [1, 2]),
 (some 42, Go.Op.move (Go.Operand.tmp 7), none, []),
 (some 43, Go.Op.move (Go.Operand.tmp 8), none, []),
 (some 44, Go.Op.slice 46 (Go.Operand.tmp 42) none (some (Go.Operand.tmp 43)) none, none, [4, 5]),
 (some 45, Go.Op.call { callee := Go.Callee.builtin Go.Builtin.copy, args := #[Go.Operand.tmp 41, Go.Operand.tmp 44], argTypes := #[46, 46] }, none, [3, 6]),
 (some 46, Go.Op.binOp Go.BinOp.add 3 (Go.Operand.tmp 38) (Go.Operand.tmp 45) 3, none, [0, 7]),
 (some 8, Go.Op.assign (Go.Operand.tmp 46), none, [8, 7, 0, 1, 2, 3, 4, 5, 6, 7, 8])]
structure RepFr (g cnt : Nat) (p0 p1 p2 p3 p4 p5 p6 p9 p10 p11 p12 p13 p14 p15 p16 p17 p18 p19 p20 p21 p22 p23 p24 p25 p26 p27 p28 p29 p30 p31 p32 p33 p47 : Value) (a : Act) : Prop where
 size : a.tmps.size = 48
 defers : a.defers = []
 s0 : Chain.At a 0 (p0)
 s1 : Chain.At a 1 (p1)
 s2 : Chain.At a 2 (p2)
 s3 : Chain.At a 3 (p3)
 s4 : Chain.At a 4 (p4)
 s5 : Chain.At a 5 (p5)
 s6 : Chain.At a 6 (p6)
 s9 : Chain.At a 9 (p9)
 s10 : Chain.At a 10 (p10)
 s11 : Chain.At a 11 (p11)
 s12 : Chain.At a 12 (p12)
 s13 : Chain.At a 13 (p13)
 s14 : Chain.At a 14 (p14)
 s15 : Chain.At a 15 (p15)
 s16 : Chain.At a 16 (p16)
 s17 : Chain.At a 17 (p17)
 s18 : Chain.At a 18 (p18)
 s19 : Chain.At a 19 (p19)
 s20 : Chain.At a 20 (p20)
 s21 : Chain.At a 21 (p21)
 s22 : Chain.At a 22 (p22)
 s23 : Chain.At a 23 (p23)
 s24 : Chain.At a 24 (p24)
 s25 : Chain.At a 25 (p25)
 s26 : Chain.At a 26 (p26)
 s27 : Chain.At a 27 (p27)
 s28 : Chain.At a 28 (p28)
 s29 : Chain.At a 29 (p29)
 s30 : Chain.At a 30 (p30)
 s31 : Chain.At a 31 (p31)
 s32 : Chain.At a 32 (p32)
 s33 : Chain.At a 33 (p33)
 s47 : Chain.At a 47 (p47)
 s7 : Chain.At a 7 (.slice (some ⟨g, 0, none⟩) cnt cnt)
theorem RepFr.next {g cnt : Nat} {p0 p1 p2 p3 p4 p5 p6 p9 p10 p11 p12 p13 p14 p15 p16 p17 p18 p19 p20 p21 p22 p23 p24 p25 p26 p27 p28 p29 p30 p31 p32 p33 p47 : Value} {a a' : Act} {d : Nat} {v : Value} (F : RepFr g cnt p0 p1 p2 p3 p4 p5 p6 p9 p10 p11 p12 p13 p14 p15 p16 p17 p18 p19 p20 p21 p22 p23 p24 p25 p26 p27 p28 p29 p30 p31 p32 p33 p47 a) (nx : Chain.Next a a' d v) (h : d ≠ 0 ∧ d ≠ 1 ∧ d ≠ 2 ∧ d ≠ 3 ∧ d ≠ 4 ∧ d ≠ 5 ∧ d ≠ 6 ∧ d ≠ 9 ∧ d ≠ 10 ∧ d ≠ 11 ∧ d ≠ 12 ∧ d ≠ 13 ∧ d ≠ 14 ∧ d ≠ 15 ∧ d ≠ 16 ∧ d ≠ 17 ∧ d ≠ 18 ∧ d ≠ 19 ∧ d ≠ 20 ∧ d ≠ 21 ∧ d ≠ 22 ∧ d ≠ 23 ∧ d ≠ 24 ∧ d ≠ 25 ∧ d ≠ 26 ∧ d ≠ 27 ∧ d ≠ 28 ∧ d ≠ 29 ∧ d ≠ 30 ∧ d ≠ 31 ∧ d ≠ 32 ∧ d ≠ 33 ∧ d ≠ 47 ∧ d ≠ 7 := by decide) : RepFr g cnt p0 p1 p2 p3 p4 p5 p6 p9 p10 p11 p12 p13 p14 p15 p16 p17 p18 p19 p20 p21 p22 p23 p24 p25 p26 p27 p28 p29 p30 p31 p32 p33 p47 a' := ⟨nx.size.trans F.size, nx.defers.trans F.defers, nx.k F.s0 (by omega), nx.k F.s1 (by omega), nx.k F.s2 (by omega), nx.k F.s3 (by omega), nx.k F.s4 (by omega), nx.k F.s5 (by omega), nx.k F.s6 (by omega), nx.k F.s9 (by omega), nx.k F.s10 (by omega), nx.k F.s11 (by omega), nx.k F.s12 (by omega), nx.k F.s13 (by omega), nx.k F.s14 (by omega), nx.k F.s15 (by omega), nx.k F.s16 (by omega), nx.k F.s17 (by omega), nx.k F.s18 (by omega), nx.k F.s19 (by omega), nx.k F.s20 (by omega), nx.k F.s21 (by omega), nx.k F.s22 (by omega), nx.k F.s23 (by omega), nx.k F.s24 (by omega), nx.k F.s25 (by omega), nx.k F.s26 (by omega), nx.k F.s27 (by omega), nx.k F.s28 (by omega), nx.k F.s29 (by omega), nx.k F.s30 (by omega), nx.k F.s31 (by omega), nx.k F.s32 (by omega), nx.k F.s33 (by omega), nx.k F.s47 (by omega), nx.k F.s7 (by omega)⟩
theorem RepFr.lt {g cnt : Nat} {p0 p1 p2 p3 p4 p5 p6 p9 p10 p11 p12 p13 p14 p15 p16 p17 p18 p19 p20 p21 p22 p23 p24 p25 p26 p27 p28 p29 p30 p31 p32 p33 p47 : Value} {a : Act} {d : Nat} (F : RepFr g cnt p0 p1 p2 p3 p4 p5 p6 p9 p10 p11 p12 p13 p14 p15 p16 p17 p18 p19 p20 p21 p22 p23 p24 p25 p26 p27 p28 p29 p30 p31 p32 p33 p47 a) (h : d < 48 := by decide) : d < a.tmps.size := by rw [F.size]; exact h
set_option maxRecDepth 100000 in
theorem rep_round {ops : Array Oper} {Q : Exit → Act → World → Prop} (R : Ord.Reg ops repL) (hQ : ∀ c a w d v, Q (.panic c) (Act.put a (some d) v) w → Q (.panic c) a w) {w1 w9 : World} {g cnt n d : Nat} {p0 p1 p2 p3 p4 p5 p6 p9 p10 p11 p12 p13 p14 p15 p16 p17 p18 p19 p20 p21 p22 p23 p24 p25 p26 p27 p28 p29 p30 p31 p32 p33 p47 : Value}
  (hni : (n : Int) ≤ (cnt : Int)) (hn0 : (0 : Int) ≤ (n : Int)) (hnl : n < cnt) (hsub : cnt - n ≠ 0) (hcn : cnt ≠ 0) (hsum : IntKind.i64.wrap ((n : Int) + (d : Int)) = (n : Int) + (d : Int))
  (CP : ∀ ty, (Builtin.copy_ #[46, 46] ty #[.slice (some ⟨g, n * 3, none⟩) (cnt - n) (cnt - n), .slice (some ⟨g, 0, none⟩) n cnt]).run Tryz.prog w1 = .ok (.int .i64 (d : Int)) w9)
  (a : Act) (F : RepFr g cnt p0 p1 p2 p3 p4 p5 p6 p9 p10 p11 p12 p13 p14 p15 p16 p17 p18 p19 p20 p21 p22 p23 p24 p25 p26 p27 p28 p29 p30 p31 p32 p33 p47 a) (f8 : Chain.At a 8 (.int .i64 (n : Int))) (h : ∀ a, RepFr g cnt p0 p1 p2 p3 p4 p5 p6 p9 p10 p11 p12 p13 p14 p15 p16 p17 p18 p19 p20 p21 p22 p23 p24 p25 p26 p27 p28 p29 p30 p31 p32 p33 p47 a → Chain.At a 8 (.int .i64 ((n + d : Nat) : Int)) → Q .normal a w9) :
  wpAnyH Tryz.prog .any ops Q (fun w' => w' = w1 ∨ w' = w9) 10 (List.replicate 10 false).toArray a w1 := by
 have hS : w1 = w1 ∨ w1 = w9 := .inl rfl
 refine Ord.take R (k := 0) (v := .int .i64 (n : Int)) (bs' := U10RepR 1) rfl (by kernel_rfl) hQ trivial hS (fun w _ hS => Chain.ev_move f8.ev) F.lt fun a0 N => ?_
 replace F := F.next N
 replace f8 := N.k f8
 have f38 := N.got
 clear N a
 refine Ord.take R (k := 1) (v := .slice (some ⟨g, 0, none⟩) cnt cnt) (bs' := U10RepR 2) rfl (by kernel_rfl) hQ trivial hS (fun w _ hS => Chain.ev_move F.s7.ev) F.lt fun a1 N => ?_
 replace F := F.next N
 replace f8 := N.k f8
 replace f38 := N.k f38
 have f39 := N.got
 clear N a0
 refine Ord.take R (k := 2) (v := .int .i64 (n : Int)) (bs' := U10RepR 3) rfl (by kernel_rfl) hQ trivial hS (fun w _ hS => Chain.ev_move f8.ev) F.lt fun a2 N => ?_
 replace F := F.next N
 replace f8 := N.k f8
 replace f38 := N.k f38
 replace f39 := N.k f39
 have f40 := N.got
 clear N a1
 refine Ord.take R (k := 3) (v := .slice (some ⟨g, n * 3, none⟩) (cnt - n) (cnt - n)) (bs' := U10RepR 4) rfl (by kernel_rfl) hQ trivial hS (fun w _ hS => by have e39 := f39; unfold Chain.At at e39; have e40 := f40; unfold Chain.At at e40; have q0 := hni; have q1 := hn0; have q2 := hnl; have q3 := hsub; clear F; go_simp; omega) F.lt fun a3 N => ?_
 replace F := F.next N
 replace f8 := N.k f8
 replace f38 := N.k f38
 clear f39
 clear f40
 have f41 := N.got
 clear N a2
 refine Ord.take R (k := 4) (v := .slice (some ⟨g, 0, none⟩) cnt cnt) (bs' := U10RepR 5) rfl (by kernel_rfl) hQ trivial hS (fun w _ hS => Chain.ev_move F.s7.ev) F.lt fun a4 N => ?_
 replace F := F.next N
 replace f8 := N.k f8
 replace f38 := N.k f38
 replace f41 := N.k f41
 have f42 := N.got
 clear N a3
 refine Ord.take R (k := 5) (v := .int .i64 (n : Int)) (bs' := U10RepR 6) rfl (by kernel_rfl) hQ trivial hS (fun w _ hS => Chain.ev_move f8.ev) F.lt fun a5 N => ?_
 replace F := F.next N
 replace f8 := N.k f8
 replace f38 := N.k f38
 replace f41 := N.k f41
 replace f42 := N.k f42
 have f43 := N.got
 clear N a4
 refine Ord.take R (k := 6) (v := .slice (some ⟨g, 0, none⟩) n cnt) (bs' := U10RepR 7) rfl (by kernel_rfl) hQ trivial hS (fun w _ hS => by have e42 := f42; unfold Chain.At at e42; have e43 := f43; unfold Chain.At at e43; have q0 := hni; have q1 := hn0; have q2 := hnl; have q3 := hcn; clear F; go_simp) F.lt fun a6 N => ?_
 replace F := F.next N
 replace f8 := N.k f8
 replace f38 := N.k f38
 replace f41 := N.k f41
 clear f42
 clear f43
 have f44 := N.got
 clear N a5
 refine Ord.value R (k := 7) (v := .int .i64 (d : Int)) (w1 := w9) (bs' := U10RepR 8) rfl (by kernel_rfl) trivial (show w9 = w1 ∨ w9 = w9 from .inr rfl) (fun _ => by have e41 := f41; unfold Chain.At at e41; have e44 := f44; unfold Chain.At at e44; have q0 := CP; clear F; go_simp) F.lt fun a7 N => ?_
 replace hS := (show w9 = w1 ∨ w9 = w9 from .inr rfl)
 replace F := F.next N
 replace f8 := N.k f8
 replace f38 := N.k f38
 clear f41
 clear f44
 have f45 := N.got
 clear N a6
 refine Ord.take R (k := 8) (v := .int .i64 ((n + d : Nat) : Int)) (bs' := U10RepR 9) rfl (by kernel_rfl) hQ trivial hS (fun w _ hS => by have e38 := f38; unfold Chain.At at e38; have e45 := f45; unfold Chain.At at e45; have q0 := hsum; clear F; go_simp) F.lt fun a8 N => ?_
 replace F := F.next N
 replace f8 := N.k f8
 clear f38
 clear f45
 have f46 := N.got
 clear N a7
 refine Ord.take R (k := 9) (v := .int .i64 ((n + d : Nat) : Int)) (bs' := U10RepR 10) rfl (by kernel_rfl) hQ trivial hS (fun w _ hS => Chain.ev_assign f46.ev) F.lt fun a9 N => ?_
 replace F := F.next N
 clear f8
 clear f46
 have f8 := N.got
 clear N a8
 exact Ord.finish R (by kernel_rfl) (h _ F f8)
set_option maxRecDepth 100000 in
theorem rep_frame {a : Act} {w : World} {K : Act → World → Prop} {v0 v1 v2 v3 v4 v5 v6 v7 v8 v9 v10 v11 v12 v13 v14 v15 v16 v17 v18 v19 v20 v21 v22 v23 v24 v25 v26 v27 v28 v29 v30 v31 v32 v33 v47 : Value} (hz : a.tmps.size = 48) (hd : a.defers = []) (f0 : Chain.At a 0 v0) (f1 : Chain.At a 1 v1) (f2 : Chain.At a 2 v2) (f3 : Chain.At a 3 v3) (f4 : Chain.At a 4 v4) (f5 : Chain.At a 5 v5) (f6 : Chain.At a 6 v6) (f7 : Chain.At a 7 v7) (f8 : Chain.At a 8 v8) (f9 : Chain.At a 9 v9) (f10 : Chain.At a 10 v10) (f11 : Chain.At a 11 v11) (f12 : Chain.At a 12 v12) (f13 : Chain.At a 13 v13) (f14 : Chain.At a 14 v14) (f15 : Chain.At a 15 v15) (f16 : Chain.At a 16 v16) (f17 : Chain.At a 17 v17) (f18 : Chain.At a 18 v18) (f19 : Chain.At a 19 v19) (f20 : Chain.At a 20 v20) (f21 : Chain.At a 21 v21) (f22 : Chain.At a 22 v22) (f23 : Chain.At a 23 v23) (f24 : Chain.At a 24 v24) (f25 : Chain.At a 25 v25) (f26 : Chain.At a 26 v26) (f27 : Chain.At a 27 v27) (f28 : Chain.At a 28 v28) (f29 : Chain.At a 29 v29) (f30 : Chain.At a 30 v30) (f31 : Chain.At a 31 v31) (f32 : Chain.At a 32 v32) (f33 : Chain.At a 33 v33) (f47 : Chain.At a 47 v47)
  (h : ∀ u34 u35 u36 u37 u38 u39 u40 u41 u42 u43 u44 u45 u46 : Value, K ⟨#[v0, v1, v2, v3, v4, v5, v6, v7, v8, v9, v10, v11, v12, v13, v14, v15, v16, v17, v18, v19, v20, v21, v22, v23, v24, v25, v26, v27, v28, v29, v30, v31, v32, v33, u34, u35, u36, u37, u38, u39, u40, u41, u42, u43, u44, u45, u46, v47], []⟩ w) : K a w := by
 have e := Ord.frame_out hz hd
 have r : (List.range 48).map (fun i => a.tmps.toList.getD i undef) = [a.tmps.toList.getD 0 undef, a.tmps.toList.getD 1 undef, a.tmps.toList.getD 2 undef, a.tmps.toList.getD 3 undef, a.tmps.toList.getD 4 undef, a.tmps.toList.getD 5 undef, a.tmps.toList.getD 6 undef, a.tmps.toList.getD 7 undef, a.tmps.toList.getD 8 undef, a.tmps.toList.getD 9 undef, a.tmps.toList.getD 10 undef, a.tmps.toList.getD 11 undef, a.tmps.toList.getD 12 undef, a.tmps.toList.getD 13 undef, a.tmps.toList.getD 14 undef, a.tmps.toList.getD 15 undef, a.tmps.toList.getD 16 undef, a.tmps.toList.getD 17 undef, a.tmps.toList.getD 18 undef, a.tmps.toList.getD 19 undef, a.tmps.toList.getD 20 undef, a.tmps.toList.getD 21 undef, a.tmps.toList.getD 22 undef, a.tmps.toList.getD 23 undef, a.tmps.toList.getD 24 undef, a.tmps.toList.getD 25 undef, a.tmps.toList.getD 26 undef, a.tmps.toList.getD 27 undef, a.tmps.toList.getD 28 undef, a.tmps.toList.getD 29 undef, a.tmps.toList.getD 30 undef, a.tmps.toList.getD 31 undef, a.tmps.toList.getD 32 undef, a.tmps.toList.getD 33 undef, a.tmps.toList.getD 34 undef, a.tmps.toList.getD 35 undef, a.tmps.toList.getD 36 undef, a.tmps.toList.getD 37 undef, a.tmps.toList.getD 38 undef, a.tmps.toList.getD 39 undef, a.tmps.toList.getD 40 undef, a.tmps.toList.getD 41 undef, a.tmps.toList.getD 42 undef, a.tmps.toList.getD 43 undef, a.tmps.toList.getD 44 undef, a.tmps.toList.getD 45 undef, a.tmps.toList.getD 46 undef, a.tmps.toList.getD 47 undef] := rfl
 rw [r, Ord.at_get f0, Ord.at_get f1, Ord.at_get f2, Ord.at_get f3, Ord.at_get f4, Ord.at_get f5, Ord.at_get f6, Ord.at_get f7, Ord.at_get f8, Ord.at_get f9, Ord.at_get f10, Ord.at_get f11, Ord.at_get f12, Ord.at_get f13, Ord.at_get f14, Ord.at_get f15, Ord.at_get f16, Ord.at_get f17, Ord.at_get f18, Ord.at_get f19, Ord.at_get f20, Ord.at_get f21, Ord.at_get f22, Ord.at_get f23, Ord.at_get f24, Ord.at_get f25, Ord.at_get f26, Ord.at_get f27, Ord.at_get f28, Ord.at_get f29, Ord.at_get f30, Ord.at_get f31, Ord.at_get f32, Ord.at_get f33, Ord.at_get f47] at e
 rw [e]
 exact h _ _ _ _ _ _ _ _ _ _ _ _ _
end Rw
end Go.Proofs.YtgmijnnhanpocaaGreatDoor
namespace Go.Proofs.YtgmijnnhanpocaaGreatDoor
open Go.ChangeShapes Go.WideShapes Go.ChangeAt Go.RowKit
namespace Rw
def noughts (n : Nat) : List Cel := List.replicate n (0, 0, 0)
theorem made_list (n : Nat) : (List.range (n * 3)).map (fun i => (#[Value.int .i32 0, .int .i64 0, .int .i64 0] : Array Value)[i % 3]!) = flat (noughts n) := by
 induction n with
 | zero => rfl
 | succ n ih =>
  have e : noughts (n + 1) = noughts n ++ [(0, 0, 0)] := by unfold noughts; rw [List.replicate_succ']
  have h0 : n * 3 % 3 = 0 := by omega
  have h1 : (n * 3 + 1) % 3 = 1 := by omega
  have h2 : (n * 3 + 1 + 1) % 3 = 2 := by omega
  rw [show (n + 1) * 3 = n * 3 + 1 + 1 + 1 by omega, List.range_succ, List.range_succ, List.range_succ, List.map_append, List.map_append, List.map_append, ih, e, flat_append]
  simp only [List.map_cons, List.map_nil, h0, h1, h2, List.append_assoc]
  rfl
theorem made_noughts (n : Nat) : madeCells #[.int .i32 0, .int .i64 0, .int .i64 0] (n * 3) = (flat (noughts n) ++ []).toArray := by
 rw [List.append_nil, ← made_list]
 apply Array.ext'
 simp [madeCells]
theorem noughts_length (n : Nat) : (noughts n).length = n := List.length_replicate
theorem filled_length {n cnt : Nat} (h : n ≤ cnt) : (blanksL n ++ noughts (cnt - n)).length = cnt := by rw [List.length_append, blanksL_length, noughts_length]; omega
theorem blanks_append (n d : Nat) : blanksL n ++ blanksL d = blanksL (n + d) := List.replicate_append_replicate
theorem fill_more {n d cnt : Nat} (h : n + d ≤ cnt) : putO (blanksL n ++ noughts (cnt - n)) n (blanksL d) = blanksL (n + d) ++ noughts (cnt - (n + d)) := by
 unfold putO
 have h1 : (blanksL n ++ noughts (cnt - n)).take n = blanksL n := by
  have := List.take_left (l₁ := blanksL n) (l₂ := noughts (cnt - n))
  rwa [blanksL_length] at this
 have h2 : (blanksL n ++ noughts (cnt - n)).drop (n + d) = noughts (cnt - (n + d)) := by
  rw [List.drop_append, blanksL_length, List.drop_of_length_le (by rw [blanksL_length]; omega), List.nil_append]
  unfold noughts
  rw [List.drop_replicate]
  congr 1
  omega
 rw [h1, blanksL_length, h2, blanks_append]
abbrev Filled (w : World) (g n cnt : Nat) : Prop := RowIn' w g (blanksL n ++ noughts (cnt - n)) []
set_option maxRecDepth 100000 in
set_option maxHeartbeats 6400000 in
theorem repeat_walk (b0 cnt : Nat) (w : World) (hc : cnt ≤ 1000000) (h0 : w.heap[b0]? = some (.cells #[.int .i32 32, .int .i64 1, .int .i64 0] 50 (0, 0))) :
  Calls Tryz.prog 118 #[.slice (some ⟨b0, 0, none⟩) 1 1, .int .i64 (cnt : Int)] w fun e w' => ∃ g, e = .returned (.slice (some ⟨g, 0, none⟩) cnt cnt) ∧ w.heap.size ≤ g ∧ RowIn' w' g (blanksL cnt) [] ∧ Below w.heap.size w w' := by
 obtain ⟨i0, hi0, hz0, hz1, hz2⟩ := info_parts infoCell
 have hc0 : (0 : Int) ≤ (cnt : Int) := by omega
 have MW := Lib.hid (Tryz.bits_Mul 1 cnt (by omega) (by omega) w)
 have e1 : 1 * cnt / 18446744073709551616 = 0 := by omega
 have e2 : 1 * cnt % 18446744073709551616 = cnt := by omega
 rw [e1, e2] at MW
 have H0 := Lib.hid h0
 have hw2 : IntKind.i64.wrap (cnt : Int) = (cnt : Int) := IntWalk.i64_in _ (by omega)
 clear h0 e1 e2
 go_enter Tryz.func118, Tryz.ntmps118
 go_wp2_with fail
 refine MW.out.mono ?_
 rintro e w2 ⟨rfl, hw⟩
 subst hw
 have hc63 : ¬ ((9223372036854775807 : Int) < (cnt : Int)) := by omega
 have MK := run_make w2 46 50 i0 (.agg #[.int .i32 0, .int .i64 0, .int .i64 0]) Tryz.underlying46 hi0 hz0 .i64 .i64 (cnt : Int) (cnt : Int) hc0 (Int.le_refl _) (by rw [hz2]; omega) (by omega)
 rw [hz1, Int.toNat_natCast] at MK
 have b3 := (Below.refl w2.heap.size w2).alloc (Nat.le_refl _) (.cells (madeCells (Value.agg #[.int .i32 0, .int .i64 0, .int .i64 0]).cells (cnt * 3)) 50)
 have R3 := Lib.hid (show RowIn' (w2.alloc (.cells (madeCells (Value.agg #[.int .i32 0, .int .i64 0, .int .i64 0]).cells (cnt * 3)) 50)) w2.heap.size (noughts cnt) [] from ⟨by rw [← made_noughts]; exact heap_alloc_new w2 _⟩)
 have S3 := Lib.hid (show (w2.alloc (.cells (madeCells (Value.agg #[.int .i32 0, .int .i64 0, .int .i64 0]).cells (cnt * 3)) 50)).heap[b0]? = some (.cells #[.int .i32 32, .int .i64 1, .int .i64 0] 50 (0, 0)) from (b3.block b0 (Array.getElem?_eq_some_iff.1 H0.out).1).trans H0.out)
 have B3 := Lib.hid b3
 obtain ⟨w3, hw3⟩ : ∃ w3, w2.alloc (.cells (madeCells (Value.agg #[.int .i32 0, .int .i64 0, .int .i64 0]).cells (cnt * 3)) 50) = w3 := ⟨_, rfl⟩
 rw [hw3] at MK B3 R3 S3
 obtain ⟨g, hg⟩ : ∃ g, w2.heap.size = g := ⟨_, rfl⟩
 have HG := Lib.hid hg
 rw [hg] at MK R3
 clear b3 hw3 MW hg
 obtain ⟨n1, hn1⟩ : ∃ n1, Nat.min 1 cnt = n1 := ⟨_, rfl⟩
 have hn1c : n1 ≤ cnt ∧ n1 ≤ 1 ∧ (0 < cnt → 0 < n1) := by
  have : Nat.min 1 cnt = min 1 cnt := rfl
  omega
 obtain ⟨hn1a, hn1b, hn1d⟩ := hn1c
 have CP := run_copy_three (P := Tryz.prog) w3 46 46 3 50 i0 g 0 cnt cnt ⟨b0, 0, none⟩ 1 1 _ 50 (flat (blanksL n1)) Tryz.underlying46 hi0 hz1 R3.out.heap (by rw [flat_length, blanksL_length, hn1]) (fun j u hu => by
  have hj := (List.getElem?_eq_some_iff.1 hu).1
  rw [flat_length, blanksL_length] at hj
  obtain rfl : n1 = 1 := by omega
  rw [add_at', cell_of_row _ b0 _ _ _ (0, 0) S3.out, Nat.zero_add]
  simpa [blanksL, flat] using hu) (by have h1 := flat_length (noughts cnt); have h2 := flat_length (blanksL n1); rw [noughts_length] at h1; rw [blanksL_length] at h2; simp; omega) (flat_one _)
 have R4 := Lib.hid (R3.out.copied (k := 0) (L := blanksL n1) (by rw [noughts_length, blanksL_length]; omega))
 obtain ⟨w4, hw4⟩ : ∃ w4, w3.setRow g ((flat (noughts cnt) ++ []).toArray.toList.take (0 * 3) ++ flat (blanksL n1) ++ (flat (noughts cnt) ++ []).toArray.toList.drop (0 * 3 + (flat (blanksL n1)).length)).toArray = w4 := ⟨_, rfl⟩
 have B4 := Lib.hid (show Below w2.heap.size w2 w4 by rw [← hw4]; exact B3.out.trans ((Turned.ofOnly (onlyRow g _ _)).toBelow B3.out.size (fun k hk e => by have := HG.out; omega)))
 rw [hw4] at R4
 rw [hn1, show (0 : Nat) = 0 * 3 by omega, hw4] at CP
 have F4 := Lib.hid (show Filled w4 g n1 cnt by
  have h := R4.out
  have e := fill_more (n := 0) (d := n1) (cnt := cnt) (by omega)
  rw [show blanksL 0 ++ noughts (cnt - 0) = noughts cnt from rfl, Nat.zero_add] at e
  rw [e] at h
  exact h)
 clear hw4 R3 R4 S3 B3
 go_wp2_with fail
 go_loopw [8] (fun v8 wr => ∃ n : Nat, v8 = .int .i64 n ∧ n ≤ cnt ∧ (0 < cnt → 0 < n) ∧ Hid (Filled wr g n cnt) ∧ Hid (Below w2.heap.size w2 wr)) (fun v8 _ => cnt - (intOf v8).toNat)
 case atStart => exact ⟨n1, rfl, hn1a, hn1d, F4, B4⟩
 case round =>
  obtain ⟨n, rfl, hn, hnp, FN, BN⟩ := hrel
  by_cases hlt : n < cnt
  ·have hnp := hnp (by omega)
   obtain ⟨d, hd⟩ : ∃ d, Nat.min n (cnt - n) = d := ⟨_, rfl⟩
   have hd' : d ≤ n ∧ n + d ≤ cnt ∧ 0 < d := by
    have : Nat.min n (cnt - n) = min n (cnt - n) := rfl
    omega
   obtain ⟨hd1, hd2, hd3⟩ := hd'
   have hni : (n : Int) < (cnt : Int) := by omega
   go_wp2_with fail
   have RD := Lib.hid (show RowIn' wr.drew g (blanksL n ++ noughts (cnt - n)) [] from ⟨FN.out.heap⟩)
   have fl := flat_length (blanksL n ++ noughts (cnt - n))
   rw [filled_length hn] at fl
   have fb := flat_length (blanksL d)
   rw [blanksL_length] at fb
   have CQ := fun ty => run_copy_three (P := Tryz.prog) wr.drew 46 46 ty 50 i0 g (n * 3) (cnt - n) (cnt - n) ⟨g, 0, none⟩ n cnt _ 50 (flat (blanksL d)) Tryz.underlying46 hi0 hz1 RD.out.heap (by rw [fb, hd]) (fun j u hu => by
    have hj := (List.getElem?_eq_some_iff.1 hu).1
    rw [add_at', cell_of_row _ g _ _ _ (0, 0) RD.out.heap, Nat.zero_add]
    have hfn := flat_length (blanksL n)
    rw [blanksL_length] at hfn
    rw [List.append_nil, List.getElem?_toArray, flat_append, List.getElem?_append_left (by omega)]
    have e : blanksL n = blanksL d ++ blanksL (n - d) := by rw [blanks_append]; congr 1; omega
    rw [e, flat_append, List.getElem?_append_left hj]
    exact hu) (by simp only [List.append_nil, List.size_toArray]; omega) (flat_one _)
   have R9 := Lib.hid (RD.out.copied (k := n) (L := blanksL d) (by rw [filled_length hn, blanksL_length]; exact hd2))
   obtain ⟨w9, hw9⟩ : ∃ w9, wr.drew.setRow g ((flat (blanksL n ++ noughts (cnt - n)) ++ []).toArray.toList.take (n * 3) ++ flat (blanksL d) ++ (flat (blanksL n ++ noughts (cnt - n)) ++ []).toArray.toList.drop (n * 3 + (flat (blanksL d)).length)).toArray = w9 := ⟨_, rfl⟩
   have B9 := Lib.hid (show Below w2.heap.size w2 w9 by rw [← hw9]; exact BN.out.drew.trans ((Turned.ofOnly (onlyRow g _ _)).toBelow BN.out.drew.size (fun k hk e => by have := HG.out; omega)))
   rw [hw9, fill_more hd2] at R9
   rw [hw9, hd] at CQ
   have hsum : IntKind.i64.wrap ((n : Int) + (d : Int)) = (n : Int) + (d : Int) := IntWalk.i64_in _ (by omega)
   refine Ord.start (S := fun w' => w' = wr.drew ∨ w' = w9) (n := 10) (by kernel_rfl) (by kernel_rfl) (.inl rfl) ?_
   apply rep_round (w1 := wr.drew) (w9 := w9) (g := g) (cnt := cnt) (n := n) (d := d) (p0 := .slice (some ⟨b0, 0, none⟩) 1 1) (p1 := .int .i64 (cnt : Int)) (p2 := undef) (p3 := undef) (p4 := .slice none 0 0) (p5 := .int .u64 0) (p6 := .int .u64 (cnt : Int)) (p9 := .int .i64 (cnt : Int)) (p10 := .bool (decide ((cnt : Int) < 0))) (p11 := undef) (p12 := .tuple #[.int .u64 0, .int .u64 (cnt : Int)]) (p13 := .slice (some ⟨b0, 0, none⟩) 1 1) (p14 := .int .i64 1) (p15 := .int .u64 1) (p16 := .int .i64 (cnt : Int)) (p17 := .int .u64 (cnt : Int)) (p18 := .tuple #[.int .u64 0, .int .u64 (cnt : Int)]) (p19 := .int .u64 0) (p20 := .int .u64 (cnt : Int)) (p21 := .int .u64 0) (p22 := .bool false) (p23 := .bool false) (p24 := .int .u64 (cnt : Int)) (p25 := .bool (decide ((9223372036854775807 : Int) < (cnt : Int)))) (p26 := .bool (decide ((9223372036854775807 : Int) < (cnt : Int)))) (p27 := undef) (p28 := .int .u64 (cnt : Int)) (p29 := .int .i64 (cnt : Int)) (p30 := .slice (some ⟨g, 0, none⟩) cnt cnt) (p31 := .slice (some ⟨g, 0, none⟩) cnt cnt) (p32 := .slice (some ⟨b0, 0, none⟩) 1 1) (p33 := .int .i64 (n1 : Int)) (p47 := undef)
   case R => exact ⟨by kernel_rfl, by kernel_rfl⟩
   case hQ => exact fun _ _ _ _ _ h => h
   case hni => omega
   case hn0 => omega
   case hnl => exact hlt
   case hsub => omega
   case hcn => omega
   case hsum => exact hsum
   case CP => exact CQ
   case F => exact ⟨rfl, rfl, rfl, rfl, rfl, rfl, rfl, rfl, rfl, rfl, rfl, rfl, rfl, rfl, rfl, rfl, rfl, rfl, rfl, rfl, rfl, rfl, rfl, rfl, rfl, rfl, rfl, rfl, rfl, rfl, rfl, rfl, rfl, rfl, rfl, rfl⟩
   case f8 => rfl
   intro a2 F2 f8
   refine rep_frame F2.size F2.defers F2.s0 F2.s1 F2.s2 F2.s3 F2.s4 F2.s5 F2.s6 F2.s7 f8 F2.s9 F2.s10 F2.s11 F2.s12 F2.s13 F2.s14 F2.s15 F2.s16 F2.s17 F2.s18 F2.s19 F2.s20 F2.s21 F2.s22 F2.s23 F2.s24 F2.s25 F2.s26 F2.s27 F2.s28 F2.s29 F2.s30 F2.s31 F2.s32 F2.s33 F2.s47 ?_
   intros
   clear F2 f8 CQ
   try dsimp only
   go_wp2
   go_roundw
   case rel => exact ⟨n + d, by first | rfl | (congr 1; done) | (congr 1; omega), hd2, fun _ => by omega, R9, B9⟩
   case measure => first | (simp [intOf]; done) | (simp [intOf]; omega)
  ·obtain rfl : n = cnt := by omega
   have DN := Lib.hid (show RowIn' wr g (blanksL n) [] by
    have h := FN.out
    unfold Filled at h
    rw [Nat.sub_self] at h
    simpa [noughts] using h)
   go_wp2
   go_ret
   exact ⟨g, rfl, Nat.le_of_eq HG.out, DN.out, BN.out⟩
set_option maxRecDepth 100000 in
set_option maxHeartbeats 1600000 in
theorem blanks_walk (cnt : Nat) (w : World) (hc : cnt ≤ 1000000) :
  Calls Tryz.prog 82 #[.int .i64 (cnt : Int)] w fun e w' => ∃ g, e = .returned (.slice (some ⟨g, 0, none⟩) cnt cnt) ∧ w.heap.size ≤ g ∧ RowIn' w' g (blanksL cnt) [] ∧ Below w.heap.size w w' := by
 have BW := Lib.hid (blank_walk w)
 go_enter Tryz.func82, Tryz.ntmps82
 go_wp2_with fail
 refine BW.out.mono ?_
 rintro e w2 ⟨rfl, b2⟩
 have B2 := Lib.hid b2
 have b3 := (Below.refl w2.heap.size w2).alloc (Nat.le_refl _) (.cells #[.int .i32 32, .int .i64 1, .int .i64 0] 50)
 have RW := Lib.hid (repeat_walk w2.heap.size cnt (w2.alloc (.cells #[.int .i32 32, .int .i64 1, .int .i64 0] 50)) hc (heap_alloc_new w2 _))
 have B3 := Lib.hid b3
 clear b2 b3 BW
 go_wp2_with fail
 refine RW.out.mono ?_
 rintro e w4 ⟨g, rfl, hg, r4, b4⟩
 have B34 := B3.out.trans (b4.mono B3.out.size)
 have DN := Lib.hid (And.intro (show w.heap.size ≤ g from Nat.le_trans B2.out.size (Nat.le_trans B3.out.size hg)) (And.intro r4 (B2.out.trans (B34.mono B2.out.size))))
 clear hg r4 b4 RW B34
 go_wp2
 go_ret
 exact ⟨g, rfl, DN.out⟩
end Rw
end Go.Proofs.YtgmijnnhanpocaaGreatDoor

namespace Go.Proofs.YtgmijnnhanpocaaGreatDoor
open Go.ChangeShapes Go.WideShapes Go.ChangeAt Go.RowKit
namespace Rw
def blankN (x : Int) : Nat := (min (max x 0) 300).toNat
theorem hasC_full {w : World} {base g n : Nat} {l : List Cel} (h : RowIn' w g l []) (hg : base ≤ g) (hl : l.length = n) (hn : n ≤ 1099511627776) : HasC w base (.slice (some ⟨g, 0, none⟩) n n) l := by
 subst hl
 have hf := flat_length l
 refine ⟨hf, .inr ⟨g, l.length, _, rfl, hg, h.heap, Nat.le_refl _, by unfold maxLen; omega, ?_, ?_⟩⟩
 ·rw [List.append_nil, List.size_toArray, hf]
 ·rw [List.append_nil, ← hf]
  exact List.take_length
set_option maxRecDepth 100000 in
set_option maxHeartbeats 1600000 in
theorem rowBlank_walk (x : Int) (w : World) : Calls Tryz.prog 52 #[.int .i64 x] w fun e w' => ∃ g, e = .returned (.agg #[.slice (some ⟨g, 0, none⟩) (blankN x) (blankN x), .bool false]) ∧ HasC w' w.heap.size (.slice (some ⟨g, 0, none⟩) (blankN x) (blankN x)) (blanksL (blankN x)) ∧ Below w.heap.size w w' := by
 obtain ⟨k, hk⟩ : ∃ k, blankN x = k := ⟨_, rfl⟩
 have hk3 : k ≤ 300 := by rw [← hk]; unfold blankN; omega
 have hkx : min (max x 0) 300 = (k : Int) := by rw [← hk]; unfold blankN; omega
 rw [hk]
 have b1 := (Below.refl w.heap.size w).alloc (Nat.le_refl _) (.cells #[.slice none 0 0, .bool false] 48)
 have R1 := Lib.hid (show RowAt (w.alloc (.cells #[.slice none 0 0, .bool false] 48)) w.heap.size (.slice none 0 0) false from heap_alloc_new w _)
 have BW := Lib.hid (blanks_walk k (w.alloc (.cells #[.slice none 0 0, .bool false] 48)) (by omega))
 have B1 := Lib.hid b1
 have S1 := Lib.hid (show (w.alloc (.cells #[.slice none 0 0, .bool false] 48)).heap.size = w.heap.size + 1 by simp)
 clear b1 hk
 go_enter Tryz.func52, Tryz.ntmps52
 go_wp2_with fail
 obtain ⟨g1, hg1⟩ : ∃ g1, w.heap.size = g1 := ⟨_, rfl⟩
 have HG1 := Lib.hid hg1
 rw [hg1] at R1 ⊢
 generalize w.alloc (.cells #[.slice none 0 0, .bool false] 48) = w1 at R1 BW B1 S1 ⊢
 refine BW.out.mono ?_
 rintro e w2 ⟨g, rfl, hg, r2, b2⟩
 have R2 := Lib.hid (show RowAt w2 g1 (.slice none 0 0) false from (b2.block g1 R1.out.lt).trans R1.out)
 have B2 := Lib.hid (B1.out.trans (b2.mono B1.out.size))
 have hgw : w.heap.size + 1 ≤ g := by have := S1.out; omega
 have HC := Lib.hid (hasC_full (base := w.heap.size + 1) r2 hgw (blanksL_length k) (by omega))
 have z0 : w2.cell? ⟨g1, 0, none⟩ = some (.slice none 0 0) := R2.out.get 0
 have z1 : w2.cell? ⟨g1, 1, none⟩ = some (.bool false) := R2.out.get 1
 have zf0 := R2.out.free 0
 have zf1 := R2.out.free 1
 have RF := Lib.hid (RowAt.put2 R2.out (.slice (some ⟨g, 0, none⟩) k k) false)
 have OF := (OnlyRow.cell g1 0 w2 (.slice (some ⟨g, 0, none⟩) k k)).trans (OnlyRow.cell g1 1 _ (.bool false))
 have HF := Lib.hid (HasC.keep HC.out (fun j e => OF.block j (by have := (HasC.lt HC.out j e).1; have := HG1.out; omega)))
 have BF := Lib.hid (B2.out.trans ((Turned.ofOnly OF).toBelow B2.out.size (fun q hq e => by have := HG1.out; omega)))
 clear OF r2 b2 hg hg1
 go_wp2
 generalize (w2.setCell ⟨g1, 0, none⟩ (.slice (some ⟨g, 0, none⟩) k k)).setCell ⟨g1, 1, none⟩ (.bool false) = wz at RF HF BF ⊢
 have e0 : wz.cell? ⟨g1, 0, none⟩ = some (.slice (some ⟨g, 0, none⟩) k k) := RF.out.get 0
 have e1 : wz.cell? ⟨g1, 1, none⟩ = some (.bool false) := RF.out.get 1
 exact bodyPost_ret (v := .agg #[.slice (some ⟨g, 0, none⟩) k k, .bool false]) (by simp [results, Tryz.results52, go_sem, e0, e1]) rfl ⟨g, rfl, HasC.mono HF.out (Nat.le_succ _), BF.out⟩
end Rw
end Go.Proofs.YtgmijnnhanpocaaGreatDoor
