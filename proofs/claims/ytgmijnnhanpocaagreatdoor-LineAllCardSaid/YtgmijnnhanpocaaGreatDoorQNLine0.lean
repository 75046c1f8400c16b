/-
  Lines that came in: a slice of slices of cells. Lines in plain words: the rows of each line; what is told of rows; a line laid out as rows, and that it is that line again; how many rows it takes. Nothing of the program but which rows may be. A range over a function that tells N things one behind the other, what it tells fitting the world in which it tells it. (Over any program.) Rows that lie somewhere, whole or in part; whether the line of a row goes on in the row behind it; the functions that line.parts and line.signs hand out. The function that line.parts hands out tells the rows of each line.
-/
import Derived.Test.YtgmijnnhanpocaaGreatDoorQNBase1
import Derived.Test.YtgmijnnhanpocaaGreatDoorQNBase0
import Derived.Test.YtgmijnnhanpocaaGreatDoorQNRow0
import Derived.RangeFuncNested
import Derived.RangeFuncLeaves
import Derived.RangeFuncBox
import Derived.OwnWalkIn
import Derived.TacticsInMore
import Derived.LoopNIn
import Derived.LoopIn
import Derived.Deep.CutRange
import Derived.Deep.RegionLaw
import Derived.StillTailTactics
import Derived.Stop.RegionWithIn
namespace Go.Proofs.YtgmijnnhanpocaaGreatDoor
open Go.ChangeShapes Go.WideShapes Go.ChangeAt Go.RowKit
structure LineIn where
 A : Option Addr
 n : Nat
 c : Nat
 l : List Cel
structure LineIn.Ok (W : World) (B : Nat) (x : LineIn) : Prop where
 le : x.n ≤ x.c
 cap : x.c ≤ maxLen
 signs : ∀ c ∈ x.l, -2147483648 ≤ c.1 ∧ c.1 ≤ 2147483647
 sq : Sq W B 3 x.n x.A (flat x.l)
def LineIn.vals (x : LineIn) : List Value := [.slice x.A x.n x.c]
theorem LineIn.Ok.below {W W' : World} {B : Nat} {x : LineIn} (h : x.Ok W B) (hb : Below B W W') : x.Ok W' B := ⟨h.le, h.cap, h.signs, h.sq.below hb⟩
theorem LineIn.Ok.up {W : World} {B B' : Nat} {x : LineIn} (h : x.Ok W B) (hb : B ≤ B') : x.Ok W B' := ⟨h.le, h.cap, h.signs, h.sq.up hb⟩
section
variable {H : Type} {enc : TypeId × Value → H} {W : World} {base : Nat}
set_option maxRecDepth 100000 in
theorem open_lines {v : Value} {d : DataW H} {p : List MemPlace} (hok : Value.okWide Tryz.prog W .any base 23 v) (h : DataW.Trod enc Tryz.prog W 0 (fun _ => true) true 23 v d p) :
  ∃ (A : Option Addr) (n c : Nat) (l : List LineIn), v = .slice A n c ∧ n ≤ c ∧ c ≤ maxLen ∧ (∀ x ∈ l, x.Ok W W.heap.size) ∧ Sq W W.heap.size 1 n A (l.flatMap LineIn.vals) := by
 obtain ⟨a0, len, cap, rfl⟩ := okWide_slice Tryz.underlying23 hok
 obtain ⟨fuel, hf⟩ := h
 rcases DataW.trod_slice Tryz.underlying23 hf with ⟨hcs, _⟩ | ⟨a, len', cap', elems, rest, m, _, hcs, _, _, hl, hm, hlen, hel, _, _⟩
 ·simp only [Value.cells, List.cons.injEq, Value.slice.injEq, and_true] at hcs
  obtain ⟨rfl, rfl, rfl⟩ := hcs
  exact ⟨none, 0, 0, [], rfl, Nat.le_refl _, Nat.zero_le _, (fun r h => by cases h), Sq.nothing _ _ _ _⟩
 ·simp only [Value.cells, List.cons.injEq, Value.slice.injEq, and_true] at hcs
  obtain ⟨rfl, rfl, rfl⟩ := hcs
  have each : ∀ i, i < len → ∃ t : LineIn, t.Ok W W.heap.size ∧ ∀ (k : Nat) (u : Value), t.vals[k]? = some u → W.cell? ((a.add (i * 1)).add k) = some u := by
   intro i hi
   have h1 := hel i hi
   rw [List.getElem?_eq_getElem (by omega), cellsSl, Option.bind_eq_some_iff] at h1
   obtain ⟨cs, hc, ht⟩ := h1
   obtain ⟨A, n, c, l, rfl, e1, e2, e3, e4⟩ := slice_parts ht
   obtain ⟨_, _, hcell⟩ := World.cells?_some hc
   refine ⟨⟨A, n, c, l⟩, ⟨e1, e2, e3, e4⟩, fun k u hu => ?_⟩
   have hk : k < 1 := by have := (List.getElem?_eq_some_iff.1 hu).1; simpa [LineIn.vals] using this
   rw [hcell k hk]
   exact hu
  obtain ⟨l, hll, hp⟩ := exists_list each
  exact ⟨some a, len, cap, l, rfl, hl, hm, fun r hr => by obtain ⟨i, hi, rfl⟩ := List.mem_iff_getElem.1 hr; exact (hp i hi).1, sq_of_each LineIn.vals 1 (fun _ => rfl) (by omega) hll fun i hi k u hu => (hp i hi).2 k u hu⟩
end
theorem lines_at {W : World} {B n k : Nat} {A : Option Addr} {l : List LineIn} {x : LineIn} (hq : Sq W B 1 n A (l.flatMap LineIn.vals)) (hx : l[k]? = some x) (hk : k < n) :
  ∃ b off, A = some ⟨b, off, none⟩ ∧ b < B ∧ W.cell? ⟨b, off + k, none⟩ = some (.slice x.A x.n x.c) := by
 obtain ⟨b, off, e, hb, hc⟩ := hq.spot (by omega)
 have h0 := hc (k * 1 + 0) _ (flatMap_get LineIn.vals 1 (fun _ => rfl) l k x hx 0 _ rfl)
 rw [Nat.mul_one, Nat.add_zero] at h0
 exact ⟨b, off, e, hb, h0⟩
theorem lines_len {W : World} {B n : Nat} {A : Option Addr} {l : List LineIn} (hq : Sq W B 1 n A (l.flatMap LineIn.vals)) : l.length = n := by
 have h := hq.len
 rw [flatMap_len LineIn.vals 1 (fun _ => rfl)] at h
 omega
end Go.Proofs.YtgmijnnhanpocaaGreatDoor
namespace Go.Proofs.YtgmijnnhanpocaaGreatDoor
namespace Ln
open Rw
abbrev LR := Bool × List Cel
def padC (c : Cel) : Bool := isB 0 c.1 c.2.1 c.2.2
def goes (r : LR) : Bool := r.1 && mayL r.2
def signC (c : Cel) : Bool := !(c.2.1 == 0) && !padC c
def cellsR (r : LR) : List Cel := if mayL r.2 then r.2.filter signC else []
def cut : List LR → Nat
 | [] => 0
 | r :: rs => if goes r && !rs.isEmpty then cut rs + 1 else 1
theorem cut_cons (r : LR) (rs : List LR) : cut (r :: rs) = if goes r && !rs.isEmpty then cut rs + 1 else 1 := rfl
theorem cut_le : ∀ l : List LR, cut l ≤ l.length
 | [] => Nat.le_refl _
 | r :: rs => by
  have := cut_le rs
  rw [cut_cons]
  split <;> simp only [List.length_cons] <;> omega
theorem cut_pos {l : List LR} (h : l ≠ []) : 1 ≤ cut l := by
 cases l with
 | nil => exact absurd rfl h
 | cons r rs => rw [cut_cons]; split <;> omega
theorem cut_step : ∀ {l : List LR} {i : Nat} {r : LR}, i < cut l → l[i]? = some r → (i + 1 < cut l ↔ goes r = true ∧ i + 1 < l.length)
 | [], _, _, h, _ => by simp [cut] at h
 | s :: rs, 0, r, h, e => by
  simp at e
  subst e
  rw [cut_cons]
  cases hg : goes s
  ·simp
  ·cases rs with
   | nil => simp
   | cons t rs =>
    have := cut_pos (l := t :: rs) (by simp)
    simp
    omega
 | s :: rs, i + 1, r, h, e => by
  rw [cut_cons] at h ⊢
  split
  ·rename_i hc
   rw [if_pos hc] at h
   have := cut_step (l := rs) (i := i) (r := r) (by omega) (by simpa using e)
   simp only [List.length_cons, Nat.add_lt_add_iff_right]
   exact this
  ·rename_i hc
   rw [if_neg hc] at h
   omega
def addP (r : LR) : List (List LR) → List (List LR)
 | [] => [[r]]
 | p :: ps => if goes r then (r :: p) :: ps else [r] :: p :: ps
def parts : List LR → List (List LR)
 | [] => []
 | r :: rs => addP r (parts rs)
theorem parts_cons (r : LR) (rs : List LR) : parts (r :: rs) = addP r (parts rs) := rfl
theorem addP_cons (r : LR) (p : List LR) (ps : List (List LR)) : addP r (p :: ps) = if goes r then (r :: p) :: ps else [r] :: p :: ps := rfl
theorem addP_len (r : LR) (l : List (List LR)) : l.length ≤ (addP r l).length ∧ (addP r l).length ≤ l.length + 1 := by
 cases l with
 | nil => simp [addP]
 | cons p ps => rw [addP_cons]; split <;> simp
theorem addP_flatten (r : LR) (l : List (List LR)) : (addP r l).flatten = r :: l.flatten := by
 cases l with
 | nil => simp [addP]
 | cons p ps => rw [addP_cons]; split <;> simp
theorem addP_ne (r : LR) (l : List (List LR)) : addP r l ≠ [] := by
 cases l with
 | nil => simp [addP]
 | cons p ps => rw [addP_cons]; split <;> simp
theorem parts_nil_iff : ∀ l : List LR, parts l = [] ↔ l = []
 | [] => by simp [parts]
 | r :: rs => by rw [parts_cons]; exact ⟨fun h => absurd h (addP_ne _ _), fun h => by cases h⟩
theorem parts_cut : ∀ {l : List LR}, l ≠ [] → parts l = l.take (cut l) :: parts (l.drop (cut l))
 | [], h => absurd rfl h
 | r :: rs, _ => by
  by_cases hr : rs = []
  ·subst hr
   simp [parts, cut, addP]
  ·have ih := parts_cut hr
   have hne : rs.isEmpty = false := by cases rs with | nil => exact absurd rfl hr | cons _ _ => rfl
   rw [parts_cons, ih, cut_cons, hne]
   cases hg : goes r
   ·simp only [addP, hg, Bool.false_and, Bool.false_eq_true, if_false, List.take_succ_cons, List.take_zero, List.drop_succ_cons, List.drop_zero, ih]
   ·simp only [addP, hg, Bool.not_false, Bool.and_self, if_true, List.take_succ_cons, List.drop_succ_cons]
theorem parts_length_le : ∀ l : List LR, (parts l).length ≤ l.length
 | [] => Nat.le_refl _
 | r :: rs => by
  have := parts_length_le rs
  have := (addP_len r (parts rs)).2
  rw [parts_cons, List.length_cons]
  omega
theorem parts_flatten : ∀ l : List LR, (parts l).flatten = l
 | [] => rfl
 | r :: rs => by rw [parts_cons, addP_flatten, parts_flatten rs]
def joined (p : List LR) : List Cel := trimL (p.flatMap cellsR)
def joinL (l : List LR) : List (List Cel) := (parts l).map joined
theorem parts_append : ∀ {a b : List LR}, (∀ r, a.getLast? = some r → goes r = false) → parts (a ++ b) = parts a ++ parts b
 | [], _, _ => rfl
 | [r], b, h => by
  have hg := h r rfl
  rw [List.cons_append, List.nil_append, parts_cons, parts_cons]
  cases parts b with
  | nil => rfl
  | cons p ps => simp [addP, hg, parts]
 | r :: s :: a, b, h => by
  have ih := parts_append (a := s :: a) (b := b) (fun x hx => h x (by simpa using hx))
  rw [List.cons_append, parts_cons, parts_cons, ih]
  have hne : parts (s :: a) ≠ [] := fun e => by have := (parts_nil_iff _).1 e; cases this
  obtain ⟨p, ps, e⟩ := List.exists_cons_of_ne_nil hne
  rw [e]
  simp only [List.cons_append, addP]
  split <;> rfl
def rest (l : List LR) : Nat → List LR
 | 0 => l
 | k + 1 => (rest l k).drop (cut (rest l k))
theorem parts_rest (l : List LR) : ∀ k : Nat, parts (rest l k) = (parts l).drop k
 | 0 => rfl
 | k + 1 => by
  have ih := parts_rest l k
  show parts ((rest l k).drop (cut (rest l k))) = _
  by_cases h : rest l k = []
  ·rw [h] at ih ⊢
   have e : ((parts l).drop k).length = 0 := by rw [← ih]; rfl
   rw [List.length_drop] at e
   rw [show (parts l).drop (k + 1) = [] from List.drop_eq_nil_iff.2 (by omega)]
   rfl
  ·rw [parts_cut h] at ih
   rw [← List.drop_drop, ← ih, List.drop_one, List.tail_cons]
theorem rest_part {l : List LR} {k : Nat} (h : rest l k ≠ []) : (parts l)[k]? = some ((rest l k).take (cut (rest l k))) := by
 have e := parts_rest l k
 rw [parts_cut h] at e
 have := congrArg (·[0]?) e
 simpa using this.symm
theorem rest_nil {l : List LR} {k : Nat} : rest l k = [] ↔ (parts l).length ≤ k := by
 rw [← parts_nil_iff, parts_rest, List.drop_eq_nil_iff]
theorem parts_snoc_on : ∀ {a : List LR} {s r : LR}, a.getLast? = some s → goes s = true → parts (a ++ [r]) = (parts a).modify ((parts a).length - 1) (· ++ [r])
 | [], _, _, h, _ => by simp at h
 | [x], s, r, h, hg => by
  simp at h
  subst h
  simp [parts_cons, parts, addP, hg]
 | x :: y :: a, s, r, h, hg => by
  have ih := parts_snoc_on (a := y :: a) (s := s) (r := r) (by simpa using h) hg
  rw [List.cons_append, parts_cons, parts_cons, ih]
  have hne : parts (y :: a) ≠ [] := fun e => by have := (parts_nil_iff _).1 e; cases this
  obtain ⟨p, ps, e⟩ := List.exists_cons_of_ne_nil hne
  rw [e]
  cases ps with
  | nil => simp only [List.length_cons, List.length_nil, Nat.zero_add, Nat.sub_self, List.modify_zero_cons, addP_cons]; split <;> simp
  | cons q qs =>
   simp only [List.length_cons, Nat.add_sub_cancel, List.modify_succ_cons, addP_cons]
   split <;> simp
theorem parts_snoc_end {a : List LR} {r : LR} (h : ∀ s, a.getLast? = some s → goes s = false) : parts (a ++ [r]) = parts a ++ [[r]] := by
 rw [parts_append h]
 rfl
def ends (l : List LR) : Nat := (l.filter fun r => !goes r).length
theorem ends_snoc (l : List LR) (r : LR) : ends (l ++ [r]) = ends l + if goes r then 0 else 1 := by
 unfold ends
 rw [List.filter_append, List.length_append]
 cases h : goes r <;> simp [h]
def isOpen (l : List LR) : Bool := (l.getLast?.map goes).getD false
theorem parts_ends (l : List LR) : (parts l).length = ends l + if isOpen l then 1 else 0 := by
 induction l with
 | nil => rfl
 | cons r rs ih =>
  rw [parts_cons]
  cases rs with
  | nil => cases h : goes r <;> simp [parts, addP, ends, isOpen, h]
  | cons s rs =>
   have hne : parts (s :: rs) ≠ [] := fun e => by have := (parts_nil_iff _).1 e; cases this
   obtain ⟨p, ps, e⟩ := List.exists_cons_of_ne_nil hne
   rw [e] at ih ⊢
   have e1 : isOpen (r :: s :: rs) = isOpen (s :: rs) := by simp [isOpen]
   have e2 : ends (r :: s :: rs) = ends (s :: rs) + if goes r then 0 else 1 := by cases h : goes r <;> simp [ends, h]
   rw [e1, e2, addP_cons]
   cases h : goes r <;> simp at ih ⊢ <;> omega
def groups (l : List LR) : List (List Cel) := (parts l).map (·.flatMap cellsR)
theorem groups_new {a : List LR} {r : LR} (h : isOpen a = false) : groups (a ++ [r]) = groups a ++ [cellsR r] ∧ (groups a).length = ends a := by
 unfold groups
 rw [parts_snoc_end (fun s hs => by simpa [isOpen, hs] using h), List.map_append, List.length_map, parts_ends, h]
 simp
theorem groups_on {a : List LR} {r : LR} (h : isOpen a = true) : groups (a ++ [r]) = (groups a).modify (ends a) (· ++ cellsR r) ∧ (groups a).length = ends a + 1 := by
 unfold isOpen at h
 obtain ⟨s, hs⟩ : ∃ s, a.getLast? = some s := by
  cases e : a.getLast? with
  | none => simp [e] at h
  | some s => exact ⟨s, rfl⟩
 have hg : goes s = true := by simpa [hs] using h
 have hl := parts_ends a
 rw [show isOpen a = true from h, if_pos rfl] at hl
 unfold groups
 rw [parts_snoc_on hs hg, List.length_map, hl, Nat.add_sub_cancel]
 refine ⟨?_, rfl⟩
 refine List.ext_getElem? fun k => ?_
 rw [List.getElem?_map, List.getElem?_modify, List.getElem?_modify, List.getElem?_map]
 cases (parts a)[k]? with
 | none => rfl
 | some p => by_cases e : ends a = k <;> simp [e]
theorem joinL_groups (l : List LR) : joinL l = (groups l).map trimL := by
 unfold joinL groups
 rw [List.map_map]
 rfl
abbrev Pl := (Nat × Nat) × Cel
def wd (x : Cel) : Nat := x.2.1.toNat
def padL : Cel := (0, 1, 0)
def both (x : Cel) : List Cel := if x.2.1 = 2 then [x, (0, 0, x.2.2)] else [x]
def W12 (x : Cel) : Prop := x.2.1 = 1 ∨ x.2.1 = 2
theorem both_length {x : Cel} (h : W12 x) : (both x).length = wd x := by
 unfold both wd
 rcases h with h | h <;> simp [h]
def pstep (w : Nat) (s : (Nat × Nat) × List Pl) (x : Cel) : (Nat × Nat) × List Pl :=
 if w < s.1.2 + wd x then ((s.1.1 + 1, wd x), s.2 ++ ((if s.1.2 < w then [(s.1, padL)] else []) ++ [((s.1.1 + 1, 0), x)]))
 else ((s.1.1, s.1.2 + wd x), s.2 ++ [(s.1, x)])
def posOut (w : Nat) (l : List Cel) : (Nat × Nat) × List Pl := l.foldl (pstep w) ((0, 0), [])
theorem posOut_snoc (w : Nat) (l : List Cel) (x : Cel) : posOut w (l ++ [x]) = pstep w (posOut w l) x := by unfold posOut; rw [List.foldl_append]; rfl
def lstep (w : Nat) (s : List LR × List Cel) (x : Cel) : List LR × List Cel :=
 if w < s.2.length + wd x then (s.1 ++ [(true, if s.2.length < w then s.2 ++ [padL] else s.2)], both x) else (s.1, s.2 ++ both x)
def layS (w : Nat) (l : List Cel) : List LR × List Cel := l.foldl (lstep w) ([], [])
theorem layS_snoc (w : Nat) (l : List Cel) (x : Cel) : layS w (l ++ [x]) = lstep w (layS w l) x := by unfold layS; rw [List.foldl_append]; rfl
def fill (w : Nat) (s : List LR × List Cel) : List LR := s.1 ++ [(false, s.2 ++ blanksL (w - s.2.length))]
def layL (w : Nat) (l : List Cel) : List LR := fill w (layS w l)
def putP (w : Nat) (rows : List LR) (y : Pl) : List LR :=
 (if y.1.1 = rows.length then rows.modify (rows.length - 1) (fun r => (true, r.2)) ++ [(false, blanksL w)] else rows).modify y.1.1 (fun r => (r.1, putO r.2 y.1.2 (both y.2)))
def putPs (w : Nat) (ys : List Pl) : List LR := ys.foldl (putP w) [(false, blanksL w)]
theorem putPs_snoc (w : Nat) (ys : List Pl) (y : Pl) : putPs w (ys ++ [y]) = putP w (putPs w ys) y := by unfold putPs; rw [List.foldl_append]; rfl
theorem snoc_ind {α : Type} {P : List α → Prop} (h0 : P []) (h1 : ∀ l x, P l → P (l ++ [x])) (l : List α) : P l := by
 rw [← List.reverse_reverse l]
 induction l.reverse with
 | nil => exact h0
 | cons x m ih => rw [List.reverse_cons]; exact h1 _ _ ih
theorem modify_last {α : Type} (l : List α) (x : α) (f : α → α) {k : Nat} (h : k = l.length) : (l ++ [x]).modify k f = l ++ [f x] := by
 subst h
 refine List.ext_getElem? fun j => ?_
 rw [List.getElem?_modify]
 by_cases e : l.length = j
 ·subst e; simp
 ·simp only [e, if_false]
  rw [show ((fun a => a) <$> (l ++ [x])[j]?) = (l ++ [x])[j]? by simp]
  by_cases hj : j < l.length
  ·rw [List.getElem?_append_left hj, List.getElem?_append_left hj]
  ·rw [List.getElem?_eq_none (by simp; omega), List.getElem?_eq_none (by simp; omega)]
theorem putO_fill {w : Nat} {cur L : List Cel} (h : cur.length + L.length ≤ w) : putO (cur ++ blanksL (w - cur.length)) cur.length L = (cur ++ L) ++ blanksL (w - (cur ++ L).length) := by
 unfold putO blanksL
 rw [List.take_left', List.drop_append, List.drop_eq_nil_of_le (by omega), List.nil_append, List.drop_replicate, List.length_append]
 ·congr 2
  omega
 ·rfl
theorem putP_here {w : Nat} {done : List LR} {cur : List Cel} {x : Cel} (hx : (both x).length + cur.length ≤ w) : putP w (fill w (done, cur)) ((done.length, cur.length), x) = fill w (done, cur ++ both x) := by
 unfold putP fill
 simp only
 rw [if_neg (by simp), modify_last _ _ _ rfl, putO_fill (by omega)]
theorem putP_next {w : Nat} {done : List LR} {cur : List Cel} {x : Cel} (hx : (both x).length ≤ w) : putP w (fill w (done, cur)) ((done.length + 1, 0), x) = fill w (done ++ [(true, cur ++ blanksL (w - cur.length))], both x) := by
 unfold putP fill
 simp only [List.length_append, List.length_cons, List.length_nil, Nat.zero_add]
 rw [if_pos trivial, modify_last done _ _ (by omega), modify_last (done ++ [(true, cur ++ blanksL (w - cur.length))]) _ _ (by simp)]
 congr 3
 have := putO_fill (w := w) (cur := []) (L := both x) (by simpa using hx)
 simpa using this
theorem lay_inv {w : Nat} (hw : 2 ≤ w) (l : List Cel) (hl : ∀ x ∈ l, W12 x) :
  (posOut w l).1 = ((layS w l).1.length, (layS w l).2.length) ∧ (layS w l).2.length ≤ w ∧ putPs w (posOut w l).2 = layL w l := by
 revert hl
 refine snoc_ind (P := fun l => (∀ x ∈ l, W12 x) → (posOut w l).1 = ((layS w l).1.length, (layS w l).2.length) ∧ (layS w l).2.length ≤ w ∧ putPs w (posOut w l).2 = layL w l) ?_ ?_ l
 ·exact fun _ => ⟨rfl, Nat.zero_le _, by simp [putPs, posOut, layL, layS, fill]⟩
 ·intro l x ih hl
  obtain ⟨h1, h2, h3⟩ := ih (fun y hy => hl y (by simp [hy]))
  have hx := hl x (by simp)
  have hb := both_length hx
  have hb2 : wd x ≤ 2 ∧ 1 ≤ wd x := by unfold wd; rcases hx with h | h <;> simp [h]
  rw [posOut_snoc, layL, layS_snoc]
  obtain ⟨⟨⟨r, c⟩, out⟩, hp⟩ : ∃ z, posOut w l = z := ⟨_, rfl⟩
  obtain ⟨⟨done, cur⟩, hs⟩ : ∃ z, layS w l = z := ⟨_, rfl⟩
  rw [hp] at h1 h3
  rw [layL, hs] at h3
  rw [hs] at h1 h2
  simp only [Prod.mk.injEq] at h1 h2
  obtain ⟨rfl, rfl⟩ := h1
  rw [hp, hs]
  unfold pstep lstep
  simp only
  by_cases hc : w < cur.length + wd x
  ·rw [if_pos hc, if_pos hc]
   refine ⟨by simp [hb], by simp only; omega, ?_⟩
   by_cases hc2 : cur.length < w
   ·rw [if_pos hc2, if_pos hc2, List.cons_append, List.nil_append, show out ++ [((done.length, cur.length), padL), ((done.length + 1, 0), x)] = (out ++ [((done.length, cur.length), padL)]) ++ [((done.length + 1, 0), x)] by simp]
    have hpl : both padL = [padL] := by decide
    rw [putPs_snoc, putPs_snoc, h3, putP_here (by rw [hpl]; simp; omega), putP_next (by omega), hpl]
    rw [show w - (cur ++ [padL]).length = 0 by simp; omega]
    simp [blanksL]
   ·rw [if_neg hc2, if_neg hc2, List.nil_append, putPs_snoc, h3, putP_next (by omega), show w - cur.length = 0 by omega]
    simp [blanksL]
  ·rw [if_neg hc, if_neg hc]
   refine ⟨by simp [hb], by simp only [List.length_append]; omega, ?_⟩
   rw [putPs_snoc, h3, putP_here (by omega)]
def okC (c : Cel) : Bool := hasB c.1 c.2.1 c.2.2 && mayB c
def lineB (l : List Cel) : Bool := l.all okC
theorem okC_w {x : Cel} (h : okC x = true) : W12 x := by
 simp only [okC, hasB, Bool.and_eq_true, Bool.or_eq_true, beq_iff_eq] at h
 exact h.1.1
theorem okC_sign {x : Cel} (h : okC x = true) : signC x = true := by
 have hw := okC_w h
 simp only [okC, hasB, Bool.and_eq_true] at h
 unfold signC padC
 rw [h.1.2]
 rcases hw with e | e <;> simp [e]
theorem okC_may {x : Cel} (h : okC x = true) : mayB x = true := by
 simp only [okC, Bool.and_eq_true] at h
 exact h.2
theorem both_sign {x : Cel} (h : okC x = true) : (both x).filter signC = [x] := by
 have := okC_sign h
 unfold both
 split
 ·rw [List.filter_cons_of_pos this, List.filter_cons_of_neg (by simp [signC]), List.filter_nil]
 ·rw [List.filter_cons_of_pos this, List.filter_nil]
theorem mayGo_both {tail : List Cel} (ht : ∀ q : Cel, q.2.1 ≠ 2 → mayGo q tail = true) : ∀ (xs : List Cel) (p : Cel), xs.all okC = true → p.2.1 ≠ 2 → mayGo p (xs.flatMap both ++ tail) = true
 | [], p, _, hp => by simpa using ht p hp
 | x :: xs, p, hx, hp => by
  simp only [List.all_cons, Bool.and_eq_true] at hx
  have hw := okC_w hx.1
  have hm := okC_may hx.1
  have p2 : (p.2.1 == 2) = false := by simpa using hp
  rcases hw with e | e
  ·have ih := mayGo_both ht xs x hx.2 (by omega)
   rw [List.flatMap_cons, show both x = [x] by unfold both; rw [if_neg (by omega)], List.cons_append, List.nil_append, List.cons_append, mayGo, hm, p2, ih]
   simp [e]
  ·have ih := mayGo_both ht xs (0, 0, x.2.2) hx.2 (by simp)
   rw [List.flatMap_cons, show both x = [x, (0, 0, x.2.2)] by unfold both; rw [if_pos e]]
   simp only [List.cons_append, List.nil_append, mayGo, hm, p2, ih, e]
   have hz : mayB (0, 0, x.2.2) = true := by
    simp only [mayB, Bool.and_eq_true] at hm ⊢
    exact ⟨hm.1, by simp⟩
   simp [hz]
theorem mayGo_blanks : ∀ (n : Nat) (q : Cel), q.2.1 ≠ 2 → mayGo q (blanksL n) = true
 | 0, q, hq => by simp [blanksL, mayGo, hq]
 | n + 1, q, hq => by
  have ih := mayGo_blanks n (32, 1, 0) (by simp)
  have hq' : (q.2.1 == 2) = false := by simpa using hq
  unfold blanksL at ih ⊢
  rw [List.replicate_succ, mayGo, mayB_blank, ih, hq']
  simp
theorem mayGo_pad (q : Cel) (hq : q.2.1 ≠ 2) : mayGo q [padL] = true := by
 have hq' : (q.2.1 == 2) = false := by simpa using hq
 simp [mayGo, padL, mayB, hq']
structure Lay (w : Nat) (l : List Cel) (s : List LR × List Cel) : Prop where
 len : ∀ r ∈ s.1, r.2.length = w
 wrap : ∀ r ∈ s.1, r.1 = true
 may : ∀ r ∈ s.1, mayL r.2 = true
 cur : ∃ xs, s.2 = xs.flatMap both ∧ xs.all okC = true ∧ s.1.flatMap cellsR ++ xs = l
 few : s.2.length ≤ w
theorem flat_signs : ∀ {xs : List Cel}, xs.all okC = true → (xs.flatMap both).filter signC = xs
 | [], _ => rfl
 | x :: xs, h => by
  simp only [List.all_cons, Bool.and_eq_true] at h
  rw [List.flatMap_cons, List.filter_append, both_sign h.1, flat_signs h.2]
  rfl
theorem lay_is {w : Nat} (hw : 2 ≤ w) (hw2 : w ≤ 300) (l : List Cel) (hl : lineB l = true) : Lay w l (layS w l) := by
 revert hl
 refine snoc_ind (P := fun l => lineB l = true → Lay w l (layS w l)) ?_ ?_ l
 ·exact fun _ => ⟨fun _ h => (by cases h), fun _ h => (by cases h), fun _ h => (by cases h), ⟨[], rfl, rfl, rfl⟩, Nat.zero_le _⟩
 ·intro l x ih hl
  unfold lineB at hl ih
  rw [List.all_append, Bool.and_eq_true] at hl
  have hx : okC x = true := by simpa using hl.2
  obtain ⟨h1, h2, h3, ⟨xs, e1, e2, e3⟩, h5⟩ := ih hl.1
  have hb := both_length (okC_w hx)
  have hb2 : wd x ≤ 2 ∧ 1 ≤ wd x := by unfold wd; rcases okC_w hx with h | h <;> simp [h]
  rw [layS_snoc]
  obtain ⟨⟨done, cur⟩, hs⟩ : ∃ z, layS w l = z := ⟨_, rfl⟩
  rw [hs] at h1 h2 h3 e1 e3 h5 ⊢
  try simp only at h1 h2 h3 e1 e3 h5
  unfold lstep
  simp only
  by_cases hc : w < cur.length + wd x
  ·rw [if_pos hc]
   obtain ⟨row, hrow⟩ : ∃ row, (if cur.length < w then cur ++ [padL] else cur) = row := ⟨_, rfl⟩
   have hrl : row.length = w := by rw [← hrow]; split <;> (try rw [List.length_append, List.length_singleton]) <;> omega
   have hrm : mayL row = true := by
    unfold mayL
    rw [Bool.and_eq_true, decide_eq_true_eq]
    refine ⟨by omega, ?_⟩
    rw [← hrow, e1]
    split
    ·exact mayGo_both mayGo_pad xs _ e2 (by simp)
    ·have := mayGo_both (tail := []) (fun q hq => by simp [mayGo, hq]) xs (32, 1, 0) e2 (by simp)
     simpa using this
   have hrc : cellsR (true, row) = xs := by
    unfold cellsR
    simp only
    rw [if_pos hrm, ← hrow, e1]
    split
    ·rw [List.filter_append, flat_signs e2]
     simp [padL, signC, padC, isB]
    ·exact flat_signs e2
   rw [hrow]
   refine ⟨fun r hr => ?_, fun r hr => ?_, fun r hr => ?_, ⟨[x], by simp, by simpa using hx, ?_⟩, by show (both x).length ≤ w; omega⟩
   ·rcases List.mem_append.1 hr with hr | hr
    ·exact h1 r hr
    ·rw [List.mem_singleton.1 hr]; exact hrl
   ·rcases List.mem_append.1 hr with hr | hr
    ·exact h2 r hr
    ·rw [List.mem_singleton.1 hr]
   ·rcases List.mem_append.1 hr with hr | hr
    ·exact h3 r hr
    ·rw [List.mem_singleton.1 hr]; exact hrm
   ·rw [List.flatMap_append, List.flatMap_cons, hrc, List.flatMap_nil, List.append_nil, e3]
  ·rw [if_neg hc]
   refine ⟨h1, h2, h3, ⟨xs ++ [x], by rw [List.flatMap_append, e1]; simp, by simp [e2, hx], by rw [← List.append_assoc]; exact congrArg (· ++ [x]) e3⟩, by simp only [List.length_append]; omega⟩
theorem layL_is {w : Nat} (hw : 2 ≤ w) (hw2 : w ≤ 300) {l : List Cel} (hl : lineB l = true) :
  ∃ done last, layL w l = done ++ [(false, last)] ∧ (∀ r ∈ done, r.1 = true) ∧ (∀ r ∈ layL w l, r.2.length = w ∧ mayL r.2 = true) ∧ ∃ n, (layL w l).flatMap cellsR = l ++ blanksL n := by
 obtain ⟨h1, h2, h3, ⟨xs, e1, e2, e3⟩, h5⟩ := lay_is hw hw2 l hl
 have hm : mayL ((layS w l).2 ++ blanksL (w - (layS w l).2.length)) = true := by
  unfold mayL
  rw [Bool.and_eq_true, decide_eq_true_eq]
  refine ⟨by simp [blanksL]; omega, ?_⟩
  rw [e1]
  exact mayGo_both (mayGo_blanks _) xs _ e2 (by simp)
 refine ⟨_, _, rfl, h2, fun r hr => ?_, w - (layS w l).2.length, ?_⟩
 ·rcases List.mem_append.1 hr with hr | hr
  ·exact ⟨h1 r hr, h3 r hr⟩
  ·rw [List.mem_singleton.1 hr]
   exact ⟨by simp [blanksL]; omega, hm⟩
 ·unfold layL fill
  rw [List.flatMap_append, List.flatMap_cons, List.flatMap_nil, List.append_nil, ← e3, List.append_assoc, e3]
  congr 1
  unfold cellsR
  simp only
  rw [if_pos hm, List.filter_append, e1, flat_signs e2]
  congr 1
  unfold blanksL
  rw [List.filter_eq_self]
  intro a ha
  rw [(List.mem_replicate.1 ha).2]
  decide
/-! How many rows a line takes, and where Pads are. -/
def padsL (l : List Cel) : Nat := (l.filter padC).length
def padsR (rs : List LR) : Nat := (rs.map fun r => padsL r.2).sum
def wideL (l : List Cel) : Nat := (l.map wd).sum
structure Room (w : Nat) (l : List Cel) (s : List LR × List Cel) : Prop where
 pads : ∀ r ∈ s.1, padsL r.2 ≤ 1 ∧ ∀ k c, r.2[k]? = some c → padC c = true → k + 1 = w
 cur : ∃ xs : List Cel, s.2 = xs.flatMap both ∧ xs.all okC = true
 sum : wideL l + padsR s.1 = w * s.1.length + s.2.length
 some : s.1 ≠ [] → s.2 ≠ []
end Ln
end Go.Proofs.YtgmijnnhanpocaaGreatDoor
namespace Go.Proofs.YtgmijnnhanpocaaGreatDoor
open Go.RowKit
section
variable {P : Program}
abbrev Laid (A B : World) : Prop := Below A.heap.size A B
def Tells (P : Program) (g : Nat) (lb : Array Value) (N : Nat) (Fit : Nat → Array Value → World → Prop) (Kp : World → World → Prop) (w : World) : Prop :=
 ∀ (l : Nat) (J Jx : Nat → World → Prop) (W : World), Laid w W → (∀ k A B, J k A → Laid A B → J k B) → (∀ k A B, Jx k A → Laid A B → Jx k B) →
  (∀ k x W1, k < N → J k W1 → Fit k x W1 → YieldAt Fence.wide 1 P l x W1 fun e W' => (e = .returned (.bool true) ∧ J (k + 1) W' ∧ Kp W1 W') ∨ (e = .returned (.bool false) ∧ Jx (k + 1) W')) →
  J 0 W → CallsIn Fence.wide 2 P g (#[.func (.yield l) #[] #[]] ++ lb) W fun e W' => (∃ v, e = .returned v) ∧ (J N W' ∨ ∃ k, k < N ∧ Jx (k + 1) W')
def overPost (B : Nat) (Kp : World → World → Prop) (I : Nat → World → Prop) (Ix : Code → Nat → World → Prop) (k : Nat) (W : World) : Exit → Act → World → Prop
 | .normal, _, W' => KeepsFrom B W W' ∧ Kp W W' ∧ I k W'
 | .ret, _, W' => KeepsFrom B W W' ∧ Ix .ret k W'
 | .exit id, _, W' => KeepsFrom B W W' ∧ Ix (.exit id) k W'
 | .goto t, _, W' => KeepsFrom B W W' ∧ Ix (.goto t) k W'
 | .panic _, _, _ => False
 | .outgrown, _, _ => False
def Stays (B : Nat) (p : World → Prop) : Prop := ∀ (W : World) (l : Nat) (o o' : Obj), B ≤ l → W.heap[l]? = some o → o.isCells = false → p W → p (W.putObj l o')
def Grows (p : World → Prop) : Prop := ∀ A B, p A → Laid A B → p B
theorem wp_over {g : Operand} {ps : Array Tmp} {assign body : Code} {Q : Exit → Act → World → Prop} {a : Act} {w : World} {gf : Nat} {lb : Array Value} {N : Nat} {Fit : Nat → Array Value → World → Prop} {Kp : World → World → Prop}
  (hg : a.eval g = .func (.func gf) #[] lb) (eg : ∀ args w, (callFunc gf args).run P w = .ok (.enter gf args) w) (hT : Tells P gf lb N Fit Kp w)
  (hKt : ∀ {A B C : World}, Kp A B → Kp B C → Kp A C) (hKa : ∀ A B : World, w.heap.size ≤ A.heap.size → Laid A B → Kp A B) (hKb : ∀ (W : World) (l : Nat) (o o' : Obj), w.heap.size ≤ l → W.heap[l]? = some o → o.isCells = false → Kp W (W.putObj l o'))
  (hps : ∀ k x W, Fit k x W → x.size = ps.size) (I : Nat → World → Prop) (Ix : Code → Nat → World → Prop)
  (hI : ∀ k, Grows (I k)) (hI' : ∀ k, Stays w.heap.size (I k)) (hIx : ∀ c k, Grows (Ix c k)) (hIx' : ∀ c k, Stays w.heap.size (Ix c k)) (h0 : I 0 w)
  (hround : ∀ (l k : Nat) (x : Array Value) (W : World), k < N → w.heap.size ≤ l → (∃ o : Obj, W.heap[l]? = some o ∧ o.isCells = false) → I k W → Fit k x W →
   assign.wpIn (Fence.wide.inRound l) 1 P (Exit.then (fun a₁ W₁ => Laid W W₁ ∧ ∀ o : Obj, body.wpIn (Fence.wide.inRound l) 1 P (overPost w.heap.size Kp I Ix (k + 1) (W₁.putObj l o)) a₁ (W₁.putObj l o)) (fun _ _ _ => False))
    {tmps := (ps.zip x).foldl (fun t (p, v) => t.setIfInBounds p v) a.tmps, defers := [] } W)
  (hdone : ∀ (D : Nat) (W : World), w.heap.size ≤ D → I N W → W.heap[D]? = some (.deferred (some [])) → Q .normal { a with defers := { target := .collected D, args := #[] } :: a.defers } W)
  (hstop : ∀ (D k : Nat) (c : Code) (W : World), w.heap.size ≤ D → k < N → Ix c (k + 1) W → W.heap[D]? = some (.deferred (some [])) → c.wp P Q { a with defers := { target := .collected D, args := #[] } :: a.defers } W) :
  (Code.rangeFunc g ps assign body).wp P Q a w := by
 refine (wpIn_wide (n := 3)).1 (wpIn_rangeFunc fun fn hfn => ?_)
 obtain ⟨S, hS⟩ : ∃ S, w.heap.size = S := ⟨_, rfl⟩
 obtain ⟨rc, hrc⟩ : ∃ rc : LoopState → Option Code → Loop, rc = fun st pe => { state := st, pending := pe, fn, tmps := a.tmps, params := ps, assign, body, defers := w.heap.size } := ⟨_, rfl⟩
 have hwith : ∀ (st st' : LoopState) (pe pe' : Option Code), ({ rc st pe with state := st', pending := pe' } : Loop) = rc st' pe' := fun _ _ _ _ => by rw [hrc]
 have hbegin : ({ rc .ready none with state := .busy } : Loop) = rc .busy none := by rw [hrc]
 have hstate : ∀ st pe, (rc st pe).state = st ∧ (rc st pe).pending = pe := fun _ _ => by rw [hrc]; exact ⟨rfl, rfl⟩
 have hend : ∀ st pe, ({ rc st pe with state := .exhausted } : Loop) = rc .exhausted pe := fun _ _ => by rw [hrc]
 let At (st : LoopState) (pe : Option Code) (W : World) : Prop := W.heap[S + 1]? = some (.loop (rc st pe)) ∧ W.heap[S]? = some (.deferred (some []))
 have hAtG : ∀ {st pe A B}, At st pe A → Laid A B → At st pe B := fun h hb =>
  ⟨(hb.block _ (Array.getElem?_eq_some_iff.1 h.1).1).trans h.1, (hb.block _ (Array.getElem?_eq_some_iff.1 h.2).1).trans h.2⟩
 have hPut : ∀ {st pe W} (st' : LoopState) (pe' : Option Code), At st pe W → At st' pe' (W.putObj (S + 1) (.loop (rc st' pe'))) := fun st' pe' h =>
  ⟨World.putObj_heap_same (Array.getElem?_eq_some_iff.1 h.1).1, (World.putObj_heap_other (by omega)).trans h.2⟩
 have hAtK : ∀ {st pe A B}, At st pe A → KeepsFrom S A B → At st pe B := fun h hk => ⟨hk.same _ _ (by omega) h.1 rfl, hk.same _ _ (Nat.le_refl _) h.2 rfl⟩
 obtain ⟨W1, hW1⟩ : ∃ W1, (w.alloc (.deferred (some []))).alloc (.loop (rc .ready none)) = W1 := ⟨_, rfl⟩
 have hL : Laid w W1 := by rw [← hW1]; exact ((Below.refl _ w).alloc (Nat.le_refl _) _).alloc (by simp) _
 have h1 : At .ready none W1 := by
  constructor
  ·rw [← hW1, ← hS]
   have := World.alloc_heap_new (w.alloc (.deferred (some []))) (.loop (rc .ready none))
   rwa [World.size_alloc] at this
  ·rw [← hW1, ← hS]
   exact (Below.heap_alloc _ _ _ (by simp)).trans (World.alloc_heap_new w _)
 refine ⟨w.heap.size + 1, [{ target := .collected w.heap.size, args := #[] }], W1, { target := .fn (.func gf) lb, args := #[.func (.yield (w.heap.size + 1)) #[] #[]] }, W1, gf, #[.func (.yield (w.heap.size + 1)) #[] #[]] ++ lb, W1,
  by rw [← hW1, hrc]; exact run_enterLoop_outer _ _ _ _ _, by simp only [resolve, hg]; simp [go_sem], fun f' hf' => trivial, by simp [invoke, go_sem, eg], (fun _ => by decide), ?_⟩
 rw [hS] at hKa hKb hI' hIx' hround hdone hstop ⊢
 have big : ∀ {st pe W}, At st pe W → S ≤ W.heap.size := fun h => by have := (Array.getElem?_eq_some_iff.1 h.2).1; omega
 refine (hT (S + 1) (fun k W => I k W ∧ At .ready none W) (fun k W => ∃ c, Ix c k W ∧ At .done (some c) W) W1 hL
  (fun k A B h hb => ⟨hI k A B h.1 hb, hAtG h.2 hb⟩) (fun k A B h hb => by obtain ⟨c, h1, h2⟩ := h; exact ⟨c, hIx c k A B h1 hb, hAtG h2 hb⟩) ?_ ⟨hI 0 _ _ h0 hL, h1⟩).mono ?_
 ·rintro k x W hk ⟨hi, hat⟩ hf
  have hy := run_yield (P := P) (args := x) hat.1 (by rw [hrc]; exact hps k x W hf)
  rw [hrc] at hy
  refine ⟨fn, _, assign, body, hy, roundIn_of_wpIn hfn (wpIn_mono (hround _ k x W hk (by omega) ⟨_, hat.1, rfl⟩ hi hf) ?_)⟩
  rintro e a₁ W2 hp
  cases e with
  | normal => ?_
  | ret => exact hp.elim
  | exit id => exact hp.elim
  | goto t => exact hp.elim
  | panic _ => exact hp.elim
  | outgrown => exact hp.elim
  obtain ⟨hL2, hbody⟩ := hp
  have hat2 := hAtG hat hL2
  refine ⟨_, run_beginRound hat2.1 (hstate _ _).1, ?_⟩
  rw [hbegin]
  have hat3 : At .busy none (W2.putObj (S + 1) (.loop (rc .busy none))) := hPut .busy none hat2
  have hK3 : Kp W (W2.putObj (S + 1) (.loop (rc .busy none))) := hKt (hKa _ _ (big hat) hL2) (hKb _ _ _ _ (by omega) hat2.1 rfl)
  refine wpIn_mono (hbody (.loop (rc .busy none))) ?_
  have fin : ∀ (jump : Option Code) (W3 : World), KeepsFrom S (W2.putObj (S + 1) (.loop (rc .busy none))) W3 →
    At .busy none W3 ∧ (Instr.endRound (S + 1) jump).run P W3 = .ok (.bool jump.isNone) (W3.putObj (S + 1) (.loop (rc (if jump.isNone then .ready else .done) jump))) := fun jump W3 hk3 => by
   have h3 := hAtK hat3 hk3
   have := run_endRound (P := P) jump h3.1
   rw [hwith] at this
   exact ⟨h3, this⟩
  rintro e a3 W3 hp
  cases e with
  | normal =>
   obtain ⟨hk3, hkp, hi3⟩ := hp
   obtain ⟨h3, hr⟩ := fin none W3 hk3
   exact ⟨_, _, hr, .inl ⟨rfl, ⟨hI' _ _ _ _ _ (by omega) h3.1 rfl hi3, hPut .ready none h3⟩, hKt (hKt hK3 hkp) (hKb _ _ _ _ (by omega) h3.1 rfl)⟩⟩
  | ret =>
   obtain ⟨hk3, hi3⟩ := hp
   obtain ⟨h3, hr⟩ := fin (some .ret) W3 hk3
   exact ⟨_, _, hr, .inr ⟨rfl, .ret, hIx' _ _ _ _ _ _ (by omega) h3.1 rfl hi3, hPut .done _ h3⟩⟩
  | exit id =>
   obtain ⟨hk3, hi3⟩ := hp
   obtain ⟨h3, hr⟩ := fin (some (.exit id)) W3 hk3
   exact ⟨_, _, hr, .inr ⟨rfl, .exit id, hIx' _ _ _ _ _ _ (by omega) h3.1 rfl hi3, hPut .done _ h3⟩⟩
  | goto t =>
   obtain ⟨hk3, hi3⟩ := hp
   obtain ⟨h3, hr⟩ := fin (some (.goto t)) W3 hk3
   exact ⟨_, _, hr, .inr ⟨rfl, .goto t, hIx' _ _ _ _ _ _ (by omega) h3.1 rfl hi3, hPut .done _ h3⟩⟩
  | panic _ => exact hp.elim
  | outgrown => exact hp.elim
 ·have leave : ∀ {st pe W2}, At st pe W2 → st ≠ .busy → (Instr.endLoop (S + 1)).run P W2 = .ok pe (W2.putObj (S + 1) (.loop (rc .exhausted pe))) ∧ (W2.putObj (S + 1) (.loop (rc .exhausted pe))).heap[S]? = some (.deferred (some [])) := fun {st pe W2} h hb => by
   have := run_endLoop (P := P) h.1 (by rw [(hstate _ _).1]; exact hb)
   rw [hend, (hstate _ _).2] at this
   exact ⟨this, (World.putObj_heap_other (by omega)).trans h.2⟩
  rintro e W2 ⟨⟨v, rfl⟩, ⟨hi, hat⟩ | ⟨k, hk, c, hi, hat⟩⟩
  ·obtain ⟨hr, hd⟩ := leave hat (by simp)
   exact ⟨none, _, hr, hdone S _ (Nat.le_refl _) (hI' _ _ _ _ _ (by omega) hat.1 rfl hi) hd⟩
  ·obtain ⟨hr, hd⟩ := leave hat (by simp)
   exact ⟨some c, _, hr, wpIn_wide.2 (hstop S k c _ (Nat.le_refl _) hk (hIx' _ _ _ _ _ _ (by omega) hat.1 rfl hi) hd)⟩
end
end Go.Proofs.YtgmijnnhanpocaaGreatDoor
namespace Go.Proofs.YtgmijnnhanpocaaGreatDoor
open Go.ChangeShapes Go.WideShapes Go.ChangeAt Go.RowKit
namespace Ln
open Rw
attribute [local go_sem] Oper.semAt_some
def lr (x : RowIn) : LR := (x.wrap, x.l)
structure Rws (W : World) (B : Nat) (A : Option Addr) (n : Nat) (rs : List RowIn) : Prop where
 each : ∀ r ∈ rs, r.Ok W B
 sq : Sq W B 2 n A (rs.flatMap RowIn.vals)
theorem rvals_length : ∀ (xs : List RowIn), (xs.flatMap RowIn.vals).length = xs.length * 2
 | [] => rfl
 | x :: xs => by rw [List.flatMap_cons, List.length_append, rvals_length xs, List.length_cons]; show 2 + _ = _; omega
theorem rvals_drop (xs : List RowIn) (k : Nat) : (xs.drop k).flatMap RowIn.vals = (xs.flatMap RowIn.vals).drop (k * 2) := by
 induction k generalizing xs with
 | zero => simp
 | succ k ih =>
  cases xs with
  | nil => simp
  | cons x xs =>
   rw [List.drop_succ_cons, ih, List.flatMap_cons, show (k + 1) * 2 = k * 2 + 1 + 1 by omega]
   rfl
namespace Rws
variable {W W' : World} {B B' n : Nat} {A : Option Addr} {rs : List RowIn}
theorem len (h : Rws W B A n rs) : rs.length = n := by have := h.sq.len; rw [rvals_length] at this; omega
theorem kept (h : Rws W B A n rs) (hk : ∀ j, j < B → W'.heap[j]? = W.heap[j]?) : Rws W' B A n rs := by
 have hc : ∀ p : Addr, p.block < B → W'.cell? p = W.cell? p := fun p hp => by unfold World.cell?; rw [hk p.block hp]
 exact ⟨fun r hr => ⟨(h.each r hr).le, (h.each r hr).cap, (h.each r hr).signs, (h.each r hr).sq.carry hc⟩, h.sq.carry hc⟩
theorem below (h : Rws W B A n rs) (hb : Below B W W') : Rws W' B A n rs := ⟨fun r hr => (h.each r hr).below hb, h.sq.below hb⟩
theorem up (h : Rws W B A n rs) (hb : B ≤ B') : Rws W B' A n rs := ⟨fun r hr => (h.each r hr).up hb, h.sq.up hb⟩
theorem take (h : Rws W B A n rs) {m : Nat} (hm : m ≤ n) : Rws W B A m (rs.take m) := by
 have hl := h.len
 refine ⟨fun r hr => h.each r (List.mem_of_mem_take hr), by rw [rvals_length, List.length_take]; omega, fun hn => ?_⟩
 obtain ⟨b, off, e, hb, hc⟩ := h.sq.spot (by omega)
 refine ⟨b, off, e, hb, fun j u hu => hc j u ?_⟩
 have e2 : rs.flatMap RowIn.vals = (rs.take m).flatMap RowIn.vals ++ (rs.drop m).flatMap RowIn.vals := by rw [← List.flatMap_append, List.take_append_drop]
 rw [e2, List.getElem?_append_left (List.getElem?_eq_some_iff.1 hu).1]
 exact hu
theorem drop (h : Rws W B A n rs) {m c : Nat} (hm : m ≤ n) (hc : n ≤ c) : Rws W B (if c = m then A else A.map (·.add (m * 2))) (n - m) (rs.drop m) := by
 have hl := h.len
 refine ⟨fun r hr => h.each r (List.mem_of_mem_drop hr), by rw [rvals_length, List.length_drop]; omega, fun hn => ?_⟩
 obtain ⟨b, off, rfl, hb, hcl⟩ := h.sq.spot (by omega)
 rw [if_neg (by omega)]
 refine ⟨b, off + m * 2, by rw [Option.map_some, add_at], hb, fun j u hu => ?_⟩
 rw [rvals_drop, List.getElem?_drop] at hu
 rw [Nat.add_assoc]
 exact hcl _ _ hu
end Rws
set_option maxRecDepth 100000 in
theorem cut_low (w : World) (A : Option Addr) (n c m : Nat) (h : m ≤ n) : (Instr.sliceAt 22 (.slice A n c) (some (.int .i64 (m : Int))) none none).run Tryz.prog w = .ok (.slice (if c = m then A else A.map (·.add (m * 2))) (n - m) (c - m)) w := by
 have hz : (sizeOf (Tryz.prog.elem 22)).run Tryz.prog w = .ok 2 w := by kernel_rfl
 rw [run_sliceAt_slice _ _ _ _ _ _ Tryz.underlying22, run_slice_l _ _ _ _ _ Tryz.underlying22 _ _ (by omega) (by omega), hz]
 simp [Result.andThen, sliced]
set_option maxRecDepth 100000 in
set_option maxHeartbeats 1600000 in
theorem goesOn_walk (A : Option Addr) (n c : Nat) (wrap : Bool) (l : List Cel) (w : World) (hs : Spans w) (hl : ∀ c ∈ l, -2147483648 ≤ c.1 ∧ c.1 ≤ 2147483647) (hq : Sq w w.heap.size 3 n A (flat l)) :
  Calls Tryz.prog 75 #[rowV A n c wrap] w fun e w' => e = .returned (.bool (goes (wrap, l))) ∧ Below w.heap.size w w' := by
 have b1 : Below w.heap.size w (w.alloc (.cells #[.slice A n c, .bool wrap] 48)) := (Below.refl _ _).alloc (Nat.le_refl _) _
 have PM := Lib.hid (packMay_any A n c wrap l _ (hs.below b1 hs.size) hl ((hq.below b1).up b1.size))
 have B1 := Lib.hid b1
 have q0 : (w.alloc (.cells #[.slice A n c, .bool wrap] 48)).cell? ⟨w.heap.size, 0, none⟩ = some (.slice A n c) := cell_of_row _ _ 0 _ _ (0, 0) (heap_alloc_new w _)
 have q1 : (w.alloc (.cells #[.slice A n c, .bool wrap] 48)).cell? ⟨w.heap.size, 1, none⟩ = some (.bool wrap) := cell_of_row _ _ 1 _ _ (0, 0) (heap_alloc_new w _)
 obtain ⟨g, hg⟩ : ∃ g, goes (wrap, l) = g := ⟨_, rfl⟩
 have G := Lib.hid hg
 obtain ⟨w1, hw1⟩ : ∃ w1, w.alloc (.cells #[.slice A n c, .bool wrap] 48) = w1 := ⟨_, rfl⟩
 have HW := Lib.hid hw1
 rw [hw1] at PM B1 q0 q1
 rw [hg]
 clear b1 hs hl hq hg hw1
 cases wrap
 ·go_enter Tryz.func75, Tryz.ntmps75
  go_upto_region 1 with fail
  rw [HW.out]
  go_wp2_with fail
  go_ret
  exact ⟨ret_bool (by rw [← G.out]; rfl), B1.out⟩
 ·go_enter Tryz.func75, Tryz.ntmps75
  go_upto_region 1 with fail
  rw [HW.out]
  go_wp2_with fail
  refine PM.out.mono ?_
  rintro e w2 ⟨rfl, b2⟩
  have B2 := Lib.hid (B1.out.trans (b2.mono B1.out.size))
  clear b2 PM q0 q1
  go_wp2
  go_ret
  exact ⟨ret_bool (by rw [← G.out]; rfl), B2.out⟩
end Ln
end Go.Proofs.YtgmijnnhanpocaaGreatDoor
namespace Go.Proofs.YtgmijnnhanpocaaGreatDoor
open Go.ChangeShapes Go.WideShapes Go.ChangeAt Go.RowKit
namespace Ln
open Rw
attribute [local go_sem] Oper.semAt_some
theorem spans_kept {W W' : World} {S : Nat} (h : Spans W) (hS : 0 < S) (hz : W.heap.size ≤ W'.heap.size) (hk : ∀ j, j < S → W'.heap[j]? = W.heap[j]?) : Spans W' := by
 have hc : ∀ k, W'.cell? ⟨0, k, none⟩ = W.cell? ⟨0, k, none⟩ := fun k => by unfold World.cell?; rw [hk _ hS]
 exact ⟨Nat.lt_of_lt_of_le h.size hz, fun i hi => (hc _).trans (h.first i hi), fun i hi => (hc _).trans (h.last i hi), fun i hi => (hc _).trans (h.wide i hi)⟩
structure PSrc (S Bx : Nat) (A : Option Addr) (n c : Nat) (rs : List RowIn) (W : World) : Prop where
 sp : Spans W
 lt : 0 < S
 box : W.heap[Bx]? = some (.cells #[.slice A n c] 22 (0, 0))
 rows : Rws W S A n rs
 big : S ≤ W.heap.size
def Leaves (S Bx : Nat) (W W' : World) : Prop := W.heap.size ≤ W'.heap.size ∧ ∀ j, j < S ∨ j = Bx → W'.heap[j]? = W.heap[j]?
theorem Leaves.laid {S Bx : Nat} {W W' : World} (h : Laid W W') (hS : S ≤ W.heap.size) (hB : Bx < W.heap.size) : Leaves S Bx W W' :=
 ⟨h.size, fun j hj => h.block j (by rcases hj with hj | rfl <;> omega)⟩
namespace PSrc
variable {S Bx n c : Nat} {A : Option Addr} {rs : List RowIn} {W W' : World}
theorem ltb (h : PSrc S Bx A n c rs W) : Bx < W.heap.size := (Array.getElem?_eq_some_iff.1 h.box).1
theorem kept (h : PSrc S Bx A n c rs W) (hk : Leaves S Bx W W') : PSrc S Bx A n c rs W' :=
 ⟨spans_kept h.sp h.lt hk.1 fun j hj => hk.2 j (.inl hj), h.lt, (hk.2 Bx (.inr rfl)).trans h.box, h.rows.kept fun j hj => hk.2 j (.inl hj), Nat.le_trans h.big hk.1⟩
theorem laid (h : PSrc S Bx A n c rs W) (hb : Laid W W') : PSrc S Bx A n c rs W' := h.kept (Leaves.laid hb h.big h.ltb)
end PSrc
def FitP (S : Nat) (rs : List RowIn) (k : Nat) (x : Array Value) (W : World) : Prop := ∃ A n c sub, x = #[.int .i64 (k : Int), .slice A n c] ∧ (parts (rs.map lr))[k]? = some (sub.map lr) ∧ Rws W S A n sub ∧ n ≤ c
set_option maxRecDepth 100000 in
set_option maxHeartbeats 6400000 in
theorem parts_tells {S Bx : Nat} {A : Option Addr} {n c : Nat} {rs : List RowIn} {Kp : World → World → Prop} {w : World} (h : PSrc S Bx A n c rs w) (hc : n ≤ c) (hKp : ∀ A B, Kp A B → Leaves S Bx A B) (hn : n ≤ 1000000) :
  Tells Tryz.prog 74 #[.pointer (some ⟨Bx, 0, none⟩)] (parts (rs.map lr)).length (FitP S rs) Kp w := by
 intro l J Jx W hL hJ hJx hY h0
 obtain ⟨N, hN⟩ : ∃ N, (parts (rs.map lr)).length = N := ⟨_, rfl⟩
 have P0 := Lib.hid (h.laid hL)
 have R0 := Lib.hid (h.laid hL).rows
 have J0 := Lib.hid h0
 have c0 : W.cell? ⟨Bx, 0, none⟩ = some (.slice A n c) := cell_of_row _ _ 0 _ _ (0, 0) (h.laid hL).box
 have YH := Lib.hid hY
 have JH := Lib.hid (And.intro hJ hJx)
 have KH := Lib.hid hKp
 have NH := Lib.hid hN
 have NB := Lib.hid (show N ≤ 1000000 from by have h1 := parts_length_le (rs.map lr); rw [List.length_map, h.rows.len] at h1; omega)
 rw [hN] at YH ⊢
 clear hY hJ hJx hKp hN h hL h0
 refine callsIn_of_wp Tryz.func74 rfl trivial ?_ rfl
 simp only [Tryz.ntmps74, List.size_toArray, List.length_cons, List.length_nil, Nat.reduceAdd, Nat.reduceSub, Array.replicate_succ, Array.replicate_zero, List.push_toArray, List.append_toArray, List.nil_append, List.cons_append]
 refine wpIn_wide.2 (wp_scope_straight ((wpIn_wide (n := 2)).1 ?_))
 gi_wp2
 refine wpIn_label ?_
 gi_wp2
 gi_loopw [3, 4] (fun t v wr => ∃ (k n' c' : Nat) (A' : Option Addr) (sub : List RowIn), t = .int .i64 k ∧ v = .slice A' n' c' ∧ n' ≤ c' ∧ n' ≤ 1000000 ∧ Hid (rest (rs.map lr) k = sub.map lr) ∧ Hid (Rws wr S A' n' sub) ∧ Hid (PSrc S Bx A n c rs wr) ∧ Hid (J k wr) ∧ Hid (k ≤ N)) (fun _ v _ => match v with | .slice _ n _ => n | _ => 0)
 case atStart => exact ⟨0, n, c, A, rs, rfl, rfl, hc, hn, Lib.hid rfl, R0, P0, J0, Lib.hid (Nat.zero_le _)⟩
 case round =>
  obtain ⟨k, n', c', A', sub, rfl, rfl, hc', hn', RE, R, P, JJ, KN⟩ := hrel
  clear R0 P0 J0 c0
  by_cases hpos : 0 < n'
  ·have hpos' : (0 : Int) < (n' : Int) := by omega
   have hcut := cut_le (sub.map lr)
   have hsl : (sub.map lr).length = n' := by rw [List.length_map]; exact R.out.len
   rw [hsl] at hcut
   have hne : sub.map lr ≠ [] := fun e => by rw [e] at hsl; simp at hsl; omega
   have hcp := cut_pos hne
   have KL := Lib.hid (show k < N by
    have := mt (rest_nil (l := rs.map lr) (k := k)).2 (by rw [RE.out]; exact hne)
    rw [NH.out] at this
    omega)
   have hkb : k < 1000000 := by have := KL.out; have := NB.out; omega
   obtain ⟨ct, hct⟩ : ∃ ct, cut (sub.map lr) = ct := ⟨_, rfl⟩
   have CT := Lib.hid hct
   have SL := Lib.hid hsl
   rw [hct] at hcut hcp
   clear hct hsl hne
   gi_wp2
   gi_loopw [4, 15] (fun v i wx => ∃ j : Nat, v = .slice A' n' c' ∧ i = .int .i64 j ∧ j < ct ∧ Hid (Rws wx S A' n' sub) ∧ Hid (PSrc S Bx A n c rs wx) ∧ Hid (J k wx)) (fun _ i _ => n' - (intOf i).toNat)
   case atStart => exact ⟨0, rfl, rfl, by omega, R, P, JJ⟩
   case round =>
    obtain ⟨j, rfl, rfl, hj, R2, P2, J2⟩ := hrel
    clear R P JJ
    have hjn : j < n' := by omega
    obtain ⟨r, hr⟩ : ∃ r, sub[j]? = some r := ⟨_, List.getElem?_eq_getElem (by rw [R2.out.len]; exact hjn)⟩
    obtain ⟨b, off, rfl, hb, q0, q1⟩ := rows_at R2.out.sq hr hjn
    have HR := Lib.hid hr
    clear hr
    have bb : Laid wr (wr.alloc (.cells #[.slice r.A r.n r.c, .bool r.wrap] 48)) := (Below.refl _ _).alloc (Nat.le_refl _) _
    have RO := Lib.hid (R2.out.each r (List.mem_of_getElem? HR.out))
    obtain ⟨g, hg⟩ : ∃ g, goes (lr r) = g := ⟨_, rfl⟩
    have GO := Lib.hid (goesOn_walk r.A r.n r.c r.wrap r.l _ (P2.out.laid bb).sp RO.out.signs ((RO.out.sq.below (bb.mono P2.out.big)).up (Nat.le_trans P2.out.big bb.size)))
    rw [show goes (r.wrap, r.l) = g from hg] at GO
    have ST := Lib.hid (show (j + 1 < ct ↔ g = true ∧ j + 1 < n') from by
     have := cut_step (l := sub.map lr) (i := j) (r := lr r) (by rw [CT.out]; exact hj) (by rw [List.getElem?_map, HR.out]; rfl)
     rw [CT.out, SL.out, hg] at this
     exact this)
    have P3 := Lib.hid (P2.out.laid bb)
    have R3 := Lib.hid (R2.out.below (bb.mono P2.out.big))
    have J3 := Lib.hid (JH.out.1 _ _ _ J2.out bb)
    clear RO bb hg
    cases g
    ·-- the line ends, since this row does not go on
     have E := Lib.hid (show j + 1 = ct from by have := ST.out; simp at this; omega)
     have FT := Lib.hid (fun (W : World) (h : Rws W S (some ⟨b, off, none⟩) n' sub) => show FitP S rs k #[.int .i64 (k : Int), .slice (some ⟨b, off, none⟩) (j + 1) c'] W from by
      refine ⟨_, j + 1, c', sub.take (j + 1), rfl, ?_, h.take (by omega), by omega⟩
      rw [rest_part (by rw [RE.out]; intro e; have := SL.out; rw [e] at this; simp at this; omega), RE.out, CT.out, ← E.out, List.map_take])
     obtain ⟨A2, hA2⟩ : ∃ A2, (if c' = j + 1 then (some ⟨b, off, none⟩ : Option Addr) else (some ⟨b, off, none⟩ : Option Addr).map (·.add ((j + 1) * 2))) = A2 := ⟨_, rfl⟩
     have CL : ∀ w, (Instr.sliceAt 22 (.slice (some ⟨b, off, none⟩) n' c') (some (.int .i64 ((j : Int) + 1))) none none).run Tryz.prog w = .ok (.slice A2 (n' - (j + 1)) (c' - (j + 1))) w := fun w => by
      have := cut_low w (some ⟨b, off, none⟩) n' c' (j + 1) (by omega)
      rw [hA2, Int.natCast_add, Int.natCast_one] at this
      exact this
     have HA := Lib.hid hA2
     clear hA2
     gi_wp2_with (refine ⟨trivial, ?_⟩; gi_at_call 75; refine (callsIn_wide.2 GO.out).mono ?_; rintro e w3 ⟨rfl, b3⟩; (have P4 := Lib.hid (P3.out.laid b3)); (have R4 := Lib.hid (R3.out.below (b3.mono P3.out.big))); (have J4 := Lib.hid (JH.out.1 _ _ _ J3.out b3)); clear b3 P3 R3 J3 P2 R2 J2 GO q0 q1; (obtain ⟨fn, tmps, assign, body, hy, hR⟩ := YH.out _ _ _ KL.out J4.out (FT.out _ R4.out)); (have RR := Lib.hid hR); clear hR J4)
     refine RR.out.mono ?_
     rintro e W5 (⟨rfl, hJ5, hk5⟩ | ⟨rfl, hJx5⟩)
     ·have P5 := Lib.hid (P4.out.kept (KH.out _ _ hk5))
      have R5 := Lib.hid (show Rws W5 S A2 (n' - (j + 1)) (sub.drop (j + 1)) from by
       rw [← HA.out]
       exact (R4.out.kept fun i hi => (KH.out _ _ hk5).2 i (.inl hi)).drop (by omega) hc')
      have J5 := Lib.hid hJ5
      clear hJ5 hk5 hy RR P4 R4 FT
      gi_wp2
      go_roundw
      case rel =>
       refine ⟨k + 1, n' - (j + 1), c' - (j + 1), A2, sub.drop (j + 1), by go_num, rfl, by omega, by omega, Lib.hid ?_, R5, P5, J5, Lib.hid (by have := KL.out; omega)⟩
       show (rest (rs.map lr) k).drop (cut (rest (rs.map lr) k)) = _
       rw [RE.out, CT.out, ← E.out, List.map_drop]
      case measure => simp only; omega
     ·have DX := Lib.hid hJx5
      clear hJx5 hy RR P4 R4 FT
      gi_wp2
      rw [Exit.noGoto_ret]
      refine bodyPost_ret (results_none rfl _ _ _) rfl ?_
      exact ⟨⟨_, rfl⟩, .inr ⟨_, KL.out, DX.out⟩⟩
    ·by_cases hgo : j + 1 < n'
     ·have E := Lib.hid (show j + 1 < ct from ST.out.2 ⟨rfl, hgo⟩)
      have hlt : (j : Int) < (n' : Int) - 1 := by omega
      gi_wp2_with (refine ⟨trivial, ?_⟩; gi_at_call 75; refine (callsIn_wide.2 GO.out).mono ?_; rintro e w3 ⟨rfl, b3⟩; (have P4 := Lib.hid (P3.out.laid b3)); (have R4 := Lib.hid (R3.out.below (b3.mono P3.out.big))); (have J4 := Lib.hid (JH.out.1 _ _ _ J3.out b3)); clear b3 P3 R3 J3 P2 R2 J2 GO q0 q1)
      go_roundw
      case rel => exact ⟨j + 1, rfl, by go_num, E.out, R4, P4, J4⟩
      case measure => simp [intOf]; omega
     ·have hlt : ¬ (j : Int) < (n' : Int) - 1 := by omega
      have E := Lib.hid (show j + 1 = ct from by have := ST.out; simp at this; omega)
      have FT := Lib.hid (fun (W : World) (h : Rws W S (some ⟨b, off, none⟩) n' sub) => show FitP S rs k #[.int .i64 (k : Int), .slice (some ⟨b, off, none⟩) (j + 1) c'] W from by
       refine ⟨_, j + 1, c', sub.take (j + 1), rfl, ?_, h.take (by omega), by omega⟩
       rw [rest_part (by rw [RE.out]; intro e; have := SL.out; rw [e] at this; simp at this; omega), RE.out, CT.out, ← E.out, List.map_take])
      obtain ⟨A2, hA2⟩ : ∃ A2, (if c' = j + 1 then (some ⟨b, off, none⟩ : Option Addr) else (some ⟨b, off, none⟩ : Option Addr).map (·.add ((j + 1) * 2))) = A2 := ⟨_, rfl⟩
      have CL : ∀ w, (Instr.sliceAt 22 (.slice (some ⟨b, off, none⟩) n' c') (some (.int .i64 ((j : Int) + 1))) none none).run Tryz.prog w = .ok (.slice A2 (n' - (j + 1)) (c' - (j + 1))) w := fun w => by
       have := cut_low w (some ⟨b, off, none⟩) n' c' (j + 1) (by omega)
       rw [hA2, Int.natCast_add, Int.natCast_one] at this
       exact this
      have HA := Lib.hid hA2
      clear hA2
      gi_wp2_with (refine ⟨trivial, ?_⟩; gi_at_call 75; refine (callsIn_wide.2 GO.out).mono ?_; rintro e w3 ⟨rfl, b3⟩; (have P4 := Lib.hid (P3.out.laid b3)); (have R4 := Lib.hid (R3.out.below (b3.mono P3.out.big))); (have J4 := Lib.hid (JH.out.1 _ _ _ J3.out b3)); clear b3 P3 R3 J3 P2 R2 J2 GO q0 q1; (obtain ⟨fn, tmps, assign, body, hy, hR⟩ := YH.out _ _ _ KL.out J4.out (FT.out _ R4.out)); (have RR := Lib.hid hR); clear hR J4)
      refine RR.out.mono ?_
      rintro e W5 (⟨rfl, hJ5, hk5⟩ | ⟨rfl, hJx5⟩)
      ·have P5 := Lib.hid (P4.out.kept (KH.out _ _ hk5))
       have R5 := Lib.hid (show Rws W5 S A2 (n' - (j + 1)) (sub.drop (j + 1)) from by
        rw [← HA.out]
        exact (R4.out.kept fun i hi => (KH.out _ _ hk5).2 i (.inl hi)).drop (by omega) hc')
       have J5 := Lib.hid hJ5
       clear hJ5 hk5 hy RR P4 R4 FT
       gi_wp2
       go_roundw
       case rel =>
        refine ⟨k + 1, n' - (j + 1), c' - (j + 1), A2, sub.drop (j + 1), by go_num, rfl, by omega, by omega, Lib.hid ?_, R5, P5, J5, Lib.hid (by have := KL.out; omega)⟩
        show (rest (rs.map lr) k).drop (cut (rest (rs.map lr) k)) = _
        rw [RE.out, CT.out, ← E.out, List.map_drop]
       case measure => simp only; omega
      ·have DX := Lib.hid hJx5
       clear hJx5 hy RR P4 R4 FT
       gi_wp2
       rw [Exit.noGoto_ret]
       refine bodyPost_ret (results_none rfl _ _ _) rfl ?_
       exact ⟨⟨_, rfl⟩, .inr ⟨_, KL.out, DX.out⟩⟩
  ·-- nothing is left
   obtain rfl : n' = 0 := by omega
   have E := Lib.hid (show k = N from by
    have h1 := R.out.len
    obtain rfl : sub = [] := List.length_eq_zero_iff.1 h1
    have h2 := (rest_nil (l := rs.map lr) (k := k)).1 (by rw [RE.out]; rfl)
    rw [NH.out] at h2
    have := KN.out
    omega)
   have DN := Lib.hid (show J N wr from by have := JJ.out; rwa [E.out] at this)
   clear R RE
   gi_wp2
   rw [Exit.noGoto_normal]
   go_end0
   exact ⟨⟨_, rfl⟩, .inl DN.out⟩
end Ln
end Go.Proofs.YtgmijnnhanpocaaGreatDoor
