/-
  Lines that came in: a slice of slices of cells. Lines in plain words: the rows of each line; what is told of rows; a line laid out as rows, and that it is that line again; how many rows it takes. Nothing of the program but which rows may be. A range over a function that tells N things one behind the other, what it tells fitting the world in which it tells it. (Over any program.) Rows that lie somewhere, whole or in part; whether the line of a row goes on in the row behind it; the functions that line.parts and line.signs hand out. The function that line.parts hands out tells the rows of each line. The function that line.signs hands out tells the cells of rows in which a sign stands. line.parts, line.signs; line.joined: the line of the rows of one. line.Join: its round's last statement, step by step. line.Join: the lines of rows. cell.Line of any cells. The statements' own rows: of those that were drawn, not too many, each in memory of its own. Rows of one width, each in a block of its own, all apart: a cell put into one of them, one that goes on, one more.
-/
import Derived.Test.YtjhmndmnhkbigaaGreatDoorQZBase0
import Derived.Test.YtjhmndmnhkbigaaGreatDoorQZRow0
import Derived.RangeFuncNested
import Derived.RangeFuncLeaves
import Derived.RangeFuncBox
import Derived.OwnWalkIn
import Derived.TacticsInMore
import Derived.LoopNIn
import Derived.LoopIn
import Derived.Deep.CutRange
import Derived.Deep.RegionLaw
import Derived.StillTailTactics
import Derived.Stop.RegionWithIn
import Derived.Lib.OthersKept
import Derived.Test.YtjhmndmnhkbigaaGreatDoorQZBase2
namespace Go.Proofs.YtjhmndmnhkbigaaGreatDoor
open Go.ChangeShapes Go.WideShapes Go.ChangeAt Go.RowKit
structure LineIn where
 A : Option Addr
 n : Nat
 c : Nat
 l : List Cel
structure LineIn.Ok (W : World) (B : Nat) (x : LineIn) : Prop where
 le : x.n ≤ x.c
 cap : x.c ≤ maxLen
 signs : ∀ c ∈ x.l, -2147483648 ≤ c.1 ∧ c.1 ≤ 2147483647
 sq : Sq W B 3 x.n x.A (flat x.l)
def LineIn.vals (x : LineIn) : List Value := [.slice x.A x.n x.c]
theorem LineIn.Ok.below {W W' : World} {B : Nat} {x : LineIn} (h : x.Ok W B) (hb : Below B W W') : x.Ok W' B := ⟨h.le, h.cap, h.signs, h.sq.below hb⟩
theorem LineIn.Ok.up {W : World} {B B' : Nat} {x : LineIn} (h : x.Ok W B) (hb : B ≤ B') : x.Ok W B' := ⟨h.le, h.cap, h.signs, h.sq.up hb⟩
section
variable {H : Type} {enc : TypeId × Value → H} {W : World} {base : Nat}
set_option maxRecDepth 100000 in
theorem open_lines {v : Value} {d : DataW H} {p : List MemPlace} (hok : Value.okWide Tryz.prog W .any base 23 v) (h : DataW.Trod enc Tryz.prog W 0 (fun _ => true) true 23 v d p) :
  ∃ (A : Option Addr) (n c : Nat) (l : List LineIn), v = .slice A n c ∧ n ≤ c ∧ c ≤ maxLen ∧ (∀ x ∈ l, x.Ok W W.heap.size) ∧ Sq W W.heap.size 1 n A (l.flatMap LineIn.vals) := by
 obtain ⟨a0, len, cap, rfl⟩ := okWide_slice Tryz.underlying23 hok
 obtain ⟨fuel, hf⟩ := h
 rcases DataW.trod_slice Tryz.underlying23 hf with ⟨hcs, _⟩ | ⟨a, len', cap', elems, rest, m, _, hcs, _, _, hl, hm, hlen, hel, _, _⟩
 ·simp only [Value.cells, List.cons.injEq, Value.slice.injEq, and_true] at hcs
  obtain ⟨rfl, rfl, rfl⟩ := hcs
  exact ⟨none, 0, 0, [], rfl, Nat.le_refl _, Nat.zero_le _, (fun r h => by cases h), Sq.nothing _ _ _ _⟩
 ·simp only [Value.cells, List.cons.injEq, Value.slice.injEq, and_true] at hcs
  obtain ⟨rfl, rfl, rfl⟩ := hcs
  have each : ∀ i, i < len → ∃ t : LineIn, t.Ok W W.heap.size ∧ ∀ (k : Nat) (u : Value), t.vals[k]? = some u → W.cell? ((a.add (i * 1)).add k) = some u := by
   intro i hi
   have h1 := hel i hi
   rw [List.getElem?_eq_getElem (by omega), cellsSl, Option.bind_eq_some_iff] at h1
   obtain ⟨cs, hc, ht⟩ := h1
   obtain ⟨A, n, c, l, rfl, e1, e2, e3, e4⟩ := slice_parts ht
   obtain ⟨_, _, hcell⟩ := World.cells?_some hc
   refine ⟨⟨A, n, c, l⟩, ⟨e1, e2, e3, e4⟩, fun k u hu => ?_⟩
   have hk : k < 1 := by have := (List.getElem?_eq_some_iff.1 hu).1; simpa [LineIn.vals] using this
   rw [hcell k hk]
   exact hu
  obtain ⟨l, hll, hp⟩ := exists_list each
  exact ⟨some a, len, cap, l, rfl, hl, hm, fun r hr => by obtain ⟨i, hi, rfl⟩ := List.mem_iff_getElem.1 hr; exact (hp i hi).1, sq_of_each LineIn.vals 1 (fun _ => rfl) (by omega) hll fun i hi k u hu => (hp i hi).2 k u hu⟩
end
theorem lines_at {W : World} {B n k : Nat} {A : Option Addr} {l : List LineIn} {x : LineIn} (hq : Sq W B 1 n A (l.flatMap LineIn.vals)) (hx : l[k]? = some x) (hk : k < n) :
  ∃ b off, A = some ⟨b, off, none⟩ ∧ b < B ∧ W.cell? ⟨b, off + k, none⟩ = some (.slice x.A x.n x.c) := by
 obtain ⟨b, off, e, hb, hc⟩ := hq.spot (by omega)
 have h0 := hc (k * 1 + 0) _ (flatMap_get LineIn.vals 1 (fun _ => rfl) l k x hx 0 _ rfl)
 rw [Nat.mul_one, Nat.add_zero] at h0
 exact ⟨b, off, e, hb, h0⟩
theorem lines_len {W : World} {B n : Nat} {A : Option Addr} {l : List LineIn} (hq : Sq W B 1 n A (l.flatMap LineIn.vals)) : l.length = n := by
 have h := hq.len
 rw [flatMap_len LineIn.vals 1 (fun _ => rfl)] at h
 omega
end Go.Proofs.YtjhmndmnhkbigaaGreatDoor
namespace Go.Proofs.YtjhmndmnhkbigaaGreatDoor
namespace Ln
open Rw
abbrev LR := Bool × List Cel
def padC (c : Cel) : Bool := isB 0 c.1 c.2.1 c.2.2
def goes (r : LR) : Bool := r.1 && mayL r.2
def signC (c : Cel) : Bool := !(c.2.1 == 0) && !padC c
def cellsR (r : LR) : List Cel := if mayL r.2 then r.2.filter signC else []
def cut : List LR → Nat
 | [] => 0
 | r :: rs => if goes r && !rs.isEmpty then cut rs + 1 else 1
def addP (r : LR) : List (List LR) → List (List LR)
 | [] => [[r]]
 | p :: ps => if goes r then (r :: p) :: ps else [r] :: p :: ps
def parts : List LR → List (List LR)
 | [] => []
 | r :: rs => addP r (parts rs)
def joined (p : List LR) : List Cel := trimL (p.flatMap cellsR)
def rest (l : List LR) : Nat → List LR
 | 0 => l
 | k + 1 => (rest l k).drop (cut (rest l k))
abbrev Pl := (Nat × Nat) × Cel
def wd (x : Cel) : Nat := x.2.1.toNat
def padL : Cel := (0, 1, 0)
def both (x : Cel) : List Cel := if x.2.1 = 2 then [x, (0, 0, x.2.2)] else [x]
def W12 (x : Cel) : Prop := x.2.1 = 1 ∨ x.2.1 = 2
theorem both_length {x : Cel} (h : W12 x) : (both x).length = wd x := by
 unfold both wd
 rcases h with h | h <;> simp [h]
def pstep (w : Nat) (s : (Nat × Nat) × List Pl) (x : Cel) : (Nat × Nat) × List Pl :=
 if w < s.1.2 + wd x then ((s.1.1 + 1, wd x), s.2 ++ ((if s.1.2 < w then [(s.1, padL)] else []) ++ [((s.1.1 + 1, 0), x)]))
 else ((s.1.1, s.1.2 + wd x), s.2 ++ [(s.1, x)])
def posOut (w : Nat) (l : List Cel) : (Nat × Nat) × List Pl := l.foldl (pstep w) ((0, 0), [])
theorem posOut_snoc (w : Nat) (l : List Cel) (x : Cel) : posOut w (l ++ [x]) = pstep w (posOut w l) x := by unfold posOut; rw [List.foldl_append]; rfl
def lstep (w : Nat) (s : List LR × List Cel) (x : Cel) : List LR × List Cel :=
 if w < s.2.length + wd x then (s.1 ++ [(true, if s.2.length < w then s.2 ++ [padL] else s.2)], both x) else (s.1, s.2 ++ both x)
def layS (w : Nat) (l : List Cel) : List LR × List Cel := l.foldl (lstep w) ([], [])
theorem layS_snoc (w : Nat) (l : List Cel) (x : Cel) : layS w (l ++ [x]) = lstep w (layS w l) x := by unfold layS; rw [List.foldl_append]; rfl
def fill (w : Nat) (s : List LR × List Cel) : List LR := s.1 ++ [(false, s.2 ++ blanksL (w - s.2.length))]
def layL (w : Nat) (l : List Cel) : List LR := fill w (layS w l)
def putP (w : Nat) (rows : List LR) (y : Pl) : List LR :=
 (if y.1.1 = rows.length then rows.modify (rows.length - 1) (fun r => (true, r.2)) ++ [(false, blanksL w)] else rows).modify y.1.1 (fun r => (r.1, putO r.2 y.1.2 (both y.2)))
def putPs (w : Nat) (ys : List Pl) : List LR := ys.foldl (putP w) [(false, blanksL w)]
theorem putPs_snoc (w : Nat) (ys : List Pl) (y : Pl) : putPs w (ys ++ [y]) = putP w (putPs w ys) y := by unfold putPs; rw [List.foldl_append]; rfl
theorem snoc_ind {α : Type} {P : List α → Prop} (h0 : P []) (h1 : ∀ l x, P l → P (l ++ [x])) (l : List α) : P l := by
 rw [← List.reverse_reverse l]
 induction l.reverse with
 | nil => exact h0
 | cons x m ih => rw [List.reverse_cons]; exact h1 _ _ ih
theorem modify_last {α : Type} (l : List α) (x : α) (f : α → α) {k : Nat} (h : k = l.length) : (l ++ [x]).modify k f = l ++ [f x] := by
 subst h
 refine List.ext_getElem? fun j => ?_
 rw [List.getElem?_modify]
 by_cases e : l.length = j
 ·subst e; simp
 ·simp only [e, if_false]
  rw [show ((fun a => a) <$> (l ++ [x])[j]?) = (l ++ [x])[j]? by simp]
  by_cases hj : j < l.length
  ·rw [List.getElem?_append_left hj, List.getElem?_append_left hj]
  ·rw [List.getElem?_eq_none (by simp; omega), List.getElem?_eq_none (by simp; omega)]
theorem putO_fill {w : Nat} {cur L : List Cel} (h : cur.length + L.length ≤ w) : putO (cur ++ blanksL (w - cur.length)) cur.length L = (cur ++ L) ++ blanksL (w - (cur ++ L).length) := by
 unfold putO blanksL
 rw [List.take_left', List.drop_append, List.drop_eq_nil_of_le (by omega), List.nil_append, List.drop_replicate, List.length_append]
 ·congr 2
  omega
 ·rfl
theorem putP_here {w : Nat} {done : List LR} {cur : List Cel} {x : Cel} (hx : (both x).length + cur.length ≤ w) : putP w (fill w (done, cur)) ((done.length, cur.length), x) = fill w (done, cur ++ both x) := by
 unfold putP fill
 simp only
 rw [if_neg (by simp), modify_last _ _ _ rfl, putO_fill (by omega)]
theorem putP_next {w : Nat} {done : List LR} {cur : List Cel} {x : Cel} (hx : (both x).length ≤ w) : putP w (fill w (done, cur)) ((done.length + 1, 0), x) = fill w (done ++ [(true, cur ++ blanksL (w - cur.length))], both x) := by
 unfold putP fill
 simp only [List.length_append, List.length_cons, List.length_nil, Nat.zero_add]
 rw [if_pos trivial, modify_last done _ _ (by omega), modify_last (done ++ [(true, cur ++ blanksL (w - cur.length))]) _ _ (by simp)]
 congr 3
 have := putO_fill (w := w) (cur := []) (L := both x) (by simpa using hx)
 simpa using this
theorem lay_inv {w : Nat} (hw : 2 ≤ w) (l : List Cel) (hl : ∀ x ∈ l, W12 x) :
  (posOut w l).1 = ((layS w l).1.length, (layS w l).2.length) ∧ (layS w l).2.length ≤ w ∧ putPs w (posOut w l).2 = layL w l := by
 revert hl
 refine snoc_ind (P := fun l => (∀ x ∈ l, W12 x) → (posOut w l).1 = ((layS w l).1.length, (layS w l).2.length) ∧ (layS w l).2.length ≤ w ∧ putPs w (posOut w l).2 = layL w l) ?_ ?_ l
 ·exact fun _ => ⟨rfl, Nat.zero_le _, by simp [putPs, posOut, layL, layS, fill]⟩
 ·intro l x ih hl
  obtain ⟨h1, h2, h3⟩ := ih (fun y hy => hl y (by simp [hy]))
  have hx := hl x (by simp)
  have hb := both_length hx
  have hb2 : wd x ≤ 2 ∧ 1 ≤ wd x := by unfold wd; rcases hx with h | h <;> simp [h]
  rw [posOut_snoc, layL, layS_snoc]
  obtain ⟨⟨⟨r, c⟩, out⟩, hp⟩ : ∃ z, posOut w l = z := ⟨_, rfl⟩
  obtain ⟨⟨done, cur⟩, hs⟩ : ∃ z, layS w l = z := ⟨_, rfl⟩
  rw [hp] at h1 h3
  rw [layL, hs] at h3
  rw [hs] at h1 h2
  simp only [Prod.mk.injEq] at h1 h2
  obtain ⟨rfl, rfl⟩ := h1
  rw [hp, hs]
  unfold pstep lstep
  simp only
  by_cases hc : w < cur.length + wd x
  ·rw [if_pos hc, if_pos hc]
   refine ⟨by simp [hb], by simp only; omega, ?_⟩
   by_cases hc2 : cur.length < w
   ·rw [if_pos hc2, if_pos hc2, List.cons_append, List.nil_append, show out ++ [((done.length, cur.length), padL), ((done.length + 1, 0), x)] = (out ++ [((done.length, cur.length), padL)]) ++ [((done.length + 1, 0), x)] by simp]
    have hpl : both padL = [padL] := by decide
    rw [putPs_snoc, putPs_snoc, h3, putP_here (by rw [hpl]; simp; omega), putP_next (by omega), hpl]
    rw [show w - (cur ++ [padL]).length = 0 by simp; omega]
    simp [blanksL]
   ·rw [if_neg hc2, if_neg hc2, List.nil_append, putPs_snoc, h3, putP_next (by omega), show w - cur.length = 0 by omega]
    simp [blanksL]
  ·rw [if_neg hc, if_neg hc]
   refine ⟨by simp [hb], by simp only [List.length_append]; omega, ?_⟩
   rw [putPs_snoc, h3, putP_here (by omega)]
def okC (c : Cel) : Bool := hasB c.1 c.2.1 c.2.2 && mayB c
def lineB (l : List Cel) : Bool := l.all okC
theorem okC_w {x : Cel} (h : okC x = true) : W12 x := by
 simp only [okC, hasB, Bool.and_eq_true, Bool.or_eq_true, beq_iff_eq] at h
 exact h.1.1
structure Lay (w : Nat) (l : List Cel) (s : List LR × List Cel) : Prop where
 len : ∀ r ∈ s.1, r.2.length = w
 wrap : ∀ r ∈ s.1, r.1 = true
 may : ∀ r ∈ s.1, mayL r.2 = true
 cur : ∃ xs, s.2 = xs.flatMap both ∧ xs.all okC = true ∧ s.1.flatMap cellsR ++ xs = l
 few : s.2.length ≤ w
/-! How many rows a line takes, and where Pads are. -/
def padsL (l : List Cel) : Nat := (l.filter padC).length
def padsR (rs : List LR) : Nat := (rs.map fun r => padsL r.2).sum
def wideL (l : List Cel) : Nat := (l.map wd).sum
structure Room (w : Nat) (l : List Cel) (s : List LR × List Cel) : Prop where
 pads : ∀ r ∈ s.1, padsL r.2 ≤ 1 ∧ ∀ k c, r.2[k]? = some c → padC c = true → k + 1 = w
 cur : ∃ xs : List Cel, s.2 = xs.flatMap both ∧ xs.all okC = true
 sum : wideL l + padsR s.1 = w * s.1.length + s.2.length
 some : s.1 ≠ [] → s.2 ≠ []
end Ln
end Go.Proofs.YtjhmndmnhkbigaaGreatDoor
namespace Go.Proofs.YtjhmndmnhkbigaaGreatDoor
open Go.RowKit
section
variable {P : Program}
abbrev Laid (A B : World) : Prop := Below A.heap.size A B
def overPost (B : Nat) (Kp : World → World → Prop) (I : Nat → World → Prop) (Ix : Code → Nat → World → Prop) (k : Nat) (W : World) : Exit → Act → World → Prop
 | .normal, _, W' => KeepsFrom B W W' ∧ Kp W W' ∧ I k W'
 | .ret, _, W' => KeepsFrom B W W' ∧ Ix .ret k W'
 | .exit id, _, W' => KeepsFrom B W W' ∧ Ix (.exit id) k W'
 | .goto t, _, W' => KeepsFrom B W W' ∧ Ix (.goto t) k W'
 | .panic _, _, _ => False
 | .outgrown, _, _ => False
def Stays (B : Nat) (p : World → Prop) : Prop := ∀ (W : World) (l : Nat) (o o' : Obj), B ≤ l → W.heap[l]? = some o → o.isCells = false → p W → p (W.putObj l o')
end
end Go.Proofs.YtjhmndmnhkbigaaGreatDoor
namespace Go.Proofs.YtjhmndmnhkbigaaGreatDoor
open Go.ChangeShapes Go.WideShapes Go.ChangeAt Go.RowKit
namespace Ln
open Rw
attribute [local go_sem] Oper.semAt_some
def lr (x : RowIn) : LR := (x.wrap, x.l)
structure Rws (W : World) (B : Nat) (A : Option Addr) (n : Nat) (rs : List RowIn) : Prop where
 each : ∀ r ∈ rs, r.Ok W B
 sq : Sq W B 2 n A (rs.flatMap RowIn.vals)
theorem rvals_length : ∀ (xs : List RowIn), (xs.flatMap RowIn.vals).length = xs.length * 2
 | [] => rfl
 | x :: xs => by rw [List.flatMap_cons, List.length_append, rvals_length xs, List.length_cons]; show 2 + _ = _; omega
theorem rvals_drop (xs : List RowIn) (k : Nat) : (xs.drop k).flatMap RowIn.vals = (xs.flatMap RowIn.vals).drop (k * 2) := by
 induction k generalizing xs with
 | zero => simp
 | succ k ih =>
  cases xs with
  | nil => simp
  | cons x xs =>
   rw [List.drop_succ_cons, ih, List.flatMap_cons, show (k + 1) * 2 = k * 2 + 1 + 1 by omega]
   rfl
namespace Rws
variable {W W' : World} {B B' n : Nat} {A : Option Addr} {rs : List RowIn}
theorem len (h : Rws W B A n rs) : rs.length = n := by have := h.sq.len; rw [rvals_length] at this; omega
theorem kept (h : Rws W B A n rs) (hk : ∀ j, j < B → W'.heap[j]? = W.heap[j]?) : Rws W' B A n rs := by
 have hc : ∀ p : Addr, p.block < B → W'.cell? p = W.cell? p := fun p hp => by unfold World.cell?; rw [hk p.block hp]
 exact ⟨fun r hr => ⟨(h.each r hr).le, (h.each r hr).cap, (h.each r hr).signs, (h.each r hr).sq.carry hc⟩, h.sq.carry hc⟩
theorem below (h : Rws W B A n rs) (hb : Below B W W') : Rws W' B A n rs := ⟨fun r hr => (h.each r hr).below hb, h.sq.below hb⟩
theorem up (h : Rws W B A n rs) (hb : B ≤ B') : Rws W B' A n rs := ⟨fun r hr => (h.each r hr).up hb, h.sq.up hb⟩
theorem take (h : Rws W B A n rs) {m : Nat} (hm : m ≤ n) : Rws W B A m (rs.take m) := by
 have hl := h.len
 refine ⟨fun r hr => h.each r (List.mem_of_mem_take hr), by rw [rvals_length, List.length_take]; omega, fun hn => ?_⟩
 obtain ⟨b, off, e, hb, hc⟩ := h.sq.spot (by omega)
 refine ⟨b, off, e, hb, fun j u hu => hc j u ?_⟩
 have e2 : rs.flatMap RowIn.vals = (rs.take m).flatMap RowIn.vals ++ (rs.drop m).flatMap RowIn.vals := by rw [← List.flatMap_append, List.take_append_drop]
 rw [e2, List.getElem?_append_left (List.getElem?_eq_some_iff.1 hu).1]
 exact hu
theorem drop (h : Rws W B A n rs) {m c : Nat} (hm : m ≤ n) (hc : n ≤ c) : Rws W B (if c = m then A else A.map (·.add (m * 2))) (n - m) (rs.drop m) := by
 have hl := h.len
 refine ⟨fun r hr => h.each r (List.mem_of_mem_drop hr), by rw [rvals_length, List.length_drop]; omega, fun hn => ?_⟩
 obtain ⟨b, off, rfl, hb, hcl⟩ := h.sq.spot (by omega)
 rw [if_neg (by omega)]
 refine ⟨b, off + m * 2, by rw [Option.map_some, add_at], hb, fun j u hu => ?_⟩
 rw [rvals_drop, List.getElem?_drop] at hu
 rw [Nat.add_assoc]
 exact hcl _ _ hu
end Rws
end Ln
end Go.Proofs.YtjhmndmnhkbigaaGreatDoor


namespace Go.Proofs.YtjhmndmnhkbigaaGreatDoor
open Go.ChangeShapes Go.WideShapes Go.ChangeAt Go.RowKit
namespace Ln
open Rw
attribute [local go_sem] Oper.semAt_some
theorem own_keep {w w' : World} {base : Nat} {e : TypeId} {size n : Nat} {v : Value} {xs : List Value} (h : w.ownsRow base e size v n xs) (hk : ∀ k, v.ownBlock = some k → w'.heap[k]? = w.heap[k]?) : w'.ownsRow base e size v n xs := by
 refine ⟨h.1, ?_⟩
 rcases h.2 with e1 | ⟨g, cap, cur, rfl, hb, hg, r⟩
 ·exact .inl e1
 ·exact .inr ⟨g, cap, cur, rfl, hb, (hk g rfl).trans hg, r⟩
theorem own_down {w : World} {base base' : Nat} {e : TypeId} {size n : Nat} {v : Value} {xs : List Value} (h : w.ownsRow base e size v n xs) (hb : base' ≤ base) : w.ownsRow base' e size v n xs := by
 refine ⟨h.1, ?_⟩
 rcases h.2 with e1 | ⟨g, cap, cur, rfl, h2, r⟩
 ·exact .inl e1
 ·exact .inr ⟨g, cap, cur, rfl, Nat.le_trans hb h2, r⟩
theorem own_laid {w w' : World} {base : Nat} {e : TypeId} {size n : Nat} {v : Value} {xs : List Value} (h : w.ownsRow base e size v n xs) (hb : Below w.heap.size w w') : w'.ownsRow base e size v n xs := own_keep h fun k hk => hb.block k (h.lt k hk).2
theorem own_cap {w : World} {B : Nat} {e : TypeId} {s n : Nat} {v : Value} {xs : List Value} (h : w.ownsRow B e s v n xs) : ∃ A c, v = .slice A n c ∧ n ≤ c := by
 rcases h.2 with ⟨rfl, h0⟩ | ⟨g, cap, cur, rfl, _, _, hc, _⟩
 ·rw [h0]; exact ⟨_, _, rfl, Nat.le_refl _⟩
 ·exact ⟨_, _, rfl, hc⟩
structure BoxC (w0 : World) (g B : Nat) (l : List Cel) (W : World) : Prop where
 old : Below w0.heap.size w0 W
 low : w0.heap.size ≤ g
 gB : g < B
 box : ∃ A c, W.heap[g]? = some (.cells #[.slice A l.length c] 41 (0, 0)) ∧ HasC W B (.slice A l.length c) l
namespace BoxC
variable {w0 W W' : World} {g B : Nat} {l : List Cel}
theorem laid (h : BoxC w0 g B l W) (hb : Laid W W') : BoxC w0 g B l W' := by
 obtain ⟨A, c, h1, h2⟩ := h.box
 exact ⟨h.old.trans (hb.mono h.old.size), h.low, h.gB, A, c, (hb.block _ (Array.getElem?_eq_some_iff.1 h1).1).trans h1, own_laid h2 hb⟩
theorem put (h : BoxC w0 g B l W) {j : Nat} {o : Obj} (o' : Obj) (hj : w0.heap.size ≤ j) (ho : W.heap[j]? = some o) (hc : o.isCells = false) : BoxC w0 g B l (W.putObj j o') := by
 obtain ⟨A, c, h1, h2⟩ := h.box
 refine ⟨h.old.trans ⟨rfl, rfl, rfl, by simp, fun k hk => World.putObj_heap_other (by omega)⟩, h.low, h.gB, A, c, (World.putObj_heap_other (fun e => ?_)).trans h1, ownsRow_putObj h2 o' ho hc⟩
 subst e
 rw [h1] at ho
 cases ho
 cases hc
end BoxC
theorem BoxC.snoc {w0 W W' : World} {g B : Nat} {l : List Cel} {y : Cel} {A : Option Addr} {c : Nat} {v' : Value} (h : BoxC w0 g B l W) (hb : W.heap[g]? = some (.cells #[.slice A l.length c] 41 (0, 0)))
  (ho : W'.ownsRow B 52 3 v' (l.length + 1) (flat l ++ [.int .i32 y.1, .int .i64 y.2.1, .int .i64 y.2.2])) (hA : W.ownsRow B 52 3 (.slice A l.length c) l.length (flat l)) (hg : W.grownBy W' (Value.slice A l.length c).ownBlock) :
  BoxC w0 g B (l ++ [y]) (W'.setCell ⟨g, 0, none⟩ v') := by
 have hlt := (Array.getElem?_eq_some_iff.1 hb).1
 have hne : ∀ j, j < B → (Value.slice A l.length c).ownBlock ≠ some j := fun j hj e => by have := (hA.lt j e).1; omega
 have hb' : W'.heap[g]? = _ := (hg.block g hlt (fun e => hne g h.gB e.symm)).trans hb
 obtain ⟨A', c', rfl, hc'⟩ := own_cap ho
 have e : flat (l ++ [y]) = flat l ++ [.int .i32 y.1, .int .i64 y.2.1, .int .i64 y.2.2] := by rw [flat_append]; rfl
 refine ⟨?_, h.low, h.gB, A', c', ?_, ?_⟩
 ·have h1 : Below w0.heap.size w0 W' := h.old.grown hg h.old.size (fun j e => by have h1 := (hA.lt j e).1; have := h.low; have := h.gB; omega)
  exact h1.setCell (p := ⟨g, 0, none⟩) h.low _
 ·rw [List.length_append, List.length_singleton]
  have := heap_setCell_same W' g 0 _ _ (.slice A' (l.length + 1) c') hb'
  simpa using this
 ·unfold HasC
  rw [e, List.length_append, List.length_singleton]
  refine own_keep ho fun k hk => Below.heap_setCell _ _ _ _ ?_
  have := (ho.lt k hk).1
  have := h.gB
  show k ≠ g
  omega
theorem keeps_grown {W W' : World} {row : Option Nat} {B : Nat} (hg : W.grownBy W' row) (hrow : ∀ j, row = some j → ∃ o, W.heap[j]? = some o ∧ o.isCells = true) : KeepsFrom B W W' :=
 ⟨hg.size, fun k _ _ hk ho => (hg.block k (Array.getElem?_eq_some_iff.1 hk).1 (fun e => by
  obtain ⟨o', h1, h2⟩ := hrow k e.symm
  rw [hk] at h1
  cases h1
  rw [ho] at h2
  cases h2)).trans hk⟩
theorem keeps_laid {W W' : World} {B : Nat} (h : Laid W W') : KeepsFrom B W W' := ⟨h.size, fun k _ _ hk _ => (h.block k (Array.getElem?_eq_some_iff.1 hk).1).trans hk⟩
theorem own_isCells {w : World} {base : Nat} {e : TypeId} {size n : Nat} {v : Value} {xs : List Value} (h : w.ownsRow base e size v n xs) : ∀ j, v.ownBlock = some j → ∃ o, w.heap[j]? = some o ∧ o.isCells = true := by
 intro j hj
 rcases h.2 with ⟨rfl, _⟩ | ⟨g, cap, cur, rfl, _, hg, _⟩
 ·cases hj
 ·injection hj with hj
  subst hj
  exact ⟨_, hg, rfl⟩
end Ln
end Go.Proofs.YtjhmndmnhkbigaaGreatDoor

namespace Go.Proofs.YtjhmndmnhkbigaaGreatDoor
open Go.ChangeShapes Go.WideShapes Go.ChangeAt Go.RowKit
namespace Ln
open Rw
attribute [local go_sem] Oper.semAt_some
theorem own_type {w : World} {base : Nat} {e : TypeId} {size n : Nat} {v : Value} {xs : List Value} (h : w.ownsRow base e size v n xs) : ∀ j, v.ownBlock = some j → ∃ cur, w.heap[j]? = some (.cells cur e (0, 0)) := by
 intro j hj
 rcases h.2 with ⟨rfl, _⟩ | ⟨g, cap, cur, rfl, _, hg, _⟩
 ·cases hj
 ·injection hj with hj
  subst hj
  exact ⟨_, hg⟩
theorem own_ne {w : World} {b1 b2 : Nat} {e1 e2 : TypeId} {s1 s2 n1 n2 : Nat} {v1 v2 : Value} {xs1 xs2 : List Value} (h1 : w.ownsRow b1 e1 s1 v1 n1 xs1) (h2 : w.ownsRow b2 e2 s2 v2 n2 xs2) (he : e1 ≠ e2) : ∀ j, v1.ownBlock = some j → v2.ownBlock ≠ some j := by
 intro j hj hj2
 obtain ⟨c1, k1⟩ := own_type h1 j hj
 obtain ⟨c2, k2⟩ := own_type h2 j hj2
 rw [k1] at k2
 injection k2 with k2
 injection k2 with _ k2 _
 exact he k2
theorem infoSl : (Tryz.prog.info? 41).map (fun i => (i.zero, i.size, i.bytes)) = some (some (.slice none 0 0), 1, 24) := by kernel_rfl
structure Lns (W : World) (B : Nat) (v : Value) (vs : List Value) (ls : List (List Cel)) : Prop where
 own : W.ownsRow B 41 1 v ls.length vs
 each : ∀ (i : Nat) (x : Value) (l : List Cel), vs[i]? = some x → ls[i]? = some l → HasC W B x l
namespace Lns
variable {W W' : World} {B : Nat} {v v' x : Value} {vs : List Value} {ls : List (List Cel)} {l : List Cel}
theorem nothing (W : World) (B : Nat) : Lns W B (.slice none 0 0) [] [] := ⟨World.ownsRow_nil _ _ _ _, fun i x l h => by simp at h⟩
theorem len (h : Lns W B v vs ls) : vs.length = ls.length := by have := h.own.1; omega
theorem keep (h : Lns W B v vs ls) (hk : ∀ j, B ≤ j → j < W.heap.size → W'.heap[j]? = W.heap[j]?) : Lns W' B v vs ls :=
 ⟨own_keep h.own fun j hj => hk j (h.own.lt j hj).1 (h.own.lt j hj).2, fun i x l hx hl => own_keep (h.each i x l hx hl) fun j hj => by
  have hh : W.ownsRow B 52 3 x l.length (flat l) := h.each i x l hx hl
  exact hk j (hh.lt j hj).1 (hh.lt j hj).2⟩
theorem laid (h : Lns W B v vs ls) (hb : Laid W W') : Lns W' B v vs ls := h.keep fun j _ hj => hb.block j hj
theorem put (h : Lns W B v vs ls) {j : Nat} {o : Obj} (o' : Obj) (ho : W.heap[j]? = some o) (hc : o.isCells = false) : Lns (W.putObj j o') B v vs ls :=
 ⟨ownsRow_putObj h.own o' ho hc, fun i x l hx hl => ownsRow_putObj (h.each i x l hx hl) o' ho hc⟩
theorem snoc (h : Lns W B v vs ls) (hx : HasC W B x l) (ho : W'.ownsRow B 41 1 v' (ls.length + 1) (vs ++ [x])) (hg : W.grownBy W' v.ownBlock) : Lns W' B v' (vs ++ [x]) (ls ++ [l]) := by
 have keepc : ∀ {y : Value} {m : List Cel}, HasC W B y m → HasC W' B y m := fun {y m} hy => own_keep hy fun j hj => by
  have hh : W.ownsRow B 52 3 y m.length (flat m) := hy
  exact hg.block j (hh.lt j hj).2 (fun e => own_ne hh h.own (by decide) j hj e.symm)
 refine ⟨by rw [List.length_append, List.length_singleton]; exact ho, fun i y m hy hm => ?_⟩
 have hl := h.len
 by_cases hi : i < ls.length
 ·rw [List.getElem?_append_left (by omega)] at hy
  rw [List.getElem?_append_left hi] at hm
  exact keepc (h.each i y m hy hm)
 ·have hi2 := (List.getElem?_eq_some_iff.1 hm).1
  rw [List.length_append, List.length_singleton] at hi2
  obtain rfl : i = ls.length := by omega
  rw [List.getElem?_append_right (by omega), hl, Nat.sub_self] at hy
  rw [List.getElem?_append_right (Nat.le_refl _), Nat.sub_self] at hm
  simp at hy hm
  subst hy hm
  exact keepc hx
end Lns
structure BoxL (w0 : World) (g B : Nat) (ls : List (List Cel)) (W : World) : Prop where
 old : Below w0.heap.size w0 W
 low : w0.heap.size ≤ g
 gB : g < B
 big : B ≤ W.heap.size
 box : ∃ A c vs, W.heap[g]? = some (.cells #[.slice A ls.length c] 23 (0, 0)) ∧ Lns W B (.slice A ls.length c) vs ls
namespace BoxL
variable {w0 W W' : World} {g B : Nat} {ls : List (List Cel)}
theorem laid (h : BoxL w0 g B ls W) (hb : Laid W W') : BoxL w0 g B ls W' := by
 obtain ⟨A, c, vs, h1, h2⟩ := h.box
 exact ⟨h.old.trans (hb.mono h.old.size), h.low, h.gB, Nat.le_trans h.big hb.size, A, c, vs, (hb.block _ (Array.getElem?_eq_some_iff.1 h1).1).trans h1, h2.laid hb⟩
theorem put (h : BoxL w0 g B ls W) {j : Nat} {o : Obj} (o' : Obj) (hj : w0.heap.size ≤ j) (ho : W.heap[j]? = some o) (hc : o.isCells = false) : BoxL w0 g B ls (W.putObj j o') := by
 obtain ⟨A, c, vs, h1, h2⟩ := h.box
 refine ⟨h.old.trans ⟨rfl, rfl, rfl, by simp, fun k hk => World.putObj_heap_other (by omega)⟩, h.low, h.gB, by simp; exact h.big, A, c, vs, (World.putObj_heap_other (fun e => ?_)).trans h1, h2.put o' ho hc⟩
 subst e
 rw [h1] at ho
 cases ho
 cases hc
theorem snoc {A : Option Addr} {c : Nat} {vs : List Value} {v' x : Value} {l : List Cel} (h : BoxL w0 g B ls W) (hb : W.heap[g]? = some (.cells #[.slice A ls.length c] 23 (0, 0))) (hl : Lns W B (.slice A ls.length c) vs ls) (hx : HasC W B x l)
  (ho : W'.ownsRow B 41 1 v' (ls.length + 1) (vs ++ [x])) (hg : W.grownBy W' (Value.slice A ls.length c).ownBlock) : BoxL w0 g B (ls ++ [l]) (W'.setCell ⟨g, 0, none⟩ v') := by
 have hlt := (Array.getElem?_eq_some_iff.1 hb).1
 have hne : ∀ j, j < B → (Value.slice A ls.length c).ownBlock ≠ some j := fun j hj e => by have := (hl.own.lt j e).1; omega
 have hb' : W'.heap[g]? = _ := (hg.block g hlt (fun e => hne g h.gB e.symm)).trans hb
 obtain ⟨A', c', rfl, hc'⟩ := own_cap ho
 have hs := hl.snoc hx ho hg
 refine ⟨?_, h.low, h.gB, ?_, A', c', vs ++ [x], ?_, ?_⟩
 ·have h1 : Below w0.heap.size w0 W' := h.old.grown hg h.old.size (fun j e => by have h1 := (hl.own.lt j e).1; have := h.low; have := h.gB; omega)
  exact h1.setCell (p := ⟨g, 0, none⟩) h.low _
 ·have := h.big; have := hg.size; simp; omega
 ·rw [List.length_append, List.length_singleton]
  have := heap_setCell_same W' g 0 _ _ (.slice A' (ls.length + 1) c') hb'
  simpa using this
 ·rw [List.length_append, List.length_singleton]
  refine hs.keep fun j hj _ => Below.heap_setCell _ _ _ _ ?_
  have := h.gB
  show j ≠ g
  omega
end BoxL
theorem cell_single (w : World) (e : TypeId) (x : Value) : ∀ (j : Nat) (u : Value), [x][j]? = some u → (w.alloc (.cells #[x] e)).cell? ((⟨w.heap.size, 0, none⟩ : Addr).add j) = some u := by
 intro j u hu
 rw [add_at, Nat.zero_add, cell_of_row _ _ _ _ _ (0, 0) (heap_alloc_new w _)]
 match j, hu with
 | 0, hu => exact hu
 | j + 1, hu => simp at hu
end Ln
end Go.Proofs.YtjhmndmnhkbigaaGreatDoor
namespace Go.Proofs.YtjhmndmnhkbigaaGreatDoor
open Go.ChangeShapes Go.WideShapes Go.ChangeAt Go.RowKit
namespace Ln
open Rw
set_option maxRecDepth 100000 in
set_option maxHeartbeats 3200000 in
theorem line_any (A : Option Addr) (n c : Nat) (l : List Cel) (w : World) (hs : Spans w) (hl : ∀ c ∈ l, -2147483648 ≤ c.1 ∧ c.1 ≤ 2147483647) (hq : Sq w w.heap.size 3 n A (flat l)) (hn : n ≤ 1000000) :
  Calls Tryz.prog 47 #[.slice A n c] w fun e w' => e = .returned (.bool (lineB l)) ∧ Below w.heap.size w w' := by
 have hll : l.length = n := by have := hq.len; rw [flat_length] at this; omega
 have LN := Lib.hid hll
 have S := Lib.hid hs
 have Q := Lib.hid hq
 have HL := Lib.hid hl
 have I0 := Lib.hid (Below.refl w.heap.size w)
 obtain ⟨B, hB⟩ : ∃ B, lineB l = B := ⟨_, rfl⟩
 have E0 := Lib.hid (show lineB (l.drop 0) = B from hB)
 rw [hB]
 clear hs hq hl hB hll
 go_enter Tryz.func47, Tryz.ntmps47
 go_wp2
 go_loopw [7] (fun i wr => ∃ k : Nat, i = .int .i64 k ∧ k ≤ n ∧ Hid (Below w.heap.size w wr) ∧ Hid (lineB (l.drop k) = B)) (fun i _ => n - (intOf i).toNat)
 case atStart => exact ⟨0, rfl, Nat.zero_le _, I0, E0⟩
 case round =>
  obtain ⟨k, rfl, hk, I, E⟩ := hrel
  clear I0 E0
  by_cases hlt : k < n
  ·obtain ⟨b, off, rfl, hb, ⟨r, m, a⟩, hcc, q0, q1, q2⟩ := (Q.out.below I.out).three hlt
   have hr := HL.out _ (List.mem_of_getElem? hcc)
   obtain ⟨g, hg⟩ : ∃ g, hasB r m a = g := ⟨_, rfl⟩
   obtain ⟨g2, hg2⟩ : ∃ g2, mayB (r, m, a) = g2 := ⟨_, rfl⟩
   have SG := Lib.hid (hasSign_walk r m a)
   have MG := Lib.hid (may_any r m a hr.1 hr.2)
   rw [hg] at SG
   rw [hg2] at MG
   have EE := Lib.hid (show (g && g2 && lineB (l.drop (k + 1))) = B from by
    have := E.out
    obtain ⟨h1, h2⟩ := List.getElem?_eq_some_iff.1 hcc
    rw [List.drop_eq_getElem_cons h1, h2] at this
    unfold lineB at this
    rw [List.all_cons] at this
    unfold okC at this
    simp only [hg, hg2] at this
    exact this)
   have IZ := Lib.hid I.out.size
   have b1 : Below wr.heap.size wr (wr.alloc (.cells #[.int .i32 r, .int .i64 m, .int .i64 a] 52)) := (Below.refl _ _).alloc (Nat.le_refl _) _
   have C1 := Lib.hid (heap_alloc_new wr (.cells #[.int .i32 r, .int .i64 m, .int .i64 a] 52))
   have I1 := Lib.hid (I.out.trans (b1.mono I.out.size))
   clear hcc hr hg hg2 b1 I
   cases g
   ·have RB := Lib.hid (show B = false from by have := EE.out; simpa using this.symm)
    go_wp2_with fail
    refine (SG.out _).mono ?_
    rintro e w2 ⟨rfl, b2⟩
    have I2 := Lib.hid (I1.out.trans (b2.mono I1.out.size))
    clear b2 SG MG q0 q1 q2 C1
    go_wp2_with fail
    go_ret
    exact ⟨ret_bool RB.out.symm, I2.out⟩
   ·go_wp2_with fail
    refine (SG.out _).mono ?_
    rintro e w2 ⟨rfl, b2⟩
    have I2 := Lib.hid (I1.out.trans (b2.mono I1.out.size))
    have c2 := (b2.block wr.heap.size (by simp)).trans C1.out
    have k0 : w2.cell? ⟨wr.heap.size, 0, none⟩ = some (.int .i32 r) := cell_of_row _ _ 0 _ _ (0, 0) c2
    have k1 : w2.cell? ⟨wr.heap.size, 1, none⟩ = some (.int .i64 m) := cell_of_row _ _ 1 _ _ (0, 0) c2
    have k2 : w2.cell? ⟨wr.heap.size, 2, none⟩ = some (.int .i64 a) := cell_of_row _ _ 2 _ _ (0, 0) c2
    clear b2 SG q0 q1 q2 C1 c2
    go_wp2_with fail
    refine (MG.out w2 (S.out.below I2.out S.out.size)).mono ?_
    rintro e w3 ⟨rfl, b3⟩
    have I3 := Lib.hid (I2.out.trans (b3.mono I2.out.size))
    clear b3 MG k0 k1 k2
    cases g2
    ·have RB := Lib.hid (show B = false from by have := EE.out; simpa using this.symm)
     go_wp2
     go_ret
     exact ⟨ret_bool RB.out.symm, I3.out⟩
    ·have E2 := Lib.hid (show lineB (l.drop (k + 1)) = B from by have := EE.out; simpa using this)
     go_wp2
     go_roundw
     case rel => exact ⟨k + 1, by go_num, by omega, I3, E2⟩
     case measure => simp [intOf]; omega
  ·obtain rfl : k = n := by omega
   have RB := Lib.hid (show B = true from by
    have h1 := E.out
    rw [List.drop_eq_nil_of_le (by rw [LN.out]; exact Nat.le_refl _)] at h1
    exact h1.symm)
   go_wp2
   go_ret
   exact ⟨ret_bool RB.out.symm, I.out⟩
end Ln
end Go.Proofs.YtjhmndmnhkbigaaGreatDoor
namespace Go.Proofs.YtjhmndmnhkbigaaGreatDoor
open Go.ChangeShapes Go.WideShapes Go.ChangeAt Go.RowKit
namespace Ln
open Rw
structure Own (W : World) (B : Nat) (v : Value) (rs : List RowIn) : Prop where
 own : W.ownsRow B 48 2 v rs.length (rs.flatMap RowIn.vals)
 each : ∀ r ∈ rs, HasC W B (.slice r.A r.n r.c) r.l ∧ (∀ c ∈ r.l, -2147483648 ≤ c.1 ∧ c.1 ≤ 2147483647) ∧ r.c ≤ maxLen
namespace Own
variable {W W' : World} {B : Nat} {v v' : Value} {rs : List RowIn}
theorem nothing (W : World) (B : Nat) : Own W B (.slice none 0 0) [] := ⟨World.ownsRow_nil _ _ _ _, fun r h => by cases h⟩
theorem shape (h : Own W B v rs) : ∃ A c, v = .slice A rs.length c ∧ rs.length ≤ c := own_cap h.own
theorem keep (h : Own W B v rs) (hk : ∀ j, B ≤ j → j < W.heap.size → W'.heap[j]? = W.heap[j]?) : Own W' B v rs :=
 ⟨own_keep h.own fun j hj => hk j (h.own.lt j hj).1 (h.own.lt j hj).2, fun r hr => ⟨own_keep (h.each r hr).1 fun j hj => by
  have hh : W.ownsRow B 52 3 (.slice r.A r.n r.c) r.l.length (flat r.l) := (h.each r hr).1
  exact hk j (hh.lt j hj).1 (hh.lt j hj).2, (h.each r hr).2⟩⟩
theorem laid (h : Own W B v rs) (hb : Laid W W') : Own W' B v rs := h.keep fun j _ hj => hb.block j hj
theorem snoc {x : RowIn} (h : Own W B v rs) (hx : HasC W B (.slice x.A x.n x.c) x.l) (hs : ∀ c ∈ x.l, -2147483648 ≤ c.1 ∧ c.1 ≤ 2147483647) (hm : x.c ≤ maxLen) (ho : W'.ownsRow B 48 2 v' (rs.length + 1) (rs.flatMap RowIn.vals ++ x.vals)) (hg : W.grownBy W' v.ownBlock) : Own W' B v' (rs ++ [x]) := by
 have keepc : ∀ {y : Value} {m : List Cel}, HasC W B y m → HasC W' B y m := fun {y m} hy => own_keep hy fun j hj => by
  have hh : W.ownsRow B 52 3 y m.length (flat m) := hy
  exact hg.block j (hh.lt j hj).2 (fun e => own_ne hh h.own (by decide) j hj e.symm)
 refine ⟨?_, fun r hr => ?_⟩
 ·rw [List.length_append, List.length_singleton, List.flatMap_append]
  simpa [List.flatMap_cons] using ho
 ·rcases List.mem_append.1 hr with hr | hr
  ·exact ⟨keepc (h.each r hr).1, (h.each r hr).2⟩
  ·rw [List.mem_singleton.1 hr]
   exact ⟨keepc hx, hs, hm⟩
theorem rws {A : Option Addr} {n c : Nat} (h : Own W B (.slice A n c) rs) : n = rs.length ∧ Rws W W.heap.size A n rs := by
 obtain ⟨A', c', e, _⟩ := own_cap h.own
 injection e with e1 e2 e3
 subst e1 e2 e3
 refine ⟨rfl, fun r hr => ?_, Sq.own h.own⟩
 obtain ⟨rA, rn, rc, rb, rl⟩ := r
 obtain ⟨h1, h2, h3⟩ := h.each _ hr
 have hh : W.ownsRow B 52 3 (.slice rA rn rc) rl.length (flat rl) := h1
 obtain ⟨A', c', e, hc⟩ := own_cap hh
 injection e with e1 e2 e3
 subst e2
 have hq := Sq.own hh
 exact ⟨by show rl.length ≤ rc; omega, h3, h2, hq⟩
end Own
theorem infoRw : (Tryz.prog.info? 48).map (fun i => (i.zero, i.size, i.bytes)) = some (some (.agg #[.slice none 0 0, .bool false]), 2, 32) := by kernel_rfl
end Ln
end Go.Proofs.YtjhmndmnhkbigaaGreatDoor
namespace Go.Proofs.YtjhmndmnhkbigaaGreatDoor
open Go.ChangeShapes Go.WideShapes Go.ChangeAt Go.RowKit
namespace Ln
open Rw
structure Sheet (W : World) (B : Nat) (v : Value) (wv : Nat) (rs : List RowIn) : Prop where
 own : Own W B v rs
 row : ∀ r ∈ rs, r.n = wv ∧ r.l.length = wv ∧ ∃ g, r.A = some ⟨g, 0, none⟩
 apart : (rs.map RowIn.A).Nodup
def put3 (W : World) (g j : Nat) (x : Cel) : World := ((W.setCell ⟨g, j * 3, none⟩ (.int .i32 x.1)).setCell ⟨g, j * 3 + 1, none⟩ (.int .i64 x.2.1)).setCell ⟨g, j * 3 + 2, none⟩ (.int .i64 x.2.2)
theorem put3_other (W : World) (g j : Nat) (x : Cel) {k : Nat} (h : k ≠ g) : (put3 W g j x).heap[k]? = W.heap[k]? :=
 (Below.heap_setCell _ _ _ _ h).trans ((Below.heap_setCell _ _ _ _ h).trans (Below.heap_setCell _ _ _ _ h))
theorem mem_set {α : Type} {l : List α} {k : Nat} {a y : α} (h : y ∈ l.set k a) : y = a ∨ ∃ i, i ≠ k ∧ l[i]? = some y := by
 obtain ⟨i, hi⟩ := List.mem_iff_getElem?.1 h
 rw [List.getElem?_set] at hi
 split at hi
 ·split at hi
  ·cases hi; exact .inl rfl
  ·cases hi
 ·exact .inr ⟨i, fun e => by omega, hi⟩
theorem vals_wrap : ∀ (rs : List RowIn) (k : Nat) (r : RowIn) (b : Bool), rs[k]? = some r → (rs.flatMap RowIn.vals).set (k * 2 + 1) (.bool b) = (rs.set k { r with wrap := b }).flatMap RowIn.vals
 | [], k, r, b, h => by simp at h
 | x :: rs, 0, r, b, h => by
  simp at h
  subst h
  rfl
 | x :: rs, k + 1, r, b, h => by
  have ih := vals_wrap rs k r b (by simpa using h)
  rw [List.set_cons_succ, List.flatMap_cons, List.flatMap_cons, ← ih]
  show (Value.slice x.A x.n x.c :: Value.bool x.wrap :: rs.flatMap RowIn.vals).set ((k + 1) * 2 + 1) _ = Value.slice x.A x.n x.c :: Value.bool x.wrap :: (rs.flatMap RowIn.vals).set (k * 2 + 1) _
  rw [show (k + 1) * 2 + 1 = k * 2 + 1 + 1 + 1 by omega, List.set_cons_succ, List.set_cons_succ]
theorem vals_cells : ∀ (rs : List RowIn) (k : Nat) (r : RowIn) (m : List Cel), rs[k]? = some r → (rs.set k { r with l := m }).flatMap RowIn.vals = rs.flatMap RowIn.vals
 | [], k, r, m, h => by simp at h
 | x :: rs, 0, r, m, h => by
  simp at h
  subst h
  rfl
 | x :: rs, k + 1, r, m, h => by
  rw [List.set_cons_succ, List.flatMap_cons, List.flatMap_cons, vals_cells rs k r m (by simpa using h)]
theorem map_set {β : Type} (f : RowIn → β) {rs : List RowIn} {k : Nat} {r r' : RowIn} (h : rs[k]? = some r) (e : f r' = f r) : (rs.set k r').map f = rs.map f := by
 rw [List.map_set, e]
 refine List.ext_getElem? fun i => ?_
 rw [List.getElem?_set]
 split
 ·subst_vars
  rw [List.getElem?_map, h]
  have := (List.getElem?_eq_some_iff.1 h).1
  simp [this]
 ·rfl
namespace Sheet
variable {W W' : World} {B wv : Nat} {v v' : Value} {rs : List RowIn}
theorem keep (h : Sheet W B v wv rs) (hk : ∀ j, B ≤ j → j < W.heap.size → W'.heap[j]? = W.heap[j]?) : Sheet W' B v wv rs := ⟨h.own.keep hk, h.row, h.apart⟩
theorem laid (h : Sheet W B v wv rs) (hb : Laid W W') : Sheet W' B v wv rs := ⟨h.own.laid hb, h.row, h.apart⟩
theorem keepT (h : Sheet W B v wv rs) (h2 : 2 ≤ wv) (hk : ∀ (j : Nat) (cs : Array Value) (ty : TypeId), W.heap[j]? = some (.cells cs ty (0, 0)) → (ty = 48 ∨ ty = 52 ∧ cs.size ≠ 3) → W'.heap[j]? = W.heap[j]?) : Sheet W' B v wv rs := by
 refine ⟨⟨own_keep h.own.own fun j hj => ?_, fun r hr => ?_⟩, h.row, h.apart⟩
 ·rcases h.own.own.2 with ⟨rfl, _⟩ | ⟨g, cap, cur, rfl, _, hg, _⟩
  ·cases hj
  ·injection hj with hj
   subst hj
   exact hk _ _ _ hg (.inl rfl)
 ·obtain ⟨k1, k2⟩ := h.own.each r hr
  obtain ⟨e1, e2, -⟩ := h.row r hr
  have kk : W.ownsRow B 52 3 (.slice r.A r.n r.c) r.l.length (flat r.l) := k1
  refine ⟨own_keep kk fun j hj => ?_, k2⟩
  rcases kk.2 with ⟨_, h0⟩ | ⟨g, cap, cur, e, _, hg, hc, _, hz, _⟩
  ·omega
  ·rw [e] at hj
   injection hj with hj
   have hj' : g = j := hj
   subst hj'
   exact hk _ _ _ hg (.inr ⟨rfl, by omega⟩)
theorem ne (h : Sheet W B v wv rs) {i k : Nat} {y r : RowIn} (hy : rs[i]? = some y) (hr : rs[k]? = some r) (hik : i ≠ k) : y.A ≠ r.A := by
 intro e
 have hi : i < (rs.map RowIn.A).length := by have := (List.getElem?_eq_some_iff.1 hy).1; simpa using this
 exact hik ((List.getElem?_inj hi h.apart).1 (by rw [List.getElem?_map, List.getElem?_map, hy, hr]; simp [e]))
theorem put (h : Sheet W B v wv rs) {k j g : Nat} {r : RowIn} (hr : rs[k]? = some r) (hg : r.A = some ⟨g, 0, none⟩) (x : Cel) (hx : -2147483648 ≤ x.1 ∧ x.1 ≤ 2147483647) :
  Sheet (put3 W g j x) B v wv (rs.set k { r with l := r.l.set j x }) := by
 obtain ⟨rA, rn, rc, rb, rl⟩ := r
 dsimp only at hg
 subst hg
 obtain ⟨h1, h2, h3⟩ := h.own.each _ (List.mem_of_getElem? hr)
 have hh : W.ownsRow B 52 3 (.slice (some ⟨g, 0, none⟩) rn rc) rl.length (flat rl) := h1
 obtain ⟨hn, hl, -⟩ := h.row _ (List.mem_of_getElem? hr)
 dsimp only at hn hl h2
 have hln : rn = rl.length := by rw [hn, hl]
 subst hln
 refine ⟨⟨?_, fun y hy => ?_⟩, fun y hy => ?_, ?_⟩
 ·rw [List.length_set, vals_cells _ _ _ _ hr]
  exact own_keep h.own.own fun q hq => put3_other _ _ _ _ (fun e => own_ne h.own.own hh (by decide) q hq (by rw [e]; rfl))
 ·rcases mem_set hy with rfl | ⟨i, hi, hy⟩
  ·refine ⟨?_, fun c hc => ?_, h3⟩
   ·show World.ownsRow _ _ _ _ _ (rl.set j x).length (flat (rl.set j x))
    have e1 := (hh.stored (j * 3) (.int .i32 x.1)).1
    have e2 := (e1.stored (j * 3 + 1) (.int .i64 x.2.1)).1
    have e3 := (e2.stored (j * 3 + 2) (.int .i64 x.2.2)).1
    rw [flat_set] at e3
    rw [List.length_set]
    exact e3
   ·rcases List.mem_or_eq_of_mem_set hc with hc | rfl
    ·exact h2 _ hc
    ·exact hx
  ·obtain ⟨k1, k2, k3⟩ := h.own.each _ (List.mem_of_getElem? hy)
   have kk : W.ownsRow B 52 3 (.slice y.A y.n y.c) y.l.length (flat y.l) := k1
   obtain ⟨-, -, gy, ey⟩ := h.row _ (List.mem_of_getElem? hy)
   have hne := h.ne hy hr hi
   refine ⟨own_keep kk fun q hq => put3_other _ _ _ _ (fun e => ?_), k2, k3⟩
   rw [ey] at hq hne
   injection hq with hq
   have hq' : gy = q := hq
   subst hq' e
   exact hne rfl
 ·rcases mem_set hy with rfl | ⟨i, hi, hy⟩
  ·exact ⟨hn, by show (rl.set j x).length = wv; rw [List.length_set]; exact hl, g, rfl⟩
  ·exact h.row _ (List.mem_of_getElem? hy)
 ·refine (congrArg List.Nodup (map_set RowIn.A hr ?_)).mpr h.apart
  rfl
theorem goesOn {g n c k : Nat} (h : Sheet W B (.slice (some ⟨g, 0, none⟩) n c) wv rs) {r : RowIn} (hr : rs[k]? = some r) (b : Bool) : Sheet (W.setCell ⟨g, k * 2 + 1, none⟩ (.bool b)) B (.slice (some ⟨g, 0, none⟩) n c) wv (rs.set k { r with wrap := b }) := by
 obtain ⟨e, _⟩ := h.own.rws
 subst e
 have ho := h.own.own
 have hm : ∀ y ∈ rs.set k { r with wrap := b }, ∃ z ∈ rs, z.A = y.A ∧ z.n = y.n ∧ z.c = y.c ∧ z.l = y.l := fun y hy => by
  rcases List.mem_or_eq_of_mem_set hy with h1 | h1
  ·exact ⟨y, h1, rfl, rfl, rfl, rfl⟩
  ·rw [h1]; exact ⟨r, List.mem_of_getElem? hr, rfl, rfl, rfl, rfl⟩
 refine ⟨⟨?_, fun y hy => ?_⟩, fun y hy => ?_, ?_⟩
 ·rw [List.length_set, ← vals_wrap rs k r b hr]
  exact (ho.stored _ _).1
 ·obtain ⟨z, hz, e1, e2, e3, e4⟩ := hm y hy
  obtain ⟨h1, h2, h3⟩ := h.own.each z hz
  rw [e1, e2, e3, e4] at h1
  rw [e4] at h2
  rw [e3] at h3
  have hh : W.ownsRow B 52 3 (.slice y.A y.n y.c) y.l.length (flat y.l) := h1
  exact ⟨own_keep hh fun j hj => Below.heap_setCell _ _ _ _ (fun e => own_ne ho hh (by decide) g rfl (by rw [hj, e])), h2, h3⟩
 ·obtain ⟨z, hz, e1, e2, e3, e4⟩ := hm y hy
  have := h.row z hz
  rw [e1, e2, e4] at this
  exact this
 ·refine (congrArg List.Nodup (map_set RowIn.A hr ?_)).mpr h.apart
  rfl
theorem snoc {x : RowIn} {B2 : Nat} (h : Sheet W B v wv rs) (hx : HasC W B2 (.slice x.A x.n x.c) x.l) (hb : B ≤ B2) (hnew : ∀ r ∈ rs, ∀ q, r.A = some ⟨q, 0, none⟩ → q < B2) (hs : ∀ c ∈ x.l, -2147483648 ≤ c.1 ∧ c.1 ≤ 2147483647) (hm : x.c ≤ maxLen) (h1 : x.n = wv) (h2 : x.l.length = wv) (hw : ∃ q, x.A = some ⟨q, 0, none⟩)
  (ho : W'.ownsRow B 48 2 v' (rs.length + 1) (rs.flatMap RowIn.vals ++ x.vals)) (hg : W.grownBy W' v.ownBlock) : Sheet W' B v' wv (rs ++ [x]) := by
 refine ⟨h.own.snoc (own_down hx hb) hs hm ho hg, fun r hr => ?_, ?_⟩
 ·rcases List.mem_append.1 hr with hr | hr
  ·exact h.row r hr
  ·rw [List.mem_singleton.1 hr]; exact ⟨h1, h2, hw⟩
 ·rw [List.map_append, List.map_cons, List.map_nil]
  refine List.nodup_append.2 ⟨h.apart, by simp, fun a ha b hb' e => ?_⟩
  obtain ⟨r, hr, rfl⟩ := List.mem_map.1 ha
  rw [List.mem_singleton] at hb'
  obtain ⟨-, -, q, eq⟩ := h.row r hr
  have hq := hnew r hr q eq
  have hh : W.ownsRow B2 52 3 (.slice x.A x.n x.c) x.l.length (flat x.l) := hx
  have := (hh.lt q (by rw [← hb', ← e, eq]; rfl)).1
  omega
end Sheet
end Ln
end Go.Proofs.YtjhmndmnhkbigaaGreatDoor
