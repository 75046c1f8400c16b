import Derived.Test.YteemnmalikomgaaGreatDoorQSrRow0
set_option maxRecDepth 100000
namespace Go.Proofs.YteemnmalikomgaaGreatDoor
namespace Rw
end Rw
open Go.ChangeShapes Go.WideShapes Go.ChangeAt Go.RowKit
structure LineIn where
 A : Option Addr
 n : Nat
 c : Nat
 l : List Cel
structure LineIn.Ok (W : World) (B : Nat) (x : LineIn) : Prop where
 le : x.n ≤ x.c
 cap : x.c ≤ maxLen
 signs : ∀ c ∈ x.l, -2147483648 ≤ c.1 ∧ c.1 ≤ 2147483647
 sq : Sq W B 3 x.n x.A (flat x.l)
def LineIn.vals (x : LineIn) : List Value := [.slice x.A x.n x.c]
theorem LineIn.Ok.below {W W' : World} {B : Nat} {x : LineIn} (h : x.Ok W B) (hb : Below B W W') : x.Ok W' B := ⟨h.le, h.cap, h.signs, h.sq.below hb⟩
theorem LineIn.Ok.up {W : World} {B B' : Nat} {x : LineIn} (h : x.Ok W B) (hb : B ≤ B') : x.Ok W B' := ⟨h.le, h.cap, h.signs, h.sq.up hb⟩
section
variable {H : Type} {enc : TypeId × Value → H} {W : World} {base : Nat}
theorem open_lines {v : Value} {d : DataW H} {p : List MemPlace} (hok : Value.okWide Tryz.prog W .any base 56 v) (h : DataW.Trod enc Tryz.prog W 0 (fun _ => true) true 56 v d p) :
  ∃ (A : Option Addr) (n c : Nat) (l : List LineIn), v = .slice A n c ∧ n ≤ c ∧ c ≤ maxLen ∧ (∀ x ∈ l, x.Ok W W.heap.size) ∧ Sq W W.heap.size 1 n A (l.flatMap LineIn.vals) := by
 obtain ⟨a0, len, cap, rfl⟩ := okWide_slice Tryz.underlying56 hok
 obtain ⟨fuel, hf⟩ := h
 rcases DataW.trod_slice Tryz.underlying56 hf with ⟨hcs, _⟩ | ⟨a, len', cap', elems, rest, m, _, hcs, _, _, hl, hm, hlen, hel, _, _⟩
 ·simp only [Value.cells, List.cons.injEq, Value.slice.injEq, and_true] at hcs
  obtain ⟨rfl, rfl, rfl⟩ := hcs
  exact ⟨none, 0, 0, [], rfl, Nat.le_refl _, Nat.zero_le _, (fun r h => by cases h), Sq.nothing _ _ _ _⟩
 ·simp only [Value.cells, List.cons.injEq, Value.slice.injEq, and_true] at hcs
  obtain ⟨rfl, rfl, rfl⟩ := hcs
  have each : ∀ i, i < len → ∃ t : LineIn, t.Ok W W.heap.size ∧ ∀ (k : Nat) (u : Value), t.vals[k]? = some u → W.cell? ((a.add (i * 1)).add k) = some u := by
   intro i hi
   have h1 := hel i hi
   rw [List.getElem?_eq_getElem (by omega), cellsSl, Option.bind_eq_some_iff] at h1
   obtain ⟨cs, hc, ht⟩ := h1
   obtain ⟨A, n, c, l, rfl, e1, e2, e3, e4⟩ := slice_parts ht
   obtain ⟨_, _, hcell⟩ := World.cells?_some hc
   refine ⟨⟨A, n, c, l⟩, ⟨e1, e2, e3, e4⟩, fun k u hu => ?_⟩
   have hk : k < 1 := by have := (List.getElem?_eq_some_iff.1 hu).1; simpa [LineIn.vals] using this
   rw [hcell k hk]
   exact hu
  obtain ⟨l, hll, hp⟩ := exists_list each
  exact ⟨some a, len, cap, l, rfl, hl, hm, fun r hr => by obtain ⟨i, hi, rfl⟩ := List.mem_iff_getElem.1 hr; exact (hp i hi).1, sq_of_each LineIn.vals 1 (fun _ => rfl) (by omega) hll fun i hi k u hu => (hp i hi).2 k u hu⟩
end
theorem lines_at {W : World} {B n k : Nat} {A : Option Addr} {l : List LineIn} {x : LineIn} (hq : Sq W B 1 n A (l.flatMap LineIn.vals)) (hx : l[k]? = some x) (hk : k < n) :
  ∃ b off, A = some ⟨b, off, none⟩ ∧ b < B ∧ W.cell? ⟨b, off + k, none⟩ = some (.slice x.A x.n x.c) := by
 obtain ⟨b, off, e, hb, hc⟩ := hq.spot (by omega)
 have h0 := hc (k * 1 + 0) _ (flatMap_get LineIn.vals 1 (fun _ => rfl) l k x hx 0 _ rfl)
 rw [Nat.mul_one, Nat.add_zero] at h0
 exact ⟨b, off, e, hb, h0⟩
theorem lines_len {W : World} {B n : Nat} {A : Option Addr} {l : List LineIn} (hq : Sq W B 1 n A (l.flatMap LineIn.vals)) : l.length = n := by
 have h := hq.len
 rw [flatMap_len LineIn.vals 1 (fun _ => rfl)] at h
 omega
end Go.Proofs.YteemnmalikomgaaGreatDoor
namespace Go.Proofs.YteemnmalikomgaaGreatDoor
namespace Ln
open Rw
abbrev LR := Bool × List Cel
def padC (c : Cel) : Bool := isB 0 c.1 c.2.1 c.2.2
def signC (c : Cel) : Bool := !(c.2.1 == 0) && !padC c
def cellsR (r : LR) : List Cel := if mayL r.2 then r.2.filter signC else []
def wd (x : Cel) : Nat := x.2.1.toNat
def both (x : Cel) : List Cel := if x.2.1 = 2 then [x, (0, 0, x.2.2)] else [x]
def okC (c : Cel) : Bool := hasB c.1 c.2.1 c.2.2 && mayB c
def lineB (l : List Cel) : Bool := l.all okC
structure Lay (w : Nat) (l : List Cel) (s : List LR × List Cel) : Prop where
 len : ∀ r ∈ s.1, r.2.length = w
 wrap : ∀ r ∈ s.1, r.1 = true
 may : ∀ r ∈ s.1, mayL r.2 = true
 cur : ∃ xs, s.2 = xs.flatMap both ∧ xs.all okC = true ∧ s.1.flatMap cellsR ++ xs = l
 few : s.2.length ≤ w
/-! How many rows a line takes, and where Pads are. -/
def padsL (l : List Cel) : Nat := (l.filter padC).length
def padsR (rs : List LR) : Nat := (rs.map fun r => padsL r.2).sum
def wideL (l : List Cel) : Nat := (l.map wd).sum
structure Room (w : Nat) (l : List Cel) (s : List LR × List Cel) : Prop where
 pads : ∀ r ∈ s.1, padsL r.2 ≤ 1 ∧ ∀ k c, r.2[k]? = some c → padC c = true → k + 1 = w
 cur : ∃ xs : List Cel, s.2 = xs.flatMap both ∧ xs.all okC = true
 sum : wideL l + padsR s.1 = w * s.1.length + s.2.length
 some : s.1 ≠ [] → s.2 ≠ []
end Ln
