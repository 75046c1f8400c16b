/-
  How a pattern is read, in plain words: what a reader has left, each of its steps; what is read is small and may be. A state's set is asked for a sign: nfa.against, the binary search, state.takes.
-/
import Derived.Test.YteemnmalikomgaaGreatDoorQNaBase1
import Derived.Test.YteemnmalikomgaaGreatDoorQNaBase0
import Derived.Laws.BitsLemmas
import Derived.Deep.DeepMust
import Derived.BigQuiet
namespace Go.Proofs.YteemnmalikomgaaGreatDoor.NF
structure PR where
 left : List Int
 broken : Bool
def PR.none : PR := ⟨[], true⟩
def PR.tail (r : PR) : PR := ⟨r.left.tail, r.broken⟩
def PR.sees (r : PR) (s : Int) : Bool := r.left.head? == some s
def PR.need (r : PR) (s : Int) : PR := if r.sees s then r.tail else .none
def PR.next (r : PR) : Int × PR :=
 match r.left with
 | [] => (0, .none)
 | s :: l => (s, ⟨l, r.broken⟩)
def fullN {α : Type} (st : PR → Option (α × PR)) : Nat → PR → List α × PR
 | 0, r => ([], r)
 | k + 1, r =>
  match st r with
  | .none => ([], r)
  | .some (a, r1) => (a :: (fullN st k r1).1, (fullN st k r1).2)
def specials : List Int := [124, 42, 43, 63, 123, 125, 40, 41, 91, 93, 46, 94, 36, 92]
def special (s : Int) : Bool := specials.any fun x => x == s
def zeroN : Nd := .mk 0 [] false [] 0 0
def oneN (s : Int) : Nd := .mk 2 [(s, s)] false [] 0 0
def timesN (n : Nd) (a b : Int) : Nd := .mk 5 [] false [n] a b
def oneOrAll (k : Int) (l : List Nd) : Nd :=
 match l with
 | [x] => x
 | l => .mk k [] false l 0 0
def digitR (r : PR) : Int × PR :=
 let x := r.next
 if x.1 - 48 < 0 ∨ 9 < x.1 - 48 then (x.1 - 48, .none) else (x.1 - 48, x.2)
def mostR (a : Int) (r : PR) : Int × PR :=
 if r.sees 44 then (if r.tail.sees 125 then (-1, r.tail) else digitR r.tail) else (a, r)
def boundsR (r : PR) : (Int × Int) × PR :=
 let x := digitR r
 let y := mostR x.1 x.2
 let r4 := y.2.need 125
 if y.1 ≠ -1 ∧ y.1 < x.1 then ((x.1, y.1), .none) else ((x.1, y.1), r4)
def repeatR (n : Nd) (r : PR) : Nd × PR :=
 if r.sees 42 then (timesN n 0 (-1), r.tail)
 else if r.sees 43 then (timesN n 1 (-1), r.tail)
 else if r.sees 63 then (timesN n 0 1, r.tail)
 else if r.sees 123 then (timesN n (boundsR r.tail).1.1 (boundsR r.tail).1.2, (boundsR r.tail).2)
 else (n, r)
def signOfSet (r : PR) : Int × PR := if r.next.1 = 92 then r.next.2.next else r.next
def dash (r : PR) : Bool :=
 match r.left with
 | a :: b :: _ => a == 45 && b != 93
 | _ => false
def signsR (r : PR) : (Int × Int) × PR :=
 let x := signOfSet r
 if dash x.2 then
  let y := signOfSet (x.2.need 45)
  if y.1 < x.1 then ((x.1, y.1), .none) else ((x.1, y.1), y.2)
 else ((x.1, x.1), x.2)
def setSt (r : PR) : Option ((Int × Int) × PR) := if r.broken then .none else if r.sees 93 then .none else .some (signsR r)
def setMu (r : PR) : Nat := r.left.length + (if r.broken then 0 else 1)
def setL (r : PR) : List (Int × Int) × PR :=
 let x := fullN setSt (setMu r) r
 if x.2.broken then x else (x.1, x.2.tail)
def setR (r : PR) : Nd × PR :=
 let x := setL (if r.sees 94 then r.tail else r)
 (.mk 2 x.1 (r.sees 94) [] 0 0, if x.1.isEmpty then .none else x.2)
def pieceR (at' : PR → Nd × PR) (r : PR) : Nd × PR :=
 if r.sees 94 then (.mk 6 [] false [] 0 0, r.tail)
 else if r.sees 36 then (.mk 7 [] false [] 0 0, r.tail)
 else repeatR (at' r).1 (at' r).2
def rowSt (at' : PR → Nd × PR) (r : PR) : Option (Nd × PR) :=
 if r.left.isEmpty then .none else if r.sees 124 then .none else if r.sees 41 then .none else .some (pieceR at' r)
def rowR (at' : PR → Nd × PR) (r : PR) : Nd × PR :=
 let x := pieceR at' r
 let y := fullN (rowSt at') x.2.left.length x.2
 (oneOrAll 3 (x.1 :: y.1), y.2)
def altSt (at' : PR → Nd × PR) (r : PR) : Option (Nd × PR) := if r.sees 124 then .some (rowR at' r.tail) else .none
def altR (at' : PR → Nd × PR) (r : PR) : Nd × PR :=
 let x := rowR at' r
 let y := fullN (altSt at') x.2.left.length x.2
 (oneOrAll 4 (x.1 :: y.1), y.2)
def atomR : Nat → PR → Nd × PR
 | 0, _ => (zeroN, .none)
 | f + 1, r =>
  let s := r.next.1
  let r1 := r.next.2
  if s = 40 then ((altR (atomR f) r1).1, (altR (atomR f) r1).2.need 41)
  else if s = 46 then (.mk 2 [] true [] 0 0, r1)
  else if s = 91 then setR r1
  else if s = 92 then (oneN r1.next.1, r1.next.2)
  else if special s then (zeroN, .none)
  else (oneN s, r1)
def parseL (l : List Int) : Option Nd :=
 let x := altR (atomR (l.length + 1)) ⟨l, false⟩
 if x.2.broken || !x.2.left.isEmpty then .none else .some x.1
theorem fullN_enough {α : Type} {st : PR → Option (α × PR)} {mu : PR → Nat} (h : ∀ r a r1, st r = .some (a, r1) → mu r1 < mu r) : ∀ (k k' : Nat) (r : PR), mu r ≤ k → mu r ≤ k' → fullN st k r = fullN st k' r
 | 0, 0, r, _, _ => rfl
 | 0, k' + 1, r, h1, h2 => by
  rw [fullN, fullN]
  cases e : st r with
  | none => rfl
  | some x => have := h r x.1 x.2 e; omega
 | k + 1, 0, r, h1, h2 => by
  rw [fullN, fullN]
  cases e : st r with
  | none => rfl
  | some x => have := h r x.1 x.2 e; omega
 | k + 1, k' + 1, r, h1, h2 => by
  rw [fullN, fullN]
  cases e : st r with
  | none => rfl
  | some x =>
   have := h r x.1 x.2 e
   dsimp only
   rw [fullN_enough h k k' x.2 (by omega) (by omega)]
theorem fullN_stop {α : Type} {st : PR → Option (α × PR)} {k : Nat} {r : PR} (h : st r = .none) : fullN st k r = ([], r) := by
 cases k with
 | zero => rfl
 | succ k => rw [fullN, h]
theorem fullN_step {α : Type} {st : PR → Option (α × PR)} {mu : PR → Nat} (h : ∀ r a r1, st r = .some (a, r1) → mu r1 < mu r) {r r1 : PR} {a : α} (e : st r = .some (a, r1)) :
  fullN st (mu r) r = (a :: (fullN st (mu r1) r1).1, (fullN st (mu r1) r1).2) := by
 have h1 := h r a r1 e
 obtain ⟨k, hk⟩ : ∃ k, mu r = k + 1 := ⟨mu r - 1, by omega⟩
 rw [hk, fullN, e]
 dsimp only
 rw [fullN_enough h k (mu r1) r1 (by omega) (Nat.le_refl _)]
theorem sees_cons {r : PR} {s : Int} (h : r.sees s = true) : r.left = s :: r.left.tail := by
 obtain ⟨l, b⟩ := r
 cases l with
 | nil => simp [PR.sees] at h
 | cons x xs => simp [PR.sees] at h; subst h; rfl
def Fwd (r r' : PR) (P : List Int → Prop) : Prop := r'.broken = false → r.broken = false ∧ ∃ pre, r.left = pre ++ r'.left ∧ P pre
theorem Fwd.none (r : PR) (P : List Int → Prop) : Fwd r .none P := fun h => by cases h
theorem Fwd.refl (r : PR) : Fwd r r (fun pre => pre = []) := fun h => ⟨h, [], rfl, rfl⟩
theorem Fwd.trans {r r1 r2 : PR} {P Q R : List Int → Prop} (h : Fwd r r1 P) (h2 : Fwd r1 r2 Q) (hR : ∀ a b, P a → Q b → R (a ++ b)) : Fwd r r2 R := fun hb => by
 obtain ⟨b1, p2, e2, q2⟩ := h2 hb
 obtain ⟨b0, p1, e1, q1⟩ := h b1
 exact ⟨b0, p1 ++ p2, by rw [e1, e2, List.append_assoc], hR _ _ q1 q2⟩
theorem Fwd.mono {r r1 : PR} {P Q : List Int → Prop} (h : Fwd r r1 P) (hQ : ∀ a, P a → Q a) : Fwd r r1 Q := fun hb => by
 obtain ⟨b0, p1, e1, q1⟩ := h hb
 exact ⟨b0, p1, e1, hQ _ q1⟩
theorem fwd_tail {r : PR} {s : Int} (h : r.sees s = true) : Fwd r r.tail (fun pre => pre = [s]) := fun hb => ⟨hb, [s], sees_cons h, rfl⟩
theorem fwd_need (r : PR) (s : Int) : Fwd r (r.need s) (fun pre => pre = [s]) := by
 unfold PR.need
 split
 ·exact fwd_tail ‹_›
 ·exact .none _ _
theorem fwd_next (r : PR) : Fwd r r.next.2 (fun pre => pre = [r.next.1]) := by
 obtain ⟨l, b⟩ := r
 cases l with
 | nil => exact .none _ _
 | cons s l => exact fun hb => ⟨hb, [s], rfl, rfl⟩
theorem tail_len {r : PR} {s : Int} (h : r.sees s = true) : r.tail.left.length + 1 = r.left.length := by
 rw [sees_cons h]; rfl
theorem next_len (r : PR) : r.next.2.left.length ≤ r.left.length - 1 := by
 obtain ⟨l, b⟩ := r
 cases l with
 | nil => exact Nat.le_refl _
 | cons s l => simp [PR.next]
theorem need_len (r : PR) (s : Int) : (r.need s).left.length ≤ r.left.length - 1 := by
 unfold PR.need
 split
 ·have := tail_len ‹_›; omega
 ·exact Nat.zero_le _
theorem digit_len (r : PR) : (digitR r).2.left.length ≤ r.left.length - 1 := by
 unfold digitR
 dsimp only
 split
 ·exact Nat.zero_le _
 ·exact next_len r
theorem fwd_digit (r : PR) : Fwd r (digitR r).2 (fun pre => pre.length = 1 ∧ 0 ≤ (digitR r).1 ∧ (digitR r).1 ≤ 9) := by
 unfold digitR
 dsimp only
 split
 ·exact .none _ _
 ·refine (fwd_next r).mono ?_
  rintro a rfl
  exact ⟨rfl, by dsimp only; omega, by dsimp only; omega⟩
theorem most_len (a : Int) (r : PR) : (mostR a r).2.left.length ≤ r.left.length := by
 unfold mostR
 split
 ·have := tail_len ‹_›
  split
  ·dsimp only; omega
  ·have := digit_len r.tail; omega
 ·exact Nat.le_refl _
theorem fwd_most (a : Int) (r : PR) : Fwd r (mostR a r).2 (fun pre => (mostR a r).1 = a ∧ pre = [] ∨ (mostR a r).1 = -1 ∨ 0 ≤ (mostR a r).1 ∧ (mostR a r).1 ≤ 9) := by
 unfold mostR
 split
 ·split
  ·exact (fwd_tail ‹_›).mono fun _ _ => .inr (.inl rfl)
  ·exact (fwd_tail ‹_›).trans (fwd_digit _) fun _ _ _ h => .inr (.inr h.2)
 ·exact (Fwd.refl r).mono fun _ h => .inl ⟨rfl, h⟩
theorem bounds_len (r : PR) : (boundsR r).2.left.length ≤ r.left.length := by
 unfold boundsR
 dsimp only
 have h1 := digit_len r
 have h2 := most_len (digitR r).1 (digitR r).2
 have h3 := need_len (mostR (digitR r).1 (digitR r).2).2 125
 split
 ·exact Nat.zero_le _
 ·dsimp only; omega
theorem fwd_bounds (r : PR) : Fwd r (boundsR r).2 (fun pre => 2 ≤ pre.length ∧ 0 ≤ (boundsR r).1.1 ∧ (boundsR r).1.1 ≤ 9 ∧ ((boundsR r).1.2 = -1 ∨ (boundsR r).1.1 ≤ (boundsR r).1.2 ∧ (boundsR r).1.2 ≤ 9)) := by
 unfold boundsR
 dsimp only
 split
 ·exact .none _ _
 ·refine ((fwd_digit r).trans (fwd_most (digitR r).1 (digitR r).2) (R := fun pre => 1 ≤ pre.length ∧ (0 ≤ (digitR r).1 ∧ (digitR r).1 ≤ 9) ∧ ((mostR (digitR r).1 (digitR r).2).1 = (digitR r).1 ∨ (mostR (digitR r).1 (digitR r).2).1 = -1 ∨ 0 ≤ (mostR (digitR r).1 (digitR r).2).1 ∧ (mostR (digitR r).1 (digitR r).2).1 ≤ 9)) ?_).trans (fwd_need _ 125) ?_
  ·rintro a b ⟨h1, h2, h3⟩ h4
   exact ⟨by rw [List.length_append]; omega, ⟨h2, h3⟩, h4.elim (fun h => .inl h.1) .inr⟩
  ·rintro a b ⟨h1, ⟨h2, h3⟩, h4⟩ h5
   exact ⟨by rw [List.length_append, h5, List.length_singleton]; omega, h2, h3, by dsimp only; omega⟩
structure Gd (n : Nd) (pre : List Int) : Prop where
 pos : 0 < pre.length
 cnt : count n + 1 ≤ 2 * pre.length
 dp : deep n ≤ pre.length
 ok : (∀ s ∈ pre, okSign s = true) → may n = true
 wgt : wt n < 3 ^ pre.length
def facR (a b : Int) : Nat := if b < 0 then a.toNat + 1 else b.toNat
theorem fac_wt {v F p q : Nat} (hv : v < 3 ^ p) (hq : 0 < q) (h : F ≤ 2 ∨ 3 ≤ q ∧ F ≤ 10) : v * F + 1 < 3 ^ (p + q) := by
 rw [Nat.pow_add]
 obtain ⟨X, hX⟩ : ∃ X, 3 ^ p = X := ⟨_, rfl⟩
 rw [hX] at hv ⊢
 rcases h with h | ⟨h, h10⟩
 ·have h1 : 3 ≤ 3 ^ q := by
   have := Nat.pow_le_pow_right (show 0 < 3 by omega) hq
   omega
  have h2 : v * F ≤ v * 2 := Nat.mul_le_mul_left _ h
  have h3 : X * 3 ≤ X * 3 ^ q := Nat.mul_le_mul_left _ h1
  omega
 ·have h1 : 27 ≤ 3 ^ q := Nat.le_trans (by decide) (Nat.pow_le_pow_right (show 0 < 3 by omega) h)
  have h2 : v * F ≤ v * 10 := Nat.mul_le_mul_left _ h10
  have h3 : X * 27 ≤ X * 3 ^ q := Nat.mul_le_mul_left _ h1
  omega
theorem Gd.times {n : Nd} {pre post : List Int} {a b : Int} (h : Gd n pre) (hp : 0 < post.length) (h1 : 0 ≤ a) (h2 : a ≤ 9) (h3 : b = -1 ∨ a ≤ b ∧ b ≤ 9) (hf : facR a b ≤ 2 ∨ 3 ≤ post.length) : Gd (timesN n a b) (pre ++ post) := by
 refine ⟨by rw [List.length_append]; omega, ?_, ?_, fun hs => ?_, ?_⟩
 rotate_right
 ·have e : wt (timesN n a b) = wt n * facR a b + 1 := by
   rw [timesN, wt, if_neg (by decide), if_pos rfl, wts, wts, Nat.add_zero]
   unfold facR
   split <;> rfl
  rw [List.length_append, e]
  refine fac_wt h.wgt hp (hf.imp id fun h => ⟨h, ?_⟩)
  unfold facR
  split <;> omega
 ·have := h.cnt
  rw [List.length_append, timesN, count, counts, counts]
  omega
 ·have := h.dp
  rw [List.length_append, timesN, deep, deeps, deeps]
  omega
 ·have := h.ok fun s hs' => hs s (List.mem_append_left _ hs')
  rw [timesN, may, mays, mays, this]
  have h4 : (decide (b = -1) || decide (a ≤ b) && decide (b ≤ 9)) = true := by
   rcases h3 with h3 | ⟨h3, h5⟩
   ·simp [h3]
   ·simp [h3, h5]
  simp [mayAlone, h1, h2]
  rcases h3 with h3 | ⟨h3, h5⟩
  ·exact .inl h3
  ·exact .inr ⟨h3, h5⟩
theorem repeat_len (n : Nd) (r : PR) : (repeatR n r).2.left.length ≤ r.left.length := by
 unfold repeatR
 split
 ·have := tail_len ‹_›; dsimp only; omega
 ·split
  ·have := tail_len ‹_›; dsimp only; omega
  ·split
   ·have := tail_len ‹_›; dsimp only; omega
   ·split
    ·have := tail_len ‹_›
     have := bounds_len r.tail
     dsimp only; omega
    ·exact Nat.le_refl _
theorem fwd_repeat {n : Nd} {r0 r : PR} (h : Fwd r0 r (Gd n)) : Fwd r0 (repeatR n r).2 (Gd (repeatR n r).1) := by
 unfold repeatR
 split
 ·exact h.trans (fwd_tail ‹_›) fun a b h1 h2 => by subst h2; exact h1.times (by simp) (by omega) (by omega) (.inl rfl) (.inl (by decide))
 ·split
  ·exact h.trans (fwd_tail ‹_›) fun a b h1 h2 => by subst h2; exact h1.times (by simp) (by omega) (by omega) (.inl rfl) (.inl (by decide))
  ·split
   ·exact h.trans (fwd_tail ‹_›) fun a b h1 h2 => by subst h2; exact h1.times (by simp) (by omega) (by omega) (.inr ⟨by omega, by omega⟩) (.inl (by decide))
   ·split
    ·refine (h.trans (fwd_tail ‹_›) (R := fun pre => ∃ a b, pre = a ++ b ∧ Gd n a ∧ b.length = 1) fun a b h1 h2 => ⟨a, b, rfl, h1, by rw [h2]; rfl⟩).trans (fwd_bounds r.tail) ?_
     rintro _ b ⟨a, c, rfl, h1, hc⟩ ⟨h2, h3, h4, h5⟩
     rw [List.append_assoc]
     exact h1.times (by rw [List.length_append]; omega) h3 h4 h5 (.inr (by rw [List.length_append]; omega))
    ·exact h
theorem gd_one (s : Int) : Gd (oneN s) [s] := by
 refine ⟨by simp, by simp [oneN, count, counts], by simp [oneN, deep, deeps], fun h => ?_, by simp [oneN, wt, wts]⟩
 have := h s (by simp)
 simp [oneN, may, mays, mayAlone, okSet, this]
theorem gd_bound {k : Int} (hk : k = 6 ∨ k = 7) (s : Int) : Gd (.mk k [] false [] 0 0) [s] := by
 refine ⟨by simp, by simp [count, counts], by simp [deep, deeps], fun _ => ?_, ?_⟩
 ·rcases hk with rfl | rfl <;> simp [may, mays, mayAlone]
 ·rcases hk with rfl | rfl <;> simp [wt, wts]
theorem Gd.more {n : Nd} {a : List Int} (h : Gd n a) (b c : List Int) : Gd n (b ++ a ++ c) := by
 refine ⟨by have := h.pos; simp; omega, by have := h.cnt; simp; omega, by have := h.dp; simp; omega, fun hs => h.ok fun s hs' => hs s (by simp [hs']), Nat.lt_of_lt_of_le h.wgt (Nat.pow_le_pow_right (by omega) (by simp; omega))⟩
theorem signOfSet_len (r : PR) : (signOfSet r).2.left.length ≤ r.left.length - 1 := by
 unfold signOfSet
 have h1 := next_len r
 split
 ·have h2 := next_len r.next.2; omega
 ·exact h1
theorem fwd_signOfSet (r : PR) : Fwd r (signOfSet r).2 (fun pre => 0 < pre.length ∧ (signOfSet r).1 ∈ pre) := by
 unfold signOfSet
 split
 ·refine (fwd_next r).trans (fwd_next _) ?_
  rintro a b rfl rfl
  simp
 ·refine (fwd_next r).mono ?_
  rintro a rfl
  simp
def Gs (x : Int × Int) (pre : List Int) : Prop := 0 < pre.length ∧ x.1 ∈ pre ∧ x.2 ∈ pre ∧ x.1 ≤ x.2
theorem signs_len (r : PR) : (signsR r).2.left.length ≤ r.left.length - 1 := by
 unfold signsR
 dsimp only
 have h1 := signOfSet_len r
 split
 ·have h2 := need_len (signOfSet r).2 45
  have h3 := signOfSet_len ((signOfSet r).2.need 45)
  split
  ·exact Nat.zero_le _
  ·dsimp only; omega
 ·exact h1
theorem fwd_signs (r : PR) : Fwd r (signsR r).2 (Gs (signsR r).1) := by
 unfold signsR
 dsimp only
 split
 ·split
  ·exact .none _ _
  ·refine ((fwd_signOfSet r).trans (fwd_need _ 45) (R := fun pre => 0 < pre.length ∧ (signOfSet r).1 ∈ pre) ?_).trans (fwd_signOfSet _) ?_
   ·rintro a b ⟨h1, h2⟩ _
    exact ⟨by rw [List.length_append]; omega, List.mem_append_left _ h2⟩
   ·rintro a b ⟨h1, h2⟩ ⟨h3, h4⟩
    exact ⟨by rw [List.length_append]; omega, List.mem_append_left _ h2, List.mem_append_right _ h4, by dsimp only; omega⟩
 ·refine (fwd_signOfSet r).mono ?_
  rintro a ⟨h1, h2⟩
  exact ⟨h1, h2, h2, Int.le_refl _⟩
theorem signs_empty {r : PR} (h : r.left = []) : (signsR r).2.broken = true := by
 obtain ⟨l, b⟩ := r
 dsimp only at h
 subst h
 have : (signOfSet ⟨[], b⟩) = (0, .none) := rfl
 unfold signsR
 rw [this]
 rfl
theorem set_mu (r : PR) (a : Int × Int) (r1 : PR) (h : setSt r = .some (a, r1)) : setMu r1 < setMu r := by
 unfold setSt at h
 split at h
 ·cases h
 ·split at h
  ·cases h
  ·have hr : r1 = (signsR r).2 := by
    have := Option.some.inj h
    rw [this]
   subst hr
   have h1 := signs_len r
   have hb : r.broken = false := by simpa using ‹¬ r.broken = true›
   unfold setMu
   rw [hb]
   by_cases h2 : r.left = []
   ·rw [signs_empty h2]
    rw [h2] at h1 ⊢
    simp at h1 ⊢
    rw [h1]
   ·have := List.length_pos_iff.2 h2
    simp
    split <;> omega
theorem set_some {r r1 : PR} {a : Int × Int} (h : setSt r = .some (a, r1)) : a = (signsR r).1 ∧ r1 = (signsR r).2 ∧ r.broken = false ∧ r.sees 93 = false := by
 unfold setSt at h
 split at h
 ·cases h
 ·split at h
  ·cases h
  ·have := Option.some.inj h
   exact ⟨by rw [this], by rw [this], by simpa using ‹¬ r.broken = true›, by simpa using ‹¬ r.sees 93 = true›⟩
def Gss (l : List (Int × Int)) (pre : List Int) : Prop := ∀ x ∈ l, x.1 ∈ pre ∧ x.2 ∈ pre ∧ x.1 ≤ x.2
theorem set_loop : ∀ (k : Nat) (r : PR), setMu r ≤ k → (fullN setSt k r).2.left.length ≤ r.left.length ∧ Fwd r (fullN setSt k r).2 (Gss (fullN setSt k r).1) ∧
  ((fullN setSt k r).2.broken = false → (fullN setSt k r).2.sees 93 = true)
 | 0, r, h => by
  have hb : r.broken = true := by
   unfold setMu at h
   cases e : r.broken
   ·rw [e] at h; simp at h
   ·rfl
  exact ⟨Nat.le_refl _, fun h2 => by rw [fullN, hb] at h2; (cases h2), fun h2 => by rw [fullN, hb] at h2; (cases h2)⟩
 | k + 1, r, h => by
  cases e : setSt r with
  | none =>
   rw [fullN_stop e]
   refine ⟨Nat.le_refl _, (Fwd.refl r).mono fun _ _ x hx => (by cases hx), fun hb => ?_⟩
   dsimp only at hb ⊢
   unfold setSt at e
   rw [hb] at e
   simp at e
   exact e
  | some y =>
   obtain ⟨a, r1⟩ := y
   have hm := set_mu r a r1 e
   obtain ⟨rfl, rfl, hb, h93⟩ := set_some e
   obtain ⟨i1, i2, i3⟩ := set_loop k (signsR r).2 (by omega)
   rw [fullN, e]
   dsimp only
   have h1 := signs_len r
   refine ⟨by omega, (fwd_signs r).trans i2 ?_, i3⟩
   rintro p q ⟨h2, h3, h4, h5⟩ h6 x hx
   rcases List.mem_cons.1 hx with rfl | hx
   ·exact ⟨List.mem_append_left _ h3, List.mem_append_left _ h4, h5⟩
   ·obtain ⟨h7, h8, h9⟩ := h6 x hx
    exact ⟨List.mem_append_right _ h7, List.mem_append_right _ h8, h9⟩
theorem setL_len (r : PR) : (setL r).2.left.length ≤ r.left.length := by
 unfold setL
 dsimp only
 have h := (set_loop (setMu r) r (Nat.le_refl _)).1
 split
 ·exact h
 ·dsimp only [PR.tail]; rw [List.length_tail]; omega
theorem fwd_setL (r : PR) : Fwd r (setL r).2 (fun pre => 0 < pre.length ∧ Gss (setL r).1 pre) := by
 unfold setL
 dsimp only
 obtain ⟨_, h2, h3⟩ := set_loop (setMu r) r (Nat.le_refl _)
 cases e : (fullN setSt (setMu r) r).2.broken
 ·have h4 := h3 e
  rw [if_neg (by simp)]
  refine h2.trans (fwd_tail h4) ?_
  rintro a b h5 rfl
  exact ⟨by simp, fun x hx => ⟨List.mem_append_left _ (h5 x hx).1, List.mem_append_left _ (h5 x hx).2.1, (h5 x hx).2.2⟩⟩
 ·rw [if_pos rfl]
  exact fun hb => by rw [e] at hb; cases hb
theorem set_len (r : PR) : (setR r).2.left.length ≤ r.left.length := by
 unfold setR
 obtain ⟨r0, h0⟩ : ∃ r0, (if r.sees 94 then r.tail else r) = r0 := ⟨_, rfl⟩
 rw [h0]
 dsimp only
 have h1 : r0.left.length ≤ r.left.length := by
  rw [← h0]
  split
  ·have := tail_len ‹_›; omega
  ·exact Nat.le_refl _
 split
 ·exact Nat.zero_le _
 ·have := setL_len r0; omega
theorem fwd_set (r : PR) : Fwd r (setR r).2 (Gd (setR r).1) := by
 unfold setR
 obtain ⟨r0, h0⟩ : ∃ r0, (if r.sees 94 then r.tail else r) = r0 := ⟨_, rfl⟩
 rw [h0]
 dsimp only
 have h1 : Fwd r r0 (fun _ => True) := by
  rw [← h0]
  split
  ·exact (fwd_tail ‹_›).mono fun _ _ => trivial
  ·exact (Fwd.refl r).mono fun _ _ => trivial
 split
 ·exact .none _ _
 ·rename_i hne
  refine h1.trans (fwd_setL r0) ?_
  rintro a b - ⟨h2, h3⟩
  refine ⟨by simp; omega, by rw [count, counts]; simp; omega, by rw [deep, deeps]; simp; omega, fun hs => ?_, ?_⟩
  rotate_left
  ·refine Nat.lt_of_lt_of_le (show _ < 3 ^ 1 from ?_) (Nat.pow_le_pow_right (by omega) (show 1 ≤ (a ++ b).length by rw [List.length_append]; omega))
   simp [wt, wts]
  have h4 : okSet (setL r0).1 = true := by
   unfold okSet
   rw [List.all_eq_true]
   intro x hx
   obtain ⟨h5, h6, h7⟩ := h3 x hx
   simp [hs _ (List.mem_append_right _ h5), hs _ (List.mem_append_right _ h6), h7]
  have h5 : (setL r0).1.isEmpty = false := by simpa using hne
  simp [may, mays, mayAlone, h4]
  exact .inl (by simpa using h5)
structure Good (f : PR → Nd × PR) : Prop where
 len : ∀ r, (f r).2.left.length ≤ r.left.length - 1
 fwd : ∀ r, Fwd r (f r).2 (Gd (f r).1)
theorem good_piece {f : PR → Nd × PR} (h : Good f) : Good (pieceR f) := by
 constructor
 ·intro r
  unfold pieceR
  split
  ·have := tail_len ‹_›; dsimp only; omega
  ·split
   ·have := tail_len ‹_›; dsimp only; omega
   ·have h1 := h.len r
    have h2 := repeat_len (f r).1 (f r).2
    omega
 ·intro r
  unfold pieceR
  split
  ·exact (fwd_tail ‹_›).mono fun a e => e ▸ gd_bound (.inl rfl) _
  ·split
   ·exact (fwd_tail ‹_›).mono fun a e => e ▸ gd_bound (.inr rfl) _
   ·exact fwd_repeat (h.fwd r)
structure Gds (l : List Nd) (pre : List Int) : Prop where
 pos : l.length ≤ pre.length
 cnt : counts l + l.length ≤ 2 * pre.length
 dp : deeps l + l.length ≤ pre.length + 1
 ok : (∀ s ∈ pre, okSign s = true) → mays l = true
 wgt : wts l + l.length ≤ 3 ^ pre.length
theorem gds_nil (pre : List Int) : Gds [] pre := ⟨Nat.zero_le _, by simp [counts], by simp [deeps], fun _ => by simp [mays], by simp [wts]⟩
theorem two_wt {X Y a b : Nat} (h1 : a ≤ X) (h2 : b ≤ Y) (hX : 3 ≤ X) (hY : 3 ≤ Y) : a + b ≤ X * Y := by
 have h3 : X * 3 ≤ X * Y := Nat.mul_le_mul_left _ hY
 have h4 : 3 * Y ≤ X * Y := Nat.mul_le_mul_right _ hX
 omega
theorem pow_three {k : Nat} (h : 0 < k) : 3 ≤ 3 ^ k := by
 have := Nat.pow_le_pow_right (show 0 < 3 by omega) h
 omega
theorem Gd.cons {n : Nd} {l : List Nd} {p q : List Int} (h : Gd n p) (h2 : Gds l q) : Gds (n :: l) (p ++ q) := by
 have a1 := h.pos
 have a2 := h.cnt
 have a3 := h.dp
 have b1 := h2.pos
 have b2 := h2.cnt
 have b3 := h2.dp
 refine ⟨by simp; omega, by simp [counts]; omega, by simp [deeps]; omega, fun hs => ?_, ?_⟩
 rotate_left
 ·have a4 := h.wgt
  have b4 := h2.wgt
  rw [wts, List.length_cons, List.length_append, Nat.pow_add]
  cases l with
  | nil =>
   simp only [wts, List.length_nil, Nat.add_zero] at b4 ⊢
   have h5 : 3 ^ p.length * 1 ≤ 3 ^ p.length * 3 ^ q.length := Nat.mul_le_mul_left _ (Nat.pow_pos (by omega))
   omega
  | cons m l =>
   have h5 := two_wt (show wt n + 1 ≤ 3 ^ p.length from a4) b4 (pow_three a1) (pow_three (by simp at b1; omega))
   omega
 rw [mays, h.ok fun s h => hs s (List.mem_append_left _ h), h2.ok fun s h => hs s (List.mem_append_right _ h)]
 rfl
theorem Gds.one {k : Int} (hk : k = 3 ∨ k = 4) {n : Nd} {l : List Nd} {pre : List Int} (h : Gds (n :: l) pre) : Gd (oneOrAll k (n :: l)) pre := by
 have b1 := h.pos
 have b2 := h.cnt
 have b3 := h.dp
 cases l with
 | nil =>
  simp [counts, deeps] at b1 b2 b3
  have b4 := h.wgt
  refine ⟨by omega, by rw [oneOrAll]; omega, by rw [oneOrAll]; omega, fun hs => ?_, by rw [oneOrAll]; simp [wts] at b4; omega⟩
  have := h.ok hs
  simp [mays] at this
  exact this
 | cons m l =>
  simp only [List.length_cons] at b1 b2 b3
  have b4 := h.wgt
  refine ⟨by omega, by simp only [oneOrAll, count]; omega, by simp only [oneOrAll, deep]; omega, fun hs => ?_, ?_⟩
  rotate_left
  ·simp only [List.length_cons] at b4
   simp only [oneOrAll]
   rw [wt]
   rcases hk with rfl | rfl
   ·rw [if_pos rfl]; omega
   ·rw [if_neg (by decide), if_neg (by decide)]; omega
  have := h.ok hs
  simp only [oneOrAll, may, this]
  rcases hk with rfl | rfl <;> simp [mayAlone]
theorem row_some {f : PR → Nd × PR} {r r1 : PR} {a : Nd} (h : rowSt f r = .some (a, r1)) : a = (pieceR f r).1 ∧ r1 = (pieceR f r).2 ∧ 0 < r.left.length ∧ r.sees 124 = false ∧ r.sees 41 = false := by
 unfold rowSt at h
 split at h
 ·cases h
 ·split at h
  ·cases h
  ·split at h
   ·cases h
   ·have := Option.some.inj h
    refine ⟨by rw [this], by rw [this], ?_, by simpa using ‹¬ r.sees 124 = true›, by simpa using ‹¬ r.sees 41 = true›⟩
    cases e : r.left with
    | nil => simp [e] at *
    | cons => simp
theorem row_mu {f : PR → Nd × PR} (hf : Good f) (r : PR) (a : Nd) (r1 : PR) (h : rowSt f r = .some (a, r1)) : r1.left.length < r.left.length := by
 obtain ⟨_, rfl, h1, _⟩ := row_some h
 have := (good_piece hf).len r
 omega
theorem row_loop {f : PR → Nd × PR} (hf : Good f) : ∀ (k : Nat) (r : PR), (fullN (rowSt f) k r).2.left.length ≤ r.left.length ∧ Fwd r (fullN (rowSt f) k r).2 (Gds (fullN (rowSt f) k r).1)
 | 0, r => ⟨Nat.le_refl _, (Fwd.refl r).mono fun _ _ => gds_nil _⟩
 | k + 1, r => by
  cases e : rowSt f r with
  | none => rw [fullN_stop e]; exact ⟨Nat.le_refl _, (Fwd.refl r).mono fun _ _ => gds_nil _⟩
  | some y =>
   obtain ⟨a, r1⟩ := y
   have hm := row_mu hf r a r1 e
   obtain ⟨rfl, rfl, _⟩ := row_some e
   obtain ⟨i1, i2⟩ := row_loop hf k (pieceR f r).2
   rw [fullN, e]
   exact ⟨by dsimp only; omega, ((good_piece hf).fwd r).trans i2 fun _ _ h h2 => h.cons h2⟩
theorem good_row {f : PR → Nd × PR} (hf : Good f) : Good (rowR f) := by
 constructor
 ·intro r
  have h1 := (good_piece hf).len r
  have h2 := (row_loop hf (pieceR f r).2.left.length (pieceR f r).2).1
  unfold rowR
  dsimp only
  omega
 ·intro r
  unfold rowR
  exact ((good_piece hf).fwd r).trans (row_loop hf _ _).2 fun _ _ h h2 => (h.cons h2).one (.inl rfl)
theorem alt_some {f : PR → Nd × PR} {r r1 : PR} {a : Nd} (h : altSt f r = .some (a, r1)) : a = (rowR f r.tail).1 ∧ r1 = (rowR f r.tail).2 ∧ r.sees 124 = true := by
 unfold altSt at h
 split at h
 ·have := Option.some.inj h
  exact ⟨by rw [this], by rw [this], ‹_›⟩
 ·cases h
theorem alt_mu {f : PR → Nd × PR} (hf : Good f) (r : PR) (a : Nd) (r1 : PR) (h : altSt f r = .some (a, r1)) : r1.left.length < r.left.length := by
 obtain ⟨_, rfl, h1⟩ := alt_some h
 have := (good_row hf).len r.tail
 have := tail_len h1
 omega
theorem alt_loop {f : PR → Nd × PR} (hf : Good f) : ∀ (k : Nat) (r : PR), (fullN (altSt f) k r).2.left.length ≤ r.left.length ∧ Fwd r (fullN (altSt f) k r).2 (Gds (fullN (altSt f) k r).1)
 | 0, r => ⟨Nat.le_refl _, (Fwd.refl r).mono fun _ _ => gds_nil _⟩
 | k + 1, r => by
  cases e : altSt f r with
  | none => rw [fullN_stop e]; exact ⟨Nat.le_refl _, (Fwd.refl r).mono fun _ _ => gds_nil _⟩
  | some y =>
   obtain ⟨a, r1⟩ := y
   have hm := alt_mu hf r a r1 e
   obtain ⟨rfl, rfl, h1⟩ := alt_some e
   obtain ⟨i1, i2⟩ := alt_loop hf k (rowR f r.tail).2
   rw [fullN, e]
   refine ⟨by dsimp only; omega, ((fwd_tail h1).trans ((good_row hf).fwd r.tail) (R := Gd (rowR f r.tail).1) ?_).trans i2 fun _ _ h h2 => h.cons h2⟩
   rintro a b rfl h
   have := h.more [124] []
   simpa using this
theorem good_alt {f : PR → Nd × PR} (hf : Good f) : Good (altR f) := by
 constructor
 ·intro r
  have h1 := (good_row hf).len r
  have h2 := (alt_loop hf (rowR f r).2.left.length (rowR f r).2).1
  unfold altR
  dsimp only
  omega
 ·intro r
  unfold altR
  exact ((good_row hf).fwd r).trans (alt_loop hf _ _).2 fun _ _ h h2 => (h.cons h2).one (.inr rfl)
theorem good_atom : ∀ f, Good (atomR f)
 | 0 => ⟨fun _ => Nat.zero_le _, fun _ => .none _ _⟩
 | f + 1 => by
  have hf := good_atom f
  constructor
  ·intro r
   have h1 := next_len r
   unfold atomR
   dsimp only
   split
   ·have h2 := (good_alt hf).len r.next.2
    have h3 := need_len (altR (atomR f) r.next.2).2 41
    dsimp only; omega
   ·split
    ·exact h1
    ·split
     ·have := set_len r.next.2; omega
     ·split
      ·have := next_len r.next.2; dsimp only; omega
      ·split
       ·exact Nat.zero_le _
       ·exact h1
  ·intro r
   unfold atomR
   dsimp only
   split
   ·refine (((fwd_next r).trans ((good_alt hf).fwd r.next.2) (R := Gd (altR (atomR f) r.next.2).1) ?_).trans (fwd_need _ 41) ?_)
    ·rintro a b rfl h
     have := h.more [r.next.1] []
     rwa [List.append_nil] at this
    ·rintro a b h rfl
     have := h.more [] [41]
     rwa [List.nil_append] at this
   ·split
    ·refine (fwd_next r).mono ?_
     rintro a rfl
     exact ⟨by simp, by simp [count, counts], by simp [deep, deeps], fun _ => by simp [may, mays, mayAlone, okSet], by simp [wt, wts]⟩
    ·split
     ·refine (fwd_next r).trans (fwd_set r.next.2) ?_
      rintro a b rfl h
      have := h.more [r.next.1] []
      rwa [List.append_nil] at this
     ·split
      ·refine (fwd_next r).trans (fwd_next r.next.2) ?_
       rintro a b rfl rfl
       have := (gd_one r.next.2.next.1).more [r.next.1] []
       rwa [List.append_nil] at this
      ·split
       ·exact .none _ _
       ·refine (fwd_next r).mono ?_
        rintro a rfl
        exact gd_one _
theorem parse_small {l : List Int} {n : Nd} (h : parseL l = .some n) (hl : ∀ s ∈ l, okSign s = true) : may n = true ∧ deep n ≤ l.length ∧ count n ≤ 2 * l.length ∧ 0 < l.length := by
 unfold parseL at h
 dsimp only at h
 split at h
 ·cases h
 ·rename_i hb
  simp at hb
  obtain ⟨_, pre, e, g⟩ := (good_alt (good_atom (l.length + 1))).fwd ⟨l, false⟩ hb.1
  rw [hb.2, List.append_nil] at e
  dsimp only at e
  subst e
  cases Option.some.inj h
  exact ⟨g.ok hl, g.dp, by have := g.cnt; omega, g.pos⟩
theorem parse_wt {l : List Int} {n : Nd} (h : parseL l = .some n) : wt n < 3 ^ l.length := by
 unfold parseL at h
 dsimp only at h
 split at h
 ·cases h
 ·rename_i hb
  simp at hb
  obtain ⟨_, pre, e, g⟩ := (good_alt (good_atom (l.length + 1))).fwd ⟨l, false⟩ hb.1
  rw [hb.2, List.append_nil] at e
  dsimp only at e
  subst e
  cases Option.some.inj h
  exact g.wgt
end Go.Proofs.YteemnmalikomgaaGreatDoor.NF
namespace Go.Proofs.YteemnmalikomgaaGreatDoor
open Go.ChangeShapes Go.WideShapes Go.ChangeAt Go.RowKit
namespace NF
def flatR (s : Sg) : List Value := s.flatMap fun x => [.int .i32 x.1, .int .i32 x.2]
theorem flatR_len : ∀ s : Sg, (flatR s).length = s.length * 2
 | [] => rfl
 | x :: s => by
  have := flatR_len s
  have e : flatR (x :: s) = [.int .i32 x.1, .int .i32 x.2] ++ flatR s := rfl
  rw [e, List.length_append, this]
  simp
  omega
theorem flatR_get : ∀ (s : Sg) (k : Nat) (x : Int × Int), s[k]? = some x → (flatR s)[k * 2]? = some (.int .i32 x.1) ∧ (flatR s)[k * 2 + 1]? = some (.int .i32 x.2)
 | [], k, x, h => by simp at h
 | y :: s, 0, x, h => by
  simp at h
  subst h
  exact ⟨rfl, rfl⟩
 | y :: s, k + 1, x, h => by
  have ih := flatR_get s k x (by simpa using h)
  have e : flatR (y :: s) = [.int .i32 y.1, .int .i32 y.2] ++ flatR s := rfl
  rw [e, show (k + 1) * 2 = k * 2 + 2 by omega, List.getElem?_append_right (by simp), show k * 2 + 2 + 1 = k * 2 + 1 + 2 by omega, List.getElem?_append_right (by simp)]
  simpa using ih
theorem range_at {w : World} {B n k : Nat} {A : Option Addr} {s : Sg} {x : Int × Int} (h : Sq w B 2 n A (flatR s)) (hx : s[k]? = some x) (hk : k < n) :
  ∃ b off, A = some ⟨b, off, none⟩ ∧ b < B ∧ w.cell? ⟨b, off + k * 2, none⟩ = some (.int .i32 x.1) ∧ w.cell? ⟨b, off + k * 2 + 1, none⟩ = some (.int .i32 x.2) := by
 obtain ⟨b, off, e, hb, hc⟩ := h.spot (by omega)
 obtain ⟨h0, h1⟩ := flatR_get s k x hx
 exact ⟨b, off, e, hb, hc _ _ h0, by rw [Nat.add_assoc]; exact hc _ _ h1⟩
theorem sq_size {w : World} {B n : Nat} {A : Option Addr} {s : Sg} (h : Sq w B 2 n A (flatR s)) : s.length = n := by
 have := h.len
 rw [flatR_len] at this
 omega
theorem rising_step : ∀ {s : Sg}, Rising s → ∀ (a : Nat) (x y : Int × Int), s[a]? = some x → s[a + 1]? = some y → x.1 ≤ x.2 ∧ x.2 < y.1
 | [], _, a, x, y, h, _ => by simp at h
 | [_], _, a, x, y, _, h => by simp at h
 | u :: v :: r, h, 0, x, y, hx, hy => by
  simp at hx hy
  subst hx hy
  exact ⟨h.1, h.2.1⟩
 | u :: v :: r, h, a + 1, x, y, hx, hy => rising_step h.2.2 a x y (by simpa using hx) (by simpa using hy)
theorem rising_own : ∀ {s : Sg}, Rising s → ∀ (a : Nat) (x : Int × Int), s[a]? = some x → x.1 ≤ x.2
 | [], _, a, x, h => by simp at h
 | [u], h, 0, x, hx => by simp at hx; subst hx; exact h
 | [u], h, a + 1, x, hx => by simp at hx
 | u :: v :: r, h, 0, x, hx => by simp at hx; subst hx; exact h.1
 | u :: v :: r, h, a + 1, x, hx => rising_own h.2.2 a x (by simpa using hx)
theorem rising_lt {s : Sg} (h : Rising s) : ∀ (d a : Nat) (x y : Int × Int), s[a]? = some x → s[a + d + 1]? = some y → x.2 < y.1
 | 0, a, x, y, hx, hy => (rising_step h a x y hx hy).2
 | d + 1, a, x, y, hx, hy => by
  have hl := (List.getElem?_eq_some_iff.1 hy).1
  obtain ⟨z, hz⟩ : ∃ z, s[a + d + 1]? = some z := ⟨_, List.getElem?_eq_getElem (by omega)⟩
  have h1 := rising_lt h d a x z hx hz
  have h2 := rising_step h (a + d + 1) z y hz (by rw [show a + d + 1 + 1 = a + (d + 1) + 1 by omega]; exact hy)
  omega
theorem found {s : Sg} (h : Rising s) {r : Int} {i : Nat} (h1 : ∀ a x, a < i → s[a]? = some x → x.2 < r) (h2 : ∀ a x, i ≤ a → s[a]? = some x → ¬ x.2 < r) :
  anyS s r = match s[i]? with | some x => decide (x.1 ≤ r) | none => false := by
 unfold anyS
 cases hi : s[i]? with
 | none =>
  dsimp only
  rw [List.any_eq_false]
  intro x hx
  obtain ⟨a, ha⟩ := List.getElem?_of_mem hx
  have := (List.getElem?_eq_some_iff.1 ha).1
  have := List.getElem?_eq_none_iff.1 hi
  have := h1 a x (by omega) ha
  simp; omega
 | some z =>
  dsimp only
  have hz := h2 i z (Nat.le_refl _) hi
  by_cases hr : z.1 ≤ r
  ·rw [decide_eq_true hr, List.any_eq_true]
   exact ⟨z, List.mem_of_getElem? hi, by simp; omega⟩
  ·rw [decide_eq_false hr, List.any_eq_false]
   intro x hx
   obtain ⟨a, ha⟩ := List.getElem?_of_mem hx
   by_cases hai : a < i
   ·have := h1 a x hai ha
    simp; omega
   ·by_cases hia : a = i
    ·subst hia
     rw [hi] at ha
     cases ha
     simp; omega
    ·have := rising_lt h (a - i - 1) i z x hi (by rw [show i + (a - i - 1) + 1 = a by omega]; exact ha)
     have := rising_own h i z hi
     simp; omega
def cmpR (x : Int × Int) (r : Int) : Int := if x.2 < r then -1 else if r < x.1 then 1 else 0
theorem cmpR_neg (x : Int × Int) (r : Int) : cmpR x r < 0 ↔ x.2 < r := by
 unfold cmpR
 split <;> rename_i h
 ·simp [h]
 ·split <;> simp <;> omega
theorem cmpR_zero (x : Int × Int) (r : Int) : cmpR x r = 0 ↔ ¬ x.2 < r ∧ x.1 ≤ r := by
 unfold cmpR
 split <;> rename_i h
 ·simp; omega
 ·split <;> simp <;> omega
set_option maxRecDepth 100000 in
set_option maxHeartbeats 3200000 in
theorem against_walk (x : Int × Int) (r : Int) (w : World) :
  Calls Tryz.prog 142 #[.agg #[.int .i32 x.1, .int .i32 x.2], .int .i32 r] w fun e w' => e = .returned (.int .i64 (cmpR x r)) ∧ Below w.heap.size w w' := by
 obtain ⟨a, b⟩ := x
 have B0 := Lib.hid ((Below.refl w.heap.size w).alloc (Nat.le_refl _) (.cells #[.int .i32 a, .int .i32 b] 189))
 unfold cmpR
 dsimp only
 by_cases h1 : b < r
 ·rw [if_pos h1]
  go_enter Tryz.func142, Tryz.ntmps142
  go_wp2_with fail
  go_ret
  exact ⟨rfl, B0.out⟩
 ·rw [if_neg h1]
  by_cases h2 : r < a
  ·rw [if_pos h2]
   go_enter Tryz.func142, Tryz.ntmps142
   go_wp2_with fail
   go_ret
   exact ⟨rfl, B0.out⟩
  ·rw [if_neg h2]
   go_enter Tryz.func142, Tryz.ntmps142
   go_wp2_with fail
   go_ret
   exact ⟨rfl, B0.out⟩
def Srch (s : Sg) (r : Int) (i j : Nat) : Prop := (∀ a x, a < i → s[a]? = some x → x.2 < r) ∧ (∀ a x, j ≤ a → s[a]? = some x → ¬ x.2 < r)
theorem Srch.up {s : Sg} {r : Int} {i j h : Nat} {x : Int × Int} (hr : Rising s) (hs : Srch s r i j) (hx : s[h]? = some x) (hc : x.2 < r) : Srch s r (h + 1) j := by
 refine ⟨fun a y ha hy => ?_, hs.2⟩
 by_cases hah : a = h
 ·subst hah; rw [hx] at hy; cases hy; exact hc
 ·have := rising_lt hr (h - a - 1) a y x hy (by rw [show a + (h - a - 1) + 1 = h by omega]; exact hx)
  have := rising_own hr h x hx
  omega
theorem Srch.down {s : Sg} {r : Int} {i j h : Nat} {x : Int × Int} (hr : Rising s) (hs : Srch s r i j) (hx : s[h]? = some x) (hc : ¬ x.2 < r) : Srch s r i h := by
 refine ⟨hs.1, fun a y ha hy => ?_⟩
 by_cases hah : a = h
 ·subst hah; rw [hx] at hy; cases hy; exact hc
 ·have := rising_lt hr (a - h - 1) h x y hx (by rw [show h + (a - h - 1) + 1 = a by omega]; exact hy)
  have := rising_own hr a y hy
  omega
set_option maxRecDepth 100000 in
set_option maxHeartbeats 3200000 in
theorem bsearch_walk (A : Option Addr) (n c : Nat) (s : Sg) (r : Int) (w : World) (hc : n ≤ 70368744177664) (hr : Rising s) (hq : Sq w w.heap.size 2 n A (flatR s)) :
  Calls Tryz.prog 141 #[.slice A n c, .int .i32 r, .func (.func 142) #[] #[]] w
   fun e w' => (∃ k : Int, e = .returned (.tuple #[.int .i64 k, .bool (anyS s r)])) ∧ Below w.heap.size w w' := by
 have hl := sq_size hq
 have Q := Lib.hid hq
 have R := Lib.hid hr
 have L := Lib.hid hl
 have I0 := Lib.hid (show Below w.heap.size w w ∧ Srch s r 0 n from
  ⟨Below.refl _ _, fun a x h => absurd h (Nat.not_lt_zero _), fun a x h hx => by have := (List.getElem?_eq_some_iff.1 hx).1; omega⟩)
 clear hq hr hl
 go_enter Tryz.func141, Tryz.ntmps141
 go_wp2_with fail
 go_loopw [9, 10] (fun x y wr => ∃ i j : Nat, x = .int .i64 (i : Int) ∧ y = .int .i64 (j : Int) ∧ i ≤ j ∧ j ≤ n ∧ Hid (Below w.heap.size w wr ∧ Srch s r i j)) (fun x y _ => (intOf y).toNat - (intOf x).toNat)
 case atStart => exact ⟨0, n, rfl, rfl, Nat.zero_le _, Nat.le_refl _, I0⟩
 case round =>
  obtain ⟨i, j, rfl, rfl, hij, hjn, I⟩ := hrel
  clear I0
  have HB := Lib.hid I.out.1
  by_cases hlt : i < j
  ·have hadd : IntKind.i64.wrap ((i : Int) + (j : Int)) = (i : Int) + (j : Int) := IntWalk.i64_in _ (by omega)
   have hu : IntKind.u64.wrap ((i : Int) + (j : Int)) = (i : Int) + (j : Int) := by simp [IntKind.wrap, IntKind.bits, IntKind.signed]; omega
   obtain ⟨h, hh, hih, hhj⟩ : ∃ h : Nat, ((i : Int) + (j : Int)) / 2 = (h : Int) ∧ i ≤ h ∧ h < j := ⟨(i + j) / 2, by omega, by omega, by omega⟩
   obtain ⟨x, hx⟩ : ∃ x, s[h]? = some x := ⟨_, List.getElem?_eq_getElem (by rw [L.out]; omega)⟩
   obtain ⟨b, off, rfl, _, c0, c1⟩ := range_at (Q.out.below HB.out) hx (by omega)
   have CT := Lib.hid (fun W => against_walk x r W)
   have hh0 : (0 : Int) ≤ (h : Int) := by omega
   have hhn : (h : Int) < (n : Int) := by omega
   have hinc : IntKind.i64.wrap ((h : Int) + 1) = (h : Int) + 1 := IntWalk.i64_in _ (by omega)
   obtain ⟨r0, hr0⟩ : ∃ r0, cmpR x r = r0 := ⟨_, rfl⟩
   rw [hr0] at CT
   have X := Lib.hid hx
   by_cases hneg : r0 < 0
   ·have I2 := Lib.hid (I.out.2.up R.out X.out ((cmpR_neg x r).1 (by rw [hr0]; exact hneg)))
    clear I hx hr0
    go_wp2_with fail
    refine (CT.out _).mono ?_
    rintro e w2 ⟨rfl, b2⟩
    have B2 := Lib.hid (HB.out.trans (b2.mono HB.out.size))
    clear b2 HB
    go_wp2
    go_roundw
    case rel => exact ⟨h + 1, j, by first | rfl | (congr 1; done) | (congr 1; omega), rfl, by omega, hjn, Lib.hid ⟨B2.out, I2.out⟩⟩
    case measure => first | (simp [intOf]; done) | (simp [intOf]; omega)
   ·have I2 := Lib.hid (I.out.2.down R.out X.out (fun hn => hneg (by rw [← hr0]; exact (cmpR_neg x r).2 hn)))
    clear I hx hr0
    go_wp2_with fail
    refine (CT.out _).mono ?_
    rintro e w2 ⟨rfl, b2⟩
    have B2 := Lib.hid (HB.out.trans (b2.mono HB.out.size))
    clear b2 HB
    go_wp2
    go_roundw
    case rel => exact ⟨i, h, rfl, rfl, hih, by omega, Lib.hid ⟨B2.out, I2.out⟩⟩
    case measure => first | (simp [intOf]; done) | (simp [intOf]; omega)
  ·obtain rfl : i = j := by omega
   have F := Lib.hid (found R.out I.out.2.1 I.out.2.2)
   have NL := Lib.hid (show ∀ x, s[i]? = some x → cmpR x r < 0 → False from fun x hx hn => I.out.2.2 i x (Nat.le_refl _) hx ((cmpR_neg x r).1 hn))
   clear I
   by_cases hin : i < n
   ·obtain ⟨x, hx⟩ : ∃ x, s[i]? = some x := ⟨_, List.getElem?_eq_getElem (by rw [L.out]; omega)⟩
    obtain ⟨b, off, rfl, _, c0, c1⟩ := range_at (Q.out.below HB.out) hx (by omega)
    have CT := Lib.hid (fun W => against_walk x r W)
    have h0 : (0 : Int) ≤ (i : Int) := by omega
    have h1 : (i : Int) < (n : Int) := by omega
    obtain ⟨r0, hr0⟩ : ∃ r0, cmpR x r = r0 := ⟨_, rfl⟩
    rw [hr0] at CT
    have F2 := F.out
    rw [hx] at F2
    have F3 := Lib.hid (show anyS s r = decide (r0 = 0) from by
     rw [F2]
     dsimp only
     have h2 : ¬ x.2 < r := fun hn => NL.out x hx ((cmpR_neg x r).2 hn)
     rw [← hr0]
     by_cases h4 : x.1 ≤ r
     ·rw [decide_eq_true h4, decide_eq_true ((cmpR_zero x r).2 ⟨h2, h4⟩)]
     ·rw [decide_eq_false h4, decide_eq_false (fun h5 => h4 ((cmpR_zero x r).1 h5).2)])
    clear F F2 hx hr0 NL
    go_wp2_with fail
    refine (CT.out _).mono ?_
    rintro e w2 ⟨rfl, b2⟩
    have B2 := Lib.hid (HB.out.trans (b2.mono HB.out.size))
    clear b2 HB
    go_wp2
    refine bodyPost_ret (results_tmp2 (t := 6) (u := 7) rfl _ _ _) rfl ?_
    exact ⟨⟨_, by rw [F3.out]; first | rfl | simp⟩, B2.out⟩
   ·obtain rfl : i = n := by omega
    have hnone : s[i]? = none := List.getElem?_eq_none (by rw [L.out]; exact Nat.le_refl _)
    have F2 := F.out
    rw [hnone] at F2
    have F3 := Lib.hid F2
    clear F F2 hnone NL
    go_wp2_with fail
    refine bodyPost_ret (results_tmp2 (t := 6) (u := 7) rfl _ _ _) rfl ?_
    exact ⟨⟨(i : Int), by rw [F3.out]; first | done | rfl | simp⟩, HB.out⟩
structure SetAt (w : World) (B : Nat) (b off : Nat) (s : Sg) (nt : Bool) : Prop where
 set : ∃ A n c, w.cell? ⟨b, off + 1, none⟩ = some (.slice A n c) ∧ n ≤ 70368744177664 ∧ Sq w B 2 n A (flatR s)
 nt : w.cell? ⟨b, off + 2, none⟩ = some (.bool nt)
set_option maxRecDepth 100000 in
set_option maxHeartbeats 3200000 in
theorem takes_walk (b off : Nat) (s : Sg) (nt : Bool) (r : Int) (w : World) (hr : Rising s) (hb : b < w.heap.size) (hs : SetAt w w.heap.size b off s nt) :
  Calls Tryz.prog 98 #[.pointer (some ⟨b, off, none⟩), .int .i32 r] w fun e w' => e = .returned (.bool (inSet s nt r)) ∧ Below w.heap.size w w' := by
 obtain ⟨⟨A, n, c, c1, hn, hq⟩, c2⟩ := hs
 have BS := Lib.hid (bsearch_walk A n c s r w hn hr hq)
 have HB := Lib.hid hb
 obtain ⟨g, hg⟩ : ∃ g, anyS s r = g := ⟨_, rfl⟩
 have G := Lib.hid (show inSet s nt r = (g != nt) from by unfold inSet; rw [hg])
 rw [hg] at BS
 have C2 := Lib.hid c2
 clear hq hr hb hg hn
 go_enter Tryz.func98, Tryz.ntmps98
 go_wp2_with fail
 refine BS.out.mono ?_
 rintro e w2 ⟨⟨k, rfl⟩, b2⟩
 have c3 : w2.cell? ⟨b, off + 2, none⟩ = some (.bool nt) := (b2.cell (p := ⟨b, off + 2, none⟩) HB.out).trans C2.out
 have B2 := Lib.hid b2
 clear b2 BS c1 c2
 go_wp2
 go_ret
 exact ⟨ret_bool (by rw [G.out]; cases g <;> cases nt <;> rfl), B2.out⟩
end NF
end Go.Proofs.YteemnmalikomgaaGreatDoor
