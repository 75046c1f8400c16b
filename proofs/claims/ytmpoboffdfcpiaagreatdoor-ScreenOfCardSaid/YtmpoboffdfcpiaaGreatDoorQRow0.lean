import Derived.Test.YtmpoboffdfcpiaaGreatDoorQBase3
import Derived.Laws.CopyRow
import Derived.Deep.CutRange
set_option maxRecDepth 100000
set_option maxHeartbeats 6400000
namespace Go.Proofs.YtmpoboffdfcpiaaGreatDoor
namespace Rw
def cAt (l : List Cel) (i : Nat) : Cel := l.getD i (32, 1, 0)
def cPrev (l : List Cel) (i : Nat) : Cel := if i = 0 then (32, 1, 0) else cAt l (i - 1)
theorem cAt_some {l : List Cel} {i : Nat} {c : Cel} (h : l[i]? = some c) : cAt l i = c := by unfold cAt; rw [List.getD_eq_getElem?_getD, h]; rfl
theorem cAt_none {l : List Cel} {i : Nat} (h : l.length ≤ i) : cAt l i = (32, 1, 0) := by unfold cAt; rw [List.getD_eq_getElem?_getD, List.getElem?_eq_none h]; rfl
theorem cAt_get {l : List Cel} {i : Nat} (h : i < l.length) : l[i]? = some (cAt l i) := by
 rw [cAt_some (List.getElem?_eq_getElem h)]
 exact List.getElem?_eq_getElem h
theorem cAt_cons (c : Cel) (l : List Cel) (i : Nat) : cAt (c :: l) (i + 1) = cAt l i := rfl
theorem cAt_zero (c : Cel) (l : List Cel) : cAt (c :: l) 0 = c := rfl
theorem ext_cAt {l m : List Cel} (hl : l.length = m.length) (h : ∀ i, i < l.length → cAt l i = cAt m i) : l = m := by
 refine List.ext_getElem? fun i => ?_
 by_cases hi : i < l.length
 ·rw [cAt_get hi, cAt_get (by omega), h i hi]
 ·rw [List.getElem?_eq_none (by omega), List.getElem?_eq_none (by omega)]
theorem cAt_set (l : List Cel) (k i : Nat) (c : Cel) (hk : k < l.length) : cAt (l.set k c) i = if i = k then c else cAt l i := by
 unfold cAt
 simp only [List.getD_eq_getElem?_getD, List.getElem?_set]
 by_cases h : i = k
 ·subst h; rw [if_pos rfl, if_pos rfl, if_pos hk]; rfl
 ·rw [if_neg (by omega), if_neg h]
structure Good (l : List Cel) : Prop where
 each : ∀ i, i < l.length → mayB (cAt l i) = true
 pair : ∀ i, ((cPrev l i).2.1 = 2 ↔ (cAt l i).2.1 = 0)
 like : ∀ i, (cAt l i).2.1 = 0 → (cAt l i).2.2 = (cPrev l i).2.2
theorem mayGo_iff (l : List Cel) : ∀ p : Cel, mayGo p l = true ↔ ∀ i, (i < l.length → mayB (cAt l i) = true) ∧ ((if i = 0 then p else cAt l (i - 1)).2.1 = 2 ↔ (cAt l i).2.1 = 0) ∧ ((cAt l i).2.1 = 0 → (cAt l i).2.2 = (if i = 0 then p else cAt l (i - 1)).2.2) := by
 induction l with
 | nil =>
  intro p
  constructor
  ·intro h i
   have hb : cAt [] i = (32, 1, 0) := cAt_none (Nat.zero_le _)
   simp only [mayGo, Bool.not_eq_true', beq_eq_false_iff_ne] at h
   refine ⟨fun h => absurd h (Nat.not_lt_zero _), ?_, ?_⟩
   ·rw [hb]
    by_cases hi : i = 0
    ·rw [if_pos hi]; simpa using h
    ·rw [if_neg hi, cAt_none (Nat.zero_le _)]; simp
   ·rw [hb]; intro h; cases h
  ·intro h
   have := (h 0).2.1
   rw [if_pos rfl, cAt_none (Nat.zero_le _)] at this
   simp only [mayGo, Bool.not_eq_true', beq_eq_false_iff_ne]
   intro e
   have := this.1 e
   cases this
 | cons c l ih =>
  intro p
  simp only [mayGo, Bool.and_eq_true]
  rw [ih c]
  have hpc : ((p.2.1 == 2) == (c.2.1 == 0)) = true ↔ (p.2.1 = 2 ↔ c.2.1 = 0) := by
   rw [beq_iff_eq (α := Bool), Bool.eq_iff_iff, beq_iff_eq, beq_iff_eq]
  have hlk : (!(c.2.1 == 0) || c.2.2 == p.2.2) = true ↔ (c.2.1 = 0 → c.2.2 = p.2.2) := by
   by_cases h1 : c.2.1 = 0 <;> simp [h1]
  rw [hpc, hlk]
  constructor
  ·rintro ⟨⟨⟨h1, h2⟩, h3⟩, h4⟩ i
   cases i with
   | zero =>
    rw [if_pos rfl, cAt_zero]
    exact ⟨fun _ => h1, h2, h3⟩
   | succ j =>
    have := h4 j
    rw [if_neg (by omega), cAt_cons, Nat.add_sub_cancel]
    refine ⟨fun hj => this.1 (by simpa using hj), ?_, ?_⟩
    ·cases j with
     | zero => rw [cAt_zero]; have := this.2.1; rwa [if_pos rfl] at this
     | succ j => rw [cAt_cons]; have := this.2.1; rwa [if_neg (by omega), Nat.add_sub_cancel] at this
    ·cases j with
     | zero => rw [cAt_zero]; have := this.2.2; rwa [if_pos rfl] at this
     | succ j => rw [cAt_cons]; have := this.2.2; rwa [if_neg (by omega), Nat.add_sub_cancel] at this
  ·intro h
   have h0 := h 0
   rw [if_pos rfl, cAt_zero] at h0
   refine ⟨⟨⟨h0.1 (by simp), h0.2.1⟩, h0.2.2⟩, fun j => ?_⟩
   have := h (j + 1)
   rw [if_neg (by omega), cAt_cons, Nat.add_sub_cancel] at this
   refine ⟨fun hj => this.1 (by simpa using hj), ?_, ?_⟩
   ·cases j with
    | zero => rw [if_pos rfl]; have := this.2.1; rwa [cAt_zero] at this
    | succ j => rw [if_neg (by omega), Nat.add_sub_cancel]; have := this.2.1; rwa [cAt_cons] at this
   ·cases j with
    | zero => rw [if_pos rfl]; have := this.2.2; rwa [cAt_zero] at this
    | succ j => rw [if_neg (by omega), Nat.add_sub_cancel]; have := this.2.2; rwa [cAt_cons] at this
theorem good_iff (l : List Cel) : mayGo (32, 1, 0) l = true ↔ Good l := by
 rw [mayGo_iff]
 constructor
 ·intro h
  exact ⟨fun i => (h i).1, fun i => (h i).2.1, fun i => (h i).2.2⟩
 ·intro h i
  exact ⟨h.each i, h.pair i, h.like i⟩
theorem mayL_iff (l : List Cel) : mayL l = true ↔ l.length ≤ 300 ∧ Good l := by
 unfold mayL
 rw [Bool.and_eq_true, decide_eq_true_eq, good_iff]
theorem Good.next {l : List Cel} (h : Good l) (i : Nat) : (cAt l i).2.1 = 2 ↔ (cAt l (i + 1)).2.1 = 0 := by
 have := h.pair (i + 1)
 unfold cPrev at this
 rwa [if_neg (by omega), Nat.add_sub_cancel] at this
theorem Good.first {l : List Cel} (h : Good l) : (cAt l 0).2.1 ≠ 0 := by
 intro e
 have := (h.pair 0).2 e
 unfold cPrev at this
 rw [if_pos rfl] at this
 cases this
structure Whole (L : List Cel) : Prop where
 some' : 0 < L.length
 each : ∀ j, j < L.length → mayB (cAt L j) = true
 pair : ∀ j, j < L.length → ((cPrev L j).2.1 = 2 ↔ (cAt L j).2.1 = 0)
 like : ∀ j, j < L.length → (cAt L j).2.1 = 0 → (cAt L j).2.2 = (cPrev L j).2.2
 last : (cAt L (L.length - 1)).2.1 ≠ 2
def ovS (l : List Cel) (k : Nat) (L : List Cel) (i : Nat) : Cel :=
 if k ≤ i ∧ i < k + L.length then cAt L (i - k)
 else if i + 1 = k ∧ (cAt l i).2.1 = 2 then (32, 1, 0)
 else if i = k + L.length ∧ (cAt l i).2.1 = 0 then (32, 1, 0) else cAt l i
def ovL (l : List Cel) (k : Nat) (L : List Cel) : List Cel := (List.range l.length).map (ovS l k L)
theorem ovL_length (l : List Cel) (k : Nat) (L : List Cel) : (ovL l k L).length = l.length := by simp [ovL]
theorem ovL_at {l : List Cel} {k : Nat} {L : List Cel} {i : Nat} (h : i < l.length) : cAt (ovL l k L) i = ovS l k L i := by
 refine cAt_some ?_
 unfold ovL
 rw [List.getElem?_map, List.getElem?_range h]
 rfl
theorem ovS_out {l : List Cel} {k : Nat} {L : List Cel} {i : Nat} (hL : k + L.length ≤ l.length) (h : l.length ≤ i) : ovS l k L i = (32, 1, 0) := by
 have hc := cAt_none h
 unfold ovS
 rw [if_neg (by omega), hc]
 simp
theorem ovL_any {l : List Cel} {k : Nat} {L : List Cel} (hL : k + L.length ≤ l.length) (i : Nat) : cAt (ovL l k L) i = ovS l k L i := by
 by_cases h : i < l.length
 ·exact ovL_at h
 ·rw [cAt_none (by rw [ovL_length]; omega), ovS_out hL (by omega)]
theorem mayB_blank : mayB (32, 1, 0) = true := by unfold mayB; simp; decide
theorem ovL_good {l : List Cel} {k : Nat} {L : List Cel} (h : Good l) (hW : Whole L) (hL : k + L.length ≤ l.length) : Good (ovL l k L) := by
 have hp : ∀ i, (cPrev (ovL l k L) i) = if i = 0 then (32, 1, 0) else ovS l k L (i - 1) := by
  intro i
  unfold cPrev
  split
  ·rfl
  ·exact ovL_any hL _
 have hs := hW.some'
 have key : ∀ i, ((if i = 0 then ((32, 1, 0) : Cel) else ovS l k L (i - 1)).2.1 = 2 ↔ (ovS l k L i).2.1 = 0) ∧ ((ovS l k L i).2.1 = 0 → (ovS l k L i).2.2 = (if i = 0 then ((32, 1, 0) : Cel) else ovS l k L (i - 1)).2.2) := by
  intro i
  by_cases hin : k ≤ i ∧ i < k + L.length
  ·have e : ovS l k L i = cAt L (i - k) := by unfold ovS; rw [if_pos hin]
   have hwp := hW.pair (i - k) (by omega)
   have hwl := hW.like (i - k) (by omega)
   rw [e]
   by_cases hik : i = k
   ·subst hik
    rw [Nat.sub_self] at hwp hwl ⊢
    unfold cPrev at hwp hwl
    rw [if_pos rfl] at hwp hwl
    have h0 : (cAt L 0).2.1 ≠ 0 := fun e => by have := hwp.2 e; cases this
    refine ⟨?_, fun e => absurd e h0⟩
    constructor
    ·intro e2
     exfalso
     split at e2
     ·cases e2
     ·unfold ovS at e2
      rw [if_neg (by omega)] at e2
      split at e2
      ·cases e2
      ·rename_i hn
       rw [if_neg (by omega)] at e2
       exact hn ⟨by omega, e2⟩
    ·intro e2; exact absurd e2 h0
   ·have e3 : ovS l k L (i - 1) = cAt L (i - k - 1) := by
     unfold ovS
     rw [if_pos (by omega)]
     congr 1
     omega
    rw [if_neg (by omega), e3]
    unfold cPrev at hwp hwl
    rw [if_neg (by omega)] at hwp hwl
    exact ⟨hwp, hwl⟩
  ·by_cases hb : i = k + L.length
   ·have e3 : ovS l k L (i - 1) = cAt L (L.length - 1) := by
     unfold ovS
     rw [if_pos (by omega)]
     congr 1
     omega
    have h2 := hW.last
    have e : (ovS l k L i).2.1 ≠ 0 := by
     unfold ovS
     rw [if_neg hin, if_neg (by omega)]
     split
     ·simp
     ·rename_i hn
      intro e
      exact hn ⟨hb, e⟩
    rw [if_neg (by omega), e3]
    exact ⟨⟨fun e => absurd e h2, fun e2 => absurd e2 e⟩, fun e2 => absurd e2 e⟩
   ·by_cases hbk : i = k + L.length + 1
    ·have e : ovS l k L i = cAt l i := by
      unfold ovS
      rw [if_neg hin, if_neg (by omega), if_neg (by omega)]
     have hq := h.pair i
     have hl := h.like i
     unfold cPrev at hq hl
     rw [if_neg (by omega)] at hq hl
     rw [e, if_neg (by omega)]
     by_cases hz : (cAt l (i - 1)).2.1 = 0
     ·have e3 : ovS l k L (i - 1) = (32, 1, 0) := by
       unfold ovS
       rw [if_neg (by omega), if_neg (by omega), if_pos ⟨by omega, hz⟩]
      have hne : (cAt l i).2.1 ≠ 0 := fun e2 => by
       have := hq.2 e2
       omega
      rw [e3]
      exact ⟨⟨fun e2 => (by cases e2), fun e2 => absurd e2 hne⟩, fun e2 => absurd e2 hne⟩
     ·have e3 : ovS l k L (i - 1) = cAt l (i - 1) := by
       unfold ovS
       rw [if_neg (by omega), if_neg (by omega), if_neg (fun x => hz x.2)]
      rw [e3]
      exact ⟨hq, hl⟩
    ·have hpr : (if i = 0 then ((32, 1, 0) : Cel) else ovS l k L (i - 1)) = cPrev l i := by
      unfold cPrev
      split
      ·rfl
      ·unfold ovS
       rw [if_neg (by omega), if_neg (by omega), if_neg (by omega)]
     by_cases ha : i + 1 = k
     ·rw [hpr]
      by_cases h2 : (cAt l i).2.1 = 2
      ·have e : ovS l k L i = (32, 1, 0) := by unfold ovS; rw [if_neg hin, if_pos ⟨ha, h2⟩]
       rw [e]
       have hn : (cPrev l i).2.1 ≠ 2 := fun e2 => by
        have := (h.pair i).1 e2
        omega
       exact ⟨⟨fun e2 => absurd e2 hn, fun e2 => (by cases e2)⟩, fun e2 => (by cases e2)⟩
      ·have e : ovS l k L i = cAt l i := by
        unfold ovS
        rw [if_neg hin, if_neg (fun x => h2 x.2), if_neg (by omega)]
       rw [e]
       exact ⟨h.pair i, h.like i⟩
     ·have e : ovS l k L i = cAt l i := by
       unfold ovS
       rw [if_neg hin, if_neg (fun x => ha x.1), if_neg (fun x => hb x.1)]
      rw [e, hpr]
      exact ⟨h.pair i, h.like i⟩
 refine ⟨fun i hi => ?_, fun i => ?_, fun i => ?_⟩
 ·rw [ovL_length] at hi
  rw [ovL_at hi]
  unfold ovS
  split
  ·exact hW.each _ (by omega)
  ·split
   ·exact mayB_blank
   ·split
    ·exact mayB_blank
    ·exact h.each i hi
 ·rw [hp, ovL_any hL]
  exact (key i).1
 ·rw [hp, ovL_any hL]
  exact (key i).2
def putO (l : List Cel) (k : Nat) (L : List Cel) : List Cel := l.take k ++ L ++ l.drop (k + L.length)
theorem putO_length {l : List Cel} {k : Nat} {L : List Cel} (h : k + L.length ≤ l.length) : (putO l k L).length = l.length := by
 unfold putO
 rw [List.length_append, List.length_append, List.length_take, List.length_drop]
 omega
theorem cAt_putO {l : List Cel} {k : Nat} {L : List Cel} (h : k + L.length ≤ l.length) (i : Nat) : cAt (putO l k L) i = if k ≤ i ∧ i < k + L.length then cAt L (i - k) else cAt l i := by
 unfold putO cAt
 simp only [List.getD_eq_getElem?_getD]
 have hl : (l.take k).length = k := by rw [List.length_take]; omega
 by_cases h1 : i < k
 ·rw [if_neg (by omega), List.getElem?_append_left (by rw [List.length_append]; omega), List.getElem?_append_left (by omega), List.getElem?_take, if_pos h1]
 ·by_cases h2 : i < k + L.length
  ·rw [if_pos (by omega), List.getElem?_append_left (by rw [List.length_append]; omega), List.getElem?_append_right (by omega), hl]
  ·rw [if_neg (by omega), List.getElem?_append_right (by rw [List.length_append]; omega), List.getElem?_drop, List.length_append, hl]
   congr 2
   omega
theorem putO_none (l : List Cel) (k : Nat) : putO l k [] = l := by simp [putO]
theorem putO_next {l : List Cel} {k j : Nat} {L : List Cel} (h : k + L.length ≤ l.length) (hj : j < L.length) : (putO l k (L.take j)).set (k + j) (cAt L j) = putO l k (L.take (j + 1)) := by
 have hlt : (L.take j).length = j := by rw [List.length_take]; omega
 have hlt1 : (L.take (j + 1)).length = j + 1 := by rw [List.length_take]; omega
 refine ext_cAt (by rw [List.length_set, putO_length (by omega), putO_length (by omega)]) fun i hi => ?_
 rw [List.length_set, putO_length (by omega)] at hi
 rw [cAt_set _ _ _ _ (by rw [putO_length (by omega)]; omega), cAt_putO (by omega), cAt_putO (by omega), hlt, hlt1]
 have ht : ∀ m q, q < m → m ≤ L.length → cAt (L.take m) q = cAt L q := by
  intro m q hq hm
  unfold cAt
  rw [List.getD_eq_getElem?_getD, List.getD_eq_getElem?_getD, List.getElem?_take, if_pos hq]
 by_cases h1 : i = k + j
 ·rw [if_pos h1, if_pos (by omega), ht _ _ (by omega) (by omega)]
  congr 1
  omega
 ·rw [if_neg h1]
  by_cases h2 : k ≤ i ∧ i < k + j
  ·rw [if_pos h2, if_pos (by omega), ht _ _ (by omega) (by omega), ht _ _ (by omega) (by omega)]
  ·rw [if_neg h2, if_neg (by omega)]
def lone (o : List Cel) (i : Nat) : Bool := ((cAt o i).2.1 == 2 && !((cAt o (i + 1)).2.1 == 0)) || ((cAt o i).2.1 == 0 && !((cPrev o i).2.1 == 2))
def scanK (o : List Cel) : Nat → List Cel
 | 0 => o
 | k + 1 => if lone (scanK o k) k then (scanK o k).set k (32, 1, 0) else scanK o k
theorem scanK_length (o : List Cel) (k : Nat) : (scanK o k).length = o.length := by
 induction k with
 | zero => rfl
 | succ k ih =>
  unfold scanK
  split
  ·rw [List.length_set]; exact ih
  ·exact ih
theorem Good.not_lone {l : List Cel} (h : Good l) (i : Nat) : lone l i = false := by
 have h1 := h.next i
 have h2 := h.pair i
 unfold lone
 rw [Bool.or_eq_false_iff, Bool.and_eq_false_iff, Bool.and_eq_false_iff]
 simp only [Bool.not_eq_false', beq_eq_false_iff_ne, beq_iff_eq, ne_eq]
 refine ⟨?_, ?_⟩
 ·by_cases e : (cAt l i).2.1 = 2
  ·exact .inr (h1.1 e)
  ·exact .inl e
 ·by_cases e : (cAt l i).2.1 = 0
  ·exact .inr (h2.2 e)
  ·exact .inl e
theorem scan_good {l : List Cel} (h : Good l) : ∀ k, scanK l k = l := by
 intro k
 induction k with
 | zero => rfl
 | succ k ih =>
  unfold scanK
  rw [ih, h.not_lone k]
  rfl
def blanksL (n : Nat) : List Cel := List.replicate n (32, 1, 0)
theorem blanksL_length (n : Nat) : (blanksL n).length = n := List.length_replicate
theorem cAt_blanksL (n i : Nat) : cAt (blanksL n) i = (32, 1, 0) := by
 unfold cAt blanksL
 rw [List.getD_eq_getElem?_getD, List.getElem?_replicate]
 split <;> rfl
theorem blanksL_whole {n : Nat} (hn : 0 < n) : Whole (blanksL n) := by
 refine ⟨by rw [blanksL_length]; exact hn, fun j _ => by rw [cAt_blanksL]; exact mayB_blank, fun j _ => ?_, fun j _ e => ?_, by rw [cAt_blanksL]; simp⟩
 ·unfold cPrev
  rw [cAt_blanksL]
  split <;> simp [cAt_blanksL]
 ·rw [cAt_blanksL] at e; cases e
theorem scan_blanks {l : List Cel} (h : Good l) {k n : Nat} (hn : 0 < n) (hL : k + n ≤ l.length) : scanK (putO l k (blanksL n)) l.length = ovL l k (blanksL n) := by
 have hL' : k + (blanksL n).length ≤ l.length := by rw [blanksL_length]; exact hL
 obtain ⟨o, ho⟩ : ∃ o, putO l k (blanksL n) = o := ⟨_, rfl⟩
 have hol : o.length = l.length := by rw [← ho]; exact putO_length hL'
 have hoa : ∀ i, cAt o i = if k ≤ i ∧ i < k + n then (32, 1, 0) else cAt l i := by
  intro i
  rw [← ho, cAt_putO hL', blanksL_length, cAt_blanksL]
 have hS : ∀ i, ovS l k (blanksL n) i = if k ≤ i ∧ i < k + n then (32, 1, 0) else if i + 1 = k ∧ (cAt l i).2.1 = 2 then (32, 1, 0) else if i = k + n ∧ (cAt l i).2.1 = 0 then (32, 1, 0) else cAt l i := by
  intro i
  unfold ovS
  rw [blanksL_length, cAt_blanksL]
 have key : ∀ j, j ≤ l.length → ∀ i, cAt (scanK o j) i = if i < j then ovS l k (blanksL n) i else cAt o i := by
  intro j
  induction j with
  | zero => intro _ i; rw [if_neg (by omega)]; rfl
  | succ j ih =>
   intro hj i
   have ih := ih (by omega)
   have hc : cAt (scanK o j) j = cAt o j := by rw [ih, if_neg (by omega)]
   have hnx : cAt (scanK o j) (j + 1) = cAt o (j + 1) := by rw [ih, if_neg (by omega)]
   have hpv : cPrev (scanK o j) j = if j = 0 then (32, 1, 0) else ovS l k (blanksL n) (j - 1) := by
    unfold cPrev
    split
    ·rfl
    ·rw [ih, if_pos (by omega)]
   have hgn := h.next j
   have hgp := h.pair j
   obtain ⟨pv, hpvd⟩ : ∃ pv, (if j = 0 then ((32, 1, 0) : Cel) else ovS l k (blanksL n) (j - 1)) = pv := ⟨_, rfl⟩
   rw [hpvd] at hpv
   have hround : (if lone (scanK o j) j then ((32, 1, 0) : Cel) else cAt o j) = ovS l k (blanksL n) j := by
    unfold lone
    rw [hc, hnx, hpv]
    by_cases hin : k ≤ j ∧ j < k + n
    ·have e : cAt o j = (32, 1, 0) := by rw [hoa, if_pos hin]
     rw [e, hS, if_pos hin]
     simp
    ·have e : cAt o j = cAt l j := by rw [hoa, if_neg hin]
     have hSj := hS j
     rw [if_neg hin] at hSj
     rw [e]
     by_cases ha : j + 1 = k
     ·have e1 : cAt o (j + 1) = (32, 1, 0) := by rw [hoa, if_pos (by omega)]
      have hp0 : (cAt l j).2.1 = 0 → pv.2.1 = 2 := by
       intro e0
       rw [← hpvd]
       have := hgp.2 e0
       unfold cPrev at this
       split at this
       ·cases this
       ·rw [if_neg (by omega), hS, if_neg (by omega), if_neg (by omega), if_neg (by omega)]
        exact this
      rw [e1]
      by_cases h2 : (cAt l j).2.1 = 2
      ·rw [if_pos ⟨ha, h2⟩] at hSj
       rw [hSj]
       simp [h2]
      ·rw [if_neg (fun x => h2 x.2), if_neg (by omega)] at hSj
       rw [hSj]
       by_cases h0 : (cAt l j).2.1 = 0
       ·have := hp0 h0
        simp [h0, this]
       ·simp [h2, h0]
     ·rw [if_neg (fun x => ha x.1)] at hSj
      have e1 : cAt o (j + 1) = cAt l (j + 1) := by rw [hoa, if_neg (by omega)]
      rw [e1]
      by_cases hb : j = k + n
      ·have e3 : pv = (32, 1, 0) := by
        rw [← hpvd, if_neg (by omega), hS, if_pos (by omega)]
       rw [e3]
       by_cases h0 : (cAt l j).2.1 = 0
       ·rw [if_pos ⟨hb, h0⟩] at hSj
        rw [hSj]
        simp [h0]
       ·rw [if_neg (fun x => h0 x.2)] at hSj
        rw [hSj]
        by_cases h2 : (cAt l j).2.1 = 2
        ·have := hgn.1 h2
         simp [h2, this]
        ·simp [h0, h2]
      ·rw [if_neg (fun x => hb x.1)] at hSj
       rw [hSj]
       by_cases h2 : (cAt l j).2.1 = 2
       ·have := hgn.1 h2
        simp [h2, this]
       ·by_cases h0 : (cAt l j).2.1 = 0
        ·have hp2 := hgp.2 h0
         unfold cPrev at hp2
         by_cases hj1 : j = k + n + 1
         ·-- the place ahead of it may have become a Blank; then nothing stood there to be halved
          rw [if_neg (by omega)] at hp2
          have hz : ¬ (cAt l (j - 1)).2.1 = 0 := by omega
          have e4 : pv.2.1 = 2 := by
           rw [← hpvd, if_neg (by omega), hS, if_neg (by omega), if_neg (by omega), if_neg (fun x => hz x.2)]
           exact hp2
          simp [h0, e4]
         ·have e4 : pv.2.1 = 2 := by
           rw [← hpvd]
           split at hp2
           ·cases hp2
           ·rw [if_neg (by omega), hS, if_neg (by omega), if_neg (by omega), if_neg (by omega)]
            exact hp2
          simp [h0, e4]
        ·simp [h0, h2]
   have hsc : cAt (scanK o (j + 1)) i = if i = j then (if lone (scanK o j) j then ((32, 1, 0) : Cel) else cAt o j) else cAt (scanK o j) i := by
    show cAt (if lone (scanK o j) j then (scanK o j).set j (32, 1, 0) else scanK o j) i = _
    cases hlo : lone (scanK o j) j with
    | true =>
     rw [if_pos rfl, if_pos rfl, cAt_set _ _ _ _ (by rw [scanK_length]; omega)]
    | false =>
     simp only [Bool.false_eq_true, if_false]
     split
     ·rename_i e; rw [e, hc]
     ·rfl
   rw [hsc, hround]
   by_cases hij : i = j
   ·subst hij; rw [if_pos rfl, if_pos (by omega)]
   ·rw [if_neg hij, ih]
    by_cases hlt : i < j
    ·rw [if_pos hlt, if_pos (by omega)]
    ·rw [if_neg hlt, if_neg (by omega)]
 rw [ho]
 refine ext_cAt (by rw [scanK_length, ovL_length, hol]) fun i hi => ?_
 rw [scanK_length, hol] at hi
 rw [key _ (Nat.le_refl _), if_pos hi, ovL_at hi]
theorem put_marked {l : List Cel} {k : Nat} {L : List Cel} (hL : k + L.length ≤ l.length) : putO (ovL l k (blanksL L.length)) k L = ovL l k L := by
 have hb : k + (blanksL L.length).length ≤ l.length := by rw [blanksL_length]; exact hL
 refine ext_cAt (by rw [putO_length (by rw [ovL_length]; exact hL), ovL_length, ovL_length]) fun i hi => ?_
 rw [putO_length (by rw [ovL_length]; exact hL), ovL_length] at hi
 rw [cAt_putO (by rw [ovL_length]; exact hL), ovL_at hi, ovL_at hi]
 unfold ovS
 rw [blanksL_length]
 by_cases hin : k ≤ i ∧ i < k + L.length
 ·rw [if_pos hin, if_pos hin]
 ·rw [if_neg hin, if_neg hin, if_neg hin]
theorem refSet_eq {l : List Cel} (h : Good l) {k : Nat} {L : List Cel} (hW : Whole L) (hL : k + L.length ≤ l.length) : scanK (putO (scanK (putO l k (blanksL L.length)) l.length) k L) l.length = ovL l k L := by
 rw [scan_blanks h hW.some' hL, put_marked hL]
 exact scan_good (ovL_good h hW hL) _
def codeO1 (l : List Cel) (k : Nat) : List Cel := if (cAt l k).2.1 = 0 then l.set (k - 1) (32, 1, 0) else l
def codeO2 (l : List Cel) (k n : Nat) : List Cel := if (cAt (codeO1 l k) (k + n - 1)).2.1 = 2 then (codeO1 l k).set (k + n) (32, 1, 0) else codeO1 l k
theorem codeO1_length (l : List Cel) (k : Nat) : (codeO1 l k).length = l.length := by unfold codeO1; split <;> simp
theorem codeO2_length (l : List Cel) (k n : Nat) : (codeO2 l k n).length = l.length := by unfold codeO2; split <;> simp [codeO1_length]
theorem Good.inside {l : List Cel} (h : Good l) {i : Nat} (h2 : (cAt l i).2.1 = 2) : i + 1 < l.length := by
 have := (h.next i).1 h2
 rcases Nat.lt_or_ge (i + 1) l.length with h' | h'
 ·exact h'
 ·rw [cAt_none h'] at this; cases this
theorem Good.ahead {l : List Cel} (h : Good l) {i : Nat} (h0 : (cAt l i).2.1 = 0) : 0 < i ∧ i < l.length := by
 constructor
 ·rcases Nat.eq_zero_or_pos i with e | e
  ·subst e; exact absurd h0 h.first
  ·exact e
 ·rcases Nat.lt_or_ge i l.length with h' | h'
  ·exact h'
  ·rw [cAt_none h'] at h0; cases h0
theorem cAt_codeO1 {l : List Cel} (h : Good l) (k i : Nat) : cAt (codeO1 l k) i = if i + 1 = k ∧ (cAt l i).2.1 = 2 then (32, 1, 0) else cAt l i := by
 unfold codeO1
 by_cases h0 : (cAt l k).2.1 = 0
 ·obtain ⟨hk, hkl⟩ := h.ahead h0
  rw [if_pos h0, cAt_set _ _ _ _ (by omega)]
  by_cases hi : i + 1 = k
  ·have : (cAt l i).2.1 = 2 := (h.next i).2 (by rw [hi]; exact h0)
   rw [if_pos (by omega), if_pos ⟨hi, this⟩]
  ·rw [if_neg (by omega), if_neg (fun x => hi x.1)]
 ·rw [if_neg h0, if_neg]
  rintro ⟨h1, h2⟩
  have := (h.next i).1 h2
  rw [h1] at this
  exact h0 this
theorem cAt_codeO2 {l : List Cel} (h : Good l) {k n : Nat} (hn : 0 < n) (i : Nat) : cAt (codeO2 l k n) i = if i + 1 = k ∧ (cAt l i).2.1 = 2 then (32, 1, 0) else if i = k + n ∧ (cAt l i).2.1 = 0 then (32, 1, 0) else cAt l i := by
 have e1 : cAt (codeO1 l k) (k + n - 1) = cAt l (k + n - 1) := by rw [cAt_codeO1 h, if_neg (by omega)]
 unfold codeO2
 rw [e1]
 by_cases h2 : (cAt l (k + n - 1)).2.1 = 2
 ·have hi2 := h.inside h2
  have h0 : (cAt l (k + n)).2.1 = 0 := by have := (h.next _).1 h2; rwa [show k + n - 1 + 1 = k + n by omega] at this
  rw [if_pos h2, cAt_set _ _ _ _ (by rw [codeO1_length]; omega), cAt_codeO1 h]
  by_cases hi : i = k + n
  ·subst hi
   rw [if_pos rfl, if_neg (by omega), if_pos ⟨rfl, h0⟩]
  ·rw [if_neg hi, if_neg (c := i = k + n ∧ _) (fun x => hi x.1)]
 ·rw [if_neg h2, cAt_codeO1 h]
  split
  ·rfl
  ·rw [if_neg]
   rintro ⟨h1, h3⟩
   have := (h.pair i).2 h3
   unfold cPrev at this
   rw [if_neg (by omega)] at this
   rw [show i - 1 = k + n - 1 by omega] at this
   exact h2 this
theorem code_eq {l : List Cel} (h : Good l) {k : Nat} {L : List Cel} (hs : 0 < L.length) (hL : k + L.length ≤ l.length) : putO (codeO2 l k L.length) k L = ovL l k L := by
 refine ext_cAt (by rw [putO_length (by rw [codeO2_length]; exact hL), codeO2_length, ovL_length]) fun i hi => ?_
 rw [putO_length (by rw [codeO2_length]; exact hL), codeO2_length] at hi
 rw [cAt_putO (by rw [codeO2_length]; exact hL), ovL_at hi, cAt_codeO2 h hs]
 rfl
end Rw
end Go.Proofs.YtmpoboffdfcpiaaGreatDoor
namespace Go.Proofs.YtmpoboffdfcpiaaGreatDoor
open Go.ChangeShapes Go.WideShapes Go.ChangeAt Go.RowKit
theorem Sq.cellsAt {w : World} {B n b off k : Nat} {l : List Cel} {c : Cel} (h : Sq w B 3 n (some ⟨b, off, none⟩) (flat l)) (hc : l[k]? = some c) : w.cell? ⟨b, off + k * 3, none⟩ = some (.int .i32 c.1) ∧ w.cell? ⟨b, off + k * 3 + 1, none⟩ = some (.int .i64 c.2.1) ∧ w.cell? ⟨b, off + k * 3 + 2, none⟩ = some (.int .i64 c.2.2) := by
 have hl : k < n := by
  have h1 := h.len
  rw [flat_length] at h1
  have := (List.getElem?_eq_some_iff.1 hc).1
  omega
 obtain ⟨b', off', e, _, c', h', q0, q1, q2⟩ := h.three hl
 injection e with e
 injection e with e1 e2
 subst e1 e2
 rw [hc] at h'
 injection h' with h'
 subst h'
 exact ⟨q0, q1, q2⟩
def CopiedPost (wrap : Bool) (l : List Cel) (w : World) (e : Ending) (w' : World) : Prop := ∃ v, e = .returned (.agg #[v, .bool wrap]) ∧ HasC w' w.heap.size v l ∧ Below w.heap.size w w'
theorem copied_walk (A : Option Addr) (n c : Nat) (wrap : Bool) (l : List Cel) (w : World) (hq : Sq w w.heap.size 3 n A (flat l)) (hn : n ≤ 1000000) :
  Calls Tryz.prog 102 #[rowV A n c wrap] w fun e w' => CopiedPost wrap l w e w' := by
 obtain ⟨i0, hi, hz0, hz1, hz2⟩ := info_parts infoCell
 have hln : l.length = n := by have := hq.len; rw [flat_length] at this; omega
 have QM := Lib.hid hq
 have ML := Lib.hid hln
 clear hln hq
 go_enter Tryz.func102, Tryz.ntmps102
 have B2 := Lib.hid (((Below.refl w.heap.size w).alloc (Nat.le_refl _) (.cells #[.slice A n c, .bool wrap] 58)).alloc (by simp) (.cells #[.slice none 0 0, .bool false] 58))
 have hb0 : ((w.alloc (.cells #[.slice A n c, .bool wrap] 58)).alloc (.cells #[.slice none 0 0, .bool false] 58)).heap[w.heap.size]? = some (.cells #[.slice A n c, .bool wrap] 58 (0, 0)) := (Below.heap_alloc _ _ _ (by simp)).trans (heap_alloc_new w _)
 have hb1 : ((w.alloc (.cells #[.slice A n c, .bool wrap] 58)).alloc (.cells #[.slice none 0 0, .bool false] 58)).heap[w.heap.size + 1]? = some (.cells #[.slice none 0 0, .bool false] 58 (0, 0)) := by
  have h := heap_alloc_new (w.alloc (.cells #[.slice A n c, .bool wrap] 58)) (.cells #[.slice none 0 0, .bool false] 58)
  rw [World.size_alloc] at h
  exact h
 have H0 := Lib.hid hb0
 have H1 := Lib.hid hb1
 have HS := Lib.hid (show ((w.alloc (.cells #[.slice A n c, .bool wrap] 58)).alloc (.cells #[.slice none 0 0, .bool false] 58)).heap.size = w.heap.size + 2 by simp)
 clear hb0 hb1
 go_wp2_with fail
 go_region_law (
  refine step_app rfl _ _ 51 rfl (w.heap.size + 2) 62 i0 (.agg #[.int .i32 0, .int .i64 0, .int .i64 0]) 3 24 Tryz.underlying51 hi hz0 hz1 hz2 rfl (by decide) (.slice none 0 0) 0 [] rfl (World.ownsRow_nil _ _ _ _) A n c (flat l) rfl w.heap.size (QM.out.below (by first | exact B2.out | exact B2.out.drew | exact B2.out.drew.drew)) (flat_one _) (by unfold maxLen; omega) (by omega) (by first | exact Nat.le_of_eq HS.out.symm | simp) ?_
  intro A' c' w3 hown hg
  intro _
  have B3 := Lib.hid ((show Below w.heap.size w w3 from ⟨hg.os.trans B2.out.os, hg.tape.trans B2.out.tape, hg.output.trans B2.out.output, Nat.le_trans B2.out.size hg.size, fun k hk => (hg.block k (by simp; omega) (by simp [Value.ownBlock])).trans (B2.out.block k hk)⟩))
  have k0 : w3.cell? ⟨w.heap.size, 1, none⟩ = some (.bool wrap) := by rw [cell_of_row _ _ _ _ _ (0, 0) ((hg.block _ (by simp; omega) (by simp [Value.ownBlock])).trans H0.out)]; rfl
  have T0 := Lib.hid (show RowAt w3 (w.heap.size + 1) (.slice none 0 0) false from (hg.block _ (by simp) (by simp [Value.ownBlock])).trans H1.out)
  have t0 : w3.cell? ⟨w.heap.size + 1, 0, none⟩ = some (.slice none 0 0) := T0.out.get 0
  have t1 : w3.cell? ⟨w.heap.size + 1, 1, none⟩ = some (.bool false) := T0.out.get 1
  have f0 := T0.out.free 0
  have f1 := T0.out.free 1
  have OW := Lib.hid (show HasC w3 (w.heap.size + 2) (.slice A' (0 + n) c') l by unfold HasC; rw [ML.out]; simpa using hown)
  rw [Nat.zero_add] at OW
  rw [Nat.zero_add]
  clear hown hg)
 all_goals
  have RF := RowAt.put2 T0.out (.slice A' n c') wrap
  have BF := (B3.out.setCell (p := ⟨w.heap.size + 1, 0, none⟩) (Nat.le_succ _) (.slice A' n c')).setCell (p := ⟨w.heap.size + 1, 1, none⟩) (Nat.le_succ _) (.bool wrap)
  have OF := HasC.keep (w' := (w3.setCell ⟨w.heap.size + 1, 0, none⟩ (.slice A' n c')).setCell ⟨w.heap.size + 1, 1, none⟩ (.bool wrap)) OW.out (fun j e => by
   have h := (HasC.lt OW.out j e).1
   rw [Below.heap_setCell _ _ _ _ (by show j ≠ w.heap.size + 1; omega), Below.heap_setCell _ _ _ _ (by show j ≠ w.heap.size + 1; omega)])
  go_wp2
  generalize (w3.setCell ⟨w.heap.size + 1, 0, none⟩ (.slice A' n c')).setCell ⟨w.heap.size + 1, 1, none⟩ (.bool wrap) = wz at RF BF OF ⊢
  have e0 := RF.get 0
  have e1 := RF.get 1
  exact bodyPost_ret (v := .agg #[.slice A' n c', .bool wrap]) (by simp [results, Tryz.results102, go_sem, e0, e1]) rfl ⟨.slice A' n c', rfl, HasC.mono OF (by omega), BF⟩
namespace Rw
theorem run_copy_three {P : Program} (w : World) (dT sT ty elem : TypeId) (i : TypeInfo) (g o dLen dCap : Nat) (a : Addr) (sLen sCap : Nat) (cur : Array Value) (t : TypeId) (cs : List Value)
  (hu : P.underlying dT = some (.slice elem)) (hi : P.info? elem = some i) (hsz : i.size = 3)
  (hg : w.heap[g]? = some (.cells cur t (0, 0))) (hn : cs.length = Nat.min sLen dLen * 3)
  (hsrc : ∀ j v, cs[j]? = some v → w.cell? (a.add j) = some v) (hfit : o + cs.length ≤ cur.size) (h1 : ∀ v ∈ cs, v.oneCell' = true) :
  (Builtin.copy_ #[dT, sT] ty #[.slice (some ⟨g, o, none⟩) dLen dCap, .slice (some a) sLen sCap]).run P w =
   .ok (goInt (Nat.min sLen dLen)) (w.setRow g (cur.toList.take o ++ cs ++ cur.toList.drop (o + cs.length)).toArray) := by
 have hl := run_loadCells_list (P := P) w a cs hsrc
 have hst := run_storeCells_at P g o t cs 0 cur w hg (by simpa using hfit) h1
 simp [Builtin.copy_, run_underlying hu, Builtin.lenOf, Builtin.firstCells, sizeOf, typeInfo, hi, hsz, ← hn, hl, hst]
theorem flat_set : ∀ (l : List Cel) (k : Nat) (r m a : Int), (((flat l).set (k * 3) (.int .i32 r)).set (k * 3 + 1) (.int .i64 m)).set (k * 3 + 2) (.int .i64 a) = flat (l.set k (r, m, a))
 | [], k, r, m, a => by simp [flat]
 | c :: l, 0, r, m, a => by simp [flat]
 | c :: l, k + 1, r, m, a => by
  have h := flat_set l k r m a
  have e : flat (c :: l) = .int .i32 c.1 :: .int .i64 c.2.1 :: .int .i64 c.2.2 :: flat l := by simp [flat]
  have e' : flat (c :: l.set k (r, m, a)) = .int .i32 c.1 :: .int .i64 c.2.1 :: .int .i64 c.2.2 :: flat (l.set k (r, m, a)) := by simp [flat]
  rw [List.set_cons_succ, e, e', ← h, show (k + 1) * 3 = k * 3 + 1 + 1 + 1 by omega]
  rfl
structure RowIn' (w : World) (b : Nat) (l : List Cel) (tail : List Value) : Prop where
 heap : w.heap[b]? = some (.cells (flat l ++ tail).toArray 62 (0, 0))
theorem RowIn'.cell {w : World} {b : Nat} {l : List Cel} {tail : List Value} (h : RowIn' w b l tail) {k : Nat} (hk : k < l.length) :
  w.cell? ⟨b, k * 3, none⟩ = some (.int .i32 (cAt l k).1) ∧ w.cell? ⟨b, k * 3 + 1, none⟩ = some (.int .i64 (cAt l k).2.1) ∧ w.cell? ⟨b, k * 3 + 2, none⟩ = some (.int .i64 (cAt l k).2.2) := by
 have hb : b < w.heap.size := (Array.getElem?_eq_some_iff.1 h.heap).1
 have hq : Sq w w.heap.size 3 l.length (some ⟨b, 0, none⟩) (flat l) := ⟨flat_length l, fun _ => ⟨b, 0, rfl, hb, fun j u hu => by
  rw [Nat.zero_add, cell_of_row _ b j _ _ (0, 0) h.heap]
  have hj := (List.getElem?_eq_some_iff.1 hu).1
  rw [List.getElem?_toArray, List.getElem?_append_left hj]
  exact hu⟩⟩
 have := hq.cellsAt (cAt_get hk)
 simpa using this
theorem RowIn'.free {w : World} {b : Nat} {l : List Cel} {tail : List Value} (h : RowIn' w b l tail) (j : Nat) : w.frozen? ⟨b, j, none⟩ = false := frozen_of_row w b j _ _ h.heap
theorem RowIn'.set {w : World} {b : Nat} {l : List Cel} {tail : List Value} (h : RowIn' w b l tail) {k : Nat} (hk : k < l.length) (r m a : Int) :
  RowIn' (((w.setCell ⟨b, k * 3, none⟩ (.int .i32 r)).setCell ⟨b, k * 3 + 1, none⟩ (.int .i64 m)).setCell ⟨b, k * 3 + 2, none⟩ (.int .i64 a)) b (l.set k (r, m, a)) tail := by
 have h0 := heap_setCell_same w b (k * 3) _ _ (.int .i32 r) h.heap
 have h1 := heap_setCell_same _ b (k * 3 + 1) _ _ (.int .i64 m) h0
 have h2 := heap_setCell_same _ b (k * 3 + 2) _ _ (.int .i64 a) h1
 refine ⟨?_⟩
 rw [h2]
 have hl := flat_length l
 have e : ((((flat l ++ tail).toArray.setIfInBounds (k * 3) (.int .i32 r)).setIfInBounds (k * 3 + 1) (.int .i64 m)).setIfInBounds (k * 3 + 2) (.int .i64 a)) = (flat (l.set k (r, m, a)) ++ tail).toArray := by
  rw [← flat_set]
  simp only [List.setIfInBounds_toArray]
  congr 1
  rw [List.set_append_left _ _ (by omega), List.set_append_left _ _ (by rw [List.length_set]; omega), List.set_append_left _ _ (by rw [List.length_set, List.length_set]; omega)]
 rw [e]
theorem RowIn'.only (w : World) (b k : Nat) (r m a : Value) : OnlyRow b w (((w.setCell ⟨b, k * 3, none⟩ r).setCell ⟨b, k * 3 + 1, none⟩ m).setCell ⟨b, k * 3 + 2, none⟩ a) :=
 ((OnlyRow.cell b (k * 3) w r).trans (OnlyRow.cell b (k * 3 + 1) _ m)).trans (OnlyRow.cell b (k * 3 + 2) _ a)
theorem RowIn'.below {w w' : World} {b : Nat} {l : List Cel} {tail : List Value} (h : RowIn' w b l tail) (hb : Below w.heap.size w w') : RowIn' w' b l tail := ⟨(hb.block b (Array.getElem?_eq_some_iff.1 h.heap).1).trans h.heap⟩
theorem RowIn'.copied {w : World} {b : Nat} {l : List Cel} {tail : List Value} (h : RowIn' w b l tail) {k : Nat} {L : List Cel} (hL : k + L.length ≤ l.length) :
  RowIn' (w.setRow b ((flat l ++ tail).toArray.toList.take (k * 3) ++ flat L ++ (flat l ++ tail).toArray.toList.drop (k * 3 + (flat L).length)).toArray) b (putO l k L) tail := by
 refine ⟨?_⟩
 rw [setRow_heap w b _ _ _ _ h.heap]
 have hl := flat_length l
 have hL' := flat_length L
 have e : (flat l ++ tail).toArray.toList.take (k * 3) ++ flat L ++ (flat l ++ tail).toArray.toList.drop (k * 3 + (flat L).length) = flat (putO l k L) ++ tail := by
  have hd : (flat l).drop (k * 3 + L.length * 3) = flat (l.drop (k + L.length)) := by
   rw [show k * 3 + L.length * 3 = (k + L.length) * 3 by omega]
   have h1 : flat l = flat (l.take (k + L.length)) ++ flat (l.drop (k + L.length)) := by rw [← flat_append, List.take_append_drop]
   rw [h1, List.drop_append_of_le_length (by rw [flat_length, List.length_take]; omega), List.drop_of_length_le (by rw [flat_length, List.length_take]; omega), List.nil_append]
  unfold putO
  rw [flat_append, flat_append, flat_take, List.take_append_of_le_length (by omega), List.drop_append_of_le_length (by omega), hL', hd]
  simp [List.append_assoc]
 rw [e]
end Rw
namespace Rw
theorem onlyRow (g : Nat) (w : World) (cs : Array Value) : OnlyRow g w (w.setRow g cs) := ⟨rfl, rfl, rfl, by simp [World.setRow], fun k hk => setRow_other w g k cs hk⟩
theorem RowIn'.lt {w : World} {b : Nat} {l : List Cel} {tail : List Value} (h : RowIn' w b l tail) : b < w.heap.size := (Array.getElem?_eq_some_iff.1 h.heap).1
theorem overwrite_walk (b n c k b2 o2 m c2 : Nat) (l L : List Cel) (tail : List Value) (w : World) (h : RowIn' w b l tail) (hln : l.length = n) (hnc : n ≤ c) (hn : n ≤ 1000000) (hg : Good l) (hm : L.length = m) (hm0 : 0 < m) (hk : k + m ≤ n)
  (hsrc : ∀ W', Turned (· = b) w W' → ∀ j u, (flat L)[j]? = some u → W'.cell? ((⟨b2, o2, none⟩ : Addr).add j) = some u) :
  Calls Tryz.prog 105 #[.slice (some ⟨b, 0, none⟩) n c, .int .i64 (k : Int), .slice (some ⟨b2, o2, none⟩) m c2] w fun e w' => (∃ y, e = .returned y) ∧ RowIn' w' b (ovL l k L) tail ∧ Turned (· = b) w w' := by
 obtain ⟨i0, hi0, hz0, hz1, hz2⟩ := info_parts infoCell
 have H := Lib.hid h
 have G := Lib.hid hg
 have LN := Lib.hid hln
 have LM := Lib.hid hm
 have SRC := Lib.hid hsrc
 obtain ⟨x, hx⟩ : ∃ x, (cAt l k).2.1 = x := ⟨_, rfl⟩
 have c1 : w.cell? ⟨b, k * 3 + 1, none⟩ = some (.int .i64 x) := by rw [← hx]; exact (h.cell (by omega)).2.1
 have hk0 : (0 : Int) ≤ (k : Int) := by omega
 have hkn : (k : Int) < (n : Int) := by omega
 have hbl := h.lt
 have X := Lib.hid hx
 have hsum : IntKind.i64.wrap ((k : Int) + (m : Int)) = ((k + m : Nat) : Int) := by rw [IntWalk.i64_in _ (by omega)]; omega
 clear h hg hln hm hsrc hx
 go_enter Tryz.func105, Tryz.ntmps105
 go_upto_if 16 with fail
 go_cut [6] from 7 to 37 (fun s6 wx => s6 = .int .i64 ((k + m : Nat) : Int) ∧ Hid (RowIn' wx b (codeO1 l k) tail) ∧ Hid (Turned (· = b) w wx))
 case first =>
  by_cases hx0 : x = 0
  ·obtain ⟨j, hj⟩ : ∃ j, k = j + 1 := ⟨k - 1, by have := (G.out.ahead (by rw [X.out]; exact hx0)).1; omega⟩
   subst hj
   have e : codeO1 l (j + 1) = l.set j (32, 1, 0) := by unfold codeO1; rw [X.out, if_pos hx0, Nat.add_sub_cancel]
   have hj0 : (0 : Int) ≤ (j : Int) := by omega
   have hjn : (j : Int) < (n : Int) := by omega
   have hj1 : ((j + 1 : Nat) : Int) - 1 = (j : Int) := by omega
   have BW := Lib.hid (blank_walk w)
   go_wp2_with fail
   refine BW.out.mono ?_
   rintro e2 w2 ⟨rfl, b2'⟩
   have R2 := Lib.hid (H.out.below b2')
   have T2 := Lib.hid (Turned.ofBelow b2' (· = b))
   have y0 := (R2.out.cell (k := j) (by rw [LN.out]; omega)).1
   have y1 := (R2.out.cell (k := j) (by rw [LN.out]; omega)).2.1
   have y2 := (R2.out.cell (k := j) (by rw [LN.out]; omega)).2.2
   have f0 := R2.out.free (j * 3)
   have f1 := R2.out.free (j * 3 + 1)
   have f2 := R2.out.free (j * 3 + 2)
   clear b2' BW
   go_wp2_with fail
   go_meet
   exact ⟨rfl, by rw [e]; exact Lib.hid (R2.out.set (by rw [LN.out]; omega) 32 1 0), Lib.hid (T2.out.trans (Turned.ofOnly (RowIn'.only _ b j _ _ _)) (fun _ _ e => e))⟩
  ·have hxb : (x == 0) = false := by simp; omega
   have e : codeO1 l k = l := by unfold codeO1; rw [X.out, if_neg hx0]
   go_wp2_with fail
   go_meet
   exact ⟨rfl, by rw [e]; exact H, Lib.hid (Turned.refl _ _)⟩
 case rest =>
  obtain ⟨rfl, R1, T1⟩ := hcut
  have L1 := Lib.hid (codeO1_length l k)
  obtain ⟨y, hy⟩ : ∃ y, (cAt (codeO1 l k) (k + m - 1)).2.1 = y := ⟨_, rfl⟩
  have Y := Lib.hid hy
  obtain ⟨q, hq⟩ : ∃ q, k + m = q + 1 := ⟨k + m - 1, by omega⟩
  have hqq : k + m - 1 = q := by omega
  rw [hqq] at hy
  have c2' : wc.cell? ⟨b, q * 3 + 1, none⟩ = some (.int .i64 y) := by rw [← hy]; exact (R1.out.cell (by rw [L1.out, LN.out]; omega)).2.1
  have hq0 : (0 : Int) ≤ (q : Int) := by omega
  have hqn : (q : Int) < (n : Int) := by omega
  have hq1 : ((k + m : Nat) : Int) - 1 = (q : Int) := by omega
  have hbc := R1.out.lt
  clear hy c1
  go_upto_if 28 with fail
  go_cut [6] from 7 to 37 (fun s6 wx => s6 = .int .i64 ((k + m : Nat) : Int) ∧ Hid (RowIn' wx b (codeO2 l k m) tail) ∧ Hid (Turned (· = b) w wx))
  case first =>
   by_cases hy2 : y = 2
   ·have e : codeO2 l k m = (codeO1 l k).set (k + m) (32, 1, 0) := by unfold codeO2; rw [Y.out, if_pos hy2]
    have hin : k + m < n := by
     have h2 : (cAt l (k + m - 1)).2.1 = 2 := by
      have h3 := Y.out
      rw [cAt_codeO1 G.out, if_neg (by omega)] at h3
      rw [h3]; exact hy2
     have := G.out.inside h2
     have := LN.out
     omega
    have hin' : ((k + m : Nat) : Int) < (n : Int) := by omega
    have hin0 : (0 : Int) ≤ ((k + m : Nat) : Int) := by omega
    have BW := Lib.hid (blank_walk wc)
    have SET := Lib.hid (fun W (h : RowIn' W b (codeO1 l k) tail) => (show RowIn' _ b (codeO2 l k m) tail by rw [e]; exact h.set (k := k + m) (by rw [L1.out, LN.out]; exact hin) 32 1 0))
    obtain ⟨z, hz⟩ : ∃ z, k + m = z := ⟨_, rfl⟩
    rw [hz] at SET hin hin' hin0 ⊢
    clear e
    go_wp2_with fail
    refine BW.out.mono ?_
    rintro e2 w2 ⟨rfl, b2'⟩
    have R2 := Lib.hid (R1.out.below b2')
    have T2 := Lib.hid (T1.out.trans (Turned.ofBelow b2' (· = b)) (fun _ _ e => e))
    have y0 := (R2.out.cell (k := z) (by rw [L1.out, LN.out]; exact hin)).1
    have y1 := (R2.out.cell (k := z) (by rw [L1.out, LN.out]; exact hin)).2.1
    have y2 := (R2.out.cell (k := z) (by rw [L1.out, LN.out]; exact hin)).2.2
    have f0 := R2.out.free (z * 3)
    have f1 := R2.out.free (z * 3 + 1)
    have f2 := R2.out.free (z * 3 + 2)
    clear b2' BW
    go_wp2_with fail
    go_meet
    exact ⟨by rw [hz], Lib.hid (SET.out _ R2.out), Lib.hid (T2.out.trans (Turned.ofOnly (RowIn'.only _ b z _ _ _)) (fun _ _ e => e))⟩
   ·have hyb : (y == 2) = false := by simp; omega
    have e : codeO2 l k m = codeO1 l k := by unfold codeO2; rw [Y.out, if_neg hy2]
    go_wp2_with fail
    go_meet
    exact ⟨rfl, by rw [e]; exact R1, T1⟩
  case rest =>
   clear R1 T1 c2'
   obtain ⟨rfl, R2, T2⟩ := hcut
   have L2 := Lib.hid (codeO2_length l k m)
   have EQ := Lib.hid (show putO (codeO2 l k m) k L = ovL l k L by
    have := code_eq G.out (k := k) (L := L) (by rw [LM.out]; exact hm0) (by rw [LM.out, LN.out]; exact hk)
    rwa [LM.out] at this)
   have SC := Lib.hid (SRC.out wc T2.out)
   have hkc : (k : Int) ≤ (c : Int) := by omega
   have hck : c - k ≠ 0 := by omega
   have hmin : Nat.min m (n - k) = m := Nat.min_eq_left (by omega)
   have CP := run_copy_three (P := Tryz.prog) wc 51 51 3 62 i0 b (k * 3) (n - k) (c - k) ⟨b2, o2, none⟩ m c2 _ 62 (flat L) Tryz.underlying51 hi0 hz1 R2.out.heap (by rw [flat_length, LM.out, hmin]) SC.out (by have h1 := flat_length (codeO2 l k m); have h2 := flat_length L; rw [L2.out, LN.out] at h1; rw [LM.out] at h2; simp; omega) (flat_one L)
   have R3 := Lib.hid (R2.out.copied (k := k) (L := L) (by rw [L2.out, LN.out, LM.out]; exact hk))
   obtain ⟨w3, hw3⟩ : ∃ w3, wc.setRow b ((flat (codeO2 l k m) ++ tail).toArray.toList.take (k * 3) ++ flat L ++ (flat (codeO2 l k m) ++ tail).toArray.toList.drop (k * 3 + (flat L).length)).toArray = w3 := ⟨_, rfl⟩
   have T3 := Lib.hid (show Turned (· = b) w w3 by rw [← hw3]; exact T2.out.trans (Turned.ofOnly (onlyRow b _ _)) (fun _ _ e => e))
   rw [hw3] at CP R3
   rw [EQ.out] at R3
   clear hw3
   go_wp2
   go_end0
   exact ⟨⟨_, rfl⟩, R3.out, T3.out⟩
end Rw
namespace Rw
abbrev U15RowOneR (k : Nat) := Ord.upto k 15
def oneL : List Ord.Line := [
 (some 16, .move (.tmp 3), none, []),
 (some 17, .move (.tmp 16), none, [0]),
 (some 18, .move (.tmp 0), some (1, false), [1]),
 (some 19, .move (.tmp 0), some (1, false), [1]),
 (some 20, .indexAddr 51 (.tmp 19) (.const (.int .i64 0)), some (1, false), [3, 1]),
 (some 21, .fieldAddr 62 (.tmp 20) 0, some (1, false), [4, 1]),
 (some 22, .load 21 (.tmp 21), some (1, false), [5, 1]),
 (some 23, .move (.tmp 0), some (1, false), [1]),
 (some 24, .indexAddr 51 (.tmp 23) (.const (.int .i64 0)), some (1, false), [7, 1]),
 (some 25, .fieldAddr 62 (.tmp 24) 2, some (1, false), [8, 1]),
 (some 26, .load 3 (.tmp 25), some (1, false), [9, 1]),
 (some 27, .call { callee := .value (.func 113), args := #[.tmp 22, .tmp 26], argTypes := #[21, 3] }, some (1, false), [6, 10, 1, 1]),
 (some 28, .call { callee := .value (.func 94), args := #[.tmp 18, .tmp 27], argTypes := #[51, 51] }, some (1, false), [2, 11, 11, 1]),
 (some 29, .pick (.tmp 17) (.const (.bool true)) (.tmp 28), none, [1, 12]),
 (some 2, .assign (.tmp 29), none, [13, 12, 0, 1, 2, 3, 4, 5, 6, 7, 8, 9, 10, 11, 12, 13])]
structure OneFr0 (b2 o2 m c2 : Nat) (a : Act) : Prop where
 size : a.tmps.size = 30
 defers : a.defers = []
 s0 : Chain.At a 0 (.slice (some ⟨b2, o2, none⟩) m c2)
 s3 : Chain.At a 3 (.bool false)
theorem OneFr0.next {b2 o2 m c2 : Nat} {a a' : Act} {d : Nat} {v : Value} (F : OneFr0 b2 o2 m c2 a) (nx : Chain.Next a a' d v) (h : d ≠ 0 ∧ d ≠ 3 := by decide) : OneFr0 b2 o2 m c2 a' := ⟨nx.size.trans F.size, nx.defers.trans F.defers, nx.k F.s0 (by omega), nx.k F.s3 (by omega)⟩
theorem OneFr0.lt {b2 o2 m c2 : Nat} {a : Act} {d : Nat} (F : OneFr0 b2 o2 m c2 a) (h : d < 30 := by decide) : d < a.tmps.size := by rw [F.size]; exact h
theorem one_no {ops : Array Oper} {Q : Exit → Act → World → Prop} (R : Ord.Reg ops oneL) (hQ : Ord.HQ Q) {w1 : World} {b2 o2 m c2 : Nat}
  {r x : Int} {q : Bool} {Lo : List Cel} (hm0 : 0 < m) (cr : ∀ w, Below w1.heap.size w1 w → w.cell? ⟨b2, o2, none⟩ = some (.int .i32 r)) (cx : ∀ w, Below w1.heap.size w1 w → w.cell? ⟨b2, o2 + 2, none⟩ = some (.int .i64 x))
  (OF : ∀ w, Below w1.heap.size w1 w → Calls Tryz.prog 113 #[.int .i32 r, .int .i64 x] w fun e w' => OfPost Lo w e w')
  (EW : ∀ (w : World) (A3 : Option Addr) (c3 : Nat) {base : Nat}, Below w1.heap.size w1 w → HasC w base (.slice A3 Lo.length c3) Lo → Calls Tryz.prog 94 #[.slice (some ⟨b2, o2, none⟩) m c2, .slice A3 Lo.length c3] w fun e w' => e = .returned (.bool q) ∧ Below w.heap.size w w')
  (a : Act) (F : OneFr0 b2 o2 m c2 a) (h : ∀ a w, Below w1.heap.size w1 w → OneFr0 b2 o2 m c2 a → Chain.At a 2 (.bool q) → Q .normal a w) (w : World) (hS : Below w1.heap.size w1 w) :
  wpAnyH Tryz.prog .any ops Q (fun w => Below w1.heap.size w1 w) 15 (List.replicate 15 false).toArray a w := by
 refine Ord.tj R 0 (.bool false) (U15RowOneR 1) rfl hQ trivial hS (fun w _ hS => Chain.ev_move F.s3.ev) F.lt fun a0 N => ?_
 replace F := F.next N
 have f16 := N.got
 clear N a
 refine Ord.tk R 1 (.bool false) rfl hQ hS (fun w _ hS => Chain.ev_move f16.ev) F.lt fun a1 N => ?_
 replace F := F.next N
 clear f16
 have f17 := N.got
 clear N a0
 refine Ord.tj R 2 (.slice (some ⟨b2, o2, none⟩) m c2) (U15RowOneR 3) rfl hQ (R.opened (j := 1) rfl f17) hS (fun w _ hS => Chain.ev_move F.s0.ev) F.lt fun a2 N => ?_
 replace F := F.next N
 replace f17 := N.k f17
 have f18 := N.got
 clear N a1
 refine Ord.tj R 3 (.slice (some ⟨b2, o2, none⟩) m c2) (U15RowOneR 4) rfl hQ (R.opened (j := 1) rfl f17) hS (fun w _ hS => Chain.ev_move F.s0.ev) F.lt fun a3 N => ?_
 replace F := F.next N
 replace f17 := N.k f17
 replace f18 := N.k f18
 have f19 := N.got
 clear N a2
 refine Ord.tj R 4 (.pointer (some ⟨b2, o2, none⟩)) (U15RowOneR 5) rfl hQ (R.opened (j := 1) rfl f17) hS (fun w _ hS => by have e19 := f19.u; have q0 := hm0; clear F; go_simp) F.lt fun a4 N => ?_
 replace F := F.next N
 replace f17 := N.k f17
 replace f18 := N.k f18
 clear f19
 have f20 := N.got
 clear N a3
 refine Ord.tj R 5 (.pointer (some ⟨b2, o2, none⟩)) (U15RowOneR 6) rfl hQ (R.opened (j := 1) rfl f17) hS (fun w _ hS => by have e20 := f20.u; clear F; go_simp) F.lt fun a5 N => ?_
 replace F := F.next N
 replace f17 := N.k f17
 replace f18 := N.k f18
 clear f20
 have f21 := N.got
 clear N a4
 refine Ord.tj R 6 (.int .i32 r) (U15RowOneR 7) rfl hQ (R.opened (j := 1) rfl f17) hS (fun w _ hS => by have e21 := f21.u; have q0 := (cr w hS); clear F; go_simp) F.lt fun a6 N => ?_
 replace F := F.next N
 replace f17 := N.k f17
 replace f18 := N.k f18
 clear f21
 have f22 := N.got
 clear N a5
 refine Ord.tj R 7 (.slice (some ⟨b2, o2, none⟩) m c2) (U15RowOneR 8) rfl hQ (R.opened (j := 1) rfl f17) hS (fun w _ hS => Chain.ev_move F.s0.ev) F.lt fun a7 N => ?_
 replace F := F.next N
 replace f17 := N.k f17
 replace f18 := N.k f18
 replace f22 := N.k f22
 have f23 := N.got
 clear N a6
 refine Ord.tj R 8 (.pointer (some ⟨b2, o2, none⟩)) (U15RowOneR 9) rfl hQ (R.opened (j := 1) rfl f17) hS (fun w _ hS => by have e23 := f23.u; have q0 := hm0; clear F; go_simp) F.lt fun a8 N => ?_
 replace F := F.next N
 replace f17 := N.k f17
 replace f18 := N.k f18
 replace f22 := N.k f22
 clear f23
 have f24 := N.got
 clear N a7
 refine Ord.tj R 9 (.pointer (some ⟨b2, o2 + 2, none⟩)) (U15RowOneR 10) rfl hQ (R.opened (j := 1) rfl f17) hS (fun w _ hS => by have e24 := f24.u; clear F; go_simp) F.lt fun a9 N => ?_
 replace F := F.next N
 replace f17 := N.k f17
 replace f18 := N.k f18
 replace f22 := N.k f22
 clear f24
 have f25 := N.got
 clear N a8
 refine Ord.tj R 10 (.int .i64 x) (U15RowOneR 11) rfl hQ (R.opened (j := 1) rfl f17) hS (fun w _ hS => by have e25 := f25.u; have q0 := (cx w hS); clear F; go_simp) F.lt fun a10 N => ?_
 replace F := F.next N
 replace f17 := N.k f17
 replace f18 := N.k f18
 replace f22 := N.k f22
 clear f25
 have f26 := N.got
 clear N a9
 refine Ord.call R (k := 11) (args := #[.int .i32 r, .int .i64 x]) (bs' := U15RowOneR 12) rfl (by kernel_rfl) (R.opened (j := 1) rfl f17) (by simp [f22.ev, f26.ev]) (by kernel_rfl) (OF _ hS) F.lt ?_
 rintro e w ⟨v3, rfl, h3, b3⟩
 obtain ⟨A3, c3, rfl, _⟩ := HasC.shape h3
 have hS3 := hS.trans (b3.mono hS.size)
 have EQ := EW _ _ _ hS3 h3
 replace hS := hS3
 refine ⟨_, rfl, hS, fun a11 N => ?_⟩
 replace F := F.next N
 replace f17 := N.k f17
 replace f18 := N.k f18
 clear f22
 clear f26
 have f27 := N.got
 clear N a10
 refine Ord.call R (k := 12) (args := #[.slice (some ⟨b2, o2, none⟩) m c2, .slice A3 Lo.length c3]) (bs' := U15RowOneR 13) rfl (by kernel_rfl) (R.opened (j := 1) rfl f17) (by simp [f18.ev, f27.ev]) (by kernel_rfl) (EQ) F.lt ?_
 rintro e w ⟨rfl, b4⟩
 replace hS := hS.trans (b4.mono hS.size)
 refine ⟨_, rfl, hS, fun a12 N => ?_⟩
 replace F := F.next N
 replace f17 := N.k f17
 clear f18
 clear f27
 have f28 := N.got
 clear N a11
 refine Ord.tk R 13 (.bool q) rfl hQ hS (fun w _ hS => Ord.ev_pick_no f17.ev f28.ev) F.lt fun a13 N => ?_
 replace F := F.next N
 clear f17
 clear f28
 have f29 := N.got
 clear N a12
 refine Ord.tk R 14 (.bool q) rfl hQ hS (fun w _ hS => Chain.ev_assign f29.ev) F.lt fun a14 N => ?_
 replace F := F.next N
 clear f29
 have f2 := N.got
 clear N a13
 exact Ord.finish R (by kernel_rfl) (h _ _ hS F f2)
structure OneFr1 (b2 o2 m c2 : Nat) (a : Act) : Prop where
 size : a.tmps.size = 30
 defers : a.defers = []
 s0 : Chain.At a 0 (.slice (some ⟨b2, o2, none⟩) m c2)
 s3 : Chain.At a 3 (.bool true)
theorem OneFr1.next {b2 o2 m c2 : Nat} {a a' : Act} {d : Nat} {v : Value} (F : OneFr1 b2 o2 m c2 a) (nx : Chain.Next a a' d v) (h : d ≠ 0 ∧ d ≠ 3 := by decide) : OneFr1 b2 o2 m c2 a' := ⟨nx.size.trans F.size, nx.defers.trans F.defers, nx.k F.s0 (by omega), nx.k F.s3 (by omega)⟩
theorem OneFr1.lt {b2 o2 m c2 : Nat} {a : Act} {d : Nat} (F : OneFr1 b2 o2 m c2 a) (h : d < 30 := by decide) : d < a.tmps.size := by rw [F.size]; exact h
theorem one_yes {ops : Array Oper} {Q : Exit → Act → World → Prop} (R : Ord.Reg ops oneL) (hQ : Ord.HQ Q) {w1 : World} {b2 o2 m c2 : Nat}
  (a : Act) (F : OneFr1 b2 o2 m c2 a) (h : ∀ a w, Below w1.heap.size w1 w → OneFr1 b2 o2 m c2 a → Chain.At a 2 (.bool true) → Q .normal a w) (w : World) (hS : Below w1.heap.size w1 w) :
  wpAnyH Tryz.prog .any ops Q (fun w => Below w1.heap.size w1 w) 15 (List.replicate 15 false).toArray a w := by
 refine Ord.tj R 0 (.bool true) (U15RowOneR 1) rfl hQ trivial hS (fun w _ hS => Chain.ev_move F.s3.ev) F.lt fun a0 N => ?_
 replace F := F.next N
 have f16 := N.got
 clear N a
 refine Ord.tk R 1 (.bool true) rfl hQ hS (fun w _ hS => Chain.ev_move f16.ev) F.lt fun a1 N => ?_
 replace F := F.next N
 clear f16
 have f17 := N.got
 clear N a0
 refine Ord.sk R 2 (U15RowOneR 3) rfl hQ (R.shut (j := 1) rfl f17 (Ord.ne_not rfl)) hS F.lt fun a2 N => ?_
 replace F := F.next N
 replace f17 := N.k f17
 have f18 := N.got
 clear N a1
 refine Ord.sk R 3 (U15RowOneR 4) rfl hQ (R.shut (j := 1) rfl f17 (Ord.ne_not rfl)) hS F.lt fun a3 N => ?_
 replace F := F.next N
 replace f17 := N.k f17
 replace f18 := N.k f18
 have f19 := N.got
 clear N a2
 refine Ord.sk R 4 (U15RowOneR 5) rfl hQ (R.shut (j := 1) rfl f17 (Ord.ne_not rfl)) hS F.lt fun a4 N => ?_
 replace F := F.next N
 replace f17 := N.k f17
 replace f18 := N.k f18
 clear f19
 have f20 := N.got
 clear N a3
 refine Ord.sk R 5 (U15RowOneR 6) rfl hQ (R.shut (j := 1) rfl f17 (Ord.ne_not rfl)) hS F.lt fun a5 N => ?_
 replace F := F.next N
 replace f17 := N.k f17
 replace f18 := N.k f18
 clear f20
 have f21 := N.got
 clear N a4
 refine Ord.sk R 6 (U15RowOneR 7) rfl hQ (R.shut (j := 1) rfl f17 (Ord.ne_not rfl)) hS F.lt fun a6 N => ?_
 replace F := F.next N
 replace f17 := N.k f17
 replace f18 := N.k f18
 clear f21
 have f22 := N.got
 clear N a5
 refine Ord.sk R 7 (U15RowOneR 8) rfl hQ (R.shut (j := 1) rfl f17 (Ord.ne_not rfl)) hS F.lt fun a7 N => ?_
 replace F := F.next N
 replace f17 := N.k f17
 replace f18 := N.k f18
 replace f22 := N.k f22
 have f23 := N.got
 clear N a6
 refine Ord.sk R 8 (U15RowOneR 9) rfl hQ (R.shut (j := 1) rfl f17 (Ord.ne_not rfl)) hS F.lt fun a8 N => ?_
 replace F := F.next N
 replace f17 := N.k f17
 replace f18 := N.k f18
 replace f22 := N.k f22
 clear f23
 have f24 := N.got
 clear N a7
 refine Ord.sk R 9 (U15RowOneR 10) rfl hQ (R.shut (j := 1) rfl f17 (Ord.ne_not rfl)) hS F.lt fun a9 N => ?_
 replace F := F.next N
 replace f17 := N.k f17
 replace f18 := N.k f18
 replace f22 := N.k f22
 clear f24
 have f25 := N.got
 clear N a8
 refine Ord.sk R 10 (U15RowOneR 11) rfl hQ (R.shut (j := 1) rfl f17 (Ord.ne_not rfl)) hS F.lt fun a10 N => ?_
 replace F := F.next N
 replace f17 := N.k f17
 replace f18 := N.k f18
 replace f22 := N.k f22
 clear f25
 have f26 := N.got
 clear N a9
 refine Ord.sk R 11 (U15RowOneR 12) rfl hQ (R.shut (j := 1) rfl f17 (Ord.ne_not rfl)) hS F.lt fun a11 N => ?_
 replace F := F.next N
 replace f17 := N.k f17
 replace f18 := N.k f18
 clear f22
 clear f26
 have f27 := N.got
 clear N a10
 refine Ord.sk R 12 (U15RowOneR 13) rfl hQ (R.shut (j := 1) rfl f17 (Ord.ne_not rfl)) hS F.lt fun a12 N => ?_
 replace F := F.next N
 replace f17 := N.k f17
 clear f18
 clear f27
 have f28 := N.got
 clear N a11
 refine Ord.tk R 13 (Go.Value.bool true) rfl hQ hS (fun w _ hS => Ord.ev_pick_yes f17.ev rfl) F.lt fun a13 N => ?_
 replace F := F.next N
 clear f17
 clear f28
 have f29 := N.got
 clear N a12
 refine Ord.tk R 14 (Go.Value.bool true) rfl hQ hS (fun w _ hS => Chain.ev_assign f29.ev) F.lt fun a14 N => ?_
 replace F := F.next N
 clear f29
 have f2 := N.got
 clear N a13
 exact Ord.finish R (by kernel_rfl) (h _ _ hS F f2)
theorem one_frame {a : Act} {w : World} {K : Act → World → Prop} {v0 v2 v3 : Value} (hz : a.tmps.size = 30) (hd : a.defers = []) (f0 : Chain.At a 0 v0) (f2 : Chain.At a 2 v2) (f3 : Chain.At a 3 v3)
  (h : ∀ u1 u4 u5 u6 u7 u8 u9 u10 u11 u12 u13 u14 u15 u16 u17 u18 u19 u20 u21 u22 u23 u24 u25 u26 u27 u28 u29 : Value, K ⟨#[v0, u1, v2, v3, u4, u5, u6, u7, u8, u9, u10, u11, u12, u13, u14, u15, u16, u17, u18, u19, u20, u21, u22, u23, u24, u25, u26, u27, u28, u29], []⟩ w) : K a w := by
 have e := Ord.frame_gets hz hd
 simp only [Ord.gets, Nat.reduceAdd] at e
 rw [Ord.at_get f0, Ord.at_get f2, Ord.at_get f3] at e
 rw [e]
 exact h _ _ _ _ _ _ _ _ _ _ _ _ _ _ _ _ _ _ _ _ _ _ _ _ _ _ _
end Rw
