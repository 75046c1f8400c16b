/-
  Layer 8 in plain words: rows that may be, by their places; cells put over others; that the reference's way comes to the same.
  The row of package row: its copy; Used, IsBlank, First.
  row.overwrite: cells put over those of a row that is the caller's own.
  row.overwrite.
  row.isOne: its last statement, step by step.
  row.isOne: are these the cells of one sign, a Blank or a Pad?
  slices.Repeat: one round, step by step.
  slices.Repeat of one Blank; row.blanks.
  row.Set.
  row.Erase.
  The cells of one sign, and a Pad, are whole: what may be put over others.
  row.Blank, row.IsBlank.
-/
import Derived.Test.YtibihjcpkdfgeaaGreatDoorQBase0
import Derived.Test.YtibihjcpkdfgeaaGreatDoorQBase1
import Derived.IntWalk
import Derived.Laws.CopyRow
import Derived.Deep.CutRange
import Derived.Laws.MakeOwn
import Derived.StillTailTactics
namespace Go.Proofs.YtibihjcpkdfgeaaGreatDoor
namespace Rw

def cAt (l : List Cel) (i : Nat) : Cel := l.getD i (32, 1, 0)
def cPrev (l : List Cel) (i : Nat) : Cel := if i = 0 then (32, 1, 0) else cAt l (i - 1)
theorem cAt_some {l : List Cel} {i : Nat} {c : Cel} (h : l[i]? = some c) : cAt l i = c := by unfold cAt; rw [List.getD_eq_getElem?_getD, h]; rfl
theorem cAt_none {l : List Cel} {i : Nat} (h : l.length ≤ i) : cAt l i = (32, 1, 0) := by unfold cAt; rw [List.getD_eq_getElem?_getD, List.getElem?_eq_none h]; rfl
theorem cAt_get {l : List Cel} {i : Nat} (h : i < l.length) : l[i]? = some (cAt l i) := by
  rw [cAt_some (List.getElem?_eq_getElem h)]
  exact List.getElem?_eq_getElem h
theorem cAt_cons (c : Cel) (l : List Cel) (i : Nat) : cAt (c :: l) (i + 1) = cAt l i := rfl
theorem cAt_zero (c : Cel) (l : List Cel) : cAt (c :: l) 0 = c := rfl
theorem ext_cAt {l m : List Cel} (hl : l.length = m.length) (h : ∀ i, i < l.length → cAt l i = cAt m i) : l = m := by
  refine List.ext_getElem? fun i => ?_
  by_cases hi : i < l.length
  · rw [cAt_get hi, cAt_get (by omega), h i hi]
  · rw [List.getElem?_eq_none (by omega), List.getElem?_eq_none (by omega)]
theorem cAt_set (l : List Cel) (k i : Nat) (c : Cel) (hk : k < l.length) : cAt (l.set k c) i = if i = k then c else cAt l i := by
  unfold cAt
  simp only [List.getD_eq_getElem?_getD, List.getElem?_set]
  by_cases h : i = k
  · subst h; rw [if_pos rfl, if_pos rfl, if_pos hk]; rfl
  · rw [if_neg (by omega), if_neg h]
/-- A row that may be, place by place; behind its end, and ahead of it, stand Blanks. -/
structure Good (l : List Cel) : Prop where
  each : ∀ i, i < l.length → mayB (cAt l i) = true
  pair : ∀ i, ((cPrev l i).2.1 = 2 ↔ (cAt l i).2.1 = 0)
  like : ∀ i, (cAt l i).2.1 = 0 → (cAt l i).2.2 = (cPrev l i).2.2
theorem mayGo_iff (l : List Cel) : ∀ p : Cel, mayGo p l = true ↔ ∀ i, (i < l.length → mayB (cAt l i) = true) ∧ ((if i = 0 then p else cAt l (i - 1)).2.1 = 2 ↔ (cAt l i).2.1 = 0) ∧ ((cAt l i).2.1 = 0 → (cAt l i).2.2 = (if i = 0 then p else cAt l (i - 1)).2.2) := by
  induction l with
  | nil =>
    intro p
    constructor
    · intro h i
      have hb : cAt [] i = (32, 1, 0) := cAt_none (Nat.zero_le _)
      simp only [mayGo, Bool.not_eq_true', beq_eq_false_iff_ne] at h
      refine ⟨fun h => absurd h (Nat.not_lt_zero _), ?_, ?_⟩
      · rw [hb]
        by_cases hi : i = 0
        · rw [if_pos hi]; simpa using h
        · rw [if_neg hi, cAt_none (Nat.zero_le _)]; simp
      · rw [hb]; intro h; cases h
    · intro h
      have := (h 0).2.1
      rw [if_pos rfl, cAt_none (Nat.zero_le _)] at this
      simp only [mayGo, Bool.not_eq_true', beq_eq_false_iff_ne]
      intro e
      have := this.1 e
      cases this
  | cons c l ih =>
    intro p
    simp only [mayGo, Bool.and_eq_true]
    rw [ih c]
    have hpc : ((p.2.1 == 2) == (c.2.1 == 0)) = true ↔ (p.2.1 = 2 ↔ c.2.1 = 0) := by
      rw [beq_iff_eq (α := Bool), Bool.eq_iff_iff, beq_iff_eq, beq_iff_eq]
    have hlk : (!(c.2.1 == 0) || c.2.2 == p.2.2) = true ↔ (c.2.1 = 0 → c.2.2 = p.2.2) := by
      by_cases h1 : c.2.1 = 0 <;> simp [h1]
    rw [hpc, hlk]
    constructor
    · rintro ⟨⟨⟨h1, h2⟩, h3⟩, h4⟩ i
      cases i with
      | zero =>
        rw [if_pos rfl, cAt_zero]
        exact ⟨fun _ => h1, h2, h3⟩
      | succ j =>
        have := h4 j
        rw [if_neg (by omega), cAt_cons, Nat.add_sub_cancel]
        refine ⟨fun hj => this.1 (by simpa using hj), ?_, ?_⟩
        · cases j with
          | zero => rw [cAt_zero]; have := this.2.1; rwa [if_pos rfl] at this
          | succ j => rw [cAt_cons]; have := this.2.1; rwa [if_neg (by omega), Nat.add_sub_cancel] at this
        · cases j with
          | zero => rw [cAt_zero]; have := this.2.2; rwa [if_pos rfl] at this
          | succ j => rw [cAt_cons]; have := this.2.2; rwa [if_neg (by omega), Nat.add_sub_cancel] at this
    · intro h
      have h0 := h 0
      rw [if_pos rfl, cAt_zero] at h0
      refine ⟨⟨⟨h0.1 (by simp), h0.2.1⟩, h0.2.2⟩, fun j => ?_⟩
      have := h (j + 1)
      rw [if_neg (by omega), cAt_cons, Nat.add_sub_cancel] at this
      refine ⟨fun hj => this.1 (by simpa using hj), ?_, ?_⟩
      · cases j with
        | zero => rw [if_pos rfl]; have := this.2.1; rwa [cAt_zero] at this
        | succ j => rw [if_neg (by omega), Nat.add_sub_cancel]; have := this.2.1; rwa [cAt_cons] at this
      · cases j with
        | zero => rw [if_pos rfl]; have := this.2.2; rwa [cAt_zero] at this
        | succ j => rw [if_neg (by omega), Nat.add_sub_cancel]; have := this.2.2; rwa [cAt_cons] at this
theorem good_iff (l : List Cel) : mayGo (32, 1, 0) l = true ↔ Good l := by
  rw [mayGo_iff]
  constructor
  · intro h
    exact ⟨fun i => (h i).1, fun i => (h i).2.1, fun i => (h i).2.2⟩
  · intro h i
    exact ⟨h.each i, h.pair i, h.like i⟩
theorem mayL_iff (l : List Cel) : mayL l = true ↔ l.length ≤ 300 ∧ Good l := by
  unfold mayL
  rw [Bool.and_eq_true, decide_eq_true_eq, good_iff]
theorem Good.next {l : List Cel} (h : Good l) (i : Nat) : (cAt l i).2.1 = 2 ↔ (cAt l (i + 1)).2.1 = 0 := by
  have := h.pair (i + 1)
  unfold cPrev at this
  rwa [if_neg (by omega), Nat.add_sub_cancel] at this
theorem Good.first {l : List Cel} (h : Good l) : (cAt l 0).2.1 ≠ 0 := by
  intro e
  have := (h.pair 0).2 e
  unfold cPrev at this
  rw [if_pos rfl] at this
  cases this
/-- Cells that stand for themselves: whole signs, one behind the other. -/
structure Whole (L : List Cel) : Prop where
  some' : 0 < L.length
  each : ∀ j, j < L.length → mayB (cAt L j) = true
  pair : ∀ j, j < L.length → ((cPrev L j).2.1 = 2 ↔ (cAt L j).2.1 = 0)
  like : ∀ j, j < L.length → (cAt L j).2.1 = 0 → (cAt L j).2.2 = (cPrev L j).2.2
  last : (cAt L (L.length - 1)).2.1 ≠ 2
/-- What stands at a place when L has been put over the cells from 'from' on. -/
def ovS (l : List Cel) (k : Nat) (L : List Cel) (i : Nat) : Cel :=
  if k ≤ i ∧ i < k + L.length then cAt L (i - k)
  else if i + 1 = k ∧ (cAt l i).2.1 = 2 then (32, 1, 0)
  else if i = k + L.length ∧ (cAt l i).2.1 = 0 then (32, 1, 0) else cAt l i
def ovL (l : List Cel) (k : Nat) (L : List Cel) : List Cel := (List.range l.length).map (ovS l k L)
theorem ovL_length (l : List Cel) (k : Nat) (L : List Cel) : (ovL l k L).length = l.length := by simp [ovL]
theorem ovL_at {l : List Cel} {k : Nat} {L : List Cel} {i : Nat} (h : i < l.length) : cAt (ovL l k L) i = ovS l k L i := by
  refine cAt_some ?_
  unfold ovL
  rw [List.getElem?_map, List.getElem?_range h]
  rfl
theorem ovS_out {l : List Cel} {k : Nat} {L : List Cel} {i : Nat} (hL : k + L.length ≤ l.length) (h : l.length ≤ i) : ovS l k L i = (32, 1, 0) := by
  have hc := cAt_none h
  unfold ovS
  rw [if_neg (by omega), hc]
  simp
theorem ovL_any {l : List Cel} {k : Nat} {L : List Cel} (hL : k + L.length ≤ l.length) (i : Nat) : cAt (ovL l k L) i = ovS l k L i := by
  by_cases h : i < l.length
  · exact ovL_at h
  · rw [cAt_none (by rw [ovL_length]; omega), ovS_out hL (by omega)]
theorem mayB_blank : mayB (32, 1, 0) = true := by unfold mayB; simp; decide
/-- The row stays one that may be. -/
theorem ovL_good {l : List Cel} {k : Nat} {L : List Cel} (h : Good l) (hW : Whole L) (hL : k + L.length ≤ l.length) : Good (ovL l k L) := by
  have hp : ∀ i, (cPrev (ovL l k L) i) = if i = 0 then (32, 1, 0) else ovS l k L (i - 1) := by
    intro i
    unfold cPrev
    split
    · rfl
    · exact ovL_any hL _
  have hs := hW.some'
  -- where a place stands
  have key : ∀ i, ((if i = 0 then ((32, 1, 0) : Cel) else ovS l k L (i - 1)).2.1 = 2 ↔ (ovS l k L i).2.1 = 0) ∧ ((ovS l k L i).2.1 = 0 → (ovS l k L i).2.2 = (if i = 0 then ((32, 1, 0) : Cel) else ovS l k L (i - 1)).2.2) := by
    intro i
    by_cases hin : k ≤ i ∧ i < k + L.length
    · have e : ovS l k L i = cAt L (i - k) := by unfold ovS; rw [if_pos hin]
      have hwp := hW.pair (i - k) (by omega)
      have hwl := hW.like (i - k) (by omega)
      rw [e]
      by_cases hik : i = k
      · subst hik
        rw [Nat.sub_self] at hwp hwl ⊢
        unfold cPrev at hwp hwl
        rw [if_pos rfl] at hwp hwl
        have h0 : (cAt L 0).2.1 ≠ 0 := fun e => by have := hwp.2 e; cases this
        refine ⟨?_, fun e => absurd e h0⟩
        constructor
        · intro e2
          exfalso
          split at e2
          · cases e2
          · unfold ovS at e2
            rw [if_neg (by omega)] at e2
            split at e2
            · cases e2
            · rename_i hn
              rw [if_neg (by omega)] at e2
              exact hn ⟨by omega, e2⟩
        · intro e2; exact absurd e2 h0
      · have e3 : ovS l k L (i - 1) = cAt L (i - k - 1) := by
          unfold ovS
          rw [if_pos (by omega)]
          congr 1
          omega
        rw [if_neg (by omega), e3]
        unfold cPrev at hwp hwl
        rw [if_neg (by omega)] at hwp hwl
        exact ⟨hwp, hwl⟩
    · by_cases hb : i = k + L.length
      · have e3 : ovS l k L (i - 1) = cAt L (L.length - 1) := by
          unfold ovS
          rw [if_pos (by omega)]
          congr 1
          omega
        have h2 := hW.last
        have e : (ovS l k L i).2.1 ≠ 0 := by
          unfold ovS
          rw [if_neg hin, if_neg (by omega)]
          split
          · simp
          · rename_i hn
            intro e
            exact hn ⟨hb, e⟩
        rw [if_neg (by omega), e3]
        exact ⟨⟨fun e => absurd e h2, fun e2 => absurd e2 e⟩, fun e2 => absurd e2 e⟩
      · by_cases hbk : i = k + L.length + 1
        · have e : ovS l k L i = cAt l i := by
            unfold ovS
            rw [if_neg hin, if_neg (by omega), if_neg (by omega)]
          have hq := h.pair i
          have hl := h.like i
          unfold cPrev at hq hl
          rw [if_neg (by omega)] at hq hl
          rw [e, if_neg (by omega)]
          by_cases hz : (cAt l (i - 1)).2.1 = 0
          · have e3 : ovS l k L (i - 1) = (32, 1, 0) := by
              unfold ovS
              rw [if_neg (by omega), if_neg (by omega), if_pos ⟨by omega, hz⟩]
            have hne : (cAt l i).2.1 ≠ 0 := fun e2 => by
              have := hq.2 e2
              omega
            rw [e3]
            exact ⟨⟨fun e2 => (by cases e2), fun e2 => absurd e2 hne⟩, fun e2 => absurd e2 hne⟩
          · have e3 : ovS l k L (i - 1) = cAt l (i - 1) := by
              unfold ovS
              rw [if_neg (by omega), if_neg (by omega), if_neg (fun x => hz x.2)]
            rw [e3]
            exact ⟨hq, hl⟩
        · have hpr : (if i = 0 then ((32, 1, 0) : Cel) else ovS l k L (i - 1)) = cPrev l i := by
            unfold cPrev
            split
            · rfl
            · unfold ovS
              rw [if_neg (by omega), if_neg (by omega), if_neg (by omega)]
          by_cases ha : i + 1 = k
          · rw [hpr]
            by_cases h2 : (cAt l i).2.1 = 2
            · have e : ovS l k L i = (32, 1, 0) := by unfold ovS; rw [if_neg hin, if_pos ⟨ha, h2⟩]
              rw [e]
              have hn : (cPrev l i).2.1 ≠ 2 := fun e2 => by
                have := (h.pair i).1 e2
                omega
              exact ⟨⟨fun e2 => absurd e2 hn, fun e2 => (by cases e2)⟩, fun e2 => (by cases e2)⟩
            · have e : ovS l k L i = cAt l i := by
                unfold ovS
                rw [if_neg hin, if_neg (fun x => h2 x.2), if_neg (by omega)]
              rw [e]
              exact ⟨h.pair i, h.like i⟩
          · have e : ovS l k L i = cAt l i := by
              unfold ovS
              rw [if_neg hin, if_neg (fun x => ha x.1), if_neg (fun x => hb x.1)]
            rw [e, hpr]
            exact ⟨h.pair i, h.like i⟩
  refine ⟨fun i hi => ?_, fun i => ?_, fun i => ?_⟩
  · rw [ovL_length] at hi
    rw [ovL_at hi]
    unfold ovS
    split
    · exact hW.each _ (by omega)
    · split
      · exact mayB_blank
      · split
        · exact mayB_blank
        · exact h.each i hi
  · rw [hp, ovL_any hL]
    exact (key i).1
  · rw [hp, ovL_any hL]
    exact (key i).2
/-- L written over l from k on. -/
def putO (l : List Cel) (k : Nat) (L : List Cel) : List Cel := l.take k ++ L ++ l.drop (k + L.length)
theorem putO_length {l : List Cel} {k : Nat} {L : List Cel} (h : k + L.length ≤ l.length) : (putO l k L).length = l.length := by
  unfold putO
  rw [List.length_append, List.length_append, List.length_take, List.length_drop]
  omega
theorem cAt_putO {l : List Cel} {k : Nat} {L : List Cel} (h : k + L.length ≤ l.length) (i : Nat) : cAt (putO l k L) i = if k ≤ i ∧ i < k + L.length then cAt L (i - k) else cAt l i := by
  unfold putO cAt
  simp only [List.getD_eq_getElem?_getD]
  have hl : (l.take k).length = k := by rw [List.length_take]; omega
  by_cases h1 : i < k
  · rw [if_neg (by omega), List.getElem?_append_left (by rw [List.length_append]; omega), List.getElem?_append_left (by omega), List.getElem?_take, if_pos h1]
  · by_cases h2 : i < k + L.length
    · rw [if_pos (by omega), List.getElem?_append_left (by rw [List.length_append]; omega), List.getElem?_append_right (by omega), hl]
    · rw [if_neg (by omega), List.getElem?_append_right (by rw [List.length_append]; omega), List.getElem?_drop, List.length_append, hl]
      congr 2
      omega
theorem putO_none (l : List Cel) (k : Nat) : putO l k [] = l := by simp [putO]
theorem putO_next {l : List Cel} {k j : Nat} {L : List Cel} (h : k + L.length ≤ l.length) (hj : j < L.length) : (putO l k (L.take j)).set (k + j) (cAt L j) = putO l k (L.take (j + 1)) := by
  have hlt : (L.take j).length = j := by rw [List.length_take]; omega
  have hlt1 : (L.take (j + 1)).length = j + 1 := by rw [List.length_take]; omega
  refine ext_cAt (by rw [List.length_set, putO_length (by omega), putO_length (by omega)]) fun i hi => ?_
  rw [List.length_set, putO_length (by omega)] at hi
  rw [cAt_set _ _ _ _ (by rw [putO_length (by omega)]; omega), cAt_putO (by omega), cAt_putO (by omega), hlt, hlt1]
  have ht : ∀ m q, q < m → m ≤ L.length → cAt (L.take m) q = cAt L q := by
    intro m q hq hm
    unfold cAt
    rw [List.getD_eq_getElem?_getD, List.getD_eq_getElem?_getD, List.getElem?_take, if_pos hq]
  by_cases h1 : i = k + j
  · rw [if_pos h1, if_pos (by omega), ht _ _ (by omega) (by omega)]
    congr 1
    omega
  · rw [if_neg h1]
    by_cases h2 : k ≤ i ∧ i < k + j
    · rw [if_pos h2, if_pos (by omega), ht _ _ (by omega) (by omega), ht _ _ (by omega) (by omega)]
    · rw [if_neg h2, if_neg (by omega)]
/-- A half that is left alone. -/
def lone (o : List Cel) (i : Nat) : Bool := ((cAt o i).2.1 == 2 && !((cAt o (i + 1)).2.1 == 0)) || ((cAt o i).2.1 == 0 && !((cPrev o i).2.1 == 2))
def scanK (o : List Cel) : Nat → List Cel
  | 0 => o
  | k + 1 => if lone (scanK o k) k then (scanK o k).set k (32, 1, 0) else scanK o k
theorem scanK_length (o : List Cel) (k : Nat) : (scanK o k).length = o.length := by
  induction k with
  | zero => rfl
  | succ k ih =>
    unfold scanK
    split
    · rw [List.length_set]; exact ih
    · exact ih
theorem Good.not_lone {l : List Cel} (h : Good l) (i : Nat) : lone l i = false := by
  have h1 := h.next i
  have h2 := h.pair i
  unfold lone
  rw [Bool.or_eq_false_iff, Bool.and_eq_false_iff, Bool.and_eq_false_iff]
  simp only [Bool.not_eq_false', beq_eq_false_iff_ne, beq_iff_eq, ne_eq]
  refine ⟨?_, ?_⟩
  · by_cases e : (cAt l i).2.1 = 2
    · exact .inr (h1.1 e)
    · exact .inl e
  · by_cases e : (cAt l i).2.1 = 0
    · exact .inr (h2.2 e)
    · exact .inl e
theorem scan_good {l : List Cel} (h : Good l) : ∀ k, scanK l k = l := by
  intro k
  induction k with
  | zero => rfl
  | succ k ih =>
    unfold scanK
    rw [ih, h.not_lone k]
    rfl
def blanksL (n : Nat) : List Cel := List.replicate n (32, 1, 0)
theorem blanksL_length (n : Nat) : (blanksL n).length = n := List.length_replicate
theorem cAt_blanksL (n i : Nat) : cAt (blanksL n) i = (32, 1, 0) := by
  unfold cAt blanksL
  rw [List.getD_eq_getElem?_getD, List.getElem?_replicate]
  split <;> rfl
theorem blanksL_whole {n : Nat} (hn : 0 < n) : Whole (blanksL n) := by
  refine ⟨by rw [blanksL_length]; exact hn, fun j _ => by rw [cAt_blanksL]; exact mayB_blank, fun j _ => ?_, fun j _ e => ?_, by rw [cAt_blanksL]; simp⟩
  · unfold cPrev
    rw [cAt_blanksL]
    split <;> simp [cAt_blanksL]
  · rw [cAt_blanksL] at e; cases e
/-- What the reference's 'over' makes of blanks. -/
theorem scan_blanks {l : List Cel} (h : Good l) {k n : Nat} (hn : 0 < n) (hL : k + n ≤ l.length) : scanK (putO l k (blanksL n)) l.length = ovL l k (blanksL n) := by
  have hL' : k + (blanksL n).length ≤ l.length := by rw [blanksL_length]; exact hL
  obtain ⟨o, ho⟩ : ∃ o, putO l k (blanksL n) = o := ⟨_, rfl⟩
  have hol : o.length = l.length := by rw [← ho]; exact putO_length hL'
  have hoa : ∀ i, cAt o i = if k ≤ i ∧ i < k + n then (32, 1, 0) else cAt l i := by
    intro i
    rw [← ho, cAt_putO hL', blanksL_length, cAt_blanksL]
  have hS : ∀ i, ovS l k (blanksL n) i = if k ≤ i ∧ i < k + n then (32, 1, 0) else if i + 1 = k ∧ (cAt l i).2.1 = 2 then (32, 1, 0) else if i = k + n ∧ (cAt l i).2.1 = 0 then (32, 1, 0) else cAt l i := by
    intro i
    unfold ovS
    rw [blanksL_length, cAt_blanksL]
  have key : ∀ j, j ≤ l.length → ∀ i, cAt (scanK o j) i = if i < j then ovS l k (blanksL n) i else cAt o i := by
    intro j
    induction j with
    | zero => intro _ i; rw [if_neg (by omega)]; rfl
    | succ j ih =>
      intro hj i
      have ih := ih (by omega)
      have hc : cAt (scanK o j) j = cAt o j := by rw [ih, if_neg (by omega)]
      have hnx : cAt (scanK o j) (j + 1) = cAt o (j + 1) := by rw [ih, if_neg (by omega)]
      have hpv : cPrev (scanK o j) j = if j = 0 then (32, 1, 0) else ovS l k (blanksL n) (j - 1) := by
        unfold cPrev
        split
        · rfl
        · rw [ih, if_pos (by omega)]
      have hgn := h.next j
      have hgp := h.pair j
      obtain ⟨pv, hpvd⟩ : ∃ pv, (if j = 0 then ((32, 1, 0) : Cel) else ovS l k (blanksL n) (j - 1)) = pv := ⟨_, rfl⟩
      rw [hpvd] at hpv
      -- what the round does
      have hround : (if lone (scanK o j) j then ((32, 1, 0) : Cel) else cAt o j) = ovS l k (blanksL n) j := by
        unfold lone
        rw [hc, hnx, hpv]
        by_cases hin : k ≤ j ∧ j < k + n
        · have e : cAt o j = (32, 1, 0) := by rw [hoa, if_pos hin]
          rw [e, hS, if_pos hin]
          simp
        · have e : cAt o j = cAt l j := by rw [hoa, if_neg hin]
          have hSj := hS j
          rw [if_neg hin] at hSj
          rw [e]
          by_cases ha : j + 1 = k
          · have e1 : cAt o (j + 1) = (32, 1, 0) := by rw [hoa, if_pos (by omega)]
            have hp0 : (cAt l j).2.1 = 0 → pv.2.1 = 2 := by
              intro e0
              rw [← hpvd]
              have := hgp.2 e0
              unfold cPrev at this
              split at this
              · cases this
              · rw [if_neg (by omega), hS, if_neg (by omega), if_neg (by omega), if_neg (by omega)]
                exact this
            rw [e1]
            by_cases h2 : (cAt l j).2.1 = 2
            · rw [if_pos ⟨ha, h2⟩] at hSj
              rw [hSj]
              simp [h2]
            · rw [if_neg (fun x => h2 x.2), if_neg (by omega)] at hSj
              rw [hSj]
              by_cases h0 : (cAt l j).2.1 = 0
              · have := hp0 h0
                simp [h0, this]
              · simp [h2, h0]
          · rw [if_neg (fun x => ha x.1)] at hSj
            have e1 : cAt o (j + 1) = cAt l (j + 1) := by rw [hoa, if_neg (by omega)]
            rw [e1]
            by_cases hb : j = k + n
            · have e3 : pv = (32, 1, 0) := by
                rw [← hpvd, if_neg (by omega), hS, if_pos (by omega)]
              rw [e3]
              by_cases h0 : (cAt l j).2.1 = 0
              · rw [if_pos ⟨hb, h0⟩] at hSj
                rw [hSj]
                simp [h0]
              · rw [if_neg (fun x => h0 x.2)] at hSj
                rw [hSj]
                by_cases h2 : (cAt l j).2.1 = 2
                · have := hgn.1 h2
                  simp [h2, this]
                · simp [h0, h2]
            · rw [if_neg (fun x => hb x.1)] at hSj
              rw [hSj]
              by_cases h2 : (cAt l j).2.1 = 2
              · have := hgn.1 h2
                simp [h2, this]
              · by_cases h0 : (cAt l j).2.1 = 0
                · have hp2 := hgp.2 h0
                  unfold cPrev at hp2
                  by_cases hj1 : j = k + n + 1
                  · -- the place ahead of it may have become a Blank; then nothing stood there to be halved
                    rw [if_neg (by omega)] at hp2
                    have hz : ¬ (cAt l (j - 1)).2.1 = 0 := by omega
                    have e4 : pv.2.1 = 2 := by
                      rw [← hpvd, if_neg (by omega), hS, if_neg (by omega), if_neg (by omega), if_neg (fun x => hz x.2)]
                      exact hp2
                    simp [h0, e4]
                  · have e4 : pv.2.1 = 2 := by
                      rw [← hpvd]
                      split at hp2
                      · cases hp2
                      · rw [if_neg (by omega), hS, if_neg (by omega), if_neg (by omega), if_neg (by omega)]
                        exact hp2
                    simp [h0, e4]
                · simp [h0, h2]
      have hsc : cAt (scanK o (j + 1)) i = if i = j then (if lone (scanK o j) j then ((32, 1, 0) : Cel) else cAt o j) else cAt (scanK o j) i := by
        show cAt (if lone (scanK o j) j then (scanK o j).set j (32, 1, 0) else scanK o j) i = _
        cases hlo : lone (scanK o j) j with
        | true =>
          rw [if_pos rfl, if_pos rfl, cAt_set _ _ _ _ (by rw [scanK_length]; omega)]
        | false =>
          simp only [Bool.false_eq_true, if_false]
          split
          · rename_i e; rw [e, hc]
          · rfl
      rw [hsc, hround]
      by_cases hij : i = j
      · subst hij; rw [if_pos rfl, if_pos (by omega)]
      · rw [if_neg hij, ih]
        by_cases hlt : i < j
        · rw [if_pos hlt, if_pos (by omega)]
        · rw [if_neg hlt, if_neg (by omega)]
  rw [ho]
  refine ext_cAt (by rw [scanK_length, ovL_length, hol]) fun i hi => ?_
  rw [scanK_length, hol] at hi
  rw [key _ (Nat.le_refl _), if_pos hi, ovL_at hi]
theorem put_marked {l : List Cel} {k : Nat} {L : List Cel} (hL : k + L.length ≤ l.length) : putO (ovL l k (blanksL L.length)) k L = ovL l k L := by
  have hb : k + (blanksL L.length).length ≤ l.length := by rw [blanksL_length]; exact hL
  refine ext_cAt (by rw [putO_length (by rw [ovL_length]; exact hL), ovL_length, ovL_length]) fun i hi => ?_
  rw [putO_length (by rw [ovL_length]; exact hL), ovL_length] at hi
  rw [cAt_putO (by rw [ovL_length]; exact hL), ovL_at hi, ovL_at hi]
  unfold ovS
  rw [blanksL_length]
  by_cases hin : k ≤ i ∧ i < k + L.length
  · rw [if_pos hin, if_pos hin]
  · rw [if_neg hin, if_neg hin, if_neg hin]
/-- The reference's Set: blanks first, then the cells. -/
theorem refSet_eq {l : List Cel} (h : Good l) {k : Nat} {L : List Cel} (hW : Whole L) (hL : k + L.length ≤ l.length) : scanK (putO (scanK (putO l k (blanksL L.length)) l.length) k L) l.length = ovL l k L := by
  rw [scan_blanks h hW.some' hL, put_marked hL]
  exact scan_good (ovL_good h hW hL) _
/-- What the program's overwrite comes to. -/
def codeO1 (l : List Cel) (k : Nat) : List Cel := if (cAt l k).2.1 = 0 then l.set (k - 1) (32, 1, 0) else l
def codeO2 (l : List Cel) (k n : Nat) : List Cel := if (cAt (codeO1 l k) (k + n - 1)).2.1 = 2 then (codeO1 l k).set (k + n) (32, 1, 0) else codeO1 l k
theorem codeO1_length (l : List Cel) (k : Nat) : (codeO1 l k).length = l.length := by unfold codeO1; split <;> simp
theorem codeO2_length (l : List Cel) (k n : Nat) : (codeO2 l k n).length = l.length := by unfold codeO2; split <;> simp [codeO1_length]
theorem Good.inside {l : List Cel} (h : Good l) {i : Nat} (h2 : (cAt l i).2.1 = 2) : i + 1 < l.length := by
  have := (h.next i).1 h2
  rcases Nat.lt_or_ge (i + 1) l.length with h' | h'
  · exact h'
  · rw [cAt_none h'] at this; cases this
theorem Good.ahead {l : List Cel} (h : Good l) {i : Nat} (h0 : (cAt l i).2.1 = 0) : 0 < i ∧ i < l.length := by
  constructor
  · rcases Nat.eq_zero_or_pos i with e | e
    · subst e; exact absurd h0 h.first
    · exact e
  · rcases Nat.lt_or_ge i l.length with h' | h'
    · exact h'
    · rw [cAt_none h'] at h0; cases h0
theorem cAt_codeO1 {l : List Cel} (h : Good l) (k i : Nat) : cAt (codeO1 l k) i = if i + 1 = k ∧ (cAt l i).2.1 = 2 then (32, 1, 0) else cAt l i := by
  unfold codeO1
  by_cases h0 : (cAt l k).2.1 = 0
  · obtain ⟨hk, hkl⟩ := h.ahead h0
    rw [if_pos h0, cAt_set _ _ _ _ (by omega)]
    by_cases hi : i + 1 = k
    · have : (cAt l i).2.1 = 2 := (h.next i).2 (by rw [hi]; exact h0)
      rw [if_pos (by omega), if_pos ⟨hi, this⟩]
    · rw [if_neg (by omega), if_neg (fun x => hi x.1)]
  · rw [if_neg h0, if_neg]
    rintro ⟨h1, h2⟩
    have := (h.next i).1 h2
    rw [h1] at this
    exact h0 this
theorem cAt_codeO2 {l : List Cel} (h : Good l) {k n : Nat} (hn : 0 < n) (i : Nat) : cAt (codeO2 l k n) i = if i + 1 = k ∧ (cAt l i).2.1 = 2 then (32, 1, 0) else if i = k + n ∧ (cAt l i).2.1 = 0 then (32, 1, 0) else cAt l i := by
  have e1 : cAt (codeO1 l k) (k + n - 1) = cAt l (k + n - 1) := by rw [cAt_codeO1 h, if_neg (by omega)]
  unfold codeO2
  rw [e1]
  by_cases h2 : (cAt l (k + n - 1)).2.1 = 2
  · have hi2 := h.inside h2
    have h0 : (cAt l (k + n)).2.1 = 0 := by have := (h.next _).1 h2; rwa [show k + n - 1 + 1 = k + n by omega] at this
    rw [if_pos h2, cAt_set _ _ _ _ (by rw [codeO1_length]; omega), cAt_codeO1 h]
    by_cases hi : i = k + n
    · subst hi
      rw [if_pos rfl, if_neg (by omega), if_pos ⟨rfl, h0⟩]
    · rw [if_neg hi, if_neg (c := i = k + n ∧ _) (fun x => hi x.1)]
  · rw [if_neg h2, cAt_codeO1 h]
    split
    · rfl
    · rw [if_neg]
      rintro ⟨h1, h3⟩
      have := (h.pair i).2 h3
      unfold cPrev at this
      rw [if_neg (by omega)] at this
      rw [show i - 1 = k + n - 1 by omega] at this
      exact h2 this
theorem code_eq {l : List Cel} (h : Good l) {k : Nat} {L : List Cel} (hs : 0 < L.length) (hL : k + L.length ≤ l.length) : putO (codeO2 l k L.length) k L = ovL l k L := by
  refine ext_cAt (by rw [putO_length (by rw [codeO2_length]; exact hL), codeO2_length, ovL_length]) fun i hi => ?_
  rw [putO_length (by rw [codeO2_length]; exact hL), codeO2_length] at hi
  rw [cAt_putO (by rw [codeO2_length]; exact hL), ovL_at hi, cAt_codeO2 h hs]
  rfl
/-- The col nearest to col that there is, or that of the first half of what stands there. -/
def firstOf (l : List Cel) (col : Int) : Int :=
  if l.length = 0 then 0 else if (cAt l (min (max col 0) ((l.length : Int) - 1)).toNat).2.1 = 0 then min (max col 0) ((l.length : Int) - 1) - 1 else min (max col 0) ((l.length : Int) - 1)
end Rw
end Go.Proofs.YtibihjcpkdfgeaaGreatDoor
namespace Go.Proofs.YtibihjcpkdfgeaaGreatDoor
open Go.ChangeShapes Go.WideShapes Go.ChangeAt Go.RowKit

theorem Sq.cellsAt {w : World} {B n b off k : Nat} {l : List Cel} {c : Cel} (h : Sq w B 3 n (some ⟨b, off, none⟩) (flat l)) (hc : l[k]? = some c) : w.cell? ⟨b, off + k * 3, none⟩ = some (.int .i32 c.1) ∧ w.cell? ⟨b, off + k * 3 + 1, none⟩ = some (.int .i64 c.2.1) ∧ w.cell? ⟨b, off + k * 3 + 2, none⟩ = some (.int .i64 c.2.2) := by
  have hl : k < n := by
    have h1 := h.len
    rw [flat_length] at h1
    have := (List.getElem?_eq_some_iff.1 hc).1
    omega
  obtain ⟨b', off', e, _, c', h', q0, q1, q2⟩ := h.three hl
  injection e with e
  injection e with e1 e2
  subst e1 e2
  rw [hc] at h'
  injection h' with h'
  subst h'
  exact ⟨q0, q1, q2⟩
def CopiedPost (wrap : Bool) (l : List Cel) (w : World) (e : Ending) (w' : World) : Prop := ∃ v, e = .returned (.agg #[v, .bool wrap]) ∧ HasC w' w.heap.size v l ∧ Below w.heap.size w w'
set_option maxRecDepth 100000 in
set_option maxHeartbeats 3200000 in
theorem copied_walk (A : Option Addr) (n c : Nat) (wrap : Bool) (l : List Cel) (w : World) (hq : Sq w w.heap.size 3 n A (flat l)) (hn : n ≤ 1000000) :
    Calls Tryz.prog 73 #[rowV A n c wrap] w fun e w' => CopiedPost wrap l w e w' := by
  obtain ⟨i0, hi, hz0, hz1, hz2⟩ := info_parts infoCell
  have hln : l.length = n := by have := hq.len; rw [flat_length] at this; omega
  have QM := Lib.hid hq
  have ML := Lib.hid hln
  clear hln hq
  go_enter Tryz.func73, Tryz.ntmps73
  have B2 := Lib.hid (((Below.refl w.heap.size w).alloc (Nat.le_refl _) (.cells #[.slice A n c, .bool wrap] 53)).alloc (by simp) (.cells #[.slice none 0 0, .bool false] 53))
  have hb0 : ((w.alloc (.cells #[.slice A n c, .bool wrap] 53)).alloc (.cells #[.slice none 0 0, .bool false] 53)).heap[w.heap.size]? = some (.cells #[.slice A n c, .bool wrap] 53 (0, 0)) := (Below.heap_alloc _ _ _ (by simp)).trans (heap_alloc_new w _)
  have hb1 : ((w.alloc (.cells #[.slice A n c, .bool wrap] 53)).alloc (.cells #[.slice none 0 0, .bool false] 53)).heap[w.heap.size + 1]? = some (.cells #[.slice none 0 0, .bool false] 53 (0, 0)) := by
    have h := heap_alloc_new (w.alloc (.cells #[.slice A n c, .bool wrap] 53)) (.cells #[.slice none 0 0, .bool false] 53)
    rw [World.size_alloc] at h
    exact h
  have H0 := Lib.hid hb0
  have H1 := Lib.hid hb1
  have HS := Lib.hid (show ((w.alloc (.cells #[.slice A n c, .bool wrap] 53)).alloc (.cells #[.slice none 0 0, .bool false] 53)).heap.size = w.heap.size + 2 by simp)
  clear hb0 hb1
  go_wp2_with fail
  go_region_law (
    refine step_app rfl _ _ 51 rfl (w.heap.size + 2) 67 i0 (.agg #[.int .i32 0, .int .i64 0, .int .i64 0]) 3 24 Tryz.underlying51 hi hz0 hz1 hz2 rfl (by decide) (.slice none 0 0) 0 [] rfl (World.ownsRow_nil _ _ _ _) A n c (flat l) rfl w.heap.size (QM.out.below (by first | exact B2.out | exact B2.out.drew | exact B2.out.drew.drew)) (flat_one _) (by unfold maxLen; omega) (by omega) (by first | exact Nat.le_of_eq HS.out.symm | simp) ?_
    intro A' c' w3 hown hg
    intro _
    have B3 := Lib.hid ((show Below w.heap.size w w3 from ⟨hg.os.trans B2.out.os, hg.tape.trans B2.out.tape, hg.output.trans B2.out.output, Nat.le_trans B2.out.size hg.size, fun k hk => (hg.block k (by simp; omega) (by simp [Value.ownBlock])).trans (B2.out.block k hk)⟩))
    have k0 : w3.cell? ⟨w.heap.size, 1, none⟩ = some (.bool wrap) := by rw [cell_of_row _ _ _ _ _ (0, 0) ((hg.block _ (by simp; omega) (by simp [Value.ownBlock])).trans H0.out)]; rfl
    have T0 := Lib.hid (show RowAt w3 (w.heap.size + 1) (.slice none 0 0) false from (hg.block _ (by simp) (by simp [Value.ownBlock])).trans H1.out)
    have t0 : w3.cell? ⟨w.heap.size + 1, 0, none⟩ = some (.slice none 0 0) := T0.out.get 0
    have t1 : w3.cell? ⟨w.heap.size + 1, 1, none⟩ = some (.bool false) := T0.out.get 1
    have f0 := T0.out.free 0
    have f1 := T0.out.free 1
    have OW := Lib.hid (show HasC w3 (w.heap.size + 2) (.slice A' (0 + n) c') l by unfold HasC; rw [ML.out]; simpa using hown)
    rw [Nat.zero_add] at OW
    rw [Nat.zero_add]
    clear hown hg)
  all_goals
    have RF := RowAt.put2 T0.out (.slice A' n c') wrap
    have BF := (B3.out.setCell (p := ⟨w.heap.size + 1, 0, none⟩) (Nat.le_succ _) (.slice A' n c')).setCell (p := ⟨w.heap.size + 1, 1, none⟩) (Nat.le_succ _) (.bool wrap)
    have OF := HasC.keep (w' := (w3.setCell ⟨w.heap.size + 1, 0, none⟩ (.slice A' n c')).setCell ⟨w.heap.size + 1, 1, none⟩ (.bool wrap)) OW.out (fun j e => by
      have h := (HasC.lt OW.out j e).1
      rw [Below.heap_setCell _ _ _ _ (by show j ≠ w.heap.size + 1; omega), Below.heap_setCell _ _ _ _ (by show j ≠ w.heap.size + 1; omega)])
    go_wp2
    generalize (w3.setCell ⟨w.heap.size + 1, 0, none⟩ (.slice A' n c')).setCell ⟨w.heap.size + 1, 1, none⟩ (.bool wrap) = wz at RF BF OF ⊢
    have e0 := RF.get 0
    have e1 := RF.get 1
    exact bodyPost_ret (v := .agg #[.slice A' n c', .bool wrap]) (by simp [results, Tryz.results73, go_sem, e0, e1]) rfl ⟨.slice A' n c', rfl, HasC.mono OF (by omega), BF⟩
set_option maxRecDepth 100000 in
set_option maxHeartbeats 1600000 in
theorem rowUsed_walk (A : Option Addr) (n c : Nat) (wrap : Bool) (l : List Cel) (w : World) (hs : Spans w) (hl : ∀ c ∈ l, -2147483648 ≤ c.1 ∧ c.1 ≤ 2147483647) (hq : Sq w w.heap.size 3 n A (flat l)) (hc : n ≤ c) (hn : n ≤ 1000000) :
    Calls Tryz.prog 41 #[rowV A n c wrap] w fun e w' => e = .returned (.int .i64 (if mayL l then ((trimL l).length : Nat) else 0)) ∧ Below w.heap.size w w' := by
  have b1 := (Below.refl w.heap.size w).alloc (Nat.le_refl _) (.cells #[.slice A n c, .bool wrap] 53)
  have R1 := Lib.hid (show RowAt (w.alloc (.cells #[.slice A n c, .bool wrap] 53)) w.heap.size (.slice A n c) wrap from heap_alloc_new w _)
  have MW := Lib.hid (packMay_walk A n c wrap l (w.alloc (.cells #[.slice A n c, .bool wrap] 53)) (hs.below b1 hs.size) hl ((hq.below b1).up b1.size) hn)
  have Q := Lib.hid hq
  have B1 := Lib.hid b1
  obtain ⟨mb, hmb⟩ : ∃ mb, mayL l = mb := ⟨_, rfl⟩
  rw [hmb] at MW ⊢
  clear b1 hq hs hl hmb
  go_enter Tryz.func41, Tryz.ntmps41
  go_wp2_with fail
  refine MW.out.mono ?_
  rintro e w2 ⟨rfl, b2⟩
  have B2 := Lib.hid (B1.out.trans (b2.mono B1.out.size))
  have R2 := Lib.hid (show RowAt w2 w.heap.size (.slice A n c) wrap from (b2.block _ R1.out.lt).trans R1.out)
  have k0 : w2.cell? ⟨w.heap.size, 0, none⟩ = some (.slice A n c) := R2.out.get 0
  clear b2 MW R1 B1
  cases mb with
  | false =>
    go_wp2
    go_ret
    exact ⟨rfl, B2.out⟩
  | true =>
    have TW := Lib.hid (trim_walk A n c hc l w2 (by omega) ((Q.out.below B2.out).up B2.out.size))
    go_wp2_with fail
    refine TW.out.mono ?_
    rintro e w3 ⟨v3, rfl, h3, b3⟩
    have B3 := Lib.hid (B2.out.trans (b3.mono B2.out.size))
    obtain ⟨A3, c3, rfl, _⟩ := HasC.shape h3
    clear h3 b3 TW
    go_wp2
    go_ret
    exact ⟨rfl, B3.out⟩
set_option maxRecDepth 100000 in
set_option maxHeartbeats 1600000 in
theorem rowFirst_walk (A : Option Addr) (n c : Nat) (wrap : Bool) (l : List Cel) (col : Int) (w : World) (hs : Spans w) (hl : ∀ c ∈ l, -2147483648 ≤ c.1 ∧ c.1 ≤ 2147483647) (hq : Sq w w.heap.size 3 n A (flat l)) (hn : n ≤ 1000000) (hg : Rw.Good l) (h300 : l.length ≤ 300) :
    Calls Tryz.prog 44 #[rowV A n c wrap, .int .i64 col] w fun e w' => e = .returned (.int .i64 (Rw.firstOf l col)) ∧ Below w.heap.size w w' := by
  have hln : l.length = n := by have := hq.len; rw [flat_length] at this; omega
  have hm : mayL l = true := (Rw.mayL_iff l).2 ⟨h300, hg⟩
  have b1 := (Below.refl w.heap.size w).alloc (Nat.le_refl _) (.cells #[.slice A n c, .bool wrap] 53)
  have R1 := Lib.hid (show RowAt (w.alloc (.cells #[.slice A n c, .bool wrap] 53)) w.heap.size (.slice A n c) wrap from heap_alloc_new w _)
  have MW := Lib.hid (packMay_walk A n c wrap l (w.alloc (.cells #[.slice A n c, .bool wrap] 53)) (hs.below b1 hs.size) hl ((hq.below b1).up b1.size) hn)
  rw [hm] at MW
  have Q := Lib.hid hq
  have B1 := Lib.hid b1
  have LN := Lib.hid hln
  have G := Lib.hid hg
  clear b1 hq hs hl hln hg hm
  by_cases h0 : n = 0
  · subst h0
    have e : l = [] := List.eq_nil_of_length_eq_zero LN.out
    subst e
    go_enter Tryz.func44, Tryz.ntmps44
    go_wp2
    go_ret
    exact ⟨rfl, B1.out⟩
  · have hnb : ((n : Int) == 0) = false := by simp; omega
    obtain ⟨k, hk⟩ : ∃ k : Nat, min (max col 0) ((n : Int) - 1) = (k : Int) := ⟨(min (max col 0) ((n : Int) - 1)).toNat, by omega⟩
    have hkn : k < n := by omega
    have hk0 : (0 : Int) ≤ (k : Int) := by omega
    have hki : (k : Int) < (n : Int) := by omega
    have FO := Lib.hid (show Rw.firstOf l col = if (Rw.cAt l k).2.1 = 0 then (k : Int) - 1 else (k : Int) by
      unfold Rw.firstOf
      rw [LN.out, if_neg h0, hk, Int.toNat_natCast])
    have PK := Lib.hid (show (Rw.cAt l k).2.1 = 0 → 0 < k from fun e => (G.out.ahead e).1)
    obtain ⟨x, hx⟩ : ∃ x, Rw.cAt l k = x := ⟨_, rfl⟩
    have hxs : l[k]? = some x := by rw [← hx]; exact Rw.cAt_get (by rw [LN.out]; exact hkn)
    rw [hx] at FO PK
    go_enter Tryz.func44, Tryz.ntmps44
    go_wp2_with fail
    refine MW.out.mono ?_
    rintro e w2 ⟨rfl, b2⟩
    have B2 := Lib.hid (B1.out.trans (b2.mono B1.out.size))
    have R2 := Lib.hid (show RowAt w2 w.heap.size (.slice A n c) wrap from (b2.block _ R1.out.lt).trans R1.out)
    have k0 : w2.cell? ⟨w.heap.size, 0, none⟩ = some (.slice A n c) := R2.out.get 0
    obtain ⟨bq, off, rfl, _, x', hx', _, hw1, _⟩ := (Q.out.below B2.out).three hkn
    rw [hxs] at hx'
    injection hx' with hx'
    subst hx'
    clear b2 MW R1 B1 hx hxs
    by_cases hz : x.2.1 = 0
    · have hzb : (x.2.1 == 0) = true := by simp; omega
      have hkp := PK.out hz
      rw [if_pos hz] at FO
      have hk1 : IntKind.i64.wrap ((k : Int) - 1) = (k : Int) - 1 := IntWalk.i64_in _ (by omega)
      go_wp2
      go_ret
      exact ⟨by rw [FO.out]; rfl, B2.out⟩
    · have hzb : (x.2.1 == 0) = false := by simp; omega
      rw [if_neg hz] at FO
      go_wp2
      go_ret
      exact ⟨by rw [FO.out]; rfl, B2.out⟩
end Go.Proofs.YtibihjcpkdfgeaaGreatDoor
namespace Go.Proofs.YtibihjcpkdfgeaaGreatDoor
open Go.ChangeShapes Go.WideShapes Go.ChangeAt Go.RowKit
namespace Rw

theorem run_copy_three {P : Program} (w : World) (dT sT ty elem : TypeId) (i : TypeInfo) (g o dLen dCap : Nat) (a : Addr) (sLen sCap : Nat) (cur : Array Value) (t : TypeId) (cs : List Value)
    (hu : P.underlying dT = some (.slice elem)) (hi : P.info? elem = some i) (hsz : i.size = 3)
    (hg : w.heap[g]? = some (.cells cur t (0, 0))) (hn : cs.length = Nat.min sLen dLen * 3)
    (hsrc : ∀ j v, cs[j]? = some v → w.cell? (a.add j) = some v) (hfit : o + cs.length ≤ cur.size) (h1 : ∀ v ∈ cs, v.oneCell' = true) :
    (Builtin.copy_ #[dT, sT] ty #[.slice (some ⟨g, o, none⟩) dLen dCap, .slice (some a) sLen sCap]).run P w =
      .ok (goInt (Nat.min sLen dLen)) (w.setRow g (cur.toList.take o ++ cs ++ cur.toList.drop (o + cs.length)).toArray) := by
  have hl := run_loadCells_list (P := P) w a cs hsrc
  have hst := run_storeCells_at P g o t cs 0 cur w hg (by simpa using hfit) h1
  simp [Builtin.copy_, run_underlying hu, Builtin.lenOf, Builtin.firstCells, sizeOf, typeInfo, hi, hsz, ← hn, hl, hst]
theorem wpl_copy_three {P : Program} {w : World} {ops : Array Oper} {rest : List Oper} {o : Oper} {a : Act} {Q : Exit → Act → World → Prop} (hgd : o.guard = none) (d s : Operand) (dT sT : TypeId)
    (ho : o.op = .call { callee := .builtin .copy, args := #[d, s], argTypes := #[dT, sT] }) (elem : TypeId) (i : TypeInfo) (hu : P.underlying dT = some (.slice elem)) (hi : P.info? elem = some i) (hsz : i.size = 3)
    (g off dLen dCap : Nat) (ad : Addr) (sLen sCap : Nat) (hd : a.eval d = .slice (some ⟨g, off, none⟩) dLen dCap) (hs : a.eval s = .slice (some ad) sLen sCap)
    (cur : Array Value) (t : TypeId) (hg : w.heap[g]? = some (.cells cur t (0, 0))) (cs : List Value) (hn : cs.length = Nat.min sLen dLen * 3)
    (hsrc : ∀ j v, cs[j]? = some v → w.cell? (ad.add j) = some v) (hfit : off + cs.length ≤ cur.size) (h1 : ∀ v ∈ cs, v.oneCell' = true)
    (h : wpList P ops Q rest (a.put o.dst (goInt (Nat.min sLen dLen))) (w.setRow g (cur.toList.take off ++ cs ++ cur.toList.drop (off + cs.length)).toArray)) :
    wpList P ops Q (o :: rest) a w := by
  refine wpList_plain hgd fun K hK => ?_
  have hr := run_copy_three (P := P) w dT sT o.type elem i g off dLen dCap ad sLen sCap cur t cs hu hi hsz hg hn hsrc hfit h1
  unfold Oper.wp execOp
  simp only [ho, resolve, invoke, builtin, Sem.run_bind, Sem.run_pure, Result.andThen_ok, List.map_toArray, List.map_cons, List.map_nil, hd, hs, hr]
  exact hK _ _ h
theorem flat_set : ∀ (l : List Cel) (k : Nat) (r m a : Int), (((flat l).set (k * 3) (.int .i32 r)).set (k * 3 + 1) (.int .i64 m)).set (k * 3 + 2) (.int .i64 a) = flat (l.set k (r, m, a))
  | [], k, r, m, a => by simp [flat]
  | c :: l, 0, r, m, a => by simp [flat]
  | c :: l, k + 1, r, m, a => by
    have h := flat_set l k r m a
    have e : flat (c :: l) = .int .i32 c.1 :: .int .i64 c.2.1 :: .int .i64 c.2.2 :: flat l := by simp [flat]
    have e' : flat (c :: l.set k (r, m, a)) = .int .i32 c.1 :: .int .i64 c.2.1 :: .int .i64 c.2.2 :: flat (l.set k (r, m, a)) := by simp [flat]
    rw [List.set_cons_succ, e, e', ← h, show (k + 1) * 3 = k * 3 + 1 + 1 + 1 by omega]
    rfl
/-- A row of cells in a block, with room behind it. -/
structure RowIn' (w : World) (b : Nat) (l : List Cel) (tail : List Value) : Prop where
  heap : w.heap[b]? = some (.cells (flat l ++ tail).toArray 67 (0, 0))
theorem RowIn'.cell {w : World} {b : Nat} {l : List Cel} {tail : List Value} (h : RowIn' w b l tail) {k : Nat} (hk : k < l.length) :
    w.cell? ⟨b, k * 3, none⟩ = some (.int .i32 (cAt l k).1) ∧ w.cell? ⟨b, k * 3 + 1, none⟩ = some (.int .i64 (cAt l k).2.1) ∧ w.cell? ⟨b, k * 3 + 2, none⟩ = some (.int .i64 (cAt l k).2.2) := by
  have hb : b < w.heap.size := (Array.getElem?_eq_some_iff.1 h.heap).1
  have hq : Sq w w.heap.size 3 l.length (some ⟨b, 0, none⟩) (flat l) := ⟨flat_length l, fun _ => ⟨b, 0, rfl, hb, fun j u hu => by
    rw [Nat.zero_add, cell_of_row _ b j _ _ (0, 0) h.heap]
    have hj := (List.getElem?_eq_some_iff.1 hu).1
    rw [List.getElem?_toArray, List.getElem?_append_left hj]
    exact hu⟩⟩
  have := hq.cellsAt (cAt_get hk)
  simpa using this
theorem RowIn'.free {w : World} {b : Nat} {l : List Cel} {tail : List Value} (h : RowIn' w b l tail) (j : Nat) : w.frozen? ⟨b, j, none⟩ = false := frozen_of_row w b j _ _ h.heap
theorem RowIn'.set {w : World} {b : Nat} {l : List Cel} {tail : List Value} (h : RowIn' w b l tail) {k : Nat} (hk : k < l.length) (r m a : Int) :
    RowIn' (((w.setCell ⟨b, k * 3, none⟩ (.int .i32 r)).setCell ⟨b, k * 3 + 1, none⟩ (.int .i64 m)).setCell ⟨b, k * 3 + 2, none⟩ (.int .i64 a)) b (l.set k (r, m, a)) tail := by
  have h0 := heap_setCell_same w b (k * 3) _ _ (.int .i32 r) h.heap
  have h1 := heap_setCell_same _ b (k * 3 + 1) _ _ (.int .i64 m) h0
  have h2 := heap_setCell_same _ b (k * 3 + 2) _ _ (.int .i64 a) h1
  refine ⟨?_⟩
  rw [h2]
  have hl := flat_length l
  have e : ((((flat l ++ tail).toArray.setIfInBounds (k * 3) (.int .i32 r)).setIfInBounds (k * 3 + 1) (.int .i64 m)).setIfInBounds (k * 3 + 2) (.int .i64 a)) = (flat (l.set k (r, m, a)) ++ tail).toArray := by
    rw [← flat_set]
    simp only [List.setIfInBounds_toArray]
    congr 1
    rw [List.set_append_left _ _ (by omega), List.set_append_left _ _ (by rw [List.length_set]; omega), List.set_append_left _ _ (by rw [List.length_set, List.length_set]; omega)]
  rw [e]
theorem RowIn'.only (w : World) (b k : Nat) (r m a : Value) : OnlyRow b w (((w.setCell ⟨b, k * 3, none⟩ r).setCell ⟨b, k * 3 + 1, none⟩ m).setCell ⟨b, k * 3 + 2, none⟩ a) :=
  ((OnlyRow.cell b (k * 3) w r).trans (OnlyRow.cell b (k * 3 + 1) _ m)).trans (OnlyRow.cell b (k * 3 + 2) _ a)
theorem RowIn'.below {w w' : World} {b : Nat} {l : List Cel} {tail : List Value} (h : RowIn' w b l tail) (hb : Below w.heap.size w w') : RowIn' w' b l tail := ⟨(hb.block b (Array.getElem?_eq_some_iff.1 h.heap).1).trans h.heap⟩
/-- L copied over the cells from k on. -/
theorem RowIn'.copied {w : World} {b : Nat} {l : List Cel} {tail : List Value} (h : RowIn' w b l tail) {k : Nat} {L : List Cel} (hL : k + L.length ≤ l.length) :
    RowIn' (w.setRow b ((flat l ++ tail).toArray.toList.take (k * 3) ++ flat L ++ (flat l ++ tail).toArray.toList.drop (k * 3 + (flat L).length)).toArray) b (putO l k L) tail := by
  refine ⟨?_⟩
  rw [setRow_heap w b _ _ _ _ h.heap]
  have hl := flat_length l
  have hL' := flat_length L
  have e : (flat l ++ tail).toArray.toList.take (k * 3) ++ flat L ++ (flat l ++ tail).toArray.toList.drop (k * 3 + (flat L).length) = flat (putO l k L) ++ tail := by
    have hd : (flat l).drop (k * 3 + L.length * 3) = flat (l.drop (k + L.length)) := by
      rw [show k * 3 + L.length * 3 = (k + L.length) * 3 by omega]
      have h1 : flat l = flat (l.take (k + L.length)) ++ flat (l.drop (k + L.length)) := by rw [← flat_append, List.take_append_drop]
      rw [h1, List.drop_append_of_le_length (by rw [flat_length, List.length_take]; omega), List.drop_of_length_le (by rw [flat_length, List.length_take]; omega), List.nil_append]
    unfold putO
    rw [flat_append, flat_append, flat_take, List.take_append_of_le_length (by omega), List.drop_append_of_le_length (by omega), hL', hd]
    simp [List.append_assoc]
  rw [e]
end Rw
end Go.Proofs.YtibihjcpkdfgeaaGreatDoor
namespace Go.Proofs.YtibihjcpkdfgeaaGreatDoor
open Go.ChangeShapes Go.WideShapes Go.ChangeAt Go.RowKit
namespace Rw

theorem onlyRow (g : Nat) (w : World) (cs : Array Value) : OnlyRow g w (w.setRow g cs) := ⟨rfl, rfl, rfl, by simp [World.setRow], fun k hk => setRow_other w g k cs hk⟩
theorem RowIn'.lt {w : World} {b : Nat} {l : List Cel} {tail : List Value} (h : RowIn' w b l tail) : b < w.heap.size := (Array.getElem?_eq_some_iff.1 h.heap).1
set_option maxRecDepth 100000 in
set_option maxHeartbeats 6400000 in
theorem overwrite_walk (b n c k b2 o2 m c2 : Nat) (l L : List Cel) (tail : List Value) (w : World) (h : RowIn' w b l tail) (hln : l.length = n) (hnc : n ≤ c) (hn : n ≤ 1000000) (hg : Good l) (hm : L.length = m) (hm0 : 0 < m) (hk : k + m ≤ n)
    (hsrc : ∀ W', Turned (· = b) w W' → ∀ j u, (flat L)[j]? = some u → W'.cell? ((⟨b2, o2, none⟩ : Addr).add j) = some u) :
    Calls Tryz.prog 76 #[.slice (some ⟨b, 0, none⟩) n c, .int .i64 (k : Int), .slice (some ⟨b2, o2, none⟩) m c2] w fun e w' => (∃ y, e = .returned y) ∧ RowIn' w' b (ovL l k L) tail ∧ Turned (· = b) w w' := by
  obtain ⟨i0, hi0, hz0, hz1, hz2⟩ := info_parts infoCell
  have H := Lib.hid h
  have G := Lib.hid hg
  have LN := Lib.hid hln
  have LM := Lib.hid hm
  have SRC := Lib.hid hsrc
  obtain ⟨x, hx⟩ : ∃ x, (cAt l k).2.1 = x := ⟨_, rfl⟩
  have c1 : w.cell? ⟨b, k * 3 + 1, none⟩ = some (.int .i64 x) := by rw [← hx]; exact (h.cell (by omega)).2.1
  have hk0 : (0 : Int) ≤ (k : Int) := by omega
  have hkn : (k : Int) < (n : Int) := by omega
  have hbl := h.lt
  have X := Lib.hid hx
  have hsum : IntKind.i64.wrap ((k : Int) + (m : Int)) = ((k + m : Nat) : Int) := by rw [IntWalk.i64_in _ (by omega)]; omega
  clear h hg hln hm hsrc hx
  go_enter Tryz.func76, Tryz.ntmps76
  go_upto_if 16 with fail
  go_cut [6] from 7 to 37 (fun s6 wx => s6 = .int .i64 ((k + m : Nat) : Int) ∧ Hid (RowIn' wx b (codeO1 l k) tail) ∧ Hid (Turned (· = b) w wx))
  case first =>
    by_cases hx0 : x = 0
    · obtain ⟨j, hj⟩ : ∃ j, k = j + 1 := ⟨k - 1, by have := (G.out.ahead (by rw [X.out]; exact hx0)).1; omega⟩
      subst hj
      have e : codeO1 l (j + 1) = l.set j (32, 1, 0) := by unfold codeO1; rw [X.out, if_pos hx0, Nat.add_sub_cancel]
      have hj0 : (0 : Int) ≤ (j : Int) := by omega
      have hjn : (j : Int) < (n : Int) := by omega
      have hj1 : ((j + 1 : Nat) : Int) - 1 = (j : Int) := by omega
      have BW := Lib.hid (blank_walk w)
      go_wp2_with fail
      refine BW.out.mono ?_
      rintro e2 w2 ⟨rfl, b2'⟩
      have R2 := Lib.hid (H.out.below b2')
      have T2 := Lib.hid (Turned.ofBelow b2' (· = b))
      have y0 := (R2.out.cell (k := j) (by rw [LN.out]; omega)).1
      have y1 := (R2.out.cell (k := j) (by rw [LN.out]; omega)).2.1
      have y2 := (R2.out.cell (k := j) (by rw [LN.out]; omega)).2.2
      have f0 := R2.out.free (j * 3)
      have f1 := R2.out.free (j * 3 + 1)
      have f2 := R2.out.free (j * 3 + 2)
      clear b2' BW
      go_wp2_with fail
      go_meet
      exact ⟨rfl, by rw [e]; exact Lib.hid (R2.out.set (by rw [LN.out]; omega) 32 1 0), Lib.hid (T2.out.trans (Turned.ofOnly (RowIn'.only _ b j _ _ _)) (fun _ _ e => e))⟩
    · have hxb : (x == 0) = false := by simp; omega
      have e : codeO1 l k = l := by unfold codeO1; rw [X.out, if_neg hx0]
      go_wp2_with fail
      go_meet
      exact ⟨rfl, by rw [e]; exact H, Lib.hid (Turned.refl _ _)⟩
  case rest =>
    obtain ⟨rfl, R1, T1⟩ := hcut
    have L1 := Lib.hid (codeO1_length l k)
    obtain ⟨y, hy⟩ : ∃ y, (cAt (codeO1 l k) (k + m - 1)).2.1 = y := ⟨_, rfl⟩
    have Y := Lib.hid hy
    obtain ⟨q, hq⟩ : ∃ q, k + m = q + 1 := ⟨k + m - 1, by omega⟩
    have hqq : k + m - 1 = q := by omega
    rw [hqq] at hy
    have c2' : wc.cell? ⟨b, q * 3 + 1, none⟩ = some (.int .i64 y) := by rw [← hy]; exact (R1.out.cell (by rw [L1.out, LN.out]; omega)).2.1
    have hq0 : (0 : Int) ≤ (q : Int) := by omega
    have hqn : (q : Int) < (n : Int) := by omega
    have hq1 : ((k + m : Nat) : Int) - 1 = (q : Int) := by omega
    have hbc := R1.out.lt
    clear hy c1
    go_upto_if 28 with fail
    go_cut [6] from 7 to 37 (fun s6 wx => s6 = .int .i64 ((k + m : Nat) : Int) ∧ Hid (RowIn' wx b (codeO2 l k m) tail) ∧ Hid (Turned (· = b) w wx))
    case first =>
      by_cases hy2 : y = 2
      · have e : codeO2 l k m = (codeO1 l k).set (k + m) (32, 1, 0) := by unfold codeO2; rw [Y.out, if_pos hy2]
        have hin : k + m < n := by
          have h2 : (cAt l (k + m - 1)).2.1 = 2 := by
            have h3 := Y.out
            rw [cAt_codeO1 G.out, if_neg (by omega)] at h3
            rw [h3]; exact hy2
          have := G.out.inside h2
          have := LN.out
          omega
        have hin' : ((k + m : Nat) : Int) < (n : Int) := by omega
        have hin0 : (0 : Int) ≤ ((k + m : Nat) : Int) := by omega
        have BW := Lib.hid (blank_walk wc)
        have SET := Lib.hid (fun W (h : RowIn' W b (codeO1 l k) tail) => (show RowIn' _ b (codeO2 l k m) tail by rw [e]; exact h.set (k := k + m) (by rw [L1.out, LN.out]; exact hin) 32 1 0))
        obtain ⟨z, hz⟩ : ∃ z, k + m = z := ⟨_, rfl⟩
        rw [hz] at SET hin hin' hin0 ⊢
        clear e
        go_wp2_with fail
        refine BW.out.mono ?_
        rintro e2 w2 ⟨rfl, b2'⟩
        have R2 := Lib.hid (R1.out.below b2')
        have T2 := Lib.hid (T1.out.trans (Turned.ofBelow b2' (· = b)) (fun _ _ e => e))
        have y0 := (R2.out.cell (k := z) (by rw [L1.out, LN.out]; exact hin)).1
        have y1 := (R2.out.cell (k := z) (by rw [L1.out, LN.out]; exact hin)).2.1
        have y2 := (R2.out.cell (k := z) (by rw [L1.out, LN.out]; exact hin)).2.2
        have f0 := R2.out.free (z * 3)
        have f1 := R2.out.free (z * 3 + 1)
        have f2 := R2.out.free (z * 3 + 2)
        clear b2' BW
        go_wp2_with fail
        go_meet
        exact ⟨by rw [hz], Lib.hid (SET.out _ R2.out), Lib.hid (T2.out.trans (Turned.ofOnly (RowIn'.only _ b z _ _ _)) (fun _ _ e => e))⟩
      · have hyb : (y == 2) = false := by simp; omega
        have e : codeO2 l k m = codeO1 l k := by unfold codeO2; rw [Y.out, if_neg hy2]
        go_wp2_with fail
        go_meet
        exact ⟨rfl, by rw [e]; exact R1, T1⟩
    case rest =>
      clear R1 T1 c2'
      obtain ⟨rfl, R2, T2⟩ := hcut
      have L2 := Lib.hid (codeO2_length l k m)
      have EQ := Lib.hid (show putO (codeO2 l k m) k L = ovL l k L by
        have := code_eq G.out (k := k) (L := L) (by rw [LM.out]; exact hm0) (by rw [LM.out, LN.out]; exact hk)
        rwa [LM.out] at this)
      have SC := Lib.hid (SRC.out wc T2.out)
      have hkc : (k : Int) ≤ (c : Int) := by omega
      have hck : c - k ≠ 0 := by omega
      have hmin : Nat.min m (n - k) = m := Nat.min_eq_left (by omega)
      have CP := run_copy_three (P := Tryz.prog) wc 51 51 3 67 i0 b (k * 3) (n - k) (c - k) ⟨b2, o2, none⟩ m c2 _ 67 (flat L) Tryz.underlying51 hi0 hz1 R2.out.heap (by rw [flat_length, LM.out, hmin]) SC.out (by have h1 := flat_length (codeO2 l k m); have h2 := flat_length L; rw [L2.out, LN.out] at h1; rw [LM.out] at h2; simp; omega) (flat_one L)
      have R3 := Lib.hid (R2.out.copied (k := k) (L := L) (by rw [L2.out, LN.out, LM.out]; exact hk))
      obtain ⟨w3, hw3⟩ : ∃ w3, wc.setRow b ((flat (codeO2 l k m) ++ tail).toArray.toList.take (k * 3) ++ flat L ++ (flat (codeO2 l k m) ++ tail).toArray.toList.drop (k * 3 + (flat L).length)).toArray = w3 := ⟨_, rfl⟩
      have T3 := Lib.hid (show Turned (· = b) w w3 by rw [← hw3]; exact T2.out.trans (Turned.ofOnly (onlyRow b _ _)) (fun _ _ e => e))
      rw [hw3] at CP R3
      rw [EQ.out] at R3
      clear hw3
      go_wp2
      go_end0
      exact ⟨⟨_, rfl⟩, R3.out, T3.out⟩
end Rw
end Go.Proofs.YtibihjcpkdfgeaaGreatDoor
namespace Go.Proofs.YtibihjcpkdfgeaaGreatDoor
open Go.ChangeShapes Go.WideShapes Go.ChangeAt Go.RowKit
namespace Rw

def oneL : List Ord.Line := [
  (some 16, Go.Op.move (Go.Operand.tmp 3), none, []),
  (some 17, Go.Op.move (Go.Operand.tmp 16), none, [0]),
  (some 18, Go.Op.move (Go.Operand.tmp 0), some (1, false), [1]),
  (some 19, Go.Op.move (Go.Operand.tmp 0), some (1, false), [1]),
  (some 20, Go.Op.indexAddr 51 (Go.Operand.tmp 19) (Go.Operand.const (Go.Value.int Go.IntKind.i64 0)), some (1, false), [3, 1]),
  (some 21, Go.Op.fieldAddr 67 (Go.Operand.tmp 20) 0, some (1, false), [4, 1]),
  (some 22, Go.Op.load 21 (Go.Operand.tmp 21), some (1, false), [5, 1]),
  (some 23, Go.Op.move (Go.Operand.tmp 0), some (1, false), [1]),
  (some 24, Go.Op.indexAddr 51 (Go.Operand.tmp 23) (Go.Operand.const (Go.Value.int Go.IntKind.i64 0)), some (1, false), [7, 1]),
  (some 25, Go.Op.fieldAddr 67 (Go.Operand.tmp 24) 2, some (1, false), [8, 1]),
  (some 26, Go.Op.load 3 (Go.Operand.tmp 25), some (1, false), [9, 1]),
  (some 27, Go.Op.call { callee := Go.Callee.value (Go.Operand.func 106), args := #[Go.Operand.tmp 22, Go.Operand.tmp 26], argTypes := #[21, 3] }, some (1, false), [6, 10, 1, 1]),
  (some 28, Go.Op.call { callee := Go.Callee.value (Go.Operand.func 105), args := #[Go.Operand.tmp 18, Go.Operand.tmp 27], argTypes := #[51, 51] }, some (1, false), [2, 11, 11, 1]),
  (some 29, Go.Op.pick (Go.Operand.tmp 17) (Go.Operand.const (Go.Value.bool true)) (Go.Operand.tmp 28), none, [1, 12]),
  (some 2, Go.Op.assign (Go.Operand.tmp 29), none, [13, 12, 0, 1, 2, 3, 4, 5, 6, 7, 8, 9, 10, 11, 12, 13])]

/-- The slots that are known all the way. -/
structure OneFr0 (b2 o2 m c2 : Nat) (a : Act) : Prop where
  size : a.tmps.size = 30
  defers : a.defers = []
  s0 : Chain.At a 0 (.slice (some ⟨b2, o2, none⟩) m c2)
  s3 : Chain.At a 3 (.bool false)
theorem OneFr0.next {b2 o2 m c2 : Nat} {a a' : Act} {d : Nat} {v : Value} (F : OneFr0 b2 o2 m c2 a) (nx : Chain.Next a a' d v) (h : d ≠ 0 ∧ d ≠ 3) : OneFr0 b2 o2 m c2 a' := ⟨nx.size.trans F.size, nx.defers.trans F.defers, nx.keep 0 _ h.1 F.s0, nx.keep 3 _ h.2 F.s3⟩
theorem OneFr0.lt {b2 o2 m c2 : Nat} {a : Act} {d : Nat} (F : OneFr0 b2 o2 m c2 a) (h : d < 30) : d < a.tmps.size := by rw [F.size]; exact h

set_option maxRecDepth 100000 in
theorem one_no {ops : Array Oper} {Q : Exit → Act → World → Prop} (R : Ord.Reg ops oneL) (hQ : ∀ c a w d v, Q (.panic c) (Act.put a (some d) v) w → Q (.panic c) a w) {w1 : World} {b2 o2 m c2 : Nat}
    {r x : Int} {q : Bool} {Lo : List Cel} (hm0 : 0 < m) (cr : ∀ w, Below w1.heap.size w1 w → w.cell? ⟨b2, o2, none⟩ = some (.int .i32 r)) (cx : ∀ w, Below w1.heap.size w1 w → w.cell? ⟨b2, o2 + 2, none⟩ = some (.int .i64 x))
    (OF : ∀ w, Below w1.heap.size w1 w → Calls Tryz.prog 106 #[.int .i32 r, .int .i64 x] w fun e w' => OfPost Lo w e w')
    (EW : ∀ (w : World) (A3 : Option Addr) (c3 : Nat) {base : Nat}, Below w1.heap.size w1 w → HasC w base (.slice A3 Lo.length c3) Lo → Calls Tryz.prog 105 #[.slice (some ⟨b2, o2, none⟩) m c2, .slice A3 Lo.length c3] w fun e w' => e = .returned (.bool q) ∧ Below w.heap.size w w')
    (a : Act) (F : OneFr0 b2 o2 m c2 a) (h : ∀ a w, Below w1.heap.size w1 w → OneFr0 b2 o2 m c2 a → Chain.At a 2 (.bool q) → Q .normal a w) (w : World) (hS : Below w1.heap.size w1 w) :
    wpAnyH Tryz.prog .any ops Q (fun w => Below w1.heap.size w1 w) 15 (List.replicate 15 false).toArray a w := by
  refine Ord.take R (k := 0) (v := .bool false) (bs' := (Ord.upto 1 15)) rfl (by kernel_rfl) hQ trivial hS (fun w _ hS => Chain.ev_move F.s3.ev) (F.lt (by decide)) fun a0 N => ?_
  replace F := F.next N (by decide)
  have f16 := N.got
  clear N a
  refine Ord.take R (k := 1) (v := .bool false) (bs' := (Ord.upto 2 15)) rfl (by kernel_rfl) hQ trivial hS (fun w _ hS => Chain.ev_move f16.ev) (F.lt (by decide)) fun a1 N => ?_
  replace F := F.next N (by decide)
  clear f16
  have f17 := N.got
  clear N a0
  refine Ord.take R (k := 2) (v := .slice (some ⟨b2, o2, none⟩) m c2) (bs' := (Ord.upto 3 15)) rfl (by kernel_rfl) hQ (R.opened (j := 1) rfl f17) hS (fun w _ hS => Chain.ev_move F.s0.ev) (F.lt (by decide)) fun a2 N => ?_
  replace F := F.next N (by decide)
  replace f17 := N.keep 17 _ (by decide) f17
  have f18 := N.got
  clear N a1
  refine Ord.take R (k := 3) (v := .slice (some ⟨b2, o2, none⟩) m c2) (bs' := (Ord.upto 4 15)) rfl (by kernel_rfl) hQ (R.opened (j := 1) rfl f17) hS (fun w _ hS => Chain.ev_move F.s0.ev) (F.lt (by decide)) fun a3 N => ?_
  replace F := F.next N (by decide)
  replace f17 := N.keep 17 _ (by decide) f17
  replace f18 := N.keep 18 _ (by decide) f18
  have f19 := N.got
  clear N a2
  refine Ord.take R (k := 4) (v := .pointer (some ⟨b2, o2, none⟩)) (bs' := (Ord.upto 5 15)) rfl (by kernel_rfl) hQ (R.opened (j := 1) rfl f17) hS (fun w _ hS => by have e19 := f19; unfold Chain.At at e19; have q0 := hm0; clear F; go_simp) (F.lt (by decide)) fun a4 N => ?_
  replace F := F.next N (by decide)
  replace f17 := N.keep 17 _ (by decide) f17
  replace f18 := N.keep 18 _ (by decide) f18
  clear f19
  have f20 := N.got
  clear N a3
  refine Ord.take R (k := 5) (v := .pointer (some ⟨b2, o2, none⟩)) (bs' := (Ord.upto 6 15)) rfl (by kernel_rfl) hQ (R.opened (j := 1) rfl f17) hS (fun w _ hS => by have e20 := f20; unfold Chain.At at e20; clear F; go_simp) (F.lt (by decide)) fun a5 N => ?_
  replace F := F.next N (by decide)
  replace f17 := N.keep 17 _ (by decide) f17
  replace f18 := N.keep 18 _ (by decide) f18
  clear f20
  have f21 := N.got
  clear N a4
  refine Ord.take R (k := 6) (v := .int .i32 r) (bs' := (Ord.upto 7 15)) rfl (by kernel_rfl) hQ (R.opened (j := 1) rfl f17) hS (fun w _ hS => by have e21 := f21; unfold Chain.At at e21; have q0 := (cr w hS); clear F; go_simp) (F.lt (by decide)) fun a6 N => ?_
  replace F := F.next N (by decide)
  replace f17 := N.keep 17 _ (by decide) f17
  replace f18 := N.keep 18 _ (by decide) f18
  clear f21
  have f22 := N.got
  clear N a5
  refine Ord.take R (k := 7) (v := .slice (some ⟨b2, o2, none⟩) m c2) (bs' := (Ord.upto 8 15)) rfl (by kernel_rfl) hQ (R.opened (j := 1) rfl f17) hS (fun w _ hS => Chain.ev_move F.s0.ev) (F.lt (by decide)) fun a7 N => ?_
  replace F := F.next N (by decide)
  replace f17 := N.keep 17 _ (by decide) f17
  replace f18 := N.keep 18 _ (by decide) f18
  replace f22 := N.keep 22 _ (by decide) f22
  have f23 := N.got
  clear N a6
  refine Ord.take R (k := 8) (v := .pointer (some ⟨b2, o2, none⟩)) (bs' := (Ord.upto 9 15)) rfl (by kernel_rfl) hQ (R.opened (j := 1) rfl f17) hS (fun w _ hS => by have e23 := f23; unfold Chain.At at e23; have q0 := hm0; clear F; go_simp) (F.lt (by decide)) fun a8 N => ?_
  replace F := F.next N (by decide)
  replace f17 := N.keep 17 _ (by decide) f17
  replace f18 := N.keep 18 _ (by decide) f18
  replace f22 := N.keep 22 _ (by decide) f22
  clear f23
  have f24 := N.got
  clear N a7
  refine Ord.take R (k := 9) (v := .pointer (some ⟨b2, o2 + 2, none⟩)) (bs' := (Ord.upto 10 15)) rfl (by kernel_rfl) hQ (R.opened (j := 1) rfl f17) hS (fun w _ hS => by have e24 := f24; unfold Chain.At at e24; clear F; go_simp) (F.lt (by decide)) fun a9 N => ?_
  replace F := F.next N (by decide)
  replace f17 := N.keep 17 _ (by decide) f17
  replace f18 := N.keep 18 _ (by decide) f18
  replace f22 := N.keep 22 _ (by decide) f22
  clear f24
  have f25 := N.got
  clear N a8
  refine Ord.take R (k := 10) (v := .int .i64 x) (bs' := (Ord.upto 11 15)) rfl (by kernel_rfl) hQ (R.opened (j := 1) rfl f17) hS (fun w _ hS => by have e25 := f25; unfold Chain.At at e25; have q0 := (cx w hS); clear F; go_simp) (F.lt (by decide)) fun a10 N => ?_
  replace F := F.next N (by decide)
  replace f17 := N.keep 17 _ (by decide) f17
  replace f18 := N.keep 18 _ (by decide) f18
  replace f22 := N.keep 22 _ (by decide) f22
  clear f25
  have f26 := N.got
  clear N a9
  refine Ord.call R (k := 11) (args := #[.int .i32 r, .int .i64 x]) (bs' := (Ord.upto 12 15)) rfl (by kernel_rfl) (R.opened (j := 1) rfl f17) (by simp [f22.ev, f26.ev]) (by kernel_rfl) (OF _ hS) (F.lt (by decide)) ?_
  rintro e w ⟨v3, rfl, h3, b3⟩
  obtain ⟨A3, c3, rfl, _⟩ := HasC.shape h3
  have hS3 := hS.trans (b3.mono hS.size)
  have EQ := EW _ _ _ hS3 h3
  replace hS := hS3
  refine ⟨_, rfl, hS, fun a11 N => ?_⟩
  replace F := F.next N (by decide)
  replace f17 := N.keep 17 _ (by decide) f17
  replace f18 := N.keep 18 _ (by decide) f18
  clear f22
  clear f26
  have f27 := N.got
  clear N a10
  refine Ord.call R (k := 12) (args := #[.slice (some ⟨b2, o2, none⟩) m c2, .slice A3 Lo.length c3]) (bs' := (Ord.upto 13 15)) rfl (by kernel_rfl) (R.opened (j := 1) rfl f17) (by simp [f18.ev, f27.ev]) (by kernel_rfl) (EQ) (F.lt (by decide)) ?_
  rintro e w ⟨rfl, b4⟩
  replace hS := hS.trans (b4.mono hS.size)
  refine ⟨_, rfl, hS, fun a12 N => ?_⟩
  replace F := F.next N (by decide)
  replace f17 := N.keep 17 _ (by decide) f17
  clear f18
  clear f27
  have f28 := N.got
  clear N a11
  refine Ord.take R (k := 13) (v := .bool q) (bs' := (Ord.upto 14 15)) rfl (by kernel_rfl) hQ trivial hS (fun w _ hS => Ord.ev_pick_no f17.ev f28.ev) (F.lt (by decide)) fun a13 N => ?_
  replace F := F.next N (by decide)
  clear f17
  clear f28
  have f29 := N.got
  clear N a12
  refine Ord.take R (k := 14) (v := .bool q) (bs' := (Ord.upto 15 15)) rfl (by kernel_rfl) hQ trivial hS (fun w _ hS => Chain.ev_assign f29.ev) (F.lt (by decide)) fun a14 N => ?_
  replace F := F.next N (by decide)
  clear f29
  have f2 := N.got
  clear N a13
  exact Ord.finish R (by kernel_rfl) (h _ _ hS F f2)

/-- The slots that are known all the way. -/
structure OneFr1 (b2 o2 m c2 : Nat) (a : Act) : Prop where
  size : a.tmps.size = 30
  defers : a.defers = []
  s0 : Chain.At a 0 (.slice (some ⟨b2, o2, none⟩) m c2)
  s3 : Chain.At a 3 (.bool true)
theorem OneFr1.next {b2 o2 m c2 : Nat} {a a' : Act} {d : Nat} {v : Value} (F : OneFr1 b2 o2 m c2 a) (nx : Chain.Next a a' d v) (h : d ≠ 0 ∧ d ≠ 3) : OneFr1 b2 o2 m c2 a' := ⟨nx.size.trans F.size, nx.defers.trans F.defers, nx.keep 0 _ h.1 F.s0, nx.keep 3 _ h.2 F.s3⟩
theorem OneFr1.lt {b2 o2 m c2 : Nat} {a : Act} {d : Nat} (F : OneFr1 b2 o2 m c2 a) (h : d < 30) : d < a.tmps.size := by rw [F.size]; exact h

set_option maxRecDepth 100000 in
theorem one_yes {ops : Array Oper} {Q : Exit → Act → World → Prop} (R : Ord.Reg ops oneL) (hQ : ∀ c a w d v, Q (.panic c) (Act.put a (some d) v) w → Q (.panic c) a w) {w1 : World} {b2 o2 m c2 : Nat}
    (a : Act) (F : OneFr1 b2 o2 m c2 a) (h : ∀ a w, Below w1.heap.size w1 w → OneFr1 b2 o2 m c2 a → Chain.At a 2 (.bool true) → Q .normal a w) (w : World) (hS : Below w1.heap.size w1 w) :
    wpAnyH Tryz.prog .any ops Q (fun w => Below w1.heap.size w1 w) 15 (List.replicate 15 false).toArray a w := by
  refine Ord.take R (k := 0) (v := .bool true) (bs' := (Ord.upto 1 15)) rfl (by kernel_rfl) hQ trivial hS (fun w _ hS => Chain.ev_move F.s3.ev) (F.lt (by decide)) fun a0 N => ?_
  replace F := F.next N (by decide)
  have f16 := N.got
  clear N a
  refine Ord.take R (k := 1) (v := .bool true) (bs' := (Ord.upto 2 15)) rfl (by kernel_rfl) hQ trivial hS (fun w _ hS => Chain.ev_move f16.ev) (F.lt (by decide)) fun a1 N => ?_
  replace F := F.next N (by decide)
  clear f16
  have f17 := N.got
  clear N a0
  refine Ord.skip R (k := 2) (bs' := (Ord.upto 3 15)) rfl (by kernel_rfl) hQ (R.shut (j := 1) rfl f17 (Ord.ne_not rfl)) hS (F.lt (by decide)) fun a2 N => ?_
  replace F := F.next N (by decide)
  replace f17 := N.keep 17 _ (by decide) f17
  have f18 := N.got
  clear N a1
  refine Ord.skip R (k := 3) (bs' := (Ord.upto 4 15)) rfl (by kernel_rfl) hQ (R.shut (j := 1) rfl f17 (Ord.ne_not rfl)) hS (F.lt (by decide)) fun a3 N => ?_
  replace F := F.next N (by decide)
  replace f17 := N.keep 17 _ (by decide) f17
  replace f18 := N.keep 18 _ (by decide) f18
  have f19 := N.got
  clear N a2
  refine Ord.skip R (k := 4) (bs' := (Ord.upto 5 15)) rfl (by kernel_rfl) hQ (R.shut (j := 1) rfl f17 (Ord.ne_not rfl)) hS (F.lt (by decide)) fun a4 N => ?_
  replace F := F.next N (by decide)
  replace f17 := N.keep 17 _ (by decide) f17
  replace f18 := N.keep 18 _ (by decide) f18
  clear f19
  have f20 := N.got
  clear N a3
  refine Ord.skip R (k := 5) (bs' := (Ord.upto 6 15)) rfl (by kernel_rfl) hQ (R.shut (j := 1) rfl f17 (Ord.ne_not rfl)) hS (F.lt (by decide)) fun a5 N => ?_
  replace F := F.next N (by decide)
  replace f17 := N.keep 17 _ (by decide) f17
  replace f18 := N.keep 18 _ (by decide) f18
  clear f20
  have f21 := N.got
  clear N a4
  refine Ord.skip R (k := 6) (bs' := (Ord.upto 7 15)) rfl (by kernel_rfl) hQ (R.shut (j := 1) rfl f17 (Ord.ne_not rfl)) hS (F.lt (by decide)) fun a6 N => ?_
  replace F := F.next N (by decide)
  replace f17 := N.keep 17 _ (by decide) f17
  replace f18 := N.keep 18 _ (by decide) f18
  clear f21
  have f22 := N.got
  clear N a5
  refine Ord.skip R (k := 7) (bs' := (Ord.upto 8 15)) rfl (by kernel_rfl) hQ (R.shut (j := 1) rfl f17 (Ord.ne_not rfl)) hS (F.lt (by decide)) fun a7 N => ?_
  replace F := F.next N (by decide)
  replace f17 := N.keep 17 _ (by decide) f17
  replace f18 := N.keep 18 _ (by decide) f18
  replace f22 := N.keep 22 _ (by decide) f22
  have f23 := N.got
  clear N a6
  refine Ord.skip R (k := 8) (bs' := (Ord.upto 9 15)) rfl (by kernel_rfl) hQ (R.shut (j := 1) rfl f17 (Ord.ne_not rfl)) hS (F.lt (by decide)) fun a8 N => ?_
  replace F := F.next N (by decide)
  replace f17 := N.keep 17 _ (by decide) f17
  replace f18 := N.keep 18 _ (by decide) f18
  replace f22 := N.keep 22 _ (by decide) f22
  clear f23
  have f24 := N.got
  clear N a7
  refine Ord.skip R (k := 9) (bs' := (Ord.upto 10 15)) rfl (by kernel_rfl) hQ (R.shut (j := 1) rfl f17 (Ord.ne_not rfl)) hS (F.lt (by decide)) fun a9 N => ?_
  replace F := F.next N (by decide)
  replace f17 := N.keep 17 _ (by decide) f17
  replace f18 := N.keep 18 _ (by decide) f18
  replace f22 := N.keep 22 _ (by decide) f22
  clear f24
  have f25 := N.got
  clear N a8
  refine Ord.skip R (k := 10) (bs' := (Ord.upto 11 15)) rfl (by kernel_rfl) hQ (R.shut (j := 1) rfl f17 (Ord.ne_not rfl)) hS (F.lt (by decide)) fun a10 N => ?_
  replace F := F.next N (by decide)
  replace f17 := N.keep 17 _ (by decide) f17
  replace f18 := N.keep 18 _ (by decide) f18
  replace f22 := N.keep 22 _ (by decide) f22
  clear f25
  have f26 := N.got
  clear N a9
  refine Ord.skip R (k := 11) (bs' := (Ord.upto 12 15)) rfl (by kernel_rfl) hQ (R.shut (j := 1) rfl f17 (Ord.ne_not rfl)) hS (F.lt (by decide)) fun a11 N => ?_
  replace F := F.next N (by decide)
  replace f17 := N.keep 17 _ (by decide) f17
  replace f18 := N.keep 18 _ (by decide) f18
  clear f22
  clear f26
  have f27 := N.got
  clear N a10
  refine Ord.skip R (k := 12) (bs' := (Ord.upto 13 15)) rfl (by kernel_rfl) hQ (R.shut (j := 1) rfl f17 (Ord.ne_not rfl)) hS (F.lt (by decide)) fun a12 N => ?_
  replace F := F.next N (by decide)
  replace f17 := N.keep 17 _ (by decide) f17
  clear f18
  clear f27
  have f28 := N.got
  clear N a11
  refine Ord.take R (k := 13) (v := Go.Value.bool true) (bs' := (Ord.upto 14 15)) rfl (by kernel_rfl) hQ trivial hS (fun w _ hS => Ord.ev_pick_yes f17.ev rfl) (F.lt (by decide)) fun a13 N => ?_
  replace F := F.next N (by decide)
  clear f17
  clear f28
  have f29 := N.got
  clear N a12
  refine Ord.take R (k := 14) (v := Go.Value.bool true) (bs' := (Ord.upto 15 15)) rfl (by kernel_rfl) hQ trivial hS (fun w _ hS => Chain.ev_assign f29.ev) (F.lt (by decide)) fun a14 N => ?_
  replace F := F.next N (by decide)
  clear f29
  have f2 := N.got
  clear N a13
  exact Ord.finish R (by kernel_rfl) (h _ _ hS F f2)

set_option maxRecDepth 100000 in
/-- The frame written out, its known slots in their places. -/
theorem one_frame {a : Act} {w : World} {K : Act → World → Prop} {v0 v2 v3 : Value} (hz : a.tmps.size = 30) (hd : a.defers = []) (f0 : Chain.At a 0 v0) (f2 : Chain.At a 2 v2) (f3 : Chain.At a 3 v3)
    (h : ∀ u1 u4 u5 u6 u7 u8 u9 u10 u11 u12 u13 u14 u15 u16 u17 u18 u19 u20 u21 u22 u23 u24 u25 u26 u27 u28 u29 : Value, K ⟨#[v0, u1, v2, v3, u4, u5, u6, u7, u8, u9, u10, u11, u12, u13, u14, u15, u16, u17, u18, u19, u20, u21, u22, u23, u24, u25, u26, u27, u28, u29], []⟩ w) : K a w := by
  have e := Ord.frame_out hz hd
  have r : (List.range 30).map (fun i => a.tmps.toList.getD i undef) = [a.tmps.toList.getD 0 undef, a.tmps.toList.getD 1 undef, a.tmps.toList.getD 2 undef, a.tmps.toList.getD 3 undef, a.tmps.toList.getD 4 undef, a.tmps.toList.getD 5 undef, a.tmps.toList.getD 6 undef, a.tmps.toList.getD 7 undef, a.tmps.toList.getD 8 undef, a.tmps.toList.getD 9 undef, a.tmps.toList.getD 10 undef, a.tmps.toList.getD 11 undef, a.tmps.toList.getD 12 undef, a.tmps.toList.getD 13 undef, a.tmps.toList.getD 14 undef, a.tmps.toList.getD 15 undef, a.tmps.toList.getD 16 undef, a.tmps.toList.getD 17 undef, a.tmps.toList.getD 18 undef, a.tmps.toList.getD 19 undef, a.tmps.toList.getD 20 undef, a.tmps.toList.getD 21 undef, a.tmps.toList.getD 22 undef, a.tmps.toList.getD 23 undef, a.tmps.toList.getD 24 undef, a.tmps.toList.getD 25 undef, a.tmps.toList.getD 26 undef, a.tmps.toList.getD 27 undef, a.tmps.toList.getD 28 undef, a.tmps.toList.getD 29 undef] := rfl
  rw [r, Ord.at_get f0, Ord.at_get f2, Ord.at_get f3] at e
  rw [e]
  exact h _ _ _ _ _ _ _ _ _ _ _ _ _ _ _ _ _ _ _ _ _ _ _ _ _ _ _

end Rw
end Go.Proofs.YtibihjcpkdfgeaaGreatDoor
namespace Go.Proofs.YtibihjcpkdfgeaaGreatDoor
open Go.ChangeShapes Go.WideShapes Go.ChangeAt Go.RowKit
namespace Rw

def isOneB : List Cel → Bool
  | [] => false
  | c :: l => (decide (l = []) && isB 0 c.1 c.2.1 c.2.2) || eqL (c :: l) (ofL c.1 c.2.2)
set_option maxRecDepth 100000 in
set_option maxHeartbeats 3200000 in
theorem isOne_walk (A : Option Addr) (m c2 : Nat) (L : List Cel) (w : World) (hs : Spans w) (hl : ∀ c ∈ L, -2147483648 ≤ c.1 ∧ c.1 ≤ 2147483647) (hm : m ≤ 1000000) (hq : Sq w w.heap.size 3 m A (flat L)) :
    Calls Tryz.prog 75 #[.slice A m c2] w fun e w' => e = .returned (.bool (isOneB L)) ∧ Below w.heap.size w w' := by
  have hln : L.length = m := by have := hq.len; rw [flat_length] at this; omega
  cases L with
  | nil =>
    obtain rfl : m = 0 := by simpa using hln.symm
    clear hq hs hl
    go_enter Tryz.func75, Tryz.ntmps75
    go_wp2
    go_ret
    exact ⟨rfl, Below.refl _ _⟩
  | cons c l =>
    have hm0 : 0 < m := by rw [← hln]; simp
    obtain ⟨b2, o2, rfl, hbl, x, hx, q0, q1, q2⟩ := hq.three hm0
    simp only [List.getElem?_cons_zero, Option.some.injEq] at hx
    subst hx
    simp only [Nat.zero_mul, Nat.add_zero] at q0 q1 q2
    obtain ⟨hr0, hr1⟩ := hl c (List.mem_cons_self ..)
    have Q := Lib.hid hq
    have S := Lib.hid hs
    have LN := Lib.hid hln
    have hmb : ((m : Int) == 0) = false := by simp; omega
    obtain ⟨r, wd, a⟩ := c
    simp only at q0 q1 q2 hr0 hr1
    have OF : ∀ w', Below w.heap.size w w' → Calls Tryz.prog 106 #[.int .i32 r, .int .i64 a] w' fun e w'' => OfPost (ofL r a) w' e w'' := fun w' hb => cellOf_walk r a hr0 hr1 w' (S.out.below hb S.out.size)
    have EW : ∀ (w' : World) (A3 : Option Addr) (c3 : Nat) {base : Nat}, Below w.heap.size w w' → HasC w' base (.slice A3 (ofL r a).length c3) (ofL r a) → Calls Tryz.prog 105 #[.slice (some ⟨b2, o2, none⟩) m c2, .slice A3 (ofL r a).length c3] w' fun e w'' => e = .returned (.bool (eqL ((r, wd, a) :: l) (ofL r a))) ∧ Below w'.heap.size w' w'' := fun w' A3 c3 base hb h3 =>
      slicesEq_walk _ _ _ _ _ _ _ _ w' hm (by unfold ofL; split <;> (try split) <;> (try split) <;> simp) ((Q.out.below hb).up hb.size) (HasC.sq h3)
    have CR : ∀ w', Below w.heap.size w w' → w'.cell? ⟨b2, o2, none⟩ = some (.int .i32 r) := fun w' hb => (hb.cell (p := ⟨b2, o2, none⟩) hbl).trans q0
    have CX : ∀ w', Below w.heap.size w w' → w'.cell? ⟨b2, o2 + 2, none⟩ = some (.int .i64 a) := fun w' hb => (hb.cell (p := ⟨b2, o2 + 2, none⟩) hbl).trans q2
    have hnil : (l = []) ↔ m = 1 := by
      rw [← hln]
      simp
    clear hq hs hl hln
    by_cases h1 : m = 1
    · have hl0 : l = [] := hnil.2 h1
      subst h1
      have PW := Lib.hid (isPad_walk r wd a w)
      go_enter Tryz.func75, Tryz.ntmps75
      go_wp2_with fail
      refine PW.out.mono ?_
      rintro e w2 ⟨rfl, b2'⟩
      have B2 := Lib.hid b2'
      clear b2' PW q0 q1 q2
      cases hp : isB 0 r wd a with
      | true =>
        have RES := Lib.hid (show true = isOneB ((r, wd, a) :: l) by unfold isOneB; simp [hl0, hp])
        go_wp2_with fail
        refine Ord.start (S := fun w' => Below w2.heap.size w2 w') (n := 15) (by kernel_rfl) (by kernel_rfl) (Below.refl w2.heap.size w2).drew ?_
        apply one_yes (b2 := b2) (o2 := o2) (m := 1) (c2 := c2)
        case R => exact ⟨by kernel_rfl, by kernel_rfl⟩
        case hQ => exact fun _ _ _ _ _ h => h
        case F => exact ⟨rfl, rfl, rfl, rfl⟩
        case hS => exact (Below.refl w2.heap.size w2).drew
        intro a2 w9 hS9 F9 f2
        have DN := Lib.hid (show Below w.heap.size w w9 from B2.out.trans (hS9.mono B2.out.size))
        refine one_frame F9.size F9.defers F9.s0 f2 F9.s3 ?_
        intros
        try dsimp only
        clear OF EW CR CX F9 f2
        go_wp2
        go_ret
        exact ⟨ret_bool RES.out, DN.out⟩
      | false =>
        have RES := Lib.hid (show eqL ((r, wd, a) :: l) (ofL r a) = isOneB ((r, wd, a) :: l) by unfold isOneB; simp [hp])
        go_wp2_with fail
        refine Ord.start (S := fun w' => Below w2.heap.size w2 w') (n := 15) (by kernel_rfl) (by kernel_rfl) (Below.refl w2.heap.size w2).drew ?_
        apply one_no (b2 := b2) (o2 := o2) (m := 1) (c2 := c2) (r := r) (x := a) (q := eqL ((r, wd, a) :: l) (ofL r a)) (Lo := ofL r a)
        case R => exact ⟨by kernel_rfl, by kernel_rfl⟩
        case hQ => exact fun _ _ _ _ _ h => h
        case hm0 => exact hm0
        case cr => exact fun w' hb => CR w' (B2.out.trans (hb.mono B2.out.size))
        case cx => exact fun w' hb => CX w' (B2.out.trans (hb.mono B2.out.size))
        case OF => exact fun w' hb => OF w' (B2.out.trans (hb.mono B2.out.size))
        case EW => exact fun w' A3 c3 _ hb h3 => EW w' A3 c3 (B2.out.trans (hb.mono B2.out.size)) h3
        case F => exact ⟨rfl, rfl, rfl, rfl⟩
        case hS => exact (Below.refl w2.heap.size w2).drew
        intro a2 w9 hS9 F9 f2
        have DN := Lib.hid (show Below w.heap.size w w9 from B2.out.trans (hS9.mono B2.out.size))
        refine one_frame F9.size F9.defers F9.s0 f2 F9.s3 ?_
        intros
        try dsimp only
        clear OF EW CR CX F9 f2
        go_wp2
        go_ret
        exact ⟨ret_bool RES.out, DN.out⟩
    · have hl0 : ¬ l = [] := fun e => h1 (hnil.1 e)
      have hm1 : ((m : Int) == 1) = false := by simp; omega
      go_enter Tryz.func75, Tryz.ntmps75
      have RES := Lib.hid (show eqL ((r, wd, a) :: l) (ofL r a) = isOneB ((r, wd, a) :: l) by unfold isOneB; simp [hl0])
      clear q0 q1 q2
      go_wp2_with fail
      refine Ord.start (S := fun w' => Below w.heap.size w w') (n := 15) (by kernel_rfl) (by kernel_rfl) (Below.refl w.heap.size w).drew ?_
      apply one_no (b2 := b2) (o2 := o2) (m := m) (c2 := c2) (r := r) (x := a) (q := eqL ((r, wd, a) :: l) (ofL r a)) (Lo := ofL r a)
      case R => exact ⟨by kernel_rfl, by kernel_rfl⟩
      case hQ => exact fun _ _ _ _ _ h => h
      case hm0 => exact hm0
      case cr => exact fun w' hb => CR w' (hb)
      case cx => exact fun w' hb => CX w' (hb)
      case OF => exact fun w' hb => OF w' (hb)
      case EW => exact fun w' A3 c3 _ hb h3 => EW w' A3 c3 (hb) h3
      case F => exact ⟨rfl, rfl, rfl, rfl⟩
      case hS => exact (Below.refl w.heap.size w).drew
      intro a2 w9 hS9 F9 f2
      have DN := Lib.hid (show Below w.heap.size w w9 from hS9)
      refine one_frame F9.size F9.defers F9.s0 f2 F9.s3 ?_
      intros
      try dsimp only
      clear OF EW CR CX F9 f2
      go_wp2
      go_ret
      exact ⟨ret_bool RES.out, DN.out⟩
end Rw
end Go.Proofs.YtibihjcpkdfgeaaGreatDoor
namespace Go.Proofs.YtibihjcpkdfgeaaGreatDoor
open Go.ChangeShapes Go.WideShapes Go.ChangeAt Go.RowKit
namespace Rw

def repL : List Ord.Line := [
  (some 38, Go.Op.move (Go.Operand.tmp 8), none, []),
  (some 39, Go.Op.move (Go.Operand.tmp 7), none, []),
  (some 40, Go.Op.move (Go.Operand.tmp 8), none, []),
  (some 41, Go.Op.slice 51 (Go.Operand.tmp 39) (some (Go.Operand.tmp 40)) none none, none, [1, 2]),
  (some 42, Go.Op.move (Go.Operand.tmp 7), none, []),
  (some 43, Go.Op.move (Go.Operand.tmp 8), none, []),
  (some 44, Go.Op.slice 51 (Go.Operand.tmp 42) none (some (Go.Operand.tmp 43)) none, none, [4, 5]),
  (some 45, Go.Op.call { callee := Go.Callee.builtin Go.Builtin.copy, args := #[Go.Operand.tmp 41, Go.Operand.tmp 44], argTypes := #[51, 51] }, none, [3, 6]),
  (some 46, Go.Op.binOp Go.BinOp.add 3 (Go.Operand.tmp 38) (Go.Operand.tmp 45) 3, none, [0, 7]),
  (some 8, Go.Op.assign (Go.Operand.tmp 46), none, [8, 7, 0, 1, 2, 3, 4, 5, 6, 7, 8])]

/-- The slots that are known all the way. -/
structure RepFr (g cnt : Nat) (p0 p1 p2 p3 p4 p5 p6 p9 p10 p11 p12 p13 p14 p15 p16 p17 p18 p19 p20 p21 p22 p23 p24 p25 p26 p27 p28 p29 p30 p31 p32 p33 p47 : Value) (a : Act) : Prop where
  size : a.tmps.size = 48
  defers : a.defers = []
  s0 : Chain.At a 0 (p0)
  s1 : Chain.At a 1 (p1)
  s2 : Chain.At a 2 (p2)
  s3 : Chain.At a 3 (p3)
  s4 : Chain.At a 4 (p4)
  s5 : Chain.At a 5 (p5)
  s6 : Chain.At a 6 (p6)
  s9 : Chain.At a 9 (p9)
  s10 : Chain.At a 10 (p10)
  s11 : Chain.At a 11 (p11)
  s12 : Chain.At a 12 (p12)
  s13 : Chain.At a 13 (p13)
  s14 : Chain.At a 14 (p14)
  s15 : Chain.At a 15 (p15)
  s16 : Chain.At a 16 (p16)
  s17 : Chain.At a 17 (p17)
  s18 : Chain.At a 18 (p18)
  s19 : Chain.At a 19 (p19)
  s20 : Chain.At a 20 (p20)
  s21 : Chain.At a 21 (p21)
  s22 : Chain.At a 22 (p22)
  s23 : Chain.At a 23 (p23)
  s24 : Chain.At a 24 (p24)
  s25 : Chain.At a 25 (p25)
  s26 : Chain.At a 26 (p26)
  s27 : Chain.At a 27 (p27)
  s28 : Chain.At a 28 (p28)
  s29 : Chain.At a 29 (p29)
  s30 : Chain.At a 30 (p30)
  s31 : Chain.At a 31 (p31)
  s32 : Chain.At a 32 (p32)
  s33 : Chain.At a 33 (p33)
  s47 : Chain.At a 47 (p47)
  s7 : Chain.At a 7 (.slice (some ⟨g, 0, none⟩) cnt cnt)
theorem RepFr.next {g cnt : Nat} {p0 p1 p2 p3 p4 p5 p6 p9 p10 p11 p12 p13 p14 p15 p16 p17 p18 p19 p20 p21 p22 p23 p24 p25 p26 p27 p28 p29 p30 p31 p32 p33 p47 : Value} {a a' : Act} {d : Nat} {v : Value} (F : RepFr g cnt p0 p1 p2 p3 p4 p5 p6 p9 p10 p11 p12 p13 p14 p15 p16 p17 p18 p19 p20 p21 p22 p23 p24 p25 p26 p27 p28 p29 p30 p31 p32 p33 p47 a) (nx : Chain.Next a a' d v) (h : d ≠ 0 ∧ d ≠ 1 ∧ d ≠ 2 ∧ d ≠ 3 ∧ d ≠ 4 ∧ d ≠ 5 ∧ d ≠ 6 ∧ d ≠ 9 ∧ d ≠ 10 ∧ d ≠ 11 ∧ d ≠ 12 ∧ d ≠ 13 ∧ d ≠ 14 ∧ d ≠ 15 ∧ d ≠ 16 ∧ d ≠ 17 ∧ d ≠ 18 ∧ d ≠ 19 ∧ d ≠ 20 ∧ d ≠ 21 ∧ d ≠ 22 ∧ d ≠ 23 ∧ d ≠ 24 ∧ d ≠ 25 ∧ d ≠ 26 ∧ d ≠ 27 ∧ d ≠ 28 ∧ d ≠ 29 ∧ d ≠ 30 ∧ d ≠ 31 ∧ d ≠ 32 ∧ d ≠ 33 ∧ d ≠ 47 ∧ d ≠ 7) : RepFr g cnt p0 p1 p2 p3 p4 p5 p6 p9 p10 p11 p12 p13 p14 p15 p16 p17 p18 p19 p20 p21 p22 p23 p24 p25 p26 p27 p28 p29 p30 p31 p32 p33 p47 a' := ⟨nx.size.trans F.size, nx.defers.trans F.defers, nx.keep 0 _ h.1 F.s0, nx.keep 1 _ h.2.1 F.s1, nx.keep 2 _ h.2.2.1 F.s2, nx.keep 3 _ h.2.2.2.1 F.s3, nx.keep 4 _ h.2.2.2.2.1 F.s4, nx.keep 5 _ h.2.2.2.2.2.1 F.s5, nx.keep 6 _ h.2.2.2.2.2.2.1 F.s6, nx.keep 9 _ h.2.2.2.2.2.2.2.1 F.s9, nx.keep 10 _ h.2.2.2.2.2.2.2.2.1 F.s10, nx.keep 11 _ h.2.2.2.2.2.2.2.2.2.1 F.s11, nx.keep 12 _ h.2.2.2.2.2.2.2.2.2.2.1 F.s12, nx.keep 13 _ h.2.2.2.2.2.2.2.2.2.2.2.1 F.s13, nx.keep 14 _ h.2.2.2.2.2.2.2.2.2.2.2.2.1 F.s14, nx.keep 15 _ h.2.2.2.2.2.2.2.2.2.2.2.2.2.1 F.s15, nx.keep 16 _ h.2.2.2.2.2.2.2.2.2.2.2.2.2.2.1 F.s16, nx.keep 17 _ h.2.2.2.2.2.2.2.2.2.2.2.2.2.2.2.1 F.s17, nx.keep 18 _ h.2.2.2.2.2.2.2.2.2.2.2.2.2.2.2.2.1 F.s18, nx.keep 19 _ h.2.2.2.2.2.2.2.2.2.2.2.2.2.2.2.2.2.1 F.s19, nx.keep 20 _ h.2.2.2.2.2.2.2.2.2.2.2.2.2.2.2.2.2.2.1 F.s20, nx.keep 21 _ h.2.2.2.2.2.2.2.2.2.2.2.2.2.2.2.2.2.2.2.1 F.s21, nx.keep 22 _ h.2.2.2.2.2.2.2.2.2.2.2.2.2.2.2.2.2.2.2.2.1 F.s22, nx.keep 23 _ h.2.2.2.2.2.2.2.2.2.2.2.2.2.2.2.2.2.2.2.2.2.1 F.s23, nx.keep 24 _ h.2.2.2.2.2.2.2.2.2.2.2.2.2.2.2.2.2.2.2.2.2.2.1 F.s24, nx.keep 25 _ h.2.2.2.2.2.2.2.2.2.2.2.2.2.2.2.2.2.2.2.2.2.2.2.1 F.s25, nx.keep 26 _ h.2.2.2.2.2.2.2.2.2.2.2.2.2.2.2.2.2.2.2.2.2.2.2.2.1 F.s26, nx.keep 27 _ h.2.2.2.2.2.2.2.2.2.2.2.2.2.2.2.2.2.2.2.2.2.2.2.2.2.1 F.s27, nx.keep 28 _ h.2.2.2.2.2.2.2.2.2.2.2.2.2.2.2.2.2.2.2.2.2.2.2.2.2.2.1 F.s28, nx.keep 29 _ h.2.2.2.2.2.2.2.2.2.2.2.2.2.2.2.2.2.2.2.2.2.2.2.2.2.2.2.1 F.s29, nx.keep 30 _ h.2.2.2.2.2.2.2.2.2.2.2.2.2.2.2.2.2.2.2.2.2.2.2.2.2.2.2.2.1 F.s30, nx.keep 31 _ h.2.2.2.2.2.2.2.2.2.2.2.2.2.2.2.2.2.2.2.2.2.2.2.2.2.2.2.2.2.1 F.s31, nx.keep 32 _ h.2.2.2.2.2.2.2.2.2.2.2.2.2.2.2.2.2.2.2.2.2.2.2.2.2.2.2.2.2.2.1 F.s32, nx.keep 33 _ h.2.2.2.2.2.2.2.2.2.2.2.2.2.2.2.2.2.2.2.2.2.2.2.2.2.2.2.2.2.2.2.1 F.s33, nx.keep 47 _ h.2.2.2.2.2.2.2.2.2.2.2.2.2.2.2.2.2.2.2.2.2.2.2.2.2.2.2.2.2.2.2.2.1 F.s47, nx.keep 7 _ h.2.2.2.2.2.2.2.2.2.2.2.2.2.2.2.2.2.2.2.2.2.2.2.2.2.2.2.2.2.2.2.2.2 F.s7⟩
theorem RepFr.lt {g cnt : Nat} {p0 p1 p2 p3 p4 p5 p6 p9 p10 p11 p12 p13 p14 p15 p16 p17 p18 p19 p20 p21 p22 p23 p24 p25 p26 p27 p28 p29 p30 p31 p32 p33 p47 : Value} {a : Act} {d : Nat} (F : RepFr g cnt p0 p1 p2 p3 p4 p5 p6 p9 p10 p11 p12 p13 p14 p15 p16 p17 p18 p19 p20 p21 p22 p23 p24 p25 p26 p27 p28 p29 p30 p31 p32 p33 p47 a) (h : d < 48) : d < a.tmps.size := by rw [F.size]; exact h

set_option maxRecDepth 100000 in
theorem rep_round {ops : Array Oper} {Q : Exit → Act → World → Prop} (R : Ord.Reg ops repL) (hQ : ∀ c a w d v, Q (.panic c) (Act.put a (some d) v) w → Q (.panic c) a w) {w1 w9 : World} {g cnt n d : Nat} {p0 p1 p2 p3 p4 p5 p6 p9 p10 p11 p12 p13 p14 p15 p16 p17 p18 p19 p20 p21 p22 p23 p24 p25 p26 p27 p28 p29 p30 p31 p32 p33 p47 : Value}
    (hni : (n : Int) ≤ (cnt : Int)) (hn0 : (0 : Int) ≤ (n : Int)) (hnl : n < cnt) (hsub : cnt - n ≠ 0) (hcn : cnt ≠ 0) (hsum : IntKind.i64.wrap ((n : Int) + (d : Int)) = (n : Int) + (d : Int))
    (CP : ∀ ty, (Builtin.copy_ #[51, 51] ty #[.slice (some ⟨g, n * 3, none⟩) (cnt - n) (cnt - n), .slice (some ⟨g, 0, none⟩) n cnt]).run Tryz.prog w1 = .ok (.int .i64 (d : Int)) w9)
    (a : Act) (F : RepFr g cnt p0 p1 p2 p3 p4 p5 p6 p9 p10 p11 p12 p13 p14 p15 p16 p17 p18 p19 p20 p21 p22 p23 p24 p25 p26 p27 p28 p29 p30 p31 p32 p33 p47 a) (f8 : Chain.At a 8 (.int .i64 (n : Int))) (h : ∀ a, RepFr g cnt p0 p1 p2 p3 p4 p5 p6 p9 p10 p11 p12 p13 p14 p15 p16 p17 p18 p19 p20 p21 p22 p23 p24 p25 p26 p27 p28 p29 p30 p31 p32 p33 p47 a → Chain.At a 8 (.int .i64 ((n + d : Nat) : Int)) → Q .normal a w9) :
    wpAnyH Tryz.prog .any ops Q (fun w' => w' = w1 ∨ w' = w9) 10 (List.replicate 10 false).toArray a w1 := by
  have hS : w1 = w1 ∨ w1 = w9 := .inl rfl
  refine Ord.take R (k := 0) (v := .int .i64 (n : Int)) (bs' := (Ord.upto 1 10)) rfl (by kernel_rfl) hQ trivial hS (fun w _ hS => Chain.ev_move f8.ev) (F.lt (by decide)) fun a0 N => ?_
  replace F := F.next N (by decide)
  replace f8 := N.keep 8 _ (by decide) f8
  have f38 := N.got
  clear N a
  refine Ord.take R (k := 1) (v := .slice (some ⟨g, 0, none⟩) cnt cnt) (bs' := (Ord.upto 2 10)) rfl (by kernel_rfl) hQ trivial hS (fun w _ hS => Chain.ev_move F.s7.ev) (F.lt (by decide)) fun a1 N => ?_
  replace F := F.next N (by decide)
  replace f8 := N.keep 8 _ (by decide) f8
  replace f38 := N.keep 38 _ (by decide) f38
  have f39 := N.got
  clear N a0
  refine Ord.take R (k := 2) (v := .int .i64 (n : Int)) (bs' := (Ord.upto 3 10)) rfl (by kernel_rfl) hQ trivial hS (fun w _ hS => Chain.ev_move f8.ev) (F.lt (by decide)) fun a2 N => ?_
  replace F := F.next N (by decide)
  replace f8 := N.keep 8 _ (by decide) f8
  replace f38 := N.keep 38 _ (by decide) f38
  replace f39 := N.keep 39 _ (by decide) f39
  have f40 := N.got
  clear N a1
  refine Ord.take R (k := 3) (v := .slice (some ⟨g, n * 3, none⟩) (cnt - n) (cnt - n)) (bs' := (Ord.upto 4 10)) rfl (by kernel_rfl) hQ trivial hS (fun w _ hS => by have e39 := f39; unfold Chain.At at e39; have e40 := f40; unfold Chain.At at e40; have q0 := hni; have q1 := hn0; have q2 := hnl; have q3 := hsub; clear F; go_simp; omega) (F.lt (by decide)) fun a3 N => ?_
  replace F := F.next N (by decide)
  replace f8 := N.keep 8 _ (by decide) f8
  replace f38 := N.keep 38 _ (by decide) f38
  clear f39
  clear f40
  have f41 := N.got
  clear N a2
  refine Ord.take R (k := 4) (v := .slice (some ⟨g, 0, none⟩) cnt cnt) (bs' := (Ord.upto 5 10)) rfl (by kernel_rfl) hQ trivial hS (fun w _ hS => Chain.ev_move F.s7.ev) (F.lt (by decide)) fun a4 N => ?_
  replace F := F.next N (by decide)
  replace f8 := N.keep 8 _ (by decide) f8
  replace f38 := N.keep 38 _ (by decide) f38
  replace f41 := N.keep 41 _ (by decide) f41
  have f42 := N.got
  clear N a3
  refine Ord.take R (k := 5) (v := .int .i64 (n : Int)) (bs' := (Ord.upto 6 10)) rfl (by kernel_rfl) hQ trivial hS (fun w _ hS => Chain.ev_move f8.ev) (F.lt (by decide)) fun a5 N => ?_
  replace F := F.next N (by decide)
  replace f8 := N.keep 8 _ (by decide) f8
  replace f38 := N.keep 38 _ (by decide) f38
  replace f41 := N.keep 41 _ (by decide) f41
  replace f42 := N.keep 42 _ (by decide) f42
  have f43 := N.got
  clear N a4
  refine Ord.take R (k := 6) (v := .slice (some ⟨g, 0, none⟩) n cnt) (bs' := (Ord.upto 7 10)) rfl (by kernel_rfl) hQ trivial hS (fun w _ hS => by have e42 := f42; unfold Chain.At at e42; have e43 := f43; unfold Chain.At at e43; have q0 := hni; have q1 := hn0; have q2 := hnl; have q3 := hcn; clear F; go_simp) (F.lt (by decide)) fun a6 N => ?_
  replace F := F.next N (by decide)
  replace f8 := N.keep 8 _ (by decide) f8
  replace f38 := N.keep 38 _ (by decide) f38
  replace f41 := N.keep 41 _ (by decide) f41
  clear f42
  clear f43
  have f44 := N.got
  clear N a5
  refine Ord.value R (k := 7) (v := .int .i64 (d : Int)) (w1 := w9) (bs' := (Ord.upto 8 10)) rfl (by kernel_rfl) trivial (show w9 = w1 ∨ w9 = w9 from .inr rfl) (fun _ => by have e41 := f41; unfold Chain.At at e41; have e44 := f44; unfold Chain.At at e44; have q0 := CP; clear F; go_simp) (F.lt (by decide)) fun a7 N => ?_
  replace hS := (show w9 = w1 ∨ w9 = w9 from .inr rfl)
  replace F := F.next N (by decide)
  replace f8 := N.keep 8 _ (by decide) f8
  replace f38 := N.keep 38 _ (by decide) f38
  clear f41
  clear f44
  have f45 := N.got
  clear N a6
  refine Ord.take R (k := 8) (v := .int .i64 ((n + d : Nat) : Int)) (bs' := (Ord.upto 9 10)) rfl (by kernel_rfl) hQ trivial hS (fun w _ hS => by have e38 := f38; unfold Chain.At at e38; have e45 := f45; unfold Chain.At at e45; have q0 := hsum; clear F; go_simp) (F.lt (by decide)) fun a8 N => ?_
  replace F := F.next N (by decide)
  replace f8 := N.keep 8 _ (by decide) f8
  clear f38
  clear f45
  have f46 := N.got
  clear N a7
  refine Ord.take R (k := 9) (v := .int .i64 ((n + d : Nat) : Int)) (bs' := (Ord.upto 10 10)) rfl (by kernel_rfl) hQ trivial hS (fun w _ hS => Chain.ev_assign f46.ev) (F.lt (by decide)) fun a9 N => ?_
  replace F := F.next N (by decide)
  clear f8
  clear f46
  have f8 := N.got
  clear N a8
  exact Ord.finish R (by kernel_rfl) (h _ F f8)

set_option maxRecDepth 100000 in
/-- The frame written out, its known slots in their places. -/
theorem rep_frame {a : Act} {w : World} {K : Act → World → Prop} {v0 v1 v2 v3 v4 v5 v6 v7 v8 v9 v10 v11 v12 v13 v14 v15 v16 v17 v18 v19 v20 v21 v22 v23 v24 v25 v26 v27 v28 v29 v30 v31 v32 v33 v47 : Value} (hz : a.tmps.size = 48) (hd : a.defers = []) (f0 : Chain.At a 0 v0) (f1 : Chain.At a 1 v1) (f2 : Chain.At a 2 v2) (f3 : Chain.At a 3 v3) (f4 : Chain.At a 4 v4) (f5 : Chain.At a 5 v5) (f6 : Chain.At a 6 v6) (f7 : Chain.At a 7 v7) (f8 : Chain.At a 8 v8) (f9 : Chain.At a 9 v9) (f10 : Chain.At a 10 v10) (f11 : Chain.At a 11 v11) (f12 : Chain.At a 12 v12) (f13 : Chain.At a 13 v13) (f14 : Chain.At a 14 v14) (f15 : Chain.At a 15 v15) (f16 : Chain.At a 16 v16) (f17 : Chain.At a 17 v17) (f18 : Chain.At a 18 v18) (f19 : Chain.At a 19 v19) (f20 : Chain.At a 20 v20) (f21 : Chain.At a 21 v21) (f22 : Chain.At a 22 v22) (f23 : Chain.At a 23 v23) (f24 : Chain.At a 24 v24) (f25 : Chain.At a 25 v25) (f26 : Chain.At a 26 v26) (f27 : Chain.At a 27 v27) (f28 : Chain.At a 28 v28) (f29 : Chain.At a 29 v29) (f30 : Chain.At a 30 v30) (f31 : Chain.At a 31 v31) (f32 : Chain.At a 32 v32) (f33 : Chain.At a 33 v33) (f47 : Chain.At a 47 v47)
    (h : ∀ u34 u35 u36 u37 u38 u39 u40 u41 u42 u43 u44 u45 u46 : Value, K ⟨#[v0, v1, v2, v3, v4, v5, v6, v7, v8, v9, v10, v11, v12, v13, v14, v15, v16, v17, v18, v19, v20, v21, v22, v23, v24, v25, v26, v27, v28, v29, v30, v31, v32, v33, u34, u35, u36, u37, u38, u39, u40, u41, u42, u43, u44, u45, u46, v47], []⟩ w) : K a w := by
  have e := Ord.frame_out hz hd
  have r : (List.range 48).map (fun i => a.tmps.toList.getD i undef) = [a.tmps.toList.getD 0 undef, a.tmps.toList.getD 1 undef, a.tmps.toList.getD 2 undef, a.tmps.toList.getD 3 undef, a.tmps.toList.getD 4 undef, a.tmps.toList.getD 5 undef, a.tmps.toList.getD 6 undef, a.tmps.toList.getD 7 undef, a.tmps.toList.getD 8 undef, a.tmps.toList.getD 9 undef, a.tmps.toList.getD 10 undef, a.tmps.toList.getD 11 undef, a.tmps.toList.getD 12 undef, a.tmps.toList.getD 13 undef, a.tmps.toList.getD 14 undef, a.tmps.toList.getD 15 undef, a.tmps.toList.getD 16 undef, a.tmps.toList.getD 17 undef, a.tmps.toList.getD 18 undef, a.tmps.toList.getD 19 undef, a.tmps.toList.getD 20 undef, a.tmps.toList.getD 21 undef, a.tmps.toList.getD 22 undef, a.tmps.toList.getD 23 undef, a.tmps.toList.getD 24 undef, a.tmps.toList.getD 25 undef, a.tmps.toList.getD 26 undef, a.tmps.toList.getD 27 undef, a.tmps.toList.getD 28 undef, a.tmps.toList.getD 29 undef, a.tmps.toList.getD 30 undef, a.tmps.toList.getD 31 undef, a.tmps.toList.getD 32 undef, a.tmps.toList.getD 33 undef, a.tmps.toList.getD 34 undef, a.tmps.toList.getD 35 undef, a.tmps.toList.getD 36 undef, a.tmps.toList.getD 37 undef, a.tmps.toList.getD 38 undef, a.tmps.toList.getD 39 undef, a.tmps.toList.getD 40 undef, a.tmps.toList.getD 41 undef, a.tmps.toList.getD 42 undef, a.tmps.toList.getD 43 undef, a.tmps.toList.getD 44 undef, a.tmps.toList.getD 45 undef, a.tmps.toList.getD 46 undef, a.tmps.toList.getD 47 undef] := rfl
  rw [r, Ord.at_get f0, Ord.at_get f1, Ord.at_get f2, Ord.at_get f3, Ord.at_get f4, Ord.at_get f5, Ord.at_get f6, Ord.at_get f7, Ord.at_get f8, Ord.at_get f9, Ord.at_get f10, Ord.at_get f11, Ord.at_get f12, Ord.at_get f13, Ord.at_get f14, Ord.at_get f15, Ord.at_get f16, Ord.at_get f17, Ord.at_get f18, Ord.at_get f19, Ord.at_get f20, Ord.at_get f21, Ord.at_get f22, Ord.at_get f23, Ord.at_get f24, Ord.at_get f25, Ord.at_get f26, Ord.at_get f27, Ord.at_get f28, Ord.at_get f29, Ord.at_get f30, Ord.at_get f31, Ord.at_get f32, Ord.at_get f33, Ord.at_get f47] at e
  rw [e]
  exact h _ _ _ _ _ _ _ _ _ _ _ _ _

end Rw
end Go.Proofs.YtibihjcpkdfgeaaGreatDoor
namespace Go.Proofs.YtibihjcpkdfgeaaGreatDoor
open Go.ChangeShapes Go.WideShapes Go.ChangeAt Go.RowKit
namespace Rw

def noughts (n : Nat) : List Cel := List.replicate n (0, 0, 0)
theorem made_list (n : Nat) : (List.range (n * 3)).map (fun i => (#[Value.int .i32 0, .int .i64 0, .int .i64 0] : Array Value)[i % 3]!) = flat (noughts n) := by
  induction n with
  | zero => rfl
  | succ n ih =>
    have e : noughts (n + 1) = noughts n ++ [(0, 0, 0)] := by unfold noughts; rw [List.replicate_succ']
    have h0 : n * 3 % 3 = 0 := by omega
    have h1 : (n * 3 + 1) % 3 = 1 := by omega
    have h2 : (n * 3 + 1 + 1) % 3 = 2 := by omega
    rw [show (n + 1) * 3 = n * 3 + 1 + 1 + 1 by omega, List.range_succ, List.range_succ, List.range_succ, List.map_append, List.map_append, List.map_append, ih, e, flat_append]
    simp only [List.map_cons, List.map_nil, h0, h1, h2, List.append_assoc]
    rfl
theorem made_noughts (n : Nat) : madeCells #[.int .i32 0, .int .i64 0, .int .i64 0] (n * 3) = (flat (noughts n) ++ []).toArray := by
  rw [List.append_nil, ← made_list]
  apply Array.ext'
  simp [madeCells]
theorem noughts_length (n : Nat) : (noughts n).length = n := List.length_replicate
theorem filled_length {n cnt : Nat} (h : n ≤ cnt) : (blanksL n ++ noughts (cnt - n)).length = cnt := by rw [List.length_append, blanksL_length, noughts_length]; omega
theorem blanks_append (n d : Nat) : blanksL n ++ blanksL d = blanksL (n + d) := List.replicate_append_replicate
theorem fill_more {n d cnt : Nat} (h : n + d ≤ cnt) : putO (blanksL n ++ noughts (cnt - n)) n (blanksL d) = blanksL (n + d) ++ noughts (cnt - (n + d)) := by
  unfold putO
  have h1 : (blanksL n ++ noughts (cnt - n)).take n = blanksL n := by
    have := List.take_left (l₁ := blanksL n) (l₂ := noughts (cnt - n))
    rwa [blanksL_length] at this
  have h2 : (blanksL n ++ noughts (cnt - n)).drop (n + d) = noughts (cnt - (n + d)) := by
    rw [List.drop_append, blanksL_length, List.drop_of_length_le (by rw [blanksL_length]; omega), List.nil_append]
    unfold noughts
    rw [List.drop_replicate]
    congr 1
    omega
  rw [h1, blanksL_length, h2, blanks_append]
/-- The blanks that there are, and room. -/
abbrev Filled (w : World) (g n cnt : Nat) : Prop := RowIn' w g (blanksL n ++ noughts (cnt - n)) []
set_option maxRecDepth 100000 in
set_option maxHeartbeats 6400000 in
theorem repeat_walk (b0 cnt : Nat) (w : World) (hc : cnt ≤ 1000000) (h0 : w.heap[b0]? = some (.cells #[.int .i32 32, .int .i64 1, .int .i64 0] 67 (0, 0))) :
    Calls Tryz.prog 107 #[.slice (some ⟨b0, 0, none⟩) 1 1, .int .i64 (cnt : Int)] w fun e w' => ∃ g, e = .returned (.slice (some ⟨g, 0, none⟩) cnt cnt) ∧ w.heap.size ≤ g ∧ RowIn' w' g (blanksL cnt) [] ∧ Below w.heap.size w w' := by
  obtain ⟨i0, hi0, hz0, hz1, hz2⟩ := info_parts infoCell
  have hc0 : (0 : Int) ≤ (cnt : Int) := by omega
  have MW := Lib.hid (Tryz.bits_Mul 1 cnt (by omega) (by omega) w)
  have e1 : 1 * cnt / 18446744073709551616 = 0 := by omega
  have e2 : 1 * cnt % 18446744073709551616 = cnt := by omega
  rw [e1, e2] at MW
  have H0 := Lib.hid h0
  have hw2 : IntKind.i64.wrap (cnt : Int) = (cnt : Int) := IntWalk.i64_in _ (by omega)
  clear h0 e1 e2
  go_enter Tryz.func107, Tryz.ntmps107
  go_wp2_with fail
  refine MW.out.mono ?_
  rintro e w2 ⟨rfl, hw⟩
  subst hw
  have hc63 : ¬ ((9223372036854775807 : Int) < (cnt : Int)) := by omega
  have MK := run_make w2 51 67 i0 (.agg #[.int .i32 0, .int .i64 0, .int .i64 0]) Tryz.underlying51 hi0 hz0 .i64 .i64 (cnt : Int) (cnt : Int) hc0 (Int.le_refl _) (by rw [hz2]; omega) (by omega)
  rw [hz1, Int.toNat_natCast] at MK
  have b3 := (Below.refl w2.heap.size w2).alloc (Nat.le_refl _) (.cells (madeCells (Value.agg #[.int .i32 0, .int .i64 0, .int .i64 0]).cells (cnt * 3)) 67)
  have R3 := Lib.hid (show RowIn' (w2.alloc (.cells (madeCells (Value.agg #[.int .i32 0, .int .i64 0, .int .i64 0]).cells (cnt * 3)) 67)) w2.heap.size (noughts cnt) [] from ⟨by rw [← made_noughts]; exact heap_alloc_new w2 _⟩)
  have S3 := Lib.hid (show (w2.alloc (.cells (madeCells (Value.agg #[.int .i32 0, .int .i64 0, .int .i64 0]).cells (cnt * 3)) 67)).heap[b0]? = some (.cells #[.int .i32 32, .int .i64 1, .int .i64 0] 67 (0, 0)) from (b3.block b0 (Array.getElem?_eq_some_iff.1 H0.out).1).trans H0.out)
  have B3 := Lib.hid b3
  obtain ⟨w3, hw3⟩ : ∃ w3, w2.alloc (.cells (madeCells (Value.agg #[.int .i32 0, .int .i64 0, .int .i64 0]).cells (cnt * 3)) 67) = w3 := ⟨_, rfl⟩
  rw [hw3] at MK B3 R3 S3
  obtain ⟨g, hg⟩ : ∃ g, w2.heap.size = g := ⟨_, rfl⟩
  have HG := Lib.hid hg
  rw [hg] at MK R3
  clear b3 hw3 MW hg
  obtain ⟨n1, hn1⟩ : ∃ n1, Nat.min 1 cnt = n1 := ⟨_, rfl⟩
  have hn1c : n1 ≤ cnt ∧ n1 ≤ 1 ∧ (0 < cnt → 0 < n1) := by
    have : Nat.min 1 cnt = min 1 cnt := rfl
    omega
  obtain ⟨hn1a, hn1b, hn1d⟩ := hn1c
  have CP := run_copy_three (P := Tryz.prog) w3 51 51 3 67 i0 g 0 cnt cnt ⟨b0, 0, none⟩ 1 1 _ 67 (flat (blanksL n1)) Tryz.underlying51 hi0 hz1 R3.out.heap (by rw [flat_length, blanksL_length, hn1]) (fun j u hu => by
    have hj := (List.getElem?_eq_some_iff.1 hu).1
    rw [flat_length, blanksL_length] at hj
    obtain rfl : n1 = 1 := by omega
    rw [add_at', cell_of_row _ b0 _ _ _ (0, 0) S3.out, Nat.zero_add]
    simpa [blanksL, flat] using hu) (by have h1 := flat_length (noughts cnt); have h2 := flat_length (blanksL n1); rw [noughts_length] at h1; rw [blanksL_length] at h2; simp; omega) (flat_one _)
  have R4 := Lib.hid (R3.out.copied (k := 0) (L := blanksL n1) (by rw [noughts_length, blanksL_length]; omega))
  obtain ⟨w4, hw4⟩ : ∃ w4, w3.setRow g ((flat (noughts cnt) ++ []).toArray.toList.take (0 * 3) ++ flat (blanksL n1) ++ (flat (noughts cnt) ++ []).toArray.toList.drop (0 * 3 + (flat (blanksL n1)).length)).toArray = w4 := ⟨_, rfl⟩
  have B4 := Lib.hid (show Below w2.heap.size w2 w4 by rw [← hw4]; exact B3.out.trans ((Turned.ofOnly (onlyRow g _ _)).toBelow B3.out.size (fun k hk e => by have := HG.out; omega)))
  rw [hw4] at R4
  rw [hn1, show (0 : Nat) = 0 * 3 by omega, hw4] at CP
  have F4 := Lib.hid (show Filled w4 g n1 cnt by
    have h := R4.out
    have e := fill_more (n := 0) (d := n1) (cnt := cnt) (by omega)
    rw [show blanksL 0 ++ noughts (cnt - 0) = noughts cnt from rfl, Nat.zero_add] at e
    rw [e] at h
    exact h)
  clear hw4 R3 R4 S3 B3
  go_wp2_with fail
  go_loopw [8] (fun v8 wr => ∃ n : Nat, v8 = .int .i64 n ∧ n ≤ cnt ∧ (0 < cnt → 0 < n) ∧ Hid (Filled wr g n cnt) ∧ Hid (Below w2.heap.size w2 wr)) (fun v8 _ => cnt - (intOf v8).toNat)
  case atStart => exact ⟨n1, rfl, hn1a, hn1d, F4, B4⟩
  case round =>
    obtain ⟨n, rfl, hn, hnp, FN, BN⟩ := hrel
    by_cases hlt : n < cnt
    · have hnp := hnp (by omega)
      obtain ⟨d, hd⟩ : ∃ d, Nat.min n (cnt - n) = d := ⟨_, rfl⟩
      have hd' : d ≤ n ∧ n + d ≤ cnt ∧ 0 < d := by
        have : Nat.min n (cnt - n) = min n (cnt - n) := rfl
        omega
      obtain ⟨hd1, hd2, hd3⟩ := hd'
      have hni : (n : Int) < (cnt : Int) := by omega
      go_wp2_with fail
      have RD := Lib.hid (show RowIn' wr.drew g (blanksL n ++ noughts (cnt - n)) [] from ⟨FN.out.heap⟩)
      have fl := flat_length (blanksL n ++ noughts (cnt - n))
      rw [filled_length hn] at fl
      have fb := flat_length (blanksL d)
      rw [blanksL_length] at fb
      have CQ := fun ty => run_copy_three (P := Tryz.prog) wr.drew 51 51 ty 67 i0 g (n * 3) (cnt - n) (cnt - n) ⟨g, 0, none⟩ n cnt _ 67 (flat (blanksL d)) Tryz.underlying51 hi0 hz1 RD.out.heap (by rw [fb, hd]) (fun j u hu => by
        have hj := (List.getElem?_eq_some_iff.1 hu).1
        rw [add_at', cell_of_row _ g _ _ _ (0, 0) RD.out.heap, Nat.zero_add]
        have hfn := flat_length (blanksL n)
        rw [blanksL_length] at hfn
        rw [List.append_nil, List.getElem?_toArray, flat_append, List.getElem?_append_left (by omega)]
        have e : blanksL n = blanksL d ++ blanksL (n - d) := by rw [blanks_append]; congr 1; omega
        rw [e, flat_append, List.getElem?_append_left hj]
        exact hu) (by simp only [List.append_nil, List.size_toArray]; omega) (flat_one _)
      have R9 := Lib.hid (RD.out.copied (k := n) (L := blanksL d) (by rw [filled_length hn, blanksL_length]; exact hd2))
      obtain ⟨w9, hw9⟩ : ∃ w9, wr.drew.setRow g ((flat (blanksL n ++ noughts (cnt - n)) ++ []).toArray.toList.take (n * 3) ++ flat (blanksL d) ++ (flat (blanksL n ++ noughts (cnt - n)) ++ []).toArray.toList.drop (n * 3 + (flat (blanksL d)).length)).toArray = w9 := ⟨_, rfl⟩
      have B9 := Lib.hid (show Below w2.heap.size w2 w9 by rw [← hw9]; exact BN.out.drew.trans ((Turned.ofOnly (onlyRow g _ _)).toBelow BN.out.drew.size (fun k hk e => by have := HG.out; omega)))
      rw [hw9, fill_more hd2] at R9
      rw [hw9, hd] at CQ
      have hsum : IntKind.i64.wrap ((n : Int) + (d : Int)) = (n : Int) + (d : Int) := IntWalk.i64_in _ (by omega)
      refine Ord.start (S := fun w' => w' = wr.drew ∨ w' = w9) (n := 10) (by kernel_rfl) (by kernel_rfl) (.inl rfl) ?_
      apply rep_round (w1 := wr.drew) (w9 := w9) (g := g) (cnt := cnt) (n := n) (d := d) (p0 := .slice (some ⟨b0, 0, none⟩) 1 1) (p1 := .int .i64 (cnt : Int)) (p2 := undef) (p3 := undef) (p4 := .slice none 0 0) (p5 := .int .u64 0) (p6 := .int .u64 (cnt : Int)) (p9 := .int .i64 (cnt : Int)) (p10 := .bool (decide ((cnt : Int) < 0))) (p11 := undef) (p12 := .tuple #[.int .u64 0, .int .u64 (cnt : Int)]) (p13 := .slice (some ⟨b0, 0, none⟩) 1 1) (p14 := .int .i64 1) (p15 := .int .u64 1) (p16 := .int .i64 (cnt : Int)) (p17 := .int .u64 (cnt : Int)) (p18 := .tuple #[.int .u64 0, .int .u64 (cnt : Int)]) (p19 := .int .u64 0) (p20 := .int .u64 (cnt : Int)) (p21 := .int .u64 0) (p22 := .bool false) (p23 := .bool false) (p24 := .int .u64 (cnt : Int)) (p25 := .bool (decide ((9223372036854775807 : Int) < (cnt : Int)))) (p26 := .bool (decide ((9223372036854775807 : Int) < (cnt : Int)))) (p27 := undef) (p28 := .int .u64 (cnt : Int)) (p29 := .int .i64 (cnt : Int)) (p30 := .slice (some ⟨g, 0, none⟩) cnt cnt) (p31 := .slice (some ⟨g, 0, none⟩) cnt cnt) (p32 := .slice (some ⟨b0, 0, none⟩) 1 1) (p33 := .int .i64 (n1 : Int)) (p47 := undef)
      case R => exact ⟨by kernel_rfl, by kernel_rfl⟩
      case hQ => exact fun _ _ _ _ _ h => h
      case hni => omega
      case hn0 => omega
      case hnl => exact hlt
      case hsub => omega
      case hcn => omega
      case hsum => exact hsum
      case CP => exact CQ
      case F => exact ⟨rfl, rfl, rfl, rfl, rfl, rfl, rfl, rfl, rfl, rfl, rfl, rfl, rfl, rfl, rfl, rfl, rfl, rfl, rfl, rfl, rfl, rfl, rfl, rfl, rfl, rfl, rfl, rfl, rfl, rfl, rfl, rfl, rfl, rfl, rfl, rfl⟩
      case f8 => rfl
      intro a2 F2 f8
      refine rep_frame F2.size F2.defers F2.s0 F2.s1 F2.s2 F2.s3 F2.s4 F2.s5 F2.s6 F2.s7 f8 F2.s9 F2.s10 F2.s11 F2.s12 F2.s13 F2.s14 F2.s15 F2.s16 F2.s17 F2.s18 F2.s19 F2.s20 F2.s21 F2.s22 F2.s23 F2.s24 F2.s25 F2.s26 F2.s27 F2.s28 F2.s29 F2.s30 F2.s31 F2.s32 F2.s33 F2.s47 ?_
      intros
      clear F2 f8 CQ
      try dsimp only
      go_wp2
      go_roundw
      case rel => exact ⟨n + d, by first | rfl | (congr 1; done) | (congr 1; omega), hd2, fun _ => by omega, R9, B9⟩
      case measure => first | (simp [intOf]; done) | (simp [intOf]; omega)
    · obtain rfl : n = cnt := by omega
      have DN := Lib.hid (show RowIn' wr g (blanksL n) [] by
        have h := FN.out
        unfold Filled at h
        rw [Nat.sub_self] at h
        simpa [noughts] using h)
      go_wp2
      go_ret
      exact ⟨g, rfl, Nat.le_of_eq HG.out, DN.out, BN.out⟩
set_option maxRecDepth 100000 in
set_option maxHeartbeats 1600000 in
theorem blanks_walk (cnt : Nat) (w : World) (hc : cnt ≤ 1000000) :
    Calls Tryz.prog 81 #[.int .i64 (cnt : Int)] w fun e w' => ∃ g, e = .returned (.slice (some ⟨g, 0, none⟩) cnt cnt) ∧ w.heap.size ≤ g ∧ RowIn' w' g (blanksL cnt) [] ∧ Below w.heap.size w w' := by
  have BW := Lib.hid (blank_walk w)
  go_enter Tryz.func81, Tryz.ntmps81
  go_wp2_with fail
  refine BW.out.mono ?_
  rintro e w2 ⟨rfl, b2⟩
  have B2 := Lib.hid b2
  have b3 := (Below.refl w2.heap.size w2).alloc (Nat.le_refl _) (.cells #[.int .i32 32, .int .i64 1, .int .i64 0] 67)
  have RW := Lib.hid (repeat_walk w2.heap.size cnt (w2.alloc (.cells #[.int .i32 32, .int .i64 1, .int .i64 0] 67)) hc (heap_alloc_new w2 _))
  have B3 := Lib.hid b3
  clear b2 b3 BW
  go_wp2_with fail
  refine RW.out.mono ?_
  rintro e w4 ⟨g, rfl, hg, r4, b4⟩
  have B34 := B3.out.trans (b4.mono B3.out.size)
  have DN := Lib.hid (And.intro (show w.heap.size ≤ g from Nat.le_trans B2.out.size (Nat.le_trans B3.out.size hg)) (And.intro r4 (B2.out.trans (B34.mono B2.out.size))))
  clear hg r4 b4 RW B34
  go_wp2
  go_ret
  exact ⟨g, rfl, DN.out⟩
end Rw
end Go.Proofs.YtibihjcpkdfgeaaGreatDoor
namespace Go.Proofs.YtibihjcpkdfgeaaGreatDoor
open Go.ChangeShapes Go.WideShapes Go.ChangeAt Go.RowKit
namespace Rw

/-- A row of a call's own, as cells in a block. -/
theorem rowIn_of {w : World} {base n c : Nat} {A : Option Addr} {l : List Cel} (h : HasC w base (.slice A n c) l) (hn : 0 < n) : ∃ g tail, A = some ⟨g, 0, none⟩ ∧ base ≤ g ∧ n ≤ c ∧ RowIn' w g l tail ∧ ∀ (W : World) (l' : List Cel), l'.length = n → RowIn' W g l' tail → HasC W base (.slice (some ⟨g, 0, none⟩) n c) l' := by
  have hl : l.length = n := by
    obtain ⟨A', c', e, _⟩ := HasC.shape h
    injection e with _ e _
    exact e.symm
  unfold HasC at h
  rcases h.2 with ⟨e, h0⟩ | ⟨g, cap, cur, e, e2, e3, e4, e5, e6, e7⟩
  · omega
  · injection e with ea eb ec
    subst ea ec
    rw [hl] at e4 e7
    have hcur : cur = (flat l ++ cur.toList.drop (n * 3)).toArray := by
      apply Array.ext'
      rw [← e7]
      simp
    refine ⟨g, cur.toList.drop (n * 3), rfl, e2, e4, ⟨by rw [← hcur]; exact e3⟩, fun W l' hl' hR => ?_⟩
    unfold HasC
    have hfl := flat_length l'
    have hsz : cur.toList.length = c * 3 := by rw [Array.length_toList]; exact e6
    refine ⟨flat_length l', .inr ⟨g, c, _, by rw [hl'], e2, hR.heap, by omega, e5, ?_, ?_⟩⟩
    · simp only [List.size_toArray, List.length_append, List.length_drop]
      omega
    · show (flat l' ++ cur.toList.drop (n * 3)).take (l'.length * 3) = flat l'
      rw [← hfl, List.take_left]
def setOk (l : List Cel) (col : Int) (L : List Cel) : Bool := mayL l && isOneB L && decide (0 ≤ col) && decide (col ≤ (l.length : Int) - (L.length : Int))
def setRes (l : List Cel) (col : Int) (L : List Cel) : List Cel := if setOk l col L then ovL l col.toNat L else l
def SetPost (ok : Bool) (wrap : Bool) (l : List Cel) (w : World) (e : Ending) (w' : World) : Prop := ∃ A n c, e = .returned (.tuple #[.agg #[.slice A n c, .bool wrap], .bool ok]) ∧ HasC w' w.heap.size (.slice A n c) l ∧ Below w.heap.size w w'
set_option maxRecDepth 100000 in
set_option maxHeartbeats 6400000 in
theorem rowSet_walk (A : Option Addr) (n c : Nat) (wrap : Bool) (l : List Cel) (col : Int) (A2 : Option Addr) (m c2 : Nat) (L : List Cel) (w : World) (hs : Spans w) (hl : ∀ c ∈ l, -2147483648 ≤ c.1 ∧ c.1 ≤ 2147483647) (hL : ∀ c ∈ L, -2147483648 ≤ c.1 ∧ c.1 ≤ 2147483647) (hq : Sq w w.heap.size 3 n A (flat l)) (hn : n ≤ 1000000) (hm : m ≤ 1000000) (hq2 : Sq w w.heap.size 3 m A2 (flat L)) :
    Calls Tryz.prog 33 #[rowV A n c wrap, .int .i64 col, .slice A2 m c2] w fun e w' => SetPost (setOk l col L) wrap (setRes l col L) w e w' := by
  have hln : l.length = n := by have := hq.len; rw [flat_length] at this; omega
  have hLm : L.length = m := by have := hq2.len; rw [flat_length] at this; omega
  have Q := Lib.hid hq
  have Q2 := Lib.hid hq2
  have S := Lib.hid hs
  have HL := Lib.hid hl
  have HL2 := Lib.hid hL
  have LN := Lib.hid hln
  have LM := Lib.hid hLm
  clear hq hq2 hs hl hL hln hLm
  go_enter Tryz.func33, Tryz.ntmps33
  go_wp2_with fail
  have ba := ((Below.refl w.heap.size w).alloc (Nat.le_refl _) (.cells #[.slice A n c, .bool wrap] 53)).alloc (by simp) (.cells #[.slice none 0 0, .bool false] 53)
  have r0 : RowAt ((w.alloc (.cells #[.slice A n c, .bool wrap] 53)).alloc (.cells #[.slice none 0 0, .bool false] 53)) w.heap.size (.slice A n c) wrap := (Below.heap_alloc _ _ _ (by simp)).trans (heap_alloc_new w _)
  have z0 : RowAt ((w.alloc (.cells #[.slice A n c, .bool wrap] 53)).alloc (.cells #[.slice none 0 0, .bool false] 53)) (w.heap.size + 1) (.slice none 0 0) false := by
    have h := heap_alloc_new (w.alloc (.cells #[.slice A n c, .bool wrap] 53)) (.cells #[.slice none 0 0, .bool false] 53)
    rw [World.size_alloc] at h
    exact h
  have sa : ((w.alloc (.cells #[.slice A n c, .bool wrap] 53)).alloc (.cells #[.slice none 0 0, .bool false] 53)).heap.size = w.heap.size + 2 := by simp
  generalize (w.alloc (.cells #[.slice A n c, .bool wrap] 53)).alloc (.cells #[.slice none 0 0, .bool false] 53) = wa at ba r0 z0 sa ⊢
  obtain ⟨g0, hg0⟩ : ∃ g0, w.heap.size = g0 := ⟨_, rfl⟩
  obtain ⟨g1, hg1⟩ : ∃ g1, g0 + 1 = g1 := ⟨_, rfl⟩
  rw [hg0, hg1] at z0
  rw [hg0] at r0 sa
  have HGW := Lib.hid (show w.heap.size + 2 = wa.heap.size by omega)
  have HG1 := Lib.hid (show w.heap.size ≤ g1 by omega)
  rw [hg0, hg1]
  refine (copied_walk A n c wrap l wa ((Q.out.below ba).up ba.size) hn).mono ?_
  rintro e w3 ⟨v3, rfl, hv3, b3⟩
  obtain ⟨A3, c3, rfl, hc3⟩ := HasC.shape hv3
  rw [LN.out] at hv3 hc3 ⊢
  have bw3 := ba.trans (b3.mono ba.size)
  have b4 := (Below.refl w3.heap.size w3).alloc (Nat.le_refl _) (.cells #[.slice A3 n c3, .bool wrap] 53)
  obtain ⟨g8, hg8⟩ : ∃ g8, w3.heap.size = g8 := ⟨_, rfl⟩
  have R8 := Lib.hid (show RowAt (w3.alloc (.cells #[.slice A3 n c3, .bool wrap] 53)) g8 (.slice A3 n c3) wrap by rw [← hg8]; exact heap_alloc_new w3 _)
  have r03 : RowAt w3 g0 (.slice A n c) wrap := (b3.block g0 r0.lt).trans r0
  have z03 : RowAt w3 g1 (.slice none 0 0) false := (b3.block g1 z0.lt).trans z0
  have R0 := Lib.hid (show RowAt (w3.alloc (.cells #[.slice A3 n c3, .bool wrap] 53)) g0 (.slice A n c) wrap from (b4.block g0 r03.lt).trans r03)
  have Z0 := Lib.hid (show RowAt (w3.alloc (.cells #[.slice A3 n c3, .bool wrap] 53)) g1 (.slice none 0 0) false from (b4.block g1 z03.lt).trans z03)
  have HV := Lib.hid (HasC.keep (w' := w3.alloc (.cells #[.slice A3 n c3, .bool wrap] 53)) hv3 (fun j e => b4.block j (HasC.lt hv3 j e).2))
  have B4 := Lib.hid (bw3.trans (b4.mono bw3.size))
  have hne8 : g8 ≠ g1 := by have := z03.lt; omega
  have NG1 := Lib.hid (show ∀ j, (Value.slice A3 n c3).ownBlock = some j → j ≠ g1 from fun j e e2 => by have := (HasC.lt hv3 j e).1; omega)
  have NG8 := Lib.hid (show ∀ j, (Value.slice A3 n c3).ownBlock = some j → j ≠ g8 from fun j e e2 => by have := (HasC.lt hv3 j e).2; omega)
  have NB := Lib.hid (show ∀ j, (Value.slice A3 n c3).ownBlock = some j → w.heap.size ≤ j from fun j e => by have := (HasC.lt hv3 j e).1; omega)
  have y0 : w3.cell? ⟨g0, 0, none⟩ = some (.slice A n c) := r03.get 0
  have y1 : w3.cell? ⟨g0, 1, none⟩ = some (.bool wrap) := r03.get 1
  have hl0 := r03.lt
  have HG8 := Lib.hid hg8
  clear ba r0 z0 sa b3 hv3 bw3 b4 r03 z03 hg0 hg1 hg8
  go_wp2_with fail
  rw [HG8.out]
  clear y0 y1 hl0
  generalize w3.alloc (.cells #[.slice A3 n c3, .bool wrap] 53) = w4 at R8 R0 Z0 HV B4 ⊢
  refine (packMay_walk A n c wrap l w4 (S.out.below B4.out S.out.size) HL.out ((Q.out.below B4.out).up B4.out.size) hn).mono ?_
  rintro e w5 ⟨rfl, b5⟩
  have R8x := Lib.hid (show RowAt w5 g8 (.slice A3 n c3) wrap from (b5.block g8 R8.out.lt).trans R8.out)
  have R0x := Lib.hid (show RowAt w5 g0 (.slice A n c) wrap from (b5.block g0 R0.out.lt).trans R0.out)
  have Z0x := Lib.hid (show RowAt w5 g1 (.slice none 0 0) false from (b5.block g1 Z0.out.lt).trans Z0.out)
  have HVx := Lib.hid (HasC.keep (w' := w5) HV.out (fun j e => b5.block j (HasC.lt HV.out j e).2))
  have Bx := Lib.hid (B4.out.trans (b5.mono B4.out.size))
  clear b5 R8 R0 Z0 HV B4
  have DNF := Lib.hid (fun (hok : setOk l col L = false) (W : World) (hv : HasC W wa.heap.size (.slice A3 n c3) l) (hb : Below w.heap.size w W) => (show SetPost (setOk l col L) wrap (setRes l col L) w (.returned (.tuple #[.agg #[.slice A3 n c3, .bool wrap], .bool false])) W by
    rw [hok, show setRes l col L = l by unfold setRes; rw [hok, if_neg (by decide)]]
    exact ⟨A3, n, c3, rfl, HasC.mono hv (by have := HGW.out; omega), hb⟩))
  obtain ⟨mb, hmb⟩ : ∃ mb, mayL l = mb := ⟨_, rfl⟩
  have MB := Lib.hid hmb
  rw [hmb]
  clear hmb
  cases mb with
  | false =>
    have DN := Lib.hid (DNF.out (by unfold setOk; rw [MB.out]; rfl))
    clear DNF
    have k80 : w5.cell? ⟨g8, 0, none⟩ = some (.slice A3 n c3) := R8x.out.get 0
    have k81 : w5.cell? ⟨g8, 1, none⟩ = some (.bool wrap) := R8x.out.get 1
    have z0 : w5.cell? ⟨g1, 0, none⟩ = some (.slice none 0 0) := Z0x.out.get 0
    have z1 : w5.cell? ⟨g1, 1, none⟩ = some (.bool false) := Z0x.out.get 1
    have zf0 := Z0x.out.free 0
    have zf1 := Z0x.out.free 1
    have RF := Lib.hid (RowAt.put2 Z0x.out (.slice A3 n c3) wrap)
    have OF := (OnlyRow.cell g1 0 w5 (.slice A3 n c3)).trans (OnlyRow.cell g1 1 _ (.bool wrap))
    have HF := Lib.hid (HasC.keep HVx.out (fun j e => OF.block j (NG1.out j e)))
    have BF := Lib.hid (Bx.out.trans ((Turned.ofOnly OF).toBelow Bx.out.size (fun k hk e => by have := HG1.out; omega)))
    clear OF
    go_wp2
    generalize (w5.setCell ⟨g1, 0, none⟩ (.slice A3 n c3)).setCell ⟨g1, 1, none⟩ (.bool wrap) = wz at RF HF BF ⊢
    have e0 : wz.cell? ⟨g1, 0, none⟩ = some (.slice A3 n c3) := RF.out.get 0
    have e1 : wz.cell? ⟨g1, 1, none⟩ = some (.bool wrap) := RF.out.get 1
    exact bodyPost_ret (v := .tuple #[.agg #[.slice A3 n c3, .bool wrap], .bool false]) (by simp [results, Tryz.results33, go_sem, e0, e1]) rfl (DN.out wz HF.out BF.out)
  | true =>
    go_wp2_with fail
    refine (isOne_walk A2 m c2 L w5 (S.out.below Bx.out S.out.size) HL2.out hm ((Q2.out.below Bx.out).up Bx.out.size)).mono ?_
    rintro e w6 ⟨rfl, b6⟩
    have R8y := Lib.hid (show RowAt w6 g8 (.slice A3 n c3) wrap from (b6.block g8 R8x.out.lt).trans R8x.out)
    have R0y := Lib.hid (show RowAt w6 g0 (.slice A n c) wrap from (b6.block g0 R0x.out.lt).trans R0x.out)
    have Z0y := Lib.hid (show RowAt w6 g1 (.slice none 0 0) false from (b6.block g1 Z0x.out.lt).trans Z0x.out)
    have HVy := Lib.hid (HasC.keep (w' := w6) HVx.out (fun j e => b6.block j (HasC.lt HVx.out j e).2))
    have By := Lib.hid (Bx.out.trans (b6.mono Bx.out.size))
    clear b6 R8x R0x Z0x HVx Bx
    obtain ⟨ob, hob⟩ : ∃ ob, isOneB L = ob := ⟨_, rfl⟩
    have OB := Lib.hid hob
    rw [hob]
    clear hob
    cases ob with
    | false =>
      have DN := Lib.hid (DNF.out (by unfold setOk; rw [MB.out, OB.out]; rfl))
      clear DNF
      have k80 : w6.cell? ⟨g8, 0, none⟩ = some (.slice A3 n c3) := R8y.out.get 0
      have k81 : w6.cell? ⟨g8, 1, none⟩ = some (.bool wrap) := R8y.out.get 1
      have z0 : w6.cell? ⟨g1, 0, none⟩ = some (.slice none 0 0) := Z0y.out.get 0
      have z1 : w6.cell? ⟨g1, 1, none⟩ = some (.bool false) := Z0y.out.get 1
      have zf0 := Z0y.out.free 0
      have zf1 := Z0y.out.free 1
      have RF := Lib.hid (RowAt.put2 Z0y.out (.slice A3 n c3) wrap)
      have OF := (OnlyRow.cell g1 0 w6 (.slice A3 n c3)).trans (OnlyRow.cell g1 1 _ (.bool wrap))
      have HF := Lib.hid (HasC.keep HVy.out (fun j e => OF.block j (NG1.out j e)))
      have BF := Lib.hid (By.out.trans ((Turned.ofOnly OF).toBelow By.out.size (fun k hk e => by have := HG1.out; omega)))
      clear OF
      go_wp2
      generalize (w6.setCell ⟨g1, 0, none⟩ (.slice A3 n c3)).setCell ⟨g1, 1, none⟩ (.bool wrap) = wz at RF HF BF ⊢
      have e0 : wz.cell? ⟨g1, 0, none⟩ = some (.slice A3 n c3) := RF.out.get 0
      have e1 : wz.cell? ⟨g1, 1, none⟩ = some (.bool wrap) := RF.out.get 1
      exact bodyPost_ret (v := .tuple #[.agg #[.slice A3 n c3, .bool wrap], .bool false]) (by simp [results, Tryz.results33, go_sem, e0, e1]) rfl (DN.out wz HF.out BF.out)
    | true =>
      by_cases hc0 : col < 0
      · have DN := Lib.hid (DNF.out (by unfold setOk; rw [decide_eq_false (show ¬ 0 ≤ col by omega)]; simp))
        clear DNF
        have k80 : w6.cell? ⟨g8, 0, none⟩ = some (.slice A3 n c3) := R8y.out.get 0
        have k81 : w6.cell? ⟨g8, 1, none⟩ = some (.bool wrap) := R8y.out.get 1
        have z0 : w6.cell? ⟨g1, 0, none⟩ = some (.slice none 0 0) := Z0y.out.get 0
        have z1 : w6.cell? ⟨g1, 1, none⟩ = some (.bool false) := Z0y.out.get 1
        have zf0 := Z0y.out.free 0
        have zf1 := Z0y.out.free 1
        have RF := Lib.hid (RowAt.put2 Z0y.out (.slice A3 n c3) wrap)
        have OF := (OnlyRow.cell g1 0 w6 (.slice A3 n c3)).trans (OnlyRow.cell g1 1 _ (.bool wrap))
        have HF := Lib.hid (HasC.keep HVy.out (fun j e => OF.block j (NG1.out j e)))
        have BF := Lib.hid (By.out.trans ((Turned.ofOnly OF).toBelow By.out.size (fun k hk e => by have := HG1.out; omega)))
        clear OF
        go_wp2
        generalize (w6.setCell ⟨g1, 0, none⟩ (.slice A3 n c3)).setCell ⟨g1, 1, none⟩ (.bool wrap) = wz at RF HF BF ⊢
        have e0 : wz.cell? ⟨g1, 0, none⟩ = some (.slice A3 n c3) := RF.out.get 0
        have e1 : wz.cell? ⟨g1, 1, none⟩ = some (.bool wrap) := RF.out.get 1
        exact bodyPost_ret (v := .tuple #[.agg #[.slice A3 n c3, .bool wrap], .bool false]) (by simp [results, Tryz.results33, go_sem, e0, e1]) rfl (DN.out wz HF.out BF.out)
      · have hcd : decide (col < 0) = false := by simp; omega
        have hsub : IntKind.i64.wrap ((n : Int) - (m : Int)) = (n : Int) - (m : Int) := IntWalk.i64_in _ (by omega)
        have y0 : w6.cell? ⟨g0, 0, none⟩ = some (.slice A n c) := R0y.out.get 0
        by_cases hcn : (n : Int) - (m : Int) < col
        · have DN := Lib.hid (DNF.out (by unfold setOk; rw [LN.out, LM.out, decide_eq_false (show ¬ col ≤ (n : Int) - (m : Int) by omega)]; simp))
          clear DNF
          have k80 : w6.cell? ⟨g8, 0, none⟩ = some (.slice A3 n c3) := R8y.out.get 0
          have k81 : w6.cell? ⟨g8, 1, none⟩ = some (.bool wrap) := R8y.out.get 1
          have z0 : w6.cell? ⟨g1, 0, none⟩ = some (.slice none 0 0) := Z0y.out.get 0
          have z1 : w6.cell? ⟨g1, 1, none⟩ = some (.bool false) := Z0y.out.get 1
          have zf0 := Z0y.out.free 0
          have zf1 := Z0y.out.free 1
          have RF := Lib.hid (RowAt.put2 Z0y.out (.slice A3 n c3) wrap)
          have OF := (OnlyRow.cell g1 0 w6 (.slice A3 n c3)).trans (OnlyRow.cell g1 1 _ (.bool wrap))
          have HF := Lib.hid (HasC.keep HVy.out (fun j e => OF.block j (NG1.out j e)))
          have BF := Lib.hid (By.out.trans ((Turned.ofOnly OF).toBelow By.out.size (fun k hk e => by have := HG1.out; omega)))
          clear OF
          go_wp2
          generalize (w6.setCell ⟨g1, 0, none⟩ (.slice A3 n c3)).setCell ⟨g1, 1, none⟩ (.bool wrap) = wz at RF HF BF ⊢
          have e0 : wz.cell? ⟨g1, 0, none⟩ = some (.slice A3 n c3) := RF.out.get 0
          have e1 : wz.cell? ⟨g1, 1, none⟩ = some (.bool wrap) := RF.out.get 1
          exact bodyPost_ret (v := .tuple #[.agg #[.slice A3 n c3, .bool wrap], .bool false]) (by simp [results, Tryz.results33, go_sem, e0, e1]) rfl (DN.out wz HF.out BF.out)
        · obtain ⟨k, rfl⟩ := Int.eq_ofNat_of_zero_le (show 0 ≤ col by omega)
          have hL0 : 0 < m := by
            rcases Nat.eq_zero_or_pos m with h0 | h0
            · have e : L = [] := List.eq_nil_of_length_eq_zero (by rw [LM.out]; exact h0)
              have := OB.out
              rw [e] at this
              cases this
            · exact h0
          have hkm : k + m ≤ n := by omega
          have hok : setOk l (k : Int) L = true := by
            unfold setOk
            rw [MB.out, OB.out, LN.out, LM.out, decide_eq_true (show (0 : Int) ≤ (k : Int) by omega), decide_eq_true (show (k : Int) ≤ (n : Int) - (m : Int) by omega)]
            rfl
          have DNT := Lib.hid (fun (W : World) (hv : HasC W wa.heap.size (.slice A3 n c3) (ovL l k L)) (hb : Below w.heap.size w W) => (show SetPost (setOk l (k : Int) L) wrap (setRes l (k : Int) L) w (.returned (.tuple #[.agg #[.slice A3 n c3, .bool wrap], .bool true])) W by
            have e : setRes l (k : Int) L = ovL l k L := by unfold setRes; rw [hok, if_pos rfl]; rfl
            rw [e, hok]
            exact ⟨A3, n, c3, rfl, HasC.mono hv (by have := HGW.out; omega), hb⟩))
          obtain ⟨gg, tail, rfl, hgb, hnc, RI, CV⟩ := rowIn_of HVy.out (by omega)
          have G := ((mayL_iff l).1 MB.out).2
          obtain ⟨b2, o2, rfl, hb2, hcl⟩ := Q2.out.spot hL0
          have hgw := NB.out gg rfl
          have hg8 := NG8.out gg rfl
          have hgg1 := NG1.out gg rfl
          have OW := Lib.hid (overwrite_walk gg n c3 k b2 o2 m c2 l L tail w6 RI LN.out hnc hn G LM.out hL0 hkm (fun W' ht j u hu => by
            rw [add_at']
            have hlt6 : b2 < w6.heap.size := Nat.lt_of_lt_of_le hb2 By.out.size
            have e1 : W'.cell? ⟨b2, o2 + j, none⟩ = w6.cell? ⟨b2, o2 + j, none⟩ := World.cell?_of_block (ht.block b2 hlt6 (by omega))
            rw [e1, By.out.cell (p := ⟨b2, o2 + j, none⟩) hb2]
            exact hcl j u hu))
          have CV' := Lib.hid CV
          have k80 : w6.cell? ⟨g8, 0, none⟩ = some (.slice (some ⟨gg, 0, none⟩) n c3) := R8y.out.get 0
          clear DNF RI CV hcl HVy
          go_wp2_with fail
          refine OW.out.mono ?_
          rintro e w7 ⟨⟨_, rfl⟩, RI7, T7⟩
          have R8z := Lib.hid (show RowAt w7 g8 (.slice (some ⟨gg, 0, none⟩) n c3) wrap from (T7.block g8 R8y.out.lt (by omega)).trans R8y.out)
          have Z0z := Lib.hid (show RowAt w7 g1 (.slice none 0 0) false from (T7.block g1 Z0y.out.lt (by omega)).trans Z0y.out)
          have HVz := Lib.hid (CV'.out w7 _ (by rw [ovL_length]; exact LN.out) RI7)
          have Bz := Lib.hid (By.out.trans (T7.toBelow By.out.size (fun k hk e => by omega)))
          clear RI7 T7 OW R8y R0y Z0y By y0 k80
          have k80 : w7.cell? ⟨g8, 0, none⟩ = some (.slice (some ⟨gg, 0, none⟩) n c3) := R8z.out.get 0
          have k81 : w7.cell? ⟨g8, 1, none⟩ = some (.bool wrap) := R8z.out.get 1
          have z0 : w7.cell? ⟨g1, 0, none⟩ = some (.slice none 0 0) := Z0z.out.get 0
          have z1 : w7.cell? ⟨g1, 1, none⟩ = some (.bool false) := Z0z.out.get 1
          have zf0 := Z0z.out.free 0
          have zf1 := Z0z.out.free 1
          have RF := Lib.hid (RowAt.put2 Z0z.out (.slice (some ⟨gg, 0, none⟩) n c3) wrap)
          have OF := (OnlyRow.cell g1 0 w7 (.slice (some ⟨gg, 0, none⟩) n c3)).trans (OnlyRow.cell g1 1 _ (.bool wrap))
          have HF := Lib.hid (HasC.keep HVz.out (fun j e => OF.block j (NG1.out j e)))
          have BF := Lib.hid (Bz.out.trans ((Turned.ofOnly OF).toBelow Bz.out.size (fun k hk e => by have := HG1.out; omega)))
          clear OF
          go_wp2
          generalize (w7.setCell ⟨g1, 0, none⟩ (.slice (some ⟨gg, 0, none⟩) n c3)).setCell ⟨g1, 1, none⟩ (.bool wrap) = wz at RF HF BF ⊢
          have e0 : wz.cell? ⟨g1, 0, none⟩ = some (.slice (some ⟨gg, 0, none⟩) n c3) := RF.out.get 0
          have e1 : wz.cell? ⟨g1, 1, none⟩ = some (.bool wrap) := RF.out.get 1
          exact bodyPost_ret (v := .tuple #[.agg #[.slice (some ⟨gg, 0, none⟩) n c3, .bool wrap], .bool true]) (by simp [results, Tryz.results33, go_sem, e0, e1]) rfl (DNT.out wz HF.out BF.out)
end Rw
end Go.Proofs.YtibihjcpkdfgeaaGreatDoor
namespace Go.Proofs.YtibihjcpkdfgeaaGreatDoor
open Go.ChangeShapes Go.WideShapes Go.ChangeAt Go.RowKit
namespace Rw

def eraseOk (l : List Cel) (a b : Int) : Bool := mayL l && decide (0 ≤ a) && decide (a ≤ b) && decide (b ≤ (l.length : Int))
def eraseRes (l : List Cel) (a b : Int) : List Cel := if eraseOk l a b && decide (a < b) then ovL l a.toNat (blanksL (b - a).toNat) else l
def eraseWrap (wrap : Bool) (l : List Cel) (a b : Int) : Bool := if eraseOk l a b && decide (a < b) && decide (b = (l.length : Int)) then false else wrap
def ErasePost (ok wrap : Bool) (l : List Cel) (w : World) (e : Ending) (w' : World) : Prop := ∃ A n c, e = .returned (.tuple #[.agg #[.slice A n c, .bool wrap], .bool ok]) ∧ HasC w' w.heap.size (.slice A n c) l ∧ Below w.heap.size w w'
set_option maxRecDepth 100000 in
set_option maxHeartbeats 6400000 in
theorem rowErase_walk (A : Option Addr) (n c : Nat) (wrap : Bool) (l : List Cel) (from' to' : Int) (w : World) (hs : Spans w) (hl : ∀ c ∈ l, -2147483648 ≤ c.1 ∧ c.1 ≤ 2147483647) (hq : Sq w w.heap.size 3 n A (flat l)) (hn : n ≤ 1000000) :
    Calls Tryz.prog 35 #[rowV A n c wrap, .int .i64 from', .int .i64 to'] w fun e w' => ErasePost (eraseOk l from' to') (eraseWrap wrap l from' to') (eraseRes l from' to') w e w' := by
  have hln : l.length = n := by have := hq.len; rw [flat_length] at this; omega
  have Q := Lib.hid hq
  have S := Lib.hid hs
  have HL := Lib.hid hl
  have LN := Lib.hid hln
  clear hq hs hl hln
  go_enter Tryz.func35, Tryz.ntmps35
  go_wp2_with fail
  have ba := ((Below.refl w.heap.size w).alloc (Nat.le_refl _) (.cells #[.slice A n c, .bool wrap] 53)).alloc (by simp) (.cells #[.slice none 0 0, .bool false] 53)
  have r0 : RowAt ((w.alloc (.cells #[.slice A n c, .bool wrap] 53)).alloc (.cells #[.slice none 0 0, .bool false] 53)) w.heap.size (.slice A n c) wrap := (Below.heap_alloc _ _ _ (by simp)).trans (heap_alloc_new w _)
  have z0 : RowAt ((w.alloc (.cells #[.slice A n c, .bool wrap] 53)).alloc (.cells #[.slice none 0 0, .bool false] 53)) (w.heap.size + 1) (.slice none 0 0) false := by
    have h := heap_alloc_new (w.alloc (.cells #[.slice A n c, .bool wrap] 53)) (.cells #[.slice none 0 0, .bool false] 53)
    rw [World.size_alloc] at h
    exact h
  have sa : ((w.alloc (.cells #[.slice A n c, .bool wrap] 53)).alloc (.cells #[.slice none 0 0, .bool false] 53)).heap.size = w.heap.size + 2 := by simp
  generalize (w.alloc (.cells #[.slice A n c, .bool wrap] 53)).alloc (.cells #[.slice none 0 0, .bool false] 53) = wa at ba r0 z0 sa ⊢
  obtain ⟨g0, hg0⟩ : ∃ g0, w.heap.size = g0 := ⟨_, rfl⟩
  obtain ⟨g1, hg1⟩ : ∃ g1, g0 + 1 = g1 := ⟨_, rfl⟩
  rw [hg0, hg1] at z0
  rw [hg0] at r0 sa
  have HGW := Lib.hid (show w.heap.size + 2 = wa.heap.size by omega)
  have HG1 := Lib.hid (show w.heap.size ≤ g1 by omega)
  have HG0 := Lib.hid hg0
  rw [hg0, hg1]
  refine (copied_walk A n c wrap l wa ((Q.out.below ba).up ba.size) hn).mono ?_
  rintro e w3 ⟨v3, rfl, hv3, b3⟩
  obtain ⟨A3, c3, rfl, hc3⟩ := HasC.shape hv3
  rw [LN.out] at hv3 hc3 ⊢
  have bw3 := ba.trans (b3.mono ba.size)
  have b4 := (Below.refl w3.heap.size w3).alloc (Nat.le_refl _) (.cells #[.slice A3 n c3, .bool wrap] 53)
  obtain ⟨g8, hg8⟩ : ∃ g8, w3.heap.size = g8 := ⟨_, rfl⟩
  have R8 := Lib.hid (show RowAt (w3.alloc (.cells #[.slice A3 n c3, .bool wrap] 53)) g8 (.slice A3 n c3) wrap by rw [← hg8]; exact heap_alloc_new w3 _)
  have r03 : RowAt w3 g0 (.slice A n c) wrap := (b3.block g0 r0.lt).trans r0
  have z03 : RowAt w3 g1 (.slice none 0 0) false := (b3.block g1 z0.lt).trans z0
  have R0 := Lib.hid (show RowAt (w3.alloc (.cells #[.slice A3 n c3, .bool wrap] 53)) g0 (.slice A n c) wrap from (b4.block g0 r03.lt).trans r03)
  have Z0 := Lib.hid (show RowAt (w3.alloc (.cells #[.slice A3 n c3, .bool wrap] 53)) g1 (.slice none 0 0) false from (b4.block g1 z03.lt).trans z03)
  have HV := Lib.hid (HasC.keep (w' := w3.alloc (.cells #[.slice A3 n c3, .bool wrap] 53)) hv3 (fun j e => b4.block j (HasC.lt hv3 j e).2))
  have B4 := Lib.hid (bw3.trans (b4.mono bw3.size))
  have hne8 : g8 ≠ g1 := by have := z03.lt; omega
  have NG1 := Lib.hid (show ∀ j, (Value.slice A3 n c3).ownBlock = some j → j ≠ g1 from fun j e e2 => by have := (HasC.lt hv3 j e).1; omega)
  have NG8 := Lib.hid (show ∀ j, (Value.slice A3 n c3).ownBlock = some j → j ≠ g8 from fun j e e2 => by have := (HasC.lt hv3 j e).2; omega)
  have NB := Lib.hid (show ∀ j, (Value.slice A3 n c3).ownBlock = some j → w.heap.size ≤ j from fun j e => by have := (HasC.lt hv3 j e).1; omega)
  have y0 : w3.cell? ⟨g0, 0, none⟩ = some (.slice A n c) := r03.get 0
  have y1 : w3.cell? ⟨g0, 1, none⟩ = some (.bool wrap) := r03.get 1
  have hl0 := r03.lt
  have HG8 := Lib.hid hg8
  have HG8w := Lib.hid (show w.heap.size ≤ w3.heap.size from bw3.size)
  clear ba r0 z0 sa b3 hv3 bw3 b4 r03 z03 hg0 hg1 hg8
  go_wp2_with fail
  rw [HG8.out]
  clear y0 y1 hl0
  generalize w3.alloc (.cells #[.slice A3 n c3, .bool wrap] 53) = w4 at R8 R0 Z0 HV B4 ⊢
  refine (packMay_walk A n c wrap l w4 (S.out.below B4.out S.out.size) HL.out ((Q.out.below B4.out).up B4.out.size) hn).mono ?_
  rintro e w5 ⟨rfl, b5⟩
  have R8x := Lib.hid (show RowAt w5 g8 (.slice A3 n c3) wrap from (b5.block g8 R8.out.lt).trans R8.out)
  have R0x := Lib.hid (show RowAt w5 g0 (.slice A n c) wrap from (b5.block g0 R0.out.lt).trans R0.out)
  have Z0x := Lib.hid (show RowAt w5 g1 (.slice none 0 0) false from (b5.block g1 Z0.out.lt).trans Z0.out)
  have HVx := Lib.hid (HasC.keep (w' := w5) HV.out (fun j e => b5.block j (HasC.lt HV.out j e).2))
  have Bx := Lib.hid (B4.out.trans (b5.mono B4.out.size))
  clear b5 R8 R0 Z0 HV B4
  have DNF := Lib.hid (fun (ok : Bool) (hok : eraseOk l from' to' = ok) (hno : (ok && decide (from' < to')) = false) (W : World) (hv : HasC W wa.heap.size (.slice A3 n c3) l) (hb : Below w.heap.size w W) => (show ErasePost (eraseOk l from' to') (eraseWrap wrap l from' to') (eraseRes l from' to') w (.returned (.tuple #[.agg #[.slice A3 n c3, .bool wrap], .bool ok])) W by
    have e1 : eraseRes l from' to' = l := by unfold eraseRes; rw [hok, hno]; rfl
    have e2 : eraseWrap wrap l from' to' = wrap := by unfold eraseWrap; rw [hok, hno]; rfl
    rw [hok, e1, e2]
    exact ⟨A3, n, c3, rfl, HasC.mono hv (by have := HGW.out; omega), hb⟩))
  obtain ⟨mb, hmb⟩ : ∃ mb, mayL l = mb := ⟨_, rfl⟩
  have MB := Lib.hid hmb
  rw [hmb]
  clear hmb
  cases mb with
  | false =>
    have DN := Lib.hid (DNF.out false (by unfold eraseOk; rw [MB.out]; rfl) rfl)
    clear DNF
    have k80 : w5.cell? ⟨g8, 0, none⟩ = some (.slice A3 n c3) := R8x.out.get 0
    have k81 : w5.cell? ⟨g8, 1, none⟩ = some (.bool wrap) := R8x.out.get 1
    have z0 : w5.cell? ⟨g1, 0, none⟩ = some (.slice none 0 0) := Z0x.out.get 0
    have z1 : w5.cell? ⟨g1, 1, none⟩ = some (.bool false) := Z0x.out.get 1
    have zf0 := Z0x.out.free 0
    have zf1 := Z0x.out.free 1
    have RF := Lib.hid (RowAt.put2 Z0x.out (.slice A3 n c3) wrap)
    have OF := (OnlyRow.cell g1 0 w5 (.slice A3 n c3)).trans (OnlyRow.cell g1 1 _ (.bool wrap))
    have HF := Lib.hid (HasC.keep HVx.out (fun j e => OF.block j (NG1.out j e)))
    have BF := Lib.hid (Bx.out.trans ((Turned.ofOnly OF).toBelow Bx.out.size (fun k hk e => by have := HG1.out; omega)))
    clear OF
    go_wp2
    generalize (w5.setCell ⟨g1, 0, none⟩ (.slice A3 n c3)).setCell ⟨g1, 1, none⟩ (.bool wrap) = wz at RF HF BF ⊢
    have e0 : wz.cell? ⟨g1, 0, none⟩ = some (.slice A3 n c3) := RF.out.get 0
    have e1 : wz.cell? ⟨g1, 1, none⟩ = some (.bool wrap) := RF.out.get 1
    exact bodyPost_ret (v := .tuple #[.agg #[.slice A3 n c3, .bool wrap], .bool false]) (by simp [results, Tryz.results35, go_sem, e0, e1]) rfl (DN.out wz HF.out BF.out)
  | true =>
    by_cases ha0 : from' < 0
    · have DN := Lib.hid (DNF.out false (by unfold eraseOk; rw [decide_eq_false (show ¬ 0 ≤ from' by omega)]; simp) rfl)
      clear DNF
      have k80 : w5.cell? ⟨g8, 0, none⟩ = some (.slice A3 n c3) := R8x.out.get 0
      have k81 : w5.cell? ⟨g8, 1, none⟩ = some (.bool wrap) := R8x.out.get 1
      have z0 : w5.cell? ⟨g1, 0, none⟩ = some (.slice none 0 0) := Z0x.out.get 0
      have z1 : w5.cell? ⟨g1, 1, none⟩ = some (.bool false) := Z0x.out.get 1
      have zf0 := Z0x.out.free 0
      have zf1 := Z0x.out.free 1
      have RF := Lib.hid (RowAt.put2 Z0x.out (.slice A3 n c3) wrap)
      have OF := (OnlyRow.cell g1 0 w5 (.slice A3 n c3)).trans (OnlyRow.cell g1 1 _ (.bool wrap))
      have HF := Lib.hid (HasC.keep HVx.out (fun j e => OF.block j (NG1.out j e)))
      have BF := Lib.hid (Bx.out.trans ((Turned.ofOnly OF).toBelow Bx.out.size (fun k hk e => by have := HG1.out; omega)))
      clear OF
      go_wp2
      generalize (w5.setCell ⟨g1, 0, none⟩ (.slice A3 n c3)).setCell ⟨g1, 1, none⟩ (.bool wrap) = wz at RF HF BF ⊢
      have e0 : wz.cell? ⟨g1, 0, none⟩ = some (.slice A3 n c3) := RF.out.get 0
      have e1 : wz.cell? ⟨g1, 1, none⟩ = some (.bool wrap) := RF.out.get 1
      exact bodyPost_ret (v := .tuple #[.agg #[.slice A3 n c3, .bool wrap], .bool false]) (by simp [results, Tryz.results35, go_sem, e0, e1]) rfl (DN.out wz HF.out BF.out)
    by_cases hab : to' < from'
    · have DN := Lib.hid (DNF.out false (by unfold eraseOk; rw [decide_eq_false (show ¬ from' ≤ to' by omega)]; simp) rfl)
      clear DNF
      have k80 : w5.cell? ⟨g8, 0, none⟩ = some (.slice A3 n c3) := R8x.out.get 0
      have k81 : w5.cell? ⟨g8, 1, none⟩ = some (.bool wrap) := R8x.out.get 1
      have z0 : w5.cell? ⟨g1, 0, none⟩ = some (.slice none 0 0) := Z0x.out.get 0
      have z1 : w5.cell? ⟨g1, 1, none⟩ = some (.bool false) := Z0x.out.get 1
      have zf0 := Z0x.out.free 0
      have zf1 := Z0x.out.free 1
      have RF := Lib.hid (RowAt.put2 Z0x.out (.slice A3 n c3) wrap)
      have OF := (OnlyRow.cell g1 0 w5 (.slice A3 n c3)).trans (OnlyRow.cell g1 1 _ (.bool wrap))
      have HF := Lib.hid (HasC.keep HVx.out (fun j e => OF.block j (NG1.out j e)))
      have BF := Lib.hid (Bx.out.trans ((Turned.ofOnly OF).toBelow Bx.out.size (fun k hk e => by have := HG1.out; omega)))
      clear OF
      go_wp2
      generalize (w5.setCell ⟨g1, 0, none⟩ (.slice A3 n c3)).setCell ⟨g1, 1, none⟩ (.bool wrap) = wz at RF HF BF ⊢
      have e0 : wz.cell? ⟨g1, 0, none⟩ = some (.slice A3 n c3) := RF.out.get 0
      have e1 : wz.cell? ⟨g1, 1, none⟩ = some (.bool wrap) := RF.out.get 1
      exact bodyPost_ret (v := .tuple #[.agg #[.slice A3 n c3, .bool wrap], .bool false]) (by simp [results, Tryz.results35, go_sem, e0, e1]) rfl (DN.out wz HF.out BF.out)
    have y0 : w5.cell? ⟨g0, 0, none⟩ = some (.slice A n c) := R0x.out.get 0
    by_cases hbn : (n : Int) < to'
    · have DN := Lib.hid (DNF.out false (by unfold eraseOk; rw [LN.out, decide_eq_false (show ¬ to' ≤ (n : Int) by omega)]; simp) rfl)
      clear DNF
      have k80 : w5.cell? ⟨g8, 0, none⟩ = some (.slice A3 n c3) := R8x.out.get 0
      have k81 : w5.cell? ⟨g8, 1, none⟩ = some (.bool wrap) := R8x.out.get 1
      have z0 : w5.cell? ⟨g1, 0, none⟩ = some (.slice none 0 0) := Z0x.out.get 0
      have z1 : w5.cell? ⟨g1, 1, none⟩ = some (.bool false) := Z0x.out.get 1
      have zf0 := Z0x.out.free 0
      have zf1 := Z0x.out.free 1
      have RF := Lib.hid (RowAt.put2 Z0x.out (.slice A3 n c3) wrap)
      have OF := (OnlyRow.cell g1 0 w5 (.slice A3 n c3)).trans (OnlyRow.cell g1 1 _ (.bool wrap))
      have HF := Lib.hid (HasC.keep HVx.out (fun j e => OF.block j (NG1.out j e)))
      have BF := Lib.hid (Bx.out.trans ((Turned.ofOnly OF).toBelow Bx.out.size (fun k hk e => by have := HG1.out; omega)))
      clear OF
      go_wp2
      generalize (w5.setCell ⟨g1, 0, none⟩ (.slice A3 n c3)).setCell ⟨g1, 1, none⟩ (.bool wrap) = wz at RF HF BF ⊢
      have e0 : wz.cell? ⟨g1, 0, none⟩ = some (.slice A3 n c3) := RF.out.get 0
      have e1 : wz.cell? ⟨g1, 1, none⟩ = some (.bool wrap) := RF.out.get 1
      exact bodyPost_ret (v := .tuple #[.agg #[.slice A3 n c3, .bool wrap], .bool false]) (by simp [results, Tryz.results35, go_sem, e0, e1]) rfl (DN.out wz HF.out BF.out)
    have hok : eraseOk l from' to' = true := by
      unfold eraseOk
      rw [MB.out, LN.out, decide_eq_true (show 0 ≤ from' by omega), decide_eq_true (show from' ≤ to' by omega), decide_eq_true (show to' ≤ (n : Int) by omega)]
      rfl
    by_cases hee : from' = to'
    · have DN := Lib.hid (DNF.out true hok (by rw [decide_eq_false (show ¬ from' < to' by omega)]; rfl))
      have heb : (from' == to') = true := by simp; omega
      clear DNF hok
      have k80 : w5.cell? ⟨g8, 0, none⟩ = some (.slice A3 n c3) := R8x.out.get 0
      have k81 : w5.cell? ⟨g8, 1, none⟩ = some (.bool wrap) := R8x.out.get 1
      have z0 : w5.cell? ⟨g1, 0, none⟩ = some (.slice none 0 0) := Z0x.out.get 0
      have z1 : w5.cell? ⟨g1, 1, none⟩ = some (.bool false) := Z0x.out.get 1
      have zf0 := Z0x.out.free 0
      have zf1 := Z0x.out.free 1
      have RF := Lib.hid (RowAt.put2 Z0x.out (.slice A3 n c3) wrap)
      have OF := (OnlyRow.cell g1 0 w5 (.slice A3 n c3)).trans (OnlyRow.cell g1 1 _ (.bool wrap))
      have HF := Lib.hid (HasC.keep HVx.out (fun j e => OF.block j (NG1.out j e)))
      have BF := Lib.hid (Bx.out.trans ((Turned.ofOnly OF).toBelow Bx.out.size (fun k hk e => by have := HG1.out; omega)))
      clear OF
      go_wp2
      generalize (w5.setCell ⟨g1, 0, none⟩ (.slice A3 n c3)).setCell ⟨g1, 1, none⟩ (.bool wrap) = wz at RF HF BF ⊢
      have e0 : wz.cell? ⟨g1, 0, none⟩ = some (.slice A3 n c3) := RF.out.get 0
      have e1 : wz.cell? ⟨g1, 1, none⟩ = some (.bool wrap) := RF.out.get 1
      exact bodyPost_ret (v := .tuple #[.agg #[.slice A3 n c3, .bool wrap], .bool true]) (by simp [results, Tryz.results35, go_sem, e0, e1]) rfl (DN.out wz HF.out BF.out)
    have heb : (from' == to') = false := by simp; omega
    have hlt : from' < to' := by omega
    obtain ⟨k, rfl⟩ := Int.eq_ofNat_of_zero_le (show 0 ≤ from' by omega)
    obtain ⟨q, rfl⟩ := Int.eq_ofNat_of_zero_le (show 0 ≤ to' by omega)
    obtain ⟨m, hm⟩ : ∃ m, q = k + m := ⟨q - k, by omega⟩
    subst hm
    have hm0 : 0 < m := by omega
    have hkm : k + m ≤ n := by omega
    obtain ⟨gg, tail, rfl, hgb, hnc, RI, CV⟩ := rowIn_of HVx.out (by omega)
    have G := ((mayL_iff l).1 MB.out).2
    have hgw := NB.out gg rfl
    have hg8 := NG8.out gg rfl
    have hgg1 := NG1.out gg rfl
    have hgg0 : gg ≠ g0 := by have := HGW.out; have := HG0.out; omega
    have CV' := Lib.hid CV
    have RIx := Lib.hid RI
    have GX := Lib.hid G
    have hgl := RI.lt
    have HRES := Lib.hid (show eraseRes l (k : Int) ((k + m : Nat) : Int) = ovL l k (blanksL m) by
      unfold eraseRes
      rw [hok, decide_eq_true hlt, Bool.and_self, if_pos rfl, Int.toNat_natCast, show (((k + m : Nat) : Int) - (k : Int)).toNat = m by omega])
    have HOK := Lib.hid hok
    have HWR := Lib.hid (show eraseWrap wrap l (k : Int) ((k + m : Nat) : Int) = if k + m = n then false else wrap by
      unfold eraseWrap
      rw [hok, decide_eq_true hlt, LN.out]
      by_cases he : k + m = n
      · rw [if_pos he, decide_eq_true (show ((k + m : Nat) : Int) = (n : Int) by omega)]; rfl
      · rw [if_neg he, decide_eq_false (show ¬ ((k + m : Nat) : Int) = (n : Int) by omega)]; rfl)
    have hsub : IntKind.i64.wrap ((k : Int) + (m : Int) - (k : Int)) = (m : Int) := by rw [IntWalk.i64_in _ (by omega)]; omega
    have SRCF : ∀ (w7 : World) (gb : Nat), RowIn' w7 gb (blanksL m) [] → gb ≠ gg → ∀ W', Turned (· = gg) w7 W' → ∀ j u, (flat (blanksL m))[j]? = some u → W'.cell? ((⟨gb, 0, none⟩ : Addr).add j) = some u := by
      intro w7 gb RB hne W' ht j u hu
      have hj := (List.getElem?_eq_some_iff.1 hu).1
      rw [add_at', Nat.zero_add, World.cell?_of_block (ht.block gb RB.lt hne), cell_of_row _ gb _ _ _ (0, 0) RB.heap, List.append_nil, List.getElem?_toArray]
      exact hu
    have k80 : w5.drew.cell? ⟨g8, 0, none⟩ = some (.slice (some ⟨gg, 0, none⟩) n c3) := R8x.out.get 0
    have R8d := Lib.hid (show RowAt w5.drew g8 (.slice (some ⟨gg, 0, none⟩) n c3) wrap from R8x.out)
    have R0d := Lib.hid (show RowAt w5.drew g0 (.slice A n c) wrap from R0x.out)
    have Z0d := Lib.hid (show RowAt w5.drew g1 (.slice none 0 0) false from Z0x.out)
    have RId := Lib.hid (show RowIn' w5.drew gg l tail from ⟨RI.heap⟩)
    have Bd := Lib.hid Bx.out.drew
    have hgd : gg < w5.drew.heap.size := hgl
    clear DNF RI CV HVx hok G
    go_upto_region 6 with fail
    go_region_with (first | (go_at_call 81; refine (blanks_walk m _ (by omega)).mono ?_; rintro e w7 ⟨gb, rfl, hgb7, RB, b7⟩; (have R87 := Lib.hid (show RowAt w7 g8 (.slice (some ⟨gg, 0, none⟩) n c3) wrap from (b7.block g8 R8d.out.lt).trans R8d.out)); (have R07 := Lib.hid (show RowAt w7 g0 (.slice A n c) wrap from (b7.block g0 R0d.out.lt).trans R0d.out)); (have Z07 := Lib.hid (show RowAt w7 g1 (.slice none 0 0) false from (b7.block g1 Z0d.out.lt).trans Z0d.out)); (have RI7 := Lib.hid (RId.out.below b7)); (have B7 := Lib.hid (Bd.out.trans (b7.mono Bd.out.size))); (have k87 : w7.cell? ⟨g8, 0, none⟩ = some (.slice (some ⟨gg, 0, none⟩) n c3) := R87.out.get 0)) | (go_at_call 76; refine (overwrite_walk gg n c3 k gb 0 m m l (blanksL m) tail w7 RI7.out LN.out hnc hn GX.out (blanksL_length m) hm0 hkm (SRCF w7 gb RB (by omega))).mono ?_; rintro e w8 ⟨⟨_, rfl⟩, RO, T8⟩))
    all_goals
      have R8z := Lib.hid (show RowAt w8 g8 (.slice (some ⟨gg, 0, none⟩) n c3) wrap from (T8.block g8 R87.out.lt (by omega)).trans R87.out)
      have R0z := Lib.hid (show RowAt w8 g0 (.slice A n c) wrap from (T8.block g0 R07.out.lt (by omega)).trans R07.out)
      have Z0z := Lib.hid (show RowAt w8 g1 (.slice none 0 0) false from (T8.block g1 Z07.out.lt (by omega)).trans Z07.out)
      have HVz := Lib.hid (CV'.out w8 _ (by rw [ovL_length]; exact LN.out) RO)
      have Bz := Lib.hid (B7.out.trans (T8.toBelow B7.out.size (fun k hk e => by omega)))
      have y8 : w8.cell? ⟨g0, 0, none⟩ = some (.slice A n c) := R0z.out.get 0
      clear RO T8 R87 R07 Z07 RI7 B7 k87 k80 R8d R0d Z0d RId Bd RIx y0
      have DN0 := Lib.hid (fun (wv : Bool) (he : (if k + m = n then false else wrap) = wv) (W : World) (hv : HasC W wa.heap.size (.slice (some ⟨gg, 0, none⟩) n c3) (ovL l k (blanksL m))) (hb : Below w.heap.size w W) => (show ErasePost (eraseOk l (k : Int) ((k + m : Nat) : Int)) (eraseWrap wrap l (k : Int) ((k + m : Nat) : Int)) (eraseRes l (k : Int) ((k + m : Nat) : Int)) w (.returned (.tuple #[.agg #[.slice (some ⟨gg, 0, none⟩) n c3, .bool wv], .bool true])) W by
        rw [HOK.out, HWR.out, HRES.out, he]
        exact ⟨some ⟨gg, 0, none⟩, n, c3, rfl, HasC.mono hv (by have := HGW.out; omega), hb⟩))
      by_cases hen : k + m = n
      · have heq : ((k : Int) + (m : Int) == (n : Int)) = true := by simp; omega
        have k81' : w8.cell? ⟨g8, 1, none⟩ = some (.bool wrap) := R8z.out.get 1
        have kf81 := R8z.out.free 1
        have o9 := OnlyRow.cell g8 1 w8 (.bool false)
        have R8v := Lib.hid (show RowAt (w8.setCell ⟨g8, 1, none⟩ (.bool false)) g8 (.slice (some ⟨gg, 0, none⟩) n c3) false from heap_setCell_same w8 g8 1 _ _ _ R8z.out)
        have Z0v := Lib.hid (show RowAt (w8.setCell ⟨g8, 1, none⟩ (.bool false)) g1 (.slice none 0 0) false from (o9.block g1 (fun e => hne8 e.symm)).trans Z0z.out)
        have HVv := Lib.hid (HasC.keep (w' := w8.setCell ⟨g8, 1, none⟩ (.bool false)) HVz.out (fun j e => o9.block j (NG8.out j e)))
        have Bv := Lib.hid (Bz.out.trans ((Turned.ofOnly o9).toBelow Bz.out.size (fun k hk e => by have := HG8.out; have := HG8w.out; omega)))
        have DN := Lib.hid (DN0.out false (by rw [if_pos hen]))
        clear o9 DN0
        have k80 : w8.cell? ⟨g8, 0, none⟩ = some (.slice (some ⟨gg, 0, none⟩) n c3) := R8z.out.get 0
        have z0 : w8.cell? ⟨g1, 0, none⟩ = some (.slice none 0 0) := Z0z.out.get 0
        have z1 : w8.cell? ⟨g1, 1, none⟩ = some (.bool false) := Z0z.out.get 1
        have zf0 := Z0z.out.free 0
        have zf1 := Z0z.out.free 1
        have RF := Lib.hid (RowAt.put2 Z0v.out (.slice (some ⟨gg, 0, none⟩) n c3) false)
        have OF := (OnlyRow.cell g1 0 (w8.setCell ⟨g8, 1, none⟩ (.bool false)) (.slice (some ⟨gg, 0, none⟩) n c3)).trans (OnlyRow.cell g1 1 _ (.bool false))
        have HF := Lib.hid (HasC.keep HVv.out (fun j e => OF.block j (NG1.out j e)))
        have BF := Lib.hid (Bv.out.trans ((Turned.ofOnly OF).toBelow Bv.out.size (fun k hk e => by have := HG1.out; omega)))
        clear OF
        go_wp2
        generalize ((w8.setCell ⟨g8, 1, none⟩ (.bool false)).setCell ⟨g1, 0, none⟩ (.slice (some ⟨gg, 0, none⟩) n c3)).setCell ⟨g1, 1, none⟩ (.bool false) = wz at RF HF BF ⊢
        have e0 : wz.cell? ⟨g1, 0, none⟩ = some (.slice (some ⟨gg, 0, none⟩) n c3) := RF.out.get 0
        have e1 : wz.cell? ⟨g1, 1, none⟩ = some (.bool false) := RF.out.get 1
        exact bodyPost_ret (v := .tuple #[.agg #[(.slice (some ⟨gg, 0, none⟩) n c3), .bool false], .bool true]) (by simp [results, Tryz.results35, go_sem, e0, e1]) rfl (DN.out wz HF.out BF.out)
      · have heq : ((k : Int) + (m : Int) == (n : Int)) = false := by simp; omega
        have DN := Lib.hid (DN0.out wrap (by rw [if_neg hen]))
        clear DN0
        have k80 : w8.cell? ⟨g8, 0, none⟩ = some (.slice (some ⟨gg, 0, none⟩) n c3) := R8z.out.get 0
        have k81 : w8.cell? ⟨g8, 1, none⟩ = some (.bool wrap) := R8z.out.get 1
        have z0 : w8.cell? ⟨g1, 0, none⟩ = some (.slice none 0 0) := Z0z.out.get 0
        have z1 : w8.cell? ⟨g1, 1, none⟩ = some (.bool false) := Z0z.out.get 1
        have zf0 := Z0z.out.free 0
        have zf1 := Z0z.out.free 1
        have RF := Lib.hid (RowAt.put2 Z0z.out (.slice (some ⟨gg, 0, none⟩) n c3) wrap)
        have OF := (OnlyRow.cell g1 0 w8 (.slice (some ⟨gg, 0, none⟩) n c3)).trans (OnlyRow.cell g1 1 _ (.bool wrap))
        have HF := Lib.hid (HasC.keep HVz.out (fun j e => OF.block j (NG1.out j e)))
        have BF := Lib.hid (Bz.out.trans ((Turned.ofOnly OF).toBelow Bz.out.size (fun k hk e => by have := HG1.out; omega)))
        clear OF
        go_wp2
        generalize (w8.setCell ⟨g1, 0, none⟩ (.slice (some ⟨gg, 0, none⟩) n c3)).setCell ⟨g1, 1, none⟩ (.bool wrap) = wz at RF HF BF ⊢
        have e0 : wz.cell? ⟨g1, 0, none⟩ = some (.slice (some ⟨gg, 0, none⟩) n c3) := RF.out.get 0
        have e1 : wz.cell? ⟨g1, 1, none⟩ = some (.bool wrap) := RF.out.get 1
        exact bodyPost_ret (v := .tuple #[.agg #[.slice (some ⟨gg, 0, none⟩) n c3, .bool wrap], .bool true]) (by simp [results, Tryz.results35, go_sem, e0, e1]) rfl (DN.out wz HF.out BF.out)
end Rw
end Go.Proofs.YtibihjcpkdfgeaaGreatDoor
namespace Go.Proofs.YtibihjcpkdfgeaaGreatDoor
open Go.ChangeShapes Go.WideShapes Go.ChangeAt Go.RowKit
namespace Rw

theorem whole_pad : Whole [(0, 1, 0)] := by
  refine ⟨by simp, fun j hj => ?_, fun j hj => ?_, fun j hj e => ?_, ?_⟩
  all_goals try (obtain rfl : j = 0 := by simpa using hj)
  · show mayB (0, 1, 0) = true
    unfold mayB; simp
  · show ((32, 1, 0) : Cel).2.1 = 2 ↔ ((0, 1, 0) : Cel).2.1 = 0
    simp
  · cases e
  · show ((0, 1, 0) : Cel).2.1 ≠ 2
    simp
theorem whole_one {r a : Int} (ha : 0 ≤ a ∧ a ≤ 255) (h : wof r = 1) : Whole [(r, 1, a)] := by
  refine ⟨by simp, fun j hj => ?_, fun j hj => ?_, fun j hj e => ?_, ?_⟩
  all_goals try (obtain rfl : j = 0 := by simpa using hj)
  · show mayB (r, 1, a) = true
    unfold mayB; simp [h, ha.1, ha.2]
  · show ((32, 1, 0) : Cel).2.1 = 2 ↔ ((r, 1, a) : Cel).2.1 = 0
    simp
  · cases e
  · show ((r, 1, a) : Cel).2.1 ≠ 2
    simp
theorem whole_two {r a : Int} (ha : 0 ≤ a ∧ a ≤ 255) (h : wof r = 2) : Whole [(r, 2, a), (0, 0, a)] := by
  have two : ∀ j, j < ([(r, 2, a), (0, 0, a)] : List Cel).length → j = 0 ∨ j = 1 := fun j hj => by simp at hj; omega
  refine ⟨by simp, fun j hj => ?_, fun j hj => ?_, fun j hj e => ?_, ?_⟩
  · rcases two j hj with rfl | rfl
    · show mayB (r, 2, a) = true
      unfold mayB; simp [h, ha.1, ha.2]
    · show mayB (0, 0, a) = true
      unfold mayB; simp [ha.1, ha.2]
  · rcases two j hj with rfl | rfl
    · show ((32, 1, 0) : Cel).2.1 = 2 ↔ ((r, 2, a) : Cel).2.1 = 0
      simp
    · show ((r, 2, a) : Cel).2.1 = 2 ↔ ((0, 0, a) : Cel).2.1 = 0
      simp
  · rcases two j hj with rfl | rfl
    · cases e
    · rfl
  · show ((0, 0, a) : Cel).2.1 ≠ 2
    simp
theorem whole_of {r a : Int} (h : ofL r a ≠ []) : Whole (ofL r a) := by
  unfold ofL at h ⊢
  by_cases ha : mayA a = true
  · have ha' : 0 ≤ a ∧ a ≤ 255 := by unfold mayA at ha; simpa using ha
    rw [if_pos ha] at h ⊢
    by_cases h1 : wof r = 1
    · rw [if_pos h1]; exact whole_one ha' h1
    · rw [if_neg h1] at h ⊢
      by_cases h2 : wof r = 2
      · rw [if_pos h2]; exact whole_two ha' h2
      · rw [if_neg h2] at h; exact absurd rfl h
  · rw [if_neg ha] at h; exact absurd rfl h
theorem isOne_whole {L : List Cel} (h : isOneB L = true) : Whole L := by
  cases L with
  | nil => cases h
  | cons c l =>
    unfold isOneB at h
    rw [Bool.or_eq_true, Bool.and_eq_true] at h
    rcases h with ⟨h1, h2⟩ | h
    · have hl : l = [] := by simpa using h1
      subst hl
      obtain ⟨r, n, a⟩ := c
      unfold isB at h2
      simp at h2
      obtain ⟨⟨rfl, rfl⟩, rfl⟩ := h2
      exact whole_pad
    · have e : c :: l = ofL c.1 c.2.2 := by unfold eqL at h; exact of_decide_eq_true h
      rw [e]
      exact whole_of (by rw [← e]; simp)
theorem isOne_pad : isOneB [(0, 1, 0)] = true := by unfold isOneB isB; simp
theorem isOne_of {r a : Int} (h : ofL r a ≠ []) : isOneB (ofL r a) = true := by
  have e : ∃ n l, ofL r a = (r, n, a) :: l := by
    unfold ofL at h ⊢
    split
    · split
      · exact ⟨_, _, rfl⟩
      · split
        · exact ⟨_, _, rfl⟩
        · simp_all
    · simp_all
  obtain ⟨n, l, e⟩ := e
  rw [e]
  unfold isOneB
  rw [Bool.or_eq_true]
  right
  rw [e]
  unfold eqL
  exact decide_eq_true rfl
end Rw
end Go.Proofs.YtibihjcpkdfgeaaGreatDoor
namespace Go.Proofs.YtibihjcpkdfgeaaGreatDoor
open Go.ChangeShapes Go.WideShapes Go.ChangeAt Go.RowKit
namespace Rw

def blankN (x : Int) : Nat := (min (max x 0) 300).toNat
theorem hasC_full {w : World} {base g n : Nat} {l : List Cel} (h : RowIn' w g l []) (hg : base ≤ g) (hl : l.length = n) (hn : n ≤ 1099511627776) : HasC w base (.slice (some ⟨g, 0, none⟩) n n) l := by
  subst hl
  have hf := flat_length l
  refine ⟨hf, .inr ⟨g, l.length, _, rfl, hg, h.heap, Nat.le_refl _, by unfold maxLen; omega, ?_, ?_⟩⟩
  · rw [List.append_nil, List.size_toArray, hf]
  · rw [List.append_nil, ← hf]
    exact List.take_length
set_option maxRecDepth 100000 in
set_option maxHeartbeats 1600000 in
theorem rowBlank_walk (x : Int) (w : World) : Calls Tryz.prog 38 #[.int .i64 x] w fun e w' => ∃ g, e = .returned (.agg #[.slice (some ⟨g, 0, none⟩) (blankN x) (blankN x), .bool false]) ∧ HasC w' w.heap.size (.slice (some ⟨g, 0, none⟩) (blankN x) (blankN x)) (blanksL (blankN x)) ∧ Below w.heap.size w w' := by
  obtain ⟨k, hk⟩ : ∃ k, blankN x = k := ⟨_, rfl⟩
  have hk3 : k ≤ 300 := by rw [← hk]; unfold blankN; omega
  have hkx : min (max x 0) 300 = (k : Int) := by rw [← hk]; unfold blankN; omega
  rw [hk]
  have b1 := (Below.refl w.heap.size w).alloc (Nat.le_refl _) (.cells #[.slice none 0 0, .bool false] 53)
  have R1 := Lib.hid (show RowAt (w.alloc (.cells #[.slice none 0 0, .bool false] 53)) w.heap.size (.slice none 0 0) false from heap_alloc_new w _)
  have BW := Lib.hid (blanks_walk k (w.alloc (.cells #[.slice none 0 0, .bool false] 53)) (by omega))
  have B1 := Lib.hid b1
  have S1 := Lib.hid (show (w.alloc (.cells #[.slice none 0 0, .bool false] 53)).heap.size = w.heap.size + 1 by simp)
  clear b1 hk
  go_enter Tryz.func38, Tryz.ntmps38
  go_wp2_with fail
  obtain ⟨g1, hg1⟩ : ∃ g1, w.heap.size = g1 := ⟨_, rfl⟩
  have HG1 := Lib.hid hg1
  rw [hg1] at R1 ⊢
  generalize w.alloc (.cells #[.slice none 0 0, .bool false] 53) = w1 at R1 BW B1 S1 ⊢
  refine BW.out.mono ?_
  rintro e w2 ⟨g, rfl, hg, r2, b2⟩
  have R2 := Lib.hid (show RowAt w2 g1 (.slice none 0 0) false from (b2.block g1 R1.out.lt).trans R1.out)
  have B2 := Lib.hid (B1.out.trans (b2.mono B1.out.size))
  have hgw : w.heap.size + 1 ≤ g := by have := S1.out; omega
  have HC := Lib.hid (hasC_full (base := w.heap.size + 1) r2 hgw (blanksL_length k) (by omega))
  have z0 : w2.cell? ⟨g1, 0, none⟩ = some (.slice none 0 0) := R2.out.get 0
  have z1 : w2.cell? ⟨g1, 1, none⟩ = some (.bool false) := R2.out.get 1
  have zf0 := R2.out.free 0
  have zf1 := R2.out.free 1
  have RF := Lib.hid (RowAt.put2 R2.out (.slice (some ⟨g, 0, none⟩) k k) false)
  have OF := (OnlyRow.cell g1 0 w2 (.slice (some ⟨g, 0, none⟩) k k)).trans (OnlyRow.cell g1 1 _ (.bool false))
  have HF := Lib.hid (HasC.keep HC.out (fun j e => OF.block j (by have := (HasC.lt HC.out j e).1; have := HG1.out; omega)))
  have BF := Lib.hid (B2.out.trans ((Turned.ofOnly OF).toBelow B2.out.size (fun q hq e => by have := HG1.out; omega)))
  clear OF r2 b2 hg hg1
  go_wp2
  generalize (w2.setCell ⟨g1, 0, none⟩ (.slice (some ⟨g, 0, none⟩) k k)).setCell ⟨g1, 1, none⟩ (.bool false) = wz at RF HF BF ⊢
  have e0 : wz.cell? ⟨g1, 0, none⟩ = some (.slice (some ⟨g, 0, none⟩) k k) := RF.out.get 0
  have e1 : wz.cell? ⟨g1, 1, none⟩ = some (.bool false) := RF.out.get 1
  exact bodyPost_ret (v := .agg #[.slice (some ⟨g, 0, none⟩) k k, .bool false]) (by simp [results, Tryz.results38, go_sem, e0, e1]) rfl ⟨g, rfl, HasC.mono HF.out (Nat.le_succ _), BF.out⟩
set_option maxRecDepth 100000 in
set_option maxHeartbeats 1600000 in
theorem rowIsBlank_walk (A : Option Addr) (n c : Nat) (wrap : Bool) (l : List Cel) (w : World) (hs : Spans w) (hl : ∀ c ∈ l, -2147483648 ≤ c.1 ∧ c.1 ≤ 2147483647) (hq : Sq w w.heap.size 3 n A (flat l)) (hc : n ≤ c) (hn : n ≤ 1000000) :
    Calls Tryz.prog 42 #[rowV A n c wrap] w fun e w' => e = .returned (.bool (!mayL l || (decide ((trimL l).length = 0) && !wrap))) ∧ Below w.heap.size w w' := by
  have b1 := (Below.refl w.heap.size w).alloc (Nat.le_refl _) (.cells #[.slice A n c, .bool wrap] 53)
  have R1 := Lib.hid (show RowAt (w.alloc (.cells #[.slice A n c, .bool wrap] 53)) w.heap.size (.slice A n c) wrap from heap_alloc_new w _)
  have MW := Lib.hid (packMay_walk A n c wrap l (w.alloc (.cells #[.slice A n c, .bool wrap] 53)) (hs.below b1 hs.size) hl ((hq.below b1).up b1.size) hn)
  have UW := Lib.hid (fun (W : World) (hb : Below w.heap.size w W) => rowUsed_walk A n c wrap l W (hs.below hb hs.size) hl ((hq.below hb).up hb.size) hc hn)
  have B1 := Lib.hid b1
  obtain ⟨mb, hmb⟩ : ∃ mb, mayL l = mb := ⟨_, rfl⟩
  obtain ⟨u, hu⟩ : ∃ u, (trimL l).length = u := ⟨_, rfl⟩
  rw [hmb, hu] at UW
  rw [hmb] at MW
  rw [hmb, hu]
  clear b1 hq hs hl hmb hu
  cases mb with
  | false =>
    go_enter Tryz.func42, Tryz.ntmps42
    go_wp2_with fail
    refine MW.out.mono ?_
    rintro e w2 ⟨rfl, b2⟩
    have B2 := Lib.hid (B1.out.trans (b2.mono B1.out.size))
    clear b2
    go_wp2
    go_ret
    exact ⟨rfl, B2.out⟩
  | true =>
    by_cases hu0 : u = 0
    · have hub : ((u : Int) == 0) = true := by simp; omega
      have hud : decide (u = 0) = true := by simp; omega
      cases wrap
      all_goals
        go_enter Tryz.func42, Tryz.ntmps42
        go_wp2_with fail
        refine MW.out.mono ?_
        rintro e w2 ⟨rfl, b2⟩
        have B2 := Lib.hid (B1.out.trans (b2.mono B1.out.size))
        have r2 := (b2.block _ R1.out.lt).trans R1.out
        have k0 := RowAt.get r2 0
        have k1 := RowAt.get r2 1
        have R2 := Lib.hid r2
        clear b2 r2
        go_wp2_with fail
        refine (UW.out w2 B2.out).mono ?_
        rintro e w3 ⟨rfl, b3⟩
        have k2 := RowAt.get ((b3.block _ (RowAt.lt R2.out)).trans R2.out) 1
        have B3 := Lib.hid (B2.out.trans (b3.mono B2.out.size))
        clear b3 k0 k1
        go_wp2
        go_ret
        exact ⟨by simp [hu0], B3.out⟩
    · have hub : ((u : Int) == 0) = false := by simp; omega
      have hud : decide (u = 0) = false := by simp; omega
      go_enter Tryz.func42, Tryz.ntmps42
      go_wp2_with fail
      refine MW.out.mono ?_
      rintro e w2 ⟨rfl, b2⟩
      have B2 := Lib.hid (B1.out.trans (b2.mono B1.out.size))
      have r2 := (b2.block _ R1.out.lt).trans R1.out
      have k0 := RowAt.get r2 0
      have k1 := RowAt.get r2 1
      clear b2 r2
      go_wp2_with fail
      refine (UW.out w2 B2.out).mono ?_
      rintro e w3 ⟨rfl, b3⟩
      have B3 := Lib.hid (B2.out.trans (b3.mono B2.out.size))
      clear b3 k0 k1
      go_wp2
      go_ret
      exact ⟨by simp [hu0], B3.out⟩
end Rw
end Go.Proofs.YtibihjcpkdfgeaaGreatDoor
