/-
  pack.follows: does a cell go on with the run at the end of a list of cells?
  Are two lists of cells the same, are two rows? slices.Equal at cells, the reference's EqCells; pack.Eq, the reference's EqRow.
-/
import Derived.Test.YtalhlgiklochdaaDoorPackMath
import Derived.Test.YtalhlgiklochdaaDoorPackMay
import Derived.IntWalk
namespace Go.Proofs.YtalhlgiklochdaaDoor
open Go.ChangeShapes Go.WideShapes Go.ChangeAt Go.RowKit

/-- Is the cell at the list's end this one? -/
def lastB (l : List Cel) (d : Cel) : Bool := decide (l.getLast? = some d)
theorem lastB_nil (d : Cel) : lastB [] d = false := rfl
theorem lastB_get {l : List Cel} {k : Nat} {x : Cel} (hk : l.length = k + 1) (hx : l[k]? = some x) (d : Cel) : lastB l d = (x.1 == d.1 && x.2.1 == d.2.1 && x.2.2 == d.2.2) := by
  have e : l.getLast? = some x := by rw [List.getLast?_eq_getElem?, hk]; exact hx
  unfold lastB
  rw [e, Bool.eq_iff_iff]
  obtain ⟨x1, x2, x3⟩ := x
  obtain ⟨d1, d2, d3⟩ := d
  simp [and_assoc]
theorem Below.drewN {B : Nat} {a w : World} (h : Below B a w) (k : Nat) : Below B a (w.drewN k) := ⟨h.os, h.tape, h.output, h.size, h.block⟩
set_option maxRecDepth 100000 in
set_option maxHeartbeats 1600000 in
theorem follows_walk (A : Option Addr) (n c : Nat) (l : List Cel) (r m a : Int) (w : World) (hq : Sq w w.heap.size 3 n A (flat l)) (hn : n ≤ 1000000) :
    Calls Tryd.prog 61 #[.slice A n c, cellV r m a] w fun e w' => e = .returned (.bool (lastB l (r, m, a))) ∧ Below w.heap.size w w' := by
  have hln : l.length = n := by have := hq.len; rw [flat_length] at this; omega
  rcases Nat.eq_zero_or_pos n with h0 | h0
  · subst h0
    have e : l = [] := List.eq_nil_of_length_eq_zero hln
    subst e
    rw [lastB_nil]
    clear hln hq
    go_enter Tryd.func61, Tryd.ntmps61
    go_wp2_with fail
    go_quiet (fail)
    go_wp2
    go_ret
    exact ⟨rfl, Below.drewN ((Below.refl _ _).alloc (Nat.le_refl _) _) _⟩
  · obtain ⟨b, off, rfl, hb, ⟨x, y, z⟩, hcc, q0, q1, q2⟩ := hq.three (show n - 1 < n by omega)
    rw [lastB_get (show l.length = (n - 1) + 1 by omega) hcc]
    simp only
    have hnn : n ≤ 1000000 := hn
    have e1 : IntKind.i64.wrap ((n : Int) - 1) = (n : Int) - 1 := IntWalk.i64_in _ (by omega)
    have e2 : 0 ≤ (n : Int) - 1 := by omega
    have e3 : ((n : Int) - 1).toNat = n - 1 := by omega
    have e4 : n - 1 < n := by omega
    clear hln hcc hq
    cases h1 : (x == r) <;> cases h2 : (y == m) <;> cases h3 : (z == a)
    all_goals
      go_enter Tryd.func61, Tryd.ntmps61
      go_wp2_with fail
      go_quiet (fail)
      go_wp2
      go_ret
      exact ⟨rfl, Below.drewN ((Below.refl _ _).alloc (Nat.le_refl _) _) _⟩
end Go.Proofs.YtalhlgiklochdaaDoor
namespace Go.Proofs.YtalhlgiklochdaaDoor
open Go.ChangeShapes Go.WideShapes Go.ChangeAt Go.RowKit

/-- Are they the same lists? -/
def eqL (l l' : List Cel) : Bool := decide (l = l')
theorem eqL_len {l l' : List Cel} (h : l.length ≠ l'.length) : eqL l l' = false := by
  unfold eqL
  simp only [decide_eq_false_iff_not]
  exact fun e => h (by rw [e])
theorem eqL_other {l l' : List Cel} {k : Nat} {x y : Cel} (hx : l[k]? = some x) (hy : l'[k]? = some y) (h : x ≠ y) : eqL l l' = false := by
  unfold eqL
  simp only [decide_eq_false_iff_not]
  intro e
  rw [e, hy] at hx
  injection hx with hx
  exact h hx.symm
theorem eqL_all {l l' : List Cel} {k : Nat} (hl : l.length = k) (hl' : l'.length = k) (h : l.take k = l'.take k) : eqL l l' = true := by
  unfold eqL
  rw [List.take_of_length_le (by omega), List.take_of_length_le (by omega)] at h
  simpa using h
theorem take_same {l l' : List Cel} {k : Nat} {x : Cel} (h : l.take k = l'.take k) (hx : l[k]? = some x) (hy : l'[k]? = some x) : l.take (k + 1) = l'.take (k + 1) := by
  obtain ⟨h1, h2⟩ := List.getElem?_eq_some_iff.1 hx
  obtain ⟨h3, h4⟩ := List.getElem?_eq_some_iff.1 hy
  rw [List.take_succ_eq_append_getElem h1, List.take_succ_eq_append_getElem h3, h, h2, h4]
theorem cel_ne {r m a r' m' a' : Int} (h : ((r == r') && (m == m') && (a == a')) = false) : ((r, m, a) : Cel) ≠ (r', m', a') := by
  intro e
  injection e with e1 e2
  injection e2 with e2 e3
  subst e1 e2 e3
  simp at h

set_option maxRecDepth 100000 in
set_option maxHeartbeats 3200000 in
theorem slicesEq_walk (A A' : Option Addr) (n c n' c' : Nat) (l l' : List Cel) (w : World) (hn : n ≤ 1000000) (hn' : n' ≤ 1000000) (hq : Sq w w.heap.size 3 n A (flat l)) (hq' : Sq w w.heap.size 3 n' A' (flat l')) :
    Calls Tryd.prog 56 #[.slice A n c, .slice A' n' c'] w fun e w' => e = .returned (.bool (eqL l l')) ∧ Below w.heap.size w w' := by
  have hl : l.length = n := by have := hq.len; rw [flat_length] at this; omega
  have hl' : l'.length = n' := by have := hq'.len; rw [flat_length] at this; omega
  have Q := Lib.hid hq
  have Q' := Lib.hid hq'
  have LN := Lib.hid hl
  have LN' := Lib.hid hl'
  clear hq hq'
  by_cases hne : n = n'
  · subst hne
    clear hl hl'
    go_enter Tryd.func56, Tryd.ntmps56
    go_wp2
    go_loopw [13] (fun i wr => ∃ k : Nat, i = .int .i64 k ∧ k ≤ n ∧ Hid (l.take k = l'.take k) ∧ Below w.heap.size w wr) (fun i _ => n - (intOf i).toNat)
    case atStart => exact ⟨0, rfl, Nat.zero_le _, Lib.hid rfl, Below.refl _ _⟩
    case round =>
      obtain ⟨k, rfl, hk, TK, hb⟩ := hrel
      by_cases hlt : k < n
      · obtain ⟨b, off, rfl, _, ⟨r, m, a⟩, hcc, q0, q1, q2⟩ := (Q.out.below hb).three hlt
        obtain ⟨b', off', rfl, _, ⟨r', m', a'⟩, hcc', q0', q1', q2'⟩ := (Q'.out.below hb).three hlt
        have HB := Lib.hid hb
        have HC := Lib.hid hcc
        have HC' := Lib.hid hcc'
        clear hb hcc hcc'
        simp only at q0 q1 q2 q0' q1' q2'
        cases hE : ((r == r') && (m == m') && (a == a'))
        · have EF := Lib.hid (eqL_other HC.out HC'.out (cel_ne hE))
          cases h1 : (r == r') <;> cases h2 : (m == m') <;> cases h3 : (a == a')
          all_goals
            first
              | (exfalso; rw [h1, h2, h3] at hE; cases hE; done)
              | (clear hE
                 go_wp2_with fail
                 go_quiet (fail)
                 go_wp2
                 go_ret
                 exact ⟨ret_bool EF.out.symm, Below.drewN HB.out _⟩)
        · simp only [Bool.and_eq_true, beq_iff_eq] at hE
          obtain ⟨⟨rfl, rfl⟩, rfl⟩ := hE
          have TK2 := Lib.hid (take_same TK.out HC.out HC'.out)
          go_wp2_with fail
          go_quiet (fail)
          go_wp2
          go_roundw
          case rel => exact ⟨k + 1, by go_num, by omega, TK2, Below.drewN HB.out _⟩
          case measure => simp [intOf]; omega
      · have hk' : k = n := by omega
        have ET := Lib.hid (eqL_all LN.out LN'.out (by rw [← hk']; exact TK.out))
        have HB := Lib.hid hb
        clear hk' hb
        go_wp2
        go_ret
        exact ⟨ret_bool ET.out.symm, HB.out⟩
  · have EF := Lib.hid (eqL_len (l := l) (l' := l') (by omega))
    have d1 : ((n : Int) != (n' : Int)) = true := by simp; omega
    clear hl hl'
    go_enter Tryd.func56, Tryd.ntmps56
    go_wp2
    go_ret
    exact ⟨ret_bool EF.out.symm, Below.refl _ _⟩

set_option maxRecDepth 100000 in
set_option maxHeartbeats 3200000 in
theorem eqCells_walk (A A' : Option Addr) (n c n' c' : Nat) (l l' : List Cel) (w : World) (hn : n ≤ 1000000) (hn' : n' ≤ 1000000) (hq : Sq w w.heap.size 3 n A (flat l)) (hq' : Sq w w.heap.size 3 n' A' (flat l')) :
    Calls Tryd.prog 57 #[.slice A n c, .slice A' n' c'] w fun e w' => e = .returned (.bool (eqL l l')) ∧ Below w.heap.size w w' := by
  have hl : l.length = n := by have := hq.len; rw [flat_length] at this; omega
  have hl' : l'.length = n' := by have := hq'.len; rw [flat_length] at this; omega
  have Q := Lib.hid hq
  have Q' := Lib.hid hq'
  have LN := Lib.hid hl
  have LN' := Lib.hid hl'
  clear hq hq'
  by_cases hne : n = n'
  · subst hne
    clear hl hl'
    go_enter Tryd.func57, Tryd.ntmps57
    go_wp2
    go_loopw [5] (fun i wr => ∃ k : Nat, i = .int .i64 k ∧ k ≤ n ∧ Hid (l.take k = l'.take k) ∧ Below w.heap.size w wr) (fun i _ => n - (intOf i).toNat)
    case atStart => exact ⟨0, rfl, Nat.zero_le _, Lib.hid rfl, Below.refl _ _⟩
    case round =>
      obtain ⟨k, rfl, hk, TK, hb⟩ := hrel
      by_cases hlt : k < n
      · obtain ⟨b, off, rfl, _, ⟨r, m, a⟩, hcc, q0, q1, q2⟩ := (Q.out.below hb).three hlt
        obtain ⟨b', off', rfl, _, ⟨r', m', a'⟩, hcc', q0', q1', q2'⟩ := (Q'.out.below hb).three hlt
        have HB := Lib.hid hb
        have HC := Lib.hid hcc
        have HC' := Lib.hid hcc'
        clear hb hcc hcc'
        simp only at q0 q1 q2 q0' q1' q2'
        cases hE : ((r == r') && (m == m') && (a == a'))
        · have EF := Lib.hid (eqL_other HC.out HC'.out (cel_ne hE))
          cases h1 : (r == r') <;> cases h2 : (m == m') <;> cases h3 : (a == a')
          all_goals
            first
              | (exfalso; rw [h1, h2, h3] at hE; cases hE; done)
              | (clear hE
                 go_wp2_with fail
                 go_quiet (fail)
                 go_wp2
                 go_ret
                 exact ⟨ret_bool EF.out.symm, Below.drewN HB.out _⟩)
        · simp only [Bool.and_eq_true, beq_iff_eq] at hE
          obtain ⟨⟨rfl, rfl⟩, rfl⟩ := hE
          have TK2 := Lib.hid (take_same TK.out HC.out HC'.out)
          go_wp2_with fail
          go_quiet (fail)
          go_wp2
          go_roundw
          case rel => exact ⟨k + 1, by go_num, by omega, TK2, Below.drewN HB.out _⟩
          case measure => simp [intOf]; omega
      · have hk' : k = n := by omega
        have ET := Lib.hid (eqL_all LN.out LN'.out (by rw [← hk']; exact TK.out))
        have HB := Lib.hid hb
        clear hk' hb
        go_wp2
        go_ret
        exact ⟨ret_bool ET.out.symm, HB.out⟩
  · have EF := Lib.hid (eqL_len (l := l) (l' := l') (by omega))
    have d1 : ((n : Int) != (n' : Int)) = true := by simp; omega
    clear hl hl'
    go_enter Tryd.func57, Tryd.ntmps57
    go_wp2
    go_ret
    exact ⟨ret_bool EF.out.symm, Below.refl _ _⟩

set_option maxRecDepth 100000 in
set_option maxHeartbeats 3200000 in
theorem packEq_walk (A A' : Option Addr) (n c n' c' : Nat) (wrap wrap' : Bool) (l l' : List Cel) (w : World) (hn : n ≤ 1000000) (hn' : n' ≤ 1000000) (hq : Sq w w.heap.size 3 n A (flat l)) (hq' : Sq w w.heap.size 3 n' A' (flat l')) :
    Calls Tryd.prog 28 #[rowV A n c wrap, rowV A' n' c' wrap'] w fun e w' => e = .returned (.bool (wrap == wrap' && eqL l l')) ∧ Below w.heap.size w w' := by
  have w2b : Below w.heap.size w ((w.alloc (.cells #[.slice A n c, .bool wrap] 31)).alloc (.cells #[.slice A' n' c', .bool wrap'] 31)) := ((Below.refl _ _).alloc (Nat.le_refl _) _).alloc (by simp) _
  have EW := Lib.hid (fun w' (h : Below w.heap.size w w') => slicesEq_walk A A' n c n' c' l l' w' hn hn' ((hq.below h).up h.size) ((hq'.below h).up h.size))
  have W2B := Lib.hid w2b
  clear hq hq' w2b
  cases wrap <;> cases wrap'
  all_goals
    go_enter Tryd.func28, Tryd.ntmps28
    go_wp2_with fail
    first
      | (go_ret
         exact ⟨rfl, W2B.out⟩)
      | (refine (EW.out _ W2B.out).mono ?_
         rintro e w3 ⟨rfl, b3⟩
         have B3 := Lib.hid (W2B.out.trans (b3.mono W2B.out.size))
         clear b3
         go_wp2
         go_ret
         exact ⟨by simp, B3.out⟩)

set_option maxRecDepth 100000 in
set_option maxHeartbeats 3200000 in
theorem eqRow_walk (A A' : Option Addr) (n c n' c' : Nat) (wrap wrap' : Bool) (l l' : List Cel) (w : World) (hn : n ≤ 1000000) (hn' : n' ≤ 1000000) (hq : Sq w w.heap.size 3 n A (flat l)) (hq' : Sq w w.heap.size 3 n' A' (flat l')) :
    Calls Tryd.prog 29 #[rowV A n c wrap, rowV A' n' c' wrap'] w fun e w' => e = .returned (.bool (wrap == wrap' && eqL l l')) ∧ Below w.heap.size w w' := by
  have w2b : Below w.heap.size w ((w.alloc (.cells #[.slice A n c, .bool wrap] 31)).alloc (.cells #[.slice A' n' c', .bool wrap'] 31)) := ((Below.refl _ _).alloc (Nat.le_refl _) _).alloc (by simp) _
  have EW := Lib.hid (fun w' (h : Below w.heap.size w w') => eqCells_walk A A' n c n' c' l l' w' hn hn' ((hq.below h).up h.size) ((hq'.below h).up h.size))
  have W2B := Lib.hid w2b
  clear hq hq' w2b
  cases wrap <;> cases wrap'
  all_goals
    go_enter Tryd.func29, Tryd.ntmps29
    go_wp2_with fail
    first
      | (go_ret
         exact ⟨rfl, W2B.out⟩)
      | (refine (EW.out _ W2B.out).mono ?_
         rintro e w3 ⟨rfl, b3⟩
         have B3 := Lib.hid (W2B.out.trans (b3.mono W2B.out.size))
         clear b3
         go_wp2
         go_ret
         exact ⟨by simp, B3.out⟩)
end Go.Proofs.YtalhlgiklochdaaDoor
