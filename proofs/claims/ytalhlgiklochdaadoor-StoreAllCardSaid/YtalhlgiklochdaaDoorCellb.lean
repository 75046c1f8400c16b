/-
  The functions of package cell: hasSign, May, Of, Line.
-/
import Derived.Test.YtalhlgiklochdaaDoorCell
import Derived.Test.YtalhlgiklochdaaDoorReaderb
namespace Go.Proofs.YtalhlgiklochdaaDoor
open Go.ChangeShapes Go.WideShapes Go.ChangeAt Go.RowKit

def mayA (a : Int) : Bool := decide (0 ≤ a) && decide (a ≤ 255)
set_option maxRecDepth 100000 in
set_option maxHeartbeats 400000 in
theorem mayAttr_yes (a : Int) (h0 : 0 ≤ a) (h1 : a ≤ 255) (w : World) : Calls Tryd.prog 71 #[.int .i64 a] w fun e w' => e = .returned (.bool true) ∧ w = w' := by
  go_enter Tryd.func71, Tryd.ntmps71
  go_wp2
  go_ret
  exact ⟨rfl, rfl⟩
set_option maxRecDepth 100000 in
set_option maxHeartbeats 400000 in
theorem mayAttr_no (a : Int) (h : a < 0 ∨ 255 < a) (w : World) : Calls Tryd.prog 71 #[.int .i64 a] w fun e w' => e = .returned (.bool false) ∧ w = w' := by
  rcases h with h | h
  · go_enter Tryd.func71, Tryd.ntmps71
    go_wp2
    go_ret
    exact ⟨rfl, rfl⟩
  · have h0 : 0 ≤ a := by omega
    have h1 : decide (a ≤ 255) = false := by simp; omega
    go_enter Tryd.func71, Tryd.ntmps71
    go_wp2
    go_ret
    exact ⟨rfl, rfl⟩

/-- Does a sign stand in it? -/
def hasB (r n a : Int) : Bool := (n == 1 || n == 2) && !(isB 0 r n a)
set_option maxRecDepth 100000 in
set_option maxHeartbeats 800000 in
theorem hasSign_walk (r n a : Int) (w : World) : Calls Tryd.prog 87 #[cellV r n a] w fun e w' => e = .returned (.bool (hasB r n a)) ∧ Below w.heap.size w w' := by
  obtain ⟨B, hB⟩ : ∃ B, hasB r n a = B := ⟨_, rfl⟩
  rw [hB]
  unfold hasB at hB
  obtain ⟨p, hp⟩ : ∃ p, isB 0 r n a = p := ⟨_, rfl⟩
  rw [hp] at hB
  have P := fun w => isPad_walk r n a w
  rw [hp] at P
  have PH := Lib.hid P
  clear P hp
  cases h1 : (n == 1) <;> cases h2 : (n == 2) <;> rw [h1, h2] at hB <;> cases p <;> obtain rfl := hB
  all_goals
    go_enter Tryd.func87, Tryd.ntmps87
    go_wp2_with (go_at_call 73; refine (PH.out _).mono ?_; rintro e w' ⟨rfl, hb⟩)
    go_ret
    first
      | exact ⟨rfl, ((Below.refl _ _).alloc (Nat.le_refl _) _).trans (hb.mono (by simp))⟩
      | exact ⟨rfl, (Below.refl _ _).alloc (Nat.le_refl _) _⟩

/-- Cells one behind the other, as memory has them. -/
def flat : List (Int × Int × Int) → List Value
  | [] => []
  | c :: l => .int .i32 c.1 :: .int .i64 c.2.1 :: .int .i64 c.2.2 :: flat l
theorem flat_length (l : List (Int × Int × Int)) : (flat l).length = l.length * 3 := by
  induction l with
  | nil => rfl
  | cons c l ih => simp only [flat, List.length_cons, ih]; omega
theorem flat_append (l m : List (Int × Int × Int)) : flat (l ++ m) = flat l ++ flat m := by
  induction l with
  | nil => rfl
  | cons c l ih => simp only [List.cons_append, flat, ih]
/-- A list of cells in a row of the call's own. -/
def HasC (w : World) (base : Nat) (v : Value) (l : List (Int × Int × Int)) : Prop := w.ownsRow base 45 3 v l.length (flat l)
/-- The cells of a sign. -/
def ofL (r a : Int) : List (Int × Int × Int) := if mayA a then (if wof r = 1 then [(r, 1, a)] else if wof r = 2 then [(r, 2, a), (0, 0, a)] else []) else []
def OfPost (l : List (Int × Int × Int)) (w : World) (e : Ending) (w' : World) : Prop := ∃ v, e = .returned v ∧ HasC w' w.heap.size v l ∧ Below w.heap.size w w'

theorem own_new (w : World) (e : TypeId) (size n : Nat) (cs : Array Value) (hs : cs.size = n * size) (hn : n ≤ 1099511627776) : (w.alloc (.cells cs e)).ownsRow w.heap.size e size (.slice (some ⟨w.heap.size, 0, none⟩) n n) n cs.toList := by
  refine ⟨by rw [Array.length_toList, hs], .inr ⟨w.heap.size, n, cs, rfl, Nat.le_refl _, heap_alloc_new w _, Nat.le_refl _, by unfold maxLen; omega, hs, ?_⟩⟩
  rw [← hs, ← Array.length_toList]; exact List.take_length

set_option maxRecDepth 100000 in
set_option maxHeartbeats 800000 in
theorem cellOf_walk (r a : Int) (hr0 : -2147483648 ≤ r) (hr1 : r ≤ 2147483647) (w : World) (hs : Spans w) :
    Calls Tryd.prog 77 #[.int .i32 r, .int .i64 a] w fun e w' => OfPost (ofL r a) w e w' := by
  have F := of_walk r hr0 hr1 w hs
  clear hs
  by_cases ha : 0 ≤ a ∧ a ≤ 255
  · obtain ⟨h0, h1⟩ := ha
    have hm : mayA a = true := by simp [mayA, h0, h1]
    have M := mayAttr_yes a h0 h1 w
    have hwr := wof_range r
    have hw : wof r = 0 ∨ wof r = 1 ∨ wof r = 2 := by omega
    clear hwr
    rcases hw with hw | hw | hw
    · have e : ofL r a = [] := by simp [ofL, hm, hw]
      rw [e]
      rw [hw] at F
      have FH := Lib.hid F
      have MH := Lib.hid M
      clear F M hw hm e
      go_enter Tryd.func77, Tryd.ntmps77
      go_wp2_with (first | (go_at_call 71; refine MH.out.mono ?_; rintro e w' ⟨rfl, rfl⟩) | (go_at_call 72; refine FH.out.mono ?_; rintro e w' ⟨rfl, rfl⟩))
      go_ret
      exact ⟨_, rfl, World.ownsRow_nil _ _ _ _, Below.refl _ _⟩
    · have e : ofL r a = [(r, 1, a)] := by simp [ofL, hm, hw]
      rw [e]
      rw [hw] at F
      have FH := Lib.hid F
      have MH := Lib.hid M
      clear F M hw hm e
      go_enter Tryd.func77, Tryd.ntmps77
      go_wp2_with (first | (go_at_call 71; refine MH.out.mono ?_; rintro e w' ⟨rfl, rfl⟩) | (go_at_call 72; refine FH.out.mono ?_; rintro e w' ⟨rfl, rfl⟩))
      go_ret
      exact ⟨_, rfl, own_new w _ 3 1 #[.int .i32 r, .int .i64 1, .int .i64 a] rfl (by omega), (Below.refl _ _).alloc (Nat.le_refl _) _⟩
    · have e : ofL r a = [(r, 2, a), (0, 0, a)] := by simp [ofL, hm, hw]
      rw [e]
      rw [hw] at F
      have FH := Lib.hid F
      have MH := Lib.hid M
      clear F M hw hm e
      go_enter Tryd.func77, Tryd.ntmps77
      go_wp2_with (first | (go_at_call 71; refine MH.out.mono ?_; rintro e w' ⟨rfl, rfl⟩) | (go_at_call 72; refine FH.out.mono ?_; rintro e w' ⟨rfl, rfl⟩))
      go_ret
      exact ⟨_, rfl, own_new w _ 3 2 #[.int .i32 r, .int .i64 2, .int .i64 a, .int .i32 0, .int .i64 0, .int .i64 a] rfl (by omega), (Below.refl _ _).alloc (Nat.le_refl _) _⟩
  · have hm : mayA a = false := by unfold mayA; by_cases h : 0 ≤ a <;> simp [h]; omega
    have M := mayAttr_no a (by omega) w
    have e : ofL r a = [] := by simp [ofL, hm]
    rw [e]
    have FH := Lib.hid F
    have MH := Lib.hid M
    clear F M hm e
    go_enter Tryd.func77, Tryd.ntmps77
    go_wp2_with (first | (go_at_call 71; refine MH.out.mono ?_; rintro e w' ⟨rfl, rfl⟩) | (go_at_call 72; refine FH.out.mono ?_; rintro e w' ⟨rfl, rfl⟩))
    go_ret
    exact ⟨_, rfl, World.ownsRow_nil _ _ _ _, Below.refl _ _⟩

set_option maxRecDepth 100000 in
set_option maxHeartbeats 800000 in
theorem may_half (a : Int) (h0 : 0 ≤ a) (h1 : a ≤ 255) (w : World) : Calls Tryd.prog 54 #[cellV 0 0 a] w fun e w' => e = .returned (.bool true) ∧ Below w.heap.size w w' := by
  go_enter Tryd.func54, Tryd.ntmps54
  go_wp2_with (go_at_call 71; refine (mayAttr_yes a h0 h1 _).mono ?_; rintro e w' ⟨rfl, rfl⟩)
  go_ret
  exact ⟨rfl, (Below.refl _ _).alloc (Nat.le_refl _) _⟩
set_option maxRecDepth 100000 in
set_option maxHeartbeats 1600000 in
theorem may_sign (r n a : Int) (h0 : 0 ≤ a) (h1 : a ≤ 255) (hr0 : -2147483648 ≤ r) (hr1 : r ≤ 2147483647) (hn : wof r = n) (hn0 : n = 1 ∨ n = 2) (w : World) (hs : Spans w) : Calls Tryd.prog 54 #[cellV r n a] w fun e w' => e = .returned (.bool true) ∧ Below w.heap.size w w' := by
  have F := fun w hs => of_walk r hr0 hr1 w hs
  rw [hn] at F
  have FH := Lib.hid F
  have hz : (n == 0) = false := by rcases hn0 with rfl | rfl <;> rfl
  have SA := hs.below ((Below.refl w.heap.size w).alloc (Nat.le_refl _) (.cells #[.int .i32 r, .int .i64 n, .int .i64 a] 45)) hs.size
  have SH := Lib.hid SA
  clear F hn hs hn0 SA
  go_enter Tryd.func54, Tryd.ntmps54
  go_wp2_with (go_at_call 71; refine (mayAttr_yes a h0 h1 _).mono ?_; rintro e w' ⟨rfl, rfl⟩)
  go_region_with (go_at_call 72; refine (FH.out _ (by first | exact SH.out | exact Spans.drew SH.out | exact Spans.drew (Spans.drew SH.out))).mono ?_; rintro e w' ⟨rfl, rfl⟩)
  all_goals go_wp2
  all_goals go_ret
  all_goals first
    | exact ⟨rfl, (Below.refl _ _).alloc (Nat.le_refl _) _⟩
    | exact ⟨rfl, ((Below.refl _ _).alloc (Nat.le_refl _) _).drew⟩

/-- A cell of a line. -/
structure Good (c : Int × Int × Int) : Prop where
  sign : -2147483648 ≤ c.1 ∧ c.1 ≤ 2147483647
  wide : wof c.1 = c.2.1
  two : c.2.1 = 1 ∨ c.2.1 = 2
  attr : 0 ≤ c.2.2 ∧ c.2.2 ≤ 255
theorem Good.has {c : Int × Int × Int} (h : Good c) : hasB c.1 c.2.1 c.2.2 = true := by
  have h0 : c.1 ≠ 0 := fun e => by
    have := h.wide; rw [e] at this
    rcases h.two with k | k <;> rw [k] at this <;> exact absurd this (by decide)
  have hb : (c.1 == 0) = false := by simpa using h0
  rcases h.two with k | k <;> simp [hasB, isB, hb, k]
theorem Sq.three {w : World} {B n : Nat} {A : Option Addr} {l : List (Int × Int × Int)} (h : Sq w B 3 n A (flat l)) {i : Nat} (hi : i < n) :
    ∃ b off, A = some ⟨b, off, none⟩ ∧ b < B ∧ ∃ c, l[i]? = some c ∧ w.cell? ⟨b, off + i * 3, none⟩ = some (.int .i32 c.1) ∧ w.cell? ⟨b, off + i * 3 + 1, none⟩ = some (.int .i64 c.2.1) ∧ w.cell? ⟨b, off + i * 3 + 2, none⟩ = some (.int .i64 c.2.2) := by
  obtain ⟨b, off, e, hb, hc⟩ := h.spot (by omega)
  have hl : i < l.length := by have := h.len; rw [flat_length] at this; omega
  have key : ∀ (l : List (Int × Int × Int)) (i : Nat) (hl : i < l.length), (flat l)[i * 3]? = some (.int .i32 (l[i]'hl).1) ∧ (flat l)[i * 3 + 1]? = some (.int .i64 (l[i]'hl).2.1) ∧ (flat l)[i * 3 + 2]? = some (.int .i64 (l[i]'hl).2.2) := by
    intro l
    induction l with
    | nil => intro i hl; simp at hl
    | cons c l ih =>
      intro i hl
      cases i with
      | zero => exact ⟨rfl, rfl, rfl⟩
      | succ i =>
        have := ih i (by simpa using hl)
        have e : (i + 1) * 3 = i * 3 + 1 + 1 + 1 := by omega
        rw [e]
        simpa [flat] using this
  obtain ⟨k0, k1, k2⟩ := key l i hl
  exact ⟨b, off, e, hb, l[i], List.getElem?_eq_getElem hl, hc _ _ k0, hc _ _ k1, hc _ _ k2⟩
end Go.Proofs.YtalhlgiklochdaaDoor
