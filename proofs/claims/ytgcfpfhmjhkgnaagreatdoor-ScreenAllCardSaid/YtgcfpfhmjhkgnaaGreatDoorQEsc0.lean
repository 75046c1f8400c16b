import Derived.Test.YtgcfpfhmjhkgnaaGreatDoorQBase4
import Derived.Lib.AppendStr
import Derived.StillTailTactics
set_option maxRecDepth 100000
set_option maxHeartbeats 3200000
namespace Go.Proofs.YtgcfpfhmjhkgnaaGreatDoor
namespace Esc
structure Ev where
  kind : Int
  r : Int
  args : List Int
  text : List UInt8
inductive St where
  | rest
  | esc
  | csi (t : List Int)
  | osc (t : List Int)
  | oscEsc (t : List Int)
def okSign (r : Int) : Bool := r == 59 || (decide (48 ≤ r) && decide (r ≤ 57))
def bad (t : List Int) : Bool := t.any fun r => !okSign r
def stepN (a : List Int) (r : Int) : List Int :=
  if r = 59 then a ++ [0] else if okSign r then a.set (a.length - 1) (min (a.getD (a.length - 1) 0 * 10 + (r - 48)) 9999) else a
def nums (t : List Int) : List Int := t.foldl stepN [0]
def manyOf (t : List Int) : Nat := if t.any okSign then (nums t).length else 0
def argOf (t : List Int) (i : Nat) : Int := (nums t).getD i 0
def begin' (r : Int) : St := if r = 91 then .csi [] else if r = 93 then .osc [] else if r = 27 then .esc else .rest
def stepS : St → Int → St
  | .rest, r => if r = 27 then .esc else .rest
  | .esc, r => begin' r
  | .csi t, r => if 64 ≤ r ∧ r ≤ 126 then .rest else if r = 27 then .esc else if r < 32 then .rest else .csi (t ++ [r])
  | .osc t, r => if r = 7 then .rest else if r = 27 then .oscEsc t else .osc (t ++ [r])
  | .oscEsc _, r => if r = 92 then .rest else begin' r
def csiArgs (t : List Int) : List Int := if t = [] then [] else (nums t).take 8
def csiEv (t : List Int) (r : Int) : Option Ev := if bad t then none else some ⟨3, r, csiArgs t, []⟩
def oscEv (t : List Int) : Option Ev := if (encL t).length ≤ 4000 then some ⟨4, 0, [], encL t⟩ else none
def stepE : St → Int → Option Ev
  | .rest, r => if r = 8 ∨ r = 9 ∨ r = 10 ∨ r = 13 then some ⟨2, r, [], []⟩ else if 32 ≤ r ∧ r ≠ 127 then some ⟨1, r, [], []⟩ else none
  | .esc, _ => none
  | .csi t, r => if 64 ≤ r ∧ r ≤ 126 then csiEv t r else none
  | .osc t, r => if r = 7 then oscEv t else none
  | .oscEsc t, r => if r = 92 then oscEv t else none
def quiet : St → Bool
  | .rest => true
  | _ => false
def runS (st : St) (l : List Int) : St := l.foldl stepS st
theorem runS_snoc (st : St) (l : List Int) (r : Int) : runS st (l ++ [r]) = stepS (runS st l) r := by simp [runS]
def sizeS : St → Nat
  | .csi t => t.length
  | .osc t => t.length
  | .oscEsc t => t.length
  | _ => 0
theorem sizeS_step (st : St) (r : Int) : sizeS (stepS st r) ≤ sizeS st + 1 := by
  have hb : ∀ x, sizeS (begin' x) = 0 := by
    intro x
    unfold begin'
    repeat' split
    all_goals rfl
  cases st with
  | rest => simp only [stepS]; split <;> simp [sizeS]
  | esc => simp only [stepS]; rw [hb]; omega
  | csi t => simp only [stepS]; repeat' split
             all_goals simp [sizeS]
  | osc t => simp only [stepS]; repeat' split
             all_goals simp [sizeS]
  | oscEsc t =>
    simp only [stepS]
    split
    · simp [sizeS]
    · rw [hb]; omega
theorem sizeS_run (l : List Int) : ∀ st, sizeS (runS st l) ≤ sizeS st + l.length := by
  induction l with
  | nil => intro st; simp [runS]
  | cons r l ih =>
    intro st
    have h1 := ih (stepS st r)
    have h2 := sizeS_step st r
    have e : runS st (r :: l) = runS (stepS st r) l := rfl
    rw [e, List.length_cons]
    omega
theorem nums_snoc (t : List Int) (r : Int) : nums (t ++ [r]) = stepN (nums t) r := by simp [nums]
theorem stepN_len (a : List Int) (r : Int) : (stepN a r).length = a.length + (if r = 59 then 1 else 0) := by
  unfold stepN
  repeat' split
  all_goals simp_all
theorem nums_len (t : List Int) : 1 ≤ (nums t).length ∧ (nums t).length ≤ t.length + 1 := by
  have h : ∀ (l a : List Int), 1 ≤ a.length → 1 ≤ (l.foldl stepN a).length ∧ (l.foldl stepN a).length ≤ l.length + a.length := by
    intro l
    induction l with
    | nil => intro a h; exact ⟨h, by simp⟩
    | cons r l ih =>
      intro a h
      have hl := stepN_len a r
      have := ih (stepN a r) (by omega)
      rw [List.foldl_cons, List.length_cons]
      split at hl <;> omega
  exact h t [0] (by simp)
theorem getD_mem_or {l : List Int} (P : Int → Prop) (h0 : P 0) (h : ∀ x ∈ l, P x) (i : Nat) : P (l.getD i 0) := by
  unfold List.getD
  cases hi : l[i]? with
  | none => exact h0
  | some x => exact h x (List.mem_of_getElem? hi)
theorem stepN_range {a : List Int} (h : ∀ x ∈ a, 0 ≤ x ∧ x ≤ 9999) (r : Int) : ∀ x ∈ stepN a r, 0 ≤ x ∧ x ≤ 9999 := by
  intro x hx
  unfold stepN at hx
  split at hx
  · rcases List.mem_append.1 hx with hx | hx
    · exact h x hx
    · rw [List.mem_singleton.1 hx]; omega
  · split at hx
    · rename_i hok
      rcases List.mem_or_eq_of_mem_set hx with hx | hx
      · exact h x hx
      · have h9 := getD_mem_or (l := a) (fun x => 0 ≤ x ∧ x ≤ 9999) (by omega) h (a.length - 1)
        simp only [okSign, Bool.or_eq_true, Bool.and_eq_true, beq_iff_eq, decide_eq_true_eq] at hok
        rw [hx]
        omega
    · exact h x hx
theorem nums_range (t : List Int) : ∀ x ∈ nums t, 0 ≤ x ∧ x ≤ 9999 := by
  have h : ∀ (l a : List Int), (∀ x ∈ a, 0 ≤ x ∧ x ≤ 9999) → ∀ x ∈ l.foldl stepN a, 0 ≤ x ∧ x ≤ 9999 := by
    intro l
    induction l with
    | nil => intro a h; exact h
    | cons r l ih => intro a h; rw [List.foldl_cons]; exact ih _ (stepN_range h r)
  exact h t [0] (by intro x hx; rw [List.mem_singleton.1 hx]; omega)
theorem argOf_range (t : List Int) (i : Nat) : 0 ≤ argOf t i ∧ argOf t i ≤ 9999 := getD_mem_or (fun x => 0 ≤ x ∧ x ≤ 9999) (by omega) (nums_range t) i
theorem manyOf_le (t : List Int) : manyOf t ≤ t.length + 1 := by
  unfold manyOf
  split
  · exact (nums_len t).2
  · omega
theorem nums_bad (t : List Int) (h : t.any okSign = false) : nums t = [0] := by
  have hh : ∀ l : List Int, l.any okSign = false → ∀ a, l.foldl stepN a = a := by
    intro l
    induction l with
    | nil => intro _ a; rfl
    | cons r l ih =>
      intro h a
      rw [List.any_cons, Bool.or_eq_false_iff] at h
      rw [List.foldl_cons]
      have e : stepN a r = a := by
        have h59 : r ≠ 59 := by rintro rfl; simp [okSign] at h
        unfold stepN
        rw [if_neg h59, if_neg (by simp [h.1])]
      rw [e]
      exact ih h.2 a
  exact hh t h [0]
theorem bad_snoc (t : List Int) (r : Int) : bad (t ++ [r]) = (bad t || !okSign r) := by simp [bad]
theorem manyOf_bad (t : List Int) (r : Int) (h : okSign r = false) : manyOf (t ++ [r]) = manyOf t ∧ nums (t ++ [r]) = nums t := by
  have e : nums (t ++ [r]) = nums t := by
    rw [nums_snoc]
    have h59 : r ≠ 59 := by rintro rfl; simp [okSign] at h
    unfold stepN
    rw [if_neg h59, if_neg (by simp [h])]
  refine ⟨?_, e⟩
  unfold manyOf
  rw [e, List.any_append]
  simp [h]
def manyUp (t : List Int) : Nat := if manyOf t = 0 then 1 else manyOf t
theorem manyUp_len (t : List Int) : manyUp t = (nums t).length := by
  unfold manyUp manyOf
  have := (nums_len t).1
  cases h : t.any okSign with
  | true => rw [if_pos rfl, if_neg (by omega)]
  | false => simp [nums_bad t h]
theorem manyOf_ok (t : List Int) (r : Int) (h : okSign r = true) : manyOf (t ++ [r]) = manyUp t + (if r = 59 then 1 else 0) := by
  rw [manyUp_len]
  unfold manyOf
  rw [List.any_append]
  simp only [List.any_cons, h, Bool.true_or, Bool.or_true, if_true]
  rw [nums_snoc, stepN_len]
theorem argOf_semi (t : List Int) (i : Nat) : argOf (t ++ [59]) i = argOf t i := by
  unfold argOf
  rw [nums_snoc]
  unfold stepN
  rw [if_pos rfl]
  simp only [List.getD_eq_getElem?_getD, List.getElem?_append]
  split
  · rfl
  · rename_i h
    rw [List.getElem?_eq_none (l := nums t) (by omega)]
    cases hh : i - (nums t).length with
    | zero => simp
    | succ k => simp
theorem argOf_digit (t : List Int) (r : Int) (h0 : 48 ≤ r) (h1 : r ≤ 57) (i : Nat) : argOf (t ++ [r]) i = if i = (nums t).length - 1 then min (argOf t i * 10 + (r - 48)) 9999 else argOf t i := by
  unfold argOf
  rw [nums_snoc]
  unfold stepN
  have hl := (nums_len t).1
  rw [if_neg (by omega), if_pos (by simp [okSign]; omega)]
  simp only [List.getD_eq_getElem?_getD, List.getElem?_set]
  by_cases hi : i = (nums t).length - 1
  · subst hi
    rw [if_pos rfl, if_pos rfl, if_pos (by omega)]
    rfl
  · rw [if_neg (by omega), if_neg hi]
theorem argOf_nil (i : Nat) : argOf [] i = 0 := by
  unfold argOf nums
  cases i <;> simp
theorem csiArgs_len (t : List Int) : (csiArgs t).length = min (if t = [] then 0 else (nums t).length) 8 := by
  unfold csiArgs
  split
  · simp
  · rw [List.length_take]; omega
theorem csiArgs_get {t : List Int} {i : Nat} {x : Int} (h : (csiArgs t)[i]? = some x) : x = argOf t i := by
  unfold csiArgs at h
  split at h
  · simp at h
  · rw [List.getElem?_take] at h
    split at h
    · unfold argOf
      rw [List.getD_eq_getElem?_getD, h]
      rfl
    · cases h
theorem csiArgs_good {t : List Int} (h : bad t = false) : (csiArgs t).length = min (manyOf t) 8 := by
  rw [csiArgs_len]
  unfold manyOf
  cases t with
  | nil => rfl
  | cons r t =>
    have hr : okSign r = true := by
      simp only [bad, List.any_cons, Bool.or_eq_false_iff] at h
      simpa using h.1
    rw [if_neg (by simp), List.any_cons, hr, Bool.true_or, if_pos rfl]
def textOsc (t : List Int) : List UInt8 := if 4000 < (encL t).length then [] else encL t
def over (t : List Int) : Bool := decide (4000 < (encL t).length)
theorem encL_snoc (t : List Int) (r : Int) : encL (t ++ [r]) = encL t ++ Lib.encodeRune r := by rw [encL_append, encL_one]
theorem over_snoc {t : List Int} (h : over t = true) (r : Int) : over (t ++ [r]) = true := by
  unfold over at h ⊢
  rw [encL_snoc, List.length_append]
  simp only [decide_eq_true_eq] at h ⊢
  omega
end Esc
end Go.Proofs.YtgcfpfhmjhkgnaaGreatDoor
namespace Go.Proofs.YtgcfpfhmjhkgnaaGreatDoor
open Go.ChangeShapes Go.WideShapes Go.ChangeAt Go.RowKit
namespace Esc
def pcells (pl : Int) (mu : Bool) (mn : Int) (a : Nat → Int) (v : Value) : Array Value :=
 #[.int .i64 pl, .bool mu, .int .i64 mn, .int .i64 (a 0), .int .i64 (a 1), .int .i64 (a 2), .int .i64 (a 3), .int .i64 (a 4), .int .i64 (a 5), .int .i64 (a 6), .int .i64 (a 7), v]
abbrev PCells (w : World) (g : Nat) (cs : Array Value) : Prop := w.heap[g]? = some (.cells cs 62 (0, 0))
theorem PCells.get {w : World} {g : Nat} {cs : Array Value} (h : PCells w g cs) (j : Nat) : w.cell? ⟨g, j, none⟩ = cs[j]? := cell_of_row w g j _ _ (0, 0) h
theorem PCells.free {w : World} {g : Nat} {cs : Array Value} (h : PCells w g cs) (j : Nat) : w.frozen? ⟨g, j, none⟩ = false := frozen_of_row w g j _ _ h
theorem PCells.put {w : World} {g : Nat} {cs : Array Value} (h : PCells w g cs) (j : Nat) (v : Value) : PCells (w.setCell ⟨g, j, none⟩ v) g (cs.setIfInBounds j v) := heap_setCell_same w g j _ _ _ h
theorem PCells.lt {w : World} {g : Nat} {cs : Array Value} (h : PCells w g cs) : g < w.heap.size := (Array.getElem?_eq_some_iff.1 h).1
theorem PCells.put12 {w : World} {g : Nat} {c0 c1 c2 c3 c4 c5 c6 c7 c8 c9 c10 c11 : Value} (h : PCells w g #[c0, c1, c2, c3, c4, c5, c6, c7, c8, c9, c10, c11]) (u0 u1 u2 u3 u4 u5 u6 u7 u8 u9 u10 u11 : Value) : PCells ((((((((((((w.setCell ⟨g, 0, none⟩ u0).setCell ⟨g, 1, none⟩ u1).setCell ⟨g, 2, none⟩ u2).setCell ⟨g, 3, none⟩ u3).setCell ⟨g, 4, none⟩ u4).setCell ⟨g, 5, none⟩ u5).setCell ⟨g, 6, none⟩ u6).setCell ⟨g, 7, none⟩ u7).setCell ⟨g, 8, none⟩ u8).setCell ⟨g, 9, none⟩ u9).setCell ⟨g, 10, none⟩ u10).setCell ⟨g, 11, none⟩ u11) g #[u0, u1, u2, u3, u4, u5, u6, u7, u8, u9, u10, u11] := by
 have h0 : PCells (w.setCell ⟨g, 0, none⟩ u0) g #[u0, c1, c2, c3, c4, c5, c6, c7, c8, c9, c10, c11] := h.put 0 u0
 have h1 : PCells ((w.setCell ⟨g, 0, none⟩ u0).setCell ⟨g, 1, none⟩ u1) g #[u0, u1, c2, c3, c4, c5, c6, c7, c8, c9, c10, c11] := h0.put 1 u1
 have h2 : PCells (((w.setCell ⟨g, 0, none⟩ u0).setCell ⟨g, 1, none⟩ u1).setCell ⟨g, 2, none⟩ u2) g #[u0, u1, u2, c3, c4, c5, c6, c7, c8, c9, c10, c11] := h1.put 2 u2
 have h3 : PCells ((((w.setCell ⟨g, 0, none⟩ u0).setCell ⟨g, 1, none⟩ u1).setCell ⟨g, 2, none⟩ u2).setCell ⟨g, 3, none⟩ u3) g #[u0, u1, u2, u3, c4, c5, c6, c7, c8, c9, c10, c11] := h2.put 3 u3
 have h4 : PCells (((((w.setCell ⟨g, 0, none⟩ u0).setCell ⟨g, 1, none⟩ u1).setCell ⟨g, 2, none⟩ u2).setCell ⟨g, 3, none⟩ u3).setCell ⟨g, 4, none⟩ u4) g #[u0, u1, u2, u3, u4, c5, c6, c7, c8, c9, c10, c11] := h3.put 4 u4
 have h5 : PCells ((((((w.setCell ⟨g, 0, none⟩ u0).setCell ⟨g, 1, none⟩ u1).setCell ⟨g, 2, none⟩ u2).setCell ⟨g, 3, none⟩ u3).setCell ⟨g, 4, none⟩ u4).setCell ⟨g, 5, none⟩ u5) g #[u0, u1, u2, u3, u4, u5, c6, c7, c8, c9, c10, c11] := h4.put 5 u5
 have h6 : PCells (((((((w.setCell ⟨g, 0, none⟩ u0).setCell ⟨g, 1, none⟩ u1).setCell ⟨g, 2, none⟩ u2).setCell ⟨g, 3, none⟩ u3).setCell ⟨g, 4, none⟩ u4).setCell ⟨g, 5, none⟩ u5).setCell ⟨g, 6, none⟩ u6) g #[u0, u1, u2, u3, u4, u5, u6, c7, c8, c9, c10, c11] := h5.put 6 u6
 have h7 : PCells ((((((((w.setCell ⟨g, 0, none⟩ u0).setCell ⟨g, 1, none⟩ u1).setCell ⟨g, 2, none⟩ u2).setCell ⟨g, 3, none⟩ u3).setCell ⟨g, 4, none⟩ u4).setCell ⟨g, 5, none⟩ u5).setCell ⟨g, 6, none⟩ u6).setCell ⟨g, 7, none⟩ u7) g #[u0, u1, u2, u3, u4, u5, u6, u7, c8, c9, c10, c11] := h6.put 7 u7
 have h8 : PCells (((((((((w.setCell ⟨g, 0, none⟩ u0).setCell ⟨g, 1, none⟩ u1).setCell ⟨g, 2, none⟩ u2).setCell ⟨g, 3, none⟩ u3).setCell ⟨g, 4, none⟩ u4).setCell ⟨g, 5, none⟩ u5).setCell ⟨g, 6, none⟩ u6).setCell ⟨g, 7, none⟩ u7).setCell ⟨g, 8, none⟩ u8) g #[u0, u1, u2, u3, u4, u5, u6, u7, u8, c9, c10, c11] := h7.put 8 u8
 have h9 : PCells ((((((((((w.setCell ⟨g, 0, none⟩ u0).setCell ⟨g, 1, none⟩ u1).setCell ⟨g, 2, none⟩ u2).setCell ⟨g, 3, none⟩ u3).setCell ⟨g, 4, none⟩ u4).setCell ⟨g, 5, none⟩ u5).setCell ⟨g, 6, none⟩ u6).setCell ⟨g, 7, none⟩ u7).setCell ⟨g, 8, none⟩ u8).setCell ⟨g, 9, none⟩ u9) g #[u0, u1, u2, u3, u4, u5, u6, u7, u8, u9, c10, c11] := h8.put 9 u9
 have h10 : PCells (((((((((((w.setCell ⟨g, 0, none⟩ u0).setCell ⟨g, 1, none⟩ u1).setCell ⟨g, 2, none⟩ u2).setCell ⟨g, 3, none⟩ u3).setCell ⟨g, 4, none⟩ u4).setCell ⟨g, 5, none⟩ u5).setCell ⟨g, 6, none⟩ u6).setCell ⟨g, 7, none⟩ u7).setCell ⟨g, 8, none⟩ u8).setCell ⟨g, 9, none⟩ u9).setCell ⟨g, 10, none⟩ u10) g #[u0, u1, u2, u3, u4, u5, u6, u7, u8, u9, u10, c11] := h9.put 10 u10
 have h11 : PCells ((((((((((((w.setCell ⟨g, 0, none⟩ u0).setCell ⟨g, 1, none⟩ u1).setCell ⟨g, 2, none⟩ u2).setCell ⟨g, 3, none⟩ u3).setCell ⟨g, 4, none⟩ u4).setCell ⟨g, 5, none⟩ u5).setCell ⟨g, 6, none⟩ u6).setCell ⟨g, 7, none⟩ u7).setCell ⟨g, 8, none⟩ u8).setCell ⟨g, 9, none⟩ u9).setCell ⟨g, 10, none⟩ u10).setCell ⟨g, 11, none⟩ u11) g #[u0, u1, u2, u3, u4, u5, u6, u7, u8, u9, u10, u11] := h10.put 11 u11
 exact h11
abbrev ptrP (g : Nat) : Value := .pointer (some ⟨g, 0, none⟩)
theorem leaveFor_walk (g : Nat) (pl p0 : Int) (m : Bool) (mn : Int) (a : Nat → Int) (v : Value) (w : World) (h : PCells w g (pcells p0 m mn a v)) :
  Calls Tryz.prog 60 #[ptrP g, .int .i64 pl] w fun e w' => (∃ y, e = .returned y) ∧ PCells w' g (pcells pl false 0 (fun _ => 0) (.slice none 0 0)) ∧ OnlyRow g w w' := by
 have c0 : w.cell? ⟨g, 0, none⟩ = some (.int .i64 p0) := h.get 0
 have c1 : w.cell? ⟨g, 1, none⟩ = some (.bool m) := h.get 1
 have c2 : w.cell? ⟨g, 2, none⟩ = some (.int .i64 mn) := h.get 2
 have c3 : w.cell? ⟨g, 3, none⟩ = some (.int .i64 (a 0)) := h.get 3
 have c4 : w.cell? ⟨g, 4, none⟩ = some (.int .i64 (a 1)) := h.get 4
 have c5 : w.cell? ⟨g, 5, none⟩ = some (.int .i64 (a 2)) := h.get 5
 have c6 : w.cell? ⟨g, 6, none⟩ = some (.int .i64 (a 3)) := h.get 6
 have c7 : w.cell? ⟨g, 7, none⟩ = some (.int .i64 (a 4)) := h.get 7
 have c8 : w.cell? ⟨g, 8, none⟩ = some (.int .i64 (a 5)) := h.get 8
 have c9 : w.cell? ⟨g, 9, none⟩ = some (.int .i64 (a 6)) := h.get 9
 have c10 : w.cell? ⟨g, 10, none⟩ = some (.int .i64 (a 7)) := h.get 10
 have c11 : w.cell? ⟨g, 11, none⟩ = some v := h.get 11
 have f0 := h.free 0
 have f1 := h.free 1
 have f2 := h.free 2
 have f3 := h.free 3
 have f4 := h.free 4
 have f5 := h.free 5
 have f6 := h.free 6
 have f7 := h.free 7
 have f8 := h.free 8
 have f9 := h.free 9
 have f10 := h.free 10
 have f11 := h.free 11
 have H := Lib.hid h
 clear h
 go_enter Tryz.func60, Tryz.ntmps60
 go_wp2
 go_end0
 refine ⟨⟨_, rfl⟩, ?_, ?_⟩
 ·exact PCells.put12 H.out _ _ _ _ _ _ _ _ _ _ _ _
 ·exact ((((((((((((OnlyRow.cell g 0 w _).trans (OnlyRow.cell g 1 _ _)).trans (OnlyRow.cell g 2 _ _)).trans (OnlyRow.cell g 3 _ _)).trans (OnlyRow.cell g 4 _ _)).trans (OnlyRow.cell g 5 _ _)).trans (OnlyRow.cell g 6 _ _)).trans (OnlyRow.cell g 7 _ _)).trans (OnlyRow.cell g 8 _ _)).trans (OnlyRow.cell g 9 _ _)).trans (OnlyRow.cell g 10 _ _)).trans (OnlyRow.cell g 11 _ _))
def placeN : St → Int
 | .rest => 0
 | .esc => 1
 | .csi _ => 2
 | .osc _ => 3
 | .oscEsc _ => 4
def muteB : St → Bool
 | .csi t => bad t
 | .osc t => over t
 | .oscEsc t => over t
 | _ => false
def manyN : St → Nat
 | .csi t => manyOf t
 | _ => 0
def argN : St → Nat → Int
 | .csi t => argOf t
 | _ => fun _ => 0
def bytesI (l : List UInt8) : List Int := l.map fun c => (c.toNat : Int)
def textN : St → List Int
 | .osc t => bytesI (textOsc t)
 | .oscEsc t => bytesI (textOsc t)
 | _ => []
structure PAt (w : World) (g : Nat) (v : Value) (st : St) : Prop where
 cells : PCells w g (pcells (placeN st) (muteB st) (manyN st : Nat) (argN st) v)
 text : HasB w g v (textN st)
def Nums (W : World) (base : Nat) (v : Value) (l : List Int) : Prop := W.ownsRow base 3 1 v l.length (l.map (Value.int .i64))
theorem Nums.nothing (W : World) (base : Nat) : Nums W base (.slice none 0 0) [] := World.ownsRow_nil W base _ _
theorem Nums.lt {W : World} {base : Nat} {v : Value} {l : List Int} (h : Nums W base v l) : ∀ k, v.ownBlock = some k → base ≤ k ∧ k < W.heap.size := fun k e => World.ownsRow.lt h k e
theorem Nums.kept {W W' : World} {base : Nat} {v : Value} {l : List Int} (h : Nums W base v l) (hk : ∀ k, v.ownBlock = some k → W'.heap[k]? = W.heap[k]?) : Nums W' base v l := by
 refine ⟨h.1, ?_⟩
 rcases h.2 with e | ⟨g, cap, cur, rfl, e2, e3, r⟩
 ·exact .inl e
 ·exact .inr ⟨g, cap, cur, rfl, e2, (hk g rfl).trans e3, r⟩
def EvIs (W : World) (base : Nat) (ev : Value) : Option Ev → Prop
 | none => ev = .slice none 0 0
 | some x => ∃ b va, ev = .slice (some ⟨b, 0, none⟩) 1 1 ∧ base ≤ b ∧ W.heap[b]? = some (.cells #[.int .i64 x.kind, .int .i32 x.r, va, .string ⟨x.text.toArray⟩] 43 (0, 0)) ∧ Nums W base va x.args
abbrev Own (g : Nat) (v : Value) (k : Nat) : Prop := k = g ∨ v.ownBlock = some k
def PutPost (g : Nat) (v : Value) (st' : St) (o : Option Ev) (w : World) (e : Ending) (w' : World) : Prop :=
 ∃ ev v', e = .returned ev ∧ EvIs w' w.heap.size ev o ∧ PAt w' g v' st' ∧ Turned (Own g v) w w'
theorem pcells_args {pl mn : Int} {m : Bool} {a b : Nat → Int} {v : Value} (h : ∀ i, a i = b i) : pcells pl m mn a v = pcells pl m mn b v := by unfold pcells; simp only [h]
def bare : St → Prop
 | .rest => True
 | .esc => True
 | .csi t => t = []
 | .osc t => t = []
 | .oscEsc _ => False
theorem bare_cells {st : St} (h : bare st) : pcells (placeN st) (muteB st) (manyN st : Nat) (argN st) (.slice none 0 0) = pcells (placeN st) false 0 (fun _ => 0) (.slice none 0 0) ∧ textN st = [] := by
 cases st with
 | rest => exact ⟨rfl, rfl⟩
 | esc => exact ⟨rfl, rfl⟩
 | csi t => subst h; exact ⟨pcells_args argOf_nil, rfl⟩
 | osc t => subst h; exact ⟨by simp [muteB, over, encL, manyN, argN], by simp [textN, textOsc, encL, bytesI]⟩
 | oscEsc t => exact h.elim
theorem leave (g : Nat) (v : Value) (st st' : St) (w : World) (h : PAt w g v st) (hb : bare st') :
  Calls Tryz.prog 60 #[ptrP g, .int .i64 (placeN st')] w fun e w' => (∃ y, e = .returned y) ∧ PAt w' g (.slice none 0 0) st' ∧ OnlyRow g w w' := by
 refine (leaveFor_walk g (placeN st') _ _ _ _ _ w h.cells).mono ?_
 rintro e w' ⟨he, hc, ho⟩
 refine ⟨he, ⟨?_, ?_⟩, ho⟩
 ·rw [(bare_cells hb).1]; exact hc
 ·rw [(bare_cells hb).2]; exact HasB.nothing _ _
theorem bare_begin (r : Int) : bare (begin' r) := by
 unfold begin'
 repeat' split
 all_goals simp [bare]
theorem begin_walk (g : Nat) (v : Value) (st : St) (r : Int) (w : World) (h : PAt w g v st) :
  Calls Tryz.prog 56 #[ptrP g, .int .i32 r] w fun e w' => (∃ y, e = .returned y) ∧ PAt w' g (.slice none 0 0) (begin' r) ∧ OnlyRow g w w' := by
 have H := Lib.hid h
 clear h
 have hb := Lib.hid (bare_begin r)
 by_cases h1 : r = 91
 ·subst h1
  go_enter Tryz.func56, Tryz.ntmps56
  go_wp2_with fail
  refine (leave g v st (begin' 91) w H.out hb.out).mono ?_
  rintro e w' ⟨⟨_, rfl⟩, p, o⟩
  have D := Lib.hid (And.intro p o)
  clear p o
  go_wp2
  go_end0
  exact ⟨⟨_, rfl⟩, D.out⟩
 by_cases h2 : r = 93
 ·subst h2
  go_enter Tryz.func56, Tryz.ntmps56
  go_wp2_with fail
  refine (leave g v st (begin' 93) w H.out hb.out).mono ?_
  rintro e w' ⟨⟨_, rfl⟩, p, o⟩
  have D := Lib.hid (And.intro p o)
  clear p o
  go_wp2
  go_end0
  exact ⟨⟨_, rfl⟩, D.out⟩
 by_cases h3 : r = 27
 ·subst h3
  go_enter Tryz.func56, Tryz.ntmps56
  go_wp2_with fail
  refine (leave g v st (begin' 27) w H.out hb.out).mono ?_
  rintro e w' ⟨⟨_, rfl⟩, p, o⟩
  have D := Lib.hid (And.intro p o)
  clear p o
  go_wp2
  go_end0
  exact ⟨⟨_, rfl⟩, D.out⟩
 ·have e : begin' r = .rest := by unfold begin'; rw [if_neg h1, if_neg h2, if_neg h3]
  rw [e]
  have L := Lib.hid (leave g v st .rest w H.out trivial)
  clear e hb
  go_enter Tryz.func56, Tryz.ntmps56
  go_wp2_with fail
  refine L.out.mono ?_
  rintro e w' ⟨⟨_, rfl⟩, p, o⟩
  have D := Lib.hid (And.intro p o)
  clear p o L
  go_wp2
  go_end0
  exact ⟨⟨_, rfl⟩, D.out⟩
theorem event_new (w : World) (k r : Int) (va : Value) (s : ByteArray) : (w.alloc (.cells #[.int .i64 k, .int .i32 r, va, .string s] 43)).heap[w.heap.size]? = some (.cells #[.int .i64 k, .int .i32 r, va, .string s] 43 (0, 0)) := heap_alloc_new w _
theorem PAt.laid {w w' : World} {g : Nat} {v : Value} {st : St} (h : PAt w g v st) (hb : Below w.heap.size w w') : PAt w' g v st :=
 ⟨(hb.block g h.cells.lt).trans h.cells, h.text.below hb (fun k e => HasB.lt h.text k e)⟩
theorem Turned.laidMore {M : Nat → Prop} {w w' w2 : World} (h : Turned M w w') (hb : Below w'.heap.size w' w2) : Turned M w w2 := h.trans (Turned.ofBelow hb (fun _ => False)) (fun _ _ f => f.elim)
theorem tell {g : Nat} {v : Value} {st : St} {w w1 : World} (k r : Int) (va : Value) (args : List Int) (text : List UInt8) (h : PAt w1 g v st) (v0 : Value) (ht : Turned (Own g v0) w w1) (hn : Nums w1 w.heap.size va args) :
  PutPost g v0 st (some ⟨k, r, args, text⟩) w (.returned (.slice (some ⟨w1.heap.size, 0, none⟩) 1 1)) (w1.alloc (.cells #[.int .i64 k, .int .i32 r, va, .string ⟨text.toArray⟩] 43)) := by
 have hb := (Below.refl w1.heap.size w1).alloc (Nat.le_refl _) (.cells #[.int .i64 k, .int .i32 r, va, .string ⟨text.toArray⟩] 43)
 refine ⟨_, v, rfl, ⟨w1.heap.size, va, rfl, ht.size, event_new w1 k r va _, ?_⟩, h.laid hb, Turned.laidMore ht hb⟩
 exact hn.kept (fun j e => hb.block j (hn.lt j e).2)
theorem still {g : Nat} {v : Value} {st : St} {w : World} (h : PAt w g v st) : PutPost g v st none w (.returned (.slice none 0 0)) w := ⟨_, v, rfl, rfl, h, Turned.refl _ _⟩
theorem rest_walk (g : Nat) (v : Value) (r : Int) (w : World) (h : PAt w g v .rest) :
  Calls Tryz.prog 55 #[ptrP g, .int .i32 r] w fun e w' => PutPost g v (stepS .rest r) (stepE .rest r) w e w' := by
 have H := Lib.hid h
 clear h
 by_cases h8 : r = 8 ∨ r = 9 ∨ r = 10 ∨ r = 13
 ·have hs : stepS .rest r = .rest := by simp only [stepS]; rw [if_neg (by omega)]
  have he : stepE .rest r = some ⟨2, r, [], []⟩ := by simp only [stepE]; rw [if_pos h8]
  rw [hs, he]
  have D := Lib.hid (tell 2 r (.slice none 0 0) [] [] H.out v (Turned.refl _ w) (Nums.nothing w _))
  clear hs he
  rcases h8 with rfl | rfl | rfl | rfl
  all_goals
   go_enter Tryz.func55, Tryz.ntmps55
   go_wp2
   go_ret
   exact D.out
 by_cases h27 : r = 27
 ·subst h27
  have L := Lib.hid (leave g v .rest .esc w H.out trivial)
  go_enter Tryz.func55, Tryz.ntmps55
  go_wp2_with fail
  refine L.out.mono ?_
  rintro e w' ⟨⟨_, rfl⟩, p, o⟩
  have D := Lib.hid (show PutPost g v .esc none w (.returned (.slice none 0 0)) w' from ⟨_, _, rfl, rfl, p, (Turned.ofOnly o).mono fun k _ e => .inl e⟩)
  clear p o L
  go_wp2
  go_ret
  exact D.out
 have hs : stepS .rest r = .rest := by simp only [stepS]; rw [if_neg h27]
 rw [hs]
 by_cases hp : r < 32 ∨ r = 127
 ·have he : stepE .rest r = none := by simp only [stepE]; rw [if_neg h8, if_neg (by omega)]
  rw [he]
  have D := Lib.hid (still H.out)
  have n8 : (r == 8) = false := by simp; omega
  have n9 : (r == 9) = false := by simp; omega
  have n10 : (r == 10) = false := by simp; omega
  have n13 : (r == 13) = false := by simp; omega
  have n27 : (r == 27) = false := by simp; omega
  clear hs he h8
  rcases hp with hp | rfl
  ·have n32 : decide (r < 32) = true := by simp; omega
   go_enter Tryz.func55, Tryz.ntmps55
   go_wp2
   go_ret
   exact D.out
  all_goals
   go_enter Tryz.func55, Tryz.ntmps55
   go_wp2
   go_ret
   exact D.out
 ·have he : stepE .rest r = some ⟨1, r, [], []⟩ := by simp only [stepE]; rw [if_neg h8, if_pos (by omega)]
  rw [he]
  have D := Lib.hid (tell 1 r (.slice none 0 0) [] [] H.out v (Turned.refl _ w) (Nums.nothing w _))
  have n8 : (r == 8) = false := by simp; omega
  have n9 : (r == 9) = false := by simp; omega
  have n10 : (r == 10) = false := by simp; omega
  have n13 : (r == 13) = false := by simp; omega
  have n32 : decide (r < 32) = false := by simp; omega
  have n27 : (r == 27) = false := by simp; omega
  have n127 : (r == 127) = false := by simp; omega
  clear hs he h8 hp
  go_enter Tryz.func55, Tryz.ntmps55
  go_wp2
  go_ret
  exact D.out
end Esc
namespace Esc
theorem apartB {w : World} {g base : Nat} {cs : Array Value} {v : Value} {xs : List Int} (h : HasB w base v xs) (hc : PCells w g cs) : v.ownBlock ≠ some g := by
 intro e
 rcases h.2 with ⟨rfl, _⟩ | ⟨b, cap, cur, rfl, _, e3, _⟩
 ·cases e
 ·injection e with e
  subst e
  rw [hc] at e3
  injection e3 with e3
  injection e3 with _ e3
  exact absurd e3 (by decide)
theorem onCell {w : World} {g base : Nat} {cs : Array Value} {v : Value} {xs : List Int} (h : HasB w base v xs) (hc : PCells w g cs) (j : Nat) (u : Value) : HasB (w.setCell ⟨g, j, none⟩ u) base v xs :=
 h.turned (Turned.ofCell g j w u) (by
  rintro k rfl ⟨cs', fr, e⟩
  rw [hc] at e
  injection e with e
  injection e with _ e
  exact absurd e (by decide))
theorem bytesI_range (l : List UInt8) : ∀ x ∈ bytesI l, 0 ≤ x ∧ x ≤ 255 := by
 intro x hx
 obtain ⟨c, _, rfl⟩ := List.mem_map.1 hx
 have := c.toNat_lt
 omega
theorem strL_bytesI (l : List UInt8) : strL (bytesI l) = ⟨l.toArray⟩ := by
 unfold strL bytesI
 congr 2
 rw [List.map_map]
 conv => rhs; rw [← List.map_id l]
 refine List.map_congr_left fun c _ => ?_
 simp
theorem strCells_enc (l : List UInt8) : Lib.strCells ⟨l.toArray⟩ = (bytesI l).map (Value.int .u8) := by
 unfold Lib.strCells bytesI
 rw [List.map_map]
 rfl
theorem bytesI_append (a b : List UInt8) : bytesI (a ++ b) = bytesI a ++ bytesI b := by simp [bytesI]
theorem bytesI_length (a : List UInt8) : (bytesI a).length = a.length := by simp [bytesI]
theorem PCells.laid {w w' : World} {g : Nat} {cs : Array Value} (h : PCells w g cs) (hb : Below w.heap.size w w') : PCells w' g cs := (hb.block g h.lt).trans h
theorem endOsc_walk (g : Nat) (v : Value) (st : St) (t : List Int) (w : World) (hst : st = .osc t ∨ st = .oscEsc t) (h : PAt w g v st) :
  Calls Tryz.prog 59 #[ptrP g] w fun e w' => PutPost g v .rest (oscEv t) w e w' := by
 have hpl : ∃ pl : Int, PCells w g (pcells pl (over t) 0 (fun _ => 0) v) ∧ HasB w g v (bytesI (textOsc t)) := by
  rcases hst with rfl | rfl
  ·exact ⟨3, h.cells, h.text⟩
  ·exact ⟨4, h.cells, h.text⟩
 obtain ⟨pl, hc, hx⟩ := hpl
 obtain ⟨A, c, rfl⟩ := HasB.shape hx
 obtain ⟨n, hn⟩ : ∃ n, (bytesI (textOsc t)).length = n := ⟨_, rfl⟩
 rw [hn] at h hc hx ⊢
 have c0 : w.cell? ⟨g, 0, none⟩ = some (.int .i64 pl) := hc.get 0
 have c1 : w.cell? ⟨g, 1, none⟩ = some (.bool (over t)) := hc.get 1
 have c2 : w.cell? ⟨g, 2, none⟩ = some (.int .i64 0) := hc.get 2
 have c3 : w.cell? ⟨g, 3, none⟩ = some (.int .i64 0) := hc.get 3
 have c4 : w.cell? ⟨g, 4, none⟩ = some (.int .i64 0) := hc.get 4
 have c5 : w.cell? ⟨g, 5, none⟩ = some (.int .i64 0) := hc.get 5
 have c6 : w.cell? ⟨g, 6, none⟩ = some (.int .i64 0) := hc.get 6
 have c7 : w.cell? ⟨g, 7, none⟩ = some (.int .i64 0) := hc.get 7
 have c8 : w.cell? ⟨g, 8, none⟩ = some (.int .i64 0) := hc.get 8
 have c9 : w.cell? ⟨g, 9, none⟩ = some (.int .i64 0) := hc.get 9
 have c10 : w.cell? ⟨g, 10, none⟩ = some (.int .i64 0) := hc.get 10
 have c11 : w.cell? ⟨g, 11, none⟩ = some (.slice A n c) := hc.get 11
 have H := Lib.hid h
 have HX := Lib.hid hx
 have hgl := hc.lt
 clear h hx hc hst
 go_enter Tryz.func59, Tryz.ntmps59
 go_wp2_with fail
 have b5 := (Below.refl w.heap.size w).alloc (Nat.le_refl _) (.cells (pcells pl (over t) 0 (fun _ => 0) (.slice A n c)) 62)
 have N5 := Lib.hid (show PCells (w.alloc (.cells (pcells pl (over t) 0 (fun _ => 0) (.slice A n c)) 62)) w.heap.size (pcells pl (over t) 0 (fun _ => 0) (.slice A n c)) from heap_alloc_new w _)
 have H5 := Lib.hid (H.out.laid b5)
 have HX5 := Lib.hid (HX.out.below b5 (fun k e => HasB.lt HX.out k e))
 have B5 := Lib.hid b5
 obtain ⟨g5, hg5⟩ : ∃ g5, w.heap.size = g5 := ⟨_, rfl⟩
 have HG := Lib.hid hg5
 have hne : g ≠ g5 := by omega
 rw [hg5] at N5 ⊢
 show Calls _ _ _ (w.alloc (.cells (pcells pl (over t) 0 (fun _ => 0) (.slice A n c)) 62)) _
 clear b5 c0 c1 c2 c3 c4 c5 c6 c7 c8 c9 c10 c11 hg5
 generalize w.alloc (.cells (pcells pl (over t) 0 (fun _ => 0) (.slice A n c)) 62) = w5 at N5 H5 HX5 B5 ⊢
 refine (leave g _ _ .rest w5 H5.out trivial).mono ?_
 rintro e w6 ⟨⟨_, rfl⟩, p6, o6⟩
 have t6 : Turned (Own g (.slice A n c)) w w6 := (Turned.ofBelow B5.out (Own g (.slice A n c))).trans (Turned.ofOnly o6) (fun k _ e => .inl e)
 have T6 := Lib.hid t6
 have P6 := Lib.hid p6
 have N6 := Lib.hid (show PCells w6 g5 (pcells pl (over t) 0 (fun _ => 0) (.slice A n c)) from (o6.block g5 (fun e => hne e.symm)).trans N5.out)
 have X6 := Lib.hid (show HasB w6 g (.slice A n c) (bytesI (textOsc t)) from HX5.out.turned (Turned.ofOnly o6) (by
  rintro k rfl ⟨cs', fr, e⟩
  rw [H5.out.cells] at e
  injection e with e
  injection e with _ e
  exact absurd e (by decide)))
 have k1 : w6.cell? ⟨g5, 1, none⟩ = some (.bool (over t)) := N6.out.get 1
 have k11 : w6.cell? ⟨g5, 11, none⟩ = some (.slice A n c) := N6.out.get 11
 have cv : (convert 60 9 (.slice A n c)).run Tryz.prog w6 = .ok (.string ⟨(textOsc t).toArray⟩) w6 := by
  have h := X6.out
  have hs := HasB.sq h
  have := conv_sq (c := c) hs (bytesI_range _)
  rw [strL_bytesI] at this
  exact this
 clear p6 o6 t6
 cases hov : over t with
 | true =>
  rw [hov] at k1
  have he : oscEv t = none := by unfold oscEv; simp only [over, decide_eq_true_eq] at hov; rw [if_neg (by omega)]
  have D := Lib.hid (show PutPost g (.slice A n c) .rest (oscEv t) w (.returned (.slice none 0 0)) w6 from ⟨_, _, rfl, by rw [he]; rfl, P6.out, T6.out⟩)
  clear hov he cv
  go_wp2
  go_ret
  exact D.out
 | false =>
  rw [hov] at k1
  have hle : (encL t).length ≤ 4000 := by simp only [over, decide_eq_false_iff_not] at hov; omega
  have he : oscEv t = some ⟨4, 0, [], encL t⟩ := by unfold oscEv; rw [if_pos hle]
  have hx : textOsc t = encL t := by unfold textOsc; rw [if_neg (by omega)]
  rw [hx] at cv
  have D := tell 4 0 (.slice none 0 0) [] (encL t) P6.out (.slice A n c) T6.out (Nums.nothing w6 _)
  rw [← he] at D
  have D := Lib.hid D
  clear hov he hx hle
  go_wp2
  go_ret
  exact D.out
theorem keep_walk (g : Nat) (v : Value) (t : List Int) (r : Int) (w : World) (h : PAt w g v (.osc t)) (_ : -2147483648 ≤ r) (_ : r ≤ 2147483647) :
  Calls Tryz.prog 87 #[ptrP g, .int .i32 r] w fun e w' => (∃ y, e = .returned y) ∧ ∃ v', PAt w' g v' (.osc (t ++ [r])) ∧ Turned (Own g v) w w' := by
 have c1 : w.cell? ⟨g, 1, none⟩ = some (.bool (over t)) := h.cells.get 1
 have c11 : w.cell? ⟨g, 11, none⟩ = some v := h.cells.get 11
 have H := Lib.hid h
 have hgl := h.cells.lt
 clear h
 cases hov : over t with
 | true =>
  rw [hov] at c1
  have D := Lib.hid (show PAt w g v (.osc (t ++ [r])) from ⟨by have h := H.out.cells; simp only [placeN, muteB, manyN, argN, hov] at h ⊢; rw [over_snoc hov]; exact h, by have h := H.out.text; have e := over_snoc hov r; simp only [over, decide_eq_true_eq] at e hov; simp only [textN, textOsc, if_pos hov] at h; simp only [textN, textOsc, if_pos e]; exact h⟩)
  clear H hov
  go_enter Tryz.func87, Tryz.ntmps87
  go_wp2
  refine bodyPost_ret (results_none rfl _ _ _) rfl ?_
  exact ⟨⟨_, rfl⟩, v, D.out, Turned.refl _ _⟩
 | false =>
  rw [hov] at c1
  have hle : (encL t).length ≤ 4000 := by simp only [over, decide_eq_false_iff_not] at hov; omega
  have hx : HasB w g v (bytesI (encL t)) := by have h := H.out.text; simp only [textN, textOsc] at h; rw [if_neg (by omega)] at h; exact h
  obtain ⟨A, c, rfl⟩ := HasB.shape hx
  have hl : (bytesI (encL t)).length = (encL t).length := bytesI_length _
  obtain ⟨n, hn⟩ : ∃ n, (encL t).length = n := ⟨_, rfl⟩
  have HX := Lib.hid hx
  have HN := Lib.hid hn
  rw [hl, hn] at c11 hx ⊢
  rw [hn] at hle
  obtain ⟨iB, hiB, bz0, bz1, bz2⟩ := info_parts infoByte
  have he4 := encode_len r
  have H0 := Lib.hid (show PAt w g (.slice A n c) (.osc t) by have h := H.out; rw [hl, hn] at h; exact h)
  have AO := Lib.hid (show w.ownsRow g 5 1 (.slice A n c) n ((bytesI (encL t)).map (Value.int .u8)) by have h := HX.out; unfold HasB at h; rw [hl, hn] at h; exact h)
  have ES := Lib.hid (show (Utf8.encode r).size = (Lib.encodeRune r).length by rw [encode_model]; rfl)
  clear hl hn
  go_enter Tryz.func87, Tryz.ntmps87
  go_wp2_with (
   at_builtin
   refine Lib.wpList_append_own_string _ rfl (.tmp 12) (.tmp 14) 60 9 rfl g 5 iB Tryz.underlying60 Tryz.underlying9 hiB bz0 bz1 bz2 (.slice A n c) n ((bytesI (encL t)).map (Value.int .u8)) rfl AO.out (Utf8.encode r) rfl (by rw [ES.out]; unfold maxLen; omega) (by rw [ES.out]; omega) (Nat.le_of_lt hgl) ?_
   intro v2 w2 h2 g2 _
   have hne := Lib.hid (apartB H0.out.text H0.out.cells)
   have P2 := Lib.hid (show PCells w2 g (pcells 3 false 0 (fun _ => 0) (.slice A n c)) by have h := (g2.block g hgl (fun e => hne.out e.symm)).trans H0.out.cells; simp only [placeN, muteB, manyN, argN, hov] at h; exact h)
   obtain ⟨m, hm⟩ : ∃ m, n + (Utf8.encode r).size = m := ⟨_, rfl⟩
   have HB2 := Lib.hid (show HasB w2 g v2 (bytesI (encL (t ++ [r]))) by
    unfold HasB
    rw [encL_snoc, bytesI_append, List.map_append, List.length_append, bytesI_length, bytesI_length, HN.out, ← ES.out, ← strCells_enc (Lib.encodeRune r), ← encode_model]
    exact h2)
   have HM := Lib.hid (show (encL (t ++ [r])).length = m by rw [encL_snoc, List.length_append, HN.out, ← ES.out]; exact hm)
   have TT := Lib.hid (show Turned (Own g (.slice A n c)) w w2 from (Turned.ofGrown g2).mono (fun k _ e => .inr e))
   have hm1 : m ≤ 5000 := by have h := ES.out; omega
   rw [hm] at h2
   obtain ⟨A2, c2, rfl⟩ := HasB.shape HB2.out
   have hl2 : (bytesI (encL (t ++ [r]))).length = m := by rw [bytesI_length]; exact HM.out
   rw [hl2] at HB2 ⊢
   have f11 := P2.out.free 11
   have f1 := P2.out.free 1
   have k11 : w2.cell? ⟨g, 11, none⟩ = some (.slice A n c) := P2.out.get 11
   have k1 : w2.cell? ⟨g, 1, none⟩ = some (.bool false) := P2.out.get 1
   clear h2 g2 hl2 hm)
  ·have h4 : 4000 < m := by omega
   have P3 : PCells (w2.setCell ⟨g, 11, none⟩ (.slice A2 m c2)) g (pcells 3 false 0 (fun _ => 0) (.slice A2 m c2)) := P2.out.put 11 _
   have P4 : PCells ((w2.setCell ⟨g, 11, none⟩ (.slice A2 m c2)).setCell ⟨g, 11, none⟩ (.slice none 0 0)) g (pcells 3 false 0 (fun _ => 0) (.slice none 0 0)) := P3.put 11 _
   have P5 : PCells (((w2.setCell ⟨g, 11, none⟩ (.slice A2 m c2)).setCell ⟨g, 11, none⟩ (.slice none 0 0)).setCell ⟨g, 1, none⟩ (.bool true)) g (pcells 3 true 0 (fun _ => 0) (.slice none 0 0)) := P4.put 1 _
   have ho : over (t ++ [r]) = true := by unfold over; rw [HM.out]; simpa using h4
   go_end0
   refine ⟨⟨_, rfl⟩, .slice none 0 0, ⟨by simp only [placeN, muteB, manyN, argN]; rw [ho]; exact P5, by simp only [textN, textOsc]; rw [HM.out, if_pos h4]; exact HasB.nothing _ _⟩, ?_⟩
   exact ((TT.out.trans (Turned.ofCell g 11 _ _) (fun k _ e => .inl e)).trans (Turned.ofCell g 11 _ _) (fun k _ e => .inl e)).trans (Turned.ofCell g 1 _ _) (fun k _ e => .inl e)
  ·have h4 : ¬ 4000 < m := by omega
   have P3 : PCells (w2.setCell ⟨g, 11, none⟩ (.slice A2 m c2)) g (pcells 3 false 0 (fun _ => 0) (.slice A2 m c2)) := P2.out.put 11 _
   have ho : over (t ++ [r]) = false := by unfold over; rw [HM.out]; simpa using h4
   go_end0
   refine ⟨⟨_, rfl⟩, .slice A2 m c2, ⟨by simp only [placeN, muteB, manyN, argN]; rw [ho]; exact P3, by simp only [textN, textOsc]; rw [HM.out, if_neg h4]; exact onCell HB2.out P2.out 11 _⟩, ?_⟩
   exact TT.out.trans (Turned.ofCell g 11 _ _) (fun k _ e => .inl e)
end Esc
namespace Esc
theorem eight {i : Nat} (h : i < 8) : i = 0 ∨ i = 1 ∨ i = 2 ∨ i = 3 ∨ i = 4 ∨ i = 5 ∨ i = 6 ∨ i = 7 := by omega
theorem pcells_arg (pl : Int) (m : Bool) (mn : Int) (a : Nat → Int) (v : Value) {i : Nat} (h : i < 8) : (pcells pl m mn a v)[3 + i]? = some (.int .i64 (a i)) := by
 rcases eight h with rfl | rfl | rfl | rfl | rfl | rfl | rfl | rfl <;> rfl
theorem pcells_set (pl : Int) (m : Bool) (mn : Int) (a : Nat → Int) (v : Value) {i : Nat} (h : i < 8) (x : Int) : (pcells pl m mn a v).setIfInBounds (3 + i) (.int .i64 x) = pcells pl m mn (fun j => if j = i then x else a j) v := by
 rcases eight h with rfl | rfl | rfl | rfl | rfl | rfl | rfl | rfl <;> rfl
theorem pcells_args8 {pl mn : Int} {m : Bool} {a b : Nat → Int} {v : Value} (h : ∀ i, i < 8 → a i = b i) : pcells pl m mn a v = pcells pl m mn b v := by
 unfold pcells
 rw [h 0 (by omega), h 1 (by omega), h 2 (by omega), h 3 (by omega), h 4 (by omega), h 5 (by omega), h 6 (by omega), h 7 (by omega)]
theorem HasB.nil {w w' : World} {base : Nat} {v : Value} (h : HasB w base v []) (hb : ∀ k, v.ownBlock = some k → w'.heap[k]? = w.heap[k]?) : HasB w' base v [] := by
 refine ⟨h.1, ?_⟩
 rcases h.2 with e | ⟨b, cap, cur, rfl, e2, e3, rr⟩
 ·exact .inl e
 ·exact .inr ⟨b, cap, cur, rfl, e2, (hb b rfl).trans e3, rr⟩
theorem csiAt {w w' : World} {g : Nat} {v : Value} {t t' : List Int} (h : PAt w g v (.csi t)) (ho : OnlyRow g w w') (hc : PCells w' g (pcells 2 (bad t') (manyOf t' : Nat) (argOf t') v)) : PAt w' g v (.csi t') := by
 refine ⟨hc, HasB.nil h.text fun k e => ho.block k fun e2 => ?_⟩
 subst e2
 exact apartB h.text h.cells e
theorem number_walk (g : Nat) (v : Value) (t : List Int) (r : Int) (w : World) (h : PAt w g v (.csi t)) (hr : okSign r = true) (ht : t.length ≤ 1000000) :
  Calls Tryz.prog 86 #[ptrP g, .int .i32 r] w fun e w' => (∃ y, e = .returned y) ∧ PAt w' g v (.csi (t ++ [r])) ∧ OnlyRow g w w' := by
 have hml := manyOf_le t
 obtain ⟨mn, hmn⟩ : ∃ mn, manyOf t = mn := ⟨_, rfl⟩
 obtain ⟨mu, hmu⟩ : ∃ mu, manyUp t = mu := ⟨_, rfl⟩
 have hup : mu = if mn = 0 then 1 else mn := by rw [← hmu, ← hmn]; rfl
 have P0 : PCells w g (pcells 2 (bad t) (mn : Nat) (argOf t) v) := by have h := h.cells; simp only [placeN, muteB, manyN, argN, hmn] at h; exact h
 have c2 : w.cell? ⟨g, 2, none⟩ = some (.int .i64 (mn : Int)) := P0.get 2
 have f2 := P0.free 2
 have H := Lib.hid h
 have HP := Lib.hid P0
 have W1 : ∃ w1, PCells w1 g (pcells 2 (bad t) (mu : Nat) (argOf t) v) ∧ OnlyRow g w w1 ∧ w1 = if mn = 0 then w.setCell ⟨g, 2, none⟩ (.int .i64 1) else w := by
  by_cases h0 : mn = 0
  ·rw [if_pos h0] at hup ⊢
   refine ⟨_, ?_, OnlyRow.cell g 2 w _, rfl⟩
   rw [hup]
   exact P0.put 2 _
  ·rw [if_neg h0] at hup ⊢
   exact ⟨w, by rw [hup]; exact P0, OnlyRow.refl _ _, rfl⟩
 obtain ⟨w1, P1, o1, e1⟩ := W1
 have HP1 := Lib.hid P1
 have HO1 := Lib.hid o1
 have d2 : w1.cell? ⟨g, 2, none⟩ = some (.int .i64 (mu : Int)) := P1.get 2
 have df2 := P1.free 2
 have hbad : bad (t ++ [r]) = bad t := by rw [bad_snoc, hr]; simp
 have hmany : manyOf (t ++ [r]) = mu + (if r = 59 then 1 else 0) := by rw [manyOf_ok t r hr, hmu]
 have hlen : mu = (nums t).length := by rw [← hmu, manyUp_len]
 have hmu1 : 1 ≤ mu := by rw [hlen]; exact (nums_len t).1
 have hmu2 : mu ≤ 1000001 := by rw [hlen]; have := (nums_len t).2; omega
 clear h P0 P1 o1
 by_cases h59 : r = 59
 ·subst h59
  rw [if_pos rfl] at hmany
  have Q := Lib.hid (show ∀ w2, w2 = w1.setCell ⟨g, 2, none⟩ (.int .i64 ((mu : Int) + 1)) → PAt w2 g v (.csi (t ++ [59])) ∧ OnlyRow g w w2 by
   rintro w2 rfl
   have o : OnlyRow g w (w1.setCell ⟨g, 2, none⟩ (.int .i64 ((mu : Int) + 1))) := HO1.out.trans (OnlyRow.cell g 2 _ _)
   refine ⟨csiAt H.out o ?_, o⟩
   rw [hbad, hmany, pcells_args (argOf_semi t)]
   exact HP1.out.put 2 _)
  clear hbad hmany hlen hmu hmn hml ht hup
  by_cases h0 : mn = 0
  ·rw [if_pos h0] at e1
   subst e1
   subst h0
   go_enter Tryz.func86, Tryz.ntmps86
   go_wp2
   refine bodyPost_ret (results_none rfl _ _ _) rfl ?_
   exact ⟨⟨_, rfl⟩, Q.out _ (by congr 2)⟩
  ·rw [if_neg h0] at e1
   subst e1
   have hnb : ((mn : Int) == 0) = false := by simp; omega
   go_enter Tryz.func86, Tryz.ntmps86
   go_wp2
   refine bodyPost_ret (results_none rfl _ _ _) rfl ?_
   exact ⟨⟨_, rfl⟩, Q.out _ (by congr 2)⟩
 ·have hdig : 48 ≤ r ∧ r ≤ 57 := by
   simp only [okSign, Bool.or_eq_true, Bool.and_eq_true, beq_iff_eq, decide_eq_true_eq] at hr
   omega
  obtain ⟨r0, r9⟩ := hdig
  rw [if_neg h59] at hmany
  obtain ⟨i, hi⟩ : ∃ i, mu = i + 1 := ⟨mu - 1, by omega⟩
  have hai := fun j => argOf_digit t r r0 r9 j
  rw [← hlen, hi, Nat.add_sub_cancel] at hai
  have hb59 : (r == 59) = false := by simp; omega
  have hsub : (mu : Int) - 1 = (i : Int) := by omega
  by_cases h8 : i < 8
  ·obtain ⟨x, hx⟩ : ∃ x, argOf t i = x := ⟨_, rfl⟩
   have hxr := argOf_range t i
   rw [hx] at hxr
   obtain ⟨hx0, hx9⟩ := hxr
   have OD := Lib.hid (show OnlyRow g w w1.drew from ⟨HO1.out.os, HO1.out.tape, HO1.out.output, HO1.out.size, HO1.out.block⟩)
   have PD := Lib.hid (show PCells w1.drew g (pcells 2 (bad t) (mu : Nat) (argOf t) v) from HP1.out)
   have di : w1.drew.cell? ⟨g, 3 + i, none⟩ = some (.int .i64 x) := by rw [← hx]; exact (PD.out.get (3 + i)).trans (pcells_arg _ _ _ _ _ h8)
   have dfi := PD.out.free (3 + i)
   have Q := Lib.hid (show ∀ w2, w2 = w1.drew.setCell ⟨g, 3 + i, none⟩ (.int .i64 (min (10 * x + (r - 48)) 9999)) → PAt w2 g v (.csi (t ++ [r])) ∧ OnlyRow g w w2 by
    rintro w2 rfl
    have o : OnlyRow g w (w1.drew.setCell ⟨g, 3 + i, none⟩ (.int .i64 (min (10 * x + (r - 48)) 9999))) := OD.out.trans (OnlyRow.cell g (3 + i) _ _)
    refine ⟨csiAt H.out o ?_, o⟩
    have e : pcells 2 (bad (t ++ [r])) (manyOf (t ++ [r]) : Nat) (argOf (t ++ [r])) v = (pcells 2 (bad t) (mu : Nat) (argOf t) v).setIfInBounds (3 + i) (.int .i64 (min (10 * x + (r - 48)) 9999)) := by
     rw [pcells_set _ _ _ _ _ h8, hbad, hmany, Nat.add_zero]
     refine pcells_args fun j => ?_
     rw [hai]
     by_cases hj : j = i
     ·rw [if_pos hj, if_pos hj, hj, hx]
      congr 1
      omega
     ·rw [if_neg hj, if_neg hj]
    rw [e]
    exact PD.out.put (3 + i) _)
   have hi8 : (i : Int) < 8 := by omega
   have hi0 : (0 : Int) ≤ (i : Int) := by omega
   clear hbad hmany hlen hmu hmn hml ht hup hai hx HO1 OD PD HP1
   by_cases h0 : mn = 0
   ·rw [if_pos h0] at e1
    subst e1
    subst h0
    go_enter Tryz.func86, Tryz.ntmps86
    go_wp2_with fail
    refine wp_region_still_tail 16 (by kernel_rfl) (by kernel_rfl) ?_
    rw [show ({ (w.setCell ⟨g, 2, none⟩ (.int .i64 1)) with drawn := (w.setCell ⟨g, 2, none⟩ (.int .i64 1)).drawn + 1 } : World) = (w.setCell ⟨g, 2, none⟩ (.int .i64 1)).drew from rfl]
    generalize (w.setCell ⟨g, 2, none⟩ (.int .i64 1)).drew = wd at di dfi Q ⊢
    simp only [List.take_succ_cons, List.take_zero, List.drop_succ_cons, List.drop_zero]
    repeat still_step
    refine wpStill_nil ?_
    go_wp2_with fail
    go_end0
    exact ⟨⟨_, rfl⟩, Q.out _ rfl⟩
   ·rw [if_neg h0] at e1
    subst e1
    have hnb : ((mn : Int) == 0) = false := by simp; omega
    go_enter Tryz.func86, Tryz.ntmps86
    go_wp2_with fail
    refine wp_region_still_tail 16 (by kernel_rfl) (by kernel_rfl) ?_
    rw [show ({ w1 with drawn := w1.drawn + 1 } : World) = w1.drew from rfl]
    generalize w1.drew = wd at di dfi Q ⊢
    simp only [List.take_succ_cons, List.take_zero, List.drop_succ_cons, List.drop_zero]
    repeat still_step
    refine wpStill_nil ?_
    go_wp2_with fail
    go_end0
    exact ⟨⟨_, rfl⟩, Q.out _ rfl⟩
  ·have Q := Lib.hid (show PAt w1 g v (.csi (t ++ [r])) ∧ OnlyRow g w w1 by
    refine ⟨csiAt H.out HO1.out ?_, HO1.out⟩
    have e : pcells 2 (bad (t ++ [r])) (manyOf (t ++ [r]) : Nat) (argOf (t ++ [r])) v = pcells 2 (bad t) (mu : Nat) (argOf t) v := by
     rw [hbad, hmany, Nat.add_zero]
     refine pcells_args8 fun j hj => ?_
     rw [hai, if_neg (by omega)]
    rw [e]
    exact HP1.out)
   have hi8 : ¬ (i : Int) < 8 := by omega
   clear hbad hmany hlen hmu hmn hml ht hup hai HO1 HP1
   by_cases h0 : mn = 0
   ·rw [if_pos h0] at e1
    subst e1
    subst h0
    go_enter Tryz.func86, Tryz.ntmps86
    go_wp2_with fail
    go_end0
    exact ⟨⟨_, rfl⟩, Q.out⟩
   ·rw [if_neg h0] at e1
    subst e1
    have hnb : ((mn : Int) == 0) = false := by simp; omega
    go_enter Tryz.func86, Tryz.ntmps86
    go_wp2_with fail
    go_end0
    exact ⟨⟨_, rfl⟩, Q.out⟩
theorem sq_cells {w : World} {b off n : Nat} {l : List Int} (hl : l.length = n) (hb : b < w.heap.size) (h : ∀ i x, l[i]? = some x → w.cell? ⟨b, off + i, none⟩ = some (.int .i64 x)) : Sq w w.heap.size 1 n (some ⟨b, off, none⟩) (l.map (Value.int .i64)) := by
 refine ⟨by rw [List.length_map]; omega, fun _ => ⟨b, off, rfl, hb, fun j u hu => ?_⟩⟩
 rw [List.getElem?_map] at hu
 cases hx : l[j]? with
 | none => rw [hx] at hu; cases hu
 | some x =>
  rw [hx] at hu
  injection hu with hu
  subst hu
  exact h j x hx
theorem add_nought (p : Addr) : p.add 0 = p := by unfold Addr.add; split <;> simp_all
theorem slice8 (w : World) (b m : Nat) (h : m ≤ 8) : (Instr.sliceAt 59 (.pointer (some ⟨b, 3, none⟩)) none (some (.int .i64 (m : Int))) none).run Tryz.prog w = .ok (.slice (some ⟨b, 3, none⟩) m 8) w := by
 have hL : Tryz.prog.arrayLen 59 = 8 := by kernel_rfl
 have hz : (sizeOf (Tryz.prog.elem 59)).run Tryz.prog w = .ok 1 w := by kernel_rfl
 rw [run_sliceAt_array_h _ _ _ Tryz.underlying59 _ _ (by omega) (by rw [hL]; omega), hz]
 simp [Result.andThen, slicedAt, hL, add_nought]
theorem nums_shape {W : World} {base : Nat} {v : Value} {l : List Int} (h : Nums W base v l) : ∃ A c, v = .slice A l.length c := by
 rcases h.2 with ⟨rfl, h0⟩ | ⟨g, cap, cur, rfl, _⟩
 ·rw [h0]; exact ⟨_, _, rfl⟩
 ·exact ⟨_, _, rfl⟩
theorem Nums.base {W : World} {base base' : Nat} {v : Value} {l : List Int} (h : Nums W base v l) (hb : base' ≤ base) : Nums W base' v l := by
 refine ⟨h.1, ?_⟩
 rcases h.2 with e | ⟨g, cap, cur, rfl, e2, r⟩
 ·exact .inl e
 ·exact .inr ⟨g, cap, cur, rfl, Nat.le_trans hb e2, r⟩
theorem infoInt : (Tryz.prog.info? 3).map (fun i => (i.zero, i.size, i.bytes)) = some (some (.int .i64 0), 1, 8) := by kernel_rfl
theorem endCsi_walk (g : Nat) (v : Value) (t : List Int) (r : Int) (w : World) (h : PAt w g v (.csi t)) (ht : t.length ≤ 1000000) :
  Calls Tryz.prog 85 #[ptrP g, .int .i32 r] w fun e w' => PutPost g v .rest (csiEv t r) w e w' := by
 obtain ⟨iI, hiI, iz0, iz1, iz2⟩ := info_parts infoInt
 have hml := manyOf_le t
 obtain ⟨A, c, rfl⟩ := HasB.shape h.text
 obtain ⟨n, hn⟩ : ∃ n, (textN (.csi t)).length = n := ⟨_, rfl⟩
 rw [hn] at h ⊢
 obtain ⟨mn, hmn⟩ : ∃ mn, manyOf t = mn := ⟨_, rfl⟩
 have P0 : PCells w g (pcells 2 (bad t) (mn : Nat) (argOf t) (.slice A n c)) := by have h := h.cells; simp only [placeN, muteB, manyN, argN, hmn] at h; exact h
 have c0 : w.cell? ⟨g, 0, none⟩ = some (.int .i64 2) := P0.get 0
 have c1 : w.cell? ⟨g, 1, none⟩ = some (.bool (bad t)) := P0.get 1
 have c2 : w.cell? ⟨g, 2, none⟩ = some (.int .i64 mn) := P0.get 2
 have c3 : w.cell? ⟨g, 3, none⟩ = some (.int .i64 (argOf t 0)) := P0.get 3
 have c4 : w.cell? ⟨g, 4, none⟩ = some (.int .i64 (argOf t 1)) := P0.get 4
 have c5 : w.cell? ⟨g, 5, none⟩ = some (.int .i64 (argOf t 2)) := P0.get 5
 have c6 : w.cell? ⟨g, 6, none⟩ = some (.int .i64 (argOf t 3)) := P0.get 6
 have c7 : w.cell? ⟨g, 7, none⟩ = some (.int .i64 (argOf t 4)) := P0.get 7
 have c8 : w.cell? ⟨g, 8, none⟩ = some (.int .i64 (argOf t 5)) := P0.get 8
 have c9 : w.cell? ⟨g, 9, none⟩ = some (.int .i64 (argOf t 6)) := P0.get 9
 have c10 : w.cell? ⟨g, 10, none⟩ = some (.int .i64 (argOf t 7)) := P0.get 10
 have c11 : w.cell? ⟨g, 11, none⟩ = some (.slice A n c) := P0.get 11
 have H := Lib.hid h
 have hgl := P0.lt
 have HML := Lib.hid (show mn ≤ 1000001 by omega)
 have HMN := Lib.hid hmn
 clear h P0 hn hmn hml
 go_enter Tryz.func85, Tryz.ntmps85
 go_wp2_with fail
 have b5 := (Below.refl w.heap.size w).alloc (Nat.le_refl _) (.cells (pcells 2 (bad t) (mn : Nat) (argOf t) (.slice A n c)) 62)
 have N5 := Lib.hid (show PCells (w.alloc (.cells (pcells 2 (bad t) (mn : Nat) (argOf t) (.slice A n c)) 62)) w.heap.size (pcells 2 (bad t) (mn : Nat) (argOf t) (.slice A n c)) from heap_alloc_new w _)
 have H5 := Lib.hid (H.out.laid b5)
 have B5 := Lib.hid b5
 obtain ⟨g5, hg5⟩ : ∃ g5, w.heap.size = g5 := ⟨_, rfl⟩
 have HG := Lib.hid hg5
 have hne : g ≠ g5 := by omega
 rw [hg5] at N5 ⊢
 show Calls _ _ _ (w.alloc (.cells (pcells 2 (bad t) (mn : Nat) (argOf t) (.slice A n c)) 62)) _
 clear b5 c0 c1 c2 c3 c4 c5 c6 c7 c8 c9 c10 c11 hg5
 generalize w.alloc (.cells (pcells 2 (bad t) (mn : Nat) (argOf t) (.slice A n c)) 62) = w5 at N5 H5 B5 ⊢
 refine (leave g _ _ .rest w5 H5.out trivial).mono ?_
 rintro e w6 ⟨⟨_, rfl⟩, p6, o6⟩
 have t6 : Turned (Own g (.slice A n c)) w w6 := (Turned.ofBelow B5.out (Own g (.slice A n c))).trans (Turned.ofOnly o6) (fun k _ e => .inl e)
 have T6 := Lib.hid t6
 have P6 := Lib.hid p6
 have N6 := Lib.hid (show PCells w6 g5 (pcells 2 (bad t) (mn : Nat) (argOf t) (.slice A n c)) from (o6.block g5 (fun e => hne e.symm)).trans N5.out)
 have k1 : w6.cell? ⟨g5, 1, none⟩ = some (.bool (bad t)) := N6.out.get 1
 have k2 : w6.cell? ⟨g5, 2, none⟩ = some (.int .i64 mn) := N6.out.get 2
 clear p6 o6 t6
 cases hbd : bad t with
 | true =>
  rw [hbd] at k1
  have he : csiEv t r = none := by unfold csiEv; rw [hbd]; rfl
  have D := Lib.hid (show PutPost g (.slice A n c) .rest (csiEv t r) w (.returned (.slice none 0 0)) w6 from ⟨_, _, rfl, by rw [he]; rfl, P6.out, T6.out⟩)
  clear hbd he
  go_wp2
  go_ret
  exact D.out
 | false =>
  rw [hbd] at k1
  have he : csiEv t r = some ⟨3, r, csiArgs t, []⟩ := by unfold csiEv; rw [hbd]; rfl
  obtain ⟨m, hm⟩ : ∃ m, min mn 8 = m := ⟨_, rfl⟩
  have hlen : (csiArgs t).length = m := by rw [csiArgs_good hbd, HMN.out]; exact hm
  have SQ := Lib.hid (sq_cells (w := w6) (b := g5) (off := 3) hlen N6.out.lt (fun i x hx => by
   have hi : i < 8 := by have := (List.getElem?_eq_some_iff.1 hx).1; omega
   rw [csiArgs_get hx]
   exact (N6.out.get (3 + i)).trans (pcells_arg _ _ _ _ _ hi)))
  have hm8 : m ≤ 8 := by omega
  have hmI : min (mn : Int) 8 = (m : Int) := by omega
  have LEN := Lib.hid hlen
  have HE := Lib.hid he
  have SL := slice8 w6 g5 m hm8
  clear hbd he hm hlen
  go_wp2_with (
   at_builtin
   refine wpl_app rfl (.const (.slice none 0 0)) (.tmp 20) 41 rfl w6.heap.size 3 iI (.int .i64 0) 1 8 Tryz.underlying41 hiI iz0 iz1 iz2 rfl (by omega) (.slice none 0 0) 0 [] rfl (World.ownsRow_nil w6 _ _ _) (some ⟨g5, 3, none⟩) m 8 ((csiArgs t).map (Value.int .i64)) rfl w6.heap.size SQ.out (by intro u hu; obtain ⟨x, _, rfl⟩ := List.mem_map.1 hu; rfl) (by unfold maxLen; omega) (by omega) (Nat.le_refl _) ?_
   intro v7 w7 h7 g7 _
   rw [Nat.zero_add, List.nil_append] at h7
   have b7 : Below w6.heap.size w6 w7 := ⟨g7.os, g7.tape, g7.output, g7.size, fun k hk => g7.block k hk (by intro e; cases e)⟩
   have N7 := Lib.hid (show Nums w7 w6.heap.size v7 (csiArgs t) by unfold Nums; rw [LEN.out]; exact h7)
   have P7 := Lib.hid (P6.out.laid b7)
   have T7 := Lib.hid (Turned.laidMore T6.out b7)
   obtain ⟨A7, c7, rfl⟩ := nums_shape N7.out
   rw [LEN.out] at N7 ⊢
   clear h7 g7 b7)
  have D := tell 3 r (.slice A7 m c7) (csiArgs t) [] P7.out (.slice A n c) T7.out (N7.out.base (by have h := T6.out.size; omega))
  rw [← HE.out] at D
  have D := Lib.hid D
  go_wp2
  go_ret
  exact D.out
end Esc
