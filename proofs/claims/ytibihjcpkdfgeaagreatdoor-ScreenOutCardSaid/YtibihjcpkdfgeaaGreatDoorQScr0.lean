/-
  screen.clamp, screen.modulo, screen.number, screen.count.
  Layer 9 in plain words: a screen, and what an event does to it.
  A screen in memory: its own cells, its rows' heads in one block, each row's cells in a block of its own.
  screen: leaveEnd, moveTo, erase, set.
  screen.moveTo, step by step.
  slices.Delete: the first row of a block of rows goes.
  screen: moveTo, set, down.
  screen: down, wrap.
  screen: wrap, print.
  screen: print.
  screen: Do by its kinds; the CSI H; Cursor, Attr, Size.
  screen: Of, New.
  screen: Rows.
-/
import Derived.Test.YtibihjcpkdfgeaaGreatDoorQBase0
import Derived.Deep.RegionWith
import Derived.RegionCalls
import Derived.Outline
import Derived.RegionTactic
import Derived.ChangeAlike
import Derived.Test.YtibihjcpkdfgeaaGreatDoorQRow0
import Derived.Test.YtibihjcpkdfgeaaGreatDoorQBase1
import Derived.Deep.RegionLaw
import Derived.Deep.AppendSrc
import Derived.Laws.CopyOwn
import Derived.Lib.SliceRun
import Derived.Test.YtibihjcpkdfgeaaGreatDoorQBase2
namespace Go.Proofs.YtibihjcpkdfgeaaGreatDoor
open Go.ChangeShapes Go.WideShapes Go.ChangeAt Go.RowKit
namespace Sc

theorem clamp_walk (n least most : Int) (w : World) : Calls Tryz.prog 92 #[.int .i64 n, .int .i64 least, .int .i64 most] w fun e w' => e = .returned (.int .i64 (min (max n least) most)) ∧ w = w' := by
  go_enter Tryz.func92, Tryz.ntmps92
  go_wp2
  all_goals go_ret
  all_goals exact ⟨ret_int (by omega), rfl⟩
theorem tmod256 (n : Int) : (n.tmod 256 + 256).tmod 256 = n % 256 := by
  have h1 := Int.tmod_lt_of_pos n (show (0 : Int) < 256 by omega)
  have h2 := Int.tmod_lt_of_pos (-n) (show (0 : Int) < 256 by omega)
  rw [Int.neg_tmod] at h2
  rw [Int.tmod_eq_emod_of_nonneg (by omega)]
  have h3 := Int.tmod_add_mul_tdiv n 256
  omega
theorem tmod256_range (n : Int) : -256 < n.tmod 256 ∧ n.tmod 256 < 256 := by
  have h1 := Int.tmod_lt_of_pos n (show (0 : Int) < 256 by omega)
  have h2 := Int.tmod_lt_of_pos (-n) (show (0 : Int) < 256 by omega)
  rw [Int.neg_tmod] at h2
  omega
theorem modulo_walk (n : Int) (w : World) : Calls Tryz.prog 93 #[.int .i64 n] w fun e w' => e = .returned (.int .i64 (n % 256)) ∧ w = w' := by
  have h := tmod256_range n
  have h1 : IntKind.i64.wrap (n.tmod 256 + 256) = n.tmod 256 + 256 := IntWalk.i64_in _ (by omega)
  have h2 := tmod256 n
  clear h
  go_enter Tryz.func93, Tryz.ntmps93
  go_wp2
  go_ret
  exact ⟨rfl, rfl⟩

def cntL (l : List Int) (i : Nat) : Int := if nth l i = 0 then 1 else min (max (nth l i) (-300)) 300
theorem number_walk (A : Option Addr) (n c : Nat) (l : List Int) (i : Nat) (w : World) {B : Nat} (hq : Sq w B 1 n A (l.map (Value.int .i64))) : Calls Tryz.prog 118 #[.slice A n c, .int .i64 (i : Int)] w fun e w' => e = .returned (.int .i64 (nth l i)) ∧ w = w' := by
  have hl := hq.size_ints
  by_cases hi : i < n
  · obtain ⟨b, off, rfl, _, hc⟩ := hq.int_at hi
    have hd : ¬ ((n : Int) ≤ (i : Int)) := by omega
    clear hq
    go_enter Tryz.func118, Tryz.ntmps118
    go_wp2
    go_ret
    exact ⟨rfl, rfl⟩
  · have hd : (n : Int) ≤ (i : Int) := by omega
    have h0 : nth l i = 0 := by unfold nth; rw [List.getD_eq_getElem?_getD, List.getElem?_eq_none (by omega)]; rfl
    clear hq
    go_enter Tryz.func118, Tryz.ntmps118
    go_wp2
    go_ret
    exact ⟨by rw [h0]; rfl, rfl⟩
theorem count_walk (A : Option Addr) (n c : Nat) (l : List Int) (i : Nat) (w : World) {B : Nat} (hq : Sq w B 1 n A (l.map (Value.int .i64))) : Calls Tryz.prog 115 #[.slice A n c, .int .i64 (i : Int)] w fun e w' => e = .returned (.int .i64 (cntL l i)) ∧ w = w' := by
  have NW := Lib.hid (number_walk A n c l i w hq)
  have CL := fun x => clamp_walk x (-300) 300 w
  obtain ⟨y, hy⟩ : ∃ y, nth l i = y := ⟨_, rfl⟩
  unfold cntL
  rw [hy] at NW ⊢
  clear hq hy
  by_cases h0 : y = 0
  · have hb : (y == 0) = true := by simp; omega
    rw [if_pos h0]
    go_enter Tryz.func115, Tryz.ntmps115
    go_wp2_with (first | (go_at_call 118; refine NW.out.mono ?_; rintro e w' ⟨rfl, rfl⟩))
    go_ret
    exact ⟨rfl, rfl⟩
  · have hb : (y == 0) = false := by simp; omega
    rw [if_neg h0]
    go_enter Tryz.func115, Tryz.ntmps115
    go_wp2_with (first | (go_at_call 118; refine NW.out.mono ?_; rintro e w' ⟨rfl, rfl⟩) | (go_at_call 92; refine (CL _).mono ?_; rintro e w' ⟨rfl, rfl⟩))
    go_ret
    exact ⟨rfl, rfl⟩
end Sc
end Go.Proofs.YtibihjcpkdfgeaaGreatDoor
namespace Go.Proofs.YtibihjcpkdfgeaaGreatDoor
open Rw
namespace Sc

abbrev SR := List Cel × Bool
structure Scr where
  w : Nat
  rows : List SR
  r : Nat
  c : Nat
  a : Int
/-- A screen that may be. -/
structure Ok (s : Scr) : Prop where
  w2 : 2 ≤ s.w
  w3 : s.w ≤ 300
  h1 : 1 ≤ s.rows.length
  h2 : s.rows.length ≤ 100
  row : s.r < s.rows.length
  col : s.c ≤ s.w
  a0 : 0 ≤ s.a
  a1 : s.a ≤ 255
  each : ∀ x ∈ s.rows, Rw.Good x.1 ∧ x.1.length = s.w ∧ ∀ c ∈ x.1, -2147483648 ≤ c.1 ∧ c.1 ≤ 2147483647
def setR (col : Nat) (L : List Cel) (x : SR) : SR := (setRes x.1 (col : Int) L, x.2)
def eraseR (f t : Int) (x : SR) : SR := (eraseRes x.1 f t, eraseWrap x.2 x.1 f t)
def setS (s : Scr) (L : List Cel) : Scr := { s with rows := s.rows.modify s.r (setR s.c L) }
def eraseS (s : Scr) (i : Nat) (f t : Int) : Scr := { s with rows := s.rows.modify i (eraseR f t) }
def downS (s : Scr) : Scr := if s.r + 1 < s.rows.length then { s with r := s.r + 1 } else { s with rows := s.rows.drop 1 ++ [(blanksL s.w, false)] }
def downO (s : Scr) : List SR := if s.r + 1 < s.rows.length then [] else s.rows.take 1
def padS (s : Scr) : Scr := if s.c < s.w then setS s [(0, 1, 0)] else s
def markS (s : Scr) : Scr := { s with rows := s.rows.modify s.r (fun x => (x.1, true)), c := 0 }
def wrapS (s : Scr) : Scr := downS (markS (padS s))
def wrapO (s : Scr) : List SR := downO (markS (padS s))
def roomS (s : Scr) (k : Int) : Scr := if (s.w : Int) < (s.c : Int) + k then wrapS s else s
def roomO (s : Scr) (k : Int) : List SR := if (s.w : Int) < (s.c : Int) + k then wrapO s else []
def ahead (s : Scr) (k : Int) : Scr := { s with c := s.c + k.toNat }
def printS (s : Scr) (r : Int) : Scr := if wof r = 0 then s else ahead (setS (roomS s (wof r)) (ofL r s.a)) (wof r)
def printO (s : Scr) (r : Int) : List SR := if wof r = 0 then [] else roomO s (wof r)
def leaveS (s : Scr) : Scr := { s with c := min s.c (s.w - 1) }
def ctrlS (s : Scr) (r : Int) : Scr := if r = 8 then { s with c := s.c - 1 } else if r = 9 then { s with c := min ((s.c / 8 + 1) * 8) (s.w - 1) } else if r = 10 then downS (leaveS s) else if r = 13 then { s with c := 0 } else s
def ctrlO (s : Scr) (r : Int) : List SR := if r = 10 then downO (leaveS s) else []
def moveS (s : Scr) (line col : Int) : Scr := { s with r := (min (max line 0) ((s.rows.length : Int) - 1)).toNat, c := (min (max col 0) ((s.w : Int) - 1)).toNat }
def rowsE (s : Scr) (f n : Nat) : Scr := (List.range' f n).foldl (fun s i => eraseS s i 0 (s.w : Int)) s
def rowE (s : Scr) (what : Int) : Scr := if what = 0 then eraseS s s.r (s.c : Int) (s.w : Int) else if what = 1 then eraseS s s.r 0 ((s.c : Int) + 1) else if what = 2 then eraseS s s.r 0 (s.w : Int) else s
def scrE (s : Scr) (what : Int) : Scr := rowE (if what = 0 then rowsE s (s.r + 1) (s.rows.length - (s.r + 1)) else if what = 1 then rowsE s 0 s.r else if what = 2 then rowsE s 0 s.rows.length else s) what
def modA (n : Int) : Int := n % 256
def paintS (s : Scr) (l : List Int) : Scr := { s with a := l.foldl (fun _ n => modA n) 0 }
def knows (r : Int) : Bool := r == 65 || r == 66 || r == 67 || r == 68 || r == 72 || r == 74 || r == 75 || r == 109
def actS (s : Scr) (r : Int) (l : List Int) : Scr :=
  if r = 65 then moveS s ((s.r : Int) - cntL l 0) s.c else
  if r = 66 then moveS s ((s.r : Int) + cntL l 0) s.c else
  if r = 67 then moveS s s.r ((s.c : Int) + cntL l 0) else
  if r = 68 then moveS s s.r ((s.c : Int) - cntL l 0) else
  if r = 72 then moveS s (cntL l 0 - 1) (cntL l 1 - 1) else
  if r = 74 then scrE s (nth l 0) else
  if r = 75 then rowE s (nth l 0) else paintS s l
def csiS (s : Scr) (r : Int) (l : List Int) : Scr := if knows r then actS (leaveS s) r l else s
def doS (s : Scr) (k r : Int) (l : List Int) : Scr := if k = 1 then printS s r else if k = 2 then ctrlS s r else if k = 3 then csiS s r l else s
def doO (s : Scr) (k r : Int) : List SR := if k = 1 then printO s r else if k = 2 then ctrlO s r else []
def newS (w h : Int) : Scr := { w := (min (max w 2) 300).toNat, rows := List.replicate (min (max h 1) 100).toNat (blanksL (min (max w 2) 300).toNat, false), r := 0, c := 0, a := 0 }

def RowOk (w : Nat) (x : SR) : Prop := Rw.Good x.1 ∧ x.1.length = w ∧ ∀ c ∈ x.1, -2147483648 ≤ c.1 ∧ c.1 ≤ 2147483647
theorem each_modify {P : SR → Prop} {l : List SR} {i : Nat} {f : SR → SR} (h : ∀ x ∈ l, P x) (hf : ∀ x, P x → P (f x)) : ∀ x ∈ l.modify i f, P x := by
  intro x hx
  obtain ⟨j, hj⟩ := List.mem_iff_getElem?.1 hx
  rw [List.getElem?_modify] at hj
  cases hl : l[j]? with
  | none => rw [hl] at hj; simp at hj
  | some y =>
    rw [hl] at hj
    have hy := h y (List.mem_of_getElem? hl)
    simp only [Option.map_eq_map, Option.map_some, Option.some.injEq] at hj
    split at hj
    · rw [← hj]; exact hf y hy
    · rw [← hj]; exact hy
theorem ovL_signs {l L : List Cel} {k : Nat} (h : ∀ c ∈ l, -2147483648 ≤ c.1 ∧ c.1 ≤ 2147483647) (hL : ∀ c ∈ L, -2147483648 ≤ c.1 ∧ c.1 ≤ 2147483647) : ∀ c ∈ ovL l k L, -2147483648 ≤ c.1 ∧ c.1 ≤ 2147483647 := by
  have at' : ∀ (m : List Cel), (∀ c ∈ m, -2147483648 ≤ c.1 ∧ c.1 ≤ 2147483647) → ∀ i, -2147483648 ≤ (cAt m i).1 ∧ (cAt m i).1 ≤ 2147483647 := fun m hm i => by
    by_cases hi : i < m.length
    · exact hm _ (List.mem_of_getElem? (cAt_get hi))
    · rw [cAt_none (by omega)]; simp
  intro c hc
  unfold ovL at hc
  obtain ⟨i, _, rfl⟩ := List.mem_map.1 hc
  unfold ovS
  split
  · exact at' L hL _
  · split
    · simp
    · split
      · simp
      · exact at' l h _
theorem setOk_parts {l L : List Cel} {col : Int} (h : setOk l col L = true) : mayL l = true ∧ isOneB L = true ∧ 0 ≤ col ∧ col ≤ (l.length : Int) - (L.length : Int) := by
  unfold setOk at h
  simp only [Bool.and_eq_true, decide_eq_true_eq] at h
  exact ⟨h.1.1.1, h.1.1.2, h.1.2, h.2⟩
theorem setRes_ok {w : Nat} {x : SR} {col : Nat} {L : List Cel} (h : RowOk w x) (hL : ∀ c ∈ L, -2147483648 ≤ c.1 ∧ c.1 ≤ 2147483647) : RowOk w (setR col L x) := by
  unfold setR setRes
  split
  · rename_i hok
    obtain ⟨_, h2, h3, h4⟩ := setOk_parts hok
    refine ⟨ovL_good h.1 (isOne_whole h2) (show (col : Int).toNat + L.length ≤ x.1.length by omega), by rw [ovL_length]; exact h.2.1, ovL_signs h.2.2 hL⟩
  · exact h
theorem blanks_signs (n : Nat) : ∀ c ∈ blanksL n, -2147483648 ≤ c.1 ∧ c.1 ≤ 2147483647 := by
  intro c hc
  unfold blanksL at hc
  rw [(List.mem_replicate.1 hc).2]
  simp
theorem eraseR_ok {w : Nat} {x : SR} {f t : Int} (h : RowOk w x) : RowOk w (eraseR f t x) := by
  unfold eraseR eraseRes
  split
  · rename_i hok
    rw [Bool.and_eq_true] at hok
    have hlt : f < t := by simpa using hok.2
    have ho := hok.1
    unfold eraseOk at ho
    simp only [Bool.and_eq_true, decide_eq_true_eq] at ho
    refine ⟨ovL_good h.1 (blanksL_whole (show 0 < (t - f).toNat by omega)) (show f.toNat + (blanksL (t - f).toNat).length ≤ x.1.length by rw [blanksL_length]; omega), by rw [ovL_length]; exact h.2.1, ovL_signs h.2.2 (blanks_signs _)⟩
  · exact h
theorem good_blanks (n : Nat) : Rw.Good (blanksL n) := by
  refine ⟨fun i _ => by rw [cAt_blanksL]; exact mayB_blank, fun i => ?_, fun i e => ?_⟩
  · unfold cPrev
    rw [cAt_blanksL]
    split <;> simp [cAt_blanksL]
  · rw [cAt_blanksL] at e; cases e
theorem blank_ok (w : Nat) : RowOk w (blanksL w, false) := ⟨good_blanks w, blanksL_length w, blanks_signs w⟩
namespace Ok
variable {s : Scr}
theorem set (h : Ok s) {L : List Cel} (hL : ∀ c ∈ L, -2147483648 ≤ c.1 ∧ c.1 ≤ 2147483647) : Ok (setS s L) :=
  ⟨h.w2, h.w3, by simpa [setS] using h.h1, by simpa [setS] using h.h2, by simpa [setS] using h.row, h.col, h.a0, h.a1, each_modify (P := RowOk s.w) h.each fun _ hx => setRes_ok hx hL⟩
theorem erase (h : Ok s) (i : Nat) (f t : Int) : Ok (eraseS s i f t) :=
  ⟨h.w2, h.w3, by simpa [eraseS] using h.h1, by simpa [eraseS] using h.h2, by simpa [eraseS] using h.row, h.col, h.a0, h.a1, each_modify (P := RowOk s.w) h.each fun _ hx => eraseR_ok hx⟩
theorem down (h : Ok s) : Ok (downS s) := by
  unfold downS
  split
  · rename_i hr
    exact ⟨h.w2, h.w3, h.h1, h.h2, hr, h.col, h.a0, h.a1, h.each⟩
  · have h1 := h.h1
    have h2 := h.h2
    have h3 := h.row
    refine ⟨h.w2, h.w3, by simp, by simp; omega, by simp; omega, h.col, h.a0, h.a1, fun x hx => ?_⟩
    rcases List.mem_append.1 hx with hx | hx
    · exact h.each x (List.mem_of_mem_drop hx)
    · rw [List.mem_singleton.1 hx]
      exact blank_ok _
theorem pad (h : Ok s) : Ok (padS s) := by
  unfold padS
  split
  · exact h.set (by intro c hc; rw [List.mem_singleton.1 hc]; simp)
  · exact h
theorem mark (h : Ok s) : Ok (markS s) :=
  ⟨h.w2, h.w3, by simpa [markS] using h.h1, by simpa [markS] using h.h2, by simpa [markS] using h.row, Nat.zero_le _, h.a0, h.a1, each_modify (P := RowOk s.w) h.each fun _ hx => hx⟩
theorem wrap (h : Ok s) : Ok (wrapS s) := h.pad.mark.down
end Ok
theorem ofL_signs {r a : Int} (h0 : -2147483648 ≤ r) (h1 : r ≤ 2147483647) : ∀ c ∈ ofL r a, -2147483648 ≤ c.1 ∧ c.1 ≤ 2147483647 := by
  intro c hc
  unfold ofL at hc
  split at hc
  · split at hc
    · rw [List.mem_singleton.1 hc]; exact ⟨h0, h1⟩
    · split at hc
      · simp at hc
        rcases hc with rfl | rfl
        · exact ⟨h0, h1⟩
        · simp
      · cases hc
  · cases hc
theorem downS_w (s : Scr) : (downS s).w = s.w ∧ (downS s).c = s.c ∧ (downS s).a = s.a := by
  unfold downS; split <;> exact ⟨rfl, rfl, rfl⟩
theorem padS_w (s : Scr) : (padS s).w = s.w ∧ (padS s).c = s.c ∧ (padS s).a = s.a ∧ (padS s).r = s.r ∧ (padS s).rows.length = s.rows.length := by
  unfold padS; split
  · exact ⟨rfl, rfl, rfl, rfl, by simp [setS]⟩
  · exact ⟨rfl, rfl, rfl, rfl, rfl⟩
theorem wrapS_w (s : Scr) : (wrapS s).w = s.w ∧ (wrapS s).c = 0 ∧ (wrapS s).a = s.a := by
  unfold wrapS
  obtain ⟨h1, h2, h3⟩ := downS_w (markS (padS s))
  obtain ⟨k1, k2, k3, _⟩ := padS_w s
  exact ⟨h1.trans k1, h2, h3.trans k3⟩
theorem roomS_w (s : Scr) (k : Int) : (roomS s k).w = s.w ∧ (roomS s k).a = s.a := by
  unfold roomS; split
  · exact ⟨(wrapS_w s).1, (wrapS_w s).2.2⟩
  · exact ⟨rfl, rfl⟩
namespace Ok
variable {s : Scr}
theorem room (h : Ok s) (k : Int) : Ok (roomS s k) := by
  unfold roomS; split
  · exact h.wrap
  · exact h
theorem room_col (h : Ok s) {k : Int} (hk : k ≤ 2) (h0 : 0 ≤ k) : ((roomS s k).c : Int) + k ≤ s.w := by
  unfold roomS; split
  · rw [(wrapS_w s).2.1]; have := h.w2; omega
  · omega
theorem print (h : Ok s) {r : Int} (h0 : -2147483648 ≤ r) (h1 : r ≤ 2147483647) : Ok (printS s r) := by
  unfold printS; split
  · exact h
  · have hw := wof_range r
    have hc := h.room_col hw.2 hw.1
    have h2 := (h.room (wof r)).set (ofL_signs (a := s.a) h0 h1)
    have e : (setS (roomS s (wof r)) (ofL r s.a)).w = s.w := (roomS_w s _).1
    exact ⟨h2.w2, h2.w3, h2.h1, h2.h2, h2.row, by
      show (roomS s (wof r)).c + (wof r).toNat ≤ (setS (roomS s (wof r)) (ofL r s.a)).w
      rw [e]; omega, h2.a0, h2.a1, h2.each⟩
theorem leave (h : Ok s) : Ok (leaveS s) := ⟨h.w2, h.w3, h.h1, h.h2, h.row, by have := h.w2; show min s.c (s.w - 1) ≤ s.w; omega, h.a0, h.a1, h.each⟩
theorem leave_col (h : Ok s) : (leaveS s).c < s.w := by have := h.w2; show min s.c (s.w - 1) < s.w; omega
theorem colIs (h : Ok s) {c : Nat} (hc : c ≤ s.w) : Ok { s with c := c } := ⟨h.w2, h.w3, h.h1, h.h2, h.row, hc, h.a0, h.a1, h.each⟩
theorem ctrl (h : Ok s) (r : Int) : Ok (ctrlS s r) := by
  unfold ctrlS
  have := h.col
  split
  · exact h.colIs (by omega)
  · split
    · exact h.colIs (by omega)
    · split
      · exact h.leave.down
      · split
        · exact h.colIs (by omega)
        · exact h
theorem move (h : Ok s) (line col : Int) : Ok (moveS s line col) :=
  ⟨h.w2, h.w3, h.h1, h.h2, by have := h.h1; show (min (max line 0) ((s.rows.length : Int) - 1)).toNat < s.rows.length; omega, by have := h.w2; show (min (max col 0) ((s.w : Int) - 1)).toNat ≤ s.w; omega, h.a0, h.a1, h.each⟩
theorem rowE (h : Ok s) (what : Int) : Ok (rowE s what) := by
  unfold Sc.rowE
  split
  · exact h.erase _ _ _
  · split
    · exact h.erase _ _ _
    · split
      · exact h.erase _ _ _
      · exact h
theorem rowsE (h : Ok s) (f n : Nat) : Ok (rowsE s f n) := by
  unfold Sc.rowsE
  induction n generalizing f s with
  | zero => exact h
  | succ n ih =>
    rw [List.range'_succ, List.foldl_cons]
    exact ih (s := eraseS s f 0 s.w) (h.erase f 0 s.w) (f + 1)
theorem scrE (h : Ok s) (what : Int) : Ok (scrE s what) := by
  unfold Sc.scrE
  refine Ok.rowE ?_ _
  split
  · exact h.rowsE _ _
  · split
    · exact h.rowsE _ _
    · split
      · exact h.rowsE _ _
      · exact h
theorem paint (h : Ok s) (l : List Int) : Ok (paintS s l) := by
  have hm : ∀ n : Int, 0 ≤ modA n ∧ modA n ≤ 255 := fun n => by unfold modA; omega
  have : ∀ (l : List Int) (x : Int), 0 ≤ x ∧ x ≤ 255 → 0 ≤ l.foldl (fun _ n => modA n) x ∧ l.foldl (fun _ n => modA n) x ≤ 255 := fun l => by
    induction l with
    | nil => exact fun x hx => hx
    | cons n l ih => exact fun x _ => ih _ (hm n)
  have := this l 0 (by omega)
  exact ⟨h.w2, h.w3, h.h1, h.h2, h.row, h.col, this.1, this.2, h.each⟩
theorem act (h : Ok s) (r : Int) (l : List Int) : Ok (actS s r l) := by
  unfold actS
  repeat' split
  · exact h.move _ _
  · exact h.move _ _
  · exact h.move _ _
  · exact h.move _ _
  · exact h.move _ _
  · exact h.scrE _
  · exact h.rowE _
  · exact h.paint _
theorem csi (h : Ok s) (r : Int) (l : List Int) : Ok (csiS s r l) := by
  unfold csiS
  split
  · exact h.leave.act r l
  · exact h
theorem doS (h : Ok s) {r : Int} (h0 : -2147483648 ≤ r) (h1 : r ≤ 2147483647) (k : Int) (l : List Int) : Ok (doS s k r l) := by
  unfold Sc.doS
  split
  · exact h.print h0 h1
  · split
    · exact h.ctrl r
    · split
      · exact h.csi r l
      · exact h
end Ok
theorem newS_ok (w h : Int) : Ok (newS w h) := by
  unfold newS
  refine ⟨?_, ?_, ?_, ?_, ?_, ?_, ?_, ?_, fun x hx => ?_⟩
  all_goals try (simp; done)
  · show 2 ≤ (min (max w 2) 300).toNat; omega
  · show (min (max w 2) 300).toNat ≤ 300; omega
  · show 1 ≤ (List.replicate _ _).length; rw [List.length_replicate]; omega
  · show (List.replicate _ _).length ≤ 100; rw [List.length_replicate]; omega
  · show 0 < (List.replicate _ _).length; rw [List.length_replicate]; omega
  · rw [(List.mem_replicate.1 hx).2]
    exact blank_ok _
end Sc
end Go.Proofs.YtibihjcpkdfgeaaGreatDoor
namespace Go.Proofs.YtibihjcpkdfgeaaGreatDoor
open Go.ChangeShapes Go.WideShapes Go.ChangeAt Go.RowKit
namespace Sc
open Rw

def sr (x : RowIn) : SR := (x.l, x.wrap)
def scells (s : Scr) (g : Nat) : Array Value := #[.int .i64 (s.w : Int), .slice (some ⟨g, 0, none⟩) s.rows.length s.rows.length, .int .i64 (s.r : Int), .int .i64 (s.c : Int), .int .i64 s.a]
structure ScAt (W : World) (p g : Nat) (s : Scr) (xs : List RowIn) : Prop where
  ok : Ok s
  same : xs.map sr = s.rows
  scr : W.heap[p]? = some (.cells (scells s g) 117 (0, 0))
  rows : W.heap[g]? = some (.cells (xs.flatMap RowIn.vals).toArray 53 (0, 0))
  each : ∀ x ∈ xs, HasC W 0 (.slice x.A x.n x.c) x.l ∧ x.n = s.w
  apart : (xs.map RowIn.A).Nodup
theorem hasC_turned {W W' : World} {M : Nat → Prop} {v : Value} {l : List Cel} (hx : HasC W 0 v l) (ht : Turned M W W') (h2 : ∀ j, M j → ¬ Typed W 67 j) : HasC W' 0 v l := by
  refine ⟨hx.1, ?_⟩
  rcases hx.2 with e | ⟨g, cap, cur, e, e2, e3, r⟩
  · exact .inl e
  · exact .inr ⟨g, cap, cur, e, e2, (ht.block g (Array.getElem?_eq_some_iff.1 e3).1 (fun m => h2 g m ⟨_, _, e3⟩)).trans e3, r⟩
/-- What a call may do to a screen's memory: its two blocks, and new ones. -/
structure Went (W W' : World) (p g : Nat) (xs xs' : List RowIn) : Prop where
  turned : Turned (fun k => k = p ∨ k = g) W W'
  from' : ∀ x ∈ xs', (∃ y ∈ xs, y.A = x.A) ∨ ∃ k, x.A = some ⟨k, 0, none⟩ ∧ W.heap.size ≤ k
namespace Went
variable {W W' W2 : World} {p g : Nat} {xs xs' xs2 : List RowIn}
theorem refl (W : World) (p g : Nat) (xs : List RowIn) : Went W W p g xs xs := ⟨Turned.refl _ _, fun x hx => .inl ⟨x, hx, rfl⟩⟩
theorem trans (h : Went W W' p g xs xs') (k : Went W' W2 p g xs' xs2) : Went W W2 p g xs xs2 :=
  ⟨h.turned.trans k.turned (fun _ _ h => h), fun x hx => by
    rcases k.from' x hx with ⟨y, hy, e⟩ | ⟨b, e, hb⟩
    · rcases h.from' y hy with ⟨z, hz, e2⟩ | ⟨b, e2, hb⟩
      · exact .inl ⟨z, hz, e2.trans e⟩
      · exact .inr ⟨b, e ▸ e2, hb⟩
    · exact .inr ⟨b, e, Nat.le_trans h.turned.size hb⟩⟩
theorem laid (hb : Below W.heap.size W W') : Went W W' p g xs xs := ⟨Turned.ofBelow hb _, fun x hx => .inl ⟨x, hx, rfl⟩⟩
theorem cell (j : Nat) (v : Value) : Went W (W.setCell ⟨p, j, none⟩ v) p g xs xs := ⟨(Turned.ofCell p j W v).mono fun _ _ e => .inl e, fun x hx => .inl ⟨x, hx, rfl⟩⟩
end Went
theorem nodup_set {α : Type} : ∀ (l : List α) (i : Nat) (a : α), l.Nodup → a ∉ l → (l.set i a).Nodup
  | [], _, _, h, _ => h
  | b :: l, 0, a, h, ha => by
    rw [List.set_cons_zero]
    rw [List.nodup_cons] at h ⊢
    exact ⟨fun m => ha (List.mem_cons_of_mem _ m), h.2⟩
  | b :: l, i + 1, a, h, ha => by
    rw [List.set_cons_succ]
    rw [List.nodup_cons] at h ⊢
    refine ⟨fun m => ?_, nodup_set l i a h.2 (fun m => ha (List.mem_cons_of_mem _ m))⟩
    rcases List.mem_or_eq_of_mem_set m with m | m
    · exact h.1 m
    · exact ha (m ▸ List.mem_cons_self ..)
theorem vals_set : ∀ (xs : List RowIn) (i : Nat) (x : RowIn), i < xs.length → (xs.set i x).flatMap RowIn.vals = ((xs.flatMap RowIn.vals).set (i * 2) (.slice x.A x.n x.c)).set (i * 2 + 1) (.bool x.wrap)
  | [], _, _, h => by simp at h
  | y :: xs, 0, x, _ => by simp [RowIn.vals]
  | y :: xs, i + 1, x, h => by
    have ih := vals_set xs i x (by simpa using h)
    rw [List.set_cons_succ, List.flatMap_cons, ih, List.flatMap_cons, show (i + 1) * 2 = i * 2 + 1 + 1 by omega]
    simp [RowIn.vals]
theorem map_set_modify {xs : List RowIn} {i : Nat} {x y : RowIn} {f : SR → SR} (hy : xs[i]? = some y) (hx : sr x = f (sr y)) : (xs.set i x).map sr = (xs.map sr).modify i f := by
  refine List.ext_getElem? fun j => ?_
  rw [List.getElem?_map, List.getElem?_set, List.getElem?_modify, List.getElem?_map]
  have hi := (List.getElem?_eq_some_iff.1 hy).1
  by_cases e : i = j
  · subst e
    rw [if_pos rfl, if_pos hi, hy]
    simp [hx]
  · rw [if_neg e]
    cases xs[j]? <;> simp [e]
namespace ScAt
variable {W W' : World} {p g : Nat} {s : Scr} {xs : List RowIn}
theorem len (h : ScAt W p g s xs) : xs.length = s.rows.length := by rw [← h.same, List.length_map]
theorem ltp (h : ScAt W p g s xs) : p < W.heap.size := (Array.getElem?_eq_some_iff.1 h.scr).1
theorem ltg (h : ScAt W p g s xs) : g < W.heap.size := (Array.getElem?_eq_some_iff.1 h.rows).1
theorem typ (h : ScAt W p g s xs) : Typed W 117 p := ⟨_, _, h.scr⟩
theorem tyg (h : ScAt W p g s xs) : Typed W 53 g := ⟨_, _, h.rows⟩
theorem ne (h : ScAt W p g s xs) : p ≠ g := h.typ.apart h.tyg (by decide)
theorem noC (h : ScAt W p g s xs) : ∀ k, k = p ∨ k = g → ¬ Typed W 67 k := by
  rintro k (rfl | rfl) t
  · exact h.typ.apart t (by decide) rfl
  · exact h.tyg.apart t (by decide) rfl
theorem get (h : ScAt W p g s xs) (j : Nat) : W.cell? ⟨p, j, none⟩ = (scells s g)[j]? := cell_of_row W p j _ _ (0, 0) h.scr
theorem free (h : ScAt W p g s xs) (j : Nat) : W.frozen? ⟨p, j, none⟩ = false := frozen_of_row W p j _ _ h.scr
theorem freeg (h : ScAt W p g s xs) (j : Nat) : W.frozen? ⟨g, j, none⟩ = false := frozen_of_row W g j _ _ h.rows
theorem row (h : ScAt W p g s xs) {i : Nat} {x : RowIn} (hx : xs[i]? = some x) : W.cell? ⟨g, i * 2, none⟩ = some (.slice x.A x.n x.c) ∧ W.cell? ⟨g, i * 2 + 1, none⟩ = some (.bool x.wrap) := by
  constructor
  · rw [cell_of_row W g _ _ _ (0, 0) h.rows, List.getElem?_toArray]
    have := flatMap_get RowIn.vals 2 (fun _ => rfl) xs i x hx 0 _ rfl
    simpa using this
  · rw [cell_of_row W g _ _ _ (0, 0) h.rows, List.getElem?_toArray]
    exact flatMap_get RowIn.vals 2 (fun _ => rfl) xs i x hx 1 _ rfl
theorem at' (h : ScAt W p g s xs) {i : Nat} (hi : i < s.rows.length) : ∃ x, xs[i]? = some x ∧ s.rows[i]? = some (sr x) ∧ HasC W 0 (.slice x.A s.w x.c) x.l ∧ x.n = s.w ∧ Rw.Good x.l ∧ x.l.length = s.w ∧ ∀ c ∈ x.l, -2147483648 ≤ c.1 ∧ c.1 ≤ 2147483647 := by
  have hl := h.len
  obtain ⟨x, hx⟩ : ∃ x, xs[i]? = some x := ⟨_, List.getElem?_eq_getElem (by omega)⟩
  have hm := List.mem_of_getElem? hx
  have he := h.each x hm
  have hr : s.rows[i]? = some (sr x) := by rw [← h.same, List.getElem?_map, hx]; rfl
  have ho := h.ok.each _ (List.mem_of_getElem? hr)
  exact ⟨x, hx, hr, by rw [← he.2]; exact he.1, he.2, ho⟩
theorem kept (h : ScAt W p g s xs) {M : Nat → Prop} (ht : Turned M W W') (hp : ¬ M p) (hg : ¬ M g) (hc : ∀ k, M k → ¬ Typed W 67 k) : ScAt W' p g s xs :=
  ⟨h.ok, h.same, (ht.block p h.ltp hp).trans h.scr, (ht.block g h.ltg hg).trans h.rows, fun x hx => ⟨hasC_turned (h.each x hx).1 ht hc, (h.each x hx).2⟩, h.apart⟩
theorem laid (h : ScAt W p g s xs) (hb : Below W.heap.size W W') : ScAt W' p g s xs := h.kept (M := fun _ => False) (Turned.ofBelow hb _) (fun f => f) (fun f => f) (fun _ f => f.elim)
/-- One of its own cells is turned. -/
theorem own (h : ScAt W p g s xs) {s' : Scr} (hk : Ok s') (hr : s'.rows = s.rows) (hw : s'.w = s.w) {j : Nat} {v : Value} (hc : (scells s g).setIfInBounds j v = scells s' g) : ScAt (W.setCell ⟨p, j, none⟩ v) p g s' xs := by
  have ht := Turned.ofCell p j W v
  refine ⟨hk, by rw [hr]; exact h.same, by rw [← hc]; exact heap_setCell_same W p j _ _ _ h.scr, (ht.block g h.ltg (fun e => h.ne e.symm)).trans h.rows, fun x hx => ⟨hasC_turned (h.each x hx).1 ht (fun k e => h.noC k (.inl e)), by rw [hw]; exact (h.each x hx).2⟩, h.apart⟩
theorem setRow (h : ScAt W p g s xs) {r : Nat} (hr : r < s.rows.length) : ScAt (W.setCell ⟨p, 2, none⟩ (.int .i64 (r : Int))) p g { s with r := r } xs :=
  h.own (s' := { s with r := r }) ⟨h.ok.w2, h.ok.w3, h.ok.h1, h.ok.h2, hr, h.ok.col, h.ok.a0, h.ok.a1, h.ok.each⟩ rfl rfl rfl
theorem setCol (h : ScAt W p g s xs) {c : Nat} (hc : c ≤ s.w) : ScAt (W.setCell ⟨p, 3, none⟩ (.int .i64 (c : Int))) p g { s with c := c } xs :=
  h.own (s' := { s with c := c }) (h.ok.colIs hc) rfl rfl rfl
theorem setAttr (h : ScAt W p g s xs) {a : Int} (h0 : 0 ≤ a) (h1 : a ≤ 255) : ScAt (W.setCell ⟨p, 4, none⟩ (.int .i64 a)) p g { s with a := a } xs :=
  h.own (s' := { s with a := a }) ⟨h.ok.w2, h.ok.w3, h.ok.h1, h.ok.h2, h.ok.row, h.ok.col, h0, h1, h.ok.each⟩ rfl rfl rfl
/-- One of its rows is turned. -/
theorem putRow (h : ScAt W p g s xs) {i : Nat} {x y : RowIn} {f : SR → SR} (hy : xs[i]? = some y) (hx : sr x = f (sr y)) (hok : Ok { s with rows := s.rows.modify i f }) (hc : HasC W 0 (.slice x.A x.n x.c) x.l) (hn : x.n = s.w) (hA : x.A = y.A ∨ ∀ z ∈ xs, z.A ≠ x.A) :
    ScAt ((W.setCell ⟨g, i * 2, none⟩ (.slice x.A x.n x.c)).setCell ⟨g, i * 2 + 1, none⟩ (.bool x.wrap)) p g { s with rows := s.rows.modify i f } (xs.set i x) := by
  have hi := (List.getElem?_eq_some_iff.1 hy).1
  have ht : Turned (· = g) W ((W.setCell ⟨g, i * 2, none⟩ (.slice x.A x.n x.c)).setCell ⟨g, i * 2 + 1, none⟩ (.bool x.wrap)) := Turned.ofOnly ((OnlyRow.cell g _ W _).trans (OnlyRow.cell g _ _ _))
  have hno : ∀ k, k = g → ¬ Typed W 67 k := fun k e => h.noC k (.inr e)
  refine ⟨hok, by rw [map_set_modify hy hx, h.same], ?_, ?_, fun z hz => ?_, ?_⟩
  · rw [(ht.block p h.ltp h.ne), h.scr]
    unfold scells
    simp
  · rw [heap_setCell_same _ g _ _ _ _ (heap_setCell_same W g _ _ _ _ h.rows), vals_set xs i x hi]
    simp [List.setIfInBounds_toArray]
  · rcases List.mem_or_eq_of_mem_set hz with hz | rfl
    · exact ⟨hasC_turned (h.each z hz).1 ht hno, (h.each z hz).2⟩
    · exact ⟨hasC_turned hc ht hno, hn⟩
  · rw [List.map_set]
    rcases hA with e | e
    · have : (xs.map RowIn.A).set i x.A = xs.map RowIn.A := by
        refine List.ext_getElem? fun j => ?_
        rw [List.getElem?_set]
        by_cases hij : i = j
        · subst hij
          rw [if_pos rfl, if_pos (by rw [List.length_map]; exact hi), List.getElem?_map, hy, e]
          rfl
        · rw [if_neg hij]
      rw [this]
      exact h.apart
    · exact nodup_set _ _ _ h.apart fun m => by
        obtain ⟨z, hz, ez⟩ := List.mem_map.1 m
        exact e z hz ez
end ScAt
/-- A row of cells just made has a block of its own. -/
theorem fresh_row {W : World} {base n c : Nat} {A : Option Addr} {l : List Cel} (h : HasC W base (.slice A n c) l) (hn : 0 < n) : ∃ k, A = some ⟨k, 0, none⟩ ∧ base ≤ k ∧ k < W.heap.size := by
  have hl : l.length = n := by
    obtain ⟨A', c', e, _⟩ := HasC.shape h
    injection e with _ e _
    exact e.symm
  rcases h.2 with ⟨e, h0⟩ | ⟨g, cap, cur, e, e2, e3, _⟩
  · omega
  · injection e with ea eb ec
    exact ⟨g, ea, e2, (Array.getElem?_eq_some_iff.1 e3).1⟩
end Sc
end Go.Proofs.YtibihjcpkdfgeaaGreatDoor
namespace Go.Proofs.YtibihjcpkdfgeaaGreatDoor
open Go.ChangeShapes Go.WideShapes Go.ChangeAt Go.RowKit
namespace Sc
open Rw

abbrev ptrS (p : Nat) : Value := .pointer (some ⟨p, 0, none⟩)
/-- A method that answers nothing. -/
def Done (p g : Nat) (s' : Scr) (xs : List RowIn) (w : World) (e : Ending) (w' : World) : Prop := (∃ y, e = .returned y) ∧ ∃ xs', ScAt w' p g s' xs' ∧ Went w w' p g xs xs'
set_option maxRecDepth 100000 in
set_option maxHeartbeats 1600000 in
theorem leaveEnd_walk {p g : Nat} {s : Scr} {xs : List RowIn} (w : World) (h : ScAt w p g s xs) : Calls Tryz.prog 112 #[ptrS p] w fun e w' => Done p g (leaveS s) xs w e w' := by
  have k0 : w.drew.cell? ⟨p, 0, none⟩ = some (.int .i64 (s.w : Int)) := h.get 0
  have k3 : w.drew.cell? ⟨p, 3, none⟩ = some (.int .i64 (s.c : Int)) := h.get 3
  have f3 : w.drew.frozen? ⟨p, 3, none⟩ = false := h.free 3
  have hw : IntKind.i64.wrap ((s.w : Int) - 1) = ((s.w - 1 : Nat) : Int) := by have := h.ok.w2; have := h.ok.w3; rw [IntWalk.i64_in _ (by omega)]; omega
  have D := Lib.hid (show ∀ X : Int, X = ((min s.c (s.w - 1) : Nat) : Int) → Done p g (leaveS s) xs w (.returned (.tuple #[])) (w.drew.setCell ⟨p, 3, none⟩ (.int .i64 X)) from fun X hX => by
    subst hX
    exact ⟨⟨_, rfl⟩, xs, (h.laid (Below.refl _ _).drew).setCol (by have := h.ok.w2; omega), (Went.laid (Below.refl _ _).drew).trans (Went.cell 3 _)⟩)
  generalize s.w = sw at k0 hw D
  generalize s.c = sc at k3 D
  clear h
  go_enter Tryz.func112, Tryz.ntmps112
  go_wp2_with fail
  go_region
  all_goals
    go_wp2
  all_goals
    go_end0
    exact D.out _ (by omega)
set_option maxRecDepth 100000 in
set_option maxHeartbeats 3200000 in
theorem erase_walk {p g : Nat} {s : Scr} {xs : List RowIn} (i : Nat) (f t : Int) (w : World) (hs : Spans w) (h : ScAt w p g s xs) (hi : i < s.rows.length) : Calls Tryz.prog 144 #[ptrS p, .int .i64 (i : Int), .int .i64 f, .int .i64 t] w fun e w' => Done p g (eraseS s i f t) xs w e w' := by
  obtain ⟨x, hx, hsr, hc, hn, hg, hl, hsg⟩ := h.at' hi
  have hd := h.laid (Below.refl _ _).drew
  have H := Lib.hid hd
  have P1 : ∀ W, Below w.drew.heap.size w.drew W → W.cell? ⟨p, 1, none⟩ = some (.slice (some ⟨g, 0, none⟩) s.rows.length s.rows.length) := fun W b => (hd.laid b).get 1
  have k1 := P1 _ (Below.refl _ _)
  have G0 : ∀ W, Below w.drew.heap.size w.drew W → W.cell? ⟨g, i * 2, none⟩ = some (.slice x.A x.n x.c) := fun W b => ((hd.laid b).row hx).1
  have G1 : ∀ W, Below w.drew.heap.size w.drew W → W.cell? ⟨g, i * 2 + 1, none⟩ = some (.bool x.wrap) := fun W b => ((hd.laid b).row hx).2
  have g0 := G0 _ (Below.refl _ _)
  have g1 := G1 _ (Below.refl _ _)
  have F0 : ∀ W, Below w.drew.heap.size w.drew W → W.frozen? ⟨g, i * 2, none⟩ = false := fun W b => (hd.laid b).freeg _
  have F1 : ∀ W, Below w.drew.heap.size w.drew W → W.frozen? ⟨g, i * 2 + 1, none⟩ = false := fun W b => (hd.laid b).freeg _
  have EW := Lib.hid (rowErase_walk x.A x.n x.c x.wrap x.l f t w.drew (hs.below (Below.refl _ _).drew hs.size) hsg (by rw [hn]; exact HasC.sq (H.out.each x (List.mem_of_getElem? hx)).1 |> fun q => by simpa [hn] using q) (by rw [hn]; have := h.ok.w3; omega))
  have hi0 : (0 : Int) ≤ (i : Int) := by omega
  have hih : (i : Int) < (s.rows.length : Int) := by omega
  have D := Lib.hid (show ∀ (W : World) A n c, HasC W w.drew.heap.size (.slice A n c) (eraseRes x.l f t) → Below w.drew.heap.size w.drew W → Done p g (eraseS s i f t) xs w (.returned (.tuple #[])) ((W.setCell ⟨g, i * 2, none⟩ (.slice A n c)).setCell ⟨g, i * 2 + 1, none⟩ (.bool (eraseWrap x.wrap x.l f t))) from fun W A n c hW hb => by
    have hlen : n = s.w := by
      obtain ⟨_, _, e, _⟩ := HasC.shape hW
      injection e with _ e _
      rw [e]
      exact (eraseR_ok (f := f) (t := t) (x := sr x) ⟨hg, hl, hsg⟩).2.1
    obtain ⟨k, hk, hk1, hk2⟩ := fresh_row hW (by rw [hlen]; have := h.ok.w2; omega)
    have hA : ∀ z ∈ xs, z.A ≠ A := fun z hz e => by
      have hzc := (H.out.each z hz).1
      obtain ⟨k', hk', _, hlt⟩ := fresh_row hzc (by rw [(H.out.each z hz).2]; have := h.ok.w2; omega)
      rw [hk', hk] at e
      injection e with e
      injection e with e
      omega
    have hp := (H.out.laid hb).putRow (x := ⟨A, n, c, eraseWrap x.wrap x.l f t, eraseRes x.l f t⟩) (f := eraseR f t) hx rfl (h.ok.erase i f t) (HasC.mono hW (Nat.zero_le _)) hlen (.inr hA)
    refine ⟨⟨_, rfl⟩, _, hp, ⟨?_, fun z hz => ?_⟩⟩
    · exact ((Turned.ofBelow (Below.refl _ _).drew _).trans (Turned.ofBelow hb _) (fun _ _ h => h)).trans ((Turned.ofOnly ((OnlyRow.cell g _ W _).trans (OnlyRow.cell g _ _ _))).mono (fun _ _ e => .inr e)) (fun _ _ h => h)
    · rcases List.mem_or_eq_of_mem_set hz with hz | rfl
      · exact .inl ⟨z, hz, rfl⟩
      · exact .inr ⟨k, hk, hk1⟩)
  clear hd hx hsr hc hn hg hl hsg h hs hi
  go_enter Tryz.func144, Tryz.ntmps144
  go_wp2_with fail
  go_region_with (go_at_call 35; refine EW.out.mono ?_; rintro e w7 ⟨A7, n7, c7, rfl, hv7, b7⟩; (have k7 := P1 w7 b7); (have g70 := G0 w7 b7); (have g71 := G1 w7 b7); (have f70 := F0 w7 b7); (have f71 := F1 w7 b7); (have D7 := Lib.hid (D.out w7 A7 n7 c7 hv7 b7)); clear hv7 b7)
  all_goals
    go_wp2
  all_goals
    go_end0
    exact D7.out
end Sc
end Go.Proofs.YtibihjcpkdfgeaaGreatDoor
namespace Go.Proofs.YtibihjcpkdfgeaaGreatDoor
open Go.ChangeShapes Go.WideShapes Go.ChangeAt Go.RowKit
namespace Sc

def moveL : List Ord.Line := [
  (some 6, Go.Op.move (Go.Operand.tmp 0), none, []),
  (some 7, Go.Op.move (Go.Operand.tmp 1), none, []),
  (some 8, Go.Op.move (Go.Operand.tmp 0), none, []),
  (some 9, Go.Op.nilCheck (Go.Operand.tmp 8), none, [2]),
  (some 10, Go.Op.fieldAddr 117 (Go.Operand.tmp 9) 1, none, [3]),
  (some 11, Go.Op.load 73 (Go.Operand.tmp 10), none, [4]),
  (some 12, Go.Op.call { callee := Go.Callee.builtin Go.Builtin.len, args := #[Go.Operand.tmp 11], argTypes := #[73] }, none, [5]),
  (some 13, Go.Op.binOp Go.BinOp.sub 3 (Go.Operand.tmp 12) (Go.Operand.const (Go.Value.int Go.IntKind.i64 1)) 3, none, [6]),
  (some 14, Go.Op.call { callee := Go.Callee.value (Go.Operand.func 92), args := #[Go.Operand.tmp 7, Go.Operand.const (Go.Value.int Go.IntKind.i64 0), Go.Operand.tmp 13], argTypes := #[3, 3, 3] }, none, [1, 7]),
  (some 15, Go.Op.move (Go.Operand.tmp 2), none, []),
  (some 16, Go.Op.move (Go.Operand.tmp 0), none, []),
  (some 17, Go.Op.nilCheck (Go.Operand.tmp 16), none, [10]),
  (some 18, Go.Op.fieldAddr 117 (Go.Operand.tmp 17) 0, none, [11]),
  (some 19, Go.Op.load 3 (Go.Operand.tmp 18), none, [12]),
  (some 20, Go.Op.binOp Go.BinOp.sub 3 (Go.Operand.tmp 19) (Go.Operand.const (Go.Value.int Go.IntKind.i64 1)) 3, none, [13]),
  (some 21, Go.Op.call { callee := Go.Callee.value (Go.Operand.func 92), args := #[Go.Operand.tmp 15, Go.Operand.const (Go.Value.int Go.IntKind.i64 0), Go.Operand.tmp 20], argTypes := #[3, 3, 3] }, none, [9, 14, 8]),
  (some 22, Go.Op.build 79 #[(0, Go.Operand.tmp 14), (1, Go.Operand.tmp 21)], none, [8, 15]),
  (some 23, Go.Op.nilCheck (Go.Operand.tmp 6), none, [0, 0, 1, 2, 3, 4, 5, 6, 7, 8, 9, 10, 11, 12, 13, 14, 15, 16]),
  (some 24, Go.Op.fieldAddr 117 (Go.Operand.tmp 23) 2, none, [17, 0, 1, 2, 3, 4, 5, 6, 7, 8, 9, 10, 11, 12, 13, 14, 15, 16]),
  (none, Go.Op.store 79 (Go.Operand.tmp 24) (Go.Operand.tmp 22), none, [18, 16, 15, 0, 1, 2, 3, 4, 5, 6, 7, 8, 9, 10, 11, 12, 13, 14, 15, 16])]

/-- The slots that are known all the way. -/
structure MoveFr (p : Nat) (line col : Int) (p3 p4 p5 : Value) (a : Act) : Prop where
  size : a.tmps.size = 25
  defers : a.defers = []
  s0 : Chain.At a 0 (.pointer (some ⟨p, 0, none⟩))
  s1 : Chain.At a 1 (.int .i64 line)
  s2 : Chain.At a 2 (.int .i64 col)
  s3 : Chain.At a 3 (p3)
  s4 : Chain.At a 4 (p4)
  s5 : Chain.At a 5 (p5)
theorem MoveFr.next {p : Nat} {line col : Int} {p3 p4 p5 : Value} {a a' : Act} {d : Nat} {v : Value} (F : MoveFr p line col p3 p4 p5 a) (nx : Chain.Next a a' d v) (h : d ≠ 0 ∧ d ≠ 1 ∧ d ≠ 2 ∧ d ≠ 3 ∧ d ≠ 4 ∧ d ≠ 5) : MoveFr p line col p3 p4 p5 a' := ⟨nx.size.trans F.size, nx.defers.trans F.defers, nx.keep 0 _ h.1 F.s0, nx.keep 1 _ h.2.1 F.s1, nx.keep 2 _ h.2.2.1 F.s2, nx.keep 3 _ h.2.2.2.1 F.s3, nx.keep 4 _ h.2.2.2.2.1 F.s4, nx.keep 5 _ h.2.2.2.2.2 F.s5⟩
theorem MoveFr.lt {p : Nat} {line col : Int} {p3 p4 p5 : Value} {a : Act} {d : Nat} (F : MoveFr p line col p3 p4 p5 a) (h : d < 25) : d < a.tmps.size := by rw [F.size]; exact h

set_option maxRecDepth 100000 in
theorem move_region {ops : Array Oper} {Q : Exit → Act → World → Prop} (R : Ord.Reg ops moveL) (hQ : ∀ c a w d v, Q (.panic c) (Act.put a (some d) v) w → Q (.panic c) a w) {w1 : World} {p g sw sh : Nat} {line col X Y : Int} {p3 p4 p5 : Value}
    (k0 : ∀ w, w = w1 ∨ w = (w1.setCell ⟨p, 2, none⟩ (.int .i64 X)).setCell ⟨p, 3, none⟩ (.int .i64 Y) → w.cell? ⟨p, 0, none⟩ = some (.int .i64 (sw : Int))) (k1 : ∀ w, w = w1 ∨ w = (w1.setCell ⟨p, 2, none⟩ (.int .i64 X)).setCell ⟨p, 3, none⟩ (.int .i64 Y) → w.cell? ⟨p, 1, none⟩ = some (.slice (some ⟨g, 0, none⟩) sh sh))
    (k2 : ∃ v, w1.cell? ⟨p, 2, none⟩ = some v) (k3 : ∃ v, w1.cell? ⟨p, 3, none⟩ = some v) (f2 : w1.frozen? ⟨p, 2, none⟩ = false) (f3 : w1.frozen? ⟨p, 3, none⟩ = false)
    (hh : IntKind.i64.wrap ((sh : Int) - 1) = ((sh - 1 : Nat) : Int)) (hw : IntKind.i64.wrap ((sw : Int) - 1) = ((sw - 1 : Nat) : Int))
    (CL : ∀ w, Calls Tryz.prog 92 #[.int .i64 line, .int .i64 0, .int .i64 ((sh - 1 : Nat) : Int)] w fun e w' => e = .returned (.int .i64 X) ∧ w = w') (CC : ∀ w, Calls Tryz.prog 92 #[.int .i64 col, .int .i64 0, .int .i64 ((sw - 1 : Nat) : Int)] w fun e w' => e = .returned (.int .i64 Y) ∧ w = w')
    (a : Act) (F : MoveFr p line col p3 p4 p5 a) (h : ∀ a, MoveFr p line col p3 p4 p5 a → Q .normal a ((w1.setCell ⟨p, 2, none⟩ (.int .i64 X)).setCell ⟨p, 3, none⟩ (.int .i64 Y))) :
    wpAnyH Tryz.prog .any ops Q (fun w => w = w1 ∨ w = (w1.setCell ⟨p, 2, none⟩ (.int .i64 X)).setCell ⟨p, 3, none⟩ (.int .i64 Y)) 20 (List.replicate 20 false).toArray a w1 := by
  obtain ⟨v2, k2⟩ := k2
  obtain ⟨v3, k3⟩ := k3
  have hS : w1 = w1 ∨ w1 = (w1.setCell ⟨p, 2, none⟩ (.int .i64 X)).setCell ⟨p, 3, none⟩ (.int .i64 Y) := .inl rfl
  refine Ord.take R (k := 0) (v := .pointer (some ⟨p, 0, none⟩)) (bs' := (Ord.upto 1 20)) rfl (by kernel_rfl) hQ trivial hS (fun w _ hS => Chain.ev_move F.s0.ev) (F.lt (by decide)) fun a0 N => ?_
  replace F := F.next N (by decide)
  have f6 := N.got
  clear N a
  refine Ord.take R (k := 1) (v := .int .i64 line) (bs' := (Ord.upto 2 20)) rfl (by kernel_rfl) hQ trivial hS (fun w _ hS => Chain.ev_move F.s1.ev) (F.lt (by decide)) fun a1 N => ?_
  replace F := F.next N (by decide)
  replace f6 := N.keep 6 _ (by decide) f6
  have f7 := N.got
  clear N a0
  refine Ord.take R (k := 2) (v := .pointer (some ⟨p, 0, none⟩)) (bs' := (Ord.upto 3 20)) rfl (by kernel_rfl) hQ trivial hS (fun w _ hS => Chain.ev_move F.s0.ev) (F.lt (by decide)) fun a2 N => ?_
  replace F := F.next N (by decide)
  replace f6 := N.keep 6 _ (by decide) f6
  replace f7 := N.keep 7 _ (by decide) f7
  have f8 := N.got
  clear N a1
  refine Ord.take R (k := 3) (v := .pointer (some ⟨p, 0, none⟩)) (bs' := (Ord.upto 4 20)) rfl (by kernel_rfl) hQ trivial hS (fun w _ hS => by have e8 := f8; unfold Chain.At at e8; clear F; go_simp) (F.lt (by decide)) fun a3 N => ?_
  replace F := F.next N (by decide)
  replace f6 := N.keep 6 _ (by decide) f6
  replace f7 := N.keep 7 _ (by decide) f7
  clear f8
  have f9 := N.got
  clear N a2
  refine Ord.take R (k := 4) (v := .pointer (some ⟨p, 1, none⟩)) (bs' := (Ord.upto 5 20)) rfl (by kernel_rfl) hQ trivial hS (fun w _ hS => by have e9 := f9; unfold Chain.At at e9; clear F; go_simp) (F.lt (by decide)) fun a4 N => ?_
  replace F := F.next N (by decide)
  replace f6 := N.keep 6 _ (by decide) f6
  replace f7 := N.keep 7 _ (by decide) f7
  clear f9
  have f10 := N.got
  clear N a3
  refine Ord.take R (k := 5) (v := .slice (some ⟨g, 0, none⟩) sh sh) (bs' := (Ord.upto 6 20)) rfl (by kernel_rfl) hQ trivial hS (fun w _ hS => by have e10 := f10; unfold Chain.At at e10; have q0 := (k1 w hS); clear F; go_simp) (F.lt (by decide)) fun a5 N => ?_
  replace F := F.next N (by decide)
  replace f6 := N.keep 6 _ (by decide) f6
  replace f7 := N.keep 7 _ (by decide) f7
  clear f10
  have f11 := N.got
  clear N a4
  refine Ord.take R (k := 6) (v := .int .i64 (sh : Int)) (bs' := (Ord.upto 7 20)) rfl (by kernel_rfl) hQ trivial hS (fun w _ hS => by have e11 := f11; unfold Chain.At at e11; clear F; go_simp) (F.lt (by decide)) fun a6 N => ?_
  replace F := F.next N (by decide)
  replace f6 := N.keep 6 _ (by decide) f6
  replace f7 := N.keep 7 _ (by decide) f7
  clear f11
  have f12 := N.got
  clear N a5
  refine Ord.take R (k := 7) (v := .int .i64 ((sh - 1 : Nat) : Int)) (bs' := (Ord.upto 8 20)) rfl (by kernel_rfl) hQ trivial hS (fun w _ hS => by have e12 := f12; unfold Chain.At at e12; have q0 := hh; clear F; go_simp) (F.lt (by decide)) fun a7 N => ?_
  replace F := F.next N (by decide)
  replace f6 := N.keep 6 _ (by decide) f6
  replace f7 := N.keep 7 _ (by decide) f7
  clear f12
  have f13 := N.got
  clear N a6
  refine Ord.take R (k := 9) (v := .int .i64 col) (bs' := [true, true, true, true, true, true, true, true, false, true, false, false, false, false, false, false, false, false, false, false]) rfl (by kernel_rfl) hQ trivial hS (fun w _ hS => Chain.ev_move F.s2.ev) (F.lt (by decide)) fun a9 N => ?_
  replace F := F.next N (by decide)
  replace f6 := N.keep 6 _ (by decide) f6
  replace f7 := N.keep 7 _ (by decide) f7
  replace f13 := N.keep 13 _ (by decide) f13
  have f15 := N.got
  clear N a7
  refine Ord.take R (k := 10) (v := .pointer (some ⟨p, 0, none⟩)) (bs' := [true, true, true, true, true, true, true, true, false, true, true, false, false, false, false, false, false, false, false, false]) rfl (by kernel_rfl) hQ trivial hS (fun w _ hS => Chain.ev_move F.s0.ev) (F.lt (by decide)) fun a10 N => ?_
  replace F := F.next N (by decide)
  replace f6 := N.keep 6 _ (by decide) f6
  replace f7 := N.keep 7 _ (by decide) f7
  replace f13 := N.keep 13 _ (by decide) f13
  replace f15 := N.keep 15 _ (by decide) f15
  have f16 := N.got
  clear N a9
  refine Ord.take R (k := 11) (v := .pointer (some ⟨p, 0, none⟩)) (bs' := [true, true, true, true, true, true, true, true, false, true, true, true, false, false, false, false, false, false, false, false]) rfl (by kernel_rfl) hQ trivial hS (fun w _ hS => by have e16 := f16; unfold Chain.At at e16; clear F; go_simp) (F.lt (by decide)) fun a11 N => ?_
  replace F := F.next N (by decide)
  replace f6 := N.keep 6 _ (by decide) f6
  replace f7 := N.keep 7 _ (by decide) f7
  replace f13 := N.keep 13 _ (by decide) f13
  replace f15 := N.keep 15 _ (by decide) f15
  clear f16
  have f17 := N.got
  clear N a10
  refine Ord.take R (k := 12) (v := .pointer (some ⟨p, 0, none⟩)) (bs' := [true, true, true, true, true, true, true, true, false, true, true, true, true, false, false, false, false, false, false, false]) rfl (by kernel_rfl) hQ trivial hS (fun w _ hS => by have e17 := f17; unfold Chain.At at e17; clear F; go_simp) (F.lt (by decide)) fun a12 N => ?_
  replace F := F.next N (by decide)
  replace f6 := N.keep 6 _ (by decide) f6
  replace f7 := N.keep 7 _ (by decide) f7
  replace f13 := N.keep 13 _ (by decide) f13
  replace f15 := N.keep 15 _ (by decide) f15
  clear f17
  have f18 := N.got
  clear N a11
  refine Ord.take R (k := 13) (v := .int .i64 (sw : Int)) (bs' := [true, true, true, true, true, true, true, true, false, true, true, true, true, true, false, false, false, false, false, false]) rfl (by kernel_rfl) hQ trivial hS (fun w _ hS => by have e18 := f18; unfold Chain.At at e18; have q0 := (k0 w hS); clear F; go_simp) (F.lt (by decide)) fun a13 N => ?_
  replace F := F.next N (by decide)
  replace f6 := N.keep 6 _ (by decide) f6
  replace f7 := N.keep 7 _ (by decide) f7
  replace f13 := N.keep 13 _ (by decide) f13
  replace f15 := N.keep 15 _ (by decide) f15
  clear f18
  have f19 := N.got
  clear N a12
  refine Ord.take R (k := 14) (v := .int .i64 ((sw - 1 : Nat) : Int)) (bs' := [true, true, true, true, true, true, true, true, false, true, true, true, true, true, true, false, false, false, false, false]) rfl (by kernel_rfl) hQ trivial hS (fun w _ hS => by have e19 := f19; unfold Chain.At at e19; have q0 := hw; clear F; go_simp) (F.lt (by decide)) fun a14 N => ?_
  replace F := F.next N (by decide)
  replace f6 := N.keep 6 _ (by decide) f6
  replace f7 := N.keep 7 _ (by decide) f7
  replace f13 := N.keep 13 _ (by decide) f13
  replace f15 := N.keep 15 _ (by decide) f15
  clear f19
  have f20 := N.got
  clear N a13
  refine Ord.call R (k := 8) (args := #[.int .i64 line, .int .i64 0, .int .i64 ((sh - 1 : Nat) : Int)]) (bs' := (Ord.upto 15 20)) rfl (by kernel_rfl) trivial (by simp [f7.ev, f13.ev, Ord.ev_c]) (by kernel_rfl) (CL _) (F.lt (by decide)) ?_
  rintro e w ⟨rfl, rfl⟩
  replace hS := hS
  refine ⟨_, rfl, hS, fun a8 N => ?_⟩
  replace F := F.next N (by decide)
  replace f6 := N.keep 6 _ (by decide) f6
  clear f7
  clear f13
  replace f15 := N.keep 15 _ (by decide) f15
  replace f20 := N.keep 20 _ (by decide) f20
  have f14 := N.got
  clear N a14
  refine Ord.call R (k := 15) (args := #[.int .i64 col, .int .i64 0, .int .i64 ((sw - 1 : Nat) : Int)]) (bs' := (Ord.upto 16 20)) rfl (by kernel_rfl) trivial (by simp [f15.ev, f20.ev, Ord.ev_c]) (by kernel_rfl) (CC _) (F.lt (by decide)) ?_
  rintro e w ⟨rfl, rfl⟩
  replace hS := hS
  refine ⟨_, rfl, hS, fun a15 N => ?_⟩
  replace F := F.next N (by decide)
  replace f6 := N.keep 6 _ (by decide) f6
  replace f14 := N.keep 14 _ (by decide) f14
  clear f15
  clear f20
  have f21 := N.got
  clear N a8
  refine Ord.take R (k := 16) (v := .agg #[.int .i64 X, .int .i64 Y]) (bs' := (Ord.upto 17 20)) rfl (by kernel_rfl) hQ trivial hS (fun w _ hS => by have e14 := f14; unfold Chain.At at e14; have e21 := f21; unfold Chain.At at e21; clear F; go_simp) (F.lt (by decide)) fun a16 N => ?_
  replace F := F.next N (by decide)
  replace f6 := N.keep 6 _ (by decide) f6
  clear f14
  clear f21
  have f22 := N.got
  clear N a15
  refine Ord.take R (k := 17) (v := .pointer (some ⟨p, 0, none⟩)) (bs' := (Ord.upto 18 20)) rfl (by kernel_rfl) hQ trivial hS (fun w _ hS => by have e6 := f6; unfold Chain.At at e6; clear F; go_simp) (F.lt (by decide)) fun a17 N => ?_
  replace F := F.next N (by decide)
  clear f6
  replace f22 := N.keep 22 _ (by decide) f22
  have f23 := N.got
  clear N a16
  refine Ord.take R (k := 18) (v := .pointer (some ⟨p, 2, none⟩)) (bs' := (Ord.upto 19 20)) rfl (by kernel_rfl) hQ trivial hS (fun w _ hS => by have e23 := f23; unfold Chain.At at e23; clear F; go_simp) (F.lt (by decide)) fun a18 N => ?_
  replace F := F.next N (by decide)
  replace f22 := N.keep 22 _ (by decide) f22
  clear f23
  have f24 := N.got
  clear N a17
  refine Ord.effect R (k := 19) (bs' := (Ord.upto 20 20)) (w1 := (w1.setCell ⟨p, 2, none⟩ (.int .i64 X)).setCell ⟨p, 3, none⟩ (.int .i64 Y)) rfl (by kernel_rfl) trivial (.inr rfl) (fun _ => by have e0 := f22; have e1 := f24; unfold Chain.At at e0 e1; clear F; go_simp) ?_
  exact Ord.finish R (by kernel_rfl) (h _ F)

set_option maxRecDepth 100000 in
/-- The frame written out, its known slots in their places. -/
theorem move_frame {a : Act} {w : World} {K : Act → World → Prop} {v0 v1 v2 v3 v4 v5 : Value} (hz : a.tmps.size = 25) (hd : a.defers = []) (f0 : Chain.At a 0 v0) (f1 : Chain.At a 1 v1) (f2 : Chain.At a 2 v2) (f3 : Chain.At a 3 v3) (f4 : Chain.At a 4 v4) (f5 : Chain.At a 5 v5)
    (h : ∀ u6 u7 u8 u9 u10 u11 u12 u13 u14 u15 u16 u17 u18 u19 u20 u21 u22 u23 u24 : Value, K ⟨#[v0, v1, v2, v3, v4, v5, u6, u7, u8, u9, u10, u11, u12, u13, u14, u15, u16, u17, u18, u19, u20, u21, u22, u23, u24], []⟩ w) : K a w := by
  have e := Ord.frame_out hz hd
  have r : (List.range 25).map (fun i => a.tmps.toList.getD i undef) = [a.tmps.toList.getD 0 undef, a.tmps.toList.getD 1 undef, a.tmps.toList.getD 2 undef, a.tmps.toList.getD 3 undef, a.tmps.toList.getD 4 undef, a.tmps.toList.getD 5 undef, a.tmps.toList.getD 6 undef, a.tmps.toList.getD 7 undef, a.tmps.toList.getD 8 undef, a.tmps.toList.getD 9 undef, a.tmps.toList.getD 10 undef, a.tmps.toList.getD 11 undef, a.tmps.toList.getD 12 undef, a.tmps.toList.getD 13 undef, a.tmps.toList.getD 14 undef, a.tmps.toList.getD 15 undef, a.tmps.toList.getD 16 undef, a.tmps.toList.getD 17 undef, a.tmps.toList.getD 18 undef, a.tmps.toList.getD 19 undef, a.tmps.toList.getD 20 undef, a.tmps.toList.getD 21 undef, a.tmps.toList.getD 22 undef, a.tmps.toList.getD 23 undef, a.tmps.toList.getD 24 undef] := rfl
  rw [r, Ord.at_get f0, Ord.at_get f1, Ord.at_get f2, Ord.at_get f3, Ord.at_get f4, Ord.at_get f5] at e
  rw [e]
  exact h _ _ _ _ _ _ _ _ _ _ _ _ _ _ _ _ _ _ _

def setL : List Ord.Line := [
  (some 5, Go.Op.move (Go.Operand.tmp 0), none, []),
  (some 6, Go.Op.nilCheck (Go.Operand.tmp 5), none, [0]),
  (some 7, Go.Op.fieldAddr 117 (Go.Operand.tmp 6) 1, none, [1]),
  (some 8, Go.Op.load 73 (Go.Operand.tmp 7), none, [2]),
  (some 9, Go.Op.move (Go.Operand.tmp 0), none, []),
  (some 10, Go.Op.nilCheck (Go.Operand.tmp 9), none, [4]),
  (some 11, Go.Op.fieldAddr 117 (Go.Operand.tmp 10) 2, none, [5]),
  (some 12, Go.Op.fieldAddr 79 (Go.Operand.tmp 11) 0, none, [6]),
  (some 13, Go.Op.load 3 (Go.Operand.tmp 12), none, [7]),
  (some 14, Go.Op.move (Go.Operand.tmp 0), none, []),
  (some 15, Go.Op.nilCheck (Go.Operand.tmp 14), none, [9]),
  (some 16, Go.Op.fieldAddr 117 (Go.Operand.tmp 15) 1, none, [10]),
  (some 17, Go.Op.load 73 (Go.Operand.tmp 16), none, [11]),
  (some 18, Go.Op.move (Go.Operand.tmp 0), none, []),
  (some 19, Go.Op.nilCheck (Go.Operand.tmp 18), none, [13]),
  (some 20, Go.Op.fieldAddr 117 (Go.Operand.tmp 19) 2, none, [14]),
  (some 21, Go.Op.fieldAddr 79 (Go.Operand.tmp 20) 0, none, [15]),
  (some 22, Go.Op.load 3 (Go.Operand.tmp 21), none, [16]),
  (some 23, Go.Op.indexAddr 73 (Go.Operand.tmp 17) (Go.Operand.tmp 22), none, [12, 17]),
  (some 24, Go.Op.load 53 (Go.Operand.tmp 23), none, [18]),
  (some 25, Go.Op.move (Go.Operand.tmp 0), none, []),
  (some 26, Go.Op.nilCheck (Go.Operand.tmp 25), none, [20]),
  (some 27, Go.Op.fieldAddr 117 (Go.Operand.tmp 26) 2, none, [21]),
  (some 28, Go.Op.fieldAddr 79 (Go.Operand.tmp 27) 1, none, [22]),
  (some 29, Go.Op.load 3 (Go.Operand.tmp 28), none, [23]),
  (some 30, Go.Op.move (Go.Operand.tmp 1), none, []),
  (some 31, Go.Op.call { callee := Go.Callee.value (Go.Operand.func 33), args := #[Go.Operand.tmp 24, Go.Operand.tmp 29, Go.Operand.tmp 30], argTypes := #[53, 3, 51] }, none, [19, 24, 25]),
  (some 4, Go.Op.move (Go.Operand.tmp 31), none, [26]),
  (some 32, Go.Op.extract (Go.Operand.tmp 4) 0, none, [27]),
  (some 33, Go.Op.extract (Go.Operand.tmp 4) 1, none, [27]),
  (some 34, Go.Op.indexAddr 73 (Go.Operand.tmp 8) (Go.Operand.tmp 13), none, [3, 8, 0, 1, 2, 3, 4, 5, 6, 7, 8, 9, 10, 11, 12, 13, 14, 15, 16, 17, 18, 19, 20, 21, 22, 23, 24, 25, 26, 27, 28]),
  (none, Go.Op.store 53 (Go.Operand.tmp 34) (Go.Operand.tmp 32), none, [30, 28, 26, 0, 1, 2, 3, 4, 5, 6, 7, 8, 9, 10, 11, 12, 13, 14, 15, 16, 17, 18, 19, 20, 21, 22, 23, 24, 25, 26, 27, 28])]

/-- The slots that are known all the way. -/
structure SetFr (p : Nat) (lA : Option Addr) (lm lc : Nat) (p2 p3 : Value) (a : Act) : Prop where
  size : a.tmps.size = 35
  defers : a.defers = []
  s0 : Chain.At a 0 (.pointer (some ⟨p, 0, none⟩))
  s1 : Chain.At a 1 (.slice lA lm lc)
  s2 : Chain.At a 2 (p2)
  s3 : Chain.At a 3 (p3)
theorem SetFr.next {p : Nat} {lA : Option Addr} {lm lc : Nat} {p2 p3 : Value} {a a' : Act} {d : Nat} {v : Value} (F : SetFr p lA lm lc p2 p3 a) (nx : Chain.Next a a' d v) (h : d ≠ 0 ∧ d ≠ 1 ∧ d ≠ 2 ∧ d ≠ 3) : SetFr p lA lm lc p2 p3 a' := ⟨nx.size.trans F.size, nx.defers.trans F.defers, nx.keep 0 _ h.1 F.s0, nx.keep 1 _ h.2.1 F.s1, nx.keep 2 _ h.2.2.1 F.s2, nx.keep 3 _ h.2.2.2 F.s3⟩
theorem SetFr.lt {p : Nat} {lA : Option Addr} {lm lc : Nat} {p2 p3 : Value} {a : Act} {d : Nat} (F : SetFr p lA lm lc p2 p3 a) (h : d < 35) : d < a.tmps.size := by rw [F.size]; exact h

set_option maxRecDepth 100000 in
theorem set_region {ops : Array Oper} {Q : Exit → Act → World → Prop} (R : Ord.Reg ops setL) (hQ : ∀ c a w d v, Q (.panic c) (Act.put a (some d) v) w → Q (.panic c) a w) {w1 : World} {p g sh i c xn xc lm lc : Nat} {xA lA : Option Addr} {xw ok : Bool} {p2 p3 : Value} {K : World → Option Addr → Nat → Nat → Prop}
    (k1 : ∀ w : World, w.heap[p]? = w1.heap[p]? → w.cell? ⟨p, 1, none⟩ = some (.slice (some ⟨g, 0, none⟩) sh sh))
    (k2 : ∀ w : World, w.heap[p]? = w1.heap[p]? → w.cell? ⟨p, 2, none⟩ = some (.int .i64 (i : Int)))
    (k3 : ∀ w : World, w.heap[p]? = w1.heap[p]? → w.cell? ⟨p, 3, none⟩ = some (.int .i64 (c : Int)))
    (hi0 : (0 : Int) ≤ (i : Int)) (hih : (i : Int) < (sh : Int)) (g0 : w1.cell? ⟨g, i * 2, none⟩ = some (.slice xA xn xc)) (g1 : w1.cell? ⟨g, i * 2 + 1, none⟩ = some (.bool xw))
    (SW : Calls Tryz.prog 33 #[.agg #[.slice xA xn xc, .bool xw], .int .i64 (c : Int), .slice lA lm lc] w1 fun e w' => ∃ A n c, e = .returned (.tuple #[.agg #[.slice A n c, .bool xw], .bool ok]) ∧ K w' A n c)
    (KS : ∀ w A n c, K w A n c → w.heap[p]? = w1.heap[p]?) (KG : ∀ w A n c, K w A n c → (∃ v, w.cell? ⟨g, i * 2, none⟩ = some v) ∧ (∃ v, w.cell? ⟨g, i * 2 + 1, none⟩ = some v) ∧ w.frozen? ⟨g, i * 2, none⟩ = false ∧ w.frozen? ⟨g, i * 2 + 1, none⟩ = false)
    (KE : ∀ w A7 n7 c7, K w A7 n7 c7 → ((w.setCell ⟨g, i * 2, none⟩ (.slice A7 n7 c7)).setCell ⟨g, i * 2 + 1, none⟩ (.bool xw)).heap[p]? = w1.heap[p]?)
    (a : Act) (F : SetFr p lA lm lc p2 p3 a) (h : ∀ a w A7 n7 c7, K w A7 n7 c7 → SetFr p lA lm lc p2 p3 a → Q .normal a ((w.setCell ⟨g, i * 2, none⟩ (.slice A7 n7 c7)).setCell ⟨g, i * 2 + 1, none⟩ (.bool xw))) :
    wpAnyH Tryz.prog .any ops Q (fun w => w.heap[p]? = w1.heap[p]?) 32 (List.replicate 32 false).toArray a w1 := by
  have hS : w1.heap[p]? = w1.heap[p]? := rfl
  refine Ord.take R (k := 0) (v := .pointer (some ⟨p, 0, none⟩)) (bs' := (Ord.upto 1 32)) rfl (by kernel_rfl) hQ trivial hS (fun w _ hS => Chain.ev_move F.s0.ev) (F.lt (by decide)) fun a0 N => ?_
  replace F := F.next N (by decide)
  have f5 := N.got
  clear N a
  refine Ord.take R (k := 1) (v := .pointer (some ⟨p, 0, none⟩)) (bs' := (Ord.upto 2 32)) rfl (by kernel_rfl) hQ trivial hS (fun w _ hS => by have e5 := f5; unfold Chain.At at e5; clear F; go_simp) (F.lt (by decide)) fun a1 N => ?_
  replace F := F.next N (by decide)
  clear f5
  have f6 := N.got
  clear N a0
  refine Ord.take R (k := 2) (v := .pointer (some ⟨p, 1, none⟩)) (bs' := (Ord.upto 3 32)) rfl (by kernel_rfl) hQ trivial hS (fun w _ hS => by have e6 := f6; unfold Chain.At at e6; clear F; go_simp) (F.lt (by decide)) fun a2 N => ?_
  replace F := F.next N (by decide)
  clear f6
  have f7 := N.got
  clear N a1
  refine Ord.take R (k := 3) (v := .slice (some ⟨g, 0, none⟩) sh sh) (bs' := (Ord.upto 4 32)) rfl (by kernel_rfl) hQ trivial hS (fun w _ hS => by have e7 := f7; unfold Chain.At at e7; have q0 := (k1 w hS); clear F; go_simp) (F.lt (by decide)) fun a3 N => ?_
  replace F := F.next N (by decide)
  clear f7
  have f8 := N.got
  clear N a2
  refine Ord.take R (k := 4) (v := .pointer (some ⟨p, 0, none⟩)) (bs' := (Ord.upto 5 32)) rfl (by kernel_rfl) hQ trivial hS (fun w _ hS => Chain.ev_move F.s0.ev) (F.lt (by decide)) fun a4 N => ?_
  replace F := F.next N (by decide)
  replace f8 := N.keep 8 _ (by decide) f8
  have f9 := N.got
  clear N a3
  refine Ord.take R (k := 5) (v := .pointer (some ⟨p, 0, none⟩)) (bs' := (Ord.upto 6 32)) rfl (by kernel_rfl) hQ trivial hS (fun w _ hS => by have e9 := f9; unfold Chain.At at e9; clear F; go_simp) (F.lt (by decide)) fun a5 N => ?_
  replace F := F.next N (by decide)
  replace f8 := N.keep 8 _ (by decide) f8
  clear f9
  have f10 := N.got
  clear N a4
  refine Ord.take R (k := 6) (v := .pointer (some ⟨p, 2, none⟩)) (bs' := (Ord.upto 7 32)) rfl (by kernel_rfl) hQ trivial hS (fun w _ hS => by have e10 := f10; unfold Chain.At at e10; clear F; go_simp) (F.lt (by decide)) fun a6 N => ?_
  replace F := F.next N (by decide)
  replace f8 := N.keep 8 _ (by decide) f8
  clear f10
  have f11 := N.got
  clear N a5
  refine Ord.take R (k := 7) (v := .pointer (some ⟨p, 2, none⟩)) (bs' := (Ord.upto 8 32)) rfl (by kernel_rfl) hQ trivial hS (fun w _ hS => by have e11 := f11; unfold Chain.At at e11; clear F; go_simp) (F.lt (by decide)) fun a7 N => ?_
  replace F := F.next N (by decide)
  replace f8 := N.keep 8 _ (by decide) f8
  clear f11
  have f12 := N.got
  clear N a6
  refine Ord.take R (k := 8) (v := .int .i64 (i : Int)) (bs' := (Ord.upto 9 32)) rfl (by kernel_rfl) hQ trivial hS (fun w _ hS => by have e12 := f12; unfold Chain.At at e12; have q0 := (k2 w hS); clear F; go_simp) (F.lt (by decide)) fun a8 N => ?_
  replace F := F.next N (by decide)
  replace f8 := N.keep 8 _ (by decide) f8
  clear f12
  have f13 := N.got
  clear N a7
  refine Ord.take R (k := 9) (v := .pointer (some ⟨p, 0, none⟩)) (bs' := (Ord.upto 10 32)) rfl (by kernel_rfl) hQ trivial hS (fun w _ hS => Chain.ev_move F.s0.ev) (F.lt (by decide)) fun a9 N => ?_
  replace F := F.next N (by decide)
  replace f8 := N.keep 8 _ (by decide) f8
  replace f13 := N.keep 13 _ (by decide) f13
  have f14 := N.got
  clear N a8
  refine Ord.take R (k := 10) (v := .pointer (some ⟨p, 0, none⟩)) (bs' := (Ord.upto 11 32)) rfl (by kernel_rfl) hQ trivial hS (fun w _ hS => by have e14 := f14; unfold Chain.At at e14; clear F; go_simp) (F.lt (by decide)) fun a10 N => ?_
  replace F := F.next N (by decide)
  replace f8 := N.keep 8 _ (by decide) f8
  replace f13 := N.keep 13 _ (by decide) f13
  clear f14
  have f15 := N.got
  clear N a9
  refine Ord.take R (k := 11) (v := .pointer (some ⟨p, 1, none⟩)) (bs' := (Ord.upto 12 32)) rfl (by kernel_rfl) hQ trivial hS (fun w _ hS => by have e15 := f15; unfold Chain.At at e15; clear F; go_simp) (F.lt (by decide)) fun a11 N => ?_
  replace F := F.next N (by decide)
  replace f8 := N.keep 8 _ (by decide) f8
  replace f13 := N.keep 13 _ (by decide) f13
  clear f15
  have f16 := N.got
  clear N a10
  refine Ord.take R (k := 12) (v := .slice (some ⟨g, 0, none⟩) sh sh) (bs' := (Ord.upto 13 32)) rfl (by kernel_rfl) hQ trivial hS (fun w _ hS => by have e16 := f16; unfold Chain.At at e16; have q0 := (k1 w hS); clear F; go_simp) (F.lt (by decide)) fun a12 N => ?_
  replace F := F.next N (by decide)
  replace f8 := N.keep 8 _ (by decide) f8
  replace f13 := N.keep 13 _ (by decide) f13
  clear f16
  have f17 := N.got
  clear N a11
  refine Ord.take R (k := 13) (v := .pointer (some ⟨p, 0, none⟩)) (bs' := (Ord.upto 14 32)) rfl (by kernel_rfl) hQ trivial hS (fun w _ hS => Chain.ev_move F.s0.ev) (F.lt (by decide)) fun a13 N => ?_
  replace F := F.next N (by decide)
  replace f8 := N.keep 8 _ (by decide) f8
  replace f13 := N.keep 13 _ (by decide) f13
  replace f17 := N.keep 17 _ (by decide) f17
  have f18 := N.got
  clear N a12
  refine Ord.take R (k := 14) (v := .pointer (some ⟨p, 0, none⟩)) (bs' := (Ord.upto 15 32)) rfl (by kernel_rfl) hQ trivial hS (fun w _ hS => by have e18 := f18; unfold Chain.At at e18; clear F; go_simp) (F.lt (by decide)) fun a14 N => ?_
  replace F := F.next N (by decide)
  replace f8 := N.keep 8 _ (by decide) f8
  replace f13 := N.keep 13 _ (by decide) f13
  replace f17 := N.keep 17 _ (by decide) f17
  clear f18
  have f19 := N.got
  clear N a13
  refine Ord.take R (k := 15) (v := .pointer (some ⟨p, 2, none⟩)) (bs' := (Ord.upto 16 32)) rfl (by kernel_rfl) hQ trivial hS (fun w _ hS => by have e19 := f19; unfold Chain.At at e19; clear F; go_simp) (F.lt (by decide)) fun a15 N => ?_
  replace F := F.next N (by decide)
  replace f8 := N.keep 8 _ (by decide) f8
  replace f13 := N.keep 13 _ (by decide) f13
  replace f17 := N.keep 17 _ (by decide) f17
  clear f19
  have f20 := N.got
  clear N a14
  refine Ord.take R (k := 16) (v := .pointer (some ⟨p, 2, none⟩)) (bs' := (Ord.upto 17 32)) rfl (by kernel_rfl) hQ trivial hS (fun w _ hS => by have e20 := f20; unfold Chain.At at e20; clear F; go_simp) (F.lt (by decide)) fun a16 N => ?_
  replace F := F.next N (by decide)
  replace f8 := N.keep 8 _ (by decide) f8
  replace f13 := N.keep 13 _ (by decide) f13
  replace f17 := N.keep 17 _ (by decide) f17
  clear f20
  have f21 := N.got
  clear N a15
  refine Ord.take R (k := 17) (v := .int .i64 (i : Int)) (bs' := (Ord.upto 18 32)) rfl (by kernel_rfl) hQ trivial hS (fun w _ hS => by have e21 := f21; unfold Chain.At at e21; have q0 := (k2 w hS); clear F; go_simp) (F.lt (by decide)) fun a17 N => ?_
  replace F := F.next N (by decide)
  replace f8 := N.keep 8 _ (by decide) f8
  replace f13 := N.keep 13 _ (by decide) f13
  replace f17 := N.keep 17 _ (by decide) f17
  clear f21
  have f22 := N.got
  clear N a16
  refine Ord.take R (k := 18) (v := .pointer (some ⟨g, i * 2, none⟩)) (bs' := (Ord.upto 19 32)) rfl (by kernel_rfl) hQ trivial hS (fun w _ hS => by have e17 := f17; unfold Chain.At at e17; have e22 := f22; unfold Chain.At at e22; have q0 := hi0; have q1 := hih; clear F; go_simp) (F.lt (by decide)) fun a18 N => ?_
  replace F := F.next N (by decide)
  replace f8 := N.keep 8 _ (by decide) f8
  replace f13 := N.keep 13 _ (by decide) f13
  clear f17
  clear f22
  have f23 := N.got
  clear N a17
  refine Ord.take R (k := 20) (v := .pointer (some ⟨p, 0, none⟩)) (bs' := [true, true, true, true, true, true, true, true, true, true, true, true, true, true, true, true, true, true, true, false, true, false, false, false, false, false, false, false, false, false, false, false]) rfl (by kernel_rfl) hQ trivial hS (fun w _ hS => Chain.ev_move F.s0.ev) (F.lt (by decide)) fun a20 N => ?_
  replace F := F.next N (by decide)
  replace f8 := N.keep 8 _ (by decide) f8
  replace f13 := N.keep 13 _ (by decide) f13
  replace f23 := N.keep 23 _ (by decide) f23
  have f25 := N.got
  clear N a18
  refine Ord.take R (k := 21) (v := .pointer (some ⟨p, 0, none⟩)) (bs' := [true, true, true, true, true, true, true, true, true, true, true, true, true, true, true, true, true, true, true, false, true, true, false, false, false, false, false, false, false, false, false, false]) rfl (by kernel_rfl) hQ trivial hS (fun w _ hS => by have e25 := f25; unfold Chain.At at e25; clear F; go_simp) (F.lt (by decide)) fun a21 N => ?_
  replace F := F.next N (by decide)
  replace f8 := N.keep 8 _ (by decide) f8
  replace f13 := N.keep 13 _ (by decide) f13
  replace f23 := N.keep 23 _ (by decide) f23
  clear f25
  have f26 := N.got
  clear N a20
  refine Ord.take R (k := 22) (v := .pointer (some ⟨p, 2, none⟩)) (bs' := [true, true, true, true, true, true, true, true, true, true, true, true, true, true, true, true, true, true, true, false, true, true, true, false, false, false, false, false, false, false, false, false]) rfl (by kernel_rfl) hQ trivial hS (fun w _ hS => by have e26 := f26; unfold Chain.At at e26; clear F; go_simp) (F.lt (by decide)) fun a22 N => ?_
  replace F := F.next N (by decide)
  replace f8 := N.keep 8 _ (by decide) f8
  replace f13 := N.keep 13 _ (by decide) f13
  replace f23 := N.keep 23 _ (by decide) f23
  clear f26
  have f27 := N.got
  clear N a21
  refine Ord.take R (k := 23) (v := .pointer (some ⟨p, 3, none⟩)) (bs' := [true, true, true, true, true, true, true, true, true, true, true, true, true, true, true, true, true, true, true, false, true, true, true, true, false, false, false, false, false, false, false, false]) rfl (by kernel_rfl) hQ trivial hS (fun w _ hS => by have e27 := f27; unfold Chain.At at e27; clear F; go_simp) (F.lt (by decide)) fun a23 N => ?_
  replace F := F.next N (by decide)
  replace f8 := N.keep 8 _ (by decide) f8
  replace f13 := N.keep 13 _ (by decide) f13
  replace f23 := N.keep 23 _ (by decide) f23
  clear f27
  have f28 := N.got
  clear N a22
  refine Ord.take R (k := 24) (v := .int .i64 (c : Int)) (bs' := [true, true, true, true, true, true, true, true, true, true, true, true, true, true, true, true, true, true, true, false, true, true, true, true, true, false, false, false, false, false, false, false]) rfl (by kernel_rfl) hQ trivial hS (fun w _ hS => by have e28 := f28; unfold Chain.At at e28; have q0 := (k3 w hS); clear F; go_simp) (F.lt (by decide)) fun a24 N => ?_
  replace F := F.next N (by decide)
  replace f8 := N.keep 8 _ (by decide) f8
  replace f13 := N.keep 13 _ (by decide) f13
  replace f23 := N.keep 23 _ (by decide) f23
  clear f28
  have f29 := N.got
  clear N a23
  refine Ord.take R (k := 25) (v := .slice lA lm lc) (bs' := [true, true, true, true, true, true, true, true, true, true, true, true, true, true, true, true, true, true, true, false, true, true, true, true, true, true, false, false, false, false, false, false]) rfl (by kernel_rfl) hQ trivial hS (fun w _ hS => Chain.ev_move F.s1.ev) (F.lt (by decide)) fun a25 N => ?_
  replace F := F.next N (by decide)
  replace f8 := N.keep 8 _ (by decide) f8
  replace f13 := N.keep 13 _ (by decide) f13
  replace f23 := N.keep 23 _ (by decide) f23
  replace f29 := N.keep 29 _ (by decide) f29
  have f30 := N.got
  clear N a24
  refine Ord.value R (k := 19) (v := .agg #[.slice xA xn xc, .bool xw]) (bs' := (Ord.upto 26 32)) rfl (by kernel_rfl) trivial hS (fun _ => by have e23 := f23; unfold Chain.At at e23; have q0 := g0; have q1 := g1; clear F; go_simp) (F.lt (by decide)) fun a19 N => ?_
  replace F := F.next N (by decide)
  replace f8 := N.keep 8 _ (by decide) f8
  replace f13 := N.keep 13 _ (by decide) f13
  clear f23
  replace f29 := N.keep 29 _ (by decide) f29
  replace f30 := N.keep 30 _ (by decide) f30
  have f24 := N.got
  clear N a25
  refine Ord.call R (k := 26) (args := #[.agg #[.slice xA xn xc, .bool xw], .int .i64 (c : Int), .slice lA lm lc]) (bs' := (Ord.upto 27 32)) rfl (by kernel_rfl) trivial (by simp [f24.ev, f29.ev, f30.ev]) (by kernel_rfl) (SW) (F.lt (by decide)) ?_
  rintro e w ⟨A7, n7, c7, rfl, K7⟩
  replace hS := KS w A7 n7 c7 K7
  refine ⟨_, rfl, hS, fun a26 N => ?_⟩
  replace F := F.next N (by decide)
  replace f8 := N.keep 8 _ (by decide) f8
  replace f13 := N.keep 13 _ (by decide) f13
  clear f24
  clear f29
  clear f30
  have f31 := N.got
  clear N a19
  refine Ord.take R (k := 27) (v := .tuple #[.agg #[.slice A7 n7 c7, .bool xw], .bool ok]) (bs' := (Ord.upto 28 32)) rfl (by kernel_rfl) hQ trivial hS (fun w _ hS => Chain.ev_move f31.ev) (F.lt (by decide)) fun a27 N => ?_
  replace F := F.next N (by decide)
  replace f8 := N.keep 8 _ (by decide) f8
  replace f13 := N.keep 13 _ (by decide) f13
  clear f31
  have f4 := N.got
  clear N a26
  refine Ord.take R (k := 28) (v := .agg #[.slice A7 n7 c7, .bool xw]) (bs' := (Ord.upto 29 32)) rfl (by kernel_rfl) hQ trivial hS (fun w _ hS => by have e4 := f4; unfold Chain.At at e4; clear F; go_simp) (F.lt (by decide)) fun a28 N => ?_
  replace F := F.next N (by decide)
  replace f4 := N.keep 4 _ (by decide) f4
  replace f8 := N.keep 8 _ (by decide) f8
  replace f13 := N.keep 13 _ (by decide) f13
  have f32 := N.got
  clear N a27
  refine Ord.take R (k := 29) (v := .bool ok) (bs' := (Ord.upto 30 32)) rfl (by kernel_rfl) hQ trivial hS (fun w _ hS => by have e4 := f4; unfold Chain.At at e4; clear F; go_simp) (F.lt (by decide)) fun a29 N => ?_
  replace F := F.next N (by decide)
  clear f4
  replace f8 := N.keep 8 _ (by decide) f8
  replace f13 := N.keep 13 _ (by decide) f13
  replace f32 := N.keep 32 _ (by decide) f32
  clear N a28
  refine Ord.take R (k := 30) (v := .pointer (some ⟨g, i * 2, none⟩)) (bs' := (Ord.upto 31 32)) rfl (by kernel_rfl) hQ trivial hS (fun w _ hS => by have e8 := f8; unfold Chain.At at e8; have e13 := f13; unfold Chain.At at e13; have q0 := hi0; have q1 := hih; clear F; go_simp) (F.lt (by decide)) fun a30 N => ?_
  replace F := F.next N (by decide)
  clear f8
  clear f13
  replace f32 := N.keep 32 _ (by decide) f32
  have f34 := N.got
  clear N a29
  obtain ⟨⟨v0, q0⟩, ⟨v1, q1⟩, q2, q3⟩ := KG w A7 n7 c7 K7
  refine Ord.effect R (k := 31) (bs' := (Ord.upto 32 32)) (w1 := (w.setCell ⟨g, i * 2, none⟩ (.slice A7 n7 c7)).setCell ⟨g, i * 2 + 1, none⟩ (.bool xw)) rfl (by kernel_rfl) trivial (KE w A7 n7 c7 K7) (fun _ => by have e0 := f32; have e1 := f34; unfold Chain.At at e0 e1; clear F; go_simp) ?_
  exact Ord.finish R (by kernel_rfl) (h _ _ _ _ _ K7 F)

set_option maxRecDepth 100000 in
/-- The frame written out, its known slots in their places. -/
theorem set_frame {a : Act} {w : World} {K : Act → World → Prop} {v0 v1 v2 v3 : Value} (hz : a.tmps.size = 35) (hd : a.defers = []) (f0 : Chain.At a 0 v0) (f1 : Chain.At a 1 v1) (f2 : Chain.At a 2 v2) (f3 : Chain.At a 3 v3)
    (h : ∀ u4 u5 u6 u7 u8 u9 u10 u11 u12 u13 u14 u15 u16 u17 u18 u19 u20 u21 u22 u23 u24 u25 u26 u27 u28 u29 u30 u31 u32 u33 u34 : Value, K ⟨#[v0, v1, v2, v3, u4, u5, u6, u7, u8, u9, u10, u11, u12, u13, u14, u15, u16, u17, u18, u19, u20, u21, u22, u23, u24, u25, u26, u27, u28, u29, u30, u31, u32, u33, u34], []⟩ w) : K a w := by
  have e := Ord.frame_out hz hd
  have r : (List.range 35).map (fun i => a.tmps.toList.getD i undef) = [a.tmps.toList.getD 0 undef, a.tmps.toList.getD 1 undef, a.tmps.toList.getD 2 undef, a.tmps.toList.getD 3 undef, a.tmps.toList.getD 4 undef, a.tmps.toList.getD 5 undef, a.tmps.toList.getD 6 undef, a.tmps.toList.getD 7 undef, a.tmps.toList.getD 8 undef, a.tmps.toList.getD 9 undef, a.tmps.toList.getD 10 undef, a.tmps.toList.getD 11 undef, a.tmps.toList.getD 12 undef, a.tmps.toList.getD 13 undef, a.tmps.toList.getD 14 undef, a.tmps.toList.getD 15 undef, a.tmps.toList.getD 16 undef, a.tmps.toList.getD 17 undef, a.tmps.toList.getD 18 undef, a.tmps.toList.getD 19 undef, a.tmps.toList.getD 20 undef, a.tmps.toList.getD 21 undef, a.tmps.toList.getD 22 undef, a.tmps.toList.getD 23 undef, a.tmps.toList.getD 24 undef, a.tmps.toList.getD 25 undef, a.tmps.toList.getD 26 undef, a.tmps.toList.getD 27 undef, a.tmps.toList.getD 28 undef, a.tmps.toList.getD 29 undef, a.tmps.toList.getD 30 undef, a.tmps.toList.getD 31 undef, a.tmps.toList.getD 32 undef, a.tmps.toList.getD 33 undef, a.tmps.toList.getD 34 undef] := rfl
  rw [r, Ord.at_get f0, Ord.at_get f1, Ord.at_get f2, Ord.at_get f3] at e
  rw [e]
  exact h _ _ _ _ _ _ _ _ _ _ _ _ _ _ _ _ _ _ _ _ _ _ _ _ _ _ _ _ _ _ _

def downL : List Ord.Line := [
  (some 31, Go.Op.move (Go.Operand.tmp 0), none, []),
  (some 32, Go.Op.move (Go.Operand.tmp 0), none, []),
  (some 33, Go.Op.nilCheck (Go.Operand.tmp 32), none, [1]),
  (some 34, Go.Op.fieldAddr 117 (Go.Operand.tmp 33) 1, none, [2]),
  (some 35, Go.Op.load 73 (Go.Operand.tmp 34), none, [3]),
  (some 36, Go.Op.call { callee := Go.Callee.value (Go.Operand.func 141), args := #[Go.Operand.tmp 35, Go.Operand.const (Go.Value.int Go.IntKind.i64 0), Go.Operand.const (Go.Value.int Go.IntKind.i64 1)], argTypes := #[73, 3, 3] }, none, [4]),
  (some 37, Go.Op.move (Go.Operand.tmp 0), none, []),
  (some 38, Go.Op.nilCheck (Go.Operand.tmp 37), none, [6]),
  (some 39, Go.Op.fieldAddr 117 (Go.Operand.tmp 38) 0, none, [7]),
  (some 40, Go.Op.load 3 (Go.Operand.tmp 39), none, [8]),
  (some 41, Go.Op.call { callee := Go.Callee.value (Go.Operand.func 38), args := #[Go.Operand.tmp 40], argTypes := #[3] }, none, [9, 5]),
  (some 42, Go.Op.buildSlice 73 1 #[(0, Go.Operand.tmp 41)], none, [10]),
  (some 43, Go.Op.call { callee := Go.Callee.builtin Go.Builtin.append, args := #[Go.Operand.tmp 36, Go.Operand.tmp 42], argTypes := #[73, 73] }, none, [5, 11, 10]),
  (some 44, Go.Op.nilCheck (Go.Operand.tmp 31), none, [0, 0, 1, 2, 3, 4, 5, 6, 7, 8, 9, 10, 11, 12]),
  (some 45, Go.Op.fieldAddr 117 (Go.Operand.tmp 44) 1, none, [13, 0, 1, 2, 3, 4, 5, 6, 7, 8, 9, 10, 11, 12]),
  (none, Go.Op.store 73 (Go.Operand.tmp 45) (Go.Operand.tmp 43), none, [14, 12, 12, 0, 1, 2, 3, 4, 5, 6, 7, 8, 9, 10, 11, 12])]

/-- The slots that are known all the way. -/
structure DownFr (p : Nat) (p3 : Value) (a : Act) : Prop where
  size : a.tmps.size = 48
  defers : a.defers = []
  s0 : Chain.At a 0 (.pointer (some ⟨p, 0, none⟩))
  s3 : Chain.At a 3 (p3)
theorem DownFr.next {p : Nat} {p3 : Value} {a a' : Act} {d : Nat} {v : Value} (F : DownFr p p3 a) (nx : Chain.Next a a' d v) (h : d ≠ 0 ∧ d ≠ 3) : DownFr p p3 a' := ⟨nx.size.trans F.size, nx.defers.trans F.defers, nx.keep 0 _ h.1 F.s0, nx.keep 3 _ h.2 F.s3⟩
theorem DownFr.lt {p : Nat} {p3 : Value} {a : Act} {d : Nat} (F : DownFr p p3 a) (h : d < 48) : d < a.tmps.size := by rw [F.size]; exact h

set_option maxRecDepth 100000 in
theorem down_region {ops : Array Oper} {Q : Exit → Act → World → Prop} (R : Ord.Reg ops downL) (hQ : ∀ c a w d v, Q (.panic c) (Act.put a (some d) v) w → Q (.panic c) a w) {w1 : World} {p g q sw : Nat} {p3 : Value} {P1 : World → Prop} {P2 : World → Option Addr → Nat → Nat → Prop}
    (k1 : ∀ w : World, w.heap[p]? = w1.heap[p]? → w.cell? ⟨p, 1, none⟩ = some (.slice (some ⟨g, 0, none⟩) (q + 1) (q + 1)))
    (k0 : ∀ w : World, w.heap[p]? = w1.heap[p]? → w.cell? ⟨p, 0, none⟩ = some (.int .i64 (sw : Int)))
    (DEL : Calls Tryz.prog 141 #[.slice (some ⟨g, 0, none⟩) (q + 1) (q + 1), .int .i64 0, .int .i64 1] w1 fun e w' => e = .returned (.slice (some ⟨g, 0, none⟩) q (q + 1)) ∧ P1 w')
    (BLK : ∀ w, P1 w → Calls Tryz.prog 38 #[.int .i64 (sw : Int)] w fun e w' => ∃ A n c, e = .returned (.agg #[.slice A n c, .bool false]) ∧ P2 w' A n c)
    (KA : ∀ w A7 n7 c7, P2 w A7 n7 c7 → (∃ v, (w.alloc (.cells #[.slice A7 n7 c7, .bool false] 53)).cell? ⟨g, q * 2, none⟩ = some v) ∧ (∃ v, (w.alloc (.cells #[.slice A7 n7 c7, .bool false] 53)).cell? ⟨g, q * 2 + 1, none⟩ = some v) ∧ (w.alloc (.cells #[.slice A7 n7 c7, .bool false] 53)).frozen? ⟨g, q * 2, none⟩ = false ∧ (w.alloc (.cells #[.slice A7 n7 c7, .bool false] 53)).frozen? ⟨g, q * 2 + 1, none⟩ = false)
    (KS1 : ∀ w, P1 w → w.heap[p]? = w1.heap[p]?) (KS2 : ∀ w A n c, P2 w A n c → w.heap[p]? = w1.heap[p]?) (KS3 : ∀ w A n c, P2 w A n c → (w.alloc (.cells #[.slice A n c, .bool false] 53)).heap[p]? = w1.heap[p]?) (KS4 : ∀ w A7 n7 c7, P2 w A7 n7 c7 → (((w.alloc (.cells #[.slice A7 n7 c7, .bool false] 53)).setCell ⟨g, q * 2, none⟩ (.slice A7 n7 c7)).setCell ⟨g, q * 2 + 1, none⟩ (.bool false)).heap[p]? = w1.heap[p]?) (KF : ∀ w A7 n7 c7, P2 w A7 n7 c7 → (((w.alloc (.cells #[.slice A7 n7 c7, .bool false] 53)).setCell ⟨g, q * 2, none⟩ (.slice A7 n7 c7)).setCell ⟨g, q * 2 + 1, none⟩ (.bool false)).frozen? ⟨p, 1, none⟩ = false)
    (KE : ∀ w A7 n7 c7, P2 w A7 n7 c7 → ((((w.alloc (.cells #[.slice A7 n7 c7, .bool false] 53)).setCell ⟨g, q * 2, none⟩ (.slice A7 n7 c7)).setCell ⟨g, q * 2 + 1, none⟩ (.bool false)).setCell ⟨p, 1, none⟩ (.slice (some ⟨g, 0, none⟩) (q + 1) (q + 1))).heap[p]? = w1.heap[p]?)
    (a : Act) (F : DownFr p p3 a) (h : ∀ a w A7 n7 c7, P2 w A7 n7 c7 → DownFr p p3 a → Q .normal a ((((w.alloc (.cells #[.slice A7 n7 c7, .bool false] 53)).setCell ⟨g, q * 2, none⟩ (.slice A7 n7 c7)).setCell ⟨g, q * 2 + 1, none⟩ (.bool false)).setCell ⟨p, 1, none⟩ (.slice (some ⟨g, 0, none⟩) (q + 1) (q + 1)))) :
    wpAnyH Tryz.prog .any ops Q (fun w => w.heap[p]? = w1.heap[p]?) 16 (List.replicate 16 false).toArray a w1 := by
  have hS : w1.heap[p]? = w1.heap[p]? := rfl
  refine Ord.take R (k := 0) (v := .pointer (some ⟨p, 0, none⟩)) (bs' := (Ord.upto 1 16)) rfl (by kernel_rfl) hQ trivial hS (fun w _ hS => Chain.ev_move F.s0.ev) (F.lt (by decide)) fun a0 N => ?_
  replace F := F.next N (by decide)
  have f31 := N.got
  clear N a
  refine Ord.take R (k := 1) (v := .pointer (some ⟨p, 0, none⟩)) (bs' := (Ord.upto 2 16)) rfl (by kernel_rfl) hQ trivial hS (fun w _ hS => Chain.ev_move F.s0.ev) (F.lt (by decide)) fun a1 N => ?_
  replace F := F.next N (by decide)
  replace f31 := N.keep 31 _ (by decide) f31
  have f32 := N.got
  clear N a0
  refine Ord.take R (k := 2) (v := .pointer (some ⟨p, 0, none⟩)) (bs' := (Ord.upto 3 16)) rfl (by kernel_rfl) hQ trivial hS (fun w _ hS => by have e32 := f32; unfold Chain.At at e32; clear F; go_simp) (F.lt (by decide)) fun a2 N => ?_
  replace F := F.next N (by decide)
  replace f31 := N.keep 31 _ (by decide) f31
  clear f32
  have f33 := N.got
  clear N a1
  refine Ord.take R (k := 3) (v := .pointer (some ⟨p, 1, none⟩)) (bs' := (Ord.upto 4 16)) rfl (by kernel_rfl) hQ trivial hS (fun w _ hS => by have e33 := f33; unfold Chain.At at e33; clear F; go_simp) (F.lt (by decide)) fun a3 N => ?_
  replace F := F.next N (by decide)
  replace f31 := N.keep 31 _ (by decide) f31
  clear f33
  have f34 := N.got
  clear N a2
  refine Ord.take R (k := 4) (v := .slice (some ⟨g, 0, none⟩) (q + 1) (q + 1)) (bs' := (Ord.upto 5 16)) rfl (by kernel_rfl) hQ trivial hS (fun w _ hS => by have e34 := f34; unfold Chain.At at e34; have q0 := (k1 w hS); clear F; go_simp) (F.lt (by decide)) fun a4 N => ?_
  replace F := F.next N (by decide)
  replace f31 := N.keep 31 _ (by decide) f31
  clear f34
  have f35 := N.got
  clear N a3
  refine Ord.take R (k := 6) (v := .pointer (some ⟨p, 0, none⟩)) (bs' := [true, true, true, true, true, false, true, false, false, false, false, false, false, false, false, false]) rfl (by kernel_rfl) hQ trivial hS (fun w _ hS => Chain.ev_move F.s0.ev) (F.lt (by decide)) fun a6 N => ?_
  replace F := F.next N (by decide)
  replace f31 := N.keep 31 _ (by decide) f31
  replace f35 := N.keep 35 _ (by decide) f35
  have f37 := N.got
  clear N a4
  refine Ord.take R (k := 7) (v := .pointer (some ⟨p, 0, none⟩)) (bs' := [true, true, true, true, true, false, true, true, false, false, false, false, false, false, false, false]) rfl (by kernel_rfl) hQ trivial hS (fun w _ hS => by have e37 := f37; unfold Chain.At at e37; clear F; go_simp) (F.lt (by decide)) fun a7 N => ?_
  replace F := F.next N (by decide)
  replace f31 := N.keep 31 _ (by decide) f31
  replace f35 := N.keep 35 _ (by decide) f35
  clear f37
  have f38 := N.got
  clear N a6
  refine Ord.take R (k := 8) (v := .pointer (some ⟨p, 0, none⟩)) (bs' := [true, true, true, true, true, false, true, true, true, false, false, false, false, false, false, false]) rfl (by kernel_rfl) hQ trivial hS (fun w _ hS => by have e38 := f38; unfold Chain.At at e38; clear F; go_simp) (F.lt (by decide)) fun a8 N => ?_
  replace F := F.next N (by decide)
  replace f31 := N.keep 31 _ (by decide) f31
  replace f35 := N.keep 35 _ (by decide) f35
  clear f38
  have f39 := N.got
  clear N a7
  refine Ord.take R (k := 9) (v := .int .i64 (sw : Int)) (bs' := [true, true, true, true, true, false, true, true, true, true, false, false, false, false, false, false]) rfl (by kernel_rfl) hQ trivial hS (fun w _ hS => by have e39 := f39; unfold Chain.At at e39; have q0 := (k0 w hS); clear F; go_simp) (F.lt (by decide)) fun a9 N => ?_
  replace F := F.next N (by decide)
  replace f31 := N.keep 31 _ (by decide) f31
  replace f35 := N.keep 35 _ (by decide) f35
  clear f39
  have f40 := N.got
  clear N a8
  refine Ord.call R (k := 5) (args := #[.slice (some ⟨g, 0, none⟩) (q + 1) (q + 1), .int .i64 0, .int .i64 1]) (bs' := (Ord.upto 10 16)) rfl (by kernel_rfl) trivial (by simp [f35.ev, Ord.ev_c]) (by kernel_rfl) (DEL) (F.lt (by decide)) ?_
  rintro e w ⟨rfl, K1⟩
  replace hS := KS1 w K1
  refine ⟨_, rfl, hS, fun a5 N => ?_⟩
  replace F := F.next N (by decide)
  replace f31 := N.keep 31 _ (by decide) f31
  clear f35
  replace f40 := N.keep 40 _ (by decide) f40
  have f36 := N.got
  clear N a9
  refine Ord.call R (k := 10) (args := #[.int .i64 (sw : Int)]) (bs' := (Ord.upto 11 16)) rfl (by kernel_rfl) trivial (by simp [f40.ev]) (by kernel_rfl) (BLK w K1) (F.lt (by decide)) ?_
  rintro e w ⟨A7, n7, c7, rfl, K2⟩
  replace hS := KS2 w A7 n7 c7 K2
  refine ⟨_, rfl, hS, fun a10 N => ?_⟩
  replace F := F.next N (by decide)
  replace f31 := N.keep 31 _ (by decide) f31
  replace f36 := N.keep 36 _ (by decide) f36
  clear f40
  have f41 := N.got
  clear N a5
  obtain ⟨b, hb⟩ : ∃ b, w.heap.size = b := ⟨_, rfl⟩
  refine Ord.value R (k := 11) (v := .slice (some ⟨b, 0, none⟩) 1 1) (w1 := w.alloc (.cells #[.slice A7 n7 c7, .bool false] 53)) (bs' := (Ord.upto 12 16)) rfl (by kernel_rfl) trivial (KS3 w A7 n7 c7 K2) (fun _ => by have e0 := f41; unfold Chain.At at e0; subst hb; clear F; go_simp) (F.lt (by decide)) fun a11 N => ?_
  replace hS := KS3 w A7 n7 c7 K2
  replace F := F.next N (by decide)
  replace f31 := N.keep 31 _ (by decide) f31
  replace f36 := N.keep 36 _ (by decide) f36
  clear f41
  have f42 := N.got
  clear N a10
  obtain ⟨⟨v0, q0⟩, ⟨v1, q1⟩, q2, q3⟩ := KA w A7 n7 c7 K2
  refine Ord.value R (k := 12) (v := .slice (some ⟨g, 0, none⟩) (q + 1) (q + 1)) (w1 := ((w.alloc (.cells #[.slice A7 n7 c7, .bool false] 53)).setCell ⟨g, q * 2, none⟩ (.slice A7 n7 c7)).setCell ⟨g, q * 2 + 1, none⟩ (.bool false)) (bs' := (Ord.upto 13 16)) rfl (by kernel_rfl) trivial (KS4 w A7 n7 c7 K2) (fun ty => by have e0 := f36; have e1 := f42; unfold Chain.At at e0 e1; subst hb; clear F; go_simp) (F.lt (by decide)) fun a12 N => ?_
  replace hS := KS4 w A7 n7 c7 K2
  have q4 := k1 _ hS
  have q5 := KF w A7 n7 c7 K2
  clear q0 q1 q2 q3
  replace F := F.next N (by decide)
  replace f31 := N.keep 31 _ (by decide) f31
  clear f36
  clear f42
  have f43 := N.got
  clear N a11
  refine Ord.take R (k := 13) (v := .pointer (some ⟨p, 0, none⟩)) (bs' := (Ord.upto 14 16)) rfl (by kernel_rfl) hQ trivial hS (fun w _ hS => by have e31 := f31; unfold Chain.At at e31; clear F; go_simp) (F.lt (by decide)) fun a13 N => ?_
  replace F := F.next N (by decide)
  clear f31
  replace f43 := N.keep 43 _ (by decide) f43
  have f44 := N.got
  clear N a12
  refine Ord.take R (k := 14) (v := .pointer (some ⟨p, 1, none⟩)) (bs' := (Ord.upto 15 16)) rfl (by kernel_rfl) hQ trivial hS (fun w _ hS => by have e44 := f44; unfold Chain.At at e44; clear F; go_simp) (F.lt (by decide)) fun a14 N => ?_
  replace F := F.next N (by decide)
  replace f43 := N.keep 43 _ (by decide) f43
  clear f44
  have f45 := N.got
  clear N a13
  refine Ord.effect R (k := 15) (bs' := (Ord.upto 16 16)) (w1 := (((w.alloc (.cells #[.slice A7 n7 c7, .bool false] 53)).setCell ⟨g, q * 2, none⟩ (.slice A7 n7 c7)).setCell ⟨g, q * 2 + 1, none⟩ (.bool false)).setCell ⟨p, 1, none⟩ (.slice (some ⟨g, 0, none⟩) (q + 1) (q + 1))) rfl (by kernel_rfl) trivial (KE w A7 n7 c7 K2) (fun _ => by have e0 := f43; have e1 := f45; unfold Chain.At at e0 e1; clear F; go_simp) ?_
  exact Ord.finish R (by kernel_rfl) (h _ _ _ _ _ K2 F)

set_option maxRecDepth 100000 in
/-- The frame written out, its known slots in their places. -/
theorem down_frame {a : Act} {w : World} {K : Act → World → Prop} {v0 v3 : Value} (hz : a.tmps.size = 48) (hd : a.defers = []) (f0 : Chain.At a 0 v0) (f3 : Chain.At a 3 v3)
    (h : ∀ u1 u2 u4 u5 u6 u7 u8 u9 u10 u11 u12 u13 u14 u15 u16 u17 u18 u19 u20 u21 u22 u23 u24 u25 u26 u27 u28 u29 u30 u31 u32 u33 u34 u35 u36 u37 u38 u39 u40 u41 u42 u43 u44 u45 u46 u47 : Value, K ⟨#[v0, u1, u2, v3, u4, u5, u6, u7, u8, u9, u10, u11, u12, u13, u14, u15, u16, u17, u18, u19, u20, u21, u22, u23, u24, u25, u26, u27, u28, u29, u30, u31, u32, u33, u34, u35, u36, u37, u38, u39, u40, u41, u42, u43, u44, u45, u46, u47], []⟩ w) : K a w := by
  have e := Ord.frame_out hz hd
  have r : (List.range 48).map (fun i => a.tmps.toList.getD i undef) = [a.tmps.toList.getD 0 undef, a.tmps.toList.getD 1 undef, a.tmps.toList.getD 2 undef, a.tmps.toList.getD 3 undef, a.tmps.toList.getD 4 undef, a.tmps.toList.getD 5 undef, a.tmps.toList.getD 6 undef, a.tmps.toList.getD 7 undef, a.tmps.toList.getD 8 undef, a.tmps.toList.getD 9 undef, a.tmps.toList.getD 10 undef, a.tmps.toList.getD 11 undef, a.tmps.toList.getD 12 undef, a.tmps.toList.getD 13 undef, a.tmps.toList.getD 14 undef, a.tmps.toList.getD 15 undef, a.tmps.toList.getD 16 undef, a.tmps.toList.getD 17 undef, a.tmps.toList.getD 18 undef, a.tmps.toList.getD 19 undef, a.tmps.toList.getD 20 undef, a.tmps.toList.getD 21 undef, a.tmps.toList.getD 22 undef, a.tmps.toList.getD 23 undef, a.tmps.toList.getD 24 undef, a.tmps.toList.getD 25 undef, a.tmps.toList.getD 26 undef, a.tmps.toList.getD 27 undef, a.tmps.toList.getD 28 undef, a.tmps.toList.getD 29 undef, a.tmps.toList.getD 30 undef, a.tmps.toList.getD 31 undef, a.tmps.toList.getD 32 undef, a.tmps.toList.getD 33 undef, a.tmps.toList.getD 34 undef, a.tmps.toList.getD 35 undef, a.tmps.toList.getD 36 undef, a.tmps.toList.getD 37 undef, a.tmps.toList.getD 38 undef, a.tmps.toList.getD 39 undef, a.tmps.toList.getD 40 undef, a.tmps.toList.getD 41 undef, a.tmps.toList.getD 42 undef, a.tmps.toList.getD 43 undef, a.tmps.toList.getD 44 undef, a.tmps.toList.getD 45 undef, a.tmps.toList.getD 46 undef, a.tmps.toList.getD 47 undef] := rfl
  rw [r, Ord.at_get f0, Ord.at_get f3] at e
  rw [e]
  exact h _ _ _ _ _ _ _ _ _ _ _ _ _ _ _ _ _ _ _ _ _ _ _ _ _ _ _ _ _ _ _ _ _ _ _ _ _ _ _ _ _ _ _ _ _ _

def ofOps : List Ord.Line := [
  (some 57, Go.Op.move (Go.Operand.tmp 11), none, []),
  (some 58, Go.Op.fieldAddr 79 (Go.Operand.tmp 8) 0, none, []),
  (some 59, Go.Op.load 3 (Go.Operand.tmp 58), none, [1]),
  (some 60, Go.Op.move (Go.Operand.tmp 2), none, []),
  (some 61, Go.Op.binOp Go.BinOp.sub 3 (Go.Operand.tmp 60) (Go.Operand.const (Go.Value.int Go.IntKind.i64 1)) 3, none, [3]),
  (some 62, Go.Op.call { callee := Go.Callee.value (Go.Operand.func 92), args := #[Go.Operand.tmp 59, Go.Operand.const (Go.Value.int Go.IntKind.i64 0), Go.Operand.tmp 61], argTypes := #[3, 3, 3] }, none, [2, 4]),
  (some 63, Go.Op.fieldAddr 79 (Go.Operand.tmp 8) 1, none, []),
  (some 64, Go.Op.load 3 (Go.Operand.tmp 63), none, [6]),
  (some 65, Go.Op.move (Go.Operand.tmp 1), none, []),
  (some 66, Go.Op.call { callee := Go.Callee.value (Go.Operand.func 92), args := #[Go.Operand.tmp 64, Go.Operand.const (Go.Value.int Go.IntKind.i64 0), Go.Operand.tmp 65], argTypes := #[3, 3, 3] }, none, [7, 8, 5]),
  (some 67, Go.Op.build 79 #[(0, Go.Operand.tmp 62), (1, Go.Operand.tmp 66)], none, [5, 9]),
  (some 68, Go.Op.nilCheck (Go.Operand.tmp 57), none, [0, 0, 1, 2, 3, 4, 5, 6, 7, 8, 9, 10]),
  (some 69, Go.Op.fieldAddr 117 (Go.Operand.tmp 68) 2, none, [11, 0, 1, 2, 3, 4, 5, 6, 7, 8, 9, 10]),
  (none, Go.Op.store 79 (Go.Operand.tmp 69) (Go.Operand.tmp 67), none, [12, 10, 9, 0, 1, 2, 3, 4, 5, 6, 7, 8, 9, 10])]

/-- The slots that are known all the way. -/
structure OfFr (wd ht : Int) (b8 p : Nat) (a : Act) : Prop where
  size : a.tmps.size = 71
  defers : a.defers = []
  s1 : Chain.At a 1 (.int .i64 wd)
  s2 : Chain.At a 2 (.int .i64 ht)
  s8 : Chain.At a 8 (.pointer (some ⟨b8, 0, none⟩))
  s11 : Chain.At a 11 (.pointer (some ⟨p, 0, none⟩))
theorem OfFr.next {wd ht : Int} {b8 p : Nat} {a a' : Act} {d : Nat} {v : Value} (F : OfFr wd ht b8 p a) (nx : Chain.Next a a' d v) (h : d ≠ 1 ∧ d ≠ 2 ∧ d ≠ 8 ∧ d ≠ 11) : OfFr wd ht b8 p a' := ⟨nx.size.trans F.size, nx.defers.trans F.defers, nx.keep 1 _ h.1 F.s1, nx.keep 2 _ h.2.1 F.s2, nx.keep 8 _ h.2.2.1 F.s8, nx.keep 11 _ h.2.2.2 F.s11⟩
theorem OfFr.lt {wd ht : Int} {b8 p : Nat} {a : Act} {d : Nat} (F : OfFr wd ht b8 p a) (h : d < 71) : d < a.tmps.size := by rw [F.size]; exact h

set_option maxRecDepth 100000 in
theorem of_region {ops : Array Oper} {Q : Exit → Act → World → Prop} (R : Ord.Reg ops ofOps) (hQ : ∀ c a w d v, Q (.panic c) (Act.put a (some d) v) w → Q (.panic c) a w) {w1 : World} {b8 p : Nat} {wd ht hm ar ac X Y : Int}
    (k0 : ∀ w, w = w1 ∨ w = (w1.setCell ⟨p, 2, none⟩ (.int .i64 X)).setCell ⟨p, 3, none⟩ (.int .i64 Y) → w.cell? ⟨b8, 0, none⟩ = some (.int .i64 ar)) (k1 : ∀ w, w = w1 ∨ w = (w1.setCell ⟨p, 2, none⟩ (.int .i64 X)).setCell ⟨p, 3, none⟩ (.int .i64 Y) → w.cell? ⟨b8, 1, none⟩ = some (.int .i64 ac))
    (k2 : ∃ v, w1.cell? ⟨p, 2, none⟩ = some v) (k3 : ∃ v, w1.cell? ⟨p, 3, none⟩ = some v) (f2 : w1.frozen? ⟨p, 2, none⟩ = false) (f3 : w1.frozen? ⟨p, 3, none⟩ = false)
    (hh : IntKind.i64.wrap (ht - 1) = hm)
    (CL : ∀ w, Calls Tryz.prog 92 #[.int .i64 ar, .int .i64 0, .int .i64 hm] w fun e w' => e = .returned (.int .i64 X) ∧ w = w') (CC : ∀ w, Calls Tryz.prog 92 #[.int .i64 ac, .int .i64 0, .int .i64 wd] w fun e w' => e = .returned (.int .i64 Y) ∧ w = w')
    (a : Act) (F : OfFr wd ht b8 p a) (h : ∀ a, OfFr wd ht b8 p a → Q .normal a ((w1.setCell ⟨p, 2, none⟩ (.int .i64 X)).setCell ⟨p, 3, none⟩ (.int .i64 Y))) :
    wpAnyH Tryz.prog .any ops Q (fun w => w = w1 ∨ w = (w1.setCell ⟨p, 2, none⟩ (.int .i64 X)).setCell ⟨p, 3, none⟩ (.int .i64 Y)) 14 (List.replicate 14 false).toArray a w1 := by
  obtain ⟨v2, k2⟩ := k2
  obtain ⟨v3, k3⟩ := k3
  have hS : w1 = w1 ∨ w1 = (w1.setCell ⟨p, 2, none⟩ (.int .i64 X)).setCell ⟨p, 3, none⟩ (.int .i64 Y) := .inl rfl
  refine Ord.take R (k := 0) (v := .pointer (some ⟨p, 0, none⟩)) (bs' := (Ord.upto 1 14)) rfl (by kernel_rfl) hQ trivial hS (fun w _ hS => Chain.ev_move F.s11.ev) (F.lt (by decide)) fun a0 N => ?_
  replace F := F.next N (by decide)
  have f57 := N.got
  clear N a
  refine Ord.take R (k := 1) (v := .pointer (some ⟨b8, 0, none⟩)) (bs' := (Ord.upto 2 14)) rfl (by kernel_rfl) hQ trivial hS (fun w _ hS => by have e8 := F.s8; unfold Chain.At at e8; clear F; go_simp) (F.lt (by decide)) fun a1 N => ?_
  replace F := F.next N (by decide)
  replace f57 := N.keep 57 _ (by decide) f57
  have f58 := N.got
  clear N a0
  refine Ord.take R (k := 2) (v := .int .i64 ar) (bs' := (Ord.upto 3 14)) rfl (by kernel_rfl) hQ trivial hS (fun w _ hS => by have e58 := f58; unfold Chain.At at e58; have q0 := (k0 w hS); clear F; go_simp) (F.lt (by decide)) fun a2 N => ?_
  replace F := F.next N (by decide)
  replace f57 := N.keep 57 _ (by decide) f57
  clear f58
  have f59 := N.got
  clear N a1
  refine Ord.take R (k := 3) (v := .int .i64 ht) (bs' := (Ord.upto 4 14)) rfl (by kernel_rfl) hQ trivial hS (fun w _ hS => Chain.ev_move F.s2.ev) (F.lt (by decide)) fun a3 N => ?_
  replace F := F.next N (by decide)
  replace f57 := N.keep 57 _ (by decide) f57
  replace f59 := N.keep 59 _ (by decide) f59
  have f60 := N.got
  clear N a2
  refine Ord.take R (k := 4) (v := .int .i64 hm) (bs' := (Ord.upto 5 14)) rfl (by kernel_rfl) hQ trivial hS (fun w _ hS => by have e60 := f60; unfold Chain.At at e60; have q0 := hh; clear F; go_simp) (F.lt (by decide)) fun a4 N => ?_
  replace F := F.next N (by decide)
  replace f57 := N.keep 57 _ (by decide) f57
  replace f59 := N.keep 59 _ (by decide) f59
  clear f60
  have f61 := N.got
  clear N a3
  refine Ord.take R (k := 6) (v := .pointer (some ⟨b8, 1, none⟩)) (bs' := [true, true, true, true, true, false, true, false, false, false, false, false, false, false]) rfl (by kernel_rfl) hQ trivial hS (fun w _ hS => by have e8 := F.s8; unfold Chain.At at e8; clear F; go_simp) (F.lt (by decide)) fun a6 N => ?_
  replace F := F.next N (by decide)
  replace f57 := N.keep 57 _ (by decide) f57
  replace f59 := N.keep 59 _ (by decide) f59
  replace f61 := N.keep 61 _ (by decide) f61
  have f63 := N.got
  clear N a4
  refine Ord.take R (k := 7) (v := .int .i64 ac) (bs' := [true, true, true, true, true, false, true, true, false, false, false, false, false, false]) rfl (by kernel_rfl) hQ trivial hS (fun w _ hS => by have e63 := f63; unfold Chain.At at e63; have q0 := (k1 w hS); clear F; go_simp) (F.lt (by decide)) fun a7 N => ?_
  replace F := F.next N (by decide)
  replace f57 := N.keep 57 _ (by decide) f57
  replace f59 := N.keep 59 _ (by decide) f59
  replace f61 := N.keep 61 _ (by decide) f61
  clear f63
  have f64 := N.got
  clear N a6
  refine Ord.take R (k := 8) (v := .int .i64 wd) (bs' := [true, true, true, true, true, false, true, true, true, false, false, false, false, false]) rfl (by kernel_rfl) hQ trivial hS (fun w _ hS => Chain.ev_move F.s1.ev) (F.lt (by decide)) fun a8 N => ?_
  replace F := F.next N (by decide)
  replace f57 := N.keep 57 _ (by decide) f57
  replace f59 := N.keep 59 _ (by decide) f59
  replace f61 := N.keep 61 _ (by decide) f61
  replace f64 := N.keep 64 _ (by decide) f64
  have f65 := N.got
  clear N a7
  refine Ord.call R (k := 5) (args := #[.int .i64 ar, .int .i64 0, .int .i64 hm]) (bs' := (Ord.upto 9 14)) rfl (by kernel_rfl) trivial (by simp [f59.ev, f61.ev, Ord.ev_c]) (by kernel_rfl) (CL _) (F.lt (by decide)) ?_
  rintro e w ⟨rfl, rfl⟩
  replace hS := hS
  refine ⟨_, rfl, hS, fun a5 N => ?_⟩
  replace F := F.next N (by decide)
  replace f57 := N.keep 57 _ (by decide) f57
  clear f59
  clear f61
  replace f64 := N.keep 64 _ (by decide) f64
  replace f65 := N.keep 65 _ (by decide) f65
  have f62 := N.got
  clear N a8
  refine Ord.call R (k := 9) (args := #[.int .i64 ac, .int .i64 0, .int .i64 wd]) (bs' := (Ord.upto 10 14)) rfl (by kernel_rfl) trivial (by simp [f64.ev, f65.ev, Ord.ev_c]) (by kernel_rfl) (CC _) (F.lt (by decide)) ?_
  rintro e w ⟨rfl, rfl⟩
  replace hS := hS
  refine ⟨_, rfl, hS, fun a9 N => ?_⟩
  replace F := F.next N (by decide)
  replace f57 := N.keep 57 _ (by decide) f57
  replace f62 := N.keep 62 _ (by decide) f62
  clear f64
  clear f65
  have f66 := N.got
  clear N a5
  refine Ord.take R (k := 10) (v := .agg #[.int .i64 X, .int .i64 Y]) (bs' := (Ord.upto 11 14)) rfl (by kernel_rfl) hQ trivial hS (fun w _ hS => by have e62 := f62; unfold Chain.At at e62; have e66 := f66; unfold Chain.At at e66; clear F; go_simp) (F.lt (by decide)) fun a10 N => ?_
  replace F := F.next N (by decide)
  replace f57 := N.keep 57 _ (by decide) f57
  clear f62
  clear f66
  have f67 := N.got
  clear N a9
  refine Ord.take R (k := 11) (v := .pointer (some ⟨p, 0, none⟩)) (bs' := (Ord.upto 12 14)) rfl (by kernel_rfl) hQ trivial hS (fun w _ hS => by have e57 := f57; unfold Chain.At at e57; clear F; go_simp) (F.lt (by decide)) fun a11 N => ?_
  replace F := F.next N (by decide)
  clear f57
  replace f67 := N.keep 67 _ (by decide) f67
  have f68 := N.got
  clear N a10
  refine Ord.take R (k := 12) (v := .pointer (some ⟨p, 2, none⟩)) (bs' := (Ord.upto 13 14)) rfl (by kernel_rfl) hQ trivial hS (fun w _ hS => by have e68 := f68; unfold Chain.At at e68; clear F; go_simp) (F.lt (by decide)) fun a12 N => ?_
  replace F := F.next N (by decide)
  replace f67 := N.keep 67 _ (by decide) f67
  clear f68
  have f69 := N.got
  clear N a11
  refine Ord.effect R (k := 13) (bs' := (Ord.upto 14 14)) (w1 := (w1.setCell ⟨p, 2, none⟩ (.int .i64 X)).setCell ⟨p, 3, none⟩ (.int .i64 Y)) rfl (by kernel_rfl) trivial (.inr rfl) (fun _ => by have e0 := f67; have e1 := f69; unfold Chain.At at e0 e1; clear F; go_simp) ?_
  exact Ord.finish R (by kernel_rfl) (h _ F)

set_option maxRecDepth 100000 in
/-- The frame written out, its known slots in their places. -/
theorem of_frame {a : Act} {w : World} {K : Act → World → Prop} {v1 v2 v8 v11 : Value} (hz : a.tmps.size = 71) (hd : a.defers = []) (f1 : Chain.At a 1 v1) (f2 : Chain.At a 2 v2) (f8 : Chain.At a 8 v8) (f11 : Chain.At a 11 v11)
    (h : ∀ u0 u3 u4 u5 u6 u7 u9 u10 u12 u13 u14 u15 u16 u17 u18 u19 u20 u21 u22 u23 u24 u25 u26 u27 u28 u29 u30 u31 u32 u33 u34 u35 u36 u37 u38 u39 u40 u41 u42 u43 u44 u45 u46 u47 u48 u49 u50 u51 u52 u53 u54 u55 u56 u57 u58 u59 u60 u61 u62 u63 u64 u65 u66 u67 u68 u69 u70 : Value, K ⟨#[u0, v1, v2, u3, u4, u5, u6, u7, v8, u9, u10, v11, u12, u13, u14, u15, u16, u17, u18, u19, u20, u21, u22, u23, u24, u25, u26, u27, u28, u29, u30, u31, u32, u33, u34, u35, u36, u37, u38, u39, u40, u41, u42, u43, u44, u45, u46, u47, u48, u49, u50, u51, u52, u53, u54, u55, u56, u57, u58, u59, u60, u61, u62, u63, u64, u65, u66, u67, u68, u69, u70], []⟩ w) : K a w := by
  have e := Ord.frame_out hz hd
  have r : (List.range 71).map (fun i => a.tmps.toList.getD i undef) = [a.tmps.toList.getD 0 undef, a.tmps.toList.getD 1 undef, a.tmps.toList.getD 2 undef, a.tmps.toList.getD 3 undef, a.tmps.toList.getD 4 undef, a.tmps.toList.getD 5 undef, a.tmps.toList.getD 6 undef, a.tmps.toList.getD 7 undef, a.tmps.toList.getD 8 undef, a.tmps.toList.getD 9 undef, a.tmps.toList.getD 10 undef, a.tmps.toList.getD 11 undef, a.tmps.toList.getD 12 undef, a.tmps.toList.getD 13 undef, a.tmps.toList.getD 14 undef, a.tmps.toList.getD 15 undef, a.tmps.toList.getD 16 undef, a.tmps.toList.getD 17 undef, a.tmps.toList.getD 18 undef, a.tmps.toList.getD 19 undef, a.tmps.toList.getD 20 undef, a.tmps.toList.getD 21 undef, a.tmps.toList.getD 22 undef, a.tmps.toList.getD 23 undef, a.tmps.toList.getD 24 undef, a.tmps.toList.getD 25 undef, a.tmps.toList.getD 26 undef, a.tmps.toList.getD 27 undef, a.tmps.toList.getD 28 undef, a.tmps.toList.getD 29 undef, a.tmps.toList.getD 30 undef, a.tmps.toList.getD 31 undef, a.tmps.toList.getD 32 undef, a.tmps.toList.getD 33 undef, a.tmps.toList.getD 34 undef, a.tmps.toList.getD 35 undef, a.tmps.toList.getD 36 undef, a.tmps.toList.getD 37 undef, a.tmps.toList.getD 38 undef, a.tmps.toList.getD 39 undef, a.tmps.toList.getD 40 undef, a.tmps.toList.getD 41 undef, a.tmps.toList.getD 42 undef, a.tmps.toList.getD 43 undef, a.tmps.toList.getD 44 undef, a.tmps.toList.getD 45 undef, a.tmps.toList.getD 46 undef, a.tmps.toList.getD 47 undef, a.tmps.toList.getD 48 undef, a.tmps.toList.getD 49 undef, a.tmps.toList.getD 50 undef, a.tmps.toList.getD 51 undef, a.tmps.toList.getD 52 undef, a.tmps.toList.getD 53 undef, a.tmps.toList.getD 54 undef, a.tmps.toList.getD 55 undef, a.tmps.toList.getD 56 undef, a.tmps.toList.getD 57 undef, a.tmps.toList.getD 58 undef, a.tmps.toList.getD 59 undef, a.tmps.toList.getD 60 undef, a.tmps.toList.getD 61 undef, a.tmps.toList.getD 62 undef, a.tmps.toList.getD 63 undef, a.tmps.toList.getD 64 undef, a.tmps.toList.getD 65 undef, a.tmps.toList.getD 66 undef, a.tmps.toList.getD 67 undef, a.tmps.toList.getD 68 undef, a.tmps.toList.getD 69 undef, a.tmps.toList.getD 70 undef] := rfl
  rw [r, Ord.at_get f1, Ord.at_get f2, Ord.at_get f8, Ord.at_get f11] at e
  rw [e]
  exact h _ _ _ _ _ _ _ _ _ _ _ _ _ _ _ _ _ _ _ _ _ _ _ _ _ _ _ _ _ _ _ _ _ _ _ _ _ _ _ _ _ _ _ _ _ _ _ _ _ _ _ _ _ _ _ _ _ _ _ _ _ _ _ _ _ _ _

def rowsOps : List Ord.Line := [
  (some 17, Go.Op.move (Go.Operand.tmp 3), none, []),
  (some 18, Go.Op.fieldAddr 53 (Go.Operand.tmp 5) 0, none, []),
  (some 19, Go.Op.load 51 (Go.Operand.tmp 18), none, [1]),
  (some 20, Go.Op.call { callee := Go.Callee.value (Go.Operand.func 95), args := #[Go.Operand.tmp 19], argTypes := #[51] }, none, [2]),
  (some 21, Go.Op.fieldAddr 53 (Go.Operand.tmp 5) 1, none, []),
  (some 22, Go.Op.load 4 (Go.Operand.tmp 21), none, [4]),
  (some 23, Go.Op.build 53 #[(0, Go.Operand.tmp 20), (1, Go.Operand.tmp 22)], none, [3, 5]),
  (some 24, Go.Op.buildSlice 73 1 #[(0, Go.Operand.tmp 23)], none, [6]),
  (some 25, Go.Op.call { callee := Go.Callee.builtin Go.Builtin.append, args := #[Go.Operand.tmp 17, Go.Operand.tmp 24], argTypes := #[73, 73] }, none, [0, 7, 3]),
  (some 3, Go.Op.assign (Go.Operand.tmp 25), none, [8, 8, 0, 1, 2, 3, 4, 5, 6, 7, 8])]

/-- The slots that are known all the way. -/
structure RowsFr (b5 : Nat) (p0 p1 p2 p4 p6 p7 p8 p9 p10 p11 p12 p13 p14 p15 p16 p26 p27 : Value) (a : Act) : Prop where
  size : a.tmps.size = 28
  defers : a.defers = []
  s0 : Chain.At a 0 (p0)
  s1 : Chain.At a 1 (p1)
  s2 : Chain.At a 2 (p2)
  s4 : Chain.At a 4 (p4)
  s5 : Chain.At a 5 (.pointer (some ⟨b5, 0, none⟩))
  s6 : Chain.At a 6 (p6)
  s7 : Chain.At a 7 (p7)
  s8 : Chain.At a 8 (p8)
  s9 : Chain.At a 9 (p9)
  s10 : Chain.At a 10 (p10)
  s11 : Chain.At a 11 (p11)
  s12 : Chain.At a 12 (p12)
  s13 : Chain.At a 13 (p13)
  s14 : Chain.At a 14 (p14)
  s15 : Chain.At a 15 (p15)
  s16 : Chain.At a 16 (p16)
  s26 : Chain.At a 26 (p26)
  s27 : Chain.At a 27 (p27)
theorem RowsFr.next {b5 : Nat} {p0 p1 p2 p4 p6 p7 p8 p9 p10 p11 p12 p13 p14 p15 p16 p26 p27 : Value} {a a' : Act} {d : Nat} {v : Value} (F : RowsFr b5 p0 p1 p2 p4 p6 p7 p8 p9 p10 p11 p12 p13 p14 p15 p16 p26 p27 a) (nx : Chain.Next a a' d v) (h : d ≠ 0 ∧ d ≠ 1 ∧ d ≠ 2 ∧ d ≠ 4 ∧ d ≠ 5 ∧ d ≠ 6 ∧ d ≠ 7 ∧ d ≠ 8 ∧ d ≠ 9 ∧ d ≠ 10 ∧ d ≠ 11 ∧ d ≠ 12 ∧ d ≠ 13 ∧ d ≠ 14 ∧ d ≠ 15 ∧ d ≠ 16 ∧ d ≠ 26 ∧ d ≠ 27) : RowsFr b5 p0 p1 p2 p4 p6 p7 p8 p9 p10 p11 p12 p13 p14 p15 p16 p26 p27 a' := ⟨nx.size.trans F.size, nx.defers.trans F.defers, nx.keep 0 _ h.1 F.s0, nx.keep 1 _ h.2.1 F.s1, nx.keep 2 _ h.2.2.1 F.s2, nx.keep 4 _ h.2.2.2.1 F.s4, nx.keep 5 _ h.2.2.2.2.1 F.s5, nx.keep 6 _ h.2.2.2.2.2.1 F.s6, nx.keep 7 _ h.2.2.2.2.2.2.1 F.s7, nx.keep 8 _ h.2.2.2.2.2.2.2.1 F.s8, nx.keep 9 _ h.2.2.2.2.2.2.2.2.1 F.s9, nx.keep 10 _ h.2.2.2.2.2.2.2.2.2.1 F.s10, nx.keep 11 _ h.2.2.2.2.2.2.2.2.2.2.1 F.s11, nx.keep 12 _ h.2.2.2.2.2.2.2.2.2.2.2.1 F.s12, nx.keep 13 _ h.2.2.2.2.2.2.2.2.2.2.2.2.1 F.s13, nx.keep 14 _ h.2.2.2.2.2.2.2.2.2.2.2.2.2.1 F.s14, nx.keep 15 _ h.2.2.2.2.2.2.2.2.2.2.2.2.2.2.1 F.s15, nx.keep 16 _ h.2.2.2.2.2.2.2.2.2.2.2.2.2.2.2.1 F.s16, nx.keep 26 _ h.2.2.2.2.2.2.2.2.2.2.2.2.2.2.2.2.1 F.s26, nx.keep 27 _ h.2.2.2.2.2.2.2.2.2.2.2.2.2.2.2.2.2 F.s27⟩
theorem RowsFr.lt {b5 : Nat} {p0 p1 p2 p4 p6 p7 p8 p9 p10 p11 p12 p13 p14 p15 p16 p26 p27 : Value} {a : Act} {d : Nat} (F : RowsFr b5 p0 p1 p2 p4 p6 p7 p8 p9 p10 p11 p12 p13 p14 p15 p16 p26 p27 a) (h : d < 28) : d < a.tmps.size := by rw [F.size]; exact h

set_option maxRecDepth 100000 in
theorem rows_region {ops : Array Oper} {Q : Exit → Act → World → Prop} (R : Ord.Reg ops rowsOps) (hQ : ∀ c a w d v, Q (.panic c) (Act.put a (some d) v) w → Q (.panic c) a w) {w1 : World} {b5 xn xc n base : Nat} {xA : Option Addr} {xw : Bool} {vo : Value} {xsv : List Value} {p0 p1 p2 p4 p6 p7 p8 p9 p10 p11 p12 p13 p14 p15 p16 p26 p27 : Value} {K : World → Option Addr → Nat → Prop} {i0 : TypeInfo} (hi : Tryz.prog.info? 53 = some i0) (hz0 : i0.zero = some (.agg #[.slice none 0 0, .bool false])) (hz1 : i0.size = 2) (hz2 : i0.bytes = 32)
    (k0 : ∀ w : World, w.heap[b5]? = w1.heap[b5]? → w.cell? ⟨b5, 0, none⟩ = some (.slice xA xn xc)) (k1 : ∀ w : World, w.heap[b5]? = w1.heap[b5]? → w.cell? ⟨b5, 1, none⟩ = some (.bool xw))
    (CL : Calls Tryz.prog 95 #[.slice xA xn xc] w1 fun e w' => ∃ A c, e = .returned (.slice A xn c) ∧ K w' A c)
    (KS : ∀ w A c, K w A c → w.heap[b5]? = w1.heap[b5]?) (KS2 : ∀ w A7 c7, K w A7 c7 → (w.alloc (.cells #[.slice A7 xn c7, .bool xw] 53)).heap[b5]? = w1.heap[b5]?) (KO : ∀ w A7 c7, K w A7 c7 → (w.alloc (.cells #[.slice A7 xn c7, .bool xw] 53)).ownsRow base 53 2 vo n xsv) (KB : ∀ w A7 c7, K w A7 c7 → base ≤ (w.alloc (.cells #[.slice A7 xn c7, .bool xw] 53)).heap.size)
    (KQ : ∀ w A7 c7, K w A7 c7 → ∀ b, w.heap.size = b → Sq (w.alloc (.cells #[.slice A7 xn c7, .bool xw] 53)) (w.alloc (.cells #[.slice A7 xn c7, .bool xw] 53)).heap.size 2 1 (some ⟨b, 0, none⟩) [.slice A7 xn c7, .bool xw]) (KE : ∀ w A7 c7 w8, K w A7 c7 → (w.alloc (.cells #[.slice A7 xn c7, .bool xw] 53)).grownBy w8 vo.ownBlock → w8.heap[b5]? = w1.heap[b5]?)
    (fit1 : n + 1 ≤ maxLen) (fit2 : (n + 1) * 32 ≤ 140737488355328)
    (a : Act) (F : RowsFr b5 p0 p1 p2 p4 p6 p7 p8 p9 p10 p11 p12 p13 p14 p15 p16 p26 p27 a) (f3 : Chain.At a 3 vo) (h : ∀ a w A7 c7 w8 A8 c8, K w A7 c7 → (w.alloc (.cells #[.slice A7 xn c7, .bool xw] 53)).grownBy w8 vo.ownBlock → w8.ownsRow base 53 2 (.slice A8 (n + 1) c8) (n + 1) (xsv ++ [.slice A7 xn c7, .bool xw]) → RowsFr b5 p0 p1 p2 p4 p6 p7 p8 p9 p10 p11 p12 p13 p14 p15 p16 p26 p27 a → Chain.At a 3 (.slice A8 (n + 1) c8) → Q .normal a w8) :
    wpAnyH Tryz.prog .any ops Q (fun w => w.heap[b5]? = w1.heap[b5]?) 10 (List.replicate 10 false).toArray a w1 := by
  have hS : w1.heap[b5]? = w1.heap[b5]? := rfl
  refine Ord.take R (k := 0) (v := vo) (bs' := (Ord.upto 1 10)) rfl (by kernel_rfl) hQ trivial hS (fun w _ hS => Chain.ev_move f3.ev) (F.lt (by decide)) fun a0 N => ?_
  replace F := F.next N (by decide)
  replace f3 := N.keep 3 _ (by decide) f3
  have f17 := N.got
  clear N a
  refine Ord.take R (k := 1) (v := .pointer (some ⟨b5, 0, none⟩)) (bs' := (Ord.upto 2 10)) rfl (by kernel_rfl) hQ trivial hS (fun w _ hS => by have e5 := F.s5; unfold Chain.At at e5; clear F; go_simp) (F.lt (by decide)) fun a1 N => ?_
  replace F := F.next N (by decide)
  replace f3 := N.keep 3 _ (by decide) f3
  replace f17 := N.keep 17 _ (by decide) f17
  have f18 := N.got
  clear N a0
  refine Ord.take R (k := 2) (v := .slice xA xn xc) (bs' := (Ord.upto 3 10)) rfl (by kernel_rfl) hQ trivial hS (fun w _ hS => by have e18 := f18; unfold Chain.At at e18; have q0 := (k0 w hS); clear F; go_simp) (F.lt (by decide)) fun a2 N => ?_
  replace F := F.next N (by decide)
  replace f3 := N.keep 3 _ (by decide) f3
  replace f17 := N.keep 17 _ (by decide) f17
  clear f18
  have f19 := N.got
  clear N a1
  refine Ord.take R (k := 4) (v := .pointer (some ⟨b5, 1, none⟩)) (bs' := [true, true, true, false, true, false, false, false, false, false]) rfl (by kernel_rfl) hQ trivial hS (fun w _ hS => by have e5 := F.s5; unfold Chain.At at e5; clear F; go_simp) (F.lt (by decide)) fun a4 N => ?_
  replace F := F.next N (by decide)
  replace f3 := N.keep 3 _ (by decide) f3
  replace f17 := N.keep 17 _ (by decide) f17
  replace f19 := N.keep 19 _ (by decide) f19
  have f21 := N.got
  clear N a2
  refine Ord.take R (k := 5) (v := .bool xw) (bs' := [true, true, true, false, true, true, false, false, false, false]) rfl (by kernel_rfl) hQ trivial hS (fun w _ hS => by have e21 := f21; unfold Chain.At at e21; have q0 := (k1 w hS); clear F; go_simp) (F.lt (by decide)) fun a5 N => ?_
  replace F := F.next N (by decide)
  replace f3 := N.keep 3 _ (by decide) f3
  replace f17 := N.keep 17 _ (by decide) f17
  replace f19 := N.keep 19 _ (by decide) f19
  clear f21
  have f22 := N.got
  clear N a4
  refine Ord.call R (k := 3) (args := #[.slice xA xn xc]) (bs' := (Ord.upto 6 10)) rfl (by kernel_rfl) trivial (by simp [f19.ev]) (by kernel_rfl) (CL) (F.lt (by decide)) ?_
  rintro e w ⟨A7, c7, rfl, K7⟩
  replace hS := KS w A7 c7 K7
  refine ⟨_, rfl, hS, fun a3 N => ?_⟩
  replace F := F.next N (by decide)
  replace f3 := N.keep 3 _ (by decide) f3
  replace f17 := N.keep 17 _ (by decide) f17
  clear f19
  replace f22 := N.keep 22 _ (by decide) f22
  have f20 := N.got
  clear N a5
  refine Ord.take R (k := 6) (v := .agg #[.slice A7 xn c7, .bool xw]) (bs' := (Ord.upto 7 10)) rfl (by kernel_rfl) hQ trivial hS (fun w _ hS => by have e20 := f20; unfold Chain.At at e20; have e22 := f22; unfold Chain.At at e22; clear F; go_simp) (F.lt (by decide)) fun a6 N => ?_
  replace F := F.next N (by decide)
  replace f3 := N.keep 3 _ (by decide) f3
  replace f17 := N.keep 17 _ (by decide) f17
  clear f20
  clear f22
  have f23 := N.got
  clear N a3
  obtain ⟨b, hb⟩ : ∃ b, w.heap.size = b := ⟨_, rfl⟩
  refine Ord.value R (k := 7) (v := .slice (some ⟨b, 0, none⟩) 1 1) (w1 := (w.alloc (.cells #[.slice A7 xn c7, .bool xw] 53))) (bs' := (Ord.upto 8 10)) rfl (by kernel_rfl) trivial (KS2 w A7 c7 K7) (fun _ => by have e0 := f23; unfold Chain.At at e0; subst hb; clear F; go_simp) (F.lt (by decide)) fun a7 N => ?_
  replace hS := KS2 w A7 c7 K7
  replace F := F.next N (by decide)
  replace f3 := N.keep 3 _ (by decide) f3
  replace f17 := N.keep 17 _ (by decide) f17
  clear f23
  have f24 := N.got
  clear N a6
  refine Ord.append R (k := 8) (bs' := (Ord.upto 9 10)) (.tmp 17) (.tmp 24) 73 rfl (by kernel_rfl) trivial (F.lt (by decide)) base 53 i0 (.agg #[.slice none 0 0, .bool false]) 2 32 Tryz.underlying73 hi hz0 hz1 hz2 rfl (by decide) vo n xsv f17.ev (KO w A7 c7 K7) (some ⟨b, 0, none⟩) 1 1 [.slice A7 xn c7, .bool xw] f24.ev (w.alloc (.cells #[.slice A7 xn c7, .bool xw] 53)).heap.size (KQ w A7 c7 K7 b hb) (by simp [Value.oneCell']) fit1 fit2 (KB w A7 c7 K7) ?_
  intro A8 c8 w8 H8 hg8 _
  have hS8 := KE w A7 c7 w8 K7 hg8
  refine ⟨hS8, fun a8 N => ?_⟩
  replace hS := hS8
  replace F := F.next N (by decide)
  replace f3 := N.keep 3 _ (by decide) f3
  clear f17
  clear f24
  have f25 := N.got
  clear N a7
  refine Ord.take R (k := 9) (v := .slice A8 (n + 1) c8) (bs' := (Ord.upto 10 10)) rfl (by kernel_rfl) hQ trivial hS (fun w _ hS => Chain.ev_assign f25.ev) (F.lt (by decide)) fun a9 N => ?_
  replace F := F.next N (by decide)
  clear f3
  clear f25
  have f3 := N.got
  clear N a8
  exact Ord.finish R (by kernel_rfl) (h _ _ _ _ _ _ _ K7 hg8 H8 F f3)

set_option maxRecDepth 100000 in
/-- The frame written out, its known slots in their places. -/
theorem rows_frame {a : Act} {w : World} {K : Act → World → Prop} {v0 v1 v2 v3 v4 v5 v6 v7 v8 v9 v10 v11 v12 v13 v14 v15 v16 v26 v27 : Value} (hz : a.tmps.size = 28) (hd : a.defers = []) (f0 : Chain.At a 0 v0) (f1 : Chain.At a 1 v1) (f2 : Chain.At a 2 v2) (f3 : Chain.At a 3 v3) (f4 : Chain.At a 4 v4) (f5 : Chain.At a 5 v5) (f6 : Chain.At a 6 v6) (f7 : Chain.At a 7 v7) (f8 : Chain.At a 8 v8) (f9 : Chain.At a 9 v9) (f10 : Chain.At a 10 v10) (f11 : Chain.At a 11 v11) (f12 : Chain.At a 12 v12) (f13 : Chain.At a 13 v13) (f14 : Chain.At a 14 v14) (f15 : Chain.At a 15 v15) (f16 : Chain.At a 16 v16) (f26 : Chain.At a 26 v26) (f27 : Chain.At a 27 v27)
    (h : ∀ u17 u18 u19 u20 u21 u22 u23 u24 u25 : Value, K ⟨#[v0, v1, v2, v3, v4, v5, v6, v7, v8, v9, v10, v11, v12, v13, v14, v15, v16, u17, u18, u19, u20, u21, u22, u23, u24, u25, v26, v27], []⟩ w) : K a w := by
  have e := Ord.frame_out hz hd
  have r : (List.range 28).map (fun i => a.tmps.toList.getD i undef) = [a.tmps.toList.getD 0 undef, a.tmps.toList.getD 1 undef, a.tmps.toList.getD 2 undef, a.tmps.toList.getD 3 undef, a.tmps.toList.getD 4 undef, a.tmps.toList.getD 5 undef, a.tmps.toList.getD 6 undef, a.tmps.toList.getD 7 undef, a.tmps.toList.getD 8 undef, a.tmps.toList.getD 9 undef, a.tmps.toList.getD 10 undef, a.tmps.toList.getD 11 undef, a.tmps.toList.getD 12 undef, a.tmps.toList.getD 13 undef, a.tmps.toList.getD 14 undef, a.tmps.toList.getD 15 undef, a.tmps.toList.getD 16 undef, a.tmps.toList.getD 17 undef, a.tmps.toList.getD 18 undef, a.tmps.toList.getD 19 undef, a.tmps.toList.getD 20 undef, a.tmps.toList.getD 21 undef, a.tmps.toList.getD 22 undef, a.tmps.toList.getD 23 undef, a.tmps.toList.getD 24 undef, a.tmps.toList.getD 25 undef, a.tmps.toList.getD 26 undef, a.tmps.toList.getD 27 undef] := rfl
  rw [r, Ord.at_get f0, Ord.at_get f1, Ord.at_get f2, Ord.at_get f3, Ord.at_get f4, Ord.at_get f5, Ord.at_get f6, Ord.at_get f7, Ord.at_get f8, Ord.at_get f9, Ord.at_get f10, Ord.at_get f11, Ord.at_get f12, Ord.at_get f13, Ord.at_get f14, Ord.at_get f15, Ord.at_get f16, Ord.at_get f26, Ord.at_get f27] at e
  rw [e]
  exact h _ _ _ _ _ _ _ _ _

end Sc
end Go.Proofs.YtibihjcpkdfgeaaGreatDoor
namespace Go.Proofs.YtibihjcpkdfgeaaGreatDoor
open Go.ChangeShapes Go.WideShapes Go.ChangeAt Go.RowKit
namespace Sc

theorem onlyBlock (g : Nat) (w : World) (cs : Array Value) : OnlyRow g w (w.setRow g cs) := ⟨rfl, rfl, rfl, by simp [World.setRow], fun k hk => setRow_other w g k cs hk⟩
/-- append into a block that has room, of cells that lie anywhere, as one step of a region that draws its order. -/
theorem step_room {P : Program} {ops : Array Oper} {o : Oper} {a : Act} {w : World} {K : Act → World → Prop} {Q : Exit → Act → World → Prop} {E : Prop} (hgd : o.guard = none) (s x : Operand) (t : TypeId)
    (ho : o.op = .call { callee := .builtin .append, args := #[s, x], argTypes := #[t, t] }) (e : TypeId) (i : TypeInfo) (ht : P.underlying t = some (.slice e)) (hi : P.info? e = some i) (size : Nat) (hsize : i.size = size)
    (g n cap : Nat) (hs : a.eval s = .slice (some ⟨g, 0, none⟩) n cap) (ad : Addr) (m c2 : Nat) (hx : a.eval x = .slice (some ad) m c2) (news : List Value) (hl : news.length = m * size)
    (hnews : ∀ j u, news[j]? = some u → w.cell? (ad.add j) = some u) (h1 : ∀ u ∈ news, u.oneCell' = true) (hroom : n + m ≤ cap) (cur : List Value) (t' : TypeId) (hg : w.heap[g]? = some (.cells cur.toArray t' (0, 0))) (hfit : n * size + news.length ≤ cur.length)
    (h : ∀ w', Hid (w'.heap[g]? = some (.cells (splice cur (n * size) news).toArray t' (0, 0))) → Hid (OnlyRow g w w') → K (a.put o.dst (.slice (some ⟨g, 0, none⟩) (n + m) cap)) w') :
    if Region.wanted o (yielded ops a.tmps) = true then Oper.wp P o a w K Q else E := by
  have hw : Region.wanted o (yielded ops a.tmps) = true := by simp [Region.wanted, hgd]
  rw [if_pos hw]
  subst hsize
  have hc : (Builtin.firstCells i.size m (.slice (some ad) m c2)).run P w = .ok news.toArray w := run_firstCells_some w i.size m ad m c2 news hl hnews
  have hst := run_storeCells_at P g (n * i.size) t' news 0 cur.toArray w hg (by simpa using hfit) h1
  simp only [Nat.add_zero] at hst
  have hrun : (Builtin.append_ #[t, t] o.type #[.slice (some ⟨g, 0, none⟩) n cap, .slice (some ad) m c2]).run P w = .ok (.slice (some ⟨g, 0, none⟩) (n + m) cap) (w.setRow g (cur.toArray.toList.take (n * i.size) ++ news ++ cur.toArray.toList.drop (n * i.size + news.length)).toArray) := by
    simp [Builtin.append_, run_underlying ht, sizeOf, typeInfo, hi, Builtin.lenOf, hroom, hc, Addr.add_lit, hst]
  unfold Oper.wp
  simp only [execOp, ho, resolve, invoke, builtin, Sem.run_bind, Sem.run_pure, Result.andThen_ok, List.map_toArray, List.map_cons, List.map_nil, hs, hx, hrun]
  exact h _ (show _ = _ by simpa [splice] using setRow_heap w g _ _ t' _ hg) (onlyBlock g w _)
/-- clear of one row of a block. -/
theorem wpl_clearRow {P : Program} {w : World} {ops : Array Oper} {rest : List Oper} {o : Oper} {a : Act} {Q : Exit → Act → World → Prop} (hgd : o.guard = none) (d : Operand) (dT : TypeId)
    (ho : o.op = .call { callee := .builtin .clear, args := #[d], argTypes := #[dT] }) (elem : TypeId) (hu : P.underlying dT = some (.slice elem)) (z : Value) (hv : ∀ w, (zeroValue elem).run P w = .ok z w) (zs : List Value) (hz : z.cells.toList = zs) (h1 : ∀ v ∈ zs, v.oneCell' = true)
    (c : Nat) (g off : Nat) (hd : a.eval d = .slice (some ⟨g, off, none⟩) 1 c)
    (cur : List Value) (t : TypeId) (hg : w.heap[g]? = some (.cells cur.toArray t (0, 0))) (hfit : off + zs.length ≤ cur.length)
    (h : ∀ w', Hid (w'.heap[g]? = some (.cells (splice cur off zs).toArray t (0, 0))) → Hid (OnlyRow g w w') → wpList P ops Q rest (a.put o.dst (.tuple #[])) w') : wpList P ops Q (o :: rest) a w := by
  have hzc : (Builtin.zeroCells z.cells 1).toList = zs := by
    rw [← hz]
    unfold Builtin.zeroCells
    apply List.ext_getElem
    · simp
    · intro i h1 h2
      simp at h1
      simp [Nat.mod_eq_of_lt h1]
      exact getElem!_pos _ _ _
  have hst := run_storeCells_at P g off t zs 0 cur.toArray w hg (by simpa using hfit) h1
  simp only [Nat.add_zero] at hst
  have hrun : (Builtin.clear_ #[dT] o.type #[.slice (some ⟨g, off, none⟩) 1 c]).run P w = .ok (.tuple #[]) (w.setRow g (cur.toArray.toList.take off ++ zs ++ cur.toArray.toList.drop (off + zs.length)).toArray) := by
    simp [Builtin.clear_, run_underlying hu, hv, hzc, hst]
  refine wpList_plain hgd fun K hK => ?_
  unfold Oper.wp
  simp only [execOp, ho, resolve, invoke, builtin, Sem.run_bind, Sem.run_pure, Result.andThen_ok, List.map_toArray, List.map_cons, List.map_nil, hd, hrun]
  exact hK _ _ (h _ (show _ = _ by simpa [splice] using setRow_heap w g _ _ t _ hg) (onlyBlock g w _))
theorem infoRow' : (Tryz.prog.info? 53).map (fun i => (i.zero, i.size, i.bytes)) = some (some (.agg #[.slice none 0 0, .bool false]), 2, 32) := by kernel_rfl
theorem splice_del (vs : List Value) (q : Nat) (h : vs.length = q * 2 + 2) (z : List Value) (hz : z.length = 2) : splice (splice vs 0 (vs.drop 2)) (q * 2) z = vs.drop 2 ++ z := by
  have hd : (vs.drop 2).length = q * 2 := by rw [List.length_drop]; omega
  have hb : (vs.drop (q * 2)).length = 2 := by rw [List.length_drop]; omega
  have e1 : splice vs 0 (vs.drop 2) = vs.drop 2 ++ vs.drop (q * 2) := by simp [splice, hd]
  rw [e1]
  generalize vs.drop (q * 2) = B at hb
  generalize vs.drop 2 = C at hd
  have t1 : (C ++ B).take (q * 2) = C := by rw [← hd]; exact List.take_left
  have t2 : (C ++ B).drop (q * 2 + z.length) = [] := List.drop_of_length_le (by rw [List.length_append]; omega)
  unfold splice
  rw [t1, t2, List.append_nil]
set_option maxRecDepth 100000 in
set_option maxHeartbeats 3200000 in
theorem del_one (g : Nat) (vs : List Value) (w : World) (hl : vs.length = 0 + 2) (one : ∀ v ∈ vs, v.oneCell' = true) (hg : w.heap[g]? = some (.cells vs.toArray 53 (0, 0))) :
    Calls Tryz.prog 141 #[.slice (some ⟨g, 0, none⟩) 1 1, .int .i64 0, .int .i64 1] w fun e w' => e = .returned (.slice (some ⟨g, 0, none⟩) 0 1) ∧ w'.heap[g]? = some (.cells (vs.drop 2 ++ [Value.slice none 0 0, Value.bool false]).toArray 53 (0, 0)) ∧ OnlyRow g w w' := by
  obtain ⟨i0, hi, hz0, hz1, hz2⟩ := info_parts infoRow'
  have HG := Lib.hid (show w.drew.heap[g]? = some (.cells vs.toArray 53 (0, 0)) from hg)
  have HL := Lib.hid hl
  have HN := Lib.hid (show ∀ j u, (vs.drop 2)[j]? = some u → w.drew.cell? ((⟨g, 0, none⟩ : Addr).add j) = some u from fun j u hj => by
    have hj2 := (List.getElem?_eq_some_iff.1 hj).1
    rw [List.length_drop] at hj2
    rw [List.getElem?_drop] at hj
    first
      | (exfalso; omega)
      | (rw [add_at', cell_of_row _ g _ _ _ (0, 0) HG.out, List.getElem?_toArray]; exact hj))
  have HO := Lib.hid (show ∀ v ∈ vs.drop 2, v.oneCell' = true from fun v hv => one v (List.mem_of_mem_drop hv))
  have LD := Lib.hid (show (vs.drop 2).length = 0 by rw [List.length_drop]; omega)
  clear hg hl one
  go_enter Tryz.func141, Tryz.ntmps141
  go_wp2_with fail
  go_region_law (refine step_room rfl (.tmp 22) (.tmp 25) 73 rfl 53 i0 Tryz.underlying73 hi 2 hz1 g 0 1 (by simp [Act.eval, Act.put]) ⟨g, 0, none⟩ 0 0 (by simp [Act.eval, Act.put]) (vs.drop 2) LD.out HN.out HO.out (by omega) vs 53 HG.out (by rw [LD.out, HL.out]; omega) ?_; intro w2 hg2 ho2)
  all_goals
    have G2 := Lib.hid (show w2.heap[g]? = some (.cells (splice vs 0 (vs.drop 2)).toArray 53 (0, 0)) by simpa using hg2.out)
    have O2 := Lib.hid (OnlyRow.ofDrew ho2.out)
    have L2 := Lib.hid (show (splice vs 0 (vs.drop 2)).length = vs.length from length_splice _ _ _ (by rw [LD.out, HL.out]; omega))
    clear hg2 ho2
    go_wp2_with (refine wpl_clearRow rfl (.tmp 31) 73 rfl 53 Tryz.underlying73 (.agg #[.slice none 0 0, .bool false]) (fun _ => rfl) [.slice none 0 0, .bool false] rfl (by simp [Value.oneCell']) 1 g 0 (by simp [Act.eval]) (splice vs 0 (vs.drop 2)) 53 G2.out (by rw [L2.out, HL.out]; simp) ?_; intro w3 hg3 ho3; have D := Lib.hid (And.intro hg3.out (O2.out.trans ho3.out)); clear hg3 ho3)
    go_ret
    refine ⟨rfl, ?_, D.out.2⟩
    rw [← splice_del vs 0 (by rw [HL.out]) [.slice none 0 0, .bool false] rfl]
    exact D.out.1
set_option maxRecDepth 100000 in
set_option maxHeartbeats 3200000 in
theorem del_more (g q : Nat) (vs : List Value) (w : World) (hl : vs.length = (q * 2) + 2) (hq : q ≤ 1000) (hq0 : ¬ q = 0) (one : ∀ v ∈ vs, v.oneCell' = true) (hg : w.heap[g]? = some (.cells vs.toArray 53 (0, 0))) :
    Calls Tryz.prog 141 #[.slice (some ⟨g, 0, none⟩) (q + 1) (q + 1), .int .i64 0, .int .i64 1] w fun e w' => e = .returned (.slice (some ⟨g, 0, none⟩) q (q + 1)) ∧ w'.heap[g]? = some (.cells (vs.drop 2 ++ [Value.slice none 0 0, Value.bool false]).toArray 53 (0, 0)) ∧ OnlyRow g w w' := by
  obtain ⟨i0, hi, hz0, hz1, hz2⟩ := info_parts infoRow'
  have HG := Lib.hid (show w.drew.heap[g]? = some (.cells vs.toArray 53 (0, 0)) from hg)
  have HL := Lib.hid hl
  have HN := Lib.hid (show ∀ j u, (vs.drop 2)[j]? = some u → w.drew.cell? ((⟨g, 2, none⟩ : Addr).add j) = some u from fun j u hj => by
    have hj2 := (List.getElem?_eq_some_iff.1 hj).1
    rw [List.length_drop] at hj2
    rw [List.getElem?_drop] at hj
    first
      | (exfalso; omega)
      | (rw [add_at', cell_of_row _ g _ _ _ (0, 0) HG.out, List.getElem?_toArray]; exact hj))
  have HO := Lib.hid (show ∀ v ∈ vs.drop 2, v.oneCell' = true from fun v hv => one v (List.mem_of_mem_drop hv))
  have LD := Lib.hid (show (vs.drop 2).length = (q * 2) by rw [List.length_drop]; omega)
  have d0 : (0 : Int) ≤ (q : Int) + 1 := by omega
  have d1 : (1 : Int) ≤ (q : Int) + 1 := by omega
  have d2 : (q : Int) ≤ (q : Int) + 1 := by omega
  have n1 : ((q : Int) + 1).toNat = q + 1 := by omega
  clear hg hl one
  go_enter Tryz.func141, Tryz.ntmps141
  go_wp2_with fail
  go_region_law (refine step_room rfl (.tmp 22) (.tmp 25) 73 rfl 53 i0 Tryz.underlying73 hi 2 hz1 g 0 (q + 1) (by simp [Act.eval, Act.put]) ⟨g, 2, none⟩ q q (by simp [Act.eval, Act.put]) (vs.drop 2) LD.out HN.out HO.out (by omega) vs 53 HG.out (by rw [LD.out, HL.out]; omega) ?_; intro w2 hg2 ho2)
  all_goals
    have G2 := Lib.hid (show w2.heap[g]? = some (.cells (splice vs 0 (vs.drop 2)).toArray 53 (0, 0)) by simpa using hg2.out)
    have O2 := Lib.hid (OnlyRow.ofDrew ho2.out)
    have L2 := Lib.hid (show (splice vs 0 (vs.drop 2)).length = vs.length from length_splice _ _ _ (by rw [LD.out, HL.out]; omega))
    clear hg2 ho2
    go_wp2_with (refine wpl_clearRow rfl (.tmp 31) 73 rfl 53 Tryz.underlying73 (.agg #[.slice none 0 0, .bool false]) (fun _ => rfl) [.slice none 0 0, .bool false] rfl (by simp [Value.oneCell']) 1 g (q * 2) (by simp [Act.eval]) (splice vs 0 (vs.drop 2)) 53 G2.out (by rw [L2.out, HL.out]; simp) ?_; intro w3 hg3 ho3; have D := Lib.hid (And.intro hg3.out (O2.out.trans ho3.out)); clear hg3 ho3)
    go_ret
    refine ⟨rfl, ?_, D.out.2⟩
    rw [← splice_del vs q (by rw [HL.out]) [.slice none 0 0, .bool false] rfl]
    exact D.out.1
theorem rowsDelete_walk (g q : Nat) (vs : List Value) (w : World) (hl : vs.length = q * 2 + 2) (hq : q ≤ 1000) (one : ∀ v ∈ vs, v.oneCell' = true) (hg : w.heap[g]? = some (.cells vs.toArray 53 (0, 0))) :
    Calls Tryz.prog 141 #[.slice (some ⟨g, 0, none⟩) (q + 1) (q + 1), .int .i64 0, .int .i64 1] w fun e w' => e = .returned (.slice (some ⟨g, 0, none⟩) q (q + 1)) ∧ w'.heap[g]? = some (.cells (vs.drop 2 ++ [Value.slice none 0 0, Value.bool false]).toArray 53 (0, 0)) ∧ OnlyRow g w w' := by
  by_cases hq0 : q = 0
  · subst hq0
    exact del_one g vs w hl one hg
  · exact del_more g q vs w hl hq hq0 one hg
end Sc
end Go.Proofs.YtibihjcpkdfgeaaGreatDoor
namespace Go.Proofs.YtibihjcpkdfgeaaGreatDoor
open Go.ChangeShapes Go.WideShapes Go.ChangeAt Go.RowKit
namespace Sc
open Rw
set_option maxRecDepth 100000 in
set_option maxHeartbeats 3200000 in
theorem moveTo_walk {p g : Nat} {s : Scr} {xs : List RowIn} (line col : Int) (w : World) (h : ScAt w p g s xs) : Calls Tryz.prog 116 #[ptrS p, .int .i64 line, .int .i64 col] w fun e w' => Done p g (moveS s line col) xs w e w' := by
  have hd := h.laid (Below.refl _ _).drew
  have hne := hd.ne
  obtain ⟨X, hX⟩ : ∃ X, min (max line 0) ((s.rows.length - 1 : Nat) : Int) = X := ⟨_, rfl⟩
  obtain ⟨Y, hY⟩ : ∃ Y, min (max col 0) ((s.w - 1 : Nat) : Int) = Y := ⟨_, rfl⟩
  have CL : ∀ w, Calls Tryz.prog 92 #[.int .i64 line, .int .i64 0, .int .i64 ((s.rows.length - 1 : Nat) : Int)] w fun e w' => e = .returned (.int .i64 X) ∧ w = w' := fun w => by rw [← hX]; exact clamp_walk _ _ _ w
  have CC : ∀ w, Calls Tryz.prog 92 #[.int .i64 col, .int .i64 0, .int .i64 ((s.w - 1 : Nat) : Int)] w fun e w' => e = .returned (.int .i64 Y) ∧ w = w' := fun w => by rw [← hY]; exact clamp_walk _ _ _ w
  have D := Lib.hid (show ScAt ((w.drew.setCell ⟨p, 2, none⟩ (.int .i64 X)).setCell ⟨p, 3, none⟩ (.int .i64 Y)) p g (moveS s line col) xs ∧ Went w ((w.drew.setCell ⟨p, 2, none⟩ (.int .i64 X)).setCell ⟨p, 3, none⟩ (.int .i64 Y)) p g xs xs from by
    have h1 := h.ok.h1
    have h2 := h.ok.w2
    have e1 : X = (((min (max line 0) ((s.rows.length : Int) - 1)).toNat : Nat) : Int) := by omega
    have e2 : Y = (((min (max col 0) ((s.w : Int) - 1)).toNat : Nat) : Int) := by omega
    rw [e1, e2]
    exact ⟨(hd.setRow (r := (min (max line 0) ((s.rows.length : Int) - 1)).toNat) (by omega)).setCol (c := (min (max col 0) ((s.w : Int) - 1)).toNat) (by show _ ≤ s.w; omega), ((Went.laid (Below.refl _ _).drew).trans (Went.cell 2 _)).trans (Went.cell 3 _)⟩)
  go_enter Tryz.func116, Tryz.ntmps116
  go_wp2_with fail
  refine Ord.start (S := fun W => W = w.drew ∨ W = (w.drew.setCell ⟨p, 2, none⟩ (.int .i64 X)).setCell ⟨p, 3, none⟩ (.int .i64 Y)) (n := 20) (by kernel_rfl) (by kernel_rfl) (.inl rfl) ?_
  apply move_region (w1 := w.drew) (p := p) (g := g) (sw := s.w) (sh := s.rows.length) (line := line) (col := col) (X := X) (Y := Y) (p3 := undef) (p4 := undef) (p5 := undef)
  case R => exact ⟨by kernel_rfl, by kernel_rfl⟩
  case hQ => exact fun _ _ _ _ _ h => h
  case k0 =>
    rintro W (rfl | rfl)
    · exact hd.get 0
    · exact (World.cell?_setCell_other _ _ _ _ (by simp)).trans ((World.cell?_setCell_other _ _ _ _ (by simp)).trans (hd.get 0))
  case k1 =>
    rintro W (rfl | rfl)
    · exact hd.get 1
    · exact (World.cell?_setCell_other _ _ _ _ (by simp)).trans ((World.cell?_setCell_other _ _ _ _ (by simp)).trans (hd.get 1))
  case k2 => exact ⟨_, hd.get 2⟩
  case k3 => exact ⟨_, hd.get 3⟩
  case f2 => exact hd.free 2
  case f3 => exact hd.free 3
  case hh => have := h.ok.h1; have := h.ok.h2; rw [IntWalk.i64_in _ (by omega)]; omega
  case hw => have := h.ok.w2; have := h.ok.w3; rw [IntWalk.i64_in _ (by omega)]; omega
  case CL => exact CL
  case CC => exact CC
  case F => exact ⟨rfl, rfl, rfl, rfl, rfl, rfl, rfl, rfl⟩
  intro a2 F2
  refine move_frame F2.size F2.defers F2.s0 F2.s1 F2.s2 F2.s3 F2.s4 F2.s5 ?_
  intros
  clear F2 CL CC hX hY
  try dsimp only
  go_wp2
  go_end0
  exact ⟨⟨_, rfl⟩, xs, D.out⟩
theorem ScAt.sq {W : World} {p g : Nat} {s : Scr} {xs : List RowIn} (h : ScAt W p g s xs) {i : Nat} {x : RowIn} (hx : xs[i]? = some x) : Sq W W.heap.size 3 x.n x.A (flat x.l) := HasC.sq (h.each x (List.mem_of_getElem? hx)).1
/-- What the world is behind a store of a row's head. -/
theorem putRow_done {p g : Nat} {s : Scr} {xs : List RowIn} {w W : World} {i n c : Nat} {A : Option Addr} {x : RowIn} {l : List Cel} {wr : Bool} {f : SR → SR} (h : ScAt w p g s xs) (hx : xs[i]? = some x) (hf : (l, wr) = f (sr x)) (hok : Ok { s with rows := s.rows.modify i f }) (hW : HasC W w.heap.size (.slice A n c) l) (hlen : l.length = s.w) (hb : Below w.heap.size w W) :
    ∃ xs', ScAt ((W.setCell ⟨g, i * 2, none⟩ (.slice A n c)).setCell ⟨g, i * 2 + 1, none⟩ (.bool wr)) p g { s with rows := s.rows.modify i f } xs' ∧ Went w ((W.setCell ⟨g, i * 2, none⟩ (.slice A n c)).setCell ⟨g, i * 2 + 1, none⟩ (.bool wr)) p g xs xs' := by
  have hn : n = s.w := by
    obtain ⟨_, _, e, _⟩ := HasC.shape hW
    injection e with _ e _
    rw [e, hlen]
  obtain ⟨k, hk, hk1, hk2⟩ := fresh_row hW (by rw [hn]; have := h.ok.w2; omega)
  have hA : ∀ z ∈ xs, z.A ≠ A := fun z hz e => by
    obtain ⟨k', hk', _, hlt⟩ := fresh_row (h.each z hz).1 (by rw [(h.each z hz).2]; have := h.ok.w2; omega)
    rw [hk', hk] at e
    injection e with e
    injection e with e
    omega
  have hp := (h.laid hb).putRow (x := ⟨A, n, c, wr, l⟩) (f := f) hx hf hok (HasC.mono hW (Nat.zero_le _)) hn (.inr hA)
  refine ⟨_, hp, ⟨?_, fun z hz => ?_⟩⟩
  · exact (Turned.ofBelow hb _).trans ((Turned.ofOnly ((OnlyRow.cell g _ W _).trans (OnlyRow.cell g _ _ _))).mono (fun _ _ e => .inr e)) (fun _ _ h => h)
  · rcases List.mem_or_eq_of_mem_set hz with hz | rfl
    · exact .inl ⟨z, hz, rfl⟩
    · exact .inr ⟨k, hk, hk1⟩
set_option maxRecDepth 100000 in
set_option maxHeartbeats 3200000 in
theorem set_walk {p g : Nat} {s : Scr} {xs : List RowIn} (lA : Option Addr) (lm lc : Nat) (L : List Cel) (w : World) (hs : Spans w) (h : ScAt w p g s xs) (hL : ∀ c ∈ L, -2147483648 ≤ c.1 ∧ c.1 ≤ 2147483647) (hm : lm ≤ 1000000) (hq : Sq w w.heap.size 3 lm lA (flat L)) : Calls Tryz.prog 111 #[ptrS p, .slice lA lm lc] w fun e w' => Done p g (setS s L) xs w e w' := by
  obtain ⟨x, hx, hsr, hc, hn, hg, hl, hsg⟩ := h.at' h.ok.row
  have hd := h.laid (Below.refl _ _).drew
  have SW := rowSet_walk x.A x.n x.c x.wrap x.l (s.c : Int) lA lm lc L w.drew (hs.below (Below.refl _ _).drew hs.size) hsg hL (hd.sq hx) (by rw [hn]; have := h.ok.w3; omega) hm (hq.below (Below.refl _ _).drew)
  go_enter Tryz.func111, Tryz.ntmps111
  go_wp2_with fail
  refine Ord.start (S := fun W => W.heap[p]? = w.drew.heap[p]?) (n := 32) (by kernel_rfl) (by kernel_rfl) rfl ?_
  have ofp : ∀ (W : World) (j : Nat), W.heap[p]? = w.drew.heap[p]? → W.cell? ⟨p, j, none⟩ = (scells s g)[j]? := fun W j e => cell_of_row W p j _ _ (0, 0) (e.trans hd.scr)
  apply set_region (w1 := w.drew) (p := p) (g := g) (sh := s.rows.length) (i := s.r) (c := s.c) (xA := x.A) (xn := x.n) (xc := x.c) (xw := x.wrap) (lA := lA) (lm := lm) (lc := lc) (p2 := undef) (p3 := undef) (K := fun W A n c => HasC W w.drew.heap.size (.slice A n c) (setRes x.l (s.c : Int) L) ∧ Below w.drew.heap.size w.drew W)
  case R => exact ⟨by kernel_rfl, by kernel_rfl⟩
  case hQ => exact fun _ _ _ _ _ h => h
  case k1 => exact fun W e => ofp W 1 e
  case k2 => exact fun W e => ofp W 2 e
  case k3 => exact fun W e => ofp W 3 e
  case hi0 => omega
  case hih => have := h.ok.row; omega
  case g0 => exact (hd.row hx).1
  case g1 => exact (hd.row hx).2
  case SW =>
    refine SW.mono ?_
    rintro e w' ⟨A, n, c, rfl, h1, h2⟩
    exact ⟨A, n, c, rfl, h1, h2⟩
  case KS => exact fun W A n c hK => hK.2.block p hd.ltp
  case KG => exact fun W A n c hK => ⟨⟨_, ((hd.laid hK.2).row hx).1⟩, ⟨_, ((hd.laid hK.2).row hx).2⟩, (hd.laid hK.2).freeg _, (hd.laid hK.2).freeg _⟩
  case KE => exact fun W A n c hK => (Below.heap_setCell _ _ _ _ (by exact hd.ne)).trans ((Below.heap_setCell _ _ _ _ (by exact hd.ne)).trans (hK.2.block p hd.ltp))
  case F => exact ⟨rfl, rfl, rfl, rfl, rfl, rfl⟩
  intro a2 W A n c hK F2
  have D : Done p g (setS s L) xs w (.returned (.tuple #[])) ((W.setCell ⟨g, s.r * 2, none⟩ (.slice A n c)).setCell ⟨g, s.r * 2 + 1, none⟩ (.bool x.wrap)) := by
    obtain ⟨xs', h1, h2⟩ := putRow_done (f := setR s.c L) hd hx rfl (h.ok.set hL) hK.1 (setRes_ok (x := sr x) ⟨hg, hl, hsg⟩ hL).2.1 hK.2
    exact ⟨⟨_, rfl⟩, xs', h1, (Went.laid (Below.refl _ _).drew).trans h2⟩
  have D' := Lib.hid D
  refine set_frame F2.size F2.defers F2.s0 F2.s1 F2.s2 F2.s3 ?_
  intros
  clear F2 D SW hK
  try dsimp only
  go_wp2
  go_end0
  exact D'.out
end Sc
end Go.Proofs.YtibihjcpkdfgeaaGreatDoor
namespace Go.Proofs.YtibihjcpkdfgeaaGreatDoor
open Go.ChangeShapes Go.WideShapes Go.ChangeAt Go.RowKit
namespace Sc
open Rw

/-- A method that answers the rows that went out. -/
def Told (p g : Nat) (s' : Scr) (out : List SR) (wd : Nat) (xs : List RowIn) (w : World) (e : Ending) (w' : World) : Prop :=
  ∃ v ys xs', e = .returned v ∧ ScAt w' p g s' xs' ∧ Went w w' p g xs xs' ∧ RowsIn w' w.heap.size v ys ∧ ys.map sr = out ∧ ∀ y ∈ ys, y.n = wd ∧ ((∃ z ∈ xs, z.A = y.A) ∨ ∃ k, y.A = some ⟨k, 0, none⟩ ∧ w.heap.size ≤ k) ∧ ∀ z ∈ xs', z.A ≠ y.A
theorem told_none {p g : Nat} {s' : Scr} {wd : Nat} {xs xs' : List RowIn} {w w' : World} (h : ScAt w' p g s' xs') (hw : Went w w' p g xs xs') : Told p g s' [] wd xs w (.returned (.slice none 0 0)) w' :=
  ⟨_, [], xs', rfl, h, hw, RowsIn.nothing _ _, rfl, fun _ h => by cases h⟩
theorem vals_drop' (xs : List RowIn) : (xs.drop 1).flatMap RowIn.vals = (xs.flatMap RowIn.vals).drop 2 := by
  cases xs with
  | nil => rfl
  | cons x xs => simp [RowIn.vals]
theorem vals_length (xs : List RowIn) : (xs.flatMap RowIn.vals).length = xs.length * 2 := flatMap_len RowIn.vals 2 (fun _ => rfl) xs
/-- The first row went, a blank one came behind. -/
theorem shifted {W W1 : World} {p g : Nat} {s : Scr} {x : RowIn} {xs : List RowIn} {y : RowIn} (h : ScAt W p g s (x :: xs)) (hr : ¬ s.r + 1 < s.rows.length) (hp : W1.heap[p]? = W.heap[p]?) (hg : W1.heap[g]? = some (.cells ((xs ++ [y]).flatMap RowIn.vals).toArray 53 (0, 0)))
    (ht : Turned (fun k => k = p ∨ k = g) W W1) (hy : HasC W1 W.heap.size (.slice y.A y.n y.c) y.l) (hl : sr y = (blanksL s.w, false)) : ScAt W1 p g (downS s) (xs ++ [y]) ∧ Went W W1 p g (x :: xs) (xs ++ [y]) ∧ ∀ z ∈ xs ++ [y], z.A ≠ x.A := by
  have hyl : y.l = blanksL s.w := congrArg Prod.fst hl
  have hyn : y.n = s.w := by
    obtain ⟨_, _, e, _⟩ := HasC.shape hy
    injection e with _ e _
    rw [e, hyl, blanksL_length]
  have w2 := h.ok.w2
  obtain ⟨k, hk, hk1, hk2⟩ := fresh_row hy (by rw [hyn]; omega)
  have old : ∀ z ∈ x :: xs, z.A ≠ y.A := fun z hz e => by
    obtain ⟨k', hk', _, hlt⟩ := fresh_row (h.each z hz).1 (by rw [(h.each z hz).2]; omega)
    rw [hk', hk] at e
    injection e with e
    injection e with e
    omega
  have hd : downS s = { s with rows := s.rows.drop 1 ++ [(blanksL s.w, false)] } := by unfold downS; rw [if_neg hr]
  have hap := h.apart
  rw [List.map_cons, List.nodup_cons] at hap
  refine ⟨⟨h.ok.down, ?_, ?_, hg, fun z hz => ?_, ?_⟩, ⟨ht, fun z hz => ?_⟩, fun z hz => ?_⟩
  · rw [hd]
    show (xs ++ [y]).map sr = s.rows.drop 1 ++ [(blanksL s.w, false)]
    rw [List.map_append, ← h.same]
    simp [hl]
  · rw [hp, h.scr, hd]
    unfold scells
    have e : (s.rows.drop 1 ++ [(blanksL s.w, false)]).length = s.rows.length := by
      have := h.ok.h1
      rw [List.length_append, List.length_drop, List.length_singleton]; omega
    simp only [e]
  · rw [show (downS s).w = s.w from (downS_w s).1]
    rcases List.mem_append.1 hz with hz | hz
    · have hz' := h.each z (List.mem_cons_of_mem _ hz)
      exact ⟨hasC_turned hz'.1 ht h.noC, hz'.2⟩
    · rw [List.mem_singleton.1 hz]
      exact ⟨HasC.mono hy (Nat.zero_le _), hyn⟩
  · rw [List.map_append, List.map_cons, List.map_nil]
    refine List.nodup_append.2 ⟨hap.2, by simp, fun a ha b hb => ?_⟩
    obtain ⟨z, hz, rfl⟩ := List.mem_map.1 ha
    rw [List.mem_singleton.1 hb]
    exact old z (List.mem_cons_of_mem _ hz)
  · rcases List.mem_append.1 hz with hz | hz
    · exact .inl ⟨z, List.mem_cons_of_mem _ hz, rfl⟩
    · rw [List.mem_singleton.1 hz]
      exact .inr ⟨k, hk, hk1⟩
  · rcases List.mem_append.1 hz with hz | hz
    · exact fun e => hap.1 (by rw [← e]; exact List.mem_map_of_mem hz)
    · rw [List.mem_singleton.1 hz]
      exact fun e => old x (List.mem_cons_self ..) e.symm
set_option maxRecDepth 100000 in
set_option maxHeartbeats 3200000 in
theorem down_more {p g : Nat} {s : Scr} {xs : List RowIn} (w : World) (h : ScAt w p g s xs) (hr : s.r + 1 < s.rows.length) : Calls Tryz.prog 113 #[ptrS p] w fun e w' => Told p g (downS s) (downO s) s.w xs w e w' := by
  have hd := h.laid (Below.refl _ _).drew
  have k1 : w.drew.cell? ⟨p, 1, none⟩ = some (.slice (some ⟨g, 0, none⟩) s.rows.length s.rows.length) := hd.get 1
  have k2 : w.drew.cell? ⟨p, 2, none⟩ = some (.int .i64 (s.r : Int)) := hd.get 2
  have f2 : w.drew.frozen? ⟨p, 2, none⟩ = false := hd.free 2
  have hh : IntKind.i64.wrap ((s.rows.length : Int) - 1) = (s.rows.length : Int) - 1 := by have := h.ok.h1; have := h.ok.h2; exact IntWalk.i64_in _ (by omega)
  have hr1 : IntKind.i64.wrap ((s.r : Int) + 1) = ((s.r + 1 : Nat) : Int) := by have := h.ok.h2; rw [IntWalk.i64_in _ (by omega)]; omega
  have hlt : (s.r : Int) < (s.rows.length : Int) - 1 := by omega
  have D := Lib.hid (show Told p g (downS s) (downO s) s.w xs w (.returned (.slice none 0 0)) (w.drew.setCell ⟨p, 2, none⟩ (.int .i64 ((s.r + 1 : Nat) : Int))) from by
    have e1 : downS s = { s with r := s.r + 1 } := by unfold downS; rw [if_pos hr]
    have e2 : downO s = [] := by unfold downO; rw [if_pos hr]
    rw [e1, e2]
    exact told_none (hd.setRow hr) ((Went.laid (Below.refl _ _).drew).trans (Went.cell 2 _)))
  generalize s.rows.length = sh at k1 hh hlt
  generalize ((s.r + 1 : Nat) : Int) = r1 at hr1 D
  clear hd hr
  go_enter Tryz.func113, Tryz.ntmps113
  go_wp2_with fail
  go_region
  all_goals go_wp2
  all_goals
    go_ret
    exact D.out
set_option maxRecDepth 100000 in
set_option maxHeartbeats 3200000 in
theorem down_last {p g : Nat} {s : Scr} {x : RowIn} {xs : List RowIn} (w : World) (h : ScAt w p g s (x :: xs)) (hr : ¬ s.r + 1 < s.rows.length) : Calls Tryz.prog 113 #[ptrS p] w fun e w' => Told p g (downS s) (downO s) s.w (x :: xs) w e w' := by
  have hd := h.laid (Below.refl _ _).drew
  have hlen : s.rows.length = xs.length + 1 := by rw [← h.len]; rfl
  obtain ⟨q, hq⟩ : ∃ q, xs.length = q := ⟨_, rfl⟩
  rw [hq] at hlen
  have k1 : w.drew.cell? ⟨p, 1, none⟩ = some (.slice (some ⟨g, 0, none⟩) (q + 1) (q + 1)) := by have := hd.get 1; rw [← hlen]; exact this
  have k2 : w.drew.cell? ⟨p, 2, none⟩ = some (.int .i64 (s.r : Int)) := hd.get 2
  have g0 : w.drew.cell? ⟨g, 0, none⟩ = some (.slice x.A x.n x.c) := by have := (hd.row (i := 0) (x := x) rfl).1; simpa using this
  have g1 : w.drew.cell? ⟨g, 1, none⟩ = some (.bool x.wrap) := by have := (hd.row (i := 0) (x := x) rfl).2; simpa using this
  have hh : IntKind.i64.wrap (q : Int) = (q : Int) := by have := h.ok.h2; exact IntWalk.i64_in _ (by omega)
  have hlt : ¬ (s.r : Int) < (q : Int) := by omega
  have q0 : (0 : Int) < (q : Int) + 1 := by omega
  have h100 : q + 1 ≤ 100 := by rw [← hlen]; exact h.ok.h2
  obtain ⟨b3, hb3⟩ : ∃ b3, w.heap.size = b3 := ⟨_, rfl⟩
  obtain ⟨w4, hw4⟩ : ∃ w4, w.drew.alloc (.cells #[.slice x.A x.n x.c, .bool x.wrap] 53) = w4 := ⟨_, rfl⟩
  have b4 : Below w.heap.size w w4 := by rw [← hw4]; exact (Below.refl _ _).drew.alloc (Nat.le_refl _) _
  have h4 : ScAt w4 p g s (x :: xs) := h.laid b4
  have r4 : RowAt w4 b3 (.slice x.A x.n x.c) x.wrap := by rw [← hw4, ← hb3]; exact heap_alloc_new w.drew _
  have z4 : w4.heap.size = b3 + 1 := by rw [← hw4, ← hb3]; simp
  have H := Lib.hid h
  have H4 := Lib.hid (h4.laid (Below.refl _ _).drew)
  have R4 := Lib.hid (show RowAt w4.drew b3 (.slice x.A x.n x.c) x.wrap from r4)
  have B4 := Lib.hid b4.drew
  have HW4 := Lib.hid hw4
  clear h hd hw4 b4 h4 r4
  go_enter Tryz.func113, Tryz.ntmps113
  go_wp2_with fail
  go_region
  all_goals go_wp2_with fail
  have hvs : ((x :: xs).flatMap RowIn.vals).length = q * 2 + 2 := by rw [vals_length, List.length_cons, hq]; omega
  have hvd : ((x :: xs).flatMap RowIn.vals).drop 2 = xs.flatMap RowIn.vals := rfl
  have hxl : (xs.flatMap RowIn.vals).length = q * 2 := by rw [vals_length, hq]
  have w23 := And.intro H.out.ok.w2 H.out.ok.w3
  have hbl : blankN (s.w : Int) = s.w := by unfold blankN; omega
  have hpg := H4.out.ne
  have S1 : (scells s g)[1]? = some (.slice (some ⟨g, 0, none⟩) (q + 1) (q + 1)) := by unfold scells; rw [hlen]; rfl
  have SE : (scells s g).setIfInBounds 1 (.slice (some ⟨g, 0, none⟩) (q + 1) (q + 1)) = scells s g := by unfold scells; rw [hlen]; simp
  have bpg : ∀ W, OnlyRow g w4.drew W → W.heap[p]? = w4.drew.heap[p]? := fun W o => o.block p hpg
  have KP : ∀ W A n c, (∃ w1 : World, (w1.heap[g]? = some (.cells (xs.flatMap RowIn.vals ++ [Value.slice none 0 0, Value.bool false]).toArray 53 (0, 0)) ∧ OnlyRow g w4.drew w1) ∧ HasC W w1.heap.size (.slice A n c) (blanksL s.w) ∧ Below w1.heap.size w1 W) →
      W.heap[g]? = some (.cells (xs.flatMap RowIn.vals ++ [Value.slice none 0 0, Value.bool false]).toArray 53 (0, 0)) ∧ W.heap[p]? = w4.drew.heap[p]? ∧ HasC W w4.drew.heap.size (.slice A n c) (blanksL s.w) ∧ Turned (· = g) w4.drew W ∧ g < W.heap.size ∧ p < W.heap.size := by
    rintro W A n c ⟨w1, ⟨hg1, o1⟩, hc, hb⟩
    have hgl := (Array.getElem?_eq_some_iff.1 hg1).1
    have hsz := o1.size
    have hpl := H4.out.ltp
    refine ⟨(hb.block g hgl).trans hg1, (hb.block p (by omega)).trans (bpg _ o1), by rw [← hsz]; exact hc, (Turned.ofOnly o1).trans (Turned.ofBelow hb (fun _ => False)) (fun _ _ f => f.elim), by have := hb.size; omega, by have := hb.size; omega⟩
  have GA : ∀ (W : World) (o : Obj), g < W.heap.size → (W.alloc o).heap[g]? = W.heap[g]? := fun W o hl => Below.heap_alloc _ _ _ hl
  have PA : ∀ (W : World) (o : Obj), p < W.heap.size → (W.alloc o).heap[p]? = W.heap[p]? := fun W o hl => Below.heap_alloc _ _ _ hl
  have KE' : ∀ W A n c, (∃ w1 : World, (w1.heap[g]? = some (.cells (xs.flatMap RowIn.vals ++ [Value.slice none 0 0, Value.bool false]).toArray 53 (0, 0)) ∧ OnlyRow g w4.drew w1) ∧ HasC W w1.heap.size (.slice A n c) (blanksL s.w) ∧ Below w1.heap.size w1 W) → ((((W.alloc (.cells #[.slice A n c, .bool false] 53)).setCell ⟨g, q * 2, none⟩ (.slice A n c)).setCell ⟨g, q * 2 + 1, none⟩ (.bool false)).setCell ⟨p, 1, none⟩ (.slice (some ⟨g, 0, none⟩) (q + 1) (q + 1))).heap[p]? = w4.drew.heap[p]? := by
    intro W A n c hK
    have e := (Below.heap_setCell _ ⟨g, q * 2 + 1, none⟩ (.bool false) p (by exact hpg)).trans ((Below.heap_setCell _ ⟨g, q * 2, none⟩ (.slice A n c) p (by exact hpg)).trans ((PA W (.cells #[.slice A n c, .bool false] 53) (KP W A n c hK).2.2.2.2.2).trans ((KP W A n c hK).2.1.trans H4.out.scr)))
    rw [heap_setCell_same _ p 1 _ _ _ e, H4.out.scr, SE]
  have DN : ∀ W A n c, (∃ w1 : World, (w1.heap[g]? = some (.cells (xs.flatMap RowIn.vals ++ [Value.slice none 0 0, Value.bool false]).toArray 53 (0, 0)) ∧ OnlyRow g w4.drew w1) ∧ HasC W w1.heap.size (.slice A n c) (blanksL s.w) ∧ Below w1.heap.size w1 W) → ∀ wz, ((((W.alloc (.cells #[.slice A n c, .bool false] 53)).setCell ⟨g, q * 2, none⟩ (.slice A n c)).setCell ⟨g, q * 2 + 1, none⟩ (.bool false)).setCell ⟨p, 1, none⟩ (.slice (some ⟨g, 0, none⟩) (q + 1) (q + 1))) = wz → RowAt wz b3 (.slice x.A x.n x.c) x.wrap ∧ Told p g (downS s) (downO s) s.w (x :: xs) w (.returned (.slice (some ⟨wz.heap.size, 0, none⟩) 1 1)) (wz.alloc (.cells #[.slice x.A x.n x.c, .bool x.wrap] 53)) := by
    intro W A n c hK wz hwz
    obtain ⟨k1', k2', k3', k4', k5', k6'⟩ := KP W A n c hK
    have hp : wz.heap[p]? = w4.drew.heap[p]? := by rw [← hwz]; exact KE' W A n c hK
    have hsz : w4.drew.heap.size = b3 + 1 := z4
    have hpl := H.out.ltp
    have hgl := H.out.ltg
    have hg : wz.heap[g]? = some (.cells ((xs ++ [(⟨A, n, c, false, blanksL s.w⟩ : RowIn)]).flatMap RowIn.vals).toArray 53 (0, 0)) := by
      rw [← hwz, Below.heap_setCell _ _ _ _ (by exact fun e => hpg e.symm), heap_setCell_same _ g _ _ _ _ (heap_setCell_same _ g _ _ _ _ ((GA W _ k5').trans k1'))]
      have e : (((xs.flatMap RowIn.vals ++ [Value.slice none 0 0, Value.bool false]).set (q * 2) (.slice A n c)).set (q * 2 + 1) (.bool false)) = (xs ++ [(⟨A, n, c, false, blanksL s.w⟩ : RowIn)]).flatMap RowIn.vals := by
        rw [List.set_append_right _ _ (by omega), hxl, Nat.sub_self, List.set_append_right _ _ (by omega), hxl, show q * 2 + 1 - q * 2 = 1 by omega, List.flatMap_append]
        rfl
      rw [← e]
      simp only [List.setIfInBounds_toArray]
    have ha := (Below.refl W.heap.size W).alloc (Nat.le_refl _) (.cells #[.slice A n c, .bool false] 53)
    have ht : Turned (fun k => k = p ∨ k = g) w4.drew wz := by
      rw [← hwz]
      exact ((((k4'.mono fun _ _ e => .inr e).trans (Turned.ofBelow ha _) (fun _ _ h => h)).trans ((Turned.ofCell g _ _ _).mono fun _ _ e => .inr e) (fun _ _ h => h)).trans ((Turned.ofCell g _ _ _).mono fun _ _ e => .inr e) (fun _ _ h => h)).trans ((Turned.ofCell p _ _ _).mono fun _ _ e => .inl e) (fun _ _ h => h)
    have hy : HasC wz w4.drew.heap.size (.slice A n c) (blanksL s.w) := by
      refine HasC.keep k3' (fun j e => ?_)
      obtain ⟨h1, h2⟩ := HasC.lt k3' j e
      rw [← hwz, Below.heap_setCell _ _ _ _ (by show j ≠ p; omega), Below.heap_setCell _ _ _ _ (by show j ≠ g; omega), Below.heap_setCell _ _ _ _ (by show j ≠ g; omega)]
      exact Below.heap_alloc _ _ _ h2
    obtain ⟨s1, s2, s3⟩ := shifted (y := ⟨A, n, c, false, blanksL s.w⟩) H4.out hr hp hg ht hy rfl
    have rz : RowAt wz b3 (.slice x.A x.n x.c) x.wrap := (ht.block b3 (by omega) (by omega)).trans R4.out
    have bz := (Below.refl wz.heap.size wz).alloc (Nat.le_refl _) (.cells #[.slice x.A x.n x.c, .bool x.wrap] 53)
    have eO : downO s = [sr x] := by unfold downO; rw [if_neg hr, ← H.out.same]; rfl
    have hx0 := H.out.each x (List.mem_cons_self ..)
    have hxs := (H.out.at' (i := 0) (by omega))
    refine ⟨rz, .slice (some ⟨wz.heap.size, 0, none⟩) 1 1, [x], _, rfl, s1.laid bz, ((Went.laid B4.out).trans s2).trans (Went.laid bz), ⟨⟨rfl, .inr ⟨wz.heap.size, 1, _, rfl, by have := ht.size; have := B4.out.size; omega, heap_alloc_new wz _, Nat.le_refl _, by unfold maxLen; omega, rfl, rfl⟩⟩, fun y hy' => ?_⟩, by rw [eO]; rfl, fun y hy' => ?_⟩
    · rw [List.mem_singleton.1 hy']
      obtain ⟨x', hx', _, _, _, _, _, hsg⟩ := hxs
      obtain rfl : x = x' := by simpa using hx'
      refine ⟨hasC_turned (M := fun k => k = p ∨ k = g) hx0.1 ((((Turned.ofBelow B4.out _).trans ht (fun _ _ h => h))).trans (Turned.ofBelow bz _) (fun _ _ h => h)) H.out.noC, hsg⟩
    · rw [List.mem_singleton.1 hy']
      exact ⟨hx0.2, .inl ⟨x, List.mem_cons_self .., rfl⟩, s3⟩
  change Code.wp _ _ _ _ (w.drew.alloc (.cells #[.slice x.A x.n x.c, .bool x.wrap] 53))
  rw [HW4.out]
  refine Ord.start (S := fun W => W.heap[p]? = w4.drew.heap[p]?) (n := 16) (by kernel_rfl) (by kernel_rfl) rfl ?_
  have ofp : ∀ (W : World) (j : Nat), W.heap[p]? = w4.drew.heap[p]? → W.cell? ⟨p, j, none⟩ = (scells s g)[j]? := fun W j e => cell_of_row W p j _ _ (0, 0) (e.trans H4.out.scr)
  apply down_region (w1 := w4.drew) (p := p) (g := g) (q := q) (sw := s.w) (p3 := .pointer (some ⟨b3, 0, none⟩)) (P1 := fun W => W.heap[g]? = some (.cells (xs.flatMap RowIn.vals ++ [Value.slice none 0 0, Value.bool false]).toArray 53 (0, 0)) ∧ OnlyRow g w4.drew W)
    (P2 := fun W A n c => ∃ w1 : World, (w1.heap[g]? = some (.cells (xs.flatMap RowIn.vals ++ [Value.slice none 0 0, Value.bool false]).toArray 53 (0, 0)) ∧ OnlyRow g w4.drew w1) ∧ HasC W w1.heap.size (.slice A n c) (blanksL s.w) ∧ Below w1.heap.size w1 W)
  case R => exact ⟨by kernel_rfl, by kernel_rfl⟩
  case hQ => exact fun _ _ _ _ _ h => h
  case k1 => exact fun W e => (ofp W 1 e).trans S1
  case k0 => exact fun W e => ofp W 0 e
  case DEL =>
    refine (rowsDelete_walk g q ((x :: xs).flatMap RowIn.vals) w4.drew hvs (by omega) (fun v hv => ?_) H4.out.rows).mono ?_
    · obtain ⟨z, hz, hv⟩ := List.mem_flatMap.1 hv
      exact vals_one z v hv
    · rintro e w' ⟨rfl, h1, h2⟩
      exact ⟨rfl, h1, h2⟩
  case BLK =>
    rintro w1 hP1
    refine (rowBlank_walk (s.w : Int) w1).mono ?_
    rintro e w' ⟨g2, rfl, h1, h2⟩
    rw [hbl] at h1 ⊢
    exact ⟨_, _, _, rfl, w1, hP1, h1, h2⟩
  case KA =>
    intro W A n c hK
    obtain ⟨k1', k2', k3', k4', k5', k6'⟩ := KP W A n c hK
    have e := (GA W (.cells #[.slice A n c, .bool false] 53) k5').trans k1'
    refine ⟨⟨.slice none 0 0, ?_⟩, ⟨.bool false, ?_⟩, frozen_of_row _ g _ _ _ e, frozen_of_row _ g _ _ _ e⟩
    · rw [cell_of_row _ g _ _ _ (0, 0) e, List.getElem?_toArray, List.getElem?_append_right (by omega), hxl, Nat.sub_self]; rfl
    · rw [cell_of_row _ g _ _ _ (0, 0) e, List.getElem?_toArray, List.getElem?_append_right (by omega), hxl, show q * 2 + 1 - q * 2 = 1 by omega]; rfl
  case KS1 => exact fun W hP => bpg W hP.2
  case KS2 => exact fun W A n c hK => (KP W A n c hK).2.1
  case KS3 => exact fun W A n c hK => (PA W _ (KP W A n c hK).2.2.2.2.2).trans (KP W A n c hK).2.1
  case KS4 => exact fun W A n c hK => (Below.heap_setCell _ _ _ _ (by exact hpg)).trans ((Below.heap_setCell _ _ _ _ (by exact hpg)).trans ((PA W _ (KP W A n c hK).2.2.2.2.2).trans (KP W A n c hK).2.1))
  case KF => exact fun W A n c hK => frozen_of_row _ p 1 _ _ ((Below.heap_setCell _ _ _ _ (by exact hpg)).trans ((Below.heap_setCell _ _ _ _ (by exact hpg)).trans ((PA W _ (KP W A n c hK).2.2.2.2.2).trans ((KP W A n c hK).2.1.trans H4.out.scr))))
  case KE => exact KE'
  case F => exact ⟨rfl, rfl, rfl, rfl⟩
  intro a2 W A n c hK F2
  obtain ⟨wz, hwz⟩ : ∃ wz, ((((W.alloc (.cells #[.slice A n c, .bool false] 53)).setCell ⟨g, q * 2, none⟩ (.slice A n c)).setCell ⟨g, q * 2 + 1, none⟩ (.bool false)).setCell ⟨p, 1, none⟩ (.slice (some ⟨g, 0, none⟩) (q + 1) (q + 1))) = wz := ⟨_, rfl⟩
  have DZ := DN W A n c hK wz hwz
  have m0 := DZ.1.get 0
  have m1 := DZ.1.get 1
  have D' := Lib.hid DZ.2
  rw [hwz]
  refine down_frame F2.size F2.defers F2.s0 F2.s3 ?_
  intros
  clear F2 DZ DN KE' KP GA PA bpg ofp hK hwz k1 k2 g0 g1
  try dsimp only
  go_wp2
  go_ret
  exact D'.out
end Sc
end Go.Proofs.YtibihjcpkdfgeaaGreatDoor
namespace Go.Proofs.YtibihjcpkdfgeaaGreatDoor
open Go.ChangeShapes Go.WideShapes Go.ChangeAt Go.RowKit
namespace Sc
open Rw

theorem down_walk {p g : Nat} {s : Scr} {xs : List RowIn} (w : World) (h : ScAt w p g s xs) : Calls Tryz.prog 113 #[ptrS p] w fun e w' => Told p g (downS s) (downO s) s.w xs w e w' := by
  by_cases hr : s.r + 1 < s.rows.length
  · exact down_more w h hr
  · cases xs with
    | nil => have := h.len; have := h.ok.h1; simp at *; omega
    | cons x xs => exact down_last w h hr
/-- A list of one cell just built. -/
theorem sq_cells {W : World} {b : Nat} {l : List Cel} (h : W.heap[b]? = some (.cells (flat l).toArray 67 (0, 0))) : Sq W W.heap.size 3 l.length (some ⟨b, 0, none⟩) (flat l) :=
  ⟨flat_length l, fun _ => ⟨b, 0, rfl, (Array.getElem?_eq_some_iff.1 h).1, fun j u hu => by
    rw [Nat.zero_add, cell_of_row _ b j _ _ (0, 0) h, List.getElem?_toArray]
    exact hu⟩⟩
theorem vals_mark {xs : List RowIn} {i : Nat} {x : RowIn} (hx : xs[i]? = some x) : (xs.flatMap RowIn.vals).set (i * 2 + 1) (.bool true) = (xs.set i { x with wrap := true }).flatMap RowIn.vals := by
  rw [vals_set xs i _ (List.getElem?_eq_some_iff.1 hx).1]
  congr 1
  refine List.ext_getElem? fun j => ?_
  rw [List.getElem?_set]
  by_cases e : i * 2 = j
  · subst e
    have h0 := flatMap_get RowIn.vals 2 (fun _ => rfl) xs i x hx 0 _ rfl
    rw [Nat.add_zero] at h0
    rw [if_pos rfl, if_pos (List.getElem?_eq_some_iff.1 h0).1, h0]
  · rw [if_neg e]
theorem ScAt.marked {W : World} {p g : Nat} {s : Scr} {xs : List RowIn} (h : ScAt W p g s xs) : ∃ xs', ScAt ((W.setCell ⟨g, s.r * 2 + 1, none⟩ (.bool true)).setCell ⟨p, 3, none⟩ (.int .i64 0)) p g (markS s) xs' ∧ Went W ((W.setCell ⟨g, s.r * 2 + 1, none⟩ (.bool true)).setCell ⟨p, 3, none⟩ (.int .i64 0)) p g xs xs' := by
  obtain ⟨x, hx, hsr, hc, hn, _⟩ := h.at' h.ok.row
  have hi := (List.getElem?_eq_some_iff.1 hx).1
  have ht : Turned (· = g) W (W.setCell ⟨g, s.r * 2 + 1, none⟩ (.bool true)) := Turned.ofCell g _ W _
  have hno : ∀ k, k = g → ¬ Typed W 67 k := fun k e => h.noC k (.inr e)
  have hA : (xs.set s.r { x with wrap := true }).map RowIn.A = xs.map RowIn.A := by
    refine List.ext_getElem? fun j => ?_
    rw [List.getElem?_map, List.getElem?_map, List.getElem?_set]
    by_cases e : s.r = j
    · subst e; rw [if_pos rfl, if_pos hi, hx]; rfl
    · rw [if_neg e]
  have m1 : ScAt (W.setCell ⟨g, s.r * 2 + 1, none⟩ (.bool true)) p g { s with rows := s.rows.modify s.r (fun x => (x.1, true)) } (xs.set s.r { x with wrap := true }) := by
    have ho := h.ok.mark
    refine ⟨⟨ho.w2, ho.w3, ho.h1, ho.h2, ho.row, h.ok.col, ho.a0, ho.a1, ho.each⟩, by rw [map_set_modify (f := fun x => (x.1, true)) hx rfl, h.same], ?_, ?_, fun z hz => ?_, by rw [hA]; exact h.apart⟩
    · rw [ht.block p h.ltp h.ne, h.scr]
      unfold scells
      simp
    · rw [heap_setCell_same W g _ _ _ _ h.rows, ← vals_mark hx]
      simp only [List.setIfInBounds_toArray]
    · rcases List.mem_or_eq_of_mem_set hz with hz | rfl
      · exact ⟨hasC_turned (h.each z hz).1 ht hno, (h.each z hz).2⟩
      · have := h.each x (List.mem_of_getElem? hx)
        exact ⟨hasC_turned this.1 ht hno, this.2⟩
  refine ⟨_, m1.setCol (c := 0) (Nat.zero_le _), ⟨(ht.mono fun _ _ e => .inr e).trans ((Turned.ofCell p _ _ _).mono fun _ _ e => .inl e) (fun _ _ h => h), fun z hz => ?_⟩⟩
  have : z.A ∈ xs.map RowIn.A := by rw [← hA]; exact List.mem_map_of_mem hz
  obtain ⟨y, hy, e⟩ := List.mem_map.1 this
  exact .inl ⟨y, hy, e⟩
theorem rowsIn_mono {W : World} {base base' : Nat} {v : Value} {xs : List RowIn} (h : RowsIn W base v xs) (hb : base' ≤ base) : RowsIn W base' v xs := by
  refine ⟨⟨h.own.1, ?_⟩, h.each⟩
  rcases h.own.2 with e | ⟨g, cap, cur, e, e2, r⟩
  · exact .inl e
  · exact .inr ⟨g, cap, cur, e, Nat.le_trans hb e2, r⟩
theorem Told.behind {p g : Nat} {s' : Scr} {out : List SR} {wd : Nat} {xs xs1 : List RowIn} {w w1 : World} {e : Ending} {w' : World} (h : Told p g s' out wd xs1 w1 e w') (hw : Went w w1 p g xs xs1) : Told p g s' out wd xs w e w' := by
  obtain ⟨v, ys, xs', he, ha, hw', hr, ho, hy⟩ := h
  refine ⟨v, ys, xs', he, ha, hw.trans hw', rowsIn_mono hr hw.turned.size, ho, fun y hy' => ?_⟩
  obtain ⟨h1, h2, h3⟩ := hy y hy'
  refine ⟨h1, ?_, h3⟩
  rcases h2 with ⟨z, hz, ez⟩ | ⟨k, ek, hk⟩
  · rcases hw.from' z hz with ⟨z', hz', e'⟩ | ⟨k, ek, hk⟩
    · exact .inl ⟨z', hz', e'.trans ez⟩
    · exact .inr ⟨k, ez ▸ ek, hk⟩
  · exact .inr ⟨k, ek, Nat.le_trans hw.turned.size hk⟩
/-- What is done behind the rows' going out. -/
theorem Told.more {p g : Nat} {s' s2 : Scr} {out : List SR} {wd : Nat} {xs : List RowIn} {w w' w2 : World} {v : Value} {ys xs' xs2 : List RowIn} (ha : Went w w' p g xs xs') (hr : RowsIn w' w.heap.size v ys) (ho : ys.map sr = out)
    (hy : ∀ y ∈ ys, y.n = wd ∧ ((∃ z ∈ xs, z.A = y.A) ∨ ∃ k, y.A = some ⟨k, 0, none⟩ ∧ w.heap.size ≤ k) ∧ ∀ z ∈ xs', z.A ≠ y.A) (h0 : ScAt w' p g s' xs') (h2 : ScAt w2 p g s2 xs2) (hw : Went w' w2 p g xs' xs2) (hv : ∀ k, v.ownBlock = some k → k ≠ g) (hwd : 0 < wd) : Told p g s2 out wd xs w (.returned v) w2 := by
  refine ⟨v, ys, xs2, rfl, h2, ha.trans hw, hr.turned hw.turned (fun k e => ?_) h0.noC, ho, fun y hy' => ?_⟩
  · rintro (rfl | rfl)
    · exact h0.typ.apart (hr.typed k e) (by decide) rfl
    · exact hv k e rfl
  · obtain ⟨h1, h3, h4⟩ := hy y hy'
    refine ⟨h1, h3, fun z hz e => ?_⟩
    rcases hw.from' z hz with ⟨z', hz', e'⟩ | ⟨k, ek, hk⟩
    · exact h4 z' hz' (e'.trans e)
    · obtain ⟨k', hk', _, hlt⟩ := fresh_row (hr.each y hy').1 (by omega)
      rw [← e, ek] at hk'
      injection hk' with hk'
      injection hk' with hk'
      omega
set_option maxRecDepth 100000 in
set_option maxHeartbeats 3200000 in
theorem wrap_walk {p g : Nat} {s : Scr} {xs : List RowIn} (w : World) (hs : Spans w) (h : ScAt w p g s xs) : Calls Tryz.prog 110 #[ptrS p] w fun e w' => Told p g (wrapS s) (wrapO s) s.w xs w e w' := by
  have hd := h.laid (Below.refl _ _).drew
  have k0 : w.drew.cell? ⟨p, 0, none⟩ = some (.int .i64 (s.w : Int)) := hd.get 0
  have k3 : w.drew.cell? ⟨p, 3, none⟩ = some (.int .i64 (s.c : Int)) := hd.get 3
  have REST := Lib.hid (show ∀ W xs1, ScAt W p g (padS s) xs1 → Went w W p g xs xs1 → (W.drew.cell? ⟨p, 1, none⟩ = some (.slice (some ⟨g, 0, none⟩) s.rows.length s.rows.length) ∧ W.drew.cell? ⟨p, 2, none⟩ = some (.int .i64 (s.r : Int)) ∧ (∃ v, W.drew.cell? ⟨g, s.r * 2 + 1, none⟩ = some v) ∧ W.drew.frozen? ⟨g, s.r * 2 + 1, none⟩ = false ∧ (∃ v, W.drew.cell? ⟨p, 3, none⟩ = some v) ∧ W.drew.frozen? ⟨p, 3, none⟩ = false) ∧
      (∀ W2, W.drew.setCell ⟨g, s.r * 2 + 1, none⟩ (.bool true) = W2 → Calls Tryz.prog 113 #[ptrS p] (W2.setCell ⟨p, 3, none⟩ (.int .i64 0)) fun e w' => Told p g (wrapS s) (wrapO s) s.w xs w e w') from fun W xs1 h1 hw => by
    have hd1 := h1.laid (Below.refl _ _).drew
    obtain ⟨e1, e2, e3, e4, e5⟩ := padS_w s
    obtain ⟨x, hx, _⟩ := hd1.at' h1.ok.row
    have hx' := (hd1.row hx).2
    rw [e4] at hx'
    refine ⟨⟨?_, ?_, ⟨_, hx'⟩, hd1.freeg _, ⟨_, hd1.get 3⟩, hd1.free 3⟩, fun W2 hW2 => ?_⟩
    · have := hd1.get 1; rw [show (scells (padS s) g)[1]? = some (.slice (some ⟨g, 0, none⟩) (padS s).rows.length (padS s).rows.length) from rfl, e5] at this; exact this
    · have := hd1.get 2; rw [show (scells (padS s) g)[2]? = some (.int .i64 ((padS s).r : Int)) from rfl, e4] at this; exact this
    · subst hW2
      obtain ⟨xs2, m1, m2⟩ := hd1.marked
      rw [e4] at m1 m2
      refine (down_walk _ m1).mono fun e w' ht => ?_
      have hw2 : (markS (padS s)).w = s.w := e1
      rw [hw2] at ht
      exact ht.behind ((hw.trans (Went.laid (Below.refl _ _).drew)).trans m2))
  have ST := Lib.hid (fun (hc : s.c < s.w) (W : World) (b : Below w.heap.size w W) => set_walk (some ⟨W.heap.size, 0, none⟩) 1 1 [(0, 1, 0)] (W.alloc (.cells #[.int .i32 0, .int .i64 1, .int .i64 0] 67)) (hs.below (b.alloc b.size _) hs.size) (h.laid (b.alloc b.size _)) (by intro c hc; rw [List.mem_singleton.1 hc]; simp) (by omega) (sq_cells (l := [(0, 1, 0)]) (by exact heap_alloc_new W _)))
  have hi0 : (0 : Int) ≤ (s.r : Int) := by omega
  have hih : (s.r : Int) < (s.rows.length : Int) := by have := h.ok.row; omega
  have H := Lib.hid h
  by_cases hc : s.c < s.w
  · have hcw : (s.c : Int) < (s.w : Int) := by omega
    have hp : padS s = setS s [(0, 1, 0)] := by unfold padS; rw [if_pos hc]
    have PW := Lib.hid (pad_walk w.drew)
    clear h hd
    go_enter Tryz.func110, Tryz.ntmps110
    go_wp2_with fail
    go_region
    all_goals
      go_wp2_with fail
      refine PW.out.mono ?_
      rintro e w2 ⟨rfl, b2⟩
      have B2 := Lib.hid ((Below.refl w.heap.size w).drew.trans b2)
      have S2 := Lib.hid (ST.out hc w2 B2.out)
      clear b2 k0 k3 PW
      go_wp2_with fail
      refine S2.out.mono ?_
      rintro e w3 ⟨⟨_, rfl⟩, xs1, h1, hw1⟩
      rw [← hp] at h1
      obtain ⟨⟨r1, r2, ⟨v3, r3⟩, r4, ⟨v5, r5⟩, r6⟩, rest⟩ := REST.out w3 xs1 h1 ((Went.laid (B2.out.alloc B2.out.size _)).trans hw1)
      have RR := Lib.hid rest
      clear rest h1 hw1 S2
      have hne := H.out.ne
      have hne' : g ≠ p := fun e => hne e.symm
      have r5' : w3.cell? ⟨p, 3, none⟩ = some v5 := r5
      have r6' : w3.frozen? ⟨p, 3, none⟩ = false := r6
      have DW := RR.out _ rfl
      have D5 := Lib.hid DW
      clear DW RR
      go_wp2_with fail
      go_region
      all_goals
        go_wp2_with fail
        refine D5.out.mono ?_
        rintro e w7 ⟨v7, ys, xs7, rfl, t7⟩
        have T7 := Lib.hid (show Told p g (wrapS s) (wrapO s) s.w xs w (.returned v7) w7 from ⟨v7, ys, xs7, rfl, t7⟩)
        clear t7
        go_wp2
        go_ret
        exact T7.out
  · have hcw : ¬ (s.c : Int) < (s.w : Int) := by omega
    have hp : padS s = s := by unfold padS; rw [if_neg hc]
    obtain ⟨⟨r1, r2, ⟨v3, r3⟩, r4, ⟨v5, r5⟩, r6⟩, rest⟩ := REST.out w.drew xs (by rw [hp]; exact hd) (Went.laid (Below.refl _ _).drew)
    have RR := Lib.hid rest
    clear rest h hd
    have hne := H.out.ne
    have hne' : g ≠ p := fun e => hne e.symm
    have r5' : w.cell? ⟨p, 3, none⟩ = some v5 := r5
    have r6' : w.frozen? ⟨p, 3, none⟩ = false := r6
    have r5'' : w.drew.cell? ⟨p, 3, none⟩ = some v5 := r5
    have r6'' : w.drew.frozen? ⟨p, 3, none⟩ = false := r6
    have DW := RR.out _ rfl
    have D5 := Lib.hid DW
    clear DW RR
    go_enter Tryz.func110, Tryz.ntmps110
    go_wp2_with fail
    go_region
    all_goals
      go_wp2_with fail
      go_region
      all_goals
        go_wp2_with fail
        refine D5.out.mono ?_
        rintro e w7 ⟨v7, ys, xs7, rfl, t7⟩
        have T7 := Lib.hid (show Told p g (wrapS s) (wrapO s) s.w xs w (.returned v7) w7 from ⟨v7, ys, xs7, rfl, t7⟩)
        clear t7
        go_wp2
        go_ret
        exact T7.out
end Sc
end Go.Proofs.YtibihjcpkdfgeaaGreatDoor
namespace Go.Proofs.YtibihjcpkdfgeaaGreatDoor
open Go.ChangeShapes Go.WideShapes Go.ChangeAt Go.RowKit
namespace Sc
open Rw

theorem ofL_length {r a : Int} (h0 : 0 ≤ a) (h1 : a ≤ 255) : ((ofL r a).length : Int) = wof r := by
  have hm : mayA a = true := by simp [mayA, h0, h1]
  have := wof_range r
  unfold ofL
  rw [if_pos hm]
  split
  · rename_i e; rw [e]; rfl
  · split
    · rename_i e; rw [e]; rfl
    · simp; omega
/-- What is done behind the question whether the row is to be wrapped. -/
structure Tail (p g : Nat) (s : Scr) (r : Int) (W : World) (xs1 : List RowIn) : Prop where
  attr : W.cell? ⟨p, 3 + 1, none⟩ = some (.int .i64 s.a)
  cells : Calls Tryz.prog 106 #[.int .i32 r, .int .i64 s.a] W fun e w' => ∃ A n c, e = .returned (.slice A n c) ∧ Below W.heap.size W w' ∧ HasC w' W.heap.size (.slice A n c) (ofL r s.a)
  set : ∀ w' A n c, Below W.heap.size W w' → HasC w' W.heap.size (.slice A n c) (ofL r s.a) → Calls Tryz.prog 111 #[ptrS p, .slice A n c] w' fun e w'' => (∃ y, e = .returned y) ∧ ∃ xs2, (w''.cell? ⟨p, 3, none⟩ = some (.int .i64 ((roomS s (wof r)).c : Int)) ∧ w''.frozen? ⟨p, 3, none⟩ = false) ∧ ∀ X : Int, X = ((roomS s (wof r)).c : Int) + wof r → ScAt (w''.setCell ⟨p, 3, none⟩ (.int .i64 X)) p g (printS s r) xs2 ∧ Went W (w''.setCell ⟨p, 3, none⟩ (.int .i64 X)) p g xs1 xs2
theorem tail_of {p g : Nat} {s : Scr} {xs1 : List RowIn} {r : Int} {W : World} (hr0 : -2147483648 ≤ r) (hr1 : r ≤ 2147483647) (ho : Ok s) (hk : wof r ≠ 0) (hs : Spans W) (h : ScAt W p g (roomS s (wof r)) xs1) : Tail p g s r W xs1 := by
  have ha := (roomS_w s (wof r)).2
  have hw := (roomS_w s (wof r)).1
  refine ⟨?_, ?_, fun w' A n c hb hc => ?_⟩
  · have := h.get 4
    rw [show (scells (roomS s (wof r)) g)[4]? = some (.int .i64 (roomS s (wof r)).a) from rfl, ha] at this
    exact this
  · refine (cellOf_walk r s.a hr0 hr1 W hs).mono ?_
    rintro e w' ⟨v, rfl, h1, h2⟩
    obtain ⟨A, c, rfl, _⟩ := HasC.shape h1
    exact ⟨A, _, c, rfl, h2, h1⟩
  · have hn : n = (ofL r s.a).length := by
      obtain ⟨_, _, e, _⟩ := HasC.shape hc
      injection e
    have hl := ofL_length (r := r) ho.a0 ho.a1
    have hwr := wof_range r
    refine (set_walk A n c (ofL r s.a) w' (hs.below hb hs.size) (h.laid hb) (ofL_signs hr0 hr1) (by omega) (HasC.sq hc)).mono ?_
    rintro e w'' ⟨he, xs2, h2, hw2⟩
    refine ⟨he, xs2, ⟨h2.get 3, h2.free 3⟩, fun X hX => ?_⟩
    have hcol := ho.room_col hwr.2 hwr.1
    have e1 : X = (((roomS s (wof r)).c + (wof r).toNat : Nat) : Int) := by omega
    rw [e1]
    have h3 := h2.setCol (c := (roomS s (wof r)).c + (wof r).toNat) (by show _ ≤ (roomS s (wof r)).w; rw [hw]; omega)
    refine ⟨?_, ((Went.laid hb).trans hw2).trans (Went.cell 3 _)⟩
    unfold printS
    rw [if_neg hk]
    exact h3
theorem spans_apart {W : World} {p g : Nat} {s : Scr} {xs : List RowIn} (hs : Spans W) (h : ScAt W p g s xs) : ¬ (0 = p ∨ 0 = g) := by
  rintro (e | e)
  · have h1 := hs.first 0 (by omega)
    have h2 := h.get 0
    rw [Nat.zero_mul] at h1
    subst e
    rw [h1] at h2
    cases h2
  · have h1 := hs.first 0 (by omega)
    obtain ⟨x, hx, _⟩ := h.at' (i := 0) (by have := h.ok.h1; omega)
    have h2 := (h.row hx).1
    rw [Nat.zero_mul] at h1 h2
    subst e
    rw [h1] at h2
    cases h2
theorem spans_went {W W' : World} {p g : Nat} {s : Scr} {xs xs' : List RowIn} (hs : Spans W) (h : ScAt W p g s xs) (hw : Went W W' p g xs xs') : Spans W' := by
  have hb := hw.turned.block _ hs.size (spans_apart hs h)
  have hc : ∀ j, W'.cell? ⟨0, j, none⟩ = W.cell? ⟨0, j, none⟩ := fun j => World.cell?_of_block (a := ⟨_, j, none⟩) hb
  exact ⟨Nat.lt_of_lt_of_le hs.size hw.turned.size, fun i hi => (hc _).trans (hs.first i hi), fun i hi => (hc _).trans (hs.last i hi), fun i hi => (hc _).trans (hs.wide i hi)⟩
set_option maxRecDepth 100000 in
set_option maxHeartbeats 3200000 in
theorem print_walk {p g : Nat} {s : Scr} {xs : List RowIn} (r : Int) (hr0 : -2147483648 ≤ r) (hr1 : r ≤ 2147483647) (w : World) (hs : Spans w) (h : ScAt w p g s xs) : Calls Tryz.prog 86 #[ptrS p, .int .i32 r] w fun e w' => Told p g (printS s r) (printO s r) s.w xs w e w' := by
  have WO := Lib.hid (of_walk r hr0 hr1 w hs)
  have hwr := wof_range r
  by_cases hk : wof r = 0
  · have D := Lib.hid (show Told p g (printS s r) (printO s r) s.w xs w (.returned (.slice none 0 0)) w from by
      unfold printS printO
      rw [if_pos hk, if_pos hk]
      exact told_none h (Went.refl _ _ _ _))
    rw [hk] at WO
    clear h hs hwr
    go_enter Tryz.func86, Tryz.ntmps86
    go_wp2_with fail
    refine WO.out.mono ?_
    rintro e w' ⟨rfl, rfl⟩
    go_wp2
    go_ret
    exact D.out
  have hd := h.laid (Below.refl _ _).drew
  have k0 : w.drew.cell? ⟨p, 0, none⟩ = some (.int .i64 (s.w : Int)) := hd.get 0
  have k3 : w.drew.cell? ⟨p, 3, none⟩ = some (.int .i64 (s.c : Int)) := hd.get 3
  obtain ⟨k, hkk⟩ : ∃ k, wof r = k := ⟨_, rfl⟩
  have T := Lib.hid (show ∀ W xs1, Spans W → ScAt W p g (roomS s k) xs1 → Tail p g s r W xs1 from fun W xs1 hs1 h1 => tail_of hr0 hr1 h.ok hk hs1 (by rw [hkk]; exact h1))
  have hcol := h.ok.room_col (k := k) (by omega) (by omega)
  have w3 := h.ok.w3
  have hb0 : (k == 0) = false := by simp; omega
  have hsum : IntKind.i64.wrap ((s.c : Int) + k) = (s.c : Int) + k := by have := h.ok.col; exact IntWalk.i64_in _ (by omega)
  have hsum2 : IntKind.i64.wrap (((roomS s k).c : Int) + k) = ((roomS s k).c : Int) + k := IntWalk.i64_in _ (by omega)
  have WD := Lib.hid (wrap_walk w.drew hs.drew hd)
  obtain ⟨c1, hc1⟩ : ∃ c1, (roomS s k).c = c1 := ⟨_, rfl⟩
  rw [hc1] at hsum2 hcol
  have HC1 := Lib.hid hc1
  clear hc1
  have eO : printO s r = roomO s k := by unfold printO; rw [if_neg hk, hkk]
  have H := Lib.hid hd
  have HS := Lib.hid hs
  rw [hkk] at WO
  by_cases hwrap : (s.w : Int) < (s.c : Int) + k
  · have e1 : roomS s k = wrapS s := by unfold roomS; rw [if_pos hwrap]
    have E1 := Lib.hid e1
    have e2 : roomO s k = wrapO s := by unfold roomO; rw [if_pos hwrap]
    have FIN := Lib.hid (show ∀ (w7 : World) v ys xs7, ScAt w7 p g (wrapS s) xs7 → Went w.drew w7 p g xs xs7 → RowsIn w7 w.drew.heap.size v ys → ys.map sr = wrapO s → (∀ y ∈ ys, y.n = s.w ∧ ((∃ z ∈ xs, z.A = y.A) ∨ ∃ k, y.A = some ⟨k, 0, none⟩ ∧ w.drew.heap.size ≤ k) ∧ ∀ z ∈ xs7, z.A ≠ y.A) → ∀ W2 xs2, ScAt W2 p g (printS s r) xs2 → Went w7 W2 p g xs7 xs2 → Told p g (printS s r) (printO s r) s.w xs w (.returned v) W2 from by
      intro w7 v ys xs7 h7 hw7 hr7 ho7 hy7 W2 xs2 h2 hw2
      rw [eO, e2]
      exact (Told.more hw7 hr7 ho7 hy7 h7 h2 hw2 (fun j e => by have := (hr7.lt j e).1; have := H.out.ltg; omega) (by have := H.out.ok.w2; omega)).behind (Went.laid (Below.refl _ _).drew))
    clear h hs hd e1 e2
    go_enter Tryz.func86, Tryz.ntmps86
    go_wp2_with fail
    refine WO.out.mono ?_
    rintro e w' ⟨rfl, rfl⟩
    clear WO
    go_wp2_with fail
    go_region
    all_goals
      go_wp2_with fail
      refine WD.out.mono ?_
      rintro e w7 ⟨v7, ys, xs7, rfl, h7, hw7, hr7, ho7, hy7⟩
      have TL := Lib.hid (T.out w7 xs7 (spans_went HS.out.drew H.out hw7) (by rw [E1.out]; exact h7))
      have FN := Lib.hid (FIN.out w7 v7 ys xs7 h7 hw7 hr7 ho7 hy7)
      clear h7 hw7 hr7 ho7 hy7 WD FIN k0 k3
      have a4 : w7.cell? ⟨p, 4, none⟩ = some (.int .i64 s.a) := TL.out.attr
      go_wp2_with fail
      refine TL.out.cells.mono ?_
      rintro e w8 ⟨A8, n8, c8, rfl, b8, hc8⟩
      have ST := Lib.hid (TL.out.set w8 A8 n8 c8 b8 hc8)
      clear b8 hc8 a4
      go_wp2_with fail
      refine ST.out.mono ?_
      rintro e w9 ⟨⟨_, rfl⟩, xs2, ⟨q3, q4⟩, hX⟩
      rw [hkk, HC1.out] at q3 hX
      have DZ := Lib.hid (hX _ rfl)
      clear ST TL T hX
      go_wp2
      go_ret
      exact FN.out _ _ DZ.out.1 DZ.out.2
  · have e1 : roomS s k = s := by unfold roomS; rw [if_neg hwrap]
    have E1 := Lib.hid e1
    have e2 : roomO s k = [] := by unfold roomO; rw [if_neg hwrap]
    have FN := Lib.hid (show ∀ W2 xs2, ScAt W2 p g (printS s r) xs2 → Went w.drew W2 p g xs xs2 → Told p g (printS s r) (printO s r) s.w xs w (.returned (.slice none 0 0)) W2 from by
      intro W2 xs2 h2 hw2
      rw [eO, e2]
      exact told_none h2 ((Went.laid (Below.refl _ _).drew).trans hw2))
    have TL := Lib.hid (T.out w.drew xs HS.out.drew (by rw [e1]; exact H.out))
    have a4 : w.drew.cell? ⟨p, 4, none⟩ = some (.int .i64 s.a) := TL.out.attr
    clear h hs hd WD e1 e2
    go_enter Tryz.func86, Tryz.ntmps86
    go_wp2_with fail
    refine WO.out.mono ?_
    rintro e w' ⟨rfl, rfl⟩
    clear WO
    go_wp2_with fail
    go_region
    all_goals
      go_wp2_with fail
      refine TL.out.cells.mono ?_
      rintro e w8 ⟨A8, n8, c8, rfl, b8, hc8⟩
      have ST := Lib.hid (TL.out.set w8 A8 n8 c8 b8 hc8)
      clear b8 hc8 a4
      go_wp2_with fail
      refine ST.out.mono ?_
      rintro e w9 ⟨⟨_, rfl⟩, xs2, ⟨q3, q4⟩, hX⟩
      rw [hkk, HC1.out] at q3 hX
      have DZ := Lib.hid (hX _ rfl)
      clear ST TL T hX k0 k3
      go_wp2
      go_ret
      exact FN.out _ _ DZ.out.1 DZ.out.2
end Sc
end Go.Proofs.YtibihjcpkdfgeaaGreatDoor
namespace Go.Proofs.YtibihjcpkdfgeaaGreatDoor
open Go.ChangeShapes Go.WideShapes Go.ChangeAt Go.RowKit
namespace Sc
open Rw

theorem cursor_walk {p g : Nat} {s : Scr} {xs : List RowIn} (w : World) (h : ScAt w p g s xs) : Calls Tryz.prog 57 #[ptrS p] w fun e w' => e = .returned (.agg #[.int .i64 (s.r : Int), .int .i64 (s.c : Int)]) ∧ Below w.heap.size w w' := by
  have b1 := (Below.refl w.heap.size w).alloc (Nat.le_refl _) (.cells #[.int .i64 0, .int .i64 0] 79)
  have h1 := h.laid b1
  have k2 : (w.alloc (.cells #[.int .i64 0, .int .i64 0] 79)).cell? ⟨p, 2, none⟩ = some (.int .i64 (s.r : Int)) := h1.get 2
  have k3 : (w.alloc (.cells #[.int .i64 0, .int .i64 0] 79)).cell? ⟨p, 3, none⟩ = some (.int .i64 (s.c : Int)) := h1.get 3
  have B1 := Lib.hid (show ∀ u v, Below w.heap.size w (w.alloc (.cells #[u, v] 79)) from fun u v => (Below.refl w.heap.size w).alloc (Nat.le_refl _) _)
  clear h h1 b1
  go_enter Tryz.func57, Tryz.ntmps57
  go_wp2
  exact bodyPost_ret (v := .agg #[.int .i64 (s.r : Int), .int .i64 (s.c : Int)]) (by simp [results, Tryz.results57, go_sem]) rfl ⟨rfl, B1.out _ _⟩
/-- The last bytes that a screen knows. -/
def lastB : ByteArray := ⟨#[65, 66, 67, 68, 72, 74, 75, 109]⟩
set_option maxRecDepth 100000 in
theorem contains_walk (r : Int) (b : Bool) (hr : 0 ≤ r ∧ r < 128) (hb : decide (0 ≤ Lib.indexByte lastB.data.toList r.toNat.toUInt8) = b) (w : World) : Calls Tryz.prog 114 #[.string { data := #[65, 66, 67, 68, 72, 74, 75, 109] }, .int .i32 r] w fun e w' => e = .returned (.bool b) ∧ w' = w := by
  refine (Tryz.strings_ContainsRune_ascii lastB r w hr.1 hr.2).mono ?_
  rintro e w' ⟨rfl, rfl⟩
  rw [hb]
  exact ⟨rfl, rfl⟩
/-- Any sign that a call may turn is none of the numbers. -/
theorem count_went {p g : Nat} {xs ys : List RowIn} {A : Option Addr} {n c : Nat} {l : List Int} {w W : World} {B : Nat} (hB : B ≤ w.heap.size) (hq : Sq w B 1 n A (l.map (Value.int .i64))) (hpB : ∀ k, k = p ∨ k = g → B ≤ k) (hw : Went w W p g xs ys) (i : Nat) (y : Int) (hy : cntL l i = y) :
    Calls Tryz.prog 115 #[.slice A n c, .int .i64 (i : Int)] W fun e w' => e = .returned (.int .i64 y) ∧ W = w' := by
  subst hy
  exact count_walk A n c l i W (hq.below (hw.turned.toBelow hB (fun k hk e => by have := hpB k e; omega)))
set_option maxRecDepth 100000 in
set_option maxHeartbeats 3200000 in
theorem csiH_walk {p g : Nat} {s : Scr} {xs : List RowIn} (A : Option Addr) (n c : Nat) (l : List Int) (w : World) {B : Nat} (hB : B ≤ w.heap.size) (hq : Sq w B 1 n A (l.map (Value.int .i64))) (hpB : ∀ k, k = p ∨ k = g → B ≤ k) (h : ScAt w p g s xs) : Calls Tryz.prog 88 #[ptrS p, .int .i32 72, .slice A n c] w fun e w' => Done p g (csiS s 72 l) xs w e w' := by
  have CR := Lib.hid (contains_walk 72 true (by omega) (by decide +kernel) w)
  have LE := Lib.hid (leaveEnd_walk w h)
  have hS : csiS s 72 l = moveS (leaveS s) (cntL l 0 - 1) (cntL l 1 - 1) := rfl
  rw [hS]
  have hr : ∀ i, -300 ≤ cntL l i ∧ cntL l i ≤ 300 := fun i => by unfold cntL; split <;> omega
  have h0 := hr 0
  have h1 := hr 1
  have CN := Lib.hid (fun (W : World) (ys : List RowIn) (hw : Went w W p g xs ys) => And.intro (count_went (c := c) hB hq hpB hw 0 _ rfl) (count_went (c := c) hB hq hpB hw 1 _ rfl))
  generalize cntL l 0 = y0 at h0 CN ⊢
  generalize cntL l 1 = y1 at h1 CN ⊢
  have hs0 : IntKind.i64.wrap (y0 - 1) = y0 - 1 := IntWalk.i64_in _ (by omega)
  have hs1 : IntKind.i64.wrap (y1 - 1) = y1 - 1 := IntWalk.i64_in _ (by omega)
  clear hr h0 h1 hq hpB h
  go_enter Tryz.func88, Tryz.ntmps88
  go_wp2_with fail
  refine CR.out.mono ?_
  rintro e w' ⟨rfl, rfl⟩
  clear CR
  go_wp2_with fail
  refine LE.out.mono ?_
  rintro e w2 ⟨⟨_, rfl⟩, ys, h2, hw2⟩
  have CN2 := Lib.hid (CN.out w2 ys hw2)
  have MV := Lib.hid (moveTo_walk (y0 - 1) (y1 - 1) w2 h2)
  have W2 := Lib.hid hw2
  clear LE CN h2 hw2
  go_wp2_with fail
  refine CN2.out.1.mono ?_
  rintro e w' ⟨rfl, rfl⟩
  go_wp2_with fail
  refine CN2.out.2.mono ?_
  rintro e w' ⟨rfl, rfl⟩
  clear CN2
  go_wp2_with fail
  refine MV.out.mono ?_
  rintro e w3 ⟨⟨_, rfl⟩, zs, h3, hw3⟩
  have D := Lib.hid (And.intro h3 (W2.out.trans hw3))
  clear MV W2 h3 hw3
  go_wp2
  go_end0
  exact ⟨⟨_, rfl⟩, zs, D.out⟩
theorem Done.told {p g : Nat} {s' : Scr} {wd : Nat} {xs : List RowIn} {w w1 : World} (hw : Below w.heap.size w w1) {e : Ending} {w' : World} (h : Done p g s' xs w1 e w') : Told p g s' [] wd xs w (.returned (.slice none 0 0)) w' := by
  obtain ⟨_, xs', h1, h2⟩ := h
  exact told_none h1 ((Went.laid hw).trans h2)
set_option maxRecDepth 100000 in
set_option maxHeartbeats 3200000 in
/-- Do, by what its parts do. -/
theorem do_walk {p g : Nat} {s : Scr} {xs : List RowIn} (k r : Int) (A : Option Addr) (n c : Nat) (str : ByteArray) (l : List Int) (w : World) (h : ScAt w p g s xs)
    (CP : k = 1 → ∀ W, Below w.heap.size w W → Calls Tryz.prog 86 #[ptrS p, .int .i32 r] W fun e w' => Told p g (printS s r) (printO s r) s.w xs W e w')
    (CT : k = 2 → ∀ W, Below w.heap.size w W → Calls Tryz.prog 87 #[ptrS p, .int .i32 r] W fun e w' => Told p g (ctrlS s r) (ctrlO s r) s.w xs W e w')
    (CS : k = 3 → ∀ W, Below w.heap.size w W → Calls Tryz.prog 88 #[ptrS p, .int .i32 r, .slice A n c] W fun e w' => Done p g (csiS s r l) xs W e w') :
    Calls Tryz.prog 50 #[ptrS p, .agg #[.int .i64 k, .int .i32 r, .slice A n c, .string str]] w fun e w' => Told p g (doS s k r l) (doO s k r) s.w xs w e w' := by
  have B1 := Lib.hid (show Below w.heap.size w (w.alloc (.cells #[.int .i64 k, .int .i32 r, .slice A n c, .string str] 37)) from (Below.refl _ _).alloc (Nat.le_refl _) _)
  have k1 : (w.alloc (.cells #[.int .i64 k, .int .i32 r, .slice A n c, .string str] 37)).cell? ⟨p, 1, none⟩ = some (.slice (some ⟨g, 0, none⟩) s.rows.length s.rows.length) := (h.laid B1.out).get 1
  have hl1 : s.rows.length ≠ 0 := by have := h.ok.h1; omega
  have hl0 : ((s.rows.length : Int) == 0) = false := by simp; exact fun e => hl1 (by rw [e]; rfl)
  have hl2 : s.rows ≠ [] := fun e => hl1 (by rw [e]; rfl)
  have TN := Lib.hid (told_none (wd := s.w) (h.laid B1.out) (Went.laid B1.out))
  clear h
  by_cases e1 : k = 1
  · subst e1
    have P := Lib.hid (CP rfl (w.alloc (.cells #[.int .i64 1, .int .i32 r, .slice A n c, .string str] 37)) B1.out)
    have eS : doS s 1 r l = printS s r := rfl
    have eO : doO s 1 r = printO s r := rfl
    rw [eS, eO]
    clear CP CT CS eS eO
    go_enter Tryz.func50, Tryz.ntmps50
    go_wp2_with fail
    refine P.out.mono ?_
    rintro e w2 ⟨v, ys, xs', rfl, t⟩
    have T := Lib.hid (Told.behind ⟨v, ys, xs', rfl, t⟩ (Went.laid B1.out))
    clear t P
    go_wp2
    go_ret
    exact T.out
  by_cases e2 : k = 2
  · subst e2
    have P := Lib.hid (CT rfl (w.alloc (.cells #[.int .i64 2, .int .i32 r, .slice A n c, .string str] 37)) B1.out)
    have eS : doS s 2 r l = ctrlS s r := rfl
    have eO : doO s 2 r = ctrlO s r := rfl
    rw [eS, eO]
    clear CP CT CS eS eO
    go_enter Tryz.func50, Tryz.ntmps50
    go_wp2_with fail
    refine P.out.mono ?_
    rintro e w2 ⟨v, ys, xs', rfl, t⟩
    have T := Lib.hid (Told.behind ⟨v, ys, xs', rfl, t⟩ (Went.laid B1.out))
    clear t P
    go_wp2
    go_ret
    exact T.out
  by_cases e3 : k = 3
  · subst e3
    have P := Lib.hid (CS rfl (w.alloc (.cells #[.int .i64 3, .int .i32 r, .slice A n c, .string str] 37)) B1.out)
    have eS : doS s 3 r l = csiS s r l := rfl
    have eO : doO s 3 r = [] := rfl
    rw [eS, eO]
    clear CP CT CS eS eO
    go_enter Tryz.func50, Tryz.ntmps50
    go_wp2_with fail
    refine P.out.mono ?_
    rintro e w2 ⟨⟨_, rfl⟩, t⟩
    have T := Lib.hid (Done.told (wd := s.w) B1.out (show Done p g (csiS s r l) xs _ (.returned (.tuple #[])) w2 from ⟨⟨_, rfl⟩, t⟩))
    clear t P
    go_wp2
    go_ret
    exact T.out
  have eS : doS s k r l = s := by unfold doS; rw [if_neg e1, if_neg e2, if_neg e3]
  have eO : doO s k r = [] := by unfold doO; rw [if_neg e1, if_neg e2]
  rw [eS, eO]
  have b1 : (k == 1) = false := by simpa using e1
  have b2 : (k == 2) = false := by simpa using e2
  have b3 : (k == 3) = false := by simpa using e3
  clear CP CT CS eS eO e1 e2 e3
  go_enter Tryz.func50, Tryz.ntmps50
  go_wp2
  go_ret
  exact TN.out
end Sc
end Go.Proofs.YtibihjcpkdfgeaaGreatDoor
namespace Go.Proofs.YtibihjcpkdfgeaaGreatDoor
open Go.ChangeShapes Go.WideShapes Go.ChangeAt Go.RowKit
namespace Sc
open Rw

def nils (k : Nat) : List Value := (List.replicate k [Value.slice none 0 0, Value.bool false]).flatten
theorem nils_length (k : Nat) : (nils k).length = k * 2 := by
  unfold nils
  rw [List.length_flatten]
  simp
theorem nils_succ (k : Nat) : nils (k + 1) = Value.slice none 0 0 :: Value.bool false :: nils k := by unfold nils; rw [List.replicate_succ, List.flatten_cons]; rfl
theorem nils_get : ∀ (k i : Nat), i < k * 2 → (nils k)[i]? = some (if i % 2 = 0 then .slice none 0 0 else .bool false)
  | 0, i, h => by omega
  | k + 1, i, h => by
    rw [nils_succ]
    match i with
    | 0 => rfl
    | 1 => rfl
    | i + 2 =>
      have := nils_get k i (by omega)
      rw [List.getElem?_cons_succ, List.getElem?_cons_succ, this, show (i + 2) % 2 = i % 2 by omega]
theorem made_nils (k : Nat) : madeCells (Value.agg #[.slice none 0 0, .bool false]).cells (k * 2) = (nils k).toArray := by
  apply Array.ext'
  refine List.ext_getElem? fun i => ?_
  rw [Array.getElem?_toList]
  by_cases h : i < k * 2
  · rw [show (nils k).toArray.toList = nils k from rfl, nils_get k i h]
    unfold madeCells
    rw [Array.getElem?_map, Array.getElem?_range, if_pos h]
    have h2 : i % 2 = 0 ∨ i % 2 = 1 := by omega
    have hs : (Value.agg #[.slice none 0 0, .bool false]).cells = #[.slice none 0 0, .bool false] := rfl
    rw [hs]
    rcases h2 with e | e
    · simp [e]
    · simp [e]
  · rw [show (nils k).toArray.toList = nils k from rfl, List.getElem?_eq_none (by rw [nils_length]; omega), Array.getElem?_eq_none (by rw [size_madeCells]; omega)]
def mcells (wd : Nat) (a : Int) (g n : Nat) : Array Value := #[.int .i64 (wd : Int), .slice (some ⟨g, 0, none⟩) n n, .int .i64 0, .int .i64 0, .int .i64 a]
/-- A screen that is being made: i of its rows are there. -/
structure Made (W : World) (B p g wd : Nat) (a : Int) (T : List SR) (i : Nat) (xs : List RowIn) : Prop where
  scr : W.heap[p]? = some (.cells (mcells wd a g T.length) 117 (0, 0))
  rows : W.heap[g]? = some (.cells (xs.flatMap RowIn.vals ++ nils (T.length - i)).toArray 53 (0, 0))
  len : xs.length = i
  same : xs.map sr = T.take i
  each : ∀ x ∈ xs, HasC W 0 (.slice x.A x.n x.c) x.l ∧ x.n = wd
  apart : (xs.map RowIn.A).Nodup
  new' : ∀ x ∈ xs, ∃ k, x.A = some ⟨k, 0, none⟩ ∧ B ≤ k
namespace Made
variable {W W' : World} {B p g wd i : Nat} {a : Int} {T : List SR} {xs : List RowIn}
theorem typ (h : Made W B p g wd a T i xs) : Typed W 117 p := ⟨_, _, h.scr⟩
theorem tyg (h : Made W B p g wd a T i xs) : Typed W 53 g := ⟨_, _, h.rows⟩
theorem ne (h : Made W B p g wd a T i xs) : p ≠ g := h.typ.apart h.tyg (by decide)
theorem ltp (h : Made W B p g wd a T i xs) : p < W.heap.size := (Array.getElem?_eq_some_iff.1 h.scr).1
theorem ltg (h : Made W B p g wd a T i xs) : g < W.heap.size := (Array.getElem?_eq_some_iff.1 h.rows).1
theorem laid (h : Made W B p g wd a T i xs) (hb : Below W.heap.size W W') : Made W' B p g wd a T i xs :=
  ⟨(hb.block p h.ltp).trans h.scr, (hb.block g h.ltg).trans h.rows, h.len, h.same, fun x hx => ⟨hasC_turned (M := fun _ => False) (h.each x hx).1 (Turned.ofBelow hb _) (fun _ f => f.elim), (h.each x hx).2⟩, h.apart, h.new'⟩
theorem cell (h : Made W B p g wd a T i xs) (hi : i < T.length) : W.cell? ⟨g, i * 2, none⟩ = some (.slice none 0 0) ∧ W.cell? ⟨g, i * 2 + 1, none⟩ = some (.bool false) ∧ W.frozen? ⟨g, i * 2, none⟩ = false ∧ W.frozen? ⟨g, i * 2 + 1, none⟩ = false := by
  have hl := vals_length xs
  rw [h.len] at hl
  obtain ⟨m, hm⟩ : ∃ m, T.length - i = m + 1 := ⟨T.length - i - 1, by omega⟩
  have hr := h.rows
  rw [hm, nils_succ] at hr
  refine ⟨?_, ?_, frozen_of_row W g _ _ _ hr, frozen_of_row W g _ _ _ hr⟩
  · rw [cell_of_row W g _ _ _ (0, 0) hr, List.getElem?_toArray, List.getElem?_append_right (by omega), hl, Nat.sub_self]; rfl
  · rw [cell_of_row W g _ _ _ (0, 0) hr, List.getElem?_toArray, List.getElem?_append_right (by omega), hl, show i * 2 + 1 - i * 2 = 1 by omega]; rfl
/-- One row more. -/
theorem step (h : Made W B p g wd a T i xs) (hw : 2 ≤ wd) (hB : B ≤ W.heap.size) {A : Option Addr} {n c : Nat} {l : List Cel} {wr : Bool} (hT : T[i]? = some (l, wr)) (hl : l.length = wd) (hb : Below W.heap.size W W') (hc : HasC W' W.heap.size (.slice A n c) l) :
    ∃ xs', Made ((W'.setCell ⟨g, i * 2, none⟩ (.slice A n c)).setCell ⟨g, i * 2 + 1, none⟩ (.bool wr)) B p g wd a T (i + 1) xs' := by
  have hi := (List.getElem?_eq_some_iff.1 hT).1
  have hn : n = wd := by
    obtain ⟨_, _, e, _⟩ := HasC.shape hc
    injection e with _ e _
    rw [e, hl]
  obtain ⟨k, hk, hk1, hk2⟩ := fresh_row hc (by omega)
  have h' := h.laid hb
  have ht : Turned (· = g) W' ((W'.setCell ⟨g, i * 2, none⟩ (.slice A n c)).setCell ⟨g, i * 2 + 1, none⟩ (.bool wr)) := Turned.ofOnly ((OnlyRow.cell g _ W' _).trans (OnlyRow.cell g _ _ _))
  have hno : ∀ j, j = g → ¬ Typed W' 67 j := fun j e ty => by subst e; exact h'.tyg.apart ty (by decide) rfl
  refine ⟨xs ++ [⟨A, n, c, wr, l⟩], ?_, ?_, by rw [List.length_append, h.len]; rfl, ?_, fun z hz => ?_, ?_, fun z hz => ?_⟩
  · exact (ht.block p h'.ltp h'.ne).trans h'.scr
  · rw [heap_setCell_same _ g _ _ _ _ (heap_setCell_same W' g _ _ _ _ h'.rows)]
    have hvl := vals_length xs
    rw [h.len] at hvl
    obtain ⟨m, hm⟩ : ∃ m, T.length - i = m + 1 := ⟨T.length - i - 1, by omega⟩
    have hm' : T.length - (i + 1) = m := by omega
    rw [hm, hm', nils_succ]
    have e : (((xs.flatMap RowIn.vals ++ Value.slice none 0 0 :: Value.bool false :: nils m).set (i * 2) (.slice A n c)).set (i * 2 + 1) (.bool wr)) = (xs ++ [(⟨A, n, c, wr, l⟩ : RowIn)]).flatMap RowIn.vals ++ nils m := by
      rw [List.set_append_right _ _ (by omega), hvl, Nat.sub_self, List.set_append_right _ _ (by omega), hvl, show i * 2 + 1 - i * 2 = 1 by omega, List.flatMap_append, List.append_assoc]
      rfl
    rw [← e]
    simp only [List.setIfInBounds_toArray]
  · rw [List.map_append, h.same, List.take_add_one, hT]
    rfl
  · rcases List.mem_append.1 hz with hz | hz
    · exact ⟨hasC_turned (h'.each z hz).1 ht hno, (h'.each z hz).2⟩
    · rw [List.mem_singleton.1 hz]
      exact ⟨hasC_turned (HasC.mono hc (Nat.zero_le _)) ht hno, hn⟩
  · rw [List.map_append, List.map_cons, List.map_nil]
    refine List.nodup_append.2 ⟨h.apart, by simp, fun x hx y hy => ?_⟩
    obtain ⟨z, hz, rfl⟩ := List.mem_map.1 hx
    rw [List.mem_singleton.1 hy]
    intro e
    obtain ⟨k', hk', _, hlt⟩ := fresh_row (h.each z hz).1 (by rw [(h.each z hz).2]; omega)
    rw [hk'] at e
    rw [hk] at e
    injection e with e
    injection e with e
    omega
  · rcases List.mem_append.1 hz with hz | hz
    · exact h.new' z hz
    · rw [List.mem_singleton.1 hz]
      exact ⟨k, hk, by omega⟩
theorem full (h : Made W B p g wd a T T.length xs) (ho : Ok ⟨wd, T, 0, 0, a⟩) : ScAt W p g ⟨wd, T, 0, 0, a⟩ xs :=
  ⟨ho, by rw [h.same, List.take_length], h.scr, by have := h.rows; rw [Nat.sub_self] at this; simpa [nils] using this, h.each, h.apart⟩
end Made
def fitL (w : Nat) (l : List Cel) : List Cel :=
  let x := l.take w ++ blanksL (w - l.length)
  if (cAt x (w - 1)).2.1 = 2 then x.set (w - 1) (32, 1, 0) else x
def fitS (w : Nat) : Option SR → SR
  | none => (blanksL w, false)
  | some (l, wr) => if mayL l then (fitL w l, wr) else (blanksL w, false)
def clampN (x lo hi : Int) : Nat := (min (max x lo) hi).toNat
def rowsOfS (rows : List SR) (w h : Nat) : List SR := (List.range h).map fun i => fitS w rows[i]?
def ofS (rows : List SR) (w h ar ac a : Int) : Scr :=
  { w := clampN w 2 300, rows := rowsOfS rows (clampN w 2 300) (clampN h 1 100), r := clampN ar 0 ((clampN h 1 100 : Int) - 1), c := clampN ac 0 (clampN w 2 300), a := modA a }
theorem rowsOfS_length (rows : List SR) (w h : Nat) : (rowsOfS rows w h).length = h := by unfold rowsOfS; simp
theorem rowsOfS_get {rows : List SR} {w h i : Nat} (hi : i < h) : (rowsOfS rows w h)[i]? = some (fitS w rows[i]?) := by
  unfold rowsOfS
  rw [List.getElem?_map, List.getElem?_range hi]
  rfl
def OfPost (s : Scr) (W : World) (e : Ending) (W' : World) : Prop :=
  ∃ p g xs, e = .returned (ptrS p) ∧ ScAt W' p g s xs ∧ W.heap.size ≤ p ∧ W.heap.size ≤ g ∧ (∀ x ∈ xs, ∃ k, x.A = some ⟨k, 0, none⟩ ∧ W.heap.size ≤ k) ∧ Below W.heap.size W W'
set_option maxRecDepth 100000 in
set_option maxHeartbeats 6400000 in
/-- Of, of no rows. -/
theorem ofNil_walk (wd h : Int) (w : World) : Calls Tryz.prog 54 #[.slice none 0 0, .int .i64 wd, .int .i64 h, .agg #[.int .i64 0, .int .i64 0], .int .i64 0] w fun e w' => OfPost (newS wd h) w e w' := by
  obtain ⟨i0, hi, hz0, hz1, hz2⟩ := info_parts infoRow'
  obtain ⟨wn, hwn⟩ : ∃ wn, clampN wd 2 300 = wn := ⟨_, rfl⟩
  obtain ⟨hn, hhn⟩ : ∃ hn, clampN h 1 100 = hn := ⟨_, rfl⟩
  have w2 : 2 ≤ wn ∧ wn ≤ 300 := by rw [← hwn]; unfold clampN; omega
  have h1 : 1 ≤ hn ∧ hn ≤ 100 := by rw [← hhn]; unfold clampN; omega
  have CW := Lib.hid (fun W : World => (show Calls Tryz.prog 92 #[.int .i64 wd, .int .i64 2, .int .i64 300] W fun e w' => e = .returned (.int .i64 (wn : Int)) ∧ W = w' by
    have e : (wn : Int) = min (max wd 2) 300 := by rw [← hwn]; unfold clampN; omega
    rw [e]; exact clamp_walk _ _ _ W))
  have CH := Lib.hid (fun W : World => (show Calls Tryz.prog 92 #[.int .i64 h, .int .i64 1, .int .i64 100] W fun e w' => e = .returned (.int .i64 (hn : Int)) ∧ W = w' by
    have e : (hn : Int) = min (max h 1) 100 := by rw [← hhn]; unfold clampN; omega
    rw [e]; exact clamp_walk _ _ _ W))
  obtain ⟨T, hT⟩ : ∃ T : List SR, List.replicate hn (blanksL wn, false) = T := ⟨_, rfl⟩
  have hTl : T.length = hn := by rw [← hT, List.length_replicate]
  have hTg : ∀ i, i < hn → T[i]? = some (blanksL wn, false) := fun i hi => by rw [← hT, List.getElem?_replicate, if_pos hi]
  have eN : newS wd h = ⟨wn, T, 0, 0, 0⟩ := by rw [← hT, ← hwn, ← hhn]; rfl
  have hOk : Ok ⟨wn, T, 0, 0, 0⟩ := by rw [← eN]; exact newS_ok wd h
  rw [eN]
  obtain ⟨w1, hw1⟩ : ∃ w1, w.alloc (.cells #[.int .i64 0, .int .i64 0] 79) = w1 := ⟨_, rfl⟩
  have b1 : Below w.heap.size w w1 := by rw [← hw1]; exact (Below.refl _ _).alloc (Nat.le_refl _) _
  obtain ⟨b8, hb8⟩ : ∃ b8, w.heap.size = b8 := ⟨_, rfl⟩
  have q8 : w1.heap[b8]? = some (.cells #[.int .i64 0, .int .i64 0] 79 (0, 0)) := by rw [← hw1, ← hb8]; exact heap_alloc_new w _
  have z1 : w1.heap.size = b8 + 1 := by rw [← hw1, ← hb8]; simp
  have MD := Lib.hid (fun W : World => (show Calls Tryz.prog 93 #[.int .i64 0] W fun e w' => e = .returned (.int .i64 0) ∧ W = w' from by simpa using modulo_walk 0 W))
  have hbg : (hn : Int) ≤ 100 := by omega
  have hb0 : (0 : Int) ≤ (hn : Int) := by omega
  have MK := run_make w1.drew 73 53 i0 (.agg #[.slice none 0 0, .bool false]) Tryz.underlying73 hi hz0 .i64 .i64 (hn : Int) (hn : Int) hb0 (Int.le_refl _) (by rw [hz2]; omega) (by omega)
  rw [hz1, Int.toNat_natCast, made_nils] at MK
  have HW1 := Lib.hid hw1
  have HB8 := Lib.hid hb8
  clear hw1 hb8 eN
  go_enter Tryz.func54, Tryz.ntmps54
  go_wp2_with fail
  rw [HW1.out]
  refine (CW.out w1).mono ?_
  rintro e w' ⟨rfl, rfl⟩
  go_wp2_with fail
  refine (CH.out w1).mono ?_
  rintro e w' ⟨rfl, rfl⟩
  rw [HB8.out]
  go_wp2_with fail
  obtain ⟨gg, hgg⟩ : ∃ gg, b8 + 1 = gg := ⟨_, rfl⟩
  obtain ⟨pp, hpp⟩ : ∃ pp, gg + 1 = pp := ⟨_, rfl⟩
  have b2 : Below w1.heap.size w1 ((w1.drew.alloc (.cells (nils hn).toArray 53)).alloc (.cells (mcells wn 0 gg hn) 117)) := ((Below.refl w1.heap.size w1).drew.alloc (Nat.le_refl _) _).alloc (by simp) _
  have M2 : Made ((w1.drew.alloc (.cells (nils hn).toArray 53)).alloc (.cells (mcells wn 0 gg hn) 117)) w1.heap.size pp gg wn 0 T 0 [] := by
    have zz : (w1.drew.alloc (.cells (nils hn).toArray 53)).heap.size = pp := by
      rw [World.size_alloc]; show w1.heap.size + 1 = pp; omega
    have hg := heap_alloc_new w1.drew (.cells (nils hn).toArray 53)
    rw [show w1.drew.heap.size = gg from by show w1.heap.size = gg; omega] at hg
    have hp := heap_alloc_new (w1.drew.alloc (.cells (nils hn).toArray 53)) (.cells (mcells wn 0 gg hn) 117)
    rw [zz] at hp
    refine ⟨by rw [hTl]; exact hp, ?_, rfl, by rw [List.take_zero]; rfl, fun x hx => (by cases hx), List.nodup_nil, fun x hx => (by cases hx)⟩
    rw [hTl, Nat.sub_zero]
    exact (Below.heap_alloc _ _ _ (by omega)).trans hg
  have B2 := Lib.hid b2
  have MM := Lib.hid M2
  have QW := Lib.hid q8
  have B1 := Lib.hid b1
  clear b2 M2 q8 b1
  go_cut [11] from 17 to 23 (fun s11 wx => s11 = .pointer (some ⟨pp, 0, none⟩) ∧ Hid (Below w1.heap.size w1 wx) ∧ Hid (Made wx w1.heap.size pp gg wn 0 T 0 []))
  case first =>
    go_region_with (go_at_call 93; refine (MD.out _).mono ?_; rintro e w7 ⟨rfl, rfl⟩)
    all_goals
      go_wp2_with fail
      go_meet
      exact ⟨by rw [← hpp, ← hgg], B2, MM⟩
  case rest =>
    obtain ⟨rfl, BC, MC⟩ := hcut
    have kp : wc.cell? ⟨pp, 1, none⟩ = some (.slice (some ⟨gg, 0, none⟩) hn hn) := by rw [cell_of_row _ pp _ _ _ (0, 0) MC.out.scr, hTl]; rfl
    clear MK B2 MM CW CH
    go_wp2_with fail
    go_loopw [12, 29] (fun _ v29 wr => ∃ (i : Nat) (xs : List RowIn), v29 = .int .i64 i ∧ i ≤ hn ∧ Hid (Below w1.heap.size w1 wr) ∧ Hid (Made wr w1.heap.size pp gg wn 0 T i xs)) (fun _ v29 _ => hn - (intOf v29).toNat)
    case atStart => exact ⟨0, [], rfl, Nat.zero_le _, BC, MC⟩
    case round =>
      obtain ⟨i, xs, rfl, hi', BR, MR⟩ := hrel
      by_cases hlt : i < hn
      · have hlt' : (i : Int) < (hn : Int) := by omega
        have hi0 : (0 : Int) ≤ (i : Int) := by omega
        have k1 : wr.drew.cell? ⟨pp, 1, none⟩ = some (.slice (some ⟨gg, 0, none⟩) hn hn) := by
          have : wr.cell? ⟨pp, 1, none⟩ = some (.slice (some ⟨gg, 0, none⟩) hn hn) := by rw [cell_of_row _ pp _ _ _ (0, 0) MR.out.scr, hTl]; rfl
          exact this
        have BK := Lib.hid (rowBlank_walk (wn : Int) wr.drew)
        have hbl : blankN (wn : Int) = wn := by unfold blankN; omega
        rw [hbl] at BK
        have K1 := Lib.hid (show ∀ W, Below wr.drew.heap.size wr.drew W → W.cell? ⟨pp, 1, none⟩ = some (.slice (some ⟨gg, 0, none⟩) hn hn) ∧ W.cell? ⟨gg, i * 2, none⟩ = some (.slice none 0 0) ∧ W.cell? ⟨gg, i * 2 + 1, none⟩ = some (.bool false) ∧ W.frozen? ⟨gg, i * 2, none⟩ = false ∧ W.frozen? ⟨gg, i * 2 + 1, none⟩ = false from fun W b => by
          have m := MR.out.laid (Below.trans (Below.refl wr.heap.size wr).drew b)
          obtain ⟨c0, c1, c2, c3⟩ := m.cell (by rw [hTl]; exact hlt)
          exact ⟨by rw [cell_of_row _ pp _ _ _ (0, 0) m.scr, hTl]; rfl, c0, c1, c2, c3⟩)
        have ST := Lib.hid (show ∀ W A n c, Below wr.drew.heap.size wr.drew W → HasC W wr.drew.heap.size (.slice A n c) (blanksL wn) → (∃ xs', Made ((W.setCell ⟨gg, i * 2, none⟩ (.slice A n c)).setCell ⟨gg, i * 2 + 1, none⟩ (.bool false)) w1.heap.size pp gg wn 0 T (i + 1) xs') ∧ Below w1.heap.size w1 ((W.setCell ⟨gg, i * 2, none⟩ (.slice A n c)).setCell ⟨gg, i * 2 + 1, none⟩ (.bool false)) from fun W A n c b hc => by
          have m := MR.out.laid (Below.refl wr.heap.size wr).drew
          refine ⟨m.step w2.1 BR.out.size (hTg i hlt) (blanksL_length wn) b hc, ?_⟩
          have bb := BR.out.drew.trans (b.mono BR.out.size)
          have hgl : w1.heap.size ≤ gg := by omega
          exact (bb.setCell (p := ⟨gg, i * 2, none⟩) hgl _).setCell (p := ⟨gg, i * 2 + 1, none⟩) hgl _)
        have hinc : IntKind.i64.wrap ((i : Int) + 1) = (i : Int) + 1 := IntWalk.i64_in _ (by omega)
        clear BR MR MC BC kp hbl
        go_wp2_with fail
        go_region_with (go_at_call 38; refine BK.out.mono ?_; rintro e w7 ⟨g7, rfl, hc7, b7⟩; (obtain ⟨k10, k20, k30, k40, k50⟩ := K1.out w7 b7); (have S7 := Lib.hid (ST.out w7 _ _ _ b7 hc7)); clear b7 hc7)
        all_goals
          go_wp2
          go_roundw
          case rel =>
            obtain ⟨⟨xs', m'⟩, b'⟩ := S7.out
            exact ⟨i + 1, xs', by first | rfl | (congr 1; done) | (congr 1; omega), hlt, b', m'⟩
          case measure => first | (simp [intOf]; done) | (simp [intOf]; omega)
      · obtain rfl : i = hn := by omega
        have hb8 : b8 < w1.heap.size := by omega
        have q8 : wr.drew.heap[b8]? = some (.cells #[.int .i64 0, .int .i64 0] 79 (0, 0)) := (BR.out.block b8 hb8).trans QW.out
        have SF : ScAt wr.drew pp gg ⟨wn, T, 0, 0, 0⟩ xs := by
          have m := MR.out.laid (Below.refl wr.heap.size wr).drew
          have e := hTl
          subst e
          exact m.full hOk
        have SE : ScAt ((wr.drew.setCell ⟨pp, 2, none⟩ (.int .i64 0)).setCell ⟨pp, 3, none⟩ (.int .i64 0)) pp gg ⟨wn, T, 0, 0, 0⟩ xs := (SF.setRow (r := 0) (by show 0 < T.length; omega)).setCol (c := 0) (Nat.zero_le _)
        have hpl : w1.heap.size ≤ pp := by omega
        have DN := Lib.hid (show OfPost ⟨wn, T, 0, 0, 0⟩ w (.returned (ptrS pp)) ((wr.drew.setCell ⟨pp, 2, none⟩ (.int .i64 0)).setCell ⟨pp, 3, none⟩ (.int .i64 0)) from by
          have hw := B1.out.size
          exact ⟨pp, gg, xs, rfl, SE, by omega, by omega, fun x hx => by obtain ⟨k, hk, hk1⟩ := MR.out.new' x hx; exact ⟨k, hk, by omega⟩, B1.out.trans (((BR.out.drew.setCell (p := ⟨pp, 2, none⟩) hpl _).setCell (p := ⟨pp, 3, none⟩) hpl _).mono hw)⟩)
        go_wp2_with fail
        refine Ord.start (S := fun W => W = wr.drew ∨ W = (wr.drew.setCell ⟨pp, 2, none⟩ (.int .i64 0)).setCell ⟨pp, 3, none⟩ (.int .i64 0)) (n := 14) (by kernel_rfl) (by kernel_rfl) (.inl rfl) ?_
        have off : ∀ (W : World) (j : Nat), (W = wr.drew ∨ W = (wr.drew.setCell ⟨pp, 2, none⟩ (.int .i64 0)).setCell ⟨pp, 3, none⟩ (.int .i64 0)) → W.cell? ⟨b8, j, none⟩ = #[Value.int .i64 0, Value.int .i64 0][j]? := fun W j hW => by
          rcases hW with rfl | rfl
          · exact cell_of_row _ b8 j _ _ (0, 0) q8
          · exact cell_of_row _ b8 j _ _ (0, 0) ((Below.heap_setCell _ _ _ _ (by show b8 ≠ pp; omega)).trans ((Below.heap_setCell _ _ _ _ (by show b8 ≠ pp; omega)).trans q8))
        apply of_region (w1 := wr.drew) (b8 := b8) (p := pp) (wd := (wn : Int)) (ht := (i : Int)) (hm := (i : Int) - 1) (ar := 0) (ac := 0) (X := 0) (Y := 0)
        case R => exact ⟨by kernel_rfl, by kernel_rfl⟩
        case hQ => exact fun _ _ _ _ _ h => h
        case k0 => exact fun W hW => off W 0 hW
        case k1 => exact fun W hW => off W 1 hW
        case k2 => exact ⟨_, SF.get 2⟩
        case k3 => exact ⟨_, SF.get 3⟩
        case f2 => exact SF.free 2
        case f3 => exact SF.free 3
        case hh => exact IntWalk.i64_in _ (by omega)
        case CL => exact fun W => by have e : (0 : Int) = min (max 0 0) ((i : Int) - 1) := by omega
                                     have c := clamp_walk 0 0 ((i : Int) - 1) W
                                     rw [← e] at c; exact c
        case CC => exact fun W => by have e : (0 : Int) = min (max 0 0) (wn : Int) := by omega
                                     have c := clamp_walk 0 0 (wn : Int) W
                                     rw [← e] at c; exact c
        case F => exact ⟨rfl, rfl, rfl, rfl, rfl, rfl⟩
        intro a2 F2
        refine of_frame F2.size F2.defers F2.s1 F2.s2 F2.s8 F2.s11 ?_
        intros
        clear F2 SF SE off q8
        try dsimp only
        go_wp2
        go_ret
        exact DN.out
set_option maxRecDepth 100000 in
theorem new_walk (wd h : Int) (w : World) : Calls Tryz.prog 48 #[.int .i64 wd, .int .i64 h] w fun e w' => OfPost (newS wd h) w e w' := by
  have O := Lib.hid (ofNil_walk wd h w)
  go_enter Tryz.func48, Tryz.ntmps48
  go_wp2_with fail
  refine O.out.mono ?_
  rintro e w' ⟨p, g, xs, rfl, h1⟩
  have D := Lib.hid h1
  clear h1 O
  go_wp2
  go_ret
  exact ⟨p, g, xs, rfl, D.out⟩
end Sc
end Go.Proofs.YtibihjcpkdfgeaaGreatDoor
namespace Go.Proofs.YtibihjcpkdfgeaaGreatDoor
open Go.ChangeShapes Go.WideShapes Go.ChangeAt Go.RowKit
namespace Sc
open Rw

set_option maxRecDepth 100000 in
set_option maxHeartbeats 1600000 in
/-- slices.Clone of some cells. -/
theorem cloneCells_walk {n c b o : Nat} {l : List Cel} (w : World) (hq : Sq w w.heap.size 3 n (some ⟨b, o, none⟩) (flat l)) (hn : n ≤ 1000000) :
    Calls Tryz.prog 95 #[.slice (some ⟨b, o, none⟩) n c] w fun e w' => ∃ A c', e = .returned (.slice A n c') ∧ HasC w' w.heap.size (.slice A n c') l ∧ Below w.heap.size w w' := by
  obtain ⟨i0, hi, hz0, hz1, hz2⟩ := info_parts infoCell
  have q22 : ∀ (w : World) (a : Option Addr) (n c n' c' : Nat), (binOp .eql 51 (.slice a n c) (.slice none n' c')).run Tryz.prog w = .ok (.bool a.isNone) w := fun w a n c n' c' => Lib.run_eql_slice_nil w _ _ a n c n' c' Tryz.underlying51
  have hln : l.length = n := by have := hq.len; rw [flat_length] at this; omega
  have LN := Lib.hid hln
  have QQ := Lib.hid (hq.alloc (Nat.le_refl _) (.cells #[] 67))
  clear hq hln
  go_enter Tryz.func95, Tryz.ntmps95
  go_wp2_with (
    at_builtin
    refine wpl_app rfl _ _ 51 rfl w.heap.size 67 i0 (.agg #[.int .i32 0, .int .i64 0, .int .i64 0]) 3 24 Tryz.underlying51 hi hz0 hz1 hz2 rfl (by decide) (.slice (some ⟨w.heap.size, 0, none⟩) 0 0) 0 [] rfl (World.ownsRow_made w #[] 0 (Nat.le_refl _) (Nat.zero_le _) rfl) (some ⟨b, o, none⟩) n c (flat l) rfl w.heap.size QQ.out (flat_one _) (by unfold maxLen; omega) (by omega) (by simp) ?_
    intro v1 w1 hown hg _
    have HO := Lib.hid (show HasC w1 w.heap.size v1 l by unfold HasC; rw [LN.out]; simpa using hown)
    have HB := Lib.hid (((Below.refl w.heap.size w).alloc (Nat.le_refl _) (.cells #[] 67)).grown hg (by simp) (fun k e => by simp [Value.ownBlock] at e; omega))
    clear hown hg)
  obtain ⟨A, c', e, _⟩ := HasC.shape HO.out
  rw [LN.out] at e
  subst e
  go_ret
  exact ⟨A, c', rfl, HO.out, HB.out⟩
structure Shown (w : World) (wd : Nat) (R : List SR) (v : Value) (ys : List RowIn) (W : World) : Prop where
  rows : RowsIn W w.heap.size v ys
  same : ys.map sr = R
  each : ∀ y ∈ ys, y.n = wd ∧ ∃ k, y.A = some ⟨k, 0, none⟩ ∧ w.heap.size ≤ k
  old : Below w.heap.size w W
set_option maxRecDepth 100000 in
set_option maxHeartbeats 6400000 in
theorem rows_walk {p g : Nat} {s : Scr} {xs : List RowIn} (w : World) (h : ScAt w p g s xs) : Calls Tryz.prog 58 #[ptrS p] w fun e w' => ∃ v ys, e = .returned v ∧ Shown w s.w s.rows v ys w' := by
  obtain ⟨i0, hi, hz0, hz1, hz2⟩ := info_parts infoRow'
  obtain ⟨hn, hhn⟩ : ∃ hn, s.rows.length = hn := ⟨_, rfl⟩
  have h1 := h.ok.h1
  have h2 := h.ok.h2
  rw [hhn] at h1 h2
  have k1 : w.cell? ⟨p, 1, none⟩ = some (.slice (some ⟨g, 0, none⟩) hn hn) := by rw [← hhn]; exact h.get 1
  have H := Lib.hid h
  have T0 := Lib.hid (show Shown w s.w (s.rows.take 0) (.slice none 0 0) [] w from ⟨RowsIn.nothing _ _, rfl, (fun _ h => by cases h), Below.refl _ _⟩)
  clear h
  go_enter Tryz.func58, Tryz.ntmps58
  go_wp2_with fail
  go_loopw [3, 5, 13] (fun v3 _ v13 wr => ∃ (i : Nat) (ys : List RowIn), v13 = .int .i64 i ∧ i ≤ hn ∧ ys.length = i ∧ Hid (Shown w s.w (s.rows.take i) v3 ys wr)) (fun _ _ v13 _ => hn - (intOf v13).toNat)
  case atStart => exact ⟨0, [], rfl, Nat.zero_le _, rfl, T0⟩
  case round =>
    obtain ⟨i, ys, rfl, hi', hyl, TR⟩ := hrel
    clear T0
    by_cases hlt : i < hn
    · have hlt' : (i : Int) < (hn : Int) := by omega
      have hi0 : (0 : Int) ≤ (i : Int) := by omega
      have hR := H.out.laid TR.out.old
      obtain ⟨x, hx, hsr, hc, hxn, _, hxl, hxs⟩ := hR.at' (i := i) (by rw [hhn]; exact hlt)
      have g0 : wr.cell? ⟨g, i * 2, none⟩ = some (.slice x.A x.n x.c) := (hR.row hx).1
      have g1 : wr.cell? ⟨g, i * 2 + 1, none⟩ = some (.bool x.wrap) := (hR.row hx).2
      have hinc : IntKind.i64.wrap ((i : Int) + 1) = (i : Int) + 1 := IntWalk.i64_in _ (by omega)
      have HX := Lib.hid (show (∃ k, x.A = some ⟨k, 0, none⟩) ∧ x.n = s.w ∧ s.rows[i]? = some (sr x) ∧ x.l.length = s.w ∧ (∀ c ∈ x.l, -2147483648 ≤ c.1 ∧ c.1 ≤ 2147483647) ∧ Sq wr wr.heap.size 3 x.n x.A (flat x.l) from by
        obtain ⟨k, hk, _⟩ := fresh_row hc (by have := H.out.ok.w2; omega)
        exact ⟨⟨k, hk⟩, hxn, hsr, hxl, hxs, hR.sq hx⟩)
      clear hR hsr hc hxn hxl hxs k1
      go_wp2_with fail
      obtain ⟨w5, hw5⟩ : ∃ w5, wr.alloc (.cells #[.slice x.A x.n x.c, .bool x.wrap] 53) = w5 := ⟨_, rfl⟩
      obtain ⟨b5, hb5⟩ : ∃ b5, wr.heap.size = b5 := ⟨_, rfl⟩
      have bb5 : Below wr.heap.size wr w5 := by rw [← hw5]; exact (Below.refl _ _).alloc (Nat.le_refl _) _
      have q5 : w5.drew.heap[b5]? = some (.cells #[.slice x.A x.n x.c, .bool x.wrap] 53 (0, 0)) := by rw [← hb5, ← hw5]; exact heap_alloc_new wr _
      have z5 : w5.drew.heap.size = b5 + 1 := by rw [← hb5, ← hw5]; simp
      rw [hw5, hb5]
      obtain ⟨⟨kx, hkx⟩, hxn, hsr, hxl, hxs, hxq⟩ := HX.out
      have bd5 := bb5.drew
      have R5 := TR.out.rows.below bd5
      have o5 : Below w.heap.size w w5.drew := TR.out.old.trans (bd5.mono TR.out.old.size)
      have xn1 : x.n ≤ 1000000 := by rw [hxn]; have := H.out.ok.w3; omega
      have CC := cloneCells_walk (n := x.n) (c := x.c) (b := kx) (o := 0) (l := x.l) w5.drew (by rw [← hkx]; exact (hxq.below bd5).up bd5.size) xn1
      have hgt : ∀ W A c, (HasC W w5.drew.heap.size (.slice A x.n c) x.l ∧ Below w5.drew.heap.size w5.drew W) → W.heap[b5]? = w5.drew.heap[b5]? := fun W A c hK => hK.2.block b5 (by omega)
      have hga : ∀ W A7 c7, (HasC W w5.drew.heap.size (.slice A7 x.n c7) x.l ∧ Below w5.drew.heap.size w5.drew W) → Below w5.drew.heap.size w5.drew (W.alloc (.cells #[.slice A7 x.n c7, .bool x.wrap] 53)) := fun W A7 c7 hK => hK.2.alloc hK.2.size _
      have hu3 : ∀ j, u3.ownBlock = some j → j < wr.heap.size := fun j e => (TR.out.rows.lt j e).2
      refine Ord.start (S := fun W => W.heap[b5]? = w5.drew.heap[b5]?) (n := 10) (by kernel_rfl) (by kernel_rfl) rfl ?_
      apply rows_region (w1 := w5.drew) (b5 := b5) (xn := x.n) (xc := x.c) (n := i) (base := w.heap.size) (xA := x.A) (xw := x.wrap) (vo := u3) (xsv := ys.flatMap RowIn.vals) (p0 := ptrS p) (p1 := undef) (p2 := .slice none 0 0) (p4 := undef) (p6 := ptrS p) (p7 := .bool false) (p8 := ptrS p) (p9 := .pointer (some ⟨p, 0, none⟩)) (p10 := .pointer (some ⟨p, 1, none⟩)) (p11 := .slice (some ⟨g, 0, none⟩) hn hn) (p12 := .int .i64 (hn : Int)) (p13 := .int .i64 (i : Int)) (p14 := .bool true) (p15 := .pointer (some ⟨g, i * 2, none⟩)) (p16 := .agg #[.slice x.A x.n x.c, .bool x.wrap]) (p26 := u26) (p27 := undef) (K := fun W A c => HasC W w5.drew.heap.size (.slice A x.n c) x.l ∧ Below w5.drew.heap.size w5.drew W) (i0 := i0)
      case hi => exact hi
      case hz0 => exact hz0
      case hz1 => exact hz1
      case hz2 => exact hz2
      case R => exact ⟨by kernel_rfl, by kernel_rfl⟩
      case hQ => exact fun _ _ _ _ _ h => h
      case k0 => exact fun W e => cell_of_row W b5 0 _ _ (0, 0) (e.trans q5)
      case k1 => exact fun W e => cell_of_row W b5 1 _ _ (0, 0) (e.trans q5)
      case CL =>
        rw [hkx]
        refine CC.mono ?_
        rintro e w' ⟨A, c', rfl, h1, h2⟩
        exact ⟨A, c', rfl, h1, h2⟩
      case KS => exact hgt
      case KS2 => exact fun W A7 c7 hK => (hga W A7 c7 hK).block b5 (by omega)
      case KO => exact fun W A7 c7 hK => by have := (R5.below (hga W A7 c7 hK)).own; rw [hyl] at this; exact this
      case KB => exact fun W A7 c7 hK => Nat.le_trans o5.size (hga W A7 c7 hK).size
      case KQ =>
        intro W A7 c7 hK b hb
        have e := heap_alloc_new W (.cells #[.slice A7 x.n c7, .bool x.wrap] 53)
        refine ⟨rfl, fun _ => ⟨b, 0, rfl, by simp; omega, fun j u hu => ?_⟩⟩
        rw [Nat.zero_add, ← hb, cell_of_row _ _ j _ _ (0, 0) e]
        simpa using hu
      case KE =>
        intro W A7 c7 w8 hK hg
        have hlt5 : b5 < (W.alloc (.cells #[.slice A7 x.n c7, .bool x.wrap] 53)).heap.size := by have := (hga W A7 c7 hK).size; omega
        exact (hg.block b5 hlt5 (fun e => by have := hu3 b5 e.symm; omega)).trans ((hga W A7 c7 hK).block b5 (by omega))
      case fit1 => unfold maxLen; omega
      case fit2 => omega
      case F => exact ⟨rfl, rfl, rfl, rfl, rfl, rfl, rfl, rfl, rfl, rfl, rfl, rfl, rfl, rfl, rfl, rfl, rfl, rfl, rfl, rfl⟩
      case f3 => rfl
      intro a2 W A7 c7 w8 A8 c8 hK hg8 H8 F2 f3
      have NXT := Lib.hid (show Shown w s.w (s.rows.take (i + 1)) (.slice A8 (i + 1) c8) (ys ++ [⟨A7, x.n, c7, x.wrap, x.l⟩]) w8 from by
        have hba := hga W A7 c7 hK
        have hc7 : HasC (W.alloc (.cells #[.slice A7 x.n c7, .bool x.wrap] 53)) w5.drew.heap.size (.slice A7 x.n c7) x.l := HasC.keep hK.1 (fun j e => Below.heap_alloc _ _ _ (HasC.lt hK.1 j e).2)
        obtain ⟨k7, hk7, hk71, _⟩ := fresh_row hc7 (by rw [hxn]; have := H.out.ok.w2; omega)
        refine ⟨(R5.below hba).snoc (x := ⟨A7, x.n, c7, x.wrap, x.l⟩) hg8 (by rw [hyl]; exact H8) (HasC.mono hc7 (Nat.zero_le _)) hxs, ?_, fun y hy => ?_, ?_⟩
        · rw [List.map_append, TR.out.same, List.take_add_one, hsr]; rfl
        · rcases List.mem_append.1 hy with hy | hy
          · exact TR.out.each y hy
          · rw [List.mem_singleton.1 hy]
            exact ⟨hxn, k7, hk7, Nat.le_trans o5.size hk71⟩
        · exact (o5.trans (hba.mono o5.size)).grown hg8 (Nat.le_trans o5.size hba.size) (fun k e => (TR.out.rows.lt k e).1))
      refine rows_frame F2.size F2.defers F2.s0 F2.s1 F2.s2 f3 F2.s4 F2.s5 F2.s6 F2.s7 F2.s8 F2.s9 F2.s10 F2.s11 F2.s12 F2.s13 F2.s14 F2.s15 F2.s16 F2.s26 F2.s27 ?_
      intros
      clear F2 f3 CC hgt hga hu3 hK hg8 H8 q5 z5 bb5 bd5 R5 o5 g0 g1
      try dsimp only
      go_wp2
      go_roundw
      case rel => exact ⟨i + 1, _, by first | rfl | (congr 1; done) | (congr 1; omega), hlt, by rw [List.length_append, hyl]; rfl, NXT⟩
      case measure => first | (simp [intOf]; done) | (simp [intOf]; omega)
    · obtain rfl : i = hn := by omega
      have e : s.rows.take i = s.rows := by rw [← hhn]; exact List.take_length
      rw [e] at TR
      go_wp2
      go_ret
      exact ⟨_, ys, rfl, TR.out⟩
end Sc
end Go.Proofs.YtibihjcpkdfgeaaGreatDoor
