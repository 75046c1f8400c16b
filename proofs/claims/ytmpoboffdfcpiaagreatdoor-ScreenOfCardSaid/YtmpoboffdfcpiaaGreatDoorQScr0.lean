import Derived.Test.YtmpoboffdfcpiaaGreatDoorQRow2
set_option maxRecDepth 100000
set_option maxHeartbeats 3200000
namespace Go.Proofs.YtmpoboffdfcpiaaGreatDoor
open Go.ChangeShapes Go.WideShapes Go.ChangeAt Go.RowKit
namespace Sc
theorem clamp_walk (n least most : Int) (w : World) : Calls Tryz.prog 56 #[.int .i64 n, .int .i64 least, .int .i64 most] w fun e w' => e = .returned (.int .i64 (min (max n least) most)) ∧ w = w' := by
 go_enter Tryz.func56, Tryz.ntmps56
 go_wp2
 all_goals go_ret
 all_goals exact ⟨ret_int (by omega), rfl⟩
theorem tmod256 (n : Int) : (n.tmod 256 + 256).tmod 256 = n % 256 := by
 have h1 := Int.tmod_lt_of_pos n (show (0 : Int) < 256 by omega)
 have h2 := Int.tmod_lt_of_pos (-n) (show (0 : Int) < 256 by omega)
 rw [Int.neg_tmod] at h2
 rw [Int.tmod_eq_emod_of_nonneg (by omega)]
 have h3 := Int.tmod_add_mul_tdiv n 256
 omega
theorem tmod256_range (n : Int) : -256 < n.tmod 256 ∧ n.tmod 256 < 256 := by
 have h1 := Int.tmod_lt_of_pos n (show (0 : Int) < 256 by omega)
 have h2 := Int.tmod_lt_of_pos (-n) (show (0 : Int) < 256 by omega)
 rw [Int.neg_tmod] at h2
 omega
theorem modulo_walk (n : Int) (w : World) : Calls Tryz.prog 57 #[.int .i64 n] w fun e w' => e = .returned (.int .i64 (n % 256)) ∧ w = w' := by
 have h := tmod256_range n
 have h1 : IntKind.i64.wrap (n.tmod 256 + 256) = n.tmod 256 + 256 := IntWalk.i64_in _ (by omega)
 have h2 := tmod256 n
 clear h
 go_enter Tryz.func57, Tryz.ntmps57
 go_wp2
 go_ret
 exact ⟨rfl, rfl⟩
def cntL (l : List Int) (i : Nat) : Int := if nth l i = 0 then 1 else min (max (nth l i) (-300)) 300
theorem number_walk (A : Option Addr) (n c : Nat) (l : List Int) (i : Nat) (w : World) {B : Nat} (hq : Sq w B 1 n A (l.map (Value.int .i64))) : Calls Tryz.prog 120 #[.slice A n c, .int .i64 (i : Int)] w fun e w' => e = .returned (.int .i64 (nth l i)) ∧ w = w' := by
 have hl := hq.size_ints
 by_cases hi : i < n
 ·obtain ⟨b, off, rfl, _, hc⟩ := hq.int_at hi
  have hd : ¬ ((n : Int) ≤ (i : Int)) := by omega
  clear hq
  go_enter Tryz.func120, Tryz.ntmps120
  go_wp2
  go_ret
  exact ⟨rfl, rfl⟩
 ·have hd : (n : Int) ≤ (i : Int) := by omega
  have h0 : nth l i = 0 := by unfold nth; rw [List.getD_eq_getElem?_getD, List.getElem?_eq_none (by omega)]; rfl
  clear hq
  go_enter Tryz.func120, Tryz.ntmps120
  go_wp2
  go_ret
  exact ⟨by rw [h0]; rfl, rfl⟩
theorem count_walk (A : Option Addr) (n c : Nat) (l : List Int) (i : Nat) (w : World) {B : Nat} (hq : Sq w B 1 n A (l.map (Value.int .i64))) : Calls Tryz.prog 117 #[.slice A n c, .int .i64 (i : Int)] w fun e w' => e = .returned (.int .i64 (cntL l i)) ∧ w = w' := by
 have NW := Lib.hid (number_walk A n c l i w hq)
 have CL := fun x => clamp_walk x (-300) 300 w
 obtain ⟨y, hy⟩ : ∃ y, nth l i = y := ⟨_, rfl⟩
 unfold cntL
 rw [hy] at NW ⊢
 clear hq hy
 by_cases h0 : y = 0
 ·have hb : (y == 0) = true := by simp; omega
  rw [if_pos h0]
  go_enter Tryz.func117, Tryz.ntmps117
  go_wp2_with (first | (go_at_call 120; refine NW.out.mono ?_; rintro e w' ⟨rfl, rfl⟩))
  go_ret
  exact ⟨rfl, rfl⟩
 ·have hb : (y == 0) = false := by simp; omega
  rw [if_neg h0]
  go_enter Tryz.func117, Tryz.ntmps117
  go_wp2_with (first | (go_at_call 120; refine NW.out.mono ?_; rintro e w' ⟨rfl, rfl⟩) | (go_at_call 56; refine (CL _).mono ?_; rintro e w' ⟨rfl, rfl⟩))
  go_ret
  exact ⟨rfl, rfl⟩
end Sc
end Go.Proofs.YtmpoboffdfcpiaaGreatDoor
namespace Go.Proofs.YtmpoboffdfcpiaaGreatDoor
open Rw
namespace Sc
abbrev SR := List Cel × Bool
structure Scr where
 w : Nat
 rows : List SR
 r : Nat
 c : Nat
 a : Int
structure Ok (s : Scr) : Prop where
 w2 : 2 ≤ s.w
 w3 : s.w ≤ 300
 h1 : 1 ≤ s.rows.length
 h2 : s.rows.length ≤ 100
 row : s.r < s.rows.length
 col : s.c ≤ s.w
 a0 : 0 ≤ s.a
 a1 : s.a ≤ 255
 each : ∀ x ∈ s.rows, Rw.Good x.1 ∧ x.1.length = s.w ∧ ∀ c ∈ x.1, -2147483648 ≤ c.1 ∧ c.1 ≤ 2147483647
def setR (col : Nat) (L : List Cel) (x : SR) : SR := (setRes x.1 (col : Int) L, x.2)
def eraseR (f t : Int) (x : SR) : SR := (eraseRes x.1 f t, eraseWrap x.2 x.1 f t)
def setS (s : Scr) (L : List Cel) : Scr := { s with rows := s.rows.modify s.r (setR s.c L) }
def eraseS (s : Scr) (i : Nat) (f t : Int) : Scr := { s with rows := s.rows.modify i (eraseR f t) }
def downS (s : Scr) : Scr := if s.r + 1 < s.rows.length then { s with r := s.r + 1 } else { s with rows := s.rows.drop 1 ++ [(blanksL s.w, false)] }
def downO (s : Scr) : List SR := if s.r + 1 < s.rows.length then [] else s.rows.take 1
def padS (s : Scr) : Scr := if s.c < s.w then setS s [(0, 1, 0)] else s
def markS (s : Scr) : Scr := { s with rows := s.rows.modify s.r (fun x => (x.1, true)), c := 0 }
def wrapS (s : Scr) : Scr := downS (markS (padS s))
def wrapO (s : Scr) : List SR := downO (markS (padS s))
def roomS (s : Scr) (k : Int) : Scr := if (s.w : Int) < (s.c : Int) + k then wrapS s else s
def roomO (s : Scr) (k : Int) : List SR := if (s.w : Int) < (s.c : Int) + k then wrapO s else []
def ahead (s : Scr) (k : Int) : Scr := { s with c := s.c + k.toNat }
def printS (s : Scr) (r : Int) : Scr := if wof r = 0 then s else ahead (setS (roomS s (wof r)) (ofL r s.a)) (wof r)
def printO (s : Scr) (r : Int) : List SR := if wof r = 0 then [] else roomO s (wof r)
def leaveS (s : Scr) : Scr := { s with c := min s.c (s.w - 1) }
def ctrlS (s : Scr) (r : Int) : Scr := if r = 8 then { s with c := s.c - 1 } else if r = 9 then { s with c := min ((s.c / 8 + 1) * 8) (s.w - 1) } else if r = 10 then downS (leaveS s) else if r = 13 then { s with c := 0 } else s
def ctrlO (s : Scr) (r : Int) : List SR := if r = 10 then downO (leaveS s) else []
def moveS (s : Scr) (line col : Int) : Scr := { s with r := (min (max line 0) ((s.rows.length : Int) - 1)).toNat, c := (min (max col 0) ((s.w : Int) - 1)).toNat }
def rowsE (s : Scr) (f n : Nat) : Scr := (List.range' f n).foldl (fun s i => eraseS s i 0 (s.w : Int)) s
def rowE (s : Scr) (what : Int) : Scr := if what = 0 then eraseS s s.r (s.c : Int) (s.w : Int) else if what = 1 then eraseS s s.r 0 ((s.c : Int) + 1) else if what = 2 then eraseS s s.r 0 (s.w : Int) else s
def scrE (s : Scr) (what : Int) : Scr := rowE (if what = 0 then rowsE s (s.r + 1) (s.rows.length - (s.r + 1)) else if what = 1 then rowsE s 0 s.r else if what = 2 then rowsE s 0 s.rows.length else s) what
def modA (n : Int) : Int := n % 256
def paintS (s : Scr) (l : List Int) : Scr := { s with a := l.foldl (fun _ n => modA n) 0 }
def knows (r : Int) : Bool := r == 65 || r == 66 || r == 67 || r == 68 || r == 72 || r == 74 || r == 75 || r == 109
def actS (s : Scr) (r : Int) (l : List Int) : Scr :=
 if r = 65 then moveS s ((s.r : Int) - cntL l 0) s.c else
 if r = 66 then moveS s ((s.r : Int) + cntL l 0) s.c else
 if r = 67 then moveS s s.r ((s.c : Int) + cntL l 0) else
 if r = 68 then moveS s s.r ((s.c : Int) - cntL l 0) else
 if r = 72 then moveS s (cntL l 0 - 1) (cntL l 1 - 1) else
 if r = 74 then scrE s (nth l 0) else
 if r = 75 then rowE s (nth l 0) else paintS s l
def csiS (s : Scr) (r : Int) (l : List Int) : Scr := if knows r then actS (leaveS s) r l else s
def doS (s : Scr) (k r : Int) (l : List Int) : Scr := if k = 1 then printS s r else if k = 2 then ctrlS s r else if k = 3 then csiS s r l else s
def doO (s : Scr) (k r : Int) : List SR := if k = 1 then printO s r else if k = 2 then ctrlO s r else []
def newS (w h : Int) : Scr := { w := (min (max w 2) 300).toNat, rows := List.replicate (min (max h 1) 100).toNat (blanksL (min (max w 2) 300).toNat, false), r := 0, c := 0, a := 0 }
def RowOk (w : Nat) (x : SR) : Prop := Rw.Good x.1 ∧ x.1.length = w ∧ ∀ c ∈ x.1, -2147483648 ≤ c.1 ∧ c.1 ≤ 2147483647
theorem each_modify {P : SR → Prop} {l : List SR} {i : Nat} {f : SR → SR} (h : ∀ x ∈ l, P x) (hf : ∀ x, P x → P (f x)) : ∀ x ∈ l.modify i f, P x := by
 intro x hx
 obtain ⟨j, hj⟩ := List.mem_iff_getElem?.1 hx
 rw [List.getElem?_modify] at hj
 cases hl : l[j]? with
 | none => rw [hl] at hj; simp at hj
 | some y =>
  rw [hl] at hj
  have hy := h y (List.mem_of_getElem? hl)
  simp only [Option.map_eq_map, Option.map_some, Option.some.injEq] at hj
  split at hj
  ·rw [← hj]; exact hf y hy
  ·rw [← hj]; exact hy
theorem ovL_signs {l L : List Cel} {k : Nat} (h : ∀ c ∈ l, -2147483648 ≤ c.1 ∧ c.1 ≤ 2147483647) (hL : ∀ c ∈ L, -2147483648 ≤ c.1 ∧ c.1 ≤ 2147483647) : ∀ c ∈ ovL l k L, -2147483648 ≤ c.1 ∧ c.1 ≤ 2147483647 := by
 have at' : ∀ (m : List Cel), (∀ c ∈ m, -2147483648 ≤ c.1 ∧ c.1 ≤ 2147483647) → ∀ i, -2147483648 ≤ (cAt m i).1 ∧ (cAt m i).1 ≤ 2147483647 := fun m hm i => by
  by_cases hi : i < m.length
  ·exact hm _ (List.mem_of_getElem? (cAt_get hi))
  ·rw [cAt_none (by omega)]; simp
 intro c hc
 unfold ovL at hc
 obtain ⟨i, _, rfl⟩ := List.mem_map.1 hc
 unfold ovS
 split
 ·exact at' L hL _
 ·split
  ·simp
  ·split
   ·simp
   ·exact at' l h _
theorem setOk_parts {l L : List Cel} {col : Int} (h : setOk l col L = true) : mayL l = true ∧ isOneB L = true ∧ 0 ≤ col ∧ col ≤ (l.length : Int) - (L.length : Int) := by
 unfold setOk at h
 simp only [Bool.and_eq_true, decide_eq_true_eq] at h
 exact ⟨h.1.1.1, h.1.1.2, h.1.2, h.2⟩
theorem setRes_ok {w : Nat} {x : SR} {col : Nat} {L : List Cel} (h : RowOk w x) (hL : ∀ c ∈ L, -2147483648 ≤ c.1 ∧ c.1 ≤ 2147483647) : RowOk w (setR col L x) := by
 unfold setR setRes
 split
 ·rename_i hok
  obtain ⟨_, h2, h3, h4⟩ := setOk_parts hok
  refine ⟨ovL_good h.1 (isOne_whole h2) (show (col : Int).toNat + L.length ≤ x.1.length by omega), by rw [ovL_length]; exact h.2.1, ovL_signs h.2.2 hL⟩
 ·exact h
theorem blanks_signs (n : Nat) : ∀ c ∈ blanksL n, -2147483648 ≤ c.1 ∧ c.1 ≤ 2147483647 := by
 intro c hc
 unfold blanksL at hc
 rw [(List.mem_replicate.1 hc).2]
 simp
theorem eraseR_ok {w : Nat} {x : SR} {f t : Int} (h : RowOk w x) : RowOk w (eraseR f t x) := by
 unfold eraseR eraseRes
 split
 ·rename_i hok
  rw [Bool.and_eq_true] at hok
  have hlt : f < t := by simpa using hok.2
  have ho := hok.1
  unfold eraseOk at ho
  simp only [Bool.and_eq_true, decide_eq_true_eq] at ho
  refine ⟨ovL_good h.1 (blanksL_whole (show 0 < (t - f).toNat by omega)) (show f.toNat + (blanksL (t - f).toNat).length ≤ x.1.length by rw [blanksL_length]; omega), by rw [ovL_length]; exact h.2.1, ovL_signs h.2.2 (blanks_signs _)⟩
 ·exact h
theorem good_blanks (n : Nat) : Rw.Good (blanksL n) := by
 refine ⟨fun i _ => by rw [cAt_blanksL]; exact mayB_blank, fun i => ?_, fun i e => ?_⟩
 ·unfold cPrev
  rw [cAt_blanksL]
  split <;> simp [cAt_blanksL]
 ·rw [cAt_blanksL] at e; cases e
theorem blank_ok (w : Nat) : RowOk w (blanksL w, false) := ⟨good_blanks w, blanksL_length w, blanks_signs w⟩
namespace Ok
variable {s : Scr}
theorem set (h : Ok s) {L : List Cel} (hL : ∀ c ∈ L, -2147483648 ≤ c.1 ∧ c.1 ≤ 2147483647) : Ok (setS s L) :=
 ⟨h.w2, h.w3, by simpa [setS] using h.h1, by simpa [setS] using h.h2, by simpa [setS] using h.row, h.col, h.a0, h.a1, each_modify (P := RowOk s.w) h.each fun _ hx => setRes_ok hx hL⟩
theorem erase (h : Ok s) (i : Nat) (f t : Int) : Ok (eraseS s i f t) :=
 ⟨h.w2, h.w3, by simpa [eraseS] using h.h1, by simpa [eraseS] using h.h2, by simpa [eraseS] using h.row, h.col, h.a0, h.a1, each_modify (P := RowOk s.w) h.each fun _ hx => eraseR_ok hx⟩
theorem down (h : Ok s) : Ok (downS s) := by
 unfold downS
 split
 ·rename_i hr
  exact ⟨h.w2, h.w3, h.h1, h.h2, hr, h.col, h.a0, h.a1, h.each⟩
 ·have h1 := h.h1
  have h2 := h.h2
  have h3 := h.row
  refine ⟨h.w2, h.w3, by simp, by simp; omega, by simp; omega, h.col, h.a0, h.a1, fun x hx => ?_⟩
  rcases List.mem_append.1 hx with hx | hx
  ·exact h.each x (List.mem_of_mem_drop hx)
  ·rw [List.mem_singleton.1 hx]
   exact blank_ok _
theorem pad (h : Ok s) : Ok (padS s) := by
 unfold padS
 split
 ·exact h.set (by intro c hc; rw [List.mem_singleton.1 hc]; simp)
 ·exact h
theorem mark (h : Ok s) : Ok (markS s) :=
 ⟨h.w2, h.w3, by simpa [markS] using h.h1, by simpa [markS] using h.h2, by simpa [markS] using h.row, Nat.zero_le _, h.a0, h.a1, each_modify (P := RowOk s.w) h.each fun _ hx => hx⟩
theorem wrap (h : Ok s) : Ok (wrapS s) := h.pad.mark.down
end Ok
theorem ofL_signs {r a : Int} (h0 : -2147483648 ≤ r) (h1 : r ≤ 2147483647) : ∀ c ∈ ofL r a, -2147483648 ≤ c.1 ∧ c.1 ≤ 2147483647 := by
 intro c hc
 unfold ofL at hc
 split at hc
 ·split at hc
  ·rw [List.mem_singleton.1 hc]; exact ⟨h0, h1⟩
  ·split at hc
   ·simp at hc
    rcases hc with rfl | rfl
    ·exact ⟨h0, h1⟩
    ·simp
   ·cases hc
 ·cases hc
theorem downS_w (s : Scr) : (downS s).w = s.w ∧ (downS s).c = s.c ∧ (downS s).a = s.a := by
 unfold downS; split <;> exact ⟨rfl, rfl, rfl⟩
theorem padS_w (s : Scr) : (padS s).w = s.w ∧ (padS s).c = s.c ∧ (padS s).a = s.a ∧ (padS s).r = s.r ∧ (padS s).rows.length = s.rows.length := by
 unfold padS; split
 ·exact ⟨rfl, rfl, rfl, rfl, by simp [setS]⟩
 ·exact ⟨rfl, rfl, rfl, rfl, rfl⟩
theorem wrapS_w (s : Scr) : (wrapS s).w = s.w ∧ (wrapS s).c = 0 ∧ (wrapS s).a = s.a := by
 unfold wrapS
 obtain ⟨h1, h2, h3⟩ := downS_w (markS (padS s))
 obtain ⟨k1, k2, k3, _⟩ := padS_w s
 exact ⟨h1.trans k1, h2, h3.trans k3⟩
theorem roomS_w (s : Scr) (k : Int) : (roomS s k).w = s.w ∧ (roomS s k).a = s.a := by
 unfold roomS; split
 ·exact ⟨(wrapS_w s).1, (wrapS_w s).2.2⟩
 ·exact ⟨rfl, rfl⟩
namespace Ok
variable {s : Scr}
theorem room (h : Ok s) (k : Int) : Ok (roomS s k) := by
 unfold roomS; split
 ·exact h.wrap
 ·exact h
theorem room_col (h : Ok s) {k : Int} (hk : k ≤ 2) (h0 : 0 ≤ k) : ((roomS s k).c : Int) + k ≤ s.w := by
 unfold roomS; split
 ·rw [(wrapS_w s).2.1]; have := h.w2; omega
 ·omega
theorem print (h : Ok s) {r : Int} (h0 : -2147483648 ≤ r) (h1 : r ≤ 2147483647) : Ok (printS s r) := by
 unfold printS; split
 ·exact h
 ·have hw := wof_range r
  have hc := h.room_col hw.2 hw.1
  have h2 := (h.room (wof r)).set (ofL_signs (a := s.a) h0 h1)
  have e : (setS (roomS s (wof r)) (ofL r s.a)).w = s.w := (roomS_w s _).1
  exact ⟨h2.w2, h2.w3, h2.h1, h2.h2, h2.row, by
   show (roomS s (wof r)).c + (wof r).toNat ≤ (setS (roomS s (wof r)) (ofL r s.a)).w
   rw [e]; omega, h2.a0, h2.a1, h2.each⟩
theorem leave (h : Ok s) : Ok (leaveS s) := ⟨h.w2, h.w3, h.h1, h.h2, h.row, by have := h.w2; show min s.c (s.w - 1) ≤ s.w; omega, h.a0, h.a1, h.each⟩
theorem leave_col (h : Ok s) : (leaveS s).c < s.w := by have := h.w2; show min s.c (s.w - 1) < s.w; omega
theorem colIs (h : Ok s) {c : Nat} (hc : c ≤ s.w) : Ok { s with c := c } := ⟨h.w2, h.w3, h.h1, h.h2, h.row, hc, h.a0, h.a1, h.each⟩
theorem ctrl (h : Ok s) (r : Int) : Ok (ctrlS s r) := by
 unfold ctrlS
 have := h.col
 split
 ·exact h.colIs (by omega)
 ·split
  ·exact h.colIs (by omega)
  ·split
   ·exact h.leave.down
   ·split
    ·exact h.colIs (by omega)
    ·exact h
theorem move (h : Ok s) (line col : Int) : Ok (moveS s line col) :=
 ⟨h.w2, h.w3, h.h1, h.h2, by have := h.h1; show (min (max line 0) ((s.rows.length : Int) - 1)).toNat < s.rows.length; omega, by have := h.w2; show (min (max col 0) ((s.w : Int) - 1)).toNat ≤ s.w; omega, h.a0, h.a1, h.each⟩
theorem rowE (h : Ok s) (what : Int) : Ok (rowE s what) := by
 unfold Sc.rowE
 split
 ·exact h.erase _ _ _
 ·split
  ·exact h.erase _ _ _
  ·split
   ·exact h.erase _ _ _
   ·exact h
theorem rowsE (h : Ok s) (f n : Nat) : Ok (rowsE s f n) := by
 unfold Sc.rowsE
 induction n generalizing f s with
 | zero => exact h
 | succ n ih =>
  rw [List.range'_succ, List.foldl_cons]
  exact ih (s := eraseS s f 0 s.w) (h.erase f 0 s.w) (f + 1)
theorem scrE (h : Ok s) (what : Int) : Ok (scrE s what) := by
 unfold Sc.scrE
 refine Ok.rowE ?_ _
 split
 ·exact h.rowsE _ _
 ·split
  ·exact h.rowsE _ _
  ·split
   ·exact h.rowsE _ _
   ·exact h
theorem paint (h : Ok s) (l : List Int) : Ok (paintS s l) := by
 have hm : ∀ n : Int, 0 ≤ modA n ∧ modA n ≤ 255 := fun n => by unfold modA; omega
 have : ∀ (l : List Int) (x : Int), 0 ≤ x ∧ x ≤ 255 → 0 ≤ l.foldl (fun _ n => modA n) x ∧ l.foldl (fun _ n => modA n) x ≤ 255 := fun l => by
  induction l with
  | nil => exact fun x hx => hx
  | cons n l ih => exact fun x _ => ih _ (hm n)
 have := this l 0 (by omega)
 exact ⟨h.w2, h.w3, h.h1, h.h2, h.row, h.col, this.1, this.2, h.each⟩
theorem act (h : Ok s) (r : Int) (l : List Int) : Ok (actS s r l) := by
 unfold actS
 repeat' split
 ·exact h.move _ _
 ·exact h.move _ _
 ·exact h.move _ _
 ·exact h.move _ _
 ·exact h.move _ _
 ·exact h.scrE _
 ·exact h.rowE _
 ·exact h.paint _
theorem csi (h : Ok s) (r : Int) (l : List Int) : Ok (csiS s r l) := by
 unfold csiS
 split
 ·exact h.leave.act r l
 ·exact h
theorem doS (h : Ok s) {r : Int} (h0 : -2147483648 ≤ r) (h1 : r ≤ 2147483647) (k : Int) (l : List Int) : Ok (doS s k r l) := by
 unfold Sc.doS
 split
 ·exact h.print h0 h1
 ·split
  ·exact h.ctrl r
  ·split
   ·exact h.csi r l
   ·exact h
end Ok
theorem newS_ok (w h : Int) : Ok (newS w h) := by
 unfold newS
 refine ⟨?_, ?_, ?_, ?_, ?_, ?_, ?_, ?_, fun x hx => ?_⟩
 all_goals try (simp; done)
 ·show 2 ≤ (min (max w 2) 300).toNat; omega
 ·show (min (max w 2) 300).toNat ≤ 300; omega
 ·show 1 ≤ (List.replicate _ _).length; rw [List.length_replicate]; omega
 ·show (List.replicate _ _).length ≤ 100; rw [List.length_replicate]; omega
 ·show 0 < (List.replicate _ _).length; rw [List.length_replicate]; omega
 ·rw [(List.mem_replicate.1 hx).2]
  exact blank_ok _
end Sc
end Go.Proofs.YtmpoboffdfcpiaaGreatDoor
namespace Go.Proofs.YtmpoboffdfcpiaaGreatDoor
open Go.ChangeShapes Go.WideShapes Go.ChangeAt Go.RowKit
namespace Sc
open Rw
def sr (x : RowIn) : SR := (x.l, x.wrap)
def scells (s : Scr) (g : Nat) : Array Value := #[.int .i64 (s.w : Int), .slice (some ⟨g, 0, none⟩) s.rows.length s.rows.length, .int .i64 (s.r : Int), .int .i64 (s.c : Int), .int .i64 s.a]
structure ScAt (W : World) (p g : Nat) (s : Scr) (xs : List RowIn) : Prop where
 ok : Ok s
 same : xs.map sr = s.rows
 scr : W.heap[p]? = some (.cells (scells s g) 93 (0, 0))
 rows : W.heap[g]? = some (.cells (xs.flatMap RowIn.vals).toArray 58 (0, 0))
 each : ∀ x ∈ xs, HasC W 0 (.slice x.A x.n x.c) x.l ∧ x.n = s.w
 apart : (xs.map RowIn.A).Nodup
theorem hasC_turned {W W' : World} {M : Nat → Prop} {v : Value} {l : List Cel} (hx : HasC W 0 v l) (ht : Turned M W W') (h2 : ∀ j, M j → ¬ Typed W 62 j) : HasC W' 0 v l := by
 refine ⟨hx.1, ?_⟩
 rcases hx.2 with e | ⟨g, cap, cur, e, e2, e3, r⟩
 ·exact .inl e
 ·exact .inr ⟨g, cap, cur, e, e2, (ht.block g (Array.getElem?_eq_some_iff.1 e3).1 (fun m => h2 g m ⟨_, _, e3⟩)).trans e3, r⟩
structure Went (W W' : World) (p g : Nat) (xs xs' : List RowIn) : Prop where
 turned : Turned (fun k => k = p ∨ k = g) W W'
 from' : ∀ x ∈ xs', (∃ y ∈ xs, y.A = x.A) ∨ ∃ k, x.A = some ⟨k, 0, none⟩ ∧ W.heap.size ≤ k
namespace Went
variable {W W' W2 : World} {p g : Nat} {xs xs' xs2 : List RowIn}
theorem refl (W : World) (p g : Nat) (xs : List RowIn) : Went W W p g xs xs := ⟨Turned.refl _ _, fun x hx => .inl ⟨x, hx, rfl⟩⟩
theorem trans (h : Went W W' p g xs xs') (k : Went W' W2 p g xs' xs2) : Went W W2 p g xs xs2 :=
 ⟨h.turned.trans k.turned (fun _ _ h => h), fun x hx => by
  rcases k.from' x hx with ⟨y, hy, e⟩ | ⟨b, e, hb⟩
  ·rcases h.from' y hy with ⟨z, hz, e2⟩ | ⟨b, e2, hb⟩
   ·exact .inl ⟨z, hz, e2.trans e⟩
   ·exact .inr ⟨b, e ▸ e2, hb⟩
  ·exact .inr ⟨b, e, Nat.le_trans h.turned.size hb⟩⟩
theorem laid (hb : Below W.heap.size W W') : Went W W' p g xs xs := ⟨Turned.ofBelow hb _, fun x hx => .inl ⟨x, hx, rfl⟩⟩
theorem cell (j : Nat) (v : Value) : Went W (W.setCell ⟨p, j, none⟩ v) p g xs xs := ⟨(Turned.ofCell p j W v).mono fun _ _ e => .inl e, fun x hx => .inl ⟨x, hx, rfl⟩⟩
end Went
theorem nodup_set {α : Type} : ∀ (l : List α) (i : Nat) (a : α), l.Nodup → a ∉ l → (l.set i a).Nodup
 | [], _, _, h, _ => h
 | b :: l, 0, a, h, ha => by
  rw [List.set_cons_zero]
  rw [List.nodup_cons] at h ⊢
  exact ⟨fun m => ha (List.mem_cons_of_mem _ m), h.2⟩
 | b :: l, i + 1, a, h, ha => by
  rw [List.set_cons_succ]
  rw [List.nodup_cons] at h ⊢
  refine ⟨fun m => ?_, nodup_set l i a h.2 (fun m => ha (List.mem_cons_of_mem _ m))⟩
  rcases List.mem_or_eq_of_mem_set m with m | m
  ·exact h.1 m
  ·exact ha (m ▸ List.mem_cons_self ..)
theorem vals_set : ∀ (xs : List RowIn) (i : Nat) (x : RowIn), i < xs.length → (xs.set i x).flatMap RowIn.vals = ((xs.flatMap RowIn.vals).set (i * 2) (.slice x.A x.n x.c)).set (i * 2 + 1) (.bool x.wrap)
 | [], _, _, h => by simp at h
 | y :: xs, 0, x, _ => by simp [RowIn.vals]
 | y :: xs, i + 1, x, h => by
  have ih := vals_set xs i x (by simpa using h)
  rw [List.set_cons_succ, List.flatMap_cons, ih, List.flatMap_cons, show (i + 1) * 2 = i * 2 + 1 + 1 by omega]
  simp [RowIn.vals]
theorem map_set_modify {xs : List RowIn} {i : Nat} {x y : RowIn} {f : SR → SR} (hy : xs[i]? = some y) (hx : sr x = f (sr y)) : (xs.set i x).map sr = (xs.map sr).modify i f := by
 refine List.ext_getElem? fun j => ?_
 rw [List.getElem?_map, List.getElem?_set, List.getElem?_modify, List.getElem?_map]
 have hi := (List.getElem?_eq_some_iff.1 hy).1
 by_cases e : i = j
 ·subst e
  rw [if_pos rfl, if_pos hi, hy]
  simp [hx]
 ·rw [if_neg e]
  cases xs[j]? <;> simp [e]
namespace ScAt
variable {W W' : World} {p g : Nat} {s : Scr} {xs : List RowIn}
theorem len (h : ScAt W p g s xs) : xs.length = s.rows.length := by rw [← h.same, List.length_map]
theorem ltp (h : ScAt W p g s xs) : p < W.heap.size := (Array.getElem?_eq_some_iff.1 h.scr).1
theorem ltg (h : ScAt W p g s xs) : g < W.heap.size := (Array.getElem?_eq_some_iff.1 h.rows).1
theorem typ (h : ScAt W p g s xs) : Typed W 93 p := ⟨_, _, h.scr⟩
theorem tyg (h : ScAt W p g s xs) : Typed W 58 g := ⟨_, _, h.rows⟩
theorem ne (h : ScAt W p g s xs) : p ≠ g := h.typ.apart h.tyg (by decide)
theorem noC (h : ScAt W p g s xs) : ∀ k, k = p ∨ k = g → ¬ Typed W 62 k := by
 rintro k (rfl | rfl) t
 ·exact h.typ.apart t (by decide) rfl
 ·exact h.tyg.apart t (by decide) rfl
theorem get (h : ScAt W p g s xs) (j : Nat) : W.cell? ⟨p, j, none⟩ = (scells s g)[j]? := cell_of_row W p j _ _ (0, 0) h.scr
theorem free (h : ScAt W p g s xs) (j : Nat) : W.frozen? ⟨p, j, none⟩ = false := frozen_of_row W p j _ _ h.scr
theorem freeg (h : ScAt W p g s xs) (j : Nat) : W.frozen? ⟨g, j, none⟩ = false := frozen_of_row W g j _ _ h.rows
theorem row (h : ScAt W p g s xs) {i : Nat} {x : RowIn} (hx : xs[i]? = some x) : W.cell? ⟨g, i * 2, none⟩ = some (.slice x.A x.n x.c) ∧ W.cell? ⟨g, i * 2 + 1, none⟩ = some (.bool x.wrap) := by
 constructor
 ·rw [cell_of_row W g _ _ _ (0, 0) h.rows, List.getElem?_toArray]
  have := flatMap_get RowIn.vals 2 (fun _ => rfl) xs i x hx 0 _ rfl
  simpa using this
 ·rw [cell_of_row W g _ _ _ (0, 0) h.rows, List.getElem?_toArray]
  exact flatMap_get RowIn.vals 2 (fun _ => rfl) xs i x hx 1 _ rfl
theorem at' (h : ScAt W p g s xs) {i : Nat} (hi : i < s.rows.length) : ∃ x, xs[i]? = some x ∧ s.rows[i]? = some (sr x) ∧ HasC W 0 (.slice x.A s.w x.c) x.l ∧ x.n = s.w ∧ Rw.Good x.l ∧ x.l.length = s.w ∧ ∀ c ∈ x.l, -2147483648 ≤ c.1 ∧ c.1 ≤ 2147483647 := by
 have hl := h.len
 obtain ⟨x, hx⟩ : ∃ x, xs[i]? = some x := ⟨_, List.getElem?_eq_getElem (by omega)⟩
 have hm := List.mem_of_getElem? hx
 have he := h.each x hm
 have hr : s.rows[i]? = some (sr x) := by rw [← h.same, List.getElem?_map, hx]; rfl
 have ho := h.ok.each _ (List.mem_of_getElem? hr)
 exact ⟨x, hx, hr, by rw [← he.2]; exact he.1, he.2, ho⟩
theorem kept (h : ScAt W p g s xs) {M : Nat → Prop} (ht : Turned M W W') (hp : ¬ M p) (hg : ¬ M g) (hc : ∀ k, M k → ¬ Typed W 62 k) : ScAt W' p g s xs :=
 ⟨h.ok, h.same, (ht.block p h.ltp hp).trans h.scr, (ht.block g h.ltg hg).trans h.rows, fun x hx => ⟨hasC_turned (h.each x hx).1 ht hc, (h.each x hx).2⟩, h.apart⟩
theorem laid (h : ScAt W p g s xs) (hb : Below W.heap.size W W') : ScAt W' p g s xs := h.kept (M := fun _ => False) (Turned.ofBelow hb _) (fun f => f) (fun f => f) (fun _ f => f.elim)
theorem own (h : ScAt W p g s xs) {s' : Scr} (hk : Ok s') (hr : s'.rows = s.rows) (hw : s'.w = s.w) {j : Nat} {v : Value} (hc : (scells s g).setIfInBounds j v = scells s' g) : ScAt (W.setCell ⟨p, j, none⟩ v) p g s' xs := by
 have ht := Turned.ofCell p j W v
 refine ⟨hk, by rw [hr]; exact h.same, by rw [← hc]; exact heap_setCell_same W p j _ _ _ h.scr, (ht.block g h.ltg (fun e => h.ne e.symm)).trans h.rows, fun x hx => ⟨hasC_turned (h.each x hx).1 ht (fun k e => h.noC k (.inl e)), by rw [hw]; exact (h.each x hx).2⟩, h.apart⟩
theorem setRow (h : ScAt W p g s xs) {r : Nat} (hr : r < s.rows.length) : ScAt (W.setCell ⟨p, 2, none⟩ (.int .i64 (r : Int))) p g { s with r := r } xs :=
 h.own (s' := { s with r := r }) ⟨h.ok.w2, h.ok.w3, h.ok.h1, h.ok.h2, hr, h.ok.col, h.ok.a0, h.ok.a1, h.ok.each⟩ rfl rfl rfl
theorem setCol (h : ScAt W p g s xs) {c : Nat} (hc : c ≤ s.w) : ScAt (W.setCell ⟨p, 3, none⟩ (.int .i64 (c : Int))) p g { s with c := c } xs :=
 h.own (s' := { s with c := c }) (h.ok.colIs hc) rfl rfl rfl
theorem setAttr (h : ScAt W p g s xs) {a : Int} (h0 : 0 ≤ a) (h1 : a ≤ 255) : ScAt (W.setCell ⟨p, 4, none⟩ (.int .i64 a)) p g { s with a := a } xs :=
 h.own (s' := { s with a := a }) ⟨h.ok.w2, h.ok.w3, h.ok.h1, h.ok.h2, h.ok.row, h.ok.col, h0, h1, h.ok.each⟩ rfl rfl rfl
theorem putRow (h : ScAt W p g s xs) {i : Nat} {x y : RowIn} {f : SR → SR} (hy : xs[i]? = some y) (hx : sr x = f (sr y)) (hok : Ok { s with rows := s.rows.modify i f }) (hc : HasC W 0 (.slice x.A x.n x.c) x.l) (hn : x.n = s.w) (hA : x.A = y.A ∨ ∀ z ∈ xs, z.A ≠ x.A) :
  ScAt ((W.setCell ⟨g, i * 2, none⟩ (.slice x.A x.n x.c)).setCell ⟨g, i * 2 + 1, none⟩ (.bool x.wrap)) p g { s with rows := s.rows.modify i f } (xs.set i x) := by
 have hi := (List.getElem?_eq_some_iff.1 hy).1
 have ht : Turned (· = g) W ((W.setCell ⟨g, i * 2, none⟩ (.slice x.A x.n x.c)).setCell ⟨g, i * 2 + 1, none⟩ (.bool x.wrap)) := Turned.ofOnly ((OnlyRow.cell g _ W _).trans (OnlyRow.cell g _ _ _))
 have hno : ∀ k, k = g → ¬ Typed W 62 k := fun k e => h.noC k (.inr e)
 refine ⟨hok, by rw [map_set_modify hy hx, h.same], ?_, ?_, fun z hz => ?_, ?_⟩
 ·rw [(ht.block p h.ltp h.ne), h.scr]
  unfold scells
  simp
 ·rw [heap_setCell_same _ g _ _ _ _ (heap_setCell_same W g _ _ _ _ h.rows), vals_set xs i x hi]
  simp [List.setIfInBounds_toArray]
 ·rcases List.mem_or_eq_of_mem_set hz with hz | rfl
  ·exact ⟨hasC_turned (h.each z hz).1 ht hno, (h.each z hz).2⟩
  ·exact ⟨hasC_turned hc ht hno, hn⟩
 ·rw [List.map_set]
  rcases hA with e | e
  ·have : (xs.map RowIn.A).set i x.A = xs.map RowIn.A := by
    refine List.ext_getElem? fun j => ?_
    rw [List.getElem?_set]
    by_cases hij : i = j
    ·subst hij
     rw [if_pos rfl, if_pos (by rw [List.length_map]; exact hi), List.getElem?_map, hy, e]
     rfl
    ·rw [if_neg hij]
   rw [this]
   exact h.apart
  ·exact nodup_set _ _ _ h.apart fun m => by
    obtain ⟨z, hz, ez⟩ := List.mem_map.1 m
    exact e z hz ez
end ScAt
theorem fresh_row {W : World} {base n c : Nat} {A : Option Addr} {l : List Cel} (h : HasC W base (.slice A n c) l) (hn : 0 < n) : ∃ k, A = some ⟨k, 0, none⟩ ∧ base ≤ k ∧ k < W.heap.size := by
 have hl : l.length = n := by
  obtain ⟨A', c', e, _⟩ := HasC.shape h
  injection e with _ e _
  exact e.symm
 rcases h.2 with ⟨e, h0⟩ | ⟨g, cap, cur, e, e2, e3, _⟩
 ·omega
 ·injection e with ea eb ec
  exact ⟨g, ea, e2, (Array.getElem?_eq_some_iff.1 e3).1⟩
end Sc
namespace Sc
open Rw
abbrev ptrS (p : Nat) : Value := .pointer (some ⟨p, 0, none⟩)
def Done (p g : Nat) (s' : Scr) (xs : List RowIn) (w : World) (e : Ending) (w' : World) : Prop := (∃ y, e = .returned y) ∧ ∃ xs', ScAt w' p g s' xs' ∧ Went w w' p g xs xs'
theorem leaveEnd_walk {p g : Nat} {s : Scr} {xs : List RowIn} (w : World) (h : ScAt w p g s xs) : Calls Tryz.prog 114 #[ptrS p] w fun e w' => Done p g (leaveS s) xs w e w' := by
 have k0 : w.drew.cell? ⟨p, 0, none⟩ = some (.int .i64 (s.w : Int)) := h.get 0
 have k3 : w.drew.cell? ⟨p, 3, none⟩ = some (.int .i64 (s.c : Int)) := h.get 3
 have f3 : w.drew.frozen? ⟨p, 3, none⟩ = false := h.free 3
 have hw : IntKind.i64.wrap ((s.w : Int) - 1) = ((s.w - 1 : Nat) : Int) := by have := h.ok.w2; have := h.ok.w3; rw [IntWalk.i64_in _ (by omega)]; omega
 have D := Lib.hid (show ∀ X : Int, X = ((min s.c (s.w - 1) : Nat) : Int) → Done p g (leaveS s) xs w (.returned (.tuple #[])) (w.drew.setCell ⟨p, 3, none⟩ (.int .i64 X)) from fun X hX => by
  subst hX
  exact ⟨⟨_, rfl⟩, xs, (h.laid (Below.refl _ _).drew).setCol (by have := h.ok.w2; omega), (Went.laid (Below.refl _ _).drew).trans (Went.cell 3 _)⟩)
 generalize s.w = sw at k0 hw D
 generalize s.c = sc at k3 D
 clear h
 go_enter Tryz.func114, Tryz.ntmps114
 go_wp2_with fail
 go_region
 all_goals
  go_wp2
 all_goals
  go_end0
  exact D.out _ (by omega)
theorem erase_walk {p g : Nat} {s : Scr} {xs : List RowIn} (i : Nat) (f t : Int) (w : World) (hs : Spans w) (h : ScAt w p g s xs) (hi : i < s.rows.length) : Calls Tryz.prog 170 #[ptrS p, .int .i64 (i : Int), .int .i64 f, .int .i64 t] w fun e w' => Done p g (eraseS s i f t) xs w e w' := by
 obtain ⟨x, hx, hsr, hc, hn, hg, hl, hsg⟩ := h.at' hi
 have hd := h.laid (Below.refl _ _).drew
 have H := Lib.hid hd
 have P1 : ∀ W, Below w.drew.heap.size w.drew W → W.cell? ⟨p, 1, none⟩ = some (.slice (some ⟨g, 0, none⟩) s.rows.length s.rows.length) := fun W b => (hd.laid b).get 1
 have k1 := P1 _ (Below.refl _ _)
 have G0 : ∀ W, Below w.drew.heap.size w.drew W → W.cell? ⟨g, i * 2, none⟩ = some (.slice x.A x.n x.c) := fun W b => ((hd.laid b).row hx).1
 have G1 : ∀ W, Below w.drew.heap.size w.drew W → W.cell? ⟨g, i * 2 + 1, none⟩ = some (.bool x.wrap) := fun W b => ((hd.laid b).row hx).2
 have g0 := G0 _ (Below.refl _ _)
 have g1 := G1 _ (Below.refl _ _)
 have F0 : ∀ W, Below w.drew.heap.size w.drew W → W.frozen? ⟨g, i * 2, none⟩ = false := fun W b => (hd.laid b).freeg _
 have F1 : ∀ W, Below w.drew.heap.size w.drew W → W.frozen? ⟨g, i * 2 + 1, none⟩ = false := fun W b => (hd.laid b).freeg _
 have EW := Lib.hid (rowErase_walk x.A x.n x.c x.wrap x.l f t w.drew (hs.below (Below.refl _ _).drew hs.size) hsg (by rw [hn]; exact HasC.sq (H.out.each x (List.mem_of_getElem? hx)).1 |> fun q => by simpa [hn] using q) (by rw [hn]; have := h.ok.w3; omega))
 have hi0 : (0 : Int) ≤ (i : Int) := by omega
 have hih : (i : Int) < (s.rows.length : Int) := by omega
 have D := Lib.hid (show ∀ (W : World) A n c, HasC W w.drew.heap.size (.slice A n c) (eraseRes x.l f t) → Below w.drew.heap.size w.drew W → Done p g (eraseS s i f t) xs w (.returned (.tuple #[])) ((W.setCell ⟨g, i * 2, none⟩ (.slice A n c)).setCell ⟨g, i * 2 + 1, none⟩ (.bool (eraseWrap x.wrap x.l f t))) from fun W A n c hW hb => by
  have hlen : n = s.w := by
   obtain ⟨_, _, e, _⟩ := HasC.shape hW
   injection e with _ e _
   rw [e]
   exact (eraseR_ok (f := f) (t := t) (x := sr x) ⟨hg, hl, hsg⟩).2.1
  obtain ⟨k, hk, hk1, hk2⟩ := fresh_row hW (by rw [hlen]; have := h.ok.w2; omega)
  have hA : ∀ z ∈ xs, z.A ≠ A := fun z hz e => by
   have hzc := (H.out.each z hz).1
   obtain ⟨k', hk', _, hlt⟩ := fresh_row hzc (by rw [(H.out.each z hz).2]; have := h.ok.w2; omega)
   rw [hk', hk] at e
   injection e with e
   injection e with e
   omega
  have hp := (H.out.laid hb).putRow (x := ⟨A, n, c, eraseWrap x.wrap x.l f t, eraseRes x.l f t⟩) (f := eraseR f t) hx rfl (h.ok.erase i f t) (HasC.mono hW (Nat.zero_le _)) hlen (.inr hA)
  refine ⟨⟨_, rfl⟩, _, hp, ⟨?_, fun z hz => ?_⟩⟩
  ·exact ((Turned.ofBelow (Below.refl _ _).drew _).trans (Turned.ofBelow hb _) (fun _ _ h => h)).trans ((Turned.ofOnly ((OnlyRow.cell g _ W _).trans (OnlyRow.cell g _ _ _))).mono (fun _ _ e => .inr e)) (fun _ _ h => h)
  ·rcases List.mem_or_eq_of_mem_set hz with hz | rfl
   ·exact .inl ⟨z, hz, rfl⟩
   ·exact .inr ⟨k, hk, hk1⟩)
 clear hd hx hsr hc hn hg hl hsg h hs hi
 go_enter Tryz.func170, Tryz.ntmps170
 go_wp2_with fail
 go_region_with (go_at_call 48; refine EW.out.mono ?_; rintro e w7 ⟨A7, n7, c7, rfl, hv7, b7⟩; (have k7 := P1 w7 b7); (have g70 := G0 w7 b7); (have g71 := G1 w7 b7); (have f70 := F0 w7 b7); (have f71 := F1 w7 b7); (have D7 := Lib.hid (D.out w7 A7 n7 c7 hv7 b7)); clear hv7 b7)
 all_goals
  go_wp2
 all_goals
  go_end0
  exact D7.out
end Sc
