/-
  The statement EscNumbers: numbers of a CSI, as many and as great as they come. For every list of integers (of which the statement reads the first twelve, each modulo 1000000) and every last byte (taken modulo 63); it holds where the table of widths is as its initialiser lays it, which the card ties to the program's text.
-/
import Derived.Test.YtaclmhopcfgbmaaGreatDoorQBegun0
import Derived.Test.YtaclmhopcfgbmaaGreatDoorQBase4
import Derived.Test.YtaclmhopcfgbmaaGreatDoorQSum0
import Derived.BigQuiet
namespace Go.Proofs.YtaclmhopcfgbmaaGreatDoor.escNumbers
open Go.ChangeShapes Go.WideShapes Go.ChangeAt Go.RowKit
open Esc
theorem mod_range (x : Int) (m : Int) (hm : 0 < m) : -m < x.tmod m ∧ x.tmod m < m := by
 have h1 := Int.tmod_lt_of_pos x hm
 have h2 := Int.tmod_lt_of_pos (-x) hm
 rw [Int.neg_tmod] at h2
 omega
def valN (y : Int) : Nat := (max 0 (y.tmod 1000000)).toNat
def told (l : List Int) (k : Nat) : List Int := (List.range k).map fun i => ((min (valN (nth l i)) 9999 : Nat) : Int)
theorem told_succ (l : List Int) (k : Nat) : told l (k + 1) = told l k ++ [((min (valN (nth l k)) 9999 : Nat) : Int)] := by unfold told; rw [List.range_succ, List.map_append]; rfl
theorem told_len (l : List Int) (k : Nat) : (told l k).length = k := by simp [told]
theorem valN_lt (y : Int) : valN y < 1000000 := by
 have := mod_range y 1000000 (by omega)
 unfold valN
 omega
def pw (j : Nat) : Nat := if j = 0 then 1000000 else if j = 1 then 100000 else if j = 2 then 10000 else if j = 3 then 1000 else if j = 4 then 100 else if j = 5 then 10 else if j = 6 then 1 else 0
def ahead (n j : Nat) : Nat := if j = 0 then 0 else n / pw (j - 1)
theorem pw_facts {j : Nat} (h : j < 7) : 1 ≤ pw j ∧ pw j ≤ 1000000 ∧ pw j / 10 = pw (j + 1) ∧ (pw j = 1 ↔ j = 6) := by
 have : j = 0 ∨ j = 1 ∨ j = 2 ∨ j = 3 ∨ j = 4 ∨ j = 5 ∨ j = 6 := by omega
 rcases this with rfl | rfl | rfl | rfl | rfl | rfl | rfl <;> exact ⟨by decide, by decide, by decide, by decide⟩
theorem ahead_next {n j : Nat} (h : j < 7) (hn : n < 1000000) : ahead n (j + 1) = n / pw j ∧ n / pw j = ahead n j * 10 + n / pw j % 10 := by
 refine ⟨rfl, ?_⟩
 have : j = 0 ∨ j = 1 ∨ j = 2 ∨ j = 3 ∨ j = 4 ∨ j = 5 ∨ j = 6 := by omega
 rcases this with rfl | rfl | rfl | rfl | rfl | rfl | rfl
 ·show n / 1000000 = 0 * 10 + n / 1000000 % 10
  omega
 ·show n / 100000 = n / 1000000 * 10 + n / 100000 % 10
  omega
 ·show n / 10000 = n / 100000 * 10 + n / 10000 % 10
  omega
 ·show n / 1000 = n / 10000 * 10 + n / 1000 % 10
  omega
 ·show n / 100 = n / 1000 * 10 + n / 100 % 10
  omega
 ·show n / 10 = n / 100 * 10 + n / 10 % 10
  omega
 ·show n / 1 = n / 10 * 10 + n / 1 % 10
  omega
theorem ahead_last (n : Nat) : ahead n 7 = n := by show n / 1 = n; exact Nat.div_one n
theorem nums_semi {t A : List Int} (h : nums t = A) : nums (t ++ [59]) = A ++ [0] := by rw [nums_snoc, h]; rfl
theorem nums_digit {t A : List Int} {x : Int} {d : Nat} (h : nums t = A ++ [x]) (hd : d < 10) : nums (t ++ [48 + (d : Int)]) = A ++ [min (x * 10 + (d : Int)) 9999] := by
 rw [nums_snoc, h]
 unfold stepN
 rw [if_neg (by omega), if_pos (by simp [okSign]; omega)]
 have e : (A ++ [x]).length - 1 = A.length := by simp
 rw [e, List.set_append_right _ _ (by omega), Nat.sub_self]
 simp only [List.getD_eq_getElem?_getD]
 rw [List.getElem?_append_right (by omega), Nat.sub_self]
 simp only [List.getElem?_cons_zero, Option.getD_some, List.set_cons_zero]
 congr 3
 omega
structure Wr (l : List Int) (k : Nat) (x : Nat) (t : List Int) : Prop where
 nums : nums t = told l k ++ [((min x 9999 : Nat) : Int)]
 fine : bad t = false
theorem Wr.digit {l t : List Int} {k x d : Nat} (h : Wr l k x t) (hd : d < 10) : Wr l k (x * 10 + d) (t ++ [48 + (d : Int)]) := by
 refine ⟨?_, ?_⟩
 ·rw [nums_digit h.nums hd]
  congr 2
  omega
 ·rw [bad_snoc, h.fine]
  simp [okSign]
  omega
def Many (l : List Int) (k : Nat) (t : List Int) : Prop := t.length ≤ 8 * k ∧ ((k = 0 ∧ t = []) ∨ (nums t = told l k ∧ bad t = false ∧ t ≠ []))
theorem Many.first {l t : List Int} (h : Many l 0 t) : Wr l 0 0 t ∧ t.length ≤ 8 * 0 + 1 := by
 have h1 := h.1
 have e : t = [] := by
  cases t with
  | nil => rfl
  | cons a t => simp at h1
 subst e
 exact ⟨⟨rfl, rfl⟩, by simp⟩
theorem Many.next {l t : List Int} {k : Nat} (h : Many l k t) (hk : k ≠ 0) : Wr l k 0 (t ++ [59]) ∧ (t ++ [59]).length ≤ 8 * k + 1 := by
 obtain ⟨h1, h2⟩ := h
 rcases h2 with ⟨e, _⟩ | ⟨h3, h4, _⟩
 ·exact absurd e hk
 ·refine ⟨⟨nums_semi h3, ?_⟩, by rw [List.length_append]; simp; omega⟩
  rw [bad_snoc, h4]
  rfl
theorem Wr.whole {l t : List Int} {k : Nat} (h : Wr l k (ahead (valN (nth l k)) 7) t) (hl : t.length ≤ 8 * k + 8) (hn : t ≠ []) : Many l (k + 1) t := by
 refine ⟨by omega, .inr ⟨?_, h.fine, hn⟩⟩
 rw [h.nums, ahead_last, told_succ]
theorem csi_more {t : List Int} {r : Int} (h : 48 ≤ r ∧ r ≤ 59) : stepS (.csi t) r = .csi (t ++ [r]) ∧ stepE (.csi t) r = none := by
 refine ⟨?_, ?_⟩
 ·simp only [stepS]
  rw [if_neg (by omega), if_neg (by omega), if_neg (by omega)]
 ·simp only [stepE]
  rw [if_neg (by omega)]
theorem csi_end {t : List Int} {r : Int} (h : 64 ≤ r ∧ r ≤ 126) (hb : bad t = false) (hn : t ≠ []) : stepS (.csi t) r = .rest ∧ stepE (.csi t) r = some ⟨3, r, (nums t).take 8, []⟩ := by
 refine ⟨?_, ?_⟩
 ·simp only [stepS]
  rw [if_pos h]
 ·simp only [stepE]
  rw [if_pos h]
  unfold csiEv csiArgs
  rw [hb, if_neg hn]
  rfl
structure Q1 (w0 : World) (g : Nat) (v : Value) (st : Esc.St) (W : World) : Prop where
 old : Below w0.heap.size w0 W
 g0 : w0.heap.size ≤ g
 par : PAt W g v st
theorem Q1.put {w0 W W' : World} {g : Nat} {v v' : Value} {st st' : Esc.St} (h : Q1 w0 g v st W) (hp : PAt W' g v' st') (ht : Turned (Esc.Own g v) W W') : Q1 w0 g v' st' W' :=
 ⟨h.old.trans (ht.toBelow h.old.size (fun j hj m => by have := (h.par.owns m).1; have := h.g0; omega)), h.g0, hp⟩
set_option maxRecDepth 100000 in
set_option maxHeartbeats 12800000 in
theorem walkC (m : Nat) (last : Int) (hl : 64 ≤ last ∧ last ≤ 126) (x : Int) (_ : -2147483648 ≤ x ∧ x ≤ 2147483647) (hxl : 64 + (x.tmod 63 + 63).tmod 63 = last) (A : Option Addr) (n c : Nat) (l : List Int) (hmn : min (n : Int) 12 = (m : Int)) (hc : n ≤ c) (w : World) (hs : Spans w) (hq : Sq w w.heap.size 1 n A (l.map (Value.int .i64))) :
  Calls Tryz.prog 4 #[.slice A n c, .int .i32 x] w fun e w' => e = .returned (.bool true) ∧ Below w.heap.size w w' := by
 have mx := mod_range x 63 (by omega)
 have e1 : IntKind.i32.wrap (x.tmod 63 + 63) = x.tmod 63 + 63 := IntWalk.i32_in _ (by omega)
 have e2 : IntKind.i32.wrap (64 + (x.tmod 63 + 63).tmod 63) = last := by rw [hxl]; exact IntWalk.i32_in _ (by omega)
 have S := Lib.hid hs
 have Q := Lib.hid hq
 have m1 : m ≤ n := by omega
 have m2 : m ≤ 12 := by omega
 have m3 : m ≤ c := by omega
 clear hs hq mx hxl
 go_enter Tryz.func4, Tryz.ntmps4
 go_wp2_with fail
 refine (Bg.begun7_walk w S.out).mono ?_
 rintro e w1 ⟨rfl, b1⟩
 have B1 := Lib.hid b1
 clear b1
 by_cases hm0 : m = 0
 ·subst hm0
  go_wp2
  go_ret
  exact ⟨rfl, B1.out⟩
 ·have hm0' : ((m : Int) == 0) = false := by simp; omega
  obtain ⟨gp, hgp⟩ : ∃ gp, w1.heap.size = gp := ⟨_, rfl⟩
  obtain ⟨w2, hw2⟩ : ∃ w2, w1.alloc (.cells (pcells 0 false 0 (fun _ => 0) (.slice none 0 0)) 29) = w2 := ⟨_, rfl⟩
  have Q2 := Lib.hid (show Q1 w gp (.slice none 0 0) .rest w2 from by
   have ba : Below w1.heap.size w1 w2 := by rw [← hw2]; exact (Below.refl _ _).alloc (Nat.le_refl _) _
   have pa : PCells w2 gp (pcells 0 false 0 (fun _ => 0) (.slice none 0 0)) := by rw [← hgp, ← hw2]; exact heap_alloc_new w1 _
   exact ⟨B1.out.trans (ba.mono B1.out.size), by have := B1.out.size; omega, ⟨pa, HasB.nothing _ _⟩⟩)
  have P1 := Lib.hid (Esc.put_walk gp (.slice none 0 0) .rest 27 w2 Q2.out.par (by decide) (by omega) (by omega))
  have HG := Lib.hid hgp
  have HW := Lib.hid hw2
  clear hgp hw2 S B1
  go_wp2_with fail
  rw [HG.out]
  change Calls _ _ _ (w1.alloc (.cells (pcells 0 false 0 (fun _ => 0) (.slice none 0 0)) 29)) _
  rw [HW.out]
  clear HW HG
  refine P1.out.mono ?_
  rintro e w3 ⟨ev3, v3, rfl, _, p3, t3⟩
  have Q3 := Lib.hid (Q2.out.put p3 t3)
  have P2 := Lib.hid (Esc.put_walk gp v3 .esc 91 w3 p3 (by decide) (by omega) (by omega))
  clear p3 t3 P1 Q2
  go_wp2_with fail
  refine P2.out.mono ?_
  rintro e w4 ⟨ev4, v4, rfl, _, p4, t4⟩
  have Q4 := Lib.hid (show Q1 w gp v4 (.csi []) w4 from Q3.out.put p4 t4)
  clear p4 t4 P2 Q3
  go_wp2_with fail
  go_loopw [7, 8, 9] (fun v7 _ _ wr => ∃ (k : Nat) (t : List Int) (vp : Value), v7 = .int .i64 k ∧ k ≤ m ∧ Many l k t ∧ Hid (Q1 w gp vp (.csi t) wr)) (fun v7 _ _ _ => m - (intOf v7).toNat)
  case atStart => exact ⟨0, [], _, rfl, Nat.zero_le _, ⟨by simp, .inl ⟨rfl, rfl⟩⟩, Q4⟩
  case round =>
   obtain ⟨k, t, vp, rfl, hk, MN, QR⟩ := hrel
   clear Q4
   by_cases hlt : k < m
   ·obtain ⟨b, off, rfl, hbq, hc0⟩ := Q.out.int_at (show k < n by omega)
    obtain ⟨y, hy⟩ : ∃ y, nth l k = y := ⟨_, rfl⟩
    obtain ⟨N, hN⟩ : ∃ N, valN y = N := ⟨_, rfl⟩
    have hNlt : N < 1000000 := by rw [← hN]; exact valN_lt y
    have hmax : max 0 (y.tmod 1000000) = (N : Int) := by rw [← hN]; unfold valN; omega
    rw [hy] at hc0
    have hk0 : (0 : Int) ≤ (k : Int) := by omega
    have hkm : (k : Int) < (m : Int) := by omega
    have hinc : IntKind.i64.wrap ((k : Int) + 1) = (k : Int) + 1 := IntWalk.i64_in _ (by omega)
    have WN := Lib.hid (show valN (nth l k) = N by rw [hy, hN])
    have MN' := Lib.hid MN
    have hl8 := MN.1
    clear MN hy hN
    go_upto_if 41 with fail
    go_cut [8] from 34 to 68 (fun _ wx => ∃ (t' : List Int) (vp' : Value), Wr l k 0 t' ∧ t'.length ≤ 8 * k + 1 ∧ Hid (Q1 w gp vp' (.csi t') wx))
    case first =>
     by_cases h0 : k = 0
     ·subst h0
      go_wp2
      go_meet
      exact ⟨t, vp, MN'.out.first.1, MN'.out.first.2, QR⟩
     ·have h1 : (0 : Int) < (k : Int) := by omega
      have hcm := csi_more (t := t) (r := 59) (by omega)
      have PW := Lib.hid (Esc.put_walk gp vp (.csi t) 59 wr QR.out.par (show t.length ≤ 1000000 by omega) (by omega) (by omega))
      rw [hcm.1, hcm.2] at PW
      clear hcm
      go_wp2_with fail
      refine PW.out.mono ?_
      rintro e w5 ⟨ev5, v5, rfl, _, p5, t5⟩
      have Q5 := Lib.hid (QR.out.put p5 t5)
      clear p5 t5 PW QR
      go_wp2
      go_meet
      exact ⟨_, v5, (MN'.out.next h0).1, (MN'.out.next h0).2, Q5⟩
    case rest =>
     obtain ⟨t1, v1, W1, L1, QA⟩ := hcut
     have hc1 : wc.cell? ⟨b, off + k, none⟩ = some (.int .i64 y) := (QA.out.old.cell (p := ⟨b, off + k, none⟩) hbq).trans hc0
     have W1' := Lib.hid W1
     clear QR W1 MN' hl8
     have P0 := Lib.hid (show Value.int .i64 1000000 = Value.int .i64 ((pw 0 : Nat) : Int) by
      have e : pw 0 = 1000000 := rfl
      rw [e]
      rfl)
     go_wp2_with fail
     go_loopw [9] (fun v9 wx => ∃ (j : Nat) (t : List Int) (vp : Value), v9 = .int .i64 (pw j : Int) ∧ j ≤ 7 ∧ Hid (Wr l k (ahead N j) t ∧ (j = 7 → t ≠ [])) ∧ t.length ≤ 8 * k + 1 + j ∧ Hid (Q1 w gp vp (.csi t) wx)) (fun v9 _ => (intOf v9).toNat)
     case atStart => exact ⟨0, t1, v1, P0.out, by omega, Lib.hid ⟨W1'.out, fun h => by omega⟩, by omega, QA⟩
     case round =>
      obtain ⟨j, t2, v2, rfl, hj, WR, L2, QB⟩ := hrel
      clear QA W1' L1
      by_cases hj7 : j < 7
      ·obtain ⟨g1, g2, g3, g4⟩ := pw_facts hj7
       obtain ⟨a1, a2⟩ := ahead_next hj7 hNlt
       obtain ⟨D, hD⟩ : ∃ D, pw j = D := ⟨_, rfl⟩
       obtain ⟨D2, hD2⟩ : ∃ D2, pw (j + 1) = D2 := ⟨_, rfl⟩
       rw [hD] at g1 g2 g3 g4 a1 a2
       rw [hD2] at g3
       have hD1 : (1 : Int) ≤ (D : Int) := by omega
       have hD10 : IntKind.i64.wrap ((D : Int) / 10) = (D2 : Int) := by
        have e : (D : Int) / 10 = (D2 : Int) := by omega
        rw [e]
        exact IntWalk.i64_in _ (by omega)
       obtain ⟨pr, hpr⟩ : ∃ pr, (decide (D ≤ N) || decide (j = 6)) = pr := ⟨_, rfl⟩
       have HPR := Lib.hid hpr
       have HD := Lib.hid hD
       have HD2 := Lib.hid hD2
       rw [hD]
       clear hD hD2 hpr
       go_upto_region 20 with fail
       go_cut [60] from 50 to 68 (fun s60 wx => s60 = .bool pr ∧ wx = wr)
       case first =>
        by_cases h1 : D ≤ N
        ·have h2 : (D : Int) ≤ (N : Int) := by omega
         go_wp2
         go_meet
         exact ⟨by rw [← HPR.out, decide_eq_true h1]; rfl, rfl⟩
        ·have h2 : ¬ (D : Int) ≤ (N : Int) := by omega
         by_cases h3 : D = 1
         ·have H3 := Lib.hid h3
          have H4 := Lib.hid g4
          clear h3 g4
          go_wp2
          go_meet
          exact ⟨congrArg Value.bool (by rw [← HPR.out, decide_eq_false h1, decide_eq_true (H4.out.1 H3.out)]; have := H3.out; simp; omega), rfl⟩
         ·have h4 : ((D : Int) == 1) = false := by simp; omega
          go_wp2
          go_meet
          exact ⟨by rw [← HPR.out, decide_eq_false h1, decide_eq_false (fun e => h3 (g4.2 e))]; rfl, rfl⟩
       case rest =>
        obtain ⟨rfl, rfl⟩ := hcut
        cases pr with
        | true =>
         obtain ⟨q, hq⟩ : ∃ q, N / D = q := ⟨_, rfl⟩
         rw [hq] at a1 a2
         have hqN : q ≤ N := by rw [← hq]; exact Nat.div_le_self N D
         have f1 : IntKind.i64.wrap ((N : Int) / (D : Int)) = (q : Int) := by
          have e : (N : Int) / (D : Int) = (q : Int) := by rw [← hq]; simp
          rw [e]
          exact IntWalk.i64_in _ (by omega)
         have f2 : (q : Int).tmod 10 = ((q % 10 : Nat) : Int) := by rw [Int.tmod_eq_emod_of_nonneg (by omega)]; omega
         obtain ⟨d, hd⟩ : ∃ d, q % 10 = d := ⟨_, rfl⟩
         have hd10 : d < 10 := by omega
         rw [hd] at f2 a2
         have f2' : (q : Int) % 10 = (d : Int) := by omega
         have f3 : IntKind.i64.wrap (48 + (d : Int)) = 48 + (d : Int) := IntWalk.i64_in _ (by omega)
         have f4 : IntKind.i32.wrap (48 + (d : Int)) = 48 + (d : Int) := IntWalk.i32_in _ (by omega)
         have hcm := csi_more (t := t2) (r := 48 + (d : Int)) (by omega)
         have PW := Lib.hid (Esc.put_walk gp v2 (.csi t2) (48 + (d : Int)) wc QB.out.par (show t2.length ≤ 1000000 by omega) (by omega) (by omega))
         rw [hcm.1, hcm.2] at PW
         have NX := Lib.hid (show Wr l k (ahead N (j + 1)) (t2 ++ [48 + (d : Int)]) by rw [a1, a2]; exact WR.out.1.digit hd10)
         clear hcm hq hd a1 a2
         go_wp2_with fail
         refine PW.out.mono ?_
         rintro e w5 ⟨ev5, v5, rfl, _, p5, t5⟩
         have Q5 := Lib.hid (QB.out.put p5 t5)
         clear p5 t5 PW QB
         go_wp2
         go_roundw
         case rel => exact ⟨j + 1, t2 ++ [48 + (d : Int)], v5, by rw [HD2.out], by omega, Lib.hid ⟨NX.out, fun _ => by simp⟩, by rw [List.length_append]; simp; omega, Q5⟩
         case measure => simp [intOf]; omega
        | false =>
         have hno : ¬ D ≤ N ∧ j ≠ 6 := by simpa using HPR.out
         have NX := Lib.hid (show Wr l k (ahead N (j + 1)) t2 by
          have e1 : N / D = 0 := Nat.div_eq_of_lt (by omega)
          have e2 : ahead N (j + 1) = ahead N j := by omega
          rw [e2]; exact WR.out.1)
         clear a1 a2
         go_wp2
         go_roundw
         case rel => exact ⟨j + 1, t2, v2, by rw [HD2.out], by omega, Lib.hid ⟨NX.out, fun h => by omega⟩, by omega, QB⟩
         case measure => simp [intOf]; omega
      ·obtain rfl : j = 7 := by omega
       have hz : ¬ (1 : Int) ≤ ((pw 7 : Nat) : Int) := by decide
       have MX := Lib.hid (show Many l (k + 1) t2 from by
        have h := WR.out.1
        rw [← WN.out] at h
        exact h.whole (by omega) (WR.out.2 rfl))
       clear WR
       go_wp2
       go_roundw
       case rel => exact ⟨k + 1, t2, v2, by first | rfl | (congr 1; done) | (congr 1; omega), by omega, MX.out, QB⟩
       case measure => first | (simp [intOf]; done) | (simp [intOf]; omega)
   ·obtain rfl : k = m := by omega
    obtain ⟨hl8, hn⟩ := MN
    rcases hn with ⟨e, _⟩ | ⟨hn1, hn2, hn3⟩
    ·exact absurd e hm0
    have hce := csi_end (r := last) hl hn2 hn3
    have PW := Lib.hid (Esc.put_walk gp vp (.csi t) last wr QR.out.par (show t.length ≤ 1000000 by omega) (by omega) (by omega))
    rw [hce.1, hce.2, hn1] at PW
    obtain ⟨k8, hk8⟩ : ∃ k8, min k 8 = k8 := ⟨_, rfl⟩
    have hmin : min (k : Int) 8 = (k8 : Int) := by omega
    have TL := Lib.hid (show ((told l k).take 8).length = k8 by rw [List.length_take, told_len]; omega)
    have hk8m : k8 ≤ k := by omega
    have AT := Lib.hid (show ∀ i, i < k8 → ((told l k).take 8)[i]? = some ((min (valN (nth l i)) 9999 : Nat) : Int) from fun i hi => by
     rw [List.getElem?_take, if_pos (by omega)]
     unfold told
     rw [List.getElem?_map, List.getElem?_range (by omega)]
     rfl)
    clear hn1 hn2 hn3 hce hl8
    have hb1 : (last != last) = false := by simp
    have hb2 : ((k8 : Int) != (k8 : Int)) = false := by simp
    go_wp2_with fail
    refine PW.out.mono ?_
    rintro e w5 ⟨ev5, v5, rfl, e5, p5, t5⟩
    have Q5 := Lib.hid (QR.out.put p5 t5)
    obtain ⟨b, va, rfl, _, hb, hnum⟩ := e5
    obtain ⟨A', c', rfl⟩ := Esc.nums_shape hnum
    rw [TL.out] at hb
    have c0 : w5.cell? ⟨b, 0, none⟩ = some (.int .i64 3) := cell_of_row _ b 0 _ _ (0, 0) hb
    have c1 : w5.cell? ⟨b, 1, none⟩ = some (.int .i32 last) := cell_of_row _ b 1 _ _ (0, 0) hb
    have c2 : w5.cell? ⟨b, 2, none⟩ = some (.slice A' k8 c') := cell_of_row _ b 2 _ _ (0, 0) hb
    have NQ := Lib.hid (show Sq w5 w5.heap.size 1 k8 A' (((told l k).take 8).map (Value.int .i64)) from Sq.own (by
     have h := hnum
     unfold Esc.Nums at h
     rw [TL.out] at h
     exact h))
    have HB := Lib.hid (show b < w5.heap.size from (Array.getElem?_eq_some_iff.1 hb).1)
    clear p5 t5 PW QR hb hnum
    go_wp2_with fail
    have I0 := Lib.hid (Below.refl w5.heap.size w5)
    go_loopw [11] (fun v11 wx => ∃ i : Nat, v11 = .int .i64 i ∧ i ≤ k8 ∧ Hid (Below w5.heap.size w5 wx)) (fun v11 _ => k8 - (intOf v11).toNat)
    case atStart => exact ⟨0, rfl, Nat.zero_le _, I0⟩
    case round =>
     obtain ⟨i, rfl, hi, BX⟩ := hrel
     clear I0
     have d2 : wr.cell? ⟨b, 2, none⟩ = some (.slice A' k8 c') := (BX.out.cell (p := ⟨b, 2, none⟩) HB.out).trans c2
     by_cases hik : i < k8
     ·obtain ⟨ba, oa, rfl, hba, ha0⟩ := NQ.out.int_at hik
      obtain ⟨bn, on, rfl, hbn, hn0⟩ := Q.out.int_at (show i < n by omega)
      obtain ⟨y, hy⟩ : ∃ y, nth l i = y := ⟨_, rfl⟩
      obtain ⟨N, hN⟩ : ∃ N, valN y = N := ⟨_, rfl⟩
      have hmax : max 0 (y.tmod 1000000) = (N : Int) := by rw [← hN]; unfold valN; omega
      obtain ⟨a, ha⟩ : ∃ a, min N 9999 = a := ⟨_, rfl⟩
      have hmin2 : min (N : Int) 9999 = (a : Int) := by omega
      have hat : nth ((told l k).take 8) i = (a : Int) := by
       unfold nth
       rw [List.getD_eq_getElem?_getD, AT.out i hik, hy, hN, ha]
       rfl
      rw [hat] at ha0
      rw [hy] at hn0
      have hax : wr.drew.cell? ⟨ba, oa + i, none⟩ = some (.int .i64 (a : Int)) := (BX.out.cell (p := ⟨ba, oa + i, none⟩) hba).trans ha0
      have hnx : wr.drew.cell? ⟨bn, on + i, none⟩ = some (.int .i64 y) := ((Q5.out.old.trans (BX.out.mono Q5.out.old.size)).cell (p := ⟨bn, on + i, none⟩) hbn).trans hn0
      have dx : wr.drew.cell? ⟨b, 2, none⟩ = some (.slice (some ⟨ba, oa, none⟩) k8 c') := d2
      have hi0 : (0 : Int) ≤ (i : Int) := by omega
      have hik' : (i : Int) < (k8 : Int) := by omega
      have hikm : (i : Int) < (k : Int) := by omega
      have hneq : ((a : Int) != (a : Int)) = false := by simp
      have hinc : IntKind.i64.wrap ((i : Int) + 1) = (i : Int) + 1 := IntWalk.i64_in _ (by omega)
      have B2 := Lib.hid (show Below w5.heap.size w5 wr.drew from BX.out.drew)
      clear ha0 hn0 hy hN ha hat BX
      go_wp2_with fail
      go_region
      all_goals go_wp2
      all_goals go_roundw
      all_goals first
       | exact ⟨i + 1, by first | rfl | (congr 1; done) | (congr 1; omega), by omega, B2⟩
       | (simp [intOf]; done)
       | (simp [intOf]; omega)
     ·obtain rfl : i = k8 := by omega
      have B := Lib.hid (Q5.out.old.trans (BX.out.mono Q5.out.old.size))
      clear BX
      go_wp2
      go_ret
      exact ⟨rfl, B.out⟩
theorem walk (A : Option Addr) (n c : Nat) (l : List Int) (hc : n ≤ c) (_hm : c ≤ maxLen) (_hr : ∀ x ∈ l, -9223372036854775808 ≤ x ∧ x ≤ 9223372036854775807) (x : Int) (hx : -2147483648 ≤ x ∧ x ≤ 2147483647) (w : World) (hs : Spans w) (hq : Sq w w.heap.size 1 n A (l.map (Value.int .i64))) :
  Calls Tryz.prog 4 #[.slice A n c, .int .i32 x] w fun e w' => e = .returned (.bool true) ∧ Below w.heap.size w w' := by
 have mx := mod_range x 63 (by omega)
 have ux := mod_range (x.tmod 63 + 63) 63 (by omega)
 have px := Int.tmod_nonneg 63 (show 0 ≤ x.tmod 63 + 63 by omega)
 exact walkC (min n 12) (64 + (x.tmod 63 + 63).tmod 63) (by omega) x hx rfl A n c l (by omega) hc w hs hq
set_option maxRecDepth 100000 in
theorem contract (H : Type) (enc : TypeId × Value → H) (W : World) (base : Nat) (args : Array Value) (ds gs : List (DataW H)) (before : List MemPlace)
  (hval : ∀ (j : Nat) t v, Tryz.f4.params[j]? = some t → args[j]? = some v → Value.okWide Tryz.prog W .any base t v)
  (hW : DataW.Whole enc Tryz.prog Tryz.f4.params.toList Rows.escNumbersSpec.vars false W args.toList ds gs before) (hL : laidMetH Tryz.prog Rows.escNumbersRow.laid W) :
  Calls Tryz.prog 4 args W fun e W' => ∃ v, e = .returned v ∧ Rows.escNumbersSpec.post enc Tryz.prog Tryz.f4 false true false false W args v W' := by
 have hW' := hW
 obtain ⟨p, q, hA0, hV, rfl, hfz, hnd⟩ := hW
 have hA : DataW.TrodAll enc Tryz.prog W 0 (fun _ => true) true Tryz.f4.params.toList args.toList ds p := hA0
 rw [Tryz.params4] at hA hval
 obtain ⟨v0, vs0, d0, ds0, p0, q0, hargs, rfl, rfl, h0, r0⟩ := trodAll_cons hA
 obtain ⟨v1, vs1, d1, ds1, p1, q1, rfl, rfl, rfl, h1, r1⟩ := trodAll_cons r0
 obtain ⟨rfl, rfl, rfl⟩ := trodAll_nil r1
 obtain rfl : args = #[v0, v1] := by cases args; simp_all
 obtain ⟨rfl, rfl⟩ := trodVars_none hV
 obtain ⟨Ax, nx, cx, x, rfl, hcx, hmx, hrx, hqx⟩ := open_nums (hval 0 33 v0 rfl rfl) h0
 obtain ⟨y, rfl, rfl, rfl, wy⟩ := open_int Tryz.underlying21 (hval 1 21 v1 rfl rfl) h1
 clear hA0
 refine (walk Ax nx cx x hcx hmx hrx y (wf_i32 wy) W (spans_of hL) hqx).mono fun e W' ⟨he, hg⟩ => ?_
 subst he
 exact ⟨_, rfl, close rfl hW' ⟨rfl, rfl, rfl⟩ (by kernel_rfl) (by kernel_rfl) hg⟩
set_option maxRecDepth 100000 in
theorem laid_met (os : Os) : laidMet Tryz.prog Rows.escNumbersRow.laid ((laidWorld os).forCall (fun _ _ => 0) ⟨#[], #[.slice none 0 0, .int .i32 0], []⟩).memory :=
 laidMet_of_run' 8 (by kernel_rfl) (by kernel_rfl)
set_option maxRecDepth 100000 in
theorem reads (os : Os) {H : Type} (enc : TypeId × Value → H) : ∃ places, DataW.whole enc Tryz.prog ((laidWorld os).forCall (fun _ _ => 0) ⟨#[], #[.slice none 0 0, .int .i32 0], []⟩).memory Tryz.f4.params.toList Rows.escNumbersSpec.vars false (#[.slice none 0 0, .int .i32 0] : Array Value).toList 8 = some ([.nil, .lit (.int .i32 0)], [], places) :=
 ⟨[], by kernel_rfl⟩
set_option maxRecDepth 100000 in
theorem lifted (os : Os) (started : os.Started) (H : Type) (enc : TypeId × Value → H) (F : Stop.Interp) :
  ReturnsInHanded {} Tryz.checked os 4 .any ((OpenSpec.ofChange Rows.escNumbersSpec).preRow enc Tryz.prog Tryz.f4 Rows.escNumbersRow.domain false Rows.escNumbersRow.laid) (((OpenSpec.ofChange Rows.escNumbersSpec).at F).post enc Tryz.prog Tryz.f4 false true false false) := by
 obtain ⟨places, hx⟩ := reads os enc
 refine returnsInHanded_of_row (C := Tryz.checked) (s := OpenSpec.ofChange Rows.escNumbersSpec) ownNone started (by kernel_rfl) Tryz.func4
  (witness_row_at (enc := enc) (C := Tryz.checked) false (laidWorld os) #[.slice none 0 0, .int .i32 0] rfl (by kernel_rfl) (by kernel_rfl) (by kernel_rfl)
   (OpenSpec.preRow_of_cond 8 hx (by kernel_rfl) (fun k hk => by cases hk) (by kernel_rfl) (laid_met os))) ?_
 intro W base args ds gs before hval hW _ _ _ hL _ _
 exact contract H enc W base args ds gs before hval hW hL
set_option maxRecDepth 100000 in
set_option maxHeartbeats 0 in
theorem facts : joinedFacts Tryz.checked.prog 4 Tryz.f4 (OpenSpec.ofChange Rows.escNumbersSpec).bare Rows.escNumbersRow = true := by
 have h1 := Sum.tables.1
 have h2 := Sum.tables.2.1
 have h3 := Sum.tables.2.2
 have h4 := Sum.mayEnter
 have e1 : Rows.escNumbersRow.lifted = Rows.rowSpanRow.lifted := by kernel_rfl
 have e2 : Rows.escNumbersRow.make = Rows.rowSpanRow.make := by kernel_rfl
 have h5 : (Rows.escNumbersRow.lifted == Tryz.checked.prog.liftsFinal) = true := by rw [e1]; exact Sum.lifts
 have h6 : (Tryz.checked.prog.make == some Rows.escNumbersRow.make) = true := by rw [e2]; exact Sum.make
 unfold joinedFacts
 repeat' (with_reducible refine Sum.and_mk ?_ ?_)
 all_goals first
  | with_reducible exact h1
  | with_reducible exact h2
  | with_reducible exact h4
  | with_reducible exact h5
  | with_reducible exact h6
  | (rw [h3]; as_aux_lemma => kernel_rfl)
  | (clear h1 h2 h3 h4 h5 h6 e1 e2; as_aux_lemma => kernel_rfl)
set_option maxRecDepth 100000 in
theorem said : Rows.EscNumbersSaid :=
 OpenClaim.holds_of_cond 4 Tryz.f4 rfl rfl rfl rfl rfl rfl rfl ⟨rfl, rfl, rfl, rfl, rfl⟩ rfl rfl rfl rfl rfl (by kernel_rfl) Tryz.func4 facts
  (of_decide_eq_true (by kernel_rfl)) (by unfold Func.isWrapper; first | (rw [if_pos (by decide +kernel)]; kernel_rfl) | (rw [if_neg (by decide +kernel)]; exact ⟨rfl, rfl⟩))
  (fun os started H enc _ F => by rw [OpenClaim.pre_eq_preRow]; exact lifted os started H enc F)
set_option maxRecDepth 100000 in
theorem plain (f : FuncId) (fn : Func) (hf : Tryz.pinned.checked.prog.funcNamed "rotulus/rotuluslaw7.EscNumbers" = some f) (hfn : Tryz.pinned.checked.prog.funcs[f]? = some fn) :
  false = Tryz.pinned.checked.prog.looks [] ∧ ∀ (j : Nat) t, fn.params[j]? = some t → Tryz.pinned.checked.prog.wantsStandIn t = false := by
 obtain rfl : f = 4 := Option.some.inj ((show Tryz.prog.funcNamed "rotulus/rotuluslaw7.EscNumbers" = some 4 by kernel_rfl).symm.trans hf) |>.symm
 obtain rfl : fn = Tryz.f4 := (Option.some.inj (Tryz.func4.symm.trans hfn)).symm
 refine ⟨by kernel_rfl, fun j t ht => ?_⟩
 rw [Tryz.params4] at ht
 have hm := Array.mem_of_getElem? ht
 simp at hm
 rcases hm with rfl | rfl
 ·exact (show Tryz.prog.wantsStandIn 33 = false by kernel_rfl)
 ·exact (show Tryz.prog.wantsStandIn 21 = false by kernel_rfl)
set_option maxRecDepth 100000 in
theorem card : Rows.EscNumbersCardSaid :=
 Claim7.holds_tied_plain_at .later [] _ _ _ _ said (fun _ h => by cases h) (by kernel_rfl) (fun _ h => by cases h) escNumbers_row_tie rfl ⟨rfl, rfl⟩ (by kernel_rfl) rfl plain (by kernel_rfl)
end Go.Proofs.YtaclmhopcfgbmaaGreatDoor.escNumbers
