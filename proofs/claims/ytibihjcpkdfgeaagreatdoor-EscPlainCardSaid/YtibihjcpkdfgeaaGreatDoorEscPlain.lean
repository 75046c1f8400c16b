/-
  The statement EscPlain: signs without escapes are printed, one by one. For every list of signs (of which the statement reads the first 60); it holds where the table of widths is as its initialiser lays it, which the card ties to the program's text.
-/
import Derived.Test.YtibihjcpkdfgeaaGreatDoorQBegun0
import Derived.Test.YtibihjcpkdfgeaaGreatDoorQBase1
import Derived.Test.YtibihjcpkdfgeaaGreatDoorQSum0
import Derived.Test.YtibihjcpkdfgeaaGreatDoorQMore1
namespace Go.Proofs.YtibihjcpkdfgeaaGreatDoor.escPlain
open Go.ChangeShapes Go.WideShapes Go.ChangeAt Go.RowKit
open Esc

/-- A parser beside what stood before it. -/
structure Q1 (w0 : World) (g : Nat) (v : Value) (st : Esc.St) (W : World) : Prop where
  old : Below w0.heap.size w0 W
  g0 : w0.heap.size ≤ g
  par : PAt W g v st
theorem Q1.put {w0 W W' : World} {g : Nat} {v v' : Value} {st st' : Esc.St} (h : Q1 w0 g v st W) (hp : PAt W' g v' st') (ht : Turned (Esc.Own g v) W W') : Q1 w0 g v' st' W' :=
  ⟨h.old.trans (ht.toBelow h.old.size (fun j hj m => by have := (h.par.owns m).1; have := h.g0; omega)), h.g0, hp⟩
set_option maxRecDepth 100000 in
set_option maxHeartbeats 6400000 in
theorem walk (A : Option Addr) (n c : Nat) (l : List Int) (_hc : n ≤ c) (_hm : c ≤ maxLen) (hr : Runes l) (w : World) (hs : Spans w) (hq : Sq w w.heap.size 1 n A (l.map (Value.int .i32))) :
    Calls Tryz.prog 15 #[.slice A n c] w fun e w' => e = .returned (.bool true) ∧ Below w.heap.size w w' := by
  have S := Lib.hid hs
  have SQ := Lib.hid hq
  have RU := Lib.hid hr
  clear hs hq hr
  go_enter Tryz.func15, Tryz.ntmps15
  go_wp2_with fail
  refine (Bg.begun7_walk w S.out).mono ?_
  rintro e w1 ⟨rfl, b1⟩
  obtain ⟨gp, hgp⟩ : ∃ gp, w1.heap.size = gp := ⟨_, rfl⟩
  obtain ⟨w2, hw2⟩ : ∃ w2, w1.alloc (.cells (pcells 0 false 0 (fun _ => 0) (.slice none 0 0)) 29) = w2 := ⟨_, rfl⟩
  have Q2 := Lib.hid (show Q1 w gp (.slice none 0 0) .rest w2 from by
    have ba : Below w1.heap.size w1 w2 := by rw [← hw2]; exact (Below.refl _ _).alloc (Nat.le_refl _) _
    have pa : PCells w2 gp (pcells 0 false 0 (fun _ => 0) (.slice none 0 0)) := by rw [← hgp, ← hw2]; exact heap_alloc_new w1 _
    exact ⟨b1.trans (ba.mono b1.size), by have := b1.size; omega, ⟨pa, HasB.nothing _ _⟩⟩)
  have HG := Lib.hid hgp
  have HW := Lib.hid hw2
  clear b1 hgp hw2
  go_wp2_with fail
  rw [HG.out]
  change Code.wp _ _ _ _ (w1.alloc (.cells (pcells 0 false 0 (fun _ => 0) (.slice none 0 0)) 29))
  rw [HW.out]
  clear HW HG
  go_loopw [5, 6, 7, 8] (fun v5 _ _ _ wr => ∃ (k : Nat) (vp : Value), v5 = .int .i64 k ∧ k ≤ n ∧ k ≤ 60 ∧ Hid (Q1 w gp vp .rest wr)) (fun v5 _ _ _ _ => n - (intOf v5).toNat)
  case atStart => exact ⟨0, _, rfl, Nat.zero_le _, Nat.zero_le _, Q2⟩
  case round =>
    obtain ⟨k, vp, rfl, hk, hk60, QR⟩ := hrel
    clear Q2
    have hinc : IntKind.i64.wrap ((k : Int) + 1) = (k : Int) + 1 := IntWalk.i64_in _ (by omega)
    by_cases hlt : k < n ∧ k < 60
    · obtain ⟨h1, h2⟩ := hlt
      obtain ⟨bq, off, rfl, hbq, hc0⟩ := SQ.out.int_at h1
      have hrr := RU.out.get k
      obtain ⟨r, hrk⟩ : ∃ r, nth l k = r := ⟨_, rfl⟩
      rw [hrk] at hc0 hrr
      obtain ⟨hr0, hr1⟩ := hrr
      have HC := Lib.hid hc0
      have c0 : wr.cell? ⟨bq, off + k, none⟩ = some (.int .i32 r) := (QR.out.old.cell (p := ⟨bq, off + k, none⟩) hbq).trans hc0
      have hk0 : (0 : Int) ≤ (k : Int) := by omega
      have hkn : (k : Int) < (n : Int) := by omega
      have hk6 : (k : Int) < 60 := by omega
      clear hc0
      by_cases h27 : r = 27
      · subst h27
        go_wp2
        go_ret
        exact ⟨rfl, QR.out.old⟩
      by_cases h8 : r = 8
      · subst h8
        have PW := Lib.hid (Esc.put_walk gp vp .rest 8 wr QR.out.par (by decide) (by omega) (by omega))
        rw [show stepS .rest 8 = .rest from by simp [stepS], show stepE .rest 8 = some ⟨2, 8, [], []⟩ from by simp [stepE]] at PW
        clear hrk
        go_wp2_with fail
        refine PW.out.mono ?_
        rintro e w4 ⟨ev, v4, rfl, ⟨b, va, rfl, _, hb, _⟩, p4, t4⟩
        have Q4 := Lib.hid (QR.out.put p4 t4)
        have QW4 := Lib.hid (Esc.quiet_walk gp v4 .rest w4.drew (p4.laid (Below.refl _ _).drew))
        have cl4 : w4.cell? ⟨bq, off + k, none⟩ = some (.int .i32 (8)) := (Q4.out.old.cell (p := ⟨bq, off + k, none⟩) hbq).trans HC.out
        clear p4 t4 PW QR c0
        go_wp2_with fail
        refine Ord.start (S := fun W => W = w4.drew) (n := 47) (by kernel_rfl) (by kernel_rfl) rfl ?_
        apply plain_ctrl (w1 := w4.drew) (g := gp) (bq := bq) (off := off) (n := n) (c := c) (i := k) (b := b) (r := 8) (p1 := undef) (p2 := u2) (p3 := .bool true) (p9 := .bool true) (p10 := .bool true) (p11 := .bool false) (p12 := .agg #[.int .i64 0, .bool false, .int .i64 0, .int .i64 0, .int .i64 0, .int .i64 0, .int .i64 0, .int .i64 0, .int .i64 0, .int .i64 0, .int .i64 0, .slice none 0 0]) (p13 := .pointer (some ⟨gp, 0, none⟩))
        case R => exact ⟨by kernel_rfl, by kernel_rfl⟩
        case hQ => exact fun _ _ _ _ _ h => h
        case QW => exact fun W e => by subst e; exact QW4.out
        case B2 => exact fun W => b2i_walk true W
        case c0 => exact fun W e => by subst e; exact cell_of_row w4.drew b 0 _ _ (0, 0) hb
        case c1 => exact fun W e => by subst e; exact cell_of_row w4.drew b 1 _ _ (0, 0) hb
        case cl => exact fun W e => by subst e; exact cl4
        case hi0 => omega
        case hin => omega
        case F => exact ⟨rfl, rfl, rfl, rfl, rfl, rfl, rfl, rfl, rfl, rfl, rfl, rfl, rfl, rfl, rfl, rfl⟩
        case hS => rfl
        intro a2 F2 f119
        refine plain_frame F2.size F2.defers F2.s0 F2.s1 F2.s2 F2.s3 F2.s4 F2.s5 F2.s6 F2.s7 F2.s8 F2.s9 F2.s10 F2.s11 F2.s12 F2.s13 f119 ?_
        intros
        clear F2 f119 QW4 cl4 hb
        try dsimp only
        go_wp2
        go_roundw
        case rel => exact ⟨k + 1, v4, by first | rfl | (congr 1; done) | (congr 1; omega), by omega, by omega, Lib.hid ⟨Q4.out.old.drew, Q4.out.g0, Q4.out.par.laid (Below.refl _ _).drew⟩⟩
        case measure => first | (simp [intOf]; done) | (simp [intOf]; omega)
      by_cases h9 : r = 9
      · subst h9
        have PW := Lib.hid (Esc.put_walk gp vp .rest 9 wr QR.out.par (by decide) (by omega) (by omega))
        rw [show stepS .rest 9 = .rest from by simp [stepS], show stepE .rest 9 = some ⟨2, 9, [], []⟩ from by simp [stepE]] at PW
        clear hrk
        go_wp2_with fail
        refine PW.out.mono ?_
        rintro e w4 ⟨ev, v4, rfl, ⟨b, va, rfl, _, hb, _⟩, p4, t4⟩
        have Q4 := Lib.hid (QR.out.put p4 t4)
        have QW4 := Lib.hid (Esc.quiet_walk gp v4 .rest w4.drew (p4.laid (Below.refl _ _).drew))
        have cl4 : w4.cell? ⟨bq, off + k, none⟩ = some (.int .i32 (9)) := (Q4.out.old.cell (p := ⟨bq, off + k, none⟩) hbq).trans HC.out
        clear p4 t4 PW QR c0
        go_wp2_with fail
        refine Ord.start (S := fun W => W = w4.drew) (n := 47) (by kernel_rfl) (by kernel_rfl) rfl ?_
        apply plain_ctrl (w1 := w4.drew) (g := gp) (bq := bq) (off := off) (n := n) (c := c) (i := k) (b := b) (r := 9) (p1 := undef) (p2 := u2) (p3 := .bool true) (p9 := .bool true) (p10 := .bool true) (p11 := .bool false) (p12 := .agg #[.int .i64 0, .bool false, .int .i64 0, .int .i64 0, .int .i64 0, .int .i64 0, .int .i64 0, .int .i64 0, .int .i64 0, .int .i64 0, .int .i64 0, .slice none 0 0]) (p13 := .pointer (some ⟨gp, 0, none⟩))
        case R => exact ⟨by kernel_rfl, by kernel_rfl⟩
        case hQ => exact fun _ _ _ _ _ h => h
        case QW => exact fun W e => by subst e; exact QW4.out
        case B2 => exact fun W => b2i_walk true W
        case c0 => exact fun W e => by subst e; exact cell_of_row w4.drew b 0 _ _ (0, 0) hb
        case c1 => exact fun W e => by subst e; exact cell_of_row w4.drew b 1 _ _ (0, 0) hb
        case cl => exact fun W e => by subst e; exact cl4
        case hi0 => omega
        case hin => omega
        case F => exact ⟨rfl, rfl, rfl, rfl, rfl, rfl, rfl, rfl, rfl, rfl, rfl, rfl, rfl, rfl, rfl, rfl⟩
        case hS => rfl
        intro a2 F2 f119
        refine plain_frame F2.size F2.defers F2.s0 F2.s1 F2.s2 F2.s3 F2.s4 F2.s5 F2.s6 F2.s7 F2.s8 F2.s9 F2.s10 F2.s11 F2.s12 F2.s13 f119 ?_
        intros
        clear F2 f119 QW4 cl4 hb
        try dsimp only
        go_wp2
        go_roundw
        case rel => exact ⟨k + 1, v4, by first | rfl | (congr 1; done) | (congr 1; omega), by omega, by omega, Lib.hid ⟨Q4.out.old.drew, Q4.out.g0, Q4.out.par.laid (Below.refl _ _).drew⟩⟩
        case measure => first | (simp [intOf]; done) | (simp [intOf]; omega)
      by_cases h10 : r = 10
      · subst h10
        have PW := Lib.hid (Esc.put_walk gp vp .rest 10 wr QR.out.par (by decide) (by omega) (by omega))
        rw [show stepS .rest 10 = .rest from by simp [stepS], show stepE .rest 10 = some ⟨2, 10, [], []⟩ from by simp [stepE]] at PW
        clear hrk
        go_wp2_with fail
        refine PW.out.mono ?_
        rintro e w4 ⟨ev, v4, rfl, ⟨b, va, rfl, _, hb, _⟩, p4, t4⟩
        have Q4 := Lib.hid (QR.out.put p4 t4)
        have QW4 := Lib.hid (Esc.quiet_walk gp v4 .rest w4.drew (p4.laid (Below.refl _ _).drew))
        have cl4 : w4.cell? ⟨bq, off + k, none⟩ = some (.int .i32 (10)) := (Q4.out.old.cell (p := ⟨bq, off + k, none⟩) hbq).trans HC.out
        clear p4 t4 PW QR c0
        go_wp2_with fail
        refine Ord.start (S := fun W => W = w4.drew) (n := 47) (by kernel_rfl) (by kernel_rfl) rfl ?_
        apply plain_ctrl (w1 := w4.drew) (g := gp) (bq := bq) (off := off) (n := n) (c := c) (i := k) (b := b) (r := 10) (p1 := undef) (p2 := u2) (p3 := .bool true) (p9 := .bool true) (p10 := .bool true) (p11 := .bool false) (p12 := .agg #[.int .i64 0, .bool false, .int .i64 0, .int .i64 0, .int .i64 0, .int .i64 0, .int .i64 0, .int .i64 0, .int .i64 0, .int .i64 0, .int .i64 0, .slice none 0 0]) (p13 := .pointer (some ⟨gp, 0, none⟩))
        case R => exact ⟨by kernel_rfl, by kernel_rfl⟩
        case hQ => exact fun _ _ _ _ _ h => h
        case QW => exact fun W e => by subst e; exact QW4.out
        case B2 => exact fun W => b2i_walk true W
        case c0 => exact fun W e => by subst e; exact cell_of_row w4.drew b 0 _ _ (0, 0) hb
        case c1 => exact fun W e => by subst e; exact cell_of_row w4.drew b 1 _ _ (0, 0) hb
        case cl => exact fun W e => by subst e; exact cl4
        case hi0 => omega
        case hin => omega
        case F => exact ⟨rfl, rfl, rfl, rfl, rfl, rfl, rfl, rfl, rfl, rfl, rfl, rfl, rfl, rfl, rfl, rfl⟩
        case hS => rfl
        intro a2 F2 f119
        refine plain_frame F2.size F2.defers F2.s0 F2.s1 F2.s2 F2.s3 F2.s4 F2.s5 F2.s6 F2.s7 F2.s8 F2.s9 F2.s10 F2.s11 F2.s12 F2.s13 f119 ?_
        intros
        clear F2 f119 QW4 cl4 hb
        try dsimp only
        go_wp2
        go_roundw
        case rel => exact ⟨k + 1, v4, by first | rfl | (congr 1; done) | (congr 1; omega), by omega, by omega, Lib.hid ⟨Q4.out.old.drew, Q4.out.g0, Q4.out.par.laid (Below.refl _ _).drew⟩⟩
        case measure => first | (simp [intOf]; done) | (simp [intOf]; omega)
      by_cases h13 : r = 13
      · subst h13
        have PW := Lib.hid (Esc.put_walk gp vp .rest 13 wr QR.out.par (by decide) (by omega) (by omega))
        rw [show stepS .rest 13 = .rest from by simp [stepS], show stepE .rest 13 = some ⟨2, 13, [], []⟩ from by simp [stepE]] at PW
        clear hrk
        go_wp2_with fail
        refine PW.out.mono ?_
        rintro e w4 ⟨ev, v4, rfl, ⟨b, va, rfl, _, hb, _⟩, p4, t4⟩
        have Q4 := Lib.hid (QR.out.put p4 t4)
        have QW4 := Lib.hid (Esc.quiet_walk gp v4 .rest w4.drew (p4.laid (Below.refl _ _).drew))
        have cl4 : w4.cell? ⟨bq, off + k, none⟩ = some (.int .i32 (13)) := (Q4.out.old.cell (p := ⟨bq, off + k, none⟩) hbq).trans HC.out
        clear p4 t4 PW QR c0
        go_wp2_with fail
        refine Ord.start (S := fun W => W = w4.drew) (n := 47) (by kernel_rfl) (by kernel_rfl) rfl ?_
        apply plain_ctrl (w1 := w4.drew) (g := gp) (bq := bq) (off := off) (n := n) (c := c) (i := k) (b := b) (r := 13) (p1 := undef) (p2 := u2) (p3 := .bool true) (p9 := .bool true) (p10 := .bool true) (p11 := .bool false) (p12 := .agg #[.int .i64 0, .bool false, .int .i64 0, .int .i64 0, .int .i64 0, .int .i64 0, .int .i64 0, .int .i64 0, .int .i64 0, .int .i64 0, .int .i64 0, .slice none 0 0]) (p13 := .pointer (some ⟨gp, 0, none⟩))
        case R => exact ⟨by kernel_rfl, by kernel_rfl⟩
        case hQ => exact fun _ _ _ _ _ h => h
        case QW => exact fun W e => by subst e; exact QW4.out
        case B2 => exact fun W => b2i_walk true W
        case c0 => exact fun W e => by subst e; exact cell_of_row w4.drew b 0 _ _ (0, 0) hb
        case c1 => exact fun W e => by subst e; exact cell_of_row w4.drew b 1 _ _ (0, 0) hb
        case cl => exact fun W e => by subst e; exact cl4
        case hi0 => omega
        case hin => omega
        case F => exact ⟨rfl, rfl, rfl, rfl, rfl, rfl, rfl, rfl, rfl, rfl, rfl, rfl, rfl, rfl, rfl, rfl⟩
        case hS => rfl
        intro a2 F2 f119
        refine plain_frame F2.size F2.defers F2.s0 F2.s1 F2.s2 F2.s3 F2.s4 F2.s5 F2.s6 F2.s7 F2.s8 F2.s9 F2.s10 F2.s11 F2.s12 F2.s13 f119 ?_
        intros
        clear F2 f119 QW4 cl4 hb
        try dsimp only
        go_wp2
        go_roundw
        case rel => exact ⟨k + 1, v4, by first | rfl | (congr 1; done) | (congr 1; omega), by omega, by omega, Lib.hid ⟨Q4.out.old.drew, Q4.out.g0, Q4.out.par.laid (Below.refl _ _).drew⟩⟩
        case measure => first | (simp [intOf]; done) | (simp [intOf]; omega)
      have b27 : (r == 27) = false := by simpa using h27
      have b8 : (r == 8) = false := by simpa using h8
      have b9 : (r == 9) = false := by simpa using h9
      have b10 : (r == 10) = false := by simpa using h10
      have b13 : (r == 13) = false := by simpa using h13
      by_cases hlow : r < 32
      · have g32 : ¬ (32 : Int) ≤ r := by omega
        have PW := Lib.hid (Esc.put_walk gp vp .rest r wr QR.out.par (by decide) (by omega) (by omega))
        rw [show stepS .rest r = .rest from by simp [stepS, h27], show stepE .rest r = none from by exact (show (if r = 8 ∨ r = 9 ∨ r = 10 ∨ r = 13 then some (⟨2, r, [], []⟩ : Ev) else if 32 ≤ r ∧ r ≠ 127 then some ⟨1, r, [], []⟩ else none) = _ from by rw [if_neg (by omega), if_neg (by omega)])] at PW
        clear hrk
        go_wp2_with fail
        refine PW.out.mono ?_
        rintro e w4 ⟨ev, v4, rfl, rfl, p4, t4⟩
        have Q4 := Lib.hid (QR.out.put p4 t4)
        have QW4 := Lib.hid (Esc.quiet_walk gp v4 .rest w4.drew (p4.laid (Below.refl _ _).drew))
        have cl4 : w4.cell? ⟨bq, off + k, none⟩ = some (.int .i32 (r)) := (Q4.out.old.cell (p := ⟨bq, off + k, none⟩) hbq).trans HC.out
        clear p4 t4 PW QR c0
        go_wp2_with fail
        refine Ord.start (S := fun W => W = w4.drew) (n := 47) (by kernel_rfl) (by kernel_rfl) rfl ?_
        apply plain_none (w1 := w4.drew) (g := gp) (bq := bq) (off := off) (n := n) (c := c) (i := k) (p1 := undef) (p2 := u2) (p3 := .bool true) (p9 := .bool true) (p10 := .bool true) (p11 := .bool false) (p12 := .agg #[.int .i64 0, .bool false, .int .i64 0, .int .i64 0, .int .i64 0, .int .i64 0, .int .i64 0, .int .i64 0, .int .i64 0, .int .i64 0, .int .i64 0, .slice none 0 0]) (p13 := .pointer (some ⟨gp, 0, none⟩))
        case R => exact ⟨by kernel_rfl, by kernel_rfl⟩
        case hQ => exact fun _ _ _ _ _ h => h
        case QW => exact fun W e => by subst e; exact QW4.out
        case B2 => exact fun W => b2i_walk false W
        case F => exact ⟨rfl, rfl, rfl, rfl, rfl, rfl, rfl, rfl, rfl, rfl, rfl, rfl, rfl, rfl, rfl, rfl⟩
        case hS => rfl
        intro a2 F2 f119
        refine plain_frame F2.size F2.defers F2.s0 F2.s1 F2.s2 F2.s3 F2.s4 F2.s5 F2.s6 F2.s7 F2.s8 F2.s9 F2.s10 F2.s11 F2.s12 F2.s13 f119 ?_
        intros
        clear F2 f119 QW4 cl4
        try dsimp only
        go_wp2
        go_roundw
        case rel => exact ⟨k + 1, v4, by first | rfl | (congr 1; done) | (congr 1; omega), by omega, by omega, Lib.hid ⟨Q4.out.old.drew, Q4.out.g0, Q4.out.par.laid (Below.refl _ _).drew⟩⟩
        case measure => first | (simp [intOf]; done) | (simp [intOf]; omega)
      have g32 : (32 : Int) ≤ r := by omega
      by_cases h127 : r = 127
      · subst h127
        have PW := Lib.hid (Esc.put_walk gp vp .rest 127 wr QR.out.par (by decide) (by omega) (by omega))
        rw [show stepS .rest 127 = .rest from by simp [stepS], show stepE .rest 127 = none from by simp [stepE]] at PW
        clear hrk
        go_wp2_with fail
        refine PW.out.mono ?_
        rintro e w4 ⟨ev, v4, rfl, rfl, p4, t4⟩
        have Q4 := Lib.hid (QR.out.put p4 t4)
        have QW4 := Lib.hid (Esc.quiet_walk gp v4 .rest w4.drew (p4.laid (Below.refl _ _).drew))
        have cl4 : w4.cell? ⟨bq, off + k, none⟩ = some (.int .i32 (127)) := (Q4.out.old.cell (p := ⟨bq, off + k, none⟩) hbq).trans HC.out
        clear p4 t4 PW QR c0
        go_wp2_with fail
        refine Ord.start (S := fun W => W = w4.drew) (n := 47) (by kernel_rfl) (by kernel_rfl) rfl ?_
        apply plain_none (w1 := w4.drew) (g := gp) (bq := bq) (off := off) (n := n) (c := c) (i := k) (p1 := undef) (p2 := u2) (p3 := .bool true) (p9 := .bool true) (p10 := .bool true) (p11 := .bool false) (p12 := .agg #[.int .i64 0, .bool false, .int .i64 0, .int .i64 0, .int .i64 0, .int .i64 0, .int .i64 0, .int .i64 0, .int .i64 0, .int .i64 0, .int .i64 0, .slice none 0 0]) (p13 := .pointer (some ⟨gp, 0, none⟩))
        case R => exact ⟨by kernel_rfl, by kernel_rfl⟩
        case hQ => exact fun _ _ _ _ _ h => h
        case QW => exact fun W e => by subst e; exact QW4.out
        case B2 => exact fun W => b2i_walk false W
        case F => exact ⟨rfl, rfl, rfl, rfl, rfl, rfl, rfl, rfl, rfl, rfl, rfl, rfl, rfl, rfl, rfl, rfl⟩
        case hS => rfl
        intro a2 F2 f119
        refine plain_frame F2.size F2.defers F2.s0 F2.s1 F2.s2 F2.s3 F2.s4 F2.s5 F2.s6 F2.s7 F2.s8 F2.s9 F2.s10 F2.s11 F2.s12 F2.s13 f119 ?_
        intros
        clear F2 f119 QW4 cl4
        try dsimp only
        go_wp2
        go_roundw
        case rel => exact ⟨k + 1, v4, by first | rfl | (congr 1; done) | (congr 1; omega), by omega, by omega, Lib.hid ⟨Q4.out.old.drew, Q4.out.g0, Q4.out.par.laid (Below.refl _ _).drew⟩⟩
        case measure => first | (simp [intOf]; done) | (simp [intOf]; omega)
      have b127 : (r == 127) = false := by simpa using h127
      have b127n : (r != 127) = true := by simpa using h127
      have PW := Lib.hid (Esc.put_walk gp vp .rest r wr QR.out.par (by decide) (by omega) (by omega))
      rw [show stepS .rest r = .rest from by simp [stepS, h27], show stepE .rest r = some ⟨1, r, [], []⟩ from by exact (show (if r = 8 ∨ r = 9 ∨ r = 10 ∨ r = 13 then some (⟨2, r, [], []⟩ : Ev) else if 32 ≤ r ∧ r ≠ 127 then some ⟨1, r, [], []⟩ else none) = _ from by rw [if_neg (by omega), if_pos (by omega)])] at PW
      clear hrk
      go_wp2_with fail
      refine PW.out.mono ?_
      rintro e w4 ⟨ev, v4, rfl, ⟨b, va, rfl, _, hb, _⟩, p4, t4⟩
      have Q4 := Lib.hid (QR.out.put p4 t4)
      have QW4 := Lib.hid (Esc.quiet_walk gp v4 .rest w4.drew (p4.laid (Below.refl _ _).drew))
      have cl4 : w4.cell? ⟨bq, off + k, none⟩ = some (.int .i32 (r)) := (Q4.out.old.cell (p := ⟨bq, off + k, none⟩) hbq).trans HC.out
      clear p4 t4 PW QR c0
      go_wp2_with fail
      refine Ord.start (S := fun W => W = w4.drew) (n := 47) (by kernel_rfl) (by kernel_rfl) rfl ?_
      apply plain_print (w1 := w4.drew) (g := gp) (bq := bq) (off := off) (n := n) (c := c) (i := k) (b := b) (r := r) (p1 := undef) (p2 := u2) (p3 := .bool true) (p9 := .bool true) (p10 := .bool true) (p11 := .bool false) (p12 := .agg #[.int .i64 0, .bool false, .int .i64 0, .int .i64 0, .int .i64 0, .int .i64 0, .int .i64 0, .int .i64 0, .int .i64 0, .int .i64 0, .int .i64 0, .slice none 0 0]) (p13 := .pointer (some ⟨gp, 0, none⟩))
      case R => exact ⟨by kernel_rfl, by kernel_rfl⟩
      case hQ => exact fun _ _ _ _ _ h => h
      case QW => exact fun W e => by subst e; exact QW4.out
      case B2 => exact fun W => b2i_walk true W
      case c0 => exact fun W e => by subst e; exact cell_of_row w4.drew b 0 _ _ (0, 0) hb
      case c1 => exact fun W e => by subst e; exact cell_of_row w4.drew b 1 _ _ (0, 0) hb
      case cl => exact fun W e => by subst e; exact cl4
      case hi0 => omega
      case hin => omega
      case F => exact ⟨rfl, rfl, rfl, rfl, rfl, rfl, rfl, rfl, rfl, rfl, rfl, rfl, rfl, rfl, rfl, rfl⟩
      case hS => rfl
      intro a2 F2 f119
      refine plain_frame F2.size F2.defers F2.s0 F2.s1 F2.s2 F2.s3 F2.s4 F2.s5 F2.s6 F2.s7 F2.s8 F2.s9 F2.s10 F2.s11 F2.s12 F2.s13 f119 ?_
      intros
      clear F2 f119 QW4 cl4 hb
      try dsimp only
      go_wp2
      go_roundw
      case rel => exact ⟨k + 1, v4, by first | rfl | (congr 1; done) | (congr 1; omega), by omega, by omega, Lib.hid ⟨Q4.out.old.drew, Q4.out.g0, Q4.out.par.laid (Below.refl _ _).drew⟩⟩
      case measure => first | (simp [intOf]; done) | (simp [intOf]; omega)
    · have hd : ¬ ((k : Int) < (n : Int)) ∨ ¬ ((k : Int) < 60) := by omega
      rcases hd with hd | hd
      · go_wp2
        go_ret
        exact ⟨rfl, QR.out.old⟩
      · by_cases hd2 : (k : Int) < (n : Int)
        · go_wp2
          go_ret
          exact ⟨rfl, QR.out.old⟩
        · go_wp2
          go_ret
          exact ⟨rfl, QR.out.old⟩

-- WHAT THE WALK GIVES, FOR EVERY ARGUMENT AND EVERY WORLD THAT HOLDS THE TABLE.
set_option maxRecDepth 100000 in
theorem contract (H : Type) (enc : TypeId × Value → H) (W : World) (base : Nat) (args : Array Value) (ds gs : List (DataW H)) (before : List MemPlace)
    (hval : ∀ (j : Nat) t v, Tryz.f15.params[j]? = some t → args[j]? = some v → Value.okWide Tryz.prog W .any base t v)
    (hW : DataW.Whole enc Tryz.prog Tryz.f15.params.toList Rows.escPlainSpec.vars false W args.toList ds gs before) (hL : laidMetH Tryz.prog Rows.escPlainRow.laid W) :
    Calls Tryz.prog 15 args W fun e W' => ∃ v, e = .returned v ∧ Rows.escPlainSpec.post enc Tryz.prog Tryz.f15 false true false false W args v W' := by
  have hW' := hW
  obtain ⟨p, q, hA0, hV, rfl, hfz, hnd⟩ := hW
  have hA : DataW.TrodAll enc Tryz.prog W 0 (fun _ => true) true Tryz.f15.params.toList args.toList ds p := hA0
  rw [Tryz.params15] at hA hval
  obtain ⟨v0, vs0, d0, ds0, p0, q0, hargs, rfl, rfl, h0, r0⟩ := trodAll_cons hA
  obtain ⟨rfl, rfl, rfl⟩ := trodAll_nil r0
  obtain rfl : args = #[v0] := by cases args; simp_all
  obtain ⟨rfl, rfl⟩ := trodVars_none hV
  obtain ⟨Ax, nx, cx, x, rfl, hcx, hmx, hrx, hqx⟩ := open_runes (hval 0 22 v0 rfl rfl) h0
  clear hA0
  refine (walk Ax nx cx x hcx hmx hrx W (spans_of hL) hqx).mono fun e W' ⟨he, hg⟩ => ?_
  subst he
  exact ⟨_, rfl, close rfl hW' ⟨rfl, rfl, rfl⟩ (by kernel_rfl) (by kernel_rfl) hg⟩

set_option maxRecDepth 100000 in
theorem laid_met (os : Os) : laidMet Tryz.prog Rows.escPlainRow.laid ((laidWorld os).forCall (fun _ _ => 0) ⟨#[], #[.slice none 0 0], []⟩).memory :=
  laidMet_of_run' 8 (by kernel_rfl) (by kernel_rfl)
set_option maxRecDepth 100000 in
theorem reads (os : Os) {H : Type} (enc : TypeId × Value → H) : ∃ places, DataW.whole enc Tryz.prog ((laidWorld os).forCall (fun _ _ => 0) ⟨#[], #[.slice none 0 0], []⟩).memory Tryz.f15.params.toList Rows.escPlainSpec.vars false (#[.slice none 0 0] : Array Value).toList 8 = some ([.nil], [], places) :=
  ⟨[], by kernel_rfl⟩

set_option maxRecDepth 100000 in
theorem lifted (os : Os) (started : os.Started) (H : Type) (enc : TypeId × Value → H) (F : Stop.Interp) :
    ReturnsInHanded {} Tryz.checked os 15 .any ((OpenSpec.ofChange Rows.escPlainSpec).preRow enc Tryz.prog Tryz.f15 Rows.escPlainRow.domain false Rows.escPlainRow.laid) (((OpenSpec.ofChange Rows.escPlainSpec).at F).post enc Tryz.prog Tryz.f15 false true false false) := by
  obtain ⟨places, hx⟩ := reads os enc
  refine returnsInHanded_of_row (C := Tryz.checked) (s := OpenSpec.ofChange Rows.escPlainSpec) ownNone started (by kernel_rfl) Tryz.func15
    (witness_row_at (enc := enc) (C := Tryz.checked) false (laidWorld os) #[.slice none 0 0] rfl (by kernel_rfl) (by kernel_rfl) (by kernel_rfl)
      (OpenSpec.preRow_of_cond 8 hx (by kernel_rfl) (fun k hk => by cases hk) (by kernel_rfl) (laid_met os))) ?_
  intro W base args ds gs before hval hW _ _ _ hL _ _
  exact contract H enc W base args ds gs before hval hW hL

-- What the card asks of the program and of the row.
set_option maxRecDepth 100000 in
set_option maxHeartbeats 0 in
theorem facts : joinedFacts Tryz.checked.prog 15 Tryz.f15 (OpenSpec.ofChange Rows.escPlainSpec).bare Rows.escPlainRow = true := by
  have h1 := Sum.tables.1
  have h2 := Sum.tables.2.1
  have h3 := Sum.tables.2.2
  have h4 := Sum.mayEnter
  have e1 : Rows.escPlainRow.lifted = Rows.escAllRow.lifted := by kernel_rfl
  have e2 : Rows.escPlainRow.make = Rows.escAllRow.make := by kernel_rfl
  have h5 : (Rows.escPlainRow.lifted == Tryz.checked.prog.liftsFinal) = true := by rw [e1]; exact Sum.lifts
  have h6 : (Tryz.checked.prog.make == some Rows.escPlainRow.make) = true := by rw [e2]; exact Sum.make
  unfold joinedFacts
  repeat' (with_reducible refine Sum.and_mk ?_ ?_)
  all_goals first
    | with_reducible exact h1
    | with_reducible exact h2
    | with_reducible exact h4
    | with_reducible exact h5
    | with_reducible exact h6
    | (rw [h3]; as_aux_lemma => kernel_rfl)
    | (clear h1 h2 h3 h4 h5 h6 e1 e2; as_aux_lemma => kernel_rfl)

set_option maxRecDepth 100000 in
theorem said : Rows.EscPlainSaid :=
  OpenClaim.holds_of_cond 15 Tryz.f15 rfl rfl rfl rfl rfl rfl rfl ⟨rfl, rfl, rfl, rfl, rfl⟩ rfl rfl rfl rfl rfl (by kernel_rfl) Tryz.func15 facts
    (of_decide_eq_true (by kernel_rfl)) (by unfold Func.isWrapper; first | (rw [if_pos (by decide +kernel)]; kernel_rfl) | (rw [if_neg (by decide +kernel)]; exact ⟨rfl, rfl⟩))
    (fun os started H enc _ F => by rw [OpenClaim.pre_eq_preRow]; exact lifted os started H enc F)

-- No parameter wants a stand-in; the program's own looks are off: what the card asks.
set_option maxRecDepth 100000 in
theorem plain (f : FuncId) (fn : Func) (hf : Tryz.pinned.checked.prog.funcNamed "rotulus/rotuluslaw7.EscPlain" = some f) (hfn : Tryz.pinned.checked.prog.funcs[f]? = some fn) :
    false = Tryz.pinned.checked.prog.looks [] ∧ ∀ (j : Nat) t, fn.params[j]? = some t → Tryz.pinned.checked.prog.wantsStandIn t = false := by
  obtain rfl : f = 15 := Option.some.inj ((show Tryz.prog.funcNamed "rotulus/rotuluslaw7.EscPlain" = some 15 by kernel_rfl).symm.trans hf) |>.symm
  obtain rfl : fn = Tryz.f15 := (Option.some.inj (Tryz.func15.symm.trans hfn)).symm
  refine ⟨by kernel_rfl, fun j t ht => ?_⟩
  rw [Tryz.params15] at ht
  have hm := Array.mem_of_getElem? ht
  simp at hm
  subst hm
  exact (show Tryz.prog.wantsStandIn 22 = false by kernel_rfl)

-- The card.
set_option maxRecDepth 100000 in
theorem card : Rows.EscPlainCardSaid :=
  Claim7.holds_tied_plain_at .later [] _ _ _ _ said (fun _ h => by cases h) (by kernel_rfl) (fun _ h => by cases h) escPlain_row_tie rfl ⟨rfl, rfl⟩ (by kernel_rfl) rfl plain (by kernel_rfl)
end Go.Proofs.YtibihjcpkdfgeaaGreatDoor.escPlain
