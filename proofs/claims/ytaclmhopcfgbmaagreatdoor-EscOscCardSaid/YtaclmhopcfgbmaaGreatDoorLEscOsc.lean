/-
  The statement EscOsc: texts of an OSC, of any length, ended both ways. For every integer (the length is taken modulo 4100), both ways to end it, every sign; it holds where the table of widths is as its initialiser lays it, which the card ties to the program's text.
-/
import Derived.Test.YtaclmhopcfgbmaaGreatDoorQBegun0
import Derived.Test.YtaclmhopcfgbmaaGreatDoorQBase4
import Derived.Test.YtaclmhopcfgbmaaGreatDoorQSum0
import Derived.Test.YtaclmhopcfgbmaaGreatDoorQOsc0
import Derived.Test.YtaclmhopcfgbmaaGreatDoorQBase3
import Derived.Deep.CutRange
namespace Go.Proofs.YtaclmhopcfgbmaaGreatDoor.escOsc
open Go.ChangeShapes Go.WideShapes Go.ChangeAt Go.RowKit
open Esc
theorem mod_range (x : Int) (m : Int) (hm : 0 < m) : -m < x.tmod m ∧ x.tmod m < m := by
 have h1 := Int.tmod_lt_of_pos x hm
 have h2 := Int.tmod_lt_of_pos (-x) hm
 rw [Int.neg_tmod] at h2
 omega
structure Fits (c : Int) : Prop where
 low : 32 ≤ c
 high : c ≤ 1114111
 mid : c < 55296 ∨ 57343 < c
 del : c ≠ 127
theorem encL_rep (n : Nat) (c : Int) : (encL (List.replicate n c)).length = n * (Lib.encodeRune c).length := by
 induction n with
 | zero => simp [encL]
 | succ n ih =>
  rw [List.replicate_succ', encL_append, List.length_append, ih, encL_one, Nat.succ_mul]
def Told10 (W : World) (A : Option Addr) (m : Nat) : Option Ev → Prop
 | none => m = 0
 | some x => m = 1 ∧ ∃ b, A = some ⟨b, 0, none⟩ ∧ b < W.heap.size ∧ W.cell? ⟨b, 0, none⟩ = some (.int .i64 x.kind) ∧ W.cell? ⟨b, 3, none⟩ = some (.string ⟨x.text.toArray⟩)
theorem told_of {W : World} {base : Nat} {ev : Value} {o : Option Ev} (h : EvIs W base ev o) : ∃ A m c, ev = .slice A m c ∧ Told10 W A m o := by
 cases o with
 | none => exact ⟨none, 0, 0, h, rfl⟩
 | some x =>
  obtain ⟨b, va, rfl, _, hb, _⟩ := h
  exact ⟨_, 1, 1, rfl, rfl, b, rfl, (Array.getElem?_eq_some_iff.1 hb).1, cell_of_row _ b 0 _ _ (0, 0) hb, cell_of_row _ b 3 _ _ (0, 0) hb⟩
theorem cells_of {W : World} {base : Nat} {ev : Value} {o : Option Ev} (h : EvIs W base ev o) : ∃ A m c us, ev = .slice A m c ∧ Sq W W.heap.size 4 m A us ∧ (∀ u ∈ us, u.oneCell' = true) ∧ m ≤ 1 ∧
  ∀ (W' : World) (B : Nat) (v' : Value), W'.ownsRow B 35 4 v' (0 + m) ([] ++ us) → ∃ A' c', v' = .slice A' m c' ∧ Told10 W' A' m o := by
 cases o with
 | none =>
  obtain rfl : ev = .slice none 0 0 := h
  refine ⟨none, 0, 0, [], rfl, Sq.nothing _ _ _ _, (fun _ h => by cases h), by omega, fun W' B v' h => ?_⟩
  rcases h.2 with ⟨rfl, _⟩ | ⟨g, cap, cur, rfl, _⟩
  ·exact ⟨_, _, rfl, rfl⟩
  ·exact ⟨_, _, rfl, rfl⟩
 | some x =>
  obtain ⟨b, va, rfl, _, hb, hn⟩ := h
  have hva : va.oneCell' = true := by
   rcases hn.2 with ⟨e, _⟩ | ⟨g, cap, cur, e, _⟩ <;> (rw [e]; rfl)
  refine ⟨_, 1, 1, [.int .i64 x.kind, .int .i32 x.r, va, .string ⟨x.text.toArray⟩], rfl, ⟨rfl, fun _ => ⟨b, 0, rfl, (Array.getElem?_eq_some_iff.1 hb).1, fun j u hu => ?_⟩⟩, fun u hu => ?_, by omega, fun W' B v' h => ?_⟩
  ·rw [Nat.zero_add, cell_of_row _ b j _ _ (0, 0) hb, List.getElem?_toArray]
   exact hu
  ·simp at hu
   rcases hu with rfl | rfl | rfl | rfl
   ·rfl
   ·rfl
   ·exact hva
   ·rfl
  ·obtain ⟨g, c, e, _, _, h3, hc⟩ := own_at h (by omega)
   exact ⟨_, c, e, rfl, g, rfl, h3, hc 0 _ rfl, hc 3 _ rfl⟩
structure Q1 (w0 : World) (g : Nat) (v : Value) (st : Esc.St) (W : World) : Prop where
 old : Below w0.heap.size w0 W
 g0 : w0.heap.size ≤ g
 par : PAt W g v st
theorem Q1.put {w0 W W' : World} {g : Nat} {v v' : Value} {st st' : Esc.St} (h : Q1 w0 g v st W) (hp : PAt W' g v' st') (ht : Turned (Esc.Own g v) W W') : Q1 w0 g v' st' W' :=
 ⟨h.old.trans (ht.toBelow h.old.size (fun j hj m => by have := (h.par.owns m).1; have := h.g0; omega)), h.g0, hp⟩
theorem Q1.laid {w0 W W' : World} {g : Nat} {v : Value} {st : Esc.St} (h : Q1 w0 g v st W) (hb : Below W.heap.size W W') : Q1 w0 g v st W' := ⟨h.old.trans (hb.mono h.old.size), h.g0, h.par.laid hb⟩
theorem more {c : Int} (h : Fits c) (k : Nat) : stepS (.osc (List.replicate k c)) c = .osc (List.replicate (k + 1) c) ∧ stepE (.osc (List.replicate k c)) c = none := by
 have h1 := h.low
 refine ⟨?_, ?_⟩
 ·simp only [stepS]
  rw [if_neg (by omega), if_neg (by omega), List.replicate_succ']
 ·simp only [stepE]
  rw [if_neg (by omega)]
set_option maxRecDepth 100000 in
set_option maxHeartbeats 12800000 in
theorem walkC (n : Nat) (hn : n < 4100) (x : Int) (hx : x.tmod 4100 + 4100 < 8200 ∧ 0 ≤ x.tmod 4100 + 4100) (hxn : (x.tmod 4100 + 4100).tmod 4100 = (n : Int)) (st bad : Bool) (c0 cc : Int) (hc : (bad = false ∧ cc = c0 ∧ Fits c0) ∨ (bad = true ∧ cc = 120 ∧ (c0 < 32 ∨ c0 = 127 ∨ 1114111 < c0 ∨ (55296 ≤ c0 ∧ c0 ≤ 57343)))) (w : World) (hs : Spans w) :
  Calls Tryz.prog 3 #[.int .i64 x, .bool st, .int .i32 c0] w fun e w' => e = .returned (.bool true) ∧ Below w.heap.size w w' := by
 have e1 : IntKind.i64.wrap (x.tmod 4100 + 4100) = x.tmod 4100 + 4100 := IntWalk.i64_in _ (by omega)
 have FC : Fits cc := by
  rcases hc with ⟨_, rfl, h⟩ | ⟨_, rfl, _⟩
  ·exact h
  ·exact ⟨by omega, by omega, by omega, by omega⟩
 have S := Lib.hid hs
 have HC := Lib.hid hc
 clear hs hx hc
 go_enter Tryz.func3, Tryz.ntmps3
 go_wp2_with fail
 refine (Bg.begun7_walk w S.out).mono ?_
 rintro e w1 ⟨rfl, b1⟩
 go_upto_region 5 with fail
 go_cut [28] from 18 to 28 (fun s28 wx => s28 = .bool bad ∧ wx = w1)
 case first =>
  rcases HC.out with ⟨rfl, rfl, h⟩ | ⟨rfl, rfl, h⟩
  ·have h1 : ¬ cc < 32 := by have := h.low; omega
   have h2 : (cc == 127) = false := by simp [h.del]
   have SG := Lib.hid (refSign_yes cc (by have := h.low; omega) h.high h.mid w1)
   clear h HC
   go_wp2_with fail
   refine SG.out.mono ?_
   rintro e w' ⟨rfl, rfl⟩
   go_wp2
   go_meet
   exact ⟨rfl, rfl⟩
  ·clear HC
   by_cases h1 : c0 < 32
   ·go_wp2
    go_meet
    exact ⟨rfl, rfl⟩
   ·by_cases h2 : c0 = 127
    ·subst h2
     go_wp2
     go_meet
     exact ⟨rfl, rfl⟩
    ·have h3 : (c0 == 127) = false := by simp [h2]
     have SG := Lib.hid (refSign_no c0 (by omega) w1)
     clear h
     go_wp2_with fail
     refine SG.out.mono ?_
     rintro e w' ⟨rfl, rfl⟩
     go_wp2
     go_meet
     exact ⟨rfl, rfl⟩
 case rest =>
  obtain ⟨rfl, rfl⟩ := hcut
  go_upto_if 28 with fail
  go_cut [2] from 18 to 28 (fun s2 wx => s2 = .int .i32 cc ∧ wx = wc)
  case first =>
   rcases HC.out with ⟨rfl, rfl, h⟩ | ⟨rfl, rfl, h⟩
   ·go_wp2
    go_meet
    exact ⟨rfl, rfl⟩
   ·go_wp2
    go_meet
    exact ⟨rfl, rfl⟩
  case rest =>
   obtain ⟨rfl, rfl⟩ := hcut
   obtain ⟨gp, hgp⟩ : ∃ gp, wc.heap.size = gp := ⟨_, rfl⟩
   obtain ⟨w2, hw2⟩ : ∃ w2, wc.alloc (.cells (pcells 0 false 0 (fun _ => 0) (.slice none 0 0)) 29) = w2 := ⟨_, rfl⟩
   have Q2 := Lib.hid (show Q1 w gp (.slice none 0 0) .rest w2 from by
    have ba : Below wc.heap.size wc w2 := by rw [← hw2]; exact (Below.refl _ _).alloc (Nat.le_refl _) _
    have pa : PCells w2 gp (pcells 0 false 0 (fun _ => 0) (.slice none 0 0)) := by rw [← hgp, ← hw2]; exact heap_alloc_new wc _
    exact ⟨b1.trans (ba.mono b1.size), by have := b1.size; omega, ⟨pa, HasB.nothing _ _⟩⟩)
   have P1 := Lib.hid (Esc.put_walk gp (.slice none 0 0) .rest 27 w2 Q2.out.par (by decide) (by omega) (by omega))
   have HG := Lib.hid hgp
   have HW := Lib.hid hw2
   clear b1 hgp hw2 HC S
   go_wp2_with fail
   rw [HG.out]
   change Calls _ _ _ (wc.alloc (.cells (pcells 0 false 0 (fun _ => 0) (.slice none 0 0)) 29)) _
   rw [HW.out]
   clear HW HG
   refine P1.out.mono ?_
   rintro e w3 ⟨ev3, v3, rfl, _, p3, t3⟩
   have Q3 := Lib.hid (Q2.out.put p3 t3)
   have P2 := Lib.hid (Esc.put_walk gp v3 .esc 93 w3 p3 (by decide) (by omega) (by omega))
   clear p3 t3 P1 Q2
   go_wp2_with fail
   refine P2.out.mono ?_
   rintro e w4 ⟨ev4, v4, rfl, _, p4, t4⟩
   have Q4 := Lib.hid (show Q1 w gp v4 (.osc (List.replicate 0 cc)) w4 from Q3.out.put p4 t4)
   clear p4 t4 P2 Q3
   go_wp2_with fail
   go_loopw [9] (fun v9 wr => ∃ (k : Nat) (vp : Value), v9 = .int .i64 k ∧ k ≤ n ∧ Hid (Q1 w gp vp (.osc (List.replicate k cc)) wr)) (fun v9 _ => n - (intOf v9).toNat)
   case atStart => exact ⟨0, _, rfl, Nat.zero_le _, Q4⟩
   case round =>
    obtain ⟨k, vp, rfl, hk, QR⟩ := hrel
    clear Q4
    by_cases hlt : k < n
    ·have hm := more FC k
     have PW := Lib.hid (Esc.put_walk gp vp (.osc (List.replicate k cc)) cc wr QR.out.par (show (List.replicate k cc).length ≤ 1000000 by rw [List.length_replicate]; omega) (by have := FC.low; omega) (by have := FC.high; omega))
     rw [hm.1, hm.2] at PW
     have hinc : IntKind.i64.wrap ((k : Int) + 1) = (k : Int) + 1 := IntWalk.i64_in _ (by omega)
     have hkn : (k : Int) < (n : Int) := by omega
     clear hm
     go_wp2_with fail
     refine PW.out.mono ?_
     rintro e w5 ⟨ev5, v5, rfl, e5, p5, t5⟩
     have Q5 := Lib.hid (QR.out.put p5 t5)
     obtain rfl : ev5 = .slice none 0 0 := e5
     clear p5 t5 PW QR
     go_wp2
     go_roundw
     case rel => exact ⟨k + 1, v5, by first | rfl | (congr 1; done) | (congr 1; omega), hlt, Q5⟩
     case measure => first | (simp [intOf]; done) | (simp [intOf]; omega)
    ·obtain rfl : k = n := by omega
     obtain ⟨T, hT⟩ : ∃ T, List.replicate k cc = T := ⟨_, rfl⟩
     have hTl : T.length ≤ 1000000 := by rw [← hT, List.length_replicate]; omega
     have hE : (encL T).length = k * (Lib.encodeRune cc).length := by rw [← hT, encL_rep]
     rw [hT] at QR
     have hq4 := encode_len cc
     have PT := Lib.hid (refPut_any cc (by have := FC.low; omega) (by have := FC.high; omega))
     obtain ⟨ps, hps⟩ : ∃ ps : ByteArray, (⟨(Lib.encodeRune cc).toArray⟩ : ByteArray) = ps := ⟨_, rfl⟩
     have hpz : ps.size = (Lib.encodeRune cc).length := by rw [← hps]; simp [ByteArray.size]
     rw [hps] at PT
     rw [← hpz] at hE hq4
     have HE := Lib.hid hE
     have hkp : k * ps.size ≤ 16400 := Nat.le_trans (Nat.mul_le_mul (show k ≤ 4100 by omega) hq4) (by omega)
     have hmul : IntKind.i64.wrap ((k : Int) * (ps.size : Int)) = ((k * ps.size : Nat) : Int) := by
      rw [show (k : Int) * (ps.size : Int) = ((k * ps.size : Nat) : Int) by simp]
      exact IntWalk.i64_in _ (by omega)
     obtain ⟨mq, hmq⟩ : ∃ mq, k * ps.size = mq := ⟨_, rfl⟩
     rw [hmq] at hmul hkp HE
     clear hT hE hps hpz hq4 hmq
     go_upto_if 45 with fail
     go_cut [10] from 46 to 92 (fun s10 wx => ∃ A m c vp, s10 = .slice A m c ∧ Hid (Q1 w gp vp .rest wx) ∧ Hid (Told10 wx A m (oscEv T)))
     case first =>
      cases st with
      | true =>
       have P6 := Lib.hid (Esc.put_walk gp vp (.osc T) 27 wr QR.out.par hTl (by omega) (by omega))
       go_wp2_with fail
       refine P6.out.mono ?_
       rintro e w6 ⟨ev6, v6, rfl, e6, p6, t6⟩
       have Q6 := Lib.hid (QR.out.put p6 t6)
       obtain rfl : ev6 = .slice none 0 0 := e6
       have P7 := Lib.hid (Esc.put_walk gp v6 (.oscEsc T) 92 w6 p6 hTl (by omega) (by omega))
       clear p6 t6 P6 QR
       go_wp2_with fail
       refine P7.out.mono ?_
       rintro e w7 ⟨ev7, v7, rfl, e7, p7, t7⟩
       have Q7 := Lib.hid (Q6.out.put p7 t7)
       obtain ⟨A7, m7, c7, us, rfl, hsq, hone, hm1, hto⟩ := cells_of (o := oscEv T) e7
       have TO := Lib.hid hto
       have B7 := Lib.hid (Below.refl w7.heap.size w7)
       clear p7 t7 e7 P7 Q6 hto
       obtain ⟨i0, hi, hz0, hz1, hz2⟩ := info_parts Bg.infoEvent
       go_wp2_with (
        at_builtin
        refine wpl_app rfl _ _ 30 rfl w7.heap.size 35 i0 _ 4 56 Tryz.underlying30 hi hz0 hz1 hz2 rfl (by decide) (.slice none 0 0) 0 [] rfl (World.ownsRow_nil _ _ _ _) A7 m7 c7 us rfl w7.heap.size hsq hone (by unfold maxLen; omega) (by omega) (Nat.le_refl _) ?_
        intro v8 w8 hown hg _
        obtain ⟨A8, c8, rfl, hT8⟩ := TO.out w8 _ v8 hown
        have T8 := Lib.hid hT8
        have Q8 := Lib.hid (Q7.out.laid (B7.out.grown hg (Nat.le_refl _) (fun k e => by cases e)))
        clear hown hg hT8)
       go_meet
       exact ⟨A8, m7, c8, v7, rfl, Q8, T8⟩
      | false =>
       have P6 := Lib.hid (Esc.put_walk gp vp (.osc T) 7 wr QR.out.par hTl (by omega) (by omega))
       go_wp2_with fail
       refine P6.out.mono ?_
       rintro e w6 ⟨ev6, v6, rfl, e6, p6, t6⟩
       have Q6 := Lib.hid (QR.out.put p6 t6)
       obtain ⟨A6, m6, c6, rfl, hT6⟩ := told_of (o := oscEv T) e6
       have T6 := Lib.hid hT6
       clear p6 t6 P6 QR e6 hT6
       go_wp2
       go_meet
       exact ⟨A6, m6, c6, v6, rfl, Q6, T6⟩
     case rest =>
      obtain ⟨A, m, c, vq, rfl, Q8, T8⟩ := hcut
      clear QR
      by_cases hbig : mq ≤ 4000
      ·have ho : oscEv T = some ⟨4, 0, [], encL T⟩ := by unfold oscEv; rw [if_pos (by rw [HE.out]; exact hbig)]
       rw [ho] at T8
       obtain ⟨rfl, b, rfl, hb, h0, h3⟩ := T8.out
       have hb1 : ¬ ((4000 : Int) < (mq : Int)) := by omega
       obtain ⟨s, hs⟩ : ∃ s : ByteArray, (⟨(encL T).toArray⟩ : ByteArray) = s := ⟨_, rfl⟩
       have hsz : s.size = mq := by rw [← hs, ← HE.out]; simp [ByteArray.size]
       rw [hs] at h3
       clear ho hs T8
       go_wp2_with fail
       refine (PT.out wc).mono ?_
       rintro e w9 ⟨rfl, b9⟩
       have Q9 := Lib.hid (Q8.out.laid b9)
       have c0 : w9.cell? ⟨b, 0, none⟩ = some (.int .i64 4) := (b9.cell (p := ⟨b, 0, none⟩) hb).trans h0
       have c3 : w9.cell? ⟨b, 3, none⟩ = some (.string s) := (b9.cell (p := ⟨b, 3, none⟩) hb).trans h3
       have hb9 : b < w9.heap.size := Nat.lt_of_lt_of_le hb b9.size
       clear h0 h3 b9 Q8 hb
       go_wp2_with fail
       have QW := Lib.hid (fun W (hb : Below w9.drew.heap.size w9.drew W) => (show Calls Tryz.prog 19 #[.pointer (some ⟨gp, 0, none⟩)] W fun e w' => e = .returned (.bool true) ∧ W = w' from Esc.quiet_walk gp vq .rest W ((Q9.out.par.laid (Below.refl _ _).drew).laid hb)))
       refine Ord.start (S := fun W => Below w9.drew.heap.size w9.drew W) (n := 28) (by kernel_rfl) (by kernel_rfl) (Below.refl _ _) ?_
       apply osc_region (w1 := w9.drew) (n := k) (c := cc) (g := gp) (b := b) (lc := c) (s := s) (ps := ps)
       case R => exact ⟨by kernel_rfl, by kernel_rfl⟩
       case hQ => exact fun _ _ _ _ _ h => h
       case c0 => exact fun W h => (h.cell (p := ⟨b, 0, none⟩) hb9).trans c0
       case c3 => exact fun W h => (h.cell (p := ⟨b, 3, none⟩) hb9).trans c3
       case hmul => rw [hsz]; exact hmul
       case PT => exact PT.out
       case QW => exact QW.out
       case F => exact ⟨rfl, rfl, rfl, rfl, rfl, rfl⟩
       case hS => exact Below.refl _ _
       intro a2 W2 F2 f6 hW2
       have B9 := Lib.hid (show Below w.heap.size w W2 from Q9.out.old.drew.trans (hW2.mono Q9.out.old.drew.size))
       refine osc_frame F2.size F2.defers F2.s0 F2.s2 f6 F2.s8 F2.s10 ?_
       intros
       clear F2 f6 QW c0 c3 hW2 Q9 PT
       try dsimp only
       go_wp2
       go_ret
       exact ⟨rfl, B9.out⟩
      ·have ho : oscEv T = none := by unfold oscEv; rw [if_neg (by rw [HE.out]; exact hbig)]
       rw [ho] at T8
       obtain rfl : m = 0 := T8.out
       have hb1 : (4000 : Int) < (mq : Int) := by omega
       clear ho T8
       go_wp2_with fail
       refine (PT.out wc).mono ?_
       rintro e w9 ⟨rfl, b9⟩
       have Q9 := Lib.hid (Q8.out.laid b9)
       have QT := Lib.hid (Esc.quiet_walk gp vq .rest w9 Q9.out.par)
       clear b9 Q8
       go_wp2_with fail
       refine QT.out.mono ?_
       rintro e w' ⟨rfl, rfl⟩
       clear QT
       go_wp2
       go_ret
       exact ⟨rfl, Q9.out.old⟩
theorem walk (x : Int) (hx : -9223372036854775808 ≤ x ∧ x ≤ 9223372036854775807) (st : Bool) (c : Int) (hc : -2147483648 ≤ c ∧ c ≤ 2147483647) (w : World) (hs : Spans w) :
  Calls Tryz.prog 3 #[.int .i64 x, .bool st, .int .i32 c] w fun e w' => e = .returned (.bool true) ∧ Below w.heap.size w w' := by
 have tx := (And.intro hx (mod_range x 4100 (by omega))).2
 have ux := mod_range (x.tmod 4100 + 4100) 4100 (by omega)
 have px := Int.tmod_nonneg 4100 (show 0 ≤ x.tmod 4100 + 4100 by omega)
 obtain ⟨n, hn⟩ : ∃ n : Nat, (x.tmod 4100 + 4100).tmod 4100 = (n : Int) := ⟨((x.tmod 4100 + 4100).tmod 4100).toNat, by omega⟩
 by_cases h : c < 32 ∨ c = 127 ∨ 1114111 < c ∨ (55296 ≤ c ∧ c ≤ 57343)
 ·exact walkC n (by omega) x (by omega) hn st true c 120 (.inr ⟨rfl, rfl, h⟩) w hs
 ·exact walkC n (by omega) x (by omega) hn st false c c (.inl ⟨rfl, rfl, ⟨by omega, by omega, by omega, by omega⟩⟩) w hs
set_option maxRecDepth 100000 in
theorem contract (H : Type) (enc : TypeId × Value → H) (W : World) (base : Nat) (args : Array Value) (ds gs : List (DataW H)) (before : List MemPlace)
  (hval : ∀ (j : Nat) t v, Tryz.f3.params[j]? = some t → args[j]? = some v → Value.okWide Tryz.prog W .any base t v)
  (hW : DataW.Whole enc Tryz.prog Tryz.f3.params.toList Rows.escOscSpec.vars false W args.toList ds gs before) (hL : laidMetH Tryz.prog Rows.escOscRow.laid W) :
  Calls Tryz.prog 3 args W fun e W' => ∃ v, e = .returned v ∧ Rows.escOscSpec.post enc Tryz.prog Tryz.f3 false true false false W args v W' := by
 have hW' := hW
 obtain ⟨p, q, hA0, hV, rfl, hfz, hnd⟩ := hW
 have hA : DataW.TrodAll enc Tryz.prog W 0 (fun _ => true) true Tryz.f3.params.toList args.toList ds p := hA0
 rw [Tryz.params3] at hA hval
 obtain ⟨v0, vs0, d0, ds0, p0, q0, hargs, rfl, rfl, h0, r0⟩ := trodAll_cons hA
 obtain ⟨v1, vs1, d1, ds1, p1, q1, rfl, rfl, rfl, h1, r1⟩ := trodAll_cons r0
 obtain ⟨v2, vs2, d2, ds2, p2, q2, rfl, rfl, rfl, h2, r2⟩ := trodAll_cons r1
 obtain ⟨rfl, rfl, rfl⟩ := trodAll_nil r2
 obtain rfl : args = #[v0, v1, v2] := by cases args; simp_all
 obtain ⟨rfl, rfl⟩ := trodVars_none hV
 obtain ⟨x, rfl, rfl, rfl, wx⟩ := open_int Tryz.underlying3 (hval 0 3 v0 rfl rfl) h0
 obtain ⟨y, rfl, rfl, rfl⟩ := Go.RowKit.open_bool Tryz.underlying4 (hval 1 4 v1 rfl rfl) h1
 obtain ⟨z, rfl, rfl, rfl, wz⟩ := open_int Tryz.underlying21 (hval 2 21 v2 rfl rfl) h2
 clear hA0
 refine (walk x (wf_i64 wx) y z (wf_i32 wz) W (spans_of hL) ).mono fun e W' ⟨he, hg⟩ => ?_
 subst he
 exact ⟨_, rfl, close rfl hW' ⟨rfl, rfl, rfl⟩ (by kernel_rfl) (by kernel_rfl) hg⟩
set_option maxRecDepth 100000 in
theorem laid_met (os : Os) : laidMet Tryz.prog Rows.escOscRow.laid ((laidWorld os).forCall (fun _ _ => 0) ⟨#[], #[.int .i64 0, .bool false, .int .i32 0], []⟩).memory :=
 laidMet_of_run' 8 (by kernel_rfl) (by kernel_rfl)
set_option maxRecDepth 100000 in
theorem reads (os : Os) {H : Type} (enc : TypeId × Value → H) : ∃ places, DataW.whole enc Tryz.prog ((laidWorld os).forCall (fun _ _ => 0) ⟨#[], #[.int .i64 0, .bool false, .int .i32 0], []⟩).memory Tryz.f3.params.toList Rows.escOscSpec.vars false (#[.int .i64 0, .bool false, .int .i32 0] : Array Value).toList 8 = some ([.lit (.int .i64 0), .lit (.bool false), .lit (.int .i32 0)], [], places) :=
 ⟨[], by kernel_rfl⟩
set_option maxRecDepth 100000 in
theorem lifted (os : Os) (started : os.Started) (H : Type) (enc : TypeId × Value → H) (F : Stop.Interp) :
  ReturnsInHanded {} Tryz.checked os 3 .any ((OpenSpec.ofChange Rows.escOscSpec).preRow enc Tryz.prog Tryz.f3 Rows.escOscRow.domain false Rows.escOscRow.laid) (((OpenSpec.ofChange Rows.escOscSpec).at F).post enc Tryz.prog Tryz.f3 false true false false) := by
 obtain ⟨places, hx⟩ := reads os enc
 refine returnsInHanded_of_row (C := Tryz.checked) (s := OpenSpec.ofChange Rows.escOscSpec) ownNone started (by kernel_rfl) Tryz.func3
  (witness_row_at (enc := enc) (C := Tryz.checked) false (laidWorld os) #[.int .i64 0, .bool false, .int .i32 0] rfl (by kernel_rfl) (by kernel_rfl) (by kernel_rfl)
   (OpenSpec.preRow_of_cond 8 hx (by kernel_rfl) (fun k hk => by cases hk) (by kernel_rfl) (laid_met os))) ?_
 intro W base args ds gs before hval hW _ _ _ hL _ _
 exact contract H enc W base args ds gs before hval hW hL
set_option maxRecDepth 100000 in
set_option maxHeartbeats 0 in
theorem facts : joinedFacts Tryz.checked.prog 3 Tryz.f3 (OpenSpec.ofChange Rows.escOscSpec).bare Rows.escOscRow = true := by
 have h1 := Sum.tables.1
 have h2 := Sum.tables.2.1
 have h3 := Sum.tables.2.2
 have h4 := Sum.mayEnter
 have e1 : Rows.escOscRow.lifted = Rows.rowSpanRow.lifted := by kernel_rfl
 have e2 : Rows.escOscRow.make = Rows.rowSpanRow.make := by kernel_rfl
 have h5 : (Rows.escOscRow.lifted == Tryz.checked.prog.liftsFinal) = true := by rw [e1]; exact Sum.lifts
 have h6 : (Tryz.checked.prog.make == some Rows.escOscRow.make) = true := by rw [e2]; exact Sum.make
 unfold joinedFacts
 repeat' (with_reducible refine Sum.and_mk ?_ ?_)
 all_goals first
  | with_reducible exact h1
  | with_reducible exact h2
  | with_reducible exact h4
  | with_reducible exact h5
  | with_reducible exact h6
  | (rw [h3]; as_aux_lemma => kernel_rfl)
  | (clear h1 h2 h3 h4 h5 h6 e1 e2; as_aux_lemma => kernel_rfl)
set_option maxRecDepth 100000 in
theorem said : Rows.EscOscSaid :=
 OpenClaim.holds_of_cond 3 Tryz.f3 rfl rfl rfl rfl rfl rfl rfl ⟨rfl, rfl, rfl, rfl, rfl⟩ rfl rfl rfl rfl rfl (by kernel_rfl) Tryz.func3 facts
  (of_decide_eq_true (by kernel_rfl)) (by unfold Func.isWrapper; first | (rw [if_pos (by decide +kernel)]; kernel_rfl) | (rw [if_neg (by decide +kernel)]; exact ⟨rfl, rfl⟩))
  (fun os started H enc _ F => by rw [OpenClaim.pre_eq_preRow]; exact lifted os started H enc F)
set_option maxRecDepth 100000 in
theorem plain (f : FuncId) (fn : Func) (hf : Tryz.pinned.checked.prog.funcNamed "rotulus/rotuluslaw7.EscOsc" = some f) (hfn : Tryz.pinned.checked.prog.funcs[f]? = some fn) :
  false = Tryz.pinned.checked.prog.looks [] ∧ ∀ (j : Nat) t, fn.params[j]? = some t → Tryz.pinned.checked.prog.wantsStandIn t = false := by
 obtain rfl : f = 3 := Option.some.inj ((show Tryz.prog.funcNamed "rotulus/rotuluslaw7.EscOsc" = some 3 by kernel_rfl).symm.trans hf) |>.symm
 obtain rfl : fn = Tryz.f3 := (Option.some.inj (Tryz.func3.symm.trans hfn)).symm
 refine ⟨by kernel_rfl, fun j t ht => ?_⟩
 rw [Tryz.params3] at ht
 have hm := Array.mem_of_getElem? ht
 simp at hm
 rcases hm with rfl | rfl | rfl
 ·exact (show Tryz.prog.wantsStandIn 3 = false by kernel_rfl)
 ·exact (show Tryz.prog.wantsStandIn 4 = false by kernel_rfl)
 ·exact (show Tryz.prog.wantsStandIn 21 = false by kernel_rfl)
set_option maxRecDepth 100000 in
theorem card : Rows.EscOscCardSaid :=
 Claim7.holds_tied_plain_at .later [] _ _ _ _ said (fun _ h => by cases h) (by kernel_rfl) (fun _ h => by cases h) escOsc_row_tie rfl ⟨rfl, rfl⟩ (by kernel_rfl) rfl plain (by kernel_rfl)
end Go.Proofs.YtaclmhopcfgbmaaGreatDoor.escOsc
