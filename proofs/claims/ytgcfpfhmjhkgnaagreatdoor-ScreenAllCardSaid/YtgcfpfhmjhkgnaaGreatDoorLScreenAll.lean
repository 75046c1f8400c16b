import Derived.Test.YtgcfpfhmjhkgnaaGreatDoorQSum0
import Derived.Test.YtgcfpfhmjhkgnaaGreatDoorQScr4
import Derived.Test.YtgcfpfhmjhkgnaaGreatDoorQBase10
import Derived.Test.YtgcfpfhmjhkgnaaGreatDoorQBase11
set_option maxRecDepth 100000
set_option maxHeartbeats 0
namespace Go.Proofs.YtgcfpfhmjhkgnaaGreatDoor.screenAll
open Go.ChangeShapes Go.WideShapes Go.ChangeAt Go.RowKit
open Sc Rw
theorem nums_take {w : World} {B n m : Nat} {A : Option Addr} {l : List Int} (h : Sq w B 1 n A (l.map (Value.int .i64))) (hm : m ≤ n) : Sq w B 1 m A ((l.take m).map (Value.int .i64)) := by
 have hl := h.size_ints
 refine ⟨by simp; omega, fun hn => ?_⟩
 obtain ⟨b, off, e, hb, hc⟩ := h.spot (by omega)
 refine ⟨b, off, e, hb, fun j u hu => hc j u ?_⟩
 rw [List.map_take, List.getElem?_take] at hu
 split at hu
 ·exact hu
 ·cases hu
theorem few_of {l : List Int} {m : Nat} (hl : l.length = m) (h : ∀ j, j < m → 0 ≤ nth l j ∧ nth l j ≤ 9999) : Few l := by
 intro x hx
 obtain ⟨j, hj, rfl⟩ := List.mem_iff_getElem.1 hx
 have := h j (by omega)
 rwa [nth_get hj] at this
structure Duo (w0 : World) (p g q g2 cap : Nat) (tail : List Value) (s : Scr) (xs ys : List RowIn) (W : World) : Prop where
 a : Wp w0 p g s xs W
 b : RAt W q g2 cap tail s ys
 q0 : w0.heap.size ≤ q
 h0 : w0.heap.size ≤ g2
 ng : g ≠ g2
def Two (w0 : World) (p q : Nat) (s : Scr) (W : World) : Prop := ∃ g g2 cap tail xs ys, Duo w0 p g q g2 cap tail s xs ys W
theorem Duo.laid {w0 W W' : World} {p g q g2 cap : Nat} {tail : List Value} {s : Scr} {xs ys : List RowIn} (H : Duo w0 p g q g2 cap tail s xs ys W) (b : Below W.heap.size W W') : Duo w0 p g q g2 cap tail s xs ys W' := ⟨H.a.laid b, H.b.laid b, H.q0, H.h0, H.ng⟩
theorem Two.laid {w0 W W' : World} {p q : Nat} {s : Scr} (H : Two w0 p q s W) (b : Below W.heap.size W W') : Two w0 p q s W' := let ⟨_, _, _, _, _, _, H⟩ := H; ⟨_, _, _, _, _, _, H.laid b⟩
theorem Two.old {w0 W : World} {p q : Nat} {s : Scr} (H : Two w0 p q s W) : Below w0.heap.size w0 W := let ⟨_, _, _, _, _, _, H⟩ := H; H.a.old
structure Half (w0 : World) (p q : Nat) (s s' : Scr) (v : Value) (R : List SR) (W : World) : Prop where
 ex : ∃ g g2 cap tail xs ys out B, Wp w0 p g s' xs W ∧ RAt W q g2 cap tail s ys ∧ w0.heap.size ≤ q ∧ w0.heap.size ≤ g2 ∧ g ≠ g2 ∧ RowsIn W B v out ∧ q < B ∧ g2 < B ∧ out.map sr = R ∧ ∀ y ∈ out, y.n ≤ 300
theorem Two.first {w0 W : World} {p q : Nat} {s : Scr} (H : Two w0 p q s W) (k r : Int) (A : Option Addr) (n c : Nat) (str : ByteArray) (l : List Int) (hr0 : -2147483648 ≤ r) (hr1 : r ≤ 2147483647) (hn : n ≤ 1000000) (hq : Sq w0 w0.heap.size 1 n A (l.map (Value.int .i64))) :
  Calls Tryz.prog 17 #[ptrS p, .agg #[.int .i64 k, .int .i32 r, .slice A n c, .string str]] W fun e W' => ∃ A8 m8 c8, e = .returned (.slice A8 m8 c8) ∧ Half w0 p q s (doS s k r l) (.slice A8 m8 c8) (doO s k r) W' ∧ ∀ b, Typed W 43 b → W'.heap[b]? = W.heap[b]? := by
 obtain ⟨g, g2, cap, tail, xs, ys, H⟩ := H
 have up : ∀ W', Below w0.heap.size w0 W' → Sq W' W'.heap.size 1 n A (l.map (Value.int .i64)) := fun W' b => (hq.below b).up b.size
 have stays : ∀ W' zs, Went W W' p g xs zs → Below w0.heap.size w0 W' := fun W' zs hw => H.a.old.trans (hw.turned.toBelow H.a.old.size (fun k hk m => by have := H.a.p0; have := H.a.g0; omega))
 refine (doAll_walk k r A n c str l W hr0 hr1 hn H.a.spans H.a.scr (fun W' zs hw => up W' (stays W' zs hw))).mono ?_
 rintro e W' ⟨v, out, xs', rfl, h1, h2, h3, h4, h5⟩
 obtain ⟨A8, c8, rfl, _⟩ := h3.shape
 have hb := H.b.kept h2.turned (fun m => by
  rcases m with e | e
  ·exact (H.b.typ.apart H.a.scr.typ (by decide)) e
  ·exact (H.b.typ.apart H.a.scr.tyg (by decide)) e) (fun m => by
  rcases m with e | e
  ·exact (H.b.tyg.apart H.a.scr.typ (by decide)) e
  ·exact H.ng e.symm) H.a.scr.noC
 refine ⟨A8, _, c8, rfl, ⟨g, g2, cap, tail, xs', ys, out, W.heap.size, H.a.step h1 h2, hb, H.q0, H.h0, H.ng, h3, H.b.ltp, H.b.ltg, h4, fun y hy => ?_⟩, fun b t => h2.turned.block b (by obtain ⟨_, _, t⟩ := t; exact (Array.getElem?_eq_some_iff.1 t).1) (fun m => by
  rcases m with e | e
  ·exact (t.apart H.a.scr.typ (by decide)) e
  ·exact (t.apart H.a.scr.tyg (by decide)) e)⟩
 rw [(h5 y hy).1]
 exact H.a.scr.ok.w3
theorem Half.second {w0 W : World} {p q : Nat} {s s' : Scr} {A8 : Option Addr} {m8 c8 : Nat} {R : List SR} (S : Spans w0) (H : Half w0 p q s s' (.slice A8 m8 c8) R W) (k r : Int) (A : Option Addr) (n c : Nat) (str : ByteArray) (l : List Int) (hr0 : -2147483648 ≤ r) (hr1 : r ≤ 2147483647) (hn : n ≤ 1000000) (hl : Few l) (hq : Sq w0 w0.heap.size 1 n A (l.map (Value.int .i64)))
  (es : s' = doS s k r l) (eR : R = doO s k r) (hR : R.length ≤ 1000000) :
  Calls Tryz.prog 19 #[ptrS q, .agg #[.int .i64 k, .int .i32 r, .slice A n c, .string str]] W fun e W' => ∃ (A9 : Option Addr) (m9 c9 : Nat) (out out' : List RowIn), e = .returned (.slice A9 m9 c9) ∧ Two w0 p q s' W' ∧ m8 = m9 ∧ m8 ≤ 1000000 ∧ Sc.Rd W' A8 m8 out ∧ Sc.Rd W' A9 m8 out' ∧ out.map sr = out'.map sr := by
 obtain ⟨g, g2, cap, tail, xs, ys, out, B, ha, hb, q0, h0, ng, hrow, hqB, hgB, hsr, h300⟩ := H.ex
 have low : ∀ W', Turned (fun k => k = q ∨ k = g2) W W' → Below w0.heap.size w0 W' := fun W' ht => ha.old.trans (ht.toBelow ha.old.size (fun k hk m => by omega))
 refine (rdo_walk k r A n c str l W hr0 hr1 hn hb hl (fun W' ht => (hq.below (low W' ht)).up (low W' ht).size)).mono ?_
 rintro e W' ⟨v, out', g', rfl, ⟨⟨cap', tail', ys', hb'⟩, ht, hfrom⟩, hrow', hsr', h300', _⟩
 obtain ⟨A9, c9, rfl, _⟩ := hrow'.shape
 have hl8 : out.length = m8 := by obtain ⟨_, _, e, _⟩ := hrow.shape; injection e with _ e _; exact e.symm
 have e8 : out.length = R.length := by rw [← hsr, List.length_map]
 have e9 : out'.length = R.length := by rw [eR, ← hsr', List.length_map]
 have hl9 : out'.length = m8 := by rw [e9, ← e8, hl8]
 have hm8 : m8 ≤ 1000000 := by rw [← hl8, e8]; exact hR
 have hrow2 := hrow.turned ht (fun k hk m => by have := (hrow.lt k hk).1; omega) hb.noC
 refine ⟨A9, _, c9, out, out', rfl, ⟨g, g', cap', tail', xs, ys', ⟨low W' ht, ha.p0, ha.g0, ha.scr.kept ht (fun m => by
  rcases m with e | e
  ·exact (ha.scr.typ.apart hb.typ (by decide)) e
  ·exact (ha.scr.typ.apart hb.tyg (by decide)) e) (fun m => by
  rcases m with e | e
  ·exact (ha.scr.tyg.apart hb.typ (by decide)) e
  ·exact ng e) hb.noC, S.below (low W' ht) S.size⟩, by rw [es]; exact hb', q0, ?_, ?_⟩, hl9.symm, hm8, ?_, ?_, by rw [hsr, hsr', eR]⟩
 ·rcases hfrom with e | e
  ·rw [e]; exact h0
  ·have := ha.old.size; omega
 ·rcases hfrom with e | e
  ·rw [e]; exact ng
  ·have := ha.scr.ltg; omega
 ·exact RowsIn.rd hrow2 (fun x hx => by have := h300 x hx; omega)
 ·have := RowsIn.rd hrow' (fun x hx => by have := h300' x hx; omega)
  rwa [hl9] at this
theorem Two.same {w0 W : World} {p q : Nat} {s : Scr} (H : Two w0 p q s W) : Calls Tryz.prog 20 #[ptrS p, ptrS q] W fun e W' => e = .returned (.bool true) ∧ Below W.heap.size W W' := by
 obtain ⟨g, g2, cap, tail, xs, ys, H⟩ := H
 exact same_walk W H.a.scr H.b
theorem walk (wd : Int) (hwd : -9223372036854775808 ≤ wd ∧ wd ≤ 9223372036854775807) (ht : Int) (hht : -9223372036854775808 ≤ ht ∧ ht ≤ 9223372036854775807) (A : Option Addr) (n c : Nat) (l : List EvIn) (_hc : n ≤ c) (_hm : c ≤ maxLen) (w : World) (hs : Spans w) (hr : ∀ r ∈ l, r.Ok w w.heap.size) (hq : Sq w w.heap.size 4 n A (l.flatMap EvIn.vals)) :
  Calls Tryz.prog 4 #[.int .i64 wd, .int .i64 ht, .slice A n c] w fun e w' => e = .returned (.bool true) ∧ Below w.heap.size w w' := by
 have S := Lib.hid hs
 have Q := Lib.hid hq
 have EV := Lib.hid hr
 have LN := Lib.hid (show l.length = n from by have := hq.len; rw [flatMap_len EvIn.vals 4 (fun _ => rfl)] at this; omega)
 clear hs hq hr
 obtain ⟨wd', hwd'⟩ : ∃ wd', (if 30 < wd then 30 else wd) = wd' := ⟨_, rfl⟩
 obtain ⟨ht', hht'⟩ : ∃ ht', (if 12 < ht then 12 else ht) = ht' := ⟨_, rfl⟩
 have HWD := Lib.hid hwd'
 have HHT := Lib.hid hht'
 clear hwd' hht'
 go_enter Tryz.func4, Tryz.ntmps4
 go_wp2_with fail
 refine (Bg.begun7_walk w S.out).mono ?_
 rintro e w1 ⟨rfl, b1⟩
 have B1 := Lib.hid b1
 have S1 := Lib.hid (S.out.below b1 S.out.size)
 clear b1
 go_upto_if 18 with fail
 go_cut [0] from 17 to 26 (fun s0 wx => s0 = .int .i64 wd' ∧ wx = w1)
 case first =>
  have e := HWD.out
  clear HWD HHT
  by_cases h30 : 30 < wd
  ·rw [if_pos h30] at e
   subst e
   go_wp2
   go_meet
   case rel => exact ⟨rfl, rfl⟩
  ·rw [if_neg h30] at e
   subst e
   go_wp2
   go_meet
   case rel => exact ⟨rfl, rfl⟩
 case rest =>
  obtain ⟨rfl, rfl⟩ := hcut
  go_upto_if 20 with fail
  go_cut [1] from 17 to 26 (fun s1 wx => s1 = .int .i64 ht' ∧ wx = wc)
  case first =>
   have e := HHT.out
   clear HWD HHT
   by_cases h12 : 12 < ht
   ·rw [if_pos h12] at e
    subst e
    go_wp2
    go_meet
    case rel => exact ⟨rfl, rfl⟩
   ·rw [if_neg h12] at e
    subst e
    go_wp2
    go_meet
    case rel => exact ⟨rfl, rfl⟩
  case rest =>
   obtain ⟨rfl, rfl⟩ := hcut
   clear HWD HHT
   go_wp2_with fail
   refine (Wp.new' (w0 := w) wd' ht' B1.out S1.out).mono ?_
   rintro e w2 ⟨p, g, xs, rfl, P2, _, _, b2⟩
   have X2 := Lib.hid P2
   clear P2 b2
   go_wp2_with fail
   refine (rnew_walk wd' ht' w2).mono ?_
   rintro e w3 ⟨q, g2, cap, tail, ys, rfl, R3, hq3, hg3, b3⟩
   have T3 := Lib.hid (show Two w p q (newS wd' ht') w3 from by
    have o := X2.out.old.size
    have lg := X2.out.scr.ltg
    exact ⟨g, g2, cap, tail, xs, ys, X2.out.laid b3, R3, by omega, by omega, by omega⟩)
   clear X2 R3 hq3 hg3 b3 S1 B1
   generalize newS wd' ht' = s0 at T3
   go_wp2_with fail
   go_loopw [10, 11, 12, 13] (fun v10 _ _ _ wr => ∃ (k : Nat) (s : Scr), v10 = .int .i64 (k : Int) ∧ k ≤ n ∧ k ≤ 100 ∧ Hid (Two w p q s wr)) (fun v10 _ _ _ _ => n - (intOf v10).toNat)
   case atStart => exact ⟨0, _, rfl, Nat.zero_le _, Nat.zero_le _, T3⟩
   case round =>
    obtain ⟨k, s, rfl, hk, hk100, TK⟩ := hrel
    clear T3
    by_cases hlt : k < n ∧ k < 100
    ·obtain ⟨hl1, hl2⟩ := hlt
     obtain ⟨ev, hev⟩ : ∃ ev, l[k]? = some ev := ⟨_, List.getElem?_eq_getElem (by rw [LN.out]; exact hl1)⟩
     have ok := EV.out ev (List.mem_of_getElem? hev)
     obtain ⟨b, off, rfl, hblt, c0, c1, c2, c3⟩ := ev_at (Q.out.below TK.out.old) hev hl1
     obtain ⟨ek, er, eA, en, ec, el, et⟩ := ev
     dsimp only at c0 c1 c2 c3
     have hinc : IntKind.i64.wrap ((k : Int) + 1) = (k : Int) + 1 := IntWalk.i64_in _ (by omega)
     have hk0 : (0 : Int) ≤ (k : Int) := by omega
     have hkn : (k : Int) < (n : Int) := by omega
     have hk3 : (k : Int) < 100 := by omega
     obtain ⟨m, hm⟩ : ∃ m : Nat, min (en : Int) 10 = (m : Int) := ⟨min en 10, by omega⟩
     have hmn : m ≤ en := by omega
     have hm10 : m ≤ 10 := by omega
     have hle : en ≤ ec := ok.le
     have hr0 : -2147483648 ≤ er := ok.r0
     have hr1 : er ≤ 2147483647 := ok.r1
     have QA0 := nums_take (show Sq w w.heap.size 1 en eA (el.map (Value.int .i64)) from ok.sq) hmn
     obtain ⟨ea, hea⟩ : ∃ ea, el.take m = ea := ⟨_, rfl⟩
     rw [hea] at QA0
     have LA := Lib.hid QA0.size_ints
     have QA := Lib.hid QA0
     clear QA0 hea
     clear ok hev
     obtain ⟨b11, hb11⟩ : ∃ b11, wr.heap.size = b11 := ⟨_, rfl⟩
     obtain ⟨w4, hw4⟩ : ∃ w4, wr.alloc (.cells #[.int .i64 ek, .int .i32 er, .slice eA en ec, .string et] 43) = w4 := ⟨_, rfl⟩
     have b4 : Below wr.heap.size wr w4 := by rw [← hw4]; exact (Below.refl _ _).alloc (Nat.le_refl _) _
     have r4 : w4.heap[b11]? = some (.cells #[.int .i64 ek, .int .i32 er, .slice eA en ec, .string et] 43 (0, 0)) := by rw [← hw4, ← hb11]; exact heap_alloc_new wr _
     have d0 : w4.cell? ⟨b11, 2, none⟩ = some (.slice eA en ec) := cell_of_row _ b11 2 _ _ (0, 0) r4
     have HB := Lib.hid hb11
     have HW := Lib.hid hw4
     have R4 := Lib.hid r4
     have T4 := Lib.hid (TK.out.laid b4)
     have HM := Lib.hid hm
     have B11 := Lib.hid (show w.heap.size ≤ b11 from by rw [← hb11]; exact TK.out.old.size)
     clear hb11 hw4 b4 r4 TK
     go_upto_region 13 with fail
     rw [HB.out]
     first
      | rw [HW.out]
      | (change Code.wp _ _ _ _ (wr.alloc (.cells #[.int .i64 ek, .int .i32 er, .slice eA en ec, .string et] 43)); rw [HW.out])
     clear HB HW c0 c1 c2 c3
     obtain ⟨w5, hw5⟩ : ∃ w5, w4.setCell ⟨b11, 2, none⟩ (.slice eA m ec) = w5 := ⟨_, rfl⟩
     have hfr : w4.frozen? ⟨b11, 2, none⟩ = false := frozen_of_row w4 b11 2 _ _ R4.out
     have hmec : (m : Int) ≤ (ec : Int) := by omega
     have hm0 : (0 : Int) ≤ (m : Int) := by omega
     have r5 : w5.heap[b11]? = some (.cells #[.int .i64 ek, .int .i32 er, .slice eA m ec, .string et] 43 (0, 0)) := by rw [← hw5]; exact heap_setCell_same w4 b11 2 _ _ _ R4.out
     have t5 : Two w p q s w5 := by
      obtain ⟨g', g2', cap', tail', xs', ys', H⟩ := T4.out
      have ht := Turned.ofCell b11 2 w4 (.slice eA m ec)
      have ty : Typed w4 43 b11 := ⟨_, _, R4.out⟩
      have hno : ∀ k, k = b11 → ¬ Typed w4 33 k := fun k e t => (t.apart ty (by decide)) e
      have old := H.a.old.trans (ht.toBelow H.a.old.size (fun k hk m => by have := B11.out; omega))
      rw [hw5] at ht old
      exact ⟨g', g2', cap', tail', xs', ys', ⟨old, H.a.p0, H.a.g0, H.a.scr.kept ht (H.a.scr.typ.apart ty (by decide)) (H.a.scr.tyg.apart ty (by decide)) hno, S.out.below old S.out.size⟩, H.b.kept ht (H.b.typ.apart ty (by decide)) (H.b.tyg.apart ty (by decide)) hno, H.q0, H.h0, H.ng⟩
     have T5 := Lib.hid t5
     have R5 := Lib.hid r5
     have HW5 := Lib.hid hw5
     clear hw5 r5 t5 T4 R4
     have hmin := HM.out
     clear HM
     go_upto_region 14 with fail
     rw [HW5.out]
     clear HW5 hfr d0 hmin
     have q2 : w5.cell? ⟨b11, 2, none⟩ = some (.slice eA m ec) := cell_of_row _ b11 2 _ _ (0, 0) R5.out
     go_wp2_with fail
     go_loopw [12] (fun v12 wx => ∃ j : Nat, v12 = .int .i64 (j : Int) ∧ j ≤ m ∧ wx = w5 ∧ Hid (∀ i, i < j → 0 ≤ nth ea i ∧ nth ea i ≤ 9999)) (fun v12 _ => m - (intOf v12).toNat)
     case atStart => exact ⟨0, rfl, Nat.zero_le _, rfl, Lib.hid (fun i h => absurd h (Nat.not_lt_zero _))⟩
     case round =>
      obtain ⟨j, rfl, hj, rfl, FJ⟩ := hrel
      by_cases hjm : j < m
      ·obtain ⟨ba, oa, rfl, _, ca⟩ := (QA.out.below T5.out.old).int_at hjm
       obtain ⟨x, hx⟩ : ∃ x, nth ea j = x := ⟨_, rfl⟩
       rw [hx] at ca
       have HX := Lib.hid hx
       have hinc2 : IntKind.i64.wrap ((j : Int) + 1) = (j : Int) + 1 := IntWalk.i64_in _ (by omega)
       have hj0 : (0 : Int) ≤ (j : Int) := by omega
       have hjm' : (j : Int) < (m : Int) := by omega
       have OL := Lib.hid T5.out.old
       clear hx
       by_cases x0 : x < 0
       ·go_wp2
        go_ret
        exact ⟨rfl, OL.out⟩
       ·by_cases x9 : 9999 < x
        ·go_wp2
         go_ret
         exact ⟨rfl, OL.out⟩
        ·go_wp2
         go_roundw
         case rel => exact ⟨j + 1, by first | rfl | (congr 1; done) | (congr 1; omega), by omega, by first | trivial | rfl, Lib.hid (fun i hi => by
          rcases Nat.lt_succ_iff_lt_or_eq.1 hi with h | rfl
          ·exact FJ.out i h
          ·rw [HX.out]; omega)⟩
         case measure => first | (simp [intOf]; done) | (simp [intOf]; omega)
      ·obtain rfl : j = m := by omega
       have hjj : ¬ (j : Int) < (j : Int) := by omega
       have q0 : wr.cell? ⟨b11, 0, none⟩ = some (.int .i64 ek) := cell_of_row _ b11 0 _ _ (0, 0) R5.out
       have q1 : wr.cell? ⟨b11, 1, none⟩ = some (.int .i32 er) := cell_of_row _ b11 1 _ _ (0, 0) R5.out
       have q3 : wr.cell? ⟨b11, 3, none⟩ = some (.string et) := cell_of_row _ b11 3 _ _ (0, 0) R5.out
       have FW := Lib.hid (few_of LA.out FJ.out)
       have FST := Lib.hid (T5.out.first ek er eA j ec et ea hr0 hr1 (by omega) QA.out)
       have HR := Lib.hid (show (doO s ek er).length ≤ 1000000 from by have := doO_len s ek er; omega)
       have TY := Lib.hid (show Typed wr 43 b11 from ⟨_, _, R5.out⟩)
       clear FJ LA T5
       go_wp2_with fail
       refine FST.out.mono ?_
       rintro e w6 ⟨A8, m8, c8, rfl, h6, k6⟩
       have R6 := Lib.hid ((k6 b11 TY.out).trans R5.out)
       clear FST k6 R5 q0 q1 q2 q3 TY
       have q0 : w6.cell? ⟨b11, 0, none⟩ = some (.int .i64 ek) := cell_of_row _ b11 0 _ _ (0, 0) R6.out
       have q1 : w6.cell? ⟨b11, 1, none⟩ = some (.int .i32 er) := cell_of_row _ b11 1 _ _ (0, 0) R6.out
       have q2 : w6.cell? ⟨b11, 2, none⟩ = some (.slice eA j ec) := cell_of_row _ b11 2 _ _ (0, 0) R6.out
       have q3 : w6.cell? ⟨b11, 3, none⟩ = some (.string et) := cell_of_row _ b11 3 _ _ (0, 0) R6.out
       have SND := Lib.hid (h6.second S.out ek er eA j ec et ea hr0 hr1 (by omega) FW.out QA.out rfl rfl HR.out)
       generalize doS s ek er ea = s7 at SND
       clear h6 HR FW QA
       go_wp2_with fail
       refine SND.out.mono ?_
       rintro e w7 ⟨A9, m9, c9, out, out', rfl, t7, rfl, hm8, rd8, rd9, hsr⟩
       have T7 := Lib.hid t7
       have EQ := Lib.hid (eqRows_walk A8 A9 m8 c8 c9 out out' w7 hm8 rd8 rd9 hsr)
       clear SND t7 rd8 rd9 hsr q0 q1 q2 q3 R6
       go_wp2_with fail
       refine EQ.out.mono ?_
       rintro e w8 ⟨rfl, b8⟩
       have T8 := Lib.hid (T7.out.laid b8)
       have SM := Lib.hid T8.out.same
       clear EQ b8 T7
       go_wp2_with fail
       refine SM.out.mono ?_
       rintro e w9 ⟨rfl, b9⟩
       have T9 := Lib.hid (T8.out.laid b9)
       clear SM b9 T8
       go_wp2
       go_roundw
       case rel => exact ⟨k + 1, s7, by first | rfl | (congr 1; done) | (congr 1; omega), by omega, by omega, T9⟩
       case measure => first | (simp [intOf]; done) | (simp [intOf]; omega)
    ·have OL := Lib.hid TK.out.old
     clear TK
     by_cases g1 : k < n
     ·have g2 : ¬ ((k : Int) < 100) := by omega
      have g3 : (k : Int) < (n : Int) := by omega
      clear hlt
      go_wp2
      go_ret
      exact ⟨rfl, OL.out⟩
     ·have g3 : ¬ ((k : Int) < (n : Int)) := by omega
      clear hlt
      go_wp2
      go_ret
      exact ⟨rfl, OL.out⟩
theorem contract (H : Type) (enc : TypeId × Value → H) (W : World) (base : Nat) (args : Array Value) (ds gs : List (DataW H)) (before : List MemPlace)
  (hval : ∀ (j : Nat) t v, Tryz.f4.params[j]? = some t → args[j]? = some v → Value.okWide Tryz.prog W .any base t v)
  (hW : DataW.Whole enc Tryz.prog Tryz.f4.params.toList Rows.screenAllSpec.vars false W args.toList ds gs before) (hL : laidMetH Tryz.prog Rows.screenAllRow.laid W) :
  Calls Tryz.prog 4 args W fun e W' => ∃ v, e = .returned v ∧ Rows.screenAllSpec.post enc Tryz.prog Tryz.f4 false true false false W args v W' := by
 have hW' := hW
 obtain ⟨p, q, hA0, hV, rfl, hfz, hnd⟩ := hW
 have hA : DataW.TrodAll enc Tryz.prog W 0 (fun _ => true) true Tryz.f4.params.toList args.toList ds p := hA0
 rw [Tryz.params4] at hA hval
 obtain ⟨v0, vs0, d0, ds0, p0, q0, hargs, rfl, rfl, h0, r0⟩ := trodAll_cons hA
 obtain ⟨v1, vs1, d1, ds1, p1, q1, rfl, rfl, rfl, h1, r1⟩ := trodAll_cons r0
 obtain ⟨v2, vs2, d2, ds2, p2, q2, rfl, rfl, rfl, h2, r2⟩ := trodAll_cons r1
 obtain ⟨rfl, rfl, rfl⟩ := trodAll_nil r2
 obtain rfl : args = #[v0, v1, v2] := by cases args; simp_all
 obtain ⟨rfl, rfl⟩ := trodVars_none hV
 obtain ⟨x, rfl, rfl, rfl, wx⟩ := open_int Tryz.underlying3 (hval 0 3 v0 rfl rfl) h0
 obtain ⟨y, rfl, rfl, rfl, wy⟩ := open_int Tryz.underlying3 (hval 1 3 v1 rfl rfl) h1
 obtain ⟨Az, nz, cz, z, rfl, hcz, hmz, hrz, hqz⟩ := open_events (hval 2 36 v2 rfl rfl) h2
 clear hA0
 refine (walk x (wf_i64 wx) y (wf_i64 wy) Az nz cz z hcz hmz W (spans_of hL) hrz hqz).mono fun e W' ⟨he, hg⟩ => ?_
 subst he
 exact ⟨_, rfl, close rfl hW' ⟨rfl, rfl, rfl⟩ (by kernel_rfl) (by kernel_rfl) hg⟩
theorem laid_met (os : Os) : laidMet Tryz.prog Rows.screenAllRow.laid ((laidWorld os).forCall (fun _ _ => 0) ⟨#[], #[.int .i64 0, .int .i64 0, .slice none 0 0], []⟩).memory :=
 laidMet_of_run' 8 (by kernel_rfl) (by kernel_rfl)
theorem reads (os : Os) {H : Type} (enc : TypeId × Value → H) : ∃ places, DataW.whole enc Tryz.prog ((laidWorld os).forCall (fun _ _ => 0) ⟨#[], #[.int .i64 0, .int .i64 0, .slice none 0 0], []⟩).memory Tryz.f4.params.toList Rows.screenAllSpec.vars false (#[.int .i64 0, .int .i64 0, .slice none 0 0] : Array Value).toList 8 = some ([.lit (.int .i64 0), .lit (.int .i64 0), .nil], [], places) :=
 ⟨[], by kernel_rfl⟩
theorem lifted (os : Os) (started : os.Started) (H : Type) (enc : TypeId × Value → H) (F : Stop.Interp) :
  ReturnsInHanded {} Tryz.checked os 4 .any ((OpenSpec.ofChange Rows.screenAllSpec).preRow enc Tryz.prog Tryz.f4 Rows.screenAllRow.domain false Rows.screenAllRow.laid) (((OpenSpec.ofChange Rows.screenAllSpec).at F).post enc Tryz.prog Tryz.f4 false true false false) := by
 obtain ⟨places, hx⟩ := reads os enc
 refine returnsInHanded_of_row (C := Tryz.checked) (s := OpenSpec.ofChange Rows.screenAllSpec) ownNone started (by kernel_rfl) Tryz.func4
  (witness_row_at (enc := enc) (C := Tryz.checked) false (laidWorld os) #[.int .i64 0, .int .i64 0, .slice none 0 0] rfl (by kernel_rfl) (by kernel_rfl) (by kernel_rfl)
   (OpenSpec.preRow_of_cond 8 hx (by kernel_rfl) (fun k hk => by cases hk) (by kernel_rfl) (laid_met os))) ?_
 intro W base args ds gs before hval hW _ _ _ hL _ _
 exact contract H enc W base args ds gs before hval hW hL
theorem facts : joinedFacts Tryz.checked.prog 4 Tryz.f4 (OpenSpec.ofChange Rows.screenAllSpec).bare Rows.screenAllRow = true := by
 have h1 := Sum.tables.1
 have h2 := Sum.tables.2.1
 have h3 := Sum.tables.2.2
 have h4 := Sum.mayEnter
 have e1 : Rows.screenAllRow.lifted = Rows.rowOwnRow.lifted := by kernel_rfl
 have e2 : Rows.screenAllRow.make = Rows.rowOwnRow.make := by kernel_rfl
 have h5 : (Rows.screenAllRow.lifted == Tryz.checked.prog.liftsFinal) = true := by rw [e1]; exact Sum.lifts
 have h6 : (Tryz.checked.prog.make == some Rows.screenAllRow.make) = true := by rw [e2]; exact Sum.make
 unfold joinedFacts
 repeat' (with_reducible refine Sum.and_mk ?_ ?_)
 all_goals first
  | with_reducible exact h1
  | with_reducible exact h2
  | with_reducible exact h4
  | with_reducible exact h5
  | with_reducible exact h6
  | (rw [h3]; as_aux_lemma => kernel_rfl)
  | (clear h1 h2 h3 h4 h5 h6 e1 e2; as_aux_lemma => kernel_rfl)
theorem said : Rows.ScreenAllSaid :=
 OpenClaim.holds_of_cond 4 Tryz.f4 rfl rfl rfl rfl rfl rfl rfl ⟨rfl, rfl, rfl, rfl, rfl⟩ rfl rfl rfl rfl rfl (by kernel_rfl) Tryz.func4 facts
  (of_decide_eq_true (by kernel_rfl)) (by unfold Func.isWrapper; first | (rw [if_pos (by decide +kernel)]; kernel_rfl) | (rw [if_neg (by decide +kernel)]; exact ⟨rfl, rfl⟩))
  (fun os started H enc _ F => by rw [OpenClaim.pre_eq_preRow]; exact lifted os started H enc F)
theorem plain (f : FuncId) (fn : Func) (hf : Tryz.pinned.checked.prog.funcNamed "rotulus/rotuluslaw7.ScreenAll" = some f) (hfn : Tryz.pinned.checked.prog.funcs[f]? = some fn) :
  false = Tryz.pinned.checked.prog.looks [] ∧ ∀ (j : Nat) t, fn.params[j]? = some t → Tryz.pinned.checked.prog.wantsStandIn t = false := by
 obtain rfl : f = 4 := Option.some.inj ((show Tryz.prog.funcNamed "rotulus/rotuluslaw7.ScreenAll" = some 4 by kernel_rfl).symm.trans hf) |>.symm
 obtain rfl : fn = Tryz.f4 := (Option.some.inj (Tryz.func4.symm.trans hfn)).symm
 refine ⟨by kernel_rfl, fun j t ht => ?_⟩
 rw [Tryz.params4] at ht
 have hm := Array.mem_of_getElem? ht
 simp at hm
 rcases hm with rfl | rfl
 ·exact (show Tryz.prog.wantsStandIn 3 = false by kernel_rfl)
 ·exact (show Tryz.prog.wantsStandIn 36 = false by kernel_rfl)
theorem card : Rows.ScreenAllCardSaid :=
 Claim7.holds_tied_plain_at .later [] _ _ _ _ said (fun _ h => by cases h) (by kernel_rfl) (fun _ h => by cases h) screenAll_row_tie rfl ⟨rfl, rfl⟩ (by kernel_rfl) rfl plain (by kernel_rfl)
end Go.Proofs.YtgcfpfhmjhkgnaaGreatDoor.screenAll
