import Derived.Test.YtmpoboffdfcpiaaGreatDoorQEv8
import Derived.Test.YtmpoboffdfcpiaaGreatDoorQBase10
import Derived.Test.YtmpoboffdfcpiaaGreatDoorQBase12
set_option maxRecDepth 100000
set_option maxHeartbeats 0
namespace Go.Proofs.YtmpoboffdfcpiaaGreatDoor.screenOf
open Go.ChangeShapes Go.WideShapes Go.ChangeAt Go.RowKit
open Sc Rw
theorem rows_cut {w : World} {B n m : Nat} {A : Option Addr} {l : List RowIn} (h : Sq w B 2 n A (l.flatMap RowIn.vals)) (hm : m ≤ n) : Sq w B 2 m A ((l.take m).flatMap RowIn.vals) := by
 have hl := h.len
 rw [vals_length] at hl
 refine ⟨by rw [vals_length, List.length_take]; omega, fun hn => ?_⟩
 obtain ⟨b, off, e, hb, hc⟩ := h.spot (by omega)
 refine ⟨b, off, e, hb, fun j u hu => hc j u ?_⟩
 have e2 : l.flatMap RowIn.vals = (l.take m).flatMap RowIn.vals ++ (l.drop m).flatMap RowIn.vals := by rw [← List.flatMap_append, List.take_append_drop]
 rw [e2, List.getElem?_append_left (List.getElem?_eq_some_iff.1 hu).1]
 exact hu
theorem walk (A : Option Addr) (n c : Nat) (l : List RowIn) (hc : n ≤ c) (_hm : c ≤ maxLen) (wd : Int) (_hwd : -9223372036854775808 ≤ wd ∧ wd ≤ 9223372036854775807) (ht : Int) (_hht : -9223372036854775808 ≤ ht ∧ ht ≤ 9223372036854775807)
  (ar ac : Int) (_har : -9223372036854775808 ≤ ar ∧ ar ≤ 9223372036854775807) (_hac : -9223372036854775808 ≤ ac ∧ ac ≤ 9223372036854775807) (at' : Int) (_hat : -9223372036854775808 ≤ at' ∧ at' ≤ 9223372036854775807) (e : EvIn) (w : World) (hs : Spans w) (hr : ∀ r ∈ l, r.Ok w w.heap.size) (hq : Sq w w.heap.size 2 n A (l.flatMap RowIn.vals)) (he : e.Ok w w.heap.size) :
  Calls Tryz.prog 3 #[.slice A n c, .int .i64 wd, .int .i64 ht, .agg #[.int .i64 ar, .int .i64 ac], .int .i64 at', .agg e.vals.toArray] w fun e' w' => e' = .returned (.bool true) ∧ Below w.heap.size w w' := by
 obtain ⟨ek, er, eA, en, ec, el, et⟩ := e
 have hr0 : -2147483648 ≤ er := he.r0
 have hr1 : er ≤ 2147483647 := he.r1
 have hel : el.length = en := by have h : Sq w w.heap.size 1 en eA (el.map (Value.int .i64)) := he.sq; exact h.size_ints
 have S := Lib.hid hs
 obtain ⟨m, hm⟩ : ∃ m : Nat, min (n : Int) 20 = (m : Int) := ⟨min n 20, by omega⟩
 have hmn : m ≤ n := by omega
 have hm20 : m ≤ 20 := by omega
 have hmc : (m : Int) ≤ (c : Int) := by omega
 have hm0 : (0 : Int) ≤ (m : Int) := by omega
 have Q := Lib.hid (rows_cut hq hmn)
 have RS := Lib.hid (fun r hr' => hr r (List.mem_of_mem_take (i := m) hr'))
 have EL := Lib.hid hel
 have EQS := Lib.hid (show Sq w w.heap.size 1 en eA (el.map (Value.int .i64)) from he.sq)
 generalize l.take m = rs at Q RS
 have HM := Lib.hid hm
 clear hs hr hq he hel hm
 show Calls Tryz.prog 3 #[.slice A n c, .int .i64 wd, .int .i64 ht, .agg #[.int .i64 ar, .int .i64 ac], .int .i64 at', .agg #[.int .i64 ek, .int .i32 er, .slice eA en ec, .string et]] w _
 obtain ⟨b9, hb9⟩ : ∃ b9, w.heap.size = b9 := ⟨_, rfl⟩
 obtain ⟨b11, hb11⟩ : ∃ b11, b9 + 1 = b11 := ⟨_, rfl⟩
 obtain ⟨wb, hwb⟩ : ∃ wb, (w.alloc (.cells #[.int .i64 ar, .int .i64 ac] 24)).alloc (.cells #[.int .i64 ek, .int .i32 er, .slice eA en ec, .string et] 27) = wb := ⟨_, rfl⟩
 have BB := Lib.hid (show Below w.heap.size w wb from by rw [← hwb]; exact ((Below.refl _ _).alloc (Nat.le_refl _) _).alloc (by simp) _)
 have Q9 := Lib.hid (show wb.heap[b9]? = some (.cells #[.int .i64 ar, .int .i64 ac] 24 (0, 0)) from by
  rw [← hwb, ← hb9]
  exact (Below.heap_alloc _ _ _ (by simp)).trans (heap_alloc_new w _))
 have Q11 := Lib.hid (show wb.heap[b11]? = some (.cells #[.int .i64 ek, .int .i32 er, .slice eA en ec, .string et] 27 (0, 0)) from by
  have := heap_alloc_new (w.alloc (.cells #[.int .i64 ar, .int .i64 ac] 24)) (.cells #[.int .i64 ek, .int .i32 er, .slice eA en ec, .string et] 27)
  rw [hwb, show (w.alloc (.cells #[.int .i64 ar, .int .i64 ac] 24)).heap.size = b11 by simp [hb9, hb11]] at this
  exact this)
 have HB9 := Lib.hid hb9
 have HB11 := Lib.hid hb11
 have HWB := Lib.hid hwb
 clear hb9 hb11 hwb
 go_enter Tryz.func3, Tryz.ntmps3
 go_upto_region 1 with fail
 rw [HB9.out, HB11.out]
 first
  | rw [HWB.out]
  | (change Code.wp _ _ _ _ ((w.alloc (.cells #[.int .i64 ar, .int .i64 ac] 24)).alloc (.cells #[.int .i64 ek, .int .i32 er, .slice eA en ec, .string et] 27)); rw [HWB.out])
 clear HWB
 go_wp2_with fail
 refine (Ev.Trues.at Ev.begun7l wb (S.out.below BB.out S.out.size)).mono ?_
 rintro e w1 ⟨rfl, b1⟩
 have B1 := Lib.hid (BB.out.trans (b1.mono BB.out.size))
 have l9 : b9 < wb.heap.size := (Array.getElem?_eq_some_iff.1 Q9.out).1
 have l11 : b11 < wb.heap.size := (Array.getElem?_eq_some_iff.1 Q11.out).1
 have P9 := Lib.hid (show w1.heap[b9]? = some (.cells #[.int .i64 ar, .int .i64 ac] 24 (0, 0)) from (b1.block b9 l9).trans Q9.out)
 have P11 := Lib.hid (show w1.heap[b11]? = some (.cells #[.int .i64 ek, .int .i32 er, .slice eA en ec, .string et] 27 (0, 0)) from (b1.block b11 l11).trans Q11.out)
 have z2 : w1.cell? ⟨b11, 2, none⟩ = some (.slice eA en ec) := cell_of_row _ b11 2 _ _ (0, 0) P11.out
 have hmin := HM.out
 clear b1 Q9 Q11 l9 l11 BB HM
 go_upto_region 5 with fail
 clear hmin
 by_cases g1 : 40 < wd
 ·go_wp2
  go_ret
  exact ⟨rfl, B1.out⟩
 ·by_cases g2 : 20 < ht
  ·go_wp2
   go_ret
   exact ⟨rfl, B1.out⟩
  ·by_cases g3 : 0 < en
   ·have g4 : (0 : Int) < (en : Int) := by omega
    go_wp2
    go_ret
    exact ⟨rfl, B1.out⟩
   ·have g4 : ¬ (0 : Int) < (en : Int) := by omega
    go_upto_region 7 with fail
    have B7 : Below w.heap.size w w1.drew := B1.out.drew
    have S7 := Lib.hid (S.out.below B7 S.out.size)
    have l9 : b9 < w1.heap.size := (Array.getElem?_eq_some_iff.1 P9.out).1
    have l11 : b11 < w1.heap.size := (Array.getElem?_eq_some_iff.1 P11.out).1
    obtain ⟨s0, hs0⟩ : ∃ s0, ofS (rs.map sr) wd ht ar ac at' = s0 := ⟨_, rfl⟩
    have bx : ∀ (W : World) (j : Nat), Below w1.drew.heap.size w1.drew W → W.cell? ⟨b9, j, none⟩ = (#[Value.int .i64 ar, .int .i64 ac])[j]? := fun W j b => cell_of_row W b9 j _ _ (0, 0) ((b.block b9 l9).trans P9.out)
    refine Ord.start (S := fun W => Below w1.drew.heap.size w1.drew W) (n := 14) (by kernel_rfl) (by kernel_rfl) (Below.refl _ _) ?_
    apply ofTwo_region (w1 := w1.drew) (A := A) (n := m) (c := c) (b9 := b9) (wd := wd) (ht := ht) (t := at') (r := ar) (cc := ac) (p3 := .agg #[.int .i64 ar, .int .i64 ac]) (p5 := .agg #[.int .i64 ek, .int .i32 er, .slice eA en ec, .string et]) (p6 := undef) (p7 := undef) (p8 := undef) (p10 := undef) (p11 := .pointer (some ⟨b11, 0, none⟩)) (p12 := .bool false) (p13 := .bool true) (p16 := undef) (p17 := .bool true) (p18 := .bool true) (p19 := .bool false) (p20 := .slice A n c) (p21 := .slice A n c) (p22 := .int .i64 (n : Int)) (p23 := .int .i64 (m : Int)) (p24 := .slice A m c) (p25 := .int .i64 wd) (p26 := .bool false) (p27 := .bool false) (p28 := .int .i64 ht) (p29 := .bool false) (p30 := .bool false) (p31 := .bool false) (p32 := .pointer (some ⟨b11, 2, none⟩)) (p33 := .slice eA en ec) (p34 := .int .i64 (en : Int)) (p35 := .bool false) (p36 := .bool false) (p49 := undef) (p50 := undef) (p51 := undef) (p52 := undef) (p53 := undef) (p54 := undef) (p55 := undef) (p56 := undef) (p57 := undef) (p58 := undef) (p59 := undef) (p60 := undef) (p61 := undef) (p62 := undef) (p63 := undef) (p64 := undef) (p65 := undef)
     (P1 := fun W p => ∃ g xs, Wp w p g s0 xs W ∧ Below w1.drew.heap.size w1.drew W) (P2 := fun W p q => Two w p q s0 W ∧ Below w1.drew.heap.size w1.drew W)
    case R => exact ⟨by kernel_rfl, by kernel_rfl⟩
    case hQ => exact fun _ _ _ _ _ h => h
    case k0 => exact fun W b => bx W 0 b
    case k1 => exact fun W b => bx W 1 b
    case C1 =>
     refine (Sc.of_walk A m c rs wd ht ar ac at' w1.drew S7.out (fun r hr' => ((RS.out r hr').below B7).up B7.size) ((Q.out.below B7).up B7.size)).mono ?_
     rintro e W' ⟨p, g, xs, rfl, h1, hp, hg, _, b⟩
     rw [hs0] at h1
     exact ⟨p, rfl, g, xs, ⟨B7.trans (b.mono B7.size), Nat.le_trans B7.size hp, Nat.le_trans B7.size hg, h1, S7.out.below b S7.out.size⟩, b⟩
    case C2 =>
     rintro W p ⟨g, xs, h1, b⟩
     refine (rof_walk A m c rs wd ht ar ac at' W (fun r hr' => ((RS.out r hr').below h1.old).up h1.old.size) ((Q.out.below h1.old).up h1.old.size) (by omega)).mono ?_
     rintro e W' ⟨q, g2, cap, tail, ys, rfl, h2, hq2, hg2, b2⟩
     rw [hs0] at h2
     have o := h1.old.size
     have lg := h1.scr.ltg
     exact ⟨q, rfl, ⟨g, g2, cap, tail, xs, ys, h1.laid b2, h2, by omega, by omega, by omega⟩, b.trans (b2.mono b.size)⟩
    case KS1 => exact fun W p ⟨_, _, _, b⟩ => b
    case KS2 => exact fun W p q ⟨_, b⟩ => b
    case F => constructor <;> rfl
    rintro a w2 p q ⟨t2, b2⟩ F2 f14 f15
    refine ofTwo_frame F2.size F2.defers F2.s0 F2.s1 F2.s2 F2.s3 F2.s4 F2.s5 F2.s6 F2.s7 F2.s8 F2.s9 F2.s10 F2.s11 F2.s12 F2.s13 f14 f15 F2.s16 F2.s17 F2.s18 F2.s19 F2.s20 F2.s21 F2.s22 F2.s23 F2.s24 F2.s25 F2.s26 F2.s27 F2.s28 F2.s29 F2.s30 F2.s31 F2.s32 F2.s33 F2.s34 F2.s35 F2.s36 F2.s49 F2.s50 F2.s51 F2.s52 F2.s53 F2.s54 F2.s55 F2.s56 F2.s57 F2.s58 F2.s59 F2.s60 F2.s61 F2.s62 F2.s63 F2.s64 F2.s65 ?_
    have T2 := Lib.hid t2
    have E2 := Lib.hid (show w2.heap[b11]? = some (.cells #[.int .i64 ek, .int .i32 er, .slice eA en ec, .string et] 27 (0, 0)) from (b2.block b11 l11).trans P11.out)
    obtain rfl : en = 0 := by omega
    obtain rfl : el = [] := List.length_eq_zero_iff.1 EL.out
    clear F2 f14 f15 t2 b2 bx hs0 l9 l11 S7 B7 P9 P11 z2
    intros
    try dsimp only
    have SM := Lib.hid T2.out.same
    go_wp2_with fail
    refine SM.out.mono ?_
    rintro e w3 ⟨rfl, b3⟩
    have T3 := Lib.hid (T2.out.laid b3)
    have E3 := Lib.hid ((b3.block b11 (Array.getElem?_eq_some_iff.1 E2.out).1).trans E2.out)
    clear SM b3 T2 E2
    have q0 : w3.cell? ⟨b11, 0, none⟩ = some (.int .i64 ek) := cell_of_row _ b11 0 _ _ (0, 0) E3.out
    have q1 : w3.cell? ⟨b11, 1, none⟩ = some (.int .i32 er) := cell_of_row _ b11 1 _ _ (0, 0) E3.out
    have q2 : w3.cell? ⟨b11, 2, none⟩ = some (.slice eA 0 ec) := cell_of_row _ b11 2 _ _ (0, 0) E3.out
    have q3 : w3.cell? ⟨b11, 3, none⟩ = some (.string et) := cell_of_row _ b11 3 _ _ (0, 0) E3.out
    have FST := Lib.hid (T3.out.first ek er eA 0 ec et [] hr0 hr1 (by omega) EQS.out)
    have HR := Lib.hid (show (doO s0 ek er).length ≤ 1000000 from by have := doO_len s0 ek er; omega)
    have TY := Lib.hid (show Typed w3 27 b11 from ⟨_, _, E3.out⟩)
    clear T3
    go_wp2_with fail
    refine FST.out.mono ?_
    rintro e w6 ⟨A8, m8, c8, rfl, h6, k6⟩
    have R6 := Lib.hid ((k6 b11 TY.out).trans E3.out)
    clear FST k6 E3 q0 q1 q2 q3 TY
    have q0 : w6.cell? ⟨b11, 0, none⟩ = some (.int .i64 ek) := cell_of_row _ b11 0 _ _ (0, 0) R6.out
    have q1 : w6.cell? ⟨b11, 1, none⟩ = some (.int .i32 er) := cell_of_row _ b11 1 _ _ (0, 0) R6.out
    have q2 : w6.cell? ⟨b11, 2, none⟩ = some (.slice eA 0 ec) := cell_of_row _ b11 2 _ _ (0, 0) R6.out
    have q3 : w6.cell? ⟨b11, 3, none⟩ = some (.string et) := cell_of_row _ b11 3 _ _ (0, 0) R6.out
    have SND := Lib.hid (h6.second S.out ek er eA 0 ec et [] hr0 hr1 (by omega) (fun x hx => by cases hx) EQS.out rfl rfl HR.out)
    generalize doS s0 ek er [] = s7 at SND
    clear h6 HR
    go_wp2_with fail
    refine SND.out.mono ?_
    rintro e w7 ⟨A9, m9, c9, out, out', rfl, t7, rfl, hm8, rd8, rd9, hsr⟩
    have T7 := Lib.hid t7
    have EQ := Lib.hid (eqRows_walk A8 A9 m8 c8 c9 out out' w7 hm8 rd8 rd9 hsr)
    clear SND t7 rd8 rd9 hsr q0 q1 q2 q3 R6
    go_wp2_with fail
    refine EQ.out.mono ?_
    rintro e w8 ⟨rfl, b8⟩
    have T8 := Lib.hid (T7.out.laid b8)
    have SM := Lib.hid T8.out.same
    clear EQ b8 T7
    go_wp2_with fail
    refine SM.out.mono ?_
    rintro e w9 ⟨rfl, b9'⟩
    have OL := Lib.hid (T8.out.laid b9').old
    clear SM b9' T8
    go_wp2
    go_ret
    exact ⟨rfl, OL.out⟩
theorem contract (H : Type) (enc : TypeId × Value → H) (W : World) (base : Nat) (args : Array Value) (ds gs : List (DataW H)) (before : List MemPlace)
  (hval : ∀ (j : Nat) t v, Tryz.f3.params[j]? = some t → args[j]? = some v → Value.okWide Tryz.prog W .any base t v)
  (hW : DataW.Whole enc Tryz.prog Tryz.f3.params.toList Rows.screenOfSpec.vars false W args.toList ds gs before) (hL : laidMetH Tryz.prog Rows.screenOfRow.laid W) :
  Calls Tryz.prog 3 args W fun e W' => ∃ v, e = .returned v ∧ Rows.screenOfSpec.post enc Tryz.prog Tryz.f3 false true false false W args v W' := by
 have hW' := hW
 obtain ⟨p, q, hA0, hV, rfl, hfz, hnd⟩ := hW
 have hA : DataW.TrodAll enc Tryz.prog W 0 (fun _ => true) true Tryz.f3.params.toList args.toList ds p := hA0
 rw [Tryz.params3] at hA hval
 obtain ⟨v0, vs0, d0, ds0, p0, q0, hargs, rfl, rfl, h0, r0⟩ := trodAll_cons hA
 obtain ⟨v1, vs1, d1, ds1, p1, q1, rfl, rfl, rfl, h1, r1⟩ := trodAll_cons r0
 obtain ⟨v2, vs2, d2, ds2, p2, q2, rfl, rfl, rfl, h2, r2⟩ := trodAll_cons r1
 obtain ⟨v3, vs3, d3, ds3, p3, q3, rfl, rfl, rfl, h3, r3⟩ := trodAll_cons r2
 obtain ⟨v4, vs4, d4, ds4, p4, q4, rfl, rfl, rfl, h4, r4⟩ := trodAll_cons r3
 obtain ⟨v5, vs5, d5, ds5, p5, q5, rfl, rfl, rfl, h5, r5⟩ := trodAll_cons r4
 obtain ⟨rfl, rfl, rfl⟩ := trodAll_nil r5
 obtain rfl : args = #[v0, v1, v2, v3, v4, v5] := by cases args; simp_all
 obtain ⟨rfl, rfl⟩ := trodVars_none hV
 obtain ⟨Ax, nx, cx, x, rfl, hcx, hmx, hrx, hqx⟩ := open_rows (hval 0 22 v0 rfl rfl) h0
 obtain ⟨y, rfl, rfl, rfl, wy⟩ := open_int Tryz.underlying3 (hval 1 3 v1 rfl rfl) h1
 obtain ⟨z, rfl, rfl, rfl, wz⟩ := open_int Tryz.underlying3 (hval 2 3 v2 rfl rfl) h2
 obtain ⟨u, rfl, hcu, hmu⟩ := open_pos (hval 3 24 v3 rfl rfl) h3
 obtain ⟨a5, rfl, rfl, rfl, wa5⟩ := open_int Tryz.underlying3 (hval 4 3 v4 rfl rfl) h4
 obtain ⟨a6, rfl, ha6⟩ := open_event (hval 5 27 v5 rfl rfl) h5
 clear hA0
 refine (walk Ax nx cx x hcx hmx y (wf_i64 wy) z (wf_i64 wz) u.1 u.2 hcu hmu a5 (wf_i64 wa5) a6 W (spans_of hL) hrx hqx ha6).mono fun e W' ⟨he, hg⟩ => ?_
 subst he
 exact ⟨_, rfl, close rfl hW' ⟨rfl, rfl, rfl⟩ (by kernel_rfl) (by kernel_rfl) hg⟩
theorem laid_met (os : Os) : laidMet Tryz.prog Rows.screenOfRow.laid ((laidWorld os).forCall (fun _ _ => 0) ⟨#[], #[.slice none 0 0, .int .i64 0, .int .i64 0, .agg #[.int .i64 0, .int .i64 0], .int .i64 0, .agg #[.int .i64 0, .int .i32 0, .slice none 0 0, .string .empty]], []⟩).memory :=
 laidMet_of_run' 8 (by kernel_rfl) (by kernel_rfl)
theorem reads (os : Os) {H : Type} (enc : TypeId × Value → H) : ∃ places, DataW.whole enc Tryz.prog ((laidWorld os).forCall (fun _ _ => 0) ⟨#[], #[.slice none 0 0, .int .i64 0, .int .i64 0, .agg #[.int .i64 0, .int .i64 0], .int .i64 0, .agg #[.int .i64 0, .int .i32 0, .slice none 0 0, .string .empty]], []⟩).memory Tryz.f3.params.toList Rows.screenOfSpec.vars false (#[.slice none 0 0, .int .i64 0, .int .i64 0, .agg #[.int .i64 0, .int .i64 0], .int .i64 0, .agg #[.int .i64 0, .int .i32 0, .slice none 0 0, .string .empty]] : Array Value).toList 8 = some ([.nil, .lit (.int .i64 0), .lit (.int .i64 0), .agg [.lit (.int .i64 0), .lit (.int .i64 0)], .lit (.int .i64 0), .agg [.lit (.int .i64 0), .lit (.int .i32 0), .nil, .lit (.string [])]], [], places) :=
 ⟨[], by kernel_rfl⟩
theorem lifted (os : Os) (started : os.Started) (H : Type) (enc : TypeId × Value → H) (F : Stop.Interp) :
  ReturnsInHanded {} Tryz.checked os 3 .any ((OpenSpec.ofChange Rows.screenOfSpec).preRow enc Tryz.prog Tryz.f3 Rows.screenOfRow.domain false Rows.screenOfRow.laid) (((OpenSpec.ofChange Rows.screenOfSpec).at F).post enc Tryz.prog Tryz.f3 false true false false) := by
 obtain ⟨places, hx⟩ := reads os enc
 refine returnsInHanded_of_row (C := Tryz.checked) (s := OpenSpec.ofChange Rows.screenOfSpec) ownNone started (by kernel_rfl) Tryz.func3
  (witness_row_at (enc := enc) (C := Tryz.checked) false (laidWorld os) #[.slice none 0 0, .int .i64 0, .int .i64 0, .agg #[.int .i64 0, .int .i64 0], .int .i64 0, .agg #[.int .i64 0, .int .i32 0, .slice none 0 0, .string .empty]] rfl (by kernel_rfl) (by kernel_rfl) (by kernel_rfl)
   (OpenSpec.preRow_of_cond 8 hx (by kernel_rfl) (fun k hk => by cases hk) (by kernel_rfl) (laid_met os))) ?_
 intro W base args ds gs before hval hW _ _ _ hL _ _
 exact contract H enc W base args ds gs before hval hW hL
theorem facts : joinedFacts Tryz.checked.prog 3 Tryz.f3 (OpenSpec.ofChange Rows.screenOfSpec).bare Rows.screenOfRow = true := by
 have h1 := Sum.tables.1
 have h2 := Sum.tables.2.1
 have h3 := Sum.tables.2.2
 have h4 := Sum.mayEnter
 have e1 : Rows.screenOfRow.lifted = Rows.screenOfRow.lifted := by kernel_rfl
 have e2 : Rows.screenOfRow.make = Rows.screenOfRow.make := by kernel_rfl
 have h5 : (Rows.screenOfRow.lifted == Tryz.checked.prog.liftsFinal) = true := by rw [e1]; exact Sum.lifts
 have h6 : (Tryz.checked.prog.make == some Rows.screenOfRow.make) = true := by rw [e2]; exact Sum.make
 unfold joinedFacts
 repeat' (with_reducible refine Sum.and_mk ?_ ?_)
 all_goals first
  | with_reducible exact h1
  | with_reducible exact h2
  | with_reducible exact h4
  | with_reducible exact h5
  | with_reducible exact h6
  | (rw [h3]; as_aux_lemma => kernel_rfl)
  | (clear h1 h2 h3 h4 h5 h6 e1 e2; as_aux_lemma => kernel_rfl)
theorem said : Rows.ScreenOfSaid :=
 OpenClaim.holds_of_cond 3 Tryz.f3 rfl rfl rfl rfl rfl rfl rfl ⟨rfl, rfl, rfl, rfl, rfl⟩ rfl rfl rfl rfl rfl (by kernel_rfl) Tryz.func3 facts
  (of_decide_eq_true (by kernel_rfl)) (by unfold Func.isWrapper; first | (rw [if_pos (by decide +kernel)]; kernel_rfl) | (rw [if_neg (by decide +kernel)]; exact ⟨rfl, rfl⟩))
  (fun os started H enc _ F => by rw [OpenClaim.pre_eq_preRow]; exact lifted os started H enc F)
theorem plain (f : FuncId) (fn : Func) (hf : Tryz.pinned.checked.prog.funcNamed "rotulus/rotuluslaw7.ScreenOf" = some f) (hfn : Tryz.pinned.checked.prog.funcs[f]? = some fn) :
  false = Tryz.pinned.checked.prog.looks [] ∧ ∀ (j : Nat) t, fn.params[j]? = some t → Tryz.pinned.checked.prog.wantsStandIn t = false := by
 obtain rfl : f = 3 := Option.some.inj ((show Tryz.prog.funcNamed "rotulus/rotuluslaw7.ScreenOf" = some 3 by kernel_rfl).symm.trans hf) |>.symm
 obtain rfl : fn = Tryz.f3 := (Option.some.inj (Tryz.func3.symm.trans hfn)).symm
 refine ⟨by kernel_rfl, fun j t ht => ?_⟩
 rw [Tryz.params3] at ht
 have hm := Array.mem_of_getElem? ht
 simp at hm
 rcases hm with rfl | rfl | rfl | rfl | rfl
 ·exact (show Tryz.prog.wantsStandIn 22 = false by kernel_rfl)
 ·exact (show Tryz.prog.wantsStandIn 3 = false by kernel_rfl)
 ·exact (show Tryz.prog.wantsStandIn 24 = false by kernel_rfl)
 ·exact (show Tryz.prog.wantsStandIn 3 = false by kernel_rfl)
 ·exact (show Tryz.prog.wantsStandIn 27 = false by kernel_rfl)
theorem card : Rows.ScreenOfCardSaid :=
 Claim7.holds_tied_plain_at .later [] _ _ _ _ said (fun _ h => by cases h) (by kernel_rfl) (fun _ h => by cases h) screenOf_row_tie rfl ⟨rfl, rfl⟩ (by kernel_rfl) rfl plain (by kernel_rfl)
end Go.Proofs.YtmpoboffdfcpiaaGreatDoor.screenOf
