/-
  The statement LineEnds: behind each line there is a place, in the last of its rows; further columns go on to the edge; behind the last line there is none. For every list of lines (of which the statement reads the first ten, each to its fortieth cell), every number as width and as columns on; it holds where the table of widths is as its initialiser lays it, which the card ties to the program's text.
-/
import Derived.Test.YtjhmndmnhkbigaaGreatDoorQZEvZ0
import Derived.Test.YtjhmndmnhkbigaaGreatDoorQZBase0
import Derived.Test.YtjhmndmnhkbigaaGreatDoorQZLine4
namespace Go.Proofs.YtjhmndmnhkbigaaGreatDoor.lineEnds
open Go.ChangeShapes Go.WideShapes Go.ChangeAt Go.RowKit
open Rw Ln
theorem eql_pos0 (x y : Int) (w : World) : (binOp .eql 25 (.agg #[.int .i64 x, .int .i64 y]) (.agg #[.int .i64 x, .int .i64 y])).run Tryz.prog w = .ok (.bool true) w := by
 have h1 : (x == x) = true := by simp
 have h2 : (y == y) = true := by simp
 go_simp
theorem neq_pos (x y : Int) (w : World) : (binOp .neq 25 (.agg #[.int .i64 x, .int .i64 y]) (.agg #[.int .i64 x, .int .i64 y])).run Tryz.prog w = .ok (.bool false) w := by
 have h1 : (x == x) = true := by simp
 have h2 : (y == y) = true := by simp
 go_simp
theorem drawn_ok {W : World} {B : Nat} {ls : List LineIn} (h : ∀ x ∈ ls, x.Ok W B) : LOk (drawnLs ls) ∧ (drawnLs ls).length ≤ 10 := by
 have hs : ∀ l ∈ drawnLs ls, ∀ c ∈ l, -2147483648 ≤ c.1 ∧ c.1 ≤ 2147483647 := fun l hl c hc => by
  unfold drawnLs cutLs at hl
  obtain ⟨h1, _⟩ := List.mem_filter.1 hl
  obtain ⟨x, hx, rfl⟩ := List.mem_map.1 h1
  exact (h x (List.mem_of_mem_take hx)).signs c (List.mem_of_mem_take hc)
 refine ⟨⟨fun l hl => (cutLs_each hl).1, fun l hl => by have := (cutLs_each hl).2; omega, hs⟩, ?_⟩
 have h1 := cutLs_len (ls.take 10)
 rw [List.length_take] at h1
 unfold drawnLs
 omega
theorem col_past {wv p c : Nat} (hp : 0 < p) (_ : c ≤ wv) (hw : 2 ≤ wv) : pastCol wv p c = min (c + p) (wv - 1) := by
 unfold pastCol
 rw [if_pos hp]
 omega
theorem past_of (y : Int) : ∃ p : Nat, (y.tmod 30 + 30).tmod 30 = (p : Int) ∧ p ≤ 30 ∧ IntKind.i64.wrap (y.tmod 30 + 30) = y.tmod 30 + 30 := by
 have ty := mod_rangeL y 30 (by omega)
 have uy := mod_rangeL (y.tmod 30 + 30) 30 (by omega)
 have py := Int.tmod_nonneg 30 (show 0 ≤ y.tmod 30 + 30 by omega)
 exact ⟨((y.tmod 30 + 30).tmod 30).toNat, by omega, by omega, IntWalk.i64_in _ (by omega)⟩
set_option maxRecDepth 100000 in
set_option maxHeartbeats 12800000 in
theorem walk (A : Option Addr) (n c : Nat) (ls : List LineIn) (_ : n ≤ c) (hcm : c ≤ maxLen) (x : Int) (_ : -9223372036854775808 ≤ x ∧ x ≤ 9223372036854775807) (y : Int) (_ : -9223372036854775808 ≤ y ∧ y ≤ 9223372036854775807) (w : World) (hs : Spans w) (hr : ∀ x ∈ ls, x.Ok w w.heap.size) (hq : Sq w w.heap.size 1 n A (ls.flatMap LineIn.vals)) :
  Calls Tryz.prog 8 #[.slice A n c, .int .i64 x, .int .i64 y] w fun e w' => e = .returned (.bool true) ∧ Below w.heap.size w w' := by
 obtain ⟨wv, hwv, hw2, hw3, ew1, ew2⟩ := width_of x 12 (by decide) (by decide)
 obtain ⟨p, hp, hp30, ep1⟩ := past_of y
 have S := Lib.hid hs
 have Q := Lib.hid hq
 have RO := Lib.hid hr
 have LK := Lib.hid (drawn_ok hr)
 have HW := Lib.hid (show 2 ≤ wv ∧ wv ≤ 300 from ⟨hw2, by omega⟩)
 have hnm : n ≤ maxLen := by omega
 clear hs hq hr hwv hw2 hw3
 go_enter Tryz.func8, Tryz.ntmps8
 go_wp2_with fail
 refine (Ev.Trues.at Ev.begun10 w S.out).mono ?_
 rintro e w1 ⟨rfl, b1⟩
 have B1 := Lib.hid b1
 have LW := Lib.hid (lines10_walk A n c ls w1 (fun x hx => ((RO.out x hx).below b1).up b1.size) ((Q.out.below b1).up b1.size) hnm)
 have S1 := Lib.hid (S.out.below b1 S.out.size)
 clear b1 Q RO
 go_wp2_with fail
 refine LW.out.mono ?_
 rintro e w2 ⟨v, vs, rfl, L2, b2⟩
 obtain ⟨L, hL⟩ : ∃ L, drawnLs ls = L := ⟨_, rfl⟩
 rw [hL] at L2 LK
 obtain ⟨A2, c2, rfl, hc2⟩ := own_cap L2.own
 obtain ⟨N, hN⟩ : ∃ N, L.length = N := ⟨_, rfl⟩
 have RD := Lib.hid (show Lrd w2 w2.heap.size A2 N vs L from by have h := (L2.rd (fun l hl => by have := LK.out.1.len l hl; omega)).2; rw [hN] at h; exact h)
 rw [hN] at hc2 ⊢
 have LK2 := Lib.hid (show LOk L ∧ N ≤ 10 from ⟨LK.out.1, by rw [← hN]; exact LK.out.2⟩)
 have B2 := Lib.hid (B1.out.trans (b2.mono B1.out.size))
 have S2 := Lib.hid (S1.out.below b2 S1.out.size)
 have hN10 : N ≤ 10 := LK2.out.2
 have NL := Lib.hid hN
 clear hL hN LW LK L2 b2 S1
 have I0 := Lib.hid (Below.refl w2.heap.size w2)
 go_upto_region 9 with fail
 go_loopw [8, 9, 10, 11, 12] (fun o i a10 a11 a12 wr => ∃ k : Nat, o = .int .i64 ((highs wv (L.take k) : Nat) : Int) ∧ i = .int .i64 (k : Int) ∧ k ≤ N ∧ Hid (Below w2.heap.size w2 wr)) (fun _ i _ _ _ _ => N - (intOf i).toNat)
 case atStart => exact ⟨0, rfl, rfl, Nat.zero_le _, I0⟩
 case round =>
  obtain ⟨k, rfl, rfl, hk, I⟩ := hrel
  clear I0
  by_cases hlt : k < N
  ·obtain ⟨l, hl⟩ : ∃ l, L[k]? = some l := ⟨_, List.getElem?_eq_getElem (by rw [NL.out]; omega)⟩
   obtain ⟨xv, hx⟩ : ∃ x, vs[k]? = some x := ⟨_, List.getElem?_eq_getElem (by have := RD.out.sq.len; omega)⟩
   have R := RD.out.below I.out
   obtain ⟨b, off, rfl, hb, c0⟩ := one_at R.sq hx hlt
   obtain ⟨A1, m, d1, rfl, hd1, q1, m1⟩ := R.each k xv l hx hl
   have hlen : l.length = m := by have := q1.len; rw [flat_length] at this; omega
   have hm := List.mem_of_getElem? hl
   have SR := Lib.hid (S2.out.below I.out S2.out.size)
   have LY := Lib.hid (layout_walk A1 m d1 l (wv : Int) wr SR.out (LK2.out.1.signs l hm) (q1.up I.out.size) (by omega))
   have PW := Lib.hid (fun (W : World) (hb : Below w2.heap.size w2 W) (pp : Nat) (hpp : pp ≤ 30) => place_walk (some ⟨b, off, none⟩) N c2 wv k pp vs L l W (S2.out.below hb S2.out.size) ((RD.out.below hb).up hb.size) hc2 (by omega) LK2.out.1 HW.out.1 HW.out.2 hlt hl hpp)
   have LO := Lib.hid (LK2.out.1.ok l hm)
   have LH := Lib.hid (lay_high HW.out.1 (LK2.out.1.ok l hm))
   have NX := Lib.hid (highs_take (wv := wv) hl)
   have HLE := Lib.hid (show highs wv (L.take k) ≤ 1010 ∧ (layL wv l).length ≤ 101 from by
    have h1 := highs_le (wv := wv) (L.take k) fun y hy => LK2.out.1.len y (List.mem_of_mem_take hy)
    rw [List.length_take] at h1
    have h2 := layL_len wv l
    have h3 := LK2.out.1.len l hm
    omega)
   have cc := fun (W : World) (h : Below w2.heap.size wr W) => (h.cell (p := ⟨b, off + k, none⟩) hb).trans c0
   have CC := Lib.hid cc
   rw [hlen] at PW
   obtain ⟨row, hrow⟩ : ∃ row, (posOut wv l).1.1 = row := ⟨_, rfl⟩
   obtain ⟨col, hcol⟩ : ∃ col, (posOut wv l).1.2 = col := ⟨_, rfl⟩
   obtain ⟨H, hH⟩ : ∃ H, highs wv (L.take k) = H := ⟨_, rfl⟩
   obtain ⟨G, hG⟩ : ∃ G, row + H = G := ⟨_, rfl⟩
   obtain ⟨R2, hR2⟩ : ∃ R2, highs wv (L.take (k + 1)) = R2 := ⟨_, rfl⟩
   obtain ⟨q, hq⟩ : ∃ q, pastCol wv p col = q := ⟨_, rfl⟩
   obtain ⟨T, hT⟩ : ∃ T, (layL wv l).length = T := ⟨_, rfl⟩
   simp only [hrow, hcol, hH, hG] at PW
   rw [hrow, hcol, hT] at LH
   rw [hH, hT] at HLE
   rw [hR2, hH, hT] at NX
   have hr2 : R2 = G + 1 := by have := NX.out; have := LH.out; omega
   have hr3 : H + T = R2 := NX.out.symm
   have hcw := LH.out.2
   have hGb : G ≤ 2000 := by have := HLE.out; have := LH.out; omega
   have hHT : H ≤ 2000 ∧ T ≤ 2000 := by have := HLE.out; omega
   have P0 := Lib.hid (fun (W : World) (hb : Below w2.heap.size w2 W) => show Calls Tryz.prog 21 #[.slice (some ⟨b, off, none⟩) N c2, .int .i64 (wv : Int), .agg #[.int .i64 (k : Int), .int .i64 (m : Int), .int .i64 0]] W fun e w' => e = .returned (.agg #[.int .i64 (G : Int), .int .i64 (col : Int)]) ∧ Below W.heap.size W w' from PW.out W hb 0 (by omega))
   have P1 := Lib.hid (fun (W : World) (hb : Below w2.heap.size w2 W) => show Calls Tryz.prog 21 #[.slice (some ⟨b, off, none⟩) N c2, .int .i64 (wv : Int), .agg #[.int .i64 (k : Int), .int .i64 (m : Int), .int .i64 (p : Int)]] W fun e w' => e = .returned (.agg #[.int .i64 (G : Int), .int .i64 (q : Int)]) ∧ Below W.heap.size W w' from hq ▸ PW.out W hb p hp30)
   have HQ := Lib.hid hq
   have HR := Lib.hid hR2
   have HT := Lib.hid hT
   have ki : (k : Int) < (N : Int) := by omega
   have k0 : (0 : Int) ≤ (k : Int) := by omega
   rw [hH]
   clear hl hx R q1 hlen hm hrow hcol hH hG hR2 hq hT PW NX LH HLE hb c0 cc
   have c0 := CC.out wr ((Below.refl wr.heap.size wr).mono (by exact I.out.size))
   go_wp2_with fail
   refine LY.out.mono ?_
   rintro e w3 ⟨h3, -, b3⟩
   obtain ⟨v3, rs, rfl, sh3, hm3⟩ := h3 ⟨by have := HW.out; omega, by have := HW.out; omega, LO.out⟩
   rw [show ((wv : Int)).toNat = wv by simp] at sh3 hm3
   obtain ⟨A3, c3, rfl, _⟩ := sh3.own.shape
   have hrs : rs.length = T := by rw [← HT.out, ← hm3, List.length_map]
   rw [hrs]
   have I3 := Lib.hid (I.out.trans (b3.mono I.out.size))
   have BW3 := Lib.hid (show Below w2.heap.size wr w3 from b3.mono I.out.size)
   have c0 := CC.out w3 BW3.out
   have Q0 := Lib.hid (P0.out w3 I3.out)
   clear h3 sh3 hm3 hrs b3 LY
   go_wp2_with fail
   refine Q0.out.mono ?_
   rintro e w4 ⟨rfl, b4⟩
   obtain ⟨w5, hw5⟩ : ∃ w5, w4.alloc (.cells #[.int .i64 (G : Int), .int .i64 (col : Int)] 25) = w5 := ⟨_, rfl⟩
   obtain ⟨E1, hE1⟩ : ∃ E1, w4.heap.size = E1 := ⟨_, rfl⟩
   have b45 : Laid w4 w5 := by rw [← hw5]; exact (Below.refl _ _).alloc (Nat.le_refl _) _
   have x5 : w5.heap[E1]? = some (.cells #[.int .i64 (G : Int), .int .i64 (col : Int)] 25 (0, 0)) := by rw [← hw5, ← hE1]; exact heap_alloc_new w4 _
   have BW5 : Below w2.heap.size wr w5 := (BW3.out.trans (b4.mono I3.out.size)).trans (b45.mono (Nat.le_trans I3.out.size b4.size))
   have I5 := Lib.hid (show Below w2.heap.size w2 w5 from I.out.trans BW5)
   have c0 : (w4.alloc (.cells #[.int .i64 (G : Int), .int .i64 (col : Int)] 25)).cell? ⟨b, off + k, none⟩ = some (.slice A1 m d1) := by rw [hw5]; exact CC.out w5 BW5
   have Q1 := Lib.hid (P1.out w5 I5.out)
   have X5 := Lib.hid x5
   have HW5 := Lib.hid hw5
   clear b4 b45 x5 hw5 BW5 Q0 I3 BW3
   go_wp2_with fail
   rw [HW5.out]
   refine Q1.out.mono ?_
   rintro e w6 ⟨rfl, b6⟩
   obtain ⟨w7, hw7⟩ : ∃ w7, w6.alloc (.cells #[.int .i64 (G : Int), .int .i64 (q : Int)] 25) = w7 := ⟨_, rfl⟩
   obtain ⟨E2, hE2⟩ : ∃ E2, w6.heap.size = E2 := ⟨_, rfl⟩
   have b67 : Laid w6 w7 := by rw [← hw7]; exact (Below.refl _ _).alloc (Nat.le_refl _) _
   have x7 : w7.heap[E2]? = some (.cells #[.int .i64 (G : Int), .int .i64 (q : Int)] 25 (0, 0)) := by rw [← hw7, ← hE2]; exact heap_alloc_new w6 _
   have l5 := (Array.getElem?_eq_some_iff.1 X5.out).1
   have x5 : w7.heap[E1]? = some (.cells #[.int .i64 (G : Int), .int .i64 (col : Int)] 25 (0, 0)) := (b67.block E1 (Nat.lt_of_lt_of_le l5 b6.size)).trans ((b6.block E1 l5).trans X5.out)
   have I7 := Lib.hid (show Below w2.heap.size w2 w7 from (I5.out.trans (b6.mono I5.out.size)).trans (b67.mono (Nat.le_trans I5.out.size b6.size)))
   have g0 := cell_of_row _ _ 0 _ _ (0, 0) x5
   have g1 := cell_of_row _ _ 1 _ _ (0, 0) x5
   have e0 := cell_of_row _ _ 0 _ _ (0, 0) x7
   have e1 := cell_of_row _ _ 1 _ _ (0, 0) x7
   rw [← hw7] at g0 g1 e0 e1
   have HW7 := Lib.hid hw7
   have s1 : IntKind.i64.wrap ((H : Int) + (T : Int)) = (R2 : Int) := by rw [show (H : Int) + (T : Int) = (R2 : Int) by omega]; exact IntWalk.i64_in _ (by omega)
   have s2 : IntKind.i64.wrap ((R2 : Int) - 1) = (G : Int) := by rw [show (R2 : Int) - 1 = (G : Int) by omega]; exact IntWalk.i64_in _ (by omega)
   have s3 : IntKind.i64.wrap ((wv : Int) - 1) = (wv : Int) - 1 := IntWalk.i64_in _ (by have := HW.out; omega)
   have s4 : IntKind.i64.wrap ((col : Int) + (p : Int)) = (col : Int) + (p : Int) := IntWalk.i64_in _ (by have := HW.out; omega)
   have NG := Lib.hid (show highs wv (L.take (k + 1)) = R2 from HR.out)
   clear b6 b67 x5 x7 hw7 c0 Q1 X5 I5 HW5 hr2 hr3
   have hc0 : ¬ (col : Int) < 0 := by omega
   have hc1 : ¬ (wv : Int) < (col : Int) := by omega
   by_cases hpp : 0 < p
   ·have hqm : min ((col : Int) + (p : Int)) ((wv : Int) - 1) = (q : Int) := by
     have h1 := col_past hpp hcw HW.out.1
     rw [HQ.out] at h1
     have := HW.out
     omega
    have hp1 : (0 : Int) < (p : Int) := by omega
    have hp2 : ¬ (p : Int) = 0 := by omega
    have hp3 : ((p : Int) == 0) = false := by simp; omega
    go_wp2_with fail
    go_roundw
    case rel => exact ⟨k + 1, by rw [NG.out], by go_num, by omega, by rw [HW7.out]; exact I7⟩
    case measure => first | (simp [intOf]; done) | (simp [intOf]; omega)
   ·obtain rfl : p = 0 := by omega
    obtain rfl : col = q := HQ.out
    have NE := fun w => neq_pos (G : Int) (col : Int) w
    go_wp2_with fail
    go_roundw
    case rel => (repeat apply Exists.intro); exact ⟨⟨k + 1, by rw [NG.out], by go_num, by omega, by rw [HW7.out]; exact I7⟩, rfl⟩
    case measure => first | (simp [intOf]; done) | (simp [intOf]; omega)
  ·obtain rfl : k = N := by omega
   have PN := Lib.hid (place_none A2 k c2 wv wr HW.out.1 HW.out.2)
   have NE := fun w => eql_pos0 0 0 w
   have hnl : ¬ (k : Int) < (k : Int) := by omega
   have IB := Lib.hid (B2.out.trans (I.out.mono B2.out.size))
   clear I
   go_wp2_with fail
   refine PN.out.mono ?_
   rintro e w3 ⟨rfl, b3⟩
   have IC := Lib.hid (IB.out.trans (b3.mono IB.out.size))
   clear b3
   go_wp2_with fail
   go_ret
   exact ⟨rfl, IC.out⟩
set_option maxRecDepth 100000 in
theorem contract (H : Type) (enc : TypeId × Value → H) (W : World) (base : Nat) (args : Array Value) (ds gs : List (DataW H)) (before : List MemPlace)
  (hval : ∀ (j : Nat) t v, Tryz.f8.params[j]? = some t → args[j]? = some v → Value.okWide Tryz.prog W .any base t v)
  (hW : DataW.Whole enc Tryz.prog Tryz.f8.params.toList Rows.lineEndsSpec.vars false W args.toList ds gs before) (hL : laidMetH Tryz.prog Rows.lineEndsRow.laid W) :
  Calls Tryz.prog 8 args W fun e W' => ∃ v, e = .returned v ∧ Rows.lineEndsSpec.post enc Tryz.prog Tryz.f8 false true false false W args v W' := by
 have hW' := hW
 obtain ⟨p, q, hA0, hV, rfl, hfz, hnd⟩ := hW
 have hA : DataW.TrodAll enc Tryz.prog W 0 (fun _ => true) true Tryz.f8.params.toList args.toList ds p := hA0
 rw [Tryz.params8] at hA hval
 obtain ⟨v0, vs0, d0, ds0, p0, q0, hargs, rfl, rfl, h0, r0⟩ := trodAll_cons hA
 obtain ⟨v1, vs1, d1, ds1, p1, q1, rfl, rfl, rfl, h1, r1⟩ := trodAll_cons r0
 obtain ⟨v2, vs2, d2, ds2, p2, q2, rfl, rfl, rfl, h2, r2⟩ := trodAll_cons r1
 obtain ⟨rfl, rfl, rfl⟩ := trodAll_nil r2
 obtain rfl : args = #[v0, v1, v2] := by cases args; simp_all
 obtain ⟨rfl, rfl⟩ := trodVars_none hV
 obtain ⟨Ax, nx, cx, x, rfl, hcx, hmx, hrx, hqx⟩ := open_lines (hval 0 23 v0 rfl rfl) h0
 obtain ⟨y, rfl, rfl, rfl, wy⟩ := open_int Tryz.underlying3 (hval 1 3 v1 rfl rfl) h1
 obtain ⟨z, rfl, rfl, rfl, wz⟩ := open_int Tryz.underlying3 (hval 2 3 v2 rfl rfl) h2
 clear hA0
 refine (walk Ax nx cx x hcx hmx y (wf_i64 wy) z (wf_i64 wz) W (spans_of hL) hrx hqx).mono fun e W' ⟨he, hg⟩ => ?_
 subst he
 exact ⟨_, rfl, close rfl hW' ⟨rfl, rfl, rfl⟩ (by kernel_rfl) (by kernel_rfl) hg⟩
set_option maxRecDepth 100000 in
theorem laid_met (os : Os) : laidMet Tryz.prog Rows.lineEndsRow.laid ((laidWorld os).forCall (fun _ _ => 0) ⟨#[], #[.slice none 0 0, .int .i64 0, .int .i64 0], []⟩).memory :=
 laidMet_of_run' 8 (by kernel_rfl) (by kernel_rfl)
set_option maxRecDepth 100000 in
theorem reads (os : Os) {H : Type} (enc : TypeId × Value → H) : ∃ places, DataW.whole enc Tryz.prog ((laidWorld os).forCall (fun _ _ => 0) ⟨#[], #[.slice none 0 0, .int .i64 0, .int .i64 0], []⟩).memory Tryz.f8.params.toList Rows.lineEndsSpec.vars false (#[.slice none 0 0, .int .i64 0, .int .i64 0] : Array Value).toList 8 = some ([.nil, .lit (.int .i64 0), .lit (.int .i64 0)], [], places) :=
 ⟨[], by kernel_rfl⟩
set_option maxRecDepth 100000 in
theorem lifted (os : Os) (started : os.Started) (H : Type) (enc : TypeId × Value → H) (F : Stop.Interp) :
  ReturnsInHanded {} Tryz.checked os 8 .any ((OpenSpec.ofChange Rows.lineEndsSpec).preRow enc Tryz.prog Tryz.f8 Rows.lineEndsRow.domain false Rows.lineEndsRow.laid) (((OpenSpec.ofChange Rows.lineEndsSpec).at F).post enc Tryz.prog Tryz.f8 false true false false) := by
 obtain ⟨places, hx⟩ := reads os enc
 refine returnsInHanded_of_row (C := Tryz.checked) (s := OpenSpec.ofChange Rows.lineEndsSpec) ownNone started (by kernel_rfl) Tryz.func8
  (witness_row_at (enc := enc) (C := Tryz.checked) false (laidWorld os) #[.slice none 0 0, .int .i64 0, .int .i64 0] rfl (by kernel_rfl) (by kernel_rfl) (by kernel_rfl)
   (OpenSpec.preRow_of_cond 8 hx (by kernel_rfl) (fun k hk => by cases hk) (by kernel_rfl) (laid_met os))) ?_
 intro W base args ds gs before hval hW _ _ _ hL _ _
 exact contract H enc W base args ds gs before hval hW hL
set_option maxRecDepth 100000 in
set_option maxHeartbeats 0 in
theorem facts : joinedFacts Tryz.checked.prog 8 Tryz.f8 (OpenSpec.ofChange Rows.lineEndsSpec).bare Rows.lineEndsRow = true := by
 have h1 := Sum.tables.1
 have h2 := Sum.tables.2.1
 have h3 := Sum.tables.2.2
 have h4 := Sum.mayEnter
 have e1 : Rows.lineEndsRow.lifted = Rows.lineAllRow.lifted := by kernel_rfl
 have e2 : Rows.lineEndsRow.make = Rows.lineAllRow.make := by kernel_rfl
 have h5 : (Rows.lineEndsRow.lifted == Tryz.checked.prog.liftsFinal) = true := by rw [e1]; exact Sum.lifts
 have h6 : (Tryz.checked.prog.make == some Rows.lineEndsRow.make) = true := by rw [e2]; exact Sum.make
 unfold joinedFacts
 repeat' (with_reducible refine Sum.and_mk ?_ ?_)
 all_goals first
  | with_reducible exact h1
  | with_reducible exact h2
  | with_reducible exact h4
  | with_reducible exact h5
  | with_reducible exact h6
  | (rw [h3]; as_aux_lemma => kernel_rfl)
  | (clear h1 h2 h3 h4 h5 h6 e1 e2; as_aux_lemma => kernel_rfl)
set_option maxRecDepth 100000 in
theorem said : Rows.LineEndsSaid :=
 OpenClaim.holds_of_cond 8 Tryz.f8 rfl rfl rfl rfl rfl rfl rfl ⟨rfl, rfl, rfl, rfl, rfl⟩ rfl rfl rfl rfl rfl (by kernel_rfl) Tryz.func8 facts
  (of_decide_eq_true (by kernel_rfl)) (by unfold Func.isWrapper; first | (rw [if_pos (by decide +kernel)]; kernel_rfl) | (rw [if_neg (by decide +kernel)]; exact ⟨rfl, rfl⟩))
  (fun os started H enc _ F => by rw [OpenClaim.pre_eq_preRow]; exact lifted os started H enc F)
set_option maxRecDepth 100000 in
theorem plain (f : FuncId) (fn : Func) (hf : Tryz.pinned.checked.prog.funcNamed "rotulus/rotuluslaw10.LineEnds" = some f) (hfn : Tryz.pinned.checked.prog.funcs[f]? = some fn) :
  false = Tryz.pinned.checked.prog.looks [] ∧ ∀ (j : Nat) t, fn.params[j]? = some t → Tryz.pinned.checked.prog.wantsStandIn t = false := by
 obtain rfl : f = 8 := Option.some.inj ((show Tryz.prog.funcNamed "rotulus/rotuluslaw10.LineEnds" = some 8 by kernel_rfl).symm.trans hf) |>.symm
 obtain rfl : fn = Tryz.f8 := (Option.some.inj (Tryz.func8.symm.trans hfn)).symm
 refine ⟨by kernel_rfl, fun j t ht => ?_⟩
 rw [Tryz.params8] at ht
 have hm := Array.mem_of_getElem? ht
 simp at hm
 rcases hm with rfl | rfl
 ·exact (show Tryz.prog.wantsStandIn 23 = false by kernel_rfl)
 ·exact (show Tryz.prog.wantsStandIn 3 = false by kernel_rfl)
set_option maxRecDepth 100000 in
theorem card : Rows.LineEndsCardSaid :=
 Claim7.holds_tied_plain_at .later [] _ _ _ _ said (fun _ h => by cases h) (by kernel_rfl) (fun _ h => by cases h) lineEnds_row_tie rfl ⟨rfl, rfl⟩ (by kernel_rfl) rfl plain (by kernel_rfl)
end Go.Proofs.YtjhmndmnhkbigaaGreatDoor.lineEnds
