/-
  The statement LineAll: any rows as lines, any lines laid out at any width, each place of one among the other: as the reference's. For every list of rows (of which the statement reads the first fourteen, and 310 cells of each), every list of lines (of which it reads the first ten), every number as width, every place and every spot; it holds where the table of widths is as its initialiser lays it, which the card ties to the program's text.
-/
import Derived.Test.YtgmijnnhanpocaaGreatDoorQNEvZ0
import Derived.Test.YtgmijnnhanpocaaGreatDoorQNBase0
import Derived.Test.YtgmijnnhanpocaaGreatDoorQNBase1
import Derived.Test.YtgmijnnhanpocaaGreatDoorQNLine0
import Derived.Test.YtgmijnnhanpocaaGreatDoorQNLine2
import Derived.Test.YtgmijnnhanpocaaGreatDoorQNLine6
import Derived.Test.YtgmijnnhanpocaaGreatDoorQNLine5
import Derived.Test.YtgmijnnhanpocaaGreatDoorQNBase5
import Derived.Test.YtgmijnnhanpocaaGreatDoorQNLine7
import Derived.Test.YtgmijnnhanpocaaGreatDoorQNBase8
import Derived.Test.YtgmijnnhanpocaaGreatDoorQNLine8
import Derived.BigQuiet
namespace Go.Proofs.YtgmijnnhanpocaaGreatDoor.lineAll
open Go.ChangeShapes Go.WideShapes Go.ChangeAt Go.RowKit
open Rw Ln
theorem neq_spot (x y z : Int) (w : World) : (binOp .neq 27 (.agg #[.int .i64 x, .int .i64 y, .int .i64 z]) (.agg #[.int .i64 x, .int .i64 y, .int .i64 z])).run Tryz.prog w = .ok (.bool false) w := by
 have h1 : (x == x) = true := by simp
 have h2 : (y == y) = true := by simp
 have h3 : (z == z) = true := by simp
 go_simp
theorem eql_pos (x y : Int) (w : World) : (binOp .eql 25 (.agg #[.int .i64 x, .int .i64 y]) (.agg #[.int .i64 x, .int .i64 y])).run Tryz.prog w = .ok (.bool true) w := by
 have h1 : (x == x) = true := by simp
 have h2 : (y == y) = true := by simp
 go_simp
theorem drawn_ok {W : World} {B : Nat} {ls : List LineIn} (h : ∀ x ∈ ls, x.Ok W B) : LOk (drawnLs ls) ∧ (drawnLs ls).length ≤ 10 := by
 have hs : ∀ l ∈ drawnLs ls, ∀ c ∈ l, -2147483648 ≤ c.1 ∧ c.1 ≤ 2147483647 := fun l hl c hc => by
  unfold drawnLs cutLs at hl
  obtain ⟨h1, _⟩ := List.mem_filter.1 hl
  obtain ⟨x, hx, rfl⟩ := List.mem_map.1 h1
  exact (h x (List.mem_of_mem_take hx)).signs c (List.mem_of_mem_take hc)
 refine ⟨⟨fun l hl => (cutLs_each hl).1, fun l hl => by have := (cutLs_each hl).2; omega, hs⟩, ?_⟩
 have h1 := cutLs_len (ls.take 10)
 rw [List.length_take] at h1
 unfold drawnLs
 omega
theorem col_past {wv p c : Nat} (hp : 0 < p) (_ : c ≤ wv) (hw : 2 ≤ wv) : pastCol wv p c = min (c + p) (wv - 1) := by
 unfold pastCol
 rw [if_pos hp]
 omega
theorem past_of (y : Int) : ∃ p : Nat, (y.tmod 30 + 30).tmod 30 = (p : Int) ∧ p ≤ 30 ∧ IntKind.i64.wrap (y.tmod 30 + 30) = y.tmod 30 + 30 := by
 have ty := mod_rangeL y 30 (by omega)
 have uy := mod_rangeL (y.tmod 30 + 30) 30 (by omega)
 have py := Int.tmod_nonneg 30 (show 0 ≤ y.tmod 30 + 30 by omega)
 exact ⟨((y.tmod 30 + 30).tmod 30).toNat, by omega, by omega, IntWalk.i64_in _ (by omega)⟩
theorem both_all (A : Option Addr) (n c : Nat) (x : Int) (vs : List Value) (ls : List (List Cel)) (hn : n ≤ 1000) (hok : LOk ls) (hlen : ls.length = n) : ∃ RS : List LR, (∀ r ∈ RS, r.2.length ≤ 300) ∧ RS.length ≤ 10001 * n ∧
  (∀ W, Spans W → Lrd W W.heap.size A n vs ls → Calls Tryz.prog 11 #[.slice A n c, .int .i64 x] W fun e w' => ∃ v rs, e = .returned v ∧ Ln.Own w' W.heap.size v rs ∧ rs.map lr = RS ∧ Below W.heap.size W w') ∧
  (∀ W, Lrd W W.heap.size A n vs ls → Calls Tryz.prog 12 #[.slice A n c, .int .i64 x] W fun e w' => ∃ v rs, e = .returned v ∧ Ln.Own w' W.heap.size v rs ∧ rs.map lr = RS ∧ Below W.heap.size W w') := by
 by_cases hx : 2 ≤ x ∧ x ≤ 300
 ·obtain ⟨wv, rfl⟩ : ∃ wv : Nat, x = (wv : Int) := ⟨x.toNat, by omega⟩
  refine ⟨allL wv ls, fun r hr => ?_, ?_, fun W hs h => Ln.all_walk A n c wv vs ls W hs h hn hok (by omega) (by omega), fun W h => Ln.refAll_walk A n c wv vs ls W h hn hok (by omega) (by omega)⟩
  ·rw [all_wide (by omega) (by omega) hok.ok r hr]
   omega
  ·rw [allL_len]
   have h2 := highs_le (wv := wv) ls hok.len
   rw [hlen] at h2
   exact h2
 ·refine ⟨[], (fun r h => by cases h), Nat.zero_le _, fun W hs h => (Ln.all_none A n c x vs ls W hs h hn hok hx).mono ?_, fun W h => (Ln.refAll_none A n c x vs ls W h hn hok hx).mono ?_⟩
  ·rintro e w' ⟨v, rfl, ho, hb⟩
   exact ⟨v, [], rfl, ho, rfl, hb⟩
  ·rintro e w' ⟨v, rfl, ho, hb⟩
   exact ⟨v, [], rfl, ho, rfl, hb⟩
theorem own_le {W : World} {B : Nat} {v : Value} {rs : List RowIn} {RS : List LR} (h : Ln.Own W B v rs) (hm : rs.map lr = RS) (hw : ∀ r ∈ RS, r.2.length ≤ 300) : ∀ x ∈ rs, x.n ≤ 1000000 := fun x hx => by
 have h1 := hw (lr x) (by rw [← hm]; exact List.mem_map.2 ⟨x, hx, rfl⟩)
 obtain ⟨h2, _⟩ := h.each x hx
 have hh : W.ownsRow B 50 3 (.slice x.A x.n x.c) x.l.length (flat x.l) := h2
 obtain ⟨A', c', e, _⟩ := own_cap hh
 injection e with e1 e2 e3
 have : x.l.length ≤ 300 := h1
 omega
set_option maxRecDepth 100000 in
set_option maxHeartbeats 12800000 in
theorem walk (A : Option Addr) (n c : Nat) (l : List RowIn) (_hc : n ≤ c) (hm : c ≤ maxLen) (A' : Option Addr) (n' c' : Nat) (ls : List LineIn) (_hc' : n' ≤ c') (hm' : c' ≤ maxLen) (x : Int) (_ : -9223372036854775808 ≤ x ∧ x ≤ 9223372036854775807) (pr pc : Int) (hpr : -9223372036854775808 ≤ pr ∧ pr ≤ 9223372036854775807) (_ : -9223372036854775808 ≤ pc ∧ pc ≤ 9223372036854775807) (i k p : Int) (w : World) (hs : Spans w) (hr : ∀ r ∈ l, r.Ok w w.heap.size) (hq : Sq w w.heap.size 2 n A (l.flatMap RowIn.vals)) (hr' : ∀ x ∈ ls, x.Ok w w.heap.size) (hq' : Sq w w.heap.size 1 n' A' (ls.flatMap LineIn.vals)) :
  Calls Tryz.prog 3 #[.slice A n c, .slice A' n' c', .int .i64 x, .agg #[.int .i64 pr, .int .i64 pc], .agg #[.int .i64 i, .int .i64 k, .int .i64 p]] w fun e w' => e = .returned (.bool true) ∧ Below w.heap.size w w' := by
 obtain ⟨g8, hg8⟩ : ∃ g8, w.heap.size = g8 := ⟨_, rfl⟩
 obtain ⟨g9, hg9⟩ : ∃ g9, g8 + 1 = g9 := ⟨_, rfl⟩
 obtain ⟨w0, hw0⟩ : ∃ w0, (w.alloc (.cells #[.int .i64 pr, .int .i64 pc] 25)).alloc (.cells #[.int .i64 i, .int .i64 k, .int .i64 p] 27) = w0 := ⟨_, rfl⟩
 have z0 : w0.heap.size = g8 + 2 := by rw [← hw0, ← hg8]; simp
 have b0 : Below w.heap.size w w0 := by rw [← hw0]; exact ((Below.refl _ _).alloc (Nat.le_refl _) _).alloc (by simp) _
 have x8 : w0.heap[g8]? = some (.cells #[.int .i64 pr, .int .i64 pc] 25 (0, 0)) := by rw [← hw0, ← hg8]; exact (Below.heap_alloc _ _ _ (by simp)).trans (heap_alloc_new w _)
 have x9 : w0.heap[g9]? = some (.cells #[.int .i64 i, .int .i64 k, .int .i64 p] 27 (0, 0)) := by
  rw [← hw0, ← hg9, ← hg8]
  have := heap_alloc_new (w.alloc (.cells #[.int .i64 pr, .int .i64 pc] 25)) (.cells #[.int .i64 i, .int .i64 k, .int .i64 p] 27)
  rwa [World.size_alloc] at this
 have S := Lib.hid (hs.below b0 hs.size)
 have R := Lib.hid (show Rws w0 w0.heap.size A n l from (⟨fun r h => (hr r h).below b0, hq.below b0⟩ : Rws w0 w.heap.size A n l).up b0.size)
 have Q := Lib.hid ((hq'.below b0).up b0.size)
 have RO := Lib.hid (show ∀ x ∈ ls, x.Ok w0 w0.heap.size from fun x hx => ((hr' x hx).below b0).up b0.size)
 have LK := Lib.hid (drawn_ok hr')
 have N1 := Lib.hid (Nat.le_trans _hc hm)
 have hnm : n' ≤ maxLen := Nat.le_trans _hc' hm'
 have NM := Lib.hid hnm
 have MR := Lib.hid hpr.2
 have B0 := Lib.hid b0
 have X8 := Lib.hid x8
 have X9 := Lib.hid x9
 have HW0 := Lib.hid hw0
 have HG := Lib.hid (And.intro hg8 hg9)
 clear hs hr hq hr' hq' _hc hm _hc' hm' hpr b0 x8 x9 hw0 hnm z0 hg9 hg8
 go_enter Tryz.func3, Tryz.ntmps3
 go_upto_region 1 with fail
 rw [HW0.out, HG.out.1, HG.out.2]
 go_wp2_with fail
 refine (Ev.Trues.at Ev.begun10 w0 S.out).mono ?_
 rintro e w1 ⟨rfl, b1⟩
 have B1 := Lib.hid b1
 have RW := Lib.hid (rows10_walk A n c l w1 ((R.out.below b1).up b1.size) N1.out)
 clear b1
 go_wp2_with fail
 refine RW.out.mono ?_
 rintro e w2 ⟨v2, ra, rfl, o2, m2, b2⟩
 obtain ⟨A2, c2, rfl, hc2⟩ := o2.shape
 obtain ⟨n2, hn2⟩ : ∃ n2, ra.length = n2 := ⟨_, rfl⟩
 have B2 := Lib.hid (B1.out.trans (b2.mono B1.out.size))
 have L2 := Lib.hid (show n2 ≤ 14 from by
  have := congrArg List.length m2
  unfold drawnRs at this
  rw [List.length_map, List.length_map, List.length_take, hn2] at this
  omega)
 rw [hn2] at o2 hc2 ⊢
 have C2 := Lib.hid hc2
 have RA := Lib.hid (show Rws w2 w2.heap.size A2 n2 ra from (o2.rws).2)
 have LW := Lib.hid (lines10_walk A' n' c' ls w2 (fun x hx => ((RO.out x hx).below B2.out).up B2.out.size) ((Q.out.below B2.out).up B2.out.size) NM.out)
 clear o2 m2 b2 hn2 hc2 RW R N1 Q RO
 go_wp2_with fail
 refine LW.out.mono ?_
 rintro e w3 ⟨v3, vs, rfl, L3, b3⟩
 obtain ⟨LS, hLS⟩ : ∃ LS, drawnLs ls = LS := ⟨_, rfl⟩
 rw [hLS] at L3 LK
 obtain ⟨A3, c3, rfl, hc3⟩ := own_cap L3.own
 obtain ⟨N, hN⟩ : ∃ N, LS.length = N := ⟨_, rfl⟩
 have RD := Lib.hid (show Lrd w3 w3.heap.size A3 N vs LS from by have h := (L3.rd (fun l hl => by have := LK.out.1.len l hl; omega)).2; rw [hN] at h; exact h)
 rw [hN] at hc3 ⊢
 have LK2 := Lib.hid (show LOk LS ∧ N ≤ 10 from ⟨LK.out.1, by rw [← hN]; exact LK.out.2⟩)
 have B3 := Lib.hid (B2.out.trans (b3.mono B2.out.size))
 have C3 := Lib.hid hc3
 have S3 := Lib.hid (S.out.below B3.out S.out.size)
 have RA3 := Lib.hid ((RA.out.below b3).up b3.size)
 obtain ⟨RS, hrs1, hrs2, hA1, hA2⟩ := both_all A3 N c3 x vs LS (by have := LK2.out.2; omega) LK2.out.1 hN
 have RS1 := Lib.hid hrs1
 have RS2 := Lib.hid hrs2
 have F1 := Lib.hid (hA1 w3 S3.out RD.out)
 have F2 := Lib.hid (fun (W : World) (hb : Laid w3 W) => hA2 W ((RD.out.below hb).up hb.size))
 clear hLS hN LW LK L3 b3 hc3 RA hrs1 hrs2 hA1 hA2
 go_wp2_with fail
 refine F1.out.mono ?_
 rintro e w4 ⟨v4, rs4, rfl, o4, m4, b4⟩
 obtain ⟨A4, c4, rfl, hc4⟩ := o4.shape
 obtain ⟨n4, hn4⟩ : ∃ n4, rs4.length = n4 := ⟨_, rfl⟩
 have W4 := Lib.hid (own_le o4 m4 RS1.out)
 have R4 := Lib.hid (show Rws w4 w4.heap.size A4 n4 rs4 from by have h := o4.rws.2; rw [hn4] at h; exact h)
 have M4 := Lib.hid m4
 have B4 := Lib.hid (show Laid w3 w4 from b4)
 have N4 := Lib.hid (show n4 ≤ 1000000 from by
  have h := congrArg List.length m4
  rw [List.length_map, hn4] at h
  have h2 := RS2.out
  have h3 := LK2.out.2
  omega)
 have HN4 := Lib.hid hn4
 have F3 := Lib.hid (F2.out w4 b4)
 rw [hn4]
 clear o4 m4 b4 hn4 F1 hc4
 go_wp2_with fail
 refine F3.out.mono ?_
 rintro e w5 ⟨v5, rs5, rfl, o5, m5, b5⟩
 obtain ⟨A5, c5, rfl, hc5⟩ := o5.shape
 have hl5 : rs5.length = n4 := by
  have h1 := congrArg List.length (m5.trans M4.out.symm)
  rw [List.length_map, List.length_map, HN4.out] at h1
  exact h1
 have W5 := Lib.hid (own_le o5 m5 RS1.out)
 have R5 := Lib.hid (show Rws w5 w5.heap.size A5 n4 rs5 from by have h := o5.rws.2; rw [hl5] at h; exact h)
 rw [hl5]
 have B5 := Lib.hid (show Laid w3 w5 from B4.out.trans (b5.mono B4.out.size))
 have R45 := Lib.hid ((R4.out.below b5).up b5.size)
 have B35 := Lib.hid (B3.out.trans (B5.out.mono B3.out.size))
 have S5 := Lib.hid (S.out.below B35.out S.out.size)
 have RA5 := Lib.hid ((RA3.out.below B5.out).up B5.out.size)
 have RD5 := Lib.hid ((RD.out.below B5.out).up B5.out.size)
 have X85 := Lib.hid ((B35.out.block g8 (Array.getElem?_eq_some_iff.1 X8.out).1).trans X8.out)
 have X95 := Lib.hid ((B35.out.block g9 (Array.getElem?_eq_some_iff.1 X9.out).1).trans X9.out)
 have EQR := Lib.hid (fun (W : World) (hb : Laid w5 W) => eqRowsL_walk A4 A5 n4 c4 c5 rs4 rs5 W N4.out ((R45.out.below hb).up hb.size) ((R5.out.below hb).up hb.size) W4.out W5.out (M4.out.trans m5.symm))
 have OK := Lib.hid (rows_ok RA5.out (by have := L2.out; omega))
 obtain ⟨J, hJ⟩ : ∃ J, joinL (ra.map lr) = J := ⟨_, rfl⟩
 have JN := Lib.hid (show J.length ≤ 1000000 from by have h := joinL_many (rs := ra.map lr); rw [List.length_map, RA5.out.len, hJ] at h; have := L2.out; omega)
 have JL := Lib.hid (show ∀ x ∈ J, x.length ≤ 1000000 from fun x hx => by rw [← hJ] at hx; have := OK.out.len x hx; omega)
 obtain ⟨s, hsv⟩ : ∃ s, markN (ra.map lr) (pr, pc) = s := ⟨_, rfl⟩
 have D5 : Laid w5 w5.drew := (Below.refl _ _).drew
 have HJ := Lib.hid hJ
 have HSV := Lib.hid hsv
 have BK := Lib.hid (show ∀ W, Laid w5 W → W.cell? ⟨g8, 0, none⟩ = some (.int .i64 pr) ∧ W.cell? ⟨g8, 1, none⟩ = some (.int .i64 pc) ∧ W.cell? ⟨g9, 0, none⟩ = some (.int .i64 i) ∧ W.cell? ⟨g9, 1, none⟩ = some (.int .i64 k) ∧ W.cell? ⟨g9, 2, none⟩ = some (.int .i64 p) from fun W hW => by
  have y8 := (hW.block g8 (Array.getElem?_eq_some_iff.1 X85.out).1).trans X85.out
  have y9 := (hW.block g9 (Array.getElem?_eq_some_iff.1 X95.out).1).trans X95.out
  exact ⟨cell_of_row _ _ 0 _ _ (0, 0) y8, cell_of_row _ _ 1 _ _ (0, 0) y8, cell_of_row _ _ 0 _ _ (0, 0) y9, cell_of_row _ _ 1 _ _ (0, 0) y9, cell_of_row _ _ 2 _ _ (0, 0) y9⟩)
 clear o5 m5 b5 hl5 F3 F2 hc5 hJ hsv
 go_upto_region 6 with fail
 obtain ⟨BB, hBB⟩ : ∃ BB : Bool, decide (1073741824 < p) = BB := ⟨_, rfl⟩
 have HBB := Lib.hid hBB
 clear hBB
 refine Ord.start (a := ?fr) (S := fun W => Laid w5 W) (n := 26) (by kernel_rfl) (by kernel_rfl) D5 ?_
 apply la_region (w1 := w5.drew) (Rd := fun W => Laid w5 W) (n := n2) (c := c2) (na := n4) (ca := c4) (nb := n4) (cb := c5) (g8 := g8) (g9 := g9) (n6 := J.length) (A := A2) (Aa := A4) (Ab := A5) (r := pr) (pc := pc) (p2 := p) (s0 := (s.1 : Int)) (s1 := (s.2.1 : Int)) (s2 := (s.2.2 : Int)) (B := BB)
  (P1 := fun W A6 c6 => Laid w5 W ∧ ∃ vs6, Lrd W W.heap.size A6 J.length vs6 J) (P2 := fun W A6 c6 A7 c7 => Laid w5 W ∧ (∃ vs6, Lrd W W.heap.size A6 J.length vs6 J) ∧ ∃ vs7, Lrd W W.heap.size A7 J.length vs7 J) (P3 := fun W => Laid w5 W) (a0 := ?fr)
 case R => exact ⟨by kernel_rfl, by kernel_rfl⟩
 case hQ => exact fun _ _ _ _ _ h => h
 case C1 =>
  refine (join_walk A2 n2 c2 ra w5.drew (S5.out.below D5 S5.out.size) ((RA5.out.below D5).up D5.size) C2.out (by have := L2.out; omega)).mono ?_
  rintro e W ⟨v6, vs6, rfl, l6, b6⟩
  rw [HJ.out] at l6
  obtain ⟨A6, c6, rfl, _⟩ := own_cap l6.own
  exact ⟨A6, c6, rfl, D5.trans (b6.mono D5.size), vs6, (l6.rd JL.out).2⟩
 case C2 =>
  rintro W A6 c6 ⟨hW, vs6, h6⟩
  refine (refJoin_walk A2 n2 c2 ra W ((RA5.out.below hW).up hW.size) (by have := L2.out; omega)).mono ?_
  rintro e W' ⟨v7, vs7, rfl, l7, b7⟩
  rw [HJ.out] at l7
  obtain ⟨A7, c7, rfl, _⟩ := own_cap l7.own
  exact ⟨A7, c7, rfl, hW.trans (b7.mono hW.size), ⟨vs6, (h6.below b7).up b7.size⟩, vs7, (l7.rd JL.out).2⟩
 case C3 =>
  rintro W A6 c6 A7 c7 ⟨hW, ⟨vs6, h6⟩, vs7, h7⟩
  refine (eq_walk A6 A7 J.length c6 J.length c7 vs6 vs7 J J W JN.out h6 h7).mono ?_
  rintro e W' ⟨rfl, b7⟩
  exact ⟨by rw [eqLs_refl], hW.trans (b7.mono hW.size)⟩
 case C4 =>
  rintro W hW
  refine (EQR.out W hW).mono ?_
  rintro e W' ⟨rfl, b7⟩
  exact ⟨rfl, hW.trans (b7.mono hW.size)⟩
 case C5 =>
  rintro W hW
  refine (mark_walk A2 n2 c2 ra (pr, pc) W (S5.out.below hW S5.out.size) ((RA5.out.below hW).up hW.size) C2.out (by have := L2.out; omega) MR.out).mono ?_
  rintro e W' ⟨rfl, b7⟩
  exact ⟨by rw [HSV.out]; rfl, hW.trans (b7.mono hW.size)⟩
 case C6 =>
  rintro W hW
  refine (refMark_any A2 n2 c2 ra (pr, pc) W ((RA5.out.below hW).up hW.size) (by have := L2.out; omega)).mono ?_
  rintro e W' ⟨rfl, b7⟩
  exact ⟨by rw [HSV.out]; rfl, hW.trans (b7.mono hW.size)⟩
 case ne => exact fun w => neq_spot _ _ _ w
 case hB => exact HBB.out
 case kp0 => exact fun W h => (BK.out W h).1
 case kp1 => exact fun W h => (BK.out W h).2.1
 case k9 => exact fun W h => (BK.out W h).2.2.2.2
 case KS1 => exact fun W A6 c6 h => h.1
 case KS2 => exact fun W A6 c6 A7 c7 h => h.1
 case KS3 => exact fun W h => h
 case hS => exact D5
 case F => exact ⟨rfl, rfl, rfl, rfl, rfl, rfl, Fr.refl _ _ _⟩
 rintro a7 w6 hW6 F7 f52
 obtain ⟨l5, hl5, ea⟩ := F7.fr.ex (by omega) (by simp)
 have B6 := Lib.hid hW6
 clear hW6 D5
 match l5, hl5 with
 | [v0, v1, v2, v3, v4, v5, v6, v7, v8, v9, v10, v11, v12, v13, v14, v15, v16, v17, v18, v19, v20, v21, v22, v23, v24, v25], _ =>
  rw [ea] at f52 ⊢
  clear ea F7
  simp only [List.take_succ_cons, List.take_zero, List.drop_succ_cons, List.drop_zero, List.cons_append, List.nil_append] at f52 ⊢
  have e25 : v25 = .bool BB := by
   unfold Chain.At at f52
   simpa using f52
  subst e25
  have I6 := Lib.hid (B0.out.trans ((B35.out.trans (B6.out.mono B35.out.size)).mono B0.out.size))
  obtain ⟨j0, j1, j2, j3, j4⟩ := BK.out w6 B6.out
  clear f52
  cases BB with
  | true =>
   have hd := HBB.out
   go_wp2_with fail
   go_ret
   exact ⟨rfl, I6.out⟩
  | false =>
   have hp30 : p ≤ 1073741824 := by have h := HBB.out; simp at h; exact h
   have PL1 := Lib.hid (fun (W : World) (hb : Laid w5 W) => placeAny_walk A3 N c3 x i k p vs LS W (S5.out.below hb S5.out.size) ((RD5.out.below hb).up hb.size) C3.out (by have := LK2.out.2; omega) LK2.out.1 hp30)
   have PL2 := Lib.hid (fun (W : World) (hb : Laid w5 W) => refPlaceAny_walk A3 N c3 x i k p vs LS W ((RD5.out.below hb).up hb.size) C3.out (by have := LK2.out.2; omega) LK2.out.1 hp30)
   obtain ⟨⟨t1, t2⟩, htv⟩ : ∃ t, placeW x LS i k p = t := ⟨_, rfl⟩
   rw [htv] at PL1 PL2
   clear htv hp30
   go_upto_region 8 with fail
   obtain ⟨Jx, hJx, F, h0, hBn, hN'⟩ := Cls.below w6
   have H0 := Lib.hid h0
   have HBn := Lib.hid hBn
   have PN1 := Lib.hid (show ∀ n, Calls Tryz.prog 19 #[.slice A3 N c3, .int .i64 x, .agg #[.int .i64 i, .int .i64 k, .int .i64 p]] (F n) fun e w' => e = .returned (.agg #[.int .i64 (t1 : Int), .int .i64 (t2 : Int)]) ∧ ∃ m, w' = F m from fun n => (PL1.out (F n) (B6.out.trans ((hBn n).mono B6.out.size))).mono fun e w' ⟨he, hb⟩ => ⟨he, hN' n w' hb⟩)
   have PN2 := Lib.hid (show ∀ n, Calls Tryz.prog 20 #[.slice A3 N c3, .int .i64 x, .agg #[.int .i64 i, .int .i64 k, .int .i64 p]] (F n) fun e w' => e = .returned (.agg #[.int .i64 (t1 : Int), .int .i64 (t2 : Int)]) ∧ ∃ m, w' = F m from fun n => (PL2.out (F n) (B6.out.trans ((hBn n).mono B6.out.size))).mono fun e w' ⟨he, hb⟩ => ⟨he, hN' n w' hb⟩)
   have KB := Lib.hid (fun n => BK.out (F n) (B6.out.trans ((hBn n).mono B6.out.size)))
   have k0 := fun n => (KB.out n).2.2.1
   have k1 := fun n => (KB.out n).2.2.2.1
   have k2 := fun n => (KB.out n).2.2.2.2
   have EP := fun w => eql_pos (t1 : Int) (t2 : Int) w
   clear h0 hBn hN' j0 j1 j2 j3 j4
   refine Cls.region F H0.out (by kernel_rfl) (by kernel_rfl) ?_
   repeat (go_big_quiet_step (first | (go_at_call 19; exact PN1.out _) | (go_at_call 20; exact PN2.out _)))
   refine wpQuiet_nil ?_
   intro _ hw'
   obtain ⟨nq, hw''⟩ := hw'
   subst hw''
   have IF := Lib.hid (I6.out.trans ((HBn.out nq).mono I6.out.size))
   clear k0 k1 k2
   go_wp2
   go_ret
   exact ⟨rfl, IF.out⟩
set_option maxRecDepth 100000 in
theorem contract (H : Type) (enc : TypeId × Value → H) (W : World) (base : Nat) (args : Array Value) (ds gs : List (DataW H)) (before : List MemPlace)
  (hval : ∀ (j : Nat) t v, Tryz.f3.params[j]? = some t → args[j]? = some v → Value.okWide Tryz.prog W .any base t v)
  (hW : DataW.Whole enc Tryz.prog Tryz.f3.params.toList Rows.lineAllSpec.vars false W args.toList ds gs before) (hL : laidMetH Tryz.prog Rows.lineAllRow.laid W) :
  Calls Tryz.prog 3 args W fun e W' => ∃ v, e = .returned v ∧ Rows.lineAllSpec.post enc Tryz.prog Tryz.f3 false true false false W args v W' := by
 have hW' := hW
 obtain ⟨p, q, hA0, hV, rfl, hfz, hnd⟩ := hW
 have hA : DataW.TrodAll enc Tryz.prog W 0 (fun _ => true) true Tryz.f3.params.toList args.toList ds p := hA0
 rw [Tryz.params3] at hA hval
 obtain ⟨v0, vs0, d0, ds0, p0, q0, hargs, rfl, rfl, h0, r0⟩ := trodAll_cons hA
 obtain ⟨v1, vs1, d1, ds1, p1, q1, rfl, rfl, rfl, h1, r1⟩ := trodAll_cons r0
 obtain ⟨v2, vs2, d2, ds2, p2, q2, rfl, rfl, rfl, h2, r2⟩ := trodAll_cons r1
 obtain ⟨v3, vs3, d3, ds3, p3, q3, rfl, rfl, rfl, h3, r3⟩ := trodAll_cons r2
 obtain ⟨v4, vs4, d4, ds4, p4, q4, rfl, rfl, rfl, h4, r4⟩ := trodAll_cons r3
 obtain ⟨rfl, rfl, rfl⟩ := trodAll_nil r4
 obtain rfl : args = #[v0, v1, v2, v3, v4] := by cases args; simp_all
 obtain ⟨rfl, rfl⟩ := trodVars_none hV
 obtain ⟨Ax, nx, cx, x, rfl, hcx, hmx, hrx, hqx⟩ := open_rows (hval 0 22 v0 rfl rfl) h0
 obtain ⟨Ay, ny, cy, y, rfl, hcy, hmy, hry, hqy⟩ := open_lines (hval 1 23 v1 rfl rfl) h1
 obtain ⟨z, rfl, rfl, rfl, wz⟩ := open_int Tryz.underlying3 (hval 2 3 v2 rfl rfl) h2
 obtain ⟨u, rfl, hcu, hmu⟩ := open_onepos (hval 3 25 v3 rfl rfl) h3
 obtain ⟨a5, rfl⟩ := open_onespot (hval 4 27 v4 rfl rfl) h4
 clear hA0
 refine (walk Ax nx cx x hcx hmx Ay ny cy y hcy hmy z (wf_i64 wz) u.1 u.2 hcu hmu a5.1 a5.2.1 a5.2.2 W (spans_of hL) hrx hqx hry hqy).mono fun e W' ⟨he, hg⟩ => ?_
 subst he
 exact ⟨_, rfl, close rfl hW' ⟨rfl, rfl, rfl⟩ (by kernel_rfl) (by kernel_rfl) hg⟩
set_option maxRecDepth 100000 in
theorem laid_met (os : Os) : laidMet Tryz.prog Rows.lineAllRow.laid ((laidWorld os).forCall (fun _ _ => 0) ⟨#[], #[.slice none 0 0, .slice none 0 0, .int .i64 0, .agg #[.int .i64 0, .int .i64 0], .agg #[.int .i64 0, .int .i64 0, .int .i64 0]], []⟩).memory :=
 laidMet_of_run' 8 (by kernel_rfl) (by kernel_rfl)
set_option maxRecDepth 100000 in
theorem reads (os : Os) {H : Type} (enc : TypeId × Value → H) : ∃ places, DataW.whole enc Tryz.prog ((laidWorld os).forCall (fun _ _ => 0) ⟨#[], #[.slice none 0 0, .slice none 0 0, .int .i64 0, .agg #[.int .i64 0, .int .i64 0], .agg #[.int .i64 0, .int .i64 0, .int .i64 0]], []⟩).memory Tryz.f3.params.toList Rows.lineAllSpec.vars false (#[.slice none 0 0, .slice none 0 0, .int .i64 0, .agg #[.int .i64 0, .int .i64 0], .agg #[.int .i64 0, .int .i64 0, .int .i64 0]] : Array Value).toList 8 = some ([.nil, .nil, .lit (.int .i64 0), .agg [.lit (.int .i64 0), .lit (.int .i64 0)], .agg [.lit (.int .i64 0), .lit (.int .i64 0), .lit (.int .i64 0)]], [], places) :=
 ⟨[], by kernel_rfl⟩
set_option maxRecDepth 100000 in
theorem lifted (os : Os) (started : os.Started) (H : Type) (enc : TypeId × Value → H) (F : Stop.Interp) :
  ReturnsInHanded {} Tryz.checked os 3 .any ((OpenSpec.ofChange Rows.lineAllSpec).preRow enc Tryz.prog Tryz.f3 Rows.lineAllRow.domain false Rows.lineAllRow.laid) (((OpenSpec.ofChange Rows.lineAllSpec).at F).post enc Tryz.prog Tryz.f3 false true false false) := by
 obtain ⟨places, hx⟩ := reads os enc
 refine returnsInHanded_of_row (C := Tryz.checked) (s := OpenSpec.ofChange Rows.lineAllSpec) ownNone started (by kernel_rfl) Tryz.func3
  (witness_row_at (enc := enc) (C := Tryz.checked) false (laidWorld os) #[.slice none 0 0, .slice none 0 0, .int .i64 0, .agg #[.int .i64 0, .int .i64 0], .agg #[.int .i64 0, .int .i64 0, .int .i64 0]] rfl (by kernel_rfl) (by kernel_rfl) (by kernel_rfl)
   (OpenSpec.preRow_of_cond 8 hx (by kernel_rfl) (fun k hk => by cases hk) (by kernel_rfl) (laid_met os))) ?_
 intro W base args ds gs before hval hW _ _ _ hL _ _
 exact contract H enc W base args ds gs before hval hW hL
set_option maxRecDepth 100000 in
set_option maxHeartbeats 0 in
theorem facts : joinedFacts Tryz.checked.prog 3 Tryz.f3 (OpenSpec.ofChange Rows.lineAllSpec).bare Rows.lineAllRow = true := by
 have h1 := Sum.tables.1
 have h2 := Sum.tables.2.1
 have h3 := Sum.tables.2.2
 have h4 := Sum.mayEnter
 have e1 : Rows.lineAllRow.lifted = Rows.lineAllRow.lifted := by kernel_rfl
 have e2 : Rows.lineAllRow.make = Rows.lineAllRow.make := by kernel_rfl
 have h5 : (Rows.lineAllRow.lifted == Tryz.checked.prog.liftsFinal) = true := by rw [e1]; exact Sum.lifts
 have h6 : (Tryz.checked.prog.make == some Rows.lineAllRow.make) = true := by rw [e2]; exact Sum.make
 unfold joinedFacts
 repeat' (with_reducible refine Sum.and_mk ?_ ?_)
 all_goals first
  | with_reducible exact h1
  | with_reducible exact h2
  | with_reducible exact h4
  | with_reducible exact h5
  | with_reducible exact h6
  | (rw [h3]; as_aux_lemma => kernel_rfl)
  | (clear h1 h2 h3 h4 h5 h6 e1 e2; as_aux_lemma => kernel_rfl)
set_option maxRecDepth 100000 in
theorem said : Rows.LineAllSaid :=
 OpenClaim.holds_of_cond 3 Tryz.f3 rfl rfl rfl rfl rfl rfl rfl ⟨rfl, rfl, rfl, rfl, rfl⟩ rfl rfl rfl rfl rfl (by kernel_rfl) Tryz.func3 facts
  (of_decide_eq_true (by kernel_rfl)) (by unfold Func.isWrapper; first | (rw [if_pos (by decide +kernel)]; kernel_rfl) | (rw [if_neg (by decide +kernel)]; exact ⟨rfl, rfl⟩))
  (fun os started H enc _ F => by rw [OpenClaim.pre_eq_preRow]; exact lifted os started H enc F)
set_option maxRecDepth 100000 in
theorem plain (f : FuncId) (fn : Func) (hf : Tryz.pinned.checked.prog.funcNamed "rotulus/rotuluslaw10.LineAll" = some f) (hfn : Tryz.pinned.checked.prog.funcs[f]? = some fn) :
  false = Tryz.pinned.checked.prog.looks [] ∧ ∀ (j : Nat) t, fn.params[j]? = some t → Tryz.pinned.checked.prog.wantsStandIn t = false := by
 obtain rfl : f = 3 := Option.some.inj ((show Tryz.prog.funcNamed "rotulus/rotuluslaw10.LineAll" = some 3 by kernel_rfl).symm.trans hf) |>.symm
 obtain rfl : fn = Tryz.f3 := (Option.some.inj (Tryz.func3.symm.trans hfn)).symm
 refine ⟨by kernel_rfl, fun j t ht => ?_⟩
 rw [Tryz.params3] at ht
 have hm := Array.mem_of_getElem? ht
 simp at hm
 rcases hm with rfl | rfl | rfl | rfl | rfl
 ·exact (show Tryz.prog.wantsStandIn 22 = false by kernel_rfl)
 ·exact (show Tryz.prog.wantsStandIn 23 = false by kernel_rfl)
 ·exact (show Tryz.prog.wantsStandIn 3 = false by kernel_rfl)
 ·exact (show Tryz.prog.wantsStandIn 25 = false by kernel_rfl)
 ·exact (show Tryz.prog.wantsStandIn 27 = false by kernel_rfl)
set_option maxRecDepth 100000 in
theorem card : Rows.LineAllCardSaid :=
 Claim7.holds_tied_plain_at .later [] _ _ _ _ said (fun _ h => by cases h) (by kernel_rfl) (fun _ h => by cases h) lineAll_row_tie rfl ⟨rfl, rfl⟩ (by kernel_rfl) rfl plain (by kernel_rfl)
end Go.Proofs.YtgmijnnhanpocaaGreatDoor.lineAll
