/-
  The statement ScreenMoves: moves of the cursor write nothing, and do not go out. For every text (of which the statement reads the first 100 bytes) and every list of integers (of which it reads the first 30); it holds where the table of widths is as its initialiser lays it, which the card ties to the program's text.
-/
import Derived.Test.YtaclmhopcfgbmaaGreatDoorQBegun0
import Derived.Test.YtaclmhopcfgbmaaGreatDoorQBase4
import Derived.Test.YtaclmhopcfgbmaaGreatDoorQSum0
import Derived.Test.YtaclmhopcfgbmaaGreatDoorQLaw1
namespace Go.Proofs.YtaclmhopcfgbmaaGreatDoor.screenMoves
open Go.ChangeShapes Go.WideShapes Go.ChangeAt Go.RowKit
open Sc Rw
theorem mod_range (x : Int) (m : Int) (hm : 0 < m) : -m < x.tmod m ∧ x.tmod m < m := by
 have h1 := Int.tmod_lt_of_pos x hm
 have h2 := Int.tmod_lt_of_pos (-x) hm
 rw [Int.neg_tmod] at h2
 omega
def theR : List Int := [65, 66, 67, 68, 72, 109, 122, 72]
theorem moved {s : Scr} {r : Int} (l : List Int) (h : r ∈ theR) : (doS s 3 r l).rows = s.rows ∧ 0 ≤ r ∧ r < 128 := by
 simp only [theR, List.mem_cons, List.not_mem_nil, or_false] at h
 rcases h with rfl | rfl | rfl | rfl | rfl | rfl | rfl | rfl
 all_goals exact ⟨rfl, by omega, by omega⟩
structure M (w0 : World) (p g B : Nat) (R : List SR) (v : Value) (vs : List RowIn) (W : World) : Prop where
 scr : ∃ s xs, Wp w0 p g s xs W ∧ s.rows = R ∧ s.w = 7
 was : RowsIn W B v vs
 low : p < B ∧ g < B
theorem M.laid {w0 W W' : World} {p g B : Nat} {R : List SR} {v : Value} {vs : List RowIn} (h : M w0 p g B R v vs W) (hb : Below W.heap.size W W') : M w0 p g B R v vs W' :=
 let ⟨s, xs, a, b, c⟩ := h.scr
 ⟨⟨s, xs, a.laid hb, b, c⟩, h.was.below hb, h.low⟩
theorem M.old {w0 W : World} {p g B : Nat} {R : List SR} {v : Value} {vs : List RowIn} (h : M w0 p g B R v vs W) : Below w0.heap.size w0 W := let ⟨_, _, a, _⟩ := h.scr; a.old
theorem M.do' {w0 W : World} {p g B b : Nat} {R : List SR} {v : Value} {vs : List RowIn} (h : M w0 p g B R v vs W) {r : Int} (hr : r ∈ theR) (l : List Int) {n : Nat} (hl : l.length = n) (hn : n ≤ 1000000) (hb : W.heap[b]? = some (.cells (l.map (Value.int .i64)).toArray 3 (0, 0))) :
  Calls Tryz.prog 39 #[ptrS p, .agg #[.int .i64 3, .int .i32 r, .slice (some ⟨b, 0, none⟩) n n, .string ⟨#[]⟩]] W fun e W' => (∃ A c, e = .returned (.slice A 0 c)) ∧ M w0 p g B R v vs W' := by
 obtain ⟨s, xs, a, hR, hw⟩ := h.scr
 have hm := moved (s := s) l hr
 refine (a.do' 3 r (some ⟨b, 0, none⟩) n n ⟨#[]⟩ l (by omega) (by omega) (fun _ => hm.2) hn (fun W' zs t => block_arg hl hb a.scr t)).mono ?_
 rintro e W' ⟨A, c, zs, rfl, P, T⟩
 have hd := doS_dims (s := s) 3 r l a.scr.ok.h1
 refine ⟨⟨A, c, rfl⟩, ⟨_, zs, P, hm.1.trans hR, hd.1.trans hw⟩, h.was.turned T.turned (fun k e m => ?_) a.scr.noC, h.low⟩
 have h1 := (h.was.lt k e).1
 have h2 := h.low
 rcases m with rfl | rfl <;> omega
set_option maxRecDepth 100000 in
set_option maxHeartbeats 6400000 in
theorem walk (t : ByteArray) (_ht : t.size ≤ 9223372036854775807) (A : Option Addr) (n c : Nat) (l : List Int) (_hc : n ≤ c) (_hm : c ≤ maxLen) (hr : ∀ x ∈ l, -9223372036854775808 ≤ x ∧ x ≤ 9223372036854775807) (w : World) (hs : Spans w) (hq : Sq w w.heap.size 1 n A (l.map (Value.int .i64))) :
  Calls Tryz.prog 13 #[.string t, .slice A n c] w fun e w' => e = .returned (.bool true) ∧ Below w.heap.size w w' := by
 have S := Lib.hid hs
 have Q := Lib.hid hq
 have HR := Lib.hid (show ∀ k, -9223372036854775808 ≤ nth l k ∧ nth l k ≤ 9223372036854775807 from fun k => by
  by_cases hk : k < l.length
  ·rw [nth_get hk]; exact hr _ (List.getElem_mem hk)
  ·have e : nth l k = 0 := by simp [nth, List.getD, show l.length ≤ k by omega]
   rw [e]; omega)
 clear hs hq hr
 go_enter Tryz.func13, Tryz.ntmps13
 go_wp2_with fail
 refine (Bg.begun7_walk w S.out).mono ?_
 rintro e w1 ⟨rfl, b1⟩
 have NW := Lib.hid (Wp.new' (w0 := w) 7 3 b1 (S.out.below b1 S.out.size))
 clear b1
 go_wp2_with fail
 refine NW.out.mono ?_
 rintro e w2 ⟨p, g, xs, rfl, P2, _, _, _⟩
 have P2' := Lib.hid P2
 clear P2 NW
 go_wp2_with fail
 refine (short_walk t 100 w2).mono ?_
 rintro e w' ⟨rfl, rfl⟩
 have F := Lib.hid (P2'.out.feed (shortS t 100) (by have := shortS_size t 100; omega))
 go_wp2_with fail
 refine F.out.mono ?_
 rintro e w3 ⟨m, rfl, ys, P3, _⟩
 obtain ⟨s3, hs3⟩ : ∃ s3, feedS (newS 7 3) (shortS t 100) = s3 := ⟨_, rfl⟩
 have D3 := Lib.hid (show s3.w = 7 ∧ s3.rows.length = 3 by
  have := feedS_dims (s := newS 7 3) (shortS t 100) (by rw [(newS_dims 7 3).2]; decide)
  rw [hs3, (newS_dims 7 3).1, (newS_dims 7 3).2] at this
  exact this)
 rw [hs3] at P3
 have P3' := Lib.hid P3
 have SH := Lib.hid (rows_walk w3 P3.scr)
 clear P3 hs3 F P2'
 go_wp2_with fail
 refine SH.out.mono ?_
 rintro e w4 ⟨v, vs, rfl, H4⟩
 obtain ⟨A4, c4, rfl, _⟩ := H4.rows.shape
 have hvl : vs.length = 3 := by rw [← D3.out.2, ← H4.same, List.length_map]
 have M4 := Lib.hid (show M w p g w3.heap.size s3.rows (.slice A4 3 c4) vs w4 from by
  have h := H4.rows
  rw [hvl] at h
  exact ⟨⟨s3, ys, P3'.out.laid H4.old, rfl, D3.out.1⟩, h, P3'.out.scr.ltp, P3'.out.scr.ltg⟩)
 have VS := Lib.hid (show vs.map sr = s3.rows ∧ ∀ x ∈ vs, x.n ≤ 1000000 from ⟨H4.same, fun x hx => by rw [(H4.each x hx).1, D3.out.1]; omega⟩)
 rw [hvl]
 obtain ⟨B, hB⟩ : ∃ B, w3.heap.size = B := ⟨_, rfl⟩
 rw [hB] at M4
 have L3 := Lib.hid D3.out.2
 clear SH H4 P3' D3 hvl hB
 go_wp2_with fail
 go_loopw [8, 9, 10, 11, 12, 13] (fun i _ _ _ _ _ wr => ∃ k : Nat, i = .int .i64 (k : Int) ∧ k ≤ n ∧ k ≤ 30 ∧ Hid (M w p g B s3.rows (.slice A4 3 c4) vs wr)) (fun i _ _ _ _ _ _ => n - (intOf i).toNat)
 case atStart => exact ⟨0, rfl, Nat.zero_le _, Nat.zero_le _, M4⟩
 case round =>
  obtain ⟨k, rfl, hk, hk30, MM⟩ := hrel
  clear M4
  by_cases hlt : k < n ∧ k < 30
  ·obtain ⟨h1, h2⟩ := hlt
   obtain ⟨bq, off, rfl, _, hc0⟩ := (Q.out.below MM.out.old).int_at h1
   have hrr := HR.out k
   obtain ⟨y, hy⟩ : ∃ y, nth l k = y := ⟨_, rfl⟩
   rw [hy] at hc0 hrr
   have f0 : IntKind.i64.wrap (y.tdiv 8) = y.tdiv 8 := IntWalk.i64_in _ (by
    have h5 := Int.tmod_add_mul_tdiv y 8
    have h6 := mod_range y 8 (by omega)
    omega)
   obtain ⟨z, hz⟩ : ∃ z, y.tdiv 8 = z := ⟨_, rfl⟩
   rw [hz] at f0
   have mz := mod_range z 20 (by omega)
   have f1 : IntKind.i64.wrap (z.tmod 20 + 20) = z.tmod 20 + 20 := IntWalk.i64_in _ (by omega)
   have pz := Int.tmod_nonneg 20 (show 0 ≤ z.tmod 20 + 20 by omega)
   have uz := mod_range (z.tmod 20 + 20) 20 (by omega)
   obtain ⟨a, ha⟩ : ∃ a : Nat, (z.tmod 20 + 20).tmod 20 = (a : Int) := ⟨((z.tmod 20 + 20).tmod 20).toNat, by omega⟩
   have my := mod_range y 8 (by omega)
   have f2 : IntKind.i64.wrap (y.tmod 8 + 8) = y.tmod 8 + 8 := IntWalk.i64_in _ (by omega)
   have py := Int.tmod_nonneg 8 (show 0 ≤ y.tmod 8 + 8 by omega)
   have uy := mod_range (y.tmod 8 + 8) 8 (by omega)
   obtain ⟨q, hq⟩ : ∃ q : Nat, (y.tmod 8 + 8).tmod 8 = (q : Int) := ⟨((y.tmod 8 + 8).tmod 8).toNat, by omega⟩
   have hq8 : q < 8 := by omega
   have ha20 : a < 20 := by omega
   have g1 : (a : Int).tdiv 2 = ((a / 2 : Nat) : Int) := by simp
   obtain ⟨a2, ha2⟩ : ∃ a2, a / 2 = a2 := ⟨_, rfl⟩
   rw [ha2] at g1
   have g2 : IntKind.i64.wrap (a2 : Int) = (a2 : Int) := IntWalk.i64_in _ (by omega)
   have hk0 : (0 : Int) ≤ (k : Int) := by omega
   have hkn : (k : Int) < (n : Int) := by omega
   have hk3 : (k : Int) < 30 := by omega
   have hinc : IntKind.i64.wrap ((k : Int) + 1) = (k : Int) + 1 := IntWalk.i64_in _ (by omega)
   have hq0 : (0 : Int) ≤ (q : Int) := by omega
   have hq9 : (q : Int) < 8 := by omega
   obtain ⟨bA, hbA⟩ : ∃ b, wr.heap.size = b := ⟨_, rfl⟩
   obtain ⟨wA, hwA⟩ : ∃ wA, wr.alloc (.cells #[.int .i32 65, .int .i32 66, .int .i32 67, .int .i32 68, .int .i32 72, .int .i32 109, .int .i32 122, .int .i32 72] 21) = wA := ⟨_, rfl⟩
   obtain ⟨bB, hbB⟩ : ∃ b, wA.heap.size = b := ⟨_, rfl⟩
   obtain ⟨wB, hwB⟩ : ∃ wB, wA.alloc (.cells #[.int .i64 (a : Int), .int .i64 (a2 : Int)] 3) = wB := ⟨_, rfl⟩
   obtain ⟨r, hrR, hcA⟩ : ∃ r, r ∈ theR ∧ wA.cell? ⟨bA, q, none⟩ = some (.int .i32 r) := by
    have hA : wA.heap[bA]? = some (.cells (theR.map (Value.int .i32)).toArray 21 (0, 0)) := by rw [← hwA, ← hbA]; exact heap_alloc_new wr _
    have hql : q < theR.length := hq8
    refine ⟨theR[q], List.getElem_mem hql, ?_⟩
    rw [cell_of_row _ bA q _ _ (0, 0) hA, List.getElem?_toArray, List.getElem?_map, List.getElem?_eq_getElem hql]
    rfl
   obtain ⟨bC, hbC⟩ : ∃ b, wB.heap.size = b := ⟨_, rfl⟩
   obtain ⟨wC, hwC⟩ : ∃ wC, wB.alloc (.cells #[.int .i64 3, .int .i32 r, .slice (some ⟨bB, 0, none⟩) 2 2, .string ⟨#[]⟩] 35) = wC := ⟨_, rfl⟩
   have bAB : Below wr.heap.size wr wA := by rw [← hwA]; exact (Below.refl _ _).alloc (Nat.le_refl _) _
   have bBB : Below wA.heap.size wA wB := by rw [← hwB]; exact (Below.refl _ _).alloc (Nat.le_refl _) _
   have bCC : Below wB.heap.size wB wC := by rw [← hwC]; exact (Below.refl _ _).alloc (Nat.le_refl _) _
   have hBB : wB.heap[bB]? = some (.cells #[.int .i64 (a : Int), .int .i64 (a2 : Int)] 3 (0, 0)) := by rw [← hwB, ← hbB]; exact heap_alloc_new wA _
   have hCB : wC.heap[bB]? = some (.cells #[.int .i64 (a : Int), .int .i64 (a2 : Int)] 3 (0, 0)) := (bCC.block bB (Array.getElem?_eq_some_iff.1 hBB).1).trans hBB
   have hCC : wC.heap[bC]? = some (.cells #[.int .i64 3, .int .i32 r, .slice (some ⟨bB, 0, none⟩) 2 2, .string ⟨#[]⟩] 35 (0, 0)) := by rw [← hwC, ← hbC]; exact heap_alloc_new wB _
   have hbc0 : (wr.alloc (.cells #[.int .i32 65, .int .i32 66, .int .i32 67, .int .i32 68, .int .i32 72, .int .i32 109, .int .i32 122, .int .i32 72] 21)).cell? ⟨wr.heap.size, q, none⟩ = some (.int .i32 r) := by rw [hwA, hbA]; exact hcA
   have DO := Lib.hid ((((MM.out.laid bAB).laid bBB).laid bCC).do' hrR [(a : Int), (a2 : Int)] (n := 2) rfl (by omega) hCB)
   have q0 : wC.cell? ⟨bC, 0, none⟩ = some (.int .i64 3) := cell_of_row _ _ 0 _ _ (0, 0) hCC
   have q1 : wC.cell? ⟨bC, 1, none⟩ = some (.int .i32 r) := cell_of_row _ _ 1 _ _ (0, 0) hCC
   have q2 : wC.cell? ⟨bC, 2, none⟩ = some (.slice (some ⟨bB, 0, none⟩) 2 2) := cell_of_row _ _ 2 _ _ (0, 0) hCC
   have q3 : wC.cell? ⟨bC, 3, none⟩ = some (.string ⟨#[]⟩) := cell_of_row _ _ 3 _ _ (0, 0) hCC
   have WA := Lib.hid hwA
   have WB := Lib.hid hwB
   have WC := Lib.hid hwC
   have BB := Lib.hid (show wr.heap.size + 1 = bB by rw [← hbB, ← hwA]; simp)
   have BC := Lib.hid (show bB + 1 = bC by rw [← hbC, ← hwB, ← hbB]; simp)
   clear mz pz uz my py uy hrr hy ha2 hwA hwB hwC hbA hbB hbC bAB bBB bCC hBB hCB hCC hcA hrR MM
   go_wp2_with fail
   rw [BB.out, BC.out, WA.out, WB.out, WC.out]
   clear WA WB WC BB BC hbc0
   refine DO.out.mono ?_
   rintro e w5 ⟨⟨A5, c5, rfl⟩, M5⟩
   obtain ⟨s5, xs5, P5, hR5, hw5⟩ := M5.scr
   have CW := Lib.hid (cursor_walk w5 P5.scr)
   have hrow := P5.scr.ok.row
   have hcol := P5.scr.ok.col
   rw [hR5, L3.out] at hrow
   rw [hw5] at hcol
   have M5' := Lib.hid M5
   obtain ⟨rr, hrr⟩ : ∃ rr, s5.r = rr := ⟨_, rfl⟩
   obtain ⟨cc, hcc⟩ : ∃ cc, s5.c = cc := ⟨_, rfl⟩
   rw [hrr, hcc] at CW
   rw [hrr] at hrow
   rw [hcc] at hcol
   clear DO M5 P5 hR5 hw5 hrr hcc q0 q1 q2 q3
   go_wp2_with fail
   refine CW.out.mono ?_
   rintro e w6 ⟨rfl, b6⟩
   have M6 := Lib.hid (M5'.out.laid b6)
   have c1 : ¬ ((rr : Int) < 0) := by omega
   have c2 : ¬ ((3 : Int) ≤ (rr : Int)) := by omega
   have c3 : ¬ ((cc : Int) < 0) := by omega
   have c4 : ¬ ((7 : Int) < (cc : Int)) := by omega
   obtain ⟨b7, hb7⟩ : ∃ b7, w6.heap.size = b7 := ⟨_, rfl⟩
   obtain ⟨w7, hw7⟩ : ∃ w7, w6.alloc (.cells #[.int .i64 (rr : Int), .int .i64 (cc : Int)] 68) = w7 := ⟨_, rfl⟩
   have M7 := Lib.hid (M6.out.laid (W' := w7) (by rw [← hw7]; exact (Below.refl _ _).alloc (Nat.le_refl _) _))
   have HW := Lib.hid hw7
   clear CW b6 M5' M6 hb7 hw7
   go_wp2
   rw [HW.out]
   go_roundw
   case rel => exact ⟨k + 1, by first | rfl | (congr 1; done) | (congr 1; omega), by omega, by omega, M7⟩
   case measure => first | (simp [intOf]; done) | (simp [intOf]; omega)
  ·have hno : ¬ ((k : Int) < (n : Int)) ∨ ¬ ((k : Int) < 30) := by omega
   obtain ⟨s5, xs5, P5, hR5, hw5⟩ := MM.out.scr
   have hl5 : s5.rows.length = 3 := by rw [hR5]; exact L3.out
   have P5' := Lib.hid P5
   have SH := Lib.hid (show Calls Tryz.prog 48 #[ptrS p] wr fun e W' => ∃ A c us, e = .returned (.slice A 3 c) ∧ Sc.Rd W' A 3 us ∧ us.map sr = s3.rows ∧ Below wr.heap.size wr W' from by
    have h := P5.show'
    rw [hl5, hR5] at h
    exact h)
   clear P5 hR5 hw5 hl5
   have FN := Lib.hid (show ∀ A c us W', Sc.Rd W' A 3 us → us.map sr = s3.rows → Below wr.heap.size wr W' → Calls Tryz.prog 40 #[.slice A 3 c, .slice A4 3 c4] W' fun e w' => e = .returned (.bool true) ∧ Below w.heap.size w w' from fun A c us W' h1 h2 b => by
    refine (eqRows_walk A A4 3 c c4 us vs W' (by omega) h1 ((RowsIn.rd MM.out.was VS.out.2).below b) (h2.trans VS.out.1.symm)).mono ?_
    rintro e w' ⟨rfl, b2⟩
    have bo := P5'.out.old.trans (b.mono P5'.out.old.size)
    exact ⟨rfl, bo.trans (b2.mono bo.size)⟩)
   clear MM P5'
   by_cases h1 : k < n
   ·have h2 : ¬ ((k : Int) < 30) := by omega
    have h3 : (k : Int) < (n : Int) := by omega
    clear hno hlt
    go_wp2_with fail
    refine SH.out.mono ?_
    rintro e w6 ⟨A6, c6, us, rfl, R6, e6, b6⟩
    have EQ := Lib.hid (FN.out A6 c6 us w6 R6 e6 b6)
    clear SH R6 e6 b6
    go_wp2_with fail
    refine EQ.out.mono ?_
    rintro e w7 ⟨rfl, b7⟩
    clear EQ
    go_wp2
    go_ret
    exact ⟨rfl, b7⟩
   ·have h3 : ¬ ((k : Int) < (n : Int)) := by omega
    clear hno hlt
    go_wp2_with fail
    refine SH.out.mono ?_
    rintro e w6 ⟨A6, c6, us, rfl, R6, e6, b6⟩
    have EQ := Lib.hid (FN.out A6 c6 us w6 R6 e6 b6)
    clear SH R6 e6 b6
    go_wp2_with fail
    refine EQ.out.mono ?_
    rintro e w7 ⟨rfl, b7⟩
    clear EQ
    go_wp2
    go_ret
    exact ⟨rfl, b7⟩
set_option maxRecDepth 100000 in
theorem contract (H : Type) (enc : TypeId × Value → H) (W : World) (base : Nat) (args : Array Value) (ds gs : List (DataW H)) (before : List MemPlace)
  (hval : ∀ (j : Nat) t v, Tryz.f13.params[j]? = some t → args[j]? = some v → Value.okWide Tryz.prog W .any base t v)
  (hW : DataW.Whole enc Tryz.prog Tryz.f13.params.toList Rows.screenMovesSpec.vars false W args.toList ds gs before) (hL : laidMetH Tryz.prog Rows.screenMovesRow.laid W) :
  Calls Tryz.prog 13 args W fun e W' => ∃ v, e = .returned v ∧ Rows.screenMovesSpec.post enc Tryz.prog Tryz.f13 false true false false W args v W' := by
 have hW' := hW
 obtain ⟨p, q, hA0, hV, rfl, hfz, hnd⟩ := hW
 have hA : DataW.TrodAll enc Tryz.prog W 0 (fun _ => true) true Tryz.f13.params.toList args.toList ds p := hA0
 rw [Tryz.params13] at hA hval
 obtain ⟨v0, vs0, d0, ds0, p0, q0, hargs, rfl, rfl, h0, r0⟩ := trodAll_cons hA
 obtain ⟨v1, vs1, d1, ds1, p1, q1, rfl, rfl, rfl, h1, r1⟩ := trodAll_cons r0
 obtain ⟨rfl, rfl, rfl⟩ := trodAll_nil r1
 obtain rfl : args = #[v0, v1] := by cases args; simp_all
 obtain ⟨rfl, rfl⟩ := trodVars_none hV
 obtain ⟨x, rfl, rfl, rfl, wx⟩ := Go.ChangeMaps.open_string Tryz.underlying9 (hval 0 9 v0 rfl rfl) h0
 obtain ⟨Ay, ny, cy, y, rfl, hcy, hmy, hry, hqy⟩ := open_nums (hval 1 33 v1 rfl rfl) h1
 clear hA0
 refine (walk x wx Ay ny cy y hcy hmy hry W (spans_of hL) hqy).mono fun e W' ⟨he, hg⟩ => ?_
 subst he
 exact ⟨_, rfl, close rfl hW' ⟨rfl, rfl, rfl⟩ (by kernel_rfl) (by kernel_rfl) hg⟩
set_option maxRecDepth 100000 in
theorem laid_met (os : Os) : laidMet Tryz.prog Rows.screenMovesRow.laid ((laidWorld os).forCall (fun _ _ => 0) ⟨#[], #[.string .empty, .slice none 0 0], []⟩).memory :=
 laidMet_of_run' 8 (by kernel_rfl) (by kernel_rfl)
set_option maxRecDepth 100000 in
theorem reads (os : Os) {H : Type} (enc : TypeId × Value → H) : ∃ places, DataW.whole enc Tryz.prog ((laidWorld os).forCall (fun _ _ => 0) ⟨#[], #[.string .empty, .slice none 0 0], []⟩).memory Tryz.f13.params.toList Rows.screenMovesSpec.vars false (#[.string .empty, .slice none 0 0] : Array Value).toList 8 = some ([.lit (.string []), .nil], [], places) :=
 ⟨[], by kernel_rfl⟩
set_option maxRecDepth 100000 in
theorem lifted (os : Os) (started : os.Started) (H : Type) (enc : TypeId × Value → H) (F : Stop.Interp) :
  ReturnsInHanded {} Tryz.checked os 13 .any ((OpenSpec.ofChange Rows.screenMovesSpec).preRow enc Tryz.prog Tryz.f13 Rows.screenMovesRow.domain false Rows.screenMovesRow.laid) (((OpenSpec.ofChange Rows.screenMovesSpec).at F).post enc Tryz.prog Tryz.f13 false true false false) := by
 obtain ⟨places, hx⟩ := reads os enc
 refine returnsInHanded_of_row (C := Tryz.checked) (s := OpenSpec.ofChange Rows.screenMovesSpec) ownNone started (by kernel_rfl) Tryz.func13
  (witness_row_at (enc := enc) (C := Tryz.checked) false (laidWorld os) #[.string .empty, .slice none 0 0] rfl (by kernel_rfl) (by kernel_rfl) (by kernel_rfl)
   (OpenSpec.preRow_of_cond 8 hx (by kernel_rfl) (fun k hk => by cases hk) (by kernel_rfl) (laid_met os))) ?_
 intro W base args ds gs before hval hW _ _ _ hL _ _
 exact contract H enc W base args ds gs before hval hW hL
set_option maxRecDepth 100000 in
set_option maxHeartbeats 0 in
theorem facts : joinedFacts Tryz.checked.prog 13 Tryz.f13 (OpenSpec.ofChange Rows.screenMovesSpec).bare Rows.screenMovesRow = true := by
 have h1 := Sum.tables.1
 have h2 := Sum.tables.2.1
 have h3 := Sum.tables.2.2
 have h4 := Sum.mayEnter
 have e1 : Rows.screenMovesRow.lifted = Rows.rowSpanRow.lifted := by kernel_rfl
 have e2 : Rows.screenMovesRow.make = Rows.rowSpanRow.make := by kernel_rfl
 have h5 : (Rows.screenMovesRow.lifted == Tryz.checked.prog.liftsFinal) = true := by rw [e1]; exact Sum.lifts
 have h6 : (Tryz.checked.prog.make == some Rows.screenMovesRow.make) = true := by rw [e2]; exact Sum.make
 unfold joinedFacts
 repeat' (with_reducible refine Sum.and_mk ?_ ?_)
 all_goals first
  | with_reducible exact h1
  | with_reducible exact h2
  | with_reducible exact h4
  | with_reducible exact h5
  | with_reducible exact h6
  | (rw [h3]; as_aux_lemma => kernel_rfl)
  | (clear h1 h2 h3 h4 h5 h6 e1 e2; as_aux_lemma => kernel_rfl)
set_option maxRecDepth 100000 in
theorem said : Rows.ScreenMovesSaid :=
 OpenClaim.holds_of_cond 13 Tryz.f13 rfl rfl rfl rfl rfl rfl rfl ⟨rfl, rfl, rfl, rfl, rfl⟩ rfl rfl rfl rfl rfl (by kernel_rfl) Tryz.func13 facts
  (of_decide_eq_true (by kernel_rfl)) (by unfold Func.isWrapper; first | (rw [if_pos (by decide +kernel)]; kernel_rfl) | (rw [if_neg (by decide +kernel)]; exact ⟨rfl, rfl⟩))
  (fun os started H enc _ F => by rw [OpenClaim.pre_eq_preRow]; exact lifted os started H enc F)
set_option maxRecDepth 100000 in
theorem plain (f : FuncId) (fn : Func) (hf : Tryz.pinned.checked.prog.funcNamed "rotulus/rotuluslaw7.ScreenMoves" = some f) (hfn : Tryz.pinned.checked.prog.funcs[f]? = some fn) :
  false = Tryz.pinned.checked.prog.looks [] ∧ ∀ (j : Nat) t, fn.params[j]? = some t → Tryz.pinned.checked.prog.wantsStandIn t = false := by
 obtain rfl : f = 13 := Option.some.inj ((show Tryz.prog.funcNamed "rotulus/rotuluslaw7.ScreenMoves" = some 13 by kernel_rfl).symm.trans hf) |>.symm
 obtain rfl : fn = Tryz.f13 := (Option.some.inj (Tryz.func13.symm.trans hfn)).symm
 refine ⟨by kernel_rfl, fun j t ht => ?_⟩
 rw [Tryz.params13] at ht
 have hm := Array.mem_of_getElem? ht
 simp at hm
 rcases hm with rfl | rfl
 ·exact (show Tryz.prog.wantsStandIn 9 = false by kernel_rfl)
 ·exact (show Tryz.prog.wantsStandIn 33 = false by kernel_rfl)
set_option maxRecDepth 100000 in
theorem card : Rows.ScreenMovesCardSaid :=
 Claim7.holds_tied_plain_at .later [] _ _ _ _ said (fun _ h => by cases h) (by kernel_rfl) (fun _ h => by cases h) screenMoves_row_tie rfl ⟨rfl, rfl⟩ (by kernel_rfl) rfl plain (by kernel_rfl)
end Go.Proofs.YtaclmhopcfgbmaaGreatDoor.screenMoves
