/-
  The statement LinePlaces: each cell of a line has its place among the rows of all lines, behind that of the one ahead of it; it is seen there; and Spot finds it there. For every list of lines (of which the statement reads the first ten, each to its fortieth cell) and every number as width; it holds where the table of widths is as its initialiser lays it, which the card ties to the program's text.
-/
import Derived.Test.YtjhmndmnhkbigaaGreatDoorQWEvZ0
import Derived.Test.YtjhmndmnhkbigaaGreatDoorQWBase0
import Derived.Test.YtjhmndmnhkbigaaGreatDoorQWLine5
import Derived.Test.YtjhmndmnhkbigaaGreatDoorQWLine6
import Derived.Test.YtjhmndmnhkbigaaGreatDoorQWRefRow1
namespace Go.Proofs.YtjhmndmnhkbigaaGreatDoor.linePlaces
open Go.ChangeShapes Go.WideShapes Go.ChangeAt Go.RowKit
open Rw Ln
theorem neq_cell (x y z : Int) (w : World) : (binOp .neq 52 (cellV x y z) (cellV x y z)).run Tryz.prog w = .ok (.bool false) w := by
 have h1 : (x == x) = true := by simp
 have h2 : (y == y) = true := by simp
 have h3 : (z == z) = true := by simp
 go_simp
theorem neq_spot (x y z : Int) (w : World) : (binOp .neq 27 (.agg #[.int .i64 x, .int .i64 y, .int .i64 z]) (.agg #[.int .i64 x, .int .i64 y, .int .i64 z])).run Tryz.prog w = .ok (.bool false) w := by
 have h1 : (x == x) = true := by simp
 have h2 : (y == y) = true := by simp
 have h3 : (z == z) = true := by simp
 go_simp
theorem drawn_ok {W : World} {B : Nat} {ls : List LineIn} (h : ∀ x ∈ ls, x.Ok W B) : LOk (drawnLs ls) ∧ (drawnLs ls).length ≤ 10 := by
 have hs : ∀ l ∈ drawnLs ls, ∀ c ∈ l, -2147483648 ≤ c.1 ∧ c.1 ≤ 2147483647 := fun l hl c hc => by
  unfold drawnLs cutLs at hl
  obtain ⟨h1, _⟩ := List.mem_filter.1 hl
  obtain ⟨x, hx, rfl⟩ := List.mem_map.1 h1
  exact (h x (List.mem_of_mem_take hx)).signs c (List.mem_of_mem_take hc)
 refine ⟨⟨fun l hl => (cutLs_each hl).1, fun l hl => by have := (cutLs_each hl).2; omega, hs⟩, ?_⟩
 have h1 := cutLs_len (ls.take 10)
 rw [List.length_take] at h1
 unfold drawnLs
 omega
def Ahead (w : Nat) (L : List (List Cel)) (i k : Nat) (l : List Cel) (lr lc : Int) : Prop :=
 lr < (highs w (L.take i) : Int) ∨ ∃ j y, j < k ∧ l[j]? = some y ∧ lr = (((cellPos w l j y).1 + highs w (L.take i) : Nat) : Int) ∧ lc = ((cellPos w l j y).2 : Int)
theorem Ahead.lt {w i k : Nat} {L : List (List Cel)} {l : List Cel} {lr lc : Int} {x : Cel} (h : Ahead w L i k l lr lc) (hl : ∀ x ∈ l, W12 x) (hx : l[k]? = some x) :
  lr < (((cellPos w l k x).1 + highs w (L.take i) : Nat) : Int) ∨ lr = (((cellPos w l k x).1 + highs w (L.take i) : Nat) : Int) ∧ lc < ((cellPos w l k x).2 : Int) := by
 rcases h with h | ⟨j, y, hj, hy, e1, e2⟩
 ·exact .inl (by omega)
 ·have ho := cell_order (w := w) hy hx hj
  have hw : 1 ≤ wd y := by have := hl y (List.mem_of_getElem? hy); unfold wd; rcases this with e | e <;> rw [e] <;> decide
  unfold lexLe at ho
  simp only at ho
  rcases ho with ho | ⟨h1, h2⟩
  ·exact .inl (by omega)
  ·exact .inr ⟨by omega, by omega⟩
theorem Ahead.next {w i k : Nat} {L : List (List Cel)} {l : List Cel} {lr lc : Int} (hw : 2 ≤ w) (h : Ahead w L i k l lr lc) (hl : ∀ x ∈ l, W12 x) (hi : L[i]? = some l) : lr < (highs w (L.take (i + 1)) : Int) := by
 rw [highs_take hi]
 rcases h with h | ⟨j, y, hj, hy, e1, e2⟩
 ·omega
 ·obtain ⟨r, hr, _⟩ := lay_get hw hl hy
  have := (List.getElem?_eq_some_iff.1 hr).1
  omega
set_option maxRecDepth 100000 in
set_option maxHeartbeats 12800000 in
theorem walk (A : Option Addr) (n c : Nat) (ls : List LineIn) (_ : n ≤ c) (hcm : c ≤ maxLen) (x : Int) (_ : -9223372036854775808 ≤ x ∧ x ≤ 9223372036854775807) (w : World) (hs : Spans w) (hr : ∀ x ∈ ls, x.Ok w w.heap.size) (hq : Sq w w.heap.size 1 n A (ls.flatMap LineIn.vals)) :
  Calls Tryz.prog 6 #[.slice A n c, .int .i64 x] w fun e w' => e = .returned (.bool true) ∧ Below w.heap.size w w' := by
 obtain ⟨wv, hwv, hw2, hw3, ew1, ew2⟩ := width_of x 12 (by decide) (by decide)
 have S := Lib.hid hs
 have Q := Lib.hid hq
 have RO := Lib.hid hr
 have LK := Lib.hid (drawn_ok hr)
 have HW := Lib.hid (show 2 ≤ wv ∧ wv ≤ 300 from ⟨hw2, by omega⟩)
 have hnm : n ≤ maxLen := by omega
 clear hs hq hr hwv hw2 hw3
 go_enter Tryz.func6, Tryz.ntmps6
 go_wp2_with fail
 refine (Ev.Trues.at Ev.begun10 w S.out).mono ?_
 rintro e w1 ⟨rfl, b1⟩
 have B1 := Lib.hid b1
 have LW := Lib.hid (lines10_walk A n c ls w1 (fun x hx => ((RO.out x hx).below b1).up b1.size) ((Q.out.below b1).up b1.size) hnm)
 have S1 := Lib.hid (S.out.below b1 S.out.size)
 clear b1 Q RO
 go_wp2_with fail
 refine LW.out.mono ?_
 rintro e w2 ⟨v, vs, rfl, L2, b2⟩
 obtain ⟨L, hL⟩ : ∃ L, drawnLs ls = L := ⟨_, rfl⟩
 rw [hL] at L2 LK
 obtain ⟨A2, c2, rfl, hc2⟩ := own_cap L2.own
 obtain ⟨N, hN⟩ : ∃ N, L.length = N := ⟨_, rfl⟩
 have RD := Lib.hid (show Lrd w2 w2.heap.size A2 N vs L from by have h := (L2.rd (fun l hl => by have := LK.out.1.len l hl; omega)).2; rw [hN] at h; exact h)
 rw [hN] at hc2 ⊢
 have LK2 := Lib.hid (show LOk L ∧ N ≤ 10 from ⟨LK.out.1, by rw [← hN]; exact LK.out.2⟩)
 have B2 := Lib.hid (B1.out.trans (b2.mono B1.out.size))
 have S2 := Lib.hid (S1.out.below b2 S1.out.size)
 have hN10 : N ≤ 10 := LK2.out.2
 have NL := Lib.hid hN
 have AW := Lib.hid (Ln.all_walk A2 N c2 wv vs L w2 S2.out RD.out (by omega) LK2.out.1 HW.out.1 HW.out.2)
 clear hL hN LW LK L2 b2 S1
 go_wp2_with fail
 refine AW.out.mono ?_
 rintro e w3 ⟨v3, rs, rfl, O3, M3, b3⟩
 obtain ⟨A3, c3, rfl, hc3⟩ := O3.shape
 obtain ⟨w4, hw4⟩ : ∃ w4, w3.alloc (.cells #[.int .i64 (-1), .int .i64 0] 25) = w4 := ⟨_, rfl⟩
 obtain ⟨E, hE⟩ : ∃ E, w3.heap.size = E := ⟨_, rfl⟩
 have b34 : Laid w3 w4 := by rw [← hw4]; exact (Below.refl _ _).alloc (Nat.le_refl _) _
 have x4 : w4.heap[E]? = some (.cells #[.int .i64 (-1), .int .i64 0] 25 (0, 0)) := by rw [← hw4, ← hE]; exact heap_alloc_new w3 _
 obtain ⟨NR, hNR⟩ : ∃ NR, rs.length = NR := ⟨_, rfl⟩
 have B3 := Lib.hid (b3.trans (b34.mono b3.size))
 have RR := Lib.hid (show Rws w3 E A3 NR rs from by have h := (O3.rws).2; rw [hNR, hE] at h; exact h)
 have MR := Lib.hid M3
 have b34' : Below E w3 w4 := by rw [← hE]; exact b34
 have I0 := Lib.hid (show Below E w3 w4 ∧ w4.heap[E]? = some (.cells #[.int .i64 (-1), .int .i64 0] 25 (0, 0)) from ⟨b34', x4⟩)
 have HE := Lib.hid hE
 have HW4 := Lib.hid hw4
 have BB3 := Lib.hid b3
 rw [hNR] at hc3 ⊢
 have hNRb : NR ≤ 10100 := by
  have h1 := congrArg List.length M3
  have h2 := highs_le (wv := wv) L LK2.out.1.len
  rw [List.length_map, allL_len, hNR] at h1
  rw [NL.out] at h2
  omega
 clear O3 M3 b3 hw4 b34 x4 hNR AW b34'
 go_upto_region 9 with fail
 rw [HW4.out]
 go_loopw [8] (fun i wr => ∃ (k : Nat) (lr lc : Int), i = .int .i64 (k : Int) ∧ k ≤ N ∧ lr < (highs wv (L.take k) : Int) ∧ Hid (Below E w3 wr ∧ wr.heap[E]? = some (.cells #[.int .i64 lr, .int .i64 lc] 25 (0, 0)))) (fun i _ => N - (intOf i).toNat)
 case atStart => exact ⟨0, -1, 0, rfl, Nat.zero_le _, by omega, I0⟩
 case round =>
  obtain ⟨i, lr, lc, rfl, hi, hlr, I⟩ := hrel
  clear I0
  by_cases hlt : i < N
  ·obtain ⟨l, hl⟩ : ∃ l, L[i]? = some l := ⟨_, List.getElem?_eq_getElem (by rw [NL.out]; omega)⟩
   obtain ⟨xv, hx⟩ : ∃ x, vs[i]? = some x := ⟨_, List.getElem?_eq_getElem (by have := RD.out.sq.len; omega)⟩
   have hEs : w2.heap.size ≤ E := by have := BB3.out.size; omega
   have I2 := Lib.hid (show Below w2.heap.size w2 wr from BB3.out.trans (I.out.1.mono hEs))
   have R := RD.out.below I2.out
   obtain ⟨b, off, rfl, hb, c0⟩ := one_at R.sq hx hlt
   obtain ⟨A1, m, d1, rfl, hd1, q1, m1⟩ := R.each i xv l hx hl
   have hlen : l.length = m := by have := q1.len; rw [flat_length] at this; omega
   have hm := List.mem_of_getElem? hl
   have TW := Lib.hid (refTrim_walk A1 m d1 hd1 l wr m1 (q1.up I2.out.size))
   have LO := Lib.hid (show lineB l = true ∧ l.length ≤ 100 from ⟨LK2.out.1.ok l hm, LK2.out.1.len l hm⟩)
   have W12s := Lib.hid (show ∀ x ∈ l, W12 x from fun x hx => okC_w (List.all_eq_true.1 LO.out.1 x hx))
   have HLi := Lib.hid hl
   have ki : (i : Int) < (N : Int) := by omega
   have k0 : (0 : Int) ≤ (i : Int) := by omega
   have AH0 := Lib.hid (show Ahead wv L i 0 l lr lc from .inl hlr)
   clear hl hx R q1 hm hb m1 hlen
   go_wp2_with fail
   refine TW.out.mono ?_
   rintro e w5 ⟨v5, rfl, h5, b5⟩
   obtain ⟨tl, htl⟩ : ∃ tl, trimL l = tl := ⟨_, rfl⟩
   obtain ⟨M, hM⟩ : ∃ M, tl.length = M := ⟨_, rfl⟩
   obtain ⟨A5, c5, rfl, hc5⟩ := own_cap (show w5.ownsRow wr.heap.size 52 3 v5 (trimL l).length _ from h5)
   have H5 := Lib.hid (show w5.ownsRow wr.heap.size 52 3 (.slice A5 M c5) M (flat tl) from by
    have h : w5.ownsRow wr.heap.size 52 3 (.slice A5 (trimL l).length c5) (trimL l).length (flat (trimL l)) := h5
    rw [htl, hM] at h
    exact h)
   have EB := Lib.hid (show E < wr.heap.size from (Array.getElem?_eq_some_iff.1 I.out.2).1)
   obtain ⟨B0, hB0⟩ : ∃ B0, wr.heap.size = B0 := ⟨_, rfl⟩
   rw [hB0] at H5 EB
   rw [htl, hM]
   have hMl : M ≤ 100 := by rw [← hM, ← htl]; exact Nat.le_trans (trimL_le l) LO.out.2
   have TG := Lib.hid (show ∀ (k : Nat) (x : Cel), tl[k]? = some x → l[k]? = some x ∧ k < (trimL l).length from fun k x h => by
    have h1 := (List.getElem?_eq_some_iff.1 h).1
    rw [← htl] at h h1
    refine ⟨?_, h1⟩
    unfold trimL at h
    rw [List.getElem?_take] at h
    split at h
    ·exact h
    ·cases h)
   have HM := Lib.hid hM
   have I5 := Lib.hid (show Below E w3 w5 ∧ w5.heap[E]? = some (.cells #[.int .i64 lr, .int .i64 lc] 25 (0, 0)) ∧ Below w5.heap.size w5 w5 from ⟨I.out.1.trans (b5.mono (by have := I.out.1.size; omega)), (b5.block E (Array.getElem?_eq_some_iff.1 I.out.2).1).trans I.out.2, Below.refl _ _⟩)
   have E5 := Lib.hid (show E < w5.heap.size from (Array.getElem?_eq_some_iff.1 I5.out.2.1).1)
   clear h5 b5 TW htl hM I I2 hB0 c0
   go_upto_region 13 with fail
   go_loopw [10] (fun j wr => ∃ (k : Nat) (lr lc : Int), j = .int .i64 (k : Int) ∧ k ≤ M ∧ Hid (Ahead wv L i k l lr lc) ∧ Hid (Below E w3 wr ∧ wr.heap[E]? = some (.cells #[.int .i64 lr, .int .i64 lc] 25 (0, 0)) ∧ ∀ j, E ≠ j → j < w5.heap.size → wr.heap[j]? = w5.heap[j]?)) (fun j _ => M - (intOf j).toNat)
   case atStart => exact ⟨0, lr, lc, rfl, Nat.zero_le _, AH0, Lib.hid ⟨I5.out.1, I5.out.2.1, fun _ _ _ => rfl⟩⟩
   case round =>
    obtain ⟨k, lr2, lc2, rfl, hk, AH, J⟩ := hrel
    clear AH0
    by_cases hlk : k < M
    ·obtain ⟨⟨r, mm, a⟩, hx⟩ : ∃ x, tl[k]? = some x := ⟨_, List.getElem?_eq_getElem (by rw [HM.out]; exact hlk)⟩
     obtain ⟨hxl, hkt⟩ := TG.out k _ hx
     have JB := Lib.hid (show Below w2.heap.size w2 wr from BB3.out.trans (J.out.1.mono hEs))
     have PW := Lib.hid (placeCell_walk (some ⟨b, off, none⟩) N c2 wv i k (r, mm, a) vs L l wr (S2.out.below JB.out S2.out.size) ((RD.out.below JB.out).up JB.out.size) hc2 (by omega) LK2.out.1 HW.out.1 HW.out.2 hlt HLi.out hxl)
     obtain ⟨z, hz1, hz2⟩ := lay_get HW.out.1 W12s.out hxl
     have hz3 := all_get (w := wv) HLi.out hz1
     have SP := Lib.hid (spot_lay (w := wv) HW.out.1 HW.out.2 LK2.out.1.ok HLi.out hxl hkt)
     have AL := Lib.hid (AH.out.lt W12s.out hxl)
     have AN := Lib.hid (show Ahead wv L i (k + 1) l (((cellPos wv l k (r, mm, a)).1 + highs wv (L.take i) : Nat) : Int) ((cellPos wv l k (r, mm, a)).2 : Int) from .inr ⟨k, _, Nat.lt_succ_self k, hxl, rfl, rfl⟩)
     obtain ⟨PR, hPR⟩ : ∃ PR, (cellPos wv l k (r, mm, a)).1 + highs wv (L.take i) = PR := ⟨_, rfl⟩
     obtain ⟨PC, hPC⟩ : ∃ PC, (cellPos wv l k (r, mm, a)).2 = PC := ⟨_, rfl⟩
     rw [hPR] at hz3 SP AL AN PW
     rw [hPC] at hz2 SP AL AN PW
     rw [← MR.out] at hz3 SP
     rw [List.getElem?_map] at hz3
     obtain ⟨⟨rA, rn, rc, rb, rl⟩, hrr, hrz⟩ := Option.map_eq_some_iff.1 hz3
     subst hrz
     have hPRn : PR < NR := by have h1 := (List.getElem?_eq_some_iff.1 hrr).1; have h2 := RR.out.len; omega
     have HXX := Lib.hid (And.intro hrr (show rl[PC]? = some (r, mm, a) from hz2))
     have HTX := Lib.hid hx
     clear hx hxl hkt hz1 hz2 hz3 hPR hPC hrr AH
     go_wp2_with fail
     refine PW.out.mono ?_
     rintro e w6 ⟨rfl, b6⟩
     obtain ⟨w7, hw7⟩ : ∃ w7, w6.alloc (.cells #[.int .i64 (PR : Int), .int .i64 (PC : Int)] 25) = w7 := ⟨_, rfl⟩
     obtain ⟨E1, hE1⟩ : ∃ E1, w6.heap.size = E1 := ⟨_, rfl⟩
     have b67 : Laid w6 w7 := by rw [← hw7]; exact (Below.refl _ _).alloc (Nat.le_refl _) _
     have b7 : Laid wr w7 := b6.trans (b67.mono b6.size)
     have x7 : w7.heap[E1]? = some (.cells #[.int .i64 (PR : Int), .int .i64 (PC : Int)] 25 (0, 0)) := by rw [← hw7, ← hE1]; exact heap_alloc_new w6 _
     have xE : w7.heap[E]? = some (.cells #[.int .i64 lr2, .int .i64 lc2] 25 (0, 0)) := (b7.block E (Array.getElem?_eq_some_iff.1 J.out.2.1).1).trans J.out.2.1
     have hEr := (Array.getElem?_eq_some_iff.1 J.out.2.1).1
     have J7 := Lib.hid (show Below E w3 w7 from J.out.1.trans (b7.mono (Nat.le_of_lt hEr)))
     have hEE : E1 ≠ E := by have := b6.size; omega
     have R7 := RR.out.below J7.out
     obtain ⟨b3', off3, rfl, hb3, u0, _⟩ := rows_at R7.sq HXX.out.1 hPRn
     have hro := R7.each _ (List.mem_of_getElem? HXX.out.1)
     have hpc : PC < rn := by
      have h1 := (List.getElem?_eq_some_iff.1 HXX.out.2).1
      have h2 := hro.sq.len
      rw [flat_length] at h2
      dsimp only at h2
      omega
     obtain ⟨gb, goff, hgA, hgb, ⟨r', mm', a'⟩, hcc, p0, p1, p2⟩ := hro.sq.three hpc
     dsimp only at hgA hcc u0
     rw [HXX.out.2] at hcc
     obtain ⟨rfl, rfl, rfl⟩ : r = r' ∧ mm = mm' ∧ a = a' := by simpa using hcc
     subst hgA
     have H7 : w7.ownsRow B0 52 3 (.slice A5 M c5) M (flat tl) := own_keep H5.out fun j hj => by
      have hlt := H5.out.lt j hj
      have h1 := J.out.2.2 j (by have := EB.out; omega) hlt.2
      have hj2 : j < wr.heap.size := by
       have h2 : j < w5.heap.size := hlt.2
       have h3 := Array.getElem?_eq_getElem h2
       exact (Array.getElem?_eq_some_iff.1 (h1.trans h3)).1
      exact (b7.block j hj2).trans h1
     obtain ⟨tb, toff, rfl, htb, ⟨r', mm', a'⟩, hcc, v0, v1, v2⟩ := (Sq.own H7).three hlk
     rw [HTX.out] at hcc
     obtain ⟨rfl, rfl, rfl⟩ : r = r' ∧ mm = mm' ∧ a = a' := by simpa using hcc
     have hE1z : E1 < w7.heap.size := (Array.getElem?_eq_some_iff.1 x7).1
     have hEz : E < w7.heap.size := (Array.getElem?_eq_some_iff.1 xE).1
     obtain ⟨J0, hJ0, F, h0, hB, hN'⟩ := Cls.below w7
     have H0 := Lib.hid h0
     have HB := Lib.hid hB
     have SW := Lib.hid (show ∀ q, Calls Tryz.prog 19 #[.slice (some ⟨b3', off3, none⟩) NR c3, .agg #[.int .i64 (PR : Int), .int .i64 (PC : Int)]] (F q) fun e w' => e = .returned (.agg #[.int .i64 (i : Int), .int .i64 (k : Int), .int .i64 0]) ∧ ∃ m, w' = F m from fun q => by
      have hbq := hB q
      have JF : Below E w3 (F q) := J7.out.trans (hbq.mono (Nat.le_of_lt hEz))
      have h := spot_walk (some ⟨b3', off3, none⟩) NR c3 rs PR (PC : Int) (F q) (S2.out.below (BB3.out.trans (JF.mono hEs)) S2.out.size) ((RR.out.below JF).up (by have := hbq.size; omega)) hc3 (by omega) (by omega)
      rw [SP.out] at h
      exact h.mono fun e w' ⟨he, hb⟩ => ⟨he, hN' q w' hb⟩)
     have g0 := fun q => ((hB q).cell (p := ⟨E1, 0, none⟩) hE1z).trans (cell_of_row _ _ 0 _ _ (0, 0) x7)
     have g1 := fun q => ((hB q).cell (p := ⟨E1, 1, none⟩) hE1z).trans (cell_of_row _ _ 1 _ _ (0, 0) x7)
     have e0 := fun q => ((hB q).cell (p := ⟨E, 0, none⟩) hEz).trans (cell_of_row _ _ 0 _ _ (0, 0) xE)
     have e1 := fun q => ((hB q).cell (p := ⟨E, 1, none⟩) hEz).trans (cell_of_row _ _ 1 _ _ (0, 0) xE)
     have u0F := fun q => ((hB q).cell (p := ⟨b3', off3 + PR * 2, none⟩) (show b3' < w7.heap.size by omega)).trans u0
     have p0F := fun q => ((hB q).cell (p := ⟨gb, goff + PC * 3, none⟩) (show gb < w7.heap.size by omega)).trans p0
     have p1F := fun q => ((hB q).cell (p := ⟨gb, goff + PC * 3 + 1, none⟩) (show gb < w7.heap.size by omega)).trans p1
     have p2F := fun q => ((hB q).cell (p := ⟨gb, goff + PC * 3 + 2, none⟩) (show gb < w7.heap.size by omega)).trans p2
     have v0F := fun q => ((hB q).cell (p := ⟨tb, toff + k * 3, none⟩) htb).trans v0
     have v1F := fun q => ((hB q).cell (p := ⟨tb, toff + k * 3 + 1, none⟩) htb).trans v1
     have v2F := fun q => ((hB q).cell (p := ⟨tb, toff + k * 3 + 2, none⟩) htb).trans v2
     have NC := fun w => neq_cell r mm a w
     have NS := fun w => neq_spot (i : Int) (k : Int) 0 w
     have HW7 := Lib.hid hw7
     have X7 := Lib.hid (And.intro x7 xE)
     have J7b := Lib.hid (show ∀ j, E ≠ j → j < w5.heap.size → w7.heap[j]? = w5.heap[j]? from fun j h1 h2 => by
      have h3 := J.out.2.2 j h1 h2
      have h4 := Array.getElem?_eq_getElem h2
      exact (b7.block j (Array.getElem?_eq_some_iff.1 (h3.trans h4)).1).trans h3)
     have ne0 : ¬ (PR : Int) < 0 := by omega
     have ne1 : ¬ (PC : Int) < 0 := by omega
     have ne2 : ¬ (PR : Int) < lr2 := by have := AL.out; omega
     have ne3 : (PR : Int) < (NR : Int) := by omega
     have ne4 : (PC : Int) < (rn : Int) := by omega
     have dd0 : decide ((PR : Int) < 0) = false := decide_eq_false ne0
     have dd1 : decide ((PC : Int) < 0) = false := decide_eq_false ne1
     have dd2 : decide ((PR : Int) < lr2) = false := decide_eq_false ne2
     have dd3 : decide ((NR : Int) ≤ (PR : Int)) = false := decide_eq_false (by omega)
     have dd3n : decide (NR ≤ PR) = false := decide_eq_false (by omega)
     have dd4n : decide (rn ≤ PC) = false := decide_eq_false (by omega)
     have dd4 : decide ((rn : Int) ≤ (PC : Int)) = false := decide_eq_false (by omega)
     have pp0 : (0 : Int) ≤ (PR : Int) := by omega
     have pp1 : (0 : Int) ≤ (PC : Int) := by omega
     have kk : (k : Int) < (M : Int) := by omega
     have kk0 : (0 : Int) ≤ (k : Int) := by omega
     clear x7 xE b6 b67 b7 hw7 J hro hcc H7 hb3 PW SP u0 p0 p1 p2 v0 v1 v2 h0 hB hN' htb hgb
     go_wp2_with fail
     rw [HW7.out]
     by_cases heq : (PR : Int) = lr2
     ·have dd5 : decide ((PC : Int) ≤ lc2) = false := decide_eq_false (by have := AL.out; omega)
      have dd6 : ((PR : Int) == lr2) = true := by simp [heq]
      clear heq
      refine Cls.region F H0.out (by kernel_rfl) (by kernel_rfl) ?_
      simp only [List.append_eq, List.cons_append, List.nil_append]
      repeat (go_big_quiet_step ((go_at_call 19; exact SW.out _)))
      refine wpQuiet_nil ?_
      intro _ hw'
      obtain ⟨nq, hw''⟩ := hw'
      subst hw''
      have FB := HB.out nq
      have y7 : (F nq).heap[E1]? = some (.cells #[.int .i64 (PR : Int), .int .i64 (PC : Int)] 25 (0, 0)) := (FB.block E1 hE1z).trans X7.out.1
      have yE : (F nq).heap[E]? = some (.cells #[.int .i64 lr2, .int .i64 lc2] 25 (0, 0)) := (FB.block E hEz).trans X7.out.2
      have JN := Lib.hid (show Below E w3 (F nq) ∧ ∀ j, E ≠ j → j < w5.heap.size → (F nq).heap[j]? = w5.heap[j]? from ⟨J7.out.trans (FB.mono (Nat.le_of_lt hEz)), fun j h1 h2 => by
       have h3 := J7b.out j h1 h2
       have h4 := Array.getElem?_eq_getElem h2
       exact (FB.block j (Array.getElem?_eq_some_iff.1 (h3.trans h4)).1).trans h3⟩)
      clear g0 g1 e0 e1 u0F p0F p1F p2F v0F v1F v2F FB SW
      generalize F nq = w8 at y7 yE JN ⊢
      have a0 := cell_of_row _ _ 0 _ _ (0, 0) y7
      have a1 := cell_of_row _ _ 1 _ _ (0, 0) y7
      have o0 := cell_of_row _ _ 0 _ _ (0, 0) yE
      have o1 := cell_of_row _ _ 1 _ _ (0, 0) yE
      have z0 := frozen_of_row _ E 0 _ _ yE
      have z1 := frozen_of_row _ E 1 _ _ yE
      have YE := Lib.hid yE
      clear yE y7 H0
      go_wp2_with fail
      go_roundw
      case rel =>
       have s1 := heap_setCell_same w8 E 0 _ _ (.int .i64 (PR : Int)) YE.out
       have s2 := heap_setCell_same _ E 1 _ _ (.int .i64 (PC : Int)) s1
       refine ⟨k + 1, (PR : Int), (PC : Int), by go_num, by omega, AN, Lib.hid ⟨?_, by simpa using s2, fun j h1 h2 => ?_⟩⟩
       ·exact (JN.out.1.setCell (p := ⟨E, 0, none⟩) (Nat.le_refl E) _).setCell (p := ⟨E, 1, none⟩) (Nat.le_refl E) _
       ·exact (Below.heap_setCell _ _ _ _ (Ne.symm h1)).trans ((Below.heap_setCell _ _ _ _ (Ne.symm h1)).trans (JN.out.2 j h1 h2))
      case measure => first | (simp [intOf]; done) | (simp [intOf]; omega)
     ·have dd6 : ((PR : Int) == lr2) = false := by simp [heq]
      clear heq
      refine Cls.region F H0.out (by kernel_rfl) (by kernel_rfl) ?_
      simp only [List.append_eq, List.cons_append, List.nil_append]
      repeat (go_big_quiet_step ((go_at_call 19; exact SW.out _)))
      refine wpQuiet_nil ?_
      intro _ hw'
      obtain ⟨nq, hw''⟩ := hw'
      subst hw''
      have FB := HB.out nq
      have y7 : (F nq).heap[E1]? = some (.cells #[.int .i64 (PR : Int), .int .i64 (PC : Int)] 25 (0, 0)) := (FB.block E1 hE1z).trans X7.out.1
      have yE : (F nq).heap[E]? = some (.cells #[.int .i64 lr2, .int .i64 lc2] 25 (0, 0)) := (FB.block E hEz).trans X7.out.2
      have JN := Lib.hid (show Below E w3 (F nq) ∧ ∀ j, E ≠ j → j < w5.heap.size → (F nq).heap[j]? = w5.heap[j]? from ⟨J7.out.trans (FB.mono (Nat.le_of_lt hEz)), fun j h1 h2 => by
       have h3 := J7b.out j h1 h2
       have h4 := Array.getElem?_eq_getElem h2
       exact (FB.block j (Array.getElem?_eq_some_iff.1 (h3.trans h4)).1).trans h3⟩)
      clear g0 g1 e0 e1 u0F p0F p1F p2F v0F v1F v2F FB SW
      generalize F nq = w8 at y7 yE JN ⊢
      have a0 := cell_of_row _ _ 0 _ _ (0, 0) y7
      have a1 := cell_of_row _ _ 1 _ _ (0, 0) y7
      have o0 := cell_of_row _ _ 0 _ _ (0, 0) yE
      have o1 := cell_of_row _ _ 1 _ _ (0, 0) yE
      have z0 := frozen_of_row _ E 0 _ _ yE
      have z1 := frozen_of_row _ E 1 _ _ yE
      have YE := Lib.hid yE
      clear yE y7 H0
      go_wp2_with fail
      go_roundw
      case rel =>
       have s1 := heap_setCell_same w8 E 0 _ _ (.int .i64 (PR : Int)) YE.out
       have s2 := heap_setCell_same _ E 1 _ _ (.int .i64 (PC : Int)) s1
       refine ⟨k + 1, (PR : Int), (PC : Int), by go_num, by omega, AN, Lib.hid ⟨?_, by simpa using s2, fun j h1 h2 => ?_⟩⟩
       ·exact (JN.out.1.setCell (p := ⟨E, 0, none⟩) (Nat.le_refl E) _).setCell (p := ⟨E, 1, none⟩) (Nat.le_refl E) _
       ·exact (Below.heap_setCell _ _ _ _ (Ne.symm h1)).trans ((Below.heap_setCell _ _ _ _ (Ne.symm h1)).trans (JN.out.2 j h1 h2))
      case measure => first | (simp [intOf]; done) | (simp [intOf]; omega)
    ·obtain rfl : k = M := by omega
     have hnl : ¬ (k : Int) < (k : Int) := by omega
     have NX := Lib.hid (AH.out.next HW.out.1 W12s.out HLi.out)
     go_wp2_with fail
     go_roundw
     case rel => exact ⟨i + 1, lr2, lc2, by go_num, by omega, NX.out, Lib.hid ⟨J.out.1, J.out.2.1⟩⟩
     case measure => first | (simp [intOf]; done) | (simp [intOf]; omega)
  ·obtain rfl : i = N := by omega
   have hnl : ¬ (i : Int) < (i : Int) := by omega
   go_wp2_with fail
   go_ret
   exact ⟨rfl, by have h := I.out.1; rw [← hE] at h; exact B2.out.trans ((BB3.out.mono B2.out.size).trans (h.mono (Nat.le_trans B2.out.size BB3.out.size)))⟩
set_option maxRecDepth 100000 in
theorem contract (H : Type) (enc : TypeId × Value → H) (W : World) (base : Nat) (args : Array Value) (ds gs : List (DataW H)) (before : List MemPlace)
  (hval : ∀ (j : Nat) t v, Tryz.f6.params[j]? = some t → args[j]? = some v → Value.okWide Tryz.prog W .any base t v)
  (hW : DataW.Whole enc Tryz.prog Tryz.f6.params.toList Rows.linePlacesSpec.vars false W args.toList ds gs before) (hL : laidMetH Tryz.prog Rows.linePlacesRow.laid W) :
  Calls Tryz.prog 6 args W fun e W' => ∃ v, e = .returned v ∧ Rows.linePlacesSpec.post enc Tryz.prog Tryz.f6 false true false false W args v W' := by
 have hW' := hW
 obtain ⟨p, q, hA0, hV, rfl, hfz, hnd⟩ := hW
 have hA : DataW.TrodAll enc Tryz.prog W 0 (fun _ => true) true Tryz.f6.params.toList args.toList ds p := hA0
 rw [Tryz.params6] at hA hval
 obtain ⟨v0, vs0, d0, ds0, p0, q0, hargs, rfl, rfl, h0, r0⟩ := trodAll_cons hA
 obtain ⟨v1, vs1, d1, ds1, p1, q1, rfl, rfl, rfl, h1, r1⟩ := trodAll_cons r0
 obtain ⟨rfl, rfl, rfl⟩ := trodAll_nil r1
 obtain rfl : args = #[v0, v1] := by cases args; simp_all
 obtain ⟨rfl, rfl⟩ := trodVars_none hV
 obtain ⟨Ax, nx, cx, x, rfl, hcx, hmx, hrx, hqx⟩ := open_lines (hval 0 23 v0 rfl rfl) h0
 obtain ⟨y, rfl, rfl, rfl, wy⟩ := open_int Tryz.underlying3 (hval 1 3 v1 rfl rfl) h1
 clear hA0
 refine (walk Ax nx cx x hcx hmx y (wf_i64 wy) W (spans_of hL) hrx hqx).mono fun e W' ⟨he, hg⟩ => ?_
 subst he
 exact ⟨_, rfl, close rfl hW' ⟨rfl, rfl, rfl⟩ (by kernel_rfl) (by kernel_rfl) hg⟩
set_option maxRecDepth 100000 in
theorem laid_met (os : Os) : laidMet Tryz.prog Rows.linePlacesRow.laid ((laidWorld os).forCall (fun _ _ => 0) ⟨#[], #[.slice none 0 0, .int .i64 0], []⟩).memory :=
 laidMet_of_run' 8 (by kernel_rfl) (by kernel_rfl)
set_option maxRecDepth 100000 in
theorem reads (os : Os) {H : Type} (enc : TypeId × Value → H) : ∃ places, DataW.whole enc Tryz.prog ((laidWorld os).forCall (fun _ _ => 0) ⟨#[], #[.slice none 0 0, .int .i64 0], []⟩).memory Tryz.f6.params.toList Rows.linePlacesSpec.vars false (#[.slice none 0 0, .int .i64 0] : Array Value).toList 8 = some ([.nil, .lit (.int .i64 0)], [], places) :=
 ⟨[], by kernel_rfl⟩
set_option maxRecDepth 100000 in
theorem lifted (os : Os) (started : os.Started) (H : Type) (enc : TypeId × Value → H) (F : Stop.Interp) :
  ReturnsInHanded {} Tryz.checked os 6 .any ((OpenSpec.ofChange Rows.linePlacesSpec).preRow enc Tryz.prog Tryz.f6 Rows.linePlacesRow.domain false Rows.linePlacesRow.laid) (((OpenSpec.ofChange Rows.linePlacesSpec).at F).post enc Tryz.prog Tryz.f6 false true false false) := by
 obtain ⟨places, hx⟩ := reads os enc
 refine returnsInHanded_of_row (C := Tryz.checked) (s := OpenSpec.ofChange Rows.linePlacesSpec) ownNone started (by kernel_rfl) Tryz.func6
  (witness_row_at (enc := enc) (C := Tryz.checked) false (laidWorld os) #[.slice none 0 0, .int .i64 0] rfl (by kernel_rfl) (by kernel_rfl) (by kernel_rfl)
   (OpenSpec.preRow_of_cond 8 hx (by kernel_rfl) (fun k hk => by cases hk) (by kernel_rfl) (laid_met os))) ?_
 intro W base args ds gs before hval hW _ _ _ hL _ _
 exact contract H enc W base args ds gs before hval hW hL
set_option maxRecDepth 100000 in
set_option maxHeartbeats 0 in
theorem facts : joinedFacts Tryz.checked.prog 6 Tryz.f6 (OpenSpec.ofChange Rows.linePlacesSpec).bare Rows.linePlacesRow = true := by
 have h1 := Sum.tables.1
 have h2 := Sum.tables.2.1
 have h3 := Sum.tables.2.2
 have h4 := Sum.mayEnter
 have e1 : Rows.linePlacesRow.lifted = Rows.lineAllRow.lifted := by kernel_rfl
 have e2 : Rows.linePlacesRow.make = Rows.lineAllRow.make := by kernel_rfl
 have h5 : (Rows.linePlacesRow.lifted == Tryz.checked.prog.liftsFinal) = true := by rw [e1]; exact Sum.lifts
 have h6 : (Tryz.checked.prog.make == some Rows.linePlacesRow.make) = true := by rw [e2]; exact Sum.make
 unfold joinedFacts
 repeat' (with_reducible refine Sum.and_mk ?_ ?_)
 all_goals first
  | with_reducible exact h1
  | with_reducible exact h2
  | with_reducible exact h4
  | with_reducible exact h5
  | with_reducible exact h6
  | (rw [h3]; as_aux_lemma => kernel_rfl)
  | (clear h1 h2 h3 h4 h5 h6 e1 e2; as_aux_lemma => kernel_rfl)
set_option maxRecDepth 100000 in
theorem said : Rows.LinePlacesSaid :=
 OpenClaim.holds_of_cond 6 Tryz.f6 rfl rfl rfl rfl rfl rfl rfl ⟨rfl, rfl, rfl, rfl, rfl⟩ rfl rfl rfl rfl rfl (by kernel_rfl) Tryz.func6 facts
  (of_decide_eq_true (by kernel_rfl)) (by unfold Func.isWrapper; first | (rw [if_pos (by decide +kernel)]; kernel_rfl) | (rw [if_neg (by decide +kernel)]; exact ⟨rfl, rfl⟩))
  (fun os started H enc _ F => by rw [OpenClaim.pre_eq_preRow]; exact lifted os started H enc F)
set_option maxRecDepth 100000 in
theorem plain (f : FuncId) (fn : Func) (hf : Tryz.pinned.checked.prog.funcNamed "rotulus/rotuluslaw10.LinePlaces" = some f) (hfn : Tryz.pinned.checked.prog.funcs[f]? = some fn) :
  false = Tryz.pinned.checked.prog.looks [] ∧ ∀ (j : Nat) t, fn.params[j]? = some t → Tryz.pinned.checked.prog.wantsStandIn t = false := by
 obtain rfl : f = 6 := Option.some.inj ((show Tryz.prog.funcNamed "rotulus/rotuluslaw10.LinePlaces" = some 6 by kernel_rfl).symm.trans hf) |>.symm
 obtain rfl : fn = Tryz.f6 := (Option.some.inj (Tryz.func6.symm.trans hfn)).symm
 refine ⟨by kernel_rfl, fun j t ht => ?_⟩
 rw [Tryz.params6] at ht
 have hm := Array.mem_of_getElem? ht
 simp at hm
 rcases hm with rfl | rfl
 ·exact (show Tryz.prog.wantsStandIn 23 = false by kernel_rfl)
 ·exact (show Tryz.prog.wantsStandIn 3 = false by kernel_rfl)
set_option maxRecDepth 100000 in
theorem card : Rows.LinePlacesCardSaid :=
 Claim7.holds_tied_plain_at .later [] _ _ _ _ said (fun _ h => by cases h) (by kernel_rfl) (fun _ h => by cases h) linePlaces_row_tie rfl ⟨rfl, rfl⟩ (by kernel_rfl) rfl plain (by kernel_rfl)
end Go.Proofs.YtjhmndmnhkbigaaGreatDoor.linePlaces
