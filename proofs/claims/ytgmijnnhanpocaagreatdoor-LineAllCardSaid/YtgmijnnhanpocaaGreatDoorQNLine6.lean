/-
  The statements' own lines: of those that were drawn, not too many, those that may be, each in memory of its own. line.end: the place behind the last cell of a line; line.high: how many rows it takes. line.high: how many rows a line takes. line.placeIn behind the end of a line. The statements' own way to hold lists of lines against each other. line.Place behind the end of a line, so many columns on; of a line that there is not.
-/
import Derived.Test.YtgmijnnhanpocaaGreatDoorQNLine0
import Derived.Test.YtgmijnnhanpocaaGreatDoorQNLine1
import Derived.Test.YtgmijnnhanpocaaGreatDoorQNBase4
import Derived.Test.YtgmijnnhanpocaaGreatDoorQNLine5
import Derived.Test.YtgmijnnhanpocaaGreatDoorQNBase1
import Derived.Deep.RegionWith
namespace Go.Proofs.YtgmijnnhanpocaaGreatDoor
open Go.ChangeShapes Go.WideShapes Go.ChangeAt Go.RowKit
namespace Ln
open Rw
def cutLs (ls : List LineIn) : List (List Cel) := (ls.map fun x => x.l.take 40).filter lineB
theorem cutLs_next {ls : List LineIn} {k : Nat} {x : LineIn} (h : ls[k]? = some x) : cutLs (ls.take (k + 1)) = cutLs (ls.take k) ++ if lineB (x.l.take 40) then [x.l.take 40] else [] := by
 unfold cutLs
 rw [take_one h, List.map_append, List.filter_append]
 cases hb : lineB (x.l.take 40) <;> simp [hb]
theorem cutLs_len (ls : List LineIn) : (cutLs ls).length ≤ ls.length := by
 unfold cutLs
 have := List.length_filter_le lineB (ls.map fun x => x.l.take 40)
 rw [List.length_map] at this
 exact this
theorem cutLs_each {ls : List LineIn} {y : List Cel} (h : y ∈ cutLs ls) : lineB y = true ∧ y.length ≤ 40 := by
 unfold cutLs at h
 obtain ⟨h1, h2⟩ := List.mem_filter.1 h
 obtain ⟨x, _, rfl⟩ := List.mem_map.1 h1
 exact ⟨h2, by rw [List.length_take]; omega⟩
def drawnLs (ls : List LineIn) : List (List Cel) := cutLs (ls.take 10)
set_option maxRecDepth 100000 in
set_option maxHeartbeats 6400000 in
theorem lines10_walk (A : Option Addr) (n c : Nat) (ls : List LineIn) (w : World) (hs : ∀ x ∈ ls, x.Ok w w.heap.size) (hq : Sq w w.heap.size 1 n A (ls.flatMap LineIn.vals)) (hn : n ≤ maxLen) :
  Calls Tryz.prog 10 #[.slice A n c] w fun e w' => ∃ v vs, e = .returned v ∧ Lns w' w.heap.size v vs (drawnLs ls) ∧ Below w.heap.size w w' := by
 obtain ⟨i0, hi0, hz0, hz1, hz2⟩ := info_parts infoCell
 obtain ⟨i1, hi1, hy0, hy1, hy2⟩ := info_parts infoSl
 have Q := Lib.hid hq
 have EO := Lib.hid hs
 have LN := Lib.hid (lines_len hq)
 have I0 := Lib.hid (Below.refl w.heap.size w)
 unfold maxLen at hn
 clear hq hs
 go_enter Tryz.func10, Tryz.ntmps10
 go_wp2_with fail
 go_loopw [3, 4] (fun v i wr => ∃ (k p d : Nat) (A3 : Option Addr) (vs : List Value), v = .slice A3 p d ∧ i = .int .i64 (k : Int) ∧ k ≤ n ∧ k ≤ 10 ∧ p ≤ k ∧ Hid (Below w.heap.size w wr) ∧ Hid (Lns wr w.heap.size (.slice A3 p d) vs (cutLs (ls.take k)) ∧ (cutLs (ls.take k)).length = p)) (fun _ i _ => 10 - (intOf i).toNat)
 case atStart => exact ⟨0, 0, 0, none, [], rfl, rfl, Nat.zero_le _, Nat.zero_le _, Nat.le_refl _, I0, Lib.hid ⟨Lns.nothing _ _, rfl⟩⟩
 case round =>
  obtain ⟨k, p, d, A3, vs, rfl, rfl, hk, hk10, hpk, I, O⟩ := hrel
  clear I0
  by_cases hlt : k < n
  ·by_cases hlt2 : k < 10
   ·obtain ⟨⟨xA, xn, xc, xl⟩, hx⟩ : ∃ x, ls[k]? = some x := ⟨_, List.getElem?_eq_getElem (by rw [LN.out]; exact hlt)⟩
    obtain ⟨b, off, rfl, hb, q0⟩ := lines_at Q.out hx hlt
    have ok := (EO.out _ (List.mem_of_getElem? hx)).below I.out
    have okl := ok.le
    have okc := ok.cap
    dsimp only at okl okc q0
    obtain ⟨m, hm⟩ : ∃ m : Nat, min (xn : Int) 40 = (m : Int) := ⟨min xn 40, by omega⟩
    have hm1 : m ≤ xn := by omega
    have hm2 : m ≤ 40 := by omega
    have hmc : m ≤ xc := by omega
    have hxl : xl.length = xn := by have h := ok.sq.len; rw [flat_length] at h; dsimp only at h; omega
    have htk : xl.take 40 = xl.take m := by
     by_cases h40 : xn ≤ 40
     ·rw [List.take_of_length_le (by omega), List.take_of_length_le (by omega)]
     ·rw [show m = 40 by omega]
    have CN := Lib.hid (show cutLs (ls.take (k + 1)) = cutLs (ls.take k) ++ if lineB (xl.take m) then [xl.take m] else [] from by rw [cutLs_next hx, htk])
    have hlm : (xl.take m).length = m := by rw [List.length_take]; omega
    have CQ := Lib.hid (show Sq wr wr.heap.size 3 m xA (flat (xl.take m)) from (sq_takeC ok.sq hm1).up I.out.size)
    have SG := Lib.hid (show ∀ c ∈ xl.take m, -2147483648 ≤ c.1 ∧ c.1 ≤ 2147483647 from fun c hc => ok.signs c (List.mem_of_mem_take hc))
    generalize xl.take m = cl at CN hlm CQ SG
    have HLM := Lib.hid hlm
    have HI := Lib.hid hb
    have r0 : ∀ q, (wr.drewN q).cell? ⟨b, off + k, none⟩ = some (.slice xA xn xc) := fun q => (I.out.cell (p := ⟨b, off + k, none⟩) hb).trans q0
    have hki : (k : Int) < (n : Int) := by omega
    have hki2 : (k : Int) < 10 := by omega
    have hk0 : (0 : Int) ≤ (k : Int) := by omega
    clear hx q0 ok hxl htk hlm hb
    go_wp2_with fail
    go_quiet (fail)
    have DQ : Laid wr (wr.drewN nq) := ⟨rfl, rfl, rfl, Nat.le_refl _, fun _ _ => rfl⟩
    generalize wr.drewN nq = wq at DQ ⊢
    have IQ := Lib.hid (I.out.trans (DQ.mono I.out.size))
    have OQ := Lib.hid (O.out.1.laid DQ)
    have CQ2 := Lib.hid ((CQ.out.below DQ).up DQ.size)
    have RL := Lib.hid (refLine_walk xA m xc cl wq SG.out CQ2.out (by omega))
    clear DQ r0 I CQ
    go_wp2_with fail
    refine RL.out.mono ?_
    rintro e w2 ⟨rfl, b2⟩
    have I2 := Lib.hid (IQ.out.trans (b2.mono IQ.out.size))
    have O2 := Lib.hid (OQ.out.laid b2)
    have CQ3 := Lib.hid ((CQ2.out.below b2).up b2.size)
    clear b2 RL IQ OQ CQ2
    cases hlb : lineB cl with
    | false =>
     have CN2 := Lib.hid (show cutLs (ls.take (k + 1)) = cutLs (ls.take k) from by rw [CN.out, hlb]; simp)
     clear hlb
     go_wp2
     go_roundw
     case rel => exact ⟨k + 1, p, d, A3, vs, by trivial, by go_num, by omega, by omega, by omega, I2, Lib.hid (by rw [CN2.out]; exact ⟨O2.out, O.out.2⟩)⟩
     case measure => simp [intOf]; omega
    | true =>
     have CN2 := Lib.hid (show cutLs (ls.take (k + 1)) = cutLs (ls.take k) ++ [cl] from by rw [CN.out, hlb]; simp)
     have OW := Lib.hid (show w2.ownsRow w.heap.size 46 1 (.slice A3 p d) p vs from by have h := O2.out.own; rwa [O.out.2] at h)
     have F1 := Lib.hid (show 0 + m ≤ maxLen ∧ (0 + m) * 24 ≤ 140737488355328 from by unfold maxLen; omega)
     have F2 := Lib.hid (show p + 1 ≤ maxLen ∧ (p + 1) * 24 ≤ 140737488355328 from by unfold maxLen; omega)
     have IZ := Lib.hid I2.out.size
     clear hlb
     go_wp2_with (first
      | (at_builtin; refine wpl_app rfl _ _ 46 rfl w2.heap.size 50 i0 (.agg #[.int .i32 0, .int .i64 0, .int .i64 0]) 3 24 Tryz.underlying46 hi0 hz0 hz1 hz2 rfl (by decide) (.slice none 0 0) 0 [] rfl (World.ownsRow_nil _ _ _ _) xA m xc (flat cl) rfl w2.heap.size CQ3.out (flat_one _) F1.out.1 F1.out.2 (Nat.le_refl _) ?_; intro v4 w4 ho4 hg4 _; (rw [Nat.zero_add, List.nil_append] at ho4); (obtain ⟨A4, d4, rfl, _⟩ := own_cap ho4); (have O4 := Lib.hid ho4); (have B4 := Lib.hid (show Laid w2 w4 from (Below.refl _ _).grown hg4 (Nat.le_refl _) (fun j e => by cases e))); (have P4 := Lib.hid (own_laid OW.out B4.out)); (have Z4 := Lib.hid (show w.heap.size ≤ w4.heap.size from Nat.le_trans IZ.out B4.out.size)); clear ho4 hg4)
      | (at_builtin; refine wpl_app rfl _ _ 23 rfl w.heap.size 46 i1 (.slice none 0 0) 1 24 Tryz.underlying23 hi1 hy0 hy1 hy2 rfl (by decide) (.slice A3 p d) p vs rfl (P4.out.alloc _) (some ⟨w4.heap.size, 0, none⟩) 1 1 [.slice A4 m d4] rfl (w4.heap.size + 1) (sq_single _ _ _) (by simp [Value.oneCell']) F2.out.1 F2.out.2 (by have := Z4.out; simp; omega) ?_; intro v5 w5 ho5 hg5 _; (obtain ⟨A5, d5, rfl, _⟩ := own_cap ho5); (have O5 := Lib.hid ho5); (have G5 := Lib.hid hg5); clear ho5 hg5))
     go_roundw
     case rel =>
      have ba : Laid w4 (w4.alloc (.cells #[.slice A4 m d4] 46)) := (Below.refl _ _).alloc (Nat.le_refl _) _
      have hb4 : Below w.heap.size w w4 := I2.out.trans (B4.out.mono I2.out.size)
      have hc4 : HasC (w4.alloc (.cells #[.slice A4 m d4] 46)) w.heap.size (.slice A4 m d4) cl := by
       have h : w4.ownsRow w2.heap.size 50 3 (.slice A4 m d4) cl.length (flat cl) := by rw [HLM.out]; exact O4.out
       exact own_down (own_laid h ba) IZ.out
      refine ⟨k + 1, p + 1, d5, A5, vs ++ [.slice A4 m d4], by trivial, by go_num, by omega, by omega, by omega, Lib.hid ?_, Lib.hid ?_⟩
      ·exact (hb4.trans (ba.mono hb4.size)).grown G5.out (by have := Z4.out; simp; omega) (fun j e => (P4.out.lt j e).1)
      ·rw [CN2.out]
       refine ⟨Lns.snoc ((O2.out.laid B4.out).laid ba) hc4 ?_ G5.out, by rw [List.length_append, O.out.2]; rfl⟩
       rw [O.out.2]
       exact O5.out
     case measure => simp [intOf]; omega
   ·obtain rfl : k = 10 := by omega
    have FN := Lib.hid (show Lns wr w.heap.size (.slice A3 p d) vs (drawnLs ls) from O.out.1)
    have hki : (10 : Int) < (n : Int) := by omega
    go_wp2
    go_ret
    exact ⟨_, vs, rfl, FN.out, I.out⟩
  ·obtain rfl : k = n := by omega
   have FN := Lib.hid (show Lns wr w.heap.size (.slice A3 p d) vs (drawnLs ls) from by
    have h := O.out.1
    have e1 : ls.take k = ls := List.take_of_length_le (by rw [LN.out]; exact Nat.le_refl _)
    have e2 : ls.take 10 = ls := List.take_of_length_le (by rw [LN.out]; exact hk10)
    unfold drawnLs
    rw [e2]
    rwa [e1] at h)
   have hnl : ¬ (k : Int) < (k : Int) := by omega
   go_wp2
   go_ret
   first | exact ⟨_, vs, rfl, FN.out, I.out⟩ | exact ⟨_, rfl, ⟨vs, FN.out⟩, I.out⟩
end Ln
end Go.Proofs.YtgmijnnhanpocaaGreatDoor
namespace Go.Proofs.YtgmijnnhanpocaaGreatDoor
open Go.ChangeShapes Go.WideShapes Go.ChangeAt Go.RowKit
namespace Ln
open Rw
attribute [local go_sem] Oper.semAt_some
def behindL (ys : List Pl) : Nat × Nat := match ys.getLast? with
 | none => (0, 0)
 | some y => (y.1.1, y.1.2 + wd y.2)
theorem behindL_snoc (ys : List Pl) (y : Pl) : behindL (ys ++ [y]) = (y.1.1, y.1.2 + wd y.2) := by
 unfold behindL
 rw [List.getLast?_append]
 rfl
theorem pos_behind (w : Nat) (l : List Cel) : (posOut w l).1 = behindL (posOut w l).2 := by
 refine snoc_ind (P := fun l => (posOut w l).1 = behindL (posOut w l).2) rfl (fun l x ih => ?_) l
 rw [posOut_snoc]
 unfold pstep
 split
 ·simp only
  rw [← List.append_assoc, behindL_snoc]
  simp
 ·simp only
  rw [behindL_snoc]
structure EndI (w : World) (S Bl wv n c : Nat) (A : Option Addr) (l : List Cel) (rc : Nat × Nat) (W : World) : Prop where
 old : Below w.heap.size w W
 res : W.heap[S]? = some (.cells #[.int .i64 0, .int .i64 0] 25 (0, 0))
 at_ : W.heap[S + 1]? = some (.cells #[.int .i64 (rc.1 : Int), .int .i64 (rc.2 : Int)] 25 (0, 0))
 src : LSrc S Bl (Bl + 1) A n c wv l W
namespace EndI
variable {w W W' : World} {S Bl wv n c : Nat} {A : Option Addr} {l : List Cel} {rc : Nat × Nat}
theorem rl (h : EndI w S Bl wv n c A l rc W) {X : Nat → Prop} (hS : w.heap.size ≤ S) (h0 : ∀ j, j < S → X j) (h1 : X S) (h2 : X (S + 1)) (h3 : X Bl) (h4 : X (Bl + 1)) (hr : Rl X W W') : EndI w S Bl wv n c A l rc W' :=
 ⟨h.old.trans ⟨hr.os, hr.tape, hr.output, hr.size, fun j hj => hr.block j (Nat.lt_of_lt_of_le hj h.old.size) fun _ _ => h0 j (by omega)⟩, (hr.block S (Array.getElem?_eq_some_iff.1 h.res).1 fun _ _ => h1).trans h.res, (hr.block (S + 1) (Array.getElem?_eq_some_iff.1 h.at_).1 fun _ _ => h2).trans h.at_, h.src.rl hr h3 h4 h0⟩
theorem put (h : EndI w S Bl wv n c A l rc W) {j : Nat} {o : Obj} (o' : Obj) (hS : w.heap.size ≤ S) (hj : Bl + 1 < j) (hjS : S + 1 < j) (ho : W.heap[j]? = some o) (hc : o.isCells = false) : EndI w S Bl wv n c A l rc (W.putObj j o') :=
 ⟨h.old.trans ⟨rfl, rfl, rfl, by simp [World.putObj], fun k hk => World.putObj_heap_other (by omega)⟩, (World.putObj_heap_other (by omega)).trans h.res, (World.putObj_heap_other (by omega)).trans h.at_, h.src.kept (X := fun _ => False) (LeavesP.put (by omega) (by omega) (by omega) ho hc o')⟩
theorem laid (h : EndI w S Bl wv n c A l rc W) (hb : Laid W W') : EndI w S Bl wv n c A l rc W' :=
 ⟨h.old.trans (hb.mono h.old.size), (hb.block S (Array.getElem?_eq_some_iff.1 h.res).1).trans h.res, (hb.block (S + 1) (Array.getElem?_eq_some_iff.1 h.at_).1).trans h.at_, h.src.laid hb⟩
end EndI
set_option maxRecDepth 100000 in
set_option maxHeartbeats 6400000 in
theorem end_walk (A : Option Addr) (n c : Nat) (l : List Cel) (wv : Nat) (w : World) (w12 : ∀ x ∈ l, W12 x) (hw2 : 2 ≤ wv) (hw3 : wv ≤ 300) (hq : Sq w w.heap.size 3 n A (flat l)) (hn : n ≤ 1000000) :
  Calls Tryz.prog 80 #[.slice A n c, .int .i64 (wv : Int)] w fun e w' => e = .returned (.agg #[.int .i64 ((posOut wv l).1.1 : Int), .int .i64 ((posOut wv l).1.2 : Int)]) ∧ Below w.heap.size w w' := by
 obtain ⟨S, hS⟩ : ∃ S, w.heap.size = S := ⟨_, rfl⟩
 have hll : l.length = n := by have := hq.len; rw [flat_length] at this; omega
 obtain ⟨w1, hw1⟩ : ∃ w1, (w.alloc (.cells #[.int .i64 0, .int .i64 0] 25)).alloc (.cells #[.int .i64 0, .int .i64 0] 25) = w1 := ⟨_, rfl⟩
 have z1 : w1.heap.size = S + 2 := by rw [← hw1, ← hS]; simp
 have PL := Lib.hid (places_walk A n c (wv : Int) w1)
 obtain ⟨w5, hw5⟩ : ∃ w5, (w1.alloc (.cells #[.slice A n c] 46)).alloc (.cells #[.int .i64 (wv : Int)] 3) = w5 := ⟨_, rfl⟩
 have b01 : Below w.heap.size w w1 := by rw [← hw1]; exact ((Below.refl _ _).alloc (Nat.le_refl _) _).alloc (by simp) _
 have b15 : Laid w1 w5 := by rw [← hw5]; exact ((Below.refl _ _).alloc (Nat.le_refl _) _).alloc (by simp) _
 have z5 : w5.heap.size = S + 4 := by rw [← hw5]; simp; omega
 have x0 : w1.heap[S]? = some (.cells #[.int .i64 0, .int .i64 0] 25 (0, 0)) := by rw [← hw1, ← hS]; exact (Below.heap_alloc _ _ _ (by simp)).trans (heap_alloc_new w _)
 have x1 : w1.heap[S + 1]? = some (.cells #[.int .i64 0, .int .i64 0] 25 (0, 0)) := by
  rw [← hw1, ← hS]
  have := heap_alloc_new (w.alloc (.cells #[.int .i64 0, .int .i64 0] 25)) (.cells #[.int .i64 0, .int .i64 0] 25)
  rwa [World.size_alloc] at this
 have old5 : Below w.heap.size w w5 := b01.trans (b15.mono b01.size)
 have ls5 : LSrc S (S + 2) (S + 3) A n c wv l w5 := by
  refine ⟨?_, ?_, ?_, by omega⟩
  ·rw [← hw5, ← z1]; exact (Below.heap_alloc _ _ _ (by simp)).trans (heap_alloc_new w1 _)
  ·rw [← hw5, show S + 3 = w1.heap.size + 1 by omega]
   have := heap_alloc_new (w1.alloc (.cells #[.slice A n c] 46)) (.cells #[.int .i64 (wv : Int)] 3)
   rwa [World.size_alloc] at this
  ·have := hq.below old5
   rw [hS] at this
   exact this
 have I0 := Lib.hid (show EndI w S (S + 2) wv n c A l (behindL []) w5 from ⟨old5, (b15.block S (by omega)).trans x0, (b15.block (S + 1) (by omega)).trans x1, ls5⟩)
 have TL := Lib.hid (places_tells (X := fun j => j < w5.heap.size) (Kp := LeavesP S (S + 2) (S + 3) fun j => j < w5.heap.size) ls5 w12 hw2 hw3 (fun _ h => h) (fun _ _ h => h) hn)
 have PB := Lib.hid (pos_behind wv l)
 obtain ⟨ys, hys⟩ : ∃ ys, (posOut wv l).2 = ys := ⟨_, rfl⟩
 obtain ⟨rc, hrc⟩ : ∃ rc, (posOut wv l).1 = rc := ⟨_, rfl⟩
 have PF := Lib.hid (show ∀ (k : Nat) (y : Pl), ys[k]? = some y → y.1.1 ≤ 2000001 ∧ y.1.2 ≤ 300 ∧ W12 y.2 from fun k y hy => by
  rw [← hys] at hy
  obtain ⟨h1, h2, h3, _⟩ := pos_fit hw2 l w12 k y hy
  refine ⟨?_, by omega, h3⟩
  have h4 := putPs_len wv ((posOut wv l).2.take k)
  have h5 := (pos_bounds hw2 l w12).2.2
  rw [List.length_take] at h4
  omega)
 rw [hys] at TL PB
 rw [hrc] at PB ⊢
 have HW := Lib.hid hw1
 have HW5 := Lib.hid hw5
 have Z := Lib.hid (show w.heap.size = S ∧ w5.heap.size = S + 4 from ⟨hS, z5⟩)
 have Z1 := Lib.hid z1
 clear hys hrc hq hw1 hw5 z1 z5 x0 x1 b01 b15 old5 ls5 w12 hw2 hw3 hll
 refine (callsIn_wide (n := 3)).1 (callsIn_of_wp_marks Tryz.func80 rfl trivial ?_ rfl)
 simp only [Tryz.ntmps80, List.size_toArray, List.length_cons, List.length_nil, Nat.reduceAdd, Nat.reduceSub, Array.replicate_succ, Array.replicate_zero, List.push_toArray, List.append_toArray, List.nil_append, List.cons_append]
 refine wpIn_wide.2 ?_
 go_wp2_with fail
 rw [HW.out]
 refine PL.out.mono ?_
 rintro e w' ⟨rfl, rfl⟩
 go_wp2_with fail
 rw [HW5.out]
 rw [Z1.out]
 refine wp_overR (Rl := Rl fun j => j < w5.heap.size) (Fit := FitL ys) (Kp := LeavesP S (S + 2) (S + 3) fun j => j < w5.heap.size) (N := ys.length) (gf := 83) (lb := #[.pointer (some ⟨S + 2, 0, none⟩), .pointer (some ⟨S + 3, 0, none⟩)]) (fun _ _ h => Rl.laid h) Rl.other rfl (enters_of Tryz.func83 (by kernel_rfl) rfl) TL.out LeavesP.trans
  (fun A B hA h => LeavesP.laid h (by have := Z.out; omega) (by have := Z.out; omega) (by have := Z.out; omega)) (fun W l o o' hl ho hc => LeavesP.put (by have := Z.out; omega) (by have := Z.out; omega) (by have := Z.out; omega) ho hc o') (fun k x W h => by obtain ⟨y, _, rfl⟩ := h; rfl)
  (fun k W => Hid (EndI w S (S + 2) wv n c A l (behindL (ys.take k)) W ∧ w5.heap.size ≤ W.heap.size)) (fun _ _ _ => False)
  ?grow ?stay (fun _ _ _ _ h _ => h) (fun _ _ _ _ _ _ _ _ _ h => h) (Lib.hid ⟨I0.out, Nat.le_refl _⟩) ?round ?done (fun _ _ _ _ _ _ h _ => h.elim)
 case grow =>
  intro k W V h hr
  have hz := Z.out
  exact Lib.hid ⟨h.out.1.rl (by omega) (fun j hj => by show j < w5.heap.size; omega) (by show S < w5.heap.size; omega) (by show S + 1 < w5.heap.size; omega) (by show S + 2 < w5.heap.size; omega) (by show S + 3 < w5.heap.size; omega) hr, Nat.le_trans h.out.2 hr.size⟩
 case stay =>
  intro k W l' o o' hl' ho hc h
  have hz := Z.out
  exact Lib.hid ⟨h.out.1.put o' (by omega) (by omega) (by omega) ho hc, by simpa [World.putObj] using h.out.2⟩
 case round =>
  rintro l2 k2 y W hk2 hl2 ⟨o, ho, hoc⟩ hi ⟨⟨⟨pr, pc⟩, r, m, a⟩, hy, rfl⟩
  have bb : Laid W ((W.alloc (.cells #[.int .i64 (pr : Int), .int .i64 (pc : Int)] 25)).alloc (.cells #[.int .i32 r, .int .i64 m, .int .i64 a] 50)) := ((Below.refl _ _).alloc (Nat.le_refl _) _).alloc (by simp) _
  simp only
  gi_wp2
  refine ⟨bb, fun o1 => ?_⟩
  have hz := Z.out
  have hlt2 : l2 < W.heap.size := (Array.getElem?_eq_some_iff.1 ho).1
  have ho' := (bb.block l2 hlt2).trans ho
  obtain ⟨hi1, hi3⟩ := hi.out
  have zz : ((W.alloc (.cells #[.int .i64 (pr : Int), .int .i64 (pc : Int)] 25)).alloc (.cells #[.int .i32 r, .int .i64 m, .int .i64 a] 50)).heap.size = W.heap.size + 2 := by simp
  have q1 : ((W.alloc (.cells #[.int .i64 (pr : Int), .int .i64 (pc : Int)] 25)).alloc (.cells #[.int .i32 r, .int .i64 m, .int .i64 a] 50)).heap[W.heap.size]? = some (.cells #[.int .i64 (pr : Int), .int .i64 (pc : Int)] 25 (0, 0)) := (Below.heap_alloc _ _ _ (by simp)).trans (heap_alloc_new W _)
  have q2 : ((W.alloc (.cells #[.int .i64 (pr : Int), .int .i64 (pc : Int)] 25)).alloc (.cells #[.int .i32 r, .int .i64 m, .int .i64 a] 50)).heap[W.heap.size + 1]? = some (.cells #[.int .i32 r, .int .i64 m, .int .i64 a] 50 (0, 0)) := by
   have := heap_alloc_new (W.alloc (.cells #[.int .i64 (pr : Int), .int .i64 (pc : Int)] 25)) (.cells #[.int .i32 r, .int .i64 m, .int .i64 a] 50)
   rwa [World.size_alloc] at this
  have H2 := Lib.hid ((hi1.laid bb).put o1 (by omega) (by omega) (by omega) ho' hoc)
  have PBx := Lib.hid ((World.putObj_heap_other (o := o1) (show W.heap.size ≠ l2 by omega)).trans q1)
  have CBx := Lib.hid ((World.putObj_heap_other (o := o1) (show W.heap.size + 1 ≠ l2 by omega)).trans q2)
  generalize hP1 : W.heap.size = P1 at PBx CBx hi3 zz hlt2 ⊢
  have Z2 := Lib.hid (show (((W.alloc (.cells #[.int .i64 (pr : Int), .int .i64 (pc : Int)] 25)).alloc (.cells #[.int .i32 r, .int .i64 m, .int .i64 a] 50)).putObj l2 o1).heap.size = P1 + 2 ∧ w5.heap.size ≤ P1 from ⟨by simpa [World.putObj] using zz, hi3⟩)
  clear q1 q2 zz bb ho' ho hi hi1 hi3 hlt2
  generalize ((W.alloc (.cells #[.int .i64 (pr : Int), .int .i64 (pc : Int)] 25)).alloc (.cells #[.int .i32 r, .int .i64 m, .int .i64 a] 50)).putObj l2 o1 = V2 at H2 PBx CBx Z2 ⊢
  clear hP1
  have NX := Lib.hid (show behindL (ys.take (k2 + 1)) = (pr, pc + m.toNat) from by rw [take_one hy, behindL_snoc]; rfl)
  obtain ⟨f1, f2, f3⟩ := PF.out _ _ hy
  have hm12 : m = 1 ∨ m = 2 := f3
  have f1' : pr ≤ 2000001 := f1
  have f2' : pc ≤ 300 := f2
  obtain ⟨mw, hmw⟩ : ∃ mw : Nat, m = (mw : Int) := ⟨m.toNat, by omega⟩
  subst hmw
  have hmt : ((mw : Int)).toNat = mw := by simp
  rw [hmt] at NX
  have hsum : IntKind.i64.wrap ((pc : Int) + (mw : Int)) = ((pc + mw : Nat) : Int) := by rw [show (pc : Int) + (mw : Int) = ((pc + mw : Nat) : Int) by omega]; exact IntWalk.i64_in _ (by omega)
  have k0 : V2.cell? ⟨P1, 0, none⟩ = some (.int .i64 (pr : Int)) := cell_of_row _ _ 0 _ _ (0, 0) PBx.out
  have k1 : V2.cell? ⟨P1, 1, none⟩ = some (.int .i64 (pc : Int)) := cell_of_row _ _ 1 _ _ (0, 0) PBx.out
  have d1 : V2.cell? ⟨P1 + 1, 1, none⟩ = some (.int .i64 (mw : Int)) := cell_of_row _ _ 1 _ _ (0, 0) CBx.out
  obtain ⟨tt, htt⟩ : ∃ tt, behindL (ys.take k2) = tt := ⟨_, rfl⟩
  rw [htt] at H2
  have t0 : V2.cell? ⟨S + 1, 0, none⟩ = some (.int .i64 (tt.1 : Int)) := cell_of_row _ _ 0 _ _ (0, 0) H2.out.at_
  have t1 : V2.cell? ⟨S + 1, 1, none⟩ = some (.int .i64 (tt.2 : Int)) := cell_of_row _ _ 1 _ _ (0, 0) H2.out.at_
  have z0 := frozen_of_row V2 (S + 1) 0 _ _ H2.out.at_
  have z1 := frozen_of_row V2 (S + 1) 1 _ _ H2.out.at_
  clear hy f1 f2 f3 hm12 hmt htt
  gi_wp2_with fail
  have oth : ∀ j, j ≠ S + 1 → ((V2.setCell ⟨S + 1, 0, none⟩ (.int .i64 (pr : Int))).setCell ⟨S + 1, 1, none⟩ (.int .i64 ((pc : Int) + (mw : Int)))).heap[j]? = V2.heap[j]? := fun j hj => (Below.heap_setCell _ _ _ _ hj).trans (Below.heap_setCell _ _ _ _ hj)
  have same : ((V2.setCell ⟨S + 1, 0, none⟩ (.int .i64 (pr : Int))).setCell ⟨S + 1, 1, none⟩ (.int .i64 ((pc : Int) + (mw : Int)))).heap[S + 1]? = some (.cells #[.int .i64 (pr : Int), .int .i64 ((pc + mw : Nat) : Int)] 25 (0, 0)) := by
   have h1 := heap_setCell_same V2 (S + 1) 0 _ _ (.int .i64 (pr : Int)) H2.out.at_
   have h2 := heap_setCell_same _ (S + 1) 1 _ _ (.int .i64 ((pc : Int) + (mw : Int))) h1
   rw [h2]
   simp
  have hsz : ((V2.setCell ⟨S + 1, 0, none⟩ (.int .i64 (pr : Int))).setCell ⟨S + 1, 1, none⟩ (.int .i64 ((pc : Int) + (mw : Int)))).heap.size = V2.heap.size := by simp
  have lv : LeavesP S (S + 2) (S + 3) (fun j => j < w5.heap.size) V2 ((V2.setCell ⟨S + 1, 0, none⟩ (.int .i64 (pr : Int))).setCell ⟨S + 1, 1, none⟩ (.int .i64 ((pc : Int) + (mw : Int)))) := ⟨by rw [hsz]; exact Nat.le_refl _, fun j hj => oth j (by
   have hz := Z.out
   rcases hj with hj | hj | hj | ⟨_, hj⟩
   ·omega
   ·omega
   ·omega
   ·intro e; exact hj (by omega))⟩
  refine ⟨((KeepsOthers.setCell _ _ _).from _).trans ((KeepsOthers.setCell _ _ _).from _), lv, Lib.hid ⟨⟨?_, ?_, ?_, H2.out.src.kept lv⟩, ?_⟩⟩
  ·have hz := Z.out
   exact H2.out.old.trans ⟨rfl, rfl, rfl, by rw [hsz]; exact Nat.le_refl _, fun j hj => oth j (by omega)⟩
  ·exact (oth S (by omega)).trans H2.out.res
  ·rw [NX.out]; exact same
  ·rw [hsz]; have := Z2.out; omega
 case done =>
  rintro D W hD hi hdef
  have HI := Lib.hid hi.out.1
  have DF := Lib.hid hdef
  have FIN := Lib.hid (show behindL (ys.take ys.length) = rc from by rw [List.take_length]; exact PB.out.symm)
  clear hi hdef TL I0
  have hat := HI.out.at_
  rw [FIN.out] at hat
  have t0 : W.cell? ⟨S + 1, 0, none⟩ = some (.int .i64 (rc.1 : Int)) := cell_of_row _ _ 0 _ _ (0, 0) hat
  have t1 : W.cell? ⟨S + 1, 1, none⟩ = some (.int .i64 (rc.2 : Int)) := cell_of_row _ _ 1 _ _ (0, 0) hat
  have r0 : W.cell? ⟨S, 0, none⟩ = some (.int .i64 0) := cell_of_row _ _ 0 _ _ (0, 0) HI.out.res
  have r1 : W.cell? ⟨S, 1, none⟩ = some (.int .i64 0) := cell_of_row _ _ 1 _ _ (0, 0) HI.out.res
  have z0 := frozen_of_row W S 0 _ _ HI.out.res
  have z1 := frozen_of_row W S 1 _ _ HI.out.res
  clear hat
  go_wp2_with fail
  have hz := Z.out
  have same : ((W.setCell ⟨S, 0, none⟩ (.int .i64 (rc.1 : Int))).setCell ⟨S, 1, none⟩ (.int .i64 (rc.2 : Int))).heap[S]? = some (.cells #[.int .i64 (rc.1 : Int), .int .i64 (rc.2 : Int)] 25 (0, 0)) := by
   have h1 := heap_setCell_same W S 0 _ _ (.int .i64 (rc.1 : Int)) HI.out.res
   have h2 := heap_setCell_same _ S 1 _ _ (.int .i64 (rc.2 : Int)) h1
   rw [h2]
   simp
  have hdD : ((W.setCell ⟨S, 0, none⟩ (.int .i64 (rc.1 : Int))).setCell ⟨S, 1, none⟩ (.int .i64 (rc.2 : Int))).heap[D]? = some (.deferred (some [])) := (Below.heap_setCell _ _ _ _ (by show D ≠ S; omega)).trans ((Below.heap_setCell _ _ _ _ (by show D ≠ S; omega)).trans DF.out)
  have old : Below w.heap.size w ((W.setCell ⟨S, 0, none⟩ (.int .i64 (rc.1 : Int))).setCell ⟨S, 1, none⟩ (.int .i64 (rc.2 : Int))) := (HI.out.old.setCell (p := ⟨S, 0, none⟩) (by show w.heap.size ≤ S; omega) _).setCell (p := ⟨S, 1, none⟩) (by show w.heap.size ≤ S; omega) _
  generalize (W.setCell ⟨S, 0, none⟩ (.int .i64 (rc.1 : Int))).setCell ⟨S, 1, none⟩ (.int .i64 (rc.2 : Int)) = W7 at same hdD old ⊢
  refine ⟨by simp, .inl ⟨_, _, rfl, run_takeDeferred hdD, ?_⟩⟩
  have q : (W7.putObj D (.deferred none)).heap[S]? = some (.cells #[.int .i64 (rc.1 : Int), .int .i64 (rc.2 : Int)] 25 (0, 0)) := (World.putObj_heap_other (by omega)).trans same
  have q0 : (W7.putObj D (.deferred none)).cell? ⟨S, 0, none⟩ = some (.int .i64 (rc.1 : Int)) := cell_of_row _ _ 0 _ _ (0, 0) q
  have q1 : (W7.putObj D (.deferred none)).cell? ⟨S, 1, none⟩ = some (.int .i64 (rc.2 : Int)) := cell_of_row _ _ 1 _ _ (0, 0) q
  refine ⟨.agg #[.int .i64 (rc.1 : Int), .int .i64 (rc.2 : Int)], ?_, rfl, ?_⟩
  ·simp [results, go_sem, q0, q1]
  ·exact old.trans ⟨rfl, rfl, rfl, by simp [World.putObj], fun k hk => World.putObj_heap_other (by omega)⟩
end Ln
end Go.Proofs.YtgmijnnhanpocaaGreatDoor
namespace Go.Proofs.YtgmijnnhanpocaaGreatDoor
open Go.ChangeShapes Go.WideShapes Go.ChangeAt Go.RowKit
namespace Ln
open Rw
attribute [local go_sem] Oper.semAt_some
theorem lay_high {wv : Nat} (hw : 2 ≤ wv) {l : List Cel} (h : lineB l = true) : (posOut wv l).1.1 + 1 = (layL wv l).length ∧ (posOut wv l).1.2 ≤ wv := by
 have h12 : ∀ x ∈ l, W12 x := fun x hx => okC_w (List.all_eq_true.1 h x hx)
 obtain ⟨h1, h2, _⟩ := lay_inv hw l h12
 rw [h1]
 refine ⟨?_, h2⟩
 unfold layL fill
 rw [List.length_append]
 rfl
set_option maxRecDepth 100000 in
set_option maxHeartbeats 6400000 in
theorem high_walk (A : Option Addr) (n c : Nat) (l : List Cel) (wv : Nat) (w : World) (hs : Spans w) (hl : ∀ c ∈ l, -2147483648 ≤ c.1 ∧ c.1 ≤ 2147483647) (hb : lineB l = true) (hw2 : 2 ≤ wv) (hw3 : wv ≤ 300) (hq : Sq w w.heap.size 3 n A (flat l)) (hn : n ≤ 100000) :
  Calls Tryz.prog 48 #[.slice A n c, .int .i64 (wv : Int)] w fun e w' => e = .returned (.int .i64 ((layL wv l).length : Int)) ∧ Below w.heap.size w w' := by
 have CL := Lib.hid (line_any A n c l w hs hl hq (by omega))
 have ED := Lib.hid (fun (W : World) (hb' : Below w.heap.size w W) => end_walk A n c l wv W (fun x hx => okC_w (List.all_eq_true.1 hb x hx)) hw2 hw3 ((hq.below hb').up hb'.size) (by omega))
 have LH := Lib.hid (lay_high hw2 hb)
 have HL := Lib.hid (show (posOut wv l).1.1 ≤ 100000 from by
  have h1 := (pos_bounds hw2 l (fun x hx => okC_w (List.all_eq_true.1 hb x hx))).2.1
  have h2 := hq.len
  rw [flat_length] at h2
  omega)
 rw [hb] at CL
 obtain ⟨N, hN⟩ : ∃ N, (layL wv l).length = N := ⟨_, rfl⟩
 rw [hN] at LH ⊢
 clear hs hl hb hq hN
 go_enter Tryz.func48, Tryz.ntmps48
 go_wp2_with fail
 refine CL.out.mono ?_
 rintro e w1 ⟨rfl, b1⟩
 have E1 := Lib.hid (ED.out w1 b1)
 have B1 := Lib.hid b1
 clear b1 ED
 go_wp2_with fail
 refine E1.out.mono ?_
 rintro e w2 ⟨rfl, b2⟩
 have B2 := Lib.hid (B1.out.trans (b2.mono B1.out.size))
 have hsum : IntKind.i64.wrap (((posOut wv l).1.1 : Int) + 1) = (N : Int) := by
  rw [← LH.out.1]
  rw [show (((posOut wv l).1.1 : Nat) : Int) + 1 = (((posOut wv l).1.1 + 1 : Nat) : Int) by omega]
  exact IntWalk.i64_in _ (by have := HL.out; omega)
 clear b2
 have hF : ∀ (a b : Value) (w : World), (Instr.field 25 (.agg #[a, b]) 0).run Tryz.prog w = .ok a w := fun a b w => by first | rfl | kernel_rfl | go_simp
 go_wp2_with fail
 go_ret
 exact ⟨rfl, B2.out⟩
def pastCol (wv p col : Nat) : Nat := if 0 < p then min (col + min p wv) (wv - 1) else col
set_option maxRecDepth 100000 in
set_option maxHeartbeats 6400000 in
theorem placeEnd_walk (A : Option Addr) (n c : Nat) (l : List Cel) (wv ln p : Nat) (w : World) (hp : p ≤ 4611686018427387904) (hb : lineB l = true) (hw2 : 2 ≤ wv) (hw3 : wv ≤ 300) (hq : Sq w w.heap.size 3 n A (flat l)) (hn : n ≤ 100000) :
  Calls Tryz.prog 47 #[.slice A n c, .int .i64 (wv : Int), .agg #[.int .i64 (ln : Int), .int .i64 (n : Int), .int .i64 (p : Int)]] w fun e w' => e = .returned (.agg #[.int .i64 ((posOut wv l).1.1 : Int), .int .i64 (pastCol wv p (posOut wv l).1.2 : Int)]) ∧ Below w.heap.size w w' := by
 obtain ⟨S, hS⟩ : ∃ S, w.heap.size = S := ⟨_, rfl⟩
 obtain ⟨w1, hw1⟩ : ∃ w1, (w.alloc (.cells #[.int .i64 (ln : Int), .int .i64 (n : Int), .int .i64 (p : Int)] 27)).alloc (.cells #[.int .i64 0, .int .i64 0] 25) = w1 := ⟨_, rfl⟩
 have z1 : w1.heap.size = S + 2 := by rw [← hw1, ← hS]; simp
 have b1 : Below w.heap.size w w1 := by rw [← hw1]; exact ((Below.refl _ _).alloc (Nat.le_refl _) _).alloc (by simp) _
 have x0 : w1.heap[S]? = some (.cells #[.int .i64 (ln : Int), .int .i64 (n : Int), .int .i64 (p : Int)] 27 (0, 0)) := by rw [← hw1, ← hS]; exact (Below.heap_alloc _ _ _ (by simp)).trans (heap_alloc_new w _)
 have x1 : w1.heap[S + 1]? = some (.cells #[.int .i64 0, .int .i64 0] 25 (0, 0)) := by
  rw [← hw1, ← hS]
  have := heap_alloc_new (w.alloc (.cells #[.int .i64 (ln : Int), .int .i64 (n : Int), .int .i64 (p : Int)] 27)) (.cells #[.int .i64 0, .int .i64 0] 25)
  rwa [World.size_alloc] at this
 have ED := Lib.hid (end_walk A n c l wv w1 (fun x hx => okC_w (List.all_eq_true.1 hb x hx)) hw2 hw3 ((hq.below b1).up b1.size) (by omega))
 have LH := Lib.hid (lay_high hw2 hb)
 have HL := Lib.hid (show (posOut wv l).1.1 ≤ 100000 from by
  have h1 := (pos_bounds hw2 l (fun x hx => okC_w (List.all_eq_true.1 hb x hx))).2.1
  have h2 := hq.len
  rw [flat_length] at h2
  omega)
 have HW := Lib.hid hw1
 have X := Lib.hid (And.intro x0 x1)
 have Z := Lib.hid (And.intro hS z1)
 have B1 := Lib.hid b1
 have y0 : ∀ q, (w1.drewN q).cell? ⟨S, 1, none⟩ = some (.int .i64 (n : Int)) := fun q => cell_of_row _ _ 1 _ _ (0, 0) x0
 clear hb hq x1 b1 hw1
 obtain ⟨row, hrow⟩ : ∃ row, (posOut wv l).1.1 = row := ⟨_, rfl⟩
 obtain ⟨col, hcol⟩ : ∃ col, (posOut wv l).1.2 = col := ⟨_, rfl⟩
 rw [hrow, hcol] at ED ⊢
 rw [hrow] at HL
 rw [hcol] at LH
 clear hrow hcol
 go_enter Tryz.func47, Tryz.ntmps47
 go_wp2_with fail
 rw [HW.out]
 refine ED.out.mono ?_
 rintro e w2 ⟨rfl, b2⟩
 have B2 := Lib.hid (B1.out.trans (b2.mono B1.out.size))
 obtain ⟨E, hE⟩ : ∃ E, w2.heap.size = E := ⟨_, rfl⟩
 have hse : S + 2 ≤ E := by have := b2.size; have := Z.out; omega
 obtain ⟨w3, hw3'⟩ : ∃ w3, (w2.alloc (.cells #[.int .i64 (row : Int), .int .i64 (col : Int)] 25)) = w3 := ⟨_, rfl⟩
 have b23 : Laid w2 w3 := by rw [← hw3']; exact (Below.refl _ _).alloc (Nat.le_refl _) _
 have x0 : w3.heap[S]? = some (.cells #[.int .i64 (ln : Int), .int .i64 (n : Int), .int .i64 (p : Int)] 27 (0, 0)) := (b23.block S (by omega)).trans ((b2.block S (by have := Z.out; omega)).trans X.out.1)
 have x1 : w3.heap[S + 1]? = some (.cells #[.int .i64 0, .int .i64 0] 25 (0, 0)) := (b23.block (S + 1) (by omega)).trans ((b2.block (S + 1) (by have := Z.out; omega)).trans X.out.2)
 have x8 : w3.heap[E]? = some (.cells #[.int .i64 (row : Int), .int .i64 (col : Int)] 25 (0, 0)) := by rw [← hw3', ← hE]; exact heap_alloc_new w2 _
 have PF := Lib.hid (show ∀ (k : Nat) (w4 : World), w2.alloc (.cells #[.int .i64 (row : Int), .int .i64 (k : Int)] 25) = w4 → w4.heap[S + 1]? = some (.cells #[.int .i64 0, .int .i64 0] 25 (0, 0)) ∧ w4.heap[E]? = some (.cells #[.int .i64 (row : Int), .int .i64 (k : Int)] 25 (0, 0)) ∧ Below w.heap.size w w4 from fun k w4 h => by
  have b24 : Laid w2 w4 := by rw [← h]; exact (Below.refl _ _).alloc (Nat.le_refl _) _
  exact ⟨(b24.block (S + 1) (by omega)).trans ((b2.block (S + 1) (by have := Z.out; omega)).trans X.out.2), by rw [← h, ← hE]; exact heap_alloc_new w2 _, B2.out.trans (b24.mono B2.out.size)⟩)
 have z1 := Z.out.1
 have c2 := cell_of_row _ _ 2 _ _ (0, 0) x0
 have d0 := cell_of_row _ _ 0 _ _ (0, 0) x8
 have d1 := cell_of_row _ _ 1 _ _ (0, 0) x8
 have f1 := frozen_of_row _ E 1 _ _ x8
 have e0 := cell_of_row _ _ 0 _ _ (0, 0) x1
 have e1 := cell_of_row _ _ 1 _ _ (0, 0) x1
 have g0 := frozen_of_row _ (S + 1) 0 _ _ x1
 have g1 := frozen_of_row _ (S + 1) 1 _ _ x1
 rw [← hw3'] at c2 d0 d1 f1 e0 e1 g0 g1
 clear y0 b2 hw3' b23 X HW B1 x0 x1 x8
 by_cases hp0 : 0 < p
 ·have hpi : (0 : Int) < (p : Int) := by omega
  have hcw := LH.out.2
  obtain ⟨m, hm⟩ : ∃ m : Nat, min (p : Int) (wv : Int) = (m : Int) := ⟨min p wv, by omega⟩
  obtain ⟨k, hk⟩ : ∃ k : Nat, min ((col : Int) + (m : Int)) ((wv : Int) - 1) = (k : Int) := ⟨min (col + m) (wv - 1), by omega⟩
  have f3 : IntKind.i64.wrap ((col : Int) + (m : Int)) = (col : Int) + (m : Int) := IntWalk.i64_in _ (by omega)
  have f4 : IntKind.i64.wrap ((wv : Int) - 1) = (wv : Int) - 1 := IntWalk.i64_in _ (by omega)
  have KP := Lib.hid (show pastCol wv p col = k from by unfold pastCol; rw [if_pos hp0]; omega)
  obtain ⟨w4, hw4⟩ : ∃ w4, (w2.alloc (.cells #[.int .i64 (row : Int), .int .i64 (k : Int)] 25)) = w4 := ⟨_, rfl⟩
  have F4 := Lib.hid (PF.out k w4 hw4)
  have HW4 := Lib.hid hw4
  clear hw4
  go_upto_region 8 with fail
  rw [HW4.out]
  clear c2 d0 d1 f1 e0 e1 g0 g1
  obtain ⟨x1, x8, B5⟩ := F4.out
  have d0 := cell_of_row _ _ 0 _ _ (0, 0) x8
  have d1 := cell_of_row _ _ 1 _ _ (0, 0) x8
  have e0 := cell_of_row _ _ 0 _ _ (0, 0) x1
  have e1 := cell_of_row _ _ 1 _ _ (0, 0) x1
  have g0 := frozen_of_row _ (S + 1) 0 _ _ x1
  have g1 := frozen_of_row _ (S + 1) 1 _ _ x1
  clear x1 x8 B5
  go_wp2_with fail
  have sm := heap_setCell_same w4 (S + 1) 0 _ _ (.int .i64 (row : Int)) F4.out.1
  have sm2 := heap_setCell_same _ (S + 1) 1 _ _ (.int .i64 (k : Int)) sm
  have B5 := Lib.hid ((F4.out.2.2.setCell (p := ⟨S + 1, 0, none⟩) (by show w.heap.size ≤ S + 1; omega) (.int .i64 (row : Int))).setCell (p := ⟨S + 1, 1, none⟩) (by show w.heap.size ≤ S + 1; omega) (.int .i64 (k : Int)))
  generalize (w4.setCell ⟨S + 1, 0, none⟩ (.int .i64 (row : Int))).setCell ⟨S + 1, 1, none⟩ (.int .i64 (k : Int)) = w5 at sm2 B5 ⊢
  have r0 : w5.cell? ⟨S + 1, 0, none⟩ = some (.int .i64 (row : Int)) := cell_of_row _ _ 0 _ _ (0, 0) (by simpa using sm2)
  have r1 : w5.cell? ⟨S + 1, 1, none⟩ = some (.int .i64 (k : Int)) := cell_of_row _ _ 1 _ _ (0, 0) (by simpa using sm2)
  refine bodyPost_ret (v := .agg #[.int .i64 (row : Int), .int .i64 (k : Int)]) (by simp [results, Tryz.results47, go_sem, r0, r1]) rfl ?_
  rw [KP.out]
  exact ⟨rfl, B5.out⟩
 ·obtain rfl : p = 0 := by omega
  have KP := Lib.hid (show pastCol wv 0 col = col from rfl)
  obtain ⟨w4, hw4⟩ : ∃ w4, (w2.alloc (.cells #[.int .i64 (row : Int), .int .i64 (col : Int)] 25)) = w4 := ⟨_, rfl⟩
  have F4 := Lib.hid (PF.out col w4 hw4)
  have HW4 := Lib.hid hw4
  clear hw4
  go_upto_region 8 with fail
  rw [HW4.out]
  clear c2 d0 d1 f1 e0 e1 g0 g1
  obtain ⟨x1, x8, B5⟩ := F4.out
  have d0 := cell_of_row _ _ 0 _ _ (0, 0) x8
  have d1 := cell_of_row _ _ 1 _ _ (0, 0) x8
  have e0 := cell_of_row _ _ 0 _ _ (0, 0) x1
  have e1 := cell_of_row _ _ 1 _ _ (0, 0) x1
  have g0 := frozen_of_row _ (S + 1) 0 _ _ x1
  have g1 := frozen_of_row _ (S + 1) 1 _ _ x1
  clear x1 x8 B5
  go_wp2_with fail
  have sm := heap_setCell_same w4 (S + 1) 0 _ _ (.int .i64 (row : Int)) F4.out.1
  have sm2 := heap_setCell_same _ (S + 1) 1 _ _ (.int .i64 (col : Int)) sm
  have B5 := Lib.hid ((F4.out.2.2.setCell (p := ⟨S + 1, 0, none⟩) (by show w.heap.size ≤ S + 1; omega) (.int .i64 (row : Int))).setCell (p := ⟨S + 1, 1, none⟩) (by show w.heap.size ≤ S + 1; omega) (.int .i64 (col : Int)))
  generalize (w4.setCell ⟨S + 1, 0, none⟩ (.int .i64 (row : Int))).setCell ⟨S + 1, 1, none⟩ (.int .i64 (col : Int)) = w5 at sm2 B5 ⊢
  have r0 : w5.cell? ⟨S + 1, 0, none⟩ = some (.int .i64 (row : Int)) := cell_of_row _ _ 0 _ _ (0, 0) (by simpa using sm2)
  have r1 : w5.cell? ⟨S + 1, 1, none⟩ = some (.int .i64 (col : Int)) := cell_of_row _ _ 1 _ _ (0, 0) (by simpa using sm2)
  refine bodyPost_ret (v := .agg #[.int .i64 (row : Int), .int .i64 (col : Int)]) (by simp [results, Tryz.results47, go_sem, r0, r1]) rfl ?_
  rw [KP.out]
  exact ⟨rfl, B5.out⟩
end Ln
end Go.Proofs.YtgmijnnhanpocaaGreatDoor
namespace Go.Proofs.YtgmijnnhanpocaaGreatDoor
open Go.ChangeShapes Go.WideShapes Go.ChangeAt Go.RowKit
namespace Ln
open Rw
def eqLs : List (List Cel) → List (List Cel) → Bool
 | [], [] => true
 | x :: xs, y :: ys => eqL x y && eqLs xs ys
 | _, _ => false
theorem eqL_refl (l : List Cel) : eqL l l = true := by simp [eqL]
theorem eqLs_refl : ∀ ls : List (List Cel), eqLs ls ls = true
 | [] => rfl
 | l :: ls => by rw [eqLs, eqL_refl, eqLs_refl ls]; rfl
theorem eqLs_len : ∀ {a b : List (List Cel)}, a.length ≠ b.length → eqLs a b = false
 | [], [], h => absurd rfl h
 | [], _ :: _, _ => rfl
 | _ :: _, [], _ => rfl
 | x :: a, y :: b, h => by rw [eqLs, eqLs_len (a := a) (b := b) (by simpa using h)]; simp
structure Lrd (W : World) (B : Nat) (A : Option Addr) (n : Nat) (vs : List Value) (ls : List (List Cel)) : Prop where
 sq : Sq W B 1 n A vs
 len : ls.length = n
 each : ∀ (i : Nat) (x : Value) (l : List Cel), vs[i]? = some x → ls[i]? = some l → ∃ A' n' c', x = .slice A' n' c' ∧ n' ≤ c' ∧ Sq W B 3 n' A' (flat l) ∧ n' ≤ 1000000
theorem Lrd.below {W W' : World} {B n : Nat} {A : Option Addr} {vs : List Value} {ls : List (List Cel)} (h : Lrd W B A n vs ls) (hb : Below B W W') : Lrd W' B A n vs ls :=
 ⟨h.sq.below hb, h.len, fun i x l hx hl => by obtain ⟨A', n', c', e, hc, hq, hn⟩ := h.each i x l hx hl; exact ⟨A', n', c', e, hc, hq.below hb, hn⟩⟩
theorem Lrd.up {W : World} {B B' n : Nat} {A : Option Addr} {vs : List Value} {ls : List (List Cel)} (h : Lrd W B A n vs ls) (hb : B ≤ B') : Lrd W B' A n vs ls :=
 ⟨h.sq.up hb, h.len, fun i x l hx hl => by obtain ⟨A', n', c', e, hc, hq, hn⟩ := h.each i x l hx hl; exact ⟨A', n', c', e, hc, hq.up hb, hn⟩⟩
theorem Lns.rd {W : World} {B : Nat} {A : Option Addr} {n c : Nat} {vs : List Value} {ls : List (List Cel)} (h : Lns W B (.slice A n c) vs ls) (hs : ∀ l ∈ ls, l.length ≤ 1000000) : n = ls.length ∧ Lrd W W.heap.size A n vs ls := by
 obtain ⟨A', c', e, _⟩ := own_cap h.own
 injection e with e1 e2 e3
 subst e1 e2 e3
 refine ⟨rfl, Sq.own h.own, rfl, fun i x l hx hl => ?_⟩
 have hh : W.ownsRow B 50 3 x l.length (flat l) := h.each i x l hx hl
 obtain ⟨A', c', rfl, hc⟩ := own_cap hh
 exact ⟨A', _, c', rfl, hc, Sq.own hh, hs l (List.mem_of_getElem? hl)⟩
theorem one_at {W : World} {B n k : Nat} {A : Option Addr} {vs : List Value} {x : Value} (h : Sq W B 1 n A vs) (hx : vs[k]? = some x) (hk : k < n) : ∃ b off, A = some ⟨b, off, none⟩ ∧ b < B ∧ W.cell? ⟨b, off + k, none⟩ = some x := by
 obtain ⟨b, off, e, hb, hc⟩ := h.spot (by omega)
 exact ⟨b, off, e, hb, hc k x hx⟩
theorem drop_two {α : Type} {l : List α} {k : Nat} {x : α} (h : l[k]? = some x) : l.drop k = x :: l.drop (k + 1) := by
 obtain ⟨h1, h2⟩ := List.getElem?_eq_some_iff.1 h
 rw [List.drop_eq_getElem_cons h1, h2]
set_option maxRecDepth 100000 in
set_option maxHeartbeats 3200000 in
theorem eq_walk (A A' : Option Addr) (n c n' c' : Nat) (vs vs' : List Value) (ls ls' : List (List Cel)) (w : World) (hn : n ≤ 1000000) (h : Lrd w w.heap.size A n vs ls) (h' : Lrd w w.heap.size A' n' vs' ls') :
  Calls Tryz.prog 13 #[.slice A n c, .slice A' n' c'] w fun e w' => e = .returned (.bool (eqLs ls ls')) ∧ Below w.heap.size w w' := by
 by_cases hnn : n = n'
 ·subst hnn
  have Q := Lib.hid h
  have Q' := Lib.hid h'
  have I0 := Lib.hid (Below.refl w.heap.size w)
  obtain ⟨B, hB⟩ : ∃ B, eqLs ls ls' = B := ⟨_, rfl⟩
  have E0 := Lib.hid (show eqLs (ls.drop 0) (ls'.drop 0) = B from hB)
  rw [hB]
  clear h h' hB
  go_enter Tryz.func13, Tryz.ntmps13
  go_wp2_with fail
  go_loopw [5] (fun i wr => ∃ k : Nat, i = .int .i64 (k : Int) ∧ k ≤ n ∧ Hid (Below w.heap.size w wr) ∧ Hid (eqLs (ls.drop k) (ls'.drop k) = B)) (fun i _ => n - (intOf i).toNat)
  case atStart => exact ⟨0, rfl, Nat.zero_le _, I0, E0⟩
  case round =>
   obtain ⟨k, rfl, hk, I, E⟩ := hrel
   clear I0 E0
   by_cases hlt : k < n
   ·obtain ⟨l, hl⟩ : ∃ l, ls[k]? = some l := ⟨_, List.getElem?_eq_getElem (by rw [Q.out.len]; exact hlt)⟩
    obtain ⟨l', hl'⟩ : ∃ l', ls'[k]? = some l' := ⟨_, List.getElem?_eq_getElem (by rw [Q'.out.len]; exact hlt)⟩
    obtain ⟨x, hx⟩ : ∃ x, vs[k]? = some x := ⟨_, List.getElem?_eq_getElem (by have := Q.out.sq.len; omega)⟩
    obtain ⟨x', hx'⟩ : ∃ x', vs'[k]? = some x' := ⟨_, List.getElem?_eq_getElem (by have := Q'.out.sq.len; omega)⟩
    have hb := I.out.drew
    have R := Q.out.below hb
    have R' := Q'.out.below hb
    obtain ⟨b, off, rfl, _, c0⟩ := one_at R.sq hx hlt
    obtain ⟨b', off', rfl, _, c0'⟩ := one_at R'.sq hx' hlt
    obtain ⟨A1, n1, d1, rfl, _, q1, m1⟩ := R.each k x l hx hl
    obtain ⟨A2, n2, d2, rfl, _, q2, m2⟩ := R'.each k x' l' hx' hl'
    have ER := Lib.hid (eqCells_walk A1 A2 n1 d1 n2 d2 l l' wr.drew m1 m2 (q1.up hb.size) (q2.up hb.size))
    obtain ⟨g, hg⟩ : ∃ g, eqL l l' = g := ⟨_, rfl⟩
    have EE := Lib.hid (show (g && eqLs (ls.drop (k + 1)) (ls'.drop (k + 1))) = B from by
     have := E.out
     rw [drop_two hl, drop_two hl', eqLs, hg] at this
     exact this)
    rw [hg] at ER
    have hk0 : (0 : Int) ≤ (k : Int) := by omega
    have hkn : (k : Int) < (n : Int) := by omega
    have hinc : IntKind.i64.wrap ((k : Int) + 1) = (k : Int) + 1 := IntWalk.i64_in _ (by omega)
    have HB := Lib.hid hb
    clear hb R R' hx hx' hl hl' q1 q2 m1 m2 hg I E Q Q'
    go_wp2_with fail
    refine wp_region_still_tail 8 (by kernel_rfl) (by kernel_rfl) ?_
    rw [show ({ wr with drawn := wr.drawn + 1 } : World) = wr.drew from rfl]
    generalize wr.drew = wd at c0 c0' ER HB ⊢
    simp only [List.take_succ_cons, List.take_zero, List.drop_succ_cons, List.drop_zero]
    repeat still_step
    refine wpStill_nil ?_
    go_wp2_with fail
    refine ER.out.mono ?_
    rintro e w2 ⟨rfl, b2⟩
    have I2 := Lib.hid (HB.out.trans (b2.mono HB.out.size))
    clear ER b2 HB c0 c0'
    cases g
    ·have RB := Lib.hid (show B = false from by have := EE.out; simpa using this.symm)
     go_wp2
     go_ret
     exact ⟨ret_bool RB.out.symm, I2.out⟩
    ·have E2 := Lib.hid (show eqLs (ls.drop (k + 1)) (ls'.drop (k + 1)) = B from by have := EE.out; simpa using this)
     go_wp2
     go_roundw
     case rel => exact ⟨k + 1, by first | rfl | (congr 1; done) | (congr 1; omega), by omega, I2, E2⟩
     case measure => first | (simp [intOf]; done) | (simp [intOf]; omega)
   ·obtain rfl : k = n := by omega
    have RB := Lib.hid (show B = true from by
     have h1 := E.out
     rw [List.drop_eq_nil_of_le (by rw [Q.out.len]; exact Nat.le_refl _), List.drop_eq_nil_of_le (by rw [Q'.out.len]; exact Nat.le_refl _)] at h1
     exact h1.symm)
    clear Q Q' E
    go_wp2
    go_ret
    exact ⟨ret_bool RB.out.symm, I.out⟩
 ·rw [eqLs_len (by rw [h.len, h'.len]; exact hnn)]
  have hne : ((n : Int) != (n' : Int)) = true := by simp; omega
  clear h h'
  go_enter Tryz.func13, Tryz.ntmps13
  go_wp2_with fail
  go_ret
  exact ⟨rfl, Below.refl _ _⟩
theorem cellsR_le (r : LR) : (cellsR r).length ≤ 300 := by
 unfold cellsR
 split
 ·rename_i h
  unfold mayL at h
  rw [Bool.and_eq_true, decide_eq_true_eq] at h
  exact Nat.le_trans (List.length_filter_le _ _) h.1
 ·simp
theorem cells_le : ∀ p : List LR, (p.flatMap cellsR).length ≤ 300 * p.length
 | [] => Nat.le_refl _
 | r :: p => by
  have := cells_le p
  have := cellsR_le r
  rw [List.flatMap_cons, List.length_append, List.length_cons]
  omega
theorem joinL_len {rs : List LR} {N : Nat} (hN : 300 * rs.length ≤ N) : ∀ l ∈ joinL rs, l.length ≤ N := by
 intro l hl
 obtain ⟨p, hp, rfl⟩ := List.mem_map.1 hl
 have h1 := part_le hp
 have h2 := cells_le p
 unfold joined trimL
 rw [List.length_take]
 omega
theorem rvals_one (rs : List RowIn) : ∀ u ∈ rs.flatMap RowIn.vals, u.oneCell' = true := by
 intro u hu
 obtain ⟨r, _, hu⟩ := List.mem_flatMap.1 hu
 simp [RowIn.vals] at hu
 rcases hu with rfl | rfl <;> rfl
theorem Lns.one {W : World} {B : Nat} {v : Value} {vs : List Value} {ls : List (List Cel)} (h : Lns W B v vs ls) : ∀ u ∈ vs, u.oneCell' = true := by
 intro u hu
 obtain ⟨i, hi, rfl⟩ := List.mem_iff_getElem.1 hu
 have hl : i < ls.length := by rw [← h.len]; exact hi
 have hh : W.ownsRow B 50 3 vs[i] ls[i].length (flat ls[i]) := h.each i _ _ (List.getElem?_eq_getElem hi) (List.getElem?_eq_getElem hl)
 obtain ⟨A, c, e, _⟩ := own_cap hh
 rw [e]
 rfl
end Ln
end Go.Proofs.YtgmijnnhanpocaaGreatDoor
namespace Go.Proofs.YtgmijnnhanpocaaGreatDoor
open Go.ChangeShapes Go.WideShapes Go.ChangeAt Go.RowKit
namespace Ln
open Rw
attribute [local go_sem] Oper.semAt_some
def highs (wv : Nat) (ls : List (List Cel)) : Nat := (ls.map fun l => (layL wv l).length).sum
theorem highs_take {wv : Nat} {ls : List (List Cel)} {k : Nat} {l : List Cel} (h : ls[k]? = some l) : highs wv (ls.take (k + 1)) = highs wv (ls.take k) + (layL wv l).length := by
 unfold highs
 rw [take_one h, List.map_append, List.sum_append]
 simp
theorem highs_le {wv : Nat} : ∀ (ls : List (List Cel)), (∀ l ∈ ls, l.length ≤ 10000) → highs wv ls ≤ 10001 * ls.length
 | [], _ => Nat.le_refl _
 | l :: ls, h => by
  have ih := highs_le (wv := wv) ls fun y hy => h y (by simp [hy])
  have h1 := layL_len wv l
  have h2 := h l (by simp)
  have e : highs wv (l :: ls) = (layL wv l).length + highs wv ls := by unfold highs; simp
  rw [e, List.length_cons]
  omega
structure LOk (ls : List (List Cel)) : Prop where
 ok : ∀ l ∈ ls, lineB l = true
 len : ∀ l ∈ ls, l.length ≤ 10000
 signs : ∀ l ∈ ls, ∀ c ∈ l, -2147483648 ≤ c.1 ∧ c.1 ≤ 2147483647
set_option maxRecDepth 100000 in
set_option maxHeartbeats 6400000 in
theorem place_gen (A : Option Addr) (n c wv i k0 p row col : Nat) (vs : List Value) (ls : List (List Cel)) (l : List Cel) (w : World) (hs : Spans w) (h : Lrd w w.heap.size A n vs ls) (hc : n ≤ c) (hn : n ≤ 1000) (hok : LOk ls) (hw2 : 2 ≤ wv) (hw3 : wv ≤ 300) (hi : i < n) (hl : ls[i]? = some l) (hk0 : k0 ≤ l.length) (hrow : row ≤ 10000)
  (hpe : ∀ (A1 : Option Addr) (m d1 : Nat) (W : World), Sq W W.heap.size 3 m A1 (flat l) → l.length = m → m ≤ d1 → Calls Tryz.prog 47 #[.slice A1 m d1, .int .i64 (wv : Int), .agg #[.int .i64 (i : Int), .int .i64 (k0 : Int), .int .i64 (p : Int)]] W fun e w' => e = .returned (.agg #[.int .i64 (row : Int), .int .i64 (col : Int)]) ∧ Below W.heap.size W w') :
  Calls Tryz.prog 19 #[.slice A n c, .int .i64 (wv : Int), .agg #[.int .i64 (i : Int), .int .i64 (k0 : Int), .int .i64 (p : Int)]] w fun e w' => e = .returned (.agg #[.int .i64 ((row + highs wv (ls.take i) : Nat) : Int), .int .i64 (col : Int)]) ∧ Below w.heap.size w w' := by
 obtain ⟨S, hS⟩ : ∃ S, w.heap.size = S := ⟨_, rfl⟩
 obtain ⟨m, hm⟩ : ∃ m, l.length = m := ⟨_, rfl⟩
 rw [hm] at hk0
 obtain ⟨w1, hw1⟩ : ∃ w1, (w.alloc (.cells #[.int .i64 (i : Int), .int .i64 (k0 : Int), .int .i64 (p : Int)] 27)).alloc (.cells #[.int .i64 0, .int .i64 0] 25) = w1 := ⟨_, rfl⟩
 have z1 : w1.heap.size = S + 2 := by rw [← hw1, ← hS]; simp
 have b1 : Below w.heap.size w w1 := by rw [← hw1]; exact ((Below.refl _ _).alloc (Nat.le_refl _) _).alloc (by simp) _
 have x0 : w1.heap[S]? = some (.cells #[.int .i64 (i : Int), .int .i64 (k0 : Int), .int .i64 (p : Int)] 27 (0, 0)) := by rw [← hw1, ← hS]; exact (Below.heap_alloc _ _ _ (by simp)).trans (heap_alloc_new w _)
 have x1 : w1.heap[S + 1]? = some (.cells #[.int .i64 0, .int .i64 0] 25 (0, 0)) := by
  rw [← hw1, ← hS]
  have := heap_alloc_new (w.alloc (.cells #[.int .i64 (i : Int), .int .i64 (k0 : Int), .int .i64 (p : Int)] 27)) (.cells #[.int .i64 0, .int .i64 0] 25)
  rwa [World.size_alloc] at this
 have R1 := h.below b1
 obtain ⟨x, hx⟩ : ∃ x, vs[i]? = some x := ⟨_, List.getElem?_eq_getElem (by have := h.sq.len; omega)⟩
 obtain ⟨b, off, rfl, hb, c0⟩ := one_at R1.sq hx hi
 obtain ⟨A1, n1, d1, rfl, hd1, q1, m1⟩ := R1.each i x l hx hl
 have hmn : m = n1 := by have := q1.len; rw [flat_length] at this; omega
 subst hmn
 have hlm := List.mem_of_getElem? hl
 have hm100 : m ≤ 10000 := by have := hok.len l hlm; omega
 have MW := Lib.hid (mayWide_walk (wv : Int))
 have CL := Lib.hid (line_any A1 m d1 l w1 (hs.below b1 hs.size) (hok.signs l hlm) (q1.up b1.size) (by omega))
 rw [hok.ok l hlm] at CL
 have PE := Lib.hid (fun (W : World) (hb' : Below w.heap.size w1 W) => hpe A1 m d1 W ((q1.below hb').up (Nat.le_trans b1.size hb'.size)) hm hd1)
 have HH := Lib.hid (fun (k : Nat) (A2 : Option Addr) (n2 d2 : Nat) (l2 : List Cel) (W : World) (hb' : Below w.heap.size w W) (hk : vs[k]? = some (.slice A2 n2 d2)) (hk2 : ls[k]? = some l2) => show Calls Tryz.prog 48 #[.slice A2 n2 d2, .int .i64 (wv : Int)] W fun e w' => e = .returned (.int .i64 ((layL wv l2).length : Int)) ∧ Below W.heap.size W w' from by
  have RW := h.below hb'
  obtain ⟨A3, n3, d3, e3, _, q3, m3⟩ := RW.each k _ l2 hk hk2
  injection e3 with e4 e5 e6
  subst e4 e5 e6
  have hm2 := List.mem_of_getElem? hk2
  have hl2 := hok.len l2 hm2
  have := q3.len
  rw [flat_length] at this
  exact high_walk A2 n2 d2 l2 wv W (hs.below hb' hs.size) (hok.signs l2 hm2) (hok.ok l2 hm2) hw2 hw3 (q3.up hb'.size) (by omega))
 have LD := Lib.hid h
 have HX := Lib.hid (show ls.length = n ∧ LOk ls from ⟨h.len, hok⟩)
 have PB := Lib.hid hrow
 obtain ⟨G0, hG0⟩ : ∃ G0, row + highs wv (ls.take i) = G0 := ⟨_, rfl⟩
 rw [hG0]
 have GG := Lib.hid hG0
 clear hG0
 have HW := Lib.hid hw1
 have X := Lib.hid (And.intro x0 x1)
 have Z := Lib.hid (And.intro hS z1)
 have B1 := Lib.hid b1
 have y0 : w1.cell? ⟨S, 0, none⟩ = some (.int .i64 (i : Int)) := cell_of_row _ _ 0 _ _ (0, 0) x0
 have y1 : w1.cell? ⟨S, 1, none⟩ = some (.int .i64 (k0 : Int)) := cell_of_row _ _ 1 _ _ (0, 0) x0
 have y2 : w1.cell? ⟨S, 2, none⟩ = some (.int .i64 (p : Int)) := cell_of_row _ _ 2 _ _ (0, 0) x0
 have hii : (i : Int) < (n : Int) := by omega
 have hi0 : (0 : Int) ≤ (i : Int) := by omega
 have hp0 : (0 : Int) ≤ (p : Int) := by omega
 have hm0 : (0 : Int) ≤ (k0 : Int) := by omega
 have hmk : ¬ (m : Int) < (k0 : Int) := by omega
 have hwd : (decide ((2 : Int) ≤ (wv : Int)) && decide ((wv : Int) ≤ 300)) = true := by simp; omega
 rw [hwd] at MW
 have HC := Lib.hid hc
 clear hs hok hl x1 b1 hw1 hx hm hlm R1 q1 m1 hwd h hpe hrow
 go_enter Tryz.func19, Tryz.ntmps19
 go_wp2_with fail
 rw [HW.out]
 refine (MW.out w1).mono ?_
 rintro e w1' ⟨rfl, e1⟩
 rw [e1]
 clear MW e1
 go_upto_region 6 with fail
 refine CL.out.mono ?_
 rintro e w2 ⟨rfl, b2⟩
 have B12 := Lib.hid (show Below w.heap.size w1 w2 from b2.mono B1.out.size)
 have B2 := Lib.hid (B1.out.trans B12.out)
 have z2 : S + 2 ≤ w2.heap.size := by have := b2.size; have := Z.out; omega
 have z1 := Z.out
 have x0 : w2.heap[S]? = some (.cells #[.int .i64 (i : Int), .int .i64 (k0 : Int), .int .i64 (p : Int)] 27 (0, 0)) := (b2.block S (by omega)).trans X.out.1
 have x1 : w2.heap[S + 1]? = some (.cells #[.int .i64 0, .int .i64 0] 25 (0, 0)) := (b2.block (S + 1) (by omega)).trans X.out.2
 have P2 := Lib.hid (PE.out w2 B12.out)
 have u0 : w2.cell? ⟨S, 0, none⟩ = some (.int .i64 (i : Int)) := cell_of_row _ _ 0 _ _ (0, 0) x0
 have u1 : w2.cell? ⟨S, 1, none⟩ = some (.int .i64 (k0 : Int)) := cell_of_row _ _ 1 _ _ (0, 0) x0
 have u2 : w2.cell? ⟨S, 2, none⟩ = some (.int .i64 (p : Int)) := cell_of_row _ _ 2 _ _ (0, 0) x0
 have X2 := Lib.hid (And.intro x0 x1)
 clear y0 y1 y2 c0 X CL PE b2 x0 x1 B12 B1 HW
 go_wp2_with fail
 refine P2.out.mono ?_
 rintro e w3 ⟨rfl, b3⟩
 obtain ⟨E, hE⟩ : ∃ E, w3.heap.size = E := ⟨_, rfl⟩
 have z3 : S + 2 ≤ E := by have := b3.size; omega
 have B3 := Lib.hid (B2.out.trans (b3.mono B2.out.size))
 obtain ⟨w4, hw4⟩ : ∃ w4, w3.alloc (.cells #[.int .i64 (row : Int), .int .i64 (col : Int)] 25) = w4 := ⟨_, rfl⟩
 have b34 : Laid w3 w4 := by rw [← hw4]; exact (Below.refl _ _).alloc (Nat.le_refl _) _
 have x0 : w4.heap[S]? = some (.cells #[.int .i64 (i : Int), .int .i64 (k0 : Int), .int .i64 (p : Int)] 27 (0, 0)) := (b34.block S (by omega)).trans ((b3.block S (by omega)).trans X2.out.1)
 have x1 : w4.heap[S + 1]? = some (.cells #[.int .i64 0, .int .i64 0] 25 (0, 0)) := (b34.block (S + 1) (by omega)).trans ((b3.block (S + 1) (by omega)).trans X2.out.2)
 have x8 : w4.heap[E]? = some (.cells #[.int .i64 (row : Int), .int .i64 (col : Int)] 25 (0, 0)) := by rw [← hw4, ← hE]; exact heap_alloc_new w3 _
 have z4 : E < w4.heap.size := (Array.getElem?_eq_some_iff.1 x8).1
 have B4 := Lib.hid (B3.out.trans (b34.mono B3.out.size))
 have I0 := Lib.hid (show Below w.heap.size w w4 ∧ w4.heap[E]? = some (.cells #[.int .i64 ((row + highs wv (ls.take 0) : Nat) : Int), .int .i64 (col : Int)] 25 (0, 0)) ∧ w4.heap[S + 1]? = some (.cells #[.int .i64 0, .int .i64 0] 25 (0, 0)) from ⟨B4.out, x8, x1⟩)
 have u0 : w4.cell? ⟨S, 0, none⟩ = some (.int .i64 (i : Int)) := cell_of_row _ _ 0 _ _ (0, 0) x0
 have HW4 := Lib.hid hw4
 rw [← hw4] at u0
 clear u1 u2 x0 x1 x8 hw4 b34 b3 P2 X2
 go_upto_region 8 with fail
 rw [HW4.out]
 clear u0 HW4
 go_loopw [62] (fun j wr => ∃ k : Nat, j = .int .i64 (k : Int) ∧ k ≤ i ∧ Hid (Below w.heap.size w wr ∧ wr.heap[E]? = some (.cells #[.int .i64 ((row + highs wv (ls.take k) : Nat) : Int), .int .i64 (col : Int)] 25 (0, 0)) ∧ wr.heap[S + 1]? = some (.cells #[.int .i64 0, .int .i64 0] 25 (0, 0)))) (fun j _ => i - (intOf j).toNat)
 case atStart => exact ⟨0, rfl, Nat.zero_le _, I0⟩
 case round =>
  obtain ⟨k, rfl, hk, I⟩ := hrel
  clear I0
  by_cases hlt : k < i
  ·obtain ⟨l2, hl2⟩ : ∃ l2, ls[k]? = some l2 := ⟨_, List.getElem?_eq_getElem (by rw [HX.out.1]; omega)⟩
   obtain ⟨x, hx⟩ : ∃ x, vs[k]? = some x := ⟨_, List.getElem?_eq_getElem (by have := LD.out.sq.len; omega)⟩
   have R := LD.out.below I.out.1
   obtain ⟨b', off', he, hb', c0⟩ := one_at R.sq hx (show k < n by omega)
   injection he with he
   injection he with he1 he2 _
   subst he1 he2
   obtain ⟨A2, n2, d2, rfl, _, _, _⟩ := R.each k x l2 hx hl2
   have HK := Lib.hid (fun (W : World) (hb : Below w.heap.size w W) => HH.out k A2 n2 d2 l2 W hb hx hl2)
   have NX := Lib.hid (highs_take (wv := wv) hl2)
   have HLE := Lib.hid (show highs wv (ls.take k) ≤ 10001000 ∧ (layL wv l2).length ≤ 10001 from by
    have h1 := highs_le (wv := wv) (ls.take k) fun y hy => HX.out.2.len y (List.mem_of_mem_take hy)
    rw [List.length_take] at h1
    have h2 := layL_len wv l2
    have h3 := HX.out.2.len l2 (List.mem_of_getElem? hl2)
    omega)
   have d0 : wr.cell? ⟨E, 0, none⟩ = some (.int .i64 ((row + highs wv (ls.take k) : Nat) : Int)) := cell_of_row _ _ 0 _ _ (0, 0) I.out.2.1
   have f0 := frozen_of_row wr E 0 _ _ I.out.2.1
   obtain ⟨H, hH⟩ : ∃ H, row + highs wv (ls.take k) = H := ⟨_, rfl⟩
   obtain ⟨N1, hN1⟩ : ∃ N1, (layL wv l2).length = N1 := ⟨_, rfl⟩
   rw [hH] at d0
   rw [hN1] at HK NX HLE
   have NX2 := Lib.hid (show row + highs wv (ls.take (k + 1)) = H + N1 from by rw [NX.out]; omega)
   have hsum : IntKind.i64.wrap ((H : Int) + (N1 : Int)) = ((H + N1 : Nat) : Int) := by
    rw [show (H : Int) + (N1 : Int) = ((H + N1 : Nat) : Int) by omega]
    exact IntWalk.i64_in _ (by have := HLE.out; have := PB.out; omega)
   obtain ⟨G, hG⟩ : ∃ G, H + N1 = G := ⟨_, rfl⟩
   rw [hG] at hsum NX2
   have HH1 := Lib.hid hH
   have hki : (k : Int) < (i : Int) := by omega
   have hk0 : (0 : Int) ≤ (k : Int) := by omega
   have hkb : k ≤ 1000 := by omega
   have hinc : IntKind.i64.wrap ((k : Int) + 1) = (k : Int) + 1 := IntWalk.i64_in _ (by omega)
   clear hl2 hx R hH hN1 hG NX
   have HKd := Lib.hid (HK.out wr.drew I.out.1.drew)
   have D8 := Lib.hid (fun (w8 : World) (b8 : Below wr.drew.heap.size wr.drew w8) => show w8.cell? ⟨E, 0, none⟩ = some (.int .i64 (H : Int)) ∧ w8.frozen? ⟨E, 0, none⟩ = false ∧ Below wr.heap.size wr w8 ∧ w8.heap[E]? = wr.heap[E]? ∧ w8.heap[S + 1]? = wr.heap[S + 1]? from by
    have hb8 : Below wr.heap.size wr w8 := (Below.refl wr.heap.size wr).drew.trans b8
    have hE := (hb8.block E (Array.getElem?_eq_some_iff.1 I.out.2.1).1)
    have hS := (hb8.block (S + 1) (Array.getElem?_eq_some_iff.1 I.out.2.2).1)
    have h1 := hE.trans I.out.2.1
    rw [HH1.out] at h1
    exact ⟨cell_of_row _ _ 0 _ _ (0, 0) h1, frozen_of_row _ E 0 _ _ h1, hb8, hE, hS⟩)
   go_upto_region 10 with fail
   go_region_with (go_at_call 48; refine HKd.out.mono ?_; rintro e w8 ⟨rfl, b8⟩; obtain ⟨d8, f8, b9, hE8, hS8⟩ := D8.out w8 b8; (have H8 := Lib.hid (And.intro b9 (And.intro hE8 hS8))); clear b8 b9 hE8 hS8)
   all_goals
    go_wp2_with fail
    go_roundw
    case rel =>
     refine ⟨k + 1, by go_num, by omega, Lib.hid ⟨?_, ?_, ?_⟩⟩
     ·exact (I.out.1.trans (H8.out.1.mono I.out.1.size)).setCell (p := ⟨E, 0, none⟩) (by show w.heap.size ≤ E; omega) _
     ·rw [NX2.out]
      have h1 := H8.out.2.1.trans I.out.2.1
      have h2 := heap_setCell_same w8 E 0 _ _ (.int .i64 (G : Int)) h1
      rw [h2]
      simp
     ·exact (Below.heap_setCell _ _ _ _ (by show S + 1 ≠ E; omega)).trans (H8.out.2.2.trans I.out.2.2)
    case measure => first | (simp [intOf]; done) | (simp [intOf]; omega)
  ·obtain rfl : k = i := by omega
   obtain ⟨hB, hE, hS1⟩ := I.out
   obtain ⟨H, hH⟩ : ∃ H, row + highs wv (ls.take k) = H := ⟨_, rfl⟩
   rw [hH] at hE
   obtain rfl : H = G0 := hH.symm.trans GG.out
   have d0 := cell_of_row _ _ 0 _ _ (0, 0) hE
   have d1 := cell_of_row _ _ 1 _ _ (0, 0) hE
   have e0 := cell_of_row _ _ 0 _ _ (0, 0) hS1
   have e1 := cell_of_row _ _ 1 _ _ (0, 0) hS1
   have g0 := frozen_of_row _ (S + 1) 0 _ _ hS1
   have g1 := frozen_of_row _ (S + 1) 1 _ _ hS1
   have SB := Lib.hid (And.intro hB hS1)
   have hnl : ¬ (k : Int) < (k : Int) := by omega
   clear hB hE hS1 hH I
   go_wp2_with fail
   have sm := heap_setCell_same wr (S + 1) 0 _ _ (.int .i64 (H : Int)) SB.out.2
   have sm2 := heap_setCell_same _ (S + 1) 1 _ _ (.int .i64 (col : Int)) sm
   have B5 := Lib.hid ((SB.out.1.setCell (p := ⟨S + 1, 0, none⟩) (by show w.heap.size ≤ S + 1; omega) (.int .i64 (H : Int))).setCell (p := ⟨S + 1, 1, none⟩) (by show w.heap.size ≤ S + 1; omega) (.int .i64 (col : Int)))
   generalize (wr.setCell ⟨S + 1, 0, none⟩ (.int .i64 (H : Int))).setCell ⟨S + 1, 1, none⟩ (.int .i64 (col : Int)) = w5 at sm2 B5 ⊢
   have r0 : w5.cell? ⟨S + 1, 0, none⟩ = some (.int .i64 (H : Int)) := cell_of_row _ _ 0 _ _ (0, 0) (by simpa using sm2)
   have r1 : w5.cell? ⟨S + 1, 1, none⟩ = some (.int .i64 (col : Int)) := cell_of_row _ _ 1 _ _ (0, 0) (by simpa using sm2)
   refine bodyPost_ret (v := .agg #[.int .i64 (H : Int), .int .i64 (col : Int)]) (by simp [results, Tryz.results19, go_sem, r0, r1]) rfl ?_
   exact ⟨rfl, by have h := B5.out; rw [hS] at h; exact h⟩
theorem place_walk (A : Option Addr) (n c wv i p : Nat) (vs : List Value) (ls : List (List Cel)) (l : List Cel) (w : World) (hs : Spans w) (h : Lrd w w.heap.size A n vs ls) (hc : n ≤ c) (hn : n ≤ 1000) (hok : LOk ls) (hw2 : 2 ≤ wv) (hw3 : wv ≤ 300) (hi : i < n) (hl : ls[i]? = some l) (hp : p ≤ 4611686018427387904) :
  Calls Tryz.prog 19 #[.slice A n c, .int .i64 (wv : Int), .agg #[.int .i64 (i : Int), .int .i64 (l.length : Int), .int .i64 (p : Int)]] w fun e w' => e = .returned (.agg #[.int .i64 (((posOut wv l).1.1 + highs wv (ls.take i) : Nat) : Int), .int .i64 (pastCol wv p (posOut wv l).1.2 : Int)]) ∧ Below w.heap.size w w' := by
 have hlm := List.mem_of_getElem? hl
 refine place_gen A n c wv i l.length p _ _ vs ls l w hs h hc hn hok hw2 hw3 hi hl (Nat.le_refl _) ?_ ?_
 ·have h1 := (pos_bounds hw2 l (fun x hx => okC_w (List.all_eq_true.1 (hok.ok l hlm) x hx))).2.1
  have := hok.len l hlm
  omega
 ·intro A1 m d1 W hq hm _
  rw [hm]
  have := hok.len l hlm
  exact placeEnd_walk A1 m d1 l wv i p W hp (hok.ok l hlm) hw2 hw3 hq (by omega)
end Ln
end Go.Proofs.YtgmijnnhanpocaaGreatDoor
