/-
  The statement ReflowAll: any rows at any width with any marks: rows and marks as the reference's; the lines are the same then, and at a width that may not be there is nothing. For every list of rows (of which the statement reads the first fourteen, and 310 cells of each), every number as width and every list of marks (of which it takes the first six); it holds where the table of widths is as its initialiser lays it, which the card ties to the program's text.
-/
import Derived.Test.YtgmijnnhanpocaaGreatDoorQLEvZ0
import Derived.Test.YtgmijnnhanpocaaGreatDoorQLBase0
import Derived.Test.YtgmijnnhanpocaaGreatDoorQLBase1
import Derived.Test.YtgmijnnhanpocaaGreatDoorQLLine2
import Derived.Test.YtgmijnnhanpocaaGreatDoorQLLine5
import Derived.Test.YtgmijnnhanpocaaGreatDoorQLBase5
import Derived.Test.YtgmijnnhanpocaaGreatDoorQLLine7
import Derived.Test.YtgmijnnhanpocaaGreatDoorQLBase8
import Derived.BigQuiet
namespace Go.Proofs.YtgmijnnhanpocaaGreatDoor.reflowAll
open Go.ChangeShapes Go.WideShapes Go.ChangeAt Go.RowKit
open Rw Ln
theorem neq_pos (x y : Int) (w : World) : (binOp .neq 25 (.agg #[.int .i64 x, .int .i64 y]) (.agg #[.int .i64 x, .int .i64 y])).run Tryz.prog w = .ok (.bool false) w := by
 have h1 : (x == x) = true := by simp
 have h2 : (y == y) = true := by simp
 go_simp
theorem npos_at {W : World} {B n k : Nat} {A : Option Addr} {l : List (Nat × Nat)} {x : Nat × Nat} (hq : Sq W B 2 n A (l.flatMap nposV)) (hx : l[k]? = some x) (hk : k < n) :
  ∃ b off, A = some ⟨b, off, none⟩ ∧ b < B ∧ W.cell? ⟨b, off + k * 2, none⟩ = some (.int .i64 (x.1 : Int)) ∧ W.cell? ⟨b, off + k * 2 + 1, none⟩ = some (.int .i64 (x.2 : Int)) := by
 obtain ⟨b, off, e, hb, hc⟩ := hq.spot (by omega)
 have h0 := hc (k * 2 + 0) _ (flatMap_get nposV 2 (fun _ => rfl) l k x hx 0 _ rfl)
 have h1 := hc (k * 2 + 1) _ (flatMap_get nposV 2 (fun _ => rfl) l k x hx 1 _ rfl)
 exact ⟨b, off, e, hb, by simpa using h0, by rw [Nat.add_assoc]; exact h1⟩
theorem flatMap_take {α : Type} (f : α → List Value) (s : Nat) (hs : ∀ x, (f x).length = s) : ∀ (l : List α) (m : Nat), (l.take m).flatMap f = (l.flatMap f).take (m * s)
 | [], m => by simp
 | x :: l, 0 => by simp
 | x :: l, m + 1 => by
  rw [List.take_succ_cons, List.flatMap_cons, List.flatMap_cons, flatMap_take f s hs l m, Nat.succ_mul, Nat.add_comm, ← hs x, List.take_length_add_append]
theorem sq_takeP {w : World} {B n m : Nat} {A : Option Addr} {l : List (Int × Int)} (hq : Sq w B 2 n A (l.flatMap posV)) (hm : m ≤ n) : Sq w B 2 m A ((l.take m).flatMap posV) := by
 have hl := hq.len
 rw [flatMap_len posV 2 (fun _ => rfl)] at hl
 refine ⟨by rw [flatMap_len posV 2 (fun _ => rfl), List.length_take]; omega, fun h => ?_⟩
 obtain ⟨b, off, e, hb, hcell⟩ := hq.spot (by omega)
 refine ⟨b, off, e, hb, fun j u hu => hcell j u ?_⟩
 rw [flatMap_take posV 2 (fun _ => rfl), List.getElem?_take] at hu
 split at hu
 ·exact hu
 ·cases hu
theorem own_wide {W : World} {B : Nat} {v : Value} {rs : List RowIn} {w : Nat} (h : Ln.Own W B v rs) (hw : ∀ r ∈ rs.map lr, r.2.length = w) (hw2 : w ≤ 300) : ∀ x ∈ rs, x.n ≤ 1000000 := fun x hx => by
 have h1 := hw (lr x) (List.mem_map.2 ⟨x, hx, rfl⟩)
 obtain ⟨h2, _⟩ := h.each x hx
 have hh : W.ownsRow B 50 3 (.slice x.A x.n x.c) x.l.length (flat x.l) := h2
 obtain ⟨A', c', e, _⟩ := own_cap hh
 injection e with e1 e2 e3
 have : x.l.length = w := h1
 omega
theorem eqLs_nil (j : List (List Cel)) : eqLs j [] = decide (j = []) := by
 cases j with
 | nil => rfl
 | cons x j => rfl
theorem joinL_nil_iff (L : List LR) : joinL L = [] ↔ L = [] := by
 unfold joinL
 rw [List.map_eq_nil_iff]
 exact parts_nil_iff L
set_option maxRecDepth 100000 in
set_option maxHeartbeats 12800000 in
theorem walk (A : Option Addr) (n c : Nat) (l : List RowIn) (_hc : n ≤ c) (hm : c ≤ maxLen) (x : Int) (_ : -9223372036854775808 ≤ x ∧ x ≤ 9223372036854775807) (A' : Option Addr) (n' c' : Nat) (ps : List (Int × Int)) (_hc' : n' ≤ c') (hm' : c' ≤ maxLen) (w : World) (hs : Spans w) (hr : ∀ r ∈ l, r.Ok w w.heap.size) (hq : Sq w w.heap.size 2 n A (l.flatMap RowIn.vals)) (hp : ∀ p ∈ ps, PosIn p) (hpq : Sq w w.heap.size 2 n' A' (ps.flatMap posVals)) :
  Calls Tryz.prog 4 #[.slice A n c, .int .i64 x, .slice A' n' c'] w fun e w' => e = .returned (.bool true) ∧ Below w.heap.size w w' := by
 obtain ⟨m, hmm⟩ : ∃ m : Nat, min (n' : Int) 6 = (m : Int) := ⟨min n' 6, by omega⟩
 have hm1 : m ≤ n' := by omega
 have hm6 : m ≤ 6 := by omega
 have hmc : m ≤ c' := by omega
 have S := Lib.hid hs
 have R := Lib.hid (show Rws w w.heap.size A n l from ⟨hr, hq⟩)
 have N1 := Lib.hid (Nat.le_trans _hc hm)
 have N2 := Lib.hid (show c' ≤ maxLen from hm')
 have P := Lib.hid (sq_takeP (show Sq w w.heap.size 2 n' A' (ps.flatMap posV) from hpq) hm1)
 have PL := Lib.hid (show (ps.take m).length = m from by have h := hpq.len; rw [flatMap_len posVals 2 (fun _ => rfl)] at h; rw [List.length_take]; omega)
 have PI := Lib.hid (show ∀ p ∈ ps.take m, p.1 ≤ 9223372036854775807 from fun p h => (hp p (List.mem_of_mem_take h)).1.2)
 obtain ⟨ms, hms⟩ : ∃ ms, ps.take m = ms := ⟨_, rfl⟩
 rw [hms] at P PL PI
 clear hs hr hq hp hpq _hc hm hm' hms _hc'
 go_enter Tryz.func4, Tryz.ntmps4
 go_wp2_with fail
 refine (Ev.Trues.at Ev.begun10 w S.out).mono ?_
 rintro e w1 ⟨rfl, b1⟩
 have B1 := Lib.hid b1
 have RW := Lib.hid (rows10_walk A n c l w1 ((R.out.below b1).up b1.size) N1.out)
 clear b1
 go_wp2_with fail
 refine RW.out.mono ?_
 rintro e w2 ⟨v2, ra, rfl, o2, m2, b2⟩
 obtain ⟨A2, c2, rfl, hc2⟩ := o2.shape
 obtain ⟨n2, hn2⟩ : ∃ n2, ra.length = n2 := ⟨_, rfl⟩
 have B2 := Lib.hid (B1.out.trans (b2.mono B1.out.size))
 have L2 := Lib.hid (show n2 ≤ 14 from by
  have := congrArg List.length m2
  unfold drawnRs at this
  rw [List.length_map, List.length_map, List.length_take, hn2] at this
  omega)
 rw [hn2] at o2 hc2 ⊢
 have C2 := Lib.hid hc2
 have RA := Lib.hid (show Rws w2 w2.heap.size A2 n2 ra from (o2.rws).2)
 have S2 := Lib.hid (S.out.below B2.out S.out.size)
 have OK := Lib.hid (rows_ok RA.out (by have := L2.out; omega))
 have P2 := Lib.hid (show Sq w2 w2.heap.size 2 m A' (ms.flatMap posV) from (P.out.below B2.out).up B2.out.size)
 have NR := Lib.hid (show joinL (ra.map lr) = [] ↔ n2 = 0 from by rw [joinL_nil_iff, List.map_eq_nil_iff, ← List.length_eq_zero_iff, hn2])
 clear o2 m2 b2 hn2 hc2 RW R N1 P
 by_cases hx : 2 ≤ x ∧ x ≤ 300
 ·obtain ⟨wv, rfl⟩ : ∃ wv : Nat, x = (wv : Int) := ⟨x.toNat, by omega⟩
  have hw2 : 2 ≤ wv := by omega
  have hw3 : wv ≤ 300 := by omega
  have HW := Lib.hid (And.intro hw2 hw3)
  have F1 := Lib.hid (reflow_walk A2 n2 c2 ra wv A' m c' ms w2 S2.out RA.out C2.out (by have := L2.out; omega) (rows_many RA.out (by have := L2.out; omega)) hw2 hw3 P2.out PL.out (by omega) PI.out OK.out)
  have F2 := Lib.hid (fun (W : World) (hb : Laid w2 W) => refRows_walk A2 n2 c2 ra wv A' m c' ms W ((RA.out.below hb).up hb.size) (by have := L2.out; omega) (rows_many RA.out (by have := L2.out; omega)) hw2 hw3 ((P2.out.below hb).up hb.size) PL.out (by omega) OK.out)
  have hd1 : decide ((2 : Int) ≤ (wv : Int)) = true := by simp; omega
  have hd2 : decide ((wv : Int) ≤ 300) = true := by simp; omega
  clear hx hw2 hw3
  go_wp2_with fail
  refine F1.out.mono ?_
  rintro e w3 ⟨v3, mv3, rs3, rfl, o3, m3, q3, b3⟩
  obtain ⟨A3, c3, rfl, hc3⟩ := o3.shape
  obtain ⟨n3, hn3⟩ : ∃ n3, rs3.length = n3 := ⟨_, rfl⟩
  have W3 := Lib.hid (own_wide o3 (by rw [m3]; exact all_wide HW.out.1 HW.out.2 OK.out.ok) HW.out.2)
  have R3 := Lib.hid (show Rws w3 w3.heap.size A3 n3 rs3 from by have h := o3.rws.2; rw [hn3] at h; exact h)
  rw [hn3] at hc3 ⊢
  obtain ⟨A3m, c3m, rfl, _⟩ := own_cap q3
  have Q3 := Lib.hid (show Sq w3 w3.heap.size 2 m A3m ((ms.map (movedN wv (ra.map lr))).flatMap nposV) from Sq.own q3)
  have M3 := Lib.hid m3
  have B3 := Lib.hid (show Laid w2 w3 from b3)
  have C3 := Lib.hid hc3
  have N3 := Lib.hid (show n3 ≤ 1000000 from by
   have h1 := congrArg List.length m3
   rw [List.length_map, allL_len, hn3] at h1
   have h2 := highs_le (wv := wv) (joinL (ra.map lr)) OK.out.len
   have h3 := joinL_many (rs := ra.map lr)
   rw [List.length_map, RA.out.len] at h3
   have := L2.out
   omega)
  have HN3 := Lib.hid hn3
  have F3 := Lib.hid (F2.out w3 b3)
  clear o3 m3 q3 b3 hn3 F1 F2 hc3
  go_wp2_with fail
  refine F3.out.mono ?_
  rintro e w4 ⟨v4, mv4, rs4, rfl, o4, m4, q4, b4⟩
  obtain ⟨A4, c4, rfl, hc4⟩ := o4.shape
  have hl4 : rs4.length = n3 := by
   have h1 := congrArg List.length (m4.trans M3.out.symm)
   rw [List.length_map, List.length_map, HN3.out] at h1
   exact h1
  have W4 := Lib.hid (own_wide o4 (by rw [m4]; exact all_wide HW.out.1 HW.out.2 OK.out.ok) HW.out.2)
  have R4 := Lib.hid (show Rws w4 w4.heap.size A4 n3 rs4 from by have h := o4.rws.2; rw [hl4] at h; exact h)
  rw [hl4] at hc4 ⊢
  obtain ⟨A4m, c4m, rfl, _⟩ := own_cap q4
  have Q4 := Lib.hid (show Sq w4 w4.heap.size 2 m A4m ((ms.map (movedN wv (ra.map lr))).flatMap nposV) from Sq.own q4)
  have B4 := Lib.hid (show Laid w2 w4 from B3.out.trans (b4.mono B3.out.size))
  have R34 := Lib.hid ((R3.out.below b4).up b4.size)
  have Q34 := Lib.hid ((Q3.out.below b4).up b4.size)
  have EQ := Lib.hid (eqRowsL_walk A3 A4 n3 c3 c4 rs3 rs4 w4 N3.out R34.out R4.out W3.out W4.out (M3.out.trans m4.symm))
  clear o4 m4 q4 b4 hl4 F3 hc4 R3 Q3
  go_wp2_with fail
  refine EQ.out.mono ?_
  rintro e w5 ⟨rfl, b5⟩
  have B5 := Lib.hid (show Laid w2 w5 from B4.out.trans (b5.mono B4.out.size))
  have Q35 := Lib.hid ((Q34.out.below b5).up b5.size)
  have Q45 := Lib.hid ((Q4.out.below b5).up b5.size)
  have R35 := Lib.hid ((R34.out.below b5).up b5.size)
  have I0 := Lib.hid (Below.refl w5.heap.size w5)
  clear b5 EQ Q34 Q4
  go_wp2_with fail
  go_loopw [12] (fun i wr => ∃ k : Nat, i = .int .i64 (k : Int) ∧ k ≤ m ∧ Hid (Laid w5 wr)) (fun i _ => m - (intOf i).toNat)
  case atStart => exact ⟨0, rfl, Nat.zero_le _, I0⟩
  case round =>
   obtain ⟨k, rfl, hk, I⟩ := hrel
   clear I0
   by_cases hlt : k < m
   ·obtain ⟨x, hx⟩ : ∃ x, (ms.map (movedN wv (ra.map lr)))[k]? = some x := ⟨_, List.getElem?_eq_getElem (by rw [List.length_map, PL.out]; exact hlt)⟩
    obtain ⟨b6, off6, rfl, _, d0, d1⟩ := npos_at (Q35.out.below I.out) hx hlt
    obtain ⟨b7, off7, rfl, _, e0, e1⟩ := npos_at (Q45.out.below I.out) hx hlt
    obtain ⟨tr, tc⟩ := x
    dsimp only at d0 d1 e0 e1
    have NE := fun w => neq_pos (tr : Int) (tc : Int) w
    have k0 : (0 : Int) ≤ (k : Int) := by omega
    have ki : (k : Int) < (m : Int) := by omega
    clear hx
    go_wp2_with fail
    go_quiet (fail)
    go_wp2_with fail
    go_roundw
    case rel => exact ⟨k + 1, by go_num, by omega, Lib.hid ⟨I.out.os, I.out.tape, I.out.output, I.out.size, I.out.block⟩⟩
    case measure => first | (simp [intOf]; done) | (simp [intOf]; omega)
   ·obtain rfl : k = m := by omega
    have hnl : ¬ (k : Int) < (k : Int) := by omega
    have B6 := Lib.hid (show Laid w2 wr from B5.out.trans (I.out.mono B5.out.size))
    have JB := join_back HW.out.1 HW.out.2 (ra.map lr)
    have SW := Lib.hid (sameN_walk A2 A3 n2 c2 n3 c3 ra rs3 wr (S2.out.below B6.out S2.out.size) ((RA.out.below B6.out).up B6.out.size) C2.out ((R35.out.below I.out).up I.out.size) C3.out (by have := L2.out; omega) N3.out (fun x hx => by have := OK.out.len x hx; omega) (fun x hx => by rw [M3.out, JB] at hx; have := OK.out.len x hx; omega))
    rw [M3.out, JB, eqLs_refl] at SW
    clear JB
    go_wp2_with fail
    refine SW.out.mono ?_
    rintro e w7 ⟨rfl, b7⟩
    have IF := Lib.hid (B2.out.trans ((B6.out.trans (b7.mono B6.out.size)).mono B2.out.size))
    clear b7 SW
    go_wp2_with fail
    go_ret
    exact ⟨rfl, IF.out⟩
 ·have F1 := Lib.hid (reflow_none A2 n2 c2 x A' m c' w2 hx)
  have F2 := Lib.hid (fun W => refRows_none A2 n2 c2 x A' m c' W hx)
  have HX := Lib.hid hx
  have EQ := Lib.hid (fun W => eqRowsL_walk none none 0 0 0 [] [] W (by omega) ⟨(fun r h => by cases h), Sq.nothing _ _ _ _⟩ ⟨(fun r h => by cases h), Sq.nothing _ _ _ _⟩ (fun x h => by cases h) (fun x h => by cases h) rfl)
  have SW := Lib.hid (fun (W : World) (hb : Laid w2 W) => sameN_walk A2 none n2 c2 0 0 ra [] W (S2.out.below hb S2.out.size) ((RA.out.below hb).up hb.size) C2.out ⟨(fun r h => by cases h), Sq.nothing _ _ _ _⟩ (Nat.le_refl _) (by have := L2.out; omega) (by omega) (fun x hx => by have := OK.out.len x hx; omega) (fun x hx => by cases hx))
  have hd : ∃ b1 b2 : Bool, decide ((2 : Int) ≤ x) = b1 ∧ decide (x ≤ 300) = b2 ∧ (b1 && b2) = false := ⟨_, _, rfl, rfl, by
   by_cases h2 : 2 ≤ x
   ·have : ¬ x ≤ 300 := fun h => hx ⟨h2, h⟩
    simp [h2, this]
   ·simp [h2]⟩
  clear hx
  go_wp2_with fail
  refine F1.out.mono ?_
  rintro e w3 ⟨rfl, b3⟩
  have B3 := Lib.hid (show Laid w2 w3 from b3)
  clear b3
  go_wp2_with fail
  refine (F2.out w3).mono ?_
  rintro e w4 ⟨rfl, b4⟩
  have B4 := Lib.hid (show Laid w2 w4 from B3.out.trans (b4.mono B3.out.size))
  clear b4
  go_wp2_with fail
  refine (EQ.out w4).mono ?_
  rintro e w5 ⟨rfl, b5⟩
  have B5 := Lib.hid (show Laid w2 w5 from B4.out.trans (b5.mono B4.out.size))
  have I0 := Lib.hid (Below.refl w5.heap.size w5)
  clear b5
  go_wp2_with fail
  go_loopw [12] (fun i wr => i = .int .i64 0 ∧ Hid (Laid w5 wr)) (fun i _ => 0)
  case atStart => exact ⟨rfl, I0⟩
  case round =>
   obtain ⟨rfl, I⟩ := hrel
   clear I0
   have B6 := Lib.hid (show Laid w2 wr from B5.out.trans (I.out.mono B5.out.size))
   have SW6 := Lib.hid (SW.out wr B6.out)
   obtain ⟨J, hJ⟩ : ∃ J : Bool, eqLs (joinL (ra.map lr)) (joinL (([] : List RowIn).map lr)) = J := ⟨_, rfl⟩
   have HJ := Lib.hid (show J = decide (n2 = 0) from by
    rw [← hJ]
    show eqLs (joinL (ra.map lr)) [] = _
    rw [eqLs_nil]
    simp only [NR.out])
   rw [hJ] at SW6
   clear hJ
   go_wp2_with fail
   refine SW6.out.mono ?_
   rintro e w7 ⟨rfl, b7⟩
   have IF := Lib.hid (B2.out.trans ((B6.out.trans (b7.mono B6.out.size)).mono B2.out.size))
   clear b7 SW6
   obtain ⟨b1, b2, hd1, hd2, hd3⟩ := hd
   by_cases h0 : n2 = 0
   ·subst h0
    have HJ1 : J = true := HJ.out
    subst HJ1
    cases b1 <;> cases b2 <;> first | (cases hd3; done) | (go_wp2_with fail; go_ret; exact ⟨rfl, IF.out⟩)
   ·have HJ1 : J = false := by rw [HJ.out]; simp [h0]
    subst HJ1
    have hz : ((n2 : Int) == 0) = false := by simp; omega
    have hz2 : (n2 == 0) = false := by simp; omega
    cases b1 <;> cases b2 <;> first | (cases hd3; done) | (go_wp2_with fail; go_ret; exact ⟨rfl, IF.out⟩)
set_option maxRecDepth 100000 in
theorem contract (H : Type) (enc : TypeId × Value → H) (W : World) (base : Nat) (args : Array Value) (ds gs : List (DataW H)) (before : List MemPlace)
  (hval : ∀ (j : Nat) t v, Tryz.f4.params[j]? = some t → args[j]? = some v → Value.okWide Tryz.prog W .any base t v)
  (hW : DataW.Whole enc Tryz.prog Tryz.f4.params.toList Rows.reflowAllSpec.vars false W args.toList ds gs before) (hL : laidMetH Tryz.prog Rows.reflowAllRow.laid W) :
  Calls Tryz.prog 4 args W fun e W' => ∃ v, e = .returned v ∧ Rows.reflowAllSpec.post enc Tryz.prog Tryz.f4 false true false false W args v W' := by
 have hW' := hW
 obtain ⟨p, q, hA0, hV, rfl, hfz, hnd⟩ := hW
 have hA : DataW.TrodAll enc Tryz.prog W 0 (fun _ => true) true Tryz.f4.params.toList args.toList ds p := hA0
 rw [Tryz.params4] at hA hval
 obtain ⟨v0, vs0, d0, ds0, p0, q0, hargs, rfl, rfl, h0, r0⟩ := trodAll_cons hA
 obtain ⟨v1, vs1, d1, ds1, p1, q1, rfl, rfl, rfl, h1, r1⟩ := trodAll_cons r0
 obtain ⟨v2, vs2, d2, ds2, p2, q2, rfl, rfl, rfl, h2, r2⟩ := trodAll_cons r1
 obtain ⟨rfl, rfl, rfl⟩ := trodAll_nil r2
 obtain rfl : args = #[v0, v1, v2] := by cases args; simp_all
 obtain ⟨rfl, rfl⟩ := trodVars_none hV
 obtain ⟨Ax, nx, cx, x, rfl, hcx, hmx, hrx, hqx⟩ := open_rows (hval 0 22 v0 rfl rfl) h0
 obtain ⟨y, rfl, rfl, rfl, wy⟩ := open_int Tryz.underlying3 (hval 1 3 v1 rfl rfl) h1
 obtain ⟨Az, nz, cz, z, rfl, hcz, hmz, hrz, hqz⟩ := open_poses (hval 2 38 v2 rfl rfl) h2
 clear hA0
 refine (walk Ax nx cx x hcx hmx y (wf_i64 wy) Az nz cz z hcz hmz W (spans_of hL) hrx hqx hrz hqz).mono fun e W' ⟨he, hg⟩ => ?_
 subst he
 exact ⟨_, rfl, close rfl hW' ⟨rfl, rfl, rfl⟩ (by kernel_rfl) (by kernel_rfl) hg⟩
set_option maxRecDepth 100000 in
theorem laid_met (os : Os) : laidMet Tryz.prog Rows.reflowAllRow.laid ((laidWorld os).forCall (fun _ _ => 0) ⟨#[], #[.slice none 0 0, .int .i64 0, .slice none 0 0], []⟩).memory :=
 laidMet_of_run' 8 (by kernel_rfl) (by kernel_rfl)
set_option maxRecDepth 100000 in
theorem reads (os : Os) {H : Type} (enc : TypeId × Value → H) : ∃ places, DataW.whole enc Tryz.prog ((laidWorld os).forCall (fun _ _ => 0) ⟨#[], #[.slice none 0 0, .int .i64 0, .slice none 0 0], []⟩).memory Tryz.f4.params.toList Rows.reflowAllSpec.vars false (#[.slice none 0 0, .int .i64 0, .slice none 0 0] : Array Value).toList 8 = some ([.nil, .lit (.int .i64 0), .nil], [], places) :=
 ⟨[], by kernel_rfl⟩
set_option maxRecDepth 100000 in
theorem lifted (os : Os) (started : os.Started) (H : Type) (enc : TypeId × Value → H) (F : Stop.Interp) :
  ReturnsInHanded {} Tryz.checked os 4 .any ((OpenSpec.ofChange Rows.reflowAllSpec).preRow enc Tryz.prog Tryz.f4 Rows.reflowAllRow.domain false Rows.reflowAllRow.laid) (((OpenSpec.ofChange Rows.reflowAllSpec).at F).post enc Tryz.prog Tryz.f4 false true false false) := by
 obtain ⟨places, hx⟩ := reads os enc
 refine returnsInHanded_of_row (C := Tryz.checked) (s := OpenSpec.ofChange Rows.reflowAllSpec) ownNone started (by kernel_rfl) Tryz.func4
  (witness_row_at (enc := enc) (C := Tryz.checked) false (laidWorld os) #[.slice none 0 0, .int .i64 0, .slice none 0 0] rfl (by kernel_rfl) (by kernel_rfl) (by kernel_rfl)
   (OpenSpec.preRow_of_cond 8 hx (by kernel_rfl) (fun k hk => by cases hk) (by kernel_rfl) (laid_met os))) ?_
 intro W base args ds gs before hval hW _ _ _ hL _ _
 exact contract H enc W base args ds gs before hval hW hL
set_option maxRecDepth 100000 in
set_option maxHeartbeats 0 in
theorem facts : joinedFacts Tryz.checked.prog 4 Tryz.f4 (OpenSpec.ofChange Rows.reflowAllSpec).bare Rows.reflowAllRow = true := by
 have h1 := Sum.tables.1
 have h2 := Sum.tables.2.1
 have h3 := Sum.tables.2.2
 have h4 := Sum.mayEnter
 have e1 : Rows.reflowAllRow.lifted = Rows.lineAllRow.lifted := by kernel_rfl
 have e2 : Rows.reflowAllRow.make = Rows.lineAllRow.make := by kernel_rfl
 have h5 : (Rows.reflowAllRow.lifted == Tryz.checked.prog.liftsFinal) = true := by rw [e1]; exact Sum.lifts
 have h6 : (Tryz.checked.prog.make == some Rows.reflowAllRow.make) = true := by rw [e2]; exact Sum.make
 unfold joinedFacts
 repeat' (with_reducible refine Sum.and_mk ?_ ?_)
 all_goals first
  | with_reducible exact h1
  | with_reducible exact h2
  | with_reducible exact h4
  | with_reducible exact h5
  | with_reducible exact h6
  | (rw [h3]; as_aux_lemma => kernel_rfl)
  | (clear h1 h2 h3 h4 h5 h6 e1 e2; as_aux_lemma => kernel_rfl)
set_option maxRecDepth 100000 in
theorem said : Rows.ReflowAllSaid :=
 OpenClaim.holds_of_cond 4 Tryz.f4 rfl rfl rfl rfl rfl rfl rfl ⟨rfl, rfl, rfl, rfl, rfl⟩ rfl rfl rfl rfl rfl (by kernel_rfl) Tryz.func4 facts
  (of_decide_eq_true (by kernel_rfl)) (by unfold Func.isWrapper; first | (rw [if_pos (by decide +kernel)]; kernel_rfl) | (rw [if_neg (by decide +kernel)]; exact ⟨rfl, rfl⟩))
  (fun os started H enc _ F => by rw [OpenClaim.pre_eq_preRow]; exact lifted os started H enc F)
set_option maxRecDepth 100000 in
theorem plain (f : FuncId) (fn : Func) (hf : Tryz.pinned.checked.prog.funcNamed "rotulus/rotuluslaw10.ReflowAll" = some f) (hfn : Tryz.pinned.checked.prog.funcs[f]? = some fn) :
  false = Tryz.pinned.checked.prog.looks [] ∧ ∀ (j : Nat) t, fn.params[j]? = some t → Tryz.pinned.checked.prog.wantsStandIn t = false := by
 obtain rfl : f = 4 := Option.some.inj ((show Tryz.prog.funcNamed "rotulus/rotuluslaw10.ReflowAll" = some 4 by kernel_rfl).symm.trans hf) |>.symm
 obtain rfl : fn = Tryz.f4 := (Option.some.inj (Tryz.func4.symm.trans hfn)).symm
 refine ⟨by kernel_rfl, fun j t ht => ?_⟩
 rw [Tryz.params4] at ht
 have hm := Array.mem_of_getElem? ht
 simp at hm
 rcases hm with rfl | rfl | rfl
 ·exact (show Tryz.prog.wantsStandIn 22 = false by kernel_rfl)
 ·exact (show Tryz.prog.wantsStandIn 3 = false by kernel_rfl)
 ·exact (show Tryz.prog.wantsStandIn 38 = false by kernel_rfl)
set_option maxRecDepth 100000 in
theorem card : Rows.ReflowAllCardSaid :=
 Claim7.holds_tied_plain_at .later [] _ _ _ _ said (fun _ h => by cases h) (by kernel_rfl) (fun _ h => by cases h) reflowAll_row_tie rfl ⟨rfl, rfl⟩ (by kernel_rfl) rfl plain (by kernel_rfl)
end Go.Proofs.YtgmijnnhanpocaaGreatDoor.reflowAll
