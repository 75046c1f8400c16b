/-
  The statement ReflowBack: over any widths and back again the lines are the same; twice at one width, the rows are the same. For every list of rows (of which the statement reads the first fourteen, and 310 cells of each) and every list of numbers as widths (of which it takes the first six); it holds where the table of widths is as its initialiser lays it, which the card ties to the program's text.
-/
import Derived.Test.YtgmijnnhanpocaaGreatDoorQREvZ0
import Derived.Test.YtgmijnnhanpocaaGreatDoorQRBase0
import Derived.Test.YtgmijnnhanpocaaGreatDoorQRBase1
import Derived.Test.YtgmijnnhanpocaaGreatDoorQRLine2
import Derived.Test.YtgmijnnhanpocaaGreatDoorQRLine5
import Derived.Test.YtgmijnnhanpocaaGreatDoorQRBase5
import Derived.Test.YtgmijnnhanpocaaGreatDoorQRLine7
import Derived.Test.YtgmijnnhanpocaaGreatDoorQRBase6
namespace Go.Proofs.YtgmijnnhanpocaaGreatDoor.reflowBack
open Go.ChangeShapes Go.WideShapes Go.ChangeAt Go.RowKit
open Rw Ln
theorem own_wide {W : World} {B : Nat} {v : Value} {rs : List RowIn} {w : Nat} (h : Ln.Own W B v rs) (hw : ∀ r ∈ rs.map lr, r.2.length = w) (hw2 : w ≤ 300) : ∀ x ∈ rs, x.n ≤ 1000000 := fun x hx => by
 have h1 := hw (lr x) (List.mem_map.2 ⟨x, hx, rfl⟩)
 obtain ⟨h2, _⟩ := h.each x hx
 have hh : W.ownsRow B 50 3 (.slice x.A x.n x.c) x.l.length (flat x.l) := h2
 obtain ⟨A', c', e, _⟩ := own_cap hh
 injection e with e1 e2 e3
 have : x.l.length = w := h1
 omega
set_option maxRecDepth 100000 in
set_option maxHeartbeats 12800000 in
theorem walk (A : Option Addr) (n c : Nat) (l : List RowIn) (_hc : n ≤ c) (hm : c ≤ maxLen) (A' : Option Addr) (n' c' : Nat) (ps : List Int) (_hc' : n' ≤ c') (hm' : c' ≤ maxLen) (_hpr : ∀ p ∈ ps, -9223372036854775808 ≤ p ∧ p ≤ 9223372036854775807) (w : World) (hs : Spans w) (hr : ∀ r ∈ l, r.Ok w w.heap.size) (hq : Sq w w.heap.size 2 n A (l.flatMap RowIn.vals)) (hpq : Sq w w.heap.size 1 n' A' (ps.map (Value.int .i64))) :
  Calls Tryz.prog 5 #[.slice A n c, .slice A' n' c'] w fun e w' => e = .returned (.bool true) ∧ Below w.heap.size w w' := by
 have S := Lib.hid hs
 have R := Lib.hid (show Rws w w.heap.size A n l from ⟨hr, hq⟩)
 have N1 := Lib.hid (Nat.le_trans _hc hm)
 have N2 := Lib.hid (show n' ≤ maxLen from Nat.le_trans _hc' hm')
 have P := Lib.hid hpq
 clear hs hr hq hpq _hc hm hm' _hc' _hpr
 go_enter Tryz.func5, Tryz.ntmps5
 go_wp2_with fail
 refine (Ev.Trues.at Ev.begun10 w S.out).mono ?_
 rintro e w1 ⟨rfl, b1⟩
 have B1 := Lib.hid b1
 have RW := Lib.hid (rows10_walk A n c l w1 ((R.out.below b1).up b1.size) N1.out)
 clear b1
 go_wp2_with fail
 refine RW.out.mono ?_
 rintro e w2 ⟨v2, ra, rfl, o2, m2, b2⟩
 obtain ⟨A2, c2, rfl, hc2⟩ := o2.shape
 obtain ⟨n2, hn2⟩ : ∃ n2, ra.length = n2 := ⟨_, rfl⟩
 have B2 := Lib.hid (B1.out.trans (b2.mono B1.out.size))
 have L2 := Lib.hid (show n2 ≤ 14 from by
  have := congrArg List.length m2
  unfold drawnRs at this
  rw [List.length_map, List.length_map, List.length_take, hn2] at this
  omega)
 rw [hn2] at o2 hc2 ⊢
 have C2 := Lib.hid hc2
 have RA := Lib.hid (show Rws w2 w2.heap.size A2 n2 ra from (o2.rws).2)
 have J2 := Lib.hid (refJoin_walk A2 n2 c2 ra w2 RA.out (by have := L2.out; omega))
 have OK := Lib.hid (rows_ok RA.out (by have := L2.out; omega))
 have JN := Lib.hid (show (joinL (ra.map lr)).length ≤ 14 from by have h := joinL_many (rs := ra.map lr); rw [List.length_map, RA.out.len] at h; have := L2.out; omega)
 have JB := Lib.hid (fun (wv : Nat) (h2 : 2 ≤ wv) (h3 : wv ≤ 300) => join_back h2 h3 (ra.map lr))
 obtain ⟨J, hJ⟩ : ∃ J, joinL (ra.map lr) = J := ⟨_, rfl⟩
 rw [hJ] at OK JN JB J2
 have HJ := Lib.hid hJ
 clear o2 m2 b2 hn2 hc2 RW R N1 hJ
 go_wp2_with fail
 refine J2.out.mono ?_
 rintro e w3 ⟨v3, vs3, rfl, l3, b3⟩
 obtain ⟨A3, c3, rfl, _⟩ := own_cap l3.own
 have LR3 := Lib.hid (l3.rd (fun l hl => by have := OK.out.len l hl; omega)).2
 have B3 := Lib.hid (B2.out.trans (b3.mono B2.out.size))
 have S3 := Lib.hid (S.out.below B3.out S.out.size)
 have I0 := Lib.hid (Below.refl w3.heap.size w3)
 have R0 := Lib.hid ((RA.out.below b3).up b3.size)
 have P3 := Lib.hid (P.out.below B3.out)
 clear l3 b3 J2 RA P
 go_wp2_with fail
 go_loopw [0, 7, 8, 9, 10, 11, 12] (fun s0 i a8 a9 a10 a11 a12 wr => ∃ (k : Nat) (A9 : Option Addr) (n9 c9 : Nat) (rs : List RowIn), s0 = .slice A9 n9 c9 ∧ i = .int .i64 (k : Int) ∧ k ≤ n' ∧ k ≤ 6 ∧ n9 ≤ c9 ∧ n9 ≤ 1000000 ∧ Hid (Below w3.heap.size w3 wr) ∧ Hid (Rws wr wr.heap.size A9 n9 rs) ∧ Hid (joinL (rs.map lr) = J)) (fun _ i _ _ _ _ _ _ => 6 - (intOf i).toNat)
 case atStart => exact ⟨0, A2, n2, c2, ra, rfl, rfl, Nat.zero_le _, Nat.zero_le _, C2.out, by have := L2.out; omega, I0, R0, HJ⟩
 case round =>
  obtain ⟨k, A9, n9, c9, rs, rfl, rfl, hk, hk6, hc9, hn9, I, RS, JS⟩ := hrel
  clear I0 R0 HJ
  by_cases hlt : k < n'
  ·by_cases hlt6 : k < 6
   ·have I1 := Lib.hid (B3.out.trans (I.out.mono B3.out.size))
    obtain ⟨b, off, hA', _, c0⟩ := (P3.out.below (I.out.mono B3.out.size)).int_at hlt
    obtain ⟨wv, hwv, hw2, hw3, ew1, ew2⟩ := width_of (nth ps k) 25 (by decide) (by decide)
    have HW := Lib.hid (show 2 ≤ wv ∧ wv ≤ 300 from ⟨hw2, by omega⟩)
    have SR := Lib.hid (S3.out.below I.out S3.out.size)
    have HJ2 := Lib.hid (show (joinL (rs.map lr)).length ≤ 1000 from by rw [JS.out]; have := JN.out; omega)
    have HO2 := Lib.hid (show LOk (joinL (rs.map lr)) from by rw [JS.out]; exact OK.out)
    have F1 := Lib.hid (reflow_walk A9 n9 c9 rs wv none 0 0 [] wr SR.out RS.out hc9 hn9 HJ2.out HW.out.1 HW.out.2 (Sq.nothing _ _ _ _) rfl (by omega) (by intro p hp; cases hp) HO2.out)
    have hk1 : (k : Int) < (n' : Int) := by omega
    have hk2 : (k : Int) < 6 := by omega
    have k0 : (0 : Int) ≤ (k : Int) := by omega
    subst hA'
    clear hw2 hw3 hwv
    go_wp2_with fail
    refine F1.out.mono ?_
    rintro e w4 ⟨v4, mv4, rs4, rfl, o4, m4, q4, b4⟩
    rw [JS.out] at m4
    obtain ⟨A4, c4, rfl, hc4⟩ := o4.shape
    obtain ⟨n4, hn4⟩ : ∃ n4, rs4.length = n4 := ⟨_, rfl⟩
    have hn4' : n4 ≤ 1000000 := by
     have h1 := congrArg List.length m4
     rw [List.length_map, allL_len, hn4] at h1
     have h2 := highs_le (wv := wv) J OK.out.len
     have := JN.out
     omega
    have W4 := Lib.hid (own_wide o4 (by rw [m4]; exact all_wide HW.out.1 HW.out.2 OK.out.ok) HW.out.2)
    have R4 := Lib.hid (show Rws w4 w4.heap.size A4 n4 rs4 from by have h := o4.rws.2; rw [hn4] at h; exact h)
    rw [hn4] at hc4 ⊢
    have M4 := Lib.hid m4
    have J4 := Lib.hid (show joinL (rs4.map lr) = J from by rw [m4]; exact JB.out wv HW.out.1 HW.out.2)
    have I4 := Lib.hid (show Below w3.heap.size w3 w4 from I.out.trans (b4.mono I.out.size))
    have SR4 := Lib.hid (S3.out.below I4.out S3.out.size)
    have F2 := Lib.hid (reflow_walk A4 n4 c4 rs4 wv none 0 0 [] w4 SR4.out R4.out hc4 hn4' (by rw [J4.out]; have := JN.out; omega) HW.out.1 HW.out.2 (Sq.nothing _ _ _ _) rfl (by omega) (by intro p hp; cases hp) (by rw [J4.out]; exact OK.out))
    obtain ⟨A4m, c4m, rfl, _⟩ := own_cap q4
    clear o4 m4 q4 b4 hn4 F1 c0 HJ2 HO2 RS
    go_wp2_with fail
    refine F2.out.mono ?_
    rintro e w5 ⟨v5, mv5, rs5, rfl, o5, m5, q5, b5⟩
    rw [J4.out] at m5
    obtain ⟨A5, c5, rfl, hc5⟩ := o5.shape
    have hl5 : rs5.length = n4 := by
     have h1 := congrArg List.length (m5.trans M4.out.symm)
     rw [List.length_map, List.length_map] at h1
     rw [h1, R4.out.len]
    have W5 := Lib.hid (own_wide o5 (by rw [m5]; exact all_wide HW.out.1 HW.out.2 OK.out.ok) HW.out.2)
    have R5 := Lib.hid (show Rws w5 w5.heap.size A5 n4 rs5 from by have h := o5.rws.2; rw [hl5] at h; exact h)
    rw [hl5] at hc5 ⊢
    have I5 := Lib.hid (show Below w3.heap.size w3 w5 from I4.out.trans (b5.mono I4.out.size))
    have R45 := Lib.hid (show Rws w5 w5.heap.size A4 n4 rs4 from (R4.out.below b5).up b5.size)
    have EQ := Lib.hid (eqRowsL_walk A4 A5 n4 c4 c5 rs4 rs5 w5 hn4' R45.out R5.out W4.out W5.out (by rw [M4.out, m5]))
    obtain ⟨A5m, c5m, rfl, _⟩ := own_cap q5
    clear o5 m5 q5 b5 hl5 F2
    go_wp2_with fail
    refine EQ.out.mono ?_
    rintro e w6 ⟨rfl, b6⟩
    have I6 := Lib.hid (show Below w3.heap.size w3 w6 from I5.out.trans (b6.mono I5.out.size))
    have R46 := Lib.hid (show Rws w6 w6.heap.size A4 n4 rs4 from (R45.out.below b6).up b6.size)
    have JW := Lib.hid (join_walk A4 n4 c4 rs4 w6 (S3.out.below I6.out S3.out.size) R46.out hc4 hn4')
    rw [J4.out] at JW
    clear b6 EQ
    go_wp2_with fail
    refine JW.out.mono ?_
    rintro e w7 ⟨v7, vs7, rfl, l7, b7⟩
    obtain ⟨A7, c7, rfl, _⟩ := own_cap l7.own
    have I7 := Lib.hid (show Below w3.heap.size w3 w7 from I6.out.trans (b7.mono I6.out.size))
    have R7 := Lib.hid (l7.rd (fun l hl => by have := OK.out.len l hl; omega)).2
    have R3 := Lib.hid ((LR3.out.below I7.out).up I7.out.size)
    have EW := Lib.hid (eq_walk A7 A3 J.length c7 J.length c3 vs7 vs3 J J w7 (by have := JN.out; omega) R7.out R3.out)
    rw [eqLs_refl] at EW
    have R47 := Lib.hid (show Rws w7 w7.heap.size A4 n4 rs4 from (R46.out.below b7).up b7.size)
    clear l7 b7 JW
    go_wp2_with fail
    refine EW.out.mono ?_
    rintro e w8 ⟨rfl, b8⟩
    have I8 := Lib.hid (show Below w3.heap.size w3 w8 from I7.out.trans (b8.mono I7.out.size))
    have R48 := Lib.hid (show Rws w8 w8.heap.size A4 n4 rs4 from (R47.out.below b8).up b8.size)
    clear b8 EW
    go_wp2_with fail
    go_roundw
    case rel => exact ⟨k + 1, A4, n4, c4, rs4, rfl, by go_num, by omega, by omega, hc4, hn4', I8, R48, J4⟩
    case measure => first | (simp [intOf]; done) | (simp [intOf]; omega)
   ·obtain rfl : k = 6 := by omega
    have IF := Lib.hid (B3.out.trans (I.out.mono B3.out.size))
    have hk1 : (6 : Int) < (n' : Int) := by omega
    go_wp2_with fail
    go_ret
    exact ⟨rfl, IF.out⟩
  ·obtain rfl : k = n' := by omega
   have IF := Lib.hid (B3.out.trans (I.out.mono B3.out.size))
   have hnl : ¬ (k : Int) < (k : Int) := by omega
   go_wp2_with fail
   go_ret
   exact ⟨rfl, IF.out⟩
set_option maxRecDepth 100000 in
theorem contract (H : Type) (enc : TypeId × Value → H) (W : World) (base : Nat) (args : Array Value) (ds gs : List (DataW H)) (before : List MemPlace)
  (hval : ∀ (j : Nat) t v, Tryz.f5.params[j]? = some t → args[j]? = some v → Value.okWide Tryz.prog W .any base t v)
  (hW : DataW.Whole enc Tryz.prog Tryz.f5.params.toList Rows.reflowBackSpec.vars false W args.toList ds gs before) (hL : laidMetH Tryz.prog Rows.reflowBackRow.laid W) :
  Calls Tryz.prog 5 args W fun e W' => ∃ v, e = .returned v ∧ Rows.reflowBackSpec.post enc Tryz.prog Tryz.f5 false true false false W args v W' := by
 have hW' := hW
 obtain ⟨p, q, hA0, hV, rfl, hfz, hnd⟩ := hW
 have hA : DataW.TrodAll enc Tryz.prog W 0 (fun _ => true) true Tryz.f5.params.toList args.toList ds p := hA0
 rw [Tryz.params5] at hA hval
 obtain ⟨v0, vs0, d0, ds0, p0, q0, hargs, rfl, rfl, h0, r0⟩ := trodAll_cons hA
 obtain ⟨v1, vs1, d1, ds1, p1, q1, rfl, rfl, rfl, h1, r1⟩ := trodAll_cons r0
 obtain ⟨rfl, rfl, rfl⟩ := trodAll_nil r1
 obtain rfl : args = #[v0, v1] := by cases args; simp_all
 obtain ⟨rfl, rfl⟩ := trodVars_none hV
 obtain ⟨Ax, nx, cx, x, rfl, hcx, hmx, hrx, hqx⟩ := open_rows (hval 0 22 v0 rfl rfl) h0
 obtain ⟨Ay, ny, cy, y, rfl, hcy, hmy, hry, hqy⟩ := open_nums (hval 1 43 v1 rfl rfl) h1
 clear hA0
 refine (walk Ax nx cx x hcx hmx Ay ny cy y hcy hmy hry W (spans_of hL) hrx hqx hqy).mono fun e W' ⟨he, hg⟩ => ?_
 subst he
 exact ⟨_, rfl, close rfl hW' ⟨rfl, rfl, rfl⟩ (by kernel_rfl) (by kernel_rfl) hg⟩
set_option maxRecDepth 100000 in
theorem laid_met (os : Os) : laidMet Tryz.prog Rows.reflowBackRow.laid ((laidWorld os).forCall (fun _ _ => 0) ⟨#[], #[.slice none 0 0, .slice none 0 0], []⟩).memory :=
 laidMet_of_run' 8 (by kernel_rfl) (by kernel_rfl)
set_option maxRecDepth 100000 in
theorem reads (os : Os) {H : Type} (enc : TypeId × Value → H) : ∃ places, DataW.whole enc Tryz.prog ((laidWorld os).forCall (fun _ _ => 0) ⟨#[], #[.slice none 0 0, .slice none 0 0], []⟩).memory Tryz.f5.params.toList Rows.reflowBackSpec.vars false (#[.slice none 0 0, .slice none 0 0] : Array Value).toList 8 = some ([.nil, .nil], [], places) :=
 ⟨[], by kernel_rfl⟩
set_option maxRecDepth 100000 in
theorem lifted (os : Os) (started : os.Started) (H : Type) (enc : TypeId × Value → H) (F : Stop.Interp) :
  ReturnsInHanded {} Tryz.checked os 5 .any ((OpenSpec.ofChange Rows.reflowBackSpec).preRow enc Tryz.prog Tryz.f5 Rows.reflowBackRow.domain false Rows.reflowBackRow.laid) (((OpenSpec.ofChange Rows.reflowBackSpec).at F).post enc Tryz.prog Tryz.f5 false true false false) := by
 obtain ⟨places, hx⟩ := reads os enc
 refine returnsInHanded_of_row (C := Tryz.checked) (s := OpenSpec.ofChange Rows.reflowBackSpec) ownNone started (by kernel_rfl) Tryz.func5
  (witness_row_at (enc := enc) (C := Tryz.checked) false (laidWorld os) #[.slice none 0 0, .slice none 0 0] rfl (by kernel_rfl) (by kernel_rfl) (by kernel_rfl)
   (OpenSpec.preRow_of_cond 8 hx (by kernel_rfl) (fun k hk => by cases hk) (by kernel_rfl) (laid_met os))) ?_
 intro W base args ds gs before hval hW _ _ _ hL _ _
 exact contract H enc W base args ds gs before hval hW hL
set_option maxRecDepth 100000 in
set_option maxHeartbeats 0 in
theorem facts : joinedFacts Tryz.checked.prog 5 Tryz.f5 (OpenSpec.ofChange Rows.reflowBackSpec).bare Rows.reflowBackRow = true := by
 have h1 := Sum.tables.1
 have h2 := Sum.tables.2.1
 have h3 := Sum.tables.2.2
 have h4 := Sum.mayEnter
 have e1 : Rows.reflowBackRow.lifted = Rows.lineAllRow.lifted := by kernel_rfl
 have e2 : Rows.reflowBackRow.make = Rows.lineAllRow.make := by kernel_rfl
 have h5 : (Rows.reflowBackRow.lifted == Tryz.checked.prog.liftsFinal) = true := by rw [e1]; exact Sum.lifts
 have h6 : (Tryz.checked.prog.make == some Rows.reflowBackRow.make) = true := by rw [e2]; exact Sum.make
 unfold joinedFacts
 repeat' (with_reducible refine Sum.and_mk ?_ ?_)
 all_goals first
  | with_reducible exact h1
  | with_reducible exact h2
  | with_reducible exact h4
  | with_reducible exact h5
  | with_reducible exact h6
  | (rw [h3]; as_aux_lemma => kernel_rfl)
  | (clear h1 h2 h3 h4 h5 h6 e1 e2; as_aux_lemma => kernel_rfl)
set_option maxRecDepth 100000 in
theorem said : Rows.ReflowBackSaid :=
 OpenClaim.holds_of_cond 5 Tryz.f5 rfl rfl rfl rfl rfl rfl rfl ⟨rfl, rfl, rfl, rfl, rfl⟩ rfl rfl rfl rfl rfl (by kernel_rfl) Tryz.func5 facts
  (of_decide_eq_true (by kernel_rfl)) (by unfold Func.isWrapper; first | (rw [if_pos (by decide +kernel)]; kernel_rfl) | (rw [if_neg (by decide +kernel)]; exact ⟨rfl, rfl⟩))
  (fun os started H enc _ F => by rw [OpenClaim.pre_eq_preRow]; exact lifted os started H enc F)
set_option maxRecDepth 100000 in
theorem plain (f : FuncId) (fn : Func) (hf : Tryz.pinned.checked.prog.funcNamed "rotulus/rotuluslaw10.ReflowBack" = some f) (hfn : Tryz.pinned.checked.prog.funcs[f]? = some fn) :
  false = Tryz.pinned.checked.prog.looks [] ∧ ∀ (j : Nat) t, fn.params[j]? = some t → Tryz.pinned.checked.prog.wantsStandIn t = false := by
 obtain rfl : f = 5 := Option.some.inj ((show Tryz.prog.funcNamed "rotulus/rotuluslaw10.ReflowBack" = some 5 by kernel_rfl).symm.trans hf) |>.symm
 obtain rfl : fn = Tryz.f5 := (Option.some.inj (Tryz.func5.symm.trans hfn)).symm
 refine ⟨by kernel_rfl, fun j t ht => ?_⟩
 rw [Tryz.params5] at ht
 have hm := Array.mem_of_getElem? ht
 simp at hm
 rcases hm with rfl | rfl
 ·exact (show Tryz.prog.wantsStandIn 22 = false by kernel_rfl)
 ·exact (show Tryz.prog.wantsStandIn 43 = false by kernel_rfl)
set_option maxRecDepth 100000 in
theorem card : Rows.ReflowBackCardSaid :=
 Claim7.holds_tied_plain_at .later [] _ _ _ _ said (fun _ h => by cases h) (by kernel_rfl) (fun _ h => by cases h) reflowBack_row_tie rfl ⟨rfl, rfl⟩ (by kernel_rfl) rfl plain (by kernel_rfl)
end Go.Proofs.YtgmijnnhanpocaaGreatDoor.reflowBack
