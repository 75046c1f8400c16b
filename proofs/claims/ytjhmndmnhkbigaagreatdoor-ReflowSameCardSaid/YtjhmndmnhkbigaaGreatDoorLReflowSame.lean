/-
  The statement ReflowSame: reflow.Same tells of two lists of rows whether their lines are the same, as the reference's lines are; of one list and itself it tells yes. For every two lists of rows (of which the statement reads the first fourteen, and 310 cells of each); it holds where the table of widths is as its initialiser lays it, which the card ties to the program's text.
-/
import Derived.Test.YtjhmndmnhkbigaaGreatDoorQYEvZ0
import Derived.Test.YtjhmndmnhkbigaaGreatDoorQYBase0
import Derived.Test.YtjhmndmnhkbigaaGreatDoorQYLine1
import Derived.Test.YtjhmndmnhkbigaaGreatDoorQYLine2
import Derived.Test.YtjhmndmnhkbigaaGreatDoorQYBase4
namespace Go.Proofs.YtjhmndmnhkbigaaGreatDoor.reflowSame
open Go.ChangeShapes Go.WideShapes Go.ChangeAt Go.RowKit
open Rw Ln
set_option maxRecDepth 100000 in
set_option maxHeartbeats 12800000 in
theorem walk (A : Option Addr) (n c : Nat) (l : List RowIn) (_hc : n ≤ c) (hm : c ≤ maxLen) (A' : Option Addr) (n' c' : Nat) (l' : List RowIn) (_hc' : n' ≤ c') (hm' : c' ≤ maxLen) (w : World) (hs : Spans w) (hr : ∀ r ∈ l, r.Ok w w.heap.size) (hq : Sq w w.heap.size 2 n A (l.flatMap RowIn.vals)) (hr' : ∀ r ∈ l', r.Ok w w.heap.size) (hq' : Sq w w.heap.size 2 n' A' (l'.flatMap RowIn.vals)) :
  Calls Tryz.prog 9 #[.slice A n c, .slice A' n' c'] w fun e w' => e = .returned (.bool true) ∧ Below w.heap.size w w' := by
 have S := Lib.hid hs
 have R := Lib.hid (show Rws w w.heap.size A n l from ⟨hr, hq⟩)
 have R' := Lib.hid (show Rws w w.heap.size A' n' l' from ⟨hr', hq'⟩)
 have N1 := Lib.hid (Nat.le_trans _hc hm)
 have N2 := Lib.hid (Nat.le_trans _hc' hm')
 clear hs hr hq hr' hq' _hc hm _hc' hm'
 go_enter Tryz.func9, Tryz.ntmps9
 go_wp2_with fail
 refine (Ev.Trues.at Ev.begun10 w S.out).mono ?_
 rintro e w1 ⟨rfl, b1⟩
 have B1 := Lib.hid b1
 have RW := Lib.hid (rows10_walk A n c l w1 ((R.out.below b1).up b1.size) N1.out)
 clear b1
 go_wp2_with fail
 refine RW.out.mono ?_
 rintro e w2 ⟨v2, ra, rfl, o2, m2, b2⟩
 obtain ⟨A2, c2, rfl, hc2⟩ := o2.shape
 obtain ⟨n2, hn2⟩ : ∃ n2, ra.length = n2 := ⟨_, rfl⟩
 have B2 := Lib.hid (B1.out.trans (b2.mono B1.out.size))
 have L2 := Lib.hid (show n2 ≤ 14 from by
  have := congrArg List.length m2
  unfold drawnRs at this
  rw [List.length_map, List.length_map, List.length_take, hn2] at this
  omega)
 rw [hn2] at o2 hc2 ⊢
 have O2 := Lib.hid o2
 have C2 := Lib.hid hc2
 have RW := Lib.hid (rows10_walk A' n' c' l' w2 ((R'.out.below B2.out).up B2.out.size) N2.out)
 clear o2 m2 b2 hn2 hc2
 go_wp2_with fail
 refine RW.out.mono ?_
 rintro e w3 ⟨v3, rb, rfl, o3, m3, b3⟩
 obtain ⟨A3, c3, rfl, hc3⟩ := o3.shape
 obtain ⟨n3, hn3⟩ : ∃ n3, rb.length = n3 := ⟨_, rfl⟩
 have B3 := Lib.hid (B2.out.trans (b3.mono B2.out.size))
 have L3 := Lib.hid (show n3 ≤ 14 from by
  have := congrArg List.length m3
  unfold drawnRs at this
  rw [List.length_map, List.length_map, List.length_take, hn3] at this
  omega)
 rw [hn3] at o3 hc3 ⊢
 have C3 := Lib.hid hc3
 have RA := Lib.hid (show Rws w3 w3.heap.size A2 n2 ra from ((O2.out.laid b3).rws).2)
 have RB := Lib.hid (show Rws w3 w3.heap.size A3 n3 rb from (o3.rws).2)
 have S3 := Lib.hid (S.out.below B3.out S.out.size)
 clear o3 m3 b3 hn3 hc3 RW R R' N1 N2 O2
 have SM := Lib.hid (same_walk A2 A3 n2 c2 n3 c3 ra rb w3 S3.out RA.out C2.out RB.out C3.out (by have := L2.out; omega) (by have := L3.out; omega))
 go_wp2_with fail
 refine SM.out.mono ?_
 rintro e w4 ⟨rfl, b4⟩
 have B34 := Lib.hid b4
 have J1 := Lib.hid (refJoin_walk A2 n2 c2 ra w4 ((RA.out.below b4).up b4.size) (by have := L2.out; omega))
 clear b4 SM
 go_wp2_with fail
 refine J1.out.mono ?_
 rintro e w5 ⟨v5, vs5, rfl, l5, b5⟩
 have B35 := Lib.hid (B34.out.trans (b5.mono B34.out.size))
 have J2 := Lib.hid (refJoin_walk A3 n3 c3 rb w5 ((RB.out.below B35.out).up B35.out.size) (by have := L3.out; omega))
 have K1 := Lib.hid (joinL_len (rs := ra.map lr) (N := 1000000) (by rw [List.length_map, RA.out.len]; have := L2.out; omega))
 have K2 := Lib.hid (joinL_len (rs := rb.map lr) (N := 1000000) (by rw [List.length_map, RB.out.len]; have := L3.out; omega))
 have NL := Lib.hid (show (joinL (ra.map lr)).length ≤ 1000000 from by
  have h1 := parts_length_le (ra.map lr)
  rw [List.length_map, RA.out.len] at h1
  have := L2.out
  unfold joinL
  rw [List.length_map]
  omega)
 obtain ⟨A5, c5, rfl, _⟩ := own_cap l5.own
 have LL5 := Lib.hid l5
 clear l5 b5 J1
 go_wp2_with fail
 refine J2.out.mono ?_
 rintro e w6 ⟨v6, vs6, rfl, l6, b6⟩
 obtain ⟨A6, c6, rfl, _⟩ := own_cap l6.own
 have B36 := Lib.hid (B35.out.trans (b6.mono B35.out.size))
 have R5 := Lib.hid ((LL5.out.laid b6).rd K1.out).2
 have R6 := Lib.hid (l6.rd K2.out).2
 have EQ := Lib.hid (eq_walk A5 A6 (joinL (ra.map lr)).length c5 (joinL (rb.map lr)).length c6 vs5 vs6 (joinL (ra.map lr)) (joinL (rb.map lr)) w6 NL.out R5.out R6.out)
 clear l6 b6 J2 LL5
 go_wp2_with fail
 refine EQ.out.mono ?_
 rintro e w7 ⟨rfl, b7⟩
 have B37 := Lib.hid (B36.out.trans (b7.mono B36.out.size))
 have B7 := Lib.hid (B3.out.trans (B37.out.mono B3.out.size))
 have SM := Lib.hid (same_walk A2 A2 n2 c2 n2 c2 ra ra w7 (S.out.below B7.out S.out.size) ((RA.out.below B37.out).up B37.out.size) C2.out ((RA.out.below B37.out).up B37.out.size) C2.out (by have := L2.out; omega) (by have := L2.out; omega))
 rw [eqLs_refl] at SM
 have BE : ∀ b : Bool, (b == b) = true := fun b => by cases b <;> rfl
 clear b7 EQ
 go_wp2_with fail
 refine SM.out.mono ?_
 rintro e w8 ⟨rfl, b8⟩
 have B8 := Lib.hid (B7.out.trans (b8.mono B7.out.size))
 clear b8 SM
 go_wp2
 go_ret
 exact ⟨rfl, B8.out⟩
set_option maxRecDepth 100000 in
theorem contract (H : Type) (enc : TypeId × Value → H) (W : World) (base : Nat) (args : Array Value) (ds gs : List (DataW H)) (before : List MemPlace)
  (hval : ∀ (j : Nat) t v, Tryz.f9.params[j]? = some t → args[j]? = some v → Value.okWide Tryz.prog W .any base t v)
  (hW : DataW.Whole enc Tryz.prog Tryz.f9.params.toList Rows.reflowSameSpec.vars false W args.toList ds gs before) (hL : laidMetH Tryz.prog Rows.reflowSameRow.laid W) :
  Calls Tryz.prog 9 args W fun e W' => ∃ v, e = .returned v ∧ Rows.reflowSameSpec.post enc Tryz.prog Tryz.f9 false true false false W args v W' := by
 have hW' := hW
 obtain ⟨p, q, hA0, hV, rfl, hfz, hnd⟩ := hW
 have hA : DataW.TrodAll enc Tryz.prog W 0 (fun _ => true) true Tryz.f9.params.toList args.toList ds p := hA0
 rw [Tryz.params9] at hA hval
 obtain ⟨v0, vs0, d0, ds0, p0, q0, hargs, rfl, rfl, h0, r0⟩ := trodAll_cons hA
 obtain ⟨v1, vs1, d1, ds1, p1, q1, rfl, rfl, rfl, h1, r1⟩ := trodAll_cons r0
 obtain ⟨rfl, rfl, rfl⟩ := trodAll_nil r1
 obtain rfl : args = #[v0, v1] := by cases args; simp_all
 obtain ⟨rfl, rfl⟩ := trodVars_none hV
 obtain ⟨Ax, nx, cx, x, rfl, hcx, hmx, hrx, hqx⟩ := open_rows (hval 0 22 v0 rfl rfl) h0
 obtain ⟨Ay, ny, cy, y, rfl, hcy, hmy, hry, hqy⟩ := open_rows (hval 1 22 v1 rfl rfl) h1
 clear hA0
 refine (walk Ax nx cx x hcx hmx Ay ny cy y hcy hmy W (spans_of hL) hrx hqx hry hqy).mono fun e W' ⟨he, hg⟩ => ?_
 subst he
 exact ⟨_, rfl, close rfl hW' ⟨rfl, rfl, rfl⟩ (by kernel_rfl) (by kernel_rfl) hg⟩
set_option maxRecDepth 100000 in
theorem laid_met (os : Os) : laidMet Tryz.prog Rows.reflowSameRow.laid ((laidWorld os).forCall (fun _ _ => 0) ⟨#[], #[.slice none 0 0, .slice none 0 0], []⟩).memory :=
 laidMet_of_run' 8 (by kernel_rfl) (by kernel_rfl)
set_option maxRecDepth 100000 in
theorem reads (os : Os) {H : Type} (enc : TypeId × Value → H) : ∃ places, DataW.whole enc Tryz.prog ((laidWorld os).forCall (fun _ _ => 0) ⟨#[], #[.slice none 0 0, .slice none 0 0], []⟩).memory Tryz.f9.params.toList Rows.reflowSameSpec.vars false (#[.slice none 0 0, .slice none 0 0] : Array Value).toList 8 = some ([.nil, .nil], [], places) :=
 ⟨[], by kernel_rfl⟩
set_option maxRecDepth 100000 in
theorem lifted (os : Os) (started : os.Started) (H : Type) (enc : TypeId × Value → H) (F : Stop.Interp) :
  ReturnsInHanded {} Tryz.checked os 9 .any ((OpenSpec.ofChange Rows.reflowSameSpec).preRow enc Tryz.prog Tryz.f9 Rows.reflowSameRow.domain false Rows.reflowSameRow.laid) (((OpenSpec.ofChange Rows.reflowSameSpec).at F).post enc Tryz.prog Tryz.f9 false true false false) := by
 obtain ⟨places, hx⟩ := reads os enc
 refine returnsInHanded_of_row (C := Tryz.checked) (s := OpenSpec.ofChange Rows.reflowSameSpec) ownNone started (by kernel_rfl) Tryz.func9
  (witness_row_at (enc := enc) (C := Tryz.checked) false (laidWorld os) #[.slice none 0 0, .slice none 0 0] rfl (by kernel_rfl) (by kernel_rfl) (by kernel_rfl)
   (OpenSpec.preRow_of_cond 8 hx (by kernel_rfl) (fun k hk => by cases hk) (by kernel_rfl) (laid_met os))) ?_
 intro W base args ds gs before hval hW _ _ _ hL _ _
 exact contract H enc W base args ds gs before hval hW hL
set_option maxRecDepth 100000 in
set_option maxHeartbeats 0 in
theorem facts : joinedFacts Tryz.checked.prog 9 Tryz.f9 (OpenSpec.ofChange Rows.reflowSameSpec).bare Rows.reflowSameRow = true := by
 have h1 := Sum.tables.1
 have h2 := Sum.tables.2.1
 have h3 := Sum.tables.2.2
 have h4 := Sum.mayEnter
 have e1 : Rows.reflowSameRow.lifted = Rows.lineAllRow.lifted := by kernel_rfl
 have e2 : Rows.reflowSameRow.make = Rows.lineAllRow.make := by kernel_rfl
 have h5 : (Rows.reflowSameRow.lifted == Tryz.checked.prog.liftsFinal) = true := by rw [e1]; exact Sum.lifts
 have h6 : (Tryz.checked.prog.make == some Rows.reflowSameRow.make) = true := by rw [e2]; exact Sum.make
 unfold joinedFacts
 repeat' (with_reducible refine Sum.and_mk ?_ ?_)
 all_goals first
  | with_reducible exact h1
  | with_reducible exact h2
  | with_reducible exact h4
  | with_reducible exact h5
  | with_reducible exact h6
  | (rw [h3]; as_aux_lemma => kernel_rfl)
  | (clear h1 h2 h3 h4 h5 h6 e1 e2; as_aux_lemma => kernel_rfl)
set_option maxRecDepth 100000 in
theorem said : Rows.ReflowSameSaid :=
 OpenClaim.holds_of_cond 9 Tryz.f9 rfl rfl rfl rfl rfl rfl rfl ⟨rfl, rfl, rfl, rfl, rfl⟩ rfl rfl rfl rfl rfl (by kernel_rfl) Tryz.func9 facts
  (of_decide_eq_true (by kernel_rfl)) (by unfold Func.isWrapper; first | (rw [if_pos (by decide +kernel)]; kernel_rfl) | (rw [if_neg (by decide +kernel)]; exact ⟨rfl, rfl⟩))
  (fun os started H enc _ F => by rw [OpenClaim.pre_eq_preRow]; exact lifted os started H enc F)
set_option maxRecDepth 100000 in
theorem plain (f : FuncId) (fn : Func) (hf : Tryz.pinned.checked.prog.funcNamed "rotulus/rotuluslaw10.ReflowSame" = some f) (hfn : Tryz.pinned.checked.prog.funcs[f]? = some fn) :
  false = Tryz.pinned.checked.prog.looks [] ∧ ∀ (j : Nat) t, fn.params[j]? = some t → Tryz.pinned.checked.prog.wantsStandIn t = false := by
 obtain rfl : f = 9 := Option.some.inj ((show Tryz.prog.funcNamed "rotulus/rotuluslaw10.ReflowSame" = some 9 by kernel_rfl).symm.trans hf) |>.symm
 obtain rfl : fn = Tryz.f9 := (Option.some.inj (Tryz.func9.symm.trans hfn)).symm
 refine ⟨by kernel_rfl, fun j t ht => ?_⟩
 rw [Tryz.params9] at ht
 have hm := Array.mem_of_getElem? ht
 simp at hm
 subst hm
 exact (show Tryz.prog.wantsStandIn 22 = false by kernel_rfl)
set_option maxRecDepth 100000 in
theorem card : Rows.ReflowSameCardSaid :=
 Claim7.holds_tied_plain_at .later [] _ _ _ _ said (fun _ h => by cases h) (by kernel_rfl) (fun _ h => by cases h) reflowSame_row_tie rfl ⟨rfl, rfl⟩ (by kernel_rfl) rfl plain (by kernel_rfl)
end Go.Proofs.YtjhmndmnhkbigaaGreatDoor.reflowSame
