/-
  The statement ReflowOne: as many marks as one likes come to stand where each by itself does. For every list of rows (of which the statement reads the first fourteen, and 310 cells of each), every number as width, every list of marks (of which it reads the first six); it holds where the table of widths is as its initialiser lays it, which the card ties to the program's text.
-/
import Derived.Test.YtgmijnnhanpocaaGreatDoorQREvZ0
import Derived.Test.YtgmijnnhanpocaaGreatDoorQRBase0
import Derived.Test.YtgmijnnhanpocaaGreatDoorQRBase1
import Derived.Test.YtgmijnnhanpocaaGreatDoorQRLine2
import Derived.Test.YtgmijnnhanpocaaGreatDoorQRLine5
import Derived.Test.YtgmijnnhanpocaaGreatDoorQRBase5
import Derived.BigQuiet
namespace Go.Proofs.YtgmijnnhanpocaaGreatDoor.reflowOne
open Go.ChangeShapes Go.WideShapes Go.ChangeAt Go.RowKit
open Rw Ln
theorem neq_pos (x y : Int) (w : World) : (binOp .neq 25 (.agg #[.int .i64 x, .int .i64 y]) (.agg #[.int .i64 x, .int .i64 y])).run Tryz.prog w = .ok (.bool false) w := by
 have h1 : (x == x) = true := by simp
 have h2 : (y == y) = true := by simp
 go_simp
theorem npos_at {W : World} {B n k : Nat} {A : Option Addr} {l : List (Nat × Nat)} {x : Nat × Nat} (hq : Sq W B 2 n A (l.flatMap nposV)) (hx : l[k]? = some x) (hk : k < n) :
  ∃ b off, A = some ⟨b, off, none⟩ ∧ b < B ∧ W.cell? ⟨b, off + k * 2, none⟩ = some (.int .i64 (x.1 : Int)) ∧ W.cell? ⟨b, off + k * 2 + 1, none⟩ = some (.int .i64 (x.2 : Int)) := by
 obtain ⟨b, off, e, hb, hc⟩ := hq.spot (by omega)
 have h0 := hc (k * 2 + 0) _ (flatMap_get nposV 2 (fun _ => rfl) l k x hx 0 _ rfl)
 have h1 := hc (k * 2 + 1) _ (flatMap_get nposV 2 (fun _ => rfl) l k x hx 1 _ rfl)
 exact ⟨b, off, e, hb, by simpa using h0, by rw [Nat.add_assoc]; exact h1⟩
theorem flatMap_take {α : Type} (f : α → List Value) (s : Nat) (hs : ∀ x, (f x).length = s) : ∀ (l : List α) (m : Nat), (l.take m).flatMap f = (l.flatMap f).take (m * s)
 | [], m => by simp
 | x :: l, 0 => by simp
 | x :: l, m + 1 => by
  rw [List.take_succ_cons, List.flatMap_cons, List.flatMap_cons, flatMap_take f s hs l m, Nat.succ_mul, Nat.add_comm, ← hs x, List.take_length_add_append]
theorem sq_takeP {w : World} {B n m : Nat} {A : Option Addr} {l : List (Int × Int)} (hq : Sq w B 2 n A (l.flatMap posV)) (hm : m ≤ n) : Sq w B 2 m A ((l.take m).flatMap posV) := by
 have hl := hq.len
 rw [flatMap_len posV 2 (fun _ => rfl)] at hl
 refine ⟨by rw [flatMap_len posV 2 (fun _ => rfl), List.length_take]; omega, fun h => ?_⟩
 obtain ⟨b, off, e, hb, hcell⟩ := hq.spot (by omega)
 refine ⟨b, off, e, hb, fun j u hu => hcell j u ?_⟩
 rw [flatMap_take posV 2 (fun _ => rfl), List.getElem?_take] at hu
 split at hu
 ·exact hu
 ·cases hu
set_option maxRecDepth 100000 in
set_option maxHeartbeats 12800000 in
theorem walk (A : Option Addr) (n c : Nat) (l : List RowIn) (_hc : n ≤ c) (hm : c ≤ maxLen) (x : Int) (_ : -9223372036854775808 ≤ x ∧ x ≤ 9223372036854775807) (A' : Option Addr) (n' c' : Nat) (ps : List (Int × Int)) (_hc' : n' ≤ c') (hm' : c' ≤ maxLen) (w : World) (hs : Spans w) (hr : ∀ r ∈ l, r.Ok w w.heap.size) (hq : Sq w w.heap.size 2 n A (l.flatMap RowIn.vals)) (hp : ∀ p ∈ ps, PosIn p) (hpq : Sq w w.heap.size 2 n' A' (ps.flatMap posVals)) :
  Calls Tryz.prog 7 #[.slice A n c, .int .i64 x, .slice A' n' c'] w fun e w' => e = .returned (.bool true) ∧ Below w.heap.size w w' := by
 obtain ⟨wv, hwv, hw2, hw3, ew1, ew2⟩ := width_of x 20 (by decide) (by decide)
 obtain ⟨m, hmm⟩ : ∃ m : Nat, min (n' : Int) 6 = (m : Int) := ⟨min n' 6, by omega⟩
 have hm1 : m ≤ n' := by omega
 have hm6 : m ≤ 6 := by omega
 have hmc : m ≤ c' := by omega
 have S := Lib.hid hs
 have R := Lib.hid (show Rws w w.heap.size A n l from ⟨hr, hq⟩)
 have N1 := Lib.hid (Nat.le_trans _hc hm)
 have N2 := Lib.hid (show c' ≤ maxLen from hm')
 have P := Lib.hid (sq_takeP (show Sq w w.heap.size 2 n' A' (ps.flatMap posV) from hpq) hm1)
 have PL := Lib.hid (show (ps.take m).length = m from by have h := hpq.len; rw [flatMap_len posVals 2 (fun _ => rfl)] at h; rw [List.length_take]; omega)
 have PI := Lib.hid (show ∀ p ∈ ps.take m, p.1 ≤ 9223372036854775807 from fun p h => (hp p (List.mem_of_mem_take h)).1.2)
 have HW := Lib.hid (show 2 ≤ wv ∧ wv ≤ 300 from ⟨hw2, by omega⟩)
 obtain ⟨ms, hms⟩ : ∃ ms, ps.take m = ms := ⟨_, rfl⟩
 rw [hms] at P PL PI
 clear hs hr hq hp hpq _hc hm hm' hwv hw2 hw3 hms _hc'
 go_enter Tryz.func7, Tryz.ntmps7
 go_wp2_with fail
 refine (Ev.Trues.at Ev.begun10 w S.out).mono ?_
 rintro e w1 ⟨rfl, b1⟩
 have B1 := Lib.hid b1
 have RW := Lib.hid (rows10_walk A n c l w1 ((R.out.below b1).up b1.size) N1.out)
 clear b1
 go_wp2_with fail
 refine RW.out.mono ?_
 rintro e w2 ⟨v2, ra, rfl, o2, m2, b2⟩
 obtain ⟨A2, c2, rfl, hc2⟩ := o2.shape
 obtain ⟨n2, hn2⟩ : ∃ n2, ra.length = n2 := ⟨_, rfl⟩
 have B2 := Lib.hid (B1.out.trans (b2.mono B1.out.size))
 have L2 := Lib.hid (show n2 ≤ 14 from by
  have := congrArg List.length m2
  unfold drawnRs at this
  rw [List.length_map, List.length_map, List.length_take, hn2] at this
  omega)
 rw [hn2] at o2 hc2 ⊢
 have C2 := Lib.hid hc2
 have RA := Lib.hid (show Rws w2 w2.heap.size A2 n2 ra from (o2.rws).2)
 have S2 := Lib.hid (S.out.below B2.out S.out.size)
 have OK := Lib.hid (rows_ok RA.out (by have := L2.out; omega))
 have FW := Lib.hid (fun (Am : Option Addr) (nm cm : Nat) (ms : List (Int × Int)) (W : World) (hb : Below w2.heap.size w2 W) (hq : Sq W W.heap.size 2 nm Am (ms.flatMap posV)) (hl : ms.length = nm) (hn : nm ≤ 1000000) (hr : ∀ p ∈ ms, p.1 ≤ 9223372036854775807) => reflow_walk A2 n2 c2 ra wv Am nm cm ms W (S2.out.below hb S2.out.size) ((RA.out.below hb).up hb.size) C2.out (by have := L2.out; omega) (rows_many RA.out (by have := L2.out; omega)) HW.out.1 HW.out.2 hq hl hn hr OK.out)
 have P2 := Lib.hid (show Sq w2 w2.heap.size 2 m A' (ms.flatMap posV) from (P.out.below B2.out).up B2.out.size)
 have F1 := Lib.hid (FW.out A' m c' ms w2 (Below.refl _ _) P2.out PL.out (by omega) PI.out)
 clear o2 m2 b2 hn2 hc2 RW R N1 P
 go_wp2_with fail
 refine F1.out.mono ?_
 rintro e w3 ⟨v3, mv, rs3, rfl, o3, _, q3, b3⟩
 obtain ⟨A3, c3, rfl, _⟩ := own_cap q3
 have B3 := Lib.hid b3
 have Q3 := Lib.hid (show Sq w3 w3.heap.size 2 m A3 ((ms.map (movedN wv (ra.map lr))).flatMap nposV) from Sq.own q3)
 have B23 := Lib.hid (B2.out.trans (b3.mono B2.out.size))
 clear o3 q3 b3 F1
 have I0 := Lib.hid (Below.refl w3.heap.size w3)
 go_wp2_with fail
 go_loopw [10, 11, 12] (fun i a11 a12 wr => ∃ k : Nat, i = .int .i64 (k : Int) ∧ k ≤ m ∧ Hid (Below w3.heap.size w3 wr)) (fun i _ _ _ => m - (intOf i).toNat)
 case atStart => exact ⟨0, rfl, Nat.zero_le _, I0⟩
 case round =>
  obtain ⟨k, rfl, hk, I⟩ := hrel
  clear I0
  by_cases hlt : k < m
  ·obtain ⟨⟨mr, mc⟩, hx⟩ : ∃ x, ms[k]? = some x := ⟨_, List.getElem?_eq_getElem (by rw [PL.out]; exact hlt)⟩
   have I2 := Lib.hid (B3.out.trans (I.out.mono B3.out.size))
   have I1 := Lib.hid (B2.out.trans (I2.out.mono B2.out.size))
   obtain ⟨b, off, hA', hb, c0, c1⟩ := marks_at (P2.out.below I2.out) hx hlt
   obtain ⟨w4, hw4⟩ : ∃ w4, wr.alloc (.cells #[.int .i64 mr, .int .i64 mc] 25) = w4 := ⟨_, rfl⟩
   have b4 : Laid wr w4 := by rw [← hw4]; exact (Below.refl _ _).alloc (Nat.le_refl _) _
   have q4 : Sq w4 w4.heap.size 2 1 (some ⟨wr.heap.size, 0, none⟩) ([((mr, mc) : Int × Int)].flatMap posV) := by
    rw [← hw4]
    have h := sq_pair wr 25 (.int .i64 mr) (.int .i64 mc)
    simpa [posV] using h
   have I4 := Lib.hid (show Below w2.heap.size w2 w4 from I2.out.trans (b4.mono I2.out.size))
   have F4 := Lib.hid (FW.out (some ⟨wr.heap.size, 0, none⟩) 1 1 [(mr, mc)] w4 I4.out q4 rfl (by omega) (by intro p hp; rw [List.mem_singleton.1 hp]; exact PI.out _ (List.mem_of_getElem? hx)))
   obtain ⟨⟨tr, tc⟩, hmv⟩ : ∃ mv, movedN wv (ra.map lr) (mr, mc) = mv := ⟨_, rfl⟩
   have hxm : (ms.map (movedN wv (ra.map lr)))[k]? = some (tr, tc) := by rw [List.getElem?_map, hx, ← hmv]; rfl
   have HX := Lib.hid hxm
   have HW4 := Lib.hid hw4
   have B4 := Lib.hid (show Below w3.heap.size w3 w4 from I.out.trans (b4.mono I.out.size))
   have B44 := Lib.hid (show w3.heap.size ≤ w4.heap.size from B4.out.size)
   have k0 : (0 : Int) ≤ (k : Int) := by omega
   have ki : (k : Int) < (m : Int) := by omega
   have MV := Lib.hid (show (([((mr, mc) : Int × Int)].map (movedN wv (ra.map lr))).flatMap nposV) = [(tr, tc)].flatMap nposV from by simp [hmv])
   subst hA'
   clear hx hmv hxm hw4 b4 q4 hb
   go_wp2_with fail
   rw [HW4.out]
   refine F4.out.mono ?_
   rintro e w5 ⟨v5, mv5, rs5, rfl, _, _, q5, b5⟩
   rw [MV.out] at q5
   obtain ⟨A5, c5, rfl, _⟩ := own_cap q5
   have q5' : Sq w5 w5.heap.size 2 1 A5 ([(tr, tc)].flatMap nposV) := Sq.own q5
   have I5 := Lib.hid (show Below w3.heap.size w3 w5 from B4.out.trans (b5.mono B4.out.size))
   obtain ⟨b6, off6, rfl, _, d0, d1⟩ := npos_at (k := 0) q5' rfl (by omega)
   obtain ⟨b7, off7, rfl, _, e0, e1⟩ := npos_at (Q3.out.below I5.out) HX.out hlt
   have NE := fun w => neq_pos (tr : Int) (tc : Int) w
   have hz : off6 + 0 * 2 = off6 := by omega
   rw [hz] at d0 d1
   clear q5 q5' b5 F4 c0 c1 hz
   go_wp2_with fail
   go_quiet (fail)
   go_wp2_with fail
   go_roundw
   case rel => exact ⟨k + 1, by go_num, by omega, Lib.hid ⟨I5.out.os, I5.out.tape, I5.out.output, I5.out.size, I5.out.block⟩⟩
   case measure => first | (simp [intOf]; done) | (simp [intOf]; omega)
  ·obtain rfl : k = m := by omega
   have IF := Lib.hid (B23.out.trans (I.out.mono B23.out.size))
   have hnl : ¬ (k : Int) < (k : Int) := by omega
   go_wp2_with fail
   go_ret
   exact ⟨rfl, IF.out⟩
set_option maxRecDepth 100000 in
theorem contract (H : Type) (enc : TypeId × Value → H) (W : World) (base : Nat) (args : Array Value) (ds gs : List (DataW H)) (before : List MemPlace)
  (hval : ∀ (j : Nat) t v, Tryz.f7.params[j]? = some t → args[j]? = some v → Value.okWide Tryz.prog W .any base t v)
  (hW : DataW.Whole enc Tryz.prog Tryz.f7.params.toList Rows.reflowOneSpec.vars false W args.toList ds gs before) (hL : laidMetH Tryz.prog Rows.reflowOneRow.laid W) :
  Calls Tryz.prog 7 args W fun e W' => ∃ v, e = .returned v ∧ Rows.reflowOneSpec.post enc Tryz.prog Tryz.f7 false true false false W args v W' := by
 have hW' := hW
 obtain ⟨p, q, hA0, hV, rfl, hfz, hnd⟩ := hW
 have hA : DataW.TrodAll enc Tryz.prog W 0 (fun _ => true) true Tryz.f7.params.toList args.toList ds p := hA0
 rw [Tryz.params7] at hA hval
 obtain ⟨v0, vs0, d0, ds0, p0, q0, hargs, rfl, rfl, h0, r0⟩ := trodAll_cons hA
 obtain ⟨v1, vs1, d1, ds1, p1, q1, rfl, rfl, rfl, h1, r1⟩ := trodAll_cons r0
 obtain ⟨v2, vs2, d2, ds2, p2, q2, rfl, rfl, rfl, h2, r2⟩ := trodAll_cons r1
 obtain ⟨rfl, rfl, rfl⟩ := trodAll_nil r2
 obtain rfl : args = #[v0, v1, v2] := by cases args; simp_all
 obtain ⟨rfl, rfl⟩ := trodVars_none hV
 obtain ⟨Ax, nx, cx, x, rfl, hcx, hmx, hrx, hqx⟩ := open_rows (hval 0 22 v0 rfl rfl) h0
 obtain ⟨y, rfl, rfl, rfl, wy⟩ := open_int Tryz.underlying3 (hval 1 3 v1 rfl rfl) h1
 obtain ⟨Az, nz, cz, z, rfl, hcz, hmz, hrz, hqz⟩ := open_poses (hval 2 38 v2 rfl rfl) h2
 clear hA0
 refine (walk Ax nx cx x hcx hmx y (wf_i64 wy) Az nz cz z hcz hmz W (spans_of hL) hrx hqx hrz hqz).mono fun e W' ⟨he, hg⟩ => ?_
 subst he
 exact ⟨_, rfl, close rfl hW' ⟨rfl, rfl, rfl⟩ (by kernel_rfl) (by kernel_rfl) hg⟩
set_option maxRecDepth 100000 in
theorem laid_met (os : Os) : laidMet Tryz.prog Rows.reflowOneRow.laid ((laidWorld os).forCall (fun _ _ => 0) ⟨#[], #[.slice none 0 0, .int .i64 0, .slice none 0 0], []⟩).memory :=
 laidMet_of_run' 8 (by kernel_rfl) (by kernel_rfl)
set_option maxRecDepth 100000 in
theorem reads (os : Os) {H : Type} (enc : TypeId × Value → H) : ∃ places, DataW.whole enc Tryz.prog ((laidWorld os).forCall (fun _ _ => 0) ⟨#[], #[.slice none 0 0, .int .i64 0, .slice none 0 0], []⟩).memory Tryz.f7.params.toList Rows.reflowOneSpec.vars false (#[.slice none 0 0, .int .i64 0, .slice none 0 0] : Array Value).toList 8 = some ([.nil, .lit (.int .i64 0), .nil], [], places) :=
 ⟨[], by kernel_rfl⟩
set_option maxRecDepth 100000 in
theorem lifted (os : Os) (started : os.Started) (H : Type) (enc : TypeId × Value → H) (F : Stop.Interp) :
  ReturnsInHanded {} Tryz.checked os 7 .any ((OpenSpec.ofChange Rows.reflowOneSpec).preRow enc Tryz.prog Tryz.f7 Rows.reflowOneRow.domain false Rows.reflowOneRow.laid) (((OpenSpec.ofChange Rows.reflowOneSpec).at F).post enc Tryz.prog Tryz.f7 false true false false) := by
 obtain ⟨places, hx⟩ := reads os enc
 refine returnsInHanded_of_row (C := Tryz.checked) (s := OpenSpec.ofChange Rows.reflowOneSpec) ownNone started (by kernel_rfl) Tryz.func7
  (witness_row_at (enc := enc) (C := Tryz.checked) false (laidWorld os) #[.slice none 0 0, .int .i64 0, .slice none 0 0] rfl (by kernel_rfl) (by kernel_rfl) (by kernel_rfl)
   (OpenSpec.preRow_of_cond 8 hx (by kernel_rfl) (fun k hk => by cases hk) (by kernel_rfl) (laid_met os))) ?_
 intro W base args ds gs before hval hW _ _ _ hL _ _
 exact contract H enc W base args ds gs before hval hW hL
set_option maxRecDepth 100000 in
set_option maxHeartbeats 0 in
theorem facts : joinedFacts Tryz.checked.prog 7 Tryz.f7 (OpenSpec.ofChange Rows.reflowOneSpec).bare Rows.reflowOneRow = true := by
 have h1 := Sum.tables.1
 have h2 := Sum.tables.2.1
 have h3 := Sum.tables.2.2
 have h4 := Sum.mayEnter
 have e1 : Rows.reflowOneRow.lifted = Rows.lineAllRow.lifted := by kernel_rfl
 have e2 : Rows.reflowOneRow.make = Rows.lineAllRow.make := by kernel_rfl
 have h5 : (Rows.reflowOneRow.lifted == Tryz.checked.prog.liftsFinal) = true := by rw [e1]; exact Sum.lifts
 have h6 : (Tryz.checked.prog.make == some Rows.reflowOneRow.make) = true := by rw [e2]; exact Sum.make
 unfold joinedFacts
 repeat' (with_reducible refine Sum.and_mk ?_ ?_)
 all_goals first
  | with_reducible exact h1
  | with_reducible exact h2
  | with_reducible exact h4
  | with_reducible exact h5
  | with_reducible exact h6
  | (rw [h3]; as_aux_lemma => kernel_rfl)
  | (clear h1 h2 h3 h4 h5 h6 e1 e2; as_aux_lemma => kernel_rfl)
set_option maxRecDepth 100000 in
theorem said : Rows.ReflowOneSaid :=
 OpenClaim.holds_of_cond 7 Tryz.f7 rfl rfl rfl rfl rfl rfl rfl ⟨rfl, rfl, rfl, rfl, rfl⟩ rfl rfl rfl rfl rfl (by kernel_rfl) Tryz.func7 facts
  (of_decide_eq_true (by kernel_rfl)) (by unfold Func.isWrapper; first | (rw [if_pos (by decide +kernel)]; kernel_rfl) | (rw [if_neg (by decide +kernel)]; exact ⟨rfl, rfl⟩))
  (fun os started H enc _ F => by rw [OpenClaim.pre_eq_preRow]; exact lifted os started H enc F)
set_option maxRecDepth 100000 in
theorem plain (f : FuncId) (fn : Func) (hf : Tryz.pinned.checked.prog.funcNamed "rotulus/rotuluslaw10.ReflowOne" = some f) (hfn : Tryz.pinned.checked.prog.funcs[f]? = some fn) :
  false = Tryz.pinned.checked.prog.looks [] ∧ ∀ (j : Nat) t, fn.params[j]? = some t → Tryz.pinned.checked.prog.wantsStandIn t = false := by
 obtain rfl : f = 7 := Option.some.inj ((show Tryz.prog.funcNamed "rotulus/rotuluslaw10.ReflowOne" = some 7 by kernel_rfl).symm.trans hf) |>.symm
 obtain rfl : fn = Tryz.f7 := (Option.some.inj (Tryz.func7.symm.trans hfn)).symm
 refine ⟨by kernel_rfl, fun j t ht => ?_⟩
 rw [Tryz.params7] at ht
 have hm := Array.mem_of_getElem? ht
 simp at hm
 rcases hm with rfl | rfl | rfl
 ·exact (show Tryz.prog.wantsStandIn 22 = false by kernel_rfl)
 ·exact (show Tryz.prog.wantsStandIn 3 = false by kernel_rfl)
 ·exact (show Tryz.prog.wantsStandIn 38 = false by kernel_rfl)
set_option maxRecDepth 100000 in
theorem card : Rows.ReflowOneCardSaid :=
 Claim7.holds_tied_plain_at .later [] _ _ _ _ said (fun _ h => by cases h) (by kernel_rfl) (fun _ h => by cases h) reflowOne_row_tie rfl ⟨rfl, rfl⟩ (by kernel_rfl) rfl plain (by kernel_rfl)
end Go.Proofs.YtgmijnnhanpocaaGreatDoor.reflowOne
