/-
  The statement BaseLen: four signs for each three bytes, of which as many are fills as bytes are missing to three. For every text (of which the statement takes the first hundred bytes); it holds where the table of widths is as its initialiser lays it, which the card ties to the program's text.
-/
import Derived.Test.YtgmijnnhanpocabGreatDoorQNEvZ0
import Derived.Test.YtgmijnnhanpocabGreatDoorQNBase0
import Derived.Test.YtgmijnnhanpocabGreatDoorQNBase1
namespace Go.Proofs.YtgmijnnhanpocabGreatDoor.baseLen
open Go.ChangeShapes Go.WideShapes Go.ChangeAt Go.RowKit
open BM
theorem count_next {l : List Nat} {k x : Nat} (h : l[k]? = some x) : (l.take (k + 1)).count 61 = (l.take k).count 61 + if x = 61 then 1 else 0 := by
 obtain ⟨h1, h2⟩ := List.getElem?_eq_some_iff.1 h
 rw [List.take_succ_eq_append_getElem h1, h2, List.count_append]
 congr 1
 by_cases e : x = 61
 ·subst e; rfl
 ·rw [if_neg e]; exact List.count_eq_zero.2 (by simp; omega)
set_option maxRecDepth 100000 in
set_option maxHeartbeats 6400000 in
theorem walk (s0 : ByteArray) (_ : s0.size ≤ 9223372036854775807) (w : World) (hs : Spans w) :
  Calls Tryz.prog 5 #[.string s0] w fun e w' => e = .returned (.bool true) ∧ Below w.heap.size w w' := by
 have S := Lib.hid hs
 clear hs
 go_enter Tryz.func5, Tryz.ntmps5
 go_wp2_with fail
 refine (Ev.Trues.at Ev.begun14 w S.out).mono ?_
 rintro e w1 ⟨rfl, b1⟩
 have B1 := Lib.hid b1
 have SW := Lib.hid (short_walk s0 100 w1)
 have SL := Lib.hid (shortS_size s0 100)
 clear b1
 go_wp2_with fail
 refine SW.out.mono ?_
 rintro e w2 ⟨rfl, rfl⟩
 generalize shortS s0 100 = s at SL ⊢
 have PW := Lib.hid (put_walk s w1 (by have := SL.out; omega))
 clear SW
 go_wp2_with fail
 refine PW.out.mono ?_
 rintro e w2 ⟨rfl, b2⟩
 have B2 := Lib.hid (B1.out.trans (b2.mono B1.out.size))
 have CP := Lib.hid (putL_count (bts s))
 obtain ⟨P, hP⟩ : ∃ P, putL (bts s) = P := ⟨_, rfl⟩
 have PLn := Lib.hid (putL_len (bts s))
 have PB := Lib.hid (putL_byt (bts s))
 rw [hP] at CP PLn PB
 rw [hP]
 obtain ⟨p, hp⟩ : ∃ p, txt P = p := ⟨_, rfl⟩
 have BP := Lib.hid (show bts p = P from by rw [← hp]; exact bts_txt PB.out)
 rw [hp]
 obtain ⟨n, hn⟩ : ∃ n, p.size = n := ⟨_, rfl⟩
 obtain ⟨m, hm⟩ : ∃ m, s.size = m := ⟨_, rfl⟩
 have HN := Lib.hid hn
 have HM := Lib.hid hm
 have LN := Lib.hid (show n = (m + 2) / 3 * 4 from by rw [← hn, ← bts_len, BP.out, PLn.out, bts_len, hm])
 have CN := Lib.hid (show (P.take n).count 61 = (3 - m % 3) % 3 from by rw [List.take_of_length_le (by rw [← BP.out, bts_len, hn]; exact Nat.le_refl _), CP.out, bts_len, hm])
 have hm100 : m ≤ 100 := by have := SL.out; omega
 have hn200 : n ≤ 200 := by have := LN.out; omega
 clear hP hp b2 PW PLn CP
 go_wp2_with fail
 go_loopw [5, 6] (fun c i wr => ∃ k : Nat, c = .int .i64 (((P.take k).count 61 : Nat) : Int) ∧ i = .int .i64 (k : Int) ∧ k ≤ n ∧ w2 = wr) (fun _ i _ => n - (intOf i).toNat)
 case atStart => exact ⟨0, rfl, rfl, Nat.zero_le _, rfl⟩
 case round =>
  obtain ⟨k, rfl, rfl, hk, rfl⟩ := hrel
  by_cases hlt : k < n
  ·have hg : k < p.size := by rw [HN.out]; exact hlt
   obtain ⟨y, hy⟩ : ∃ y, (p[k]'hg).toNat = y := ⟨_, rfl⟩
   have hgt : ∀ h : k < p.size, (p[k]'h).toNat = y := fun _ => hy
   have NX := Lib.hid (count_next (show P[k]? = some y from by rw [← BP.out, bts_at p k hg, hy]))
   have hlt' : (k : Int) < (n : Int) := by omega
   have k0 : (0 : Int) ≤ (k : Int) := by omega
   have hc : (P.take k).count 61 ≤ 200 := by
    have h1 := List.count_le_length (a := 61) (l := P.take k)
    rw [List.length_take] at h1
    omega
   generalize (P.take k).count 61 = c at NX hc
   have hcw : IntKind.i64.wrap ((c : Int) + 1) = (c : Int) + 1 := IntWalk.i64_in _ (by omega)
   clear hy
   by_cases h61 : y = 61
   ·subst h61
    go_wp2_with fail
    go_roundw
    case rel => exact ⟨k + 1, by rw [NX.out]; go_num, by go_num, by omega, by trivial⟩
    case measure => first | (simp [intOf]; done) | (simp [intOf]; omega)
   ·have h61' : ((y : Int) == 61) = false := by simp; omega
    have h61'' : ¬ (y : Int) = 61 := by omega
    have NX2 := Lib.hid (show (P.take (k + 1)).count 61 = c from by rw [NX.out, if_neg h61]; rfl)
    go_wp2_with fail
    go_roundw
    case rel => exact ⟨k + 1, by rw [NX2.out], by go_num, by omega, by trivial⟩
    case measure => first | (simp [intOf]; done) | (simp [intOf]; omega)
  ·obtain rfl : k = n := by omega
   have hnl : ¬ (k : Int) < (k : Int) := by omega
   rw [CN.out]
   obtain ⟨t, ht⟩ : ∃ t : Nat, (3 - m % 3) % 3 = t := ⟨_, rfl⟩
   have e1 : ((m : Int) + 2) / 3 * 4 = (k : Int) := by have := LN.out; omega
   have e2 : ((3 : Int) - (m : Int) % 3) % 3 = (t : Int) := by omega
   rw [ht]
   trace_state
   go_wp2_with fail
   go_ret
   exact ⟨rfl, B2.out⟩
set_option maxRecDepth 100000 in
theorem contract (H : Type) (enc : TypeId × Value → H) (W : World) (base : Nat) (args : Array Value) (ds gs : List (DataW H)) (before : List MemPlace)
  (hval : ∀ (j : Nat) t v, Tryz.f5.params[j]? = some t → args[j]? = some v → Value.okWide Tryz.prog W .any base t v)
  (hW : DataW.Whole enc Tryz.prog Tryz.f5.params.toList Rows.baseLenSpec.vars false W args.toList ds gs before) (hL : laidMetH Tryz.prog Rows.baseLenRow.laid W) :
  Calls Tryz.prog 5 args W fun e W' => ∃ v, e = .returned v ∧ Rows.baseLenSpec.post enc Tryz.prog Tryz.f5 false true false false W args v W' := by
 have hW' := hW
 obtain ⟨p, q, hA0, hV, rfl, hfz, hnd⟩ := hW
 have hA : DataW.TrodAll enc Tryz.prog W 0 (fun _ => true) true Tryz.f5.params.toList args.toList ds p := hA0
 rw [Tryz.params5] at hA hval
 obtain ⟨v0, vs0, d0, ds0, p0, q0, hargs, rfl, rfl, h0, r0⟩ := trodAll_cons hA
 obtain ⟨rfl, rfl, rfl⟩ := trodAll_nil r0
 obtain rfl : args = #[v0] := by cases args; simp_all
 obtain ⟨rfl, rfl⟩ := trodVars_none hV
 obtain ⟨x, rfl, rfl, rfl, wx⟩ := Go.ChangeMaps.open_string Tryz.underlying9 (hval 0 9 v0 rfl rfl) h0
 clear hA0
 refine (walk x wx W (spans_of hL) ).mono fun e W' ⟨he, hg⟩ => ?_
 subst he
 exact ⟨_, rfl, close rfl hW' ⟨rfl, rfl, rfl⟩ (by kernel_rfl) (by kernel_rfl) hg⟩
set_option maxRecDepth 100000 in
theorem laid_met (os : Os) : laidMet Tryz.prog Rows.baseLenRow.laid ((laidWorld os).forCall (fun _ _ => 0) ⟨#[], #[.string .empty], []⟩).memory :=
 laidMet_of_run' 8 (by kernel_rfl) (by kernel_rfl)
set_option maxRecDepth 100000 in
theorem reads (os : Os) {H : Type} (enc : TypeId × Value → H) : ∃ places, DataW.whole enc Tryz.prog ((laidWorld os).forCall (fun _ _ => 0) ⟨#[], #[.string .empty], []⟩).memory Tryz.f5.params.toList Rows.baseLenSpec.vars false (#[.string .empty] : Array Value).toList 8 = some ([.lit (.string [])], [], places) :=
 ⟨[], by kernel_rfl⟩
set_option maxRecDepth 100000 in
theorem lifted (os : Os) (started : os.Started) (H : Type) (enc : TypeId × Value → H) (F : Stop.Interp) :
  ReturnsInHanded {} Tryz.checked os 5 .any ((OpenSpec.ofChange Rows.baseLenSpec).preRow enc Tryz.prog Tryz.f5 Rows.baseLenRow.domain false Rows.baseLenRow.laid) (((OpenSpec.ofChange Rows.baseLenSpec).at F).post enc Tryz.prog Tryz.f5 false true false false) := by
 obtain ⟨places, hx⟩ := reads os enc
 refine returnsInHanded_of_row (C := Tryz.checked) (s := OpenSpec.ofChange Rows.baseLenSpec) ownNone started (by kernel_rfl) Tryz.func5
  (witness_row_at (enc := enc) (C := Tryz.checked) false (laidWorld os) #[.string .empty] rfl (by kernel_rfl) (by kernel_rfl) (by kernel_rfl)
   (OpenSpec.preRow_of_cond 8 hx (by kernel_rfl) (fun k hk => by cases hk) (by kernel_rfl) (laid_met os))) ?_
 intro W base args ds gs before hval hW _ _ _ hL _ _
 exact contract H enc W base args ds gs before hval hW hL
set_option maxRecDepth 100000 in
set_option maxHeartbeats 0 in
theorem facts : joinedFacts Tryz.checked.prog 5 Tryz.f5 (OpenSpec.ofChange Rows.baseLenSpec).bare Rows.baseLenRow = true := by
 have h1 := Sum.tables.1
 have h2 := Sum.tables.2.1
 have h3 := Sum.tables.2.2
 have h4 := Sum.mayEnter
 have e1 : Rows.baseLenRow.lifted = Rows.baseAllRow.lifted := by kernel_rfl
 have e2 : Rows.baseLenRow.make = Rows.baseAllRow.make := by kernel_rfl
 have h5 : (Rows.baseLenRow.lifted == Tryz.checked.prog.liftsFinal) = true := by rw [e1]; exact Sum.lifts
 have h6 : (Tryz.checked.prog.make == some Rows.baseLenRow.make) = true := by rw [e2]; exact Sum.make
 unfold joinedFacts
 repeat' (with_reducible refine Sum.and_mk ?_ ?_)
 all_goals first
  | with_reducible exact h1
  | with_reducible exact h2
  | with_reducible exact h4
  | with_reducible exact h5
  | with_reducible exact h6
  | (rw [h3]; as_aux_lemma => kernel_rfl)
  | (clear h1 h2 h3 h4 h5 h6 e1 e2; as_aux_lemma => kernel_rfl)
set_option maxRecDepth 100000 in
theorem said : Rows.BaseLenSaid :=
 OpenClaim.holds_of_cond 5 Tryz.f5 rfl rfl rfl rfl rfl rfl rfl ⟨rfl, rfl, rfl, rfl, rfl⟩ rfl rfl rfl rfl rfl (by kernel_rfl) Tryz.func5 facts
  (of_decide_eq_true (by kernel_rfl)) (by unfold Func.isWrapper; first | (rw [if_pos (by decide +kernel)]; kernel_rfl) | (rw [if_neg (by decide +kernel)]; exact ⟨rfl, rfl⟩))
  (fun os started H enc _ F => by rw [OpenClaim.pre_eq_preRow]; exact lifted os started H enc F)
set_option maxRecDepth 100000 in
theorem plain (f : FuncId) (fn : Func) (hf : Tryz.pinned.checked.prog.funcNamed "rotulus/rotuluslaw14.BaseLen" = some f) (hfn : Tryz.pinned.checked.prog.funcs[f]? = some fn) :
  false = Tryz.pinned.checked.prog.looks [] ∧ ∀ (j : Nat) t, fn.params[j]? = some t → Tryz.pinned.checked.prog.wantsStandIn t = false := by
 obtain rfl : f = 5 := Option.some.inj ((show Tryz.prog.funcNamed "rotulus/rotuluslaw14.BaseLen" = some 5 by kernel_rfl).symm.trans hf) |>.symm
 obtain rfl : fn = Tryz.f5 := (Option.some.inj (Tryz.func5.symm.trans hfn)).symm
 refine ⟨by kernel_rfl, fun j t ht => ?_⟩
 rw [Tryz.params5] at ht
 have hm := Array.mem_of_getElem? ht
 simp at hm
 subst hm
 exact (show Tryz.prog.wantsStandIn 9 = false by kernel_rfl)
set_option maxRecDepth 100000 in
theorem card : Rows.BaseLenCardSaid :=
 Claim7.holds_tied_plain_at .later [] _ _ _ _ said (fun _ h => by cases h) (by kernel_rfl) (fun _ h => by cases h) baseLen_row_tie rfl ⟨rfl, rfl⟩ (by kernel_rfl) rfl plain (by kernel_rfl)
end Go.Proofs.YtgmijnnhanpocabGreatDoor.baseLen
