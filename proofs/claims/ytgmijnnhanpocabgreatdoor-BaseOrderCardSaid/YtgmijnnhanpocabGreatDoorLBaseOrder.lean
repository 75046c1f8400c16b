/-
  The statement BaseOrder: unlike bytes have unlike signs, the code's are the reference's, and a text's signs begin with those of its whole threes. For every two texts (of which the statement takes the first forty bytes); it holds where the table of widths is as its initialiser lays it, which the card ties to the program's text.
-/
import Derived.Test.YtgmijnnhanpocabGreatDoorQBEvZ0
import Derived.Test.YtgmijnnhanpocabGreatDoorQBBase0
import Derived.Test.YtgmijnnhanpocabGreatDoorQBBase2
namespace Go.Proofs.YtgmijnnhanpocabGreatDoor.baseOrder
open Go.ChangeShapes Go.WideShapes Go.ChangeAt Go.RowKit
open BM
def putS (u : ByteArray) : ByteArray := txt (putL (bts u))
theorem list_same (l : List UInt8) : (l == l) = true := by simp
theorem eq_iff {a b c d : ByteArray} (h : a = b ↔ c = d) : (a.toList == b.toList) = (c.toList == d.toList) := by
 by_cases e : a = b
 ·rw [e, h.1 e, list_same, list_same]
 ·rw [txt_ne e, txt_ne (fun k => e (h.2 k))]
theorem putS_inj {a b : ByteArray} : putS a = putS b ↔ a = b := by
 refine ⟨fun h => ?_, fun h => by rw [h]⟩
 have h1 := congrArg bts h
 unfold putS at h1
 rw [bts_txt (putL_byt _), bts_txt (putL_byt _)] at h1
 exact bts_inj (put_inj (bts_byt a) (bts_byt b) h1)
theorem putL_head (l : List Nat) (q : Nat) (h : 3 * q ≤ l.length) : (putL l).take (4 * q) = putL (l.take (3 * q)) := by
 have h1 : (l.take (3 * q)).length = 3 * q := by rw [List.length_take]; omega
 have h2 := putL_len (l.take (3 * q))
 rw [h1] at h2
 conv => lhs; rw [← List.take_append_drop (3 * q) l]
 rw [putL_append q _ _ h1, List.take_append_of_le_length (by omega), List.take_of_length_le (by omega)]
theorem putS_size (a : ByteArray) : (putS a).size = (a.size + 2) / 3 * 4 := by unfold putS; rw [txt_size, putL_len, bts_len]
theorem putS_head (a : ByteArray) (q : Nat) (h : 3 * q ≤ a.size) : (putS a).extract 0 (4 * q) = putS (a.extract 0 (3 * q)) := by
 refine bts_inj ?_
 unfold putS
 rw [bts_ext, bts_txt (putL_byt _), bts_txt (putL_byt _), bts_ext, Nat.sub_zero, Nat.sub_zero, List.drop_zero, List.drop_zero]
 exact putL_head _ _ (by rw [bts_len]; exact h)
set_option maxRecDepth 100000 in
set_option maxHeartbeats 6400000 in
theorem walk (s0 : ByteArray) (_ : s0.size ≤ 9223372036854775807) (t0 : ByteArray) (_ : t0.size ≤ 9223372036854775807) (w : World) (hs : Spans w) :
  Calls Tryz.prog 7 #[.string s0, .string t0] w fun e w' => e = .returned (.bool true) ∧ Below w.heap.size w w' := by
 have S := Lib.hid hs
 clear hs
 go_enter Tryz.func7, Tryz.ntmps7
 go_wp2_with fail
 refine (Ev.Trues.at Ev.begun14 w S.out).mono ?_
 rintro e w1 ⟨rfl, b1⟩
 have B1 := Lib.hid b1
 have SW := Lib.hid (short_walk s0 40 w1)
 have SL := Lib.hid (shortS_size s0 40)
 have TW := Lib.hid (short_walk t0 40 w1)
 have TL := Lib.hid (shortS_size t0 40)
 clear b1
 go_wp2_with fail
 refine SW.out.mono ?_
 rintro e w2 ⟨rfl, rfl⟩
 go_wp2_with fail
 refine TW.out.mono ?_
 rintro e w2 ⟨rfl, rfl⟩
 generalize shortS s0 40 = a at SL ⊢
 generalize shortS t0 40 = b at TL ⊢
 have PA := Lib.hid (show ∀ W, Calls Tryz.prog 13 #[.string a] W fun e w' => e = .returned (.string (putS a)) ∧ Below W.heap.size W w' from fun W => by
  have h := refPut_walk a W (by have := SL.out; omega)
  rw [refPut_is _ (bts_byt a)] at h
  exact h)
 have PB := Lib.hid (show ∀ W, Calls Tryz.prog 13 #[.string b] W fun e w' => e = .returned (.string (putS b)) ∧ Below W.heap.size W w' from fun W => by
  have h := refPut_walk b W (by have := TL.out; omega)
  rw [refPut_is _ (bts_byt b)] at h
  exact h)
 clear SW TW
 go_wp2_with fail
 refine (PA.out _).mono ?_
 rintro e w2 ⟨rfl, b2⟩
 have B2 := Lib.hid (B1.out.trans (b2.mono B1.out.size))
 clear b2
 go_wp2_with fail
 refine (PB.out _).mono ?_
 rintro e w3 ⟨rfl, b3⟩
 have B3 := Lib.hid (B2.out.trans (b3.mono B2.out.size))
 have PW := Lib.hid (put_walk a w3 (by have := SL.out; omega))
 obtain ⟨n, hn⟩ : ∃ n, a.size = n := ⟨_, rfl⟩
 have hn40 : n ≤ 40 := by rw [← hn]; exact SL.out
 obtain ⟨q, hq⟩ : ∃ q, n / 3 = q := ⟨_, rfl⟩
 have hqi : (n : Int) / 3 = (q : Int) := by omega
 obtain ⟨k, hk⟩ : ∃ k, q * 3 = k := ⟨_, rfl⟩
 have hki : (q : Int) * 3 = (k : Int) := by omega
 clear b3 PA PB
 go_wp2_with fail
 refine PW.out.mono ?_
 rintro e w4 ⟨rfl, b4⟩
 have B4 := Lib.hid (B3.out.trans (b4.mono B3.out.size))
 rw [show txt (putL (bts a)) = putS a from rfl]
 obtain ⟨J, hJ, F, h0, hB, hN⟩ := ClsB.below w4
 have HBn := Lib.hid hB
 have C := fun (u : ByteArray) (z : J) (hu : u = b ∨ u = a.extract 0 k) => (put_walk u (F z) (by
  rcases hu with rfl | rfl
  ·have := TL.out; omega
  ·rw [ByteArray.size_extract]; have := SL.out; omega)).mono fun e w' (h : e = .returned (.string (txt (putL (bts u)))) ∧ Below (F z).heap.size (F z) w') => (⟨h.1, hN z w' h.2⟩ : e = .returned (.string (putS u)) ∧ ∃ m, w' = F m)
 have hk3 : 3 * q = k := by omega
 obtain ⟨k4, hk4⟩ : ∃ k4, q * 4 = k4 := ⟨_, rfl⟩
 have hki4 : (q : Int) * 4 = (k4 : Int) := by omega
 have hkd : (k : Int) / 3 = (q : Int) := by omega
 have hkd2 : (k : Int).tdiv 3 = (q : Int) := by rw [Int.tdiv_eq_ediv_of_nonneg (by omega)]; exact hkd
 have f1 : ((putS a).toList == (putS b).toList) = (a.toList == b.toList) := eq_iff putS_inj
 have f2 : ∀ l : List UInt8, (l == l) = true := list_same
 have f3 : ((putS a).extract 0 k4) = putS (a.extract 0 k) := by
  have h := putS_head a q (by rw [hn]; omega)
  rw [hk3, show 4 * q = k4 by omega] at h
  exact h
 obtain ⟨z, hz⟩ : ∃ z, (putS a).size = z := ⟨_, rfl⟩
 have hz2 : k4 ≤ z := by rw [← hz, putS_size, hn]; omega
 have hz3 : (k4 : Int) ≤ (z : Int) := by omega
 have hkn : k ≤ n := by omega
 have f4 : ∀ x : Bool, (x == x) = true := fun x => by cases x <;> rfl
 clear b4 PW hB hN hq hk hk4
 go_wp2_with fail
 refine ClsB.region F h0 (by kernel_rfl) (by kernel_rfl) ?_
 repeat (go_big_quiet_step ((go_at_call 10; exact C _ _ (by first | exact .inl rfl | exact .inr rfl))))
 trace_state
 refine wpQuiet_nil ?_
 intro _ hw'
 obtain ⟨nq, hw''⟩ := hw'
 subst hw''
 go_wp2
 go_ret
 exact ⟨rfl, B4.out.trans ((HBn.out nq).mono B4.out.size)⟩
set_option maxRecDepth 100000 in
theorem contract (H : Type) (enc : TypeId × Value → H) (W : World) (base : Nat) (args : Array Value) (ds gs : List (DataW H)) (before : List MemPlace)
  (hval : ∀ (j : Nat) t v, Tryz.f7.params[j]? = some t → args[j]? = some v → Value.okWide Tryz.prog W .any base t v)
  (hW : DataW.Whole enc Tryz.prog Tryz.f7.params.toList Rows.baseOrderSpec.vars false W args.toList ds gs before) (hL : laidMetH Tryz.prog Rows.baseOrderRow.laid W) :
  Calls Tryz.prog 7 args W fun e W' => ∃ v, e = .returned v ∧ Rows.baseOrderSpec.post enc Tryz.prog Tryz.f7 false true false false W args v W' := by
 have hW' := hW
 obtain ⟨p, q, hA0, hV, rfl, hfz, hnd⟩ := hW
 have hA : DataW.TrodAll enc Tryz.prog W 0 (fun _ => true) true Tryz.f7.params.toList args.toList ds p := hA0
 rw [Tryz.params7] at hA hval
 obtain ⟨v0, vs0, d0, ds0, p0, q0, hargs, rfl, rfl, h0, r0⟩ := trodAll_cons hA
 obtain ⟨v1, vs1, d1, ds1, p1, q1, rfl, rfl, rfl, h1, r1⟩ := trodAll_cons r0
 obtain ⟨rfl, rfl, rfl⟩ := trodAll_nil r1
 obtain rfl : args = #[v0, v1] := by cases args; simp_all
 obtain ⟨rfl, rfl⟩ := trodVars_none hV
 obtain ⟨x, rfl, rfl, rfl, wx⟩ := Go.ChangeMaps.open_string Tryz.underlying9 (hval 0 9 v0 rfl rfl) h0
 obtain ⟨y, rfl, rfl, rfl, wy⟩ := Go.ChangeMaps.open_string Tryz.underlying9 (hval 1 9 v1 rfl rfl) h1
 clear hA0
 refine (walk x wx y wy W (spans_of hL) ).mono fun e W' ⟨he, hg⟩ => ?_
 subst he
 exact ⟨_, rfl, close rfl hW' ⟨rfl, rfl, rfl⟩ (by kernel_rfl) (by kernel_rfl) hg⟩
set_option maxRecDepth 100000 in
theorem laid_met (os : Os) : laidMet Tryz.prog Rows.baseOrderRow.laid ((laidWorld os).forCall (fun _ _ => 0) ⟨#[], #[.string .empty, .string .empty], []⟩).memory :=
 laidMet_of_run' 8 (by kernel_rfl) (by kernel_rfl)
set_option maxRecDepth 100000 in
theorem reads (os : Os) {H : Type} (enc : TypeId × Value → H) : ∃ places, DataW.whole enc Tryz.prog ((laidWorld os).forCall (fun _ _ => 0) ⟨#[], #[.string .empty, .string .empty], []⟩).memory Tryz.f7.params.toList Rows.baseOrderSpec.vars false (#[.string .empty, .string .empty] : Array Value).toList 8 = some ([.lit (.string []), .lit (.string [])], [], places) :=
 ⟨[], by kernel_rfl⟩
set_option maxRecDepth 100000 in
theorem lifted (os : Os) (started : os.Started) (H : Type) (enc : TypeId × Value → H) (F : Stop.Interp) :
  ReturnsInHanded {} Tryz.checked os 7 .any ((OpenSpec.ofChange Rows.baseOrderSpec).preRow enc Tryz.prog Tryz.f7 Rows.baseOrderRow.domain false Rows.baseOrderRow.laid) (((OpenSpec.ofChange Rows.baseOrderSpec).at F).post enc Tryz.prog Tryz.f7 false true false false) := by
 obtain ⟨places, hx⟩ := reads os enc
 refine returnsInHanded_of_row (C := Tryz.checked) (s := OpenSpec.ofChange Rows.baseOrderSpec) ownNone started (by kernel_rfl) Tryz.func7
  (witness_row_at (enc := enc) (C := Tryz.checked) false (laidWorld os) #[.string .empty, .string .empty] rfl (by kernel_rfl) (by kernel_rfl) (by kernel_rfl)
   (OpenSpec.preRow_of_cond 8 hx (by kernel_rfl) (fun k hk => by cases hk) (by kernel_rfl) (laid_met os))) ?_
 intro W base args ds gs before hval hW _ _ _ hL _ _
 exact contract H enc W base args ds gs before hval hW hL
set_option maxRecDepth 100000 in
set_option maxHeartbeats 0 in
theorem facts : joinedFacts Tryz.checked.prog 7 Tryz.f7 (OpenSpec.ofChange Rows.baseOrderSpec).bare Rows.baseOrderRow = true := by
 have h1 := Sum.tables.1
 have h2 := Sum.tables.2.1
 have h3 := Sum.tables.2.2
 have h4 := Sum.mayEnter
 have e1 : Rows.baseOrderRow.lifted = Rows.baseAllRow.lifted := by kernel_rfl
 have e2 : Rows.baseOrderRow.make = Rows.baseAllRow.make := by kernel_rfl
 have h5 : (Rows.baseOrderRow.lifted == Tryz.checked.prog.liftsFinal) = true := by rw [e1]; exact Sum.lifts
 have h6 : (Tryz.checked.prog.make == some Rows.baseOrderRow.make) = true := by rw [e2]; exact Sum.make
 unfold joinedFacts
 repeat' (with_reducible refine Sum.and_mk ?_ ?_)
 all_goals first
  | with_reducible exact h1
  | with_reducible exact h2
  | with_reducible exact h4
  | with_reducible exact h5
  | with_reducible exact h6
  | (rw [h3]; as_aux_lemma => kernel_rfl)
  | (clear h1 h2 h3 h4 h5 h6 e1 e2; as_aux_lemma => kernel_rfl)
set_option maxRecDepth 100000 in
theorem said : Rows.BaseOrderSaid :=
 OpenClaim.holds_of_cond 7 Tryz.f7 rfl rfl rfl rfl rfl rfl rfl ⟨rfl, rfl, rfl, rfl, rfl⟩ rfl rfl rfl rfl rfl (by kernel_rfl) Tryz.func7 facts
  (of_decide_eq_true (by kernel_rfl)) (by unfold Func.isWrapper; first | (rw [if_pos (by decide +kernel)]; kernel_rfl) | (rw [if_neg (by decide +kernel)]; exact ⟨rfl, rfl⟩))
  (fun os started H enc _ F => by rw [OpenClaim.pre_eq_preRow]; exact lifted os started H enc F)
set_option maxRecDepth 100000 in
theorem plain (f : FuncId) (fn : Func) (hf : Tryz.pinned.checked.prog.funcNamed "rotulus/rotuluslaw14.BaseOrder" = some f) (hfn : Tryz.pinned.checked.prog.funcs[f]? = some fn) :
  false = Tryz.pinned.checked.prog.looks [] ∧ ∀ (j : Nat) t, fn.params[j]? = some t → Tryz.pinned.checked.prog.wantsStandIn t = false := by
 obtain rfl : f = 7 := Option.some.inj ((show Tryz.prog.funcNamed "rotulus/rotuluslaw14.BaseOrder" = some 7 by kernel_rfl).symm.trans hf) |>.symm
 obtain rfl : fn = Tryz.f7 := (Option.some.inj (Tryz.func7.symm.trans hfn)).symm
 refine ⟨by kernel_rfl, fun j t ht => ?_⟩
 rw [Tryz.params7] at ht
 have hm := Array.mem_of_getElem? ht
 simp at hm
 subst hm
 exact (show Tryz.prog.wantsStandIn 9 = false by kernel_rfl)
set_option maxRecDepth 100000 in
theorem card : Rows.BaseOrderCardSaid :=
 Claim7.holds_tied_plain_at .later [] _ _ _ _ said (fun _ h => by cases h) (by kernel_rfl) (fun _ h => by cases h) baseOrder_row_tie rfl ⟨rfl, rfl⟩ (by kernel_rfl) rfl plain (by kernel_rfl)
end Go.Proofs.YtgmijnnhanpocabGreatDoor.baseOrder
