/-
  The statement BaseAll: any bytes as sixty-four signs are the reference's, and come back; of any text the code and the reference tell the same. For every two texts (of which the statement takes the first sixty and forty bytes); it holds where the table of widths is as its initialiser lays it, which the card ties to the program's text.
-/
import Derived.Test.YtgmijnnhanpocabGreatDoorQBEvZ0
import Derived.Test.YtgmijnnhanpocabGreatDoorQBBase0
import Derived.Test.YtgmijnnhanpocabGreatDoorQBBase2
namespace Go.Proofs.YtgmijnnhanpocabGreatDoor.baseAll
open Go.ChangeShapes Go.WideShapes Go.ChangeAt Go.RowKit
open BM
theorem getV_some (l : List Nat) : ∃ (Y : ByteArray) (b : Bool), getV l = .tuple #[.string Y, .bool b] := by
 unfold getV
 split
 ·exact ⟨_, _, rfl⟩
 ·exact ⟨_, _, rfl⟩
theorem list_same (l : List UInt8) : (l == l) = true := by simp
set_option maxRecDepth 100000 in
set_option maxHeartbeats 6400000 in
theorem walk (s0 : ByteArray) (_ : s0.size ≤ 9223372036854775807) (t0 : ByteArray) (_ : t0.size ≤ 9223372036854775807) (w : World) (hs : Spans w) :
  Calls Tryz.prog 3 #[.string s0, .string t0] w fun e w' => e = .returned (.bool true) ∧ Below w.heap.size w w' := by
 have S := Lib.hid hs
 clear hs
 go_enter Tryz.func3, Tryz.ntmps3
 go_wp2_with fail
 refine (Ev.Trues.at Ev.begun14 w S.out).mono ?_
 rintro e w1 ⟨rfl, b1⟩
 have B1 := Lib.hid b1
 have SW := Lib.hid (short_walk s0 60 w1)
 have SL := Lib.hid (shortS_size s0 60)
 have TW := Lib.hid (short_walk t0 40 w1)
 have TL := Lib.hid (shortS_size t0 40)
 clear b1
 go_wp2_with fail
 refine SW.out.mono ?_
 rintro e w2 ⟨rfl, rfl⟩
 go_wp2_with fail
 refine TW.out.mono ?_
 rintro e w2 ⟨rfl, rfl⟩
 generalize shortS s0 60 = s at SL ⊢
 generalize shortS t0 40 = t at TL ⊢
 have PW := Lib.hid (put_walk s w1 (by have := SL.out; omega))
 clear SW TW
 go_wp2_with fail
 refine PW.out.mono ?_
 rintro e w2 ⟨rfl, b2⟩
 have B2 := Lib.hid (B1.out.trans (b2.mono B1.out.size))
 have PL := Lib.hid (show (txt (putL (bts s))).size ≤ 1000 from by rw [txt_size, putL_len, bts_len]; have := SL.out; omega)
 have GV := Lib.hid (show getV (bts (txt (putL (bts s)))) = .tuple #[.string s, .bool true] from by
  unfold getV
  rw [bts_txt (putL_byt _), get_put (bts_byt s)]
  simp only [txt_bts])
 have RP := Lib.hid (show txt (refPut (bts s)) = txt (putL (bts s)) from by rw [refPut_is _ (bts_byt s)])
 obtain ⟨P, hP⟩ : ∃ P, txt (putL (bts s)) = P := ⟨_, rfl⟩
 rw [hP] at PL GV RP ⊢
 have GW := Lib.hid (get_walk P w2 (by have := PL.out; omega))
 rw [GV.out] at GW
 clear b2 PW hP
 go_wp2_with fail
 refine GW.out.mono ?_
 rintro e w3 ⟨rfl, b3⟩
 have B3 := Lib.hid (B2.out.trans (b3.mono B2.out.size))
 obtain ⟨Y, yb, hY⟩ := getV_some (bts t)
 have GT := Lib.hid (get_walk t w3 (by have := TL.out; omega))
 rw [hY] at GT
 clear b3 GW
 go_wp2_with fail
 refine GT.out.mono ?_
 rintro e w4 ⟨rfl, b4⟩
 have B4 := Lib.hid (B3.out.trans (b4.mono B3.out.size))
 have RT := Lib.hid (refGet_walk t w4 (by have := TL.out; omega))
 rw [hY] at RT
 clear b4 GT hY
 go_wp2_with fail
 refine RT.out.mono ?_
 rintro e w5 ⟨rfl, b5⟩
 have B5 := Lib.hid (B4.out.trans (b5.mono B4.out.size))
 have RW := Lib.hid (refPut_walk s w5 (by have := SL.out; omega))
 rw [RP.out] at RW
 have BE : ∀ b : Bool, (b == b) = true := fun b => by cases b <;> rfl
 clear b5 RT
 go_wp2_with fail
 refine RW.out.mono ?_
 rintro e w6 ⟨rfl, b6⟩
 have B6 := Lib.hid (B5.out.trans (b6.mono B5.out.size))
 clear b6 RW
 go_wp2_with fail
 trace_state
 go_ret
 exact ⟨rfl, B6.out⟩
set_option maxRecDepth 100000 in
theorem contract (H : Type) (enc : TypeId × Value → H) (W : World) (base : Nat) (args : Array Value) (ds gs : List (DataW H)) (before : List MemPlace)
  (hval : ∀ (j : Nat) t v, Tryz.f3.params[j]? = some t → args[j]? = some v → Value.okWide Tryz.prog W .any base t v)
  (hW : DataW.Whole enc Tryz.prog Tryz.f3.params.toList Rows.baseAllSpec.vars false W args.toList ds gs before) (hL : laidMetH Tryz.prog Rows.baseAllRow.laid W) :
  Calls Tryz.prog 3 args W fun e W' => ∃ v, e = .returned v ∧ Rows.baseAllSpec.post enc Tryz.prog Tryz.f3 false true false false W args v W' := by
 have hW' := hW
 obtain ⟨p, q, hA0, hV, rfl, hfz, hnd⟩ := hW
 have hA : DataW.TrodAll enc Tryz.prog W 0 (fun _ => true) true Tryz.f3.params.toList args.toList ds p := hA0
 rw [Tryz.params3] at hA hval
 obtain ⟨v0, vs0, d0, ds0, p0, q0, hargs, rfl, rfl, h0, r0⟩ := trodAll_cons hA
 obtain ⟨v1, vs1, d1, ds1, p1, q1, rfl, rfl, rfl, h1, r1⟩ := trodAll_cons r0
 obtain ⟨rfl, rfl, rfl⟩ := trodAll_nil r1
 obtain rfl : args = #[v0, v1] := by cases args; simp_all
 obtain ⟨rfl, rfl⟩ := trodVars_none hV
 obtain ⟨x, rfl, rfl, rfl, wx⟩ := Go.ChangeMaps.open_string Tryz.underlying9 (hval 0 9 v0 rfl rfl) h0
 obtain ⟨y, rfl, rfl, rfl, wy⟩ := Go.ChangeMaps.open_string Tryz.underlying9 (hval 1 9 v1 rfl rfl) h1
 clear hA0
 refine (walk x wx y wy W (spans_of hL) ).mono fun e W' ⟨he, hg⟩ => ?_
 subst he
 exact ⟨_, rfl, close rfl hW' ⟨rfl, rfl, rfl⟩ (by kernel_rfl) (by kernel_rfl) hg⟩
set_option maxRecDepth 100000 in
theorem laid_met (os : Os) : laidMet Tryz.prog Rows.baseAllRow.laid ((laidWorld os).forCall (fun _ _ => 0) ⟨#[], #[.string .empty, .string .empty], []⟩).memory :=
 laidMet_of_run' 8 (by kernel_rfl) (by kernel_rfl)
set_option maxRecDepth 100000 in
theorem reads (os : Os) {H : Type} (enc : TypeId × Value → H) : ∃ places, DataW.whole enc Tryz.prog ((laidWorld os).forCall (fun _ _ => 0) ⟨#[], #[.string .empty, .string .empty], []⟩).memory Tryz.f3.params.toList Rows.baseAllSpec.vars false (#[.string .empty, .string .empty] : Array Value).toList 8 = some ([.lit (.string []), .lit (.string [])], [], places) :=
 ⟨[], by kernel_rfl⟩
set_option maxRecDepth 100000 in
theorem lifted (os : Os) (started : os.Started) (H : Type) (enc : TypeId × Value → H) (F : Stop.Interp) :
  ReturnsInHanded {} Tryz.checked os 3 .any ((OpenSpec.ofChange Rows.baseAllSpec).preRow enc Tryz.prog Tryz.f3 Rows.baseAllRow.domain false Rows.baseAllRow.laid) (((OpenSpec.ofChange Rows.baseAllSpec).at F).post enc Tryz.prog Tryz.f3 false true false false) := by
 obtain ⟨places, hx⟩ := reads os enc
 refine returnsInHanded_of_row (C := Tryz.checked) (s := OpenSpec.ofChange Rows.baseAllSpec) ownNone started (by kernel_rfl) Tryz.func3
  (witness_row_at (enc := enc) (C := Tryz.checked) false (laidWorld os) #[.string .empty, .string .empty] rfl (by kernel_rfl) (by kernel_rfl) (by kernel_rfl)
   (OpenSpec.preRow_of_cond 8 hx (by kernel_rfl) (fun k hk => by cases hk) (by kernel_rfl) (laid_met os))) ?_
 intro W base args ds gs before hval hW _ _ _ hL _ _
 exact contract H enc W base args ds gs before hval hW hL
set_option maxRecDepth 100000 in
set_option maxHeartbeats 0 in
theorem facts : joinedFacts Tryz.checked.prog 3 Tryz.f3 (OpenSpec.ofChange Rows.baseAllSpec).bare Rows.baseAllRow = true := by
 have h1 := Sum.tables.1
 have h2 := Sum.tables.2.1
 have h3 := Sum.tables.2.2
 have h4 := Sum.mayEnter
 have e1 : Rows.baseAllRow.lifted = Rows.baseAllRow.lifted := by kernel_rfl
 have e2 : Rows.baseAllRow.make = Rows.baseAllRow.make := by kernel_rfl
 have h5 : (Rows.baseAllRow.lifted == Tryz.checked.prog.liftsFinal) = true := by rw [e1]; exact Sum.lifts
 have h6 : (Tryz.checked.prog.make == some Rows.baseAllRow.make) = true := by rw [e2]; exact Sum.make
 unfold joinedFacts
 repeat' (with_reducible refine Sum.and_mk ?_ ?_)
 all_goals first
  | with_reducible exact h1
  | with_reducible exact h2
  | with_reducible exact h4
  | with_reducible exact h5
  | with_reducible exact h6
  | (rw [h3]; as_aux_lemma => kernel_rfl)
  | (clear h1 h2 h3 h4 h5 h6 e1 e2; as_aux_lemma => kernel_rfl)
set_option maxRecDepth 100000 in
theorem said : Rows.BaseAllSaid :=
 OpenClaim.holds_of_cond 3 Tryz.f3 rfl rfl rfl rfl rfl rfl rfl ⟨rfl, rfl, rfl, rfl, rfl⟩ rfl rfl rfl rfl rfl (by kernel_rfl) Tryz.func3 facts
  (of_decide_eq_true (by kernel_rfl)) (by unfold Func.isWrapper; first | (rw [if_pos (by decide +kernel)]; kernel_rfl) | (rw [if_neg (by decide +kernel)]; exact ⟨rfl, rfl⟩))
  (fun os started H enc _ F => by rw [OpenClaim.pre_eq_preRow]; exact lifted os started H enc F)
set_option maxRecDepth 100000 in
theorem plain (f : FuncId) (fn : Func) (hf : Tryz.pinned.checked.prog.funcNamed "rotulus/rotuluslaw14.BaseAll" = some f) (hfn : Tryz.pinned.checked.prog.funcs[f]? = some fn) :
  false = Tryz.pinned.checked.prog.looks [] ∧ ∀ (j : Nat) t, fn.params[j]? = some t → Tryz.pinned.checked.prog.wantsStandIn t = false := by
 obtain rfl : f = 3 := Option.some.inj ((show Tryz.prog.funcNamed "rotulus/rotuluslaw14.BaseAll" = some 3 by kernel_rfl).symm.trans hf) |>.symm
 obtain rfl : fn = Tryz.f3 := (Option.some.inj (Tryz.func3.symm.trans hfn)).symm
 refine ⟨by kernel_rfl, fun j t ht => ?_⟩
 rw [Tryz.params3] at ht
 have hm := Array.mem_of_getElem? ht
 simp at hm
 subst hm
 exact (show Tryz.prog.wantsStandIn 9 = false by kernel_rfl)
set_option maxRecDepth 100000 in
theorem card : Rows.BaseAllCardSaid :=
 Claim7.holds_tied_plain_at .later [] _ _ _ _ said (fun _ h => by cases h) (by kernel_rfl) (fun _ h => by cases h) baseAll_row_tie rfl ⟨rfl, rfl⟩ (by kernel_rfl) rfl plain (by kernel_rfl)
end Go.Proofs.YtgmijnnhanpocabGreatDoor.baseAll
