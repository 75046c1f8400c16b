/-
  The statement UtfNone: with no Reader, an empty text and empty lists, nothing comes of anything: the closed checks hold. It has no argument; it holds where the table of widths is as its initialiser lays it, which the card ties to the program's text.
-/
import Derived.Test.YtbhfhkmcnomggaaDoorFrame
namespace Go.Proofs.YtbhfhkmcnomggaaDoor.utfNone
open Go.ChangeShapes Go.WideShapes Go.ChangeAt Go.RowKit

theorem all_empty : allO (octs ⟨#[]⟩) = [] := by decide
set_option maxHeartbeats 3200000 in
theorem walk (w : World) (hs : Spans w) : Calls Tryd.prog 11 #[] w fun e w' => e = .returned (.bool true) ∧ Below w.heap.size w w' := by
  have S := Lib.hid hs
  clear hs
  go_enter Tryd.func11, Tryd.ntmps11
  go_wp2_with fail
  refine (begun_walk w S.out).mono ?_
  rintro e w1 ⟨rfl, b1⟩
  have R1 := Lib.hid (And.intro (S.out.below b1 S.out.size) b1)
  clear S b1
  go_wp2_with (first
    | (go_at_call 18; refine (put_nil 65 _).mono ?_; rintro e w' ⟨rfl, rfl⟩)
    | (go_at_call 21; refine (end_nil _).mono ?_; rintro e w' ⟨rfl, rfl⟩)
    | (go_at_call 20; refine (waits_nil _).mono ?_; rintro e w' ⟨rfl, rfl⟩))
  refine (all_walk _ (by decide) _).mono ?_
  rintro e w2 ⟨vl, rfl, hl, b2⟩
  rw [all_empty] at hl
  obtain ⟨A2, c2, rfl⟩ := own_shape (show w2.ownsRow w1.heap.size 21 1 vl 0 [] from hl)
  have R2 := Lib.hid (And.intro (R1.out.1.below b2 R1.out.1.size) (R1.out.2.trans (b2.mono R1.out.2.size)))
  clear hl b2 R1
  go_wp2_with fail
  have kw := write_walk none 0 0 [] w2 (Sq.nothing w2 0 1 none)
  rw [show runesBytes [] = ⟨#[]⟩ from rfl] at kw
  refine kw.mono ?_
  clear kw
  rintro e w' ⟨rfl, rfl⟩
  go_wp2_with fail
  refine (text_walk none 0 0 [] w2 R2.out.1 (fun r h => by cases h) (by omega) (Sq.nothing w2 0 1 none)).mono ?_
  rintro e w' ⟨rfl, rfl⟩
  go_wp2_with fail
  have kt := cellText_walk none 0 0 [] w2 (by omega) (fun r h => by cases h) (Sq.nothing w2 _ 3 none)
  rw [show (textL []).toArray = #[] from rfl] at kt
  refine kt.mono ?_
  clear kt
  rintro e w3 ⟨rfl, b3⟩
  have R3 := Lib.hid (And.intro (R2.out.1.below b3 R2.out.1.size) (R2.out.2.trans (b3.mono R2.out.2.size)))
  clear b3 R2
  go_wp2_with fail
  refine (line_good none 0 0 [] w3 R3.out.1 (by omega) (fun r h => by cases h) (Sq.nothing w3 _ 3 none)).mono ?_
  rintro e w4 ⟨rfl, b4⟩
  have R4 := Lib.hid (R3.out.2.trans (b4.mono R3.out.2.size))
  clear b4 R3
  go_wp2_with fail
  refine (trim_walk none 0 0 (Nat.le_refl _) [] w4 (by omega) (Sq.nothing w4 _ 3 none)).mono ?_
  rintro e w5 ⟨v5, rfl, h5, b5⟩
  obtain ⟨A5, c5, rfl⟩ := own_shape (show w5.ownsRow w4.heap.size 50 3 v5 0 [] from h5)
  have R5 := Lib.hid (R4.out.trans (b5.mono R4.out.size))
  clear h5 b5 R4
  go_wp2
  go_ret
  exact ⟨rfl, R5.out⟩

/-- WHAT THE WALK GIVES, FOR EVERY WORLD THAT HOLDS THE TABLE. -/
theorem contract (H : Type) (enc : TypeId × Value → H) (W : World) (args : Array Value) (ds gs : List (DataW H)) (before : List MemPlace)
    (hW : DataW.Whole enc Tryd.prog Tryd.f11.params.toList Rows.utfNoneSpec.vars false W args.toList ds gs before) (hL : laidMetH Tryd.prog Rows.utfNoneRow.laid W) :
    Calls Tryd.prog 11 args W fun e W' => ∃ v, e = .returned v ∧ Rows.utfNoneSpec.post enc Tryd.prog Tryd.f11 false true false false W args v W' := by
  have hW' := hW
  obtain ⟨p, q, hA0, hV, rfl, hfz, hnd⟩ := hW
  have hA : DataW.TrodAll enc Tryd.prog W 0 (fun _ => true) true Tryd.f11.params.toList args.toList ds p := hA0
  rw [Tryd.params11] at hA
  obtain ⟨hargs, rfl, rfl⟩ := trodAll_nil hA
  obtain rfl : args = #[] := by cases args; simp_all
  obtain ⟨rfl, rfl⟩ := trodVars_none hV
  clear hA0
  simp only [List.append_nil] at hW'
  refine (walk W (spans_of hL)).mono fun e W' ⟨he, hg⟩ => ?_
  subst he
  exact ⟨_, rfl, _, _, _, [], [], [], hW', trodAll_cons_mk (shut_bool Tryd.underlying4 _) trodAll_mk0, trodAll_mk0, rfl, hg.frame _, fun h => by cases h⟩

theorem laid_met (os : Os) : laidMet Tryd.prog Rows.utfNoneRow.laid ((laidWorld os).forCall (fun _ _ => 0) ⟨#[], #[], []⟩).memory :=
  laidMet_of_run' 8 (by kernel_rfl) (by kernel_rfl)
theorem reads (os : Os) {H : Type} (enc : TypeId × Value → H) : ∃ places, DataW.whole enc Tryd.prog ((laidWorld os).forCall (fun _ _ => 0) ⟨#[], #[], []⟩).memory Tryd.f11.params.toList Rows.utfNoneSpec.vars false (#[] : Array Value).toList 8 = some ([], [], places) :=
  ⟨[], by kernel_rfl⟩

set_option maxRecDepth 100000 in
theorem lifted (os : Os) (started : os.Started) (H : Type) (enc : TypeId × Value → H) (F : Stop.Interp) :
    ReturnsInHanded {} Tryd.checked os 11 .any ((OpenSpec.ofChange Rows.utfNoneSpec).preRow enc Tryd.prog Tryd.f11 Rows.utfNoneRow.domain false Rows.utfNoneRow.laid) (((OpenSpec.ofChange Rows.utfNoneSpec).at F).post enc Tryd.prog Tryd.f11 false true false false) := by
  obtain ⟨places, hx⟩ := reads os enc
  refine returnsInHanded_of_row (C := Tryd.checked) (s := OpenSpec.ofChange Rows.utfNoneSpec) ownNone started (by kernel_rfl) Tryd.func11
    (witness_row_at (enc := enc) (C := Tryd.checked) false (laidWorld os) #[] rfl (by kernel_rfl) (by kernel_rfl) (by kernel_rfl)
      (OpenSpec.preRow_of_cond 8 hx (by kernel_rfl) (fun k hk => by cases hk) (by kernel_rfl) (laid_met os))) ?_
  intro W base args ds gs before hval hW _ _ _ hL _ _
  exact contract H enc W args ds gs before hW hL

theorem said : Rows.UtfNoneSaid :=
  OpenClaim.holds_of_cond 11 Tryd.f11 rfl rfl rfl rfl rfl rfl rfl ⟨rfl, rfl, rfl, rfl, rfl⟩ rfl rfl rfl rfl rfl (by kernel_rfl) Tryd.func11 (by kernel_rfl)
    (of_decide_eq_true (by kernel_rfl)) (by unfold Func.isWrapper; first | (rw [if_pos (by decide +kernel)]; kernel_rfl) | (rw [if_neg (by decide +kernel)]; exact ⟨rfl, rfl⟩))
    (fun os started H enc _ F => by rw [OpenClaim.pre_eq_preRow]; exact lifted os started H enc F)

/-- No parameter wants a stand-in; the program's own looks are off: what the card asks. -/
theorem plain (f : FuncId) (fn : Func) (hf : Tryd.pinned.checked.prog.funcNamed "rotulus/rotuluslaw1.UtfNone" = some f) (hfn : Tryd.pinned.checked.prog.funcs[f]? = some fn) :
    false = Tryd.pinned.checked.prog.looks [] ∧ ∀ (j : Nat) t, fn.params[j]? = some t → Tryd.pinned.checked.prog.wantsStandIn t = false := by
  obtain rfl : f = 11 := Option.some.inj ((show Tryd.prog.funcNamed "rotulus/rotuluslaw1.UtfNone" = some 11 by kernel_rfl).symm.trans hf) |>.symm
  obtain rfl : fn = Tryd.f11 := (Option.some.inj (Tryd.func11.symm.trans hfn)).symm
  refine ⟨by kernel_rfl, fun j t ht => ?_⟩
  rw [Tryd.params11] at ht
  simp at ht

/-- THE CARD. -/
theorem card : Rows.UtfNoneCardSaid :=
  Claim7.holds_tied_plain_at .later [] _ _ _ _ said (fun _ h => by cases h) (by kernel_rfl) (fun _ h => by cases h) utfNone_row_tie rfl ⟨rfl, rfl⟩ (by kernel_rfl) rfl plain (by kernel_rfl)
end Go.Proofs.YtbhfhkmcnomggaaDoor.utfNone
