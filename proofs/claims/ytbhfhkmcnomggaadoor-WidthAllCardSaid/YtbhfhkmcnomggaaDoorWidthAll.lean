/-
  The statement WidthAll: each sign is as wide as the document's reference says, and a text is as wide as its signs together. For every sign and every list of signs; it holds where the table of widths is as its initialiser lays it, which the card ties to the program's text.
-/
import Derived.Test.YtbhfhkmcnomggaaDoorFrame
import Derived.Test.YtbhfhkmcnomggaaDoorRefWidth
import Derived.Test.YtbhfhkmcnomggaaDoorArgs
import Derived.Deep.RegionWith
namespace Go.Proofs.YtbhfhkmcnomggaaDoor.widthAll
open Go.ChangeShapes Go.WideShapes Go.ChangeAt Go.RowKit

set_option maxHeartbeats 1600000 in
theorem walk (x : Int) (hx : -2147483648 ≤ x ∧ x ≤ 2147483647) (A : Option Addr) (n c : Nat) (l : List Int) (hc : n ≤ c) (_ : c ≤ maxLen) (hr : Runes l) (w : World) (hs : Spans w) (hq : Sq w w.heap.size 1 n A (l.map (Value.int .i32))) : Calls Tryd.prog 7 #[.int .i32 x, .slice A n c] w fun e w' => e = .returned (.bool true) ∧ Below w.heap.size w w' := by
  obtain ⟨m, hm⟩ : ∃ m : Nat, min (n : Int) 30 = (m : Int) := ⟨min n 30, by omega⟩
  have hm1 : m ≤ n := by omega
  have hm2 : m ≤ 30 := by omega
  have S := Lib.hid hs
  have Q := Lib.hid hq
  have HR := Lib.hid hr
  clear hs hq hr
  go_enter Tryd.func7, Tryd.ntmps7
  go_wp2_with fail
  refine (begun_walk w S.out).mono ?_
  rintro e w1 ⟨rfl, b1⟩
  have R1 := Lib.hid (And.intro (S.out.below b1 S.out.size) b1)
  clear b1
  go_wp2_with fail
  clear hm
  have hq1 : Sq w1 w1.heap.size 1 m A ((l.take m).map (Value.int .i32)) := by
    have q := (Q.out.below R1.out.2).up R1.out.2.size
    refine ⟨by have := q.len; simp at this ⊢; omega, fun h => ?_⟩
    obtain ⟨b, off, e, hb, hcell⟩ := q.spot (by omega)
    refine ⟨b, off, e, hb, fun j u hu => hcell j u ?_⟩
    rw [List.map_take, List.getElem?_take] at hu
    split at hu
    · exact hu
    · cases hu
  obtain ⟨l', hl'⟩ : ∃ l', l.take m = l' := ⟨_, rfl⟩
  rw [hl'] at hq1
  have hr' : Runes l' := fun r h => HR.out r (List.mem_of_mem_take (hl' ▸ h))
  have Q1 := Lib.hid hq1
  have LN := Lib.hid hq1.size_ints
  have HR1 := Lib.hid hr'
  clear hq1 hr' hl' Q HR S hc hm1
  go_loopw [6, 7] (fun s i wr => ∃ k : Nat, k ≤ m ∧ s = .int .i64 (wsum (l'.take k)) ∧ i = .int .i64 k ∧ Below w1.heap.size w1 wr) (fun _ i _ => m - (intOf i).toNat)
  case atStart => exact ⟨0, by omega, rfl, rfl, Below.refl _ _⟩
  case round =>
    obtain ⟨k, hk, rfl, rfl, hb⟩ := hrel
    have hsz : w1.heap.size ≤ wr.heap.size := hb.size
    have SR := Lib.hid (R1.out.1.below hb R1.out.1.size)
    have HB := Lib.hid hb
    clear hb
    by_cases hlt : k < m
    · obtain ⟨b, off, rfl, hbl, hcell⟩ := (Q1.out.below HB.out).int_at hlt
      have hbl2 : b < wr.heap.size := by omega
      have hx1 := HR1.out.get k
      have hd := wsum_take l' k
      have hwx := wof_range (nth l' k)
      have NX := Lib.hid (wsum_next l' (k := k) (by have := LN.out; omega))
      go_wp2_with fail
      go_region_with (first
        | (go_at_call 27; refine (of_walk _ hx1.1 hx1.2 _ (by first | exact SR.out | exact spans_drew SR.out | exact R4.out.1 | exact spans_drew R4.out.1)).mono ?_; rintro e w' ⟨rfl, rfl⟩)
        | (go_at_call 28; refine (refWidth_walk _ hx1.1 hx1.2 _).mono ?_; rintro e w4 ⟨rfl, b4⟩; have c4 : w4.cell? ⟨b, off + k, none⟩ = some (.int .i32 (nth l' k)) := ((below_undrew b4).cell (p := ⟨b, off + k, none⟩) hbl2).trans hcell; have R4 := Lib.hid (And.intro (SR.out.below (below_undrew b4) SR.out.size) (HB.out.trans ((below_undrew b4).mono hsz))); clear b4))
      all_goals go_wp2_with fail
      all_goals
        refine (refWidth_walk _ hx1.1 hx1.2 _).mono ?_
        rintro e w5 ⟨rfl, b5⟩
        have B5 := Lib.hid (R4.out.2.trans (b5.mono R4.out.2.size))
        clear b5
        go_wp2
        go_roundw
        case rel => exact ⟨k + 1, by omega, by rw [NX.out], by go_num, B5.out⟩
        case measure => simp [intOf]; omega
    · have E := Lib.hid (take_all l' (k := k) (by have := LN.out; omega))
      have hd := wsum_take l' k
      rw [E.out] at hd ⊢
      go_wp2_with fail
      refine (of_walk x hx.1 hx.2 _ SR.out).mono ?_
      rintro e w' ⟨rfl, rfl⟩
      go_wp2_with fail
      refine (refWidth_walk x hx.1 hx.2 _).mono ?_
      rintro e w4 ⟨rfl, b4⟩
      have R4 := Lib.hid (And.intro (SR.out.below b4 SR.out.size) (HB.out.trans (b4.mono hsz)))
      clear b4
      go_wp2_with fail
      refine (text_walk A m c l' _ R4.out.1 HR1.out (by omega) (Q1.out.below R4.out.2)).mono ?_
      rintro e w' ⟨rfl, rfl⟩
      go_wp2
      go_ret
      exact ⟨rfl, R1.out.2.trans (R4.out.2.mono R1.out.2.size)⟩

/-- WHAT THE WALK GIVES, FOR EVERY ARGUMENT AND EVERY WORLD THAT HOLDS THE TABLE. -/
theorem contract (H : Type) (enc : TypeId × Value → H) (W : World) (base : Nat) (args : Array Value) (ds gs : List (DataW H)) (before : List MemPlace)
    (hval : ∀ (j : Nat) t v, Tryd.f7.params[j]? = some t → args[j]? = some v → Value.okWide Tryd.prog W .any base t v)
    (hW : DataW.Whole enc Tryd.prog Tryd.f7.params.toList Rows.widthAllSpec.vars false W args.toList ds gs before) (hL : laidMetH Tryd.prog Rows.widthAllRow.laid W) :
    Calls Tryd.prog 7 args W fun e W' => ∃ v, e = .returned v ∧ Rows.widthAllSpec.post enc Tryd.prog Tryd.f7 false true false false W args v W' := by
  have hW' := hW
  obtain ⟨p, q, hA0, hV, rfl, hfz, hnd⟩ := hW
  have hA : DataW.TrodAll enc Tryd.prog W 0 (fun _ => true) true Tryd.f7.params.toList args.toList ds p := hA0
  rw [Tryd.params7] at hA hval
  obtain ⟨v0, vs0, d0, ds0, p0, q0, hargs, rfl, rfl, h0, r0⟩ := trodAll_cons hA
  obtain ⟨v1, vs1, d1, ds1, p1, q1, rfl, rfl, rfl, h1, r1⟩ := trodAll_cons r0
  obtain ⟨rfl, rfl, rfl⟩ := trodAll_nil r1
  obtain rfl : args = #[v0, v1] := by cases args; simp_all
  obtain ⟨rfl, rfl⟩ := trodVars_none hV
  obtain ⟨x, rfl, rfl, rfl, wx⟩ := open_int Tryd.underlying21 (hval 0 21 v0 rfl rfl) h0
  obtain ⟨Ay, ny, cy, y, rfl, hcy, hmy, hry, hqy⟩ := open_runes (hval 1 24 v1 rfl rfl) h1
  clear hA0
  refine (walk x (wf_i32 wx) Ay ny cy y hcy hmy hry W (spans_of hL) hqy).mono fun e W' ⟨he, hg⟩ => ?_
  subst he
  exact ⟨_, rfl, close rfl hW' ⟨rfl, rfl, rfl⟩ (by kernel_rfl) (by kernel_rfl) hg⟩

theorem laid_met (os : Os) : laidMet Tryd.prog Rows.widthAllRow.laid ((laidWorld os).forCall (fun _ _ => 0) ⟨#[], #[.int .i32 0, .slice none 0 0], []⟩).memory :=
  laidMet_of_run' 8 (by kernel_rfl) (by kernel_rfl)
theorem reads (os : Os) {H : Type} (enc : TypeId × Value → H) : ∃ places, DataW.whole enc Tryd.prog ((laidWorld os).forCall (fun _ _ => 0) ⟨#[], #[.int .i32 0, .slice none 0 0], []⟩).memory Tryd.f7.params.toList Rows.widthAllSpec.vars false (#[.int .i32 0, .slice none 0 0] : Array Value).toList 8 = some ([.lit (.int .i32 0), .nil], [], places) :=
  ⟨[], by kernel_rfl⟩

set_option maxRecDepth 100000 in
theorem lifted (os : Os) (started : os.Started) (H : Type) (enc : TypeId × Value → H) (F : Stop.Interp) :
    ReturnsInHanded {} Tryd.checked os 7 .any ((OpenSpec.ofChange Rows.widthAllSpec).preRow enc Tryd.prog Tryd.f7 Rows.widthAllRow.domain false Rows.widthAllRow.laid) (((OpenSpec.ofChange Rows.widthAllSpec).at F).post enc Tryd.prog Tryd.f7 false true false false) := by
  obtain ⟨places, hx⟩ := reads os enc
  refine returnsInHanded_of_row (C := Tryd.checked) (s := OpenSpec.ofChange Rows.widthAllSpec) ownNone started (by kernel_rfl) Tryd.func7
    (witness_row_at (enc := enc) (C := Tryd.checked) false (laidWorld os) #[.int .i32 0, .slice none 0 0] rfl (by kernel_rfl) (by kernel_rfl) (by kernel_rfl)
      (OpenSpec.preRow_of_cond 8 hx (by kernel_rfl) (fun k hk => by cases hk) (by kernel_rfl) (laid_met os))) ?_
  intro W base args ds gs before hval hW _ _ _ hL _ _
  exact contract H enc W base args ds gs before hval hW hL

theorem said : Rows.WidthAllSaid :=
  OpenClaim.holds_of_cond 7 Tryd.f7 rfl rfl rfl rfl rfl rfl rfl ⟨rfl, rfl, rfl, rfl, rfl⟩ rfl rfl rfl rfl rfl (by kernel_rfl) Tryd.func7 (by kernel_rfl)
    (of_decide_eq_true (by kernel_rfl)) (by unfold Func.isWrapper; first | (rw [if_pos (by decide +kernel)]; kernel_rfl) | (rw [if_neg (by decide +kernel)]; exact ⟨rfl, rfl⟩))
    (fun os started H enc _ F => by rw [OpenClaim.pre_eq_preRow]; exact lifted os started H enc F)

/-- No parameter wants a stand-in; the program's own looks are off: what the card asks. -/
theorem plain (f : FuncId) (fn : Func) (hf : Tryd.pinned.checked.prog.funcNamed "rotulus/rotuluslaw1.WidthAll" = some f) (hfn : Tryd.pinned.checked.prog.funcs[f]? = some fn) :
    false = Tryd.pinned.checked.prog.looks [] ∧ ∀ (j : Nat) t, fn.params[j]? = some t → Tryd.pinned.checked.prog.wantsStandIn t = false := by
  obtain rfl : f = 7 := Option.some.inj ((show Tryd.prog.funcNamed "rotulus/rotuluslaw1.WidthAll" = some 7 by kernel_rfl).symm.trans hf) |>.symm
  obtain rfl : fn = Tryd.f7 := (Option.some.inj (Tryd.func7.symm.trans hfn)).symm
  refine ⟨by kernel_rfl, fun j t ht => ?_⟩
  rw [Tryd.params7] at ht
  have hm := Array.mem_of_getElem? ht
  simp at hm
  rcases hm with rfl | rfl
  · exact (show Tryd.prog.wantsStandIn 21 = false by kernel_rfl)
  · exact (show Tryd.prog.wantsStandIn 24 = false by kernel_rfl)

/-- THE CARD. -/
theorem card : Rows.WidthAllCardSaid :=
  Claim7.holds_tied_plain_at .later [] _ _ _ _ said (fun _ h => by cases h) (by kernel_rfl) (fun _ h => by cases h) widthAll_row_tie rfl ⟨rfl, rfl⟩ (by kernel_rfl) rfl plain (by kernel_rfl)
end Go.Proofs.YtbhfhkmcnomggaaDoor.widthAll
