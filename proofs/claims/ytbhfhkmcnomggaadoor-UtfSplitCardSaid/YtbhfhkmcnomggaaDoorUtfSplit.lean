/-
  The statement UtfSplit: of two texts, one behind the other, the signs are the signs of both, if nothing waits at the end of the first one; else one more sign is told at its end. For every two texts (the statement looks at the first forty bytes of each); it holds where the table of widths is as its initialiser lays it, which the card ties to the program's text.
-/
import Derived.Test.YtbhfhkmcnomggaaDoorFrame
import Derived.Test.YtbhfhkmcnomggaaDoorArgs
import Derived.Test.YtbhfhkmcnomggaaDoorApp
import Derived.Test.YtbhfhkmcnomggaaDoorShort
namespace Go.Proofs.YtbhfhkmcnomggaaDoor.utfSplit
open Go.ChangeShapes Go.WideShapes Go.ChangeAt Go.RowKit

theorem octs_append (a b : ByteArray) : octs (a ++ b) = octs a ++ octs b := by
  unfold octs
  rw [ByteArray.data_append, Array.toList_append, List.map_append]
theorem size_append (a b : ByteArray) : (a ++ b).size = a.size + b.size := ByteArray.size_append
theorem all_split {a b : List Int} (h : runS st0 a = st0) : allO (a ++ b) = allO a ++ allO b := by
  unfold allO
  rw [runO_append, runS_append, h]
  simp [brk, st0]
theorem allO_length (l : List Int) : (allO l).length ≤ 2 * l.length + 1 := by
  unfold allO
  rw [List.length_append]
  have h1 := runO_length l st0
  have h2 := brk_length (runS st0 l)
  omega
theorem fits {n m : Nat} (h : n + m ≤ 1000000) : n + m ≤ maxLen ∧ (n + m) * 4 ≤ 140737488355328 := by unfold maxLen; omega
theorem runes_one (l : List Int) : ∀ u ∈ l.map (Value.int .i32), u.oneCell' = true := by
  intro u hu
  obtain ⟨x, _, rfl⟩ := List.mem_map.1 hu
  rfl

set_option maxHeartbeats 1600000 in
theorem walk (x : ByteArray) (_ : x.size ≤ 9223372036854775807) (y : ByteArray) (_ : y.size ≤ 9223372036854775807) (w : World) (hs : Spans w) : Calls Tryd.prog 14 #[.string x, .string y] w fun e w' => e = .returned (.bool true) ∧ Below w.heap.size w w' := by
  obtain ⟨i0, hi, hz0, hz1, hz2⟩ := info_parts info21
  obtain ⟨a, ha⟩ : ∃ a, shortS x 40 = a := ⟨_, rfl⟩
  obtain ⟨b, hb⟩ : ∃ b, shortS y 40 = b := ⟨_, rfl⟩
  have za : a.size ≤ 40 := by rw [← ha]; exact shortS_size x 40
  have zb : b.size ≤ 40 := by rw [← hb]; exact shortS_size y 40
  have SA := Lib.hid (fun w => short_walk x 40 w)
  have SB := Lib.hid (fun w => short_walk y 40 w)
  rw [ha] at SA
  rw [hb] at SB
  have S := Lib.hid hs
  clear hs ha hb
  go_enter Tryd.func14, Tryd.ntmps14
  go_wp2_with fail
  refine (begun_walk w S.out).mono ?_
  rintro e w1 ⟨rfl, b1⟩
  have R1 := Lib.hid b1
  have hs1 := b1.size
  clear b1 S
  go_wp2_with fail
  refine (SA.out w1).mono ?_
  rintro e w' ⟨rfl, rfl⟩
  go_wp2_with fail
  refine (SB.out w1).mono ?_
  rintro e w' ⟨rfl, rfl⟩
  go_wp2_with fail
  refine (refAll_walk a (by omega) w1).mono ?_
  rintro e w2 ⟨v, rfl, hv, b2⟩
  have R2 := Lib.hid b2
  have hs2 := b2.size
  obtain ⟨Av, cv, rfl⟩ := hv.shape
  have HV := Lib.hid hv
  clear b2 hv
  rcases waits_brk _ (run_ok a) with ⟨hw, hbk⟩ | ⟨hw, hbk, hst⟩
  · have HB := Lib.hid hbk
    clear hbk
    go_wp2_with fail
    refine (all_walk a (by omega) w2).mono ?_
    rintro e w3 ⟨v3, rfl, h3, b3⟩
    obtain ⟨A3, c3, rfl⟩ := h3.shape
    have hl : (allO (octs a)).length = (runO st0 (octs a)).length + 1 := by unfold allO; rw [List.length_append, HB.out]; rfl
    have hle := runO_length (octs a) st0
    rw [octs_length] at hle
    have B3 := Lib.hid b3
    rw [hl]
    clear h3 b3 hl
    go_wp2
    go_ret
    exact ⟨rfl, R1.out.trans ((R2.out.mono hs1).trans (B3.out.mono (Nat.le_trans hs1 hs2)))⟩
  · have hal : allO (octs a) = runO st0 (octs a) := by unfold allO; rw [hbk, List.append_nil]
    have hsp := all_split (b := octs b) hst
    have LA := allO_length (octs a)
    have LB := allO_length (octs b)
    rw [octs_length] at LA LB
    have W3 := Lib.hid (fun w => all_walk (a ++ b) (by rw [size_append]; omega) w)
    rw [octs_append, hsp] at W3
    obtain ⟨la, hla⟩ : ∃ la, allO (octs a) = la := ⟨_, rfl⟩
    obtain ⟨lb, hlb⟩ : ∃ lb, allO (octs b) = lb := ⟨_, rfl⟩
    have W4 := Lib.hid (fun w => all_walk a (by omega) w)
    have W5 := Lib.hid (fun w => all_walk b (by omega) w)
    rw [hla] at W3 W4 LA
    rw [hlb] at W3 W5 LB
    obtain ⟨lab, hlab⟩ : ∃ lab, la ++ lb = lab := ⟨_, rfl⟩
    rw [hlab] at W3
    have LL : lab.length = la.length + lb.length := by rw [← hlab, List.length_append]
    have AB := Lib.hid hlab
    have AL := Lib.hid LL
    have LN := Lib.hid (show lab.length ≤ 1099511627776 by omega)
    clear hbk hst hal hsp hla hlb hlab LL
    go_wp2_with fail
    refine (W3.out w2).mono ?_
    rintro e w3 ⟨v3, rfl, h3, b3⟩
    obtain ⟨A3, c3, rfl⟩ := h3.shape
    have H3 := Lib.hid h3
    have B3 := Lib.hid b3
    have hs3 := b3.size
    clear h3 b3
    go_wp2_with fail
    refine (W4.out w3).mono ?_
    rintro e w4 ⟨v4, rfl, h4, b4⟩
    obtain ⟨A4, c4, rfl⟩ := h4.shape
    have H4 := Lib.hid h4
    have B4 := Lib.hid b4
    have hs4 := b4.size
    clear h4 b4
    go_wp2_with (at_builtin; refine wpl_app rfl _ _ 24 rfl w4.heap.size 21 i0 (.int .i32 0) 1 4 Tryd.underlying24 hi hz0 hz1 hz2 rfl (by decide) (.slice none 0 0) 0 [] rfl (World.ownsRow_nil _ _ _ _) A4 la.length c4 (la.map (Value.int .i32)) rfl w4.heap.size (by exact (H4.out.sq).2) (runes_one la) (fits (by omega)).1 (fits (by omega)).2 (Nat.le_refl _) ?_; intro v5 w5 hown5 hg5 _)
    have O5 : Has w5 w4.heap.size v5 la := by unfold Has; simpa using hown5
    obtain ⟨A5, c5, rfl⟩ := O5.shape
    have H5 := Lib.hid O5
    have G5 := Lib.hid (show Below w4.heap.size w4 w5 from ⟨hg5.os, hg5.tape, hg5.output, hg5.size, fun k hk => hg5.block k hk (by simp [Value.ownBlock])⟩)
    have hs5 := hg5.size
    clear hown5 hg5 O5
    refine (W5.out w5).mono ?_
    rintro e w6 ⟨v6, rfl, h6, b6⟩
    obtain ⟨A6, c6, rfl⟩ := h6.shape
    have H6 := Lib.hid h6
    have B6 := Lib.hid b6
    have hs6 := b6.size
    clear h6 b6
    have V5 := Lib.hid (H5.out.below B6.out H5.out.lt)
    go_wp2_with (at_builtin; refine wpl_app rfl _ _ 24 rfl w4.heap.size 21 i0 (.int .i32 0) 1 4 Tryd.underlying24 hi hz0 hz1 hz2 rfl (by decide) (.slice A5 la.length c5) la.length _ rfl V5.out A6 lb.length c6 (lb.map (Value.int .i32)) rfl w6.heap.size (by exact (H6.out.sq).2) (runes_one lb) (fits (by omega)).1 (fits (by omega)).2 (Nat.le_trans hs5 hs6) ?_; intro v7 w7 hown7 hg7 _)
    have O7 : Has w7 w4.heap.size v7 lab := by unfold Has; rw [AL.out, ← AB.out, List.map_append]; exact hown7
    obtain ⟨A7, c7, rfl⟩ := O7.shape
    have N7 : Below w4.heap.size w4 w7 := (G5.out.trans (B6.out.mono hs5)).grown hg7 (Nat.le_trans hs5 hs6) (fun j e => (World.ownsRow.lt V5.out j e).1)
    have H7 := Lib.hid O7
    have N := Lib.hid N7
    clear hown7 hg7 O7 N7
    have hs7 := N.out.size
    have Q3 := Lib.hid (((H3.out.sq).2.below (B4.out.trans (N.out.mono hs4))).up (Nat.le_trans hs4 hs7))
    have Q7 := Lib.hid (H7.out.sq).2
    refine (eq_yes A3 A7 _ c3 _ c7 lab w7 LN.out Q3.out Q7.out).mono ?_
    rintro e w8 ⟨rfl, b8⟩
    have R := Lib.hid (R1.out.trans ((R2.out.mono hs1).trans ((B3.out.mono (Nat.le_trans hs1 hs2)).trans ((B4.out.mono (Nat.le_trans hs1 (Nat.le_trans hs2 hs3))).trans ((N.out.mono (Nat.le_trans hs1 (Nat.le_trans hs2 (Nat.le_trans hs3 hs4)))).trans (b8.mono (Nat.le_trans hs1 (Nat.le_trans hs2 (Nat.le_trans hs3 (Nat.le_trans hs4 hs7))))))))))
    clear b8
    go_wp2
    go_ret
    exact ⟨rfl, R.out⟩

/-- WHAT THE WALK GIVES, FOR EVERY ARGUMENT AND EVERY WORLD THAT HOLDS THE TABLE. -/
theorem contract (H : Type) (enc : TypeId × Value → H) (W : World) (base : Nat) (args : Array Value) (ds gs : List (DataW H)) (before : List MemPlace)
    (hval : ∀ (j : Nat) t v, Tryd.f14.params[j]? = some t → args[j]? = some v → Value.okWide Tryd.prog W .any base t v)
    (hW : DataW.Whole enc Tryd.prog Tryd.f14.params.toList Rows.utfSplitSpec.vars false W args.toList ds gs before) (hL : laidMetH Tryd.prog Rows.utfSplitRow.laid W) :
    Calls Tryd.prog 14 args W fun e W' => ∃ v, e = .returned v ∧ Rows.utfSplitSpec.post enc Tryd.prog Tryd.f14 false true false false W args v W' := by
  have hW' := hW
  obtain ⟨p, q, hA0, hV, rfl, hfz, hnd⟩ := hW
  have hA : DataW.TrodAll enc Tryd.prog W 0 (fun _ => true) true Tryd.f14.params.toList args.toList ds p := hA0
  rw [Tryd.params14] at hA hval
  obtain ⟨v0, vs0, d0, ds0, p0, q0, hargs, rfl, rfl, h0, r0⟩ := trodAll_cons hA
  obtain ⟨v1, vs1, d1, ds1, p1, q1, rfl, rfl, rfl, h1, r1⟩ := trodAll_cons r0
  obtain ⟨rfl, rfl, rfl⟩ := trodAll_nil r1
  obtain rfl : args = #[v0, v1] := by cases args; simp_all
  obtain ⟨rfl, rfl⟩ := trodVars_none hV
  obtain ⟨x, rfl, rfl, rfl, wx⟩ := Go.ChangeMaps.open_string Tryd.underlying9 (hval 0 9 v0 rfl rfl) h0
  obtain ⟨y, rfl, rfl, rfl, wy⟩ := Go.ChangeMaps.open_string Tryd.underlying9 (hval 1 9 v1 rfl rfl) h1
  clear hA0
  refine (walk x wx y wy W (spans_of hL) ).mono fun e W' ⟨he, hg⟩ => ?_
  subst he
  exact ⟨_, rfl, close rfl hW' ⟨rfl, rfl, rfl⟩ (by kernel_rfl) (by kernel_rfl) hg⟩

theorem laid_met (os : Os) : laidMet Tryd.prog Rows.utfSplitRow.laid ((laidWorld os).forCall (fun _ _ => 0) ⟨#[], #[.string .empty, .string .empty], []⟩).memory :=
  laidMet_of_run' 8 (by kernel_rfl) (by kernel_rfl)
theorem reads (os : Os) {H : Type} (enc : TypeId × Value → H) : ∃ places, DataW.whole enc Tryd.prog ((laidWorld os).forCall (fun _ _ => 0) ⟨#[], #[.string .empty, .string .empty], []⟩).memory Tryd.f14.params.toList Rows.utfSplitSpec.vars false (#[.string .empty, .string .empty] : Array Value).toList 8 = some ([.lit (.string []), .lit (.string [])], [], places) :=
  ⟨[], by kernel_rfl⟩

set_option maxRecDepth 100000 in
theorem lifted (os : Os) (started : os.Started) (H : Type) (enc : TypeId × Value → H) (F : Stop.Interp) :
    ReturnsInHanded {} Tryd.checked os 14 .any ((OpenSpec.ofChange Rows.utfSplitSpec).preRow enc Tryd.prog Tryd.f14 Rows.utfSplitRow.domain false Rows.utfSplitRow.laid) (((OpenSpec.ofChange Rows.utfSplitSpec).at F).post enc Tryd.prog Tryd.f14 false true false false) := by
  obtain ⟨places, hx⟩ := reads os enc
  refine returnsInHanded_of_row (C := Tryd.checked) (s := OpenSpec.ofChange Rows.utfSplitSpec) ownNone started (by kernel_rfl) Tryd.func14
    (witness_row_at (enc := enc) (C := Tryd.checked) false (laidWorld os) #[.string .empty, .string .empty] rfl (by kernel_rfl) (by kernel_rfl) (by kernel_rfl)
      (OpenSpec.preRow_of_cond 8 hx (by kernel_rfl) (fun k hk => by cases hk) (by kernel_rfl) (laid_met os))) ?_
  intro W base args ds gs before hval hW _ _ _ hL _ _
  exact contract H enc W base args ds gs before hval hW hL

theorem said : Rows.UtfSplitSaid :=
  OpenClaim.holds_of_cond 14 Tryd.f14 rfl rfl rfl rfl rfl rfl rfl ⟨rfl, rfl, rfl, rfl, rfl⟩ rfl rfl rfl rfl rfl (by kernel_rfl) Tryd.func14 (by kernel_rfl)
    (of_decide_eq_true (by kernel_rfl)) (by unfold Func.isWrapper; first | (rw [if_pos (by decide +kernel)]; kernel_rfl) | (rw [if_neg (by decide +kernel)]; exact ⟨rfl, rfl⟩))
    (fun os started H enc _ F => by rw [OpenClaim.pre_eq_preRow]; exact lifted os started H enc F)

/-- No parameter wants a stand-in; the program's own looks are off: what the card asks. -/
theorem plain (f : FuncId) (fn : Func) (hf : Tryd.pinned.checked.prog.funcNamed "rotulus/rotuluslaw1.UtfSplit" = some f) (hfn : Tryd.pinned.checked.prog.funcs[f]? = some fn) :
    false = Tryd.pinned.checked.prog.looks [] ∧ ∀ (j : Nat) t, fn.params[j]? = some t → Tryd.pinned.checked.prog.wantsStandIn t = false := by
  obtain rfl : f = 14 := Option.some.inj ((show Tryd.prog.funcNamed "rotulus/rotuluslaw1.UtfSplit" = some 14 by kernel_rfl).symm.trans hf) |>.symm
  obtain rfl : fn = Tryd.f14 := (Option.some.inj (Tryd.func14.symm.trans hfn)).symm
  refine ⟨by kernel_rfl, fun j t ht => ?_⟩
  rw [Tryd.params14] at ht
  have hm := Array.mem_of_getElem? ht
  simp at hm
  subst hm
  exact (show Tryd.prog.wantsStandIn 9 = false by kernel_rfl)

/-- THE CARD. -/
theorem card : Rows.UtfSplitCardSaid :=
  Claim7.holds_tied_plain_at .later [] _ _ _ _ said (fun _ h => by cases h) (by kernel_rfl) (fun _ h => by cases h) utfSplit_row_tie rfl ⟨rfl, rfl⟩ (by kernel_rfl) rfl plain (by kernel_rfl)
end Go.Proofs.YtbhfhkmcnomggaaDoor.utfSplit
