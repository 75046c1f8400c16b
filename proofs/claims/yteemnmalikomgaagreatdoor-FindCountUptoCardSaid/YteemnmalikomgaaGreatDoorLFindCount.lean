/-
  The statement FindCount: how many matches of any pattern there are in any line, one behind the other, is what the reference's way through the line counts. For every two texts of at most 1048576 bytes together (of which the statement takes the first thirty bytes and the first twenty-five signs); it holds where the table of widths is as its initialiser lays it, which the card ties to the program's text.
-/
import Derived.Test.YteemnmalikomgaaGreatDoorQFcEvZ0
import Derived.Test.YteemnmalikomgaaGreatDoorQFcBase0
import Derived.Test.YteemnmalikomgaaGreatDoorQFcBase1
import Derived.Test.YteemnmalikomgaaGreatDoorQFcBase14
namespace Go.Proofs.YteemnmalikomgaaGreatDoor.findCount
open Go.ChangeShapes Go.WideShapes Go.ChangeAt Go.RowKit
open NF
set_option maxRecDepth 100000 in
set_option maxHeartbeats 12800000 in
theorem walk (re : ByteArray) (_ : re.size ≤ 1048576) (s0 : ByteArray) (hs0 : s0.size ≤ 1048576) (w : World) (hs : Spans w) :
  Calls Tryz.prog 6 #[.string re, .string s0] w fun e w' => e = .returned (.bool true) ∧ Below w.heap.size w w' := by
 have S := Lib.hid hs
 have PW := Lib.hid (fun wx => prog_walk re wx)
 clear hs
 go_enter Tryz.func6, Tryz.ntmps6
 go_wp2_with fail
 refine (Ev.Trues.at Ev.begun16 w S.out).mono ?_
 rintro e w1 ⟨rfl, b1⟩
 have B1 := Lib.hid b1
 clear b1 S
 go_wp2_with fail
 refine (PW.out w1).mono ?_
 rintro e w2 ⟨⟨k, A, nn, c, nt, A2, n2, c2, mn, mx⟩, P, ok, rfl, b2, hok, _⟩
 have B2 := Lib.hid (B1.out.trans (b2.mono B1.out.size))
 clear PW
 cases ok with
 | false =>
  clear hok b2
  try dsimp only [Nv.v]
  go_wp2_with fail
  go_ret
  exact ⟨rfl, B2.out.alloc B2.out.size _⟩
 | true =>
  obtain ⟨t, p, rfl, hx, hp, _⟩ := hok rfl
  obtain ⟨w3, hw3, k3, b3, z3⟩ := new_node w2 k A nn c nt A2 n2 c2 mn mx
  obtain ⟨NB, hNB⟩ : ∃ b, w2.heap.size = b := ⟨_, rfl⟩
  have K3 := Lib.hid (hNB ▸ k3 : nodeBk w3 NB ⟨k, A, nn, c, nt, A2, n2, c2, mn, mx⟩)
  have X3 := Lib.hid (ndIn_up (Nat.le_refl _) b3.size (hx.below b3))
  have G3 := Lib.hid ((hp.below b3).up b3.size)
  have B3 := Lib.hid (B2.out.trans (b3.mono B2.out.size))
  have L3 := Lib.hid (show NB < w3.heap.size by omega)
  have HW3 := Lib.hid hw3
  have HNB := Lib.hid hNB
  have TW := Lib.hid (text16_walk s0 (by omega) w3)
  clear hok b2 hx hp k3 b3 z3 hw3 hNB
  try dsimp only [Nv.v]
  go_upto_region 5 with fail
  rw [HNB.out]
  first
   | rw [HW3.out]
   | (change Code.wp _ _ _ _ (w2.alloc (.cells #[.int .i64 k, .slice A nn c, .bool nt, .slice A2 n2 c2, .int .i64 mn, .int .i64 mx] 29)); rw [HW3.out])
  go_wp2_with fail
  refine TW.out.mono ?_
  rintro e w4 ⟨A6, c6, n6, rfl, hq6, hl6, hn6, hc6, b4⟩
  obtain ⟨l, hl⟩ : ∃ l, (runO st0 (octs s0)).take 25 = l := ⟨_, rfl⟩
  rw [hl] at hq6 hl6
  have SQ := Lib.hid hq6
  have LL := Lib.hid hl6
  have B4 := Lib.hid (B3.out.trans (b4.mono B3.out.size))
  have K4 := Lib.hid (show nodeBk w4 NB ⟨k, A, nn, c, nt, A2, n2, c2, mn, mx⟩ from K3.out.below b4 L3.out)
  have X4 := Lib.hid (ndIn_up (Nat.le_refl _) b4.size (X3.out.below b4))
  have PG4 := Lib.hid ((G3.out.below b4).up b4.size)
  have L4 := Lib.hid (Nat.lt_of_lt_of_le L3.out b4.size)
  clear hq6 hl6 b4 hl TW K3 X3 G3
  obtain ⟨f, hf⟩ : ∃ f, longI l t n6 = f := ⟨_, rfl⟩
  have CN := Lib.hid (findAtAll PG4.out A6 n6 c6 l (by omega) LL.out SQ.out)
  have RN := Lib.hid (refAtAll t ⟨k, A, nn, c, nt, A2, n2, c2, mn, mx⟩ _ w4 PG4.out.1 X4.out A6 n6 c6 l (by omega) LL.out SQ.out)
  have HF := Lib.hid (show ∀ a, a ≤ n6 → f a ≤ (n6 : Int) - a from fun a ha => by rw [← hf]; exact (longI_le l t n6 a ha).1)
  rw [hf] at CN RN
  obtain ⟨q, hq⟩ : ∃ q, cnt f 0 n6 = q := ⟨_, rfl⟩
  have HQ := Lib.hid hq
  have hq25 : q ≤ 25 := by have := cnt_le f n6 0; omega
  try dsimp only [Nv.v] at RN
  clear hf hq
  go_wp2_with fail
  go_loopw [10, 11] (fun u v wr => ∃ d i : Nat, u = .int .i64 (d : Int) ∧ v = .int .i64 (i : Int) ∧ i ≤ n6 ∧ d ≤ q ∧ Hid (d + cnt f i (n6 - i) = q) ∧ Hid (Below w4.heap.size w4 wr)) (fun _ v _ => n6 - (intOf v).toNat)
  case atStart => exact ⟨0, 0, rfl, rfl, Nat.zero_le _, Nat.zero_le _, Lib.hid (by rw [Nat.zero_add, Nat.sub_zero]; exact HQ.out), Lib.hid (Below.refl _ _)⟩
  case round =>
   obtain ⟨d, i, rfl, rfl, hin, hdq, CT, BW⟩ := hrel
   by_cases hlt : i < n6
   ·have h1 : (i : Int) < (n6 : Int) := by omega
    have hwd : IntKind.i64.wrap ((d : Int) + 1) = (d : Int) + 1 := IntWalk.i64_in _ (by omega)
    have hwi : IntKind.i64.wrap ((i : Int) + 1) = (i : Int) + 1 := IntWalk.i64_in _ (by omega)
    obtain ⟨y0, y1, y2, y3, y4, y5⟩ := nv_bk (show nodeBk wr NB ⟨k, A, nn, c, nt, A2, n2, c2, mn, mx⟩ from K4.out.below BW.out L4.out)
    have RA := Lib.hid (RN.out wr BW.out i (by omega))
    obtain ⟨v, hv⟩ : ∃ v, f i = v := ⟨_, rfl⟩
    have hv2 := HF.out i (by omega)
    have CY := Lib.hid (fun h : 0 < f i => cnt_yes (f := f) (a := i) (k := n6 - i) (by omega) h)
    have CX := Lib.hid (fun h : ¬ 0 < f i => cnt_no (f := f) (a := i) (k := n6 - i) (by omega) h)
    unfold LenP at RA
    rw [hv] at RA hv2 CY CX
    clear hv
    go_wp2_with fail
    refine RA.out.mono ?_
    rintro e w5 ⟨rfl, b5⟩
    have B5 := Lib.hid (BW.out.trans (b5.mono BW.out.size))
    clear b5 RA y0 y1 y2 y3 y4 y5
    by_cases h0 : 0 < v
    ·obtain ⟨m, rfl⟩ : ∃ m : Nat, v = (m : Int) := ⟨v.toNat, by omega⟩
     have hwm : IntKind.i64.wrap ((i : Int) + (m : Int)) = (i : Int) + (m : Int) := IntWalk.i64_in _ (by omega)
     have CS := Lib.hid (show d + 1 + cnt f (i + m) (n6 - (i + m)) = q from by
      have := CT.out
      rw [CY.out (by omega), Int.toNat_natCast, show n6 - i - m = n6 - (i + m) by omega] at this
      omega)
     go_wp2_with fail
     go_roundw
     case rel => exact ⟨d + 1, i + m, by first | rfl | (congr 1; done) | (congr 1; omega), by first | rfl | (congr 1; done) | (congr 1; omega), by omega, by have := CS.out; omega, CS, B5⟩
     case measure => first | (simp [intOf]; done) | (simp [intOf]; omega)
    ·have CS := Lib.hid (show d + cnt f (i + 1) (n6 - (i + 1)) = q from by
      have := CT.out
      rw [CX.out (by omega), show n6 - i - 1 = n6 - (i + 1) by omega] at this
      exact this)
     go_wp2_with fail
     go_roundw
     case rel => exact ⟨d, i + 1, rfl, by first | rfl | (congr 1; done) | (congr 1; omega), by omega, hdq, CS, B5⟩
     case measure => first | (simp [intOf]; done) | (simp [intOf]; omega)
   ·obtain rfl : i = n6 := by omega
    obtain rfl : d = q := by
     have := CT.out
     rw [Nat.sub_self, cnt_zero] at this
     omega
    have FC := Lib.hid (findCount_gen f (.pointer (some ⟨p, 0, none⟩)) A6 i c6 wr (by omega) HF.out (CN.out.below BW.out))
    unfold LenP at FC
    rw [HQ.out] at FC
    go_wp2_with fail
    refine FC.out.mono ?_
    rintro e w5 ⟨rfl, b5⟩
    have BF := Lib.hid (B4.out.trans ((BW.out.trans (b5.mono BW.out.size)).mono B4.out.size))
    clear b5 FC
    go_wp2_with fail
    go_ret
    exact ⟨rfl, BF.out⟩
set_option maxRecDepth 100000 in
theorem contract (H : Type) (enc : TypeId × Value → H) (W : World) (base : Nat) (args : Array Value) (ds gs : List (DataW H)) (before : List MemPlace)
  (hval : ∀ (j : Nat) t v, Tryz.f6.params[j]? = some t → args[j]? = some v → Value.okWide Tryz.prog W .any base t v)
  (hW : DataW.Whole enc Tryz.prog Tryz.f6.params.toList Rows.findCountSpec.vars false W args.toList ds gs before) (hL : laidMetH Tryz.prog Rows.findCountUptoRow.laid W) (hk : Rows.uptoSmall H (ds ++ gs) = true) :
  Calls Tryz.prog 6 args W fun e W' => ∃ v, e = .returned v ∧ Rows.findCountSpec.post enc Tryz.prog Tryz.f6 false true false false W args v W' := by
 have hW' := hW
 obtain ⟨p, q, hA0, hV, rfl, hfz, hnd⟩ := hW
 have hA : DataW.TrodAll enc Tryz.prog W 0 (fun _ => true) true Tryz.f6.params.toList args.toList ds p := hA0
 rw [Tryz.params6] at hA hval
 obtain ⟨v0, vs0, d0, ds0, p0, q0, hargs, rfl, rfl, h0, r0⟩ := trodAll_cons hA
 obtain ⟨v1, vs1, d1, ds1, p1, q1, rfl, rfl, rfl, h1, r1⟩ := trodAll_cons r0
 obtain ⟨rfl, rfl, rfl⟩ := trodAll_nil r1
 obtain rfl : args = #[v0, v1] := by cases args; simp_all
 obtain ⟨rfl, rfl⟩ := trodVars_none hV
 obtain ⟨x, rfl, rfl, rfl, wx⟩ := Go.ChangeMaps.open_string Tryz.underlying9 (hval 0 9 v0 rfl rfl) h0
 obtain ⟨y, rfl, rfl, rfl, wy⟩ := Go.ChangeMaps.open_string Tryz.underlying9 (hval 1 9 v1 rfl rfl) h1
 clear hA0
 simp only [List.append_nil] at hk
 have hB := NF.bulk_le hk
 simp only [Rows.uptoBulkAll, Rows.uptoBulk] at hB
 have zx : x.size ≤ 1048576 := by
  have h : x.data.toList.length = x.size := by rw [Array.length_toList]; rfl
  omega
 have zy : y.size ≤ 1048576 := by
  have h : y.data.toList.length = y.size := by rw [Array.length_toList]; rfl
  omega
 refine (walk x zx y zy W (spans_of hL) ).mono fun e W' ⟨he, hg⟩ => ?_
 subst he
 exact ⟨_, rfl, close rfl hW' ⟨rfl, rfl, rfl⟩ (by kernel_rfl) (by kernel_rfl) hg⟩
set_option maxRecDepth 100000 in
theorem laid_met (os : Os) : laidMet Tryz.prog Rows.findCountUptoRow.laid ((laidWorld os).forCall (fun _ _ => 0) ⟨#[], #[.string .empty, .string .empty], []⟩).memory :=
 laidMet_of_run' 8 (by kernel_rfl) (by kernel_rfl)
set_option maxRecDepth 100000 in
theorem reads (os : Os) {H : Type} (enc : TypeId × Value → H) : ∃ places, DataW.whole enc Tryz.prog ((laidWorld os).forCall (fun _ _ => 0) ⟨#[], #[.string .empty, .string .empty], []⟩).memory Tryz.f6.params.toList Rows.findCountSpec.vars false (#[.string .empty, .string .empty] : Array Value).toList 8 = some ([.lit (.string []), .lit (.string [])], [], places) :=
 ⟨[], by kernel_rfl⟩
set_option maxRecDepth 100000 in
theorem lifted (os : Os) (started : os.Started) (H : Type) (enc : TypeId × Value → H) (F : Stop.Interp) :
  ReturnsInHanded {} Tryz.checked os 6 .any ((Rows.OpenSpec.upto Rows.findCountSpec).preRow enc Tryz.prog Tryz.f6 Rows.findCountUptoRow.domain false Rows.findCountUptoRow.laid) (((Rows.OpenSpec.upto Rows.findCountSpec).at F).post enc Tryz.prog Tryz.f6 false true false false) := by
 obtain ⟨places, hx⟩ := reads os enc
 refine returnsInHanded_of_row (C := Tryz.checked) (s := Rows.OpenSpec.upto Rows.findCountSpec) ownNone started (by kernel_rfl) Tryz.func6
  (witness_row_at (enc := enc) (C := Tryz.checked) false (laidWorld os) #[.string .empty, .string .empty] rfl (by kernel_rfl) (by kernel_rfl) (by kernel_rfl)
   (OpenSpec.preRow_of_cond 8 hx (by kernel_rfl) (fun k hk => by cases hk; kernel_rfl) (by kernel_rfl) (laid_met os))) ?_
 intro W base args ds gs before hval hW _ hcond _ hL _ _
 exact contract H enc W base args ds gs before hval hW hL (hcond _ rfl)
set_option maxRecDepth 100000 in
set_option maxHeartbeats 0 in
theorem facts : joinedFacts Tryz.checked.prog 6 Tryz.f6 (Rows.OpenSpec.upto Rows.findCountSpec).bare Rows.findCountUptoRow = true := by
 have h1 := Sum.tables.1
 have h2 := Sum.tables.2.1
 have h3 := Sum.tables.2.2
 have h4 := Sum.mayEnter
 have e1 : Rows.findCountUptoRow.lifted = Rows.findAllRow.lifted := by kernel_rfl
 have e2 : Rows.findCountUptoRow.make = Rows.findAllRow.make := by kernel_rfl
 have h5 : (Rows.findCountUptoRow.lifted == Tryz.checked.prog.liftsFinal) = true := by rw [e1]; exact Sum.lifts
 have h6 : (Tryz.checked.prog.make == some Rows.findCountUptoRow.make) = true := by rw [e2]; exact Sum.make
 unfold joinedFacts
 repeat' (with_reducible refine Sum.and_mk ?_ ?_)
 all_goals first
  | with_reducible exact h1
  | with_reducible exact h2
  | with_reducible exact h4
  | with_reducible exact h5
  | with_reducible exact h6
  | (rw [h3]; as_aux_lemma => kernel_rfl)
  | (clear h1 h2 h3 h4 h5 h6 e1 e2; as_aux_lemma => kernel_rfl)
set_option maxRecDepth 100000 in
theorem said : Rows.FindCountUptoSaid :=
 OpenClaim.holds_of_cond 6 Tryz.f6 rfl rfl rfl rfl rfl rfl rfl ⟨rfl, rfl, rfl, rfl, rfl⟩ rfl rfl rfl rfl rfl (by kernel_rfl) Tryz.func6 facts
  (of_decide_eq_true (by kernel_rfl)) (by unfold Func.isWrapper; first | (rw [if_pos (by decide +kernel)]; kernel_rfl) | (rw [if_neg (by decide +kernel)]; exact ⟨rfl, rfl⟩))
  (fun os started H enc _ F => by rw [OpenClaim.pre_eq_preRow]; exact lifted os started H enc F)
set_option maxRecDepth 100000 in
theorem plain (f : FuncId) (fn : Func) (hf : Tryz.pinned.checked.prog.funcNamed "rotulus/rotuluslaw16.FindCount" = some f) (hfn : Tryz.pinned.checked.prog.funcs[f]? = some fn) :
  false = Tryz.pinned.checked.prog.looks [] ∧ ∀ (j : Nat) t, fn.params[j]? = some t → Tryz.pinned.checked.prog.wantsStandIn t = false := by
 obtain rfl : f = 6 := Option.some.inj ((show Tryz.prog.funcNamed "rotulus/rotuluslaw16.FindCount" = some 6 by kernel_rfl).symm.trans hf) |>.symm
 obtain rfl : fn = Tryz.f6 := (Option.some.inj (Tryz.func6.symm.trans hfn)).symm
 refine ⟨by kernel_rfl, fun j t ht => ?_⟩
 rw [Tryz.params6] at ht
 have hm := Array.mem_of_getElem? ht
 simp at hm
 subst hm
 exact (show Tryz.prog.wantsStandIn 9 = false by kernel_rfl)
set_option maxRecDepth 100000 in
theorem card : Rows.FindCountUptoCardSaid :=
 Claim7.holds_tied_plain_at .later [] _ _ _ _ said (fun _ h => by cases h) (by kernel_rfl) (fun _ h => by cases h) findCountUpto_row_tie rfl ⟨rfl, rfl⟩ (by kernel_rfl) rfl plain (by kernel_rfl)
end Go.Proofs.YteemnmalikomgaaGreatDoor.findCount
