/-
  The statement NfaWeight: a pattern of repeats in repeats weighs what the document says, for the code and for the reference; its machine has as many states. For every four numbers; it holds where the table of widths is as its initialiser lays it, which the card ties to the program's text.
-/
import Derived.Test.YtbmldpodcipncaaGreatDoorQFEvZ0
import Derived.Test.YtbmldpodcipncaaGreatDoorQFBase0
import Derived.Test.YtbmldpodcipncaaGreatDoorQFBase1
import Derived.Test.YtbmldpodcipncaaGreatDoorQFBase12
namespace Go.Proofs.YtbmldpodcipncaaGreatDoor.nfaWeight
open Go.ChangeShapes Go.WideShapes Go.ChangeAt Go.RowKit
open NF
set_option maxRecDepth 100000 in
set_option maxHeartbeats 12800000 in
theorem walk (x : Int) (_ : -9223372036854775808 ≤ x ∧ x ≤ 9223372036854775807) (y : Int) (_ : -9223372036854775808 ≤ y ∧ y ≤ 9223372036854775807) (z : Int) (_ : -9223372036854775808 ≤ z ∧ z ≤ 9223372036854775807) (u : Int) (_ : -9223372036854775808 ≤ u ∧ u ≤ 9223372036854775807) (w : World) (hs : Spans w) :
  Calls Tryz.prog 10 #[.int .i64 x, .int .i64 y, .int .i64 z, .int .i64 u] w fun e w' => e = .returned (.bool true) ∧ Below w.heap.size w w' := by
 have S := Lib.hid hs
 clear hs
 go_enter Tryz.func10, Tryz.ntmps10
 go_wp2_with fail
 refine (Ev.Trues.at Ev.begun14 w S.out).mono ?_
 rintro e w1 ⟨rfl, b1⟩
 have B1 := Lib.hid b1
 obtain ⟨w2, hw2⟩ : ∃ w2, w1.alloc (.cells #[.int .i64 x, .int .i64 y, .int .i64 z, .int .i64 u] 3) = w2 := ⟨_, rfl⟩
 obtain ⟨g, hg⟩ : ∃ g, w1.heap.size = g := ⟨_, rfl⟩
 have K2 := Lib.hid (show Bk w2 3 g #[.int .i64 x, .int .i64 y, .int .i64 z, .int .i64 u] from by rw [← hw2, ← hg]; exact heap_alloc_new w1 _)
 have B2 := Lib.hid (show Below w.heap.size w w2 from by rw [← hw2]; exact b1.alloc b1.size _)
 have HW := Lib.hid hw2
 have HG := Lib.hid hg
 clear b1 S hw2 hg
 go_wp2_with fail
 rw [HG.out]
 first
  | rw [HW.out]
  | (change Code.wp _ _ _ _ (w1.alloc (.cells #[.int .i64 x, .int .i64 y, .int .i64 z, .int .i64 u] 3)); rw [HW.out])
 go_loopw [10, 11, 27] (fun s v i wr => ∃ (T : ByteArray) (ks : List Nat), s = .string T ∧ v = .int .i64 (weighW ks : Int) ∧ i = .int .i64 (ks.length : Int) ∧ ks.length ≤ 4 ∧ Hid (octs T = weighL ks ∧ ∀ k ∈ ks, k < 10) ∧ Hid (Below w2.heap.size w2 wr)) (fun _ _ i _ => 4 - (intOf i).toNat)
 case atStart => exact ⟨_, [], rfl, rfl, rfl, Nat.zero_le _, Lib.hid ⟨rfl, fun k hk => by cases hk⟩, Lib.hid (Below.refl _ _)⟩
 case round =>
  obtain ⟨T, ks, rfl, rfl, rfl, hl4, HT, BR⟩ := hrel
  have hT : T.size ≤ 21 := by rw [← octs_length, HT.out.1, weigh_len]; omega
  obtain ⟨i, hi⟩ : ∃ i, ks.length = i := ⟨_, rfl⟩
  obtain ⟨W, hW⟩ : ∃ W, weighW ks = W := ⟨_, rfl⟩
  have HI := Lib.hid hi
  have HWW := Lib.hid hW
  rw [hi] at hl4
  rw [hi, hW]
  clear hi hW
  by_cases hlt : i < 4
  ·have kr : Bk wr 3 g #[.int .i64 x, .int .i64 y, .int .i64 z, .int .i64 u] := (BR.out.block g (Bk.lt K2.out)).trans K2.out
   obtain ⟨v, hv⟩ : ∃ v, wr.cell? ⟨g, i, none⟩ = some (.int .i64 v) := by
    match i, hlt with
    | 0, _ => exact ⟨_, Bk.get kr 0⟩
    | 1, _ => exact ⟨_, Bk.get kr 1⟩
    | 2, _ => exact ⟨_, Bk.get kr 2⟩
    | 3, _ => exact ⟨_, Bk.get kr 3⟩
   obtain ⟨r, k, hr1, hr2, hr3, hk⟩ := mod_range v 10 (by omega) (by omega)
   have hk9 : k < 10 := by omega
   have hW3 : weighW ks ≤ 1000 := Nat.le_trans (weigh_le ks HT.out.2) (Nat.pow_le_pow_right (by omega) (show ks.length ≤ 3 by rw [HI.out]; omega))
   obtain ⟨P, hm1, hm2, hm3⟩ := weigh_step ks k hW3 hk9
   rw [HWW.out] at hm1
   have NM := Lib.hid (fun wx => number_walk k hk9 wx)
   have h1 : (i : Int) < 4 := by omega
   have h0 : (0 : Int) ≤ (i : Int) := by omega
   have hw : IntKind.i64.wrap ((i : Int) + 1) = (i : Int) + 1 := IntWalk.i64_in _ (by omega)
   have hd1 : (digT k).size = 1 := rfl
   have M3 := Lib.hid hm3
   clear kr hk hW3 hm3
   go_wp2_with fail
   refine (NM.out wr).mono ?_
   rintro e w4 ⟨rfl, b4⟩
   have B4 := Lib.hid (BR.out.trans (b4.mono BR.out.size))
   have R4 := Lib.hid (show octs (({ data := #[40] } : ByteArray) ++ T ++ { data := #[41, 123] } ++ digT k ++ { data := #[125] }) = weighL (k :: ks) ∧ ∀ y ∈ k :: ks, y < 10 from ⟨weigh_octs HT.out.1 hk9, fun y hy => by
    rcases List.mem_cons.1 hy with rfl | hy
    ·exact hk9
    ·exact HT.out.2 y hy⟩)
   clear b4
   go_wp2_with fail
   go_roundw
   case rel => exact ⟨_, k :: ks, rfl, by rw [← M3.out]; first | rfl | (congr 1; done) | (congr 1; omega), by rw [List.length_cons, HI.out]; first | rfl | (congr 1; done) | (congr 1; omega), by rw [List.length_cons, HI.out]; omega, R4, B4⟩
   case measure => first | (simp [intOf]; done) | (simp [intOf]; omega)
  ·obtain rfl : i = 4 := by omega
   have PS := Lib.hid (show parseS T = .some (weighN ks) from by rw [parseS_ascii HT.out.1 (weigh_ascii ks HT.out.2) (by rw [weigh_len, HI.out]; omega)]; exact parse_weigh ks HT.out.2)
   have PW := Lib.hid (parse_walk T (by omega) wr)
   have hW4 : W ≤ 10000 := by rw [← HWW.out]; have := weigh_le ks HT.out.2; rwa [HI.out] at this
   have WT := Lib.hid (show wt (weighN ks) = W from by rw [wt_weigh, HWW.out])
   have PZ := parseS_small PS.out
   go_wp2_with fail
   refine PW.out.mono ?_
   intro e w5 hp
   obtain ⟨k, A, nn, c, nt, A2, n2, c2, mn, mx, rfl, hx, b5⟩ := parsed hp PS.out
   obtain ⟨w6, hw6, k6, b6, z6⟩ := new_node w5 k A nn c nt A2 n2 c2 mn mx
   have BR5 := BR.out.size
   have B6 := Lib.hid (B2.out.trans ((BR.out.trans ((b5.trans (b6.mono b5.size)).mono BR5)).mono B2.out.size))
   have X6 := Lib.hid (ndO_in (fun b hb => hb) (ndO_below hx b6))
   have RW := Lib.hid (refWeight_light (weighN ks) ⟨k, A, nn, c, nt, A2, n2, c2, mn, mx⟩ _ w6 PZ.1 (by rw [WT.out]; omega) X6.out)
   obtain ⟨NB, hNB⟩ : ∃ b, w5.heap.size = b := ⟨_, rfl⟩
   have Z6 := Lib.hid (show w6.heap.size = NB + 1 by omega)
   have KX := Lib.hid (hNB ▸ k6 : nodeBk w6 NB ⟨k, A, nn, c, nt, A2, n2, c2, mn, mx⟩)
   have HW6 := Lib.hid hw6
   have HNB := Lib.hid hNB
   rw [WT.out] at RW
   obtain ⟨y0, y1, y2, y3, y4, y5⟩ := nv_bk KX.out
   clear hp hx b5 b6 k6 z6 hw6 hNB PW hT BR5
   try dsimp only [Nv.v] at RW ⊢
   go_upto_region 14 with fail
   rw [HW6.out, HNB.out]
   go_wp2_with fail
   refine RW.out.mono ?_
   rintro e w7 ⟨rfl, b7⟩
   have B7 := Lib.hid (B6.out.trans (b7.mono B6.out.size))
   have K7 := Lib.hid (KX.out.below b7 (by have := Z6.out; omega))
   have CW := Lib.hid (compile_ok (weighN ks) ⟨k, A, nn, c, nt, A2, n2, c2, mn, mx⟩ _ w7 (ndIn_up (Nat.le_refl _) b7.size (X6.out.below b7)) PZ.1 (by have := PZ.2.1; have := HT.out.1; have h5 := weigh_len ks; rw [← HT.out.1, octs_length, HI.out] at h5; omega) (by have := PZ.2.2.1; have := PZ.2.2.2.1; omega) (by rw [WT.out]; omega))
   clear b7 RW y0 y1 y2 y3 y4 y5
   obtain ⟨y0, y1, y2, y3, y4, y5⟩ := nv_bk K7.out
   try dsimp only [Nv.v] at CW ⊢
   go_wp2_with fail
   refine CW.out.mono ?_
   rintro e w8 ⟨p, rfl, hp8, b8⟩
   have B8 := Lib.hid (B7.out.trans (b8.mono B7.out.size))
   have SZ := Lib.hid (prg_size hp8)
   rw [WT.out] at SZ
   clear hp8 b8 CW
   go_wp2_with fail
   refine SZ.out.mono ?_
   rintro e w' ⟨rfl, rfl⟩
   go_wp2_with fail
   go_ret
   exact ⟨ret_bool (by simp), B8.out⟩
set_option maxRecDepth 100000 in
theorem contract (H : Type) (enc : TypeId × Value → H) (W : World) (base : Nat) (args : Array Value) (ds gs : List (DataW H)) (before : List MemPlace)
  (hval : ∀ (j : Nat) t v, Tryz.f10.params[j]? = some t → args[j]? = some v → Value.okWide Tryz.prog W .any base t v)
  (hW : DataW.Whole enc Tryz.prog Tryz.f10.params.toList Rows.nfaWeightSpec.vars false W args.toList ds gs before) (hL : laidMetH Tryz.prog Rows.nfaWeightRow.laid W) :
  Calls Tryz.prog 10 args W fun e W' => ∃ v, e = .returned v ∧ Rows.nfaWeightSpec.post enc Tryz.prog Tryz.f10 false true false false W args v W' := by
 have hW' := hW
 obtain ⟨p, q, hA0, hV, rfl, hfz, hnd⟩ := hW
 have hA : DataW.TrodAll enc Tryz.prog W 0 (fun _ => true) true Tryz.f10.params.toList args.toList ds p := hA0
 rw [Tryz.params10] at hA hval
 obtain ⟨v0, vs0, d0, ds0, p0, q0, hargs, rfl, rfl, h0, r0⟩ := trodAll_cons hA
 obtain ⟨v1, vs1, d1, ds1, p1, q1, rfl, rfl, rfl, h1, r1⟩ := trodAll_cons r0
 obtain ⟨v2, vs2, d2, ds2, p2, q2, rfl, rfl, rfl, h2, r2⟩ := trodAll_cons r1
 obtain ⟨v3, vs3, d3, ds3, p3, q3, rfl, rfl, rfl, h3, r3⟩ := trodAll_cons r2
 obtain ⟨rfl, rfl, rfl⟩ := trodAll_nil r3
 obtain rfl : args = #[v0, v1, v2, v3] := by cases args; simp_all
 obtain ⟨rfl, rfl⟩ := trodVars_none hV
 obtain ⟨x, rfl, rfl, rfl, wx⟩ := open_int Tryz.underlying3 (hval 0 3 v0 rfl rfl) h0
 obtain ⟨y, rfl, rfl, rfl, wy⟩ := open_int Tryz.underlying3 (hval 1 3 v1 rfl rfl) h1
 obtain ⟨z, rfl, rfl, rfl, wz⟩ := open_int Tryz.underlying3 (hval 2 3 v2 rfl rfl) h2
 obtain ⟨u, rfl, rfl, rfl, wu⟩ := open_int Tryz.underlying3 (hval 3 3 v3 rfl rfl) h3
 clear hA0
 refine (walk x (wf_i64 wx) y (wf_i64 wy) z (wf_i64 wz) u (wf_i64 wu) W (spans_of hL) ).mono fun e W' ⟨he, hg⟩ => ?_
 subst he
 exact ⟨_, rfl, close rfl hW' ⟨rfl, rfl, rfl⟩ (by kernel_rfl) (by kernel_rfl) hg⟩
set_option maxRecDepth 100000 in
theorem laid_met (os : Os) : laidMet Tryz.prog Rows.nfaWeightRow.laid ((laidWorld os).forCall (fun _ _ => 0) ⟨#[], #[.int .i64 0, .int .i64 0, .int .i64 0, .int .i64 0], []⟩).memory :=
 laidMet_of_run' 8 (by kernel_rfl) (by kernel_rfl)
set_option maxRecDepth 100000 in
theorem reads (os : Os) {H : Type} (enc : TypeId × Value → H) : ∃ places, DataW.whole enc Tryz.prog ((laidWorld os).forCall (fun _ _ => 0) ⟨#[], #[.int .i64 0, .int .i64 0, .int .i64 0, .int .i64 0], []⟩).memory Tryz.f10.params.toList Rows.nfaWeightSpec.vars false (#[.int .i64 0, .int .i64 0, .int .i64 0, .int .i64 0] : Array Value).toList 8 = some ([.lit (.int .i64 0), .lit (.int .i64 0), .lit (.int .i64 0), .lit (.int .i64 0)], [], places) :=
 ⟨[], by kernel_rfl⟩
set_option maxRecDepth 100000 in
theorem lifted (os : Os) (started : os.Started) (H : Type) (enc : TypeId × Value → H) (F : Stop.Interp) :
  ReturnsInHanded {} Tryz.checked os 10 .any ((OpenSpec.ofChange Rows.nfaWeightSpec).preRow enc Tryz.prog Tryz.f10 Rows.nfaWeightRow.domain false Rows.nfaWeightRow.laid) (((OpenSpec.ofChange Rows.nfaWeightSpec).at F).post enc Tryz.prog Tryz.f10 false true false false) := by
 obtain ⟨places, hx⟩ := reads os enc
 refine returnsInHanded_of_row (C := Tryz.checked) (s := OpenSpec.ofChange Rows.nfaWeightSpec) ownNone started (by kernel_rfl) Tryz.func10
  (witness_row_at (enc := enc) (C := Tryz.checked) false (laidWorld os) #[.int .i64 0, .int .i64 0, .int .i64 0, .int .i64 0] rfl (by kernel_rfl) (by kernel_rfl) (by kernel_rfl)
   (OpenSpec.preRow_of_cond 8 hx (by kernel_rfl) (fun k hk => by cases hk) (by kernel_rfl) (laid_met os))) ?_
 intro W base args ds gs before hval hW _ _ _ hL _ _
 exact contract H enc W base args ds gs before hval hW hL
set_option maxRecDepth 100000 in
set_option maxHeartbeats 0 in
theorem facts : joinedFacts Tryz.checked.prog 10 Tryz.f10 (OpenSpec.ofChange Rows.nfaWeightSpec).bare Rows.nfaWeightRow = true := by
 have h1 := Sum.tables.1
 have h2 := Sum.tables.2.1
 have h3 := Sum.tables.2.2
 have h4 := Sum.mayEnter
 have e1 : Rows.nfaWeightRow.lifted = Rows.nfaAllRow.lifted := by kernel_rfl
 have e2 : Rows.nfaWeightRow.make = Rows.nfaAllRow.make := by kernel_rfl
 have h5 : (Rows.nfaWeightRow.lifted == Tryz.checked.prog.liftsFinal) = true := by rw [e1]; exact Sum.lifts
 have h6 : (Tryz.checked.prog.make == some Rows.nfaWeightRow.make) = true := by rw [e2]; exact Sum.make
 unfold joinedFacts
 repeat' (with_reducible refine Sum.and_mk ?_ ?_)
 all_goals first
  | with_reducible exact h1
  | with_reducible exact h2
  | with_reducible exact h4
  | with_reducible exact h5
  | with_reducible exact h6
  | (rw [h3]; as_aux_lemma => kernel_rfl)
  | (clear h1 h2 h3 h4 h5 h6 e1 e2; as_aux_lemma => kernel_rfl)
set_option maxRecDepth 100000 in
theorem said : Rows.NfaWeightSaid :=
 OpenClaim.holds_of_cond 10 Tryz.f10 rfl rfl rfl rfl rfl rfl rfl ⟨rfl, rfl, rfl, rfl, rfl⟩ rfl rfl rfl rfl rfl (by kernel_rfl) Tryz.func10 facts
  (of_decide_eq_true (by kernel_rfl)) (by unfold Func.isWrapper; first | (rw [if_pos (by decide +kernel)]; kernel_rfl) | (rw [if_neg (by decide +kernel)]; exact ⟨rfl, rfl⟩))
  (fun os started H enc _ F => by rw [OpenClaim.pre_eq_preRow]; exact lifted os started H enc F)
set_option maxRecDepth 100000 in
theorem plain (f : FuncId) (fn : Func) (hf : Tryz.pinned.checked.prog.funcNamed "rotulus/rotuluslaw14.NfaWeight" = some f) (hfn : Tryz.pinned.checked.prog.funcs[f]? = some fn) :
  false = Tryz.pinned.checked.prog.looks [] ∧ ∀ (j : Nat) t, fn.params[j]? = some t → Tryz.pinned.checked.prog.wantsStandIn t = false := by
 obtain rfl : f = 10 := Option.some.inj ((show Tryz.prog.funcNamed "rotulus/rotuluslaw14.NfaWeight" = some 10 by kernel_rfl).symm.trans hf) |>.symm
 obtain rfl : fn = Tryz.f10 := (Option.some.inj (Tryz.func10.symm.trans hfn)).symm
 refine ⟨by kernel_rfl, fun j t ht => ?_⟩
 rw [Tryz.params10] at ht
 have hm := Array.mem_of_getElem? ht
 simp at hm
 subst hm
 exact (show Tryz.prog.wantsStandIn 3 = false by kernel_rfl)
set_option maxRecDepth 100000 in
theorem card : Rows.NfaWeightCardSaid :=
 Claim7.holds_tied_plain_at .later [] _ _ _ _ said (fun _ h => by cases h) (by kernel_rfl) (fun _ h => by cases h) nfaWeight_row_tie rfl ⟨rfl, rfl⟩ (by kernel_rfl) rfl plain (by kernel_rfl)
end Go.Proofs.YtbmldpodcipncaaGreatDoor.nfaWeight
