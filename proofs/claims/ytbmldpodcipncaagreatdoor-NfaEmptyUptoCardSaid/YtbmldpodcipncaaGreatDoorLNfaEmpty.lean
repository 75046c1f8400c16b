/-
  The statement NfaEmpty: a sign as often as one likes, in parentheses and again as often as one likes: it ends behind each of the first signs a, and at none. For every text of at most 1048576 bytes (of which the statement takes the first twenty signs) and every number; it holds where the table of widths is as its initialiser lays it, which the card ties to the program's text.
-/
import Derived.Test.YtbmldpodcipncaaGreatDoorQFEvZ0
import Derived.Test.YtbmldpodcipncaaGreatDoorQFBase0
import Derived.Test.YtbmldpodcipncaaGreatDoorQFBase1
import Derived.Test.YtbmldpodcipncaaGreatDoorQFBase12
namespace Go.Proofs.YtbmldpodcipncaaGreatDoor.nfaEmpty
open Go.ChangeShapes Go.WideShapes Go.ChangeAt Go.RowKit
open NF
set_option maxRecDepth 100000 in
set_option maxHeartbeats 12800000 in
theorem walk (s0 : ByteArray) (hs0 : s0.size ≤ 1048576) (y : Int) (_ : -9223372036854775808 ≤ y ∧ y ≤ 9223372036854775807) (w : World) (hs : Spans w) :
  Calls Tryz.prog 7 #[.string s0, .int .i64 y] w fun e w' => e = .returned (.bool true) ∧ Below w.heap.size w w' := by
 have S := Lib.hid hs
 obtain ⟨r, d, hr1, hr2, hr3, hd⟩ := mod_range y 5 (by omega) (by omega)
 have hd4 : d ≤ 4 := by omega
 clear hs hd
 go_enter Tryz.func7, Tryz.ntmps7
 go_wp2_with fail
 refine (Ev.Trues.at Ev.begun14 w S.out).mono ?_
 rintro e w1 ⟨rfl, b1⟩
 have B1 := Lib.hid b1
 clear b1 S
 go_wp2_with fail
 go_loopw [6, 7] (fun x z wr => ∃ (T : ByteArray) (i : Nat), x = .string T ∧ z = .int .i64 (i : Int) ∧ i ≤ d ∧ Hid (octs T = starL i) ∧ wr = w1) (fun _ z _ => d - (intOf z).toNat)
 case atStart => exact ⟨_, 0, rfl, rfl, Nat.zero_le _, Lib.hid rfl, by trivial⟩
 case round =>
  obtain ⟨T, i, rfl, rfl, hi, HT, rfl⟩ := hrel
  have hT : T.size ≤ 14 := by rw [← octs_length, HT.out, star_len]; omega
  by_cases hlt : i < d
  ·have h1 : (i : Int) < (d : Int) := by omega
   have hw : IntKind.i64.wrap ((i : Int) + 1) = (i : Int) + 1 := IntWalk.i64_in _ (by omega)
   go_wp2_with fail
   go_roundw
   case rel => exact ⟨_, i + 1, rfl, by first | rfl | (congr 1; done) | (congr 1; omega), by omega, Lib.hid (by rw [octs_app, octs_app, HT.out]; rfl), by trivial⟩
   case measure => first | (simp [intOf]; done) | (simp [intOf]; omega)
  ·obtain rfl : i = d := by omega
   have PS := Lib.hid (show parseS T = .some (starN i) from by rw [parseS_ascii HT.out (star_ascii i) (by rw [star_len]; omega)]; exact parse_star (by omega))
   have PW := Lib.hid (parse_walk T (by omega) wr)
   go_wp2_with fail
   refine PW.out.mono ?_
   intro e w2 hp
   obtain ⟨k, A, n, c, nt, A2, n2, c2, mn, mx, rfl, hx, b2⟩ := parsed hp PS.out
   obtain ⟨w3, hw3, k3, b3, z3⟩ := new_node w2 k A n c nt A2 n2 c2 mn mx
   have CW := Lib.hid (compile_ok (starN i) ⟨k, A, n, c, nt, A2, n2, c2, mn, mx⟩ wr.heap.size w3 (ndO_in (fun b hb => hb) (ndO_below hx b3)) (parseS_small PS.out).1 (by have := (parseS_small PS.out).2.1; omega) (by have := (parseS_small PS.out).2.2.1; omega) (by rw [star_wt]; omega))
   have B3 := Lib.hid (B1.out.trans ((b2.mono B1.out.size).trans (b3.mono (by have := b2.size; have := B1.out.size; omega))))
   obtain ⟨y0, y1, y2, y3, y4, y5⟩ := nv_bk k3
   try dsimp only [Nv.v] at CW ⊢
   clear hp hx b2 k3 b3 z3 PW hT
   go_wp2_with fail
   refine CW.out.mono ?_
   rintro e w4 ⟨p, rfl, hp4, b4⟩
   have PG := Lib.hid hp4
   have B4 := Lib.hid (B3.out.trans (b4.mono B3.out.size))
   have TW := Lib.hid (text_walk s0 (by omega) 20 (by omega) w4)
   clear hp4 b4 CW y0 y1 y2 y3 y4 y5
   go_wp2_with fail
   refine TW.out.mono ?_
   rintro e w5 ⟨A5, c5, n5, rfl, hq5, hl5, hn5, hc5, b5⟩
   obtain ⟨l, hl⟩ : ∃ l, (runO st0 (octs s0)).take 20 = l := ⟨_, rfl⟩
   rw [hl] at hq5 hl5
   have HQ := Lib.hid hq5
   have HL := Lib.hid hl5
   have PG5 := Lib.hid (PG.out.below b5)
   have B5 := Lib.hid (B4.out.trans (b5.mono B4.out.size))
   have W45 := Lib.hid b5.size
   clear hq5 hl5 b5 hl TW PG
   go_wp2_with fail
   go_loopw [13] (fun z wq => ∃ q : Nat, z = .int .i64 (q : Int) ∧ q ≤ n5 ∧ Hid (∀ x, x < q → l[x]? = some 97) ∧ wq = w5) (fun z _ => n5 - (intOf z).toNat)
   case atStart => exact ⟨0, rfl, Nat.zero_le _, Lib.hid (fun x hx => absurd hx (Nat.not_lt_zero _)), by trivial⟩
   case round =>
    obtain ⟨q, rfl, hq, AL, rfl⟩ := hrel
    have fin : Hid (l[q]? ≠ some 97 → endsL (fun j => Mat l (starN i) 0 j) (n5 + 1) = List.range' 0 (q + 1)) := Lib.hid fun h2 => by
     have := ends_star l i q (by rw [HL.out]; exact hq) AL.out h2
     rwa [HL.out] at this
    by_cases hqn : q < n5
    ·obtain ⟨x, hx⟩ : ∃ x, l[q]? = some x := ⟨_, List.getElem?_eq_getElem (by rw [HL.out]; exact hqn)⟩
     obtain ⟨b, off, rfl, _, hc⟩ := HQ.out.spot (by omega)
     have cx : wr.cell? ⟨b, off + q, none⟩ = some (.int .i32 x) := hc q _ (by unfold runesV; rw [List.getElem?_map, hx]; rfl)
     have h1 : (q : Int) < (n5 : Int) := by omega
     have h0 : (0 : Int) ≤ (q : Int) := by omega
     have hw : IntKind.i64.wrap ((q : Int) + 1) = (q : Int) + 1 := IntWalk.i64_in _ (by omega)
     have HX := Lib.hid hx
     clear hc hx
     by_cases he : x = 97
     ·subst he
      have AL2 := Lib.hid (show ∀ x, x < q + 1 → l[x]? = some 97 from fun x hx => by
       by_cases h : x = q
       ·rw [h]; exact HX.out
       ·exact AL.out x (by omega))
      go_wp2_with fail
      go_roundw
      case rel => exact ⟨q + 1, by first | rfl | (congr 1; done) | (congr 1; omega), by omega, AL2, by trivial⟩
      case measure => first | (simp [intOf]; done) | (simp [intOf]; omega)
     ·have hb : (x == 97) = false := by simp [he]
      have EL := Lib.hid (fin.out (by rw [HX.out]; intro h; injection h with h; exact he h))
      have EW := Lib.hid (prg_ends PG5.out (some ⟨b, off, none⟩) n5 c5 0 l (Nat.zero_le _) (by omega) W45.out HL.out HQ.out)
      rw [EL.out] at EW
      clear EL fin
      go_wp2_with fail
      refine EW.out.mono ?_
      intro e w6 he6
      obtain ⟨A6, c6, rfl, _, _, b6⟩ := ends_some he6
      have B6 := Lib.hid (B5.out.trans (b6.mono B5.out.size))
      have hlen : (List.range' 0 (q + 1)).length = q + 1 := List.length_range'
      clear he6 b6
      go_wp2_with fail
      go_ret
      exact ⟨ret_bool (by simp), B6.out⟩
    ·obtain rfl : q = n5 := by omega
     have EL := Lib.hid (fin.out (by rw [List.getElem?_eq_none (by rw [HL.out]; exact Nat.le_refl _)]; intro h; cases h))
     have EW := Lib.hid (prg_ends PG5.out A5 q c5 0 l (Nat.zero_le _) (by omega) W45.out HL.out HQ.out)
     rw [EL.out] at EW
     have hw : IntKind.i64.wrap ((q : Int) + 1) = (q : Int) + 1 := IntWalk.i64_in _ (by omega)
     clear EL fin
     go_wp2_with fail
     refine EW.out.mono ?_
     intro e w6 he6
     obtain ⟨A6, c6, rfl, _, _, b6⟩ := ends_some he6
     have B6 := Lib.hid (B5.out.trans (b6.mono B5.out.size))
     have hlen : (List.range' 0 (q + 1)).length = q + 1 := List.length_range'
     clear he6 b6
     go_wp2_with fail
     go_ret
     exact ⟨ret_bool (by simp), B6.out⟩
set_option maxRecDepth 100000 in
theorem contract (H : Type) (enc : TypeId × Value → H) (W : World) (base : Nat) (args : Array Value) (ds gs : List (DataW H)) (before : List MemPlace)
  (hval : ∀ (j : Nat) t v, Tryz.f7.params[j]? = some t → args[j]? = some v → Value.okWide Tryz.prog W .any base t v)
  (hW : DataW.Whole enc Tryz.prog Tryz.f7.params.toList Rows.nfaEmptySpec.vars false W args.toList ds gs before) (hL : laidMetH Tryz.prog Rows.nfaEmptyUptoRow.laid W) (hk : Rows.uptoSmall H (ds ++ gs) = true) :
  Calls Tryz.prog 7 args W fun e W' => ∃ v, e = .returned v ∧ Rows.nfaEmptySpec.post enc Tryz.prog Tryz.f7 false true false false W args v W' := by
 have hW' := hW
 obtain ⟨p, q, hA0, hV, rfl, hfz, hnd⟩ := hW
 have hA : DataW.TrodAll enc Tryz.prog W 0 (fun _ => true) true Tryz.f7.params.toList args.toList ds p := hA0
 rw [Tryz.params7] at hA hval
 obtain ⟨v0, vs0, d0, ds0, p0, q0, hargs, rfl, rfl, h0, r0⟩ := trodAll_cons hA
 obtain ⟨v1, vs1, d1, ds1, p1, q1, rfl, rfl, rfl, h1, r1⟩ := trodAll_cons r0
 obtain ⟨rfl, rfl, rfl⟩ := trodAll_nil r1
 obtain rfl : args = #[v0, v1] := by cases args; simp_all
 obtain ⟨rfl, rfl⟩ := trodVars_none hV
 obtain ⟨x, rfl, rfl, rfl, wx⟩ := Go.ChangeMaps.open_string Tryz.underlying9 (hval 0 9 v0 rfl rfl) h0
 obtain ⟨y, rfl, rfl, rfl, wy⟩ := open_int Tryz.underlying3 (hval 1 3 v1 rfl rfl) h1
 clear hA0
 simp only [List.append_nil] at hk
 have hB := NF.bulk_le hk
 simp only [Rows.uptoBulkAll, Rows.uptoBulk] at hB
 have zx : x.size ≤ 1048576 := by
  have h : x.data.toList.length = x.size := by rw [Array.length_toList]; rfl
  omega
 refine (walk x zx y (wf_i64 wy) W (spans_of hL) ).mono fun e W' ⟨he, hg⟩ => ?_
 subst he
 exact ⟨_, rfl, close rfl hW' ⟨rfl, rfl, rfl⟩ (by kernel_rfl) (by kernel_rfl) hg⟩
set_option maxRecDepth 100000 in
theorem laid_met (os : Os) : laidMet Tryz.prog Rows.nfaEmptyUptoRow.laid ((laidWorld os).forCall (fun _ _ => 0) ⟨#[], #[.string .empty, .int .i64 0], []⟩).memory :=
 laidMet_of_run' 8 (by kernel_rfl) (by kernel_rfl)
set_option maxRecDepth 100000 in
theorem reads (os : Os) {H : Type} (enc : TypeId × Value → H) : ∃ places, DataW.whole enc Tryz.prog ((laidWorld os).forCall (fun _ _ => 0) ⟨#[], #[.string .empty, .int .i64 0], []⟩).memory Tryz.f7.params.toList Rows.nfaEmptySpec.vars false (#[.string .empty, .int .i64 0] : Array Value).toList 8 = some ([.lit (.string []), .lit (.int .i64 0)], [], places) :=
 ⟨[], by kernel_rfl⟩
set_option maxRecDepth 100000 in
theorem lifted (os : Os) (started : os.Started) (H : Type) (enc : TypeId × Value → H) (F : Stop.Interp) :
  ReturnsInHanded {} Tryz.checked os 7 .any ((Rows.OpenSpec.upto Rows.nfaEmptySpec).preRow enc Tryz.prog Tryz.f7 Rows.nfaEmptyUptoRow.domain false Rows.nfaEmptyUptoRow.laid) (((Rows.OpenSpec.upto Rows.nfaEmptySpec).at F).post enc Tryz.prog Tryz.f7 false true false false) := by
 obtain ⟨places, hx⟩ := reads os enc
 refine returnsInHanded_of_row (C := Tryz.checked) (s := Rows.OpenSpec.upto Rows.nfaEmptySpec) ownNone started (by kernel_rfl) Tryz.func7
  (witness_row_at (enc := enc) (C := Tryz.checked) false (laidWorld os) #[.string .empty, .int .i64 0] rfl (by kernel_rfl) (by kernel_rfl) (by kernel_rfl)
   (OpenSpec.preRow_of_cond 8 hx (by kernel_rfl) (fun k hk => by cases hk; kernel_rfl) (by kernel_rfl) (laid_met os))) ?_
 intro W base args ds gs before hval hW _ hcond _ hL _ _
 exact contract H enc W base args ds gs before hval hW hL (hcond _ rfl)
set_option maxRecDepth 100000 in
set_option maxHeartbeats 0 in
theorem facts : joinedFacts Tryz.checked.prog 7 Tryz.f7 (Rows.OpenSpec.upto Rows.nfaEmptySpec).bare Rows.nfaEmptyUptoRow = true := by
 have h1 := Sum.tables.1
 have h2 := Sum.tables.2.1
 have h3 := Sum.tables.2.2
 have h4 := Sum.mayEnter
 have e1 : Rows.nfaEmptyUptoRow.lifted = Rows.nfaAllRow.lifted := by kernel_rfl
 have e2 : Rows.nfaEmptyUptoRow.make = Rows.nfaAllRow.make := by kernel_rfl
 have h5 : (Rows.nfaEmptyUptoRow.lifted == Tryz.checked.prog.liftsFinal) = true := by rw [e1]; exact Sum.lifts
 have h6 : (Tryz.checked.prog.make == some Rows.nfaEmptyUptoRow.make) = true := by rw [e2]; exact Sum.make
 unfold joinedFacts
 repeat' (with_reducible refine Sum.and_mk ?_ ?_)
 all_goals first
  | with_reducible exact h1
  | with_reducible exact h2
  | with_reducible exact h4
  | with_reducible exact h5
  | with_reducible exact h6
  | (rw [h3]; as_aux_lemma => kernel_rfl)
  | (clear h1 h2 h3 h4 h5 h6 e1 e2; as_aux_lemma => kernel_rfl)
set_option maxRecDepth 100000 in
theorem said : Rows.NfaEmptyUptoSaid :=
 OpenClaim.holds_of_cond 7 Tryz.f7 rfl rfl rfl rfl rfl rfl rfl ⟨rfl, rfl, rfl, rfl, rfl⟩ rfl rfl rfl rfl rfl (by kernel_rfl) Tryz.func7 facts
  (of_decide_eq_true (by kernel_rfl)) (by unfold Func.isWrapper; first | (rw [if_pos (by decide +kernel)]; kernel_rfl) | (rw [if_neg (by decide +kernel)]; exact ⟨rfl, rfl⟩))
  (fun os started H enc _ F => by rw [OpenClaim.pre_eq_preRow]; exact lifted os started H enc F)
set_option maxRecDepth 100000 in
theorem plain (f : FuncId) (fn : Func) (hf : Tryz.pinned.checked.prog.funcNamed "rotulus/rotuluslaw14.NfaEmpty" = some f) (hfn : Tryz.pinned.checked.prog.funcs[f]? = some fn) :
  false = Tryz.pinned.checked.prog.looks [] ∧ ∀ (j : Nat) t, fn.params[j]? = some t → Tryz.pinned.checked.prog.wantsStandIn t = false := by
 obtain rfl : f = 7 := Option.some.inj ((show Tryz.prog.funcNamed "rotulus/rotuluslaw14.NfaEmpty" = some 7 by kernel_rfl).symm.trans hf) |>.symm
 obtain rfl : fn = Tryz.f7 := (Option.some.inj (Tryz.func7.symm.trans hfn)).symm
 refine ⟨by kernel_rfl, fun j t ht => ?_⟩
 rw [Tryz.params7] at ht
 have hm := Array.mem_of_getElem? ht
 simp at hm
 rcases hm with rfl | rfl
 ·exact (show Tryz.prog.wantsStandIn 9 = false by kernel_rfl)
 ·exact (show Tryz.prog.wantsStandIn 3 = false by kernel_rfl)
set_option maxRecDepth 100000 in
theorem card : Rows.NfaEmptyUptoCardSaid :=
 Claim7.holds_tied_plain_at .later [] _ _ _ _ said (fun _ h => by cases h) (by kernel_rfl) (fun _ h => by cases h) nfaEmptyUpto_row_tie rfl ⟨rfl, rfl⟩ (by kernel_rfl) rfl plain (by kernel_rfl)
end Go.Proofs.YtbmldpodcipncaaGreatDoor.nfaEmpty
