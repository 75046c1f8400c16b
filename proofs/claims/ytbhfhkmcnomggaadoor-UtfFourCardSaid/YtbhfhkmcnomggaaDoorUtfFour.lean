/-
  The statement UtfFour: a sequence of four bytes is its sign; with one of its bytes another one, the signs are the document's. For every sign, place and byte; it holds where the table of widths is as its initialiser lays it, which the card ties to the program's text.
-/
import Derived.Test.YtbhfhkmcnomggaaDoorFrame
import Derived.Test.YtbhfhkmcnomggaaDoorArgs
import Derived.Test.YtbhfhkmcnomggaaDoorApp
import Derived.Test.YtbhfhkmcnomggaaDoorShort
import Derived.Test.YtbhfhkmcnomggaaDoorEnc
import Derived.Test.YtbhfhkmcnomggaaDoorRefPut
namespace Go.Proofs.YtbhfhkmcnomggaaDoor.utfFour
open Go.ChangeShapes Go.WideShapes Go.ChangeAt Go.RowKit

theorem octs_enc (r : Int) : octs ⟨(Lib.encodeRune r).toArray⟩ = Lib.encodeRuneZ r := by
  unfold octs
  simp only
  unfold Lib.encodeRune
  rw [List.map_map]
  conv => rhs; rw [← List.map_id (Lib.encodeRuneZ r)]
  refine List.map_congr_left fun x hx => ?_
  obtain ⟨h0, h1⟩ := Lib.encodeRuneZ_byte r x hx
  obtain ⟨n, rfl⟩ := Int.eq_ofNat_of_zero_le h0
  have : n < 256 := by omega
  simp [Nat.mod_eq_of_lt this]

theorem sign_at (r : Int) : 65536 ≤ wrap32 (65536 + (wrap32 (r.tmod 1048576 + 1048576)).tmod 1048576) ∧ wrap32 (65536 + (wrap32 (r.tmod 1048576 + 1048576)).tmod 1048576) ≤ 1114111 := by
  have h1 := Int.tmod_lt_of_pos r (show (0 : Int) < 1048576 by omega)
  have h2 := Int.lt_tmod_of_pos r (show (0 : Int) < 1048576 by omega)
  have e1 : wrap32 (r.tmod 1048576 + 1048576) = r.tmod 1048576 + 1048576 := by unfold wrap32; omega
  rw [e1, Int.tmod_eq_emod_of_nonneg (by omega)]
  unfold wrap32
  omega
theorem place_at (p : Int) : ∃ i : Nat, i < 4 ∧ (wrap64 (p.tmod 4 + 4)).tmod 4 = (i : Int) := by
  have h1 := Int.tmod_lt_of_pos p (show (0 : Int) < 4 by omega)
  have h2 := Int.lt_tmod_of_pos p (show (0 : Int) < 4 by omega)
  have e1 : wrap64 (p.tmod 4 + 4) = p.tmod 4 + 4 := by unfold wrap64; omega
  rw [e1, Int.tmod_eq_emod_of_nonneg (by omega)]
  exact ⟨((p.tmod 4 + 4) % 4).toNat, by omega, by omega⟩
theorem enc_all (r : Int) (h0 : 65536 ≤ r) (h1 : r ≤ 1114111) : allO (octs ⟨(Lib.encodeRune r).toArray⟩) = [r] := by
  have k := run_enc r
  have e : fixR r = r := by unfold fixR; rw [if_neg (by omega)]
  rw [e] at k
  rw [octs_enc]
  unfold allO
  rw [k.1, k.2]
  rfl
theorem enc_len (r : Int) (h0 : 65536 ≤ r) (h1 : r ≤ 1114111) : (⟨(Lib.encodeRune r).toArray⟩ : ByteArray).size = 4 := by
  rw [← octs_length, octs_enc, Lib.encodeRuneZ_four h0 h1]
  rfl
set_option maxHeartbeats 1600000 in
theorem walk (r : Int) (_ : -2147483648 ≤ r ∧ r ≤ 2147483647) (p : Int) (_ : -9223372036854775808 ≤ p ∧ p ≤ 9223372036854775807) (x : Int) (hx : 0 ≤ x ∧ x ≤ 255) (w : World) (hs : Spans w) : Calls Tryd.prog 13 #[.int .i32 r, .int .i64 p, .int .u8 x] w fun e w' => e = .returned (.bool true) ∧ Below w.heap.size w w' := by
  obtain ⟨i0, hi, hz0, hz1, hz2⟩ := info_parts info21
  have S := Lib.hid hs
  clear hs
  go_enter Tryd.func13, Tryd.ntmps13
  go_wp2_with fail
  refine (begun_walk w S.out).mono ?_
  rintro e w1 ⟨rfl, b1⟩
  have R1 := Lib.hid b1
  have hs1 := b1.size
  clear b1 S
  go_wp2_with fail
  have hq := sign_at r
  generalize wrap32 (65536 + (wrap32 (r.tmod 1048576 + 1048576)).tmod 1048576) = q at hq ⊢
  refine (refPut_any q (by omega) (by omega) w1).mono ?_
  rintro e w2 ⟨rfl, b2⟩
  have R2 := Lib.hid b2
  have hs2 := b2.size
  clear b2
  obtain ⟨s, hse⟩ : ∃ s, (⟨(Lib.encodeRune q).toArray⟩ : ByteArray) = s := ⟨_, rfl⟩
  have h4 : s.size = 4 := by rw [← hse]; exact enc_len q hq.1 hq.2
  have AS := Lib.hid (fun w => all_walk s (by omega) w)
  have hal : allO (octs s) = [q] := by rw [← hse]; exact enc_all q hq.1 hq.2
  rw [hal] at AS
  have RB := run_bytes w2 s
  have O3 := Lib.hid (bytesW_octs w2 s)
  have F3 := Lib.hid (bytesW_free w2 s)
  have B3 := Lib.hid (bytesW_below w2 s)
  have Z3 := Lib.hid (bytesW_size w2 s)
  have LO := Lib.hid (octs_length s)
  have OR := Lib.hid (octs_range s)
  have H4 := Lib.hid h4
  rw [hse]
  rw [h4] at RB
  generalize bytesW w2 s = w3 at RB O3 F3 B3 Z3
  have CB := fun c => conv_octs O3.out OR.out 4 c (LO.out.trans H4.out)
  rw [textOf_octs] at CB
  clear hse hal h4
  go_wp2_with fail
  refine (AS.out w3).mono ?_
  rintro e w4 ⟨v4, rfl, hv4, b4⟩
  obtain ⟨g4, c4, rfl, _, _, hg4, hc4⟩ := own_at (show w4.ownsRow w3.heap.size 21 1 v4 1 [.int .i32 q] from hv4) (by omega)
  have k4 := hc4 0 _ rfl
  obtain ⟨i, hi4, hpi⟩ := place_at p
  have O4 := O3.out.below b4 (Nat.le_refl _)
  have hlen : (octs s).length = 4 := LO.out.trans H4.out
  have kc : w4.cell? ⟨w2.heap.size, i, none⟩ = some (.int .u8 (nth (octs s) i)) := O4.2 i _ (by rw [nth_get (by omega)]; exact List.getElem?_eq_getElem (by omega))
  have kf : w4.frozen? ⟨w2.heap.size, i, none⟩ = false := (b4.frozen (p := ⟨w2.heap.size, i, none⟩) (O3.out.1)).trans (F3.out i (by rw [H4.out]; exact hi4))
  have OA := octs_setCell O4 (show i < (octs s).length by omega) x
  have BA : Below w3.heap.size w3 w4 := b4
  have BW : Below w2.heap.size w2 (w4.setCell ⟨w2.heap.size, i, none⟩ (.int .u8 x)) := (B3.out.trans (b4.mono B3.out.size)).setCell (Nat.le_refl _) _
  have LA : ((octs s).set i x).length = 4 := by rw [List.length_set]; exact hlen
  have RA : ∀ u ∈ (octs s).set i x, 0 ≤ u ∧ u ≤ 255 := fun u hu => by
    rcases List.mem_or_eq_of_mem_set hu with h | rfl
    · exact OR.out u h
    · exact hx
  obtain ⟨t, hte⟩ : ∃ t, textOf ((octs s).set i x) = t := ⟨_, rfl⟩
  have ht4 : t.size = 4 := by rw [← hte, textOf_size]; exact LA
  have OAH := Lib.hid OA
  have BWH := Lib.hid BW
  have LAH := Lib.hid LA
  have RAH := Lib.hid RA
  have TE := Lib.hid hte
  have CA := fun c => conv_octs OA RA 4 c LA
  rw [hte] at CA
  clear hv4 hc4 hg4 b4 O4 hlen OA BA BW LA RA hte
  go_wp2_with fail
  clear kc kf k4
  have hszA := BWH.out.size
  generalize w4.setCell ⟨w2.heap.size, i, none⟩ (.int .u8 x) = wa at OAH BWH CA hszA ⊢
  have HB := Lib.hid (R1.out.trans ((R2.out.mono hs1).trans (BWH.out.mono (Nat.le_trans hs1 hs2))))
  have hsA := HB.out.size
  clear CA
  refine (refAll_walk t (by omega) wa).mono ?_
  rintro e w5 ⟨v5, rfl, hv5, b5⟩
  obtain ⟨A5, c5, rfl⟩ := hv5.shape
  have V5 := Lib.hid hv5
  have B5 := Lib.hid b5
  have hs5 := b5.size
  have hlen5 := runO_length (octs t) st0
  rw [octs_length] at hlen5
  have hl5 : (runO st0 (octs t)).length ≤ 1000000 := by omega
  clear hv5 b5 hlen5
  rcases waits_brk _ (run_ok t) with ⟨hw5, hbk⟩ | ⟨hw5, hbk, hst⟩
  · have hall : allO (octs t) = runO st0 (octs t) ++ [65533] := by unfold allO; rw [hbk]
    have HA := Lib.hid hall
    clear hall hbk
    go_wp2_with (at_builtin; refine wpList_append_own_at _ rfl _ _ 24 rfl wa.heap.size 21 i0 (.int .i32 0) 1 4 Tryd.underlying24 hi hz0 hz1 hz2 rfl (by decide) (.slice A5 (runO st0 (octs t)).length c5) (runO st0 (octs t)).length _ rfl (V5.out.alloc _) ⟨w5.heap.size, 0, none⟩ 1 1 [.int .i32 65533] rfl rfl (cell_new_at rfl _ _) (one_rune _) (fits1 (by omega)) (fits4 (by omega)) (by simp; omega) ?_; intro v6 w6 hown6 hg6 _ _; have N6 : Below wa.heap.size wa w6 := ((B5.out.alloc hs5 _).grown hg6 (by simp; omega) (fun j e => (World.ownsRow.lt V5.out j e).1)); have CB6 := fun c => TE.out ▸ conv_octs (OAH.out.below N6 (Nat.le_refl _)) RAH.out 4 c LAH.out)
    have O6 : Has w6 wa.heap.size v6 (allO (octs t)) := by
      rw [HA.out]
      unfold Has
      rw [List.length_append, List.map_append]
      simpa using hown6
    obtain ⟨A6, c6, rfl⟩ := O6.shape
    have V6 := Lib.hid O6
    have B6 := Lib.hid N6
    have hs6 := N6.size
    clear hown6 hg6 N6 O6
    go_wp2_with fail
    refine (all_walk t (by omega) w6).mono ?_
    rintro e w7 ⟨v7, rfl, hv7, b7⟩
    obtain ⟨A7, c7, rfl⟩ := hv7.shape
    have Q7 := Lib.hid (hv7.sq).2
    have Q6 := Lib.hid (((V6.out.sq).2.below b7).up b7.size)
    have B7 := Lib.hid b7
    have hs7 := b7.size
    have hl7 : (allO (octs t)).length ≤ 1099511627776 := by rw [HA.out]; simp only [List.length_append, List.length_cons, List.length_nil]; omega
    clear hv7 b7
    go_wp2_with fail
    refine (eq_yes A7 A6 _ c7 _ c6 (allO (octs t)) w7 (by exact hl7) Q7.out Q6.out).mono ?_
    rintro e w9 ⟨rfl, b9⟩
    have B9 := Lib.hid (B6.out.trans ((B7.out.mono hs6).trans (b9.mono (Nat.le_trans hs6 hs7))))
    have hs9 := B9.out.size
    clear b9
    go_wp2
    go_ret
    exact ⟨rfl, HB.out.trans (B9.out.mono hsA)⟩
  · have hall : allO (octs t) = runO st0 (octs t) ++ [] := by unfold allO; rw [hbk]
    rw [List.append_nil] at hall
    have HA := Lib.hid hall
    clear hall hbk hst
    have N6 : Below wa.heap.size wa w5 := B5.out
    have CB6 := fun c => TE.out ▸ conv_octs (OAH.out.below B5.out (Nat.le_refl _)) RAH.out 4 c LAH.out
    have O6 : Has w5 wa.heap.size (.slice A5 (runO st0 (octs t)).length c5) (allO (octs t)) := by rw [HA.out]; exact V5.out
    have V6 := Lib.hid O6
    have B6 := Lib.hid N6
    have hs6 := N6.size
    clear N6 O6
    go_wp2_with fail
    refine (all_walk t (by omega) w5).mono ?_
    rintro e w7 ⟨v7, rfl, hv7, b7⟩
    obtain ⟨A7, c7, rfl⟩ := hv7.shape
    have Q7 := Lib.hid (hv7.sq).2
    have Q6 := Lib.hid (((V6.out.sq).2.below b7).up b7.size)
    have B7 := Lib.hid b7
    have hs7 := b7.size
    have hl7 : (allO (octs t)).length ≤ 1099511627776 := by rw [HA.out]; omega
    rw [HA.out] at Q6 Q7 hl7
    try rw [HA.out]
    clear hv7 b7
    go_wp2_with fail
    refine (eq_yes A7 A5 _ c7 _ c5 (runO st0 (octs t)) w7 (by exact hl7) Q7.out Q6.out).mono ?_
    rintro e w9 ⟨rfl, b9⟩
    have B9 := Lib.hid (B6.out.trans ((B7.out.mono hs6).trans (b9.mono (Nat.le_trans hs6 hs7))))
    have hs9 := B9.out.size
    clear b9
    go_wp2
    go_ret
    exact ⟨rfl, HB.out.trans (B9.out.mono hsA)⟩

/-- WHAT THE WALK GIVES, FOR EVERY ARGUMENT AND EVERY WORLD THAT HOLDS THE TABLE. -/
theorem contract (H : Type) (enc : TypeId × Value → H) (W : World) (base : Nat) (args : Array Value) (ds gs : List (DataW H)) (before : List MemPlace)
    (hval : ∀ (j : Nat) t v, Tryd.f13.params[j]? = some t → args[j]? = some v → Value.okWide Tryd.prog W .any base t v)
    (hW : DataW.Whole enc Tryd.prog Tryd.f13.params.toList Rows.utfFourSpec.vars false W args.toList ds gs before) (hL : laidMetH Tryd.prog Rows.utfFourRow.laid W) :
    Calls Tryd.prog 13 args W fun e W' => ∃ v, e = .returned v ∧ Rows.utfFourSpec.post enc Tryd.prog Tryd.f13 false true false false W args v W' := by
  have hW' := hW
  obtain ⟨p, q, hA0, hV, rfl, hfz, hnd⟩ := hW
  have hA : DataW.TrodAll enc Tryd.prog W 0 (fun _ => true) true Tryd.f13.params.toList args.toList ds p := hA0
  rw [Tryd.params13] at hA hval
  obtain ⟨v0, vs0, d0, ds0, p0, q0, hargs, rfl, rfl, h0, r0⟩ := trodAll_cons hA
  obtain ⟨v1, vs1, d1, ds1, p1, q1, rfl, rfl, rfl, h1, r1⟩ := trodAll_cons r0
  obtain ⟨v2, vs2, d2, ds2, p2, q2, rfl, rfl, rfl, h2, r2⟩ := trodAll_cons r1
  obtain ⟨rfl, rfl, rfl⟩ := trodAll_nil r2
  obtain rfl : args = #[v0, v1, v2] := by cases args; simp_all
  obtain ⟨rfl, rfl⟩ := trodVars_none hV
  obtain ⟨x, rfl, rfl, rfl, wx⟩ := open_int Tryd.underlying21 (hval 0 21 v0 rfl rfl) h0
  obtain ⟨y, rfl, rfl, rfl, wy⟩ := open_int Tryd.underlying3 (hval 1 3 v1 rfl rfl) h1
  obtain ⟨z, rfl, rfl, rfl, wz⟩ := open_int Tryd.underlying5 (hval 2 5 v2 rfl rfl) h2
  clear hA0
  refine (walk x (wf_i32 wx) y (wf_i64 wy) z (wf_u8 wz) W (spans_of hL) ).mono fun e W' ⟨he, hg⟩ => ?_
  subst he
  exact ⟨_, rfl, close rfl hW' ⟨rfl, rfl, rfl⟩ (by kernel_rfl) (by kernel_rfl) hg⟩

theorem laid_met (os : Os) : laidMet Tryd.prog Rows.utfFourRow.laid ((laidWorld os).forCall (fun _ _ => 0) ⟨#[], #[.int .i32 0, .int .i64 0, .int .u8 0], []⟩).memory :=
  laidMet_of_run' 8 (by kernel_rfl) (by kernel_rfl)
theorem reads (os : Os) {H : Type} (enc : TypeId × Value → H) : ∃ places, DataW.whole enc Tryd.prog ((laidWorld os).forCall (fun _ _ => 0) ⟨#[], #[.int .i32 0, .int .i64 0, .int .u8 0], []⟩).memory Tryd.f13.params.toList Rows.utfFourSpec.vars false (#[.int .i32 0, .int .i64 0, .int .u8 0] : Array Value).toList 8 = some ([.lit (.int .i32 0), .lit (.int .i64 0), .lit (.int .u8 0)], [], places) :=
  ⟨[], by kernel_rfl⟩

set_option maxRecDepth 100000 in
theorem lifted (os : Os) (started : os.Started) (H : Type) (enc : TypeId × Value → H) (F : Stop.Interp) :
    ReturnsInHanded {} Tryd.checked os 13 .any ((OpenSpec.ofChange Rows.utfFourSpec).preRow enc Tryd.prog Tryd.f13 Rows.utfFourRow.domain false Rows.utfFourRow.laid) (((OpenSpec.ofChange Rows.utfFourSpec).at F).post enc Tryd.prog Tryd.f13 false true false false) := by
  obtain ⟨places, hx⟩ := reads os enc
  refine returnsInHanded_of_row (C := Tryd.checked) (s := OpenSpec.ofChange Rows.utfFourSpec) ownNone started (by kernel_rfl) Tryd.func13
    (witness_row_at (enc := enc) (C := Tryd.checked) false (laidWorld os) #[.int .i32 0, .int .i64 0, .int .u8 0] rfl (by kernel_rfl) (by kernel_rfl) (by kernel_rfl)
      (OpenSpec.preRow_of_cond 8 hx (by kernel_rfl) (fun k hk => by cases hk) (by kernel_rfl) (laid_met os))) ?_
  intro W base args ds gs before hval hW _ _ _ hL _ _
  exact contract H enc W base args ds gs before hval hW hL

theorem said : Rows.UtfFourSaid :=
  OpenClaim.holds_of_cond 13 Tryd.f13 rfl rfl rfl rfl rfl rfl rfl ⟨rfl, rfl, rfl, rfl, rfl⟩ rfl rfl rfl rfl rfl (by kernel_rfl) Tryd.func13 (by kernel_rfl)
    (of_decide_eq_true (by kernel_rfl)) (by unfold Func.isWrapper; first | (rw [if_pos (by decide +kernel)]; kernel_rfl) | (rw [if_neg (by decide +kernel)]; exact ⟨rfl, rfl⟩))
    (fun os started H enc _ F => by rw [OpenClaim.pre_eq_preRow]; exact lifted os started H enc F)

/-- No parameter wants a stand-in; the program's own looks are off: what the card asks. -/
theorem plain (f : FuncId) (fn : Func) (hf : Tryd.pinned.checked.prog.funcNamed "rotulus/rotuluslaw1.UtfFour" = some f) (hfn : Tryd.pinned.checked.prog.funcs[f]? = some fn) :
    false = Tryd.pinned.checked.prog.looks [] ∧ ∀ (j : Nat) t, fn.params[j]? = some t → Tryd.pinned.checked.prog.wantsStandIn t = false := by
  obtain rfl : f = 13 := Option.some.inj ((show Tryd.prog.funcNamed "rotulus/rotuluslaw1.UtfFour" = some 13 by kernel_rfl).symm.trans hf) |>.symm
  obtain rfl : fn = Tryd.f13 := (Option.some.inj (Tryd.func13.symm.trans hfn)).symm
  refine ⟨by kernel_rfl, fun j t ht => ?_⟩
  rw [Tryd.params13] at ht
  have hm := Array.mem_of_getElem? ht
  simp at hm
  rcases hm with rfl | rfl | rfl
  · exact (show Tryd.prog.wantsStandIn 21 = false by kernel_rfl)
  · exact (show Tryd.prog.wantsStandIn 3 = false by kernel_rfl)
  · exact (show Tryd.prog.wantsStandIn 5 = false by kernel_rfl)

/-- THE CARD. -/
theorem card : Rows.UtfFourCardSaid :=
  Claim7.holds_tied_plain_at .later [] _ _ _ _ said (fun _ h => by cases h) (by kernel_rfl) (fun _ h => by cases h) utfFour_row_tie rfl ⟨rfl, rfl⟩ (by kernel_rfl) rfl plain (by kernel_rfl)
end Go.Proofs.YtbhfhkmcnomggaaDoor.utfFour
