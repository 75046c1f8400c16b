/-
  The statement BaseTurn: of a text of which a sign was turned, or a part is missing, the code tells what the reference tells; a turned one never tells the same bytes. For every text (of which the statement takes the first forty bytes), every number as place and every byte; it holds where the table of widths is as its initialiser lays it, which the card ties to the program's text.
-/
import Derived.Test.YtgmijnnhanpocabGreatDoorQBEvZ0
import Derived.Test.YtgmijnnhanpocabGreatDoorQBBase0
import Derived.Test.YtgmijnnhanpocabGreatDoorQBBase2
import Derived.Laws.BitsAllLaws
namespace Go.Proofs.YtgmijnnhanpocabGreatDoor.baseTurn
open Go.ChangeShapes Go.WideShapes Go.ChangeAt Go.RowKit
open BM
theorem getV_some (l : List Nat) : ∃ (Y : ByteArray) (b : Bool), getV l = .tuple #[.string Y, .bool b] ∧ (b = true → Byt (bts Y) ∧ putL (bts Y) = l) := by
 unfold getV
 split
 ·rename_i b hb
  obtain ⟨h1, h2⟩ := put_get hb
  exact ⟨_, _, rfl, fun _ => by rw [bts_txt h2]; exact ⟨h2, h1⟩⟩
 ·exact ⟨_, _, rfl, fun h => by cases h⟩
theorem list_same (l : List UInt8) : (l == l) = true := by simp
theorem xor_lt {c x : Nat} (hc : c < 256) (hx : x < 256) : c ^^^ x < 256 := Nat.xor_lt_two_pow (n := 8) hc hx
theorem xor_zero {c x : Nat} (h : c ^^^ x = c) : x = 0 := by
 have h1 : c ^^^ (c ^^^ x) = c ^^^ c := by rw [h]
 rw [← Nat.xor_assoc, Nat.xor_self, Nat.zero_xor] at h1
 exact h1
theorem set_same {l : List Nat} {r c e : Nat} (hc : l[r]? = some c) (h : l.set r e = l) : e = c := by
 have hr := (List.getElem?_eq_some_iff.1 hc).1
 have h1 := congrArg (·[r]?) h
 simp only [List.getElem?_set_self hr, hc] at h1
 exact Option.some.inj h1
set_option maxRecDepth 100000 in
set_option maxHeartbeats 12800000 in
theorem walk (s0 : ByteArray) (_ : s0.size ≤ 9223372036854775807) (y : Int) (hyr : -9223372036854775808 ≤ y ∧ y ≤ 9223372036854775807) (x : Int) (hxr : 0 ≤ x ∧ x ≤ 255) (w : World) (hs : Spans w) :
  Calls Tryz.prog 4 #[.string s0, .int .i64 y, .int .u8 x] w fun e w' => e = .returned (.bool true) ∧ Below w.heap.size w w' := by
 have S := Lib.hid hs
 obtain ⟨x, rfl⟩ : ∃ x' : Nat, x = (x' : Int) := ⟨x.toNat, by omega⟩
 have hx : x < 256 := by omega
 clear hs hxr
 go_enter Tryz.func4, Tryz.ntmps4
 go_wp2_with fail
 refine (Ev.Trues.at Ev.begun14 w S.out).mono ?_
 rintro e w1 ⟨rfl, b1⟩
 have B1 := Lib.hid b1
 have SW := Lib.hid (short_walk s0 40 w1)
 have SL := Lib.hid (shortS_size s0 40)
 clear b1
 go_wp2_with fail
 refine SW.out.mono ?_
 rintro e w2 ⟨rfl, rfl⟩
 generalize shortS s0 40 = s at SL ⊢
 have PW := Lib.hid (put_walk s w1 (by have := SL.out; omega))
 clear SW
 go_wp2_with fail
 refine PW.out.mono ?_
 rintro e w2 ⟨rfl, b2⟩
 have B2 := Lib.hid (B1.out.trans (b2.mono B1.out.size))
 obtain ⟨L, hL⟩ : ∃ L, putL (bts s) = L := ⟨_, rfl⟩
 have LB := Lib.hid (show Byt L from by rw [← hL]; exact putL_byt _)
 have LL := Lib.hid (show L.length = (s.size + 2) / 3 * 4 from by rw [← hL, putL_len, bts_len])
 have HL := Lib.hid hL
 rw [hL]
 obtain ⟨n, hn⟩ : ∃ n, L.length = n := ⟨_, rfl⟩
 have hts : (txt L).size = n := by rw [txt_size, hn]
 have hn60 : n ≤ 60 := by have := SL.out; have := LL.out; omega
 have HN := Lib.hid hn
 have RB := Lib.hid (run_bytesN w2 (txt L))
 rw [hts] at RB
 obtain ⟨cp, hcp⟩ : ∃ cp, grownCap w2 n 0 5 = cp := ⟨_, rfl⟩
 rw [hcp] at RB
 have O3 := Lib.hid (show OctN (bytesN w2 (txt L)) w2.heap.size L from by have h := bytesN_octs w2 (txt L); rw [bts_txt LB.out] at h; exact h)
 have F3 := Lib.hid (show ∀ j, j < n → (bytesN w2 (txt L)).frozen? ⟨w2.heap.size, j, none⟩ = false from fun j hj => bytesN_free w2 (txt L) j (by rw [hts]; exact hj))
 have B3 := Lib.hid (show Below w.heap.size w (bytesN w2 (txt L)) from B2.out.trans ((bytesN_below w2 (txt L)).mono B2.out.size))
 obtain ⟨g, hg⟩ : ∃ g, w2.heap.size = g := ⟨_, rfl⟩
 have HG := Lib.hid (show w.heap.size ≤ g from by rw [← hg]; exact B2.out.size)
 rw [hg] at RB O3 F3
 obtain ⟨w3, hw3⟩ : ∃ w3, bytesN w2 (txt L) = w3 := ⟨_, rfl⟩
 rw [hw3] at RB O3 F3 B3
 clear b2 PW hL hn hcp hg hw3 hts
 go_wp2_with fail
 rw [RB.out]
 by_cases hn0 : n = 0
 ·subst hn0
  obtain rfl : s = { data := #[] } := by
   refine bts_inj (List.eq_nil_of_length_eq_zero ?_ |>.trans rfl)
   have h1 := LL.out
   rw [HN.out] at h1
   rw [bts_len]
   omega
  go_wp2_with fail
  go_ret
  exact ⟨rfl, B3.out⟩
 ·have hnp : ¬ (n : Int) = 0 := by omega
  have hnp2 : ((n : Int) == 0) = false := by simp; omega
  have hse : (s.toList == ({ data := #[] } : ByteArray).toList) = false := txt_ne (fun e => hn0 (by
   have h1 := LL.out
   rw [HN.out, e] at h1
   exact h1))
  have hse2 : s.toList.isEmpty = false := by
   rw [Bool.eq_false_iff]
   intro h
   rw [List.isEmpty_iff, ByteArray.toList_eq] at h
   have h1 := LL.out
   rw [HN.out, ← bts_len s, show bts s = [] from by unfold bts; rw [h]; rfl] at h1
   exact hn0 h1
  by_cases hy0 : y < 0
  ·go_wp2_with fail
   go_ret
   exact ⟨rfl, B3.out⟩
  ·obtain ⟨r, hr⟩ : ∃ r : Nat, y.tmod (n : Int) = (r : Int) := ⟨(y.tmod (n : Int)).toNat, by have := Int.tmod_nonneg (n : Int) (show 0 ≤ y by omega); omega⟩
   have hrn : r < n := by
    have h1 := Int.tmod_lt_of_pos y (show (0 : Int) < (n : Int) by omega)
    omega
   obtain ⟨c, hc⟩ : ∃ c, L[r]? = some c := ⟨_, List.getElem?_eq_getElem (by rw [HN.out]; exact hrn)⟩
   have HC := Lib.hid hc
   have hc2 : c < 256 := LB.out c (List.mem_of_getElem? hc)
   have c0 : w3.cell? ⟨g, r, none⟩ = some (.int .u8 (c : Int)) := O3.out.2 r c hc
   have f0 := F3.out r hrn
   obtain ⟨e, he⟩ : ∃ e, c ^^^ x = e := ⟨_, rfl⟩
   have he2 : e < 256 := by rw [← he]; exact xor_lt hc2 hx
   have hxor : bits .xor .u8 (c : Int) (x : Int) = (e : Int) := by rw [u8_xor_nat c x hc2 hx, he]
   have HE := Lib.hid he
   have CV := Lib.hid (fun cap => O3.out.conv (c := cap) LB.out HN.out)
   have O4 := Lib.hid (O3.out.set (i := r) (by rw [HN.out]; exact hrn) e)
   have LB' := Lib.hid (show Byt (L.set r e) from fun z hz => by
    rcases List.mem_or_eq_of_mem_set hz with h | h
    ·exact LB.out z h
    ·rw [h]; exact he2)
   have LN' := Lib.hid (show (L.set r e).length = n from by rw [List.length_set, HN.out])
   have B4 := Lib.hid (show Below w.heap.size w (w3.setCell ⟨g, r, none⟩ (u8v e)) from B3.out.setCell (p := ⟨g, r, none⟩) HG.out _)
   have hts : (txt L).size = n := by rw [txt_size, HN.out]
   have htd : bts ((txt L).extract 0 r) = L.take r := by rw [bts_ext, bts_txt LB.out, List.drop_zero, Nat.sub_zero]
   have hrs : r ≤ (txt L).size := by rw [hts]; omega
   have hr0 : (0 : Int) ≤ (r : Int) := by omega
   have hrn' : (r : Int) < (n : Int) := by omega
   have u8e : u8v e = .int .u8 (e : Int) := rfl
   obtain ⟨w4, hw4⟩ : ∃ w4, w3.setCell ⟨g, r, none⟩ (u8v e) = w4 := ⟨_, rfl⟩
   rw [hw4] at O4 B4
   rw [u8e] at hw4
   have HW4 := Lib.hid hw4
   obtain ⟨T, hT⟩ : ∃ T, txt L = T := ⟨_, rfl⟩
   rw [hT] at CV hts htd hrs ⊢
   have TD := Lib.hid htd
   have TS := Lib.hid hts
   clear hc he hw4 htd hT
   go_wp2_with fail
   rw [CV.out]
   go_wp2_with fail
   rw [HW4.out]
   have CV4 := Lib.hid (fun cap => O4.out.conv (c := cap) LB'.out LN'.out)
   obtain ⟨Q, hQ⟩ : ∃ Q, txt (L.set r e) = Q := ⟨_, rfl⟩
   have QB := Lib.hid (show bts Q = L.set r e from by rw [← hQ, bts_txt LB'.out])
   have QS := Lib.hid (show Q.size ≤ 60 from by rw [← bts_len, QB.out, LN'.out]; exact hn60)
   have HQ := Lib.hid hQ
   rw [hQ] at CV4
   obtain ⟨Y, yb, hY, hYs⟩ := getV_some (L.set r e)
   have GW := Lib.hid (fun W => get_walk Q W (by have := QS.out; omega))
   have RW := Lib.hid (fun W => refGet_walk Q W (by have := QS.out; omega))
   simp only [QB.out, hY] at GW RW
   have YS := Lib.hid hYs
   clear c0 f0 hQ hY hYs CV u8e
   go_wp2_with fail
   rw [CV4.out]
   go_wp2_with fail
   refine (GW.out w4).mono ?_
   rintro e' w5 ⟨rfl, b5⟩
   have B5 := Lib.hid (B4.out.trans (b5.mono B4.out.size))
   have O5 := Lib.hid (O4.out.below b5)
   have CV5 := Lib.hid (fun cap => O5.out.conv (c := cap) LB'.out LN'.out)
   rw [HQ.out] at CV5
   clear CV4 GW
   go_wp2_with fail
   rw [CV5.out]
   go_wp2_with fail
   refine (RW.out w5).mono ?_
   rintro e' w6 ⟨rfl, b6⟩
   have B6 := Lib.hid (B5.out.trans (b6.mono B5.out.size))
   have hTs : T.size = n := TS.out
   obtain ⟨U, hU⟩ : ∃ U, T.extract 0 r = U := ⟨_, rfl⟩
   have UB := Lib.hid (show bts U = L.take r from by rw [← hU]; exact TD.out)
   have US := Lib.hid (show U.size ≤ 60 from by rw [← bts_len, UB.out, List.length_take]; omega)
   obtain ⟨V, vb, hV, _⟩ := getV_some (L.take r)
   have GU := Lib.hid (fun W => get_walk U W (by have := US.out; omega))
   have RU := Lib.hid (fun W => refGet_walk U W (by have := US.out; omega))
   simp only [UB.out, hV] at GU RU
   clear b5 b6 RW CV5 hV
   go_wp2_with fail
   refine (GU.out w6).mono ?_
   rintro e' w7 ⟨rfl, b7⟩
   have B7 := Lib.hid (B6.out.trans (b7.mono B6.out.size))
   clear b7 GU
   go_wp2_with fail
   refine (RU.out w7).mono ?_
   rintro e' w8 ⟨rfl, b8⟩
   have B8 := Lib.hid (B7.out.trans (b8.mono B7.out.size))
   clear b8 RU
   have BE : ∀ b : Bool, (b == b) = true := fun b => by cases b <;> rfl
   have NE := Lib.hid (show yb = true → x ≠ 0 → (Y.toList == s.toList) = false from fun h1 h2 => txt_ne fun h3 => by
    obtain ⟨_, h4⟩ := YS.out h1
    rw [h3, HL.out] at h4
    exact h2 (xor_zero (HE.out.trans (set_same HC.out h4.symm))))
   cases yb with
   | false =>
    go_wp2_with fail
    go_ret
    exact ⟨rfl, B8.out⟩
   | true =>
    by_cases hx0 : x = 0
    ·subst hx0
     go_wp2_with fail
     go_ret
     exact ⟨rfl, B8.out⟩
    ·have hxz : ((x : Int) == 0) = false := by simp; omega
     have hys := NE.out rfl hx0
     go_wp2_with fail
     go_ret
     exact ⟨rfl, B8.out⟩
set_option maxRecDepth 100000 in
theorem contract (H : Type) (enc : TypeId × Value → H) (W : World) (base : Nat) (args : Array Value) (ds gs : List (DataW H)) (before : List MemPlace)
  (hval : ∀ (j : Nat) t v, Tryz.f4.params[j]? = some t → args[j]? = some v → Value.okWide Tryz.prog W .any base t v)
  (hW : DataW.Whole enc Tryz.prog Tryz.f4.params.toList Rows.baseTurnSpec.vars false W args.toList ds gs before) (hL : laidMetH Tryz.prog Rows.baseTurnRow.laid W) :
  Calls Tryz.prog 4 args W fun e W' => ∃ v, e = .returned v ∧ Rows.baseTurnSpec.post enc Tryz.prog Tryz.f4 false true false false W args v W' := by
 have hW' := hW
 obtain ⟨p, q, hA0, hV, rfl, hfz, hnd⟩ := hW
 have hA : DataW.TrodAll enc Tryz.prog W 0 (fun _ => true) true Tryz.f4.params.toList args.toList ds p := hA0
 rw [Tryz.params4] at hA hval
 obtain ⟨v0, vs0, d0, ds0, p0, q0, hargs, rfl, rfl, h0, r0⟩ := trodAll_cons hA
 obtain ⟨v1, vs1, d1, ds1, p1, q1, rfl, rfl, rfl, h1, r1⟩ := trodAll_cons r0
 obtain ⟨v2, vs2, d2, ds2, p2, q2, rfl, rfl, rfl, h2, r2⟩ := trodAll_cons r1
 obtain ⟨rfl, rfl, rfl⟩ := trodAll_nil r2
 obtain rfl : args = #[v0, v1, v2] := by cases args; simp_all
 obtain ⟨rfl, rfl⟩ := trodVars_none hV
 obtain ⟨x, rfl, rfl, rfl, wx⟩ := Go.ChangeMaps.open_string Tryz.underlying9 (hval 0 9 v0 rfl rfl) h0
 obtain ⟨y, rfl, rfl, rfl, wy⟩ := open_int Tryz.underlying3 (hval 1 3 v1 rfl rfl) h1
 obtain ⟨z, rfl, rfl, rfl, wz⟩ := open_int Tryz.underlying5 (hval 2 5 v2 rfl rfl) h2
 clear hA0
 refine (walk x wx y (wf_i64 wy) z (wf_u8 wz) W (spans_of hL) ).mono fun e W' ⟨he, hg⟩ => ?_
 subst he
 exact ⟨_, rfl, close rfl hW' ⟨rfl, rfl, rfl⟩ (by kernel_rfl) (by kernel_rfl) hg⟩
set_option maxRecDepth 100000 in
theorem laid_met (os : Os) : laidMet Tryz.prog Rows.baseTurnRow.laid ((laidWorld os).forCall (fun _ _ => 0) ⟨#[], #[.string .empty, .int .i64 0, .int .u8 0], []⟩).memory :=
 laidMet_of_run' 8 (by kernel_rfl) (by kernel_rfl)
set_option maxRecDepth 100000 in
theorem reads (os : Os) {H : Type} (enc : TypeId × Value → H) : ∃ places, DataW.whole enc Tryz.prog ((laidWorld os).forCall (fun _ _ => 0) ⟨#[], #[.string .empty, .int .i64 0, .int .u8 0], []⟩).memory Tryz.f4.params.toList Rows.baseTurnSpec.vars false (#[.string .empty, .int .i64 0, .int .u8 0] : Array Value).toList 8 = some ([.lit (.string []), .lit (.int .i64 0), .lit (.int .u8 0)], [], places) :=
 ⟨[], by kernel_rfl⟩
set_option maxRecDepth 100000 in
theorem lifted (os : Os) (started : os.Started) (H : Type) (enc : TypeId × Value → H) (F : Stop.Interp) :
  ReturnsInHanded {} Tryz.checked os 4 .any ((OpenSpec.ofChange Rows.baseTurnSpec).preRow enc Tryz.prog Tryz.f4 Rows.baseTurnRow.domain false Rows.baseTurnRow.laid) (((OpenSpec.ofChange Rows.baseTurnSpec).at F).post enc Tryz.prog Tryz.f4 false true false false) := by
 obtain ⟨places, hx⟩ := reads os enc
 refine returnsInHanded_of_row (C := Tryz.checked) (s := OpenSpec.ofChange Rows.baseTurnSpec) ownNone started (by kernel_rfl) Tryz.func4
  (witness_row_at (enc := enc) (C := Tryz.checked) false (laidWorld os) #[.string .empty, .int .i64 0, .int .u8 0] rfl (by kernel_rfl) (by kernel_rfl) (by kernel_rfl)
   (OpenSpec.preRow_of_cond 8 hx (by kernel_rfl) (fun k hk => by cases hk) (by kernel_rfl) (laid_met os))) ?_
 intro W base args ds gs before hval hW _ _ _ hL _ _
 exact contract H enc W base args ds gs before hval hW hL
set_option maxRecDepth 100000 in
set_option maxHeartbeats 0 in
theorem facts : joinedFacts Tryz.checked.prog 4 Tryz.f4 (OpenSpec.ofChange Rows.baseTurnSpec).bare Rows.baseTurnRow = true := by
 have h1 := Sum.tables.1
 have h2 := Sum.tables.2.1
 have h3 := Sum.tables.2.2
 have h4 := Sum.mayEnter
 have e1 : Rows.baseTurnRow.lifted = Rows.baseAllRow.lifted := by kernel_rfl
 have e2 : Rows.baseTurnRow.make = Rows.baseAllRow.make := by kernel_rfl
 have h5 : (Rows.baseTurnRow.lifted == Tryz.checked.prog.liftsFinal) = true := by rw [e1]; exact Sum.lifts
 have h6 : (Tryz.checked.prog.make == some Rows.baseTurnRow.make) = true := by rw [e2]; exact Sum.make
 unfold joinedFacts
 repeat' (with_reducible refine Sum.and_mk ?_ ?_)
 all_goals first
  | with_reducible exact h1
  | with_reducible exact h2
  | with_reducible exact h4
  | with_reducible exact h5
  | with_reducible exact h6
  | (rw [h3]; as_aux_lemma => kernel_rfl)
  | (clear h1 h2 h3 h4 h5 h6 e1 e2; as_aux_lemma => kernel_rfl)
set_option maxRecDepth 100000 in
theorem said : Rows.BaseTurnSaid :=
 OpenClaim.holds_of_cond 4 Tryz.f4 rfl rfl rfl rfl rfl rfl rfl ⟨rfl, rfl, rfl, rfl, rfl⟩ rfl rfl rfl rfl rfl (by kernel_rfl) Tryz.func4 facts
  (of_decide_eq_true (by kernel_rfl)) (by unfold Func.isWrapper; first | (rw [if_pos (by decide +kernel)]; kernel_rfl) | (rw [if_neg (by decide +kernel)]; exact ⟨rfl, rfl⟩))
  (fun os started H enc _ F => by rw [OpenClaim.pre_eq_preRow]; exact lifted os started H enc F)
set_option maxRecDepth 100000 in
theorem plain (f : FuncId) (fn : Func) (hf : Tryz.pinned.checked.prog.funcNamed "rotulus/rotuluslaw14.BaseTurn" = some f) (hfn : Tryz.pinned.checked.prog.funcs[f]? = some fn) :
  false = Tryz.pinned.checked.prog.looks [] ∧ ∀ (j : Nat) t, fn.params[j]? = some t → Tryz.pinned.checked.prog.wantsStandIn t = false := by
 obtain rfl : f = 4 := Option.some.inj ((show Tryz.prog.funcNamed "rotulus/rotuluslaw14.BaseTurn" = some 4 by kernel_rfl).symm.trans hf) |>.symm
 obtain rfl : fn = Tryz.f4 := (Option.some.inj (Tryz.func4.symm.trans hfn)).symm
 refine ⟨by kernel_rfl, fun j t ht => ?_⟩
 rw [Tryz.params4] at ht
 have hm := Array.mem_of_getElem? ht
 simp at hm
 rcases hm with rfl | rfl | rfl
 ·exact (show Tryz.prog.wantsStandIn 9 = false by kernel_rfl)
 ·exact (show Tryz.prog.wantsStandIn 3 = false by kernel_rfl)
 ·exact (show Tryz.prog.wantsStandIn 5 = false by kernel_rfl)
set_option maxRecDepth 100000 in
theorem card : Rows.BaseTurnCardSaid :=
 Claim7.holds_tied_plain_at .later [] _ _ _ _ said (fun _ h => by cases h) (by kernel_rfl) (fun _ h => by cases h) baseTurn_row_tie rfl ⟨rfl, rfl⟩ (by kernel_rfl) rfl plain (by kernel_rfl)
end Go.Proofs.YtgmijnnhanpocabGreatDoor.baseTurn
