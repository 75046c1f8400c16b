/-
  The statement UtfOne: two signs as bytes, one of which was turned: the signs are the document's, never more than bytes, at least one. For every two signs, every place and byte; it holds where the table of widths is as its initialiser lays it, which the card ties to the program's text.
-/
import Derived.Test.YtbhfhkmcnomggaaDoorFrame
import Derived.Test.YtbhfhkmcnomggaaDoorArgs
import Derived.Test.YtbhfhkmcnomggaaDoorApp
import Derived.Test.YtbhfhkmcnomggaaDoorShort
import Derived.Test.YtbhfhkmcnomggaaDoorEnc
import Derived.Test.YtbhfhkmcnomggaaDoorRefPut
namespace Go.Proofs.YtbhfhkmcnomggaaDoor.utfOne
open Go.ChangeShapes Go.WideShapes Go.ChangeAt Go.RowKit

theorem brk_len (st : St) : (brk st).length = if st.waits = 0 then 0 else 1 := by unfold brk; split <;> rfl
/-- A step tells no more than one sign for its byte, and one for what broke off. -/
theorem step_len (st : St) (b : Int) : (stO st b).length + (brk (stS st b)).length ≤ 1 + (brk st).length ∧ 1 ≤ (stO st b).length + (brk (stS st b)).length := by
  have key : ∀ c, (begO c).length + (brk (begS c)).length = 1 := by
    intro c
    unfold begO begS
    split
    · simp [brk, st0]
    · split
      · simp [brk, st0]
      · simp [brk]
  unfold stO stS
  split
  · rename_i g
    have hw : (brk st).length = 1 := by rw [brk_len, if_neg (by have := g.1; omega)]
    unfold onO onS
    split
    · simp [brk, st0]
    · have : st.waits + 1 ≠ 0 := by have := g.1; omega
      simp [brk, this]
  · have := key b
    rw [List.length_append]
    omega
theorem run_len : ∀ (l : List Int) (st : St), st.ok → (∀ b ∈ l, 0 ≤ b) → (runO st l).length + (brk (runS st l)).length ≤ l.length + (brk st).length ∧ (l ≠ [] → 1 ≤ (runO st l).length + (brk (runS st l)).length)
  | [], st, _, _ => by simp [runO, runS]
  | b :: l, st, hok, hb => by
    have h0 := hb b (by simp)
    have s := step_len st b
    have r := run_len l (stS st b) (stS_ok st b hok h0) fun x hx => hb x (by simp [hx])
    simp only [runO, runS, List.length_append, List.length_cons]
    refine ⟨by omega, fun _ => ?_⟩
    cases l with
    | nil => simp only [runO, runS, List.length_nil]; omega
    | cons c l => have := r.2 (by simp); omega
theorem all_len (s : ByteArray) (h : 0 < s.size) : (allO (octs s)).length ≤ s.size ∧ 1 ≤ (allO (octs s)).length := by
  have r := run_len (octs s) st0 st0_ok (octs_pos s)
  have hb : (brk st0).length = 0 := by simp [brk, st0]
  rw [octs_length] at r
  unfold allO
  rw [List.length_append]
  exact ⟨by omega, r.2 (octs_ne h)⟩
theorem enc_len (r : Int) : 1 ≤ (⟨(Lib.encodeRune r).toArray⟩ : ByteArray).size ∧ (⟨(Lib.encodeRune r).toArray⟩ : ByteArray).size ≤ 4 := by
  have e : (⟨(Lib.encodeRune r).toArray⟩ : ByteArray).size = (Lib.encodeRuneZ r).length := by
    show (Array.size _) = _
    simp [Lib.encodeRune]
  rw [e]
  by_cases h0 : r < 0 ∨ 1114111 < r ∨ (55296 ≤ r ∧ r ≤ 57343)
  · rw [Lib.encodeRuneZ_bad (by omega)]; simp
  · by_cases h1 : r < 128
    · rw [Lib.encodeRuneZ_one (by omega) (by omega)]; simp
    · by_cases h2 : r < 2048
      · rw [Lib.encodeRuneZ_two (by omega) (by omega)]; simp
      · by_cases h3 : r < 65536
        · rw [Lib.encodeRuneZ_three (by omega)]; simp
        · rw [Lib.encodeRuneZ_four (by omega) (by omega)]; simp
theorem xor_range (x y : Int) : 0 ≤ bits .xor .u8 x y ∧ bits .xor .u8 x y ≤ 255 := by
  have e : bits .xor .u8 x y = IntKind.u8.wrap ((BitVec.ofInt 8 x ^^^ BitVec.ofInt 8 y).toNat : Int) := rfl
  have h := (BitVec.ofInt 8 x ^^^ BitVec.ofInt 8 y).isLt
  rw [e]
  generalize (BitVec.ofInt 8 x ^^^ BitVec.ofInt 8 y).toNat = k at h
  have : IntKind.u8.wrap (k : Int) = (k : Int) % 256 := by simp [IntKind.wrap, IntKind.signed, IntKind.bits]
  omega

set_option maxHeartbeats 1600000 in
theorem walk (a : Int) (ha : -2147483648 ≤ a ∧ a ≤ 2147483647) (b : Int) (hb : -2147483648 ≤ b ∧ b ≤ 2147483647) (p : Int) (_ : -9223372036854775808 ≤ p ∧ p ≤ 9223372036854775807) (x : Int) (_ : 0 ≤ x ∧ x ≤ 255) (w : World) (hs : Spans w) : Calls Tryd.prog 6 #[.int .i32 a, .int .i32 b, .int .i64 p, .int .u8 x] w fun e w' => e = .returned (.bool true) ∧ Below w.heap.size w w' := by
  obtain ⟨i0, hi, hz0, hz1, hz2⟩ := info_parts info21
  have S := Lib.hid hs
  clear hs
  go_enter Tryd.func6, Tryd.ntmps6
  go_wp2_with fail
  refine (begun_walk w S.out).mono ?_
  rintro e w1 ⟨rfl, b1⟩
  have R1 := Lib.hid b1
  have hs1 := b1.size
  clear b1 S
  go_wp2_with fail
  refine (refPut_any a ha.1 ha.2 w1).mono ?_
  rintro e w2 ⟨rfl, b2⟩
  have R2 := Lib.hid b2
  have hs2 := b2.size
  clear b2
  go_wp2_with fail
  refine (refPut_any b hb.1 hb.2 w2).mono ?_
  rintro e w3 ⟨rfl, b3⟩
  have R3 := Lib.hid (R1.out.trans ((R2.out.mono hs1).trans (b3.mono (Nat.le_trans hs1 hs2))))
  have hs3 := b3.size
  clear b3
  have z1 := enc_len a
  have z2 := enc_len b
  generalize (⟨(Lib.encodeRune a).toArray⟩ : ByteArray) = s1 at z1 ⊢
  generalize (⟨(Lib.encodeRune b).toArray⟩ : ByteArray) = s2 at z2 ⊢
  obtain ⟨s, hse⟩ : ∃ s, s1 ++ s2 = s := ⟨_, rfl⟩
  have hz : s.size = s1.size + s2.size := by rw [← hse]; exact ByteArray.size_append
  have hps : 1 ≤ s.size := by omega
  have hps8 : s.size ≤ 8 := by omega
  clear hz
  by_cases hp0 : p < 0
  · go_wp2
    go_ret
    exact ⟨rfl, R3.out⟩
  · obtain ⟨n, rfl⟩ := Int.eq_ofNat_of_zero_le (show 0 ≤ p by omega)
    have RB := run_bytes w3 s
    have O3 := Lib.hid (bytesW_octs w3 s)
    have F3 := Lib.hid (bytesW_free w3 s)
    have B3 := Lib.hid (bytesW_below w3 s)
    have LO := Lib.hid (octs_length s)
    have OR := Lib.hid (octs_range s)
    generalize bytesW w3 s = w4 at RB O3 F3 B3
    have hk : n % s.size < s.size := Nat.mod_lt _ (by omega)
    have kc : w4.cell? ⟨w3.heap.size, n % s.size, none⟩ = some (.int .u8 (nth (octs s) (n % s.size))) := O3.out.2 _ _ (by rw [nth_get (by rw [LO.out]; exact hk)]; exact List.getElem?_eq_getElem (by rw [LO.out]; exact hk))
    have kf : w4.frozen? ⟨w3.heap.size, n % s.size, none⟩ = false := F3.out _ hk
    have OA := octs_setCell O3.out (show n % s.size < (octs s).length by rw [LO.out]; exact hk) (bits .xor .u8 (nth (octs s) (n % s.size)) x)
    have BW : Below w3.heap.size w3 (w4.setCell ⟨w3.heap.size, n % s.size, none⟩ (.int .u8 (bits .xor .u8 (nth (octs s) (n % s.size)) x))) := B3.out.setCell (Nat.le_refl _) _
    have LA : ((octs s).set (n % s.size) (bits .xor .u8 (nth (octs s) (n % s.size)) x)).length = s.size := by rw [List.length_set]; exact LO.out
    have RA : ∀ u ∈ (octs s).set (n % s.size) (bits .xor .u8 (nth (octs s) (n % s.size)) x), 0 ≤ u ∧ u ≤ 255 := fun u hu => by
      rcases List.mem_or_eq_of_mem_set hu with h | rfl
      · exact OR.out u h
      · exact xor_range _ _
    obtain ⟨t, hte⟩ : ∃ t, textOf ((octs s).set (n % s.size) (bits .xor .u8 (nth (octs s) (n % s.size)) x)) = t := ⟨_, rfl⟩
    have htz : t.size = s.size := by rw [← hte, textOf_size]; exact LA
    have CA := fun c => conv_octs OA RA s.size c LA
    rw [hte] at CA
    have OAH := Lib.hid OA
    have BWH := Lib.hid BW
    have LAH := Lib.hid LA
    have RAH := Lib.hid RA
    have TE := Lib.hid hte
    have TZ := Lib.hid htz
    have LL := Lib.hid (all_len t (by omega))
    rw [htz] at LL
    have ht8 : t.size ≤ 8 := by omega
    clear OA BW LA RA hte htz
    go_wp2_with fail
    clear kc kf
    have hszA := BWH.out.size
    generalize w4.setCell ⟨w3.heap.size, n % s.size, none⟩ (.int .u8 (bits .xor .u8 (nth (octs s) (n % s.size)) x)) = wa at OAH BWH CA hszA ⊢
    have HB := Lib.hid (R3.out.trans (BWH.out.mono (R3.out.size)))
    have hsA := HB.out.size
    refine (all_walk t (by omega) wa).mono ?_
    rintro e w5 ⟨v5, rfl, hv5, b5⟩
    obtain ⟨A5, c5, rfl⟩ := hv5.shape
    have V5 := Lib.hid hv5
    have B5 := Lib.hid b5
    have hs5 := b5.size
    clear hv5 b5 CA
    have CB := fun c => TE.out ▸ conv_octs (OAH.out.below B5.out (Nat.le_refl _)) RAH.out s.size c LAH.out
    go_wp2_with fail
    refine (refAll_walk t (by omega) w5).mono ?_
    rintro e w6 ⟨v6, rfl, hv6, b6⟩
    obtain ⟨A6, c6, rfl⟩ := hv6.shape
    have V6 := Lib.hid hv6
    have B6 := Lib.hid b6
    have hs6 := b6.size
    have hlen6 := runO_length (octs t) st0
    rw [octs_length] at hlen6
    have hl6 : (runO st0 (octs t)).length ≤ 1000000 := by omega
    clear hv6 b6 hlen6 CB
    rcases waits_brk _ (run_ok t) with ⟨hw5, hbk⟩ | ⟨hw5, hbk, hst⟩
    · have hall : allO (octs t) = runO st0 (octs t) ++ [65533] := by unfold allO; rw [hbk]
      have HA := Lib.hid hall
      clear hall hbk
      go_wp2_with (at_builtin; refine wpList_append_own_at _ rfl _ _ 24 rfl w5.heap.size 21 i0 (.int .i32 0) 1 4 Tryd.underlying24 hi hz0 hz1 hz2 rfl (by decide) (.slice A6 (runO st0 (octs t)).length c6) (runO st0 (octs t)).length _ rfl (V6.out.alloc _) ⟨w6.heap.size, 0, none⟩ 1 1 [.int .i32 65533] rfl rfl (cell_new_at rfl _ _) (one_rune _) (fits1 (by omega)) (fits4 (by omega)) (by simp; omega) ?_; intro v7 w7 hown7 hg7 _ _)
      have N7 : Below w5.heap.size w5 w7 := ((B6.out.alloc hs6 _).grown hg7 (by simp; omega) (fun j e => (World.ownsRow.lt V6.out j e).1))
      have O7 : Has w7 w5.heap.size v7 (allO (octs t)) := by
        rw [HA.out]
        unfold Has
        rw [List.length_append, List.map_append]
        simpa using hown7
      obtain ⟨A7, c7, rfl⟩ := O7.shape
      have Q7 := Lib.hid (O7.sq).2
      have B7 := Lib.hid N7
      have hs7 := N7.size
      have Q5 := Lib.hid (((V5.out.sq).2.below N7).up N7.size)
      clear hown7 hg7 N7 O7
      obtain ⟨hll1, hll2⟩ := LL.out
      have hll3 : (1 : Int) ≤ ((allO (octs t)).length : Int) := by omega
      have hln : (allO (octs t)).length ≤ 1099511627776 := by omega
      go_wp2_with fail
      refine (eq_yes A5 A7 _ c5 _ c7 (allO (octs t)) w7 (by exact hln) Q5.out Q7.out).mono ?_
      rintro e w9 ⟨rfl, b9⟩
      have B9 := Lib.hid (B7.out.trans (b9.mono hs7))
      clear b9
      go_wp2
      go_ret
      exact ⟨rfl, HB.out.trans ((B5.out.mono hsA).trans (B9.out.mono (Nat.le_trans hsA hs5)))⟩
    · have hall : allO (octs t) = runO st0 (octs t) ++ [] := by unfold allO; rw [hbk]
      rw [List.append_nil] at hall
      have HA := Lib.hid hall
      clear hall hbk hst
      have N7 : Below w5.heap.size w5 w6 := B6.out
      have O7 : Has w6 w5.heap.size (.slice A6 (runO st0 (octs t)).length c6) (allO (octs t)) := by rw [HA.out]; exact V6.out
      have Q7 := Lib.hid (V6.out.sq).2
      have B7 := Lib.hid N7
      have hs7 := N7.size
      have Q5 := Lib.hid (((V5.out.sq).2.below N7).up N7.size)
      clear N7 O7
      rw [HA.out] at Q5 LL V5
      obtain ⟨hll1, hll2⟩ := LL.out
      have hll3 : (1 : Int) ≤ ((runO st0 (octs t)).length : Int) := by omega
      have hln : (runO st0 (octs t)).length ≤ 1099511627776 := by omega
      go_wp2_with fail
      try rw [HA.out]
      refine (eq_yes A5 A6 _ c5 _ c6 (runO st0 (octs t)) w6 (by exact hln) Q5.out Q7.out).mono ?_
      rintro e w9 ⟨rfl, b9⟩
      have B9 := Lib.hid (B7.out.trans (b9.mono hs7))
      clear b9
      go_wp2
      go_ret
      exact ⟨rfl, HB.out.trans ((B5.out.mono hsA).trans (B9.out.mono (Nat.le_trans hsA hs5)))⟩

/-- WHAT THE WALK GIVES, FOR EVERY ARGUMENT AND EVERY WORLD THAT HOLDS THE TABLE. -/
theorem contract (H : Type) (enc : TypeId × Value → H) (W : World) (base : Nat) (args : Array Value) (ds gs : List (DataW H)) (before : List MemPlace)
    (hval : ∀ (j : Nat) t v, Tryd.f6.params[j]? = some t → args[j]? = some v → Value.okWide Tryd.prog W .any base t v)
    (hW : DataW.Whole enc Tryd.prog Tryd.f6.params.toList Rows.utfOneSpec.vars false W args.toList ds gs before) (hL : laidMetH Tryd.prog Rows.utfOneRow.laid W) :
    Calls Tryd.prog 6 args W fun e W' => ∃ v, e = .returned v ∧ Rows.utfOneSpec.post enc Tryd.prog Tryd.f6 false true false false W args v W' := by
  have hW' := hW
  obtain ⟨p, q, hA0, hV, rfl, hfz, hnd⟩ := hW
  have hA : DataW.TrodAll enc Tryd.prog W 0 (fun _ => true) true Tryd.f6.params.toList args.toList ds p := hA0
  rw [Tryd.params6] at hA hval
  obtain ⟨v0, vs0, d0, ds0, p0, q0, hargs, rfl, rfl, h0, r0⟩ := trodAll_cons hA
  obtain ⟨v1, vs1, d1, ds1, p1, q1, rfl, rfl, rfl, h1, r1⟩ := trodAll_cons r0
  obtain ⟨v2, vs2, d2, ds2, p2, q2, rfl, rfl, rfl, h2, r2⟩ := trodAll_cons r1
  obtain ⟨v3, vs3, d3, ds3, p3, q3, rfl, rfl, rfl, h3, r3⟩ := trodAll_cons r2
  obtain ⟨rfl, rfl, rfl⟩ := trodAll_nil r3
  obtain rfl : args = #[v0, v1, v2, v3] := by cases args; simp_all
  obtain ⟨rfl, rfl⟩ := trodVars_none hV
  obtain ⟨x, rfl, rfl, rfl, wx⟩ := open_int Tryd.underlying21 (hval 0 21 v0 rfl rfl) h0
  obtain ⟨y, rfl, rfl, rfl, wy⟩ := open_int Tryd.underlying21 (hval 1 21 v1 rfl rfl) h1
  obtain ⟨z, rfl, rfl, rfl, wz⟩ := open_int Tryd.underlying3 (hval 2 3 v2 rfl rfl) h2
  obtain ⟨u, rfl, rfl, rfl, wu⟩ := open_int Tryd.underlying5 (hval 3 5 v3 rfl rfl) h3
  clear hA0
  refine (walk x (wf_i32 wx) y (wf_i32 wy) z (wf_i64 wz) u (wf_u8 wu) W (spans_of hL) ).mono fun e W' ⟨he, hg⟩ => ?_
  subst he
  exact ⟨_, rfl, close rfl hW' ⟨rfl, rfl, rfl⟩ (by kernel_rfl) (by kernel_rfl) hg⟩

theorem laid_met (os : Os) : laidMet Tryd.prog Rows.utfOneRow.laid ((laidWorld os).forCall (fun _ _ => 0) ⟨#[], #[.int .i32 0, .int .i32 0, .int .i64 0, .int .u8 0], []⟩).memory :=
  laidMet_of_run' 8 (by kernel_rfl) (by kernel_rfl)
theorem reads (os : Os) {H : Type} (enc : TypeId × Value → H) : ∃ places, DataW.whole enc Tryd.prog ((laidWorld os).forCall (fun _ _ => 0) ⟨#[], #[.int .i32 0, .int .i32 0, .int .i64 0, .int .u8 0], []⟩).memory Tryd.f6.params.toList Rows.utfOneSpec.vars false (#[.int .i32 0, .int .i32 0, .int .i64 0, .int .u8 0] : Array Value).toList 8 = some ([.lit (.int .i32 0), .lit (.int .i32 0), .lit (.int .i64 0), .lit (.int .u8 0)], [], places) :=
  ⟨[], by kernel_rfl⟩

set_option maxRecDepth 100000 in
theorem lifted (os : Os) (started : os.Started) (H : Type) (enc : TypeId × Value → H) (F : Stop.Interp) :
    ReturnsInHanded {} Tryd.checked os 6 .any ((OpenSpec.ofChange Rows.utfOneSpec).preRow enc Tryd.prog Tryd.f6 Rows.utfOneRow.domain false Rows.utfOneRow.laid) (((OpenSpec.ofChange Rows.utfOneSpec).at F).post enc Tryd.prog Tryd.f6 false true false false) := by
  obtain ⟨places, hx⟩ := reads os enc
  refine returnsInHanded_of_row (C := Tryd.checked) (s := OpenSpec.ofChange Rows.utfOneSpec) ownNone started (by kernel_rfl) Tryd.func6
    (witness_row_at (enc := enc) (C := Tryd.checked) false (laidWorld os) #[.int .i32 0, .int .i32 0, .int .i64 0, .int .u8 0] rfl (by kernel_rfl) (by kernel_rfl) (by kernel_rfl)
      (OpenSpec.preRow_of_cond 8 hx (by kernel_rfl) (fun k hk => by cases hk) (by kernel_rfl) (laid_met os))) ?_
  intro W base args ds gs before hval hW _ _ _ hL _ _
  exact contract H enc W base args ds gs before hval hW hL

theorem said : Rows.UtfOneSaid :=
  OpenClaim.holds_of_cond 6 Tryd.f6 rfl rfl rfl rfl rfl rfl rfl ⟨rfl, rfl, rfl, rfl, rfl⟩ rfl rfl rfl rfl rfl (by kernel_rfl) Tryd.func6 (by kernel_rfl)
    (of_decide_eq_true (by kernel_rfl)) (by unfold Func.isWrapper; first | (rw [if_pos (by decide +kernel)]; kernel_rfl) | (rw [if_neg (by decide +kernel)]; exact ⟨rfl, rfl⟩))
    (fun os started H enc _ F => by rw [OpenClaim.pre_eq_preRow]; exact lifted os started H enc F)

/-- No parameter wants a stand-in; the program's own looks are off: what the card asks. -/
theorem plain (f : FuncId) (fn : Func) (hf : Tryd.pinned.checked.prog.funcNamed "rotulus/rotuluslaw1.UtfOne" = some f) (hfn : Tryd.pinned.checked.prog.funcs[f]? = some fn) :
    false = Tryd.pinned.checked.prog.looks [] ∧ ∀ (j : Nat) t, fn.params[j]? = some t → Tryd.pinned.checked.prog.wantsStandIn t = false := by
  obtain rfl : f = 6 := Option.some.inj ((show Tryd.prog.funcNamed "rotulus/rotuluslaw1.UtfOne" = some 6 by kernel_rfl).symm.trans hf) |>.symm
  obtain rfl : fn = Tryd.f6 := (Option.some.inj (Tryd.func6.symm.trans hfn)).symm
  refine ⟨by kernel_rfl, fun j t ht => ?_⟩
  rw [Tryd.params6] at ht
  have hm := Array.mem_of_getElem? ht
  simp at hm
  rcases hm with rfl | rfl | rfl
  · exact (show Tryd.prog.wantsStandIn 21 = false by kernel_rfl)
  · exact (show Tryd.prog.wantsStandIn 3 = false by kernel_rfl)
  · exact (show Tryd.prog.wantsStandIn 5 = false by kernel_rfl)

/-- THE CARD. -/
theorem card : Rows.UtfOneCardSaid :=
  Claim7.holds_tied_plain_at .later [] _ _ _ _ said (fun _ h => by cases h) (by kernel_rfl) (fun _ h => by cases h) utfOne_row_tie rfl ⟨rfl, rfl⟩ (by kernel_rfl) rfl plain (by kernel_rfl)
end Go.Proofs.YtbhfhkmcnomggaaDoor.utfOne
