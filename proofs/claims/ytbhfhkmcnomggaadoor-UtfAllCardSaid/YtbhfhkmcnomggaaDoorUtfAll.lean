/-
  The statement UtfAll: any bytes, one by one: the signs are the document's; what waits is told at the end; then nothing is left. For every text (the statement looks at the first eighty bytes); it holds where the table of widths is as its initialiser lays it, which the card ties to the program's text.
-/
import Derived.Test.YtbhfhkmcnomggaaDoorFrame
import Derived.Test.YtbhfhkmcnomggaaDoorArgs
import Derived.Test.YtbhfhkmcnomggaaDoorApp
import Derived.Test.YtbhfhkmcnomggaaDoorShort
import Derived.Test.YtbhfhkmcnomggaaDoorReadLoop
namespace Go.Proofs.YtbhfhkmcnomggaaDoor.utfAll
open Go.ChangeShapes Go.WideShapes Go.ChangeAt Go.RowKit

set_option maxHeartbeats 1600000 in
theorem walk (x : ByteArray) (_ : x.size ≤ 9223372036854775807) (w : World) (hs : Spans w) : Calls Tryd.prog 3 #[.string x] w fun e w' => e = .returned (.bool true) ∧ Below w.heap.size w w' := by
  obtain ⟨i0, hi, hz0, hz1, hz2⟩ := info_parts info21
  obtain ⟨s, ha⟩ : ∃ s, shortS x 80 = s := ⟨_, rfl⟩
  have za : s.size ≤ 80 := by rw [← ha]; exact shortS_size x 80
  have SA := Lib.hid (fun w => short_walk x 80 w)
  rw [ha] at SA
  have S := Lib.hid hs
  clear hs ha
  go_enter Tryd.func3, Tryd.ntmps3
  go_wp2_with fail
  refine (begun_walk w S.out).mono ?_
  rintro e w1 ⟨rfl, b1⟩
  have R1 := Lib.hid b1
  have hs1 := b1.size
  clear b1 S
  go_wp2_with fail
  refine (SA.out w1).mono ?_
  rintro e w' ⟨rfl, rfl⟩
  go_wp2_with fail
  refine (refAll_walk s (by omega) w1).mono ?_
  rintro e w2 ⟨v2, rfl, hv2, b2⟩
  obtain ⟨A2, c2, rfl⟩ := hv2.shape
  have V2 := Lib.hid hv2
  have R2 := Lib.hid (R1.out.trans (b2.mono hs1))
  have hs2 := R2.out.size
  clear hv2 b2
  go_wp2_with fail
  have RD := Lib.hid (show Rd (w2.alloc (.cells #[.int .i32 0, .int .i64 0, .int .i64 0, .int .u8 0, .int .u8 0] 29)) w2.heap.size st0 from ⟨heap_alloc_new w2 _, st0_ok⟩)
  have B3 := Lib.hid ((Below.refl w2.heap.size w2).alloc (Nat.le_refl _) (.cells #[.int .i32 0, .int .i64 0, .int .i64 0, .int .u8 0, .int .u8 0] 29))
  have hz3 : (w2.alloc (.cells #[.int .i32 0, .int .i64 0, .int .i64 0, .int .u8 0, .int .u8 0] 29)).heap.size = w2.heap.size + 1 := by simp
  have Z3 := Lib.hid hz3
  clear hz3
  generalize w2.alloc (.cells #[.int .i32 0, .int .i64 0, .int .i64 0, .int .u8 0, .int .u8 0] 29) = w3 at RD B3 Z3 ⊢
  go_loopw [7, 8] (fun v i wr => ∃ k : Nat, i = .int .i64 k ∧ k ≤ s.size ∧ Has wr (w2.heap.size + 1) v (runO st0 ((octs s).take k)) ∧ Rd wr w2.heap.size (runS st0 ((octs s).take k)) ∧ Below w2.heap.size w2 wr) (fun _ i _ => s.size - (intOf i).toNat)
  case atStart => exact ⟨0, rfl, Nat.zero_le _, Has.nothing _ _, RD.out, B3.out⟩
  case round =>
    obtain ⟨k, rfl, hk, hv, hr, hb⟩ := hrel
    by_cases hlt : k < s.size
    · have hx := octs_at s k hlt
      have C := put_any w2.heap.size ((s[k]'hlt).toNat : Int) hx.1 hx.2 wr _ hr
      have hne : some w2.heap.size ≠ u7.ownBlock := fun e => (hv.ne (Nat.lt_succ_self _)) e.symm
      have hgl : (runO st0 ((octs s).take k)).length ≤ 200 := by
        have := runO_length ((octs s).take k) st0
        have := List.length_take_le k (octs s)
        omega
      have CH := Lib.hid C
      have HV := Lib.hid hv
      have HR := Lib.hid hr
      have HB := Lib.hid hb
      have hsz := hb.size
      have hbl := hr.lt
      obtain ⟨A7, c7, rfl⟩ := hv.shape
      clear C hv hr hb
      go_wp2_with fail
      refine CH.out.mono ?_
      rintro e w5 ⟨v5, rfl, ht⟩
      obtain ⟨h5, r5, k5, _⟩ := ht
      obtain ⟨A5, c5, rfl⟩ := h5.shape
      have N := run_next s k hlt
      have NH := Lib.hid N
      have hnl : (stO (runS st0 ((octs s).take k)) ((s[k]'hlt).toNat : Int)).length ≤ 2 := stO_length _ _
      generalize stO (runS st0 ((octs s).take k)) ((s[k]'hlt).toNat : Int) = new at h5 NH hnl ⊢
      generalize stS (runS st0 ((octs s).take k)) ((s[k]'hlt).toNat : Int) = st' at r5 NH
      have V5 := Lib.hid (HV.out.kept k5 (fun e => HV.out.ne (Nat.lt_succ_self _) e) rfl)
      have H5 := Lib.hid h5
      have R5 := Lib.hid r5
      have K5 := Lib.hid k5
      have hs5 := k5.size
      clear h5 r5 k5 N
      go_wp2_with (at_builtin; refine wpl_app rfl _ _ 24 rfl (w2.heap.size + 1) 21 i0 (.int .i32 0) 1 4 Tryd.underlying24 hi hz0 hz1 hz2 rfl (by decide) (.slice A7 (runO st0 ((octs s).take k)).length c7) (runO st0 ((octs s).take k)).length _ rfl V5.out A5 new.length c5 (new.map (Value.int .i32)) rfl w5.heap.size (by exact (H5.out.sq).2) (runes_one new) (fits (by omega)).1 (fits (by omega)).2 (by omega) ?_; intro v6 w6 hown6 hg6 _; have N6 := Lib.hid (read_step HV.out (Nat.lt_succ_self _) HB.out (Nat.le_refl _) hsz R5.out K5.out hown6 hg6); clear hown6 hg6)
      go_roundw
      case rel => exact ⟨k + 1, by go_num, by omega, by rw [NH.out.1]; exact N6.out.1, by rw [NH.out.2]; exact N6.out.2.1, N6.out.2.2⟩
      case measure => simp [intOf]; omega
    · have e : (octs s).take k = octs s := take_all _ (by rw [octs_length]; omega)
      rw [e] at hv hr
      have HV := Lib.hid hv
      have HR := Lib.hid hr
      have HB := Lib.hid hb
      have hsz := hb.size
      have hbl := hr.lt
      obtain ⟨A7, c7, rfl⟩ := hv.shape
      have Q7 := Lib.hid (hv.sq).2
      have Q2 := Lib.hid (((V2.out.sq).2.below hb).up hb.size)
      have hgl : (runO st0 (octs s)).length ≤ 200 := by
        have := runO_length (octs s) st0
        rw [octs_length] at this
        omega
      clear hv hr hb e
      go_wp2_with fail
      refine (eq_yes A7 A2 _ c7 _ c2 (runO st0 (octs s)) wr (by omega) Q7.out Q2.out).mono ?_
      rintro e w8 ⟨rfl, b8⟩
      have B8 := Lib.hid b8
      have hs8 := b8.size
      clear b8
      have R8 := Lib.hid (show Rd w8 w2.heap.size (runS st0 (octs s)) from ⟨(B8.out.block _ hbl).trans HR.out.row, HR.out.ok⟩)
      go_wp2_with fail
      refine (waits_any _ w8 _ R8.out).mono ?_
      rintro e w' ⟨rfl, rfl⟩
      go_wp2_with fail
      refine (end_any w2.heap.size w8 _ R8.out).mono ?_
      rintro e w9 ⟨v9, rfl, ht⟩
      obtain ⟨h9, r9, k9, _⟩ := ht
      have hs9 := k9.size
      have V8 := HV.out.below B8.out HV.out.lt
      have V9 := V8.kept k9 (fun e => HV.out.ne (Nat.lt_succ_self _) e) rfl
      have L7 := Lib.hid (V9.sq).2
      have hs9 : wr.heap.size ≤ w9.heap.size := Nat.le_trans hs8 hs9
      have B9 := Lib.hid (show Below w2.heap.size w2 w9 from (HB.out.trans (B8.out.mono hsz)).trans (k9.below (Nat.le_trans hsz hs8) (fun j e => by injection e with e; omega) (fun j e => by simp [Value.ownBlock] at e)))
      have R9 := Lib.hid r9
      have Q2' := Lib.hid (Sq.up (((V2.out.sq).2).below B9.out) (Nat.le_trans hsz hs9))
      clear k9 r9 RD B3 Z3 V8 V9
      rcases waits_brk _ (run_ok s) with ⟨hw5, hbk⟩ | ⟨hw5, hbk, hst⟩
      · have hal : allO (octs s) = runO st0 (octs s) ++ brk (runS st0 (octs s)) := rfl
        rw [hbk] at hal h9
        obtain ⟨A9, c9, rfl⟩ := h9.shape
        have HA := Lib.hid hal
        have H9 := Lib.hid h9
        have L2 := Lib.hid (Q2'.out)
        clear hal h9 hbk
        go_wp2_with (first
          | (at_builtin; refine wpl_app rfl _ (.tmp 51) 24 rfl w9.heap.size 21 i0 (.int .i32 0) 1 4 Tryd.underlying24 hi hz0 hz1 hz2 rfl (by decide) (.slice none 0 0) 0 [] rfl (World.ownsRow_nil _ _ _ _) A2 (runO st0 (octs s)).length c2 ((runO st0 (octs s)).map (Value.int .i32)) rfl w9.heap.size (by exact L2.out) (runes_one _) (fits (by omega)).1 (fits (by omega)).2 (Nat.le_refl _) ?_; intro v10 w10 hown hg _; simp only [Nat.zero_add, List.nil_append] at hown; (have O10 := Lib.hid (show Has w10 w9.heap.size v10 (runO st0 (octs s)) from hown)); (have N10 := Lib.hid ((Below.refl w9.heap.size w9).grown hg (Nat.le_refl _) (fun j e => by simp [Value.ownBlock] at e))); (have s10 := N10.out.size); clear hown hg)
          | (at_builtin; refine wpList_append_own_at _ rfl (.tmp 52) (.tmp 53) 24 rfl w9.heap.size 21 i0 (.int .i32 0) 1 4 Tryd.underlying24 hi hz0 hz1 hz2 rfl (by decide) v10 (runO st0 (octs s)).length _ rfl (O10.out.alloc _) ⟨w10.heap.size, 0, none⟩ 1 1 [.int .i32 65533] rfl rfl (cell_new_at rfl _ _) (one_rune _) (fits1 (by omega)) (fits4 (by omega)) (by simp; omega) ?_; intro v11 w11 hown hg _ _; (have O11 := Lib.hid (show Has w11 w9.heap.size v11 (allO (octs s)) by rw [HA.out]; unfold Has; rw [List.length_append, List.map_append]; simpa using hown)); (have N11 := Lib.hid ((N10.out.alloc s10 _).grown hg (by simp; omega) (fun j e => (World.ownsRow.lt O10.out j e).1))); (have s11 := N11.out.size); clear hown hg)
          | (at_builtin; refine wpl_app rfl _ (.tmp 55) 24 rfl w11.heap.size 21 i0 (.int .i32 0) 1 4 Tryd.underlying24 hi hz0 hz1 hz2 rfl (by decide) (.slice none 0 0) 0 [] rfl (World.ownsRow_nil _ _ _ _) A7 (runO st0 (octs s)).length c7 ((runO st0 (octs s)).map (Value.int .i32)) rfl w9.heap.size (by exact L7.out.below N11.out) (runes_one _) (fits (by omega)).1 (fits (by omega)).2 (Nat.le_refl _) ?_; intro v12 w12 hown hg _; simp only [Nat.zero_add, List.nil_append] at hown; (have O12 := Lib.hid (show Has w12 w11.heap.size v12 (runO st0 (octs s)) from hown)); (have N12 := Lib.hid ((Below.refl w11.heap.size w11).grown hg (Nat.le_refl _) (fun j e => by simp [Value.ownBlock] at e))); (have s12 := N12.out.size); clear hown hg)
          | (at_builtin; refine wpl_app rfl (.tmp 56) (.tmp 57) 24 rfl w11.heap.size 21 i0 (.int .i32 0) 1 4 Tryd.underlying24 hi hz0 hz1 hz2 rfl (by decide) v12 (runO st0 (octs s)).length _ rfl O12.out A9 1 c9 ([65533].map (Value.int .i32)) rfl w9.heap.size (by exact (H9.out.sq).2.below (N11.out.trans (N12.out.mono s11))) (runes_one _) (fits (by omega)).1 (fits (by omega)).2 s12 ?_; intro v13 w13 hown hg _; (have O13 := Lib.hid (show Has w13 w11.heap.size v13 (allO (octs s)) by rw [HA.out]; unfold Has; rw [List.length_append, List.map_append]; exact hown)); (have N13 := Lib.hid (N12.out.grown hg s12 (fun j e => (World.ownsRow.lt O12.out j e).1))); (have s13 := N13.out.size); clear hown hg))
        obtain ⟨A13, c13, rfl⟩ := O13.out.shape
        obtain ⟨A11, c11, rfl⟩ := O11.out.shape
        have NX := Lib.hid (N11.out.trans (N13.out.mono s11))
        have QB := Lib.hid ((O11.out.below N13.out O11.out.lt).sq).2
        have QA := Lib.hid (O13.out.sq).2
        have hal3 : (allO (octs s)).length ≤ 300 := by rw [HA.out, List.length_append]; simp only [List.length_cons, List.length_nil]; omega
        refine (eq_yes A13 A11 _ c13 _ c11 (allO (octs s)) w13 (by omega) QA.out QB.out).mono ?_
        rintro e w14 ⟨rfl, b14⟩
        have B14 := Lib.hid b14
        have s14 := b14.size
        have X14 := Lib.hid (NX.out.trans (b14.mono NX.out.size))
        clear b14
        have R14 := Lib.hid (show Rd w14 w2.heap.size st0 from ⟨(X14.out.block _ R9.out.lt).trans R9.out.row, st0_ok⟩)
        go_wp2_with fail
        refine (waits_any _ w14 _ R14.out).mono ?_
        rintro e w' ⟨rfl, rfl⟩
        have hw0 : st0.waits = 0 := rfl
        go_wp2_with fail
        refine (all_walk s (by omega) w14).mono ?_
        rintro e w15 ⟨v15, rfl, hv15, b15⟩
        obtain ⟨A15, c15, rfl⟩ := hv15.shape
        have Q15 := Lib.hid (hv15.sq).2
        have s15 := b15.size
        have QC := Lib.hid (((QB.out.below B14.out).up s14).below b15 |>.up s15)
        have X15 := Lib.hid (X14.out.trans (b15.mono X14.out.size))
        clear hv15 b15
        go_wp2_with fail
        refine (eq_yes A15 A11 _ c15 _ c11 (allO (octs s)) w15 (by omega) Q15.out QC.out).mono ?_
        rintro e w16 ⟨rfl, b16⟩
        have X16 := Lib.hid (X15.out.trans (b16.mono X15.out.size))
        clear b16
        have R16 := Lib.hid (show Rd w16 w2.heap.size st0 from ⟨(X16.out.block _ R9.out.lt).trans R9.out.row, st0_ok⟩)
        go_wp2_with fail
        refine (end_any w2.heap.size w16 _ R16.out).mono ?_
        rintro e w17 ⟨v17, rfl, h17, r17, k17, _⟩
        have hb0 : brk st0 = [] := rfl
        rw [hb0] at h17
        obtain ⟨A17, c17, rfl⟩ := h17.shape
        have X17 := Lib.hid ((B9.out.trans (X16.out.mono (B9.out.size))).trans (k17.below (Nat.le_trans B9.out.size X16.out.size) (fun j e => by injection e with e; omega) (fun j e => by simp [Value.ownBlock] at e)))
        clear h17 r17 k17 hb0
        go_wp2
        go_ret
        exact ⟨rfl, R2.out.trans (X17.out.mono hs2)⟩
      · have hal : allO (octs s) = runO st0 (octs s) ++ brk (runS st0 (octs s)) := rfl
        rw [hbk] at hal h9
        obtain ⟨A9, c9, rfl⟩ := h9.shape
        rw [List.append_nil] at hal
        have HA := Lib.hid hal
        have H9 := Lib.hid h9
        have L2 := Lib.hid (Q2'.out)
        clear hal h9 hbk hst
        go_wp2_with (first
          | (at_builtin; refine wpl_app rfl _ (.tmp 55) 24 rfl w9.heap.size 21 i0 (.int .i32 0) 1 4 Tryd.underlying24 hi hz0 hz1 hz2 rfl (by decide) (.slice none 0 0) 0 [] rfl (World.ownsRow_nil _ _ _ _) A7 (runO st0 (octs s)).length c7 ((runO st0 (octs s)).map (Value.int .i32)) rfl w9.heap.size (by exact L7.out) (runes_one _) (fits (by omega)).1 (fits (by omega)).2 (Nat.le_refl _) ?_; intro v12 w12 hown hg _; simp only [Nat.zero_add, List.nil_append] at hown; (have O12 := Lib.hid (show Has w12 w9.heap.size v12 (runO st0 (octs s)) from hown)); (have N12 := Lib.hid ((Below.refl w9.heap.size w9).grown hg (Nat.le_refl _) (fun j e => by simp [Value.ownBlock] at e))); (have s12 := N12.out.size); clear hown hg)
          | (at_builtin; refine wpl_app rfl (.tmp 56) (.tmp 57) 24 rfl w9.heap.size 21 i0 (.int .i32 0) 1 4 Tryd.underlying24 hi hz0 hz1 hz2 rfl (by decide) v12 (runO st0 (octs s)).length _ rfl O12.out A9 0 c9 ([].map (Value.int .i32)) rfl w9.heap.size (by exact (H9.out.sq).2.below N12.out) (runes_one _) (fits (by omega)).1 (fits (by omega)).2 s12 ?_; intro v13 w13 hown hg _; (have O13 := Lib.hid (show Has w13 w9.heap.size v13 (allO (octs s)) by rw [HA.out]; unfold Has; simpa using hown)); (have N13 := Lib.hid (N12.out.grown hg s12 (fun j e => (World.ownsRow.lt O12.out j e).1))); (have s13 := N13.out.size); clear hown hg))
        rw [HA.out] at O13
        obtain ⟨A13, c13, rfl⟩ := O13.out.shape
        have NX := Lib.hid N13.out
        have QB := Lib.hid ((L2.out.below N13.out).up s13)
        have QA := Lib.hid (O13.out.sq).2
        have hal3 : (runO st0 (octs s)).length ≤ 300 := by omega
        refine (eq_yes A13 A2 _ c13 _ c2 (runO st0 (octs s)) w13 (by omega) QA.out QB.out).mono ?_
        rintro e w14 ⟨rfl, b14⟩
        have B14 := Lib.hid b14
        have s14 := b14.size
        have X14 := Lib.hid (NX.out.trans (b14.mono NX.out.size))
        clear b14
        have R14 := Lib.hid (show Rd w14 w2.heap.size st0 from ⟨(X14.out.block _ R9.out.lt).trans R9.out.row, st0_ok⟩)
        go_wp2_with fail
        refine (waits_any _ w14 _ R14.out).mono ?_
        rintro e w' ⟨rfl, rfl⟩
        have hw0 : st0.waits = 0 := rfl
        go_wp2_with fail
        refine (all_walk s (by omega) w14).mono ?_
        rintro e w15 ⟨v15, rfl, hv15, b15⟩
        rw [HA.out] at hv15
        obtain ⟨A15, c15, rfl⟩ := hv15.shape
        have Q15 := Lib.hid (hv15.sq).2
        have s15 := b15.size
        have QC := Lib.hid (((QB.out.below B14.out).up s14).below b15 |>.up s15)
        have X15 := Lib.hid (X14.out.trans (b15.mono X14.out.size))
        clear hv15 b15
        go_wp2_with fail
        refine (eq_yes A15 A2 _ c15 _ c2 (runO st0 (octs s)) w15 (by omega) Q15.out QC.out).mono ?_
        rintro e w16 ⟨rfl, b16⟩
        have X16 := Lib.hid (X15.out.trans (b16.mono X15.out.size))
        clear b16
        have R16 := Lib.hid (show Rd w16 w2.heap.size st0 from ⟨(X16.out.block _ R9.out.lt).trans R9.out.row, st0_ok⟩)
        go_wp2_with fail
        refine (end_any w2.heap.size w16 _ R16.out).mono ?_
        rintro e w17 ⟨v17, rfl, h17, r17, k17, _⟩
        have hb0 : brk st0 = [] := rfl
        rw [hb0] at h17
        obtain ⟨A17, c17, rfl⟩ := h17.shape
        have X17 := Lib.hid ((B9.out.trans (X16.out.mono (B9.out.size))).trans (k17.below (Nat.le_trans B9.out.size X16.out.size) (fun j e => by injection e with e; omega) (fun j e => by simp [Value.ownBlock] at e)))
        clear h17 r17 k17 hb0
        go_wp2
        go_ret
        exact ⟨rfl, R2.out.trans (X17.out.mono hs2)⟩

/-- WHAT THE WALK GIVES, FOR EVERY ARGUMENT AND EVERY WORLD THAT HOLDS THE TABLE. -/
theorem contract (H : Type) (enc : TypeId × Value → H) (W : World) (base : Nat) (args : Array Value) (ds gs : List (DataW H)) (before : List MemPlace)
    (hval : ∀ (j : Nat) t v, Tryd.f3.params[j]? = some t → args[j]? = some v → Value.okWide Tryd.prog W .any base t v)
    (hW : DataW.Whole enc Tryd.prog Tryd.f3.params.toList Rows.utfAllSpec.vars false W args.toList ds gs before) (hL : laidMetH Tryd.prog Rows.utfAllRow.laid W) :
    Calls Tryd.prog 3 args W fun e W' => ∃ v, e = .returned v ∧ Rows.utfAllSpec.post enc Tryd.prog Tryd.f3 false true false false W args v W' := by
  have hW' := hW
  obtain ⟨p, q, hA0, hV, rfl, hfz, hnd⟩ := hW
  have hA : DataW.TrodAll enc Tryd.prog W 0 (fun _ => true) true Tryd.f3.params.toList args.toList ds p := hA0
  rw [Tryd.params3] at hA hval
  obtain ⟨v0, vs0, d0, ds0, p0, q0, hargs, rfl, rfl, h0, r0⟩ := trodAll_cons hA
  obtain ⟨rfl, rfl, rfl⟩ := trodAll_nil r0
  obtain rfl : args = #[v0] := by cases args; simp_all
  obtain ⟨rfl, rfl⟩ := trodVars_none hV
  obtain ⟨x, rfl, rfl, rfl, wx⟩ := Go.ChangeMaps.open_string Tryd.underlying9 (hval 0 9 v0 rfl rfl) h0
  clear hA0
  refine (walk x wx W (spans_of hL) ).mono fun e W' ⟨he, hg⟩ => ?_
  subst he
  exact ⟨_, rfl, close rfl hW' ⟨rfl, rfl, rfl⟩ (by kernel_rfl) (by kernel_rfl) hg⟩

theorem laid_met (os : Os) : laidMet Tryd.prog Rows.utfAllRow.laid ((laidWorld os).forCall (fun _ _ => 0) ⟨#[], #[.string .empty], []⟩).memory :=
  laidMet_of_run' 8 (by kernel_rfl) (by kernel_rfl)
theorem reads (os : Os) {H : Type} (enc : TypeId × Value → H) : ∃ places, DataW.whole enc Tryd.prog ((laidWorld os).forCall (fun _ _ => 0) ⟨#[], #[.string .empty], []⟩).memory Tryd.f3.params.toList Rows.utfAllSpec.vars false (#[.string .empty] : Array Value).toList 8 = some ([.lit (.string [])], [], places) :=
  ⟨[], by kernel_rfl⟩

set_option maxRecDepth 100000 in
theorem lifted (os : Os) (started : os.Started) (H : Type) (enc : TypeId × Value → H) (F : Stop.Interp) :
    ReturnsInHanded {} Tryd.checked os 3 .any ((OpenSpec.ofChange Rows.utfAllSpec).preRow enc Tryd.prog Tryd.f3 Rows.utfAllRow.domain false Rows.utfAllRow.laid) (((OpenSpec.ofChange Rows.utfAllSpec).at F).post enc Tryd.prog Tryd.f3 false true false false) := by
  obtain ⟨places, hx⟩ := reads os enc
  refine returnsInHanded_of_row (C := Tryd.checked) (s := OpenSpec.ofChange Rows.utfAllSpec) ownNone started (by kernel_rfl) Tryd.func3
    (witness_row_at (enc := enc) (C := Tryd.checked) false (laidWorld os) #[.string .empty] rfl (by kernel_rfl) (by kernel_rfl) (by kernel_rfl)
      (OpenSpec.preRow_of_cond 8 hx (by kernel_rfl) (fun k hk => by cases hk) (by kernel_rfl) (laid_met os))) ?_
  intro W base args ds gs before hval hW _ _ _ hL _ _
  exact contract H enc W base args ds gs before hval hW hL

theorem said : Rows.UtfAllSaid :=
  OpenClaim.holds_of_cond 3 Tryd.f3 rfl rfl rfl rfl rfl rfl rfl ⟨rfl, rfl, rfl, rfl, rfl⟩ rfl rfl rfl rfl rfl (by kernel_rfl) Tryd.func3 (by kernel_rfl)
    (of_decide_eq_true (by kernel_rfl)) (by unfold Func.isWrapper; first | (rw [if_pos (by decide +kernel)]; kernel_rfl) | (rw [if_neg (by decide +kernel)]; exact ⟨rfl, rfl⟩))
    (fun os started H enc _ F => by rw [OpenClaim.pre_eq_preRow]; exact lifted os started H enc F)

/-- No parameter wants a stand-in; the program's own looks are off: what the card asks. -/
theorem plain (f : FuncId) (fn : Func) (hf : Tryd.pinned.checked.prog.funcNamed "rotulus/rotuluslaw1.UtfAll" = some f) (hfn : Tryd.pinned.checked.prog.funcs[f]? = some fn) :
    false = Tryd.pinned.checked.prog.looks [] ∧ ∀ (j : Nat) t, fn.params[j]? = some t → Tryd.pinned.checked.prog.wantsStandIn t = false := by
  obtain rfl : f = 3 := Option.some.inj ((show Tryd.prog.funcNamed "rotulus/rotuluslaw1.UtfAll" = some 3 by kernel_rfl).symm.trans hf) |>.symm
  obtain rfl : fn = Tryd.f3 := (Option.some.inj (Tryd.func3.symm.trans hfn)).symm
  refine ⟨by kernel_rfl, fun j t ht => ?_⟩
  rw [Tryd.params3] at ht
  have hm := Array.mem_of_getElem? ht
  simp at hm
  subst hm
  exact (show Tryd.prog.wantsStandIn 9 = false by kernel_rfl)

/-- THE CARD. -/
theorem card : Rows.UtfAllCardSaid :=
  Claim7.holds_tied_plain_at .later [] _ _ _ _ said (fun _ h => by cases h) (by kernel_rfl) (fun _ h => by cases h) utfAll_row_tie rfl ⟨rfl, rfl⟩ (by kernel_rfl) rfl plain (by kernel_rfl)
end Go.Proofs.YtbhfhkmcnomggaaDoor.utfAll
