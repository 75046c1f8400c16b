/-
  The statement UtfParts: a text in two parts, read byte by byte, or in one: the same signs; what waits between them is from 0 to 3 bytes, no more than there were. For every text (the statement looks at the first sixty bytes), every place; it holds where the table of widths is as its initialiser lays it, which the card ties to the program's text.
-/
import Derived.Test.YtbhfhkmcnomggaaDoorFrame
import Derived.Test.YtbhfhkmcnomggaaDoorArgs
import Derived.Test.YtbhfhkmcnomggaaDoorApp
import Derived.Test.YtbhfhkmcnomggaaDoorShort
import Derived.Test.YtbhfhkmcnomggaaDoorReadLoop
namespace Go.Proofs.YtbhfhkmcnomggaaDoor.utfParts
open Go.ChangeShapes Go.WideShapes Go.ChangeAt Go.RowKit

set_option maxHeartbeats 1600000 in
theorem walk (x : ByteArray) (_ : x.size ≤ 9223372036854775807) (p : Int) (_ : -9223372036854775808 ≤ p ∧ p ≤ 9223372036854775807) (w : World) (hs : Spans w) : Calls Tryd.prog 5 #[.string x, .int .i64 p] w fun e w' => e = .returned (.bool true) ∧ Below w.heap.size w w' := by
  obtain ⟨i0, hi, hz0, hz1, hz2⟩ := info_parts info21
  obtain ⟨s, ha⟩ : ∃ s, shortS x 60 = s := ⟨_, rfl⟩
  have za : s.size ≤ 60 := by rw [← ha]; exact shortS_size x 60
  have SA := Lib.hid (fun w => short_walk x 60 w)
  rw [ha] at SA
  have S := Lib.hid hs
  clear hs ha
  have main : ∀ (h u : ByteArray), octs h ++ octs u = octs s → h.size + u.size = s.size → (p < 0 ∧ h = ByteArray.empty ∧ u = s ∨ 0 ≤ p ∧ p % ((s.size : Int) + 1) = (h.size : Int) ∧ s.extract 0 h.size = h ∧ s.extract h.size s.size = u) → Calls Tryd.prog 5 #[.string x, .int .i64 p] w fun e w' => e = .returned (.bool true) ∧ Below w.heap.size w w' := by
    intro h u hcat hsz0 hpq
    have CAT := Lib.hid hcat
    clear hcat
    go_enter Tryd.func5, Tryd.ntmps5
    go_wp2_with fail
    refine (begun_walk w S.out).mono ?_
    rintro e w1 ⟨rfl, b1⟩
    have R1 := Lib.hid b1
    have hs1 := b1.size
    clear b1 S
    go_wp2_with fail
    refine (SA.out w1).mono ?_
    rintro e w' ⟨rfl, rfl⟩
    rcases hpq with ⟨hp, rfl, rfl⟩ | ⟨hp, hpq, hh, hu⟩
    · have he : ByteArray.empty.size = 0 := rfl
      have RB := run_bytes (w1.alloc (.cells #[.int .i32 0, .int .i64 0, .int .i64 0, .int .u8 0, .int .u8 0] 29)) ByteArray.empty
      have AO := Lib.hid (bytesW_octs (w1.alloc (.cells #[.int .i32 0, .int .i64 0, .int .i64 0, .int .u8 0, .int .u8 0] 29)) ByteArray.empty)
      have AB := Lib.hid (bytesW_below (w1.alloc (.cells #[.int .i32 0, .int .i64 0, .int .i64 0, .int .u8 0, .int .u8 0] 29)) ByteArray.empty)
      have AZ := Lib.hid (bytesW_size (w1.alloc (.cells #[.int .i32 0, .int .i64 0, .int .i64 0, .int .u8 0, .int .u8 0] 29)) ByteArray.empty)
      have RDN := Lib.hid (heap_alloc_new w1 (.cells #[.int .i32 0, .int .i64 0, .int .i64 0, .int .u8 0, .int .u8 0] 29))
      have B2 := Lib.hid ((Below.refl w1.heap.size w1).alloc (Nat.le_refl _) (.cells #[.int .i32 0, .int .i64 0, .int .i64 0, .int .u8 0, .int .u8 0] 29))
      have hz3 : (w1.alloc (.cells #[.int .i32 0, .int .i64 0, .int .i64 0, .int .u8 0, .int .u8 0] 29)).heap.size = w1.heap.size + 1 := by simp
      rw [hz3] at AO AB AZ
      go_wp2_with fail
      generalize bytesW (w1.alloc (.cells #[.int .i32 0, .int .i64 0, .int .i64 0, .int .u8 0, .int .u8 0] 29)) ByteArray.empty = w3 at AO AB AZ ⊢
      generalize (w1.alloc (.cells #[.int .i32 0, .int .i64 0, .int .i64 0, .int .u8 0, .int .u8 0] 29)) = w2 at AB RDN B2 hz3 RB
      clear RB
      have Z3 := AZ.out
      go_loopw [8, 33] (fun v i wr => ∃ k : Nat, i = .int .i64 k ∧ k ≤ ByteArray.empty.size ∧ Has wr (w1.heap.size + 1) v (runO st0 ((octs ByteArray.empty).take k)) ∧ Rd wr w1.heap.size (runS st0 ((octs ByteArray.empty).take k)) ∧ Below w1.heap.size w1 wr ∧ Hid (wr.heap[w1.heap.size + 1]? = w3.heap[w1.heap.size + 1]?) ∧ v.ownBlock ≠ some (w1.heap.size + 1) ∧ w1.heap.size + 1 < wr.heap.size) (fun _ i _ => ByteArray.empty.size - (intOf i).toNat)
      case atStart => exact ⟨0, rfl, Nat.zero_le _, Has.nothing _ _, ⟨(AB.out.block _ (by omega)).trans RDN.out, st0_ok⟩, B2.out.trans (AB.out.mono (by omega)), Lib.hid rfl, by simp [Value.ownBlock], by omega⟩
      case round =>
        obtain ⟨k, rfl, hk, hv, hr, hb, HG, hvg, hgl⟩ := hrel
        by_cases hlt : k < ByteArray.empty.size
        · rw [he] at hlt; omega
        · have e : (octs ByteArray.empty).take k = octs ByteArray.empty := take_all _ (by rw [octs_length]; omega)
          rw [e] at hv hr
          have hw3 := (run_ok ByteArray.empty).waits
          have hwl := waits_run (octs ByteArray.empty) st0 st0_ok (octs_pos ByteArray.empty)
          have hw00 : st0.waits = 0 := rfl
          rw [octs_length, hw00] at hwl
          have hLl : (runO st0 (octs ByteArray.empty)).length ≤ 200 := by have := runO_length (octs ByteArray.empty) st0; rw [octs_length] at this; omega
          have FIN : Hid (runO st0 (octs ByteArray.empty) ++ runO (runS st0 (octs ByteArray.empty)) (octs u) = runO st0 (octs u) ∧ runS (runS st0 (octs ByteArray.empty)) (octs u) = runS st0 (octs u)) := Lib.hid ⟨(runO_append _ _ _).symm.trans (congrArg (runO st0) CAT.out), (runS_append _ _ _).symm.trans (congrArg (runS st0) CAT.out)⟩
          generalize runO st0 (octs ByteArray.empty) = L1 at hv hLl FIN
          generalize runS st0 (octs ByteArray.empty) = S1 at hr FIN hw3 hwl
          obtain ⟨hwa, hwb⟩ := hw3
          have hwc : S1.waits ≤ 0 := by omega
          clear hwl
          have HV := Lib.hid hv
          have HR := Lib.hid hr
          have HB := Lib.hid hb
          have HVL := Lib.hid hv.lt
          have hsz := hb.size
          have hbl := hr.lt
          obtain ⟨A8, c8, rfl⟩ := hv.shape
          clear hv hr hb e HG hvg hw00
          go_wp2_with fail
          refine (waits_any _ wr _ HR.out).mono ?_
          rintro e w' ⟨rfl, rfl⟩
          obtain ⟨wl, rfl⟩ : ∃ wl : World, wl = wr := ⟨_, rfl⟩
          have RB := run_bytes wl u
          have BO := Lib.hid (bytesW_octs wl u)
          have BB := Lib.hid (bytesW_below wl u)
          have BZ := Lib.hid (bytesW_size wl u)
          go_wp2_with fail
          generalize bytesW wl u = w4 at BO BB BZ ⊢
          clear RB
          have Z4 := BZ.out
          go_loopw [8, 50] (fun v i wr => ∃ k : Nat, i = .int .i64 k ∧ k ≤ u.size ∧ Has wr (w1.heap.size + 1) v (L1 ++ runO S1 ((octs u).take k)) ∧ Rd wr w1.heap.size (runS S1 ((octs u).take k)) ∧ Below w1.heap.size w1 wr ∧ Hid (wr.heap[wl.heap.size]? = w4.heap[wl.heap.size]?) ∧ v.ownBlock ≠ some (wl.heap.size) ∧ wl.heap.size < wr.heap.size) (fun _ i _ => u.size - (intOf i).toNat)
          case atStart => exact ⟨0, rfl, Nat.zero_le _, by rw [List.take_zero]; simp only [runO, List.append_nil]; exact HV.out.below BB.out HV.out.lt, by rw [List.take_zero]; exact ⟨(BB.out.block _ hbl).trans HR.out.row, HR.out.ok⟩, HB.out.trans (BB.out.mono hsz), Lib.hid rfl, fun e => by have := HVL.out _ e; omega, by omega⟩
          case round =>
            obtain ⟨k, rfl, hk, hv, hr, hb, HG, hvg, hgl⟩ := hrel
            by_cases hlt : k < u.size
            · have hx := octs_at u k hlt
              have kc := octs_cell BO.out HG.out hlt
              have C := put_any w1.heap.size ((u[k]'hlt).toNat : Int) hx.1 hx.2 wr _ hr
              have hgl2 : (runO S1 ((octs u).take k)).length ≤ 200 := by
                have := runO_length ((octs u).take k) S1
                have := List.length_take_le k (octs u)
                omega
              obtain ⟨got, hgot⟩ : ∃ got, (L1 ++ runO S1 ((octs u).take k)) = got := ⟨_, rfl⟩
              have hgl3 : got.length ≤ 500 := by rw [← hgot]; rw [List.length_append]; omega
              have N := run_next' S1 u k hlt
              rw [hgot] at hv
              have CH := Lib.hid C
              have HV := Lib.hid hv
              have HB := Lib.hid hb
              have NH := Lib.hid N
              have GT := Lib.hid hgot
              have VG := Lib.hid hvg
              have hsz := hb.size
              have hbl := hr.lt
              obtain ⟨A7, c7, rfl⟩ := hv.shape
              clear C hv hr hb N hgot hvg hgl2
              go_wp2_with fail
              refine CH.out.mono ?_
              rintro e w5 ⟨v5, rfl, h5, r5, k5, _⟩
              obtain ⟨A5, c5, rfl⟩ := h5.shape
              have hnl : (stO (runS S1 ((octs u).take k)) ((u[k]'hlt).toNat : Int)).length ≤ 2 := stO_length _ _
              generalize stO (runS S1 ((octs u).take k)) ((u[k]'hlt).toNat : Int) = new at h5 NH hnl ⊢
              generalize stS (runS S1 ((octs u).take k)) ((u[k]'hlt).toNat : Int) = st' at r5 NH
              have V5 := Lib.hid (HV.out.kept k5 (fun e => HV.out.ne (Nat.lt_succ_self _) e) rfl)
              have H5 := Lib.hid h5
              have R5 := Lib.hid r5
              have K5 := Lib.hid k5
              have hs5 := k5.size
              clear h5 r5 k5
              go_wp2_with (at_builtin; refine wpl_app rfl _ _ 24 rfl (w1.heap.size + 1) 21 i0 (.int .i32 0) 1 4 Tryd.underlying24 hi hz0 hz1 hz2 rfl (by decide) (.slice A7 got.length c7) got.length _ rfl V5.out A5 new.length c5 (new.map (Value.int .i32)) rfl w5.heap.size (by exact (H5.out.sq).2) (runes_one new) (fits (by omega)).1 (fits (by omega)).2 (by omega) ?_; intro v6 w6 hown6 hg6 hat6; (have N6 := Lib.hid (read_step HV.out (Nat.lt_succ_self _) HB.out (Nat.le_refl _) hsz R5.out K5.out hown6 hg6)); (have M6 := Lib.hid (read_step2 VG.out (by omega) hgl K5.out hg6 hat6)); (have s6 := hg6.size); clear hown6 hg6 hat6)
              go_roundw
              case rel => exact ⟨k + 1, by go_num, by omega, by rw [NH.out.1, ← List.append_assoc, GT.out]; exact N6.out.1, by rw [NH.out.2]; exact N6.out.2.1, N6.out.2.2, Lib.hid (M6.out.1.trans HG.out), M6.out.2, by omega⟩
              case measure => simp [intOf]; omega
            · have e : (octs u).take k = octs u := take_all _ (by rw [octs_length]; omega)
              rw [e] at hv hr
              rw [FIN.out.1] at hv
              rw [FIN.out.2] at hr
              have HV := Lib.hid hv
              have HR := Lib.hid hr
              have HB := Lib.hid hb
              have hsz := hb.size
              have hbl := hr.lt
              have hLs : (runO st0 (octs u)).length ≤ 200 := by have := runO_length (octs u) st0; rw [octs_length] at this; omega
              have hLe : (brk (runS st0 (octs u))).length ≤ 1 := brk_length _
              have hal : allO (octs u) = runO st0 (octs u) ++ brk (runS st0 (octs u)) := rfl
              obtain ⟨A7, c7, rfl⟩ := hv.shape
              clear hv hr hb e
              go_wp2_with fail
              refine (end_any w1.heap.size wr _ HR.out).mono ?_
              rintro e w5 ⟨v5, rfl, h5, r5, k5, _⟩
              generalize brk (runS st0 (octs u)) = en at h5 hLe hal
              obtain ⟨A5, c5, rfl⟩ := h5.shape
              have V5 := Lib.hid (HV.out.kept k5 (fun e => HV.out.ne (Nat.lt_succ_self _) e) rfl)
              have H5 := Lib.hid h5
              have R5 := Lib.hid r5
              have K5 := Lib.hid k5
              have AL := Lib.hid hal
              have hs5 := k5.size
              clear h5 r5 k5 hal
              go_wp2_with (at_builtin; refine wpl_app rfl _ _ 24 rfl (w1.heap.size + 1) 21 i0 (.int .i32 0) 1 4 Tryd.underlying24 hi hz0 hz1 hz2 rfl (by decide) (.slice A7 (runO st0 (octs u)).length c7) (runO st0 (octs u)).length _ rfl V5.out A5 en.length c5 (en.map (Value.int .i32)) rfl w5.heap.size (by exact (H5.out.sq).2) (runes_one en) (fits (by omega)).1 (fits (by omega)).2 (by omega) ?_; intro v6 w6 hown6 hg6 hat6; (have N6 := Lib.hid (read_step HV.out (Nat.lt_succ_self _) HB.out (Nat.le_refl _) hsz R5.out K5.out hown6 hg6)); (have s6 := hg6.size); clear hown6 hg6 hat6)
              have O6 := N6.out.1
              rw [← AL.out] at O6
              obtain ⟨A6, c6, rfl⟩ := O6.shape
              have V6 := Lib.hid O6
              have B6 := Lib.hid N6.out.2.2
              have hal3 : (allO (octs u)).length ≤ 300 := by rw [AL.out, List.length_append]; omega
              clear O6 N6
              refine (all_walk u (by omega) w6).mono ?_
              rintro e w7 ⟨v7, rfl, hv7, b7⟩
              obtain ⟨A9, c9, rfl⟩ := hv7.shape
              have Q7 := Lib.hid (hv7.sq).2
              have Q6 := Lib.hid (((V6.out.sq).2.below b7).up b7.size)
              have B7 := Lib.hid (B6.out.trans (b7.mono B6.out.size))
              clear hv7 b7
              go_wp2_with fail
              refine (eq_yes A6 A9 _ c6 _ c9 (allO (octs u)) w7 (by omega) Q6.out Q7.out).mono ?_
              rintro e w9 ⟨rfl, b9⟩
              have B9 := Lib.hid (B7.out.trans (b9.mono B7.out.size))
              clear b9
              go_wp2
              go_ret
              exact ⟨rfl, R1.out.trans (B9.out.mono hs1)⟩
    · have hq := hh
      have RB := run_bytes (w1.alloc (.cells #[.int .i32 0, .int .i64 0, .int .i64 0, .int .u8 0, .int .u8 0] 29)) h
      have AO := Lib.hid (bytesW_octs (w1.alloc (.cells #[.int .i32 0, .int .i64 0, .int .i64 0, .int .u8 0, .int .u8 0] 29)) h)
      have AB := Lib.hid (bytesW_below (w1.alloc (.cells #[.int .i32 0, .int .i64 0, .int .i64 0, .int .u8 0, .int .u8 0] 29)) h)
      have AZ := Lib.hid (bytesW_size (w1.alloc (.cells #[.int .i32 0, .int .i64 0, .int .i64 0, .int .u8 0, .int .u8 0] 29)) h)
      have RDN := Lib.hid (heap_alloc_new w1 (.cells #[.int .i32 0, .int .i64 0, .int .i64 0, .int .u8 0, .int .u8 0] 29))
      have B2 := Lib.hid ((Below.refl w1.heap.size w1).alloc (Nat.le_refl _) (.cells #[.int .i32 0, .int .i64 0, .int .i64 0, .int .u8 0, .int .u8 0] 29))
      have hz3 : (w1.alloc (.cells #[.int .i32 0, .int .i64 0, .int .i64 0, .int .u8 0, .int .u8 0] 29)).heap.size = w1.heap.size + 1 := by simp
      rw [hz3] at AO AB AZ
      have HU := Lib.hid hu
      clear hu
      go_wp2_with fail
      simp only [hpq]
      clear hpq hh hq
      generalize bytesW (w1.alloc (.cells #[.int .i32 0, .int .i64 0, .int .i64 0, .int .u8 0, .int .u8 0] 29)) h = w3 at AO AB AZ ⊢
      generalize (w1.alloc (.cells #[.int .i32 0, .int .i64 0, .int .i64 0, .int .u8 0, .int .u8 0] 29)) = w2 at AB RDN B2 hz3 RB
      clear RB
      have Z3 := AZ.out
      go_loopw [8, 33] (fun v i wr => ∃ k : Nat, i = .int .i64 k ∧ k ≤ h.size ∧ Has wr (w1.heap.size + 1) v (runO st0 ((octs h).take k)) ∧ Rd wr w1.heap.size (runS st0 ((octs h).take k)) ∧ Below w1.heap.size w1 wr ∧ Hid (wr.heap[w1.heap.size + 1]? = w3.heap[w1.heap.size + 1]?) ∧ v.ownBlock ≠ some (w1.heap.size + 1) ∧ w1.heap.size + 1 < wr.heap.size) (fun _ i _ => h.size - (intOf i).toNat)
      case atStart => exact ⟨0, rfl, Nat.zero_le _, Has.nothing _ _, ⟨(AB.out.block _ (by omega)).trans RDN.out, st0_ok⟩, B2.out.trans (AB.out.mono (by omega)), Lib.hid rfl, by simp [Value.ownBlock], by omega⟩
      case round =>
        obtain ⟨k, rfl, hk, hv, hr, hb, HG, hvg, hgl⟩ := hrel
        by_cases hlt : k < h.size
        · have hx := octs_at h k hlt
          have kc := octs_cell AO.out HG.out hlt
          have C := put_any w1.heap.size ((h[k]'hlt).toNat : Int) hx.1 hx.2 wr _ hr
          have hgl2 : (runO st0 ((octs h).take k)).length ≤ 200 := by
            have := runO_length ((octs h).take k) st0
            have := List.length_take_le k (octs h)
            omega
          obtain ⟨got, hgot⟩ : ∃ got, (runO st0 ((octs h).take k)) = got := ⟨_, rfl⟩
          have hgl3 : got.length ≤ 500 := by rw [← hgot]; omega
          have N := run_next' st0 h k hlt
          rw [hgot] at hv
          have CH := Lib.hid C
          have HV := Lib.hid hv
          have HB := Lib.hid hb
          have NH := Lib.hid N
          have GT := Lib.hid hgot
          have VG := Lib.hid hvg
          have hsz := hb.size
          have hbl := hr.lt
          obtain ⟨A7, c7, rfl⟩ := hv.shape
          clear C hv hr hb N hgot hvg hgl2
          go_wp2_with fail
          refine CH.out.mono ?_
          rintro e w5 ⟨v5, rfl, h5, r5, k5, _⟩
          obtain ⟨A5, c5, rfl⟩ := h5.shape
          have hnl : (stO (runS st0 ((octs h).take k)) ((h[k]'hlt).toNat : Int)).length ≤ 2 := stO_length _ _
          generalize stO (runS st0 ((octs h).take k)) ((h[k]'hlt).toNat : Int) = new at h5 NH hnl ⊢
          generalize stS (runS st0 ((octs h).take k)) ((h[k]'hlt).toNat : Int) = st' at r5 NH
          have V5 := Lib.hid (HV.out.kept k5 (fun e => HV.out.ne (Nat.lt_succ_self _) e) rfl)
          have H5 := Lib.hid h5
          have R5 := Lib.hid r5
          have K5 := Lib.hid k5
          have hs5 := k5.size
          clear h5 r5 k5
          go_wp2_with (at_builtin; refine wpl_app rfl _ _ 24 rfl (w1.heap.size + 1) 21 i0 (.int .i32 0) 1 4 Tryd.underlying24 hi hz0 hz1 hz2 rfl (by decide) (.slice A7 got.length c7) got.length _ rfl V5.out A5 new.length c5 (new.map (Value.int .i32)) rfl w5.heap.size (by exact (H5.out.sq).2) (runes_one new) (fits (by omega)).1 (fits (by omega)).2 (by omega) ?_; intro v6 w6 hown6 hg6 hat6; (have N6 := Lib.hid (read_step HV.out (Nat.lt_succ_self _) HB.out (Nat.le_refl _) hsz R5.out K5.out hown6 hg6)); (have M6 := Lib.hid (read_step2 VG.out (by omega) hgl K5.out hg6 hat6)); (have s6 := hg6.size); clear hown6 hg6 hat6)
          go_roundw
          case rel => exact ⟨k + 1, by go_num, by omega, by rw [NH.out.1, GT.out]; exact N6.out.1, by rw [NH.out.2]; exact N6.out.2.1, N6.out.2.2, Lib.hid (M6.out.1.trans HG.out), M6.out.2, by omega⟩
          case measure => simp [intOf]; omega
        · have e : (octs h).take k = octs h := take_all _ (by rw [octs_length]; omega)
          rw [e] at hv hr
          have hw3 := (run_ok h).waits
          have hwl := waits_run (octs h) st0 st0_ok (octs_pos h)
          have hw00 : st0.waits = 0 := rfl
          rw [octs_length, hw00] at hwl
          have hLl : (runO st0 (octs h)).length ≤ 200 := by have := runO_length (octs h) st0; rw [octs_length] at this; omega
          have FIN : Hid (runO st0 (octs h) ++ runO (runS st0 (octs h)) (octs u) = runO st0 (octs s) ∧ runS (runS st0 (octs h)) (octs u) = runS st0 (octs s)) := Lib.hid ⟨(runO_append _ _ _).symm.trans (congrArg (runO st0) CAT.out), (runS_append _ _ _).symm.trans (congrArg (runS st0) CAT.out)⟩
          generalize runO st0 (octs h) = L1 at hv hLl FIN
          generalize runS st0 (octs h) = S1 at hr FIN hw3 hwl
          obtain ⟨hwa, hwb⟩ := hw3
          have hwc : S1.waits ≤ ((h.size : Nat) : Int) := by omega
          clear hwl
          have HV := Lib.hid hv
          have HR := Lib.hid hr
          have HB := Lib.hid hb
          have HVL := Lib.hid hv.lt
          have hsz := hb.size
          have hbl := hr.lt
          obtain ⟨A8, c8, rfl⟩ := hv.shape
          clear hv hr hb e HG hvg hw00
          go_wp2_with fail
          refine (waits_any _ wr _ HR.out).mono ?_
          rintro e w' ⟨rfl, rfl⟩
          obtain ⟨wl, rfl⟩ : ∃ wl : World, wl = wr := ⟨_, rfl⟩
          have RB := run_bytes wl u
          have BO := Lib.hid (bytesW_octs wl u)
          have BB := Lib.hid (bytesW_below wl u)
          have BZ := Lib.hid (bytesW_size wl u)
          have hu := HU.out
          go_wp2_with fail
          generalize bytesW wl u = w4 at BO BB BZ ⊢
          clear RB
          have Z4 := BZ.out
          go_loopw [8, 50] (fun v i wr => ∃ k : Nat, i = .int .i64 k ∧ k ≤ u.size ∧ Has wr (w1.heap.size + 1) v (L1 ++ runO S1 ((octs u).take k)) ∧ Rd wr w1.heap.size (runS S1 ((octs u).take k)) ∧ Below w1.heap.size w1 wr ∧ Hid (wr.heap[wl.heap.size]? = w4.heap[wl.heap.size]?) ∧ v.ownBlock ≠ some (wl.heap.size) ∧ wl.heap.size < wr.heap.size) (fun _ i _ => u.size - (intOf i).toNat)
          case atStart => exact ⟨0, rfl, Nat.zero_le _, by rw [List.take_zero]; simp only [runO, List.append_nil]; exact HV.out.below BB.out HV.out.lt, by rw [List.take_zero]; exact ⟨(BB.out.block _ hbl).trans HR.out.row, HR.out.ok⟩, HB.out.trans (BB.out.mono hsz), Lib.hid rfl, fun e => by have := HVL.out _ e; omega, by omega⟩
          case round =>
            obtain ⟨k, rfl, hk, hv, hr, hb, HG, hvg, hgl⟩ := hrel
            by_cases hlt : k < u.size
            · have hx := octs_at u k hlt
              have kc := octs_cell BO.out HG.out hlt
              have C := put_any w1.heap.size ((u[k]'hlt).toNat : Int) hx.1 hx.2 wr _ hr
              have hgl2 : (runO S1 ((octs u).take k)).length ≤ 200 := by
                have := runO_length ((octs u).take k) S1
                have := List.length_take_le k (octs u)
                omega
              obtain ⟨got, hgot⟩ : ∃ got, (L1 ++ runO S1 ((octs u).take k)) = got := ⟨_, rfl⟩
              have hgl3 : got.length ≤ 500 := by rw [← hgot]; rw [List.length_append]; omega
              have N := run_next' S1 u k hlt
              rw [hgot] at hv
              have CH := Lib.hid C
              have HV := Lib.hid hv
              have HB := Lib.hid hb
              have NH := Lib.hid N
              have GT := Lib.hid hgot
              have VG := Lib.hid hvg
              have hsz := hb.size
              have hbl := hr.lt
              obtain ⟨A7, c7, rfl⟩ := hv.shape
              clear C hv hr hb N hgot hvg hgl2
              go_wp2_with fail
              refine CH.out.mono ?_
              rintro e w5 ⟨v5, rfl, h5, r5, k5, _⟩
              obtain ⟨A5, c5, rfl⟩ := h5.shape
              have hnl : (stO (runS S1 ((octs u).take k)) ((u[k]'hlt).toNat : Int)).length ≤ 2 := stO_length _ _
              generalize stO (runS S1 ((octs u).take k)) ((u[k]'hlt).toNat : Int) = new at h5 NH hnl ⊢
              generalize stS (runS S1 ((octs u).take k)) ((u[k]'hlt).toNat : Int) = st' at r5 NH
              have V5 := Lib.hid (HV.out.kept k5 (fun e => HV.out.ne (Nat.lt_succ_self _) e) rfl)
              have H5 := Lib.hid h5
              have R5 := Lib.hid r5
              have K5 := Lib.hid k5
              have hs5 := k5.size
              clear h5 r5 k5
              go_wp2_with (at_builtin; refine wpl_app rfl _ _ 24 rfl (w1.heap.size + 1) 21 i0 (.int .i32 0) 1 4 Tryd.underlying24 hi hz0 hz1 hz2 rfl (by decide) (.slice A7 got.length c7) got.length _ rfl V5.out A5 new.length c5 (new.map (Value.int .i32)) rfl w5.heap.size (by exact (H5.out.sq).2) (runes_one new) (fits (by omega)).1 (fits (by omega)).2 (by omega) ?_; intro v6 w6 hown6 hg6 hat6; (have N6 := Lib.hid (read_step HV.out (Nat.lt_succ_self _) HB.out (Nat.le_refl _) hsz R5.out K5.out hown6 hg6)); (have M6 := Lib.hid (read_step2 VG.out (by omega) hgl K5.out hg6 hat6)); (have s6 := hg6.size); clear hown6 hg6 hat6)
              go_roundw
              case rel => exact ⟨k + 1, by go_num, by omega, by rw [NH.out.1, ← List.append_assoc, GT.out]; exact N6.out.1, by rw [NH.out.2]; exact N6.out.2.1, N6.out.2.2, Lib.hid (M6.out.1.trans HG.out), M6.out.2, by omega⟩
              case measure => simp [intOf]; omega
            · have e : (octs u).take k = octs u := take_all _ (by rw [octs_length]; omega)
              rw [e] at hv hr
              rw [FIN.out.1] at hv
              rw [FIN.out.2] at hr
              have HV := Lib.hid hv
              have HR := Lib.hid hr
              have HB := Lib.hid hb
              have hsz := hb.size
              have hbl := hr.lt
              have hLs : (runO st0 (octs s)).length ≤ 200 := by have := runO_length (octs s) st0; rw [octs_length] at this; omega
              have hLe : (brk (runS st0 (octs s))).length ≤ 1 := brk_length _
              have hal : allO (octs s) = runO st0 (octs s) ++ brk (runS st0 (octs s)) := rfl
              obtain ⟨A7, c7, rfl⟩ := hv.shape
              clear hv hr hb e
              go_wp2_with fail
              refine (end_any w1.heap.size wr _ HR.out).mono ?_
              rintro e w5 ⟨v5, rfl, h5, r5, k5, _⟩
              generalize brk (runS st0 (octs s)) = en at h5 hLe hal
              obtain ⟨A5, c5, rfl⟩ := h5.shape
              have V5 := Lib.hid (HV.out.kept k5 (fun e => HV.out.ne (Nat.lt_succ_self _) e) rfl)
              have H5 := Lib.hid h5
              have R5 := Lib.hid r5
              have K5 := Lib.hid k5
              have AL := Lib.hid hal
              have hs5 := k5.size
              clear h5 r5 k5 hal
              go_wp2_with (at_builtin; refine wpl_app rfl _ _ 24 rfl (w1.heap.size + 1) 21 i0 (.int .i32 0) 1 4 Tryd.underlying24 hi hz0 hz1 hz2 rfl (by decide) (.slice A7 (runO st0 (octs s)).length c7) (runO st0 (octs s)).length _ rfl V5.out A5 en.length c5 (en.map (Value.int .i32)) rfl w5.heap.size (by exact (H5.out.sq).2) (runes_one en) (fits (by omega)).1 (fits (by omega)).2 (by omega) ?_; intro v6 w6 hown6 hg6 hat6; (have N6 := Lib.hid (read_step HV.out (Nat.lt_succ_self _) HB.out (Nat.le_refl _) hsz R5.out K5.out hown6 hg6)); (have s6 := hg6.size); clear hown6 hg6 hat6)
              have O6 := N6.out.1
              rw [← AL.out] at O6
              obtain ⟨A6, c6, rfl⟩ := O6.shape
              have V6 := Lib.hid O6
              have B6 := Lib.hid N6.out.2.2
              have hal3 : (allO (octs s)).length ≤ 300 := by rw [AL.out, List.length_append]; omega
              clear O6 N6
              refine (all_walk s (by omega) w6).mono ?_
              rintro e w7 ⟨v7, rfl, hv7, b7⟩
              obtain ⟨A9, c9, rfl⟩ := hv7.shape
              have Q7 := Lib.hid (hv7.sq).2
              have Q6 := Lib.hid (((V6.out.sq).2.below b7).up b7.size)
              have B7 := Lib.hid (B6.out.trans (b7.mono B6.out.size))
              clear hv7 b7
              go_wp2_with fail
              refine (eq_yes A6 A9 _ c6 _ c9 (allO (octs s)) w7 (by omega) Q6.out Q7.out).mono ?_
              rintro e w9 ⟨rfl, b9⟩
              have B9 := Lib.hid (B7.out.trans (b9.mono B7.out.size))
              clear b9
              go_wp2
              go_ret
              exact ⟨rfl, R1.out.trans (B9.out.mono hs1)⟩
  by_cases hp : p < 0
  · exact main ByteArray.empty s rfl (by have : ByteArray.empty.size = 0 := rfl; omega) (.inl ⟨hp, rfl, rfl⟩)
  · obtain ⟨q, hq⟩ := Int.eq_ofNat_of_zero_le (Int.emod_nonneg p (show ((s.size : Int) + 1) ≠ 0 by omega))
    have hql := Int.emod_lt_of_pos p (show 0 < (s.size : Int) + 1 by omega)
    have hz : (s.extract 0 q).size = q := by rw [ByteArray.size_extract]; omega
    refine main (s.extract 0 q) (s.extract q s.size) (by rw [octs_head, octs_tail, List.take_append_drop]) (by rw [hz, ByteArray.size_extract]; omega) (.inr ⟨by omega, by rw [hz]; exact hq, by rw [hz], by rw [hz]⟩)

/-- WHAT THE WALK GIVES, FOR EVERY ARGUMENT AND EVERY WORLD THAT HOLDS THE TABLE. -/
theorem contract (H : Type) (enc : TypeId × Value → H) (W : World) (base : Nat) (args : Array Value) (ds gs : List (DataW H)) (before : List MemPlace)
    (hval : ∀ (j : Nat) t v, Tryd.f5.params[j]? = some t → args[j]? = some v → Value.okWide Tryd.prog W .any base t v)
    (hW : DataW.Whole enc Tryd.prog Tryd.f5.params.toList Rows.utfPartsSpec.vars false W args.toList ds gs before) (hL : laidMetH Tryd.prog Rows.utfPartsRow.laid W) :
    Calls Tryd.prog 5 args W fun e W' => ∃ v, e = .returned v ∧ Rows.utfPartsSpec.post enc Tryd.prog Tryd.f5 false true false false W args v W' := by
  have hW' := hW
  obtain ⟨p, q, hA0, hV, rfl, hfz, hnd⟩ := hW
  have hA : DataW.TrodAll enc Tryd.prog W 0 (fun _ => true) true Tryd.f5.params.toList args.toList ds p := hA0
  rw [Tryd.params5] at hA hval
  obtain ⟨v0, vs0, d0, ds0, p0, q0, hargs, rfl, rfl, h0, r0⟩ := trodAll_cons hA
  obtain ⟨v1, vs1, d1, ds1, p1, q1, rfl, rfl, rfl, h1, r1⟩ := trodAll_cons r0
  obtain ⟨rfl, rfl, rfl⟩ := trodAll_nil r1
  obtain rfl : args = #[v0, v1] := by cases args; simp_all
  obtain ⟨rfl, rfl⟩ := trodVars_none hV
  obtain ⟨x, rfl, rfl, rfl, wx⟩ := Go.ChangeMaps.open_string Tryd.underlying9 (hval 0 9 v0 rfl rfl) h0
  obtain ⟨y, rfl, rfl, rfl, wy⟩ := open_int Tryd.underlying3 (hval 1 3 v1 rfl rfl) h1
  clear hA0
  refine (walk x wx y (wf_i64 wy) W (spans_of hL) ).mono fun e W' ⟨he, hg⟩ => ?_
  subst he
  exact ⟨_, rfl, close rfl hW' ⟨rfl, rfl, rfl⟩ (by kernel_rfl) (by kernel_rfl) hg⟩

theorem laid_met (os : Os) : laidMet Tryd.prog Rows.utfPartsRow.laid ((laidWorld os).forCall (fun _ _ => 0) ⟨#[], #[.string .empty, .int .i64 0], []⟩).memory :=
  laidMet_of_run' 8 (by kernel_rfl) (by kernel_rfl)
theorem reads (os : Os) {H : Type} (enc : TypeId × Value → H) : ∃ places, DataW.whole enc Tryd.prog ((laidWorld os).forCall (fun _ _ => 0) ⟨#[], #[.string .empty, .int .i64 0], []⟩).memory Tryd.f5.params.toList Rows.utfPartsSpec.vars false (#[.string .empty, .int .i64 0] : Array Value).toList 8 = some ([.lit (.string []), .lit (.int .i64 0)], [], places) :=
  ⟨[], by kernel_rfl⟩

set_option maxRecDepth 100000 in
theorem lifted (os : Os) (started : os.Started) (H : Type) (enc : TypeId × Value → H) (F : Stop.Interp) :
    ReturnsInHanded {} Tryd.checked os 5 .any ((OpenSpec.ofChange Rows.utfPartsSpec).preRow enc Tryd.prog Tryd.f5 Rows.utfPartsRow.domain false Rows.utfPartsRow.laid) (((OpenSpec.ofChange Rows.utfPartsSpec).at F).post enc Tryd.prog Tryd.f5 false true false false) := by
  obtain ⟨places, hx⟩ := reads os enc
  refine returnsInHanded_of_row (C := Tryd.checked) (s := OpenSpec.ofChange Rows.utfPartsSpec) ownNone started (by kernel_rfl) Tryd.func5
    (witness_row_at (enc := enc) (C := Tryd.checked) false (laidWorld os) #[.string .empty, .int .i64 0] rfl (by kernel_rfl) (by kernel_rfl) (by kernel_rfl)
      (OpenSpec.preRow_of_cond 8 hx (by kernel_rfl) (fun k hk => by cases hk) (by kernel_rfl) (laid_met os))) ?_
  intro W base args ds gs before hval hW _ _ _ hL _ _
  exact contract H enc W base args ds gs before hval hW hL

theorem said : Rows.UtfPartsSaid :=
  OpenClaim.holds_of_cond 5 Tryd.f5 rfl rfl rfl rfl rfl rfl rfl ⟨rfl, rfl, rfl, rfl, rfl⟩ rfl rfl rfl rfl rfl (by kernel_rfl) Tryd.func5 (by kernel_rfl)
    (of_decide_eq_true (by kernel_rfl)) (by unfold Func.isWrapper; first | (rw [if_pos (by decide +kernel)]; kernel_rfl) | (rw [if_neg (by decide +kernel)]; exact ⟨rfl, rfl⟩))
    (fun os started H enc _ F => by rw [OpenClaim.pre_eq_preRow]; exact lifted os started H enc F)

/-- No parameter wants a stand-in; the program's own looks are off: what the card asks. -/
theorem plain (f : FuncId) (fn : Func) (hf : Tryd.pinned.checked.prog.funcNamed "rotulus/rotuluslaw1.UtfParts" = some f) (hfn : Tryd.pinned.checked.prog.funcs[f]? = some fn) :
    false = Tryd.pinned.checked.prog.looks [] ∧ ∀ (j : Nat) t, fn.params[j]? = some t → Tryd.pinned.checked.prog.wantsStandIn t = false := by
  obtain rfl : f = 5 := Option.some.inj ((show Tryd.prog.funcNamed "rotulus/rotuluslaw1.UtfParts" = some 5 by kernel_rfl).symm.trans hf) |>.symm
  obtain rfl : fn = Tryd.f5 := (Option.some.inj (Tryd.func5.symm.trans hfn)).symm
  refine ⟨by kernel_rfl, fun j t ht => ?_⟩
  rw [Tryd.params5] at ht
  have hm := Array.mem_of_getElem? ht
  simp at hm
  rcases hm with rfl | rfl
  · exact (show Tryd.prog.wantsStandIn 9 = false by kernel_rfl)
  · exact (show Tryd.prog.wantsStandIn 3 = false by kernel_rfl)

/-- THE CARD. -/
theorem card : Rows.UtfPartsCardSaid :=
  Claim7.holds_tied_plain_at .later [] _ _ _ _ said (fun _ h => by cases h) (by kernel_rfl) (fun _ h => by cases h) utfParts_row_tie rfl ⟨rfl, rfl⟩ (by kernel_rfl) rfl plain (by kernel_rfl)
end Go.Proofs.YtbhfhkmcnomggaaDoor.utfParts
