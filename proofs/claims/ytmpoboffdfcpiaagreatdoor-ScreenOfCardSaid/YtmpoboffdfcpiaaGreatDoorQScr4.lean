import Derived.Test.YtmpoboffdfcpiaaGreatDoorQBase11
set_option maxRecDepth 100000
set_option maxHeartbeats 6400000
namespace Go.Proofs.YtmpoboffdfcpiaaGreatDoor
open Go.ChangeShapes Go.WideShapes Go.ChangeAt Go.RowKit
namespace Sc
open Rw
theorem knows_low {r : Int} (h : r < 0 ∨ 128 ≤ r) : knows r = false := by
 unfold knows
 simp only [Bool.or_eq_false_iff, beq_eq_false_iff_ne]
 omega
theorem csiAll_walk {p g : Nat} {s : Scr} {xs : List RowIn} (r : Int) (A : Option Addr) (n c : Nat) (l : List Int) (w : World) (hn : n ≤ 1000000) (hs : Spans w) (h : ScAt w p g s xs) (ARG : ∀ W ys, Went w W p g xs ys → Sq W W.heap.size 1 n A (l.map (Value.int .i64))) : Calls Tryz.prog 67 #[ptrS p, .int .i32 r, .slice A n c] w fun e w' => Done p g (csiS s r l) xs w e w' := by
 by_cases hr : 0 ≤ r ∧ r < 128
 ·exact csi_walk r A n c l w hr hn hs h ARG
 ·have CR := Lib.hid (contains_high r w (by omega))
  have eS : csiS s r l = s := by unfold csiS; rw [knows_low (by omega)]; rfl
  rw [eS]
  have H := Lib.hid h
  clear h hs ARG eS hr
  go_enter Tryz.func67, Tryz.ntmps67
  go_wp2_with fail
  refine CR.out.mono ?_
  rintro e w' ⟨rfl, b⟩
  have D := Lib.hid (show Done p g s xs w (.returned (.tuple #[])) w' from ⟨⟨_, rfl⟩, xs, H.out.laid b, Went.laid b⟩)
  clear CR b H
  go_wp2
  go_end0
  exact D.out
theorem doAll_walk {p g : Nat} {s : Scr} {xs : List RowIn} (k r : Int) (A : Option Addr) (n c : Nat) (str : ByteArray) (l : List Int) (w : World) (hr0 : -2147483648 ≤ r) (hr1 : r ≤ 2147483647) (hn : n ≤ 1000000) (hs : Spans w) (h : ScAt w p g s xs) (ARG : ∀ W ys, Went w W p g xs ys → Sq W W.heap.size 1 n A (l.map (Value.int .i64))) :
  Calls Tryz.prog 19 #[ptrS p, .agg #[.int .i64 k, .int .i32 r, .slice A n c, .string str]] w fun e w' => Told p g (doS s k r l) (doO s k r) s.w xs w e w' :=
 do_walk k r A n c str l w h (fun _ W hb => print_walk r hr0 hr1 W (hs.below hb hs.size) (h.laid hb)) (fun _ W hb => control_walk r W (hs.below hb hs.size) (h.laid hb))
  (fun _ W hb => csiAll_walk r A n c l W hn (hs.below hb hs.size) (h.laid hb) (fun W' ys a => ARG W' ys ((Went.laid hb).trans a)))
end Sc
namespace Sc
open Rw
theorem of_walk (A : Option Addr) (n c : Nat) (rs : List RowIn) (wd h ar ac at' : Int) (w : World) (hs : Spans w) (hr : ∀ r ∈ rs, r.Ok w w.heap.size) (hq : Sq w w.heap.size 2 n A (rs.flatMap RowIn.vals)) :
  Calls Tryz.prog 16 #[.slice A n c, .int .i64 wd, .int .i64 h, .agg #[.int .i64 ar, .int .i64 ac], .int .i64 at'] w fun e w' => OfPost (ofS (rs.map sr) wd h ar ac at') w e w' := by
 obtain ⟨i0, hi, hz0, hz1, hz2⟩ := info_parts infoRow'
 obtain ⟨wn, hwn⟩ : ∃ wn, clampN wd 2 300 = wn := ⟨_, rfl⟩
 obtain ⟨hn, hhn⟩ : ∃ hn, clampN h 1 100 = hn := ⟨_, rfl⟩
 have w2 : 2 ≤ wn ∧ wn ≤ 300 := by rw [← hwn]; unfold clampN; omega
 have h1 : 1 ≤ hn ∧ hn ≤ 100 := by rw [← hhn]; unfold clampN; omega
 have CW := Lib.hid (fun W : World => (show Calls Tryz.prog 56 #[.int .i64 wd, .int .i64 2, .int .i64 300] W fun e w' => e = .returned (.int .i64 (wn : Int)) ∧ W = w' by
  have e : (wn : Int) = min (max wd 2) 300 := by rw [← hwn]; unfold clampN; omega
  rw [e]; exact clamp_walk _ _ _ W))
 have CH := Lib.hid (fun W : World => (show Calls Tryz.prog 56 #[.int .i64 h, .int .i64 1, .int .i64 100] W fun e w' => e = .returned (.int .i64 (hn : Int)) ∧ W = w' by
  have e : (hn : Int) = min (max h 1) 100 := by rw [← hhn]; unfold clampN; omega
  rw [e]; exact clamp_walk _ _ _ W))
 have hrl : rs.length = n := by have := hq.len; rw [vals_length] at this; omega
 obtain ⟨T, hT⟩ : ∃ T : List SR, rowsOfS (rs.map sr) wn hn = T := ⟨_, rfl⟩
 have hTl : T.length = hn := by rw [← hT, rowsOfS_length]
 have hTg : ∀ i, i < hn → T[i]? = some (fitS wn (rs.map sr)[i]?) := fun i hi => by rw [← hT]; exact rowsOfS_get hi
 obtain ⟨am, ham⟩ : ∃ am, modA at' = am := ⟨_, rfl⟩
 obtain ⟨X, hX⟩ : ∃ X, clampN ar 0 ((hn : Int) - 1) = X := ⟨_, rfl⟩
 obtain ⟨Y, hY⟩ : ∃ Y, clampN ac 0 (wn : Int) = Y := ⟨_, rfl⟩
 have hX1 : (X : Int) = min (max ar 0) ((hn : Int) - 1) := by rw [← hX]; unfold clampN; omega
 have hY1 : (Y : Int) = min (max ac 0) (wn : Int) := by rw [← hY]; unfold clampN; omega
 have eN : ofS (rs.map sr) wd h ar ac at' = ⟨wn, T, X, Y, am⟩ := by
  unfold ofS
  rw [hwn, hhn, hT, hX, hY, ham]
 have hOkN : Ok ⟨wn, T, X, Y, am⟩ := by
  rw [← eN]
  refine ofS_ok _ _ _ _ _ _ (fun y hy => ?_)
  obtain ⟨r, hr', rfl⟩ := List.mem_map.1 hy
  exact (hr r hr').signs
 have hOk : Ok ⟨wn, T, 0, 0, am⟩ := ⟨hOkN.w2, hOkN.w3, hOkN.h1, hOkN.h2, by have := hOkN.h1; exact this, Nat.zero_le _, hOkN.a0, hOkN.a1, hOkN.each⟩
 rw [eN]
 have RS := Lib.hid hr
 have RQ := Lib.hid hq
 have SP := Lib.hid hs
 have HX := Lib.hid hX1
 have HY := Lib.hid hY1
 have TG := Lib.hid hTg
 have HXr := Lib.hid (show X < hn from by omega)
 have HYr := Lib.hid (show Y ≤ wn from by omega)
 have RL := Lib.hid hrl
 have HOK := Lib.hid hOk
 clear hr hq hs hX hY hX1 hY1 hTg hOk hOkN hrl
 obtain ⟨w1, hw1⟩ : ∃ w1, w.alloc (.cells #[.int .i64 ar, .int .i64 ac] 24) = w1 := ⟨_, rfl⟩
 have b1 : Below w.heap.size w w1 := by rw [← hw1]; exact (Below.refl _ _).alloc (Nat.le_refl _) _
 obtain ⟨b8, hb8⟩ : ∃ b8, w.heap.size = b8 := ⟨_, rfl⟩
 have q8 : w1.heap[b8]? = some (.cells #[.int .i64 ar, .int .i64 ac] 24 (0, 0)) := by rw [← hw1, ← hb8]; exact heap_alloc_new w _
 have z1 : w1.heap.size = b8 + 1 := by rw [← hw1, ← hb8]; simp
 have MD := Lib.hid (fun W : World => (show Calls Tryz.prog 57 #[.int .i64 at'] W fun e w' => e = .returned (.int .i64 am) ∧ W = w' from by rw [← ham]; exact modulo_walk at' W))
 have hbg : (hn : Int) ≤ 100 := by omega
 have hb0 : (0 : Int) ≤ (hn : Int) := by omega
 have MK := run_make w1.drew 22 58 i0 (.agg #[.slice none 0 0, .bool false]) Tryz.underlying22 hi hz0 .i64 .i64 (hn : Int) (hn : Int) hb0 (Int.le_refl _) (by rw [hz2]; omega) (by omega)
 rw [hz1, Int.toNat_natCast, made_nils] at MK
 have HW1 := Lib.hid hw1
 have HB8 := Lib.hid hb8
 clear hw1 hb8 eN ham hT
 go_enter Tryz.func16, Tryz.ntmps16
 go_wp2_with fail
 rw [HW1.out]
 refine (CW.out w1).mono ?_
 rintro e w' ⟨rfl, rfl⟩
 go_wp2_with fail
 refine (CH.out w1).mono ?_
 rintro e w' ⟨rfl, rfl⟩
 rw [HB8.out]
 go_wp2_with fail
 obtain ⟨gg, hgg⟩ : ∃ gg, b8 + 1 = gg := ⟨_, rfl⟩
 obtain ⟨pp, hpp⟩ : ∃ pp, gg + 1 = pp := ⟨_, rfl⟩
 have b2 : Below w1.heap.size w1 ((w1.drew.alloc (.cells (nils hn).toArray 58)).alloc (.cells (mcells wn am gg hn) 93)) := ((Below.refl w1.heap.size w1).drew.alloc (Nat.le_refl _) _).alloc (by simp) _
 have M2 : Made ((w1.drew.alloc (.cells (nils hn).toArray 58)).alloc (.cells (mcells wn am gg hn) 93)) w1.heap.size pp gg wn am T 0 [] := by
  have zz : (w1.drew.alloc (.cells (nils hn).toArray 58)).heap.size = pp := by
   rw [World.size_alloc]; show w1.heap.size + 1 = pp; omega
  have hg := heap_alloc_new w1.drew (.cells (nils hn).toArray 58)
  rw [show w1.drew.heap.size = gg from by show w1.heap.size = gg; omega] at hg
  have hp := heap_alloc_new (w1.drew.alloc (.cells (nils hn).toArray 58)) (.cells (mcells wn am gg hn) 93)
  rw [zz] at hp
  refine ⟨by rw [hTl]; exact hp, ?_, rfl, by rw [List.take_zero]; rfl, fun x hx => (by cases hx), List.nodup_nil, fun x hx => (by cases hx)⟩
  rw [hTl, Nat.sub_zero]
  exact (Below.heap_alloc _ _ _ (by omega)).trans hg
 have B2 := Lib.hid b2
 have MM := Lib.hid M2
 have QW := Lib.hid q8
 have B1 := Lib.hid b1
 clear b2 M2 q8 b1
 go_cut [11] from 17 to 23 (fun s11 wx => s11 = .pointer (some ⟨pp, 0, none⟩) ∧ Hid (Below w1.heap.size w1 wx) ∧ Hid (Made wx w1.heap.size pp gg wn am T 0 []))
 case first =>
  go_region_with (go_at_call 57; refine (MD.out _).mono ?_; rintro e w7 ⟨rfl, rfl⟩)
  all_goals
   go_wp2_with fail
   go_meet
   exact ⟨by rw [← hpp, ← hgg], B2, MM⟩
 case rest =>
  obtain ⟨rfl, BC, MC⟩ := hcut
  have kp : wc.cell? ⟨pp, 1, none⟩ = some (.slice (some ⟨gg, 0, none⟩) hn hn) := by rw [cell_of_row _ pp _ _ _ (0, 0) MC.out.scr, hTl]; rfl
  clear MK B2 MM CW CH
  go_wp2_with fail
  go_loopw [12, 29] (fun _ v29 wr => ∃ (i : Nat) (xs : List RowIn), v29 = .int .i64 i ∧ i ≤ hn ∧ Hid (Below w1.heap.size w1 wr) ∧ Hid (Made wr w1.heap.size pp gg wn am T i xs)) (fun _ v29 _ => hn - (intOf v29).toNat)
  case atStart => exact ⟨0, [], rfl, Nat.zero_le _, BC, MC⟩
  case round =>
   obtain ⟨i, xs, rfl, hi', BR, MR⟩ := hrel
   by_cases hlt : i < hn
   ·have hlt' : (i : Int) < (hn : Int) := by omega
    have hi0 : (0 : Int) ≤ (i : Int) := by omega
    have k1 : wr.drew.cell? ⟨pp, 1, none⟩ = some (.slice (some ⟨gg, 0, none⟩) hn hn) := by
     have : wr.cell? ⟨pp, 1, none⟩ = some (.slice (some ⟨gg, 0, none⟩) hn hn) := by rw [cell_of_row _ pp _ _ _ (0, 0) MR.out.scr, hTl]; rfl
     exact this
    obtain ⟨⟨fl, fw⟩, hF⟩ : ∃ F, fitS wn (rs.map sr)[i]? = F := ⟨_, rfl⟩
    have hTi : T[i]? = some (fl, fw) := by rw [TG.out i hlt, hF]
    have hfl : fl.length = wn := (HOK.out.each _ (List.mem_of_getElem? hTi)).2.1
    have K1 := Lib.hid (show ∀ W, Below wr.drew.heap.size wr.drew W → W.cell? ⟨pp, 1, none⟩ = some (.slice (some ⟨gg, 0, none⟩) hn hn) ∧ W.cell? ⟨gg, i * 2, none⟩ = some (.slice none 0 0) ∧ W.cell? ⟨gg, i * 2 + 1, none⟩ = some (.bool false) ∧ W.frozen? ⟨gg, i * 2, none⟩ = false ∧ W.frozen? ⟨gg, i * 2 + 1, none⟩ = false from fun W b => by
     have m := MR.out.laid (Below.trans (Below.refl wr.heap.size wr).drew b)
     obtain ⟨c0, c1, c2, c3⟩ := m.cell (by rw [hTl]; exact hlt)
     exact ⟨by rw [cell_of_row _ pp _ _ _ (0, 0) m.scr, hTl]; rfl, c0, c1, c2, c3⟩)
    have ST := Lib.hid (show ∀ W A n c, Below wr.drew.heap.size wr.drew W → HasC W wr.drew.heap.size (.slice A n c) fl → (∃ xs', Made ((W.setCell ⟨gg, i * 2, none⟩ (.slice A n c)).setCell ⟨gg, i * 2 + 1, none⟩ (.bool fw)) w1.heap.size pp gg wn am T (i + 1) xs') ∧ Below w1.heap.size w1 ((W.setCell ⟨gg, i * 2, none⟩ (.slice A n c)).setCell ⟨gg, i * 2 + 1, none⟩ (.bool fw)) from fun W A n c b hc => by
     have m := MR.out.laid (Below.refl wr.heap.size wr).drew
     refine ⟨m.step w2.1 BR.out.size hTi hfl b hc, ?_⟩
     have bb := BR.out.drew.trans (b.mono BR.out.size)
     have hgl : w1.heap.size ≤ gg := by omega
     exact (bb.setCell (p := ⟨gg, i * 2, none⟩) hgl _).setCell (p := ⟨gg, i * 2 + 1, none⟩) hgl _)
    have hinc : IntKind.i64.wrap ((i : Int) + 1) = (i : Int) + 1 := IntWalk.i64_in _ (by omega)
    have BW := Lib.hid (show Below w.heap.size w wr.drew from B1.out.trans (BR.out.drew.mono B1.out.size))
    have HF := Lib.hid hF
    clear BR MR MC BC kp hTi hfl hF
    by_cases hin : i < n
    ·obtain ⟨r, hr⟩ : ∃ r, rs[i]? = some r := ⟨_, List.getElem?_eq_getElem (by rw [RL.out]; exact hin)⟩
     have ok := (RS.out r (List.mem_of_getElem? hr)).below BW.out
     obtain ⟨b, off, rfl, _, r0, r1⟩ := rows_at (RQ.out.below BW.out) hr hin
     have hF2 : fitS wn (some (sr r)) = (fl, fw) := by rw [← HF.out, List.getElem?_map, hr]; rfl
     have BK := Lib.hid (show Calls Tryz.prog 58 #[rowV r.A r.n r.c r.wrap, .int .i64 (wn : Int)] wr.drew fun e w' => FitPost wn fw fl wr.drew e w' from by
      have h := fitted_walk r.A r.n r.c r.wrap r.l wn wr.drew (SP.out.below BW.out SP.out.size) ok.signs (ok.sq.up BW.out.size) w2.1 w2.2
      rw [show fitS wn (some (r.l, r.wrap)) = (fl, fw) from hF2] at h
      exact h)
     have hin' : (i : Int) < (n : Int) := by omega
     clear ok hr hF2 HF BW
     obtain ⟨rA, rn, rc, rw', rl⟩ := r
     dsimp only at r0 r1 BK
     go_wp2_with fail
     go_region_with (go_at_call 58; refine BK.out.mono ?_; rintro e w7 ⟨g7, rfl, hc7, b7⟩; (obtain ⟨k10, k20, k30, k40, k50⟩ := K1.out w7 b7); (have S7 := Lib.hid (ST.out w7 _ _ _ b7 hc7)); clear b7 hc7)
     all_goals
      go_wp2
      go_roundw
      case rel =>
       obtain ⟨⟨xs', m'⟩, b'⟩ := S7.out
       exact ⟨i + 1, xs', by first | rfl | (congr 1; done) | (congr 1; omega), hlt, b', m'⟩
      case measure => first | (simp [intOf]; done) | (simp [intOf]; omega)
    ·have e2 : (fl, fw) = (blanksL wn, false) := by rw [← HF.out, List.getElem?_eq_none (by rw [List.length_map, RL.out]; omega)]; rfl
     injection e2 with e2 e3
     subst e2 e3
     have BK := Lib.hid (rowBlank_walk (wn : Int) wr.drew)
     have hbl : blankN (wn : Int) = wn := by unfold blankN; omega
     rw [hbl] at BK
     have hin' : ¬ (i : Int) < (n : Int) := by omega
     clear HF BW hbl
     go_wp2_with fail
     go_region_with (go_at_call 46; refine BK.out.mono ?_; rintro e w7 ⟨g7, rfl, hc7, b7⟩; (obtain ⟨k10, k20, k30, k40, k50⟩ := K1.out w7 b7); (have S7 := Lib.hid (ST.out w7 _ _ _ b7 hc7)); clear b7 hc7)
     all_goals
      go_wp2
      go_roundw
      case rel =>
       obtain ⟨⟨xs', m'⟩, b'⟩ := S7.out
       exact ⟨i + 1, xs', by first | rfl | (congr 1; done) | (congr 1; omega), hlt, b', m'⟩
      case measure => first | (simp [intOf]; done) | (simp [intOf]; omega)
   ·obtain rfl : i = hn := by omega
    have hb8 : b8 < w1.heap.size := by omega
    have q8 : wr.drew.heap[b8]? = some (.cells #[.int .i64 ar, .int .i64 ac] 24 (0, 0)) := (BR.out.block b8 hb8).trans QW.out
    have SF : ScAt wr.drew pp gg ⟨wn, T, 0, 0, am⟩ xs := by
     have m := MR.out.laid (Below.refl wr.heap.size wr).drew
     have e := hTl
     subst e
     exact m.full HOK.out
    have SE : ScAt ((wr.drew.setCell ⟨pp, 2, none⟩ (.int .i64 (X : Int))).setCell ⟨pp, 3, none⟩ (.int .i64 (Y : Int))) pp gg ⟨wn, T, X, Y, am⟩ xs := (SF.setRow (r := X) (by show X < T.length; have := HXr.out; omega)).setCol (c := Y) (by have := HYr.out; exact this)
    have hpl : w1.heap.size ≤ pp := by omega
    have DN := Lib.hid (show OfPost ⟨wn, T, X, Y, am⟩ w (.returned (ptrS pp)) ((wr.drew.setCell ⟨pp, 2, none⟩ (.int .i64 (X : Int))).setCell ⟨pp, 3, none⟩ (.int .i64 (Y : Int))) from by
     have hw := B1.out.size
     exact ⟨pp, gg, xs, rfl, SE, by omega, by omega, fun x hx => by obtain ⟨k, hk, hk1⟩ := MR.out.new' x hx; exact ⟨k, hk, by omega⟩, B1.out.trans (((BR.out.drew.setCell (p := ⟨pp, 2, none⟩) hpl _).setCell (p := ⟨pp, 3, none⟩) hpl _).mono hw)⟩)
    go_wp2_with fail
    refine Ord.start (S := fun W => W = wr.drew ∨ W = (wr.drew.setCell ⟨pp, 2, none⟩ (.int .i64 (X : Int))).setCell ⟨pp, 3, none⟩ (.int .i64 (Y : Int))) (n := 14) (by kernel_rfl) (by kernel_rfl) (.inl rfl) ?_
    have off : ∀ (W : World) (j : Nat), (W = wr.drew ∨ W = (wr.drew.setCell ⟨pp, 2, none⟩ (.int .i64 (X : Int))).setCell ⟨pp, 3, none⟩ (.int .i64 (Y : Int))) → W.cell? ⟨b8, j, none⟩ = #[Value.int .i64 ar, Value.int .i64 ac][j]? := fun W j hW => by
     rcases hW with rfl | rfl
     ·exact cell_of_row _ b8 j _ _ (0, 0) q8
     ·exact cell_of_row _ b8 j _ _ (0, 0) ((Below.heap_setCell _ _ _ _ (by show b8 ≠ pp; omega)).trans ((Below.heap_setCell _ _ _ _ (by show b8 ≠ pp; omega)).trans q8))
    apply of_region (w1 := wr.drew) (b8 := b8) (p := pp) (wd := (wn : Int)) (ht := (i : Int)) (hm := (i : Int) - 1) (ar := ar) (ac := ac) (X := (X : Int)) (Y := (Y : Int))
    case R => exact ⟨by kernel_rfl, by kernel_rfl⟩
    case hQ => exact fun _ _ _ _ _ h => h
    case k0 => exact fun W hW => off W 0 hW
    case k1 => exact fun W hW => off W 1 hW
    case k2 => exact ⟨_, SF.get 2⟩
    case k3 => exact ⟨_, SF.get 3⟩
    case f2 => exact SF.free 2
    case f3 => exact SF.free 3
    case hh => exact IntWalk.i64_in _ (by omega)
    case CL =>
     intro W
     have c := clamp_walk ar 0 ((i : Int) - 1) W
     rw [← HX.out] at c
     exact c
    case CC =>
     intro W
     have c := clamp_walk ac 0 (wn : Int) W
     rw [← HY.out] at c
     exact c
    case F => exact ⟨rfl, rfl, rfl, rfl, rfl, rfl⟩
    intro a2 F2
    refine of_frame F2.size F2.defers F2.s1 F2.s2 F2.s8 F2.s11 ?_
    intros
    clear F2 SF SE off q8
    try dsimp only
    go_wp2
    go_ret
    exact DN.out
end Sc
