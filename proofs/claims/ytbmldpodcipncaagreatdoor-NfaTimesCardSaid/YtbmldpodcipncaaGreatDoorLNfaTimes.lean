/-
  The statement NfaTimes: a sign so many times, at least so many, up to so many, matches as often as was said. For every three numbers; it holds where the table of widths is as its initialiser lays it, which the card ties to the program's text.
-/
import Derived.Test.YtbmldpodcipncaaGreatDoorQFEvZ0
import Derived.Test.YtbmldpodcipncaaGreatDoorQFBase0
import Derived.Test.YtbmldpodcipncaaGreatDoorQFBase1
import Derived.Test.YtbmldpodcipncaaGreatDoorQFBase12
namespace Go.Proofs.YtbmldpodcipncaaGreatDoor.nfaTimes
open Go.ChangeShapes Go.WideShapes Go.ChangeAt Go.RowKit
open NF
set_option maxRecDepth 100000 in
set_option maxHeartbeats 12800000 in
theorem walk (x : Int) (_ : -9223372036854775808 ≤ x ∧ x ≤ 9223372036854775807) (y : Int) (_ : -9223372036854775808 ≤ y ∧ y ≤ 9223372036854775807) (z : Int) (_ : -9223372036854775808 ≤ z ∧ z ≤ 9223372036854775807) (w : World) (hs : Spans w) :
  Calls Tryz.prog 6 #[.int .i64 x, .int .i64 y, .int .i64 z] w fun e w' => e = .returned (.bool true) ∧ Below w.heap.size w w' := by
 have S := Lib.hid hs
 obtain ⟨rx, m, hx1, hx2, hx3, hm⟩ := mod_range x 10 (by omega) (by omega)
 obtain ⟨ry, n, hy1, hy2, hy3, hn⟩ := mod_range y 10 (by omega) (by omega)
 obtain ⟨rz, q, hz1, hz2, hz3, hq⟩ := mod_range z 25 (by omega) (by omega)
 have hm9 : m < 10 := by omega
 have hn9 : n < 10 := by omega
 have hq9 : q < 25 := by omega
 have NM := Lib.hid (fun wx => number_walk m hm9 wx)
 have NN := Lib.hid (fun wx => number_walk n hn9 wx)
 clear hs hm hn hq
 go_enter Tryz.func6, Tryz.ntmps6
 go_wp2_with fail
 refine (Ev.Trues.at Ev.begun14 w S.out).mono ?_
 rintro e w1 ⟨rfl, b1⟩
 have B1 := Lib.hid b1
 clear b1 S
 go_wp2_with fail
 refine (NM.out w1).mono ?_
 rintro e w2 ⟨rfl, b2⟩
 have B2 := Lib.hid (B1.out.trans (b2.mono B1.out.size))
 have hs1 : (digT m).size = 1 := rfl
 have hs2 : (digT n).size = 1 := rfl
 clear b2
 go_wp2_with fail
 refine (NN.out w2).mono ?_
 rintro e w3 ⟨rfl, b3⟩
 have B3 := Lib.hid (B2.out.trans (b3.mono B2.out.size))
 clear b3
 obtain ⟨T, hT⟩ : ∃ T, ({ data := #[97, 123] } : ByteArray) ++ digT m ++ { data := #[44] } ++ digT n ++ { data := #[125] } = T := ⟨_, rfl⟩
 have HT := Lib.hid (show octs T = timesL m n from by rw [← hT, octs_app, octs_app, octs_app, octs_app, octs_dig hm9, octs_dig hn9]; rfl)
 have PT := Lib.hid (show parseS T = (if m ≤ n then .some (timesN (oneN 97) m n) else .none) from by
  rw [parseS_ascii HT.out (fun x hx => by simp [timesL] at hx; omega) (by simp [timesL]), parse_times hm9 hn9])
 have hT60 : T.size ≤ 60 := by rw [← octs_length, HT.out]; simp [timesL]
 have TE := Lib.hid hT
 have PW := Lib.hid (parse_walk T (by omega) w3)
 clear hT
 go_wp2_with fail
 rw [TE.out]
 refine PW.out.mono ?_
 intro e w4 hp
 have HP := Lib.hid hp
 clear hp PW
 by_cases hmn : m ≤ n
 ·obtain ⟨k, A, nn, c, nt, A2, n2, c2, mn, mx, rfl, hx, b4⟩ := parsed HP.out (PT.out.trans (if_pos hmn))
  obtain ⟨w5, hw5, k5, b5, z5⟩ := new_node w4 k A nn c nt A2 n2 c2 mn mx
  have PSm := parseS_small (PT.out.trans (if_pos hmn))
  have NX := Lib.hid (ndO_in (fun b hb => hb) (ndO_below hx b5))
  have B5 := Lib.hid (B3.out.trans ((b4.mono B3.out.size).trans (b5.mono (by have := b4.size; have := B3.out.size; omega))))
  have KX := Lib.hid k5
  have hgt : ¬ (n : Int) < (m : Int) := by omega
  obtain ⟨NB, hNB⟩ : ∃ b, w4.heap.size = b := ⟨_, rfl⟩
  have Z5 := Lib.hid (show w5.heap.size = NB + 1 by omega)
  have HW5 := Lib.hid hw5
  have HNB := Lib.hid hNB
  rw [hNB] at KX
  clear hx b4 k5 b5 z5 hw5 hNB HP
  try dsimp only [Nv.v]
  go_wp2_with fail
  rw [HW5.out, HNB.out]
  refine (NM.out w5).mono ?_
  rintro e w6 ⟨rfl, b6⟩
  have B6 := Lib.hid (B5.out.trans (b6.mono B5.out.size))
  have X6 := Lib.hid (NX.out.below b6)
  have K6 := Lib.hid (KX.out.below b6 (by have := Z5.out; omega))
  have Z6 := Lib.hid (show w5.heap.size ≤ w6.heap.size from b6.size)
  clear b6 NX KX
  go_wp2_with fail
  obtain ⟨U, hU⟩ : ∃ U, ({ data := #[97, 123] } : ByteArray) ++ digT m ++ { data := #[44, 125] } = U := ⟨_, rfl⟩
  have HU := Lib.hid (show octs U = leastL m from by rw [← hU, octs_app, octs_app, octs_dig hm9]; rfl)
  have PU := Lib.hid (show parseS U = .some (timesN (oneN 97) m (-1)) from by
   rw [parseS_ascii HU.out (fun x hx => by simp [leastL] at hx; omega) (by simp [leastL]), parse_least hm9])
  have hU60 : U.size ≤ 60 := by rw [← octs_length, HU.out]; simp [leastL]
  have UE := Lib.hid hU
  have QW := Lib.hid (parse_walk U (by omega) w6)
  clear hU
  first | rw [UE.out] | skip
  refine QW.out.mono ?_
  intro e w7 hp
  obtain ⟨k', A', n', c', nt', A2', n2', c2', mn', mx', rfl, hy, b7⟩ := parsed hp PU.out
  obtain ⟨w8, hw8, k8, b8, z8⟩ := new_node w7 k' A' n' c' nt' A2' n2' c2' mn' mx'
  have QSm := parseS_small PU.out
  have B8 := Lib.hid (B6.out.trans ((b7.mono B6.out.size).trans (b8.mono (by have := b7.size; have := B6.out.size; omega))))
  have b68 : Below w6.heap.size w6 w8 := b7.trans (b8.mono b7.size)
  have X8 := Lib.hid (ndIn_up (Nat.le_refl _) (show w5.heap.size ≤ w8.heap.size by have := Z6.out; have := b68.size; omega) (X6.out.below (b68.mono Z6.out)))
  have Y8 := Lib.hid (ndO_in (fun b hb => hb) (ndO_below hy b8))
  have K8 := Lib.hid (K6.out.below b68 (by have := Z6.out; have := Z5.out; omega))
  have J8 := Lib.hid k8
  have CX := Lib.hid (compile_ok (timesN (oneN 97) m n) ⟨k, A, nn, c, nt, A2, n2, c2, mn, mx⟩ _ w8 X8.out PSm.1 (by simp [timesN, oneN, deep, deeps]) (by simp [timesN, oneN, count, counts]) (by rw [times_wt]; split <;> omega))
  obtain ⟨NC, hNC⟩ : ∃ b, w7.heap.size = b := ⟨_, rfl⟩
  have Z8 := Lib.hid (show w8.heap.size = NC + 1 by omega)
  have HW8 := Lib.hid hw8
  have HNC := Lib.hid hNC
  rw [hNC] at J8
  obtain ⟨y0, y1, y2, y3, y4, y5⟩ := nv_bk K8.out
  clear hp hy b7 k8 b8 z8 hw8 hNC b68 QW X6 K6
  try dsimp only [Nv.v] at CX ⊢
  go_upto_region 10 with fail
  rw [HW8.out, HNC.out]
  go_wp2_with fail
  refine CX.out.mono ?_
  rintro e w9 ⟨p, rfl, hp9, b9⟩
  have P9 := Lib.hid hp9
  have B9 := Lib.hid (B8.out.trans (b9.mono B8.out.size))
  have J9 := Lib.hid (J8.out.below b9 (by have := Z8.out; omega))
  have CY := Lib.hid (compile_ok (timesN (oneN 97) m (-1)) ⟨k', A', n', c', nt', A2', n2', c2', mn', mx'⟩ _ w9 (ndIn_up (Nat.le_refl _) b9.size (Y8.out.below b9)) QSm.1 (by simp [timesN, oneN, deep, deeps]) (by simp [timesN, oneN, count, counts]) (by rw [times_wt]; split <;> omega))
  clear hp9 b9 CX y0 y1 y2 y3 y4 y5
  obtain ⟨y0, y1, y2, y3, y4, y5⟩ := nv_bk J9.out
  try dsimp only [Nv.v] at CY ⊢
  go_wp2_with fail
  refine CY.out.mono ?_
  rintro e w10 ⟨p', rfl, hp10, b10⟩
  have R10 := Lib.hid hp10
  have P10 := Lib.hid ((P9.out.below b10).up b10.size)
  have B10 := Lib.hid (B9.out.trans (b10.mono B9.out.size))
  obtain ⟨i0, hi, hz0, hz1, hz2⟩ := info_parts info21
  clear hp10 b10 CY y0 y1 y2 y3 y4 y5 P9 hT60 hU60 PSm QSm
  go_wp2_with fail
  go_loopw [17, 18] (fun v i wr => ∃ (j : Nat), i = .int .i64 (j : Int) ∧ j ≤ q ∧ Hid (wr.ownsRow w10.heap.size 21 1 v j (runesV (List.replicate j 97))) ∧ Hid (Below w10.heap.size w10 wr)) (fun _ i _ => q - (intOf i).toNat)
  case atStart => exact ⟨0, rfl, Nat.zero_le _, Lib.hid (World.ownsRow_nil _ _ _ _), Lib.hid (Below.refl _ _)⟩
  case round =>
   obtain ⟨j, rfl, hj, OW, BW⟩ := hrel
   by_cases hlt : j < q
   ·have h1 : (j : Int) < (q : Int) := by omega
    have hw : IntKind.i64.wrap ((j : Int) + 1) = (j : Int) + 1 := IntWalk.i64_in _ (by omega)
    obtain ⟨w11, hw11⟩ : ∃ w11, wr.alloc (.cells #[.int .i32 97] 21) = w11 := ⟨_, rfl⟩
    have b11 : Below wr.heap.size wr w11 := by rw [← hw11]; exact (Below.refl _ _).alloc (Nat.le_refl _) _
    have sq := sqO_new wr #[.int .i32 97] 21 1 1 rfl
    rw [hw11] at sq
    have SQ := Lib.hid sq.sq
    have O11 := Lib.hid ((Trn.ofBelow b11 fun _ => False).own OW.out (fun _ _ x => x))
    have BX := Lib.hid (BW.out.trans (b11.mono BW.out.size))
    clear sq b11
    go_wp2_with (refine wpl_app rfl _ _ 28 rfl w10.heap.size 21 i0 (.int .i32 0) 1 4 Tryz.underlying28 hi hz0 hz1 hz2 rfl (by decide) _ j (runesV (List.replicate j 97)) rfl O11.out (some ⟨wr.heap.size, 0, none⟩) 1 1 [.int .i32 97] rfl w11.heap.size SQ.out (by intro u hu; simp at hu; subst hu; rfl) (by unfold maxLen; omega) (by omega) BX.out.size ?_)
    intro v' w12 h3 h4 h5
    have O12 := Lib.hid (show w12.ownsRow w10.heap.size 21 1 v' (j + 1) (runesV (List.replicate (j + 1) 97)) from by
     have e : runesV (List.replicate (j + 1) 97) = runesV (List.replicate j 97) ++ [.int .i32 97] := by
      unfold runesV
      rw [List.replicate_succ', List.map_append]
      rfl
     rw [e]
     exact h3)
    have B12 := Lib.hid (BX.out.trans ((Trn.ofGrown h4).toBelow BX.out.size (fun k hk e => by have := (World.ownsRow.lt O11.out k e).1; omega)))
    clear h3 h4 h5 O11
    go_wp2_with fail
    go_roundw
    case rel => exact ⟨j + 1, by first | rfl | (congr 1; done) | (congr 1; omega), by omega, O12, B12⟩
    case measure => first | (simp [intOf]; done) | (simp [intOf]; omega)
   ·obtain rfl : j = q := by omega
    obtain ⟨Av, cv, rfl⟩ := own_len OW.out
    have SQ := Lib.hid (Sq.own OW.out)
    have RL := Lib.hid (List.length_replicate (n := j) (a := (97 : Int)))
    have EX := Lib.hid (prg_ends (P10.out.below BW.out) Av j cv 0 (List.replicate j 97) (Nat.zero_le _) (by omega) BW.out.size RL.out SQ.out)
    rw [ends_times 97 j (m : Int) (n : Int) (by omega), if_neg (by omega), Int.toNat_natCast, Int.toNat_natCast] at EX
    obtain ⟨L1, hL1⟩ : ∃ L, List.range' m (min (n + 1) (j + 1) - m) = L := ⟨_, rfl⟩
    obtain ⟨L2, hL2⟩ : ∃ L, List.range' m (min (j + 1) (j + 1) - m) = L := ⟨_, rfl⟩
    rw [hL1] at EX
    obtain ⟨g1, hg1⟩ : ∃ c, L1.length = c := ⟨_, rfl⟩
    obtain ⟨g2, hg2⟩ : ∃ c, L2.length = c := ⟨_, rfl⟩
    have e1 : g1 = min (n + 1) (j + 1) - m := by rw [← hg1, ← hL1, List.length_range']
    have e2 : g2 = j + 1 - m := by rw [← hg2, ← hL2, List.length_range', Nat.min_self]
    have EL := Lib.hid (And.intro hL1 hL2)
    have GL := Lib.hid (And.intro hg1 hg2)
    clear hL1 hL2 hg1 hg2
    go_wp2_with fail
    refine EX.out.mono ?_
    intro e w13 he
    obtain ⟨A1, c1, rfl, hq1, _, b13⟩ := ends_some he
    have B13 := Lib.hid (BW.out.trans (b13.mono BW.out.size))
    have EY := Lib.hid (prg_ends (R10.out.below B13.out) Av j cv 0 (List.replicate j 97) (Nat.zero_le _) (by omega) B13.out.size RL.out (SQ.out.below b13 |>.up b13.size))
    rw [ends_times 97 j (m : Int) (-1) (by omega), if_pos (by decide), Int.toNat_natCast, EL.out.2] at EY
    have Q1 := Lib.hid hq1
    rw [GL.out.1] at Q1 ⊢
    clear he hq1 b13 EX SQ
    go_wp2_with fail
    refine EY.out.mono ?_
    intro e w14 he
    obtain ⟨A3, c3, rfl, hq2, _, b14⟩ := ends_some he
    have BF := Lib.hid (B10.out.trans ((B13.out.trans (b14.mono B13.out.size)).mono B10.out.size))
    have Q2 := Lib.hid hq2
    have Q3 := Lib.hid (Q1.out.below b14)
    rw [GL.out.2] at Q2 ⊢
    clear he hq2 b14 EY Q1 BW
    obtain ⟨mq, hmq⟩ : ∃ v : Nat, min (n : Int) (j : Int) = (v : Int) := ⟨min n j, by omega⟩
    have hs1 : IntKind.i64.wrap ((mq : Int) - (m : Int)) = (mq : Int) - (m : Int) := IntWalk.i64_in _ (by omega)
    have hs2 : IntKind.i64.wrap ((mq : Int) - (m : Int) + 1) = (mq : Int) - (m : Int) + 1 := IntWalk.i64_in _ (by omega)
    have hs3 : IntKind.i64.wrap ((j : Int) - (m : Int)) = (j : Int) - (m : Int) := IntWalk.i64_in _ (by omega)
    have hs4 : IntKind.i64.wrap ((j : Int) - (m : Int) + 1) = (j : Int) - (m : Int) + 1 := IntWalk.i64_in _ (by omega)
    have hx1 : max 0 ((mq : Int) - (m : Int) + 1) = (g1 : Int) := by omega
    have hx2 : max 0 ((j : Int) - (m : Int) + 1) = (g2 : Int) := by omega
    have E12 := Lib.hid (And.intro e1 e2)
    clear e1 e2
    cases g1 with
    | zero =>
     cases g2 with
     | zero =>
      go_wp2_with fail
      go_ret
      exact ⟨rfl, BF.out⟩
     | succ g2 =>
      exfalso
      have := E12.out
      omega
    | succ g1 =>
     obtain ⟨b1, o1, rfl, d0, _⟩ := first_cell Q3.out EL.out.1 GL.out.1
     have hi5 : ((g1 : Int) + 1 == 0) = false := by simp; omega
     cases g2 with
     | zero =>
      exfalso
      have := E12.out
      omega
     | succ g2 =>
      obtain ⟨b2, o2, rfl, d2, d3⟩ := first_cell Q2.out EL.out.2 GL.out.2
      have hmj : m + g2 = j := by have := E12.out.2; omega
      rw [hmj] at d3
      have hi1 : IntKind.i64.wrap ((g2 : Int) + 1 - 1) = (g2 : Int) := by rw [IntWalk.i64_in _ (by omega)]; omega
      have hi2 : (0 : Int) ≤ (g2 : Int) := by omega
      have hi3 : (g2 : Int) < (g2 : Int) + 1 := by omega
      have hi4 : ((g2 : Int) + 1 == 0) = false := by simp; omega
      clear hmj
      go_wp2_with fail
      go_ret
      exact ⟨rfl, BF.out⟩
 ·have hgt : (n : Int) < (m : Int) := by omega
  have HZ := HP.out
  rw [PT.out, if_neg hmn] at HZ
  obtain ⟨rfl, b4⟩ := HZ
  have B4 := Lib.hid (B3.out.trans (b4.mono B3.out.size))
  clear HP b4
  try dsimp only [Nv.v, zeroV]
  go_wp2_with fail
  go_ret
  exact ⟨rfl, B4.out.alloc B4.out.size _⟩
set_option maxRecDepth 100000 in
theorem contract (H : Type) (enc : TypeId × Value → H) (W : World) (base : Nat) (args : Array Value) (ds gs : List (DataW H)) (before : List MemPlace)
  (hval : ∀ (j : Nat) t v, Tryz.f6.params[j]? = some t → args[j]? = some v → Value.okWide Tryz.prog W .any base t v)
  (hW : DataW.Whole enc Tryz.prog Tryz.f6.params.toList Rows.nfaTimesSpec.vars false W args.toList ds gs before) (hL : laidMetH Tryz.prog Rows.nfaTimesRow.laid W) :
  Calls Tryz.prog 6 args W fun e W' => ∃ v, e = .returned v ∧ Rows.nfaTimesSpec.post enc Tryz.prog Tryz.f6 false true false false W args v W' := by
 have hW' := hW
 obtain ⟨p, q, hA0, hV, rfl, hfz, hnd⟩ := hW
 have hA : DataW.TrodAll enc Tryz.prog W 0 (fun _ => true) true Tryz.f6.params.toList args.toList ds p := hA0
 rw [Tryz.params6] at hA hval
 obtain ⟨v0, vs0, d0, ds0, p0, q0, hargs, rfl, rfl, h0, r0⟩ := trodAll_cons hA
 obtain ⟨v1, vs1, d1, ds1, p1, q1, rfl, rfl, rfl, h1, r1⟩ := trodAll_cons r0
 obtain ⟨v2, vs2, d2, ds2, p2, q2, rfl, rfl, rfl, h2, r2⟩ := trodAll_cons r1
 obtain ⟨rfl, rfl, rfl⟩ := trodAll_nil r2
 obtain rfl : args = #[v0, v1, v2] := by cases args; simp_all
 obtain ⟨rfl, rfl⟩ := trodVars_none hV
 obtain ⟨x, rfl, rfl, rfl, wx⟩ := open_int Tryz.underlying3 (hval 0 3 v0 rfl rfl) h0
 obtain ⟨y, rfl, rfl, rfl, wy⟩ := open_int Tryz.underlying3 (hval 1 3 v1 rfl rfl) h1
 obtain ⟨z, rfl, rfl, rfl, wz⟩ := open_int Tryz.underlying3 (hval 2 3 v2 rfl rfl) h2
 clear hA0
 refine (walk x (wf_i64 wx) y (wf_i64 wy) z (wf_i64 wz) W (spans_of hL) ).mono fun e W' ⟨he, hg⟩ => ?_
 subst he
 exact ⟨_, rfl, close rfl hW' ⟨rfl, rfl, rfl⟩ (by kernel_rfl) (by kernel_rfl) hg⟩
set_option maxRecDepth 100000 in
theorem laid_met (os : Os) : laidMet Tryz.prog Rows.nfaTimesRow.laid ((laidWorld os).forCall (fun _ _ => 0) ⟨#[], #[.int .i64 0, .int .i64 0, .int .i64 0], []⟩).memory :=
 laidMet_of_run' 8 (by kernel_rfl) (by kernel_rfl)
set_option maxRecDepth 100000 in
theorem reads (os : Os) {H : Type} (enc : TypeId × Value → H) : ∃ places, DataW.whole enc Tryz.prog ((laidWorld os).forCall (fun _ _ => 0) ⟨#[], #[.int .i64 0, .int .i64 0, .int .i64 0], []⟩).memory Tryz.f6.params.toList Rows.nfaTimesSpec.vars false (#[.int .i64 0, .int .i64 0, .int .i64 0] : Array Value).toList 8 = some ([.lit (.int .i64 0), .lit (.int .i64 0), .lit (.int .i64 0)], [], places) :=
 ⟨[], by kernel_rfl⟩
set_option maxRecDepth 100000 in
theorem lifted (os : Os) (started : os.Started) (H : Type) (enc : TypeId × Value → H) (F : Stop.Interp) :
  ReturnsInHanded {} Tryz.checked os 6 .any ((OpenSpec.ofChange Rows.nfaTimesSpec).preRow enc Tryz.prog Tryz.f6 Rows.nfaTimesRow.domain false Rows.nfaTimesRow.laid) (((OpenSpec.ofChange Rows.nfaTimesSpec).at F).post enc Tryz.prog Tryz.f6 false true false false) := by
 obtain ⟨places, hx⟩ := reads os enc
 refine returnsInHanded_of_row (C := Tryz.checked) (s := OpenSpec.ofChange Rows.nfaTimesSpec) ownNone started (by kernel_rfl) Tryz.func6
  (witness_row_at (enc := enc) (C := Tryz.checked) false (laidWorld os) #[.int .i64 0, .int .i64 0, .int .i64 0] rfl (by kernel_rfl) (by kernel_rfl) (by kernel_rfl)
   (OpenSpec.preRow_of_cond 8 hx (by kernel_rfl) (fun k hk => by cases hk) (by kernel_rfl) (laid_met os))) ?_
 intro W base args ds gs before hval hW _ _ _ hL _ _
 exact contract H enc W base args ds gs before hval hW hL
set_option maxRecDepth 100000 in
set_option maxHeartbeats 0 in
theorem facts : joinedFacts Tryz.checked.prog 6 Tryz.f6 (OpenSpec.ofChange Rows.nfaTimesSpec).bare Rows.nfaTimesRow = true := by
 have h1 := Sum.tables.1
 have h2 := Sum.tables.2.1
 have h3 := Sum.tables.2.2
 have h4 := Sum.mayEnter
 have e1 : Rows.nfaTimesRow.lifted = Rows.nfaAllRow.lifted := by kernel_rfl
 have e2 : Rows.nfaTimesRow.make = Rows.nfaAllRow.make := by kernel_rfl
 have h5 : (Rows.nfaTimesRow.lifted == Tryz.checked.prog.liftsFinal) = true := by rw [e1]; exact Sum.lifts
 have h6 : (Tryz.checked.prog.make == some Rows.nfaTimesRow.make) = true := by rw [e2]; exact Sum.make
 unfold joinedFacts
 repeat' (with_reducible refine Sum.and_mk ?_ ?_)
 all_goals first
  | with_reducible exact h1
  | with_reducible exact h2
  | with_reducible exact h4
  | with_reducible exact h5
  | with_reducible exact h6
  | (rw [h3]; as_aux_lemma => kernel_rfl)
  | (clear h1 h2 h3 h4 h5 h6 e1 e2; as_aux_lemma => kernel_rfl)
set_option maxRecDepth 100000 in
theorem said : Rows.NfaTimesSaid :=
 OpenClaim.holds_of_cond 6 Tryz.f6 rfl rfl rfl rfl rfl rfl rfl ⟨rfl, rfl, rfl, rfl, rfl⟩ rfl rfl rfl rfl rfl (by kernel_rfl) Tryz.func6 facts
  (of_decide_eq_true (by kernel_rfl)) (by unfold Func.isWrapper; first | (rw [if_pos (by decide +kernel)]; kernel_rfl) | (rw [if_neg (by decide +kernel)]; exact ⟨rfl, rfl⟩))
  (fun os started H enc _ F => by rw [OpenClaim.pre_eq_preRow]; exact lifted os started H enc F)
set_option maxRecDepth 100000 in
theorem plain (f : FuncId) (fn : Func) (hf : Tryz.pinned.checked.prog.funcNamed "rotulus/rotuluslaw14.NfaTimes" = some f) (hfn : Tryz.pinned.checked.prog.funcs[f]? = some fn) :
  false = Tryz.pinned.checked.prog.looks [] ∧ ∀ (j : Nat) t, fn.params[j]? = some t → Tryz.pinned.checked.prog.wantsStandIn t = false := by
 obtain rfl : f = 6 := Option.some.inj ((show Tryz.prog.funcNamed "rotulus/rotuluslaw14.NfaTimes" = some 6 by kernel_rfl).symm.trans hf) |>.symm
 obtain rfl : fn = Tryz.f6 := (Option.some.inj (Tryz.func6.symm.trans hfn)).symm
 refine ⟨by kernel_rfl, fun j t ht => ?_⟩
 rw [Tryz.params6] at ht
 have hm := Array.mem_of_getElem? ht
 simp at hm
 subst hm
 exact (show Tryz.prog.wantsStandIn 3 = false by kernel_rfl)
set_option maxRecDepth 100000 in
theorem card : Rows.NfaTimesCardSaid :=
 Claim7.holds_tied_plain_at .later [] _ _ _ _ said (fun _ h => by cases h) (by kernel_rfl) (fun _ h => by cases h) nfaTimes_row_tie rfl ⟨rfl, rfl⟩ (by kernel_rfl) rfl plain (by kernel_rfl)
end Go.Proofs.YtbmldpodcipncaaGreatDoor.nfaTimes
