/-
  The statement FindAll: of any pattern in any line, from any place: the nearest match and the last one, and how long the longest there is, are those that the reference tells. For every two texts of at most 1048576 bytes together (of which the statement takes the first thirty bytes and the first twenty-five signs) and every number; it holds where the table of widths is as its initialiser lays it, which the card ties to the program's text.
-/
import Derived.Test.YteemnmalikomgaaGreatDoorQFcEvZ0
import Derived.Test.YteemnmalikomgaaGreatDoorQFcBase0
import Derived.Test.YteemnmalikomgaaGreatDoorQFcBase1
import Derived.Test.YteemnmalikomgaaGreatDoorQFcBase14
import Derived.BigQuiet
namespace Go.Proofs.YteemnmalikomgaaGreatDoor.findAll
open Go.ChangeShapes Go.WideShapes Go.ChangeAt Go.RowKit
open NF
set_option maxRecDepth 100000 in
set_option maxHeartbeats 12800000 in
theorem walk (re : ByteArray) (_ : re.size ≤ 1048576) (s0 : ByteArray) (hs0 : s0.size ≤ 1048576) (z : Int) (hzr : -9223372036854775808 ≤ z ∧ z ≤ 9223372036854775807) (w : World) (hs : Spans w) :
  Calls Tryz.prog 5 #[.string re, .string s0, .int .i64 z] w fun e w' => e = .returned (.bool true) ∧ Below w.heap.size w w' := by
 have S := Lib.hid hs
 have PW := Lib.hid (fun wx => prog_walk re wx)
 clear hs
 go_enter Tryz.func5, Tryz.ntmps5
 go_wp2_with fail
 refine (Ev.Trues.at Ev.begun16 w S.out).mono ?_
 rintro e w1 ⟨rfl, b1⟩
 have B1 := Lib.hid b1
 clear b1 S
 go_wp2_with fail
 refine (PW.out w1).mono ?_
 rintro e w2 ⟨⟨k, A, nn, c, nt, A2, n2, c2, mn, mx⟩, P, ok, rfl, b2, hok, _⟩
 have B2 := Lib.hid (B1.out.trans (b2.mono B1.out.size))
 clear PW
 cases ok with
 | false =>
  clear hok b2
  try dsimp only [Nv.v]
  go_wp2_with fail
  go_ret
  exact ⟨rfl, B2.out.alloc B2.out.size _⟩
 | true =>
  obtain ⟨t, p, rfl, hx, hp, _⟩ := hok rfl
  obtain ⟨w3, hw3, k3, b3, z3⟩ := new_node w2 k A nn c nt A2 n2 c2 mn mx
  obtain ⟨NB, hNB⟩ : ∃ b, w2.heap.size = b := ⟨_, rfl⟩
  have K3 := Lib.hid (hNB ▸ k3 : nodeBk w3 NB ⟨k, A, nn, c, nt, A2, n2, c2, mn, mx⟩)
  have X3 := Lib.hid (ndIn_up (Nat.le_refl _) b3.size (hx.below b3))
  have G3 := Lib.hid ((hp.below b3).up b3.size)
  have B3 := Lib.hid (B2.out.trans (b3.mono B2.out.size))
  have L3 := Lib.hid (show NB < w3.heap.size by omega)
  have HW3 := Lib.hid hw3
  have HNB := Lib.hid hNB
  have TW := Lib.hid (text16_walk s0 (by omega) w3)
  clear hok b2 hx hp k3 b3 z3 hw3 hNB
  try dsimp only [Nv.v]
  go_upto_region 5 with fail
  rw [HNB.out]
  first
   | rw [HW3.out]
   | (change Code.wp _ _ _ _ (w2.alloc (.cells #[.int .i64 k, .slice A nn c, .bool nt, .slice A2 n2 c2, .int .i64 mn, .int .i64 mx] 29)); rw [HW3.out])
  go_wp2_with fail
  refine TW.out.mono ?_
  rintro e w4 ⟨A6, c6, n6, rfl, hq6, hl6, hn6, hc6, b4⟩
  obtain ⟨l, hl⟩ : ∃ l, (runO st0 (octs s0)).take 25 = l := ⟨_, rfl⟩
  rw [hl] at hq6 hl6
  have SQ := Lib.hid hq6
  have LL := Lib.hid hl6
  have B4 := Lib.hid (B3.out.trans (b4.mono B3.out.size))
  have K4 := Lib.hid (show nodeBk w4 NB ⟨k, A, nn, c, nt, A2, n2, c2, mn, mx⟩ from K3.out.below b4 L3.out)
  have X4 := Lib.hid (ndIn_up (Nat.le_refl _) b4.size (X3.out.below b4))
  have PG4 := Lib.hid ((G3.out.below b4).up b4.size)
  have L4 := Lib.hid (Nat.lt_of_lt_of_le L3.out b4.size)
  clear hq6 hl6 b4 hl TW K3 X3 G3
  by_cases hz30 : 30 < z
  ·have HZR : -9223372036854775808 ≤ z.tmod 30 ∧ z.tmod 30 ≤ 9223372036854775807 := by
    have := Int.tmod_nonneg 30 (show 0 ≤ z by omega)
    have := Int.tmod_lt_of_pos z (show (0 : Int) < 30 by omega)
    omega
   obtain ⟨zz, hzz⟩ : ∃ zz, z.tmod 30 = zz := ⟨_, rfl⟩
   rw [hzz] at HZR
   have CN := Lib.hid (findAtAll PG4.out A6 n6 c6 l (by omega) LL.out SQ.out)
   have RN := Lib.hid (refAtAll t ⟨k, A, nn, c, nt, A2, n2, c2, mn, mx⟩ _ w4 PG4.out.1 X4.out A6 n6 c6 l (by omega) LL.out SQ.out)
   have PA := Lib.hid (show ∀ W, Below w4.heap.size w4 W → Calls Tryz.prog 28 #[.pointer (some ⟨p, 0, none⟩), .slice A6 n6 c6, .int .i64 zz] W fun e w' => LenP (atI l t n6 zz) W e w' from fun W b => findAt_walk (PG4.out.below b) A6 n6 c6 l (by omega) b.size LL.out ((SQ.out.below b).up b.size) _)
   have PB := Lib.hid (show ∀ W, Below w4.heap.size w4 W → Calls Tryz.prog 29 #[.agg #[.int .i64 k, .slice A nn c, .bool nt, .slice A2 n2 c2, .int .i64 mn, .int .i64 mx], .slice A6 n6 c6, .int .i64 zz] W fun e w' => LenP (atI l t n6 zz) W e w' from fun W b => refAt_walk t ⟨k, A, nn, c, nt, A2, n2, c2, mn, mx⟩ _ W PG4.out.1 (ndIn_up (Nat.le_refl _) b.size (X4.out.below b)) A6 n6 c6 l (by omega) LL.out ((SQ.out.below b).up b.size) _)
   obtain ⟨u1, v1, g1, e1⟩ := hitV_any (longI l t n6) (nxt (longI l t n6) (zz).toNat (n6 - (zz).toNat))
   obtain ⟨u2, v2, g2, e2⟩ := hitV_any (longI l t n6) (lst (longI l t n6) (min (zz).toNat n6))
   obtain ⟨q, hq⟩ : ∃ q, atI l t n6 zz = q := ⟨_, rfl⟩
   have N1 := Lib.hid (fun W (b : Below w4.heap.size w4 W) => findNext_gen (longI l t n6) _ A6 n6 c6 zz HZR W (by omega) (CN.out.below b))
   have N2 := Lib.hid (fun W (b : Below w4.heap.size w4 W) => refNext_gen (longI l t n6) ⟨k, A, nn, c, nt, A2, n2, c2, mn, mx⟩ A6 n6 c6 zz HZR W (by omega) (RN.out.below b))
   have N3 := Lib.hid (fun W (b : Below w4.heap.size w4 W) => findLast_gen (longI l t n6) _ A6 n6 c6 zz HZR W (by omega) (CN.out.below b))
   have N4 := Lib.hid (fun W (b : Below w4.heap.size w4 W) => refLast_gen (longI l t n6) ⟨k, A, nn, c, nt, A2, n2, c2, mn, mx⟩ A6 n6 c6 zz HZR W (by omega) (RN.out.below b))
   unfold HitP at N1 N2 N3 N4
   unfold LenP at PA PB
   rw [e1] at N1 N2
   rw [e2] at N3 N4
   rw [hq] at PA PB
   try dsimp only [Nv.v] at N2 N4
   clear e1 e2 hq CN RN
   go_wp2_with fail
   refine (N1.out w4 (Below.refl _ _)).mono ?_
   rintro e w5 ⟨rfl, b5⟩
   have C5 := Lib.hid b5
   have K5 := Lib.hid (show nodeBk w5 NB ⟨k, A, nn, c, nt, A2, n2, c2, mn, mx⟩ from K4.out.below b5 L4.out)
   clear b5 N1
   obtain ⟨y0, y1, y2, y3, y4, y5⟩ := nv_bk K5.out
   go_wp2_with fail
   refine (N2.out w5 C5.out).mono ?_
   rintro e w6 ⟨rfl, b6⟩
   have C6 := Lib.hid (C5.out.trans (b6.mono C5.out.size))
   have K6 := Lib.hid (show nodeBk w6 NB ⟨k, A, nn, c, nt, A2, n2, c2, mn, mx⟩ from K4.out.below C6.out L4.out)
   clear b6 N2 y0 y1 y2 y3 y4 y5
   go_wp2_with fail
   refine (N3.out w6 C6.out).mono ?_
   rintro e w7 ⟨rfl, b7⟩
   have C7 := Lib.hid (C6.out.trans (b7.mono C6.out.size))
   have K7 := Lib.hid (show nodeBk w7 NB ⟨k, A, nn, c, nt, A2, n2, c2, mn, mx⟩ from K4.out.below C7.out L4.out)
   clear b7 N3
   obtain ⟨y0, y1, y2, y3, y4, y5⟩ := nv_bk K7.out
   go_wp2_with fail
   refine (N4.out w7 C7.out).mono ?_
   rintro e w8 ⟨rfl, b8⟩
   have C8 := Lib.hid (C7.out.trans (b8.mono C7.out.size))
   clear b8 N4 y0 y1 y2 y3 y4 y5 K5 K6 K7
   go_upto_region 14 with fail
   obtain ⟨Jx, hJx, F, h0, hBn, hN'⟩ := ClsB.below w8
   have H0 := Lib.hid h0
   have HBn := Lib.hid hBn
   have PN1 := Lib.hid (show ∀ n, Calls Tryz.prog 28 #[.pointer (some ⟨p, 0, none⟩), .slice A6 n6 c6, .int .i64 zz] (F n) fun e w' => e = .returned (.int .i64 q) ∧ ∃ m, w' = F m from fun n => (PA.out (F n) (C8.out.trans ((hBn n).mono C8.out.size))).mono fun e w' ⟨he, hb⟩ => ⟨he, hN' n w' hb⟩)
   have PN2 := Lib.hid (show ∀ n, Calls Tryz.prog 29 #[.agg #[.int .i64 k, .slice A nn c, .bool nt, .slice A2 n2 c2, .int .i64 mn, .int .i64 mx], .slice A6 n6 c6, .int .i64 zz] (F n) fun e w' => e = .returned (.int .i64 q) ∧ ∃ m, w' = F m from fun n => (PB.out (F n) (C8.out.trans ((hBn n).mono C8.out.size))).mono fun e w' ⟨he, hb⟩ => ⟨he, hN' n w' hb⟩)
   have KB := Lib.hid (fun n => nv_bk (show nodeBk (F n) NB ⟨k, A, nn, c, nt, A2, n2, c2, mn, mx⟩ from K4.out.below (C8.out.trans ((hBn n).mono C8.out.size)) L4.out))
   have q0 := fun n => (KB.out n).1
   have q1 := fun n => (KB.out n).2.1
   have q2 := fun n => (KB.out n).2.2.1
   have q3 := fun n => (KB.out n).2.2.2.1
   have q4 := fun n => (KB.out n).2.2.2.2.1
   have q5 := fun n => (KB.out n).2.2.2.2.2
   clear h0 hBn hN' PA PB
   refine ClsB.region F H0.out (by kernel_rfl) (by kernel_rfl) ?_
   repeat (go_big_quiet_step (first | (go_at_call 28; exact PN1.out _) | (go_at_call 29; exact PN2.out _)))
   refine wpQuiet_nil ?_
   intro _ hw'
   obtain ⟨nq, hw''⟩ := hw'
   subst hw''
   have BF := Lib.hid (B4.out.trans ((C8.out.trans ((HBn.out nq).mono C8.out.size)).mono B4.out.size))
   clear q0 q1 q2 q3 q4 q5
   go_wp2_with fail
   go_ret
   exact ⟨rfl, BF.out⟩
  ·have hz31 : ¬ 30 < z := hz30
   have CN := Lib.hid (findAtAll PG4.out A6 n6 c6 l (by omega) LL.out SQ.out)
   have RN := Lib.hid (refAtAll t ⟨k, A, nn, c, nt, A2, n2, c2, mn, mx⟩ _ w4 PG4.out.1 X4.out A6 n6 c6 l (by omega) LL.out SQ.out)
   have PA := Lib.hid (show ∀ W, Below w4.heap.size w4 W → Calls Tryz.prog 28 #[.pointer (some ⟨p, 0, none⟩), .slice A6 n6 c6, .int .i64 z] W fun e w' => LenP (atI l t n6 z) W e w' from fun W b => findAt_walk (PG4.out.below b) A6 n6 c6 l (by omega) b.size LL.out ((SQ.out.below b).up b.size) _)
   have PB := Lib.hid (show ∀ W, Below w4.heap.size w4 W → Calls Tryz.prog 29 #[.agg #[.int .i64 k, .slice A nn c, .bool nt, .slice A2 n2 c2, .int .i64 mn, .int .i64 mx], .slice A6 n6 c6, .int .i64 z] W fun e w' => LenP (atI l t n6 z) W e w' from fun W b => refAt_walk t ⟨k, A, nn, c, nt, A2, n2, c2, mn, mx⟩ _ W PG4.out.1 (ndIn_up (Nat.le_refl _) b.size (X4.out.below b)) A6 n6 c6 l (by omega) LL.out ((SQ.out.below b).up b.size) _)
   obtain ⟨u1, v1, g1, e1⟩ := hitV_any (longI l t n6) (nxt (longI l t n6) (z).toNat (n6 - (z).toNat))
   obtain ⟨u2, v2, g2, e2⟩ := hitV_any (longI l t n6) (lst (longI l t n6) (min (z).toNat n6))
   obtain ⟨q, hq⟩ : ∃ q, atI l t n6 z = q := ⟨_, rfl⟩
   have N1 := Lib.hid (fun W (b : Below w4.heap.size w4 W) => findNext_gen (longI l t n6) _ A6 n6 c6 z hzr W (by omega) (CN.out.below b))
   have N2 := Lib.hid (fun W (b : Below w4.heap.size w4 W) => refNext_gen (longI l t n6) ⟨k, A, nn, c, nt, A2, n2, c2, mn, mx⟩ A6 n6 c6 z hzr W (by omega) (RN.out.below b))
   have N3 := Lib.hid (fun W (b : Below w4.heap.size w4 W) => findLast_gen (longI l t n6) _ A6 n6 c6 z hzr W (by omega) (CN.out.below b))
   have N4 := Lib.hid (fun W (b : Below w4.heap.size w4 W) => refLast_gen (longI l t n6) ⟨k, A, nn, c, nt, A2, n2, c2, mn, mx⟩ A6 n6 c6 z hzr W (by omega) (RN.out.below b))
   unfold HitP at N1 N2 N3 N4
   unfold LenP at PA PB
   rw [e1] at N1 N2
   rw [e2] at N3 N4
   rw [hq] at PA PB
   try dsimp only [Nv.v] at N2 N4
   clear e1 e2 hq CN RN
   go_wp2_with fail
   refine (N1.out w4 (Below.refl _ _)).mono ?_
   rintro e w5 ⟨rfl, b5⟩
   have C5 := Lib.hid b5
   have K5 := Lib.hid (show nodeBk w5 NB ⟨k, A, nn, c, nt, A2, n2, c2, mn, mx⟩ from K4.out.below b5 L4.out)
   clear b5 N1
   obtain ⟨y0, y1, y2, y3, y4, y5⟩ := nv_bk K5.out
   go_wp2_with fail
   refine (N2.out w5 C5.out).mono ?_
   rintro e w6 ⟨rfl, b6⟩
   have C6 := Lib.hid (C5.out.trans (b6.mono C5.out.size))
   have K6 := Lib.hid (show nodeBk w6 NB ⟨k, A, nn, c, nt, A2, n2, c2, mn, mx⟩ from K4.out.below C6.out L4.out)
   clear b6 N2 y0 y1 y2 y3 y4 y5
   go_wp2_with fail
   refine (N3.out w6 C6.out).mono ?_
   rintro e w7 ⟨rfl, b7⟩
   have C7 := Lib.hid (C6.out.trans (b7.mono C6.out.size))
   have K7 := Lib.hid (show nodeBk w7 NB ⟨k, A, nn, c, nt, A2, n2, c2, mn, mx⟩ from K4.out.below C7.out L4.out)
   clear b7 N3
   obtain ⟨y0, y1, y2, y3, y4, y5⟩ := nv_bk K7.out
   go_wp2_with fail
   refine (N4.out w7 C7.out).mono ?_
   rintro e w8 ⟨rfl, b8⟩
   have C8 := Lib.hid (C7.out.trans (b8.mono C7.out.size))
   clear b8 N4 y0 y1 y2 y3 y4 y5 K5 K6 K7
   go_upto_region 14 with fail
   obtain ⟨Jx, hJx, F, h0, hBn, hN'⟩ := ClsB.below w8
   have H0 := Lib.hid h0
   have HBn := Lib.hid hBn
   have PN1 := Lib.hid (show ∀ n, Calls Tryz.prog 28 #[.pointer (some ⟨p, 0, none⟩), .slice A6 n6 c6, .int .i64 z] (F n) fun e w' => e = .returned (.int .i64 q) ∧ ∃ m, w' = F m from fun n => (PA.out (F n) (C8.out.trans ((hBn n).mono C8.out.size))).mono fun e w' ⟨he, hb⟩ => ⟨he, hN' n w' hb⟩)
   have PN2 := Lib.hid (show ∀ n, Calls Tryz.prog 29 #[.agg #[.int .i64 k, .slice A nn c, .bool nt, .slice A2 n2 c2, .int .i64 mn, .int .i64 mx], .slice A6 n6 c6, .int .i64 z] (F n) fun e w' => e = .returned (.int .i64 q) ∧ ∃ m, w' = F m from fun n => (PB.out (F n) (C8.out.trans ((hBn n).mono C8.out.size))).mono fun e w' ⟨he, hb⟩ => ⟨he, hN' n w' hb⟩)
   have KB := Lib.hid (fun n => nv_bk (show nodeBk (F n) NB ⟨k, A, nn, c, nt, A2, n2, c2, mn, mx⟩ from K4.out.below (C8.out.trans ((hBn n).mono C8.out.size)) L4.out))
   have q0 := fun n => (KB.out n).1
   have q1 := fun n => (KB.out n).2.1
   have q2 := fun n => (KB.out n).2.2.1
   have q3 := fun n => (KB.out n).2.2.2.1
   have q4 := fun n => (KB.out n).2.2.2.2.1
   have q5 := fun n => (KB.out n).2.2.2.2.2
   clear h0 hBn hN' PA PB
   refine ClsB.region F H0.out (by kernel_rfl) (by kernel_rfl) ?_
   repeat (go_big_quiet_step (first | (go_at_call 28; exact PN1.out _) | (go_at_call 29; exact PN2.out _)))
   refine wpQuiet_nil ?_
   intro _ hw'
   obtain ⟨nq, hw''⟩ := hw'
   subst hw''
   have BF := Lib.hid (B4.out.trans ((C8.out.trans ((HBn.out nq).mono C8.out.size)).mono B4.out.size))
   clear q0 q1 q2 q3 q4 q5
   go_wp2_with fail
   go_ret
   exact ⟨rfl, BF.out⟩
set_option maxRecDepth 100000 in
theorem contract (H : Type) (enc : TypeId × Value → H) (W : World) (base : Nat) (args : Array Value) (ds gs : List (DataW H)) (before : List MemPlace)
  (hval : ∀ (j : Nat) t v, Tryz.f5.params[j]? = some t → args[j]? = some v → Value.okWide Tryz.prog W .any base t v)
  (hW : DataW.Whole enc Tryz.prog Tryz.f5.params.toList Rows.findAllSpec.vars false W args.toList ds gs before) (hL : laidMetH Tryz.prog Rows.findAllUptoRow.laid W) (hk : Rows.uptoSmall H (ds ++ gs) = true) :
  Calls Tryz.prog 5 args W fun e W' => ∃ v, e = .returned v ∧ Rows.findAllSpec.post enc Tryz.prog Tryz.f5 false true false false W args v W' := by
 have hW' := hW
 obtain ⟨p, q, hA0, hV, rfl, hfz, hnd⟩ := hW
 have hA : DataW.TrodAll enc Tryz.prog W 0 (fun _ => true) true Tryz.f5.params.toList args.toList ds p := hA0
 rw [Tryz.params5] at hA hval
 obtain ⟨v0, vs0, d0, ds0, p0, q0, hargs, rfl, rfl, h0, r0⟩ := trodAll_cons hA
 obtain ⟨v1, vs1, d1, ds1, p1, q1, rfl, rfl, rfl, h1, r1⟩ := trodAll_cons r0
 obtain ⟨v2, vs2, d2, ds2, p2, q2, rfl, rfl, rfl, h2, r2⟩ := trodAll_cons r1
 obtain ⟨rfl, rfl, rfl⟩ := trodAll_nil r2
 obtain rfl : args = #[v0, v1, v2] := by cases args; simp_all
 obtain ⟨rfl, rfl⟩ := trodVars_none hV
 obtain ⟨x, rfl, rfl, rfl, wx⟩ := Go.ChangeMaps.open_string Tryz.underlying9 (hval 0 9 v0 rfl rfl) h0
 obtain ⟨y, rfl, rfl, rfl, wy⟩ := Go.ChangeMaps.open_string Tryz.underlying9 (hval 1 9 v1 rfl rfl) h1
 obtain ⟨z, rfl, rfl, rfl, wz⟩ := open_int Tryz.underlying3 (hval 2 3 v2 rfl rfl) h2
 clear hA0
 simp only [List.append_nil] at hk
 have hB := NF.bulk_le hk
 simp only [Rows.uptoBulkAll, Rows.uptoBulk] at hB
 have zx : x.size ≤ 1048576 := by
  have h : x.data.toList.length = x.size := by rw [Array.length_toList]; rfl
  omega
 have zy : y.size ≤ 1048576 := by
  have h : y.data.toList.length = y.size := by rw [Array.length_toList]; rfl
  omega
 refine (walk x zx y zy z (wf_i64 wz) W (spans_of hL) ).mono fun e W' ⟨he, hg⟩ => ?_
 subst he
 exact ⟨_, rfl, close rfl hW' ⟨rfl, rfl, rfl⟩ (by kernel_rfl) (by kernel_rfl) hg⟩
set_option maxRecDepth 100000 in
theorem laid_met (os : Os) : laidMet Tryz.prog Rows.findAllUptoRow.laid ((laidWorld os).forCall (fun _ _ => 0) ⟨#[], #[.string .empty, .string .empty, .int .i64 0], []⟩).memory :=
 laidMet_of_run' 8 (by kernel_rfl) (by kernel_rfl)
set_option maxRecDepth 100000 in
theorem reads (os : Os) {H : Type} (enc : TypeId × Value → H) : ∃ places, DataW.whole enc Tryz.prog ((laidWorld os).forCall (fun _ _ => 0) ⟨#[], #[.string .empty, .string .empty, .int .i64 0], []⟩).memory Tryz.f5.params.toList Rows.findAllSpec.vars false (#[.string .empty, .string .empty, .int .i64 0] : Array Value).toList 8 = some ([.lit (.string []), .lit (.string []), .lit (.int .i64 0)], [], places) :=
 ⟨[], by kernel_rfl⟩
set_option maxRecDepth 100000 in
theorem lifted (os : Os) (started : os.Started) (H : Type) (enc : TypeId × Value → H) (F : Stop.Interp) :
  ReturnsInHanded {} Tryz.checked os 5 .any ((Rows.OpenSpec.upto Rows.findAllSpec).preRow enc Tryz.prog Tryz.f5 Rows.findAllUptoRow.domain false Rows.findAllUptoRow.laid) (((Rows.OpenSpec.upto Rows.findAllSpec).at F).post enc Tryz.prog Tryz.f5 false true false false) := by
 obtain ⟨places, hx⟩ := reads os enc
 refine returnsInHanded_of_row (C := Tryz.checked) (s := Rows.OpenSpec.upto Rows.findAllSpec) ownNone started (by kernel_rfl) Tryz.func5
  (witness_row_at (enc := enc) (C := Tryz.checked) false (laidWorld os) #[.string .empty, .string .empty, .int .i64 0] rfl (by kernel_rfl) (by kernel_rfl) (by kernel_rfl)
   (OpenSpec.preRow_of_cond 8 hx (by kernel_rfl) (fun k hk => by cases hk; kernel_rfl) (by kernel_rfl) (laid_met os))) ?_
 intro W base args ds gs before hval hW _ hcond _ hL _ _
 exact contract H enc W base args ds gs before hval hW hL (hcond _ rfl)
set_option maxRecDepth 100000 in
set_option maxHeartbeats 0 in
theorem facts : joinedFacts Tryz.checked.prog 5 Tryz.f5 (Rows.OpenSpec.upto Rows.findAllSpec).bare Rows.findAllUptoRow = true := by
 have h1 := Sum.tables.1
 have h2 := Sum.tables.2.1
 have h3 := Sum.tables.2.2
 have h4 := Sum.mayEnter
 have e1 : Rows.findAllUptoRow.lifted = Rows.findAllRow.lifted := by kernel_rfl
 have e2 : Rows.findAllUptoRow.make = Rows.findAllRow.make := by kernel_rfl
 have h5 : (Rows.findAllUptoRow.lifted == Tryz.checked.prog.liftsFinal) = true := by rw [e1]; exact Sum.lifts
 have h6 : (Tryz.checked.prog.make == some Rows.findAllUptoRow.make) = true := by rw [e2]; exact Sum.make
 unfold joinedFacts
 repeat' (with_reducible refine Sum.and_mk ?_ ?_)
 all_goals first
  | with_reducible exact h1
  | with_reducible exact h2
  | with_reducible exact h4
  | with_reducible exact h5
  | with_reducible exact h6
  | (rw [h3]; as_aux_lemma => kernel_rfl)
  | (clear h1 h2 h3 h4 h5 h6 e1 e2; as_aux_lemma => kernel_rfl)
set_option maxRecDepth 100000 in
theorem said : Rows.FindAllUptoSaid :=
 OpenClaim.holds_of_cond 5 Tryz.f5 rfl rfl rfl rfl rfl rfl rfl ⟨rfl, rfl, rfl, rfl, rfl⟩ rfl rfl rfl rfl rfl (by kernel_rfl) Tryz.func5 facts
  (of_decide_eq_true (by kernel_rfl)) (by unfold Func.isWrapper; first | (rw [if_pos (by decide +kernel)]; kernel_rfl) | (rw [if_neg (by decide +kernel)]; exact ⟨rfl, rfl⟩))
  (fun os started H enc _ F => by rw [OpenClaim.pre_eq_preRow]; exact lifted os started H enc F)
set_option maxRecDepth 100000 in
theorem plain (f : FuncId) (fn : Func) (hf : Tryz.pinned.checked.prog.funcNamed "rotulus/rotuluslaw16.FindAll" = some f) (hfn : Tryz.pinned.checked.prog.funcs[f]? = some fn) :
  false = Tryz.pinned.checked.prog.looks [] ∧ ∀ (j : Nat) t, fn.params[j]? = some t → Tryz.pinned.checked.prog.wantsStandIn t = false := by
 obtain rfl : f = 5 := Option.some.inj ((show Tryz.prog.funcNamed "rotulus/rotuluslaw16.FindAll" = some 5 by kernel_rfl).symm.trans hf) |>.symm
 obtain rfl : fn = Tryz.f5 := (Option.some.inj (Tryz.func5.symm.trans hfn)).symm
 refine ⟨by kernel_rfl, fun j t ht => ?_⟩
 rw [Tryz.params5] at ht
 have hm := Array.mem_of_getElem? ht
 simp at hm
 rcases hm with rfl | rfl
 ·exact (show Tryz.prog.wantsStandIn 9 = false by kernel_rfl)
 ·exact (show Tryz.prog.wantsStandIn 3 = false by kernel_rfl)
set_option maxRecDepth 100000 in
theorem card : Rows.FindAllUptoCardSaid :=
 Claim7.holds_tied_plain_at .later [] _ _ _ _ said (fun _ h => by cases h) (by kernel_rfl) (fun _ h => by cases h) findAllUpto_row_tie rfl ⟨rfl, rfl⟩ (by kernel_rfl) rfl plain (by kernel_rfl)
end Go.Proofs.YteemnmalikomgaaGreatDoor.findAll
