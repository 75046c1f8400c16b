/-
  The statement NfaText: of any pattern that is read from a text, the machine ends at just the places that the reference tells. For every two texts of at most 1048576 bytes together (of which the statement takes the first forty bytes and the first thirty signs) and every number; it holds where the table of widths is as its initialiser lays it, which the card ties to the program's text.
-/
import Derived.Test.YtbmldpodcipncaaGreatDoorQTEvZ0
import Derived.Test.YtbmldpodcipncaaGreatDoorQTBase0
import Derived.Test.YtbmldpodcipncaaGreatDoorQTBase1
import Derived.Test.YtbmldpodcipncaaGreatDoorQTBase13
import Derived.Deep.RegionLaw
namespace Go.Proofs.YtbmldpodcipncaaGreatDoor.nfaText
open Go.ChangeShapes Go.WideShapes Go.ChangeAt Go.RowKit
open NF
theorem prg_drew {w : World} {p : Nat} {t : Nd} (h : Prg w w.heap.size p t) : Prg w.drew w.drew.heap.size p t := h.below (Below.refl _ _).drew
set_option maxRecDepth 100000 in
set_option maxHeartbeats 12800000 in
theorem walk (re : ByteArray) (_ : re.size ≤ 1048576) (s0 : ByteArray) (hs0 : s0.size ≤ 1048576) (z : Int) (hzr : -9223372036854775808 ≤ z ∧ z ≤ 9223372036854775807) (w : World) (hs : Spans w) :
  Calls Tryz.prog 4 #[.string re, .string s0, .int .i64 z] w fun e w' => e = .returned (.bool true) ∧ Below w.heap.size w w' := by
 have S := Lib.hid hs
 have SH := Lib.hid (fun wx => shortT_walk re 40 wx)
 obtain ⟨T, hT⟩ : ∃ T, shortT re 40 = T := ⟨_, rfl⟩
 have hT40 : T.size ≤ 40 := by rw [← hT]; exact shortT_size re 40
 rw [hT] at SH
 clear hs hT
 go_enter Tryz.func4, Tryz.ntmps4
 go_wp2_with fail
 refine (Ev.Trues.at Ev.begun14 w S.out).mono ?_
 rintro e w1 ⟨rfl, b1⟩
 have B1 := Lib.hid b1
 clear b1 S
 go_wp2_with fail
 refine (SH.out w1).mono ?_
 rintro e w' ⟨rfl, rfl⟩
 have PW := Lib.hid (parse_walk T (by omega) w1)
 clear SH
 go_wp2_with fail
 refine PW.out.mono ?_
 intro e w2 hp
 have HP := Lib.hid hp
 clear hp PW
 cases hps : parseS T with
 | none =>
  have HZ := HP.out
  rw [hps] at HZ
  obtain ⟨rfl, b2⟩ := HZ
  have B2 := Lib.hid (B1.out.trans (b2.mono B1.out.size))
  clear HP b2 hps
  try dsimp only [Nv.v, zeroV]
  go_wp2_with fail
  go_ret
  exact ⟨rfl, B2.out.alloc B2.out.size _⟩
 | some t =>
  obtain ⟨k, A, nn, c, nt, A2, n2, c2, mn, mx, rfl, hx, b2⟩ := parsed HP.out hps
  obtain ⟨w3, hw3, k3, b3, z3⟩ := new_node w2 k A nn c nt A2 n2 c2 mn mx
  have PZ := parseS_small hps
  have hd40 : deep t ≤ 40 := by omega
  have hc80 : count t ≤ 2000 := by omega
  have MY := Lib.hid PZ.1
  have B3 := Lib.hid (B1.out.trans ((b2.trans (b3.mono b2.size)).mono B1.out.size))
  have X3 := Lib.hid (ndO_in (fun b hb => hb) (ndO_below hx b3))
  obtain ⟨NB, hNB⟩ : ∃ b, w2.heap.size = b := ⟨_, rfl⟩
  have Z3 := Lib.hid (show w3.heap.size = NB + 1 by omega)
  have K3 := Lib.hid (hNB ▸ k3 : nodeBk w3 NB ⟨k, A, nn, c, nt, A2, n2, c2, mn, mx⟩)
  have RW := Lib.hid (refWeight_some t ⟨k, A, nn, c, nt, A2, n2, c2, mn, mx⟩ _ w3 PZ.1 X3.out)
  have HW3 := Lib.hid hw3
  have HNB := Lib.hid hNB
  obtain ⟨y0, y1, y2, y3, y4, y5⟩ := nv_bk K3.out
  clear hx b2 k3 b3 z3 hw3 hNB HP hps PZ
  try dsimp only [Nv.v] at RW ⊢
  go_upto_region 5 with fail
  rw [HW3.out, HNB.out]
  go_wp2_with fail
  refine RW.out.mono ?_
  rintro e w4 ⟨v, rfl, hv1, hv2, b4⟩
  have B4 := Lib.hid (B3.out.trans (b4.mono B3.out.size))
  have K4 := Lib.hid (show nodeBk w4 NB ⟨k, A, nn, c, nt, A2, n2, c2, mn, mx⟩ from K3.out.below b4 (by have := Z3.out; omega))
  have X4 := Lib.hid (ndIn_up (Nat.le_refl _) b4.size (X3.out.below b4))
  have L4 := Lib.hid (show NB < w4.heap.size from by have := Z3.out; have := b4.size; omega)
  clear b4 RW y0 y1 y2 y3 y4 y5
  by_cases hbig : 3000 < v
  ·have hbi : (3000 : Int) < (v : Int) := by omega
   go_wp2_with fail
   go_ret
   exact ⟨rfl, B4.out⟩
  ·have hbi : ¬ (3000 : Int) < (v : Int) := by omega
   have WT := Lib.hid (show wt t ≤ 3000 from by rw [hv2 (by omega)]; omega)
   obtain ⟨y0, y1, y2, y3, y4, y5⟩ := nv_bk K4.out
   have DW := Lib.hid (refDeep_some t ⟨k, A, nn, c, nt, A2, n2, c2, mn, mx⟩ _ w4 (by omega) X4.out)
   try dsimp only [Nv.v] at DW
   clear hv1 hv2 hbig
   go_wp2_with fail
   refine DW.out.mono ?_
   rintro e w5 ⟨rfl, b5⟩
   have B5 := Lib.hid (B4.out.trans (b5.mono B4.out.size))
   have K5 := Lib.hid (show nodeBk w5 NB ⟨k, A, nn, c, nt, A2, n2, c2, mn, mx⟩ from K4.out.below b5 L4.out)
   have X5 := Lib.hid (ndIn_up (Nat.le_refl _) b5.size (X4.out.below b5))
   have L5 := Lib.hid (Nat.lt_of_lt_of_le L4.out b5.size)
   clear b5 DW y0 y1 y2 y3 y4 y5 K4 X4 L4
   by_cases hdeep : 14 < deep t
   ·have hdi : (14 : Int) < (deep t : Int) := by omega
    go_wp2_with fail
    go_ret
    exact ⟨rfl, B5.out⟩
   ·have hdi : ¬ (14 : Int) < (deep t : Int) := by omega
    have TW := Lib.hid (text_walk s0 (by omega) 30 (by omega) w5)
    clear hdeep
    go_wp2_with fail
    refine TW.out.mono ?_
    rintro e w6 ⟨A6, c6, n6, rfl, hq6, hl6, hn6, hc6, b6⟩
    obtain ⟨l, hl⟩ : ∃ l, (runO st0 (octs s0)).take 30 = l := ⟨_, rfl⟩
    rw [hl] at hq6 hl6
    have SQ := Lib.hid hq6
    have LL := Lib.hid hl6
    have B6 := Lib.hid (B5.out.trans (b6.mono B5.out.size))
    have K6 := Lib.hid (show nodeBk w6 NB ⟨k, A, nn, c, nt, A2, n2, c2, mn, mx⟩ from K5.out.below b6 L5.out)
    have X6 := Lib.hid (ndIn_up (Nat.le_refl _) b6.size (X5.out.below b6))
    have L6 := Lib.hid (Nat.lt_of_lt_of_le L5.out b6.size)
    obtain ⟨y0, y1, y2, y3, y4, y5⟩ := nv_bk K6.out
    have CW := Lib.hid (compile_ok t ⟨k, A, nn, c, nt, A2, n2, c2, mn, mx⟩ _ w6 X6.out MY.out hd40 hc80 (by have := WT.out; omega))
    try dsimp only [Nv.v] at CW
    have hwl : IntKind.i64.wrap ((n6 : Int) + 1) = (n6 : Int) + 1 := IntWalk.i64_in _ (by omega)
    have hne : ((n6 : Int) + 1 == 0) = false := by simp; omega
    have hne2 : ¬ ((n6 : Int) + 1 = 0) := by omega
    clear hq6 hl6 b6 hl TW K5 X5 L5
    by_cases hz0 : 0 ≤ z
    ·obtain ⟨a, hza⟩ : ∃ a : Nat, z.tmod ((n6 : Int) + 1) = (a : Int) := ⟨(z.tmod ((n6 : Int) + 1)).toNat, by have := Int.tmod_nonneg ((n6 : Int) + 1) hz0; omega⟩
     have ha6 : a ≤ n6 := by have := Int.tmod_lt_of_pos z (show (0 : Int) < (n6 : Int) + 1 by omega); omega
     obtain ⟨L, hL⟩ : ∃ L, endsL (fun e => Mat l t a e) (n6 + 1) = L := ⟨_, rfl⟩
     have LN := Lib.hid (show L.length ≤ 1000001 from by rw [← hL]; have := endsL_len (fun e => Mat l t a e) (n6 + 1); omega)
     have PA := Lib.hid (show ∀ W, Below w6.heap.size w6 W → ∀ p, Prg W W.heap.size p t → Calls Tryz.prog 20 #[.pointer (some ⟨p, 0, none⟩), .slice A6 n6 c6, .int .i64 (a : Int)] W fun e w' => EndsPost L W e w' from fun W hW p hp => by
      rw [← hL]
      exact prg_ends hp A6 n6 c6 a l ha6 (by omega) (Nat.le_refl _) LL.out ((SQ.out.below hW).up hW.size))
     have PB := Lib.hid (show ∀ W, Below w6.heap.size w6 W → Calls Tryz.prog 21 #[.agg #[.int .i64 k, .slice A nn c, .bool nt, .slice A2 n2 c2, .int .i64 mn, .int .i64 mx], .slice A6 n6 c6, .int .i64 (a : Int)] W fun e w' => EndsPost L W e w' from fun W hW => by
      rw [← hL]
      exact refEnds_in t ⟨k, A, nn, c, nt, A2, n2, c2, mn, mx⟩ _ n6 A6 c6 a l W MY.out (ndIn_up (Nat.le_refl _) hW.size (X6.out.below hW)) ((SQ.out.below hW).up hW.size) LL.out (by omega) ha6)
     clear hL
     go_wp2_with fail
     refine CW.out.mono ?_
     rintro e w7 ⟨p, rfl, hp7, b7⟩
     have PG := Lib.hid hp7
     have C7 := Lib.hid b7
     have B7 := Lib.hid (B6.out.trans (b7.mono B6.out.size))
     have K7 := Lib.hid (show nodeBk w7 NB ⟨k, A, nn, c, nt, A2, n2, c2, mn, mx⟩ from K6.out.below b7 L6.out)
     have L7 := Lib.hid (Nat.lt_of_lt_of_le L6.out b7.size)
     clear hp7 b7 CW y0 y1 y2 y3 y4 y5
     obtain ⟨q0, q1, q2, q3, q4, q5⟩ := nv_bk (show nodeBk w7.drew NB ⟨k, A, nn, c, nt, A2, n2, c2, mn, mx⟩ from K7.out)
     go_upto_region 13 with fail
     go_region_law (first
      | (go_simp; go_at_call 20; refine (PA.out w7.drew C7.out.drew p (prg_drew PG.out)).mono ?_; intro e w8 h8; obtain ⟨A8, c8, rfl, hq8, _, b8⟩ := ends_some h8; (have C8 := Lib.hid (C7.out.trans (((Below.refl w7.heap.size w7).drew.trans b8).mono C7.out.size))); (have Q8 := Lib.hid hq8); (have K8 := Lib.hid (show nodeBk w8 NB ⟨k, A, nn, c, nt, A2, n2, c2, mn, mx⟩ from (b8.block NB L7.out).trans K7.out)); obtain ⟨r0, r1, r2, r3, r4, r5⟩ := nv_bk K8.out; clear h8 hq8 b8)
      | (go_simp; go_at_call 21; refine (PB.out w8 C8.out).mono ?_; intro e w9 h9; obtain ⟨A9, c9, rfl, hq9, _, b9⟩ := ends_some h9; (have C9 := Lib.hid (C8.out.trans (b9.mono C8.out.size))); (have Q9 := Lib.hid hq9); (have Q89 := Lib.hid ((Q8.out.below b9).up b9.size)); clear h9 hq9 b9)
      | (go_simp; go_at_call 19; refine (ints_walk A8 A9 L.length c8 c9 w9.heap.size L w9 Q89.out Q9.out rfl (Nat.le_refl _) LN.out).mono ?_; rintro e w10 ⟨rfl, b10⟩; (have BF := Lib.hid (B6.out.trans ((C9.out.trans (b10.mono C9.out.size)).mono B6.out.size))); clear b10))
     all_goals
      go_wp2_with fail
      go_ret
      exact ⟨rfl, BF.out⟩
    ·have hz1 : ¬ 0 ≤ z := hz0
     obtain ⟨L, hL⟩ : ∃ L : List Nat, [] = L := ⟨_, rfl⟩
     have LN := Lib.hid (show L.length ≤ 1000001 from by rw [← hL]; exact Nat.zero_le _)
     have PA := Lib.hid (show ∀ W, Below w6.heap.size w6 W → ∀ p, Prg W W.heap.size p t → Calls Tryz.prog 20 #[.pointer (some ⟨p, 0, none⟩), .slice A6 n6 c6, .int .i64 z] W fun e w' => EndsPost L W e w' from fun W _ p hp => by
      rw [← hL]
      exact prg_out hp A6 n6 c6 z (.inl (by omega)))
     have PB := Lib.hid (show ∀ W, Below w6.heap.size w6 W → Calls Tryz.prog 21 #[.agg #[.int .i64 k, .slice A nn c, .bool nt, .slice A2 n2 c2, .int .i64 mn, .int .i64 mx], .slice A6 n6 c6, .int .i64 z] W fun e w' => EndsPost L W e w' from fun W _ => by
      rw [← hL]
      exact refEnds_out ⟨k, A, nn, c, nt, A2, n2, c2, mn, mx⟩ A6 n6 c6 z W (.inl (by omega)))
     clear hL
     go_wp2_with fail
     refine CW.out.mono ?_
     rintro e w7 ⟨p, rfl, hp7, b7⟩
     have PG := Lib.hid hp7
     have C7 := Lib.hid b7
     have B7 := Lib.hid (B6.out.trans (b7.mono B6.out.size))
     have K7 := Lib.hid (show nodeBk w7 NB ⟨k, A, nn, c, nt, A2, n2, c2, mn, mx⟩ from K6.out.below b7 L6.out)
     have L7 := Lib.hid (Nat.lt_of_lt_of_le L6.out b7.size)
     clear hp7 b7 CW y0 y1 y2 y3 y4 y5
     obtain ⟨q0, q1, q2, q3, q4, q5⟩ := nv_bk (show nodeBk w7.drew NB ⟨k, A, nn, c, nt, A2, n2, c2, mn, mx⟩ from K7.out)
     go_upto_region 13 with fail
     go_region_law (first
      | (go_simp; go_at_call 20; refine (PA.out w7.drew C7.out.drew p (prg_drew PG.out)).mono ?_; intro e w8 h8; obtain ⟨A8, c8, rfl, hq8, _, b8⟩ := ends_some h8; (have C8 := Lib.hid (C7.out.trans (((Below.refl w7.heap.size w7).drew.trans b8).mono C7.out.size))); (have Q8 := Lib.hid hq8); (have K8 := Lib.hid (show nodeBk w8 NB ⟨k, A, nn, c, nt, A2, n2, c2, mn, mx⟩ from (b8.block NB L7.out).trans K7.out)); obtain ⟨r0, r1, r2, r3, r4, r5⟩ := nv_bk K8.out; clear h8 hq8 b8)
      | (go_simp; go_at_call 21; refine (PB.out w8 C8.out).mono ?_; intro e w9 h9; obtain ⟨A9, c9, rfl, hq9, _, b9⟩ := ends_some h9; (have C9 := Lib.hid (C8.out.trans (b9.mono C8.out.size))); (have Q9 := Lib.hid hq9); (have Q89 := Lib.hid ((Q8.out.below b9).up b9.size)); clear h9 hq9 b9)
      | (go_simp; go_at_call 19; refine (ints_walk A8 A9 L.length c8 c9 w9.heap.size L w9 Q89.out Q9.out rfl (Nat.le_refl _) LN.out).mono ?_; rintro e w10 ⟨rfl, b10⟩; (have BF := Lib.hid (B6.out.trans ((C9.out.trans (b10.mono C9.out.size)).mono B6.out.size))); clear b10))
     all_goals
      go_wp2_with fail
      go_ret
      exact ⟨rfl, BF.out⟩
set_option maxRecDepth 100000 in
theorem contract (H : Type) (enc : TypeId × Value → H) (W : World) (base : Nat) (args : Array Value) (ds gs : List (DataW H)) (before : List MemPlace)
  (hval : ∀ (j : Nat) t v, Tryz.f4.params[j]? = some t → args[j]? = some v → Value.okWide Tryz.prog W .any base t v)
  (hW : DataW.Whole enc Tryz.prog Tryz.f4.params.toList Rows.nfaTextSpec.vars false W args.toList ds gs before) (hL : laidMetH Tryz.prog Rows.nfaTextUptoRow.laid W) (hk : Rows.uptoSmall H (ds ++ gs) = true) :
  Calls Tryz.prog 4 args W fun e W' => ∃ v, e = .returned v ∧ Rows.nfaTextSpec.post enc Tryz.prog Tryz.f4 false true false false W args v W' := by
 have hW' := hW
 obtain ⟨p, q, hA0, hV, rfl, hfz, hnd⟩ := hW
 have hA : DataW.TrodAll enc Tryz.prog W 0 (fun _ => true) true Tryz.f4.params.toList args.toList ds p := hA0
 rw [Tryz.params4] at hA hval
 obtain ⟨v0, vs0, d0, ds0, p0, q0, hargs, rfl, rfl, h0, r0⟩ := trodAll_cons hA
 obtain ⟨v1, vs1, d1, ds1, p1, q1, rfl, rfl, rfl, h1, r1⟩ := trodAll_cons r0
 obtain ⟨v2, vs2, d2, ds2, p2, q2, rfl, rfl, rfl, h2, r2⟩ := trodAll_cons r1
 obtain ⟨rfl, rfl, rfl⟩ := trodAll_nil r2
 obtain rfl : args = #[v0, v1, v2] := by cases args; simp_all
 obtain ⟨rfl, rfl⟩ := trodVars_none hV
 obtain ⟨x, rfl, rfl, rfl, wx⟩ := Go.ChangeMaps.open_string Tryz.underlying9 (hval 0 9 v0 rfl rfl) h0
 obtain ⟨y, rfl, rfl, rfl, wy⟩ := Go.ChangeMaps.open_string Tryz.underlying9 (hval 1 9 v1 rfl rfl) h1
 obtain ⟨z, rfl, rfl, rfl, wz⟩ := open_int Tryz.underlying3 (hval 2 3 v2 rfl rfl) h2
 clear hA0
 simp only [List.append_nil] at hk
 have hB := NF.bulk_le hk
 simp only [Rows.uptoBulkAll, Rows.uptoBulk] at hB
 have zx : x.size ≤ 1048576 := by
  have h : x.data.toList.length = x.size := by rw [Array.length_toList]; rfl
  omega
 have zy : y.size ≤ 1048576 := by
  have h : y.data.toList.length = y.size := by rw [Array.length_toList]; rfl
  omega
 refine (walk x zx y zy z (wf_i64 wz) W (spans_of hL) ).mono fun e W' ⟨he, hg⟩ => ?_
 subst he
 exact ⟨_, rfl, close rfl hW' ⟨rfl, rfl, rfl⟩ (by kernel_rfl) (by kernel_rfl) hg⟩
set_option maxRecDepth 100000 in
theorem laid_met (os : Os) : laidMet Tryz.prog Rows.nfaTextUptoRow.laid ((laidWorld os).forCall (fun _ _ => 0) ⟨#[], #[.string .empty, .string .empty, .int .i64 0], []⟩).memory :=
 laidMet_of_run' 8 (by kernel_rfl) (by kernel_rfl)
set_option maxRecDepth 100000 in
theorem reads (os : Os) {H : Type} (enc : TypeId × Value → H) : ∃ places, DataW.whole enc Tryz.prog ((laidWorld os).forCall (fun _ _ => 0) ⟨#[], #[.string .empty, .string .empty, .int .i64 0], []⟩).memory Tryz.f4.params.toList Rows.nfaTextSpec.vars false (#[.string .empty, .string .empty, .int .i64 0] : Array Value).toList 8 = some ([.lit (.string []), .lit (.string []), .lit (.int .i64 0)], [], places) :=
 ⟨[], by kernel_rfl⟩
set_option maxRecDepth 100000 in
theorem lifted (os : Os) (started : os.Started) (H : Type) (enc : TypeId × Value → H) (F : Stop.Interp) :
  ReturnsInHanded {} Tryz.checked os 4 .any ((Rows.OpenSpec.upto Rows.nfaTextSpec).preRow enc Tryz.prog Tryz.f4 Rows.nfaTextUptoRow.domain false Rows.nfaTextUptoRow.laid) (((Rows.OpenSpec.upto Rows.nfaTextSpec).at F).post enc Tryz.prog Tryz.f4 false true false false) := by
 obtain ⟨places, hx⟩ := reads os enc
 refine returnsInHanded_of_row (C := Tryz.checked) (s := Rows.OpenSpec.upto Rows.nfaTextSpec) ownNone started (by kernel_rfl) Tryz.func4
  (witness_row_at (enc := enc) (C := Tryz.checked) false (laidWorld os) #[.string .empty, .string .empty, .int .i64 0] rfl (by kernel_rfl) (by kernel_rfl) (by kernel_rfl)
   (OpenSpec.preRow_of_cond 8 hx (by kernel_rfl) (fun k hk => by cases hk; kernel_rfl) (by kernel_rfl) (laid_met os))) ?_
 intro W base args ds gs before hval hW _ hcond _ hL _ _
 exact contract H enc W base args ds gs before hval hW hL (hcond _ rfl)
set_option maxRecDepth 100000 in
set_option maxHeartbeats 0 in
theorem facts : joinedFacts Tryz.checked.prog 4 Tryz.f4 (Rows.OpenSpec.upto Rows.nfaTextSpec).bare Rows.nfaTextUptoRow = true := by
 have h1 := Sum.tables.1
 have h2 := Sum.tables.2.1
 have h3 := Sum.tables.2.2
 have h4 := Sum.mayEnter
 have e1 : Rows.nfaTextUptoRow.lifted = Rows.nfaAllRow.lifted := by kernel_rfl
 have e2 : Rows.nfaTextUptoRow.make = Rows.nfaAllRow.make := by kernel_rfl
 have h5 : (Rows.nfaTextUptoRow.lifted == Tryz.checked.prog.liftsFinal) = true := by rw [e1]; exact Sum.lifts
 have h6 : (Tryz.checked.prog.make == some Rows.nfaTextUptoRow.make) = true := by rw [e2]; exact Sum.make
 unfold joinedFacts
 repeat' (with_reducible refine Sum.and_mk ?_ ?_)
 all_goals first
  | with_reducible exact h1
  | with_reducible exact h2
  | with_reducible exact h4
  | with_reducible exact h5
  | with_reducible exact h6
  | (rw [h3]; as_aux_lemma => kernel_rfl)
  | (clear h1 h2 h3 h4 h5 h6 e1 e2; as_aux_lemma => kernel_rfl)
set_option maxRecDepth 100000 in
theorem said : Rows.NfaTextUptoSaid :=
 OpenClaim.holds_of_cond 4 Tryz.f4 rfl rfl rfl rfl rfl rfl rfl ⟨rfl, rfl, rfl, rfl, rfl⟩ rfl rfl rfl rfl rfl (by kernel_rfl) Tryz.func4 facts
  (of_decide_eq_true (by kernel_rfl)) (by unfold Func.isWrapper; first | (rw [if_pos (by decide +kernel)]; kernel_rfl) | (rw [if_neg (by decide +kernel)]; exact ⟨rfl, rfl⟩))
  (fun os started H enc _ F => by rw [OpenClaim.pre_eq_preRow]; exact lifted os started H enc F)
set_option maxRecDepth 100000 in
theorem plain (f : FuncId) (fn : Func) (hf : Tryz.pinned.checked.prog.funcNamed "rotulus/rotuluslaw14.NfaText" = some f) (hfn : Tryz.pinned.checked.prog.funcs[f]? = some fn) :
  false = Tryz.pinned.checked.prog.looks [] ∧ ∀ (j : Nat) t, fn.params[j]? = some t → Tryz.pinned.checked.prog.wantsStandIn t = false := by
 obtain rfl : f = 4 := Option.some.inj ((show Tryz.prog.funcNamed "rotulus/rotuluslaw14.NfaText" = some 4 by kernel_rfl).symm.trans hf) |>.symm
 obtain rfl : fn = Tryz.f4 := (Option.some.inj (Tryz.func4.symm.trans hfn)).symm
 refine ⟨by kernel_rfl, fun j t ht => ?_⟩
 rw [Tryz.params4] at ht
 have hm := Array.mem_of_getElem? ht
 simp at hm
 rcases hm with rfl | rfl
 ·exact (show Tryz.prog.wantsStandIn 9 = false by kernel_rfl)
 ·exact (show Tryz.prog.wantsStandIn 3 = false by kernel_rfl)
set_option maxRecDepth 100000 in
theorem card : Rows.NfaTextUptoCardSaid :=
 Claim7.holds_tied_plain_at .later [] _ _ _ _ said (fun _ h => by cases h) (by kernel_rfl) (fun _ h => by cases h) nfaTextUpto_row_tie rfl ⟨rfl, rfl⟩ (by kernel_rfl) rfl plain (by kernel_rfl)
end Go.Proofs.YtbmldpodcipncaaGreatDoor.nfaText
