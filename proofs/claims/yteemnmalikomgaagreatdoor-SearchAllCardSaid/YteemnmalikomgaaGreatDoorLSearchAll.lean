/-
  The statement SearchAll: of any pattern in any lines, from any place: the nearest hit behind it and the nearest one ahead of it, round the ends of the lines, are those that the reference finds among all hits. For every text (of which the statement takes the first thirty bytes), every lines (of which it takes the first ten, and of each the first forty cells) and every place; it holds where the table of widths is as its initialiser lays it, which the card ties to the program's text.
-/
import Derived.Test.YteemnmalikomgaaGreatDoorQSaEvZ0
import Derived.Test.YteemnmalikomgaaGreatDoorQSaLine1
import Derived.Test.YteemnmalikomgaaGreatDoorQSaBase19
set_option maxRecDepth 100000
set_option maxHeartbeats 0
namespace Go.Proofs.YteemnmalikomgaaGreatDoor.searchAll
open Go.ChangeShapes Go.WideShapes Go.ChangeAt Go.RowKit
open NF
theorem hitS_any (f : Nat → Nat → Int) (o : Option (Nat × Nat)) : ∃ (a b c : Int) (k : Bool), hitS f o = .tuple #[.agg #[.int .i64 a, .int .i64 b, .int .i64 c], .bool k] := by
 cases o with
 | none => exact ⟨0, 0, 0, false, rfl⟩
 | some x => exact ⟨_, _, _, true, rfl⟩
theorem eql_hit (a b c : Int) (w : World) : (binOp .eql 61 (.agg #[.int .i64 a, .int .i64 b, .int .i64 c]) (.agg #[.int .i64 a, .int .i64 b, .int .i64 c])).run Tryz.prog w = .ok (.bool true) w := by
 have hw := w
 go_simp
theorem walk (re : ByteArray) (_ : re.size ≤ 9223372036854775807) (A1 : Option Addr) (n1 c1 : Nat) (ls : List LineIn) (_ : n1 ≤ c1) (hm1 : c1 ≤ maxLen) (x y z : Int) (w : World) (hs : Spans w) (hr1 : ∀ l ∈ ls, l.Ok w w.heap.size) (hq1 : Sq w w.heap.size 1 n1 A1 (ls.flatMap LineIn.vals)) :
  Calls Tryz.prog 8 #[.string re, .slice A1 n1 c1, .agg #[.int .i64 x, .int .i64 y, .int .i64 z]] w fun e w' => e = .returned (.bool true) ∧ Below w.heap.size w w' := by
 obtain ⟨w0, hw0, k0, b0, z0⟩ := three_new w 58 x y z
 obtain ⟨g5, hg5⟩ : ∃ g, w.heap.size = g := ⟨_, rfl⟩
 rw [hg5] at k0
 have K0 := Lib.hid k0
 have B0 := Lib.hid b0
 have HW0 := Lib.hid hw0
 have HG5 := Lib.hid hg5
 have S := Lib.hid (hs.below b0 hs.size)
 have PW := Lib.hid (fun wx => prog_walk re wx)
 have LW := Lib.hid (show ∀ W, Below w.heap.size w W → Calls Tryz.prog 31 #[.slice A1 n1 c1] W fun e w' => ∃ v vs, e = .returned v ∧ Lm.Lns w' W.heap.size v vs (Lm.drawnLs ls) ∧ Below W.heap.size W w' from fun W b => Lm.lines10_walk A1 n1 c1 ls W (fun l hl => ((hr1 l hl).below b).up b.size) ((hq1.below b).up b.size) (by omega))
 have LS := Lib.hid (show ∀ l ∈ Lm.drawnLs ls, l.length ≤ 40 from fun l hl => (Lm.cutLs_each hl).2)
 have LN := Lib.hid (Lm.drawnLs_len ls)
 obtain ⟨ds, hds⟩ : ∃ ds, Lm.drawnLs ls = ds := ⟨_, rfl⟩
 rw [hds] at LW LS LN
 clear hs k0 b0 z0 hw0 hg5 hr1 hq1 hds hm1
 go_enter Tryz.func8, Tryz.ntmps8
 go_upto_region 1 with fail
 rw [HG5.out]
 first
  | rw [HW0.out]
  | (change Code.wp _ _ _ _ (w.alloc (.cells #[.int .i64 x, .int .i64 y, .int .i64 z] 58)); rw [HW0.out])
 go_wp2_with fail
 refine (Ev.Trues.at Ev.begun16 w0 S.out).mono ?_
 rintro e w1 ⟨rfl, b1⟩
 have B1 := Lib.hid (B0.out.trans (b1.mono B0.out.size))
 have K1 := Lib.hid (K0.out.below b1 K0.out.lt)
 clear b1 S K0 HW0
 go_wp2_with fail
 refine (PW.out w1).mono ?_
 rintro e w2 ⟨⟨k, A, nn, c, nt, A2, n2, c2, mn, mx⟩, P, ok, rfl, b2, hok, _⟩
 have B2 := Lib.hid (B1.out.trans (b2.mono B1.out.size))
 clear PW
 cases ok with
 | false =>
  clear hok b2
  try dsimp only [Nv.v]
  go_wp2_with fail
  go_ret
  exact ⟨rfl, B2.out.alloc B2.out.size _⟩
 | true =>
  obtain ⟨t, p, rfl, hx, hp, _⟩ := hok rfl
  obtain ⟨w3, hw3, k3, b3, z3⟩ := new_node w2 k A nn c nt A2 n2 c2 mn mx
  obtain ⟨NB, hNB⟩ : ∃ b, w2.heap.size = b := ⟨_, rfl⟩
  have KN3 := Lib.hid (hNB ▸ k3 : nodeBk w3 NB ⟨k, A, nn, c, nt, A2, n2, c2, mn, mx⟩)
  have X3 := Lib.hid (ndIn_up (Nat.le_refl _) b3.size (hx.below b3))
  have G3 := Lib.hid ((hp.below b3).up b3.size)
  have B3 := Lib.hid (B2.out.trans (b3.mono B2.out.size))
  have K3 := Lib.hid ((K1.out.below b2 K1.out.lt).below b3 (K1.out.below b2 K1.out.lt).lt)
  have HW3 := Lib.hid hw3
  have HNB := Lib.hid hNB
  clear hok b2 hx hp k3 b3 z3 hw3 hNB K1
  try dsimp only [Nv.v]
  go_upto_region 5 with fail
  rw [HNB.out]
  first
   | rw [HW3.out]
   | (change Code.wp _ _ _ _ (w2.alloc (.cells #[.int .i64 k, .slice A nn c, .bool nt, .slice A2 n2 c2, .int .i64 mn, .int .i64 mx] 29)); rw [HW3.out])
  go_wp2_with fail
  refine (LW.out w3 B3.out).mono ?_
  rintro e w4 ⟨v4, vs4, rfl, hl4, b4⟩
  obtain ⟨A6, c6, rfl, hlat⟩ := hl4.lat (fun l hl => by have := LS.out l hl; omega)
  obtain ⟨n6, hn6⟩ : ∃ n, ds.length = n := ⟨_, rfl⟩
  have hn10 : n6 ≤ 10 := by have := LN.out; omega
  have B4 := Lib.hid (B3.out.trans (b4.mono B3.out.size))
  have LT := Lib.hid hlat
  have KN4 := Lib.hid (KN3.out.below b4 KN3.out.lt)
  have X4 := Lib.hid (ndIn_up (Nat.le_refl _) b4.size (X3.out.below b4))
  have G4 := Lib.hid ((G3.out.below b4).up b4.size)
  have K4 := Lib.hid (K3.out.below b4 K3.out.lt)
  have HN6 := Lib.hid hn6
  rw [hn6]
  obtain ⟨ua, ub, uc, uk, hu⟩ := hitS_any (fOf t ds) (fwdS t ds x y)
  obtain ⟨va, vb, vc, vk, hv⟩ := hitS_any (fOf t ds) (bwdS t ds x y)
  have N1 := Lib.hid (show ∀ W, Below w4.heap.size w4 W → Calls Tryz.prog 32 #[.slice A6 n6 c6, .pointer (some ⟨p, 0, none⟩), .agg #[.int .i64 x, .int .i64 y, .int .i64 z]] W fun e w' => e = .returned (.tuple #[.agg #[.int .i64 ua, .int .i64 ub, .int .i64 uc], .bool uk]) ∧ Below W.heap.size W w' from fun W b => by
   rw [← hu]
   exact srForward_walk t p A6 n6 c6 ds x y z W ((G4.out.below b).up b.size) HN6.out (by omega) ((LT.out.below b).up b.size))
  have N2 := Lib.hid (show ∀ W, Below w4.heap.size w4 W → Calls Tryz.prog 33 #[.slice A6 n6 c6, .agg #[.int .i64 k, .slice A nn c, .bool nt, .slice A2 n2 c2, .int .i64 mn, .int .i64 mx], .agg #[.int .i64 x, .int .i64 y, .int .i64 z], .bool false] W fun e w' => e = .returned (.tuple #[.agg #[.int .i64 ua, .int .i64 ub, .int .i64 uc], .bool uk]) ∧ Below W.heap.size W w' from fun W b => by
   rw [← hu, ← refS_fwd, HN6.out]
   exact refSearch_walk t ⟨k, A, nn, c, nt, A2, n2, c2, mn, mx⟩ _ A6 n6 c6 ds x y z false W G4.out.1 (ndIn_up (Nat.le_refl _) b.size (X4.out.below b)) HN6.out (by omega) (fun l hl => by have := LS.out l hl; omega) ((LT.out.below b).up b.size))
  have N3 := Lib.hid (show ∀ W, Below w4.heap.size w4 W → Calls Tryz.prog 34 #[.slice A6 n6 c6, .pointer (some ⟨p, 0, none⟩), .agg #[.int .i64 x, .int .i64 y, .int .i64 z]] W fun e w' => e = .returned (.tuple #[.agg #[.int .i64 va, .int .i64 vb, .int .i64 vc], .bool vk]) ∧ Below W.heap.size W w' from fun W b => by
   rw [← hv]
   exact srBackward_walk t p A6 n6 c6 ds x y z W ((G4.out.below b).up b.size) HN6.out (by omega) ((LT.out.below b).up b.size))
  have N4 := Lib.hid (show ∀ W, Below w4.heap.size w4 W → Calls Tryz.prog 33 #[.slice A6 n6 c6, .agg #[.int .i64 k, .slice A nn c, .bool nt, .slice A2 n2 c2, .int .i64 mn, .int .i64 mx], .agg #[.int .i64 x, .int .i64 y, .int .i64 z], .bool true] W fun e w' => e = .returned (.tuple #[.agg #[.int .i64 va, .int .i64 vb, .int .i64 vc], .bool vk]) ∧ Below W.heap.size W w' from fun W b => by
   rw [← hv, ← refS_bwd, HN6.out]
   exact refSearch_walk t ⟨k, A, nn, c, nt, A2, n2, c2, mn, mx⟩ _ A6 n6 c6 ds x y z true W G4.out.1 (ndIn_up (Nat.le_refl _) b.size (X4.out.below b)) HN6.out (by omega) (fun l hl => by have := LS.out l hl; omega) ((LT.out.below b).up b.size))
  have EH1 := fun w => eql_hit ua ub uc w
  have EH2 := fun w => eql_hit va vb vc w
  clear hu hv hl4 hlat b4 hn6 X3 G3 K3 KN3 LW X4 G4 LT
  obtain ⟨q0, q1, q2⟩ := threeBk.get K4.out
  go_wp2_with fail
  refine (N1.out w4 (Below.refl _ _)).mono ?_
  rintro e w5 ⟨rfl, b5⟩
  obtain ⟨w6, hw6, k6, b6, z6⟩ := three_new w5 61 ua ub uc
  obtain ⟨g11, hg11⟩ : ∃ g, w5.heap.size = g := ⟨_, rfl⟩
  rw [hg11] at k6
  have C6 := Lib.hid (b5.trans (b6.mono b5.size))
  have H6 := Lib.hid k6
  have HW6 := Lib.hid hw6
  have HG11 := Lib.hid hg11
  clear b5 k6 b6 z6 hw6 hg11 N1 q0 q1 q2
  obtain ⟨q0, q1, q2⟩ := threeBk.get (K4.out.below C6.out K4.out.lt)
  obtain ⟨y0, y1, y2, y3, y4, y5⟩ := nv_bk (show nodeBk w6 NB ⟨k, A, nn, c, nt, A2, n2, c2, mn, mx⟩ from KN4.out.below C6.out KN4.out.lt)
  go_upto_region 9 with fail
  rw [HG11.out]
  first
   | rw [HW6.out]
   | (change Code.wp _ _ _ _ (w5.alloc (.cells #[.int .i64 ua, .int .i64 ub, .int .i64 uc] 61)); rw [HW6.out])
  go_wp2_with fail
  refine (N2.out w6 C6.out).mono ?_
  rintro e w7 ⟨rfl, b7⟩
  obtain ⟨w8, hw8, k8, b8, z8⟩ := three_new w7 61 ua ub uc
  obtain ⟨g13, hg13⟩ : ∃ g, w7.heap.size = g := ⟨_, rfl⟩
  rw [hg13] at k8
  have b68 := b7.trans (b8.mono b7.size)
  have C8 := Lib.hid (C6.out.trans (b68.mono C6.out.size))
  have H8a := Lib.hid (H6.out.below b68 H6.out.lt)
  have H8b := Lib.hid k8
  have HW8 := Lib.hid hw8
  have HG13 := Lib.hid hg13
  clear b7 k8 b8 z8 hw8 hg13 b68 N2 q0 q1 q2 y0 y1 y2 y3 y4 y5 H6
  obtain ⟨q0, q1, q2⟩ := threeBk.get (K4.out.below C8.out K4.out.lt)
  go_upto_region 10 with fail
  rw [HG13.out]
  first
   | rw [HW8.out]
   | (change Code.wp _ _ _ _ (w7.alloc (.cells #[.int .i64 ua, .int .i64 ub, .int .i64 uc] 61)); rw [HW8.out])
  go_wp2_with fail
  refine (N3.out w8 C8.out).mono ?_
  rintro e w9 ⟨rfl, b9⟩
  obtain ⟨w10, hw10, k10, b10, z10⟩ := three_new w9 61 va vb vc
  obtain ⟨g15, hg15⟩ : ∃ g, w9.heap.size = g := ⟨_, rfl⟩
  rw [hg15] at k10
  have b810 := b9.trans (b10.mono b9.size)
  have C10 := Lib.hid (C8.out.trans (b810.mono C8.out.size))
  have H10a := Lib.hid (H8a.out.below b810 H8a.out.lt)
  have H10b := Lib.hid (H8b.out.below b810 H8b.out.lt)
  have H10c := Lib.hid k10
  have HW10 := Lib.hid hw10
  have HG15 := Lib.hid hg15
  clear b9 k10 b10 z10 hw10 hg15 b810 N3 q0 q1 q2 H8a H8b
  obtain ⟨q0, q1, q2⟩ := threeBk.get (K4.out.below C10.out K4.out.lt)
  obtain ⟨y0, y1, y2, y3, y4, y5⟩ := nv_bk (show nodeBk w10 NB ⟨k, A, nn, c, nt, A2, n2, c2, mn, mx⟩ from KN4.out.below C10.out KN4.out.lt)
  go_upto_region 11 with fail
  rw [HG15.out]
  first
   | rw [HW10.out]
   | (change Code.wp _ _ _ _ (w9.alloc (.cells #[.int .i64 va, .int .i64 vb, .int .i64 vc] 61)); rw [HW10.out])
  go_wp2_with fail
  refine (N4.out w10 C10.out).mono ?_
  rintro e w11 ⟨rfl, b11⟩
  obtain ⟨w12, hw12, k12, b12, z12⟩ := three_new w11 61 va vb vc
  obtain ⟨g17, hg17⟩ : ∃ g, w11.heap.size = g := ⟨_, rfl⟩
  rw [hg17] at k12
  have b1012 := b11.trans (b12.mono b11.size)
  have C12 := Lib.hid (C10.out.trans (b1012.mono C10.out.size))
  obtain ⟨s0, s1, s2⟩ := threeBk.get (H10a.out.below b1012 H10a.out.lt)
  obtain ⟨s3, s4, s5⟩ := threeBk.get (H10b.out.below b1012 H10b.out.lt)
  obtain ⟨s6, s7, s8⟩ := threeBk.get (H10c.out.below b1012 H10c.out.lt)
  obtain ⟨s9, s10, s11⟩ := threeBk.get k12
  have BF := Lib.hid (B4.out.trans (C12.out.mono B4.out.size))
  have HW12 := Lib.hid hw12
  have HG17 := Lib.hid hg17
  clear b11 k12 b12 z12 hw12 hg17 b1012 N4 q0 q1 q2 y0 y1 y2 y3 y4 y5 H10a H10b H10c
  go_upto_region 12 with fail
  rw [HG17.out]
  first
   | rw [HW12.out]
   | (change Code.wp _ _ _ _ (w11.alloc (.cells #[.int .i64 va, .int .i64 vb, .int .i64 vc] 61)); rw [HW12.out])
  go_wp2_with fail
  go_ret
  exact ⟨rfl, BF.out⟩
theorem contract (H : Type) (enc : TypeId × Value → H) (W : World) (base : Nat) (args : Array Value) (ds gs : List (DataW H)) (before : List MemPlace)
  (hval : ∀ (j : Nat) t v, Tryz.f8.params[j]? = some t → args[j]? = some v → Value.okWide Tryz.prog W .any base t v)
  (hW : DataW.Whole enc Tryz.prog Tryz.f8.params.toList Rows.searchAllSpec.vars false W args.toList ds gs before) (hL : laidMetH Tryz.prog Rows.searchAllRow.laid W) :
  Calls Tryz.prog 8 args W fun e W' => ∃ v, e = .returned v ∧ Rows.searchAllSpec.post enc Tryz.prog Tryz.f8 false true false false W args v W' := by
 have hW' := hW
 obtain ⟨p, q, hA0, hV, rfl, hfz, hnd⟩ := hW
 have hA : DataW.TrodAll enc Tryz.prog W 0 (fun _ => true) true Tryz.f8.params.toList args.toList ds p := hA0
 rw [Tryz.params8] at hA hval
 obtain ⟨v0, vs0, d0, ds0, p0, q0, hargs, rfl, rfl, h0, r0⟩ := trodAll_cons hA
 obtain ⟨v1, vs1, d1, ds1, p1, q1, rfl, rfl, rfl, h1, r1⟩ := trodAll_cons r0
 obtain ⟨v2, vs2, d2, ds2, p2, q2, rfl, rfl, rfl, h2, r2⟩ := trodAll_cons r1
 obtain ⟨rfl, rfl, rfl⟩ := trodAll_nil r2
 obtain rfl : args = #[v0, v1, v2] := by cases args; simp_all
 obtain ⟨rfl, rfl⟩ := trodVars_none hV
 obtain ⟨x, rfl, rfl, rfl, wx⟩ := Go.ChangeMaps.open_string Tryz.underlying9 (hval 0 9 v0 rfl rfl) h0
 obtain ⟨Ay, ny, cy, y, rfl, hcy, hmy, hry, hqy⟩ := open_lines (hval 1 56 v1 rfl rfl) h1
 obtain ⟨z, rfl⟩ := open_onespot (hval 2 58 v2 rfl rfl) h2
 clear hA0
 refine (walk x wx Ay ny cy y hcy hmy z.1 z.2.1 z.2.2 W (spans_of hL) hry hqy).mono fun e W' ⟨he, hg⟩ => ?_
 subst he
 exact ⟨_, rfl, close rfl hW' ⟨rfl, rfl, rfl⟩ (by kernel_rfl) (by kernel_rfl) hg⟩
theorem laid_met (os : Os) : laidMet Tryz.prog Rows.searchAllRow.laid ((laidWorld os).forCall (fun _ _ => 0) ⟨#[], #[.string .empty, .slice none 0 0, .agg #[.int .i64 0, .int .i64 0, .int .i64 0]], []⟩).memory :=
 laidMet_of_run' 8 (by kernel_rfl) (by kernel_rfl)
theorem reads (os : Os) {H : Type} (enc : TypeId × Value → H) : ∃ places, DataW.whole enc Tryz.prog ((laidWorld os).forCall (fun _ _ => 0) ⟨#[], #[.string .empty, .slice none 0 0, .agg #[.int .i64 0, .int .i64 0, .int .i64 0]], []⟩).memory Tryz.f8.params.toList Rows.searchAllSpec.vars false (#[.string .empty, .slice none 0 0, .agg #[.int .i64 0, .int .i64 0, .int .i64 0]] : Array Value).toList 8 = some ([.lit (.string []), .nil, .agg [.lit (.int .i64 0), .lit (.int .i64 0), .lit (.int .i64 0)]], [], places) :=
 ⟨[], by kernel_rfl⟩
theorem lifted (os : Os) (started : os.Started) (H : Type) (enc : TypeId × Value → H) (F : Stop.Interp) :
  ReturnsInHanded {} Tryz.checked os 8 .any ((OpenSpec.ofChange Rows.searchAllSpec).preRow enc Tryz.prog Tryz.f8 Rows.searchAllRow.domain false Rows.searchAllRow.laid) (((OpenSpec.ofChange Rows.searchAllSpec).at F).post enc Tryz.prog Tryz.f8 false true false false) := by
 obtain ⟨places, hx⟩ := reads os enc
 refine returnsInHanded_of_row (C := Tryz.checked) (s := OpenSpec.ofChange Rows.searchAllSpec) ownNone started (by kernel_rfl) Tryz.func8
  (witness_row_at (enc := enc) (C := Tryz.checked) false (laidWorld os) #[.string .empty, .slice none 0 0, .agg #[.int .i64 0, .int .i64 0, .int .i64 0]] rfl (by kernel_rfl) (by kernel_rfl) (by kernel_rfl)
   (OpenSpec.preRow_of_cond 8 hx (by kernel_rfl) (fun k hk => by cases hk) (by kernel_rfl) (laid_met os))) ?_
 intro W base args ds gs before hval hW _ _ _ hL _ _
 exact contract H enc W base args ds gs before hval hW hL
theorem facts : joinedFacts Tryz.checked.prog 8 Tryz.f8 (OpenSpec.ofChange Rows.searchAllSpec).bare Rows.searchAllRow = true := by
 have h1 := Sum.tables.1
 have h2 := Sum.tables.2.1
 have h3 := Sum.tables.2.2
 have h4 := Sum.mayEnter
 have e1 : Rows.searchAllRow.lifted = Rows.findAllRow.lifted := by kernel_rfl
 have e2 : Rows.searchAllRow.make = Rows.findAllRow.make := by kernel_rfl
 have h5 : (Rows.searchAllRow.lifted == Tryz.checked.prog.liftsFinal) = true := by rw [e1]; exact Sum.lifts
 have h6 : (Tryz.checked.prog.make == some Rows.searchAllRow.make) = true := by rw [e2]; exact Sum.make
 unfold joinedFacts
 repeat' (with_reducible refine Sum.and_mk ?_ ?_)
 all_goals first
  | with_reducible exact h1
  | with_reducible exact h2
  | with_reducible exact h4
  | with_reducible exact h5
  | with_reducible exact h6
  | (rw [h3]; as_aux_lemma => kernel_rfl)
  | (clear h1 h2 h3 h4 h5 h6 e1 e2; as_aux_lemma => kernel_rfl)
theorem said : Rows.SearchAllSaid :=
 OpenClaim.holds_of_cond 8 Tryz.f8 rfl rfl rfl rfl rfl rfl rfl ⟨rfl, rfl, rfl, rfl, rfl⟩ rfl rfl rfl rfl rfl (by kernel_rfl) Tryz.func8 facts
  (of_decide_eq_true (by kernel_rfl)) (by unfold Func.isWrapper; first | (rw [if_pos (by decide +kernel)]; kernel_rfl) | (rw [if_neg (by decide +kernel)]; exact ⟨rfl, rfl⟩))
  (fun os started H enc _ F => by rw [OpenClaim.pre_eq_preRow]; exact lifted os started H enc F)
theorem plain (f : FuncId) (fn : Func) (hf : Tryz.pinned.checked.prog.funcNamed "rotulus/rotuluslaw16.SearchAll" = some f) (hfn : Tryz.pinned.checked.prog.funcs[f]? = some fn) :
  false = Tryz.pinned.checked.prog.looks [] ∧ ∀ (j : Nat) t, fn.params[j]? = some t → Tryz.pinned.checked.prog.wantsStandIn t = false := by
 obtain rfl : f = 8 := Option.some.inj ((show Tryz.prog.funcNamed "rotulus/rotuluslaw16.SearchAll" = some 8 by kernel_rfl).symm.trans hf) |>.symm
 obtain rfl : fn = Tryz.f8 := (Option.some.inj (Tryz.func8.symm.trans hfn)).symm
 refine ⟨by kernel_rfl, fun j t ht => ?_⟩
 rw [Tryz.params8] at ht
 have hm := Array.mem_of_getElem? ht
 simp at hm
 rcases hm with rfl | rfl | rfl
 ·exact (show Tryz.prog.wantsStandIn 9 = false by kernel_rfl)
 ·exact (show Tryz.prog.wantsStandIn 56 = false by kernel_rfl)
 ·exact (show Tryz.prog.wantsStandIn 58 = false by kernel_rfl)
theorem card : Rows.SearchAllCardSaid :=
 Claim7.holds_tied_plain_at .later [] _ _ _ _ said (fun _ h => by cases h) (by kernel_rfl) (fun _ h => by cases h) searchAll_row_tie rfl ⟨rfl, rfl⟩ (by kernel_rfl) rfl plain (by kernel_rfl)
end Go.Proofs.YteemnmalikomgaaGreatDoor.searchAll
