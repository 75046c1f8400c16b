/-
  The statement PackHalves: a cell put among a row's: halves of wide signs that are alone, or of another attribute, may not be. For every list of cells (of which the statement looks at the first 310), every place and every cell; it holds where the table of widths is as its initialiser lays it, which the card ties to the program's text.
-/
import Derived.Test.YtikdlikdknfcfaaDoorBegun
import Derived.Test.YtikdlikdknfcfaaDoorBegun4
import Derived.Test.YtikdlikdknfcfaaDoorRowArgs
import Derived.Test.YtikdlikdknfcfaaDoorStr
import Derived.Test.YtikdlikdknfcfaaDoorPut
import Derived.Test.YtikdlikdknfcfaaDoorRefRow
import Derived.RegionTactic
import Derived.ChangeAlike
namespace Go.Proofs.YtikdlikdknfcfaaDoor.packHalves
open Go.ChangeShapes Go.WideShapes Go.ChangeAt Go.RowKit

theorem flat_set : ∀ (l : List Cel) (k : Nat) (r m a : Int), (((flat l).set (k * 3) (.int .i32 r)).set (k * 3 + 1) (.int .i64 m)).set (k * 3 + 2) (.int .i64 a) = flat (l.set k (r, m, a))
  | [], k, r, m, a => by simp [flat]
  | c :: l, 0, r, m, a => by simp [flat]
  | c :: l, k + 1, r, m, a => by
    have h := flat_set l k r m a
    have e : flat (c :: l) = .int .i32 c.1 :: .int .i64 c.2.1 :: .int .i64 c.2.2 :: flat l := by simp [flat]
    have e' : flat (c :: l.set k (r, m, a)) = .int .i32 c.1 :: .int .i64 c.2.1 :: .int .i64 c.2.2 :: flat (l.set k (r, m, a)) := by simp [flat]
    rw [List.set_cons_succ, e, e', ← h, show (k + 1) * 3 = k * 3 + 1 + 1 + 1 by omega]
    rfl
/-- A cell of a row of its own is written anew. -/
theorem hasC_set {w : World} {base n c k : Nat} {A : Option Addr} {l : List Cel} (h : HasC w base (.slice A n c) l) (hk : k < n) :
    ∃ g, A = some ⟨g, 0, none⟩ ∧ base ≤ g ∧ g < w.heap.size ∧ (∀ j, w.frozen? ⟨g, j, none⟩ = false) ∧ (∀ j, j < 3 → ∃ u, w.cell? ⟨g, k * 3 + j, none⟩ = some u) ∧ ∀ r m a, HasC (((w.setCell ⟨g, k * 3, none⟩ (.int .i32 r)).setCell ⟨g, k * 3 + 1, none⟩ (.int .i64 m)).setCell ⟨g, k * 3 + 2, none⟩ (.int .i64 a)) base (.slice A n c) (l.set k (r, m, a)) := by
  have hn : l.length = n := by
    obtain ⟨A', c', e, _⟩ := HasC.shape h
    injection e with _ e _
    exact e.symm
  unfold HasC at h ⊢
  rw [hn] at h
  obtain ⟨g, c', ev, _, hB, _, _⟩ := own_at h (by omega)
  have hlt := World.ownsRow.lt h g (by rw [ev]; rfl)
  injection ev with e1 e2 e3
  subst e1 e3
  refine ⟨g, rfl, hB, hlt.2, fun j => h.frozenAt j, fun j hj => ⟨_, (h.cellAt (k * 3 + j) (by omega)).trans (List.getElem?_eq_getElem (by rw [flat_length]; omega))⟩, fun r m a => ?_⟩
  have h3 := (((h.stored (k * 3) (.int .i32 r)).1.stored (k * 3 + 1) (.int .i64 m)).1.stored (k * 3 + 2) (.int .i64 a)).1
  rw [flat_set] at h3
  rw [List.length_set, hn]
  exact h3

set_option maxRecDepth 100000 in
set_option maxHeartbeats 6400000 in
theorem walk (A : Option Addr) (n c : Nat) (l : List Cel) (hc : n ≤ c) (hm : c ≤ maxLen) (hl : ∀ c ∈ l, -2147483648 ≤ c.1 ∧ c.1 ≤ 2147483647) (y : Int) (hy : -9223372036854775808 ≤ y ∧ y ≤ 9223372036854775807) (z : Cel) (hz : -2147483648 ≤ z.1 ∧ z.1 ≤ 2147483647) (w : World) (hs : Spans w) (hq : Sq w w.heap.size 3 n A (flat l)) :
    Calls Tryd.prog 13 #[.slice A n c, .int .i64 y, .agg #[.int .i32 z.1, .int .i64 z.2.1, .int .i64 z.2.2]] w fun e w' => e = .returned (.bool true) ∧ Below w.heap.size w w' := by
  have S := Lib.hid hs
  have Q := Lib.hid hq
  have HL := Lib.hid hl
  clear hs hq hl
  obtain ⟨zr, zm, za⟩ := z
  simp only at hz
  go_enter Tryd.func13, Tryd.ntmps13
  have B0 := Lib.hid ((Below.refl w.heap.size w).alloc (Nat.le_refl _) (.cells #[.int .i32 zr, .int .i64 zm, .int .i64 za] 45))
  have Z0 := Lib.hid (show CellAt (w.alloc (.cells #[.int .i32 zr, .int .i64 zm, .int .i64 za] 45)) w.heap.size (zr, zm, za) from heap_alloc_new w _)
  go_wp2_with fail
  generalize w.alloc (.cells #[.int .i32 zr, .int .i64 zm, .int .i64 za] 45) = w0 at B0 Z0 ⊢
  refine (begun4_walk w0 (S.out.below B0.out S.out.size)).mono ?_
  rintro e w1 ⟨rfl, b1⟩
  have B1 := Lib.hid (B0.out.trans (b1.mono B0.out.size))
  have Z1 := Lib.hid (Z0.out.below b1 Z0.out.lt)
  clear b1
  go_wp2_with fail
  have hB1 := B1.out.size
  refine (lawRow_walk A n c false l w1 ((Q.out.below B1.out).up hB1) hc hm).mono ?_
  rintro e w2 ⟨v, rfl, hv, b2⟩
  obtain ⟨L, hL⟩ : ∃ L, cut310 l = L := ⟨_, rfl⟩
  have SL : Hid (∀ c ∈ L, -2147483648 ≤ c.1 ∧ c.1 ≤ 2147483647) := Lib.hid (fun c h => HL.out c (List.mem_of_mem_take (by rw [← hL] at h; exact h)))
  have L310 : L.length ≤ 310 := by rw [← hL]; exact cut310_len l
  rw [hL] at hv
  clear hL
  obtain ⟨A', c', rfl, hc'⟩ := HasC.shape hv
  obtain ⟨k, hk⟩ : ∃ k, L.length = k := ⟨_, rfl⟩
  rw [hk] at hc' hv L310 ⊢
  have B2 := Lib.hid (B1.out.trans (b2.mono hB1))
  have Z2 := Lib.hid (Z1.out.below b2 Z1.out.lt)
  have zl2 := Z1.out.lt
  have hw2 := b2.size
  have V2 := Lib.hid (HasC.mono hv hB1)
  have NB := Lib.hid (show ∀ j, (Value.slice A' k c').ownBlock = some j → w1.heap.size ≤ j ∧ j < w2.heap.size from HasC.lt hv)
  have LK := Lib.hid hk
  clear b2 hv hk
  by_cases h0 : k = 0
  · have hkb : ((k : Int) == 0) = true := by simp [h0]
    clear h0
    go_wp2_with fail
    refine (packMay_walk none 0 0 false [] _ (S.out.below (B2.out.alloc B2.out.size _) S.out.size) (fun c h => by cases h) (Sq.nothing _ _ _ _) (by omega)).mono ?_
    rintro e w4 ⟨rfl, b4⟩
    have B4 := Lib.hid (Below.trans (B2.out.alloc B2.out.size _) (b4.mono (B2.out.alloc B2.out.size _).size))
    clear b4
    go_wp2
    go_ret
    exact ⟨rfl, B4.out⟩
  have hkb : ((k : Int) == 0) = false := by simp [h0]
  by_cases hy0 : y < 0
  · have hyb : decide (y < 0) = true := by simp [hy0]
    clear h0
    go_wp2_with fail
    refine (packMay_walk none 0 0 false [] _ (S.out.below (B2.out.alloc B2.out.size _) S.out.size) (fun c h => by cases h) (Sq.nothing _ _ _ _) (by omega)).mono ?_
    rintro e w4 ⟨rfl, b4⟩
    have B4 := Lib.hid (Below.trans (B2.out.alloc B2.out.size _) (b4.mono (B2.out.alloc B2.out.size _).size))
    clear b4
    go_wp2
    go_ret
    exact ⟨rfl, B4.out⟩
  · obtain ⟨yn, rfl⟩ := Int.eq_ofNat_of_zero_le (show 0 ≤ y by omega)
    have hkp : 0 < k := by omega
    have hyb : decide ((yn : Int) < 0) = false := by simp
    obtain ⟨q, hq⟩ : ∃ q, yn % k = q := ⟨_, rfl⟩
    have hqk : q < k := by rw [← hq]; exact Nat.mod_lt _ hkp
    have hq1 : (yn : Int) % (k : Int) = (q : Int) := by rw [← hq]; rfl
    have hq2 : (yn : Int).tmod (k : Int) = (q : Int) := by rw [Int.tmod_eq_emod_of_nonneg (by omega), hq1]
    have V3 := Lib.hid (HasC.keep (w' := w2.alloc (.cells #[.slice A' k c', .bool false] 31)) V2.out (fun j e => Below.heap_alloc _ _ _ (NB.out j e).2))
    have R3 := Lib.hid (show RowAt (w2.alloc (.cells #[.slice A' k c', .bool false] 31)) w2.heap.size (.slice A' k c') false from heap_alloc_new w2 _)
    have Z3 := Lib.hid (Z2.out.below ((Below.refl w2.heap.size w2).alloc (Nat.le_refl _) (.cells #[.slice A' k c', .bool false] 31)) (by omega))
    have B3 := Lib.hid (B2.out.alloc B2.out.size (.cells #[.slice A' k c', .bool false] 31))
    obtain ⟨g, rfl, hg0, hg1, hgf, hgu, hset⟩ := hasC_set V3.out hqk
    obtain ⟨u0, hu0⟩ := hgu 0 (by omega)
    obtain ⟨u1, hu1⟩ := hgu 1 (by omega)
    obtain ⟨u2, hu2⟩ := hgu 2 (by omega)
    have fg1 := hgf (q * 3 + 1)
    have fg2 := hgf (q * 3 + 2)
    rw [Nat.add_zero] at hu0
    have r0 := R3.out.get 0
    have r1 := R3.out.get 1
    have z0 := Z3.out.get 0
    have z1 := Z3.out.get 1
    have z2 := Z3.out.get 2
    have fg0 := hgf (q * 3)
    have HS := Lib.hid hset
    have HG := Lib.hid hg1
    have ZH := Lib.hid (show w.heap.size < w2.heap.size by omega)
    clear hset hgf hgu hq hy0
    clear h0
    go_wp2_with fail
    generalize w2.alloc (.cells #[.slice (some ⟨g, 0, none⟩) k c', .bool false] 31) = w3 at V3 R3 Z3 B3 r0 r1 z0 z1 z2 fg0 fg1 fg2 HS HG hu0 hu1 hu2 ⊢
    go_region
    obtain ⟨L2, hL2⟩ : ∃ L2, L.set q (zr, zm, za) = L2 := ⟨_, rfl⟩
    have gl : g < w2.heap.size := (NB.out g rfl).2
    have SL2 : ∀ c ∈ L2, -2147483648 ≤ c.1 ∧ c.1 ≤ 2147483647 := fun c h => by
      rw [← hL2] at h
      rcases List.mem_or_eq_of_mem_set h with h | rfl
      · exact SL.out c h
      · exact hz
    have V4 := HS.out zr zm za
    have R4 : RowAt (((w3.setCell ⟨g, q * 3, none⟩ (.int .i32 zr)).setCell ⟨g, q * 3 + 1, none⟩ (.int .i64 zm)).setCell ⟨g, q * 3 + 2, none⟩ (.int .i64 za)) w2.heap.size (.slice (some ⟨g, 0, none⟩) k c') false := by
      have h := R3.out
      unfold RowAt at h ⊢
      rw [Below.heap_setCell _ _ _ _ (by show w2.heap.size ≠ g; omega), Below.heap_setCell _ _ _ _ (by show w2.heap.size ≠ g; omega), Below.heap_setCell _ _ _ _ (by show w2.heap.size ≠ g; omega)]
      exact h
    have B4 := ((B3.out.setCell (p := ⟨g, q * 3, none⟩) hg0 (.int .i32 zr)).setCell (p := ⟨g, q * 3 + 1, none⟩) hg0 (.int .i64 zm)).setCell (p := ⟨g, q * 3 + 2, none⟩) hg0 (.int .i64 za)
    rw [hL2] at V4
    clear r0 r1 z0 z1 z2 fg0 fg1 fg2 HS HG hu0 hu1 hu2 hL2 V3 R3 Z3 B3 hq1 hq2
    generalize ((w3.setCell ⟨g, q * 3, none⟩ (.int .i32 zr)).setCell ⟨g, q * 3 + 1, none⟩ (.int .i64 zm)).setCell ⟨g, q * 3 + 2, none⟩ (.int .i64 za) = w4 at V4 R4 B4 ⊢
    have V5 := Lib.hid (HasC.keep (w' := w4.drew) V4 fun _ _ => rfl)
    have R5 := Lib.hid (show RowAt w4.drew w2.heap.size (.slice (some ⟨g, 0, none⟩) k c') false from R4)
    have B5 := Lib.hid B4.drew
    clear V4 R4 B4
    generalize w4.drew = w5 at V5 R5 B5 ⊢
    have r0 := R5.out.get 0
    have r1 := R5.out.get 1
    have Q5 := Lib.hid (HasC.sq V5.out)
    have SH := Lib.hid SL2
    clear SL2
    go_wp2_with fail
    refine (put_walk (some ⟨g, 0, none⟩) k c' false L2 w5 (S.out.below B5.out S.out.size) SH.out Q5.out hc' (by omega)).mono ?_
    rintro e w6 ⟨v6, rfl, _, b6⟩
    have B6 := Lib.hid (B5.out.trans (b6.mono B5.out.size))
    have R6 := Lib.hid (show RowAt w6 w2.heap.size (.slice (some ⟨g, 0, none⟩) k c') false from (b6.block _ R5.out.lt).trans R5.out)
    have Q6 := Lib.hid ((Q5.out.below b6).up b6.size)
    clear r0 r1 b6 Q5 V5
    have r0 := R6.out.get 0
    have r1 := R6.out.get 1
    have s1 := S.out.below B6.out S.out.size
    have S6 := Lib.hid s1
    clear s1
    obtain ⟨bb, hbb⟩ : ∃ bb, mayL L2 = bb := ⟨_, rfl⟩
    have HBB := Lib.hid hbb
    rw [hbb]
    clear hbb
    go_wp2_with fail
    refine (refRow_walk (some ⟨g, 0, none⟩) k c' false L2 w6 SH.out Q6.out (by omega)).mono ?_
    rintro e w7 ⟨rfl, b7⟩
    rw [HBB.out]
    have B7 := Lib.hid (B6.out.trans (b7.mono B6.out.size))
    have R7 := Lib.hid (show RowAt w7 w2.heap.size (.slice (some ⟨g, 0, none⟩) k c') false from (b7.block _ R6.out.lt).trans R6.out)
    have Q7 := Lib.hid ((Q6.out.below b7).up b7.size)
    clear r0 r1 b7 Q6
    have r0 := R7.out.get 0
    have r1 := R7.out.get 1
    have hbq : (bb == bb) = true := by simp
    go_wp2_with fail
    refine (packMay_walk (some ⟨g, 0, none⟩) k c' false L2 w7 (S.out.below B7.out S.out.size) SH.out Q7.out (by omega)).mono ?_
    rintro e w8 ⟨rfl, b8⟩
    rw [HBB.out]
    have B8 := Lib.hid (B7.out.trans (b8.mono B7.out.size))
    clear b8
    go_wp2
    go_ret
    exact ⟨by simp, B8.out⟩

-- WHAT THE WALK GIVES, FOR EVERY ARGUMENT AND EVERY WORLD THAT HOLDS THE TABLE.
set_option maxRecDepth 100000 in
theorem contract (H : Type) (enc : TypeId × Value → H) (W : World) (base : Nat) (args : Array Value) (ds gs : List (DataW H)) (before : List MemPlace)
    (hval : ∀ (j : Nat) t v, Tryd.f13.params[j]? = some t → args[j]? = some v → Value.okWide Tryd.prog W .any base t v)
    (hW : DataW.Whole enc Tryd.prog Tryd.f13.params.toList Rows.packHalvesSpec.vars false W args.toList ds gs before) (hL : laidMetH Tryd.prog Rows.packHalvesRow.laid W) :
    Calls Tryd.prog 13 args W fun e W' => ∃ v, e = .returned v ∧ Rows.packHalvesSpec.post enc Tryd.prog Tryd.f13 false true false false W args v W' := by
  have hW' := hW
  obtain ⟨p, q, hA0, hV, rfl, hfz, hnd⟩ := hW
  have hA : DataW.TrodAll enc Tryd.prog W 0 (fun _ => true) true Tryd.f13.params.toList args.toList ds p := hA0
  rw [Tryd.params13] at hA hval
  obtain ⟨v0, vs0, d0, ds0, p0, q0, hargs, rfl, rfl, h0, r0⟩ := trodAll_cons hA
  obtain ⟨v1, vs1, d1, ds1, p1, q1, rfl, rfl, rfl, h1, r1⟩ := trodAll_cons r0
  obtain ⟨v2, vs2, d2, ds2, p2, q2, rfl, rfl, rfl, h2, r2⟩ := trodAll_cons r1
  obtain ⟨rfl, rfl, rfl⟩ := trodAll_nil r2
  obtain rfl : args = #[v0, v1, v2] := by cases args; simp_all
  obtain ⟨rfl, rfl⟩ := trodVars_none hV
  obtain ⟨Ax, nx, cx, x, rfl, hcx, hmx, hrx, hqx⟩ := open_cells (hval 0 29 v0 rfl rfl) h0
  obtain ⟨y, rfl, rfl, rfl, wy⟩ := open_int Tryd.underlying3 (hval 1 3 v1 rfl rfl) h1
  obtain ⟨z, rfl, hz⟩ := open_cell (hval 2 45 v2 rfl rfl) h2
  clear hA0
  refine (walk Ax nx cx x hcx hmx hrx y (wf_i64 wy) z hz W (spans_of hL) hqx).mono fun e W' ⟨he, hg⟩ => ?_
  subst he
  exact ⟨_, rfl, close rfl hW' ⟨rfl, rfl, rfl⟩ (by kernel_rfl) (by kernel_rfl) hg⟩

set_option maxRecDepth 100000 in
theorem laid_met (os : Os) : laidMet Tryd.prog Rows.packHalvesRow.laid ((laidWorld os).forCall (fun _ _ => 0) ⟨#[], #[.slice none 0 0, .int .i64 0, .agg #[.int .i32 0, .int .i64 0, .int .i64 0]], []⟩).memory :=
  laidMet_of_run' 8 (by kernel_rfl) (by kernel_rfl)
set_option maxRecDepth 100000 in
theorem reads (os : Os) {H : Type} (enc : TypeId × Value → H) : ∃ places, DataW.whole enc Tryd.prog ((laidWorld os).forCall (fun _ _ => 0) ⟨#[], #[.slice none 0 0, .int .i64 0, .agg #[.int .i32 0, .int .i64 0, .int .i64 0]], []⟩).memory Tryd.f13.params.toList Rows.packHalvesSpec.vars false (#[.slice none 0 0, .int .i64 0, .agg #[.int .i32 0, .int .i64 0, .int .i64 0]] : Array Value).toList 8 = some ([.nil, .lit (.int .i64 0), .agg [.lit (.int .i32 0), .lit (.int .i64 0), .lit (.int .i64 0)]], [], places) :=
  ⟨[], by kernel_rfl⟩

set_option maxRecDepth 100000 in
theorem lifted (os : Os) (started : os.Started) (H : Type) (enc : TypeId × Value → H) (F : Stop.Interp) :
    ReturnsInHanded {} Tryd.checked os 13 .any ((OpenSpec.ofChange Rows.packHalvesSpec).preRow enc Tryd.prog Tryd.f13 Rows.packHalvesRow.domain false Rows.packHalvesRow.laid) (((OpenSpec.ofChange Rows.packHalvesSpec).at F).post enc Tryd.prog Tryd.f13 false true false false) := by
  obtain ⟨places, hx⟩ := reads os enc
  refine returnsInHanded_of_row (C := Tryd.checked) (s := OpenSpec.ofChange Rows.packHalvesSpec) ownNone started (by kernel_rfl) Tryd.func13
    (witness_row_at (enc := enc) (C := Tryd.checked) false (laidWorld os) #[.slice none 0 0, .int .i64 0, .agg #[.int .i32 0, .int .i64 0, .int .i64 0]] rfl (by kernel_rfl) (by kernel_rfl) (by kernel_rfl)
      (OpenSpec.preRow_of_cond 8 hx (by kernel_rfl) (fun k hk => by cases hk) (by kernel_rfl) (laid_met os))) ?_
  intro W base args ds gs before hval hW _ _ _ hL _ _
  exact contract H enc W base args ds gs before hval hW hL

set_option maxRecDepth 100000 in
theorem said : Rows.PackHalvesSaid :=
  OpenClaim.holds_of_cond 13 Tryd.f13 rfl rfl rfl rfl rfl rfl rfl ⟨rfl, rfl, rfl, rfl, rfl⟩ rfl rfl rfl rfl rfl (by kernel_rfl) Tryd.func13 (by kernel_rfl)
    (of_decide_eq_true (by kernel_rfl)) (by unfold Func.isWrapper; first | (rw [if_pos (by decide +kernel)]; kernel_rfl) | (rw [if_neg (by decide +kernel)]; exact ⟨rfl, rfl⟩))
    (fun os started H enc _ F => by rw [OpenClaim.pre_eq_preRow]; exact lifted os started H enc F)

-- No parameter wants a stand-in; the program's own looks are off: what the card asks.
set_option maxRecDepth 100000 in
theorem plain (f : FuncId) (fn : Func) (hf : Tryd.pinned.checked.prog.funcNamed "rotulus/rotuluslaw4.PackHalves" = some f) (hfn : Tryd.pinned.checked.prog.funcs[f]? = some fn) :
    false = Tryd.pinned.checked.prog.looks [] ∧ ∀ (j : Nat) t, fn.params[j]? = some t → Tryd.pinned.checked.prog.wantsStandIn t = false := by
  obtain rfl : f = 13 := Option.some.inj ((show Tryd.prog.funcNamed "rotulus/rotuluslaw4.PackHalves" = some 13 by kernel_rfl).symm.trans hf) |>.symm
  obtain rfl : fn = Tryd.f13 := (Option.some.inj (Tryd.func13.symm.trans hfn)).symm
  refine ⟨by kernel_rfl, fun j t ht => ?_⟩
  rw [Tryd.params13] at ht
  have hm := Array.mem_of_getElem? ht
  simp at hm
  rcases hm with rfl | rfl | rfl
  · exact (show Tryd.prog.wantsStandIn 29 = false by kernel_rfl)
  · exact (show Tryd.prog.wantsStandIn 3 = false by kernel_rfl)
  · exact (show Tryd.prog.wantsStandIn 45 = false by kernel_rfl)

-- The card.
set_option maxRecDepth 100000 in
theorem card : Rows.PackHalvesCardSaid :=
  Claim7.holds_tied_plain_at .later [] _ _ _ _ said (fun _ h => by cases h) (by kernel_rfl) (fun _ h => by cases h) packHalves_row_tie rfl ⟨rfl, rfl⟩ (by kernel_rfl) rfl plain (by kernel_rfl)
end Go.Proofs.YtikdlikdknfcfaaDoor.packHalves
