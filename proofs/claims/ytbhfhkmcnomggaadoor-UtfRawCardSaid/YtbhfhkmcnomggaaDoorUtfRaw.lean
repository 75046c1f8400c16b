/-
  The statement UtfRaw: of each two bytes, of each three, and of three behind a sign and ahead of one, the signs are the document's. For every three bytes; it holds where the table of widths is as its initialiser lays it, which the card ties to the program's text.
-/
import Derived.Test.YtbhfhkmcnomggaaDoorFrame
import Derived.Test.YtbhfhkmcnomggaaDoorArgs
import Derived.Test.YtbhfhkmcnomggaaDoorApp
import Derived.Test.YtbhfhkmcnomggaaDoorShort
namespace Go.Proofs.YtbhfhkmcnomggaaDoor.utfRaw
open Go.ChangeShapes Go.WideShapes Go.ChangeAt Go.RowKit

def pickT (t2 t3 t5 : ByteArray) (k : Nat) : ByteArray := if k = 0 then t2 else if k = 1 then t3 else t5
/-- The world in which the three texts stand. -/
def rawW (w1 : World) (x y z : Int) (t2 t3 t5 : ByteArray) : World :=
  (((w1.alloc (.cells #[.int .u8 x, .int .u8 y] 5)).alloc (.cells #[.int .u8 x, .int .u8 y, .int .u8 z] 5)).alloc (.cells #[.int .u8 120, .int .u8 x, .int .u8 y, .int .u8 z, .int .u8 121] 5)).alloc (.cells #[.string t2, .string t3, .string t5] 9)
theorem raw_cell (w1 : World) (x y z : Int) (t2 t3 t5 : ByteArray) (k : Nat) (hk : k < 3) : (rawW w1 x y z t2 t3 t5).cell? ⟨w1.heap.size + 1 + 1 + 1, k, none⟩ = some (.string (pickT t2 t3 t5 k)) := by
  have e : w1.heap.size + 1 + 1 + 1 = (((w1.alloc (.cells #[.int .u8 x, .int .u8 y] 5)).alloc (.cells #[.int .u8 x, .int .u8 y, .int .u8 z] 5)).alloc (.cells #[.int .u8 120, .int .u8 x, .int .u8 y, .int .u8 z, .int .u8 121] 5)).heap.size := by simp
  rw [e]
  unfold rawW
  rw [cell_of_row _ _ _ _ _ (0, 0) (heap_alloc_new _ _)]
  match k, hk with
  | 0, _ => rfl
  | 1, _ => rfl
  | 2, _ => rfl
theorem raw_below (w1 : World) (x y z : Int) (t2 t3 t5 : ByteArray) : Below w1.heap.size w1 (rawW w1 x y z t2 t3 t5) :=
  ((((Below.refl _ _).alloc (Nat.le_refl _) _).alloc (by simp) _).alloc (by simp; omega) _).alloc (by simp; omega) _
theorem raw_size (w1 : World) (x y z : Int) (t2 t3 t5 : ByteArray) : (rawW w1 x y z t2 t3 t5).heap.size = w1.heap.size + 4 := by simp [rawW]

set_option maxHeartbeats 1600000 in
theorem walk (x : Int) (_ : 0 ≤ x ∧ x ≤ 255) (y : Int) (_ : 0 ≤ y ∧ y ≤ 255) (z : Int) (_ : 0 ≤ z ∧ z ≤ 255) (w : World) (hs : Spans w) : Calls Tryd.prog 12 #[.int .u8 x, .int .u8 y, .int .u8 z] w fun e w' => e = .returned (.bool true) ∧ Below w.heap.size w w' := by
  obtain ⟨i0, hi, hz0, hz1, hz2⟩ := info_parts info21
  have S := Lib.hid hs
  clear hs
  go_enter Tryd.func12, Tryd.ntmps12
  go_wp2_with fail
  refine (begun_walk w S.out).mono ?_
  rintro e w1 ⟨rfl, b1⟩
  have R1 := Lib.hid b1
  have hs1 := b1.size
  clear b1 S
  have HX : ∀ u ∈ [x, y, z], 0 ≤ u ∧ u ≤ 255 := by intro u hu; simp at hu; rcases hu with rfl | rfl | rfl <;> assumption
  have C2 := fun w n hn => conv_new w n 2 hn [x, y] (by intro u hu; simp at hu; rcases hu with rfl | rfl <;> exact HX _ (by simp))
  have C3 := fun w n hn => conv_new w n 3 hn [x, y, z] (by intro u hu; simp at hu; rcases hu with rfl | rfl | rfl <;> exact HX _ (by simp))
  have C5 := fun w n hn => conv_new w n 5 hn [120, x, y, z, 121] (by intro u hu; simp at hu; rcases hu with rfl | rfl | rfl | rfl | rfl <;> first | omega | exact HX _ (by simp))
  simp only [List.map_cons, List.map_nil, List.length_cons, List.length_nil, Nat.zero_add, Nat.reduceAdd] at C2 C3 C5
  clear HX
  obtain ⟨t2, ht2⟩ : ∃ t, textOf [x, y] = t := ⟨_, rfl⟩
  obtain ⟨t3, ht3⟩ : ∃ t, textOf [x, y, z] = t := ⟨_, rfl⟩
  obtain ⟨t5, ht5⟩ : ∃ t, textOf [120, x, y, z, 121] = t := ⟨_, rfl⟩
  have z2 : t2.size = 2 := by rw [← ht2, textOf_size]; rfl
  have z3 : t3.size = 3 := by rw [← ht3, textOf_size]; rfl
  have z5 : t5.size = 5 := by rw [← ht5, textOf_size]; rfl
  have Z := Lib.hid (And.intro z2 (And.intro z3 z5))
  rw [ht2] at C2
  rw [ht3] at C3
  rw [ht5] at C5
  clear ht2 ht3 ht5 z2 z3 z5
  have WC := Lib.hid (raw_cell w1 x y z t2 t3 t5)
  have WB := Lib.hid (raw_below w1 x y z t2 t3 t5)
  have WS := Lib.hid (raw_size w1 x y z t2 t3 t5)
  go_wp2_with fail
  obtain ⟨w4, hw4⟩ : ∃ w4, rawW w1 x y z t2 t3 t5 = w4 := ⟨_, rfl⟩
  rw [hw4] at WC WB WS
  change Code.wp _ _ _ _ (rawW w1 x y z t2 t3 t5)
  rw [hw4]
  clear hw4 C2 C3 C5
  have hs4 : w1.heap.size ≤ w4.heap.size := by have := WS.out; omega
  go_loopw [31] (fun i wr => ∃ k : Nat, i = .int .i64 k ∧ k ≤ 3 ∧ Below w4.heap.size w4 wr) (fun i _ => 3 - (intOf i).toNat)
  case atStart => exact ⟨0, rfl, by omega, Below.refl _ _⟩
  case round =>
    obtain ⟨k, rfl, hk, hb⟩ := hrel
    have HB := Lib.hid hb
    have hsz := hb.size
    by_cases hlt : k < 3
    · obtain ⟨t, hcell, hts⟩ : ∃ t : ByteArray, wr.cell? ⟨w1.heap.size + 1 + 1 + 1, k, none⟩ = some (.string t) ∧ t.size ≤ 5 := by
        refine ⟨pickT t2 t3 t5 k, (hb.cell (p := ⟨w1.heap.size + 1 + 1 + 1, k, none⟩) (by show w1.heap.size + 1 + 1 + 1 < w4.heap.size; have := WS.out; omega)).trans (WC.out k hlt), ?_⟩
        have := Z.out
        unfold pickT
        split
        · omega
        · split <;> omega
      clear hb
      go_wp2_with fail
      refine (refAll_walk t (by omega) wr).mono ?_
      rintro e w5 ⟨v5, rfl, hv5, b5⟩
      obtain ⟨A5, c5, rfl⟩ := hv5.shape
      have V5 := Lib.hid hv5
      have B5 := Lib.hid b5
      have hs5 := b5.size
      have hlen5 := runO_length (octs t) st0
      rw [octs_length] at hlen5
      have hl5 : (runO st0 (octs t)).length ≤ 1000000 := by omega
      clear hv5 b5 hlen5
      rcases waits_brk _ (run_ok t) with ⟨hw5, hbk⟩ | ⟨hw5, hbk, hst⟩
      · have hall : allO (octs t) = runO st0 (octs t) ++ [65533] := by unfold allO; rw [hbk]
        have HA := Lib.hid hall
        clear hall hbk
        go_wp2_with (at_builtin; refine wpList_append_own_at _ rfl _ _ 24 rfl wr.heap.size 21 i0 (.int .i32 0) 1 4 Tryd.underlying24 hi hz0 hz1 hz2 rfl (by decide) (.slice A5 (runO st0 (octs t)).length c5) (runO st0 (octs t)).length _ rfl (V5.out.alloc _) ⟨w5.heap.size, 0, none⟩ 1 1 [.int .i32 65533] rfl rfl (cell_new_at rfl _ _) (one_rune _) (fits1 (by omega)) (fits4 (by omega)) (by simp; omega) ?_; intro v6 w6 hown6 hg6 _ _)
        have N6 : Below wr.heap.size wr w6 := ((B5.out.alloc hs5 _).grown hg6 (by simp; omega) (fun j e => (World.ownsRow.lt V5.out j e).1))
        have O6 : Has w6 wr.heap.size v6 (allO (octs t)) := by
          rw [HA.out]
          unfold Has
          rw [List.length_append, List.map_append]
          simpa using hown6
        obtain ⟨A6, c6, rfl⟩ := O6.shape
        have V6 := Lib.hid O6
        have B6 := Lib.hid N6
        have hs6 := N6.size
        clear hown6 hg6 N6 O6
        go_wp2_with fail
        refine (all_walk t (by omega) w6).mono ?_
        rintro e w7 ⟨v7, rfl, hv7, b7⟩
        obtain ⟨A7, c7, rfl⟩ := hv7.shape
        have Q7 := Lib.hid (hv7.sq).2
        have Q6 := Lib.hid (((V6.out.sq).2.below b7).up b7.size)
        have B7 := Lib.hid b7
        have hs7 := b7.size
        have hl7 : (allO (octs t)).length ≤ 1099511627776 := by rw [HA.out]; simp only [List.length_append, List.length_cons, List.length_nil]; omega
        clear hv7 b7
        go_wp2_with fail
        refine (eq_yes A7 A6 _ c7 _ c6 (allO (octs t)) w7 (by exact hl7) Q7.out Q6.out).mono ?_
        rintro e w9 ⟨rfl, b9⟩
        have B9 := Lib.hid (B6.out.trans ((B7.out.mono hs6).trans (b9.mono (Nat.le_trans hs6 hs7))))
        have hs9 := B9.out.size
        clear b9
        go_wp2
        go_roundw
        case rel => exact ⟨k + 1, by go_num, by omega, HB.out.trans (B9.out.mono hsz)⟩
        case measure => simp [intOf]; omega
      · have hall : allO (octs t) = runO st0 (octs t) ++ [] := by unfold allO; rw [hbk]
        rw [List.append_nil] at hall
        have HA := Lib.hid hall
        clear hall hbk hst
        have N6 : Below wr.heap.size wr w5 := B5.out
        have O6 : Has w5 wr.heap.size (.slice A5 (runO st0 (octs t)).length c5) (allO (octs t)) := by rw [HA.out]; exact V5.out
        have V6 := Lib.hid O6
        have B6 := Lib.hid N6
        have hs6 := N6.size
        clear N6 O6
        go_wp2_with fail
        refine (all_walk t (by omega) w5).mono ?_
        rintro e w7 ⟨v7, rfl, hv7, b7⟩
        obtain ⟨A7, c7, rfl⟩ := hv7.shape
        have Q7 := Lib.hid (hv7.sq).2
        have Q6 := Lib.hid (((V6.out.sq).2.below b7).up b7.size)
        have B7 := Lib.hid b7
        have hs7 := b7.size
        have hl7 : (allO (octs t)).length ≤ 1099511627776 := by rw [HA.out]; omega
        rw [HA.out] at Q6 Q7 hl7
        try rw [HA.out]
        clear hv7 b7
        go_wp2_with fail
        refine (eq_yes A7 A5 _ c7 _ c5 (runO st0 (octs t)) w7 (by exact hl7) Q7.out Q6.out).mono ?_
        rintro e w9 ⟨rfl, b9⟩
        have B9 := Lib.hid (B6.out.trans ((B7.out.mono hs6).trans (b9.mono (Nat.le_trans hs6 hs7))))
        have hs9 := B9.out.size
        clear b9
        go_wp2
        go_roundw
        case rel => exact ⟨k + 1, by go_num, by omega, HB.out.trans (B9.out.mono hsz)⟩
        case measure => simp [intOf]; omega
    · clear hb
      go_wp2
      go_ret
      exact ⟨rfl, R1.out.trans ((WB.out.trans (HB.out.mono hs4)).mono hs1)⟩

/-- WHAT THE WALK GIVES, FOR EVERY ARGUMENT AND EVERY WORLD THAT HOLDS THE TABLE. -/
theorem contract (H : Type) (enc : TypeId × Value → H) (W : World) (base : Nat) (args : Array Value) (ds gs : List (DataW H)) (before : List MemPlace)
    (hval : ∀ (j : Nat) t v, Tryd.f12.params[j]? = some t → args[j]? = some v → Value.okWide Tryd.prog W .any base t v)
    (hW : DataW.Whole enc Tryd.prog Tryd.f12.params.toList Rows.utfRawSpec.vars false W args.toList ds gs before) (hL : laidMetH Tryd.prog Rows.utfRawRow.laid W) :
    Calls Tryd.prog 12 args W fun e W' => ∃ v, e = .returned v ∧ Rows.utfRawSpec.post enc Tryd.prog Tryd.f12 false true false false W args v W' := by
  have hW' := hW
  obtain ⟨p, q, hA0, hV, rfl, hfz, hnd⟩ := hW
  have hA : DataW.TrodAll enc Tryd.prog W 0 (fun _ => true) true Tryd.f12.params.toList args.toList ds p := hA0
  rw [Tryd.params12] at hA hval
  obtain ⟨v0, vs0, d0, ds0, p0, q0, hargs, rfl, rfl, h0, r0⟩ := trodAll_cons hA
  obtain ⟨v1, vs1, d1, ds1, p1, q1, rfl, rfl, rfl, h1, r1⟩ := trodAll_cons r0
  obtain ⟨v2, vs2, d2, ds2, p2, q2, rfl, rfl, rfl, h2, r2⟩ := trodAll_cons r1
  obtain ⟨rfl, rfl, rfl⟩ := trodAll_nil r2
  obtain rfl : args = #[v0, v1, v2] := by cases args; simp_all
  obtain ⟨rfl, rfl⟩ := trodVars_none hV
  obtain ⟨x, rfl, rfl, rfl, wx⟩ := open_int Tryd.underlying5 (hval 0 5 v0 rfl rfl) h0
  obtain ⟨y, rfl, rfl, rfl, wy⟩ := open_int Tryd.underlying5 (hval 1 5 v1 rfl rfl) h1
  obtain ⟨z, rfl, rfl, rfl, wz⟩ := open_int Tryd.underlying5 (hval 2 5 v2 rfl rfl) h2
  clear hA0
  refine (walk x (wf_u8 wx) y (wf_u8 wy) z (wf_u8 wz) W (spans_of hL) ).mono fun e W' ⟨he, hg⟩ => ?_
  subst he
  exact ⟨_, rfl, close rfl hW' ⟨rfl, rfl, rfl⟩ (by kernel_rfl) (by kernel_rfl) hg⟩

theorem laid_met (os : Os) : laidMet Tryd.prog Rows.utfRawRow.laid ((laidWorld os).forCall (fun _ _ => 0) ⟨#[], #[.int .u8 0, .int .u8 0, .int .u8 0], []⟩).memory :=
  laidMet_of_run' 8 (by kernel_rfl) (by kernel_rfl)
theorem reads (os : Os) {H : Type} (enc : TypeId × Value → H) : ∃ places, DataW.whole enc Tryd.prog ((laidWorld os).forCall (fun _ _ => 0) ⟨#[], #[.int .u8 0, .int .u8 0, .int .u8 0], []⟩).memory Tryd.f12.params.toList Rows.utfRawSpec.vars false (#[.int .u8 0, .int .u8 0, .int .u8 0] : Array Value).toList 8 = some ([.lit (.int .u8 0), .lit (.int .u8 0), .lit (.int .u8 0)], [], places) :=
  ⟨[], by kernel_rfl⟩

set_option maxRecDepth 100000 in
theorem lifted (os : Os) (started : os.Started) (H : Type) (enc : TypeId × Value → H) (F : Stop.Interp) :
    ReturnsInHanded {} Tryd.checked os 12 .any ((OpenSpec.ofChange Rows.utfRawSpec).preRow enc Tryd.prog Tryd.f12 Rows.utfRawRow.domain false Rows.utfRawRow.laid) (((OpenSpec.ofChange Rows.utfRawSpec).at F).post enc Tryd.prog Tryd.f12 false true false false) := by
  obtain ⟨places, hx⟩ := reads os enc
  refine returnsInHanded_of_row (C := Tryd.checked) (s := OpenSpec.ofChange Rows.utfRawSpec) ownNone started (by kernel_rfl) Tryd.func12
    (witness_row_at (enc := enc) (C := Tryd.checked) false (laidWorld os) #[.int .u8 0, .int .u8 0, .int .u8 0] rfl (by kernel_rfl) (by kernel_rfl) (by kernel_rfl)
      (OpenSpec.preRow_of_cond 8 hx (by kernel_rfl) (fun k hk => by cases hk) (by kernel_rfl) (laid_met os))) ?_
  intro W base args ds gs before hval hW _ _ _ hL _ _
  exact contract H enc W base args ds gs before hval hW hL

theorem said : Rows.UtfRawSaid :=
  OpenClaim.holds_of_cond 12 Tryd.f12 rfl rfl rfl rfl rfl rfl rfl ⟨rfl, rfl, rfl, rfl, rfl⟩ rfl rfl rfl rfl rfl (by kernel_rfl) Tryd.func12 (by kernel_rfl)
    (of_decide_eq_true (by kernel_rfl)) (by unfold Func.isWrapper; first | (rw [if_pos (by decide +kernel)]; kernel_rfl) | (rw [if_neg (by decide +kernel)]; exact ⟨rfl, rfl⟩))
    (fun os started H enc _ F => by rw [OpenClaim.pre_eq_preRow]; exact lifted os started H enc F)

/-- No parameter wants a stand-in; the program's own looks are off: what the card asks. -/
theorem plain (f : FuncId) (fn : Func) (hf : Tryd.pinned.checked.prog.funcNamed "rotulus/rotuluslaw1.UtfRaw" = some f) (hfn : Tryd.pinned.checked.prog.funcs[f]? = some fn) :
    false = Tryd.pinned.checked.prog.looks [] ∧ ∀ (j : Nat) t, fn.params[j]? = some t → Tryd.pinned.checked.prog.wantsStandIn t = false := by
  obtain rfl : f = 12 := Option.some.inj ((show Tryd.prog.funcNamed "rotulus/rotuluslaw1.UtfRaw" = some 12 by kernel_rfl).symm.trans hf) |>.symm
  obtain rfl : fn = Tryd.f12 := (Option.some.inj (Tryd.func12.symm.trans hfn)).symm
  refine ⟨by kernel_rfl, fun j t ht => ?_⟩
  rw [Tryd.params12] at ht
  have hm := Array.mem_of_getElem? ht
  simp at hm
  subst hm
  exact (show Tryd.prog.wantsStandIn 5 = false by kernel_rfl)

/-- THE CARD. -/
theorem card : Rows.UtfRawCardSaid :=
  Claim7.holds_tied_plain_at .later [] _ _ _ _ said (fun _ h => by cases h) (by kernel_rfl) (fun _ h => by cases h) utfRaw_row_tie rfl ⟨rfl, rfl⟩ (by kernel_rfl) rfl plain (by kernel_rfl)
end Go.Proofs.YtbhfhkmcnomggaaDoor.utfRaw
