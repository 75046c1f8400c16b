/-
  The statement PackOrder: numbers as bytes: a greater one never takes fewer, at most ten, one just below 128; unlike ones have unlike bytes. For every pair of numbers of 64 bits; it holds where the table of widths is as its initialiser lays it, which the card ties to the program's text.
-/
import Derived.Test.YtnhgonlobgpbiaaDoorBegun
import Derived.Test.YtnhgonlobgpbiaaDoorBegun4
import Derived.Test.YtnhgonlobgpbiaaDoorArgs
import Derived.Test.YtnhgonlobgpbiaaDoorStr
namespace Go.Proofs.YtnhgonlobgpbiaaDoor.packOrder
open Go.ChangeShapes Go.WideShapes Go.ChangeAt Go.RowKit

set_option maxRecDepth 100000 in
set_option maxHeartbeats 3200000 in
theorem walkN (a b : Nat) (ha : a < 2 ^ 64) (hb : b < 2 ^ 64) (w : World) (hs : Spans w) : Calls Tryd.prog 12 #[.int .u64 a, .int .u64 b] w fun e w' => e = .returned (.bool true) ∧ Below w.heap.size w w' := by
  have S := Lib.hid hs
  have HA := Lib.hid ha
  have HB := Lib.hid hb
  clear hs ha hb
  go_enter Tryd.func12, Tryd.ntmps12
  go_wp2_with fail
  refine (begun4_walk w S.out).mono ?_
  rintro e w1 ⟨rfl, b1⟩
  have B1 := Lib.hid b1
  clear S b1
  go_wp2_with fail
  refine (uint_walk a HA.out w1).mono ?_
  rintro e w2 ⟨va, rfl, hva, b2⟩
  obtain ⟨A1, c1, rfl⟩ := hva.shape
  have V2 := Lib.hid hva
  have B2 := Lib.hid (B1.out.trans (b2.mono B1.out.size))
  clear B1 hva b2
  go_wp2_with fail
  refine (uint_walk b HB.out w2).mono ?_
  rintro e w3 ⟨vb, rfl, hvb, b3⟩
  obtain ⟨A2, c2, rfl⟩ := hvb.shape
  have B3 := Lib.hid (B2.out.trans (b3.mono B2.out.size))
  have ca := conv_sq (HasB.sq (V2.out.below b3 V2.out.lt)) (uintL_bytes a) c1
  have cb := conv_sq (HasB.sq hvb) (uintL_bytes b) c2
  have hse : (strL (uintL a) = strL (uintL b)) ↔ a = b := ⟨fun e => uintL_inj HA.out HB.out (strL_inj (uintL_bytes a) (uintL_bytes b) e), fun e => by rw [e]⟩
  have l1 := uintL_pos a
  have l2 := uintL_len HA.out
  have l3 := uintL_one a
  have m1 : a ≤ b → (uintL a).length ≤ (uintL b).length := uintL_mono a b
  have m2 : b ≤ a → (uintL b).length ≤ (uintL a).length := uintL_mono b a
  obtain ⟨la, hla⟩ : ∃ la, (uintL a).length = la := ⟨_, rfl⟩
  obtain ⟨lb, hlb⟩ : ∃ lb, (uintL b).length = lb := ⟨_, rfl⟩
  obtain ⟨sa, hsa⟩ : ∃ sa, strL (uintL a) = sa := ⟨_, rfl⟩
  obtain ⟨sb, hsb⟩ : ∃ sb, strL (uintL b) = sb := ⟨_, rfl⟩
  rw [hla, hsa] at ca
  rw [hlb, hsb] at cb
  rw [hsa, hsb] at hse
  rw [hla] at l1 l2 l3
  rw [hla, hlb] at m1 m2
  rw [hla, hlb]
  have FA := Lib.hid (show (1 ≤ la ∧ la ≤ 10) ∧ (la = 1 ↔ a < 128) ∧ (a ≤ b → la ≤ lb) ∧ (b ≤ a → lb ≤ la) from ⟨⟨l1, l2⟩, l3, m1, m2⟩)
  have F3 := Lib.hid B3.out
  have HTS := Lib.hid (show (sa.toList == sb.toList) = decide (a = b) by
    have h2 : sa.toList = sb.toList ↔ sa = sb := ⟨fun e => by rw [ByteArray.toList_eq, ByteArray.toList_eq] at e; exact ByteArray.ext (Array.toList_inj.1 e), fun e => by rw [e]⟩
    by_cases h : a = b
    · rw [decide_eq_true h, hse.2 h]; simp
    · rw [decide_eq_false h]
      simp only [beq_eq_false_iff_ne, ne_eq]
      exact fun e => h (hse.1 (h2.1 e)))
  clear B3
  have e1 : ((la : Int) == 1) = decide ((a : Int) < 128) := by
    by_cases h : a < 128
    · rw [l3.2 h, decide_eq_true (by omega)]; rfl
    · rw [decide_eq_false (by omega)]
      simp only [beq_eq_false_iff_ne, ne_eq]
      omega
  have e2 : ((a : Int) == (b : Int)) = decide (a = b) := by
    by_cases h : a = b
    · rw [h]; simp
    · rw [decide_eq_false h]
      simp only [beq_eq_false_iff_ne, ne_eq]
      omega
  have e3 := HTS.out
  clear hvb b3 V2 B2 hla hlb hsa hsb hse HA HB l3 FA HTS
  go_wp2
  all_goals
    first
      | (go_ret; exact ⟨rfl, F3.out⟩)
      | (go_ret; exact ⟨ret_bool (by simp [e1, e2, e3]), F3.out⟩)
      | (exfalso; simp_all; done)
      | (exfalso; simp_all; omega)
theorem walk (x : Int) (hx : 0 ≤ x ∧ x ≤ 18446744073709551615) (y : Int) (hy : 0 ≤ y ∧ y ≤ 18446744073709551615) (w : World) (hs : Spans w) : Calls Tryd.prog 12 #[.int .u64 x, .int .u64 y] w fun e w' => e = .returned (.bool true) ∧ Below w.heap.size w w' := by
  obtain ⟨a, rfl⟩ := Int.eq_ofNat_of_zero_le hx.1
  obtain ⟨b, rfl⟩ := Int.eq_ofNat_of_zero_le hy.1
  exact walkN a b (by omega) (by omega) w hs

-- WHAT THE WALK GIVES, FOR EVERY ARGUMENT AND EVERY WORLD THAT HOLDS THE TABLE.
set_option maxRecDepth 100000 in
theorem contract (H : Type) (enc : TypeId × Value → H) (W : World) (base : Nat) (args : Array Value) (ds gs : List (DataW H)) (before : List MemPlace)
    (hval : ∀ (j : Nat) t v, Tryd.f12.params[j]? = some t → args[j]? = some v → Value.okWide Tryd.prog W .any base t v)
    (hW : DataW.Whole enc Tryd.prog Tryd.f12.params.toList Rows.packOrderSpec.vars false W args.toList ds gs before) (hL : laidMetH Tryd.prog Rows.packOrderRow.laid W) :
    Calls Tryd.prog 12 args W fun e W' => ∃ v, e = .returned v ∧ Rows.packOrderSpec.post enc Tryd.prog Tryd.f12 false true false false W args v W' := by
  have hW' := hW
  obtain ⟨p, q, hA0, hV, rfl, hfz, hnd⟩ := hW
  have hA : DataW.TrodAll enc Tryd.prog W 0 (fun _ => true) true Tryd.f12.params.toList args.toList ds p := hA0
  rw [Tryd.params12] at hA hval
  obtain ⟨v0, vs0, d0, ds0, p0, q0, hargs, rfl, rfl, h0, r0⟩ := trodAll_cons hA
  obtain ⟨v1, vs1, d1, ds1, p1, q1, rfl, rfl, rfl, h1, r1⟩ := trodAll_cons r0
  obtain ⟨rfl, rfl, rfl⟩ := trodAll_nil r1
  obtain rfl : args = #[v0, v1] := by cases args; simp_all
  obtain ⟨rfl, rfl⟩ := trodVars_none hV
  obtain ⟨x, rfl, rfl, rfl, wx⟩ := open_int Tryd.underlying22 (hval 0 22 v0 rfl rfl) h0
  obtain ⟨y, rfl, rfl, rfl, wy⟩ := open_int Tryd.underlying22 (hval 1 22 v1 rfl rfl) h1
  clear hA0
  refine (walk x (wf_u64 wx) y (wf_u64 wy) W (spans_of hL) ).mono fun e W' ⟨he, hg⟩ => ?_
  subst he
  exact ⟨_, rfl, close rfl hW' ⟨rfl, rfl, rfl⟩ (by kernel_rfl) (by kernel_rfl) hg⟩

set_option maxRecDepth 100000 in
theorem laid_met (os : Os) : laidMet Tryd.prog Rows.packOrderRow.laid ((laidWorld os).forCall (fun _ _ => 0) ⟨#[], #[.int .u64 0, .int .u64 0], []⟩).memory :=
  laidMet_of_run' 8 (by kernel_rfl) (by kernel_rfl)
set_option maxRecDepth 100000 in
theorem reads (os : Os) {H : Type} (enc : TypeId × Value → H) : ∃ places, DataW.whole enc Tryd.prog ((laidWorld os).forCall (fun _ _ => 0) ⟨#[], #[.int .u64 0, .int .u64 0], []⟩).memory Tryd.f12.params.toList Rows.packOrderSpec.vars false (#[.int .u64 0, .int .u64 0] : Array Value).toList 8 = some ([.lit (.int .u64 0), .lit (.int .u64 0)], [], places) :=
  ⟨[], by kernel_rfl⟩

set_option maxRecDepth 100000 in
theorem lifted (os : Os) (started : os.Started) (H : Type) (enc : TypeId × Value → H) (F : Stop.Interp) :
    ReturnsInHanded {} Tryd.checked os 12 .any ((OpenSpec.ofChange Rows.packOrderSpec).preRow enc Tryd.prog Tryd.f12 Rows.packOrderRow.domain false Rows.packOrderRow.laid) (((OpenSpec.ofChange Rows.packOrderSpec).at F).post enc Tryd.prog Tryd.f12 false true false false) := by
  obtain ⟨places, hx⟩ := reads os enc
  refine returnsInHanded_of_row (C := Tryd.checked) (s := OpenSpec.ofChange Rows.packOrderSpec) ownNone started (by kernel_rfl) Tryd.func12
    (witness_row_at (enc := enc) (C := Tryd.checked) false (laidWorld os) #[.int .u64 0, .int .u64 0] rfl (by kernel_rfl) (by kernel_rfl) (by kernel_rfl)
      (OpenSpec.preRow_of_cond 8 hx (by kernel_rfl) (fun k hk => by cases hk) (by kernel_rfl) (laid_met os))) ?_
  intro W base args ds gs before hval hW _ _ _ hL _ _
  exact contract H enc W base args ds gs before hval hW hL

set_option maxRecDepth 100000 in
theorem said : Rows.PackOrderSaid :=
  OpenClaim.holds_of_cond 12 Tryd.f12 rfl rfl rfl rfl rfl rfl rfl ⟨rfl, rfl, rfl, rfl, rfl⟩ rfl rfl rfl rfl rfl (by kernel_rfl) Tryd.func12 (by kernel_rfl)
    (of_decide_eq_true (by kernel_rfl)) (by unfold Func.isWrapper; first | (rw [if_pos (by decide +kernel)]; kernel_rfl) | (rw [if_neg (by decide +kernel)]; exact ⟨rfl, rfl⟩))
    (fun os started H enc _ F => by rw [OpenClaim.pre_eq_preRow]; exact lifted os started H enc F)

-- No parameter wants a stand-in; the program's own looks are off: what the card asks.
set_option maxRecDepth 100000 in
theorem plain (f : FuncId) (fn : Func) (hf : Tryd.pinned.checked.prog.funcNamed "rotulus/rotuluslaw4.PackOrder" = some f) (hfn : Tryd.pinned.checked.prog.funcs[f]? = some fn) :
    false = Tryd.pinned.checked.prog.looks [] ∧ ∀ (j : Nat) t, fn.params[j]? = some t → Tryd.pinned.checked.prog.wantsStandIn t = false := by
  obtain rfl : f = 12 := Option.some.inj ((show Tryd.prog.funcNamed "rotulus/rotuluslaw4.PackOrder" = some 12 by kernel_rfl).symm.trans hf) |>.symm
  obtain rfl : fn = Tryd.f12 := (Option.some.inj (Tryd.func12.symm.trans hfn)).symm
  refine ⟨by kernel_rfl, fun j t ht => ?_⟩
  rw [Tryd.params12] at ht
  have hm := Array.mem_of_getElem? ht
  simp at hm
  subst hm
  exact (show Tryd.prog.wantsStandIn 22 = false by kernel_rfl)

-- The card.
set_option maxRecDepth 100000 in
theorem card : Rows.PackOrderCardSaid :=
  Claim7.holds_tied_plain_at .later [] _ _ _ _ said (fun _ h => by cases h) (by kernel_rfl) (fun _ h => by cases h) packOrder_row_tie rfl ⟨rfl, rfl⟩ (by kernel_rfl) rfl plain (by kernel_rfl)
end Go.Proofs.YtnhgonlobgpbiaaDoor.packOrder
