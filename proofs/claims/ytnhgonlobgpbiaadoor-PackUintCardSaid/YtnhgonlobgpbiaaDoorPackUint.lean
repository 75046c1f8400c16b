/-
  The statement PackUint: a number of 64 bits as bytes is what the document's reference tells, and comes back, whatever stands behind it; any bytes read as the reference reads them. For every number and every list of bytes (of which the statement looks at the first fourteen); it holds where the table of widths is as its initialiser lays it, which the card ties to the program's text.
-/
import Derived.Test.YtnhgonlobgpbiaaDoorBegun
import Derived.Test.YtnhgonlobgpbiaaDoorBegun4
import Derived.Test.YtnhgonlobgpbiaaDoorArgs
import Derived.Test.YtnhgonlobgpbiaaDoorStr
import Derived.Test.YtnhgonlobgpbiaaDoorPackUintR
namespace Go.Proofs.YtnhgonlobgpbiaaDoor.packUint
open Go.ChangeShapes Go.WideShapes Go.ChangeAt Go.RowKit

theorem sq_take {w : World} {B n m : Nat} {A : Option Addr} {l : List Int} (hq : Sq w B 1 n A (l.map (Value.int .u8))) (hm : m ≤ n) : Sq w B 1 m A ((l.take m).map (Value.int .u8)) := by
  have hl := hq.size_ints
  refine ⟨by simp; omega, fun h => ?_⟩
  obtain ⟨b, off, e, hb, hcell⟩ := hq.spot (by omega)
  refine ⟨b, off, e, hb, fun j u hu => hcell j u ?_⟩
  rw [List.map_take, List.getElem?_take] at hu
  split at hu
  · exact hu
  · cases hu
set_option maxRecDepth 100000 in
set_option maxHeartbeats 3200000 in
theorem walkN (a : Nat) (ha : a < 2 ^ 64) (A : Option Addr) (n c : Nat) (l : List Int) (hc : n ≤ c) (hl : ∀ x ∈ l, 0 ≤ x ∧ x ≤ 255) (w : World) (hs : Spans w) (hq : Sq w w.heap.size 1 n A (l.map (Value.int .u8))) :
    Calls Tryd.prog 3 #[.int .u64 a, .slice A n c] w fun e w' => e = .returned (.bool true) ∧ Below w.heap.size w w' := by
  obtain ⟨i0, hi, hz0, hz1, hz2⟩ := info_parts infoByte
  have S := Lib.hid hs
  have HA := Lib.hid ha
  obtain ⟨m, hm⟩ : ∃ m, min n 14 = m := ⟨_, rfl⟩
  have hmin : min (n : Int) 14 = (m : Int) := by omega
  have hmn : m ≤ n := by omega
  have hm14 : m ≤ 14 := by omega
  have hmc : m ≤ c := by omega
  have QH := Lib.hid (sq_take hq hmn)
  have LH := Lib.hid (show ∀ x ∈ l.take m, 0 ≤ x ∧ x ≤ 255 from fun x hx => hl x (List.mem_of_mem_take hx))
  clear hs ha hq hl hm
  go_enter Tryd.func3, Tryd.ntmps3
  go_wp2_with fail
  refine (begun4_walk w S.out).mono ?_
  rintro e w1 ⟨rfl, b1⟩
  have B1 := Lib.hid b1
  have Q1 := Lib.hid (QH.out.below b1)
  clear S b1 QH
  go_wp2_with fail
  refine (uint_walk a HA.out w1).mono ?_
  rintro e w2 ⟨va, rfl, hva, b2⟩
  obtain ⟨A1, c1, rfl⟩ := hva.shape
  have V2 := Lib.hid hva
  have B2 := Lib.hid (B1.out.trans (b2.mono B1.out.size))
  have Q2 := Lib.hid (Q1.out.below (b2.mono B1.out.size))
  have LA := Lib.hid (uintL_len HA.out)
  have la10 := LA.out
  obtain ⟨la, hla⟩ : ∃ la, (uintL a).length = la := ⟨_, rfl⟩
  have HLA := Lib.hid hla
  rw [hla] at la10 ⊢
  clear B1 Q1 hva b2 hla
  have O0 := Lib.hid (byte_all (uintL a))
  have O1 := Lib.hid (byte_all (l.take m))
  have VS := Lib.hid (show Sq w2 w2.heap.size 1 la A1 ((uintL a).map (Value.int .u8)) by rw [← HLA.out]; exact V2.out.sq)
  have hz2' := B2.out.size
  go_wp2_with (first
    | (at_builtin; refine wpl_app rfl (.const (.slice none 0 0)) (.tmp 24) 23 rfl w2.heap.size 5 i0 (.int .u8 0) 1 1 Tryd.underlying23 hi hz0 hz1 hz2 rfl (by decide) (.slice none 0 0) 0 [] rfl (World.ownsRow_nil _ _ _ _) A1 la c1 ((uintL a).map (Value.int .u8)) rfl w2.heap.size VS.out O0.out (by unfold maxLen; omega) (by omega) (Nat.le_refl _) ?_; intro v4 w4 h4 g4 o4; simp only [Nat.zero_add, List.nil_append] at h4; obtain ⟨A4, c4, rfl⟩ := own_shape h4; (have H4 := Lib.hid h4); (have B4 := Lib.hid ((Below.refl w2.heap.size w2).grown g4 (Nat.le_refl _) (fun k e => by cases e))); (have Q4 := Lib.hid (Q2.out.below (B4.out.mono hz2'))); clear h4 g4 o4)
    | (at_builtin; refine wpl_app rfl (.tmp 25) (.tmp 26) 23 rfl w2.heap.size 5 i0 (.int .u8 0) 1 1 Tryd.underlying23 hi hz0 hz1 hz2 rfl (by decide) (.slice A4 la c4) la ((uintL a).map (Value.int .u8)) rfl H4.out A m c ((l.take m).map (Value.int .u8)) rfl w.heap.size Q4.out O1.out (by unfold maxLen; omega) (by omega) B4.out.size ?_; intro v5 w5 h5 g5 o5; obtain ⟨A5, c5, rfl⟩ := own_shape h5; (have H5 := Lib.hid h5); (have B5 := Lib.hid (B4.out.grown g5 B4.out.size (fun k e => (World.ownsRow.lt H4.out k e).1))); (have Q5 := Lib.hid (Q2.out.below (B5.out.mono hz2'))); clear h5 g5 o5))
  refine (getUint_walk A5 (la + m) c5 (uintL a ++ l.take m) w5 (B := w5.heap.size) (by rw [List.map_append]; exact Sq.own H5.out) (fun x hx => (List.mem_append.1 hx).elim (uintL_bytes a x) (LH.out x)) (by omega)).mono ?_
  rintro e w6 ⟨rfl, rfl⟩
  rw [getL_put a _ HA.out]
  clear H4 B4 Q4 H5
  go_wp2_with fail
  refine (getUint_walk A m c (l.take m) w5 Q5.out LH.out (by omega)).mono ?_
  rintro e w6 ⟨rfl, rfl⟩
  go_wp2_with fail
  refine (refGetUint_walk A m c (l.take m) w5 Q5.out LH.out).mono ?_
  rintro e w6 ⟨rfl, rfl⟩
  obtain ⟨gx, hgx⟩ : ∃ gx, getL (l.take m) = gx := ⟨_, rfl⟩
  rw [hgx]
  have B6 := Lib.hid (B2.out.trans (B5.out.mono hz2'))
  have V5 := Lib.hid (V2.out.below B5.out V2.out.lt)
  have CVP := Lib.hid (show ∀ w7, Below w5.heap.size w5 w7 → (convert 23 9 (.slice A1 la c1)).run Tryd.prog w7 = .ok (.string (strL (uintL a))) w7 from fun w7 b7 => by rw [← HLA.out]; exact conv_sq (HasB.sq (V5.out.below b7 V5.out.lt)) (uintL_bytes a) c1)
  obtain ⟨gv, gk, hg1, hg2⟩ : ∃ gv gk, gx.1 = gv ∧ gx.2 = gk := ⟨_, _, rfl, rfl⟩
  rw [hg1, hg2, HLA.out]
  clear hgx V2 V5 B2 B5 Q2 Q5 VS O0 O1 hmn hmc hm14 hmin hg1 hg2
  go_wp2_with fail
  refine Ord.start (S := fun w' => Below w5.heap.size w5 w') (n := 28) (by kernel_rfl) (by kernel_rfl) (Below.refl _ _).drew ?_
  apply uint4_great (n := a) (la := la) (gv := gv) (gk := gk) (c1 := c1) (A1 := A1) (s := strL (uintL a))
  case R => exact ⟨by kernel_rfl, by kernel_rfl⟩
  case hQ => exact fun _ _ _ _ _ h => h
  case hn => exact HA.out
  case hla => exact HLA.out
  case hconvP => exact fun w7 b7 => CVP.out w7 b7
  case hstep => exact fun w7 w8 b7 b8 => b7.trans (b8.mono b7.size)
  case hconv => exact fun w7 B A7 c7 h7 => conv_sq h7.sq (uintL_bytes a) c7
  case F => exact ⟨rfl, rfl, rfl, rfl, rfl, rfl, rfl, rfl, rfl, rfl⟩
  case hS => exact (Below.refl _ _).drew
  intro a2 w2 f4 fd b2
  have F4 := Lib.hid f4
  have FD := Lib.hid fd
  have F7 := Lib.hid (B6.out.trans (b2.mono B6.out.size))
  clear f4 fd b2
  go_wp2
  refine bodyPost_ret (v := .bool true) ?_ FD.out ⟨rfl, F7.out⟩
  have e := F4.out
  unfold Chain.At at e
  simp [results, Tryd.results3, go_sem, e]
theorem walk (x : Int) (hx : 0 ≤ x ∧ x ≤ 18446744073709551615) (A : Option Addr) (n c : Nat) (l : List Int) (hc : n ≤ c) (_ : c ≤ maxLen) (hl : ∀ x ∈ l, 0 ≤ x ∧ x ≤ 255) (w : World) (hs : Spans w) (hq : Sq w w.heap.size 1 n A (l.map (Value.int .u8))) :
    Calls Tryd.prog 3 #[.int .u64 x, .slice A n c] w fun e w' => e = .returned (.bool true) ∧ Below w.heap.size w w' := by
  obtain ⟨a, rfl⟩ := Int.eq_ofNat_of_zero_le hx.1
  exact walkN a (by omega) A n c l hc hl w hs hq

-- WHAT THE WALK GIVES, FOR EVERY ARGUMENT AND EVERY WORLD THAT HOLDS THE TABLE.
set_option maxRecDepth 100000 in
theorem contract (H : Type) (enc : TypeId × Value → H) (W : World) (base : Nat) (args : Array Value) (ds gs : List (DataW H)) (before : List MemPlace)
    (hval : ∀ (j : Nat) t v, Tryd.f3.params[j]? = some t → args[j]? = some v → Value.okWide Tryd.prog W .any base t v)
    (hW : DataW.Whole enc Tryd.prog Tryd.f3.params.toList Rows.packUintSpec.vars false W args.toList ds gs before) (hL : laidMetH Tryd.prog Rows.packUintRow.laid W) :
    Calls Tryd.prog 3 args W fun e W' => ∃ v, e = .returned v ∧ Rows.packUintSpec.post enc Tryd.prog Tryd.f3 false true false false W args v W' := by
  have hW' := hW
  obtain ⟨p, q, hA0, hV, rfl, hfz, hnd⟩ := hW
  have hA : DataW.TrodAll enc Tryd.prog W 0 (fun _ => true) true Tryd.f3.params.toList args.toList ds p := hA0
  rw [Tryd.params3] at hA hval
  obtain ⟨v0, vs0, d0, ds0, p0, q0, hargs, rfl, rfl, h0, r0⟩ := trodAll_cons hA
  obtain ⟨v1, vs1, d1, ds1, p1, q1, rfl, rfl, rfl, h1, r1⟩ := trodAll_cons r0
  obtain ⟨rfl, rfl, rfl⟩ := trodAll_nil r1
  obtain rfl : args = #[v0, v1] := by cases args; simp_all
  obtain ⟨rfl, rfl⟩ := trodVars_none hV
  obtain ⟨x, rfl, rfl, rfl, wx⟩ := open_int Tryd.underlying22 (hval 0 22 v0 rfl rfl) h0
  obtain ⟨Ay, ny, cy, y, rfl, hcy, hmy, hry, hqy⟩ := open_bytes (hval 1 23 v1 rfl rfl) h1
  clear hA0
  refine (walk x (wf_u64 wx) Ay ny cy y hcy hmy hry W (spans_of hL) hqy).mono fun e W' ⟨he, hg⟩ => ?_
  subst he
  exact ⟨_, rfl, close rfl hW' ⟨rfl, rfl, rfl⟩ (by kernel_rfl) (by kernel_rfl) hg⟩

set_option maxRecDepth 100000 in
theorem laid_met (os : Os) : laidMet Tryd.prog Rows.packUintRow.laid ((laidWorld os).forCall (fun _ _ => 0) ⟨#[], #[.int .u64 0, .slice none 0 0], []⟩).memory :=
  laidMet_of_run' 8 (by kernel_rfl) (by kernel_rfl)
set_option maxRecDepth 100000 in
theorem reads (os : Os) {H : Type} (enc : TypeId × Value → H) : ∃ places, DataW.whole enc Tryd.prog ((laidWorld os).forCall (fun _ _ => 0) ⟨#[], #[.int .u64 0, .slice none 0 0], []⟩).memory Tryd.f3.params.toList Rows.packUintSpec.vars false (#[.int .u64 0, .slice none 0 0] : Array Value).toList 8 = some ([.lit (.int .u64 0), .nil], [], places) :=
  ⟨[], by kernel_rfl⟩

set_option maxRecDepth 100000 in
theorem lifted (os : Os) (started : os.Started) (H : Type) (enc : TypeId × Value → H) (F : Stop.Interp) :
    ReturnsInHanded {} Tryd.checked os 3 .any ((OpenSpec.ofChange Rows.packUintSpec).preRow enc Tryd.prog Tryd.f3 Rows.packUintRow.domain false Rows.packUintRow.laid) (((OpenSpec.ofChange Rows.packUintSpec).at F).post enc Tryd.prog Tryd.f3 false true false false) := by
  obtain ⟨places, hx⟩ := reads os enc
  refine returnsInHanded_of_row (C := Tryd.checked) (s := OpenSpec.ofChange Rows.packUintSpec) ownNone started (by kernel_rfl) Tryd.func3
    (witness_row_at (enc := enc) (C := Tryd.checked) false (laidWorld os) #[.int .u64 0, .slice none 0 0] rfl (by kernel_rfl) (by kernel_rfl) (by kernel_rfl)
      (OpenSpec.preRow_of_cond 8 hx (by kernel_rfl) (fun k hk => by cases hk) (by kernel_rfl) (laid_met os))) ?_
  intro W base args ds gs before hval hW _ _ _ hL _ _
  exact contract H enc W base args ds gs before hval hW hL

set_option maxRecDepth 100000 in
theorem said : Rows.PackUintSaid :=
  OpenClaim.holds_of_cond 3 Tryd.f3 rfl rfl rfl rfl rfl rfl rfl ⟨rfl, rfl, rfl, rfl, rfl⟩ rfl rfl rfl rfl rfl (by kernel_rfl) Tryd.func3 (by kernel_rfl)
    (of_decide_eq_true (by kernel_rfl)) (by unfold Func.isWrapper; first | (rw [if_pos (by decide +kernel)]; kernel_rfl) | (rw [if_neg (by decide +kernel)]; exact ⟨rfl, rfl⟩))
    (fun os started H enc _ F => by rw [OpenClaim.pre_eq_preRow]; exact lifted os started H enc F)

-- No parameter wants a stand-in; the program's own looks are off: what the card asks.
set_option maxRecDepth 100000 in
theorem plain (f : FuncId) (fn : Func) (hf : Tryd.pinned.checked.prog.funcNamed "rotulus/rotuluslaw4.PackUint" = some f) (hfn : Tryd.pinned.checked.prog.funcs[f]? = some fn) :
    false = Tryd.pinned.checked.prog.looks [] ∧ ∀ (j : Nat) t, fn.params[j]? = some t → Tryd.pinned.checked.prog.wantsStandIn t = false := by
  obtain rfl : f = 3 := Option.some.inj ((show Tryd.prog.funcNamed "rotulus/rotuluslaw4.PackUint" = some 3 by kernel_rfl).symm.trans hf) |>.symm
  obtain rfl : fn = Tryd.f3 := (Option.some.inj (Tryd.func3.symm.trans hfn)).symm
  refine ⟨by kernel_rfl, fun j t ht => ?_⟩
  rw [Tryd.params3] at ht
  have hm := Array.mem_of_getElem? ht
  simp at hm
  rcases hm with rfl | rfl
  · exact (show Tryd.prog.wantsStandIn 22 = false by kernel_rfl)
  · exact (show Tryd.prog.wantsStandIn 23 = false by kernel_rfl)

-- The card.
set_option maxRecDepth 100000 in
theorem card : Rows.PackUintCardSaid :=
  Claim7.holds_tied_plain_at .later [] _ _ _ _ said (fun _ h => by cases h) (by kernel_rfl) (fun _ h => by cases h) packUint_row_tie rfl ⟨rfl, rfl⟩ (by kernel_rfl) rfl plain (by kernel_rfl)
end Go.Proofs.YtnhgonlobgpbiaaDoor.packUint
