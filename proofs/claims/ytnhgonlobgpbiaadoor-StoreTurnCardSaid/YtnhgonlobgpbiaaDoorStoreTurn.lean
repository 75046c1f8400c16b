/-
  The statement StoreTurn: a store that is full: each row that comes drives one out; the numbers of those that went rise by one. For every pair of integers (the limit is taken modulo 40, the rows that come modulo 90); it holds where the table of widths is as its initialiser lays it, which the card ties to the program's text.
-/
import Derived.Test.YtnhgonlobgpbiaaDoorBegun
import Derived.Test.YtnhgonlobgpbiaaDoorBegun4
import Derived.Test.YtnhgonlobgpbiaaDoorArgs
import Derived.Test.YtnhgonlobgpbiaaDoorTurn
namespace Go.Proofs.YtnhgonlobgpbiaaDoor.storeTurn
open Go.ChangeShapes Go.WideShapes Go.ChangeAt Go.RowKit

set_option maxRecDepth 100000 in
set_option maxHeartbeats 6400000 in
theorem walk (x : Int) (hx : -9223372036854775808 ≤ x ∧ x ≤ 9223372036854775807) (y : Int) (hy : -9223372036854775808 ≤ y ∧ y ≤ 9223372036854775807) (w : World) (hs : Spans w) : Calls Tryd.prog 16 #[.int .i64 x, .int .i64 y] w fun e w' => e = .returned (.bool true) ∧ Below w.heap.size w w' := by
  have tx := (And.intro (And.intro hx hy) (tmod_range x 40 (by omega))).2
  have ty := tmod_range y 90 (by omega)
  obtain ⟨L, hL⟩ : ∃ L : Nat, x.tmod 40 % 40 = (L : Int) := ⟨(x.tmod 40 % 40).toNat, by omega⟩
  obtain ⟨n, hn⟩ : ∃ n : Nat, y.tmod 90 % 90 = (n : Int) := ⟨(y.tmod 90 % 90).toNat, by omega⟩
  have L40 : L < 40 := by omega
  have n90 : n < 90 := by omega
  have S := Lib.hid hs
  clear hs hx hy
  go_enter Tryd.func16, Tryd.ntmps16
  go_wp2_with fail
  refine (begun4_walk w S.out).mono ?_
  rintro e w1 ⟨rfl, b1⟩
  have B1 := Lib.hid (And.intro (S.out.below b1 S.out.size) b1)
  clear b1
  go_wp2_with fail
  refine (storeNew_walk (L : Int) w1).mono ?_
  rintro e w2 ⟨rfl, hs2, b2, z2⟩
  rw [show clampN (L : Int) = L by unfold clampN; omega] at hs2
  have G := Lib.hid (show w.heap.size ≤ w1.heap.size from B1.out.2.size)
  obtain ⟨gs, hgs⟩ : ∃ gs, w1.heap.size = gs := ⟨_, rfl⟩
  have I0 := Lib.hid (show TurnAt w gs L 0 w2 from ⟨B1.out.1.below b2 B1.out.1.size, B1.out.2.trans (b2.mono B1.out.2.size), _, [], by rw [← hgs, Nat.zero_sub]; exact hs2, by unfold turnR; simp [allRows_nil]⟩)
  rw [hgs] at G ⊢
  clear B1 hs2 b2 z2 hgs tx ty
  go_wp2_with fail
  go_loopw [7] (fun i wr => ∃ k : Nat, i = .int .i64 k ∧ k ≤ n ∧ Hid (TurnAt w gs L k wr)) (fun i _ => n - (intOf i).toNat)
  case atStart => exact ⟨0, rfl, Nat.zero_le _, I0⟩
  case round =>
    obtain ⟨k, rfl, hk, I⟩ := hrel
    clear I0
    by_cases hlt : k < n
    · have AW := Lib.hid (I.out.add S.out G.out (by omega))
      go_wp2_with fail
      refine AW.out.mono ?_
      rintro e w3 ⟨rfl, I3⟩
      have LW := Lib.hid (I3.out.len)
      have GW := Lib.hid (I3.out.gone)
      obtain ⟨ml, hml⟩ : ∃ ml, min (k + 1) L = ml := ⟨_, rfl⟩
      obtain ⟨mg, hmg⟩ : ∃ mg, k + 1 - L = mg := ⟨_, rfl⟩
      rw [hml] at LW
      rw [hmg] at GW
      have h1 : min ((k : Int) + 1) (L : Int) = (ml : Int) := by omega
      have h2 : max 0 ((k : Int) + 1 - (L : Int)) = (mg : Int) := by omega
      clear AW hml hmg
      go_wp2_with fail
      refine LW.out.mono ?_
      rintro e w4 ⟨rfl, rfl⟩
      go_wp2_with fail
      refine GW.out.mono ?_
      rintro e w4 ⟨rfl, rfl⟩
      clear LW GW
      go_wp2
      go_roundw
      case rel => exact ⟨k + 1, by go_num, by omega, I3⟩
      case measure => simp [intOf]; omega
    · obtain rfl : k = n := by omega
      obtain ⟨m, hm⟩ : ∃ m, min k L = m := ⟨_, rfl⟩
      have m40 : m ≤ 40 := by omega
      have HM := Lib.hid hm
      clear hm
      go_wp2_with fail
      go_loopw [8] (fun i wx => ∃ j : Nat, i = .int .i64 j ∧ j ≤ m ∧ Hid (TurnAt w gs L k wx)) (fun i _ => m - (intOf i).toNat)
      case atStart => exact ⟨0, rfl, Nat.zero_le _, I⟩
      case round =>
        obtain ⟨j, rfl, hj, I2⟩ := hrel
        have LW := Lib.hid (I2.out.len)
        rw [HM.out] at LW
        go_wp2_with fail
        refine LW.out.mono ?_
        rintro e w4 ⟨rfl, rfl⟩
        clear LW
        by_cases hjm : j < m
        · have AW := Lib.hid (I2.out.at' n90 (by rw [HM.out]; exact hjm))
          go_wp2_with fail
          refine AW.out.mono ?_
          rintro e w5 ⟨v5, rfl, h5, b5⟩
          simp only [Option.elim_some, Option.isSome_some, rowk] at h5 ⊢
          obtain ⟨g5, c5, rfl, hc5, _, hg5, e5⟩ := one_cell (r := 256 + ((k - L + j : Nat) : Int)) h5
          obtain ⟨md, hmd⟩ : ∃ md, k - L = md := ⟨_, rfl⟩
          rw [hmd, Int.natCast_add] at e5
          have x5 : (w5.alloc (.cells #[.slice (some ⟨g5, 0, none⟩) 1 c5, .bool false] 31)).cell? ⟨g5, 0, none⟩ = some (.int .i32 (256 + ((md : Int) + (j : Int)))) := (World.cell?_of_block (a := ⟨g5, 0, none⟩) (Below.heap_alloc w5 _ g5 hg5)).trans e5
          have h2 : max 0 ((k : Int) - (L : Int)) = (md : Int) := by omega
          have I5 := Lib.hid (I2.out.laid (b5.alloc b5.size (.cells #[.slice (some ⟨g5, 0, none⟩) 1 c5, .bool false] 31)))
          have hmd40 : md ≤ 90 := by omega
          have ea : (256 : Int) + (md : Int) + (j : Int) = 256 + ((md : Int) + (j : Int)) := by omega
          clear AW h5 b5 hmd e5
          go_wp2_with fail
          go_roundw
          case rel => exact ⟨j + 1, by go_num, by omega, I5⟩
          case measure => simp [intOf]; omega
        · go_wp2
          go_ret
          exact ⟨rfl, I2.out.old⟩

-- WHAT THE WALK GIVES, FOR EVERY ARGUMENT AND EVERY WORLD THAT HOLDS THE TABLE.
set_option maxRecDepth 100000 in
theorem contract (H : Type) (enc : TypeId × Value → H) (W : World) (base : Nat) (args : Array Value) (ds gs : List (DataW H)) (before : List MemPlace)
    (hval : ∀ (j : Nat) t v, Tryd.f16.params[j]? = some t → args[j]? = some v → Value.okWide Tryd.prog W .any base t v)
    (hW : DataW.Whole enc Tryd.prog Tryd.f16.params.toList Rows.storeTurnSpec.vars false W args.toList ds gs before) (hL : laidMetH Tryd.prog Rows.storeTurnRow.laid W) :
    Calls Tryd.prog 16 args W fun e W' => ∃ v, e = .returned v ∧ Rows.storeTurnSpec.post enc Tryd.prog Tryd.f16 false true false false W args v W' := by
  have hW' := hW
  obtain ⟨p, q, hA0, hV, rfl, hfz, hnd⟩ := hW
  have hA : DataW.TrodAll enc Tryd.prog W 0 (fun _ => true) true Tryd.f16.params.toList args.toList ds p := hA0
  rw [Tryd.params16] at hA hval
  obtain ⟨v0, vs0, d0, ds0, p0, q0, hargs, rfl, rfl, h0, r0⟩ := trodAll_cons hA
  obtain ⟨v1, vs1, d1, ds1, p1, q1, rfl, rfl, rfl, h1, r1⟩ := trodAll_cons r0
  obtain ⟨rfl, rfl, rfl⟩ := trodAll_nil r1
  obtain rfl : args = #[v0, v1] := by cases args; simp_all
  obtain ⟨rfl, rfl⟩ := trodVars_none hV
  obtain ⟨x, rfl, rfl, rfl, wx⟩ := open_int Tryd.underlying3 (hval 0 3 v0 rfl rfl) h0
  obtain ⟨y, rfl, rfl, rfl, wy⟩ := open_int Tryd.underlying3 (hval 1 3 v1 rfl rfl) h1
  clear hA0
  refine (walk x (wf_i64 wx) y (wf_i64 wy) W (spans_of hL) ).mono fun e W' ⟨he, hg⟩ => ?_
  subst he
  exact ⟨_, rfl, close rfl hW' ⟨rfl, rfl, rfl⟩ (by kernel_rfl) (by kernel_rfl) hg⟩

set_option maxRecDepth 100000 in
theorem laid_met (os : Os) : laidMet Tryd.prog Rows.storeTurnRow.laid ((laidWorld os).forCall (fun _ _ => 0) ⟨#[], #[.int .i64 0, .int .i64 0], []⟩).memory :=
  laidMet_of_run' 8 (by kernel_rfl) (by kernel_rfl)
set_option maxRecDepth 100000 in
theorem reads (os : Os) {H : Type} (enc : TypeId × Value → H) : ∃ places, DataW.whole enc Tryd.prog ((laidWorld os).forCall (fun _ _ => 0) ⟨#[], #[.int .i64 0, .int .i64 0], []⟩).memory Tryd.f16.params.toList Rows.storeTurnSpec.vars false (#[.int .i64 0, .int .i64 0] : Array Value).toList 8 = some ([.lit (.int .i64 0), .lit (.int .i64 0)], [], places) :=
  ⟨[], by kernel_rfl⟩

set_option maxRecDepth 100000 in
theorem lifted (os : Os) (started : os.Started) (H : Type) (enc : TypeId × Value → H) (F : Stop.Interp) :
    ReturnsInHanded {} Tryd.checked os 16 .any ((OpenSpec.ofChange Rows.storeTurnSpec).preRow enc Tryd.prog Tryd.f16 Rows.storeTurnRow.domain false Rows.storeTurnRow.laid) (((OpenSpec.ofChange Rows.storeTurnSpec).at F).post enc Tryd.prog Tryd.f16 false true false false) := by
  obtain ⟨places, hx⟩ := reads os enc
  refine returnsInHanded_of_row (C := Tryd.checked) (s := OpenSpec.ofChange Rows.storeTurnSpec) ownNone started (by kernel_rfl) Tryd.func16
    (witness_row_at (enc := enc) (C := Tryd.checked) false (laidWorld os) #[.int .i64 0, .int .i64 0] rfl (by kernel_rfl) (by kernel_rfl) (by kernel_rfl)
      (OpenSpec.preRow_of_cond 8 hx (by kernel_rfl) (fun k hk => by cases hk) (by kernel_rfl) (laid_met os))) ?_
  intro W base args ds gs before hval hW _ _ _ hL _ _
  exact contract H enc W base args ds gs before hval hW hL

set_option maxRecDepth 100000 in
theorem said : Rows.StoreTurnSaid :=
  OpenClaim.holds_of_cond 16 Tryd.f16 rfl rfl rfl rfl rfl rfl rfl ⟨rfl, rfl, rfl, rfl, rfl⟩ rfl rfl rfl rfl rfl (by kernel_rfl) Tryd.func16 (by kernel_rfl)
    (of_decide_eq_true (by kernel_rfl)) (by unfold Func.isWrapper; first | (rw [if_pos (by decide +kernel)]; kernel_rfl) | (rw [if_neg (by decide +kernel)]; exact ⟨rfl, rfl⟩))
    (fun os started H enc _ F => by rw [OpenClaim.pre_eq_preRow]; exact lifted os started H enc F)

-- No parameter wants a stand-in; the program's own looks are off: what the card asks.
set_option maxRecDepth 100000 in
theorem plain (f : FuncId) (fn : Func) (hf : Tryd.pinned.checked.prog.funcNamed "rotulus/rotuluslaw4.StoreTurn" = some f) (hfn : Tryd.pinned.checked.prog.funcs[f]? = some fn) :
    false = Tryd.pinned.checked.prog.looks [] ∧ ∀ (j : Nat) t, fn.params[j]? = some t → Tryd.pinned.checked.prog.wantsStandIn t = false := by
  obtain rfl : f = 16 := Option.some.inj ((show Tryd.prog.funcNamed "rotulus/rotuluslaw4.StoreTurn" = some 16 by kernel_rfl).symm.trans hf) |>.symm
  obtain rfl : fn = Tryd.f16 := (Option.some.inj (Tryd.func16.symm.trans hfn)).symm
  refine ⟨by kernel_rfl, fun j t ht => ?_⟩
  rw [Tryd.params16] at ht
  have hm := Array.mem_of_getElem? ht
  simp at hm
  subst hm
  exact (show Tryd.prog.wantsStandIn 3 = false by kernel_rfl)

-- The card.
set_option maxRecDepth 100000 in
theorem card : Rows.StoreTurnCardSaid :=
  Claim7.holds_tied_plain_at .later [] _ _ _ _ said (fun _ h => by cases h) (by kernel_rfl) (fun _ h => by cases h) storeTurn_row_tie rfl ⟨rfl, rfl⟩ (by kernel_rfl) rfl plain (by kernel_rfl)
end Go.Proofs.YtnhgonlobgpbiaaDoor.storeTurn
