/-
  The statement CellOwn: what Trim tells is the caller's own: writing into it turns nothing of the list that was handed in. For every list of cells (the statement looks at the first twenty); it holds where the table of widths is as its initialiser lays it, which the card ties to the program's text.
-/
import Derived.Test.YtbhfhkmcnomggaaDoorFrame
import Derived.Test.YtbhfhkmcnomggaaDoorArgs
import Derived.Test.YtbhfhkmcnomggaaDoorApp
import Derived.Test.YtbhfhkmcnomggaaDoorEqc
import Derived.Laws.OwnMore
namespace Go.Proofs.YtbhfhkmcnomggaaDoor.cellOwn
open Go.ChangeShapes Go.WideShapes Go.ChangeAt Go.RowKit

theorem shape_cap {w : World} {B : Nat} {e : TypeId} {s n : Nat} {v : Value} {xs : List Value} (h : w.ownsRow B e s v n xs) : ∃ A c, v = .slice A n c ∧ n ≤ c := by
  rcases h.2 with ⟨rfl, h0⟩ | ⟨g, cap, cur, rfl, _, _, hc, _⟩
  · rw [h0]; exact ⟨_, _, rfl, Nat.le_refl _⟩
  · exact ⟨_, _, rfl, hc⟩
theorem own_below {w w' : World} {B : Nat} {e : TypeId} {s n : Nat} {v : Value} {xs : List Value} (h : w.ownsRow B e s v n xs) (hb : Below w.heap.size w w') : w'.ownsRow B e s v n xs :=
  h.kept (row := none) ⟨hb.os, hb.tape, hb.output, hb.size, fun k hk _ => hb.block k hk⟩ (by cases hv : v.ownBlock <;> simp)
theorem grown_below {w w' : World} (h : w.grownBy w' none) : Below w.heap.size w w' := ⟨h.os, h.tape, h.output, h.size, fun k hk => h.block k hk (by simp)⟩
theorem fit24 {n : Nat} (h : n ≤ 40) : 0 + n ≤ maxLen ∧ (0 + n) * 24 ≤ 140737488355328 := by unfold maxLen; omega
theorem sq_take {w : World} {B n c m : Nat} {A : Option Addr} {l : List (Int × Int × Int)} (hq : Sq w B 3 n A (flat l)) (hm : m ≤ n) (_ : n ≤ c) : Sq w B 3 m A (flat (l.take m)) := by
  have hl := hq.len
  rw [flat_length] at hl
  refine ⟨by rw [flat_length, List.length_take]; omega, fun h => ?_⟩
  obtain ⟨b, off, e, hb, hcell⟩ := hq.spot (by omega)
  refine ⟨b, off, e, hb, fun j u hu => hcell j u ?_⟩
  rw [flat_take, List.getElem?_take] at hu
  split at hu
  · exact hu
  · cases hu

theorem trimL_le (l : List (Int × Int × Int)) : (trimL l).length ≤ l.length := by unfold trimL; rw [List.length_take]; omega
/-- An owned row that is not empty: where it lies, that it may be written. -/
theorem own_cells {w : World} {B : Nat} {e : TypeId} {s n c : Nat} {A : Option Addr} {xs : List Value} (h : w.ownsRow B e s (.slice A n c) n xs) (hn : 0 < n) :
    ∃ g, A = some ⟨g, 0, none⟩ ∧ B ≤ g ∧ (∀ j, j < n * s → ∃ u, w.cell? ⟨g, j, none⟩ = some u) ∧ (∀ j, w.frozen? ⟨g, j, none⟩ = false) ∧ ∀ j u, (w.setCell ⟨g, j, none⟩ u).ownsRow B e s (.slice A n c) n (xs.set j u) := by
  obtain ⟨g, c', ev, _, hB, _, _⟩ := own_at h hn
  injection ev with e1 e2 e3
  subst e1 e3
  refine ⟨g, rfl, hB, fun j hj => ?_, fun j => h.frozenAt j, fun j u => (h.stored j u).1⟩
  rw [h.cellAt j hj]
  have hl : j < xs.length := by rw [h.1]; exact hj
  exact ⟨xs[j], List.getElem?_eq_getElem hl⟩

set_option maxHeartbeats 1600000 in
theorem walk (A : Option Addr) (n c : Nat) (l : List (Int × Int × Int)) (hc : n ≤ c) (_ : c ≤ maxLen) (_ : Signs l) (w : World) (hs : Spans w) (hq : Sq w w.heap.size 3 n A (flat l)) : Calls Tryd.prog 9 #[.slice A n c] w fun e w' => e = .returned (.bool true) ∧ Below w.heap.size w w' := by
  obtain ⟨i0, hi, hz0, hz1, hz2⟩ := info_parts infoCell
  obtain ⟨m, hm⟩ : ∃ m : Nat, min (n : Int) 20 = (m : Int) := ⟨min n 20, by omega⟩
  have hm1 : m ≤ n := by omega
  have hm2 : m ≤ 20 := by omega
  have hlm : (l.take m).length = m := by have := hq.len; rw [flat_length] at this; rw [List.length_take]; omega
  have QT := Lib.hid (sq_take hq hm1 hc)
  have LM := Lib.hid hlm
  have S := Lib.hid hs
  clear hs hq hlm
  go_enter Tryd.func9, Tryd.ntmps9
  go_wp2_with fail
  refine (begun_walk w S.out).mono ?_
  rintro e w1 ⟨rfl, b1⟩
  have R1 := Lib.hid b1
  have hs1 := b1.size
  clear b1 S
  go_wp2_with (first
    | (at_builtin; refine wpl_app rfl _ (.tmp 14) 47 rfl w1.heap.size 50 i0 (.agg #[.int .i32 0, .int .i64 0, .int .i64 0]) 3 24 Tryd.underlying47 hi hz0 hz1 hz2 rfl (by decide) (.slice none 0 0) 0 [] rfl (World.ownsRow_nil _ _ _ _) A m c (flat (l.take m)) rfl w.heap.size (by exact QT.out.below R1.out) (flat_one _) (fit24 (by omega)).1 (fit24 (by omega)).2 (Nat.le_refl _) ?_; intro v2 w2 hown2 hg2 _; obtain ⟨A2, c2, rfl, hc2⟩ := shape_cap hown2; simp only [Nat.zero_add, List.nil_append] at hown2 hc2; have O2 := Lib.hid hown2; have G2 := Lib.hid (grown_below hg2); clear hown2 hg2)
    | (at_builtin; refine wpl_app rfl _ (.tmp 16) 47 rfl w2.heap.size 50 i0 (.agg #[.int .i32 0, .int .i64 0, .int .i64 0]) 3 24 Tryd.underlying47 hi hz0 hz1 hz2 rfl (by decide) (.slice none 0 0) 0 [] rfl (World.ownsRow_nil _ _ _ _) A2 m c2 (flat (l.take m)) rfl w2.heap.size (by exact Sq.own O2.out) (flat_one _) (fit24 (by omega)).1 (fit24 (by omega)).2 (Nat.le_refl _) ?_; intro v3 w3 hown3 hg3 _; obtain ⟨A3, c3, rfl, hc3⟩ := shape_cap hown3; simp only [Nat.zero_add, List.nil_append] at hown3 hc3; have O3 := Lib.hid hown3; have G3 := Lib.hid (grown_below hg3); clear hown3 hg3))
  have hs3 : w1.heap.size ≤ w3.heap.size := Nat.le_trans G2.out.size G3.out.size
  have O23 := own_below O2.out G3.out
  refine (trim_walk A2 m c2 hc2 (l.take m) w3 (by omega) (Sq.own O23)).mono ?_
  rintro e w4 ⟨v4, rfl, hv4, b4⟩
  obtain ⟨p, hp⟩ : ∃ p, (trimL (l.take m)).length = p := ⟨_, rfl⟩
  have hpm : p ≤ m := by have := trimL_le (l.take m); have := LM.out; omega
  unfold HasC at hv4
  rw [hp] at hv4
  obtain ⟨A4, c4, rfl⟩ := own_shape hv4
  have B4 := Lib.hid b4
  have V4 := Lib.hid hv4
  have O23H := Lib.hid O23
  clear b4 hv4 hp O23
  go_wp2_with fail
  go_loopw [22] (fun i wr => ∃ k : Nat, i = .int .i64 k ∧ k ≤ p ∧ (∃ xs, wr.ownsRow w3.heap.size 50 3 (.slice A4 p c4) p xs) ∧ Below w3.heap.size w3 wr) (fun i _ => p - (intOf i).toNat)
  case atStart => exact ⟨0, rfl, Nat.zero_le _, ⟨_, V4.out⟩, B4.out⟩
  case round =>
    obtain ⟨k, rfl, hk, ⟨xs, ho⟩, hb⟩ := hrel
    by_cases hlt : k < p
    · obtain ⟨g, rfl, hg, hcell, hfree, hset⟩ := own_cells ho (by omega)
      obtain ⟨u, hu⟩ := hcell (k * 3 + 2) (by omega)
      have hf := hfree (k * 3 + 2)
      have HS := Lib.hid hset
      have HB := Lib.hid hb
      clear hcell hfree hset hb ho
      go_wp2
      go_roundw
      case rel => exact ⟨k + 1, by go_num, by omega, ⟨_, HS.out _ _⟩, HB.out.setCell (p := ⟨g, k * 3 + 2, none⟩) hg _⟩
      case measure => simp [intOf]; omega
    · have HB := Lib.hid hb
      clear hb ho
      have q1 := Sq.own (own_below O23H.out HB.out)
      have q2 := Sq.own (own_below O3.out HB.out)
      have Q1 := Lib.hid q1
      have Q2 := Lib.hid q2
      clear q1 q2
      go_wp2_with (go_at_call 31; refine (eqc_yes A2 A3 m c2 m c3 (l.take m) _ (by omega) Q1.out Q2.out).mono ?_; rintro e w5 ⟨rfl, b5⟩)
      go_ret
      exact ⟨rfl, (R1.out.trans ((G2.out.mono hs1).trans (G3.out.mono (Nat.le_trans hs1 G2.out.size)))).trans ((HB.out.mono (Nat.le_trans hs1 hs3)).trans (b5.mono (Nat.le_trans (Nat.le_trans hs1 hs3) HB.out.size)))⟩

/-- WHAT THE WALK GIVES, FOR EVERY ARGUMENT AND EVERY WORLD THAT HOLDS THE TABLE. -/
theorem contract (H : Type) (enc : TypeId × Value → H) (W : World) (base : Nat) (args : Array Value) (ds gs : List (DataW H)) (before : List MemPlace)
    (hval : ∀ (j : Nat) t v, Tryd.f9.params[j]? = some t → args[j]? = some v → Value.okWide Tryd.prog W .any base t v)
    (hW : DataW.Whole enc Tryd.prog Tryd.f9.params.toList Rows.cellOwnSpec.vars false W args.toList ds gs before) (hL : laidMetH Tryd.prog Rows.cellOwnRow.laid W) :
    Calls Tryd.prog 9 args W fun e W' => ∃ v, e = .returned v ∧ Rows.cellOwnSpec.post enc Tryd.prog Tryd.f9 false true false false W args v W' := by
  have hW' := hW
  obtain ⟨p, q, hA0, hV, rfl, hfz, hnd⟩ := hW
  have hA : DataW.TrodAll enc Tryd.prog W 0 (fun _ => true) true Tryd.f9.params.toList args.toList ds p := hA0
  rw [Tryd.params9] at hA hval
  obtain ⟨v0, vs0, d0, ds0, p0, q0, hargs, rfl, rfl, h0, r0⟩ := trodAll_cons hA
  obtain ⟨rfl, rfl, rfl⟩ := trodAll_nil r0
  obtain rfl : args = #[v0] := by cases args; simp_all
  obtain ⟨rfl, rfl⟩ := trodVars_none hV
  obtain ⟨Ax, nx, cx, x, rfl, hcx, hmx, hrx, hqx⟩ := open_cells (hval 0 47 v0 rfl rfl) h0
  clear hA0
  refine (walk Ax nx cx x hcx hmx hrx W (spans_of hL) hqx).mono fun e W' ⟨he, hg⟩ => ?_
  subst he
  exact ⟨_, rfl, close rfl hW' ⟨rfl, rfl, rfl⟩ (by kernel_rfl) (by kernel_rfl) hg⟩

theorem laid_met (os : Os) : laidMet Tryd.prog Rows.cellOwnRow.laid ((laidWorld os).forCall (fun _ _ => 0) ⟨#[], #[.slice none 0 0], []⟩).memory :=
  laidMet_of_run' 8 (by kernel_rfl) (by kernel_rfl)
theorem reads (os : Os) {H : Type} (enc : TypeId × Value → H) : ∃ places, DataW.whole enc Tryd.prog ((laidWorld os).forCall (fun _ _ => 0) ⟨#[], #[.slice none 0 0], []⟩).memory Tryd.f9.params.toList Rows.cellOwnSpec.vars false (#[.slice none 0 0] : Array Value).toList 8 = some ([.nil], [], places) :=
  ⟨[], by kernel_rfl⟩

set_option maxRecDepth 100000 in
theorem lifted (os : Os) (started : os.Started) (H : Type) (enc : TypeId × Value → H) (F : Stop.Interp) :
    ReturnsInHanded {} Tryd.checked os 9 .any ((OpenSpec.ofChange Rows.cellOwnSpec).preRow enc Tryd.prog Tryd.f9 Rows.cellOwnRow.domain false Rows.cellOwnRow.laid) (((OpenSpec.ofChange Rows.cellOwnSpec).at F).post enc Tryd.prog Tryd.f9 false true false false) := by
  obtain ⟨places, hx⟩ := reads os enc
  refine returnsInHanded_of_row (C := Tryd.checked) (s := OpenSpec.ofChange Rows.cellOwnSpec) ownNone started (by kernel_rfl) Tryd.func9
    (witness_row_at (enc := enc) (C := Tryd.checked) false (laidWorld os) #[.slice none 0 0] rfl (by kernel_rfl) (by kernel_rfl) (by kernel_rfl)
      (OpenSpec.preRow_of_cond 8 hx (by kernel_rfl) (fun k hk => by cases hk) (by kernel_rfl) (laid_met os))) ?_
  intro W base args ds gs before hval hW _ _ _ hL _ _
  exact contract H enc W base args ds gs before hval hW hL

theorem said : Rows.CellOwnSaid :=
  OpenClaim.holds_of_cond 9 Tryd.f9 rfl rfl rfl rfl rfl rfl rfl ⟨rfl, rfl, rfl, rfl, rfl⟩ rfl rfl rfl rfl rfl (by kernel_rfl) Tryd.func9 (by kernel_rfl)
    (of_decide_eq_true (by kernel_rfl)) (by unfold Func.isWrapper; first | (rw [if_pos (by decide +kernel)]; kernel_rfl) | (rw [if_neg (by decide +kernel)]; exact ⟨rfl, rfl⟩))
    (fun os started H enc _ F => by rw [OpenClaim.pre_eq_preRow]; exact lifted os started H enc F)

/-- No parameter wants a stand-in; the program's own looks are off: what the card asks. -/
theorem plain (f : FuncId) (fn : Func) (hf : Tryd.pinned.checked.prog.funcNamed "rotulus/rotuluslaw1.CellOwn" = some f) (hfn : Tryd.pinned.checked.prog.funcs[f]? = some fn) :
    false = Tryd.pinned.checked.prog.looks [] ∧ ∀ (j : Nat) t, fn.params[j]? = some t → Tryd.pinned.checked.prog.wantsStandIn t = false := by
  obtain rfl : f = 9 := Option.some.inj ((show Tryd.prog.funcNamed "rotulus/rotuluslaw1.CellOwn" = some 9 by kernel_rfl).symm.trans hf) |>.symm
  obtain rfl : fn = Tryd.f9 := (Option.some.inj (Tryd.func9.symm.trans hfn)).symm
  refine ⟨by kernel_rfl, fun j t ht => ?_⟩
  rw [Tryd.params9] at ht
  have hm := Array.mem_of_getElem? ht
  simp at hm
  subst hm
  exact (show Tryd.prog.wantsStandIn 47 = false by kernel_rfl)

/-- THE CARD. -/
theorem card : Rows.CellOwnCardSaid :=
  Claim7.holds_tied_plain_at .later [] _ _ _ _ said (fun _ h => by cases h) (by kernel_rfl) (fun _ h => by cases h) cellOwn_row_tie rfl ⟨rfl, rfl⟩ (by kernel_rfl) rfl plain (by kernel_rfl)
end Go.Proofs.YtbhfhkmcnomggaaDoor.cellOwn
