/-
  The statement CellWide: a sign has as many cells as it is wide; they may be; the first one has the sign; with a wrong attribute there are none. For every sign and every attribute; it holds where the table of widths is as its initialiser lays it, which the card ties to the program's text.
-/
import Derived.Test.YtbhfhkmcnomggabDoorFrame
import Derived.Test.YtbhfhkmcnomggabDoorArgs
import Derived.Test.YtbhfhkmcnomggabDoorRefWidth
namespace Go.Proofs.YtbhfhkmcnomggabDoor.cellWide
open Go.ChangeShapes Go.WideShapes Go.ChangeAt Go.RowKit

theorem ofL_out (r a : Int) (h : a < 0 ∨ 255 < a) : ofL r a = [] := by
  have hm : mayA a = false := by unfold mayA; by_cases h : 0 ≤ a <;> simp [h]; omega
  simp [ofL, hm]
theorem mayA_in {a : Int} (h0 : 0 ≤ a) (h1 : a ≤ 255) : mayA a = true := by simp [mayA, h0, h1]
theorem ofL_length (r a : Int) (h0 : 0 ≤ a) (h1 : a ≤ 255) : ((ofL r a).length : Int) = wof r := by
  have hr := wof_range r
  have hw : wof r = 0 ∨ wof r = 1 ∨ wof r = 2 := by omega
  rcases hw with e | e | e <;> simp [ofL, mayA_in h0 h1, e]
theorem ofL_first (r a : Int) (h0 : 0 ≤ a) (h1 : a ≤ 255) (hp : 0 < (ofL r a).length) : (ofL r a)[0]? = some (r, wof r, a) := by
  have hr := wof_range r
  have hw : wof r = 0 ∨ wof r = 1 ∨ wof r = 2 := by omega
  rcases hw with e | e | e
  · simp [ofL, e] at hp
  · simp [ofL, mayA_in h0 h1, e]
  · simp [ofL, mayA_in h0 h1, e]
theorem ofL_parts (r a : Int) (hr0 : -2147483648 ≤ r) (hr1 : r ≤ 2147483647) (h0 : 0 ≤ a) (h1 : a ≤ 255) (c : Int × Int × Int) (hc : c ∈ ofL r a) : (c = (0, 0, a) ∨ Good c) ∧ isB 0 c.1 c.2.1 c.2.2 = false ∧ c.2.2 = a := by
  have hr := wof_range r
  have hw : wof r = 0 ∨ wof r = 1 ∨ wof r = 2 := by omega
  rcases hw with e | e | e
  · simp [ofL, e] at hc
  · simp [ofL, mayA_in h0 h1, e] at hc
    subst hc
    have hz : (r == 0) = false := by
      by_cases hr : r = 0
      · subst hr; exact absurd e (by decide)
      · simpa using hr
    exact ⟨.inr ⟨⟨hr0, hr1⟩, e, .inl rfl, h0, h1⟩, by simp [isB, hz], rfl⟩
  · simp [ofL, mayA_in h0 h1, e] at hc
    rcases hc with rfl | rfl
    · exact ⟨.inr ⟨⟨hr0, hr1⟩, e, .inr rfl, h0, h1⟩, by simp [isB], rfl⟩
    · exact ⟨.inl rfl, by simp [isB], rfl⟩
theorem shape_cap {w : World} {B : Nat} {e : TypeId} {s n : Nat} {v : Value} {xs : List Value} (h : w.ownsRow B e s v n xs) : ∃ A c, v = .slice A n c ∧ n ≤ c := by
  rcases h.2 with ⟨rfl, h0⟩ | ⟨g, cap, cur, rfl, _, _, hc, _⟩
  · rw [h0]; exact ⟨_, _, rfl, Nat.le_refl _⟩
  · exact ⟨_, _, rfl, hc⟩

set_option maxHeartbeats 1600000 in
theorem walk (x : Int) (hx : -2147483648 ≤ x ∧ x ≤ 2147483647) (y : Int) (_ : -9223372036854775808 ≤ y ∧ y ≤ 9223372036854775807) (w : World) (hs : Spans w) : Calls Tryd.prog 4 #[.int .i32 x, .int .i64 y] w fun e w' => e = .returned (.bool true) ∧ Below w.heap.size w w' := by
  have S := Lib.hid hs
  clear hs
  by_cases hy : 0 ≤ y ∧ y ≤ 255
  · obtain ⟨hy0, hy1⟩ := hy
    obtain ⟨l, hl⟩ : ∃ l, ofL x y = l := ⟨_, rfl⟩
    have hlen := ofL_length x y hy0 hy1
    have hfirst := ofL_first x y hy0 hy1
    have hparts := ofL_parts x y hx.1 hx.2 hy0 hy1
    rw [hl] at hlen hfirst hparts
    obtain ⟨n, hn⟩ : ∃ n, l.length = n := ⟨_, rfl⟩
    rw [hn] at hlen hfirst
    have hwr := wof_range x
    have hn2 : n ≤ 2 := by omega
    have HL := Lib.hid hl
    have HN := Lib.hid hn
    have LE := Lib.hid hlen
    have FI := Lib.hid hfirst
    have PA := Lib.hid hparts
    clear hl hn hlen hfirst hparts hwr
    go_enter Tryd.func4, Tryd.ntmps4
    go_wp2_with fail
    refine (begun_walk w S.out).mono ?_
    rintro e w1 ⟨rfl, b1⟩
    have S1 := Lib.hid (S.out.below b1 S.out.size)
    have R1 := Lib.hid b1
    have hs1 := b1.size
    clear b1 S
    go_wp2_with fail
    refine (cellOf_walk x y hx.1 hx.2 w1 S1.out).mono ?_
    rintro e w2 ⟨v2, rfl, hv2, b2⟩
    rw [HL.out] at hv2
    unfold HasC at hv2
    rw [HN.out] at hv2
    obtain ⟨A2, c2, rfl, _⟩ := shape_cap hv2
    have V2 := Lib.hid hv2
    have B2 := Lib.hid b2
    have hs2 := b2.size
    clear hv2 b2
    go_wp2_with fail
    have RW := refWidth_walk x hx.1 hx.2 w2
    rw [← LE.out] at RW
    refine RW.mono ?_
    rintro e w3 ⟨rfl, b3⟩
    have B3 := Lib.hid b3
    have hs3 := b3.size
    clear b3 RW
    go_wp2_with fail
    go_loopw [7] (fun i wr => ∃ k : Nat, i = .int .i64 k ∧ k ≤ n ∧ Below w3.heap.size w3 wr) (fun i _ => n - (intOf i).toNat)
    case atStart => exact ⟨0, rfl, Nat.zero_le _, Below.refl _ _⟩
    case round =>
      obtain ⟨k, rfl, hk, hb⟩ := hrel
      have hsz := hb.size
      have Q3 := Lib.hid (((Sq.own V2.out).below (B3.out.trans (hb.mono hs3))).up (Nat.le_trans hs3 hsz))
      have SK := Lib.hid (S1.out.below (B2.out.trans ((B3.out.mono hs2).trans (hb.mono (Nat.le_trans hs2 hs3)))) S1.out.size)
      have HB := Lib.hid hb
      clear hb
      by_cases hlt : k < n
      · obtain ⟨b, off, rfl, hbl, ⟨r', n', a'⟩, hcc, q0, q1, q2⟩ := Q3.out.three hlt
        obtain ⟨hg, hpad, ha⟩ := PA.out _ (List.mem_of_getElem? hcc)
        simp only at ha hpad hg
        subst ha
        have MY : Calls Tryd.prog 10 #[cellV r' n' a'] wr fun e w' => e = .returned (.bool true) ∧ Below wr.heap.size wr w' := by
          rcases hg with hg | hg
          · injection hg with g1 g2
            injection g2 with g2 g3
            subst g1 g2
            exact may_half a' hy0 hy1 wr
          · exact may_sign r' n' a' hy0 hy1 hg.sign.1 hg.sign.2 hg.wide hg.two wr SK.out
        have PD := fun w => isPad_walk r' n' a' w
        rw [hpad] at PD
        have MH := Lib.hid MY
        have PH := Lib.hid PD
        clear MY PD hg hpad hcc
        go_wp2_with (first
          | (go_at_call 10; refine MH.out.mono ?_; rintro e w5 ⟨rfl, b5⟩; have p0 : w5.cell? ⟨b, off + k * 3, none⟩ = some (.int .i32 r') := (b5.cell (p := ⟨b, off + k * 3, none⟩) hbl).trans q0; have p1 : w5.cell? ⟨b, off + k * 3 + 1, none⟩ = some (.int .i64 n') := (b5.cell (p := ⟨b, off + k * 3 + 1, none⟩) hbl).trans q1; have p2 : w5.cell? ⟨b, off + k * 3 + 2, none⟩ = some (.int .i64 a') := (b5.cell (p := ⟨b, off + k * 3 + 2, none⟩) hbl).trans q2; have B5 := Lib.hid b5; clear b5)
          | (go_at_call 11; refine (PH.out _).mono ?_; rintro e w6 ⟨rfl, b6⟩; have B6 := Lib.hid b6; clear b6))
        go_roundw
        case rel => exact ⟨k + 1, by go_num, by omega, (HB.out.trans (B5.out.mono hsz)).trans (B6.out.mono (Nat.le_trans hsz B5.out.size))⟩
        case measure => simp [intOf]; omega
      · have R := Lib.hid (R1.out.trans ((B2.out.mono hs1).trans ((B3.out.mono (Nat.le_trans hs1 hs2)).trans (HB.out.mono (Nat.le_trans hs1 (Nat.le_trans hs2 hs3))))))
        rcases Nat.eq_zero_or_pos n with hz | hp
        · subst hz
          go_wp2
          go_ret
          exact ⟨rfl, R.out⟩
        · obtain ⟨b, off, rfl, _, ⟨r', n', a'⟩, hcc, q0, q1, q2⟩ := Q3.out.three hp
          rw [FI.out hp] at hcc
          simp only [Option.some.injEq, Prod.mk.injEq] at hcc
          obtain ⟨rfl, hn', rfl⟩ := hcc
          rw [← LE.out] at hn'
          subst hn'
          simp only [Nat.zero_mul, Nat.add_zero] at q0 q1 q2
          go_wp2
          go_ret
          exact ⟨rfl, R.out⟩
  · have hy' : y < 0 ∨ 255 < y := by omega
    have E := Lib.hid (ofL_out x y hy')
    clear hy
    rcases hy' with hy | hy
    all_goals
      first | have hy2 : decide (255 < y) = true := by (simp; omega) | skip
      first | have hy3 : 0 ≤ y := by omega | skip
      go_enter Tryd.func4, Tryd.ntmps4
      go_wp2_with fail
      refine (begun_walk w S.out).mono ?_
      rintro e w1 ⟨rfl, b1⟩
      have S1 := Lib.hid (S.out.below b1 S.out.size)
      have R1 := Lib.hid b1
      clear b1 S
      go_wp2_with fail
      refine (cellOf_walk x y hx.1 hx.2 w1 S1.out).mono ?_
      rintro e w2 ⟨v2, rfl, hv2, b2⟩
      rw [E.out] at hv2
      obtain ⟨A2, c2, rfl, _⟩ := shape_cap (show w2.ownsRow w1.heap.size 31 3 v2 0 [] from hv2)
      have B2 := Lib.hid (R1.out.trans (b2.mono R1.out.size))
      clear hv2 b2
      go_wp2
      go_ret
      exact ⟨rfl, B2.out⟩

/-- WHAT THE WALK GIVES, FOR EVERY ARGUMENT AND EVERY WORLD THAT HOLDS THE TABLE. -/
theorem contract (H : Type) (enc : TypeId × Value → H) (W : World) (base : Nat) (args : Array Value) (ds gs : List (DataW H)) (before : List MemPlace)
    (hval : ∀ (j : Nat) t v, Tryd.f4.params[j]? = some t → args[j]? = some v → Value.okWide Tryd.prog W .any base t v)
    (hW : DataW.Whole enc Tryd.prog Tryd.f4.params.toList Rows.cellWideSpec.vars false W args.toList ds gs before) (hL : laidMetH Tryd.prog Rows.cellWideRow.laid W) :
    Calls Tryd.prog 4 args W fun e W' => ∃ v, e = .returned v ∧ Rows.cellWideSpec.post enc Tryd.prog Tryd.f4 false true false false W args v W' := by
  have hW' := hW
  obtain ⟨p, q, hA0, hV, rfl, hfz, hnd⟩ := hW
  have hA : DataW.TrodAll enc Tryd.prog W 0 (fun _ => true) true Tryd.f4.params.toList args.toList ds p := hA0
  rw [Tryd.params4] at hA hval
  obtain ⟨v0, vs0, d0, ds0, p0, q0, hargs, rfl, rfl, h0, r0⟩ := trodAll_cons hA
  obtain ⟨v1, vs1, d1, ds1, p1, q1, rfl, rfl, rfl, h1, r1⟩ := trodAll_cons r0
  obtain ⟨rfl, rfl, rfl⟩ := trodAll_nil r1
  obtain rfl : args = #[v0, v1] := by cases args; simp_all
  obtain ⟨rfl, rfl⟩ := trodVars_none hV
  obtain ⟨x, rfl, rfl, rfl, wx⟩ := open_int Tryd.underlying21 (hval 0 21 v0 rfl rfl) h0
  obtain ⟨y, rfl, rfl, rfl, wy⟩ := open_int Tryd.underlying3 (hval 1 3 v1 rfl rfl) h1
  clear hA0
  refine (walk x (wf_i32 wx) y (wf_i64 wy) W (spans_of hL) ).mono fun e W' ⟨he, hg⟩ => ?_
  subst he
  exact ⟨_, rfl, close rfl hW' ⟨rfl, rfl, rfl⟩ (by kernel_rfl) (by kernel_rfl) hg⟩

theorem laid_met (os : Os) : laidMet Tryd.prog Rows.cellWideRow.laid ((laidWorld os).forCall (fun _ _ => 0) ⟨#[], #[.int .i32 0, .int .i64 0], []⟩).memory :=
  laidMet_of_run' 8 (by kernel_rfl) (by kernel_rfl)
theorem reads (os : Os) {H : Type} (enc : TypeId × Value → H) : ∃ places, DataW.whole enc Tryd.prog ((laidWorld os).forCall (fun _ _ => 0) ⟨#[], #[.int .i32 0, .int .i64 0], []⟩).memory Tryd.f4.params.toList Rows.cellWideSpec.vars false (#[.int .i32 0, .int .i64 0] : Array Value).toList 8 = some ([.lit (.int .i32 0), .lit (.int .i64 0)], [], places) :=
  ⟨[], by kernel_rfl⟩

set_option maxRecDepth 100000 in
theorem lifted (os : Os) (started : os.Started) (H : Type) (enc : TypeId × Value → H) (F : Stop.Interp) :
    ReturnsInHanded {} Tryd.checked os 4 .any ((OpenSpec.ofChange Rows.cellWideSpec).preRow enc Tryd.prog Tryd.f4 Rows.cellWideRow.domain false Rows.cellWideRow.laid) (((OpenSpec.ofChange Rows.cellWideSpec).at F).post enc Tryd.prog Tryd.f4 false true false false) := by
  obtain ⟨places, hx⟩ := reads os enc
  refine returnsInHanded_of_row (C := Tryd.checked) (s := OpenSpec.ofChange Rows.cellWideSpec) ownNone started (by kernel_rfl) Tryd.func4
    (witness_row_at (enc := enc) (C := Tryd.checked) false (laidWorld os) #[.int .i32 0, .int .i64 0] rfl (by kernel_rfl) (by kernel_rfl) (by kernel_rfl)
      (OpenSpec.preRow_of_cond 8 hx (by kernel_rfl) (fun k hk => by cases hk) (by kernel_rfl) (laid_met os))) ?_
  intro W base args ds gs before hval hW _ _ _ hL _ _
  exact contract H enc W base args ds gs before hval hW hL

theorem said : Rows.CellWideSaid :=
  OpenClaim.holds_of_cond 4 Tryd.f4 rfl rfl rfl rfl rfl rfl rfl ⟨rfl, rfl, rfl, rfl, rfl⟩ rfl rfl rfl rfl rfl (by kernel_rfl) Tryd.func4 (by kernel_rfl)
    (of_decide_eq_true (by kernel_rfl)) (by unfold Func.isWrapper; first | (rw [if_pos (by decide +kernel)]; kernel_rfl) | (rw [if_neg (by decide +kernel)]; exact ⟨rfl, rfl⟩))
    (fun os started H enc _ F => by rw [OpenClaim.pre_eq_preRow]; exact lifted os started H enc F)

/-- No parameter wants a stand-in; the program's own looks are off: what the card asks. -/
theorem plain (f : FuncId) (fn : Func) (hf : Tryd.pinned.checked.prog.funcNamed "rotulus/rotuluslaw1.CellWide" = some f) (hfn : Tryd.pinned.checked.prog.funcs[f]? = some fn) :
    false = Tryd.pinned.checked.prog.looks [] ∧ ∀ (j : Nat) t, fn.params[j]? = some t → Tryd.pinned.checked.prog.wantsStandIn t = false := by
  obtain rfl : f = 4 := Option.some.inj ((show Tryd.prog.funcNamed "rotulus/rotuluslaw1.CellWide" = some 4 by kernel_rfl).symm.trans hf) |>.symm
  obtain rfl : fn = Tryd.f4 := (Option.some.inj (Tryd.func4.symm.trans hfn)).symm
  refine ⟨by kernel_rfl, fun j t ht => ?_⟩
  rw [Tryd.params4] at ht
  have hm := Array.mem_of_getElem? ht
  simp at hm
  rcases hm with rfl | rfl
  · exact (show Tryd.prog.wantsStandIn 21 = false by kernel_rfl)
  · exact (show Tryd.prog.wantsStandIn 3 = false by kernel_rfl)

/-- THE CARD. -/
theorem card : Rows.CellWideCardSaid :=
  Claim7.holds_tied_plain_at .later [] _ _ _ _ said (fun _ h => by cases h) (by kernel_rfl) (fun _ h => by cases h) cellWide_row_tie rfl ⟨rfl, rfl⟩ (by kernel_rfl) rfl plain (by kernel_rfl)
end Go.Proofs.YtbhfhkmcnomggabDoor.cellWide
