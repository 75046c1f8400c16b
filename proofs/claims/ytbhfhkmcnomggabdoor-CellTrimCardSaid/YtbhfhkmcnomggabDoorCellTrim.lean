/-
  The statement CellTrim: what Trim leaves of a list of cells has no Blank at its end, nothing but Blanks went, and a second Trim changes nothing. For every list of cells (the statement looks at the first forty); it holds where the table of widths is as its initialiser lays it, which the card ties to the program's text.
-/
import Derived.Test.YtbhfhkmcnomggabDoorFrame
import Derived.Test.YtbhfhkmcnomggabDoorArgs
import Derived.Test.YtbhfhkmcnomggabDoorEqc
namespace Go.Proofs.YtbhfhkmcnomggabDoor.cellTrim
open Go.ChangeShapes Go.WideShapes Go.ChangeAt Go.RowKit

theorem shape_cap {w : World} {B : Nat} {e : TypeId} {s n : Nat} {v : Value} {xs : List Value} (h : w.ownsRow B e s v n xs) : ∃ A c, v = .slice A n c ∧ n ≤ c := by
  rcases h.2 with ⟨rfl, h0⟩ | ⟨g, cap, cur, rfl, _, _, hc, _⟩
  · rw [h0]; exact ⟨_, _, rfl, Nat.le_refl _⟩
  · exact ⟨_, _, rfl, hc⟩
theorem sq_take {w : World} {B n m : Nat} {A : Option Addr} {l : List (Int × Int × Int)} (hq : Sq w B 3 n A (flat l)) (hm : m ≤ n) : Sq w B 3 m A (flat (l.take m)) := by
  have hl := hq.len
  rw [flat_length] at hl
  refine ⟨by rw [flat_length, List.length_take]; omega, fun h => ?_⟩
  obtain ⟨b, off, e, hb, hcell⟩ := hq.spot (by omega)
  refine ⟨b, off, e, hb, fun j u hu => hcell j u ?_⟩
  rw [flat_take, List.getElem?_take] at hu
  split at hu
  · exact hu
  · cases hu
/-- Behind what stays there are blanks alone. -/
theorem trimN_blank (l : List (Int × Int × Int)) : ∀ n, n ≤ l.length → ∀ i (hi : i < l.length), trimN l n ≤ i → i < n → blankC l[i] = true
  | 0, _, i, _, _, h => absurd h (Nat.not_lt_zero i)
  | n + 1, hn, i, hi, h1, h2 => by
    have hg : l[n]? = some l[n] := List.getElem?_eq_getElem (by omega)
    cases hb : blankC l[n]
    · rw [trimN_no hg hb] at h1; omega
    · rw [trimN_yes hg hb] at h1
      rcases Nat.lt_or_eq_of_le (Nat.le_of_lt_succ h2) with h3 | h3
      · exact trimN_blank l n (by omega) i hi h1 h3
      · subst h3; exact hb
/-- The last one that stays is no blank. -/
theorem trimN_last (l : List (Int × Int × Int)) : ∀ n, n ≤ l.length → ∀ p (hp : p < l.length), trimN l n = p + 1 → blankC l[p] = false
  | 0, _, p, _, h => by simp [trimN] at h
  | n + 1, hn, p, hp, h => by
    have hg : l[n]? = some l[n] := List.getElem?_eq_getElem (by omega)
    cases hb : blankC l[n]
    · rw [trimN_no hg hb] at h
      have e : n = p := by omega
      subst e
      exact hb
    · rw [trimN_yes hg hb] at h
      exact trimN_last l n (by omega) p hp h
theorem trimL_two (l : List (Int × Int × Int)) : trimL (trimL l) = trimL l := by
  have hle := trimN_le l l.length
  have hlen : (trimL l).length = trimN l l.length := by unfold trimL; rw [List.length_take]; omega
  have key : trimN (trimL l) (trimL l).length = (trimL l).length := by
    rw [hlen]
    cases hp : trimN l l.length with
    | zero => rfl
    | succ p =>
      have hpl : p < l.length := by omega
      have hb := trimN_last l l.length (Nat.le_refl _) p hpl hp
      have hpt : p < (trimL l).length := by omega
      have hg : (trimL l)[p]? = some l[p] := by
        unfold trimL
        rw [List.getElem?_take, if_pos (by omega), List.getElem?_eq_getElem hpl]
      exact trimN_no hg hb
  have e : trimL (trimL l) = (trimL l).take (trimN (trimL l) (trimL l).length) := rfl
  rw [e, key]
  exact List.take_length
theorem own_below {w w' : World} {B : Nat} {e : TypeId} {s n : Nat} {v : Value} {xs : List Value} (h : w.ownsRow B e s v n xs) (hb : Below w.heap.size w w') : w'.ownsRow B e s v n xs :=
  h.kept (row := none) ⟨hb.os, hb.tape, hb.output, hb.size, fun k hk _ => hb.block k hk⟩ (by cases hv : v.ownBlock <;> simp)
theorem trimL_take (l : List (Int × Int × Int)) : l.take (trimL l).length = trimL l := by
  have hle := trimN_le l l.length
  have hlen : (trimL l).length = trimN l l.length := by unfold trimL; rw [List.length_take]; omega
  rw [hlen]; rfl

set_option maxHeartbeats 1600000 in
theorem walk (A : Option Addr) (n c : Nat) (l : List (Int × Int × Int)) (hc : n ≤ c) (_ : c ≤ maxLen) (_ : Signs l) (w : World) (hs : Spans w) (hq : Sq w w.heap.size 3 n A (flat l)) : Calls Tryd.prog 5 #[.slice A n c] w fun e w' => e = .returned (.bool true) ∧ Below w.heap.size w w' := by
  obtain ⟨m, hm⟩ : ∃ m : Nat, min (n : Int) 40 = (m : Int) := ⟨min n 40, by omega⟩
  have hm1 : m ≤ n := by omega
  have hm2 : m ≤ 40 := by omega
  have hlm : (l.take m).length = m := by have := hq.len; rw [flat_length] at this; rw [List.length_take]; omega
  have hqt := sq_take hq hm1
  have hmc : m ≤ c := by omega
  obtain ⟨l', hl'⟩ : ∃ l', l.take m = l' := ⟨_, rfl⟩
  rw [hl'] at hlm hqt
  have QT := Lib.hid hqt
  have LM := Lib.hid hlm
  have S := Lib.hid hs
  clear hs hq hlm hqt hl'
  go_enter Tryd.func5, Tryd.ntmps5
  go_wp2_with fail
  refine (begun_walk w S.out).mono ?_
  rintro e w1 ⟨rfl, b1⟩
  have hs1 := b1.size
  have Q1 := Lib.hid ((QT.out.below b1).up hs1)
  have R1 := Lib.hid b1
  clear b1 S
  go_wp2_with fail
  refine (trim_walk A m c hmc l' w1 (by omega) Q1.out).mono ?_
  rintro e w4 ⟨v4, rfl, hv4, b4⟩
  obtain ⟨p, hp⟩ : ∃ p, (trimL l').length = p := ⟨_, rfl⟩
  have hpN : trimN l' l'.length = p := by
    have := trimN_le l' l'.length
    unfold trimL at hp
    rw [List.length_take] at hp
    omega
  have hpm : p ≤ m := by have := trimN_le l' l'.length; have := LM.out; omega
  unfold HasC at hv4
  rw [hp] at hv4
  obtain ⟨A4, c4, rfl, hpc⟩ := shape_cap hv4
  have hs4 := b4.size
  have htk : l'.take p = trimL l' := by rw [← hp]; exact trimL_take l'
  have V4 := Lib.hid hv4
  have B4 := Lib.hid b4
  have HP := Lib.hid hp
  have HN := Lib.hid hpN
  have TK := Lib.hid htk
  clear hv4 b4 hp hpN hm htk
  have qt4 : Sq w4 w4.heap.size 3 p A (flat (trimL l')) := by
    rw [← TK.out]
    exact sq_take ((Q1.out.below B4.out).up hs4) hpm
  have QT4 := Lib.hid qt4
  clear qt4
  by_cases hp0 : 0 < p
  · obtain ⟨g, cg, ev, _, hg, hglt, hcells⟩ := own_at V4.out hp0
    injection ev with e1 e2 e3
    subst e1 e3
    have q4 := Sq.own V4.out
    obtain ⟨b, off, e4, _, ⟨r, k, a⟩, hcc, k0, k1, k2⟩ := q4.three (show p - 1 < p by omega)
    injection e4 with e4
    injection e4 with e5 e6 e7
    subst e5 e6
    simp only [Nat.zero_add] at k0 k1 k2
    have hpl : p - 1 < l'.length := by have := LM.out; omega
    have hlast := trimN_last l' l'.length (Nat.le_refl _) (p - 1) hpl (by have := HN.out; omega)
    have hget : (trimL l')[p - 1]? = some l'[p - 1] := by rw [← TK.out, List.getElem?_take, if_pos (by omega), List.getElem?_eq_getElem hpl]
    rw [hget] at hcc
    injection hcc with hcc
    rw [hcc] at hlast
    have SG := fun w => isBlank_walk r k a w
    rw [show isB 32 r k a = false from hlast] at SG
    have SGH := Lib.hid SG
    clear q4 hcells hlast hget hcc SG
    have hmp : decide (m < p) = false := by simp; omega
    go_wp2_with (go_at_call 13; refine (SGH.out _).mono ?_; rintro e w5 ⟨rfl, b5⟩)
    refine (eqc_yes (some ⟨g, 0, none⟩) A p c4 p c (trimL l') w5 (by omega) (((Sq.own V4.out).below b5).up b5.size) ((QT4.out.below b5).up b5.size)).mono ?_
    rintro e w6 ⟨rfl, b6⟩
    have R6 := Lib.hid (b5.trans (b6.mono b5.size))
    clear b5 b6
    have B46 : Below w1.heap.size w1 w6 := B4.out.trans (R6.out.mono hs4)
    have B6 := Lib.hid B46
    clear B46
    go_wp2_with fail
    go_loopw [5] (fun i wr => ∃ k : Nat, i = .int .i64 k ∧ p ≤ k ∧ k ≤ m ∧ Below w6.heap.size w6 wr) (fun i _ => m - (intOf i).toNat)
    case atStart => exact ⟨p, by go_num, Nat.le_refl _, hpm, Below.refl _ _⟩
    case round =>
      obtain ⟨k, rfl, hk0, hk, hb⟩ := hrel
      have hsz : w6.heap.size ≤ wr.heap.size := hb.size
      have h16 : w1.heap.size ≤ w6.heap.size := B6.out.size
      have HB := Lib.hid hb
      clear hb
      by_cases hlt : k < m
      · obtain ⟨b, off, rfl, _, ⟨r', k', a'⟩, hcc', q0, q1, q2⟩ := ((Q1.out.below B6.out).below (HB.out.mono h16)).three hlt
        have hkl : k < l'.length := by have := LM.out; omega
        have hbk := trimN_blank l' l'.length (Nat.le_refl _) k hkl (by have := HN.out; omega) hkl
        rw [List.getElem?_eq_getElem hkl] at hcc'
        injection hcc' with hcc'
        rw [hcc'] at hbk
        have SG2 := fun w => isBlank_walk r' k' a' w
        rw [show isB 32 r' k' a' = true from hbk] at SG2
        have SGH2 := Lib.hid SG2
        clear hbk hcc' SG2
        go_wp2_with (go_at_call 13; refine (SGH2.out _).mono ?_; rintro e w7 ⟨rfl, b7⟩)
        go_roundw
        case rel => exact ⟨k + 1, by go_num, by omega, by omega, HB.out.trans (b7.mono hsz)⟩
        case measure => simp [intOf]; omega
      · have h46 : w4.heap.size ≤ w6.heap.size := R6.out.size
        have BK : Below w4.heap.size w4 wr := R6.out.trans (HB.out.mono h46)
        have qk := (Sq.own V4.out).below BK
        have QK := Lib.hid (qk.up (Nat.le_trans h46 hsz))
        have BKH := Lib.hid BK
        clear BK qk
        go_wp2_with fail
        refine (trim_walk (some ⟨g, 0, none⟩) p c4 hpc (trimL l') wr (by omega) QK.out).mono ?_
        rintro e w8 ⟨v8, rfl, hv8, b8⟩
        rw [trimL_two] at hv8
        unfold HasC at hv8
        rw [HP.out] at hv8
        obtain ⟨A8, c8, rfl, _⟩ := shape_cap hv8
        have V8 := Lib.hid hv8
        have B8 := Lib.hid b8
        clear hv8 b8
        go_wp2_with fail
        refine (eqc_yes A8 (some ⟨g, 0, none⟩) p c8 p c4 (trimL l') w8 (by omega) (Sq.own V8.out) ((QK.out.below B8.out).up B8.out.size)).mono ?_
        rintro e w9 ⟨rfl, b9⟩
        have R9 := Lib.hid (R1.out.trans ((B6.out.mono hs1).trans ((HB.out.mono (Nat.le_trans hs1 h16)).trans ((B8.out.mono (Nat.le_trans hs1 (Nat.le_trans h16 hsz))).trans (b9.mono (Nat.le_trans hs1 (Nat.le_trans h16 (Nat.le_trans hsz B8.out.size))))))))
        clear b9
        go_wp2
        go_ret
        exact ⟨rfl, R9.out⟩
  · obtain rfl : p = 0 := by omega
    clear hp0
    have hmp : decide ((m : Int) < 0) = false := by simp
    go_wp2_with fail
    refine (eqc_yes A4 A 0 c4 0 c (trimL l') w4 (by omega) (Sq.own V4.out) QT4.out).mono ?_
    rintro e w6 ⟨rfl, b6⟩
    have R6 := Lib.hid b6
    clear b6
    have B46 : Below w1.heap.size w1 w6 := B4.out.trans (R6.out.mono hs4)
    have B6 := Lib.hid B46
    clear B46
    go_wp2_with fail
    go_loopw [5] (fun i wr => ∃ k : Nat, i = .int .i64 k ∧ 0 ≤ k ∧ k ≤ m ∧ Below w6.heap.size w6 wr) (fun i _ => m - (intOf i).toNat)
    case atStart => exact ⟨0, by go_num, Nat.le_refl _, hpm, Below.refl _ _⟩
    case round =>
      obtain ⟨k, rfl, hk0, hk, hb⟩ := hrel
      have hsz : w6.heap.size ≤ wr.heap.size := hb.size
      have h16 : w1.heap.size ≤ w6.heap.size := B6.out.size
      have HB := Lib.hid hb
      clear hb
      by_cases hlt : k < m
      · obtain ⟨b, off, rfl, _, ⟨r', k', a'⟩, hcc', q0, q1, q2⟩ := ((Q1.out.below B6.out).below (HB.out.mono h16)).three hlt
        have hkl : k < l'.length := by have := LM.out; omega
        have hbk := trimN_blank l' l'.length (Nat.le_refl _) k hkl (by have := HN.out; omega) hkl
        rw [List.getElem?_eq_getElem hkl] at hcc'
        injection hcc' with hcc'
        rw [hcc'] at hbk
        have SG2 := fun w => isBlank_walk r' k' a' w
        rw [show isB 32 r' k' a' = true from hbk] at SG2
        have SGH2 := Lib.hid SG2
        clear hbk hcc' SG2
        go_wp2_with (go_at_call 13; refine (SGH2.out _).mono ?_; rintro e w7 ⟨rfl, b7⟩)
        go_roundw
        case rel => exact ⟨k + 1, by go_num, by omega, by omega, HB.out.trans (b7.mono hsz)⟩
        case measure => simp [intOf]; omega
      · have h46 : w4.heap.size ≤ w6.heap.size := R6.out.size
        have BK : Below w4.heap.size w4 wr := R6.out.trans (HB.out.mono h46)
        have qk := (Sq.own V4.out).below BK
        have QK := Lib.hid (qk.up (Nat.le_trans h46 hsz))
        have BKH := Lib.hid BK
        clear BK qk
        go_wp2_with fail
        refine (trim_walk A4 0 c4 hpc (trimL l') wr (by omega) QK.out).mono ?_
        rintro e w8 ⟨v8, rfl, hv8, b8⟩
        rw [trimL_two] at hv8
        unfold HasC at hv8
        rw [HP.out] at hv8
        obtain ⟨A8, c8, rfl, _⟩ := shape_cap hv8
        have V8 := Lib.hid hv8
        have B8 := Lib.hid b8
        clear hv8 b8
        go_wp2_with fail
        refine (eqc_yes A8 A4 0 c8 0 c4 (trimL l') w8 (by omega) (Sq.own V8.out) ((QK.out.below B8.out).up B8.out.size)).mono ?_
        rintro e w9 ⟨rfl, b9⟩
        have R9 := Lib.hid (R1.out.trans ((B6.out.mono hs1).trans ((HB.out.mono (Nat.le_trans hs1 h16)).trans ((B8.out.mono (Nat.le_trans hs1 (Nat.le_trans h16 hsz))).trans (b9.mono (Nat.le_trans hs1 (Nat.le_trans h16 (Nat.le_trans hsz B8.out.size))))))))
        clear b9
        go_wp2
        go_ret
        exact ⟨rfl, R9.out⟩

/-- WHAT THE WALK GIVES, FOR EVERY ARGUMENT AND EVERY WORLD THAT HOLDS THE TABLE. -/
theorem contract (H : Type) (enc : TypeId × Value → H) (W : World) (base : Nat) (args : Array Value) (ds gs : List (DataW H)) (before : List MemPlace)
    (hval : ∀ (j : Nat) t v, Tryd.f5.params[j]? = some t → args[j]? = some v → Value.okWide Tryd.prog W .any base t v)
    (hW : DataW.Whole enc Tryd.prog Tryd.f5.params.toList Rows.cellTrimSpec.vars false W args.toList ds gs before) (hL : laidMetH Tryd.prog Rows.cellTrimRow.laid W) :
    Calls Tryd.prog 5 args W fun e W' => ∃ v, e = .returned v ∧ Rows.cellTrimSpec.post enc Tryd.prog Tryd.f5 false true false false W args v W' := by
  have hW' := hW
  obtain ⟨p, q, hA0, hV, rfl, hfz, hnd⟩ := hW
  have hA : DataW.TrodAll enc Tryd.prog W 0 (fun _ => true) true Tryd.f5.params.toList args.toList ds p := hA0
  rw [Tryd.params5] at hA hval
  obtain ⟨v0, vs0, d0, ds0, p0, q0, hargs, rfl, rfl, h0, r0⟩ := trodAll_cons hA
  obtain ⟨rfl, rfl, rfl⟩ := trodAll_nil r0
  obtain rfl : args = #[v0] := by cases args; simp_all
  obtain ⟨rfl, rfl⟩ := trodVars_none hV
  obtain ⟨Ax, nx, cx, x, rfl, hcx, hmx, hrx, hqx⟩ := open_cells (hval 0 26 v0 rfl rfl) h0
  clear hA0
  refine (walk Ax nx cx x hcx hmx hrx W (spans_of hL) hqx).mono fun e W' ⟨he, hg⟩ => ?_
  subst he
  exact ⟨_, rfl, close rfl hW' ⟨rfl, rfl, rfl⟩ (by kernel_rfl) (by kernel_rfl) hg⟩

theorem laid_met (os : Os) : laidMet Tryd.prog Rows.cellTrimRow.laid ((laidWorld os).forCall (fun _ _ => 0) ⟨#[], #[.slice none 0 0], []⟩).memory :=
  laidMet_of_run' 8 (by kernel_rfl) (by kernel_rfl)
theorem reads (os : Os) {H : Type} (enc : TypeId × Value → H) : ∃ places, DataW.whole enc Tryd.prog ((laidWorld os).forCall (fun _ _ => 0) ⟨#[], #[.slice none 0 0], []⟩).memory Tryd.f5.params.toList Rows.cellTrimSpec.vars false (#[.slice none 0 0] : Array Value).toList 8 = some ([.nil], [], places) :=
  ⟨[], by kernel_rfl⟩

set_option maxRecDepth 100000 in
theorem lifted (os : Os) (started : os.Started) (H : Type) (enc : TypeId × Value → H) (F : Stop.Interp) :
    ReturnsInHanded {} Tryd.checked os 5 .any ((OpenSpec.ofChange Rows.cellTrimSpec).preRow enc Tryd.prog Tryd.f5 Rows.cellTrimRow.domain false Rows.cellTrimRow.laid) (((OpenSpec.ofChange Rows.cellTrimSpec).at F).post enc Tryd.prog Tryd.f5 false true false false) := by
  obtain ⟨places, hx⟩ := reads os enc
  refine returnsInHanded_of_row (C := Tryd.checked) (s := OpenSpec.ofChange Rows.cellTrimSpec) ownNone started (by kernel_rfl) Tryd.func5
    (witness_row_at (enc := enc) (C := Tryd.checked) false (laidWorld os) #[.slice none 0 0] rfl (by kernel_rfl) (by kernel_rfl) (by kernel_rfl)
      (OpenSpec.preRow_of_cond 8 hx (by kernel_rfl) (fun k hk => by cases hk) (by kernel_rfl) (laid_met os))) ?_
  intro W base args ds gs before hval hW _ _ _ hL _ _
  exact contract H enc W base args ds gs before hval hW hL

theorem said : Rows.CellTrimSaid :=
  OpenClaim.holds_of_cond 5 Tryd.f5 rfl rfl rfl rfl rfl rfl rfl ⟨rfl, rfl, rfl, rfl, rfl⟩ rfl rfl rfl rfl rfl (by kernel_rfl) Tryd.func5 (by kernel_rfl)
    (of_decide_eq_true (by kernel_rfl)) (by unfold Func.isWrapper; first | (rw [if_pos (by decide +kernel)]; kernel_rfl) | (rw [if_neg (by decide +kernel)]; exact ⟨rfl, rfl⟩))
    (fun os started H enc _ F => by rw [OpenClaim.pre_eq_preRow]; exact lifted os started H enc F)

/-- No parameter wants a stand-in; the program's own looks are off: what the card asks. -/
theorem plain (f : FuncId) (fn : Func) (hf : Tryd.pinned.checked.prog.funcNamed "rotulus/rotuluslaw1.CellTrim" = some f) (hfn : Tryd.pinned.checked.prog.funcs[f]? = some fn) :
    false = Tryd.pinned.checked.prog.looks [] ∧ ∀ (j : Nat) t, fn.params[j]? = some t → Tryd.pinned.checked.prog.wantsStandIn t = false := by
  obtain rfl : f = 5 := Option.some.inj ((show Tryd.prog.funcNamed "rotulus/rotuluslaw1.CellTrim" = some 5 by kernel_rfl).symm.trans hf) |>.symm
  obtain rfl : fn = Tryd.f5 := (Option.some.inj (Tryd.func5.symm.trans hfn)).symm
  refine ⟨by kernel_rfl, fun j t ht => ?_⟩
  rw [Tryd.params5] at ht
  have hm := Array.mem_of_getElem? ht
  simp at hm
  subst hm
  exact (show Tryd.prog.wantsStandIn 26 = false by kernel_rfl)

/-- THE CARD. -/
theorem card : Rows.CellTrimCardSaid :=
  Claim7.holds_tied_plain_at .later [] _ _ _ _ said (fun _ h => by cases h) (by kernel_rfl) (fun _ h => by cases h) cellTrim_row_tie rfl ⟨rfl, rfl⟩ (by kernel_rfl) rfl plain (by kernel_rfl)
end Go.Proofs.YtbhfhkmcnomggabDoor.cellTrim
