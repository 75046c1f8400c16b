/-
  The statement LineBack: a line that is laid out and joined again is that line without the blanks at its end, alone; each of its rows is as wide as was said, may be, and goes on just where it is not the last; what is no line has no rows. For every list of cells (of which the statement reads the first forty) and every number as width; it holds where the table of widths is as its initialiser lays it, which the card ties to the program's text.
-/
import Derived.Test.YtjhmndmnhkbigaaGreatDoorQXEvZ0
import Derived.Test.YtjhmndmnhkbigaaGreatDoorQXBase0
import Derived.Test.YtjhmndmnhkbigaaGreatDoorQXLine5
import Derived.Test.YtjhmndmnhkbigaaGreatDoorQXLine6
import Derived.Test.YtjhmndmnhkbigaaGreatDoorQXBase4
namespace Go.Proofs.YtjhmndmnhkbigaaGreatDoor.lineBack
open Go.ChangeShapes Go.WideShapes Go.ChangeAt Go.RowKit
open Rw Ln
set_option maxRecDepth 100000 in
set_option maxHeartbeats 12800000 in
theorem walk (A : Option Addr) (n c : Nat) (l : List Cel) (hc : n ≤ c) (_ : c ≤ maxLen) (hl : Signs l) (x : Int) (_ : -9223372036854775808 ≤ x ∧ x ≤ 9223372036854775807) (w : World) (hs : Spans w) (hq : Sq w w.heap.size 3 n A (flat l)) :
  Calls Tryz.prog 5 #[.slice A n c, .int .i64 x] w fun e w' => e = .returned (.bool true) ∧ Below w.heap.size w w' := by
 obtain ⟨wv, hwv, hw2, hw3, ew1, ew2⟩ := width_of x 20 (by decide) (by decide)
 obtain ⟨m, hm⟩ : ∃ m : Nat, min (n : Int) 40 = (m : Int) := ⟨min n 40, by omega⟩
 have hm1 : m ≤ n := by omega
 have hm2 : m ≤ 40 := by omega
 have hmc : m ≤ c := by omega
 have hqt := sq_takeC hq hm1
 have hlm : (l.take m).length = m := by have := hq.len; rw [flat_length] at this; rw [List.length_take]; omega
 have hls : ∀ c ∈ l.take m, -2147483648 ≤ c.1 ∧ c.1 ≤ 2147483647 := fun c hc => hl c (List.mem_of_mem_take hc)
 generalize l.take m = l' at hqt hlm hls
 have S := Lib.hid hs
 have QT := Lib.hid hqt
 have LM := Lib.hid hlm
 have LS := Lib.hid hls
 have HW := Lib.hid (show 2 ≤ wv ∧ wv ≤ 300 from ⟨hw2, by omega⟩)
 clear hs hq hl hqt hlm hls hwv hw2 hw3
 go_enter Tryz.func5, Tryz.ntmps5
 go_wp2_with fail
 refine (Ev.Trues.at Ev.begun10 w S.out).mono ?_
 rintro e w1 ⟨rfl, b1⟩
 have B1 := Lib.hid b1
 have Q1 := Lib.hid ((QT.out.below b1).up b1.size)
 have S1 := Lib.hid (S.out.below b1 S.out.size)
 clear b1 QT
 have LAY := Lib.hid (layout_walk A m c l' (wv : Int) w1 S1.out LS.out Q1.out (by omega))
 go_wp2_with fail
 refine LAY.out.mono ?_
 rintro e w2 ⟨h2, h2n, b2⟩
 have B2 := Lib.hid (B1.out.trans (b2.mono B1.out.size))
 have Q2 := Lib.hid ((Q1.out.below b2).up b2.size)
 have S2 := Lib.hid (S.out.below B2.out S.out.size)
 have RL := Lib.hid (refLine_walk A m c l' w2 LS.out Q2.out (by omega))
 clear LAY Q1 S1 B1 hm
 cases hb : lineB l' with
 | false =>
  obtain rfl := h2n (by rw [hb]; simp)
  rw [hb] at RL
  clear h2 h2n b2
  go_wp2_with fail
  refine RL.out.mono ?_
  rintro e w3 ⟨rfl, b3⟩
  have B3 := Lib.hid (B2.out.trans (b3.mono B2.out.size))
  clear b3 RL
  go_wp2
  go_ret
  exact ⟨rfl, B3.out⟩
 | true =>
  have LB := Lib.hid hb
  obtain ⟨v2, rs, rfl, sh2, hm2'⟩ := h2 ⟨by have := HW.out; omega, by have := HW.out; omega, hb⟩
  rw [show ((wv : Int)).toNat = wv by simp] at sh2 hm2'
  rw [hb] at RL
  obtain ⟨A3, c3, rfl, hc3⟩ := sh2.own.shape
  obtain ⟨N, hN⟩ : ∃ N, rs.length = N := ⟨_, rfl⟩
  have hNL : (layL wv l').length = N := by rw [← hm2', List.length_map, hN]
  have hN61 : N ≤ 41 := by have := layL_len wv l'; have := LM.out; omega
  rw [hN] at sh2 hc3 ⊢
  have JN := Lib.hid (join_lay HW.out.1 HW.out.2 hb)
  have LI := Lib.hid (layL_is HW.out.1 HW.out.2 hb)
  generalize layL wv l' = L at hm2' hNL JN LI
  have SH := Lib.hid sh2
  have HM := Lib.hid hm2'
  have HN := Lib.hid hNL
  have HRN := Lib.hid hN
  have HC3 := Lib.hid hc3
  clear h2 h2n sh2 hm2' hNL hb b2 hN hc3
  go_wp2_with fail
  refine RL.out.mono ?_
  rintro e w3 ⟨rfl, b3⟩
  have B23 := Lib.hid b3
  have B3 := Lib.hid (B2.out.trans (b3.mono B2.out.size))
  have S3 := Lib.hid (S.out.below B3.out S.out.size)
  clear b3 RL
  have JW := Lib.hid (join_walk A3 N c3 rs w3 S3.out (((SH.out.own.rws).2.below B23.out).up B23.out.size) HC3.out (by omega))
  rw [HM.out, JN.out] at JW
  go_wp2_with fail
  refine JW.out.mono ?_
  rintro e w4 ⟨v4, vs4, rfl, l4, b4⟩
  obtain ⟨AJ, cJ, rfl, hcJ⟩ := own_cap l4.own
  have B34 := Lib.hid b4
  have B24 := Lib.hid (B23.out.trans (b4.mono B23.out.size))
  have B4 := Lib.hid (B3.out.trans (b4.mono B3.out.size))
  have Q4 := Lib.hid ((Q2.out.below B24.out).up B24.out.size)
  have hv1 : ∃ y, vs4 = [y] := by
   have h := l4.len
   match vs4, h with
   | [y], _ => exact ⟨y, rfl⟩
  obtain ⟨y, rfl⟩ := hv1
  have hy : HasC w4 w3.heap.size y (trimL l') := l4.each 0 y (trimL l') rfl rfl
  obtain ⟨b7, off7, e7, hb7, c7⟩ := one_at (Sq.own l4.own) (k := 0) (x := y) rfl (by simp)
  subst e7
  have HY := Lib.hid hy
  have TL1 := Lib.hid (show (trimL l').length ≤ 40 from by
   have h1 : (trimL l').length ≤ l'.length := by unfold trimL; rw [List.length_take]; omega
   have := LM.out
   omega)
  obtain ⟨Ay, cy, rfl, hcy⟩ := own_cap (show w4.ownsRow w3.heap.size 52 3 y (trimL l').length (flat (trimL l')) from hy)
  have C7 := Lib.hid c7
  have HB7 := Lib.hid hb7
  clear l4 hy b4 JW c7 hcy
  go_wp2_with fail
  have D4 : Below w4.heap.size w4 w4.drew := (Below.refl _ _).drew
  refine Ord.start (a := ?fr) (S := fun W => Below w4.drew.heap.size w4.drew W) (n := 12) (by kernel_rfl) (by kernel_rfl) (Below.refl _ _) ?_
  apply bk_region (w1 := w4.drew) (A := A) (n := m) (c := c) (b7 := b7) (o7 := off7) (c7 := cJ) (AJ := Ay) (nJ := (trimL l').length) (cJ := cy) (a0 := ?fr)
   (P1 := fun W v => ∃ Av cv, v = .slice Av (trimL l').length cv ∧ HasC W w4.heap.size v (trimL l') ∧ Below w4.drew.heap.size w4.drew W) (P2 := fun W => Below w4.drew.heap.size w4.drew W)
  case R => exact ⟨by kernel_rfl, by kernel_rfl⟩
  case hQ => exact fun _ _ _ _ _ h => h
  case k0 =>
   intro W b
   exact (b.cell (p := ⟨b7, off7 + 0, none⟩) (by exact HB7.out)).trans (C7.out)
  case C1 =>
   refine (refTrim_walk A m c hmc l' w4.drew (by omega) ((Q4.out.below D4).up D4.size)).mono ?_
   rintro e W ⟨v, rfl, hv, bv⟩
   obtain ⟨Av, cv, rfl, _⟩ := own_cap (show W.ownsRow w4.drew.heap.size 52 3 v (trimL l').length (flat (trimL l')) from hv)
   exact ⟨_, rfl, Av, cv, rfl, hv, bv⟩
  case C2 =>
   rintro W v ⟨Av, cv, rfl, hv, bv⟩
   have hyW : HasC W w3.heap.size (.slice Ay (trimL l').length cy) (trimL l') := own_laid HY.out (D4.trans bv)
   refine (eqc_yes Ay Av (trimL l').length cy (trimL l').length cv (trimL l') W (by have := TL1.out; omega) (Sq.own hyW) (Sq.own hv)).mono ?_
   rintro e W' ⟨rfl, b'⟩
   exact ⟨rfl, bv.trans (b'.mono bv.size)⟩
  case KS1 => exact fun W v ⟨_, _, _, _, b⟩ => b
  case KS2 => exact fun W b => b
  case F => exact ⟨rfl, rfl, rfl, Fr.refl _ _ _⟩
  rintro a w5 b5 F5 f44
  obtain ⟨l5, hl5, ea⟩ := F5.fr.ex (by omega) (by simp)
  match l5, hl5 with
  | [v0, v1, v2, v3, v4, v5, v6, v7, v8, v9, v10, v11], _ =>
   have h11 : v11 = .bool false := by
    rw [ea] at f44
    simpa [Chain.At] using f44
   subst h11
   rw [ea]
   clear ea F5 f44
   simp only [List.take_succ_cons, List.take_zero, List.drop_succ_cons, List.drop_zero, List.cons_append, List.nil_append]
   have B5 := Lib.hid (B4.out.trans ((D4.mono B4.out.size).trans (b5.mono (by have := B4.out.size; exact this))))
   have B25 := Lib.hid (B24.out.trans ((D4.mono B24.out.size).trans (b5.mono (by have := B24.out.size; exact this))))
   have I0 := Lib.hid (Below.refl w5.heap.size w5)
   clear b5 D4 HY C7 HB7
   go_wp2_with fail
   go_loopw [8] (fun i wr => ∃ k : Nat, i = .int .i64 (k : Int) ∧ k ≤ N ∧ Hid (Below w5.heap.size w5 wr)) (fun i _ => N - (intOf i).toNat)
   case atStart => exact ⟨0, rfl, Nat.zero_le _, I0⟩
   case round =>
    obtain ⟨i, rfl, hi, I⟩ := hrel
    clear I0
    by_cases hlti : i < N
    ·obtain ⟨⟨rA, rn, rc, rb, rl⟩, hri⟩ : ∃ r, rs[i]? = some r := ⟨_, List.getElem?_eq_getElem (by have := HRN.out; omega)⟩
     obtain ⟨b, off, g, rfl, e1, e2, e3, e4, e5, RD⟩ := SH.out.read hri
     dsimp only at e1 e2 e3 e4 e5 RD
     subst e1
     replace e2 := e2.symm
     subst e2
     have hLi : L[i]? = some (rb, rl) := by rw [← HM.out, List.getElem?_map, hri]; rfl
     obtain ⟨q, hq⟩ : ∃ q, N = q + 1 := ⟨N - 1, by omega⟩
     have hrb : rb = decide (i < q) ∧ mayL rl = true := by
      obtain ⟨done, last, h1, h2, h3, _⟩ := LI.out
      have hdl : done.length = q := by have h := HN.out; rw [h1, List.length_append, List.length_singleton] at h; omega
      refine ⟨?_, (h3 _ (List.mem_of_getElem? hLi)).2⟩
      rw [h1] at hLi
      by_cases hid : i < q
      ·rw [List.getElem?_append_left (by omega)] at hLi
       rw [show rb = true from h2 _ (List.mem_of_getElem? hLi)]
       simp [hid]
      ·have hiq : i = q := by omega
       rw [List.getElem?_append_right (by omega), hdl, hiq, Nat.sub_self] at hLi
       simp at hLi
       have h0 := hLi.1
       subst h0
       simp [hiq]
     obtain ⟨rd0, rd1, rdq⟩ := RD wr (B25.out.trans (I.out.mono B25.out.size))
     have RW := Lib.hid (refRow_walk (some ⟨g, 0, none⟩) wv rc rb rl wr e4 (rdq.up (Nat.le_trans B25.out.size I.out.size)) (by have := HW.out; omega))
     rw [hrb.2] at RW
     have hs1 : IntKind.i64.wrap ((N : Int) - 1) = (q : Int) := by rw [show (N : Int) - 1 = (q : Int) by omega]; exact IntWalk.i64_in _ (by omega)
     have hii : (i : Int) < (N : Int) := by omega
     have HRB := Lib.hid hrb.1
     have RDH := Lib.hid RD
     have HQ := Lib.hid hq
     clear hri e3 e4 hLi rdq RD hrb hq
     go_wp2_with fail
     refine RW.out.mono ?_
     rintro e w7 ⟨rfl, b7⟩
     have I7 := Lib.hid (I.out.trans (b7.mono I.out.size))
     have rd3 := (RDH.out w7 (B25.out.trans (I7.out.mono B25.out.size))).2.1
     clear b7 RW rd0 rd1
     by_cases hid : i < q
     ·have hrt : rb = true := by rw [HRB.out]; simp [hid]
      have hiq : (i : Int) < (q : Int) := by omega
      subst hrt
      clear HRB
      go_wp2_with fail
      go_roundw
      case rel => exact ⟨i + 1, by go_num, by omega, I7⟩
      case measure => simp [intOf]; omega
     ·have hrt : rb = false := by rw [HRB.out]; simp [hid]
      have hiq : ¬ (i : Int) < (q : Int) := by omega
      subst hrt
      clear HRB
      go_wp2_with fail
      go_roundw
      case rel => exact ⟨i + 1, by go_num, by omega, I7⟩
      case measure => simp [intOf]; omega
    ·obtain rfl : i = N := by omega
     go_wp2
     go_ret
     exact ⟨rfl, B5.out.trans (I.out.mono B5.out.size)⟩
set_option maxRecDepth 100000 in
theorem contract (H : Type) (enc : TypeId × Value → H) (W : World) (base : Nat) (args : Array Value) (ds gs : List (DataW H)) (before : List MemPlace)
  (hval : ∀ (j : Nat) t v, Tryz.f5.params[j]? = some t → args[j]? = some v → Value.okWide Tryz.prog W .any base t v)
  (hW : DataW.Whole enc Tryz.prog Tryz.f5.params.toList Rows.lineBackSpec.vars false W args.toList ds gs before) (hL : laidMetH Tryz.prog Rows.lineBackRow.laid W) :
  Calls Tryz.prog 5 args W fun e W' => ∃ v, e = .returned v ∧ Rows.lineBackSpec.post enc Tryz.prog Tryz.f5 false true false false W args v W' := by
 have hW' := hW
 obtain ⟨p, q, hA0, hV, rfl, hfz, hnd⟩ := hW
 have hA : DataW.TrodAll enc Tryz.prog W 0 (fun _ => true) true Tryz.f5.params.toList args.toList ds p := hA0
 rw [Tryz.params5] at hA hval
 obtain ⟨v0, vs0, d0, ds0, p0, q0, hargs, rfl, rfl, h0, r0⟩ := trodAll_cons hA
 obtain ⟨v1, vs1, d1, ds1, p1, q1, rfl, rfl, rfl, h1, r1⟩ := trodAll_cons r0
 obtain ⟨rfl, rfl, rfl⟩ := trodAll_nil r1
 obtain rfl : args = #[v0, v1] := by cases args; simp_all
 obtain ⟨rfl, rfl⟩ := trodVars_none hV
 obtain ⟨Ax, nx, cx, x, rfl, hcx, hmx, hrx, hqx⟩ := open_cells (hval 0 41 v0 rfl rfl) h0
 obtain ⟨y, rfl, rfl, rfl, wy⟩ := open_int Tryz.underlying3 (hval 1 3 v1 rfl rfl) h1
 clear hA0
 refine (walk Ax nx cx x hcx hmx hrx y (wf_i64 wy) W (spans_of hL) hqx).mono fun e W' ⟨he, hg⟩ => ?_
 subst he
 exact ⟨_, rfl, close rfl hW' ⟨rfl, rfl, rfl⟩ (by kernel_rfl) (by kernel_rfl) hg⟩
set_option maxRecDepth 100000 in
theorem laid_met (os : Os) : laidMet Tryz.prog Rows.lineBackRow.laid ((laidWorld os).forCall (fun _ _ => 0) ⟨#[], #[.slice none 0 0, .int .i64 0], []⟩).memory :=
 laidMet_of_run' 8 (by kernel_rfl) (by kernel_rfl)
set_option maxRecDepth 100000 in
theorem reads (os : Os) {H : Type} (enc : TypeId × Value → H) : ∃ places, DataW.whole enc Tryz.prog ((laidWorld os).forCall (fun _ _ => 0) ⟨#[], #[.slice none 0 0, .int .i64 0], []⟩).memory Tryz.f5.params.toList Rows.lineBackSpec.vars false (#[.slice none 0 0, .int .i64 0] : Array Value).toList 8 = some ([.nil, .lit (.int .i64 0)], [], places) :=
 ⟨[], by kernel_rfl⟩
set_option maxRecDepth 100000 in
theorem lifted (os : Os) (started : os.Started) (H : Type) (enc : TypeId × Value → H) (F : Stop.Interp) :
  ReturnsInHanded {} Tryz.checked os 5 .any ((OpenSpec.ofChange Rows.lineBackSpec).preRow enc Tryz.prog Tryz.f5 Rows.lineBackRow.domain false Rows.lineBackRow.laid) (((OpenSpec.ofChange Rows.lineBackSpec).at F).post enc Tryz.prog Tryz.f5 false true false false) := by
 obtain ⟨places, hx⟩ := reads os enc
 refine returnsInHanded_of_row (C := Tryz.checked) (s := OpenSpec.ofChange Rows.lineBackSpec) ownNone started (by kernel_rfl) Tryz.func5
  (witness_row_at (enc := enc) (C := Tryz.checked) false (laidWorld os) #[.slice none 0 0, .int .i64 0] rfl (by kernel_rfl) (by kernel_rfl) (by kernel_rfl)
   (OpenSpec.preRow_of_cond 8 hx (by kernel_rfl) (fun k hk => by cases hk) (by kernel_rfl) (laid_met os))) ?_
 intro W base args ds gs before hval hW _ _ _ hL _ _
 exact contract H enc W base args ds gs before hval hW hL
set_option maxRecDepth 100000 in
set_option maxHeartbeats 0 in
theorem facts : joinedFacts Tryz.checked.prog 5 Tryz.f5 (OpenSpec.ofChange Rows.lineBackSpec).bare Rows.lineBackRow = true := by
 have h1 := Sum.tables.1
 have h2 := Sum.tables.2.1
 have h3 := Sum.tables.2.2
 have h4 := Sum.mayEnter
 have e1 : Rows.lineBackRow.lifted = Rows.lineAllRow.lifted := by kernel_rfl
 have e2 : Rows.lineBackRow.make = Rows.lineAllRow.make := by kernel_rfl
 have h5 : (Rows.lineBackRow.lifted == Tryz.checked.prog.liftsFinal) = true := by rw [e1]; exact Sum.lifts
 have h6 : (Tryz.checked.prog.make == some Rows.lineBackRow.make) = true := by rw [e2]; exact Sum.make
 unfold joinedFacts
 repeat' (with_reducible refine Sum.and_mk ?_ ?_)
 all_goals first
  | with_reducible exact h1
  | with_reducible exact h2
  | with_reducible exact h4
  | with_reducible exact h5
  | with_reducible exact h6
  | (rw [h3]; as_aux_lemma => kernel_rfl)
  | (clear h1 h2 h3 h4 h5 h6 e1 e2; as_aux_lemma => kernel_rfl)
set_option maxRecDepth 100000 in
theorem said : Rows.LineBackSaid :=
 OpenClaim.holds_of_cond 5 Tryz.f5 rfl rfl rfl rfl rfl rfl rfl ⟨rfl, rfl, rfl, rfl, rfl⟩ rfl rfl rfl rfl rfl (by kernel_rfl) Tryz.func5 facts
  (of_decide_eq_true (by kernel_rfl)) (by unfold Func.isWrapper; first | (rw [if_pos (by decide +kernel)]; kernel_rfl) | (rw [if_neg (by decide +kernel)]; exact ⟨rfl, rfl⟩))
  (fun os started H enc _ F => by rw [OpenClaim.pre_eq_preRow]; exact lifted os started H enc F)
set_option maxRecDepth 100000 in
theorem plain (f : FuncId) (fn : Func) (hf : Tryz.pinned.checked.prog.funcNamed "rotulus/rotuluslaw10.LineBack" = some f) (hfn : Tryz.pinned.checked.prog.funcs[f]? = some fn) :
  false = Tryz.pinned.checked.prog.looks [] ∧ ∀ (j : Nat) t, fn.params[j]? = some t → Tryz.pinned.checked.prog.wantsStandIn t = false := by
 obtain rfl : f = 5 := Option.some.inj ((show Tryz.prog.funcNamed "rotulus/rotuluslaw10.LineBack" = some 5 by kernel_rfl).symm.trans hf) |>.symm
 obtain rfl : fn = Tryz.f5 := (Option.some.inj (Tryz.func5.symm.trans hfn)).symm
 refine ⟨by kernel_rfl, fun j t ht => ?_⟩
 rw [Tryz.params5] at ht
 have hm := Array.mem_of_getElem? ht
 simp at hm
 rcases hm with rfl | rfl
 ·exact (show Tryz.prog.wantsStandIn 41 = false by kernel_rfl)
 ·exact (show Tryz.prog.wantsStandIn 3 = false by kernel_rfl)
set_option maxRecDepth 100000 in
theorem card : Rows.LineBackCardSaid :=
 Claim7.holds_tied_plain_at .later [] _ _ _ _ said (fun _ h => by cases h) (by kernel_rfl) (fun _ h => by cases h) lineBack_row_tie rfl ⟨rfl, rfl⟩ (by kernel_rfl) rfl plain (by kernel_rfl)
end Go.Proofs.YtjhmndmnhkbigaaGreatDoor.lineBack
