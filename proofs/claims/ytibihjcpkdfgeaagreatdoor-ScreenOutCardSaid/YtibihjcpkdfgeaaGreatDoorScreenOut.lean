/-
  The statement ScreenOut: line feeds: the rows that go out at the top, and where the cursor stands. For every pair of integers (the height is taken modulo 9, the number of line feeds modulo 40); it holds where the table of widths is as its initialiser lays it, which the card ties to the program's text.
-/
import Derived.Test.YtibihjcpkdfgeaaGreatDoorQBegun0
import Derived.Test.YtibihjcpkdfgeaaGreatDoorQBase1
import Derived.Test.YtibihjcpkdfgeaaGreatDoorQSum0
import Derived.Test.YtibihjcpkdfgeaaGreatDoorQScr0
namespace Go.Proofs.YtibihjcpkdfgeaaGreatDoor.screenOut
open Go.ChangeShapes Go.WideShapes Go.ChangeAt Go.RowKit
open Sc

theorem mod_range (x : Int) (m : Int) (hm : 0 < m) : -m < x.tmod m ∧ x.tmod m < m := by
  have h1 := Int.tmod_lt_of_pos x hm
  have h2 := Int.tmod_lt_of_pos (-x) hm
  rw [Int.neg_tmod] at h2
  omega
/-- A screen beside what stood before it. -/
structure Wp (w0 : World) (p g : Nat) (s : Scr) (xs : List RowIn) (W : World) : Prop where
  old : Below w0.heap.size w0 W
  p0 : w0.heap.size ≤ p
  g0 : w0.heap.size ≤ g
  scr : ScAt W p g s xs
  spans : Spans W
theorem Wp.step {w0 W W' : World} {p g : Nat} {s s' : Scr} {xs xs' : List RowIn} (h : Wp w0 p g s xs W) (hs : ScAt W' p g s' xs') (hw : Went W W' p g xs xs') : Wp w0 p g s' xs' W' :=
  ⟨h.old.trans (hw.turned.toBelow h.old.size (fun k hk m => by have := h.p0; have := h.g0; omega)), h.p0, h.g0, hs, spans_went h.spans h.scr hw⟩
/-- A screen of h rows after i line feeds. -/
structure Lf (h i : Nat) (s : Scr) : Prop where
  len : s.rows.length = h
  row : s.r = min i (h - 1)
theorem Lf.step {h i : Nat} {s : Scr} (L : Lf h i s) (h1 : 1 ≤ h) : Lf h (i + 1) (ctrlS s 10) ∧ i + 1 - (h - 1) = i - (h - 1) + (ctrlO s 10).length := by
  have eS : ctrlS s 10 = downS (leaveS s) := rfl
  have eO : ctrlO s 10 = downO (leaveS s) := rfl
  have hl : (leaveS s).rows.length = h := L.len
  have hr : (leaveS s).r = min i (h - 1) := L.row
  rw [eS, eO]
  unfold downS downO
  by_cases hc : (leaveS s).r + 1 < (leaveS s).rows.length
  · rw [if_pos hc, if_pos hc]
    refine ⟨⟨hl, ?_⟩, ?_⟩
    · show (leaveS s).r + 1 = min (i + 1) (h - 1)
      omega
    · simp only [List.length_nil]
      omega
  · rw [if_neg hc, if_neg hc]
    refine ⟨⟨?_, ?_⟩, ?_⟩
    · simp only [List.length_append, List.length_drop, List.length_cons, List.length_nil]
      omega
    · show (leaveS s).r = min (i + 1) (h - 1)
      omega
    · rw [List.length_take]
      omega
set_option maxRecDepth 100000 in
set_option maxHeartbeats 6400000 in
theorem lf_walk {p g : Nat} {s : Scr} {xs : List RowIn} (w : World) (h : ScAt w p g s xs) : Calls Tryz.prog 87 #[ptrS p, .int .i32 10] w fun e w' => Sc.Told p g (ctrlS s 10) (ctrlO s 10) s.w xs w e w' := by
  have LE := Lib.hid (leaveEnd_walk w h)
  have eS : ctrlS s 10 = downS (leaveS s) := rfl
  have eO : ctrlO s 10 = downO (leaveS s) := rfl
  rw [eS, eO]
  clear h eS eO
  go_enter Tryz.func87, Tryz.ntmps87
  go_wp2_with fail
  refine LE.out.mono ?_
  rintro e w2 ⟨⟨_, rfl⟩, ys, h2, hw2⟩
  have DW := Lib.hid (down_walk w2 h2)
  have W2 := Lib.hid hw2
  clear LE h2 hw2
  go_wp2_with fail
  refine DW.out.mono ?_
  rintro e w3 ⟨v, zs, xs', rfl, t3⟩
  have T := Lib.hid (show Sc.Told p g (downS (leaveS s)) (downO (leaveS s)) s.w xs w (.returned v) w3 from Told.behind ⟨v, zs, xs', rfl, t3⟩ W2.out)
  clear DW W2 t3
  go_wp2
  go_ret
  exact T.out
theorem Wp.lf {w0 W : World} {p g : Nat} {s : Scr} {xs : List RowIn} (h : Wp w0 p g s xs W) (str : ByteArray) :
    Calls Tryz.prog 50 #[ptrS p, .agg #[.int .i64 2, .int .i32 10, .slice none 0 0, .string str]] W fun e W' => ∃ A c xs', e = .returned (.slice A (ctrlO s 10).length c) ∧ Wp w0 p g (ctrlS s 10) xs' W' := by
  refine (do_walk 2 10 none 0 0 str [] W h.scr (fun e => absurd e (by decide)) (fun _ W1 hb => lf_walk W1 (h.scr.laid hb)) (fun e => absurd e (by decide))).mono ?_
  rintro e W' ⟨v, ys, xs', rfl, h3, went, hr, ho, _⟩
  have ho' : ys.map sr = ctrlO s 10 := ho
  obtain ⟨A, c, rfl, _⟩ := hr.shape
  exact ⟨A, c, xs', by rw [← ho', List.length_map], h.step h3 went⟩
set_option maxRecDepth 100000 in
set_option maxHeartbeats 6400000 in
theorem walk (x : Int) (hx : -9223372036854775808 ≤ x ∧ x ≤ 9223372036854775807) (y : Int) (hy : -9223372036854775808 ≤ y ∧ y ≤ 9223372036854775807) (w : World) (hs : Spans w) :
    Calls Tryz.prog 20 #[.int .i64 x, .int .i64 y] w fun e w' => e = .returned (.bool true) ∧ Below w.heap.size w w' := by
  have tx := (And.intro (And.intro hx hy) (mod_range x 9 (by omega))).2
  have ty := mod_range y 40 (by omega)
  have ux := mod_range (x.tmod 9 + 9) 9 (by omega)
  have uy := mod_range (y.tmod 40 + 40) 40 (by omega)
  have px := Int.tmod_nonneg 9 (show 0 ≤ x.tmod 9 + 9 by omega)
  have py := Int.tmod_nonneg 40 (show 0 ≤ y.tmod 40 + 40 by omega)
  obtain ⟨h, hh⟩ : ∃ h : Nat, 1 + (x.tmod 9 + 9).tmod 9 = (h : Int) := ⟨(1 + (x.tmod 9 + 9).tmod 9).toNat, by omega⟩
  obtain ⟨n, hn⟩ : ∃ n : Nat, (y.tmod 40 + 40).tmod 40 = (n : Int) := ⟨((y.tmod 40 + 40).tmod 40).toNat, by omega⟩
  have h1 : 1 ≤ h := by omega
  have h9 : h ≤ 9 := by omega
  have n40 : n < 40 := by omega
  have e1 : IntKind.i64.wrap (x.tmod 9 + 9) = x.tmod 9 + 9 := IntWalk.i64_in _ (by omega)
  have e2 : IntKind.i64.wrap (1 + (x.tmod 9 + 9).tmod 9) = (h : Int) := by rw [hh]; exact IntWalk.i64_in _ (by omega)
  have e3 : IntKind.i64.wrap (y.tmod 40 + 40) = y.tmod 40 + 40 := IntWalk.i64_in _ (by omega)
  have S := Lib.hid hs
  have START : Lf h 0 (newS 5 (h : Int)) := ⟨by simp only [newS, List.length_replicate]; omega, by simp [newS]⟩
  clear hs hx hy
  go_enter Tryz.func20, Tryz.ntmps20
  go_wp2_with fail
  refine (Bg.begun7_walk w S.out).mono ?_
  rintro e w1 ⟨rfl, b1⟩
  have B1 := Lib.hid (And.intro (S.out.below b1 S.out.size) b1)
  clear b1 tx ty ux uy px py
  go_wp2_with fail
  refine (new_walk 5 (h : Int) w1).mono ?_
  rintro e w3 ⟨p, g, xs, rfl, h3, hp, hg, hx3, b3⟩
  have I0 := Lib.hid (show ∃ s xs, Lf h 0 s ∧ Wp w p g s xs w3 from ⟨_, xs, START, ⟨B1.out.2.trans (b3.mono B1.out.2.size), by have := B1.out.2.size; omega, by have := B1.out.2.size; omega, h3, B1.out.1.below b3 B1.out.1.size⟩⟩)
  clear h3 hp hg hx3 b3 B1 S START
  go_wp2_with fail
  go_loopw [7, 8] (fun o i wr => ∃ k m : Nat, o = .int .i64 m ∧ i = .int .i64 k ∧ k ≤ n ∧ m = k - (h - 1) ∧ Hid (∃ s xs, Lf h k s ∧ Wp w p g s xs wr)) (fun _ i _ => n - (intOf i).toNat)
  case atStart => exact ⟨0, 0, rfl, rfl, Nat.zero_le _, by omega, I0⟩
  case round =>
    obtain ⟨k, m, rfl, rfl, hk, hm, I⟩ := hrel
    clear I0
    by_cases hlt : k < n
    · obtain ⟨s, xs, LF, WP⟩ := I.out
      have PW := Lib.hid (WP.lf .empty)
      obtain ⟨L2, hq⟩ := LF.step h1
      obtain ⟨q, hqq⟩ : ∃ q, (ctrlO s 10).length = q := ⟨_, rfl⟩
      rw [hqq] at PW hq
      have R1 := Lib.hid L2
      have hinc : IntKind.i64.wrap ((k : Int) + 1) = (k : Int) + 1 := IntWalk.i64_in _ (by omega)
      have hsum : IntKind.i64.wrap ((m : Int) + (q : Int)) = ((m + q : Nat) : Int) := by rw [show (m : Int) + (q : Int) = ((m + q : Nat) : Int) by omega]; exact IntWalk.i64_in _ (by omega)
      clear LF WP I L2 hqq
      go_wp2_with fail
      refine PW.out.mono ?_
      rintro e w4 ⟨A, c, xs', rfl, W4⟩
      have I4 := Lib.hid (show ∃ s xs, Lf h (k + 1) s ∧ Wp w p g s xs w4 from ⟨_, _, R1.out, W4⟩)
      clear PW R1 W4
      go_wp2
      go_roundw
      case rel => exact ⟨k + 1, m + q, by first | rfl | (congr 1; omega), by go_num, by omega, by omega, I4⟩
      case measure => simp [intOf]; omega
    · obtain rfl : k = n := by omega
      obtain ⟨s, xs, LF, WP⟩ := I.out
      clear I
      have CW := Lib.hid (cursor_walk wr WP.scr)
      obtain ⟨r, hr⟩ : ∃ r, s.r = r := ⟨_, rfl⟩
      have hrow := LF.row
      rw [hr] at hrow CW
      have P := Lib.hid WP.old
      clear LF WP
      have g1 : IntKind.i64.wrap ((h : Int) - 1) = (h : Int) - 1 := IntWalk.i64_in _ (by omega)
      have g2 : IntKind.i64.wrap ((k : Int) - ((h : Int) - 1)) = (k : Int) - ((h : Int) - 1) := IntWalk.i64_in _ (by omega)
      have g3 : max 0 ((k : Int) - ((h : Int) - 1)) = (m : Int) := by omega
      have g4 : min (k : Int) ((h : Int) - 1) = (r : Int) := by omega
      go_wp2_with fail
      refine CW.out.mono ?_
      rintro e w5 ⟨rfl, b5⟩
      have P5 := Lib.hid (P.out.trans (b5.mono P.out.size))
      clear CW b5
      have hF : ∀ (a b : Value) (w : World), (Instr.field 79 (.agg #[a, b]) 0).run Tryz.prog w = .ok a w := fun a b w => by first | rfl | kernel_rfl | go_simp
      go_wp2
      go_ret
      exact ⟨rfl, P5.out⟩

-- WHAT THE WALK GIVES, FOR EVERY ARGUMENT AND EVERY WORLD THAT HOLDS THE TABLE.
set_option maxRecDepth 100000 in
theorem contract (H : Type) (enc : TypeId × Value → H) (W : World) (base : Nat) (args : Array Value) (ds gs : List (DataW H)) (before : List MemPlace)
    (hval : ∀ (j : Nat) t v, Tryz.f20.params[j]? = some t → args[j]? = some v → Value.okWide Tryz.prog W .any base t v)
    (hW : DataW.Whole enc Tryz.prog Tryz.f20.params.toList Rows.screenOutSpec.vars false W args.toList ds gs before) (hL : laidMetH Tryz.prog Rows.screenOutRow.laid W) :
    Calls Tryz.prog 20 args W fun e W' => ∃ v, e = .returned v ∧ Rows.screenOutSpec.post enc Tryz.prog Tryz.f20 false true false false W args v W' := by
  have hW' := hW
  obtain ⟨p, q, hA0, hV, rfl, hfz, hnd⟩ := hW
  have hA : DataW.TrodAll enc Tryz.prog W 0 (fun _ => true) true Tryz.f20.params.toList args.toList ds p := hA0
  rw [Tryz.params20] at hA hval
  obtain ⟨v0, vs0, d0, ds0, p0, q0, hargs, rfl, rfl, h0, r0⟩ := trodAll_cons hA
  obtain ⟨v1, vs1, d1, ds1, p1, q1, rfl, rfl, rfl, h1, r1⟩ := trodAll_cons r0
  obtain ⟨rfl, rfl, rfl⟩ := trodAll_nil r1
  obtain rfl : args = #[v0, v1] := by cases args; simp_all
  obtain ⟨rfl, rfl⟩ := trodVars_none hV
  obtain ⟨x, rfl, rfl, rfl, wx⟩ := open_int Tryz.underlying3 (hval 0 3 v0 rfl rfl) h0
  obtain ⟨y, rfl, rfl, rfl, wy⟩ := open_int Tryz.underlying3 (hval 1 3 v1 rfl rfl) h1
  clear hA0
  refine (walk x (wf_i64 wx) y (wf_i64 wy) W (spans_of hL) ).mono fun e W' ⟨he, hg⟩ => ?_
  subst he
  exact ⟨_, rfl, close rfl hW' ⟨rfl, rfl, rfl⟩ (by kernel_rfl) (by kernel_rfl) hg⟩

set_option maxRecDepth 100000 in
theorem laid_met (os : Os) : laidMet Tryz.prog Rows.screenOutRow.laid ((laidWorld os).forCall (fun _ _ => 0) ⟨#[], #[.int .i64 0, .int .i64 0], []⟩).memory :=
  laidMet_of_run' 8 (by kernel_rfl) (by kernel_rfl)
set_option maxRecDepth 100000 in
theorem reads (os : Os) {H : Type} (enc : TypeId × Value → H) : ∃ places, DataW.whole enc Tryz.prog ((laidWorld os).forCall (fun _ _ => 0) ⟨#[], #[.int .i64 0, .int .i64 0], []⟩).memory Tryz.f20.params.toList Rows.screenOutSpec.vars false (#[.int .i64 0, .int .i64 0] : Array Value).toList 8 = some ([.lit (.int .i64 0), .lit (.int .i64 0)], [], places) :=
  ⟨[], by kernel_rfl⟩

set_option maxRecDepth 100000 in
theorem lifted (os : Os) (started : os.Started) (H : Type) (enc : TypeId × Value → H) (F : Stop.Interp) :
    ReturnsInHanded {} Tryz.checked os 20 .any ((OpenSpec.ofChange Rows.screenOutSpec).preRow enc Tryz.prog Tryz.f20 Rows.screenOutRow.domain false Rows.screenOutRow.laid) (((OpenSpec.ofChange Rows.screenOutSpec).at F).post enc Tryz.prog Tryz.f20 false true false false) := by
  obtain ⟨places, hx⟩ := reads os enc
  refine returnsInHanded_of_row (C := Tryz.checked) (s := OpenSpec.ofChange Rows.screenOutSpec) ownNone started (by kernel_rfl) Tryz.func20
    (witness_row_at (enc := enc) (C := Tryz.checked) false (laidWorld os) #[.int .i64 0, .int .i64 0] rfl (by kernel_rfl) (by kernel_rfl) (by kernel_rfl)
      (OpenSpec.preRow_of_cond 8 hx (by kernel_rfl) (fun k hk => by cases hk) (by kernel_rfl) (laid_met os))) ?_
  intro W base args ds gs before hval hW _ _ _ hL _ _
  exact contract H enc W base args ds gs before hval hW hL

-- What the card asks of the program and of the row.
set_option maxRecDepth 100000 in
set_option maxHeartbeats 0 in
theorem facts : joinedFacts Tryz.checked.prog 20 Tryz.f20 (OpenSpec.ofChange Rows.screenOutSpec).bare Rows.screenOutRow = true := by
  have h1 := Sum.tables.1
  have h2 := Sum.tables.2.1
  have h3 := Sum.tables.2.2
  have h4 := Sum.mayEnter
  have e1 : Rows.screenOutRow.lifted = Rows.escAllRow.lifted := by kernel_rfl
  have e2 : Rows.screenOutRow.make = Rows.escAllRow.make := by kernel_rfl
  have h5 : (Rows.screenOutRow.lifted == Tryz.checked.prog.liftsFinal) = true := by rw [e1]; exact Sum.lifts
  have h6 : (Tryz.checked.prog.make == some Rows.screenOutRow.make) = true := by rw [e2]; exact Sum.make
  unfold joinedFacts
  repeat' (with_reducible refine Sum.and_mk ?_ ?_)
  all_goals first
    | with_reducible exact h1
    | with_reducible exact h2
    | with_reducible exact h4
    | with_reducible exact h5
    | with_reducible exact h6
    | (rw [h3]; as_aux_lemma => kernel_rfl)
    | (clear h1 h2 h3 h4 h5 h6 e1 e2; as_aux_lemma => kernel_rfl)

set_option maxRecDepth 100000 in
theorem said : Rows.ScreenOutSaid :=
  OpenClaim.holds_of_cond 20 Tryz.f20 rfl rfl rfl rfl rfl rfl rfl ⟨rfl, rfl, rfl, rfl, rfl⟩ rfl rfl rfl rfl rfl (by kernel_rfl) Tryz.func20 facts
    (of_decide_eq_true (by kernel_rfl)) (by unfold Func.isWrapper; first | (rw [if_pos (by decide +kernel)]; kernel_rfl) | (rw [if_neg (by decide +kernel)]; exact ⟨rfl, rfl⟩))
    (fun os started H enc _ F => by rw [OpenClaim.pre_eq_preRow]; exact lifted os started H enc F)

-- No parameter wants a stand-in; the program's own looks are off: what the card asks.
set_option maxRecDepth 100000 in
theorem plain (f : FuncId) (fn : Func) (hf : Tryz.pinned.checked.prog.funcNamed "rotulus/rotuluslaw7.ScreenOut" = some f) (hfn : Tryz.pinned.checked.prog.funcs[f]? = some fn) :
    false = Tryz.pinned.checked.prog.looks [] ∧ ∀ (j : Nat) t, fn.params[j]? = some t → Tryz.pinned.checked.prog.wantsStandIn t = false := by
  obtain rfl : f = 20 := Option.some.inj ((show Tryz.prog.funcNamed "rotulus/rotuluslaw7.ScreenOut" = some 20 by kernel_rfl).symm.trans hf) |>.symm
  obtain rfl : fn = Tryz.f20 := (Option.some.inj (Tryz.func20.symm.trans hfn)).symm
  refine ⟨by kernel_rfl, fun j t ht => ?_⟩
  rw [Tryz.params20] at ht
  have hm := Array.mem_of_getElem? ht
  simp at hm
  subst hm
  exact (show Tryz.prog.wantsStandIn 3 = false by kernel_rfl)

-- The card.
set_option maxRecDepth 100000 in
theorem card : Rows.ScreenOutCardSaid :=
  Claim7.holds_tied_plain_at .later [] _ _ _ _ said (fun _ h => by cases h) (by kernel_rfl) (fun _ h => by cases h) screenOut_row_tie rfl ⟨rfl, rfl⟩ (by kernel_rfl) rfl plain (by kernel_rfl)
end Go.Proofs.YtibihjcpkdfgeaaGreatDoor.screenOut
