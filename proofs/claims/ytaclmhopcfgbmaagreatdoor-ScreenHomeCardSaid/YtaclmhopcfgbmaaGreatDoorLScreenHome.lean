/-
  The statement ScreenHome: whatever text was fed, all erased and the cursor at home is as a new screen is, but for the attribute. For every text (of which the statement reads the first 150 bytes); it holds where the table of widths is as its initialiser lays it, which the card ties to the program's text.
-/
import Derived.Test.YtaclmhopcfgbmaaGreatDoorQBegun0
import Derived.Test.YtaclmhopcfgbmaaGreatDoorQBase4
import Derived.Test.YtaclmhopcfgbmaaGreatDoorQSum0
import Derived.Test.YtaclmhopcfgbmaaGreatDoorQLaw1
namespace Go.Proofs.YtaclmhopcfgbmaaGreatDoor.screenHome
open Go.ChangeShapes Go.WideShapes Go.ChangeAt Go.RowKit
open Sc Rw
theorem home {s : Scr} (h : Sc.Ok s) (hw : s.w = 9) (hh : s.rows.length = 4) : (doS (doS s 3 74 [2]) 3 72 []).rows = (newS 9 4).rows ∧ (doS (doS s 3 74 [2]) 3 72 []).r = 0 ∧ (doS (doS s 3 74 [2]) 3 72 []).c = 0 := by
 have e1 : doS s 3 74 [2] = rowE (rowsE (leaveS s) 0 (leaveS s).rows.length) 2 := rfl
 have hl := h.leave
 have e2 := rowsE_all hl (leaveS s).rows.length (Nat.le_refl _)
 rw [List.drop_length, List.append_nil, show (leaveS s).rows.length = 4 from hh, show (leaveS s).w = 9 from hw] at e2
 have e3 : (doS s 3 74 [2]).rows = List.replicate 4 (blanksL 9, false) := by
  rw [e1, show (leaveS s).rows.length = 4 from hh]
  show (rowsE (leaveS s) 0 4).rows.modify (rowsE (leaveS s) 0 4).r (eraseR 0 ((rowsE (leaveS s) 0 4).w : Int)) = _
  rw [e2, (rowsE_w _ _ _).1, show (leaveS s).w = 9 from hw]
  refine List.ext_getElem? fun i => ?_
  rw [List.getElem?_modify, List.getElem?_replicate]
  have hb := eraseR_all (blank_ok 9) (by omega) (by omega)
  by_cases hi : i < 4
  ·rw [if_pos hi]
   simp only [Option.map_eq_map, Option.map_some]
   split
   ·rw [hb]
   ·rfl
  ·rw [if_neg hi]; rfl
 refine ⟨?_, ?_, ?_⟩
 ·show (doS s 3 74 [2]).rows = _
  rw [e3]
  rfl
 ·have e : (doS (doS s 3 74 [2]) 3 72 []).r = (min (max (0 : Int) 0) (((doS s 3 74 [2]).rows.length : Int) - 1)).toNat := rfl
  rw [e, e3, List.length_replicate]
  decide
 ·have e : (doS (doS s 3 74 [2]) 3 72 []).c = (min (max (0 : Int) 0) (((doS s 3 74 [2]).w : Int) - 1)).toNat := rfl
  rw [e, e1, (rowE_len _ _).1, (rowsE_w _ _ _).1, show (leaveS s).w = 9 from hw]
  decide
set_option maxRecDepth 100000 in
set_option maxHeartbeats 6400000 in
theorem walk (t : ByteArray) (_ht : t.size ≤ 9223372036854775807) (w : World) (hs : Spans w) :
  Calls Tryz.prog 12 #[.string t] w fun e w' => e = .returned (.bool true) ∧ Below w.heap.size w w' := by
 have S := Lib.hid hs
 clear hs
 go_enter Tryz.func12, Tryz.ntmps12
 go_wp2_with fail
 refine (Bg.begun7_walk w S.out).mono ?_
 rintro e w1 ⟨rfl, b1⟩
 have NW := Lib.hid (Wp.new' (w0 := w) 9 4 b1 (S.out.below b1 S.out.size))
 clear b1
 go_wp2_with fail
 refine NW.out.mono ?_
 rintro e w2 ⟨p, g, xs, rfl, P2, _, _, _⟩
 have P2' := Lib.hid P2
 clear P2 NW
 go_wp2_with fail
 refine (short_walk t 150 w2).mono ?_
 rintro e w' ⟨rfl, rfl⟩
 have F := Lib.hid (P2'.out.feed (shortS t 150) (by have := shortS_size t 150; omega))
 go_wp2_with fail
 refine F.out.mono ?_
 rintro e w3 ⟨m, rfl, ys, P3, _⟩
 obtain ⟨s3, hs3⟩ : ∃ s3, feedS (newS 9 4) (shortS t 150) = s3 := ⟨_, rfl⟩
 have D3 := Lib.hid (show s3.w = 9 ∧ s3.rows.length = 4 by
  have := feedS_dims (s := newS 9 4) (shortS t 150) (by rw [(newS_dims 9 4).2]; decide)
  rw [hs3, (newS_dims 9 4).1, (newS_dims 9 4).2] at this
  exact this)
 rw [hs3] at P3
 obtain ⟨b, hb⟩ : ∃ b, w3.heap.size = b := ⟨_, rfl⟩
 obtain ⟨w4, hw4⟩ : ∃ w4, w3.alloc (.cells #[.int .i64 2] 3) = w4 := ⟨_, rfl⟩
 have P4 := Lib.hid (show Wp w p g s3 ys w4 from P3.laid (by rw [← hw4]; exact (Below.refl _ _).alloc (Nat.le_refl _) _))
 have c4 : w4.heap[b]? = some (.cells #[.int .i64 2] 3 (0, 0)) := by rw [← hw4, ← hb]; exact heap_alloc_new w3 _
 have DO := Lib.hid (P4.out.do' 3 74 (some ⟨b, 0, none⟩) 1 1 ⟨#[]⟩ [2] (by omega) (by omega) (fun _ => by omega) (by omega) (fun W zs a => block_arg rfl c4 P4.out.scr a))
 have HB := Lib.hid hb
 have HW := Lib.hid hw4
 clear P3 hs3 c4 F P2' hb hw4
 go_wp2_with fail
 first
  | (rw [HW.out]; rw [HB.out])
  | rw [HW.out]
  | skip
 refine DO.out.mono ?_
 rintro e w5 ⟨A5, c5, zs, rfl, P5, _⟩
 have O4 := Lib.hid P4.out.scr.ok
 have P5' := Lib.hid P5
 have DO2 := Lib.hid (P5'.out.do' 3 72 none 0 0 ⟨#[]⟩ [] (by omega) (by omega) (fun _ => by omega) (by omega) (fun W zs a => Sq.nothing _ _ _ _))
 clear P5 DO P4 HB HW
 go_wp2_with fail
 refine DO2.out.mono ?_
 rintro e w6 ⟨A6, c6, us, rfl, P6, _⟩
 have HM := Lib.hid (home O4.out D3.out.1 D3.out.2)
 obtain ⟨s6, hs6⟩ : ∃ s6, doS (doS s3 3 74 [2]) 3 72 [] = s6 := ⟨_, rfl⟩
 rw [hs6] at HM P6
 have P6' := Lib.hid P6
 have SH := Lib.hid P6'.out.show'
 clear P6 DO2 P5' hs6 O4 D3
 go_wp2_with fail
 refine SH.out.mono ?_
 rintro e w7 ⟨A7, c7, vs, rfl, R7, e7, b7⟩
 have hn : s6.rows.length = 4 := by rw [HM.out.1, (newS_dims 9 4).2]; decide
 rw [hn] at R7 ⊢
 have P7 := Lib.hid (P6'.out.laid b7)
 have R7' := Lib.hid R7
 have E7 := Lib.hid (show vs.map sr = (newS 9 4).rows by rw [e7, HM.out.1])
 have NW := Lib.hid (Wp.new' (w0 := w) 9 4 P7.out.old P7.out.spans)
 clear b7 R7 e7 SH P6'
 go_wp2_with fail
 refine NW.out.mono ?_
 rintro e w8 ⟨p2, g2, xs2, rfl, P8, _, _, b8⟩
 have P8' := Lib.hid P8
 have R8 := Lib.hid (R7'.out.below b8)
 have P7b := Lib.hid (P7.out.laid b8)
 have SH := Lib.hid P8'.out.show'
 clear P8 b8 NW R7' P7
 go_wp2_with fail
 refine SH.out.mono ?_
 rintro e w9 ⟨A9, c9, vs9, rfl, R9, e9, b9⟩
 rw [(newS_dims 9 4).2] at R9 ⊢
 have R9' := Lib.hid (show Sc.Rd w9 A9 4 vs9 from R9)
 have P9 := Lib.hid (P7b.out.laid b9)
 have EQ := Lib.hid (eqRows_walk A7 A9 4 c7 c9 vs vs9 w9 (by omega) (R8.out.below b9) R9'.out (E7.out.trans e9.symm))
 clear R9 b9 e9 SH P8' R8 P7b
 go_wp2_with fail
 refine EQ.out.mono ?_
 rintro e w10 ⟨rfl, b10⟩
 have P10 := Lib.hid (P9.out.laid b10)
 have CW := Lib.hid (show Calls Tryz.prog 47 #[ptrS p] w10 fun e w' => e = .returned (.agg #[.int .i64 0, .int .i64 0]) ∧ Below w10.heap.size w10 w' from by
  have h := cursor_walk w10 P10.out.scr
  rw [HM.out.2.1, HM.out.2.2] at h
  exact h)
 clear b10 EQ P9
 go_wp2_with fail
 refine CW.out.mono ?_
 rintro e w11 ⟨rfl, b11⟩
 have B11 := Lib.hid (P10.out.old.trans (b11.mono P10.out.old.size))
 clear b11 CW P10
 have hE : ∀ w, (binOp .eql 68 (.agg #[.int .i64 0, .int .i64 0]) (.agg #[.int .i64 0, .int .i64 0])).run Tryz.prog w = .ok (.bool true) w := eql_pos _ _
 go_wp2
 go_ret
 exact ⟨rfl, B11.out⟩
set_option maxRecDepth 100000 in
theorem contract (H : Type) (enc : TypeId × Value → H) (W : World) (base : Nat) (args : Array Value) (ds gs : List (DataW H)) (before : List MemPlace)
  (hval : ∀ (j : Nat) t v, Tryz.f12.params[j]? = some t → args[j]? = some v → Value.okWide Tryz.prog W .any base t v)
  (hW : DataW.Whole enc Tryz.prog Tryz.f12.params.toList Rows.screenHomeSpec.vars false W args.toList ds gs before) (hL : laidMetH Tryz.prog Rows.screenHomeRow.laid W) :
  Calls Tryz.prog 12 args W fun e W' => ∃ v, e = .returned v ∧ Rows.screenHomeSpec.post enc Tryz.prog Tryz.f12 false true false false W args v W' := by
 have hW' := hW
 obtain ⟨p, q, hA0, hV, rfl, hfz, hnd⟩ := hW
 have hA : DataW.TrodAll enc Tryz.prog W 0 (fun _ => true) true Tryz.f12.params.toList args.toList ds p := hA0
 rw [Tryz.params12] at hA hval
 obtain ⟨v0, vs0, d0, ds0, p0, q0, hargs, rfl, rfl, h0, r0⟩ := trodAll_cons hA
 obtain ⟨rfl, rfl, rfl⟩ := trodAll_nil r0
 obtain rfl : args = #[v0] := by cases args; simp_all
 obtain ⟨rfl, rfl⟩ := trodVars_none hV
 obtain ⟨x, rfl, rfl, rfl, wx⟩ := Go.ChangeMaps.open_string Tryz.underlying9 (hval 0 9 v0 rfl rfl) h0
 clear hA0
 refine (walk x wx W (spans_of hL) ).mono fun e W' ⟨he, hg⟩ => ?_
 subst he
 exact ⟨_, rfl, close rfl hW' ⟨rfl, rfl, rfl⟩ (by kernel_rfl) (by kernel_rfl) hg⟩
set_option maxRecDepth 100000 in
theorem laid_met (os : Os) : laidMet Tryz.prog Rows.screenHomeRow.laid ((laidWorld os).forCall (fun _ _ => 0) ⟨#[], #[.string .empty], []⟩).memory :=
 laidMet_of_run' 8 (by kernel_rfl) (by kernel_rfl)
set_option maxRecDepth 100000 in
theorem reads (os : Os) {H : Type} (enc : TypeId × Value → H) : ∃ places, DataW.whole enc Tryz.prog ((laidWorld os).forCall (fun _ _ => 0) ⟨#[], #[.string .empty], []⟩).memory Tryz.f12.params.toList Rows.screenHomeSpec.vars false (#[.string .empty] : Array Value).toList 8 = some ([.lit (.string [])], [], places) :=
 ⟨[], by kernel_rfl⟩
set_option maxRecDepth 100000 in
theorem lifted (os : Os) (started : os.Started) (H : Type) (enc : TypeId × Value → H) (F : Stop.Interp) :
  ReturnsInHanded {} Tryz.checked os 12 .any ((OpenSpec.ofChange Rows.screenHomeSpec).preRow enc Tryz.prog Tryz.f12 Rows.screenHomeRow.domain false Rows.screenHomeRow.laid) (((OpenSpec.ofChange Rows.screenHomeSpec).at F).post enc Tryz.prog Tryz.f12 false true false false) := by
 obtain ⟨places, hx⟩ := reads os enc
 refine returnsInHanded_of_row (C := Tryz.checked) (s := OpenSpec.ofChange Rows.screenHomeSpec) ownNone started (by kernel_rfl) Tryz.func12
  (witness_row_at (enc := enc) (C := Tryz.checked) false (laidWorld os) #[.string .empty] rfl (by kernel_rfl) (by kernel_rfl) (by kernel_rfl)
   (OpenSpec.preRow_of_cond 8 hx (by kernel_rfl) (fun k hk => by cases hk) (by kernel_rfl) (laid_met os))) ?_
 intro W base args ds gs before hval hW _ _ _ hL _ _
 exact contract H enc W base args ds gs before hval hW hL
set_option maxRecDepth 100000 in
set_option maxHeartbeats 0 in
theorem facts : joinedFacts Tryz.checked.prog 12 Tryz.f12 (OpenSpec.ofChange Rows.screenHomeSpec).bare Rows.screenHomeRow = true := by
 have h1 := Sum.tables.1
 have h2 := Sum.tables.2.1
 have h3 := Sum.tables.2.2
 have h4 := Sum.mayEnter
 have e1 : Rows.screenHomeRow.lifted = Rows.rowSpanRow.lifted := by kernel_rfl
 have e2 : Rows.screenHomeRow.make = Rows.rowSpanRow.make := by kernel_rfl
 have h5 : (Rows.screenHomeRow.lifted == Tryz.checked.prog.liftsFinal) = true := by rw [e1]; exact Sum.lifts
 have h6 : (Tryz.checked.prog.make == some Rows.screenHomeRow.make) = true := by rw [e2]; exact Sum.make
 unfold joinedFacts
 repeat' (with_reducible refine Sum.and_mk ?_ ?_)
 all_goals first
  | with_reducible exact h1
  | with_reducible exact h2
  | with_reducible exact h4
  | with_reducible exact h5
  | with_reducible exact h6
  | (rw [h3]; as_aux_lemma => kernel_rfl)
  | (clear h1 h2 h3 h4 h5 h6 e1 e2; as_aux_lemma => kernel_rfl)
set_option maxRecDepth 100000 in
theorem said : Rows.ScreenHomeSaid :=
 OpenClaim.holds_of_cond 12 Tryz.f12 rfl rfl rfl rfl rfl rfl rfl ⟨rfl, rfl, rfl, rfl, rfl⟩ rfl rfl rfl rfl rfl (by kernel_rfl) Tryz.func12 facts
  (of_decide_eq_true (by kernel_rfl)) (by unfold Func.isWrapper; first | (rw [if_pos (by decide +kernel)]; kernel_rfl) | (rw [if_neg (by decide +kernel)]; exact ⟨rfl, rfl⟩))
  (fun os started H enc _ F => by rw [OpenClaim.pre_eq_preRow]; exact lifted os started H enc F)
set_option maxRecDepth 100000 in
theorem plain (f : FuncId) (fn : Func) (hf : Tryz.pinned.checked.prog.funcNamed "rotulus/rotuluslaw7.ScreenHome" = some f) (hfn : Tryz.pinned.checked.prog.funcs[f]? = some fn) :
  false = Tryz.pinned.checked.prog.looks [] ∧ ∀ (j : Nat) t, fn.params[j]? = some t → Tryz.pinned.checked.prog.wantsStandIn t = false := by
 obtain rfl : f = 12 := Option.some.inj ((show Tryz.prog.funcNamed "rotulus/rotuluslaw7.ScreenHome" = some 12 by kernel_rfl).symm.trans hf) |>.symm
 obtain rfl : fn = Tryz.f12 := (Option.some.inj (Tryz.func12.symm.trans hfn)).symm
 refine ⟨by kernel_rfl, fun j t ht => ?_⟩
 rw [Tryz.params12] at ht
 have hm := Array.mem_of_getElem? ht
 simp at hm
 subst hm
 exact (show Tryz.prog.wantsStandIn 9 = false by kernel_rfl)
set_option maxRecDepth 100000 in
theorem card : Rows.ScreenHomeCardSaid :=
 Claim7.holds_tied_plain_at .later [] _ _ _ _ said (fun _ h => by cases h) (by kernel_rfl) (fun _ h => by cases h) screenHome_row_tie rfl ⟨rfl, rfl⟩ (by kernel_rfl) rfl plain (by kernel_rfl)
end Go.Proofs.YtaclmhopcfgbmaaGreatDoor.screenHome
