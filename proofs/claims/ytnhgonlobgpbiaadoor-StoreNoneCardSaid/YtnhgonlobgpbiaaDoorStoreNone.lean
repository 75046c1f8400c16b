/-
  The statement StoreNone: no page and no store: all that they tell is nothing. A closed sentence; it holds where the table of widths is as its initialiser lays it, which the card ties to the program's text.
-/
import Derived.Test.YtnhgonlobgpbiaaDoorBegun
import Derived.Test.YtnhgonlobgpbiaaDoorBegun4
import Derived.Test.YtnhgonlobgpbiaaDoorArgs
namespace Go.Proofs.YtnhgonlobgpbiaaDoor.storeNone
open Go.ChangeShapes Go.WideShapes Go.ChangeAt Go.RowKit Go.Shelf
attribute [local go_sem] Oper.semAt_some

set_option maxRecDepth 100000 in
set_option maxHeartbeats 1600000 in
theorem storeSetLimit_nil (n : Int) (w : World) : Calls Tryd.prog 40 #[.pointer none, .int .i64 n] w fun e w' => (∃ x, e = .returned x) ∧ w = w' := by
  go_enter Tryd.func40, Tryd.ntmps40
  go_wp2
  refine bodyPost_ret (results_none rfl _ _ _) rfl ?_
  exact ⟨⟨_, rfl⟩, rfl⟩
set_option maxRecDepth 100000 in
set_option maxHeartbeats 1600000 in
theorem storeAdd_nil (A : Option Addr) (n c : Nat) (wrap : Bool) (w : World) : Calls Tryd.prog 41 #[.pointer none, rowV A n c wrap] w fun e w' => e = .returned (.bool false) ∧ Below w.heap.size w w' := by
  have BB := Lib.hid ((Below.refl w.heap.size w).alloc (Nat.le_refl _) (.cells #[.slice A n c, .bool wrap] 31))
  go_enter Tryd.func41, Tryd.ntmps41
  go_wp2
  go_ret
  exact ⟨rfl, BB.out⟩
/-- What stands all the way: the table, what was there, a count of nothing. -/
structure SN (w0 : World) (cnt : Nat) (W : World) : Prop where
  sp : Spans W
  old : Below w0.heap.size w0 W
  b : Boxed W cnt 3 (.int .i64 0)
theorem SN.laid {w0 W W' : World} {cnt : Nat} (h : SN w0 cnt W) (hb : Laid W W') : SN w0 cnt W' := ⟨h.sp.below hb h.sp.size, h.old.trans (hb.mono h.old.size), (hb.block _ h.b.lt).trans h.b⟩
set_option maxRecDepth 100000 in
set_option maxHeartbeats 6400000 in
theorem walk (w : World) (hs : Spans w) : Calls Tryd.prog 11 #[] w fun e w' => e = .returned (.bool true) ∧ Below w.heap.size w w' := by
  have S := Lib.hid hs
  refine (callsIn_wide (n := 3)).1 (callsIn_of_wp_marks Tryd.func11 rfl trivial ?_ rfl)
  simp only [Tryd.ntmps11, List.size_toArray, List.length_nil, Nat.reduceSub, Array.replicate_succ, Array.replicate_zero, List.push_toArray, List.append_toArray, List.nil_append, List.cons_append]
  refine wpIn_wide.2 ?_
  clear hs
  go_wp2_with fail
  refine (storeSetLimit_nil 3 w).mono ?_
  rintro e w' ⟨⟨x, rfl⟩, rfl⟩
  go_wp2_with fail
  refine (pageAt_nil 0 w).mono ?_
  rintro e w1 ⟨v1, rfl, h1, b1⟩
  simp only [Option.elim_none, Option.isSome_none] at h1 ⊢
  obtain ⟨A1, c1, rfl, _⟩ := HasC.shape h1
  have B1 := Lib.hid (b1.alloc b1.size (.cells #[.slice A1 ([] : List Cel).length c1, .bool false] 31))
  clear h1 b1
  go_wp2_with fail
  refine (storeAt_nil 0 _).mono ?_
  rintro e w2 ⟨v2, rfl, h2, b2⟩
  simp only [Option.elim_none, Option.isSome_none] at h2 ⊢
  obtain ⟨A2, c2, rfl, _⟩ := HasC.shape h2
  have B2 := Lib.hid (B1.out.trans ((b2.alloc b2.size (.cells #[.slice A2 ([] : List Cel).length c2, .bool false] 31)).mono B1.out.size))
  clear h2 b2 B1
  have fnn := seq_not_nil
  go_wp2_with fail
  have bx := (Below.refl (w2.alloc (.cells #[.slice A2 0 c2, .bool false] 31)).heap.size (w2.alloc (.cells #[.slice A2 0 c2, .bool false] 31))).alloc (Nat.le_refl _) (.cells #[.int .i64 0] 3)
  have N3 := Lib.hid (SN.mk (w0 := w) (cnt := w2.heap.size + 1) (S.out.below (B2.out.trans (bx.mono B2.out.size)) S.out.size) (B2.out.trans (bx.mono B2.out.size)) (by
    have := heap_alloc_new (w2.alloc (.cells #[.slice A2 0 c2, .bool false] 31)) (.cells #[.int .i64 0] 3)
    rw [World.size_alloc] at this
    exact this))
  obtain ⟨cnt, hcnt⟩ : ∃ cnt, w2.heap.size + 1 = cnt := ⟨_, rfl⟩
  rw [hcnt] at N3 ⊢
  have CZ := Lib.hid (show w.heap.size ≤ cnt by have := B2.out.size; simp at this; omega)
  clear bx hcnt B2 S
  refine (all_nil _).mono ?_
  rintro e w13 ⟨Bx, u1, rfl, _, _, _, b13⟩
  have N13 := Lib.hid (N3.out.laid b13)
  clear b13 N3
  go_wp2_with fail
  refine (all_nil w13).mono ?_
  rintro e w14 ⟨Bx2, u2, rfl, _, x14, o14, b14⟩
  have N14 := Lib.hid (N13.out.laid b14)
  have SR := Lib.hid (show Src2 Bx2 u2 [] w14 from ⟨N14.out.sp, x14, ⟨o14.1, o14.2.imp id fun ⟨g, cap, cur, e, _, r⟩ => ⟨g, cap, cur, e, Nat.zero_le _, r⟩⟩, fun p hp => by cases hp⟩)
  have TL := Lib.hid (all1_tells (Kp := KpS Bx2 u2 []) (S := w14.heap.size) SR.out (Nat.le_refl _) (fun A B hk hs => ⟨hk.2 hs, hk.1⟩) (by decide) (by decide))
  rw [allRows_nil] at TL
  have OZ := Lib.hid (show w.heap.size ≤ w14.heap.size from N14.out.old.size)
  have SG := Lib.hid (show 0 < w14.heap.size from N14.out.sp.size)
  have CW := Lib.hid (show cnt < w14.heap.size from N14.out.b.lt)
  clear x14 o14 b14 N13 SR
  go_wp2_with fail
  refine wp_over (Fit := FitR w14.heap.size []) (Kp := KpS Bx2 u2 []) (N := 0) (gf := 69) (lb := #[.pointer (some ⟨Bx2, 0, none⟩)]) rfl (enters_of Tryd.func69 (by kernel_rfl) rfl) TL.out KpS.trans (fun A B _ h => KpS.laid h) (fun W l o o' hl ho hc => KpS.put SG.out hl ho hc) (fun k x W h => by obtain ⟨v, r, rfl, hr, _⟩ := h; simp at hr)
    (fun _ W => Hid (SN w cnt W)) (fun _ _ _ => False) (fun k A B h hb => h.out.laid hb) (fun k W l o o' hl ho hc h => ?put) (fun _ _ _ _ h _ => h) (fun _ _ _ _ _ _ _ _ _ h => h) N14 (fun _ k _ _ hk => absurd hk (Nat.not_lt_zero k)) ?done (fun _ _ _ _ _ _ h _ => h.elim)
  case put =>
    have ht := Turned.put W l o'
    refine Lib.hid ⟨h.out.sp.below (ht.toBelow (B := w14.heap.size) (Nat.le_trans (Nat.le_of_lt_succ (Nat.lt_succ_of_le hl)) (Nat.le_of_lt (Array.getElem?_eq_some_iff.1 ho).1)) (fun k hk e => by omega)) SG.out, h.out.old.trans (ht.toBelow h.out.old.size (fun k hk e => by have := OZ.out; omega)), (World.putObj_heap_other (fun e => by have := CW.out; omega)).trans h.out.b⟩
  case done =>
    rintro D W hD hi hdef
    have H := Lib.hid (And.intro hi.out hdef)
    clear hi hdef TL SG CW N14 fnn
    have c0 : W.cell? ⟨cnt, 0, none⟩ = some (.int .i64 0) := H.out.1.b.cell
    go_wp2_with fail
    refine (begun4_walk W H.out.1.sp).mono ?_
    rintro e W1 ⟨rfl, b1⟩
    have H1 := Lib.hid (And.intro (H.out.1.laid b1) ((b1.block D (Array.getElem?_eq_some_iff.1 H.out.2).1).trans H.out.2))
    clear H b1 c0
    go_wp2_with fail
    refine (pageAdd_nil none 0 0 false W1).mono ?_
    rintro e W2 ⟨rfl, b2⟩
    have H2 := Lib.hid (And.intro (H1.out.1.laid b2) ((b2.block D (Array.getElem?_eq_some_iff.1 H1.out.2).1).trans H1.out.2))
    clear H1 b2
    go_wp2_with fail
    refine (pageLen_nil W2).mono ?_
    rintro e W2' ⟨rfl, rfl⟩
    go_wp2_with fail
    refine (pageBytes_nil W2).mono ?_
    rintro e W2' ⟨rfl, rfl⟩
    go_wp2_with fail
    refine (pageCut_nil 0 W2).mono ?_
    rintro e W2' ⟨rfl, rfl⟩
    go_wp2_with fail
    refine (storeAdd_nil none 0 0 false W2).mono ?_
    rintro e W3 ⟨rfl, b3⟩
    have H3 := Lib.hid (And.intro (H2.out.1.laid b3) ((b3.block D (Array.getElem?_eq_some_iff.1 H2.out.2).1).trans H2.out.2))
    clear H2 b3
    go_wp2_with fail
    refine (storeLen_nil W3).mono ?_
    rintro e W3' ⟨rfl, rfl⟩
    go_wp2_with fail
    refine (storeLimit_nil W3).mono ?_
    rintro e W3' ⟨rfl, rfl⟩
    go_wp2_with fail
    refine (storeGone_nil W3).mono ?_
    rintro e W3' ⟨rfl, rfl⟩
    go_wp2_with fail
    refine (storeBytes_nil W3).mono ?_
    rintro e W3' ⟨rfl, rfl⟩
    have c0 : W3.cell? ⟨cnt, 0, none⟩ = some (.int .i64 0) := H3.out.1.b.cell
    go_wp2
    refine ⟨by simp, .inl ⟨_, _, rfl, run_takeDeferred H3.out.2, ?_⟩⟩
    exact ⟨_, results_tmp rfl _ _ _, rfl, H3.out.1.old.trans ((Turned.put W3 D _).toBelow H3.out.1.old.size (fun j hj e => by have := OZ.out; omega))⟩

-- WHAT THE WALK GIVES, FOR EVERY ARGUMENT AND EVERY WORLD THAT HOLDS THE TABLE.
set_option maxRecDepth 100000 in
theorem contract (H : Type) (enc : TypeId × Value → H) (W : World) (args : Array Value) (ds gs : List (DataW H)) (before : List MemPlace)
    (hW : DataW.Whole enc Tryd.prog Tryd.f11.params.toList Rows.storeNoneSpec.vars false W args.toList ds gs before) (hL : laidMetH Tryd.prog Rows.storeNoneRow.laid W) :
    Calls Tryd.prog 11 args W fun e W' => ∃ v, e = .returned v ∧ Rows.storeNoneSpec.post enc Tryd.prog Tryd.f11 false true false false W args v W' := by
  have hW' := hW
  obtain ⟨p, q, hA0, hV, rfl, hfz, hnd⟩ := hW
  have hA : DataW.TrodAll enc Tryd.prog W 0 (fun _ => true) true Tryd.f11.params.toList args.toList ds p := hA0
  rw [Tryd.params11] at hA
  obtain ⟨hargs, rfl, rfl⟩ := trodAll_nil hA
  obtain rfl : args = #[] := by cases args; simp_all
  obtain ⟨rfl, rfl⟩ := trodVars_none hV
  clear hA0
  refine (walk  W (spans_of hL) ).mono fun e W' ⟨he, hg⟩ => ?_
  subst he
  exact ⟨_, rfl, close rfl hW' ⟨rfl, rfl, rfl⟩ (by kernel_rfl) (by kernel_rfl) hg⟩

set_option maxRecDepth 100000 in
theorem laid_met (os : Os) : laidMet Tryd.prog Rows.storeNoneRow.laid ((laidWorld os).forCall (fun _ _ => 0) ⟨#[], #[], []⟩).memory :=
  laidMet_of_run' 8 (by kernel_rfl) (by kernel_rfl)
set_option maxRecDepth 100000 in
theorem reads (os : Os) {H : Type} (enc : TypeId × Value → H) : ∃ places, DataW.whole enc Tryd.prog ((laidWorld os).forCall (fun _ _ => 0) ⟨#[], #[], []⟩).memory Tryd.f11.params.toList Rows.storeNoneSpec.vars false (#[] : Array Value).toList 8 = some ([], [], places) :=
  ⟨[], by kernel_rfl⟩

set_option maxRecDepth 100000 in
theorem lifted (os : Os) (started : os.Started) (H : Type) (enc : TypeId × Value → H) (F : Stop.Interp) :
    ReturnsInHanded {} Tryd.checked os 11 .any ((OpenSpec.ofChange Rows.storeNoneSpec).preRow enc Tryd.prog Tryd.f11 Rows.storeNoneRow.domain false Rows.storeNoneRow.laid) (((OpenSpec.ofChange Rows.storeNoneSpec).at F).post enc Tryd.prog Tryd.f11 false true false false) := by
  obtain ⟨places, hx⟩ := reads os enc
  refine returnsInHanded_of_row (C := Tryd.checked) (s := OpenSpec.ofChange Rows.storeNoneSpec) ownNone started (by kernel_rfl) Tryd.func11
    (witness_row_at (enc := enc) (C := Tryd.checked) false (laidWorld os) #[] rfl (by kernel_rfl) (by kernel_rfl) (by kernel_rfl)
      (OpenSpec.preRow_of_cond 8 hx (by kernel_rfl) (fun k hk => by cases hk) (by kernel_rfl) (laid_met os))) ?_
  intro W base args ds gs before hval hW _ _ _ hL _ _
  exact contract H enc W args ds gs before hW hL

set_option maxRecDepth 100000 in
theorem said : Rows.StoreNoneSaid :=
  OpenClaim.holds_of_cond 11 Tryd.f11 rfl rfl rfl rfl rfl rfl rfl ⟨rfl, rfl, rfl, rfl, rfl⟩ rfl rfl rfl rfl rfl (by kernel_rfl) Tryd.func11 (by kernel_rfl)
    (of_decide_eq_true (by kernel_rfl)) (by unfold Func.isWrapper; first | (rw [if_pos (by decide +kernel)]; kernel_rfl) | (rw [if_neg (by decide +kernel)]; exact ⟨rfl, rfl⟩))
    (fun os started H enc _ F => by rw [OpenClaim.pre_eq_preRow]; exact lifted os started H enc F)

-- No parameter wants a stand-in; the program's own looks are off: what the card asks.
set_option maxRecDepth 100000 in
theorem plain (f : FuncId) (fn : Func) (hf : Tryd.pinned.checked.prog.funcNamed "rotulus/rotuluslaw4.StoreNone" = some f) (hfn : Tryd.pinned.checked.prog.funcs[f]? = some fn) :
    false = Tryd.pinned.checked.prog.looks [] ∧ ∀ (j : Nat) t, fn.params[j]? = some t → Tryd.pinned.checked.prog.wantsStandIn t = false := by
  obtain rfl : f = 11 := Option.some.inj ((show Tryd.prog.funcNamed "rotulus/rotuluslaw4.StoreNone" = some 11 by kernel_rfl).symm.trans hf) |>.symm
  obtain rfl : fn = Tryd.f11 := (Option.some.inj (Tryd.func11.symm.trans hfn)).symm
  refine ⟨by kernel_rfl, fun j t ht => ?_⟩
  rw [Tryd.params11] at ht
  simp at ht

-- The card.
set_option maxRecDepth 100000 in
theorem card : Rows.StoreNoneCardSaid :=
  Claim7.holds_tied_plain_at .later [] _ _ _ _ said (fun _ h => by cases h) (by kernel_rfl) (fun _ h => by cases h) storeNone_row_tie rfl ⟨rfl, rfl⟩ (by kernel_rfl) rfl plain (by kernel_rfl)
end Go.Proofs.YtnhgonlobgpbiaaDoor.storeNone
