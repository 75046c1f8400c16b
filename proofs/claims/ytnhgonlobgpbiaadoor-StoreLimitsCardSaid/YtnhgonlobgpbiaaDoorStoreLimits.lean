/-
  The statement StoreLimits: limits that fall and rise: what went does not come back. For every list of integers (of which the statement looks at the first fifteen); it holds where the table of widths is as its initialiser lays it, which the card ties to the program's text.
-/
import Derived.Test.YtnhgonlobgpbiaaDoorBegun
import Derived.Test.YtnhgonlobgpbiaaDoorBegun4
import Derived.Test.YtnhgonlobgpbiaaDoorArgs
import Derived.Test.YtnhgonlobgpbiaaDoorTurn
import Derived.Test.YtnhgonlobgpbiaaDoorStoreSet
import Derived.Test.YtnhgonlobgpbiaaDoorStoreLimR
namespace Go.Proofs.YtnhgonlobgpbiaaDoor.storeLimits
open Go.ChangeShapes Go.WideShapes Go.ChangeAt Go.RowKit

/-- Between two limits: q rows are left of forty. -/
structure LimAt (w0 : World) (gs q c : Nat) (W : World) : Prop where
  sp : Spans W
  old : Below w0.heap.size w0 W
  st : ∃ v ps, StoreAt W gs gs v ps c (40 - q) ∧ allRows ps = ((List.range 40).map rowk).drop (40 - q)
section
variable {w0 W : World} {gs q c : Nat}
theorem LimAt.ofTurn (h : TurnAt w0 gs 50 40 W) : LimAt w0 gs 40 50 W := ⟨h.sp, h.old, h.st⟩
theorem LimAt.laid {W' : World} (h : LimAt w0 gs q c W) (hb : Below W.heap.size W W') : LimAt w0 gs q c W' :=
  ⟨h.sp.below hb h.sp.size, h.old.trans (hb.mono h.old.size), let ⟨v, ps, s, r⟩ := h.st; ⟨v, ps, s.below hb, r⟩⟩
theorem rows_len {ps : List Pg} (h40 : q ≤ 40) (r : allRows ps = ((List.range 40).map rowk).drop (40 - q)) : (allRows ps).length = q := by
  rw [r, List.length_drop, List.length_map, List.length_range]
  omega
theorem LimAt.len (h : LimAt w0 gs q c W) (h40 : q ≤ 40) : Calls Tryd.prog 42 #[ptr gs] W fun e w' => e = .returned (.int .i64 (q : Int)) ∧ W = w' := by
  obtain ⟨v, ps, s, r⟩ := h.st
  have k := storeLen_walk s.raw
  rw [rows_len h40 r] at k
  exact k
theorem LimAt.gone (h : LimAt w0 gs q c W) : Calls Tryd.prog 44 #[ptr gs] W fun e w' => e = .returned (.int .i64 ((40 - q : Nat) : Int)) ∧ W = w' := by
  obtain ⟨v, ps, s, r⟩ := h.st
  exact storeGone_walk s.raw
theorem LimAt.limit (h : LimAt w0 gs q c W) : Calls Tryd.prog 43 #[ptr gs] W fun e w' => e = .returned (.int .i64 (c : Int)) ∧ W = w' := by
  obtain ⟨v, ps, s, r⟩ := h.st
  exact storeLimit_walk s.raw
theorem LimAt.last {k : Nat} (h : LimAt w0 gs q c W) (h40 : q ≤ 40) (hk : q = k + 1) : Calls Tryd.prog 45 #[ptr gs, .int .i64 (k : Int)] W fun e w' => AtPost (some (rowk 39)) W e w' := by
  obtain ⟨v, ps, s, r⟩ := h.st
  refine storeAt_some k (rowk 39) h.sp s (by rw [rows_len h40 r]; omega) ?_
  rw [r, List.getElem?_drop, List.getElem?_map, List.getElem?_range (by omega), show 40 - q + k = 39 by omega]
  rfl
theorem LimAt.none {i : Int} (h : LimAt w0 gs q c W) (hi : i < 0) : Calls Tryd.prog 45 #[ptr gs, .int .i64 i] W fun e w' => AtPost none W e w' := by
  obtain ⟨v, ps, s, r⟩ := h.st
  exact storeAt_none i s.raw (.inl hi)
/-- One limit more. -/
theorem LimAt.set (h : LimAt w0 gs q c W) (hs : Spans w0) (hg : w0.heap.size ≤ gs) (h40 : q ≤ 40) (x : Int) :
    Calls Tryd.prog 40 #[ptr gs, .int .i64 x] W fun e w' => (∃ y, e = .returned y) ∧ Hid (LimAt w0 gs (min q (clampN x)) (clampN x) w') := by
  obtain ⟨v, ps, s, r⟩ := h.st
  have hl := rows_len h40 r
  refine (storeSetLimit_walk x s (by omega) (by omega)).mono ?_
  rintro e w' ⟨hy, hh⟩
  obtain ⟨v', ps', s', r', t', _⟩ := hh.out
  have hb : Below w0.heap.size W w' := t'.toBelow h.old.size (fun j hj e => by have := (s.raw.own_ge j e).1; omega)
  refine ⟨hy, h.sp.below hb hs.size, h.old.trans hb, v', ps', ?_, ?_⟩
  · have e : 40 - q + ((allRows ps).length - clampN x) = 40 - min q (clampN x) := by rw [hl]; omega
    rw [← e]
    exact s'
  · rw [r', r, List.drop_drop, List.length_drop, List.length_map, List.length_range]
    congr 1
    omega
end
set_option maxRecDepth 100000 in
set_option maxHeartbeats 6400000 in
theorem walk (A : Option Addr) (n c : Nat) (l : List Int) (hc : n ≤ c) (hcm : c ≤ maxLen) (hl : ∀ x ∈ l, -9223372036854775808 ≤ x ∧ x ≤ 9223372036854775807) (w : World) (hs : Spans w) (hq : Sq w w.heap.size 1 n A (l.map (Value.int .i64))) :
    Calls Tryd.prog 17 #[.slice A n c] w fun e w' => e = .returned (.bool true) ∧ Below w.heap.size w w' := by
  have S := Lib.hid hs
  have Q := Lib.hid hq
  have LH := Lib.hid hl
  have NL := Lib.hid (show l.length = n from hq.size_ints)
  have CM := Lib.hid (show n ≤ maxLen by omega)
  clear hs hq hl hc hcm
  go_enter Tryd.func17, Tryd.ntmps17
  go_wp2_with fail
  refine (begun4_walk w S.out).mono ?_
  rintro e w1 ⟨rfl, b1⟩
  have B1 := Lib.hid (And.intro (S.out.below b1 S.out.size) b1)
  clear b1
  go_wp2_with fail
  refine (storeNew_walk 50 w1).mono ?_
  rintro e w2 ⟨rfl, hs2, b2, z2⟩
  rw [show clampN 50 = 50 from rfl] at hs2
  have G := Lib.hid (show w.heap.size ≤ w1.heap.size from B1.out.2.size)
  obtain ⟨gs, hgs⟩ : ∃ gs, w1.heap.size = gs := ⟨_, rfl⟩
  have I0 := Lib.hid (show TurnAt w gs 50 0 w2 from ⟨B1.out.1.below b2 B1.out.1.size, B1.out.2.trans (b2.mono B1.out.2.size), _, [], by rw [← hgs, Nat.zero_sub]; exact hs2, rfl⟩)
  rw [hgs] at G ⊢
  clear B1 hs2 b2 z2 hgs
  go_wp2_with fail
  go_loopw [5] (fun i wr => ∃ k : Nat, i = .int .i64 k ∧ k ≤ 40 ∧ Hid (TurnAt w gs 50 k wr)) (fun i _ => 40 - (intOf i).toNat)
  case atStart => exact ⟨0, rfl, Nat.zero_le _, I0⟩
  case round =>
    obtain ⟨k, rfl, hk, I⟩ := hrel
    clear I0
    by_cases hlt : k < 40
    · have AW := Lib.hid (I.out.add S.out G.out (by omega))
      go_wp2_with fail
      refine AW.out.mono ?_
      rintro e w3 ⟨rfl, I3⟩
      clear AW
      go_wp2
      go_roundw
      case rel => exact ⟨k + 1, by go_num, by omega, I3⟩
      case measure => simp [intOf]; omega
    · have J0 := Lib.hid (show LimAt w gs 40 50 wr by
        obtain rfl : k = 40 := by omega
        exact LimAt.ofTurn I.out)
      clear I
      go_wp2_with fail
      clear hk hlt
      go_loopw [7, 6] (fun i p wx => ∃ j q cl : Nat, i = .int .i64 j ∧ p = .int .i64 q ∧ j ≤ n ∧ j ≤ 15 ∧ q ≤ 40 ∧ Hid (LimAt w gs q cl wx)) (fun i _ _ => 15 - (intOf i).toNat)
      case atStart => exact ⟨0, 40, 50, rfl, rfl, Nat.zero_le _, Nat.zero_le _, by omega, J0⟩
      case round =>
        obtain ⟨j, q, cl, rfl, rfl, hjn, hj15, hq40, J⟩ := hrel
        clear J0
        have nm := CM.out
        unfold maxLen at nm
        by_cases hj1 : j < n
        · by_cases hj2 : j < 15
          · obtain ⟨b, off, hA, hb, hcell⟩ := Q.out.spot (by omega)
            subst hA
            obtain ⟨x, hx⟩ : ∃ x, l[j]? = some x := ⟨_, List.getElem?_eq_getElem (by rw [NL.out]; exact hj1)⟩
            have hxr := LH.out x (List.mem_of_getElem? hx)
            have cw : w.cell? ⟨b, off + j, none⟩ = some (.int .i64 x) := hcell j (.int .i64 x) (by rw [List.getElem?_map, hx]; rfl)
            have CX := Lib.hid (fun (w' : World) (o : Below w.heap.size w w') => (show w'.cell? ⟨b, off + j, none⟩ = some (.int .i64 x) from (World.cell?_of_block (a := ⟨b, off + j, none⟩) (o.block b hb)).trans cw))
            have cx := CX.out wr J.out.old
            have SW := Lib.hid (J.out.set S.out G.out hq40 x)
            clear hcell cw hx hb
            go_wp2_with fail
            refine SW.out.mono ?_
            rintro e w3 ⟨⟨y, rfl⟩, I3⟩
            obtain ⟨c2, hc2⟩ : ∃ c2, clampN x = c2 := ⟨_, rfl⟩
            obtain ⟨q2, hq2⟩ : ∃ q2, min q c2 = q2 := ⟨_, rfl⟩
            rw [hc2, hq2] at I3
            have hcl : max 0 (min x 1000000) = (c2 : Int) := by unfold clampN at hc2; omega
            have h14 : min (q : Int) (max 0 x) = (q2 : Int) := by omega
            have q240 : q2 ≤ 40 := by omega
            have HC := Lib.hid hcl
            have cx3 := CX.out w3 I3.out.old
            clear hcl hq2 hc2 SW cx
            go_wp2_with fail
            obtain ⟨mg, hmg⟩ : ∃ mg, 40 - q2 = mg := ⟨_, rfl⟩
            have I4 := Lib.hid (I3.out.laid (Below.refl w3.heap.size w3).drew)
            have LW := I4.out.len q240
            have GW := I4.out.gone
            have MW := I4.out.limit
            rw [hmg] at GW
            have hsub : IntKind.i64.wrap (40 - (q2 : Int)) = (mg : Int) := by
              have e : (40 : Int) - (q2 : Int) = (mg : Int) := by omega
              have e2 : IntKind.i64.wrap (40 - (q2 : Int)) = 40 - (q2 : Int) := IntWalk.i64_in _ (by omega)
              rw [e2, e]
            refine Ord.start (S := fun w' => w' = w3.drew) (n := 22) (by kernel_rfl) (by kernel_rfl) rfl ?_
            apply lim_asked (b := b) (off := off) (n := n) (c0 := c) (gs := gs) (q := q2) (i := j) (mg := mg) (cl := c2) (x := x) (p1 := undef) (p2 := u2) (p3 := .bool true) (p5 := .int .i64 (k : Int)) (p8 := u8) (p9 := u9) (p10 := .bool true) (p11 := .bool true) (p12 := .bool false) (p13 := ptr gs) (p14 := .int .i64 (k : Int)) (p15 := .bool (decide ((k : Int) < 40))) (p16 := u16) (p17 := u17) (p18 := u18) (p19 := u19) (p20 := u20) (p21 := u21) (p22 := u22) (p23 := u23) (p24 := u24) (p25 := u25)
            case R => exact ⟨by kernel_rfl, by kernel_rfl⟩
            case hQ => exact fun _ _ _ _ _ h => h
            case hi => exact hj1
            case cx => exact CX.out _ I4.out.old
            case hsub => exact hsub
            case hcl => exact HC.out
            case LW => exact LW
            case GW => exact GW
            case MW => exact MW
            case F => exact ⟨rfl, rfl, rfl, rfl, rfl, rfl, rfl, rfl, rfl, rfl, rfl, rfl, rfl, rfl, rfl, rfl, rfl, rfl, rfl, rfl, rfl, rfl, rfl, rfl, rfl, rfl, rfl, rfl⟩
            intro a2 F2 f70
            refine lim_frame F2.size F2.defers F2.s0 F2.s1 F2.s2 F2.s3 F2.s4 F2.s5 F2.s6 F2.s7 F2.s8 F2.s9 F2.s10 F2.s11 F2.s12 F2.s13 F2.s14 F2.s15 F2.s16 F2.s17 F2.s18 F2.s19 F2.s20 F2.s21 F2.s22 F2.s23 F2.s24 F2.s25 f70 ?_
            intros
            clear F2 f70 LW GW MW hsub hmg I3 cx3 h14
            generalize w3.drew = w4 at I4 ⊢
            clear nm hxr CX
            by_cases h0 : q2 = 0
            · have AW := Lib.hid (I4.out.none (i := (q2 : Int) - 1) (by omega))
              have q0 : ¬ (0 : Int) < (q2 : Int) := by omega
              clear h0
              go_wp2_with fail
              refine AW.out.mono ?_
              rintro e w5 ⟨v5, rfl, h5, b5⟩
              simp only [Option.elim_none, Option.isSome_none] at h5 ⊢
              obtain ⟨A5, c5, rfl, _⟩ := HasC.shape h5
              simp only [List.length_nil] at h5 ⊢
              have I5 := Lib.hid (I4.out.laid (b5.alloc b5.size (.cells #[.slice A5 0 c5, .bool false] 31)))
              clear AW h5 b5
              go_wp2
              go_roundw
              case rel => exact ⟨j + 1, q2, c2, by go_num, rfl, by omega, by omega, q240, I5⟩
              case measure => simp [intOf]; omega
            · obtain ⟨t, hk⟩ : ∃ t, q2 = t + 1 := ⟨q2 - 1, by omega⟩
              have AW := Lib.hid (I4.out.last q240 hk)
              have q0 : (0 : Int) < (q2 : Int) := by omega
              have h6 : (q2 : Int) - 1 = (t : Int) := by omega
              clear hk h0
              go_wp2_with fail
              refine AW.out.mono ?_
              rintro e w5 ⟨v5, rfl, h5, b5⟩
              simp only [Option.elim_some, Option.isSome_some, rowk] at h5 ⊢
              obtain ⟨g5, c5, rfl, hc5, _, hg5, e5⟩ := one_cell (r := 295) h5
              have x5 : (w5.alloc (.cells #[.slice (some ⟨g5, 0, none⟩) 1 c5, .bool false] 31)).cell? ⟨g5, 0, none⟩ = some (.int .i32 295) := (World.cell?_of_block (a := ⟨g5, 0, none⟩) (Below.heap_alloc w5 _ g5 hg5)).trans e5
              have I5 := Lib.hid (I4.out.laid (b5.alloc b5.size (.cells #[.slice (some ⟨g5, 0, none⟩) 1 c5, .bool false] 31)))
              clear AW h5 b5 e5
              go_wp2
              go_roundw
              case rel => exact ⟨j + 1, q2, c2, by go_num, rfl, by omega, by omega, q240, I5⟩
              case measure => simp [intOf]; omega
          · go_wp2
            go_ret
            exact ⟨rfl, J.out.old⟩
        · go_wp2
          go_ret
          exact ⟨rfl, J.out.old⟩

-- WHAT THE WALK GIVES, FOR EVERY ARGUMENT AND EVERY WORLD THAT HOLDS THE TABLE.
set_option maxRecDepth 100000 in
theorem contract (H : Type) (enc : TypeId × Value → H) (W : World) (base : Nat) (args : Array Value) (ds gs : List (DataW H)) (before : List MemPlace)
    (hval : ∀ (j : Nat) t v, Tryd.f17.params[j]? = some t → args[j]? = some v → Value.okWide Tryd.prog W .any base t v)
    (hW : DataW.Whole enc Tryd.prog Tryd.f17.params.toList Rows.storeLimitsSpec.vars false W args.toList ds gs before) (hL : laidMetH Tryd.prog Rows.storeLimitsRow.laid W) :
    Calls Tryd.prog 17 args W fun e W' => ∃ v, e = .returned v ∧ Rows.storeLimitsSpec.post enc Tryd.prog Tryd.f17 false true false false W args v W' := by
  have hW' := hW
  obtain ⟨p, q, hA0, hV, rfl, hfz, hnd⟩ := hW
  have hA : DataW.TrodAll enc Tryd.prog W 0 (fun _ => true) true Tryd.f17.params.toList args.toList ds p := hA0
  rw [Tryd.params17] at hA hval
  obtain ⟨v0, vs0, d0, ds0, p0, q0, hargs, rfl, rfl, h0, r0⟩ := trodAll_cons hA
  obtain ⟨rfl, rfl, rfl⟩ := trodAll_nil r0
  obtain rfl : args = #[v0] := by cases args; simp_all
  obtain ⟨rfl, rfl⟩ := trodVars_none hV
  obtain ⟨Ax, nx, cx, x, rfl, hcx, hmx, hrx, hqx⟩ := open_nums (hval 0 48 v0 rfl rfl) h0
  clear hA0
  refine (walk Ax nx cx x hcx hmx hrx W (spans_of hL) hqx).mono fun e W' ⟨he, hg⟩ => ?_
  subst he
  exact ⟨_, rfl, close rfl hW' ⟨rfl, rfl, rfl⟩ (by kernel_rfl) (by kernel_rfl) hg⟩

set_option maxRecDepth 100000 in
theorem laid_met (os : Os) : laidMet Tryd.prog Rows.storeLimitsRow.laid ((laidWorld os).forCall (fun _ _ => 0) ⟨#[], #[.slice none 0 0], []⟩).memory :=
  laidMet_of_run' 8 (by kernel_rfl) (by kernel_rfl)
set_option maxRecDepth 100000 in
theorem reads (os : Os) {H : Type} (enc : TypeId × Value → H) : ∃ places, DataW.whole enc Tryd.prog ((laidWorld os).forCall (fun _ _ => 0) ⟨#[], #[.slice none 0 0], []⟩).memory Tryd.f17.params.toList Rows.storeLimitsSpec.vars false (#[.slice none 0 0] : Array Value).toList 8 = some ([.nil], [], places) :=
  ⟨[], by kernel_rfl⟩

set_option maxRecDepth 100000 in
theorem lifted (os : Os) (started : os.Started) (H : Type) (enc : TypeId × Value → H) (F : Stop.Interp) :
    ReturnsInHanded {} Tryd.checked os 17 .any ((OpenSpec.ofChange Rows.storeLimitsSpec).preRow enc Tryd.prog Tryd.f17 Rows.storeLimitsRow.domain false Rows.storeLimitsRow.laid) (((OpenSpec.ofChange Rows.storeLimitsSpec).at F).post enc Tryd.prog Tryd.f17 false true false false) := by
  obtain ⟨places, hx⟩ := reads os enc
  refine returnsInHanded_of_row (C := Tryd.checked) (s := OpenSpec.ofChange Rows.storeLimitsSpec) ownNone started (by kernel_rfl) Tryd.func17
    (witness_row_at (enc := enc) (C := Tryd.checked) false (laidWorld os) #[.slice none 0 0] rfl (by kernel_rfl) (by kernel_rfl) (by kernel_rfl)
      (OpenSpec.preRow_of_cond 8 hx (by kernel_rfl) (fun k hk => by cases hk) (by kernel_rfl) (laid_met os))) ?_
  intro W base args ds gs before hval hW _ _ _ hL _ _
  exact contract H enc W base args ds gs before hval hW hL

set_option maxRecDepth 100000 in
theorem said : Rows.StoreLimitsSaid :=
  OpenClaim.holds_of_cond 17 Tryd.f17 rfl rfl rfl rfl rfl rfl rfl ⟨rfl, rfl, rfl, rfl, rfl⟩ rfl rfl rfl rfl rfl (by kernel_rfl) Tryd.func17 (by kernel_rfl)
    (of_decide_eq_true (by kernel_rfl)) (by unfold Func.isWrapper; first | (rw [if_pos (by decide +kernel)]; kernel_rfl) | (rw [if_neg (by decide +kernel)]; exact ⟨rfl, rfl⟩))
    (fun os started H enc _ F => by rw [OpenClaim.pre_eq_preRow]; exact lifted os started H enc F)

-- No parameter wants a stand-in; the program's own looks are off: what the card asks.
set_option maxRecDepth 100000 in
theorem plain (f : FuncId) (fn : Func) (hf : Tryd.pinned.checked.prog.funcNamed "rotulus/rotuluslaw4.StoreLimits" = some f) (hfn : Tryd.pinned.checked.prog.funcs[f]? = some fn) :
    false = Tryd.pinned.checked.prog.looks [] ∧ ∀ (j : Nat) t, fn.params[j]? = some t → Tryd.pinned.checked.prog.wantsStandIn t = false := by
  obtain rfl : f = 17 := Option.some.inj ((show Tryd.prog.funcNamed "rotulus/rotuluslaw4.StoreLimits" = some 17 by kernel_rfl).symm.trans hf) |>.symm
  obtain rfl : fn = Tryd.f17 := (Option.some.inj (Tryd.func17.symm.trans hfn)).symm
  refine ⟨by kernel_rfl, fun j t ht => ?_⟩
  rw [Tryd.params17] at ht
  have hm := Array.mem_of_getElem? ht
  simp at hm
  subst hm
  exact (show Tryd.prog.wantsStandIn 48 = false by kernel_rfl)

-- The card.
set_option maxRecDepth 100000 in
theorem card : Rows.StoreLimitsCardSaid :=
  Claim7.holds_tied_plain_at .later [] _ _ _ _ said (fun _ h => by cases h) (by kernel_rfl) (fun _ h => by cases h) storeLimits_row_tie rfl ⟨rfl, rfl⟩ (by kernel_rfl) rfl plain (by kernel_rfl)
end Go.Proofs.YtnhgonlobgpbiaaDoor.storeLimits
