/-
  The statement PackShort: a row of alike cells takes few bytes, however long. For every sign, every attribute (of which the last eight bits count) and every length (taken modulo 300); it holds where the table of widths is as its initialiser lays it, which the card ties to the program's text.
-/
import Derived.Test.YtikdlikdknfcfaaDoorBegun
import Derived.Test.YtikdlikdknfcfaaDoorBegun4
import Derived.Test.YtikdlikdknfcfaaDoorArgs
import Derived.Test.YtikdlikdknfcfaaDoorRefCells
import Derived.Test.YtikdlikdknfcfaaDoorAnd255
import Derived.Test.YtikdlikdknfcfaaDoorPut
import Derived.Test.YtikdlikdknfcfaaDoorGrow
import Derived.Test.YtikdlikdknfcfaaDoorStr
import Derived.Deep.RegionLaw
namespace Go.Proofs.YtikdlikdknfcfaaDoor.packShort
open Go.ChangeShapes Go.WideShapes Go.ChangeAt Go.RowKit

theorem tmod_range (x : Int) (m : Int) (hm : 0 < m) : -m < x.tmod m ∧ x.tmod m < m := by
  have h1 := Int.tmod_lt_of_pos x hm
  have h2 := Int.tmod_lt_of_pos (-x) hm
  rw [Int.neg_tmod] at h2
  omega
theorem mayB_one {r a : Int} (h0 : 0 ≤ a) (h1 : a ≤ 255) (hw : wof r = 1) : mayB (r, 1, a) = true := by
  unfold mayB
  simp [h0, h1, hw]
theorem mayGo_alike {r a : Int} (h0 : 0 ≤ a) (h1 : a ≤ 255) (hw : wof r = 1) : ∀ (n : Nat) (p : Cel), p.2.1 = 1 → mayGo p (List.replicate n (r, 1, a)) = true
  | 0, p, hp => by simp [mayGo, hp]
  | n + 1, p, hp => by
    rw [List.replicate_succ, mayGo, mayB_one h0 h1 hw, mayGo_alike h0 h1 hw n _ rfl]
    simp [hp]
theorem mayL_alike {r a : Int} (h0 : 0 ≤ a) (h1 : a ≤ 255) (hw : wof r = 1) {n : Nat} (hn : n ≤ 300) : mayL (List.replicate n (r, 1, a)) = true := by
  unfold mayL
  rw [mayGo_alike h0 h1 hw n _ rfl, List.length_replicate]
  simp [hn]
theorem uintL_le (n k : Nat) (h : n < 128 ^ k) (hk : 1 ≤ k) : (uintL n).length ≤ k := by
  induction k generalizing n with
  | zero => omega
  | succ k ih =>
    by_cases hb : n < 128
    · rw [uintL_small hb]; simp
    · rw [uintL_big hb, List.length_cons]
      have hk1 : 1 ≤ k := by
        rcases Nat.eq_zero_or_pos k with h0 | h0
        · subst h0; simp at h; omega
        · exact h0
      have := ih (n / 128) (by rw [Nat.pow_succ] at h; exact Nat.div_lt_of_lt_mul (by rw [Nat.mul_comm]; exact h)) hk1
      omega
theorem putL_alike {r a : Int} (h0 : 0 ≤ a) (h1 : a ≤ 255) (hw : wof r = 1) (hr : r ≤ 2147483647) (n : Nat) (hn : n ≤ 300) : (putL false (List.replicate n (r, 1, a))).length ≤ 10 := by
  obtain ⟨r0, r1⟩ := wof_small hr (by omega)
  cases n with
  | zero => simp [putL, runsOf, headOf, uintL_small]
  | succ n =>
    have e := runs_replicate ((r, 1, a) : Cel) n [] [] rfl (fun x ys h => by cases h)
    rw [List.append_nil] at e
    unfold putL
    rw [e]
    simp only [List.flatMap_cons, List.flatMap_nil, List.append_nil, List.length_cons, List.length_nil, runBytes, List.length_append, headOf]
    have e1 := uintL_le (2 * (0 + 1) + if false = true then 1 else 0) 1 (by decide) (by omega)
    have e2 := uintL_le (n + 1) 2 (by omega) (by omega)
    have e3 := uintL_le r.toNat 4 (by omega) (by omega)
    have e4 := uintL_le (1 : Int).toNat 1 (by decide) (by omega)
    have e5 := uintL_le a.toNat 2 (by omega) (by omega)
    omega

set_option maxRecDepth 100000 in
set_option maxHeartbeats 6400000 in
theorem walk (x : Int) (hx : -2147483648 ≤ x ∧ x ≤ 2147483647) (y : Int) (hy : -9223372036854775808 ≤ y ∧ y ≤ 9223372036854775807) (z : Int) (hz : -9223372036854775808 ≤ z ∧ z ≤ 9223372036854775807) (w : World) (hs : Spans w) :
    Calls Tryd.prog 6 #[.int .i32 x, .int .i64 y, .int .i64 z] w fun e w' => e = .returned (.bool true) ∧ Below w.heap.size w w' := by
  obtain ⟨i0, hi, hz0, hz1, hz2⟩ := info_parts infoCell
  have tz := (And.intro (And.intro hy hz) (tmod_range z 300 (by omega))).2
  obtain ⟨n, hn⟩ : ∃ n : Nat, (z.tmod 300 + 300).tmod 300 = (n : Int) := ⟨((z.tmod 300 + 300).tmod 300).toNat, by have := tmod_range (z.tmod 300 + 300) 300 (by omega); have := Int.tmod_nonneg 300 (show 0 ≤ z.tmod 300 + 300 by omega); omega⟩
  have n300 : n < 300 := by have := tmod_range (z.tmod 300 + 300) 300 (by omega); omega
  have S := Lib.hid hs
  have HX := Lib.hid hx
  clear hs hy hz hx
  go_enter Tryd.func6, Tryd.ntmps6
  go_wp2_with fail
  refine (begun4_walk w S.out).mono ?_
  rintro e w1 ⟨rfl, b1⟩
  have B1 := Lib.hid (And.intro (S.out.below b1 S.out.size) b1)
  clear b1
  go_wp2_with fail
  clear hn
  have ha := and255 y
  generalize bits .and .i64 y 255 = a at ha ⊢
  obtain ⟨ha0, ha1⟩ := ha
  refine (refCells_walk x a HX.out.1 HX.out.2 ha0 ha1 w1).mono ?_
  rintro e w2 ⟨v, rfl, hv, b2⟩
  have hwr := wof_range x
  have hw : wof x = 0 ∨ wof x = 1 ∨ wof x = 2 := by omega
  clear hwr
  rcases hw with hw | hw | hw
  · rw [ofL_no hw] at hv
    obtain ⟨A', c', rfl, hc'⟩ := HasC.shape hv
    have B2 := Lib.hid (B1.out.2.trans (b2.mono B1.out.2.size))
    clear hv hw b2
    go_wp2
    go_ret
    exact ⟨rfl, B2.out⟩
  · rw [ofL_one ha0 ha1 hw] at hv
    obtain ⟨A', c', rfl, hc'⟩ := HasC.shape hv
    have hq := HasC.sq hv
    have MAY := Lib.hid (fun m (h : m ≤ 300) => mayL_alike ha0 ha1 hw (n := m) h)
    have SHORT := Lib.hid (fun m (h : m ≤ 300) => putL_alike ha0 ha1 hw HX.out.2 m h)
    have B2 := Lib.hid (And.intro (B1.out.1.below b2 B1.out.1.size) (B1.out.2.trans (b2.mono B1.out.2.size)))
    obtain ⟨b, off, rfl, hb, hcell⟩ := hq.spot (by simp)
    have q0 := hcell 0 _ rfl
    have q1 := hcell 1 _ rfl
    have q2 := hcell 2 _ rfl
    rw [Nat.add_zero] at q0
    have QS := Lib.hid (And.intro q0 (And.intro q1 q2))
    clear hv hq hcell hw b2 q0 q1 q2
    simp only [List.length_cons, List.length_nil, Nat.zero_add]
    have R3 := Lib.hid (show RowAt (w2.alloc (.cells #[.slice none 0 0, .bool false] 31)) w2.heap.size (.slice none 0 0) false from heap_alloc_new w2 _)
    have B3 := Lib.hid ((Below.refl w2.heap.size w2).alloc (Nat.le_refl _) (.cells #[.slice none 0 0, .bool false] 31))
    obtain ⟨g, hgs⟩ : ∃ g, w2.heap.size = g := ⟨_, rfl⟩
    have GS := Lib.hid hgs
    rw [hgs] at hb B3 R3
    go_wp2_with fail
    generalize w2.alloc (.cells #[.slice none 0 0, .bool false] 31) = w3 at R3 B3 ⊢
    clear hgs
    go_loopw [10] (fun i wr => ∃ (k : Nat) (v : Value), i = .int .i64 k ∧ k ≤ n ∧ Hid (RowAt wr g v false) ∧ Hid (wr.ownsRow (g + 1) 45 3 v k (flat (List.replicate k (x, 1, a)))) ∧ Hid (Below g w2 wr)) (fun i _ => n - (intOf i).toNat)
    case atStart => exact ⟨0, _, rfl, Nat.zero_le _, R3, Lib.hid (World.ownsRow_nil _ _ _ _), B3⟩
    case round =>
      obtain ⟨k, v, rfl, hk, R, O, B⟩ := hrel
      clear R3 B3
      obtain ⟨Av, cv, rfl, hcv⟩ := own_cap O.out
      have OL := Lib.hid (fun j e => World.ownsRow.lt O.out j e)
      have hgl := R.out.lt
      have r0 := R.out.get 0
      by_cases hlt : k < n
      · have q0 := (B.out.cell (p := ⟨b, off, none⟩) hb).trans QS.out.1
        have q1 := (B.out.cell (p := ⟨b, off + 1, none⟩) hb).trans QS.out.2.1
        have q2 := (B.out.cell (p := ⟨b, off + 2, none⟩) hb).trans QS.out.2.2
        clear B1 B2 QS
        go_wp2_with fail
        go_region_law (
          refine step_app rfl _ _ 29 rfl (g + 1) 45 i0 (.agg #[.int .i32 0, .int .i64 0, .int .i64 0]) 3 24 Tryd.underlying29 hi hz0 hz1 hz2 rfl (by decide) (.slice Av k cv) k (flat (List.replicate k (x, 1, a))) rfl (own_keep O.out fun j e => Below.heap_alloc wr _ j (OL.out j e).2) (some ⟨wr.heap.size, 0, none⟩) 1 1 [.int .i32 x, .int .i64 1, .int .i64 a] rfl (wr.heap.size + 1) ⟨rfl, fun _ => ⟨wr.heap.size, 0, rfl, by simp, fun j u hu => (cell_of_row _ _ _ _ _ (0, 0) (heap_alloc_new wr _)).trans (by rw [Nat.zero_add, List.getElem?_toArray]; exact hu)⟩⟩ (cel_cells x 1 a) (by unfold maxLen; omega) (by omega) (by simp; omega) ?_
          intro A4 c4 w4 hown hg4 _
          have O4 := Lib.hid hown
          have R4 := Lib.hid (show RowAt w4 g (.slice Av k cv) false from (hg4.block g (by simp; omega) (fun e => by have := (OL.out g e.symm).1; omega)).trans ((Below.heap_alloc wr _ g hgl).trans R.out))
          have B4 := Lib.hid (show Below g w2 w4 from ⟨hg4.os.trans B.out.os, hg4.tape.trans B.out.tape, hg4.output.trans B.out.output, Nat.le_trans B.out.size (Nat.le_trans (by simp) hg4.size), fun j hj => (hg4.block j (by simp; omega) (fun e => by have := (OL.out j e.symm).1; omega)).trans ((Below.heap_alloc wr _ j (by omega)).trans (B.out.block j hj))⟩)
          have t0 : w4.cell? ⟨g, 0, none⟩ = some (.slice Av k cv) := R4.out.get 0
          have f0 := R4.out.free 0
          clear hown hg4)
        all_goals
          have R5 := Lib.hid (RowAt.put R4.out (.slice A4 (k + 1) c4))
          have O5 := Lib.hid (show (w4.setCell ⟨g, 0, none⟩ (.slice A4 (k + 1) c4)).ownsRow (g + 1) 45 3 (.slice A4 (k + 1) c4) (k + 1) (flat (List.replicate (k + 1) (x, 1, a))) from by
            rw [List.replicate_succ', flat_append]
            exact own_keep O4.out fun j e => Below.heap_setCell _ _ _ _ (by have := (World.ownsRow.lt O4.out j e).1; show j ≠ g; omega))
          have B5 := Lib.hid (B4.out.setCell (p := ⟨g, 0, none⟩) (Nat.le_refl _) (.slice A4 (k + 1) c4))
          clear t0 f0
          go_wp2
          go_roundw
          case rel => exact ⟨k + 1, _, by go_num, by omega, R5, O5, B5⟩
          case measure => simp [intOf]; omega
      · obtain rfl : k = n := by omega
        clear r0 OL
        have r0 := R.out.get 0
        have r1 := R.out.get 1
        have hg0 : w2.heap.size = g := GS.out
        have hz : (List.replicate k ((x, 1, a) : Cel)).length = k := List.length_replicate ..
        have Q := Lib.hid (Sq.own O.out)
        go_wp2_with fail
        refine (put_walk Av k cv false (List.replicate k (x, 1, a)) wr (B2.out.1.below B.out (by rw [← hg0]; exact B2.out.1.size)) (fun c h => by rw [(List.mem_replicate.1 h).2]; exact HX.out) Q.out hcv (by omega)).mono ?_
        rintro e w6 ⟨v6, rfl, h6, b6⟩
        have hm := MAY.out k (by omega)
        have hs := SHORT.out k (by omega)
        rw [show putV false (List.replicate k (x, 1, a)) = putL false (List.replicate k (x, 1, a)) by unfold putV; rw [if_pos hm]] at h6
        rw [hm]
        obtain ⟨A6, c6, rfl, _⟩ := HasB.shape h6
        generalize (putL false (List.replicate k (x, 1, a))).length = m6 at hs ⊢
        have hgr : g ≤ wr.heap.size := B.out.size |> fun h => by rw [hg0] at h; exact h
        have B6 := Lib.hid (B2.out.2.trans ((Below.trans B.out (b6.mono hgr)).mono (by rw [← hg0]; exact B2.out.2.size)))
        clear h6 b6 hm r0 r1
        go_wp2
        go_ret
        exact ⟨by simp; omega, B6.out⟩
  · rw [ofL_two ha0 ha1 hw] at hv
    obtain ⟨A', c', rfl, hc'⟩ := HasC.shape hv
    have B2 := Lib.hid (B1.out.2.trans (b2.mono B1.out.2.size))
    clear hv hw b2
    go_wp2
    go_ret
    exact ⟨rfl, B2.out⟩

-- WHAT THE WALK GIVES, FOR EVERY ARGUMENT AND EVERY WORLD THAT HOLDS THE TABLE.
set_option maxRecDepth 100000 in
theorem contract (H : Type) (enc : TypeId × Value → H) (W : World) (base : Nat) (args : Array Value) (ds gs : List (DataW H)) (before : List MemPlace)
    (hval : ∀ (j : Nat) t v, Tryd.f6.params[j]? = some t → args[j]? = some v → Value.okWide Tryd.prog W .any base t v)
    (hW : DataW.Whole enc Tryd.prog Tryd.f6.params.toList Rows.packShortSpec.vars false W args.toList ds gs before) (hL : laidMetH Tryd.prog Rows.packShortRow.laid W) :
    Calls Tryd.prog 6 args W fun e W' => ∃ v, e = .returned v ∧ Rows.packShortSpec.post enc Tryd.prog Tryd.f6 false true false false W args v W' := by
  have hW' := hW
  obtain ⟨p, q, hA0, hV, rfl, hfz, hnd⟩ := hW
  have hA : DataW.TrodAll enc Tryd.prog W 0 (fun _ => true) true Tryd.f6.params.toList args.toList ds p := hA0
  rw [Tryd.params6] at hA hval
  obtain ⟨v0, vs0, d0, ds0, p0, q0, hargs, rfl, rfl, h0, r0⟩ := trodAll_cons hA
  obtain ⟨v1, vs1, d1, ds1, p1, q1, rfl, rfl, rfl, h1, r1⟩ := trodAll_cons r0
  obtain ⟨v2, vs2, d2, ds2, p2, q2, rfl, rfl, rfl, h2, r2⟩ := trodAll_cons r1
  obtain ⟨rfl, rfl, rfl⟩ := trodAll_nil r2
  obtain rfl : args = #[v0, v1, v2] := by cases args; simp_all
  obtain ⟨rfl, rfl⟩ := trodVars_none hV
  obtain ⟨x, rfl, rfl, rfl, wx⟩ := open_int Tryd.underlying21 (hval 0 21 v0 rfl rfl) h0
  obtain ⟨y, rfl, rfl, rfl, wy⟩ := open_int Tryd.underlying3 (hval 1 3 v1 rfl rfl) h1
  obtain ⟨z, rfl, rfl, rfl, wz⟩ := open_int Tryd.underlying3 (hval 2 3 v2 rfl rfl) h2
  clear hA0
  refine (walk x (wf_i32 wx) y (wf_i64 wy) z (wf_i64 wz) W (spans_of hL) ).mono fun e W' ⟨he, hg⟩ => ?_
  subst he
  exact ⟨_, rfl, close rfl hW' ⟨rfl, rfl, rfl⟩ (by kernel_rfl) (by kernel_rfl) hg⟩

set_option maxRecDepth 100000 in
theorem laid_met (os : Os) : laidMet Tryd.prog Rows.packShortRow.laid ((laidWorld os).forCall (fun _ _ => 0) ⟨#[], #[.int .i32 0, .int .i64 0, .int .i64 0], []⟩).memory :=
  laidMet_of_run' 8 (by kernel_rfl) (by kernel_rfl)
set_option maxRecDepth 100000 in
theorem reads (os : Os) {H : Type} (enc : TypeId × Value → H) : ∃ places, DataW.whole enc Tryd.prog ((laidWorld os).forCall (fun _ _ => 0) ⟨#[], #[.int .i32 0, .int .i64 0, .int .i64 0], []⟩).memory Tryd.f6.params.toList Rows.packShortSpec.vars false (#[.int .i32 0, .int .i64 0, .int .i64 0] : Array Value).toList 8 = some ([.lit (.int .i32 0), .lit (.int .i64 0), .lit (.int .i64 0)], [], places) :=
  ⟨[], by kernel_rfl⟩

set_option maxRecDepth 100000 in
theorem lifted (os : Os) (started : os.Started) (H : Type) (enc : TypeId × Value → H) (F : Stop.Interp) :
    ReturnsInHanded {} Tryd.checked os 6 .any ((OpenSpec.ofChange Rows.packShortSpec).preRow enc Tryd.prog Tryd.f6 Rows.packShortRow.domain false Rows.packShortRow.laid) (((OpenSpec.ofChange Rows.packShortSpec).at F).post enc Tryd.prog Tryd.f6 false true false false) := by
  obtain ⟨places, hx⟩ := reads os enc
  refine returnsInHanded_of_row (C := Tryd.checked) (s := OpenSpec.ofChange Rows.packShortSpec) ownNone started (by kernel_rfl) Tryd.func6
    (witness_row_at (enc := enc) (C := Tryd.checked) false (laidWorld os) #[.int .i32 0, .int .i64 0, .int .i64 0] rfl (by kernel_rfl) (by kernel_rfl) (by kernel_rfl)
      (OpenSpec.preRow_of_cond 8 hx (by kernel_rfl) (fun k hk => by cases hk) (by kernel_rfl) (laid_met os))) ?_
  intro W base args ds gs before hval hW _ _ _ hL _ _
  exact contract H enc W base args ds gs before hval hW hL

set_option maxRecDepth 100000 in
theorem said : Rows.PackShortSaid :=
  OpenClaim.holds_of_cond 6 Tryd.f6 rfl rfl rfl rfl rfl rfl rfl ⟨rfl, rfl, rfl, rfl, rfl⟩ rfl rfl rfl rfl rfl (by kernel_rfl) Tryd.func6 (by kernel_rfl)
    (of_decide_eq_true (by kernel_rfl)) (by unfold Func.isWrapper; first | (rw [if_pos (by decide +kernel)]; kernel_rfl) | (rw [if_neg (by decide +kernel)]; exact ⟨rfl, rfl⟩))
    (fun os started H enc _ F => by rw [OpenClaim.pre_eq_preRow]; exact lifted os started H enc F)

-- No parameter wants a stand-in; the program's own looks are off: what the card asks.
set_option maxRecDepth 100000 in
theorem plain (f : FuncId) (fn : Func) (hf : Tryd.pinned.checked.prog.funcNamed "rotulus/rotuluslaw4.PackShort" = some f) (hfn : Tryd.pinned.checked.prog.funcs[f]? = some fn) :
    false = Tryd.pinned.checked.prog.looks [] ∧ ∀ (j : Nat) t, fn.params[j]? = some t → Tryd.pinned.checked.prog.wantsStandIn t = false := by
  obtain rfl : f = 6 := Option.some.inj ((show Tryd.prog.funcNamed "rotulus/rotuluslaw4.PackShort" = some 6 by kernel_rfl).symm.trans hf) |>.symm
  obtain rfl : fn = Tryd.f6 := (Option.some.inj (Tryd.func6.symm.trans hfn)).symm
  refine ⟨by kernel_rfl, fun j t ht => ?_⟩
  rw [Tryd.params6] at ht
  have hm := Array.mem_of_getElem? ht
  simp at hm
  rcases hm with rfl | rfl
  · exact (show Tryd.prog.wantsStandIn 21 = false by kernel_rfl)
  · exact (show Tryd.prog.wantsStandIn 3 = false by kernel_rfl)

-- The card.
set_option maxRecDepth 100000 in
theorem card : Rows.PackShortCardSaid :=
  Claim7.holds_tied_plain_at .later [] _ _ _ _ said (fun _ h => by cases h) (by kernel_rfl) (fun _ h => by cases h) packShort_row_tie rfl ⟨rfl, rfl⟩ (by kernel_rfl) rfl plain (by kernel_rfl)
end Go.Proofs.YtikdlikdknfcfaaDoor.packShort
