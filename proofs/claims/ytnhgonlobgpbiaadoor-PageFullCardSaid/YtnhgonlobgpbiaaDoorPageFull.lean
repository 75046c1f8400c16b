/-
  The statement PageFull: sixteen rows, and not one more; once some are gone there is room again. For every pair of integers (the rows are taken modulo 25, the cut modulo 20); it holds where the table of widths is as its initialiser lays it, which the card ties to the program's text.
-/
import Derived.Test.YtnhgonlobgpbiaaDoorBegun
import Derived.Test.YtnhgonlobgpbiaaDoorBegun4
import Derived.Test.YtnhgonlobgpbiaaDoorArgs
import Derived.Test.YtnhgonlobgpbiaaDoorTurn
namespace Go.Proofs.YtnhgonlobgpbiaaDoor.pageFull
open Go.ChangeShapes Go.WideShapes Go.ChangeAt Go.RowKit

def rowp (i : Nat) : PRow := (false, [(97 + (i : Int), 1, 0)])
def fullR (i : Nat) : List PRow := (List.range (min i 16)).map rowp
theorem fullR_len (i : Nat) : (fullR i).length = min i 16 := by unfold fullR; simp
theorem rowp_may : ∀ i, i < 25 → mayL (rowp i).2 = true := by decide +kernel
theorem fullR_next (i : Nat) (hi : i < 25) (ok : Bool) (h : ok = (mayL (rowp i).2 && decide ((fullR i).length < 16))) : (if ok then fullR i ++ [rowp i] else fullR i) = fullR (i + 1) ∧ ok = decide (i < 16) := by
  rw [rowp_may i hi, Bool.true_and, fullR_len] at h
  by_cases h16 : i < 16
  · have : ok = true := by rw [h]; exact decide_eq_true (by omega)
    subst this
    refine ⟨?_, (decide_eq_true h16).symm⟩
    rw [if_pos rfl]
    unfold fullR
    rw [show min i 16 = i by omega, show min (i + 1) 16 = i + 1 by omega, List.range_succ, List.map_append]
    rfl
  · have : ok = false := by rw [h]; exact decide_eq_false (by omega)
    subst this
    refine ⟨?_, (decide_eq_false h16).symm⟩
    rw [if_neg (by decide)]
    unfold fullR
    rw [show min i 16 = 16 by omega, show min (i + 1) 16 = 16 by omega]
theorem fullR_drop (n c : Nat) (h : c < min n 16) : ((fullR n).drop c)[0]? = some (rowp c) := by
  unfold fullR
  rw [List.getElem?_drop, List.getElem?_map, List.getElem?_range (by omega)]
  rfl
/-- Between two rows. -/
structure FullAt (w0 : World) (g : Nat) (rows : List PRow) (W : World) : Prop where
  sp : Spans W
  old : Below w0.heap.size w0 W
  pg : ∃ vs, PageAt W g g vs rows
theorem FullAt.laid {w0 W W' : World} {g : Nat} {rows : List PRow} (h : FullAt w0 g rows W) (hb : Below W.heap.size W W') : FullAt w0 g rows W' :=
  ⟨h.sp.below hb h.sp.size, h.old.trans (hb.mono h.old.size), let ⟨vs, p⟩ := h.pg; ⟨vs, p.below hb⟩⟩
theorem FullAt.turned {w0 W W' : World} {g : Nat} {rows rows' : List PRow} (h : FullAt w0 g rows W) (hs : Spans w0) (hg : w0.heap.size ≤ g) (ht : Turned (· = g) W W') (hp : ∃ vs, PageAt W' g g vs rows') : FullAt w0 g rows' W' := by
  have hb : Below w0.heap.size W W' := ht.toBelow h.old.size (fun k hk e => by omega)
  exact ⟨h.sp.below hb hs.size, h.old.trans hb, hp⟩
/-- One row more, if there is room. -/
theorem FullAt.add {w0 W : World} {g k : Nat} (h : FullAt w0 g (fullR k) W) (hs : Spans w0) (hg : w0.heap.size ≤ g) (hk : k < 25) :
    Calls Tryd.prog 34 #[ptr g, .agg #[.slice (some ⟨W.heap.size, 0, none⟩) 1 1, .bool false]] (W.alloc (.cells #[.int .i32 (97 + (k : Int)), .int .i64 1, .int .i64 0] 45)) fun e w' => e = .returned (.bool (decide (k < 16))) ∧ Hid (FullAt w0 g (fullR (k + 1)) w') := by
  have bb := (Below.refl W.heap.size W).alloc (Nat.le_refl _) (.cells #[.int .i32 (97 + (k : Int)), .int .i64 1, .int .i64 0] 45)
  have h1 := h.laid bb
  obtain ⟨vs, hp⟩ := h1.pg
  refine (pageAdd_walk g g vs (fullR k) (some ⟨W.heap.size, 0, none⟩) 1 1 false [(97 + (k : Int), 1, 0)] _ h1.sp hp (Nat.le_of_lt hp.lt) (fun c hc => by rw [List.mem_singleton.1 hc]; simp only; omega) ⟨rfl, fun _ => ⟨W.heap.size, 0, rfl, by simp, fun j u hu => (cell_of_row _ _ _ _ _ (0, 0) (heap_alloc_new W _)).trans (by rw [Nat.zero_add, List.getElem?_toArray]; exact hu)⟩⟩ (Nat.le_refl _) (by decide)).mono ?_
  rintro e w' ⟨ok, vs', hok, rfl, hp', g', _⟩
  obtain ⟨e1, e2⟩ := fullR_next k hk ok hok
  refine ⟨ret_bool e2, ?_⟩
  have t' := (Turned.ofGrown g').mono (M' := (· = g)) fun j _ e => by injection e with e; exact e.symm
  have hp2 : PageAt w' g g vs' (fullR (k + 1)) := by rw [← e1]; exact hp'
  exact h1.turned hs hg t' ⟨vs', hp2⟩
theorem FullAt.len {w0 W : World} {g : Nat} {rows : List PRow} (h : FullAt w0 g rows W) : Calls Tryd.prog 37 #[ptr g] W fun e w' => e = .returned (.int .i64 (rows.length : Int)) ∧ W = w' := by
  obtain ⟨vs, hp⟩ := h.pg
  exact pageLen_walk g g vs rows W hp
theorem FullAt.cut {w0 W : World} {g c : Nat} {rows : List PRow} (h : FullAt w0 g rows W) (hs : Spans w0) (hg : w0.heap.size ≤ g) (hc : c ≤ rows.length) :
    Calls Tryd.prog 35 #[ptr g, .int .i64 (c : Int)] W fun e w' => e = .returned (.bool true) ∧ Hid (FullAt w0 g (rows.drop c) w') := by
  obtain ⟨vs, hp⟩ := h.pg
  refine (pageCut_walk g g vs rows c W hp hc).mono ?_
  rintro e w' ⟨rfl, hp', o'⟩
  exact ⟨rfl, h.turned hs hg (Turned.ofOnly o') ⟨_, hp'⟩⟩
theorem FullAt.cutNot {w0 W : World} {g c : Nat} {rows : List PRow} (h : FullAt w0 g rows W) (hc : rows.length < c) :
    Calls Tryd.prog 35 #[ptr g, .int .i64 (c : Int)] W fun e w' => e = .returned (.bool false) ∧ W = w' := by
  obtain ⟨vs, hp⟩ := h.pg
  exact pageCut_none g g vs rows c W hp (.inr (by omega))
theorem FullAt.addNone {w0 W : World} {g : Nat} {rows : List PRow} (h : FullAt w0 g rows W) (hg : w0.heap.size ≤ g) :
    Calls Tryd.prog 34 #[ptr g, .agg #[.slice none 0 0, .bool false]] W fun e w' => e = .returned (.bool (decide (rows.length < 16))) ∧ Below w0.heap.size w0 w' ∧ Turned (· = g) W w' := by
  obtain ⟨vs, hp⟩ := h.pg
  refine (pageAdd_walk g g vs rows none 0 0 false [] W h.sp hp (Nat.le_of_lt hp.lt) (fun c hc => by cases hc) ⟨rfl, fun h => absurd h (by decide)⟩ (Nat.le_refl _) (by decide)).mono ?_
  rintro e w' ⟨ok, vs', hok, rfl, hp', g', _⟩
  rw [nil_may, Bool.true_and] at hok
  exact ⟨ret_bool hok, h.old.trans ((Turned.ofGrown g').toBelow h.old.size (fun k hk e => by injection e with e; omega)), (Turned.ofGrown g').mono (M' := (· = g)) fun j _ e => by injection e with e; exact e.symm⟩
theorem FullAt.at0 {w0 W : World} {g : Nat} {rows : List PRow} (h : FullAt w0 g rows W) : Calls Tryd.prog 36 #[ptr g, .int .i64 0] W fun e w' => AtPost rows[0]? W e w' := by
  obtain ⟨vs, hp⟩ := h.pg
  cases hr : rows[0]? with
  | none => exact pageAt_none g g vs rows 0 W hp (.inr (by have := List.getElem?_eq_none_iff.1 hr; omega))
  | some r => exact pageAt_some g g vs rows 0 r W h.sp hp hr
set_option maxRecDepth 100000 in
set_option maxHeartbeats 6400000 in
theorem walk (x : Int) (hx : -9223372036854775808 ≤ x ∧ x ≤ 9223372036854775807) (y : Int) (hy : -9223372036854775808 ≤ y ∧ y ≤ 9223372036854775807) (w : World) (hs : Spans w) : Calls Tryd.prog 15 #[.int .i64 x, .int .i64 y] w fun e w' => e = .returned (.bool true) ∧ Below w.heap.size w w' := by
  have tx := (And.intro (And.intro hx hy) (tmod_range x 25 (by omega))).2
  have ty := tmod_range y 20 (by omega)
  obtain ⟨n, hL⟩ : ∃ n : Nat, x.tmod 25 % 25 = (n : Int) := ⟨(x.tmod 25 % 25).toNat, by omega⟩
  obtain ⟨c, hn⟩ : ∃ c : Nat, y.tmod 20 % 20 = (c : Int) := ⟨(y.tmod 20 % 20).toNat, by omega⟩
  have n25 : n < 25 := by omega
  have c20 : c < 20 := by omega
  have S := Lib.hid hs
  clear hs hx hy
  go_enter Tryd.func15, Tryd.ntmps15
  go_wp2_with fail
  refine (begun4_walk w S.out).mono ?_
  rintro e w1 ⟨rfl, b1⟩
  have B1 := Lib.hid (And.intro (S.out.below b1 S.out.size) b1)
  clear b1
  go_wp2_with fail
  refine (pageNew_walk w1).mono ?_
  rintro e w2 ⟨rfl, hp2, b2, z2⟩
  have G := Lib.hid (show w.heap.size ≤ w1.heap.size from B1.out.2.size)
  obtain ⟨g, hg⟩ : ∃ g, w1.heap.size = g := ⟨_, rfl⟩
  have I0 := Lib.hid (show FullAt w g (fullR 0) w2 from ⟨B1.out.1.below b2 B1.out.1.size, B1.out.2.trans (b2.mono B1.out.2.size), [], by rw [← hg]; exact hp2⟩)
  rw [hg] at G ⊢
  clear B1 hp2 b2 z2 hg tx ty
  go_wp2_with fail
  go_loopw [7] (fun i wr => ∃ k : Nat, i = .int .i64 k ∧ k ≤ n ∧ Hid (FullAt w g (fullR k) wr)) (fun i _ => n - (intOf i).toNat)
  case atStart => exact ⟨0, rfl, Nat.zero_le _, I0⟩
  case round =>
    obtain ⟨k, rfl, hk, I⟩ := hrel
    clear I0
    by_cases hlt : k < n
    · have AW := Lib.hid (I.out.add S.out G.out (by omega))
      by_cases h16 : k < 16
      · rw [decide_eq_true h16] at AW
        have i16 : (k : Int) < 16 := by omega
        go_wp2_with fail
        refine AW.out.mono ?_
        rintro e w3 ⟨rfl, I3⟩
        clear AW
        go_wp2
        go_roundw
        case rel => exact ⟨k + 1, by go_num, by omega, I3⟩
        case measure => simp [intOf]; omega
      · rw [decide_eq_false h16] at AW
        have i16 : ¬ (k : Int) < 16 := by omega
        go_wp2_with fail
        refine AW.out.mono ?_
        rintro e w3 ⟨rfl, I3⟩
        clear AW
        go_wp2
        go_roundw
        case rel => exact ⟨k + 1, by go_num, by omega, I3⟩
        case measure => simp [intOf]; omega
    · obtain rfl : k = n := by omega
      obtain ⟨m, hm⟩ : ∃ m, min k 16 = m := ⟨_, rfl⟩
      have h1 : min (k : Int) 16 = (m : Int) := by omega
      have m16 : m ≤ 16 := by omega
      have FL := Lib.hid (show (fullR k).length = m by rw [fullR_len, hm])
      have HM := Lib.hid hm
      clear hm
      by_cases hcm : c ≤ m
      · have CW := Lib.hid (I.out.cut S.out G.out (by rw [FL.out]; exact hcm))
        have i1 : (c : Int) ≤ (m : Int) := by omega
        have i2 : ¬ (m : Int) < (c : Int) := by omega
        go_wp2_with fail
        refine CW.out.mono ?_
        rintro e w3 ⟨rfl, I3⟩
        clear CW
        have DL := Lib.hid (show ((fullR k).drop c).length = m - c by rw [List.length_drop, FL.out])
        go_wp2_with fail
        refine I3.out.at0.mono ?_
        rintro e w4 ⟨v4, rfl, h4, b4⟩
        by_cases hc2 : c < m
        · rw [fullR_drop k c (by rw [HM.out]; exact hc2)] at h4 ⊢
          simp only [Option.elim_some, Option.isSome_some, rowp] at h4 ⊢
          obtain ⟨g5, c5, rfl, hc5, hb5, hg5, e5⟩ := one_cell (r := 97 + (c : Int)) h4
          obtain ⟨d, hd⟩ : ∃ d, m - c = d := ⟨_, rfl⟩
          have hmd : (m : Int) - (c : Int) = (d : Int) := by omega
          rw [hd] at DL
          have GL := Lib.hid (show g < w4.heap.size by
            obtain ⟨vs, hp⟩ := I3.out.pg
            exact Nat.lt_of_lt_of_le hp.lt b4.size)
          have G5 := Lib.hid (show g ≠ g5 by
            obtain ⟨vs, hp⟩ := I3.out.pg
            exact Nat.ne_of_lt (Nat.lt_of_lt_of_le hp.lt hb5))
          have H5 := Lib.hid hg5
          have W4E := Lib.hid (show w4.heap.size < (w4.alloc (.cells #[.slice (some ⟨g5, 0, none⟩) 1 c5, .bool false] 31)).heap.size by simp)
          have R4 := Lib.hid (show (w4.alloc (.cells #[.slice (some ⟨g5, 0, none⟩) 1 c5, .bool false] 31)).cell? ⟨w4.heap.size, 0, none⟩ = some (.slice (some ⟨g5, 0, none⟩) 1 c5) from (cell_of_row _ _ _ _ _ (0, 0) (heap_alloc_new w4 _)).trans rfl)
          have X4 := Lib.hid (show (w4.alloc (.cells #[.slice (some ⟨g5, 0, none⟩) 1 c5, .bool false] 31)).cell? ⟨g5, 0, none⟩ = some (.int .i32 (97 + (c : Int))) from (World.cell?_of_block (a := ⟨g5, 0, none⟩) (Below.heap_alloc w4 _ g5 hg5)).trans e5)
          have I4 := Lib.hid (I3.out.laid (b4.alloc b4.size (.cells #[.slice (some ⟨g5, 0, none⟩) 1 c5, .bool false] 31)))
          have i3 : (c : Int) < (m : Int) := by omega
          have d16 : d ≤ 16 := by omega
          clear h4 b4 I3 e5 hb5 hg5 hd
          go_wp2_with fail
          generalize (w4.alloc (.cells #[.slice (some ⟨g5, 0, none⟩) 1 c5, .bool false] 31)) = W4 at R4 X4 I4 W4E ⊢
          obtain ⟨rp, hrp⟩ : ∃ rp, w4.heap.size = rp := ⟨_, rfl⟩
          rw [hrp] at R4 GL W4E ⊢
          clear H5
          have LW := Lib.hid I4.out.len
          have AW := Lib.hid (I4.out.addNone G.out)
          rw [DL.out] at LW AW
          have r5 : (0 : Int) ≤ 97 + (c : Int) := by omega
          refine LW.out.mono ?_
          rintro e w5 ⟨rfl, rfl⟩
          by_cases hd2 : d < 16
          · rw [decide_eq_true hd2] at AW
            have d2 : (d : Int) < 16 := by omega
            go_wp2_with fail
            refine AW.out.mono ?_
            rintro e w6 ⟨rfl, b6, t6⟩
            have r6 : w6.cell? ⟨rp, 0, none⟩ = some (.slice (some ⟨g5, 0, none⟩) 1 c5) := (World.cell?_of_block (a := ⟨rp, 0, none⟩) (t6.block rp W4E.out (Nat.ne_of_gt GL.out))).trans R4.out
            have x6 : w6.cell? ⟨g5, 0, none⟩ = some (.int .i32 (97 + (c : Int))) := (World.cell?_of_block (a := ⟨g5, 0, none⟩) (t6.block g5 (World.block_lt_of_cell? _ _ X4.out) (Ne.symm G5.out))).trans X4.out
            have B6 := Lib.hid b6
            clear AW LW b6 t6
            go_wp2
            go_ret
            exact ⟨rfl, B6.out⟩
          · rw [decide_eq_false hd2] at AW
            have d2 : ¬ (d : Int) < 16 := by omega
            have d3 : decide ((d : Int) < 16) = false := decide_eq_false d2
            go_wp2_with fail
            refine AW.out.mono ?_
            rintro e w6 ⟨rfl, b6, t6⟩
            have r6 : w6.cell? ⟨rp, 0, none⟩ = some (.slice (some ⟨g5, 0, none⟩) 1 c5) := (World.cell?_of_block (a := ⟨rp, 0, none⟩) (t6.block rp W4E.out (Nat.ne_of_gt GL.out))).trans R4.out
            have x6 : w6.cell? ⟨g5, 0, none⟩ = some (.int .i32 (97 + (c : Int))) := (World.cell?_of_block (a := ⟨g5, 0, none⟩) (t6.block g5 (World.block_lt_of_cell? _ _ X4.out) (Ne.symm G5.out))).trans X4.out
            have B6 := Lib.hid b6
            clear AW LW b6 t6
            go_wp2
            go_ret
            exact ⟨rfl, B6.out⟩
        · obtain rfl : c = m := by omega
          rw [List.drop_eq_nil_of_le (by rw [FL.out]; exact Nat.le_refl _)] at h4 DL I3 ⊢
          simp only [List.getElem?_nil, Option.elim_none, Option.isSome_none] at h4 ⊢
          obtain ⟨A4, c4, rfl, _⟩ := HasC.shape h4
          simp only [List.length_nil] at h4 ⊢
          have I4 := Lib.hid (I3.out.laid (b4.alloc b4.size (.cells #[.slice A4 0 c4, .bool false] 31)))
          clear h4 b4 I3
          go_wp2_with fail
          generalize (w4.alloc (.cells #[.slice A4 0 c4, .bool false] 31)) = W4 at I4 ⊢
          have LW := Lib.hid I4.out.len
          have AW := Lib.hid (I4.out.addNone G.out)
          rw [List.length_nil] at LW AW
          refine LW.out.mono ?_
          rintro e w5 ⟨rfl, rfl⟩
          have d2 : (c : Int) - (c : Int) = 0 := by omega
          go_wp2_with fail
          refine AW.out.mono ?_
          rintro e w6 ⟨rfl, b6, _⟩
          have B6 := Lib.hid b6
          clear AW LW b6
          go_wp2
          go_ret
          exact ⟨rfl, B6.out⟩
      · have CW := Lib.hid (I.out.cutNot (c := c) (by rw [FL.out]; omega))
        have LW := Lib.hid I.out.len
        rw [FL.out] at LW
        have i1 : ¬ (c : Int) ≤ (m : Int) := by omega
        have i2 : (m : Int) < (c : Int) := by omega
        go_wp2_with fail
        refine CW.out.mono ?_
        rintro e w3 ⟨rfl, rfl⟩
        clear CW
        go_wp2_with fail
        refine LW.out.mono ?_
        rintro e w3 ⟨rfl, rfl⟩
        clear LW
        go_wp2
        go_ret
        exact ⟨rfl, I.out.old⟩

-- WHAT THE WALK GIVES, FOR EVERY ARGUMENT AND EVERY WORLD THAT HOLDS THE TABLE.
set_option maxRecDepth 100000 in
theorem contract (H : Type) (enc : TypeId × Value → H) (W : World) (base : Nat) (args : Array Value) (ds gs : List (DataW H)) (before : List MemPlace)
    (hval : ∀ (j : Nat) t v, Tryd.f15.params[j]? = some t → args[j]? = some v → Value.okWide Tryd.prog W .any base t v)
    (hW : DataW.Whole enc Tryd.prog Tryd.f15.params.toList Rows.pageFullSpec.vars false W args.toList ds gs before) (hL : laidMetH Tryd.prog Rows.pageFullRow.laid W) :
    Calls Tryd.prog 15 args W fun e W' => ∃ v, e = .returned v ∧ Rows.pageFullSpec.post enc Tryd.prog Tryd.f15 false true false false W args v W' := by
  have hW' := hW
  obtain ⟨p, q, hA0, hV, rfl, hfz, hnd⟩ := hW
  have hA : DataW.TrodAll enc Tryd.prog W 0 (fun _ => true) true Tryd.f15.params.toList args.toList ds p := hA0
  rw [Tryd.params15] at hA hval
  obtain ⟨v0, vs0, d0, ds0, p0, q0, hargs, rfl, rfl, h0, r0⟩ := trodAll_cons hA
  obtain ⟨v1, vs1, d1, ds1, p1, q1, rfl, rfl, rfl, h1, r1⟩ := trodAll_cons r0
  obtain ⟨rfl, rfl, rfl⟩ := trodAll_nil r1
  obtain rfl : args = #[v0, v1] := by cases args; simp_all
  obtain ⟨rfl, rfl⟩ := trodVars_none hV
  obtain ⟨x, rfl, rfl, rfl, wx⟩ := open_int Tryd.underlying3 (hval 0 3 v0 rfl rfl) h0
  obtain ⟨y, rfl, rfl, rfl, wy⟩ := open_int Tryd.underlying3 (hval 1 3 v1 rfl rfl) h1
  clear hA0
  refine (walk x (wf_i64 wx) y (wf_i64 wy) W (spans_of hL) ).mono fun e W' ⟨he, hg⟩ => ?_
  subst he
  exact ⟨_, rfl, close rfl hW' ⟨rfl, rfl, rfl⟩ (by kernel_rfl) (by kernel_rfl) hg⟩

set_option maxRecDepth 100000 in
theorem laid_met (os : Os) : laidMet Tryd.prog Rows.pageFullRow.laid ((laidWorld os).forCall (fun _ _ => 0) ⟨#[], #[.int .i64 0, .int .i64 0], []⟩).memory :=
  laidMet_of_run' 8 (by kernel_rfl) (by kernel_rfl)
set_option maxRecDepth 100000 in
theorem reads (os : Os) {H : Type} (enc : TypeId × Value → H) : ∃ places, DataW.whole enc Tryd.prog ((laidWorld os).forCall (fun _ _ => 0) ⟨#[], #[.int .i64 0, .int .i64 0], []⟩).memory Tryd.f15.params.toList Rows.pageFullSpec.vars false (#[.int .i64 0, .int .i64 0] : Array Value).toList 8 = some ([.lit (.int .i64 0), .lit (.int .i64 0)], [], places) :=
  ⟨[], by kernel_rfl⟩

set_option maxRecDepth 100000 in
theorem lifted (os : Os) (started : os.Started) (H : Type) (enc : TypeId × Value → H) (F : Stop.Interp) :
    ReturnsInHanded {} Tryd.checked os 15 .any ((OpenSpec.ofChange Rows.pageFullSpec).preRow enc Tryd.prog Tryd.f15 Rows.pageFullRow.domain false Rows.pageFullRow.laid) (((OpenSpec.ofChange Rows.pageFullSpec).at F).post enc Tryd.prog Tryd.f15 false true false false) := by
  obtain ⟨places, hx⟩ := reads os enc
  refine returnsInHanded_of_row (C := Tryd.checked) (s := OpenSpec.ofChange Rows.pageFullSpec) ownNone started (by kernel_rfl) Tryd.func15
    (witness_row_at (enc := enc) (C := Tryd.checked) false (laidWorld os) #[.int .i64 0, .int .i64 0] rfl (by kernel_rfl) (by kernel_rfl) (by kernel_rfl)
      (OpenSpec.preRow_of_cond 8 hx (by kernel_rfl) (fun k hk => by cases hk) (by kernel_rfl) (laid_met os))) ?_
  intro W base args ds gs before hval hW _ _ _ hL _ _
  exact contract H enc W base args ds gs before hval hW hL

set_option maxRecDepth 100000 in
theorem said : Rows.PageFullSaid :=
  OpenClaim.holds_of_cond 15 Tryd.f15 rfl rfl rfl rfl rfl rfl rfl ⟨rfl, rfl, rfl, rfl, rfl⟩ rfl rfl rfl rfl rfl (by kernel_rfl) Tryd.func15 (by kernel_rfl)
    (of_decide_eq_true (by kernel_rfl)) (by unfold Func.isWrapper; first | (rw [if_pos (by decide +kernel)]; kernel_rfl) | (rw [if_neg (by decide +kernel)]; exact ⟨rfl, rfl⟩))
    (fun os started H enc _ F => by rw [OpenClaim.pre_eq_preRow]; exact lifted os started H enc F)

-- No parameter wants a stand-in; the program's own looks are off: what the card asks.
set_option maxRecDepth 100000 in
theorem plain (f : FuncId) (fn : Func) (hf : Tryd.pinned.checked.prog.funcNamed "rotulus/rotuluslaw4.PageFull" = some f) (hfn : Tryd.pinned.checked.prog.funcs[f]? = some fn) :
    false = Tryd.pinned.checked.prog.looks [] ∧ ∀ (j : Nat) t, fn.params[j]? = some t → Tryd.pinned.checked.prog.wantsStandIn t = false := by
  obtain rfl : f = 15 := Option.some.inj ((show Tryd.prog.funcNamed "rotulus/rotuluslaw4.PageFull" = some 15 by kernel_rfl).symm.trans hf) |>.symm
  obtain rfl : fn = Tryd.f15 := (Option.some.inj (Tryd.func15.symm.trans hfn)).symm
  refine ⟨by kernel_rfl, fun j t ht => ?_⟩
  rw [Tryd.params15] at ht
  have hm := Array.mem_of_getElem? ht
  simp at hm
  subst hm
  exact (show Tryd.prog.wantsStandIn 3 = false by kernel_rfl)

-- The card.
set_option maxRecDepth 100000 in
theorem card : Rows.PageFullCardSaid :=
  Claim7.holds_tied_plain_at .later [] _ _ _ _ said (fun _ h => by cases h) (by kernel_rfl) (fun _ h => by cases h) pageFull_row_tie rfl ⟨rfl, rfl⟩ (by kernel_rfl) rfl plain (by kernel_rfl)
end Go.Proofs.YtnhgonlobgpbiaaDoor.pageFull
