/-
  The statement ScreenWrap: narrow signs, one behind another: which rows Wrap, and where the cursor stands. For every pair of integers (the width is taken modulo 20, the number of signs modulo 60); it holds where the table of widths is as its initialiser lays it, which the card ties to the program's text.
-/
import Derived.Test.YtibihjcpkdfgeaaGreatDoorQBegun0
import Derived.Test.YtibihjcpkdfgeaaGreatDoorQBase1
import Derived.Test.YtibihjcpkdfgeaaGreatDoorQSum0
import Derived.Test.YtibihjcpkdfgeaaGreatDoorQMore2
import Derived.Test.YtibihjcpkdfgeaaGreatDoorQScr0
namespace Go.Proofs.YtibihjcpkdfgeaaGreatDoor.screenWrap
open Go.ChangeShapes Go.WideShapes Go.ChangeAt Go.RowKit
open Sc

theorem mod_range (x : Int) (m : Int) (hm : 0 < m) : -m < x.tmod m ∧ x.tmod m < m := by
  have h1 := Int.tmod_lt_of_pos x hm
  have h2 := Int.tmod_lt_of_pos (-x) hm
  rw [Int.neg_tmod] at h2
  omega
theorem wof_letter : ∀ m : Nat, m < 26 → wof (97 + (m : Int)) = 1 := by decide +kernel
/-- A screen beside what stood before it. -/
structure Wp (w0 : World) (p g : Nat) (s : Scr) (xs : List RowIn) (W : World) : Prop where
  old : Below w0.heap.size w0 W
  p0 : w0.heap.size ≤ p
  g0 : w0.heap.size ≤ g
  scr : ScAt W p g s xs
  spans : Spans W
theorem Wp.step {w0 W W' : World} {p g : Nat} {s s' : Scr} {xs xs' : List RowIn} (h : Wp w0 p g s xs W) (hs : ScAt W' p g s' xs') (hw : Went W W' p g xs xs') : Wp w0 p g s' xs' W' :=
  ⟨h.old.trans (hw.turned.toBelow h.old.size (fun k hk m => by have := h.p0; have := h.g0; omega)), h.p0, h.g0, hs, spans_went h.spans h.scr hw⟩
theorem Wp.put {w0 W : World} {p g : Nat} {s : Scr} {xs : List RowIn} (h : Wp w0 p g s xs W) (r : Int) (hr0 : -2147483648 ≤ r) (hr1 : r ≤ 2147483647) (str : ByteArray) :
    Calls Tryz.prog 50 #[ptrS p, .agg #[.int .i64 1, .int .i32 r, .slice none 0 0, .string str]] W fun e W' => ∃ v xs', e = .returned v ∧ Wp w0 p g (printS s r) xs' W' := by
  refine (do_walk 1 r none 0 0 str [] W h.scr (fun _ W1 hb => print_walk r hr0 hr1 W1 (h.spans.below hb h.spans.size) (h.scr.laid hb)) (fun e => absurd e (by decide)) (fun e => absurd e (by decide))).mono ?_
  rintro e W' ⟨v, ys, xs', rfl, h3, went, _⟩
  exact ⟨v, xs', rfl, h.step h3 went⟩
theorem eql_pos (x y : Int) (w : World) : (binOp .eql 79 (.agg #[.int .i64 x, .int .i64 y]) (.agg #[.int .i64 x, .int .i64 y])).run Tryz.prog w = .ok (.bool true) w := by
  have h1 : (x == x) = true := by simp
  have h2 : (y == y) = true := by simp
  go_simp
structure Wd (w0 w4 W : World) : Prop where
  le : w0.heap.size ≤ w4.heap.size
  old : Below w0.heap.size w0 w4
  laid : Below w4.heap.size w4 W
theorem Wd.cells {w0 w4 W : World} (h : Wd w0 w4 W) {q j : Nat} {v : Value} (hq : q < w4.heap.size) (hc : w4.cell? ⟨q, j, none⟩ = some v) : W.cell? ⟨q, j, none⟩ = some v := (h.laid.cell (p := ⟨q, j, none⟩) hq).trans hc
set_option maxRecDepth 100000 in
set_option maxHeartbeats 6400000 in
theorem walk (x : Int) (hx : -9223372036854775808 ≤ x ∧ x ≤ 9223372036854775807) (y : Int) (hy : -9223372036854775808 ≤ y ∧ y ≤ 9223372036854775807) (w : World) (hs : Spans w) :
    Calls Tryz.prog 17 #[.int .i64 x, .int .i64 y] w fun e w' => e = .returned (.bool true) ∧ Below w.heap.size w w' := by
  have tx := (And.intro (And.intro hx hy) (mod_range x 20 (by omega))).2
  have ty := mod_range y 60 (by omega)
  have ux := mod_range (x.tmod 20 + 20) 20 (by omega)
  have uy := mod_range (y.tmod 60 + 60) 60 (by omega)
  obtain ⟨wd, hwd⟩ : ∃ wd : Nat, 2 + (x.tmod 20 + 20).tmod 20 = (wd : Int) := ⟨(2 + (x.tmod 20 + 20).tmod 20).toNat, by have := Int.tmod_nonneg 20 (show 0 ≤ x.tmod 20 + 20 by omega); omega⟩
  obtain ⟨n, hn⟩ : ∃ n : Nat, (y.tmod 60 + 60).tmod 60 = (n : Int) := ⟨((y.tmod 60 + 60).tmod 60).toNat, by have := Int.tmod_nonneg 60 (show 0 ≤ y.tmod 60 + 60 by omega); omega⟩
  have w2 : 2 ≤ wd := by have := Int.tmod_nonneg 20 (show 0 ≤ x.tmod 20 + 20 by omega); omega
  have w21 : wd ≤ 21 := by omega
  have n60 : n < 60 := by omega
  have e1 : IntKind.i64.wrap (x.tmod 20 + 20) = x.tmod 20 + 20 := IntWalk.i64_in _ (by omega)
  have e2 : IntKind.i64.wrap (2 + (x.tmod 20 + 20).tmod 20) = (wd : Int) := by rw [hwd]; exact IntWalk.i64_in _ (by omega)
  have e3 : IntKind.i64.wrap (y.tmod 60 + 60) = y.tmod 60 + 60 := IntWalk.i64_in _ (by omega)
  have S := Lib.hid hs
  clear hs hx hy
  go_enter Tryz.func17, Tryz.ntmps17
  go_wp2_with fail
  refine (Bg.begun7_walk w S.out).mono ?_
  rintro e w1 ⟨rfl, b1⟩
  have B1 := Lib.hid (And.intro (S.out.below b1 S.out.size) b1)
  clear b1 tx ty ux uy
  go_wp2_with fail
  refine (new_walk (wd : Int) 40 w1).mono ?_
  rintro e w3 ⟨p, g, xs, rfl, h3, hp, hg, hx3, b3⟩
  have I0 := Lib.hid (show ∃ s xs, Wr wd 0 s ∧ Wp w p g s xs w3 from ⟨_, xs, Wr.start w2 w21, ⟨B1.out.2.trans (b3.mono B1.out.2.size), by have := B1.out.2.size; omega, by have := B1.out.2.size; omega, h3, B1.out.1.below b3 B1.out.1.size⟩⟩)
  clear h3 hp hg hx3 b3 B1 S
  go_wp2_with fail
  go_loopw [7] (fun i wr => ∃ k : Nat, i = .int .i64 k ∧ k ≤ n ∧ Hid (∃ s xs, Wr wd k s ∧ Wp w p g s xs wr)) (fun i _ => n - (intOf i).toNat)
  case atStart => exact ⟨0, rfl, Nat.zero_le _, I0⟩
  case round =>
    obtain ⟨k, rfl, hk, I⟩ := hrel
    clear I0
    by_cases hlt : k < n
    · obtain ⟨s, xs, WR, WP⟩ := I.out
      obtain ⟨m, hm⟩ : ∃ m : Nat, (k : Int).tmod 26 = (m : Int) := ⟨k % 26, by rw [Int.tmod_eq_emod_of_nonneg (by omega)]; omega⟩
      have m26 : m < 26 := by have := Int.tmod_lt_of_pos (k : Int) (show (0 : Int) < 26 by omega); omega
      have f1 : IntKind.i32.wrap (m : Int) = (m : Int) := IntWalk.i32_in _ (by omega)
      have f2 : IntKind.i32.wrap (97 + (m : Int)) = 97 + (m : Int) := IntWalk.i32_in _ (by omega)
      have PW := Lib.hid (WP.put (97 + (m : Int)) (by omega) (by omega) .empty)
      have R1 := Lib.hid (WR.print w2 (by omega) (wof_letter m m26))
      have hinc : IntKind.i64.wrap ((k : Int) + 1) = (k : Int) + 1 := IntWalk.i64_in _ (by omega)
      clear WR WP I
      go_wp2_with fail
      refine PW.out.mono ?_
      rintro e w4 ⟨v, xs', rfl, W4⟩
      have I4 := Lib.hid (show ∃ s xs, Wr wd (k + 1) s ∧ Wp w p g s xs w4 from ⟨_, _, R1.out, W4⟩)
      clear PW R1 W4
      go_wp2
      go_roundw
      case rel => exact ⟨k + 1, by go_num, by omega, I4⟩
      case measure => simp [intOf]; omega
    · obtain rfl : k = n := by omega
      obtain ⟨s, xs, WR, WP⟩ := I.out
      clear I
      have RW := Lib.hid (rows_walk wr WP.scr)
      obtain ⟨r, hr⟩ : ∃ r, s.r = r := ⟨_, rfl⟩
      obtain ⟨c, hc⟩ : ∃ c, s.c = c := ⟨_, rfl⟩
      have hat := WR.at'
      have hpos := WR.pos
      have hcl := WR.le
      rw [hr, hc] at hat
      rw [hc] at hpos hcl
      go_wp2_with fail
      refine RW.out.mono ?_
      rintro e w4 ⟨v, ys, rfl, SH⟩
      have hys : ys.length = 40 := by rw [← WR.len, ← SH.same, List.length_map]
      obtain ⟨q, cc, rfl, SV⟩ : ∃ q cc, v = .slice (some ⟨q, 0, none⟩) 40 cc ∧ Hid (q < w4.heap.size ∧ ∀ j, j < 40 → w4.cell? ⟨q, j * 2 + 1, none⟩ = some (.bool (decide (j < r)))) := by
        obtain ⟨y0, hy0⟩ : ∃ y0, ys[0]? = some y0 := ⟨_, List.getElem?_eq_getElem (by omega)⟩
        obtain ⟨q, cc, e1, _, _, e2, _⟩ := SH.rows.get hy0
        refine ⟨q, cc, by rw [← hys]; exact e1, Lib.hid ⟨e2, fun j hj => ?_⟩⟩
        obtain ⟨yj, hyj⟩ : ∃ yj, ys[j]? = some yj := ⟨_, List.getElem?_eq_getElem (by omega)⟩
        obtain ⟨q', cc', e3, _, _, _, _, e4⟩ := SH.rows.get hyj
        have e5 : some (⟨q, 0, none⟩ : Addr) = some ⟨q', 0, none⟩ := by
          have := e1.symm.trans e3
          injection this
        injection e5 with e5
        injection e5 with e5
        subst e5
        rw [e4]
        have hw := WR.wraps j hj
        rw [hr, ← SH.same, List.getElem?_map, hyj] at hw
        simp only [Option.map_some, Option.some.injEq] at hw
        rw [← hw]
        rfl
      have S4 := Lib.hid (show Wp w p g s xs w4 from ⟨WP.old.trans (SH.old.mono WP.old.size), WP.p0, WP.g0, WP.scr.laid SH.old, WP.spans.below SH.old WP.spans.size⟩)
      have CW : ∀ W, Below w4.heap.size w4 W → Calls Tryz.prog 57 #[ptrS p] W fun e w' => e = .returned (.agg #[.int .i64 (r : Int), .int .i64 (c : Int)]) ∧ Below W.heap.size W w' := fun W hb => by rw [← hr, ← hc]; exact cursor_walk W (S4.out.scr.laid hb)
      have CUR := Lib.hid CW
      have W0 := Lib.hid (show Wd w w4 w4 from ⟨S4.out.old.size, S4.out.old, Below.refl _ _⟩)
      have FU := Lib.hid (fun h0 => WR.full h0)
      rw [hr] at FU
      clear RW CW WR WP SH hys S4
      have m1 : IntKind.i64.wrap ((r : Int) * (wd : Int)) = ((r * wd : Nat) : Int) := by
        have : r * wd ≤ k := by omega
        rw [show (r : Int) * (wd : Int) = ((r * wd : Nat) : Int) by simp]
        exact IntWalk.i64_in _ (by omega)
      have m2 : IntKind.i64.wrap ((k : Int) - ((r * wd : Nat) : Int)) = (c : Int) := by
        rw [show (k : Int) - ((r * wd : Nat) : Int) = (c : Int) by omega]
        exact IntWalk.i64_in _ (by omega)
      have hcc : (k : Int) - (r : Int) * (wd : Int) = (c : Int) := by
        have h := congrArg (fun z : Nat => (z : Int)) hat
        simp only [Int.natCast_add, Int.natCast_mul] at h
        omega
      have HCC := Lib.hid hcc
      clear hcc
      by_cases hk0 : 0 < k
      · have hk1 : IntKind.i64.wrap ((k : Int) - 1) = (k : Int) - 1 := IntWalk.i64_in _ (by omega)
        have hdv : ((k : Int) - 1).tdiv (wd : Int) = (r : Int) := by
          rw [← FU.out hk0, show ((k : Int) - 1) = ((k - 1 : Nat) : Int) by omega]
          simp
        have hk2 : IntKind.i64.wrap (r : Int) = (r : Int) := IntWalk.i64_in _ (by have : r ≤ r * wd := Nat.le_mul_of_pos_right _ (by omega); omega)
        go_wp2_with fail
        go_loopw [10] (fun i wx => ∃ j : Nat, i = .int .i64 j ∧ j ≤ 40 ∧ Hid (Wd w w4 wx)) (fun i _ => 40 - (intOf i).toNat)
        case atStart => exact ⟨0, rfl, by omega, W0⟩
        case round =>
          obtain ⟨j, rfl, hj, IX⟩ := hrel
          have hjn : IntKind.i64.wrap ((j : Int) + 1) = (j : Int) + 1 := IntWalk.i64_in _ (by omega)
          by_cases hlt2 : j < 40
          · have c1 : wr.cell? ⟨q, j * 2 + 1, none⟩ = some (.bool (decide (j < r))) := IX.out.cells SV.out.1 (SV.out.2 j hlt2)
            have hd : decide ((j : Int) < (r : Int)) = decide (j < r) := by simp
            have hlr : decide ((j : Int) < (40 : Int)) = true := by simp; omega
            go_wp2_with fail
            go_roundw
            case rel => exact ⟨j + 1, by go_num, by omega, IX⟩
            case measure => simp [intOf]; omega
          · obtain rfl : j = 40 := by omega
            go_wp2_with fail
            have fin : ∀ {W W' : World}, Below w4.heap.size w4 W → Below W.heap.size W W' → Below w.heap.size w W' := fun h b => IX.out.old.trans ((h.trans (b.mono h.size)).mono IX.out.le)
            obtain ⟨gp, hgp⟩ : ∃ gp, wr.heap.size = gp := ⟨_, rfl⟩
            obtain ⟨w9, hw9⟩ : ∃ w9, wr.alloc (.cells #[.int .i64 (r : Int), .int .i64 (c : Int)] 79) = w9 := ⟨_, rfl⟩
            have B9 := Lib.hid (show Below wr.heap.size wr w9 from by rw [← hw9]; exact (Below.refl _ _).alloc (Nat.le_refl _) _)
            have k0 : w9.cell? ⟨gp, 0, none⟩ = some (.int .i64 (r : Int)) := by rw [← hw9, ← hgp]; simp
            have k1 : w9.cell? ⟨gp, 1, none⟩ = some (.int .i64 (c : Int)) := by rw [← hw9, ← hgp]; simp
            have hlt9 : gp < w9.heap.size := by rw [← hw9, ← hgp]; simp
            have hE : ∀ w, (binOp .eql 79 (.agg #[.int .i64 (r : Int), .int .i64 (c : Int)]) (.agg #[.int .i64 (r : Int), .int .i64 (c : Int)])).run Tryz.prog w = .ok (.bool true) w := eql_pos _ _
            have HG := Lib.hid hgp
            have HW := Lib.hid hw9
            have HL9 := Lib.hid hlt9
            clear hgp hw9 hlt9
            rw [HG.out]
            rw [HCC.out]
            change Code.wp _ _ _ _ (wr.alloc (.cells #[.int .i64 (r : Int), .int .i64 (c : Int)] 79))
            rw [HW.out]
            clear HG HW
            have L9 := Lib.hid (IX.out.laid.trans (B9.out.mono IX.out.laid.size))
            clear B9 m1 m2
            go_region_with (go_at_call 57; refine (CUR.out _ (by first | exact L9.out | exact L9.out.drew | exact L9.out.drew.drew)).mono ?_; rintro e w8 ⟨rfl, b8⟩; (have k0' : w8.cell? ⟨gp, 0, none⟩ = some (.int .i64 (r : Int)) := (b8.cell (p := ⟨gp, 0, none⟩) (by simpa using HL9.out)).trans (by simpa using k0)); (have k1' : w8.cell? ⟨gp, 1, none⟩ = some (.int .i64 (c : Int)) := (b8.cell (p := ⟨gp, 1, none⟩) (by simpa using HL9.out)).trans (by simpa using k1)))
            all_goals go_wp2
            all_goals go_ret
            all_goals first
              | exact ⟨rfl, fin L9.out b8⟩
              | exact ⟨rfl, (fin L9.out b8).drew⟩
              | exact ⟨rfl, fin L9.out.drew b8⟩
              | exact ⟨rfl, (fin L9.out.drew b8).drew⟩
              | exact ⟨rfl, fin L9.out.drew.drew b8⟩
              | exact ⟨rfl, (fin L9.out.drew.drew b8).drew⟩
      · obtain rfl : k = 0 := by omega
        obtain rfl : r = 0 := by
          rcases Nat.eq_zero_or_pos r with e | e
          · exact e
          · have := Nat.mul_pos e (show 0 < wd by omega)
            omega
        obtain rfl : c = 0 := by omega
        have CUR0 := Lib.hid (show ∀ W, Below w4.heap.size w4 W → Calls Tryz.prog 57 #[ptrS p] W fun e w' => e = .returned (.agg #[.int .i64 0, .int .i64 0]) ∧ Below W.heap.size W w' from CUR.out)
        clear CUR
        go_wp2_with fail
        go_loopw [10] (fun i wx => ∃ j : Nat, i = .int .i64 j ∧ j ≤ 40 ∧ Hid (Wd w w4 wx)) (fun i _ => 40 - (intOf i).toNat)
        case atStart => exact ⟨0, rfl, by omega, W0⟩
        case round =>
          obtain ⟨j, rfl, hj, IX⟩ := hrel
          have hjn : IntKind.i64.wrap ((j : Int) + 1) = (j : Int) + 1 := IntWalk.i64_in _ (by omega)
          by_cases hlt2 : j < 40
          · have c1 : wr.cell? ⟨q, j * 2 + 1, none⟩ = some (.bool false) := IX.out.cells SV.out.1 (by simpa using SV.out.2 j hlt2)
            have hd : decide ((j : Int) < 0) = false := by simp
            have hlr : decide ((j : Int) < (40 : Int)) = true := by simp; omega
            go_wp2_with fail
            go_roundw
            case rel => exact ⟨j + 1, by go_num, by omega, IX⟩
            case measure => simp [intOf]; omega
          · obtain rfl : j = 40 := by omega
            go_wp2_with fail
            have fin : ∀ {W W' : World}, Below w4.heap.size w4 W → Below W.heap.size W W' → Below w.heap.size w W' := fun h b => IX.out.old.trans ((h.trans (b.mono h.size)).mono IX.out.le)
            obtain ⟨gp, hgp⟩ : ∃ gp, wr.heap.size = gp := ⟨_, rfl⟩
            obtain ⟨w9, hw9⟩ : ∃ w9, wr.alloc (.cells #[.int .i64 0, .int .i64 0] 79) = w9 := ⟨_, rfl⟩
            have B9 := Lib.hid (show Below wr.heap.size wr w9 from by rw [← hw9]; exact (Below.refl _ _).alloc (Nat.le_refl _) _)
            have k0 : w9.cell? ⟨gp, 0, none⟩ = some (.int .i64 0) := by rw [← hw9, ← hgp]; simp
            have k1 : w9.cell? ⟨gp, 1, none⟩ = some (.int .i64 0) := by rw [← hw9, ← hgp]; simp
            have hlt9 : gp < w9.heap.size := by rw [← hw9, ← hgp]; simp
            have hE : ∀ w, (binOp .eql 79 (.agg #[.int .i64 0, .int .i64 0]) (.agg #[.int .i64 0, .int .i64 0])).run Tryz.prog w = .ok (.bool true) w := eql_pos _ _
            have HG := Lib.hid hgp
            have HW := Lib.hid hw9
            have HL9 := Lib.hid hlt9
            clear hgp hw9 hlt9
            rw [HG.out]
            change Code.wp _ _ _ _ (wr.alloc (.cells #[.int .i64 0, .int .i64 0] 79))
            rw [HW.out]
            clear HG HW
            have L9 := Lib.hid (IX.out.laid.trans (B9.out.mono IX.out.laid.size))
            clear B9 m1 m2
            go_region_with (go_at_call 57; refine (CUR0.out _ (by first | exact L9.out | exact L9.out.drew | exact L9.out.drew.drew)).mono ?_; rintro e w8 ⟨rfl, b8⟩; (have k0' : w8.cell? ⟨gp, 0, none⟩ = some (.int .i64 0) := (b8.cell (p := ⟨gp, 0, none⟩) (by simpa using HL9.out)).trans (by simpa using k0)); (have k1' : w8.cell? ⟨gp, 1, none⟩ = some (.int .i64 0) := (b8.cell (p := ⟨gp, 1, none⟩) (by simpa using HL9.out)).trans (by simpa using k1)))
            all_goals go_wp2
            all_goals go_ret
            all_goals first
              | exact ⟨rfl, fin L9.out b8⟩
              | exact ⟨rfl, (fin L9.out b8).drew⟩
              | exact ⟨rfl, fin L9.out.drew b8⟩
              | exact ⟨rfl, (fin L9.out.drew b8).drew⟩
              | exact ⟨rfl, fin L9.out.drew.drew b8⟩
              | exact ⟨rfl, (fin L9.out.drew.drew b8).drew⟩

-- WHAT THE WALK GIVES, FOR EVERY ARGUMENT AND EVERY WORLD THAT HOLDS THE TABLE.
set_option maxRecDepth 100000 in
theorem contract (H : Type) (enc : TypeId × Value → H) (W : World) (base : Nat) (args : Array Value) (ds gs : List (DataW H)) (before : List MemPlace)
    (hval : ∀ (j : Nat) t v, Tryz.f17.params[j]? = some t → args[j]? = some v → Value.okWide Tryz.prog W .any base t v)
    (hW : DataW.Whole enc Tryz.prog Tryz.f17.params.toList Rows.screenWrapSpec.vars false W args.toList ds gs before) (hL : laidMetH Tryz.prog Rows.screenWrapRow.laid W) :
    Calls Tryz.prog 17 args W fun e W' => ∃ v, e = .returned v ∧ Rows.screenWrapSpec.post enc Tryz.prog Tryz.f17 false true false false W args v W' := by
  have hW' := hW
  obtain ⟨p, q, hA0, hV, rfl, hfz, hnd⟩ := hW
  have hA : DataW.TrodAll enc Tryz.prog W 0 (fun _ => true) true Tryz.f17.params.toList args.toList ds p := hA0
  rw [Tryz.params17] at hA hval
  obtain ⟨v0, vs0, d0, ds0, p0, q0, hargs, rfl, rfl, h0, r0⟩ := trodAll_cons hA
  obtain ⟨v1, vs1, d1, ds1, p1, q1, rfl, rfl, rfl, h1, r1⟩ := trodAll_cons r0
  obtain ⟨rfl, rfl, rfl⟩ := trodAll_nil r1
  obtain rfl : args = #[v0, v1] := by cases args; simp_all
  obtain ⟨rfl, rfl⟩ := trodVars_none hV
  obtain ⟨x, rfl, rfl, rfl, wx⟩ := open_int Tryz.underlying3 (hval 0 3 v0 rfl rfl) h0
  obtain ⟨y, rfl, rfl, rfl, wy⟩ := open_int Tryz.underlying3 (hval 1 3 v1 rfl rfl) h1
  clear hA0
  refine (walk x (wf_i64 wx) y (wf_i64 wy) W (spans_of hL) ).mono fun e W' ⟨he, hg⟩ => ?_
  subst he
  exact ⟨_, rfl, close rfl hW' ⟨rfl, rfl, rfl⟩ (by kernel_rfl) (by kernel_rfl) hg⟩

set_option maxRecDepth 100000 in
theorem laid_met (os : Os) : laidMet Tryz.prog Rows.screenWrapRow.laid ((laidWorld os).forCall (fun _ _ => 0) ⟨#[], #[.int .i64 0, .int .i64 0], []⟩).memory :=
  laidMet_of_run' 8 (by kernel_rfl) (by kernel_rfl)
set_option maxRecDepth 100000 in
theorem reads (os : Os) {H : Type} (enc : TypeId × Value → H) : ∃ places, DataW.whole enc Tryz.prog ((laidWorld os).forCall (fun _ _ => 0) ⟨#[], #[.int .i64 0, .int .i64 0], []⟩).memory Tryz.f17.params.toList Rows.screenWrapSpec.vars false (#[.int .i64 0, .int .i64 0] : Array Value).toList 8 = some ([.lit (.int .i64 0), .lit (.int .i64 0)], [], places) :=
  ⟨[], by kernel_rfl⟩

set_option maxRecDepth 100000 in
theorem lifted (os : Os) (started : os.Started) (H : Type) (enc : TypeId × Value → H) (F : Stop.Interp) :
    ReturnsInHanded {} Tryz.checked os 17 .any ((OpenSpec.ofChange Rows.screenWrapSpec).preRow enc Tryz.prog Tryz.f17 Rows.screenWrapRow.domain false Rows.screenWrapRow.laid) (((OpenSpec.ofChange Rows.screenWrapSpec).at F).post enc Tryz.prog Tryz.f17 false true false false) := by
  obtain ⟨places, hx⟩ := reads os enc
  refine returnsInHanded_of_row (C := Tryz.checked) (s := OpenSpec.ofChange Rows.screenWrapSpec) ownNone started (by kernel_rfl) Tryz.func17
    (witness_row_at (enc := enc) (C := Tryz.checked) false (laidWorld os) #[.int .i64 0, .int .i64 0] rfl (by kernel_rfl) (by kernel_rfl) (by kernel_rfl)
      (OpenSpec.preRow_of_cond 8 hx (by kernel_rfl) (fun k hk => by cases hk) (by kernel_rfl) (laid_met os))) ?_
  intro W base args ds gs before hval hW _ _ _ hL _ _
  exact contract H enc W base args ds gs before hval hW hL

-- What the card asks of the program and of the row.
set_option maxRecDepth 100000 in
set_option maxHeartbeats 0 in
theorem facts : joinedFacts Tryz.checked.prog 17 Tryz.f17 (OpenSpec.ofChange Rows.screenWrapSpec).bare Rows.screenWrapRow = true := by
  have h1 := Sum.tables.1
  have h2 := Sum.tables.2.1
  have h3 := Sum.tables.2.2
  have h4 := Sum.mayEnter
  have e1 : Rows.screenWrapRow.lifted = Rows.escAllRow.lifted := by kernel_rfl
  have e2 : Rows.screenWrapRow.make = Rows.escAllRow.make := by kernel_rfl
  have h5 : (Rows.screenWrapRow.lifted == Tryz.checked.prog.liftsFinal) = true := by rw [e1]; exact Sum.lifts
  have h6 : (Tryz.checked.prog.make == some Rows.screenWrapRow.make) = true := by rw [e2]; exact Sum.make
  unfold joinedFacts
  repeat' (with_reducible refine Sum.and_mk ?_ ?_)
  all_goals first
    | with_reducible exact h1
    | with_reducible exact h2
    | with_reducible exact h4
    | with_reducible exact h5
    | with_reducible exact h6
    | (rw [h3]; as_aux_lemma => kernel_rfl)
    | (clear h1 h2 h3 h4 h5 h6 e1 e2; as_aux_lemma => kernel_rfl)

set_option maxRecDepth 100000 in
theorem said : Rows.ScreenWrapSaid :=
  OpenClaim.holds_of_cond 17 Tryz.f17 rfl rfl rfl rfl rfl rfl rfl ⟨rfl, rfl, rfl, rfl, rfl⟩ rfl rfl rfl rfl rfl (by kernel_rfl) Tryz.func17 facts
    (of_decide_eq_true (by kernel_rfl)) (by unfold Func.isWrapper; first | (rw [if_pos (by decide +kernel)]; kernel_rfl) | (rw [if_neg (by decide +kernel)]; exact ⟨rfl, rfl⟩))
    (fun os started H enc _ F => by rw [OpenClaim.pre_eq_preRow]; exact lifted os started H enc F)

-- No parameter wants a stand-in; the program's own looks are off: what the card asks.
set_option maxRecDepth 100000 in
theorem plain (f : FuncId) (fn : Func) (hf : Tryz.pinned.checked.prog.funcNamed "rotulus/rotuluslaw7.ScreenWrap" = some f) (hfn : Tryz.pinned.checked.prog.funcs[f]? = some fn) :
    false = Tryz.pinned.checked.prog.looks [] ∧ ∀ (j : Nat) t, fn.params[j]? = some t → Tryz.pinned.checked.prog.wantsStandIn t = false := by
  obtain rfl : f = 17 := Option.some.inj ((show Tryz.prog.funcNamed "rotulus/rotuluslaw7.ScreenWrap" = some 17 by kernel_rfl).symm.trans hf) |>.symm
  obtain rfl : fn = Tryz.f17 := (Option.some.inj (Tryz.func17.symm.trans hfn)).symm
  refine ⟨by kernel_rfl, fun j t ht => ?_⟩
  rw [Tryz.params17] at ht
  have hm := Array.mem_of_getElem? ht
  simp at hm
  subst hm
  exact (show Tryz.prog.wantsStandIn 3 = false by kernel_rfl)

-- The card.
set_option maxRecDepth 100000 in
theorem card : Rows.ScreenWrapCardSaid :=
  Claim7.holds_tied_plain_at .later [] _ _ _ _ said (fun _ h => by cases h) (by kernel_rfl) (fun _ h => by cases h) screenWrap_row_tie rfl ⟨rfl, rfl⟩ (by kernel_rfl) rfl plain (by kernel_rfl)
end Go.Proofs.YtibihjcpkdfgeaaGreatDoor.screenWrap
