/-
  The reference's Layout: a line's rows. The reference's All: the rows of lines, one behind the other. The reference's Place: where a spot of a line stands among the rows of all lines.
-/
import Derived.Test.YtgmijnnhanpocaaGreatDoorQNBase6
import Derived.Test.YtgmijnnhanpocaaGreatDoorQNBase4
import Derived.Test.YtgmijnnhanpocaaGreatDoorQNRefRow1
import Derived.Test.YtgmijnnhanpocaaGreatDoorQNBase3
import Derived.IntWalk
import Derived.BigQuiet
import Derived.Deep.CutRange
import Derived.Deep.RegionLaw
import Derived.Deep.AppendLies
import Derived.Test.YtgmijnnhanpocaaGreatDoorQNBase5
namespace Go.Proofs.YtgmijnnhanpocaaGreatDoor
open Go.ChangeShapes Go.WideShapes Go.ChangeAt Go.RowKit
namespace Ln
open Rw
def Stands (wv : Nat) (l : List Cel) (done : List RowIn) (y : RowIn) : Prop := (done.map lr, y.l) = layS wv l ∧ y.wrap = false
def Room1 (wv : Nat) (l : List Cel) (c : Cel) (done : List RowIn) (y : RowIn) : Prop := (done.map lr, y.l ++ both c) = layS wv (l ++ [c]) ∧ y.wrap = false ∧ y.l.length ≤ 300
theorem room_big {wv : Nat} {l : List Cel} {c : Cel} {done : List RowIn} {y z : RowIn} (h : Stands wv l done y) (hb : wv < y.l.length + wd c) (hz : lr z = (true, if y.l.length < wv then y.l ++ [padL] else y.l)) : Room1 wv l c (done ++ [z]) ⟨none, 0, 0, false, []⟩ := by
 refine ⟨?_, rfl, Nat.zero_le _⟩
 rw [layS_snoc, ← h.1]
 unfold lstep
 simp only
 rw [if_pos hb, List.map_append, List.map_cons, List.map_nil, hz, List.nil_append]
theorem room_small {wv : Nat} {l : List Cel} {c : Cel} {done : List RowIn} {y : RowIn} (h : Stands wv l done y) (hb : ¬ wv < y.l.length + wd c) (hy : y.l.length ≤ 300) : Room1 wv l c done y := by
 refine ⟨?_, h.2, hy⟩
 rw [layS_snoc, ← h.1]
 unfold lstep
 simp only
 rw [if_neg hb]
theorem sq_pair2 (w : World) (e : TypeId) (x y : Value) : Sq (w.alloc (.cells #[x, y] e)) (w.heap.size + 1) 2 1 (some ⟨w.heap.size, 0, none⟩) [x, y] :=
 ⟨rfl, fun _ => ⟨w.heap.size, 0, rfl, Nat.lt_succ_self _, fun j u hu => by
  rw [Nat.zero_add, cell_of_row _ _ _ _ _ (0, 0) (heap_alloc_new w _)]
  match j, hu with
  | 0, hu => exact hu
  | 1, hu => exact hu
  | j + 2, hu => simp at hu⟩⟩
theorem own_some {w : World} {B : Nat} {e : TypeId} {s n c : Nat} {A : Option Addr} {xs : List Value} (h : w.ownsRow B e s (.slice A (n + 1) c) (n + 1) xs) : ∃ g, A = some ⟨g, 0, none⟩ := by
 obtain ⟨g, cap, e1, _⟩ := h.form (Nat.succ_pos _)
 injection e1 with e1
 exact ⟨g, e1⟩
set_option maxRecDepth 100000 in
set_option maxHeartbeats 12800000 in
theorem refLayout_walk (A : Option Addr) (n c wv : Nat) (l : List Cel) (w : World) (hl : ∀ c ∈ l, -2147483648 ≤ c.1 ∧ c.1 ≤ 2147483647) (hq : Sq w w.heap.size 3 n A (flat l)) (hn : n ≤ 10000) (hb : lineB l = true) (hw2 : 2 ≤ wv) (hw3 : wv ≤ 300) :
  Calls Tryz.prog 37 #[.slice A n c, .int .i64 (wv : Int)] w fun e w' => ∃ v rs, e = .returned v ∧ Own w' w.heap.size v rs ∧ rs.map lr = layL wv l ∧ Below w.heap.size w w' := by
 obtain ⟨i0, hi0, hz0, hz1, hz2⟩ := info_parts infoCell
 obtain ⟨i1, hi1, hy0, hy1, hy2⟩ := info_parts infoRw
 have LI := Lib.hid (refLine_walk A n c l w hl hq (by omega))
 have hln : l.length = n := by have := hq.len; rw [flat_length] at this; omega
 rw [hb] at LI
 have HB := Lib.hid hb
 have HL := Lib.hid hl
 have Q := Lib.hid hq
 have LN := Lib.hid hln
 have HW := Lib.hid (And.intro hw2 hw3)
 have h12 : ∀ x ∈ l, W12 x := fun x hx => okC_w (by unfold lineB at hb; exact List.all_eq_true.1 hb x hx)
 have H12 := Lib.hid h12
 have LS := Lib.hid (fun k => (lay_inv hw2 (l.take k) (fun x hx => h12 x (List.mem_of_mem_take hx))).2.1)
 have LD := Lib.hid (fun k => layS_len wv (l.take k))
 have hwa : ¬ (wv : Int) < 2 := by omega
 have hwb : ¬ (300 : Int) < (wv : Int) := by omega
 clear hb hl hq hln h12 hw2 hw3
 go_enter Tryz.func37, Tryz.ntmps37
 go_wp2_with fail
 refine LI.out.mono ?_
 rintro e w1 ⟨rfl, b1⟩
 obtain ⟨w2, hw2⟩ : ∃ w2, w1.alloc (.cells #[.slice none 0 0, .bool false] 48) = w2 := ⟨_, rfl⟩
 obtain ⟨g0, hg0⟩ : ∃ g0, w1.heap.size = g0 := ⟨_, rfl⟩
 have R0 := Lib.hid (show RL w.heap.size g0 1 [] ⟨none, 0, 0, false, []⟩ w2 from by rw [← hw2, ← hg0]; exact RL.first w1 _ b1.size)
 have I0 := Lib.hid (show Below w.heap.size w w2 from by rw [← hw2]; exact b1.alloc b1.size _)
 have T0 := Lib.hid (show Stands wv (l.take 0) [] ⟨none, 0, 0, false, []⟩ from ⟨by simp [layS], rfl⟩)
 have HW2 := Lib.hid hw2
 have HG0 := Lib.hid hg0
 clear hw2 hg0 b1 LI
 go_upto_region 4 with fail
 rw [HW2.out, HG0.out]
 go_wp2_with fail
 have P0 := Lib.hid (show 1 = ([] : List RowIn).length + 1 from rfl)
 go_loopw [5, 6, 7] (fun v5 i _ wr => ∃ (k p q g d : Nat) (done : List RowIn) (y : RowIn), v5 = .slice (some ⟨g, 0, none⟩) p d ∧ i = .int .i64 (k : Int) ∧ k ≤ n ∧ Hid (p = q + 1) ∧ Hid (q = done.length) ∧ Hid (Below w.heap.size w wr) ∧ Hid (RL w.heap.size g d done y wr) ∧ Hid (Stands wv (l.take k) done y)) (fun _ i _ _ => n - (intOf i).toNat)
 case atStart => exact ⟨0, 1, 0, g0, 1, [], _, rfl, rfl, Nat.zero_le _, Lib.hid rfl, Lib.hid rfl, I0, R0, T0⟩
 case round =>
  obtain ⟨k, p, q, g, d, done, y, rfl, rfl, hk, HP, HQ, I, R, T⟩ := hrel
  clear I0 R0 T0 P0
  have hqk : q ≤ k := by
   have h1 := LD.out k
   have h2 := congrArg (fun t => t.1.length) T.out.1
   simp only [List.length_map] at h2
   rw [List.length_take] at h1
   have := HQ.out
   omega
  have hyl : y.l.length ≤ wv := by
   have h1 := LS.out k
   have h2 := congrArg (fun t => t.2) T.out.1
   simp only at h2
   rw [← h2] at h1
   exact h1
  obtain ⟨hyn, hyc⟩ := R.out.len
  have hw300 := HW.out.2
  obtain ⟨yA, yn, yc, yb, yl⟩ := y
  simp only at hyn hyc hyl
  have hp := HP.out
  have YN := Lib.hid hyn
  have hyn3 : yn ≤ 300 := by omega
  have hynw : yn ≤ wv := by omega
  have hwp : IntKind.i64.wrap ((p : Int) - 1) = (q : Int) := by rw [show (p : Int) - 1 = (q : Int) by omega]; exact IntWalk.i64_in _ (by omega)
  have hqp : (q : Int) < (p : Int) := by omega
  have hq0 : (0 : Int) ≤ (q : Int) := by omega
  have C0 := Lib.hid (show ∀ W, Laid wr W → W.cell? ⟨g, q * 2, none⟩ = some (.slice yA yn yc) from fun W hW => by have h := (R.out.laid hW).cells.1; rw [← HQ.out] at h; exact h)
  clear hp hyn
  by_cases hlt : k < n
  ·obtain ⟨b, off, rfl, hbb, ⟨r, m, a⟩, hcc, q0, q1, q2⟩ := (Q.out.below I.out).three hlt
   have hm12 : m = 1 ∨ m = 2 := H12.out _ (List.mem_of_getElem? hcc)
   have QC := Lib.hid (show ∀ W, Laid wr W → W.cell? ⟨b, off + k * 3, none⟩ = some (.int .i32 r) ∧ W.cell? ⟨b, off + k * 3 + 1, none⟩ = some (.int .i64 m) ∧ W.cell? ⟨b, off + k * 3 + 2, none⟩ = some (.int .i64 a) from fun W hW => ((Q.out.below I.out).below (hW.mono I.out.size)).cells hcc)
   have TK := Lib.hid (take_one hcc)
   have HCC := Lib.hid hcc
   obtain ⟨mw, hmw⟩ : ∃ mw : Nat, m = (mw : Int) := ⟨m.toNat, by omega⟩
   subst hmw
   have hki : (k : Int) < (n : Int) := by omega
   have hk0 : (0 : Int) ≤ (k : Int) := by omega
   obtain ⟨J, hJ, F, h0, hB, _⟩ := Cls.below wr
   have H0 := Lib.hid h0
   have HBn := Lib.hid hB
   have k0 := fun n => C0.out (F n) (HBn.out n)
   have k2 := fun n => (QC.out (F n) (HBn.out n)).2.1
   have hsum : IntKind.i64.wrap ((yn : Int) + (mw : Int)) = (yn : Int) + (mw : Int) := IntWalk.i64_in _ (by omega)
   clear h0 hB hcc hbb q0 q1 q2
   go_upto_region 8 with fail
   have hbig : ∃ bg : Bool, decide (wv < yn + mw) = bg := ⟨_, rfl⟩
   obtain ⟨bg, hbg⟩ := hbig
   have HBG := Lib.hid hbg
   have hbgi : decide ((wv : Int) < (yn : Int) + (mw : Int)) = bg := by rw [← hbg]; simp; omega
   refine Cls.region F H0.out (by kernel_rfl) (by kernel_rfl) ?_
   repeat (go_big_quiet_step (fail))
   refine wpQuiet_nil ?_
   intro _ hw'
   obtain ⟨nq, hw''⟩ := hw'
   subst hw''
   have L3 := Lib.hid (HBn.out nq)
   obtain ⟨w3, hw3⟩ : ∃ w3, F nq = w3 := ⟨_, rfl⟩
   rw [hw3] at L3 ⊢
   clear k0 k2 hw3 hsum
   go_upto_if 44 with fail
   go_cut [5, 7] from 22 to 112 (fun v5 v7 wx => ∃ (p2 q2 g2 d2 : Nat) (done2 : List RowIn) (y2 : RowIn), v5 = .slice (some ⟨g2, 0, none⟩) p2 d2 ∧ v7 = .int .i64 (q2 : Int) ∧ Hid (p2 = q2 + 1) ∧ q2 ≤ n ∧ Hid (q2 = done2.length) ∧ Hid (Below w.heap.size w wx) ∧ Hid (RL w.heap.size g2 d2 done2 y2 wx) ∧ Hid (Room1 wv (l.take k) (r, (mw : Int), a) done2 y2))
   case first =>
    have R3 := Lib.hid (R.out.laid L3.out)
    have I3 := Lib.hid (I.out.trans (L3.out.mono I.out.size))
    cases bg with
    | false =>
     have RM := Lib.hid (room_small (c := (r, (mw : Int), a)) T.out (by show ¬ wv < yl.length + (mw : Int).toNat; have := HBG.out; have := YN.out; simp at *; omega) (by show yl.length ≤ 300; have := YN.out; omega))
     go_wp2_with fail
     go_meet
     case rel => exact ⟨p, q, g, d, done, ⟨yA, yn, yc, yb, yl⟩, rfl, rfl, HP, by omega, HQ, I3, R3, RM⟩
    | true =>
     have hbg2 : wv < yl.length + wd (r, (mw : Int), a) := by show wv < yl.length + (mw : Int).toNat; have := HBG.out; have := YN.out; simp at *; omega
     have HB2 := Lib.hid hbg2
     have C3 := Lib.hid (show ∀ W, Laid w3 W → W.cell? ⟨g, q * 2, none⟩ = some (.slice yA yn yc) from fun W hW => C0.out W (L3.out.trans (hW.mono L3.out.size)))
     have c3 := C3.out w3 (Below.refl _ _)
     have F24 := Lib.hid (show yn + 1 ≤ maxLen ∧ (yn + 1) * 24 ≤ 140737488355328 from by unfold maxLen; omega)
     clear hbg2 hbg hbgi
     by_cases hpad : yn < wv
     ·have hpi : (yn : Int) < (wv : Int) := by omega
      go_upto_region 10 with fail
      go_cut [] from 53 to 64 (fun wx => ∃ (A5 : Option Addr) (c5 : Nat), Hid (RL w.heap.size g d done ⟨A5, yn + 1, c5, yb, yl ++ [(0, 1, 0)]⟩ wx) ∧ Hid (Below w.heap.size w wx))
      case first =>
       go_region_law (first
        | (go_simp; go_at_call 33; refine (refPad_walk _).mono ?_; rintro e w4 ⟨rfl, b4'⟩; (have b4 : Laid w3 w4 := ((Below.refl w3.heap.size w3).drew).trans b4'); (have ba := (Below.refl w4.heap.size w4).alloc (Nat.le_refl _) (.cells #[.int .i32 0, .int .i64 1, .int .i64 0] 50)); (have R4 := Lib.hid (R3.out.laid (b4.trans (ba.mono b4.size)))); (have I4 := Lib.hid (I3.out.trans ((b4.trans (ba.mono b4.size)).mono I3.out.size))); (have z4 := C3.out w4 b4); (have z5 := C3.out (w4.alloc (.cells #[.int .i32 0, .int .i64 1, .int .i64 0] 50)) (b4.trans (ba.mono b4.size))); (have SQ := Lib.hid (show Sq (w4.alloc (.cells #[.int .i32 0, .int .i64 1, .int .i64 0] 50)) (w4.alloc (.cells #[.int .i32 0, .int .i64 1, .int .i64 0] 50)).heap.size 3 1 (some ⟨w4.heap.size, 0, none⟩) (flat [(0, 1, 0)]) from ⟨rfl, fun _ => ⟨w4.heap.size, 0, rfl, by simp, fun j u hu => (cell_of_row _ _ _ _ _ (0, 0) (heap_alloc_new w4 _)).trans (by rw [Nat.zero_add, List.getElem?_toArray]; exact hu)⟩⟩)); (have OWN := Lib.hid (show World.ownsRow (w4.alloc (.cells #[.int .i32 0, .int .i64 1, .int .i64 0] 50)) w.heap.size 50 3 (.slice yA yn yc) yn (flat yl) from by have h := R4.out.last; simp only at h; rw [← YN.out] at h; exact h)); (have BAS := Lib.hid (show w.heap.size ≤ (w4.alloc (.cells #[.int .i32 0, .int .i64 1, .int .i64 0] 50)).heap.size from I4.out.size)); clear ba b4 b4')
        | (refine step_app rfl _ _ 46 rfl w.heap.size 50 i0 (.agg #[.int .i32 0, .int .i64 0, .int .i64 0]) 3 24 Tryz.underlying46 hi0 hz0 hz1 hz2 rfl (by decide) (.slice yA yn yc) yn (flat yl) rfl OWN.out (some ⟨w4.heap.size, 0, none⟩) 1 1 (flat [(0, 1, 0)]) rfl (w4.alloc (.cells #[.int .i32 0, .int .i64 1, .int .i64 0] 50)).heap.size SQ.out (flat_one _) F24.out.1 F24.out.2 BAS.out ?_; intro A5 c5 w5 hown hg hat; (have PU := Lib.hid (R4.out.push (e := (0, 1, 0)) HQ.out hown (by decide) hg hat)); (have I6 := Lib.hid (R4.out.belowG (i := q * 2) (v := .slice A5 (yn + 1) c5) I4.out (Nat.le_refl _) hg)); (have z6 := PU.out.2.1); (have f6 := PU.out.2.2); clear hown hg hat))
       all_goals
        have R6 := Lib.hid PU.out.1
        clear z4 z5 c3
        go_wp2_with fail
        go_meet
        case rel => exact ⟨A5, c5, R6, I6⟩
      case rest =>
       obtain ⟨A5, c5, R6, I6⟩ := hcut
       have C7 := R6.out.cells
       rw [← HQ.out] at C7
       obtain ⟨u0, u1⟩ := C7
       obtain ⟨cur7, hcur7⟩ := R6.out.typed
       have f7 := frozen_of_row wc g (q * 2 + 1) _ _ hcur7
       have R8 := Lib.hid (show RL w.heap.size g d done (⟨A5, (yn + 1), c5, true, (yl ++ [(0, 1, 0)])⟩ : RowIn) (wc.setCell ⟨g, q * 2 + 1, none⟩ (.bool true)) from by have h := R6.out.wrapT; rw [← HQ.out] at h; exact h)
       have I8 := Lib.hid (I6.out.setCell (p := ⟨g, q * 2 + 1, none⟩) R6.out.at'.1 (.bool true))
       have hp := HP.out
       have OW := Lib.hid (show World.ownsRow (wc.setCell ⟨g, q * 2 + 1, none⟩ (.bool true)) w.heap.size 48 2 (.slice (some ⟨g, 0, none⟩) p d) p ((done ++ [(⟨A5, (yn + 1), c5, true, (yl ++ [(0, 1, 0)])⟩ : RowIn)]).flatMap RowIn.vals) from by have h := R8.out.out; rw [← HQ.out, ← hp] at h; exact h)
       have F32 := Lib.hid (show p + 1 ≤ maxLen ∧ (p + 1) * 32 ≤ 140737488355328 from by unfold maxLen; omega)
       have hq2 : IntKind.i64.wrap ((q : Int) + 1) = (p : Int) := by rw [show (q : Int) + 1 = (p : Int) by omega]; exact IntWalk.i64_in _ (by omega)
       have RM := Lib.hid (show Room1 wv (l.take k) (r, (mw : Int), a) (done ++ [(⟨A5, (yn + 1), c5, true, (yl ++ [(0, 1, 0)])⟩ : RowIn)]) ⟨none, 0, 0, false, []⟩ from room_big T.out HB2.out (by show (true, yl ++ [(0, 1, 0)]) = _; rw [if_pos (show yl.length < wv by have := YN.out; omega)]; rfl))
       obtain ⟨w8, hw8⟩ : ∃ w8, wc.setCell ⟨g, q * 2 + 1, none⟩ (.bool true) = w8 := ⟨_, rfl⟩
       rw [hw8] at R8 I8 OW
       have HW8 := Lib.hid hw8
       clear hcur7 hp hw8
       go_upto_region 12 with fail
       rw [HW8.out]
       go_wp2_with (at_builtin; refine wpl_app rfl _ _ 22 rfl w.heap.size 48 i1 (.agg #[.slice none 0 0, .bool false]) 2 32 Tryz.underlying22 hi1 hy0 hy1 hy2 rfl (by decide) (.slice (some ⟨g, 0, none⟩) p d) p ((done ++ [(⟨A5, (yn + 1), c5, true, (yl ++ [(0, 1, 0)])⟩ : RowIn)]).flatMap RowIn.vals) rfl (own_keep OW.out fun j hj => Below.heap_alloc _ _ _ (OW.out.lt j hj).2) (some ⟨w8.heap.size, 0, none⟩) 1 1 [.slice none 0 0, .bool false] rfl (w8.heap.size + 1) (sq_pair2 _ _ _ _) (by intro u hu; simp at hu; rcases hu with rfl | rfl <;> rfl) F32.out.1 F32.out.2 (by have := I8.out.size; simp; omega) ?_; intro v9 w9 ho9 hg9 _; (obtain ⟨A9, d9, rfl, _⟩ := own_cap ho9); (have O9 := Lib.hid ho9); (have G9 := Lib.hid hg9); clear ho9 hg9)
       obtain ⟨g9, e9⟩ := own_some O9.out
       subst e9
       go_meet
       case rel =>
        have hp := HP.out
        have la : Laid w8 (w8.alloc (.cells #[.slice none 0 0, .bool false] 48)) := (Below.refl _ _).alloc (Nat.le_refl _) _
        have I9 := (I8.out.trans (la.mono I8.out.size)).grown G9.out (Nat.le_trans I8.out.size la.size) (fun j e => (OW.out.lt j e).1)
        refine ⟨p + 1, p, g9, d9, _, _, rfl, by first | rfl | go_num, Lib.hid rfl, by omega, Lib.hid (by rw [List.length_append, ← HQ.out, hp]; rfl), Lib.hid I9, Lib.hid ((R8.out.laid la).next ?_ G9.out), RM⟩
        have h := O9.out
        rw [hp, HQ.out] at h
        exact h
     ·have hpi : ¬ (yn : Int) < (wv : Int) := by omega
      have C7 := R3.out.cells
      rw [← HQ.out] at C7
      obtain ⟨u0, u1⟩ := C7
      obtain ⟨cur7, hcur7⟩ := R3.out.typed
      have f7 := frozen_of_row w3 g (q * 2 + 1) _ _ hcur7
      have R8 := Lib.hid (show RL w.heap.size g d done (⟨yA, yn, yc, true, yl⟩ : RowIn) (w3.setCell ⟨g, q * 2 + 1, none⟩ (.bool true)) from by have h := R3.out.wrapT; rw [← HQ.out] at h; exact h)
      have I8 := Lib.hid (I3.out.setCell (p := ⟨g, q * 2 + 1, none⟩) R3.out.at'.1 (.bool true))
      have hp := HP.out
      have OW := Lib.hid (show World.ownsRow (w3.setCell ⟨g, q * 2 + 1, none⟩ (.bool true)) w.heap.size 48 2 (.slice (some ⟨g, 0, none⟩) p d) p ((done ++ [(⟨yA, yn, yc, true, yl⟩ : RowIn)]).flatMap RowIn.vals) from by have h := R8.out.out; rw [← HQ.out, ← hp] at h; exact h)
      have F32 := Lib.hid (show p + 1 ≤ maxLen ∧ (p + 1) * 32 ≤ 140737488355328 from by unfold maxLen; omega)
      have hq2 : IntKind.i64.wrap ((q : Int) + 1) = (p : Int) := by rw [show (q : Int) + 1 = (p : Int) by omega]; exact IntWalk.i64_in _ (by omega)
      have RM := Lib.hid (show Room1 wv (l.take k) (r, (mw : Int), a) (done ++ [(⟨yA, yn, yc, true, yl⟩ : RowIn)]) ⟨none, 0, 0, false, []⟩ from room_big T.out HB2.out (by show (true, yl) = _; rw [if_neg (show ¬ yl.length < wv by have := YN.out; omega)]))
      obtain ⟨w8, hw8⟩ : ∃ w8, w3.setCell ⟨g, q * 2 + 1, none⟩ (.bool true) = w8 := ⟨_, rfl⟩
      rw [hw8] at R8 I8 OW
      have HW8 := Lib.hid hw8
      clear hcur7 hp hw8
      go_upto_region 12 with fail
      rw [HW8.out]
      go_wp2_with (at_builtin; refine wpl_app rfl _ _ 22 rfl w.heap.size 48 i1 (.agg #[.slice none 0 0, .bool false]) 2 32 Tryz.underlying22 hi1 hy0 hy1 hy2 rfl (by decide) (.slice (some ⟨g, 0, none⟩) p d) p ((done ++ [(⟨yA, yn, yc, true, yl⟩ : RowIn)]).flatMap RowIn.vals) rfl (own_keep OW.out fun j hj => Below.heap_alloc _ _ _ (OW.out.lt j hj).2) (some ⟨w8.heap.size, 0, none⟩) 1 1 [.slice none 0 0, .bool false] rfl (w8.heap.size + 1) (sq_pair2 _ _ _ _) (by intro u hu; simp at hu; rcases hu with rfl | rfl <;> rfl) F32.out.1 F32.out.2 (by have := I8.out.size; simp; omega) ?_; intro v9 w9 ho9 hg9 _; (obtain ⟨A9, d9, rfl, _⟩ := own_cap ho9); (have O9 := Lib.hid ho9); (have G9 := Lib.hid hg9); clear ho9 hg9)
      obtain ⟨g9, e9⟩ := own_some O9.out
      subst e9
      go_meet
      case rel =>
       have hp := HP.out
       have la : Laid w8 (w8.alloc (.cells #[.slice none 0 0, .bool false] 48)) := (Below.refl _ _).alloc (Nat.le_refl _) _
       have I9 := (I8.out.trans (la.mono I8.out.size)).grown G9.out (Nat.le_trans I8.out.size la.size) (fun j e => (OW.out.lt j e).1)
       refine ⟨p + 1, p, g9, d9, _, _, rfl, by first | rfl | go_num, Lib.hid rfl, by omega, Lib.hid (by rw [List.length_append, ← HQ.out, hp]; rfl), Lib.hid I9, Lib.hid ((R8.out.laid la).next ?_ G9.out), RM⟩
       have h := O9.out
       rw [hp, HQ.out] at h
       exact h
   case rest =>
    obtain ⟨p2, q2, g2, d2, done2, y2, rfl, rfl, HP2, hq2n, HQ2, I2, R2, RM2⟩ := hcut
    obtain ⟨zn0, _⟩ := R2.out.len
    have zl3 := RM2.out.2.2
    have zw := RM2.out.2.1
    have hp2 := HP2.out
    obtain ⟨zA, zn, zc, zb, zl⟩ := y2
    dsimp only at zn0 zl3 zw
    subst zw
    have ZN := Lib.hid zn0
    have zn3 : zn ≤ 300 := by omega
    have hqp2 : (q2 : Int) < (p2 : Int) := by omega
    have hq20 : (0 : Int) ≤ (q2 : Int) := by omega
    have QC2 := Lib.hid (fun (W : World) (hW : Below w.heap.size w W) => (Q.out.below hW).cells HCC.out)
    have F24 := Lib.hid (show zn + 1 ≤ maxLen ∧ (zn + 1) * 24 ≤ 140737488355328 from by unfold maxLen; omega)
    have CB := HL.out _ (List.mem_of_getElem? HCC.out)
    dsimp only at CB
    have CBH := Lib.hid CB
    obtain ⟨e0, e1, e2⟩ := QC2.out wc I2.out
    dsimp only at e0 e1 e2
    clear zn0 zl3 hp2 CB I R T HP HQ L3 HBG YN C0 H0 HBn QC hbg hbgi hwp hqp hq0
    go_upto_region 14 with fail
    go_cut [] from 75 to 89 (fun wx => ∃ (A7 : Option Addr) (c7 : Nat), Hid (RL w.heap.size g2 d2 done2 ⟨A7, zn + 1, c7, false, zl ++ [(r, (mw : Int), a)]⟩ wx) ∧ Hid (Below w.heap.size w wx))
    case first =>
     have LA : Laid wc (wc.drew.alloc (.cells #[.int .i32 r, .int .i64 (mw : Int), .int .i64 a] 50)) := ((Below.refl wc.heap.size wc).drew).alloc (Nat.le_refl _) _
     have R4 := Lib.hid (R2.out.laid LA)
     have I4 := Lib.hid (I2.out.trans (LA.mono I2.out.size))
     have OWN := Lib.hid (show World.ownsRow (wc.drew.alloc (.cells #[.int .i32 r, .int .i64 (mw : Int), .int .i64 a] 50)) w.heap.size 50 3 (.slice zA zn zc) zn (flat zl) from by have h := R4.out.last; simp only at h; rw [← ZN.out] at h; exact h)
     have SQ := Lib.hid (show Sq (wc.drew.alloc (.cells #[.int .i32 r, .int .i64 (mw : Int), .int .i64 a] 50)) (wc.heap.size + 1) 3 1 (some ⟨wc.heap.size, 0, none⟩) (flat [(r, (mw : Int), a)]) from ⟨rfl, fun _ => ⟨wc.heap.size, 0, rfl, by simp, fun j u hu => (cell_of_row _ _ _ _ _ (0, 0) (heap_alloc_new wc _)).trans (by rw [Nat.zero_add, List.getElem?_toArray]; exact hu)⟩⟩)
     have BAS := Lib.hid I4.out.size
     have gl := R2.out.at'.2
     have z4 := R2.out.cells.1
     have z5 := R4.out.cells.1
     rw [← HQ2.out] at z4 z5
     dsimp only at z4 z5
     clear LA
     go_region_law (refine step_app rfl _ _ 46 rfl w.heap.size 50 i0 (.agg #[.int .i32 0, .int .i64 0, .int .i64 0]) 3 24 Tryz.underlying46 hi0 hz0 hz1 hz2 rfl (by decide) (.slice zA zn zc) zn (flat zl) rfl OWN.out (some ⟨wc.heap.size, 0, none⟩) 1 1 (flat [(r, (mw : Int), a)]) rfl (wc.heap.size + 1) SQ.out (flat_one _) F24.out.1 F24.out.2 BAS.out ?_; intro A7 c7 w7 hown hg hat; (have PU := Lib.hid (R4.out.push (e := (r, (mw : Int), a)) HQ2.out hown CBH.out hg hat)); (have I7 := Lib.hid (R4.out.belowG (i := q2 * 2) (v := .slice A7 (zn + 1) c7) I4.out (Nat.le_refl _) hg)); (have z6 := PU.out.2.1); (have f6 := PU.out.2.2); clear hown hg hat)
     all_goals
      have R7 := Lib.hid PU.out.1
      clear z4 z5
      go_wp2_with fail
      go_meet
      case rel => exact ⟨A7, c7, R7, I7⟩
    case rest =>
     obtain ⟨A7, c7, R7, I7⟩ := hcut
     clear e0 e1 e2
     obtain ⟨e0, e1, e2⟩ := QC2.out wc I7.out
     dsimp only at e0 e1 e2
     rcases hm12 with hm1 | hm2
     ·obtain rfl : mw = 1 := by omega
      have TN := Lib.hid (show Stands wv (l.take (k + 1)) done2 ⟨A7, zn + 1, c7, false, zl ++ [(r, ((1 : Nat) : Int), a)]⟩ from ⟨by rw [TK.out]; exact RM2.out.1, rfl⟩)
      go_wp2_with fail
      go_roundw
      case rel => exact ⟨k + 1, p2, q2, g2, d2, done2, _, rfl, by go_num, by omega, HP2, HQ2, I7, R7, TN⟩
      case measure => simp [intOf]; omega
     ·obtain rfl : mw = 2 := by omega
      have TN := Lib.hid (show ∀ (A9 : Option Addr) (c9 : Nat), Stands wv (l.take (k + 1)) done2 ⟨A9, zn + 1 + 1, c9, false, zl ++ [(r, ((2 : Nat) : Int), a)] ++ [(0, 0, a)]⟩ from fun A9 c9 => ⟨by rw [TK.out, ← RM2.out.1]; simp [both], rfl⟩)
      go_upto_region 16 with fail
      have ZN0 := ZN
      have F48 := Lib.hid (show zn + 1 + 1 ≤ maxLen ∧ (zn + 1 + 1) * 24 ≤ 140737488355328 from by unfold maxLen; omega)
      have LA : Laid wc (wc.drew.alloc (.cells #[.int .i32 0, .int .i64 0, .int .i64 a] 50)) := ((Below.refl wc.heap.size wc).drew).alloc (Nat.le_refl _) _
      have R4 := Lib.hid (R7.out.laid LA)
      have I4 := Lib.hid (I7.out.trans (LA.mono I7.out.size))
      have OWN := Lib.hid (show World.ownsRow (wc.drew.alloc (.cells #[.int .i32 0, .int .i64 0, .int .i64 a] 50)) w.heap.size 50 3 (.slice A7 (zn + 1) c7) (zn + 1) (flat (zl ++ [(r, ((2 : Nat) : Int), a)])) from by have h := R4.out.last; simp only at h; rw [show (zl ++ [(r, ((2 : Nat) : Int), a)]).length = zn + 1 from by rw [ZN.out, List.length_append]; rfl] at h; exact h)
      have SQ := Lib.hid (show Sq (wc.drew.alloc (.cells #[.int .i32 0, .int .i64 0, .int .i64 a] 50)) (wc.heap.size + 1) 3 1 (some ⟨wc.heap.size, 0, none⟩) (flat [(0, 0, a)]) from ⟨rfl, fun _ => ⟨wc.heap.size, 0, rfl, by simp, fun j u hu => (cell_of_row _ _ _ _ _ (0, 0) (heap_alloc_new wc _)).trans (by rw [Nat.zero_add, List.getElem?_toArray]; exact hu)⟩⟩)
      have BAS := Lib.hid I4.out.size
      have gl := R7.out.at'.2
      have z4 := R7.out.cells.1
      have z5 := R4.out.cells.1
      rw [← HQ2.out] at z4 z5
      dsimp only at z4 z5
      clear LA
      go_region_law (refine step_app rfl _ _ 46 rfl w.heap.size 50 i0 (.agg #[.int .i32 0, .int .i64 0, .int .i64 0]) 3 24 Tryz.underlying46 hi0 hz0 hz1 hz2 rfl (by decide) (.slice A7 (zn + 1) c7) (zn + 1) (flat (zl ++ [(r, ((2 : Nat) : Int), a)])) rfl OWN.out (some ⟨wc.heap.size, 0, none⟩) 1 1 (flat [(0, 0, a)]) rfl (wc.heap.size + 1) SQ.out (flat_one _) F48.out.1 F48.out.2 BAS.out ?_; intro A9 c9 w7 hown hg hat; (have PU := Lib.hid (R4.out.push (e := (0, 0, a)) HQ2.out hown (by show -2147483648 ≤ (0 : Int) ∧ (0 : Int) ≤ 2147483647; decide) hg hat)); (have I9 := Lib.hid (R4.out.belowG (i := q2 * 2) (v := .slice A9 ((zn + 1) + 1) c9) I4.out (Nat.le_refl _) hg)); (have z6 := PU.out.2.1); (have f6 := PU.out.2.2); clear hown hg hat)
      all_goals
       have R9 := Lib.hid PU.out.1
       clear z4 z5
       go_wp2_with fail
       have TN2 := Lib.hid (TN.out A9 c9)
       go_roundw
       case rel => exact ⟨k + 1, p2, q2, g2, d2, done2, _, rfl, by go_num, by omega, HP2, HQ2, I9, R9, TN2⟩
       case measure => simp [intOf]; omega
  ·obtain rfl : k = n := by omega
   have hnl : ¬ (k : Int) < (k : Int) := by omega
   have TE := Lib.hid (show Stands wv l done ⟨yA, yn, yc, yb, yl⟩ from by have h := T.out; rw [List.take_of_length_le (by rw [LN.out]; exact Nat.le_refl _)] at h; exact h)
   have yb0 : yb = false := TE.out.2
   subst yb0
   obtain ⟨cur, hcur⟩ : ∃ cur, yl = cur := ⟨_, rfl⟩
   have R1 := Lib.hid (show ∃ A' n' c' j, n' = yn + j ∧ n' ≤ wv ∧ RL w.heap.size g d done ⟨A', n', c', false, yl ++ blanksL j⟩ wr from ⟨yA, yn, yc, 0, rfl, hynw, by have h := R.out; simpa [blanksL] using h⟩)
   have OYN := Lib.hid (show yn = yl.length from R.out.len.1)
   clear hcur hqk C0
   go_wp2_with fail
   go_loopw [] (fun wr2 => ∃ (j : Nat) (A' : Option Addr) (n' c' : Nat), Hid (n' = yn + j) ∧ n' ≤ wv ∧ Hid (RL w.heap.size g d done ⟨A', n', c', false, yl ++ blanksL j⟩ wr2) ∧ Hid (Below w.heap.size w wr2)) (fun wr2 => match wr2.cell? ⟨g, q * 2, none⟩ with | some (.slice _ n' _) => wv - n' | _ => 0)
   case atStart => exact ⟨0, yA, yn, yc, Lib.hid rfl, hynw, Lib.hid (by have h := R.out; simpa [blanksL] using h), I⟩
   case round =>
    obtain ⟨j, A', n', c', NJ, hn', R2, I2⟩ := hrel
    clear R I R1
    have YN := Lib.hid (show n' = (yl ++ blanksL j).length from R2.out.len.1)
    have C3 := Lib.hid (show ∀ W, Laid wr W → W.cell? ⟨g, q * 2, none⟩ = some (.slice A' n' c') from fun W hW => by have h := (R2.out.laid hW).cells.1; rw [← HQ.out] at h; exact h)
    have c3 := C3.out wr (Below.refl _ _)
    by_cases hlt : n' < wv
    ·have hpi : (n' : Int) < (wv : Int) := by omega
     have F24 := Lib.hid (show n' + 1 ≤ maxLen ∧ (n' + 1) * 24 ≤ 140737488355328 from by unfold maxLen; omega)
     go_upto_region 19 with fail
     go_region_law (first
      | (go_simp; go_at_call 73; refine (refBlank_walk _).mono ?_; rintro e w4 ⟨rfl, b4'⟩; (have b4 : Laid wr w4 := ((Below.refl wr.heap.size wr).drew).trans b4'); (have ba := (Below.refl w4.heap.size w4).alloc (Nat.le_refl _) (.cells #[.int .i32 32, .int .i64 1, .int .i64 0] 50)); (have R4 := Lib.hid (R2.out.laid (b4.trans (ba.mono b4.size)))); (have I4 := Lib.hid (I2.out.trans ((b4.trans (ba.mono b4.size)).mono I2.out.size))); (have z4 := C3.out w4 b4); (have z5 := C3.out (w4.alloc (.cells #[.int .i32 32, .int .i64 1, .int .i64 0] 50)) (b4.trans (ba.mono b4.size))); (have SQ := Lib.hid (show Sq (w4.alloc (.cells #[.int .i32 32, .int .i64 1, .int .i64 0] 50)) (w4.alloc (.cells #[.int .i32 32, .int .i64 1, .int .i64 0] 50)).heap.size 3 1 (some ⟨w4.heap.size, 0, none⟩) (flat [(32, 1, 0)]) from ⟨rfl, fun _ => ⟨w4.heap.size, 0, rfl, by simp, fun j u hu => (cell_of_row _ _ _ _ _ (0, 0) (heap_alloc_new w4 _)).trans (by rw [Nat.zero_add, List.getElem?_toArray]; exact hu)⟩⟩)); (have OWN := Lib.hid (show World.ownsRow (w4.alloc (.cells #[.int .i32 32, .int .i64 1, .int .i64 0] 50)) w.heap.size 50 3 (.slice A' n' c') n' (flat (yl ++ blanksL j)) from by have h := R4.out.last; simp only at h; rw [← YN.out] at h; exact h)); (have BAS := Lib.hid (show w.heap.size ≤ (w4.alloc (.cells #[.int .i32 32, .int .i64 1, .int .i64 0] 50)).heap.size from I4.out.size)); clear ba b4 b4')
      | (refine step_app rfl _ _ 46 rfl w.heap.size 50 i0 (.agg #[.int .i32 0, .int .i64 0, .int .i64 0]) 3 24 Tryz.underlying46 hi0 hz0 hz1 hz2 rfl (by decide) (.slice A' n' c') n' (flat (yl ++ blanksL j)) rfl OWN.out (some ⟨w4.heap.size, 0, none⟩) 1 1 (flat [(32, 1, 0)]) rfl (w4.alloc (.cells #[.int .i32 32, .int .i64 1, .int .i64 0] 50)).heap.size SQ.out (flat_one _) F24.out.1 F24.out.2 BAS.out ?_; intro A5 c5 w5 hown hg hat; (have PU := Lib.hid (R4.out.push (e := (32, 1, 0)) HQ.out hown (by decide) hg hat)); (have I6 := Lib.hid (R4.out.belowG (i := q * 2) (v := .slice A5 (n' + 1) c5) I4.out (Nat.le_refl _) hg)); (have z6 := PU.out.2.1); (have f6 := PU.out.2.2); clear hown hg hat))
     all_goals
      have R6 := Lib.hid PU.out.1
      have R8 := Lib.hid (show RL w.heap.size g d done ⟨A5, n' + 1, c5, false, yl ++ blanksL (j + 1)⟩ (w5.setCell ⟨g, q * 2, none⟩ (.slice A5 (n' + 1) c5)) from by have h := R6.out; rw [show blanksL (j + 1) = blanksL j ++ [(32, 1, 0)] from List.replicate_succ' .., ← List.append_assoc]; exact h)
      have z9 : (w5.setCell ⟨g, q * 2, none⟩ (.slice A5 (n' + 1) c5)).cell? ⟨g, q * 2, none⟩ = some (.slice A5 (n' + 1) c5) := by have h := R8.out.cells.1; rw [← HQ.out] at h; exact h
      have Z9 := Lib.hid z9
      have NJ2 := Lib.hid (show n' + 1 = yn + (j + 1) from by have := NJ.out; omega)
      clear z4 z5 z9
      go_wp2_with fail
      go_roundw
      case rel => exact ⟨j + 1, A5, n' + 1, c5, NJ2, by omega, R8, I6⟩
      case measure => rw [Z9.out, c3]; simp; omega
    ·obtain rfl : n' = wv := by omega
     have hpi : ¬ (n' : Int) < (n' : Int) := by omega
     have FN := Lib.hid (show (done ++ [(⟨A', n', c', false, yl ++ blanksL j⟩ : RowIn)]).map lr = layL n' l from by
      have h := NJ.out
      have h1 := OYN.out
      unfold layL fill
      rw [← TE.out.1, List.map_append]
      simp only
      rw [show n' - yl.length = j by omega]
      rfl)
     have OWN := Lib.hid (show Own wr w.heap.size (.slice (some ⟨g, 0, none⟩) p d) (done ++ [(⟨A', n', c', false, yl ++ blanksL j⟩ : RowIn)]) from by have h := R2.out.own; rw [← HQ.out, ← HP.out] at h; exact h)
     go_wp2_with fail
     go_ret
     first | exact ⟨_, rfl, _, OWN.out, FN.out, I2.out⟩ | exact ⟨_, rfl, ⟨_, OWN.out, FN.out⟩, I2.out⟩
end Ln
end Go.Proofs.YtgmijnnhanpocaaGreatDoor
namespace Go.Proofs.YtgmijnnhanpocaaGreatDoor
open Go.ChangeShapes Go.WideShapes Go.ChangeAt Go.RowKit
namespace Ln
open Rw
set_option maxRecDepth 100000 in
set_option maxHeartbeats 6400000 in
theorem refLayout_none (A : Option Addr) (n c : Nat) (l : List Cel) (x : Int) (w : World) (hl : ∀ c ∈ l, -2147483648 ≤ c.1 ∧ c.1 ≤ 2147483647) (hq : Sq w w.heap.size 3 n A (flat l)) (hn : n ≤ 1000000) (hx : ¬ (2 ≤ x ∧ x ≤ 300)) :
  Calls Tryz.prog 37 #[.slice A n c, .int .i64 x] w fun e w' => e = .returned (.slice none 0 0) ∧ Below w.heap.size w w' := by
 have LI := Lib.hid (refLine_walk A n c l w hl hq hn)
 have HX := Lib.hid hx
 obtain ⟨b, hb⟩ : ∃ b, lineB l = b := ⟨_, rfl⟩
 rw [hb] at LI
 clear hl hq hx hb
 go_enter Tryz.func37, Tryz.ntmps37
 go_wp2_with fail
 refine LI.out.mono ?_
 rintro e w1 ⟨rfl, b1⟩
 have B1 := Lib.hid b1
 clear b1
 cases b with
 | false =>
  go_wp2_with fail
  go_ret
  exact ⟨rfl, B1.out⟩
 | true =>
  by_cases h2 : x < 2
  ·go_wp2_with fail
   go_ret
   exact ⟨rfl, B1.out⟩
  ·have h3 : 300 < x := by have := HX.out; omega
   go_wp2_with fail
   go_ret
   exact ⟨rfl, B1.out⟩
set_option maxRecDepth 100000 in
set_option maxHeartbeats 6400000 in
theorem refAll_walk (A : Option Addr) (n c wv : Nat) (vs : List Value) (ls : List (List Cel)) (w : World) (h : Lrd w w.heap.size A n vs ls) (hn : n ≤ 1000) (hok : LOk ls) (hw2 : 2 ≤ wv) (hw3 : wv ≤ 300) :
  Calls Tryz.prog 12 #[.slice A n c, .int .i64 (wv : Int)] w fun e w' => ∃ v rs, e = .returned v ∧ Own w' w.heap.size v rs ∧ rs.map lr = allL wv ls ∧ Below w.heap.size w w' := by
 obtain ⟨i0, hi0, hz0, hz1, hz2⟩ := info_parts infoRw
 have LD := Lib.hid h
 have OK := Lib.hid hok
 have HW := Lib.hid (And.intro hw2 hw3)
 have HX := Lib.hid h.len
 have I0 := Lib.hid (Below.refl w.heap.size w)
 have O0 := Lib.hid (And.intro (Own.nothing w w.heap.size) (show ([] : List RowIn).map lr = allL wv (ls.take 0) from rfl))
 clear h hok
 go_enter Tryz.func12, Tryz.ntmps12
 go_wp2_with fail
 go_loopw [5, 6] (fun v i wr => ∃ (k : Nat) (rs : List RowIn), i = .int .i64 (k : Int) ∧ k ≤ n ∧ Hid (Below w.heap.size w wr) ∧ Hid (Own wr w.heap.size v rs ∧ rs.map lr = allL wv (ls.take k))) (fun _ i _ => n - (intOf i).toNat)
 case atStart => exact ⟨0, [], rfl, Nat.zero_le _, I0, O0⟩
 case round =>
  obtain ⟨k, rs, rfl, hk, I, O⟩ := hrel
  clear I0 O0
  obtain ⟨A5, c5, hv, hc5⟩ := O.out.1.shape
  subst hv
  by_cases hlt : k < n
  ·obtain ⟨l, hl⟩ : ∃ l, ls[k]? = some l := ⟨_, List.getElem?_eq_getElem (by rw [HX.out]; omega)⟩
   obtain ⟨x, hx⟩ : ∃ x, vs[k]? = some x := ⟨_, List.getElem?_eq_getElem (by have := LD.out.sq.len; omega)⟩
   have R := LD.out.below I.out
   obtain ⟨b, off, rfl, hb, c0⟩ := one_at R.sq hx hlt
   obtain ⟨A1, m, d1, rfl, hd1, q1, m1⟩ := R.each k x l hx hl
   have hm := List.mem_of_getElem? hl
   have LY := Lib.hid (refLayout_walk A1 m d1 wv l wr (OK.out.signs l hm) (q1.up I.out.size) (by have h1 := OK.out.len l hm; have h2 := q1.len; rw [flat_length] at h2; omega) (OK.out.ok l hm) HW.out.1 HW.out.2)
   have LO := Lib.hid (OK.out.ok l hm)
   have NX := Lib.hid (allL_next (wv := wv) hl)
   have HLE := Lib.hid (show rs.length ≤ 10001000 ∧ (layL wv l).length ≤ 10001 from by
    have h1 := highs_le (wv := wv) (ls.take k) fun y hy => OK.out.len y (List.mem_of_mem_take hy)
    rw [List.length_take, ← allL_len, ← O.out.2, List.length_map] at h1
    have h2 := layL_len wv l
    have h3 := OK.out.len l hm
    omega)
   have hk0 : (0 : Int) ≤ (k : Int) := by omega
   have hkn : (k : Int) < (n : Int) := by omega
   clear hl hx R q1 hm hb
   go_wp2_with fail
   refine LY.out.mono ?_
   rintro e w3 ⟨v3, rs3, rfl, sh3, hm3, b3⟩
   obtain ⟨A3, c3, rfl, _⟩ := sh3.shape
   have I3 := Lib.hid (I.out.trans (b3.mono I.out.size))
   have O3 := Lib.hid (O.out.1.laid b3)
   have R3 := Lib.hid (sh3.down I.out.size)
   have SQ := Lib.hid (Sq.own sh3.own)
   have M3 := Lib.hid hm3
   have F1 := Lib.hid (show rs.length + rs3.length ≤ maxLen ∧ (rs.length + rs3.length) * 32 ≤ 140737488355328 from by
    have h1 := HLE.out
    rw [← M3.out, List.length_map] at h1
    unfold maxLen
    omega)
   have MP := Lib.hid (show (rs ++ rs3).map lr = allL wv (ls.take (k + 1)) from by rw [NX.out, List.map_append, O.out.2, M3.out])
   clear sh3 hm3 b3 LY O I HLE NX
   go_wp2_with (at_builtin; refine wpl_app rfl _ _ 22 rfl w.heap.size 48 i0 (.agg #[.slice none 0 0, .bool false]) 2 32 Tryz.underlying22 hi0 hz0 hz1 hz2 rfl (by decide) (.slice A5 rs.length c5) rs.length (rs.flatMap RowIn.vals) rfl O3.out.own A3 rs3.length c3 (rs3.flatMap RowIn.vals) rfl w3.heap.size SQ.out (rvals_one _) F1.out.1 F1.out.2 I3.out.size ?_; intro v4 w4 ho4 hg4 _; (obtain ⟨A4, c4, rfl, _⟩ := own_cap ho4); (have O4 := Lib.hid (O3.out.app R3.out ho4 hg4)); (have I4 := Lib.hid (I3.out.grown hg4 I3.out.size (fun j e => (O3.out.own.lt j e).1))); clear ho4 hg4)
   go_roundw
   case rel => exact ⟨k + 1, rs ++ rs3, by go_num, by omega, I4, Lib.hid ⟨O4.out, MP.out⟩⟩
   case measure => first | (simp [intOf]; done) | (simp [intOf]; omega)
  ·obtain rfl : k = n := by omega
   have FN := Lib.hid (show rs.map lr = allL wv ls from by have h := O.out.2; rw [List.take_of_length_le (by rw [HX.out]; exact Nat.le_refl _)] at h; exact h)
   have hnl : ¬ (k : Int) < (k : Int) := by omega
   go_wp2_with fail
   go_ret
   first | exact ⟨_, rfl, rs, O.out.1, FN.out, I.out⟩ | exact ⟨_, rfl, ⟨rs, O.out.1, FN.out⟩, I.out⟩
set_option maxRecDepth 100000 in
set_option maxHeartbeats 6400000 in
theorem refAll_none (A : Option Addr) (n c : Nat) (x : Int) (vs : List Value) (ls : List (List Cel)) (w : World) (h : Lrd w w.heap.size A n vs ls) (hn : n ≤ 1000) (hok : LOk ls) (hx : ¬ (2 ≤ x ∧ x ≤ 300)) :
  Calls Tryz.prog 12 #[.slice A n c, .int .i64 x] w fun e w' => ∃ v, e = .returned v ∧ Own w' w.heap.size v [] ∧ Below w.heap.size w w' := by
 obtain ⟨i0, hi0, hz0, hz1, hz2⟩ := info_parts infoRw
 have LD := Lib.hid h
 have OK := Lib.hid hok
 have HX := Lib.hid h.len
 have NW := Lib.hid hx
 have I0 := Lib.hid (Below.refl w.heap.size w)
 have O0 := Lib.hid (Own.nothing w w.heap.size)
 have F1 := Lib.hid (show 0 + 0 ≤ maxLen ∧ (0 + 0) * 32 ≤ 140737488355328 from by unfold maxLen; omega)
 clear h hok hx
 go_enter Tryz.func12, Tryz.ntmps12
 go_wp2_with fail
 go_loopw [5, 6] (fun v i wr => ∃ (k : Nat), i = .int .i64 (k : Int) ∧ k ≤ n ∧ Hid (Below w.heap.size w wr) ∧ Hid (Own wr w.heap.size v [])) (fun _ i _ => n - (intOf i).toNat)
 case atStart => exact ⟨0, rfl, Nat.zero_le _, I0, O0⟩
 case round =>
  obtain ⟨k, rfl, hk, I, O⟩ := hrel
  clear I0 O0
  obtain ⟨A5, c5, hv, hc5⟩ := O.out.shape
  subst hv
  by_cases hlt : k < n
  ·obtain ⟨l, hl⟩ : ∃ l, ls[k]? = some l := ⟨_, List.getElem?_eq_getElem (by rw [HX.out]; omega)⟩
   obtain ⟨y, hy⟩ : ∃ y, vs[k]? = some y := ⟨_, List.getElem?_eq_getElem (by have := LD.out.sq.len; omega)⟩
   have R := LD.out.below I.out
   obtain ⟨b, off, rfl, hb, c0⟩ := one_at R.sq hy hlt
   obtain ⟨A1, m, d1, rfl, hd1, q1, m1⟩ := R.each k y l hy hl
   have hm := List.mem_of_getElem? hl
   have LY := Lib.hid (refLayout_none A1 m d1 l x wr (OK.out.signs l hm) (q1.up I.out.size) (by omega) NW.out)
   have hk0 : (0 : Int) ≤ (k : Int) := by omega
   have hkn : (k : Int) < (n : Int) := by omega
   clear hl hy R q1 hm hb
   go_wp2_with fail
   refine LY.out.mono ?_
   rintro e w3 ⟨rfl, b3⟩
   have I3 := Lib.hid (I.out.trans (b3.mono I.out.size))
   have O3 := Lib.hid (O.out.laid b3)
   clear b3 LY O I
   go_wp2_with (at_builtin; refine wpl_app rfl _ _ 22 rfl w.heap.size 48 i0 (.agg #[.slice none 0 0, .bool false]) 2 32 Tryz.underlying22 hi0 hz0 hz1 hz2 rfl (by decide) (.slice A5 0 c5) 0 [] rfl O3.out.own none 0 0 [] rfl w3.heap.size ⟨rfl, fun h => absurd h (by decide)⟩ (by intro u hu; cases hu) F1.out.1 F1.out.2 I3.out.size ?_; intro v4 w4 ho4 hg4 _; (obtain ⟨A4, c4, rfl, _⟩ := own_cap ho4); (have O4 := Lib.hid (Own.app O3.out (Own.nothing w3 w.heap.size) ho4 hg4)); (have I4 := Lib.hid (I3.out.grown hg4 I3.out.size (fun j e => (O3.out.own.lt j e).1))); clear ho4 hg4)
   go_roundw
   case rel => exact ⟨k + 1, by go_num, by omega, I4, O4⟩
   case measure => first | (simp [intOf]; done) | (simp [intOf]; omega)
  ·obtain rfl : k = n := by omega
   have hnl : ¬ (k : Int) < (k : Int) := by omega
   go_wp2_with fail
   go_ret
   exact ⟨_, rfl, O.out, I.out⟩
end Ln
end Go.Proofs.YtgmijnnhanpocaaGreatDoor
namespace Go.Proofs.YtgmijnnhanpocaaGreatDoor
open Go.ChangeShapes Go.WideShapes Go.ChangeAt Go.RowKit
namespace Ln
open Rw
theorem Lrd.take {W : World} {B n i : Nat} {A : Option Addr} {vs : List Value} {ls : List (List Cel)} (h : Lrd W B A n vs ls) (hi : i ≤ n) : Lrd W B A i (vs.take i) (ls.take i) := by
 have hv := h.sq.len
 refine ⟨⟨by rw [List.length_take]; omega, fun h0 => ?_⟩, by rw [List.length_take, h.len]; omega, fun j x l hx hl => ?_⟩
 ·obtain ⟨b, off, e, hb, hc⟩ := h.sq.spot (by omega)
  refine ⟨b, off, e, hb, fun j u hu => hc j u ?_⟩
  rw [List.getElem?_take] at hu
  split at hu
  ·exact hu
  ·cases hu
 ·rw [List.getElem?_take] at hx hl
  split at hx
  ·rename_i hj
   rw [if_pos hj] at hl
   exact h.each j x l hx hl
  ·cases hx
theorem LOk.take {ls : List (List Cel)} (h : LOk ls) (i : Nat) : LOk (ls.take i) := ⟨fun l hl => h.ok l (List.mem_of_mem_take hl), fun l hl => h.len l (List.mem_of_mem_take hl), fun l hl => h.signs l (List.mem_of_mem_take hl)⟩
theorem pos_next {wv k : Nat} {l : List Cel} {x : Cel} (h : l[k]? = some x) : (posOut wv (l.take (k + 1))).1 = if wv < (posOut wv (l.take k)).1.2 + wd x then ((posOut wv (l.take k)).1.1 + 1, wd x) else ((posOut wv (l.take k)).1.1, (posOut wv (l.take k)).1.2 + wd x) := by
 rw [pos_took h]
 unfold pstep
 split <;> rfl
set_option maxRecDepth 100000 in
set_option maxHeartbeats 12800000 in
theorem refPlace_walk (A : Option Addr) (n c wv i k p : Nat) (vs : List Value) (ls : List (List Cel)) (l : List Cel) (w : World) (h : Lrd w w.heap.size A n vs ls) (hc : n ≤ c) (hn : n ≤ 1000) (hok : LOk ls) (hw2 : 2 ≤ wv) (hw3 : wv ≤ 300) (hl : ls[i]? = some l) (hk : k ≤ l.length) (hp : p ≤ 1073741824) :
  Calls Tryz.prog 20 #[.slice A n c, .int .i64 (wv : Int), .agg #[.int .i64 (i : Int), .int .i64 (k : Int), .int .i64 (p : Int)]] w fun e w' => e = .returned (.agg #[.int .i64 ((placeN wv ls (i, k, p)).1 : Int), .int .i64 ((placeN wv ls (i, k, p)).2 : Int)]) ∧ Below w.heap.size w w' := by
 obtain ⟨S, hS⟩ : ∃ S, w.heap.size = S := ⟨_, rfl⟩
 obtain ⟨w1, hw1⟩ : ∃ w1, (w.alloc (.cells #[.int .i64 (i : Int), .int .i64 (k : Int), .int .i64 (p : Int)] 27)).alloc (.cells #[.int .i64 0, .int .i64 0] 25) = w1 := ⟨_, rfl⟩
 have z1 : w1.heap.size = S + 2 := by rw [← hw1, ← hS]; simp
 have b1 : Below w.heap.size w w1 := by rw [← hw1]; exact ((Below.refl _ _).alloc (Nat.le_refl _) _).alloc (by simp) _
 have x0 : w1.heap[S]? = some (.cells #[.int .i64 (i : Int), .int .i64 (k : Int), .int .i64 (p : Int)] 27 (0, 0)) := by rw [← hw1, ← hS]; exact (Below.heap_alloc _ _ _ (by simp)).trans (heap_alloc_new w _)
 have x1 : w1.heap[S + 1]? = some (.cells #[.int .i64 0, .int .i64 0] 25 (0, 0)) := by
  rw [← hw1, ← hS]
  have := heap_alloc_new (w.alloc (.cells #[.int .i64 (i : Int), .int .i64 (k : Int), .int .i64 (p : Int)] 27)) (.cells #[.int .i64 0, .int .i64 0] 25)
  rwa [World.size_alloc] at this
 have hi : i < n := by have := (List.getElem?_eq_some_iff.1 hl).1; rw [h.len] at this; exact this
 obtain ⟨x, hx⟩ : ∃ x, vs[i]? = some x := ⟨_, List.getElem?_eq_getElem (by have := h.sq.len; omega)⟩
 obtain ⟨A1, m, d1, rfl, hd1, q1, m1⟩ := h.each i x l hx hl
 have hml : l.length = m := by have := q1.len; rw [flat_length] at this; omega
 have hb := hok.ok l (List.mem_of_getElem? hl)
 have hm4 : m ≤ 10000 := by have := hok.len l (List.mem_of_getElem? hl); omega
 have h12 : ∀ x ∈ l, W12 x := fun x hx => okC_w (by unfold lineB at hb; exact List.all_eq_true.1 hb x hx)
 obtain ⟨b, off, rfl, hbb, c0⟩ := one_at h.sq hx hi
 have AW := Lib.hid (fun (W : World) (hW : Below w.heap.size w W) => refAll_walk (some ⟨b, off, none⟩) i c wv (vs.take i) (ls.take i) W (((h.take (Nat.le_of_lt hi)).below hW).up hW.size) (by omega) (hok.take i) hw2 hw3)
 have LD := Lib.hid h
 have HX := Lib.hid hx
 have Q1 := Lib.hid q1
 have PB := Lib.hid (fun j => pos_bounds hw2 (l.take j) (fun x hx => h12 x (List.mem_of_mem_take hx)))
 have H12 := Lib.hid h12
 have HML := Lib.hid hml
 rw [hml] at hk
 obtain ⟨P, hP⟩ : ∃ P, placeN wv ls (i, k, p) = P := ⟨_, rfl⟩
 have PN := Lib.hid (show P = placeN wv ls (i, k, p) from hP.symm)
 have HLS := Lib.hid hl
 have HG := Lib.hid (show highs wv (ls.take i) ≤ 10001000 from by
  have h1 := highs_le (wv := wv) (ls.take i) fun y hy => hok.len y (List.mem_of_mem_take hy)
  rw [List.length_take] at h1
  omega)
 rw [hP]
 obtain ⟨hg, hhg⟩ : ∃ hg, highs wv (ls.take i) = hg := ⟨_, rfl⟩
 rw [hhg] at HG
 have HHG := Lib.hid hhg
 have B1 := Lib.hid b1
 have X0 := Lib.hid x0
 have X1 := Lib.hid x1
 have Z1 := Lib.hid z1
 have HS := Lib.hid hS
 have HW := Lib.hid hw1
 have HWW := Lib.hid (And.intro hw2 hw3)
 have CC := Lib.hid (show ∀ W, Below w.heap.size w W → W.cell? ⟨b, off + i, none⟩ = some (.slice A1 m d1) from fun W hW => (hW.cell (p := ⟨b, off + i, none⟩) hbb).trans c0)
 obtain ⟨J, hJ, F, h0, hB, _⟩ := Cls.below w1
 have H0 := Lib.hid h0
 have HBn := Lib.hid hB
 have k0 : ∀ n, (F n).cell? ⟨S, 0, none⟩ = some (.int .i64 (i : Int)) := fun n => cell_of_row _ _ 0 _ _ (0, 0) (((hB n).block S (by omega)).trans x0)
 have k1 : ∀ n, (F n).cell? ⟨S, 1, none⟩ = some (.int .i64 (k : Int)) := fun n => cell_of_row _ _ 1 _ _ (0, 0) (((hB n).block S (by omega)).trans x0)
 have k2 : ∀ n, (F n).cell? ⟨S, 2, none⟩ = some (.int .i64 (p : Int)) := fun n => cell_of_row _ _ 2 _ _ (0, 0) (((hB n).block S (by omega)).trans x0)
 have k3 : ∀ n, (F n).cell? ⟨b, off + i, none⟩ = some (.slice A1 m d1) := fun n => CC.out _ (b1.trans ((hB n).mono b1.size))
 have g1 : decide ((i : Int) < 0) = false := by first | (simp; done) | (simp; omega)
 have g2 : decide (n ≤ i) = false := by first | (simp; done) | (simp; omega)
 have g3 : decide ((k : Int) < 0) = false := by first | (simp; done) | (simp; omega)
 have g4 : decide (m < k) = false := by first | (simp; done) | (simp; omega)
 have g5 : decide ((p : Int) < 0) = false := by first | (simp; done) | (simp; omega)
 have g6 : decide ((wv : Int) < 2) = false := by first | (simp; done) | (simp; omega)
 have g7 : decide ((300 : Int) < (wv : Int)) = false := by first | (simp; done) | (simp; omega)
 have hii : (i : Int) < (n : Int) := by omega
 have hi0 : (0 : Int) ≤ (i : Int) := by omega
 clear h hok hl hx q1 hb h12 hP hhg b1 x0 x1 z1 hw1 h0 hB hml c0 hbb hw2 hw3 m1
 go_enter Tryz.func20, Tryz.ntmps20
 go_upto_region 1 with fail
 rw [HW.out]
 clear hS
 refine Cls.region F H0.out (by kernel_rfl) (by kernel_rfl) ?_
 repeat (go_big_quiet_step (fail))
 refine wpQuiet_nil ?_
 intro _ hw'
 obtain ⟨nq, hw''⟩ := hw'
 subst hw''
 have L3 := Lib.hid (HBn.out nq)
 obtain ⟨w3, hw3⟩ : ∃ w3, F nq = w3 := ⟨_, rfl⟩
 rw [hw3] at L3 ⊢
 clear k0 k1 k2 k3 hw3 g1 g2 g3 g4 g5 g6 g7
 have I3 := Lib.hid (B1.out.trans (L3.out.mono B1.out.size))
 have X03 := Lib.hid ((L3.out.block S (by rw [Z1.out]; omega)).trans X0.out)
 have e0 : w3.cell? ⟨S, 0, none⟩ = some (.int .i64 (i : Int)) := cell_of_row _ _ 0 _ _ (0, 0) X03.out
 have A3 := Lib.hid (AW.out w3 I3.out)
 have hic : i ≤ c := by omega
 go_wp2_with fail
 refine A3.out.mono ?_
 rintro e w4 ⟨v4, rs4, rfl, o4, m4, b4⟩
 obtain ⟨A4, c4, rfl, _⟩ := o4.shape
 have hn4 : rs4.length = hg := by have h := congrArg List.length m4; rw [List.length_map, allL_len, HHG.out] at h; exact h
 rw [hn4]
 have L4 := Lib.hid (show Laid w1 w4 from L3.out.trans (b4.mono L3.out.size))
 have I4 := Lib.hid (B1.out.trans (L4.out.mono B1.out.size))
 have X04 := Lib.hid ((L4.out.block S (by rw [Z1.out]; omega)).trans X0.out)
 have f0 : w4.cell? ⟨S, 0, none⟩ = some (.int .i64 (i : Int)) := cell_of_row _ _ 0 _ _ (0, 0) X04.out
 have f1 : w4.cell? ⟨S, 1, none⟩ = some (.int .i64 (k : Int)) := cell_of_row _ _ 1 _ _ (0, 0) X04.out
 have f2 : w4.cell? ⟨S, 2, none⟩ = some (.int .i64 (p : Int)) := cell_of_row _ _ 2 _ _ (0, 0) X04.out
 have f3 := CC.out w4 I4.out
 have Q4 := Lib.hid (Q1.out.below I4.out)
 clear e0 o4 m4 b4 hn4 A3
 have T0 := Lib.hid (show (posOut wv (l.take 0)).1 = (0, 0) from rfl)
 go_wp2_with fail
 go_loopw [9, 10, 11] (fun v9 v10 v11 wr => ∃ (j row col : Nat), v9 = .int .i64 (row : Int) ∧ v10 = .int .i64 (col : Int) ∧ v11 = .int .i64 (j : Int) ∧ j ≤ k ∧ Hid ((posOut wv (l.take j)).1 = (row, col)) ∧ wr = w4) (fun _ _ v11 _ => k + 1 - (intOf v11).toNat)
 case atStart => exact ⟨0, 0, 0, rfl, rfl, rfl, Nat.zero_le _, T0, rfl⟩
 case round =>
  obtain ⟨j, row, col, rfl, rfl, rfl, hj, T, rfl⟩ := hrel
  have hb2 := PB.out j
  rw [T.out] at hb2
  have hcol : col ≤ 300 := by have := HWW.out.2; have := hb2.1; simp only at this; omega
  have hrow : row ≤ 10000 := by have := hb2.2.1; rw [List.length_take] at this; simp only at this; omega
  clear hb2 T0
  have hjm : (j : Int) ≤ (m : Int) := by omega
  by_cases hjm2 : j < m
  ·obtain ⟨bb, offb, rfl, _, ⟨r0, mm, a⟩, hcc, q0, q1, q2⟩ := Q4.out.three hjm2
   have hm12 : mm = 1 ∨ mm = 2 := H12.out _ (List.mem_of_getElem? hcc)
   obtain ⟨mw, hmw⟩ : ∃ mw : Nat, mm = (mw : Int) := ⟨mm.toNat, by omega⟩
   subst hmw
   have hmw2 : mw ≤ 2 := by omega
   have PNX := Lib.hid (pos_next (wv := wv) hcc)
   rw [T.out] at PNX
   have HCC := Lib.hid hcc
   have hji : (j : Int) < (m : Int) := by omega
   have hj0 : (0 : Int) ≤ (j : Int) := by omega
   have hsm : IntKind.i64.wrap ((col : Int) + (mw : Int)) = (col : Int) + (mw : Int) := IntWalk.i64_in _ (by omega)
   have hwd : wd (r0, (mw : Int), a) = mw := by simp [wd]
   rw [hwd] at PNX
   clear hcc hm12 hwd
   by_cases hbig : wv < col + mw
   ·have hbi : (wv : Int) < (col : Int) + (mw : Int) := by omega
    obtain ⟨row1, hrow1⟩ : ∃ row1 : Nat, row + 1 = row1 := ⟨_, rfl⟩
    have hinc : IntKind.i64.wrap ((row : Int) + 1) = (row1 : Int) := by rw [show (row : Int) + 1 = (row1 : Int) by omega]; exact IntWalk.i64_in _ (by omega)
    have T2 := Lib.hid (show (posOut wv (l.take (j + 1))).1 = (row1, mw) from by have h := PNX.out; rw [if_pos hbig] at h; rw [h, ← hrow1])
    have HR1 := Lib.hid hrow1
    have hr1b : row1 ≤ 10001 := by omega
    clear hrow1 PNX
    by_cases hjk : j < k
    ·have hne : ((j : Int) == (k : Int)) = false := by simp; omega
     have hne2 : (j == k) = false := by simp; omega
     have hne3 : ¬ (j : Int) = (k : Int) := by omega
     have hne4 : ¬ j = k := by omega
     go_wp2_with fail
     go_roundw
     case rel => exact ⟨j + 1, row1, mw, by first | rfl | go_num, by first | rfl | go_num, by go_num, by omega, T2, by first | rfl | trivial⟩
     case measure => simp [intOf]; omega
    ·obtain rfl : j = k := by omega
     have PNX := T2
     obtain ⟨N1, hN1⟩ : ∃ N1 : Nat, hg + row1 = N1 := ⟨_, rfl⟩
     have hsum : IntKind.i64.wrap ((hg : Int) + (row1 : Int)) = (N1 : Int) := by rw [show (hg : Int) + (row1 : Int) = (N1 : Int) by omega]; exact IntWalk.i64_in _ (by have := HG.out; omega)
     have PV := Lib.hid (show P = (N1, 0) from by
      rw [PN.out, placeN_cell (s := (i, j, p)) HLS.out HCC.out, ← hN1, HHG.out]
      have h := PNX.out
      unfold cellPos
      simp only
      rw [h]
      simp [wd]
      try omega
     )
     have X14 := Lib.hid ((L4.out.block (S + 1) (by rw [Z1.out]; omega)).trans X1.out)
     have t0 := frozen_of_row wr (S + 1) 0 _ _ X14.out
     have t1 := frozen_of_row wr (S + 1) 1 _ _ X14.out
     have y0 : wr.cell? ⟨S + 1, 0, none⟩ = some (.int .i64 0) := cell_of_row _ _ 0 _ _ (0, 0) X14.out
     have y1 : wr.cell? ⟨S + 1, 1, none⟩ = some (.int .i64 0) := cell_of_row _ _ 1 _ _ (0, 0) X14.out
     have HN1 := Lib.hid hN1
     clear hN1
     go_wp2_with fail
     have s1 := heap_setCell_same wr (S + 1) 0 _ _ (.int .i64 (N1 : Int)) X14.out
     have s2 := heap_setCell_same _ (S + 1) 1 _ _ (.int .i64 (0 : Int)) s1
     have hs2 : w.heap.size ≤ S + 1 := by rw [HS.out]; omega
     have B9 := Lib.hid ((I4.out.setCell (p := ⟨S + 1, 0, none⟩) hs2 (.int .i64 (N1 : Int))).setCell (p := ⟨S + 1, 1, none⟩) hs2 (.int .i64 (0 : Int)))
     generalize (wr.setCell ⟨S + 1, 0, none⟩ (.int .i64 (N1 : Int))).setCell ⟨S + 1, 1, none⟩ (.int .i64 (0 : Int)) = w9 at s2 B9 ⊢
     have r0 : w9.cell? ⟨S + 1, 0, none⟩ = some (.int .i64 (N1 : Int)) := cell_of_row _ _ 0 _ _ (0, 0) (by simpa using s2)
     have r1 : w9.cell? ⟨S + 1, 1, none⟩ = some (.int .i64 (0 : Int)) := cell_of_row _ _ 1 _ _ (0, 0) (by simpa using s2)
     refine bodyPost_ret (v := .agg #[.int .i64 (N1 : Int), .int .i64 (0 : Int)]) (by simp [results, Tryz.results20, go_sem, r0, r1]) rfl ?_
     exact ⟨by rw [PV.out] <;> rfl, B9.out⟩
   ·have hbi : ¬ (wv : Int) < (col : Int) + (mw : Int) := by omega
    have T2 := Lib.hid (show (posOut wv (l.take (j + 1))).1 = (row, col + mw) from by have h := PNX.out; rw [if_neg hbig] at h; rw [h])
    clear PNX
    by_cases hjk : j < k
    ·have hne : ((j : Int) == (k : Int)) = false := by simp; omega
     have hne2 : (j == k) = false := by simp; omega
     have hne3 : ¬ (j : Int) = (k : Int) := by omega
     have hne4 : ¬ j = k := by omega
     go_wp2_with fail
     go_roundw
     case rel => exact ⟨j + 1, row, col + mw, by first | rfl | go_num, by first | rfl | go_num, by go_num, by omega, T2, by first | rfl | trivial⟩
     case measure => simp [intOf]; omega
    ·obtain rfl : j = k := by omega
     have PNX := T2
     obtain ⟨N1, hN1⟩ : ∃ N1 : Nat, hg + row = N1 := ⟨_, rfl⟩
     have hsum : IntKind.i64.wrap ((hg : Int) + (row : Int)) = (N1 : Int) := by rw [show (hg : Int) + (row : Int) = (N1 : Int) by omega]; exact IntWalk.i64_in _ (by have := HG.out; omega)
     have PV := Lib.hid (show P = (N1, col) from by
      rw [PN.out, placeN_cell (s := (i, j, p)) HLS.out HCC.out, ← hN1, HHG.out]
      have h := PNX.out
      unfold cellPos
      simp only
      rw [h]
      simp [wd]
      try omega
     )
     have X14 := Lib.hid ((L4.out.block (S + 1) (by rw [Z1.out]; omega)).trans X1.out)
     have t0 := frozen_of_row wr (S + 1) 0 _ _ X14.out
     have t1 := frozen_of_row wr (S + 1) 1 _ _ X14.out
     have y0 : wr.cell? ⟨S + 1, 0, none⟩ = some (.int .i64 0) := cell_of_row _ _ 0 _ _ (0, 0) X14.out
     have y1 : wr.cell? ⟨S + 1, 1, none⟩ = some (.int .i64 0) := cell_of_row _ _ 1 _ _ (0, 0) X14.out
     have HN1 := Lib.hid hN1
     clear hN1
     go_wp2_with fail
     have s1 := heap_setCell_same wr (S + 1) 0 _ _ (.int .i64 (N1 : Int)) X14.out
     have s2 := heap_setCell_same _ (S + 1) 1 _ _ (.int .i64 (col : Int)) s1
     have hs2 : w.heap.size ≤ S + 1 := by rw [HS.out]; omega
     have B9 := Lib.hid ((I4.out.setCell (p := ⟨S + 1, 0, none⟩) hs2 (.int .i64 (N1 : Int))).setCell (p := ⟨S + 1, 1, none⟩) hs2 (.int .i64 (col : Int)))
     generalize (wr.setCell ⟨S + 1, 0, none⟩ (.int .i64 (N1 : Int))).setCell ⟨S + 1, 1, none⟩ (.int .i64 (col : Int)) = w9 at s2 B9 ⊢
     have r0 : w9.cell? ⟨S + 1, 0, none⟩ = some (.int .i64 (N1 : Int)) := cell_of_row _ _ 0 _ _ (0, 0) (by simpa using s2)
     have r1 : w9.cell? ⟨S + 1, 1, none⟩ = some (.int .i64 (col : Int)) := cell_of_row _ _ 1 _ _ (0, 0) (by simpa using s2)
     refine bodyPost_ret (v := .agg #[.int .i64 (N1 : Int), .int .i64 (col : Int)]) (by simp [results, Tryz.results20, go_sem, r0, r1]) rfl ?_
     exact ⟨by rw [PV.out] <;> rfl, B9.out⟩
  ·obtain rfl : j = k := by omega
   obtain rfl : j = m := by omega
   have TL := Lib.hid (show (posOut wv l).1 = (row, col) from by have h := T.out; rw [List.take_of_length_le (by rw [HML.out]; exact Nat.le_refl _)] at h; exact h)
   have hnl : ¬ (j : Int) < (j : Int) := by omega
   by_cases hp0 : 0 < p
   ·have hpi : (0 : Int) < (p : Int) := by omega
    have hww := HWW.out
    obtain ⟨pm, hpm⟩ : ∃ pm : Nat, min (p : Int) (wv : Int) = (pm : Int) := ⟨min p wv, by omega⟩
    have hpmb : pm ≤ wv := by omega
    obtain ⟨w1m, hw1m⟩ : ∃ w1m : Nat, wv - 1 = w1m := ⟨_, rfl⟩
    have hsb : IntKind.i64.wrap ((wv : Int) - 1) = (w1m : Int) := by rw [show (wv : Int) - 1 = (w1m : Int) by omega]; exact IntWalk.i64_in _ (by omega)
    obtain ⟨cp, hcp⟩ : ∃ cp : Nat, col + pm = cp := ⟨_, rfl⟩
    have hsc : IntKind.i64.wrap ((col : Int) + (pm : Int)) = (cp : Int) := by rw [show (col : Int) + (pm : Int) = (cp : Int) by omega]; exact IntWalk.i64_in _ (by omega)
    obtain ⟨cf, hcf⟩ : ∃ cf : Nat, min (cp : Int) (w1m : Int) = (cf : Int) := ⟨min cp w1m, by omega⟩
    have PC := Lib.hid (show pastCol wv p col = cf from by unfold pastCol; rw [if_pos hp0]; omega)
    clear hww hw1m hcp
    obtain ⟨N1, hN1⟩ : ∃ N1 : Nat, hg + row = N1 := ⟨_, rfl⟩
    have hsum : IntKind.i64.wrap ((hg : Int) + (row : Int)) = (N1 : Int) := by rw [show (hg : Int) + (row : Int) = (N1 : Int) by omega]; exact IntWalk.i64_in _ (by have := HG.out; omega)
    have PV := Lib.hid (show P = (N1, cf) from by
     rw [PN.out, placeN_end (s := (i, j, p)) HLS.out (List.getElem?_eq_none (by rw [HML.out]; exact Nat.le_refl _)), ← hN1, HHG.out, TL.out]
     simp only
     rw [PC.out, Nat.add_comm]
    )
    have X14 := Lib.hid ((L4.out.block (S + 1) (by rw [Z1.out]; omega)).trans X1.out)
    have t0 := frozen_of_row wr (S + 1) 0 _ _ X14.out
    have t1 := frozen_of_row wr (S + 1) 1 _ _ X14.out
    have y0 : wr.cell? ⟨S + 1, 0, none⟩ = some (.int .i64 0) := cell_of_row _ _ 0 _ _ (0, 0) X14.out
    have y1 : wr.cell? ⟨S + 1, 1, none⟩ = some (.int .i64 0) := cell_of_row _ _ 1 _ _ (0, 0) X14.out
    have HN1 := Lib.hid hN1
    clear hN1
    go_wp2_with fail
    have s1 := heap_setCell_same wr (S + 1) 0 _ _ (.int .i64 (N1 : Int)) X14.out
    have s2 := heap_setCell_same _ (S + 1) 1 _ _ (.int .i64 (cf : Int)) s1
    have hs2 : w.heap.size ≤ S + 1 := by rw [HS.out]; omega
    have B9 := Lib.hid ((I4.out.setCell (p := ⟨S + 1, 0, none⟩) hs2 (.int .i64 (N1 : Int))).setCell (p := ⟨S + 1, 1, none⟩) hs2 (.int .i64 (cf : Int)))
    generalize (wr.setCell ⟨S + 1, 0, none⟩ (.int .i64 (N1 : Int))).setCell ⟨S + 1, 1, none⟩ (.int .i64 (cf : Int)) = w9 at s2 B9 ⊢
    have r0 : w9.cell? ⟨S + 1, 0, none⟩ = some (.int .i64 (N1 : Int)) := cell_of_row _ _ 0 _ _ (0, 0) (by simpa using s2)
    have r1 : w9.cell? ⟨S + 1, 1, none⟩ = some (.int .i64 (cf : Int)) := cell_of_row _ _ 1 _ _ (0, 0) (by simpa using s2)
    refine bodyPost_ret (v := .agg #[.int .i64 (N1 : Int), .int .i64 (cf : Int)]) (by simp [results, Tryz.results20, go_sem, r0, r1]) rfl ?_
    exact ⟨by rw [PV.out] <;> rfl, B9.out⟩
   ·obtain rfl : p = 0 := by omega
    obtain ⟨N1, hN1⟩ : ∃ N1 : Nat, hg + row = N1 := ⟨_, rfl⟩
    have hsum : IntKind.i64.wrap ((hg : Int) + (row : Int)) = (N1 : Int) := by rw [show (hg : Int) + (row : Int) = (N1 : Int) by omega]; exact IntWalk.i64_in _ (by have := HG.out; omega)
    have PV := Lib.hid (show P = (N1, col) from by
     rw [PN.out, placeN_end (s := (i, j, 0)) HLS.out (List.getElem?_eq_none (by rw [HML.out]; exact Nat.le_refl _)), ← hN1, HHG.out, TL.out]
     simp only
     rw [show pastCol wv 0 col = col from rfl, Nat.add_comm]
    )
    have X14 := Lib.hid ((L4.out.block (S + 1) (by rw [Z1.out]; omega)).trans X1.out)
    have t0 := frozen_of_row wr (S + 1) 0 _ _ X14.out
    have t1 := frozen_of_row wr (S + 1) 1 _ _ X14.out
    have y0 : wr.cell? ⟨S + 1, 0, none⟩ = some (.int .i64 0) := cell_of_row _ _ 0 _ _ (0, 0) X14.out
    have y1 : wr.cell? ⟨S + 1, 1, none⟩ = some (.int .i64 0) := cell_of_row _ _ 1 _ _ (0, 0) X14.out
    have HN1 := Lib.hid hN1
    clear hN1
    go_wp2_with fail
    have s1 := heap_setCell_same wr (S + 1) 0 _ _ (.int .i64 (N1 : Int)) X14.out
    have s2 := heap_setCell_same _ (S + 1) 1 _ _ (.int .i64 (col : Int)) s1
    have hs2 : w.heap.size ≤ S + 1 := by rw [HS.out]; omega
    have B9 := Lib.hid ((I4.out.setCell (p := ⟨S + 1, 0, none⟩) hs2 (.int .i64 (N1 : Int))).setCell (p := ⟨S + 1, 1, none⟩) hs2 (.int .i64 (col : Int)))
    generalize (wr.setCell ⟨S + 1, 0, none⟩ (.int .i64 (N1 : Int))).setCell ⟨S + 1, 1, none⟩ (.int .i64 (col : Int)) = w9 at s2 B9 ⊢
    have r0 : w9.cell? ⟨S + 1, 0, none⟩ = some (.int .i64 (N1 : Int)) := cell_of_row _ _ 0 _ _ (0, 0) (by simpa using s2)
    have r1 : w9.cell? ⟨S + 1, 1, none⟩ = some (.int .i64 (col : Int)) := cell_of_row _ _ 1 _ _ (0, 0) (by simpa using s2)
    refine bodyPost_ret (v := .agg #[.int .i64 (N1 : Int), .int .i64 (col : Int)]) (by simp [results, Tryz.results20, go_sem, r0, r1]) rfl ?_
    exact ⟨by rw [PV.out] <;> rfl, B9.out⟩
end Ln
end Go.Proofs.YtgmijnnhanpocaaGreatDoor
