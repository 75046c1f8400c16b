import Derived.Test.YtmpoboffdfcpiaaGreatDoorQScr3
set_option maxRecDepth 100000
set_option maxHeartbeats 6400000
namespace Go.Proofs.YtmpoboffdfcpiaaGreatDoor
open Go.ChangeShapes Go.WideShapes Go.ChangeAt Go.RowKit
namespace Sc
open Rw
theorem Done.behind {p g : Nat} {s' : Scr} {xs ys : List RowIn} {w w1 w' : World} {e : Ending} (hw : Went w w1 p g xs ys) (h : Done p g s' ys w1 e w') : Done p g s' xs w e w' :=
 let ⟨he, xs', h1, h2⟩ := h
 ⟨he, xs', h1, hw.trans h2⟩
theorem rowE_none {s : Scr} {what : Int} (h0 : what ≠ 0) (h1 : what ≠ 1) (h2 : what ≠ 2) : rowE s what = s := by unfold rowE; rw [if_neg h0, if_neg h1, if_neg h2]
theorem eraseRow_walk {p g : Nat} {s : Scr} {xs : List RowIn} (what : Int) (w : World) (hs : Spans w) (h : ScAt w p g s xs) : Calls Tryz.prog 121 #[ptrS p, .int .i64 what] w fun e w' => Done p g (rowE s what) xs w e w' := by
 have hd := h.laid (Below.refl _ _).drew
 have k0 : w.drew.cell? ⟨p, 0, none⟩ = some (.int .i64 (s.w : Int)) := hd.get 0
 have k2 : w.drew.cell? ⟨p, 2, none⟩ = some (.int .i64 (s.r : Int)) := hd.get 2
 have k3 : w.drew.cell? ⟨p, 3, none⟩ = some (.int .i64 (s.c : Int)) := hd.get 3
 have EW := Lib.hid (fun f t => erase_walk s.r f t w.drew hs.drew hd h.ok.row)
 have hc1 : IntKind.i64.wrap ((s.c : Int) + 1) = (s.c : Int) + 1 := by have := h.ok.col; have := h.ok.w3; exact IntWalk.i64_in _ (by omega)
 by_cases e0 : what = 0
 ·subst e0
  have eS : rowE s 0 = eraseS s s.r (s.c : Int) (s.w : Int) := rfl
  have D := Lib.hid (show ∀ e w', Done p g (eraseS s s.r (s.c : Int) (s.w : Int)) xs w.drew e w' → Done p g (rowE s 0) xs w e w' from fun e w' d => by rw [eS]; exact d.behind (Went.laid (Below.refl _ _).drew))
  clear h hd hs hc1 eS
  go_enter Tryz.func121, Tryz.ntmps121
  go_wp2_with fail
  refine wp_region_still_tail 15 (by kernel_rfl) (by kernel_rfl) ?_
  rw [show ({ w with drawn := w.drawn + 1 } : World) = w.drew from rfl]
  generalize w.drew = wd at k0 k2 k3 EW D ⊢
  simp only [List.take_succ_cons, List.take_zero, List.drop_succ_cons, List.drop_zero]
  repeat still_step
  refine wpStill_nil ?_
  go_wp2_with fail
  refine (EW.out _ _).mono ?_
  rintro e w2 ⟨⟨_, rfl⟩, d⟩
  have D2 := Lib.hid (D.out _ _ ⟨⟨.tuple #[], rfl⟩, d⟩)
  clear EW D d k0 k2 k3
  go_wp2
  go_end0
  exact D2.out
 by_cases e1 : what = 1
 ·subst e1
  have eS : rowE s 1 = eraseS s s.r 0 ((s.c : Int) + 1) := rfl
  have D := Lib.hid (show ∀ e w', Done p g (eraseS s s.r 0 ((s.c : Int) + 1)) xs w.drew e w' → Done p g (rowE s 1) xs w e w' from fun e w' d => by rw [eS]; exact d.behind (Went.laid (Below.refl _ _).drew))
  clear h hd hs eS
  go_enter Tryz.func121, Tryz.ntmps121
  go_wp2_with fail
  refine wp_region_still_tail 12 (by kernel_rfl) (by kernel_rfl) ?_
  rw [show ({ w with drawn := w.drawn + 1 } : World) = w.drew from rfl]
  generalize w.drew = wd at k0 k2 k3 EW D ⊢
  simp only [List.take_succ_cons, List.take_zero, List.drop_succ_cons, List.drop_zero]
  repeat still_step
  refine wpStill_nil ?_
  go_wp2_with fail
  refine (EW.out _ _).mono ?_
  rintro e w2 ⟨⟨_, rfl⟩, d⟩
  have D2 := Lib.hid (D.out _ _ ⟨⟨.tuple #[], rfl⟩, d⟩)
  clear EW D d k0 k2 k3
  go_wp2
  go_end0
  exact D2.out
 by_cases e2 : what = 2
 ·subst e2
  have eS : rowE s 2 = eraseS s s.r 0 (s.w : Int) := rfl
  have D := Lib.hid (show ∀ e w', Done p g (eraseS s s.r 0 (s.w : Int)) xs w.drew e w' → Done p g (rowE s 2) xs w e w' from fun e w' d => by rw [eS]; exact d.behind (Went.laid (Below.refl _ _).drew))
  clear h hd hs eS hc1
  go_enter Tryz.func121, Tryz.ntmps121
  go_wp2_with fail
  refine wp_region_still_tail 10 (by kernel_rfl) (by kernel_rfl) ?_
  rw [show ({ w with drawn := w.drawn + 1 } : World) = w.drew from rfl]
  generalize w.drew = wd at k0 k2 k3 EW D ⊢
  simp only [List.take_succ_cons, List.take_zero, List.drop_succ_cons, List.drop_zero]
  repeat still_step
  refine wpStill_nil ?_
  go_wp2_with fail
  refine (EW.out _ _).mono ?_
  rintro e w2 ⟨⟨_, rfl⟩, d⟩
  have D2 := Lib.hid (D.out _ _ ⟨⟨.tuple #[], rfl⟩, d⟩)
  clear EW D d k0 k2 k3
  go_wp2
  go_end0
  exact D2.out
 have eS := rowE_none (s := s) e0 e1 e2
 have D := Lib.hid (show Done p g (rowE s what) xs w (.returned (.tuple #[])) w by rw [eS]; exact ⟨⟨_, rfl⟩, xs, h, Went.refl _ _ _ _⟩)
 have b0 : (what == 0) = false := by simpa using e0
 have b1 : (what == 1) = false := by simpa using e1
 have b2 : (what == 2) = false := by simpa using e2
 clear h hd hs hc1 eS EW k0 k2 k3 e0 e1 e2
 go_enter Tryz.func121, Tryz.ntmps121
 go_wp2
 go_end0
 exact D.out
theorem rowsE_w (s : Scr) (f n : Nat) : (rowsE s f n).w = s.w ∧ (rowsE s f n).rows.length = s.rows.length ∧ (rowsE s f n).r = s.r ∧ (rowsE s f n).c = s.c ∧ (rowsE s f n).a = s.a := by
 unfold rowsE
 induction n generalizing f s with
 | zero => exact ⟨rfl, rfl, rfl, rfl, rfl⟩
 | succ n ih =>
  rw [List.range'_succ, List.foldl_cons]
  have e : (eraseS s f 0 s.w).rows.length = s.rows.length := by simp [eraseS]
  have := ih (eraseS s f 0 s.w) (f + 1)
  exact ⟨this.1, this.2.1.trans e, this.2.2⟩
theorem rowsE_snoc (s : Scr) (f n : Nat) : rowsE s f (n + 1) = eraseS (rowsE s f n) (f + n) 0 (s.w : Int) := by
 unfold rowsE
 rw [List.range'_concat, List.foldl_append]
 have := (rowsE_w s f n).1
 unfold rowsE at this
 simp only [List.foldl_cons, List.foldl_nil, this, Nat.one_mul]
theorem eraseRows_walk {p g : Nat} {s : Scr} {xs : List RowIn} (f n : Nat) (t : Int) (w : World) (hs : Spans w) (h : ScAt w p g s xs) (hn : f + n ≤ s.rows.length) (ht : n = (t - (f : Int)).toNat) : Calls Tryz.prog 169 #[ptrS p, .int .i64 (f : Int), .int .i64 t] w fun e w' => Done p g (rowsE s f n) xs w e w' := by
 have I0 := Lib.hid (show ∃ ys, ScAt w p g (rowsE s f 0) ys ∧ Went w w p g xs ys ∧ Spans w from ⟨xs, h, Went.refl _ _ _ _, hs⟩)
 have H := Lib.hid h
 have h100 := h.ok.h2
 have hnt : ∀ q : Nat, q < n ↔ ((f + q : Nat) : Int) < t := fun q => by omega
 clear h hs ht
 go_enter Tryz.func169, Tryz.ntmps169
 go_wp2_with fail
 go_loopw [6] (fun i wr => ∃ k : Nat, i = .int .i64 ((f + k : Nat) : Int) ∧ k ≤ n ∧ Hid (∃ ys, ScAt wr p g (rowsE s f k) ys ∧ Went w wr p g xs ys ∧ Spans wr)) (fun i _ => n - ((intOf i).toNat - f))
 case atStart => exact ⟨0, rfl, Nat.zero_le _, I0⟩
 case round =>
  obtain ⟨k, rfl, hk, I⟩ := hrel
  clear I0
  by_cases hlt : k < n
  ·obtain ⟨ys, h1, h2, h3⟩ := I.out
   have hlt' : ((f + k : Nat) : Int) < t := (hnt k).1 hlt
   have k0 : wr.cell? ⟨p, 0, none⟩ = some (.int .i64 (s.w : Int)) := by have := h1.get 0; rw [this]; exact congrArg (fun z : Nat => some (Value.int .i64 (z : Int))) (rowsE_w s f k).1
   have EW := Lib.hid (erase_walk (f + k) 0 (s.w : Int) wr h3 h1 (by rw [(rowsE_w s f k).2.1]; omega))
   have NX := Lib.hid (show ∀ w' zs, ScAt w' p g (eraseS (rowsE s f k) (f + k) 0 (s.w : Int)) zs → Went wr w' p g ys zs → ∃ ys, ScAt w' p g (rowsE s f (k + 1)) ys ∧ Went w w' p g xs ys ∧ Spans w' from fun w' zs a b => ⟨zs, by rw [rowsE_snoc]; exact a, h2.trans b, spans_went h3 h1 b⟩)
   have hinc : IntKind.i64.wrap (((f + k : Nat) : Int) + 1) = ((f + k : Nat) : Int) + 1 := IntWalk.i64_in _ (by omega)
   clear I h1 h2 h3
   go_wp2_with fail
   refine EW.out.mono ?_
   rintro e w2 ⟨⟨_, rfl⟩, zs, a, b⟩
   have I2 := Lib.hid (NX.out w2 zs a b)
   clear NX EW a b k0
   go_wp2
   go_roundw
   case rel => exact ⟨k + 1, by first | rfl | (congr 1; omega), by omega, I2⟩
   case measure => simp [intOf]; omega
  ·obtain rfl : k = n := by omega
   obtain ⟨ys, h1, h2, _⟩ := I.out
   have D := Lib.hid (show Done p g (rowsE s f k) xs w (.returned (.tuple #[])) wr from ⟨⟨_, rfl⟩, ys, h1, h2⟩)
   have hlt' : ¬ ((f + k : Nat) : Int) < t := fun x => hlt ((hnt k).2 x)
   clear I h1 h2
   go_wp2
   go_end0
   exact D.out
theorem eraseScreen_walk {p g : Nat} {s : Scr} {xs : List RowIn} (what : Int) (w : World) (hs : Spans w) (h : ScAt w p g s xs) : Calls Tryz.prog 119 #[ptrS p, .int .i64 what] w fun e w' => Done p g (scrE s what) xs w e w' := by
 have hd := h.laid (Below.refl _ _).drew
 have k1 : w.cell? ⟨p, 1, none⟩ = some (.slice (some ⟨g, 0, none⟩) s.rows.length s.rows.length) := h.get 1
 have k2 : w.cell? ⟨p, 2, none⟩ = some (.int .i64 (s.r : Int)) := h.get 2
 have d1 : w.drew.cell? ⟨p, 1, none⟩ = some (.slice (some ⟨g, 0, none⟩) s.rows.length s.rows.length) := hd.get 1
 have d2 : w.drew.cell? ⟨p, 2, none⟩ = some (.int .i64 (s.r : Int)) := hd.get 2
 have hr := h.ok.row
 have h100 := h.ok.h2
 have hc1 : IntKind.i64.wrap ((s.r : Int) + 1) = ((s.r + 1 : Nat) : Int) := by rw [IntWalk.i64_in _ (by omega)]; omega
 have LAST := Lib.hid (show ∀ (s2 : Scr) ys w2, (scrE s what = rowE s2 what) → ScAt w2 p g s2 ys → Went w w2 p g xs ys → Calls Tryz.prog 121 #[ptrS p, .int .i64 what] w2 fun e w' => Done p g (scrE s what) xs w e w' from fun s2 ys w2 e1 e2 e3 => by
  rw [e1]
  exact (eraseRow_walk what w2 (spans_went hs h e3) e2).mono fun e w' d => d.behind e3)
 by_cases e0 : what = 0
 ·subst e0
  have RW := Lib.hid (eraseRows_walk (s.r + 1) (s.rows.length - (s.r + 1)) (s.rows.length : Int) w.drew hs.drew hd (by omega) (by omega))
  have eS : scrE s 0 = rowE (rowsE s (s.r + 1) (s.rows.length - (s.r + 1))) 0 := rfl
  have L2 := Lib.hid (fun ys w2 a b => LAST.out _ ys w2 eS a ((Went.laid (Below.refl _ _).drew).trans b))
  clear h hd hs eS k1 k2 LAST hr h100
  go_enter Tryz.func119, Tryz.ntmps119
  go_wp2_with fail
  refine wp_region_still_tail 12 (by kernel_rfl) (by kernel_rfl) ?_
  rw [show ({ w with drawn := w.drawn + 1 } : World) = w.drew from rfl]
  generalize w.drew = wd at d1 d2 RW L2 ⊢
  simp only [List.take_succ_cons, List.take_zero, List.drop_succ_cons, List.drop_zero]
  repeat still_step
  refine wpStill_nil ?_
  go_wp2_with fail
  refine RW.out.mono ?_
  rintro e w2 ⟨⟨_, rfl⟩, ys, a, b⟩
  have L3 := Lib.hid (L2.out ys w2 a b)
  clear L2 RW a b d1 d2
  go_wp2_with fail
  refine L3.out.mono ?_
  rintro e w3 ⟨⟨_, rfl⟩, d⟩
  have D2 := Lib.hid d
  clear L3 d
  go_wp2
  go_end0
  exact ⟨⟨_, rfl⟩, D2.out⟩
 by_cases e1 : what = 1
 ·subst e1
  have RW := Lib.hid (eraseRows_walk 0 s.r (s.r : Int) w hs h (by omega) (by omega))
  have eS : scrE s 1 = rowE (rowsE s 0 s.r) 1 := rfl
  have L2 := Lib.hid (fun ys w2 a b => LAST.out _ ys w2 eS a b)
  clear h hd hs eS d1 d2 LAST hr h100
  go_enter Tryz.func119, Tryz.ntmps119
  go_wp2_with fail
  refine RW.out.mono ?_
  rintro e w2 ⟨⟨_, rfl⟩, ys, a, b⟩
  have L3 := Lib.hid (L2.out ys w2 a b)
  clear L2 RW a b k1 k2
  go_wp2_with fail
  refine L3.out.mono ?_
  rintro e w3 ⟨⟨_, rfl⟩, d⟩
  have D2 := Lib.hid d
  clear L3 d
  go_wp2
  go_end0
  exact ⟨⟨_, rfl⟩, D2.out⟩
 by_cases e2 : what = 2
 ·subst e2
  have RW := Lib.hid (eraseRows_walk 0 s.rows.length (s.rows.length : Int) w hs h (by omega) (by omega))
  have eS : scrE s 2 = rowE (rowsE s 0 s.rows.length) 2 := rfl
  have L2 := Lib.hid (fun ys w2 a b => LAST.out _ ys w2 eS a b)
  clear h hd hs eS d1 d2 LAST hr h100
  go_enter Tryz.func119, Tryz.ntmps119
  go_wp2_with fail
  refine RW.out.mono ?_
  rintro e w2 ⟨⟨_, rfl⟩, ys, a, b⟩
  have L3 := Lib.hid (L2.out ys w2 a b)
  clear L2 RW a b k1 k2
  go_wp2_with fail
  refine L3.out.mono ?_
  rintro e w3 ⟨⟨_, rfl⟩, d⟩
  have D2 := Lib.hid d
  clear L3 d
  go_wp2
  go_end0
  exact ⟨⟨_, rfl⟩, D2.out⟩
 have eS : scrE s what = rowE s what := by unfold scrE; rw [if_neg e0, if_neg e1, if_neg e2]
 have L3 := Lib.hid (LAST.out s xs w eS h (Went.refl _ _ _ _))
 have b0 : (what == 0) = false := by simpa using e0
 have b1 : (what == 1) = false := by simpa using e1
 have b2 : (what == 2) = false := by simpa using e2
 clear h hd hs hc1 eS LAST k1 k2 d1 d2 e0 e1 e2 hr h100
 go_enter Tryz.func119, Tryz.ntmps119
 go_wp2_with fail
 refine L3.out.mono ?_
 rintro e w3 ⟨⟨_, rfl⟩, d⟩
 have D2 := Lib.hid d
 clear L3 d
 go_wp2
 go_end0
 exact ⟨⟨_, rfl⟩, D2.out⟩
def attrL (l : List Int) (a : Int) : Int := l.foldl (fun _ n => modA n) a
theorem attrL_snoc (l : List Int) (n a : Int) : attrL (l ++ [n]) a = modA n := by simp [attrL]
theorem paint_walk {p g : Nat} {s : Scr} {xs : List RowIn} (A : Option Addr) (n c : Nat) (l : List Int) (w : World) (hn : n ≤ 1000000) (h : ScAt w p g s xs) (ARG : ∀ W, Went w W p g xs xs → Sq W W.heap.size 1 n A (l.map (Value.int .i64))) : Calls Tryz.prog 122 #[ptrS p, .slice A n c] w fun e w' => Done p g (paintS s l) xs w e w' := by
 have hl := (ARG w (Went.refl _ _ _ _)).size_ints
 have f4 := h.free 4
 have h4 : w.cell? ⟨p, 4, none⟩ = some (.int .i64 s.a) := h.get 4
 have I0 := Lib.hid (show ScAt (w.setCell ⟨p, 4, none⟩ (.int .i64 0)) p g { s with a := attrL (l.take 0) 0 } xs ∧ Went w (w.setCell ⟨p, 4, none⟩ (.int .i64 0)) p g xs xs from ⟨h.setAttr (by omega) (by omega), Went.cell 4 _⟩)
 have AR := Lib.hid ARG
 have HL := Lib.hid hl
 clear h ARG hl
 go_enter Tryz.func122, Tryz.ntmps122
 go_wp2_with fail
 generalize w.setCell ⟨p, 4, none⟩ (.int .i64 0) = w1 at I0 ⊢
 clear f4 h4
 go_loopw [11] (fun i wr => ∃ k : Nat, i = .int .i64 (k : Int) ∧ k ≤ n ∧ Hid (ScAt wr p g { s with a := attrL (l.take k) 0 } xs ∧ Went w wr p g xs xs)) (fun i _ => n - (intOf i).toNat)
 case atStart => exact ⟨0, rfl, Nat.zero_le _, I0⟩
 case round =>
  obtain ⟨k, rfl, hk, I⟩ := hrel
  clear I0
  by_cases hlt : k < n
  ·obtain ⟨b, off, rfl, _, hc0⟩ := (AR.out wr I.out.2).int_at hlt
   have hk0 : (0 : Int) ≤ (k : Int) := by omega
   have hkn : (k : Int) < (n : Int) := by omega
   have f4 := I.out.1.free 4
   have h4 : wr.cell? ⟨p, 4, none⟩ = some (.int .i64 (attrL (l.take k) 0)) := I.out.1.get 4
   obtain ⟨y, hy⟩ : ∃ y, nth l k = y := ⟨_, rfl⟩
   rw [hy] at hc0
   have NX := Lib.hid (show ScAt (wr.setCell ⟨p, 4, none⟩ (.int .i64 (y % 256))) p g { s with a := attrL (l.take (k + 1)) 0 } xs ∧ Went w (wr.setCell ⟨p, 4, none⟩ (.int .i64 (y % 256))) p g xs xs from by
    have e : attrL (l.take (k + 1)) 0 = y % 256 := by rw [take_next (by have := HL.out; omega), attrL_snoc, hy]; rfl
    rw [e]
    exact ⟨I.out.1.setAttr (a := y % 256) (by omega) (by omega), I.out.2.trans (Went.cell 4 _)⟩)
   have MW := Lib.hid (modulo_walk y)
   have hinc : IntKind.i64.wrap ((k : Int) + 1) = (k : Int) + 1 := IntWalk.i64_in _ (by omega)
   clear I hy
   go_wp2_with fail
   refine (MW.out wr).mono ?_
   rintro e w' ⟨rfl, rfl⟩
   go_wp2
   go_roundw
   case rel => exact ⟨k + 1, by first | rfl | (congr 1; done) | (congr 1; omega), by omega, NX⟩
   case measure => simp [intOf]; omega
  ·obtain rfl : k = n := by omega
   have D := Lib.hid (show Done p g (paintS s l) xs w (.returned (.tuple #[])) wr from by
    have e : paintS s l = { s with a := attrL (l.take k) 0 } := by rw [List.take_of_length_le (by have := HL.out; omega)]; rfl
    rw [e]
    exact ⟨⟨_, rfl⟩, xs, I.out.1, I.out.2⟩)
   clear I
   go_wp2
   go_end0
   exact D.out
end Sc
namespace Sc
open Rw
theorem control_walk {p g : Nat} {s : Scr} {xs : List RowIn} (r : Int) (w : World) (hs : Spans w) (h : ScAt w p g s xs) : Calls Tryz.prog 66 #[ptrS p, .int .i32 r] w fun e w' => Told p g (ctrlS s r) (ctrlO s r) s.w xs w e w' := by
 have w2 := h.ok.w2
 have w3 := h.ok.w3
 have hcol := h.ok.col
 by_cases e8 : r = 8
 ·subst e8
  have k3 : w.cell? ⟨p, 3, none⟩ = some (.int .i64 (s.c : Int)) := h.get 3
  have f3 : w.frozen? ⟨p, 3, none⟩ = false := h.free 3
  have hc : IntKind.i64.wrap ((s.c : Int) - 1) = (s.c : Int) - 1 := IntWalk.i64_in _ (by omega)
  have D := Lib.hid (show ∀ X : Int, X = ((s.c - 1 : Nat) : Int) → Told p g (ctrlS s 8) (ctrlO s 8) s.w xs w (.returned (.slice none 0 0)) (w.setCell ⟨p, 3, none⟩ (.int .i64 X)) from fun X hX => by
   subst hX
   exact told_none (h.setCol (c := s.c - 1) (by omega)) (Went.cell 3 _))
  generalize s.c = sc at k3 hc D hcol
  clear h hs w2 w3 hcol
  go_enter Tryz.func66, Tryz.ntmps66
  go_wp2
  all_goals go_ret
  all_goals exact D.out _ (by omega)
 by_cases e9 : r = 9
 ·subst e9
  have k0 : w.drew.cell? ⟨p, 0, none⟩ = some (.int .i64 (s.w : Int)) := h.get 0
  have k3 : w.drew.cell? ⟨p, 3, none⟩ = some (.int .i64 (s.c : Int)) := h.get 3
  have f3 : w.drew.frozen? ⟨p, 3, none⟩ = false := h.free 3
  have D := Lib.hid (show ∀ X : Int, X = ((min ((s.c / 8 + 1) * 8) (s.w - 1) : Nat) : Int) → Told p g (ctrlS s 9) (ctrlO s 9) s.w xs w (.returned (.slice none 0 0)) (w.drew.setCell ⟨p, 3, none⟩ (.int .i64 X)) from fun X hX => by
   subst hX
   exact told_none ((h.laid (Below.refl _ _).drew).setCol (c := min ((s.c / 8 + 1) * 8) (s.w - 1)) (by omega)) ((Went.laid (Below.refl _ _).drew).trans (Went.cell 3 _)))
  have hq : (s.c : Int).tdiv 8 = ((s.c / 8 : Nat) : Int) := by simp
  have hq8 : s.c / 8 ≤ 300 := by omega
  generalize s.c / 8 = q at hq hq8 D
  have h1 : IntKind.i64.wrap (q : Int) = (q : Int) := IntWalk.i64_in _ (by omega)
  have h2 : IntKind.i64.wrap ((q : Int) + 1) = (q : Int) + 1 := IntWalk.i64_in _ (by omega)
  have h3 : IntKind.i64.wrap (((q : Int) + 1) * 8) = ((q : Int) + 1) * 8 := IntWalk.i64_in _ (by omega)
  have hw : IntKind.i64.wrap ((s.w : Int) - 1) = (s.w : Int) - 1 := IntWalk.i64_in _ (by omega)
  generalize s.w = sw at k0 hw D w2 w3 hcol
  generalize s.c = sc at k3 hq D hcol
  clear h hs e8
  go_enter Tryz.func66, Tryz.ntmps66
  go_wp2_with fail
  go_region
  all_goals go_wp2
  all_goals go_ret
  all_goals exact D.out _ (by omega)
 by_cases e10 : r = 10
 ·subst e10
  have LE := Lib.hid (leaveEnd_walk w h)
  have eS : ctrlS s 10 = downS (leaveS s) := rfl
  have eO : ctrlO s 10 = downO (leaveS s) := rfl
  rw [eS, eO]
  have S := Lib.hid hs
  have H := Lib.hid h
  clear h hs eS eO w2 w3 hcol e8 e9
  go_enter Tryz.func66, Tryz.ntmps66
  go_wp2_with fail
  refine LE.out.mono ?_
  rintro e w2 ⟨⟨_, rfl⟩, ys, h2, hw2⟩
  have DW := Lib.hid (down_walk w2 h2)
  have W2 := Lib.hid hw2
  clear LE h2 hw2
  go_wp2_with fail
  refine DW.out.mono ?_
  rintro e w3 ⟨v, zs, xs', rfl, t3⟩
  have T := Lib.hid (show Told p g (downS (leaveS s)) (downO (leaveS s)) s.w xs w (.returned v) w3 from Told.behind ⟨v, zs, xs', rfl, t3⟩ W2.out)
  clear DW W2 t3
  go_wp2
  go_ret
  exact T.out
 by_cases e13 : r = 13
 ·subst e13
  have k3 : w.cell? ⟨p, 3, none⟩ = some (.int .i64 (s.c : Int)) := h.get 3
  have f3 : w.frozen? ⟨p, 3, none⟩ = false := h.free 3
  have D := Lib.hid (show Told p g (ctrlS s 13) (ctrlO s 13) s.w xs w (.returned (.slice none 0 0)) (w.setCell ⟨p, 3, none⟩ (.int .i64 0)) from told_none (h.setCol (c := 0) (by omega)) (Went.cell 3 _))
  generalize s.c = sc at k3 hcol
  clear h hs w2 w3 hcol
  go_enter Tryz.func66, Tryz.ntmps66
  go_wp2
  go_ret
  exact D.out
 have eS : ctrlS s r = s := by unfold ctrlS; rw [if_neg e8, if_neg e9, if_neg e10, if_neg e13]
 have eO : ctrlO s r = [] := by unfold ctrlO; rw [if_neg e10]
 rw [eS, eO]
 have D := Lib.hid (told_none (wd := s.w) h (Went.refl w p g xs))
 have b8 : (r == 8) = false := by simpa using e8
 have b9 : (r == 9) = false := by simpa using e9
 have b10 : (r == 10) = false := by simpa using e10
 have b13 : (r == 13) = false := by simpa using e13
 clear h hs eS eO w2 w3 hcol e8 e9 e10 e13
 go_enter Tryz.func66, Tryz.ntmps66
 go_wp2
 go_ret
 exact D.out
theorem knowsB : ∀ m : Nat, m < 128 → decide (0 ≤ Lib.indexByte lastB.data.toList ((m : Int).toNat.toUInt8)) = knows (m : Int) := by decide +kernel
theorem csi_walk {p g : Nat} {s : Scr} {xs : List RowIn} (r : Int) (A : Option Addr) (n c : Nat) (l : List Int) (w : World) (hr : 0 ≤ r ∧ r < 128) (hn : n ≤ 1000000) (hs : Spans w) (h : ScAt w p g s xs) (ARG : ∀ W ys, Went w W p g xs ys → Sq W W.heap.size 1 n A (l.map (Value.int .i64))) : Calls Tryz.prog 67 #[ptrS p, .int .i32 r, .slice A n c] w fun e w' => Done p g (csiS s r l) xs w e w' := by
 obtain ⟨b, hb⟩ : ∃ b, knows r = b := ⟨_, rfl⟩
 have CR := Lib.hid (contains_walk r b hr (by
  obtain ⟨m, rfl⟩ := Int.eq_ofNat_of_zero_le hr.1
  rw [← hb]
  exact knowsB m (by omega)) w)
 cases b with
 | false =>
  have eS : csiS s r l = s := by unfold csiS; rw [hb]; rfl
  rw [eS]
  have D := Lib.hid (show Done p g s xs w (.returned (.tuple #[])) w from ⟨⟨_, rfl⟩, xs, h, Went.refl _ _ _ _⟩)
  clear h hs ARG eS hb
  go_enter Tryz.func67, Tryz.ntmps67
  go_wp2_with fail
  refine CR.out.mono ?_
  rintro e w' ⟨rfl, e1⟩
  subst w'
  clear CR
  go_wp2
  go_end0
  exact D.out
 | true =>
  have eS : csiS s r l = actS (leaveS s) r l := by unfold csiS; rw [hb]; rfl
  rw [eS]
  have LE := Lib.hid (leaveEnd_walk w h)
  obtain ⟨s1, hs1⟩ : ∃ s1, leaveS s = s1 := ⟨_, rfl⟩
  rw [hs1] at LE ⊢
  have BACK := Lib.hid (fun W ys (a : Went w W p g xs ys) => And.intro (spans_went hs h a) (ARG W ys a))
  have AR := Lib.hid ARG
  clear hs h ARG eS hs1
  go_enter Tryz.func67, Tryz.ntmps67
  go_wp2_with fail
  refine CR.out.mono ?_
  rintro e w' ⟨rfl, e1⟩
  subst w'
  clear CR
  go_wp2_with fail
  refine LE.out.mono ?_
  rintro e w2 ⟨⟨_, rfl⟩, ys, h2, hw2⟩
  obtain ⟨s2, q2⟩ := BACK.out w2 ys hw2
  have AR2 := Lib.hid (fun W (a : Went w2 W p g ys ys) => AR.out W ys (hw2.trans a))
  have W2 := Lib.hid hw2
  have H2 := Lib.hid h2
  have S2 := Lib.hid s2
  have Q2 := Lib.hid q2
  have CN := Lib.hid (count_walk A n c l 0 w2 q2)
  have hy : -300 ≤ cntL l 0 ∧ cntL l 0 ≤ 300 := by unfold cntL; split <;> omega
  clear LE BACK AR hw2 h2 s2 q2
  obtain ⟨y, hyy⟩ : ∃ y, cntL l 0 = y := ⟨_, rfl⟩
  rw [hyy] at CN hy
  have HY := Lib.hid hyy
  clear hyy
  go_wp2_with fail
  refine CN.out.mono ?_
  rintro e w' ⟨rfl, rfl⟩
  clear CN
  have hk : r = 65 ∨ r = 66 ∨ r = 67 ∨ r = 68 ∨ r = 72 ∨ r = 74 ∨ r = 75 ∨ r = 109 := by
   unfold knows at hb
   simp only [Bool.or_eq_true, beq_iff_eq] at hb
   omega
  clear hb
  have hrow := H2.out.ok.row
  have h100 := H2.out.ok.h2
  have hcol := H2.out.ok.col
  have hw3 := H2.out.ok.w3
  have HD := Lib.hid (H2.out.laid (Below.refl _ _).drew)
  have DN := Lib.hid (show ∀ s' e w', Done p g s' ys w2.drew e w' → Done p g s' xs w e w' from fun s' e w' d => Done.behind W2.out (Done.behind (Went.laid (Below.refl _ _).drew) d))
  have DO := Lib.hid (show ∀ s' e w', Done p g s' ys w2 e w' → Done p g s' xs w e w' from fun s' e w' d => Done.behind W2.out d)
  have k2 : w2.drew.cell? ⟨p, 2, none⟩ = some (.int .i64 (s1.r : Int)) := HD.out.get 2
  have k3 : w2.drew.cell? ⟨p, 3, none⟩ = some (.int .i64 (s1.c : Int)) := HD.out.get 3
  rcases hk with rfl | rfl | rfl | rfl | rfl | rfl | rfl | rfl
  ·have hc : IntKind.i64.wrap ((s1.r : Int) - y) = (s1.r : Int) - y := IntWalk.i64_in _ (by omega)
   have MV := Lib.hid (moveTo_walk ((s1.r : Int) - y) (s1.c : Int) w2.drew HD.out)
   have eS : actS s1 65 l = moveS s1 ((s1.r : Int) - y) (s1.c : Int) := by rw [← HY.out]; rfl
   have HE := Lib.hid eS
   clear hrow h100 hcol hw3 eS HY hy H2 S2 Q2 AR2 W2 DO HD
   go_wp2_with fail
   refine wp_region_still_tail 13 (by kernel_rfl) (by kernel_rfl) ?_
   rw [show ({ w2 with drawn := w2.drawn + 1 } : World) = w2.drew from rfl]
   generalize w2.drew = wd at k2 k3 MV DN ⊢
   simp only [List.take_succ_cons, List.take_zero, List.drop_succ_cons, List.drop_zero]
   repeat still_step
   refine wpStill_nil ?_
   go_wp2_with fail
   refine MV.out.mono ?_
   rintro e w3 ⟨⟨_, rfl⟩, d⟩
   have D3 := Lib.hid (show Done p g (actS s1 65 l) xs w (.returned (.tuple #[])) w3 from by rw [HE.out]; exact DN.out _ _ _ ⟨⟨.tuple #[], rfl⟩, d⟩)
   clear MV DN d k2 k3
   go_wp2
   go_end0
   exact D3.out
  ·have hc : IntKind.i64.wrap ((s1.r : Int) + y) = (s1.r : Int) + y := IntWalk.i64_in _ (by omega)
   have MV := Lib.hid (moveTo_walk ((s1.r : Int) + y) (s1.c : Int) w2.drew HD.out)
   have eS : actS s1 66 l = moveS s1 ((s1.r : Int) + y) (s1.c : Int) := by rw [← HY.out]; rfl
   have HE := Lib.hid eS
   clear hrow h100 hcol hw3 eS HY hy H2 S2 Q2 AR2 W2 DO HD
   go_wp2_with fail
   refine wp_region_still_tail 13 (by kernel_rfl) (by kernel_rfl) ?_
   rw [show ({ w2 with drawn := w2.drawn + 1 } : World) = w2.drew from rfl]
   generalize w2.drew = wd at k2 k3 MV DN ⊢
   simp only [List.take_succ_cons, List.take_zero, List.drop_succ_cons, List.drop_zero]
   repeat still_step
   refine wpStill_nil ?_
   go_wp2_with fail
   refine MV.out.mono ?_
   rintro e w3 ⟨⟨_, rfl⟩, d⟩
   have D3 := Lib.hid (show Done p g (actS s1 66 l) xs w (.returned (.tuple #[])) w3 from by rw [HE.out]; exact DN.out _ _ _ ⟨⟨.tuple #[], rfl⟩, d⟩)
   clear MV DN d k2 k3
   go_wp2
   go_end0
   exact D3.out
  ·have hc : IntKind.i64.wrap ((s1.c : Int) + y) = (s1.c : Int) + y := IntWalk.i64_in _ (by omega)
   have MV := Lib.hid (moveTo_walk (s1.r : Int) ((s1.c : Int) + y) w2.drew HD.out)
   have eS : actS s1 67 l = moveS s1 (s1.r : Int) ((s1.c : Int) + y) := by rw [← HY.out]; rfl
   have HE := Lib.hid eS
   clear hrow h100 hcol hw3 eS HY hy H2 S2 Q2 AR2 W2 DO HD
   go_wp2_with fail
   refine wp_region_still_tail 13 (by kernel_rfl) (by kernel_rfl) ?_
   rw [show ({ w2 with drawn := w2.drawn + 1 } : World) = w2.drew from rfl]
   generalize w2.drew = wd at k2 k3 MV DN ⊢
   simp only [List.take_succ_cons, List.take_zero, List.drop_succ_cons, List.drop_zero]
   repeat still_step
   refine wpStill_nil ?_
   go_wp2_with fail
   refine MV.out.mono ?_
   rintro e w3 ⟨⟨_, rfl⟩, d⟩
   have D3 := Lib.hid (show Done p g (actS s1 67 l) xs w (.returned (.tuple #[])) w3 from by rw [HE.out]; exact DN.out _ _ _ ⟨⟨.tuple #[], rfl⟩, d⟩)
   clear MV DN d k2 k3
   go_wp2
   go_end0
   exact D3.out
  ·have hc : IntKind.i64.wrap ((s1.c : Int) - y) = (s1.c : Int) - y := IntWalk.i64_in _ (by omega)
   have MV := Lib.hid (moveTo_walk (s1.r : Int) ((s1.c : Int) - y) w2.drew HD.out)
   have eS : actS s1 68 l = moveS s1 (s1.r : Int) ((s1.c : Int) - y) := by rw [← HY.out]; rfl
   have HE := Lib.hid eS
   clear hrow h100 hcol hw3 eS HY hy H2 S2 Q2 AR2 W2 DO HD
   go_wp2_with fail
   refine wp_region_still_tail 13 (by kernel_rfl) (by kernel_rfl) ?_
   rw [show ({ w2 with drawn := w2.drawn + 1 } : World) = w2.drew from rfl]
   generalize w2.drew = wd at k2 k3 MV DN ⊢
   simp only [List.take_succ_cons, List.take_zero, List.drop_succ_cons, List.drop_zero]
   repeat still_step
   refine wpStill_nil ?_
   go_wp2_with fail
   refine MV.out.mono ?_
   rintro e w3 ⟨⟨_, rfl⟩, d⟩
   have D3 := Lib.hid (show Done p g (actS s1 68 l) xs w (.returned (.tuple #[])) w3 from by rw [HE.out]; exact DN.out _ _ _ ⟨⟨.tuple #[], rfl⟩, d⟩)
   clear MV DN d k2 k3
   go_wp2
   go_end0
   exact D3.out
  ·have CN1 := Lib.hid (count_walk A n c l 1 w2 Q2.out)
   have hz : -300 ≤ cntL l 1 ∧ cntL l 1 ≤ 300 := by unfold cntL; split <;> omega
   have eS : actS s1 72 l = moveS s1 (y - 1) (cntL l 1 - 1) := by rw [← HY.out]; rfl
   generalize cntL l 1 = z at hz CN1 eS
   have g0 : IntKind.i64.wrap (y - 1) = y - 1 := IntWalk.i64_in _ (by omega)
   have g1 : IntKind.i64.wrap (z - 1) = z - 1 := IntWalk.i64_in _ (by omega)
   have MV := Lib.hid (moveTo_walk (y - 1) (z - 1) w2 H2.out)
   have HE := Lib.hid eS
   clear hrow h100 hcol hw3 eS HY hy H2 S2 Q2 AR2 W2 DN HD k2 k3 hz
   go_wp2_with fail
   refine CN1.out.mono ?_
   rintro e w' ⟨rfl, rfl⟩
   clear CN1
   go_wp2_with fail
   refine MV.out.mono ?_
   rintro e w3 ⟨⟨_, rfl⟩, d⟩
   have D3 := Lib.hid (show Done p g (actS s1 72 l) xs w (.returned (.tuple #[])) w3 from by rw [HE.out]; exact DO.out _ _ _ ⟨⟨.tuple #[], rfl⟩, d⟩)
   clear MV DO d
   go_wp2
   go_end0
   exact D3.out
  ·have NW := Lib.hid (number_walk A n c l 0 w2 Q2.out)
   have ES := Lib.hid (eraseScreen_walk (nth l 0) w2 S2.out H2.out)
   have eS : actS s1 74 l = scrE s1 (nth l 0) := rfl
   generalize nth l 0 = z at NW ES eS
   have HE := Lib.hid eS
   clear hrow h100 hcol hw3 eS HY hy H2 S2 Q2 AR2 W2 DN HD k2 k3
   go_wp2_with fail
   refine NW.out.mono ?_
   rintro e w' ⟨rfl, rfl⟩
   clear NW
   go_wp2_with fail
   refine ES.out.mono ?_
   rintro e w3 ⟨⟨_, rfl⟩, d⟩
   have D3 := Lib.hid (show Done p g (actS s1 74 l) xs w (.returned (.tuple #[])) w3 from by rw [HE.out]; exact DO.out _ _ _ ⟨⟨.tuple #[], rfl⟩, d⟩)
   clear ES DO d
   go_wp2
   go_end0
   exact D3.out
  ·have NW := Lib.hid (number_walk A n c l 0 w2 Q2.out)
   have ES := Lib.hid (eraseRow_walk (nth l 0) w2 S2.out H2.out)
   have eS : actS s1 75 l = rowE s1 (nth l 0) := rfl
   generalize nth l 0 = z at NW ES eS
   have HE := Lib.hid eS
   clear hrow h100 hcol hw3 eS HY hy H2 S2 Q2 AR2 W2 DN HD k2 k3
   go_wp2_with fail
   refine NW.out.mono ?_
   rintro e w' ⟨rfl, rfl⟩
   clear NW
   go_wp2_with fail
   refine ES.out.mono ?_
   rintro e w3 ⟨⟨_, rfl⟩, d⟩
   have D3 := Lib.hid (show Done p g (actS s1 75 l) xs w (.returned (.tuple #[])) w3 from by rw [HE.out]; exact DO.out _ _ _ ⟨⟨.tuple #[], rfl⟩, d⟩)
   clear ES DO d
   go_wp2
   go_end0
   exact D3.out
  ·have PW := Lib.hid (paint_walk A n c l w2 hn H2.out AR2.out)
   have eS : actS s1 109 l = paintS s1 l := rfl
   have HE := Lib.hid eS
   clear hrow h100 hcol hw3 eS HY hy H2 S2 Q2 AR2 W2 DN HD k2 k3
   go_wp2_with fail
   refine PW.out.mono ?_
   rintro e w3 ⟨⟨_, rfl⟩, d⟩
   have D3 := Lib.hid (show Done p g (actS s1 109 l) xs w (.returned (.tuple #[])) w3 from by rw [HE.out]; exact DO.out _ _ _ ⟨⟨.tuple #[], rfl⟩, d⟩)
   clear PW DO d
   go_wp2
   go_end0
   exact D3.out
end Sc
namespace Sc
open Rw
structure Rd (w : World) (A : Option Addr) (n : Nat) (xs : List RowIn) : Prop where
 head : Sq w w.heap.size 2 n A (xs.flatMap RowIn.vals)
 each : ∀ x ∈ xs, Sq w w.heap.size 3 x.n x.A (flat x.l) ∧ x.n ≤ 1000000
theorem Rd.below {w w' : World} {A : Option Addr} {n : Nat} {xs : List RowIn} (h : Rd w A n xs) (hb : Below w.heap.size w w') : Rd w' A n xs :=
 ⟨(h.head.below hb).up hb.size, fun x hx => ⟨((h.each x hx).1.below hb).up hb.size, (h.each x hx).2⟩⟩
theorem Rd.len {w : World} {A : Option Addr} {n : Nat} {xs : List RowIn} (h : Rd w A n xs) : xs.length = n := by
 have := h.head.len
 rw [flatMap_len RowIn.vals 2 (fun _ => rfl)] at this
 omega
theorem RowsIn.rd {w : World} {B n c : Nat} {A : Option Addr} {xs : List RowIn} (h : RowsIn w B (.slice A n c) xs) (hn : ∀ x ∈ xs, x.n ≤ 1000000) : Rd w A n xs := by
 obtain ⟨A', c', e, _⟩ := h.shape
 injection e with e1 e2 e3
 subst e1 e2 e3
 exact ⟨Sq.own h.own, fun x hx => ⟨HasC.sq (h.each x hx).1, hn x hx⟩⟩
theorem eqL_refl (l : List Cel) : eqL l l = true := by simp [eqL]
theorem eqRows_walk (A A' : Option Addr) (n c c' : Nat) (xs xs' : List RowIn) (w : World) (hn : n ≤ 1000000) (hq : Rd w A n xs) (hq' : Rd w A' n xs') (hs : xs.map sr = xs'.map sr) :
  Calls Tryz.prog 20 #[.slice A n c, .slice A' n c'] w fun e w' => e = .returned (.bool true) ∧ Below w.heap.size w w' := by
 have Q := Lib.hid hq
 have Q' := Lib.hid hq'
 have I0 := Lib.hid (Below.refl w.heap.size w)
 clear hq hq'
 go_enter Tryz.func20, Tryz.ntmps20
 go_wp2_with fail
 go_loopw [5] (fun i wr => ∃ k : Nat, i = .int .i64 (k : Int) ∧ k ≤ n ∧ Hid (Below w.heap.size w wr)) (fun i _ => n - (intOf i).toNat)
 case atStart => exact ⟨0, rfl, Nat.zero_le _, I0⟩
 case round =>
  obtain ⟨k, rfl, hk, I⟩ := hrel
  clear I0
  by_cases hlt : k < n
  ·have hx0 : k < xs.length := by rw [Q.out.len]; exact hlt
   have hx0' : k < xs'.length := by rw [Q'.out.len]; exact hlt
   obtain ⟨x, hx⟩ : ∃ x, xs[k]? = some x := ⟨_, List.getElem?_eq_getElem hx0⟩
   obtain ⟨x', hx'⟩ : ∃ x', xs'[k]? = some x' := ⟨_, List.getElem?_eq_getElem hx0'⟩
   have hsr : sr x = sr x' := by
    have := congrArg (fun z => z[k]?) hs
    simpa [List.getElem?_map, hx, hx'] using this
   have hb := I.out.drew
   have R := Q.out.below hb
   have R' := Q'.out.below hb
   obtain ⟨b, off, rfl, _, c0, c1⟩ := rows_at R.head hx hlt
   obtain ⟨b', off', rfl, _, c0', c1'⟩ := rows_at R'.head hx' hlt
   have hwl : x.wrap = x'.wrap ∧ x.l = x'.l := by injection hsr with h1 h2; exact ⟨h2, h1⟩
   have ER := Lib.hid (show Calls Tryz.prog 68 #[rowV x.A x.n x.c x.wrap, rowV x'.A x'.n x'.c x'.wrap] wr.drew fun e w' => e = .returned (.bool true) ∧ Below wr.drew.heap.size wr.drew w' from by
    refine (eqRow_walk x.A x'.A x.n x.c x'.n x'.c x.wrap x'.wrap x.l x'.l wr.drew (R.each x (List.mem_of_getElem? hx)).2 (R'.each x' (List.mem_of_getElem? hx')).2 (R.each x (List.mem_of_getElem? hx)).1 (R'.each x' (List.mem_of_getElem? hx')).1).mono ?_
    rintro e w' ⟨rfl, hb⟩
    rw [hwl.1, hwl.2, eqL_refl, beq_self_eq_true]
    exact ⟨rfl, hb⟩)
   have hk0 : (0 : Int) ≤ (k : Int) := by omega
   have hkn : (k : Int) < (n : Int) := by omega
   have hinc : IntKind.i64.wrap ((k : Int) + 1) = (k : Int) + 1 := IntWalk.i64_in _ (by omega)
   have HB := Lib.hid hb
   clear hb R R' hx hx' hsr hwl I hx0 hx0' hs Q Q'
   go_wp2_with fail
   refine wp_region_still_tail 8 (by kernel_rfl) (by kernel_rfl) ?_
   rw [show ({ wr with drawn := wr.drawn + 1 } : World) = wr.drew from rfl]
   generalize wr.drew = wd at c0 c1 c0' c1' ER HB ⊢
   simp only [List.take_succ_cons, List.take_zero, List.drop_succ_cons, List.drop_zero]
   repeat still_step
   refine wpStill_nil ?_
   go_wp2_with fail
   refine ER.out.mono ?_
   rintro e w2 ⟨rfl, b2⟩
   have I2 := Lib.hid (HB.out.trans (b2.mono HB.out.size))
   clear ER b2 HB c0 c1 c0' c1'
   go_wp2
   go_roundw
   case rel => exact ⟨k + 1, by first | rfl | (congr 1; done) | (congr 1; omega), by omega, I2⟩
   case measure => first | (simp [intOf]; done) | (simp [intOf]; omega)
  ·obtain rfl : k = n := by omega
   clear Q Q' hs
   go_wp2
   go_ret
   exact ⟨rfl, I.out⟩
end Sc
