import Derived.Test.YtmpoboffdfcpiaaGreatDoorQBase8
set_option maxRecDepth 100000
set_option maxHeartbeats 12800000
namespace Go.Proofs.YtmpoboffdfcpiaaGreatDoor
open Go.ChangeShapes Go.WideShapes Go.ChangeAt Go.RowKit
namespace Sc
open Rw
def Few (l : List Int) : Prop := ∀ x ∈ l, 0 ≤ x ∧ x ≤ 9999
theorem Few.get {l : List Int} (h : Few l) (i : Nat) : 0 ≤ nth l i ∧ nth l i ≤ 9999 := by
 by_cases hi : i < l.length
 ·rw [nth_get hi]; exact h _ (List.getElem_mem hi)
 ·have e : nth l i = 0 := by simp [nth, List.getD, show l.length ≤ i by omega]
  rw [e]; omega
theorem argL_one {l : List Int} (h : Few l) (i : Nat) : 1 ≤ argL l i 1 ∧ argL l i 1 ≤ 9999 ∧ cntL l i = min (argL l i 1) 300 := by
 have hg := h.get i
 unfold argL cntL
 by_cases hi : l.length ≤ i
 ·have e : nth l i = 0 := by simp [nth, List.getD, hi]
  rw [e, if_pos (.inl hi), if_pos rfl]; omega
 ·by_cases h0 : nth l i = 0
  ·rw [if_pos (.inr h0), if_pos h0]; omega
  ·rw [if_neg (by rintro (a | a) <;> omega), if_neg h0]; omega
theorem argL_zero (l : List Int) (i : Nat) : argL l i 0 = nth l i := by
 unfold argL
 by_cases hi : l.length ≤ i
 ·have e : nth l i = 0 := by simp [nth, List.getD, hi]
  rw [e, if_pos (.inl hi)]
 ·by_cases h0 : nth l i = 0
  ·rw [if_pos (.inr h0), h0]
  ·rw [if_neg (by rintro (a | a) <;> omega)]
theorem move_eq {s : Scr} {line col : Int} {r c : Nat} (hr : (min (max line 0) ((s.rows.length : Int) - 1)).toNat = r) (hc : (min (max col 0) ((s.w : Int) - 1)).toNat = c) : moveS s line col = { s with r := r, c := c } := by
 unfold moveS
 rw [hr, hc]
def Kept1 (w : World) (p g : Nat) (A : Option Addr) (n : Nat) (l : List Int) : Prop := ∀ W, Turned (fun k => k = p ∨ k = g) w W → Sq W W.heap.size 1 n A (l.map (Value.int .i64))
section
variable {p g cap : Nat} {tail : List Value} {s : Scr} {xs : List RowIn}
theorem rcsiA_walk (A : Option Addr) (n c : Nat) (l : List Int) (w : World) (h : RAt w p g cap tail s xs) (hcol : s.c < s.w) (hl : Few l) (ARG : Kept1 w p g A n l) : Calls Tryz.prog 71 #[ptrS p, .int .i32 65, .slice A n c] w fun e w' => RDone p g (actS s 65 l) w e w' := by
 have hq := ARG w (Turned.refl _ _)
 have AG := Lib.hid (arg_walk A n c l 0 1 w hq)
 obtain ⟨a1, a2, a3⟩ := argL_one hl 0
 obtain ⟨m, hm⟩ : ∃ m, argL l 0 1 = m := ⟨_, rfl⟩
 rw [hm] at a1 a2 a3 AG
 have hrow := h.ok.row
 have h2 := h.ok.h2
 obtain ⟨X, hX⟩ : ∃ X : Nat, max 0 ((s.r : Int) - m) = (X : Int) := ⟨(max 0 ((s.r : Int) - m)).toNat, by omega⟩
 have eA : actS s 65 l = { s with r := X } := by
  show moveS s ((s.r : Int) - cntL l 0) s.c = _
  rw [a3, move_eq (r := X) (c := s.c) (by omega) (by omega)]
 have k3 : w.cell? ⟨p, 3, none⟩ = some (.int .i64 (s.r : Int)) := h.get 3
 have f3 : w.frozen? ⟨p, 3, none⟩ = false := h.free 3
 have hs : IntKind.i64.wrap ((s.r : Int) - m) = (s.r : Int) - m := IntWalk.i64_in _ (by omega)
 have D := Lib.hid (show RDone p g (actS s 65 l) w (.returned (.tuple #[])) (w.setCell ⟨p, 3, none⟩ (.int .i64 (X : Int))) from by
  rw [eA]
  exact ⟨⟨_, rfl⟩, g, RTo.cell (Below.refl _ _) (h.setRow (by omega))⟩)
 generalize (s.r : Int) = sr0 at k3 hs hX
 clear h hcol hl ARG hq hm a1 a2 a3 hrow h2 eA
 go_enter Tryz.func71, Tryz.ntmps71
 go_wp2_with fail
 refine AG.out.mono ?_
 rintro e w' ⟨rfl, e1⟩
 subst w'
 clear AG
 go_wp2
 go_end0
 exact D.out
theorem rcsiB_walk (A : Option Addr) (n c : Nat) (l : List Int) (w : World) (h : RAt w p g cap tail s xs) (hcol : s.c < s.w) (hl : Few l) (ARG : Kept1 w p g A n l) : Calls Tryz.prog 71 #[ptrS p, .int .i32 66, .slice A n c] w fun e w' => RDone p g (actS s 66 l) w e w' := by
 have hq := ARG w (Turned.refl _ _)
 have AG := Lib.hid (arg_walk A n c l 0 1 w hq)
 obtain ⟨a1, a2, a3⟩ := argL_one hl 0
 obtain ⟨m, hm⟩ : ∃ m, argL l 0 1 = m := ⟨_, rfl⟩
 rw [hm] at a1 a2 a3 AG
 have hrow := h.ok.row
 have h2 := h.ok.h2
 obtain ⟨X, hX⟩ : ∃ X : Nat, min ((s.rows.length : Int) - 1) ((s.r : Int) + m) = (X : Int) := ⟨(min ((s.rows.length : Int) - 1) ((s.r : Int) + m)).toNat, by omega⟩
 have eA : actS s 66 l = { s with r := X } := by
  show moveS s ((s.r : Int) + cntL l 0) s.c = _
  rw [a3, move_eq (r := X) (c := s.c) (by omega) (by omega)]
 have hd := h.laid (Below.refl _ _).drew
 have k1 : w.drew.cell? ⟨p, 1, none⟩ = some (.int .i64 (s.rows.length : Int)) := hd.get 1
 have k3 : w.drew.cell? ⟨p, 3, none⟩ = some (.int .i64 (s.r : Int)) := hd.get 3
 have f3 : w.drew.frozen? ⟨p, 3, none⟩ = false := hd.free 3
 have hs : IntKind.i64.wrap ((s.r : Int) + m) = (s.r : Int) + m := IntWalk.i64_in _ (by omega)
 have hs2 : IntKind.i64.wrap ((s.rows.length : Int) - 1) = (s.rows.length : Int) - 1 := IntWalk.i64_in _ (by omega)
 have D := Lib.hid (show RDone p g (actS s 66 l) w (.returned (.tuple #[])) (w.drew.setCell ⟨p, 3, none⟩ (.int .i64 (X : Int))) from by
  rw [eA]
  exact ⟨⟨_, rfl⟩, g, RTo.cell (Below.refl _ _).drew (hd.setRow (by omega))⟩)
 generalize (s.r : Int) = sr0 at k3 hs hX
 generalize s.rows.length = sh at k1 hs2 hX
 clear h hd hcol hl ARG hq hm a1 a2 a3 hrow h2 eA
 go_enter Tryz.func71, Tryz.ntmps71
 go_wp2_with fail
 refine AG.out.mono ?_
 rintro e w' ⟨rfl, e1⟩
 subst w'
 clear AG
 go_wp2_with fail
 go_region
 all_goals go_wp2
 all_goals go_end0
 all_goals exact D.out
theorem rcsiC_walk (A : Option Addr) (n c : Nat) (l : List Int) (w : World) (h : RAt w p g cap tail s xs) (hcol : s.c < s.w) (hl : Few l) (ARG : Kept1 w p g A n l) : Calls Tryz.prog 71 #[ptrS p, .int .i32 67, .slice A n c] w fun e w' => RDone p g (actS s 67 l) w e w' := by
 have hq := ARG w (Turned.refl _ _)
 have AG := Lib.hid (arg_walk A n c l 0 1 w hq)
 obtain ⟨a1, a2, a3⟩ := argL_one hl 0
 obtain ⟨m, hm⟩ : ∃ m, argL l 0 1 = m := ⟨_, rfl⟩
 rw [hm] at a1 a2 a3 AG
 have hrow := h.ok.row
 have h2 := h.ok.h2
 have hw3 := h.ok.w3
 obtain ⟨X, hX⟩ : ∃ X : Nat, min ((s.w : Int) - 1) ((s.c : Int) + m) = (X : Int) := ⟨(min ((s.w : Int) - 1) ((s.c : Int) + m)).toNat, by omega⟩
 have eA : actS s 67 l = { s with c := X } := by
  show moveS s s.r ((s.c : Int) + cntL l 0) = _
  rw [a3, move_eq (r := s.r) (c := X) (by omega) (by omega)]
 have hd := h.laid (Below.refl _ _).drew
 have k1 : w.drew.cell? ⟨p, 0, none⟩ = some (.int .i64 (s.w : Int)) := hd.get 0
 have k3 : w.drew.cell? ⟨p, 4, none⟩ = some (.int .i64 (s.c : Int)) := hd.get 4
 have f3 : w.drew.frozen? ⟨p, 4, none⟩ = false := hd.free 4
 have hs : IntKind.i64.wrap ((s.c : Int) + m) = (s.c : Int) + m := IntWalk.i64_in _ (by omega)
 have hs2 : IntKind.i64.wrap ((s.w : Int) - 1) = (s.w : Int) - 1 := IntWalk.i64_in _ (by omega)
 have D := Lib.hid (show RDone p g (actS s 67 l) w (.returned (.tuple #[])) (w.drew.setCell ⟨p, 4, none⟩ (.int .i64 (X : Int))) from by
  rw [eA]
  exact ⟨⟨_, rfl⟩, g, RTo.cell (Below.refl _ _).drew (hd.setCol (by omega))⟩)
 generalize (s.c : Int) = sr0 at k3 hs hX
 generalize s.w = sh at k1 hs2 hX
 clear h hd hcol hl ARG hq hm a1 a2 a3 hrow h2 eA hw3
 go_enter Tryz.func71, Tryz.ntmps71
 go_wp2_with fail
 refine AG.out.mono ?_
 rintro e w' ⟨rfl, e1⟩
 subst w'
 clear AG
 go_wp2_with fail
 go_region
 all_goals go_wp2
 all_goals go_end0
 all_goals exact D.out
theorem rcsiD_walk (A : Option Addr) (n c : Nat) (l : List Int) (w : World) (h : RAt w p g cap tail s xs) (hcol : s.c < s.w) (hl : Few l) (ARG : Kept1 w p g A n l) : Calls Tryz.prog 71 #[ptrS p, .int .i32 68, .slice A n c] w fun e w' => RDone p g (actS s 68 l) w e w' := by
 have hq := ARG w (Turned.refl _ _)
 have AG := Lib.hid (arg_walk A n c l 0 1 w hq)
 obtain ⟨a1, a2, a3⟩ := argL_one hl 0
 obtain ⟨m, hm⟩ : ∃ m, argL l 0 1 = m := ⟨_, rfl⟩
 rw [hm] at a1 a2 a3 AG
 have hrow := h.ok.row
 have h2 := h.ok.h2
 have hw3 := h.ok.w3
 obtain ⟨X, hX⟩ : ∃ X : Nat, max 0 ((s.c : Int) - m) = (X : Int) := ⟨(max 0 ((s.c : Int) - m)).toNat, by omega⟩
 have eA : actS s 68 l = { s with c := X } := by
  show moveS s s.r ((s.c : Int) - cntL l 0) = _
  rw [a3, move_eq (r := s.r) (c := X) (by omega) (by omega)]
 have k3 : w.cell? ⟨p, 4, none⟩ = some (.int .i64 (s.c : Int)) := h.get 4
 have f3 : w.frozen? ⟨p, 4, none⟩ = false := h.free 4
 have hs : IntKind.i64.wrap ((s.c : Int) - m) = (s.c : Int) - m := IntWalk.i64_in _ (by omega)
 have D := Lib.hid (show RDone p g (actS s 68 l) w (.returned (.tuple #[])) (w.setCell ⟨p, 4, none⟩ (.int .i64 (X : Int))) from by
  rw [eA]
  exact ⟨⟨_, rfl⟩, g, RTo.cell (Below.refl _ _) (h.setCol (by omega))⟩)
 generalize (s.c : Int) = sr0 at k3 hs hX
 clear h hcol hl ARG hq hm a1 a2 a3 hrow h2 eA hw3
 go_enter Tryz.func71, Tryz.ntmps71
 go_wp2_with fail
 refine AG.out.mono ?_
 rintro e w' ⟨rfl, e1⟩
 subst w'
 clear AG
 go_wp2
 go_end0
 exact D.out
theorem rcsiH_walk (A : Option Addr) (n c : Nat) (l : List Int) (w : World) (h : RAt w p g cap tail s xs) (hl : Few l) (ARG : Kept1 w p g A n l) : Calls Tryz.prog 71 #[ptrS p, .int .i32 72, .slice A n c] w fun e w' => RDone p g (actS s 72 l) w e w' := by
 have hq := ARG w (Turned.refl _ _)
 have AG := Lib.hid (arg_walk A n c l 0 1 w hq)
 obtain ⟨a1, a2, a3⟩ := argL_one hl 0
 obtain ⟨b1, b2, b3⟩ := argL_one hl 1
 obtain ⟨m, hm⟩ : ∃ m, argL l 0 1 = m := ⟨_, rfl⟩
 obtain ⟨m2, hm2⟩ : ∃ m, argL l 1 1 = m := ⟨_, rfl⟩
 rw [hm] at a1 a2 a3 AG
 rw [hm2] at b1 b2 b3
 have h1 := h.ok.h1
 have h2 := h.ok.h2
 have w2 := h.ok.w2
 have w3 := h.ok.w3
 obtain ⟨X, hX⟩ : ∃ X : Nat, max 0 (min m (s.rows.length : Int) - 1) = (X : Int) := ⟨(max 0 (min m (s.rows.length : Int) - 1)).toNat, by omega⟩
 obtain ⟨Y, hY⟩ : ∃ Y : Nat, max 0 (min m2 (s.w : Int) - 1) = (Y : Int) := ⟨(max 0 (min m2 (s.w : Int) - 1)).toNat, by omega⟩
 have eA : actS s 72 l = { s with r := X, c := Y } := by
  show moveS s (cntL l 0 - 1) (cntL l 1 - 1) = _
  rw [a3, b3, move_eq (r := X) (c := Y) (by omega) (by omega)]
 have hd := h.laid (Below.refl _ _).drew
 have HD := Lib.hid hd
 have AG2 := Lib.hid (show ∀ W : World, (W = w.drew ∨ W = (w.drew.setCell ⟨p, 3, none⟩ (.int .i64 (X : Int))).setCell ⟨p, 4, none⟩ (.int .i64 (Y : Int))) → Calls Tryz.prog 125 #[.slice A n c, .int .i64 1, .int .i64 1] W fun e w' => e = .returned (.int .i64 m2) ∧ W = w' from fun W hW => by
  have ht : Turned (fun k => k = p ∨ k = g) w W := by
   rcases hW with rfl | rfl
   ·exact Turned.ofBelow (Below.refl _ _).drew _
   ·exact ((Turned.ofBelow (Below.refl _ _).drew _).trans ((Turned.ofCell p 3 _ _).mono fun _ _ e => .inl e) (fun _ _ m => m)).trans ((Turned.ofCell p 4 _ _).mono fun _ _ e => .inl e) (fun _ _ m => m)
  have := arg_walk A n c l 1 1 W (ARG W ht)
  rw [hm2] at this
  refine this.mono ?_
  rintro e w' ⟨h1, h2⟩
  exact ⟨h1, h2.symm⟩)
 have D := Lib.hid (show RDone p g (actS s 72 l) w (.returned (.tuple #[])) ((w.drew.setCell ⟨p, 3, none⟩ (.int .i64 (X : Int))).setCell ⟨p, 4, none⟩ (.int .i64 (Y : Int))) from by
  rw [eA]
  have R1 := hd.setRow (r := X) (by omega)
  have R2 := R1.setCol (c := Y) (by show Y ≤ s.w; omega)
  exact ⟨⟨_, rfl⟩, g, (RTo.cell (Below.refl _ _).drew R1).trans (RTo.cell (Below.refl _ _) R2)⟩)
 have HS1 := Lib.hid (show IntKind.i64.wrap (min m (s.rows.length : Int) - 1) = min m (s.rows.length : Int) - 1 from IntWalk.i64_in _ (by omega))
 have HS2 := Lib.hid (show IntKind.i64.wrap (min m2 (s.w : Int) - 1) = min m2 (s.w : Int) - 1 from IntWalk.i64_in _ (by omega))
 clear h hd hl hm hm2 a1 a2 a3 b1 b2 b3 eA
 go_enter Tryz.func71, Tryz.ntmps71
 go_wp2_with fail
 refine AG.out.mono ?_
 rintro e w' ⟨rfl, e1⟩
 subst w'
 clear AG
 go_wp2_with fail
 refine Ord.start (S := fun W => W = w.drew ∨ W = (w.drew.setCell ⟨p, 3, none⟩ (.int .i64 (X : Int))).setCell ⟨p, 4, none⟩ (.int .i64 (Y : Int))) (n := 22) (by kernel_rfl) (by kernel_rfl) (.inl rfl) ?_
 apply rhome_region (w1 := w.drew) (p := p) (sw := s.w) (sh := s.rows.length) (ln := n) (lc := c) (lA := A) (nn := m) (mm := m2) (X := (X : Int)) (Y := (Y : Int))
 case R => exact ⟨by kernel_rfl, by kernel_rfl⟩
 case hQ => exact fun _ _ _ _ _ h => h
 case k0 =>
  rintro W (rfl | rfl)
  ·exact HD.out.get 0
  ·exact (World.cell?_setCell_other _ _ _ _ (by simp)).trans ((World.cell?_setCell_other _ _ _ _ (by simp)).trans (HD.out.get 0))
 case k1 =>
  rintro W (rfl | rfl)
  ·exact HD.out.get 1
  ·exact (World.cell?_setCell_other _ _ _ _ (by simp)).trans ((World.cell?_setCell_other _ _ _ _ (by simp)).trans (HD.out.get 1))
 case k3 => exact ⟨_, HD.out.get 3⟩
 case k4 => exact ⟨_, HD.out.get 4⟩
 case f3 => exact HD.out.free 3
 case f4 => exact HD.out.free 4
 case hs1 => exact HS1.out
 case hX => exact hX
 case hs2 => exact HS2.out
 case hY => exact hY
 case AG => exact AG2.out
 case F => exact ⟨rfl, rfl, rfl, rfl, rfl⟩
 intro a2 F2
 refine rhome_frame F2.size F2.defers F2.s0 F2.s2 F2.s6 ?_
 clear F2
 intros
 try dsimp only
 go_wp2
 go_end0
 exact D.out
theorem rcsiM_walk (A : Option Addr) (n c : Nat) (l : List Int) (w : World) (hn : n ≤ 1000000) (h : RAt w p g cap tail s xs) (hl : Few l) (ARG : Kept1 w p g A n l) : Calls Tryz.prog 71 #[ptrS p, .int .i32 109, .slice A n c] w fun e w' => RDone p g (actS s 109 l) w e w' := by
 have hq := ARG w (Turned.refl _ _)
 have AG := Lib.hid (arg_walk A n c l 0 1 w hq)
 obtain ⟨m, hm⟩ : ∃ m, argL l 0 1 = m := ⟨_, rfl⟩
 rw [hm] at AG
 have hln := hq.size_ints
 have HL := Lib.hid hln
 have FW := Lib.hid hl
 have AR := Lib.hid ARG
 have eA : actS s 109 l = paintS s l := rfl
 rw [eA]
 have H := Lib.hid h
 have k5 : w.cell? ⟨p, 5, none⟩ = some (.int .i64 s.a) := h.get 5
 have f5 : w.frozen? ⟨p, 5, none⟩ = false := h.free 5
 clear h hm hq hl ARG eA
 go_enter Tryz.func71, Tryz.ntmps71
 go_wp2_with fail
 refine AG.out.mono ?_
 rintro e w' ⟨rfl, e1⟩
 subst w'
 clear AG
 by_cases hn0 : n = 0
 ·subst hn0
  have D := Lib.hid (show RDone p g (paintS s l) w (.returned (.tuple #[])) (w.setCell ⟨p, 5, none⟩ (.int .i64 0)) from by
   obtain rfl : l = [] := List.eq_nil_of_length_eq_zero HL.out
   exact ⟨⟨_, rfl⟩, g, RTo.cell (Below.refl _ _) (H.out.setAttr (a := 0) (by omega) (by omega))⟩)
  clear HL FW AR H hln
  go_wp2_with fail
  go_loopw [9] (fun i wr => i = .int .i64 0 ∧ Hid (RDone p g (paintS s l) w (.returned (.tuple #[])) wr)) (fun _ _ => 0)
  case atStart => exact ⟨rfl, D⟩
  case round =>
   obtain ⟨rfl, DD⟩ := hrel
   clear D k5 f5
   go_wp2
   go_end0
   exact DD.out
 ·have hnb : ((n : Int) == 0) = false := by simp; omega
  have hn1 : (1 : Int) ≤ (n : Int) := by omega
  have I0 := Lib.hid (show RTo p g { s with a := if 0 = 0 then s.a else attrL (l.take 0) 0 } w g w from H.out.to)
  clear k5 f5 H hln
  go_wp2_with fail
  go_loopw [9] (fun i wr => ∃ k : Nat, i = .int .i64 (k : Int) ∧ k ≤ n ∧ Hid (RTo p g { s with a := if k = 0 then s.a else attrL (l.take k) 0 } w g wr)) (fun i _ => n - (intOf i).toNat)
  case atStart => exact ⟨0, rfl, Nat.zero_le _, I0⟩
  case round =>
   obtain ⟨k, rfl, hk, I⟩ := hrel
   clear I0
   by_cases hlt : k < n
   ·obtain ⟨b, off, rfl, _, hc0⟩ := (AR.out wr I.out.turned).int_at hlt
    have hk0 : (0 : Int) ≤ (k : Int) := by omega
    have hkn : (k : Int) < (n : Int) := by omega
    obtain ⟨y, hy⟩ : ∃ y, nth l k = y := ⟨_, rfl⟩
    have hyr := FW.out.get k
    rw [hy] at hc0 hyr
    obtain ⟨cap1, tl1, xs1, R1⟩ := I.out.at'
    obtain ⟨av, hav⟩ : ∃ av, (if k = 0 then s.a else attrL (l.take k) 0) = av := ⟨_, rfl⟩
    rw [hav] at R1
    have k5 : wr.cell? ⟨p, 5, none⟩ = some (.int .i64 av) := R1.get 5
    have f5 : wr.frozen? ⟨p, 5, none⟩ = false := R1.free 5
    have hmod : y.tmod 256 = y % 256 := Int.tmod_eq_emod_of_nonneg hyr.1
    have hwm : IntKind.i64.wrap (y % 256) = y % 256 := IntWalk.i64_in _ (by omega)
    have NX := Lib.hid (show RTo p g { s with a := if k + 1 = 0 then s.a else attrL (l.take (k + 1)) 0 } w g (wr.setCell ⟨p, 5, none⟩ (.int .i64 (y % 256))) from by
     have e : attrL (l.take (k + 1)) 0 = y % 256 := by rw [take_next (by have := HL.out; omega), attrL_snoc, hy]; rfl
     rw [if_neg (by omega), e]
     exact I.out.trans (RTo.cell (Below.refl _ _) (R1.setAttr (a := y % 256) (by omega) (by omega))))
    have hinc : IntKind.i64.wrap ((k : Int) + 1) = (k : Int) + 1 := IntWalk.i64_in _ (by omega)
    clear I hy R1 hav hyr
    go_wp2
    go_roundw
    case rel => exact ⟨k + 1, by first | rfl | (congr 1; done) | (congr 1; omega), by omega, NX⟩
    case measure => first | (simp [intOf]; done) | (simp [intOf]; omega)
   ·obtain rfl : k = n := by omega
    have D := Lib.hid (show RDone p g (paintS s l) w (.returned (.tuple #[])) wr from by
     have hI := I.out
     rw [if_neg hn0, List.take_of_length_le (by have := HL.out; omega)] at hI
     exact ⟨⟨_, rfl⟩, g, hI⟩)
    clear I
    go_wp2
    go_end0
    exact D.out
end
end Sc
namespace Sc
open Rw
def jS (s : Scr) (how : Int) (i : Nat) : Scr := if how = 2 then rowsE s 0 i else if how = 0 then rowsE s (s.r + 1) (i - (s.r + 1)) else if how = 1 then rowsE s 0 (min i s.r) else s
theorem jS_w (s : Scr) (how : Int) (i : Nat) : (jS s how i).w = s.w ∧ (jS s how i).rows.length = s.rows.length ∧ (jS s how i).r = s.r ∧ (jS s how i).c = s.c := by
 have key : ∀ f n, (rowsE s f n).w = s.w ∧ (rowsE s f n).rows.length = s.rows.length ∧ (rowsE s f n).r = s.r ∧ (rowsE s f n).c = s.c := fun f n => ⟨(rowsE_w s f n).1, (rowsE_w s f n).2.1, (rowsE_w s f n).2.2.1, (rowsE_w s f n).2.2.2.1⟩
 unfold jS
 split
 ·exact key _ _
 ·split
  ·exact key _ _
  ·split
   ·exact key _ _
   ·exact ⟨rfl, rfl, rfl, rfl⟩
theorem jS_zero (s : Scr) (how : Int) : jS s how 0 = s := by
 unfold jS
 rw [show 0 - (s.r + 1) = 0 by omega, show min 0 s.r = 0 by omega]
 have : ∀ f, rowsE s f 0 = s := fun _ => rfl
 rw [this, this]
 split
 ·rfl
 ·split
  ·rfl
  ·split <;> rfl
theorem jS_all (s : Scr) (how : Int) (h : s.r < s.rows.length) : rowE (jS s how s.rows.length) how = scrE s how := by
 unfold scrE jS
 by_cases h2 : how = 2
 ·subst h2; rfl
 ·rw [if_neg h2]
  by_cases h0 : how = 0
  ·subst h0; rfl
  ·rw [if_neg h0]
   by_cases h1 : how = 1
   ·subst h1
    rw [if_pos rfl, show min s.rows.length s.r = s.r by omega]
    rfl
   ·rw [if_neg h1, if_neg h0, if_neg h1, if_neg h2]
theorem jS_two (s : Scr) (i : Nat) : jS s 2 (i + 1) = eraseS (jS s 2 i) i 0 (s.w : Int) := by
 unfold jS
 rw [if_pos rfl, if_pos rfl, rowsE_snoc, Nat.zero_add]
theorem jS_below (s : Scr) (i : Nat) (h : s.r < i) : jS s 0 (i + 1) = eraseS (jS s 0 i) i 0 (s.w : Int) := by
 unfold jS
 rw [if_neg (by decide), if_pos rfl, if_neg (by decide), if_pos rfl, show i + 1 - (s.r + 1) = (i - (s.r + 1)) + 1 by omega, rowsE_snoc, show s.r + 1 + (i - (s.r + 1)) = i by omega]
theorem jS_below' (s : Scr) (i : Nat) (h : ¬ s.r < i) : jS s 0 (i + 1) = jS s 0 i := by
 unfold jS
 rw [if_neg (by decide), if_pos rfl, if_neg (by decide), if_pos rfl, show i + 1 - (s.r + 1) = 0 by omega, show i - (s.r + 1) = 0 by omega]
theorem jS_above (s : Scr) (i : Nat) (h : i < s.r) : jS s 1 (i + 1) = eraseS (jS s 1 i) i 0 (s.w : Int) := by
 unfold jS
 rw [if_neg (by decide), if_neg (by decide), if_pos rfl, if_neg (by decide), if_neg (by decide), if_pos rfl, show min (i + 1) s.r = i + 1 by omega, show min i s.r = i by omega, rowsE_snoc, Nat.zero_add]
theorem jS_above' (s : Scr) (i : Nat) (h : ¬ i < s.r) : jS s 1 (i + 1) = jS s 1 i := by
 unfold jS
 rw [if_neg (by decide), if_neg (by decide), if_pos rfl, if_neg (by decide), if_neg (by decide), if_pos rfl, show min (i + 1) s.r = s.r by omega, show min i s.r = s.r by omega]
theorem jS_none (s : Scr) (how : Int) (i : Nat) (h0 : how ≠ 0) (h1 : how ≠ 1) (h2 : how ≠ 2) : jS s how (i + 1) = jS s how i := by
 unfold jS
 rw [if_neg h2, if_neg h0, if_neg h1, if_neg h2, if_neg h0, if_neg h1]
section
variable {p g cap : Nat} {tail : List Value} {s : Scr} {xs : List RowIn}
theorem rcsiK_walk (A : Option Addr) (n c : Nat) (l : List Int) (w : World) (h : RAt w p g cap tail s xs) (hcol : s.c < s.w) (ARG : Kept1 w p g A n l) : Calls Tryz.prog 71 #[ptrS p, .int .i32 75, .slice A n c] w fun e w' => RDone p g (actS s 75 l) w e w' := by
 have hq := ARG w (Turned.refl _ _)
 have AG := Lib.hid (arg_walk A n c l 0 1 w hq)
 have AG0 := Lib.hid (arg_walk A n c l 0 0 w hq)
 obtain ⟨m, hm⟩ : ∃ m, argL l 0 1 = m := ⟨_, rfl⟩
 rw [hm] at AG
 obtain ⟨y, hy⟩ : ∃ y, nth l 0 = y := ⟨_, rfl⟩
 rw [argL_zero, hy] at AG0
 have eA : actS s 75 l = (rowE s y) := by rw [← hy]; rfl
 rw [eA]
 have H := Lib.hid h
 have HCOL := Lib.hid hcol
 have k1 : w.cell? ⟨p, 1, none⟩ = some (.int .i64 (s.rows.length : Int)) := h.get 1
 have h1 := h.ok.h1
 have h100 := h.ok.h2
 have hpos : (0 : Int) < (s.rows.length : Int) := by omega
 clear h hm hy hq ARG eA hcol
 go_enter Tryz.func71, Tryz.ntmps71
 go_wp2_with fail
 refine AG.out.mono ?_
 rintro e w' ⟨rfl, e1⟩
 subst w'
 clear AG
 go_wp2_with fail
 refine AG0.out.mono ?_
 rintro e w' ⟨rfl, e1⟩
 subst w'
 clear AG0
 go_wp2_with fail
 go_loopw [8] (fun i wr => i = .int .i64 0 ∧ Hid (wr = w)) (fun _ _ => 0)
 case atStart => exact ⟨rfl, Lib.hid rfl⟩
 case round =>
  obtain ⟨rfl, hw⟩ := hrel
  obtain rfl := hw.out
  clear hw
  have RW := H
  have hc2 := HCOL.out
  have FIN := Lib.hid (show ∀ e w', RDone p g (rowE s y) wr e w' → RDone p g (rowE s y) wr e w' from fun _ _ d => d)
  have rw2 := RW.out.ok.row
  have rw3 := RW.out.ok.w3
  have rh2 := RW.out.ok.h2
  have RD := Lib.hid (RW.out.laid (Below.refl wr.heap.size wr).drew)
  have k0 : wr.drew.cell? ⟨p, 0, none⟩ = some (.int .i64 (s.w : Int)) := RD.out.get 0
  have k3 : wr.drew.cell? ⟨p, 3, none⟩ = some (.int .i64 (s.r : Int)) := RD.out.get 3
  have k4 : wr.drew.cell? ⟨p, 4, none⟩ = some (.int .i64 (s.c : Int)) := RD.out.get 4
  by_cases y0 : y = 0
  ·subst y0
   have WK := Lib.hid (rwipe_walk s.r (s.c : Int) (s.w : Int) wr.drew RD.out rw2 (by omega) (by omega) (by omega))
   have FI := Lib.hid (show ∀ e w', RDone p g (eraseS s s.r (s.c : Int) (s.w : Int)) wr.drew e w' → RDone p g (rowE s 0) wr e w' from fun e w' d => FIN.out e w' (by unfold rowE; rw [if_pos rfl]; exact RDone.behind (Below.refl wr.heap.size wr).drew d))
   clear FIN RW RD rw2 rw3 rh2 hc2
   go_wp2_with fail
   refine wp_region_still_tail 15 (by kernel_rfl) (by kernel_rfl) ?_
   rw [show ({ wr with drawn := wr.drawn + 1 } : World) = wr.drew from rfl]
   generalize wr.drew = wd at k0 k3 k4 WK FI ⊢
   simp only [List.take_succ_cons, List.take_zero, List.drop_succ_cons, List.drop_zero]
   repeat still_step
   refine wpStill_nil ?_
   go_wp2_with fail
   refine WK.out.mono ?_
   rintro e w3 ⟨⟨_, rfl⟩, d⟩
   have D3 := Lib.hid (FI.out _ _ ⟨⟨.tuple #[], rfl⟩, d⟩)
   clear WK FI d k0 k3 k4
   go_wp2
   go_end0
   exact D3.out
  by_cases y1 : y = 1
  ·subst y1
   have hs1 : IntKind.i64.wrap ((s.c : Int) + 1) = (s.c : Int) + 1 := IntWalk.i64_in _ (by omega)
   have WK := Lib.hid (rwipe_walk s.r 0 ((s.c : Int) + 1) wr.drew RD.out rw2 (by omega) (by omega) (by omega))
   have FI := Lib.hid (show ∀ e w', RDone p g (eraseS s s.r 0 ((s.c : Int) + 1)) wr.drew e w' → RDone p g (rowE s 1) wr e w' from fun e w' d => FIN.out e w' (by unfold rowE; rw [if_neg (by decide), if_pos rfl]; exact RDone.behind (Below.refl wr.heap.size wr).drew d))
   clear FIN RW RD rw2 rw3 rh2 hc2
   go_wp2_with fail
   refine wp_region_still_tail 12 (by kernel_rfl) (by kernel_rfl) ?_
   rw [show ({ wr with drawn := wr.drawn + 1 } : World) = wr.drew from rfl]
   generalize wr.drew = wd at k0 k3 k4 WK FI ⊢
   simp only [List.take_succ_cons, List.take_zero, List.drop_succ_cons, List.drop_zero]
   repeat still_step
   refine wpStill_nil ?_
   go_wp2_with fail
   refine WK.out.mono ?_
   rintro e w3 ⟨⟨_, rfl⟩, d⟩
   have D3 := Lib.hid (FI.out _ _ ⟨⟨.tuple #[], rfl⟩, d⟩)
   clear WK FI d k0 k3 k4
   go_wp2
   go_end0
   exact D3.out
  by_cases y2 : y = 2
  ·subst y2
   have WK := Lib.hid (rwipe_walk s.r 0 (s.w : Int) wr.drew RD.out rw2 (by omega) (by omega) (by omega))
   have FI := Lib.hid (show ∀ e w', RDone p g (eraseS s s.r 0 (s.w : Int)) wr.drew e w' → RDone p g (rowE s 2) wr e w' from fun e w' d => FIN.out e w' (by unfold rowE; rw [if_neg (by decide), if_neg (by decide), if_pos rfl]; exact RDone.behind (Below.refl wr.heap.size wr).drew d))
   clear FIN RW RD rw2 rw3 rh2 hc2
   go_wp2_with fail
   refine wp_region_still_tail 10 (by kernel_rfl) (by kernel_rfl) ?_
   rw [show ({ wr with drawn := wr.drawn + 1 } : World) = wr.drew from rfl]
   generalize wr.drew = wd at k0 k3 k4 WK FI ⊢
   simp only [List.take_succ_cons, List.take_zero, List.drop_succ_cons, List.drop_zero]
   repeat still_step
   refine wpStill_nil ?_
   go_wp2_with fail
   refine WK.out.mono ?_
   rintro e w3 ⟨⟨_, rfl⟩, d⟩
   have D3 := Lib.hid (FI.out _ _ ⟨⟨.tuple #[], rfl⟩, d⟩)
   clear WK FI d k0 k3 k4
   go_wp2
   go_end0
   exact D3.out
  have b0 : (y == 0) = false := by simpa using y0
  have b1 : (y == 1) = false := by simpa using y1
  have b2 : (y == 2) = false := by simpa using y2
  have D3 := Lib.hid (FIN.out (.returned (.tuple #[])) wr (by unfold rowE; rw [if_neg y0, if_neg y1, if_neg y2]; exact ⟨⟨_, rfl⟩, g, RW.out.to⟩))
  clear FIN RW RD rw2 rw3 rh2 hc2 y0 y1 y2 k0 k3 k4
  go_wp2
  go_end0
  exact D3.out
theorem rcsiJ_walk (A : Option Addr) (n c : Nat) (l : List Int) (w : World) (h : RAt w p g cap tail s xs) (hcol : s.c < s.w) (ARG : Kept1 w p g A n l) : Calls Tryz.prog 71 #[ptrS p, .int .i32 74, .slice A n c] w fun e w' => RDone p g (actS s 74 l) w e w' := by
 have hq := ARG w (Turned.refl _ _)
 have AG := Lib.hid (arg_walk A n c l 0 1 w hq)
 have AG0 := Lib.hid (arg_walk A n c l 0 0 w hq)
 obtain ⟨m, hm⟩ : ∃ m, argL l 0 1 = m := ⟨_, rfl⟩
 rw [hm] at AG
 obtain ⟨y, hy⟩ : ∃ y, nth l 0 = y := ⟨_, rfl⟩
 rw [argL_zero, hy] at AG0
 have eA : actS s 74 l = (scrE s y) := by rw [← hy]; rfl
 rw [eA]
 have H := Lib.hid h
 have HCOL := Lib.hid hcol
 have k1 : w.cell? ⟨p, 1, none⟩ = some (.int .i64 (s.rows.length : Int)) := h.get 1
 have h1 := h.ok.h1
 have h100 := h.ok.h2
 have hpos : (0 : Int) < (s.rows.length : Int) := by omega
 clear h hm hy hq ARG eA hcol
 go_enter Tryz.func71, Tryz.ntmps71
 go_wp2_with fail
 refine AG.out.mono ?_
 rintro e w' ⟨rfl, e1⟩
 subst w'
 clear AG
 go_wp2_with fail
 refine AG0.out.mono ?_
 rintro e w' ⟨rfl, e1⟩
 subst w'
 clear AG0
 go_wp2_with fail
 have I0 := Lib.hid (show RTo p g (jS s y 0) w g w from by rw [jS_zero]; exact H.out.to)
 obtain ⟨hh, hhh⟩ : ∃ hh, s.rows.length = hh := ⟨_, rfl⟩
 rw [hhh] at h1 h100
 have HH := Lib.hid hhh
 clear k1 hpos hhh
 go_loopw [8] (fun i wr => ∃ k : Nat, i = .int .i64 (k : Int) ∧ k ≤ hh ∧ Hid (RTo p g (jS s y k) w g wr)) (fun i _ => hh - (intOf i).toNat)
 case atStart => exact ⟨0, rfl, Nat.zero_le _, I0⟩
 case round =>
  obtain ⟨i, rfl, hi, I⟩ := hrel
  clear I0
  obtain ⟨cap1, tl1, xs1, R1'⟩ := I.out.at'
  have R1 := Lib.hid R1'
  have jw := jS_w s y i
  obtain ⟨sj, hsj⟩ : ∃ sj, jS s y i = sj := ⟨_, rfl⟩
  rw [hsj] at I R1 R1' jw
  rw [HH.out] at jw
  have hcj : sj.c < sj.w := by have := HCOL.out; omega
  have k1 : wr.cell? ⟨p, 1, none⟩ = some (.int .i64 (hh : Int)) := by have := R1.out.get 1; rw [← jw.2.1]; exact this
  clear R1'
  by_cases hih : i < hh
  ·have hih' : (i : Int) < (hh : Int) := by omega
   have k0 : wr.cell? ⟨p, 0, none⟩ = some (.int .i64 (s.w : Int)) := by have := R1.out.get 0; rw [← jw.1]; exact this
   have k3 : wr.cell? ⟨p, 3, none⟩ = some (.int .i64 (s.r : Int)) := by have := R1.out.get 3; rw [← jw.2.2.1]; exact this
   have WK := Lib.hid (rwipe_walk0 i 0 (s.w : Int) wr R1.out (by omega) (by omega) (by omega) (by omega))
   have hinc : IntKind.i64.wrap ((i : Int) + 1) = (i : Int) + 1 := IntWalk.i64_in _ (by omega)
   have EQ := Lib.hid (And.intro hsj jw)
   obtain ⟨sr0, hsr0⟩ : ∃ sr0, s.r = sr0 := ⟨_, rfl⟩
   have SR := Lib.hid hsr0
   obtain ⟨sw0, hsw0⟩ : ∃ sw0, s.w = sw0 := ⟨_, rfl⟩
   have SW := Lib.hid hsw0
   rw [hsr0] at k3
   rw [hsw0] at k0 WK
   clear R1 hsj jw hcj hsr0 hsw0
   by_cases y2 : y = 2
   ·subst y2
    have NX := Lib.hid (show jS s 2 (i + 1) = eraseS sj i 0 (sw0 : Int) from by rw [jS_two, EQ.out.1, SW.out])
    clear EQ SR SW
    go_wp2_with fail
    refine WK.out.mono ?_
    rintro e w3 ⟨⟨_, rfl⟩, d⟩
    have N3 := Lib.hid (show RTo p g (jS s 2 (i + 1)) w g w3 from by
     rw [NX.out]
     exact I.out.trans d)
    clear WK d k0 k1 k3 I NX
    go_wp2
    go_roundw
    case rel => exact ⟨i + 1, by first | rfl | (congr 1; done) | (congr 1; omega), by omega, N3⟩
    case measure => first | (simp [intOf]; done) | (simp [intOf]; omega)
   have b2 : (y == 2) = false := by simpa using y2
   by_cases y0 : y = 0
   ·subst y0
    by_cases hir : sr0 < i
    ·have hir' : (sr0 : Int) < (i : Int) := by omega
     have NX := Lib.hid (show jS s 0 (i + 1) = eraseS sj i 0 (sw0 : Int) from by rw [jS_below _ _ (by rw [SR.out]; exact hir), EQ.out.1, SW.out])
     clear EQ SR SW
     go_wp2_with fail
     refine WK.out.mono ?_
     rintro e w3 ⟨⟨_, rfl⟩, d⟩
     have N3 := Lib.hid (show RTo p g (jS s 0 (i + 1)) w g w3 from by
      rw [NX.out]
      exact I.out.trans d)
     clear WK d k0 k1 k3 I NX
     go_wp2
     go_roundw
     case rel => exact ⟨i + 1, by first | rfl | (congr 1; done) | (congr 1; omega), by omega, N3⟩
     case measure => first | (simp [intOf]; done) | (simp [intOf]; omega)
    ·have hir' : ¬ (sr0 : Int) < (i : Int) := by omega
     have NX := Lib.hid (show jS s 0 (i + 1) = sj from by rw [jS_below' _ _ (by rw [SR.out]; exact hir), EQ.out.1])
     clear EQ SR SW WK
     have N3 := Lib.hid (show RTo p g (jS s 0 (i + 1)) w g wr from by rw [NX.out]; exact I.out)
     clear I NX
     go_wp2
     go_roundw
     case rel => exact ⟨i + 1, by first | rfl | (congr 1; done) | (congr 1; omega), by omega, N3⟩
     case measure => first | (simp [intOf]; done) | (simp [intOf]; omega)
   have b0 : (y == 0) = false := by simpa using y0
   by_cases y1 : y = 1
   ·subst y1
    by_cases hir : i < sr0
    ·have hir' : (i : Int) < (sr0 : Int) := by omega
     have NX := Lib.hid (show jS s 1 (i + 1) = eraseS sj i 0 (sw0 : Int) from by rw [jS_above _ _ (by rw [SR.out]; exact hir), EQ.out.1, SW.out])
     clear EQ SR SW
     go_wp2_with fail
     refine WK.out.mono ?_
     rintro e w3 ⟨⟨_, rfl⟩, d⟩
     have N3 := Lib.hid (show RTo p g (jS s 1 (i + 1)) w g w3 from by
      rw [NX.out]
      exact I.out.trans d)
     clear WK d k0 k1 k3 I NX
     go_wp2
     go_roundw
     case rel => exact ⟨i + 1, by first | rfl | (congr 1; done) | (congr 1; omega), by omega, N3⟩
     case measure => first | (simp [intOf]; done) | (simp [intOf]; omega)
    ·have hir' : ¬ (i : Int) < (sr0 : Int) := by omega
     have NX := Lib.hid (show jS s 1 (i + 1) = sj from by rw [jS_above' _ _ (by rw [SR.out]; exact hir), EQ.out.1])
     clear EQ SR SW WK
     have N3 := Lib.hid (show RTo p g (jS s 1 (i + 1)) w g wr from by rw [NX.out]; exact I.out)
     clear I NX
     go_wp2
     go_roundw
     case rel => exact ⟨i + 1, by first | rfl | (congr 1; done) | (congr 1; omega), by omega, N3⟩
     case measure => first | (simp [intOf]; done) | (simp [intOf]; omega)
   have b1 : (y == 1) = false := by simpa using y1
   have NX := Lib.hid (show jS s y (i + 1) = sj from by rw [jS_none _ _ _ y0 y1 y2, EQ.out.1])
   clear y0 y1 y2
   clear EQ SR SW WK
   have N3 := Lib.hid (show RTo p g (jS s y (i + 1)) w g wr from by rw [NX.out]; exact I.out)
   clear I NX
   go_wp2
   go_roundw
   case rel => exact ⟨i + 1, by first | rfl | (congr 1; done) | (congr 1; omega), by omega, N3⟩
   case measure => first | (simp [intOf]; done) | (simp [intOf]; omega)
  ·obtain rfl : i = hh := by omega
   have hih' : ¬ (i : Int) < (i : Int) := by omega
   have RW := R1
   have hc2 := hcj
   have FIN := Lib.hid (show ∀ e w', RDone p g (rowE sj y) wr e w' → RDone p g (scrE s y) w e w' from fun e w' d => by
    obtain ⟨e1, g', d⟩ := d
    have e2 := jS_all s y H.out.ok.row
    rw [HH.out, hsj] at e2
    rw [← e2]
    exact ⟨e1, g', I.out.trans d⟩)
   clear I R1 hsj jw hcj
   have rw2 := RW.out.ok.row
   have rw3 := RW.out.ok.w3
   have rh2 := RW.out.ok.h2
   have RD := Lib.hid (RW.out.laid (Below.refl wr.heap.size wr).drew)
   have k0 : wr.drew.cell? ⟨p, 0, none⟩ = some (.int .i64 (sj.w : Int)) := RD.out.get 0
   have k3 : wr.drew.cell? ⟨p, 3, none⟩ = some (.int .i64 (sj.r : Int)) := RD.out.get 3
   have k4 : wr.drew.cell? ⟨p, 4, none⟩ = some (.int .i64 (sj.c : Int)) := RD.out.get 4
   by_cases y0 : y = 0
   ·subst y0
    have WK := Lib.hid (rwipe_walk sj.r (sj.c : Int) (sj.w : Int) wr.drew RD.out rw2 (by omega) (by omega) (by omega))
    have FI := Lib.hid (show ∀ e w', RDone p g (eraseS sj sj.r (sj.c : Int) (sj.w : Int)) wr.drew e w' → RDone p g (scrE s 0) w e w' from fun e w' d => FIN.out e w' (by unfold rowE; rw [if_pos rfl]; exact RDone.behind (Below.refl wr.heap.size wr).drew d))
    clear FIN RW RD rw2 rw3 rh2 hc2
    go_wp2_with fail
    refine wp_region_still_tail 15 (by kernel_rfl) (by kernel_rfl) ?_
    rw [show ({ wr with drawn := wr.drawn + 1 } : World) = wr.drew from rfl]
    generalize wr.drew = wd at k0 k3 k4 WK FI ⊢
    simp only [List.take_succ_cons, List.take_zero, List.drop_succ_cons, List.drop_zero]
    repeat still_step
    refine wpStill_nil ?_
    go_wp2_with fail
    refine WK.out.mono ?_
    rintro e w3 ⟨⟨_, rfl⟩, d⟩
    have D3 := Lib.hid (FI.out _ _ ⟨⟨.tuple #[], rfl⟩, d⟩)
    clear WK FI d k0 k3 k4
    go_wp2
    go_end0
    exact D3.out
   by_cases y1 : y = 1
   ·subst y1
    have hs1 : IntKind.i64.wrap ((sj.c : Int) + 1) = (sj.c : Int) + 1 := IntWalk.i64_in _ (by omega)
    have WK := Lib.hid (rwipe_walk sj.r 0 ((sj.c : Int) + 1) wr.drew RD.out rw2 (by omega) (by omega) (by omega))
    have FI := Lib.hid (show ∀ e w', RDone p g (eraseS sj sj.r 0 ((sj.c : Int) + 1)) wr.drew e w' → RDone p g (scrE s 1) w e w' from fun e w' d => FIN.out e w' (by unfold rowE; rw [if_neg (by decide), if_pos rfl]; exact RDone.behind (Below.refl wr.heap.size wr).drew d))
    clear FIN RW RD rw2 rw3 rh2 hc2
    go_wp2_with fail
    refine wp_region_still_tail 12 (by kernel_rfl) (by kernel_rfl) ?_
    rw [show ({ wr with drawn := wr.drawn + 1 } : World) = wr.drew from rfl]
    generalize wr.drew = wd at k0 k3 k4 WK FI ⊢
    simp only [List.take_succ_cons, List.take_zero, List.drop_succ_cons, List.drop_zero]
    repeat still_step
    refine wpStill_nil ?_
    go_wp2_with fail
    refine WK.out.mono ?_
    rintro e w3 ⟨⟨_, rfl⟩, d⟩
    have D3 := Lib.hid (FI.out _ _ ⟨⟨.tuple #[], rfl⟩, d⟩)
    clear WK FI d k0 k3 k4
    go_wp2
    go_end0
    exact D3.out
   by_cases y2 : y = 2
   ·subst y2
    have WK := Lib.hid (rwipe_walk sj.r 0 (sj.w : Int) wr.drew RD.out rw2 (by omega) (by omega) (by omega))
    have FI := Lib.hid (show ∀ e w', RDone p g (eraseS sj sj.r 0 (sj.w : Int)) wr.drew e w' → RDone p g (scrE s 2) w e w' from fun e w' d => FIN.out e w' (by unfold rowE; rw [if_neg (by decide), if_neg (by decide), if_pos rfl]; exact RDone.behind (Below.refl wr.heap.size wr).drew d))
    clear FIN RW RD rw2 rw3 rh2 hc2
    go_wp2_with fail
    refine wp_region_still_tail 10 (by kernel_rfl) (by kernel_rfl) ?_
    rw [show ({ wr with drawn := wr.drawn + 1 } : World) = wr.drew from rfl]
    generalize wr.drew = wd at k0 k3 k4 WK FI ⊢
    simp only [List.take_succ_cons, List.take_zero, List.drop_succ_cons, List.drop_zero]
    repeat still_step
    refine wpStill_nil ?_
    go_wp2_with fail
    refine WK.out.mono ?_
    rintro e w3 ⟨⟨_, rfl⟩, d⟩
    have D3 := Lib.hid (FI.out _ _ ⟨⟨.tuple #[], rfl⟩, d⟩)
    clear WK FI d k0 k3 k4
    go_wp2
    go_end0
    exact D3.out
   have b0 : (y == 0) = false := by simpa using y0
   have b1 : (y == 1) = false := by simpa using y1
   have b2 : (y == 2) = false := by simpa using y2
   have D3 := Lib.hid (FIN.out (.returned (.tuple #[])) wr (by unfold rowE; rw [if_neg y0, if_neg y1, if_neg y2]; exact ⟨⟨_, rfl⟩, g, RW.out.to⟩))
   clear FIN RW RD rw2 rw3 rh2 hc2 y0 y1 y2 k0 k3 k4
   go_wp2
   go_end0
   exact D3.out
end
end Sc
namespace Sc
open Rw
theorem RTold.behind {p g : Nat} {s' : Scr} {out : List SR} {w w1 : World} {e : Ending} {w' : World} (hb : Below w.heap.size w w1) (h : RTold p g s' out w1 e w') : RTold p g s' out w e w' :=
 let ⟨v, ys, g', h1, h2, h3⟩ := h; ⟨v, ys, g', h1, RTo.behind hb h2, h3⟩
theorem RTold.after {p g g1 : Nat} {s1 s' : Scr} {out : List SR} {w w1 : World} {e : Ending} {w' : World} (k : RTo p g s1 w g1 w1) (h : RTold p g1 s' out w1 e w') : RTold p g s' out w e w' :=
 let ⟨v, ys, g', h1, h2, h3⟩ := h; ⟨v, ys, g', h1, k.trans h2, h3⟩
theorem RDone.told {p g g1 : Nat} {s1 s' : Scr} {w w1 : World} {e : Ending} {w' : World} (k : RTo p g s1 w g1 w1) (h : RDone p g1 s' w1 e w') : RTold p g s' [] w (.returned (.slice none 0 0)) w' :=
 let ⟨_, _, h2⟩ := h; rtold_none (k.trans h2)
theorem knows_iff {r : Int} (h : knows r = true) : r = 65 ∨ r = 66 ∨ r = 67 ∨ r = 68 ∨ r = 72 ∨ r = 74 ∨ r = 75 ∨ r = 109 := by
 unfold knows at h
 simp only [Bool.or_eq_true, beq_iff_eq] at h
 omega
theorem knows_not {r : Int} (h : knows r = false) : r ≠ 65 ∧ r ≠ 66 ∧ r ≠ 67 ∧ r ≠ 68 ∧ r ≠ 72 ∧ r ≠ 74 ∧ r ≠ 75 ∧ r ≠ 109 := by
 unfold knows at h
 simp only [Bool.or_eq_false_iff, beq_eq_false_iff_ne] at h
 omega
theorem leaveS_eq (s : Scr) : leaveS s = { s with c := min s.c (s.w - 1) } := rfl
theorem rdo_walk {p g cap : Nat} {tail : List Value} {s : Scr} {xs : List RowIn} (k r : Int) (A : Option Addr) (n c : Nat) (str : ByteArray) (l : List Int) (w : World) (hr0 : -2147483648 ≤ r) (hr1 : r ≤ 2147483647) (hn : n ≤ 1000000) (h : RAt w p g cap tail s xs) (hl : Few l) (ARG : Kept1 w p g A n l) :
  Calls Tryz.prog 21 #[ptrS p, .agg #[.int .i64 k, .int .i32 r, .slice A n c, .string str]] w fun e w' => RTold p g (doS s k r l) (doO s k r) w e w' := by
 obtain ⟨b3, hb3⟩ : ∃ b3, w.heap.size = b3 := ⟨_, rfl⟩
 obtain ⟨w1, hw1⟩ : ∃ w1, w.alloc (.cells #[.int .i64 k, .int .i32 r, .slice A n c, .string str] 27) = w1 := ⟨_, rfl⟩
 have b1 : Below w.heap.size w w1 := by rw [← hw1]; exact (Below.refl _ _).alloc (Nat.le_refl _) _
 have e1 : w1.heap[b3]? = some (.cells #[.int .i64 k, .int .i32 r, .slice A n c, .string str] 27 (0, 0)) := by rw [← hw1, ← hb3]; exact heap_alloc_new w _
 have H := Lib.hid (h.laid b1)
 have B1 := Lib.hid b1
 have E1 := Lib.hid e1
 have AR := Lib.hid (show Kept1 w1 p g A n l from fun W ht => ARG W ((Turned.ofBelow b1 _).trans ht (fun _ _ m => m)))
 have FW := Lib.hid hl
 have HB := Lib.hid hb3
 have HW := Lib.hid hw1
 have q0 : w1.cell? ⟨b3, 0, none⟩ = some (.int .i64 k) := cell_of_row _ b3 0 _ _ (0, 0) e1
 have q1 : w1.cell? ⟨b3, 1, none⟩ = some (.int .i32 r) := cell_of_row _ b3 1 _ _ (0, 0) e1
 have q2 : w1.cell? ⟨b3, 2, none⟩ = some (.slice A n c) := cell_of_row _ b3 2 _ _ (0, 0) e1
 have hw2 := h.ok.w2
 have hw3 := h.ok.w3
 have hcol := h.ok.col
 have NONE := Lib.hid (show RTold p g s [] w (.returned (.slice none 0 0)) w1 from rtold_none (RTo.behind b1 H.out.to))
 clear hb3 hw1 b1 e1 h hl ARG
 go_enter Tryz.func21, Tryz.ntmps21
 go_upto_region 1 with fail
 rw [HB.out]
 first
  | rw [HW.out]
  | (change Code.wp _ _ _ _ (w.alloc (.cells #[.int .i64 k, .int .i32 r, .slice A n c, .string str] 27)); rw [HW.out])
 clear HB HW
 by_cases k1 : k = 1
 ·subst k1
  have PW := Lib.hid (rprint_walk r hr0 hr1 w1 H.out)
  have eS : doS s 1 r l = printS s r := rfl
  have eO : doO s 1 r = printO s r := rfl
  have ES := Lib.hid eS
  have EO := Lib.hid eO
  clear NONE H hw2 hw3 hcol AR FW E1 q2 eS eO
  go_wp2_with fail
  refine PW.out.mono ?_
  rintro e w2 ⟨v, ys, g', rfl, d⟩
  have D := Lib.hid (RTold.behind B1.out (show RTold p g (printS s r) (printO s r) w1 (.returned v) w2 from ⟨v, ys, g', rfl, d⟩))
  clear PW d q0 q1
  go_wp2
  go_ret
  first | (rw [ES.out, EO.out]; exact D.out) | exact D.out
 have kb1 : (k == 1) = false := by simpa using k1
 by_cases k2 : k = 2
 ·subst k2
  have eS : doS s 2 r l = ctrlS s r := rfl
  have eO : doO s 2 r = ctrlO s r := rfl
  have ES := Lib.hid eS
  have EO := Lib.hid eO
  clear eS eO
  by_cases e8 : r = 8
  ·subst e8
   have p4 : w1.cell? ⟨p, 4, none⟩ = some (.int .i64 (s.c : Int)) := H.out.get 4
   have pf4 : w1.frozen? ⟨p, 4, none⟩ = false := H.out.free 4
   have hs1 : IntKind.i64.wrap ((s.c : Int) - 1) = (s.c : Int) - 1 := IntWalk.i64_in _ (by omega)
   obtain ⟨X, hX⟩ : ∃ X : Nat, max 0 ((s.c : Int) - 1) = (X : Int) := ⟨s.c - 1, by omega⟩
   have D := Lib.hid (show RTold p g (ctrlS s 8) (ctrlO s 8) w (.returned (.slice none 0 0)) (w1.setCell ⟨p, 4, none⟩ (.int .i64 (X : Int))) from by
    have e : ctrlS s 8 = { s with c := X } := by show ({ s with c := s.c - 1 } : Scr) = _; rw [show s.c - 1 = X by omega]
    rw [e]
    exact rtold_none (RTo.cell B1.out (H.out.setCol (by omega))))
   generalize (s.c : Int) = sc0 at p4 hs1 hX
   clear NONE H hw2 hw3 hcol AR FW E1 q2 k1
   go_wp2
   go_ret
   first | (rw [ES.out, EO.out]; exact D.out) | exact D.out
  by_cases e9 : r = 9
  ·subst e9
   have HD := Lib.hid (H.out.laid (Below.refl _ _).drew)
   have p0 : w1.drew.cell? ⟨p, 0, none⟩ = some (.int .i64 (s.w : Int)) := HD.out.get 0
   have p4 : w1.drew.cell? ⟨p, 4, none⟩ = some (.int .i64 (s.c : Int)) := HD.out.get 4
   have pf4 : w1.drew.frozen? ⟨p, 4, none⟩ = false := HD.out.free 4
   have D := Lib.hid (show ∀ X : Int, X = ((min ((s.c / 8 + 1) * 8) (s.w - 1) : Nat) : Int) → RTold p g (ctrlS s 9) (ctrlO s 9) w (.returned (.slice none 0 0)) (w1.drew.setCell ⟨p, 4, none⟩ (.int .i64 X)) from fun X hX => by
    subst hX
    exact rtold_none (RTo.cell B1.out.drew (HD.out.setCol (c := min ((s.c / 8 + 1) * 8) (s.w - 1)) (by omega))))
   have hq : (s.c : Int).tdiv 8 = ((s.c / 8 : Nat) : Int) := by simp
   have hq8 : s.c / 8 ≤ 300 := by omega
   generalize s.c / 8 = q at hq hq8 D
   have h1 : IntKind.i64.wrap (q : Int) = (q : Int) := IntWalk.i64_in _ (by omega)
   have h2 : IntKind.i64.wrap ((q : Int) + 1) = (q : Int) + 1 := IntWalk.i64_in _ (by omega)
   have h3 : IntKind.i64.wrap (((q : Int) + 1) * 8) = ((q : Int) + 1) * 8 := IntWalk.i64_in _ (by omega)
   have hw : IntKind.i64.wrap ((s.w : Int) - 1) = (s.w : Int) - 1 := IntWalk.i64_in _ (by omega)
   generalize s.w = sw at p0 hw D hw2 hw3 hcol
   generalize s.c = sc at p4 hq D hcol
   clear NONE H HD AR FW E1 q2 e8 k1
   go_wp2_with fail
   go_region
   all_goals go_wp2
   all_goals go_ret
   all_goals first | (rw [ES.out, EO.out]; exact D.out _ (by omega)) | exact D.out _ (by omega)
  by_cases e10 : r = 10
  ·subst e10
   have HD := Lib.hid (H.out.laid (Below.refl _ _).drew)
   have p0 : w1.drew.cell? ⟨p, 0, none⟩ = some (.int .i64 (s.w : Int)) := HD.out.get 0
   have p4 : w1.drew.cell? ⟨p, 4, none⟩ = some (.int .i64 (s.c : Int)) := HD.out.get 4
   have pf4 : w1.drew.frozen? ⟨p, 4, none⟩ = false := HD.out.free 4
   have hs1 : IntKind.i64.wrap ((s.w : Int) - 1) = (s.w : Int) - 1 := IntWalk.i64_in _ (by omega)
   obtain ⟨X, hX⟩ : ∃ X : Nat, min (s.c : Int) ((s.w : Int) - 1) = (X : Int) := ⟨min s.c (s.w - 1), by omega⟩
   have R2 := Lib.hid (show RAt (w1.drew.setCell ⟨p, 4, none⟩ (.int .i64 (X : Int))) p g cap tail (leaveS s) xs from by
    rw [leaveS_eq, show min s.c (s.w - 1) = X by omega]
    exact HD.out.setCol (by omega))
   have T2 := Lib.hid (show RTo p g (leaveS s) w g (w1.drew.setCell ⟨p, 4, none⟩ (.int .i64 (X : Int))) from RTo.cell B1.out.drew R2.out)
   have E2 := Lib.hid (show (w1.drew.setCell ⟨p, 4, none⟩ (.int .i64 (X : Int))).heap[b3]? = some (.cells #[.int .i64 2, .int .i32 10, .slice A n c, .string str] 27 (0, 0)) from (Below.heap_setCell _ _ _ _ (by exact (show Typed w1 27 b3 from ⟨_, _, E1.out⟩).apart H.out.typ (by decide))).trans E1.out)
   have A2 := Lib.hid (show Kept1 (w1.drew.setCell ⟨p, 4, none⟩ (.int .i64 (X : Int))) p g A n l from fun W ht => AR.out W (((Turned.ofBelow (Below.refl _ _).drew _).trans ((Turned.ofCell p 4 _ _).mono fun _ _ e => .inl e) (fun _ _ m => m)).trans ht (fun _ _ m => m)))
   generalize (s.w : Int) = sw0 at p0 hs1 hX
   generalize (s.c : Int) = sc0 at p4 hX
   clear NONE H HD AR E1 hw2 hw3 hcol
   have ES2 := Lib.hid (show doS s 2 10 l = downS (leaveS s) from rfl)
   have EO2 := Lib.hid (show doO s 2 10 = downO (leaveS s) from rfl)
   go_wp2_with fail
   go_region
   obtain ⟨w2, hw2'⟩ : ∃ w2, w1.drew.setCell ⟨p, 4, none⟩ (.int .i64 (X : Int)) = w2 := ⟨_, rfl⟩
   change Exit.then _ _ Exit.normal _ (w1.drew.setCell ⟨p, 4, none⟩ (.int .i64 (X : Int)))
   rw [hw2'] at R2 T2 E2 A2 ⊢
   clear hw2'
   have DW := Lib.hid (rdown_walk w2 R2.out)
   clear R2 E2 p0 p4 pf4 hs1 hX
   go_wp2_with fail
   refine DW.out.mono ?_
   rintro e w3 ⟨v, ys, g', rfl, d⟩
   have D := Lib.hid (RTold.after T2.out (show RTold p g (downS (leaveS s)) (downO (leaveS s)) w2 (.returned v) w3 from ⟨v, ys, g', rfl, d⟩))
   clear DW d T2
   go_wp2
   go_ret
   rw [ES2.out, EO2.out]; exact D.out
  by_cases e13 : r = 13
  ·subst e13
   have p4 : w1.cell? ⟨p, 4, none⟩ = some (.int .i64 (s.c : Int)) := H.out.get 4
   have pf4 : w1.frozen? ⟨p, 4, none⟩ = false := H.out.free 4
   have D := Lib.hid (show RTold p g (ctrlS s 13) (ctrlO s 13) w (.returned (.slice none 0 0)) (w1.setCell ⟨p, 4, none⟩ (.int .i64 0)) from rtold_none (RTo.cell B1.out (H.out.setCol (c := 0) (by omega))))
   generalize (s.c : Int) = sc0 at p4
   clear NONE H hw2 hw3 hcol AR FW E1 q2 k1 e8 e9 e10
   go_wp2
   go_ret
   first | (rw [ES.out, EO.out]; exact D.out) | exact D.out
  have eS2 : ctrlS s r = s := by unfold ctrlS; rw [if_neg e8, if_neg e9, if_neg e10, if_neg e13]
  have eO2 : ctrlO s r = [] := by unfold ctrlO; rw [if_neg e10]
  have ES2 := Lib.hid (ES.out.trans eS2)
  have EO2 := Lib.hid (EO.out.trans eO2)
  have b8 : (r == 8) = false := by simpa using e8
  have b9 : (r == 9) = false := by simpa using e9
  have b10 : (r == 10) = false := by simpa using e10
  have b13 : (r == 13) = false := by simpa using e13
  clear H hw2 hw3 hcol AR FW E1 q2 eS2 eO2 e8 e9 e10 e13 k1
  go_wp2
  go_ret
  rw [ES2.out, EO2.out]; exact NONE.out
 have kb2 : (k == 2) = false := by simpa using k2
 by_cases k3 : k = 3
 ·subst k3
  have eO : doO s 3 r = [] := rfl
  have EO := Lib.hid eO
  obtain ⟨bk, hbk⟩ : ∃ bk, knows r = bk := ⟨_, rfl⟩
  cases bk with
  | false =>
   have eS : doS s 3 r l = s := by show csiS s r l = s; unfold csiS; rw [hbk]; rfl
   have ES := Lib.hid eS
   obtain ⟨n1, n2, n3, n4, n5, n6, n7, n8⟩ := knows_not hbk
   have c1 : (r == 65) = false := by simpa using n1
   have c2 : (r == 66) = false := by simpa using n2
   have c3 : (r == 67) = false := by simpa using n3
   have c4 : (r == 68) = false := by simpa using n4
   have c5 : (r == 72) = false := by simpa using n5
   have c6 : (r == 74) = false := by simpa using n6
   have c7 : (r == 75) = false := by simpa using n7
   have c8 : (r == 109) = false := by simpa using n8
   clear H hw2 hw3 hcol AR FW E1 q2 eS eO n1 n2 n3 n4 n5 n6 n7 n8 hbk k1 k2
   go_wp2
   go_ret
   first | (rw [ES.out, EO.out]; exact NONE.out) | exact NONE.out
  | true =>
   have eS : doS s 3 r l = actS (leaveS s) r l := by show csiS s r l = _; unfold csiS; rw [hbk]; rfl
   have ES := Lib.hid eS
   have hk := knows_iff hbk
   clear eS eO hbk k1 k2
   have LC := Lib.hid (H.out.ok.leave_col)
   have HD := Lib.hid (H.out.laid (Below.refl _ _).drew)
   have p0 : w1.drew.cell? ⟨p, 0, none⟩ = some (.int .i64 (s.w : Int)) := HD.out.get 0
   have p4 : w1.drew.cell? ⟨p, 4, none⟩ = some (.int .i64 (s.c : Int)) := HD.out.get 4
   have pf4 : w1.drew.frozen? ⟨p, 4, none⟩ = false := HD.out.free 4
   have hs1 : IntKind.i64.wrap ((s.w : Int) - 1) = (s.w : Int) - 1 := IntWalk.i64_in _ (by omega)
   obtain ⟨X, hX⟩ : ∃ X : Nat, min (s.c : Int) ((s.w : Int) - 1) = (X : Int) := ⟨min s.c (s.w - 1), by omega⟩
   have R2 := Lib.hid (show RAt (w1.drew.setCell ⟨p, 4, none⟩ (.int .i64 (X : Int))) p g cap tail (leaveS s) xs from by
    rw [leaveS_eq, show min s.c (s.w - 1) = X by omega]
    exact HD.out.setCol (by omega))
   have T2 := Lib.hid (show RTo p g (leaveS s) w g (w1.drew.setCell ⟨p, 4, none⟩ (.int .i64 (X : Int))) from RTo.cell B1.out.drew R2.out)
   have E2 := Lib.hid (show (w1.drew.setCell ⟨p, 4, none⟩ (.int .i64 (X : Int))).heap[b3]? = some (.cells #[.int .i64 3, .int .i32 r, .slice A n c, .string str] 27 (0, 0)) from (Below.heap_setCell _ _ _ _ (by exact (show Typed w1 27 b3 from ⟨_, _, E1.out⟩).apart H.out.typ (by decide))).trans E1.out)
   have A2 := Lib.hid (show Kept1 (w1.drew.setCell ⟨p, 4, none⟩ (.int .i64 (X : Int))) p g A n l from fun W ht => AR.out W (((Turned.ofBelow (Below.refl _ _).drew _).trans ((Turned.ofCell p 4 _ _).mono fun _ _ e => .inl e) (fun _ _ m => m)).trans ht (fun _ _ m => m)))
   generalize (s.w : Int) = sw0 at p0 hs1 hX
   generalize (s.c : Int) = sc0 at p4 hX
   clear NONE H HD AR E1 hw2 hw3 hcol
   rcases hk with rfl | rfl | rfl | rfl | rfl | rfl | rfl | rfl
   ·go_wp2_with fail
    go_region
    obtain ⟨w2, hw2'⟩ : ∃ w2, w1.drew.setCell ⟨p, 4, none⟩ (.int .i64 (X : Int)) = w2 := ⟨_, rfl⟩
    change Exit.then _ _ Exit.normal _ (w1.drew.setCell ⟨p, 4, none⟩ (.int .i64 (X : Int)))
    rw [hw2'] at R2 T2 E2 A2 ⊢
    clear hw2'
    have CW := Lib.hid (rcsiA_walk A n c l w2 R2.out LC.out FW.out A2.out)
    have u1 : w2.cell? ⟨b3, 1, none⟩ = some (.int .i32 65) := cell_of_row _ b3 1 _ _ (0, 0) E2.out
    have u2 : w2.cell? ⟨b3, 2, none⟩ = some (.slice A n c) := cell_of_row _ b3 2 _ _ (0, 0) E2.out
    clear R2 E2 A2 FW p0 p4 pf4 hs1 hX q0 q1 q2
    go_wp2_with fail
    refine CW.out.mono ?_
    rintro e w3 ⟨⟨_, rfl⟩, g3, d⟩
    have D := Lib.hid (RDone.told (s' := actS (leaveS s) 65 l) (e := .returned (.tuple #[])) T2.out ⟨⟨_, rfl⟩, g3, d⟩)
    clear CW d T2 u1 u2
    go_wp2
    go_ret
    first | (rw [ES.out, EO.out]; exact D.out) | exact D.out
   ·go_wp2_with fail
    go_region
    obtain ⟨w2, hw2'⟩ : ∃ w2, w1.drew.setCell ⟨p, 4, none⟩ (.int .i64 (X : Int)) = w2 := ⟨_, rfl⟩
    change Exit.then _ _ Exit.normal _ (w1.drew.setCell ⟨p, 4, none⟩ (.int .i64 (X : Int)))
    rw [hw2'] at R2 T2 E2 A2 ⊢
    clear hw2'
    have CW := Lib.hid (rcsiB_walk A n c l w2 R2.out LC.out FW.out A2.out)
    have u1 : w2.cell? ⟨b3, 1, none⟩ = some (.int .i32 66) := cell_of_row _ b3 1 _ _ (0, 0) E2.out
    have u2 : w2.cell? ⟨b3, 2, none⟩ = some (.slice A n c) := cell_of_row _ b3 2 _ _ (0, 0) E2.out
    clear R2 E2 A2 FW p0 p4 pf4 hs1 hX q0 q1 q2
    go_wp2_with fail
    refine CW.out.mono ?_
    rintro e w3 ⟨⟨_, rfl⟩, g3, d⟩
    have D := Lib.hid (RDone.told (s' := actS (leaveS s) 66 l) (e := .returned (.tuple #[])) T2.out ⟨⟨_, rfl⟩, g3, d⟩)
    clear CW d T2 u1 u2
    go_wp2
    go_ret
    first | (rw [ES.out, EO.out]; exact D.out) | exact D.out
   ·go_wp2_with fail
    go_region
    obtain ⟨w2, hw2'⟩ : ∃ w2, w1.drew.setCell ⟨p, 4, none⟩ (.int .i64 (X : Int)) = w2 := ⟨_, rfl⟩
    change Exit.then _ _ Exit.normal _ (w1.drew.setCell ⟨p, 4, none⟩ (.int .i64 (X : Int)))
    rw [hw2'] at R2 T2 E2 A2 ⊢
    clear hw2'
    have CW := Lib.hid (rcsiC_walk A n c l w2 R2.out LC.out FW.out A2.out)
    have u1 : w2.cell? ⟨b3, 1, none⟩ = some (.int .i32 67) := cell_of_row _ b3 1 _ _ (0, 0) E2.out
    have u2 : w2.cell? ⟨b3, 2, none⟩ = some (.slice A n c) := cell_of_row _ b3 2 _ _ (0, 0) E2.out
    clear R2 E2 A2 FW p0 p4 pf4 hs1 hX q0 q1 q2
    go_wp2_with fail
    refine CW.out.mono ?_
    rintro e w3 ⟨⟨_, rfl⟩, g3, d⟩
    have D := Lib.hid (RDone.told (s' := actS (leaveS s) 67 l) (e := .returned (.tuple #[])) T2.out ⟨⟨_, rfl⟩, g3, d⟩)
    clear CW d T2 u1 u2
    go_wp2
    go_ret
    first | (rw [ES.out, EO.out]; exact D.out) | exact D.out
   ·go_wp2_with fail
    go_region
    obtain ⟨w2, hw2'⟩ : ∃ w2, w1.drew.setCell ⟨p, 4, none⟩ (.int .i64 (X : Int)) = w2 := ⟨_, rfl⟩
    change Exit.then _ _ Exit.normal _ (w1.drew.setCell ⟨p, 4, none⟩ (.int .i64 (X : Int)))
    rw [hw2'] at R2 T2 E2 A2 ⊢
    clear hw2'
    have CW := Lib.hid (rcsiD_walk A n c l w2 R2.out LC.out FW.out A2.out)
    have u1 : w2.cell? ⟨b3, 1, none⟩ = some (.int .i32 68) := cell_of_row _ b3 1 _ _ (0, 0) E2.out
    have u2 : w2.cell? ⟨b3, 2, none⟩ = some (.slice A n c) := cell_of_row _ b3 2 _ _ (0, 0) E2.out
    clear R2 E2 A2 FW p0 p4 pf4 hs1 hX q0 q1 q2
    go_wp2_with fail
    refine CW.out.mono ?_
    rintro e w3 ⟨⟨_, rfl⟩, g3, d⟩
    have D := Lib.hid (RDone.told (s' := actS (leaveS s) 68 l) (e := .returned (.tuple #[])) T2.out ⟨⟨_, rfl⟩, g3, d⟩)
    clear CW d T2 u1 u2
    go_wp2
    go_ret
    first | (rw [ES.out, EO.out]; exact D.out) | exact D.out
   ·go_wp2_with fail
    go_region
    obtain ⟨w2, hw2'⟩ : ∃ w2, w1.drew.setCell ⟨p, 4, none⟩ (.int .i64 (X : Int)) = w2 := ⟨_, rfl⟩
    change Exit.then _ _ Exit.normal _ (w1.drew.setCell ⟨p, 4, none⟩ (.int .i64 (X : Int)))
    rw [hw2'] at R2 T2 E2 A2 ⊢
    clear hw2'
    have CW := Lib.hid (rcsiH_walk A n c l w2 R2.out FW.out A2.out)
    have u1 : w2.cell? ⟨b3, 1, none⟩ = some (.int .i32 72) := cell_of_row _ b3 1 _ _ (0, 0) E2.out
    have u2 : w2.cell? ⟨b3, 2, none⟩ = some (.slice A n c) := cell_of_row _ b3 2 _ _ (0, 0) E2.out
    clear R2 E2 A2 FW p0 p4 pf4 hs1 hX q0 q1 q2
    go_wp2_with fail
    refine CW.out.mono ?_
    rintro e w3 ⟨⟨_, rfl⟩, g3, d⟩
    have D := Lib.hid (RDone.told (s' := actS (leaveS s) 72 l) (e := .returned (.tuple #[])) T2.out ⟨⟨_, rfl⟩, g3, d⟩)
    clear CW d T2 u1 u2
    go_wp2
    go_ret
    first | (rw [ES.out, EO.out]; exact D.out) | exact D.out
   ·go_wp2_with fail
    go_region
    obtain ⟨w2, hw2'⟩ : ∃ w2, w1.drew.setCell ⟨p, 4, none⟩ (.int .i64 (X : Int)) = w2 := ⟨_, rfl⟩
    change Exit.then _ _ Exit.normal _ (w1.drew.setCell ⟨p, 4, none⟩ (.int .i64 (X : Int)))
    rw [hw2'] at R2 T2 E2 A2 ⊢
    clear hw2'
    have CW := Lib.hid (rcsiJ_walk A n c l w2 R2.out LC.out A2.out)
    have u1 : w2.cell? ⟨b3, 1, none⟩ = some (.int .i32 74) := cell_of_row _ b3 1 _ _ (0, 0) E2.out
    have u2 : w2.cell? ⟨b3, 2, none⟩ = some (.slice A n c) := cell_of_row _ b3 2 _ _ (0, 0) E2.out
    clear R2 E2 A2 FW p0 p4 pf4 hs1 hX q0 q1 q2
    go_wp2_with fail
    refine CW.out.mono ?_
    rintro e w3 ⟨⟨_, rfl⟩, g3, d⟩
    have D := Lib.hid (RDone.told (s' := actS (leaveS s) 74 l) (e := .returned (.tuple #[])) T2.out ⟨⟨_, rfl⟩, g3, d⟩)
    clear CW d T2 u1 u2
    go_wp2
    go_ret
    first | (rw [ES.out, EO.out]; exact D.out) | exact D.out
   ·go_wp2_with fail
    go_region
    obtain ⟨w2, hw2'⟩ : ∃ w2, w1.drew.setCell ⟨p, 4, none⟩ (.int .i64 (X : Int)) = w2 := ⟨_, rfl⟩
    change Exit.then _ _ Exit.normal _ (w1.drew.setCell ⟨p, 4, none⟩ (.int .i64 (X : Int)))
    rw [hw2'] at R2 T2 E2 A2 ⊢
    clear hw2'
    have CW := Lib.hid (rcsiK_walk A n c l w2 R2.out LC.out A2.out)
    have u1 : w2.cell? ⟨b3, 1, none⟩ = some (.int .i32 75) := cell_of_row _ b3 1 _ _ (0, 0) E2.out
    have u2 : w2.cell? ⟨b3, 2, none⟩ = some (.slice A n c) := cell_of_row _ b3 2 _ _ (0, 0) E2.out
    clear R2 E2 A2 FW p0 p4 pf4 hs1 hX q0 q1 q2
    go_wp2_with fail
    refine CW.out.mono ?_
    rintro e w3 ⟨⟨_, rfl⟩, g3, d⟩
    have D := Lib.hid (RDone.told (s' := actS (leaveS s) 75 l) (e := .returned (.tuple #[])) T2.out ⟨⟨_, rfl⟩, g3, d⟩)
    clear CW d T2 u1 u2
    go_wp2
    go_ret
    first | (rw [ES.out, EO.out]; exact D.out) | exact D.out
   ·go_wp2_with fail
    go_region
    obtain ⟨w2, hw2'⟩ : ∃ w2, w1.drew.setCell ⟨p, 4, none⟩ (.int .i64 (X : Int)) = w2 := ⟨_, rfl⟩
    change Exit.then _ _ Exit.normal _ (w1.drew.setCell ⟨p, 4, none⟩ (.int .i64 (X : Int)))
    rw [hw2'] at R2 T2 E2 A2 ⊢
    clear hw2'
    have CW := Lib.hid (rcsiM_walk A n c l w2 hn R2.out FW.out A2.out)
    have u1 : w2.cell? ⟨b3, 1, none⟩ = some (.int .i32 109) := cell_of_row _ b3 1 _ _ (0, 0) E2.out
    have u2 : w2.cell? ⟨b3, 2, none⟩ = some (.slice A n c) := cell_of_row _ b3 2 _ _ (0, 0) E2.out
    clear R2 E2 A2 FW p0 p4 pf4 hs1 hX q0 q1 q2
    go_wp2_with fail
    refine CW.out.mono ?_
    rintro e w3 ⟨⟨_, rfl⟩, g3, d⟩
    have D := Lib.hid (RDone.told (s' := actS (leaveS s) 109 l) (e := .returned (.tuple #[])) T2.out ⟨⟨_, rfl⟩, g3, d⟩)
    clear CW d T2 u1 u2
    go_wp2
    go_ret
    first | (rw [ES.out, EO.out]; exact D.out) | exact D.out
 have kb3 : (k == 3) = false := by simpa using k3
 have eS : doS s k r l = s := by unfold doS; rw [if_neg k1, if_neg k2, if_neg k3]
 have eO : doO s k r = [] := by unfold doO; rw [if_neg k1, if_neg k2]
 have ES := Lib.hid eS
 have EO := Lib.hid eO
 clear H hw2 hw3 hcol AR FW E1 q1 q2 eS eO k1 k2 k3
 go_wp2
 go_ret
 first | (rw [ES.out, EO.out]; exact NONE.out) | exact NONE.out
end Sc
