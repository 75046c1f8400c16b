import Derived.Test.YtgcfpfhmjhkgnaaGreatDoorQLaw0
set_option maxRecDepth 100000
set_option maxHeartbeats 3200000
namespace Go.Proofs.YtgcfpfhmjhkgnaaGreatDoor
open Go.ChangeShapes Go.WideShapes Go.ChangeAt Go.RowKit
namespace Sc
open Rw
theorem knows_low {r : Int} (h : r < 0 ∨ 128 ≤ r) : knows r = false := by
 unfold knows
 simp only [Bool.or_eq_false_iff, beq_eq_false_iff_ne]
 omega
theorem csiAll_walk {p g : Nat} {s : Scr} {xs : List RowIn} (r : Int) (A : Option Addr) (n c : Nat) (l : List Int) (w : World) (hn : n ≤ 1000000) (hs : Spans w) (h : ScAt w p g s xs) (ARG : ∀ W ys, Went w W p g xs ys → Sq W W.heap.size 1 n A (l.map (Value.int .i64))) : Calls Tryz.prog 43 #[ptrS p, .int .i32 r, .slice A n c] w fun e w' => Done p g (csiS s r l) xs w e w' := by
 by_cases hr : 0 ≤ r ∧ r < 128
 ·exact csi_walk r A n c l w hr hn hs h ARG
 ·have CR := Lib.hid (contains_high r w (by omega))
  have eS : csiS s r l = s := by unfold csiS; rw [knows_low (by omega)]; rfl
  rw [eS]
  have H := Lib.hid h
  clear h hs ARG eS hr
  go_enter Tryz.func43, Tryz.ntmps43
  go_wp2_with fail
  refine CR.out.mono ?_
  rintro e w' ⟨rfl, b⟩
  have D := Lib.hid (show Done p g s xs w (.returned (.tuple #[])) w' from ⟨⟨_, rfl⟩, xs, H.out.laid b, Went.laid b⟩)
  clear CR b H
  go_wp2
  go_end0
  exact D.out
theorem doAll_walk {p g : Nat} {s : Scr} {xs : List RowIn} (k r : Int) (A : Option Addr) (n c : Nat) (str : ByteArray) (l : List Int) (w : World) (hr0 : -2147483648 ≤ r) (hr1 : r ≤ 2147483647) (hn : n ≤ 1000000) (hs : Spans w) (h : ScAt w p g s xs) (ARG : ∀ W ys, Went w W p g xs ys → Sq W W.heap.size 1 n A (l.map (Value.int .i64))) :
  Calls Tryz.prog 17 #[ptrS p, .agg #[.int .i64 k, .int .i32 r, .slice A n c, .string str]] w fun e w' => Told p g (doS s k r l) (doO s k r) s.w xs w e w' :=
 do_walk k r A n c str l w h (fun _ W hb => print_walk r hr0 hr1 W (hs.below hb hs.size) (h.laid hb)) (fun _ W hb => control_walk r W (hs.below hb hs.size) (h.laid hb))
  (fun _ W hb => csiAll_walk r A n c l W hn (hs.below hb hs.size) (h.laid hb) (fun W' ys a => ARG W' ys ((Went.laid hb).trans a)))
end Sc
