import Derived.Test.YtmpoboffdfcpiaaGreatDoorQBase5
set_option maxRecDepth 100000
set_option maxHeartbeats 1600000
namespace Go.Proofs.YtmpoboffdfcpiaaGreatDoor
open Go.ChangeShapes Go.WideShapes Go.ChangeAt Go.RowKit
namespace Sc
open Rw
structure Wp (w0 : World) (p g : Nat) (s : Scr) (xs : List RowIn) (W : World) : Prop where
 old : Below w0.heap.size w0 W
 p0 : w0.heap.size ≤ p
 g0 : w0.heap.size ≤ g
 scr : ScAt W p g s xs
 spans : Spans W
namespace Wp
variable {w0 W W' : World} {p g : Nat} {s s' : Scr} {xs xs' : List RowIn}
theorem step (h : Wp w0 p g s xs W) (hs : ScAt W' p g s' xs') (hw : Went W W' p g xs xs') : Wp w0 p g s' xs' W' :=
 ⟨h.old.trans (hw.turned.toBelow h.old.size (fun k hk m => by have := h.p0; have := h.g0; omega)), h.p0, h.g0, hs, spans_went h.spans h.scr hw⟩
theorem laid (h : Wp w0 p g s xs W) (hb : Below W.heap.size W W') : Wp w0 p g s xs W' := h.step (h.scr.laid hb) (Went.laid hb)
theorem beside (h : Wp w0 p g s xs W) {p2 g2 : Nat} {s2 : Scr} {ys ys' : List RowIn} (k : Wp w0 p2 g2 s2 ys W) (hp : p ≠ p2) (hg : g ≠ g2) (hw : Went W W' p2 g2 ys ys') : Wp w0 p g s xs W' :=
 ⟨h.old.trans (hw.turned.toBelow h.old.size (fun j hj m => by have := k.p0; have := k.g0; omega)), h.p0, h.g0, h.scr.kept hw.turned (fun m => by
  rcases m with e | e
  ·exact hp e
  ·exact (h.scr.typ.apart k.scr.tyg (by decide)) e) (fun m => by
  rcases m with e | e
  ·exact (h.scr.tyg.apart k.scr.typ (by decide)) e
  ·exact hg e) k.scr.noC, spans_went k.spans k.scr hw⟩
end Wp
theorem eql_pos (x y : Int) (w : World) : (binOp .eql 24 (.agg #[.int .i64 x, .int .i64 y]) (.agg #[.int .i64 x, .int .i64 y])).run Tryz.prog w = .ok (.bool true) w := by
 have h1 : (x == x) = true := by simp
 have h2 : (y == y) = true := by simp
 go_simp
end Sc
namespace Sc
open Rw
theorem size_walk {p g : Nat} {s : Scr} {xs : List RowIn} (w : World) (h : ScAt w p g s xs) : Calls Tryz.prog 63 #[ptrS p] w fun e w' => e = .returned (.tuple #[.int .i64 (s.w : Int), .int .i64 (s.rows.length : Int)]) ∧ Below w.heap.size w w' := by
 have k0 : w.drew.cell? ⟨p, 0, none⟩ = some (.int .i64 (s.w : Int)) := h.get 0
 have k1 : w.drew.cell? ⟨p, 1, none⟩ = some (.slice (some ⟨g, 0, none⟩) s.rows.length s.rows.length) := h.get 1
 have B := Lib.hid (Below.refl w.heap.size w).drew
 clear h
 go_enter Tryz.func63, Tryz.ntmps63
 go_wp2_with fail
 go_region
 all_goals go_wp2
 all_goals exact bodyPost_ret (v := .tuple #[.int .i64 (s.w : Int), .int .i64 (s.rows.length : Int)]) (by simp [results, Tryz.results63, go_sem]) rfl ⟨rfl, B.out⟩
theorem attr_walk {p g : Nat} {s : Scr} {xs : List RowIn} (w : World) (h : ScAt w p g s xs) : Calls Tryz.prog 64 #[ptrS p] w fun e w' => e = .returned (.int .i64 s.a) ∧ w = w' := by
 have k4 : w.cell? ⟨p, 4, none⟩ = some (.int .i64 s.a) := h.get 4
 clear h
 go_enter Tryz.func64, Tryz.ntmps64
 go_wp2
 go_ret
 exact ⟨rfl, rfl⟩
theorem doO_len (s : Scr) (k r : Int) : (doO s k r).length ≤ 1 := by
 have hd : ∀ s : Scr, (downO s).length ≤ 1 := fun s => by
  unfold downO
  split
  ·exact Nat.zero_le _
  ·exact List.length_take_le _ _
 unfold doO printO roomO wrapO ctrlO
 repeat' split
 all_goals first | exact Nat.zero_le _ | exact hd _
end Sc
