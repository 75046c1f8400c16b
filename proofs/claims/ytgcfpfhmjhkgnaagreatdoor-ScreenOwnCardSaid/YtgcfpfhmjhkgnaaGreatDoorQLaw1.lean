/-
  A screen beside what stood before it: what the statements of layer 9 share. screen: Size, Attr; the rows that go out.
-/
import Derived.Test.YtgcfpfhmjhkgnaaGreatDoorQBase9
import Derived.Test.YtgcfpfhmjhkgnaaGreatDoorQLaw0
import Derived.Test.YtgcfpfhmjhkgnaaGreatDoorQBegun0
namespace Go.Proofs.YtgcfpfhmjhkgnaaGreatDoor
open Go.ChangeShapes Go.WideShapes Go.ChangeAt Go.RowKit
namespace Sc
open Rw
structure Wp (w0 : World) (p g : Nat) (s : Scr) (xs : List RowIn) (W : World) : Prop where
 old : Below w0.heap.size w0 W
 p0 : w0.heap.size ≤ p
 g0 : w0.heap.size ≤ g
 scr : ScAt W p g s xs
 spans : Spans W
namespace Wp
variable {w0 W W' : World} {p g : Nat} {s s' : Scr} {xs xs' : List RowIn}
theorem step (h : Wp w0 p g s xs W) (hs : ScAt W' p g s' xs') (hw : Went W W' p g xs xs') : Wp w0 p g s' xs' W' :=
 ⟨h.old.trans (hw.turned.toBelow h.old.size (fun k hk m => by have := h.p0; have := h.g0; omega)), h.p0, h.g0, hs, spans_went h.spans h.scr hw⟩
theorem laid (h : Wp w0 p g s xs W) (hb : Below W.heap.size W W') : Wp w0 p g s xs W' := h.step (h.scr.laid hb) (Went.laid hb)
theorem beside (h : Wp w0 p g s xs W) {p2 g2 : Nat} {s2 : Scr} {ys ys' : List RowIn} (k : Wp w0 p2 g2 s2 ys W) (hp : p ≠ p2) (hg : g ≠ g2) (hw : Went W W' p2 g2 ys ys') : Wp w0 p g s xs W' :=
 ⟨h.old.trans (hw.turned.toBelow h.old.size (fun j hj m => by have := k.p0; have := k.g0; omega)), h.p0, h.g0, h.scr.kept hw.turned (fun m => by
  rcases m with e | e
  ·exact hp e
  ·exact (h.scr.typ.apart k.scr.tyg (by decide)) e) (fun m => by
  rcases m with e | e
  ·exact (h.scr.tyg.apart k.scr.typ (by decide)) e
  ·exact hg e) k.scr.noC, spans_went k.spans k.scr hw⟩
theorem do' (h : Wp w0 p g s xs W) (k r : Int) (A : Option Addr) (n c : Nat) (str : ByteArray) (l : List Int) (hr0 : -2147483648 ≤ r) (hr1 : r ≤ 2147483647) (h3 : k = 3 → 0 ≤ r ∧ r < 128) (hn : n ≤ 1000000) (ARG : ∀ W' ys, Went W W' p g xs ys → Sq W' W'.heap.size 1 n A (l.map (Value.int .i64))) :
  Calls Tryz.prog 17 #[ptrS p, .agg #[.int .i64 k, .int .i32 r, .slice A n c, .string str]] W fun e W' => ∃ Ao co xs', e = .returned (.slice Ao (doO s k r).length co) ∧ Wp w0 p g (doS s k r l) xs' W' ∧ Went W W' p g xs xs' := by
 refine (doAny_walk k r A n c str l W hr0 hr1 h3 hn h.spans h.scr ARG).mono ?_
 rintro e W' ⟨v, ys, xs', rfl, h1, h2, h3, ho, _⟩
 obtain ⟨A', c', rfl, _⟩ := h3.shape
 exact ⟨A', c', xs', by rw [← ho, List.length_map], h.step h1 h2, h2⟩
theorem new' (wd h : Int) (hB : Below w0.heap.size w0 W) (hs : Spans W) : Calls Tryz.prog 15 #[.int .i64 wd, .int .i64 h] W fun e W' => ∃ p g xs, e = .returned (ptrS p) ∧ Wp w0 p g (newS wd h) xs W' ∧ W.heap.size ≤ p ∧ W.heap.size ≤ g ∧ Below W.heap.size W W' := by
 refine (new_walk wd h W).mono ?_
 rintro e w3 ⟨p, g, xs, rfl, h3, hp, hg, hx3, b3⟩
 exact ⟨p, g, xs, rfl, ⟨hB.trans (b3.mono hB.size), by have := hB.size; omega, by have := hB.size; omega, h3, hs.below b3 hs.size⟩, hp, hg, b3⟩
end Wp
end Sc
end Go.Proofs.YtgcfpfhmjhkgnaaGreatDoor
namespace Go.Proofs.YtgcfpfhmjhkgnaaGreatDoor
open Go.ChangeShapes Go.WideShapes Go.ChangeAt Go.RowKit
namespace Sc
open Rw
theorem doO_len (s : Scr) (k r : Int) : (doO s k r).length ≤ 1 := by
 have hd : ∀ s : Scr, (downO s).length ≤ 1 := fun s => by
  unfold downO
  split
  ·exact Nat.zero_le _
  ·exact List.length_take_le _ _
 unfold doO printO roomO wrapO ctrlO
 repeat' split
 all_goals first | exact Nat.zero_le _ | exact hd _
end Sc
end Go.Proofs.YtgcfpfhmjhkgnaaGreatDoor
