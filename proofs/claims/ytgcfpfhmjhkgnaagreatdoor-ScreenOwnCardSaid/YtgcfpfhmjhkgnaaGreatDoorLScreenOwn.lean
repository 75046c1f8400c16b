/-
  The statement ScreenOwn: what a screen tells is the caller's own: written into, it leaves the screen, and another one that was told the same, as they were. For every list of signs (of which the statement reads the first forty); it holds where the table of widths is as its initialiser lays it, which the card ties to the program's text.
-/
import Derived.Test.YtgcfpfhmjhkgnaaGreatDoorQBegun0
import Derived.Test.YtgcfpfhmjhkgnaaGreatDoorQBase4
import Derived.Test.YtgcfpfhmjhkgnaaGreatDoorQSum0
import Derived.Test.YtgcfpfhmjhkgnaaGreatDoorQLaw1
import Derived.Test.YtgcfpfhmjhkgnaaGreatDoorQBase9
import Derived.Test.YtgcfpfhmjhkgnaaGreatDoorQRefRow1
namespace Go.Proofs.YtgcfpfhmjhkgnaaGreatDoor.screenOwn
open Go.ChangeShapes Go.WideShapes Go.ChangeAt Go.RowKit
open Sc Rw
theorem own_cells {w : World} {B : Nat} {e : TypeId} {s n c : Nat} {A : Option Addr} {xs : List Value} (h : w.ownsRow B e s (.slice A n c) n xs) (hn : 0 < n) :
  ∃ g, A = some ⟨g, 0, none⟩ ∧ B ≤ g ∧ (∀ j, j < n * s → ∃ u, w.cell? ⟨g, j, none⟩ = some u) ∧ (∀ j, w.frozen? ⟨g, j, none⟩ = false) ∧ Typed w e g ∧ ∀ j u, (w.setCell ⟨g, j, none⟩ u).ownsRow B e s (.slice A n c) n (xs.set j u) := by
 obtain ⟨g, c', ev, _, hB, _, _⟩ := own_at h hn
 injection ev with e1 e2 e3
 subst e1 e3
 refine ⟨g, rfl, hB, fun j hj => ?_, fun j => h.frozenAt j, ?_, fun j u => (h.stored j u).1⟩
 ·rw [h.cellAt j hj]
  have hl : j < xs.length := by rw [h.1]; exact hj
  exact ⟨xs[j], List.getElem?_eq_getElem hl⟩
 ·rcases h.2 with ⟨e, _⟩ | ⟨g', cap, cur, e, _, e3, _⟩
  ·cases e
  ·injection e with e
   injection e with e
   injection e with e
   subst e
   exact ⟨_, _, e3⟩
theorem own_kept {W W' : World} {B : Nat} {e : TypeId} {s n : Nat} {v : Value} {xs : List Value} (h : W.ownsRow B e s v n xs) (hk : ∀ k, v.ownBlock = some k → W'.heap[k]? = W.heap[k]?) : W'.ownsRow B e s v n xs := by
 refine ⟨h.1, ?_⟩
 rcases h.2 with e | ⟨g, cap, cur, e, e2, e3, r⟩
 ·exact .inl e
 ·exact .inr ⟨g, cap, cur, e, e2, (hk g (by rw [e]; rfl)).trans e3, r⟩
theorem own_typ {W : World} {B : Nat} {e : TypeId} {s n : Nat} {v : Value} {xs : List Value} (h : W.ownsRow B e s v n xs) : ∀ k, v.ownBlock = some k → Typed W e k := by
 intro k hk
 rcases h.2 with ⟨e, _⟩ | ⟨g, cap, cur, e, _, e3, _⟩
 ·rw [e] at hk; cases hk
 ·rw [e] at hk
  injection hk with hk
  subst hk
  exact ⟨_, _, e3⟩
def Own3 (B : Nat) (W : World) (x : RowIn) : Prop := 0 < x.n ∧ ∃ xs, W.ownsRow B 33 3 (.slice x.A x.n x.c) x.n xs
theorem Own3.laid {B : Nat} {W W' : World} {x : RowIn} (h : Own3 B W x) (b : Below W.heap.size W W') : Own3 B W' x := let ⟨h0, xs, h⟩ := h; ⟨h0, xs, own_kept h (fun k e => b.block k (World.ownsRow.lt h k e).2)⟩
theorem Own3.put {B : Nat} {W : World} {x : RowIn} (h : Own3 B W x) (gg j : Nat) (u : Value) : Own3 B (W.setCell ⟨gg, j, none⟩ u) x := by
 obtain ⟨h0, xs, h⟩ := h
 obtain ⟨g, hA, hB, _, _, _, hset⟩ := own_cells h h0
 by_cases e : g = gg
 ·subst e
  exact ⟨h0, _, hset j u⟩
 ·exact ⟨h0, xs, own_kept h (fun k hk => (OnlyRow.cell gg j W u).block k (fun e' => e (by rw [hA] at hk; injection hk with hk; exact (show g = k from hk).trans e')))⟩
def Low (w0 : World) (x : RowIn) : Prop := ∃ k, x.A = some ⟨k, 0, none⟩ ∧ w0.heap.size ≤ k
def Off (zs xs : List RowIn) : Prop := ∀ z ∈ zs, ∀ x ∈ xs, x.A ≠ z.A
theorem aside {W : World} {p g : Nat} {s : Scr} {xs : List RowIn} (h : ScAt W p g s xs) {gg j : Nat} {u : Value} (hty : Typed W 33 gg) (hx : ∀ x ∈ xs, x.A ≠ some ⟨gg, 0, none⟩) : ScAt (W.setCell ⟨gg, j, none⟩ u) p g s xs := by
 have O := OnlyRow.cell gg j W u
 refine ⟨h.ok, h.same, (O.block p (h.typ.apart hty (by decide))).trans h.scr, (O.block g (h.tyg.apart hty (by decide))).trans h.rows, fun x hx' => ⟨HasC.keep (h.each x hx').1 (fun k e => O.block k (fun e' => ?_)), (h.each x hx').2⟩, h.apart⟩
 obtain ⟨k0, hk0, _, _⟩ := fresh_row (h.each x hx').1 (by rw [(h.each x hx').2]; have := h.ok.w2; omega)
 rw [hk0] at e
 injection e with e
 exact hx x hx' (by rw [hk0, show k0 = gg from (show k0 = k from e).trans e'])
structure Pair (w0 : World) (p g : Nat) (sa : Scr) (xs : List RowIn) (q h : Nat) (sb : Scr) (ys : List RowIn) (W : World) : Prop where
 a : Wp w0 p g sa xs W
 b : Wp w0 q h sb ys W
 np : p ≠ q
 ng : g ≠ h
 lx : ∀ x ∈ xs, Low w0 x
 ly : ∀ y ∈ ys, Low w0 y
 off : Off xs ys
namespace Pair
variable {w0 W W' : World} {p g q h : Nat} {sa sb : Scr} {xs ys : List RowIn}
theorem swap (H : Pair w0 p g sa xs q h sb ys W) : Pair w0 q h sb ys p g sa xs W := ⟨H.b, H.a, H.np.symm, H.ng.symm, H.ly, H.lx, fun z hz x hx e => H.off x hx z hz e.symm⟩
theorem laid (H : Pair w0 p g sa xs q h sb ys W) (b : Below W.heap.size W W') : Pair w0 p g sa xs q h sb ys W' := ⟨H.a.laid b, H.b.laid b, H.np, H.ng, H.lx, H.ly, H.off⟩
theorem blk {p g : Nat} {s : Scr} {xs : List RowIn} (H : ScAt W p g s xs) {x : RowIn} (hx : x ∈ xs) : ∃ k, x.A = some ⟨k, 0, none⟩ ∧ k < W.heap.size := by
 obtain ⟨k, e, _, hl⟩ := fresh_row (H.each x hx).1 (by rw [(H.each x hx).2]; have := H.ok.w2; omega)
 exact ⟨k, e, hl⟩
end Pair
structure Out (w0 : World) (B wd : Nat) (v : Value) (ya : List RowIn) (R : List SR) (W : World) : Prop where
 rows : RowsIn W B v ya
 same : ya.map sr = R
 each : ∀ y ∈ ya, y.n = wd ∧ ∃ k, y.A = some ⟨k, 0, none⟩ ∧ w0.heap.size ≤ k ∧ k < W.heap.size
theorem Out.keep {w0 W W' : World} {B wd : Nat} {v : Value} {ya : List RowIn} {R : List SR} {M : Nat → Prop} (h : Out w0 B wd v ya R W) (ht : Turned M W W') (hv : ∀ k, v.ownBlock = some k → ¬ M k) (hc : ∀ k, M k → ¬ Typed W 33 k) : Out w0 B wd v ya R W' :=
 ⟨h.rows.turned ht hv hc, h.same, fun y hy => let ⟨e, k, ek, h1, h2⟩ := h.each y hy; ⟨e, k, ek, h1, Nat.lt_of_lt_of_le h2 ht.size⟩⟩
theorem Out.laid {w0 W W' : World} {B wd : Nat} {v : Value} {ya : List RowIn} {R : List SR} (h : Out w0 B wd v ya R W) (b : Below W.heap.size W W') : Out w0 B wd v ya R W' := h.keep (M := fun _ => False) (Turned.ofBelow b _) (fun _ _ h => h) (fun _ h => h.elim)
abbrev evV (r : Int) : Value := .agg #[.int .i64 1, .int .i32 r, .slice none 0 0, .string .empty]
theorem Pair.do' {w0 W : World} {p g q h : Nat} {sa sb : Scr} {xs ys : List RowIn} (H : Pair w0 p g sa xs q h sb ys W) (r : Int) (hr0 : -2147483648 ≤ r) (hr1 : r ≤ 2147483647) :
  Calls Tryz.prog 17 #[ptrS p, evV r] W fun e W' => ∃ A m c xs' ya, e = .returned (.slice A m c) ∧ Pair w0 p g (doS sa 1 r []) xs' q h sb ys W' ∧ Out w0 W.heap.size sa.w (.slice A m c) ya (doO sa 1 r) W' ∧ Off ya xs' ∧ Off ya ys ∧ Went W W' p g xs xs' := by
 refine (doAny_walk 1 r none 0 0 .empty [] W hr0 hr1 (fun e => by cases e) (by omega) H.a.spans H.a.scr (fun _ _ _ => Sq.nothing _ _ _ _)).mono ?_
 rintro e W' ⟨v, ya, xs', rfl, h1, h2, h3, h4, h5⟩
 obtain ⟨A, c, rfl, _⟩ := h3.shape
 have old := H.a.old.size
 have bk : ∀ y ∈ ya, ∃ k, y.A = some ⟨k, 0, none⟩ ∧ w0.heap.size ≤ k ∧ k < W'.heap.size := fun y hy => by
  have hp : 0 < y.n := by rw [(h5 y hy).1]; have := H.a.scr.ok.w2; omega
  obtain ⟨k, hk, _, hlt⟩ := fresh_row (h3.each y hy).1 hp
  refine ⟨k, hk, ?_, hlt⟩
  rcases (h5 y hy).2.1 with ⟨z, hz, e⟩ | ⟨k', e, hk'⟩
  ·obtain ⟨k', e', hl⟩ := H.lx z hz
   rw [e', hk] at e
   injection e with e
   injection e with e
   omega
  ·rw [hk] at e
   injection e with e
   injection e with e
   omega
 have offY : ∀ x : RowIn, ((∃ z ∈ xs, z.A = x.A) ∨ ∃ k, x.A = some ⟨k, 0, none⟩ ∧ W.heap.size ≤ k) → ∀ y ∈ ys, y.A ≠ x.A := fun x hx y hy e => by
  rcases hx with ⟨z, hz, e2⟩ | ⟨k, e2, hk⟩
  ·exact H.off z hz y hy (e.trans e2.symm)
  ·obtain ⟨k', e3, hl⟩ := Pair.blk H.b.scr hy
   rw [e3, e2] at e
   injection e with e
   injection e with e
   omega
 refine ⟨A, _, c, xs', ya, rfl, ⟨H.a.step h1 h2, H.b.beside H.a H.np.symm H.ng.symm h2, H.np, H.ng, fun x hx => ?_, H.ly, fun x hx => offY x (h2.from' x hx)⟩, ⟨h3, h4, fun y hy => ⟨(h5 y hy).1, bk y hy⟩⟩, fun y hy x hx => (h5 y hy).2.2 x hx, fun y hy => offY y (h5 y hy).2.1, h2⟩
 rcases h2.from' x hx with ⟨z, hz, e⟩ | ⟨k, e, hk⟩
 ·obtain ⟨k, e', hl⟩ := H.lx z hz
  exact ⟨k, e ▸ e', hl⟩
 ·exact ⟨k, e, by omega⟩
structure Both (w0 : World) (p g q h B : Nat) (s : Scr) (A8 : Option Addr) (m8 c8 : Nat) (A9 : Option Addr) (m9 c9 : Nat) (R : List SR) (xs ys ya yb : List RowIn) (W : World) : Prop where
 pr : Pair w0 p g s xs q h s ys W
 a : Out w0 B s.w (.slice A8 m8 c8) ya R W
 b : Out w0 B s.w (.slice A9 m9 c9) yb R W
 ax : Off ya xs
 ay : Off ya ys
theorem Pair.both {w0 W : World} {p g q h B : Nat} {sa sb : Scr} {xs ys ya : List RowIn} {A8 : Option Addr} {m8 c8 : Nat} {R : List SR} (H : Pair w0 p g sa xs q h sb ys W) (O : Out w0 B sa.w (.slice A8 m8 c8) ya R W) (hx : Off ya xs) (hy : Off ya ys) (hB : g < B ∧ h < B) (r : Int) (hr0 : -2147483648 ≤ r) (hr1 : r ≤ 2147483647)
  (hB1 : B ≤ W.heap.size) :
  Calls Tryz.prog 17 #[ptrS q, evV r] W fun e W' => ∃ A m c ys' yb, e = .returned (.slice A m c) ∧ Pair w0 p g sa xs q h (doS sb 1 r []) ys' W' ∧ Out w0 B sa.w (.slice A8 m8 c8) ya R W' ∧ Out w0 B sb.w (.slice A m c) yb (doO sb 1 r) W' ∧ Off ya xs ∧ Off ya ys' ∧ Went W W' q h ys ys' := by
 refine (H.swap.do' r hr0 hr1).mono ?_
 rintro e W' ⟨A, m, c, ys', yb, rfl, P', O', _, _, hw'⟩
 refine ⟨A, m, c, ys', yb, rfl, P'.swap, O.keep hw'.turned (fun k hk m => ?_) H.b.scr.noC, ⟨⟨own_down O'.rows.own hB1, O'.rows.each⟩, O'.same, O'.each⟩, hx, fun y hy' x hx' => ?_, hw'⟩
 ·have hty := O.rows.typed k hk
  have hlt := (O.rows.lt k hk).1
  rcases m with rfl | rfl
  ·exact H.b.scr.typ.apart hty (by decide) rfl
  ·omega
 ·rcases hw'.from' x hx' with ⟨z, hz, e⟩ | ⟨k, e, hk⟩
  ·exact e ▸ hy y hy' z hz
  ·obtain ⟨_, k', e2, _, hl⟩ := O.each y hy'
   intro e3
   rw [e, e2] at e3
   injection e3 with e3
   injection e3 with e3
   omega
structure Loose (w0 : World) (p g q h : Nat) (s : Scr) (xs ys : List RowIn) (A : Option Addr) (N c : Nat) (zs : List RowIn) (W : World) : Prop where
 pr : Pair w0 p g s xs q h s ys W
 hd : W.ownsRow 0 24 2 (.slice A N c) N (zs.flatMap RowIn.vals)
 each : ∀ z ∈ zs, Own3 w0.heap.size W z ∧ z.n ≤ 300
 ax : Off zs xs
 ay : Off zs ys
namespace Loose
variable {w0 W W' : World} {p g q h N c : Nat} {s : Scr} {xs ys zs : List RowIn} {A : Option Addr}
theorem laid (H : Loose w0 p g q h s xs ys A N c zs W) (b : Below W.heap.size W W') : Loose w0 p g q h s xs ys A N c zs W' :=
 ⟨H.pr.laid b, own_kept H.hd (fun k e => b.block k (World.ownsRow.lt H.hd k e).2), fun z hz => ⟨(H.each z hz).1.laid b, (H.each z hz).2⟩, H.ax, H.ay⟩
theorem put1 (S : Spans w0) (H : Loose w0 p g q h s xs ys A N c zs W) {z : RowIn} (hz : z ∈ zs) {gg : Nat} (hA : z.A = some ⟨gg, 0, none⟩) (j : Nat) (u : Value) : Loose w0 p g q h s xs ys A N c zs (W.setCell ⟨gg, j, none⟩ u) := by
 obtain ⟨h0, vs, hv⟩ := (H.each z hz).1
 obtain ⟨g', hA', hB, _, _, hty, _⟩ := own_cells hv h0
 obtain rfl : g' = gg := by
  rw [hA] at hA'
  injection hA' with e
  injection e with e
  exact e.symm
 have hO : ∀ {W : World}, Below w0.heap.size w0 W → Below w0.heap.size w0 (W.setCell ⟨g', j, none⟩ u) := fun hb => hb.setCell (p := ⟨g', j, none⟩) hB _
 have hx : ∀ x ∈ xs, x.A ≠ some ⟨g', 0, none⟩ := fun x hx e => H.ax z hz x hx (e.trans hA.symm)
 have hy : ∀ y ∈ ys, y.A ≠ some ⟨g', 0, none⟩ := fun y hy e => H.ay z hz y hy (e.trans hA.symm)
 have P := H.pr
 refine ⟨⟨⟨hO P.a.old, P.a.p0, P.a.g0, aside P.a.scr hty hx, S.below (hO P.a.old) S.size⟩, ⟨hO P.b.old, P.b.p0, P.b.g0, aside P.b.scr hty hy, S.below (hO P.b.old) S.size⟩, P.np, P.ng, P.lx, P.ly, P.off⟩, own_kept H.hd (fun k e => (OnlyRow.cell g' j W u).block k (fun e' => (own_typ H.hd k e).apart hty (by decide) e')), fun y hy => ⟨(H.each y hy).1.put g' j u, (H.each y hy).2⟩, H.ax, H.ay⟩
theorem row (H : Loose w0 p g q h s xs ys A N c zs W) {j : Nat} {z : RowIn} (hz : zs[j]? = some z) (hj : j < N) : ∃ b, A = some ⟨b, 0, none⟩ ∧ W.cell? ⟨b, j * 2, none⟩ = some (.slice z.A z.n z.c) ∧ W.cell? ⟨b, j * 2 + 1, none⟩ = some (.bool z.wrap) := by
 obtain ⟨b, c', e, h1, h2, h3, hc⟩ := own_at H.hd (by omega)
 injection e with e _ _
 exact ⟨b, e, hc (j * 2) _ (by have := flatMap_get RowIn.vals 2 (fun _ => rfl) zs j z hz 0 _ rfl; simpa using this), hc (j * 2 + 1) _ (flatMap_get RowIn.vals 2 (fun _ => rfl) zs j z hz 1 _ rfl)⟩
theorem put (S : Spans w0) (H : Loose w0 p g q h s xs ys A N c zs W) {z : RowIn} (hz : z ∈ zs) {k : Nat} (hk : k < z.n) : ∃ gg, z.A = some ⟨gg, 0, none⟩ ∧ (∃ u, W.cell? ⟨gg, k * 3, none⟩ = some u) ∧ (∃ u, W.cell? ⟨gg, k * 3 + 1, none⟩ = some u) ∧ (∃ u, W.cell? ⟨gg, k * 3 + 2, none⟩ = some u) ∧ (∀ j, W.frozen? ⟨gg, j, none⟩ = false) ∧ Typed W 33 gg ∧
  Loose w0 p g q h s xs ys A N c zs (((W.setCell ⟨gg, k * 3, none⟩ (.int .i32 122)).setCell ⟨gg, k * 3 + 1, none⟩ (.int .i64 1)).setCell ⟨gg, k * 3 + 2, none⟩ (.int .i64 9)) := by
 obtain ⟨h0, vs, hv⟩ := (H.each z hz).1
 obtain ⟨gg, hA, hB, hcell, hfree, hty, _⟩ := own_cells hv h0
 exact ⟨gg, hA, hcell _ (by omega), hcell _ (by omega), hcell _ (by omega), hfree, hty, ((H.put1 S hz hA _ _).put1 S hz hA _ _).put1 S hz hA _ _⟩
end Loose
theorem own3_of {W : World} {B : Nat} {x : RowIn} (h : HasC W 0 (.slice x.A x.n x.c) x.l) (hk : ∃ k, x.A = some ⟨k, 0, none⟩ ∧ B ≤ k) (hn : 0 < x.n) : Own3 B W x := by
 obtain ⟨k, hA, hB⟩ := hk
 have hl : x.l.length = x.n := by
  obtain ⟨_, _, e, _⟩ := HasC.shape h
  injection e with _ e _
  exact e.symm
 unfold HasC at h
 rw [hl] at h
 refine ⟨hn, _, h.1, ?_⟩
 rcases h.2 with ⟨e, h0⟩ | ⟨g, cap, cur, e, _, r⟩
 ·omega
 ·refine .inr ⟨g, cap, cur, e, ?_, r⟩
  injection e with e1
  rw [hA] at e1
  injection e1 with e1
  injection e1 with e1
  omega
theorem loose_of {w0 W W' : World} {p g q h B wd m hh c8 : Nat} {s : Scr} {xs ys ya y7 : List RowIn} {A8 A' : Option Addr} {c' : Nat} {R : List SR} (S : Spans w0) (P : Pair w0 p g s xs q h s ys W) (hw : 2 ≤ wd ∧ wd ≤ 300) (O : Out w0 B wd (.slice A8 m c8) ya R W) (ax : Off ya xs) (ay : Off ya ys) (hB : g < B ∧ h < B ∧ w0.heap.size ≤ B)
  (h7 : ∀ y ∈ y7, HasC W 0 (.slice y.A y.n y.c) y.l ∧ y.n = wd ∧ ∃ k, y.A = some ⟨k, 0, none⟩ ∧ w0.heap.size ≤ k ∧ (∀ x ∈ xs, x.A ≠ y.A) ∧ ∀ x ∈ ys, x.A ≠ y.A)
  (hg : W.grownBy W' (Value.slice A8 m c8).ownBlock) (ho : W'.ownsRow B 24 2 (.slice A' (m + hh) c') (m + hh) (ya.flatMap RowIn.vals ++ y7.flatMap RowIn.vals)) : Loose w0 p g q h s xs ys A' (m + hh) c' (ya ++ y7) W' := by
 have ht := Turned.ofGrown hg
 have hty : ∀ k, (Value.slice A8 m c8).ownBlock = some k → Typed W 24 k := O.rows.typed
 have hlt : ∀ k, (Value.slice A8 m c8).ownBlock = some k → B ≤ k := fun k e => (O.rows.lt k e).1
 have hno : ∀ k, (Value.slice A8 m c8).ownBlock = some k → ¬ Typed W 33 k := fun k e t => (hty k e).apart t (by decide) rfl
 have old : Below w0.heap.size w0 W' := P.a.old.trans (ht.toBelow P.a.old.size (fun k hk m => by have := hlt k m; omega))
 refine ⟨⟨⟨old, P.a.p0, P.a.g0, P.a.scr.kept ht (fun m => (hty _ m).apart P.a.scr.typ (by decide) rfl) (fun m => by have := hlt _ m; omega) hno, S.below old S.size⟩, ⟨old, P.b.p0, P.b.g0, P.b.scr.kept ht (fun m => (hty _ m).apart P.b.scr.typ (by decide) rfl) (fun m => by have := hlt _ m; omega) hno, S.below old S.size⟩, P.np, P.ng, P.lx, P.ly, P.off⟩, own_down (by rw [List.flatMap_append]; exact ho) (Nat.zero_le _), fun z hz => ?_, fun z hz => ?_, fun z hz => ?_⟩
 ·rcases List.mem_append.1 hz with hz | hz
  ·obtain ⟨e, k, ek, hk, _⟩ := O.each z hz
   exact ⟨own3_of (hasC_turned (O.rows.each z hz).1 ht hno) ⟨k, ek, hk⟩ (by omega), by omega⟩
  ·obtain ⟨hc, e, k, ek, hk, _⟩ := h7 z hz
   exact ⟨own3_of (hasC_turned hc ht hno) ⟨k, ek, hk⟩ (by omega), by omega⟩
 ·rcases List.mem_append.1 hz with hz | hz
  ·exact ax z hz
  ·obtain ⟨_, _, _, _, _, h1, _⟩ := h7 z hz
   exact h1
 ·rcases List.mem_append.1 hz with hz | hz
  ·exact ay z hz
  ·obtain ⟨_, _, _, _, _, _, h1⟩ := h7 z hz
   exact h1
theorem vals_ones (l : List RowIn) : ∀ u ∈ l.flatMap RowIn.vals, u.oneCell' = true := by
 intro u hu
 obtain ⟨x, _, hx⟩ := List.mem_flatMap.1 hu
 exact vals_one x u hx
theorem map_len {xs : List RowIn} {R : List SR} (h : xs.map sr = R) : xs.length = R.length := by rw [← h, List.length_map]
set_option maxRecDepth 100000 in
set_option maxHeartbeats 12800000 in
theorem walk (A : Option Addr) (n c : Nat) (l : List Int) (_hc : n ≤ c) (_hm : c ≤ maxLen) (hr : Runes l) (w : World) (hs : Spans w) (hq : Sq w w.heap.size 1 n A (l.map (Value.int .i32))) :
  Calls Tryz.prog 6 #[.slice A n c] w fun e w' => e = .returned (.bool true) ∧ Below w.heap.size w w' := by
 obtain ⟨i0, hi, hz0, hz1, hz2⟩ := info_parts infoRow
 have S := Lib.hid hs
 have Q := Lib.hid hq
 have RU := Lib.hid hr
 have LN := Lib.hid hq.size_ints
 clear hs hq hr
 go_enter Tryz.func6, Tryz.ntmps6
 go_wp2_with fail
 refine (Bg.begun7_walk w S.out).mono ?_
 rintro e w1 ⟨rfl, b1⟩
 have B1 := Lib.hid b1
 have S1 := Lib.hid (S.out.below b1 S.out.size)
 clear b1
 go_wp2_with fail
 refine (new_walk 4 2 w1).mono ?_
 rintro e w2 ⟨p, g, xs, rfl, h2, hp, hg, hx2, b2⟩
 have B2 := Lib.hid (B1.out.trans (b2.mono B1.out.size))
 have S2 := Lib.hid (S.out.below B2.out S.out.size)
 have H2 := Lib.hid (And.intro h2 (And.intro hp (And.intro hg hx2)))
 clear h2 hp hg hx2 b2
 go_wp2_with fail
 refine (new_walk 4 2 w2).mono ?_
 rintro e w3 ⟨q, h, ys, rfl, h3, hq, hh, hy3, b3⟩
 have P3 := Lib.hid (show Pair w p g (newS 4 2) xs q h (newS 4 2) ys w3 from by
  obtain ⟨h2, hp, hg, hx2⟩ := H2.out
  have o1 := B1.out.size
  have o2 := B2.out.size
  have B3 := B2.out.trans (b3.mono o2)
  refine ⟨⟨B3, by omega, by omega, h2.laid b3, S.out.below B3 S.out.size⟩, ⟨B3, by omega, by omega, h3, S.out.below B3 S.out.size⟩, by have := h2.ltp; omega, by have := h2.ltg; omega, fun x hx => ?_, fun y hy => ?_, fun x hx y hy e => ?_⟩
  ·obtain ⟨k, e, hk⟩ := hx2 x hx
   exact ⟨k, e, by omega⟩
  ·obtain ⟨k, e, hk⟩ := hy3 y hy
   exact ⟨k, e, by omega⟩
  ·obtain ⟨k, e1, hk⟩ := Pair.blk h2 hx
   obtain ⟨k', e2, hk'⟩ := hy3 y hy
   rw [e2, e1] at e
   injection e with e
   injection e with e
   omega)
 clear h3 hq hh hy3 b3 H2 S2 S1 B1 B2
 go_wp2_with fail
 go_loopw [6, 7, 8, 9, 11, 12] (fun v6 _ _ _ _ _ wr => ∃ (k : Nat) (s : Scr) (xs ys : List RowIn), v6 = .int .i64 (k : Int) ∧ k ≤ n ∧ k ≤ 40 ∧ Hid (Pair w p g s xs q h s ys wr)) (fun v6 _ _ _ _ _ _ => n - (intOf v6).toNat)
 case atStart => exact ⟨0, _, xs, ys, rfl, Nat.zero_le _, Nat.zero_le _, P3⟩
 case round =>
  obtain ⟨k, s, xs, ys, rfl, hk, hk40, PK⟩ := hrel
  clear P3
  by_cases hlt : k < n ∧ k < 40
  ·obtain ⟨hl1, hl2⟩ := hlt
   obtain ⟨b, off, rfl, _, hc0⟩ := (Q.out.below PK.out.a.old).int_at hl1
   have hrr := RU.out.get k
   obtain ⟨r, hrk⟩ : ∃ r, nth l k = r := ⟨_, rfl⟩
   rw [hrk] at hc0 hrr
   have hinc : IntKind.i64.wrap ((k : Int) + 1) = (k : Int) + 1 := IntWalk.i64_in _ (by omega)
   have hk0 : (0 : Int) ≤ (k : Int) := by omega
   have hkn : (k : Int) < (n : Int) := by omega
   have hk3 : (k : Int) < 40 := by omega
   clear hrk
   obtain ⟨b7, hb7⟩ : ∃ b7, wr.heap.size = b7 := ⟨_, rfl⟩
   obtain ⟨w4, hw4⟩ : ∃ w4, wr.alloc (.cells #[.int .i64 1, .int .i32 r, .slice none 0 0, .string .empty] 43) = w4 := ⟨_, rfl⟩
   have b4 : Below wr.heap.size wr w4 := by rw [← hw4]; exact (Below.refl _ _).alloc (Nat.le_refl _) _
   have r4 : w4.heap[b7]? = some (.cells #[.int .i64 1, .int .i32 r, .slice none 0 0, .string .empty] 43 (0, 0)) := by rw [← hw4, ← hb7]; exact heap_alloc_new wr _
   have P4 := Lib.hid ((PK.out.laid b4).laid (Below.refl w4.heap.size w4).drew)
   have R4 := Lib.hid (show w4.drew.heap[b7]? = _ from r4)
   have HB7 := Lib.hid hb7
   have HW4 := Lib.hid hw4
   clear hb7 hw4 b4 r4 PK
   go_upto_region 9 with fail
   rw [HB7.out]
   first
    | rw [HW4.out]
    | (change Code.wp _ _ _ _ (wr.alloc (.cells #[.int .i64 1, .int .i32 r, .slice none 0 0, .string .empty] 43)); rw [HW4.out])
   clear HB7 HW4
   refine Ord.start (S := fun W => W.heap[b7]? = w4.drew.heap[b7]?) (n := 8) (by kernel_rfl) (by kernel_rfl) rfl ?_
   have lt7 : b7 < w4.drew.heap.size := (Array.getElem?_eq_some_iff.1 R4.out).1
   have ty7 : Typed w4.drew 43 b7 := ⟨_, _, R4.out⟩
   have ld : ∀ (j : Nat) (W : World), W.heap[b7]? = w4.drew.heap[b7]? → W.cell? ⟨b7, j, none⟩ = (#[Value.int .i64 1, .int .i32 r, .slice none 0 0, .string .empty])[j]? := fun j W e => cell_of_row W b7 j _ _ (0, 0) (e.trans R4.out)
   have keep7 : ∀ (W W' : World) (p g : Nat) (s : Scr) (xs xs' : List RowIn), ScAt W p g s xs → W.heap[b7]? = w4.drew.heap[b7]? → Went W W' p g xs xs' → W'.heap[b7]? = w4.drew.heap[b7]? := fun W W' p g s xs xs' hs e hw => (hw.turned.block b7 (Array.getElem?_eq_some_iff.1 (e.trans R4.out)).1 (fun m => by
    have t7 : Typed W 43 b7 := ⟨_, _, e.trans R4.out⟩
    rcases m with rfl | rfl
    ·exact hs.typ.apart t7 (by decide) rfl
    ·exact hs.tyg.apart t7 (by decide) rfl)).trans e
   apply scown_region (w1 := w4.drew) (p := p) (q := q) (b7 := b7) (r := r) (p0 := .slice (some ⟨b, off, none⟩) n c) (p1 := undef) (p2 := u2) (p3 := .bool true) (p6 := .int .i64 (k : Int)) (p10 := undef) (p11 := u11) (p12 := u12) (p13 := .bool true) (p14 := .bool true) (p15 := .bool false) (p16 := ptrS p) (p17 := ptrS q) (p18 := .int .i64 (k : Int)) (p19 := .slice (some ⟨b, off, none⟩) n c) (p20 := .int .i64 (n : Int)) (p21 := .bool true) (p22 := .bool true) (p23 := .int .i64 (k : Int)) (p24 := .bool true) (p25 := .bool true) (p26 := u26) (p27 := u27) (p28 := .slice (some ⟨b, off, none⟩) n c) (p29 := .int .i64 (k : Int)) (p30 := .pointer (some ⟨b, off + k, none⟩)) (p31 := .int .i32 r) (p32 := .agg #[.int .i64 1, .int .i32 r, .slice none 0 0, .string .empty]) (p39 := u39) (p40 := u40) (p41 := u41) (p42 := u42) (p43 := u43) (p44 := u44) (p45 := u45) (p46 := u46) (p47 := u47) (p48 := u48) (p49 := u49) (p50 := u50) (p51 := u51) (p52 := u52) (p53 := u53) (p54 := u54) (p55 := u55) (p56 := u56) (p57 := u57) (p58 := u58) (p59 := u59) (p60 := u60) (p61 := u61) (p62 := u62) (p63 := u63) (p64 := u64) (p65 := undef) (p66 := undef) (p67 := undef) (p68 := undef) (p69 := undef) (P1 := fun W A m c => ∃ xs' ya, Pair w p g (doS s 1 r []) xs' q h s ys W ∧ Out w w4.drew.heap.size s.w (.slice A m c) ya (doO s 1 r) W ∧ Off ya xs' ∧ Off ya ys ∧ Went w4.drew W p g xs xs')
    (P2 := fun W A m c A2 m2 c2 => ∃ xs' ys' ya yb, Pair w p g (doS s 1 r []) xs' q h (doS s 1 r []) ys' W ∧ Out w w4.drew.heap.size (doS s 1 r []).w (.slice A m c) ya (doO s 1 r) W ∧ Out w w4.drew.heap.size s.w (.slice A2 m2 c2) yb (doO s 1 r) W ∧ Off ya xs' ∧ Off ya ys' ∧ W.heap[b7]? = w4.drew.heap[b7]? ∧ w4.drew.heap.size ≤ W.heap.size)
   case R => exact ⟨by kernel_rfl, by kernel_rfl⟩
   case hQ => exact fun _ _ _ _ _ h => h
   case k0 => exact ld 0
   case k1 => exact ld 1
   case k2 => exact ld 2
   case k3 => exact ld 3
   case C1 =>
    refine (P4.out.do' r hrr.1 hrr.2).mono ?_
    rintro e W' ⟨A1, m1, c1, xs', ya, rfl, H⟩
    exact ⟨A1, m1, c1, rfl, xs', ya, H⟩
   case C2 =>
    rintro W A1 m1 c1 ⟨xs', ya, H1, H2, H3, H4, H5⟩
    have hd := doS_dims (s := s) 1 r [] P4.out.a.scr.ok.h1
    have lg := P4.out.a.scr.ltg
    have lh := P4.out.b.scr.ltg
    have e7 := keep7 _ _ _ _ _ _ _ P4.out.a.scr rfl H5
    refine (H1.both (B := w4.drew.heap.size) (by rw [hd.1]; exact H2) H3 H4 ⟨lg, lh⟩ r hrr.1 hrr.2 H5.turned.size).mono ?_
    rintro e W' ⟨A2, m2, c2, ys', yb, rfl, G1, G2, G3, G4, G5, G6⟩
    exact ⟨A2, m2, c2, rfl, xs', ys', ya, yb, G1, G2, G3, G4, G5, keep7 _ _ _ _ _ _ _ H1.b.scr e7 G6, Nat.le_trans H5.turned.size G6.turned.size⟩
   case KS1 =>
    rintro W A1 m1 c1 ⟨xs', ya, H1, H2, H3, H4, H5⟩
    exact keep7 _ _ _ _ _ _ _ P4.out.a.scr rfl H5
   case KS2 =>
    rintro W A1 m1 c1 A2 m2 c2 ⟨_, _, _, _, _, _, _, _, _, H, _⟩
    exact H
   case F => constructor <;> rfl
   rintro a2 w5 A8 m8 c8 A9 m9 c9 ⟨xs', ys', ya, yb, G1, G2, G3, G4, G5, _, GS⟩ F2 f8 f9
   refine scown_frame F2.size F2.defers F2.s0 F2.s1 F2.s2 F2.s3 F2.s4 F2.s5 F2.s6 F2.s7 f8 f9 F2.s10 F2.s11 F2.s12 F2.s13 F2.s14 F2.s15 F2.s16 F2.s17 F2.s18 F2.s19 F2.s20 F2.s21 F2.s22 F2.s23 F2.s24 F2.s25 F2.s26 F2.s27 F2.s28 F2.s29 F2.s30 F2.s31 F2.s32 F2.s39 F2.s40 F2.s41 F2.s42 F2.s43 F2.s44 F2.s45 F2.s46 F2.s47 F2.s48 F2.s49 F2.s50 F2.s51 F2.s52 F2.s53 F2.s54 F2.s55 F2.s56 F2.s57 F2.s58 F2.s59 F2.s60 F2.s61 F2.s62 F2.s63 F2.s64 F2.s65 F2.s66 F2.s67 F2.s68 F2.s69 ?_
   have hdw := (doS_dims (s := s) 1 r [] P4.out.a.scr.ok.h1)
   obtain ⟨s5, hs5⟩ : ∃ s5, doS s 1 r [] = s5 := ⟨_, rfl⟩
   rw [hs5] at G1 G2 hdw
   obtain ⟨m, hm⟩ : ∃ m, (doO s 1 r).length = m := ⟨_, rfl⟩
   have hm1 : m ≤ 1000000 := by rw [← hm]; have := doO_len s 1 r; omega
   have wd3 : s5.w ≤ 300 := G1.a.scr.ok.w3
   have la := map_len G2.same
   have lb := map_len G3.same
   rw [hm] at la lb
   obtain rfl : m = m8 := by obtain ⟨_, _, e, _⟩ := G2.rows.shape; injection e with _ e _; omega
   obtain rfl : m = m9 := by obtain ⟨_, _, e, _⟩ := G3.rows.shape; injection e with _ e _; omega
   have RA := Lib.hid (RowsIn.rd G2.rows (fun x hx => by rw [(G2.each x hx).1]; omega))
   have RB := Lib.hid (RowsIn.rd G3.rows (fun x hx => by rw [(G3.each x hx).1, ← hdw.1]; omega))
   have EQ := Lib.hid (eqRows_walk A8 A9 m c8 c9 ya yb w5 hm1 RA.out RB.out (G2.same.trans G3.same.symm))
   have P5 := Lib.hid G1
   have O5 := Lib.hid G2
   have OF5 := Lib.hid (And.intro G4 G5)
   have LA := Lib.hid la
   obtain ⟨BB, hBB⟩ : ∃ BB, w4.drew.heap.size = BB := ⟨_, rfl⟩
   have HBS := Lib.hid (show BB ≤ w5.heap.size from by rw [← hBB]; exact GS)
   have HB := Lib.hid (show g < BB ∧ h < BB ∧ w.heap.size ≤ BB from by have h1 := P4.out.a.scr.ltg; have h2 := P4.out.b.scr.ltg; have h3 := P4.out.a.old.size; omega)
   rw [hBB] at O5
   clear F2 f8 f9 G1 G2 G3 G4 G5 ld keep7 lt7 ty7 P4 R4 hs5 hm la lb RA RB hBB GS
   intros
   try dsimp only
   go_wp2_with fail
   refine EQ.out.mono ?_
   rintro e w6 ⟨rfl, b6⟩
   have P6 := Lib.hid (P5.out.laid b6)
   have O6 := Lib.hid (O5.out.laid b6)
   have HB6 := Lib.hid (Nat.le_trans HBS.out b6.size)
   clear EQ b6 P5 O5
   have RW := Lib.hid (rows_walk w6 P6.out.a.scr)
   go_wp2_with fail
   refine RW.out.mono ?_
   rintro e w7 ⟨v7, y7, rfl, SH⟩
   obtain ⟨A7, c7, rfl, _⟩ := SH.rows.shape
   have w23 : 2 ≤ s5.w := P6.out.a.scr.ok.w2
   have O7 := O6.out.laid SH.old
   have P7 := Lib.hid (P6.out.laid SH.old)
   have S7 := Lib.hid (RowsIn.rd SH.rows (fun x hx => by rw [(SH.each x hx).1]; omega)).head
   have h7 : ∀ y ∈ y7, HasC w7 0 (.slice y.A y.n y.c) y.l ∧ y.n = s5.w ∧ ∃ k, y.A = some ⟨k, 0, none⟩ ∧ w.heap.size ≤ k ∧ (∀ x ∈ xs', x.A ≠ y.A) ∧ ∀ x ∈ ys', x.A ≠ y.A := fun y hy => by
    obtain ⟨e, k, ek, hk⟩ := SH.each y hy
    refine ⟨(SH.rows.each y hy).1, e, k, ek, by have := P6.out.a.old.size; omega, fun x hx e2 => ?_, fun x hx e2 => ?_⟩
    ·obtain ⟨k', e3, hl⟩ := Pair.blk P6.out.a.scr hx
     rw [e3, ek] at e2
     injection e2 with e2
     injection e2 with e2
     omega
    ·obtain ⟨k', e3, hl⟩ := Pair.blk P6.out.b.scr hx
     rw [e3, ek] at e2
     injection e2 with e2
     injection e2 with e2
     omega
   have hl7 : y7.length ≤ 100 := by rw [map_len SH.same]; exact P6.out.a.scr.ok.h2
   obtain ⟨hh, hhh⟩ : ∃ hh, y7.length = hh := ⟨_, rfl⟩
   rw [hhh] at S7 hl7 ⊢
   have OWN := Lib.hid (show w7.ownsRow BB 24 2 (.slice A8 m c8) m (ya.flatMap RowIn.vals) from by have h := O7.rows.own; rwa [LA.out] at h)
   have FIT : m + hh ≤ maxLen ∧ (m + hh) * 32 ≤ 140737488355328 := by unfold maxLen; omega
   have BAS : BB ≤ w7.heap.size := Nat.le_trans HB6.out SH.old.size
   have LS := Lib.hid (fun W' A' c' hg ho => loose_of (hh := hh) (A' := A') (c' := c') (W' := W') S.out P7.out ⟨w23, wd3⟩ O7 OF5.out.1 OF5.out.2 HB.out h7 hg ho)
   have ZL := Lib.hid (show (ya ++ y7).length = m + hh from by rw [List.length_append, LA.out, hhh])
   clear RW SH O7 P7 h7 O6 hhh P6
   go_wp2_with (at_builtin; refine wpl_app rfl _ (.tmp 45) 44 rfl BB 24 i0 (.agg #[.slice none 0 0, .bool false]) 2 32 Tryz.underlying44 hi hz0 hz1 hz2 rfl (by decide) (.slice A8 m c8) m (ya.flatMap RowIn.vals) rfl OWN.out A7 hh c7 (y7.flatMap RowIn.vals) rfl w7.heap.size S7 (vals_ones y7) FIT.1 FIT.2 BAS ?_; intro v8 w8 hown hg _; obtain ⟨A', c', rfl, hc'⟩ := own_cap hown; have L8 := Lib.hid (LS.out w8 A' c' hg hown); clear hown hg hc')
   obtain ⟨N, hN⟩ : ∃ N, m + hh = N := ⟨_, rfl⟩
   have hN2 : N ≤ 1000100 := by omega
   rw [hN] at L8 ZL ⊢
   clear LS OWN S7 FIT BAS HB OF5 LA HBS HB6
   go_wp2_with fail
   go_loopw [11, 12, 48] (fun _ _ v48 wx => ∃ j : Nat, v48 = .int .i64 (j : Int) ∧ j ≤ N ∧ Hid (Loose w p g q h s5 xs' ys' A' N c' (ya ++ y7) wx)) (fun _ _ v48 _ => N - (intOf v48).toNat)
   case atStart => exact ⟨0, rfl, Nat.zero_le _, L8⟩
   case round =>
    obtain ⟨j, rfl, hj, LX⟩ := hrel
    clear L8
    by_cases hjn : j < N
    ·obtain ⟨z, hz⟩ : ∃ z, (ya ++ y7)[j]? = some z := ⟨_, List.getElem?_eq_getElem (by rw [ZL.out]; exact hjn)⟩
     have hzm := List.mem_of_getElem? hz
     obtain ⟨bq, rfl, d0, d1⟩ := LX.out.row hz hjn
     obtain ⟨zA, zn, zc, zw, zl⟩ := z
     dsimp only at d0 d1
     have hz300 : zn ≤ 300 := (LX.out.each _ hzm).2
     have hj0 : (0 : Int) ≤ (j : Int) := by omega
     have hjn' : (j : Int) < (m : Int) + (hh : Int) := by omega
     have hjn2 : (j : Int) < (N : Int) := by omega
     have hinc2 : IntKind.i64.wrap ((j : Int) + 1) = (j : Int) + 1 := IntWalk.i64_in _ (by omega)
     obtain ⟨g11, hg11⟩ : ∃ g11, wr.heap.size = g11 := ⟨_, rfl⟩
     obtain ⟨w9, hw9⟩ : ∃ w9, wr.alloc (.cells #[.slice zA zn zc, .bool zw] 24) = w9 := ⟨_, rfl⟩
     have b9 : Below wr.heap.size wr w9 := by rw [← hw9]; exact (Below.refl _ _).alloc (Nat.le_refl _) _
     have r9 : RowAt w9 g11 (.slice zA zn zc) zw := by rw [← hw9, ← hg11]; exact heap_alloc_new wr _
     have L9 := Lib.hid (LX.out.laid b9)
     have R9 := Lib.hid r9
     have ZM := Lib.hid hzm
     have HG := Lib.hid hg11
     have HW := Lib.hid hw9
     have k0 : w9.cell? ⟨g11, 0, none⟩ = some (.slice zA zn zc) := r9.get 0
     clear hz hzm hg11 hw9 b9 r9 LX
     go_upto_region 15 with fail
     rw [HG.out]
     first
      | rw [HW.out]
      | (change Code.wp _ _ _ _ (wr.alloc (.cells #[.slice zA zn zc, .bool zw] 24)); rw [HW.out])
     clear HW HG
     go_wp2_with fail
     go_loopw [12, 55] (fun _ v55 wx => ∃ i : Nat, v55 = .int .i64 (i : Int) ∧ i ≤ zn ∧ Hid (RowAt wx g11 (.slice zA zn zc) zw) ∧ Hid (Loose w p g q h s5 xs' ys' (some ⟨bq, 0, none⟩) N c' (ya ++ y7) wx)) (fun _ v55 _ => zn - (intOf v55).toNat)
     case atStart => exact ⟨0, rfl, Nat.zero_le _, R9, L9⟩
     case round =>
      obtain ⟨i, rfl, hi', RI, LI⟩ := hrel
      clear R9 L9 k0
      by_cases hin : i < zn
      ·obtain ⟨gg, hA, ⟨u0, e0⟩, ⟨u1, e1⟩, ⟨u2', e2⟩, hfr, hty, LN'⟩ := LI.out.put S.out ZM.out hin
       obtain rfl : zA = some ⟨gg, 0, none⟩ := hA
       have hfi0 := hfr (i * 3)
       have hfi1 := hfr (i * 3 + 1)
       have hfi2 := hfr (i * 3 + 2)
       have ra0 : wr.cell? ⟨g11, 0, none⟩ = some (.slice (some ⟨gg, 0, none⟩) zn zc) := RI.out.get 0
       have hi0' : (0 : Int) ≤ (i : Int) := by omega
       have hin' : (i : Int) < (zn : Int) := by omega
       have hinc3 : IntKind.i64.wrap ((i : Int) + 1) = (i : Int) + 1 := IntWalk.i64_in _ (by omega)
       have LN2 := Lib.hid LN'
       have RN2 := Lib.hid (show RowAt (((wr.setCell ⟨gg, i * 3, none⟩ (.int .i32 122)).setCell ⟨gg, i * 3 + 1, none⟩ (.int .i64 1)).setCell ⟨gg, i * 3 + 2, none⟩ (.int .i64 9)) g11 (.slice (some ⟨gg, 0, none⟩) zn zc) zw from ((RowIn'.only wr gg i _ _ _).block g11 ((show Typed wr 24 g11 from ⟨_, _, RI.out⟩).apart hty (by decide))).trans RI.out)
       clear LN' hfr hty RI LI
       go_wp2
       go_roundw
       case rel => exact ⟨i + 1, by first | rfl | (congr 1; done) | (congr 1; omega), by omega, RN2, LN2⟩
       case measure => first | (simp [intOf]; done) | (simp [intOf]; omega)
      ·obtain rfl : i = zn := by omega
       clear RI
       go_wp2
       go_roundw
       case rel => exact ⟨j + 1, by first | rfl | (congr 1; done) | (congr 1; omega), by omega, LI⟩
       case measure => first | (simp [intOf]; done) | (simp [intOf]; omega)
    ·have hjn' : ¬ (j : Int) < (m : Int) + (hh : Int) := by omega
     have PX := Lib.hid LX.out.pr
     clear LX
     go_wp2
     go_roundw
     case rel => exact ⟨k + 1, by first | rfl | (congr 1; done) | (congr 1; omega), by omega, by omega, s5, xs', ys', PX⟩
     case measure => first | (simp [intOf]; done) | (simp [intOf]; omega)
  ·have hno : ¬ ((k : Int) < (n : Int)) ∨ ¬ ((k : Int) < 40) := by omega
   by_cases g1 : k < n
   ·have g2 : ¬ ((k : Int) < 40) := by omega
    have g3 : (k : Int) < (n : Int) := by omega
    clear hno hlt
    go_wp2_with fail
    refine (rows_walk wr PK.out.a.scr).mono ?_
    rintro e w5 ⟨v5, y5, rfl, SH5⟩
    obtain ⟨A5, c5, rfl, _⟩ := SH5.rows.shape
    have w3 : s.w ≤ 300 := PK.out.a.scr.ok.w3
    have R5 := Lib.hid (RowsIn.rd SH5.rows (fun x hx => by rw [(SH5.each x hx).1]; omega))
    have P5 := Lib.hid (PK.out.laid SH5.old)
    have M5 := Lib.hid SH5.same
    have L5 := Lib.hid (map_len SH5.same)
    rw [L5.out] at R5 ⊢
    clear SH5
    go_wp2_with fail
    refine (rows_walk w5 P5.out.b.scr).mono ?_
    rintro e w6 ⟨v6, y6, rfl, SH6⟩
    obtain ⟨A6, c6, rfl, _⟩ := SH6.rows.shape
    have R6 := Lib.hid (RowsIn.rd SH6.rows (fun x hx => by rw [(SH6.each x hx).1]; omega))
    have P6 := Lib.hid (P5.out.laid SH6.old)
    rw [map_len SH6.same] at R6 ⊢
    have h2 := PK.out.a.scr.ok.h2
    have EQ := Lib.hid (eqRows_walk A5 A6 s.rows.length c5 c6 y5 y6 w6 (by omega) (R5.out.below SH6.old) R6.out (M5.out.trans SH6.same.symm))
    clear SH6 R5 R6 M5 L5
    go_wp2_with fail
    refine EQ.out.mono ?_
    rintro e w7 ⟨rfl, b7⟩
    have B7 := Lib.hid (P6.out.a.old.trans (b7.mono P6.out.a.old.size))
    go_wp2
    go_ret
    exact ⟨rfl, B7.out⟩
   ·have g3 : ¬ ((k : Int) < (n : Int)) := by omega
    clear hno hlt
    go_wp2_with fail
    refine (rows_walk wr PK.out.a.scr).mono ?_
    rintro e w5 ⟨v5, y5, rfl, SH5⟩
    obtain ⟨A5, c5, rfl, _⟩ := SH5.rows.shape
    have w3 : s.w ≤ 300 := PK.out.a.scr.ok.w3
    have R5 := Lib.hid (RowsIn.rd SH5.rows (fun x hx => by rw [(SH5.each x hx).1]; omega))
    have P5 := Lib.hid (PK.out.laid SH5.old)
    have M5 := Lib.hid SH5.same
    have L5 := Lib.hid (map_len SH5.same)
    rw [L5.out] at R5 ⊢
    clear SH5
    go_wp2_with fail
    refine (rows_walk w5 P5.out.b.scr).mono ?_
    rintro e w6 ⟨v6, y6, rfl, SH6⟩
    obtain ⟨A6, c6, rfl, _⟩ := SH6.rows.shape
    have R6 := Lib.hid (RowsIn.rd SH6.rows (fun x hx => by rw [(SH6.each x hx).1]; omega))
    have P6 := Lib.hid (P5.out.laid SH6.old)
    rw [map_len SH6.same] at R6 ⊢
    have h2 := PK.out.a.scr.ok.h2
    have EQ := Lib.hid (eqRows_walk A5 A6 s.rows.length c5 c6 y5 y6 w6 (by omega) (R5.out.below SH6.old) R6.out (M5.out.trans SH6.same.symm))
    clear SH6 R5 R6 M5 L5
    go_wp2_with fail
    refine EQ.out.mono ?_
    rintro e w7 ⟨rfl, b7⟩
    have B7 := Lib.hid (P6.out.a.old.trans (b7.mono P6.out.a.old.size))
    go_wp2
    go_ret
    exact ⟨rfl, B7.out⟩
set_option maxRecDepth 100000 in
theorem contract (H : Type) (enc : TypeId × Value → H) (W : World) (base : Nat) (args : Array Value) (ds gs : List (DataW H)) (before : List MemPlace)
  (hval : ∀ (j : Nat) t v, Tryz.f6.params[j]? = some t → args[j]? = some v → Value.okWide Tryz.prog W .any base t v)
  (hW : DataW.Whole enc Tryz.prog Tryz.f6.params.toList Rows.screenOwnSpec.vars false W args.toList ds gs before) (hL : laidMetH Tryz.prog Rows.screenOwnRow.laid W) :
  Calls Tryz.prog 6 args W fun e W' => ∃ v, e = .returned v ∧ Rows.screenOwnSpec.post enc Tryz.prog Tryz.f6 false true false false W args v W' := by
 have hW' := hW
 obtain ⟨p, q, hA0, hV, rfl, hfz, hnd⟩ := hW
 have hA : DataW.TrodAll enc Tryz.prog W 0 (fun _ => true) true Tryz.f6.params.toList args.toList ds p := hA0
 rw [Tryz.params6] at hA hval
 obtain ⟨v0, vs0, d0, ds0, p0, q0, hargs, rfl, rfl, h0, r0⟩ := trodAll_cons hA
 obtain ⟨rfl, rfl, rfl⟩ := trodAll_nil r0
 obtain rfl : args = #[v0] := by cases args; simp_all
 obtain ⟨rfl, rfl⟩ := trodVars_none hV
 obtain ⟨Ax, nx, cx, x, rfl, hcx, hmx, hrx, hqx⟩ := open_runes (hval 0 54 v0 rfl rfl) h0
 clear hA0
 refine (walk Ax nx cx x hcx hmx hrx W (spans_of hL) hqx).mono fun e W' ⟨he, hg⟩ => ?_
 subst he
 exact ⟨_, rfl, close rfl hW' ⟨rfl, rfl, rfl⟩ (by kernel_rfl) (by kernel_rfl) hg⟩
set_option maxRecDepth 100000 in
theorem laid_met (os : Os) : laidMet Tryz.prog Rows.screenOwnRow.laid ((laidWorld os).forCall (fun _ _ => 0) ⟨#[], #[.slice none 0 0], []⟩).memory :=
 laidMet_of_run' 8 (by kernel_rfl) (by kernel_rfl)
set_option maxRecDepth 100000 in
theorem reads (os : Os) {H : Type} (enc : TypeId × Value → H) : ∃ places, DataW.whole enc Tryz.prog ((laidWorld os).forCall (fun _ _ => 0) ⟨#[], #[.slice none 0 0], []⟩).memory Tryz.f6.params.toList Rows.screenOwnSpec.vars false (#[.slice none 0 0] : Array Value).toList 8 = some ([.nil], [], places) :=
 ⟨[], by kernel_rfl⟩
set_option maxRecDepth 100000 in
theorem lifted (os : Os) (started : os.Started) (H : Type) (enc : TypeId × Value → H) (F : Stop.Interp) :
  ReturnsInHanded {} Tryz.checked os 6 .any ((OpenSpec.ofChange Rows.screenOwnSpec).preRow enc Tryz.prog Tryz.f6 Rows.screenOwnRow.domain false Rows.screenOwnRow.laid) (((OpenSpec.ofChange Rows.screenOwnSpec).at F).post enc Tryz.prog Tryz.f6 false true false false) := by
 obtain ⟨places, hx⟩ := reads os enc
 refine returnsInHanded_of_row (C := Tryz.checked) (s := OpenSpec.ofChange Rows.screenOwnSpec) ownNone started (by kernel_rfl) Tryz.func6
  (witness_row_at (enc := enc) (C := Tryz.checked) false (laidWorld os) #[.slice none 0 0] rfl (by kernel_rfl) (by kernel_rfl) (by kernel_rfl)
   (OpenSpec.preRow_of_cond 8 hx (by kernel_rfl) (fun k hk => by cases hk) (by kernel_rfl) (laid_met os))) ?_
 intro W base args ds gs before hval hW _ _ _ hL _ _
 exact contract H enc W base args ds gs before hval hW hL
set_option maxRecDepth 100000 in
set_option maxHeartbeats 0 in
theorem facts : joinedFacts Tryz.checked.prog 6 Tryz.f6 (OpenSpec.ofChange Rows.screenOwnSpec).bare Rows.screenOwnRow = true := by
 have h1 := Sum.tables.1
 have h2 := Sum.tables.2.1
 have h3 := Sum.tables.2.2
 have h4 := Sum.mayEnter
 have e1 : Rows.screenOwnRow.lifted = Rows.rowOwnRow.lifted := by kernel_rfl
 have e2 : Rows.screenOwnRow.make = Rows.rowOwnRow.make := by kernel_rfl
 have h5 : (Rows.screenOwnRow.lifted == Tryz.checked.prog.liftsFinal) = true := by rw [e1]; exact Sum.lifts
 have h6 : (Tryz.checked.prog.make == some Rows.screenOwnRow.make) = true := by rw [e2]; exact Sum.make
 unfold joinedFacts
 repeat' (with_reducible refine Sum.and_mk ?_ ?_)
 all_goals first
  | with_reducible exact h1
  | with_reducible exact h2
  | with_reducible exact h4
  | with_reducible exact h5
  | with_reducible exact h6
  | (rw [h3]; as_aux_lemma => kernel_rfl)
  | (clear h1 h2 h3 h4 h5 h6 e1 e2; as_aux_lemma => kernel_rfl)
set_option maxRecDepth 100000 in
theorem said : Rows.ScreenOwnSaid :=
 OpenClaim.holds_of_cond 6 Tryz.f6 rfl rfl rfl rfl rfl rfl rfl ⟨rfl, rfl, rfl, rfl, rfl⟩ rfl rfl rfl rfl rfl (by kernel_rfl) Tryz.func6 facts
  (of_decide_eq_true (by kernel_rfl)) (by unfold Func.isWrapper; first | (rw [if_pos (by decide +kernel)]; kernel_rfl) | (rw [if_neg (by decide +kernel)]; exact ⟨rfl, rfl⟩))
  (fun os started H enc _ F => by rw [OpenClaim.pre_eq_preRow]; exact lifted os started H enc F)
set_option maxRecDepth 100000 in
theorem plain (f : FuncId) (fn : Func) (hf : Tryz.pinned.checked.prog.funcNamed "rotulus/rotuluslaw7.ScreenOwn" = some f) (hfn : Tryz.pinned.checked.prog.funcs[f]? = some fn) :
  false = Tryz.pinned.checked.prog.looks [] ∧ ∀ (j : Nat) t, fn.params[j]? = some t → Tryz.pinned.checked.prog.wantsStandIn t = false := by
 obtain rfl : f = 6 := Option.some.inj ((show Tryz.prog.funcNamed "rotulus/rotuluslaw7.ScreenOwn" = some 6 by kernel_rfl).symm.trans hf) |>.symm
 obtain rfl : fn = Tryz.f6 := (Option.some.inj (Tryz.func6.symm.trans hfn)).symm
 refine ⟨by kernel_rfl, fun j t ht => ?_⟩
 rw [Tryz.params6] at ht
 have hm := Array.mem_of_getElem? ht
 simp at hm
 subst hm
 exact (show Tryz.prog.wantsStandIn 54 = false by kernel_rfl)
set_option maxRecDepth 100000 in
theorem card : Rows.ScreenOwnCardSaid :=
 Claim7.holds_tied_plain_at .later [] _ _ _ _ said (fun _ h => by cases h) (by kernel_rfl) (fun _ h => by cases h) screenOwn_row_tie rfl ⟨rfl, rfl⟩ (by kernel_rfl) rfl plain (by kernel_rfl)
end Go.Proofs.YtgcfpfhmjhkgnaaGreatDoor.screenOwn
