import Derived.Test.YtmpoboffdfcpiaaGreatDoorQBase6
import Derived.Test.YtmpoboffdfcpiaaGreatDoorQRefRow2
import Derived.Test.YtmpoboffdfcpiaaGreatDoorQRefRow3
set_option maxRecDepth 100000
set_option maxHeartbeats 6400000
namespace Go.Proofs.YtmpoboffdfcpiaaGreatDoor
open Go.ChangeShapes Go.WideShapes Go.ChangeAt Go.RowKit
namespace Sc
open Rw
def rcells (s : Scr) (g cap : Nat) : Array Value := #[.int .i64 (s.w : Int), .int .i64 (s.rows.length : Int), .slice (some ⟨g, 0, none⟩) s.rows.length cap, .int .i64 (s.r : Int), .int .i64 (s.c : Int), .int .i64 s.a]
structure RAt (W : World) (p g cap : Nat) (tail : List Value) (s : Scr) (xs : List RowIn) : Prop where
 ok : Ok s
 same : xs.map sr = s.rows
 scr : W.heap[p]? = some (.cells (rcells s g cap) 97 (0, 0))
 rows : W.heap[g]? = some (.cells (xs.flatMap RowIn.vals ++ tail).toArray 58 (0, 0))
 fit : s.rows.length ≤ cap
 each : ∀ x ∈ xs, HasC W 0 (.slice x.A x.n x.c) x.l
namespace RAt
variable {W W' : World} {p g cap : Nat} {tail : List Value} {s : Scr} {xs : List RowIn}
theorem len (h : RAt W p g cap tail s xs) : xs.length = s.rows.length := by rw [← h.same, List.length_map]
theorem ltp (h : RAt W p g cap tail s xs) : p < W.heap.size := (Array.getElem?_eq_some_iff.1 h.scr).1
theorem ltg (h : RAt W p g cap tail s xs) : g < W.heap.size := (Array.getElem?_eq_some_iff.1 h.rows).1
theorem typ (h : RAt W p g cap tail s xs) : Typed W 97 p := ⟨_, _, h.scr⟩
theorem tyg (h : RAt W p g cap tail s xs) : Typed W 58 g := ⟨_, _, h.rows⟩
theorem ne (h : RAt W p g cap tail s xs) : p ≠ g := h.typ.apart h.tyg (by decide)
theorem noC (h : RAt W p g cap tail s xs) : ∀ k, k = p ∨ k = g → ¬ Typed W 62 k := by
 rintro k (rfl | rfl) t
 ·exact h.typ.apart t (by decide) rfl
 ·exact h.tyg.apart t (by decide) rfl
theorem get (h : RAt W p g cap tail s xs) (j : Nat) : W.cell? ⟨p, j, none⟩ = (rcells s g cap)[j]? := cell_of_row W p j _ _ (0, 0) h.scr
theorem free (h : RAt W p g cap tail s xs) (j : Nat) : W.frozen? ⟨p, j, none⟩ = false := frozen_of_row W p j _ _ h.scr
theorem freeg (h : RAt W p g cap tail s xs) (j : Nat) : W.frozen? ⟨g, j, none⟩ = false := frozen_of_row W g j _ _ h.rows
theorem rowc (h : RAt W p g cap tail s xs) {j : Nat} {u : Value} (hu : (xs.flatMap RowIn.vals)[j]? = some u) : W.cell? ⟨g, j, none⟩ = some u := by
 rw [cell_of_row W g _ _ _ (0, 0) h.rows, List.getElem?_toArray, List.getElem?_append_left (List.getElem?_eq_some_iff.1 hu).1]
 exact hu
theorem row (h : RAt W p g cap tail s xs) {i : Nat} {x : RowIn} (hx : xs[i]? = some x) : W.cell? ⟨g, i * 2, none⟩ = some (.slice x.A x.n x.c) ∧ W.cell? ⟨g, i * 2 + 1, none⟩ = some (.bool x.wrap) :=
 ⟨h.rowc (by have := flatMap_get RowIn.vals 2 (fun _ => rfl) xs i x hx 0 _ rfl; simpa using this), h.rowc (flatMap_get RowIn.vals 2 (fun _ => rfl) xs i x hx 1 _ rfl)⟩
theorem at' (h : RAt W p g cap tail s xs) {i : Nat} (hi : i < s.rows.length) : ∃ x, xs[i]? = some x ∧ s.rows[i]? = some (sr x) ∧ HasC W 0 (.slice x.A x.n x.c) x.l ∧ x.n = s.w ∧ x.n ≤ x.c ∧ Rw.Good x.l ∧ x.l.length = s.w ∧ ∀ c ∈ x.l, -2147483648 ≤ c.1 ∧ c.1 ≤ 2147483647 := by
 have hl := h.len
 obtain ⟨x, hx⟩ : ∃ x, xs[i]? = some x := ⟨_, List.getElem?_eq_getElem (by omega)⟩
 have hm := List.mem_of_getElem? hx
 have he := h.each x hm
 have hr : s.rows[i]? = some (sr x) := by rw [← h.same, List.getElem?_map, hx]; rfl
 have ho := h.ok.each _ (List.mem_of_getElem? hr)
 obtain ⟨_, _, e, hc⟩ := HasC.shape he
 injection e with _ e1 e2
 have ho1 : x.l.length = s.w := ho.2.1
 exact ⟨x, hx, hr, he, by omega, by omega, ho⟩
theorem kept (h : RAt W p g cap tail s xs) {M : Nat → Prop} (ht : Turned M W W') (hp : ¬ M p) (hg : ¬ M g) (hc : ∀ k, M k → ¬ Typed W 62 k) : RAt W' p g cap tail s xs :=
 ⟨h.ok, h.same, (ht.block p h.ltp hp).trans h.scr, (ht.block g h.ltg hg).trans h.rows, h.fit, fun x hx => hasC_turned (h.each x hx) ht hc⟩
theorem laid (h : RAt W p g cap tail s xs) (hb : Below W.heap.size W W') : RAt W' p g cap tail s xs := h.kept (M := fun _ => False) (Turned.ofBelow hb _) (fun f => f) (fun f => f) (fun _ f => f.elim)
theorem own (h : RAt W p g cap tail s xs) {s' : Scr} (hk : Ok s') (hr : s'.rows = s.rows) {j : Nat} {v : Value} (hc : (rcells s g cap).setIfInBounds j v = rcells s' g cap) : RAt (W.setCell ⟨p, j, none⟩ v) p g cap tail s' xs := by
 have ht := Turned.ofCell p j W v
 exact ⟨hk, by rw [hr]; exact h.same, by rw [← hc]; exact heap_setCell_same W p j _ _ _ h.scr, (ht.block g h.ltg (fun e => h.ne e.symm)).trans h.rows, by rw [hr]; exact h.fit, fun x hx => hasC_turned (h.each x hx) ht (fun k e => h.noC k (.inl e))⟩
theorem setRow (h : RAt W p g cap tail s xs) {r : Nat} (hr : r < s.rows.length) : RAt (W.setCell ⟨p, 3, none⟩ (.int .i64 (r : Int))) p g cap tail { s with r := r } xs :=
 h.own (s' := { s with r := r }) ⟨h.ok.w2, h.ok.w3, h.ok.h1, h.ok.h2, hr, h.ok.col, h.ok.a0, h.ok.a1, h.ok.each⟩ rfl rfl
theorem setCol (h : RAt W p g cap tail s xs) {c : Nat} (hc : c ≤ s.w) : RAt (W.setCell ⟨p, 4, none⟩ (.int .i64 (c : Int))) p g cap tail { s with c := c } xs :=
 h.own (s' := { s with c := c }) (h.ok.colIs hc) rfl rfl
theorem setAttr (h : RAt W p g cap tail s xs) {a : Int} (h0 : 0 ≤ a) (h1 : a ≤ 255) : RAt (W.setCell ⟨p, 5, none⟩ (.int .i64 a)) p g cap tail { s with a := a } xs :=
 h.own (s' := { s with a := a }) ⟨h.ok.w2, h.ok.w3, h.ok.h1, h.ok.h2, h.ok.row, h.ok.col, h0, h1, h.ok.each⟩ rfl rfl
theorem putRow (h : RAt W p g cap tail s xs) {i : Nat} {x y : RowIn} {f : SR → SR} (hy : xs[i]? = some y) (hx : sr x = f (sr y)) (hok : Ok { s with rows := s.rows.modify i f }) (hc : HasC W 0 (.slice x.A x.n x.c) x.l) :
  RAt ((W.setCell ⟨g, i * 2, none⟩ (.slice x.A x.n x.c)).setCell ⟨g, i * 2 + 1, none⟩ (.bool x.wrap)) p g cap tail { s with rows := s.rows.modify i f } (xs.set i x) := by
 have hi := (List.getElem?_eq_some_iff.1 hy).1
 have ht : Turned (· = g) W ((W.setCell ⟨g, i * 2, none⟩ (.slice x.A x.n x.c)).setCell ⟨g, i * 2 + 1, none⟩ (.bool x.wrap)) := Turned.ofOnly ((OnlyRow.cell g _ W _).trans (OnlyRow.cell g _ _ _))
 have hno : ∀ k, k = g → ¬ Typed W 62 k := fun k e => h.noC k (.inr e)
 have hl : (xs.flatMap RowIn.vals).length = xs.length * 2 := vals_length xs
 refine ⟨hok, by rw [map_set_modify hy hx, h.same], ?_, ?_, by rw [List.length_modify]; exact h.fit, fun z hz => ?_⟩
 ·rw [(ht.block p h.ltp h.ne), h.scr]
  unfold rcells
  simp
 ·rw [heap_setCell_same _ g _ _ _ _ (heap_setCell_same W g _ _ _ _ h.rows), vals_set xs i x hi]
  simp only [List.setIfInBounds_toArray]
  rw [List.set_append_left _ _ (by omega), List.set_append_left _ _ (by rw [List.length_set]; omega)]
 ·rcases List.mem_or_eq_of_mem_set hz with hz | rfl
  ·exact hasC_turned (h.each z hz) ht hno
  ·exact hasC_turned hc ht hno
theorem sq (h : RAt W p g cap tail s xs) {i : Nat} {x : RowIn} (hx : xs[i]? = some x) : Sq W W.heap.size 3 x.n x.A (flat x.l) := HasC.sq (h.each x (List.mem_of_getElem? hx))
end RAt
structure RTo (p g : Nat) (s' : Scr) (w : World) (g' : Nat) (w' : World) : Prop where
 at' : ∃ cap tail xs, RAt w' p g' cap tail s' xs
 turned : Turned (fun k => k = p ∨ k = g) w w'
 from' : g' = g ∨ w.heap.size ≤ g'
namespace RTo
variable {w w1 w2 : World} {p g g1 g2 : Nat} {s1 s2 : Scr}
theorem trans (h : RTo p g s1 w g1 w1) (k : RTo p g1 s2 w1 g2 w2) : RTo p g s2 w g2 w2 := by
 refine ⟨k.at', h.turned.trans k.turned (fun j hj m => ?_), ?_⟩
 ·rcases m with e | e
  ·exact .inl e
  ·rcases h.from' with e2 | e2
   ·exact .inr (e.trans e2)
   ·omega
 ·have := h.turned.size
  rcases k.from' with e | e
  ·rw [e]; exact h.from'
  ·exact .inr (by omega)
theorem behind (hb : Below w.heap.size w w1) (k : RTo p g s2 w1 g2 w2) : RTo p g s2 w g2 w2 :=
 ⟨k.at', (Turned.ofBelow hb _).trans k.turned (fun _ _ m => m), by
  have := hb.size
  rcases k.from' with e | e
  ·exact .inl e
  ·exact .inr (by omega)⟩
theorem ahead (k : RTo p g s2 w g2 w1) (hb : Below w1.heap.size w1 w2) : RTo p g s2 w g2 w2 :=
 ⟨by obtain ⟨cap, tail, xs, h⟩ := k.at'; exact ⟨cap, tail, xs, h.laid hb⟩, k.turned.trans (Turned.ofBelow hb (fun k => k = p ∨ k = g)) (fun _ _ m => m), k.from'⟩
end RTo
theorem RAt.to {w : World} {p g cap : Nat} {tail : List Value} {s : Scr} {xs : List RowIn} (h : RAt w p g cap tail s xs) : RTo p g s w g w := ⟨⟨cap, tail, xs, h⟩, Turned.refl _ _, .inl rfl⟩
theorem RTo.cell {w W : World} {p g cap : Nat} {tail : List Value} {s : Scr} {xs : List RowIn} {j : Nat} {v : Value} (hb : Below w.heap.size w W) (h : RAt (W.setCell ⟨p, j, none⟩ v) p g cap tail s xs) : RTo p g s w g (W.setCell ⟨p, j, none⟩ v) :=
 ⟨⟨cap, tail, xs, h⟩, (Turned.ofBelow hb _).trans ((Turned.ofCell p j W v).mono fun _ _ e => .inl e) (fun _ _ m => m), .inl rfl⟩
def RDone (p g : Nat) (s' : Scr) (w : World) (e : Ending) (w' : World) : Prop := (∃ v, e = .returned v) ∧ ∃ g', RTo p g s' w g' w'
theorem rput_done {w W : World} {p g cap i n c : Nat} {tail : List Value} {s : Scr} {xs : List RowIn} {x : RowIn} {A : Option Addr} {l : List Cel} {wr : Bool} {f : SR → SR} (h : RAt w p g cap tail s xs) (hx : xs[i]? = some x) (hf : (l, wr) = f (sr x)) (hok : Ok { s with rows := s.rows.modify i f }) (hW : HasC W w.heap.size (.slice A n c) l) (hb : Below w.heap.size w W) :
  RTo p g { s with rows := s.rows.modify i f } w g ((W.setCell ⟨g, i * 2, none⟩ (.slice A n c)).setCell ⟨g, i * 2 + 1, none⟩ (.bool wr)) := by
 have hp := (h.laid hb).putRow (x := ⟨A, n, c, wr, l⟩) (f := f) hx hf hok (HasC.mono hW (Nat.zero_le _))
 exact ⟨⟨cap, tail, _, hp⟩, (Turned.ofBelow hb _).trans ((Turned.ofOnly ((OnlyRow.cell g _ W _).trans (OnlyRow.cell g _ _ _))).mono (fun _ _ e => .inr e)) (fun _ _ h => h), .inl rfl⟩
theorem eraseOk_in {w : Nat} {x : SR} {f t : Int} (h : RowOk w x) (h3 : w ≤ 300) (hf : 0 ≤ f) (hft : f ≤ t) (ht : t ≤ w) : eraseOk x.1 f t = true := by
 unfold eraseOk
 rw [(mayL_iff _).2 ⟨by rw [h.2.1]; exact h3, h.1⟩, decide_eq_true hf, decide_eq_true hft, h.2.1, decide_eq_true ht]
 rfl
theorem rwipe_walk0 {p g cap : Nat} {tail : List Value} {s : Scr} {xs : List RowIn} (i : Nat) (f t : Int) (w : World) (h : RAt w p g cap tail s xs) (hi : i < s.rows.length) (hf : 0 ≤ f) (hft : f ≤ t) (ht : t ≤ s.w) : Calls Tryz.prog 126 #[ptrS p, .int .i64 (i : Int), .int .i64 f, .int .i64 t] w fun e w' => (∃ v, e = .returned v) ∧ RTo p g (eraseS s i f t) w g w' := by
 obtain ⟨x, hx, hsr, hc, hn, hnc, hg, hl, hsg⟩ := h.at' hi
 have hd := h.laid (Below.refl _ _).drew
 have hOK : eraseOk x.l f t = true := eraseOk_in (x := sr x) ⟨hg, hl, hsg⟩ h.ok.w3 hf hft ht
 have SW := refErase_walk x.A x.n x.c x.wrap x.l f t w.drew hnc hsg (hd.sq hx) (by rw [hn]; have := h.ok.w3; omega)
 rw [hOK] at SW
 go_enter Tryz.func126, Tryz.ntmps126
 go_wp2_with fail
 refine Ord.start (S := fun W => W.heap[p]? = w.drew.heap[p]?) (n := 20) (by kernel_rfl) (by kernel_rfl) rfl ?_
 have ofp : ∀ (W : World) (j : Nat), W.heap[p]? = w.drew.heap[p]? → W.cell? ⟨p, j, none⟩ = (rcells s g cap)[j]? := fun W j e => cell_of_row W p j _ _ (0, 0) (e.trans hd.scr)
 apply rwipe_region (w1 := w.drew) (p := p) (g := g) (sh := s.rows.length) (sc := cap) (i := i) (f := f) (t := t) (xA := x.A) (xn := x.n) (xc := x.c) (xw := x.wrap) (yw := eraseWrap x.wrap x.l f t) (ok := true) (K := fun W A n c => HasC W w.drew.heap.size (.slice A n c) (eraseRes x.l f t) ∧ Below w.drew.heap.size w.drew W)
 case R => exact ⟨by kernel_rfl, by kernel_rfl⟩
 case hQ => exact fun _ _ _ _ _ h => h
 case k2 => exact fun W e => ofp W 2 e
 case hi0 => omega
 case hih => omega
 case g0 => exact (hd.row hx).1
 case g1 => exact (hd.row hx).2
 case SW =>
  refine SW.mono ?_
  rintro e w' ⟨A, n, c, rfl, _, _, h2, h1⟩
  exact ⟨A, n, c, rfl, h1 rfl, h2⟩
 case KS => exact fun W A n c hK => hK.2.block p hd.ltp
 case KG => exact fun W A n c hK => ⟨⟨_, ((hd.laid hK.2).row hx).1⟩, ⟨_, ((hd.laid hK.2).row hx).2⟩, (hd.laid hK.2).freeg _, (hd.laid hK.2).freeg _⟩
 case KE => exact fun W A n c hK => (Below.heap_setCell _ _ _ _ (by exact hd.ne)).trans ((Below.heap_setCell _ _ _ _ (by exact hd.ne)).trans (hK.2.block p hd.ltp))
 case F => exact ⟨rfl, rfl, rfl, rfl, rfl, rfl⟩
 intro a2 W A n c hK F2
 have D' := Lib.hid (show RTo p g (eraseS s i f t) w g ((W.setCell ⟨g, i * 2, none⟩ (.slice A n c)).setCell ⟨g, i * 2 + 1, none⟩ (.bool (eraseWrap x.wrap x.l f t))) from RTo.behind (Below.refl _ _).drew (rput_done (f := eraseR f t) hd hx rfl (h.ok.erase i f t) hK.1 hK.2))
 refine rwipe_frame F2.size F2.defers F2.s0 F2.s1 F2.s2 F2.s3 ?_
 intros
 clear F2 SW hK
 try dsimp only
 go_wp2
 go_end0
 exact ⟨⟨_, rfl⟩, D'.out⟩
theorem rwipe_walk {p g cap : Nat} {tail : List Value} {s : Scr} {xs : List RowIn} (i : Nat) (f t : Int) (w : World) (h : RAt w p g cap tail s xs) (hi : i < s.rows.length) (hf : 0 ≤ f) (hft : f ≤ t) (ht : t ≤ s.w) : Calls Tryz.prog 126 #[ptrS p, .int .i64 (i : Int), .int .i64 f, .int .i64 t] w fun e w' => RDone p g (eraseS s i f t) w e w' :=
 (rwipe_walk0 i f t w h hi hf hft ht).mono fun _ _ h => ⟨h.1, g, h.2⟩
theorem RDone.behind {p g : Nat} {s' : Scr} {w w1 : World} {e : Ending} {w' : World} (hb : Below w.heap.size w w1) (h : RDone p g s' w1 e w') : RDone p g s' w e w' := let ⟨h1, g', h2⟩ := h; ⟨h1, g', RTo.behind hb h2⟩
def argL (l : List Int) (i : Nat) (d : Int) : Int := if l.length ≤ i ∨ nth l i = 0 then d else nth l i
theorem arg_walk (A : Option Addr) (n c : Nat) (l : List Int) (i : Nat) (d : Int) (w : World) (hq : Sq w w.heap.size 1 n A (l.map (Value.int .i64))) : Calls Tryz.prog 125 #[.slice A n c, .int .i64 (i : Int), .int .i64 d] w fun e w' => e = .returned (.int .i64 (argL l i d)) ∧ w' = w := by
 have hl := hq.size_ints
 by_cases hi : i < n
 ·obtain ⟨b, off, rfl, _, hc⟩ := hq.int_at hi
  obtain ⟨y, hy⟩ : ∃ y, nth l i = y := ⟨_, rfl⟩
  have hA : argL l i d = if y = 0 then d else y := by unfold argL; rw [hy]; by_cases h0 : y = 0 <;> simp [h0]; omega
  rw [hA]
  rw [hy] at hc
  have hi0 : (0 : Int) ≤ (i : Int) := by omega
  have hin : (i : Int) < (n : Int) := by omega
  have hin2 : ¬ (n : Int) ≤ (i : Int) := by omega
  clear hq hl hy hA
  by_cases h0 : y = 0
  ·subst h0
   go_enter Tryz.func125, Tryz.ntmps125
   go_wp2
   go_ret
   exact ⟨rfl, rfl⟩
  ·have h0b : (y == 0) = false := by simpa using h0
   rw [if_neg h0]
   go_enter Tryz.func125, Tryz.ntmps125
   go_wp2
   go_ret
   exact ⟨rfl, rfl⟩
 ·have hA : argL l i d = d := by unfold argL; rw [if_pos (.inl (by omega))]
  rw [hA]
  have hin2 : (n : Int) ≤ (i : Int) := by omega
  clear hq hl hA
  go_enter Tryz.func125, Tryz.ntmps125
  go_wp2
  go_ret
  exact ⟨rfl, rfl⟩
end Sc
namespace Sc
open Rw
def RTold (p g : Nat) (s' : Scr) (out : List SR) (w : World) (e : Ending) (w' : World) : Prop :=
 ∃ v ys g', e = .returned v ∧ RTo p g s' w g' w' ∧ RowsIn w' 0 v ys ∧ ys.map sr = out ∧ (∀ y ∈ ys, y.n ≤ 300) ∧ ∀ k, v.ownBlock = some k → k ≠ g'
theorem rtold_none {p g g' : Nat} {s' : Scr} {w w' : World} (h : RTo p g s' w g' w') : RTold p g s' [] w (.returned (.slice none 0 0)) w' :=
 ⟨_, [], g', rfl, h, RowsIn.nothing _ _, rfl, (fun _ h => by cases h), fun _ h => by cases h⟩
theorem own_room {W : World} {base m c : Nat} {A : Option Addr} {e : TypeId} {s : Nat} {vs : List Value} (h : W.ownsRow base e s (.slice A m c) m vs) (hm : 0 < m) : ∃ g tail, A = some ⟨g, 0, none⟩ ∧ base ≤ g ∧ m ≤ c ∧ W.heap[g]? = some (.cells (vs ++ tail).toArray e (0, 0)) := by
 rcases h.2 with ⟨e, h0⟩ | ⟨g, cap, cur, e, e2, e3, e4, e5, e6, e7⟩
 ·omega
 ·injection e with ea eb ec
  subst ea ec
  have hcur : cur = (vs ++ cur.toList.drop (m * s)).toArray := by
   apply Array.ext'
   rw [← e7]
   simp
  exact ⟨g, cur.toList.drop (m * s), rfl, e2, e4, by rw [← hcur]; exact e3⟩
theorem infoRowR : (Tryz.prog.info? 58).map (fun i => (i.zero, i.size, i.bytes)) = some (some (.agg #[.slice none 0 0, .bool false]), 2, 32) := by kernel_rfl
theorem vals_onesR (l : List RowIn) : ∀ u ∈ l.flatMap RowIn.vals, u.oneCell' = true := by
 intro u hu
 obtain ⟨x, _, hx⟩ := List.mem_flatMap.1 hu
 exact vals_one x u hx
theorem rdown_walk {p g cap : Nat} {tail : List Value} {s : Scr} {xs : List RowIn} (w : World) (h : RAt w p g cap tail s xs) : Calls Tryz.prog 70 #[ptrS p] w fun e w' => RTold p g (downS s) (downO s) w e w' := by
 obtain ⟨i0, hi, hz0, hz1, hz2⟩ := info_parts infoRowR
 have hd := h.laid (Below.refl _ _).drew
 have h100 := h.ok.h2
 have k1 : w.drew.cell? ⟨p, 1, none⟩ = some (.int .i64 (s.rows.length : Int)) := hd.get 1
 have k3 : w.drew.cell? ⟨p, 3, none⟩ = some (.int .i64 (s.r : Int)) := hd.get 3
 have hrow := h.ok.row
 have hr1 : IntKind.i64.wrap ((s.r : Int) + 1) = ((s.r + 1 : Nat) : Int) := by rw [IntWalk.i64_in _ (by omega)]; omega
 by_cases hr : s.r + 1 < s.rows.length
 ·have f3 : w.drew.frozen? ⟨p, 3, none⟩ = false := hd.free 3
  have hlt : ((s.r + 1 : Nat) : Int) < (s.rows.length : Int) := by omega
  have D := Lib.hid (show RTold p g (downS s) (downO s) w (.returned (.slice none 0 0)) (w.drew.setCell ⟨p, 3, none⟩ (.int .i64 ((s.r + 1 : Nat) : Int))) from by
   have e1 : downS s = { s with r := s.r + 1 } := by unfold downS; rw [if_pos hr]
   have e2 : downO s = [] := by unfold downO; rw [if_pos hr]
   rw [e1, e2]
   exact rtold_none (RTo.cell (Below.refl _ _).drew (hd.setRow hr)))
  generalize s.rows.length = sh at k1 hlt
  generalize ((s.r + 1 : Nat) : Int) = r1 at hr1 D hlt
  clear hd hr h hrow h100
  go_enter Tryz.func70, Tryz.ntmps70
  go_wp2_with fail
  go_region
  all_goals go_wp2
  all_goals
   go_ret
   exact D.out
 ·have hlt : ¬ ((s.r + 1 : Nat) : Int) < (s.rows.length : Int) := by omega
  cases xs with
  | nil => have := h.len; have := h.ok.h1; simp at *; omega
  | cons x xs =>
   have k2 : w.drew.cell? ⟨p, 2, none⟩ = some (.slice (some ⟨g, 0, none⟩) s.rows.length cap) := hd.get 2
   have g0 : w.drew.cell? ⟨g, 0, none⟩ = some (.slice x.A x.n x.c) := by have := (hd.row (i := 0) (x := x) rfl).1; simpa using this
   have g1 : w.drew.cell? ⟨g, 1, none⟩ = some (.bool x.wrap) := by have := (hd.row (i := 0) (x := x) rfl).2; simpa using this
   have h1 := h.ok.h1
   have q0 : (0 : Int) < (s.rows.length : Int) := by omega
   obtain ⟨b3, hb3⟩ : ∃ b3, w.heap.size = b3 := ⟨_, rfl⟩
   obtain ⟨w4, hw4⟩ : ∃ w4, w.drew.alloc (.cells #[.slice x.A x.n x.c, .bool x.wrap] 58) = w4 := ⟨_, rfl⟩
   have b4 : Below w.heap.size w w4 := by rw [← hw4]; exact (Below.refl _ _).drew.alloc (Nat.le_refl _) _
   have r4 : RowAt w4 b3 (.slice x.A x.n x.c) x.wrap := by rw [← hw4, ← hb3]; exact heap_alloc_new w.drew _
   have z4 : w4.heap.size = b3 + 1 := by rw [← hw4, ← hb3]; simp
   have H := Lib.hid h
   have H4 := Lib.hid ((h.laid b4).laid (Below.refl _ _).drew)
   have R4 := Lib.hid (show RowAt w4.drew b3 (.slice x.A x.n x.c) x.wrap from r4)
   have B4 := Lib.hid b4.drew
   have HW4 := Lib.hid hw4
   have Z4 := Lib.hid (show w4.drew.heap.size = b3 + 1 from z4)
   have HB3 := Lib.hid hb3
   have HR := Lib.hid hr
   obtain ⟨sh, hsh⟩ : ∃ sh, s.rows.length = sh := ⟨_, rfl⟩
   have HSH := Lib.hid hsh
   rw [hsh] at hlt k1 k2 q0
   generalize ((s.r + 1 : Nat) : Int) = r1 at hr1 hlt
   clear hd hw4 b4 r4 h hr hrow h100 h1 z4 hb3 hsh
   go_enter Tryz.func70, Tryz.ntmps70
   go_wp2_with fail
   go_region
   all_goals go_wp2_with fail
   obtain ⟨q, hq⟩ : ∃ q, xs.length = q := ⟨_, rfl⟩
   have hlen : sh = q + 1 := by rw [← HSH.out, ← H.out.len, List.length_cons, hq]
   have w23 := And.intro H.out.ok.w2 H.out.ok.w3
   have h100 : q + 1 ≤ 100 := by rw [← hlen, ← HSH.out]; exact H.out.ok.h2
   have hbl : blankN (s.w : Int) = s.w := by unfold blankN; omega
   have hcap : sh ≤ cap := by rw [← HSH.out]; exact H.out.fit
   have hvs : (xs.flatMap RowIn.vals).length = q * 2 := by rw [vals_length, hq]
   obtain ⟨A36, hA36⟩ : ∃ A36, (if cap = 1 then (some (⟨g, 0, none⟩ : Addr)) else some ⟨g, 2, none⟩) = A36 := ⟨_, rfl⟩
   change Code.wp _ _ _ _ (w.drew.alloc (.cells #[.slice x.A x.n x.c, .bool x.wrap] 58))
   rw [HW4.out, HB3.out]
   refine Ord.start (S := fun W => W.cell? ⟨p, 0, none⟩ = some (.int .i64 (s.w : Int))) (n := 17) (by kernel_rfl) (by kernel_rfl) (H4.out.get 0) ?_
   apply rdown_region (w1 := w4.drew) (p := p) (g := g) (q := q) (sh := sh) (sc := cap) (c36 := cap - 1) (sw := s.w) (A36 := A36) (vs := xs.flatMap RowIn.vals) (bl := blanksL s.w) (p3 := .slice (some ⟨b3, 0, none⟩) 1 1) (i0 := i0)
   case R => exact ⟨by kernel_rfl, by kernel_rfl⟩
   case hQ => exact fun _ _ _ _ _ h => h
   case hi => exact hi
   case hz0 => exact hz0
   case hz1 => exact hz1
   case hz2 => exact hz2
   case hp => exact H4.out.ltp
   case k0 => exact H4.out.get 0
   case k2 => have := H4.out.get 2; rw [← HSH.out]; exact this
   case f2 => exact H4.out.free 2
   case hcut => exact ⟨hlen, by omega, hA36, rfl⟩
   case Q36 =>
    refine ⟨hvs, fun hq0 => ?_⟩
    have hc1 : cap ≠ 1 := by omega
    rw [if_neg hc1] at hA36
    refine ⟨g, 2, hA36.symm, H4.out.ltg, fun j u hu => H4.out.rowc ?_⟩
    rw [List.flatMap_cons, List.getElem?_append_right (by show 2 ≤ 2 + j; omega)]
    rw [show 2 + j - x.vals.length = j by show 2 + j - 2 = j; omega]
    exact hu
   case hvs => exact vals_onesR xs
   case BLK =>
    intro W
    have hb := refBlankRow_walk (s.w : Int) W
    rw [hbl] at hb
    exact hb
   case fit1 => unfold maxLen; omega
   case fit2 => omega
   case fit3 => unfold maxLen; omega
   case fit4 => omega
   case F => exact ⟨rfl, rfl, rfl, rfl⟩
   intro a2 w5 A5 c5 A7 n7 c7 Bel H5 HB F2
   have D : RTold p g (downS s) (downO s) w (.returned (.slice (some ⟨b3, 0, none⟩) 1 1)) (w5.setCell ⟨p, 2, none⟩ (.slice A5 (q + 1) c5)) := by
    obtain ⟨g', tl, rfl, hg', hc5, hgr⟩ := own_room H5 (by omega)
    have h4p := H4.out.ltp
    have hlp := H.out.ltp
    have hz := Z4.out
    have hb3 := HB3.out
    have ho := OnlyRow.cell p 2 w5 (.slice (some ⟨g', 0, none⟩) (q + 1) c5)
    have hd : downS s = { s with rows := s.rows.drop 1 ++ [(blanksL s.w, false)] } := by unfold downS; rw [if_neg HR.out]
    have hO : downO s = [sr x] := by unfold downO; rw [if_neg HR.out, ← H.out.same]; rfl
    have hlen2 : (s.rows.drop 1 ++ [(blanksL s.w, false)]).length = q + 1 := by rw [List.length_append, List.length_drop, HSH.out, hlen]; rfl
    have ht4 : Turned (fun k => k = p) w4.drew (w5.setCell ⟨p, 2, none⟩ (.slice (some ⟨g', 0, none⟩) (q + 1) c5)) := (Turned.ofBelow Bel (fun k => k = p)).trans (Turned.ofCell p 2 w5 _) (fun _ _ m => m)
    have htw : Turned (fun k => k = p) w (w5.setCell ⟨p, 2, none⟩ (.slice (some ⟨g', 0, none⟩) (q + 1) c5)) := (Turned.ofBelow B4.out (fun k => k = p)).trans ht4 (fun _ _ m => m)
    have hno : ∀ k, k = p → ¬ Typed w4.drew 62 k := fun k e => H4.out.noC k (.inl e)
    have hno5 : ∀ k, k = p → ¬ Typed w5 62 k := fun k e t => by
     subst e
     exact (show Typed w5 97 k from ⟨_, _, (Bel.block k h4p).trans H4.out.scr⟩).apart t (by decide) rfl
    refine ⟨_, [x], g', rfl, ⟨⟨c5, tl, xs ++ [⟨A7, n7, c7, false, blanksL s.w⟩], ⟨H.out.ok.down, ?_, ?_, ?_, ?_, fun z hz' => ?_⟩⟩, htw.mono (fun _ _ e => .inl e), .inr (by omega)⟩, ⟨⟨rfl, .inr ⟨b3, 1, #[.slice x.A x.n x.c, .bool x.wrap], rfl, Nat.zero_le _, ?_, Nat.le_refl _, by unfold maxLen; omega, rfl, rfl⟩⟩, fun z hz' => ?_⟩, by rw [hO]; rfl, fun z hz' => ?_, fun k hk => ?_⟩
    ·rw [hd]
     show (xs ++ [_]).map sr = s.rows.drop 1 ++ [(blanksL s.w, false)]
     rw [List.map_append, ← H.out.same]
     rfl
    ·rw [heap_setCell_same _ p 2 _ _ _ ((Bel.block p h4p).trans H4.out.scr), hd]
     unfold rcells
     simp only [hlen2, show s.rows.length = q + 1 from HSH.out.trans hlen]
     rfl
    ·rw [ho.block g' (by omega), hgr, List.flatMap_append]
     rfl
    ·rw [hd]
     show (s.rows.drop 1 ++ [(blanksL s.w, false)]).length ≤ c5
     rw [hlen2]
     exact hc5
    ·rcases List.mem_append.1 hz' with hz' | hz'
     ·exact hasC_turned (H4.out.each z (List.mem_cons_of_mem _ hz')) ht4 hno
     ·rw [List.mem_singleton.1 hz']
      exact hasC_turned (HasC.mono HB (Nat.zero_le _)) (Turned.ofCell p 2 w5 _) hno5
    ·exact (ht4.block b3 (by omega) (by omega)).trans R4.out
    ·rw [List.mem_singleton.1 hz']
     obtain ⟨x', hx', _, hx1, _, _, _, _, hx2⟩ := H4.out.at' (i := 0) (by rw [HSH.out]; omega)
     obtain rfl : x = x' := by simpa using hx'
     exact ⟨hasC_turned hx1 ht4 hno, hx2⟩
    ·rw [List.mem_singleton.1 hz']
     obtain ⟨x', hx', _, _, hx1, _⟩ := H4.out.at' (i := 0) (by rw [HSH.out]; omega)
     obtain rfl : x = x' := by simpa using hx'
     omega
    ·injection hk with hk
     have hk2 : b3 = k := hk
     omega
   have D' := Lib.hid D
   refine rdown_frame F2.size F2.defers F2.s0 F2.s3 ?_
   clear F2 D Bel H5 HB
   intros
   try dsimp only
   go_wp2
   go_ret
   exact D'.out
end Sc
namespace Sc
open Rw
theorem out_kept {W W' : World} {v : Value} {ys : List RowIn} {p g : Nat} (h : RowsIn W 0 v ys) (hp : Typed W 97 p) (hg : Typed W 58 g) (hv : ∀ k, v.ownBlock = some k → k ≠ g) (ht : Turned (fun k => k = p ∨ k = g) W W') : RowsIn W' 0 v ys :=
 h.turned ht (fun k e m => by
  rcases m with m | m
  ·exact hp.apart (h.typed k e) (by decide) m.symm
  ·exact hv k e m) (fun k m t => by
  rcases m with rfl | rfl
  ·exact hp.apart t (by decide) rfl
  ·exact hg.apart t (by decide) rfl)
def wrapR (s : Scr) : Scr := { s with rows := s.rows.modify s.r (fun x => (x.1, true)) }
theorem wrapR_ok {s : Scr} (h : Ok s) : Ok (wrapR s) :=
 ⟨h.w2, h.w3, by simpa [wrapR] using h.h1, by simpa [wrapR] using h.h2, by simpa [wrapR] using h.row, h.col, h.a0, h.a1, each_modify (P := RowOk s.w) h.each fun _ hx => hx⟩
theorem downS_col (s : Scr) (c : Nat) : downS { s with c := c } = { downS s with c := c } := by
 unfold downS
 split <;> rfl
theorem wrapS_eq (s : Scr) : wrapS s = { downS (wrapR (padS s)) with c := 0 } := by
 unfold wrapS
 rw [← downS_col]
 rfl
theorem wrapO_eq (s : Scr) : wrapO s = downO (wrapR (padS s)) := rfl
theorem RAt.mark {W : World} {p g cap : Nat} {tail : List Value} {s : Scr} {xs : List RowIn} {x : RowIn} (h : RAt W p g cap tail s xs) (hx : xs[s.r]? = some x) : RAt (W.setCell ⟨g, s.r * 2 + 1, none⟩ (.bool true)) p g cap tail (wrapR s) (xs.set s.r { x with wrap := true }) := by
 have ht : Turned (· = g) W (W.setCell ⟨g, s.r * 2 + 1, none⟩ (.bool true)) := Turned.ofOnly (OnlyRow.cell g _ W _)
 have hno : ∀ k, k = g → ¬ Typed W 62 k := fun k e => h.noC k (.inr e)
 have hl : (xs.flatMap RowIn.vals).length = xs.length * 2 := vals_length xs
 have hi := (List.getElem?_eq_some_iff.1 hx).1
 refine ⟨wrapR_ok h.ok, ?_, ?_, ?_, by show (s.rows.modify _ _).length ≤ cap; rw [List.length_modify]; exact h.fit, fun z hz => ?_⟩
 ·show (xs.set s.r { x with wrap := true }).map sr = s.rows.modify s.r (fun x => (x.1, true))
  rw [map_set_modify (f := fun x => (x.1, true)) hx rfl, h.same]
 ·rw [ht.block p h.ltp h.ne, h.scr]
  unfold rcells wrapR
  simp
 ·rw [heap_setCell_same _ g _ _ _ _ h.rows]
  simp only [List.setIfInBounds_toArray]
  rw [List.set_append_left _ _ (by omega), vals_mark hx]
 ·rcases List.mem_or_eq_of_mem_set hz with hz | rfl
  ·exact hasC_turned (h.each z hz) ht hno
  ·exact hasC_turned (h.each x (List.mem_of_getElem? hx)) ht hno
theorem rprint_walk {p g cap : Nat} {tail : List Value} {s : Scr} {xs : List RowIn} (r : Int) (hr0 : -2147483648 ≤ r) (hr1 : r ≤ 2147483647) (w : World) (h : RAt w p g cap tail s xs) : Calls Tryz.prog 69 #[ptrS p, .int .i32 r] w fun e w' => RTold p g (printS s r) (printO s r) w e w' := by
 obtain ⟨a, ha⟩ : ∃ a, s.a = a := ⟨_, rfl⟩
 have k5 : w.cell? ⟨p, 5, none⟩ = some (.int .i64 a) := by rw [← ha]; exact h.get 5
 have CW := Lib.hid (refCells_walk r a hr0 hr1 (by rw [← ha]; exact h.ok.a0) (by rw [← ha]; exact h.ok.a1) w)
 have hwr := wof_range r
 have hLw : ((ofL r a).length : Int) = wof r := ofL_length (by rw [← ha]; exact h.ok.a0) (by rw [← ha]; exact h.ok.a1)
 have SG := Lib.hid (ofL_signs (r := r) (a := a) hr0 hr1)
 obtain ⟨m, hm⟩ : ∃ m, (ofL r a).length = m := ⟨_, rfl⟩
 rw [hm] at hLw
 have LM := Lib.hid hm
 have m2 : m ≤ 2 := by omega
 have H := Lib.hid h
 clear h
 go_enter Tryz.func69, Tryz.ntmps69
 go_wp2_with fail
 refine CW.out.mono ?_
 rintro e w1 ⟨v5, rfl, h5, b1⟩
 obtain ⟨A5, c5, rfl, _⟩ := HasC.shape h5
 rw [hm] at h5 ⊢
 have H1 := Lib.hid (H.out.laid b1)
 have B1 := Lib.hid b1
 have Q5 := Lib.hid (HasC.sq h5)
 have HC5 := Lib.hid (HasC.mono h5 (Nat.zero_le _))
 clear CW h5 b1 k5
 by_cases hm0 : m = 0
 ·subst hm0
  have hk : wof r = 0 := by omega
  have D := Lib.hid (show RTold p g (printS s r) (printO s r) w (.returned (.slice none 0 0)) w1 from by
   unfold printS printO
   rw [if_pos hk, if_pos hk]
   exact rtold_none (RTo.behind B1.out H1.out.to))
  clear SG LM
  go_wp2
  go_ret
  exact D.out
 have hk : wof r ≠ 0 := by omega
 have hmb : ((m : Int) == 0) = false := by simp; omega
 have ONE := Lib.hid (isOne_of (r := r) (a := a) (fun e => by rw [e] at hm; simp at hm; omega))
 have hcol := H.out.ok.col
 have hw2 := H.out.ok.w2
 have hw3 := H.out.ok.w3
 obtain ⟨k, hkk⟩ : ∃ k, wof r = k := ⟨_, rfl⟩
 have hkm : k = (m : Int) := by omega
 have eP : printS s r = ahead (setS (roomS s k) (ofL r (roomS s k).a)) k := by unfold printS; rw [if_neg hk, hkk, (roomS_w s k).2]
 have eO : printO s r = roomO s k := by unfold printO; rw [if_neg hk, hkk]
 have hroom := H.out.ok.room_col (k := k) (by omega) (by omega)
 have hrw := (roomS_w s k).1
 have hra : (roomS s k).a = a := (roomS_w s k).2.trans ha
 have LAST := Lib.hid (show ∀ (W8 W : World) (g1 g8 cap8 : Nat) (tl8 : List Value) (xs8 ys : List RowIn) (v : Value), RTo p g (roomS s k) w g1 W → g8 = g1 → RTo p g1 (setS (roomS s k) (ofL r a)) W g8 W8 → RAt W8 p g8 cap8 tl8 (setS (roomS s k) (ofL r a)) xs8 → RowsIn W 0 v ys → ys.map sr = roomO s k → (∀ y ∈ ys, y.n ≤ 300) → (∀ k, v.ownBlock = some k → k ≠ g1) → RTold p g (printS s r) (printO s r) w (.returned v) (W8.setCell ⟨p, 4, none⟩ (.int .i64 (((roomS s k).c + m : Nat) : Int))) from by
  rintro W8 W g1 g8 cap8 tl8 xs8 ys v T1 rfl T8 R8 O1 O2 O3 O4
  rw [eP, eO, hra]
  have hs : (ahead (setS (roomS s k) (ofL r a)) k) = { setS (roomS s k) (ofL r a) with c := (roomS s k).c + m } := by
   unfold ahead
   rw [hkm]
   rfl
  rw [hs]
  have R9 := R8.setCol (c := (roomS s k).c + m) (by show (roomS s k).c + m ≤ (roomS s k).w; rw [hrw]; omega)
  have T9 := (T1.trans T8).trans (RTo.cell (Below.refl _ _) R9)
  have TW := T8.trans (RTo.cell (Below.refl _ _) R9)
  obtain ⟨_, _, _, RW⟩ := T1.at'
  exact ⟨v, ys, g8, rfl, T9, out_kept O1 RW.typ RW.tyg O4 TW.turned, O2, O3, O4⟩)
 have hd1 := Lib.hid (H1.out.laid (Below.refl w1.heap.size w1).drew)
 have k0 : w1.drew.cell? ⟨p, 0, none⟩ = some (.int .i64 (s.w : Int)) := hd1.out.get 0
 have k4 : w1.drew.cell? ⟨p, 4, none⟩ = some (.int .i64 (s.c : Int)) := hd1.out.get 4
 have hsum : IntKind.i64.wrap ((s.c : Int) + (m : Int)) = (s.c : Int) + (m : Int) := IntWalk.i64_in _ (by omega)
 by_cases hfit : (s.w : Int) < (s.c : Int) + (m : Int)
 ·have e1 : roomS s k = wrapS s := by unfold roomS; rw [if_pos (by omega)]
  have e2 : roomO s k = wrapO s := by unfold roomO; rw [if_pos (by omega)]
  rw [e1] at LAST hroom hrw hra
  rw [e2] at LAST
  have hcm : (wrapS s).c + m ≤ (wrapS s).w := by omega
  have hd2 := Lib.hid (hd1.out.laid (Below.refl w1.drew.heap.size w1.drew).drew)
  have k0' : w1.drew.drew.cell? ⟨p, 0, none⟩ = some (.int .i64 (s.w : Int)) := hd2.out.get 0
  have k4' : w1.drew.drew.cell? ⟨p, 4, none⟩ = some (.int .i64 (s.c : Int)) := hd2.out.get 4
  clear eP eO H hLw hkk hkm hwr hrw hra hroom e1 e2 ha hm hk
  go_upto_region 5 with fail
  go_region
  go_upto_region 6 with fail
  go_region
  by_cases hcw : s.c < s.w
  ·have hcw' : (s.c : Int) < (s.w : Int) := by omega
   have eP2 : padS s = setS s [(0, 1, 0)] := by unfold padS; rw [if_pos hcw]
   have hd3 := Lib.hid (hd2.out.laid (Below.refl w1.drew.drew.heap.size w1.drew.drew).drew)
   obtain ⟨x, hx, hsr, hc, hn, hnc, hg, hl, hsg⟩ := hd3.out.at' hd3.out.ok.row
   have hOK : setOk x.l (s.c : Int) [(0, 1, 0)] = true := by
    unfold setOk
    rw [(mayL_iff _).2 ⟨by rw [hl]; exact hw3, hg⟩, isOne_pad, hl, decide_eq_true (show (0 : Int) ≤ (s.c : Int) by omega), decide_eq_true (show (s.c : Int) ≤ (s.w : Int) - (([(0, 1, 0)] : List Cel).length : Int) by simp; omega)]
    rfl
   have SGP : ∀ c ∈ ([(0, 1, 0)] : List Cel), -2147483648 ≤ c.1 ∧ c.1 ≤ 2147483647 := by intro c hc; rw [List.mem_singleton.1 hc]; simp
   go_upto_region 7 with fail
   refine Ord.start (S := fun W => W.heap[p]? = w1.drew.drew.drew.heap[p]?) (n := 33) (by kernel_rfl) (by kernel_rfl) rfl ?_
   have ofp : ∀ (W : World) (j : Nat), W.heap[p]? = w1.drew.drew.drew.heap[p]? → W.cell? ⟨p, j, none⟩ = (rcells s g cap)[j]? := fun W j e => cell_of_row W p j _ _ (0, 0) (e.trans hd3.out.scr)
   apply rpad_region (w1 := w1.drew.drew.drew) (p := p) (g := g) (sh := s.rows.length) (sc := cap) (i := s.r) (c := s.c) (r := r) (lA := A5) (lm := m) (lc := c5) (p6 := .slice none 0 0) (xA := x.A) (xn := x.n) (xc := x.c) (xw := x.wrap) (ok := true) (K := fun W A n c => HasC W w1.drew.drew.drew.heap.size (.slice A n c) (setRes x.l (s.c : Int) [(0, 1, 0)]) ∧ Below w1.drew.drew.drew.heap.size w1.drew.drew.drew W)
   case R => exact ⟨by kernel_rfl, by kernel_rfl⟩
   case hQ => exact fun _ _ _ _ _ h => h
   case k2 => exact fun W e => ofp W 2 e
   case k3 => exact fun W e => ofp W 3 e
   case k4 => exact fun W e => ofp W 4 e
   case hp => exact hd3.out.ltp
   case hg => exact hd3.out.ltg
   case hi0 => omega
   case hih => have := hd3.out.ok.row; omega
   case g0 => exact (hd3.out.row hx).1
   case g1 => exact (hd3.out.row hx).2
   case PAD => exact fun W => refPad_walk W
   case SW =>
    intro W b hb hq
    have SW := refSet_walk x.A x.n x.c x.wrap x.l (s.c : Int) (some ⟨b, 0, none⟩) 1 1 [(0, 1, 0)] W hnc hsg SGP (((hd3.out.sq hx).below hb).up hb.size) (by omega) (by omega) hq
    rw [hOK] at SW
    refine SW.mono ?_
    rintro e w' ⟨A, n, c, rfl, _, _, h2, h1⟩
    exact ⟨A, n, c, rfl, HasC.mono (h1 rfl) hb.size, hb.trans (h2.mono hb.size)⟩
   case KS => exact fun W A n c hK => hK.2.block p hd3.out.ltp
   case KG => exact fun W A n c hK => ⟨⟨_, ((hd3.out.laid hK.2).row hx).1⟩, ⟨_, ((hd3.out.laid hK.2).row hx).2⟩, (hd3.out.laid hK.2).freeg _, (hd3.out.laid hK.2).freeg _⟩
   case KE => exact fun W A n c hK => (Below.heap_setCell _ _ _ _ (by exact hd3.out.ne)).trans ((Below.heap_setCell _ _ _ _ (by exact hd3.out.ne)).trans (hK.2.block p hd3.out.ltp))
   case F => exact ⟨rfl, rfl, rfl, rfl, rfl, rfl⟩
   intro a2 W9 A9 n9 c9 hK F2
   have T9' : RTo p g (setS s [(0, 1, 0)]) w1.drew.drew.drew g ((W9.setCell ⟨g, s.r * 2, none⟩ (.slice A9 n9 c9)).setCell ⟨g, s.r * 2 + 1, none⟩ (.bool x.wrap)) := rput_done (f := setR s.c [(0, 1, 0)]) hd3.out hx rfl (hd3.out.ok.set SGP) hK.1 hK.2
   obtain ⟨WP8, hWP8⟩ : ∃ W8, (W9.setCell ⟨g, s.r * 2, none⟩ (.slice A9 n9 c9)).setCell ⟨g, s.r * 2 + 1, none⟩ (.bool x.wrap) = W8 := ⟨_, rfl⟩
   rw [hWP8] at T9' ⊢
   obtain ⟨capP, tlP, xsP, RP'⟩ := T9'.at'
   obtain ⟨sp, hsp⟩ : ∃ sp, setS s [(0, 1, 0)] = sp := ⟨_, rfl⟩
   rw [hsp] at T9' RP' eP2
   have RP := Lib.hid RP'
   have TP := Lib.hid (show RTo p g sp w1 g WP8 from RTo.behind (Below.refl w1.heap.size w1).drew.drew.drew T9')
   refine rpad_frame F2.size F2.defers F2.s0 F2.s1 F2.s5 F2.s6 ?_
   clear F2 hK ofp T9' hWP8 hd3 hx hsr hc hg hl hsg SGP hOK k0 k4 k0' k4' RP' hsp hsum hfit hcol
   intros
   try dsimp only
   have RPd := Lib.hid (RP.out.laid (Below.refl WP8.heap.size WP8).drew)
   obtain ⟨xm, hxm, _⟩ := RPd.out.at' RPd.out.ok.row
   have q2 : WP8.drew.cell? ⟨p, 2, none⟩ = some (.slice (some ⟨g, 0, none⟩) sp.rows.length capP) := RPd.out.get 2
   have q3 : WP8.drew.cell? ⟨p, 3, none⟩ = some (.int .i64 (sp.r : Int)) := RPd.out.get 3
   have q5 : WP8.drew.cell? ⟨g, sp.r * 2 + 1, none⟩ = some (.bool xm.wrap) := (RPd.out.row hxm).2
   have q6 : WP8.drew.frozen? ⟨g, sp.r * 2 + 1, none⟩ = false := RPd.out.freeg _
   have q7 : (0 : Int) ≤ (sp.r : Int) := by omega
   have q8 : (sp.r : Int) < (sp.rows.length : Int) := by have := RPd.out.ok.row; omega
   have RM := Lib.hid (RPd.out.mark hxm)
   have TM := Lib.hid (show RTo p g (wrapR sp) w1 g (WP8.drew.setCell ⟨g, sp.r * 2 + 1, none⟩ (.bool true)) from TP.out.trans (RTo.behind (Below.refl WP8.heap.size WP8).drew ⟨⟨_, _, _, RM.out⟩, (Turned.ofCell g _ WP8.drew _).mono (fun _ _ e => .inr e), .inl rfl⟩))
   clear RPd hxm
   go_upto_region 8 with fail
   go_region
   clear q2 q3 q5 q6 q7 q8
   obtain ⟨W8, hW8⟩ : ∃ W8, WP8.drew.setCell ⟨g, sp.r * 2 + 1, none⟩ (.bool true) = W8 := ⟨_, rfl⟩
   change Exit.then _ _ Exit.normal _ (WP8.drew.setCell ⟨g, sp.r * 2 + 1, none⟩ (.bool true))
   rw [hW8] at RM TM ⊢
   have DW := Lib.hid (rdown_walk W8 RM.out)
   clear hW8 RM
   go_wp2_with fail
   refine DW.out.mono ?_
   rintro e W10 ⟨vo, ys, g1, rfl, T10, O1, O2, O3, O4⟩
   obtain ⟨cap1, tl1, xs1, R10⟩ := T10.at'
   have q4 : W10.cell? ⟨p, 4, none⟩ = some (.int .i64 ((downS (wrapR sp)).c : Int)) := R10.get 4
   have q5 : W10.frozen? ⟨p, 4, none⟩ = false := R10.free 4
   have R11' := R10.setCol (c := 0) (Nat.zero_le _)
   have T11 := (TM.out.trans T10).trans (RTo.cell (Below.refl _ _) R11')
   have O11 := out_kept O1 R10.typ R10.tyg O4 (RTo.cell (Below.refl _ _) R11').turned
   rw [show ({ downS (wrapR sp) with c := 0 } : Scr) = wrapS s from by rw [wrapS_eq, eP2]] at R11' T11
   have eO2 : downO (wrapR sp) = wrapO s := by rw [wrapO_eq, eP2]
   rw [eO2] at O2
   obtain ⟨W11, hW11⟩ : ∃ W11, W10.setCell ⟨p, 4, none⟩ (.int .i64 ((0 : Nat) : Int)) = W11 := ⟨_, rfl⟩
   rw [hW11] at R11' T11 O11
   have QL := HasC.sq (hasC_turned HC5.out T11.turned H1.out.noC)
   have RW := Lib.hid R11'
   have FIN := Lib.hid (fun (W8 : World) {cap8 : Nat} {tl8 : List Value} {xs8 : List RowIn} (R8 : RAt W8 p g1 cap8 tl8 (setS (wrapS s) (ofL r a)) xs8) (T8 : RTo p g1 (setS (wrapS s) (ofL r a)) W11 g1 W8) => LAST.out W8 W11 g1 g1 cap8 tl8 xs8 ys vo (RTo.behind B1.out T11) rfl T8 R8 O11 O2 O3 O4)
   go_upto_region 11 with fail
   first | rw [hW11] | (change Code.wp _ _ _ _ (W10.setCell ⟨p, 4, none⟩ (.int .i64 ((0 : Nat) : Int))); rw [hW11])
   clear T10 T11 O1 O2 O3 O4 O11 R10 R11' q4 q5 hW11 eO2 eP2 hcw hcw' TM H1 HC5 Q5 LAST hd1 hd2 B1
   have hdW := Lib.hid (RW.out.laid (Below.refl W11.heap.size W11).drew)
   obtain ⟨x, hx, hsr, hc, hn, hnc, hg, hl, hsg⟩ := hdW.out.at' hdW.out.ok.row
   have w300 := hdW.out.ok.w3
   have hOK : setOk x.l ((wrapS s).c : Int) (ofL r a) = true := by
    unfold setOk
    rw [(mayL_iff _).2 ⟨by rw [hl]; exact w300, hg⟩, ONE.out, LM.out, hl, decide_eq_true (show (0 : Int) ≤ ((wrapS s).c : Int) by omega), decide_eq_true (show ((wrapS s).c : Int) ≤ ((wrapS s).w : Int) - (m : Int) by omega)]
    rfl
   have SW := refSet_walk x.A x.n x.c x.wrap x.l ((wrapS s).c : Int) A5 m c5 (ofL r a) W11.drew hnc hsg SG.out (hdW.out.sq hx) (by omega) (by omega) ((QL.below (Below.refl W11.heap.size W11).drew).up (Below.refl W11.heap.size W11).drew.size)
   rw [hOK] at SW
   refine Ord.start (S := fun W => W.heap[p]? = W11.drew.heap[p]?) (n := 32) (by kernel_rfl) (by kernel_rfl) rfl ?_
   have ofp : ∀ (W : World) (j : Nat), W.heap[p]? = W11.drew.heap[p]? → W.cell? ⟨p, j, none⟩ = (rcells (wrapS s) g1 cap1)[j]? := fun W j e => cell_of_row W p j _ _ (0, 0) (e.trans hdW.out.scr)
   apply rput_region (w1 := W11.drew) (p := p) (g := g1) (sh := (wrapS s).rows.length) (sc := cap1) (i := (wrapS s).r) (c := (wrapS s).c) (r := r) (lA := A5) (lm := m) (lc := c5) (p6 := vo) (xA := x.A) (xn := x.n) (xc := x.c) (xw := x.wrap) (yw := x.wrap) (ok := true) (K := fun W A n c => HasC W W11.drew.heap.size (.slice A n c) (setRes x.l ((wrapS s).c : Int) (ofL r a)) ∧ Below W11.drew.heap.size W11.drew W)
   case R => exact ⟨by kernel_rfl, by kernel_rfl⟩
   case hQ => exact fun _ _ _ _ _ h => h
   case k2 => exact fun W e => ofp W 2 e
   case k3 => exact fun W e => ofp W 3 e
   case k4 => exact fun W e => ofp W 4 e
   case hi0 => omega
   case hih => have := hdW.out.ok.row; omega
   case g0 => exact (hdW.out.row hx).1
   case g1 => exact (hdW.out.row hx).2
   case SW =>
    refine SW.mono ?_
    rintro e w' ⟨A, n, c, rfl, _, _, h2, h1⟩
    exact ⟨A, n, c, rfl, h1 rfl, h2⟩
   case KS => exact fun W A n c hK => hK.2.block p hdW.out.ltp
   case KG => exact fun W A n c hK => ⟨⟨_, ((hdW.out.laid hK.2).row hx).1⟩, ⟨_, ((hdW.out.laid hK.2).row hx).2⟩, (hdW.out.laid hK.2).freeg _, (hdW.out.laid hK.2).freeg _⟩
   case KE => exact fun W A n c hK => (Below.heap_setCell _ _ _ _ (by exact hdW.out.ne)).trans ((Below.heap_setCell _ _ _ _ (by exact hdW.out.ne)).trans (hK.2.block p hdW.out.ltp))
   case F => exact ⟨rfl, rfl, rfl, rfl, rfl, rfl⟩
   intro a2 W9 A9 n9 c9 hK F2
   have T9' : RTo p g1 (setS (wrapS s) (ofL r a)) W11.drew g1 ((W9.setCell ⟨g1, (wrapS s).r * 2, none⟩ (.slice A9 n9 c9)).setCell ⟨g1, (wrapS s).r * 2 + 1, none⟩ (.bool x.wrap)) := rput_done (f := setR (wrapS s).c (ofL r a)) hdW.out hx rfl (hdW.out.ok.set SG.out) hK.1 hK.2
   obtain ⟨W8, hW8⟩ : ∃ W8, (W9.setCell ⟨g1, (wrapS s).r * 2, none⟩ (.slice A9 n9 c9)).setCell ⟨g1, (wrapS s).r * 2 + 1, none⟩ (.bool x.wrap) = W8 := ⟨_, rfl⟩
   rw [hW8] at T9'
   obtain ⟨cap8, tl8, xs8, R8⟩ := T9'.at'
   have k4 : W8.cell? ⟨p, 4, none⟩ = some (.int .i64 ((wrapS s).c : Int)) := R8.get 4
   have f4 : W8.frozen? ⟨p, 4, none⟩ = false := R8.free 4
   have hsum3 : IntKind.i64.wrap (((wrapS s).c : Int) + (m : Int)) = (((wrapS s).c + m : Nat) : Int) := by rw [IntWalk.i64_in _ (by omega)]; omega
   have D := Lib.hid (FIN.out W8 R8 (RTo.behind (Below.refl W11.heap.size W11).drew T9'))
   rw [hW8]
   refine rput_frame F2.size F2.defers F2.s0 F2.s1 F2.s5 F2.s6 ?_
   clear F2 hK SW ofp T9' R8 hW8 hdW hx hsr hc hg hl hsg RW
   intros
   try dsimp only
   go_wp2
   go_ret
   exact D.out
  ·have hcw' : ¬ (s.c : Int) < (s.w : Int) := by omega
   have eP2 : padS s = s := by unfold padS; rw [if_neg hcw]
   have RP := hd2
   have TP := Lib.hid (show RTo p g s w1 g w1.drew.drew from RTo.behind (Below.refl w1.heap.size w1).drew.drew hd2.out.to)
   have RPd := Lib.hid (RP.out.laid (Below.refl w1.drew.drew.heap.size w1.drew.drew).drew)
   obtain ⟨xm, hxm, _⟩ := RPd.out.at' RPd.out.ok.row
   have q2 : w1.drew.drew.drew.cell? ⟨p, 2, none⟩ = some (.slice (some ⟨g, 0, none⟩) s.rows.length cap) := RPd.out.get 2
   have q3 : w1.drew.drew.drew.cell? ⟨p, 3, none⟩ = some (.int .i64 (s.r : Int)) := RPd.out.get 3
   have q5 : w1.drew.drew.drew.cell? ⟨g, s.r * 2 + 1, none⟩ = some (.bool xm.wrap) := (RPd.out.row hxm).2
   have q6 : w1.drew.drew.drew.frozen? ⟨g, s.r * 2 + 1, none⟩ = false := RPd.out.freeg _
   have q7 : (0 : Int) ≤ (s.r : Int) := by omega
   have q8 : (s.r : Int) < (s.rows.length : Int) := by have := RPd.out.ok.row; omega
   have RM := Lib.hid (RPd.out.mark hxm)
   have TM := Lib.hid (show RTo p g (wrapR s) w1 g (w1.drew.drew.drew.setCell ⟨g, s.r * 2 + 1, none⟩ (.bool true)) from TP.out.trans (RTo.behind (Below.refl w1.drew.drew.heap.size w1.drew.drew).drew ⟨⟨_, _, _, RM.out⟩, (Turned.ofCell g _ w1.drew.drew.drew _).mono (fun _ _ e => .inr e), .inl rfl⟩))
   clear RPd hxm
   go_upto_region 8 with fail
   go_region
   clear q2 q3 q5 q6 q7 q8
   obtain ⟨W8, hW8⟩ : ∃ W8, w1.drew.drew.drew.setCell ⟨g, s.r * 2 + 1, none⟩ (.bool true) = W8 := ⟨_, rfl⟩
   change Exit.then _ _ Exit.normal _ (w1.drew.drew.drew.setCell ⟨g, s.r * 2 + 1, none⟩ (.bool true))
   rw [hW8] at RM TM ⊢
   have DW := Lib.hid (rdown_walk W8 RM.out)
   clear hW8 RM
   go_wp2_with fail
   refine DW.out.mono ?_
   rintro e W10 ⟨vo, ys, g1, rfl, T10, O1, O2, O3, O4⟩
   obtain ⟨cap1, tl1, xs1, R10⟩ := T10.at'
   have q4 : W10.cell? ⟨p, 4, none⟩ = some (.int .i64 ((downS (wrapR s)).c : Int)) := R10.get 4
   have q5 : W10.frozen? ⟨p, 4, none⟩ = false := R10.free 4
   have R11' := R10.setCol (c := 0) (Nat.zero_le _)
   have T11 := (TM.out.trans T10).trans (RTo.cell (Below.refl _ _) R11')
   have O11 := out_kept O1 R10.typ R10.tyg O4 (RTo.cell (Below.refl _ _) R11').turned
   rw [show ({ downS (wrapR s) with c := 0 } : Scr) = wrapS s from by rw [wrapS_eq, eP2]] at R11' T11
   have eO2 : downO (wrapR s) = wrapO s := by rw [wrapO_eq, eP2]
   rw [eO2] at O2
   obtain ⟨W11, hW11⟩ : ∃ W11, W10.setCell ⟨p, 4, none⟩ (.int .i64 ((0 : Nat) : Int)) = W11 := ⟨_, rfl⟩
   rw [hW11] at R11' T11 O11
   have QL := HasC.sq (hasC_turned HC5.out T11.turned H1.out.noC)
   have RW := Lib.hid R11'
   have FIN := Lib.hid (fun (W8 : World) {cap8 : Nat} {tl8 : List Value} {xs8 : List RowIn} (R8 : RAt W8 p g1 cap8 tl8 (setS (wrapS s) (ofL r a)) xs8) (T8 : RTo p g1 (setS (wrapS s) (ofL r a)) W11 g1 W8) => LAST.out W8 W11 g1 g1 cap8 tl8 xs8 ys vo (RTo.behind B1.out T11) rfl T8 R8 O11 O2 O3 O4)
   go_upto_region 11 with fail
   first | rw [hW11] | (change Code.wp _ _ _ _ (W10.setCell ⟨p, 4, none⟩ (.int .i64 ((0 : Nat) : Int))); rw [hW11])
   clear T10 T11 O1 O2 O3 O4 O11 R10 R11' q4 q5 hW11 eO2 eP2 hcw hcw' TM H1 HC5 Q5 LAST hd1 hd2 B1
   have hdW := Lib.hid (RW.out.laid (Below.refl W11.heap.size W11).drew)
   obtain ⟨x, hx, hsr, hc, hn, hnc, hg, hl, hsg⟩ := hdW.out.at' hdW.out.ok.row
   have w300 := hdW.out.ok.w3
   have hOK : setOk x.l ((wrapS s).c : Int) (ofL r a) = true := by
    unfold setOk
    rw [(mayL_iff _).2 ⟨by rw [hl]; exact w300, hg⟩, ONE.out, LM.out, hl, decide_eq_true (show (0 : Int) ≤ ((wrapS s).c : Int) by omega), decide_eq_true (show ((wrapS s).c : Int) ≤ ((wrapS s).w : Int) - (m : Int) by omega)]
    rfl
   have SW := refSet_walk x.A x.n x.c x.wrap x.l ((wrapS s).c : Int) A5 m c5 (ofL r a) W11.drew hnc hsg SG.out (hdW.out.sq hx) (by omega) (by omega) ((QL.below (Below.refl W11.heap.size W11).drew).up (Below.refl W11.heap.size W11).drew.size)
   rw [hOK] at SW
   refine Ord.start (S := fun W => W.heap[p]? = W11.drew.heap[p]?) (n := 32) (by kernel_rfl) (by kernel_rfl) rfl ?_
   have ofp : ∀ (W : World) (j : Nat), W.heap[p]? = W11.drew.heap[p]? → W.cell? ⟨p, j, none⟩ = (rcells (wrapS s) g1 cap1)[j]? := fun W j e => cell_of_row W p j _ _ (0, 0) (e.trans hdW.out.scr)
   apply rput_region (w1 := W11.drew) (p := p) (g := g1) (sh := (wrapS s).rows.length) (sc := cap1) (i := (wrapS s).r) (c := (wrapS s).c) (r := r) (lA := A5) (lm := m) (lc := c5) (p6 := vo) (xA := x.A) (xn := x.n) (xc := x.c) (xw := x.wrap) (yw := x.wrap) (ok := true) (K := fun W A n c => HasC W W11.drew.heap.size (.slice A n c) (setRes x.l ((wrapS s).c : Int) (ofL r a)) ∧ Below W11.drew.heap.size W11.drew W)
   case R => exact ⟨by kernel_rfl, by kernel_rfl⟩
   case hQ => exact fun _ _ _ _ _ h => h
   case k2 => exact fun W e => ofp W 2 e
   case k3 => exact fun W e => ofp W 3 e
   case k4 => exact fun W e => ofp W 4 e
   case hi0 => omega
   case hih => have := hdW.out.ok.row; omega
   case g0 => exact (hdW.out.row hx).1
   case g1 => exact (hdW.out.row hx).2
   case SW =>
    refine SW.mono ?_
    rintro e w' ⟨A, n, c, rfl, _, _, h2, h1⟩
    exact ⟨A, n, c, rfl, h1 rfl, h2⟩
   case KS => exact fun W A n c hK => hK.2.block p hdW.out.ltp
   case KG => exact fun W A n c hK => ⟨⟨_, ((hdW.out.laid hK.2).row hx).1⟩, ⟨_, ((hdW.out.laid hK.2).row hx).2⟩, (hdW.out.laid hK.2).freeg _, (hdW.out.laid hK.2).freeg _⟩
   case KE => exact fun W A n c hK => (Below.heap_setCell _ _ _ _ (by exact hdW.out.ne)).trans ((Below.heap_setCell _ _ _ _ (by exact hdW.out.ne)).trans (hK.2.block p hdW.out.ltp))
   case F => exact ⟨rfl, rfl, rfl, rfl, rfl, rfl⟩
   intro a2 W9 A9 n9 c9 hK F2
   have T9' : RTo p g1 (setS (wrapS s) (ofL r a)) W11.drew g1 ((W9.setCell ⟨g1, (wrapS s).r * 2, none⟩ (.slice A9 n9 c9)).setCell ⟨g1, (wrapS s).r * 2 + 1, none⟩ (.bool x.wrap)) := rput_done (f := setR (wrapS s).c (ofL r a)) hdW.out hx rfl (hdW.out.ok.set SG.out) hK.1 hK.2
   obtain ⟨W8, hW8⟩ : ∃ W8, (W9.setCell ⟨g1, (wrapS s).r * 2, none⟩ (.slice A9 n9 c9)).setCell ⟨g1, (wrapS s).r * 2 + 1, none⟩ (.bool x.wrap) = W8 := ⟨_, rfl⟩
   rw [hW8] at T9'
   obtain ⟨cap8, tl8, xs8, R8⟩ := T9'.at'
   have k4 : W8.cell? ⟨p, 4, none⟩ = some (.int .i64 ((wrapS s).c : Int)) := R8.get 4
   have f4 : W8.frozen? ⟨p, 4, none⟩ = false := R8.free 4
   have hsum3 : IntKind.i64.wrap (((wrapS s).c : Int) + (m : Int)) = (((wrapS s).c + m : Nat) : Int) := by rw [IntWalk.i64_in _ (by omega)]; omega
   have D := Lib.hid (FIN.out W8 R8 (RTo.behind (Below.refl W11.heap.size W11).drew T9'))
   rw [hW8]
   refine rput_frame F2.size F2.defers F2.s0 F2.s1 F2.s5 F2.s6 ?_
   clear F2 hK SW ofp T9' R8 hW8 hdW hx hsr hc hg hl hsg RW
   intros
   try dsimp only
   go_wp2
   go_ret
   exact D.out
 ·have e1 : roomS s k = s := by unfold roomS; rw [if_neg (by omega)]
  have e2 : roomO s k = [] := by unfold roomO; rw [if_neg (by omega)]
  rw [e1] at LAST hroom hrw hra
  rw [e2] at LAST
  have QL : Sq w1.drew w1.drew.heap.size 3 m A5 (flat (ofL r a)) := (Q5.out.below (Below.refl w1.heap.size w1).drew).up (Below.refl w1.heap.size w1).drew.size
  have FIN := Lib.hid (fun (W8 : World) {cap8 : Nat} {tl8 : List Value} {xs8 : List RowIn} (R8 : RAt W8 p g cap8 tl8 (setS s (ofL r a)) xs8) (T8 : RTo p g (setS s (ofL r a)) w1.drew g W8) => LAST.out W8 w1.drew g g cap8 tl8 xs8 [] (.slice none 0 0) (RTo.behind B1.out (RTo.behind (Below.refl w1.heap.size w1).drew hd1.out.to)) rfl T8 R8 (RowsIn.nothing _ _) rfl (fun _ h => by cases h) (fun _ h => by cases h))
  have RW := Lib.hid hd1.out
  have hcm : s.c + m ≤ s.w := by omega
  clear LAST hd1 H1 eP eO H Q5 hLw hkk hkm hwr hrw hra hroom e1 e2 ha hm hk
  go_upto_region 5 with fail
  go_region
  have hdW := Lib.hid (RW.out.laid (Below.refl w1.drew.heap.size w1.drew).drew)
  obtain ⟨x, hx, hsr, hc, hn, hnc, hg, hl, hsg⟩ := hdW.out.at' hdW.out.ok.row
  have w300 := hdW.out.ok.w3
  have hOK : setOk x.l (s.c : Int) (ofL r a) = true := by
   unfold setOk
   rw [(mayL_iff _).2 ⟨by rw [hl]; exact w300, hg⟩, ONE.out, LM.out, hl, decide_eq_true (show (0 : Int) ≤ (s.c : Int) by omega), decide_eq_true (show (s.c : Int) ≤ (s.w : Int) - (m : Int) by omega)]
   rfl
  have SW := refSet_walk x.A x.n x.c x.wrap x.l (s.c : Int) A5 m c5 (ofL r a) w1.drew.drew hnc hsg SG.out (hdW.out.sq hx) (by omega) (by omega) ((QL.below (Below.refl w1.drew.heap.size w1.drew).drew).up (Below.refl w1.drew.heap.size w1.drew).drew.size)
  rw [hOK] at SW
  go_wp2_with fail
  refine Ord.start (S := fun W => W.heap[p]? = w1.drew.drew.heap[p]?) (n := 32) (by kernel_rfl) (by kernel_rfl) rfl ?_
  have ofp : ∀ (W : World) (j : Nat), W.heap[p]? = w1.drew.drew.heap[p]? → W.cell? ⟨p, j, none⟩ = (rcells s g cap)[j]? := fun W j e => cell_of_row W p j _ _ (0, 0) (e.trans hdW.out.scr)
  apply rput_region (w1 := w1.drew.drew) (p := p) (g := g) (sh := s.rows.length) (sc := cap) (i := s.r) (c := s.c) (r := r) (lA := A5) (lm := m) (lc := c5) (p6 := .slice none 0 0) (xA := x.A) (xn := x.n) (xc := x.c) (xw := x.wrap) (yw := x.wrap) (ok := true) (K := fun W A n c => HasC W w1.drew.drew.heap.size (.slice A n c) (setRes x.l (s.c : Int) (ofL r a)) ∧ Below w1.drew.drew.heap.size w1.drew.drew W)
  case R => exact ⟨by kernel_rfl, by kernel_rfl⟩
  case hQ => exact fun _ _ _ _ _ h => h
  case k2 => exact fun W e => ofp W 2 e
  case k3 => exact fun W e => ofp W 3 e
  case k4 => exact fun W e => ofp W 4 e
  case hi0 => omega
  case hih => have := hdW.out.ok.row; omega
  case g0 => exact (hdW.out.row hx).1
  case g1 => exact (hdW.out.row hx).2
  case SW =>
   refine SW.mono ?_
   rintro e w' ⟨A, n, c, rfl, _, _, h2, h1⟩
   exact ⟨A, n, c, rfl, h1 rfl, h2⟩
  case KS => exact fun W A n c hK => hK.2.block p hdW.out.ltp
  case KG => exact fun W A n c hK => ⟨⟨_, ((hdW.out.laid hK.2).row hx).1⟩, ⟨_, ((hdW.out.laid hK.2).row hx).2⟩, (hdW.out.laid hK.2).freeg _, (hdW.out.laid hK.2).freeg _⟩
  case KE => exact fun W A n c hK => (Below.heap_setCell _ _ _ _ (by exact hdW.out.ne)).trans ((Below.heap_setCell _ _ _ _ (by exact hdW.out.ne)).trans (hK.2.block p hdW.out.ltp))
  case F => exact ⟨rfl, rfl, rfl, rfl, rfl, rfl⟩
  intro a2 W9 A9 n9 c9 hK F2
  have T9' : RTo p g (setS s (ofL r a)) w1.drew.drew g ((W9.setCell ⟨g, s.r * 2, none⟩ (.slice A9 n9 c9)).setCell ⟨g, s.r * 2 + 1, none⟩ (.bool x.wrap)) := rput_done (f := setR s.c (ofL r a)) hdW.out hx rfl (hdW.out.ok.set SG.out) hK.1 hK.2
  obtain ⟨W8, hW8⟩ : ∃ W8, (W9.setCell ⟨g, s.r * 2, none⟩ (.slice A9 n9 c9)).setCell ⟨g, s.r * 2 + 1, none⟩ (.bool x.wrap) = W8 := ⟨_, rfl⟩
  rw [hW8] at T9'
  obtain ⟨cap8, tl8, xs8, R8⟩ := T9'.at'
  have k4 : W8.cell? ⟨p, 4, none⟩ = some (.int .i64 (s.c : Int)) := R8.get 4
  have f4 : W8.frozen? ⟨p, 4, none⟩ = false := R8.free 4
  have hsum3 : IntKind.i64.wrap ((s.c : Int) + (m : Int)) = ((s.c + m : Nat) : Int) := by rw [IntWalk.i64_in _ (by omega)]; omega
  have D := Lib.hid (FIN.out W8 R8 (RTo.behind (Below.refl w1.drew.heap.size w1.drew).drew T9'))
  rw [hW8]
  refine rput_frame F2.size F2.defers F2.s0 F2.s1 F2.s5 F2.s6 ?_
  clear F2 hK SW ofp T9' R8 hW8 hdW hx hsr hc hg hl hsg RW
  intros
  try dsimp only
  go_wp2
  go_ret
  exact D.out
end Sc
