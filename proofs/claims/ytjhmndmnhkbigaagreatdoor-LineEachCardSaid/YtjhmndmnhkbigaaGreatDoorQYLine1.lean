/-
  line.parts, line.signs; line.joined: the line of the rows of one. line.Join: its round's last statement, step by step. line.Join: the lines of rows. The statements' own way to hold lists of lines against each other. slices.EqualFunc over lists of lines, each two held against each other by slices.Equal; reflow.Same.
-/
import Derived.Test.YtjhmndmnhkbigaaGreatDoorQYLine0
import Derived.Test.YtjhmndmnhkbigaaGreatDoorQYBase0
import Derived.Lib.OthersKept
import Derived.Test.YtjhmndmnhkbigaaGreatDoorQYBase2
import Derived.Test.YtjhmndmnhkbigaaGreatDoorQYBase1
namespace Go.Proofs.YtjhmndmnhkbigaaGreatDoor
open Go.ChangeShapes Go.WideShapes Go.ChangeAt Go.RowKit
namespace Ln
open Rw
attribute [local go_sem] Oper.semAt_some
set_option maxRecDepth 100000 in
theorem parts_walk (A : Option Addr) (n c : Nat) (w : World) : Calls Tryz.prog 40 #[.slice A n c] w fun e w' => e = .returned (.func (.func 75) #[] #[.pointer (some ⟨w.heap.size, 0, none⟩)]) ∧ w' = w.alloc (.cells #[.slice A n c] 22) := by
 go_enter Tryz.func40, Tryz.ntmps40
 go_wp2
 go_ret
 exact ⟨rfl, rfl⟩
set_option maxRecDepth 100000 in
theorem signs_walk (A : Option Addr) (n c : Nat) (w : World) : Calls Tryz.prog 77 #[.slice A n c] w fun e w' => e = .returned (.func (.func 114) #[] #[.pointer (some ⟨w.heap.size, 0, none⟩)]) ∧ w' = w.alloc (.cells #[.slice A n c] 22) := by
 go_enter Tryz.func77, Tryz.ntmps77
 go_wp2
 go_ret
 exact ⟨rfl, rfl⟩
theorem own_keep {w w' : World} {base : Nat} {e : TypeId} {size n : Nat} {v : Value} {xs : List Value} (h : w.ownsRow base e size v n xs) (hk : ∀ k, v.ownBlock = some k → w'.heap[k]? = w.heap[k]?) : w'.ownsRow base e size v n xs := by
 refine ⟨h.1, ?_⟩
 rcases h.2 with e1 | ⟨g, cap, cur, rfl, hb, hg, r⟩
 ·exact .inl e1
 ·exact .inr ⟨g, cap, cur, rfl, hb, (hk g rfl).trans hg, r⟩
theorem own_down {w : World} {base base' : Nat} {e : TypeId} {size n : Nat} {v : Value} {xs : List Value} (h : w.ownsRow base e size v n xs) (hb : base' ≤ base) : w.ownsRow base' e size v n xs := by
 refine ⟨h.1, ?_⟩
 rcases h.2 with e1 | ⟨g, cap, cur, rfl, h2, r⟩
 ·exact .inl e1
 ·exact .inr ⟨g, cap, cur, rfl, Nat.le_trans hb h2, r⟩
theorem own_laid {w w' : World} {base : Nat} {e : TypeId} {size n : Nat} {v : Value} {xs : List Value} (h : w.ownsRow base e size v n xs) (hb : Below w.heap.size w w') : w'.ownsRow base e size v n xs := own_keep h fun k hk => hb.block k (h.lt k hk).2
theorem own_cap {w : World} {B : Nat} {e : TypeId} {s n : Nat} {v : Value} {xs : List Value} (h : w.ownsRow B e s v n xs) : ∃ A c, v = .slice A n c ∧ n ≤ c := by
 rcases h.2 with ⟨rfl, h0⟩ | ⟨g, cap, cur, rfl, _, _, hc, _⟩
 ·rw [h0]; exact ⟨_, _, rfl, Nat.le_refl _⟩
 ·exact ⟨_, _, rfl, hc⟩
theorem Leaves.trans {S Bx : Nat} {A B C : World} (h : Leaves S Bx A B) (k : Leaves S Bx B C) : Leaves S Bx A C := ⟨Nat.le_trans h.1 k.1, fun j hj => (k.2 j hj).trans (h.2 j hj)⟩
theorem Leaves.put {S Bx l : Nat} {W : World} (hS : S ≤ l) (hB : Bx < l) (o' : Obj) : Leaves S Bx W (W.putObj l o') :=
 ⟨by simp [World.putObj], fun j hj => World.putObj_heap_other (by rcases hj with hj | rfl <;> omega)⟩
theorem cell_three (w : World) (e : TypeId) (x y z : Value) : ∀ (j : Nat) (u : Value), [x, y, z][j]? = some u → (w.alloc (.cells #[x, y, z] e)).cell? ((⟨w.heap.size, 0, none⟩ : Addr).add j) = some u := by
 intro j u hu
 rw [add_at, Nat.zero_add, cell_of_row _ _ _ _ _ (0, 0) (heap_alloc_new w _)]
 match j, hu with
 | 0, hu => exact hu
 | 1, hu => exact hu
 | 2, hu => exact hu
 | j + 3, hu => simp at hu
structure BoxC (w0 : World) (g B : Nat) (l : List Cel) (W : World) : Prop where
 old : Below w0.heap.size w0 W
 low : w0.heap.size ≤ g
 gB : g < B
 box : ∃ A c, W.heap[g]? = some (.cells #[.slice A l.length c] 41 (0, 0)) ∧ HasC W B (.slice A l.length c) l
namespace BoxC
variable {w0 W W' : World} {g B : Nat} {l : List Cel}
theorem laid (h : BoxC w0 g B l W) (hb : Laid W W') : BoxC w0 g B l W' := by
 obtain ⟨A, c, h1, h2⟩ := h.box
 exact ⟨h.old.trans (hb.mono h.old.size), h.low, h.gB, A, c, (hb.block _ (Array.getElem?_eq_some_iff.1 h1).1).trans h1, own_laid h2 hb⟩
theorem put (h : BoxC w0 g B l W) {j : Nat} {o : Obj} (o' : Obj) (hj : w0.heap.size ≤ j) (ho : W.heap[j]? = some o) (hc : o.isCells = false) : BoxC w0 g B l (W.putObj j o') := by
 obtain ⟨A, c, h1, h2⟩ := h.box
 refine ⟨h.old.trans ⟨rfl, rfl, rfl, by simp, fun k hk => World.putObj_heap_other (by omega)⟩, h.low, h.gB, A, c, (World.putObj_heap_other (fun e => ?_)).trans h1, ownsRow_putObj h2 o' ho hc⟩
 subst e
 rw [h1] at ho
 cases ho
 cases hc
end BoxC
theorem BoxC.snoc {w0 W W' : World} {g B : Nat} {l : List Cel} {y : Cel} {A : Option Addr} {c : Nat} {v' : Value} (h : BoxC w0 g B l W) (hb : W.heap[g]? = some (.cells #[.slice A l.length c] 41 (0, 0)))
  (ho : W'.ownsRow B 52 3 v' (l.length + 1) (flat l ++ [.int .i32 y.1, .int .i64 y.2.1, .int .i64 y.2.2])) (hA : W.ownsRow B 52 3 (.slice A l.length c) l.length (flat l)) (hg : W.grownBy W' (Value.slice A l.length c).ownBlock) :
  BoxC w0 g B (l ++ [y]) (W'.setCell ⟨g, 0, none⟩ v') := by
 have hlt := (Array.getElem?_eq_some_iff.1 hb).1
 have hne : ∀ j, j < B → (Value.slice A l.length c).ownBlock ≠ some j := fun j hj e => by have := (hA.lt j e).1; omega
 have hb' : W'.heap[g]? = _ := (hg.block g hlt (fun e => hne g h.gB e.symm)).trans hb
 obtain ⟨A', c', rfl, hc'⟩ := own_cap ho
 have e : flat (l ++ [y]) = flat l ++ [.int .i32 y.1, .int .i64 y.2.1, .int .i64 y.2.2] := by rw [flat_append]; rfl
 refine ⟨?_, h.low, h.gB, A', c', ?_, ?_⟩
 ·have h1 : Below w0.heap.size w0 W' := h.old.grown hg h.old.size (fun j e => by have h1 := (hA.lt j e).1; have := h.low; have := h.gB; omega)
  exact h1.setCell (p := ⟨g, 0, none⟩) h.low _
 ·rw [List.length_append, List.length_singleton]
  have := heap_setCell_same W' g 0 _ _ (.slice A' (l.length + 1) c') hb'
  simpa using this
 ·unfold HasC
  rw [e, List.length_append, List.length_singleton]
  refine own_keep ho fun k hk => Below.heap_setCell _ _ _ _ ?_
  have := (ho.lt k hk).1
  have := h.gB
  show k ≠ g
  omega
theorem keeps_grown {W W' : World} {row : Option Nat} {B : Nat} (hg : W.grownBy W' row) (hrow : ∀ j, row = some j → ∃ o, W.heap[j]? = some o ∧ o.isCells = true) : KeepsFrom B W W' :=
 ⟨hg.size, fun k _ _ hk ho => (hg.block k (Array.getElem?_eq_some_iff.1 hk).1 (fun e => by
  obtain ⟨o', h1, h2⟩ := hrow k e.symm
  rw [hk] at h1
  cases h1
  rw [ho] at h2
  cases h2)).trans hk⟩
theorem keeps_laid {W W' : World} {B : Nat} (h : Laid W W') : KeepsFrom B W W' := ⟨h.size, fun k _ _ hk _ => (h.block k (Array.getElem?_eq_some_iff.1 hk).1).trans hk⟩
theorem own_isCells {w : World} {base : Nat} {e : TypeId} {size n : Nat} {v : Value} {xs : List Value} (h : w.ownsRow base e size v n xs) : ∀ j, v.ownBlock = some j → ∃ o, w.heap[j]? = some o ∧ o.isCells = true := by
 intro j hj
 rcases h.2 with ⟨rfl, _⟩ | ⟨g, cap, cur, rfl, _, hg, _⟩
 ·cases hj
 ·injection hj with hj
  subst hj
  exact ⟨_, hg, rfl⟩
def snds (L : List Pl) : List Cel := L.map fun y => y.2
theorem snds_cells (rs : List LR) : rs.flatMap cellsR = snds (signsAll 0 rs) := (signsAll_cells rs 0).symm
theorem snds_next {L : List Pl} {k : Nat} {y : Pl} (h : L[k]? = some y) : snds (L.take (k + 1)) = snds (L.take k) ++ [y.2] := by unfold snds; rw [take_one h, List.map_append]; rfl
theorem fits_in {N k : Nat} (h : N ≤ 300000000) (hk : k < N) : k + 1 ≤ maxLen ∧ (k + 1) * 24 ≤ 140737488355328 := by unfold maxLen; omega
set_option maxRecDepth 100000 in
set_option maxHeartbeats 6400000 in
theorem joined_walk (A : Option Addr) (n c : Nat) (rs : List RowIn) (w : World) (hs : Spans w) (hr : Rws w w.heap.size A n rs) (hn : n ≤ 1000000) :
  Calls Tryz.prog 41 #[.slice A n c] w fun e w' => TrimPost ((rs.map lr).flatMap cellsR) w e w' := by
 obtain ⟨i0, hi0, hz0, hz1, hz2⟩ := info_parts infoCell
 obtain ⟨S, hS⟩ : ∃ S, w.heap.size = S := ⟨_, rfl⟩
 obtain ⟨L, hL⟩ : ∃ L, signsAll 0 (rs.map lr) = L := ⟨_, rfl⟩
 have hcells : (rs.map lr).flatMap cellsR = snds L := by rw [← hL]; exact snds_cells _
 have hLn : L.length ≤ 300000000 := by
  have h1 := signsAll_le (rs.map lr) 0
  rw [hL, List.length_map, hr.len] at h1
  omega
 have hsp : 0 < S := by rw [← hS]; exact hs.size
 obtain ⟨w1, hw1⟩ : ∃ w1, w.alloc (.cells #[.slice none 0 0] 41) = w1 := ⟨_, rfl⟩
 have b1 : Below w.heap.size w w1 := by rw [← hw1]; exact (Below.refl _ _).alloc (Nat.le_refl _) _
 have z1 : w1.heap.size = S + 1 := by rw [← hw1, ← hS]; simp
 obtain ⟨w2, hw2⟩ : ∃ w2, w1.alloc (.cells #[.slice A n c] 22) = w2 := ⟨_, rfl⟩
 have b2 : Laid w1 w2 := by rw [← hw2]; exact (Below.refl _ _).alloc (Nat.le_refl _) _
 have z2 : w2.heap.size = S + 2 := by rw [← hw2]; simp [z1]
 have h0 : BoxC w S (S + 2) [] w2 := by
  refine ⟨b1.trans (b2.mono b1.size), by rw [hS]; exact Nat.le_refl _, by omega, none, 0, (b2.block S (by omega)).trans ?_, World.ownsRow_nil _ _ _ _⟩
  rw [← hw1, ← hS]
  exact heap_alloc_new w _
 have hps : PSrc S (S + 1) A n c rs w2 := by
  refine ⟨hs.below h0.old hs.size, hsp, ?_, ?_, by omega⟩
  ·rw [← hw2, ← z1]
   exact heap_alloc_new w1 _
  ·have := hr.below h0.old
   rw [hS] at this
   exact this
 have TL := Lib.hid (signs_tells (Kp := Leaves S (S + 1)) hps (fun _ _ h => h) hn)
 rw [hL] at TL
 have SW := Lib.hid (signs_walk A n c w1)
 rw [hw2, z1] at SW
 have H0 := Lib.hid h0
 have HW := Lib.hid hw1
 have HS := Lib.hid hS
 have Z2 := Lib.hid z2
 have HL := Lib.hid hLn
 rw [hcells]
 clear hr hs hps h0 b1 b2 hw1 hw2 z1 z2 hL hcells hsp hLn
 refine (callsIn_wide (n := 3)).1 (callsIn_of_wp_marks Tryz.func41 rfl trivial ?_ rfl)
 simp only [Tryz.ntmps41, List.size_toArray, List.length_cons, List.length_nil, Nat.reduceAdd, Nat.reduceSub, Array.replicate_succ, Array.replicate_zero, List.push_toArray, List.append_toArray, List.nil_append, List.cons_append]
 refine wpIn_wide.2 ?_
 go_wp2_with fail
 rw [HW.out]
 refine SW.out.mono ?_
 rintro e w' ⟨rfl, rfl⟩
 go_wp2_with fail
 refine wp_over (Fit := FitS L) (Kp := Leaves S (S + 1)) (N := L.length) (gf := 114) (lb := #[.pointer (some ⟨S + 1, 0, none⟩)]) rfl (enters_of Tryz.func114 (by kernel_rfl) rfl) TL.out Leaves.trans
  (fun A B hA h => Leaves.laid h (by have := Z2.out; omega) (by have := Z2.out; omega)) (fun W l o o' hl ho hc => Leaves.put (by have := Z2.out; omega) (by have := Z2.out; omega) o') (fun k x W h => by obtain ⟨y, _, rfl⟩ := h; rfl)
  (fun k W => Hid (BoxC w S (S + 2) (snds (L.take k)) W ∧ S + 2 ≤ W.heap.size)) (fun _ _ _ => False)
  (fun k A B h hb => Lib.hid ⟨h.out.1.laid hb, Nat.le_trans h.out.2 hb.size⟩) (fun k W l o o' hl ho hc h => Lib.hid ⟨h.out.1.put o' (by have := Z2.out; have := HS.out; omega) ho hc, by rw [World.putObj_size]; exact h.out.2⟩)
  (fun _ _ _ _ h _ => h) (fun _ _ _ _ _ _ _ _ _ h => h) (Lib.hid ⟨H0.out, by have := Z2.out; omega⟩) ?round ?done (fun _ _ _ _ _ _ h _ => h.elim)
 case round =>
  rintro l2 k2 x W hk2 hl2 ⟨o, ho, hoc⟩ hi ⟨⟨⟨pr, pc⟩, r, m, a⟩, hy, rfl⟩
  have bb : Laid W (W.alloc (.cells #[.int .i32 r, .int .i64 m, .int .i64 a] 52)) := (Below.refl _ _).alloc (Nat.le_refl _) _
  simp only
  gi_wp2
  refine ⟨bb, fun o1 => ?_⟩
  have hS2 : S + 2 ≤ l2 := by have := Z2.out; omega
  have hlt2 : l2 < W.heap.size := (Array.getElem?_eq_some_iff.1 ho).1
  have ho' := (bb.block l2 hlt2).trans ho
  have H2 := Lib.hid ((hi.out.1.laid bb).put o1 (by have := HS.out; omega) ho' hoc)
  have q5 : ((W.alloc (.cells #[.int .i32 r, .int .i64 m, .int .i64 a] 52)).putObj l2 o1).heap[W.heap.size]? = some (.cells #[.int .i32 r, .int .i64 m, .int .i64 a] 52 (0, 0)) := (World.putObj_heap_other (by omega)).trans (heap_alloc_new W _)
  have SZ := Lib.hid (show S + 2 ≤ ((W.alloc (.cells #[.int .i32 r, .int .i64 m, .int .i64 a] 52)).putObj l2 o1).heap.size from by simp; have := hi.out.2; omega)
  generalize (W.alloc (.cells #[.int .i32 r, .int .i64 m, .int .i64 a] 52)).putObj l2 o1 = W2 at H2 q5 SZ ⊢
  generalize W.heap.size = gc at q5
  clear bb ho' hi ho hlt2
  obtain ⟨l0, hl0⟩ : ∃ l0, snds (L.take k2) = l0 := ⟨_, rfl⟩
  have hll : l0.length = k2 := by rw [← hl0]; unfold snds; rw [List.length_map, List.length_take]; omega
  rw [hl0] at H2
  obtain ⟨A2, c2, hb2, ho2⟩ := H2.out.box
  have k0 : W2.cell? ⟨gc, 0, none⟩ = some (.int .i32 r) := cell_of_row _ _ 0 _ _ (0, 0) q5
  have k1 : W2.cell? ⟨gc, 1, none⟩ = some (.int .i64 m) := cell_of_row _ _ 1 _ _ (0, 0) q5
  have k3 : W2.cell? ⟨gc, 2, none⟩ = some (.int .i64 a) := cell_of_row _ _ 2 _ _ (0, 0) q5
  have c3 : W2.cell? ⟨S, 0, none⟩ = some (.slice A2 l0.length c2) := cell_of_row _ _ 0 _ _ (0, 0) hb2
  have hfit := fits_in HL.out hk2
  have B1 := Lib.hid (show l0.length + 1 ≤ maxLen from by rw [hll]; exact hfit.1)
  have B2 := Lib.hid (show (l0.length + 1) * 24 ≤ 140737488355328 from by rw [hll]; exact hfit.2)
  have OW := Lib.hid (show W2.ownsRow (S + 2) 52 3 (.slice A2 l0.length c2) l0.length (flat l0) from ho2)
  have HB := Lib.hid hb2
  have HK := Lib.hid (show snds (L.take (k2 + 1)) = l0 ++ [(r, m, a)] from by rw [snds_next hy, hl0])
  clear hb2 ho2 hl0 hll hfit q5
  gi_wp2_with (gi_at_builtin; refine wpListIn_append_own _ rfl _ _ 41 rfl (S + 2) 52 i0 (.agg #[.int .i32 0, .int .i64 0, .int .i64 0]) 3 24 Tryz.underlying41 hi0 hz0 hz1 hz2 rfl (by decide) _ _ _ rfl (OW.out.alloc _) ⟨W2.heap.size, 0, none⟩ 1 1 [.int .i32 r, .int .i64 m, .int .i64 a] rfl rfl (cell_three _ _ _ _ _) (by simp [Value.oneCell']) B1.out B2.out (by have := SZ.out; simp; omega) ?_; intro v4 W4 ho4 hg4 _; (obtain ⟨A4, c4, rfl, _⟩ := own_cap ho4); (have h4 : W4.heap[S]? = some (.cells #[.slice A2 l0.length c2] 41 (0, 0)) := (hg4.block S (by have := SZ.out; simp; omega) (fun e => by have := (OW.out.lt S e.symm).1; omega)).trans ((Below.heap_alloc _ _ _ (by have := SZ.out; omega)).trans HB.out)); (have k4 := cell_of_row _ _ 0 _ _ (0, 0) h4); (have f4 := frozen_of_row W4 S 0 _ _ h4); (have O4 := Lib.hid ho4); (have G4 := Lib.hid hg4); clear ho4 hg4 h4)
  have GA := Lib.hid (show Laid W2 (W2.alloc (.cells #[.int .i32 r, .int .i64 m, .int .i64 a] 52)) from (Below.refl _ _).alloc (Nat.le_refl _) _)
  have BC := Lib.hid (BoxC.snoc (y := (r, m, a)) (H2.out.laid GA.out) ((GA.out.block S (by have := SZ.out; omega)).trans HB.out) O4.out (OW.out.alloc _) G4.out)
  refine ⟨?_, ?_, Lib.hid ?_⟩
  ·exact (keeps_laid GA.out).trans ((keeps_grown G4.out (own_isCells (OW.out.alloc _))).trans ((KeepsOthers.setCell _ _ _).from _))
  ·refine ⟨?_, fun j hj => ?_⟩
   ·have h1 := GA.out.size
    have h2 := G4.out.size
    simp at h1 h2 ⊢
    omega
   ·have hj2 : j < S + 2 := by omega
    refine (Below.heap_setCell _ _ _ _ (by show j ≠ S; omega)).trans ((G4.out.block j ?_ ?_).trans (GA.out.block j ?_))
    ·have := SZ.out; simp; omega
    ·intro e; have := (OW.out.lt j e.symm).1; omega
    ·have := SZ.out; omega
  ·rw [HK.out]
   refine ⟨BC.out, ?_⟩
   have h1 := GA.out.size
   have h2 := G4.out.size
   have := SZ.out
   simp at h1 h2 ⊢
   omega
 case done =>
  rintro D W hD hi hdef
  rw [List.take_of_length_le (Nat.le_refl _)] at hi
  obtain ⟨A2, c2, hb2, ho2⟩ := hi.out.1.box
  have c3 : W.cell? ⟨S, 0, none⟩ = some (.slice A2 (snds L).length c2) := cell_of_row _ _ 0 _ _ (0, 0) hb2
  obtain ⟨n2, hn2⟩ : ∃ n2, (snds L).length = n2 := ⟨_, rfl⟩
  unfold HasC at ho2
  rw [hn2] at c3 ho2 hb2
  obtain ⟨A3, c3', e3, hc3⟩ := own_cap ho2
  injection e3 with e3 _ e3'
  subst e3 e3'
  have TR := Lib.hid (trim_walk A2 n2 c2 hc3 (snds L) W (by have := HL.out; rw [← hn2]; unfold snds; rw [List.length_map]; omega) (Sq.own ho2))
  have HI := Lib.hid (And.intro hi.out hdef)
  clear hi hdef hb2 ho2 hn2 TL
  go_wp2_with fail
  refine TR.out.mono ?_
  rintro e w5 ⟨v5, rfl, h5, b5⟩
  have H5 := Lib.hid (And.intro h5 b5)
  clear TR h5 b5 c3
  go_wp2_with fail
  have hdD : w5.heap[D]? = some (.deferred (some [])) := (H5.out.2.block D (Array.getElem?_eq_some_iff.1 HI.out.2).1).trans HI.out.2
  refine ⟨by simp, .inl ⟨_, _, rfl, run_takeDeferred hdD, ?_⟩⟩
  have o1 : Below w.heap.size w w5 := HI.out.1.1.old.trans (H5.out.2.mono HI.out.1.1.old.size)
  have o2 : Below w.heap.size w (w5.putObj D (.deferred none)) := o1.trans ⟨rfl, rfl, rfl, by simp, fun k hk => World.putObj_heap_other (by have := Z2.out; have := HS.out; omega)⟩
  have h6 : (w5.putObj D (.deferred none)).ownsRow w.heap.size 52 3 v5 (trimL (snds L)).length (flat (trimL (snds L))) := ownsRow_putObj (own_down (show w5.ownsRow W.heap.size 52 3 v5 (trimL (snds L)).length (flat (trimL (snds L))) from H5.out.1) HI.out.1.1.old.size) _ hdD rfl
  refine ⟨_, ?_, v5, rfl, h6, o2⟩
  simp [results, go_sem]
end Ln
end Go.Proofs.YtjhmndmnhkbigaaGreatDoor
namespace Go.Proofs.YtjhmndmnhkbigaaGreatDoor
open Go.ChangeShapes Go.WideShapes Go.ChangeAt Go.RowKit
namespace Ln
def joinApL : List Ord.Line := [
 (some 10, .load 23 (.tmp 3), none, []),
 (some 11, .move (.tmp 5), none, []),
 (some 12, .call { callee := .value (.func 41), args := #[.tmp 11], argTypes := #[22] }, none, [1]),
 (some 13, .buildSlice 23 1 #[(0, .tmp 12)], none, [2]),
 (some 14, .call { callee := .builtin .append, args := #[.tmp 10, .tmp 13], argTypes := #[23, 23] }, none, [0, 3, 2]),
 (none, .store 23 (.tmp 3) (.tmp 14), none, [4, 4, 0, 1, 2, 3, 4])]
set_option maxRecDepth 100000 in
set_option maxHeartbeats 3200000 in
theorem joinAp {ops : Array Oper} {Rr : Act → World → Prop} {G : World → Value → Prop} (R : Ord.Reg ops joinApL) {w1 : World} {S B m c2 : Nat} {A2 : Option Addr} {vs : List Value} {x : Value} {i0 : TypeInfo} (hi0 : Tryz.prog.info? 41 = some i0) (hz0 : i0.zero = some (.slice none 0 0)) (hz1 : i0.size = 1) (hz2 : i0.bytes = 24)
  (hbox : w1.heap[S]? = some (.cells #[.slice A2 m c2] 23 (0, 0))) (C : Calls Tryz.prog 41 #[x] w1 fun e w' => ∃ A5 n5 c5, e = .returned (.slice A5 n5 c5) ∧ G w' (.slice A5 n5 c5))
  (hG : ∀ w' y, G w' y → Laid w1 w' ∧ w'.ownsRow B 41 1 (.slice A2 m c2) m vs) (hB : S < B) (hBw : B ≤ w1.heap.size) (b1 : m + 1 ≤ maxLen) (b2 : (m + 1) * 24 ≤ 140737488355328)
  (a : Act) (hz : a.tmps.size = 16) (f3 : Chain.At a 3 (.pointer (some ⟨S, 0, none⟩))) (f5 : Chain.At a 5 x)
  (h : ∀ a' w' A5 n5 c5 A4 c4 W4, G w' (.slice A5 n5 c5) → W4.ownsRow B 41 1 (.slice A4 (m + 1) c4) (m + 1) (vs ++ [.slice A5 n5 c5]) → (w'.alloc (.cells #[.slice A5 n5 c5] 41)).grownBy W4 (Value.slice A2 m c2).ownBlock → Rr a' (W4.setCell ⟨S, 0, none⟩ (.slice A4 (m + 1) c4))) :
  wpAnyH Tryz.prog .any ops (fun e a w => e = .normal ∧ Rr a w) (fun _ => True) 6 (List.replicate 6 false).toArray a w1 := by
 have hSw := (Array.getElem?_eq_some_iff.1 hbox).1
 have hld : ∀ (w' : World) (a : Act), w'.heap[S]? = some (.cells #[.slice A2 m c2] 23 (0, 0)) → Chain.At a 3 (.pointer (some ⟨S, 0, none⟩)) → ∀ ty, (execOp a.eval ⟨some 10, .load 23 (.tmp 3), ty, "", #[], none⟩).run Tryz.prog w' = .ok (.value (.slice A2 m c2)) w' := fun w' a hb f ty => by
  have q : w'.cell? ⟨S, 0, none⟩ = some (.slice A2 m c2) := cell_of_row _ _ 0 _ _ (0, 0) hb
  have e := f
  unfold Chain.At at e
  go_simp
 have hbs : ∀ (w' : World) (a : Act) (A5 : Option Addr) (n5 c5 : Nat), Chain.At a 12 (.slice A5 n5 c5) → ∀ ty, (execOp a.eval ⟨some 13, .buildSlice 23 1 #[(0, .tmp 12)], ty, "", #[], none⟩).run Tryz.prog w' = .ok (.value (.slice (some ⟨w'.heap.size, 0, none⟩) 1 1)) (w'.alloc (.cells #[.slice A5 n5 c5] 41)) := fun w' a A5 n5 c5 f ty => by
  have e := f
  unfold Chain.At at e
  go_simp
 have tail : ∀ (a : Act) (w' : World) (A5 : Option Addr) (n5 c5 : Nat), a.tmps.size = 16 → Chain.At a 3 (.pointer (some ⟨S, 0, none⟩)) → Chain.At a 10 (.slice A2 m c2) → Chain.At a 13 (.slice (some ⟨w'.heap.size, 0, none⟩) 1 1) → G w' (.slice A5 n5 c5) →
   wpAnyH Tryz.prog .any ops (fun e a w => e = .normal ∧ Rr a w) (fun _ => True) 2 ([true, true, true, true, false, false]).toArray a (w'.alloc (.cells #[.slice A5 n5 c5] 41)) := by
  intro a w' A5 n5 c5 hz f3 f10 f13 hg
  obtain ⟨hl, hown⟩ := hG _ _ hg
  have hlz := hl.size
  refine Ord.append R (k := 4) (bs' := [true, true, true, true, true, false]) (.tmp 10) (.tmp 13) 23 rfl (by kernel_rfl) trivial (by rw [hz]; decide) B 41 i0 (.slice none 0 0) 1 24 Tryz.underlying23 hi0 hz0 hz1 hz2 rfl (by decide) (.slice A2 m c2) m vs f10.ev (hown.alloc _) (some ⟨w'.heap.size, 0, none⟩) 1 1 [.slice A5 n5 c5] f13.ev (w'.heap.size + 1) ⟨rfl, fun _ => ⟨w'.heap.size, 0, rfl, Nat.lt_succ_self _, fun j u hu => ?_⟩⟩ (by simp [Value.oneCell']) b1 b2 (by simp; omega) ?_
  ·rw [Nat.zero_add, cell_of_row _ _ _ _ _ (0, 0) (heap_alloc_new w' _)]
   simpa using hu
  ·intro A4 c4 W4 ho hgr _
   have h4 : W4.heap[S]? = some (.cells #[.slice A2 m c2] 23 (0, 0)) := (hgr.block S (by simp; omega) (fun e => by have := (hown.lt S e.symm).1; omega)).trans ((Below.heap_alloc _ _ _ (by omega)).trans ((hl.block S hSw).trans hbox))
   refine ⟨trivial, fun a5 N => ?_⟩
   have g3 := N.keep 3 _ (by decide) f3
   have g14 := N.got
   refine Ord.effect R (k := 5) (bs' := [true, true, true, true, true, true]) rfl (by kernel_rfl) trivial trivial (w1 := W4.setCell ⟨S, 0, none⟩ (.slice A4 (m + 1) c4)) (fun ty => ?_) ?_
   ·have q : W4.cell? ⟨S, 0, none⟩ = some (.slice A2 m c2) := cell_of_row _ _ 0 _ _ (0, 0) h4
    have fz := frozen_of_row W4 S 0 _ _ h4
    have e1 := g3
    have e2 := g14
    unfold Chain.At at e1 e2
    go_simp
   ·exact Ord.finish R (by kernel_rfl) ⟨rfl, h _ _ _ _ _ _ _ _ hg ho hgr⟩
 refine Ord.take R (k := 1) (v := x) (bs' := [false, true, false, false, false, false]) rfl (by kernel_rfl) Ord.norm_hQ trivial trivial (fun w _ _ => Chain.ev_move f5.ev) (by rw [hz]; decide) fun a1 N => ?_
 have hz1 : a1.tmps.size = 16 := N.size.trans hz
 replace f3 := N.keep 3 _ (by decide) f3
 have f11 := N.got
 clear N
 refine Ord.either R (i := 0) (j := 2) (bs1 := [true, true, false, false, false, false]) (bs2 := [false, true, true, false, false, false]) (by kernel_rfl) ?_ ?_
 ·refine Ord.step_value R (k := 0) rfl trivial trivial (hld w1 a1 hbox f3) (by rw [hz1]; decide) fun a2 N => ?_
  have hz2 : a2.tmps.size = 16 := N.size.trans hz1
  have g3 := N.keep 3 _ (by decide) f3
  have g11 := N.keep 11 _ (by decide) f11
  have g10 := N.got
  refine Ord.call R (k := 2) (bs' := [true, true, true, false, false, false]) (args := #[x]) rfl (by kernel_rfl) trivial (by simp [g11.ev]) (by kernel_rfl) C (by rw [hz2]; decide) ?_
  rintro e w' ⟨A5, n5, c5, rfl, hg⟩
  refine ⟨_, rfl, trivial, fun a3 N => ?_⟩
  have hz3 : a3.tmps.size = 16 := N.size.trans hz2
  have k3 := N.keep 3 _ (by decide) g3
  have k10 := N.keep 10 _ (by decide) g10
  have k12 := N.got
  refine Ord.value R (k := 3) (bs' := [true, true, true, true, false, false]) rfl (by kernel_rfl) trivial trivial (hbs w' a3 _ _ _ k12) (by rw [hz3]; decide) fun a4 N => ?_
  exact tail a4 w' _ _ _ (N.size.trans hz3) (N.keep 3 _ (by decide) k3) (N.keep 10 _ (by decide) k10) N.got hg
 ·refine Ord.step_call R (k := 2) (args := #[x]) rfl trivial (by simp [f11.ev]) (by kernel_rfl) C (by rw [hz1]; decide) ?_
  rintro e w' ⟨A5, n5, c5, rfl, hg⟩
  have hb' : w'.heap[S]? = some (.cells #[.slice A2 m c2] 23 (0, 0)) := ((hG _ _ hg).1.block S hSw).trans hbox
  refine ⟨_, rfl, trivial, fun a2 N => ?_⟩
  have hz2 : a2.tmps.size = 16 := N.size.trans hz1
  have g3 := N.keep 3 _ (by decide) f3
  have g12 := N.got
  refine Ord.either R (i := 0) (j := 3) (bs1 := [true, true, true, false, false, false]) (bs2 := [false, true, true, true, false, false]) (by kernel_rfl) ?_ ?_
  ·refine Ord.step_value R (k := 0) rfl trivial trivial (hld w' a2 hb' g3) (by rw [hz2]; decide) fun a3 N => ?_
   have hz3 : a3.tmps.size = 16 := N.size.trans hz2
   have k3 := N.keep 3 _ (by decide) g3
   have k12 := N.keep 12 _ (by decide) g12
   have k10 := N.got
   refine Ord.value R (k := 3) (bs' := [true, true, true, true, false, false]) rfl (by kernel_rfl) trivial trivial (hbs w' a3 _ _ _ k12) (by rw [hz3]; decide) fun a4 N => ?_
   exact tail a4 w' _ _ _ (N.size.trans hz3) (N.keep 3 _ (by decide) k3) (N.keep 10 _ (by decide) k10) N.got hg
  ·refine Ord.step_value R (k := 3) rfl trivial trivial (hbs w' a2 _ _ _ g12) (by rw [hz2]; decide) fun a3 N => ?_
   have hz3 : a3.tmps.size = 16 := N.size.trans hz2
   have k3 := N.keep 3 _ (by decide) g3
   have k13 := N.got
   refine Ord.value R (k := 0) (bs' := [true, true, true, true, false, false]) rfl (by kernel_rfl) trivial trivial (hld _ a3 ((Below.heap_alloc _ _ _ (by have := (hG _ _ hg).1.size; omega)).trans hb') k3) (by rw [hz3]; decide) fun a4 N => ?_
   exact tail a4 w' _ _ _ (N.size.trans hz3) (N.keep 3 _ (by decide) k3) N.got (N.keep 13 _ (by decide) k13) hg
end Ln
end Go.Proofs.YtjhmndmnhkbigaaGreatDoor
namespace Go.Proofs.YtjhmndmnhkbigaaGreatDoor
open Go.ChangeShapes Go.WideShapes Go.ChangeAt Go.RowKit
namespace Ln
open Rw
attribute [local go_sem] Oper.semAt_some
theorem own_type {w : World} {base : Nat} {e : TypeId} {size n : Nat} {v : Value} {xs : List Value} (h : w.ownsRow base e size v n xs) : ∀ j, v.ownBlock = some j → ∃ cur, w.heap[j]? = some (.cells cur e (0, 0)) := by
 intro j hj
 rcases h.2 with ⟨rfl, _⟩ | ⟨g, cap, cur, rfl, _, hg, _⟩
 ·cases hj
 ·injection hj with hj
  subst hj
  exact ⟨_, hg⟩
theorem own_ne {w : World} {b1 b2 : Nat} {e1 e2 : TypeId} {s1 s2 n1 n2 : Nat} {v1 v2 : Value} {xs1 xs2 : List Value} (h1 : w.ownsRow b1 e1 s1 v1 n1 xs1) (h2 : w.ownsRow b2 e2 s2 v2 n2 xs2) (he : e1 ≠ e2) : ∀ j, v1.ownBlock = some j → v2.ownBlock ≠ some j := by
 intro j hj hj2
 obtain ⟨c1, k1⟩ := own_type h1 j hj
 obtain ⟨c2, k2⟩ := own_type h2 j hj2
 rw [k1] at k2
 injection k2 with k2
 injection k2 with _ k2 _
 exact he k2
theorem infoSl : (Tryz.prog.info? 41).map (fun i => (i.zero, i.size, i.bytes)) = some (some (.slice none 0 0), 1, 24) := by kernel_rfl
structure Lns (W : World) (B : Nat) (v : Value) (vs : List Value) (ls : List (List Cel)) : Prop where
 own : W.ownsRow B 41 1 v ls.length vs
 each : ∀ (i : Nat) (x : Value) (l : List Cel), vs[i]? = some x → ls[i]? = some l → HasC W B x l
namespace Lns
variable {W W' : World} {B : Nat} {v v' x : Value} {vs : List Value} {ls : List (List Cel)} {l : List Cel}
theorem nothing (W : World) (B : Nat) : Lns W B (.slice none 0 0) [] [] := ⟨World.ownsRow_nil _ _ _ _, fun i x l h => by simp at h⟩
theorem len (h : Lns W B v vs ls) : vs.length = ls.length := by have := h.own.1; omega
theorem keep (h : Lns W B v vs ls) (hk : ∀ j, B ≤ j → j < W.heap.size → W'.heap[j]? = W.heap[j]?) : Lns W' B v vs ls :=
 ⟨own_keep h.own fun j hj => hk j (h.own.lt j hj).1 (h.own.lt j hj).2, fun i x l hx hl => own_keep (h.each i x l hx hl) fun j hj => by
  have hh : W.ownsRow B 52 3 x l.length (flat l) := h.each i x l hx hl
  exact hk j (hh.lt j hj).1 (hh.lt j hj).2⟩
theorem laid (h : Lns W B v vs ls) (hb : Laid W W') : Lns W' B v vs ls := h.keep fun j _ hj => hb.block j hj
theorem put (h : Lns W B v vs ls) {j : Nat} {o : Obj} (o' : Obj) (ho : W.heap[j]? = some o) (hc : o.isCells = false) : Lns (W.putObj j o') B v vs ls :=
 ⟨ownsRow_putObj h.own o' ho hc, fun i x l hx hl => ownsRow_putObj (h.each i x l hx hl) o' ho hc⟩
theorem down (h : Lns W B v vs ls) {B' : Nat} (hb : B' ≤ B) : Lns W B' v vs ls := ⟨own_down h.own hb, fun i x l hx hl => own_down (h.each i x l hx hl) hb⟩
theorem snoc (h : Lns W B v vs ls) (hx : HasC W B x l) (ho : W'.ownsRow B 41 1 v' (ls.length + 1) (vs ++ [x])) (hg : W.grownBy W' v.ownBlock) : Lns W' B v' (vs ++ [x]) (ls ++ [l]) := by
 have keepc : ∀ {y : Value} {m : List Cel}, HasC W B y m → HasC W' B y m := fun {y m} hy => own_keep hy fun j hj => by
  have hh : W.ownsRow B 52 3 y m.length (flat m) := hy
  exact hg.block j (hh.lt j hj).2 (fun e => own_ne hh h.own (by decide) j hj e.symm)
 refine ⟨by rw [List.length_append, List.length_singleton]; exact ho, fun i y m hy hm => ?_⟩
 have hl := h.len
 by_cases hi : i < ls.length
 ·rw [List.getElem?_append_left (by omega)] at hy
  rw [List.getElem?_append_left hi] at hm
  exact keepc (h.each i y m hy hm)
 ·have hi2 := (List.getElem?_eq_some_iff.1 hm).1
  rw [List.length_append, List.length_singleton] at hi2
  obtain rfl : i = ls.length := by omega
  rw [List.getElem?_append_right (by omega), hl, Nat.sub_self] at hy
  rw [List.getElem?_append_right (Nat.le_refl _), Nat.sub_self] at hm
  simp at hy hm
  subst hy hm
  exact keepc hx
end Lns
def LnsPost (ls : List (List Cel)) (w : World) (e : Ending) (w' : World) : Prop := ∃ v vs, e = .returned v ∧ Lns w' w.heap.size v vs ls ∧ Below w.heap.size w w'
structure BoxL (w0 : World) (g B : Nat) (ls : List (List Cel)) (W : World) : Prop where
 old : Below w0.heap.size w0 W
 low : w0.heap.size ≤ g
 gB : g < B
 big : B ≤ W.heap.size
 box : ∃ A c vs, W.heap[g]? = some (.cells #[.slice A ls.length c] 23 (0, 0)) ∧ Lns W B (.slice A ls.length c) vs ls
namespace BoxL
theorem low' {w0 W : World} {g B : Nat} {ls : List (List Cel)} (h : BoxL w0 g B ls W) : w0.heap.size ≤ B := Nat.le_trans h.low (Nat.le_of_lt h.gB)
variable {w0 W W' : World} {g B : Nat} {ls : List (List Cel)}
theorem laid (h : BoxL w0 g B ls W) (hb : Laid W W') : BoxL w0 g B ls W' := by
 obtain ⟨A, c, vs, h1, h2⟩ := h.box
 exact ⟨h.old.trans (hb.mono h.old.size), h.low, h.gB, Nat.le_trans h.big hb.size, A, c, vs, (hb.block _ (Array.getElem?_eq_some_iff.1 h1).1).trans h1, h2.laid hb⟩
theorem put (h : BoxL w0 g B ls W) {j : Nat} {o : Obj} (o' : Obj) (hj : w0.heap.size ≤ j) (ho : W.heap[j]? = some o) (hc : o.isCells = false) : BoxL w0 g B ls (W.putObj j o') := by
 obtain ⟨A, c, vs, h1, h2⟩ := h.box
 refine ⟨h.old.trans ⟨rfl, rfl, rfl, by simp, fun k hk => World.putObj_heap_other (by omega)⟩, h.low, h.gB, by simp; exact h.big, A, c, vs, (World.putObj_heap_other (fun e => ?_)).trans h1, h2.put o' ho hc⟩
 subst e
 rw [h1] at ho
 cases ho
 cases hc
theorem snoc {A : Option Addr} {c : Nat} {vs : List Value} {v' x : Value} {l : List Cel} (h : BoxL w0 g B ls W) (hb : W.heap[g]? = some (.cells #[.slice A ls.length c] 23 (0, 0))) (hl : Lns W B (.slice A ls.length c) vs ls) (hx : HasC W B x l)
  (ho : W'.ownsRow B 41 1 v' (ls.length + 1) (vs ++ [x])) (hg : W.grownBy W' (Value.slice A ls.length c).ownBlock) : BoxL w0 g B (ls ++ [l]) (W'.setCell ⟨g, 0, none⟩ v') := by
 have hlt := (Array.getElem?_eq_some_iff.1 hb).1
 have hne : ∀ j, j < B → (Value.slice A ls.length c).ownBlock ≠ some j := fun j hj e => by have := (hl.own.lt j e).1; omega
 have hb' : W'.heap[g]? = _ := (hg.block g hlt (fun e => hne g h.gB e.symm)).trans hb
 obtain ⟨A', c', rfl, hc'⟩ := own_cap ho
 have hs := hl.snoc hx ho hg
 refine ⟨?_, h.low, h.gB, ?_, A', c', vs ++ [x], ?_, ?_⟩
 ·have h1 : Below w0.heap.size w0 W' := h.old.grown hg h.old.size (fun j e => by have h1 := (hl.own.lt j e).1; have := h.low; have := h.gB; omega)
  exact h1.setCell (p := ⟨g, 0, none⟩) h.low _
 ·have := h.big; have := hg.size; simp; omega
 ·rw [List.length_append, List.length_singleton]
  have := heap_setCell_same W' g 0 _ _ (.slice A' (ls.length + 1) c') hb'
  simpa using this
 ·rw [List.length_append, List.length_singleton]
  refine hs.keep fun j hj _ => Below.heap_setCell _ _ _ _ ?_
  have := h.gB
  show j ≠ g
  omega
end BoxL
theorem part_le {p : List LR} : ∀ {l : List LR}, p ∈ parts l → p.length ≤ l.length
 | [], h => by simp [parts] at h
 | r :: rs, h => by
  rw [parts_cons] at h
  cases e : parts rs with
  | nil =>
   rw [e] at h
   simp [addP] at h
   subst h
   simp
  | cons q qs =>
   have ih := fun h => part_le (p := p) (l := rs) h
   have iq := part_le (p := q) (l := rs) (by rw [e]; simp)
   rw [e] at h ih
   rw [addP_cons] at h
   split at h
   ·rcases List.mem_cons.1 h with rfl | h
    ·simp; omega
    ·have := ih (by simp [h]); simp; omega
   ·rcases List.mem_cons.1 h with rfl | h
    ·simp
    ·have := ih h; simp; omega
theorem joinL_next {rs : List LR} {k : Nat} {part : List LR} (h : (parts rs)[k]? = some part) : (joinL rs).take (k + 1) = (joinL rs).take k ++ [joined part] := by
 unfold joinL
 rw [← List.map_take, ← List.map_take, take_one h, List.map_append]
 rfl
theorem cell_single (w : World) (e : TypeId) (x : Value) : ∀ (j : Nat) (u : Value), [x][j]? = some u → (w.alloc (.cells #[x] e)).cell? ((⟨w.heap.size, 0, none⟩ : Addr).add j) = some u := by
 intro j u hu
 rw [add_at, Nat.zero_add, cell_of_row _ _ _ _ _ (0, 0) (heap_alloc_new w _)]
 match j, hu with
 | 0, hu => exact hu
 | j + 1, hu => simp at hu
set_option maxRecDepth 100000 in
set_option maxHeartbeats 6400000 in
theorem join_walk (A : Option Addr) (n c : Nat) (rs : List RowIn) (w : World) (hs : Spans w) (hr : Rws w w.heap.size A n rs) (hc : n ≤ c) (hn : n ≤ 1000000) :
  Calls Tryz.prog 16 #[.slice A n c] w fun e w' => LnsPost (joinL (rs.map lr)) w e w' := by
 obtain ⟨i0, hi0, hz0, hz1, hz2⟩ := info_parts infoSl
 obtain ⟨S, hS⟩ : ∃ S, w.heap.size = S := ⟨_, rfl⟩
 obtain ⟨N, hN⟩ : ∃ N, (parts (rs.map lr)).length = N := ⟨_, rfl⟩
 have hNn : N ≤ 1000000 := by
  have h1 := parts_length_le (rs.map lr)
  rw [hN, List.length_map, hr.len] at h1
  omega
 have hJN : (joinL (rs.map lr)).length = N := by unfold joinL; rw [List.length_map, hN]
 have hsp : 0 < S := by rw [← hS]; exact hs.size
 obtain ⟨w1, hw1⟩ : ∃ w1, w.alloc (.cells #[.slice none 0 0] 23) = w1 := ⟨_, rfl⟩
 have b1 : Below w.heap.size w w1 := by rw [← hw1]; exact (Below.refl _ _).alloc (Nat.le_refl _) _
 have z1 : w1.heap.size = S + 1 := by rw [← hw1, ← hS]; simp
 obtain ⟨w2, hw2⟩ : ∃ w2, w1.alloc (.cells #[.slice A n c] 22) = w2 := ⟨_, rfl⟩
 have b2 : Laid w1 w2 := by rw [← hw2]; exact (Below.refl _ _).alloc (Nat.le_refl _) _
 have z2 : w2.heap.size = S + 2 := by rw [← hw2]; simp [z1]
 have h0 : BoxL w S (S + 2) [] w2 := by
  refine ⟨b1.trans (b2.mono b1.size), by rw [hS]; exact Nat.le_refl _, by omega, by omega, none, 0, [], (b2.block S (by omega)).trans ?_, Lns.nothing _ _⟩
  rw [← hw1, ← hS]
  exact heap_alloc_new w _
 have hps : PSrc S (S + 1) A n c rs w2 := by
  refine ⟨hs.below h0.old hs.size, hsp, ?_, ?_, by omega⟩
  ·rw [← hw2, ← z1]
   exact heap_alloc_new w1 _
  ·have := hr.below h0.old
   rw [hS] at this
   exact this
 have TL := Lib.hid (parts_tells (Kp := Leaves S (S + 1)) hps hc (fun _ _ h => h) hn)
 rw [hN] at TL
 have SW := Lib.hid (parts_walk A n c w1)
 rw [hw2, z1] at SW
 have H0 := Lib.hid h0
 have HPS := Lib.hid hps
 have HW := Lib.hid hw1
 have HS := Lib.hid hS
 have Z2 := Lib.hid z2
 have HJ := Lib.hid hJN
 have HN := Lib.hid hNn
 clear hr hs hps h0 b1 b2 hw1 hw2 z1 z2 hJN hsp hNn hN
 obtain ⟨JL, hJL⟩ : ∃ JL, joinL (rs.map lr) = JL := ⟨_, rfl⟩
 have NX := Lib.hid (show ∀ (k : Nat) (part : List LR), (parts (rs.map lr))[k]? = some part → JL.take (k + 1) = JL.take k ++ [joined part] from fun k part h => by rw [← hJL]; exact joinL_next h)
 rw [hJL] at HJ ⊢
 clear hJL
 refine (callsIn_wide (n := 3)).1 (callsIn_of_wp_marks Tryz.func16 rfl trivial ?_ rfl)
 simp only [Tryz.ntmps16, List.size_toArray, List.length_cons, List.length_nil, Nat.reduceAdd, Nat.reduceSub, Array.replicate_succ, Array.replicate_zero, List.push_toArray, List.append_toArray, List.nil_append, List.cons_append]
 refine wpIn_wide.2 ?_
 go_wp2_with fail
 rw [HW.out]
 refine SW.out.mono ?_
 rintro e w' ⟨rfl, rfl⟩
 go_wp2_with fail
 refine wp_over (Fit := FitP S rs) (Kp := Leaves S (S + 1)) (N := N) (gf := 75) (lb := #[.pointer (some ⟨S + 1, 0, none⟩)]) rfl (enters_of Tryz.func75 (by kernel_rfl) rfl) TL.out Leaves.trans
  (fun A B hA h => Leaves.laid h (by have := Z2.out; omega) (by have := Z2.out; omega)) (fun W l o o' hl ho hc => Leaves.put (by have := Z2.out; omega) (by have := Z2.out; omega) o') (fun k x W h => by obtain ⟨_, _, _, _, rfl, _⟩ := h; rfl)
  (fun k W => Hid (BoxL w S (S + 2) (JL.take k) W ∧ PSrc S (S + 1) A n c rs W)) (fun _ _ _ => False)
  (fun k A B h hb => Lib.hid ⟨h.out.1.laid hb, h.out.2.laid hb⟩) (fun k W l o o' hl ho hc h => Lib.hid ⟨h.out.1.put o' (by have := Z2.out; have := HS.out; omega) ho hc, h.out.2.kept (Leaves.put (by have := Z2.out; omega) (by have := Z2.out; omega) o')⟩)
  (fun _ _ _ _ h _ => h) (fun _ _ _ _ _ _ _ _ _ h => h) (Lib.hid ⟨H0.out, HPS.out⟩) ?round ?done (fun _ _ _ _ _ _ h _ => h.elim)
 case round =>
  rintro l2 k2 x W hk2 hl2 ⟨o, ho, hoc⟩ hi ⟨A', n', c', sub, rfl, hsub, hrw, hcc⟩
  gi_wp2
  refine ⟨Below.refl _ _, fun o1 => ?_⟩
  have hS2 : S + 2 ≤ l2 := by have := Z2.out; omega
  have H2 := Lib.hid (hi.out.1.put o1 (by have := HS.out; omega) ho hoc)
  have P2 := Lib.hid (hi.out.2.kept (W' := W.putObj l2 o1) (Leaves.put (S := S) (Bx := S + 1) (by omega) (by omega) o1))
  have R2 := Lib.hid (hrw.kept (W' := W.putObj l2 o1) fun j hj => World.putObj_heap_other (by omega))
  generalize W.putObj l2 o1 = W2 at H2 P2 R2 ⊢
  clear hi ho hrw
  obtain ⟨l0, hl0⟩ : ∃ l0, JL.take k2 = l0 := ⟨_, rfl⟩
  have hll : l0.length = k2 := by rw [← hl0, List.length_take, HJ.out]; omega
  rw [hl0] at H2
  obtain ⟨A2, c2, vs, hb2, ho2⟩ := H2.out.box
  have c3 : W2.cell? ⟨S, 0, none⟩ = some (.slice A2 l0.length c2) := cell_of_row _ _ 0 _ _ (0, 0) hb2
  have B1 := Lib.hid (show l0.length + 1 ≤ maxLen from by have := HN.out; unfold maxLen; omega)
  have B2 := Lib.hid (show (l0.length + 1) * 24 ≤ 140737488355328 from by have := HN.out; omega)
  have OW := Lib.hid ho2
  have HB := Lib.hid hb2
  have C3 := Lib.hid c3
  have HK := Lib.hid (show JL.take (k2 + 1) = l0 ++ [joined (sub.map lr)] from by rw [NX.out _ _ hsub, hl0])
  have hn' : n' ≤ 1000000 := by
   have h2 := part_le (List.mem_of_getElem? hsub)
   rw [List.length_map, List.length_map, R2.out.len, P2.out.rows.len] at h2
   omega
  have JW := Lib.hid (fun (W' : World) (hb : Laid W2 W') => joined_walk A' n' c' sub W' (P2.out.laid hb).sp ((R2.out.below (hb.mono P2.out.big)).up (Nat.le_trans P2.out.big hb.size)) hn')
  clear hb2 ho2 hl0 hll hsub hn'
  gi_wp2
  have D2 : Laid W2 W2.drew := (Below.refl _ _).drew
  refine Ord.start_in (S := fun _ => True) (n := 6) (R := fun _ W => KeepsFrom w'.heap.size W2 W ∧ Leaves S (S + 1) W2 W ∧ Hid (BoxL w S (S + 2) (JL.take (k2 + 1)) W ∧ PSrc S (S + 1) A n c rs W)) (by kernel_rfl) (by kernel_rfl) (by kernel_rfl) ?_ (fun a W h => h)
  refine joinAp (w1 := W2.drew) (m := l0.length) (S := S) (B := S + 2) (A2 := A2) (c2 := c2) (vs := vs) (x := .slice A' n' c') (G := fun W y => Laid W2 W ∧ HasC W W2.heap.size y (joined (sub.map lr))) ⟨by kernel_rfl, by kernel_rfl⟩ hi0 hz0 hz1 hz2 HB.out ?_ ?_ (by omega) H2.out.big B1.out B2.out _ ?_ ?_ ?_ ?_
  ·refine (JW.out _ D2).mono ?_
   rintro e W3 ⟨v5, rfl, h5, b5⟩
   obtain ⟨A5, d5, rfl, _⟩ := own_cap (show W3.ownsRow W2.drew.heap.size 52 3 v5 (trimL ((sub.map lr).flatMap cellsR)).length _ from h5)
   exact ⟨A5, _, d5, rfl, D2.trans b5, h5⟩
  ·rintro W3 y ⟨b5, h5⟩
   exact ⟨⟨b5.os, b5.tape, b5.output, b5.size, b5.block⟩, (OW.out.laid b5).own⟩
  ·rfl
  ·rfl
  ·rfl
  ·rintro a3 W3 A5 n5 c5 A4 c4 W4 ⟨b5, h5⟩ ho hg
   have O3 := H2.out.laid b5
   have hbig := O3.big
   have b6 : Laid W2 (W3.alloc (.cells #[.slice A5 n5 c5] 41)) := b5.alloc b5.size _
   have hx : HasC (W3.alloc (.cells #[.slice A5 n5 c5] 41)) (S + 2) (.slice A5 n5 c5) (joined (sub.map lr)) := own_down (own_laid h5 ((Below.refl _ _).alloc (Nat.le_refl _) _)) H2.out.big
   have hL := OW.out.laid b6
   have hne : ∀ j, (Value.slice A2 l0.length c2).ownBlock = some j → S + 2 ≤ j := fun j e => (hL.own.lt j e).1
   refine ⟨?_, ?_, Lib.hid ⟨?_, ?_⟩⟩
   ·exact (keeps_laid b6).trans ((keeps_grown hg (own_isCells hL.own)).trans ((KeepsOthers.setCell _ _ _).from _))
   ·refine ⟨?_, fun j hj => ?_⟩
    ·have h1 := b6.size
     have h2 := hg.size
     simp at h1 h2 ⊢
     omega
    ·have hj2 : j < S + 2 := by omega
     refine (Below.heap_setCell _ _ _ _ (by show j ≠ S; omega)).trans ((hg.block j (by have := H2.out.big; simp; omega) (fun e => by have := hne j e.symm; omega)).trans (b6.block j (by have := H2.out.big; omega)))
   ·rw [HK.out]
    exact BoxL.snoc (H2.out.laid b6) ((b6.block S (by have := H2.out.big; omega)).trans HB.out) hL hx ho hg
   ·refine P2.out.kept ⟨?_, fun j hj => ?_⟩
    ·have h1 := b6.size
     have h2 := hg.size
     simp at h1 h2 ⊢
     omega
    ·have hj2 : j < S + 2 := by omega
     refine (Below.heap_setCell _ _ _ _ (by show j ≠ S; omega)).trans ((hg.block j (by have := H2.out.big; simp; omega) (fun e => by have := hne j e.symm; omega)).trans (b6.block j (by have := H2.out.big; omega)))
 case done =>
  rintro D W hD hi hdef
  rw [List.take_of_length_le (by rw [HJ.out]; exact Nat.le_refl _)] at hi
  obtain ⟨A2, c2, vs, hb2, ho2⟩ := hi.out.1.box
  have c3 : W.cell? ⟨S, 0, none⟩ = some (.slice A2 JL.length c2) := cell_of_row _ _ 0 _ _ (0, 0) hb2
  have HI := Lib.hid (And.intro hi.out hdef)
  have HO := Lib.hid ho2
  clear hi hdef hb2 ho2 TL
  go_wp2_with fail
  refine ⟨by simp, .inl ⟨_, _, rfl, run_takeDeferred HI.out.2, ?_⟩⟩
  have o2 : Below w.heap.size w (W.putObj D (.deferred none)) := HI.out.1.1.old.trans ⟨rfl, rfl, rfl, by simp, fun k hk => World.putObj_heap_other (by have := Z2.out; have := HS.out; omega)⟩
  refine ⟨_, ?_, _, vs, rfl, (HO.out.put _ HI.out.2 rfl).down HI.out.1.1.low', o2⟩
  simp [results, go_sem]
end Ln
end Go.Proofs.YtjhmndmnhkbigaaGreatDoor
namespace Go.Proofs.YtjhmndmnhkbigaaGreatDoor
open Go.ChangeShapes Go.WideShapes Go.ChangeAt Go.RowKit
namespace Ln
open Rw
def eqLs : List (List Cel) → List (List Cel) → Bool
 | [], [] => true
 | x :: xs, y :: ys => eqL x y && eqLs xs ys
 | _, _ => false
theorem eqL_refl (l : List Cel) : eqL l l = true := by simp [eqL]
theorem eqLs_refl : ∀ ls : List (List Cel), eqLs ls ls = true
 | [] => rfl
 | l :: ls => by rw [eqLs, eqL_refl, eqLs_refl ls]; rfl
theorem eqLs_len : ∀ {a b : List (List Cel)}, a.length ≠ b.length → eqLs a b = false
 | [], [], h => absurd rfl h
 | [], _ :: _, _ => rfl
 | _ :: _, [], _ => rfl
 | x :: a, y :: b, h => by rw [eqLs, eqLs_len (a := a) (b := b) (by simpa using h)]; simp
structure Lrd (W : World) (B : Nat) (A : Option Addr) (n : Nat) (vs : List Value) (ls : List (List Cel)) : Prop where
 sq : Sq W B 1 n A vs
 len : ls.length = n
 each : ∀ (i : Nat) (x : Value) (l : List Cel), vs[i]? = some x → ls[i]? = some l → ∃ A' n' c', x = .slice A' n' c' ∧ n' ≤ c' ∧ Sq W B 3 n' A' (flat l) ∧ n' ≤ 1000000
theorem Lrd.below {W W' : World} {B n : Nat} {A : Option Addr} {vs : List Value} {ls : List (List Cel)} (h : Lrd W B A n vs ls) (hb : Below B W W') : Lrd W' B A n vs ls :=
 ⟨h.sq.below hb, h.len, fun i x l hx hl => by obtain ⟨A', n', c', e, hc, hq, hn⟩ := h.each i x l hx hl; exact ⟨A', n', c', e, hc, hq.below hb, hn⟩⟩
theorem Lrd.up {W : World} {B B' n : Nat} {A : Option Addr} {vs : List Value} {ls : List (List Cel)} (h : Lrd W B A n vs ls) (hb : B ≤ B') : Lrd W B' A n vs ls :=
 ⟨h.sq.up hb, h.len, fun i x l hx hl => by obtain ⟨A', n', c', e, hc, hq, hn⟩ := h.each i x l hx hl; exact ⟨A', n', c', e, hc, hq.up hb, hn⟩⟩
theorem Lns.rd {W : World} {B : Nat} {A : Option Addr} {n c : Nat} {vs : List Value} {ls : List (List Cel)} (h : Lns W B (.slice A n c) vs ls) (hs : ∀ l ∈ ls, l.length ≤ 1000000) : n = ls.length ∧ Lrd W W.heap.size A n vs ls := by
 obtain ⟨A', c', e, _⟩ := own_cap h.own
 injection e with e1 e2 e3
 subst e1 e2 e3
 refine ⟨rfl, Sq.own h.own, rfl, fun i x l hx hl => ?_⟩
 have hh : W.ownsRow B 52 3 x l.length (flat l) := h.each i x l hx hl
 obtain ⟨A', c', rfl, hc⟩ := own_cap hh
 exact ⟨A', _, c', rfl, hc, Sq.own hh, hs l (List.mem_of_getElem? hl)⟩
theorem one_at {W : World} {B n k : Nat} {A : Option Addr} {vs : List Value} {x : Value} (h : Sq W B 1 n A vs) (hx : vs[k]? = some x) (hk : k < n) : ∃ b off, A = some ⟨b, off, none⟩ ∧ b < B ∧ W.cell? ⟨b, off + k, none⟩ = some x := by
 obtain ⟨b, off, e, hb, hc⟩ := h.spot (by omega)
 exact ⟨b, off, e, hb, hc k x hx⟩
theorem drop_two {α : Type} {l : List α} {k : Nat} {x : α} (h : l[k]? = some x) : l.drop k = x :: l.drop (k + 1) := by
 obtain ⟨h1, h2⟩ := List.getElem?_eq_some_iff.1 h
 rw [List.drop_eq_getElem_cons h1, h2]
set_option maxRecDepth 100000 in
set_option maxHeartbeats 3200000 in
theorem eq_walk (A A' : Option Addr) (n c n' c' : Nat) (vs vs' : List Value) (ls ls' : List (List Cel)) (w : World) (hn : n ≤ 1000000) (h : Lrd w w.heap.size A n vs ls) (h' : Lrd w w.heap.size A' n' vs' ls') :
  Calls Tryz.prog 15 #[.slice A n c, .slice A' n' c'] w fun e w' => e = .returned (.bool (eqLs ls ls')) ∧ Below w.heap.size w w' := by
 by_cases hnn : n = n'
 ·subst hnn
  have Q := Lib.hid h
  have Q' := Lib.hid h'
  have I0 := Lib.hid (Below.refl w.heap.size w)
  obtain ⟨B, hB⟩ : ∃ B, eqLs ls ls' = B := ⟨_, rfl⟩
  have E0 := Lib.hid (show eqLs (ls.drop 0) (ls'.drop 0) = B from hB)
  rw [hB]
  clear h h' hB
  go_enter Tryz.func15, Tryz.ntmps15
  go_wp2_with fail
  go_loopw [5] (fun i wr => ∃ k : Nat, i = .int .i64 (k : Int) ∧ k ≤ n ∧ Hid (Below w.heap.size w wr) ∧ Hid (eqLs (ls.drop k) (ls'.drop k) = B)) (fun i _ => n - (intOf i).toNat)
  case atStart => exact ⟨0, rfl, Nat.zero_le _, I0, E0⟩
  case round =>
   obtain ⟨k, rfl, hk, I, E⟩ := hrel
   clear I0 E0
   by_cases hlt : k < n
   ·obtain ⟨l, hl⟩ : ∃ l, ls[k]? = some l := ⟨_, List.getElem?_eq_getElem (by rw [Q.out.len]; exact hlt)⟩
    obtain ⟨l', hl'⟩ : ∃ l', ls'[k]? = some l' := ⟨_, List.getElem?_eq_getElem (by rw [Q'.out.len]; exact hlt)⟩
    obtain ⟨x, hx⟩ : ∃ x, vs[k]? = some x := ⟨_, List.getElem?_eq_getElem (by have := Q.out.sq.len; omega)⟩
    obtain ⟨x', hx'⟩ : ∃ x', vs'[k]? = some x' := ⟨_, List.getElem?_eq_getElem (by have := Q'.out.sq.len; omega)⟩
    have hb := I.out.drew
    have R := Q.out.below hb
    have R' := Q'.out.below hb
    obtain ⟨b, off, rfl, _, c0⟩ := one_at R.sq hx hlt
    obtain ⟨b', off', rfl, _, c0'⟩ := one_at R'.sq hx' hlt
    obtain ⟨A1, n1, d1, rfl, _, q1, m1⟩ := R.each k x l hx hl
    obtain ⟨A2, n2, d2, rfl, _, q2, m2⟩ := R'.each k x' l' hx' hl'
    have ER := Lib.hid (eqCells_walk A1 A2 n1 d1 n2 d2 l l' wr.drew m1 m2 (q1.up hb.size) (q2.up hb.size))
    obtain ⟨g, hg⟩ : ∃ g, eqL l l' = g := ⟨_, rfl⟩
    have EE := Lib.hid (show (g && eqLs (ls.drop (k + 1)) (ls'.drop (k + 1))) = B from by
     have := E.out
     rw [drop_two hl, drop_two hl', eqLs, hg] at this
     exact this)
    rw [hg] at ER
    have hk0 : (0 : Int) ≤ (k : Int) := by omega
    have hkn : (k : Int) < (n : Int) := by omega
    have hinc : IntKind.i64.wrap ((k : Int) + 1) = (k : Int) + 1 := IntWalk.i64_in _ (by omega)
    have HB := Lib.hid hb
    clear hb R R' hx hx' hl hl' q1 q2 m1 m2 hg I E Q Q'
    go_wp2_with fail
    refine wp_region_still_tail 8 (by kernel_rfl) (by kernel_rfl) ?_
    rw [show ({ wr with drawn := wr.drawn + 1 } : World) = wr.drew from rfl]
    generalize wr.drew = wd at c0 c0' ER HB ⊢
    simp only [List.take_succ_cons, List.take_zero, List.drop_succ_cons, List.drop_zero]
    repeat still_step
    refine wpStill_nil ?_
    go_wp2_with fail
    refine ER.out.mono ?_
    rintro e w2 ⟨rfl, b2⟩
    have I2 := Lib.hid (HB.out.trans (b2.mono HB.out.size))
    clear ER b2 HB c0 c0'
    cases g
    ·have RB := Lib.hid (show B = false from by have := EE.out; simpa using this.symm)
     go_wp2
     go_ret
     exact ⟨ret_bool RB.out.symm, I2.out⟩
    ·have E2 := Lib.hid (show eqLs (ls.drop (k + 1)) (ls'.drop (k + 1)) = B from by have := EE.out; simpa using this)
     go_wp2
     go_roundw
     case rel => exact ⟨k + 1, by first | rfl | (congr 1; done) | (congr 1; omega), by omega, I2, E2⟩
     case measure => first | (simp [intOf]; done) | (simp [intOf]; omega)
   ·obtain rfl : k = n := by omega
    have RB := Lib.hid (show B = true from by
     have h1 := E.out
     rw [List.drop_eq_nil_of_le (by rw [Q.out.len]; exact Nat.le_refl _), List.drop_eq_nil_of_le (by rw [Q'.out.len]; exact Nat.le_refl _)] at h1
     exact h1.symm)
    clear Q Q' E
    go_wp2
    go_ret
    exact ⟨ret_bool RB.out.symm, I.out⟩
 ·rw [eqLs_len (by rw [h.len, h'.len]; exact hnn)]
  have hne : ((n : Int) != (n' : Int)) = true := by simp; omega
  clear h h'
  go_enter Tryz.func15, Tryz.ntmps15
  go_wp2_with fail
  go_ret
  exact ⟨rfl, Below.refl _ _⟩
theorem cellsR_le (r : LR) : (cellsR r).length ≤ 300 := by
 unfold cellsR
 split
 ·rename_i h
  unfold mayL at h
  rw [Bool.and_eq_true, decide_eq_true_eq] at h
  exact Nat.le_trans (List.length_filter_le _ _) h.1
 ·simp
theorem cells_le : ∀ p : List LR, (p.flatMap cellsR).length ≤ 300 * p.length
 | [] => Nat.le_refl _
 | r :: p => by
  have := cells_le p
  have := cellsR_le r
  rw [List.flatMap_cons, List.length_append, List.length_cons]
  omega
theorem joinL_len {rs : List LR} {N : Nat} (hN : 300 * rs.length ≤ N) : ∀ l ∈ joinL rs, l.length ≤ N := by
 intro l hl
 obtain ⟨p, hp, rfl⟩ := List.mem_map.1 hl
 have h1 := part_le hp
 have h2 := cells_le p
 unfold joined trimL
 rw [List.length_take]
 omega
theorem Lns.one {W : World} {B : Nat} {v : Value} {vs : List Value} {ls : List (List Cel)} (h : Lns W B v vs ls) : ∀ u ∈ vs, u.oneCell' = true := by
 intro u hu
 obtain ⟨i, hi, rfl⟩ := List.mem_iff_getElem.1 hu
 have hl : i < ls.length := by rw [← h.len]; exact hi
 have hh : W.ownsRow B 52 3 vs[i] ls[i].length (flat ls[i]) := h.each i _ _ (List.getElem?_eq_getElem hi) (List.getElem?_eq_getElem hl)
 obtain ⟨A, c, e, _⟩ := own_cap hh
 rw [e]
 rfl
end Ln
end Go.Proofs.YtjhmndmnhkbigaaGreatDoor
namespace Go.Proofs.YtjhmndmnhkbigaaGreatDoor
open Go.ChangeShapes Go.WideShapes Go.ChangeAt Go.RowKit
namespace Ln
open Rw
set_option maxRecDepth 100000 in
set_option maxHeartbeats 3200000 in
theorem eqF_walk (A A' : Option Addr) (n c n' c' : Nat) (vs vs' : List Value) (ls ls' : List (List Cel)) (w : World) (hn : n ≤ 1000000) (h : Lrd w w.heap.size A n vs ls) (h' : Lrd w w.heap.size A' n' vs' ls') :
  Calls Tryz.prog 56 #[.slice A n c, .slice A' n' c', .func (.func 57) #[] #[]] w fun e w' => e = .returned (.bool (eqLs ls ls')) ∧ Below w.heap.size w w' := by
 by_cases hnn : n = n'
 ·subst hnn
  have Q := Lib.hid h
  have Q' := Lib.hid h'
  have I0 := Lib.hid (Below.refl w.heap.size w)
  obtain ⟨B, hB⟩ : ∃ B, eqLs ls ls' = B := ⟨_, rfl⟩
  have E0 := Lib.hid (show eqLs (ls.drop 0) (ls'.drop 0) = B from hB)
  rw [hB]
  clear h h' hB
  go_enter Tryz.func56, Tryz.ntmps56
  go_wp2_with fail
  go_loopw [17] (fun i wr => ∃ k : Nat, i = .int .i64 (k : Int) ∧ k ≤ n ∧ Hid (Below w.heap.size w wr) ∧ Hid (eqLs (ls.drop k) (ls'.drop k) = B)) (fun i _ => n - (intOf i).toNat)
  case atStart => exact ⟨0, rfl, Nat.zero_le _, I0, E0⟩
  case round =>
   obtain ⟨k, rfl, hk, I, E⟩ := hrel
   clear I0 E0
   by_cases hlt : k < n
   ·obtain ⟨l, hl⟩ : ∃ l, ls[k]? = some l := ⟨_, List.getElem?_eq_getElem (by rw [Q.out.len]; exact hlt)⟩
    obtain ⟨l', hl'⟩ : ∃ l', ls'[k]? = some l' := ⟨_, List.getElem?_eq_getElem (by rw [Q'.out.len]; exact hlt)⟩
    obtain ⟨x, hx⟩ : ∃ x, vs[k]? = some x := ⟨_, List.getElem?_eq_getElem (by have := Q.out.sq.len; omega)⟩
    obtain ⟨x', hx'⟩ : ∃ x', vs'[k]? = some x' := ⟨_, List.getElem?_eq_getElem (by have := Q'.out.sq.len; omega)⟩
    have hb := I.out
    have R := Q.out.below hb
    have R' := Q'.out.below hb
    obtain ⟨b, off, rfl, _, c0⟩ := one_at R.sq hx hlt
    obtain ⟨b', off', rfl, _, c0'⟩ := one_at R'.sq hx' hlt
    obtain ⟨A1, n1, d1, rfl, _, q1, m1⟩ := R.each k x l hx hl
    obtain ⟨A2, n2, d2, rfl, _, q2, m2⟩ := R'.each k x' l' hx' hl'
    have ER := Lib.hid (slicesEq_walk A1 A2 n1 d1 n2 d2 l l' wr m1 m2 (q1.up hb.size) (q2.up hb.size))
    obtain ⟨g, hg⟩ : ∃ g, eqL l l' = g := ⟨_, rfl⟩
    have EE := Lib.hid (show (g && eqLs (ls.drop (k + 1)) (ls'.drop (k + 1))) = B from by
     have := E.out
     rw [drop_two hl, drop_two hl', eqLs, hg] at this
     exact this)
    rw [hg] at ER
    have hk0 : (0 : Int) ≤ (k : Int) := by omega
    have hkn : (k : Int) < (n : Int) := by omega
    have hinc : IntKind.i64.wrap ((k : Int) + 1) = (k : Int) + 1 := IntWalk.i64_in _ (by omega)
    have HB := Lib.hid hb
    clear hb R R' hx hx' hl hl' q1 q2 m1 m2 hg I E Q Q'
    go_wp2_with fail
    refine ER.out.mono ?_
    rintro e w2 ⟨rfl, b2⟩
    have I2 := Lib.hid (HB.out.trans (b2.mono HB.out.size))
    clear ER b2 HB c0 c0'
    cases g
    ·have RB := Lib.hid (show B = false from by have := EE.out; simpa using this.symm)
     go_wp2
     go_ret
     exact ⟨ret_bool RB.out.symm, I2.out⟩
    ·have E2 := Lib.hid (show eqLs (ls.drop (k + 1)) (ls'.drop (k + 1)) = B from by have := EE.out; simpa using this)
     go_wp2
     go_roundw
     case rel => exact ⟨k + 1, by first | rfl | (congr 1; done) | (congr 1; omega), by omega, I2, E2⟩
     case measure => first | (simp [intOf]; done) | (simp [intOf]; omega)
   ·obtain rfl : k = n := by omega
    have RB := Lib.hid (show B = true from by
     have h1 := E.out
     rw [List.drop_eq_nil_of_le (by rw [Q.out.len]; exact Nat.le_refl _), List.drop_eq_nil_of_le (by rw [Q'.out.len]; exact Nat.le_refl _)] at h1
     exact h1.symm)
    clear Q Q' E
    go_wp2
    go_ret
    exact ⟨ret_bool RB.out.symm, I.out⟩
 ·rw [eqLs_len (by rw [h.len, h'.len]; exact hnn)]
  have hne : ((n : Int) != (n' : Int)) = true := by simp; omega
  clear h h'
  go_enter Tryz.func56, Tryz.ntmps56
  go_wp2_with fail
  go_ret
  exact ⟨rfl, Below.refl _ _⟩
set_option maxRecDepth 100000 in
set_option maxHeartbeats 3200000 in
theorem same_walk (A A' : Option Addr) (n c n' c' : Nat) (rs rs' : List RowIn) (w : World) (hs : Spans w) (hr : Rws w w.heap.size A n rs) (hc : n ≤ c) (hr' : Rws w w.heap.size A' n' rs') (hc' : n' ≤ c') (hn : n ≤ 3000) (hn' : n' ≤ 3000) :
  Calls Tryz.prog 30 #[.slice A n c, .slice A' n' c'] w fun e w' => e = .returned (.bool (eqLs (joinL (rs.map lr)) (joinL (rs'.map lr)))) ∧ Below w.heap.size w w' := by
 have S := Lib.hid hs
 have R' := Lib.hid hr'
 have J1 := Lib.hid (join_walk A n c rs w hs hr hc (by omega))
 have N1 := Lib.hid (joinL_len (rs := rs.map lr) (N := 1000000) (by rw [List.length_map, hr.len]; omega))
 have N2 := Lib.hid (joinL_len (rs := rs'.map lr) (N := 1000000) (by rw [List.length_map, hr'.len]; omega))
 have NL := Lib.hid (show (joinL (rs.map lr)).length ≤ 1000000 from by
  have h1 := parts_length_le (rs.map lr)
  rw [List.length_map, hr.len] at h1
  unfold joinL
  rw [List.length_map]
  omega)
 have J2 := Lib.hid (fun (W : World) (hb : Below w.heap.size w W) => join_walk A' n' c' rs' W (S.out.below hb S.out.size) ((R'.out.below hb).up hb.size) hc' (by omega))
 generalize joinL (rs.map lr) = j1 at J1 N1 NL ⊢
 generalize joinL (rs'.map lr) = j2 at J2 N2 ⊢
 clear hs hr hc hr' hc'
 go_enter Tryz.func30, Tryz.ntmps30
 go_wp2_with fail
 refine J1.out.mono ?_
 rintro e w1 ⟨v1, vs1, rfl, l1, b1⟩
 have B1 := Lib.hid b1
 have L1 := Lib.hid l1
 obtain ⟨A1, c1, rfl, _⟩ := own_cap l1.own
 clear b1 l1 J1
 go_wp2_with fail
 refine (J2.out _ B1.out).mono ?_
 rintro e w2 ⟨v2, vs2, rfl, l2, b2⟩
 obtain ⟨A2, c2, rfl, _⟩ := own_cap l2.own
 have B2 := Lib.hid (B1.out.trans (b2.mono B1.out.size))
 have R1 := Lib.hid ((L1.out.laid b2).rd N1.out).2
 have R2 := Lib.hid (l2.rd N2.out).2
 have EQ := Lib.hid (eqF_walk A1 A2 j1.length c1 j2.length c2 vs1 vs2 j1 j2 w2 NL.out R1.out R2.out)
 clear b2 l2 J2
 go_wp2_with fail
 refine EQ.out.mono ?_
 rintro e w3 ⟨rfl, b3⟩
 have B3 := Lib.hid (B2.out.trans (b3.mono B2.out.size))
 clear b3 EQ
 go_wp2
 go_ret
 exact ⟨rfl, B3.out⟩
end Ln
end Go.Proofs.YtjhmndmnhkbigaaGreatDoor
