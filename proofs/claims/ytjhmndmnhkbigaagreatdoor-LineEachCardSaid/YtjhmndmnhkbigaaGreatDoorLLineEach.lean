/-
  The statement LineEach: who goes through line.Each's lines is told those that the reference joins, with their numbers from 0 on, and may stop at any of them. For every list of rows (of which the statement reads the first fourteen, and 310 cells of each) and every number at which to stop; it holds where the table of widths is as its initialiser lays it, which the card ties to the program's text.
-/
import Derived.Test.YtjhmndmnhkbigaaGreatDoorQYEvZ0
import Derived.Test.YtjhmndmnhkbigaaGreatDoorQYBase0
import Derived.Test.YtjhmndmnhkbigaaGreatDoorQYLine2
import Derived.Test.YtjhmndmnhkbigaaGreatDoorQYBase4
namespace Go.Proofs.YtjhmndmnhkbigaaGreatDoor.lineEach
open Go.ChangeShapes Go.WideShapes Go.ChangeAt Go.RowKit
open Rw Ln
attribute [local go_sem] Oper.semAt_some
theorem KpT.cell {W : World} {g : Nat} {cs : Array Value} {ty : TypeId} (hb : W.heap[g]? = some (.cells cs ty (0, 0))) (ht : ty = 3 ∨ ty = 4) (k : Nat) (v : Value) : KpT W (W.setCell ⟨g, k, none⟩ v) :=
 ⟨by simp, fun j cs' ty' hj h1 h2 => Below.heap_setCell _ _ _ _ (fun e => by
  have e' : j = g := e
  rw [e', hb] at hj
  injection hj with hj
  injection hj with _ hj
  rcases ht with ht | ht
  ·exact h1 (hj.symm.trans ht)
  ·exact h2 (hj.symm.trans ht))⟩
structure EaS (w0 : World) (g3 g4 g6 B6 : Nat) (y : Int) (v6 : Value) (vs6 : List Value) (ls : List (List Cel)) (W : World) : Prop where
 old : Below w0.heap.size w0 W
 b3 : W.heap[g3]? = some (.cells #[.int .i64 y] 3 (0, 0))
 b4 : W.heap[g4]? = some (.cells #[.bool false] 4 (0, 0))
 b6 : W.heap[g6]? = some (.cells #[v6] 23 (0, 0))
 l6 : Lns W B6 v6 vs6 ls
namespace EaS
variable {w0 W W' : World} {g3 g4 g6 B6 : Nat} {y : Int} {v6 : Value} {vs6 : List Value} {ls : List (List Cel)}
theorem kept (h : EaS w0 g3 g4 g6 B6 y v6 vs6 ls W) (hk : KpT W W') (ho : Below w0.heap.size w0 W') (h3 : W'.heap[g3]? = W.heap[g3]?) (h4 : W'.heap[g4]? = W.heap[g4]?) : EaS w0 g3 g4 g6 B6 y v6 vs6 ls W' :=
 ⟨ho, h3.trans h.b3, h4.trans h.b4, (hk.2 g6 _ _ h.b6 (by decide) (by decide)).trans h.b6, own_kept h.l6.own hk (by decide) (by decide), fun i x l hx hl => by
  have hh : W.ownsRow B6 52 3 x l.length (flat l) := h.l6.each i x l hx hl
  exact own_kept hh hk (by decide) (by decide)⟩
theorem laid (h : EaS w0 g3 g4 g6 B6 y v6 vs6 ls W) (hb : Laid W W') : EaS w0 g3 g4 g6 B6 y v6 vs6 ls W' :=
 h.kept (KpT.laid hb) (h.old.trans (hb.mono h.old.size)) (hb.block g3 (Array.getElem?_eq_some_iff.1 h.b3).1) (hb.block g4 (Array.getElem?_eq_some_iff.1 h.b4).1)
theorem put (h : EaS w0 g3 g4 g6 B6 y v6 vs6 ls W) {l : Nat} {o : Obj} (o' : Obj) (hl : w0.heap.size ≤ l) (ho : W.heap[l]? = some o) (hc : o.isCells = false) : EaS w0 g3 g4 g6 B6 y v6 vs6 ls (W.putObj l o') := by
 have hne : ∀ (j : Nat) (cs : Array Value) (ty : TypeId) (f : Nat × Nat), W.heap[j]? = some (.cells cs ty f) → j ≠ l := fun j cs ty f hj e => by
  rw [e, ho] at hj
  cases hj
  cases hc
 exact h.kept (KpT.put ho hc o') (h.old.trans ⟨rfl, rfl, rfl, by simp [World.putObj], fun k hk => World.putObj_heap_other (by omega)⟩) (World.putObj_heap_other (hne _ _ _ _ h.b3)) (World.putObj_heap_other (hne _ _ _ _ h.b4))
end EaS
theorem box_laid {W W' : World} {g : Nat} {cs : Array Value} {ty : TypeId} (h : W.heap[g]? = some (.cells cs ty (0, 0))) (hb : Laid W W') : W'.heap[g]? = some (.cells cs ty (0, 0)) := (hb.block g (Array.getElem?_eq_some_iff.1 h).1).trans h
theorem box_put {W : World} {g : Nat} {cs : Array Value} {ty : TypeId} (h : W.heap[g]? = some (.cells cs ty (0, 0))) {l : Nat} {o : Obj} (o' : Obj) (ho : W.heap[l]? = some o) (hc : o.isCells = false) : (W.putObj l o').heap[g]? = some (.cells cs ty (0, 0)) :=
 (World.putObj_heap_other (fun e => by rw [e, ho] at h; cases h; cases hc)).trans h
set_option maxRecDepth 100000 in
theorem seqE_nil (lb : Array Value) (w : World) : (binOp .eql 39 (.func (.func 50) #[] lb) .nilFunc).run Tryz.prog w = .ok (.bool false) w := by first | rfl | kernel_rfl
set_option maxRecDepth 100000 in
theorem finE {w w2 W : World} {g3 g6 B6 D D2 : Nat} {y : Int} {v6 : Value} {vs6 : List Value} {ls : List (List Cel)} (hne : D ≠ D2) (hg : w.heap.size = g3) (h : EaS w2 g3 (g3 + 1) g6 B6 y v6 vs6 ls W) (h1 : W.heap[D]? = some (.deferred (some []))) (h2 : W.heap[D2]? = some (.deferred (some []))) (hD : w2.heap.size ≤ D) (hD2 : w2.heap.size ≤ D2) (hB : Below w.heap.size w w2)
  (tmps : Array Value) (ht : tmps[4]? = some (.pointer (some ⟨g3 + 1, 0, none⟩))) :
  bodyPostM Fence.wide 3 Tryz.prog Tryz.f4 (fun e w' => e = .returned (.bool true) ∧ Below g3 w w') .ret ⟨tmps, [{ target := .collected D2, args := #[] }, { target := .collected D, args := #[] }]⟩ (W.setCell ⟨g3 + 1, 0, none⟩ (.bool true)) := by
 have hlt := (Array.getElem?_eq_some_iff.1 h.b4).1
 have n1 : ∀ j : Nat, W.heap[j]? = some (.deferred (some [])) → j ≠ g3 + 1 := fun j hj e => by rw [e, h.b4] at hj; cases hj
 have e1 : (W.setCell ⟨g3 + 1, 0, none⟩ (.bool true)).heap[D]? = some (.deferred (some [])) := (Below.heap_setCell _ _ _ _ (n1 D h1)).trans h1
 have e2 : (W.setCell ⟨g3 + 1, 0, none⟩ (.bool true)).heap[D2]? = some (.deferred (some [])) := (Below.heap_setCell _ _ _ _ (n1 D2 h2)).trans h2
 have b4 : (W.setCell ⟨g3 + 1, 0, none⟩ (.bool true)).heap[g3 + 1]? = some (.cells #[.bool true] 4 (0, 0)) := by
  have := heap_setCell_same W (g3 + 1) 0 _ _ (.bool true) h.b4
  simpa using this
 have old : Below w.heap.size w (W.setCell ⟨g3 + 1, 0, none⟩ (.bool true)) := (hB.trans (h.old.mono hB.size)).setCell (p := ⟨g3 + 1, 0, none⟩) (by show w.heap.size ≤ g3 + 1; omega) _
 generalize W.setCell ⟨g3 + 1, 0, none⟩ (.bool true) = W5 at e1 e2 b4 old ⊢
 refine ⟨by simp, .inl ⟨_, _, rfl, run_takeDeferred e2, by simp, .inl ⟨_, _, rfl, run_takeDeferred ((World.putObj_heap_other hne).trans e1), ?_⟩⟩⟩
 have ob : ∀ (V : World) (l : Nat) (o' : Obj), w2.heap.size ≤ l → Below w.heap.size w V → Below w.heap.size w (V.putObj l o') := fun V l o' hl hV => hV.trans ⟨rfl, rfl, rfl, by simp [World.putObj], fun k hk => World.putObj_heap_other (by have := hB.size; omega)⟩
 have old2 := ob _ D (.deferred none) hD (ob _ D2 (.deferred none) hD2 old)
 have d4 : D ≠ g3 + 1 := fun e => by rw [e, b4] at e1; cases e1
 have d24 : D2 ≠ g3 + 1 := fun e => by rw [e, b4] at e2; cases e2
 have q4 : ((W5.putObj D2 (.deferred none)).putObj D (.deferred none)).heap[g3 + 1]? = some (.cells #[.bool true] 4 (0, 0)) := (World.putObj_heap_other (fun e => d4 e.symm)).trans ((World.putObj_heap_other (fun e => d24 e.symm)).trans b4)
 have c4 : ((W5.putObj D2 (.deferred none)).putObj D (.deferred none)).cell? ⟨g3 + 1, 0, none⟩ = some (.bool true) := cell_of_row _ _ 0 _ _ (0, 0) q4
 refine ⟨.bool true, ?_, rfl, by rw [← hg]; exact old2⟩
 simp [results, go_sem, ht, c4]
set_option maxRecDepth 100000 in
set_option maxHeartbeats 12800000 in
theorem walk (A : Option Addr) (n c : Nat) (l : List RowIn) (_hc : n ≤ c) (hm : c ≤ maxLen) (y : Int) (_ : -9223372036854775808 ≤ y ∧ y ≤ 9223372036854775807) (w : World) (hs : Spans w) (hr : ∀ r ∈ l, r.Ok w w.heap.size) (hq : Sq w w.heap.size 2 n A (l.flatMap RowIn.vals)) :
  Calls Tryz.prog 4 #[.slice A n c, .int .i64 y] w fun e w' => e = .returned (.bool true) ∧ Below w.heap.size w w' := by
 have S := Lib.hid hs
 have R := Lib.hid (show Rws w w.heap.size A n l from ⟨hr, hq⟩)
 have N1 := Lib.hid (Nat.le_trans _hc hm)
 obtain ⟨g3, hg3⟩ : ∃ g3, w.heap.size = g3 := ⟨_, rfl⟩
 have G3 := Lib.hid hg3
 clear hs hr hq _hc hm
 refine (callsIn_wide (n := 3)).1 (callsIn_of_wp_marks Tryz.func4 rfl trivial ?_ rfl)
 simp only [Tryz.ntmps4, List.size_toArray, List.length_cons, List.length_nil, Nat.reduceAdd, Nat.reduceSub, Array.replicate_succ, Array.replicate_zero, List.push_toArray, List.append_toArray, List.nil_append, List.cons_append]
 refine wpIn_wide.2 ?_
 obtain ⟨wa, hwa⟩ : ∃ wa, (w.alloc (.cells #[.int .i64 y] 3)).alloc (.cells #[.bool false] 4) = wa := ⟨_, rfl⟩
 have HA := Lib.hid hwa
 have ba : Below w.heap.size w wa := by rw [← hwa]; exact ((Below.refl _ _).alloc (Nat.le_refl _) _).alloc (by simp) _
 have xa3 : wa.heap[g3]? = some (.cells #[.int .i64 y] 3 (0, 0)) := by rw [← hwa, ← hg3]; exact (Below.heap_alloc _ _ _ (by simp)).trans (heap_alloc_new w _)
 have xa4 : wa.heap[g3 + 1]? = some (.cells #[.bool false] 4 (0, 0)) := by
  rw [← hwa, ← hg3]
  have := heap_alloc_new (w.alloc (.cells #[.int .i64 y] 3)) (.cells #[.bool false] 4)
  rwa [World.size_alloc] at this
 have BA := Lib.hid ba
 have XA := Lib.hid (And.intro xa3 xa4)
 clear hwa ba xa3 xa4
 go_wp2_with fail
 rw [HA.out]
 refine (Ev.Trues.at Ev.begun10 wa (S.out.below BA.out S.out.size)).mono ?_
 rintro e w1 ⟨rfl, b1⟩
 have B1 := Lib.hid (BA.out.trans (b1.mono BA.out.size))
 have X1 := Lib.hid (And.intro (box_laid XA.out.1 b1) (box_laid XA.out.2 b1))
 have RW := Lib.hid (rows10_walk A n c l w1 ((R.out.below B1.out).up B1.out.size) N1.out)
 clear b1 BA XA HA
 go_wp2_with fail
 refine RW.out.mono ?_
 rintro e w2 ⟨v2, ra, rfl, o2, m2, b2⟩
 obtain ⟨A2, c2, rfl, hc2⟩ := o2.shape
 obtain ⟨n2, hn2⟩ : ∃ n2, ra.length = n2 := ⟨_, rfl⟩
 have B2 := Lib.hid (B1.out.trans (b2.mono B1.out.size))
 have X2 := Lib.hid (And.intro (box_laid X1.out.1 b2) (box_laid X1.out.2 b2))
 have L2 := Lib.hid (show n2 ≤ 14 from by
  have := congrArg List.length m2
  unfold drawnRs at this
  rw [List.length_map, List.length_map, List.length_take, hn2] at this
  omega)
 rw [hn2] at o2 hc2 ⊢
 have RA := Lib.hid (show Rws w2 w2.heap.size A2 n2 ra from (o2.rws).2)
 have C2 := Lib.hid hc2
 have JW := Lib.hid (refJoin_walk A2 n2 c2 ra w2 RA.out (by have := L2.out; omega))
 have K1 := Lib.hid (joinL_len (rs := ra.map lr) (N := 1000000) (by rw [List.length_map, RA.out.len]; have := L2.out; omega))
 have EW := Lib.hid (fun (W : World) (hb : Below w2.heap.size w2 W) => each_walk A2 n2 c2 ra W ((S.out.below B2.out S.out.size).below hb (S.out.below B2.out S.out.size).size) ((RA.out.below hb).up hb.size) C2.out (by have := L2.out; omega))
 have NL := Lib.hid (show (joinL (ra.map lr)).length ≤ 14 from by
  have h1 := parts_length_le (ra.map lr)
  rw [List.length_map, RA.out.len] at h1
  have := L2.out
  unfold joinL
  rw [List.length_map]
  omega)
 generalize joinL (ra.map lr) = ls at JW K1 EW NL
 clear o2 m2 b2 hn2 hc2 RW R N1 X1 B1 RA
 go_wp2_with fail
 refine JW.out.mono ?_
 rintro e w3 ⟨v3, vs3, rfl, l3, b3⟩
 obtain ⟨N, hN⟩ : ∃ N, ls.length = N := ⟨_, rfl⟩
 have HN := Lib.hid hN
 have hN14 : N ≤ 14 := by rw [← hN]; exact NL.out
 obtain ⟨A6, c6, rfl, _⟩ := own_cap l3.own
 obtain ⟨g6, hg6⟩ : ∃ g6, w3.heap.size = g6 := ⟨_, rfl⟩
 obtain ⟨w4, hw4⟩ : ∃ w4, w3.alloc (.cells #[.slice A6 N c6] 23) = w4 := ⟨_, rfl⟩
 have b4 : Laid w3 w4 := by rw [← hw4]; exact (Below.refl _ _).alloc (Nat.le_refl _) _
 have x6 : w4.heap[g6]? = some (.cells #[.slice A6 N c6] 23 (0, 0)) := by rw [← hw4, ← hg6]; exact heap_alloc_new w3 _
 rw [hN] at l3 ⊢
 have HW4 := Lib.hid hw4
 have B24 := Lib.hid (show Below w2.heap.size w2 w4 from b3.trans (b4.mono b3.size))
 have E4 := Lib.hid (show EaS w2 g3 (g3 + 1) g6 w2.heap.size y (.slice A6 N c6) vs3 ls w4 from ⟨B24.out, box_laid (box_laid X2.out.1 b3) b4, box_laid (box_laid X2.out.2 b3) b4, x6, l3.laid b4⟩)
 clear l3 b3 b4 x6 hw4 JW hN X2
 go_upto_region 6 with fail
 rw [HW4.out]
 clear hg6 HW4
 have fnn := seqE_nil
 have EW4 := Lib.hid (EW.out _ B24.out)
 go_wp2_with fail
 refine EW4.out.mono ?_
 rintro e w5 ⟨ga, Aa, ca, vsa, rfl, -, -, b5⟩
 have B25 := Lib.hid (B24.out.trans (b5.mono B24.out.size))
 have E5 := Lib.hid (E4.out.laid b5)
 obtain ⟨g7, hg7⟩ : ∃ g7, w5.heap.size = g7 := ⟨_, rfl⟩
 obtain ⟨w6, hw6⟩ : ∃ w6, w5.alloc (.cells #[.int .i64 0] 3) = w6 := ⟨_, rfl⟩
 have b6 : Laid w5 w6 := by rw [← hw6]; exact (Below.refl _ _).alloc (Nat.le_refl _) _
 have x7 : w6.heap[g7]? = some (.cells #[.int .i64 0] 3 (0, 0)) := by rw [← hw6, ← hg7]; exact heap_alloc_new w5 _
 have HW6 := Lib.hid hw6
 have B26 := Lib.hid (B25.out.trans (b6.mono B25.out.size))
 have E6 := Lib.hid (E5.out.laid b6)
 have X7 := Lib.hid x7
 have g7old : w2.heap.size ≤ g7 ∧ g3 + 1 < g7 := by
  have h1 := E5.out.old.size
  have h2 := (Array.getElem?_eq_some_iff.1 E5.out.b4).1
  omega
 have G7 := Lib.hid g7old
 clear b5 b6 x7 hw6 EW4 E4 E5 B25 B24 g7old
 go_upto_region 9 with fail
 rw [HW6.out]
 clear hg7 HW6
 have EW6 := Lib.hid (EW.out _ B26.out)
 go_wp2_with fail
 refine EW6.out.mono ?_
 rintro e w7 ⟨gb, Ab, cb, vsb, rfl, xb, lb, b7⟩
 rw [HN.out] at xb lb
 have B27 := Lib.hid (B26.out.trans (b7.mono B26.out.size))
 have E7 := Lib.hid (E6.out.laid b7)
 have Y7 := Lib.hid (box_laid X7.out b7)
 have TL := Lib.hid (each_tells (Kp := KpT) (ESrc.mk xb lb) HN.out (fun _ _ h => h) K1.out (by omega))
 have OZ := Lib.hid (show w2.heap.size ≤ w7.heap.size from E7.out.old.size)
 clear xb lb b7 EW6 E6 X7
 go_wp2_with fail
 refine wp_over (Fit := FitE ls) (Kp := KpT) (N := N) (gf := 50) (lb := #[.pointer (some ⟨gb, 0, none⟩)]) rfl (enters_of Tryz.func50 (by kernel_rfl) rfl) TL.out KpT.trans (fun A B _ h => KpT.laid h) (fun W l o o' hl ho hc => KpT.put ho hc o') (fun k x W h => by obtain ⟨_, _, _, _, rfl, _⟩ := h; rfl)
  (fun k W => Hid (EaS w2 g3 (g3 + 1) g6 w2.heap.size y (.slice A6 N c6) vs3 ls W ∧ W.heap[g7]? = some (.cells #[.int .i64 (k : Int)] 3 (0, 0)))) (fun _ _ _ => False)
  (fun k A B h hb => Lib.hid ⟨h.out.1.laid hb, box_laid h.out.2 hb⟩) (fun k W l o o' hl ho hc h => Lib.hid ⟨h.out.1.put o' (Nat.le_trans OZ.out hl) ho hc, box_put h.out.2 o' ho hc⟩)
  (fun _ _ _ _ h _ => h) (fun _ _ _ _ _ _ _ _ _ h => h) (Lib.hid ⟨E7.out, Y7.out⟩) ?round ?done (fun _ _ _ _ _ _ h _ => h.elim)
 case round =>
  rintro l2 k2 x W hk2 hl2 ⟨o, ho, hoc⟩ hi ⟨AX, cX, m, hm, rfl, BX, hx⟩
  gi_wp2
  refine ⟨Below.refl _ _, fun o1 => ?_⟩
  have H2 := Lib.hid (hi.out.1.put o1 (Nat.le_trans OZ.out hl2) ho hoc)
  have Z2 := Lib.hid (box_put hi.out.2 o1 ho hoc)
  have HX := Lib.hid (show (W.putObj l2 o1).ownsRow BX 52 3 (.slice AX m.length cX) m.length (flat m) from ownsRow_putObj hx o1 ho hoc)
  have HM := Lib.hid hm
  clear hi ho hx hm
  generalize W.putObj l2 o1 = W2 at H2 Z2 HX ⊢
  have hown := H2.out.l6.own
  rw [HN.out] at hown
  obtain ⟨go, cgo, ego, _, _, hgo, hcells⟩ := own_at hown (by omega)
  injection ego with ego _ ego2
  subst ego ego2
  obtain ⟨v, hv⟩ : ∃ v, vs3[k2]? = some v := ⟨_, List.getElem?_eq_getElem (by have := H2.out.l6.len; have := HN.out; omega)⟩
  have hvl := H2.out.l6.each k2 v m hv HM.out
  obtain ⟨AV, cV, rfl, _⟩ := own_cap (show W2.ownsRow w2.heap.size 52 3 v m.length (flat m) from hvl)
  have xq := hcells k2 _ hv
  have k0 : W2.cell? ⟨g7, 0, none⟩ = some (.int .i64 (k2 : Int)) := cell_of_row _ _ 0 _ _ (0, 0) Z2.out
  have k6 : W2.cell? ⟨g6, 0, none⟩ = some (.slice (some ⟨go, 0, none⟩) N c6) := cell_of_row _ _ 0 _ _ (0, 0) H2.out.b6
  have EQ := Lib.hid (eqc_yes AX AV m.length cX m.length cV m W2 (by have := K1.out m (List.mem_of_getElem? HM.out); omega) (Sq.own HX.out) (Sq.own hvl))
  obtain ⟨nm, hnm⟩ : ∃ nm, m.length = nm := ⟨_, rfl⟩
  rw [hnm] at EQ xq ⊢
  have hkN : ¬ ((N : Int) ≤ (k2 : Int)) := by omega
  have hk0 : (0 : Int) ≤ (k2 : Int) := by omega
  have hk1 : (k2 : Int) < (N : Int) := by omega
  clear hown hgo hcells hv hvl hnm
  gi_wp2_with (refine ⟨trivial, ?_⟩; gi_at_call 24; refine (callsIn_wide.2 EQ.out).mono ?_; rintro e W3 ⟨rfl, b3⟩; (have Z3 := Lib.hid (box_laid Z2.out b3)); (have H3 := Lib.hid (H2.out.laid b3)); (have B3 := Lib.hid b3); (have j0 : W3.cell? ⟨g7, 0, none⟩ = some (.int .i64 (k2 : Int)) := cell_of_row _ _ 0 _ _ (0, 0) Z3.out); (have j1 := frozen_of_row W3 g7 0 _ _ Z3.out); clear b3 k0 k6 xq EQ)
  have hne3 : g3 ≠ g7 := by have := G7.out; omega
  have hne4 : g3 + 1 ≠ g7 := by have := G7.out; omega
  have kp := KpT.cell Z3.out (.inl rfl) 0 (.int .i64 ((k2 : Int) + 1))
  refine ⟨(keeps_laid B3.out).trans ((KeepsOthers.setCell _ _ _).from _), (KpT.laid B3.out).trans kp, Lib.hid ⟨?_, ?_⟩⟩
  ·exact H3.out.kept kp (H3.out.old.setCell (p := ⟨g7, 0, none⟩) G7.out.1 _) (Below.heap_setCell _ _ _ _ hne3) (Below.heap_setCell _ _ _ _ hne4)
  ·have := heap_setCell_same W3 g7 0 _ _ (.int .i64 ((k2 : Int) + 1)) Z3.out
   simpa using this
 case done =>
  rintro D W hD hi hdef
  have H2 := Lib.hid hi.out.1
  have Z2 := Lib.hid hi.out.2
  have DF := Lib.hid hdef
  have WD := Lib.hid (show w2.heap.size ≤ D from Nat.le_trans OZ.out hD)
  clear hi hdef TL
  obtain ⟨g10, hg10⟩ : ∃ g10, W.heap.size = g10 := ⟨_, rfl⟩
  obtain ⟨w8, hw8⟩ : ∃ w8, W.alloc (.cells #[.int .i64 (-1)] 3) = w8 := ⟨_, rfl⟩
  have b8 : Laid W w8 := by rw [← hw8]; exact (Below.refl _ _).alloc (Nat.le_refl _) _
  have x10 : w8.heap[g10]? = some (.cells #[.int .i64 (-1)] 3 (0, 0)) := by rw [← hw8, ← hg10]; exact heap_alloc_new W _
  have HW8 := Lib.hid hw8
  have H8 := Lib.hid (H2.out.laid b8)
  have Z8 := Lib.hid (box_laid Z2.out b8)
  have X10 := Lib.hid x10
  have D8 := Lib.hid (show w8.heap[D]? = some (.deferred (some [])) from (b8.block D (Array.getElem?_eq_some_iff.1 DF.out).1).trans DF.out)
  have G10 := Lib.hid (show w2.heap.size ≤ g10 ∧ g3 + 1 < g10 ∧ g7 < g10 from by
   have h1 := H2.out.old.size
   have h2 := (Array.getElem?_eq_some_iff.1 H2.out.b4).1
   have h3 := (Array.getElem?_eq_some_iff.1 Z2.out).1
   omega)
  clear b8 x10 hw8 H2 Z2 DF
  go_upto_region 16 with fail
  rw [HW8.out]
  clear hg10 HW8
  have EW8 := Lib.hid (EW.out _ H8.out.old)
  go_wp2_with fail
  refine EW8.out.mono ?_
  rintro e w9 ⟨gd, Ad, cd, vsd, rfl, xd, ld, b9⟩
  rw [HN.out] at xd ld
  have H9 := Lib.hid (H8.out.laid b9)
  have Z9 := Lib.hid (box_laid Z8.out b9)
  have X9 := Lib.hid (box_laid X10.out b9)
  have D9 := Lib.hid (show w9.heap[D]? = some (.deferred (some [])) from (b9.block D (Array.getElem?_eq_some_iff.1 D8.out).1).trans D8.out)
  have DL := Lib.hid (show D < w9.heap.size from (Array.getElem?_eq_some_iff.1 D9.out).1)
  have TL := Lib.hid (each_tells (Kp := KpT) (ESrc.mk xd ld) HN.out (fun _ _ h => h) K1.out (by omega))
  have OZ := Lib.hid (show w2.heap.size ≤ w9.heap.size from H9.out.old.size)
  have I0 := Lib.hid (show EaS w2 g3 (g3 + 1) g6 w2.heap.size y (.slice A6 N c6) vs3 ls w9 ∧ w9.heap[g7]? = some (.cells #[.int .i64 (N : Int)] 3 (0, 0)) ∧ w9.heap[g10]? = some (.cells #[.int .i64 (((0 : Nat) : Int) - 1)] 3 (0, 0)) ∧ w9.heap[D]? = some (.deferred (some [])) ∧ ∀ q : Nat, y = (q : Int) → 0 ≤ q from ⟨H9.out, Z9.out, X9.out, D9.out, fun q _ => Nat.zero_le q⟩)
  clear xd ld b9 EW8 H8 Z8 X10 D8 H9 Z9 X9 D9
  go_wp2_with fail
  refine wp_over (Fit := FitE ls) (Kp := KpT) (N := N) (gf := 50) (lb := #[.pointer (some ⟨gd, 0, none⟩)]) rfl (enters_of Tryz.func50 (by kernel_rfl) rfl) TL.out KpT.trans (fun A B _ h => KpT.laid h) (fun W l o o' hl ho hc => KpT.put ho hc o') (fun k x W h => by obtain ⟨_, _, _, _, rfl, _⟩ := h; rfl)
   (fun k W => Hid (EaS w2 g3 (g3 + 1) g6 w2.heap.size y (.slice A6 N c6) vs3 ls W ∧ W.heap[g7]? = some (.cells #[.int .i64 (N : Int)] 3 (0, 0)) ∧ W.heap[g10]? = some (.cells #[.int .i64 ((k : Int) - 1)] 3 (0, 0)) ∧ W.heap[D]? = some (.deferred (some [])) ∧ ∀ q : Nat, y = (q : Int) → k ≤ q))
   (fun c k W => c = .exit 2 ∧ Hid (EaS w2 g3 (g3 + 1) g6 w2.heap.size y (.slice A6 N c6) vs3 ls W ∧ W.heap[g7]? = some (.cells #[.int .i64 (N : Int)] 3 (0, 0)) ∧ W.heap[g10]? = some (.cells #[.int .i64 y] 3 (0, 0)) ∧ W.heap[D]? = some (.deferred (some [])) ∧ 0 ≤ y ∧ y < (N : Int)))
   (fun k A B h hb => Lib.hid ⟨h.out.1.laid hb, box_laid h.out.2.1 hb, box_laid h.out.2.2.1 hb, (hb.block D (Array.getElem?_eq_some_iff.1 h.out.2.2.2.1).1).trans h.out.2.2.2.1, h.out.2.2.2.2⟩)
   (fun k W l o o' hl ho hc h => Lib.hid ⟨h.out.1.put o' (Nat.le_trans OZ.out hl) ho hc, box_put h.out.2.1 o' ho hc, box_put h.out.2.2.1 o' ho hc, (World.putObj_heap_other (by have := DL.out; omega)).trans h.out.2.2.2.1, h.out.2.2.2.2⟩)
   (fun c k A B h hb => ⟨h.1, Lib.hid ⟨h.2.out.1.laid hb, box_laid h.2.out.2.1 hb, box_laid h.2.out.2.2.1 hb, (hb.block D (Array.getElem?_eq_some_iff.1 h.2.out.2.2.2.1).1).trans h.2.out.2.2.2.1, h.2.out.2.2.2.2⟩⟩)
   (fun c k W l o o' hl ho hc h => ⟨h.1, Lib.hid ⟨h.2.out.1.put o' (Nat.le_trans OZ.out hl) ho hc, box_put h.2.out.2.1 o' ho hc, box_put h.2.out.2.2.1 o' ho hc, (World.putObj_heap_other (by have := DL.out; omega)).trans h.2.out.2.2.2.1, h.2.out.2.2.2.2⟩⟩)
   I0 ?round ?done ?stop
  case round =>
   rintro l2 k3 x W3 hk3 hl2 ⟨o, ho, hoc⟩ hi ⟨AX, cX, m, hm, rfl, BX, hx⟩
   clear hm hx
   gi_wp2
   refine ⟨Below.refl _ _, fun o1 => ?_⟩
   have H2 := Lib.hid (show EaS w2 g3 (g3 + 1) g6 w2.heap.size y (.slice A6 N c6) vs3 ls (W3.putObj l2 o1) ∧ (W3.putObj l2 o1).heap[g7]? = some (.cells #[.int .i64 (N : Int)] 3 (0, 0)) ∧ (W3.putObj l2 o1).heap[g10]? = some (.cells #[.int .i64 ((k3 : Int) - 1)] 3 (0, 0)) ∧ (W3.putObj l2 o1).heap[D]? = some (.deferred (some [])) from ⟨hi.out.1.put o1 (Nat.le_trans OZ.out hl2) ho hoc, box_put hi.out.2.1 o1 ho hoc, box_put hi.out.2.2.1 o1 ho hoc, (World.putObj_heap_other (by have := DL.out; omega)).trans hi.out.2.2.2.1⟩)
   have HQ := Lib.hid hi.out.2.2.2.2
   clear hi ho
   generalize W3.putObj l2 o1 = W4 at H2 ⊢
   have k10 : W4.cell? ⟨g10, 0, none⟩ = some (.int .i64 ((k3 : Int) - 1)) := cell_of_row _ _ 0 _ _ (0, 0) H2.out.2.2.1
   have f10 := frozen_of_row W4 g10 0 _ _ H2.out.2.2.1
   have hne3 : g3 ≠ g10 := by have := G10.out; omega
   have hne4 : g3 + 1 ≠ g10 := by have := G10.out; omega
   have hne7 : g7 ≠ g10 := by have := G10.out; omega
   have kp := KpT.cell H2.out.2.2.1 (.inl rfl) 0 (.int .i64 (k3 : Int))
   have KF := Lib.hid (show KeepsFrom w9.heap.size W4 (W4.setCell ⟨g10, 0, none⟩ (.int .i64 (k3 : Int))) from (KeepsOthers.setCell _ _ _).from _)
   have KP := Lib.hid kp
   have hdD : (W4.setCell ⟨g10, 0, none⟩ (.int .i64 (k3 : Int))).heap[D]? = some (.deferred (some [])) := (Below.heap_setCell _ _ _ _ (by
    intro e
    have e' : D = g10 := e
    have h1 := H2.out.2.2.2
    rw [e', H2.out.2.2.1] at h1
    cases h1)).trans H2.out.2.2.2
   have hb10 : (W4.setCell ⟨g10, 0, none⟩ (.int .i64 (k3 : Int))).heap[g10]? = some (.cells #[.int .i64 (k3 : Int)] 3 (0, 0)) := by
    have := heap_setCell_same W4 g10 0 _ _ (.int .i64 (k3 : Int)) H2.out.2.2.1
    simpa using this
   have H3 := Lib.hid (show EaS w2 g3 (g3 + 1) g6 w2.heap.size y (.slice A6 N c6) vs3 ls (W4.setCell ⟨g10, 0, none⟩ (.int .i64 (k3 : Int))) ∧ (W4.setCell ⟨g10, 0, none⟩ (.int .i64 (k3 : Int))).heap[g7]? = some (.cells #[.int .i64 (N : Int)] 3 (0, 0)) ∧ (W4.setCell ⟨g10, 0, none⟩ (.int .i64 (k3 : Int))).heap[g10]? = some (.cells #[.int .i64 (k3 : Int)] 3 (0, 0)) ∧ (W4.setCell ⟨g10, 0, none⟩ (.int .i64 (k3 : Int))).heap[D]? = some (.deferred (some [])) from
    ⟨H2.out.1.kept kp (H2.out.1.old.setCell (p := ⟨g10, 0, none⟩) G10.out.1 _) (Below.heap_setCell _ _ _ _ hne3) (Below.heap_setCell _ _ _ _ hne4), (Below.heap_setCell _ _ _ _ hne7).trans H2.out.2.1, hb10, hdD⟩)
   have c3 : (W4.setCell ⟨g10, 0, none⟩ (.int .i64 (k3 : Int))).cell? ⟨g3, 0, none⟩ = some (.int .i64 y) := cell_of_row _ _ 0 _ _ (0, 0) H3.out.1.b3
   clear kp hdD hb10 H2
   by_cases hst : (k3 : Int) = y
   ·subst hst
    have hkb : ((k3 : Int) == (k3 : Int)) = true := by simp
    gi_wp2
    exact ⟨KF.out, rfl, Lib.hid ⟨H3.out.1, H3.out.2.1, H3.out.2.2.1, H3.out.2.2.2, by omega, by omega⟩⟩
   ·have hkb : ((k3 : Int) == y) = false := by simp [hst]
    gi_wp2
    exact ⟨KF.out, KP.out, Lib.hid ⟨H3.out.1, H3.out.2.1, by rw [show (((k3 + 1 : Nat) : Int) - 1) = (k3 : Int) by omega]; exact H3.out.2.2.1, H3.out.2.2.2, fun q hq => by have h1 := HQ.out q hq; omega⟩⟩
  case done =>
   rintro D2 W2 hD2 hi hdef
   have HE := Lib.hid (And.intro hi.out hdef)
   have c3 : W2.cell? ⟨g3, 0, none⟩ = some (.int .i64 y) := cell_of_row _ _ 0 _ _ (0, 0) hi.out.1.b3
   have c4 : W2.cell? ⟨g3 + 1, 0, none⟩ = some (.bool false) := cell_of_row _ _ 0 _ _ (0, 0) hi.out.1.b4
   have f4 := frozen_of_row W2 (g3 + 1) 0 _ _ hi.out.1.b4
   have c6' : W2.cell? ⟨g6, 0, none⟩ = some (.slice A6 N c6) := cell_of_row _ _ 0 _ _ (0, 0) hi.out.1.b6
   have c7 : W2.cell? ⟨g7, 0, none⟩ = some (.int .i64 (N : Int)) := cell_of_row _ _ 0 _ _ (0, 0) hi.out.2.1
   have c10 : W2.cell? ⟨g10, 0, none⟩ = some (.int .i64 ((N : Int) - 1)) := cell_of_row _ _ 0 _ _ (0, 0) hi.out.2.2.1
   have hno : ¬ (0 ≤ y ∧ y < (N : Int)) := fun h => by
    have h1 := hi.out.2.2.2.2 y.toNat (by omega)
    omega
   clear hi hdef TL I0
   have hw1 : IntKind.i64.wrap ((N : Int) - 1) = (N : Int) - 1 := IntWalk.i64_in _ (by omega)
   have hck : ((N : Int) == (N : Int)) = true := by simp
   have hqk : (((N : Int) - 1) == ((N : Int) - 1)) = true := by simp
   have hDD : D ≠ D2 := by have := DL.out; omega
   have hw34 : w.heap.size = g3 := G3.out
   have hDw : w2.heap.size ≤ D := by have := WD.out; omega
   have hD2w : w2.heap.size ≤ D2 := by have := OZ.out; omega
   by_cases hy0 : 0 ≤ y
   ·have hyN : ¬ y < (N : Int) := fun h => hno ⟨hy0, h⟩
    clear hno
    go_wp2
    exact finE hDD hw34 HE.out.1.1 HE.out.1.2.2.2.1 HE.out.2 hDw hD2w B2.out _ rfl
   ·clear hno
    go_wp2
    exact finE hDD hw34 HE.out.1.1 HE.out.1.2.2.2.1 HE.out.2 hDw hD2w B2.out _ rfl
  case stop =>
   rintro D2 k3 cx W2 hD2 hk3 ⟨rfl, hi⟩ hdef
   have HE := Lib.hid (And.intro hi.out hdef)
   have c3 : W2.cell? ⟨g3, 0, none⟩ = some (.int .i64 y) := cell_of_row _ _ 0 _ _ (0, 0) hi.out.1.b3
   have c4 : W2.cell? ⟨g3 + 1, 0, none⟩ = some (.bool false) := cell_of_row _ _ 0 _ _ (0, 0) hi.out.1.b4
   have f4 := frozen_of_row W2 (g3 + 1) 0 _ _ hi.out.1.b4
   have c6' : W2.cell? ⟨g6, 0, none⟩ = some (.slice A6 N c6) := cell_of_row _ _ 0 _ _ (0, 0) hi.out.1.b6
   have c7 : W2.cell? ⟨g7, 0, none⟩ = some (.int .i64 (N : Int)) := cell_of_row _ _ 0 _ _ (0, 0) hi.out.2.1
   have c10 : W2.cell? ⟨g10, 0, none⟩ = some (.int .i64 y) := cell_of_row _ _ 0 _ _ (0, 0) hi.out.2.2.1
   have hy0 := hi.out.2.2.2.2.1
   have hyN := hi.out.2.2.2.2.2
   clear hi hdef TL I0
   have hck : ((N : Int) == (N : Int)) = true := by simp
   have hqk : (y == y) = true := by simp
   have hDD : D ≠ D2 := by have := DL.out; omega
   have hw34 : w.heap.size = g3 := G3.out
   have hDw : w2.heap.size ≤ D := by have := WD.out; omega
   have hD2w : w2.heap.size ≤ D2 := by have := OZ.out; omega
   go_wp2
   rw [hw34]
   exact finE hDD hw34 HE.out.1.1 HE.out.1.2.2.2.1 HE.out.2 hDw hD2w B2.out _ rfl
set_option maxRecDepth 100000 in
theorem contract (H : Type) (enc : TypeId × Value → H) (W : World) (base : Nat) (args : Array Value) (ds gs : List (DataW H)) (before : List MemPlace)
  (hval : ∀ (j : Nat) t v, Tryz.f4.params[j]? = some t → args[j]? = some v → Value.okWide Tryz.prog W .any base t v)
  (hW : DataW.Whole enc Tryz.prog Tryz.f4.params.toList Rows.lineEachSpec.vars false W args.toList ds gs before) (hL : laidMetH Tryz.prog Rows.lineEachRow.laid W) :
  Calls Tryz.prog 4 args W fun e W' => ∃ v, e = .returned v ∧ Rows.lineEachSpec.post enc Tryz.prog Tryz.f4 false true false false W args v W' := by
 have hW' := hW
 obtain ⟨p, q, hA0, hV, rfl, hfz, hnd⟩ := hW
 have hA : DataW.TrodAll enc Tryz.prog W 0 (fun _ => true) true Tryz.f4.params.toList args.toList ds p := hA0
 rw [Tryz.params4] at hA hval
 obtain ⟨v0, vs0, d0, ds0, p0, q0, hargs, rfl, rfl, h0, r0⟩ := trodAll_cons hA
 obtain ⟨v1, vs1, d1, ds1, p1, q1, rfl, rfl, rfl, h1, r1⟩ := trodAll_cons r0
 obtain ⟨rfl, rfl, rfl⟩ := trodAll_nil r1
 obtain rfl : args = #[v0, v1] := by cases args; simp_all
 obtain ⟨rfl, rfl⟩ := trodVars_none hV
 obtain ⟨Ax, nx, cx, x, rfl, hcx, hmx, hrx, hqx⟩ := open_rows (hval 0 22 v0 rfl rfl) h0
 obtain ⟨y, rfl, rfl, rfl, wy⟩ := open_int Tryz.underlying3 (hval 1 3 v1 rfl rfl) h1
 clear hA0
 refine (walk Ax nx cx x hcx hmx y (wf_i64 wy) W (spans_of hL) hrx hqx).mono fun e W' ⟨he, hg⟩ => ?_
 subst he
 exact ⟨_, rfl, close rfl hW' ⟨rfl, rfl, rfl⟩ (by kernel_rfl) (by kernel_rfl) hg⟩
set_option maxRecDepth 100000 in
theorem laid_met (os : Os) : laidMet Tryz.prog Rows.lineEachRow.laid ((laidWorld os).forCall (fun _ _ => 0) ⟨#[], #[.slice none 0 0, .int .i64 0], []⟩).memory :=
 laidMet_of_run' 8 (by kernel_rfl) (by kernel_rfl)
set_option maxRecDepth 100000 in
theorem reads (os : Os) {H : Type} (enc : TypeId × Value → H) : ∃ places, DataW.whole enc Tryz.prog ((laidWorld os).forCall (fun _ _ => 0) ⟨#[], #[.slice none 0 0, .int .i64 0], []⟩).memory Tryz.f4.params.toList Rows.lineEachSpec.vars false (#[.slice none 0 0, .int .i64 0] : Array Value).toList 8 = some ([.nil, .lit (.int .i64 0)], [], places) :=
 ⟨[], by kernel_rfl⟩
set_option maxRecDepth 100000 in
theorem lifted (os : Os) (started : os.Started) (H : Type) (enc : TypeId × Value → H) (F : Stop.Interp) :
  ReturnsInHanded {} Tryz.checked os 4 .any ((OpenSpec.ofChange Rows.lineEachSpec).preRow enc Tryz.prog Tryz.f4 Rows.lineEachRow.domain false Rows.lineEachRow.laid) (((OpenSpec.ofChange Rows.lineEachSpec).at F).post enc Tryz.prog Tryz.f4 false true false false) := by
 obtain ⟨places, hx⟩ := reads os enc
 refine returnsInHanded_of_row (C := Tryz.checked) (s := OpenSpec.ofChange Rows.lineEachSpec) ownNone started (by kernel_rfl) Tryz.func4
  (witness_row_at (enc := enc) (C := Tryz.checked) false (laidWorld os) #[.slice none 0 0, .int .i64 0] rfl (by kernel_rfl) (by kernel_rfl) (by kernel_rfl)
   (OpenSpec.preRow_of_cond 8 hx (by kernel_rfl) (fun k hk => by cases hk) (by kernel_rfl) (laid_met os))) ?_
 intro W base args ds gs before hval hW _ _ _ hL _ _
 exact contract H enc W base args ds gs before hval hW hL
set_option maxRecDepth 100000 in
set_option maxHeartbeats 0 in
theorem facts : joinedFacts Tryz.checked.prog 4 Tryz.f4 (OpenSpec.ofChange Rows.lineEachSpec).bare Rows.lineEachRow = true := by
 have h1 := Sum.tables.1
 have h2 := Sum.tables.2.1
 have h3 := Sum.tables.2.2
 have h4 := Sum.mayEnter
 have e1 : Rows.lineEachRow.lifted = Rows.lineAllRow.lifted := by kernel_rfl
 have e2 : Rows.lineEachRow.make = Rows.lineAllRow.make := by kernel_rfl
 have h5 : (Rows.lineEachRow.lifted == Tryz.checked.prog.liftsFinal) = true := by rw [e1]; exact Sum.lifts
 have h6 : (Tryz.checked.prog.make == some Rows.lineEachRow.make) = true := by rw [e2]; exact Sum.make
 unfold joinedFacts
 repeat' (with_reducible refine Sum.and_mk ?_ ?_)
 all_goals first
  | with_reducible exact h1
  | with_reducible exact h2
  | with_reducible exact h4
  | with_reducible exact h5
  | with_reducible exact h6
  | (rw [h3]; as_aux_lemma => kernel_rfl)
  | (clear h1 h2 h3 h4 h5 h6 e1 e2; as_aux_lemma => kernel_rfl)
set_option maxRecDepth 100000 in
theorem said : Rows.LineEachSaid :=
 OpenClaim.holds_of_cond 4 Tryz.f4 rfl rfl rfl rfl rfl rfl rfl ⟨rfl, rfl, rfl, rfl, rfl⟩ rfl rfl rfl rfl rfl (by kernel_rfl) Tryz.func4 facts
  (of_decide_eq_true (by kernel_rfl)) (by unfold Func.isWrapper; first | (rw [if_pos (by decide +kernel)]; kernel_rfl) | (rw [if_neg (by decide +kernel)]; exact ⟨rfl, rfl⟩))
  (fun os started H enc _ F => by rw [OpenClaim.pre_eq_preRow]; exact lifted os started H enc F)
set_option maxRecDepth 100000 in
theorem plain (f : FuncId) (fn : Func) (hf : Tryz.pinned.checked.prog.funcNamed "rotulus/rotuluslaw10.LineEach" = some f) (hfn : Tryz.pinned.checked.prog.funcs[f]? = some fn) :
  false = Tryz.pinned.checked.prog.looks [] ∧ ∀ (j : Nat) t, fn.params[j]? = some t → Tryz.pinned.checked.prog.wantsStandIn t = false := by
 obtain rfl : f = 4 := Option.some.inj ((show Tryz.prog.funcNamed "rotulus/rotuluslaw10.LineEach" = some 4 by kernel_rfl).symm.trans hf) |>.symm
 obtain rfl : fn = Tryz.f4 := (Option.some.inj (Tryz.func4.symm.trans hfn)).symm
 refine ⟨by kernel_rfl, fun j t ht => ?_⟩
 rw [Tryz.params4] at ht
 have hm := Array.mem_of_getElem? ht
 simp at hm
 rcases hm with rfl | rfl
 ·exact (show Tryz.prog.wantsStandIn 22 = false by kernel_rfl)
 ·exact (show Tryz.prog.wantsStandIn 3 = false by kernel_rfl)
set_option maxRecDepth 100000 in
theorem card : Rows.LineEachCardSaid :=
 Claim7.holds_tied_plain_at .later [] _ _ _ _ said (fun _ h => by cases h) (by kernel_rfl) (fun _ h => by cases h) lineEach_row_tie rfl ⟨rfl, rfl⟩ (by kernel_rfl) rfl plain (by kernel_rfl)
end Go.Proofs.YtjhmndmnhkbigaaGreatDoor.lineEach
