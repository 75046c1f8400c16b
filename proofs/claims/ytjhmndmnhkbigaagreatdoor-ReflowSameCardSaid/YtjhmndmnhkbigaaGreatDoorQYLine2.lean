/-
  The statements' own rows: of those that were drawn, not too many, each in memory of its own. The function that line.places hands out tells the cells of a line, each with its place; a Pad too, where a wide one has no room. Rows of one width, each in a block of its own, all apart: a cell put into one of them, one that goes on, one more. line.Layout: a row more, step by step. slices.Clone of cells; line.Each: the function that it hands out tells the lines, each with its number, each in memory of its own.
-/
import Derived.Test.YtjhmndmnhkbigaaGreatDoorQYLine1
import Derived.Test.YtjhmndmnhkbigaaGreatDoorQYBase2
import Derived.Test.YtjhmndmnhkbigaaGreatDoorQYLine0
import Derived.Test.YtjhmndmnhkbigaaGreatDoorQYBase0
import Derived.Test.YtjhmndmnhkbigaaGreatDoorQYRow1
import Derived.Test.YtjhmndmnhkbigaaGreatDoorQYBase1
namespace Go.Proofs.YtjhmndmnhkbigaaGreatDoor
open Go.ChangeShapes Go.WideShapes Go.ChangeAt Go.RowKit
namespace Ln
open Rw
structure Own (W : World) (B : Nat) (v : Value) (rs : List RowIn) : Prop where
 own : W.ownsRow B 48 2 v rs.length (rs.flatMap RowIn.vals)
 each : ∀ r ∈ rs, HasC W B (.slice r.A r.n r.c) r.l ∧ (∀ c ∈ r.l, -2147483648 ≤ c.1 ∧ c.1 ≤ 2147483647) ∧ r.c ≤ maxLen
theorem own_max {w : World} {B : Nat} {e : TypeId} {s n : Nat} {v : Value} {xs : List Value} (h : w.ownsRow B e s v n xs) : ∃ A c, v = .slice A n c ∧ n ≤ c ∧ c ≤ maxLen := by
 rcases h.2 with ⟨rfl, h0⟩ | ⟨g, cap, cur, rfl, _, _, hc, hm, _⟩
 ·rw [h0]; exact ⟨_, _, rfl, Nat.le_refl _, Nat.zero_le _⟩
 ·exact ⟨_, _, rfl, hc, hm⟩
namespace Own
variable {W W' : World} {B : Nat} {v v' : Value} {rs : List RowIn}
theorem nothing (W : World) (B : Nat) : Own W B (.slice none 0 0) [] := ⟨World.ownsRow_nil _ _ _ _, fun r h => by cases h⟩
theorem shape (h : Own W B v rs) : ∃ A c, v = .slice A rs.length c ∧ rs.length ≤ c := own_cap h.own
theorem keep (h : Own W B v rs) (hk : ∀ j, B ≤ j → j < W.heap.size → W'.heap[j]? = W.heap[j]?) : Own W' B v rs :=
 ⟨own_keep h.own fun j hj => hk j (h.own.lt j hj).1 (h.own.lt j hj).2, fun r hr => ⟨own_keep (h.each r hr).1 fun j hj => by
  have hh : W.ownsRow B 52 3 (.slice r.A r.n r.c) r.l.length (flat r.l) := (h.each r hr).1
  exact hk j (hh.lt j hj).1 (hh.lt j hj).2, (h.each r hr).2⟩⟩
theorem laid (h : Own W B v rs) (hb : Laid W W') : Own W' B v rs := h.keep fun j _ hj => hb.block j hj
theorem down (h : Own W B v rs) {B' : Nat} (hb : B' ≤ B) : Own W B' v rs := ⟨own_down h.own hb, fun r hr => ⟨own_down (h.each r hr).1 hb, (h.each r hr).2⟩⟩
theorem snoc {x : RowIn} (h : Own W B v rs) (hx : HasC W B (.slice x.A x.n x.c) x.l) (hs : ∀ c ∈ x.l, -2147483648 ≤ c.1 ∧ c.1 ≤ 2147483647) (hm : x.c ≤ maxLen) (ho : W'.ownsRow B 48 2 v' (rs.length + 1) (rs.flatMap RowIn.vals ++ x.vals)) (hg : W.grownBy W' v.ownBlock) : Own W' B v' (rs ++ [x]) := by
 have keepc : ∀ {y : Value} {m : List Cel}, HasC W B y m → HasC W' B y m := fun {y m} hy => own_keep hy fun j hj => by
  have hh : W.ownsRow B 52 3 y m.length (flat m) := hy
  exact hg.block j (hh.lt j hj).2 (fun e => own_ne hh h.own (by decide) j hj e.symm)
 refine ⟨?_, fun r hr => ?_⟩
 ·rw [List.length_append, List.length_singleton, List.flatMap_append]
  simpa [List.flatMap_cons] using ho
 ·rcases List.mem_append.1 hr with hr | hr
  ·exact ⟨keepc (h.each r hr).1, (h.each r hr).2⟩
  ·rw [List.mem_singleton.1 hr]
   exact ⟨keepc hx, hs, hm⟩
theorem rws {A : Option Addr} {n c : Nat} (h : Own W B (.slice A n c) rs) : n = rs.length ∧ Rws W W.heap.size A n rs := by
 obtain ⟨A', c', e, _⟩ := own_cap h.own
 injection e with e1 e2 e3
 subst e1 e2 e3
 refine ⟨rfl, fun r hr => ?_, Sq.own h.own⟩
 obtain ⟨rA, rn, rc, rb, rl⟩ := r
 obtain ⟨h1, h2, h3⟩ := h.each _ hr
 have hh : W.ownsRow B 52 3 (.slice rA rn rc) rl.length (flat rl) := h1
 obtain ⟨A', c', e, hc⟩ := own_cap hh
 injection e with e1 e2 e3
 subst e2
 have hq := Sq.own hh
 exact ⟨by show rl.length ≤ rc; omega, h3, h2, hq⟩
end Own
def cutR (r : RowIn) : LR := (r.wrap, cut310 r.l)
def drawnRs (rs : List RowIn) : List LR := (rs.take 14).map cutR
theorem infoRw : (Tryz.prog.info? 48).map (fun i => (i.zero, i.size, i.bytes)) = some (some (.agg #[.slice none 0 0, .bool false]), 2, 32) := by kernel_rfl
theorem cell_pair (w : World) (e : TypeId) (x y : Value) : ∀ (j : Nat) (u : Value), [x, y][j]? = some u → (w.alloc (.cells #[x, y] e)).cell? ((⟨w.heap.size, 0, none⟩ : Addr).add j) = some u := by
 intro j u hu
 rw [add_at, Nat.zero_add, cell_of_row _ _ _ _ _ (0, 0) (heap_alloc_new w _)]
 match j, hu with
 | 0, hu => exact hu
 | 1, hu => exact hu
 | j + 2, hu => simp at hu
set_option maxRecDepth 100000 in
set_option maxHeartbeats 3200000 in
theorem rows10_walk (A : Option Addr) (n c : Nat) (rs : List RowIn) (w : World) (hr : Rws w w.heap.size A n rs) (hn : n ≤ maxLen) :
  Calls Tryz.prog 11 #[.slice A n c] w fun e w' => ∃ v rs', e = .returned v ∧ Own w' w.heap.size v rs' ∧ rs'.map lr = drawnRs rs ∧ Below w.heap.size w w' := by
 obtain ⟨i0, hi0, hz0, hz1, hz2⟩ := info_parts infoRw
 have R := Lib.hid hr
 have I0 := Lib.hid (Below.refl w.heap.size w)
 have O0 := Lib.hid (Own.nothing w w.heap.size)
 unfold maxLen at hn
 clear hr
 go_enter Tryz.func11, Tryz.ntmps11
 go_wp2_with fail
 go_loopw [3, 4] (fun v i wr => ∃ (k d : Nat) (A1 : Option Addr) (ys : List RowIn), v = .slice A1 k d ∧ i = .int .i64 (k : Int) ∧ k ≤ n ∧ k ≤ 14 ∧ Hid (Below w.heap.size w wr) ∧ Hid (Own wr w.heap.size (.slice A1 k d) ys) ∧ Hid (ys.map lr = (rs.take k).map cutR)) (fun _ i _ => 14 - (intOf i).toNat)
 case atStart => exact ⟨0, 0, none, [], rfl, rfl, Nat.zero_le _, Nat.zero_le _, I0, O0, Lib.hid rfl⟩
 case round =>
  obtain ⟨k, d, A1, ys, rfl, rfl, hk, hk14, I, O, M⟩ := hrel
  clear I0 O0
  by_cases hlt : k < n
  ·by_cases hlt2 : k < 14
   ·obtain ⟨r, hr⟩ : ∃ r, rs[k]? = some r := ⟨_, List.getElem?_eq_getElem (by rw [R.out.len]; exact hlt)⟩
    have RO := Lib.hid (R.out.each r (List.mem_of_getElem? hr))
    obtain ⟨b, off, rfl, hb, q0, q1⟩ := rows_at (R.out.sq.below I.out) hr hlt
    have LW := Lib.hid (lawRow_walk r.A r.n r.c r.wrap r.l wr ((RO.out.sq.below I.out).up I.out.size) RO.out.le RO.out.cap)
    have NX := Lib.hid (show (rs.take (k + 1)).map cutR = (rs.take k).map cutR ++ [cutR r] from by rw [take_one hr, List.map_append]; rfl)
    have hlt' : (k : Int) < (n : Int) := by omega
    have hlt2' : (k : Int) < 14 := by omega
    have YL := Lib.hid O.out.rws.1
    clear hr
    go_wp2_with fail
    refine LW.out.mono ?_
    rintro e w3 ⟨v3, rfl, h3, b3⟩
    obtain ⟨A3, d3, rfl, hd3, hd3m⟩ := own_max (show w3.ownsRow _ 52 3 v3 (cut310 r.l).length (flat (cut310 r.l)) from h3)
    have O3 := Lib.hid (O.out.laid b3)
    have H3 := Lib.hid (show HasC w3 wr.heap.size (.slice A3 (cut310 r.l).length d3) (cut310 r.l) from h3)
    have B3 := Lib.hid (I.out.trans (b3.mono I.out.size))
    have IZ := Lib.hid I.out.size
    have BZ := Lib.hid b3.size
    have DM := Lib.hid hd3m
    clear h3 b3 LW q0 q1 O I hd3 hd3m
    have OW := Lib.hid (show w3.ownsRow w.heap.size 48 2 (.slice A1 k d) k (ys.flatMap RowIn.vals) from by have := O3.out.own; rwa [← YL.out] at this)
    have HB := Lib.hid (show w.heap.size ≤ (w3.alloc (.cells #[.slice A3 (cut310 r.l).length d3, .bool r.wrap] 48)).heap.size from by have := IZ.out; have := BZ.out; simp; omega)
    go_wp2_with (at_builtin; refine wpList_append_own _ rfl _ _ 22 rfl w.heap.size 48 i0 (.agg #[.slice none 0 0, .bool false]) 2 32 Tryz.underlying22 hi0 hz0 hz1 hz2 rfl (by decide) _ _ _ rfl (OW.out.alloc _) ⟨w3.heap.size, 0, none⟩ 1 1 [.slice A3 (cut310 r.l).length d3, .bool r.wrap] rfl rfl (cell_pair _ _ _ _) (by simp [Value.oneCell']) (by unfold maxLen; omega) (by omega) HB.out ?_; intro v4 w4 ho4 hg4 _; (obtain ⟨A4, d4, rfl, _⟩ := own_cap ho4); (have O4 := Lib.hid ho4); (have G4 := Lib.hid hg4); clear ho4 hg4)
    go_roundw
    case rel =>
     have ba : Laid w3 (w3.alloc (.cells #[.slice A3 (cut310 r.l).length d3, .bool r.wrap] 48)) := (Below.refl _ _).alloc (Nat.le_refl _) _
     have ho := Own.snoc (x := ⟨A3, (cut310 r.l).length, d3, r.wrap, cut310 r.l⟩) (v' := .slice A4 (k + 1) d4) (O3.out.laid ba) (own_down (own_laid H3.out ba) IZ.out) (fun c hc => RO.out.signs c (List.mem_of_mem_take hc)) DM.out (by rw [← YL.out]; exact O4.out) G4.out
     refine ⟨k + 1, d4, A4, ys ++ [⟨A3, (cut310 r.l).length, d3, r.wrap, cut310 r.l⟩], rfl, by go_num, by omega, by omega, Lib.hid ?_, Lib.hid ho, Lib.hid ?_⟩
     ·exact (B3.out.trans (ba.mono B3.out.size)).grown G4.out HB.out (fun j e => (OW.out.lt j e).1)
     ·rw [NX.out, List.map_append, M.out]
      rfl
    case measure => simp [intOf]; omega
   ·obtain rfl : k = 14 := by omega
    have EF := Lib.hid M.out
    go_wp2
    go_ret
    exact ⟨_, _, rfl, O.out, M.out, I.out⟩
  ·obtain rfl : k = n := by omega
   have EF := Lib.hid (show ys.map lr = drawnRs rs from by
    have h1 := M.out
    rw [List.take_of_length_le (by rw [R.out.len]; exact Nat.le_refl _)] at h1
    rw [h1]
    unfold drawnRs
    rw [List.take_of_length_le (by rw [R.out.len]; exact hk14)])
   go_wp2
   go_ret
   exact ⟨_, _, rfl, O.out, EF.out, I.out⟩
end Ln
end Go.Proofs.YtjhmndmnhkbigaaGreatDoor
namespace Go.Proofs.YtjhmndmnhkbigaaGreatDoor
open Go.ChangeShapes Go.WideShapes Go.ChangeAt Go.RowKit
namespace Ln
open Rw
attribute [local go_sem] Oper.semAt_some
structure LSrc (S Bl Bw : Nat) (A : Option Addr) (n c wv : Nat) (l : List Cel) (W : World) : Prop where
 bl : W.heap[Bl]? = some (.cells #[.slice A n c] 41 (0, 0))
 bw : W.heap[Bw]? = some (.cells #[.int .i64 (wv : Int)] 3 (0, 0))
 sq : Sq W S 3 n A (flat l)
 big : S ≤ W.heap.size
def IsOwn (W : World) (j : Nat) : Prop := ∃ cs ty, W.heap[j]? = some (.cells cs ty (0, 0)) ∧ (ty = 25 ∨ ty = 52 ∧ cs.size = 3)
def LeavesP (S Bl Bw : Nat) (X : Nat → Prop) (W W' : World) : Prop := W.heap.size ≤ W'.heap.size ∧ ∀ j, j < S ∨ j = Bl ∨ j = Bw ∨ IsOwn W j ∧ ¬ X j → W'.heap[j]? = W.heap[j]?
theorem LeavesP.trans {S Bl Bw : Nat} {X : Nat → Prop} {A B C : World} (h : LeavesP S Bl Bw X A B) (k : LeavesP S Bl Bw X B C) : LeavesP S Bl Bw X A C :=
 ⟨Nat.le_trans h.1 k.1, fun j hj => (k.2 j (by
  rcases hj with hj | hj | hj | ⟨⟨cs, ty, hj, ht⟩, hx⟩
  ·exact .inl hj
  ·exact .inr (.inl hj)
  ·exact .inr (.inr (.inl hj))
  ·exact .inr (.inr (.inr ⟨⟨cs, ty, (h.2 j (.inr (.inr (.inr ⟨⟨cs, ty, hj, ht⟩, hx⟩)))).trans hj, ht⟩, hx⟩)))).trans (h.2 j hj)⟩
theorem LeavesP.laid {S Bl Bw : Nat} {X : Nat → Prop} {W W' : World} (h : Laid W W') (hS : S ≤ W.heap.size) (h1 : Bl < W.heap.size) (h2 : Bw < W.heap.size) : LeavesP S Bl Bw X W W' :=
 ⟨h.size, fun j hj => h.block j (by
  rcases hj with hj | rfl | rfl | ⟨⟨cs, ty, hj, _⟩, _⟩
  ·omega
  ·exact h1
  ·exact h2
  ·exact (Array.getElem?_eq_some_iff.1 hj).1)⟩
theorem LeavesP.put {S Bl Bw l : Nat} {X : Nat → Prop} {W : World} {o : Obj} (hS : S ≤ l) (h1 : Bl < l) (h2 : Bw < l) (ho : W.heap[l]? = some o) (hc : o.isCells = false) (o' : Obj) : LeavesP S Bl Bw X W (W.putObj l o') :=
 ⟨by simp [World.putObj], fun j hj => World.putObj_heap_other (fun e => by
  rcases hj with hj | hj | hj | ⟨⟨cs, ty, hj, _⟩, _⟩
  ·omega
  ·omega
  ·omega
  ·rw [e, ho] at hj
   cases hj
   cases hc)⟩
namespace LSrc
variable {S Bl Bw n c wv : Nat} {X : Nat → Prop} {A : Option Addr} {l : List Cel} {W W' : World}
theorem kept (h : LSrc S Bl Bw A n c wv l W) (hk : LeavesP S Bl Bw X W W') : LSrc S Bl Bw A n c wv l W' :=
 ⟨(hk.2 Bl (.inr (.inl rfl))).trans h.bl, (hk.2 Bw (.inr (.inr (.inl rfl)))).trans h.bw, h.sq.carry (fun p hp => by unfold World.cell?; rw [hk.2 p.block (.inl hp)]), Nat.le_trans h.big hk.1⟩
theorem laid (h : LSrc S Bl Bw A n c wv l W) (hb : Laid W W') : LSrc S Bl Bw A n c wv l W' := h.kept (X := fun _ => False) (LeavesP.laid hb h.big (Array.getElem?_eq_some_iff.1 h.bl).1 (Array.getElem?_eq_some_iff.1 h.bw).1)
end LSrc
structure Fr (lo hi : Nat) (a0 a : Act) : Prop where
 size : a.tmps.size = a0.tmps.size
 defers : a.defers = a0.defers
 keep : ∀ t, t < lo ∨ hi < t → a.tmps[t]? = a0.tmps[t]?
theorem Fr.refl (lo hi : Nat) (a : Act) : Fr lo hi a a := ⟨rfl, rfl, fun _ _ => rfl⟩
theorem Fr.next {lo hi : Nat} {a0 a a' : Act} {d : Nat} {v : Value} (F : Fr lo hi a0 a) (N : Chain.Next a a' d v) (h : lo ≤ d ∧ d ≤ hi) : Fr lo hi a0 a' :=
 ⟨N.size.trans F.size, N.defers.trans F.defers, fun t ht => by
  rw [← F.keep t ht]
  cases e : a.tmps[t]? with
  | none => rw [Array.getElem?_eq_none_iff] at e ⊢; have := N.size; omega
  | some u => exact N.keep t u (by omega) e⟩
theorem Fr.at {lo hi : Nat} {a0 a : Act} {t : Nat} {v : Value} (F : Fr lo hi a0 a) (h : Chain.At a0 t v) (ht : t < lo ∨ hi < t) : Chain.At a t v := (F.keep t ht).trans h
theorem Fr.out {lo hi : Nat} {a0 a : Act} (F : Fr lo hi a0 a) (hlo : lo ≤ hi) (hhi : hi < a0.tmps.size) : ∀ (l : List Value), l.length = hi + 1 - lo → (∀ j v, l[j]? = some v → Chain.At a (lo + j) v) →
  a = { tmps := (a0.tmps.toList.take lo ++ (l ++ a0.tmps.toList.drop (hi + 1))).toArray, defers := a0.defers } := by
 intro l hl hv
 obtain ⟨ta, da⟩ := a
 have hd : da = a0.defers := F.defers
 subst hd
 congr 1
 refine Array.ext_getElem? fun t => ?_
 refine Eq.trans ?_ (List.getElem?_toArray (i := t)).symm
 have hz : ta.size = a0.tmps.size := F.size
 have hn : a0.tmps.toList.length = a0.tmps.size := Array.length_toList
 have ht : (a0.tmps.toList.take lo).length = lo := by rw [List.length_take]; omega
 by_cases h1 : t < lo
 ·rw [List.getElem?_append_left (by omega), List.getElem?_take, if_pos h1, Array.getElem?_toList]
  exact F.keep t (.inl h1)
 ·rw [List.getElem?_append_right (by omega), ht]
  by_cases h2 : t ≤ hi
  ·rw [List.getElem?_append_left (by omega)]
   obtain ⟨v, hv'⟩ : ∃ v, l[t - lo]? = some v := ⟨_, List.getElem?_eq_getElem (by omega)⟩
   rw [hv']
   have := hv (t - lo) v hv'
   rw [show lo + (t - lo) = t by omega] at this
   exact this
  ·rw [List.getElem?_append_right (by omega), List.getElem?_drop, Array.getElem?_toList, show hi + 1 + (t - lo - l.length) = t by omega]
   exact F.keep t (.inr (by omega))
structure Rl (X : Nat → Prop) (A B : World) : Prop where
 os : B.os = A.os
 tape : B.tape = A.tape
 output : B.output = A.output
 size : A.heap.size ≤ B.heap.size
 block : ∀ j, j < A.heap.size → (∀ cs, A.heap[j]? = some (.cells cs 25 (0, 0)) → X j) → B.heap[j]? = A.heap[j]?
theorem Rl.laid {X : Nat → Prop} {A B : World} (h : Laid A B) : Rl X A B := ⟨h.os, h.tape, h.output, h.size, fun j hj _ => h.block j hj⟩
theorem Rl.other {X : Nat → Prop} (A B : World) (j : Nat) (o : Obj) (h : Rl X A B) (ho : A.heap[j]? = some o) (hc : o.isCells = false) : B.heap[j]? = some o :=
 (h.block j (Array.getElem?_eq_some_iff.1 ho).1 (fun cs e => by rw [ho] at e; cases e; cases hc)).trans ho
theorem Rl.set {X : Nat → Prop} {W : World} {P' : Nat} (h : ∃ cs, W.heap[P']? = some (.cells cs 25 (0, 0))) (hx : ¬ X P') (k : Nat) (u : Value) : Rl X W (W.setCell ⟨P', k, none⟩ u) :=
 ⟨rfl, rfl, rfl, by simp, fun j _ hj => Below.heap_setCell _ _ _ _ (fun e => by
  obtain ⟨cs, h⟩ := h
  have e' : j = P' := e
  subst e'
  exact hx (hj cs h))⟩
theorem LSrc.set {S Bl Bw n c wv : Nat} {A : Option Addr} {l : List Cel} {W : World} {P' : Nat} (h : LSrc S Bl Bw A n c wv l W) (h1 : Bl < P') (h2 : Bw < P') (h3 : S ≤ P') (k : Nat) (u : Value) : LSrc S Bl Bw A n c wv l (W.setCell ⟨P', k, none⟩ u) :=
 ⟨(Below.heap_setCell _ _ _ _ (by show Bl ≠ P'; omega)).trans h.bl, (Below.heap_setCell _ _ _ _ (by show Bw ≠ P'; omega)).trans h.bw, h.sq.setCell (p := ⟨P', k, none⟩) h3 u, by simp; exact h.big⟩
def PosAt (W : World) (P' : Nat) (rc : Nat × Nat) : Prop := W.heap[P']? = some (.cells #[.int .i64 (rc.1 : Int), .int .i64 (rc.2 : Int)] 25 (0, 0))
theorem PosAt.own {W : World} {P' : Nat} {rc : Nat × Nat} (h : PosAt W P' rc) : IsOwn W P' := ⟨_, _, h, .inl rfl⟩
theorem PosAt.laid {W W' : World} {P' : Nat} {rc : Nat × Nat} (h : PosAt W P' rc) (hb : Laid W W') : PosAt W' P' rc := (hb.block _ (Array.getElem?_eq_some_iff.1 h).1).trans h
end Ln
end Go.Proofs.YtjhmndmnhkbigaaGreatDoor

namespace Go.Proofs.YtjhmndmnhkbigaaGreatDoor
open Go.ChangeShapes Go.WideShapes Go.ChangeAt Go.RowKit
namespace Ln
theorem Fr.ex {lo hi : Nat} {a0 a : Act} (F : Fr lo hi a0 a) (hlo : lo ≤ hi) (hhi : hi < a0.tmps.size) : ∃ l : List Value, l.length = hi + 1 - lo ∧ a = { tmps := (a0.tmps.toList.take lo ++ (l ++ a0.tmps.toList.drop (hi + 1))).toArray, defers := a0.defers } := by
 have hz := F.size
 have hl : ((a.tmps.toList.drop lo).take (hi + 1 - lo)).length = hi + 1 - lo := by rw [List.length_take, List.length_drop, Array.length_toList]; omega
 refine ⟨_, hl, F.out hlo hhi _ hl fun j v h => ?_⟩
 have hj := (List.getElem?_eq_some_iff.1 h).1
 rw [hl] at hj
 rw [List.getElem?_take, if_pos hj, List.getElem?_drop, Array.getElem?_toList] at h
 exact h
end Ln
end Go.Proofs.YtjhmndmnhkbigaaGreatDoor
namespace Go.Proofs.YtjhmndmnhkbigaaGreatDoor
open Go.ChangeShapes Go.WideShapes Go.ChangeAt Go.RowKit
namespace Ln
open Rw
attribute [local go_sem] Oper.semAt_some
set_option maxRecDepth 100000 in
set_option maxHeartbeats 1600000 in
theorem cloneSome_walk {n c : Nat} {ad : Addr} {l : List Cel} (w : World) (hq : Sq w w.heap.size 3 n (some ad) (flat l)) (hn : n ≤ 1000000) :
  Calls Tryz.prog 51 #[.slice (some ad) n c] w fun e w' => ∃ A c', e = .returned (.slice A n c') ∧ HasC w' w.heap.size (.slice A n c') l ∧ Below w.heap.size w w' := by
 obtain ⟨i0, hi, hz0, hz1, hz2⟩ := info_parts infoCell
 have q22 : ∀ (w : World) (a : Option Addr) (n c n' c' : Nat), (binOp .eql 41 (.slice a n c) (.slice none n' c')).run Tryz.prog w = .ok (.bool a.isNone) w := fun w a n c n' c' => Lib.run_eql_slice_nil w _ _ a n c n' c' Tryz.underlying41
 have hln : l.length = n := by have := hq.len; rw [flat_length] at this; omega
 have LN := Lib.hid hln
 have QQ := Lib.hid (hq.alloc (Nat.le_refl _) (.cells #[] 52))
 clear hq hln
 go_enter Tryz.func51, Tryz.ntmps51
 go_wp2_with (
  at_builtin
  refine wpl_app rfl _ _ 41 rfl w.heap.size 52 i0 (.agg #[.int .i32 0, .int .i64 0, .int .i64 0]) 3 24 Tryz.underlying41 hi hz0 hz1 hz2 rfl (by decide) (.slice (some ⟨w.heap.size, 0, none⟩) 0 0) 0 [] rfl (World.ownsRow_made w #[] 0 (Nat.le_refl _) (Nat.zero_le _) rfl) (some ad) n c (flat l) rfl w.heap.size QQ.out (flat_one _) (by unfold maxLen; omega) (by omega) (by simp) ?_
  intro v1 w1 hown hg _
  have HO := Lib.hid (show HasC w1 w.heap.size v1 l by unfold HasC; rw [LN.out]; simpa using hown)
  have HB := Lib.hid (((Below.refl w.heap.size w).alloc (Nat.le_refl _) (.cells #[] 52)).grown hg (by simp) (fun k e => by simp [Value.ownBlock] at e; omega))
  clear hown hg)
 obtain ⟨A, c', e, _⟩ := HasC.shape HO.out
 rw [LN.out] at e
 subst e
 go_ret
 exact ⟨A, c', rfl, HO.out, HB.out⟩
set_option maxRecDepth 100000 in
theorem clone_walk (A : Option Addr) (n c : Nat) (l : List Cel) (w : World) (hq : Sq w w.heap.size 3 n A (flat l)) (hn : n ≤ 1000000) :
  Calls Tryz.prog 51 #[.slice A n c] w fun e w' => ∃ A' c', e = .returned (.slice A' n c') ∧ HasC w' w.heap.size (.slice A' n c') l ∧ Below w.heap.size w w' := by
 rcases A with _ | ad
 ·have hn0 : n = 0 := by
   rcases Nat.eq_zero_or_pos n with h | h
   ·exact h
   ·obtain ⟨b, off, e, _⟩ := hq.spot (by omega)
    cases e
  have hl : l = [] := by
   have h := hq.len
   rw [flat_length] at h
   exact List.length_eq_zero_iff.1 (by omega)
  subst hn0 hl
  have q22 : ∀ (w : World) (n c n' c' : Nat), (binOp .eql 41 (.slice none n c) (.slice none n' c')).run Tryz.prog w = .ok (.bool true) w := fun w n c n' c' => Lib.run_eql_slice_nil w _ _ none n c n' c' Tryz.underlying41
  clear hq
  go_enter Tryz.func51, Tryz.ntmps51
  go_wp2
  go_ret
  exact ⟨none, 0, rfl, World.ownsRow_nil _ _ _ _, Below.refl _ _⟩
 ·exact cloneSome_walk w hq hn
set_option maxRecDepth 100000 in
set_option maxHeartbeats 3200000 in
theorem each_walk (A : Option Addr) (n c : Nat) (rs : List RowIn) (w : World) (hs : Spans w) (hr : Rws w w.heap.size A n rs) (hc : n ≤ c) (hn : n ≤ 1000000) :
  Calls Tryz.prog 23 #[.slice A n c] w fun e w' => ∃ g A1 c1 vs, e = .returned (.func (.func 50) #[] #[.pointer (some ⟨g, 0, none⟩)]) ∧ w'.heap[g]? = some (.cells #[.slice A1 (joinL (rs.map lr)).length c1] 23 (0, 0)) ∧ Lns w' w.heap.size (.slice A1 (joinL (rs.map lr)).length c1) vs (joinL (rs.map lr)) ∧ Below w.heap.size w w' := by
 have JW := Lib.hid (join_walk A n c rs w hs hr hc hn)
 generalize joinL (rs.map lr) = jl at JW ⊢
 clear hs hr hc hn
 go_enter Tryz.func23, Tryz.ntmps23
 go_wp2_with fail
 refine JW.out.mono ?_
 rintro e w1 ⟨v1, vs1, rfl, l1, b1⟩
 obtain ⟨A1, c1, rfl, _⟩ := own_cap l1.own
 have B1 := Lib.hid b1
 have L1 := Lib.hid l1
 clear l1 b1 JW
 go_wp2
 go_ret
 have ba : Laid w1 (w1.alloc (.cells #[.slice A1 jl.length c1] 23)) := (Below.refl _ _).alloc (Nat.le_refl _) _
 exact ⟨w1.heap.size, A1, c1, vs1, rfl, heap_alloc_new w1 _, L1.out.laid ba, B1.out.trans (ba.mono B1.out.size)⟩
def KpT (A B : World) : Prop := A.heap.size ≤ B.heap.size ∧ ∀ (j : Nat) (cs : Array Value) (ty : TypeId), A.heap[j]? = some (.cells cs ty (0, 0)) → ty ≠ 3 → ty ≠ 4 → B.heap[j]? = A.heap[j]?
theorem KpT.trans {A B C : World} (h : KpT A B) (k : KpT B C) : KpT A C := ⟨Nat.le_trans h.1 k.1, fun j cs ty hj h1 h2 => (k.2 j cs ty ((h.2 j cs ty hj h1 h2).trans hj) h1 h2).trans (h.2 j cs ty hj h1 h2)⟩
theorem KpT.laid {A B : World} (h : Laid A B) : KpT A B := ⟨h.size, fun j _ _ hj _ _ => h.block j (Array.getElem?_eq_some_iff.1 hj).1⟩
theorem KpT.put {W : World} {l : Nat} {o : Obj} (ho : W.heap[l]? = some o) (hc : o.isCells = false) (o' : Obj) : KpT W (W.putObj l o') := ⟨by simp [World.putObj], fun j cs ty hj _ _ => World.putObj_heap_other (fun e => by rw [e, ho] at hj; cases hj; cases hc)⟩
structure ESrc (g B : Nat) (v : Value) (vs : List Value) (ls : List (List Cel)) (W : World) : Prop where
 box : W.heap[g]? = some (.cells #[v] 23 (0, 0))
 lns : Lns W B v vs ls
theorem own_kept {A B : World} {b s n : Nat} {e : TypeId} {v : Value} {xs : List Value} (h : A.ownsRow b e s v n xs) (hk : KpT A B) (h1 : e ≠ 3) (h2 : e ≠ 4) : B.ownsRow b e s v n xs :=
 own_keep h fun j hj => by obtain ⟨cur, hc⟩ := own_type h j hj; exact hk.2 j _ _ hc h1 h2
theorem ESrc.kept {g B : Nat} {v : Value} {vs : List Value} {ls : List (List Cel)} {W W' : World} (h : ESrc g B v vs ls W) (hk : KpT W W') : ESrc g B v vs ls W' :=
 ⟨(hk.2 g _ _ h.box (by decide) (by decide)).trans h.box, own_kept h.lns.own hk (by decide) (by decide), fun i x l hx hl => by
  have hh : W.ownsRow B 52 3 x l.length (flat l) := h.lns.each i x l hx hl
  exact own_kept hh hk (by decide) (by decide)⟩
def FitE (ls : List (List Cel)) (k : Nat) (x : Array Value) (W : World) : Prop := ∃ A c l, ls[k]? = some l ∧ x = #[.int .i64 (k : Int), .slice A l.length c] ∧ ∃ B, HasC W B (.slice A l.length c) l
set_option maxRecDepth 100000 in
theorem yieldE_not_nil (l : Nat) (w : World) : (binOp .eql 80 (.func (.yield l) #[] #[]) .nilFunc).run Tryz.prog w = .ok (.bool false) w := by first | rfl | kernel_rfl
set_option maxRecDepth 100000 in
set_option maxHeartbeats 6400000 in
theorem each_tells {g B N c : Nat} {A : Option Addr} {vs : List Value} {ls : List (List Cel)} {Kp : World → World → Prop} {w : World} (h : ESrc g B (.slice A N c) vs ls w) (hN : ls.length = N) (hK : ∀ A B, Kp A B → KpT A B) (hb : ∀ l ∈ ls, l.length ≤ 1000000) (hn : N ≤ 1000000) :
  Tells Tryz.prog 50 #[.pointer (some ⟨g, 0, none⟩)] N (FitE ls) Kp w := by
 intro l J Jx W hL hJ hJx hY h0
 have E0 := Lib.hid (h.kept (KpT.laid hL))
 have J0 := Lib.hid h0
 have c0 : W.cell? ⟨g, 0, none⟩ = some (.slice A N c) := cell_of_row _ _ 0 _ _ (0, 0) E0.out.box
 have YH := Lib.hid hY
 have JH := Lib.hid (And.intro hJ hJx)
 have KH := Lib.hid hK
 have NH := Lib.hid hN
 have LB := Lib.hid hb
 clear hY hJ hJx hK hN h hL h0 hb
 refine callsIn_of_wp Tryz.func50 rfl trivial ?_ rfl
 simp only [Tryz.ntmps50, List.size_toArray, List.length_cons, List.length_nil, Nat.reduceAdd, Nat.reduceSub, Array.replicate_succ, Array.replicate_zero, List.push_toArray, List.append_toArray, List.nil_append, List.cons_append]
 have yn := yieldE_not_nil l
 gi_wp2
 gi_loopw [9] (fun i wr => ∃ k : Nat, i = .int .i64 (k : Int) ∧ k ≤ N ∧ Hid (ESrc g B (.slice A N c) vs ls wr) ∧ Hid (J k wr)) (fun i _ => N - (intOf i).toNat)
 case atStart => exact ⟨0, rfl, Nat.zero_le _, E0, J0⟩
 case round =>
  obtain ⟨k, rfl, hk, E, JJ⟩ := hrel
  clear E0 J0 c0
  by_cases hlt : k < N
  ·obtain ⟨x, hx⟩ : ∃ x, vs[k]? = some x := ⟨_, List.getElem?_eq_getElem (by have := E.out.lns.len; have := NH.out; omega)⟩
   obtain ⟨m, hm⟩ : ∃ m, ls[k]? = some m := ⟨_, List.getElem?_eq_getElem (by have := NH.out; omega)⟩
   have hown := E.out.lns.own
   rw [NH.out] at hown
   obtain ⟨go, cgo, ego, _, _, hgo, hcells⟩ := own_at hown (by omega)
   injection ego with ego _ ego2
   subst ego ego2
   have xq := hcells k _ hx
   have hxl := E.out.lns.each k x m hx hm
   obtain ⟨AX, cX, rfl, _⟩ := own_cap (show wr.ownsRow B 52 3 x m.length (flat m) from hxl)
   have CW := Lib.hid (clone_walk AX m.length cX m wr (Sq.own hxl) (LB.out m (List.mem_of_getElem? hm)))
   have HM := Lib.hid hm
   have KL := Lib.hid hlt
   have hki : (k : Int) < (N : Int) := by omega
   obtain ⟨nx, hnx⟩ : ∃ nx, m.length = nx := ⟨_, rfl⟩
   have HNX := Lib.hid hnx
   rw [hnx] at CW xq
   clear hown hgo hcells hx hm hxl hnx
   gi_wp2_with (refine ⟨trivial, ?_⟩; gi_at_call 51; refine (callsIn_wide.2 CW.out).mono ?_; rintro e w3 ⟨A3, c3, rfl, h3, b3⟩; (have f3 : FitE ls k #[.int .i64 (k : Int), .slice A3 nx c3] w3 := ⟨A3, c3, m, HM.out, by rw [HNX.out], wr.heap.size, by rw [HNX.out]; exact h3⟩); (have E3 := Lib.hid (E.out.kept (KpT.laid b3))); (obtain ⟨fn, tmps, assign, body, hy, hR⟩ := YH.out _ _ _ KL.out (JH.out.1 _ _ _ JJ.out b3) f3); (have R4 := Lib.hid hR); clear h3 b3 f3 hR)
   refine R4.out.mono ?_
   rintro e W5 (⟨rfl, hJ5, hk5⟩ | ⟨rfl, hJx5⟩)
   ·have E5 := Lib.hid (E3.out.kept (KH.out _ _ hk5))
    have J5 := Lib.hid hJ5
    clear hJ5 hk5 hy R4
    gi_wp2
    go_roundw
    case rel => exact ⟨k + 1, by go_num, by omega, E5, J5⟩
    case measure => simp [intOf]; omega
   ·have DX := Lib.hid hJx5
    clear hJx5 hy R4
    gi_wp2
    refine bodyPost_ret (results_none rfl _ _ _) rfl ?_
    exact ⟨⟨_, rfl⟩, .inr ⟨_, KL.out, DX.out⟩⟩
  ·obtain rfl : k = N := by omega
   have DN := Lib.hid JJ.out
   gi_wp2
   go_end0
   exact ⟨⟨_, rfl⟩, .inl DN.out⟩
end Ln
end Go.Proofs.YtjhmndmnhkbigaaGreatDoor
