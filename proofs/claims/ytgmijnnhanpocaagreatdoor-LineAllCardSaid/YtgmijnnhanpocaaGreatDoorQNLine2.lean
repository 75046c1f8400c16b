/-
  The statements' own rows: of those that were drawn, not too many, each in memory of its own. cell.Line of any cells. Rows of one width, each in a block of its own, all apart: a cell put into one of them, one that goes on, one more.
-/
import Derived.Test.YtgmijnnhanpocaaGreatDoorQNLine1
import Derived.Test.YtgmijnnhanpocaaGreatDoorQNBase3
import Derived.Test.YtgmijnnhanpocaaGreatDoorQNLine0
import Derived.Test.YtgmijnnhanpocaaGreatDoorQNBase0
import Derived.Test.YtgmijnnhanpocaaGreatDoorQNRow0
namespace Go.Proofs.YtgmijnnhanpocaaGreatDoor
open Go.ChangeShapes Go.WideShapes Go.ChangeAt Go.RowKit
namespace Ln
open Rw
structure Own (W : World) (B : Nat) (v : Value) (rs : List RowIn) : Prop where
 own : W.ownsRow B 48 2 v rs.length (rs.flatMap RowIn.vals)
 each : ∀ r ∈ rs, HasC W B (.slice r.A r.n r.c) r.l ∧ (∀ c ∈ r.l, -2147483648 ≤ c.1 ∧ c.1 ≤ 2147483647) ∧ r.c ≤ maxLen
theorem own_max {w : World} {B : Nat} {e : TypeId} {s n : Nat} {v : Value} {xs : List Value} (h : w.ownsRow B e s v n xs) : ∃ A c, v = .slice A n c ∧ n ≤ c ∧ c ≤ maxLen := by
 rcases h.2 with ⟨rfl, h0⟩ | ⟨g, cap, cur, rfl, _, _, hc, hm, _⟩
 ·rw [h0]; exact ⟨_, _, rfl, Nat.le_refl _, Nat.zero_le _⟩
 ·exact ⟨_, _, rfl, hc, hm⟩
namespace Own
variable {W W' : World} {B : Nat} {v v' : Value} {rs : List RowIn}
theorem nothing (W : World) (B : Nat) : Own W B (.slice none 0 0) [] := ⟨World.ownsRow_nil _ _ _ _, fun r h => by cases h⟩
theorem shape (h : Own W B v rs) : ∃ A c, v = .slice A rs.length c ∧ rs.length ≤ c := own_cap h.own
theorem keep (h : Own W B v rs) (hk : ∀ j, B ≤ j → j < W.heap.size → W'.heap[j]? = W.heap[j]?) : Own W' B v rs :=
 ⟨own_keep h.own fun j hj => hk j (h.own.lt j hj).1 (h.own.lt j hj).2, fun r hr => ⟨own_keep (h.each r hr).1 fun j hj => by
  have hh : W.ownsRow B 50 3 (.slice r.A r.n r.c) r.l.length (flat r.l) := (h.each r hr).1
  exact hk j (hh.lt j hj).1 (hh.lt j hj).2, (h.each r hr).2⟩⟩
theorem laid (h : Own W B v rs) (hb : Laid W W') : Own W' B v rs := h.keep fun j _ hj => hb.block j hj
theorem down (h : Own W B v rs) {B' : Nat} (hb : B' ≤ B) : Own W B' v rs := ⟨own_down h.own hb, fun r hr => ⟨own_down (h.each r hr).1 hb, (h.each r hr).2⟩⟩
theorem snoc {x : RowIn} (h : Own W B v rs) (hx : HasC W B (.slice x.A x.n x.c) x.l) (hs : ∀ c ∈ x.l, -2147483648 ≤ c.1 ∧ c.1 ≤ 2147483647) (hm : x.c ≤ maxLen) (ho : W'.ownsRow B 48 2 v' (rs.length + 1) (rs.flatMap RowIn.vals ++ x.vals)) (hg : W.grownBy W' v.ownBlock) : Own W' B v' (rs ++ [x]) := by
 have keepc : ∀ {y : Value} {m : List Cel}, HasC W B y m → HasC W' B y m := fun {y m} hy => own_keep hy fun j hj => by
  have hh : W.ownsRow B 50 3 y m.length (flat m) := hy
  exact hg.block j (hh.lt j hj).2 (fun e => own_ne hh h.own (by decide) j hj e.symm)
 refine ⟨?_, fun r hr => ?_⟩
 ·rw [List.length_append, List.length_singleton, List.flatMap_append]
  simpa [List.flatMap_cons] using ho
 ·rcases List.mem_append.1 hr with hr | hr
  ·exact ⟨keepc (h.each r hr).1, (h.each r hr).2⟩
  ·rw [List.mem_singleton.1 hr]
   exact ⟨keepc hx, hs, hm⟩
theorem rws {A : Option Addr} {n c : Nat} (h : Own W B (.slice A n c) rs) : n = rs.length ∧ Rws W W.heap.size A n rs := by
 obtain ⟨A', c', e, _⟩ := own_cap h.own
 injection e with e1 e2 e3
 subst e1 e2 e3
 refine ⟨rfl, fun r hr => ?_, Sq.own h.own⟩
 obtain ⟨rA, rn, rc, rb, rl⟩ := r
 obtain ⟨h1, h2, h3⟩ := h.each _ hr
 have hh : W.ownsRow B 50 3 (.slice rA rn rc) rl.length (flat rl) := h1
 obtain ⟨A', c', e, hc⟩ := own_cap hh
 injection e with e1 e2 e3
 subst e2
 have hq := Sq.own hh
 exact ⟨by show rl.length ≤ rc; omega, h3, h2, hq⟩
end Own
def cutR (r : RowIn) : LR := (r.wrap, cut310 r.l)
def drawnRs (rs : List RowIn) : List LR := (rs.take 14).map cutR
theorem infoRw : (Tryz.prog.info? 48).map (fun i => (i.zero, i.size, i.bytes)) = some (some (.agg #[.slice none 0 0, .bool false]), 2, 32) := by kernel_rfl
theorem cell_pair (w : World) (e : TypeId) (x y : Value) : ∀ (j : Nat) (u : Value), [x, y][j]? = some u → (w.alloc (.cells #[x, y] e)).cell? ((⟨w.heap.size, 0, none⟩ : Addr).add j) = some u := by
 intro j u hu
 rw [add_at, Nat.zero_add, cell_of_row _ _ _ _ _ (0, 0) (heap_alloc_new w _)]
 match j, hu with
 | 0, hu => exact hu
 | 1, hu => exact hu
 | j + 2, hu => simp at hu
set_option maxRecDepth 100000 in
set_option maxHeartbeats 3200000 in
theorem rows10_walk (A : Option Addr) (n c : Nat) (rs : List RowIn) (w : World) (hr : Rws w w.heap.size A n rs) (hn : n ≤ maxLen) :
  Calls Tryz.prog 9 #[.slice A n c] w fun e w' => ∃ v rs', e = .returned v ∧ Own w' w.heap.size v rs' ∧ rs'.map lr = drawnRs rs ∧ Below w.heap.size w w' := by
 obtain ⟨i0, hi0, hz0, hz1, hz2⟩ := info_parts infoRw
 have R := Lib.hid hr
 have I0 := Lib.hid (Below.refl w.heap.size w)
 have O0 := Lib.hid (Own.nothing w w.heap.size)
 unfold maxLen at hn
 clear hr
 go_enter Tryz.func9, Tryz.ntmps9
 go_wp2_with fail
 go_loopw [3, 4] (fun v i wr => ∃ (k d : Nat) (A1 : Option Addr) (ys : List RowIn), v = .slice A1 k d ∧ i = .int .i64 (k : Int) ∧ k ≤ n ∧ k ≤ 14 ∧ Hid (Below w.heap.size w wr) ∧ Hid (Own wr w.heap.size (.slice A1 k d) ys) ∧ Hid (ys.map lr = (rs.take k).map cutR)) (fun _ i _ => 14 - (intOf i).toNat)
 case atStart => exact ⟨0, 0, none, [], rfl, rfl, Nat.zero_le _, Nat.zero_le _, I0, O0, Lib.hid rfl⟩
 case round =>
  obtain ⟨k, d, A1, ys, rfl, rfl, hk, hk14, I, O, M⟩ := hrel
  clear I0 O0
  by_cases hlt : k < n
  ·by_cases hlt2 : k < 14
   ·obtain ⟨r, hr⟩ : ∃ r, rs[k]? = some r := ⟨_, List.getElem?_eq_getElem (by rw [R.out.len]; exact hlt)⟩
    have RO := Lib.hid (R.out.each r (List.mem_of_getElem? hr))
    obtain ⟨b, off, rfl, hb, q0, q1⟩ := rows_at (R.out.sq.below I.out) hr hlt
    have LW := Lib.hid (lawRow_walk r.A r.n r.c r.wrap r.l wr ((RO.out.sq.below I.out).up I.out.size) RO.out.le RO.out.cap)
    have NX := Lib.hid (show (rs.take (k + 1)).map cutR = (rs.take k).map cutR ++ [cutR r] from by rw [take_one hr, List.map_append]; rfl)
    have hlt' : (k : Int) < (n : Int) := by omega
    have hlt2' : (k : Int) < 14 := by omega
    have YL := Lib.hid O.out.rws.1
    clear hr
    go_wp2_with fail
    refine LW.out.mono ?_
    rintro e w3 ⟨v3, rfl, h3, b3⟩
    obtain ⟨A3, d3, rfl, hd3, hd3m⟩ := own_max (show w3.ownsRow _ 50 3 v3 (cut310 r.l).length (flat (cut310 r.l)) from h3)
    have O3 := Lib.hid (O.out.laid b3)
    have H3 := Lib.hid (show HasC w3 wr.heap.size (.slice A3 (cut310 r.l).length d3) (cut310 r.l) from h3)
    have B3 := Lib.hid (I.out.trans (b3.mono I.out.size))
    have IZ := Lib.hid I.out.size
    have BZ := Lib.hid b3.size
    have DM := Lib.hid hd3m
    clear h3 b3 LW q0 q1 O I hd3 hd3m
    have OW := Lib.hid (show w3.ownsRow w.heap.size 48 2 (.slice A1 k d) k (ys.flatMap RowIn.vals) from by have := O3.out.own; rwa [← YL.out] at this)
    have HB := Lib.hid (show w.heap.size ≤ (w3.alloc (.cells #[.slice A3 (cut310 r.l).length d3, .bool r.wrap] 48)).heap.size from by have := IZ.out; have := BZ.out; simp; omega)
    go_wp2_with (at_builtin; refine wpList_append_own _ rfl _ _ 22 rfl w.heap.size 48 i0 (.agg #[.slice none 0 0, .bool false]) 2 32 Tryz.underlying22 hi0 hz0 hz1 hz2 rfl (by decide) _ _ _ rfl (OW.out.alloc _) ⟨w3.heap.size, 0, none⟩ 1 1 [.slice A3 (cut310 r.l).length d3, .bool r.wrap] rfl rfl (cell_pair _ _ _ _) (by simp [Value.oneCell']) (by unfold maxLen; omega) (by omega) HB.out ?_; intro v4 w4 ho4 hg4 _; (obtain ⟨A4, d4, rfl, _⟩ := own_cap ho4); (have O4 := Lib.hid ho4); (have G4 := Lib.hid hg4); clear ho4 hg4)
    go_roundw
    case rel =>
     have ba : Laid w3 (w3.alloc (.cells #[.slice A3 (cut310 r.l).length d3, .bool r.wrap] 48)) := (Below.refl _ _).alloc (Nat.le_refl _) _
     have ho := Own.snoc (x := ⟨A3, (cut310 r.l).length, d3, r.wrap, cut310 r.l⟩) (v' := .slice A4 (k + 1) d4) (O3.out.laid ba) (own_down (own_laid H3.out ba) IZ.out) (fun c hc => RO.out.signs c (List.mem_of_mem_take hc)) DM.out (by rw [← YL.out]; exact O4.out) G4.out
     refine ⟨k + 1, d4, A4, ys ++ [⟨A3, (cut310 r.l).length, d3, r.wrap, cut310 r.l⟩], rfl, by go_num, by omega, by omega, Lib.hid ?_, Lib.hid ho, Lib.hid ?_⟩
     ·exact (B3.out.trans (ba.mono B3.out.size)).grown G4.out HB.out (fun j e => (OW.out.lt j e).1)
     ·rw [NX.out, List.map_append, M.out]
      rfl
    case measure => simp [intOf]; omega
   ·obtain rfl : k = 14 := by omega
    have EF := Lib.hid M.out
    go_wp2
    go_ret
    exact ⟨_, _, rfl, O.out, M.out, I.out⟩
  ·obtain rfl : k = n := by omega
   have EF := Lib.hid (show ys.map lr = drawnRs rs from by
    have h1 := M.out
    rw [List.take_of_length_le (by rw [R.out.len]; exact Nat.le_refl _)] at h1
    rw [h1]
    unfold drawnRs
    rw [List.take_of_length_le (by rw [R.out.len]; exact hk14)])
   go_wp2
   go_ret
   exact ⟨_, _, rfl, O.out, EF.out, I.out⟩
end Ln
end Go.Proofs.YtgmijnnhanpocaaGreatDoor
namespace Go.Proofs.YtgmijnnhanpocaaGreatDoor
open Go.ChangeShapes Go.WideShapes Go.ChangeAt Go.RowKit
namespace Ln
open Rw
set_option maxRecDepth 100000 in
set_option maxHeartbeats 3200000 in
theorem line_any (A : Option Addr) (n c : Nat) (l : List Cel) (w : World) (hs : Spans w) (hl : ∀ c ∈ l, -2147483648 ≤ c.1 ∧ c.1 ≤ 2147483647) (hq : Sq w w.heap.size 3 n A (flat l)) (hn : n ≤ 1000000) :
  Calls Tryz.prog 46 #[.slice A n c] w fun e w' => e = .returned (.bool (lineB l)) ∧ Below w.heap.size w w' := by
 have hll : l.length = n := by have := hq.len; rw [flat_length] at this; omega
 have LN := Lib.hid hll
 have S := Lib.hid hs
 have Q := Lib.hid hq
 have HL := Lib.hid hl
 have I0 := Lib.hid (Below.refl w.heap.size w)
 obtain ⟨B, hB⟩ : ∃ B, lineB l = B := ⟨_, rfl⟩
 have E0 := Lib.hid (show lineB (l.drop 0) = B from hB)
 rw [hB]
 clear hs hq hl hB hll
 go_enter Tryz.func46, Tryz.ntmps46
 go_wp2
 go_loopw [7] (fun i wr => ∃ k : Nat, i = .int .i64 k ∧ k ≤ n ∧ Hid (Below w.heap.size w wr) ∧ Hid (lineB (l.drop k) = B)) (fun i _ => n - (intOf i).toNat)
 case atStart => exact ⟨0, rfl, Nat.zero_le _, I0, E0⟩
 case round =>
  obtain ⟨k, rfl, hk, I, E⟩ := hrel
  clear I0 E0
  by_cases hlt : k < n
  ·obtain ⟨b, off, rfl, hb, ⟨r, m, a⟩, hcc, q0, q1, q2⟩ := (Q.out.below I.out).three hlt
   have hr := HL.out _ (List.mem_of_getElem? hcc)
   obtain ⟨g, hg⟩ : ∃ g, hasB r m a = g := ⟨_, rfl⟩
   obtain ⟨g2, hg2⟩ : ∃ g2, mayB (r, m, a) = g2 := ⟨_, rfl⟩
   have SG := Lib.hid (hasSign_walk r m a)
   have MG := Lib.hid (may_any r m a hr.1 hr.2)
   rw [hg] at SG
   rw [hg2] at MG
   have EE := Lib.hid (show (g && g2 && lineB (l.drop (k + 1))) = B from by
    have := E.out
    obtain ⟨h1, h2⟩ := List.getElem?_eq_some_iff.1 hcc
    rw [List.drop_eq_getElem_cons h1, h2] at this
    unfold lineB at this
    rw [List.all_cons] at this
    unfold okC at this
    simp only [hg, hg2] at this
    exact this)
   have IZ := Lib.hid I.out.size
   have b1 : Below wr.heap.size wr (wr.alloc (.cells #[.int .i32 r, .int .i64 m, .int .i64 a] 50)) := (Below.refl _ _).alloc (Nat.le_refl _) _
   have C1 := Lib.hid (heap_alloc_new wr (.cells #[.int .i32 r, .int .i64 m, .int .i64 a] 50))
   have I1 := Lib.hid (I.out.trans (b1.mono I.out.size))
   clear hcc hr hg hg2 b1 I
   cases g
   ·have RB := Lib.hid (show B = false from by have := EE.out; simpa using this.symm)
    go_wp2_with fail
    refine (SG.out _).mono ?_
    rintro e w2 ⟨rfl, b2⟩
    have I2 := Lib.hid (I1.out.trans (b2.mono I1.out.size))
    clear b2 SG MG q0 q1 q2 C1
    go_wp2_with fail
    go_ret
    exact ⟨ret_bool RB.out.symm, I2.out⟩
   ·go_wp2_with fail
    refine (SG.out _).mono ?_
    rintro e w2 ⟨rfl, b2⟩
    have I2 := Lib.hid (I1.out.trans (b2.mono I1.out.size))
    have c2 := (b2.block wr.heap.size (by simp)).trans C1.out
    have k0 : w2.cell? ⟨wr.heap.size, 0, none⟩ = some (.int .i32 r) := cell_of_row _ _ 0 _ _ (0, 0) c2
    have k1 : w2.cell? ⟨wr.heap.size, 1, none⟩ = some (.int .i64 m) := cell_of_row _ _ 1 _ _ (0, 0) c2
    have k2 : w2.cell? ⟨wr.heap.size, 2, none⟩ = some (.int .i64 a) := cell_of_row _ _ 2 _ _ (0, 0) c2
    clear b2 SG q0 q1 q2 C1 c2
    go_wp2_with fail
    refine (MG.out w2 (S.out.below I2.out S.out.size)).mono ?_
    rintro e w3 ⟨rfl, b3⟩
    have I3 := Lib.hid (I2.out.trans (b3.mono I2.out.size))
    clear b3 MG k0 k1 k2
    cases g2
    ·have RB := Lib.hid (show B = false from by have := EE.out; simpa using this.symm)
     go_wp2
     go_ret
     exact ⟨ret_bool RB.out.symm, I3.out⟩
    ·have E2 := Lib.hid (show lineB (l.drop (k + 1)) = B from by have := EE.out; simpa using this)
     go_wp2
     go_roundw
     case rel => exact ⟨k + 1, by go_num, by omega, I3, E2⟩
     case measure => simp [intOf]; omega
  ·obtain rfl : k = n := by omega
   have RB := Lib.hid (show B = true from by
    have h1 := E.out
    rw [List.drop_eq_nil_of_le (by rw [LN.out]; exact Nat.le_refl _)] at h1
    exact h1.symm)
   go_wp2
   go_ret
   exact ⟨ret_bool RB.out.symm, I.out⟩
end Ln
end Go.Proofs.YtgmijnnhanpocaaGreatDoor
namespace Go.Proofs.YtgmijnnhanpocaaGreatDoor
open Go.ChangeShapes Go.WideShapes Go.ChangeAt Go.RowKit
namespace Ln
open Rw
structure Sheet (W : World) (B : Nat) (v : Value) (wv : Nat) (rs : List RowIn) : Prop where
 own : Own W B v rs
 row : ∀ r ∈ rs, r.n = wv ∧ r.l.length = wv ∧ ∃ g, r.A = some ⟨g, 0, none⟩
 apart : (rs.map RowIn.A).Nodup
def put3 (W : World) (g j : Nat) (x : Cel) : World := ((W.setCell ⟨g, j * 3, none⟩ (.int .i32 x.1)).setCell ⟨g, j * 3 + 1, none⟩ (.int .i64 x.2.1)).setCell ⟨g, j * 3 + 2, none⟩ (.int .i64 x.2.2)
theorem put3_other (W : World) (g j : Nat) (x : Cel) {k : Nat} (h : k ≠ g) : (put3 W g j x).heap[k]? = W.heap[k]? :=
 (Below.heap_setCell _ _ _ _ h).trans ((Below.heap_setCell _ _ _ _ h).trans (Below.heap_setCell _ _ _ _ h))
theorem mem_set {α : Type} {l : List α} {k : Nat} {a y : α} (h : y ∈ l.set k a) : y = a ∨ ∃ i, i ≠ k ∧ l[i]? = some y := by
 obtain ⟨i, hi⟩ := List.mem_iff_getElem?.1 h
 rw [List.getElem?_set] at hi
 split at hi
 ·split at hi
  ·cases hi; exact .inl rfl
  ·cases hi
 ·exact .inr ⟨i, fun e => by omega, hi⟩
theorem vals_wrap : ∀ (rs : List RowIn) (k : Nat) (r : RowIn) (b : Bool), rs[k]? = some r → (rs.flatMap RowIn.vals).set (k * 2 + 1) (.bool b) = (rs.set k { r with wrap := b }).flatMap RowIn.vals
 | [], k, r, b, h => by simp at h
 | x :: rs, 0, r, b, h => by
  simp at h
  subst h
  rfl
 | x :: rs, k + 1, r, b, h => by
  have ih := vals_wrap rs k r b (by simpa using h)
  rw [List.set_cons_succ, List.flatMap_cons, List.flatMap_cons, ← ih]
  show (Value.slice x.A x.n x.c :: Value.bool x.wrap :: rs.flatMap RowIn.vals).set ((k + 1) * 2 + 1) _ = Value.slice x.A x.n x.c :: Value.bool x.wrap :: (rs.flatMap RowIn.vals).set (k * 2 + 1) _
  rw [show (k + 1) * 2 + 1 = k * 2 + 1 + 1 + 1 by omega, List.set_cons_succ, List.set_cons_succ]
theorem vals_cells : ∀ (rs : List RowIn) (k : Nat) (r : RowIn) (m : List Cel), rs[k]? = some r → (rs.set k { r with l := m }).flatMap RowIn.vals = rs.flatMap RowIn.vals
 | [], k, r, m, h => by simp at h
 | x :: rs, 0, r, m, h => by
  simp at h
  subst h
  rfl
 | x :: rs, k + 1, r, m, h => by
  rw [List.set_cons_succ, List.flatMap_cons, List.flatMap_cons, vals_cells rs k r m (by simpa using h)]
theorem map_set {β : Type} (f : RowIn → β) {rs : List RowIn} {k : Nat} {r r' : RowIn} (h : rs[k]? = some r) (e : f r' = f r) : (rs.set k r').map f = rs.map f := by
 rw [List.map_set, e]
 refine List.ext_getElem? fun i => ?_
 rw [List.getElem?_set]
 split
 ·subst_vars
  rw [List.getElem?_map, h]
  have := (List.getElem?_eq_some_iff.1 h).1
  simp [this]
 ·rfl
namespace Sheet
variable {W W' : World} {B wv : Nat} {v v' : Value} {rs : List RowIn}
theorem keep (h : Sheet W B v wv rs) (hk : ∀ j, B ≤ j → j < W.heap.size → W'.heap[j]? = W.heap[j]?) : Sheet W' B v wv rs := ⟨h.own.keep hk, h.row, h.apart⟩
theorem laid (h : Sheet W B v wv rs) (hb : Laid W W') : Sheet W' B v wv rs := ⟨h.own.laid hb, h.row, h.apart⟩
theorem keepT (h : Sheet W B v wv rs) (h2 : 2 ≤ wv) (hk : ∀ (j : Nat) (cs : Array Value) (ty : TypeId), W.heap[j]? = some (.cells cs ty (0, 0)) → (ty = 48 ∨ ty = 50 ∧ cs.size ≠ 3) → W'.heap[j]? = W.heap[j]?) : Sheet W' B v wv rs := by
 refine ⟨⟨own_keep h.own.own fun j hj => ?_, fun r hr => ?_⟩, h.row, h.apart⟩
 ·rcases h.own.own.2 with ⟨rfl, _⟩ | ⟨g, cap, cur, rfl, _, hg, _⟩
  ·cases hj
  ·injection hj with hj
   subst hj
   exact hk _ _ _ hg (.inl rfl)
 ·obtain ⟨k1, k2⟩ := h.own.each r hr
  obtain ⟨e1, e2, -⟩ := h.row r hr
  have kk : W.ownsRow B 50 3 (.slice r.A r.n r.c) r.l.length (flat r.l) := k1
  refine ⟨own_keep kk fun j hj => ?_, k2⟩
  rcases kk.2 with ⟨_, h0⟩ | ⟨g, cap, cur, e, _, hg, hc, _, hz, _⟩
  ·omega
  ·rw [e] at hj
   injection hj with hj
   have hj' : g = j := hj
   subst hj'
   exact hk _ _ _ hg (.inr ⟨rfl, by omega⟩)
theorem ne (h : Sheet W B v wv rs) {i k : Nat} {y r : RowIn} (hy : rs[i]? = some y) (hr : rs[k]? = some r) (hik : i ≠ k) : y.A ≠ r.A := by
 intro e
 have hi : i < (rs.map RowIn.A).length := by have := (List.getElem?_eq_some_iff.1 hy).1; simpa using this
 exact hik ((List.getElem?_inj hi h.apart).1 (by rw [List.getElem?_map, List.getElem?_map, hy, hr]; simp [e]))
theorem put (h : Sheet W B v wv rs) {k j g : Nat} {r : RowIn} (hr : rs[k]? = some r) (hg : r.A = some ⟨g, 0, none⟩) (x : Cel) (hx : -2147483648 ≤ x.1 ∧ x.1 ≤ 2147483647) :
  Sheet (put3 W g j x) B v wv (rs.set k { r with l := r.l.set j x }) := by
 obtain ⟨rA, rn, rc, rb, rl⟩ := r
 dsimp only at hg
 subst hg
 obtain ⟨h1, h2, h3⟩ := h.own.each _ (List.mem_of_getElem? hr)
 have hh : W.ownsRow B 50 3 (.slice (some ⟨g, 0, none⟩) rn rc) rl.length (flat rl) := h1
 obtain ⟨hn, hl, -⟩ := h.row _ (List.mem_of_getElem? hr)
 dsimp only at hn hl h2
 have hln : rn = rl.length := by rw [hn, hl]
 subst hln
 refine ⟨⟨?_, fun y hy => ?_⟩, fun y hy => ?_, ?_⟩
 ·rw [List.length_set, vals_cells _ _ _ _ hr]
  exact own_keep h.own.own fun q hq => put3_other _ _ _ _ (fun e => own_ne h.own.own hh (by decide) q hq (by rw [e]; rfl))
 ·rcases mem_set hy with rfl | ⟨i, hi, hy⟩
  ·refine ⟨?_, fun c hc => ?_, h3⟩
   ·show World.ownsRow _ _ _ _ _ (rl.set j x).length (flat (rl.set j x))
    have e1 := (hh.stored (j * 3) (.int .i32 x.1)).1
    have e2 := (e1.stored (j * 3 + 1) (.int .i64 x.2.1)).1
    have e3 := (e2.stored (j * 3 + 2) (.int .i64 x.2.2)).1
    rw [flat_set] at e3
    rw [List.length_set]
    exact e3
   ·rcases List.mem_or_eq_of_mem_set hc with hc | rfl
    ·exact h2 _ hc
    ·exact hx
  ·obtain ⟨k1, k2, k3⟩ := h.own.each _ (List.mem_of_getElem? hy)
   have kk : W.ownsRow B 50 3 (.slice y.A y.n y.c) y.l.length (flat y.l) := k1
   obtain ⟨-, -, gy, ey⟩ := h.row _ (List.mem_of_getElem? hy)
   have hne := h.ne hy hr hi
   refine ⟨own_keep kk fun q hq => put3_other _ _ _ _ (fun e => ?_), k2, k3⟩
   rw [ey] at hq hne
   injection hq with hq
   have hq' : gy = q := hq
   subst hq' e
   exact hne rfl
 ·rcases mem_set hy with rfl | ⟨i, hi, hy⟩
  ·exact ⟨hn, by show (rl.set j x).length = wv; rw [List.length_set]; exact hl, g, rfl⟩
  ·exact h.row _ (List.mem_of_getElem? hy)
 ·refine (congrArg List.Nodup (map_set RowIn.A hr ?_)).mpr h.apart
  rfl
theorem goesOn {g n c k : Nat} (h : Sheet W B (.slice (some ⟨g, 0, none⟩) n c) wv rs) {r : RowIn} (hr : rs[k]? = some r) (b : Bool) : Sheet (W.setCell ⟨g, k * 2 + 1, none⟩ (.bool b)) B (.slice (some ⟨g, 0, none⟩) n c) wv (rs.set k { r with wrap := b }) := by
 obtain ⟨e, _⟩ := h.own.rws
 subst e
 have ho := h.own.own
 have hm : ∀ y ∈ rs.set k { r with wrap := b }, ∃ z ∈ rs, z.A = y.A ∧ z.n = y.n ∧ z.c = y.c ∧ z.l = y.l := fun y hy => by
  rcases List.mem_or_eq_of_mem_set hy with h1 | h1
  ·exact ⟨y, h1, rfl, rfl, rfl, rfl⟩
  ·rw [h1]; exact ⟨r, List.mem_of_getElem? hr, rfl, rfl, rfl, rfl⟩
 refine ⟨⟨?_, fun y hy => ?_⟩, fun y hy => ?_, ?_⟩
 ·rw [List.length_set, ← vals_wrap rs k r b hr]
  exact (ho.stored _ _).1
 ·obtain ⟨z, hz, e1, e2, e3, e4⟩ := hm y hy
  obtain ⟨h1, h2, h3⟩ := h.own.each z hz
  rw [e1, e2, e3, e4] at h1
  rw [e4] at h2
  rw [e3] at h3
  have hh : W.ownsRow B 50 3 (.slice y.A y.n y.c) y.l.length (flat y.l) := h1
  exact ⟨own_keep hh fun j hj => Below.heap_setCell _ _ _ _ (fun e => own_ne ho hh (by decide) g rfl (by rw [hj, e])), h2, h3⟩
 ·obtain ⟨z, hz, e1, e2, e3, e4⟩ := hm y hy
  have := h.row z hz
  rw [e1, e2, e4] at this
  exact this
 ·refine (congrArg List.Nodup (map_set RowIn.A hr ?_)).mpr h.apart
  rfl
theorem snoc {x : RowIn} {B2 : Nat} (h : Sheet W B v wv rs) (hx : HasC W B2 (.slice x.A x.n x.c) x.l) (hb : B ≤ B2) (hnew : ∀ r ∈ rs, ∀ q, r.A = some ⟨q, 0, none⟩ → q < B2) (hs : ∀ c ∈ x.l, -2147483648 ≤ c.1 ∧ c.1 ≤ 2147483647) (hm : x.c ≤ maxLen) (h1 : x.n = wv) (h2 : x.l.length = wv) (hw : ∃ q, x.A = some ⟨q, 0, none⟩)
  (ho : W'.ownsRow B 48 2 v' (rs.length + 1) (rs.flatMap RowIn.vals ++ x.vals)) (hg : W.grownBy W' v.ownBlock) : Sheet W' B v' wv (rs ++ [x]) := by
 refine ⟨h.own.snoc (own_down hx hb) hs hm ho hg, fun r hr => ?_, ?_⟩
 ·rcases List.mem_append.1 hr with hr | hr
  ·exact h.row r hr
  ·rw [List.mem_singleton.1 hr]; exact ⟨h1, h2, hw⟩
 ·rw [List.map_append, List.map_cons, List.map_nil]
  refine List.nodup_append.2 ⟨h.apart, by simp, fun a ha b hb' e => ?_⟩
  obtain ⟨r, hr, rfl⟩ := List.mem_map.1 ha
  rw [List.mem_singleton] at hb'
  obtain ⟨-, -, q, eq⟩ := h.row r hr
  have hq := hnew r hr q eq
  have hh : W.ownsRow B2 50 3 (.slice x.A x.n x.c) x.l.length (flat x.l) := hx
  have := (hh.lt q (by rw [← hb', ← e, eq]; rfl)).1
  omega
end Sheet
end Ln
end Go.Proofs.YtgmijnnhanpocaaGreatDoor
