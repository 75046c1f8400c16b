/-
  line.placeIn within a line: where one of its cells stands; Place for it. line.All: the rows of lines, one behind the other. line.signsAhead: how many signs of a line stand ahead of a place. line.Spot: where a place among rows is in their lines. In plain words: where the cells of a line stand among the rows that it is laid out as, and that Spot finds them there. rotulusref1.EqRows of rows that are the same, wherever they lie. line.Place where there is no such place: the width may not be, or there is no such line, or the columns are below zero.
-/
import Derived.Test.YtgmijnnhanpocaaGreatDoorQNLine6
import Derived.Test.YtgmijnnhanpocaaGreatDoorQNLine1
import Derived.Test.YtgmijnnhanpocaaGreatDoorQNBase4
import Derived.StillTailTactics
namespace Go.Proofs.YtgmijnnhanpocaaGreatDoor
open Go.ChangeShapes Go.WideShapes Go.ChangeAt Go.RowKit
namespace Ln
open Rw
attribute [local go_sem] Oper.semAt_some
def cellPos (wv : Nat) (l : List Cel) (k : Nat) (x : Cel) : Nat × Nat := ((posOut wv (l.take (k + 1))).1.1, (posOut wv (l.take (k + 1))).1.2 - wd x)
theorem pos_took {wv k : Nat} {l : List Cel} {x : Cel} (h : l[k]? = some x) : posOut wv (l.take (k + 1)) = pstep wv (posOut wv (l.take k)) x := by rw [take_one h, posOut_snoc]
theorem cell_pos {wv k : Nat} {l : List Cel} {x : Cel} (h : l[k]? = some x) : wd x ≤ (posOut wv (l.take (k + 1))).1.2 ∧ ∃ q : Nat, (posOut wv l).2[q]? = some (cellPos wv l k x, x) := by
 have e := pos_took (wv := wv) h
 obtain ⟨⟨⟨pr, pc⟩, ys⟩, hp⟩ : ∃ z, posOut wv (l.take k) = z := ⟨_, rfl⟩
 rw [hp] at e
 have gt := fun (q : Nat) (y : Pl) hy => posOut_get (w := wv) h q y hy
 rw [hp] at gt
 unfold cellPos
 rw [e]
 unfold pstep at gt ⊢
 simp only at gt ⊢
 split
 ·rename_i hc
  rw [if_pos hc] at gt
  simp only at gt ⊢
  refine ⟨by omega, ?_⟩
  split at gt
  ·exact ⟨ys.length + 1, gt _ _ (by simp)⟩
  ·exact ⟨ys.length, gt _ _ (by simp)⟩
 ·rename_i hc
  rw [if_neg hc] at gt
  simp only at gt ⊢
  exact ⟨by omega, ys.length, gt _ _ (by simp)⟩
end Ln
end Go.Proofs.YtgmijnnhanpocaaGreatDoor
namespace Go.Proofs.YtgmijnnhanpocaaGreatDoor
open Go.ChangeShapes Go.WideShapes Go.ChangeAt Go.RowKit
namespace Ln
open Rw
theorem Own.app {W W' : World} {B : Nat} {v v2 v' : Value} {rs rs2 : List RowIn} (h : Own W B v rs) (h2 : Own W B v2 rs2) (ho : W'.ownsRow B 48 2 v' (rs.length + rs2.length) (rs.flatMap RowIn.vals ++ rs2.flatMap RowIn.vals)) (hg : W.grownBy W' v.ownBlock) : Own W' B v' (rs ++ rs2) := by
 have keepc : ∀ {y : Value} {m : List Cel}, HasC W B y m → HasC W' B y m := fun {y m} hy => own_keep hy fun j hj => by
  have hh : W.ownsRow B 50 3 y m.length (flat m) := hy
  exact hg.block j (hh.lt j hj).2 (fun e => own_ne hh h.own (by decide) j hj e.symm)
 refine ⟨?_, fun r hr => ?_⟩
 ·rw [List.length_append, List.flatMap_append]
  exact ho
 ·rcases List.mem_append.1 hr with hr | hr
  ·exact ⟨keepc (h.each r hr).1, (h.each r hr).2⟩
  ·exact ⟨keepc (h2.each r hr).1, (h2.each r hr).2⟩
def allL (wv : Nat) (ls : List (List Cel)) : List LR := ls.flatMap (layL wv)
theorem allL_next {wv : Nat} {ls : List (List Cel)} {k : Nat} {l : List Cel} (h : ls[k]? = some l) : allL wv (ls.take (k + 1)) = allL wv (ls.take k) ++ layL wv l := by
 unfold allL
 rw [take_one h, List.flatMap_append]
 simp
theorem allL_len (wv : Nat) : ∀ (ls : List (List Cel)), (allL wv ls).length = highs wv ls
 | [] => rfl
 | l :: ls => by
  have ih := allL_len wv ls
  have e1 : allL wv (l :: ls) = layL wv l ++ allL wv ls := by unfold allL; simp
  have e2 : highs wv (l :: ls) = (layL wv l).length + highs wv ls := by unfold highs; simp
  rw [e1, e2, List.length_append, ih]
set_option maxRecDepth 100000 in
set_option maxHeartbeats 6400000 in
theorem all_walk (A : Option Addr) (n c wv : Nat) (vs : List Value) (ls : List (List Cel)) (w : World) (hs : Spans w) (h : Lrd w w.heap.size A n vs ls) (hn : n ≤ 1000) (hok : LOk ls) (hw2 : 2 ≤ wv) (hw3 : wv ≤ 300) :
  Calls Tryz.prog 11 #[.slice A n c, .int .i64 (wv : Int)] w fun e w' => ∃ v rs, e = .returned v ∧ Own w' w.heap.size v rs ∧ rs.map lr = allL wv ls ∧ Below w.heap.size w w' := by
 obtain ⟨i0, hi0, hz0, hz1, hz2⟩ := info_parts infoRw
 have S := Lib.hid hs
 have LD := Lib.hid h
 have OK := Lib.hid hok
 have HW := Lib.hid (And.intro hw2 hw3)
 have HX := Lib.hid h.len
 have I0 := Lib.hid (Below.refl w.heap.size w)
 have O0 := Lib.hid (And.intro (Own.nothing w w.heap.size) (show ([] : List RowIn).map lr = allL wv (ls.take 0) from rfl))
 clear hs h hok
 go_enter Tryz.func11, Tryz.ntmps11
 go_wp2_with fail
 go_loopw [5, 10] (fun v i wr => ∃ (k : Nat) (rs : List RowIn), i = .int .i64 (k : Int) ∧ k ≤ n ∧ Hid (Below w.heap.size w wr) ∧ Hid (Own wr w.heap.size v rs ∧ rs.map lr = allL wv (ls.take k))) (fun _ i _ => n - (intOf i).toNat)
 case atStart => exact ⟨0, [], rfl, Nat.zero_le _, I0, O0⟩
 case round =>
  obtain ⟨k, rs, rfl, hk, I, O⟩ := hrel
  clear I0 O0
  obtain ⟨A5, c5, hv, hc5⟩ := O.out.1.shape
  subst hv
  by_cases hlt : k < n
  ·obtain ⟨l, hl⟩ : ∃ l, ls[k]? = some l := ⟨_, List.getElem?_eq_getElem (by rw [HX.out]; omega)⟩
   obtain ⟨x, hx⟩ : ∃ x, vs[k]? = some x := ⟨_, List.getElem?_eq_getElem (by have := LD.out.sq.len; omega)⟩
   have R := LD.out.below I.out
   obtain ⟨b, off, rfl, hb, c0⟩ := one_at R.sq hx hlt
   obtain ⟨A1, m, d1, rfl, hd1, q1, m1⟩ := R.each k x l hx hl
   have hm := List.mem_of_getElem? hl
   have LY := Lib.hid (layout_walk A1 m d1 l (wv : Int) wr (S.out.below I.out S.out.size) (OK.out.signs l hm) (q1.up I.out.size) (by omega))
   have LO := Lib.hid (OK.out.ok l hm)
   have NX := Lib.hid (allL_next (wv := wv) hl)
   have HLE := Lib.hid (show rs.length ≤ 10001000 ∧ (layL wv l).length ≤ 10001 from by
    have h1 := highs_le (wv := wv) (ls.take k) fun y hy => OK.out.len y (List.mem_of_mem_take hy)
    rw [List.length_take, ← allL_len, ← O.out.2, List.length_map] at h1
    have h2 := layL_len wv l
    have h3 := OK.out.len l hm
    omega)
   have hk0 : (0 : Int) ≤ (k : Int) := by omega
   have hkn : (k : Int) < (n : Int) := by omega
   clear hl hx R q1 hm hb
   go_wp2_with fail
   refine LY.out.mono ?_
   rintro e w3 ⟨h3, -, b3⟩
   obtain ⟨v3, rs3, rfl, sh3, hm3⟩ := h3 ⟨by have := HW.out; omega, by have := HW.out; omega, LO.out⟩
   rw [show ((wv : Int)).toNat = wv by simp] at sh3 hm3
   obtain ⟨A3, c3, rfl, _⟩ := sh3.own.shape
   have I3 := Lib.hid (I.out.trans (b3.mono I.out.size))
   have O3 := Lib.hid (O.out.1.laid b3)
   have R3 := Lib.hid (sh3.own.down I.out.size)
   have SQ := Lib.hid (Sq.own sh3.own.own)
   have M3 := Lib.hid hm3
   have F1 := Lib.hid (show rs.length + rs3.length ≤ maxLen ∧ (rs.length + rs3.length) * 32 ≤ 140737488355328 from by
    have h1 := HLE.out
    rw [← M3.out, List.length_map] at h1
    unfold maxLen
    omega)
   have MP := Lib.hid (show (rs ++ rs3).map lr = allL wv (ls.take (k + 1)) from by rw [NX.out, List.map_append, O.out.2, M3.out])
   clear h3 sh3 hm3 b3 LY O I HLE NX
   go_wp2_with (at_builtin; refine wpl_app rfl _ _ 22 rfl w.heap.size 48 i0 (.agg #[.slice none 0 0, .bool false]) 2 32 Tryz.underlying22 hi0 hz0 hz1 hz2 rfl (by decide) (.slice A5 rs.length c5) rs.length (rs.flatMap RowIn.vals) rfl O3.out.own A3 rs3.length c3 (rs3.flatMap RowIn.vals) rfl w3.heap.size SQ.out (rvals_one _) F1.out.1 F1.out.2 I3.out.size ?_; intro v4 w4 ho4 hg4 _; (obtain ⟨A4, c4, rfl, _⟩ := own_cap ho4); (have O4 := Lib.hid (O3.out.app R3.out ho4 hg4)); (have I4 := Lib.hid (I3.out.grown hg4 I3.out.size (fun j e => (O3.out.own.lt j e).1))); clear ho4 hg4)
   go_roundw
   case rel => exact ⟨k + 1, rs ++ rs3, by go_num, by omega, I4, Lib.hid ⟨O4.out, MP.out⟩⟩
   case measure => first | (simp [intOf]; done) | (simp [intOf]; omega)
  ·obtain rfl : k = n := by omega
   have FN := Lib.hid (show rs.map lr = allL wv ls from by have h := O.out.2; rw [List.take_of_length_le (by rw [HX.out]; exact Nat.le_refl _)] at h; exact h)
   have hnl : ¬ (k : Int) < (k : Int) := by omega
   go_wp2_with fail
   go_ret
   first | exact ⟨_, rfl, rs, O.out.1, FN.out, I.out⟩ | exact ⟨_, rfl, ⟨rs, O.out.1, FN.out⟩, I.out⟩
set_option maxRecDepth 100000 in
set_option maxHeartbeats 6400000 in
theorem all_none (A : Option Addr) (n c : Nat) (x : Int) (vs : List Value) (ls : List (List Cel)) (w : World) (hs : Spans w) (h : Lrd w w.heap.size A n vs ls) (hn : n ≤ 1000) (hok : LOk ls) (hx : ¬ (2 ≤ x ∧ x ≤ 300)) :
  Calls Tryz.prog 11 #[.slice A n c, .int .i64 x] w fun e w' => ∃ v, e = .returned v ∧ Own w' w.heap.size v [] ∧ Below w.heap.size w w' := by
 obtain ⟨i0, hi0, hz0, hz1, hz2⟩ := info_parts infoRw
 have S := Lib.hid hs
 have LD := Lib.hid h
 have OK := Lib.hid hok
 have HX := Lib.hid h.len
 have NW := Lib.hid hx
 have I0 := Lib.hid (Below.refl w.heap.size w)
 have O0 := Lib.hid (Own.nothing w w.heap.size)
 have F1 := Lib.hid (show 0 + 0 ≤ maxLen ∧ (0 + 0) * 32 ≤ 140737488355328 from by unfold maxLen; omega)
 clear hs h hok hx
 go_enter Tryz.func11, Tryz.ntmps11
 go_wp2_with fail
 go_loopw [5, 10] (fun v i wr => ∃ (k : Nat), i = .int .i64 (k : Int) ∧ k ≤ n ∧ Hid (Below w.heap.size w wr) ∧ Hid (Own wr w.heap.size v [])) (fun _ i _ => n - (intOf i).toNat)
 case atStart => exact ⟨0, rfl, Nat.zero_le _, I0, O0⟩
 case round =>
  obtain ⟨k, rfl, hk, I, O⟩ := hrel
  clear I0 O0
  obtain ⟨A5, c5, hv, hc5⟩ := O.out.shape
  subst hv
  by_cases hlt : k < n
  ·obtain ⟨l, hl⟩ : ∃ l, ls[k]? = some l := ⟨_, List.getElem?_eq_getElem (by rw [HX.out]; omega)⟩
   obtain ⟨y, hy⟩ : ∃ y, vs[k]? = some y := ⟨_, List.getElem?_eq_getElem (by have := LD.out.sq.len; omega)⟩
   have R := LD.out.below I.out
   obtain ⟨b, off, rfl, hb, c0⟩ := one_at R.sq hy hlt
   obtain ⟨A1, m, d1, rfl, hd1, q1, m1⟩ := R.each k y l hy hl
   have hm := List.mem_of_getElem? hl
   have LY := Lib.hid (layout_walk A1 m d1 l x wr (S.out.below I.out S.out.size) (OK.out.signs l hm) (q1.up I.out.size) (by omega))
   have hk0 : (0 : Int) ≤ (k : Int) := by omega
   have hkn : (k : Int) < (n : Int) := by omega
   clear hl hy R q1 hm hb
   go_wp2_with fail
   refine LY.out.mono ?_
   rintro e w3 ⟨-, h3, b3⟩
   obtain rfl := h3 fun h => NW.out ⟨h.1, h.2.1⟩
   have I3 := Lib.hid (I.out.trans (b3.mono I.out.size))
   have O3 := Lib.hid (O.out.laid b3)
   clear h3 b3 LY O I
   go_wp2_with (at_builtin; refine wpl_app rfl _ _ 22 rfl w.heap.size 48 i0 (.agg #[.slice none 0 0, .bool false]) 2 32 Tryz.underlying22 hi0 hz0 hz1 hz2 rfl (by decide) (.slice A5 0 c5) 0 [] rfl O3.out.own none 0 0 [] rfl w3.heap.size ⟨rfl, fun h => absurd h (by decide)⟩ (by intro u hu; cases hu) F1.out.1 F1.out.2 I3.out.size ?_; intro v4 w4 ho4 hg4 _; (obtain ⟨A4, c4, rfl, _⟩ := own_cap ho4); (have O4 := Lib.hid (Own.app O3.out (Own.nothing w3 w.heap.size) ho4 hg4)); (have I4 := Lib.hid (I3.out.grown hg4 I3.out.size (fun j e => (O3.out.own.lt j e).1))); clear ho4 hg4)
   go_roundw
   case rel => exact ⟨k + 1, by go_num, by omega, I4, O4⟩
   case measure => first | (simp [intOf]; done) | (simp [intOf]; omega)
  ·obtain rfl : k = n := by omega
   have hnl : ¬ (k : Int) < (k : Int) := by omega
   go_wp2_with fail
   go_ret
   exact ⟨_, rfl, O.out, I.out⟩
end Ln
end Go.Proofs.YtgmijnnhanpocaaGreatDoor
namespace Go.Proofs.YtgmijnnhanpocaaGreatDoor
open Go.ChangeShapes Go.WideShapes Go.ChangeAt Go.RowKit
namespace Ln
open Rw
attribute [local go_sem] Oper.semAt_some
def stops (pr : Nat) (pc : Int) (y : Pl) : Bool := y.1.1 == pr && decide (pc < (y.1.2 : Int) + y.2.2.1)
def aheadN (pr : Nat) (pc : Int) : List Pl → Nat
 | [] => 0
 | y :: L => if stops pr pc y then 0 else aheadN pr pc L + 1
theorem ahead_at {pr : Nat} {pc : Int} : ∀ {L : List Pl} {k : Nat} {y : Pl}, (∀ z ∈ L.take k, stops pr pc z = false) → L[k]? = some y → stops pr pc y = true → aheadN pr pc L = k
 | [], k, y, _, hy, _ => by simp at hy
 | x :: L, 0, y, _, hy, hs => by
  simp at hy
  subst hy
  rw [aheadN, if_pos hs]
 | x :: L, k + 1, y, h, hy, hs => by
  have hx : stops pr pc x = false := h x (by simp)
  rw [aheadN, hx, ahead_at (L := L) (k := k) (y := y) (fun z hz => h z (by simp [hz])) (by simpa using hy) hs]
  simp
theorem ahead_all {pr : Nat} {pc : Int} : ∀ {L : List Pl}, (∀ z ∈ L, stops pr pc z = false) → aheadN pr pc L = L.length
 | [], _ => rfl
 | x :: L, h => by
  rw [aheadN, h x (by simp), ahead_all (L := L) (fun z hz => h z (by simp [hz]))]
  simp
theorem from_fit {i : Nat} : ∀ {l : List Cel} {col : Nat} {y : Pl}, y ∈ signsFrom i col l → y.1.1 = i ∧ col ≤ y.1.2 ∧ y.1.2 < col + l.length ∧ y.2 ∈ l ∧ signC y.2 = true
 | [], _, y, h => by cases h
 | c :: l, col, y, h => by
  rw [signsFrom] at h
  rcases List.mem_append.1 h with h | h
  ·split at h
   ·rename_i hc
    simp at h
    subst h
    exact ⟨rfl, Nat.le_refl _, by simp, by simp, hc⟩
   ·cases h
  ·obtain ⟨h1, h2, h3, h4, h5⟩ := from_fit h
   refine ⟨h1, by omega, by rw [List.length_cons]; omega, by simp [h4], h5⟩
theorem sign_wide {c : Cel} (h : signC c = true) (hm : mayB c = true) : W12 c := by
 obtain ⟨r, m, a⟩ := c
 have h1 := mayB_wide hm
 unfold signC at h
 simp only [Bool.and_eq_true] at h
 unfold W12
 simp only
 rcases h1 with h1 | h1 | h1
 ·subst h1; exact absurd h.1 (by decide)
 ·exact .inl h1
 ·exact .inr h1
theorem signs_fit {y : Pl} : ∀ {rs : List LR} {i : Nat}, y ∈ signsAll i rs → W12 y.2 ∧ y.1.2 ≤ 300 ∧ i ≤ y.1.1 ∧ y.1.1 < i + rs.length
 | [], _, h => by cases h
 | r :: rs, i, h => by
  rw [signsAll] at h
  rcases List.mem_append.1 h with h | h
  ·unfold signsRow at h
   split at h
   ·rename_i hm
    obtain ⟨h1, h2, h3, h4, h5⟩ := from_fit h
    have hl : r.2.length ≤ 300 := by unfold mayL at hm; simp only [Bool.and_eq_true, decide_eq_true_eq] at hm; exact hm.1
    exact ⟨sign_wide h5 (mayL_cell hm _ h4), by omega, by omega, by rw [List.length_cons]; omega⟩
   ·cases h
  ·obtain ⟨h1, h2, h3, h4⟩ := signs_fit h
   exact ⟨h1, h2, by omega, by rw [List.length_cons]; omega⟩
def NoStop (pr : Nat) (pc : Int) (L : List Pl) (k : Nat) : Prop := ∀ z ∈ L.take k, stops pr pc z = false
structure AhI (w : World) (S pr : Nat) (pc : Int) (k : Nat) (W : World) : Prop where
 old : Below w.heap.size w W
 p : W.heap[S]? = some (.cells #[.int .i64 (pr : Int), .int .i64 pc] 25 (0, 0))
 cnt : W.heap[S + 1]? = some (.cells #[.int .i64 (k : Int)] 3 (0, 0))
 low : w.heap.size ≤ S
namespace AhI
variable {w W W' : World} {S pr k : Nat} {pc : Int}
theorem laid (h : AhI w S pr pc k W) (hb : Laid W W') : AhI w S pr pc k W' :=
 ⟨h.old.trans (hb.mono h.old.size), (hb.block S (Array.getElem?_eq_some_iff.1 h.p).1).trans h.p, (hb.block (S + 1) (Array.getElem?_eq_some_iff.1 h.cnt).1).trans h.cnt, h.low⟩
theorem put (h : AhI w S pr pc k W) {j : Nat} (o' : Obj) (hS : w.heap.size ≤ S) (hj : S + 1 < j) : AhI w S pr pc k (W.putObj j o') :=
 ⟨h.old.trans ⟨rfl, rfl, rfl, by simp [World.putObj], fun q hq => World.putObj_heap_other (by omega)⟩, (World.putObj_heap_other (by omega)).trans h.p, (World.putObj_heap_other (by omega)).trans h.cnt, h.low⟩
end AhI
theorem aheadN_step {w W : World} {S pr k P1 B : Nat} {pc : Int} {L : List Pl} (h : AhI w S pr pc k W) (hz : W.heap.size = P1 + 2) (hS : S + 3 ≤ P1) (hn : NoStop pr pc L (k + 1)) :
  KeepsFrom B W (W.setCell ⟨S + 1, 0, none⟩ (.int .i64 ((k + 1 : Nat) : Int))) ∧ Leaves S (S + 2) W (W.setCell ⟨S + 1, 0, none⟩ (.int .i64 ((k + 1 : Nat) : Int))) ∧ Hid (AhI w S pr pc (k + 1) (W.setCell ⟨S + 1, 0, none⟩ (.int .i64 ((k + 1 : Nat) : Int))) ∧ S + 3 ≤ (W.setCell ⟨S + 1, 0, none⟩ (.int .i64 ((k + 1 : Nat) : Int))).heap.size ∧ NoStop pr pc L (k + 1)) := by
 have hsz : (W.setCell ⟨S + 1, 0, none⟩ (.int .i64 ((k + 1 : Nat) : Int))).heap.size = W.heap.size := by simp
 have oth : ∀ j, j ≠ S + 1 → (W.setCell ⟨S + 1, 0, none⟩ (.int .i64 ((k + 1 : Nat) : Int))).heap[j]? = W.heap[j]? := fun j hj => Below.heap_setCell _ _ _ _ hj
 have same := heap_setCell_same W (S + 1) 0 _ _ (.int .i64 ((k + 1 : Nat) : Int)) h.cnt
 refine ⟨(KeepsOthers.setCell _ _ _).from _, ⟨by rw [hsz]; exact Nat.le_refl _, fun j hj => oth j (by rcases hj with hj | rfl <;> omega)⟩, Lib.hid ⟨⟨?_, (oth S (by omega)).trans h.p, by simpa using same, h.low⟩, by rw [hsz]; omega, hn⟩⟩
 exact h.old.setCell (p := ⟨S + 1, 0, none⟩) (by show w.heap.size ≤ S + 1; have := h.low; omega) _
set_option maxRecDepth 100000 in
set_option maxHeartbeats 6400000 in
theorem ahead_walk (A : Option Addr) (n c : Nat) (rs : List RowIn) (pr : Nat) (pc : Int) (w : World) (hs : Spans w) (hr : Rws w w.heap.size A n rs) (hc : n ≤ c) (hn : n ≤ 1000000) (hp : pr < n) :
  Calls Tryz.prog 44 #[.slice A n c, .agg #[.int .i64 (pr : Int), .int .i64 pc]] w fun e w' => e = .returned (.int .i64 (aheadN pr pc (signsAll 0 ((rs.take (pr + 1)).map lr)) : Int)) ∧ Below w.heap.size w w' := by
 obtain ⟨S, hS⟩ : ∃ S, w.heap.size = S := ⟨_, rfl⟩
 obtain ⟨L, hL⟩ : ∃ L, signsAll 0 ((rs.take (pr + 1)).map lr) = L := ⟨_, rfl⟩
 have hLn : L.length ≤ 300000000 := by
  have h1 := signsAll_le ((rs.take (pr + 1)).map lr) 0
  rw [hL, List.length_map, List.length_take] at h1
  omega
 have LF := Lib.hid (show ∀ y ∈ L, W12 y.2 ∧ y.1.2 ≤ 300 ∧ y.1.1 ≤ 1000000 from fun y hy => by
  rw [← hL] at hy
  obtain ⟨h1, h2, _, h3⟩ := signs_fit hy
  rw [List.length_map, List.length_take] at h3
  exact ⟨h1, h2, by omega⟩)
 have hsp : 0 < S := by rw [← hS]; exact hs.size
 obtain ⟨w1, hw1⟩ : ∃ w1, (w.alloc (.cells #[.int .i64 (pr : Int), .int .i64 pc] 25)).alloc (.cells #[.int .i64 0] 3) = w1 := ⟨_, rfl⟩
 have b1 : Below w.heap.size w w1 := by rw [← hw1]; exact ((Below.refl _ _).alloc (Nat.le_refl _) _).alloc (by simp) _
 have z1 : w1.heap.size = S + 2 := by rw [← hw1, ← hS]; simp
 obtain ⟨w2, hw2⟩ : ∃ w2, w1.alloc (.cells #[.slice A (pr + 1) c] 22) = w2 := ⟨_, rfl⟩
 have b2 : Laid w1 w2 := by rw [← hw2]; exact (Below.refl _ _).alloc (Nat.le_refl _) _
 have z2 : w2.heap.size = S + 3 := by rw [← hw2]; simp [z1]
 have x0 : w1.heap[S]? = some (.cells #[.int .i64 (pr : Int), .int .i64 pc] 25 (0, 0)) := by rw [← hw1, ← hS]; exact (Below.heap_alloc _ _ _ (by simp)).trans (heap_alloc_new w _)
 have x1 : w1.heap[S + 1]? = some (.cells #[.int .i64 ((0 : Nat) : Int)] 3 (0, 0)) := by
  rw [← hw1, ← hS]
  have := heap_alloc_new (w.alloc (.cells #[.int .i64 (pr : Int), .int .i64 pc] 25)) (.cells #[.int .i64 0] 3)
  rwa [World.size_alloc] at this
 have h0 : AhI w S pr pc 0 w2 := ⟨b1.trans (b2.mono b1.size), (b2.block S (by omega)).trans x0, (b2.block (S + 1) (by omega)).trans x1, by omega⟩
 have hps : PSrc S (S + 2) A (pr + 1) c (rs.take (pr + 1)) w2 := by
  refine ⟨hs.below h0.old hs.size, hsp, ?_, ?_, by omega⟩
  ·rw [← hw2, ← z1]
   exact heap_alloc_new w1 _
  ·have := (hr.take hp).below h0.old
   rw [hS] at this
   exact this
 have TL := Lib.hid (signs_tells (Kp := Leaves S (S + 2)) hps (fun _ _ h => h) (by omega))
 rw [hL] at TL
 have SW := Lib.hid (signs_walk A (pr + 1) c w1)
 rw [hw2, z1] at SW
 have H0 := Lib.hid h0
 have HW := Lib.hid hw1
 have HS := Lib.hid hS
 have Z2 := Lib.hid z2
 have HL := Lib.hid hLn
 have c0 := cell_of_row _ _ 0 _ _ (0, 0) x0
 obtain ⟨AN, hAN⟩ : ∃ AN, aheadN pr pc L = AN := ⟨_, rfl⟩
 rw [hL, hAN]
 have HAN := Lib.hid hAN
 have hpc1 : pr + 1 ≤ c := by omega
 clear hr hs hps h0 b1 b2 hw1 hw2 z1 z2 hL hsp hLn x0 x1 hAN
 refine (callsIn_wide (n := 3)).1 (callsIn_of_wp_marks Tryz.func44 rfl trivial ?_ rfl)
 simp only [Tryz.ntmps44, List.size_toArray, List.length_cons, List.length_nil, Nat.reduceAdd, Nat.reduceSub, Array.replicate_succ, Array.replicate_zero, List.push_toArray, List.append_toArray, List.nil_append, List.cons_append]
 refine wpIn_wide.2 ?_
 go_wp2_with fail
 rw [HW.out]
 refine SW.out.mono ?_
 rintro e w' ⟨rfl, rfl⟩
 clear SW c0
 go_wp2_with fail
 refine wp_over (Fit := FitS L) (Kp := Leaves S (S + 2)) (N := L.length) (gf := 113) (lb := #[.pointer (some ⟨S + 2, 0, none⟩)]) rfl (enters_of Tryz.func113 (by kernel_rfl) rfl) TL.out Leaves.trans
  (fun A B hA h => Leaves.laid h (by have := Z2.out; omega) (by have := Z2.out; omega)) (fun W l o o' hl ho hc => Leaves.put (by have := Z2.out; omega) (by have := Z2.out; omega) o') (fun k x W h => by obtain ⟨y, _, rfl⟩ := h; rfl)
  (fun k W => Hid (AhI w S pr pc k W ∧ S + 3 ≤ W.heap.size ∧ NoStop pr pc L k)) (fun cx k W => cx = .exit 0 ∧ Hid (AhI w S pr pc AN W ∧ S + 3 ≤ W.heap.size))
  (fun k A B h hb => Lib.hid ⟨h.out.1.laid hb, Nat.le_trans h.out.2.1 hb.size, h.out.2.2⟩) (fun k W l o o' hl ho hc h => Lib.hid ⟨h.out.1.put o' (by have := HS.out; omega) (by have := Z2.out; omega), by rw [World.putObj_size]; exact h.out.2.1, h.out.2.2⟩)
  (fun cx k A B h hb => ⟨h.1, Lib.hid ⟨h.2.out.1.laid hb, Nat.le_trans h.2.out.2 hb.size⟩⟩) (fun cx k W l o o' hl ho hc h => ⟨h.1, Lib.hid ⟨h.2.out.1.put o' (by have := HS.out; omega) (by have := Z2.out; omega), by rw [World.putObj_size]; exact h.2.out.2⟩⟩)
  (Lib.hid ⟨H0.out, by have := Z2.out; omega, fun z hz => by simp at hz⟩) ?round ?done ?stop
 case round =>
  rintro l2 k2 x W hk2 hl2 ⟨o, ho, hoc⟩ hi ⟨⟨⟨qr, qc⟩, r, m, a⟩, hy, rfl⟩
  have bb : Laid W ((W.alloc (.cells #[.int .i64 (qr : Int), .int .i64 (qc : Int)] 25)).alloc (.cells #[.int .i32 r, .int .i64 m, .int .i64 a] 50)) := ((Below.refl _ _).alloc (Nat.le_refl _) _).alloc (by simp) _
  simp only
  gi_wp2
  refine ⟨bb, fun o1 => ?_⟩
  have hlt2 : l2 < W.heap.size := (Array.getElem?_eq_some_iff.1 ho).1
  obtain ⟨hi1, hi3, hi4⟩ := hi.out
  have zz : ((W.alloc (.cells #[.int .i64 (qr : Int), .int .i64 (qc : Int)] 25)).alloc (.cells #[.int .i32 r, .int .i64 m, .int .i64 a] 50)).heap.size = W.heap.size + 2 := by simp
  have q1 : ((W.alloc (.cells #[.int .i64 (qr : Int), .int .i64 (qc : Int)] 25)).alloc (.cells #[.int .i32 r, .int .i64 m, .int .i64 a] 50)).heap[W.heap.size]? = some (.cells #[.int .i64 (qr : Int), .int .i64 (qc : Int)] 25 (0, 0)) := (Below.heap_alloc _ _ _ (by simp)).trans (heap_alloc_new W _)
  have q2 : ((W.alloc (.cells #[.int .i64 (qr : Int), .int .i64 (qc : Int)] 25)).alloc (.cells #[.int .i32 r, .int .i64 m, .int .i64 a] 50)).heap[W.heap.size + 1]? = some (.cells #[.int .i32 r, .int .i64 m, .int .i64 a] 50 (0, 0)) := by
   have := heap_alloc_new (W.alloc (.cells #[.int .i64 (qr : Int), .int .i64 (qc : Int)] 25)) (.cells #[.int .i32 r, .int .i64 m, .int .i64 a] 50)
   rwa [World.size_alloc] at this
  have H2 := Lib.hid ((hi1.laid bb).put (j := l2) o1 (by have := HS.out; omega) (by have := Z2.out; omega))
  have PBx := Lib.hid ((World.putObj_heap_other (o := o1) (show W.heap.size ≠ l2 by omega)).trans q1)
  have CBx := Lib.hid ((World.putObj_heap_other (o := o1) (show W.heap.size + 1 ≠ l2 by omega)).trans q2)
  generalize hP1 : W.heap.size = P1 at PBx CBx hi3 zz hlt2 ⊢
  have Z3 := Lib.hid (show (((W.alloc (.cells #[.int .i64 (qr : Int), .int .i64 (qc : Int)] 25)).alloc (.cells #[.int .i32 r, .int .i64 m, .int .i64 a] 50)).putObj l2 o1).heap.size = P1 + 2 ∧ S + 3 ≤ P1 from ⟨by simpa [World.putObj] using zz, hi3⟩)
  clear q1 q2 zz bb ho hi hi1 hi3 hlt2
  generalize ((W.alloc (.cells #[.int .i64 (qr : Int), .int .i64 (qc : Int)] 25)).alloc (.cells #[.int .i32 r, .int .i64 m, .int .i64 a] 50)).putObj l2 o1 = V2 at H2 PBx CBx Z3 ⊢
  clear hP1
  obtain ⟨f1, f2, f3⟩ := LF.out _ (List.mem_of_getElem? hy)
  have f1' : m = 1 ∨ m = 2 := f1
  have f2' : qc ≤ 300 := f2
  have hsum : IntKind.i64.wrap ((qc : Int) + m) = (qc : Int) + m := IntWalk.i64_in _ (by omega)
  have NXT := Lib.hid (show ∀ bb : Bool, stops pr pc ((qr, qc), r, m, a) = bb → bb = false → NoStop pr pc L (k2 + 1) from fun bb e1 e2 z hz => by
   rw [take_one hy] at hz
   rcases List.mem_append.1 hz with h | h
   ·exact hi4 z h
   ·simp at h; subst h; exact e1.trans e2)
  have STP := Lib.hid (show stops pr pc ((qr, qc), r, m, a) = true → k2 = AN from fun e => by rw [← HAN.out]; exact (ahead_at hi4 hy e).symm)
  have k0 : V2.cell? ⟨P1, 0, none⟩ = some (.int .i64 (qr : Int)) := cell_of_row _ _ 0 _ _ (0, 0) PBx.out
  have k1 : V2.cell? ⟨P1, 1, none⟩ = some (.int .i64 (qc : Int)) := cell_of_row _ _ 1 _ _ (0, 0) PBx.out
  have d1 : V2.cell? ⟨P1 + 1, 1, none⟩ = some (.int .i64 m) := cell_of_row _ _ 1 _ _ (0, 0) CBx.out
  have t0 : V2.cell? ⟨S, 0, none⟩ = some (.int .i64 (pr : Int)) := cell_of_row _ _ 0 _ _ (0, 0) H2.out.p
  have t1 : V2.cell? ⟨S, 1, none⟩ = some (.int .i64 pc) := cell_of_row _ _ 1 _ _ (0, 0) H2.out.p
  have n0 : V2.cell? ⟨S + 1, 0, none⟩ = some (.int .i64 (k2 : Int)) := cell_of_row _ _ 0 _ _ (0, 0) H2.out.cnt
  have nf := frozen_of_row V2 (S + 1) 0 _ _ H2.out.cnt
  have hk : IntKind.i64.wrap ((k2 : Int) + 1) = ((k2 + 1 : Nat) : Int) := by rw [show (k2 : Int) + 1 = ((k2 + 1 : Nat) : Int) by omega]; exact IntWalk.i64_in _ (by have := HL.out; omega)
  clear hy f1 f2 f3 hi4
  by_cases h1 : (qr : Int) = (pr : Int)
  ·have h1b : ((qr : Int) == (pr : Int)) = true := by simp [h1]
   by_cases h2 : pc < (qc : Int) + m
   ·have E := STP.out (by unfold stops; simp only; rw [show qr = pr by omega]; simp [h2])
    subst E
    gi_wp2_with fail
    exact ⟨keeps_laid (Below.refl _ _), rfl, Lib.hid ⟨H2.out, by have := Z3.out; omega⟩⟩
   ·have NX := Lib.hid (NXT.out _ rfl (by unfold stops; simp [h2]))
    gi_wp2_with fail
    exact aheadN_step H2.out Z3.out.1 Z3.out.2 NX.out
  ·have h1b : ((qr : Int) == (pr : Int)) = false := by simp; omega
   have NX := Lib.hid (NXT.out _ rfl (by unfold stops; simp only; rw [show (qr == pr) = false by simp; omega]; rfl))
   gi_wp2_with fail
   exact aheadN_step H2.out Z3.out.1 Z3.out.2 NX.out
 case done =>
  rintro D W hD hi hdef
  have HI := Lib.hid hi.out.1
  have FN := Lib.hid (show L.length = AN from by
   rw [← HAN.out]
   refine (ahead_all fun z hz => hi.out.2.2 z ?_).symm
   rw [List.take_length]
   exact hz)
  have DF := Lib.hid hdef
  have n0 : W.cell? ⟨S + 1, 0, none⟩ = some (.int .i64 (L.length : Int)) := cell_of_row _ _ 0 _ _ (0, 0) hi.out.1.cnt
  clear hi hdef TL H0
  rw [FN.out] at n0
  go_wp2_with fail
  refine ⟨by simp, .inl ⟨_, _, rfl, run_takeDeferred DF.out, ?_⟩⟩
  refine ⟨.int .i64 (AN : Int), ?_, rfl, ?_⟩
  ·simp [results, go_sem]
  ·exact HI.out.old.trans ⟨rfl, rfl, rfl, by simp [World.putObj], fun k hk => World.putObj_heap_other (by have := HS.out; have := Z2.out; omega)⟩
 case stop =>
  rintro D k3 cx W hD hk3 ⟨rfl, hi⟩ hdef
  have HI := Lib.hid hi.out.1
  have DF := Lib.hid hdef
  have n0 : W.cell? ⟨S + 1, 0, none⟩ = some (.int .i64 (AN : Int)) := cell_of_row _ _ 0 _ _ (0, 0) hi.out.1.cnt
  clear hi hdef TL H0
  go_wp2_with fail
  refine ⟨by simp, .inl ⟨_, _, rfl, run_takeDeferred DF.out, ?_⟩⟩
  refine ⟨.int .i64 (AN : Int), ?_, rfl, ?_⟩
  ·simp [results, go_sem]
  ·exact HI.out.old.trans ⟨rfl, rfl, rfl, by simp [World.putObj], fun k hk => World.putObj_heap_other (by have := HS.out; have := Z2.out; omega)⟩
end Ln
end Go.Proofs.YtgmijnnhanpocaaGreatDoor
namespace Go.Proofs.YtgmijnnhanpocaaGreatDoor
open Go.ChangeShapes Go.WideShapes Go.ChangeAt Go.RowKit
namespace Ln
open Rw
attribute [local go_sem] Oper.semAt_some
def spotN (pc : Int) : Nat → Nat → List (List LR) → Nat × Nat × Nat
 | _, _, [] => (0, 0, 0)
 | pr, k, part :: ps => if pr < part.length then (k, min (aheadN pr pc (signsAll 0 (part.take (pr + 1)))) (joined part).length, aheadN pr pc (signsAll 0 (part.take (pr + 1))) - (joined part).length) else spotN pc (pr - part.length) (k + 1) ps
def spotV (s : Nat × Nat × Nat) : Value := .agg #[.int .i64 (s.1 : Int), .int .i64 (s.2.1 : Int), .int .i64 (s.2.2 : Int)]
theorem aheadN_le (pr : Nat) (pc : Int) : ∀ L : List Pl, aheadN pr pc L ≤ L.length
 | [] => Nat.le_refl _
 | y :: L => by
  have := aheadN_le pr pc L
  rw [aheadN, List.length_cons]
  split <;> omega
theorem trimL_le (l : List Cel) : (trimL l).length ≤ l.length := by
 unfold trimL
 rw [List.length_take]
 omega
theorem spot_next {pc : Int} {pr k : Nat} {P : List (List LR)} {part : List LR} (h : P[k]? = some part) :
  spotN pc pr k (P.drop k) = if pr < part.length then (k, min (aheadN pr pc (signsAll 0 (part.take (pr + 1)))) (joined part).length, aheadN pr pc (signsAll 0 (part.take (pr + 1))) - (joined part).length) else spotN pc (pr - part.length) (k + 1) (P.drop (k + 1)) := by
 have hk := (List.getElem?_eq_some_iff.1 h).1
 rw [List.drop_eq_getElem_cons hk, (List.getElem?_eq_some_iff.1 h).2, spotN]
structure SpI (w : World) (S q : Nat) (pc : Int) (s : Nat × Nat × Nat) (W : World) : Prop where
 old : Below w.heap.size w W
 p : W.heap[S]? = some (.cells #[.int .i64 (q : Int), .int .i64 pc] 25 (0, 0))
 res : W.heap[S + 1]? = some (.cells #[.int .i64 (s.1 : Int), .int .i64 (s.2.1 : Int), .int .i64 (s.2.2 : Int)] 27 (0, 0))
 low : w.heap.size ≤ S
namespace SpI
variable {w W W' : World} {S q : Nat} {pc : Int} {s : Nat × Nat × Nat}
theorem laid (h : SpI w S q pc s W) (hb : Laid W W') : SpI w S q pc s W' :=
 ⟨h.old.trans (hb.mono h.old.size), (hb.block S (Array.getElem?_eq_some_iff.1 h.p).1).trans h.p, (hb.block (S + 1) (Array.getElem?_eq_some_iff.1 h.res).1).trans h.res, h.low⟩
theorem put (h : SpI w S q pc s W) {j : Nat} (o' : Obj) (hj : S + 1 < j) : SpI w S q pc s (W.putObj j o') :=
 ⟨h.old.trans ⟨rfl, rfl, rfl, by simp [World.putObj], fun k hk => World.putObj_heap_other (by have := h.low; omega)⟩, (World.putObj_heap_other (by omega)).trans h.p, (World.putObj_heap_other (by omega)).trans h.res, h.low⟩
theorem set3 (h : SpI w S q pc s W) (k m1 m2 : Nat) : SpI w S q pc (k, m1, m2) (((W.setCell ⟨S + 1, 0, none⟩ (.int .i64 (k : Int))).setCell ⟨S + 1, 1, none⟩ (.int .i64 (m1 : Int))).setCell ⟨S + 1, 2, none⟩ (.int .i64 (m2 : Int))) := by
 have hl := h.low
 have s1 := heap_setCell_same W (S + 1) 0 _ _ (.int .i64 (k : Int)) h.res
 have s2 := heap_setCell_same _ (S + 1) 1 _ _ (.int .i64 (m1 : Int)) s1
 have s3 := heap_setCell_same _ (S + 1) 2 _ _ (.int .i64 (m2 : Int)) s2
 refine ⟨((h.old.setCell (p := ⟨S + 1, 0, none⟩) (by show w.heap.size ≤ S + 1; omega) _).setCell (p := ⟨S + 1, 1, none⟩) (by show w.heap.size ≤ S + 1; omega) _).setCell (p := ⟨S + 1, 2, none⟩) (by show w.heap.size ≤ S + 1; omega) _, ?_, by simpa using s3, hl⟩
 exact (Below.heap_setCell _ _ _ _ (by show S ≠ S + 1; omega)).trans ((Below.heap_setCell _ _ _ _ (by show S ≠ S + 1; omega)).trans ((Below.heap_setCell _ _ _ _ (by show S ≠ S + 1; omega)).trans h.p))
theorem set1 (h : SpI w S q pc s W) (q2 : Nat) : SpI w S q2 pc s (W.setCell ⟨S, 0, none⟩ (.int .i64 (q2 : Int))) := by
 have s1 := heap_setCell_same W S 0 _ _ (.int .i64 (q2 : Int)) h.p
 exact ⟨h.old.setCell (p := ⟨S, 0, none⟩) h.low _, by simpa using s1, (Below.heap_setCell _ _ _ _ (by show S + 1 ≠ S; omega)).trans h.res, h.low⟩
theorem cells (h : SpI w S q pc s W) {D : Nat} (hD : S + 1 < D) (o : Obj) : (W.putObj D o).cell? ⟨S + 1, 0, none⟩ = some (.int .i64 (s.1 : Int)) ∧ (W.putObj D o).cell? ⟨S + 1, 1, none⟩ = some (.int .i64 (s.2.1 : Int)) ∧ (W.putObj D o).cell? ⟨S + 1, 2, none⟩ = some (.int .i64 (s.2.2 : Int)) := by
 have h1 := (World.putObj_heap_other (o := o) (show S + 1 ≠ D by omega)).trans h.res
 exact ⟨cell_of_row _ _ 0 _ _ (0, 0) h1, cell_of_row _ _ 1 _ _ (0, 0) h1, cell_of_row _ _ 2 _ _ (0, 0) h1⟩
end SpI
def SpG (w : World) (S pr : Nat) (pc : Int) (A : Option Addr) (n c : Nat) (rs : List RowIn) (P : List (List LR)) (s : Nat × Nat × Nat) (k : Nat) (W : World) : Prop := ∃ q : Nat, SpI w S q pc (0, 0, 0) W ∧ PSrc S (S + 2) A n c rs W ∧ q ≤ pr ∧ spotN pc q k (P.drop k) = s
def SpX (w : World) (S : Nat) (pc : Int) (s : Nat × Nat × Nat) (W : World) : Prop := ∃ q : Nat, SpI w S q pc s W ∧ S + 3 ≤ W.heap.size
set_option maxRecDepth 100000 in
set_option maxHeartbeats 6400000 in
theorem spot_walk (A : Option Addr) (n c : Nat) (rs : List RowIn) (pr : Nat) (pc : Int) (w : World) (hs : Spans w) (hr : Rws w w.heap.size A n rs) (hc : n ≤ c) (hn : n ≤ 1000000) (hpr : pr ≤ 9223372036854775807) :
  Calls Tryz.prog 17 #[.slice A n c, .agg #[.int .i64 (pr : Int), .int .i64 pc]] w fun e w' => e = .returned (spotV (spotN pc pr 0 (parts (rs.map lr)))) ∧ Below w.heap.size w w' := by
 obtain ⟨S, hS⟩ : ∃ S, w.heap.size = S := ⟨_, rfl⟩
 obtain ⟨P, hP⟩ : ∃ P, parts (rs.map lr) = P := ⟨_, rfl⟩
 obtain ⟨N, hN⟩ : ∃ N, P.length = N := ⟨_, rfl⟩
 have hNn : N ≤ 1000000 := by
  have h1 := parts_length_le (rs.map lr)
  rw [hP, hN, List.length_map, hr.len] at h1
  omega
 have hsp : 0 < S := by rw [← hS]; exact hs.size
 obtain ⟨w1, hw1⟩ : ∃ w1, (w.alloc (.cells #[.int .i64 (pr : Int), .int .i64 pc] 25)).alloc (.cells #[.int .i64 0, .int .i64 0, .int .i64 0] 27) = w1 := ⟨_, rfl⟩
 have b1 : Below w.heap.size w w1 := by rw [← hw1]; exact ((Below.refl _ _).alloc (Nat.le_refl _) _).alloc (by simp) _
 have z1 : w1.heap.size = S + 2 := by rw [← hw1, ← hS]; simp
 obtain ⟨w2, hw2⟩ : ∃ w2, w1.alloc (.cells #[.slice A n c] 22) = w2 := ⟨_, rfl⟩
 have b2 : Laid w1 w2 := by rw [← hw2]; exact (Below.refl _ _).alloc (Nat.le_refl _) _
 have z2 : w2.heap.size = S + 3 := by rw [← hw2]; simp [z1]
 have x0 : w1.heap[S]? = some (.cells #[.int .i64 (pr : Int), .int .i64 pc] 25 (0, 0)) := by rw [← hw1, ← hS]; exact (Below.heap_alloc _ _ _ (by simp)).trans (heap_alloc_new w _)
 have x1 : w1.heap[S + 1]? = some (.cells #[.int .i64 ((0 : Nat) : Int), .int .i64 ((0 : Nat) : Int), .int .i64 ((0 : Nat) : Int)] 27 (0, 0)) := by
  rw [← hw1, ← hS]
  have := heap_alloc_new (w.alloc (.cells #[.int .i64 (pr : Int), .int .i64 pc] 25)) (.cells #[.int .i64 0, .int .i64 0, .int .i64 0] 27)
  rwa [World.size_alloc] at this
 have h0 : SpI w S pr pc (0, 0, 0) w2 := ⟨b1.trans (b2.mono b1.size), (b2.block S (by omega)).trans x0, (b2.block (S + 1) (by omega)).trans x1, by omega⟩
 have hps : PSrc S (S + 2) A n c rs w2 := by
  refine ⟨hs.below h0.old hs.size, hsp, ?_, ?_, by omega⟩
  ·rw [← hw2, ← z1]
   exact heap_alloc_new w1 _
  ·have := hr.below h0.old
   rw [hS] at this
   exact this
 have TL := Lib.hid (parts_tells (Kp := Leaves S (S + 2)) hps hc (fun _ _ h => h) hn)
 rw [hP, hN] at TL
 have SW := Lib.hid (parts_walk A n c w1)
 rw [hw2, z1] at SW
 have H0 := Lib.hid h0
 have HPS := Lib.hid hps
 have HW := Lib.hid hw1
 have HS := Lib.hid hS
 have Z2 := Lib.hid z2
 have HN := Lib.hid hNn
 have HNL := Lib.hid hN
 have HP := Lib.hid hP
 have c0 := cell_of_row _ _ 0 _ _ (0, 0) x0
 obtain ⟨s, hsv⟩ : ∃ s, spotN pc pr 0 P = s := ⟨_, rfl⟩
 rw [hP, hsv]
 have HSV := Lib.hid (show spotN pc pr 0 (P.drop 0) = s from hsv)
 have hpr0 : ¬ (pr : Int) < 0 := by omega
 clear hr hs hps h0 b1 b2 hw1 hw2 z1 z2 hsp x0 x1 hsv hP hN hNn
 refine (callsIn_wide (n := 3)).1 (callsIn_of_wp_marks Tryz.func17 rfl trivial ?_ rfl)
 simp only [Tryz.ntmps17, List.size_toArray, List.length_cons, List.length_nil, Nat.reduceAdd, Nat.reduceSub, Array.replicate_succ, Array.replicate_zero, List.push_toArray, List.append_toArray, List.nil_append, List.cons_append]
 refine wpIn_wide.2 ?_
 go_upto_region 3 with fail
 rw [HW.out]
 clear c0
 go_wp2_with fail
 refine SW.out.mono ?_
 rintro e w' ⟨rfl, rfl⟩
 go_wp2_with fail
 refine wp_over (Fit := FitP S rs) (Kp := Leaves S (S + 2)) (N := N) (gf := 74) (lb := #[.pointer (some ⟨S + 2, 0, none⟩)]) rfl (enters_of Tryz.func74 (by kernel_rfl) rfl) TL.out Leaves.trans
  (fun A B hA h => Leaves.laid h (by have := Z2.out; omega) (by have := Z2.out; omega)) (fun W l o o' hl ho hc => Leaves.put (by have := Z2.out; omega) (by have := Z2.out; omega) o') (fun k x W h => by obtain ⟨_, _, _, _, rfl, _⟩ := h; rfl)
  (fun k W => Hid (SpG w S pr pc A n c rs P s k W)) (fun cx k W => cx = .ret ∧ Hid (SpX w S pc s W))
  (fun k A B h hb => Lib.hid (by obtain ⟨q, h1, h2, h3⟩ := h.out; exact ⟨q, h1.laid hb, h2.laid hb, h3⟩)) (fun k W l o o' hl ho hc h => Lib.hid (by obtain ⟨q, h1, h2, h3⟩ := h.out; exact ⟨q, h1.put o' (by have := Z2.out; omega), h2.kept (Leaves.put (by have := Z2.out; omega) (by have := Z2.out; omega) o'), h3⟩))
  (fun cx k A B h hb => ⟨h.1, Lib.hid (by obtain ⟨q, h1, h2⟩ := h.2.out; exact ⟨q, h1.laid hb, Nat.le_trans h2 hb.size⟩)⟩) (fun cx k W l o o' hl ho hc h => ⟨h.1, Lib.hid (by obtain ⟨q, h1, h2⟩ := h.2.out; exact ⟨q, h1.put o' (by have := Z2.out; omega), by rw [World.putObj_size]; exact h2⟩)⟩)
  (Lib.hid ⟨pr, H0.out, HPS.out, Nat.le_refl _, HSV.out⟩) ?round ?done ?stop
 case round =>
  rintro l2 k2 x W hk2 hl2 ⟨o, ho, hoc⟩ hi ⟨A', n', c', sub, rfl, hsub, hrw, hcc⟩
  gi_wp2
  refine ⟨Below.refl _ _, fun o1 => ?_⟩
  have hS2 : S + 3 ≤ l2 := by have := Z2.out; omega
  obtain ⟨q, i1, i2, i3, i4⟩ := hi.out
  have H2 := Lib.hid (i1.put (j := l2) o1 (by omega))
  have P2 := Lib.hid (i2.kept (W' := W.putObj l2 o1) (Leaves.put (S := S) (Bx := S + 2) (by omega) (by omega) o1))
  have R2 := Lib.hid (hrw.kept (W' := W.putObj l2 o1) fun j hj => World.putObj_heap_other (by omega))
  have hz2 : (W.putObj l2 o1).heap.size = W.heap.size := by simp
  have hl2' : l2 < W.heap.size := (Array.getElem?_eq_some_iff.1 ho).1
  have ZZ := Lib.hid (show S + 3 ≤ (W.putObj l2 o1).heap.size from by rw [hz2]; omega)
  generalize W.putObj l2 o1 = W2 at H2 P2 R2 ZZ ⊢
  clear hi ho hrw i1 i2 hz2 hl2'
  have hn' : n' ≤ 1000000 := by
   have h2 := part_le (List.mem_of_getElem? hsub)
   rw [List.length_map, List.length_map, R2.out.len, P2.out.rows.len] at h2
   omega
  rw [HP.out] at hsub
  have hsl : (sub.map lr).length = n' := by rw [List.length_map]; exact R2.out.len
  have NXT := Lib.hid (spot_next (pc := pc) (pr := q) hsub)
  rw [i4, hsl] at NXT
  have t0 : W2.cell? ⟨S, 0, none⟩ = some (.int .i64 (q : Int)) := cell_of_row _ _ 0 _ _ (0, 0) H2.out.p
  have t1 : W2.cell? ⟨S, 1, none⟩ = some (.int .i64 pc) := cell_of_row _ _ 1 _ _ (0, 0) H2.out.p
  clear hsub i4
  by_cases hq : q < n'
  ·have hqi : (q : Int) < (n' : Int) := by omega
   have AW := Lib.hid (ahead_walk A' n' c' sub q pc W2 P2.out.sp (R2.out.up P2.out.big) hcc hn' hq)
   have JW := Lib.hid (fun (W' : World) (hb : Laid W2 W') => joined_walk A' n' c' sub W' (P2.out.laid hb).sp ((R2.out.below (hb.mono P2.out.big)).up (Nat.le_trans P2.out.big hb.size)) hn')
   obtain ⟨ah, hah⟩ : ∃ ah, aheadN q pc (signsAll 0 ((sub.take (q + 1)).map lr)) = ah := ⟨_, rfl⟩
   have hah2 : aheadN q pc (signsAll 0 ((sub.map lr).take (q + 1))) = ah := by rw [← List.map_take]; exact hah
   have HAH := Lib.hid (show ah ≤ 300000000 from by
    rw [← hah]
    have h1 := aheadN_le q pc (signsAll 0 ((sub.take (q + 1)).map lr))
    have h2 := signsAll_le ((sub.take (q + 1)).map lr) 0
    rw [List.length_map, List.length_take] at h2
    omega)
   obtain ⟨jl, hjl⟩ : ∃ jl, (joined (sub.map lr)).length = jl := ⟨_, rfl⟩
   have hjl2 : (trimL ((sub.map lr).flatMap cellsR)).length = jl := hjl
   have HJL := Lib.hid (show jl ≤ 300000000 from by
    rw [← hjl2]
    have h1 := trimL_le ((sub.map lr).flatMap cellsR)
    have h2 := signsAll_le (sub.map lr) 0
    have h3 := congrArg List.length (signsAll_cells (sub.map lr) 0)
    rw [List.length_map] at h3
    omega)
   have SV := Lib.hid (show s = (k2, min ah jl, ah - jl) from by
    have h := NXT.out
    rw [if_pos hq, hah2, hjl] at h
    exact h)
   rw [hah] at AW
   have HJ2 := Lib.hid hjl2
   clear hah hah2 hjl hjl2 NXT
   gi_wp2_with fail
   refine ⟨trivial, (callsIn_wide.2 AW.out).mono ?_⟩
   rintro e w4 ⟨rfl, b4⟩
   have H4 := Lib.hid (H2.out.laid b4)
   have Z4 := Lib.hid (Nat.le_trans ZZ.out b4.size)
   have J4 := Lib.hid (JW.out w4 b4)
   have KF4 := Lib.hid (keeps_laid (B := w'.heap.size) b4)
   clear b4 AW JW
   gi_wp2_with fail
   refine ⟨trivial, (callsIn_wide.2 J4.out).mono ?_⟩
   rintro e w5 ⟨v5, rfl, h5, b5⟩
   obtain ⟨A5, c5, rfl, _⟩ := own_cap (show w5.ownsRow w4.heap.size 50 3 v5 (trimL ((sub.map lr).flatMap cellsR)).length _ from h5)
   rw [HJ2.out]
   have H5 := Lib.hid (H4.out.laid b5)
   have Z5 := Lib.hid (Nat.le_trans Z4.out b5.size)
   have KF5 := Lib.hid (KF4.out.trans (keeps_laid (B := w'.heap.size) b5))
   have r0 : w5.cell? ⟨S + 1, 0, none⟩ = some (.int .i64 0) := cell_of_row _ _ 0 _ _ (0, 0) H5.out.res
   have r1 : w5.cell? ⟨S + 1, 1, none⟩ = some (.int .i64 0) := cell_of_row _ _ 1 _ _ (0, 0) H5.out.res
   have r2 : w5.cell? ⟨S + 1, 2, none⟩ = some (.int .i64 0) := cell_of_row _ _ 2 _ _ (0, 0) H5.out.res
   have z0 := frozen_of_row w5 (S + 1) 0 _ _ H5.out.res
   have z1 := frozen_of_row w5 (S + 1) 1 _ _ H5.out.res
   have z2 := frozen_of_row w5 (S + 1) 2 _ _ H5.out.res
   obtain ⟨m1, hm1⟩ : ∃ m1 : Nat, min (ah : Int) (jl : Int) = (m1 : Int) := ⟨min ah jl, by omega⟩
   obtain ⟨m2, hm2⟩ : ∃ m2 : Nat, max ((ah : Int) - (jl : Int)) 0 = (m2 : Int) := ⟨ah - jl, by omega⟩
   have hsub2 : IntKind.i64.wrap ((ah : Int) - (jl : Int)) = (ah : Int) - (jl : Int) := IntWalk.i64_in _ (by have := HAH.out; have := HJL.out; omega)
   have SV2 := Lib.hid (show s = (k2, m1, m2) from by rw [SV.out, show min ah jl = m1 by omega, show ah - jl = m2 by omega])
   clear h5 b5 J4 KF4
   gi_wp2_with fail
   refine ⟨KF5.out.trans (((KeepsOthers.setCell _ _ _).from _).trans (((KeepsOthers.setCell _ _ _).from _).trans ((KeepsOthers.setCell _ _ _).from _))), rfl, Lib.hid ⟨q, ?_, ?_⟩⟩
   ·rw [SV2.out]
    exact H5.out.set3 k2 m1 m2
   ·have := Z5.out
    simp
    omega
  ·have hqi : ¬ (q : Int) < (n' : Int) := by omega
   have SV := Lib.hid (show spotN pc (q - n') (k2 + 1) (P.drop (k2 + 1)) = s from by
    have h := NXT.out
    rw [if_neg hq] at h
    exact h.symm)
   have hsub2 : IntKind.i64.wrap ((q : Int) - (n' : Int)) = ((q - n' : Nat) : Int) := by rw [show (q : Int) - (n' : Int) = ((q - n' : Nat) : Int) by omega]; exact IntWalk.i64_in _ (by omega)
   obtain ⟨q2, hq2⟩ : ∃ q2, q - n' = q2 := ⟨_, rfl⟩
   rw [hq2] at hsub2 SV
   have f0 := frozen_of_row W2 S 0 _ _ H2.out.p
   clear NXT
   gi_wp2_with fail
   have lv : Leaves S (S + 2) W2 (W2.setCell ⟨S, 0, none⟩ (.int .i64 (q2 : Int))) := ⟨by simp, fun j hj => Below.heap_setCell _ _ _ _ (by show j ≠ S; omega)⟩
   exact ⟨(KeepsOthers.setCell _ _ _).from _, lv, Lib.hid ⟨q2, H2.out.set1 q2, P2.out.kept lv, by omega, SV.out⟩⟩
 case done =>
  rintro D W hD hi hdef
  obtain ⟨q, i1, i2, i3, i4⟩ := hi.out
  have HI := Lib.hid i1
  have E := Lib.hid (show s = (0, 0, 0) from by
   rw [List.drop_eq_nil_of_le (by rw [HNL.out]; exact Nat.le_refl _), spotN] at i4
   exact i4.symm)
  have DF := Lib.hid hdef
  have ZW := Lib.hid i2.big
  have r0 : W.cell? ⟨S + 1, 0, none⟩ = some (.int .i64 0) := cell_of_row _ _ 0 _ _ (0, 0) i1.res
  have r1 : W.cell? ⟨S + 1, 1, none⟩ = some (.int .i64 0) := cell_of_row _ _ 1 _ _ (0, 0) i1.res
  have r2 : W.cell? ⟨S + 1, 2, none⟩ = some (.int .i64 0) := cell_of_row _ _ 2 _ _ (0, 0) i1.res
  have z0 := frozen_of_row W (S + 1) 0 _ _ i1.res
  have z1 := frozen_of_row W (S + 1) 1 _ _ i1.res
  have z2 := frozen_of_row W (S + 1) 2 _ _ i1.res
  have hSD : S + 1 < D := by have := Z2.out; omega
  have K := Lib.hid (show SpI w S q pc (0, 0, 0) (((W.setCell ⟨S + 1, 0, none⟩ (.int .i64 0)).setCell ⟨S + 1, 1, none⟩ (.int .i64 0)).setCell ⟨S + 1, 2, none⟩ (.int .i64 0)) from i1.set3 0 0 0)
  have KD := Lib.hid (show (((W.setCell ⟨S + 1, 0, none⟩ (.int .i64 0)).setCell ⟨S + 1, 1, none⟩ (.int .i64 0)).setCell ⟨S + 1, 2, none⟩ (.int .i64 0)).heap[D]? = some (.deferred (some [])) from (Below.heap_setCell _ _ _ _ (by show D ≠ S + 1; omega)).trans ((Below.heap_setCell _ _ _ _ (by show D ≠ S + 1; omega)).trans ((Below.heap_setCell _ _ _ _ (by show D ≠ S + 1; omega)).trans DF.out)))
  clear hi hdef TL H0 i1 i2 i3 i4
  go_wp2_with fail
  generalize ((W.setCell ⟨S + 1, 0, none⟩ (.int .i64 0)).setCell ⟨S + 1, 1, none⟩ (.int .i64 0)).setCell ⟨S + 1, 2, none⟩ (.int .i64 0) = W7 at K KD ⊢
  refine ⟨by simp, .inl ⟨_, _, rfl, run_takeDeferred KD.out, ?_⟩⟩
  obtain ⟨q0, q1, q2⟩ := K.out.cells hSD (.deferred none)
  refine ⟨spotV s, ?_, rfl, ?_⟩
  ·rw [E.out]
   simp [results, go_sem, q0, q1, q2, spotV]
  ·exact (K.out.put (.deferred none) hSD).old
 case stop =>
  rintro D k3 cx W hD hk3 ⟨rfl, hi⟩ hdef
  obtain ⟨q, i1, i2⟩ := hi.out
  have HI := Lib.hid i1
  have DF := Lib.hid hdef
  have hSD : S + 1 < D := by have := Z2.out; omega
  clear hi hdef TL H0
  go_wp2_with fail
  refine ⟨by simp, .inl ⟨_, _, rfl, run_takeDeferred DF.out, ?_⟩⟩
  obtain ⟨q0, q1, q2⟩ := HI.out.cells hSD (.deferred none)
  refine ⟨spotV s, ?_, rfl, ?_⟩
  ·simp [results, go_sem, q0, q1, q2, spotV]
  ·exact (HI.out.put (.deferred none) hSD).old
theorem spot_neg (A : Option Addr) (n c : Nat) (r pc : Int) (w : World) (hr : r < 0) :
  Calls Tryz.prog 17 #[.slice A n c, .agg #[.int .i64 r, .int .i64 pc]] w fun e w' => e = .returned (spotV (0, 0, 0)) ∧ Below w.heap.size w w' := by
 obtain ⟨S, hS⟩ : ∃ S, w.heap.size = S := ⟨_, rfl⟩
 obtain ⟨w1, hw1⟩ : ∃ w1, (w.alloc (.cells #[.int .i64 r, .int .i64 pc] 25)).alloc (.cells #[.int .i64 0, .int .i64 0, .int .i64 0] 27) = w1 := ⟨_, rfl⟩
 have b1 : Below w.heap.size w w1 := by rw [← hw1]; exact ((Below.refl _ _).alloc (Nat.le_refl _) _).alloc (by simp) _
 have x0 : w1.heap[S]? = some (.cells #[.int .i64 r, .int .i64 pc] 25 (0, 0)) := by rw [← hw1, ← hS]; exact (Below.heap_alloc _ _ _ (by simp)).trans (heap_alloc_new w _)
 have x1 : w1.heap[S + 1]? = some (.cells #[.int .i64 0, .int .i64 0, .int .i64 0] 27 (0, 0)) := by
  rw [← hw1, ← hS]
  have := heap_alloc_new (w.alloc (.cells #[.int .i64 r, .int .i64 pc] 25)) (.cells #[.int .i64 0, .int .i64 0, .int .i64 0] 27)
  rwa [World.size_alloc] at this
 have HW := Lib.hid hw1
 have c0 := cell_of_row _ _ 0 _ _ (0, 0) x0
 have e0 := cell_of_row _ _ 0 _ _ (0, 0) x1
 have e1 := cell_of_row _ _ 1 _ _ (0, 0) x1
 have e2 := cell_of_row _ _ 2 _ _ (0, 0) x1
 have g0 := frozen_of_row _ (S + 1) 0 _ _ x1
 have g1 := frozen_of_row _ (S + 1) 1 _ _ x1
 have g2 := frozen_of_row _ (S + 1) 2 _ _ x1
 have X1 := Lib.hid (And.intro b1 x1)
 clear hw1 b1 x1 x0
 go_enter Tryz.func17, Tryz.ntmps17
 go_upto_region 1 with fail
 rw [HW.out]
 go_wp2_with fail
 have s1 := heap_setCell_same w1 (S + 1) 0 _ _ (.int .i64 0) X1.out.2
 have s2 := heap_setCell_same _ (S + 1) 1 _ _ (.int .i64 0) s1
 have s3 := heap_setCell_same _ (S + 1) 2 _ _ (.int .i64 0) s2
 have B5 := Lib.hid (((X1.out.1.setCell (p := ⟨S + 1, 0, none⟩) (by show w.heap.size ≤ S + 1; omega) (.int .i64 0)).setCell (p := ⟨S + 1, 1, none⟩) (by show w.heap.size ≤ S + 1; omega) (.int .i64 0)).setCell (p := ⟨S + 1, 2, none⟩) (by show w.heap.size ≤ S + 1; omega) (.int .i64 0))
 generalize ((w1.setCell ⟨S + 1, 0, none⟩ (.int .i64 0)).setCell ⟨S + 1, 1, none⟩ (.int .i64 0)).setCell ⟨S + 1, 2, none⟩ (.int .i64 0) = w5 at s3 B5 ⊢
 have r0 : w5.cell? ⟨S + 1, 0, none⟩ = some (.int .i64 0) := cell_of_row _ _ 0 _ _ (0, 0) (by simpa using s3)
 have r1 : w5.cell? ⟨S + 1, 1, none⟩ = some (.int .i64 0) := cell_of_row _ _ 1 _ _ (0, 0) (by simpa using s3)
 have r2 : w5.cell? ⟨S + 1, 2, none⟩ = some (.int .i64 0) := cell_of_row _ _ 2 _ _ (0, 0) (by simpa using s3)
 refine bodyPost_ret (v := spotV (0, 0, 0)) (by simp [results, Tryz.results17, go_sem, r0, r1, r2, spotV]) rfl ?_
 exact ⟨rfl, by have h := B5.out; first | exact h | (rw [hS] at h; exact h)⟩
end Ln
end Go.Proofs.YtgmijnnhanpocaaGreatDoor

namespace Go.Proofs.YtgmijnnhanpocaaGreatDoor
open Go.ChangeShapes Go.WideShapes Go.ChangeAt Go.RowKit
namespace Ln
open Rw
set_option maxRecDepth 100000 in
set_option maxHeartbeats 3200000 in
theorem eqRowsL_walk (A A' : Option Addr) (n c c' : Nat) (xs xs' : List RowIn) (w : World) (hn : n ≤ 1000000) (hq : Rws w w.heap.size A n xs) (hq' : Rws w w.heap.size A' n xs') (hl : ∀ x ∈ xs, x.n ≤ 1000000) (hl' : ∀ x ∈ xs', x.n ≤ 1000000) (hs : xs.map lr = xs'.map lr) :
  Calls Tryz.prog 16 #[.slice A n c, .slice A' n c'] w fun e w' => e = .returned (.bool true) ∧ Below w.heap.size w w' := by
 have Q := Lib.hid hq
 have Q' := Lib.hid hq'
 have I0 := Lib.hid (Below.refl w.heap.size w)
 clear hq hq'
 go_enter Tryz.func16, Tryz.ntmps16
 go_wp2_with fail
 go_loopw [5] (fun i wr => ∃ k : Nat, i = .int .i64 (k : Int) ∧ k ≤ n ∧ Hid (Below w.heap.size w wr)) (fun i _ => n - (intOf i).toNat)
 case atStart => exact ⟨0, rfl, Nat.zero_le _, I0⟩
 case round =>
  obtain ⟨k, rfl, hk, I⟩ := hrel
  clear I0
  by_cases hlt : k < n
  ·have hx0 : k < xs.length := by rw [Q.out.len]; exact hlt
   have hx0' : k < xs'.length := by rw [Q'.out.len]; exact hlt
   obtain ⟨x, hx⟩ : ∃ x, xs[k]? = some x := ⟨_, List.getElem?_eq_getElem hx0⟩
   obtain ⟨x', hx'⟩ : ∃ x', xs'[k]? = some x' := ⟨_, List.getElem?_eq_getElem hx0'⟩
   have hsr : lr x = lr x' := by
    have := congrArg (fun z => z[k]?) hs
    simpa [List.getElem?_map, hx, hx'] using this
   have hb := I.out.drew
   have R := (Q.out.below hb).up hb.size
   have R' := (Q'.out.below hb).up hb.size
   obtain ⟨b, off, rfl, _, c0, c1⟩ := rows_at R.sq hx hlt
   obtain ⟨b', off', rfl, _, c0', c1'⟩ := rows_at R'.sq hx' hlt
   have hwl : x.wrap = x'.wrap ∧ x.l = x'.l := by injection hsr with h1 h2; exact ⟨h1, h2⟩
   have ER := Lib.hid (show Calls Tryz.prog 43 #[rowV x.A x.n x.c x.wrap, rowV x'.A x'.n x'.c x'.wrap] wr.drew fun e w' => e = .returned (.bool true) ∧ Below wr.drew.heap.size wr.drew w' from by
    refine (eqRow_walk x.A x'.A x.n x.c x'.n x'.c x.wrap x'.wrap x.l x'.l wr.drew (hl x (List.mem_of_getElem? hx)) (hl' x' (List.mem_of_getElem? hx')) (R.each x (List.mem_of_getElem? hx)).sq (R'.each x' (List.mem_of_getElem? hx')).sq).mono ?_
    rintro e w' ⟨rfl, hb⟩
    rw [hwl.1, hwl.2, eqL_refl, beq_self_eq_true]
    exact ⟨rfl, hb⟩)
   have hk0 : (0 : Int) ≤ (k : Int) := by omega
   have hkn : (k : Int) < (n : Int) := by omega
   have hinc : IntKind.i64.wrap ((k : Int) + 1) = (k : Int) + 1 := IntWalk.i64_in _ (by omega)
   have HB := Lib.hid hb
   clear hb R R' hx hx' hsr hwl I hx0 hx0' hs Q Q' hl hl'
   go_wp2_with fail
   refine wp_region_still_tail 8 (by kernel_rfl) (by kernel_rfl) ?_
   rw [show ({ wr with drawn := wr.drawn + 1 } : World) = wr.drew from rfl]
   generalize wr.drew = wd at c0 c1 c0' c1' ER HB ⊢
   simp only [List.take_succ_cons, List.take_zero, List.drop_succ_cons, List.drop_zero]
   repeat still_step
   refine wpStill_nil ?_
   go_wp2_with fail
   refine ER.out.mono ?_
   rintro e w2 ⟨rfl, b2⟩
   have I2 := Lib.hid (HB.out.trans (b2.mono HB.out.size))
   clear ER b2 HB c0 c1 c0' c1'
   go_wp2
   go_roundw
   case rel => exact ⟨k + 1, by first | rfl | (congr 1; done) | (congr 1; omega), by omega, I2⟩
   case measure => first | (simp [intOf]; done) | (simp [intOf]; omega)
  ·obtain rfl : k = n := by omega
   clear Q Q' hs hl hl'
   go_wp2
   go_ret
   exact ⟨rfl, I.out⟩
end Ln
end Go.Proofs.YtgmijnnhanpocaaGreatDoor
namespace Go.Proofs.YtgmijnnhanpocaaGreatDoor
open Go.ChangeShapes Go.WideShapes Go.ChangeAt Go.RowKit
namespace Ln
open Rw
attribute [local go_sem] Oper.semAt_some
set_option maxRecDepth 100000 in
set_option maxHeartbeats 6400000 in
theorem place_zero (A : Option Addr) (n c : Nat) (x i k p : Int) (w : World) (h : ¬ (2 ≤ x ∧ x ≤ 300) ∨ i < 0 ∨ (n : Int) ≤ i ∨ p < 0) :
  Calls Tryz.prog 19 #[.slice A n c, .int .i64 x, .agg #[.int .i64 i, .int .i64 k, .int .i64 p]] w fun e w' => e = .returned (.agg #[.int .i64 0, .int .i64 0]) ∧ Below w.heap.size w w' := by
 obtain ⟨S, hS⟩ : ∃ S, w.heap.size = S := ⟨_, rfl⟩
 obtain ⟨w1, hw1⟩ : ∃ w1, (w.alloc (.cells #[.int .i64 i, .int .i64 k, .int .i64 p] 27)).alloc (.cells #[.int .i64 0, .int .i64 0] 25) = w1 := ⟨_, rfl⟩
 have b1 : Below w.heap.size w w1 := by rw [← hw1]; exact ((Below.refl _ _).alloc (Nat.le_refl _) _).alloc (by simp) _
 have x0 : w1.heap[S]? = some (.cells #[.int .i64 i, .int .i64 k, .int .i64 p] 27 (0, 0)) := by rw [← hw1, ← hS]; exact (Below.heap_alloc _ _ _ (by simp)).trans (heap_alloc_new w _)
 have x1 : w1.heap[S + 1]? = some (.cells #[.int .i64 0, .int .i64 0] 25 (0, 0)) := by
  rw [← hw1, ← hS]
  have := heap_alloc_new (w.alloc (.cells #[.int .i64 i, .int .i64 k, .int .i64 p] 27)) (.cells #[.int .i64 0, .int .i64 0] 25)
  rwa [World.size_alloc] at this
 have MW := Lib.hid (mayWide_walk x)
 obtain ⟨mb, hmb⟩ : ∃ mb, (decide (2 ≤ x) && decide (x ≤ 300)) = mb := ⟨_, rfl⟩
 have HC := Lib.hid (show mb = true → i < 0 ∨ (n : Int) ≤ i ∨ p < 0 from fun e => by
  rw [e] at hmb
  simp at hmb
  rcases h with h | h
  ·exact absurd hmb h
  ·exact h)
 rw [hmb] at MW
 have HW := Lib.hid hw1
 have y0 : w1.cell? ⟨S, 0, none⟩ = some (.int .i64 i) := cell_of_row _ _ 0 _ _ (0, 0) x0
 have y2 : w1.cell? ⟨S, 2, none⟩ = some (.int .i64 p) := cell_of_row _ _ 2 _ _ (0, 0) x0
 have e0 := cell_of_row _ _ 0 _ _ (0, 0) x1
 have e1 := cell_of_row _ _ 1 _ _ (0, 0) x1
 have g0 := frozen_of_row _ (S + 1) 0 _ _ x1
 have g1 := frozen_of_row _ (S + 1) 1 _ _ x1
 have SB := Lib.hid (And.intro b1 x1)
 clear hmb hw1 b1 x1 x0 h
 go_enter Tryz.func19, Tryz.ntmps19
 go_wp2_with fail
 rw [HW.out]
 refine (MW.out w1).mono ?_
 rintro e w1' ⟨rfl, e1'⟩
 rw [e1']
 clear MW e1'
 have fin : ∀ W : World, (w1.setCell ⟨S + 1, 0, none⟩ (.int .i64 0)).setCell ⟨S + 1, 1, none⟩ (.int .i64 0) = W → W.cell? ⟨S + 1, 0, none⟩ = some (.int .i64 0) ∧ W.cell? ⟨S + 1, 1, none⟩ = some (.int .i64 0) ∧ Below w.heap.size w W := fun W hW => by
  have sm := heap_setCell_same w1 (S + 1) 0 _ _ (.int .i64 0) SB.out.2
  have sm2 := heap_setCell_same _ (S + 1) 1 _ _ (.int .i64 0) sm
  rw [hW] at sm2
  refine ⟨cell_of_row _ _ 0 _ _ (0, 0) (by simpa using sm2), cell_of_row _ _ 1 _ _ (0, 0) (by simpa using sm2), ?_⟩
  rw [← hW]
  exact (SB.out.1.setCell (p := ⟨S + 1, 0, none⟩) (by show w.heap.size ≤ S + 1; omega) (.int .i64 0)).setCell (p := ⟨S + 1, 1, none⟩) (by show w.heap.size ≤ S + 1; omega) (.int .i64 0)
 have FIN := Lib.hid fin
 clear fin
 cases mb
 case' true =>
  have hc := HC.out rfl
  by_cases h1 : i < 0
  case' neg =>
   by_cases h2 : (n : Int) ≤ i
   case' neg =>
    have h3 : p < 0 := by omega
    have h2' : i < (n : Int) := by omega
    have h1' : 0 ≤ i := by omega
 all_goals
  clear HC
  go_wp2_with fail
  obtain ⟨w5, hw5⟩ : ∃ w5, (w1.setCell ⟨S + 1, 0, none⟩ (.int .i64 0)).setCell ⟨S + 1, 1, none⟩ (.int .i64 0) = w5 := ⟨_, rfl⟩
  rw [hw5]
  obtain ⟨r0, r1, B5⟩ := FIN.out _ hw5
  refine bodyPost_ret (v := .agg #[.int .i64 0, .int .i64 0]) (by simp [results, Tryz.results19, go_sem, r0, r1]) rfl ?_
  exact ⟨rfl, by first | exact B5 | (rw [hS] at B5; exact B5)⟩
set_option maxRecDepth 100000 in
set_option maxHeartbeats 6400000 in
theorem place_off (A : Option Addr) (n c wv i : Nat) (k : Int) (p : Nat) (vs : List Value) (ls : List (List Cel)) (l : List Cel) (w : World) (h : Lrd w w.heap.size A n vs ls) (hw2 : 2 ≤ wv) (hw3 : wv ≤ 300) (hi : i < n) (hl : ls[i]? = some l) (hk : k < 0 ∨ (l.length : Int) < k) :
  Calls Tryz.prog 19 #[.slice A n c, .int .i64 (wv : Int), .agg #[.int .i64 (i : Int), .int .i64 k, .int .i64 (p : Int)]] w fun e w' => e = .returned (.agg #[.int .i64 0, .int .i64 0]) ∧ Below w.heap.size w w' := by
 obtain ⟨S, hS⟩ : ∃ S, w.heap.size = S := ⟨_, rfl⟩
 obtain ⟨m, hm⟩ : ∃ m, l.length = m := ⟨_, rfl⟩
 rw [hm] at hk
 obtain ⟨w1, hw1⟩ : ∃ w1, (w.alloc (.cells #[.int .i64 (i : Int), .int .i64 k, .int .i64 (p : Int)] 27)).alloc (.cells #[.int .i64 0, .int .i64 0] 25) = w1 := ⟨_, rfl⟩
 have b1 : Below w.heap.size w w1 := by rw [← hw1]; exact ((Below.refl _ _).alloc (Nat.le_refl _) _).alloc (by simp) _
 have x0 : w1.heap[S]? = some (.cells #[.int .i64 (i : Int), .int .i64 k, .int .i64 (p : Int)] 27 (0, 0)) := by rw [← hw1, ← hS]; exact (Below.heap_alloc _ _ _ (by simp)).trans (heap_alloc_new w _)
 have x1 : w1.heap[S + 1]? = some (.cells #[.int .i64 0, .int .i64 0] 25 (0, 0)) := by
  rw [← hw1, ← hS]
  have := heap_alloc_new (w.alloc (.cells #[.int .i64 (i : Int), .int .i64 k, .int .i64 (p : Int)] 27)) (.cells #[.int .i64 0, .int .i64 0] 25)
  rwa [World.size_alloc] at this
 have R1 := h.below b1
 obtain ⟨x, hx⟩ : ∃ x, vs[i]? = some x := ⟨_, List.getElem?_eq_getElem (by have := h.sq.len; omega)⟩
 obtain ⟨b, off, rfl, hb, c0⟩ := one_at R1.sq hx hi
 obtain ⟨A1, n1, d1, rfl, hd1, q1, m1⟩ := R1.each i x l hx hl
 have hmn : m = n1 := by have := q1.len; rw [flat_length] at this; omega
 subst hmn
 have MW := Lib.hid (mayWide_walk (wv : Int))
 have hwd : (decide ((2 : Int) ≤ (wv : Int)) && decide ((wv : Int) ≤ 300)) = true := by simp; omega
 rw [hwd] at MW
 have HW := Lib.hid hw1
 have y0 : w1.cell? ⟨S, 0, none⟩ = some (.int .i64 (i : Int)) := cell_of_row _ _ 0 _ _ (0, 0) x0
 have y1 : w1.cell? ⟨S, 1, none⟩ = some (.int .i64 k) := cell_of_row _ _ 1 _ _ (0, 0) x0
 have y2 : w1.cell? ⟨S, 2, none⟩ = some (.int .i64 (p : Int)) := cell_of_row _ _ 2 _ _ (0, 0) x0
 have e0 := cell_of_row _ _ 0 _ _ (0, 0) x1
 have e1 := cell_of_row _ _ 1 _ _ (0, 0) x1
 have g0 := frozen_of_row _ (S + 1) 0 _ _ x1
 have g1 := frozen_of_row _ (S + 1) 1 _ _ x1
 have SB := Lib.hid (And.intro b1 x1)
 have hii : (i : Int) < (n : Int) := by omega
 have hi0 : (0 : Int) ≤ (i : Int) := by omega
 have hp0 : (0 : Int) ≤ (p : Int) := by omega
 clear hl x1 b1 hw1 hx hm R1 q1 m1 hwd h x0
 go_enter Tryz.func19, Tryz.ntmps19
 go_wp2_with fail
 rw [HW.out]
 refine (MW.out w1).mono ?_
 rintro e w1' ⟨rfl, e1'⟩
 rw [e1']
 clear MW e1'
 have fin : ∀ W : World, (w1.setCell ⟨S + 1, 0, none⟩ (.int .i64 0)).setCell ⟨S + 1, 1, none⟩ (.int .i64 0) = W → W.cell? ⟨S + 1, 0, none⟩ = some (.int .i64 0) ∧ W.cell? ⟨S + 1, 1, none⟩ = some (.int .i64 0) ∧ Below w.heap.size w W := fun W hW => by
  have sm := heap_setCell_same w1 (S + 1) 0 _ _ (.int .i64 0) SB.out.2
  have sm2 := heap_setCell_same _ (S + 1) 1 _ _ (.int .i64 0) sm
  rw [hW] at sm2
  refine ⟨cell_of_row _ _ 0 _ _ (0, 0) (by simpa using sm2), cell_of_row _ _ 1 _ _ (0, 0) (by simpa using sm2), ?_⟩
  rw [← hW]
  exact (SB.out.1.setCell (p := ⟨S + 1, 0, none⟩) (by show w.heap.size ≤ S + 1; omega) (.int .i64 0)).setCell (p := ⟨S + 1, 1, none⟩) (by show w.heap.size ≤ S + 1; omega) (.int .i64 0)
 have FIN := Lib.hid fin
 clear fin
 by_cases hk1 : k < 0
 case' neg =>
  have hk2 : (m : Int) < k := by omega
  have hk3 : 0 ≤ k := by omega
 all_goals
  clear hk
  go_wp2_with fail
  obtain ⟨w5, hw5⟩ : ∃ w5, (w1.setCell ⟨S + 1, 0, none⟩ (.int .i64 0)).setCell ⟨S + 1, 1, none⟩ (.int .i64 0) = w5 := ⟨_, rfl⟩
  rw [hw5]
  obtain ⟨r0, r1, B5⟩ := FIN.out _ hw5
  refine bodyPost_ret (v := .agg #[.int .i64 0, .int .i64 0]) (by simp [results, Tryz.results19, go_sem, r0, r1]) rfl ?_
  exact ⟨rfl, by first | exact B5 | (rw [hS] at B5; exact B5)⟩
end Ln
end Go.Proofs.YtgmijnnhanpocaaGreatDoor
