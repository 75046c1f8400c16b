import Derived.Test.YtmpoboffdfcpiaaGreatDoorQBase11
import Derived.Deep.LoopGhost
set_option maxRecDepth 100000
set_option maxHeartbeats 12800000
namespace Go.Proofs.YtmpoboffdfcpiaaGreatDoor
open Go.ChangeShapes Go.WideShapes Go.ChangeAt Go.RowKit
namespace Sc
open Rw
def partRows (R : List SR) (w h i : Nat) : List SR := (List.range h).map fun k => if k < i then fitS w R[k]? else (blanksL w, false)
theorem partRows_length (R : List SR) (w h i : Nat) : (partRows R w h i).length = h := by unfold partRows; simp
theorem partRows_get {R : List SR} {w h i k : Nat} (hk : k < h) : (partRows R w h i)[k]? = some (if k < i then fitS w R[k]? else (blanksL w, false)) := by
 unfold partRows
 rw [List.getElem?_map, List.getElem?_range hk]
 rfl
theorem partRows_zero (R : List SR) (w h : Nat) : partRows R w h 0 = List.replicate h (blanksL w, false) := by
 refine List.ext_getElem? fun k => ?_
 by_cases hk : k < h
 ·rw [partRows_get hk, List.getElem?_replicate, if_pos hk]; rfl
 ·rw [List.getElem?_eq_none (by rw [partRows_length]; omega), List.getElem?_eq_none (by rw [List.length_replicate]; omega)]
theorem partRows_full {R : List SR} {w h i : Nat} (hi : h ≤ i ∨ R.length ≤ i) : partRows R w h i = rowsOfS R w h := by
 refine List.ext_getElem? fun k => ?_
 by_cases hk : k < h
 ·rw [partRows_get hk, rowsOfS_get hk]
  by_cases h2 : k < i
  ·rw [if_pos h2]
  ·rw [if_neg h2, List.getElem?_eq_none (by omega)]; rfl
 ·rw [List.getElem?_eq_none (by rw [partRows_length]; omega), List.getElem?_eq_none (by rw [rowsOfS_length]; omega)]
theorem partRows_succ (R : List SR) (w h i : Nat) : (partRows R w h i).modify i (fun _ => fitS w R[i]?) = partRows R w h (i + 1) := by
 refine List.ext_getElem? fun k => ?_
 rw [List.getElem?_modify]
 by_cases hk : k < h
 ·rw [partRows_get hk, partRows_get hk, Option.map_eq_map, Option.map_some]
  by_cases e : i = k
  ·subst e
   rw [if_pos rfl, if_pos (Nat.lt_succ_self _)]
  ·rw [if_neg e]
   by_cases h2 : k < i
   ·rw [if_pos h2, if_pos (by omega)]
   ·rw [if_neg h2, if_neg (by omega)]
 ·have e1 : (partRows R w h i)[k]? = none := List.getElem?_eq_none (by rw [partRows_length]; omega)
  have e2 : (partRows R w h (i + 1))[k]? = none := List.getElem?_eq_none (by rw [partRows_length]; omega)
  rw [e1, e2]
  rfl
theorem partRows_skip {R : List SR} {w h i : Nat} (e : fitS w R[i]? = (blanksL w, false)) : partRows R w h (i + 1) = partRows R w h i := by
 refine List.ext_getElem? fun k => ?_
 by_cases hk : k < h
 ·rw [partRows_get hk, partRows_get hk]
  by_cases h2 : k < i
  ·rw [if_pos h2, if_pos (by omega)]
  ·rw [if_neg h2]
   by_cases h3 : k = i
   ·subst h3
    rw [if_pos (by omega), e]
   ·rw [if_neg (by omega)]
 ·rw [List.getElem?_eq_none (by rw [partRows_length]; omega), List.getElem?_eq_none (by rw [partRows_length]; omega)]
theorem partRows_ok {R : List SR} {w h i : Nat} (hw : 0 < w) (hx : ∀ y ∈ R, ∀ c ∈ y.1, -2147483648 ≤ c.1 ∧ c.1 ≤ 2147483647) : ∀ x ∈ partRows R w h i, RowOk w x := by
 intro x hm
 obtain ⟨k, _, rfl⟩ := List.mem_map.1 (show x ∈ (List.range _).map _ from hm)
 split
 ·exact fitS_ok hw (fun y e => hx y (List.mem_of_getElem? e))
 ·exact blank_ok w
theorem cells_take {w : World} {B n m : Nat} {A : Option Addr} {l : List Cel} (h : Sq w B 3 n A (flat l)) (hm : m ≤ n) : Sq w B 3 m A (flat (l.take m)) := by
 have hl := h.len
 rw [flat_length] at hl
 refine ⟨by rw [flat_length, List.length_take]; omega, fun hn => ?_⟩
 obtain ⟨b, off, e, hb, hc⟩ := h.spot (by omega)
 refine ⟨b, off, e, hb, fun j u hu => hc j u ?_⟩
 rw [flat_take, List.getElem?_take] at hu
 split at hu
 ·exact hu
 ·cases hu
theorem pad_cut (w : Nat) (l : List Cel) : (l ++ blanksL (w - l.length)).take w = cutL w l := by
 unfold cutL
 rw [List.take_append, List.take_of_length_le (l := blanksL (w - l.length)) (by rw [blanksL_length]; exact Nat.le_refl _)]
theorem typ_own {W : World} {B : Nat} {v : Value} {l : List Cel} (h : HasC W B v l) : ∀ k, v.ownBlock = some k → Typed W 62 k := by
 intro k hk
 rcases h.2 with ⟨e, _⟩ | ⟨g, cap, cur, e, _, e3, _⟩
 ·rw [e] at hk; cases hk
 ·rw [e] at hk
  injection hk with hk
  subst hk
  exact ⟨_, _, e3⟩
theorem rof_walk (A : Option Addr) (n c : Nat) (rs : List RowIn) (wd h ar ac at' : Int) (w : World) (hr : ∀ r ∈ rs, r.Ok w w.heap.size) (hq : Sq w w.heap.size 2 n A (rs.flatMap RowIn.vals)) (hmx : n ≤ 1000000) :
  Calls Tryz.prog 17 #[.slice A n c, .int .i64 wd, .int .i64 h, .agg #[.int .i64 ar, .int .i64 ac], .int .i64 at'] w fun e w' => ROf (ofS (rs.map sr) wd h ar ac at') w e w' := by
 obtain ⟨i0, hi0, hz0, hz1, hz2⟩ := info_parts infoCell
 have hrl : rs.length = n := by have := hq.len; rw [vals_length] at this; omega
 obtain ⟨wn, hwn⟩ : ∃ wn, clampN wd 2 300 = wn := ⟨_, rfl⟩
 obtain ⟨hn, hhn⟩ : ∃ hn, clampN h 1 100 = hn := ⟨_, rfl⟩
 have w2 : 2 ≤ wn ∧ wn ≤ 300 := by rw [← hwn]; unfold clampN; omega
 have h1 : 1 ≤ hn ∧ hn ≤ 100 := by rw [← hhn]; unfold clampN; omega
 obtain ⟨R, hR⟩ : ∃ R, rs.map sr = R := ⟨_, rfl⟩
 have hsg : ∀ y ∈ R, ∀ c ∈ y.1, -2147483648 ≤ c.1 ∧ c.1 ≤ 2147483647 := by
  rw [← hR]
  intro y hy
  obtain ⟨r, hr', rfl⟩ := List.mem_map.1 hy
  exact (hr r hr').signs
 have eN : newS wd h = ⟨wn, partRows R wn hn 0, 0, 0, 0⟩ := by rw [partRows_zero, ← hwn, ← hhn]; rfl
 have OKP := Lib.hid (fun i => (show Ok ⟨wn, partRows R wn hn i, 0, 0, 0⟩ from ⟨w2.1, w2.2, by show 1 ≤ (partRows R wn hn i).length; rw [partRows_length]; exact h1.1, by show (partRows R wn hn i).length ≤ 100; rw [partRows_length]; exact h1.2, by show 0 < (partRows R wn hn i).length; rw [partRows_length]; exact h1.1, Nat.zero_le _, Int.le_refl 0, by show (0 : Int) ≤ 255; omega, partRows_ok (by omega) hsg⟩))
 rw [hR]
 obtain ⟨b8, hb8⟩ : ∃ b8, w.heap.size = b8 := ⟨_, rfl⟩
 obtain ⟨w1, hw1⟩ : ∃ w1, w.alloc (.cells #[.int .i64 ar, .int .i64 ac] 24) = w1 := ⟨_, rfl⟩
 have b1 : Below w.heap.size w w1 := by rw [← hw1]; exact (Below.refl _ _).alloc (Nat.le_refl _) _
 have q8 : w1.heap[b8]? = some (.cells #[.int .i64 ar, .int .i64 ac] 24 (0, 0)) := by rw [← hw1, ← hb8]; exact heap_alloc_new w _
 have NW := Lib.hid (rnew_walk wd h w1)
 rw [eN] at NW
 have B1 := Lib.hid b1
 have Q8 := Lib.hid q8
 have RS := Lib.hid hr
 have RQ := Lib.hid hq
 have RL := Lib.hid hrl
 have HR := Lib.hid hR
 have HB8 := Lib.hid hb8
 have HW1 := Lib.hid hw1
 clear b1 q8 hr hq hrl hR hb8 hw1 eN hsg
 go_enter Tryz.func17, Tryz.ntmps17
 go_upto_region 1 with fail
 rw [HB8.out]
 first
  | rw [HW1.out]
  | (change Code.wp _ _ _ _ (w.alloc (.cells #[.int .i64 ar, .int .i64 ac] 24)); rw [HW1.out])
 go_wp2_with fail
 refine NW.out.mono ?_
 rintro e w3 ⟨p, g, cap, tail, xs, rfl, ha, hp, hg, b3⟩
 have A3 := Lib.hid ha
 have B3 := Lib.hid (B1.out.trans (b3.mono B1.out.size))
 have Q83 := Lib.hid (show w3.heap[b8]? = some (.cells #[.int .i64 ar, .int .i64 ac] 24 (0, 0)) from (b3.block b8 (Array.getElem?_eq_some_iff.1 Q8.out).1).trans Q8.out)
 have PG := Lib.hid (show w.heap.size ≤ p ∧ w.heap.size ≤ g ∧ b8 < p ∧ b8 < g from by have h1 := B1.out.size; have h2 := (Array.getElem?_eq_some_iff.1 Q8.out).1; omega)
 clear ha hp hg b3 NW B1 Q8 HW1
 go_wp2_with fail
 go_loopw [12, 13] (fun v12 _ wr => ∃ (i : Nat) (xs : List RowIn), v12 = .int .i64 (i : Int) ∧ i ≤ hn ∧ i ≤ n ∧ Hid (RAt wr p g cap tail ⟨wn, partRows R wn hn i, 0, 0, 0⟩ xs) ∧ Hid (Below w.heap.size w wr) ∧ Hid (wr.heap[b8]? = some (.cells #[.int .i64 ar, .int .i64 ac] 24 (0, 0)))) (fun v12 _ _ => hn - (intOf v12).toNat)
 case atStart => exact ⟨0, xs, rfl, Nat.zero_le _, Nat.zero_le _, A3, B3, Q83⟩
 case round =>
  obtain ⟨i, xs, rfl, hih, hin, AR, BR, QR⟩ := hrel
  clear A3 B3 Q83
  have k1 : wr.cell? ⟨p, 1, none⟩ = some (.int .i64 (hn : Int)) := by have := AR.out.get 1; rw [this]; show some (Value.int .i64 ((partRows R wn hn i).length : Int)) = _; rw [partRows_length]
  by_cases hlt : i < hn ∧ i < n
  ·obtain ⟨l1, l2⟩ := hlt
   obtain ⟨r, hri⟩ : ∃ r, rs[i]? = some r := ⟨_, List.getElem?_eq_getElem (by rw [RL.out]; exact l2)⟩
   have ok := (RS.out r (List.mem_of_getElem? hri)).below BR.out
   obtain ⟨b, off, rfl, _, r0, r1⟩ := rows_at (RQ.out.below BR.out) hri l2
   have hRi : R[i]? = some (sr r) := by rw [← HR.out, List.getElem?_map, hri]; rfl
   obtain ⟨rA, rn, rc, rw', rl⟩ := r
   dsimp only at r0 r1
   have hrn : rn ≤ 9223372036854775807 := by have h1 := ok.le; have h2 := ok.cap; unfold maxLen at h2; dsimp only at h1 h2; omega
   have ROW := Lib.hid (refRow_any rA rn rc rw' rl wr ok.signs (ok.sq.up BR.out.size) hrn)
   have SQ := Lib.hid (show Sq wr wr.heap.size 3 rn rA (flat rl) from ok.sq.up BR.out.size)
   have HRI := Lib.hid hRi
   have hi0' : (0 : Int) ≤ (i : Int) := by omega
   have l1' : (i : Int) < (hn : Int) := by omega
   have l2' : (i : Int) < (n : Int) := by omega
   have hinc : IntKind.i64.wrap ((i : Int) + 1) = (i : Int) + 1 := IntWalk.i64_in _ (by omega)
   clear ok hri hRi hrn
   obtain ⟨mb, hmb⟩ : ∃ mb, mayL rl = mb := ⟨_, rfl⟩
   rw [hmb] at ROW
   have MB := Lib.hid hmb
   clear hmb
   go_wp2_with fail
   refine ROW.out.mono ?_
   rintro e w4 ⟨rfl, b4⟩
   have A4 := Lib.hid (AR.out.laid b4)
   have B4 := Lib.hid (BR.out.trans (b4.mono BR.out.size))
   have Q4 := Lib.hid (show w4.heap[b8]? = some (.cells #[.int .i64 ar, .int .i64 ac] 24 (0, 0)) from (b4.block b8 (Array.getElem?_eq_some_iff.1 QR.out).1).trans QR.out)
   have SQ4 := Lib.hid ((SQ.out.below b4).up b4.size)
   have c0 : w4.cell? ⟨b, off + i * 2, none⟩ = some (.slice rA rn rc) := by
    have := World.block_lt_of_cell? wr _ r0
    exact (b4.cell (p := ⟨b, off + i * 2, none⟩) this).trans r0
   have c1 : w4.cell? ⟨b, off + i * 2 + 1, none⟩ = some (.bool rw') := by
    have := World.block_lt_of_cell? wr _ r1
    exact (b4.cell (p := ⟨b, off + i * 2 + 1, none⟩) this).trans r1
   clear b4 AR BR QR SQ r0 r1 k1 ROW
   cases mb
   ·have e : fitS wn R[i]? = (blanksL wn, false) := by
     rw [HRI.out]
     show (if mayL rl then (fitL wn rl, rw') else (blanksL wn, false)) = _
     rw [MB.out]; rfl
    have AX := Lib.hid (show RAt w4 p g cap tail ⟨wn, partRows R wn hn (i + 1), 0, 0, 0⟩ xs from by rw [partRows_skip e]; exact A4.out)
    clear e A4
    go_wp2
    go_roundw
    case rel => exact ⟨i + 1, xs, by first | rfl | (congr 1; done) | (congr 1; omega), by omega, by omega, AX, B4, Q4⟩
    case measure => first | (simp [intOf]; done) | (simp [intOf]; omega)
   ·have hrl2 : rl.length = rn := by have := SQ4.out.len; rw [flat_length] at this; omega
    have hm300 : rl.length ≤ 300 ∧ Rw.Good rl := (mayL_iff rl).1 MB.out
    have COPY := Lib.hid (refCopy_walk rA rn rc rw' rl w4 SQ4.out (by omega))
    have GD := Lib.hid hm300
    have RLL := Lib.hid hrl2
    have hrn3 : rn ≤ 300 := by omega
    clear hm300 hrl2 SQ4
    go_wp2_with fail
    refine COPY.out.mono ?_
    rintro e w5 ⟨v5, rfl, hc5, b5⟩
    obtain ⟨b13, hb13⟩ : ∃ b13, w5.heap.size = b13 := ⟨_, rfl⟩
    obtain ⟨w6, hw6⟩ : ∃ w6, w5.alloc (.cells #[v5, .bool rw'] 58) = w6 := ⟨_, rfl⟩
    have b6 : Below w5.heap.size w5 w6 := by rw [← hw6]; exact (Below.refl _ _).alloc (Nat.le_refl _) _
    have Z6 := Lib.hid (show RowAt w6 b13 v5 rw' from by rw [← hw6, ← hb13]; exact heap_alloc_new w5 _)
    have H6 := Lib.hid (HasC.keep (w' := w6) hc5 (fun k e => b6.block k (HasC.lt hc5 k e).2))
    have C6 := Lib.hid (b5.trans (b6.mono b5.size))
    have B13 := Lib.hid (show w4.heap.size ≤ b13 from by rw [← hb13]; exact b5.size)
    have HB13 := Lib.hid hb13
    have HW6 := Lib.hid hw6
    obtain ⟨A5, c5, rfl, hcc5⟩ := HasC.shape hc5
    rw [RLL.out] at Z6 H6 hcc5 HW6 ⊢
    clear hb13 hw6 b6 hc5 b5 COPY c0 c1
    go_wp2_with fail
    rw [HB13.out]
    first
     | rw [HW6.out]
     | (change Code.wp _ _ _ _ (w5.alloc (.cells #[.slice A5 rn c5, .bool rw'] 58)); rw [HW6.out])
    clear HW6 HB13
    go_loopg [] (wn - rn) (fun k wx => ∃ (j : Nat) (v : Value), k = wn - (rn + j) ∧ (j = 0 ∨ rn + j ≤ wn) ∧ Hid (RowAt wx b13 v rw') ∧ Hid (HasC wx w4.heap.size v (rl ++ blanksL j)) ∧ Hid (Below w4.heap.size w4 wx))
    case atStart => exact ⟨0, _, rfl, .inl rfl, Z6, by simpa [blanksL] using H6, C6⟩
    case round =>
     obtain ⟨j, v, hgk, hj, Z, H, B⟩ := hrel
     obtain ⟨L, hL⟩ : ∃ L, rl ++ blanksL j = L := ⟨_, rfl⟩
     obtain ⟨m, hm⟩ : ∃ m, rn + j = m := ⟨_, rfl⟩
     have hLm : L.length = m := by rw [← hL, List.length_append, blanksL_length, RLL.out, hm]
     obtain ⟨Av, cv, rfl, hcv⟩ := HasC.shape H.out
     rw [hL] at H hcv Z
     rw [hLm] at hcv Z H
     have LM := Lib.hid hLm
     have LL := Lib.hid hL
     have HJ := Lib.hid (And.intro hj (And.intro hm hgk))
     have z0 : ∀ q, (wr.drewN q).cell? ⟨b13, 0, none⟩ = some (.slice Av m cv) := fun q => Z.out.get 0
     have p0 : ∀ q, (wr.drewN q).cell? ⟨p, 0, none⟩ = some (.int .i64 (wn : Int)) := fun q => (A4.out.laid B.out).get 0
     have z0' : wr.cell? ⟨b13, 0, none⟩ = some (.slice Av m cv) := Z.out.get 0
     have p0' : wr.cell? ⟨p, 0, none⟩ = some (.int .i64 (wn : Int)) := (A4.out.laid B.out).get 0
     have hm1 : m ≤ 600 := by omega
     by_cases hmw : m < wn
     ·have hmw' : (m : Int) < (wn : Int) := by omega
      clear hL hm hLm hj hgk
      go_wp2_with fail
      go_quiet (fail)
      rename_i nq
      have BD : Below wr.heap.size wr (wr.drewN nq) := Below.drewN (Below.refl wr.heap.size wr) nq
      have ZW := Lib.hid (show RowAt (wr.drewN nq) b13 (.slice Av m cv) rw' from Z.out)
      have HW := Lib.hid (show HasC (wr.drewN nq) w4.heap.size (.slice Av m cv) L from H.out)
      have BW := Lib.hid (B.out.trans (BD.mono B.out.size))
      clear Z H B z0 p0 z0' p0' BD
      generalize wr.drewN nq = wq at ZW HW BW ⊢
      have z0 : wq.cell? ⟨b13, 0, none⟩ = some (.slice Av m cv) := ZW.out.get 0
      have hsz := BW.out.size
      have F24 : m + 1 ≤ maxLen ∧ (m + 1) * 24 ≤ 140737488355328 := by unfold maxLen; omega
      go_upto_region 8 with fail
      go_region_law (first
       | (go_simp; go_at_call 61; refine (refBlank_walk _).mono ?_; rintro e w3 ⟨rfl, b3'⟩; (have b3 : Below wq.heap.size wq w3 := ((Below.refl wq.heap.size wq).drew).trans b3'); (have H3 := Lib.hid (HasC.keep (w' := w3) HW.out (fun i e => b3.block i (HasC.lt HW.out i e).2))); (have B3 := Lib.hid (BW.out.trans (b3.mono hsz))); (have Z3 := Lib.hid (show RowAt w3 b13 (.slice Av m cv) rw' from (b3.block b13 ZW.out.lt).trans ZW.out)); (have z3 : w3.cell? ⟨b13, 0, none⟩ = some (.slice Av m cv) := Z3.out.get 0); (have hsz3 := B3.out.size); (have ba := (Below.refl w3.heap.size w3).alloc (Nat.le_refl _) (.cells #[.int .i32 32, .int .i64 1, .int .i64 0] 62)); (have z4 : (w3.alloc (.cells #[.int .i32 32, .int .i64 1, .int .i64 0] 62)).cell? ⟨b13, 0, none⟩ = some (.slice Av m cv) := (ba.cell (p := ⟨b13, 0, none⟩) Z3.out.lt).trans z3); (have H4 := Lib.hid (HasC.keep (w' := w3.alloc (.cells #[.int .i32 32, .int .i64 1, .int .i64 0] 62)) H3.out (fun i e => ba.block i (HasC.lt H3.out i e).2))); (have Z4 := Lib.hid (show RowAt (w3.alloc (.cells #[.int .i32 32, .int .i64 1, .int .i64 0] 62)) b13 (.slice Av m cv) rw' from (ba.block b13 Z3.out.lt).trans Z3.out)); (have B4 := Lib.hid (B3.out.trans (ba.mono hsz3))); (have SQ := Lib.hid (show Sq (w3.alloc (.cells #[.int .i32 32, .int .i64 1, .int .i64 0] 62)) (w3.alloc (.cells #[.int .i32 32, .int .i64 1, .int .i64 0] 62)).heap.size 3 1 (some ⟨w3.heap.size, 0, none⟩) (flat [(32, 1, 0)]) from ⟨rfl, fun _ => ⟨w3.heap.size, 0, rfl, by simp, fun j u hu => (cell_of_row _ _ _ _ _ (0, 0) (heap_alloc_new w3 _)).trans (by rw [Nat.zero_add, List.getElem?_toArray]; exact hu)⟩⟩)); (have OWN := Lib.hid (show World.ownsRow (w3.alloc (.cells #[.int .i32 32, .int .i64 1, .int .i64 0] 62)) w4.heap.size 62 3 (.slice Av m cv) m (flat L) from by have h := H4.out; unfold HasC at h; rwa [LM.out] at h)); (have TYO := Lib.hid (show ∀ k, (Value.slice Av m cv).ownBlock = some k → Typed (w3.alloc (.cells #[.int .i32 32, .int .i64 1, .int .i64 0] 62)) 62 k from typ_own H4.out)); (have BAS := Lib.hid (show w4.heap.size ≤ (w3.alloc (.cells #[.int .i32 32, .int .i64 1, .int .i64 0] 62)).heap.size from B4.out.size)); clear ba b3 b3' H3 B3 Z3 H4)
       | (refine step_app rfl _ _ 51 rfl w4.heap.size 62 i0 (.agg #[.int .i32 0, .int .i64 0, .int .i64 0]) 3 24 Tryz.underlying51 hi0 hz0 hz1 hz2 rfl (by decide) (.slice Av m cv) m (flat L) rfl OWN.out (some ⟨w3.heap.size, 0, none⟩) 1 1 (flat [(32, 1, 0)]) rfl (w3.alloc (.cells #[.int .i32 32, .int .i64 1, .int .i64 0] 62)).heap.size SQ.out (flat_one _) F24.1 F24.2 BAS.out ?_; intro A' c' w7 hown hg _; (have H5 := Lib.hid (show HasC w7 w4.heap.size (.slice A' (m + 1) c') (L ++ [(32, 1, 0)]) from by unfold HasC; rw [List.length_append, LM.out, flat_append]; exact hown)); (have B5 := Lib.hid (B4.out.grown hg B4.out.size (fun i e => (World.ownsRow.lt OWN.out i e).1))); (have Z5 := Lib.hid (show RowAt w7 b13 (.slice Av m cv) rw' from (hg.block b13 Z4.out.lt (fun e => (TYO.out b13 e.symm).apart (show Typed _ 58 b13 from ⟨_, _, Z4.out⟩) (by decide) rfl)).trans Z4.out)); (have z5 : w7.cell? ⟨b13, 0, none⟩ = some (.slice Av m cv) := Z5.out.get 0); (have f5 := Z5.out.free 0); clear hown hg))
      all_goals
       have Z8 := Lib.hid (show RowAt (w7.setCell ⟨b13, 0, none⟩ (.slice A' (m + 1) c')) b13 (.slice A' (m + 1) c') rw' from heap_setCell_same w7 b13 0 _ _ (.slice A' (m + 1) c') Z5.out)
       have O8 := OnlyRow.cell b13 0 w7 (.slice A' (m + 1) c')
       have H8 := Lib.hid (HasC.keep H5.out (fun k e => O8.block k (fun e2 => (typ_own H5.out k e).apart (show Typed w7 58 b13 from ⟨_, _, Z5.out⟩) (by decide) e2)))
       have B8 := Lib.hid (B5.out.trans ((Turned.ofOnly O8).toBelow B5.out.size (fun k hk e => by have := B13.out; omega)))
       clear O8 H5 B5 Z5 z5 f5 OWN SQ BAS TYO Z4
       go_wp2
       go_roundg (wn - (rn + (j + 1)))
       case measure => have := HJ.out; omega
       case rel => exact ⟨j + 1, _, rfl, .inr (by have := HJ.out; omega), Z8, by rw [blanksL_snoc, ← List.append_assoc, LL.out]; exact H8, B8⟩
     ·have hmw' : ¬ (m : Int) < (wn : Int) := by omega
      have hcut : L.take wn = cutL wn rl := by
       have e : j = wn - rl.length := by rw [RLL.out]; omega
       rw [← hL, e]
       exact pad_cut wn rl
      have hmc : (wn : Int) ≤ (cv : Int) := by omega
      have hwn0 : (0 : Int) ≤ (wn : Int) := by omega
      clear hL hm hLm hj hgk
      go_wp2_with fail
      go_quiet (fail)
      rename_i nq
      have BD : Below wr.heap.size wr (wr.drewN nq) := Below.drewN (Below.refl wr.heap.size wr) nq
      have ZW := Lib.hid (show RowAt (wr.drewN nq) b13 (.slice Av m cv) rw' from Z.out)
      have HW := Lib.hid (show HasC (wr.drewN nq) w4.heap.size (.slice Av m cv) L from H.out)
      have BW := Lib.hid (B.out.trans (BD.mono B.out.size))
      clear Z H B z0 p0 z0' p0' BD
      generalize wr.drewN nq = wq at ZW HW BW ⊢
      have z0 : wq.drew.cell? ⟨b13, 0, none⟩ = some (.slice Av m cv) := ZW.out.get 0
      have f0 : wq.drew.frozen? ⟨b13, 0, none⟩ = false := ZW.out.free 0
      have p0 : wq.drew.cell? ⟨p, 0, none⟩ = some (.int .i64 (wn : Int)) := (A4.out.laid BW.out).get 0
      go_upto_region 9 with fail
      go_region
      all_goals
       have Z8 := Lib.hid (show RowAt (wq.drew.setCell ⟨b13, 0, none⟩ (.slice Av wn cv)) b13 (.slice Av wn cv) rw' from heap_setCell_same wq.drew b13 0 _ _ (.slice Av wn cv) ZW.out)
       have O8 := OnlyRow.cell b13 0 wq.drew (.slice Av wn cv)
       have H8 := Lib.hid (HasC.keep (show HasC wq.drew w4.heap.size (.slice Av m cv) L from HW.out) (fun k e => O8.block k (fun e2 => (typ_own HW.out k e).apart (show Typed wq 58 b13 from ⟨_, _, ZW.out⟩) (by decide) e2)))
       have B8 := Lib.hid (BW.out.drew.trans ((Turned.ofOnly O8).toBelow BW.out.size (fun k hk e => by have := B13.out; omega)))
       change Exit.then _ _ Exit.normal _ (wq.drew.setCell ⟨b13, 0, none⟩ (.slice Av wn cv))
       clear O8 ZW HW BW z0 f0 p0
       generalize wq.drew.setCell ⟨b13, 0, none⟩ (.slice Av wn cv) = w8 at Z8 H8 B8 ⊢
       have SQ8 := Lib.hid (show Sq w8.drew w8.drew.heap.size 3 wn Av (flat (cutL wn rl)) from by
        have h := cells_take (HasC.sq H8.out) (m := wn) (by omega)
        rw [hcut] at h
        exact h.below (Below.refl _ _).drew)
       have OV := Lib.hid (show Calls Tryz.prog 62 #[rowV Av wn cv rw', .int .i64 0, .slice none 0 0] w8.drew fun e w' => OverPost rw' (fitL wn rl) w8.drew e w' from by
        have h := refOver_walk Av wn cv rw' (cutL wn rl) 0 none 0 0 [] w8.drew (by omega) (by omega) SQ8.out (Sq.nothing _ _ _ _) (by omega)
        rw [putO_none, fit_scan GD.out.2 (by omega)] at h
        exact h)
       have A8 := Lib.hid (A4.out.laid (B8.out.drew))
       have z80 : w8.drew.cell? ⟨b13, 0, none⟩ = some (.slice Av wn cv) := Z8.out.get 0
       have z81 : w8.drew.cell? ⟨b13, 1, none⟩ = some (.bool rw') := Z8.out.get 1
       have g2 : w8.drew.cell? ⟨p, 2, none⟩ = some (.slice (some ⟨g, 0, none⟩) hn cap) := by
        have := A8.out.get 2
        rw [this]
        show some (Value.slice (some ⟨g, 0, none⟩) (partRows R wn hn i).length cap) = _
        rw [partRows_length]
       have hpl : (partRows R wn hn i).length = hn := partRows_length _ _ _ _
       obtain ⟨y, hy, _⟩ := A8.out.at' (i := i) (by show i < (partRows R wn hn i).length; omega)
       have K10 := Lib.hid (show ∀ W, Below w8.drew.heap.size w8.drew W → W.cell? ⟨p, 2, none⟩ = some (.slice (some ⟨g, 0, none⟩) hn cap) ∧ W.cell? ⟨g, i * 2, none⟩ = some (.slice y.A y.n y.c) ∧ W.cell? ⟨g, i * 2 + 1, none⟩ = some (.bool y.wrap) ∧ W.frozen? ⟨g, i * 2, none⟩ = false ∧ W.frozen? ⟨g, i * 2 + 1, none⟩ = false from fun W b => by
        have a := A8.out.laid b
        refine ⟨?_, (a.row hy).1, (a.row hy).2, a.freeg _, a.freeg _⟩
        have := a.get 2
        rw [this]
        show some (Value.slice (some ⟨g, 0, none⟩) (partRows R wn hn i).length cap) = _
        rw [hpl])
       have ST := Lib.hid (show ∀ W A n c, Below w8.drew.heap.size w8.drew W → HasC W w8.drew.heap.size (.slice A n c) (fitL wn rl) → (∃ xs', RAt ((W.setCell ⟨g, i * 2, none⟩ (.slice A n c)).setCell ⟨g, i * 2 + 1, none⟩ (.bool rw')) p g cap tail ⟨wn, partRows R wn hn (i + 1), 0, 0, 0⟩ xs') ∧ Below w.heap.size w ((W.setCell ⟨g, i * 2, none⟩ (.slice A n c)).setCell ⟨g, i * 2 + 1, none⟩ (.bool rw')) ∧ ((W.setCell ⟨g, i * 2, none⟩ (.slice A n c)).setCell ⟨g, i * 2 + 1, none⟩ (.bool rw')).heap[b8]? = some (.cells #[.int .i64 ar, .int .i64 ac] 24 (0, 0)) from fun W A n c b hc => by
        have a := A8.out.laid b
        have pg := PG.out
        have hl8 : b8 < w4.heap.size := (Array.getElem?_eq_some_iff.1 Q4.out).1
        have b48 : Below w4.heap.size w4 W := B8.out.drew.trans (b.mono B8.out.size)
        have bw : Below w.heap.size w W := B4.out.trans (b48.mono B4.out.size)
        refine ⟨⟨xs.set i ⟨A, n, c, rw', fitL wn rl⟩, ?_⟩, (bw.setCell (p := ⟨g, i * 2, none⟩) pg.2.1 (.slice A n c)).setCell (p := ⟨g, i * 2 + 1, none⟩) pg.2.1 (.bool rw'), ?_⟩
        ·have hf : fitS wn R[i]? = (fitL wn rl, rw') := by
          rw [HRI.out]
          show (if mayL rl then (fitL wn rl, rw') else (blanksL wn, false)) = _
          rw [MB.out]; rfl
         have hok := OKP.out (i + 1)
         rw [← partRows_succ] at hok ⊢
         exact a.putRow (x := ⟨A, n, c, rw', fitL wn rl⟩) (f := fun _ => fitS wn R[i]?) hy hf.symm hok (HasC.mono hc (Nat.zero_le _))
        ·have e8 : b8 ≠ g := by omega
         rw [Below.heap_setCell _ _ _ _ (show b8 ≠ (⟨g, i * 2 + 1, none⟩ : Addr).block from e8), Below.heap_setCell _ _ _ _ (show b8 ≠ (⟨g, i * 2, none⟩ : Addr).block from e8), b48.block b8 hl8]
         exact Q4.out)
       clear hcut SQ8 H8 hy hpl A8 A4 B8 B4 Q4
       go_upto_region 10 with fail
       go_region_with (go_at_call 62; refine OV.out.mono ?_; rintro e w9 ⟨A9, n9, c9, rfl, hc9, b9⟩; (obtain ⟨k10, k20, k30, k40, k50⟩ := K10.out w9 b9); (have S9 := Lib.hid (ST.out w9 _ _ _ b9 hc9)); clear b9 hc9)
       all_goals
        go_wp2
        go_roundw
        case rel =>
         obtain ⟨⟨xs', a'⟩, b', q'⟩ := S9.out
         exact ⟨i + 1, xs', by first | rfl | (congr 1; done) | (congr 1; omega), by omega, by omega, Lib.hid a', Lib.hid b', Lib.hid q'⟩
        case measure => first | (simp [intOf]; done) | (simp [intOf]; omega)
  ·have hRl : R.length = n := by rw [← HR.out, List.length_map]; exact RL.out
   have AF := Lib.hid (show RAt wr p g cap tail ⟨wn, rowsOfS R wn hn, 0, 0, 0⟩ xs from by
    rw [← partRows_full (R := R) (w := wn) (h := hn) (i := i) (by omega)]
    exact AR.out)
   obtain ⟨X, hX⟩ : ∃ X, clampN ar 0 ((hn : Int) - 1) = X := ⟨_, rfl⟩
   obtain ⟨Y, hY⟩ : ∃ Y, clampN ac 0 (wn : Int) = Y := ⟨_, rfl⟩
   obtain ⟨am, ham⟩ : ∃ am, modA at' = am := ⟨_, rfl⟩
   have ha := modA_in at'
   rw [ham] at ha
   have hX1 : min (max ar 0) ((hn : Int) - 1) = (X : Int) := by rw [← hX]; unfold clampN; omega
   have hY1 : min (max ac 0) (wn : Int) = (Y : Int) := by rw [← hY]; unfold clampN; omega
   have hXr : X < hn := by omega
   have hYr : Y ≤ wn := by omega
   have eF : ofS R wd h ar ac at' = ⟨wn, rowsOfS R wn hn, X, Y, am⟩ := by
    unfold ofS
    rw [hwn, hhn, hX, hY, ham]
   have AD := AF.out.laid (Below.refl wr.heap.size wr).drew
   have hlen : (rowsOfS R wn hn).length = hn := rowsOfS_length _ _ _
   have AZ := ((AD.setRow (r := X) (by show X < (rowsOfS R wn hn).length; omega)).setCol (c := Y) hYr).setAttr ha.1 ha.2
   have pg := PG.out
   have FIN := Lib.hid (show ROf (ofS R wd h ar ac at') w (.returned (ptrS p)) (((wr.drew.setCell ⟨p, 3, none⟩ (.int .i64 (X : Int))).setCell ⟨p, 4, none⟩ (.int .i64 (Y : Int))).setCell ⟨p, 5, none⟩ (.int .i64 am)) from by
    rw [eF]
    exact ⟨p, g, cap, tail, xs, rfl, AZ, pg.1, pg.2.1, ((BR.out.drew.setCell (p := ⟨p, 3, none⟩) pg.1 _).setCell (p := ⟨p, 4, none⟩) pg.1 _).setCell (p := ⟨p, 5, none⟩) pg.1 _⟩)
   have c80 : wr.drew.cell? ⟨b8, 0, none⟩ = some (.int .i64 ar) := cell_of_row _ b8 0 _ _ (0, 0) QR.out
   have c81 : wr.drew.cell? ⟨b8, 1, none⟩ = some (.int .i64 ac) := cell_of_row _ b8 1 _ _ (0, 0) QR.out
   have p0 : wr.drew.cell? ⟨p, 0, none⟩ = some (.int .i64 (wn : Int)) := AD.get 0
   have p1 : wr.drew.cell? ⟨p, 1, none⟩ = some (.int .i64 (hn : Int)) := by
    rw [AD.get 1]
    show some (Value.int .i64 ((rowsOfS R wn hn).length : Int)) = _
    rw [hlen]
   have p3 : wr.drew.cell? ⟨p, 3, none⟩ = some (.int .i64 0) := AD.get 3
   have p4 : wr.drew.cell? ⟨p, 4, none⟩ = some (.int .i64 0) := AD.get 4
   have f3 := AD.free 3
   have f4 := AD.free 4
   have f5 := AD.free 5
   have p5 : wr.drew.cell? ⟨p, 5, none⟩ = some (.int .i64 0) := AD.get 5
   have hA2 : (at'.tmod 256 + 256).tmod 256 = am := (tmod256 at').trans ham
   have htm := tmod256_range at'
   have hA1 : IntKind.i64.wrap (at'.tmod 256 + 256) = at'.tmod 256 + 256 := IntWalk.i64_in _ (by omega)
   have hh1 : IntKind.i64.wrap ((hn : Int) - 1) = (hn : Int) - 1 := IntWalk.i64_in _ (by omega)
   clear AR hRl hX hY ham ha eF AD AZ pg hlen AF BR QR htm
   by_cases g1 : i < hn
   ·have g2 : ¬ (i : Int) < (n : Int) := by omega
    have g3 : (i : Int) < (hn : Int) := by omega
    clear hlt
    go_upto_region 11 with fail
    refine wp_region_still_tail 21 (by kernel_rfl) (by kernel_rfl) ?_
    rw [show ({ wr with drawn := wr.drawn + 1 } : World) = wr.drew from rfl]
    generalize wr.drew = wz at c80 c81 p1 p0 p3 p4 p5 f3 f4 f5 FIN ⊢
    simp only [List.take_succ_cons, List.take_zero, List.drop_succ_cons, List.drop_zero]
    repeat still_step
    refine wpStill_nil ?_
    go_wp2
    go_ret
    exact FIN.out
   ·have g3 : ¬ (i : Int) < (hn : Int) := by omega
    clear hlt
    go_upto_region 11 with fail
    refine wp_region_still_tail 21 (by kernel_rfl) (by kernel_rfl) ?_
    rw [show ({ wr with drawn := wr.drawn + 1 } : World) = wr.drew from rfl]
    generalize wr.drew = wz at c80 c81 p1 p0 p3 p4 p5 f3 f4 f5 FIN ⊢
    simp only [List.take_succ_cons, List.take_zero, List.drop_succ_cons, List.drop_zero]
    repeat still_step
    refine wpStill_nil ?_
    go_wp2
    go_ret
    exact FIN.out
end Sc
