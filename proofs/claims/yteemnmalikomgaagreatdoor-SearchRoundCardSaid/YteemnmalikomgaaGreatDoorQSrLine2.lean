import Derived.Test.YteemnmalikomgaaGreatDoorQSrBase16
set_option maxRecDepth 100000
set_option maxHeartbeats 6400000
namespace Go.Proofs.YteemnmalikomgaaGreatDoor
open Go.ChangeShapes Go.WideShapes Go.ChangeAt Go.RowKit
namespace Lm
open Rw Ln
abbrev Laid' (A B : World) : Prop := Below A.heap.size A B
theorem own_keep {w w' : World} {base : Nat} {e : TypeId} {size n : Nat} {v : Value} {xs : List Value} (h : w.ownsRow base e size v n xs) (hk : ∀ k, v.ownBlock = some k → w'.heap[k]? = w.heap[k]?) : w'.ownsRow base e size v n xs := by
 refine ⟨h.1, ?_⟩
 rcases h.2 with e1 | ⟨g, cap, cur, rfl, hb, hg, r⟩
 ·exact .inl e1
 ·exact .inr ⟨g, cap, cur, rfl, hb, (hk g rfl).trans hg, r⟩
theorem own_down {w : World} {base base' : Nat} {e : TypeId} {size n : Nat} {v : Value} {xs : List Value} (h : w.ownsRow base e size v n xs) (hb : base' ≤ base) : w.ownsRow base' e size v n xs := by
 refine ⟨h.1, ?_⟩
 rcases h.2 with e1 | ⟨g, cap, cur, rfl, h2, r⟩
 ·exact .inl e1
 ·exact .inr ⟨g, cap, cur, rfl, Nat.le_trans hb h2, r⟩
theorem own_laid {w w' : World} {base : Nat} {e : TypeId} {size n : Nat} {v : Value} {xs : List Value} (h : w.ownsRow base e size v n xs) (hb : Below w.heap.size w w') : w'.ownsRow base e size v n xs := own_keep h fun k hk => hb.block k (h.lt k hk).2
theorem own_cap {w : World} {B : Nat} {e : TypeId} {s n : Nat} {v : Value} {xs : List Value} (h : w.ownsRow B e s v n xs) : ∃ A c, v = .slice A n c ∧ n ≤ c := by
 rcases h.2 with ⟨rfl, h0⟩ | ⟨g, cap, cur, rfl, _, _, hc, _⟩
 ·rw [h0]; exact ⟨_, _, rfl, Nat.le_refl _⟩
 ·exact ⟨_, _, rfl, hc⟩
theorem own_type {w : World} {base : Nat} {e : TypeId} {size n : Nat} {v : Value} {xs : List Value} (h : w.ownsRow base e size v n xs) : ∀ j, v.ownBlock = some j → ∃ cur, w.heap[j]? = some (.cells cur e (0, 0)) := by
 intro j hj
 rcases h.2 with ⟨rfl, _⟩ | ⟨g, cap, cur, rfl, _, hg, _⟩
 ·cases hj
 ·injection hj with hj
  subst hj
  exact ⟨_, hg⟩
theorem own_ne {w : World} {b1 b2 : Nat} {e1 e2 : TypeId} {s1 s2 n1 n2 : Nat} {v1 v2 : Value} {xs1 xs2 : List Value} (h1 : w.ownsRow b1 e1 s1 v1 n1 xs1) (h2 : w.ownsRow b2 e2 s2 v2 n2 xs2) (he : e1 ≠ e2) : ∀ j, v1.ownBlock = some j → v2.ownBlock ≠ some j := by
 intro j hj hj2
 obtain ⟨c1, k1⟩ := own_type h1 j hj
 obtain ⟨c2, k2⟩ := own_type h2 j hj2
 rw [k1] at k2
 injection k2 with k2
 injection k2 with _ k2 _
 exact he k2
theorem infoSl : (Tryz.prog.info? 68).map (fun i => (i.zero, i.size, i.bytes)) = some (some (.slice none 0 0), 1, 24) := by kernel_rfl
structure Lns (W : World) (B : Nat) (v : Value) (vs : List Value) (ls : List (List Cel)) : Prop where
 own : W.ownsRow B 68 1 v ls.length vs
 each : ∀ (i : Nat) (x : Value) (l : List Cel), vs[i]? = some x → ls[i]? = some l → HasC W B x l
namespace Lns
variable {W W' : World} {B : Nat} {v v' x : Value} {vs : List Value} {ls : List (List Cel)} {l : List Cel}
theorem nothing (W : World) (B : Nat) : Lns W B (.slice none 0 0) [] [] := ⟨World.ownsRow_nil _ _ _ _, fun i x l h => by simp at h⟩
theorem len (h : Lns W B v vs ls) : vs.length = ls.length := by have := h.own.1; omega
theorem keep (h : Lns W B v vs ls) (hk : ∀ j, B ≤ j → j < W.heap.size → W'.heap[j]? = W.heap[j]?) : Lns W' B v vs ls :=
 ⟨own_keep h.own fun j hj => hk j (h.own.lt j hj).1 (h.own.lt j hj).2, fun i x l hx hl => own_keep (h.each i x l hx hl) fun j hj => by
  have hh : W.ownsRow B 76 3 x l.length (flat l) := h.each i x l hx hl
  exact hk j (hh.lt j hj).1 (hh.lt j hj).2⟩
theorem laid (h : Lns W B v vs ls) (hb : Laid' W W') : Lns W' B v vs ls := h.keep fun j _ hj => hb.block j hj
theorem snoc (h : Lns W B v vs ls) (hx : HasC W B x l) (ho : W'.ownsRow B 68 1 v' (ls.length + 1) (vs ++ [x])) (hg : W.grownBy W' v.ownBlock) : Lns W' B v' (vs ++ [x]) (ls ++ [l]) := by
 have keepc : ∀ {y : Value} {m : List Cel}, HasC W B y m → HasC W' B y m := fun {y m} hy => own_keep hy fun j hj => by
  have hh : W.ownsRow B 76 3 y m.length (flat m) := hy
  exact hg.block j (hh.lt j hj).2 (fun e => own_ne hh h.own (by decide) j hj e.symm)
 refine ⟨by rw [List.length_append, List.length_singleton]; exact ho, fun i y m hy hm => ?_⟩
 have hl := h.len
 by_cases hi : i < ls.length
 ·rw [List.getElem?_append_left (by omega)] at hy
  rw [List.getElem?_append_left hi] at hm
  exact keepc (h.each i y m hy hm)
 ·have hi2 := (List.getElem?_eq_some_iff.1 hm).1
  rw [List.length_append, List.length_singleton] at hi2
  obtain rfl : i = ls.length := by omega
  rw [List.getElem?_append_right (by omega), hl, Nat.sub_self] at hy
  rw [List.getElem?_append_right (Nat.le_refl _), Nat.sub_self] at hm
  simp at hy hm
  subst hy hm
  exact keepc hx
end Lns
theorem sq_takeC {w : World} {B n m : Nat} {A : Option Addr} {l : List Cel} (hq : Sq w B 3 n A (flat l)) (hm : m ≤ n) : Sq w B 3 m A (flat (l.take m)) := by
 have hl := hq.len
 rw [flat_length] at hl
 refine ⟨by rw [flat_length, List.length_take]; omega, fun h => ?_⟩
 obtain ⟨b, off, e, hb, hcell⟩ := hq.spot (by omega)
 refine ⟨b, off, e, hb, fun j u hu => hcell j u ?_⟩
 rw [flat_take, List.getElem?_take] at hu
 split at hu
 ·exact hu
 ·cases hu
theorem cell_single (w : World) (e : TypeId) (x : Value) : ∀ (j : Nat) (u : Value), [x][j]? = some u → (w.alloc (.cells #[x] e)).cell? ((⟨w.heap.size, 0, none⟩ : Addr).add j) = some u := by
 intro j u hu
 rw [add_at, Nat.zero_add, cell_of_row _ _ _ _ _ (0, 0) (heap_alloc_new w _)]
 match j, hu with
 | 0, hu => exact hu
 | j + 1, hu => simp at hu
theorem sq_single (w : World) (e : TypeId) (x : Value) : Sq (w.alloc (.cells #[x] e)) (w.heap.size + 1) 1 1 (some ⟨w.heap.size, 0, none⟩) [x] :=
 ⟨rfl, fun _ => ⟨w.heap.size, 0, rfl, Nat.lt_succ_self _, fun j u hu => by
  have h := cell_single w e x j u hu
  rw [add_at] at h
  exact h⟩⟩
def cutLs (ls : List LineIn) : List (List Cel) := (ls.map fun x => x.l.take 40).filter lineB
theorem cutLs_next {ls : List LineIn} {k : Nat} {x : LineIn} (h : ls[k]? = some x) : cutLs (ls.take (k + 1)) = cutLs (ls.take k) ++ if lineB (x.l.take 40) then [x.l.take 40] else [] := by
 unfold cutLs
 rw [take_one h, List.map_append, List.filter_append]
 cases hb : lineB (x.l.take 40) <;> simp [hb]
theorem cutLs_len (ls : List LineIn) : (cutLs ls).length ≤ ls.length := by
 unfold cutLs
 have := List.length_filter_le lineB (ls.map fun x => x.l.take 40)
 rw [List.length_map] at this
 exact this
theorem cutLs_each {ls : List LineIn} {y : List Cel} (h : y ∈ cutLs ls) : lineB y = true ∧ y.length ≤ 40 := by
 unfold cutLs at h
 obtain ⟨h1, h2⟩ := List.mem_filter.1 h
 obtain ⟨x, _, rfl⟩ := List.mem_map.1 h1
 exact ⟨h2, by rw [List.length_take]; omega⟩
def drawnLs (ls : List LineIn) : List (List Cel) := cutLs (ls.take 10)
theorem lines10_walk (A : Option Addr) (n c : Nat) (ls : List LineIn) (w : World) (hs : ∀ x ∈ ls, x.Ok w w.heap.size) (hq : Sq w w.heap.size 1 n A (ls.flatMap LineIn.vals)) (hn : n ≤ maxLen) :
  Calls Tryz.prog 31 #[.slice A n c] w fun e w' => ∃ v vs, e = .returned v ∧ Lns w' w.heap.size v vs (drawnLs ls) ∧ Below w.heap.size w w' := by
 obtain ⟨i0, hi0, hz0, hz1, hz2⟩ := info_parts infoCell
 obtain ⟨i1, hi1, hy0, hy1, hy2⟩ := info_parts infoSl
 have Q := Lib.hid hq
 have EO := Lib.hid hs
 have LN := Lib.hid (lines_len hq)
 have I0 := Lib.hid (Below.refl w.heap.size w)
 unfold maxLen at hn
 clear hq hs
 go_enter Tryz.func31, Tryz.ntmps31
 go_wp2_with fail
 go_loopw [3, 4] (fun v i wr => ∃ (k p d : Nat) (A3 : Option Addr) (vs : List Value), v = .slice A3 p d ∧ i = .int .i64 (k : Int) ∧ k ≤ n ∧ k ≤ 10 ∧ p ≤ k ∧ Hid (Below w.heap.size w wr) ∧ Hid (Lns wr w.heap.size (.slice A3 p d) vs (cutLs (ls.take k)) ∧ (cutLs (ls.take k)).length = p)) (fun _ i _ => 10 - (intOf i).toNat)
 case atStart => exact ⟨0, 0, 0, none, [], rfl, rfl, Nat.zero_le _, Nat.zero_le _, Nat.le_refl _, I0, Lib.hid ⟨Lns.nothing _ _, rfl⟩⟩
 case round =>
  obtain ⟨k, p, d, A3, vs, rfl, rfl, hk, hk10, hpk, I, O⟩ := hrel
  clear I0
  by_cases hlt : k < n
  ·by_cases hlt2 : k < 10
   ·obtain ⟨⟨xA, xn, xc, xl⟩, hx⟩ : ∃ x, ls[k]? = some x := ⟨_, List.getElem?_eq_getElem (by rw [LN.out]; exact hlt)⟩
    obtain ⟨b, off, rfl, hb, q0⟩ := lines_at Q.out hx hlt
    have ok := (EO.out _ (List.mem_of_getElem? hx)).below I.out
    have okl := ok.le
    have okc := ok.cap
    dsimp only at okl okc q0
    obtain ⟨m, hm⟩ : ∃ m : Nat, min (xn : Int) 40 = (m : Int) := ⟨min xn 40, by omega⟩
    have hm1 : m ≤ xn := by omega
    have hm2 : m ≤ 40 := by omega
    have hmc : m ≤ xc := by omega
    have hxl : xl.length = xn := by have h := ok.sq.len; rw [flat_length] at h; dsimp only at h; omega
    have htk : xl.take 40 = xl.take m := by
     by_cases h40 : xn ≤ 40
     ·rw [List.take_of_length_le (by omega), List.take_of_length_le (by omega)]
     ·rw [show m = 40 by omega]
    have CN := Lib.hid (show cutLs (ls.take (k + 1)) = cutLs (ls.take k) ++ if lineB (xl.take m) then [xl.take m] else [] from by rw [cutLs_next hx, htk])
    have hlm : (xl.take m).length = m := by rw [List.length_take]; omega
    have CQ := Lib.hid (show Sq wr wr.heap.size 3 m xA (flat (xl.take m)) from (sq_takeC ok.sq hm1).up I.out.size)
    have SG := Lib.hid (show ∀ c ∈ xl.take m, -2147483648 ≤ c.1 ∧ c.1 ≤ 2147483647 from fun c hc => ok.signs c (List.mem_of_mem_take hc))
    generalize xl.take m = cl at CN hlm CQ SG
    have HLM := Lib.hid hlm
    have HI := Lib.hid hb
    have r0 : ∀ q, (wr.drewN q).cell? ⟨b, off + k, none⟩ = some (.slice xA xn xc) := fun q => (I.out.cell (p := ⟨b, off + k, none⟩) hb).trans q0
    have hki : (k : Int) < (n : Int) := by omega
    have hki2 : (k : Int) < 10 := by omega
    have hk0 : (0 : Int) ≤ (k : Int) := by omega
    clear hx q0 ok hxl htk hlm hb
    go_wp2_with fail
    go_quiet (fail)
    have DQ : Laid' wr (wr.drewN nq) := ⟨rfl, rfl, rfl, Nat.le_refl _, fun _ _ => rfl⟩
    generalize wr.drewN nq = wq at DQ ⊢
    have IQ := Lib.hid (I.out.trans (DQ.mono I.out.size))
    have OQ := Lib.hid (O.out.1.laid DQ)
    have CQ2 := Lib.hid ((CQ.out.below DQ).up DQ.size)
    have RL := Lib.hid (refLine_walk xA m xc cl wq SG.out CQ2.out (by omega))
    clear DQ r0 I CQ
    go_wp2_with fail
    refine RL.out.mono ?_
    rintro e w2 ⟨rfl, b2⟩
    have I2 := Lib.hid (IQ.out.trans (b2.mono IQ.out.size))
    have O2 := Lib.hid (OQ.out.laid b2)
    have CQ3 := Lib.hid ((CQ2.out.below b2).up b2.size)
    clear b2 RL IQ OQ CQ2
    cases hlb : lineB cl with
    | false =>
     have CN2 := Lib.hid (show cutLs (ls.take (k + 1)) = cutLs (ls.take k) from by rw [CN.out, hlb]; simp)
     clear hlb
     go_wp2
     go_roundw
     case rel => exact ⟨k + 1, p, d, A3, vs, by trivial, by go_num, by omega, by omega, by omega, I2, Lib.hid (by rw [CN2.out]; exact ⟨O2.out, O.out.2⟩)⟩
     case measure => simp [intOf]; omega
    | true =>
     have CN2 := Lib.hid (show cutLs (ls.take (k + 1)) = cutLs (ls.take k) ++ [cl] from by rw [CN.out, hlb]; simp)
     have OW := Lib.hid (show w2.ownsRow w.heap.size 68 1 (.slice A3 p d) p vs from by have h := O2.out.own; rwa [O.out.2] at h)
     have F1 := Lib.hid (show 0 + m ≤ maxLen ∧ (0 + m) * 24 ≤ 140737488355328 from by unfold maxLen; omega)
     have F2 := Lib.hid (show p + 1 ≤ maxLen ∧ (p + 1) * 24 ≤ 140737488355328 from by unfold maxLen; omega)
     have IZ := Lib.hid I2.out.size
     clear hlb
     go_wp2_with (first
      | (at_builtin; refine wpl_app rfl _ _ 68 rfl w2.heap.size 76 i0 (.agg #[.int .i32 0, .int .i64 0, .int .i64 0]) 3 24 Tryz.underlying68 hi0 hz0 hz1 hz2 rfl (by decide) (.slice none 0 0) 0 [] rfl (World.ownsRow_nil _ _ _ _) xA m xc (flat cl) rfl w2.heap.size CQ3.out (flat_one _) F1.out.1 F1.out.2 (Nat.le_refl _) ?_; intro v4 w4 ho4 hg4 _; (rw [Nat.zero_add, List.nil_append] at ho4); (obtain ⟨A4, d4, rfl, _⟩ := own_cap ho4); (have O4 := Lib.hid ho4); (have B4 := Lib.hid (show Laid' w2 w4 from (Below.refl _ _).grown hg4 (Nat.le_refl _) (fun j e => by cases e))); (have P4 := Lib.hid (own_laid OW.out B4.out)); (have Z4 := Lib.hid (show w.heap.size ≤ w4.heap.size from Nat.le_trans IZ.out B4.out.size)); clear ho4 hg4)
      | (at_builtin; refine wpl_app rfl _ _ 56 rfl w.heap.size 68 i1 (.slice none 0 0) 1 24 Tryz.underlying56 hi1 hy0 hy1 hy2 rfl (by decide) (.slice A3 p d) p vs rfl (P4.out.alloc _) (some ⟨w4.heap.size, 0, none⟩) 1 1 [.slice A4 m d4] rfl (w4.heap.size + 1) (sq_single _ _ _) (by simp [Value.oneCell']) F2.out.1 F2.out.2 (by have := Z4.out; simp; omega) ?_; intro v5 w5 ho5 hg5 _; (obtain ⟨A5, d5, rfl, _⟩ := own_cap ho5); (have O5 := Lib.hid ho5); (have G5 := Lib.hid hg5); clear ho5 hg5))
     go_roundw
     case rel =>
      have ba : Laid' w4 (w4.alloc (.cells #[.slice A4 m d4] 68)) := (Below.refl _ _).alloc (Nat.le_refl _) _
      have hb4 : Below w.heap.size w w4 := I2.out.trans (B4.out.mono I2.out.size)
      have hc4 : HasC (w4.alloc (.cells #[.slice A4 m d4] 68)) w.heap.size (.slice A4 m d4) cl := by
       have h : w4.ownsRow w2.heap.size 76 3 (.slice A4 m d4) cl.length (flat cl) := by rw [HLM.out]; exact O4.out
       exact own_down (own_laid h ba) IZ.out
      refine ⟨k + 1, p + 1, d5, A5, vs ++ [.slice A4 m d4], by trivial, by go_num, by omega, by omega, by omega, Lib.hid ?_, Lib.hid ?_⟩
      ·exact (hb4.trans (ba.mono hb4.size)).grown G5.out (by have := Z4.out; simp; omega) (fun j e => (P4.out.lt j e).1)
      ·rw [CN2.out]
       refine ⟨Lns.snoc ((O2.out.laid B4.out).laid ba) hc4 ?_ G5.out, by rw [List.length_append, O.out.2]; rfl⟩
       rw [O.out.2]
       exact O5.out
     case measure => simp [intOf]; omega
   ·obtain rfl : k = 10 := by omega
    have FN := Lib.hid (show Lns wr w.heap.size (.slice A3 p d) vs (drawnLs ls) from O.out.1)
    have hki : (10 : Int) < (n : Int) := by omega
    go_wp2
    go_ret
    exact ⟨_, vs, rfl, FN.out, I.out⟩
  ·obtain rfl : k = n := by omega
   have FN := Lib.hid (show Lns wr w.heap.size (.slice A3 p d) vs (drawnLs ls) from by
    have h := O.out.1
    have e1 : ls.take k = ls := List.take_of_length_le (by rw [LN.out]; exact Nat.le_refl _)
    have e2 : ls.take 10 = ls := List.take_of_length_le (by rw [LN.out]; exact hk10)
    unfold drawnLs
    rw [e2]
    rwa [e1] at h)
   have hnl : ¬ (k : Int) < (k : Int) := by omega
   go_wp2
   go_ret
   first | exact ⟨_, vs, rfl, FN.out, I.out⟩ | exact ⟨_, rfl, ⟨vs, FN.out⟩, I.out⟩
theorem Lns.lat {W : World} {B : Nat} {v : Value} {vs : List Value} {ls : List (List Cel)} (h : Lns W B v vs ls) (hs : ∀ l ∈ ls, l.length ≤ 1000000) : ∃ A c, v = .slice A ls.length c ∧ NF.Lat W W.heap.size A ls := by
 obtain ⟨A, c, rfl, _⟩ := own_cap h.own
 refine ⟨A, c, rfl, fun i l hl => ?_, hs⟩
 have hi := (List.getElem?_eq_some_iff.1 hl).1
 have hlen := h.len
 obtain ⟨x, hx⟩ : ∃ x, vs[i]? = some x := ⟨_, List.getElem?_eq_getElem (by omega)⟩
 obtain ⟨b, off, e, hb, hc⟩ := (Sq.own h.own).spot (by omega)
 have hh : W.ownsRow B 76 3 x l.length (flat l) := h.each i x l hx hl
 obtain ⟨A', c', rfl, hcc⟩ := own_cap hh
 exact ⟨b, off, A', c', e, hb, hc i _ hx, hcc, Sq.own hh⟩
theorem drawnLs_len (ls : List LineIn) : (drawnLs ls).length ≤ 10 := by
 have := cutLs_len (ls.take 10)
 unfold drawnLs
 rw [List.length_take] at this
 omega
end Lm
