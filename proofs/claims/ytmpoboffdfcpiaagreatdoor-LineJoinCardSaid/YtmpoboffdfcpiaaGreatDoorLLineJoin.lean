/-
  The statement LineJoin: rows of two panes, one behind the other, where the last one of the first ones does not go on: their lines are the lines of both. For every two lists of rows (of which the statement reads the first fourteen, and 310 cells of each); it holds where the table of widths is as its initialiser lays it, which the card ties to the program's text.
-/
import Derived.Test.YtmpoboffdfcpiaaGreatDoorQJEvZ0
import Derived.Test.YtmpoboffdfcpiaaGreatDoorQJBase0
import Derived.Test.YtmpoboffdfcpiaaGreatDoorQJLine1
import Derived.Test.YtmpoboffdfcpiaaGreatDoorQJLine2
import Derived.Test.YtmpoboffdfcpiaaGreatDoorQJRefRow1
import Derived.Test.YtmpoboffdfcpiaaGreatDoorQJBase1
namespace Go.Proofs.YtmpoboffdfcpiaaGreatDoor.lineJoin
open Go.ChangeShapes Go.WideShapes Go.ChangeAt Go.RowKit
open Rw Ln
set_option maxRecDepth 100000 in
set_option maxHeartbeats 12800000 in
theorem walk (A : Option Addr) (n c : Nat) (l : List RowIn) (_hc : n ≤ c) (hm : c ≤ maxLen) (A' : Option Addr) (n' c' : Nat) (l' : List RowIn) (_hc' : n' ≤ c') (hm' : c' ≤ maxLen) (w : World) (hs : Spans w) (hr : ∀ r ∈ l, r.Ok w w.heap.size) (hq : Sq w w.heap.size 2 n A (l.flatMap RowIn.vals)) (hr' : ∀ r ∈ l', r.Ok w w.heap.size) (hq' : Sq w w.heap.size 2 n' A' (l'.flatMap RowIn.vals)) :
  Calls Tryz.prog 12 #[.slice A n c, .slice A' n' c'] w fun e w' => e = .returned (.bool true) ∧ Below w.heap.size w w' := by
 obtain ⟨i0, hi0, hz0, hz1, hz2⟩ := info_parts infoRw
 obtain ⟨i1, hi1, hy0, hy1, hy2⟩ := info_parts infoSl
 have S := Lib.hid hs
 have R := Lib.hid (show Rws w w.heap.size A n l from ⟨hr, hq⟩)
 have R' := Lib.hid (show Rws w w.heap.size A' n' l' from ⟨hr', hq'⟩)
 have N1 := Lib.hid (Nat.le_trans _hc hm)
 have N2 := Lib.hid (Nat.le_trans _hc' hm')
 clear hs hr hq hr' hq' _hc hm _hc' hm'
 go_enter Tryz.func12, Tryz.ntmps12
 go_wp2_with fail
 refine (Ev.Trues.at Ev.begun10 w S.out).mono ?_
 rintro e w1 ⟨rfl, b1⟩
 have B1 := Lib.hid b1
 have RW := Lib.hid (rows10_walk A n c l w1 ((R.out.below b1).up b1.size) N1.out)
 clear b1
 go_wp2_with fail
 refine RW.out.mono ?_
 rintro e w2 ⟨v2, ra, rfl, o2, m2, b2⟩
 obtain ⟨A2, c2, rfl, hc2⟩ := o2.shape
 obtain ⟨n2, hn2⟩ : ∃ n2, ra.length = n2 := ⟨_, rfl⟩
 have B2 := Lib.hid (B1.out.trans (b2.mono B1.out.size))
 have O2 := Lib.hid o2
 have M2 := Lib.hid m2
 have HN2 := Lib.hid hn2
 rw [hn2] at O2 hc2 ⊢
 have G2 := Lib.hid (show w2.ownsRow w1.heap.size 58 2 (.slice A2 n2 c2) n2 (ra.flatMap RowIn.vals) from by have := O2.out.own; rwa [hn2] at this)
 clear o2 m2 b2 RW hn2
 have RW := Lib.hid (rows10_walk A' n' c' l' w2 ((R'.out.below B2.out).up B2.out.size) N2.out)
 go_wp2_with fail
 refine RW.out.mono ?_
 rintro e w3 ⟨v3, rb, rfl, o3, m3, b3⟩
 obtain ⟨A3, c3, rfl, hc3⟩ := o3.shape
 obtain ⟨n3, hn3⟩ : ∃ n3, rb.length = n3 := ⟨_, rfl⟩
 have B3 := Lib.hid (B2.out.trans (b3.mono B2.out.size))
 have O3 := Lib.hid o3
 have M3 := Lib.hid m3
 have HN3 := Lib.hid hn3
 rw [hn3] at O3 hc3 ⊢
 have P3 := Lib.hid (O2.out.laid b3)
 have Z12 := Lib.hid (And.intro B1.out.size b3.size)
 clear o3 m3 b3 RW hn3 O2
 have L2 := Lib.hid (show n2 ≤ 14 from by
  have := congrArg List.length M2.out
  unfold drawnRs at this
  rw [List.length_map, List.length_map, List.length_take, HN2.out] at this
  omega)
 have L3 := Lib.hid (show n3 ≤ 14 from by
  have := congrArg List.length M3.out
  unfold drawnRs at this
  rw [List.length_map, List.length_map, List.length_take, HN3.out] at this
  omega)
 have hn14 := L2.out
 have hcz : n2 ≤ c2 := hc2
 have HC3 := Lib.hid hc3
 clear R R' N1 N2 B1 B2
 rcases Nat.eq_zero_or_pos n2 with h0 | h0
 ·have hpos : ¬ (0 : Int) < (n2 : Int) := by omega
  have H00 := Lib.hid h0
  clear h0
  have PA := P3
  have PB := O3
  have BW := B3
  have HA := HN2
  have LG := Lib.hid (show ∀ r, (ra.map lr).getLast? = some r → Ln.goes r = false from fun r h => by
   rw [List.length_eq_zero_iff.1 (HN2.out.trans H00.out)] at h
   cases h)
  have RA := Lib.hid (show Rws w3 w3.heap.size A2 n2 ra from (PA.out.rws).2)
  have RB := Lib.hid (show Rws w3 w3.heap.size A3 n3 rb from (PB.out.rws).2)
  have F1 := Lib.hid (show 0 + n2 ≤ maxLen ∧ (0 + n2) * 32 ≤ 140737488355328 from by have := L2.out; unfold maxLen; omega)
  have F2 := Lib.hid (show n2 + n3 ≤ maxLen ∧ (n2 + n3) * 32 ≤ 140737488355328 from by have := L2.out; have := L3.out; unfold maxLen; omega)
  go_wp2_with (first
   | (at_builtin; refine wpl_app rfl _ _ 22 rfl w3.heap.size 58 i0 (.agg #[.slice none 0 0, .bool false]) 2 32 Tryz.underlying22 hi0 hz0 hz1 hz2 rfl (by decide) (.slice none 0 0) 0 [] rfl (World.ownsRow_nil _ _ _ _) A2 n2 c2 (ra.flatMap RowIn.vals) rfl w3.heap.size RA.out.sq (rvals_one _) F1.out.1 F1.out.2 (Nat.le_refl _) ?_; intro v6 w6 ho6 hg6 _; (rw [Nat.zero_add, List.nil_append] at ho6); (obtain ⟨A6, c6, rfl, _⟩ := own_cap ho6); (have O6 := Lib.hid ho6); (have B6 := Lib.hid (show Below w3.heap.size w3 w6 from (Below.refl _ _).grown hg6 (Nat.le_refl _) (fun j e => by cases e))); clear ho6 hg6)
   | (at_builtin; refine wpl_app rfl _ _ 22 rfl w3.heap.size 58 i0 (.agg #[.slice none 0 0, .bool false]) 2 32 Tryz.underlying22 hi0 hz0 hz1 hz2 rfl (by decide) (.slice A6 n2 c6) n2 (ra.flatMap RowIn.vals) rfl O6.out A3 n3 c3 (rb.flatMap RowIn.vals) rfl w3.heap.size (RB.out.sq.below B6.out) (rvals_one _) F2.out.1 F2.out.2 B6.out.size ?_; intro v7 w7 ho7 hg7 _; (obtain ⟨A7, c7, rfl, hc7⟩ := own_cap ho7); (have O7 := Lib.hid ho7); (have B7 := Lib.hid (show Below w3.heap.size w3 w7 from B6.out.grown hg7 B6.out.size (fun j e => (O6.out.lt j e).1))); (have C7 := Lib.hid hc7); clear ho7 hg7 hc7))
  have RS := Lib.hid (show Rws w7 w7.heap.size A7 (n2 + n3) (ra ++ rb) from by
   refine ⟨fun y hy => ?_, ?_⟩
   ·rcases List.mem_append.1 hy with hy | hy
    ·exact ((RA.out.each y hy).below B7.out).up B7.out.size
    ·exact ((RB.out.each y hy).below B7.out).up B7.out.size
   ·have h7 := Sq.own O7.out
    rwa [← List.flatMap_append] at h7)
  have BW7 := Lib.hid (BW.out.trans (B7.out.mono BW.out.size))
  refine (join_walk A7 (n2 + n3) c7 (ra ++ rb) w7 (S.out.below BW7.out S.out.size) RS.out C7.out (by have := L2.out; have := L3.out; omega)).mono ?_
  rintro e w8 ⟨v8, vs8, rfl, l8, b8⟩
  have LL8 := Lib.hid l8
  have B8 := Lib.hid (B7.out.trans (b8.mono B7.out.size))
  have BW8 := Lib.hid (BW7.out.trans (b8.mono BW7.out.size))
  have HA2 := Lib.hid hcz
  clear b8 l8 O6 O7 RS
  go_wp2_with fail
  refine (join_walk A2 n2 c2 ra w8 (S.out.below BW8.out S.out.size) ((RA.out.below B8.out).up B8.out.size) HA2.out (by have := L2.out; omega)).mono ?_
  rintro e w9 ⟨v9, vs9, rfl, l9, b9⟩
  have LL9 := Lib.hid l9
  have B89 := Lib.hid b9
  have B9 := Lib.hid (B8.out.trans (b9.mono B8.out.size))
  have BW9 := Lib.hid (BW8.out.trans (b9.mono BW8.out.size))
  clear b9 l9
  go_wp2_with fail
  refine (join_walk A3 n3 c3 rb w9 (S.out.below BW9.out S.out.size) ((RB.out.below B9.out).up B9.out.size) HC3.out (by have := L3.out; omega)).mono ?_
  rintro e w10 ⟨v10, vs10, rfl, l10, b10⟩
  have J8 := Lib.hid (joinL_append (a := ra.map lr) (b := rb.map lr) LG.out)
  have N8 := Lib.hid (joinL_len (rs := ra.map lr) (N := 1000000) (by rw [List.length_map, HA.out]; have := L2.out; omega))
  have N9 := Lib.hid (joinL_len (rs := rb.map lr) (N := 1000000) (by rw [List.length_map, HN3.out]; have := L3.out; omega))
  have NL := Lib.hid (show (joinL (ra.map lr)).length ≤ 14 ∧ (joinL (rb.map lr)).length ≤ 14 from by
   have h1 := parts_length_le (ra.map lr)
   have h2 := parts_length_le (rb.map lr)
   rw [List.length_map, HA.out] at h1
   rw [List.length_map, HN3.out] at h2
   have := L2.out
   have := L3.out
   unfold joinL
   rw [List.length_map, List.length_map]
   omega)
  rw [List.map_append] at LL8
  generalize joinL (ra.map lr ++ rb.map lr) = j8 at LL8 J8
  generalize joinL (ra.map lr) = j9 at LL9 J8 N8 NL
  generalize joinL (rb.map lr) = j10 at l10 J8 N9 NL
  obtain ⟨A8, c8, rfl, _⟩ := own_cap LL8.out.own
  obtain ⟨A9, c9, rfl, _⟩ := own_cap LL9.out.own
  obtain ⟨A10, c10, rfl, _⟩ := own_cap l10.own
  have LL10 := Lib.hid l10
  have B910 := Lib.hid b10
  have BW10 := Lib.hid (BW9.out.trans (b10.mono BW9.out.size))
  have L910 := Lib.hid (LL9.out.laid b10)
  have F3 := Lib.hid (show j9.length + j10.length ≤ maxLen ∧ (j9.length + j10.length) * 24 ≤ 140737488355328 from by have := NL.out; unfold maxLen; omega)
  have Z9 := Lib.hid (show w8.heap.size ≤ w10.heap.size from Nat.le_trans B89.out.size B910.out.size)
  clear b10 l10 LL9
  go_wp2_with (at_builtin; refine wpl_app rfl _ _ 37 rfl w8.heap.size 51 i1 (.slice none 0 0) 1 24 Tryz.underlying37 hi1 hy0 hy1 hy2 rfl (by decide) (.slice A9 j9.length c9) j9.length vs9 rfl L910.out.own A10 j10.length c10 vs10 rfl w10.heap.size (Sq.own LL10.out.own) LL10.out.one F3.out.1 F3.out.2 Z9.out ?_; intro v11 w11 ho11 hg11 _; (obtain ⟨A11, c11, rfl, hc11⟩ := own_cap ho11); (have O11 := Lib.hid ho11); (have G11 := Lib.hid hg11); clear ho11 hg11)
  have L11 := Lib.hid (L910.out.append LL10.out B89.out.size O11.out G11.out)
  have B811 := Lib.hid (show Below w8.heap.size w8 w11 from (B89.out.trans (B910.out.mono B89.out.size)).grown G11.out Z9.out (fun j e => (L910.out.own.lt j e).1))
  have R8 := (LL8.out.rd (fun x hx => by rw [J8.out] at hx; rcases List.mem_append.1 hx with hx | hx; exact N8.out x hx; exact N9.out x hx)).2
  have R11 := Lib.hid (L11.out.rd (fun x hx => by rcases List.mem_append.1 hx with hx | hx; exact N8.out x hx; exact N9.out x hx)).2
  have EQ := Lib.hid (eq_walk A8 A11 j8.length c8 (j9.length + j10.length) c11 vs8 (vs9 ++ vs10) j8 (j9 ++ j10) w11 (by rw [J8.out, List.length_append]; have := NL.out; omega) ((R8.below B811.out).up B811.out.size) R11.out)
  have BE := Lib.hid (BW8.out.trans (B811.out.mono BW8.out.size))
  clear R8
  refine EQ.out.mono ?_
  rintro e w12 ⟨rfl, b12⟩
  go_wp2
  go_ret
  exact ⟨ret_bool (by rw [J8.out]; exact eqLs_refl _), BE.out.trans (b12.mono BE.out.size)⟩
 ·obtain ⟨k, hk⟩ : ∃ k, k + 1 = n2 := ⟨n2 - 1, by omega⟩
  obtain ⟨r, hr⟩ : ∃ r, ra[k]? = some r := ⟨_, List.getElem?_eq_getElem (by rw [HN2.out]; omega)⟩
  have hpo := P3.out.own
  rw [HN2.out] at hpo
  obtain ⟨g, cg, e2, hcg, _, hgl, hcells⟩ := own_at hpo h0
  injection e2 with e2 _ e3
  subst e2 e3
  have q0 := hcells (k * 2 + 0) _ (flatMap_get RowIn.vals 2 (fun _ => rfl) ra k r hr 0 _ rfl)
  have q1 := hcells (k * 2 + 1) _ (flatMap_get RowIn.vals 2 (fun _ => rfl) ra k r hr 1 _ rfl)
  rw [Nat.add_zero] at q0
  have hpos : (0 : Int) < (n2 : Int) := by omega
  have hk1 : (n2 : Int) - 1 = (k : Int) := by omega
  have hkn : (k : Int) < (n2 : Int) := by omega
  have HR := Lib.hid hr
  have HKN := Lib.hid hk
  have HLR := Lib.hid (show (ra.map lr).getLast? = some (lr r) from by
   rw [List.getLast?_eq_getElem?, List.length_map, HN2.out, ← hk, Nat.add_sub_cancel, List.getElem?_map, hr]
   rfl)
  have GL := Lib.hid hgl
  have GA2 := Lib.hid (show g < w2.heap.size from by have := (G2.out.lt g rfl).2; exact this)
  obtain ⟨rA, rn, rc, rw', rl⟩ := r
  simp only at q0 q1
  clear hpo hcells hr hk hgl
  cases rw'
  ·have PA := P3
   have PB := O3
   have BW := B3
   have HA := HN2
   have LG := Lib.hid (show ∀ r, (ra.map lr).getLast? = some r → Ln.goes r = false from fun r h => by
    rw [HLR.out] at h
    injection h with h
    subst h
    rfl)
   have RA := Lib.hid (show Rws w3 w3.heap.size (some ⟨g, 0, none⟩) n2 ra from (PA.out.rws).2)
   have RB := Lib.hid (show Rws w3 w3.heap.size A3 n3 rb from (PB.out.rws).2)
   have F1 := Lib.hid (show 0 + n2 ≤ maxLen ∧ (0 + n2) * 32 ≤ 140737488355328 from by have := L2.out; unfold maxLen; omega)
   have F2 := Lib.hid (show n2 + n3 ≤ maxLen ∧ (n2 + n3) * 32 ≤ 140737488355328 from by have := L2.out; have := L3.out; unfold maxLen; omega)
   go_wp2_with (first
    | (at_builtin; refine wpl_app rfl _ _ 22 rfl w3.heap.size 58 i0 (.agg #[.slice none 0 0, .bool false]) 2 32 Tryz.underlying22 hi0 hz0 hz1 hz2 rfl (by decide) (.slice none 0 0) 0 [] rfl (World.ownsRow_nil _ _ _ _) (some ⟨g, 0, none⟩) n2 c2 (ra.flatMap RowIn.vals) rfl w3.heap.size RA.out.sq (rvals_one _) F1.out.1 F1.out.2 (Nat.le_refl _) ?_; intro v6 w6 ho6 hg6 _; (rw [Nat.zero_add, List.nil_append] at ho6); (obtain ⟨A6, c6, rfl, _⟩ := own_cap ho6); (have O6 := Lib.hid ho6); (have B6 := Lib.hid (show Below w3.heap.size w3 w6 from (Below.refl _ _).grown hg6 (Nat.le_refl _) (fun j e => by cases e))); clear ho6 hg6)
    | (at_builtin; refine wpl_app rfl _ _ 22 rfl w3.heap.size 58 i0 (.agg #[.slice none 0 0, .bool false]) 2 32 Tryz.underlying22 hi0 hz0 hz1 hz2 rfl (by decide) (.slice A6 n2 c6) n2 (ra.flatMap RowIn.vals) rfl O6.out A3 n3 c3 (rb.flatMap RowIn.vals) rfl w3.heap.size (RB.out.sq.below B6.out) (rvals_one _) F2.out.1 F2.out.2 B6.out.size ?_; intro v7 w7 ho7 hg7 _; (obtain ⟨A7, c7, rfl, hc7⟩ := own_cap ho7); (have O7 := Lib.hid ho7); (have B7 := Lib.hid (show Below w3.heap.size w3 w7 from B6.out.grown hg7 B6.out.size (fun j e => (O6.out.lt j e).1))); (have C7 := Lib.hid hc7); clear ho7 hg7 hc7))
   have RS := Lib.hid (show Rws w7 w7.heap.size A7 (n2 + n3) (ra ++ rb) from by
    refine ⟨fun y hy => ?_, ?_⟩
    ·rcases List.mem_append.1 hy with hy | hy
     ·exact ((RA.out.each y hy).below B7.out).up B7.out.size
     ·exact ((RB.out.each y hy).below B7.out).up B7.out.size
    ·have h7 := Sq.own O7.out
     rwa [← List.flatMap_append] at h7)
   have BW7 := Lib.hid (BW.out.trans (B7.out.mono BW.out.size))
   refine (join_walk A7 (n2 + n3) c7 (ra ++ rb) w7 (S.out.below BW7.out S.out.size) RS.out C7.out (by have := L2.out; have := L3.out; omega)).mono ?_
   rintro e w8 ⟨v8, vs8, rfl, l8, b8⟩
   have LL8 := Lib.hid l8
   have B8 := Lib.hid (B7.out.trans (b8.mono B7.out.size))
   have BW8 := Lib.hid (BW7.out.trans (b8.mono BW7.out.size))
   have HA2 := Lib.hid hcz
   clear b8 l8 O6 O7 RS
   go_wp2_with fail
   refine (join_walk (some ⟨g, 0, none⟩) n2 c2 ra w8 (S.out.below BW8.out S.out.size) ((RA.out.below B8.out).up B8.out.size) HA2.out (by have := L2.out; omega)).mono ?_
   rintro e w9 ⟨v9, vs9, rfl, l9, b9⟩
   have LL9 := Lib.hid l9
   have B89 := Lib.hid b9
   have B9 := Lib.hid (B8.out.trans (b9.mono B8.out.size))
   have BW9 := Lib.hid (BW8.out.trans (b9.mono BW8.out.size))
   clear b9 l9
   go_wp2_with fail
   refine (join_walk A3 n3 c3 rb w9 (S.out.below BW9.out S.out.size) ((RB.out.below B9.out).up B9.out.size) HC3.out (by have := L3.out; omega)).mono ?_
   rintro e w10 ⟨v10, vs10, rfl, l10, b10⟩
   have J8 := Lib.hid (joinL_append (a := ra.map lr) (b := rb.map lr) LG.out)
   have N8 := Lib.hid (joinL_len (rs := ra.map lr) (N := 1000000) (by rw [List.length_map, HA.out]; have := L2.out; omega))
   have N9 := Lib.hid (joinL_len (rs := rb.map lr) (N := 1000000) (by rw [List.length_map, HN3.out]; have := L3.out; omega))
   have NL := Lib.hid (show (joinL (ra.map lr)).length ≤ 14 ∧ (joinL (rb.map lr)).length ≤ 14 from by
    have h1 := parts_length_le (ra.map lr)
    have h2 := parts_length_le (rb.map lr)
    rw [List.length_map, HA.out] at h1
    rw [List.length_map, HN3.out] at h2
    have := L2.out
    have := L3.out
    unfold joinL
    rw [List.length_map, List.length_map]
    omega)
   rw [List.map_append] at LL8
   generalize joinL (ra.map lr ++ rb.map lr) = j8 at LL8 J8
   generalize joinL (ra.map lr) = j9 at LL9 J8 N8 NL
   generalize joinL (rb.map lr) = j10 at l10 J8 N9 NL
   obtain ⟨A8, c8, rfl, _⟩ := own_cap LL8.out.own
   obtain ⟨A9, c9, rfl, _⟩ := own_cap LL9.out.own
   obtain ⟨A10, c10, rfl, _⟩ := own_cap l10.own
   have LL10 := Lib.hid l10
   have B910 := Lib.hid b10
   have BW10 := Lib.hid (BW9.out.trans (b10.mono BW9.out.size))
   have L910 := Lib.hid (LL9.out.laid b10)
   have F3 := Lib.hid (show j9.length + j10.length ≤ maxLen ∧ (j9.length + j10.length) * 24 ≤ 140737488355328 from by have := NL.out; unfold maxLen; omega)
   have Z9 := Lib.hid (show w8.heap.size ≤ w10.heap.size from Nat.le_trans B89.out.size B910.out.size)
   clear b10 l10 LL9
   go_wp2_with (at_builtin; refine wpl_app rfl _ _ 37 rfl w8.heap.size 51 i1 (.slice none 0 0) 1 24 Tryz.underlying37 hi1 hy0 hy1 hy2 rfl (by decide) (.slice A9 j9.length c9) j9.length vs9 rfl L910.out.own A10 j10.length c10 vs10 rfl w10.heap.size (Sq.own LL10.out.own) LL10.out.one F3.out.1 F3.out.2 Z9.out ?_; intro v11 w11 ho11 hg11 _; (obtain ⟨A11, c11, rfl, hc11⟩ := own_cap ho11); (have O11 := Lib.hid ho11); (have G11 := Lib.hid hg11); clear ho11 hg11)
   have L11 := Lib.hid (L910.out.append LL10.out B89.out.size O11.out G11.out)
   have B811 := Lib.hid (show Below w8.heap.size w8 w11 from (B89.out.trans (B910.out.mono B89.out.size)).grown G11.out Z9.out (fun j e => (L910.out.own.lt j e).1))
   have R8 := (LL8.out.rd (fun x hx => by rw [J8.out] at hx; rcases List.mem_append.1 hx with hx | hx; exact N8.out x hx; exact N9.out x hx)).2
   have R11 := Lib.hid (L11.out.rd (fun x hx => by rcases List.mem_append.1 hx with hx | hx; exact N8.out x hx; exact N9.out x hx)).2
   have EQ := Lib.hid (eq_walk A8 A11 j8.length c8 (j9.length + j10.length) c11 vs8 (vs9 ++ vs10) j8 (j9 ++ j10) w11 (by rw [J8.out, List.length_append]; have := NL.out; omega) ((R8.below B811.out).up B811.out.size) R11.out)
   have BE := Lib.hid (BW8.out.trans (B811.out.mono BW8.out.size))
   clear R8
   refine EQ.out.mono ?_
   rintro e w12 ⟨rfl, b12⟩
   go_wp2
   go_ret
   exact ⟨ret_bool (by rw [J8.out]; exact eqLs_refl _), BE.out.trans (b12.mono BE.out.size)⟩
  ·have RO := Lib.hid (P3.out.rws.2.each _ (List.mem_of_getElem? HR.out))
   obtain ⟨m, hm⟩ : ∃ m, mayL rl = m := ⟨_, rfl⟩
   have RR := Lib.hid (refRow_any rA rn rc true rl w3 RO.out.signs RO.out.sq (by have h1 := RO.out.le; have h2 := RO.out.cap; simp only at h1 h2; unfold maxLen at h2; omega))
   rw [hm] at RR
   have HM := Lib.hid hm
   clear hm
   cases m
   ·go_wp2_with (fail)
    refine RR.out.mono ?_
    rintro e w4 ⟨rfl, b4⟩
    have PA := Lib.hid (P3.out.laid b4)
    have PB := Lib.hid (O3.out.laid b4)
    have BW := Lib.hid (B3.out.trans (b4.mono B3.out.size))
    have HA := HN2
    have LG := Lib.hid (show ∀ r, (ra.map lr).getLast? = some r → Ln.goes r = false from fun r h => by
     rw [HLR.out] at h
     injection h with h
     subst h
     show (true && mayL rl) = false
     rw [HM.out]
     rfl)
    clear b4 q0 q1 RR
    have RA := Lib.hid (show Rws w4 w4.heap.size (some ⟨g, 0, none⟩) n2 ra from (PA.out.rws).2)
    have RB := Lib.hid (show Rws w4 w4.heap.size A3 n3 rb from (PB.out.rws).2)
    have F1 := Lib.hid (show 0 + n2 ≤ maxLen ∧ (0 + n2) * 32 ≤ 140737488355328 from by have := L2.out; unfold maxLen; omega)
    have F2 := Lib.hid (show n2 + n3 ≤ maxLen ∧ (n2 + n3) * 32 ≤ 140737488355328 from by have := L2.out; have := L3.out; unfold maxLen; omega)
    go_wp2_with (first
     | (at_builtin; refine wpl_app rfl _ _ 22 rfl w4.heap.size 58 i0 (.agg #[.slice none 0 0, .bool false]) 2 32 Tryz.underlying22 hi0 hz0 hz1 hz2 rfl (by decide) (.slice none 0 0) 0 [] rfl (World.ownsRow_nil _ _ _ _) (some ⟨g, 0, none⟩) n2 c2 (ra.flatMap RowIn.vals) rfl w4.heap.size RA.out.sq (rvals_one _) F1.out.1 F1.out.2 (Nat.le_refl _) ?_; intro v6 w6 ho6 hg6 _; (rw [Nat.zero_add, List.nil_append] at ho6); (obtain ⟨A6, c6, rfl, _⟩ := own_cap ho6); (have O6 := Lib.hid ho6); (have B6 := Lib.hid (show Below w4.heap.size w4 w6 from (Below.refl _ _).grown hg6 (Nat.le_refl _) (fun j e => by cases e))); clear ho6 hg6)
     | (at_builtin; refine wpl_app rfl _ _ 22 rfl w4.heap.size 58 i0 (.agg #[.slice none 0 0, .bool false]) 2 32 Tryz.underlying22 hi0 hz0 hz1 hz2 rfl (by decide) (.slice A6 n2 c6) n2 (ra.flatMap RowIn.vals) rfl O6.out A3 n3 c3 (rb.flatMap RowIn.vals) rfl w4.heap.size (RB.out.sq.below B6.out) (rvals_one _) F2.out.1 F2.out.2 B6.out.size ?_; intro v7 w7 ho7 hg7 _; (obtain ⟨A7, c7, rfl, hc7⟩ := own_cap ho7); (have O7 := Lib.hid ho7); (have B7 := Lib.hid (show Below w4.heap.size w4 w7 from B6.out.grown hg7 B6.out.size (fun j e => (O6.out.lt j e).1))); (have C7 := Lib.hid hc7); clear ho7 hg7 hc7))
    have RS := Lib.hid (show Rws w7 w7.heap.size A7 (n2 + n3) (ra ++ rb) from by
     refine ⟨fun y hy => ?_, ?_⟩
     ·rcases List.mem_append.1 hy with hy | hy
      ·exact ((RA.out.each y hy).below B7.out).up B7.out.size
      ·exact ((RB.out.each y hy).below B7.out).up B7.out.size
     ·have h7 := Sq.own O7.out
      rwa [← List.flatMap_append] at h7)
    have BW7 := Lib.hid (BW.out.trans (B7.out.mono BW.out.size))
    refine (join_walk A7 (n2 + n3) c7 (ra ++ rb) w7 (S.out.below BW7.out S.out.size) RS.out C7.out (by have := L2.out; have := L3.out; omega)).mono ?_
    rintro e w8 ⟨v8, vs8, rfl, l8, b8⟩
    have LL8 := Lib.hid l8
    have B8 := Lib.hid (B7.out.trans (b8.mono B7.out.size))
    have BW8 := Lib.hid (BW7.out.trans (b8.mono BW7.out.size))
    have HA2 := Lib.hid hcz
    clear b8 l8 O6 O7 RS
    go_wp2_with fail
    refine (join_walk (some ⟨g, 0, none⟩) n2 c2 ra w8 (S.out.below BW8.out S.out.size) ((RA.out.below B8.out).up B8.out.size) HA2.out (by have := L2.out; omega)).mono ?_
    rintro e w9 ⟨v9, vs9, rfl, l9, b9⟩
    have LL9 := Lib.hid l9
    have B89 := Lib.hid b9
    have B9 := Lib.hid (B8.out.trans (b9.mono B8.out.size))
    have BW9 := Lib.hid (BW8.out.trans (b9.mono BW8.out.size))
    clear b9 l9
    go_wp2_with fail
    refine (join_walk A3 n3 c3 rb w9 (S.out.below BW9.out S.out.size) ((RB.out.below B9.out).up B9.out.size) HC3.out (by have := L3.out; omega)).mono ?_
    rintro e w10 ⟨v10, vs10, rfl, l10, b10⟩
    have J8 := Lib.hid (joinL_append (a := ra.map lr) (b := rb.map lr) LG.out)
    have N8 := Lib.hid (joinL_len (rs := ra.map lr) (N := 1000000) (by rw [List.length_map, HA.out]; have := L2.out; omega))
    have N9 := Lib.hid (joinL_len (rs := rb.map lr) (N := 1000000) (by rw [List.length_map, HN3.out]; have := L3.out; omega))
    have NL := Lib.hid (show (joinL (ra.map lr)).length ≤ 14 ∧ (joinL (rb.map lr)).length ≤ 14 from by
     have h1 := parts_length_le (ra.map lr)
     have h2 := parts_length_le (rb.map lr)
     rw [List.length_map, HA.out] at h1
     rw [List.length_map, HN3.out] at h2
     have := L2.out
     have := L3.out
     unfold joinL
     rw [List.length_map, List.length_map]
     omega)
    rw [List.map_append] at LL8
    generalize joinL (ra.map lr ++ rb.map lr) = j8 at LL8 J8
    generalize joinL (ra.map lr) = j9 at LL9 J8 N8 NL
    generalize joinL (rb.map lr) = j10 at l10 J8 N9 NL
    obtain ⟨A8, c8, rfl, _⟩ := own_cap LL8.out.own
    obtain ⟨A9, c9, rfl, _⟩ := own_cap LL9.out.own
    obtain ⟨A10, c10, rfl, _⟩ := own_cap l10.own
    have LL10 := Lib.hid l10
    have B910 := Lib.hid b10
    have BW10 := Lib.hid (BW9.out.trans (b10.mono BW9.out.size))
    have L910 := Lib.hid (LL9.out.laid b10)
    have F3 := Lib.hid (show j9.length + j10.length ≤ maxLen ∧ (j9.length + j10.length) * 24 ≤ 140737488355328 from by have := NL.out; unfold maxLen; omega)
    have Z9 := Lib.hid (show w8.heap.size ≤ w10.heap.size from Nat.le_trans B89.out.size B910.out.size)
    clear b10 l10 LL9
    go_wp2_with (at_builtin; refine wpl_app rfl _ _ 37 rfl w8.heap.size 51 i1 (.slice none 0 0) 1 24 Tryz.underlying37 hi1 hy0 hy1 hy2 rfl (by decide) (.slice A9 j9.length c9) j9.length vs9 rfl L910.out.own A10 j10.length c10 vs10 rfl w10.heap.size (Sq.own LL10.out.own) LL10.out.one F3.out.1 F3.out.2 Z9.out ?_; intro v11 w11 ho11 hg11 _; (obtain ⟨A11, c11, rfl, hc11⟩ := own_cap ho11); (have O11 := Lib.hid ho11); (have G11 := Lib.hid hg11); clear ho11 hg11)
    have L11 := Lib.hid (L910.out.append LL10.out B89.out.size O11.out G11.out)
    have B811 := Lib.hid (show Below w8.heap.size w8 w11 from (B89.out.trans (B910.out.mono B89.out.size)).grown G11.out Z9.out (fun j e => (L910.out.own.lt j e).1))
    have R8 := (LL8.out.rd (fun x hx => by rw [J8.out] at hx; rcases List.mem_append.1 hx with hx | hx; exact N8.out x hx; exact N9.out x hx)).2
    have R11 := Lib.hid (L11.out.rd (fun x hx => by rcases List.mem_append.1 hx with hx | hx; exact N8.out x hx; exact N9.out x hx)).2
    have EQ := Lib.hid (eq_walk A8 A11 j8.length c8 (j9.length + j10.length) c11 vs8 (vs9 ++ vs10) j8 (j9 ++ j10) w11 (by rw [J8.out, List.length_append]; have := NL.out; omega) ((R8.below B811.out).up B811.out.size) R11.out)
    have BE := Lib.hid (BW8.out.trans (B811.out.mono BW8.out.size))
    clear R8
    refine EQ.out.mono ?_
    rintro e w12 ⟨rfl, b12⟩
    go_wp2
    go_ret
    exact ⟨ret_bool (by rw [J8.out]; exact eqLs_refl _), BE.out.trans (b12.mono BE.out.size)⟩
   ·go_wp2_with (fail)
    refine RR.out.mono ?_
    rintro e w4 ⟨rfl, b4⟩
    have q4 := (b4.cell (p := ⟨g, k * 2 + 1, none⟩) GL.out).trans q1
    have P4 := Lib.hid (P3.out.laid b4)
    have PB4 := Lib.hid (O3.out.laid b4)
    have BW4 := Lib.hid (B3.out.trans (b4.mono B3.out.size))
    have G4 := Lib.hid (show w1.heap.size ≤ g ∧ ∀ j, w4.frozen? ⟨g, j, none⟩ = false from by
     have h1 := P4.out.own
     exact ⟨(h1.lt g rfl).1, fun j => by rw [HN2.out] at h1; exact h1.frozenAt j⟩)
    have f4 := G4.out.2 (k * 2 + 1)
    clear b4 q0 q1 RR
    have PA := Lib.hid (P4.out.unwrap HR.out)
    have PB := Lib.hid (show Ln.Own (w4.setCell ⟨g, k * 2 + 1, none⟩ (.bool false)) w2.heap.size (.slice A3 n3 c3) rb from PB4.out.keep fun j hj _ => Below.heap_setCell _ ⟨g, k * 2 + 1, none⟩ _ _ (by
     have := GA2.out
     show j ≠ g
     omega))
    have BW := Lib.hid (BW4.out.setCell (p := ⟨g, k * 2 + 1, none⟩) (by show w.heap.size ≤ g; have := G4.out.1; have := Z12.out.1; omega) (.bool false))
    have HA := Lib.hid (show (ra.set k ⟨rA, rn, rc, false, rl⟩).length = n2 from by rw [List.length_set]; exact HN2.out)
    have LG := Lib.hid (show ∀ r, ((ra.set k ⟨rA, rn, rc, false, rl⟩).map lr).getLast? = some r → Ln.goes r = false from fun r h => by
     rw [List.getLast?_eq_getElem?, List.length_map, HA.out, ← HKN.out, Nat.add_sub_cancel, List.getElem?_map, List.getElem?_set_self (by rw [HN2.out, ← HKN.out]; omega)] at h
     injection h with h
     subst h
     rfl)
    go_upto_region 7 with fail
    generalize w4.setCell ⟨g, k * 2 + 1, none⟩ (.bool false) = w5 at PA PB BW ⊢
    generalize ra.set k ⟨rA, rn, rc, false, rl⟩ = rz at PA HA LG
    have RA := Lib.hid (show Rws w5 w5.heap.size (some ⟨g, 0, none⟩) n2 rz from (PA.out.rws).2)
    have RB := Lib.hid (show Rws w5 w5.heap.size A3 n3 rb from (PB.out.rws).2)
    have F1 := Lib.hid (show 0 + n2 ≤ maxLen ∧ (0 + n2) * 32 ≤ 140737488355328 from by have := L2.out; unfold maxLen; omega)
    have F2 := Lib.hid (show n2 + n3 ≤ maxLen ∧ (n2 + n3) * 32 ≤ 140737488355328 from by have := L2.out; have := L3.out; unfold maxLen; omega)
    go_wp2_with (first
     | (at_builtin; refine wpl_app rfl _ _ 22 rfl w5.heap.size 58 i0 (.agg #[.slice none 0 0, .bool false]) 2 32 Tryz.underlying22 hi0 hz0 hz1 hz2 rfl (by decide) (.slice none 0 0) 0 [] rfl (World.ownsRow_nil _ _ _ _) (some ⟨g, 0, none⟩) n2 c2 (rz.flatMap RowIn.vals) rfl w5.heap.size RA.out.sq (rvals_one _) F1.out.1 F1.out.2 (Nat.le_refl _) ?_; intro v6 w6 ho6 hg6 _; (rw [Nat.zero_add, List.nil_append] at ho6); (obtain ⟨A6, c6, rfl, _⟩ := own_cap ho6); (have O6 := Lib.hid ho6); (have B6 := Lib.hid (show Below w5.heap.size w5 w6 from (Below.refl _ _).grown hg6 (Nat.le_refl _) (fun j e => by cases e))); clear ho6 hg6)
     | (at_builtin; refine wpl_app rfl _ _ 22 rfl w5.heap.size 58 i0 (.agg #[.slice none 0 0, .bool false]) 2 32 Tryz.underlying22 hi0 hz0 hz1 hz2 rfl (by decide) (.slice A6 n2 c6) n2 (rz.flatMap RowIn.vals) rfl O6.out A3 n3 c3 (rb.flatMap RowIn.vals) rfl w5.heap.size (RB.out.sq.below B6.out) (rvals_one _) F2.out.1 F2.out.2 B6.out.size ?_; intro v7 w7 ho7 hg7 _; (obtain ⟨A7, c7, rfl, hc7⟩ := own_cap ho7); (have O7 := Lib.hid ho7); (have B7 := Lib.hid (show Below w5.heap.size w5 w7 from B6.out.grown hg7 B6.out.size (fun j e => (O6.out.lt j e).1))); (have C7 := Lib.hid hc7); clear ho7 hg7 hc7))
    have RS := Lib.hid (show Rws w7 w7.heap.size A7 (n2 + n3) (rz ++ rb) from by
     refine ⟨fun y hy => ?_, ?_⟩
     ·rcases List.mem_append.1 hy with hy | hy
      ·exact ((RA.out.each y hy).below B7.out).up B7.out.size
      ·exact ((RB.out.each y hy).below B7.out).up B7.out.size
     ·have h7 := Sq.own O7.out
      rwa [← List.flatMap_append] at h7)
    have BW7 := Lib.hid (BW.out.trans (B7.out.mono BW.out.size))
    refine (join_walk A7 (n2 + n3) c7 (rz ++ rb) w7 (S.out.below BW7.out S.out.size) RS.out C7.out (by have := L2.out; have := L3.out; omega)).mono ?_
    rintro e w8 ⟨v8, vs8, rfl, l8, b8⟩
    have LL8 := Lib.hid l8
    have B8 := Lib.hid (B7.out.trans (b8.mono B7.out.size))
    have BW8 := Lib.hid (BW7.out.trans (b8.mono BW7.out.size))
    have HA2 := Lib.hid hcz
    clear b8 l8 O6 O7 RS
    go_wp2_with fail
    refine (join_walk (some ⟨g, 0, none⟩) n2 c2 rz w8 (S.out.below BW8.out S.out.size) ((RA.out.below B8.out).up B8.out.size) HA2.out (by have := L2.out; omega)).mono ?_
    rintro e w9 ⟨v9, vs9, rfl, l9, b9⟩
    have LL9 := Lib.hid l9
    have B89 := Lib.hid b9
    have B9 := Lib.hid (B8.out.trans (b9.mono B8.out.size))
    have BW9 := Lib.hid (BW8.out.trans (b9.mono BW8.out.size))
    clear b9 l9
    go_wp2_with fail
    refine (join_walk A3 n3 c3 rb w9 (S.out.below BW9.out S.out.size) ((RB.out.below B9.out).up B9.out.size) HC3.out (by have := L3.out; omega)).mono ?_
    rintro e w10 ⟨v10, vs10, rfl, l10, b10⟩
    have J8 := Lib.hid (joinL_append (a := rz.map lr) (b := rb.map lr) LG.out)
    have N8 := Lib.hid (joinL_len (rs := rz.map lr) (N := 1000000) (by rw [List.length_map, HA.out]; have := L2.out; omega))
    have N9 := Lib.hid (joinL_len (rs := rb.map lr) (N := 1000000) (by rw [List.length_map, HN3.out]; have := L3.out; omega))
    have NL := Lib.hid (show (joinL (rz.map lr)).length ≤ 14 ∧ (joinL (rb.map lr)).length ≤ 14 from by
     have h1 := parts_length_le (rz.map lr)
     have h2 := parts_length_le (rb.map lr)
     rw [List.length_map, HA.out] at h1
     rw [List.length_map, HN3.out] at h2
     have := L2.out
     have := L3.out
     unfold joinL
     rw [List.length_map, List.length_map]
     omega)
    rw [List.map_append] at LL8
    generalize joinL (rz.map lr ++ rb.map lr) = j8 at LL8 J8
    generalize joinL (rz.map lr) = j9 at LL9 J8 N8 NL
    generalize joinL (rb.map lr) = j10 at l10 J8 N9 NL
    obtain ⟨A8, c8, rfl, _⟩ := own_cap LL8.out.own
    obtain ⟨A9, c9, rfl, _⟩ := own_cap LL9.out.own
    obtain ⟨A10, c10, rfl, _⟩ := own_cap l10.own
    have LL10 := Lib.hid l10
    have B910 := Lib.hid b10
    have BW10 := Lib.hid (BW9.out.trans (b10.mono BW9.out.size))
    have L910 := Lib.hid (LL9.out.laid b10)
    have F3 := Lib.hid (show j9.length + j10.length ≤ maxLen ∧ (j9.length + j10.length) * 24 ≤ 140737488355328 from by have := NL.out; unfold maxLen; omega)
    have Z9 := Lib.hid (show w8.heap.size ≤ w10.heap.size from Nat.le_trans B89.out.size B910.out.size)
    clear b10 l10 LL9
    go_wp2_with (at_builtin; refine wpl_app rfl _ _ 37 rfl w8.heap.size 51 i1 (.slice none 0 0) 1 24 Tryz.underlying37 hi1 hy0 hy1 hy2 rfl (by decide) (.slice A9 j9.length c9) j9.length vs9 rfl L910.out.own A10 j10.length c10 vs10 rfl w10.heap.size (Sq.own LL10.out.own) LL10.out.one F3.out.1 F3.out.2 Z9.out ?_; intro v11 w11 ho11 hg11 _; (obtain ⟨A11, c11, rfl, hc11⟩ := own_cap ho11); (have O11 := Lib.hid ho11); (have G11 := Lib.hid hg11); clear ho11 hg11)
    have L11 := Lib.hid (L910.out.append LL10.out B89.out.size O11.out G11.out)
    have B811 := Lib.hid (show Below w8.heap.size w8 w11 from (B89.out.trans (B910.out.mono B89.out.size)).grown G11.out Z9.out (fun j e => (L910.out.own.lt j e).1))
    have R8 := (LL8.out.rd (fun x hx => by rw [J8.out] at hx; rcases List.mem_append.1 hx with hx | hx; exact N8.out x hx; exact N9.out x hx)).2
    have R11 := Lib.hid (L11.out.rd (fun x hx => by rcases List.mem_append.1 hx with hx | hx; exact N8.out x hx; exact N9.out x hx)).2
    have EQ := Lib.hid (eq_walk A8 A11 j8.length c8 (j9.length + j10.length) c11 vs8 (vs9 ++ vs10) j8 (j9 ++ j10) w11 (by rw [J8.out, List.length_append]; have := NL.out; omega) ((R8.below B811.out).up B811.out.size) R11.out)
    have BE := Lib.hid (BW8.out.trans (B811.out.mono BW8.out.size))
    clear R8
    refine EQ.out.mono ?_
    rintro e w12 ⟨rfl, b12⟩
    go_wp2
    go_ret
    exact ⟨ret_bool (by rw [J8.out]; exact eqLs_refl _), BE.out.trans (b12.mono BE.out.size)⟩
set_option maxRecDepth 100000 in
theorem contract (H : Type) (enc : TypeId × Value → H) (W : World) (base : Nat) (args : Array Value) (ds gs : List (DataW H)) (before : List MemPlace)
  (hval : ∀ (j : Nat) t v, Tryz.f12.params[j]? = some t → args[j]? = some v → Value.okWide Tryz.prog W .any base t v)
  (hW : DataW.Whole enc Tryz.prog Tryz.f12.params.toList Rows.lineJoinSpec.vars false W args.toList ds gs before) (hL : laidMetH Tryz.prog Rows.lineJoinRow.laid W) :
  Calls Tryz.prog 12 args W fun e W' => ∃ v, e = .returned v ∧ Rows.lineJoinSpec.post enc Tryz.prog Tryz.f12 false true false false W args v W' := by
 have hW' := hW
 obtain ⟨p, q, hA0, hV, rfl, hfz, hnd⟩ := hW
 have hA : DataW.TrodAll enc Tryz.prog W 0 (fun _ => true) true Tryz.f12.params.toList args.toList ds p := hA0
 rw [Tryz.params12] at hA hval
 obtain ⟨v0, vs0, d0, ds0, p0, q0, hargs, rfl, rfl, h0, r0⟩ := trodAll_cons hA
 obtain ⟨v1, vs1, d1, ds1, p1, q1, rfl, rfl, rfl, h1, r1⟩ := trodAll_cons r0
 obtain ⟨rfl, rfl, rfl⟩ := trodAll_nil r1
 obtain rfl : args = #[v0, v1] := by cases args; simp_all
 obtain ⟨rfl, rfl⟩ := trodVars_none hV
 obtain ⟨Ax, nx, cx, x, rfl, hcx, hmx, hrx, hqx⟩ := open_rows (hval 0 22 v0 rfl rfl) h0
 obtain ⟨Ay, ny, cy, y, rfl, hcy, hmy, hry, hqy⟩ := open_rows (hval 1 22 v1 rfl rfl) h1
 clear hA0
 refine (walk Ax nx cx x hcx hmx Ay ny cy y hcy hmy W (spans_of hL) hrx hqx hry hqy).mono fun e W' ⟨he, hg⟩ => ?_
 subst he
 exact ⟨_, rfl, close rfl hW' ⟨rfl, rfl, rfl⟩ (by kernel_rfl) (by kernel_rfl) hg⟩
set_option maxRecDepth 100000 in
theorem laid_met (os : Os) : laidMet Tryz.prog Rows.lineJoinRow.laid ((laidWorld os).forCall (fun _ _ => 0) ⟨#[], #[.slice none 0 0, .slice none 0 0], []⟩).memory :=
 laidMet_of_run' 8 (by kernel_rfl) (by kernel_rfl)
set_option maxRecDepth 100000 in
theorem reads (os : Os) {H : Type} (enc : TypeId × Value → H) : ∃ places, DataW.whole enc Tryz.prog ((laidWorld os).forCall (fun _ _ => 0) ⟨#[], #[.slice none 0 0, .slice none 0 0], []⟩).memory Tryz.f12.params.toList Rows.lineJoinSpec.vars false (#[.slice none 0 0, .slice none 0 0] : Array Value).toList 8 = some ([.nil, .nil], [], places) :=
 ⟨[], by kernel_rfl⟩
set_option maxRecDepth 100000 in
theorem lifted (os : Os) (started : os.Started) (H : Type) (enc : TypeId × Value → H) (F : Stop.Interp) :
  ReturnsInHanded {} Tryz.checked os 12 .any ((OpenSpec.ofChange Rows.lineJoinSpec).preRow enc Tryz.prog Tryz.f12 Rows.lineJoinRow.domain false Rows.lineJoinRow.laid) (((OpenSpec.ofChange Rows.lineJoinSpec).at F).post enc Tryz.prog Tryz.f12 false true false false) := by
 obtain ⟨places, hx⟩ := reads os enc
 refine returnsInHanded_of_row (C := Tryz.checked) (s := OpenSpec.ofChange Rows.lineJoinSpec) ownNone started (by kernel_rfl) Tryz.func12
  (witness_row_at (enc := enc) (C := Tryz.checked) false (laidWorld os) #[.slice none 0 0, .slice none 0 0] rfl (by kernel_rfl) (by kernel_rfl) (by kernel_rfl)
   (OpenSpec.preRow_of_cond 8 hx (by kernel_rfl) (fun k hk => by cases hk) (by kernel_rfl) (laid_met os))) ?_
 intro W base args ds gs before hval hW _ _ _ hL _ _
 exact contract H enc W base args ds gs before hval hW hL
set_option maxRecDepth 100000 in
set_option maxHeartbeats 0 in
theorem facts : joinedFacts Tryz.checked.prog 12 Tryz.f12 (OpenSpec.ofChange Rows.lineJoinSpec).bare Rows.lineJoinRow = true := by
 have h1 := Sum.tables.1
 have h2 := Sum.tables.2.1
 have h3 := Sum.tables.2.2
 have h4 := Sum.mayEnter
 have e1 : Rows.lineJoinRow.lifted = Rows.screenOfRow.lifted := by kernel_rfl
 have e2 : Rows.lineJoinRow.make = Rows.screenOfRow.make := by kernel_rfl
 have h5 : (Rows.lineJoinRow.lifted == Tryz.checked.prog.liftsFinal) = true := by rw [e1]; exact Sum.lifts
 have h6 : (Tryz.checked.prog.make == some Rows.lineJoinRow.make) = true := by rw [e2]; exact Sum.make
 unfold joinedFacts
 repeat' (with_reducible refine Sum.and_mk ?_ ?_)
 all_goals first
  | with_reducible exact h1
  | with_reducible exact h2
  | with_reducible exact h4
  | with_reducible exact h5
  | with_reducible exact h6
  | (rw [h3]; as_aux_lemma => kernel_rfl)
  | (clear h1 h2 h3 h4 h5 h6 e1 e2; as_aux_lemma => kernel_rfl)
set_option maxRecDepth 100000 in
theorem said : Rows.LineJoinSaid :=
 OpenClaim.holds_of_cond 12 Tryz.f12 rfl rfl rfl rfl rfl rfl rfl ⟨rfl, rfl, rfl, rfl, rfl⟩ rfl rfl rfl rfl rfl (by kernel_rfl) Tryz.func12 facts
  (of_decide_eq_true (by kernel_rfl)) (by unfold Func.isWrapper; first | (rw [if_pos (by decide +kernel)]; kernel_rfl) | (rw [if_neg (by decide +kernel)]; exact ⟨rfl, rfl⟩))
  (fun os started H enc _ F => by rw [OpenClaim.pre_eq_preRow]; exact lifted os started H enc F)
set_option maxRecDepth 100000 in
theorem plain (f : FuncId) (fn : Func) (hf : Tryz.pinned.checked.prog.funcNamed "rotulus/rotuluslaw10.LineJoin" = some f) (hfn : Tryz.pinned.checked.prog.funcs[f]? = some fn) :
  false = Tryz.pinned.checked.prog.looks [] ∧ ∀ (j : Nat) t, fn.params[j]? = some t → Tryz.pinned.checked.prog.wantsStandIn t = false := by
 obtain rfl : f = 12 := Option.some.inj ((show Tryz.prog.funcNamed "rotulus/rotuluslaw10.LineJoin" = some 12 by kernel_rfl).symm.trans hf) |>.symm
 obtain rfl : fn = Tryz.f12 := (Option.some.inj (Tryz.func12.symm.trans hfn)).symm
 refine ⟨by kernel_rfl, fun j t ht => ?_⟩
 rw [Tryz.params12] at ht
 have hm := Array.mem_of_getElem? ht
 simp at hm
 subst hm
 exact (show Tryz.prog.wantsStandIn 22 = false by kernel_rfl)
set_option maxRecDepth 100000 in
theorem card : Rows.LineJoinCardSaid :=
 Claim7.holds_tied_plain_at .later [] _ _ _ _ said (fun _ h => by cases h) (by kernel_rfl) (fun _ h => by cases h) lineJoin_row_tie rfl ⟨rfl, rfl⟩ (by kernel_rfl) rfl plain (by kernel_rfl)
end Go.Proofs.YtmpoboffdfcpiaaGreatDoor.lineJoin
