/-
  The statement SearchRound: again and again from each hit: all hits, in their order, and round; and back. For every text (of which the statement takes the first thirty bytes) and every lines (of which it takes the first ten, and of each the first forty cells); it holds where the table of widths is as its initialiser lays it, which the card ties to the program's text.
-/
import Derived.Test.YteemnmalikomgaaGreatDoorQSrEvZ0
import Derived.Test.YteemnmalikomgaaGreatDoorQSrLine2
import Derived.Test.YteemnmalikomgaaGreatDoorQSrBase18
set_option maxRecDepth 100000
set_option maxHeartbeats 0
namespace Go.Proofs.YteemnmalikomgaaGreatDoor.searchRound
open Go.ChangeShapes Go.WideShapes Go.ChangeAt Go.RowKit
open NF
theorem neq_hit (a b c : Int) (w : World) : (binOp .neq 61 (.agg #[.int .i64 a, .int .i64 b, .int .i64 c]) (.agg #[.int .i64 a, .int .i64 b, .int .i64 c])).run Tryz.prog w = .ok (.bool false) w := by
 have hw := w
 go_simp
theorem within_hit {t : Nd} {ls : List (List Cel)} {x : Nat × Nat} (h : x ∈ allH (fOf t ls) (nOf ls) 0 ls.length) : withinB ls (x.1 : Int) (x.2 : Int) = true := by
 have := allH_hit h
 exact withinB_iff.2 ⟨⟨by omega, by omega⟩, by omega, by rw [Int.toNat_natCast]; omega⟩
theorem fwd_hit {t : Nd} {ls : List (List Cel)} {H : List (Nat × Nat)} {j : Nat} {x : Nat × Nat} (hH : allH (fOf t ls) (nOf ls) 0 ls.length = H) (hj : H[j]? = some x) : fwdS t ls (x.1 : Int) (x.2 : Int) = H[(j + 1) % H.length]? := by
 subst hH
 have hm := List.mem_of_getElem? hj
 have h := allH_hit hm
 unfold fwdS
 rw [if_pos (within_hit hm), Int.toNat_natCast, Int.toNat_natCast, fwd_in _ _ _ _ _ h.1 (by omega), round_next (allH_rise _ _ _ _) hj]
theorem bwd_hit {t : Nd} {ls : List (List Cel)} {H : List (Nat × Nat)} {j : Nat} {x : Nat × Nat} (hH : allH (fOf t ls) (nOf ls) 0 ls.length = H) (hj : H[j]? = some x) : bwdS t ls (x.1 : Int) (x.2 : Int) = H[(j + H.length - 1) % H.length]? := by
 subst hH
 have hm := List.mem_of_getElem? hj
 have h := allH_hit hm
 unfold bwdS
 rw [if_pos (within_hit hm), Int.toNat_natCast, Int.toNat_natCast, Nat.min_eq_left (by omega), bwd_in _ _ _ _ _ h.1 (by omega), round_prev (allH_rise _ _ _ _) hj]
theorem fwd_out (t : Nd) (ls : List (List Cel)) (y : Int) : fwdS t ls (-1) y = (allH (fOf t ls) (nOf ls) 0 ls.length).head? := by
 unfold fwdS
 rw [if_neg (by rw [withinB_iff]; omega), fwd_head _ _ _ _ _ (by omega)]
theorem hitS_none {f : Nat → Nat → Int} : hitS f .none = .tuple #[.agg #[.int .i64 0, .int .i64 0, .int .i64 0], .bool false] := rfl
def place (H : List (Nat × Nat)) (i : Nat) : Int × Int := if i = 0 then (-1, 0) else match H[(i - 1) % H.length]? with | .some x => ((x.1 : Int), (x.2 : Int)) | .none => (0, 0)
theorem place_next {t : Nd} {ls : List (List Cel)} {H : List (Nat × Nat)} (hH : allH (fOf t ls) (nOf ls) 0 ls.length = H) (h0 : 0 < H.length) (i : Nat) : fwdS t ls (place H i).1 (place H i).2 = H[i % H.length]? := by
 unfold place
 cases i with
 | zero => rw [if_pos rfl, fwd_out, hH, Nat.zero_mod, List.head?_eq_getElem?]
 | succ i =>
  rw [if_neg (by omega), Nat.add_sub_cancel]
  obtain ⟨x, hx⟩ : ∃ x, H[i % H.length]? = some x := ⟨_, List.getElem?_eq_getElem (Nat.mod_lt _ h0)⟩
  rw [hx]
  dsimp only
  rw [fwd_hit hH hx, Nat.mod_add_mod]
theorem walk (re : ByteArray) (_ : re.size ≤ 9223372036854775807) (A1 : Option Addr) (n1 c1 : Nat) (ls : List LineIn) (_ : n1 ≤ c1) (hm1 : c1 ≤ maxLen) (w : World) (hs : Spans w) (hr1 : ∀ l ∈ ls, l.Ok w w.heap.size) (hq1 : Sq w w.heap.size 1 n1 A1 (ls.flatMap LineIn.vals)) :
  Calls Tryz.prog 9 #[.string re, .slice A1 n1 c1] w fun e w' => e = .returned (.bool true) ∧ Below w.heap.size w w' := by
 have S := Lib.hid hs
 have PW := Lib.hid (fun wx => prog_walk re wx)
 have LW := Lib.hid (show ∀ W, Below w.heap.size w W → Calls Tryz.prog 31 #[.slice A1 n1 c1] W fun e w' => ∃ v vs, e = .returned v ∧ Lm.Lns w' W.heap.size v vs (Lm.drawnLs ls) ∧ Below W.heap.size W w' from fun W b => Lm.lines10_walk A1 n1 c1 ls W (fun l hl => ((hr1 l hl).below b).up b.size) ((hq1.below b).up b.size) (by omega))
 have LS := Lib.hid (show ∀ l ∈ Lm.drawnLs ls, l.length ≤ 40 from fun l hl => (Lm.cutLs_each hl).2)
 have LN := Lib.hid (Lm.drawnLs_len ls)
 obtain ⟨ds, hds⟩ : ∃ ds, Lm.drawnLs ls = ds := ⟨_, rfl⟩
 rw [hds] at LW LS LN
 obtain ⟨i0, hi, hz0, hz1, hz2⟩ := info_parts infoRs
 clear hs hr1 hq1 hds hm1
 go_enter Tryz.func9, Tryz.ntmps9
 go_wp2_with fail
 refine (Ev.Trues.at Ev.begun16 w S.out).mono ?_
 rintro e w1 ⟨rfl, b1⟩
 have B1 := Lib.hid b1
 clear b1 S
 go_wp2_with fail
 refine (PW.out w1).mono ?_
 rintro e w2 ⟨⟨k, A, nn, c, nt, A2, n2, c2, mn, mx⟩, P, ok, rfl, b2, hok, _⟩
 have B2 := Lib.hid (B1.out.trans (b2.mono B1.out.size))
 clear PW
 cases ok with
 | false =>
  clear hok b2
  try dsimp only [Nv.v]
  go_wp2_with fail
  go_ret
  exact ⟨rfl, B2.out.alloc B2.out.size _⟩
 | true =>
  obtain ⟨t, p, rfl, hx, hp, _⟩ := hok rfl
  obtain ⟨w3, hw3, k3, b3, z3⟩ := new_node w2 k A nn c nt A2 n2 c2 mn mx
  obtain ⟨NB, hNB⟩ : ∃ b, w2.heap.size = b := ⟨_, rfl⟩
  have KN3 := Lib.hid (hNB ▸ k3 : nodeBk w3 NB ⟨k, A, nn, c, nt, A2, n2, c2, mn, mx⟩)
  have X3 := Lib.hid (ndIn_up (Nat.le_refl _) b3.size (hx.below b3))
  have G3 := Lib.hid ((hp.below b3).up b3.size)
  have B3 := Lib.hid (B2.out.trans (b3.mono B2.out.size))
  have HW3 := Lib.hid hw3
  have HNB := Lib.hid hNB
  clear hok b2 hx hp k3 b3 z3 hw3 hNB
  try dsimp only [Nv.v]
  go_upto_region 5 with fail
  rw [HNB.out]
  first
   | rw [HW3.out]
   | (change Code.wp _ _ _ _ (w2.alloc (.cells #[.int .i64 k, .slice A nn c, .bool nt, .slice A2 n2 c2, .int .i64 mn, .int .i64 mx] 29)); rw [HW3.out])
  go_wp2_with fail
  refine (LW.out w3 B3.out).mono ?_
  rintro e w4 ⟨v4, vs4, rfl, hl4, b4⟩
  obtain ⟨A6, c6, rfl, hlat⟩ := hl4.lat (fun l hl => by have := LS.out l hl; omega)
  obtain ⟨n6, hn6⟩ : ∃ n, ds.length = n := ⟨_, rfl⟩
  have hn10 : n6 ≤ 10 := by have := LN.out; omega
  have B4 := Lib.hid (B3.out.trans (b4.mono B3.out.size))
  have LT := Lib.hid hlat
  have KN4 := Lib.hid (KN3.out.below b4 KN3.out.lt)
  have X4 := Lib.hid (ndIn_up (Nat.le_refl _) b4.size (X3.out.below b4))
  have G4 := Lib.hid ((G3.out.below b4).up b4.size)
  have HN6 := Lib.hid hn6
  have N1 := Lib.hid (show ∀ W (x y z : Int), Below w4.heap.size w4 W → Calls Tryz.prog 32 #[.slice A6 n6 c6, .pointer (some ⟨p, 0, none⟩), .agg #[.int .i64 x, .int .i64 y, .int .i64 z]] W fun e w' => e = .returned (hitS (fOf t ds) (fwdS t ds x y)) ∧ Below W.heap.size W w' from fun W x y z b =>
   srForward_walk t p A6 n6 c6 ds x y z W ((G4.out.below b).up b.size) HN6.out (by omega) ((LT.out.below b).up b.size))
  have N3 := Lib.hid (show ∀ W (x y z : Int), Below w4.heap.size w4 W → Calls Tryz.prog 34 #[.slice A6 n6 c6, .pointer (some ⟨p, 0, none⟩), .agg #[.int .i64 x, .int .i64 y, .int .i64 z]] W fun e w' => e = .returned (hitS (fOf t ds) (bwdS t ds x y)) ∧ Below W.heap.size W w' from fun W x y z b =>
   srBackward_walk t p A6 n6 c6 ds x y z W ((G4.out.below b).up b.size) HN6.out (by omega) ((LT.out.below b).up b.size))
  clear hl4 hlat b4 hn6 X3 G3 KN3 LW
  rw [HN6.out]
  go_wp2_with fail
  go_loopw [9, 10] (fun v u wr => ∃ (i : Nat) (vs : List Value), u = .int .i64 (i : Int) ∧ i ≤ n6 ∧ Hid (RLns wr w4.heap.size v vs ((ds.map sg).take i) ∧ ((ds.map sg).take i).length = i) ∧ Hid (Below w4.heap.size w4 wr)) (fun _ u _ => n6 - (intOf u).toNat)
  case atStart => exact ⟨0, [], rfl, Nat.zero_le _, Lib.hid ⟨RLns.nothing _ _, rfl⟩, Lib.hid (Below.refl _ _)⟩
  case round =>
   obtain ⟨i, vs, rfl, hin, RO, BR⟩ := hrel
   have hi0 : (0 : Int) ≤ (i : Int) := by omega
   by_cases hlt : i < n6
   ·have h1 : (i : Int) < (n6 : Int) := by omega
    have hw : IntKind.i64.wrap ((i : Int) + 1) = (i : Int) + 1 := IntWalk.i64_in _ (by omega)
    have hls := lineAt_some (ls := ds) (i := i) (by rw [HN6.out]; exact hlt)
    obtain ⟨b, off, A', c', rfl, hb, hc, hc', hq⟩ := (LT.out.below BR.out).each i _ hls
    have hfew := LS.out _ (List.mem_of_getElem? hls)
    obtain ⟨m, hm⟩ : ∃ m, (lineAt ds i).length = m := ⟨_, rfl⟩
    rw [hm] at hc hc' hq hfew
    have SW := Lib.hid (srSignsO_walk A' m c' (lineAt ds i) wr hm (hq.up BR.out.size) (by omega))
    unfold RunO at SW
    rw [sg_len, hm] at SW
    have TK := Lib.hid (show (ds.map sg).take (i + 1) = (ds.map sg).take i ++ [sg (lineAt ds i)] from by
     have h2 : (ds.map sg)[i]? = some (sg (lineAt ds i)) := by rw [List.getElem?_map, hls]; rfl
     obtain ⟨h3, h4⟩ := List.getElem?_eq_some_iff.1 h2
     rw [List.take_succ_eq_append_getElem h3, h4])
    have SM := Lib.hid (show (sg (lineAt ds i)).length = m from by rw [sg_len, hm])
    clear hb hc' hq hm hls
    go_wp2_with fail
    refine SW.out.mono ?_
    rintro e w5 ⟨v5, rfl, ho5, b5⟩
    obtain ⟨A5, c5, rfl⟩ := own_len ho5
    have BR5 := Lib.hid (BR.out.trans (b5.mono BR.out.size))
    have RO5 := Lib.hid (RO.out.1.laid b5)
    obtain ⟨w6, hw6⟩ : ∃ w6, w5.alloc (.cells #[.slice A5 m c5] 23) = w6 := ⟨_, rfl⟩
    have b6 : Below w5.heap.size w5 w6 := by rw [← hw6]; exact (Below.refl _ _).alloc (Nat.le_refl _) _
    have sq := sqO_new' w5 #[.slice A5 m c5] 23 1 1 rfl
    rw [hw6] at sq
    have SQ := Lib.hid sq
    have RO6 := Lib.hid (RO5.out.laid b6)
    have O6 := Lib.hid ((Trn.ofBelow b6 fun _ => False).own (own_lower ho5 BR.out.size) (fun _ _ x => x))
    have BX := Lib.hid (BR5.out.trans (b6.mono BR5.out.size))
    have OW6 := Lib.hid (show w6.ownsRow w4.heap.size 23 1 u9 i vs from by have h := RO6.out.own; rwa [RO.out.2] at h)
    clear sq b6 b5 ho5 SW RO5
    have R7F := Lib.hid (show ∀ v' w7, w7.ownsRow w4.heap.size 23 1 v' (i + 1) (vs ++ [.slice A5 m c5]) → w6.grownBy w7 (Value.ownBlock u9) → (RLns w7 w4.heap.size v' (vs ++ [.slice A5 m c5]) ((ds.map sg).take (i + 1)) ∧ ((ds.map sg).take (i + 1)).length = i + 1) ∧ Below w4.heap.size w4 w7 from fun v' w7 h3 h4 => by
     rw [TK.out]
     exact ⟨⟨RO6.out.snoc (by rw [SM.out]; exact O6.out) (by rw [RO.out.2]; exact h3) h4, by rw [List.length_append, RO.out.2]; rfl⟩, BX.out.trans ((Trn.ofGrown h4).toBelow BX.out.size (fun k hk e => by have := (World.ownsRow.lt OW6.out k e).1; omega))⟩)
    have F1 := Lib.hid (show i + 1 ≤ maxLen ∧ (i + 1) * 24 ≤ 140737488355328 from by unfold maxLen; omega)
    go_wp2_with (first | (at_builtin; refine wpl_app rfl _ _ 66 rfl w4.heap.size 23 i0 (.slice none 0 0) 1 24 Tryz.underlying66 hi hz0 hz1 hz2 rfl (by decide) u9 i vs rfl OW6.out (some ⟨w5.heap.size, 0, none⟩) 1 1 [.slice A5 m c5] rfl w6.heap.size SQ.out (sl_one _ _ _) F1.out.1 F1.out.2 BX.out.size ?_; intro v' w7 h3 h4 _; (have R7 := Lib.hid (R7F.out v' w7 h3 h4)); clear h3 h4))
    go_roundw
    case rel => exact ⟨i + 1, _, by first | rfl | (congr 1; done) | (congr 1; omega), by omega, Lib.hid R7.out.1, Lib.hid R7.out.2⟩
    case measure => first | (simp [intOf]; done) | (simp [intOf]; omega)
   ·obtain rfl : i = n6 := by omega
    have TA := Lib.hid (show (ds.map sg).take i = ds.map sg from List.take_of_length_le (by rw [List.length_map, HN6.out]; exact Nat.le_refl _))
    obtain ⟨A10, c10, rfl, hrt⟩ := RO.out.1.rd (fun l hl => by
     obtain ⟨l', hl', rfl⟩ := List.mem_map.1 (List.mem_of_mem_take hl)
     rw [sg_len]
     have := LS.out l' hl'
     omega)
    rw [RO.out.2]
    have RH := Lib.hid (refHits_walk t ⟨k, A, nn, c, nt, A2, n2, c2, mn, mx⟩ _ A10 i c10 (ds.map sg) wr G4.out.1 (ndIn_up (Nat.le_refl _) BR.out.size (X4.out.below BR.out)) (by rw [List.length_map, HN6.out]) (by omega) (by have h := hrt; rwa [TA.out] at h))
    obtain ⟨H, hH⟩ : ∃ H, allH (fOf t ds) (nOf ds) 0 i = H := ⟨_, rfl⟩
    rw [gOf_sg, mOf_sg, hH] at RH
    unfold HitsP at RH
    dsimp only [Nv.v] at RH
    have HHE := Lib.hid (show allH (fOf t ds) (nOf ds) 0 ds.length = H from by rw [HN6.out, hH])
    have HLEN := Lib.hid (show H.length ≤ 1000000 from by
     rw [← hH]
     have := allH_len (fOf t ds) (nOf ds) (fun j => by
      unfold nOf
      by_cases hj : j < ds.length
      ·have := LS.out _ (List.mem_of_getElem? (lineAt_some hj)); omega
      ·unfold lineAt
       rw [List.getElem?_eq_none (by omega)]
       exact Nat.zero_le _) i 0
     omega)
    obtain ⟨y0, y1, y2, y3, y4, y5⟩ := nv_bk (show nodeBk wr NB ⟨k, A, nn, c, nt, A2, n2, c2, mn, mx⟩ from KN4.out.below BR.out KN4.out.lt)
    clear hrt RO hH hz0 hz1 hz2 hi
    go_wp2_with fail
    refine RH.out.mono ?_
    rintro e w9 ⟨v9, rfl, ho9, b9⟩
    obtain ⟨A9, c9, rfl⟩ := own_len ho9
    have B9 := Lib.hid (BR.out.trans (b9.mono BR.out.size))
    have SH := Lib.hid (Sq.own ho9)
    obtain ⟨q, hq⟩ : ∃ q, H.length = q := ⟨_, rfl⟩
    rw [hq] at SH HLEN ⊢
    have HQ := Lib.hid hq
    have hq6 : q ≤ 1000000 := HLEN.out
    clear b9 ho9 hq y0 y1 y2 y3 y4 y5 RH
    obtain ⟨w10, hw10, k10, b10, z10⟩ := three_new w9 58 (-1) 0 0
    obtain ⟨g12, hg12⟩ : ∃ g, w9.heap.size = g := ⟨_, rfl⟩
    rw [hg12] at k10
    have K10 := Lib.hid k10
    have B10 := Lib.hid (B9.out.trans (b10.mono B9.out.size))
    have SH10 := Lib.hid ((SH.out.below b10).up b10.size)
    have L12 := Lib.hid (show w9.heap.size ≤ g12 ∧ g12 < w10.heap.size from ⟨by omega, by omega⟩)
    have BW9 := Lib.hid (show w4.heap.size ≤ w9.heap.size from B9.out.size)
    have HW10 := Lib.hid hw10
    have HG12 := Lib.hid hg12
    clear k10 b10 z10 hw10 hg12
    go_upto_region 15 with fail
    rw [HG12.out]
    first
     | rw [HW10.out]
     | (change Code.wp _ _ _ _ (w9.alloc (.cells #[.int .i64 (-1), .int .i64 0, .int .i64 0] 58)); rw [HW10.out])
    have hqw : IntKind.i64.wrap ((q : Int) + 1) = (q : Int) + 1 := IntWalk.i64_in _ (by omega)
    go_wp2_with fail
    have BSH := Lib.hid (show Below w9.heap.size w9 w10 from by rw [← HW10.out]; exact (Below.refl _ _).alloc (Nat.le_refl _) _)
    clear HW10 HG12 SH10
    go_loopw [13] (fun u wr => ∃ j : Nat, u = .int .i64 (j : Int) ∧ j ≤ q + 1 ∧ Hid (q = 0 → j = 0) ∧ Hid (threeBk wr 58 g12 (place H j).1 (place H j).2 0) ∧ Hid (Below w9.heap.size w9 wr)) (fun u _ => q + 1 - (intOf u).toNat)
    case atStart => exact ⟨0, rfl, Nat.zero_le _, Lib.hid fun _ => rfl, K10, BSH⟩
    case round =>
     obtain ⟨j, rfl, hjq, JZ, KJ, BJ⟩ := hrel
     have BW4 := Lib.hid (B9.out.trans (BJ.out.mono B9.out.size))
     have NF1 := Lib.hid (N1.out wr (place H j).1 (place H j).2 0 BW4.out)
     obtain ⟨pl1, pl2, hpl⟩ : ∃ a b, place H j = (a, b) := ⟨_, _, rfl⟩
     rw [hpl] at KJ NF1
     have PL := Lib.hid hpl
     have hj0 : (0 : Int) ≤ (j : Int) := by omega
     obtain ⟨s0, s1, s2⟩ := threeBk.get KJ.out
     dsimp only at s0 s1 s2 NF1
     clear hpl
     by_cases hq0 : q = 0
     ·subst hq0
      obtain rfl : j = 0 := JZ.out rfl
      have HE := Lib.hid (show H = [] from List.eq_nil_of_length_eq_zero HQ.out)
      have FE := Lib.hid (show fwdS t ds pl1 pl2 = .none from by
       have h := PL.out
       unfold place at h
       rw [if_pos rfl] at h
       injection h with h1 h2
       rw [← h1, fwd_out, HHE.out, HE.out]
       rfl)
      rw [FE.out, hitS_none] at NF1
      go_wp2_with fail
      refine NF1.out.mono ?_
      rintro e w11 ⟨rfl, b11⟩
      have BF := Lib.hid (B4.out.trans ((BW4.out.trans (b11.mono BW4.out.size)).mono B4.out.size))
      clear b11 NF1
      go_wp2_with fail
      go_ret
      exact ⟨rfl, BF.out.alloc BF.out.size _⟩
     ·obtain ⟨x, hx⟩ : ∃ x, H[j % q]? = some x := ⟨_, List.getElem?_eq_getElem (by rw [HQ.out]; exact Nat.mod_lt _ (by omega))⟩
      have FE := Lib.hid (show fwdS t ds pl1 pl2 = some x from by
       have h := place_next (t := t) HHE.out (by rw [HQ.out]; omega) j
       rw [PL.out, HQ.out, hx] at h
       exact h)
      obtain ⟨x1, x2⟩ := x
      rw [FE.out, hitS] at NF1
      obtain ⟨v, hv⟩ : ∃ v, fOf t ds x1 x2 = v := ⟨_, rfl⟩
      dsimp only at NF1
      rw [hv] at NF1
      have HV := Lib.hid hv
      have HX := Lib.hid hx
      have hqp : (0 : Int) < (q : Int) := by omega
      have hnz : ((q : Int) == 0) = false := by simp; omega
      have hnz2 : ¬ ((q : Int) = 0) := by omega
      clear hv hx
      by_cases hlt : j < q + 1
      ·have h1 : (j : Int) < (q : Int) + 1 := by omega
       have hjw : IntKind.i64.wrap ((j : Int) + 1) = (j : Int) + 1 := IntWalk.i64_in _ (by omega)
       obtain ⟨m, hm⟩ : ∃ m, j % q = m := ⟨_, rfl⟩
       have hmq : m < q := by rw [← hm]; exact Nat.mod_lt _ (by omega)
       have hmd : (j : Int).tmod (q : Int) = (m : Int) := by rw [tmod_nat, hm]
       have hmw : IntKind.i64.wrap (m : Int) = (m : Int) := IntWalk.i64_in _ (by omega)
       have hm0 : (0 : Int) ≤ (m : Int) := by omega
       have hm1 : (m : Int) < (q : Int) := by omega
       rw [hm] at HX
       obtain ⟨b, off, rfl, hb, d0, d1, d2⟩ := hit_at SH.out HX.out hmq
       rw [HV.out] at d2
       have HM := Lib.hid hm
       obtain ⟨m2, hm2⟩ : ∃ m2, (m + q - 1) % q = m2 := ⟨_, rfl⟩
       have hm2q : m2 < q := by rw [← hm2]; exact Nat.mod_lt _ (by omega)
       have hw1 : IntKind.i64.wrap ((m : Int) + (q : Int)) = (m : Int) + (q : Int) := IntWalk.i64_in _ (by omega)
       have hw2 : IntKind.i64.wrap ((m : Int) + (q : Int) - 1) = ((m + q - 1 : Nat) : Int) := by rw [IntWalk.i64_in _ (by omega)]; omega
       have hmd2 : (((m + q - 1 : Nat) : Int)).tmod (q : Int) = (m2 : Int) := by rw [tmod_nat, hm2]
       have hmw2 : IntKind.i64.wrap (m2 : Int) = (m2 : Int) := IntWalk.i64_in _ (by omega)
       have hm20 : (0 : Int) ≤ (m2 : Int) := by omega
       have hm21 : (m2 : Int) < (q : Int) := by omega
       obtain ⟨a1, ha1⟩ : ∃ a1 : Int, ((m + q - 1 : Nat) : Int) = a1 := ⟨_, rfl⟩
       rw [ha1] at hw2 hmd2
       obtain ⟨⟨z1, z2⟩, hz⟩ : ∃ z, H[m2]? = some z := ⟨_, List.getElem?_eq_getElem (by rw [HQ.out]; exact hm2q)⟩
       have BE := Lib.hid (show bwdS t ds (x1 : Int) (x2 : Int) = some (z1, z2) from by
        have h := bwd_hit (t := t) HHE.out HX.out
        rw [HQ.out, hm2, hz] at h
        exact h)
       obtain ⟨b', off', e', hb', d3, d4, d5⟩ := hit_at SH.out hz hm2q
       injection e' with e'
       injection e' with e1 e2
       subst e1 e2
       obtain ⟨v', hv'⟩ : ∃ v', fOf t ds z1 z2 = v' := ⟨_, rfl⟩
       rw [hv'] at d5
       have RD := Lib.hid (show ∀ W, Below w9.heap.size w9 W → (W.cell? ⟨b, off + m * 3, none⟩ = some (.int .i64 (x1 : Int)) ∧ W.cell? ⟨b, off + m * 3 + 1, none⟩ = some (.int .i64 (x2 : Int)) ∧ W.cell? ⟨b, off + m * 3 + 2, none⟩ = some (.int .i64 v)) ∧ W.cell? ⟨b, off + m2 * 3, none⟩ = some (.int .i64 (z1 : Int)) ∧ W.cell? ⟨b, off + m2 * 3 + 1, none⟩ = some (.int .i64 (z2 : Int)) ∧ W.cell? ⟨b, off + m2 * 3 + 2, none⟩ = some (.int .i64 v') from fun W hW =>
        ⟨⟨(hW.cell (p := ⟨b, _, none⟩) hb).trans d0, (hW.cell (p := ⟨b, _, none⟩) hb).trans d1, (hW.cell (p := ⟨b, _, none⟩) hb).trans d2⟩, (hW.cell (p := ⟨b, _, none⟩) hb).trans d3, (hW.cell (p := ⟨b, _, none⟩) hb).trans d4, (hW.cell (p := ⟨b, _, none⟩) hb).trans d5⟩)
       have HZ := Lib.hid hv'
       have PN := Lib.hid (show place H (j + 1) = ((x1 : Int), (x2 : Int)) from by
        unfold place
        rw [if_neg (by omega), Nat.add_sub_cancel, HQ.out, HM.out, HX.out])
       have NE1 := fun w => neq_hit (x1 : Int) (x2 : Int) v w
       have NE2 := fun w => neq_hit (z1 : Int) (z2 : Int) v' w
       clear hm hm2 ha1 hz hv' d0 d1 d2 d3 d4 d5 hb hb'
       go_wp2_with fail
       refine NF1.out.mono ?_
       rintro e w11 ⟨rfl, b11⟩
       obtain ⟨w12, hw12, k12, b12, z12⟩ := three_new w11 61 (x1 : Int) (x2 : Int) v
       obtain ⟨g14, hg14⟩ : ∃ g, w11.heap.size = g := ⟨_, rfl⟩
       rw [hg14] at k12
       have b1112 := b11.trans (b12.mono b11.size)
       have C12 := Lib.hid (BJ.out.trans (b1112.mono BJ.out.size))
       have K12 := Lib.hid (KJ.out.below b1112 KJ.out.lt)
       have H12 := Lib.hid k12
       have HW12 := Lib.hid hw12
       have HG14 := Lib.hid hg14
       clear b11 k12 b12 z12 hw12 hg14 b1112 NF1 s0 s1 s2
       have q0 : ∀ r, (w12.drewN r).cell? ⟨g14, 0, none⟩ = some (.int .i64 (x1 : Int)) := fun r => (H12.out.below (laid_drewN w12 r) H12.out.lt).get.1
       have q1 : ∀ r, (w12.drewN r).cell? ⟨g14, 1, none⟩ = some (.int .i64 (x2 : Int)) := fun r => (H12.out.below (laid_drewN w12 r) H12.out.lt).get.2.1
       have q2 : ∀ r, (w12.drewN r).cell? ⟨g14, 2, none⟩ = some (.int .i64 v) := fun r => (H12.out.below (laid_drewN w12 r) H12.out.lt).get.2.2
       have q3 := fun r => (RD.out (w12.drewN r) (C12.out.trans ((laid_drewN w12 r).mono C12.out.size))).1.1
       have q4 := fun r => (RD.out (w12.drewN r) (C12.out.trans ((laid_drewN w12 r).mono C12.out.size))).1.2.1
       have q5 := fun r => (RD.out (w12.drewN r) (C12.out.trans ((laid_drewN w12 r).mono C12.out.size))).1.2.2
       have KW := Lib.hid (fun r => laid_drewN w12 r)
       go_upto_region 19 with fail
       rw [HG14.out]
       first
        | rw [HW12.out]
        | (change Code.wp _ _ _ _ (w11.alloc (.cells #[.int .i64 (x1 : Int), .int .i64 (x2 : Int), .int .i64 v] 61)); rw [HW12.out])
       go_quiet (fail)
       have C13 := Lib.hid (C12.out.trans ((KW.out nq).mono C12.out.size))
       have K13 := Lib.hid (K12.out.below (KW.out nq) K12.out.lt)
       have H13 := Lib.hid (H12.out.below (KW.out nq) H12.out.lt)
       clear q0 q1 q2 q3 q4 q5 KW C12 K12 H12 HW12 HG14
       generalize w12.drewN nq = w13 at C13 K13 H13 ⊢
       obtain ⟨s0, s1, s2⟩ := threeBk.get K13.out
       obtain ⟨f0, f1, f2⟩ := threeBk.free K13.out
       obtain ⟨t0, t1, _⟩ := threeBk.get H13.out
       have PK := Lib.hid (put3_bk K13.out (x1 : Int) (x2 : Int) 0)
       have C14 := Lib.hid (C13.out.trans ((put3_trn w13 g12 (x1 : Int) (x2 : Int) 0).toBelow C13.out.size fun g hg e => by have := L12.out; omega))
       go_upto_region 22 with fail
       change Code.wp _ _ _ _ (put3 w13 g12 (x1 : Int) (x2 : Int) 0)
       revert PK C14
       generalize put3 w13 g12 (x1 : Int) (x2 : Int) 0 = w14
       intro PK C14
       clear s0 s1 s2 f0 f1 f2 t0 t1 C13 K13 H13
       have NB3 := Lib.hid (N3.out w14 (x1 : Int) (x2 : Int) 0 (B9.out.trans (C14.out.mono B9.out.size)))
       rw [BE.out, hitS] at NB3
       dsimp only at NB3
       rw [HZ.out] at NB3
       obtain ⟨s0, s1, s2⟩ := threeBk.get PK.out
       go_wp2_with fail
       refine NB3.out.mono ?_
       rintro e w15 ⟨rfl, b15⟩
       obtain ⟨w16, hw16, k16, b16, z16⟩ := three_new w15 61 (z1 : Int) (z2 : Int) v'
       obtain ⟨g16, hg16⟩ : ∃ g, w15.heap.size = g := ⟨_, rfl⟩
       rw [hg16] at k16
       have b1416 := b15.trans (b16.mono b15.size)
       have C16 := Lib.hid (C14.out.trans (b1416.mono C14.out.size))
       have K16 := Lib.hid (PK.out.below b1416 PK.out.lt)
       have H16 := Lib.hid k16
       have HW16 := Lib.hid hw16
       have HG16 := Lib.hid hg16
       clear b15 k16 b16 z16 hw16 hg16 b1416 NB3 s0 s1 s2 PK C14
       have q0 : ∀ r, (w16.drewN r).cell? ⟨g16, 0, none⟩ = some (.int .i64 (z1 : Int)) := fun r => (H16.out.below (laid_drewN w16 r) H16.out.lt).get.1
       have q1 : ∀ r, (w16.drewN r).cell? ⟨g16, 1, none⟩ = some (.int .i64 (z2 : Int)) := fun r => (H16.out.below (laid_drewN w16 r) H16.out.lt).get.2.1
       have q2 : ∀ r, (w16.drewN r).cell? ⟨g16, 2, none⟩ = some (.int .i64 v') := fun r => (H16.out.below (laid_drewN w16 r) H16.out.lt).get.2.2
       have q3 := fun r => (RD.out (w16.drewN r) (C16.out.trans ((laid_drewN w16 r).mono C16.out.size))).2.1
       have q4 := fun r => (RD.out (w16.drewN r) (C16.out.trans ((laid_drewN w16 r).mono C16.out.size))).2.2.1
       have q5 := fun r => (RD.out (w16.drewN r) (C16.out.trans ((laid_drewN w16 r).mono C16.out.size))).2.2.2
       have KW := Lib.hid (fun r => laid_drewN w16 r)
       go_upto_region 23 with fail
       rw [HG16.out]
       first
        | rw [HW16.out]
        | (change Code.wp _ _ _ _ (w15.alloc (.cells #[.int .i64 (z1 : Int), .int .i64 (z2 : Int), .int .i64 v'] 61)); rw [HW16.out])
       go_quiet (fail)
       have C17 := Lib.hid (C16.out.trans ((KW.out nq).mono C16.out.size))
       have K17 := Lib.hid (show threeBk (w16.drewN nq) 58 g12 (place H (j + 1)).1 (place H (j + 1)).2 0 from by
        rw [PN.out]
        exact K16.out.below (KW.out nq) K16.out.lt)
       clear q0 q1 q2 q3 q4 q5 KW C16 K16 H16 HW16 HG16
       generalize w16.drewN nq = w17 at C17 K17 ⊢
       go_wp2_with fail
       go_roundw
       case rel => exact ⟨j + 1, by first | rfl | (congr 1; done) | (congr 1; omega), by omega, Lib.hid fun h => absurd h hq0, K17, C17⟩
       case measure => first | (simp [intOf]; done) | (simp [intOf]; omega)
      ·have h1 : ¬ (j : Int) < (q : Int) + 1 := by omega
       go_wp2_with fail
       refine NF1.out.mono ?_
       rintro e w11 ⟨rfl, b11⟩
       have BF := Lib.hid (B4.out.trans ((BW4.out.trans (b11.mono BW4.out.size)).mono B4.out.size))
       clear b11 NF1
       go_wp2_with fail
       go_ret
       exact ⟨ret_bool (by simp; omega), BF.out.alloc BF.out.size _⟩
theorem contract (H : Type) (enc : TypeId × Value → H) (W : World) (base : Nat) (args : Array Value) (ds gs : List (DataW H)) (before : List MemPlace)
  (hval : ∀ (j : Nat) t v, Tryz.f9.params[j]? = some t → args[j]? = some v → Value.okWide Tryz.prog W .any base t v)
  (hW : DataW.Whole enc Tryz.prog Tryz.f9.params.toList Rows.searchRoundSpec.vars false W args.toList ds gs before) (hL : laidMetH Tryz.prog Rows.searchRoundRow.laid W) :
  Calls Tryz.prog 9 args W fun e W' => ∃ v, e = .returned v ∧ Rows.searchRoundSpec.post enc Tryz.prog Tryz.f9 false true false false W args v W' := by
 have hW' := hW
 obtain ⟨p, q, hA0, hV, rfl, hfz, hnd⟩ := hW
 have hA : DataW.TrodAll enc Tryz.prog W 0 (fun _ => true) true Tryz.f9.params.toList args.toList ds p := hA0
 rw [Tryz.params9] at hA hval
 obtain ⟨v0, vs0, d0, ds0, p0, q0, hargs, rfl, rfl, h0, r0⟩ := trodAll_cons hA
 obtain ⟨v1, vs1, d1, ds1, p1, q1, rfl, rfl, rfl, h1, r1⟩ := trodAll_cons r0
 obtain ⟨rfl, rfl, rfl⟩ := trodAll_nil r1
 obtain rfl : args = #[v0, v1] := by cases args; simp_all
 obtain ⟨rfl, rfl⟩ := trodVars_none hV
 obtain ⟨x, rfl, rfl, rfl, wx⟩ := Go.ChangeMaps.open_string Tryz.underlying9 (hval 0 9 v0 rfl rfl) h0
 obtain ⟨Ay, ny, cy, y, rfl, hcy, hmy, hry, hqy⟩ := open_lines (hval 1 56 v1 rfl rfl) h1
 clear hA0
 refine (walk x wx Ay ny cy y hcy hmy W (spans_of hL) hry hqy).mono fun e W' ⟨he, hg⟩ => ?_
 subst he
 exact ⟨_, rfl, close rfl hW' ⟨rfl, rfl, rfl⟩ (by kernel_rfl) (by kernel_rfl) hg⟩
theorem laid_met (os : Os) : laidMet Tryz.prog Rows.searchRoundRow.laid ((laidWorld os).forCall (fun _ _ => 0) ⟨#[], #[.string .empty, .slice none 0 0], []⟩).memory :=
 laidMet_of_run' 8 (by kernel_rfl) (by kernel_rfl)
theorem reads (os : Os) {H : Type} (enc : TypeId × Value → H) : ∃ places, DataW.whole enc Tryz.prog ((laidWorld os).forCall (fun _ _ => 0) ⟨#[], #[.string .empty, .slice none 0 0], []⟩).memory Tryz.f9.params.toList Rows.searchRoundSpec.vars false (#[.string .empty, .slice none 0 0] : Array Value).toList 8 = some ([.lit (.string []), .nil], [], places) :=
 ⟨[], by kernel_rfl⟩
theorem lifted (os : Os) (started : os.Started) (H : Type) (enc : TypeId × Value → H) (F : Stop.Interp) :
  ReturnsInHanded {} Tryz.checked os 9 .any ((OpenSpec.ofChange Rows.searchRoundSpec).preRow enc Tryz.prog Tryz.f9 Rows.searchRoundRow.domain false Rows.searchRoundRow.laid) (((OpenSpec.ofChange Rows.searchRoundSpec).at F).post enc Tryz.prog Tryz.f9 false true false false) := by
 obtain ⟨places, hx⟩ := reads os enc
 refine returnsInHanded_of_row (C := Tryz.checked) (s := OpenSpec.ofChange Rows.searchRoundSpec) ownNone started (by kernel_rfl) Tryz.func9
  (witness_row_at (enc := enc) (C := Tryz.checked) false (laidWorld os) #[.string .empty, .slice none 0 0] rfl (by kernel_rfl) (by kernel_rfl) (by kernel_rfl)
   (OpenSpec.preRow_of_cond 8 hx (by kernel_rfl) (fun k hk => by cases hk) (by kernel_rfl) (laid_met os))) ?_
 intro W base args ds gs before hval hW _ _ _ hL _ _
 exact contract H enc W base args ds gs before hval hW hL
theorem facts : joinedFacts Tryz.checked.prog 9 Tryz.f9 (OpenSpec.ofChange Rows.searchRoundSpec).bare Rows.searchRoundRow = true := by
 have h1 := Sum.tables.1
 have h2 := Sum.tables.2.1
 have h3 := Sum.tables.2.2
 have h4 := Sum.mayEnter
 have e1 : Rows.searchRoundRow.lifted = Rows.findAllRow.lifted := by kernel_rfl
 have e2 : Rows.searchRoundRow.make = Rows.findAllRow.make := by kernel_rfl
 have h5 : (Rows.searchRoundRow.lifted == Tryz.checked.prog.liftsFinal) = true := by rw [e1]; exact Sum.lifts
 have h6 : (Tryz.checked.prog.make == some Rows.searchRoundRow.make) = true := by rw [e2]; exact Sum.make
 unfold joinedFacts
 repeat' (with_reducible refine Sum.and_mk ?_ ?_)
 all_goals first
  | with_reducible exact h1
  | with_reducible exact h2
  | with_reducible exact h4
  | with_reducible exact h5
  | with_reducible exact h6
  | (rw [h3]; as_aux_lemma => kernel_rfl)
  | (clear h1 h2 h3 h4 h5 h6 e1 e2; as_aux_lemma => kernel_rfl)
theorem said : Rows.SearchRoundSaid :=
 OpenClaim.holds_of_cond 9 Tryz.f9 rfl rfl rfl rfl rfl rfl rfl ⟨rfl, rfl, rfl, rfl, rfl⟩ rfl rfl rfl rfl rfl (by kernel_rfl) Tryz.func9 facts
  (of_decide_eq_true (by kernel_rfl)) (by unfold Func.isWrapper; first | (rw [if_pos (by decide +kernel)]; kernel_rfl) | (rw [if_neg (by decide +kernel)]; exact ⟨rfl, rfl⟩))
  (fun os started H enc _ F => by rw [OpenClaim.pre_eq_preRow]; exact lifted os started H enc F)
theorem plain (f : FuncId) (fn : Func) (hf : Tryz.pinned.checked.prog.funcNamed "rotulus/rotuluslaw16.SearchRound" = some f) (hfn : Tryz.pinned.checked.prog.funcs[f]? = some fn) :
  false = Tryz.pinned.checked.prog.looks [] ∧ ∀ (j : Nat) t, fn.params[j]? = some t → Tryz.pinned.checked.prog.wantsStandIn t = false := by
 obtain rfl : f = 9 := Option.some.inj ((show Tryz.prog.funcNamed "rotulus/rotuluslaw16.SearchRound" = some 9 by kernel_rfl).symm.trans hf) |>.symm
 obtain rfl : fn = Tryz.f9 := (Option.some.inj (Tryz.func9.symm.trans hfn)).symm
 refine ⟨by kernel_rfl, fun j t ht => ?_⟩
 rw [Tryz.params9] at ht
 have hm := Array.mem_of_getElem? ht
 simp at hm
 rcases hm with rfl | rfl
 ·exact (show Tryz.prog.wantsStandIn 9 = false by kernel_rfl)
 ·exact (show Tryz.prog.wantsStandIn 56 = false by kernel_rfl)
theorem card : Rows.SearchRoundCardSaid :=
 Claim7.holds_tied_plain_at .later [] _ _ _ _ said (fun _ h => by cases h) (by kernel_rfl) (fun _ h => by cases h) searchRound_row_tie rfl ⟨rfl, rfl⟩ (by kernel_rfl) rfl plain (by kernel_rfl)
end Go.Proofs.YteemnmalikomgaaGreatDoor.searchRound
