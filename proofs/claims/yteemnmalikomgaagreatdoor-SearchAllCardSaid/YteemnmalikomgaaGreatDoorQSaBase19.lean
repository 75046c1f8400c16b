import Derived.Test.YteemnmalikomgaaGreatDoorQSaBase18
set_option maxRecDepth 100000
set_option maxHeartbeats 25600000
namespace Go.Proofs.YteemnmalikomgaaGreatDoor
open Go.ChangeShapes Go.WideShapes Go.ChangeAt Go.RowKit
namespace NF
theorem hit_at {W : World} {B q j i a : Nat} {A : Option Addr} {g : Nat → Nat → Int} {H : List (Nat × Nat)} (h : Sq W B 3 q A (hitsV g H)) (hj : H[j]? = some (i, a)) (hq : j < q) :
    ∃ b off, A = some ⟨b, off, none⟩ ∧ b < B ∧ W.cell? ⟨b, off + j * 3, none⟩ = some (.int .i64 (i : Int)) ∧ W.cell? ⟨b, off + j * 3 + 1, none⟩ = some (.int .i64 (a : Int)) ∧ W.cell? ⟨b, off + j * 3 + 2, none⟩ = some (.int .i64 (g i a)) := by
  obtain ⟨b, off, e, hb, hc⟩ := h.spot (by omega)
  have get := fun d u (hu : [Value.int .i64 (i : Int), .int .i64 (a : Int), .int .i64 (g i a)][d]? = some u) => hc (j * 3 + d) u (flatMap_get (fun x : Nat × Nat => [Value.int .i64 (x.1 : Int), .int .i64 (x.2 : Int), .int .i64 (g x.1 x.2)]) 3 (fun _ => rfl) H j (i, a) hj d u hu)
  exact ⟨b, off, e, hb, get 0 _ rfl, get 1 _ rfl, get 2 _ rfl⟩
theorem sl_one (A : Option Addr) (n c : Nat) : ∀ u ∈ [Value.slice A n c], u.oneCell' = true := by
  intro u hu
  simp at hu
  subst hu
  rfl
def pB (out : Bool) (x y : Int) (h : Nat × Nat) : Bool := out || (decide (x < (h.1 : Int)) || decide ((h.1 : Int) = x) && decide (y < (h.2 : Int)))
def pA (out : Bool) (x y : Int) (h : Nat × Nat) : Bool := out || (decide ((h.1 : Int) < x) || decide ((h.1 : Int) = x) && decide ((h.2 : Int) < y))
theorem pB_true {x y : Int} {i a : Nat} (h : x < (i : Int) ∨ (i : Int) = x ∧ y < (a : Int)) : pB false x y (i, a) = true := by
  unfold pB
  simp only [Bool.false_or, Bool.or_eq_true, Bool.and_eq_true, decide_eq_true_eq]
  exact h
theorem pB_false {x y : Int} {i a : Nat} (h : ¬ (x < (i : Int) ∨ (i : Int) = x ∧ y < (a : Int))) : pB false x y (i, a) = false := by
  unfold pB
  rw [← Bool.not_eq_true]
  simp only [Bool.false_or, Bool.or_eq_true, Bool.and_eq_true, decide_eq_true_eq]
  exact h
theorem pA_true {x y : Int} {i a : Nat} (h : (i : Int) < x ∨ (i : Int) = x ∧ (a : Int) < y) : pA false x y (i, a) = true := by
  unfold pA
  simp only [Bool.false_or, Bool.or_eq_true, Bool.and_eq_true, decide_eq_true_eq]
  exact h
theorem pA_false {x y : Int} {i a : Nat} (h : ¬ ((i : Int) < x ∨ (i : Int) = x ∧ (a : Int) < y)) : pA false x y (i, a) = false := by
  unfold pA
  rw [← Bool.not_eq_true]
  simp only [Bool.false_or, Bool.or_eq_true, Bool.and_eq_true, decide_eq_true_eq]
  exact h
def refS (H : List (Nat × Nat)) (out back : Bool) (x y : Int) : Option (Nat × Nat) :=
  if back then (H.reverse.find? (pA out x y)).or H.reverse.head? else (H.find? (pB out x y)).or H.head?
theorem drop_find {α : Type} {p : α → Bool} {l : List α} {j : Nat} {x : α} (h : l[j]? = some x) : (l.drop j).find? p = if p x then some x else (l.drop (j + 1)).find? p := by
  obtain ⟨h1, h2⟩ := List.getElem?_eq_some_iff.1 h
  rw [List.drop_eq_getElem_cons h1, List.find?_cons, h2]
  cases p x <;> rfl
theorem take_find {α : Type} {p : α → Bool} {l : List α} {j : Nat} {x : α} (h : l[j]? = some x) : (l.take (j + 1)).reverse.find? p = if p x then some x else (l.take j).reverse.find? p := by
  obtain ⟨h1, h2⟩ := List.getElem?_eq_some_iff.1 h
  rw [List.take_succ_eq_append_getElem h1, h2, List.reverse_append]
  simp only [List.reverse_cons, List.reverse_nil, List.nil_append, List.cons_append, List.find?_cons]
  cases p x <;> rfl
theorem refS_fwd (t : Nd) (ls : List (List Cel)) (x y : Int) : refS (allH (fOf t ls) (nOf ls) 0 ls.length) (!withinB ls x y) false x y = fwdS t ls x y := by
  unfold refS fwdS
  rw [if_neg (by decide)]
  cases h : withinB ls x y with
  | false =>
    rw [if_neg (by decide), fwd_head _ _ _ _ _ (by omega), find_all fun _ _ => by simp [pB]]
    cases (allH (fOf t ls) (nOf ls) 0 ls.length).head? <;> rfl
  | true =>
    rw [if_pos rfl]
    obtain ⟨⟨h1, h2⟩, h3, h4⟩ := withinB_iff.1 h
    obtain ⟨L, rfl⟩ : ∃ i : Nat, x = (i : Int) := ⟨x.toNat, by omega⟩
    obtain ⟨O, rfl⟩ : ∃ i : Nat, y = (i : Int) := ⟨y.toNat, by omega⟩
    rw [Int.toNat_natCast] at h4
    rw [Int.toNat_natCast, Int.toNat_natCast, fwd_in _ _ _ _ _ (by omega) (by omega)]
    have e : pB (!true) (L : Int) (O : Int) = beh L O := by
      funext h
      unfold pB beh
      simp [show ((h.1 : Int) = (L : Int)) = (h.1 = L) from propext ⟨fun e => by omega, fun e => by omega⟩]
    rw [e]
theorem refS_bwd (t : Nd) (ls : List (List Cel)) (x y : Int) : refS (allH (fOf t ls) (nOf ls) 0 ls.length) (!withinB ls x y) true x y = bwdS t ls x y := by
  unfold refS bwdS
  rw [if_pos rfl]
  cases h : withinB ls x y with
  | false =>
    rw [if_neg (by decide), find_all fun _ _ => by simp [pA]]
    cases hn : ls.length with
    | zero => rfl
    | succ k =>
      have := bwd_last (fOf t ls) (nOf ls) (k + 1) k 0 (by omega)
      rw [Nat.zero_add] at this
      rw [Nat.add_sub_cancel, this]
      cases (allH (fOf t ls) (nOf ls) 0 (k + 1)).reverse.head? <;> rfl
  | true =>
    rw [if_pos rfl]
    obtain ⟨⟨h1, h2⟩, h3, h4⟩ := withinB_iff.1 h
    obtain ⟨L, rfl⟩ : ∃ i : Nat, x = (i : Int) := ⟨x.toNat, by omega⟩
    obtain ⟨O, rfl⟩ : ∃ i : Nat, y = (i : Int) := ⟨y.toNat, by omega⟩
    rw [Int.toNat_natCast] at h4
    rw [Int.toNat_natCast, Int.toNat_natCast, Nat.min_eq_left (by omega), bwd_in _ _ _ _ _ (by omega) (by omega)]
    have e : pA (!true) (L : Int) (O : Int) = ahd L O := by
      funext h
      unfold pA ahd
      simp [show ((h.1 : Int) = (L : Int)) = (h.1 = L) from propext ⟨fun e => by omega, fun e => by omega⟩]
    rw [e]
theorem refSearch_walk (t : Nd) (xx : Nv) (lo : Nat) (A : Option Addr) (n c : Nat) (ls : List (List Cel)) (x y z : Int) (back : Bool) (w : World) (hct : may t = true) (hx : NdIn w lo w.heap.size t xx) (hl : ls.length = n) (hn : n ≤ 1000) (hf : ∀ l ∈ ls, l.length ≤ 1000) (h : Lat w w.heap.size A ls) :
    Calls Tryz.prog 33 #[.slice A n c, xx.v, .agg #[.int .i64 x, .int .i64 y, .int .i64 z], .bool back] w fun e w' => e = .returned (hitS (fOf t ls) (refS (allH (fOf t ls) (nOf ls) 0 n) (!withinB ls x y) back x y)) ∧ Below w.heap.size w w' := by
  obtain ⟨k, Ak, nk, ck, nt, A2, n2, c2, mn, mx⟩ := xx
  obtain ⟨w1, hw1, k1, b1, z1⟩ := boxed_node w k Ak nk ck nt A2 n2 c2 mn mx
  obtain ⟨w2, hw2, k2, b2, z2⟩ := three_new w1 58 x y z
  obtain ⟨w3, hw3, k3, b3, z3⟩ := three_new w2 61 0 0 0
  obtain ⟨g5, hg5⟩ : ∃ g, w.heap.size = g := ⟨_, rfl⟩
  have e1 : w1.heap.size = g5 + 1 := by omega
  have e2 : w2.heap.size = g5 + 1 + 1 := by omega
  rw [hg5] at k1
  rw [e1] at k2
  rw [e2] at k3
  have b23 := b2.trans (b3.mono b2.size)
  have B3 := Lib.hid (b1.trans (b23.mono b1.size))
  have K5 := Lib.hid (k1.below b23 k1.lt)
  have K6 := Lib.hid (k2.below b3 k2.lt)
  have K8 := Lib.hid k3
  have G5 := Lib.hid hg5
  have H3 := Lib.hid ((h.below B3.out).up B3.out.size)
  have X3 := Lib.hid (ndIn_up (Nat.le_refl _) B3.out.size (hx.below B3.out))
  have HL := Lib.hid hl
  have HF := Lib.hid hf
  have MY := Lib.hid hct
  have HW1 := Lib.hid hw1
  have HW2 := Lib.hid hw2
  have HW3 := Lib.hid hw3
  have E1 := Lib.hid e1
  have E2 := Lib.hid e2
  obtain ⟨i0, hi, hz0, hz1, hz2⟩ := info_parts infoRs
  clear h hx hl hf hct k1 b1 z1 hw1 k2 b2 z2 hw2 k3 b3 z3 hw3 hg5 e1 e2 b23
  dsimp only [Nv.v]
  obtain ⟨f, hf⟩ : ∃ f, fOf t ls = f := ⟨_, rfl⟩
  obtain ⟨H, hH⟩ : ∃ H, allH f (nOf ls) 0 n = H := ⟨_, rfl⟩
  obtain ⟨OT, hOT⟩ : ∃ b, (!withinB ls x y) = b := ⟨_, rfl⟩
  rw [hf, hH, hOT]
  have HFE := Lib.hid hf
  have HHE := Lib.hid hH
  have HOT := Lib.hid hOT
  clear hf hH hOT
  go_enter Tryz.func33, Tryz.ntmps33
  go_upto_region 1 with fail
  rw [G5.out]
  first
    | rw [HW1.out]
    | (change Code.wp _ _ _ _ (((w.alloc (.cells #[.int .i64 k, .slice Ak nk ck, .bool nt, .slice A2 n2 c2, .int .i64 mn, .int .i64 mx] 29)).alloc _).alloc _); rw [HW1.out])
  first
    | rw [HW2.out]
    | (change Code.wp _ _ _ _ ((w1.alloc (.cells #[.int .i64 x, .int .i64 y, .int .i64 z] 58)).alloc _); rw [HW2.out])
  first
    | rw [HW3.out]
    | (change Code.wp _ _ _ _ (w2.alloc (.cells #[.int .i64 0, .int .i64 0, .int .i64 0] 61)); rw [HW3.out])
  go_wp2_with fail
  go_loopw [10, 11] (fun v u wr => ∃ (i : Nat) (vs : List Value), u = .int .i64 (i : Int) ∧ i ≤ n ∧ Hid (RLns wr w3.heap.size v vs ((ls.map sg).take i) ∧ ((ls.map sg).take i).length = i) ∧ Hid (Below w3.heap.size w3 wr)) (fun _ u _ => n - (intOf u).toNat)
  case atStart => exact ⟨0, [], rfl, Nat.zero_le _, Lib.hid ⟨RLns.nothing _ _, rfl⟩, Lib.hid (Below.refl _ _)⟩
  case round =>
    obtain ⟨i, vs, rfl, hin, RO, BR⟩ := hrel
    have hi0 : (0 : Int) ≤ (i : Int) := by omega
    by_cases hlt : i < n
    · have h1 : (i : Int) < (n : Int) := by omega
      have hw : IntKind.i64.wrap ((i : Int) + 1) = (i : Int) + 1 := IntWalk.i64_in _ (by omega)
      have hls := lineAt_some (ls := ls) (i := i) (by rw [HL.out]; exact hlt)
      obtain ⟨b, off, A', c', rfl, hb, hc, hc', hq⟩ := (H3.out.below BR.out).each i _ hls
      have hfew := HF.out _ (List.mem_of_getElem? hls)
      obtain ⟨m, hm⟩ : ∃ m, (lineAt ls i).length = m := ⟨_, rfl⟩
      rw [hm] at hc hc' hq hfew
      have SW := Lib.hid (refSg_walk A' m c' (lineAt ls i) wr hm (hq.up BR.out.size) (by omega))
      unfold RunO at SW
      rw [sg_len, hm] at SW
      have TK := Lib.hid (show (ls.map sg).take (i + 1) = (ls.map sg).take i ++ [sg (lineAt ls i)] from by
        have h2 : (ls.map sg)[i]? = some (sg (lineAt ls i)) := by rw [List.getElem?_map, hls]; rfl
        obtain ⟨h3, h4⟩ := List.getElem?_eq_some_iff.1 h2
        rw [List.take_succ_eq_append_getElem h3, h4])
      have SM := Lib.hid (show (sg (lineAt ls i)).length = m from by rw [sg_len, hm])
      clear hb hc' hq hm hls
      go_wp2_with fail
      refine SW.out.mono ?_
      rintro e w5 ⟨v5, rfl, ho5, b5⟩
      obtain ⟨A5, c5, rfl⟩ := own_len ho5
      have BR5 := Lib.hid (BR.out.trans (b5.mono BR.out.size))
      have RO5 := Lib.hid (RO.out.1.laid b5)
      obtain ⟨w6, hw6⟩ : ∃ w6, w5.alloc (.cells #[.slice A5 m c5] 23) = w6 := ⟨_, rfl⟩
      have b6 : Below w5.heap.size w5 w6 := by rw [← hw6]; exact (Below.refl _ _).alloc (Nat.le_refl _) _
      have sq := sqO_new' w5 #[.slice A5 m c5] 23 1 1 rfl
      rw [hw6] at sq
      have SQ := Lib.hid sq
      have RO6 := Lib.hid (RO5.out.laid b6)
      have O6 := Lib.hid ((Trn.ofBelow b6 fun _ => False).own (own_lower ho5 BR.out.size) (fun _ _ x => x))
      have BX := Lib.hid (BR5.out.trans (b6.mono BR5.out.size))
      have OW6 := Lib.hid (show w6.ownsRow w3.heap.size 23 1 u10 i vs from by have h := RO6.out.own; rwa [RO.out.2] at h)
      clear sq b6 b5 ho5 SW RO5
      have R7F := Lib.hid (show ∀ v' w7, w7.ownsRow w3.heap.size 23 1 v' (i + 1) (vs ++ [.slice A5 m c5]) → w6.grownBy w7 (Value.ownBlock u10) → (RLns w7 w3.heap.size v' (vs ++ [.slice A5 m c5]) ((ls.map sg).take (i + 1)) ∧ ((ls.map sg).take (i + 1)).length = i + 1) ∧ Below w3.heap.size w3 w7 from fun v' w7 h3 h4 => by
        rw [TK.out]
        exact ⟨⟨RO6.out.snoc (by rw [SM.out]; exact O6.out) (by rw [RO.out.2]; exact h3) h4, by rw [List.length_append, RO.out.2]; rfl⟩, BX.out.trans ((Trn.ofGrown h4).toBelow BX.out.size (fun k hk e => by have := (World.ownsRow.lt OW6.out k e).1; omega))⟩)
      have F1 := Lib.hid (show i + 1 ≤ maxLen ∧ (i + 1) * 24 ≤ 140737488355328 from by unfold maxLen; omega)
      go_wp2_with (first | (at_builtin; refine wpl_app rfl _ _ 66 rfl w3.heap.size 23 i0 (.slice none 0 0) 1 24 Tryz.underlying66 hi hz0 hz1 hz2 rfl (by decide) u10 i vs rfl OW6.out (some ⟨w5.heap.size, 0, none⟩) 1 1 [.slice A5 m c5] rfl w6.heap.size SQ.out (sl_one _ _ _) F1.out.1 F1.out.2 BX.out.size ?_; intro v' w7 h3 h4 _; (have R7 := Lib.hid (R7F.out v' w7 h3 h4)); clear h3 h4))
      go_roundw
      case rel => exact ⟨i + 1, _, by first | rfl | (congr 1; done) | (congr 1; omega), by omega, Lib.hid R7.out.1, Lib.hid R7.out.2⟩
      case measure => first | (simp [intOf]; done) | (simp [intOf]; omega)
    · obtain rfl : i = n := by omega
      have TA := Lib.hid (show (ls.map sg).take i = ls.map sg from List.take_of_length_le (by rw [List.length_map, HL.out]; exact Nat.le_refl _))
      obtain ⟨A10, c10, rfl, hrt⟩ := RO.out.1.rd (fun l hl => by
        obtain ⟨l', hl', rfl⟩ := List.mem_map.1 (List.mem_of_mem_take hl)
        rw [sg_len]
        exact HF.out l' hl')
      rw [RO.out.2]
      have RH := Lib.hid (refHits_walk t ⟨k, Ak, nk, ck, nt, A2, n2, c2, mn, mx⟩ lo A10 i c10 (ls.map sg) wr MY.out (ndIn_up (Nat.le_refl _) BR.out.size (X3.out.below BR.out)) (by rw [List.length_map, HL.out]) hn (by have h := hrt; rwa [TA.out] at h))
      rw [gOf_sg, mOf_sg, HFE.out, HHE.out] at RH
      unfold HitsP at RH
      dsimp only [Nv.v] at RH
      obtain ⟨y0, y1, y2, y3, y4, y5⟩ := nv_bk (show nodeBk wr g5 ⟨k, Ak, nk, ck, nt, A2, n2, c2, mn, mx⟩ from K5.out.below BR.out K5.out.lt)
      have HLEN := Lib.hid (show H.length ≤ 1000000 from by
        rw [← HHE.out]
        have := allH_len f (nOf ls) (fun j => by
          unfold nOf
          by_cases hj : j < ls.length
          · exact HF.out _ (List.mem_of_getElem? (lineAt_some hj))
          · unfold lineAt
            rw [List.getElem?_eq_none (by omega)]
            exact Nat.zero_le _) i 0
        omega)
      clear hrt RO hz0 hz1 hz2 hi
      go_wp2_with fail
      refine RH.out.mono ?_
      rintro e w9 ⟨v9, rfl, ho9, b9⟩
      obtain ⟨A9, c9, rfl⟩ := own_len ho9
      have B9 := Lib.hid (BR.out.trans (b9.mono BR.out.size))
      have SH := Lib.hid (Sq.own ho9)
      have H9 := Lib.hid ((H3.out.below B9.out).up B9.out.size)
      obtain ⟨q, hq⟩ : ∃ q, H.length = q := ⟨_, rfl⟩
      rw [hq] at SH HLEN ⊢
      have HQ := Lib.hid hq
      have hq6 : q ≤ 1000000 := HLEN.out
      clear b9 ho9 hq y0 y1 y2 y3 y4 y5 RH
      by_cases hq0 : q = 0
      · subst hq0
        have HE := Lib.hid (show H = [] from List.eq_nil_of_length_eq_zero HQ.out)
        have K8W := Lib.hid (K8.out.below B9.out K8.out.lt)
        have BWW := Lib.hid (B3.out.trans ((B9.out).mono B3.out.size))
        obtain ⟨m0, m1, m2⟩ := threeBk.get K8W.out
        obtain ⟨f0, f1, f2⟩ := threeBk.free K8W.out
        have PN := put3_bk K8W.out 0 0 0
        have M := BWW.out.trans ((put3_trn w9 (g5 + 1 + 1) 0 0 0).toBelow BWW.out.size fun k hk e => by have := G5.out; omega)
        go_wp2_with fail
        change bodyPost _ _ _ _ _ (put3 w9 (g5 + 1 + 1) 0 0 0)
        revert PN M
        generalize put3 w9 (g5 + 1 + 1) 0 0 0 = WW
        intro PN M
        obtain ⟨p0, p1, p2⟩ := threeBk.get PN
        refine bodyPost_ret (v := .tuple #[.agg #[.int .i64 0, .int .i64 0, .int .i64 0], .bool false]) (by simp [results, Tryz.results33, go_sem, p0, p1, p2] <;> rfl) rfl ?_
        exact ⟨by rw [HE.out]; cases back <;> rfl, M⟩
      · have hqb : ((q : Int) == 0) = false := by simp; omega
        have q0 : ∀ j, (w9.drewN j).cell? ⟨g5 + 1, 0, none⟩ = some (.int .i64 x) := fun j => ((laid_drewN w9 j).cell (p := ⟨g5 + 1, 0, none⟩) (K6.out.below B9.out K6.out.lt).lt).trans (K6.out.below B9.out K6.out.lt).get.1
        have q1 : ∀ j, (w9.drewN j).cell? ⟨g5 + 1, 1, none⟩ = some (.int .i64 y) := fun j => ((laid_drewN w9 j).cell (p := ⟨g5 + 1, 1, none⟩) (K6.out.below B9.out K6.out.lt).lt).trans (K6.out.below B9.out K6.out.lt).get.2.1
        go_upto_region 9 with fail
        go_cut [13] from 37 to 63 (fun s13 wx => s13 = .bool OT ∧ Hid (Below w9.heap.size w9 wx))
        case first =>
          by_cases h1 : x < 0
          · have E := Lib.hid (show OT = true from by rw [← HOT.out, Bool.not_eq_true', ← Bool.not_eq_true, withinB_iff]; omega)
            go_quiet (fail)
            go_wp2_with fail
            go_meet
            case rel => exact ⟨by rw [E.out], Lib.hid (laid_drewN w9 _)⟩
          · by_cases h2 : (i : Int) ≤ x
            · have E := Lib.hid (show OT = true from by rw [← HOT.out, Bool.not_eq_true', ← Bool.not_eq_true, withinB_iff, HL.out]; omega)
              go_quiet (fail)
              go_wp2_with fail
              go_meet
              case rel => exact ⟨by rw [E.out], Lib.hid (laid_drewN w9 _)⟩
            · by_cases h3 : y < 0
              · have E := Lib.hid (show OT = true from by rw [← HOT.out, Bool.not_eq_true', ← Bool.not_eq_true, withinB_iff]; omega)
                go_quiet (fail)
                go_wp2_with fail
                go_meet
                case rel => exact ⟨by rw [E.out], Lib.hid (laid_drewN w9 _)⟩
              · obtain ⟨L, rfl⟩ : ∃ j : Nat, x = (j : Int) := ⟨x.toNat, by omega⟩
                obtain ⟨b, off, A', c', rfl, hb, hc, hc', _⟩ := H9.out.each L _ (lineAt_some (by rw [HL.out]; omega))
                obtain ⟨m, hm⟩ : ∃ m, (lineAt ls L).length = m := ⟨_, rfl⟩
                rw [hm] at hc
                have q2 : ∀ j, (w9.drewN j).cell? ⟨b, off + L, none⟩ = some (.slice A' m c') := fun j => ((laid_drewN w9 j).cell (p := ⟨b, off + L, none⟩) hb).trans hc
                have HM := Lib.hid hm
                have hL0 : (0 : Int) ≤ (L : Int) := by omega
                have hL1 : (L : Int) < (i : Int) := by omega
                clear hc hb hc' hm
                by_cases h4 : (m : Int) < y
                · have E := Lib.hid (show OT = true from by
                    rw [← HOT.out, Bool.not_eq_true', ← Bool.not_eq_true, withinB_iff]
                    unfold nOf
                    rw [Int.toNat_natCast, HM.out]
                    omega)
                  go_quiet (fail)
                  go_wp2_with fail
                  go_meet
                  case rel => exact ⟨by rw [E.out], Lib.hid (laid_drewN w9 _)⟩
                · have E := Lib.hid (show OT = false from by
                    have h5 : withinB ls (L : Int) y = true := withinB_iff.2 ⟨⟨by omega, by rw [HL.out]; omega⟩, by omega, by unfold nOf; rw [Int.toNat_natCast, HM.out]; omega⟩
                    rw [← HOT.out, h5]
                    rfl)
                  go_quiet (fail)
                  go_wp2_with fail
                  go_meet
                  case rel => exact ⟨by rw [E.out], Lib.hid (laid_drewN w9 _)⟩
        case rest =>
          obtain ⟨rfl, CX⟩ := hcut
          have BC := Lib.hid (B9.out.trans (CX.out.mono B9.out.size))
          have SC := Lib.hid ((SH.out.below CX.out).up CX.out.size)
          have QS := Lib.hid (show ∀ W, Below wc.heap.size wc W → W.cell? ⟨g5 + 1, 0, none⟩ = some (.int .i64 x) ∧ W.cell? ⟨g5 + 1, 1, none⟩ = some (.int .i64 y) from fun W hW => by
            have h2 := K6.out.below (BC.out.trans (hW.mono BC.out.size)) K6.out.lt
            exact ⟨h2.get.1, h2.get.2.1⟩)
          clear q0 q1 CX H9 SH
          have hqw : IntKind.i64.wrap ((q : Int) - 1) = (q : Int) - 1 := IntWalk.i64_in _ (by omega)
          cases back with
          | false =>
            go_wp2_with fail
            go_loopw [14] (fun u wr => ∃ j : Nat, u = .int .i64 (j : Int) ∧ j ≤ q ∧ Hid (H.find? (pB OT x y) = (H.drop j).find? (pB OT x y)) ∧ Hid (Below wc.heap.size wc wr)) (fun u _ => q - (intOf u).toNat)
            case atStart => exact ⟨0, rfl, Nat.zero_le _, Lib.hid rfl, Lib.hid (Below.refl _ _)⟩
            case round =>
              obtain ⟨j, rfl, hjq, FD, BJ⟩ := hrel
              by_cases hlt : j < q
              · have hjw : IntKind.i64.wrap ((j : Int) + 1) = (j : Int) + 1 := IntWalk.i64_in _ (by omega)
                have hj0 : (0 : Int) ≤ (j : Int) := by omega
                have hj1 : (j : Int) < (q : Int) := by omega
                obtain ⟨⟨hi', ha'⟩, hh⟩ : ∃ x, H[j]? = some x := ⟨_, List.getElem?_eq_getElem (by rw [HQ.out]; omega)⟩
                obtain ⟨b, off, rfl, hb, d0, d1, d2⟩ := hit_at SC.out hh (by omega)
                have D0 : ∀ r, (wr.drewN r).cell? ⟨b, off + j * 3, none⟩ = some (.int .i64 (hi' : Int)) := fun r => (((BJ.out.trans ((laid_drewN wr r).mono BJ.out.size)).cell (p := ⟨b, off + j * 3, none⟩) hb)).trans d0
                have D1 : ∀ r, (wr.drewN r).cell? ⟨b, off + j * 3 + 1, none⟩ = some (.int .i64 (ha' : Int)) := fun r => (((BJ.out.trans ((laid_drewN wr r).mono BJ.out.size)).cell (p := ⟨b, off + j * 3 + 1, none⟩) hb)).trans d1
                have D2 : ∀ r, (wr.drewN r).cell? ⟨b, off + j * 3 + 2, none⟩ = some (.int .i64 (f hi' ha')) := fun r => (((BJ.out.trans ((laid_drewN wr r).mono BJ.out.size)).cell (p := ⟨b, off + j * 3 + 2, none⟩) hb)).trans d2
                have q0 := fun r => (QS.out (wr.drewN r) (BJ.out.trans ((laid_drewN wr r).mono BJ.out.size))).1
                have q1 := fun r => (QS.out (wr.drewN r) (BJ.out.trans ((laid_drewN wr r).mono BJ.out.size))).2
                have FS := Lib.hid (drop_find (p := pB OT x y) hh)
                obtain ⟨pv, hpv⟩ : ∃ b, pB OT x y (hi', ha') = b := ⟨_, rfl⟩
                rw [hpv] at FS
                have HPV := Lib.hid hpv
                have KW := Lib.hid (fun r => laid_drewN wr r)
                clear hh d0 d1 d2 hb hpv
                go_upto_region 13 with fail
                cases OT
                · by_cases g1 : x < (hi' : Int)
                  · have E := Lib.hid (show pv = true from by rw [← HPV.out]; exact pB_true (by omega))
                    go_quiet (fail)
                    have BQ := Lib.hid (BJ.out.trans ((KW.out nq).mono BJ.out.size))
                    have d0 := D0 nq
                    have d1 := D1 nq
                    have d2 := D2 nq
                    clear D0 D1 D2 q0 q1
                    generalize wr.drewN nq = wq at BQ d0 d1 d2 ⊢
                    have RV := Lib.hid (show (H.find? (pB false x y)).or H.head? = some (hi', ha') from by rw [FD.out, FS.out, E.out, if_pos rfl]; rfl)
                    have K8W := Lib.hid (K8.out.below (BC.out.trans (BQ.out.mono BC.out.size)) K8.out.lt)
                    have BWW := Lib.hid (B3.out.trans (((BC.out.trans (BQ.out.mono BC.out.size))).mono B3.out.size))
                    obtain ⟨m0, m1, m2⟩ := threeBk.get K8W.out
                    obtain ⟨f0, f1, f2⟩ := threeBk.free K8W.out
                    have PN := put3_bk K8W.out (hi' : Int) (ha' : Int) (f hi' ha')
                    have M := BWW.out.trans ((put3_trn wq (g5 + 1 + 1) (hi' : Int) (ha' : Int) (f hi' ha')).toBelow BWW.out.size fun k hk e => by have := G5.out; omega)
                    go_wp2_with fail
                    change bodyPost _ _ _ _ _ (put3 wq (g5 + 1 + 1) (hi' : Int) (ha' : Int) (f hi' ha'))
                    revert PN M
                    generalize put3 wq (g5 + 1 + 1) (hi' : Int) (ha' : Int) (f hi' ha') = WW
                    intro PN M
                    obtain ⟨p0, p1, p2⟩ := threeBk.get PN
                    refine bodyPost_ret (v := .tuple #[.agg #[.int .i64 (hi' : Int), .int .i64 (ha' : Int), .int .i64 (f hi' ha')], .bool true]) (by simp [results, Tryz.results33, go_sem, p0, p1, p2] <;> rfl) rfl ?_
                    exact ⟨by unfold refS; rw [if_neg (by decide), RV.out, hitS], M⟩
                  · by_cases g2 : (hi' : Int) = x
                    · subst g2
                      by_cases g4 : y < (ha' : Int)
                      · have E := Lib.hid (show pv = true from by rw [← HPV.out]; exact pB_true (by omega))
                        go_quiet (fail)
                        have BQ := Lib.hid (BJ.out.trans ((KW.out nq).mono BJ.out.size))
                        have d0 := D0 nq
                        have d1 := D1 nq
                        have d2 := D2 nq
                        clear D0 D1 D2 q0 q1
                        generalize wr.drewN nq = wq at BQ d0 d1 d2 ⊢
                        have RV := Lib.hid (show (H.find? (pB false (hi' : Int) y)).or H.head? = some (hi', ha') from by rw [FD.out, FS.out, E.out, if_pos rfl]; rfl)
                        have K8W := Lib.hid (K8.out.below (BC.out.trans (BQ.out.mono BC.out.size)) K8.out.lt)
                        have BWW := Lib.hid (B3.out.trans (((BC.out.trans (BQ.out.mono BC.out.size))).mono B3.out.size))
                        obtain ⟨m0, m1, m2⟩ := threeBk.get K8W.out
                        obtain ⟨f0, f1, f2⟩ := threeBk.free K8W.out
                        have PN := put3_bk K8W.out (hi' : Int) (ha' : Int) (f hi' ha')
                        have M := BWW.out.trans ((put3_trn wq (g5 + 1 + 1) (hi' : Int) (ha' : Int) (f hi' ha')).toBelow BWW.out.size fun k hk e => by have := G5.out; omega)
                        go_wp2_with fail
                        change bodyPost _ _ _ _ _ (put3 wq (g5 + 1 + 1) (hi' : Int) (ha' : Int) (f hi' ha'))
                        revert PN M
                        generalize put3 wq (g5 + 1 + 1) (hi' : Int) (ha' : Int) (f hi' ha') = WW
                        intro PN M
                        obtain ⟨p0, p1, p2⟩ := threeBk.get PN
                        refine bodyPost_ret (v := .tuple #[.agg #[.int .i64 (hi' : Int), .int .i64 (ha' : Int), .int .i64 (f hi' ha')], .bool true]) (by simp [results, Tryz.results33, go_sem, p0, p1, p2] <;> rfl) rfl ?_
                        exact ⟨by unfold refS; rw [if_neg (by decide), RV.out, hitS], M⟩
                      · have E := Lib.hid (show pv = false from by rw [← HPV.out]; exact pB_false (by omega))
                        go_quiet (fail)
                        have BQ := Lib.hid (BJ.out.trans ((KW.out nq).mono BJ.out.size))
                        have d0 := D0 nq
                        have d1 := D1 nq
                        have d2 := D2 nq
                        clear D0 D1 D2 q0 q1
                        generalize wr.drewN nq = wq at BQ d0 d1 d2 ⊢
                        have F2 := Lib.hid (show H.find? (pB false (hi' : Int) y) = (H.drop (j + 1)).find? (pB false (hi' : Int) y) from by rw [FD.out, FS.out, E.out, if_neg (by decide)])
                        go_wp2_with fail
                        go_roundw
                        case rel => exact ⟨j + 1, by first | rfl | (congr 1; done) | (congr 1; omega), by omega, F2, BQ⟩
                        case measure => first | (simp [intOf]; done) | (simp [intOf]; omega)
                    · have E := Lib.hid (show pv = false from by rw [← HPV.out]; exact pB_false (by omega))
                      have g3 : ((hi' : Int) == x) = false := by simp [g2]
                      go_quiet (fail)
                      have BQ := Lib.hid (BJ.out.trans ((KW.out nq).mono BJ.out.size))
                      have d0 := D0 nq
                      have d1 := D1 nq
                      have d2 := D2 nq
                      clear D0 D1 D2 q0 q1
                      generalize wr.drewN nq = wq at BQ d0 d1 d2 ⊢
                      have F2 := Lib.hid (show H.find? (pB false x y) = (H.drop (j + 1)).find? (pB false x y) from by rw [FD.out, FS.out, E.out, if_neg (by decide)])
                      go_wp2_with fail
                      go_roundw
                      case rel => exact ⟨j + 1, by first | rfl | (congr 1; done) | (congr 1; omega), by omega, F2, BQ⟩
                      case measure => first | (simp [intOf]; done) | (simp [intOf]; omega)
                · have E := Lib.hid (show pv = true from by rw [← HPV.out]; unfold pB; rfl)
                  go_quiet (fail)
                  have BQ := Lib.hid (BJ.out.trans ((KW.out nq).mono BJ.out.size))
                  have d0 := D0 nq
                  have d1 := D1 nq
                  have d2 := D2 nq
                  clear D0 D1 D2 q0 q1
                  generalize wr.drewN nq = wq at BQ d0 d1 d2 ⊢
                  have RV := Lib.hid (show (H.find? (pB true x y)).or H.head? = some (hi', ha') from by rw [FD.out, FS.out, E.out, if_pos rfl]; rfl)
                  have K8W := Lib.hid (K8.out.below (BC.out.trans (BQ.out.mono BC.out.size)) K8.out.lt)
                  have BWW := Lib.hid (B3.out.trans (((BC.out.trans (BQ.out.mono BC.out.size))).mono B3.out.size))
                  obtain ⟨m0, m1, m2⟩ := threeBk.get K8W.out
                  obtain ⟨f0, f1, f2⟩ := threeBk.free K8W.out
                  have PN := put3_bk K8W.out (hi' : Int) (ha' : Int) (f hi' ha')
                  have M := BWW.out.trans ((put3_trn wq (g5 + 1 + 1) (hi' : Int) (ha' : Int) (f hi' ha')).toBelow BWW.out.size fun k hk e => by have := G5.out; omega)
                  go_wp2_with fail
                  change bodyPost _ _ _ _ _ (put3 wq (g5 + 1 + 1) (hi' : Int) (ha' : Int) (f hi' ha'))
                  revert PN M
                  generalize put3 wq (g5 + 1 + 1) (hi' : Int) (ha' : Int) (f hi' ha') = WW
                  intro PN M
                  obtain ⟨p0, p1, p2⟩ := threeBk.get PN
                  refine bodyPost_ret (v := .tuple #[.agg #[.int .i64 (hi' : Int), .int .i64 (ha' : Int), .int .i64 (f hi' ha')], .bool true]) (by simp [results, Tryz.results33, go_sem, p0, p1, p2] <;> rfl) rfl ?_
                  exact ⟨by unfold refS; rw [if_neg (by decide), RV.out, hitS], M⟩
              · obtain rfl : j = q := by omega
                have FN := Lib.hid (show H.find? (pB OT x y) = .none from by rw [FD.out, List.drop_of_length_le (by rw [HQ.out]; exact Nat.le_refl _)]; rfl)
                obtain ⟨⟨hi', ha'⟩, hh⟩ : ∃ x, H[0]? = some x := ⟨_, List.getElem?_eq_getElem (by rw [HQ.out]; omega)⟩
                obtain ⟨b, off, rfl, hb, d0, d1, d2⟩ := hit_at SC.out hh (by omega)
                have RV := Lib.hid (show (H.find? (pB OT x y)).or H.head? = some (hi', ha') from by rw [FN.out, Option.none_or, List.head?_eq_getElem?, hh])
                have hq1 : (0 : Int) < (j : Int) := by omega
                rw [Nat.zero_mul, Nat.add_zero] at d0 d1 d2
                have QB := Lib.hid hb
                have DD := Lib.hid (And.intro d0 (And.intro d1 d2))
                clear hh d0 d1 d2 hb FD
                go_wp2_with fail
                go_loopw [15] (fun u wq => u = .int .i64 ((j : Int) - 1) ∧ Hid (Below wc.heap.size wc wq)) (fun _ _ => 0)
                case atStart => exact ⟨rfl, BJ⟩
                case round =>
                  obtain ⟨rfl, BQ⟩ := hrel
                  have h0 : (0 : Int) ≤ (j : Int) - 1 := by omega
                  have d0 := (BQ.out.cell (p := ⟨b, off, none⟩) QB.out).trans DD.out.1
                  have d1 := (BQ.out.cell (p := ⟨b, off + 1, none⟩) QB.out).trans DD.out.2.1
                  have d2 := (BQ.out.cell (p := ⟨b, off + 2, none⟩) QB.out).trans DD.out.2.2
                  have K8W := Lib.hid (K8.out.below (BC.out.trans (BQ.out.mono BC.out.size)) K8.out.lt)
                  have BWW := Lib.hid (B3.out.trans (((BC.out.trans (BQ.out.mono BC.out.size))).mono B3.out.size))
                  obtain ⟨m0, m1, m2⟩ := threeBk.get K8W.out
                  obtain ⟨f0, f1, f2⟩ := threeBk.free K8W.out
                  have PN := put3_bk K8W.out (hi' : Int) (ha' : Int) (f hi' ha')
                  have M := BWW.out.trans ((put3_trn wr (g5 + 1 + 1) (hi' : Int) (ha' : Int) (f hi' ha')).toBelow BWW.out.size fun k hk e => by have := G5.out; omega)
                  go_wp2_with fail
                  change bodyPost _ _ _ _ _ (put3 wr (g5 + 1 + 1) (hi' : Int) (ha' : Int) (f hi' ha'))
                  revert PN M
                  generalize put3 wr (g5 + 1 + 1) (hi' : Int) (ha' : Int) (f hi' ha') = WW
                  intro PN M
                  obtain ⟨p0, p1, p2⟩ := threeBk.get PN
                  refine bodyPost_ret (v := .tuple #[.agg #[.int .i64 (hi' : Int), .int .i64 (ha' : Int), .int .i64 (f hi' ha')], .bool true]) (by simp [results, Tryz.results33, go_sem, p0, p1, p2] <;> rfl) rfl ?_
                  exact ⟨by unfold refS; rw [if_neg (by decide), RV.out, hitS], M⟩
          | true =>
            go_wp2_with fail
            go_loopw [14] (fun u wq => u = .int .i64 0 ∧ Hid (Below wc.heap.size wc wq)) (fun _ _ => 0)
            case atStart => exact ⟨rfl, Lib.hid (Below.refl _ _)⟩
            case round =>
             obtain ⟨rfl, BP⟩ := hrel
             have h0q : (0 : Int) < (q : Int) := by omega
             go_wp2_with fail
             go_loopw [15] (fun u wr => ∃ J : Nat, u = .int .i64 ((J : Int) - 1) ∧ J ≤ q ∧ Hid (H.reverse.find? (pA OT x y) = (H.take J).reverse.find? (pA OT x y)) ∧ Hid (Below wc.heap.size wc wr)) (fun u _ => (intOf u + 1).toNat)
             case atStart => exact ⟨q, rfl, Nat.le_refl _, Lib.hid (by rw [List.take_of_length_le (by rw [HQ.out]; exact Nat.le_refl _)]), BP⟩
             case round =>
               obtain ⟨J, rfl, hjq, FD, BJ⟩ := hrel
               by_cases hlt : 0 < J
               · obtain ⟨j, rfl⟩ : ∃ j, J = j + 1 := ⟨J - 1, by omega⟩
                 have hJ : ((j + 1 : Nat) : Int) - 1 = (j : Int) := by omega
                 rw [hJ]
                 have hjw : IntKind.i64.wrap ((j : Int) - 1) = (j : Int) - 1 := IntWalk.i64_in _ (by omega)
                 have hj0 : (0 : Int) ≤ (j : Int) := by omega
                 have hj1 : (j : Int) < (q : Int) := by omega
                 obtain ⟨⟨hi', ha'⟩, hh⟩ : ∃ x, H[j]? = some x := ⟨_, List.getElem?_eq_getElem (by rw [HQ.out]; omega)⟩
                 obtain ⟨b, off, rfl, hb, d0, d1, d2⟩ := hit_at SC.out hh (by omega)
                 have D0 : ∀ r, (wr.drewN r).cell? ⟨b, off + j * 3, none⟩ = some (.int .i64 (hi' : Int)) := fun r => (((BJ.out.trans ((laid_drewN wr r).mono BJ.out.size)).cell (p := ⟨b, off + j * 3, none⟩) hb)).trans d0
                 have D1 : ∀ r, (wr.drewN r).cell? ⟨b, off + j * 3 + 1, none⟩ = some (.int .i64 (ha' : Int)) := fun r => (((BJ.out.trans ((laid_drewN wr r).mono BJ.out.size)).cell (p := ⟨b, off + j * 3 + 1, none⟩) hb)).trans d1
                 have D2 : ∀ r, (wr.drewN r).cell? ⟨b, off + j * 3 + 2, none⟩ = some (.int .i64 (f hi' ha')) := fun r => (((BJ.out.trans ((laid_drewN wr r).mono BJ.out.size)).cell (p := ⟨b, off + j * 3 + 2, none⟩) hb)).trans d2
                 have q0 := fun r => (QS.out (wr.drewN r) (BJ.out.trans ((laid_drewN wr r).mono BJ.out.size))).1
                 have q1 := fun r => (QS.out (wr.drewN r) (BJ.out.trans ((laid_drewN wr r).mono BJ.out.size))).2
                 have FS := Lib.hid (take_find (p := pA OT x y) hh)
                 obtain ⟨pv, hpv⟩ : ∃ b, pA OT x y (hi', ha') = b := ⟨_, rfl⟩
                 rw [hpv] at FS
                 have HPV := Lib.hid hpv
                 have KW := Lib.hid (fun r => laid_drewN wr r)
                 clear hh d0 d1 d2 hb hpv
                 go_upto_region 18 with fail
                 cases OT
                 · by_cases g1 : (hi' : Int) < x
                   · have E := Lib.hid (show pv = true from by rw [← HPV.out]; exact pA_true (by omega))
                     go_quiet (fail)
                     have BQ := Lib.hid (BJ.out.trans ((KW.out nq).mono BJ.out.size))
                     have d0 := D0 nq
                     have d1 := D1 nq
                     have d2 := D2 nq
                     clear D0 D1 D2 q0 q1
                     generalize wr.drewN nq = wq at BQ d0 d1 d2 ⊢
                     have RV := Lib.hid (show (H.reverse.find? (pA false x y)).or H.reverse.head? = some (hi', ha') from by rw [FD.out, FS.out, E.out, if_pos rfl]; rfl)
                     have K8W := Lib.hid (K8.out.below (BC.out.trans (BQ.out.mono BC.out.size)) K8.out.lt)
                     have BWW := Lib.hid (B3.out.trans (((BC.out.trans (BQ.out.mono BC.out.size))).mono B3.out.size))
                     obtain ⟨m0, m1, m2⟩ := threeBk.get K8W.out
                     obtain ⟨f0, f1, f2⟩ := threeBk.free K8W.out
                     have PN := put3_bk K8W.out (hi' : Int) (ha' : Int) (f hi' ha')
                     have M := BWW.out.trans ((put3_trn wq (g5 + 1 + 1) (hi' : Int) (ha' : Int) (f hi' ha')).toBelow BWW.out.size fun k hk e => by have := G5.out; omega)
                     go_wp2_with fail
                     change bodyPost _ _ _ _ _ (put3 wq (g5 + 1 + 1) (hi' : Int) (ha' : Int) (f hi' ha'))
                     revert PN M
                     generalize put3 wq (g5 + 1 + 1) (hi' : Int) (ha' : Int) (f hi' ha') = WW
                     intro PN M
                     obtain ⟨p0, p1, p2⟩ := threeBk.get PN
                     refine bodyPost_ret (v := .tuple #[.agg #[.int .i64 (hi' : Int), .int .i64 (ha' : Int), .int .i64 (f hi' ha')], .bool true]) (by simp [results, Tryz.results33, go_sem, p0, p1, p2] <;> rfl) rfl ?_
                     exact ⟨by unfold refS; rw [if_pos rfl, RV.out, hitS], M⟩
                   · by_cases g2 : (hi' : Int) = x
                     · subst g2
                       by_cases g4 : (ha' : Int) < y
                       · have E := Lib.hid (show pv = true from by rw [← HPV.out]; exact pA_true (by omega))
                         go_quiet (fail)
                         have BQ := Lib.hid (BJ.out.trans ((KW.out nq).mono BJ.out.size))
                         have d0 := D0 nq
                         have d1 := D1 nq
                         have d2 := D2 nq
                         clear D0 D1 D2 q0 q1
                         generalize wr.drewN nq = wq at BQ d0 d1 d2 ⊢
                         have RV := Lib.hid (show (H.reverse.find? (pA false (hi' : Int) y)).or H.reverse.head? = some (hi', ha') from by rw [FD.out, FS.out, E.out, if_pos rfl]; rfl)
                         have K8W := Lib.hid (K8.out.below (BC.out.trans (BQ.out.mono BC.out.size)) K8.out.lt)
                         have BWW := Lib.hid (B3.out.trans (((BC.out.trans (BQ.out.mono BC.out.size))).mono B3.out.size))
                         obtain ⟨m0, m1, m2⟩ := threeBk.get K8W.out
                         obtain ⟨f0, f1, f2⟩ := threeBk.free K8W.out
                         have PN := put3_bk K8W.out (hi' : Int) (ha' : Int) (f hi' ha')
                         have M := BWW.out.trans ((put3_trn wq (g5 + 1 + 1) (hi' : Int) (ha' : Int) (f hi' ha')).toBelow BWW.out.size fun k hk e => by have := G5.out; omega)
                         go_wp2_with fail
                         change bodyPost _ _ _ _ _ (put3 wq (g5 + 1 + 1) (hi' : Int) (ha' : Int) (f hi' ha'))
                         revert PN M
                         generalize put3 wq (g5 + 1 + 1) (hi' : Int) (ha' : Int) (f hi' ha') = WW
                         intro PN M
                         obtain ⟨p0, p1, p2⟩ := threeBk.get PN
                         refine bodyPost_ret (v := .tuple #[.agg #[.int .i64 (hi' : Int), .int .i64 (ha' : Int), .int .i64 (f hi' ha')], .bool true]) (by simp [results, Tryz.results33, go_sem, p0, p1, p2] <;> rfl) rfl ?_
                         exact ⟨by unfold refS; rw [if_pos rfl, RV.out, hitS], M⟩
                       · have E := Lib.hid (show pv = false from by rw [← HPV.out]; exact pA_false (by omega))
                         go_quiet (fail)
                         have BQ := Lib.hid (BJ.out.trans ((KW.out nq).mono BJ.out.size))
                         have d0 := D0 nq
                         have d1 := D1 nq
                         have d2 := D2 nq
                         clear D0 D1 D2 q0 q1
                         generalize wr.drewN nq = wq at BQ d0 d1 d2 ⊢
                         have F2 := Lib.hid (show H.reverse.find? (pA false (hi' : Int) y) = (H.take j).reverse.find? (pA false (hi' : Int) y) from by rw [FD.out, FS.out, E.out, if_neg (by decide)])
                         go_wp2_with fail
                         go_roundw
                         case rel => exact ⟨j, by first | rfl | (congr 1; done) | (congr 1; omega), by omega, F2, BQ⟩
                         case measure => first | (simp [intOf]; done) | (simp [intOf]; omega)
                     · have E := Lib.hid (show pv = false from by rw [← HPV.out]; exact pA_false (by omega))
                       have g3 : ((hi' : Int) == x) = false := by simp [g2]
                       go_quiet (fail)
                       have BQ := Lib.hid (BJ.out.trans ((KW.out nq).mono BJ.out.size))
                       have d0 := D0 nq
                       have d1 := D1 nq
                       have d2 := D2 nq
                       clear D0 D1 D2 q0 q1
                       generalize wr.drewN nq = wq at BQ d0 d1 d2 ⊢
                       have F2 := Lib.hid (show H.reverse.find? (pA false x y) = (H.take j).reverse.find? (pA false x y) from by rw [FD.out, FS.out, E.out, if_neg (by decide)])
                       go_wp2_with fail
                       go_roundw
                       case rel => exact ⟨j, by first | rfl | (congr 1; done) | (congr 1; omega), by omega, F2, BQ⟩
                       case measure => first | (simp [intOf]; done) | (simp [intOf]; omega)
                 · have E := Lib.hid (show pv = true from by rw [← HPV.out]; unfold pA; rfl)
                   go_quiet (fail)
                   have BQ := Lib.hid (BJ.out.trans ((KW.out nq).mono BJ.out.size))
                   have d0 := D0 nq
                   have d1 := D1 nq
                   have d2 := D2 nq
                   clear D0 D1 D2 q0 q1
                   generalize wr.drewN nq = wq at BQ d0 d1 d2 ⊢
                   have RV := Lib.hid (show (H.reverse.find? (pA true x y)).or H.reverse.head? = some (hi', ha') from by rw [FD.out, FS.out, E.out, if_pos rfl]; rfl)
                   have K8W := Lib.hid (K8.out.below (BC.out.trans (BQ.out.mono BC.out.size)) K8.out.lt)
                   have BWW := Lib.hid (B3.out.trans (((BC.out.trans (BQ.out.mono BC.out.size))).mono B3.out.size))
                   obtain ⟨m0, m1, m2⟩ := threeBk.get K8W.out
                   obtain ⟨f0, f1, f2⟩ := threeBk.free K8W.out
                   have PN := put3_bk K8W.out (hi' : Int) (ha' : Int) (f hi' ha')
                   have M := BWW.out.trans ((put3_trn wq (g5 + 1 + 1) (hi' : Int) (ha' : Int) (f hi' ha')).toBelow BWW.out.size fun k hk e => by have := G5.out; omega)
                   go_wp2_with fail
                   change bodyPost _ _ _ _ _ (put3 wq (g5 + 1 + 1) (hi' : Int) (ha' : Int) (f hi' ha'))
                   revert PN M
                   generalize put3 wq (g5 + 1 + 1) (hi' : Int) (ha' : Int) (f hi' ha') = WW
                   intro PN M
                   obtain ⟨p0, p1, p2⟩ := threeBk.get PN
                   refine bodyPost_ret (v := .tuple #[.agg #[.int .i64 (hi' : Int), .int .i64 (ha' : Int), .int .i64 (f hi' ha')], .bool true]) (by simp [results, Tryz.results33, go_sem, p0, p1, p2] <;> rfl) rfl ?_
                   exact ⟨by unfold refS; rw [if_pos rfl, RV.out, hitS], M⟩
               · obtain rfl : J = 0 := by omega
                 have h0 : ¬ (0 : Int) ≤ ((0 : Nat) : Int) - 1 := by omega
                 have FN := Lib.hid (show H.reverse.find? (pA OT x y) = .none from by rw [FD.out]; rfl)
                 obtain ⟨q', rfl⟩ : ∃ q', q = q' + 1 := ⟨q - 1, by omega⟩
                 obtain ⟨⟨hi', ha'⟩, hh⟩ : ∃ x, H[q']? = some x := ⟨_, List.getElem?_eq_getElem (by rw [HQ.out]; omega)⟩
                 obtain ⟨b, off, rfl, hb, d0, d1, d2⟩ := hit_at SC.out hh (by omega)
                 have RV := Lib.hid (show (H.reverse.find? (pA OT x y)).or H.reverse.head? = some (hi', ha') from by rw [FN.out, Option.none_or, List.head?_reverse, List.getLast?_eq_getElem?, HQ.out, Nat.add_sub_cancel, hh])
                 have hq1 : IntKind.i64.wrap ((q' : Int) + 1 - 1) = (q' : Int) := by rw [IntWalk.i64_in _ (by omega)]; omega
                 have hq2 : (0 : Int) ≤ (q' : Int) := by omega
                 have hq3 : (q' : Int) < (q' : Int) + 1 := by omega
                 replace d0 := (BJ.out.cell (p := ⟨b, off + q' * 3, none⟩) hb).trans d0
                 replace d1 := (BJ.out.cell (p := ⟨b, off + q' * 3 + 1, none⟩) hb).trans d1
                 replace d2 := (BJ.out.cell (p := ⟨b, off + q' * 3 + 2, none⟩) hb).trans d2
                 clear hh hb FD
                 have K8W := Lib.hid (K8.out.below (BC.out.trans (BJ.out.mono BC.out.size)) K8.out.lt)
                 have BWW := Lib.hid (B3.out.trans (((BC.out.trans (BJ.out.mono BC.out.size))).mono B3.out.size))
                 obtain ⟨m0, m1, m2⟩ := threeBk.get K8W.out
                 obtain ⟨f0, f1, f2⟩ := threeBk.free K8W.out
                 have PN := put3_bk K8W.out (hi' : Int) (ha' : Int) (f hi' ha')
                 have M := BWW.out.trans ((put3_trn wr (g5 + 1 + 1) (hi' : Int) (ha' : Int) (f hi' ha')).toBelow BWW.out.size fun k hk e => by have := G5.out; omega)
                 go_wp2_with fail
                 change bodyPost _ _ _ _ _ (put3 wr (g5 + 1 + 1) (hi' : Int) (ha' : Int) (f hi' ha'))
                 revert PN M
                 generalize put3 wr (g5 + 1 + 1) (hi' : Int) (ha' : Int) (f hi' ha') = WW
                 intro PN M
                 obtain ⟨p0, p1, p2⟩ := threeBk.get PN
                 refine bodyPost_ret (v := .tuple #[.agg #[.int .i64 (hi' : Int), .int .i64 (ha' : Int), .int .i64 (f hi' ha')], .bool true]) (by simp [results, Tryz.results33, go_sem, p0, p1, p2] <;> rfl) rfl ?_
                 exact ⟨by unfold refS; rw [if_pos rfl, RV.out, hitS], M⟩
end NF
