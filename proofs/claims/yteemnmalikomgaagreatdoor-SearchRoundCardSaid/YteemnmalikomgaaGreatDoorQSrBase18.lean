import Derived.Test.YteemnmalikomgaaGreatDoorQSrBase17
set_option maxRecDepth 100000
set_option maxHeartbeats 3200000
namespace Go.Proofs.YteemnmalikomgaaGreatDoor
open Go.ChangeShapes Go.WideShapes Go.ChangeAt Go.RowKit
namespace NF
theorem rn_own {w : World} {g n B : Nat} {L : List Int} (h : RnBk w g L) (hl : L.length = n) (hB : B ≤ g) (hn : n ≤ 1000000) : w.ownsRow B 21 1 (.slice (some ⟨g, 0, none⟩) n n) n (runesV L) := by
 refine ⟨by simp [runesV, hl], .inr ⟨g, n, (runesV L).toArray, rfl, hB, h, Nat.le_refl _, by unfold maxLen; omega, by simp [runesV, hl], ?_⟩⟩
 rw [List.take_of_length_le (by simp [runesV, hl])]
theorem srSignsO_walk (A : Option Addr) (n c : Nat) (l : List Cel) (w : World) (hl : l.length = n) (hq : Sq w w.heap.size 3 n A (flat l)) (hn : n ≤ 1000000) :
  Calls Tryz.prog 35 #[.slice A n c] w fun e w' => RunO (sg l) w e w' := by
 unfold RunO
 have hsl := sg_len l
 rw [hl] at hsl
 rw [hsl]
 have SL := Lib.hid hsl
 have HL := Lib.hid hl
 have HQ := Lib.hid hq
 clear hl hsl hq
 by_cases h0 : n = 0
 ·subst h0
  have SE := Lib.hid (show sg l = [] from List.eq_nil_of_length_eq_zero SL.out)
  go_enter Tryz.func35, Tryz.ntmps35
  go_wp2_with fail
  go_ret
  exact ⟨_, rfl, by rw [SE.out]; exact World.ownsRow_nil _ _ _ _, Below.refl _ _⟩
 ·obtain ⟨i0, hi, hz0, hz1, hz2⟩ := info_parts info21
  have hN0 : (0 : Int) ≤ (n : Int) := by omega
  have hne : ((n : Int) == 0) = false := by simp; omega
  have MK := run_make w 23 21 i0 (.int .i32 0) Tryz.underlying23 hi hz0 .i64 .i64 (n : Int) (n : Int) hN0 (Int.le_refl _) (by rw [hz2]; omega) (by omega)
  rw [hz1, Int.toNat_natCast, Nat.mul_one] at MK
  obtain ⟨w1, hw1⟩ : ∃ w1, w.alloc (.cells (madeCells #[.int .i32 0] n) 21) = w1 := ⟨_, rfl⟩
  obtain ⟨g, hg⟩ : ∃ g, w.heap.size = g := ⟨_, rfl⟩
  have b1 : Below w.heap.size w w1 := by rw [← hw1]; exact (Below.refl _ _).alloc (Nat.le_refl _) _
  have K1 := Lib.hid (show RnBk w1 g (List.replicate n 0) from by
   unfold RnBk
   rw [← hw1, ← hg, ← made_runes]
   exact heap_alloc_new w _)
  have B1 := Lib.hid b1
  have HG := Lib.hid hg
  have HW := Lib.hid hw1
  clear hw1 b1 hg
  go_enter Tryz.func35, Tryz.ntmps35
  go_upto_region 4 with fail
  rw [HG.out]
  first
   | rw [HW.out]
   | (change Code.wp _ _ _ _ (w.alloc (.cells (madeCells #[.int .i32 0] n) 21)); rw [HW.out])
  clear MK hne h0 hN0 hz0 hz1 hz2 hi
  go_wp2_with fail
  go_loopw [14] (fun y wr => ∃ (i : Nat) (L : List Int), y = .int .i64 (i : Int) ∧ i ≤ n ∧ Hid (RnBk wr g L ∧ L.length = n ∧ ∀ j, j < i → L[j]? = (sg l)[j]?) ∧ Hid (Below w.heap.size w wr)) (fun y _ => n - (intOf y).toNat)
  case atStart => exact ⟨0, _, rfl, Nat.zero_le _, Lib.hid ⟨K1.out, by simp, fun j hj => absurd hj (Nat.not_lt_zero _)⟩, B1⟩
  case round =>
   obtain ⟨i, L, rfl, hin, KL, BR⟩ := hrel
   have hi0 : (0 : Int) ≤ (i : Int) := by omega
   by_cases hlt : i < n
   ·obtain ⟨b, off, rfl, hb, ⟨r, m, a⟩, hcc, q0, q1, q2⟩ := (HQ.out.below BR.out).three hlt
    have h1 : (i : Int) < (n : Int) := by omega
    have hw : IntKind.i64.wrap ((i : Int) + 1) = (i : Int) + 1 := IntWalk.i64_in _ (by omega)
    obtain ⟨w2, hw2⟩ : ∃ w2, wr.alloc (.cells #[.int .i32 r, .int .i64 m, .int .i64 a] 76) = w2 := ⟨_, rfl⟩
    have b2 : Below wr.heap.size wr w2 := by rw [← hw2]; exact (Below.refl _ _).alloc (Nat.le_refl _) _
    have x2 : w2.heap[wr.heap.size]? = some (.cells #[.int .i32 r, .int .i64 m, .int .i64 a] 76 (0, 0)) := by rw [← hw2]; exact heap_alloc_new wr _
    have k2 : RnBk w2 g L := (b2.block g (Bk.lt KL.out.1)).trans KL.out.1
    obtain ⟨z, hz⟩ : ∃ z, L[i]? = some z := ⟨_, List.getElem?_eq_getElem (by rw [KL.out.2.1]; exact hlt)⟩
    have cz := k2.get hz
    have fz := Bk.free k2 i
    obtain ⟨C2, hC2⟩ : ∃ k, wr.heap.size = k := ⟨_, rfl⟩
    have c0 : w2.cell? ⟨C2, 0, none⟩ = some (.int .i32 r) := by rw [← hC2]; exact cell_of_row _ _ 0 _ _ (0, 0) x2
    have S1 := Lib.hid (show RnBk (w2.setCell ⟨g, i, none⟩ (.int .i32 r)) g (L.set i r) ∧ (L.set i r).length = n ∧ ∀ j, j < i + 1 → (L.set i r)[j]? = (sg l)[j]? from ⟨k2.set i r, by rw [List.length_set]; exact KL.out.2.1, fun j hj => by
     by_cases hji : j = i
     ·subst hji
      rw [List.getElem?_set_self (by rw [KL.out.2.1]; exact hlt)]
      unfold sg
      rw [List.getElem?_map, hcc]
      rfl
     ·rw [List.getElem?_set_ne (by omega)]
      exact KL.out.2.2 j (by omega)⟩)
    have S2 := Lib.hid (show Below w.heap.size w (w2.setCell ⟨g, i, none⟩ (.int .i32 r)) from (BR.out.trans (b2.mono BR.out.size)).setCell (p := ⟨g, i, none⟩) (Nat.le_of_eq HG.out) _)
    have HW2 := Lib.hid hw2
    have HC2 := Lib.hid hC2
    clear hz hcc hw2 x2 k2 b2 hC2 hb
    go_upto_region 7 with fail
    rw [HC2.out]
    first
     | rw [HW2.out]
     | (change Code.wp _ _ _ _ (wr.alloc (.cells #[.int .i32 r, .int .i64 m, .int .i64 a] 76)); rw [HW2.out])
    go_wp2_with fail
    go_roundw
    case rel => exact ⟨i + 1, L.set i r, by first | rfl | (congr 1; done) | (congr 1; omega), by omega, S1, S2⟩
    case measure => first | (simp [intOf]; done) | (simp [intOf]; omega)
   ·obtain rfl : i = n := by omega
    have LE := Lib.hid (show L = sg l from List.ext_getElem? fun j => by
     by_cases hj : j < i
     ·exact KL.out.2.2 j hj
     ·rw [List.getElem?_eq_none (by rw [KL.out.2.1]; omega), List.getElem?_eq_none (by rw [SL.out]; omega)])
    have OW := Lib.hid (show wr.ownsRow w.heap.size 21 1 (.slice (some ⟨g, 0, none⟩) i i) i (runesV (sg l)) from by
     have h := KL.out.1
     rw [LE.out] at h
     exact rn_own h SL.out (Nat.le_of_eq HG.out) hn)
    go_wp2_with fail
    go_ret
    exact ⟨_, rfl, OW.out, BR.out⟩
end NF
end Go.Proofs.YteemnmalikomgaaGreatDoor
namespace Go.Proofs.YteemnmalikomgaaGreatDoor.NF
def ltH (a b : Nat × Nat) : Prop := a.1 < b.1 ∨ a.1 = b.1 ∧ a.2 < b.2
theorem lineH_rise (f : Nat → Int) (i : Nat) : ∀ (m a : Nat), (lineH f i a m).Pairwise ltH
 | 0, _ => by rw [lineH]; exact List.Pairwise.nil
 | m + 1, a => by
  rw [lineH]
  split
  ·refine List.Pairwise.cons (fun x hx => ?_) (lineH_rise f i m (a + 1))
   have := lineH_mem hx
   exact .inr ⟨this.1.symm, by dsimp only; omega⟩
  ·exact lineH_rise f i m (a + 1)
theorem allH_rise (f : Nat → Nat → Int) (n : Nat → Nat) : ∀ (k i : Nat), (allH f n i k).Pairwise ltH
 | 0, _ => by rw [allH]; exact List.Pairwise.nil
 | k + 1, i => by
  rw [allH]
  refine List.pairwise_append.2 ⟨lineH_rise _ _ _ _, allH_rise f n k (i + 1), fun x hx y hy => ?_⟩
  have h1 := lineH_mem hx
  have h2 := allH_mem hy
  exact .inl (by omega)
theorem beh_iff {x y : Nat × Nat} : beh x.1 x.2 y = true ↔ ltH x y := by
 unfold beh ltH
 simp only [Bool.or_eq_true, Bool.and_eq_true, decide_eq_true_eq]
 omega
theorem ahd_iff {x y : Nat × Nat} : ahd x.1 x.2 y = true ↔ ltH y x := by
 unfold ahd ltH
 simp only [Bool.or_eq_true, Bool.and_eq_true, decide_eq_true_eq]
theorem ltH_not {x y : Nat × Nat} (h : ltH x y) : ¬ ltH y x := by unfold ltH at h ⊢; omega
theorem ltH_self (x : Nat × Nat) : ¬ ltH x x := by unfold ltH; omega
theorem rise_split {l : List (Nat × Nat)} {j : Nat} {x : Nat × Nat} (h : l.Pairwise ltH) (hj : l[j]? = some x) : l = l.take j ++ (x :: l.drop (j + 1)) ∧ (∀ y ∈ l.take j, ltH y x) ∧ ∀ y ∈ l.drop (j + 1), ltH x y := by
 obtain ⟨h1, h2⟩ := List.getElem?_eq_some_iff.1 hj
 have e : l = l.take j ++ (x :: l.drop (j + 1)) := by
  conv => lhs; rw [← List.take_append_drop j l]
  rw [List.drop_eq_getElem_cons h1, h2]
 refine ⟨e, ?_⟩
 rw [e] at h
 obtain ⟨_, h3, h4⟩ := List.pairwise_append.1 h
 exact ⟨fun y hy => h4 y hy x List.mem_cons_self, fun y hy => List.rel_of_pairwise_cons h3 hy⟩
theorem find_next {l : List (Nat × Nat)} {j : Nat} {x : Nat × Nat} (h : l.Pairwise ltH) (hj : l[j]? = some x) : l.find? (beh x.1 x.2) = l[j + 1]? := by
 obtain ⟨e, h1, h2⟩ := rise_split h hj
 have k1 : (l.take j).find? (beh x.1 x.2) = .none := find_nothing fun y hy => by
  rw [← Bool.not_eq_true, beh_iff]
  exact ltH_not (h1 y hy)
 have k2 : (l.drop (j + 1)).find? (beh x.1 x.2) = (l.drop (j + 1)).head? := find_all fun y hy => beh_iff.2 (h2 y hy)
 have k3 : beh x.1 x.2 x = false := by rw [← Bool.not_eq_true, beh_iff]; exact ltH_self x
 rw [← List.head?_drop, ← k2]
 conv => lhs; rw [e]
 rw [List.find?_append, k1, Option.none_or, List.find?_cons, k3]
theorem find_prev {l : List (Nat × Nat)} {j : Nat} {x : Nat × Nat} (h : l.Pairwise ltH) (hj : l[j]? = some x) : l.reverse.find? (ahd x.1 x.2) = (l.take j).reverse.head? := by
 obtain ⟨e, h1, h2⟩ := rise_split h hj
 have k1 : (l.drop (j + 1)).reverse.find? (ahd x.1 x.2) = .none := find_nothing fun y hy => by
  rw [← Bool.not_eq_true, ahd_iff]
  exact ltH_not (h2 y (List.mem_reverse.1 hy))
 have k2 : (l.take j).reverse.find? (ahd x.1 x.2) = (l.take j).reverse.head? := find_all fun y hy => ahd_iff.2 (h1 y (List.mem_reverse.1 hy))
 have k3 : ahd x.1 x.2 x = false := by rw [← Bool.not_eq_true, ahd_iff]; exact ltH_self x
 rw [← k2]
 conv => lhs; rw [e]
 rw [List.reverse_append, List.find?_append, List.reverse_cons, List.find?_append, k1, Option.none_or]
 simp [k3]
theorem mod_one {j q : Nat} (h : j < q) : (if j + 1 < q then j + 1 else 0) = (j + 1) % q := by
 split
 ·rw [Nat.mod_eq_of_lt (by assumption)]
 ·rw [show j + 1 = q by omega, Nat.mod_self]
theorem round_next {l : List (Nat × Nat)} {j : Nat} {x : Nat × Nat} (h : l.Pairwise ltH) (hj : l[j]? = some x) : (l.find? (beh x.1 x.2)).or l.head? = l[(j + 1) % l.length]? := by
 have hl := (List.getElem?_eq_some_iff.1 hj).1
 rw [find_next h hj, ← mod_one hl]
 split
 ·rw [List.getElem?_eq_getElem (by assumption), Option.some_or]
 ·rw [List.getElem?_eq_none (by omega), Option.none_or, List.head?_eq_getElem?]
theorem round_prev {l : List (Nat × Nat)} {j : Nat} {x : Nat × Nat} (h : l.Pairwise ltH) (hj : l[j]? = some x) : (l.reverse.find? (ahd x.1 x.2)).or l.reverse.head? = l[(j + l.length - 1) % l.length]? := by
 have hl := (List.getElem?_eq_some_iff.1 hj).1
 rw [find_prev h hj, List.head?_reverse, List.head?_reverse, List.getLast?_eq_getElem?, List.getLast?_eq_getElem?, List.length_take, Nat.min_eq_left (by omega)]
 cases j with
 | zero => rw [List.take_zero, List.getElem?_nil, Option.none_or, Nat.zero_add, Nat.mod_eq_of_lt (by omega)]
 | succ j =>
  rw [Nat.add_sub_cancel, List.getElem?_take, if_pos (by omega), List.getElem?_eq_getElem (by omega), Option.some_or, show j + 1 + l.length - 1 = j + l.length by omega, Nat.add_mod_right, Nat.mod_eq_of_lt (by omega), List.getElem?_eq_getElem (by omega)]
theorem allH_hit {f : Nat → Nat → Int} {n : Nat → Nat} {k : Nat} {x : Nat × Nat} (h : x ∈ allH f n 0 k) : x.1 < k ∧ x.2 < n x.1 := by
 have key : ∀ (k i : Nat), x ∈ allH f n i k → x.1 < i + k ∧ x.2 < n x.1 := by
  intro k
  induction k with
  | zero => intro i h; simp [allH] at h
  | succ k ih =>
   intro i h
   rw [allH] at h
   rcases List.mem_append.1 h with h | h
   ·have := lineH_mem h
    rw [this.1]
    omega
   ·have := ih (i + 1) h
    omega
 have := key k 0 h
 omega
end Go.Proofs.YteemnmalikomgaaGreatDoor.NF
