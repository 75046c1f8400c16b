import Derived.Test.YteemnmalikomgaaGreatDoorQSrBase12
import Derived.Test.YteemnmalikomgaaGreatDoorQSrBase11
set_option maxRecDepth 100000
set_option maxHeartbeats 12800000
namespace Go.Proofs.YteemnmalikomgaaGreatDoor
open Go.ChangeShapes Go.WideShapes Go.ChangeAt Go.RowKit
namespace NF
def FromP (t : Nd) (l : List Int) (La : List Bool) (n : Nat) (w : World) (e : Ending) (w' : World) : Prop := ∃ A c K, e = .returned (.slice A (n + 1) c) ∧ Sq w' w'.heap.size 1 (n + 1) A (bools K) ∧ (∀ j, Mk K j ↔ Img (Mat l t) (Mk La) j) ∧ Below w.heap.size w w'
theorem mk_none (n j : Nat) : ¬ Mk (List.replicate n false) j := by
 unfold Mk
 rw [List.getElem?_replicate]
 split <;> simp
theorem img_none {R : Nat → Nat → Prop} {S : Nat → Prop} {j : Nat} (h : ∀ i j, ¬ R i j) : ¬ Img R S j := fun ⟨i, _, h2⟩ => h i j h2
theorem deeps_kid {ks : List Nd} {i : Nat} {y : Nd} (h : ks[i]? = some y) : deep y ≤ deeps ks := deeps_at h
structure Kid (w wr : World) (lo : Nat) (y : Nd) (fuel : Nat) (x : Nv) : Prop where
 dp : deep y ≤ fuel
 ok : may y = true
 nd : NdIn wr lo wr.heap.size y x
theorem from_walk : ∀ (fuel : Nat) (t : Nd) (x : Nv) (lo B n : Nat) (Al Aa : Option Addr) (cl ca : Nat) (l : List Int) (La : List Bool) (w : World), deep t ≤ fuel → may t = true → B ≤ w.heap.size → NdIn w lo B t x → Sq w B 1 n Al (runesV l) → l.length = n → n ≤ 1000000 → Sq w B 1 (n + 1) Aa (bools La) →
  Calls Tryz.prog 100 #[x.v, .slice Al n cl, .slice Aa (n + 1) ca] w fun e w' => FromP t l La n w e w' := by
 intro fuel
 induction fuel with
 | zero =>
  intro t x lo B n Al Aa cl ca l La w hf
  cases t
  rw [deep] at hf
  omega
 | succ fuel ih =>
  intro t x lo B n Al Aa cl ca l La w hf hct hBw hx hl hln hn6 ha
  obtain ⟨k0, s0, nt0, ks, mn0, mx0⟩ := t
  rw [NdIn] at hx
  obtain ⟨e1, e2, e3, e4, xs, ho, hk⟩ := hx
  obtain ⟨k, A, n1, c, nt, A2, n2, c2, mn, mx⟩ := x
  dsimp only at e1 e2 e3 e4
  subst e1 e2 e3 e4
  obtain ⟨w1, hw1, k1, b1, z1⟩ := boxed_node w k A n1 c nt A2 n2 c2 mn mx
  rw [deep] at hf
  obtain ⟨ma, mk⟩ := mays_kind hct
  obtain ⟨i0, hi, hz0, hz1, hz2⟩ := info_parts infoBool
  obtain ⟨N, hN⟩ : ∃ N : Nat, n + 1 = N := ⟨_, rfl⟩
  have hNc : (n : Int) + 1 = (N : Int) := by omega
  have hNw : IntKind.i64.wrap (N : Int) = (N : Int) := IntWalk.i64_in _ (by omega)
  have hN0 : (0 : Int) ≤ (N : Int) := by omega
  have MK := run_make w1 42 4 i0 (.bool false) Tryz.underlying42 hi hz0 .i64 .i64 (N : Int) (N : Int) hN0 (Int.le_refl _) (by rw [hz2]; omega) (by omega)
  rw [hz1, Int.toNat_natCast, Nat.mul_one] at MK
  obtain ⟨w2, hw2⟩ : ∃ w2, w1.alloc (.cells (madeCells #[.bool false] N) 4) = w2 := ⟨_, rfl⟩
  obtain ⟨g, hg⟩ : ∃ g, w1.heap.size = g := ⟨_, rfl⟩
  have b2 : Below w1.heap.size w1 w2 := by rw [← hw2]; exact (Below.refl _ _).alloc (Nat.le_refl _) _
  have k2 : MkBk w2 g (List.replicate N false) := by
   unfold MkBk
   rw [← hw2, ← hg, ← made_bools]
   exact heap_alloc_new w1 _
  have B2 := Lib.hid (show Below w.heap.size w w2 from b1.trans (b2.mono (by omega)))
  have NB := Lib.hid (show nodeBk w2 w.heap.size ⟨k, A, n1, c, nt, A2, n2, c2, mn, mx⟩ from k1.below b2 (by omega))
  have OB := Lib.hid k2
  have GW := Lib.hid (show w.heap.size + 1 = g ∧ w2.heap.size = g + 1 from ⟨by omega, by rw [← hw2]; simp; omega⟩)
  have HW2 := Lib.hid hw2
  have HG := Lib.hid hg
  have HNN := Lib.hid hN
  have MA := Lib.hid ma
  have MKS := Lib.hid mk
  have OW := Lib.hid ho
  have KW := Lib.hid hk
  have HF := Lib.hid (show deeps ks ≤ fuel by omega)
  have HL := Lib.hid (show ks.length = n2 from ho.len)
  have HB := Lib.hid hBw
  have SL := Lib.hid hl
  have SA := Lib.hid ha
  have LL := Lib.hid hln
  have hm2 : n2 ≤ 1759218604441 := ho.many2
  have IH := Lib.hid ih
  have KID := Lib.hid (fun (wr : World) (hb : Below w.heap.size w wr) (i : Nat) (hi : i < n2) => show ∃ (y : Nd) (xi : Nv) (b off : Nat), ks[i]? = some y ∧ A2 = some ⟨b, off, none⟩ ∧ NvAt wr b (off + i * 6) xi ∧ Kid w wr lo y fuel xi from by
   obtain ⟨y, hy⟩ : ∃ y, ks[i]? = some y := ⟨_, List.getElem?_eq_getElem (by rw [ho.len]; exact hi)⟩
   obtain ⟨xi, hxi, hin⟩ := (hk.below (hb.mono hBw)).at i y hy
   obtain ⟨b, off, e, _, nv⟩ := kid_at (ho.carry fun p hp => hb.cell (Nat.lt_of_lt_of_le hp hBw)).kids hxi hi
   exact ⟨y, xi, b, off, hy, e, nv, by have := deeps_kid hy; omega, mays_at mk hy, ndIn_up (Nat.le_refl _) (Nat.le_trans hBw hb.size) hin⟩)
  dsimp only [Nv.v]
  rw [hN]
  clear ho hk hBw hf hct mk k1 k2 b1 b2 z1 hw2 hg hl ha hln ih
  go_enter Tryz.func100, Tryz.ntmps100
  go_upto_region 2 with fail
  rw [HG.out]
  first
   | rw [HW2.out]
   | (change Code.wp _ _ _ _ (w1.alloc (.cells (madeCells #[.bool false] N) 4)); rw [HW2.out])
  clear HW2 MK hw1
  obtain ⟨y0, y1, y2, y3, y4, y5⟩ := nv_bk NB.out
  rcases may_kind ma with rfl | rfl | rfl | rfl | rfl | rfl
  ·-- a set
   clear ma
   go_wp2_with fail
   go_loopw [8] (fun y wr => ∃ (i : Nat) (L : List Bool), y = .int .i64 (i : Int) ∧ i ≤ n ∧ Hid (MkBk wr g L ∧ L.length = N) ∧ Hid (∀ j, Mk L j ↔ ∃ q, q < i ∧ j = q + 1 ∧ Mk La q ∧ ∃ r, l[q]? = some r ∧ inSet s0 nt r = true) ∧ Hid (Below w.heap.size w wr ∧ Below g w2 wr)) (fun y _ => n - (intOf y).toNat)
   case atStart => exact ⟨0, _, rfl, Nat.zero_le _, Lib.hid ⟨OB.out, by simp⟩, Lib.hid (fun j => ⟨fun h => absurd h (mk_none N j), fun ⟨q, hq, _⟩ => absurd hq (Nat.not_lt_zero _)⟩), Lib.hid ⟨B2.out, Below.refl _ _⟩⟩
   case round =>
    obtain ⟨i, L, rfl, hi, KL, ML, I⟩ := hrel
    have hi0 : (0 : Int) ≤ (i : Int) := by omega
    have hinc : IntKind.i64.wrap ((i : Int) + 1) = (i : Int) + 1 := IntWalk.i64_in _ (by omega)
    by_cases hlt : i < n
    ·have hi1 : (i : Int) < (n : Int) := by omega
     have hi2 : (i : Int) + 1 < (N : Int) := by omega
     have hi3 : (0 : Int) ≤ (i : Int) + 1 := by omega
     have hi4 : (i : Int) < (N : Int) := by omega
     obtain ⟨a, hxa⟩ : ∃ a, La[i]? = some a := ⟨_, List.getElem?_eq_getElem (by have h := sq_boolN SA.out; omega)⟩
     obtain ⟨r, hxr⟩ : ∃ r, l[i]? = some r := ⟨_, List.getElem?_eq_getElem (by rw [LL.out]; exact hlt)⟩
     obtain ⟨z, hxz⟩ : ∃ z, L[i + 1]? = some z := ⟨_, List.getElem?_eq_getElem (by rw [KL.out.2]; omega)⟩
     obtain ⟨ga, oa, ea, ca⟩ := sq_bool (SA.out.below (I.out.1.mono HB.out)) hxa (by omega)
     have ca' : wr.drew.cell? ⟨ga, oa + i, none⟩ = some (.bool a) := ca
     have MS := Lib.hid (show ∀ b, (b = true ↔ a = true ∧ inSet s0 nt r = true) → ∀ j, Mk (L.set (i + 1) b) j ↔ ∃ q, q < i + 1 ∧ j = q + 1 ∧ Mk La q ∧ ∃ r, l[q]? = some r ∧ inSet s0 nt r = true from fun b hb j => by
      have hlen : i + 1 < L.length := by rw [KL.out.2]; omega
      unfold Mk
      rw [List.getElem?_set]
      by_cases hj : i + 1 = j
      ·subst hj
       rw [if_pos rfl, if_pos hlen]
       constructor
       ·intro h
        injection h with h
        obtain ⟨h1, h2⟩ := hb.1 h
        exact ⟨i, by omega, rfl, by rw [hxa, h1], r, hxr, h2⟩
       ·rintro ⟨q, _, e1, e2, r', e3, e4⟩
        obtain rfl : q = i := by omega
        rw [hxa] at e2
        rw [hxr] at e3
        injection e2 with e2
        injection e3 with e3
        subst e3
        rw [hb.2 ⟨e2, e4⟩]
      ·rw [if_neg hj]
       have := ML.out j
       unfold Mk at this
       rw [this]
       constructor
       ·rintro ⟨q, e0, e1, e2⟩; exact ⟨q, by omega, e1, e2⟩
       ·rintro ⟨q, e0, e1, e2⟩; exact ⟨q, by omega, e1, e2⟩)
     have fz : wr.drew.frozen? ⟨g, i + 1, none⟩ = false := Bk.free KL.out.1 (i + 1)
     have cz : wr.drew.cell? ⟨g, i + 1, none⟩ = some (.bool z) := KL.out.1.get hxz
     have HXZ := Lib.hid hxz
     subst ea
     cases a with
     | false =>
      have M1 := Lib.hid (MS.out false (by simp))
      have K1 := Lib.hid (show MkBk (wr.drew.setCell ⟨g, i + 1, none⟩ (.bool false)) g (L.set (i + 1) false) ∧ (L.set (i + 1) false).length = N from ⟨MkBk.set (w := wr.drew) KL.out.1 (i + 1) false, by rw [List.length_set]; exact KL.out.2⟩)
      have I1 := Lib.hid (show Below w.heap.size w (wr.drew.setCell ⟨g, i + 1, none⟩ (.bool false)) ∧ Below g w2 (wr.drew.setCell ⟨g, i + 1, none⟩ (.bool false)) from ⟨(I.out.1.drew).setCell (p := ⟨g, i + 1, none⟩) (by have := GW.out; simp; omega) _, (I.out.2.drew).setCell (p := ⟨g, i + 1, none⟩) (Nat.le_refl _) _⟩)
      clear hxa hxr hxz MS
      go_wp2_with fail
      go_region
      all_goals
       go_wp2_with fail
       go_roundw
       case rel => exact ⟨i + 1, _, by first | rfl | (congr 1; done) | (congr 1; omega), by omega, K1, M1, I1⟩
       case measure => first | (simp [intOf]; done) | (simp [intOf]; omega)
     | true =>
      obtain ⟨gr, orr, er, _, hcr⟩ := SL.out.spot (by omega)
      have cr : wr.drew.cell? ⟨gr, orr + i, none⟩ = some (.int .i32 r) := (SL.out.below (I.out.1.mono HB.out)).spot (by omega) |>.elim fun b h => h.elim fun off h => by
       obtain ⟨e1, _, e3⟩ := h
       rw [er] at e1
       injection e1 with e1
       injection e1 with e1 e1'
       subst e1 e1'
       exact e3 i _ (by unfold runesV; rw [List.getElem?_map, hxr]; rfl)
      subst er
      obtain ⟨nb0, nb1, nb2, nb3, nb4, nb5⟩ := nv_bk (show nodeBk wr.drew w.heap.size ⟨2, A, n1, c, nt, A2, n2, c2, mn, mx⟩ from nodeBk.below (B := g) NB.out I.out.2.drew (by have := GW.out; omega))
      have IN := Lib.hid (fun (W : World) (hW : Below w.heap.size w W) => in_walk 2 A n1 c nt A2 n2 c2 mn mx s0 r W ((OW.out.set.below (hW.mono HB.out)).up (Nat.le_trans HB.out hW.size)) OW.out.many)
      obtain ⟨bb, hbb⟩ : ∃ b, inSet s0 nt r = b := ⟨_, rfl⟩
      rw [hbb] at IN
      have M1 := Lib.hid (MS.out bb (by rw [hbb]; simp))
      have WD := Lib.hid (show Below w.heap.size w wr.drew from I.out.1.drew)
      clear hxa hxr hxz MS hbb hcr
      go_wp2_with fail
      go_region_law (go_simp; go_at_call 155; refine (IN.out _ WD.out).mono ?_; rintro e w5 ⟨rfl, b5⟩; (have KK := Lib.hid (show MkBk w5 g L from (b5.block g (by have := GW.out; have h := Bk.lt KL.out.1; exact h)).trans KL.out.1)); (have I5 := Lib.hid (show Below w.heap.size w w5 ∧ Below g w2 w5 from ⟨WD.out.trans (b5.mono WD.out.size), (I.out.2.drew).trans (b5.mono (by have := I.out.2.size; have := GW.out; simp; omega))⟩)); (have fz5 := Bk.free KK.out (i + 1)); (have cz5 : w5.cell? ⟨g, i + 1, none⟩ = some (.bool z) := KK.out.get HXZ.out); clear b5)
      all_goals
       have K1 := Lib.hid (show MkBk (w5.setCell ⟨g, i + 1, none⟩ (.bool bb)) g (L.set (i + 1) bb) ∧ (L.set (i + 1) bb).length = N from ⟨KK.out.set (i + 1) bb, by rw [List.length_set]; exact KL.out.2⟩)
       have I1 := Lib.hid (show Below w.heap.size w (w5.setCell ⟨g, i + 1, none⟩ (.bool bb)) ∧ Below g w2 (w5.setCell ⟨g, i + 1, none⟩ (.bool bb)) from ⟨I5.out.1.setCell (p := ⟨g, i + 1, none⟩) (by have := GW.out; simp; omega) _, I5.out.2.setCell (p := ⟨g, i + 1, none⟩) (Nat.le_refl _) _⟩)
       go_wp2_with fail
       go_roundw
       case rel => exact ⟨i + 1, _, by first | rfl | (congr 1; done) | (congr 1; omega), by omega, K1, M1, I1⟩
       case measure => first | (simp [intOf]; done) | (simp [intOf]; omega)
    ·obtain rfl : i = n := by omega
     have F := Lib.hid (show FromP (.mk 2 s0 nt ks mn mx) l La i w (.returned (.slice (some ⟨g, 0, none⟩) N N)) wr from by
      have h := KL.out.1.sq
      rw [KL.out.2] at h
      refine ⟨some ⟨g, 0, none⟩, N, L, by rw [HNN.out], by rw [HNN.out]; exact h, fun j => ?_, I.out.1⟩
      rw [ML.out j]
      constructor
      ·rintro ⟨q, h1, h2, h3, r, h4, h5⟩
       exact ⟨q, h3, by rw [Mat]; simp only [if_true]; exact ⟨h2, r, h4, h5⟩⟩
      ·rintro ⟨q, h3, h4⟩
       rw [Mat] at h4
       simp only [if_true] at h4
       obtain ⟨h2, r, h5, h6⟩ := h4
       exact ⟨q, by have := (List.getElem?_eq_some_iff.1 h5).1; rw [LL.out] at this; exact this, h2, h3, r, h5, h6⟩)
     go_wp2_with fail
     go_ret
     exact F.out
  ·-- a row
   clear ma
   go_upto_region 14 with fail
   go_wp2_with fail
   go_loopw [7, 9] (fun v y wr => ∃ (i : Nat) (Ai : Option Addr) (ci : Nat) (Ki : List Bool), v = .slice Ai N ci ∧ y = .int .i64 (i : Int) ∧ i ≤ n2 ∧ Hid (Sq wr wr.heap.size 1 N Ai (bools Ki)) ∧ Hid (∀ j, Mk Ki j ↔ Img (Seqs l (ks.take i)) (Mk La) j) ∧ Hid (Below w.heap.size w wr ∧ Below w2.heap.size w2 wr)) (fun _ y _ => n2 - (intOf y).toNat)
   case atStart =>
    exact ⟨0, Aa, ca, La, rfl, rfl, Nat.zero_le _, Lib.hid (by have h := SA.out.below (B2.out.mono HB.out); rw [HNN.out] at h; exact h.up (Nat.le_trans HB.out B2.out.size)), Lib.hid (fun j => by
     rw [List.take_zero]
     exact ((img_congr (seqs_nil l) (fun _ => Iff.rfl) j).trans img_id).symm), Lib.hid ⟨B2.out, Below.refl _ _⟩⟩
   case round =>
    obtain ⟨i, Ai, ci, Ki, rfl, rfl, hi, SI, MI, I⟩ := hrel
    have hi0 : (0 : Int) ≤ (i : Int) := by omega
    have hinc : IntKind.i64.wrap ((i : Int) + 1) = (i : Int) + 1 := IntWalk.i64_in _ (by omega)
    have nb : nodeBk wr w.heap.size _ := NB.out.below I.out.2 (by have := GW.out; omega)
    obtain ⟨y0, y1, y2, y3, y4, y5⟩ := nv_bk nb
    by_cases hlt : i < n2
    ·obtain ⟨y, xi, b, off, hy, rfl, nv, hkd⟩ := KID.out wr I.out.1 i hlt
     obtain ⟨ki, Aii, nii, cii, nti, A2i, n2i, c2i, mni, mxi⟩ := xi
     obtain ⟨u0, u1, u2, u3, u4, u5⟩ := nv_at nv
     have hi1 : (i : Int) < (n2 : Int) := by omega
     have CI := Lib.hid (IH.out y ⟨ki, Aii, nii, cii, nti, A2i, n2i, c2i, mni, mxi⟩ lo wr.heap.size n Al Ai cl ci l Ki wr hkd.dp hkd.ok (Nat.le_refl _) hkd.nd ((SL.out.below (I.out.1.mono HB.out)).up (Nat.le_trans HB.out I.out.1.size)) LL.out hn6 (by rw [HNN.out]; exact SI.out))
     have HY := Lib.hid hy
     rw [HNN.out] at CI
     dsimp only [Nv.v] at CI
     clear nb nv hkd hy
     go_wp2_with fail
     refine CI.out.mono ?_
     rintro e w5 ⟨A5, c5, K5, rfl, hs5, hm5, b5⟩
     rw [HNN.out] at hs5
     rw [HNN.out]
     have S5 := Lib.hid hs5
     have M5 := Lib.hid (fun j => img_seqs HY.out MI.out hm5 j)
     have I5 := Lib.hid (show Below w.heap.size w w5 ∧ Below w2.heap.size w2 w5 from ⟨I.out.1.trans (b5.mono I.out.1.size), I.out.2.trans (b5.mono I.out.2.size)⟩)
     clear hs5 hm5 b5 CI y0 y1 y2 y3 y4 y5 u0 u1 u2 u3 u4 u5
     go_wp2_with fail
     go_roundw
     case rel => exact ⟨i + 1, A5, c5, K5, rfl, by first | rfl | (congr 1; done) | (congr 1; omega), by omega, S5, M5, I5⟩
     case measure => first | (simp [intOf]; done) | (simp [intOf]; omega)
    ·obtain rfl : i = n2 := by omega
     have F := Lib.hid (show FromP (.mk 3 s0 nt ks mn mx) l La n w (.returned (.slice Ai N ci)) wr from by
      refine ⟨Ai, ci, Ki, by rw [HNN.out], by rw [HNN.out]; exact SI.out, fun j => ?_, I.out.1⟩
      have h := MI.out j
      rw [List.take_of_length_le (by rw [HL.out]; exact Nat.le_refl _)] at h
      rw [h]
      exact img_congr (fun a b => by rw [Mat]; simp) (fun _ => Iff.rfl) j)
     clear nb
     go_wp2_with fail
     go_ret
     exact F.out
  ·-- one of several
   clear ma
   go_upto_region 19 with fail
   go_wp2_with fail
   go_loopw [7, 10] (fun v y wr => ∃ (i : Nat) (Ai : Option Addr) (ci : Nat) (Ki : List Bool), v = .slice Ai N ci ∧ y = .int .i64 (i : Int) ∧ i ≤ n2 ∧ Hid (Sq wr wr.heap.size 1 N Ai (bools Ki)) ∧ Hid (∀ j, Mk Ki j ↔ Img (Alts l (ks.take i)) (Mk La) j) ∧ Hid (Below w.heap.size w wr ∧ Below w2.heap.size w2 wr)) (fun _ y _ => n2 - (intOf y).toNat)
   case atStart =>
    refine ⟨0, some ⟨g, 0, none⟩, N, List.replicate N false, rfl, rfl, Nat.zero_le _, Lib.hid (by have h := OB.out.sq; rw [List.length_replicate] at h; exact h), Lib.hid (fun j => ⟨fun h => absurd h (mk_none N j), fun h => ?_⟩), Lib.hid ⟨B2.out, Below.refl _ _⟩⟩
    rw [List.take_zero] at h
    exact absurd h (img_none fun i j => by rw [Alts]; exact id)
   case round =>
    obtain ⟨i, Ai, ci, Ki, rfl, rfl, hi, SI, MI, I⟩ := hrel
    have hi0 : (0 : Int) ≤ (i : Int) := by omega
    have hinc : IntKind.i64.wrap ((i : Int) + 1) = (i : Int) + 1 := IntWalk.i64_in _ (by omega)
    have nb : nodeBk wr w.heap.size _ := NB.out.below I.out.2 (by have := GW.out; omega)
    obtain ⟨y0, y1, y2, y3, y4, y5⟩ := nv_bk nb
    by_cases hlt : i < n2
    ·obtain ⟨y, xi, b, off, hy, rfl, nv, hkd⟩ := KID.out wr I.out.1 i hlt
     obtain ⟨ki, Aii, nii, cii, nti, A2i, n2i, c2i, mni, mxi⟩ := xi
     obtain ⟨u0, u1, u2, u3, u4, u5⟩ := nv_at nv
     have hi1 : (i : Int) < (n2 : Int) := by omega
     have CI := Lib.hid (IH.out y ⟨ki, Aii, nii, cii, nti, A2i, n2i, c2i, mni, mxi⟩ lo wr.heap.size n Al Aa cl ca l La wr hkd.dp hkd.ok (Nat.le_refl _) hkd.nd ((SL.out.below (I.out.1.mono HB.out)).up (Nat.le_trans HB.out I.out.1.size)) LL.out hn6 ((SA.out.below (I.out.1.mono HB.out)).up (Nat.le_trans HB.out I.out.1.size)))
     have HY := Lib.hid hy
     rw [HNN.out] at CI
     dsimp only [Nv.v] at CI
     clear nb nv hkd hy
     go_wp2_with fail
     refine CI.out.mono ?_
     rintro e w5 ⟨A5, c5, K5, rfl, hs5, hm5, b5⟩
     rw [HNN.out] at hs5
     rw [HNN.out]
     have hl5 : K5.length = N := sq_boolN hs5
     have hl6 : Ki.length = N := sq_boolN SI.out
     have BO := Lib.hid (both_walk Ai A5 N ci c5 w5.heap.size Ki K5 w5 ((SI.out.below b5).up b5.size) hs5 (Nat.le_refl _) (by rw [← HNN.out]; omega))
     have M5 := Lib.hid (fun j => alts_or HY.out (hl5.trans hl6.symm) MI.out hm5 j)
     have OL := Lib.hid (show (orL Ki K5).length = N from by rw [or_len (hl5.trans hl6.symm), hl6])
     have I5 := Lib.hid (show Below w.heap.size w w5 ∧ Below w2.heap.size w2 w5 from ⟨I.out.1.trans (b5.mono I.out.1.size), I.out.2.trans (b5.mono I.out.2.size)⟩)
     clear hs5 hm5 b5 CI y0 y1 y2 y3 y4 y5 u0 u1 u2 u3 u4 u5 hl5 hl6
     go_wp2_with fail
     refine BO.out.mono ?_
     rintro e w6 ⟨A6, c6, rfl, hs6, b6⟩
     rw [OL.out] at hs6
     rw [OL.out]
     have S6 := Lib.hid hs6
     have I6 := Lib.hid (show Below w.heap.size w w6 ∧ Below w2.heap.size w2 w6 from ⟨I5.out.1.trans (b6.mono I5.out.1.size), I5.out.2.trans (b6.mono I5.out.2.size)⟩)
     clear hs6 b6 BO
     go_wp2_with fail
     go_roundw
     case rel => exact ⟨i + 1, A6, c6, orL Ki K5, rfl, by first | rfl | (congr 1; done) | (congr 1; omega), by omega, S6, M5, I6⟩
     case measure => first | (simp [intOf]; done) | (simp [intOf]; omega)
    ·obtain rfl : i = n2 := by omega
     have F := Lib.hid (show FromP (.mk 4 s0 nt ks mn mx) l La n w (.returned (.slice Ai N ci)) wr from by
      refine ⟨Ai, ci, Ki, by rw [HNN.out], by rw [HNN.out]; exact SI.out, fun j => ?_, I.out.1⟩
      have h := MI.out j
      rw [List.take_of_length_le (by rw [HL.out]; exact Nat.le_refl _)] at h
      rw [h]
      exact img_congr (fun a b => by rw [Mat]; simp) (fun _ => Iff.rfl) j)
     clear nb
     go_wp2_with fail
     go_ret
     exact F.out
  ·-- so many times
   obtain ⟨hn1, r1, r2, r3⟩ := may_rep ma
   clear ma
   obtain ⟨y, rfl⟩ := List.length_eq_one_iff.1 hn1
   have hn2 : n2 = 1 := by have := HL.out; simp at this; exact this.symm
   subst hn2
   obtain ⟨m, rfl⟩ : ∃ m : Nat, mn = (m : Int) := ⟨mn.toNat, by omega⟩
   have HM := Lib.hid (And.intro r2 r3)
   clear r1 hn1 r2 r3
   go_upto_region 24 with fail
   go_wp2_with fail
   go_loopw [11, 12] (fun v z wr => ∃ (i : Nat) (Ai : Option Addr) (ci : Nat) (Ki : List Bool), v = .slice Ai N ci ∧ z = .int .i64 (i : Int) ∧ i ≤ m ∧ Hid (Sq wr wr.heap.size 1 N Ai (bools Ki)) ∧ Hid (∀ j, Mk Ki j ↔ Img (fun a b => Pow (fun a b => Mat l y a b) i a b) (Mk La) j) ∧ Hid (Below w.heap.size w wr ∧ Below w2.heap.size w2 wr)) (fun _ z _ => m - (intOf z).toNat)
   case atStart =>
    exact ⟨0, Aa, ca, La, rfl, rfl, Nat.zero_le _, Lib.hid (by have h := SA.out.below (B2.out.mono HB.out); rw [HNN.out] at h; exact h.up (Nat.le_trans HB.out B2.out.size)), Lib.hid (fun j => img_id.symm), Lib.hid ⟨B2.out, Below.refl _ _⟩⟩
   case round =>
    obtain ⟨i, Ai, ci, Ki, rfl, rfl, hi, SI, MI, I⟩ := hrel
    have hi0 : (0 : Int) ≤ (i : Int) := by omega
    have hinc : IntKind.i64.wrap ((i : Int) + 1) = (i : Int) + 1 := IntWalk.i64_in _ (by have := HM.out.1; omega)
    have nb : nodeBk wr w.heap.size _ := NB.out.below I.out.2 (by have := GW.out; omega)
    obtain ⟨y0, y1, y2, y3, y4, y5⟩ := nv_bk nb
    by_cases hlt : i < m
    ·obtain ⟨y', xi, b, off, hy, rfl, nv, hkd⟩ := KID.out wr I.out.1 0 (by omega)
     obtain rfl : y' = y := by simpa using hy.symm
     obtain ⟨ki, Aii, nii, cii, nti, A2i, n2i, c2i, mni, mxi⟩ := xi
     obtain ⟨u0, u1, u2, u3, u4, u5⟩ := nv_at nv
     simp only [Nat.zero_mul, Nat.add_zero] at u0 u1 u2 u3 u4 u5
     have hi1 : (i : Int) < (m : Int) := by omega
     have CI := Lib.hid (IH.out y' ⟨ki, Aii, nii, cii, nti, A2i, n2i, c2i, mni, mxi⟩ lo wr.heap.size n Al Ai cl ci l Ki wr hkd.dp hkd.ok (Nat.le_refl _) hkd.nd ((SL.out.below (I.out.1.mono HB.out)).up (Nat.le_trans HB.out I.out.1.size)) LL.out hn6 (by rw [HNN.out]; exact SI.out))
     rw [HNN.out] at CI
     dsimp only [Nv.v] at CI
     clear nb nv hkd hy
     go_wp2_with fail
     refine CI.out.mono ?_
     rintro e w5 ⟨A5, c5, K5, rfl, hs5, hm5, b5⟩
     rw [HNN.out] at hs5
     rw [HNN.out]
     have S5 := Lib.hid hs5
     have M5 := Lib.hid (fun j => mk_pow MI.out hm5 j)
     have I5 := Lib.hid (show Below w.heap.size w w5 ∧ Below w2.heap.size w2 w5 from ⟨I.out.1.trans (b5.mono I.out.1.size), I.out.2.trans (b5.mono I.out.2.size)⟩)
     clear hs5 hm5 b5 CI y0 y1 y2 y3 y4 y5 u0 u1 u2 u3 u4 u5
     go_wp2_with fail
     go_roundw
     case rel => exact ⟨i + 1, A5, c5, K5, rfl, by first | rfl | (congr 1; done) | (congr 1; omega), by omega, S5, M5, I5⟩
     case measure => first | (simp [intOf]; done) | (simp [intOf]; omega)
    ·obtain rfl : i = m := by omega
     have BO := Lib.hid (both_walk (some ⟨g, 0, none⟩) Ai N N ci wr.heap.size (List.replicate N false) Ki wr (by
      have h := OB.out.sq
      rw [List.length_replicate] at h
      exact (h.below I.out.2).up I.out.2.size) SI.out (Nat.le_refl _) (by rw [← HNN.out]; omega))
     have hl6 : Ki.length = N := sq_boolN SI.out
     have OL := Lib.hid (show (orL (List.replicate N false) Ki).length = N from by rw [or_len (by simp [hl6])]; simp)
     have MO := Lib.hid (show ∀ j, Mk (orL (List.replicate N false) Ki) j ↔ UpTo (fun a b => Mat l y a b) (Mk La) i 0 j from fun j => by
      rw [mk_or (by simp [hl6]), upTo_zero, ← MI.out j]
      exact ⟨fun h => h.elim (fun h => absurd h (mk_none N j)) id, .inr⟩)
     clear nb hl6
     go_wp2_with fail
     refine BO.out.mono ?_
     rintro e w3 ⟨A3, c3, rfl, hs3, b3⟩
     rw [OL.out] at hs3
     rw [OL.out]
     have S3 := Lib.hid hs3
     have X3 := Lib.hid ((SI.out.below b3).up b3.size)
     have I3 := Lib.hid (show Below w.heap.size w w3 ∧ Below w2.heap.size w2 w3 from ⟨I.out.1.trans (b3.mono I.out.1.size), I.out.2.trans (b3.mono I.out.2.size)⟩)
     obtain ⟨KO, hKO⟩ : ∃ K, orL (List.replicate N false) Ki = K := ⟨_, rfl⟩
     rw [hKO] at S3 MO OL
     have FR := Lib.hid (show free KO ≤ N from by rw [← OL.out]; exact free_len KO)
     have nb : nodeBk w3 w.heap.size _ := NB.out.below I3.out.2 (by have := GW.out; omega)
     obtain ⟨y0, y1, y2, y3, y4, y5⟩ := nv_bk nb
     clear hs3 b3 BO hKO nb
     go_wp2_with fail
     clear y0 y1 y2 y3 y4 y5
     go_loopg [7, 11, 13] (free KO) (fun k vo vx z wq => ∃ (t : Nat) (Ao Ax : Option Addr) (co cx : Nat) (Ko Kx : List Bool), k = free Ko ∧ vo = .slice Ao N co ∧ vx = .slice Ax N cx ∧ z = .int .i64 ((i + t : Nat) : Int) ∧ Hid (Sq wq wq.heap.size 1 N Ao (bools Ko) ∧ Sq wq wq.heap.size 1 N Ax (bools Kx)) ∧ Hid ((∀ j, Mk Ko j ↔ UpTo (fun a b => Mat l y a b) (Mk La) i t j) ∧ ∀ j, Mk Kx j ↔ Img (fun a b => Pow (fun a b => Mat l y a b) (i + t) a b) (Mk La) j) ∧ Hid (t + free Ko ≤ N ∧ (mx < 0 ∨ (i : Int) + t ≤ mx)) ∧ Hid (Below w.heap.size w wq ∧ Below w2.heap.size w2 wq))
     case atStart => exact ⟨0, A3, Ai, c3, ci, KO, Ki, rfl, rfl, rfl, rfl, Lib.hid ⟨S3.out, X3.out⟩, Lib.hid ⟨MO.out, MI.out⟩, Lib.hid ⟨by rw [Nat.zero_add]; exact FR.out, by have := HM.out; omega⟩, I3⟩
     case round =>
      obtain ⟨t, Ao, Ax, co, cx, Ko, Kx, hgk, rfl, rfl, rfl, SS, MM, TT, I⟩ := hrel
      obtain ⟨q, hq⟩ : ∃ q, i + t = q := ⟨_, rfl⟩
      have HQ := Lib.hid hq
      have HGK := Lib.hid hgk
      rw [hq]
      have hi0 : (0 : Int) ≤ (q : Int) := by omega
      have hinc : IntKind.i64.wrap ((q : Int) + 1) = (q : Int) + 1 := IntWalk.i64_in _ (by have := HM.out.1; have := TT.out.1; omega)
      have nb : nodeBk wr w.heap.size _ := NB.out.below I.out.2 (by have := GW.out; omega)
      obtain ⟨y0, y1, y2, y3, y4, y5⟩ := nv_bk nb
      have FIN := Lib.hid (show ((∀ j, Img (fun a b => Pow (fun a b => Mat l y a b) (i + t + 1) a b) (Mk La) j → UpTo (fun a b => Mat l y a b) (Mk La) i t j) ∨ (0 ≤ mx ∧ mx = (i : Int) + t)) → ∀ j, Mk Ko j ↔ Img (Mat l (.mk 5 s0 nt [y] (i : Int) mx)) (Mk La) j from fun h j => by
       rw [MM.out.1 j, rep_stop (mn := (i : Int)) (mx := mx) rfl h TT.out.2 j]
       exact img_congr (fun a b => by rw [Mat, fst_one]; simp) (fun _ => Iff.rfl) j)
      by_cases hgo : mx < 0 ∨ (q : Int) < mx
      ·obtain ⟨y', xi, b, off, hy, rfl, nv, hkd⟩ := KID.out wr I.out.1 0 (by omega)
       obtain rfl : y' = y := by simpa using hy.symm
       obtain ⟨ki, Aii, nii, cii, nti, A2i, n2i, c2i, mni, mxi⟩ := xi
       obtain ⟨u0, u1, u2, u3, u4, u5⟩ := nv_at nv
       simp only [Nat.zero_mul, Nat.add_zero] at u0 u1 u2 u3 u4 u5
       have CI := Lib.hid (IH.out y' ⟨ki, Aii, nii, cii, nti, A2i, n2i, c2i, mni, mxi⟩ lo wr.heap.size n Al Ax cl cx l Kx wr hkd.dp hkd.ok (Nat.le_refl _) hkd.nd ((SL.out.below (I.out.1.mono HB.out)).up (Nat.le_trans HB.out I.out.1.size)) LL.out hn6 (by rw [HNN.out]; exact SS.out.2))
       rw [HNN.out] at CI
       dsimp only [Nv.v] at CI
       have HGO := Lib.hid hgo
       clear nb nv hkd hy hgk hq
       rcases hgo with hgo | hgo
       ·go_wp2_with fail
        refine CI.out.mono ?_
        rintro e w5 ⟨A5, c5, K5, rfl, hs5, hm5, b5⟩
        rw [HNN.out] at hs5
        rw [HNN.out]
        have hl5 : K5.length = N := sq_boolN hs5
        have hlo : Ko.length = N := sq_boolN SS.out.1
        have MX := Lib.hid (fun j => mk_pow MM.out.2 hm5 j)
        have BO := Lib.hid (both_walk Ao A5 N co c5 w5.heap.size Ko K5 w5 ((SS.out.1.below b5).up b5.size) hs5 (Nat.le_refl _) (by rw [← HNN.out]; omega))
        have OL := Lib.hid (show (orL Ko K5).length = N from by rw [or_len (hl5.trans hlo.symm), hlo])
        have LE := Lib.hid (hl5.trans hlo.symm)
        have S5 := Lib.hid hs5
        have I5 := Lib.hid (show Below w.heap.size w w5 ∧ Below w2.heap.size w2 w5 from ⟨I.out.1.trans (b5.mono I.out.1.size), I.out.2.trans (b5.mono I.out.2.size)⟩)
        have O5 := Lib.hid ((SS.out.1.below b5).up b5.size)
        clear hs5 hm5 b5 CI y0 y1 y2 y3 y4 y5 u0 u1 u2 u3 u4 u5 hl5 hlo
        go_wp2_with fail
        refine BO.out.mono ?_
        rintro e w6 ⟨A6, c6, rfl, hs6, b6⟩
        rw [OL.out] at hs6
        rw [OL.out]
        have S6 := Lib.hid hs6
        have I6 := Lib.hid (show Below w.heap.size w w6 ∧ Below w2.heap.size w2 w6 from ⟨I5.out.1.trans (b6.mono I5.out.1.size), I5.out.2.trans (b6.mono I5.out.2.size)⟩)
        have O6 := Lib.hid ((O5.out.below b6).up b6.size)
        have X6 := Lib.hid ((S5.out.below b6).up b6.size)
        have SA6 := Lib.hid (same_walk A6 Ao N c6 co w6.heap.size (orL Ko K5) Ko w6 hs6 O6.out (Nat.le_refl _) (by rw [← HNN.out]; omega))
        clear hs6 b6 BO
        by_cases hsm : orL Ko K5 = Ko
        ·rw [decide_eq_true hsm] at SA6
         have HSM := Lib.hid hsm
         clear hsm
         go_wp2_with fail
         refine SA6.out.mono ?_
         rintro e w7 ⟨rfl, b7⟩
         have F := Lib.hid (show FromP (.mk 5 s0 nt [y'] (i : Int) mx) l La n w (.returned (.slice Ao N co)) w7 from
          ⟨Ao, co, Ko, by rw [HNN.out], by rw [HNN.out]; exact (O6.out.below b7).up b7.size, FIN.out (.inl (upTo_same LE.out MM.out.1 MX.out HSM.out)), I6.out.1.trans (b7.mono I6.out.1.size)⟩)
         clear b7 SA6
         go_wp2_with fail
         go_ret
         exact F.out
        ·rw [decide_eq_false hsm] at SA6
         have FL := Lib.hid ((free_or LE.out).2 hsm)
         clear hsm
         go_wp2_with fail
         refine SA6.out.mono ?_
         rintro e w7 ⟨rfl, b7⟩
         have S7 := Lib.hid (show Sq w7 w7.heap.size 1 N A6 (bools (orL Ko K5)) ∧ Sq w7 w7.heap.size 1 N A5 (bools K5) from ⟨(S6.out.below b7).up b7.size, (X6.out.below b7).up b7.size⟩)
         have M7 := Lib.hid (show (∀ j, Mk (orL Ko K5) j ↔ UpTo (fun a b => Mat l y' a b) (Mk La) i (t + 1) j) ∧ ∀ j, Mk K5 j ↔ Img (fun a b => Pow (fun a b => Mat l y' a b) (i + (t + 1)) a b) (Mk La) j from ⟨fun j => mk_upTo LE.out MM.out.1 MX.out j, MX.out⟩)
         have T7 := Lib.hid (show (t + 1) + free (orL Ko K5) ≤ N ∧ (mx < 0 ∨ (i : Int) + ((t + 1 : Nat) : Int) ≤ mx) from by
          have h1 := FL.out
          have h2 := TT.out
          have h3 := HGO.out
          have h4 := HQ.out
          omega)
         have I7 := Lib.hid (show Below w.heap.size w w7 ∧ Below w2.heap.size w2 w7 from ⟨I6.out.1.trans (b7.mono I6.out.1.size), I6.out.2.trans (b7.mono I6.out.2.size)⟩)
         clear b7 SA6
         go_wp2_with fail
         go_roundg (free (orL Ko K5))
         case measure => have h1 := FL.out; have h2 := HGK.out; omega
         case rel => exact ⟨t + 1, A6, A5, c6, c5, orL Ko K5, K5, rfl, rfl, rfl, by rw [← Nat.add_assoc, HQ.out]; first | rfl | (congr 1; done) | (congr 1; omega), S7, M7, T7, I7⟩
       ·have hneg : ¬ mx < 0 := by omega
        go_wp2_with fail
        refine CI.out.mono ?_
        rintro e w5 ⟨A5, c5, K5, rfl, hs5, hm5, b5⟩
        rw [HNN.out] at hs5
        rw [HNN.out]
        have hl5 : K5.length = N := sq_boolN hs5
        have hlo : Ko.length = N := sq_boolN SS.out.1
        have MX := Lib.hid (fun j => mk_pow MM.out.2 hm5 j)
        have BO := Lib.hid (both_walk Ao A5 N co c5 w5.heap.size Ko K5 w5 ((SS.out.1.below b5).up b5.size) hs5 (Nat.le_refl _) (by rw [← HNN.out]; omega))
        have OL := Lib.hid (show (orL Ko K5).length = N from by rw [or_len (hl5.trans hlo.symm), hlo])
        have LE := Lib.hid (hl5.trans hlo.symm)
        have S5 := Lib.hid hs5
        have I5 := Lib.hid (show Below w.heap.size w w5 ∧ Below w2.heap.size w2 w5 from ⟨I.out.1.trans (b5.mono I.out.1.size), I.out.2.trans (b5.mono I.out.2.size)⟩)
        have O5 := Lib.hid ((SS.out.1.below b5).up b5.size)
        clear hs5 hm5 b5 CI y0 y1 y2 y3 y4 y5 u0 u1 u2 u3 u4 u5 hl5 hlo
        go_wp2_with fail
        refine BO.out.mono ?_
        rintro e w6 ⟨A6, c6, rfl, hs6, b6⟩
        rw [OL.out] at hs6
        rw [OL.out]
        have S6 := Lib.hid hs6
        have I6 := Lib.hid (show Below w.heap.size w w6 ∧ Below w2.heap.size w2 w6 from ⟨I5.out.1.trans (b6.mono I5.out.1.size), I5.out.2.trans (b6.mono I5.out.2.size)⟩)
        have O6 := Lib.hid ((O5.out.below b6).up b6.size)
        have X6 := Lib.hid ((S5.out.below b6).up b6.size)
        have SA6 := Lib.hid (same_walk A6 Ao N c6 co w6.heap.size (orL Ko K5) Ko w6 hs6 O6.out (Nat.le_refl _) (by rw [← HNN.out]; omega))
        clear hs6 b6 BO
        by_cases hsm : orL Ko K5 = Ko
        ·rw [decide_eq_true hsm] at SA6
         have HSM := Lib.hid hsm
         clear hsm
         go_wp2_with fail
         refine SA6.out.mono ?_
         rintro e w7 ⟨rfl, b7⟩
         have F := Lib.hid (show FromP (.mk 5 s0 nt [y'] (i : Int) mx) l La n w (.returned (.slice Ao N co)) w7 from
          ⟨Ao, co, Ko, by rw [HNN.out], by rw [HNN.out]; exact (O6.out.below b7).up b7.size, FIN.out (.inl (upTo_same LE.out MM.out.1 MX.out HSM.out)), I6.out.1.trans (b7.mono I6.out.1.size)⟩)
         clear b7 SA6
         go_wp2_with fail
         go_ret
         exact F.out
        ·rw [decide_eq_false hsm] at SA6
         have FL := Lib.hid ((free_or LE.out).2 hsm)
         clear hsm
         go_wp2_with fail
         refine SA6.out.mono ?_
         rintro e w7 ⟨rfl, b7⟩
         have S7 := Lib.hid (show Sq w7 w7.heap.size 1 N A6 (bools (orL Ko K5)) ∧ Sq w7 w7.heap.size 1 N A5 (bools K5) from ⟨(S6.out.below b7).up b7.size, (X6.out.below b7).up b7.size⟩)
         have M7 := Lib.hid (show (∀ j, Mk (orL Ko K5) j ↔ UpTo (fun a b => Mat l y' a b) (Mk La) i (t + 1) j) ∧ ∀ j, Mk K5 j ↔ Img (fun a b => Pow (fun a b => Mat l y' a b) (i + (t + 1)) a b) (Mk La) j from ⟨fun j => mk_upTo LE.out MM.out.1 MX.out j, MX.out⟩)
         have T7 := Lib.hid (show (t + 1) + free (orL Ko K5) ≤ N ∧ (mx < 0 ∨ (i : Int) + ((t + 1 : Nat) : Int) ≤ mx) from by
          have h1 := FL.out
          have h2 := TT.out
          have h3 := HGO.out
          have h4 := HQ.out
          omega)
         have I7 := Lib.hid (show Below w.heap.size w w7 ∧ Below w2.heap.size w2 w7 from ⟨I6.out.1.trans (b7.mono I6.out.1.size), I6.out.2.trans (b7.mono I6.out.2.size)⟩)
         clear b7 SA6
         go_wp2_with fail
         go_roundg (free (orL Ko K5))
         case measure => have h1 := FL.out; have h2 := HGK.out; omega
         case rel => exact ⟨t + 1, A6, A5, c6, c5, orL Ko K5, K5, rfl, rfl, rfl, by rw [← Nat.add_assoc, HQ.out]; first | rfl | (congr 1; done) | (congr 1; omega), S7, M7, T7, I7⟩
      ·have hn1 : ¬ mx < 0 := fun h => hgo (.inl h)
       have hn2 : ¬ (q : Int) < mx := fun h => hgo (.inr h)
       have F := Lib.hid (show FromP (.mk 5 s0 nt [y] (i : Int) mx) l La n w (.returned (.slice Ao N co)) wr from
        ⟨Ao, co, Ko, by rw [HNN.out], by rw [HNN.out]; exact SS.out.1, FIN.out (.inr (by have := TT.out.2; omega)), I.out.1⟩)
       clear nb hgo hgk
       go_wp2_with fail
       go_ret
       exact F.out
  ·-- a bound
   clear ma
   have hix0 : (0 : Int) ≤ (0 : Int) := by omega
   have hix1 : (0 : Int) < (N : Int) := by omega
   obtain ⟨a, hxa⟩ : ∃ a, La[0]? = some a := ⟨_, List.getElem?_eq_getElem (by have h := sq_boolN SA.out; omega)⟩
   obtain ⟨ga, oa, ea, ca⟩ := sq_bool (SA.out.below (B2.out.mono HB.out)) hxa (by omega)
   subst ea
   have fz := Bk.free OB.out 0
   have cz : w2.cell? ⟨g, 0, none⟩ = some (.bool false) := OB.out.get (by rw [List.getElem?_replicate, if_pos (by omega)])
   have F := Lib.hid (show FromP (.mk 6 s0 nt ks mn mx) l La n w (.returned (.slice (some ⟨g, 0, none⟩) N N)) (w2.setCell ⟨g, 0, none⟩ (.bool a)) from by
    have h := (OB.out.set 0 a).sq
    rw [List.length_set, List.length_replicate] at h
    refine ⟨some ⟨g, 0, none⟩, N, _, by rw [HNN.out], by rw [HNN.out]; exact h, fun j => ?_, B2.out.setCell (p := ⟨g, 0, none⟩) (by have := GW.out; simp; omega) _⟩
    constructor
    ·intro hj
     unfold Mk at hj
     rw [List.getElem?_set] at hj
     split at hj
     ·rename_i h1
      subst h1
      split at hj
      ·injection hj with hj
       exact ⟨0, by unfold Mk; rw [hxa, hj], by rw [Mat]; simp⟩
      ·cases hj
     ·exact absurd hj (mk_none N j)
    ·rintro ⟨q, h1, h2⟩
     rw [Mat] at h2
     simp at h2
     obtain ⟨h3, h4⟩ := h2
     subst h3 h4
     unfold Mk at h1 ⊢
     rw [hxa] at h1
     rw [List.getElem?_set_self (by simp; omega)]
     exact h1)
   simp only [Nat.add_zero] at ca
   clear hxa
   go_wp2_with fail
   go_ret
   exact F.out
  ·-- a bound
   clear ma
   have hix0 : (0 : Int) ≤ (n : Int) := by omega
   have hix1 : (n : Int) < (N : Int) := by omega
   obtain ⟨a, hxa⟩ : ∃ a, La[n]? = some a := ⟨_, List.getElem?_eq_getElem (by have h := sq_boolN SA.out; omega)⟩
   obtain ⟨ga, oa, ea, ca⟩ := sq_bool (SA.out.below (B2.out.mono HB.out)) hxa (by omega)
   subst ea
   have fz := Bk.free OB.out n
   have cz : w2.cell? ⟨g, n, none⟩ = some (.bool false) := OB.out.get (by rw [List.getElem?_replicate, if_pos (by omega)])
   have F := Lib.hid (show FromP (.mk 7 s0 nt ks mn mx) l La n w (.returned (.slice (some ⟨g, 0, none⟩) N N)) (w2.setCell ⟨g, n, none⟩ (.bool a)) from by
    have h := (OB.out.set n a).sq
    rw [List.length_set, List.length_replicate] at h
    refine ⟨some ⟨g, 0, none⟩, N, _, by rw [HNN.out], by rw [HNN.out]; exact h, fun j => ?_, B2.out.setCell (p := ⟨g, n, none⟩) (by have := GW.out; simp; omega) _⟩
    constructor
    ·intro hj
     unfold Mk at hj
     rw [List.getElem?_set] at hj
     split at hj
     ·rename_i h1
      subst h1
      split at hj
      ·injection hj with hj
       exact ⟨n, by unfold Mk; rw [hxa, hj], by rw [Mat]; simp; exact LL.out.symm⟩
      ·cases hj
     ·exact absurd hj (mk_none N j)
    ·rintro ⟨q, h1, h2⟩
     rw [Mat] at h2
     simp at h2
     obtain ⟨h3, h4⟩ := h2
     rw [LL.out] at h3 h4
     subst h3 h4
     unfold Mk at h1 ⊢
     rw [hxa] at h1
     rw [List.getElem?_set_self (by simp; omega)]
     exact h1)
   clear hxa
   go_wp2_with fail
   go_ret
   exact F.out
end NF
namespace NF
theorem refEnds_out (x : Nv) (Al : Option Addr) (n cl : Nat) (at' : Int) (w : World) (ho : at' < 0 ∨ (n : Int) < at') :
  Calls Tryz.prog 64 #[x.v, .slice Al n cl, .int .i64 at'] w fun e w' => EndsPost [] w e w' := by
 obtain ⟨k, A, n1, c, nt, A2, n2, c2, mn, mx⟩ := x
 dsimp only [Nv.v]
 by_cases h1 : at' < 0
 ·go_enter Tryz.func64, Tryz.ntmps64
  go_wp2_with fail
  go_ret
  exact ⟨_, rfl, World.ownsRow_nil _ _ _ _, (Below.refl _ _).alloc (Nat.le_refl _) _⟩
 ·have h2 : (n : Int) < at' := by omega
  go_enter Tryz.func64, Tryz.ntmps64
  go_wp2_with fail
  go_ret
  exact ⟨_, rfl, World.ownsRow_nil _ _ _ _, (Below.refl _ _).alloc (Nat.le_refl _) _⟩
theorem refEnds_in (t : Nd) (x : Nv) (lo n : Nat) (Al : Option Addr) (cl a : Nat) (l : List Int) (w : World) (hct : may t = true) (hx : NdIn w lo w.heap.size t x) (hl : Sq w w.heap.size 1 n Al (runesV l)) (hln : l.length = n) (hn6 : n ≤ 1000000) (han : a ≤ n) :
  Calls Tryz.prog 64 #[x.v, .slice Al n cl, .int .i64 (a : Int)] w fun e w' => EndsPost (endsL (fun e => Mat l t a e) (n + 1)) w e w' := by
 obtain ⟨k, A, n1, c, nt, A2, n2, c2, mn, mx⟩ := x
 obtain ⟨w1, hw1, k1, b1, z1⟩ := boxed_node w k A n1 c nt A2 n2 c2 mn mx
 obtain ⟨i0, hi, hz0, hz1, hz2⟩ := info_parts infoBool
 obtain ⟨j0, hj, hy0, hy1, hy2⟩ := info_parts infoInt
 obtain ⟨N, hN⟩ : ∃ N : Nat, n + 1 = N := ⟨_, rfl⟩
 have hNc : (n : Int) + 1 = (N : Int) := by omega
 have hNw : IntKind.i64.wrap (N : Int) = (N : Int) := IntWalk.i64_in _ (by omega)
 have hN0 : (0 : Int) ≤ (N : Int) := by omega
 have MK := run_make w1 42 4 i0 (.bool false) Tryz.underlying42 hi hz0 .i64 .i64 (N : Int) (N : Int) hN0 (Int.le_refl _) (by rw [hz2]; omega) (by omega)
 rw [hz1, Int.toNat_natCast, Nat.mul_one] at MK
 obtain ⟨w2, hw2⟩ : ∃ w2, w1.alloc (.cells (madeCells #[.bool false] N) 4) = w2 := ⟨_, rfl⟩
 obtain ⟨g, hg⟩ : ∃ g, w1.heap.size = g := ⟨_, rfl⟩
 have b2 : Below w1.heap.size w1 w2 := by rw [← hw2]; exact (Below.refl _ _).alloc (Nat.le_refl _) _
 have k2 : MkBk w2 g (List.replicate N false) := by
  unfold MkBk
  rw [← hw2, ← hg, ← made_bools]
  exact heap_alloc_new w1 _
 have ha0 : (0 : Int) ≤ (a : Int) := by omega
 have ha1 : ¬ (a : Int) < 0 := by omega
 have ha2 : ¬ (n : Int) < (a : Int) := by omega
 have ha3 : (a : Int) < (N : Int) := by omega
 have f0 := Bk.free k2 a
 have c0 : w2.cell? ⟨g, a, none⟩ = some (.bool false) := k2.get (by rw [List.getElem?_replicate, if_pos (by omega)])
 obtain ⟨w3, hw3⟩ : ∃ w3, w2.setCell ⟨g, a, none⟩ (.bool true) = w3 := ⟨_, rfl⟩
 have k3 : MkBk w3 g ((List.replicate N false).set a true) := by rw [← hw3]; exact k2.set a true
 have b12 : Below w.heap.size w w2 := b1.trans (b2.mono (by omega))
 have b3 : Below w.heap.size w w3 := by rw [← hw3]; exact b12.setCell (p := ⟨g, a, none⟩) (by simp; omega) _
 have n3 : nodeBk w3 w.heap.size ⟨k, A, n1, c, nt, A2, n2, c2, mn, mx⟩ := by
  have h := k1.below b2 (by omega)
  rw [← hw3]
  exact (Below.heap_setCell _ _ _ _ (by simp; omega)).trans h
 obtain ⟨y0, y1, y2, y3, y4, y5⟩ := nv_bk n3
 have hsq := k3.sq
 rw [List.length_set, List.length_replicate] at hsq
 have FW := Lib.hid (from_walk (deep t) t ⟨k, A, n1, c, nt, A2, n2, c2, mn, mx⟩ lo w3.heap.size n Al (some ⟨g, 0, none⟩) cl N l ((List.replicate N false).set a true) w3 (Nat.le_refl _) hct (Nat.le_refl _) (ndIn_up (Nat.le_refl _) b3.size (hx.below b3)) ((hl.below b3).up b3.size) hln hn6 (by rw [hN]; exact hsq))
 have B3 := Lib.hid b3
 have HN := Lib.hid hN
 have HG := Lib.hid hg
 have HW2 := Lib.hid hw2
 have HW3 := Lib.hid hw3
 have ONE := Lib.hid (show ∀ j, Mk ((List.replicate N false).set a true) j ↔ j = a from fun j => mk_one (by omega) j)
 rw [hN] at FW
 dsimp only [Nv.v] at FW ⊢
 clear k1 k2 b1 b2 z1 hw2 hg hw3 k3 b12 b3 n3 hsq hx hl hln hz2 hct
 go_enter Tryz.func64, Tryz.ntmps64
 go_upto_region 4 with fail
 rw [HG.out]
 first
  | rw [HW2.out]
  | (change Code.wp _ _ _ _ (w1.alloc (.cells (madeCells #[.bool false] N) 4)); rw [HW2.out])
 clear HW2 MK hw1
 go_upto_region 5 with fail
 first
  | rw [HW3.out]
  | (change Code.wp _ _ _ _ (w2.setCell ⟨g, a, none⟩ (.bool true)); rw [HW3.out])
 go_wp2_with fail
 refine FW.out.mono ?_
 rintro e w4 ⟨A4, c4, K, rfl, hs4, hm4, b4⟩
 rw [HN.out] at hs4
 rw [HN.out]
 have S4 := Lib.hid hs4
 have EM := Lib.hid (show endsL (Mk K) N = endsL (fun e => Mat l t a e) N from ends_marks ONE.out hm4)
 have B4 := Lib.hid (B3.out.trans (b4.mono B3.out.size))
 have KL := Lib.hid (sq_boolN hs4)
 clear hs4 hm4 b4 FW y0 y1 y2 y3 y4 y5 f0 c0
 go_wp2_with fail
 go_loopw [8, 9] (fun v z wr => ∃ (i : Nat), z = .int .i64 (i : Int) ∧ i ≤ N ∧ Hid (wr.ownsRow w4.heap.size 3 1 v (endsL (Mk K) i).length (nums (endsL (Mk K) i))) ∧ Hid (Below w4.heap.size w4 wr)) (fun _ z _ => N - (intOf z).toNat)
 case atStart => exact ⟨0, rfl, Nat.zero_le _, Lib.hid (World.ownsRow_nil _ _ _ _), Lib.hid (Below.refl _ _)⟩
 case round =>
  obtain ⟨i, rfl, hin, OW, BW⟩ := hrel
  have hi0 : (0 : Int) ≤ (i : Int) := by omega
  have hinc : IntKind.i64.wrap ((i : Int) + 1) = (i : Int) + 1 := IntWalk.i64_in _ (by omega)
  by_cases hlt : i < N
  ·have h1 : (i : Int) < (N : Int) := by omega
   obtain ⟨b, hb⟩ : ∃ b, K[i]? = some b := ⟨_, List.getElem?_eq_getElem (by rw [KL.out]; exact hlt)⟩
   obtain ⟨ga, oa, rfl, ca⟩ := sq_bool (S4.out.below BW.out) hb hlt
   have HBB := Lib.hid hb
   clear hb
   cases b with
   | false =>
    have E2 := Lib.hid (show endsL (Mk K) (i + 1) = endsL (Mk K) i from (endsL_snoc (Mk K) i).2 (by unfold Mk; rw [HBB.out]; simp))
    go_wp2_with fail
    go_roundw
    case rel => exact ⟨i + 1, by first | rfl | (congr 1; done) | (congr 1; omega), by omega, by rw [E2.out]; exact OW, BW⟩
    case measure => first | (simp [intOf]; done) | (simp [intOf]; omega)
   | true =>
    have E2 := Lib.hid (show endsL (Mk K) (i + 1) = endsL (Mk K) i ++ [i] from (endsL_snoc (Mk K) i).1 HBB.out)
    have hlen := endsL_len (Mk K) i
    obtain ⟨L, hL⟩ : ∃ L, endsL (Mk K) i = L := ⟨_, rfl⟩
    rw [hL] at OW E2 hlen
    obtain ⟨q, hq⟩ : ∃ q, L.length = q := ⟨_, rfl⟩
    rw [hq] at OW hlen
    obtain ⟨w5, hw5⟩ : ∃ w5, wr.alloc (.cells #[.int .i64 (i : Int)] 3) = w5 := ⟨_, rfl⟩
    have b5 : Below wr.heap.size wr w5 := by rw [← hw5]; exact (Below.refl _ _).alloc (Nat.le_refl _) _
    have sq := sqO_new' wr #[.int .i64 (i : Int)] 3 1 1 rfl
    rw [hw5] at sq
    have SQ := Lib.hid sq
    have O5 := Lib.hid ((Trn.ofBelow b5 fun _ => False).own OW.out (fun _ _ x => x))
    have BX := Lib.hid (BW.out.trans (b5.mono BW.out.size))
    have HLQ := Lib.hid (And.intro hL hq)
    clear sq b5 hL hq
    go_wp2_with (refine wpl_app rfl _ _ 36 rfl w4.heap.size 3 j0 (.int .i64 0) 1 8 Tryz.underlying36 hj hy0 hy1 hy2 rfl (by decide) _ q (nums L) rfl O5.out (some ⟨wr.heap.size, 0, none⟩) 1 1 [.int .i64 (i : Int)] rfl w5.heap.size SQ.out (by intro u hu; simp at hu; subst hu; rfl) (by unfold maxLen; omega) (by omega) BX.out.size ?_)
    intro v' w6 h3 h4 h5
    have O6 := Lib.hid (show w6.ownsRow w4.heap.size 3 1 v' (endsL (Mk K) (i + 1)).length (nums (endsL (Mk K) (i + 1))) from by
     rw [E2.out, List.length_append, HLQ.out.2]
     have e : nums (L ++ [i]) = nums L ++ [.int .i64 (i : Int)] := by simp [nums]
     rw [e]
     exact h3)
    have B6 := Lib.hid (BX.out.trans ((Trn.ofGrown h4).toBelow BX.out.size (fun k hk e => by have := (World.ownsRow.lt O5.out k e).1; omega)))
    clear h3 h4 h5 O5
    go_wp2_with fail
    go_roundw
    case rel => exact ⟨i + 1, by first | rfl | (congr 1; done) | (congr 1; omega), by omega, O6, B6⟩
    case measure => first | (simp [intOf]; done) | (simp [intOf]; omega)
  ·obtain rfl : i = N := by omega
   obtain ⟨Av, cv, rfl⟩ := own_len OW.out
   have F := Lib.hid (show ∀ v, v = Value.slice Av (endsL (Mk K) i).length cv → EndsPost (endsL (fun e => Mat l t a e) i) w (.returned v) wr from fun v hv => by
    rw [hv, ← EM.out]
    refine ⟨_, rfl, ⟨OW.out.1, ?_⟩, B4.out.trans (BW.out.mono B4.out.size)⟩
    rcases OW.out.2 with h | ⟨g, cap, cur, h1, h2, h3⟩
    ·exact .inl h
    ·exact .inr ⟨g, cap, cur, h1, Nat.le_trans B4.out.size h2, h3⟩)
   go_wp2_with fail
   go_ret
   rw [HN.out]
   exact F.out _ rfl
end NF
namespace NF
theorem refDeep_some (t : Nd) (x : Nv) (lo : Nat) (w : World) (hd : deep t ≤ 1000000) (hx : NdIn w lo w.heap.size t x) :
  Calls Tryz.prog 63 #[x.v] w fun e w' => e = .returned (.int .i64 (deep t : Int)) ∧ Below w.heap.size w w' :=
 refDeep_walk (deep t) t x lo w.heap.size w (Nat.le_refl _) (by omega) (Nat.le_refl _) hx
end NF
end Go.Proofs.YteemnmalikomgaaGreatDoor
namespace Go.Proofs.YteemnmalikomgaaGreatDoor.NF
def longL (L : List Nat) (a : Int) : Int :=
 match L.getLast? with
 | .none => 0
 | .some e => (e : Int) - a
noncomputable def longI (l : List Int) (t : Nd) (n a : Nat) : Int := longL (endsL (fun e => Mat l t a e) (n + 1)) (a : Int)
theorem longL_last {L : List Nat} {m e : Nat} (a : Int) (hl : L.length = m + 1) (he : L[m]? = some e) : longL L a = (e : Int) - a := by
 unfold longL
 rw [List.getLast?_eq_getElem?, hl, Nat.add_sub_cancel, he]
theorem endsL_lt {P : Nat → Prop} {k e : Nat} (h : e ∈ endsL P k) : e < k := by
 unfold endsL at h
 exact List.mem_range.1 (List.mem_filter.1 h).1
def nxt (f : Nat → Int) : Nat → Nat → Option Nat
 | _, 0 => .none
 | i, k + 1 => if 0 < f i then .some i else nxt f (i + 1) k
def lst (f : Nat → Int) : Nat → Option Nat
 | 0 => .none
 | i + 1 => if 0 < f i then .some i else lst f i
end Go.Proofs.YteemnmalikomgaaGreatDoor.NF
namespace Go.Proofs.YteemnmalikomgaaGreatDoor
open Go.ChangeShapes Go.WideShapes Go.ChangeAt Go.RowKit
namespace NF
noncomputable def atI (l : List Int) (t : Nd) (n : Nat) (z : Int) : Int := if 0 ≤ z ∧ z ≤ (n : Int) then longI l t n z.toNat else 0
def LenP (v : Int) (w : World) (e : Ending) (w' : World) : Prop := e = .returned (.int .i64 v) ∧ Below w.heap.size w w'
def hitV (f : Nat → Int) : Option Nat → Value
 | .none => .tuple #[.int .i64 0, .int .i64 0, .bool false]
 | .some a => .tuple #[.int .i64 (a : Int), .int .i64 (f a), .bool true]
def HitP (f : Nat → Int) (o : Option Nat) (w : World) (e : Ending) (w' : World) : Prop := e = .returned (hitV f o) ∧ Below w.heap.size w w'
theorem last_wrap {l : List Int} {t : Nd} {n a m e : Nat} (ha : a ≤ n) (hn : n ≤ 1000000) (he : (endsL (fun e => Mat l t a e) (n + 1))[m]? = some e) : IntKind.i64.wrap ((e : Int) - (a : Int)) = (e : Int) - a := by
 have := endsL_lt (List.mem_of_getElem? he)
 exact IntWalk.i64_in _ (by omega)
theorem findAt_gen (L : List Nat) (P : Value) (A : Option Addr) (n c : Nat) (z : Int) (w : World) (hn : L.length ≤ 1000001) (hw : ∀ (m e : Nat), L[m]? = some e → IntKind.i64.wrap ((e : Int) - z) = (e : Int) - z)
  (EP : Calls Tryz.prog 16 #[P, .slice A n c, .int .i64 z] w fun e w' => EndsPost L w e w') :
  Calls Tryz.prog 28 #[P, .slice A n c, .int .i64 z] w fun e w' => LenP (longL L z) w e w' := by
 have E1 := Lib.hid EP
 have HW := Lib.hid hw
 unfold LenP
 clear EP hw
 go_enter Tryz.func28, Tryz.ntmps28
 go_wp2_with fail
 refine E1.out.mono ?_
 intro e w1 h1
 obtain ⟨A7, c7, rfl, hq, hc7, b1⟩ := ends_some h1
 have B1 := Lib.hid b1
 have HQ := Lib.hid hq
 clear h1 hq b1 E1
 obtain ⟨q, hqq⟩ : ∃ q, L.length = q := ⟨_, rfl⟩
 rw [hqq] at HQ hc7 hn ⊢
 cases q with
 | zero =>
  obtain rfl : L = [] := List.eq_nil_of_length_eq_zero hqq
  go_wp2_with fail
  go_ret
  exact ⟨rfl, B1.out⟩
 | succ m =>
  obtain ⟨e0, he⟩ : ∃ e, L[m]? = some e := ⟨_, List.getElem?_eq_getElem (by omega)⟩
  obtain ⟨b, off, rfl, _, hc⟩ := HQ.out.spot (by omega)
  have c0 : w1.cell? ⟨b, off + m, none⟩ = some (.int .i64 (e0 : Int)) := hc m _ (by unfold nums; rw [List.getElem?_map, he]; rfl)
  have h1 : ((m : Int) + 1 == 0) = false := by simp; omega
  have h2 : IntKind.i64.wrap ((m : Int) + 1 - 1) = (m : Int) := by rw [IntWalk.i64_in _ (by omega)]; omega
  have h3 : (0 : Int) ≤ (m : Int) := by omega
  have h4 : (m : Int) < (m : Int) + 1 := by omega
  have h5 := HW.out m e0 he
  have HL := Lib.hid (longL_last z hqq he)
  clear hc HW hqq he
  go_wp2_with fail
  go_ret
  exact ⟨by rw [HL.out]; rfl, B1.out⟩
theorem refAt_gen (L : List Nat) (x : Nv) (A : Option Addr) (n c : Nat) (z : Int) (w : World) (hn : L.length ≤ 1000001) (hw : ∀ (m e : Nat), L[m]? = some e → IntKind.i64.wrap ((e : Int) - z) = (e : Int) - z)
  (EP : ∀ w2, Below w.heap.size w w2 → Calls Tryz.prog 64 #[x.v, .slice A n c, .int .i64 z] w2 fun e w' => EndsPost L w2 e w') :
  Calls Tryz.prog 29 #[x.v, .slice A n c, .int .i64 z] w fun e w' => LenP (longL L z) w e w' := by
 obtain ⟨k, Ak, nk, ck, nt, A2, n2, c2, mn, mx⟩ := x
 obtain ⟨w1, hw1, k1, b1, z1⟩ := boxed_node w k Ak nk ck nt A2 n2 c2 mn mx
 obtain ⟨y0, y1, y2, y3, y4, y5⟩ := nv_bk k1
 have E1 := Lib.hid (EP w1 b1)
 have B0 := Lib.hid b1
 have HW := Lib.hid hw
 unfold LenP
 clear EP hw k1 b1 z1
 dsimp only [Nv.v] at E1 ⊢
 go_enter Tryz.func29, Tryz.ntmps29
 go_wp2_with fail
 refine E1.out.mono ?_
 intro e w1 h1
 obtain ⟨A7, c7, rfl, hq, hc7, b1⟩ := ends_some h1
 have B1 := Lib.hid (B0.out.trans (b1.mono B0.out.size))
 have HQ := Lib.hid hq
 clear h1 hq b1 E1
 obtain ⟨q, hqq⟩ : ∃ q, L.length = q := ⟨_, rfl⟩
 rw [hqq] at HQ hc7 hn ⊢
 cases q with
 | zero =>
  obtain rfl : L = [] := List.eq_nil_of_length_eq_zero hqq
  go_wp2_with fail
  go_ret
  exact ⟨rfl, B1.out⟩
 | succ m =>
  obtain ⟨e0, he⟩ : ∃ e, L[m]? = some e := ⟨_, List.getElem?_eq_getElem (by omega)⟩
  obtain ⟨b, off, rfl, _, hc⟩ := HQ.out.spot (by omega)
  have c0 : w1.cell? ⟨b, off + m, none⟩ = some (.int .i64 (e0 : Int)) := hc m _ (by unfold nums; rw [List.getElem?_map, he]; rfl)
  have h1 : ((m : Int) + 1 == 0) = false := by simp; omega
  have h2 : IntKind.i64.wrap ((m : Int) + 1 - 1) = (m : Int) := by rw [IntWalk.i64_in _ (by omega)]; omega
  have h3 : (0 : Int) ≤ (m : Int) := by omega
  have h4 : (m : Int) < (m : Int) + 1 := by omega
  have h5 := HW.out m e0 he
  have HL := Lib.hid (longL_last z hqq he)
  clear hc HW hqq he
  go_wp2_with fail
  go_ret
  exact ⟨by rw [HL.out]; rfl, B1.out⟩
theorem findAt_walk {w : World} {B p : Nat} {t : Nd} (h : Prg w B p t) (A : Option Addr) (n c : Nat) (l : List Int) (hn : n ≤ 1000000) (hB : B ≤ w.heap.size) (hl : l.length = n) (hq : Sq w w.heap.size 1 n A (runesV l)) (z : Int) :
  Calls Tryz.prog 28 #[.pointer (some ⟨p, 0, none⟩), .slice A n c, .int .i64 z] w fun e w' => LenP (atI l t n z) w e w' := by
 by_cases hz : 0 ≤ z ∧ z ≤ (n : Int)
 ·obtain ⟨a, rfl⟩ : ∃ a : Nat, z = (a : Int) := ⟨z.toNat, by omega⟩
  have e : atI l t n (a : Int) = longL (endsL (fun e => Mat l t a e) (n + 1)) (a : Int) := by unfold atI longI; rw [if_pos hz, Int.toNat_natCast]
  rw [e]
  exact findAt_gen _ _ A n c _ w (by have := endsL_len (fun e => Mat l t a e) (n + 1); omega) (fun m e he => last_wrap (by omega) hn he) (prg_ends h A n c a l (by omega) hn hB hl hq)
 ·have e : atI l t n z = longL [] z := by unfold atI; rw [if_neg hz]; rfl
  rw [e]
  exact findAt_gen [] _ A n c _ w (Nat.zero_le _) (fun m e he => by simp at he) (prg_out h A n c z (by omega))
theorem refAt_walk (t : Nd) (x : Nv) (lo : Nat) (w : World) (hct : may t = true) (hx : NdIn w lo w.heap.size t x) (A : Option Addr) (n c : Nat) (l : List Int) (hn : n ≤ 1000000) (hl : l.length = n) (hq : Sq w w.heap.size 1 n A (runesV l)) (z : Int) :
  Calls Tryz.prog 29 #[x.v, .slice A n c, .int .i64 z] w fun e w' => LenP (atI l t n z) w e w' := by
 by_cases hz : 0 ≤ z ∧ z ≤ (n : Int)
 ·obtain ⟨a, rfl⟩ : ∃ a : Nat, z = (a : Int) := ⟨z.toNat, by omega⟩
  have e : atI l t n (a : Int) = longL (endsL (fun e => Mat l t a e) (n + 1)) (a : Int) := by unfold atI longI; rw [if_pos hz, Int.toNat_natCast]
  rw [e]
  exact refAt_gen _ x A n c _ w (by have := endsL_len (fun e => Mat l t a e) (n + 1); omega) (fun m e he => last_wrap (by omega) hn he) fun w2 b => refEnds_in t x lo n A c a l w2 hct (ndIn_up (Nat.le_refl _) b.size (hx.below b)) ((hq.below b).up b.size) hl hn (by omega)
 ·have e : atI l t n z = longL [] z := by unfold atI; rw [if_neg hz]; rfl
  rw [e]
  exact refAt_gen [] x A n c _ w (Nat.zero_le _) (fun m e he => by simp at he) fun w2 _ => refEnds_out x A n c z w2 (by omega)
theorem atI_in (l : List Int) (t : Nd) (n a : Nat) (ha : a ≤ n) : atI l t n (a : Int) = longI l t n a := by unfold atI; rw [if_pos (by omega), Int.toNat_natCast]
end NF
