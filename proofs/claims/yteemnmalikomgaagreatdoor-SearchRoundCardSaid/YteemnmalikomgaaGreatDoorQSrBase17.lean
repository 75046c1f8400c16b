import Derived.Test.YteemnmalikomgaaGreatDoorQSrBase16
set_option maxRecDepth 100000
set_option maxHeartbeats 12800000
namespace Go.Proofs.YteemnmalikomgaaGreatDoor
open Go.ChangeShapes Go.WideShapes Go.ChangeAt Go.RowKit
namespace NF
theorem sg_next {l : List Cel} {k : Nat} {c : Cel} (h : l[k]? = some c) : (sg l).take (k + 1) = (sg l).take k ++ [c.1] := by
 have h2 : (sg l)[k]? = some c.1 := by unfold sg; rw [List.getElem?_map, h]; rfl
 obtain ⟨h3, h4⟩ := List.getElem?_eq_some_iff.1 h2
 rw [List.take_succ_eq_append_getElem h3, h4]
def RunO (l : List Int) (w : World) (e : Ending) (w' : World) : Prop := ∃ v, e = .returned v ∧ w'.ownsRow w.heap.size 21 1 v l.length (runesV l) ∧ Below w.heap.size w w'
theorem refSg_walk (A : Option Addr) (n c : Nat) (l : List Cel) (w : World) (hl : l.length = n) (hq : Sq w w.heap.size 3 n A (flat l)) (hn : n ≤ 1000000) :
  Calls Tryz.prog 67 #[.slice A n c] w fun e w' => RunO (sg l) w e w' := by
 unfold RunO
 have hsl := sg_len l
 rw [hl] at hsl
 rw [hsl]
 obtain ⟨i0, hi, hz0, hz1, hz2⟩ := info_parts info21
 have SL := Lib.hid hsl
 have HQ := Lib.hid hq
 clear hl hsl hq
 go_enter Tryz.func67, Tryz.ntmps67
 go_wp2_with fail
 go_loopw [3, 4] (fun v y wr => ∃ i : Nat, y = .int .i64 (i : Int) ∧ i ≤ n ∧ Hid (wr.ownsRow w.heap.size 21 1 v i (runesV ((sg l).take i))) ∧ Hid (Below w.heap.size w wr)) (fun _ y _ => n - (intOf y).toNat)
 case atStart => exact ⟨0, rfl, Nat.zero_le _, Lib.hid (World.ownsRow_nil _ _ _ _), Lib.hid (Below.refl _ _)⟩
 case round =>
  obtain ⟨i, rfl, hin, OW, BR⟩ := hrel
  have hi0 : (0 : Int) ≤ (i : Int) := by omega
  by_cases hlt : i < n
  ·obtain ⟨b, off, rfl, hb, ⟨r, m, a⟩, hcc, q0, q1, q2⟩ := (HQ.out.below BR.out).three hlt
   have h1 : (i : Int) < (n : Int) := by omega
   have hw : IntKind.i64.wrap ((i : Int) + 1) = (i : Int) + 1 := IntWalk.i64_in _ (by omega)
   have NX := Lib.hid (sg_next hcc)
   obtain ⟨w2, hw2⟩ : ∃ w2, wr.alloc (.cells #[.int .i32 r] 21) = w2 := ⟨_, rfl⟩
   have b2 : Below wr.heap.size wr w2 := by rw [← hw2]; exact (Below.refl _ _).alloc (Nat.le_refl _) _
   have sq := sqO_new' wr #[.int .i32 r] 21 1 1 rfl
   rw [hw2] at sq
   have SQ := Lib.hid sq
   have O2 := Lib.hid ((Trn.ofBelow b2 fun _ => False).own OW.out (fun _ _ x => x))
   have BX := Lib.hid (BR.out.trans (b2.mono BR.out.size))
   clear sq b2 hcc hb
   go_wp2_with (refine wpl_app rfl _ _ 23 rfl w.heap.size 21 i0 (.int .i32 0) 1 4 Tryz.underlying23 hi hz0 hz1 hz2 rfl (by decide) _ i (runesV ((sg l).take i)) rfl O2.out (some ⟨wr.heap.size, 0, none⟩) 1 1 [.int .i32 r] rfl w2.heap.size SQ.out (by intro u hu; simp at hu; subst hu; rfl) (by unfold maxLen; omega) (by omega) BX.out.size ?_)
   intro v' w3 h3 h4 h5
   have O3 := Lib.hid (show w3.ownsRow w.heap.size 21 1 v' (i + 1) (runesV ((sg l).take (i + 1))) from by
    have e : runesV ((sg l).take (i + 1)) = runesV ((sg l).take i) ++ [.int .i32 r] := by
     rw [NX.out]
     unfold runesV
     rw [List.map_append]
     rfl
    rw [e]
    exact h3)
   have B3 := Lib.hid (BX.out.trans ((Trn.ofGrown h4).toBelow BX.out.size (fun k hk e => by have := (World.ownsRow.lt O2.out k e).1; omega)))
   clear h3 h4 h5 O2
   go_wp2_with fail
   go_roundw
   case rel => exact ⟨i + 1, by first | rfl | (congr 1; done) | (congr 1; omega), by omega, O3, B3⟩
   case measure => first | (simp [intOf]; done) | (simp [intOf]; omega)
  ·obtain rfl : i = n := by omega
   obtain ⟨Av, cv, rfl⟩ := own_len OW.out
   have F := Lib.hid (show wr.ownsRow w.heap.size 21 1 (.slice Av i cv) i (runesV (sg l)) from by
    have h := OW.out
    rwa [List.take_of_length_le (by rw [SL.out]; exact Nat.le_refl _)] at h)
   go_wp2_with fail
   go_ret
   exact ⟨_, rfl, F.out, BR.out⟩
theorem infoRs : (Tryz.prog.info? 23).map (fun i => (i.zero, i.size, i.bytes)) = some (some (.slice none 0 0), 1, 24) := by kernel_rfl
theorem infoHit : (Tryz.prog.info? 61).map (fun i => (i.zero, i.size, i.bytes)) = some (some (.agg #[.int .i64 0, .int .i64 0, .int .i64 0]), 3, 24) := by kernel_rfl
structure RLns (W : World) (B : Nat) (v : Value) (vs : List Value) (ss : List (List Int)) : Prop where
 own : W.ownsRow B 23 1 v ss.length vs
 each : ∀ (i : Nat) (x : Value) (l : List Int), vs[i]? = some x → ss[i]? = some l → W.ownsRow B 21 1 x l.length (runesV l)
theorem own_unlike {w : World} {b1 b2 : Nat} {e1 e2 : TypeId} {s1 s2 n1 n2 : Nat} {v1 v2 : Value} {xs1 xs2 : List Value} (h1 : w.ownsRow b1 e1 s1 v1 n1 xs1) (h2 : w.ownsRow b2 e2 s2 v2 n2 xs2) (he : e1 ≠ e2) : ∀ j, v1.ownBlock = some j → v2.ownBlock ≠ some j := by
 intro j hj hj2
 obtain ⟨c1, k1, _⟩ := own_bk h1 j hj
 obtain ⟨c2, k2, _⟩ := own_bk h2 j hj2
 exact k1.ne k2 he rfl
theorem RLns.nothing (W : World) (B : Nat) : RLns W B (.slice none 0 0) [] [] := ⟨World.ownsRow_nil _ _ _ _, fun i x l h => by simp at h⟩
theorem RLns.laid {W W' : World} {B : Nat} {v : Value} {vs : List Value} {ss : List (List Int)} (h : RLns W B v vs ss) (hb : Below W.heap.size W W') : RLns W' B v vs ss :=
 ⟨(Trn.ofBelow hb fun _ => False).own h.own (fun _ _ x => x), fun i x l hx hl => (Trn.ofBelow hb fun _ => False).own (h.each i x l hx hl) (fun _ _ x => x)⟩
theorem own_lower {w : World} {base base' : Nat} {e : TypeId} {size n : Nat} {v : Value} {xs : List Value} (h : w.ownsRow base e size v n xs) (hb : base' ≤ base) : w.ownsRow base' e size v n xs := by
 refine ⟨h.1, ?_⟩
 rcases h.2 with h | ⟨g, cap, cur, h1, h2, h3⟩
 ·exact .inl h
 ·exact .inr ⟨g, cap, cur, h1, Nat.le_trans hb h2, h3⟩
theorem RLns.snoc {W W' : World} {B : Nat} {v v' x : Value} {vs : List Value} {ss : List (List Int)} {l : List Int} (h : RLns W B v vs ss) (hx : W.ownsRow B 21 1 x l.length (runesV l)) (ho : W'.ownsRow B 23 1 v' (ss.length + 1) (vs ++ [x])) (hg : W.grownBy W' v.ownBlock) : RLns W' B v' (vs ++ [x]) (ss ++ [l]) := by
 have keepc : ∀ {y : Value} {m : List Int}, W.ownsRow B 21 1 y m.length (runesV m) → W'.ownsRow B 21 1 y m.length (runesV m) := fun {y m} hy =>
  (Trn.ofGrown hg).own hy fun k hk e => own_unlike hy h.own (by decide) k hk e
 have hlen : vs.length = ss.length := by have := h.own.1; omega
 refine ⟨by rw [List.length_append, List.length_singleton]; exact ho, fun i y m hy hm => ?_⟩
 by_cases hi : i < ss.length
 ·rw [List.getElem?_append_left (by omega)] at hy
  rw [List.getElem?_append_left hi] at hm
  exact keepc (h.each i y m hy hm)
 ·have hi2 := (List.getElem?_eq_some_iff.1 hm).1
  rw [List.length_append, List.length_singleton] at hi2
  obtain rfl : i = ss.length := by omega
  rw [List.getElem?_append_right (by omega), hlen, Nat.sub_self] at hy
  rw [List.getElem?_append_right (Nat.le_refl _), Nat.sub_self] at hm
  simp at hy hm
  subst hy hm
  exact keepc hx
structure Rat (W : World) (B : Nat) (A : Option Addr) (ss : List (List Int)) : Prop where
 each : ∀ (i : Nat) (l : List Int), ss[i]? = some l → ∃ b off A' c', A = some ⟨b, off, none⟩ ∧ b < B ∧ W.cell? ⟨b, off + i, none⟩ = some (.slice A' l.length c') ∧ Sq W B 1 l.length A' (runesV l)
 few : ∀ l ∈ ss, l.length ≤ 1000
theorem Rat.below {W W' : World} {B : Nat} {A : Option Addr} {ss : List (List Int)} (h : Rat W B A ss) (hb : Below B W W') : Rat W' B A ss :=
 ⟨fun i l hl => by
  obtain ⟨b, off, A', c', e, h1, h2, h4⟩ := h.each i l hl
  exact ⟨b, off, A', c', e, h1, (hb.cell (p := ⟨b, _, none⟩) h1).trans h2, h4.below hb⟩, h.few⟩
theorem Rat.up {W : World} {B B' : Nat} {A : Option Addr} {ss : List (List Int)} (h : Rat W B A ss) (hb : B ≤ B') : Rat W B' A ss :=
 ⟨fun i l hl => by
  obtain ⟨b, off, A', c', e, h1, h2, h4⟩ := h.each i l hl
  exact ⟨b, off, A', c', e, by omega, h2, h4.up hb⟩, h.few⟩
theorem RLns.rd {W : World} {B : Nat} {v : Value} {vs : List Value} {ss : List (List Int)} (h : RLns W B v vs ss) (hf : ∀ l ∈ ss, l.length ≤ 1000) : ∃ A c, v = .slice A ss.length c ∧ Rat W W.heap.size A ss := by
 obtain ⟨A, c, rfl⟩ := own_len h.own
 refine ⟨A, c, rfl, fun i l hl => ?_, hf⟩
 have hi := (List.getElem?_eq_some_iff.1 hl).1
 have hlen : vs.length = ss.length := by have := h.own.1; omega
 obtain ⟨x, hx⟩ : ∃ x, vs[i]? = some x := ⟨_, List.getElem?_eq_getElem (by omega)⟩
 obtain ⟨b, off, e, hb, hc⟩ := (Sq.own h.own).spot (by omega)
 have hrow := h.each i x l hx hl
 obtain ⟨A', c', rfl⟩ := own_len hrow
 exact ⟨b, off, A', c', e, hb, hc i _ hx, Sq.own hrow⟩
def rowAt (ss : List (List Int)) (i : Nat) : List Int := ss[i]?.getD []
theorem rowAt_some {ss : List (List Int)} {i : Nat} (h : i < ss.length) : ss[i]? = some (rowAt ss i) := by
 unfold rowAt
 rw [List.getElem?_eq_getElem h]
 rfl
noncomputable def gOf (t : Nd) (ss : List (List Int)) (i a : Nat) : Int := longI (rowAt ss i) t (rowAt ss i).length a
def mOf (ss : List (List Int)) (i : Nat) : Nat := (rowAt ss i).length
theorem rowAt_sg (ls : List (List Cel)) (i : Nat) : rowAt (ls.map sg) i = sg (lineAt ls i) := by
 unfold rowAt lineAt
 rw [List.getElem?_map]
 cases ls[i]? <;> rfl
theorem gOf_sg (t : Nd) (ls : List (List Cel)) : gOf t (ls.map sg) = fOf t ls := by
 funext i a
 unfold gOf fOf
 rw [rowAt_sg, sg_len]
theorem mOf_sg (ls : List (List Cel)) : mOf (ls.map sg) = nOf ls := by
 funext i
 unfold mOf nOf
 rw [rowAt_sg, sg_len]
theorem hit_one (x y z : Int) : ∀ u ∈ [Value.int .i64 x, .int .i64 y, .int .i64 z], u.oneCell' = true := by
 intro u hu
 simp at hu
 rcases hu with rfl | rfl | rfl <;> rfl
def hitsV (g : Nat → Nat → Int) (H : List (Nat × Nat)) : List Value := H.flatMap fun x => [.int .i64 (x.1 : Int), .int .i64 (x.2 : Int), .int .i64 (g x.1 x.2)]
theorem hitsV_snoc (g : Nat → Nat → Int) (H : List (Nat × Nat)) (i a : Nat) : hitsV g (H ++ [(i, a)]) = hitsV g H ++ [.int .i64 (i : Int), .int .i64 (a : Int), .int .i64 (g i a)] := by
 unfold hitsV
 rw [List.flatMap_append]
 rfl
theorem lineH_len (f : Nat → Int) (i : Nat) : ∀ (m a : Nat), (lineH f i a m).length ≤ m
 | 0, a => by rw [lineH]; exact Nat.le_refl _
 | m + 1, a => by
  have := lineH_len f i m (a + 1)
  rw [lineH]
  split
  ·rw [List.length_cons]; omega
  ·omega
theorem allH_len (f : Nat → Nat → Int) (n : Nat → Nat) (h : ∀ i, n i ≤ 1000) : ∀ (k i : Nat), (allH f n i k).length ≤ 1000 * k
 | 0, i => by rw [allH]; exact Nat.zero_le _
 | k + 1, i => by
  have h1 := allH_len f n h k (i + 1)
  have h2 := lineH_len (f i) i (n i) 0
  have h3 := h i
  rw [allH, List.length_append]
  omega
theorem mOf_le {ss : List (List Int)} (h : ∀ l ∈ ss, l.length ≤ 1000) (i : Nat) : mOf ss i ≤ 1000 := by
 unfold mOf
 by_cases hi : i < ss.length
 ·exact h _ (List.mem_of_getElem? (rowAt_some hi))
 ·unfold rowAt
  rw [List.getElem?_eq_none (by omega)]
  exact Nat.zero_le _
def HitsP (g : Nat → Nat → Int) (H : List (Nat × Nat)) (w : World) (e : Ending) (w' : World) : Prop := ∃ v, e = .returned v ∧ w'.ownsRow w.heap.size 61 3 v H.length (hitsV g H) ∧ Below w.heap.size w w'
theorem refHits_walk (t : Nd) (x : Nv) (lo : Nat) (A : Option Addr) (n c : Nat) (ss : List (List Int)) (w : World) (hct : may t = true) (hx : NdIn w lo w.heap.size t x) (hl : ss.length = n) (hn : n ≤ 1000) (h : Rat w w.heap.size A ss) :
  Calls Tryz.prog 36 #[.slice A n c, x.v] w fun e w' => HitsP (gOf t ss) (allH (gOf t ss) (mOf ss) 0 n) w e w' := by
 obtain ⟨k, Ak, nk, ck, nt, A2, n2, c2, mn, mx⟩ := x
 obtain ⟨w1, hw1, k1, b1, z1⟩ := boxed_node w k Ak nk ck nt A2 n2 c2 mn mx
 obtain ⟨g3, hg3⟩ : ∃ g, w.heap.size = g := ⟨_, rfl⟩
 rw [hg3] at k1
 have K1 := Lib.hid k1
 have B1 := Lib.hid b1
 have H1 := Lib.hid ((h.below b1).up b1.size)
 have X1 := Lib.hid (ndIn_up (Nat.le_refl _) b1.size (hx.below b1))
 have HL := Lib.hid hl
 have MY := Lib.hid hct
 have HW1 := Lib.hid hw1
 have HG3 := Lib.hid hg3
 obtain ⟨i0, hi, hz0, hz1, hz2⟩ := info_parts infoHit
 unfold HitsP
 obtain ⟨g, hg⟩ : ∃ g, gOf t ss = g := ⟨_, rfl⟩
 rw [hg]
 have HGE := Lib.hid hg
 have ML := Lib.hid (mOf_le h.few)
 clear h hx hl hct k1 b1 z1 hw1 hg3 hg
 go_enter Tryz.func36, Tryz.ntmps36
 go_upto_region 1 with fail
 rw [HG3.out]
 first
  | rw [HW1.out]
  | (change Code.wp _ _ _ _ (w.alloc (.cells #[.int .i64 k, .slice Ak nk ck, .bool nt, .slice A2 n2 c2, .int .i64 mn, .int .i64 mx] 29)); rw [HW1.out])
 go_wp2_with fail
 go_loopw [5, 6] (fun v y wr => ∃ i : Nat, y = .int .i64 (i : Int) ∧ i ≤ n ∧ Hid (wr.ownsRow w1.heap.size 61 3 v (allH g (mOf ss) 0 i).length (hitsV g (allH g (mOf ss) 0 i))) ∧ Hid (Below w1.heap.size w1 wr)) (fun _ y _ => n - (intOf y).toNat)
 case atStart => exact ⟨0, rfl, Nat.zero_le _, Lib.hid (World.ownsRow_nil _ _ _ _), Lib.hid (Below.refl _ _)⟩
 case round =>
  obtain ⟨i, rfl, hin, OW, BR⟩ := hrel
  have hi0 : (0 : Int) ≤ (i : Int) := by omega
  by_cases hlt : i < n
  ·have h1 : (i : Int) < (n : Int) := by omega
   have hw : IntKind.i64.wrap ((i : Int) + 1) = (i : Int) + 1 := IntWalk.i64_in _ (by omega)
   obtain ⟨b, off, A', c', rfl, hb, hc, hq⟩ := H1.out.each i _ (rowAt_some (by rw [HL.out]; exact hlt))
   obtain ⟨m, hm⟩ : ∃ m, (rowAt ss i).length = m := ⟨_, rfl⟩
   rw [hm] at hc hq
   have HM := Lib.hid hm
   have MM := Lib.hid (show mOf ss i = m from hm)
   have hm1000 : m ≤ 1000 := by have := ML.out i; rw [MM.out] at this; exact this
   have RC := Lib.hid (show ∀ W, Below w1.heap.size w1 W → W.cell? ⟨b, off + i, none⟩ = some (.slice A' m c') from fun W hW => (hW.cell (p := ⟨b, off + i, none⟩) hb).trans hc)
   have RA := Lib.hid (show ∀ W, Below w1.heap.size w1 W → AtAll 29 (Nv.v ⟨k, Ak, nk, ck, nt, A2, n2, c2, mn, mx⟩) A' m c' (g i) W from fun W hW => by
    have := refAtAll t ⟨k, Ak, nk, ck, nt, A2, n2, c2, mn, mx⟩ lo W MY.out (ndIn_up (Nat.le_refl _) hW.size (X1.out.below hW)) A' m c' (rowAt ss i) (by omega) hm ((hq.below hW).up hW.size)
    have e : longI (rowAt ss i) t m = g i := by rw [← HGE.out]; funext a; unfold gOf; rw [hm]
    rwa [e] at this)
   dsimp only [Nv.v] at RA
   have AL := Lib.hid (show (allH g (mOf ss) 0 i).length ≤ 1000 * i from allH_len g (mOf ss) ML.out i 0)
   have AN := Lib.hid (show allH g (mOf ss) 0 (i + 1) = allH g (mOf ss) 0 i ++ lineH (g i) i 0 m from by rw [allH_snoc, Nat.zero_add, MM.out])
   obtain ⟨H0, hH0⟩ : ∃ H0, allH g (mOf ss) 0 i = H0 := ⟨_, rfl⟩
   rw [hH0] at OW AL AN
   have O0 := Lib.hid (show wr.ownsRow w1.heap.size 61 3 u5 (H0 ++ lineH (g i) i 0 0).length (hitsV g (H0 ++ lineH (g i) i 0 0)) from by rw [lineH, List.append_nil]; exact OW.out)
   clear hb hc hq hm hH0 OW
   go_wp2_with fail
   go_loopw [5, 7] (fun v y wq => ∃ a : Nat, y = .int .i64 (a : Int) ∧ a ≤ m ∧ Hid (wq.ownsRow w1.heap.size 61 3 v (H0 ++ lineH (g i) i 0 a).length (hitsV g (H0 ++ lineH (g i) i 0 a))) ∧ Hid (Below w1.heap.size w1 wq)) (fun _ y _ => m - (intOf y).toNat)
   case atStart => exact ⟨0, rfl, Nat.zero_le _, O0, BR⟩
   case round =>
    obtain ⟨a, rfl, ham, OQ, BQ⟩ := hrel
    have ha0 : (0 : Int) ≤ (a : Int) := by omega
    have c0 := RC.out _ BQ.out
    by_cases hat : a < m
    ·have h2 : (a : Int) < (m : Int) := by omega
     have hwa : IntKind.i64.wrap ((a : Int) + 1) = (a : Int) + 1 := IntWalk.i64_in _ (by omega)
     obtain ⟨v, hv⟩ : ∃ v, g i a = v := ⟨_, rfl⟩
     have LN := Lib.hid (show lineH (g i) i 0 (a + 1) = lineH (g i) i 0 a ++ if 0 < v then [(i, a)] else [] from by rw [lineH_snoc, Nat.zero_add, hv])
     have HV := Lib.hid hv
     have HLEN := Lib.hid (show (H0 ++ lineH (g i) i 0 a).length ≤ 1002000 from by
      have h3 := lineH_len (g i) i a 0
      have h4 := AL.out
      rw [List.length_append]
      omega)
     obtain ⟨H1', hH1⟩ : ∃ H1', H0 ++ lineH (g i) i 0 a = H1' := ⟨_, rfl⟩
     have LN2 := Lib.hid (show H0 ++ lineH (g i) i 0 (a + 1) = H1' ++ if 0 < v then [(i, a)] else [] from by rw [LN.out, ← List.append_assoc, hH1])
     rw [hH1] at OQ HLEN
     clear hv hH1 LN
     go_upto_region 8 with fail
     obtain ⟨Jx, hJx, F, h0, hBn, hN'⟩ := ClsB.below wr
     have HF0 := Lib.hid h0
     have HBn := Lib.hid hBn
     have PN := Lib.hid (show ∀ q, Calls Tryz.prog 29 #[.agg #[.int .i64 k, .slice Ak nk ck, .bool nt, .slice A2 n2 c2, .int .i64 mn, .int .i64 mx], .slice A' m c', .int .i64 (a : Int)] (F q) fun e w' => e = .returned (.int .i64 v) ∧ ∃ m, w' = F m from fun q => (RA.out (F q) (BQ.out.trans ((hBn q).mono BQ.out.size)) (F q) (Below.refl _ _) a ham).mono fun e w' hh => by
      obtain ⟨he, hb⟩ := hh
      rw [HV.out] at he
      exact ⟨he, hN' q w' hb⟩)
     have KB := Lib.hid (fun q => nv_bk (show nodeBk (F q) g3 ⟨k, Ak, nk, ck, nt, A2, n2, c2, mn, mx⟩ from K1.out.below (BQ.out.trans ((hBn q).mono BQ.out.size)) K1.out.lt))
     have q0 := fun q => (KB.out q).1
     have q1 := fun q => (KB.out q).2.1
     have q2 := fun q => (KB.out q).2.2.1
     have q3 := fun q => (KB.out q).2.2.2.1
     have q4 := fun q => (KB.out q).2.2.2.2.1
     have q5 := fun q => (KB.out q).2.2.2.2.2
     have q6 := fun q => RC.out (F q) (BQ.out.trans ((hBn q).mono BQ.out.size))
     clear h0 hBn hN' c0
     refine ClsB.region F HF0.out (by kernel_rfl) (by kernel_rfl) ?_
     repeat (go_big_quiet_step (first | (go_at_call 29; exact PN.out _)))
     refine wpQuiet_nil ?_
     intro _ hw'
     obtain ⟨nq, hw''⟩ := hw'
     subst hw''
     have b5 := HBn.out nq
     have BF := Lib.hid (BQ.out.trans (b5.mono BQ.out.size))
     have O5 := Lib.hid ((Trn.ofBelow b5 fun _ => False).own OQ.out (fun _ _ x => x))
     clear b5 q0 q1 q2 q3 q4 q5 q6 PN KB HBn OQ BQ HF0
     generalize F nq = w5 at BF O5 ⊢
     by_cases hv0 : 0 < v
     ·have LN3 := Lib.hid (show H0 ++ lineH (g i) i 0 (a + 1) = H1' ++ [(i, a)] from by rw [LN2.out, if_pos hv0])
      obtain ⟨w6, hw6⟩ : ∃ w6, w5.alloc (.cells #[.int .i64 (i : Int), .int .i64 (a : Int), .int .i64 v] 61) = w6 := ⟨_, rfl⟩
      have b6 : Below w5.heap.size w5 w6 := by rw [← hw6]; exact (Below.refl _ _).alloc (Nat.le_refl _) _
      have sq := sqO_new' w5 #[.int .i64 (i : Int), .int .i64 (a : Int), .int .i64 v] 61 3 1 rfl
      rw [hw6] at sq
      have SQ := Lib.hid sq
      have O6 := Lib.hid ((Trn.ofBelow b6 fun _ => False).own O5.out (fun _ _ x => x))
      have BX := Lib.hid (BF.out.trans (b6.mono BF.out.size))
      obtain ⟨q, hq⟩ : ∃ q, H1'.length = q := ⟨_, rfl⟩
      rw [hq] at O6 HLEN
      have HQ := Lib.hid hq
      have hq' : q ≤ 1002000 := HLEN.out
      clear sq b6 hq O5
      go_wp2_with (refine wpl_app rfl _ _ 69 rfl w1.heap.size 61 i0 (.agg #[.int .i64 0, .int .i64 0, .int .i64 0]) 3 24 Tryz.underlying69 hi hz0 hz1 hz2 rfl (by decide) _ q (hitsV g H1') rfl O6.out (some ⟨w5.heap.size, 0, none⟩) 1 1 [.int .i64 (i : Int), .int .i64 (a : Int), .int .i64 v] rfl w6.heap.size SQ.out (hit_one _ _ _) (by unfold maxLen; omega) (by omega) BX.out.size ?_)
      intro v' w7 h3 h4 h5
      have O7 := Lib.hid (show w7.ownsRow w1.heap.size 61 3 v' (H0 ++ lineH (g i) i 0 (a + 1)).length (hitsV g (H0 ++ lineH (g i) i 0 (a + 1))) from by
       rw [LN3.out, List.length_append, HQ.out, hitsV_snoc, HV.out]
       exact h3)
      have B7 := Lib.hid (show Below w1.heap.size w1 w7 from BX.out.trans ((Trn.ofGrown h4).toBelow BX.out.size (fun j hj e => by have := (World.ownsRow.lt O6.out j e).1; omega)))
      clear h3 h4 h5 O6
      go_wp2_with fail
      go_roundw
      case rel => exact ⟨a + 1, by first | rfl | (congr 1; done) | (congr 1; omega), by omega, O7, B7⟩
      case measure => first | (simp [intOf]; done) | (simp [intOf]; omega)
     ·have O7 := Lib.hid (show w5.ownsRow w1.heap.size 61 3 u5 (H0 ++ lineH (g i) i 0 (a + 1)).length (hitsV g (H0 ++ lineH (g i) i 0 (a + 1))) from by
       rw [LN2.out, if_neg hv0, List.append_nil]
       exact O5.out)
      go_wp2_with fail
      go_roundw
      case rel => exact ⟨a + 1, by first | rfl | (congr 1; done) | (congr 1; omega), by omega, O7, BF⟩
      case measure => first | (simp [intOf]; done) | (simp [intOf]; omega)
    ·obtain rfl : a = m := by omega
     have O7 := Lib.hid (show wr.ownsRow w1.heap.size 61 3 u5 (allH g (mOf ss) 0 (i + 1)).length (hitsV g (allH g (mOf ss) 0 (i + 1))) from by rw [AN.out]; exact OQ.out)
     go_wp2_with fail
     go_roundw
     case rel => exact ⟨i + 1, by first | rfl | (congr 1; done) | (congr 1; omega), by omega, O7, BQ⟩
     case measure => first | (simp [intOf]; done) | (simp [intOf]; omega)
  ·obtain rfl : i = n := by omega
   go_wp2_with fail
   go_ret
   exact ⟨_, rfl, own_lower OW.out B1.out.size, B1.out.trans (BR.out.mono B1.out.size)⟩
end NF
namespace NF
noncomputable def hitS (f : Nat → Nat → Int) : Option (Nat × Nat) → Value
 | .none => .tuple #[.agg #[.int .i64 0, .int .i64 0, .int .i64 0], .bool false]
 | .some x => .tuple #[.agg #[.int .i64 (x.1 : Int), .int .i64 (x.2 : Int), .int .i64 (f x.1 x.2)], .bool true]
theorem fwd_some {f : Nat → Nat → Int} {n : Nat → Nat} {N i o k a : Nat} (h : nxt (f i) o (n i - o) = .some a) : fwd f n N i o (k + 1) = .some (i, a) := by rw [fwd, h]
theorem fwd_none {f : Nat → Nat → Int} {n : Nat → Nat} {N i o k : Nat} (h : nxt (f i) o (n i - o) = .none) : fwd f n N i o (k + 1) = fwd f n N ((i + 1) % N) 0 k := by rw [fwd, h]
theorem bwd_some {f : Nat → Nat → Int} {n : Nat → Nat} {N i b k a : Nat} (h : lst (f i) b = .some a) : bwd f n N i b (k + 1) = .some (i, a) := by rw [bwd, h]
theorem bwd_none {f : Nat → Nat → Int} {n : Nat → Nat} {N i b k : Nat} (h : lst (f i) b = .none) : bwd f n N i b (k + 1) = bwd f n N ((i + N - 1) % N) (n ((i + N - 1) % N)) k := by rw [bwd, h]
theorem tmod_nat (a b : Nat) : ((a : Int)).tmod (b : Int) = ((a % b : Nat) : Int) := rfl
noncomputable def fwdS (t : Nd) (ls : List (List Cel)) (x y : Int) : Option (Nat × Nat) :=
 if withinB ls x y then fwd (fOf t ls) (nOf ls) ls.length x.toNat (y.toNat + 1) (ls.length + 1) else fwd (fOf t ls) (nOf ls) ls.length 0 0 ls.length
noncomputable def bwdS (t : Nd) (ls : List (List Cel)) (x y : Int) : Option (Nat × Nat) :=
 if withinB ls x y then bwd (fOf t ls) (nOf ls) ls.length x.toNat (min y.toNat (nOf ls x.toNat)) (ls.length + 1) else bwd (fOf t ls) (nOf ls) ls.length (ls.length - 1) (nOf ls (ls.length - 1)) ls.length
theorem srForward_walk (t : Nd) (p : Nat) (A : Option Addr) (n c : Nat) (ls : List (List Cel)) (x y z : Int) (w : World) (hP : Prg w w.heap.size p t) (hl : ls.length = n) (hn : n ≤ 1000000) (h : Lat w w.heap.size A ls) :
  Calls Tryz.prog 32 #[.slice A n c, .pointer (some ⟨p, 0, none⟩), .agg #[.int .i64 x, .int .i64 y, .int .i64 z]] w fun e w' => e = .returned (hitS (fOf t ls) (fwdS t ls x y)) ∧ Below w.heap.size w w' := by
 obtain ⟨w1, hw1, k1, b1, z1⟩ := three_new w 58 x y z
 obtain ⟨w2, hw2, k2, b2, z2⟩ := three_new w1 61 0 0 0
 obtain ⟨g5, hg5⟩ : ∃ g, w.heap.size = g := ⟨_, rfl⟩
 obtain ⟨g6a, hg6⟩ : ∃ g, w1.heap.size = g := ⟨_, rfl⟩
 rw [hg5] at k1
 rw [hg6] at k2
 obtain rfl : g6a = g5 + 1 := by omega
 have K5 := Lib.hid (k1.below b2 k1.lt)
 have K6 := Lib.hid k2
 have B2 := Lib.hid (b1.trans (b2.mono b1.size))
 have G6 := Lib.hid (show w.heap.size ≤ g5 + 1 by omega)
 have H2 := Lib.hid ((h.below B2.out).up B2.out.size)
 have P2 := Lib.hid ((hP.below B2.out).up B2.out.size)
 have HL := Lib.hid hl
 have HW1 := Lib.hid hw1
 have HW2 := Lib.hid hw2
 have HG5 := Lib.hid hg5
 have HG6 := Lib.hid hg6
 have WW := Lib.hid (within_walk A n c ls x y z w2 hl H2.out)
 obtain ⟨R, hR⟩ : ∃ R, fwdS t ls x y = R := ⟨_, rfl⟩
 rw [hR]
 have HR := Lib.hid hR
 obtain ⟨q0, q1, q2⟩ := threeBk.get K5.out
 clear h hP k1 b1 z1 hw1 k2 b2 z2 hw2 hg5 hg6 hl hR
 go_enter Tryz.func32, Tryz.ntmps32
 go_upto_region 1 with fail
 rw [HG5.out]
 first
  | rw [HW1.out]
  | (change Code.wp _ _ _ _ ((w.alloc (.cells #[.int .i64 x, .int .i64 y, .int .i64 z] 58)).alloc _); rw [HW1.out])
 first
  | rw [HG6.out]
  | skip
 first
  | rw [HW2.out]
  | (change Code.wp _ _ _ _ (w1.alloc (.cells #[.int .i64 0, .int .i64 0, .int .i64 0] 61)); rw [HW2.out])
 have hwn : IntKind.i64.wrap ((n : Int) - 1) = (n : Int) - 1 := IntWalk.i64_in _ (by omega)
 have hwn1 : IntKind.i64.wrap ((n : Int) + 1) = (n : Int) + 1 := IntWalk.i64_in _ (by omega)
 go_wp2_with fail
 refine WW.out.mono ?_
 rintro e w3 ⟨rfl, b3⟩
 have C3 := Lib.hid b3
 clear b3 WW
 obtain ⟨wi, hwi⟩ : ∃ b, withinB ls x y = b := ⟨_, rfl⟩
 rw [hwi]
 cases wi with
 | true =>
  obtain ⟨⟨e1, e2⟩, e3, e4⟩ := withinB_iff.1 hwi
  obtain ⟨i0, rfl⟩ : ∃ i : Nat, x = (i : Int) := ⟨x.toNat, by omega⟩
  obtain ⟨o0, rfl⟩ : ∃ i : Nat, y = (i : Int) := ⟨y.toNat, by omega⟩
  rw [Int.toNat_natCast] at e4
  have hi0 : i0 < n := by have := HL.out; omega
  have ho0 : o0 ≤ 1000000 := by
   have := H2.out.few _ (List.mem_of_getElem? (lineAt_some (ls := ls) (i := i0) (by rw [HL.out]; exact hi0)))
   unfold nOf at e4
   omega
  have hwo : IntKind.i64.wrap ((o0 : Int) + 1) = (o0 : Int) + 1 := IntWalk.i64_in _ (by omega)
  have R0 := Lib.hid (show fwd (fOf t ls) (nOf ls) n i0 (o0 + 1) (n + 1) = R from by
   rw [← HR.out]
   unfold fwdS
   rw [if_pos hwi, Int.toNat_natCast, Int.toNat_natCast, HL.out])
  clear hwi e1 e2 e3 e4 q0 q1 q2
  have q0 : ∀ q, (w3.drewN q).cell? ⟨g5, 0, none⟩ = some (.int .i64 (i0 : Int)) := fun q => ((laid_drewN w3 q).cell (p := ⟨g5, 0, none⟩) (K5.out.below C3.out K5.out.lt).lt).trans (K5.out.below C3.out K5.out.lt).get.1
  have q1 : ∀ q, (w3.drewN q).cell? ⟨g5, 1, none⟩ = some (.int .i64 (o0 : Int)) := fun q => ((laid_drewN w3 q).cell (p := ⟨g5, 1, none⟩) (K5.out.below C3.out K5.out.lt).lt).trans (K5.out.below C3.out K5.out.lt).get.2.1
  go_wp2_with fail
  go_quiet (fail)
  have C4 := Lib.hid (show Below w2.heap.size w2 (w3.drewN nq) from C3.out.trans ((laid_drewN w3 nq).mono C3.out.size))
  clear q0 q1
  generalize w3.drewN nq = w4 at C4 ⊢
  go_wp2_with fail
  go_loopw [8, 9, 28] (fun a b d wr => ∃ (y8 z9 : Int) (k : Nat), a = .int .i64 y8 ∧ b = .int .i64 z9 ∧ d = .int .i64 (k : Int) ∧ k ≤ n + 1 ∧ (0 ≤ z9 ∧ z9 ≤ 9223372036854775807) ∧ Hid (k < n + 1 → ∃ i : Nat, y8 = (i : Int) ∧ i < n ∧ fwd (fOf t ls) (nOf ls) n i z9.toNat (n + 1 - k) = R) ∧ Hid (k = n + 1 → R = .none) ∧ Hid (Below w2.heap.size w2 wr)) (fun _ _ d _ => n + 1 - (intOf d).toNat)
  case atStart => exact ⟨(i0 : Int), (o0 : Int) + 1, 0, rfl, rfl, rfl, Nat.zero_le _, by omega, Lib.hid fun _ => ⟨i0, rfl, hi0, by rw [show ((o0 : Int) + 1).toNat = o0 + 1 by omega]; exact R0.out⟩, Lib.hid fun h => by omega, C4⟩
  case round =>
   obtain ⟨y8, z9, k, rfl, rfl, rfl, hk, hz9, RS, RN, BW⟩ := hrel
   have hwk : IntKind.i64.wrap ((k : Int) + 1) = (k : Int) + 1 := IntWalk.i64_in _ (by omega)
   by_cases hlt : k < n + 1
   ·obtain ⟨i, rfl, hin, hri⟩ := RS.out hlt
    have RI := Lib.hid hri
    have h1 : (k : Int) < (n : Int) + 1 := by omega
    have hi0' : (0 : Int) ≤ (i : Int) := by omega
    have hi1' : (i : Int) < (n : Int) := by omega
    obtain ⟨b, off, A', c', rfl, hb, hc, hc', hq⟩ := (H2.out.below BW.out).each i _ (lineAt_some (by rw [HL.out]; exact hin))
    have hfew := H2.out.few _ (List.mem_of_getElem? (lineAt_some (ls := ls) (i := i) (by rw [HL.out]; exact hin)))
    obtain ⟨m, hm⟩ : ∃ m, (lineAt ls i).length = m := ⟨_, rfl⟩
    rw [hm] at hc hc' hq hfew
    have HM := Lib.hid hm
    have SW := Lib.hid (srSigns_walk A' m c' (lineAt ls i) wr hm (hq.up BW.out.size) hfew)
    unfold RunP at SW
    rw [sg_len, hm] at SW
    have PW := Lib.hid ((P2.out.below BW.out).up BW.out.size)
    clear hb hq hri hm RS
    go_wp2_with fail
    refine SW.out.mono ?_
    rintro e w5 ⟨A2, c2, rfl, hq2, b5⟩
    have NX := Lib.hid (findNext_gen (longI (sg (lineAt ls i)) t m) (.pointer (some ⟨p, 0, none⟩)) A2 m c2 z9 (by omega) w5 hfew (findAtAll ((PW.out.below b5).up b5.size) A2 m c2 (sg (lineAt ls i)) hfew (by rw [sg_len]; exact HM.out) hq2))
    have BW5 := Lib.hid (BW.out.trans (b5.mono BW.out.size))
    have FE := Lib.hid (show longI (sg (lineAt ls i)) t m = fOf t ls i from by funext a; unfold fOf; rw [HM.out])
    have NE := Lib.hid (show nOf ls i = m from HM.out)
    rw [FE.out] at NX
    unfold HitP at NX
    obtain ⟨oo, hoo⟩ : ∃ oo, nxt (fOf t ls i) z9.toNat (m - z9.toNat) = oo := ⟨_, rfl⟩
    rw [hoo] at NX
    have HOO := Lib.hid hoo
    clear hq2 b5 SW hoo
    cases oo with
    | some a =>
     have RE := Lib.hid (show R = .some (i, a) from by
      rw [← RI.out, show n + 1 - k = (n + 1 - k - 1) + 1 by omega]
      exact fwd_some (by rw [NE.out]; exact HOO.out))
     obtain ⟨v, hv⟩ : ∃ v, fOf t ls i a = v := ⟨_, rfl⟩
     have HV := Lib.hid hv
     unfold hitV at NX
     dsimp only at NX
     rw [hv] at NX
     clear hv
     go_wp2_with fail
     refine NX.out.mono ?_
     rintro e w6 ⟨rfl, b6⟩
     have BW6 := Lib.hid (BW5.out.trans (b6.mono BW5.out.size))
     have K6W := Lib.hid (K6.out.below BW6.out K6.out.lt)
     have BWW := Lib.hid (B2.out.trans (BW6.out.mono B2.out.size))
     clear b6 NX
     have g6 := threeBk.get K6W.out
     have f6 := threeBk.free K6W.out
     obtain ⟨m0, m1, m2⟩ := g6
     obtain ⟨f0, f1, f2⟩ := f6
     have PN := put3_bk K6W.out (i : Int) (a : Int) v
     have M := BWW.out.trans ((put3_trn w6 (g5 + 1) (i : Int) (a : Int) v).toBelow BWW.out.size fun k hk e => by have := G6.out; omega)
     go_wp2_with fail
     change bodyPost _ _ _ _ _ (put3 w6 (g5 + 1) (i : Int) (a : Int) v)
     revert PN M
     generalize put3 w6 (g5 + 1) (i : Int) (a : Int) v = WW
     intro PN M
     obtain ⟨p0, p1, p2⟩ := threeBk.get PN
     refine bodyPost_ret (v := .tuple #[.agg #[.int .i64 (i : Int), .int .i64 (a : Int), .int .i64 v], .bool true]) (by simp [results, Tryz.results32, go_sem, p0, p1, p2] <;> rfl) rfl ?_
     exact ⟨by rw [RE.out, hitS, HV.out], M⟩
    | none =>
     have RE := Lib.hid (show R = fwd (fOf t ls) (nOf ls) n ((i + 1) % n) 0 (n + 1 - (k + 1)) from by
      rw [← RI.out, show n + 1 - k = (n + 1 - (k + 1)) + 1 by omega]
      exact fwd_none (by rw [NE.out]; exact HOO.out))
     unfold hitV at NX
     dsimp only at NX
     have hnz : ((n : Int) == 0) = false := by simp; omega
     have hnz2 : ¬ ((n : Int) = 0) := by omega
     have hw1 : IntKind.i64.wrap ((i : Int) + 1) = ((i + 1 : Nat) : Int) := by rw [IntWalk.i64_in _ (by omega)]; omega
     obtain ⟨j, hj⟩ : ∃ j, (i + 1) % n = j := ⟨_, rfl⟩
     have hjn : j < n := by rw [← hj]; exact Nat.mod_lt _ (by omega)
     have hmd : (((i + 1 : Nat) : Int)).tmod (n : Int) = (j : Int) := by rw [tmod_nat, hj]
     have hwj : IntKind.i64.wrap (j : Int) = (j : Int) := IntWalk.i64_in _ (by omega)
     rw [hj] at RE
     obtain ⟨a1, ha1⟩ : ∃ a1 : Int, ((i + 1 : Nat) : Int) = a1 := ⟨_, rfl⟩
     rw [ha1] at hw1 hmd
     clear hj ha1
     go_wp2_with fail
     refine NX.out.mono ?_
     rintro e w6 ⟨rfl, b6⟩
     have BW6 := Lib.hid (BW5.out.trans (b6.mono BW5.out.size))
     clear b6 NX
     go_wp2_with fail
     go_roundw
     case rel => exact ⟨(j : Int), 0, k + 1, rfl, rfl, by first | rfl | (congr 1; done) | (congr 1; omega), by omega, by omega, Lib.hid fun h => ⟨j, rfl, hjn, by exact RE.out.symm⟩, Lib.hid fun h => by (have := RE.out; rw [show n + 1 - (k + 1) = 0 by omega, fwd] at this; exact this), BW6⟩
     case measure => first | (simp [intOf]; done) | (simp [intOf]; omega)
   ·obtain rfl : k = n + 1 := by omega
    have RE := Lib.hid (RN.out rfl)
    have K6W := Lib.hid (K6.out.below BW.out K6.out.lt)
    have BWW := Lib.hid (B2.out.trans (BW.out.mono B2.out.size))
    clear RS RN
    have g6 := threeBk.get K6W.out
    have f6 := threeBk.free K6W.out
    obtain ⟨m0, m1, m2⟩ := g6
    obtain ⟨f0, f1, f2⟩ := f6
    have PN := put3_bk K6W.out 0 0 0
    have M := BWW.out.trans ((put3_trn wr (g5 + 1) 0 0 0).toBelow BWW.out.size fun k hk e => by have := G6.out; omega)
    go_wp2_with fail
    change bodyPost _ _ _ _ _ (put3 wr (g5 + 1) 0 0 0)
    revert PN M
    generalize put3 wr (g5 + 1) 0 0 0 = WW
    intro PN M
    obtain ⟨p0, p1, p2⟩ := threeBk.get PN
    refine bodyPost_ret (v := .tuple #[.agg #[.int .i64 0, .int .i64 0, .int .i64 0], .bool false]) (by simp [results, Tryz.results32, go_sem, p0, p1, p2] <;> rfl) rfl ?_
    exact ⟨by rw [RE.out, hitS], M⟩
 | false =>
  have R0 := Lib.hid (show fwd (fOf t ls) (nOf ls) n 0 0 n = R from by
   rw [← HR.out]
   unfold fwdS
   rw [if_neg (by rw [hwi]; decide), HL.out])
  clear hwi q0 q1 q2
  go_wp2_with fail
  go_loopw [8, 9, 28] (fun a b d wr => ∃ (y8 z9 : Int) (k : Nat), a = .int .i64 y8 ∧ b = .int .i64 z9 ∧ d = .int .i64 (k : Int) ∧ k ≤ n ∧ (0 ≤ z9 ∧ z9 ≤ 9223372036854775807) ∧ Hid (k < n → ∃ i : Nat, y8 = (i : Int) ∧ i < n ∧ fwd (fOf t ls) (nOf ls) n i z9.toNat (n - k) = R) ∧ Hid (k = n → R = .none) ∧ Hid (Below w2.heap.size w2 wr)) (fun _ _ d _ => n - (intOf d).toNat)
  case atStart => exact ⟨0, 0, 0, rfl, rfl, rfl, Nat.zero_le _, by omega, Lib.hid fun h => ⟨0, rfl, by omega, R0.out⟩, Lib.hid fun h => by have := R0.out; subst h; rw [fwd] at this; exact this.symm, C3⟩
  case round =>
   obtain ⟨y8, z9, k, rfl, rfl, rfl, hk, hz9, RS, RN, BW⟩ := hrel
   have hwk : IntKind.i64.wrap ((k : Int) + 1) = (k : Int) + 1 := IntWalk.i64_in _ (by omega)
   by_cases hlt : k < n
   ·obtain ⟨i, rfl, hin, hri⟩ := RS.out hlt
    have RI := Lib.hid hri
    have h1 : (k : Int) < (n : Int) := by omega
    have hi0' : (0 : Int) ≤ (i : Int) := by omega
    have hi1' : (i : Int) < (n : Int) := by omega
    obtain ⟨b, off, A', c', rfl, hb, hc, hc', hq⟩ := (H2.out.below BW.out).each i _ (lineAt_some (by rw [HL.out]; exact hin))
    have hfew := H2.out.few _ (List.mem_of_getElem? (lineAt_some (ls := ls) (i := i) (by rw [HL.out]; exact hin)))
    obtain ⟨m, hm⟩ : ∃ m, (lineAt ls i).length = m := ⟨_, rfl⟩
    rw [hm] at hc hc' hq hfew
    have HM := Lib.hid hm
    have SW := Lib.hid (srSigns_walk A' m c' (lineAt ls i) wr hm (hq.up BW.out.size) hfew)
    unfold RunP at SW
    rw [sg_len, hm] at SW
    have PW := Lib.hid ((P2.out.below BW.out).up BW.out.size)
    clear hb hq hri hm RS
    go_wp2_with fail
    refine SW.out.mono ?_
    rintro e w5 ⟨A2, c2, rfl, hq2, b5⟩
    have NX := Lib.hid (findNext_gen (longI (sg (lineAt ls i)) t m) (.pointer (some ⟨p, 0, none⟩)) A2 m c2 z9 (by omega) w5 hfew (findAtAll ((PW.out.below b5).up b5.size) A2 m c2 (sg (lineAt ls i)) hfew (by rw [sg_len]; exact HM.out) hq2))
    have BW5 := Lib.hid (BW.out.trans (b5.mono BW.out.size))
    have FE := Lib.hid (show longI (sg (lineAt ls i)) t m = fOf t ls i from by funext a; unfold fOf; rw [HM.out])
    have NE := Lib.hid (show nOf ls i = m from HM.out)
    rw [FE.out] at NX
    unfold HitP at NX
    obtain ⟨oo, hoo⟩ : ∃ oo, nxt (fOf t ls i) z9.toNat (m - z9.toNat) = oo := ⟨_, rfl⟩
    rw [hoo] at NX
    have HOO := Lib.hid hoo
    clear hq2 b5 SW hoo
    cases oo with
    | some a =>
     have RE := Lib.hid (show R = .some (i, a) from by
      rw [← RI.out, show n - k = (n - k - 1) + 1 by omega]
      exact fwd_some (by rw [NE.out]; exact HOO.out))
     obtain ⟨v, hv⟩ : ∃ v, fOf t ls i a = v := ⟨_, rfl⟩
     have HV := Lib.hid hv
     unfold hitV at NX
     dsimp only at NX
     rw [hv] at NX
     clear hv
     go_wp2_with fail
     refine NX.out.mono ?_
     rintro e w6 ⟨rfl, b6⟩
     have BW6 := Lib.hid (BW5.out.trans (b6.mono BW5.out.size))
     have K6W := Lib.hid (K6.out.below BW6.out K6.out.lt)
     have BWW := Lib.hid (B2.out.trans (BW6.out.mono B2.out.size))
     clear b6 NX
     have g6 := threeBk.get K6W.out
     have f6 := threeBk.free K6W.out
     obtain ⟨m0, m1, m2⟩ := g6
     obtain ⟨f0, f1, f2⟩ := f6
     have PN := put3_bk K6W.out (i : Int) (a : Int) v
     have M := BWW.out.trans ((put3_trn w6 (g5 + 1) (i : Int) (a : Int) v).toBelow BWW.out.size fun k hk e => by have := G6.out; omega)
     go_wp2_with fail
     change bodyPost _ _ _ _ _ (put3 w6 (g5 + 1) (i : Int) (a : Int) v)
     revert PN M
     generalize put3 w6 (g5 + 1) (i : Int) (a : Int) v = WW
     intro PN M
     obtain ⟨p0, p1, p2⟩ := threeBk.get PN
     refine bodyPost_ret (v := .tuple #[.agg #[.int .i64 (i : Int), .int .i64 (a : Int), .int .i64 v], .bool true]) (by simp [results, Tryz.results32, go_sem, p0, p1, p2] <;> rfl) rfl ?_
     exact ⟨by rw [RE.out, hitS, HV.out], M⟩
    | none =>
     have RE := Lib.hid (show R = fwd (fOf t ls) (nOf ls) n ((i + 1) % n) 0 (n - (k + 1)) from by
      rw [← RI.out, show n - k = (n - (k + 1)) + 1 by omega]
      exact fwd_none (by rw [NE.out]; exact HOO.out))
     unfold hitV at NX
     dsimp only at NX
     have hnz : ((n : Int) == 0) = false := by simp; omega
     have hnz2 : ¬ ((n : Int) = 0) := by omega
     have hw1 : IntKind.i64.wrap ((i : Int) + 1) = ((i + 1 : Nat) : Int) := by rw [IntWalk.i64_in _ (by omega)]; omega
     obtain ⟨j, hj⟩ : ∃ j, (i + 1) % n = j := ⟨_, rfl⟩
     have hjn : j < n := by rw [← hj]; exact Nat.mod_lt _ (by omega)
     have hmd : (((i + 1 : Nat) : Int)).tmod (n : Int) = (j : Int) := by rw [tmod_nat, hj]
     have hwj : IntKind.i64.wrap (j : Int) = (j : Int) := IntWalk.i64_in _ (by omega)
     rw [hj] at RE
     obtain ⟨a1, ha1⟩ : ∃ a1 : Int, ((i + 1 : Nat) : Int) = a1 := ⟨_, rfl⟩
     rw [ha1] at hw1 hmd
     clear hj ha1
     go_wp2_with fail
     refine NX.out.mono ?_
     rintro e w6 ⟨rfl, b6⟩
     have BW6 := Lib.hid (BW5.out.trans (b6.mono BW5.out.size))
     clear b6 NX
     go_wp2_with fail
     go_roundw
     case rel => exact ⟨(j : Int), 0, k + 1, rfl, rfl, by first | rfl | (congr 1; done) | (congr 1; omega), by omega, by omega, Lib.hid fun h => ⟨j, rfl, hjn, by exact RE.out.symm⟩, Lib.hid fun h => by (have := RE.out; rw [show n - (k + 1) = 0 by omega, fwd] at this; exact this), BW6⟩
     case measure => first | (simp [intOf]; done) | (simp [intOf]; omega)
   ·obtain rfl : k = n := by omega
    have RE := Lib.hid (RN.out rfl)
    have K6W := Lib.hid (K6.out.below BW.out K6.out.lt)
    have BWW := Lib.hid (B2.out.trans (BW.out.mono B2.out.size))
    clear RS RN
    have g6 := threeBk.get K6W.out
    have f6 := threeBk.free K6W.out
    obtain ⟨m0, m1, m2⟩ := g6
    obtain ⟨f0, f1, f2⟩ := f6
    have PN := put3_bk K6W.out 0 0 0
    have M := BWW.out.trans ((put3_trn wr (g5 + 1) 0 0 0).toBelow BWW.out.size fun k hk e => by have := G6.out; omega)
    go_wp2_with fail
    change bodyPost _ _ _ _ _ (put3 wr (g5 + 1) 0 0 0)
    revert PN M
    generalize put3 wr (g5 + 1) 0 0 0 = WW
    intro PN M
    obtain ⟨p0, p1, p2⟩ := threeBk.get PN
    refine bodyPost_ret (v := .tuple #[.agg #[.int .i64 0, .int .i64 0, .int .i64 0], .bool false]) (by simp [results, Tryz.results32, go_sem, p0, p1, p2] <;> rfl) rfl ?_
    exact ⟨by rw [RE.out, hitS], M⟩
theorem srBackward_walk (t : Nd) (p : Nat) (A : Option Addr) (n c : Nat) (ls : List (List Cel)) (x y z : Int) (w : World) (hP : Prg w w.heap.size p t) (hl : ls.length = n) (hn : n ≤ 1000000) (h : Lat w w.heap.size A ls) :
  Calls Tryz.prog 34 #[.slice A n c, .pointer (some ⟨p, 0, none⟩), .agg #[.int .i64 x, .int .i64 y, .int .i64 z]] w fun e w' => e = .returned (hitS (fOf t ls) (bwdS t ls x y)) ∧ Below w.heap.size w w' := by
 obtain ⟨w1, hw1, k1, b1, z1⟩ := three_new w 58 x y z
 obtain ⟨w2, hw2, k2, b2, z2⟩ := three_new w1 61 0 0 0
 obtain ⟨g5, hg5⟩ : ∃ g, w.heap.size = g := ⟨_, rfl⟩
 obtain ⟨g6a, hg6⟩ : ∃ g, w1.heap.size = g := ⟨_, rfl⟩
 rw [hg5] at k1
 rw [hg6] at k2
 obtain rfl : g6a = g5 + 1 := by omega
 have K5 := Lib.hid (k1.below b2 k1.lt)
 have K6 := Lib.hid k2
 have B2 := Lib.hid (b1.trans (b2.mono b1.size))
 have G6 := Lib.hid (show w.heap.size ≤ g5 + 1 by omega)
 have H2 := Lib.hid ((h.below B2.out).up B2.out.size)
 have P2 := Lib.hid ((hP.below B2.out).up B2.out.size)
 have HL := Lib.hid hl
 have HW1 := Lib.hid hw1
 have HW2 := Lib.hid hw2
 have HG5 := Lib.hid hg5
 have HG6 := Lib.hid hg6
 have WW := Lib.hid (within_walk A n c ls x y z w2 hl H2.out)
 obtain ⟨R, hR⟩ : ∃ R, bwdS t ls x y = R := ⟨_, rfl⟩
 rw [hR]
 have HR := Lib.hid hR
 obtain ⟨q0, q1, q2⟩ := threeBk.get K5.out
 clear h hP k1 b1 z1 hw1 k2 b2 z2 hw2 hg5 hg6 hl hR
 go_enter Tryz.func34, Tryz.ntmps34
 go_upto_region 1 with fail
 rw [HG5.out]
 first
  | rw [HW1.out]
  | (change Code.wp _ _ _ _ ((w.alloc (.cells #[.int .i64 x, .int .i64 y, .int .i64 z] 58)).alloc _); rw [HW1.out])
 first
  | rw [HG6.out]
  | skip
 first
  | rw [HW2.out]
  | (change Code.wp _ _ _ _ (w1.alloc (.cells #[.int .i64 0, .int .i64 0, .int .i64 0] 61)); rw [HW2.out])
 have hwn : IntKind.i64.wrap ((n : Int) - 1) = (n : Int) - 1 := IntWalk.i64_in _ (by omega)
 have hwn1 : IntKind.i64.wrap ((n : Int) + 1) = (n : Int) + 1 := IntWalk.i64_in _ (by omega)
 go_wp2_with fail
 refine WW.out.mono ?_
 rintro e w3 ⟨rfl, b3⟩
 have C3 := Lib.hid b3
 clear b3 WW
 obtain ⟨wi, hwi⟩ : ∃ b, withinB ls x y = b := ⟨_, rfl⟩
 rw [hwi]
 cases wi with
 | true =>
  obtain ⟨⟨e1, e2⟩, e3, e4⟩ := withinB_iff.1 hwi
  obtain ⟨i0, rfl⟩ : ∃ i : Nat, x = (i : Int) := ⟨x.toNat, by omega⟩
  obtain ⟨o0, rfl⟩ : ∃ i : Nat, y = (i : Int) := ⟨y.toNat, by omega⟩
  rw [Int.toNat_natCast] at e4
  have hi0 : i0 < n := by have := HL.out; omega
  have ho0 : o0 ≤ 1000000 := by
   have := H2.out.few _ (List.mem_of_getElem? (lineAt_some (ls := ls) (i := i0) (by rw [HL.out]; exact hi0)))
   unfold nOf at e4
   omega
  have hwo : IntKind.i64.wrap ((o0 : Int) + 1) = (o0 : Int) + 1 := IntWalk.i64_in _ (by omega)
  have R0 := Lib.hid (show bwd (fOf t ls) (nOf ls) n i0 (min o0 (nOf ls i0)) (n + 1) = R from by
   rw [← HR.out]
   unfold bwdS
   rw [if_pos hwi, Int.toNat_natCast, Int.toNat_natCast, HL.out])
  clear hwi e1 e2 e3 e4 q0 q1 q2
  have q0 : ∀ q, (w3.drewN q).cell? ⟨g5, 0, none⟩ = some (.int .i64 (i0 : Int)) := fun q => ((laid_drewN w3 q).cell (p := ⟨g5, 0, none⟩) (K5.out.below C3.out K5.out.lt).lt).trans (K5.out.below C3.out K5.out.lt).get.1
  have q1 : ∀ q, (w3.drewN q).cell? ⟨g5, 1, none⟩ = some (.int .i64 (o0 : Int)) := fun q => ((laid_drewN w3 q).cell (p := ⟨g5, 1, none⟩) (K5.out.below C3.out K5.out.lt).lt).trans (K5.out.below C3.out K5.out.lt).get.2.1
  go_wp2_with fail
  go_quiet (fail)
  have C4 := Lib.hid (show Below w2.heap.size w2 (w3.drewN nq) from C3.out.trans ((laid_drewN w3 nq).mono C3.out.size))
  clear q0 q1
  generalize w3.drewN nq = w4 at C4 ⊢
  go_wp2_with fail
  go_loopw [8, 9, 30] (fun a b d wr => ∃ (y8 z9 : Int) (k : Nat), a = .int .i64 y8 ∧ b = .int .i64 z9 ∧ d = .int .i64 (k : Int) ∧ k ≤ n + 1 ∧ (0 ≤ z9 ∧ z9 ≤ 9223372036854775807) ∧ Hid (k < n + 1 → ∃ i : Nat, y8 = (i : Int) ∧ i < n ∧ bwd (fOf t ls) (nOf ls) n i (min z9.toNat (nOf ls i)) (n + 1 - k) = R) ∧ Hid (k = n + 1 → R = .none) ∧ Hid (Below w2.heap.size w2 wr)) (fun _ _ d _ => n + 1 - (intOf d).toNat)
  case atStart => exact ⟨(i0 : Int), (o0 : Int), 0, rfl, rfl, rfl, Nat.zero_le _, by omega, Lib.hid fun _ => ⟨i0, rfl, hi0, by rw [Int.toNat_natCast]; exact R0.out⟩, Lib.hid fun h => by omega, C4⟩
  case round =>
   obtain ⟨y8, z9, k, rfl, rfl, rfl, hk, hz9, RS, RN, BW⟩ := hrel
   have hwk : IntKind.i64.wrap ((k : Int) + 1) = (k : Int) + 1 := IntWalk.i64_in _ (by omega)
   by_cases hlt : k < n + 1
   ·obtain ⟨i, rfl, hin, hri⟩ := RS.out hlt
    have RI := Lib.hid hri
    have h1 : (k : Int) < (n : Int) + 1 := by omega
    have hi0' : (0 : Int) ≤ (i : Int) := by omega
    have hi1' : (i : Int) < (n : Int) := by omega
    obtain ⟨b, off, A', c', rfl, hb, hc, hc', hq⟩ := (H2.out.below BW.out).each i _ (lineAt_some (by rw [HL.out]; exact hin))
    have hfew := H2.out.few _ (List.mem_of_getElem? (lineAt_some (ls := ls) (i := i) (by rw [HL.out]; exact hin)))
    obtain ⟨m, hm⟩ : ∃ m, (lineAt ls i).length = m := ⟨_, rfl⟩
    rw [hm] at hc hc' hq hfew
    have HM := Lib.hid hm
    have SW := Lib.hid (srSigns_walk A' m c' (lineAt ls i) wr hm (hq.up BW.out.size) hfew)
    unfold RunP at SW
    rw [sg_len, hm] at SW
    have PW := Lib.hid ((P2.out.below BW.out).up BW.out.size)
    clear hb hq hri hm RS
    go_wp2_with fail
    refine SW.out.mono ?_
    rintro e w5 ⟨A2, c2, rfl, hq2, b5⟩
    have NX := Lib.hid (findLast_gen (longI (sg (lineAt ls i)) t m) (.pointer (some ⟨p, 0, none⟩)) A2 m c2 z9 (by omega) w5 hfew (findAtAll ((PW.out.below b5).up b5.size) A2 m c2 (sg (lineAt ls i)) hfew (by rw [sg_len]; exact HM.out) hq2))
    have BW5 := Lib.hid (BW.out.trans (b5.mono BW.out.size))
    have FE := Lib.hid (show longI (sg (lineAt ls i)) t m = fOf t ls i from by funext a; unfold fOf; rw [HM.out])
    have NE := Lib.hid (show nOf ls i = m from HM.out)
    rw [FE.out] at NX
    unfold HitP at NX
    obtain ⟨oo, hoo⟩ : ∃ oo, lst (fOf t ls i) (min z9.toNat m) = oo := ⟨_, rfl⟩
    rw [hoo] at NX
    have HOO := Lib.hid hoo
    clear hq2 b5 SW hoo
    cases oo with
    | some a =>
     have RE := Lib.hid (show R = .some (i, a) from by
      rw [← RI.out, show n + 1 - k = (n + 1 - k - 1) + 1 by omega]
      exact bwd_some (by rw [NE.out]; exact HOO.out))
     obtain ⟨v, hv⟩ : ∃ v, fOf t ls i a = v := ⟨_, rfl⟩
     have HV := Lib.hid hv
     unfold hitV at NX
     dsimp only at NX
     rw [hv] at NX
     clear hv
     go_wp2_with fail
     refine NX.out.mono ?_
     rintro e w6 ⟨rfl, b6⟩
     have BW6 := Lib.hid (BW5.out.trans (b6.mono BW5.out.size))
     have K6W := Lib.hid (K6.out.below BW6.out K6.out.lt)
     have BWW := Lib.hid (B2.out.trans (BW6.out.mono B2.out.size))
     clear b6 NX
     have g6 := threeBk.get K6W.out
     have f6 := threeBk.free K6W.out
     obtain ⟨m0, m1, m2⟩ := g6
     obtain ⟨f0, f1, f2⟩ := f6
     have PN := put3_bk K6W.out (i : Int) (a : Int) v
     have M := BWW.out.trans ((put3_trn w6 (g5 + 1) (i : Int) (a : Int) v).toBelow BWW.out.size fun k hk e => by have := G6.out; omega)
     go_wp2_with fail
     change bodyPost _ _ _ _ _ (put3 w6 (g5 + 1) (i : Int) (a : Int) v)
     revert PN M
     generalize put3 w6 (g5 + 1) (i : Int) (a : Int) v = WW
     intro PN M
     obtain ⟨p0, p1, p2⟩ := threeBk.get PN
     refine bodyPost_ret (v := .tuple #[.agg #[.int .i64 (i : Int), .int .i64 (a : Int), .int .i64 v], .bool true]) (by simp [results, Tryz.results34, go_sem, p0, p1, p2] <;> rfl) rfl ?_
     exact ⟨by rw [RE.out, hitS, HV.out], M⟩
    | none =>
     have RE := Lib.hid (show R = bwd (fOf t ls) (nOf ls) n ((i + n - 1) % n) (nOf ls ((i + n - 1) % n)) (n + 1 - (k + 1)) from by
      rw [← RI.out, show n + 1 - k = (n + 1 - (k + 1)) + 1 by omega]
      exact bwd_none (by rw [NE.out]; exact HOO.out))
     unfold hitV at NX
     dsimp only at NX
     have hnz : ((n : Int) == 0) = false := by simp; omega
     have hnz2 : ¬ ((n : Int) = 0) := by omega
     have hw1 : IntKind.i64.wrap ((i : Int) + (n : Int)) = (i : Int) + (n : Int) := IntWalk.i64_in _ (by omega)
     have hw2 : IntKind.i64.wrap ((i : Int) + (n : Int) - 1) = ((i + n - 1 : Nat) : Int) := by rw [IntWalk.i64_in _ (by omega)]; omega
     obtain ⟨j, hj⟩ : ∃ j, (i + n - 1) % n = j := ⟨_, rfl⟩
     have hjn : j < n := by rw [← hj]; exact Nat.mod_lt _ (by omega)
     have hmd : (((i + n - 1 : Nat) : Int)).tmod (n : Int) = (j : Int) := by rw [tmod_nat, hj]
     have hwj : IntKind.i64.wrap (j : Int) = (j : Int) := IntWalk.i64_in _ (by omega)
     rw [hj] at RE
     obtain ⟨a1, ha1⟩ : ∃ a1 : Int, ((i + n - 1 : Nat) : Int) = a1 := ⟨_, rfl⟩
     rw [ha1] at hw2 hmd
     clear hj ha1
     go_wp2_with fail
     refine NX.out.mono ?_
     rintro e w6 ⟨rfl, b6⟩
     have BW6 := Lib.hid (BW5.out.trans (b6.mono BW5.out.size))
     clear b6 NX
     go_wp2_with fail
     go_roundw
     case rel => exact ⟨(j : Int), 9223372036854775807, k + 1, rfl, rfl, by first | rfl | (congr 1; done) | (congr 1; omega), by omega, by omega, Lib.hid fun h => ⟨j, rfl, hjn, by rw [Nat.min_eq_right (by have := H2.out.few _ (List.mem_of_getElem? (lineAt_some (ls := ls) (i := j) (by rw [HL.out]; exact hjn))); unfold nOf; omega)]; exact RE.out.symm⟩, Lib.hid fun h => by (have := RE.out; rw [show n + 1 - (k + 1) = 0 by omega, bwd] at this; exact this), BW6⟩
     case measure => first | (simp [intOf]; done) | (simp [intOf]; omega)
   ·obtain rfl : k = n + 1 := by omega
    have RE := Lib.hid (RN.out rfl)
    have K6W := Lib.hid (K6.out.below BW.out K6.out.lt)
    have BWW := Lib.hid (B2.out.trans (BW.out.mono B2.out.size))
    clear RS RN
    have g6 := threeBk.get K6W.out
    have f6 := threeBk.free K6W.out
    obtain ⟨m0, m1, m2⟩ := g6
    obtain ⟨f0, f1, f2⟩ := f6
    have PN := put3_bk K6W.out 0 0 0
    have M := BWW.out.trans ((put3_trn wr (g5 + 1) 0 0 0).toBelow BWW.out.size fun k hk e => by have := G6.out; omega)
    go_wp2_with fail
    change bodyPost _ _ _ _ _ (put3 wr (g5 + 1) 0 0 0)
    revert PN M
    generalize put3 wr (g5 + 1) 0 0 0 = WW
    intro PN M
    obtain ⟨p0, p1, p2⟩ := threeBk.get PN
    refine bodyPost_ret (v := .tuple #[.agg #[.int .i64 0, .int .i64 0, .int .i64 0], .bool false]) (by simp [results, Tryz.results34, go_sem, p0, p1, p2] <;> rfl) rfl ?_
    exact ⟨by rw [RE.out, hitS], M⟩
 | false =>
  have R0 := Lib.hid (show bwd (fOf t ls) (nOf ls) n (n - 1) (nOf ls (n - 1)) n = R from by
   rw [← HR.out]
   unfold bwdS
   rw [if_neg (by rw [hwi]; decide), HL.out])
  clear hwi q0 q1 q2
  go_wp2_with fail
  go_loopw [8, 9, 30] (fun a b d wr => ∃ (y8 z9 : Int) (k : Nat), a = .int .i64 y8 ∧ b = .int .i64 z9 ∧ d = .int .i64 (k : Int) ∧ k ≤ n ∧ (0 ≤ z9 ∧ z9 ≤ 9223372036854775807) ∧ Hid (k < n → ∃ i : Nat, y8 = (i : Int) ∧ i < n ∧ bwd (fOf t ls) (nOf ls) n i (min z9.toNat (nOf ls i)) (n - k) = R) ∧ Hid (k = n → R = .none) ∧ Hid (Below w2.heap.size w2 wr)) (fun _ _ d _ => n - (intOf d).toNat)
  case atStart => exact ⟨(n : Int) - 1, 9223372036854775807, 0, rfl, rfl, rfl, Nat.zero_le _, by omega, Lib.hid fun h => ⟨n - 1, by omega, by omega, by rw [Nat.min_eq_right (by have := H2.out.few _ (List.mem_of_getElem? (lineAt_some (ls := ls) (i := n - 1) (by rw [HL.out]; omega))); unfold nOf; omega)]; exact R0.out⟩, Lib.hid fun h => by have := R0.out; subst h; rw [bwd] at this; exact this.symm, C3⟩
  case round =>
   obtain ⟨y8, z9, k, rfl, rfl, rfl, hk, hz9, RS, RN, BW⟩ := hrel
   have hwk : IntKind.i64.wrap ((k : Int) + 1) = (k : Int) + 1 := IntWalk.i64_in _ (by omega)
   by_cases hlt : k < n
   ·obtain ⟨i, rfl, hin, hri⟩ := RS.out hlt
    have RI := Lib.hid hri
    have h1 : (k : Int) < (n : Int) := by omega
    have hi0' : (0 : Int) ≤ (i : Int) := by omega
    have hi1' : (i : Int) < (n : Int) := by omega
    obtain ⟨b, off, A', c', rfl, hb, hc, hc', hq⟩ := (H2.out.below BW.out).each i _ (lineAt_some (by rw [HL.out]; exact hin))
    have hfew := H2.out.few _ (List.mem_of_getElem? (lineAt_some (ls := ls) (i := i) (by rw [HL.out]; exact hin)))
    obtain ⟨m, hm⟩ : ∃ m, (lineAt ls i).length = m := ⟨_, rfl⟩
    rw [hm] at hc hc' hq hfew
    have HM := Lib.hid hm
    have SW := Lib.hid (srSigns_walk A' m c' (lineAt ls i) wr hm (hq.up BW.out.size) hfew)
    unfold RunP at SW
    rw [sg_len, hm] at SW
    have PW := Lib.hid ((P2.out.below BW.out).up BW.out.size)
    clear hb hq hri hm RS
    go_wp2_with fail
    refine SW.out.mono ?_
    rintro e w5 ⟨A2, c2, rfl, hq2, b5⟩
    have NX := Lib.hid (findLast_gen (longI (sg (lineAt ls i)) t m) (.pointer (some ⟨p, 0, none⟩)) A2 m c2 z9 (by omega) w5 hfew (findAtAll ((PW.out.below b5).up b5.size) A2 m c2 (sg (lineAt ls i)) hfew (by rw [sg_len]; exact HM.out) hq2))
    have BW5 := Lib.hid (BW.out.trans (b5.mono BW.out.size))
    have FE := Lib.hid (show longI (sg (lineAt ls i)) t m = fOf t ls i from by funext a; unfold fOf; rw [HM.out])
    have NE := Lib.hid (show nOf ls i = m from HM.out)
    rw [FE.out] at NX
    unfold HitP at NX
    obtain ⟨oo, hoo⟩ : ∃ oo, lst (fOf t ls i) (min z9.toNat m) = oo := ⟨_, rfl⟩
    rw [hoo] at NX
    have HOO := Lib.hid hoo
    clear hq2 b5 SW hoo
    cases oo with
    | some a =>
     have RE := Lib.hid (show R = .some (i, a) from by
      rw [← RI.out, show n - k = (n - k - 1) + 1 by omega]
      exact bwd_some (by rw [NE.out]; exact HOO.out))
     obtain ⟨v, hv⟩ : ∃ v, fOf t ls i a = v := ⟨_, rfl⟩
     have HV := Lib.hid hv
     unfold hitV at NX
     dsimp only at NX
     rw [hv] at NX
     clear hv
     go_wp2_with fail
     refine NX.out.mono ?_
     rintro e w6 ⟨rfl, b6⟩
     have BW6 := Lib.hid (BW5.out.trans (b6.mono BW5.out.size))
     have K6W := Lib.hid (K6.out.below BW6.out K6.out.lt)
     have BWW := Lib.hid (B2.out.trans (BW6.out.mono B2.out.size))
     clear b6 NX
     have g6 := threeBk.get K6W.out
     have f6 := threeBk.free K6W.out
     obtain ⟨m0, m1, m2⟩ := g6
     obtain ⟨f0, f1, f2⟩ := f6
     have PN := put3_bk K6W.out (i : Int) (a : Int) v
     have M := BWW.out.trans ((put3_trn w6 (g5 + 1) (i : Int) (a : Int) v).toBelow BWW.out.size fun k hk e => by have := G6.out; omega)
     go_wp2_with fail
     change bodyPost _ _ _ _ _ (put3 w6 (g5 + 1) (i : Int) (a : Int) v)
     revert PN M
     generalize put3 w6 (g5 + 1) (i : Int) (a : Int) v = WW
     intro PN M
     obtain ⟨p0, p1, p2⟩ := threeBk.get PN
     refine bodyPost_ret (v := .tuple #[.agg #[.int .i64 (i : Int), .int .i64 (a : Int), .int .i64 v], .bool true]) (by simp [results, Tryz.results34, go_sem, p0, p1, p2] <;> rfl) rfl ?_
     exact ⟨by rw [RE.out, hitS, HV.out], M⟩
    | none =>
     have RE := Lib.hid (show R = bwd (fOf t ls) (nOf ls) n ((i + n - 1) % n) (nOf ls ((i + n - 1) % n)) (n - (k + 1)) from by
      rw [← RI.out, show n - k = (n - (k + 1)) + 1 by omega]
      exact bwd_none (by rw [NE.out]; exact HOO.out))
     unfold hitV at NX
     dsimp only at NX
     have hnz : ((n : Int) == 0) = false := by simp; omega
     have hnz2 : ¬ ((n : Int) = 0) := by omega
     have hw1 : IntKind.i64.wrap ((i : Int) + (n : Int)) = (i : Int) + (n : Int) := IntWalk.i64_in _ (by omega)
     have hw2 : IntKind.i64.wrap ((i : Int) + (n : Int) - 1) = ((i + n - 1 : Nat) : Int) := by rw [IntWalk.i64_in _ (by omega)]; omega
     obtain ⟨j, hj⟩ : ∃ j, (i + n - 1) % n = j := ⟨_, rfl⟩
     have hjn : j < n := by rw [← hj]; exact Nat.mod_lt _ (by omega)
     have hmd : (((i + n - 1 : Nat) : Int)).tmod (n : Int) = (j : Int) := by rw [tmod_nat, hj]
     have hwj : IntKind.i64.wrap (j : Int) = (j : Int) := IntWalk.i64_in _ (by omega)
     rw [hj] at RE
     obtain ⟨a1, ha1⟩ : ∃ a1 : Int, ((i + n - 1 : Nat) : Int) = a1 := ⟨_, rfl⟩
     rw [ha1] at hw2 hmd
     clear hj ha1
     go_wp2_with fail
     refine NX.out.mono ?_
     rintro e w6 ⟨rfl, b6⟩
     have BW6 := Lib.hid (BW5.out.trans (b6.mono BW5.out.size))
     clear b6 NX
     go_wp2_with fail
     go_roundw
     case rel => exact ⟨(j : Int), 9223372036854775807, k + 1, rfl, rfl, by first | rfl | (congr 1; done) | (congr 1; omega), by omega, by omega, Lib.hid fun h => ⟨j, rfl, hjn, by rw [Nat.min_eq_right (by have := H2.out.few _ (List.mem_of_getElem? (lineAt_some (ls := ls) (i := j) (by rw [HL.out]; exact hjn))); unfold nOf; omega)]; exact RE.out.symm⟩, Lib.hid fun h => by (have := RE.out; rw [show n - (k + 1) = 0 by omega, bwd] at this; exact this), BW6⟩
     case measure => first | (simp [intOf]; done) | (simp [intOf]; omega)
   ·obtain rfl : k = n := by omega
    have RE := Lib.hid (RN.out rfl)
    have K6W := Lib.hid (K6.out.below BW.out K6.out.lt)
    have BWW := Lib.hid (B2.out.trans (BW.out.mono B2.out.size))
    clear RS RN
    have g6 := threeBk.get K6W.out
    have f6 := threeBk.free K6W.out
    obtain ⟨m0, m1, m2⟩ := g6
    obtain ⟨f0, f1, f2⟩ := f6
    have PN := put3_bk K6W.out 0 0 0
    have M := BWW.out.trans ((put3_trn wr (g5 + 1) 0 0 0).toBelow BWW.out.size fun k hk e => by have := G6.out; omega)
    go_wp2_with fail
    change bodyPost _ _ _ _ _ (put3 wr (g5 + 1) 0 0 0)
    revert PN M
    generalize put3 wr (g5 + 1) 0 0 0 = WW
    intro PN M
    obtain ⟨p0, p1, p2⟩ := threeBk.get PN
    refine bodyPost_ret (v := .tuple #[.agg #[.int .i64 0, .int .i64 0, .int .i64 0], .bool false]) (by simp [results, Tryz.results34, go_sem, p0, p1, p2] <;> rfl) rfl ?_
    exact ⟨by rw [RE.out, hitS], M⟩
end NF
namespace NF
theorem hit_at {W : World} {B q j i a : Nat} {A : Option Addr} {g : Nat → Nat → Int} {H : List (Nat × Nat)} (h : Sq W B 3 q A (hitsV g H)) (hj : H[j]? = some (i, a)) (hq : j < q) :
  ∃ b off, A = some ⟨b, off, none⟩ ∧ b < B ∧ W.cell? ⟨b, off + j * 3, none⟩ = some (.int .i64 (i : Int)) ∧ W.cell? ⟨b, off + j * 3 + 1, none⟩ = some (.int .i64 (a : Int)) ∧ W.cell? ⟨b, off + j * 3 + 2, none⟩ = some (.int .i64 (g i a)) := by
 obtain ⟨b, off, e, hb, hc⟩ := h.spot (by omega)
 have get := fun d u (hu : [Value.int .i64 (i : Int), .int .i64 (a : Int), .int .i64 (g i a)][d]? = some u) => hc (j * 3 + d) u (flatMap_get (fun x : Nat × Nat => [Value.int .i64 (x.1 : Int), .int .i64 (x.2 : Int), .int .i64 (g x.1 x.2)]) 3 (fun _ => rfl) H j (i, a) hj d u hu)
 exact ⟨b, off, e, hb, get 0 _ rfl, get 1 _ rfl, get 2 _ rfl⟩
theorem sl_one (A : Option Addr) (n c : Nat) : ∀ u ∈ [Value.slice A n c], u.oneCell' = true := by
 intro u hu
 simp at hu
 subst hu
 rfl
end NF
