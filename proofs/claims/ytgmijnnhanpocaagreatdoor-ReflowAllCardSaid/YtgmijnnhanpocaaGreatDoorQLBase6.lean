/-
  The reference's Join: the lines of rows. The reference's Spot: where a place among rows is in their lines. Rows in the making, of which the last one grows: what the reference's Layout has in hand.
-/
import Derived.Test.YtgmijnnhanpocaaGreatDoorQLBase5
import Derived.Test.YtgmijnnhanpocaaGreatDoorQLLine6
import Derived.Test.YtgmijnnhanpocaaGreatDoorQLLine4
import Derived.Deep.CutRange
import Derived.Test.YtgmijnnhanpocaaGreatDoorQLLine7
import Derived.IntWalk
import Derived.BigQuiet
namespace Go.Proofs.YtgmijnnhanpocaaGreatDoor
open Go.ChangeShapes Go.WideShapes Go.ChangeAt Go.RowKit
namespace Ln
open Rw
theorem groups_len {l : List LR} {x : List Cel} (h : x ∈ groups l) : x.length ≤ 300 * l.length := by
 unfold groups at h
 obtain ⟨p, hp, rfl⟩ := List.mem_map.1 h
 have hle := part_le hp
 have key : ∀ q : List LR, (q.flatMap cellsR).length ≤ 300 * q.length := by
  intro q
  induction q with
  | nil => exact Nat.zero_le _
  | cons r q ih =>
   have := cellsR_len r
   rw [List.flatMap_cons, List.length_append, List.length_cons]
   omega
 have := key p
 omega
theorem modify_set {α : Type} {L : List α} {q : Nat} {x : α} (f : α → α) (h : L[q]? = some x) : L.modify q f = L.set q (f x) := by
 refine List.ext_getElem? fun k => ?_
 rw [List.getElem?_modify, List.getElem?_set]
 by_cases hq : q = k
 ·subst hq
  have h1 := (List.getElem?_eq_some_iff.1 h).1
  rw [if_pos rfl, if_pos h1, h]
  simp
 ·simp [hq]
def Apart (vs : List Value) : Prop := ∀ (i j : Nat) (x y : Value), i ≠ j → vs[i]? = some x → vs[j]? = some y → ∀ b, x.ownBlock = some b → y.ownBlock ≠ some b
theorem Apart.snoc_nil {vs : List Value} (h : Apart vs) : Apart (vs ++ [.slice none 0 0]) := by
 intro i j x y hij hx hy b hb e
 by_cases hi : i < vs.length
 ·rw [List.getElem?_append_left hi] at hx
  by_cases hj : j < vs.length
  ·rw [List.getElem?_append_left hj] at hy
   exact h i j x y hij hx hy b hb e
  ·rw [List.getElem?_append_right (by omega)] at hy
   have : y = .slice none 0 0 := by
    have hm := List.mem_of_getElem? hy
    simpa using hm
   subst this
   cases e
 ·rw [List.getElem?_append_right (by omega)] at hx
  have : x = .slice none 0 0 := by
   have hm := List.mem_of_getElem? hx
   simpa using hm
  subst this
  cases hb
theorem Lns.replace {W : World} {B go p d i : Nat} {vs : List Value} {ls : List (List Cel)} {v : Value} {l : List Cel} (h : Lns W B (.slice (some ⟨go, 0, none⟩) p d) vs ls) (hx : HasC W B v l) : Lns (W.setCell ⟨go, i, none⟩ v) B (.slice (some ⟨go, 0, none⟩) p d) (vs.set i v) (ls.set i l) := by
 have hlen := h.len
 obtain ⟨_, _, ep, _⟩ := own_cap h.own
 injection ep with _ ep _
 subst ep
 refine ⟨by rw [List.length_set]; exact (h.own.stored i v).1, fun j x m hx' hm => ?_⟩
 have other : ∀ {y : Value} {m : List Cel}, HasC W B y m → HasC (W.setCell ⟨go, i, none⟩ v) B y m := fun {y m} hy => by
  have hh : W.ownsRow B 50 3 y m.length (flat m) := hy
  exact own_keep hh fun k hk => Below.heap_setCell _ _ _ _ (fun e => own_ne hh h.own (by decide) k hk (by rw [e]; rfl))
 rw [List.getElem?_set] at hx' hm
 by_cases hij : i = j
 ·rw [if_pos hij] at hx' hm
  split at hx'
  ·split at hm
   ·cases hx'; cases hm; exact other hx
   ·cases hm
  ·cases hx'
 ·rw [if_neg hij] at hx' hm
  exact other (h.each j x m hx' hm)
theorem Lns.grow {W w4 : World} {B go p d E m c4 : Nat} {vs : List Value} {ls : List (List Cel)} {x : Value} {l s : List Cel} {A4 : Option Addr} (h : Lns W B (.slice (some ⟨go, 0, none⟩) p d) vs ls) (ap : Apart vs) (hx : vs[E]? = some x) (_hl : ls[E]? = some l) (hm : m = (l ++ s).length)
  (ho : w4.ownsRow B 50 3 (.slice A4 m c4) m (flat (l ++ s))) (hg : W.grownBy w4 x.ownBlock) (hat : (Value.slice A4 m c4).ownBlock = x.ownBlock ∨ (Value.slice A4 m c4).ownBlock = some W.heap.size) :
  Lns (w4.setCell ⟨go, E, none⟩ (.slice A4 m c4)) B (.slice (some ⟨go, 0, none⟩) p d) (vs.set E (.slice A4 m c4)) (ls.set E (l ++ s)) ∧ Apart (vs.set E (.slice A4 m c4)) := by
 subst hm
 have hxE : HasC W B x l := h.each E x l hx _hl
 have hxo : W.ownsRow B 50 3 x l.length (flat l) := hxE
 have hlen := h.len
 obtain ⟨_, _, ep, _⟩ := own_cap h.own
 injection ep with _ ep _
 subst ep
 have hgo : go < W.heap.size := (h.own.lt go rfl).2
 have own4 : w4.ownsRow B 46 1 (.slice (some ⟨go, 0, none⟩) ls.length d) ls.length vs := own_keep h.own fun j hj => hg.block j (h.own.lt j hj).2 (fun e => own_ne h.own hxo (by decide) j hj e.symm)
 have hgb : ∀ j, (Value.slice A4 (l ++ s).length c4).ownBlock = some j → j ≠ go := fun j hj e => own_ne ho own4 (by decide) j hj (by rw [e]; rfl)
 have eA : HasC w4 B (.slice A4 (l ++ s).length c4) (l ++ s) := ho
 have key : ∀ (j : Nat) (y : Value) (k : List Cel), j ≠ E → vs[j]? = some y → ls[j]? = some k → HasC w4 B y k := fun j y k hj hy hk => by
  have hh : W.ownsRow B 50 3 y k.length (flat k) := h.each j y k hy hk
  exact own_keep hh fun b hb => hg.block b (hh.lt b hb).2 (fun e => ap j E y x hj hy hx b hb e.symm)
 have other : ∀ {y : Value} {k : List Cel}, HasC w4 B y k → HasC (w4.setCell ⟨go, E, none⟩ (.slice A4 (l ++ s).length c4)) B y k := fun {y k} hy => by
  have hh : w4.ownsRow B 50 3 y k.length (flat k) := hy
  exact own_keep hh fun b hb => Below.heap_setCell _ _ _ _ (fun e => own_ne hh own4 (by decide) b hb (by rw [e]; rfl))
 refine ⟨⟨by rw [List.length_set]; exact (own4.stored E _).1, fun j y k hy hk => ?_⟩, fun i j y z hij hy hz b hb e => ?_⟩
 ·rw [List.getElem?_set] at hy hk
  by_cases hEj : E = j
  ·rw [if_pos hEj] at hy hk
   split at hy
   ·split at hk
    ·cases hy; cases hk; exact other eA
    ·cases hk
   ·cases hy
  ·rw [if_neg hEj] at hy hk
   exact other (key j y k (fun e => hEj e.symm) hy hk)
 ·have lt : ∀ (q : Nat) (u : Value), vs[q]? = some u → ∀ t, u.ownBlock = some t → t < W.heap.size := fun q u hu t ht => by
   obtain ⟨k, hk⟩ : ∃ k, ls[q]? = some k := ⟨_, List.getElem?_eq_getElem (by have := (List.getElem?_eq_some_iff.1 hu).1; omega)⟩
   have hh : W.ownsRow B 50 3 u k.length (flat k) := h.each q u k hu hk
   exact (hh.lt t ht).2
  rw [List.getElem?_set] at hy hz
  by_cases h1 : E = i
  ·rw [if_pos h1] at hy
   by_cases h2 : E = j
   ·omega
   ·rw [if_neg h2] at hz
    split at hy
    ·cases hy
     rcases hat with h0 | h0
     ·exact ap E j x z h2 hx hz b (h0.symm.trans hb) e
     ·rw [h0] at hb
      injection hb with hb
      have := lt j z hz b e
      omega
    ·cases hy
  ·rw [if_neg h1] at hy
   by_cases h2 : E = j
   ·rw [if_pos h2] at hz
    split at hz
    ·cases hz
     rcases hat with h0 | h0
     ·exact ap i E y x (fun e => h1 e.symm) hy hx b hb (h0.symm.trans e)
     ·rw [h0] at e
      injection e with e
      have := lt i y hy b hb
      omega
    ·cases hz
   ·rw [if_neg h2] at hz
    exact ap i j y z hij hy hz b hb e
structure Jn (B : Nat) (G : List (List Cel)) (v : Value) (vs : List Value) (W : World) : Prop where
 lns : Lns W B v vs G
 ap : Apart vs
theorem groups_next_open {L : List LR} {k : Nat} {r : LR} (h : L[k]? = some r) (ho : isOpen (L.take k) = true) : groups (L.take (k + 1)) = (groups (L.take k)).modify (ends (L.take k)) (· ++ cellsR r) := by rw [take_one h]; exact (groups_on ho).1
theorem groups_next_end {L : List LR} {k : Nat} {r : LR} (h : L[k]? = some r) (ho : isOpen (L.take k) = false) : groups (L.take (k + 1)) = (groups (L.take k) ++ [[]]).modify (ends (L.take k)) (· ++ cellsR r) := by
 obtain ⟨h1, h2⟩ := groups_new (r := r) ho
 rw [take_one h, h1, ← h2, modify_last _ _ _ rfl]
 rfl
theorem trim_next {G : List (List Cel)} {i : Nat} {l : List Cel} (h : G[i]? = some l) : ((G.take i).map trimL ++ G.drop i).set i (trimL l) = (G.take (i + 1)).map trimL ++ G.drop (i + 1) := by
 have hl := (List.getElem?_eq_some_iff.1 h).1
 rw [drop_two h, List.set_append_right _ _ (by rw [List.length_map, List.length_take]; omega), take_one h, List.map_append, List.append_assoc]
 rw [List.length_map, List.length_take, Nat.min_eq_left (by omega), Nat.sub_self]
 rfl
theorem trim_get {G : List (List Cel)} {i : Nat} {l : List Cel} (h : G[i]? = some l) : ((G.take i).map trimL ++ G.drop i)[i]? = some l := by
 have hl := (List.getElem?_eq_some_iff.1 h).1
 rw [List.getElem?_append_right (by rw [List.length_map, List.length_take]; omega), List.length_map, List.length_take, Nat.min_eq_left (by omega), Nat.sub_self, List.getElem?_drop]
 exact h
set_option maxRecDepth 100000 in
set_option maxHeartbeats 12800000 in
theorem refJoin_walk (A : Option Addr) (n c : Nat) (rs : List RowIn) (w : World) (hr : Rws w w.heap.size A n rs) (hn : n ≤ 3000) :
  Calls Tryz.prog 15 #[.slice A n c] w fun e w' => LnsPost (joinL (rs.map lr)) w e w' := by
 obtain ⟨i0, hi0, hz0, hz1, hz2⟩ := info_parts infoCell
 obtain ⟨i1, hi1, hy0, hy1, hy2⟩ := info_parts infoSl
 have R := Lib.hid hr
 have OF := Lib.hid (refOf_walk A n c rs w hr (by omega))
 obtain ⟨L, hL⟩ : ∃ L, rs.map lr = L := ⟨_, rfl⟩
 have HL := Lib.hid hL
 rw [hL] at OF ⊢
 clear hr hL
 go_enter Tryz.func15, Tryz.ntmps15
 go_wp2_with fail
 refine OF.out.mono ?_
 rintro e w2 ⟨v1, v2, rfl, o1, o2, b2⟩
 obtain ⟨A4, d4, rfl, _⟩ := own_cap o1
 obtain ⟨A5, d5, rfl, _⟩ := own_cap o2
 have O1 := Lib.hid o1
 have B2 := Lib.hid b2
 have I0 := Lib.hid (Below.refl w2.heap.size w2)
 have R2 := Lib.hid ((R.out.below b2).up b2.size)
 clear o1 o2 b2 OF
 go_wp2_with fail
 go_loopw [3, 6] (fun v i wr => ∃ (k p d : Nat) (A3 : Option Addr) (vs : List Value), v = .slice A3 p d ∧ i = .int .i64 (k : Int) ∧ k ≤ n ∧ Hid (p = (groups (L.take k)).length) ∧ Hid (Below w2.heap.size w2 wr) ∧ Hid (Jn w2.heap.size (groups (L.take k)) (.slice A3 p d) vs wr)) (fun _ i _ => n - (intOf i).toNat)
 case atStart => exact ⟨0, 0, 0, none, [], rfl, rfl, Nat.zero_le _, Lib.hid rfl, I0, Lib.hid ⟨Lns.nothing _ _, fun i j x y _ h => by simp at h⟩⟩
 case round =>
  obtain ⟨k, p, d, A3, vs, rfl, rfl, hk, PG, I, JJ⟩ := hrel
  clear I0
  by_cases hlt : k < n
  ·obtain ⟨r, hr⟩ : ∃ r, rs[k]? = some r := ⟨_, List.getElem?_eq_getElem (by rw [R2.out.len]; exact hlt)⟩
   have RO := Lib.hid (R2.out.each r (List.mem_of_getElem? hr))
   obtain ⟨b0, o0, rfl, hb, q0, q1⟩ := rows_at R2.out.sq hr hlt
   have hLk : L[k]? = some (lr r) := by rw [← HL.out, List.getElem?_map, hr]; rfl
   have LK := Lib.hid hLk
   obtain ⟨g4, cg4, e4, _, hg4b, hg4, hcells⟩ := own_at O1.out (by omega)
   injection e4 with e4 _ e5
   subst e4 e5
   have lq := hcells k _ (linesV_get hlt)
   obtain ⟨E, hE⟩ : ∃ E, ends (L.take k) = E := ⟨_, rfl⟩
   rw [hE] at lq
   have HE := Lib.hid hE
   have CB := Lib.hid (show ∀ W, Below w2.heap.size w2 W → W.cell? ⟨g4, k, none⟩ = some (.int .i64 (E : Int)) ∧ W.cell? ⟨b0, o0 + k * 2, none⟩ = some (.slice r.A r.n r.c) ∧ W.cell? ⟨b0, o0 + k * 2 + 1, none⟩ = some (.bool r.wrap) from fun W hW => ⟨(hW.cell (p := ⟨g4, k, none⟩) hg4).trans lq, (hW.cell (p := ⟨b0, o0 + k * 2, none⟩) hb).trans q0, (hW.cell (p := ⟨b0, o0 + k * 2 + 1, none⟩) hb).trans q1⟩)
   have hki : (k : Int) < (n : Int) := by omega
   have hlq := (CB.out wr I.out).1
   have HB0 := Lib.hid (And.intro hg4 hb)
   clear hr q0 q1 hcells lq hLk hE hg4b hg4 hb
   go_upto_if 25 with fail
   go_cut [3] from 25 to 47 (fun u wx => ∃ (d' : Nat) (A' : Option Addr) (vs' : List Value) (G' : List (List Cel)), u = .slice A' (E + 1) d' ∧ Hid (G'.length = E + 1 ∧ groups (L.take (k + 1)) = G'.modify E (· ++ cellsR (lr r)) ∧ ∀ x ∈ G', x.length ≤ 300 * k) ∧ Hid (Below w2.heap.size w2 wx) ∧ Hid (Jn w2.heap.size G' (.slice A' (E + 1) d') vs' wx))
   case first =>
    have gl : ∀ x ∈ groups (L.take k), x.length ≤ 300 * k := fun x hx => by
     have h := groups_len hx
     rw [List.length_take] at h
     omega
    have GL := Lib.hid gl
    cases ho : isOpen (L.take k) with
    | true =>
     obtain ⟨hgn, hgl⟩ := groups_on (r := lr r) ho
     rw [HE.out] at hgl
     have hp : p = E + 1 := PG.out.trans hgl
     have GN := Lib.hid (show groups (L.take (k + 1)) = (groups (L.take k)).modify E (· ++ cellsR (lr r)) from by rw [groups_next_open LK.out ho, HE.out])
     have HGL := Lib.hid hgl
     subst hp
     have hne : ¬ (E : Int) = ((E + 1 : Nat) : Int) := by omega
     clear hgn hgl ho gl
     go_wp2_with fail
     go_meet
     case rel => exact ⟨d, A3, vs, groups (L.take k), rfl, Lib.hid ⟨HGL.out, GN.out, GL.out⟩, I, JJ⟩
    | false =>
     obtain ⟨hgn, hgl⟩ := groups_new (r := lr r) ho
     rw [HE.out] at hgl
     have hp : p = E := PG.out.trans hgl
     subst hp
     have GN := Lib.hid (show groups (L.take (k + 1)) = (groups (L.take k) ++ [[]]).modify p (· ++ cellsR (lr r)) from by rw [groups_next_end LK.out ho, HE.out])
     have HGL := Lib.hid hgl
     have JO := Lib.hid (show wr.ownsRow w2.heap.size 46 1 (.slice A3 p d) p vs from by have h := JJ.out.lns.own; rwa [hgl] at h)
     have hpk : p ≤ k := by
      have h := ends_le (L.take k)
      rw [HE.out, List.length_take] at h
      omega
     have F1 := Lib.hid (show p + 1 ≤ maxLen ∧ (p + 1) * 24 ≤ 140737488355328 from by unfold maxLen; omega)
     have IZ := Lib.hid I.out.size
     clear hgn hgl ho gl
     go_wp2_with (at_builtin; refine wpl_app rfl _ _ 23 rfl w2.heap.size 46 i1 (.slice none 0 0) 1 24 Tryz.underlying23 hi1 hy0 hy1 hy2 rfl (by decide) (.slice A3 p d) p vs rfl (JO.out.alloc _) (some ⟨wr.heap.size, 0, none⟩) 1 1 [.slice none 0 0] rfl (wr.heap.size + 1) (sq_single _ _ _) (by simp [Value.oneCell']) F1.out.1 F1.out.2 (by have := IZ.out; simp; omega) ?_; intro v4 w4 ho4 hg4 _; (obtain ⟨A', d', rfl, _⟩ := own_cap ho4); (have O4 := Lib.hid ho4); (have G4 := Lib.hid hg4); clear ho4 hg4)
     go_meet
     case rel =>
      have ba : Laid wr (wr.alloc (.cells #[.slice none 0 0] 46)) := (Below.refl _ _).alloc (Nat.le_refl _) _
      refine ⟨d', A', vs ++ [.slice none 0 0], groups (L.take k) ++ [[]], rfl, Lib.hid ⟨by rw [List.length_append, HGL.out]; rfl, GN.out, fun x hx => ?_⟩, Lib.hid ?_, Lib.hid ⟨?_, JJ.out.ap.snoc_nil⟩⟩
      ·rcases List.mem_append.1 hx with hx | hx
       ·exact GL.out x hx
       ·rw [List.mem_singleton.1 hx]; exact Nat.zero_le _
      ·exact (I.out.trans (ba.mono I.out.size)).grown G4.out (by have := IZ.out; simp; omega) (fun j e => (JO.out.lt j e).1)
      ·exact Lns.snoc (JJ.out.lns.laid ba) (World.ownsRow_nil _ _ _ _) (by rw [HGL.out]; exact O4.out) G4.out
   case rest =>
    obtain ⟨d', A', vs', G', rfl, GG, I2, J2⟩ := hcut
    clear JJ I PG hlq
    have hown := J2.out.lns.own
    rw [GG.out.1] at hown
    obtain ⟨go, cgo, ego, _, hgoB, hgo, hcells⟩ := own_at hown (by omega)
    injection ego with ego _ ego2
    subst ego ego2
    obtain ⟨go', hgo'⟩ := own_type hown go rfl
    obtain ⟨l, hl⟩ : ∃ l, G'[E]? = some l := ⟨_, List.getElem?_eq_getElem (by have := GG.out.1; omega)⟩
    obtain ⟨x, hx⟩ : ∃ x, vs'[E]? = some x := ⟨_, List.getElem?_eq_getElem (by have := J2.out.lns.len; have := GG.out.1; omega)⟩
    have hxl := J2.out.lns.each E x l hx hl
    obtain ⟨AX, cX, rfl, _⟩ := own_cap (show wc.ownsRow w2.heap.size 50 3 x l.length (flat l) from hxl)
    have xq := hcells E _ hx
    have hll := GG.out.2.2 l (List.mem_of_getElem? hl)
    obtain ⟨sL, hsL⟩ : ∃ sL, (cellsR (lr r)).length = sL := ⟨_, rfl⟩
    have hs300 : sL ≤ 300 := by rw [← hsL]; exact cellsR_len _
    have hE0 : (0 : Int) ≤ (E : Int) := by omega
    have hEp : (E : Int) < ((E + 1 : Nat) : Int) := by omega
    have hk0 : (0 : Int) ≤ (k : Int) := by omega
    have D2 : Below wc.heap.size wc wc.drew := (Below.refl _ _).drew
    obtain ⟨rA, rn, rc, rb, rl⟩ := r
    have XO := Lib.hid (show wc.ownsRow w2.heap.size 50 3 (.slice AX l.length cX) l.length (flat l) from hxl)
    have HX := Lib.hid hx
    have HLE := Lib.hid hl
    have XQ := Lib.hid xq
    have GO := Lib.hid (And.intro hgoB (And.intro hgo hgo'))
    have SL := Lib.hid hsL
    have C2 := Lib.hid (CB.out wc I2.out)
    obtain ⟨nx, hnx⟩ : ∃ nx, l.length = nx := ⟨_, rfl⟩
    have HNX := Lib.hid hnx
    have hB2 := I2.out.size
    rw [hnx] at XO XQ HX hll
    clear hown hgoB hgo hgo' hl hx hxl xq hcells hsL hnx
    go_wp2_with fail
    refine Ord.start (a := ?fr) (S := fun W => W.cell? ⟨g4, k, none⟩ = some (.int .i64 (E : Int)) ∧ W.cell? ⟨b0, o0 + k * 2, none⟩ = some (.slice rA rn rc) ∧ W.cell? ⟨b0, o0 + k * 2 + 1, none⟩ = some (.bool rb)) (n := 20) (by kernel_rfl) (by kernel_rfl) C2.out ?_
    apply jr_region (w1 := wc.drew) (Rd := fun W => W.cell? ⟨g4, k, none⟩ = some (.int .i64 (E : Int)) ∧ W.cell? ⟨b0, o0 + k * 2, none⟩ = some (.slice rA rn rc) ∧ W.cell? ⟨b0, o0 + k * 2 + 1, none⟩ = some (.bool rb)) (b0 := b0) (o0 := o0) (n := n) (c := c) (go := go) (p := E + 1) (d3 := d') (g4 := g4) (d4 := d4) (k := k) (E := E) (nx := nx) (cX := cX) (rn := rn) (rc := rc) (sL := sL) (B := w2.heap.size) (AX := AX) (rA := rA) (rb := rb) (xs := flat l) (news := flat (cellsR (rb, rl)))
     (P1 := fun W A6 c6 => Laid wc W ∧ HasC W wc.heap.size (.slice A6 sL c6) (cellsR (rb, rl))) (i0 := i0) (a0 := ?fr)
    case R => exact ⟨by kernel_rfl, by kernel_rfl⟩
    case hQ => exact fun _ _ _ _ _ h => h
    case hi => exact hi0
    case hz0 => exact hz0
    case hz1 => exact hz1
    case hz2 => exact hz2
    case hk0 => exact hk0
    case hkn => exact hki
    case hE0 => exact hE0
    case hEp => exact hEp
    case k0 => exact fun W h => h.1
    case kx => exact XQ.out
    case ka => exact fun W h => h.2.1
    case kb => exact fun W h => h.2.2
    case C1 =>
     refine (refSigns_walk rA rn rc rb rl wc.drew RO.out.signs ((RO.out.sq.below (I2.out.trans (D2.mono I2.out.size))).up hB2) (by have h1 := RO.out.le; have h2 := RO.out.cap; unfold maxLen at h2; dsimp only at h1 h2; omega)).mono ?_
     rintro e W ⟨v6, rfl, h6, b6⟩
     obtain ⟨A6, c6, rfl, _⟩ := own_cap (show W.ownsRow wc.drew.heap.size 50 3 v6 (cellsR (rb, rl)).length (flat (cellsR (rb, rl))) from h6)
     have e6 : (cellsR (rb, rl)).length = sL := SL.out
     rw [e6] at h6 ⊢
     exact ⟨A6, c6, rfl, D2.trans b6, h6⟩
    case KS1 => exact fun W A6 c6 h => CB.out W (I2.out.trans (h.1.mono I2.out.size))
    case X1 =>
     rintro W A6 c6 ⟨b6, h6⟩
     refine ⟨own_laid XO.out b6, ?_, Nat.le_trans hB2 b6.size⟩
     have h : W.ownsRow wc.heap.size 50 3 (.slice A6 sL c6) (cellsR (rb, rl)).length (flat (cellsR (rb, rl))) := h6
     rw [show (cellsR (rb, rl)).length = sL from SL.out] at h
     exact Sq.own h
    case KX => exact fun W A6 c6 h => (h.1.cell (p := ⟨go, E, none⟩) GO.out.2.1).trans XQ.out
    case KA =>
     rintro W A6 c6 W' ⟨b6, h6⟩ hg
     have ck : ∀ p : Addr, W'.heap[p.block]? = W.heap[p.block]? → W'.cell? p = W.cell? p := fun p h => by unfold World.cell?; rw [h]
     have hbz := b6.size
     have nlow : ∀ j, j < w2.heap.size → W'.heap[j]? = W.heap[j]? := fun j hj => hg.block j (by omega) (fun e => by have := (XO.out.lt j e.symm).1; omega)
     have ngo : W'.heap[go]? = W.heap[go]? := hg.block go (by have := GO.out.2.1; omega) (fun e => own_ne XO.out J2.out.lns.own (by decide) go e.symm rfl)
     obtain ⟨s0, s1, s2⟩ := CB.out W (I2.out.trans (b6.mono I2.out.size))
     refine ⟨⟨(ck ⟨g4, k, none⟩ (nlow g4 HB0.out.1)).trans s0, (ck ⟨b0, o0 + k * 2, none⟩ (nlow b0 HB0.out.2)).trans s1, (ck ⟨b0, o0 + k * 2 + 1, none⟩ (nlow b0 HB0.out.2)).trans s2⟩, ⟨_, (ck ⟨go, E, none⟩ ngo).trans ((b6.cell (p := ⟨go, E, none⟩) GO.out.2.1).trans XQ.out)⟩, ?_⟩
     exact frozen_of_row W' go E _ _ (ngo.trans ((b6.block go GO.out.2.1).trans GO.out.2.2))
    case ks =>
     rintro W v ⟨s0, s1, s2⟩
     have ck : ∀ p : Addr, p.block < w2.heap.size → (W.setCell ⟨go, E, none⟩ v).cell? p = W.cell? p := fun p h => by
      unfold World.cell?
      rw [Below.heap_setCell _ _ _ _ (by have := GO.out.1; show p.block ≠ go; omega)]
     exact ⟨(ck ⟨g4, k, none⟩ HB0.out.1).trans s0, (ck ⟨b0, o0 + k * 2, none⟩ HB0.out.2).trans s1, (ck ⟨b0, o0 + k * 2 + 1, none⟩ HB0.out.2).trans s2⟩
    case h1 => exact flat_one _
    case hm => unfold maxLen; omega
    case hm2 => omega
    case hS => exact C2.out
    case F => exact ⟨rfl, rfl, rfl, rfl, rfl, Fr.refl _ _ _⟩
    rintro a7 W A6 c6 w4 A7 c7 ⟨b6, h6⟩ hown hg hat F7
    obtain ⟨l5, hl5, ea⟩ := F7.fr.ex (by omega) (by simp)
    have hW : Below w2.heap.size w2 W := I2.out.trans (b6.mono I2.out.size)
    have hgr := Lns.grow (J2.out.lns.laid b6) J2.out.ap HX.out HLE.out (s := cellsR (rb, rl)) (m := nx + sL) (c4 := c7) (A4 := A7) (w4 := w4) (by rw [List.length_append, HNX.out]; exact congrArg (nx + ·) SL.out.symm) (by rw [flat_append]; exact hown) hg hat
    have I9 := Lib.hid (show Below w2.heap.size w2 (w4.setCell ⟨go, E, none⟩ (.slice A7 (nx + sL) c7)) from (hW.grown hg hW.size (fun j e => (XO.out.lt j e).1)).setCell (p := ⟨go, E, none⟩) GO.out.1 _)
    have GS := Lib.hid (show groups (L.take (k + 1)) = G'.set E (l ++ cellsR (rb, rl)) from by rw [GG.out.2.1]; exact modify_set _ HLE.out)
    have J9 := Lib.hid (show Jn w2.heap.size (groups (L.take (k + 1))) (.slice (some ⟨go, 0, none⟩) (E + 1) d') (vs'.set E (.slice A7 (nx + sL) c7)) (w4.setCell ⟨go, E, none⟩ (.slice A7 (nx + sL) c7)) from by rw [GS.out]; exact ⟨hgr.1, hgr.2⟩)
    have P9 := Lib.hid (show E + 1 = (groups (L.take (k + 1))).length from by rw [GS.out, List.length_set, GG.out.1])
    generalize w4.setCell ⟨go, E, none⟩ (.slice A7 (nx + sL) c7) = w9 at I9 J9 ⊢
    clear hgr hW hown hg hat b6 h6 D2 C2 XO XQ HX HLE GO I2 J2
    match l5, hl5 with
    | [v0, v1, v2, v3, v4, v5, v6, v7, v8, v9, v10, v11, v12, v13, v14, v15, v16, v17, v18], _ =>
     rw [ea]
     clear ea F7
     simp only [List.take_succ_cons, List.take_zero, List.drop_succ_cons, List.drop_zero, List.cons_append, List.nil_append]
     go_wp2_with fail
     go_roundw
     case rel => exact ⟨k + 1, E + 1, d', some ⟨go, 0, none⟩, _, by first | rfl | trivial, by go_num, by omega, P9, I9, J9⟩
     case measure => simp [intOf]; omega
  ·obtain rfl : k = n := by omega
   have hall : L.take k = L := List.take_of_length_le (by rw [← HL.out, List.length_map, R2.out.len]; exact Nat.le_refl _)
   rw [hall] at PG JJ
   have hnl : ¬ (k : Int) < (k : Int) := by omega
   have GL := Lib.hid (show ∀ x ∈ groups L, x.length ≤ 1000000 from fun x hx => by
    have h := groups_len hx
    have h3 : L.length = k := by rw [← HL.out, List.length_map, R2.out.len]
    omega)
   obtain ⟨G, hG⟩ : ∃ G, groups L = G := ⟨_, rfl⟩
   have JG := Lib.hid (show joinL L = G.map trimL from by rw [joinL_groups, hG])
   rw [hG] at PG JJ GL
   have J0 := Lib.hid (show ∃ vs, Lns wr w2.heap.size (.slice A3 p d) vs ((G.take 0).map trimL ++ G.drop 0) from ⟨vs, by simpa using JJ.out.lns⟩)
   have hpk : p ≤ 3000 := by
    have h := PG.out
    rw [← hG] at h
    have h2 : (groups L).length ≤ L.length := by unfold groups; rw [List.length_map]; exact parts_length_le L
    have h3 : L.length = k := by rw [← HL.out, List.length_map, R2.out.len]
    omega
   clear hall hG JJ
   go_wp2_with fail
   go_loopw [7] (fun i wr => ∃ k : Nat, i = .int .i64 (k : Int) ∧ k ≤ p ∧ Hid (Below w2.heap.size w2 wr) ∧ Hid (∃ vs, Lns wr w2.heap.size (.slice A3 p d) vs ((G.take k).map trimL ++ G.drop k))) (fun i _ => p - (intOf i).toNat)
   case atStart => exact ⟨0, rfl, Nat.zero_le _, I, J0⟩
   case round =>
    obtain ⟨i, rfl, hi, I3, J3⟩ := hrel
    clear J0
    by_cases hlti : i < p
    ·obtain ⟨vs3, l3⟩ := J3.out
     have hlen : ((G.take i).map trimL ++ G.drop i).length = p := by rw [List.length_append, List.length_map, List.length_take, List.length_drop]; have := PG.out; omega
     have hown := l3.own
     rw [hlen] at hown
     obtain ⟨go, cgo, ego, _, hgoB, hgo, hcells⟩ := own_at hown (by omega)
     injection ego with ego _ ego2
     subst ego ego2
     obtain ⟨cur, hcur⟩ := own_type hown go rfl
     obtain ⟨l, hl⟩ : ∃ l, G[i]? = some l := ⟨_, List.getElem?_eq_getElem (by have := PG.out; omega)⟩
     obtain ⟨x, hx⟩ : ∃ x, vs3[i]? = some x := ⟨_, List.getElem?_eq_getElem (by have := l3.len; omega)⟩
     have hxl := l3.each i x l hx (trim_get hl)
     obtain ⟨AX, cX, rfl, hcX⟩ := own_cap (show wr.ownsRow w2.heap.size 50 3 x l.length (flat l) from hxl)
     have xq := hcells i _ hx
     have TW := Lib.hid (refTrim_walk AX l.length cX hcX l wr (GL.out l (List.mem_of_getElem? hl)) (Sq.own hxl))
     have L3 := Lib.hid l3
     have HLI := Lib.hid hl
     have GO := Lib.hid (And.intro hgoB (And.intro hgo hcur))
     have hii : (i : Int) < (p : Int) := by omega
     have XQ := Lib.hid xq
     obtain ⟨nx, hnx⟩ : ∃ nx, l.length = nx := ⟨_, rfl⟩
     rw [hnx] at TW XQ xq
     clear l3 hlen hown hgoB hgo hcells hcur hl hx hxl hcX hnx J3
     go_wp2_with fail
     refine TW.out.mono ?_
     rintro e w4 ⟨v4, rfl, h4, b4⟩
     obtain ⟨Av, cv, rfl, _⟩ := own_cap (show w4.ownsRow wr.heap.size 50 3 v4 (trimL l).length (flat (trimL l)) from h4)
     have R4 := Lib.hid ((L3.out.laid b4).replace (i := i) (own_down h4 I3.out.size))
     have I4 := Lib.hid ((I3.out.trans (b4.mono I3.out.size)).setCell (p := ⟨go, i, none⟩) GO.out.1 (.slice Av (trimL l).length cv))
     have q4 : w4.cell? ⟨go, i, none⟩ = some (.slice AX nx cX) := (b4.cell (p := ⟨go, i, none⟩) GO.out.2.1).trans XQ.out
     have z4 := frozen_of_row w4 go i _ _ ((b4.block go GO.out.2.1).trans GO.out.2.2)
     have J4 := Lib.hid (show ∃ vs, Lns (w4.setCell ⟨go, i, none⟩ (.slice Av (trimL l).length cv)) w2.heap.size (.slice (some ⟨go, 0, none⟩) p d) vs ((G.take (i + 1)).map trimL ++ G.drop (i + 1)) from ⟨_, by rw [← trim_next HLI.out]; exact R4.out⟩)
     obtain ⟨nt, hnt⟩ : ∃ nt, (trimL l).length = nt := ⟨_, rfl⟩
     rw [hnt] at I4 J4 ⊢
     clear h4 b4 R4 xq hnt TW
     go_wp2_with fail
     go_roundw
     case rel => exact ⟨i + 1, by go_num, by omega, I4, J4⟩
     case measure => simp [intOf]; omega
    ·obtain rfl : i = p := by omega
     have hnp : ¬ (i : Int) < (i : Int) := by omega
     obtain ⟨vs3, l3⟩ := J3.out
     have FIN := Lib.hid (show Lns wr w2.heap.size (.slice A3 i d) vs3 (joinL L) from by
      have h := l3
      rw [List.take_of_length_le (by have := PG.out; omega), List.drop_eq_nil_of_le (by have := PG.out; omega), List.append_nil] at h
      rw [JG.out]
      exact h)
     clear l3 J3
     go_wp2
     go_ret
     exact ⟨_, vs3, rfl, FIN.out.down B2.out.size, B2.out.trans (I3.out.mono B2.out.size)⟩
end Ln
end Go.Proofs.YtgmijnnhanpocaaGreatDoor
namespace Go.Proofs.YtgmijnnhanpocaaGreatDoor
open Go.ChangeShapes Go.WideShapes Go.ChangeAt Go.RowKit
namespace Ln
open Rw
theorem col_facts (r : LR) (pc : Int) : ∃ (col : Nat) (H : Bool), (mayL r.2 = true → max 0 (min pc (r.2.length : Int)) = (col : Int)) ∧ (mayL r.2 = false → col = 0) ∧ col ≤ 300 ∧ col ≤ r.2.length ∧
  rowA r pc + (if H then 1 else 0) = ((r.2.take col).filter signC).length ∧ (H = true ↔ col < r.2.length ∧ 0 < col ∧ (cAt r.2 col).2.1 = 0) := by
 cases hm : mayL r.2 with
 | false =>
  refine ⟨0, false, (fun h => by cases h), (fun _ => rfl), by omega, by omega, ?_, ?_⟩
  ·unfold rowA
   rw [hm]
   simp
  ·simp
 | true =>
  have hl : r.2.length ≤ 300 := by
   have h := hm
   unfold mayL at h
   simp only [Bool.and_eq_true, decide_eq_true_eq] at h
   exact h.1
  have h1 := rowA_is 0 r pc
  unfold signsRow at h1
  rw [if_pos hm] at h1
  obtain ⟨h2, h3⟩ := row_count hm 0 pc
  rw [h1] at h2
  refine ⟨colN r.2 pc, halfN r.2 (colN r.2 pc), fun _ => by unfold colN; omega, (fun h => by cases h), by unfold colN; omega, by unfold colN; omega, ?_, ?_⟩
  ·cases hh : halfN r.2 (colN r.2 pc) with
   | true =>
    rw [hh] at h2 h3
    have := h3 rfl
    simp only [if_true] at h2 ⊢
    omega
   | false =>
    rw [hh] at h2
    simpa using h2.symm
  ·unfold halfN
   simp only [Bool.and_eq_true, decide_eq_true_eq, beq_iff_eq]
set_option maxRecDepth 100000 in
set_option maxHeartbeats 12800000 in
theorem refSpot_walk (A : Option Addr) (n c : Nat) (rs : List RowIn) (pr : Nat) (pc : Int) (w : World) (hr : Rws w w.heap.size A n rs) (hn : n ≤ 3000) (hlt : pr < n) :
  Calls Tryz.prog 18 #[.slice A n c, .agg #[.int .i64 (pr : Int), .int .i64 pc]] w fun e w' => e = .returned (spotV (spotN pc pr 0 (parts (rs.map lr)))) ∧ Below w.heap.size w w' := by
 obtain ⟨r, hrr⟩ : ∃ r, rs[pr]? = some r := ⟨_, List.getElem?_eq_getElem (by rw [hr.len]; exact hlt)⟩
 have RO := Lib.hid (hr.each r (List.mem_of_getElem? hrr))
 obtain ⟨S, hS⟩ : ∃ S, w.heap.size = S := ⟨_, rfl⟩
 obtain ⟨w1, hw1⟩ : ∃ w1, (w.alloc (.cells #[.int .i64 (pr : Int), .int .i64 pc] 25)).alloc (.cells #[.int .i64 0, .int .i64 0, .int .i64 0] 27) = w1 := ⟨_, rfl⟩
 have b1 : Below w.heap.size w w1 := by rw [← hw1]; exact ((Below.refl _ _).alloc (Nat.le_refl _) _).alloc (by simp) _
 have z1 : w1.heap.size = S + 2 := by rw [← hw1, ← hS]; simp
 have x0 : w1.heap[S]? = some (.cells #[.int .i64 (pr : Int), .int .i64 pc] 25 (0, 0)) := by rw [← hw1, ← hS]; exact (Below.heap_alloc _ _ _ (by simp)).trans (heap_alloc_new w _)
 have x1 : w1.heap[S + 1]? = some (.cells #[.int .i64 0, .int .i64 0, .int .i64 0] 27 (0, 0)) := by
  rw [← hw1, ← hS]
  have := heap_alloc_new (w.alloc (.cells #[.int .i64 (pr : Int), .int .i64 pc] 25)) (.cells #[.int .i64 0, .int .i64 0, .int .i64 0] 27)
  rwa [World.size_alloc] at this
 have OF := Lib.hid (refOf_walk A n c rs w1 ((hr.below b1).up b1.size) (by omega))
 have hLr : (rs.map lr)[pr]? = some (lr r) := by rw [List.getElem?_map, hrr]; rfl
 have hLn : (rs.map lr).length = n := by rw [List.length_map]; exact hr.len
 have JW := Lib.hid (fun (W : World) (hb : Below w1.heap.size w1 W) => refJoin_walk A n c rs W (((hr.below b1).below (hb.mono b1.size)).up (Nat.le_trans b1.size hb.size)) hn)
 obtain ⟨L, hL⟩ : ∃ L, rs.map lr = L := ⟨_, rfl⟩
 rw [hL] at hLr hLn OF JW
 obtain ⟨ln, hln, hsp⟩ := spot_ref pc L.length L pr 0 (lr r) (Nat.le_refl _) hLr
 have hOle : offR (L.take pr) ≤ 900000 := by
  have h := offR_le (L.take pr)
  rw [List.length_take] at h
  omega
 have JL := Lib.hid (show ∀ x ∈ joinL L, x.length ≤ 1000000 from joinL_len (by omega))
 rw [hL, hsp, Nat.zero_add]
 obtain ⟨E, hE⟩ : ∃ E, ends (L.take pr) = E := ⟨_, rfl⟩
 obtain ⟨O, hO⟩ : ∃ O, offR (L.take pr) = O := ⟨_, rfl⟩
 obtain ⟨jl, hjl⟩ : ∃ jl, ln.length = jl := ⟨_, rfl⟩
 have lq := linesV_get (L := L) hlt
 have oq := offsV_get (L := L) hlt
 rw [hE] at hln lq ⊢
 rw [hO] at hOle oq ⊢
 rw [hjl]
 have hjl2 : jl ≤ 1000000 := by rw [← hjl]; exact JL.out _ (List.mem_of_getElem? hln)
 obtain ⟨col, H, f1, f2, f3, f4, f5, f6⟩ := col_facts (lr r) pc
 obtain ⟨T, hT⟩ : ∃ T, O + rowA (lr r) pc = T := ⟨_, rfl⟩
 rw [hT]
 obtain ⟨rA, rn, rc, rb, rl⟩ := r
 have hrl : rl.length = rn := by have h := RO.out.sq.len; rw [flat_length] at h; simp only at h; omega
 change mayL rl = true → _ at f1
 change mayL rl = false → _ at f2
 change col ≤ rl.length at f4
 change _ = ((rl.take col).filter signC).length at f5
 change H = true ↔ col < rl.length ∧ 0 < col ∧ (cAt rl col).2.1 = 0 at f6
 have RSQ := Lib.hid (show Sq w w.heap.size 3 rn rA (flat rl) from RO.out.sq)
 have g1 : mayL rl = true → max 0 (min pc (rn : Int)) = (col : Int) := fun h => by have := f1 h; rw [show (lr ⟨rA, rn, rc, rb, rl⟩).2 = rl from rfl, hrl] at this; exact this
 have g4 : col ≤ rn := by rw [← hrl]; exact f4
 have g5 : T + (if H then 1 else 0) = O + ((rl.take col).filter signC).length := by
  have h : rowA (lr ⟨rA, rn, rc, rb, rl⟩) pc + (if H then 1 else 0) = ((rl.take col).filter signC).length := f5
  omega
 have g6 : H = true ↔ col < rn ∧ 0 < col ∧ (cAt rl col).2.1 = 0 := by rw [← hrl]; exact f6
 have f1H := Lib.hid g1
 have f5H := Lib.hid g5
 have f6H := Lib.hid g6
 have f2H := Lib.hid f2
 have hTc : T ≤ 900600 := by
  have h1 : ((rl.take col).filter signC).length ≤ col := Nat.le_trans (List.length_filter_le _ _) (by rw [List.length_take]; omega)
  omega
 have hCN : ∀ k, k ≤ col → ((rl.take k).filter signC).length ≤ 300 := fun k hk => Nat.le_trans (List.length_filter_le _ _) (by rw [List.length_take]; omega)
 have CN := Lib.hid hCN
 have RR := Lib.hid (fun (W : World) (hb : Below w1.heap.size w1 W) => refRow_any rA rn rc rb rl W RO.out.signs ((((RSQ.out.below b1).up b1.size).below hb).up hb.size) (by have h1 := RO.out.le; have h2 := RO.out.cap; simp only at h1 h2; unfold maxLen at h2; omega))
 obtain ⟨M, hM⟩ : ∃ M, mayL rl = M := ⟨_, rfl⟩
 rw [hM] at RR f1H f2H
 have HM := Lib.hid hM
 have MA := Lib.hid (show M = true → ∀ c ∈ rl, mayB c = true from fun h => mayL_cell (hM.trans h))
 have RQ1 := Lib.hid ((RSQ.out.below b1).up b1.size)
 have R1 := Lib.hid ((hr.below b1).up b1.size)
 have B1 := Lib.hid b1
 have X1 := Lib.hid x1
 have X0 := Lib.hid x0
 have Z1 := Lib.hid z1
 have HS := Lib.hid hS
 have HLL := Lib.hid hLn
 have HLN := Lib.hid hln
 have HJL := Lib.hid hjl
 have HRR := Lib.hid hrr
 have HRL := Lib.hid hrl
 have LQ := Lib.hid lq
 have OQ := Lib.hid oq
 have HW := Lib.hid hw1
 obtain ⟨mi, hmi⟩ : ∃ mi, min pc (rn : Int) = mi := ⟨_, rfl⟩
 obtain ⟨mx, hmx⟩ : ∃ mx, max 0 mi = mx := ⟨_, rfl⟩
 have hmx' : max mi 0 = mx := by omega
 rw [hmi, hmx] at f1H
 have c0 := cell_of_row _ _ 0 _ _ (0, 0) x0
 have c1 := cell_of_row _ _ 1 _ _ (0, 0) x0
 have hpr0 : ¬ (pr : Int) < 0 := by omega
 have hprn : (pr : Int) < (n : Int) := by omega
 clear hr hrr hS hw1 b1 z1 x0 x1 hLr hLn hL hln hsp hE hO hjl lq oq f1 f2 f4 f5 f6 g1 g5 g6 hT hrl hCN hM RO
 go_enter Tryz.func18, Tryz.ntmps18
 go_upto_region 1 with fail
 rw [HW.out, HS.out]
 go_wp2_with fail
 refine OF.out.mono ?_
 rintro e w2 ⟨v1, v2, rfl, o1, o2, b2⟩
 obtain ⟨A1, d1, rfl, _⟩ := own_cap o1
 obtain ⟨A2, d2, rfl, _⟩ := own_cap o2
 have B2 := Lib.hid b2
 have Q1 := Lib.hid (show Sq w2 w2.heap.size 1 n A1 (linesV L n) from Sq.own o1)
 have Q2 := Lib.hid (show Sq w2 w2.heap.size 1 n A2 (offsV L n) from Sq.own o2)
 obtain ⟨b, off, rfl, _, q0, q1⟩ := rows_at (R1.out.below b2).sq HRR.out hlt
 obtain ⟨b5, off5, rfl, hb5, q5⟩ := one_at Q2.out OQ.out hlt
 have d0 : w2.cell? ⟨S, 0, none⟩ = some (.int .i64 (pr : Int)) := cell_of_row w2 S 0 _ _ (0, 0) ((b2.block S (by rw [Z1.out]; omega)).trans X0.out)
 obtain ⟨w3, hw3⟩ : ∃ w3, w2.alloc (.cells #[.slice rA rn rc, .bool rb] 48) = w3 := ⟨_, rfl⟩
 obtain ⟨G, hG⟩ : ∃ G, w2.heap.size = G := ⟨_, rfl⟩
 have b3 : Below w1.heap.size w1 w3 := by rw [← hw3]; exact b2.alloc b2.size _
 have x3 : w3.heap[G]? = some (.cells #[.slice rA rn rc, .bool rb] 48 (0, 0)) := by rw [← hw3, ← hG]; exact heap_alloc_new w2 _
 have HW3 := Lib.hid hw3
 have HG := Lib.hid hG
 clear o1 o2 b2 hw3 hG OF c0 c1
 go_upto_region 5 with fail
 rw [HW3.out, HG.out]
 have l23 : Laid w2 w3 := by rw [← HW3.out]; exact (Below.refl _ _).alloc (Nat.le_refl _) _
 have y5 : w3.cell? ⟨b5, off5 + pr, none⟩ = some (.int .i64 (O : Int)) := (l23.cell (p := ⟨b5, off5 + pr, none⟩) hb5).trans q5
 have X03 := Lib.hid ((b3.block S (by rw [Z1.out]; omega)).trans X0.out)
 have X3 := Lib.hid x3
 have B3 := Lib.hid b3
 have e0 : w3.cell? ⟨S, 0, none⟩ = some (.int .i64 (pr : Int)) := cell_of_row w3 S 0 _ _ (0, 0) X03.out
 have e1 : w3.cell? ⟨S, 1, none⟩ = some (.int .i64 pc) := cell_of_row w3 S 1 _ _ (0, 0) X03.out
 have e2 : w3.cell? ⟨G, 0, none⟩ = some (.slice rA rn rc) := cell_of_row w3 G 0 _ _ (0, 0) x3
 have e3 : w3.cell? ⟨G, 1, none⟩ = some (.bool rb) := cell_of_row w3 G 1 _ _ (0, 0) x3
 have R3 := Lib.hid (RR.out w3 b3)
 have Q13 := Lib.hid ((Q1.out.below l23).up l23.size)
 clear q0 q1 q5 d0 x3 b3 l23 hb5
 go_wp2_with fail
 refine R3.out.mono ?_
 rintro e w4 ⟨rfl, b4⟩
 have B4 := Lib.hid b4
 clear e0 e1 e2 e3 y5 b4
 go_upto_if 49 with fail
 go_cut [9] from 50 (fun s9 wx => s9 = .int .i64 (col : Int) ∧ Hid (Below w3.heap.size w3 wx))
 case first =>
  cases M with
  | true =>
   have hc := Lib.hid (f1H.out rfl)
   go_wp2_with fail
   go_meet
   case rel => exact ⟨by rw [hc.out], B4⟩
  | false =>
   have hc := Lib.hid (f2H.out rfl)
   go_wp2_with fail
   go_meet
   case rel => exact ⟨by rw [hc.out]; rfl, B4⟩
 case rest =>
 obtain ⟨rfl, I4⟩ := hcut
 clear hmi hmx hmx' R3 B4
 have N0 := Lib.hid (show O = O + ((rl.take 0).filter signC).length from by simp)
 go_wp2_with fail
 go_loopw [8, 10] (fun s8 i wr => ∃ (k N : Nat), s8 = .int .i64 (N : Int) ∧ i = .int .i64 (k : Int) ∧ k ≤ col ∧ Hid (N = O + ((rl.take k).filter signC).length) ∧ Hid (Below w3.heap.size w3 wr)) (fun _ i _ => col - (intOf i).toNat)
 case atStart => exact ⟨0, O, rfl, rfl, Nat.zero_le _, N0, I4⟩
 case round =>
  obtain ⟨k, N, rfl, rfl, hk, NO, I⟩ := hrel
  clear I4 N0
  have hN : N ≤ 901000 := by have := NO.out; have := CN.out k hk; omega
  have IB := Lib.hid (B3.out.trans (I.out.mono B3.out.size))
  have XG := (I.out.block G (Array.getElem?_eq_some_iff.1 X3.out).1).trans X3.out
  have e2 : wr.cell? ⟨G, 0, none⟩ = some (.slice rA rn rc) := cell_of_row wr G 0 _ _ (0, 0) XG
  by_cases hlt2 : k < col
  ·have hMt : M = true := by
    cases M with
    | true => rfl
    | false => have := f2H.out rfl; omega
   obtain ⟨bb, offb, rfl, hbb, ⟨r, m, a⟩, hcc, s0, s1, s2⟩ := (RQ1.out.below IB.out).three (i := k) (by omega)
   have hki : (k : Int) < (col : Int) := by omega
   have hkr : (k : Int) < (rn : Int) := by omega
   have hmay := MA.out hMt _ (List.mem_of_getElem? hcc)
   have hm3 := mayB_wide hmay
   have FN := Lib.hid (filter_next hcc)
   obtain ⟨w5, hw5⟩ : ∃ w5, wr.alloc (.cells #[.int .i32 r, .int .i64 m, .int .i64 a] 50) = w5 := ⟨_, rfl⟩
   have HW5 := Lib.hid hw5
   have x5 : w5.heap[wr.heap.size]? = some (.cells #[.int .i32 r, .int .i64 m, .int .i64 a] 50 (0, 0)) := by rw [← hw5]; exact heap_alloc_new wr _
   have I3 := Lib.hid (show Below w3.heap.size w3 w5 from by rw [← hw5]; exact I.out.alloc I.out.size _)
   obtain ⟨gc, hgc⟩ : ∃ gc, wr.heap.size = gc := ⟨_, rfl⟩
   rw [hgc] at x5
   have X5 := Lib.hid x5
   have HGC := Lib.hid hgc
   clear hw5 hmay hcc hbb x5 XG hgc hMt
   go_upto_region 13 with fail
   rw [HW5.out, HGC.out]
   clear e2 s0 s1 s2
   obtain ⟨D, hD⟩ : ∃ D, (r == 0 && m == 1 && a == 0) = D := ⟨_, rfl⟩
   have NE := fun w => neq_pad r m a w
   rw [hD] at NE
   obtain ⟨J, hJ, F, h0, hB, hN'⟩ := Cls.below w5
   have H0 := Lib.hid h0
   have HBn := Lib.hid hB
   have PDN := Lib.hid (show ∀ n, Calls Tryz.prog 33 #[] (F n) fun e w' => e = .returned (cellV 0 1 0) ∧ ∃ m, w' = F m from fun n => (refPad_walk (F n)).mono fun e w' ⟨he, hb⟩ => ⟨he, hN' n w' hb⟩)
   have XF := Lib.hid (show ∀ n, (F n).heap[gc]? = some (.cells #[.int .i32 r, .int .i64 m, .int .i64 a] 50 (0, 0)) from fun n => ((hB n).block gc (Array.getElem?_eq_some_iff.1 X5.out).1).trans X5.out)
   have k0 : ∀ n, (F n).cell? ⟨gc, 0, none⟩ = some (.int .i32 r) := fun n => cell_of_row _ _ 0 _ _ (0, 0) (XF.out n)
   have k1 : ∀ n, (F n).cell? ⟨gc, 1, none⟩ = some (.int .i64 m) := fun n => cell_of_row _ _ 1 _ _ (0, 0) (XF.out n)
   have k2 : ∀ n, (F n).cell? ⟨gc, 2, none⟩ = some (.int .i64 a) := fun n => cell_of_row _ _ 2 _ _ (0, 0) (XF.out n)
   have HD := Lib.hid hD
   clear h0 hB hN' hD
   by_cases hm0 : m = 0
   ·have hgt : ¬ (0 : Int) < m := by omega
    have hgd : decide ((0 : Int) < m) = false := by simp [hgt]
    have NS := Lib.hid (show N = O + ((rl.take (k + 1)).filter signC).length from by
     rw [FN.out, show signC (r, m, a) = false by subst hm0; simp [signC]]
     simp
     exact NO.out)
    clear hm3
    refine Cls.region F H0.out (by kernel_rfl) (by kernel_rfl) ?_
    repeat (go_big_quiet_step ((go_at_call 33; exact PDN.out _)))
    refine wpQuiet_nil ?_
    intro _ hw'
    obtain ⟨nq, hw''⟩ := hw'
    subst hw''
    have IQ := Lib.hid (I3.out.trans ((HBn.out nq).mono I3.out.size))
    clear k0 k1 k2 NE hm0
    go_wp2
    go_roundw
    case rel => exact ⟨k + 1, N, by go_num, by go_num, by omega, NS, IQ⟩
    case measure => simp [intOf]; omega
   ·have hgt : (0 : Int) < m := by omega
    have hgd : decide ((0 : Int) < m) = true := by simp [hgt]
    have hmz : (m == 0) = false := by simp [hm0]
    cases D with
    | true =>
     have NS := Lib.hid (show N = O + ((rl.take (k + 1)).filter signC).length from by
      rw [FN.out, show signC (r, m, a) = false by unfold signC padC isB; simp only; rw [HD.out]; simp]
      simp
      exact NO.out)
     clear hm3
     refine Cls.region F H0.out (by kernel_rfl) (by kernel_rfl) ?_
     repeat (go_big_quiet_step ((go_at_call 33; exact PDN.out _)))
     refine wpQuiet_nil ?_
     intro _ hw'
     obtain ⟨nq, hw''⟩ := hw'
     subst hw''
     have IQ := Lib.hid (I3.out.trans ((HBn.out nq).mono I3.out.size))
     clear k0 k1 k2 NE hm0
     go_wp2
     go_roundw
     case rel => exact ⟨k + 1, N, by go_num, by go_num, by omega, NS, IQ⟩
     case measure => simp [intOf]; omega
    | false =>
     have NS := Lib.hid (show N + 1 = O + ((rl.take (k + 1)).filter signC).length from by
      rw [FN.out, show signC (r, m, a) = true by unfold signC padC isB; simp only; rw [HD.out, hmz]; rfl]
      simp only [if_true, List.length_append, List.length_singleton]
      have := NO.out
      omega)
     clear hm3
     refine Cls.region F H0.out (by kernel_rfl) (by kernel_rfl) ?_
     repeat (go_big_quiet_step ((go_at_call 33; exact PDN.out _)))
     refine wpQuiet_nil ?_
     intro _ hw'
     obtain ⟨nq, hw''⟩ := hw'
     subst hw''
     have IQ := Lib.hid (I3.out.trans ((HBn.out nq).mono I3.out.size))
     clear k0 k1 k2 NE hm0
     go_wp2
     go_roundw
     case rel => exact ⟨k + 1, N + 1, by go_num, by go_num, by omega, NS, IQ⟩
     case measure => simp [intOf]; omega
  ·obtain rfl : k = col := by omega
   have hnl : ¬ (k : Int) < (k : Int) := by omega
   have NT := Lib.hid (show T + (if H then 1 else 0) = N from f5H.out.trans NO.out.symm)
   have QR := Lib.hid (RQ1.out.below IB.out)
   clear XG NO hk
   go_upto_region 15 with fail
   go_cut [87] from 70 (fun s87 wx => s87 = .bool H ∧ Hid (Below w3.heap.size w3 wx))
   case first =>
    by_cases hc1 : k < rn
    ·have hi1 : (k : Int) < (rn : Int) := by omega
     by_cases hc2 : 0 < k
     ·have hi2 : (0 : Int) < (k : Int) := by omega
      obtain ⟨bb, offb, rfl, _, ⟨r, m, a⟩, hcc, s0, s1, s2⟩ := QR.out.three hc1
      have hca := cAt_some hcc
      cases hm : (m == 0) with
      | true =>
       have HH := Lib.hid (show H = true from f6H.out.2 ⟨hc1, hc2, by rw [hca]; simpa using hm⟩)
       clear hcc hca
       go_wp2_with fail
       go_meet
       case rel => exact ⟨by rw [HH.out], I⟩
      | false =>
       have HH := Lib.hid (show H = false from by
        cases h : H with
        | false => rfl
        | true =>
         have h1 := (f6H.out.1 h).2.2
         rw [hca] at h1
         simp only at h1
         rw [h1] at hm
         cases hm)
       clear hcc hca
       go_wp2_with fail
       go_meet
       case rel => exact ⟨by rw [HH.out], I⟩
     ·have hi2 : ¬ (0 : Int) < (k : Int) := by omega
      have HH := Lib.hid (show H = false from by
       cases h : H with
       | false => rfl
       | true => exact absurd (f6H.out.1 h).2.1 hc2)
      obtain rfl : k = 0 := by omega
      go_wp2_with fail
      go_meet
      case rel => exact ⟨by rw [HH.out], I⟩
    ·have hi1 : ¬ (k : Int) < (rn : Int) := by omega
     have HH := Lib.hid (show H = false from by
      cases h : H with
      | false => rfl
      | true => exact absurd (f6H.out.1 h).1 hc1)
     go_wp2_with fail
     go_meet
     case rel => exact ⟨by rw [HH.out], I⟩
   case rest =>
   obtain ⟨rfl, I5⟩ := hcut
   clear e2 I QR
   go_upto_if 87 with fail
   go_cut [8] from 88 (fun s8 wx => s8 = .int .i64 (T : Int) ∧ Hid (Below w3.heap.size w3 wx))
   case first =>
    cases H with
    | true =>
     have hw : IntKind.i64.wrap ((N : Int) - 1) = (T : Int) := by
      have h := NT.out
      simp only [if_true] at h
      rw [show (N : Int) - 1 = (T : Int) by omega]
      exact IntWalk.i64_in _ (by omega)
     go_wp2_with fail
     go_meet
     case rel => exact ⟨rfl, I5⟩
    | false =>
     have hw := Lib.hid (show N = T from by have h := NT.out; simpa using h.symm)
     go_wp2_with fail
     go_meet
     case rel => exact ⟨by rw [hw.out], I5⟩
   case rest =>
   obtain ⟨rfl, I6⟩ := hcut
   have J6 := Lib.hid (JW.out wc (B3.out.trans (I6.out.mono B3.out.size)))
   go_wp2_with fail
   refine J6.out.mono ?_
   rintro e w7 ⟨v7, vs7, rfl, l7, b7⟩
   obtain ⟨A7, c7, rfl, _⟩ := own_cap l7.own
   have I7 := Lib.hid (show Below w3.heap.size w3 w7 from I6.out.trans (b7.mono I6.out.size))
   have L7 := Lib.hid (l7.rd JL.out).2
   have hEl : E < (joinL L).length := (List.getElem?_eq_some_iff.1 HLN.out).1
   obtain ⟨x7, hx7⟩ : ∃ x7, vs7[E]? = some x7 := ⟨_, List.getElem?_eq_getElem (by rw [l7.len]; exact hEl)⟩
   obtain ⟨Ax, nx, cx, rfl, _, hqx, _⟩ := L7.out.each E x7 ln hx7 HLN.out
   obtain rfl : jl = nx := by
    have h := hqx.len
    rw [flat_length, HJL.out] at h
    omega
   obtain ⟨b8, off8, rfl, _, y8⟩ := one_at L7.out.sq hx7 hEl
   obtain ⟨b9, off9, rfl, _, y9⟩ := one_at (Q13.out.below I7.out) LQ.out hlt
   have X07 := (I7.out.block S (Array.getElem?_eq_some_iff.1 X03.out).1).trans X03.out
   have u0 : w7.cell? ⟨S, 0, none⟩ = some (.int .i64 (pr : Int)) := cell_of_row w7 S 0 _ _ (0, 0) X07
   have X17 := Lib.hid ((I7.out.block (S + 1) (Nat.lt_of_lt_of_le (by rw [Z1.out]; omega) B3.out.size)).trans ((B3.out.block (S + 1) (by rw [Z1.out]; omega)).trans X1.out))
   have t0 : w7.cell? ⟨S + 1, 0, none⟩ = some (.int .i64 0) := cell_of_row w7 (S + 1) 0 _ _ (0, 0) X17.out
   have t1 : w7.cell? ⟨S + 1, 1, none⟩ = some (.int .i64 0) := cell_of_row w7 (S + 1) 1 _ _ (0, 0) X17.out
   have t2 : w7.cell? ⟨S + 1, 2, none⟩ = some (.int .i64 0) := cell_of_row w7 (S + 1) 2 _ _ (0, 0) X17.out
   have z0 := frozen_of_row w7 (S + 1) 0 _ _ X17.out
   have z1 := frozen_of_row w7 (S + 1) 1 _ _ X17.out
   have z2 := frozen_of_row w7 (S + 1) 2 _ _ X17.out
   have hEn : E ≤ 1000000 := by
    have h := joinL_many (rs := L)
    have h2 := HLL.out
    omega
   have hEi : (E : Int) < ((joinL L).length : Int) := by omega
   obtain ⟨m1, hm1⟩ : ∃ m1 : Nat, min (T : Int) (jl : Int) = (m1 : Int) := ⟨min T jl, by omega⟩
   obtain ⟨m2, hm2⟩ : ∃ m2 : Nat, max ((T : Int) - (jl : Int)) 0 = (m2 : Int) := ⟨T - jl, by omega⟩
   have hm2' : max 0 ((T : Int) - (jl : Int)) = (m2 : Int) := by omega
   have hsub2 : IntKind.i64.wrap ((T : Int) - (jl : Int)) = (T : Int) - (jl : Int) := IntWalk.i64_in _ (by omega)
   have SV := Lib.hid (show spotV (E, min T jl, T - jl) = spotV (E, m1, m2) from by rw [show min T jl = m1 by omega, show T - jl = m2 by omega])
   have IF := Lib.hid (B1.out.trans ((B3.out.trans (I7.out.mono B3.out.size)).mono B1.out.size))
   clear X07 b7 l7 hx7 hqx J6
   go_wp2_with fail
   have s1 := heap_setCell_same w7 (S + 1) 0 _ _ (.int .i64 (E : Int)) X17.out
   have s2 := heap_setCell_same _ (S + 1) 1 _ _ (.int .i64 (m1 : Int)) s1
   have s3 := heap_setCell_same _ (S + 1) 2 _ _ (.int .i64 (m2 : Int)) s2
   have hs2 : w.heap.size ≤ S + 1 := by rw [HS.out]; omega
   have B9 := Lib.hid (((IF.out.setCell (p := ⟨S + 1, 0, none⟩) hs2 (.int .i64 (E : Int))).setCell (p := ⟨S + 1, 1, none⟩) hs2 (.int .i64 (m1 : Int))).setCell (p := ⟨S + 1, 2, none⟩) hs2 (.int .i64 (m2 : Int)))
   generalize ((w7.setCell ⟨S + 1, 0, none⟩ (.int .i64 (E : Int))).setCell ⟨S + 1, 1, none⟩ (.int .i64 (m1 : Int))).setCell ⟨S + 1, 2, none⟩ (.int .i64 (m2 : Int)) = w9 at s3 B9 ⊢
   have r0 : w9.cell? ⟨S + 1, 0, none⟩ = some (.int .i64 (E : Int)) := cell_of_row _ _ 0 _ _ (0, 0) (by simpa using s3)
   have r1 : w9.cell? ⟨S + 1, 1, none⟩ = some (.int .i64 (m1 : Int)) := cell_of_row _ _ 1 _ _ (0, 0) (by simpa using s3)
   have r2 : w9.cell? ⟨S + 1, 2, none⟩ = some (.int .i64 (m2 : Int)) := cell_of_row _ _ 2 _ _ (0, 0) (by simpa using s3)
   refine bodyPost_ret (v := spotV (E, m1, m2)) (by simp [results, Tryz.results18, go_sem, r0, r1, r2, spotV]) rfl ?_
   exact ⟨by rw [SV.out], B9.out⟩
end Ln
end Go.Proofs.YtgmijnnhanpocaaGreatDoor
namespace Go.Proofs.YtgmijnnhanpocaaGreatDoor
open Go.ChangeShapes Go.WideShapes Go.ChangeAt Go.RowKit
namespace Ln
open Rw
def RowIn.cv (x : RowIn) : Value := .slice x.A x.n x.c
structure RL (B g d : Nat) (done : List RowIn) (x : RowIn) (W : World) : Prop where
 own : Own W B (.slice (some ⟨g, 0, none⟩) (done.length + 1) d) (done ++ [x])
 ap : ∀ y ∈ done, ∀ b, (RowIn.cv y).ownBlock = some b → (RowIn.cv x).ownBlock ≠ some b
theorem vals_set0 : ∀ (rs : List RowIn) (x y : RowIn), ((rs ++ [x]).flatMap RowIn.vals).set (rs.length * 2) (.slice y.A y.n y.c) = (rs ++ [{ y with wrap := x.wrap }]).flatMap RowIn.vals
 | [], x, y => rfl
 | r :: rs, x, y => by
  have ih := vals_set0 rs x y
  rw [List.cons_append, List.flatMap_cons, List.cons_append, List.flatMap_cons, ← ih, List.length_cons]
  show (Value.slice r.A r.n r.c :: Value.bool r.wrap :: (rs ++ [x]).flatMap RowIn.vals).set ((rs.length + 1) * 2) _ = Value.slice r.A r.n r.c :: Value.bool r.wrap :: _
  rw [show (rs.length + 1) * 2 = rs.length * 2 + 1 + 1 by omega, List.set_cons_succ, List.set_cons_succ]
  rfl
theorem vals_set1 : ∀ (rs : List RowIn) (x : RowIn) (v : Bool), ((rs ++ [x]).flatMap RowIn.vals).set (rs.length * 2 + 1) (.bool v) = (rs ++ [{ x with wrap := v }]).flatMap RowIn.vals
 | [], x, v => rfl
 | r :: rs, x, v => by
  have ih := vals_set1 rs x v
  rw [List.cons_append, List.flatMap_cons, List.cons_append, List.flatMap_cons, ← ih, List.length_cons]
  show (Value.slice r.A r.n r.c :: Value.bool r.wrap :: (rs ++ [x]).flatMap RowIn.vals).set ((rs.length + 1) * 2 + 1) _ = Value.slice r.A r.n r.c :: Value.bool r.wrap :: _
  rw [show (rs.length + 1) * 2 + 1 = rs.length * 2 + 1 + 1 + 1 by omega, List.set_cons_succ, List.set_cons_succ]
  rfl
namespace RL
variable {B g d : Nat} {done : List RowIn} {x : RowIn} {W W' : World}
theorem laid (h : RL B g d done x W) (hb : Laid W W') : RL B g d done x W' := ⟨h.own.laid hb, h.ap⟩
theorem out (h : RL B g d done x W) : W.ownsRow B 48 2 (.slice (some ⟨g, 0, none⟩) (done.length + 1) d) (done.length + 1) ((done ++ [x]).flatMap RowIn.vals) := by
 have := h.own.own
 rwa [List.length_append, List.length_singleton] at this
theorem last (h : RL B g d done x W) : W.ownsRow B 50 3 (.slice x.A x.n x.c) x.l.length (flat x.l) := (h.own.each x (by simp)).1
theorem len (h : RL B g d done x W) : x.n = x.l.length ∧ x.n ≤ x.c := by
 obtain ⟨A', c', e, hc⟩ := own_cap h.last
 injection e with _ e2 e3
 exact ⟨e2, by omega⟩
theorem at' (h : RL B g d done x W) : B ≤ g ∧ g < W.heap.size := h.out.lt g rfl
theorem typed (h : RL B g d done x W) : ∃ cur, W.heap[g]? = some (.cells cur 48 (0, 0)) := own_type h.out g rfl
theorem cells (h : RL B g d done x W) : W.cell? ⟨g, done.length * 2, none⟩ = some (.slice x.A x.n x.c) ∧ W.cell? ⟨g, done.length * 2 + 1, none⟩ = some (.bool x.wrap) := by
 obtain ⟨_, hr⟩ := h.own.rws
 obtain ⟨b, off, e, _, q0, q1⟩ := rows_at (k := done.length) hr.sq (r := x) (by rw [List.getElem?_append_right (Nat.le_refl _), Nat.sub_self]; rfl) (Nat.lt_succ_self _)
 injection e with e
 injection e with e1 e2
 subst e1 e2
 rw [Nat.zero_add] at q0 q1
 exact ⟨q0, q1⟩
theorem far (h : RL B g d done x W) : ∀ j, (Value.slice x.A x.n x.c).ownBlock = some j → j ≠ g := fun j hj e => own_ne h.last h.out (by decide) j hj (by rw [e]; rfl)
theorem grow {w4 : World} {A4 : Option Addr} {m c4 : Nat} {s : List Cel} (h : RL B g d done x W) (ho : w4.ownsRow B 50 3 (.slice A4 m c4) m (flat (x.l ++ s))) (hm : m = (x.l ++ s).length) (hs : ∀ c ∈ s, -2147483648 ≤ c.1 ∧ c.1 ≤ 2147483647) (hg : W.grownBy w4 (Value.slice x.A x.n x.c).ownBlock)
  (hat : (Value.slice A4 m c4).ownBlock = (Value.slice x.A x.n x.c).ownBlock ∨ (Value.slice A4 m c4).ownBlock = some W.heap.size) :
  RL B g d done ⟨A4, m, c4, x.wrap, x.l ++ s⟩ (w4.setCell ⟨g, done.length * 2, none⟩ (.slice A4 m c4)) := by
 subst hm
 obtain ⟨hgB, hgl⟩ := h.at'
 have own4 : w4.ownsRow B 48 2 (.slice (some ⟨g, 0, none⟩) (done.length + 1) d) (done.length + 1) ((done ++ [x]).flatMap RowIn.vals) := own_keep h.out fun j hj => hg.block j (h.out.lt j hj).2 (fun e => own_ne h.out h.last (by decide) j hj e.symm)
 have other : ∀ {y : Value} {k : List Cel}, HasC w4 B y k → HasC (w4.setCell ⟨g, done.length * 2, none⟩ (.slice A4 (x.l ++ s).length c4)) B y k := fun {y k} hy => by
  have hh : w4.ownsRow B 50 3 y k.length (flat k) := hy
  exact own_keep hh fun b hb => Below.heap_setCell _ _ _ _ (fun e => own_ne hh own4 (by decide) b hb (by rw [e]; rfl))
 obtain ⟨_, _, e4, _, hcm⟩ := own_max ho
 injection e4 with _ _ e4
 subst e4
 refine ⟨⟨?_, fun y hy => ?_⟩, fun y hy b hb => ?_⟩
 ·rw [show (done ++ [(⟨A4, (x.l ++ s).length, c4, x.wrap, x.l ++ s⟩ : RowIn)]).length = done.length + 1 by simp, ← vals_set0 done x ⟨A4, (x.l ++ s).length, c4, x.wrap, x.l ++ s⟩]
  exact (own4.stored _ _).1
 ·rcases List.mem_append.1 hy with hy | hy
  ·obtain ⟨h1, h2, h3⟩ := h.own.each y (by simp [hy])
   have hh : W.ownsRow B 50 3 (.slice y.A y.n y.c) y.l.length (flat y.l) := h1
   exact ⟨other (own_keep hh fun b hb => hg.block b (hh.lt b hb).2 (fun e => h.ap y hy b hb e.symm)), h2, h3⟩
  ·rw [List.mem_singleton.1 hy]
   refine ⟨other ho, fun c hc => ?_, hcm⟩
   rcases List.mem_append.1 hc with hc | hc
   ·exact (h.own.each x (by simp)).2.1 c hc
   ·exact hs c hc
 ·have hh : W.ownsRow B 50 3 (.slice y.A y.n y.c) y.l.length (flat y.l) := (h.own.each y (by simp [hy])).1
  have hlt := (hh.lt b hb).2
  intro e
  rcases hat with h0 | h0
  ·exact h.ap y hy b hb (h0.symm.trans e)
  ·have : some b = some W.heap.size := e.symm.trans h0
   injection this with this
   omega
theorem push {w4 : World} {A4 : Option Addr} {q c4 : Nat} {e : Cel} (h : RL B g d done x W) (hq : q = done.length) (ho : w4.ownsRow B 50 3 (.slice A4 (x.n + 1) c4) (x.n + 1) (flat x.l ++ flat [e])) (he : -2147483648 ≤ e.1 ∧ e.1 ≤ 2147483647) (hg : W.grownBy w4 (Value.slice x.A x.n x.c).ownBlock)
  (hat : (Value.slice A4 (x.n + 1) c4).ownBlock = (Value.slice x.A x.n x.c).ownBlock ∨ (Value.slice A4 (x.n + 1) c4).ownBlock = some W.heap.size) :
  RL B g d done ⟨A4, x.n + 1, c4, x.wrap, x.l ++ [e]⟩ (w4.setCell ⟨g, q * 2, none⟩ (.slice A4 (x.n + 1) c4)) ∧ w4.cell? ⟨g, q * 2, none⟩ = some (.slice x.A x.n x.c) ∧ w4.frozen? ⟨g, q * 2, none⟩ = false := by
 subst hq
 have hl := h.len.1
 have hb : w4.heap[g]? = W.heap[g]? := hg.block g h.at'.2 (fun e => h.far g e.symm rfl)
 obtain ⟨cur, hc⟩ := h.typed
 refine ⟨?_, ?_, frozen_of_row w4 g _ cur _ (hb.trans hc)⟩
 ·exact h.grow (by rw [flat_append]; exact ho) (by rw [hl, List.length_append]; rfl) (fun c hc => by rw [List.mem_singleton.1 hc]; exact he) hg hat
 ·have h1 := h.cells.1
  rw [cell_of_row _ _ _ _ _ (0, 0) hc] at h1
  rw [cell_of_row _ _ _ _ _ (0, 0) (hb.trans hc)]
  exact h1
theorem belowG {w0 w4 : World} {i : Nat} {v : Value} (h : RL B g d done x W) (hb : Below B w0 W) (hB : B ≤ w0.heap.size) (hg : W.grownBy w4 (Value.slice x.A x.n x.c).ownBlock) : Below B w0 (w4.setCell ⟨g, i, none⟩ v) :=
 (hb.grown hg (Nat.le_trans hB hb.size) (fun j e => (h.last.lt j e).1)).setCell (p := ⟨g, i, none⟩) h.at'.1 _
theorem wrapT (h : RL B g d done x W) : RL B g d done { x with wrap := true } (W.setCell ⟨g, done.length * 2 + 1, none⟩ (.bool true)) := by
 have other : ∀ {y : Value} {k : List Cel}, HasC W B y k → HasC (W.setCell ⟨g, done.length * 2 + 1, none⟩ (.bool true)) B y k := fun {y k} hy => by
  have hh : W.ownsRow B 50 3 y k.length (flat k) := hy
  exact own_keep hh fun b hb => Below.heap_setCell _ _ _ _ (fun e => own_ne hh h.out (by decide) b hb (by rw [e]; rfl))
 refine ⟨⟨?_, fun y hy => ?_⟩, h.ap⟩
 ·rw [show (done ++ [(⟨x.A, x.n, x.c, true, x.l⟩ : RowIn)]).length = done.length + 1 by simp, ← vals_set1 done x true]
  exact (h.out.stored _ _).1
 ·rcases List.mem_append.1 hy with hy | hy
  ·obtain ⟨h1, h2, h3⟩ := h.own.each y (by simp [hy])
   exact ⟨other h1, h2, h3⟩
  ·rw [List.mem_singleton.1 hy]
   obtain ⟨h1, h2, h3⟩ := h.own.each x (by simp)
   exact ⟨other h1, h2, h3⟩
theorem next {g' d' : Nat} (h : RL B g d done x W) (ho : W'.ownsRow B 48 2 (.slice (some ⟨g', 0, none⟩) (done.length + 2) d') (done.length + 2) ((done ++ [x]).flatMap RowIn.vals ++ [.slice none 0 0, .bool false])) (hg : W.grownBy W' (some g)) : RL B g' d' (done ++ [x]) ⟨none, 0, 0, false, []⟩ W' := by
 refine ⟨?_, fun y _ b _ e => by cases e⟩
 rw [List.length_append, List.length_singleton]
 refine Own.snoc (x := ⟨none, 0, 0, false, []⟩) h.own (World.ownsRow_nil _ _ _ _) (fun c hc => by cases hc) (Nat.zero_le _) ?_ hg
 rw [List.length_append, List.length_singleton]
 exact ho
theorem first (W : World) (B : Nat) (hB : B ≤ W.heap.size) : RL B W.heap.size 1 [] ⟨none, 0, 0, false, []⟩ (W.alloc (.cells #[.slice none 0 0, .bool false] 48)) := by
 refine ⟨⟨?_, fun y hy => ?_⟩, fun y hy => by cases hy⟩
 ·have h := own_new W 48 2 1 #[.slice none 0 0, .bool false] rfl (by decide)
  exact own_down h hB
 ·rw [List.mem_singleton.1 hy]
  exact ⟨World.ownsRow_nil _ _ _ _, (fun c hc => by cases hc), Nat.zero_le _⟩
end RL
end Ln
end Go.Proofs.YtgmijnnhanpocaaGreatDoor
