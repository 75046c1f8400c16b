/-
  Places as marks: what is reached from marked places; rows, alternations, repeats step by step. Nothing of the program. The reference's Count and Deep. The reference's Weight. The reference's marks in memory: both, same; is a sign of a set. Places that are marked, rising: the statements' own look; two patterns as one, either of them or one behind the other. A region that draws its order, gone through once, in every world of a class: what it reads stays there, and what it calls may make memory.
-/
import Derived.Test.YteemnmalikomgaaGreatDoorQNaBase1
import Derived.Test.YteemnmalikomgaaGreatDoorQNaBase9
import Derived.Test.YteemnmalikomgaaGreatDoorQNaBase4
import Derived.Test.YteemnmalikomgaaGreatDoorQNaBase11
import Derived.Test.YteemnmalikomgaaGreatDoorQNaBase0
import Derived.BigQuiet
namespace Go.Proofs.YteemnmalikomgaaGreatDoor.NF
def Mk (L : List Bool) (i : Nat) : Prop := L[i]? = some true
theorem Mk.lt {L : List Bool} {i : Nat} (h : Mk L i) : i < L.length := (List.getElem?_eq_some_iff.1 h).1
theorem pow_hi {R : Nat → Nat → Prop} {n : Nat} (h : ∀ i j, i ≤ n → R i j → j ≤ n) : ∀ c i j, i ≤ n → Pow R c i j → j ≤ n
 | 0, i, j, hi, hp => by cases hp; exact hi
 | c + 1, i, j, hi, ⟨m, h1, h2⟩ => pow_hi h c m j (h i m hi h1) h2
mutual
theorem mat_hi (l : List Int) : ∀ (t : Nd) (i j : Nat), i ≤ l.length → Mat l t i j → j ≤ l.length
 | .mk k s nt ks mn mx, i, j, hi, h => by
  rw [Mat] at h
  split at h
  ·obtain ⟨rfl, r, hr, _⟩ := h
   exact (List.getElem?_eq_some_iff.1 hr).1
  ·split at h
   ·exact seqs_hi l ks i j hi h
   ·split at h
    ·exact alts_hi l ks i j hi h
    ·split at h
     ·obtain ⟨c, _, _, hp⟩ := h
      exact pow_hi (fun a b ha hb => fst_hi l ks a b ha hb) c i j hi hp
     ·split at h
      ·omega
      ·split at h
       ·omega
       ·exact h.elim
theorem seqs_hi (l : List Int) : ∀ (ks : List Nd) (i j : Nat), i ≤ l.length → Seqs l ks i j → j ≤ l.length
 | [], i, j, hi, h => by rw [Seqs] at h; omega
 | x :: xs, i, j, hi, h => by
  rw [Seqs] at h
  obtain ⟨m, h1, h2⟩ := h
  exact seqs_hi l xs m j (mat_hi l x i m hi h1) h2
theorem alts_hi (l : List Int) : ∀ (ks : List Nd) (i j : Nat), i ≤ l.length → Alts l ks i j → j ≤ l.length
 | [], i, j, _, h => by rw [Alts] at h; exact h.elim
 | x :: xs, i, j, hi, h => by
  rw [Alts] at h
  rcases h with h | h
  ·exact mat_hi l x i j hi h
  ·exact alts_hi l xs i j hi h
theorem fst_hi (l : List Int) : ∀ (ks : List Nd) (i j : Nat), i ≤ l.length → Fst l ks i j → j ≤ l.length
 | [], i, j, _, h => by rw [Fst] at h; exact h.elim
 | x :: xs, i, j, hi, h => by
  rw [Fst] at h
  exact mat_hi l x i j hi h
end
def free (L : List Bool) : Nat := L.countP (fun x => !x)
end Go.Proofs.YteemnmalikomgaaGreatDoor.NF

namespace Go.Proofs.YteemnmalikomgaaGreatDoor
open Go.ChangeShapes Go.WideShapes Go.ChangeAt Go.RowKit
namespace NF
theorem may_leaf {k : Int} {s : Sg} {nt : Bool} {n : Nat} {mn mx : Int} (h : mayAlone k s nt n mn mx = true) (h3 : k ≠ 3) (h4 : k ≠ 4) (h5 : k ≠ 5) : n = 0 := by
 unfold mayAlone at h
 split at h
 ·simp at h; exact h.1.1.2
 ·rw [if_neg (by omega)] at h
  try rw [if_neg h5] at h
  split at h
  ·simp at h; exact h.1.1.2
  ·cases h
theorem mul_cap {c m k C : Nat} (hk : 0 < k) (h : m = min c C) : min (m * k + 1) C = min (c * k + 1) C := by
 subst h
 rcases Nat.le_total c C with h1 | h1
 ·rw [Nat.min_eq_left h1]
 ·rw [Nat.min_eq_right h1]
  have h2 : C * 1 ≤ C * k := Nat.mul_le_mul_left C hk
  have h3 : C * k ≤ c * k := Nat.mul_le_mul_right k h1
  omega
theorem mul_ten {m k C : Nat} (hm : m ≤ C) (hk : k ≤ 10) : m * k ≤ C * 10 := Nat.mul_le_mul hm hk
theorem wrap_small (x : Nat) (h : x ≤ 100000000) : IntKind.i64.wrap (x : Int) = (x : Int) := IntWalk.i64_in _ (by omega)
theorem min_over {v C : Nat} (h : (C : Int) < (v : Int)) : min C C = min v C := by omega
theorem not_over {v C : Nat} (h : ¬ (C : Int) < (v : Int)) : v ≤ C + 1 := by omega
theorem min_cast {v u C : Nat} (h : min v C = u) : min (v : Int) (C : Int) = (u : Int) := by omega
theorem min_idem {v u C : Nat} (h : min v C = u) : u ≤ C + 1 ∧ min u C = min v C := by omega
theorem rep_facts {a : Int} {m c : Nat} (h0 : 0 ≤ a) (h9 : a ≤ 9) (hm : m ≤ 1000000) (hmc : m = min c 1000000) :
  ∃ (P : Int) (v : Nat), IntKind.i64.wrap (a + 1) = a + 1 ∧ IntKind.i64.wrap ((m : Int) * (a + 1)) = P ∧ IntKind.i64.wrap (P + 1) = (v : Int) ∧ min v 1000000 = min (c * (a.toNat + 1) + 1) 1000000 := by
 obtain ⟨k, hk⟩ : ∃ k, a.toNat + 1 = k := ⟨_, rfl⟩
 have hak : a + 1 = (k : Int) := by omega
 have hk1 : 0 < k := by omega
 have hk10 : k ≤ 10 := by omega
 have hmk := mul_ten hm hk10
 rw [hak, hk, ← mul_cap hk1 hmc, show (m : Int) * (k : Int) = ((m * k : Nat) : Int) from (Int.natCast_mul m k).symm]
 generalize m * k = q at hmk ⊢
 refine ⟨(q : Int), q + 1, wrap_small k (by omega), wrap_small q (by omega), ?_, rfl⟩
 rw [show (q : Int) + 1 = ((q + 1 : Nat) : Int) from rfl]
 exact wrap_small _ (by omega)
theorem rep_facts2 {b : Int} {m c : Nat} (h0 : 0 ≤ b) (h9 : b ≤ 9) (hm : m ≤ 1000000) (hmc : m = min c 1000000) :
  ∃ (P : Int) (v : Nat), IntKind.i64.wrap ((m : Int) * b) = P ∧ IntKind.i64.wrap (P + 1) = (v : Int) ∧ min v 1000000 = min (c * b.toNat + 1) 1000000 := by
 obtain ⟨k, rfl⟩ : ∃ k : Nat, b = (k : Int) := ⟨b.toNat, by omega⟩
 have hk10 : k ≤ 10 := by omega
 have hmk := mul_ten hm hk10
 have he : min (m * k + 1) 1000000 = min (c * k + 1) 1000000 := by
  rcases Nat.eq_zero_or_pos k with h | h
  ·rw [h]; simp
  ·exact mul_cap h hmc
 rw [Int.toNat_natCast, ← he, show (m : Int) * (k : Int) = ((m * k : Nat) : Int) from (Int.natCast_mul m k).symm]
 generalize m * k = q at hmk ⊢
 refine ⟨(q : Int), q + 1, wrap_small q (by omega), ?_, rfl⟩
 rw [show (q : Int) + 1 = ((q + 1 : Nat) : Int) from rfl]
 exact wrap_small _ (by omega)
theorem wts_take : ∀ {ks : List Nd} {i : Nat} {y : Nd}, ks[i]? = some y → wts (ks.take (i + 1)) = wts (ks.take i) + wt y
 | [], i, y, h => by simp at h
 | z :: zs, 0, y, h => by
  simp at h
  subst h
  simp [wts]
 | z :: zs, i + 1, y, h => by
  have := wts_take (ks := zs) (i := i) (y := y) (by simpa using h)
  rw [List.take_succ_cons, List.take_succ_cons, wts, wts, this]
  omega
set_option maxRecDepth 100000 in
set_option maxHeartbeats 3200000 in
theorem refWeight_walk : ∀ (fuel : Nat) (t : Nd) (x : Nv) (lo B : Nat) (w : World), deep t ≤ fuel → may t = true → B ≤ w.heap.size → NdIn w lo B t x →
  Calls Tryz.prog 19 #[x.v] w fun e w' => ∃ v : Nat, e = .returned (.int .i64 (v : Int)) ∧ v ≤ 1000001 ∧ min v 1000000 = min (wt t) 1000000 ∧ Below w.heap.size w w' := by
 intro fuel
 induction fuel with
 | zero =>
  intro t x lo B w hf
  cases t
  rw [deep] at hf
  omega
 | succ fuel ih =>
  intro t x lo B w hf hct hBw hx
  obtain ⟨k0, s0, nt0, ks, mn0, mx0⟩ := t
  rw [NdIn] at hx
  obtain ⟨e1, e2, e3, e4, xs, ho, hk⟩ := hx
  obtain ⟨k, A, n, c, nt, A2, n2, c2, mn, mx⟩ := x
  dsimp only at e1 e2 e3 e4
  subst e1 e2 e3 e4
  obtain ⟨w1, hw1, k1, b1, z1⟩ := boxed_node w k A n c nt A2 n2 c2 mn mx
  rw [deep] at hf
  obtain ⟨ma, mk⟩ := mays_kind hct
  have hwt : wt (.mk k s0 nt ks mn mx) = if k = 3 then wts ks else if k = 5 then (if mx < 0 then wts ks * (mn.toNat + 1) + 1 else wts ks * mx.toNat + 1) else wts ks + 1 := by rw [wt]
  rw [hwt]
  have MA := Lib.hid ma
  have hlen : ks.length = n2 := ho.len
  have hm2 : n2 ≤ 1759218604441 := ho.many2
  have K1 := Lib.hid k1
  have OW := Lib.hid ho
  have KW := Lib.hid hk
  have HF := Lib.hid hf
  have CT := Lib.hid mk
  have HL := Lib.hid hlen
  have HB := Lib.hid hBw
  have Z1 := Lib.hid z1
  have I0 := Lib.hid (show Below w.heap.size w w1 ∧ Below w1.heap.size w1 w1 from ⟨b1, Below.refl _ _⟩)
  obtain ⟨CK, hCK⟩ : ∃ v, wts ks = v := ⟨_, rfl⟩
  have CKH := Lib.hid hCK
  rw [hCK]
  dsimp only [Nv.v]
  clear ho hk k1 b1 z1 hlen hBw hf hct hCK ma mk hwt
  go_enter Tryz.func19, Tryz.ntmps19
  go_wp2_with fail
  go_loopw [4, 3] (fun y s3 wr => ∃ i m : Nat, y = .int .i64 (i : Int) ∧ i ≤ n2 ∧ s3 = .int .i64 (m : Int) ∧ m ≤ 1000000 ∧ Hid (m = min (wts (ks.take i)) 1000000) ∧ Hid (Below w.heap.size w wr ∧ Below w1.heap.size w1 wr)) (fun y _ _ => n2 - (intOf y).toNat)
  case atStart => exact ⟨0, 0, rfl, Nat.zero_le _, rfl, by omega, Lib.hid (by simp [wts]), I0⟩
  case round =>
   obtain ⟨i, m, rfl, hi, rfl, hm, MH, I⟩ := hrel
   clear I0 hw1
   have hi0 : (0 : Int) ≤ (i : Int) := by omega
   have hinc : IntKind.i64.wrap ((i : Int) + 1) = (i : Int) + 1 := IntWalk.i64_in _ (by omega)
   have nb := K1.out.below I.out.2 (by rw [Z1.out]; omega)
   obtain ⟨y0, y1, y2, y3, y4, y5⟩ := nv_bk nb
   by_cases hlt : i < n2
   ·obtain ⟨y, hy⟩ : ∃ y, ks[i]? = some y := ⟨_, List.getElem?_eq_getElem (by rw [HL.out]; exact hlt)⟩
    obtain ⟨xi, hxi, hin⟩ := (KW.out.below (I.out.1.mono HB.out)).at i y hy
    obtain ⟨b, off, rfl, _, nv⟩ := kid_at (OW.out.carry fun p hp => I.out.1.cell (Nat.lt_of_lt_of_le hp HB.out)).kids hxi hlt
    obtain ⟨ki, Ai, ni, ci, nti, A2i, n2i, c2i, mni, mxi⟩ := xi
    obtain ⟨u0, u1, u2, u3, u4, u5⟩ := nv_at nv
    have hi1 : (i : Int) < (n2 : Int) := by omega
    have q3 := deeps_at hy
    have q1 : wts (ks.take (i + 1)) = wts (ks.take i) + wt y := wts_take hy
    have IH := Lib.hid (ih y ⟨ki, Ai, ni, ci, nti, A2i, n2i, c2i, mni, mxi⟩ lo B wr (by have := HF.out; omega) (mays_at CT.out hy) (Nat.le_trans HB.out I.out.1.size) (hin.below (Below.refl _ _)))
    have Q1 := Lib.hid q1
    have IN := Lib.hid I.out
    dsimp only [Nv.v] at IH
    clear hin nv nb I hy hxi q1 q3
    go_wp2_with fail
    refine IH.out.mono ?_
    rintro e w5 ⟨m1, rfl, hv1, hv2, b7⟩
    have hmh := MH.out
    have hadd : IntKind.i64.wrap ((m : Int) + (m1 : Int)) = (m : Int) + (m1 : Int) := IntWalk.i64_in _ (by omega)
    obtain ⟨mm, hmm⟩ : ∃ v, min (m + m1) 1000000 = v := ⟨_, rfl⟩
    have hmin : min ((m : Int) + (m1 : Int)) 1000000 = (mm : Int) := by omega
    have M2 := Lib.hid (show mm = min (wts (ks.take (i + 1))) 1000000 from by rw [Q1.out]; omega)
    have ML := Lib.hid (show mm ≤ 1000000 from by omega)
    clear hmh hmm hv1 hv2 MH hm Q1
    have I5 := Lib.hid (show Below w.heap.size w w5 ∧ Below w1.heap.size w1 w5 from ⟨IN.out.1.trans (b7.mono IN.out.1.size), IN.out.2.trans (b7.mono IN.out.2.size)⟩)
    clear IH b7 u0 u1 u2 u3 u4 u5 y0 y1 y2 y3 y4 y5 IN
    go_wp2_with fail
    go_roundw
    case rel => exact ⟨i + 1, mm, by first | rfl | (congr 1; done) | (congr 1; omega), by omega, by first | rfl | (congr 1; done) | (congr 1; omega), ML.out, M2, I5⟩
    case measure => first | (simp [intOf]; done) | (simp [intOf]; omega)
   ·obtain rfl : i = n2 := by omega
    have F := Lib.hid (show m = min CK 1000000 from by have := MH.out; rw [List.take_of_length_le (by rw [HL.out]; exact Nat.le_refl _), CKH.out] at this; exact this)
    have IN := Lib.hid I.out.1
    have L0 := Lib.hid (show ks.length = 0 → CK = 0 from fun h => by rw [← CKH.out, List.length_eq_zero_iff.1 h, wts])
    have hml := hm
    clear MH I nb
    have hma := MA.out
    rcases may_kind hma with rfl | rfl | rfl | rfl | rfl | rfl
    ·have hz := L0.out (may_leaf hma (by decide) (by decide) (by decide))
     clear hma
     go_wp2_with fail
     go_ret
     exact ⟨1, rfl, by omega, by first | omega | (simp; omega), IN.out⟩
    ·clear hma
     go_wp2_with fail
     go_ret
     exact ⟨m, rfl, by omega, by have := F.out; first | omega | (simp; omega), IN.out⟩
    ·clear hma
     have hadd : IntKind.i64.wrap ((m : Int) + 1) = (m : Int) + 1 := IntWalk.i64_in _ (by omega)
     go_wp2_with fail
     go_ret
     exact ⟨m + 1, by first | rfl | (congr 1; congr 1; omega), by omega, by have := F.out; first | omega | (simp; omega), IN.out⟩
    ·obtain ⟨_, r1, r2, r3⟩ := may_rep hma
     clear hma
     by_cases hmx : mx < 0
     ·obtain ⟨P, v, f1, f2, f3, g2⟩ := rep_facts r1 r2 hm F.out
      have G := Lib.hid g2
      have G1 := Lib.hid (show 1000000 < (v : Int) → min 1000000 1000000 = min v 1000000 from fun h => min_over (C := 1000000) h)
      have G2 := Lib.hid (show ¬ 1000000 < (v : Int) → v ≤ 1000001 from fun h => not_over (C := 1000000) h)
      obtain ⟨u, hu⟩ : ∃ u, min v 1000000 = u := ⟨_, rfl⟩
      have hmn : min (v : Int) 1000000 = (u : Int) := min_cast (C := 1000000) hu
      have U := Lib.hid (min_idem hu)
      clear g2 r1 r2 r3 hu
      go_wp2_with fail
      all_goals go_ret
      all_goals first
       | exact ⟨u, rfl, U.out.1, U.out.2.trans G.out, IN.out⟩
       | exact ⟨1000000, rfl, by decide, (G1.out (by assumption)).trans G.out, IN.out⟩
       | exact ⟨v, rfl, G2.out (by first | assumption | omega), G.out, IN.out⟩
     ·obtain ⟨P, v, f2, f3, g2⟩ := rep_facts2 (show 0 ≤ mx by omega) (show mx ≤ 9 by omega) hm F.out
      have G := Lib.hid g2
      have G1 := Lib.hid (show 1000000 < (v : Int) → min 1000000 1000000 = min v 1000000 from fun h => min_over (C := 1000000) h)
      have G2 := Lib.hid (show ¬ 1000000 < (v : Int) → v ≤ 1000001 from fun h => not_over (C := 1000000) h)
      obtain ⟨u, hu⟩ : ∃ u, min v 1000000 = u := ⟨_, rfl⟩
      have hmn : min (v : Int) 1000000 = (u : Int) := min_cast (C := 1000000) hu
      have U := Lib.hid (min_idem hu)
      clear g2 r1 r2 r3 hu
      go_wp2_with fail
      all_goals go_ret
      all_goals first
       | exact ⟨u, rfl, U.out.1, U.out.2.trans G.out, IN.out⟩
       | exact ⟨1000000, rfl, by decide, (G1.out (by assumption)).trans G.out, IN.out⟩
       | exact ⟨v, rfl, G2.out (by first | assumption | omega), G.out, IN.out⟩
    ·have hz := L0.out (may_leaf hma (by decide) (by decide) (by decide))
     clear hma
     go_wp2_with fail
     go_ret
     exact ⟨1, rfl, by omega, by first | omega | (simp; omega), IN.out⟩
    ·have hz := L0.out (may_leaf hma (by decide) (by decide) (by decide))
     clear hma
     go_wp2_with fail
     go_ret
     exact ⟨1, rfl, by omega, by first | omega | (simp; omega), IN.out⟩
end NF
end Go.Proofs.YteemnmalikomgaaGreatDoor
namespace Go.Proofs.YteemnmalikomgaaGreatDoor
open Go.ChangeShapes Go.WideShapes Go.ChangeAt Go.RowKit
namespace NF
theorem below_drewN (w : World) : ∀ n, Below w.heap.size w (w.drewN n)
 | 0 => Below.refl _ _
 | n + 1 => (below_drewN w n).drew
def bools (L : List Bool) : List Value := L.map Value.bool
theorem made_bools (n : Nat) : madeCells #[Value.bool false] n = (bools (List.replicate n false)).toArray := by
 apply Array.ext
 ·rw [size_madeCells]; simp [bools]
 ·intro i h1 h2
  have h3 := made_false n i (by rw [size_madeCells] at h1; exact h1)
  rw [Array.getElem?_eq_getElem h1] at h3
  injection h3 with h3
  rw [h3]
  simp [bools]
def MkBk (w : World) (g : Nat) (L : List Bool) : Prop := Bk w 4 g (bools L).toArray
theorem MkBk.get {w : World} {g : Nat} {L : List Bool} (h : MkBk w g L) {i : Nat} {b : Bool} (hi : L[i]? = some b) : w.cell? ⟨g, i, none⟩ = some (.bool b) := by
 rw [Bk.get h i]
 simp [bools, hi]
theorem MkBk.set {w : World} {g : Nat} {L : List Bool} (h : MkBk w g L) (i : Nat) (b : Bool) : MkBk (w.setCell ⟨g, i, none⟩ (.bool b)) g (L.set i b) := by
 have := Bk.put h i (.bool b)
 unfold MkBk
 have e : (bools (L.set i b)).toArray = (bools L).toArray.setIfInBounds i (.bool b) := by
  simp [bools, List.map_set]
 rw [e]
 exact this
theorem MkBk.sq {w : World} {g : Nat} {L : List Bool} (h : MkBk w g L) : Sq w w.heap.size 1 L.length (some ⟨g, 0, none⟩) (bools L) :=
 ⟨by simp [bools], fun _ => ⟨g, 0, rfl, Bk.lt h, fun j u hu => by rw [Nat.zero_add, Bk.get h j]; simpa using hu⟩⟩
theorem sq_bool {w : World} {B n i : Nat} {A : Option Addr} {L : List Bool} {b : Bool} (h : Sq w B 1 n A (bools L)) (hi : L[i]? = some b) (hn : i < n) : ∃ g off, A = some ⟨g, off, none⟩ ∧ w.cell? ⟨g, off + i, none⟩ = some (.bool b) := by
 obtain ⟨g, off, e, _, hc⟩ := h.spot (by omega)
 exact ⟨g, off, e, hc i _ (by simp [bools, hi])⟩
theorem sqO_new' (w : World) (cs : Array Value) (t : TypeId) (size n : Nat) (hn : cs.toList.length = n * size) : Sq (w.alloc (.cells cs t)) (w.alloc (.cells cs t)).heap.size size n (some ⟨w.heap.size, 0, none⟩) cs.toList :=
 ⟨hn, fun _ => ⟨_, 0, rfl, by simp, fun j u hu => by
  rw [cell_of_row _ _ _ _ _ (0, 0) (heap_alloc_new w _), Nat.zero_add]
  simpa using hu⟩⟩
end NF
end Go.Proofs.YteemnmalikomgaaGreatDoor
namespace Go.Proofs.YteemnmalikomgaaGreatDoor
open Go.ChangeShapes Go.WideShapes Go.ChangeAt Go.RowKit
namespace NF
theorem endsL_split (P : Nat → Prop) {i N : Nat} (h : i ≤ N) : ∃ r, endsL P N = endsL P i ++ r := by
 obtain ⟨k, rfl⟩ : ∃ k, N = i + k := ⟨N - i, by omega⟩
 clear h
 induction k with
 | zero => exact ⟨[], by simp⟩
 | succ k ih =>
  obtain ⟨r, hr⟩ := ih
  by_cases hp : P (i + k)
  ·exact ⟨r ++ [i + k], by rw [← Nat.add_assoc, (endsL_snoc P (i + k)).1 hp, hr, List.append_assoc]⟩
  ·exact ⟨r, by rw [← Nat.add_assoc, (endsL_snoc P (i + k)).2 hp, hr]⟩
theorem marks_next {M : List Bool} {L : List Nat} {N i : Nat} (hL : L = endsL (Mk M) N) (hi : i < N) (hm : Mk M i) : L[(endsL (Mk M) i).length]? = some i ∧ (endsL (Mk M) i).length < L.length ∧ (endsL (Mk M) (i + 1)).length = (endsL (Mk M) i).length + 1 := by
 have e := (endsL_snoc (Mk M) i).1 hm
 obtain ⟨r, hr⟩ := endsL_split (Mk M) (show i + 1 ≤ N from hi)
 rw [e] at hr
 have h1 : L[(endsL (Mk M) i).length]? = some i := by
  rw [hL, hr, List.append_assoc, List.getElem?_append_right (Nat.le_refl _), Nat.sub_self]
  rfl
 exact ⟨h1, (List.getElem?_eq_some_iff.1 h1).1, by rw [e, List.length_append]; rfl⟩
theorem marks_skip {M : List Bool} {i : Nat} (hm : ¬ Mk M i) : (endsL (Mk M) (i + 1)).length = (endsL (Mk M) i).length := by rw [(endsL_snoc (Mk M) i).2 hm]
set_option maxRecDepth 100000 in
set_option maxHeartbeats 3200000 in
theorem marks_walk (A A' : Option Addr) (c c' N B : Nat) (L : List Nat) (M : List Bool) (w : World) (hq : Sq w B 1 L.length A (nums L)) (hm : Sq w B 1 N A' (bools M)) (hM : M.length = N) (hL : L = endsL (Mk M) N) (hN : N ≤ 1000000) :
  Calls Tryz.prog 20 #[.slice A L.length c, .slice A' N c'] w fun e w' => e = .returned (.bool true) ∧ w' = w := by
 have hlen : L.length ≤ N := by rw [hL]; exact endsL_len _ _
 obtain ⟨q, hqq⟩ : ∃ q, L.length = q := ⟨_, rfl⟩
 rw [hqq] at hq hlen
 rw [hqq]
 have HQ := Lib.hid hq
 have HM := Lib.hid hm
 have LM := Lib.hid hM
 have HL := Lib.hid hL
 have HLQ := Lib.hid hqq
 clear hq hm hM hL hqq
 go_enter Tryz.func20, Tryz.ntmps20
 go_wp2_with fail
 go_loopw [5, 6] (fun x y wr => ∃ (d i : Nat), x = .int .i64 (d : Int) ∧ y = .int .i64 (i : Int) ∧ i ≤ N ∧ Hid (d = (endsL (Mk M) i).length) ∧ wr = w) (fun _ y _ => N - (intOf y).toNat)
 case atStart => exact ⟨0, 0, rfl, rfl, Nat.zero_le _, Lib.hid rfl, by trivial⟩
 case round =>
  obtain ⟨d, i, rfl, rfl, hin, HD, rfl⟩ := hrel
  have hi0 : (0 : Int) ≤ (i : Int) := by omega
  have hd0 : (0 : Int) ≤ (d : Int) := by omega
  have hdN : d ≤ i := by rw [HD.out]; exact endsL_len _ _
  have hwi : IntKind.i64.wrap ((i : Int) + 1) = (i : Int) + 1 := IntWalk.i64_in _ (by omega)
  have hwd : IntKind.i64.wrap ((d : Int) + 1) = (d : Int) + 1 := IntWalk.i64_in _ (by omega)
  by_cases hlt : i < N
  ·have h1 : (i : Int) < (N : Int) := by omega
   obtain ⟨b, hb⟩ : ∃ b, M[i]? = some b := ⟨_, List.getElem?_eq_getElem (by rw [LM.out]; exact hlt)⟩
   obtain ⟨ga, oa, rfl, ca⟩ := sq_bool HM.out hb hlt
   cases b with
   | true =>
    obtain ⟨n1, n2, n3⟩ := marks_next HL.out hlt (show Mk M i from hb)
    rw [← HD.out] at n1 n2 n3
    rw [HLQ.out] at n2
    obtain ⟨b2, o2, rfl, _, hc2⟩ := HQ.out.spot (by omega)
    have c2 : wr.cell? ⟨b2, o2 + d, none⟩ = some (.int .i64 (i : Int)) := hc2 d _ (by unfold nums; rw [List.getElem?_map, n1]; rfl)
    have h2 : (d : Int) < (q : Int) := by omega
    have N3 := Lib.hid n3
    clear hb hc2 n1 n3
    go_wp2_with fail
    go_roundw
    case rel => exact ⟨d + 1, i + 1, by first | rfl | (congr 1; done) | (congr 1; omega), by first | rfl | (congr 1; done) | (congr 1; omega), by omega, Lib.hid N3.out.symm, by trivial⟩
    case measure => first | (simp [intOf]; done) | (simp [intOf]; omega)
   | false =>
    have N3 := Lib.hid (marks_skip (M := M) (i := i) (by unfold Mk; rw [hb]; simp))
    clear hb
    go_wp2_with fail
    go_roundw
    case rel => exact ⟨d, i + 1, rfl, by first | rfl | (congr 1; done) | (congr 1; omega), by omega, Lib.hid (by rw [N3.out]; exact HD.out), by trivial⟩
    case measure => first | (simp [intOf]; done) | (simp [intOf]; omega)
  ·obtain rfl : i = N := by omega
   have E : d = q := by rw [HD.out, ← HLQ.out, HL.out]
   subst E
   go_wp2_with fail
   go_ret
   exact ⟨rfl, rfl⟩
def altN (x y : Nd) : Nd := .mk 4 [] false [x, y] 0 0
def catN (x y : Nd) : Nd := .mk 3 [] false [x, y] 0 0
theorem mat_alt2 (l : List Int) (x y : Nd) (i j : Nat) : Mat l (altN x y) i j ↔ Mat l x i j ∨ Mat l y i j := by
 unfold altN
 rw [Mat]
 simp only [show ¬ (4 : Int) = 2 by decide, show ¬ (4 : Int) = 3 by decide, if_false, if_true]
 rw [Alts, Alts, Alts]
 simp
theorem mat_cat2 (l : List Int) (x y : Nd) (i j : Nat) : Mat l (catN x y) i j ↔ ∃ m, Mat l x i m ∧ Mat l y m j := by
 unfold catN
 rw [Mat]
 simp only [show ¬ (3 : Int) = 2 by decide, if_false, if_true]
 rw [Seqs]
 constructor
 ·rintro ⟨m, h1, h2⟩
  rw [Seqs] at h2
  obtain ⟨m2, h3, h4⟩ := h2
  rw [Seqs] at h4
  subst h4
  exact ⟨m, h1, h3⟩
 ·rintro ⟨m, h1, h2⟩
  refine ⟨m, h1, ?_⟩
  rw [Seqs]
  exact ⟨j, h2, by rw [Seqs]⟩
theorem may_two {x y : Nd} (hx : may x = true) (hy : may y = true) : may (altN x y) = true ∧ may (catN x y) = true := by
 unfold altN catN
 constructor <;> (rw [may, mays, mays, mays, hx, hy]; rfl)
theorem deep_two (x y : Nd) : deep (altN x y) = max (deep x) (deep y) + 1 ∧ deep (catN x y) = max (deep x) (deep y) + 1 := by
 unfold altN catN
 constructor <;> (rw [deep, deeps, deeps, deeps]; omega)
theorem count_two (x y : Nd) : count (altN x y) = count x + count y + 1 ∧ count (catN x y) = count x + count y + 1 := by
 unfold altN catN
 constructor <;> (rw [count, counts, counts, counts]; omega)
theorem wt_two (x y : Nd) : wt (altN x y) ≤ wt x + wt y + 1 ∧ wt (catN x y) ≤ wt x + wt y + 1 := by
 unfold altN catN
 constructor
 ·rw [wt, if_neg (by decide), if_neg (by decide), wts, wts, wts]; omega
 ·rw [wt, if_pos rfl, wts, wts, wts]; omega
theorem two_nodes {w : World} {lo : Nat} {x y : Nd} {a b : Nv} (hx : NdIn w lo w.heap.size x a) (hy : NdIn w lo w.heap.size y b) (kind : Int) :
  ∃ w1, w.alloc (.cells #[.int .i64 a.k, .slice a.A a.n a.c, .bool a.nt, .slice a.A2 a.n2 a.c2, .int .i64 a.mn, .int .i64 a.mx, .int .i64 b.k, .slice b.A b.n b.c, .bool b.nt, .slice b.A2 b.n2 b.c2, .int .i64 b.mn, .int .i64 b.mx] 29) = w1 ∧ Below w.heap.size w w1 ∧ w1.heap.size = w.heap.size + 1 ∧
   NdIn w1 (min lo w.heap.size) w1.heap.size (.mk kind [] false [x, y] 0 0) ⟨kind, none, 0, 0, false, some ⟨w.heap.size, 0, none⟩, 2, 2, 0, 0⟩ := by
 refine ⟨_, rfl, (Below.refl _ _).alloc (Nat.le_refl _) _, by simp, ?_⟩
 have hb : Below w.heap.size w (w.alloc (.cells #[.int .i64 a.k, .slice a.A a.n a.c, .bool a.nt, .slice a.A2 a.n2 a.c2, .int .i64 a.mn, .int .i64 a.mx, .int .i64 b.k, .slice b.A b.n b.c, .bool b.nt, .slice b.A2 b.n2 b.c2, .int .i64 b.mn, .int .i64 b.mx] 29)) := (Below.refl _ _).alloc (Nat.le_refl _) _
 rw [NdIn]
 refine ⟨rfl, rfl, rfl, rfl, [a, b], ⟨Sq.nothing _ _ _ _, Nat.le_refl _, Nat.zero_le _, ?_, Nat.le_refl _, (by dsimp only; omega), rfl, rfl, fun r h => (by cases h), ⟨(by dsimp only; omega), (by dsimp only; omega)⟩, fun b off h => (by cases h), fun b off h _ => ?_⟩, ?_⟩
 ·exact sqO_new' w _ 29 6 2 rfl
 ·injection h with h
  injection h with h1 _
  rw [← h1]
  exact Nat.min_le_right _ _
 ·rw [KdsIn]
  refine ⟨a, [b], rfl, ndIn_up (Nat.min_le_left _ _) hb.size (hx.below hb), ?_⟩
  rw [KdsIn]
  refine ⟨b, [], rfl, ndIn_up (Nat.min_le_left _ _) hb.size (hy.below hb), ?_⟩
  rw [KdsIn]
end NF
end Go.Proofs.YteemnmalikomgaaGreatDoor
namespace Go.Proofs.YteemnmalikomgaaGreatDoor
open Go.ChangeShapes Go.WideShapes Go.ChangeAt Go.RowKit
namespace ClsB
theorem region {P : Program} {id : Nat} {Q : Exit → Act → World → Prop} {a : Act} {w : World} {l : List Oper} {I : Type} (F : I → World) (h0 : ∃ n, w.drew = F n) (hm : P.follows .mixedOrders = true) (hB : Region.lexB .any l.toArray = true)
  (h : wpQuiet P l.toArray (fun w' => ∃ n, w' = F n) (fun a' => ∀ w', (∃ n, w' = F n) → Q .normal a' w') l a) : (Code.region id l.toArray true).wp P Q a w :=
 wp_region_quiet (C := fun w' => ∃ n, w' = F n) hm hB h0 (by simpa using h)
theorem below (w : World) : ∃ (I : Type) (_ : Nonempty I) (F : I → World), (∃ n, w.drew = F n) ∧ (∀ n, Below w.heap.size w (F n)) ∧ ∀ n W, Below (F n).heap.size (F n) W → ∃ m, W = F m :=
 ⟨{ W : World // Below w.heap.size w W }, ⟨⟨w, Below.refl _ _⟩⟩, Subtype.val, ⟨⟨w.drew, (Below.refl _ _).drew⟩, rfl⟩, fun n => n.2, fun n W h => ⟨⟨W, n.2.trans (h.mono n.2.size)⟩, rfl⟩⟩
end ClsB
end Go.Proofs.YteemnmalikomgaaGreatDoor
