import Derived.Test.YteemnmalikomgaaGreatDoorQSrBase9
set_option maxRecDepth 100000
set_option maxHeartbeats 3200000
namespace Go.Proofs.YteemnmalikomgaaGreatDoor.NF
def Mk (L : List Bool) (i : Nat) : Prop := L[i]? = some true
theorem Mk.lt {L : List Bool} {i : Nat} (h : Mk L i) : i < L.length := (List.getElem?_eq_some_iff.1 h).1
theorem img_id {S : Nat → Prop} {j : Nat} : Img (fun a b => a = b) S j ↔ S j := ⟨fun ⟨_, h, e⟩ => e ▸ h, fun h => ⟨j, h, rfl⟩⟩
theorem img_congr {R R' : Nat → Nat → Prop} {S S' : Nat → Prop} (h : ∀ i j, R i j ↔ R' i j) (h2 : ∀ i, S i ↔ S' i) (j : Nat) : Img R S j ↔ Img R' S' j :=
 ⟨fun ⟨i, a, b⟩ => ⟨i, (h2 i).1 a, (h i j).1 b⟩, fun ⟨i, a, b⟩ => ⟨i, (h2 i).2 a, (h i j).2 b⟩⟩
theorem seqs_nil (l : List Int) (i j : Nat) : Seqs l [] i j ↔ i = j := by rw [Seqs]
theorem seqs_snoc (l : List Int) : ∀ (ks : List Nd) (y : Nd) (i j : Nat), Seqs l (ks ++ [y]) i j ↔ ∃ m, Seqs l ks i m ∧ Mat l y m j
 | [], y, i, j => by
  rw [List.nil_append, Seqs]
  constructor
  ·rintro ⟨m, h1, h2⟩
   rw [Seqs] at h2
   subst h2
   exact ⟨i, by rw [Seqs], h1⟩
  ·rintro ⟨m, h1, h2⟩
   rw [Seqs] at h1
   subst h1
   exact ⟨j, h2, by rw [Seqs]⟩
 | x :: xs, y, i, j => by
  rw [List.cons_append, Seqs]
  constructor
  ·rintro ⟨m, h1, h2⟩
   obtain ⟨q, h3, h4⟩ := (seqs_snoc l xs y m j).1 h2
   exact ⟨q, by rw [Seqs]; exact ⟨m, h1, h3⟩, h4⟩
  ·rintro ⟨q, h3, h4⟩
   rw [Seqs] at h3
   obtain ⟨m, h1, h3⟩ := h3
   exact ⟨m, h1, (seqs_snoc l xs y m j).2 ⟨q, h3, h4⟩⟩
theorem alts_snoc (l : List Int) : ∀ (ks : List Nd) (y : Nd) (i j : Nat), Alts l (ks ++ [y]) i j ↔ Alts l ks i j ∨ Mat l y i j
 | [], y, i, j => by simp [Alts]
 | x :: xs, y, i, j => by
  rw [List.cons_append, Alts, Alts, alts_snoc l xs y i j, or_assoc]
theorem take_mark {α : Type} {ks : List α} {i : Nat} {y : α} (h : ks[i]? = some y) : ks.take (i + 1) = ks.take i ++ [y] := by
 obtain ⟨h1, h2⟩ := List.getElem?_eq_some_iff.1 h
 rw [List.take_succ_eq_append_getElem h1, h2]
theorem img_seqs {l : List Int} {ks : List Nd} {i : Nat} {y : Nd} (h : ks[i]? = some y) {S : Nat → Prop} {L K : List Bool} (hL : ∀ j, Mk L j ↔ Img (Seqs l (ks.take i)) S j) (hK : ∀ j, Mk K j ↔ Img (Mat l y) (Mk L) j) (j : Nat) :
  Mk K j ↔ Img (Seqs l (ks.take (i + 1))) S j := by
 rw [hK, take_mark h]
 constructor
 ·rintro ⟨m, h1, h2⟩
  obtain ⟨a, h3, h4⟩ := (hL m).1 h1
  exact ⟨a, h3, (seqs_snoc l _ y a j).2 ⟨m, h4, h2⟩⟩
 ·rintro ⟨a, h3, h4⟩
  obtain ⟨m, h5, h6⟩ := (seqs_snoc l _ y a j).1 h4
  exact ⟨m, (hL m).2 ⟨a, h3, h5⟩, h6⟩
def orL (a b : List Bool) : List Bool := List.zipWith (fun x y => x || y) a b
theorem or_len {a b : List Bool} (h : b.length = a.length) : (orL a b).length = a.length := by simp [orL, h]
theorem mk_or {a b : List Bool} (h : b.length = a.length) (j : Nat) : Mk (orL a b) j ↔ Mk a j ∨ Mk b j := by
 unfold Mk orL
 rw [List.getElem?_zipWith]
 by_cases hj : j < a.length
 ·rw [List.getElem?_eq_getElem hj, List.getElem?_eq_getElem (by omega : j < b.length)]
  simp
 ·rw [List.getElem?_eq_none (by omega), List.getElem?_eq_none (by omega)]
  simp
theorem alts_or {l : List Int} {ks : List Nd} {i : Nat} {y : Nd} (h : ks[i]? = some y) {S : Nat → Prop} {L K : List Bool} (hl : K.length = L.length) (hL : ∀ j, Mk L j ↔ Img (Alts l (ks.take i)) S j) (hK : ∀ j, Mk K j ↔ Img (Mat l y) S j) (j : Nat) :
  Mk (orL L K) j ↔ Img (Alts l (ks.take (i + 1))) S j := by
 rw [mk_or hl, hL, hK, take_mark h]
 constructor
 ·rintro (⟨a, h1, h2⟩ | ⟨a, h1, h2⟩)
  ·exact ⟨a, h1, (alts_snoc l _ y a j).2 (.inl h2)⟩
  ·exact ⟨a, h1, (alts_snoc l _ y a j).2 (.inr h2)⟩
 ·rintro ⟨a, h1, h2⟩
  rcases (alts_snoc l _ y a j).1 h2 with h3 | h3
  ·exact .inl ⟨a, h1, h3⟩
  ·exact .inr ⟨a, h1, h3⟩
def free (L : List Bool) : Nat := L.countP (fun x => !x)
theorem free_or : ∀ {a b : List Bool}, b.length = a.length → free (orL a b) ≤ free a ∧ (orL a b ≠ a → free (orL a b) < free a)
 | [], b, _ => by simp [orL]
 | x :: a, [], h => by simp at h
 | x :: a, y :: b, h => by
  have ih := free_or (a := a) (b := b) (by simpa using h)
  have e : orL (x :: a) (y :: b) = (x || y) :: orL a b := rfl
  rw [e]
  obtain ⟨i1, i2⟩ := ih
  have hf : ∀ (z : Bool) (l : List Bool), free (z :: l) = free l + (if z then 0 else 1) := by
   intro z l
   unfold free
   rw [List.countP_cons]
   cases z <;> rfl
  rw [hf, hf]
  have hn : (x || y) = x → (x || y) :: orL a b ≠ x :: a → orL a b ≠ a := fun h1 h2 h3 => h2 (by rw [h1, h3])
  cases x <;> cases y
  ·exact ⟨by simp; omega, fun h => by have := i2 (hn rfl h); simp; omega⟩
  ·exact ⟨by simp; omega, fun _ => by simp; omega⟩
  ·exact ⟨by simp; omega, fun h => by have := i2 (hn rfl h); simp; omega⟩
  ·exact ⟨by simp; omega, fun h => by have := i2 (hn rfl h); simp; omega⟩
theorem free_len (L : List Bool) : free L ≤ L.length := List.countP_le_length
theorem mk_pow {R : Nat → Nat → Prop} {S : Nat → Prop} {c : Nat} {L K : List Bool} (hL : ∀ j, Mk L j ↔ Img (fun a b => Pow R c a b) S j) (hK : ∀ j, Mk K j ↔ Img R (Mk L) j) (j : Nat) : Mk K j ↔ Img (fun a b => Pow R (c + 1) a b) S j := by
 rw [hK, img_pow_succ]
 exact img_congr (fun _ _ => Iff.rfl) hL j
theorem mk_upTo {R : Nat → Nat → Prop} {S : Nat → Prop} {m t : Nat} {L K : List Bool} (hl : K.length = L.length) (hL : ∀ j, Mk L j ↔ UpTo R S m t j) (hK : ∀ j, Mk K j ↔ Img (fun a b => Pow R (m + t + 1) a b) S j) (j : Nat) :
  Mk (orL L K) j ↔ UpTo R S m (t + 1) j := by rw [mk_or hl, hL, hK, upTo_succ]
theorem upTo_same {R : Nat → Nat → Prop} {S : Nat → Prop} {m t : Nat} {L K : List Bool} (hl : K.length = L.length) (hL : ∀ j, Mk L j ↔ UpTo R S m t j) (hK : ∀ j, Mk K j ↔ Img (fun a b => Pow R (m + t + 1) a b) S j) (hs : orL L K = L) :
  ∀ j, Img (fun a b => Pow R (m + t + 1) a b) S j → UpTo R S m t j := by
 intro j hj
 have := (mk_or hl j).2 (.inr ((hK j).2 hj))
 rw [hs] at this
 exact (hL j).1 this
theorem fst_one (l : List Int) (y : Nd) : (fun a b => Fst l [y] a b) = (fun a b => Mat l y a b) := by
 funext a b
 rw [Fst]
theorem mk_one {n a : Nat} (ha : a < n) (j : Nat) : Mk ((List.replicate n false).set a true) j ↔ j = a := by
 unfold Mk
 rw [List.getElem?_set]
 by_cases h : a = j
 ·subst h; simp [ha]
 ·rw [if_neg h, List.getElem?_replicate]
  constructor
  ·intro h2
   split at h2 <;> simp at h2
  ·intro h2; exact absurd h2.symm h
theorem ends_marks {l : List Int} {t : Nd} {L K : List Bool} {a n : Nat} (hL : ∀ j, Mk L j ↔ j = a) (hK : ∀ j, Mk K j ↔ Img (Mat l t) (Mk L) j) : endsL (Mk K) n = endsL (fun j => Mat l t a j) n :=
 endsL_congr n fun e _ => by
  rw [hK]
  exact ⟨fun ⟨i, h1, h2⟩ => by rw [(hL i).1 h1] at h2; exact h2, fun h => ⟨a, (hL a).2 rfl, h⟩⟩
end Go.Proofs.YteemnmalikomgaaGreatDoor.NF
namespace Go.Proofs.YteemnmalikomgaaGreatDoor
open Go.ChangeShapes Go.WideShapes Go.ChangeAt Go.RowKit
namespace NF
theorem deeps_take : ∀ {ks : List Nd} {i : Nat} {y : Nd}, ks[i]? = some y → deeps (ks.take (i + 1)) = max (deeps (ks.take i)) (deep y)
 | [], i, y, h => by simp at h
 | z :: zs, 0, y, h => by
  simp at h
  subst h
  simp [deeps]
 | z :: zs, i + 1, y, h => by
  have := deeps_take (ks := zs) (i := i) (y := y) (by simpa using h)
  rw [List.take_succ_cons, List.take_succ_cons, deeps, deeps, this]
  omega
theorem refDeep_walk : ∀ (fuel : Nat) (t : Nd) (x : Nv) (lo B : Nat) (w : World), deep t ≤ fuel → deep t ≤ 4611686018427387904 → B ≤ w.heap.size → NdIn w lo B t x →
  Calls Tryz.prog 63 #[x.v] w fun e w' => e = .returned (.int .i64 (deep t : Int)) ∧ Below w.heap.size w w' := by
 intro fuel
 induction fuel with
 | zero =>
  intro t x lo B w hf
  cases t
  rw [deep] at hf
  omega
 | succ fuel ih =>
  intro t x lo B w hf hct hBw hx
  obtain ⟨k0, s0, nt0, ks, mn0, mx0⟩ := t
  rw [NdIn] at hx
  obtain ⟨e1, e2, e3, e4, xs, ho, hk⟩ := hx
  obtain ⟨k, A, n, c, nt, A2, n2, c2, mn, mx⟩ := x
  dsimp only at e1 e2 e3 e4
  subst e1 e2 e3 e4
  obtain ⟨w1, hw1, k1, b1, z1⟩ := boxed_node w k A n c nt A2 n2 c2 mn mx
  have hcs : deep (.mk k s0 nt ks mn mx) = deeps ks + 1 := by rw [deep]
  rw [hcs] at hf
  rw [hcs] at hct ⊢
  have hlen : ks.length = n2 := ho.len
  have hm2 : n2 ≤ 1759218604441 := ho.many2
  have K1 := Lib.hid k1
  have OW := Lib.hid ho
  have KW := Lib.hid hk
  have HF := Lib.hid hf
  have CT := Lib.hid hct
  have HL := Lib.hid hlen
  have HB := Lib.hid hBw
  have Z1 := Lib.hid z1
  have I0 := Lib.hid (show Below w.heap.size w w1 ∧ Below w1.heap.size w1 w1 from ⟨b1, Below.refl _ _⟩)
  obtain ⟨CK, hCK⟩ : ∃ v, deeps ks = v := ⟨_, rfl⟩
  have CKH := Lib.hid hCK
  rw [hCK]
  dsimp only [Nv.v]
  clear ho hk k1 b1 z1 hlen hBw hf hcs hct hCK
  go_enter Tryz.func63, Tryz.ntmps63
  go_wp2_with fail
  go_loopw [4, 3] (fun y s3 wr => ∃ i m : Nat, y = .int .i64 (i : Int) ∧ i ≤ n2 ∧ s3 = .int .i64 (m : Int) ∧ m ≤ 4611686018427387904 ∧ Hid (m = deeps (ks.take i)) ∧ Hid (Below w.heap.size w wr ∧ Below w1.heap.size w1 wr)) (fun y _ _ => n2 - (intOf y).toNat)
  case atStart => exact ⟨0, 0, rfl, Nat.zero_le _, rfl, by omega, Lib.hid (by simp [deeps]), I0⟩
  case round =>
   obtain ⟨i, m, rfl, hi, rfl, hm, MH, I⟩ := hrel
   clear I0 hw1
   have hi0 : (0 : Int) ≤ (i : Int) := by omega
   have hinc : IntKind.i64.wrap ((i : Int) + 1) = (i : Int) + 1 := IntWalk.i64_in _ (by omega)
   have nb := K1.out.below I.out.2 (by rw [Z1.out]; omega)
   obtain ⟨y0, y1, y2, y3, y4, y5⟩ := nv_bk nb
   by_cases hlt : i < n2
   ·obtain ⟨y, hy⟩ : ∃ y, ks[i]? = some y := ⟨_, List.getElem?_eq_getElem (by rw [HL.out]; exact hlt)⟩
    obtain ⟨xi, hxi, hin⟩ := (KW.out.below (I.out.1.mono HB.out)).at i y hy
    obtain ⟨b, off, rfl, _, nv⟩ := kid_at (OW.out.carry fun p hp => I.out.1.cell (Nat.lt_of_lt_of_le hp HB.out)).kids hxi hlt
    obtain ⟨ki, Ai, ni, ci, nti, A2i, n2i, c2i, mni, mxi⟩ := xi
    obtain ⟨u0, u1, u2, u3, u4, u5⟩ := nv_at nv
    have hi1 : (i : Int) < (n2 : Int) := by omega
    have q1 := deeps_take hy
    have q3 := deeps_at hy
    have hcc := CT.out
    have IH := Lib.hid (ih y ⟨ki, Ai, ni, ci, nti, A2i, n2i, c2i, mni, mxi⟩ lo B wr (by have := HF.out; omega) (by omega) (Nat.le_trans HB.out I.out.1.size) (hin.below (Below.refl _ _)))
    obtain ⟨m1, hm1⟩ : ∃ v, deep y = v := ⟨_, rfl⟩
    rw [hm1] at IH q1 q3
    have hmh := MH.out
    obtain ⟨mm, hmm⟩ : ∃ v, max m m1 = v := ⟨_, rfl⟩
    have hmax : max (m : Int) (m1 : Int) = (mm : Int) := by omega
    have M2 := Lib.hid (show mm = deeps (ks.take (i + 1)) from by rw [q1, ← hmm, hmh])
    have ML := Lib.hid (show mm ≤ 4611686018427387904 from by omega)
    have IN := Lib.hid I.out
    dsimp only [Nv.v] at IH
    clear hin nv nb I hy hxi hm1 q1 q3 hcc hmh MH hm hmm
    go_wp2_with fail
    refine IH.out.mono ?_
    rintro e w5 ⟨rfl, b7⟩
    have I5 := Lib.hid (show Below w.heap.size w w5 ∧ Below w1.heap.size w1 w5 from ⟨IN.out.1.trans (b7.mono IN.out.1.size), IN.out.2.trans (b7.mono IN.out.2.size)⟩)
    clear IH b7 u0 u1 u2 u3 u4 u5 y0 y1 y2 y3 y4 y5 IN
    go_wp2_with fail
    go_roundw
    case rel => exact ⟨i + 1, mm, by first | rfl | (congr 1; done) | (congr 1; omega), by omega, by first | rfl | (congr 1; done) | (congr 1; omega), ML.out, M2, I5⟩
    case measure => first | (simp [intOf]; done) | (simp [intOf]; omega)
   ·obtain rfl : i = n2 := by omega
    have F := Lib.hid (show m = CK from by have := MH.out; rw [List.take_of_length_le (by rw [HL.out]; exact Nat.le_refl _), CKH.out] at this; exact this)
    have IN := Lib.hid I.out.1
    have hck := CT.out
    rw [CKH.out] at hck
    have hadd : IntKind.i64.wrap ((CK : Int) + 1) = (CK : Int) + 1 := IntWalk.i64_in _ (by omega)
    obtain rfl := F.out
    clear MH I hm nb hck
    go_wp2_with fail
    go_ret
    exact ⟨rfl, IN.out⟩
end NF
namespace NF
theorem may_leaf {k : Int} {s : Sg} {nt : Bool} {n : Nat} {mn mx : Int} (h : mayAlone k s nt n mn mx = true) (h3 : k ≠ 3) (h4 : k ≠ 4) (h5 : k ≠ 5) : n = 0 := by
 unfold mayAlone at h
 split at h
 ·simp at h; exact h.1.1.2
 ·rw [if_neg (by omega)] at h
  try rw [if_neg h5] at h
  split at h
  ·simp at h; exact h.1.1.2
  ·cases h
theorem mul_cap {c m k C : Nat} (hk : 0 < k) (h : m = min c C) : min (m * k + 1) C = min (c * k + 1) C := by
 subst h
 rcases Nat.le_total c C with h1 | h1
 ·rw [Nat.min_eq_left h1]
 ·rw [Nat.min_eq_right h1]
  have h2 : C * 1 ≤ C * k := Nat.mul_le_mul_left C hk
  have h3 : C * k ≤ c * k := Nat.mul_le_mul_right k h1
  omega
theorem mul_ten {m k C : Nat} (hm : m ≤ C) (hk : k ≤ 10) : m * k ≤ C * 10 := Nat.mul_le_mul hm hk
theorem wrap_small (x : Nat) (h : x ≤ 100000000) : IntKind.i64.wrap (x : Int) = (x : Int) := IntWalk.i64_in _ (by omega)
theorem min_over {v C : Nat} (h : (C : Int) < (v : Int)) : min C C = min v C := by omega
theorem not_over {v C : Nat} (h : ¬ (C : Int) < (v : Int)) : v ≤ C + 1 := by omega
theorem min_cast {v u C : Nat} (h : min v C = u) : min (v : Int) (C : Int) = (u : Int) := by omega
theorem min_idem {v u C : Nat} (h : min v C = u) : u ≤ C + 1 ∧ min u C = min v C := by omega
theorem rep_facts {a : Int} {m c : Nat} (h0 : 0 ≤ a) (h9 : a ≤ 9) (hm : m ≤ 1000000) (hmc : m = min c 1000000) :
  ∃ (P : Int) (v : Nat), IntKind.i64.wrap (a + 1) = a + 1 ∧ IntKind.i64.wrap ((m : Int) * (a + 1)) = P ∧ IntKind.i64.wrap (P + 1) = (v : Int) ∧ min v 1000000 = min (c * (a.toNat + 1) + 1) 1000000 := by
 obtain ⟨k, hk⟩ : ∃ k, a.toNat + 1 = k := ⟨_, rfl⟩
 have hak : a + 1 = (k : Int) := by omega
 have hk1 : 0 < k := by omega
 have hk10 : k ≤ 10 := by omega
 have hmk := mul_ten hm hk10
 rw [hak, hk, ← mul_cap hk1 hmc, show (m : Int) * (k : Int) = ((m * k : Nat) : Int) from (Int.natCast_mul m k).symm]
 generalize m * k = q at hmk ⊢
 refine ⟨(q : Int), q + 1, wrap_small k (by omega), wrap_small q (by omega), ?_, rfl⟩
 rw [show (q : Int) + 1 = ((q + 1 : Nat) : Int) from rfl]
 exact wrap_small _ (by omega)
theorem rep_facts2 {b : Int} {m c : Nat} (h0 : 0 ≤ b) (h9 : b ≤ 9) (hm : m ≤ 1000000) (hmc : m = min c 1000000) :
  ∃ (P : Int) (v : Nat), IntKind.i64.wrap ((m : Int) * b) = P ∧ IntKind.i64.wrap (P + 1) = (v : Int) ∧ min v 1000000 = min (c * b.toNat + 1) 1000000 := by
 obtain ⟨k, rfl⟩ : ∃ k : Nat, b = (k : Int) := ⟨b.toNat, by omega⟩
 have hk10 : k ≤ 10 := by omega
 have hmk := mul_ten hm hk10
 have he : min (m * k + 1) 1000000 = min (c * k + 1) 1000000 := by
  rcases Nat.eq_zero_or_pos k with h | h
  ·rw [h]; simp
  ·exact mul_cap h hmc
 rw [Int.toNat_natCast, ← he, show (m : Int) * (k : Int) = ((m * k : Nat) : Int) from (Int.natCast_mul m k).symm]
 generalize m * k = q at hmk ⊢
 refine ⟨(q : Int), q + 1, wrap_small q (by omega), ?_, rfl⟩
 rw [show (q : Int) + 1 = ((q + 1 : Nat) : Int) from rfl]
 exact wrap_small _ (by omega)
theorem wts_take : ∀ {ks : List Nd} {i : Nat} {y : Nd}, ks[i]? = some y → wts (ks.take (i + 1)) = wts (ks.take i) + wt y
 | [], i, y, h => by simp at h
 | z :: zs, 0, y, h => by
  simp at h
  subst h
  simp [wts]
 | z :: zs, i + 1, y, h => by
  have := wts_take (ks := zs) (i := i) (y := y) (by simpa using h)
  rw [List.take_succ_cons, List.take_succ_cons, wts, wts, this]
  omega
theorem refWeight_walk : ∀ (fuel : Nat) (t : Nd) (x : Nv) (lo B : Nat) (w : World), deep t ≤ fuel → may t = true → B ≤ w.heap.size → NdIn w lo B t x →
  Calls Tryz.prog 19 #[x.v] w fun e w' => ∃ v : Nat, e = .returned (.int .i64 (v : Int)) ∧ v ≤ 1000001 ∧ min v 1000000 = min (wt t) 1000000 ∧ Below w.heap.size w w' := by
 intro fuel
 induction fuel with
 | zero =>
  intro t x lo B w hf
  cases t
  rw [deep] at hf
  omega
 | succ fuel ih =>
  intro t x lo B w hf hct hBw hx
  obtain ⟨k0, s0, nt0, ks, mn0, mx0⟩ := t
  rw [NdIn] at hx
  obtain ⟨e1, e2, e3, e4, xs, ho, hk⟩ := hx
  obtain ⟨k, A, n, c, nt, A2, n2, c2, mn, mx⟩ := x
  dsimp only at e1 e2 e3 e4
  subst e1 e2 e3 e4
  obtain ⟨w1, hw1, k1, b1, z1⟩ := boxed_node w k A n c nt A2 n2 c2 mn mx
  rw [deep] at hf
  obtain ⟨ma, mk⟩ := mays_kind hct
  have hwt : wt (.mk k s0 nt ks mn mx) = if k = 3 then wts ks else if k = 5 then (if mx < 0 then wts ks * (mn.toNat + 1) + 1 else wts ks * mx.toNat + 1) else wts ks + 1 := by rw [wt]
  rw [hwt]
  have MA := Lib.hid ma
  have hlen : ks.length = n2 := ho.len
  have hm2 : n2 ≤ 1759218604441 := ho.many2
  have K1 := Lib.hid k1
  have OW := Lib.hid ho
  have KW := Lib.hid hk
  have HF := Lib.hid hf
  have CT := Lib.hid mk
  have HL := Lib.hid hlen
  have HB := Lib.hid hBw
  have Z1 := Lib.hid z1
  have I0 := Lib.hid (show Below w.heap.size w w1 ∧ Below w1.heap.size w1 w1 from ⟨b1, Below.refl _ _⟩)
  obtain ⟨CK, hCK⟩ : ∃ v, wts ks = v := ⟨_, rfl⟩
  have CKH := Lib.hid hCK
  rw [hCK]
  dsimp only [Nv.v]
  clear ho hk k1 b1 z1 hlen hBw hf hct hCK ma mk hwt
  go_enter Tryz.func19, Tryz.ntmps19
  go_wp2_with fail
  go_loopw [4, 3] (fun y s3 wr => ∃ i m : Nat, y = .int .i64 (i : Int) ∧ i ≤ n2 ∧ s3 = .int .i64 (m : Int) ∧ m ≤ 1000000 ∧ Hid (m = min (wts (ks.take i)) 1000000) ∧ Hid (Below w.heap.size w wr ∧ Below w1.heap.size w1 wr)) (fun y _ _ => n2 - (intOf y).toNat)
  case atStart => exact ⟨0, 0, rfl, Nat.zero_le _, rfl, by omega, Lib.hid (by simp [wts]), I0⟩
  case round =>
   obtain ⟨i, m, rfl, hi, rfl, hm, MH, I⟩ := hrel
   clear I0 hw1
   have hi0 : (0 : Int) ≤ (i : Int) := by omega
   have hinc : IntKind.i64.wrap ((i : Int) + 1) = (i : Int) + 1 := IntWalk.i64_in _ (by omega)
   have nb := K1.out.below I.out.2 (by rw [Z1.out]; omega)
   obtain ⟨y0, y1, y2, y3, y4, y5⟩ := nv_bk nb
   by_cases hlt : i < n2
   ·obtain ⟨y, hy⟩ : ∃ y, ks[i]? = some y := ⟨_, List.getElem?_eq_getElem (by rw [HL.out]; exact hlt)⟩
    obtain ⟨xi, hxi, hin⟩ := (KW.out.below (I.out.1.mono HB.out)).at i y hy
    obtain ⟨b, off, rfl, _, nv⟩ := kid_at (OW.out.carry fun p hp => I.out.1.cell (Nat.lt_of_lt_of_le hp HB.out)).kids hxi hlt
    obtain ⟨ki, Ai, ni, ci, nti, A2i, n2i, c2i, mni, mxi⟩ := xi
    obtain ⟨u0, u1, u2, u3, u4, u5⟩ := nv_at nv
    have hi1 : (i : Int) < (n2 : Int) := by omega
    have q3 := deeps_at hy
    have q1 : wts (ks.take (i + 1)) = wts (ks.take i) + wt y := wts_take hy
    have IH := Lib.hid (ih y ⟨ki, Ai, ni, ci, nti, A2i, n2i, c2i, mni, mxi⟩ lo B wr (by have := HF.out; omega) (mays_at CT.out hy) (Nat.le_trans HB.out I.out.1.size) (hin.below (Below.refl _ _)))
    have Q1 := Lib.hid q1
    have IN := Lib.hid I.out
    dsimp only [Nv.v] at IH
    clear hin nv nb I hy hxi q1 q3
    go_wp2_with fail
    refine IH.out.mono ?_
    rintro e w5 ⟨m1, rfl, hv1, hv2, b7⟩
    have hmh := MH.out
    have hadd : IntKind.i64.wrap ((m : Int) + (m1 : Int)) = (m : Int) + (m1 : Int) := IntWalk.i64_in _ (by omega)
    obtain ⟨mm, hmm⟩ : ∃ v, min (m + m1) 1000000 = v := ⟨_, rfl⟩
    have hmin : min ((m : Int) + (m1 : Int)) 1000000 = (mm : Int) := by omega
    have M2 := Lib.hid (show mm = min (wts (ks.take (i + 1))) 1000000 from by rw [Q1.out]; omega)
    have ML := Lib.hid (show mm ≤ 1000000 from by omega)
    clear hmh hmm hv1 hv2 MH hm Q1
    have I5 := Lib.hid (show Below w.heap.size w w5 ∧ Below w1.heap.size w1 w5 from ⟨IN.out.1.trans (b7.mono IN.out.1.size), IN.out.2.trans (b7.mono IN.out.2.size)⟩)
    clear IH b7 u0 u1 u2 u3 u4 u5 y0 y1 y2 y3 y4 y5 IN
    go_wp2_with fail
    go_roundw
    case rel => exact ⟨i + 1, mm, by first | rfl | (congr 1; done) | (congr 1; omega), by omega, by first | rfl | (congr 1; done) | (congr 1; omega), ML.out, M2, I5⟩
    case measure => first | (simp [intOf]; done) | (simp [intOf]; omega)
   ·obtain rfl : i = n2 := by omega
    have F := Lib.hid (show m = min CK 1000000 from by have := MH.out; rw [List.take_of_length_le (by rw [HL.out]; exact Nat.le_refl _), CKH.out] at this; exact this)
    have IN := Lib.hid I.out.1
    have L0 := Lib.hid (show ks.length = 0 → CK = 0 from fun h => by rw [← CKH.out, List.length_eq_zero_iff.1 h, wts])
    have hml := hm
    clear MH I nb
    have hma := MA.out
    rcases may_kind hma with rfl | rfl | rfl | rfl | rfl | rfl
    ·have hz := L0.out (may_leaf hma (by decide) (by decide) (by decide))
     clear hma
     go_wp2_with fail
     go_ret
     exact ⟨1, rfl, by omega, by first | omega | (simp; omega), IN.out⟩
    ·clear hma
     go_wp2_with fail
     go_ret
     exact ⟨m, rfl, by omega, by have := F.out; first | omega | (simp; omega), IN.out⟩
    ·clear hma
     have hadd : IntKind.i64.wrap ((m : Int) + 1) = (m : Int) + 1 := IntWalk.i64_in _ (by omega)
     go_wp2_with fail
     go_ret
     exact ⟨m + 1, by first | rfl | (congr 1; congr 1; omega), by omega, by have := F.out; first | omega | (simp; omega), IN.out⟩
    ·obtain ⟨_, r1, r2, r3⟩ := may_rep hma
     clear hma
     by_cases hmx : mx < 0
     ·obtain ⟨P, v, f1, f2, f3, g2⟩ := rep_facts r1 r2 hm F.out
      have G := Lib.hid g2
      have G1 := Lib.hid (show 1000000 < (v : Int) → min 1000000 1000000 = min v 1000000 from fun h => min_over (C := 1000000) h)
      have G2 := Lib.hid (show ¬ 1000000 < (v : Int) → v ≤ 1000001 from fun h => not_over (C := 1000000) h)
      obtain ⟨u, hu⟩ : ∃ u, min v 1000000 = u := ⟨_, rfl⟩
      have hmn : min (v : Int) 1000000 = (u : Int) := min_cast (C := 1000000) hu
      have U := Lib.hid (min_idem hu)
      clear g2 r1 r2 r3 hu
      go_wp2_with fail
      all_goals go_ret
      all_goals first
       | exact ⟨u, rfl, U.out.1, U.out.2.trans G.out, IN.out⟩
       | exact ⟨1000000, rfl, by decide, (G1.out (by assumption)).trans G.out, IN.out⟩
       | exact ⟨v, rfl, G2.out (by first | assumption | omega), G.out, IN.out⟩
     ·obtain ⟨P, v, f2, f3, g2⟩ := rep_facts2 (show 0 ≤ mx by omega) (show mx ≤ 9 by omega) hm F.out
      have G := Lib.hid g2
      have G1 := Lib.hid (show 1000000 < (v : Int) → min 1000000 1000000 = min v 1000000 from fun h => min_over (C := 1000000) h)
      have G2 := Lib.hid (show ¬ 1000000 < (v : Int) → v ≤ 1000001 from fun h => not_over (C := 1000000) h)
      obtain ⟨u, hu⟩ : ∃ u, min v 1000000 = u := ⟨_, rfl⟩
      have hmn : min (v : Int) 1000000 = (u : Int) := min_cast (C := 1000000) hu
      have U := Lib.hid (min_idem hu)
      clear g2 r1 r2 r3 hu
      go_wp2_with fail
      all_goals go_ret
      all_goals first
       | exact ⟨u, rfl, U.out.1, U.out.2.trans G.out, IN.out⟩
       | exact ⟨1000000, rfl, by decide, (G1.out (by assumption)).trans G.out, IN.out⟩
       | exact ⟨v, rfl, G2.out (by first | assumption | omega), G.out, IN.out⟩
    ·have hz := L0.out (may_leaf hma (by decide) (by decide) (by decide))
     clear hma
     go_wp2_with fail
     go_ret
     exact ⟨1, rfl, by omega, by first | omega | (simp; omega), IN.out⟩
    ·have hz := L0.out (may_leaf hma (by decide) (by decide) (by decide))
     clear hma
     go_wp2_with fail
     go_ret
     exact ⟨1, rfl, by omega, by first | omega | (simp; omega), IN.out⟩
end NF
namespace NF
theorem below_drewN (w : World) : ∀ n, Below w.heap.size w (w.drewN n)
 | 0 => Below.refl _ _
 | n + 1 => (below_drewN w n).drew
def bools (L : List Bool) : List Value := L.map Value.bool
theorem made_bools (n : Nat) : madeCells #[Value.bool false] n = (bools (List.replicate n false)).toArray := by
 apply Array.ext
 ·rw [size_madeCells]; simp [bools]
 ·intro i h1 h2
  have h3 := made_false n i (by rw [size_madeCells] at h1; exact h1)
  rw [Array.getElem?_eq_getElem h1] at h3
  injection h3 with h3
  rw [h3]
  simp [bools]
def MkBk (w : World) (g : Nat) (L : List Bool) : Prop := Bk w 4 g (bools L).toArray
theorem MkBk.get {w : World} {g : Nat} {L : List Bool} (h : MkBk w g L) {i : Nat} {b : Bool} (hi : L[i]? = some b) : w.cell? ⟨g, i, none⟩ = some (.bool b) := by
 rw [Bk.get h i]
 simp [bools, hi]
theorem MkBk.set {w : World} {g : Nat} {L : List Bool} (h : MkBk w g L) (i : Nat) (b : Bool) : MkBk (w.setCell ⟨g, i, none⟩ (.bool b)) g (L.set i b) := by
 have := Bk.put h i (.bool b)
 unfold MkBk
 have e : (bools (L.set i b)).toArray = (bools L).toArray.setIfInBounds i (.bool b) := by
  simp [bools, List.map_set]
 rw [e]
 exact this
theorem MkBk.sq {w : World} {g : Nat} {L : List Bool} (h : MkBk w g L) : Sq w w.heap.size 1 L.length (some ⟨g, 0, none⟩) (bools L) :=
 ⟨by simp [bools], fun _ => ⟨g, 0, rfl, Bk.lt h, fun j u hu => by rw [Nat.zero_add, Bk.get h j]; simpa using hu⟩⟩
theorem sq_bool {w : World} {B n i : Nat} {A : Option Addr} {L : List Bool} {b : Bool} (h : Sq w B 1 n A (bools L)) (hi : L[i]? = some b) (hn : i < n) : ∃ g off, A = some ⟨g, off, none⟩ ∧ w.cell? ⟨g, off + i, none⟩ = some (.bool b) := by
 obtain ⟨g, off, e, _, hc⟩ := h.spot (by omega)
 exact ⟨g, off, e, hc i _ (by simp [bools, hi])⟩
theorem sq_boolN {w : World} {B n : Nat} {A : Option Addr} {L : List Bool} (h : Sq w B 1 n A (bools L)) : L.length = n := by have := h.len; simpa [bools] using this
theorem sqO_new' (w : World) (cs : Array Value) (t : TypeId) (size n : Nat) (hn : cs.toList.length = n * size) : Sq (w.alloc (.cells cs t)) (w.alloc (.cells cs t)).heap.size size n (some ⟨w.heap.size, 0, none⟩) cs.toList :=
 ⟨hn, fun _ => ⟨_, 0, rfl, by simp, fun j u hu => by
  rw [cell_of_row _ _ _ _ _ (0, 0) (heap_alloc_new w _), Nat.zero_add]
  simpa using hu⟩⟩
def MarkP (L : List Bool) (w : World) (e : Ending) (w' : World) : Prop := ∃ A c, e = .returned (.slice A L.length c) ∧ Sq w' w'.heap.size 1 L.length A (bools L) ∧ Below w.heap.size w w'
theorem both_walk (A A' : Option Addr) (n c c' B : Nat) (La Lb : List Bool) (w : World) (ha : Sq w B 1 n A (bools La)) (hb : Sq w B 1 n A' (bools Lb)) (hB : B ≤ w.heap.size) (hn : n ≤ 1000001) :
  Calls Tryz.prog 156 #[.slice A n c, .slice A' n c'] w fun e w' => MarkP (orL La Lb) w e w' := by
 obtain ⟨i0, hi, hz0, hz1, hz2⟩ := info_parts infoBool
 have hN0 : (0 : Int) ≤ (n : Int) := by omega
 have MK := run_make w 42 4 i0 (.bool false) Tryz.underlying42 hi hz0 .i64 .i64 (n : Int) (n : Int) hN0 (Int.le_refl _) (by rw [hz2]; omega) (by omega)
 rw [hz1, Int.toNat_natCast, Nat.mul_one] at MK
 have hla := sq_boolN ha
 have hlb := sq_boolN hb
 obtain ⟨w1, hw1⟩ : ∃ w1, w.alloc (.cells (madeCells #[.bool false] n) 4) = w1 := ⟨_, rfl⟩
 obtain ⟨g, hg⟩ : ∃ g, w.heap.size = g := ⟨_, rfl⟩
 have b1 : Below w.heap.size w w1 := by rw [← hw1]; exact (Below.refl _ _).alloc (Nat.le_refl _) _
 have k1 : MkBk w1 g (List.replicate n false) := by
  unfold MkBk
  rw [← hw1, ← hg, ← made_bools]
  exact heap_alloc_new w _
 have K1 := Lib.hid k1
 have B1 := Lib.hid b1
 have HA := Lib.hid ha
 have HBB := Lib.hid hb
 have LA := Lib.hid hla
 have LB := Lib.hid hlb
 have HG := Lib.hid hg
 have HW := Lib.hid hw1
 have HBS := Lib.hid hB
 clear ha hb hla hlb hw1 k1 b1 hB hg
 go_enter Tryz.func156, Tryz.ntmps156
 go_wp2_with fail
 rw [HG.out]
 first
  | rw [HW.out]
  | (change Code.wp _ _ _ _ (w.alloc (.cells (madeCells #[.bool false] n) 4)); rw [HW.out])
 go_loopw [6] (fun y wr => ∃ (i : Nat) (L : List Bool), y = .int .i64 (i : Int) ∧ i ≤ n ∧ Hid (MkBk wr g L ∧ L.length = n ∧ ∀ j, j < i → L[j]? = (orL La Lb)[j]?) ∧ Hid (Below w.heap.size w wr)) (fun y _ => n - (intOf y).toNat)
 case atStart => exact ⟨0, _, rfl, Nat.zero_le _, Lib.hid ⟨K1.out, by simp, fun j hj => absurd hj (Nat.not_lt_zero _)⟩, B1⟩
 case round =>
  obtain ⟨i, L, rfl, hin, KL, BR⟩ := hrel
  by_cases hlt : i < n
  ·obtain ⟨a, hxa⟩ : ∃ a, La[i]? = some a := ⟨_, List.getElem?_eq_getElem (by rw [LA.out]; exact hlt)⟩
   obtain ⟨b, hxb⟩ : ∃ b, Lb[i]? = some b := ⟨_, List.getElem?_eq_getElem (by rw [LB.out]; exact hlt)⟩
   obtain ⟨z, hxz⟩ : ∃ z, L[i]? = some z := ⟨_, List.getElem?_eq_getElem (by rw [KL.out.2.1]; exact hlt)⟩
   obtain ⟨ga, oa, rfl, ca⟩ := sq_bool (HA.out.below (BR.out.mono HBS.out)) hxa hlt
   obtain ⟨gb, ob, rfl, cb⟩ := sq_bool (HBB.out.below (BR.out.mono HBS.out)) hxb hlt
   have cz := KL.out.1.get hxz
   have fz := Bk.free KL.out.1 i
   have h1 : (i : Int) < (n : Int) := by omega
   have h0 : (0 : Int) ≤ (i : Int) := by omega
   have hw : IntKind.i64.wrap ((i : Int) + 1) = (i : Int) + 1 := IntWalk.i64_in _ (by omega)
   have S1 := Lib.hid (show ∀ x, x = (a || b) → MkBk (wr.setCell ⟨g, i, none⟩ (.bool x)) g (L.set i x) ∧ (L.set i x).length = n ∧ ∀ j, j < i + 1 → (L.set i x)[j]? = (orL La Lb)[j]? from fun x hx => ⟨KL.out.1.set i x, by rw [List.length_set]; exact KL.out.2.1, fun j hj => by
    by_cases hji : j = i
    ·subst hji
     rw [List.getElem?_set_self (by rw [KL.out.2.1]; exact hlt), hx]
     unfold orL
     rw [List.getElem?_zipWith, hxa, hxb]
    ·rw [List.getElem?_set_ne (by omega)]
     exact KL.out.2.2 j (by omega)⟩)
   have S2 := Lib.hid (show ∀ x, Below w.heap.size w (wr.setCell ⟨g, i, none⟩ (.bool x)) from fun x => BR.out.setCell (p := ⟨g, i, none⟩) (Nat.le_of_eq HG.out) _)
   clear hxa hxb hxz
   cases a with
   | true =>
    go_wp2_with fail
    go_roundw
    case rel => exact ⟨i + 1, L.set i true, by first | rfl | (congr 1; done) | (congr 1; omega), by omega, Lib.hid (S1.out true rfl), Lib.hid (S2.out true)⟩
    case measure => first | (simp [intOf]; done) | (simp [intOf]; omega)
   | false =>
    go_wp2_with fail
    go_roundw
    case rel => exact ⟨i + 1, L.set i b, by first | rfl | (congr 1; done) | (congr 1; omega), by omega, Lib.hid (S1.out b (by simp)), Lib.hid (S2.out b)⟩
    case measure => first | (simp [intOf]; done) | (simp [intOf]; omega)
  ·obtain rfl : i = n := by omega
   have e : L = orL La Lb := by
    have hl : (orL La Lb).length = i := by rw [or_len (by rw [LA.out, LB.out]), LA.out]
    apply List.ext_getElem?
    intro j
    by_cases hj : j < i
    ·exact KL.out.2.2 j hj
    ·rw [List.getElem?_eq_none (by rw [KL.out.2.1]; omega), List.getElem?_eq_none (by rw [hl]; omega)]
   have F := Lib.hid (show MarkP (orL La Lb) w (.returned (.slice (some ⟨g, 0, none⟩) i i)) wr from by
    have h := KL.out.1.sq
    rw [← e]
    have h2 := KL.out.2.1
    refine ⟨some ⟨g, 0, none⟩, i, by rw [h2], h, BR.out⟩)
   clear e
   go_wp2_with fail
   go_ret
   exact F.out
theorem same_walk (A A' : Option Addr) (n c c' B : Nat) (La Lb : List Bool) (w : World) (ha : Sq w B 1 n A (bools La)) (hb : Sq w B 1 n A' (bools Lb)) (hB : B ≤ w.heap.size) (hn : n ≤ 1000001) :
  Calls Tryz.prog 157 #[.slice A n c, .slice A' n c'] w fun e w' => e = .returned (.bool (decide (La = Lb))) ∧ Below w.heap.size w w' := by
 have hla := sq_boolN ha
 have hlb := sq_boolN hb
 have HA := Lib.hid ha
 have HBB := Lib.hid hb
 have LA := Lib.hid hla
 have LB := Lib.hid hlb
 have HBS := Lib.hid hB
 clear ha hb hla hlb hB
 go_enter Tryz.func157, Tryz.ntmps157
 go_wp2_with fail
 go_loopw [5] (fun y wr => ∃ (i : Nat), y = .int .i64 (i : Int) ∧ i ≤ n ∧ Hid (∀ j, j < i → La[j]? = Lb[j]?) ∧ Hid (Below w.heap.size w wr)) (fun y _ => n - (intOf y).toNat)
 case atStart => exact ⟨0, rfl, Nat.zero_le _, Lib.hid (fun j hj => absurd hj (Nat.not_lt_zero _)), Lib.hid (Below.refl _ _)⟩
 case round =>
  obtain ⟨i, rfl, hin, EQ, BR⟩ := hrel
  by_cases hlt : i < n
  ·obtain ⟨a, hxa⟩ : ∃ a, La[i]? = some a := ⟨_, List.getElem?_eq_getElem (by rw [LA.out]; exact hlt)⟩
   obtain ⟨b, hxb⟩ : ∃ b, Lb[i]? = some b := ⟨_, List.getElem?_eq_getElem (by rw [LB.out]; exact hlt)⟩
   obtain ⟨ga, oa, rfl, ca⟩ := sq_bool (HA.out.below (BR.out.mono HBS.out)) hxa hlt
   obtain ⟨gb, ob, rfl, cb⟩ := sq_bool (HBB.out.below (BR.out.mono HBS.out)) hxb hlt
   have h1 : (i : Int) < (n : Int) := by omega
   have h0 : (0 : Int) ≤ (i : Int) := by omega
   have hw : IntKind.i64.wrap ((i : Int) + 1) = (i : Int) + 1 := IntWalk.i64_in _ (by omega)
   have ca' : ∀ q, (wr.drewN q).cell? ⟨ga, oa + i, none⟩ = some (.bool a) := fun q => ca
   have cb' : ∀ q, (wr.drewN q).cell? ⟨gb, ob + i, none⟩ = some (.bool b) := fun q => cb
   have NE := Lib.hid (show a ≠ b → decide (La = Lb) = false from fun h => decide_eq_false fun e => by
    rw [e, hxb] at hxa
    injection hxa with hxa
    exact h hxa.symm)
   have EQ2 := Lib.hid (show a = b → ∀ j, j < i + 1 → La[j]? = Lb[j]? from fun h j hj => by
    by_cases hji : j = i
    ·rw [hji, hxa, hxb, h]
    ·exact EQ.out j (by omega))
   clear hxa hxb
   cases a <;> cases b
   ·go_wp2_with fail
    go_quiet (fail)
    rename_i nq
    have BD := Lib.hid (BR.out.trans ((below_drewN wr nq).mono BR.out.size))
    generalize wr.drewN nq = wq at BD ⊢
    go_wp2_with fail
    go_roundw
    case rel => exact ⟨i + 1, by first | rfl | (congr 1; done) | (congr 1; omega), by omega, Lib.hid (EQ2.out (by trivial)), BD⟩
    case measure => first | (simp [intOf]; done) | (simp [intOf]; omega)
   ·go_wp2_with fail
    go_quiet (fail)
    rename_i nq
    have BD := Lib.hid (BR.out.trans ((below_drewN wr nq).mono BR.out.size))
    generalize wr.drewN nq = wq at BD ⊢
    go_wp2_with fail
    go_ret
    exact ⟨ret_bool (NE.out (by decide)).symm, BD.out⟩
   ·go_wp2_with fail
    go_quiet (fail)
    rename_i nq
    have BD := Lib.hid (BR.out.trans ((below_drewN wr nq).mono BR.out.size))
    generalize wr.drewN nq = wq at BD ⊢
    go_wp2_with fail
    go_ret
    exact ⟨ret_bool (NE.out (by decide)).symm, BD.out⟩
   ·go_wp2_with fail
    go_quiet (fail)
    rename_i nq
    have BD := Lib.hid (BR.out.trans ((below_drewN wr nq).mono BR.out.size))
    generalize wr.drewN nq = wq at BD ⊢
    go_wp2_with fail
    go_roundw
    case rel => exact ⟨i + 1, by first | rfl | (congr 1; done) | (congr 1; omega), by omega, Lib.hid (EQ2.out (by trivial)), BD⟩
    case measure => first | (simp [intOf]; done) | (simp [intOf]; omega)
  ·obtain rfl : i = n := by omega
   have e : decide (La = Lb) = true := decide_eq_true (by
    apply List.ext_getElem?
    intro j
    by_cases hj : j < i
    ·exact EQ.out j hj
    ·rw [List.getElem?_eq_none (by rw [LA.out]; omega), List.getElem?_eq_none (by rw [LB.out]; omega)])
   have E := Lib.hid e
   clear e
   go_wp2_with fail
   go_ret
   exact ⟨ret_bool E.out.symm, BR.out⟩
theorem flatR_at {s : Sg} {i : Nat} {x : Int × Int} (h : s[i]? = some x) : (flatR s)[i * 2]? = some (.int .i32 x.1) ∧ (flatR s)[i * 2 + 1]? = some (.int .i32 x.2) := by
 induction s generalizing i with
 | nil => simp at h
 | cons y s ih =>
  have e : flatR (y :: s) = [.int .i32 y.1, .int .i32 y.2] ++ flatR s := rfl
  cases i with
  | zero => simp at h; subst h; exact ⟨rfl, rfl⟩
  | succ i =>
   have := ih (i := i) (by simpa using h)
   rw [e, List.getElem?_append_right (by simp; omega), List.getElem?_append_right (by simp; omega)]
   simp only [List.length_cons, List.length_nil]
   rw [show (i + 1) * 2 - (0 + 1 + 1) = i * 2 by omega, show (i + 1) * 2 + 1 - (0 + 1 + 1) = i * 2 + 1 by omega]
   exact this
theorem flatR_num {w : World} {B n : Nat} {A : Option Addr} {s : Sg} (h : Sq w B 2 n A (flatR s)) : s.length = n := by
 have h1 := h.len
 have : (flatR s).length = s.length * 2 := by
  clear h h1
  induction s with
  | nil => rfl
  | cons y s ih =>
   have e : flatR (y :: s) = [.int .i32 y.1, .int .i32 y.2] ++ flatR s := rfl
   rw [e, List.length_append, ih]
   simp
   omega
 omega
theorem any_take {s : Sg} {i : Nat} {x : Int × Int} (h : s[i]? = some x) (r : Int) : anyS (s.take (i + 1)) r = (anyS (s.take i) r || (decide (x.1 ≤ r) && decide (r ≤ x.2))) := by
 rw [take_mark h]
 unfold anyS
 rw [List.any_append]
 simp
theorem any_of_take {s : Sg} {i : Nat} {r : Int} (h : anyS (s.take i) r = true) : anyS s r = true := by
 unfold anyS at h ⊢
 rw [List.any_eq_true] at h ⊢
 obtain ⟨x, h1, h2⟩ := h
 exact ⟨x, List.mem_of_mem_take h1, h2⟩
theorem in_walk (k : Int) (A : Option Addr) (n c : Nat) (nt : Bool) (A2 : Option Addr) (n2 c2 : Nat) (mn mx : Int) (s : Sg) (r : Int) (w : World) (hq : Sq w w.heap.size 2 n A (flatR s)) (hn : n ≤ 17592186044416) :
  Calls Tryz.prog 155 #[.agg #[.int .i64 k, .slice A n c, .bool nt, .slice A2 n2 c2, .int .i64 mn, .int .i64 mx], .int .i32 r] w fun e w' => e = .returned (.bool (inSet s nt r)) ∧ Below w.heap.size w w' := by
 obtain ⟨w1, hw1, k1, b1, z1⟩ := boxed_node w k A n c nt A2 n2 c2 mn mx
 obtain ⟨y0, y1, y2, y3, y4, y5⟩ := nv_bk k1
 have hln := flatR_num hq
 have HQ := Lib.hid (hq.below b1)
 have B1 := Lib.hid b1
 have HL := Lib.hid hln
 clear hq b1 k1 z1 hln y0 y3 y4 y5
 go_enter Tryz.func155, Tryz.ntmps155
 go_wp2_with fail
 go_loopw [5] (fun y wr => ∃ (i : Nat), y = .int .i64 (i : Int) ∧ i ≤ n ∧ Hid (anyS (s.take i) r = false) ∧ wr = w1) (fun y _ => n - (intOf y).toNat)
 case atStart => exact ⟨0, rfl, Nat.zero_le _, Lib.hid rfl, by trivial⟩
 case round =>
  obtain ⟨i, rfl, hin, NO, rfl⟩ := hrel
  by_cases hlt : i < n
  ·obtain ⟨x, hx⟩ : ∃ x, s[i]? = some x := ⟨_, List.getElem?_eq_getElem (by rw [HL.out]; exact hlt)⟩
   obtain ⟨lo, hi⟩ := x
   obtain ⟨b, off, rfl, _, hc⟩ := HQ.out.spot (by omega)
   have c0 : wr.cell? ⟨b, off + i * 2, none⟩ = some (.int .i32 lo) := hc _ _ (flatR_at hx).1
   have c1 : wr.cell? ⟨b, off + i * 2 + 1, none⟩ = some (.int .i32 hi) := by rw [Nat.add_assoc]; exact hc _ _ (flatR_at hx).2
   have h1 : (i : Int) < (n : Int) := by omega
   have h0 : (0 : Int) ≤ (i : Int) := by omega
   have hw : IntKind.i64.wrap ((i : Int) + 1) = (i : Int) + 1 := IntWalk.i64_in _ (by omega)
   have AT := any_take hx r
   rw [NO.out] at AT
   have ATH := Lib.hid AT
   clear hc hx AT
   by_cases hlo : lo ≤ r
   ·by_cases hhi : r ≤ hi
    ·have F := Lib.hid (show inSet s nt r = !nt from by
      have h2 := any_of_take (ATH.out.trans (by simp [hlo, hhi]))
      unfold inSet
      rw [h2]
      cases nt <;> rfl)
     go_wp2_with fail
     go_ret
     exact ⟨ret_bool F.out.symm, B1.out⟩
    ·have N2 := Lib.hid (ATH.out.trans (show (false || (decide (lo ≤ r) && decide (r ≤ hi))) = false by simp [hhi]))
     go_wp2_with fail
     go_roundw
     case rel => exact ⟨i + 1, by first | rfl | (congr 1; done) | (congr 1; omega), by omega, N2, by trivial⟩
     case measure => first | (simp [intOf]; done) | (simp [intOf]; omega)
   ·have N2 := Lib.hid (ATH.out.trans (show (false || (decide (lo ≤ r) && decide (r ≤ hi))) = false by simp [hlo]))
    go_wp2_with fail
    go_roundw
    case rel => exact ⟨i + 1, by first | rfl | (congr 1; done) | (congr 1; omega), by omega, N2, by trivial⟩
    case measure => first | (simp [intOf]; done) | (simp [intOf]; omega)
  ·obtain rfl : i = n := by omega
   have F := Lib.hid (show inSet s nt r = nt from by
    have := NO.out
    rw [List.take_of_length_le (by rw [HL.out]; exact Nat.le_refl _)] at this
    unfold inSet
    rw [this]
    cases nt <;> rfl)
   go_wp2_with fail
   go_ret
   exact ⟨ret_bool F.out.symm, B1.out⟩
end NF
