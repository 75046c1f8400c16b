/-
  Statements that draw their order: what must come ahead of what; what a part of the heap leaves of the whole.
-/
import Derived.Test.YtibompboimeedaaGreatDoorEvQ
namespace Go.Proofs.YtibompboimeedaaGreatDoor.Ev
theorem maskE_bit (t : Tr Nat) : ∀ (es : List Edge) (s j : Nat), (maskE t es s).testBit j = true ↔ s.testBit j = true ∨ ∃ e ∈ es, bind1 e = true ∧ (j = e.on ∨ ∃ m, t.get e.on = some m ∧ m.testBit j = true)
  | [], s, j => by simp [maskE]
  | e :: es, s, j => by
    simp only [maskE]
    cases hb : bind1 e with
    | false =>
      rw [cond_false, maskE_bit t es s j]
      simp [hb]
    | true =>
      rw [cond_true, maskE_bit t es _ j]
      refine Iff.trans (or_congr (c := s.testBit j = true ∨ (j = e.on ∨ ∃ m, t.get e.on = some m ∧ m.testBit j = true)) ?_ Iff.rfl) ?_
      · rw [Nat.testBit_or, Nat.testBit_or, Nat.testBit_two_pow, Bool.or_eq_true, Bool.or_eq_true, decide_eq_true_eq, or_assoc]
        refine or_congr Iff.rfl (or_congr ⟨Eq.symm, Eq.symm⟩ ?_)
        cases t.get e.on with
        | none => exact ⟨(fun h => by rw [Nat.zero_testBit] at h; cases h), (by rintro ⟨m, h, _⟩; cases h)⟩
        | some m => exact ⟨fun h => ⟨m, rfl, h⟩, (by rintro ⟨m', h, k⟩; obtain rfl := some_inj h; exact k)⟩
      constructor
      · rintro ((h | h) | ⟨e', h1, h2⟩)
        · exact .inl h
        · exact .inr ⟨e, List.mem_cons_self .., hb, h⟩
        · exact .inr ⟨e', List.mem_cons_of_mem _ h1, h2⟩
      · rintro (h | ⟨e', h1, h2⟩)
        · exact .inl (.inl h)
        · rcases List.mem_cons.1 h1 with rfl | h1
          · exact .inl (.inr h2.2)
          · exact .inr ⟨e', h1, h2⟩
theorem befT_spec : ∀ (l : List Oper) (i : Nat) (t : Tr Nat), (∀ j, i ≤ j → t.get j = none) → (∀ j, j < i → (befT l i t).get j = t.get j) ∧ (∀ j, i + l.length ≤ j → (befT l i t).get j = none) ∧
    ∀ k o, l[k]? = some o → ∃ tk, (befT l i t).get (i + k) = some (maskE tk o.after.toList 0) ∧ (∀ j, j < i + k → tk.get j = (befT l i t).get j)
  | [], i, t, h => ⟨fun _ _ => rfl, fun j hj => h j (by simpa using hj), fun k o ho => by simp at ho⟩
  | o :: l, i, t, h => by
    obtain ⟨h1, h2, h3⟩ := befT_spec l (i + 1) (t.put i (some (maskE t o.after.toList 0))) (fun j hj => by rw [Tr.get_put_ne _ _ (by omega)]; exact h j (by omega))
    refine ⟨fun j hj => ?_, fun j hj => h2 j (by simp at hj; omega), fun k o' ho => ?_⟩
    · show (befT l (i + 1) _).get j = _
      rw [h1 j (by omega), Tr.get_put_ne _ _ (by omega)]
    · cases k with
      | zero =>
        simp at ho
        subst ho
        refine ⟨t, ?_, fun j hj => ?_⟩
        · show (befT l (i + 1) _).get i = _
          rw [h1 i (by omega), Tr.get_put_self]
        · show _ = (befT l (i + 1) _).get j
          rw [h1 j (by omega), Tr.get_put_ne _ _ (by omega)]
      | succ k =>
        simp at ho
        obtain ⟨tk, e1, e2⟩ := h3 k o' ho
        refine ⟨tk, ?_, fun j hj => e2 j (by omega)⟩
        show (befT l (i + 1) _).get (i + (k + 1)) = _
        rw [← e1]; congr 1; omega
/-- What must come ahead: the edges, and what must come ahead of those. -/
theorem mask_edge {l : List Oper} {i m : Nat} {o : Oper} (ho : l[i]? = some o) (hm : (befT l 0 .lf).get i = some m) {e : Edge} (he : e ∈ o.after.toList) (hb : bind1 e = true) : m.testBit e.on = true := by
  obtain ⟨tk, e1, _⟩ := (befT_spec l 0 .lf (fun _ _ => rfl)).2.2 i o ho
  rw [Nat.zero_add] at e1
  rw [e1] at hm
  rw [← some_inj hm, maskE_bit]
  exact .inr ⟨e, he, hb, .inl rfl⟩
theorem mask_bits {l : List Oper} {i m : Nat} {o : Oper} (ho : l[i]? = some o) (hm : (befT l 0 .lf).get i = some m) (hlt : m < 2 ^ i) {j : Nat} (hj : m.testBit j = true) :
    ∃ e ∈ o.after.toList, bind1 e = true ∧ (j = e.on ∨ ∃ m', (befT l 0 .lf).get e.on = some m' ∧ m'.testBit j = true) := by
  have small : ∀ {j : Nat}, m.testBit j = true → j < i := fun {j} h => by
    have := Nat.ge_two_pow_of_testBit h
    rcases Nat.lt_or_ge j i with h1 | h1
    · exact h1
    · have := Nat.pow_le_pow_right (n := 2) (by omega) h1; omega
  have edge := fun {e : Edge} (he : e ∈ o.after.toList) (hb : bind1 e = true) => mask_edge ho hm he hb
  obtain ⟨tk, e1, e2⟩ := (befT_spec l 0 .lf (fun _ _ => rfl)).2.2 i o ho
  rw [Nat.zero_add] at e1 e2
  have hm' := hm
  rw [e1] at hm'
  rw [← some_inj hm', maskE_bit] at hj
  rcases hj with hj | ⟨e, he, hb, h⟩
  · simp at hj
  · refine ⟨e, he, hb, h.imp id ?_⟩
    rintro ⟨m', h1, h2⟩
    exact ⟨m', by rw [← e2 e.on (small (edge he hb))]; exact h1, h2⟩
theorem mask_small {i m j : Nat} (hlt : m < 2 ^ i) (hj : m.testBit j = true) : j < i := by
  have := Nat.ge_two_pow_of_testBit hj
  rcases Nat.lt_or_ge j i with h1 | h1
  · exact h1
  · have := Nat.pow_le_pow_right (n := 2) (by omega) h1; omega
theorem bind1_eq (e : Edge) : bind1 e = Region.binds .any e := by
  unfold bind1 Region.binds
  cases e.ground <;> rfl
noncomputable def putAll (t : Tr Blk) : List (Nat × Blk) → Tr Blk
  | [] => t
  | x :: S => (putAll t S).put x.1 (some x.2)
theorem putAll_some {t : Tr Blk} : ∀ {S : List (Nat × Blk)} {j : Nat} {b : Blk}, (putAll t S).get j = some b → t.get j = some b ∨ (j, b) ∈ S
  | [], j, b, h => .inl h
  | x :: S, j, b, h => by
    simp only [putAll, Tr.get_put] at h
    by_cases e : j = x.1
    · rw [if_pos e] at h
      have := some_inj h
      subst this e
      exact .inr (List.mem_cons_self ..)
    · rw [if_neg e] at h
      exact (putAll_some h).imp id fun h => List.mem_cons_of_mem _ h
theorem putAll_old {t : Tr Blk} : ∀ {S : List (Nat × Blk)} {j : Nat}, (∀ x ∈ S, x.1 ≠ j) → (putAll t S).get j = t.get j
  | [], j, _ => rfl
  | x :: S, j, h => by
    simp only [putAll, Tr.get_put]
    rw [if_neg (fun e => h x (List.mem_cons_self ..) e.symm)]
    exact putAll_old fun y hy => h y (List.mem_cons_of_mem _ hy)
theorem putAll_new {t : Tr Blk} {f : Nat → Option Blk} : ∀ {S : List (Nat × Blk)}, (∀ x ∈ S, f x.1 = some x.2) → ∀ x ∈ S, (putAll t S).get x.1 = some x.2
  | y :: S, h, x, hx => by
    simp only [putAll, Tr.get_put]
    by_cases e : x.1 = y.1
    · rw [if_pos e]
      have h1 := h x hx
      have h2 := h y (List.mem_cons_self ..)
      rw [e] at h1
      rw [h1] at h2
      exact congrArg some (some_inj h2).symm
    · rw [if_neg e]
      rcases List.mem_cons.1 hx with rfl | hx
      · exact absurd rfl e
      · exact putAll_new (fun z hz => h z (List.mem_cons_of_mem _ hz)) x hx
/-- Steps one behind the other, where numbers are counted over all. -/
theorem Kept.all {a b c : Val} {h : H} {w v u : World} {t t' : Tr Blk} {N : Nat} (x : Kept a h w b ⟨t, N⟩ v) (y : Kept b ⟨t, h.nx⟩ v c ⟨t', N⟩ u) : Kept a h w c ⟨t', N⟩ u where
  same := x.same.trans y.same
  dom j hj := by
    rcases y.dom j hj with h1 | h1
    · exact x.dom j h1
    · exact .inr h1
  size := Nat.le_trans x.size y.size
  os := y.os.trans x.os
  tape := y.tape.trans x.tape
  output := y.output.trans x.output
  frame i hi hn := (y.frame i (Nat.lt_of_lt_of_le hi x.size) fun j z hj hz e => by
    rcases x.own j z hj with h1 | ⟨m, n, h1, h2, h3⟩
    · omega
    · exact hn m n h1 (h2 hz) (h3.trans e)).trans (x.frame i hi hn)
  own j z hj := by
    rcases y.own j z hj with h1 | ⟨m, n, h1, h2, h3⟩
    · exact .inl (Nat.le_trans x.size h1)
    · rcases x.own m n h1 with h4 | ⟨p, q, h4, h5, h6⟩
      · exact .inl (h3 ▸ h4)
      · exact .inr ⟨p, q, h4, fun hz => h5 (h2 hz), h6.trans h3⟩
/-- A step that was reckoned over a part of the heap, said of the whole. -/
theorem widen {G : Nat} {σ τ : Val} {hD hp k : H} {w v : World} (g : Goes G σ hp w τ k v) (r : Rel G σ hD w) (sub : ∀ j b, hp.t.get j = some b → hD.t.get j = some b) (S : List (Nat × Blk)) (hS : ∀ x ∈ S, hD.t.get x.1 = some x.2 ∧ hp.t.get x.1 = none)
    {a b : Nat} (ha : a ≤ hp.nx) (hb : k.nx ≤ b) :
    ∃ t : Tr Blk, Rel G τ ⟨t, b⟩ v ∧ Kept σ ⟨hD.t, a⟩ w τ ⟨t, b⟩ v ∧ (∀ j b, k.t.get j = some b → t.get j = some b) ∧ (∀ x ∈ S, t.get x.1 = some x.2 ∧ k.t.get x.1 = none) := by
  have noK : ∀ x ∈ S, ∀ j y, k.t.get j = some y → τ.blk j ≠ σ.blk x.1 := by
    intro x hx j y hj e
    obtain ⟨h1, h2⟩ := hS x hx
    have hin := (r.at_ x.1 x.2 h1).inside
    rcases g.kept.own j y hj with h3 | ⟨i, z, h3, _, h5⟩
    · omega
    · have := r.inj i z x.1 x.2 (sub i z h3) h1 (h5.trans e)
      subst this
      rw [h2] at h3; cases h3
  have blkS : ∀ x ∈ S, τ.blk x.1 = σ.blk x.1 := fun x hx => g.kept.same.blk _ (r.lt _ _ (hS x hx).1)
  have kNone : ∀ x ∈ S, k.t.get x.1 = none := by
    intro x hx
    cases hk : k.t.get x.1 with
    | none => rfl
    | some y => exact absurd (blkS x hx) (noK x hx _ _ hk)
  have fS : ∀ x ∈ S, (fun j => hD.t.get j) x.1 = some x.2 := fun x hx => (hS x hx).1
  refine ⟨putAll k.t S, ⟨fun j b hj => ?_, fun j b hj => ?_, fun j b i c hj hi e => ?_, g.rel.g⟩, ⟨g.kept.same, fun j hj => (g.kept.dom j hj).imp id fun h => ⟨Nat.le_trans ha h.1, Nat.lt_of_lt_of_le h.2 hb⟩, g.kept.size, g.kept.os, g.kept.tape, g.kept.output,
    fun i hi hn => g.kept.frame i hi fun j x hj hx => hn j x (sub j x hj) hx, fun j x hj => ?_⟩, fun j b hj => ?_, fun x hx => ⟨putAll_new fS x hx, kNone x hx⟩⟩
  · rcases putAll_some hj with h1 | h1
    · exact g.rel.at_ j b h1
    · obtain ⟨h2, h3⟩ := hS _ h1
      refine (r.at_ j b h2).keep (r.lt j b h2) g.kept.same (g.kept.frame _ (r.at_ j b h2).inside fun i x hi hx e => ?_)
      have := r.inj i x j b (sub i x hi) h2 e
      subst this
      rw [h3] at hi; cases hi
  · rcases putAll_some hj with h1 | h1
    · exact g.rel.lt j b h1
    · exact g.kept.same.dom j (r.lt j b (hS _ h1).1)
  · rcases putAll_some hj with h1 | h1 <;> rcases putAll_some hi with h2 | h2
    · exact g.rel.inj j b i c h1 h2 e
    · exact absurd (e.trans (blkS _ h2)) (noK _ h2 j b h1)
    · exact absurd (e.symm.trans (blkS _ h1)) (noK _ h1 i c h2)
    · exact r.inj j b i c (hS _ h1).1 (hS _ h2).1 (by rw [← blkS _ h1, ← blkS _ h2]; exact e)
  · rcases putAll_some hj with h1 | h1
    · rcases g.kept.own j x h1 with h2 | ⟨i, y, h2, h3, h4⟩
      · exact .inl h2
      · exact .inr ⟨i, y, sub i y h2, h3, h4⟩
    · exact .inr ⟨j, x, (hS _ h1).1, fun h => h, (blkS _ h1).symm⟩
  · rw [putAll_old (fun x hx e => by have := kNone x hx; rw [e, hj] at this; cases this)]
    exact hj
end Go.Proofs.YtibompboimeedaaGreatDoor.Ev
