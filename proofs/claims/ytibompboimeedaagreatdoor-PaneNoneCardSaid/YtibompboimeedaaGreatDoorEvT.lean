/-
  Statements that draw their order: what holds of the states, one behind another.
-/
import Derived.Test.YtibompboimeedaaGreatDoorEvS
namespace Go.Proofs.YtibompboimeedaaGreatDoor.Ev
/-- The states that the evaluator goes through. -/
structure Run (P : Program) (ev : Job → Option Out) (ops : Array Oper) (n : Nat) (env : Tr A) (h : H) (st : Nat → Dr) : Prop where
  fresh : freshDst ops.toList [] = true
  step : ∀ i o, ops[i]? = some o → ∃ m b a, (befT ops.toList 0 .lf).get i = some m ∧ m < 2 ^ i ∧ guardIn m o.guard = true ∧ known ops.toList (befT ops.toList 0 .lf) i m (tmpsOf (opnds o.op)) = true ∧
    wantedA ops.toList (st i).env o = some b ∧ Kind (tabOf P) ev n i m o (st i) b a (st (i + 1))
  start : st 0 = ⟨env, h, [], [], [h], [], []⟩
section
variable {P : Program} {ev : Job → Option Out} {ops : Array Oper} {n : Nat} {env : Tr A} {h : H} {st : Nat → Dr}
theorem Run.kind (R : Run P ev ops n env h st) {i : Nat} (hi : i < ops.size) : ∃ o m b a, ops[i]? = some o ∧ (befT ops.toList 0 .lf).get i = some m ∧ m < 2 ^ i ∧ Kind (tabOf P) ev n i m o (st i) b a (st (i + 1)) := by
  obtain ⟨m, b, a, h1, h2, _, _, _, h3⟩ := R.step i ops[i] (by simp [hi])
  exact ⟨ops[i], m, b, a, by simp [hi], h1, h2, h3⟩
/-- Chain operations come up one behind another. -/
theorem Run.ch_lt (R : Run P ev ops n env h st) : ∀ {i : Nat}, i ≤ ops.size → ∀ c ∈ (st i).ch, c < i
  | 0, _, c, hc => by rw [R.start] at hc; cases hc
  | i + 1, hi, c, hc => by
    obtain ⟨o, m, b, a, _, _, _, k⟩ := R.kind (i := i) (by omega)
    rcases k.ch with ⟨h1, _⟩ | ⟨_, h1, _⟩
    · rw [h1] at hc
      have := R.ch_lt (i := i) (by omega) c hc; omega
    · rw [h1] at hc
      rcases List.mem_cons.1 hc with rfl | hc
      · omega
      · have := R.ch_lt (i := i) (by omega) c hc; omega
theorem Run.ch_app (R : Run P ev ops n env h st) {i : Nat} : ∀ {j : Nat}, i ≤ j → j ≤ ops.size → ∃ us us', (st j).ch = us ++ (st i).ch ∧ (st j).hs = us' ++ (st i).hs ∧ us.length = us'.length ∧ ∀ c ∈ us, i ≤ c
  | 0, h0, _ => by
    have : i = 0 := by omega
    subst this
    exact ⟨[], [], rfl, rfl, rfl, fun c hc => by cases hc⟩
  | j + 1, h0, hj => by
    by_cases e : i = j + 1
    · subst e
      exact ⟨[], [], rfl, rfl, rfl, fun c hc => by cases hc⟩
    · obtain ⟨us, us', e1, e2, e3, e4⟩ := R.ch_app (i := i) (j := j) (by omega) (by omega)
      obtain ⟨o, m, b, a, _, _, _, k⟩ := R.kind (i := j) (by omega)
      rcases k.ch with ⟨h1, _, h2⟩ | ⟨_, h1, h2⟩
      · exact ⟨us, us', by rw [h1, e1], by rw [h2, e2], e3, e4⟩
      · refine ⟨j :: us, (st (j + 1)).h :: us', by rw [h1, e1]; rfl, by rw [h2, e2]; rfl, by simp [e3], fun c hc => ?_⟩
        rcases List.mem_cons.1 hc with rfl | hc
        · omega
        · exact e4 c hc
theorem Run.ch_iff (R : Run P ev ops n env h st) {i : Nat} (hi : i ≤ ops.size) {c : Nat} : c ∈ (st i).ch ↔ c ∈ (st ops.size).ch ∧ c < i := by
  obtain ⟨us, _, e1, _, _, e4⟩ := R.ch_app hi (Nat.le_refl _)
  rw [e1, List.mem_append]
  constructor
  · intro hc; exact ⟨.inr hc, R.ch_lt hi c hc⟩
  · rintro ⟨h1 | h1, h2⟩
    · have := e4 c h1; omega
    · exact h1
/-- Between two states without a chain operation. -/
theorem Run.ch_same (R : Run P ev ops n env h st) {i : Nat} : ∀ {j : Nat}, i ≤ j → j ≤ ops.size → (∀ c ∈ (st j).ch, c < i) → (st j).ch = (st i).ch ∧ (st j).h.t = (st i).h.t ∧ (st j).hs = (st i).hs
  | 0, h0, _, _ => by
    have : i = 0 := by omega
    subst this
    exact ⟨rfl, rfl, rfl⟩
  | j + 1, h0, hj, hc => by
    by_cases e : i = j + 1
    · subst e; exact ⟨rfl, rfl, rfl⟩
    · obtain ⟨o, m, b, a, _, _, _, k⟩ := R.kind (i := j) (by omega)
      rcases k.ch with ⟨h1, h2, h3⟩ | ⟨_, h1, _⟩
      · obtain ⟨i1, i2, i3⟩ := R.ch_same (i := i) (j := j) (by omega) (by omega) (fun c hc' => hc c (by rw [h1]; exact hc'))
        exact ⟨h1.trans i1, h2.trans i2, h3.trans i3⟩
      · have := hc j (by rw [h1]; exact List.mem_cons_self ..)
        omega
theorem Run.hs_head (R : Run P ev ops n env h st) : ∀ {i : Nat}, i ≤ ops.size → ∃ k ks, (st i).hs = k :: ks ∧ k.t = (st i).h.t
  | 0, _ => ⟨h, [], by rw [R.start], by rw [R.start]⟩
  | i + 1, hi => by
    obtain ⟨o, m, b, a, _, _, _, k⟩ := R.kind (i := i) (by omega)
    rcases k.ch with ⟨_, h2, h3⟩ | ⟨_, _, h3⟩
    · obtain ⟨k, ks, e1, e2⟩ := R.hs_head (i := i) (by omega)
      exact ⟨k, ks, h3.trans e1, e2.trans h2.symm⟩
    · exact ⟨_, _, h3, rfl⟩
theorem Run.lk_sub (R : Run P ev ops n env h st) {i : Nat} : ∀ {j : Nat}, i ≤ j → j ≤ ops.size → ∀ l ∈ (st i).lk, l ∈ (st j).lk
  | 0, h0, _, l, hl => by
    have : i = 0 := by omega
    subst this; exact hl
  | j + 1, h0, hj, l, hl => by
    by_cases e : i = j + 1
    · subst e; exact hl
    · obtain ⟨o, m, b, a, _, _, _, k⟩ := R.kind (i := j) (by omega)
      obtain ⟨x, hx⟩ := k.lk
      rw [hx]
      exact List.mem_append_right _ (R.lk_sub (i := i) (j := j) (by omega) (by omega) l hl)
theorem Run.al_sub (R : Run P ev ops n env h st) {i : Nat} : ∀ {j : Nat}, i ≤ j → j ≤ ops.size → ∀ l ∈ (st i).al, l ∈ (st j).al
  | 0, h0, _, l, hl => by
    have : i = 0 := by omega
    subst this; exact hl
  | j + 1, h0, hj, l, hl => by
    by_cases e : i = j + 1
    · subst e; exact hl
    · obtain ⟨o, m, b, a, _, _, _, k⟩ := R.kind (i := j) (by omega)
      have ih := R.al_sub (i := i) (j := j) (by omega) (by omega) l hl
      rcases k.al with h1 | ⟨x, h1, _⟩
      · rw [h1]; exact ih
      · rw [h1]; exact List.mem_cons_of_mem _ ih
/-- Whose a new block is. -/
theorem Run.al_own (R : Run P ev ops n env h st) : ∀ {i : Nat}, i ≤ ops.size → ∀ p ∈ (st i).al, p.op < i ∧ (st (p.op + 1)).al = p :: (st p.op).al ∧ p.id = (st p.op).h.nx ∧ (st (p.op + 1)).h.nx = p.id + 1
  | 0, _, p, hp => by rw [R.start] at hp; cases hp
  | i + 1, hi, p, hp => by
    obtain ⟨o, m, b, a, _, _, _, k⟩ := R.kind (i := i) (by omega)
    rcases k.al with h1 | ⟨x, h1, h2⟩
    · rw [h1] at hp
      obtain ⟨i1, i2⟩ := R.al_own (i := i) (by omega) p hp
      exact ⟨by omega, i2⟩
    · rw [h1] at hp
      rcases List.mem_cons.1 hp with rfl | hp
      · exact ⟨Nat.lt_succ_self i, h1, rfl, h2⟩
      · obtain ⟨i1, i2⟩ := R.al_own (i := i) (by omega) p hp
        exact ⟨by omega, i2⟩
/-- New blocks that no chain operation has needed. -/
theorem Run.xs_own (R : Run P ev ops n env h st) : ∀ {i : Nat}, i ≤ ops.size → ∀ p ∈ (st i).xs, p ∈ (st i).al ∧ anyNeeds (befT ops.toList 0 .lf) p.op (st i).ch = false
  | 0, _, p, hp => by rw [R.start] at hp; cases hp
  | i + 1, hi, p, hp => by
    obtain ⟨o, m, b, a, _, hm, _, k⟩ := R.kind (i := i) (by omega)
    rcases k.xs hp with ⟨h1, h2⟩ | ⟨h1, h2, h3⟩
    · obtain ⟨i1, i2⟩ := R.xs_own (i := i) (by omega) p h1
      refine ⟨R.al_sub (Nat.le_succ i) hi p i1, ?_⟩
      rcases h2 with h2 | ⟨h2, h3⟩
      · rw [h2]; exact i2
      · rw [h2, anyNeeds_false]
        intro c hc
        rcases List.mem_cons.1 hc with rfl | hc
        · exact ⟨m, hm, h3⟩
        · exact anyNeeds_false.1 i2 c hc
    · refine ⟨by rw [h2]; exact List.mem_cons_self .., ?_⟩
      rw [h3, anyNeeds_false]
      intro c hc
      have hlt := R.ch_lt (i := i) (by omega) c hc
      obtain ⟨_, mc, _, _, _, e1, e2, _⟩ := R.kind (i := c) (by omega)
      refine ⟨mc, e1, ?_⟩
      cases ht : mc.testBit p.op with
      | false => rfl
      | true => have := mask_small e2 ht; omega
theorem Run.nx (R : Run P ev ops n env h st) (T : Truth P ev) {i : Nat} : ∀ {j : Nat}, i ≤ j → j ≤ ops.size → (st i).h.nx ≤ (st j).h.nx
  | 0, h0, _ => by
    have : i = 0 := by omega
    subst this; exact Nat.le_refl _
  | j + 1, h0, hj => by
    by_cases e : i = j + 1
    · subst e; exact Nat.le_refl _
    · obtain ⟨o, m, b, a, _, _, _, k⟩ := R.kind (i := j) (by omega)
      refine Nat.le_trans (R.nx T (i := i) (j := j) (by omega) (by omega)) ?_
      generalize hs : st (j + 1) = s' at k
      cases k
      case chain => rename_i hl hop hp; exact (oper_wp (r := none) (n := n) (ds := []) T hop).1
      all_goals first | exact Nat.le_refl _ | exact Nat.le_succ _
/-- A slot that nobody writes between. -/
theorem Run.env_same (R : Run P ev ops n env h st) {i t : Nat} : ∀ {j : Nat}, i ≤ j → j ≤ ops.size → (∀ k o, i ≤ k → k < j → ops[k]? = some o → o.dst ≠ some t) → (st j).env.get t = (st i).env.get t
  | 0, h0, _, _ => by
    have : i = 0 := by omega
    subst this; rfl
  | j + 1, h0, hj, hn => by
    by_cases e : i = j + 1
    · subst e; rfl
    · obtain ⟨o, m, b, a, ho, _, _, k⟩ := R.kind (i := j) (by omega)
      refine Eq.trans ?_ (R.env_same (i := i) (j := j) (by omega) (by omega) fun k o h1 h2 h3 => hn k o h1 (by omega) h3)
      have hp := k.put
      have hd := hn j o (by omega) (by omega) ho
      unfold putA at hp
      cases hd2 : o.dst with
      | none => rw [hd2] at hp; rw [some_inj hp]
      | some d =>
        rw [hd2] at hp hd
        obtain ⟨_, h2⟩ := cond_some (b := Nat.blt d n) hp
        rw [← some_inj h2, Tr.get_put_ne _ _ (fun e => hd (by rw [e]))]
theorem Run.env_late (R : Run P ev ops n env h st) {t k i : Nat} (hw : writer ops.toList 0 t = some k) (hk : k < i) (hi : i ≤ ops.size) : (st i).env.get t = (st ops.size).env.get t := by
  refine (R.env_same hi (Nat.le_refl _) fun j o h1 h2 h3 e => ?_).symm
  have := (fresh_writer 0 R.fresh (k := j) (by simpa using h3) e).2
  rw [this] at hw
  have := some_inj hw
  omega
theorem Run.env_early (R : Run P ev ops n env h st) {t i : Nat} (hw : ∀ k, writer ops.toList 0 t = some k → i ≤ k) (hi : i ≤ ops.size) : (st i).env.get t = env.get t := by
  refine (R.env_same (Nat.zero_le i) hi fun j o h1 h2 h3 e => ?_).trans (by rw [R.start])
  have := hw _ (fresh_writer 0 R.fresh (k := j) (by simpa using h3) e).2
  omega
end
end Go.Proofs.YtibompboimeedaaGreatDoor.Ev
