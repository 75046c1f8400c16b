/-
  Statements that draw their order: what holds at each moment, in whatever order.
-/
import Derived.Test.YtibompboimeedaaGreatDoorEvT
namespace Go.Proofs.YtibompboimeedaaGreatDoor.Ev
def Ls (listed : Array Bool) (i : Nat) : Prop := listed.getD i false = true
theorem Ls.set {listed : Array Bool} {i j : Nat} (hi : i < listed.size) : Ls (listed.setIfInBounds i true) j ↔ j = i ∨ Ls listed j := by
  unfold Ls
  by_cases e : j = i
  · subst e
    simp [Array.getD_eq_getD_getElem?, hi]
  · rw [getD_set_ne _ (Ne.symm e)]
    simp [e]
noncomputable def guardSlots (ops : List Oper) (o : Oper) : List Nat :=
  match o.guard with
  | some (j, _) => (match nth ops j with
    | some g => g.dst.toList
    | none => [])
  | none => []
theorem wanted_congr {ops : List Oper} {env env' : Tr A} {o : Oper} (h : ∀ s ∈ guardSlots ops o, env.get s = env'.get s) : wantedA ops env o = wantedA ops env' o := by
  unfold wantedA
  unfold guardSlots at h
  cases hg : o.guard with
  | none => rfl
  | some g =>
    obtain ⟨j, want⟩ := g
    rw [hg] at h
    simp only at h ⊢
    cases hj : nth ops j with
    | none => rfl
    | some g =>
      rw [hj] at h
      simp only at h ⊢
      unfold slotB
      cases hd : g.dst with
      | none => rfl
      | some d =>
        rw [hd] at h
        simp only
        rw [h d (by simp)]
theorem known_spec {ops : List Oper} {bt : Tr Nat} {i m : Nat} : ∀ {l : List Nat}, known ops bt i m l = true → ∀ s ∈ l, ∀ k, writer ops 0 s = some k → m.testBit k = true ∨ ∃ mk, bt.get k = some mk ∧ mk.testBit i = true
  | [], _, s, hs => by cases hs
  | t :: l, h, s, hs => by
    unfold known at h
    rw [Bool.and_eq_true] at h
    intro k hk
    rcases List.mem_cons.1 hs with rfl | hs
    · have h1 := h.1
      rw [hk] at h1
      simp only [Bool.or_eq_true] at h1
      refine h1.imp id fun h2 => ?_
      cases hb : bt.get k with
      | none => rw [hb] at h2; cases h2
      | some mk => rw [hb] at h2; exact ⟨mk, rfl, h2⟩
    · exact known_spec h.2 s hs k hk
theorem new_oper {T : Tab} {ev : Job → Option Out} {env : Tr A} {op : Op} {k : H} {a : A} {b : Blk} (h : newA op T env k.nx = some (a, b)) : operA op T ev env k = some (a, k.new b) := by
  cases op
  case alloc e => show nb k (allocA T k.nx e) = _; rw [show allocA T k.nx e = some (a, b) from h]; rfl
  case box e x => show nb k (boxA T env k.nx e x) = _; rw [show boxA T env k.nx e x = some (a, b) from h]; rfl
  case buildSlice t l ps => show nb k (bslA T env k.nx t l ps.toList) = _; rw [show bslA T env k.nx t l ps.toList = some (a, b) from h]; rfl
  case makeSlice t l c => show nb k (mslA T env k.nx t l c) = _; rw [show mslA T env k.nx t l c = some (a, b) from h]; rfl
  all_goals cases h
theorem looksOk_mem {T : Tab} {bt : Tr Nat} {xs : List Pend} {ch : List Nat} {hs : List H} : ∀ {ls : List Look}, looksOk T bt xs ch hs ls = true → ∀ l ∈ ls, ∃ m, bt.get l.op = some m ∧ lookOk T bt xs l m ch hs = true
  | [], _, l, hl => by cases hl
  | x :: ls, h, l, hl => by
    unfold looksOk at h
    rw [Bool.and_eq_true] at h
    rcases List.mem_cons.1 hl with rfl | hl
    · cases hb : bt.get l.op with
      | none => rw [hb] at h; cases h.1
      | some m => rw [hb] at h; exact ⟨m, rfl, h.1⟩
    · exact looksOk_mem h.2 l hl
theorem lookOk_at {T : Tab} {bt : Tr Nat} {xs : List Pend} {l : Look} {m : Nat} {vs : List Nat} {vs' : List H} : ∀ {us : List Nat} {us' : List H}, us.length = us'.length → lookOk T bt xs l m (us ++ vs) (us' ++ vs') = true → (∀ c ∈ us, m.testBit c = false) →
    (∀ c cs, vs = c :: cs → ∃ mc, bt.get c = some mc ∧ mc.testBit l.op = false) → ∃ k ks, vs' = k :: ks ∧ lookOk.at_ T bt xs l m vs k = true
  | [], [], _, h, _, hv => by
    simp only [List.nil_append] at h
    cases vs with
    | nil =>
      cases vs' with
      | nil => simp [lookOk] at h
      | cons k ks => exact ⟨k, ks, rfl, by simpa [lookOk] using h⟩
    | cons c cs =>
      cases vs' with
      | nil => simp [lookOk] at h
      | cons k ks =>
        obtain ⟨mc, h1, h2⟩ := hv c cs rfl
        unfold lookOk at h
        rw [h1] at h
        simp only [h2, cond_false, Bool.and_eq_true] at h
        exact ⟨k, ks, rfl, h.1⟩
  | [], _ :: _, e, _, _, _ => by cases e
  | _ :: _, [], e, _, _, _ => by cases e
  | c :: us, k :: us', e, h, hu, hv => by
    simp only [List.cons_append] at h
    have hc := hu c (List.mem_cons_self ..)
    unfold lookOk at h
    split at h
    · cases h
    · rename_i mc hmc
      refine lookOk_at (us := us) (us' := us') (by simpa using e) ?_ (fun c hc => hu c (List.mem_cons_of_mem _ hc)) hv
      cases hm : mc.testBit l.op with
      | true => rw [hm] at h; exact h
      | false =>
        rw [hm] at h
        simp only [cond_false, Bool.and_eq_true, hc] at h
        exact h.2
/-- What holds at each moment. -/
structure Inv (P : Program) (ops : Array Oper) (n : Nat) (env : Tr A) (h : H) (st : Nat → Dr) (ds : List Nat) (σ : Val) (w : World) (listed : Array Bool) (a : Act) (v : World) (τ : Val) (t : Tr Blk) (q : Nat) : Prop where
  size : listed.size = ops.size
  qle : q ≤ ops.size
  ch : ∀ c ∈ (st ops.size).ch, (Ls listed c ↔ c ∈ (st q).ch)
  rel : Rel P.globals.size τ ⟨t, (st ops.size).h.nx⟩ v
  kept : Kept σ h w τ ⟨t, (st ops.size).h.nx⟩ v
  sub : ∀ j b, (st q).h.t.get j = some b → t.get j = some b
  pend : ∀ p ∈ (st ops.size).al, Ls listed p.op → anyNeeds (befT ops.toList 0 .lf) p.op (st q).ch = false → t.get p.id = some p.blk ∧ (st q).h.t.get p.id = none
  closed : ∀ i m, Ls listed i → (befT ops.toList 0 .lf).get i = some m → ∀ j, m.testBit j = true → Ls listed j
  free : ∀ i, i < ops.size → ¬ Ls listed i → Free τ (st i).h.nx (st (i + 1)).h.nx
  tsize : a.tmps.size = n
  late : ∀ s k x, writer ops.toList 0 s = some k → Ls listed k → (st ops.size).env.get s = some x → a.tmps[s]? = some (x.den τ) ∧ x.ok τ.dom
  early : ∀ s x, (∀ k, writer ops.toList 0 s = some k → ¬ Ls listed k) → env.get s = some x → a.tmps[s]? = some (x.den τ) ∧ x.ok τ.dom
  defers : a.defers = marks σ ds
section
variable {P : Program} {ev : Job → Option Out} {ops : Array Oper} {n : Nat} {env : Tr A} {h : H} {st : Nat → Dr} {ds : List Nat} {σ : Val} {w : World} {listed : Array Bool} {a : Act} {v : World} {τ : Val} {t : Tr Blk} {q : Nat}
/-- The slots that an operation looks at. -/
theorem Inv.envAt (I : Inv P ops n env h st ds σ w listed a v τ t q) (R : Run P ev ops n env h st) {i m : Nat} {o : Oper} (ho : ops[i]? = some o) (hm : (befT ops.toList 0 .lf).get i = some m) (hlt : m < 2 ^ i) (hg : guardIn m o.guard = true)
    (hk : known ops.toList (befT ops.toList 0 .lf) i m (tmpsOf (opnds o.op)) = true) (hml : ∀ j, m.testBit j = true → Ls listed j) (hi : ¬ Ls listed i) :
    EnvAt τ (only (st i).env (guardSlots ops.toList o ++ tmpsOf (opnds o.op))) n a.tmps := by
  have hin : i < ops.size := (Array.getElem?_eq_some_iff.1 ho).1
  have bit : ∀ s k x, writer ops.toList 0 s = some k → m.testBit k = true → (st i).env.get s = some x → a.tmps[s]? = some (x.den τ) ∧ x.ok τ.dom := fun s k x hw hb hx =>
    I.late s k x hw (hml k hb) (by rw [← R.env_late hw (mask_small hlt hb) (by omega)]; exact hx)
  refine ⟨I.tsize, fun s x hx => ?_⟩
  rw [only_get] at hx
  split at hx
  · rename_i hs
    rcases List.mem_append.1 hs with hs | hs
    · unfold guardSlots at hs
      cases hgd : o.guard with
      | none => rw [hgd] at hs; cases hs
      | some g =>
        obtain ⟨j, want⟩ := g
        rw [hgd] at hs hg
        simp only at hs
        rw [nth_ops] at hs
        cases hj : ops[j]? with
        | none => rw [hj] at hs; cases hs
        | some g =>
          rw [hj] at hs
          simp only [Option.mem_toList, Option.mem_def] at hs
          have := (fresh_writer 0 R.fresh (k := j) (by simpa using hj) hs).2
          rw [Nat.zero_add] at this
          exact bit s j x this hg hx
    · cases hw : writer ops.toList 0 s with
      | none => exact I.early s x (fun k hk => by rw [hw] at hk; cases hk) (by rw [← R.env_early (i := i) (fun k hk => by rw [hw] at hk; cases hk) (by omega)]; exact hx)
      | some k =>
        rcases known_spec hk s hs k hw with hb | ⟨mk, h1, h2⟩
        · exact bit s k x hw hb hx
        · have hnk : ¬ Ls listed k := fun hl => hi (I.closed k mk hl h1 i h2)
          obtain ⟨j, o', e1, e2, _⟩ := writer_some hw
          rw [Nat.zero_add] at e1
          subst e1
          have hkn : k < ops.size := by
            have := (List.getElem?_eq_some_iff.1 e2).1
            simpa using this
          obtain ⟨_, mk', _, _, _, e3, e4, _⟩ := R.kind hkn
          rw [h1] at e3
          obtain rfl := some_inj e3
          have := mask_small e4 h2
          exact I.early s x (fun k' hk' => by rw [hw] at hk'; rw [← some_inj hk']; exact hnk) (by rw [← R.env_early (i := i) (fun k' hk' => by rw [hw] at hk'; rw [← some_inj hk']; omega) (by omega)]; exact hx)
  · cases hx
/-- One operation more. -/
theorem Inv.next (I : Inv P ops n env h st ds σ w listed a v τ t q) (R : Run P ev ops n env h st) (T : Truth P ev) {i m : Nat} {o : Oper} (ho : ops[i]? = some o) (hm : (befT ops.toList 0 .lf).get i = some m)
    (hml : ∀ j, m.testBit j = true → Ls listed j) (hi : ¬ Ls listed i) {x : A} {τ' : Val} {t' : Tr Blk} {v' : World} {q' : Nat} (hx : x.ok τ'.dom) (hp : putA (st i).env n o.dst x = some (st (i + 1)).env)
    (hk : Kept τ ⟨t, (st i).h.nx⟩ v τ' ⟨t', (st (i + 1)).h.nx⟩ v') (hr : Rel P.globals.size τ' ⟨t', (st (i + 1)).h.nx⟩ v') (hq : q' ≤ ops.size)
    (hch : ∀ c ∈ (st ops.size).ch, (c = i ∨ Ls listed c ↔ c ∈ (st q').ch)) (hsub : ∀ j b, (st q').h.t.get j = some b → t'.get j = some b)
    (hpe : ∀ p ∈ (st ops.size).al, p.op = i ∨ Ls listed p.op → anyNeeds (befT ops.toList 0 .lf) p.op (st q').ch = false → t'.get p.id = some p.blk ∧ (st q').h.t.get p.id = none) :
    Inv P ops n env h st ds σ w (listed.setIfInBounds i true) (a.put o.dst (x.den τ')) v' τ' t' q' := by
  have hin : i < ops.size := (Array.getElem?_eq_some_iff.1 ho).1
  have hsz : i < listed.size := by rw [I.size]; exact hin
  have n0 : h.nx ≤ (st i).h.nx := by have := R.nx T (Nat.zero_le i) (by omega); rw [R.start] at this; exact this
  have n1 := R.nx T (i := i + 1) (j := ops.size) (by omega) (Nat.le_refl _)
  have wr : ∀ {s k : Nat}, writer ops.toList 0 s = some k → (k = i ↔ o.dst = some s) := fun {s k} hw => by
    constructor
    · rintro rfl
      obtain ⟨j, o', e1, e2, e3⟩ := writer_some hw
      rw [Nat.zero_add] at e1
      subst e1
      have : some o' = some o := by rw [← ho, ← e2]; simp
      rw [← some_inj this]; exact e3
    · intro e
      have := (fresh_writer 0 R.fresh (k := i) (by simpa using ho) e).2
      rw [Nat.zero_add] at this
      rw [this] at hw
      exact (some_inj hw).symm
  have size' : (a.put o.dst (x.den τ')).tmps.size = a.tmps.size := by
    cases o.dst <;> simp [Act.put]
  have other : ∀ {s : Nat}, o.dst ≠ some s → (a.put o.dst (x.den τ')).tmps[s]? = a.tmps[s]? := fun {s} hs => by
    cases hd : o.dst with
    | none => rfl
    | some d =>
      have : d ≠ s := fun e => hs (by rw [hd, e])
      simp [Act.put, Array.getElem?_setIfInBounds_ne this]
  have old : ∀ {s : Nat} {y : A}, o.dst ≠ some s → a.tmps[s]? = some (y.den τ) ∧ y.ok τ.dom → (a.put o.dst (x.den τ')).tmps[s]? = some (y.den τ') ∧ y.ok τ'.dom := fun {s y} hs hy =>
    ⟨by rw [other hs, hk.same.den hy.2]; exact hy.1, hy.2.mono hk.same.dom⟩
  refine ⟨by simp [I.size], hq, fun c hc => (Ls.set hsz).trans (hch c hc), hr.at_nx _, ?_, hsub, fun p hp' hl => hpe p hp' ((Ls.set hsz).1 hl), fun j mj hj hmj b hb => ?_, fun j hj hl => ?_, size'.trans I.tsize, fun s k y hw hl hy => ?_, fun s y hn hy => ?_, ?_⟩
  · exact I.kept.all ⟨hk.same, fun j hj => (hk.dom j hj).imp id fun h => ⟨Nat.le_trans n0 h.1, Nat.lt_of_lt_of_le h.2 n1⟩, hk.size, hk.os, hk.tape, hk.output, hk.frame, hk.own⟩
  · rw [Ls.set hsz] at hj ⊢
    rcases hj with rfl | hj
    · rw [hm] at hmj
      rw [← some_inj hmj] at hb
      exact .inr (hml b hb)
    · exact .inr (I.closed j mj hj hmj b hb)
  · rw [Ls.set hsz] at hl
    have hl1 : ¬ Ls listed j := fun h => hl (.inr h)
    have hl2 : j ≠ i := fun h => hl (.inl h)
    intro c h1 h2 hd
    rcases hk.dom c hd with h3 | h3
    · exact I.free j hj hl1 c h1 h2 h3
    · rcases Nat.lt_or_gt_of_ne hl2 with h4 | h4
      · have := R.nx T (i := j + 1) (j := i) h4 (by omega)
        have := h3.1
        simp only at this
        omega
      · have := R.nx T (i := i + 1) (j := j) h4 (by omega)
        have := h3.2
        simp only at this
        omega
  · rw [Ls.set hsz] at hl
    by_cases e : k = i
    · have hd := (wr hw).1 e
      have hy' : (st (i + 1)).env.get s = some y := by rw [R.env_late hw (by omega) (by omega)]; exact hy
      rw [hd] at hp
      obtain ⟨h1, h2⟩ := cond_some (b := Nat.blt s n) hp
      rw [← some_inj h2, Tr.get_put_self] at hy'
      obtain rfl := some_inj hy'
      rw [hd]
      have := blt_lt h1
      exact ⟨by simp [Act.put, I.tsize, this], hx⟩
    · exact old (fun hd => e ((wr hw).2 hd)) (I.late s k y hw (hl.resolve_left e) hy)
  · refine old (fun hd => ?_) (I.early s y (fun k hk hl => hn k hk ((Ls.set hsz).2 (.inr hl))) hy)
    have := (fresh_writer 0 R.fresh (k := i) (by simpa using ho) hd).2
    rw [Nat.zero_add] at this
    exact hn i this ((Ls.set hsz).2 (.inl rfl))
  · rw [put_defers]; exact I.defers
end
end Go.Proofs.YtibompboimeedaaGreatDoor.Ev
