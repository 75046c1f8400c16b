/-
  Statements that draw their order: the states that the evaluator goes through, and what holds of them.
-/
import Derived.Test.YtibompboimeedaaGreatDoorEvR
namespace Go.Proofs.YtibompboimeedaaGreatDoor.Ev
theorem eqP_eq {r q : Nat × Nat} (h : (r.1.beq q.1 && r.2.beq q.2) = true) : r = q := by
  rw [Bool.and_eq_true] at h
  exact Prod.ext (beq_e h.1) (beq_e h.2)
mutual
theorem eqA_eq : ∀ (a b : A), eqA a b = true → a = b
  | .b x, b, h => by
    cases b <;> first | (revert h; simp [eqA]; done) | skip
  | .i k x, b, h => by
    cases b
    case i l y =>
      have h' : (decide (k = l) && eqI k x l y) = true := h
      rw [Bool.and_eq_true, eqI_eq] at h'
      rw [of_decide_eq_true h'.1, eq_of_beq h'.2]
    all_goals (revert h; simp [eqA]; done)
  | .s x, b, h => by
    cases b
    case s y =>
      have h' : eqB x y = true := h
      rw [eqB_eq] at h'
      rw [eq_of_beq h']
    all_goals (revert h; simp [eqA]; done)
  | .p r, b, h => by
    cases b
    case p q =>
      cases r <;> cases q
      · rfl
      · cases h
      · cases h
      · rw [eqP_eq h]
    all_goals (revert h; cases r <;> simp [eqA]; done)
  | .sl r n lo c, b, h => by
    cases b
    case sl q m la d =>
      rcases r with _ | ⟨j, o⟩ <;> rcases q with _ | ⟨i, u⟩ <;> cases c <;> cases d <;> simp only [eqA, Bool.and_eq_true, Bool.true_and, Bool.false_and, Bool.and_false, Bool.and_true, Bool.false_eq_true, false_and, and_false] at h
      · rw [beq_e h.1, beq_e h.2]
      · rw [beq_e h.1.1, beq_e h.1.2, beq_e h.2]
      · rw [beq_e h.1.1.1, beq_e h.1.1.2, beq_e h.1.2, beq_e h.2]
      · rw [beq_e h.1.1.1.1, beq_e h.1.1.1.2, beq_e h.1.1.2, beq_e h.1.2, beq_e h.2]
    all_goals (revert h; simp [eqA]; done)
  | .fn f x y, b, h => by
    cases b
    case fn g c d =>
      have h' : (f.beq g && eqAs x c && eqAs y d) = true := h
      rw [Bool.and_eq_true, Bool.and_eq_true] at h'
      rw [beq_e h'.1.1, eqAs_eq x c h'.1.2, eqAs_eq y d h'.2]
    all_goals (revert h; simp [eqA]; done)
  | .yl l, b, h => by
    cases b
    case yl m => rw [beq_e (show Nat.beq l m = true from h)]
    all_goals (revert h; simp [eqA]; done)
  | .agg l, b, h => by
    cases b
    case agg m => rw [eqAs_eq l m h]
    all_goals (revert h; simp [eqA]; done)
  | .tup l, b, h => by
    cases b
    case tup m => rw [eqAs_eq l m h]
    all_goals (revert h; simp [eqA]; done)
  | .nf, b, h => by
    cases b
    case nf => rfl
    all_goals (revert h; simp [eqA]; done)
  | .ni, b, h => by
    cases b
    case ni => rfl
    all_goals (revert h; simp [eqA]; done)
theorem eqAs_eq : ∀ (l m : List A), eqAs l m = true → l = m
  | [], [], _ => rfl
  | [], _ :: _, h => by cases h
  | _ :: _, [], h => by cases h
  | a :: l, b :: m, h => by
    have h' : (eqA a b && eqAs l m) = true := h
    rw [Bool.and_eq_true] at h'
    rw [eqA_eq a b h'.1, eqAs_eq l m h'.2]
end
theorem drOps_states {T : Tab} {ev : Job → Option Out} {ops : List Oper} {n : Nat} {bt : Tr Nat} : ∀ (l : List Oper) (i : Nat) (s s' : Dr), drOps T ev ops n bt l i s = some s' →
    ∃ st : Nat → Dr, st i = s ∧ st (i + l.length) = s' ∧ ∀ k o, l[k]? = some o → drOper T ev ops n bt (i + k) o (st (i + k)) = some (st (i + k + 1))
  | [], i, s, s', h => ⟨fun _ => s, rfl, some_inj h, fun k o ho => by simp at ho⟩
  | o :: l, i, s, s', h => by
    simp only [drOps] at h
    split at h
    · rename_i s1 h1
      obtain ⟨st, e1, e2, e3⟩ := drOps_states l (i + 1) s1 s' h
      refine ⟨fun j => if j = i then s else st j, if_pos rfl, ?_, fun k o' ho => ?_⟩
      · dsimp only
        rw [if_neg (by simp)]
        rw [← e2]; congr 1; simp only [List.length_cons]; omega
      · cases k with
        | zero =>
          simp at ho
          subst ho
          dsimp only
          rw [Nat.add_zero, if_pos rfl, if_neg (by omega), h1, e1]
        | succ k =>
          simp at ho
          have := e3 k o' ho
          dsimp only
          rw [if_neg (by omega), if_neg (by omega)]
          rw [show i + (k + 1) = i + 1 + k by omega]
          exact this
    · cases h
/-- What an operation was. -/
inductive Kind (T : Tab) (ev : Job → Option Out) (n i m : Nat) (o : Oper) (s : Dr) : Bool → A → Dr → Prop
  | skip {e : Tr A} : putA s.env n o.dst (.tup []) = some e → Kind T ev n i m o s false (.tup []) { s with env := e }
  | pure {a : A} {e : Tr A} : pureA o.op T s.env = some a → putA s.env n o.dst a = some e → Kind T ev n i m o s true a { s with env := e }
  | look {t : TypeId} {x : Operand} {p a : A} {e : Tr A} : o.op = .load t x → opd T s.env x = some p → loadA T ⟨addP m s.xs s.h.t, s.h.nx⟩ t p = some a → putA s.env n o.dst a = some e →
      Kind T ev n i m o s true a { s with env := e, lk := ⟨i, t, p, a⟩ :: s.lk }
  | new {a : A} {b : Blk} {e : Tr A} : newA o.op T s.env s.h.nx = some (a, b) → putA s.env n o.dst a = some e →
      Kind T ev n i m o s true a { s with env := e, h := ⟨s.h.t, s.h.nx + 1⟩, xs := ⟨i, s.h.nx, b⟩ :: s.xs, al := ⟨i, s.h.nx, b⟩ :: s.al }
  | chain {a : A} {k : H} {e : Tr A} : lastIn m s.ch = true → operA o.op T ev s.env ⟨addP m s.xs s.h.t, s.h.nx⟩ = some (a, k) → putA s.env n o.dst a = some e →
      Kind T ev n i m o s true a { s with env := e, h := k, xs := restP m s.xs, ch := i :: s.ch, hs := k :: s.hs }
theorem drPure_kind {T : Tab} {ev : Job → Option Out} {n i m : Nat} {o : Oper} {s s' : Dr} (h : drPure T n o s = some s') : ∃ a, Kind T ev n i m o s true a s' := by
  unfold drPure drPut at h
  split at h
  · rename_i a ha
    split at h
    · rename_i e he
      obtain rfl := some_inj h
      exact ⟨a, .pure ha he⟩
    · cases h
  · cases h
theorem drChain_kind {T : Tab} {ev : Job → Option Out} {n i m : Nat} {o : Oper} {s s' : Dr} (h : drChain T ev n i m o s = some s') : ∃ a, Kind T ev n i m o s true a s' := by
  unfold drChain at h
  obtain ⟨h1, h2⟩ := cond_some h
  split at h2
  · cases h2
  · rename_i a k ho
    split at h2
    · rename_i e he
      obtain rfl := some_inj h2
      exact ⟨a, .chain h1 ho he⟩
    · cases h2
theorem drOper_kind {T : Tab} {ev : Job → Option Out} {ops : List Oper} {n : Nat} {bt : Tr Nat} {i : Nat} {o : Oper} {s s' : Dr} (h : drOper T ev ops n bt i o s = some s') :
    ∃ m b a, bt.get i = some m ∧ m < 2 ^ i ∧ guardIn m o.guard = true ∧ known ops bt i m (tmpsOf (opnds o.op)) = true ∧ wantedA ops s.env o = some b ∧ Kind T ev n i m o s b a s' := by
  unfold drOper at h
  split at h
  · cases h
  · rename_i m hm
    obtain ⟨h1, h2⟩ := cond_some h
    rw [Bool.and_eq_true, Bool.and_eq_true] at h1
    split at h2
    · cases h2
    · rename_i b hb
      cases b with
      | false =>
        have h3 : drPut n o.dst s (.tup []) = some s' := h2
        unfold drPut at h3
        split at h3
        · rename_i e he
          obtain rfl := some_inj h3
          exact ⟨m, false, _, hm, blt_lt h1.1.1, h1.1.2, h1.2, hb, .skip he⟩
        · cases h3
      | true =>
        have h3 : drWanted T ev n i m o s = some s' := h2
        have fin : (∃ a, Kind T ev n i m o s true a s') → ∃ m b a, bt.get i = some m ∧ m < 2 ^ i ∧ guardIn m o.guard = true ∧ known ops bt i m (tmpsOf (opnds o.op)) = true ∧ wantedA ops s.env o = some b ∧ Kind T ev n i m o s b a s' :=
          fun ⟨a, ha⟩ => ⟨m, true, a, hm, blt_lt h1.1.1, h1.1.2, h1.2, hb, ha⟩
        apply fin
        unfold drWanted at h3
        split at h3
        · exact drPure_kind h3
        · split at h3
          · rename_i t x ho
            unfold drLook at h3
            split at h3
            · cases h3
            · rename_i p hp
              split at h3
              · cases h3
              · rename_i a ha
                split at h3
                · rename_i e he
                  obtain rfl := some_inj h3
                  exact ⟨a, .look ho hp ha he⟩
                · cases h3
          · cases h3
        · unfold drNew at h3
          split at h3
          · cases h3
          · rename_i a b ha
            split at h3
            · rename_i e he
              obtain rfl := some_inj h3
              exact ⟨a, .new ha he⟩
            · cases h3
        · exact drChain_kind h3
        · split at h3
          · rename_i r hr
            obtain rfl := some_inj h3
            exact drPure_kind hr
          · exact drChain_kind h3
section
variable {T : Tab} {ev : Job → Option Out} {n i m : Nat} {o : Oper} {s s' : Dr} {b : Bool} {a : A}
theorem Kind.put (k : Kind T ev n i m o s b a s') : putA s.env n o.dst a = some s'.env := by cases k <;> assumption
theorem Kind.ch (k : Kind T ev n i m o s b a s') : (s'.ch = s.ch ∧ s'.h.t = s.h.t ∧ s'.hs = s.hs) ∨ (lastIn m s.ch = true ∧ s'.ch = i :: s.ch ∧ s'.hs = s'.h :: s.hs) := by
  cases k <;> first | exact .inl ⟨rfl, rfl, rfl⟩ | exact .inr ⟨by assumption, rfl, rfl⟩
theorem Kind.al (k : Kind T ev n i m o s b a s') : s'.al = s.al ∨ ∃ x, s'.al = ⟨i, s.h.nx, x⟩ :: s.al ∧ s'.h.nx = s.h.nx + 1 := by
  cases k <;> first | exact .inl rfl | exact .inr ⟨_, rfl, rfl⟩
theorem Kind.lk (k : Kind T ev n i m o s b a s') : ∃ l, s'.lk = l ++ s.lk := by
  cases k <;> first | exact ⟨[], rfl⟩ | exact ⟨[_], rfl⟩
theorem restP_mem : ∀ {l : List Pend} {p : Pend}, p ∈ restP m l → p ∈ l ∧ m.testBit p.op = false
  | [], _, h => by cases h
  | q :: l, p, h => by
    unfold restP at h
    cases hq : m.testBit q.op with
    | true =>
      rw [hq] at h
      obtain ⟨h1, h2⟩ := restP_mem (l := l) h
      exact ⟨List.mem_cons_of_mem _ h1, h2⟩
    | false =>
      rw [hq] at h
      rcases List.mem_cons.1 h with rfl | h
      · exact ⟨List.mem_cons_self .., hq⟩
      · obtain ⟨h1, h2⟩ := restP_mem (l := l) h
        exact ⟨List.mem_cons_of_mem _ h1, h2⟩
theorem Kind.xs (k : Kind T ev n i m o s b a s') {p : Pend} (hp : p ∈ s'.xs) : (p ∈ s.xs ∧ (s'.ch = s.ch ∨ s'.ch = i :: s.ch ∧ m.testBit p.op = false)) ∨ (p.op = i ∧ s'.al = p :: s.al ∧ s'.ch = s.ch) := by
  cases k
  case skip => exact .inl ⟨hp, .inl rfl⟩
  case pure => exact .inl ⟨hp, .inl rfl⟩
  case look => exact .inl ⟨hp, .inl rfl⟩
  case new =>
    rcases List.mem_cons.1 hp with rfl | h
    · exact .inr ⟨rfl, rfl, rfl⟩
    · exact .inl ⟨h, .inl rfl⟩
  case chain =>
    obtain ⟨h1, h2⟩ := restP_mem hp
    exact .inl ⟨h1, .inr ⟨rfl, h2⟩⟩
end
theorem addP_some {m : Nat} : ∀ {l : List Pend} {t : Tr Blk} {j : Nat} {b : Blk}, (addP m l t).get j = some b → t.get j = some b ∨ ∃ p ∈ l, m.testBit p.op = true ∧ p.id = j ∧ p.blk = b
  | [], t, j, b, h => .inl h
  | p :: l, t, j, b, h => by
    unfold addP at h
    cases hp : m.testBit p.op with
    | false =>
      rw [hp] at h
      exact (addP_some (l := l) h).imp id fun ⟨q, h1, h2⟩ => ⟨q, List.mem_cons_of_mem _ h1, h2⟩
    | true =>
      rw [hp] at h
      rcases addP_some (l := l) h with h1 | ⟨q, h1, h2⟩
      · rw [Tr.get_put] at h1
        by_cases e : j = p.id
        · rw [if_pos e] at h1
          exact .inr ⟨p, List.mem_cons_self .., hp, e.symm, some_inj h1⟩
        · rw [if_neg e] at h1; exact .inl h1
      · exact .inr ⟨q, List.mem_cons_of_mem _ h1, h2⟩
theorem addAll_some : ∀ {l : List Pend} {t : Tr Blk} {j : Nat} {b : Blk}, (addAll l t).get j = some b → t.get j = some b ∨ ∃ p ∈ l, p.id = j ∧ p.blk = b
  | [], t, j, b, h => .inl h
  | p :: l, t, j, b, h => by
    unfold addAll at h
    rcases addAll_some (l := l) h with h1 | ⟨q, h1, h2⟩
    · rw [Tr.get_put] at h1
      by_cases e : j = p.id
      · rw [if_pos e] at h1
        exact .inr ⟨p, List.mem_cons_self .., e.symm, some_inj h1⟩
      · rw [if_neg e] at h1; exact .inl h1
    · exact .inr ⟨q, List.mem_cons_of_mem _ h1, h2⟩
theorem still_mem {bt : Tr Nat} {cs : List Nat} : ∀ {l : List Pend} {p : Pend}, p ∈ still bt cs l → p ∈ l ∧ anyNeeds bt p.op cs = false
  | [], _, h => by cases h
  | q :: l, p, h => by
    unfold still at h
    cases hq : anyNeeds bt q.op cs with
    | true =>
      rw [hq] at h
      obtain ⟨h1, h2⟩ := still_mem (l := l) h
      exact ⟨List.mem_cons_of_mem _ h1, h2⟩
    | false =>
      rw [hq] at h
      rcases List.mem_cons.1 h with rfl | h
      · exact ⟨List.mem_cons_self .., hq⟩
      · obtain ⟨h1, h2⟩ := still_mem (l := l) h
        exact ⟨List.mem_cons_of_mem _ h1, h2⟩
theorem anyNeeds_false {bt : Tr Nat} {j : Nat} : ∀ {cs : List Nat}, anyNeeds bt j cs = false ↔ ∀ c ∈ cs, ∃ m, bt.get c = some m ∧ m.testBit j = false
  | [] => by simp [anyNeeds]
  | c :: cs => by
    unfold anyNeeds
    rw [Bool.or_eq_false_iff, anyNeeds_false]
    constructor
    · rintro ⟨h1, h2⟩ d hd
      rcases List.mem_cons.1 hd with rfl | hd
      · cases hb : bt.get d with
        | none => rw [hb] at h1; cases h1
        | some m => rw [hb] at h1; exact ⟨m, rfl, h1⟩
      · exact h2 d hd
    · intro h
      refine ⟨?_, fun d hd => h d (List.mem_cons_of_mem _ hd)⟩
      obtain ⟨m, h1, h2⟩ := h c (List.mem_cons_self ..)
      rw [h1]; exact h2
/-- Slots have one writer. -/
theorem fresh_writer : ∀ {l : List Oper} {seen : List Nat} (i : Nat), freshDst l seen = true → ∀ {k : Nat} {o : Oper} {d : Nat}, l[k]? = some o → o.dst = some d → (∀ x ∈ seen, x ≠ d) ∧ writer l i d = some (i + k)
  | [], _, _, _, k, o, d, ho, _ => by simp at ho
  | q :: l, seen, i, h, k, o, d, ho, hd => by
    unfold freshDst at h
    cases k with
    | zero =>
      simp at ho
      subst ho
      rw [hd] at h
      simp only [Bool.and_eq_true, Bool.not_eq_true', List.any_eq_false] at h
      refine ⟨fun x hx e => h.1 x hx (by rw [e]; exact Nat.beq_refl d), ?_⟩
      unfold writer
      rw [hd]
      simp only [Nat.beq_refl, cond_true, Nat.add_zero]
    | succ k =>
      simp at ho
      have rest : ∀ {seen' : List Nat}, freshDst l seen' = true → (∀ x ∈ seen, x ∈ seen') → (∀ d', q.dst = some d' → d' ∈ seen') → (∀ x ∈ seen, x ≠ d) ∧ writer (q :: l) i d = some (i + (k + 1)) := fun hf h1 h2 => by
        obtain ⟨i1, i2⟩ := fresh_writer (i + 1) hf ho hd
        refine ⟨fun x hx => i1 x (h1 x hx), ?_⟩
        unfold writer
        have e : writer l (i + 1) d = some (i + (k + 1)) := by rw [i2]; congr 1; omega
        cases hq : q.dst with
        | none => exact e
        | some d' =>
          have : Nat.beq d' d = false := by
            cases hb : Nat.beq d' d with
            | false => rfl
            | true => exact absurd (beq_e hb) (i1 d' (h2 d' hq))
          simp only [this, cond_false]
          exact e
      cases hq : q.dst with
      | none =>
        rw [hq] at h
        exact rest h (fun x hx => hx) (fun d' h' => by rw [hq] at h'; cases h')
      | some d' =>
        rw [hq] at h
        simp only [Bool.and_eq_true] at h
        exact rest h.2 (fun x hx => List.mem_cons_of_mem _ hx) (fun d2 h' => by rw [hq] at h'; rw [some_inj h']; exact List.mem_cons_self ..)
theorem writer_some : ∀ {l : List Oper} {i d k : Nat}, writer l i d = some k → ∃ j o, k = i + j ∧ l[j]? = some o ∧ o.dst = some d
  | [], _, _, _, h => by cases h
  | q :: l, i, d, k, h => by
    unfold writer at h
    have rest : writer l (i + 1) d = some k → ∃ j o, k = i + j ∧ (q :: l)[j]? = some o ∧ o.dst = some d := fun h => by
      obtain ⟨j, o, h1, h2, h3⟩ := writer_some h
      exact ⟨j + 1, o, by omega, by simpa using h2, h3⟩
    cases hq : q.dst with
    | none => rw [hq] at h; exact rest h
    | some d' =>
      rw [hq] at h
      simp only at h
      cases hb : Nat.beq d' d with
      | true =>
        rw [hb] at h
        have hk := some_inj (show some i = some k from h)
        exact ⟨0, q, by omega, by simp, by rw [hq, beq_e hb]⟩
      | false => rw [hb] at h; exact rest h
end Go.Proofs.YtibompboimeedaaGreatDoor.Ev
