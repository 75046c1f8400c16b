/-
  The evaluator tells the truth: operands, types, operations that do not ask of the heap.
-/
import Derived.Test.YtibompboimeedaaGreatDoorEvD
import Derived.Laws.StructEq
import Derived.Laws.Slices
import Derived.Laws.Small
import Derived.Laws.Tables
import Derived.Great.BuildSlice
namespace Go.Proofs.YtibompboimeedaaGreatDoor.Ev
section
variable {σ : Val} {D : Nat → Prop}
theorem abs1_den {v : Value} {a : A} (h : abs1 v = some a) : a.den σ = v ∧ a.ok D ∧ a.one = true := by
  unfold abs1 at h
  split at h <;> first
    | (injection h with h; subst h; simp [A.den, A.ok, A.one, Val.ex])
    | cases h
theorem absL_den : ∀ {l : List Value} {r : List A}, absL l = some r → A.dens σ r = l ∧ A.oks D r ∧ allOne r = true
  | [], r, h => by simp [absL] at h; subst h; simp [A.dens, A.oks, allOne]
  | v :: l, r, h => by
    simp only [absL] at h
    cases hv : abs1 v with
    | none => rw [hv] at h; cases h
    | some a =>
      rw [hv] at h
      cases hl : absL l with
      | none => rw [hl] at h; cases h
      | some s =>
        rw [hl] at h
        injection h with h
        subst h
        obtain ⟨h1, h2, h3⟩ := abs1_den (σ := σ) (D := D) hv
        obtain ⟨h4, h5, h6⟩ := absL_den hl
        exact ⟨by simp [A.dens, h1, h4], ⟨h2, h5⟩, by simp [allOne, h3, h6]⟩
theorem absV_den {v : Value} {a : A} (h : absV v = some a) : a.den σ = v ∧ a.ok D := by
  unfold absV at h
  split at h
  · rename_i l
    cases hl : absL l with
    | none => rw [hl] at h; cases h
    | some s =>
      rw [hl] at h
      injection h with h
      subst h
      obtain ⟨h1, h2, _⟩ := absL_den (σ := σ) (D := D) hl
      exact ⟨by simp [A.den, h1], h2⟩
  · rename_i l
    cases hl : absL l with
    | none => rw [hl] at h; cases h
    | some s =>
      rw [hl] at h
      injection h with h
      subst h
      obtain ⟨h1, h2, _⟩ := absL_den (σ := σ) (D := D) hl
      exact ⟨by simp [A.den, h1], h2⟩
  · obtain ⟨h1, h2, _⟩ := abs1_den (σ := σ) (D := D) h
    exact ⟨h1, h2⟩
end
/-- What the table says of a type. -/
structure TiOk (P : Program) (t : TypeId) (ti : TI) : Prop where
  ex : ∃ i, P.info? t = some i ∧ i.size = ti.size ∧ i.bytes = ti.bytes ∧ ∀ z, ti.zero = some z → ∃ v, i.zero = some v ∧ (∀ σ, A.dens σ z = v.cells.toList) ∧ (∀ D, A.oks D z) ∧ allOne z = true
  d : P.underlying t = some ti.d
  eq : ti.eq = eqType P t
theorem tiOf_ok {P : Program} {t : TypeId} {ti : TI} (h : tiOf P t = some ti) : TiOk P t ti := by
  unfold tiOf at h
  split at h
  · cases h
  · rename_i i hi
    split at h
    · cases h
    · rename_i d hd
      injection h with h
      subst h
      refine ⟨⟨i, hi, rfl, rfl, fun z hz => ?_⟩, hd, rfl⟩
      simp only at hz
      cases hv : i.zero with
      | none => rw [hv] at hz; cases hz
      | some v =>
        rw [hv] at hz
        simp only [Option.bind_some] at hz
        split at hz
        · exact ⟨_, rfl, fun σ => by rw [(absL_den (σ := σ) (D := fun _ => True) hz).1]; rfl, fun D => (absL_den (σ := ⟨fun _ => True, id, id, id⟩) (D := D) hz).2.1, (absL_den (σ := ⟨fun _ => True, id, id, id⟩) (D := fun _ => True) hz).2.2⟩
        · rename_i hne
          cases ha : abs1 v with
          | none => rw [ha] at hz; cases hz
          | some a =>
            rw [ha] at hz
            injection hz with hz
            subst hz
            refine ⟨v, rfl, fun σ => ?_, fun D => ⟨(abs1_den (σ := ⟨fun _ => True, id, id, id⟩) (D := D) ha).2.1, trivial⟩, by simp [allOne, (abs1_den (σ := ⟨fun _ => True, id, id, id⟩) (D := fun _ => True) ha).2.2]⟩
            simp only [A.dens, (abs1_den (σ := σ) (D := fun _ => True) ha).1]
            cases v <;> first | rfl | (rename_i cs; exact absurd rfl (hne cs.toList))
theorem tabT_get (P : Program) : ∀ (n k : Nat) (t : Tr (Option TI)) (j : Nat), (tabT P n k t).get j = if k ≤ j ∧ j < k + n then some (tiOf P j) else t.get j
  | 0, k, t, j => by simp [tabT]; omega
  | n + 1, k, t, j => by
    simp only [tabT, tabT_get P n (k + 1), Tr.get_put]
    by_cases h1 : j = k
    · subst h1
      rw [if_neg (by omega), if_pos rfl, if_pos (by omega)]
    · by_cases h2 : k ≤ j ∧ j < k + (n + 1)
      · rw [if_pos (by omega), if_pos h2]
      · rw [if_neg (by omega), if_neg h1, if_neg h2]
theorem t_ok {P : Program} {t : TypeId} {ti : TI} (h : (tabOf P).t t = some ti) : TiOk P t ti := by
  simp only [tabOf, Tab.t, tabT_get] at h
  by_cases hb : 0 ≤ t ∧ t < 0 + P.types.size
  · rw [if_pos hb] at h; exact tiOf_ok h
  · rw [if_neg hb] at h; cases h
theorem f_ok {P : Program} {f : FuncId} {x : FI} (h : (tabOf P).fn.get f = some x) : P.funcs[f]? = some x.fn ∧ x.ok = !(x.fn.name == "runtime.NumGoroutine") := by
  simp only [tabOf, Tr.get_ofL] at h
  split at h
  · simp only [Nat.sub_zero, List.getElem?_map, Option.map_eq_some_iff, Array.getElem?_toList] at h
    obtain ⟨y, hy, rfl⟩ := h
    exact ⟨hy, rfl⟩
  · cases h
/-- The operands are what the evaluator has them to be. -/
def EvalOk (P : Program) (σ : Val) (env : Tr A) (ρ : Operand → Value) : Prop := ∀ x a, opd (tabOf P) env x = some a → ρ x = a.den σ ∧ a.ok σ.dom
theorem EnvAt.evalOk {P : Program} {σ : Val} {env : Tr A} {n : Nat} {a : Act} {h : H} {w : World} (e : EnvAt σ env n a.tmps) (r : Rel P.globals.size σ h w) : EvalOk P σ env a.eval := by
  intro x v hx
  cases x with
  | tmp t =>
    obtain ⟨h1, h2⟩ := e.get t v hx
    exact ⟨by simp [Act.eval, h1], h2⟩
  | const c => exact ⟨(absV_den (σ := σ) (D := σ.dom) hx).1.symm, (absV_den (σ := σ) hx).2⟩
  | global g =>
    have hx' : @Bool.rec (fun _ => Option A) none (some (.p (some (g, 0)))) (Nat.blt g P.globals.size) = some v := hx
    cases hb : Nat.blt g P.globals.size with
    | false => rw [hb] at hx'; cases hx'
    | true =>
      rw [hb] at hx'
      injection hx' with hx'
      subst hx'
      have hlt : g < P.globals.size := by simpa [Nat.blt_eq] using hb
      obtain ⟨h1, h2, h3⟩ := r.g g hlt
      exact ⟨by simp [Act.eval, A.den, Val.ad, h2, h3], h1⟩
  | func f =>
    have hx' : some (A.fn f [] []) = some v := hx
    injection hx' with hx'
    subst hx'
    exact ⟨by simp [Act.eval, A.den, A.dens], by simp [A.ok, A.oks]⟩
section
variable {P : Program} {σ : Val} {env : Tr A} {ρ : Operand → Value}
theorem opds_ok (he : EvalOk P σ env ρ) : ∀ {xs : List Operand} {l : List A}, opds (tabOf P) env xs = some l → xs.map ρ = A.dens σ l ∧ A.oks σ.dom l
  | [], l, h => by simp [opds] at h; subst h; simp [A.dens, A.oks]
  | x :: xs, l, h => by
    simp only [opds] at h
    cases hx : opd (tabOf P) env x with
    | none => rw [hx] at h; cases h
    | some a =>
      rw [hx] at h
      cases hl : opds (tabOf P) env xs with
      | none => rw [hl] at h; cases h
      | some r =>
        rw [hl] at h
        injection h with h
        subst h
        obtain ⟨h1, h2⟩ := he x a hx
        obtain ⟨h3, h4⟩ := opds_ok he hl
        exact ⟨by simp [A.dens, h1, h3], h2, h4⟩
theorem parts_ok (he : EvalOk P σ env ρ) : ∀ {xs : List (Nat × Operand)} {l : List (Nat × A)}, parts (tabOf P) env xs = some l → (xs.map fun (i, x) => (i, ρ x)) = l.map (fun p => (p.1, p.2.den σ)) ∧ ∀ p ∈ l, p.2.ok σ.dom
  | [], l, h => by simp [parts] at h; subst h; simp
  | (i, x) :: xs, l, h => by
    simp only [parts] at h
    cases hx : opd (tabOf P) env x with
    | none => rw [hx] at h; cases h
    | some a =>
      rw [hx] at h
      cases hl : parts (tabOf P) env xs with
      | none => rw [hl] at h; cases h
      | some r =>
        rw [hl] at h
        injection h with h
        subst h
        obtain ⟨h1, h2⟩ := he x a hx
        obtain ⟨h3, h4⟩ := parts_ok he hl
        refine ⟨by simp [h1, h3], fun p hp => ?_⟩
        rcases List.mem_cons.1 hp with rfl | hp
        · exact h2
        · exact h4 p hp
end
/-- A value without the heap. -/
def Tells (P : Program) (σ : Val) (s : Sem Value) (a : A) : Prop := (∀ w, s.run P w = .ok (a.den σ) w) ∧ a.ok σ.dom
theorem clo_run {P : Program} {α : Type} : ∀ {n : Nat} {s : Sem α} {a : α}, clo n s = some a → ∀ w, s.run P w = .ok a w
  | 0, s, a, h, _ => by simp [clo] at h
  | n + 1, s, a, h, w => by
    cases s <;> simp only [clo] at h <;> first
      | (injection h with h; subst h; rfl)
      | exact clo_run h w
      | cases h
theorem wrapF_eq (k : IntKind) (n : Int) : wrapF k n = k.wrap n := by
  cases n with
  | ofNat m =>
    show cond (Nat.blt m (lim k)) (Int.ofNat m) (k.wrap (Int.ofNat m)) = _
    cases hb : Nat.blt m (lim k) with
    | false => rfl
    | true =>
      have hlt : m < lim k := by simpa [Nat.blt_eq] using hb
      rw [cond_true]
      symm
      clear hb
      cases k <;> simp only [lim] at hlt <;> simp [IntKind.wrap, IntKind.bits, IntKind.signed] <;> omega
  | negSucc m =>
    show cond (and (signedK k) (Nat.blt m (lim k))) (Int.negSucc m) (k.wrap (Int.negSucc m)) = _
    cases hb : (and (signedK k) (Nat.blt m (lim k))) with
    | false => rfl
    | true =>
      rw [Bool.and_eq_true, Nat.blt_eq] at hb
      obtain ⟨h1, hlt⟩ := hb
      rw [cond_true]
      symm
      have e : Int.negSucc m = -(m : Int) - 1 := by omega
      rw [e]
      have wr : ∀ (k : IntKind) (n : Int), k.wrap n = if k.signed = true ∧ n % (2 ^ k.bits : Int) ≥ (2 ^ (k.bits - 1) : Int) then n % (2 ^ k.bits : Int) - (2 ^ k.bits : Int) else n % (2 ^ k.bits : Int) := fun k n => by
        unfold IntKind.wrap
        simp only [Bool.and_eq_true, decide_eq_true_eq]
      rw [wr]
      cases k <;> simp only [signedK, Bool.false_eq_true] at h1 <;> simp only [lim] at hlt
      · rw [if_pos ⟨rfl, by show _ ≥ (2 ^ 7 : Int); simp only [IntKind.bits]; omega⟩]; simp only [IntKind.bits]; omega
      · rw [if_pos ⟨rfl, by show _ ≥ (2 ^ 15 : Int); simp only [IntKind.bits]; omega⟩]; simp only [IntKind.bits]; omega
      · rw [if_pos ⟨rfl, by show _ ≥ (2 ^ 31 : Int); simp only [IntKind.bits]; omega⟩]; simp only [IntKind.bits]; omega
      · rw [if_pos ⟨rfl, by show _ ≥ (2 ^ 63 : Int); simp only [IntKind.bits]; omega⟩]; simp only [IntKind.bits]; omega
theorem ltI_eq (a b : Int) : ltI a b = decide (a < b) := by
  match a, b with
  | .ofNat a, .ofNat b => show Nat.blt a b = decide ((a : Int) < (b : Int)); rw [Bool.eq_iff_iff, Nat.blt_eq, decide_eq_true_iff]; omega
  | .negSucc a, .ofNat b => show true = decide (Int.negSucc a < (b : Int)); symm; rw [decide_eq_true_iff]; omega
  | .ofNat a, .negSucc b => show false = decide ((a : Int) < Int.negSucc b); symm; rw [decide_eq_false_iff_not]; omega
  | .negSucc a, .negSucc b => show Nat.blt b a = decide (Int.negSucc a < Int.negSucc b); rw [Bool.eq_iff_iff, Nat.blt_eq, decide_eq_true_iff]; omega
theorem eqZ_eq (a b : Int) : eqZ a b = (a == b) := by
  cases a <;> cases b <;> simp only [eqZ]
  · rw [Bool.eq_iff_iff]; simp [Nat.beq_eq]; omega
  · symm; rw [beq_eq_false_iff_ne]; intro h; cases h
  · symm; rw [beq_eq_false_iff_ne]; intro h; cases h
  · rw [Bool.eq_iff_iff]; simp [Nat.beq_eq]
theorem kind_of_lim {k l : IntKind} (h : Nat.beq (lim k) (lim l) = true) : k = l := by
  rw [Nat.beq_eq] at h
  revert h
  cases k <;> cases l <;> first | exact fun _ => rfl | exact fun h => absurd h (by decide)
theorem intA_ok {P : Program} {σ : Val} {op : BinOp} {t : TypeId} {k l : IntKind} {a b : Int} {r : A} (h : intA op t k a l b = some r) : Tells P σ (binOp op t (.int k a) (.int l b)) r := by
  have slow : ∀ {r : A}, (match clo 3 (binOp op t (.int k a) (.int l b)) with | some v => abs1 v | none => none) = some r → Tells P σ (binOp op t (.int k a) (.int l b)) r := by
    intro r hr
    cases hc : clo 3 (binOp op t (.int k a) (.int l b)) with
    | none => rw [hc] at hr; cases hr
    | some v =>
      rw [hc] at hr
      obtain ⟨h1, h2, _⟩ := abs1_den (σ := σ) (D := σ.dom) hr
      exact ⟨fun w => by rw [clo_run hc w, h1], h2⟩
  by_cases hs : op = .shl ∨ op = .shr
  · rcases hs with rfl | rfl <;> exact slow h
  · have hk : k = l := by
      cases hb : Nat.beq (lim k) (lim l) with
      | true => exact kind_of_lim hb
      | false => cases op <;> simp [intA, hb] at h hs
    subst hk
    have hb : Nat.beq (lim k) (lim k) = true := by simp [Nat.beq_eq]
    have fin : ∀ {v : Value} {r : A}, (∀ w, (binOp op t (.int k a) (.int k b)).run P w = .ok v w) → r.den σ = v → r.ok σ.dom → Tells P σ (binOp op t (.int k a) (.int k b)) r :=
      fun h1 h2 h3 => ⟨fun w => by rw [h2]; exact h1 w, h3⟩
    cases op <;> simp only [intA, hb, cond_true] at h
    case shl => exact absurd (.inl rfl) hs
    case shr => exact absurd (.inr rfl) hs
    case add => injection h with h; subst h; exact fin (v := .int k (k.wrap (a + b))) (fun w => by simp [binOp, Op.intArith]) (by rw [A.den, wrapF_eq]; rfl) (by simp [A.ok])
    case sub => injection h with h; subst h; exact fin (v := .int k (k.wrap (a - b))) (fun w => by simp [binOp, Op.intArith]) (by rw [A.den, wrapF_eq]; rfl) (by simp [A.ok])
    case mul => injection h with h; subst h; exact fin (v := .int k (k.wrap (a * b))) (fun w => by simp [binOp, Op.intArith]) (by rw [A.den, wrapF_eq]; rfl) (by simp [A.ok])
    case eql => injection h with h; subst h; exact fin (v := .bool (a == b)) (fun w => by simp [binOp, Op.intCmp]) (by rw [A.den, eqZ_eq]) (by simp [A.ok])
    case neq => injection h with h; subst h; exact fin (v := .bool (a != b)) (fun w => by simp [binOp, Op.intCmp]) (by rw [A.den, eqZ_eq]; rfl) (by simp [A.ok])
    case lss => injection h with h; subst h; exact fin (v := .bool (a < b)) (fun w => by simp [binOp, Op.intCmp]) (by rw [A.den, ltI_eq]) (by simp [A.ok])
    case gtr => injection h with h; subst h; exact fin (v := .bool (a > b)) (fun w => by simp [binOp, Op.intCmp]) (by rw [A.den, ltI_eq]) (by simp [A.ok])
    case leq =>
      injection h with h; subst h
      exact fin (v := .bool (a ≤ b)) (fun w => by simp [binOp, Op.intCmp]) (by rw [A.den, ltI_eq, ← decide_not]; congr 1; rw [decide_eq_decide]; omega) (by simp [A.ok])
    case geq =>
      injection h with h; subst h
      exact fin (v := .bool (a ≥ b)) (fun w => by simp [binOp, Op.intCmp]) (by rw [A.den, ltI_eq, ← decide_not]; congr 1; rw [decide_eq_decide]; omega) (by simp [A.ok])
    case quo =>
      split at h
      · rename_i x y
        injection h with h; subst h
        refine fin (v := .int k (k.wrap ((Int.ofNat x).tdiv (Int.ofNat (y + 1))))) (fun w => ?_) (by rw [A.den, wrapF_eq]; rfl) (by simp [A.ok])
        have : ¬ (Int.ofNat (y + 1) = 0) := by intro h; cases h
        simp only [binOp, Op.intDiv, if_neg this, ne_eq, not_true, if_false]
        rfl
      · exact slow h
    all_goals exact slow h
end Go.Proofs.YtibompboimeedaaGreatDoor.Ev
