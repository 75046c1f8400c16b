/-
  The evaluator tells the truth: operands, types, operations that do not ask of the heap. The evaluator tells the truth: comparisons, cuts, structs. The evaluator tells the truth: operations that do not ask of the heap.
-/
import Derived.Test.YteemnmalikomgaaGreatDoorQNaEv1
import Derived.Laws.StructEq
import Derived.Laws.Slices
import Derived.Laws.Small
import Derived.Laws.Tables
import Derived.Great.BuildSlice
namespace Go.Proofs.YteemnmalikomgaaGreatDoor.Ev
section
variable {σ : Val} {D : Nat → Prop}
theorem abs1_den {v : Value} {a : A} (h : abs1 v = some a) : a.den σ = v ∧ a.ok D ∧ a.one = true := by
 unfold abs1 at h
 split at h <;> first
  | (injection h with h; subst h; simp [A.den, A.ok, A.one, Val.ex])
  | cases h
theorem absL_den : ∀ {l : List Value} {r : List A}, absL l = some r → A.dens σ r = l ∧ A.oks D r ∧ allOne r = true
 | [], r, h => by simp [absL] at h; subst h; simp [A.dens, A.oks, allOne]
 | v :: l, r, h => by
  simp only [absL] at h
  cases hv : abs1 v with
  | none => rw [hv] at h; cases h
  | some a =>
   rw [hv] at h
   cases hl : absL l with
   | none => rw [hl] at h; cases h
   | some s =>
    rw [hl] at h
    injection h with h
    subst h
    obtain ⟨h1, h2, h3⟩ := abs1_den (σ := σ) (D := D) hv
    obtain ⟨h4, h5, h6⟩ := absL_den hl
    exact ⟨by simp [A.dens, h1, h4], ⟨h2, h5⟩, by simp [allOne, h3, h6]⟩
theorem absV_den {v : Value} {a : A} (h : absV v = some a) : a.den σ = v ∧ a.ok D := by
 unfold absV at h
 split at h
 ·rename_i l
  cases hl : absL l with
  | none => rw [hl] at h; cases h
  | some s =>
   rw [hl] at h
   injection h with h
   subst h
   obtain ⟨h1, h2, _⟩ := absL_den (σ := σ) (D := D) hl
   exact ⟨by simp [A.den, h1], h2⟩
 ·rename_i l
  cases hl : absL l with
  | none => rw [hl] at h; cases h
  | some s =>
   rw [hl] at h
   injection h with h
   subst h
   obtain ⟨h1, h2, _⟩ := absL_den (σ := σ) (D := D) hl
   exact ⟨by simp [A.den, h1], h2⟩
 ·obtain ⟨h1, h2, _⟩ := abs1_den (σ := σ) (D := D) h
  exact ⟨h1, h2⟩
end
structure TiOk (P : Program) (t : TypeId) (ti : TI) : Prop where
 ex : ∃ i, P.info? t = some i ∧ i.size = ti.size ∧ i.bytes = ti.bytes ∧ ∀ z, ti.zero = some z → ∃ v, i.zero = some v ∧ (∀ σ, A.dens σ z = v.cells.toList) ∧ (∀ D, A.oks D z) ∧ allOne z = true
 d : P.underlying t = some ti.d
 eq : ti.eq = eqType P t
theorem tiOf_ok {P : Program} {t : TypeId} {ti : TI} (h : tiOf P t = some ti) : TiOk P t ti := by
 unfold tiOf at h
 split at h
 ·cases h
 ·rename_i i hi
  split at h
  ·cases h
  ·rename_i d hd
   injection h with h
   subst h
   refine ⟨⟨i, hi, rfl, rfl, fun z hz => ?_⟩, hd, rfl⟩
   simp only at hz
   cases hv : i.zero with
   | none => rw [hv] at hz; cases hz
   | some v =>
    rw [hv] at hz
    simp only [Option.bind_some] at hz
    split at hz
    ·exact ⟨_, rfl, fun σ => by rw [(absL_den (σ := σ) (D := fun _ => True) hz).1]; rfl, fun D => (absL_den (σ := ⟨fun _ => True, id, id, id⟩) (D := D) hz).2.1, (absL_den (σ := ⟨fun _ => True, id, id, id⟩) (D := fun _ => True) hz).2.2⟩
    ·rename_i hne
     cases ha : abs1 v with
     | none => rw [ha] at hz; cases hz
     | some a =>
      rw [ha] at hz
      injection hz with hz
      subst hz
      refine ⟨v, rfl, fun σ => ?_, fun D => ⟨(abs1_den (σ := ⟨fun _ => True, id, id, id⟩) (D := D) ha).2.1, trivial⟩, by simp [allOne, (abs1_den (σ := ⟨fun _ => True, id, id, id⟩) (D := fun _ => True) ha).2.2]⟩
      simp only [A.dens, (abs1_den (σ := σ) (D := fun _ => True) ha).1]
      cases v <;> first | rfl | (rename_i cs; exact absurd rfl (hne cs.toList))
theorem tabT_get (P : Program) : ∀ (n k : Nat) (t : Tr (Option TI)) (j : Nat), (tabT P n k t).get j = if k ≤ j ∧ j < k + n then some (tiOf P j) else t.get j
 | 0, k, t, j => by simp [tabT]; omega
 | n + 1, k, t, j => by
  simp only [tabT, tabT_get P n (k + 1), Tr.get_put]
  by_cases h1 : j = k
  ·subst h1
   rw [if_neg (by omega), if_pos rfl, if_pos (by omega)]
  ·by_cases h2 : k ≤ j ∧ j < k + (n + 1)
   ·rw [if_pos (by omega), if_pos h2]
   ·rw [if_neg (by omega), if_neg h1, if_neg h2]
theorem t_ok {P : Program} {t : TypeId} {ti : TI} (h : (tabOf P).t t = some ti) : TiOk P t ti := by
 simp only [tabOf, Tab.t, tabT_get] at h
 by_cases hb : 0 ≤ t ∧ t < 0 + P.types.size
 ·rw [if_pos hb] at h; exact tiOf_ok h
 ·rw [if_neg hb] at h; cases h
theorem f_ok {P : Program} {f : FuncId} {x : FI} (h : (tabOf P).fn.get f = some x) : P.funcs[f]? = some x.fn ∧ x.ok = !(x.fn.name == "runtime.NumGoroutine") := by
 simp only [tabOf, Tr.get_ofL] at h
 split at h
 ·simp only [Nat.sub_zero, List.getElem?_map, Option.map_eq_some_iff, Array.getElem?_toList] at h
  obtain ⟨y, hy, rfl⟩ := h
  exact ⟨hy, rfl⟩
 ·cases h
def EvalOk (P : Program) (σ : Val) (env : Tr A) (ρ : Operand → Value) : Prop := ∀ x a, opd (tabOf P) env x = some a → ρ x = a.den σ ∧ a.ok σ.dom
theorem EnvAt.evalOk {P : Program} {σ : Val} {env : Tr A} {n : Nat} {a : Act} {h : H} {w : World} (e : EnvAt σ env n a.tmps) (r : Rel P.globals.size σ h w) : EvalOk P σ env a.eval := by
 intro x v hx
 cases x with
 | tmp t =>
  obtain ⟨h1, h2⟩ := e.get t v hx
  exact ⟨by simp [Act.eval, h1], h2⟩
 | const c => exact ⟨(absV_den (σ := σ) (D := σ.dom) hx).1.symm, (absV_den (σ := σ) hx).2⟩
 | global g =>
  have hx' : @Bool.rec (fun _ => Option A) none (some (.p (some (g, 0)))) (Nat.blt g P.globals.size) = some v := hx
  cases hb : Nat.blt g P.globals.size with
  | false => rw [hb] at hx'; cases hx'
  | true =>
   rw [hb] at hx'
   injection hx' with hx'
   subst hx'
   have hlt : g < P.globals.size := by simpa [Nat.blt_eq] using hb
   obtain ⟨h1, h2, h3⟩ := r.g g hlt
   exact ⟨by simp [Act.eval, A.den, Val.ad, h2, h3], h1⟩
 | func f =>
  have hx' : some (A.fn f [] []) = some v := hx
  injection hx' with hx'
  subst hx'
  exact ⟨by simp [Act.eval, A.den, A.dens], by simp [A.ok, A.oks]⟩
section
variable {P : Program} {σ : Val} {env : Tr A} {ρ : Operand → Value}
theorem opds_ok (he : EvalOk P σ env ρ) : ∀ {xs : List Operand} {l : List A}, opds (tabOf P) env xs = some l → xs.map ρ = A.dens σ l ∧ A.oks σ.dom l
 | [], l, h => by simp [opds] at h; subst h; simp [A.dens, A.oks]
 | x :: xs, l, h => by
  simp only [opds] at h
  cases hx : opd (tabOf P) env x with
  | none => rw [hx] at h; cases h
  | some a =>
   rw [hx] at h
   cases hl : opds (tabOf P) env xs with
   | none => rw [hl] at h; cases h
   | some r =>
    rw [hl] at h
    injection h with h
    subst h
    obtain ⟨h1, h2⟩ := he x a hx
    obtain ⟨h3, h4⟩ := opds_ok he hl
    exact ⟨by simp [A.dens, h1, h3], h2, h4⟩
theorem parts_ok (he : EvalOk P σ env ρ) : ∀ {xs : List (Nat × Operand)} {l : List (Nat × A)}, parts (tabOf P) env xs = some l → (xs.map fun (i, x) => (i, ρ x)) = l.map (fun p => (p.1, p.2.den σ)) ∧ ∀ p ∈ l, p.2.ok σ.dom
 | [], l, h => by simp [parts] at h; subst h; simp
 | (i, x) :: xs, l, h => by
  simp only [parts] at h
  cases hx : opd (tabOf P) env x with
  | none => rw [hx] at h; cases h
  | some a =>
   rw [hx] at h
   cases hl : parts (tabOf P) env xs with
   | none => rw [hl] at h; cases h
   | some r =>
    rw [hl] at h
    injection h with h
    subst h
    obtain ⟨h1, h2⟩ := he x a hx
    obtain ⟨h3, h4⟩ := parts_ok he hl
    refine ⟨by simp [h1, h3], fun p hp => ?_⟩
    rcases List.mem_cons.1 hp with rfl | hp
    ·exact h2
    ·exact h4 p hp
end
def Tells (P : Program) (σ : Val) (s : Sem Value) (a : A) : Prop := (∀ w, s.run P w = .ok (a.den σ) w) ∧ a.ok σ.dom
theorem clo_run {P : Program} {α : Type} : ∀ {n : Nat} {s : Sem α} {a : α}, clo n s = some a → ∀ w, s.run P w = .ok a w
 | 0, s, a, h, _ => by simp [clo] at h
 | n + 1, s, a, h, w => by
  cases s <;> simp only [clo] at h <;> first
   | (injection h with h; subst h; rfl)
   | exact clo_run h w
   | cases h
theorem wrapF_eq (k : IntKind) (n : Int) : wrapF k n = k.wrap n := by
 cases n with
 | ofNat m =>
  show cond (Nat.blt m (lim k)) (Int.ofNat m) (k.wrap (Int.ofNat m)) = _
  cases hb : Nat.blt m (lim k) with
  | false => rfl
  | true =>
   have hlt : m < lim k := by simpa [Nat.blt_eq] using hb
   rw [cond_true]
   symm
   clear hb
   cases k <;> simp only [lim] at hlt <;> simp [IntKind.wrap, IntKind.bits, IntKind.signed] <;> omega
 | negSucc m =>
  show cond (and (signedK k) (Nat.blt m (lim k))) (Int.negSucc m) (k.wrap (Int.negSucc m)) = _
  cases hb : (and (signedK k) (Nat.blt m (lim k))) with
  | false => rfl
  | true =>
   rw [Bool.and_eq_true, Nat.blt_eq] at hb
   obtain ⟨h1, hlt⟩ := hb
   rw [cond_true]
   symm
   have e : Int.negSucc m = -(m : Int) - 1 := by omega
   rw [e]
   have wr : ∀ (k : IntKind) (n : Int), k.wrap n = if k.signed = true ∧ n % (2 ^ k.bits : Int) ≥ (2 ^ (k.bits - 1) : Int) then n % (2 ^ k.bits : Int) - (2 ^ k.bits : Int) else n % (2 ^ k.bits : Int) := fun k n => by
    unfold IntKind.wrap
    simp only [Bool.and_eq_true, decide_eq_true_eq]
   rw [wr]
   cases k <;> simp only [signedK, Bool.false_eq_true] at h1 <;> simp only [lim] at hlt
   ·rw [if_pos ⟨rfl, by show _ ≥ (2 ^ 7 : Int); simp only [IntKind.bits]; omega⟩]; simp only [IntKind.bits]; omega
   ·rw [if_pos ⟨rfl, by show _ ≥ (2 ^ 15 : Int); simp only [IntKind.bits]; omega⟩]; simp only [IntKind.bits]; omega
   ·rw [if_pos ⟨rfl, by show _ ≥ (2 ^ 31 : Int); simp only [IntKind.bits]; omega⟩]; simp only [IntKind.bits]; omega
   ·rw [if_pos ⟨rfl, by show _ ≥ (2 ^ 63 : Int); simp only [IntKind.bits]; omega⟩]; simp only [IntKind.bits]; omega
theorem ltI_eq (a b : Int) : ltI a b = decide (a < b) := by
 match a, b with
 | .ofNat a, .ofNat b => show Nat.blt a b = decide ((a : Int) < (b : Int)); rw [Bool.eq_iff_iff, Nat.blt_eq, decide_eq_true_iff]; omega
 | .negSucc a, .ofNat b => show true = decide (Int.negSucc a < (b : Int)); symm; rw [decide_eq_true_iff]; omega
 | .ofNat a, .negSucc b => show false = decide ((a : Int) < Int.negSucc b); symm; rw [decide_eq_false_iff_not]; omega
 | .negSucc a, .negSucc b => show Nat.blt b a = decide (Int.negSucc a < Int.negSucc b); rw [Bool.eq_iff_iff, Nat.blt_eq, decide_eq_true_iff]; omega
theorem eqZ_eq (a b : Int) : eqZ a b = (a == b) := by
 cases a <;> cases b <;> simp only [eqZ]
 ·rw [Bool.eq_iff_iff]; simp [Nat.beq_eq]; omega
 ·symm; rw [beq_eq_false_iff_ne]; intro h; cases h
 ·symm; rw [beq_eq_false_iff_ne]; intro h; cases h
 ·rw [Bool.eq_iff_iff]; simp [Nat.beq_eq]
theorem kind_of_lim {k l : IntKind} (h : Nat.beq (lim k) (lim l) = true) : k = l := by
 rw [Nat.beq_eq] at h
 revert h
 cases k <;> cases l <;> first | exact fun _ => rfl | exact fun h => absurd h (by decide)
theorem intA_ok {P : Program} {σ : Val} {op : BinOp} {t : TypeId} {k l : IntKind} {a b : Int} {r : A} (h : intA op t k a l b = some r) : Tells P σ (binOp op t (.int k a) (.int l b)) r := by
 have slow : ∀ {r : A}, (match clo 3 (binOp op t (.int k a) (.int l b)) with | some v => abs1 v | none => none) = some r → Tells P σ (binOp op t (.int k a) (.int l b)) r := by
  intro r hr
  cases hc : clo 3 (binOp op t (.int k a) (.int l b)) with
  | none => rw [hc] at hr; cases hr
  | some v =>
   rw [hc] at hr
   obtain ⟨h1, h2, _⟩ := abs1_den (σ := σ) (D := σ.dom) hr
   exact ⟨fun w => by rw [clo_run hc w, h1], h2⟩
 by_cases hs : op = .shl ∨ op = .shr
 ·rcases hs with rfl | rfl <;> exact slow h
 ·have hk : k = l := by
   cases hb : Nat.beq (lim k) (lim l) with
   | true => exact kind_of_lim hb
   | false => cases op <;> simp [intA, hb] at h hs
  subst hk
  have hb : Nat.beq (lim k) (lim k) = true := by simp
  have fin : ∀ {v : Value} {r : A}, (∀ w, (binOp op t (.int k a) (.int k b)).run P w = .ok v w) → r.den σ = v → r.ok σ.dom → Tells P σ (binOp op t (.int k a) (.int k b)) r :=
   fun h1 h2 h3 => ⟨fun w => by rw [h2]; exact h1 w, h3⟩
  cases op <;> simp only [intA, hb, cond_true] at h
  case shl => exact absurd (.inl rfl) hs
  case shr => exact absurd (.inr rfl) hs
  case add => injection h with h; subst h; exact fin (v := .int k (k.wrap (a + b))) (fun w => by simp [binOp, Op.intArith]) (by rw [A.den, wrapF_eq]; rfl) (by simp [A.ok])
  case sub => injection h with h; subst h; exact fin (v := .int k (k.wrap (a - b))) (fun w => by simp [binOp, Op.intArith]) (by rw [A.den, wrapF_eq]; rfl) (by simp [A.ok])
  case mul => injection h with h; subst h; exact fin (v := .int k (k.wrap (a * b))) (fun w => by simp [binOp, Op.intArith]) (by rw [A.den, wrapF_eq]; rfl) (by simp [A.ok])
  case eql => injection h with h; subst h; exact fin (v := .bool (a == b)) (fun w => by simp [binOp, Op.intCmp]) (by rw [A.den, eqZ_eq]) (by simp [A.ok])
  case neq => injection h with h; subst h; exact fin (v := .bool (a != b)) (fun w => by simp [binOp, Op.intCmp]) (by rw [A.den, eqZ_eq]; rfl) (by simp [A.ok])
  case lss => injection h with h; subst h; exact fin (v := .bool (a < b)) (fun w => by simp [binOp, Op.intCmp]) (by rw [A.den, ltI_eq]) (by simp [A.ok])
  case gtr => injection h with h; subst h; exact fin (v := .bool (a > b)) (fun w => by simp [binOp, Op.intCmp]) (by rw [A.den, ltI_eq]) (by simp [A.ok])
  case leq =>
   injection h with h; subst h
   exact fin (v := .bool (a ≤ b)) (fun w => by simp [binOp, Op.intCmp]) (by rw [A.den, ltI_eq, ← decide_not]; congr 1; rw [decide_eq_decide]; omega) (by simp [A.ok])
  case geq =>
   injection h with h; subst h
   exact fin (v := .bool (a ≥ b)) (fun w => by simp [binOp, Op.intCmp]) (by rw [A.den, ltI_eq, ← decide_not]; congr 1; rw [decide_eq_decide]; omega) (by simp [A.ok])
  case quo =>
   split at h
   ·rename_i x y
    injection h with h; subst h
    refine fin (v := .int k (k.wrap ((Int.ofNat x).tdiv (Int.ofNat (y + 1))))) (fun w => ?_) (by rw [A.den, wrapF_eq]; rfl) (by simp [A.ok])
    have : ¬ (Int.ofNat (y + 1) = 0) := by intro h; cases h
    simp only [binOp, Op.intDiv, if_neg this, ne_eq, not_true, if_false]
    rfl
   ·exact slow h
  all_goals exact slow h
end Go.Proofs.YteemnmalikomgaaGreatDoor.Ev
namespace Go.Proofs.YteemnmalikomgaaGreatDoor.Ev
section
variable {P : Program} {σ : Val}
theorem eqB_eq : ∀ (a b : List UInt8), eqB a b = (a == b)
 | [], [] => rfl
 | [], _ :: _ => rfl
 | _ :: _, [] => rfl
 | a :: l, b :: r => by
  simp only [eqB, eqB_eq l r]
  rw [Bool.eq_iff_iff]
  simp [Nat.beq_eq, UInt8.toNat_inj]
theorem toList_eq (a : List UInt8) : (⟨⟨a⟩⟩ : ByteArray).toList = a := by
 rw [ByteArray.toList_eq]
theorem some_inj {α : Type} {a b : α} (h : some a = some b) : a = b := by injection h
theorem strA_ok {op : BinOp} {t : TypeId} {a b : List UInt8} {r : A} (h : strA op a b = some r) : Tells P σ (binOp op t (.string ⟨⟨a⟩⟩) (.string ⟨⟨b⟩⟩)) r := by
 cases op
 case eql => obtain rfl := some_inj h; exact ⟨fun w => by simp [binOp, Op.stringOp, A.den, eqB_eq], by simp [A.ok]⟩
 case neq => obtain rfl := some_inj h; exact ⟨fun w => by simp [binOp, Op.stringOp, A.den, eqB_eq], by simp [A.ok]⟩
 case add =>
  have h' : cond (Nat.ble (Nat.add a.length b.length) 1000000) (some (A.s (a ++ b))) none = some r := h
  cases hb : Nat.ble (Nat.add a.length b.length) 1000000 with
  | false => rw [hb] at h'; cases h'
  | true =>
   rw [hb] at h'
   obtain rfl := some_inj h'
   have hle : a.length + b.length ≤ 1000000 := by simpa [Nat.ble_eq] using hb
   refine ⟨fun w => ?_, by simp [A.ok]⟩
   have e : ((⟨⟨a⟩⟩ : ByteArray) ++ (⟨⟨b⟩⟩ : ByteArray)) = (⟨⟨a ++ b⟩⟩ : ByteArray) := by
    apply ByteArray.ext; simp
   have hn : ¬ (((a.length + b.length : Nat) : Int) > IntKind.i64.max) := by simp [IntKind.max, IntKind.bits, IntKind.signed]; omega
   simp only [binOp, Op.stringOp, A.den]
   show Sem.run P (if (((a.length + b.length : Nat) : Int) > IntKind.i64.max) then _ else _) w = _
   rw [if_neg hn, e]; rfl
 all_goals exact absurd h (by simp [strA])
theorem eqNe_ok {op : BinOp} {x : Bool} {r : A} (h : eqNe op x = some r) : (op = .eql ∧ r = .b x) ∨ (op = .neq ∧ r = .b (!x)) := by
 cases op
 case eql => exact .inl ⟨rfl, (some_inj h).symm⟩
 case neq => exact .inr ⟨rfl, (some_inj h).symm⟩
 all_goals exact absurd h (by simp [eqNe])
theorem eql_ok {op : BinOp} {t : TypeId} {a b : Value} {x : Bool} {r : A} (h : eqNe op x = some r) (he : ∀ w, (binOp .eql t a b).run P w = .ok (.bool x) w) (hn : ∀ w, (binOp .neq t a b).run P w = .ok (.bool (!x)) w) : Tells P σ (binOp op t a b) r := by
 rcases eqNe_ok h with ⟨rfl, rfl⟩ | ⟨rfl, rfl⟩
 ·exact ⟨fun w => by rw [he w]; rfl, by simp [A.ok]⟩
 ·exact ⟨fun w => by rw [hn w]; rfl, by simp [A.ok]⟩
theorem equal_ok {op : BinOp} {t : TypeId} {a b : Value} {x : Bool} {r : A} (h : eqNe op x = some r) (he : ∀ w, (Op.equal t a b).run P w = .ok x w)
  (e1 : binOp .eql t a b = (do pure (.bool (← Op.equal t a b)))) (e2 : binOp .neq t a b = (do pure (.bool (!(← Op.equal t a b))))) : Tells P σ (binOp op t a b) r :=
 eql_ok h (fun w => by rw [e1]; simp [he w]) (fun w => by rw [e2]; simp [he w])
theorem bool_ok {op : BinOp} {t : TypeId} {a b : Bool} {r : A} (hd : isBoolD ((tabOf P).t t) = true) (h : eqNe op (a == b) = some r) : Tells P σ (binOp op t (.bool a) (.bool b)) r := by
 cases ht : (tabOf P).t t with
 | none => rw [ht] at hd; cases hd
 | some ti =>
  rw [ht] at hd
  have hu : P.underlying t = some .bool := by
   rw [(t_ok ht).d]
   obtain ⟨d, s, by_, z, e⟩ := ti
   cases d <;> first | rfl | cases hd
  exact eql_ok h (fun w => run_eql_bool w t a b hu) (fun w => run_neq_bool w t a b hu)
theorem nilEq_ok {op : BinOp} {x y : Option (Nat × Nat)} {r : A} (h : nilEq op x y = some r) : ∃ b, eqNe op b = some r ∧ ((x = none ∧ b = y.isNone) ∨ ((∃ z, x = some z) ∧ y = none ∧ b = false)) := by
 cases x with
 | none => cases y with
  | none => exact ⟨true, h, .inl ⟨rfl, rfl⟩⟩
  | some z => exact ⟨false, h, .inl ⟨rfl, rfl⟩⟩
 | some z => cases y with
  | none => exact ⟨false, h, .inr ⟨⟨z, rfl⟩, rfl, rfl⟩⟩
  | some u => exact absurd h (by simp [nilEq])
theorem in_ptr0 (d : Nat) {t e : TypeId} (y : Option Addr) (hu : P.underlying t = some (.pointer e)) (w : World) : (Op.equalIn (d + 1) t (.pointer none) (.pointer y)).run P w = .ok y.isNone w := by
 simp [Op.equalIn, run_underlying hu]
theorem in_ptr1 (d : Nat) {t e : TypeId} (x : Addr) (hu : P.underlying t = some (.pointer e)) (w : World) : (Op.equalIn (d + 1) t (.pointer (some x)) (.pointer none)).run P w = .ok false w := by
 simp [Op.equalIn, run_underlying hu]
theorem in_sl0 (d : Nat) {t e : TypeId} (y : Option Addr) (n a m b : Nat) (hu : P.underlying t = some (.slice e)) (w : World) : (Op.equalIn (d + 1) t (.slice none n a) (.slice y m b)).run P w = .ok y.isNone w := by
 simp [Op.equalIn, run_underlying hu]
theorem in_sl1 (d : Nat) {t e : TypeId} (x : Addr) (n a m b : Nat) (hu : P.underlying t = some (.slice e)) (w : World) : (Op.equalIn (d + 1) t (.slice (some x) n a) (.slice none m b)).run P w = .ok false w := by
 simp [Op.equalIn, run_underlying hu]
theorem in_fn0 (d : Nat) {t : TypeId} {p q : Array TypeId} {v : Bool} (hu : P.underlying t = some (.func p q v)) (w : World) : (Op.equalIn (d + 1) t .nilFunc .nilFunc).run P w = .ok true w := by
 simp [Op.equalIn, run_underlying hu]
theorem in_fn1 (d : Nat) {t : TypeId} {p q : Array TypeId} {v : Bool} (f : Fn) (a c : Array Value) (hu : P.underlying t = some (.func p q v)) (w : World) : (Op.equalIn (d + 1) t (.func f a c) .nilFunc).run P w = .ok false w := by
 simp [Op.equalIn, run_underlying hu]
theorem ptr_ok {op : BinOp} {t : TypeId} {x y : Option (Nat × Nat)} {r : A} (hd : isPtrD ((tabOf P).t t) = true) (h : nilEq op x y = some r) : Tells P σ (binOp op t (.pointer (x.map σ.ad)) (.pointer (y.map σ.ad))) r := by
 cases ht : (tabOf P).t t with
 | none => rw [ht] at hd; cases hd
 | some ti =>
  rw [ht] at hd
  obtain ⟨e, hu⟩ : ∃ e, P.underlying t = some (.pointer e) := by
   rw [(t_ok ht).d]
   obtain ⟨d, s, by_, z, e⟩ := ti
   cases d <;> first | exact ⟨_, rfl⟩ | cases hd
  obtain ⟨b, h1, h2⟩ := nilEq_ok h
  refine equal_ok h1 (fun w => ?_) ?_ ?_
  ·rcases h2 with ⟨rfl, rfl⟩ | ⟨⟨z, rfl⟩, rfl, rfl⟩
   ·have := in_ptr0 9999 (y.map σ.ad) hu w
    rw [Option.isNone_map] at this
    exact this
   ·exact in_ptr1 9999 _ hu w
  ·rcases h2 with ⟨rfl, rfl⟩ | ⟨⟨z, rfl⟩, rfl, rfl⟩ <;> first | (cases y <;> rfl) | rfl
  ·rcases h2 with ⟨rfl, rfl⟩ | ⟨⟨z, rfl⟩, rfl, rfl⟩ <;> first | (cases y <;> rfl) | rfl
theorem sl_ok {op : BinOp} {t : TypeId} {x y : Option (Nat × Nat)} {n m a b : Nat} {r : A} (hd : isSlD ((tabOf P).t t) = true) (h : nilEq op x y = some r) : Tells P σ (binOp op t (.slice (x.map σ.ad) n a) (.slice (y.map σ.ad) m b)) r := by
 cases ht : (tabOf P).t t with
 | none => rw [ht] at hd; cases hd
 | some ti =>
  rw [ht] at hd
  obtain ⟨e, hu⟩ : ∃ e, P.underlying t = some (.slice e) := by
   rw [(t_ok ht).d]
   obtain ⟨d, s, by_, z, e⟩ := ti
   cases d <;> first | exact ⟨_, rfl⟩ | cases hd
  obtain ⟨c, h1, h2⟩ := nilEq_ok h
  refine equal_ok h1 (fun w => ?_) ?_ ?_
  ·rcases h2 with ⟨rfl, rfl⟩ | ⟨⟨z, rfl⟩, rfl, rfl⟩
   ·have := in_sl0 9999 (y.map σ.ad) n a m b hu w
    rw [Option.isNone_map] at this
    exact this
   ·exact in_sl1 9999 _ _ _ _ _ hu w
  ·rfl
  ·rfl
theorem fn_ok {op : BinOp} {t : TypeId} {x : Value} {b : Bool} {r : A} (hx : (∃ f a c, x = .func f a c) ∧ b = false ∨ x = .nilFunc ∧ b = true) (hd : isFnD ((tabOf P).t t) = true) (h : eqNe op b = some r) : Tells P σ (binOp op t x .nilFunc) r := by
 cases ht : (tabOf P).t t with
 | none => rw [ht] at hd; cases hd
 | some ti =>
  rw [ht] at hd
  obtain ⟨p, q, v, hu⟩ : ∃ p q v, P.underlying t = some (.func p q v) := by
   rw [(t_ok ht).d]
   obtain ⟨d, s, by_, z, e⟩ := ti
   cases d <;> first | exact ⟨_, _, _, rfl⟩ | cases hd
  refine equal_ok h (fun w => ?_) ?_ ?_
  ·rcases hx with ⟨⟨f, a, c, rfl⟩, rfl⟩ | ⟨rfl, rfl⟩
   ·exact in_fn1 9999 f a c hu w
   ·exact in_fn0 9999 hu w
  ·rcases hx with ⟨⟨f, a, c, rfl⟩, rfl⟩ | ⟨rfl, rfl⟩ <;> rfl
  ·rcases hx with ⟨⟨f, a, c, rfl⟩, rfl⟩ | ⟨rfl, rfl⟩ <;> rfl
theorem eqI_eq (k l : IntKind) (a b : Int) : eqI k a l b = (a == b) := by
 cases a <;> cases b <;> simp only [eqI]
 ·rw [Bool.eq_iff_iff]; simp [Nat.beq_eq]; omega
 ·symm; rw [beq_eq_false_iff_ne]; intro h; cases h
 ·symm; rw [beq_eq_false_iff_ne]; intro h; cases h
 ·rw [Bool.eq_iff_iff]; simp [Nat.beq_eq]
theorem eq1_ok {n d : Nat} {t : TypeId} {a b : A} {x : Bool} (hk : kindD (P.underlying t) = n) (h : eq1 n a b = some x) (w : World) : (Op.equalIn (d + 1) t (a.den σ) (b.den σ)).run P w = .ok x w := by
 cases a <;> try (revert h; simp [eq1]; done)
 ·rename_i u
  cases b <;> try (revert h; simp [eq1]; done)
  rename_i v
  have h' : cond (Nat.beq n 1) (some (u == v)) none = some x := h
  cases hb : Nat.beq n 1 with
  | false => rw [hb] at h'; cases h'
  | true =>
   rw [hb] at h'
   obtain rfl := some_inj h'
   have hn : n = 1 := Nat.eq_of_beq_eq_true hb
   have hu : P.underlying t = some .bool := by
    rw [hn] at hk
    revert hk
    unfold kindD
    split <;> intro hk <;> first | assumption | (exact absurd hk (by decide))
   simp only [A.den]
   exact run_equalIn_bool w d t u v hu
 ·rename_i k u
  cases b <;> try (revert h; simp [eq1]; done)
  rename_i l v
  have h' : cond (and (Nat.beq n 2) (decide (k = l))) (some (eqI k u l v)) none = some x := h
  cases hb : (and (Nat.beq n 2) (decide (k = l))) with
  | false => rw [hb] at h'; cases h'
  | true =>
   rw [hb] at h'
   obtain rfl := some_inj h'
   rw [Bool.and_eq_true, decide_eq_true_iff] at hb
   have hn : n = 2 := Nat.eq_of_beq_eq_true hb.1
   obtain rfl := hb.2
   obtain ⟨k', hu⟩ : ∃ k', P.underlying t = some (.int k') := by
    rw [hn] at hk
    revert hk
    unfold kindD
    split <;> intro hk <;> first | exact ⟨_, by assumption⟩ | (exact absurd hk (by decide))
   simp only [A.den, eqI_eq]
   exact run_equalIn_int w d t k k' u v hu
 ·rename_i u
  cases b <;> try (revert h; simp [eq1]; done)
  rename_i v
  have h' : cond (Nat.beq n 3) (some (eqB u v)) none = some x := h
  cases hb : Nat.beq n 3 with
  | false => rw [hb] at h'; cases h'
  | true =>
   rw [hb] at h'
   obtain rfl := some_inj h'
   have hn : n = 3 := Nat.eq_of_beq_eq_true hb
   have hu : P.underlying t = some .string := by
    rw [hn] at hk
    revert hk
    unfold kindD
    split <;> intro hk <;> first | assumption | (exact absurd hk (by decide))
   simp only [A.den, eqB_eq]
   have := run_equalIn_string w d t ⟨⟨u⟩⟩ ⟨⟨v⟩⟩ hu
   rw [toList_eq, toList_eq] at this
   exact this
theorem kind_plain {t : TypeId} {n : Nat} (hk : kindD (P.underlying t) = n + 1) (w : World) : (isAgg t).run P w = .ok false w := by
 unfold isAgg
 revert hk
 unfold kindD
 split <;> intro hk <;> first
  | (rename_i hu; simp [run_underlying hu])
  | (exact absurd hk (by simp))
theorem eqFields_ok {d : Nat} : ∀ {fs : List Field} {k : Nat} {ks : List Nat} {a b : List A} {x : Bool} (xs ys : Array Value), eqGo P fs k = some ks → eqC ks a b = some x →
  xs.toList.drop k = A.dens σ a → ys.toList.drop k = A.dens σ b → ∀ w, (Op.eqFields (d + 1) xs ys fs).run P w = .ok x w
 | [], k, ks, a, b, x, xs, ys, hg, hc, hx, hy, w => by
  obtain rfl := some_inj hg
  cases a <;> cases b <;> try (revert hc; simp [eqC]; done)
  obtain rfl := some_inj hc
  simp [Op.eqFields]
 | f :: fs, k, ks, a, b, x, xs, ys, hg, hc, hx, hy, w => by
  have hg' : cond (and (and (f.name != "_") (Nat.beq f.offset k)) ((P.info? f.type).elim false fun i => Nat.beq i.size 1)) (match kindD (P.underlying f.type) with | 0 => none | n + 1 => (match eqGo P fs (k + 1) with | some r => some ((n + 1) :: r) | none => none)) none = some ks := hg
  cases hb : (and (and (f.name != "_") (Nat.beq f.offset k)) ((P.info? f.type).elim false fun i => Nat.beq i.size 1)) with
  | false => rw [hb] at hg'; cases hg'
  | true =>
   rw [hb, cond_true] at hg'
   rw [Bool.and_eq_true, Bool.and_eq_true] at hb
   obtain ⟨⟨hname, hoff⟩, _⟩ := hb
   have hoff : f.offset = k := Nat.eq_of_beq_eq_true hoff
   cases hk : kindD (P.underlying f.type) with
   | zero => rw [hk] at hg'; cases hg'
   | succ n =>
    rw [hk] at hg'
    cases hr : eqGo P fs (k + 1) with
    | none => rw [hr] at hg'; cases hg'
    | some r =>
     rw [hr] at hg'
     obtain rfl := some_inj hg'
     cases a with
     | nil => cases b <;> exact absurd hc (by simp [eqC])
     | cons u a =>
      cases b with
      | nil => exact absurd hc (by simp [eqC])
      | cons v b =>
       have hxk : xs[k]? = some (u.den σ) := by
        have := congrArg (fun l => l[0]?) hx
        simpa [A.dens, List.getElem?_drop] using this
       have hyk : ys[k]? = some (v.den σ) := by
        have := congrArg (fun l => l[0]?) hy
        simpa [A.dens, List.getElem?_drop] using this
       have hx1 : xs.toList.drop (k + 1) = A.dens σ a := by
        have := congrArg List.tail hx
        simpa [A.dens] using this
       have hy1 : ys.toList.drop (k + 1) = A.dens σ b := by
        have := congrArg List.tail hy
        simpa [A.dens] using this
       have hc' : (match eq1 (n + 1) u v with | some true => eqC r a b | some false => some false | none => none) = some x := hc
       have p1 : ∀ w, (part f.type xs f.offset).run P w = .ok (u.den σ) w := fun w => by
        unfold part; rw [hoff]; simp [kind_plain hk, hxk]
       have p2 : ∀ w, (part f.type ys f.offset).run P w = .ok (v.den σ) w := fun w => by
        unfold part; rw [hoff]; simp [kind_plain hk, hyk]
       have hname : f.name ≠ "_" := by simpa using hname
       cases he : eq1 (n + 1) u v with
       | none => rw [he] at hc'; cases hc'
       | some y =>
        rw [he] at hc'
        have p3 : ∀ w, (Op.equalIn (d + 1) f.type (u.den σ) (v.den σ)).run P w = .ok y w := fun w => eq1_ok hk he w
        simp only [Op.eqFields, if_pos hname, Sem.run_bind, p1, p2, p3, Result.andThen_ok]
        cases y with
        | true => simp only [Bool.not_true, Bool.false_eq_true, if_false]; exact eqFields_ok xs ys hr hc' hx1 hy1 w
        | false => obtain rfl := some_inj hc'; simp
theorem agg_ok {op : BinOp} {t : TypeId} {a b : List A} {r : A} (h : aggA (tabOf P) op t a b = some r) : Tells P σ (binOp op t (.agg ⟨A.dens σ a⟩) (.agg ⟨A.dens σ b⟩)) r ∧ P.eqGuardType P.depth t = false := by
 unfold aggA at h
 split at h
 ·cases h
 ·rename_i ti ht
  split at h
  ·cases h
  ·rename_i n ns hn
   split at h
   ·rename_i x hx
    have hq := (t_ok ht).eq
    rw [hn] at hq
    unfold eqType at hq
    split at hq
    ·rename_i fs hu
     cases hb : (and (not (P.stoodInHeld t)) (not (P.eqGuardType P.depth t))) with
     | false => rw [hb] at hq; cases hq
     | true =>
      rw [hb, cond_true] at hq
      rw [Bool.and_eq_true, Bool.not_eq_true', Bool.not_eq_true'] at hb
      cases hg : eqGo P fs.toList 0 with
      | none => rw [hg] at hq; cases hq
      | some ks =>
       rw [hg] at hq
       simp only [Option.getD_some] at hq
       subst hq
       have hf : P.fieldsOf t = fs := by unfold Program.fieldsOf; rw [hu]
       have run : ∀ w, (Op.equalIn 10000 t (.agg ⟨A.dens σ a⟩) (.agg ⟨A.dens σ b⟩)).run P w = .ok x w := fun w => by
        rw [run_equalIn_struct w 9999 t _ _ (by rw [hf]; exact hu) hb.1, hf]
        exact eqFields_ok (d := 9998) _ _ hg hx rfl rfl w
       exact ⟨eql_ok h (fun w => by rw [run_eql_struct, run w]; rfl) (fun w => by rw [run_neq_struct, run w]; rfl), hb.2⟩
    ·cases hz : zeroIsPtr (P.info? t) with
     | false => rw [hz] at hq; cases hq
     | true =>
      rw [hz, cond_true] at hq
      injection hq with h1 h2
      subst h1 h2
      exfalso
      revert hx
      cases a with
      | nil => simp [eqC]
      | cons x1 a => cases b with
       | nil => simp [eqC]
       | cons y1 b => cases x1 <;> cases y1 <;> exact fun hx => (by simp : ¬ ((none : Option Bool) = some x)) hx
    ·cases hq
   ·cases h
theorem binA_ok {op : BinOp} {t : TypeId} {a b r : A} (h : binA (tabOf P) op t a b = some r) : Tells P σ (binOp op t (a.den σ) (b.den σ)) r := by
 cases a <;> cases b <;> first
  | exact intA_ok h
  | exact strA_ok h
  | (revert h; simp [binA]; done)
  | skip
 all_goals simp only [binA] at h
 case b.b x y =>
  cases hb : isBoolD ((tabOf P).t t) with
  | false => rw [hb] at h; cases h
  | true => rw [hb] at h; exact bool_ok hb h
 case p.p x y =>
  cases hb : isPtrD ((tabOf P).t t) with
  | false => rw [hb] at h; cases h
  | true => rw [hb] at h; exact ptr_ok hb h
 case sl.sl =>
  cases hb : isSlD ((tabOf P).t t) with
  | false => rw [hb] at h; cases h
  | true => rw [hb] at h; exact sl_ok hb h
 case fn.nf =>
  cases hb : isFnD ((tabOf P).t t) with
  | false => rw [hb] at h; cases h
  | true => rw [hb] at h; exact fn_ok (.inl ⟨⟨_, _, _, rfl⟩, rfl⟩) hb h
 case yl.nf =>
  cases hb : isFnD ((tabOf P).t t) with
  | false => rw [hb] at h; cases h
  | true => rw [hb] at h; exact fn_ok (.inl ⟨⟨_, _, _, rfl⟩, rfl⟩) hb h
 case nf.nf =>
  cases hb : isFnD ((tabOf P).t t) with
  | false => rw [hb] at h; cases h
  | true => rw [hb] at h; exact fn_ok (.inr ⟨rfl, rfl⟩) hb h
 case agg.agg => exact (agg_ok h).1
theorem guard_ok {op : BinOp} {t : TypeId} {x y : Operand} {a b r : A} (h : binA (tabOf P) op t a b = some r) (w : World) : (eqGuard op t x y (a.den σ) (b.den σ)).run P w = .ok () w := by
 cases a <;> cases b <;> try (first | (revert h; simp [binA]; done) | (simp only [A.den, eqGuard]; cases op <;> rfl))
 simp only [A.den]
 exact run_eqGuard_agg w op t x y _ _ (agg_ok (σ := σ) h).2
end
end Go.Proofs.YteemnmalikomgaaGreatDoor.Ev
namespace Go.Proofs.YteemnmalikomgaaGreatDoor.Ev
theorem cond_some {α : Type} {b : Bool} {x : Option α} {r : α} (h : cond b x none = some r) : b = true ∧ x = some r := by
 cases b with
 | false => cases h
 | true => exact ⟨rfl, h⟩
theorem and_true {a b : Bool} (h : (and a b) = true) : a = true ∧ b = true := by simpa using h
theorem ble_le {a b : Nat} (h : Nat.ble a b = true) : a ≤ b := Nat.le_of_ble_eq_true h
theorem blt_lt {a b : Nat} (h : Nat.blt a b = true) : a < b := Nat.le_of_ble_eq_true h
theorem beq_e {a b : Nat} (h : Nat.beq a b = true) : a = b := Nat.eq_of_beq_eq_true h
theorem beq_n {a b : Nat} (h : Nat.beq a b = false) : a ≠ b := Nat.ne_of_beq_eq_false h
theorem nth_get {α : Type} : ∀ (l : List α) (k : Nat), nth l k = l[k]?
 | [], _ => by simp [nth]
 | a :: l, 0 => rfl
 | a :: l, k + 1 => by
  have : nth (a :: l) (k + 1) = nth l k := rfl
  rw [this, nth_get l k]; rfl
section
variable {P : Program} {σ : Val}
theorem size_run {t : TypeId} {ti : TI} (h : (tabOf P).t t = some ti) (w : World) : (sizeOf t).run P w = .ok ti.size w := by
 obtain ⟨i, hi, hs, _⟩ := (t_ok h).ex
 simp [sizeOf, typeInfo, hi, hs]
theorem und_run {t : TypeId} {ti : TI} (h : (tabOf P).t t = some ti) (w : World) : (underlying t).run P w = .ok ti.d w := run_underlying (t_ok h).d w
theorem agg_run {t : TypeId} {ti : TI} (h : (tabOf P).t t = some ti) (w : World) : (isAgg t).run P w = .ok (isAggD ti.d) w := by
 unfold isAgg
 simp only [Sem.run_bind, und_run h, Result.andThen_ok]
 cases ti.d <;> rfl
theorem ad_add (r : Nat × Nat) (d : Nat) : (σ.ad r).add d = σ.ad (r.1, r.2 + d) := by
 unfold Addr.add Val.ad
 split
 ·rename_i h; subst h; rfl
 ·simp [Nat.add_assoc]
theorem bnd_some {x : Option A} {least most d n : Nat} (h : bnd x least most d = some n) : (x = none ∧ n = d) ∨ (∃ k, x = some (.i k (n : Int)) ∧ least ≤ n ∧ n ≤ most) := by
 unfold bnd at h
 split at h
 ·exact .inl ⟨rfl, (some_inj h).symm⟩
 ·rename_i k m
  obtain ⟨h1, h2⟩ := cond_some (b := least.ble m && m.ble most) (x := some m) h
  obtain rfl := some_inj h2
  obtain ⟨h3, h4⟩ := and_true h1
  exact .inr ⟨k, rfl, ble_le h3, ble_le h4⟩
 ·cases h
def topOf (mx : Option A) (C m : Nat) : Nat := match mx with
 | none => C
 | some _ => m
theorem bnds_ok {len cap C : Nat} {lo hi mx : Option A} {l u m : Nat} (h : bnds len cap lo hi mx = some (l, u, m)) (hC : cap ≤ C) (b : Bool) (w : World) :
  (Instr.sliceBounds b len C (lo.map (A.den σ)) (hi.map (A.den σ)) (mx.map (A.den σ))).run P w = .ok (l, u, topOf mx C m) w ∧ (mx = none → m = cap) := by
 unfold bnds at h
 split at h
 ·cases h
 ·rename_i m' hm
  split at h
  ·cases h
  ·rename_i u' hu
   split at h
   ·cases h
   ·rename_i l' hl
    split at h
    ·cases h
    ·rename_i hne
     obtain ⟨rfl, rfl, rfl⟩ : l' = l ∧ u' = u ∧ m' = m := by
      have := some_inj h
      simpa using this
     rcases bnd_some hm with ⟨rfl, rfl⟩ | ⟨km, rfl, hm1, hm2⟩
     ·refine ⟨?_, fun _ => rfl⟩
      rcases bnd_some hu with ⟨rfl, rfl⟩ | ⟨ku, rfl, hu1, hu2⟩
      ·rcases bnd_some hl with ⟨rfl, rfl⟩ | ⟨kl, rfl, hl1, hl2⟩
       ·simp [topOf, Instr.sliceBounds]
       ·simp [topOf, Instr.sliceBounds, A.den, Instr.sliceBound, asIntOf, hl2]
      ·have : u' ≤ C := by omega
       rcases bnd_some hl with ⟨rfl, rfl⟩ | ⟨kl, rfl, hl1, hl2⟩
       ·simp [topOf, Instr.sliceBounds, A.den, Instr.sliceBound, asIntOf, this]
       ·simp [topOf, Instr.sliceBounds, A.den, Instr.sliceBound, asIntOf, hl2, this]
     ·refine ⟨?_, fun h => by cases h⟩
      have : m' ≤ C := by omega
      rcases bnd_some hu with ⟨rfl, rfl⟩ | ⟨ku, rfl, hu1, hu2⟩
      ·exact absurd rfl (hne _ rfl)
      ·rcases bnd_some hl with ⟨rfl, rfl⟩ | ⟨kl, rfl, hl1, hl2⟩
       ·simp [topOf, Instr.sliceBounds, A.den, Instr.sliceBound, asIntOf, this, hu2]
       ·simp [topOf, Instr.sliceBounds, A.den, Instr.sliceBound, asIntOf, hl2, this, hu2]
theorem shiftR_map (r : Option (Nat × Nat)) (d : Nat) : (shiftR r d).map σ.ad = (r.map σ.ad).map (·.add d) := by
 cases r with
 | none => rfl
 | some r => simp [shiftR, ad_add]
theorem shiftR_ok {D : Nat → Prop} {r : Option (Nat × Nat)} {d : Nat} (h : ∀ x, r = some x → D x.1) : ∀ x, shiftR r d = some x → D x.1 := by
 intro x hx
 cases r with
 | none => cases hx
 | some r =>
  obtain rfl := some_inj hx
  exact h r rfl
theorem sliceA_ok {t : TypeId} {x : A} {lo hi mx : Option A} {r : A} (h : sliceA (tabOf P) t x lo hi mx = some r) (hx : x.ok σ.dom) :
  Tells P σ (Instr.sliceAt t (x.den σ) (lo.map (A.den σ)) (hi.map (A.den σ)) (mx.map (A.den σ))) r := by
 unfold sliceA at h
 split at h
 ·cases h
 ·rename_i ti ht
  split at h
  ·rename_i r0
   split at h
   ·rename_i n e j o hd
    unfold sliceArr at h
    split at h
    ·cases h
    ·rename_i te hte
     split at h
     ·cases h
     ·rename_i l u m hb
      obtain rfl := some_inj h
      have hmx : topOf mx n m = m := by
       cases mx with
       | none => exact ((bnds_ok (P := P) (σ := σ) hb (Nat.le_refl _) false default).2 rfl).symm
       | some _ => rfl
      refine ⟨fun w => ?_, ?_⟩
      ·have hr := (bnds_ok (P := P) (σ := σ) hb (Nat.le_refl n) false w).1
       rw [hmx] at hr
       simp only [Instr.sliceAt, Sem.run_bind, und_run ht, hd, Result.andThen_ok, A.den, Option.map_some, Instr.sureAddr, Sem.run_pure, hr, size_run hte, Val.ex, Nat.add_zero]
       by_cases hml : m = l
       ·have : Nat.beq m l = true := by rw [hml]; exact Nat.beq_refl l
        rw [this, if_pos hml]; rfl
       ·have : Nat.beq m l = false := by
         cases hc : Nat.beq m l with
         | false => rfl
         | true => exact absurd (beq_e hc) hml
        rw [this, if_neg hml, ad_add]; rfl
      ·simp only [A.ok] at hx ⊢
       exact ⟨fun y hy => by obtain rfl := some_inj hy; exact hx, fun y hy => by cases hy⟩
   ·cases h
  ·rename_i r0 len cap c
   split at h
   ·rename_i e hd
    unfold sliceSl at h
    split at h
    ·cases h
    ·rename_i te hte
     split at h
     ·cases h
     ·rename_i l u m hb
      simp only [A.ok] at hx
      have run : ∀ w, (Instr.sliceAt t (.slice (r0.map σ.ad) len (cap + σ.ex c)) (lo.map (A.den σ)) (hi.map (A.den σ)) (mx.map (A.den σ))).run P w =
        .ok (.slice (if topOf mx (cap + σ.ex c) m = l then r0.map σ.ad else (r0.map σ.ad).map (·.add (l * te.size))) (u - l) (topOf mx (cap + σ.ex c) m - l)) w := fun w => by
       have hr := (bnds_ok (P := P) (σ := σ) hb (Nat.le_add_right cap (σ.ex c)) true w).1
       simp only [Instr.sliceAt, Sem.run_bind, und_run ht, hd, Result.andThen_ok, Instr.slice, hr, size_run hte, Sem.run_pure]
      have hm := (bnds_ok (P := P) (σ := σ) hb (Nat.le_refl cap) true default).2
      split at h
      ·rename_i hc
       obtain rfl := some_inj h
       have e2 : topOf mx (cap + σ.ex c) m = m := by
        cases mx with
        | none => simp only at hc ⊢; rw [hc, hm rfl]; rfl
        | some _ => rfl
       rw [e2] at run
       refine ⟨fun w => ?_, ?_⟩
       ·show Sem.run P (Instr.sliceAt t (.slice (r0.map σ.ad) len (cap + σ.ex c)) _ _ _) w = .ok (.slice ((cond (Nat.beq m l) r0 (shiftR r0 (l.mul te.size))).map σ.ad) (u.sub l) ((m.sub l) + 0)) w
        rw [run w, Nat.add_zero]
        by_cases hml : m = l
        ·have : Nat.beq m l = true := by rw [hml]; exact Nat.beq_refl l
         rw [this, if_pos hml]; rfl
        ·have : Nat.beq m l = false := by
          cases hc : Nat.beq m l with
          | false => rfl
          | true => exact absurd (beq_e hc) hml
         rw [this, if_neg hml, cond_false, shiftR_map]; rfl
       ·refine ⟨?_, fun y hy => by cases hy⟩
        cases Nat.beq m l with
        | false => exact shiftR_ok hx.1
        | true => exact hx.1
      ·rename_i c' hc
       obtain ⟨h1, h2⟩ := cond_some h
       obtain rfl := some_inj h2
       have hlm := blt_lt h1
       obtain ⟨rfl, rfl⟩ : mx = none ∧ c = some c' := by
        cases mx with
        | none => exact ⟨rfl, hc⟩
        | some _ => cases hc
       obtain rfl := hm rfl
       refine ⟨fun w => ?_, shiftR_ok hx.1, hx.2⟩
       show Sem.run P (Instr.sliceAt t (.slice (r0.map σ.ad) len (m + σ.ex (some c'))) _ _ _) w = .ok (.slice ((shiftR r0 (l.mul te.size)).map σ.ad) (u.sub l) ((m.sub l) + σ.ex (some c'))) w
       rw [run w, shiftR_map]
       have hne : ¬ (topOf none (m + σ.ex (some c')) m = l) := by simp only [topOf]; omega
       rw [if_neg hne]
       have e3 : topOf none (m + σ.ex (some c')) m - l = m.sub l + σ.ex (some c') := by
        show m + σ.ex (some c') - l = m - l + σ.ex (some c')
        omega
       rw [e3]; rfl
   ·cases h
  ·rename_i s
   split at h
   ·rename_i hd
    unfold sliceStr at h
    split at h
    ·cases h
    ·split at h
     ·cases h
     ·rename_i l u m hb
      obtain rfl := some_inj h
      refine ⟨fun w => ?_, by simp [A.ok]⟩
      have hr := (bnds_ok (P := P) (σ := σ) hb (Nat.le_refl _) false w).1
      have hsz : ((⟨⟨s⟩⟩ : ByteArray)).size = s.length := rfl
      simp only [Instr.sliceAt, Sem.run_bind, und_run ht, hd, Result.andThen_ok, A.den, Instr.slice, hsz, Option.map_none] at hr ⊢
      simp only [Option.isSome_none, Bool.false_eq_true, if_false, Sem.run_bind, Sem.run_pure, Result.andThen_ok, hr]
      have : (⟨⟨s⟩⟩ : ByteArray).extract l u = ⟨⟨(s.take u).drop l⟩⟩ := by
       apply ByteArray.ext
       rw [ByteArray.data_extract]
       apply Array.ext'
       rw [Array.toList_extract, List.drop_take]
      rw [this]
   ·cases h
  ·cases h
end
end Go.Proofs.YteemnmalikomgaaGreatDoor.Ev
