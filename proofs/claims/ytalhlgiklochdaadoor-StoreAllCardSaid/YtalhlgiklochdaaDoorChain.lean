/-
  A long statement whose operations come one behind the other: how it is gone through step by step, over a frame of which only some slots are known. (Over any program.)
-/
import Derived.Test.YtalhlgiklochdaaDoorRows
import Derived.WalkKit
import Derived.ProofKit
import Derived.OpenShut
import Derived.OrdersHeld
import Derived.Deep.RegionHeld
import Derived.Lib.Hide
namespace Go.Proofs.YtalhlgiklochdaaDoor
open Go.ChangeShapes Go.WideShapes Go.ChangeAt Go.RowKit
namespace Chain

/-- The operations of a region of that number. -/
def opsOf (id : Nat) : Code → Array Oper
  | .region i ops _ => if i = id then ops else #[]
  | .seq a b => opsOf id a ++ opsOf id b
  | .cond _ a b => opsOf id a ++ opsOf id b
  | .block _ b => opsOf id b
  | .loop b => opsOf id b
  | .rangeFunc _ _ a b => opsOf id a ++ opsOf id b
  | .scope b => opsOf id b
  | _ => #[]
def regionOf (P : Program) (f id : Nat) : Array Oper := ((P.funcs[f]?).bind (·.body)).elim #[] (opsOf id)

section
variable {P : Program} {ops : Array Oper} {Q : Exit → Act → World → Prop} {S : World → Prop}

theorem swap {ops' : Array Oper} {id : Nat} {b : Bool} {a : Act} {w : World} (h : ops = ops') (H : (Code.region id ops' b).wp P Q a w) : (Code.region id ops b).wp P Q a w := h ▸ H

/-- The first k of n have come up. -/
def done (n k : Nat) : Array Bool := (List.replicate k true ++ List.replicate (n - k) false).toArray
theorem done_zero (n : Nat) : done n 0 = Array.replicate n false := by
  unfold done; apply Array.ext'; simp
theorem done_set {n k : Nat} (h : k < n) : (done n k).setIfInBounds k true = done n (k + 1) := by
  unfold done
  apply Array.ext'
  obtain ⟨m, hm⟩ : ∃ m, n - k = m + 1 := ⟨n - k - 1, by omega⟩
  have e : n - (k + 1) = m := by omega
  rw [hm, e]
  simp only [List.setIfInBounds_toArray]
  rw [List.set_append, List.replicate_succ (n := m), List.replicate_succ' (n := k)]
  simp

theorem done_get {n k : Nat} (hk : k ≤ n) (j : Nat) (b : Bool) : (done n k).getD j b = if j < k then true else if j < n then false else b := by
  unfold done
  simp only [Array.getD_eq_getD_getElem?, List.getElem?_toArray, List.getElem?_append, List.length_replicate, List.getElem?_replicate]
  by_cases h1 : j < k
  · simp [h1]
  · by_cases h2 : j < n
    · simp [h1, h2, show j - k < n - k by omega]
    · simp [h1, h2, show ¬ j - k < n - k by omega]

/-- How many of the first ones must have come up ahead of it. -/
def most : List Edge → Nat
  | [] => 0
  | e :: l => if Region.binds .any e then max (e.on + 1) (most l) else most l
theorem most_le (l : List Edge) (k : Nat) : most l ≤ k ↔ ∀ e ∈ l, Region.binds .any e = true → e.on < k := by
  induction l with
  | nil => simp [most]
  | cons e l ih =>
    unfold most
    by_cases h : Region.binds .any e = true
    · rw [if_pos h]
      constructor
      · intro hm x hx hb
        rcases List.mem_cons.1 hx with rfl | hx
        · omega
        · exact ih.1 (by omega) x hx hb
      · intro hm
        have h1 := hm e (by simp) h
        have h2 := ih.2 fun x hx => hm x (by simp [hx])
        omega
    · rw [if_neg h, ih]
      constructor
      · intro hm x hx hb
        rcases List.mem_cons.1 hx with rfl | hx
        · exact absurd hb h
        · exact hm x hx hb
      · intro hm x hx; exact hm x (by simp [hx])
/-- What of an operation counts: its slot, what it does, its guard, how many come ahead. -/
abbrev Line := Option Tmp × Op × Option (Nat × Bool) × Nat
def line (o : Oper) : Line := (o.dst, o.op, o.guard, most o.after.toList)
def look (ops : Array Oper) : List Line := ops.toList.map line
/-- Which may come up when the first k have. -/
def ups (k : Nat) : Nat → List Line → List Nat
  | _, [] => []
  | j, x :: l => if Nat.ble k j && Nat.ble x.2.2.2 k then j :: ups k (j + 1) l else ups k (j + 1) l
theorem mem_ups (k : Nat) : ∀ (l : List Line) (j i : Nat), i ∈ ups k j l ↔ ∃ m x, l[m]? = some x ∧ i = j + m ∧ k ≤ i ∧ x.2.2.2 ≤ k
  | [], j, i => by simp [ups]
  | x :: l, j, i => by
    have ih := mem_ups k l (j + 1) i
    unfold ups
    have rest : (∃ m y, (x :: l)[m + 1]? = some y ∧ i = j + (m + 1) ∧ k ≤ i ∧ y.2.2.2 ≤ k) ↔ i ∈ ups k (j + 1) l := by
      rw [ih]
      constructor
      · rintro ⟨m, y, h1, h2, h3⟩; exact ⟨m, y, by simpa using h1, by omega, h3⟩
      · rintro ⟨m, y, h1, h2, h3⟩; exact ⟨m, y, by simpa using h1, by omega, h3⟩
    by_cases h : (Nat.ble k j && Nat.ble x.2.2.2 k) = true
    · rw [if_pos h]
      have h' : k ≤ j ∧ x.2.2.2 ≤ k := by simpa using h
      rw [List.mem_cons]
      constructor
      · rintro (rfl | hi)
        · exact ⟨0, x, rfl, rfl, h'.1, h'.2⟩
        · obtain ⟨m, y, h1⟩ := rest.2 hi; exact ⟨m + 1, y, h1⟩
      · rintro ⟨m, y, h1, h2, h3⟩
        cases m with
        | zero => left; omega
        | succ m => right; exact rest.1 ⟨m, y, h1, h2, h3⟩
    · rw [if_neg h]
      have h' : ¬ (k ≤ j ∧ x.2.2.2 ≤ k) := by simpa using h
      constructor
      · intro hi; obtain ⟨m, y, h1⟩ := rest.2 hi; exact ⟨m + 1, y, h1⟩
      · rintro ⟨m, y, h1, h2, h3, h4⟩
        cases m with
        | zero => simp at h1; subst h1; exact absurd ⟨by omega, h4⟩ h'
        | succ m => exact rest.1 ⟨m, y, h1, h2, h3, h4⟩
theorem mem_ready_done {L : List Line} {n k i : Nat} (hL : look ops = L) (hn : ops.size = n) (hk : k ≤ n) : i ∈ Region.ready .any ops (done n k) ↔ i ∈ ups k 0 L := by
  subst hL
  rw [mem_ready, mem_ups, done_get hk]
  have hlook : ∀ m : Nat, (look ops)[m]? = (ops[m]?).map line := fun m => by unfold look; simp
  constructor
  · rintro ⟨h1, o, ho, he⟩
    have hi : i < n := by rw [← hn]; exact (Array.getElem?_eq_some_iff.1 ho).1
    have hki : k ≤ i := by
      rcases Nat.lt_or_ge i k with h | h
      · rw [if_pos h] at h1; cases h1
      · exact h
    refine ⟨i, line o, by rw [hlook, ho]; rfl, by omega, hki, ?_⟩
    show most o.after.toList ≤ k
    rw [most_le]
    intro e hm hb
    have := he e (by simpa using hm) hb
    rw [done_get hk] at this
    by_cases h : e.on < k
    · exact h
    · rw [if_neg h] at this
      split at this <;> cases this
  · rintro ⟨m, x, h1, h2, h3, h4⟩
    rw [hlook, Option.map_eq_some_iff] at h1
    obtain ⟨o, ho, rfl⟩ := h1
    have hm : m < n := by rw [← hn]; exact (Array.getElem?_eq_some_iff.1 ho).1
    obtain rfl : i = m := by omega
    refine ⟨by rw [if_neg (by omega), if_pos hm], o, ho, fun e he hb => ?_⟩
    rw [done_get hk, if_pos ((most_le _ _).1 h4 e (by simpa using he) hb)]
theorem ready_one {L : List Line} {n k : Nat} (hL : look ops = L) (hn : ops.size = n) (hk : k ≤ n) (h : ups k 0 L = [k]) : ∀ i ∈ Region.ready .any ops (done n k), i = k := fun i hi => by
  have := (mem_ready_done hL hn hk).1 hi
  rw [h] at this
  simpa using this

/-- A slot of the frame is known. -/
def At (a : Act) (t : Nat) (v : Value) : Prop := a.tmps[t]? = some v
theorem At.ev {a : Act} {t : Nat} {v : Value} (h : At a t v) : a.eval (.tmp t) = v := by
  unfold At at h
  simp [Act.eval, h]
theorem At.lt {a : Act} {t : Nat} {v : Value} (h : At a t v) : t < a.tmps.size := (Array.getElem?_eq_some_iff.1 h).1
theorem at_same {a : Act} {t : Nat} (h : t < a.tmps.size) (v : Value) : At (a.put (some t) v) t v := by
  unfold At Act.put
  simp [h]
theorem At.put {a : Act} {t : Nat} {v : Value} (h : At a t v) {d : Nat} (hd : d ≠ t) (u : Value) : At (a.put (some d) u) t v := by
  unfold At Act.put at *
  simp only
  rw [Array.getElem?_setIfInBounds_ne hd]
  exact h
theorem size_put (a : Act) (d : Nat) (u : Value) : (a.put (some d) u).tmps.size = a.tmps.size := by unfold Act.put; simp

/-- Its guard lets it be carried out. -/
def Open (ops : Array Oper) (a : Act) : Option (Nat × Bool) → Prop
  | none => True
  | some (j, b) => ∃ t, ((ops[j]?).bind (·.dst)) = some t ∧ At a t (.bool b)
theorem Open.wanted {a : Act} {o : Oper} (h : Open ops a o.guard) : Region.wanted o (yielded ops a.tmps) = true := by
  unfold Region.wanted
  cases hg : o.guard with
  | none => rfl
  | some p =>
    obtain ⟨j, b⟩ := p
    rw [hg] at h
    obtain ⟨t, ht, hat⟩ := h
    have : yielded ops a.tmps j = some b := by
      unfold yielded
      rw [ht]
      unfold At at hat
      simp [hat]
    simp [this]

theorem line_get {L : List Line} (hL : look ops = L) {k : Nat} {d : Option Tmp} {op : Op} {g : Option (Nat × Bool)} {m : Nat} (h : L[k]? = some (d, op, g, m)) : ∃ o, ops[k]? = some o ∧ o.dst = d ∧ o.op = op ∧ o.guard = g := by
  subst hL
  unfold look at h
  simp only [List.getElem?_map, Option.map_eq_some_iff, Array.getElem?_toList, line, Prod.mk.injEq] at h
  obtain ⟨o, ho, h1, h2, h3, _⟩ := h
  exact ⟨o, ho, h1, h2, h3⟩
theorem exec_shape (ρ : Operand → Value) (o : Oper) : execOp ρ o = execOp ρ ⟨o.dst, o.op, o.type, "", #[], none⟩ := by
  cases o; rfl

/-- What becomes of a frame where slot d is written. -/
structure Next (a a' : Act) (d : Nat) (v : Value) : Prop where
  size : a'.tmps.size = a.tmps.size
  defers : a'.defers = a.defers
  got : At a' d v
  keep : ∀ t u, d ≠ t → At a t u → At a' t u
theorem next {a : Act} {d : Nat} (h : d < a.tmps.size) (v : Value) : Next a (a.put (some d) v) d v := ⟨size_put a d v, rfl, at_same h v, fun _ _ hd h => h.put hd v⟩
/-- A region whose operations are looked through once. -/
structure Reg (ops : Array Oper) (L : List Line) (n : Nat) : Prop where
  look : look ops = L
  size : ops.size = n
theorem Reg.opened {L : List Line} {n : Nat} (R : Reg ops L n) {a : Act} {j t m : Nat} {b : Bool} {op : Op} {g : Option (Nat × Bool)} (h : L[j]? = some (some t, op, g, m)) (hat : At a t (.bool b)) : Open ops a (some (j, b)) := by
  obtain ⟨o, ho, h1, _, _⟩ := line_get R.look h
  exact ⟨t, by rw [ho]; exact h1, hat⟩
theorem forced {L : List Line} {n k fuel : Nat} {a : Act} {w : World} (R : Reg ops L n) (hr : ups k 0 L = [k]) (hk : k < n) (h : wpOp P ops Q k (fun a' w' => S w' ∧ wpAnyH P .any ops Q S fuel (done n (k + 1)) a' w') a w) : wpAnyH P .any ops Q S (fuel + 1) (done n k) a w := by
  refine ⟨fun h0 => ?_, fun i hi => ?_⟩
  · have := (mem_ready_done R.look R.size (Nat.le_of_lt hk)).2 (show k ∈ ups k 0 L by rw [hr]; simp)
    rw [h0] at this
    cases this
  · obtain rfl := ready_one R.look R.size (Nat.le_of_lt hk) hr i hi
    rw [done_set hk]
    exact h

/-- An operation that yields a value, as the next one. -/
theorem value {L : List Line} {n k fuel d m : Nat} {op : Op} {g : Option (Nat × Bool)} {v : Value} {a : Act} {w w1 : World} (R : Reg ops L n) (hs : L[k]? = some (some d, op, g, m)) (hr : ups k 0 L = [k]) (hk : k < n)
    (hg : Open ops a g) (hS : S w1) (hv : ∀ ty, (execOp a.eval ⟨some d, op, ty, "", #[], none⟩).run P w = .ok (.value v) w1) (hd : d < a.tmps.size)
    (h : ∀ a', Next a a' d v → wpAnyH P .any ops Q S fuel (done n (k + 1)) a' w1) : wpAnyH P .any ops Q S (fuel + 1) (done n k) a w := by
  obtain ⟨o, ho, e1, e2, e3⟩ := line_get R.look hs
  subst e2 e3
  refine forced R hr hk (wpOp_step ho fun K hK => ?_)
  rw [if_pos hg.wanted]
  unfold Oper.wp
  rw [exec_shape, e1, hv]
  simp only [Oper.upon, e1]
  exact hK _ _ ⟨hS, h _ (next hd v)⟩
/-- An operation that yields a value in every world that meets S, taken first. -/
theorem take {L : List Line} {n k fuel d m : Nat} {op : Op} {g : Option (Nat × Bool)} {v : Value} {a : Act} {w : World} (R : Reg ops L n) (hs : L[k]? = some (some d, op, g, m)) (hr : (ups k 0 L).contains k = true) (hk : k < n)
    (hns : Region.noSelect ops = true) (hf : Region.free .any ops (done n k) k = true) (hQ : ∀ c a w d v, Q (.panic c) (Act.put a (some d) v) w → Q (.panic c) a w)
    (hg : Open ops a g) (hS : S w) (hv : ∀ w ty, S w → (execOp a.eval ⟨some d, op, ty, "", #[], none⟩).run P w = .ok (.value v) w) (hd : d < a.tmps.size)
    (h : ∀ a', Next a a' d v → wpAnyH P .any ops Q S fuel (done n (k + 1)) a' w) : wpAnyH P .any ops Q S (fuel + 1) (done n k) a w := by
  obtain ⟨o, ho, e1, e2, e3⟩ := line_get R.look hs
  subst e2 e3
  have hr' : (Region.ready .any ops (done n k)).contains k = true := by
    have := (mem_ready_done R.look R.size (Nat.le_of_lt hk)).2 (show k ∈ ups k 0 L by simpa using hr)
    simpa using this
  refine wpAnyH_take (oi := o) (v := v) ho hns hf hr' (fun c a w => by rw [e1]; exact hQ c a w d v) (.inl ⟨hg.wanted, fun w hw => ?_⟩) hS ?_
  · rw [exec_shape, e1]; exact hv w _ hw
  · rw [done_set hk, e1]; exact h _ (next hd v)
def enters (P : Program) (f : Nat) : Bool := (P.funcs[f]?).elim false fun fn => !(fn.name == "runtime.NumGoroutine") && fn.body.isSome
theorem run_enters {f : Nat} (h : enters P f = true) (args : Array Value) (w : World) : (callFunc f args).run P w = .ok (.enter f args) w := by
  unfold enters at h
  cases hf : P.funcs[f]? with
  | none => rw [hf] at h; cases h
  | some fn =>
    rw [hf] at h
    simp only [Option.elim_some, Bool.and_eq_true, Bool.not_eq_true'] at h
    obtain ⟨h0, h2⟩ := h
    have h1 : fn.name ≠ "runtime.NumGoroutine" := by simpa using h0
    obtain ⟨c, hb⟩ := Option.isSome_iff_exists.1 h2
    simp [callFunc, hf, h1, hb]
/-- A call of a Go function, as the next one. -/
theorem call {L : List Line} {n k fuel d m f : Nat} {xs : Array Operand} {ts : Array TypeId} {args : Array Value} {g : Option (Nat × Bool)} {a : Act} {w : World} {Post : Ending → World → Prop} (R : Reg ops L n)
    (hs : L[k]? = some (some d, .call { callee := .value (.func f), args := xs, argTypes := ts }, g, m)) (hr : ups k 0 L = [k]) (hk : k < n)
    (hg : Open ops a g) (ha : xs.map a.eval = args) (hf : enters P f = true) (hc : Calls P f args w Post) (hd : d < a.tmps.size)
    (h : ∀ e w', Post e w' → ∃ v, e = .returned v ∧ S w' ∧ ∀ a', Next a a' d v → wpAnyH P .any ops Q S fuel (done n (k + 1)) a' w') : wpAnyH P .any ops Q S (fuel + 1) (done n k) a w := by
  obtain ⟨o, ho, e1, e2, e3⟩ := line_get R.look hs
  subst e3
  refine forced R hr hk (wpOp_step ho fun K hK => ?_)
  rw [if_pos hg.wanted]
  unfold Oper.wp
  have he : (execOp a.eval o).run P w = .ok (.enter f args) w := by
    rw [exec_shape, e1, e2]
    subst ha
    simp [execOp, resolve, invoke, Act.eval, Deferred.ofValue, run_enters hf]
  rw [he, Oper.upon_enter]
  refine hc.mono fun e w' hp => ?_
  obtain ⟨v, rfl, hS, hw⟩ := h e w' hp
  rw [e1]
  exact hK _ _ ⟨hS, hw _ (next hd v)⟩
/-- All have come up. -/
theorem finish {L : List Line} {n fuel : Nat} {a : Act} {w : World} (R : Reg ops L n) (hr : ups n 0 L = []) (h : Q .normal a w) : wpAnyH P .any ops Q S fuel (done n n) a w := by
  refine wpAnyH_done (List.eq_nil_iff_forall_not_mem.2 fun i hi => ?_) h fuel
  have := (mem_ready_done R.look R.size (Nat.le_refl n)).1 hi
  rw [hr] at this
  cases this
/-- The beginning. -/
theorem start {L : List Line} {n id : Nat} {a : Act} {w : World} (R : Reg ops L n) (hm : P.follows .mixedOrders = true) (hS : S w.drew) (h : wpAnyH P .any ops Q S n (done n 0) a w.drew) : (Code.region id ops true).wp P Q a w := by
  refine wp_region_held_drew (S := S) hm hS fun _ => ?_
  rw [R.size, ← done_zero]
  exact h

/-! What the operations yield. -/
variable {ρ : Operand → Value} {d : Option Tmp} {ty : TypeId} {w : World}
theorem ev_move {x : Operand} {v : Value} (h : ρ x = v) : (execOp ρ ⟨d, .move x, ty, "", #[], none⟩).run P w = .ok (.value v) w := by simp [execOp, h]
theorem ev_assign {x : Operand} {v : Value} (h : ρ x = v) : (execOp ρ ⟨d, .assign x, ty, "", #[], none⟩).run P w = .ok (.value v) w := by simp [execOp, h]
theorem ev_pick {c x y : Operand} {v : Value} (hc : ρ c = .bool true) (h : ρ x = v) : (execOp ρ ⟨d, .pick c x y, ty, "", #[], none⟩).run P w = .ok (.value v) w := by simp [execOp, h, hc, asBool]
theorem ev_eql_int {x y : Operand} {xt rt : TypeId} {k : IntKind} {i j : Int} (hx : ρ x = .int k i) (hy : ρ y = .int k j) (h : i = j) : (execOp ρ ⟨d, .binOp .eql xt x y rt, ty, "", #[], none⟩).run P w = .ok (.value (.bool true)) w := by
  subst h
  simp [execOp, hx, hy, go_sem]
theorem ev_eql_str {x y : Operand} {xt rt : TypeId} {s u : ByteArray} (hx : ρ x = .string s) (hy : ρ y = .string u) (h : s = u) : (execOp ρ ⟨d, .binOp .eql xt x y rt, ty, "", #[], none⟩).run P w = .ok (.value (.bool true)) w := by
  subst h
  simp [execOp, hx, hy, go_sem]
theorem ev_len {x : Operand} {t e : TypeId} {A : Option Addr} {n c : Nat} (ht : P.underlying t = some (.slice e)) (hx : ρ x = .slice A n c) : (execOp ρ ⟨d, .call { callee := .builtin .len, args := #[x], argTypes := #[t] }, ty, "", #[], none⟩).run P w = .ok (.value (.int .i64 n)) w := by
  simp [hx, go_sem, Builtin.len_, run_underlying ht, goInt]
end
end Chain
end Go.Proofs.YtalhlgiklochdaaDoor
