/-
  The evaluator tells the truth: what is said of a job; operations in their order.
-/
import Derived.Test.YtibompboimeedaaGreatDoorEvM
import Derived.RangeFuncIn
import Derived.RangeFuncLeaves
namespace Go.Proofs.YtibompboimeedaaGreatDoor.Ev
/-- The fence within which a job runs: everything is let in; in a round, that round. -/
def fe (σ : Val) : Option Nat → Fence
  | none => Fence.wide
  | some l => Fence.wide.inRound (σ.blk l)
theorem fe_fn (σ : Val) (r : Option Nat) (f : FuncId) : (fe σ r).fn f := by cases r <;> trivial
theorem fe_depth (σ : Val) (r : Option Nat) : (fe σ r).depth = none := by cases r <;> rfl
theorem fe_deep (σ : Val) (r : Option Nat) (n : Nat) : (fe σ r).depth.isSome = true → 1 ≤ n := fun h => by rw [fe_depth] at h; cases h
theorem fe_round (σ : Val) (r : Option Nat) : (fe σ r).round = r.map σ.blk := by cases r <;> rfl
theorem fe_same {σ τ : Val} (s : Same σ τ) {r : Option Nat} (h : ∀ l, r = some l → σ.dom l) : fe τ r = fe σ r := by
  cases r with
  | none => rfl
  | some l => simp only [fe]; rw [s.blk l (h l rfl)]
theorem fe_calls {P : Program} {σ : Val} {r : Option Nat} {n : Nat} {f : FuncId} {args : Array Value} {w : World} {R : Ending → World → Prop} (h : CallsIn Fence.wide n P f args w R) : CallsIn (fe σ r) n P f args w R := by
  cases r <;> exact h
theorem fe_rounds {P : Program} {σ : Val} {r : Option Nat} {n l : Nat} {f : FuncId} {tmps : Array Value} {asg body : Code} {w : World} {R : Ending → World → Prop} (h : RoundIn Fence.wide n P l f tmps asg body w R) : RoundIn (fe σ r) n P l f tmps asg body w R := by
  cases r <;> exact h
def marks (σ : Val) (ds : List Nat) : List Deferred := ds.map fun d => { target := .collected (σ.blk d), args := #[] }
theorem marks_same {σ τ : Val} (s : Same σ τ) {ds : List Nat} (h : ∀ d ∈ ds, σ.dom d) : marks τ ds = marks σ ds := by
  unfold marks
  apply List.map_congr_left
  intro d hd
  rw [s.blk d (h d hd)]
/-- Where an activation stands. -/
structure At (P : Program) (σ : Val) (r : Option Nat) (env : Tr A) (n : Nat) (ds : List Nat) (h : H) (a : Act) (w : World) : Prop where
  rel : Rel P.globals.size σ h w
  env : EnvAt σ env n a.tmps
  defers : a.defers = marks σ ds
  ds : ∀ d ∈ ds, σ.dom d
  r : ∀ l, r = some l → σ.dom l
/-- How code is left. -/
def Left (P : Program) (σ : Val) (r : Option Nat) (h : H) (w : World) (n : Nat) (e : Exit) (env : Tr A) (ds : List Nat) (k : H) : Exit → Act → World → Prop := fun e' a v =>
  e' = e ∧ ∃ τ, Kept σ h w τ k v ∧ At P τ r env n ds k a v
/-- A function that is entered when it is called. -/
def Enters (P : Program) (f : FuncId) : Prop := ∃ fn, P.funcs[f]? = some fn ∧ fn.body.isNone = false ∧ (fn.name == "runtime.NumGoroutine") = false
/-- What is said of a job and what the evaluator answers. -/
def Says (P : Program) : Job → Out → Prop
  | .code r c env n ds h, .left e env' ds' k => h.nx ≤ k.nx ∧ ∀ σ a w, At P σ r env n ds h a w → Free σ h.nx k.nx → ∀ m, c.wpIn (fe σ r) m P (Left P σ r h w n e env' ds' k) a w
  | .pass s c env n ds h r, .left e env' ds' k => h.nx ≤ k.nx ∧ ∀ σ a w, At P σ r env n ds h a w → Free σ h.nx k.nx → ∀ m (b : Frame) (k' : List Item) (cs : List Frame), b.roundOf = (fe σ r).round → (fe σ r).fn b.fn → (fe σ r).room (cs.length + 1 + m) →
      ∃ e' a' w', Left P σ r h w n e env' ds' k e' a' w' ∧ ArrivesIn (Machine.fenced P (fe σ r)) P (lone (b.atR a (.code c :: .inScope s :: k')) cs w) b k' cs e' a' w'
  | .call f args h, .val a k => h.nx ≤ k.nx ∧ Enters P f ∧ ∀ σ w, Rel P.globals.size σ h w → Free σ h.nx k.nx → A.oks σ.dom args → ∀ m, CallsIn Fence.wide m P f ⟨A.dens σ args⟩ w fun e v => ∃ τ, e = .returned (a.den τ) ∧ Goes P.globals.size σ h w τ k v ∧ a.ok τ.dom
  | .round l args h, .val a k => h.nx ≤ k.nx ∧ ∀ σ w, Rel P.globals.size σ h w → Free σ h.nx k.nx → A.oks σ.dom args → ∀ m, ∃ f tmps asg body, (Instr.yield (σ.blk l) ⟨A.dens σ args⟩).run P w = .ok (.round (σ.blk l) f tmps asg body) w ∧
      RoundIn Fence.wide m P (σ.blk l) f tmps asg body w fun e v => ∃ τ, e = .returned (a.den τ) ∧ Goes P.globals.size σ h w τ k v ∧ a.ok τ.dom
  | _, _ => True
/-- All that an evaluator of less fuel answers is so. -/
def Truth (P : Program) (ev : Job → Option Out) : Prop := ∀ j o, ev j = some o → Says P j o
section
variable {P : Program}
theorem nth_ops {ops : Array Oper} {j : Nat} : nth ops.toList j = ops[j]? := by rw [nth_get]; simp
theorem isB_eq {want : Bool} {a : A} {σ : Val} : isB want a = ((match a.den σ with | .bool b => some b | _ => none) == some want) := by
  cases a
  case b x => cases x <;> cases want <;> rfl
  case p r => rfl
  all_goals first | rfl | (simp [isB, A.den])
theorem wanted_ok {ops : Array Oper} {σ : Val} {env : Tr A} {n : Nat} {tmps : Array Value} {o : Oper} {b : Bool} (hw : wantedA ops.toList env o = some b) (he : EnvAt σ env n tmps) : Region.wanted o (yielded ops tmps) = b := by
  unfold wantedA at hw
  unfold Region.wanted
  cases hg : o.guard with
  | none => rw [hg] at hw; exact some_inj hw
  | some g =>
    obtain ⟨j, want⟩ := g
    rw [hg] at hw
    simp only at hw ⊢
    rw [nth_ops] at hw
    unfold yielded
    cases hj : ops[j]? with
    | none => rw [hj] at hw; rw [← some_inj hw]; rfl
    | some g =>
      rw [hj] at hw
      simp only at hw
      unfold slotB at hw
      cases hd : g.dst with
      | none => rw [hd] at hw; rw [← some_inj hw]; simp [hd]
      | some d =>
        rw [hd] at hw
        simp only at hw
        cases ha : env.get d with
        | none => rw [ha] at hw; cases hw
        | some a =>
          rw [ha] at hw
          rw [← some_inj hw, isB_eq (σ := σ)]
          have := (he.get d a ha).1
          simp only [hd, Option.bind_some, this]
          cases a.den σ <;> rfl
theorem putA_ok {σ : Val} {env env' : Tr A} {n : Nat} {a : Act} {d : Option Tmp} {x : A} (hp : putA env n d x = some env') (he : EnvAt σ env n a.tmps) (hx : x.ok σ.dom) : EnvAt σ env' n (a.put d (x.den σ)).tmps := by
  unfold putA at hp
  cases d with
  | none => obtain rfl := some_inj hp; exact he
  | some t =>
    obtain ⟨h1, h2⟩ := cond_some (b := Nat.blt t n) hp
    obtain rfl := some_inj h2
    exact he.put t x (blt_lt h1) hx
theorem put_defers (a : Act) (d : Option Tmp) (v : Value) : (a.put d v).defers = a.defers := by cases d <;> rfl
theorem enters_run {f : FuncId} (h : Enters P f) (args : Array Value) (w : World) : (callFunc f args).run P w = .ok (.enter f args) w := by
  obtain ⟨fn, h1, h2, h3⟩ := h
  have h4 : ¬ fn.body = none := by intro e; rw [e] at h2; cases h2
  have h5 : ¬ fn.name = "runtime.NumGoroutine" := by intro e; rw [e] at h3; simp at h3
  simp [callFunc, h1, h4, h5]
/-- One operation, whatever it is. -/
theorem oper_wp {ev : Job → Option Out} (T : Truth P ev) {r : Option Nat} {env : Tr A} {n : Nat} {ds : List Nat} {h k : H} {o : Oper} {x : A} (hs : operA o.op (tabOf P) ev env h = some (x, k)) :
    h.nx ≤ k.nx ∧ ∀ {σ : Val} {a : Act} {w : World}, At P σ r env n ds h a w → Free σ h.nx k.nx → ∀ m (next : Act → World → Prop) (Q : Exit → Act → World → Prop),
      (∀ τ v, Goes P.globals.size σ h w τ k v → x.ok τ.dom → next (a.put o.dst (x.den τ)) v) → o.wpIn (fe σ r) m P a w next Q := by
  have nodefer : ∀ c, o.op ≠ .defer c := fun c e => by rw [e] at hs; cases hs
  by_cases hc : isFnCall o.op = false
  · refine ⟨(oper_nx (P := P) hc hs).le, fun {σ a w} hat hf m next Q hn => ⟨fun f _ => fe_fn σ r f, ?_⟩⟩
    obtain ⟨τ, v, h1, h2, h3⟩ := oper_ok (hat.env.evalOk hat.rel) hat.rel hc hs hf
    rw [Oper.semAt_eq _ _ _ nodefer]
    rcases h1 with h1 | ⟨h1, rfl⟩
    · rw [h1]; exact hn τ v h2 h3
    · rw [h1]; exact hn τ v h2 h3
  · have hc2 : isFnCall o.op = true := by simpa using hc
    clear hc
    obtain ⟨dst, op, type, pos, after, guard⟩ := o
    cases op
    case call c =>
      have hs' : callC (tabOf P) ev env h c = some (x, k) := hs
      unfold callC at hs'
      unfold isFnCall at hc2
      simp only at hc2
      split at hs'
      · rename_i f hcf
        unfold callA at hs'
        split at hs'
        · cases hs'
        · rename_i g l ht
          -- a function
          unfold target at ht
          split at ht
          · cases ht
          · rename_i l0 hl0
            split at ht
            · rename_i g' fs cs hfv
              have := some_inj ht
              injection this with this
              obtain ⟨rfl, rfl⟩ := (Prod.mk.injEq .. ▸ this : g' = g ∧ fs ++ l0 ++ cs = l)
              cases hev : ev (.call g' (fs ++ l0 ++ cs) h) with
              | none => rw [hev] at hs'; cases hs'
              | some out =>
                rw [hev] at hs'
                cases out with
                | left => cases hs'
                | val y k' =>
                  obtain ⟨rfl, rfl⟩ := pair_inj hs'
                  obtain ⟨t1, t2, t3⟩ := T _ _ hev
                  refine ⟨t1, fun {σ a w} hat hf m next Q hn => ⟨fun f _ => fe_fn σ r f, ?_⟩⟩
                  have he := hat.env.evalOk hat.rel
                  obtain ⟨e1, o1⟩ := he f _ hfv
                  obtain ⟨e2, o2⟩ := opds_ok he hl0
                  simp only [A.ok] at o1
                  have hargs : A.oks σ.dom (fs ++ l0 ++ cs) := oks_append (oks_append o1.1 o2) o1.2
                  have hcall := t3 σ w hat.rel hf hargs (m - 1)
                  rw [Oper.semAt_eq _ _ _ nodefer]
                  have run : (execOp a.eval ⟨dst, .call c, type, pos, after, guard⟩).run P w = .ok (.enter g' ⟨A.dens σ (fs ++ l0 ++ cs)⟩) w := by
                    have e3 : c.args.map a.eval = ⟨A.dens σ l0⟩ := by apply Array.ext'; rw [Array.toList_map]; exact e2
                    simp only [execOp, resolve, hcf, e1, A.den, Deferred.ofValue, Sem.run_bind, Sem.run_pure, Result.andThen_ok, invoke, e3]
                    rw [enters_run t2]
                    congr 2
                    apply Array.ext'
                    simp [dens_eq]
                  rw [run, Oper.uponIn_enter]
                  refine ⟨fe_deep σ r m, fe_calls (hcall.mono ?_)⟩
                  rintro e v ⟨τ, rfl, g1, g2⟩
                  exact hn τ v g1 g2
            · cases ht
            · cases ht
        · rename_i j l ht
          -- a round
          unfold target at ht
          split at ht
          · cases ht
          · rename_i l0 hl0
            split at ht
            · cases ht
            · rename_i j' hfv
              have := some_inj ht
              injection this with this
              obtain ⟨rfl, rfl⟩ := (Prod.mk.injEq .. ▸ this : j' = j ∧ l0 = l)
              cases hev : ev (.round j' l0 h) with
              | none => rw [hev] at hs'; cases hs'
              | some out =>
                rw [hev] at hs'
                cases out with
                | left => cases hs'
                | val y k' =>
                  obtain ⟨rfl, rfl⟩ := pair_inj hs'
                  obtain ⟨t1, t3⟩ := T _ _ hev
                  refine ⟨t1, fun {σ a w} hat hf m next Q hn => ⟨fun f _ => fe_fn σ r f, ?_⟩⟩
                  have he := hat.env.evalOk hat.rel
                  obtain ⟨e1, o1⟩ := he f _ hfv
                  obtain ⟨e2, o2⟩ := opds_ok he hl0
                  obtain ⟨fn, tmps, asg, body, y1, y2⟩ := t3 σ w hat.rel hf o2 (m - 1)
                  rw [Oper.semAt_eq _ _ _ nodefer]
                  have run : (execOp a.eval ⟨dst, .call c, type, pos, after, guard⟩).run P w = .ok (.round (σ.blk j') fn tmps asg body) w := by
                    have e3 : c.args.map a.eval = ⟨A.dens σ l0⟩ := by apply Array.ext'; rw [Array.toList_map]; exact e2
                    simp only [execOp, resolve, hcf, e1, A.den, Deferred.ofValue, Sem.run_bind, Sem.run_pure, Result.andThen_ok, invoke, e3]
                    have : (#[] : Array Value) ++ ⟨A.dens σ l0⟩ = ⟨A.dens σ l0⟩ := by simp
                    rw [this]
                    exact y1
                  rw [run, Oper.uponIn_round]
                  refine ⟨fe_deep σ r m, fe_rounds (y2.mono ?_)⟩
                  rintro e v ⟨τ, rfl, g1, g2⟩
                  exact hn τ v g1 g2
            · cases ht
      · rename_i b hb; simp [hb] at hc2
      · cases hs'
    all_goals cases hc2
end
end Go.Proofs.YtibompboimeedaaGreatDoor.Ev
