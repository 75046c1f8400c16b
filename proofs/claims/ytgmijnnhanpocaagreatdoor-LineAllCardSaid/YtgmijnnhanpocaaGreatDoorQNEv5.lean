/-
  The evaluator tells the truth: every operation but a call of a function. The evaluator tells the truth: what is said of a job; operations in their order. The evaluator tells the truth: code.
-/
import Derived.Test.YtgmijnnhanpocaaGreatDoorQNEv4
import Derived.RangeFuncIn
import Derived.RangeFuncLeaves
namespace Go.Proofs.YtgmijnnhanpocaaGreatDoor.Ev
section
variable {P : Program} {σ : Val} {h : H} {w : World}
def Done (P : Program) (σ : Val) (h : H) (w : World) (s : Sem Next) (a : A) (k : H) : Prop :=
 ∃ τ v, (s.run P w = .ok (.value (a.den τ)) v ∨ s.run P w = .ok .skip v ∧ a = .tup []) ∧ Goes P.globals.size σ h w τ k v ∧ a.ok τ.dom
theorem Does.done {s : Sem Value} {a : A} {k : H} (d : Does P σ h w s a k) : Done P σ h w (do pure (Next.value (← s))) a k := by
 obtain ⟨τ, v, h1, h2, h3⟩ := d
 exact ⟨τ, v, .inl (by simp only [Sem.run_bind, h1, Result.andThen_ok, Sem.run_pure]), h2, h3⟩
theorem pv_some {h k : H} {x : Option A} {a : A} (e : pv h x = some (a, k)) : x = some a ∧ k = h := by
 cases x with
 | none => cases e
 | some b => obtain ⟨rfl, rfl⟩ := pair_inj e; exact ⟨rfl, rfl⟩
theorem nb_some {h k : H} {x : Option (A × Blk)} {a : A} (e : nb h x = some (a, k)) : ∃ b, x = some (a, b) ∧ k = h.new b := by
 cases x with
 | none => cases e
 | some b => obtain ⟨c, d⟩ := b; obtain ⟨rfl, rfl⟩ := pair_inj e; exact ⟨d, rfl, rfl⟩
theorem convM_nx {env : Tr A} {s t : TypeId} {x : Operand} {a : A} {k : H} (hs : convM (tabOf P) env h s t x = some (a, k)) : Nx h k := by
 have fin : ∀ {z : Option A}, (z.map fun b => (b, h)) = some (a, k) → Nx h k := fun {z} hz => by
  cases z with
  | none => cases hz
  | some b => obtain ⟨rfl, rfl⟩ := pair_inj hz; exact .inl rfl
 unfold convM at hs
 split at hs
 ·cases hs
 ·split at hs
  ·cases hs
  ·split at hs
   ·cases hs
   ·split at hs
    ·split at hs
     ·unfold rowOf at hs
      split at hs
      ·cases hs
      ·split at hs
       ·rw [← (pair_inj hs).2]; exact .inr rfl
       ·split at hs
        ·rw [← (pair_inj hs).2]; exact .inr rfl
        ·cases hs
       ·cases hs
     ·exact fin hs
    ·split at hs
     ·exact fin hs
     ·cases hs
    ·exact fin hs
theorem two_args {xs : Array Operand} {ρ : Operand → Value} {x y : Operand} (e : xs.toList = [x, y]) : xs.map ρ = #[ρ x, ρ y] := by
 apply Array.ext'; rw [Array.toList_map, e]; rfl
theorem one_arg {xs : Array Operand} {ρ : Operand → Value} {x : Operand} (e : xs.toList = [x]) : xs.map ρ = #[ρ x] := by
 apply Array.ext'; rw [Array.toList_map, e]; rfl
theorem memBi_nx {env : Tr A} {b : Builtin} {ts : List TypeId} {xs : List Operand} {a : A} {k : H} (hs : memBi (tabOf P) env h b ts xs = some (a, k)) : Nx h k := by
 unfold memBi at hs
 split at hs
 ·split at hs
  ·unfold appendO at hs
   split at hs
   ·cases hs
   ·split at hs
    ·cases hs
    ·split at hs
     ·cases hs
     ·split at hs
      ·exact appendA_nx hs
      ·cases hs
  ·cases hs
 ·split at hs
  ·unfold copyO at hs
   split at hs
   ·cases hs
   ·split at hs
    ·cases hs
    ·split at hs
     ·cases hs
     ·split at hs
      ·split at hs
       ·cases hs
       ·split at hs
        ·rename_i k' hk
         rw [← (pair_inj hs).2]
         unfold putCells at hk
         split at hk
         ·obtain rfl := some_inj hk; exact .inl rfl
         ·split at hk
          ·obtain rfl := some_inj hk; exact .inl rfl
          ·exact .inl (storeC_nx hk)
        ·cases hs
      ·cases hs
  ·cases hs
 ·split at hs
  ·unfold clearO at hs
   split at hs
   ·cases hs
   ·split at hs
    ·split at hs
     ·cases hs
     ·split at hs
      ·rename_i k' hk
       rw [← (pair_inj hs).2]
       unfold putCells at hk
       split at hk
       ·obtain rfl := some_inj hk; exact .inl rfl
       ·split at hk
        ·obtain rfl := some_inj hk; exact .inl rfl
        ·exact .inl (storeC_nx hk)
      ·cases hs
    ·cases hs
  ·cases hs
 ·split at hs
  ·rw [← (pair_inj hs).2]; exact .inl rfl
  ·cases hs
theorem memBi_ok {ρ : Operand → Value} {env : Tr A} (he : EvalOk P σ env ρ) (r : Rel P.globals.size σ h w) {b : Builtin} {ts : Array TypeId} {ty : TypeId} {cs : Array Bool} {xs : Array Operand} {a : A} {k : H}
  (hs : memBi (tabOf P) env h b ts.toList xs.toList = some (a, k)) (hf : Free σ h.nx k.nx) : Done P σ h w (builtin b ts ty cs (xs.map ρ)) a k := by
 unfold memBi at hs
 split at hs
 ·split at hs
  ·rename_i t u x y e1 e2
   have f1 : ts = #[t, u] := by apply Array.ext'; rw [e1]
   subst f1
   rw [two_args e2]
   exact (append_ok he r hs hf).1.done
  ·cases hs
 ·split at hs
  ·rename_i t l x y e1 e2
   have f1 : ts[0]? = some t := by rw [← Array.getElem?_toList, e1]; rfl
   rw [two_args e2]
   exact (copy_ok he r f1 hs).1.done
  ·cases hs
 ·split at hs
  ·rename_i t l x e1 e2
   have f1 : ts[0]? = some t := by rw [← Array.getElem?_toList, e1]; rfl
   rw [one_arg e2]
   exact (clear_ok he r f1 hs).1.done
  ·cases hs
 ·split at hs
  ·rename_i b' _ _ _ a' ha
   obtain ⟨rfl, rfl⟩ := pair_inj hs
   obtain ⟨h1, h2⟩ := bi_ok (σ := σ) (ty := ty) (cs := cs) he ha
   exact ⟨σ, w, .inl (h1 w), .refl r, h2⟩
  ·cases hs
def isFnCall : Op → Bool
 | .call c => (match c.callee with
  | .value _ => true
  | _ => false)
 | _ => false
theorem oper_nx {ev : Job → Option Out} {env : Tr A} {op : Op} (hc : isFnCall op = false) {a : A} {k : H} (hs : operA op (tabOf P) ev env h = some (a, k)) : Nx h k := by
 have np : ∀ {x : Option A}, pv h x = some (a, k) → Nx h k := fun hx => by rw [(pv_some hx).2]; exact .inl rfl
 have nn : ∀ {x : Option (A × Blk)}, nb h x = some (a, k) → Nx h k := fun hx => by obtain ⟨b, _, rfl⟩ := nb_some hx; exact .inr rfl
 cases op
 case load t x =>
  have hs' : loadO (tabOf P) env h t x = some (a, k) := hs
  unfold loadO at hs'
  split at hs'
  ·exact np hs'
  ·cases hs'
 case store t p x =>
  have hs' : storeO (tabOf P) env h t p x = some (a, k) := hs
  unfold storeO at hs'
  split at hs'
  ·cases hs'
  ·split at hs'
   ·cases hs'
   ·split at hs'
    ·rename_i k' hk
     rw [← (pair_inj hs').2]
     unfold storeA at hk
     split at hk
     ·obtain ⟨_, h2⟩ := cond_some hk; exact .inl (storeC_nx h2)
     ·cases hk
    ·cases hs'
 case convert s t x => exact convM_nx hs
 case slice t x lo hi mx =>
  have hs' : sliceM (tabOf P) env h t x lo hi mx = some (a, k) := hs
  unfold sliceM at hs'
  split at hs'
  ·rw [← (pair_inj hs').2]; exact .inl rfl
  ·unfold cutOff at hs'
   split at hs'
   ·split at hs'
    ·cases hs'
    ·split at hs'
     ·split at hs'
      ·obtain ⟨_, h2⟩ := cond_some hs'; rw [← (pair_inj h2).2]; exact .inr rfl
      ·cases hs'
     ·cases hs'
   ·cases hs'
 case range t x =>
  have hs' : rangeO (tabOf P) env h t x = some (a, k) := hs
  unfold rangeO at hs'
  split at hs'
  ·cases hs'
  ·split at hs'
   ·split at hs'
    ·rw [← (pair_inj hs').2]; exact .inr rfl
    ·cases hs'
   ·cases hs'
 case next x s =>
  have hs' : nextO (tabOf P) env h x s = some (a, k) := hs
  unfold nextO at hs'
  split at hs'
  ·obtain ⟨_, h2⟩ := cond_some hs'
   unfold nextAt at h2
   split at h2
   ·rename_i s' pos hj
    have h2' : cond (Nat.blt pos s'.length) (some (A.tup [.b true, .i .i64 pos, .i .i32 (Utf8.decode ⟨⟨s'⟩⟩ pos).1], h.turn _ (.iter s' (pos + (Utf8.decode ⟨⟨s'⟩⟩ pos).2)))) (some (.tup [.b false], h)) = some (a, k) := h2
    cases hb : Nat.blt pos s'.length with
    | true => rw [hb] at h2'; rw [← (pair_inj h2').2]; exact .inl rfl
    | false => rw [hb] at h2'; rw [← (pair_inj h2').2]; exact .inl rfl
   ·cases h2
  ·cases hs'
 case alloc e => exact nn hs
 case box e x => exact nn hs
 case buildSlice t l ps => exact nn hs
 case makeSlice t l c => exact nn hs
 case call c =>
  have hs' : callC (tabOf P) ev env h c = some (a, k) := hs
  unfold callC at hs'
  split at hs'
  ·rename_i f hf; simp [isFnCall, hf] at hc
  ·exact memBi_nx hs'
  ·cases hs'
 all_goals first | exact np hs | cases hs
theorem oper_ok {ρ : Operand → Value} {env : Tr A} (he : EvalOk P σ env ρ) (r : Rel P.globals.size σ h w) {ev : Job → Option Out} {o : Oper} (hc : isFnCall o.op = false) {a : A} {k : H} (hs : operA o.op (tabOf P) ev env h = some (a, k)) (hf : Free σ h.nx k.nx) : Done P σ h w (execOp ρ o) a k := by
 obtain ⟨dst, op, type, pos, after, guard⟩ := o
 have pure_ : ∀ {x : Option A}, (∀ a, x = some a → pureA op (tabOf P) env = some a) → pv h x = some (a, k) → Done P σ h w (execOp ρ ⟨dst, op, type, pos, after, guard⟩) a k := fun hx hp => by
  obtain ⟨h1, rfl⟩ := pv_some hp
  obtain ⟨h2, h3⟩ := pure_ok (σ := σ) (o := ⟨dst, op, type, pos, after, guard⟩) he (hx a h1)
  exact ⟨σ, w, .inl (h2 w), .refl r, h3⟩
 have one : ∀ {b : Blk}, k = h.new b → ¬ σ.dom h.nx := fun hk => by subst hk; exact hf.one
 cases op
 case load t x =>
  have hs' : loadO (tabOf P) env h t x = some (a, k) := hs
  unfold loadO at hs'
  split at hs'
  ·rename_i p hp
   obtain ⟨h1, rfl⟩ := pv_some hs'
   obtain ⟨h2, h3⟩ := load_ok r h1
   refine Does.done ⟨σ, w, ?_, .refl r, h3⟩
   rw [(he x p hp).1]; exact h2
  ·cases hs'
 case store t p x =>
  obtain ⟨v, h1, h2, rfl, _⟩ := store_ok he r hs
  exact ⟨σ, v, .inr ⟨by simp only [execOp, Sem.run_bind, h1, Result.andThen_ok, Sem.run_pure], rfl⟩, h2, by simp [A.ok, A.oks]⟩
 case convert s t x => exact (convM_ok he r hs hf (convM_nx hs)).done
 case slice t x lo hi mx =>
  have hs' : sliceM (tabOf P) env h t x lo hi mx = some (a, k) := hs
  unfold sliceM at hs'
  split at hs'
  ·rename_i b hb
   obtain ⟨rfl, rfl⟩ := pair_inj hs'
   exact ((slice_ok (σ := σ) he hb).does r).done
  ·have hnx : k.nx = h.nx + 1 := by
    unfold cutOff at hs'
    split at hs'
    ·split at hs'
     ·cases hs'
     ·split at hs'
      ·split at hs'
       ·obtain ⟨_, h2⟩ := cond_some hs'; rw [← (pair_inj h2).2]
       ·cases hs'
      ·cases hs'
    ·cases hs'
   exact (cut_ok he r (by rw [hnx] at hf; exact hf.one) hs').1.done
 case range t x =>
  have hnx : k.nx = h.nx + 1 := by
   have hs' : rangeO (tabOf P) env h t x = some (a, k) := hs
   unfold rangeO at hs'
   split at hs'
   ·cases hs'
   ·split at hs'
    ·split at hs'
     ·rw [← (pair_inj hs').2]; rfl
     ·cases hs'
    ·cases hs'
  exact (range_ok he r (by rw [hnx] at hf; exact hf.one) hs).done
 case next x s => exact (next_ok he r hs).done
 case alloc e =>
  obtain ⟨b, h1, h2⟩ := nb_some hs
  have := alloc_ok r (one h2) h1
  rw [← h2] at this
  exact this.done
 case box e x =>
  obtain ⟨b, h1, h2⟩ := nb_some hs
  have := box_ok he r (one h2) h1
  rw [← h2] at this
  exact this.done
 case buildSlice t l ps =>
  obtain ⟨b, h1, h2⟩ := nb_some hs
  have := bsl_ok he r (one h2) h1
  rw [← h2] at this
  exact this.done
 case makeSlice t l c =>
  obtain ⟨b, h1, h2⟩ := nb_some hs
  have := msl_ok he r (one h2) h1
  rw [← h2] at this
  exact this.done
 case call c =>
  have hs' : callC (tabOf P) ev env h c = some (a, k) := hs
  unfold callC at hs'
  split at hs'
  ·rename_i f hf; simp [isFnCall, hf] at hc
  ·rename_i b hb
   have := memBi_ok (ty := type) (cs := c.args.map fun | .const _ => true | _ => false) he r hs' hf
   obtain ⟨τ, v, h1, h2, h3⟩ := this
   refine ⟨τ, v, ?_, h2, h3⟩
   have e : (execOp ρ ⟨dst, .call c, type, pos, after, guard⟩).run P w = (builtin b c.argTypes type (c.args.map fun | .const _ => true | _ => false) (c.args.map ρ)).run P w := by
    simp only [execOp, resolve, hb, Sem.run_bind, Sem.run_pure, Result.andThen_ok, invoke]
    rfl
   rw [e]; exact h1
  ·cases hs'
 all_goals first | exact pure_ (fun a h => h) hs | cases hs
end
end Go.Proofs.YtgmijnnhanpocaaGreatDoor.Ev
namespace Go.Proofs.YtgmijnnhanpocaaGreatDoor.Ev
def fe (σ : Val) : Option Nat → Fence
 | none => Fence.wide
 | some l => Fence.wide.inRound (σ.blk l)
theorem fe_fn (σ : Val) (r : Option Nat) (f : FuncId) : (fe σ r).fn f := by cases r <;> trivial
theorem fe_depth (σ : Val) (r : Option Nat) : (fe σ r).depth = none := by cases r <;> rfl
theorem fe_deep (σ : Val) (r : Option Nat) (n : Nat) : (fe σ r).depth.isSome = true → 1 ≤ n := fun h => by rw [fe_depth] at h; cases h
theorem fe_same {σ τ : Val} (s : Same σ τ) {r : Option Nat} (h : ∀ l, r = some l → σ.dom l) : fe τ r = fe σ r := by
 cases r with
 | none => rfl
 | some l => simp only [fe]; rw [s.blk l (h l rfl)]
theorem fe_calls {P : Program} {σ : Val} {r : Option Nat} {n : Nat} {f : FuncId} {args : Array Value} {w : World} {R : Ending → World → Prop} (h : CallsIn Fence.wide n P f args w R) : CallsIn (fe σ r) n P f args w R := by
 cases r <;> exact h
theorem fe_rounds {P : Program} {σ : Val} {r : Option Nat} {n l : Nat} {f : FuncId} {tmps : Array Value} {asg body : Code} {w : World} {R : Ending → World → Prop} (h : RoundIn Fence.wide n P l f tmps asg body w R) : RoundIn (fe σ r) n P l f tmps asg body w R := by
 cases r <;> exact h
def marks (σ : Val) (ds : List Nat) : List Deferred := ds.map fun d => { target := .collected (σ.blk d), args := #[] }
theorem marks_same {σ τ : Val} (s : Same σ τ) {ds : List Nat} (h : ∀ d ∈ ds, σ.dom d) : marks τ ds = marks σ ds := by
 unfold marks
 apply List.map_congr_left
 intro d hd
 rw [s.blk d (h d hd)]
structure At (P : Program) (σ : Val) (r : Option Nat) (env : Tr A) (n : Nat) (ds : List Nat) (h : H) (a : Act) (w : World) : Prop where
 rel : Rel P.globals.size σ h w
 env : EnvAt σ env n a.tmps
 defers : a.defers = marks σ ds
 ds : ∀ d ∈ ds, σ.dom d
 r : ∀ l, r = some l → σ.dom l
def Left (P : Program) (σ : Val) (r : Option Nat) (h : H) (w : World) (n : Nat) (e : Exit) (env : Tr A) (ds : List Nat) (k : H) : Exit → Act → World → Prop := fun e' a v =>
 e' = e ∧ ∃ τ, Kept σ h w τ k v ∧ At P τ r env n ds k a v
def Enters (P : Program) (f : FuncId) : Prop := ∃ fn, P.funcs[f]? = some fn ∧ fn.body.isNone = false ∧ (fn.name == "runtime.NumGoroutine") = false
def Says (P : Program) : Job → Out → Prop
 | .code r c env n ds h, .left e env' ds' k => h.nx ≤ k.nx ∧ ∀ σ a w, At P σ r env n ds h a w → Free σ h.nx k.nx → ∀ m, c.wpIn (fe σ r) m P (Left P σ r h w n e env' ds' k) a w
 | .pass s c env n ds h r, .left e env' ds' k => h.nx ≤ k.nx ∧ ∀ σ a w, At P σ r env n ds h a w → Free σ h.nx k.nx → ∀ m (b : Frame) (k' : List Item) (cs : List Frame), b.roundOf = (fe σ r).round → (fe σ r).fn b.fn → (fe σ r).room (cs.length + 1 + m) →
   ∃ e' a' w', Left P σ r h w n e env' ds' k e' a' w' ∧ ArrivesIn (Machine.fenced P (fe σ r)) P (lone (b.atR a (.code c :: .inScope s :: k')) cs w) b k' cs e' a' w'
 | .call f args h, .val a k => h.nx ≤ k.nx ∧ Enters P f ∧ ∀ σ w, Rel P.globals.size σ h w → Free σ h.nx k.nx → A.oks σ.dom args → ∀ m, CallsIn Fence.wide m P f ⟨A.dens σ args⟩ w fun e v => ∃ τ, e = .returned (a.den τ) ∧ Goes P.globals.size σ h w τ k v ∧ a.ok τ.dom
 | .round l args h, .val a k => h.nx ≤ k.nx ∧ ∀ σ w, Rel P.globals.size σ h w → Free σ h.nx k.nx → A.oks σ.dom args → ∀ m, ∃ f tmps asg body, (Instr.yield (σ.blk l) ⟨A.dens σ args⟩).run P w = .ok (.round (σ.blk l) f tmps asg body) w ∧
   RoundIn Fence.wide m P (σ.blk l) f tmps asg body w fun e v => ∃ τ, e = .returned (a.den τ) ∧ Goes P.globals.size σ h w τ k v ∧ a.ok τ.dom
 | _, _ => True
def Truth (P : Program) (ev : Job → Option Out) : Prop := ∀ j o, ev j = some o → Says P j o
section
variable {P : Program}
theorem nth_ops {ops : Array Oper} {j : Nat} : nth ops.toList j = ops[j]? := by rw [nth_get]; simp
theorem isB_eq {want : Bool} {a : A} {σ : Val} : isB want a = ((match a.den σ with | .bool b => some b | _ => none) == some want) := by
 cases a
 case b x => cases x <;> cases want <;> rfl
 case p r => rfl
 all_goals first | rfl | (simp [isB, A.den])
theorem wanted_ok {ops : Array Oper} {σ : Val} {env : Tr A} {n : Nat} {tmps : Array Value} {o : Oper} {b : Bool} (hw : wantedA ops.toList env o = some b) (he : EnvAt σ env n tmps) : Region.wanted o (yielded ops tmps) = b := by
 unfold wantedA at hw
 unfold Region.wanted
 cases hg : o.guard with
 | none => rw [hg] at hw; exact some_inj hw
 | some g =>
  obtain ⟨j, want⟩ := g
  rw [hg] at hw
  simp only at hw ⊢
  rw [nth_ops] at hw
  unfold yielded
  cases hj : ops[j]? with
  | none => rw [hj] at hw; rw [← some_inj hw]; rfl
  | some g =>
   rw [hj] at hw
   simp only at hw
   unfold slotB at hw
   cases hd : g.dst with
   | none => rw [hd] at hw; rw [← some_inj hw]; simp [hd]
   | some d =>
    rw [hd] at hw
    simp only at hw
    cases ha : env.get d with
    | none => rw [ha] at hw; cases hw
    | some a =>
     rw [ha] at hw
     rw [← some_inj hw, isB_eq (σ := σ)]
     have := (he.get d a ha).1
     simp only [hd, Option.bind_some, this]
     cases a.den σ <;> rfl
theorem putA_ok {σ : Val} {env env' : Tr A} {n : Nat} {a : Act} {d : Option Tmp} {x : A} (hp : putA env n d x = some env') (he : EnvAt σ env n a.tmps) (hx : x.ok σ.dom) : EnvAt σ env' n (a.put d (x.den σ)).tmps := by
 unfold putA at hp
 cases d with
 | none => obtain rfl := some_inj hp; exact he
 | some t =>
  obtain ⟨h1, h2⟩ := cond_some (b := Nat.blt t n) hp
  obtain rfl := some_inj h2
  exact he.put t x (blt_lt h1) hx
theorem put_defers (a : Act) (d : Option Tmp) (v : Value) : (a.put d v).defers = a.defers := by cases d <;> rfl
theorem enters_run {f : FuncId} (h : Enters P f) (args : Array Value) (w : World) : (callFunc f args).run P w = .ok (.enter f args) w := by
 obtain ⟨fn, h1, h2, h3⟩ := h
 have h4 : ¬ fn.body = none := by intro e; rw [e] at h2; cases h2
 have h5 : ¬ fn.name = "runtime.NumGoroutine" := by intro e; rw [e] at h3; simp at h3
 simp [callFunc, h1, h4, h5]
theorem oper_wp {ev : Job → Option Out} (T : Truth P ev) {r : Option Nat} {env : Tr A} {n : Nat} {ds : List Nat} {h k : H} {o : Oper} {x : A} (hs : operA o.op (tabOf P) ev env h = some (x, k)) :
  h.nx ≤ k.nx ∧ ∀ {σ : Val} {a : Act} {w : World}, At P σ r env n ds h a w → Free σ h.nx k.nx → ∀ m (next : Act → World → Prop) (Q : Exit → Act → World → Prop),
   (∀ τ v, Goes P.globals.size σ h w τ k v → x.ok τ.dom → next (a.put o.dst (x.den τ)) v) → o.wpIn (fe σ r) m P a w next Q := by
 have nodefer : ∀ c, o.op ≠ .defer c := fun c e => by rw [e] at hs; cases hs
 by_cases hc : isFnCall o.op = false
 ·refine ⟨(oper_nx (P := P) hc hs).le, fun {σ a w} hat hf m next Q hn => ⟨fun f _ => fe_fn σ r f, ?_⟩⟩
  obtain ⟨τ, v, h1, h2, h3⟩ := oper_ok (hat.env.evalOk hat.rel) hat.rel hc hs hf
  rw [Oper.semAt_eq _ _ _ nodefer]
  rcases h1 with h1 | ⟨h1, rfl⟩
  ·rw [h1]; exact hn τ v h2 h3
  ·rw [h1]; exact hn τ v h2 h3
 ·have hc2 : isFnCall o.op = true := by simpa using hc
  clear hc
  obtain ⟨dst, op, type, pos, after, guard⟩ := o
  cases op
  case call c =>
   have hs' : callC (tabOf P) ev env h c = some (x, k) := hs
   unfold callC at hs'
   unfold isFnCall at hc2
   simp only at hc2
   split at hs'
   ·rename_i f hcf
    unfold callA at hs'
    split at hs'
    ·cases hs'
    ·rename_i g l ht
     unfold target at ht
     split at ht
     ·cases ht
     ·rename_i l0 hl0
      split at ht
      ·rename_i g' fs cs hfv
       have := some_inj ht
       injection this with this
       obtain ⟨rfl, rfl⟩ := (Prod.mk.injEq .. ▸ this : g' = g ∧ fs ++ l0 ++ cs = l)
       cases hev : ev (.call g' (fs ++ l0 ++ cs) h) with
       | none => rw [hev] at hs'; cases hs'
       | some out =>
        rw [hev] at hs'
        cases out with
        | left => cases hs'
        | val y k' =>
         obtain ⟨rfl, rfl⟩ := pair_inj hs'
         obtain ⟨t1, t2, t3⟩ := T _ _ hev
         refine ⟨t1, fun {σ a w} hat hf m next Q hn => ⟨fun f _ => fe_fn σ r f, ?_⟩⟩
         have he := hat.env.evalOk hat.rel
         obtain ⟨e1, o1⟩ := he f _ hfv
         obtain ⟨e2, o2⟩ := opds_ok he hl0
         simp only [A.ok] at o1
         have hargs : A.oks σ.dom (fs ++ l0 ++ cs) := oks_append (oks_append o1.1 o2) o1.2
         have hcall := t3 σ w hat.rel hf hargs (m - 1)
         rw [Oper.semAt_eq _ _ _ nodefer]
         have run : (execOp a.eval ⟨dst, .call c, type, pos, after, guard⟩).run P w = .ok (.enter g' ⟨A.dens σ (fs ++ l0 ++ cs)⟩) w := by
          have e3 : c.args.map a.eval = ⟨A.dens σ l0⟩ := by apply Array.ext'; rw [Array.toList_map]; exact e2
          simp only [execOp, resolve, hcf, e1, A.den, Deferred.ofValue, Sem.run_bind, Sem.run_pure, Result.andThen_ok, invoke, e3]
          rw [enters_run t2]
          congr 2
          apply Array.ext'
          simp [dens_eq]
         rw [run, Oper.uponIn_enter]
         refine ⟨fe_deep σ r m, fe_calls (hcall.mono ?_)⟩
         rintro e v ⟨τ, rfl, g1, g2⟩
         exact hn τ v g1 g2
      ·cases ht
      ·cases ht
    ·rename_i j l ht
     unfold target at ht
     split at ht
     ·cases ht
     ·rename_i l0 hl0
      split at ht
      ·cases ht
      ·rename_i j' hfv
       have := some_inj ht
       injection this with this
       obtain ⟨rfl, rfl⟩ := (Prod.mk.injEq .. ▸ this : j' = j ∧ l0 = l)
       cases hev : ev (.round j' l0 h) with
       | none => rw [hev] at hs'; cases hs'
       | some out =>
        rw [hev] at hs'
        cases out with
        | left => cases hs'
        | val y k' =>
         obtain ⟨rfl, rfl⟩ := pair_inj hs'
         obtain ⟨t1, t3⟩ := T _ _ hev
         refine ⟨t1, fun {σ a w} hat hf m next Q hn => ⟨fun f _ => fe_fn σ r f, ?_⟩⟩
         have he := hat.env.evalOk hat.rel
         obtain ⟨e1, o1⟩ := he f _ hfv
         obtain ⟨e2, o2⟩ := opds_ok he hl0
         obtain ⟨fn, tmps, asg, body, y1, y2⟩ := t3 σ w hat.rel hf o2 (m - 1)
         rw [Oper.semAt_eq _ _ _ nodefer]
         have run : (execOp a.eval ⟨dst, .call c, type, pos, after, guard⟩).run P w = .ok (.round (σ.blk j') fn tmps asg body) w := by
          have e3 : c.args.map a.eval = ⟨A.dens σ l0⟩ := by apply Array.ext'; rw [Array.toList_map]; exact e2
          simp only [execOp, resolve, hcf, e1, A.den, Deferred.ofValue, Sem.run_bind, Sem.run_pure, Result.andThen_ok, invoke, e3]
          have : (#[] : Array Value) ++ ⟨A.dens σ l0⟩ = ⟨A.dens σ l0⟩ := by simp
          rw [this]
          exact y1
         rw [run, Oper.uponIn_round]
         refine ⟨fe_deep σ r m, fe_rounds (y2.mono ?_)⟩
         rintro e v ⟨τ, rfl, g1, g2⟩
         exact hn τ v g1 g2
      ·cases ht
   ·rename_i b hb; simp [hb] at hc2
   ·cases hs'
  all_goals cases hc2
end
end Go.Proofs.YtgmijnnhanpocaaGreatDoor.Ev
namespace Go.Proofs.YtgmijnnhanpocaaGreatDoor.Ev
section
variable {P : Program}
theorem Left.trans {σ τ : Val} {r : Option Nat} {h h2 k : H} {w w2 v : World} {n : Nat} {e e' : Exit} {env : Tr A} {ds : List Nat} {a : Act} (x : Kept σ h w τ h2 w2) (h1 : h.nx ≤ h2.nx) (h3 : h2.nx ≤ k.nx) (y : Left P τ r h2 w2 n e env ds k e' a v) :
  Left P σ r h w n e env ds k e' a v := by
 obtain ⟨rfl, ρ, y1, y2⟩ := y
 exact ⟨rfl, ρ, x.trans y1 h1 h3, y2⟩
theorem Kept.free {a b : Val} {h k : H} {w v : World} (x : Kept a h w b k v) {m : Nat} (hm : Free a h.nx m) (hk : h.nx ≤ k.nx) : Free b k.nx m := fun j h1 h2 hd => by
 rcases x.dom j hd with h3 | h3
 ·exact hm j (by omega) h2 h3
 ·omega
theorem ops_ok {ev : Job → Option Out} (T : Truth P ev) {ops : Array Oper} {r : Option Nat} {n : Nat} {ds : List Nat} : ∀ (l : List Oper) (i : Nat) {env e : Tr A} {h k : H}, ops.toList.drop i = l → opsA l (tabOf P) ev ops.toList n env h = some (e, k) →
  h.nx ≤ k.nx ∧ ∀ {σ : Val} {a : Act} {w : World}, At P σ r env n ds h a w → Free σ h.nx k.nx → ∀ m (Q : Exit → Act → World → Prop), (∀ τ a' v, Kept σ h w τ k v → At P τ r e n ds k a' v → Q .normal a' v) →
   wpOpsIn (fe σ r) m P ops Q (List.range' i l.length) a w
 | [], i, env, e, h, k, hd, hs => by
  obtain ⟨rfl, rfl⟩ := pair_inj (show some (env, h) = some (e, k) from hs)
  exact ⟨Nat.le_refl _, fun hat _ m Q hQ => hQ _ _ _ (.refl _ _ _) hat⟩
 | o :: l, i, env, e, h, k, hd, hs => by
  have hs' : opsK (opsA l (tabOf P) ev ops.toList n) (op1 (tabOf P) ev ops.toList n o env h) = some (e, k) := hs
  have hi : ops[i]? = some o := by
   have := congrArg (fun l => l[0]?) hd
   simpa [List.getElem?_drop] using this
  have hd' : ops.toList.drop (i + 1) = l := by
   have := congrArg List.tail hd
   simpa using this
  cases h1 : op1 (tabOf P) ev ops.toList n o env h with
  | none => rw [h1] at hs'; cases hs'
  | some x =>
   obtain ⟨e1, k1⟩ := x
   rw [h1] at hs'
   have hs2 : opsA l (tabOf P) ev ops.toList n e1 k1 = some (e, k) := hs'
   obtain ⟨n2, ih⟩ := ops_ok T l (i + 1) (ds := ds) (r := r) hd' hs2
   unfold op1 at h1
   cases hw : wantedA ops.toList env o with
   | none => rw [hw] at h1; cases h1
   | some b =>
    rw [hw] at h1
    have h1' : op2 n o env (@Bool.rec (fun _ => Option (A × H)) (some (.tup [], h)) (operA o.op (tabOf P) ev env h) b) = some (e1, k1) := h1
    cases b with
    | false =>
     have h2 : (match putA env n o.dst (.tup []) with | some e => some (e, h) | none => none) = some (e1, k1) := h1'
     cases hp : putA env n o.dst (.tup []) with
     | none => rw [hp] at h2; cases h2
     | some e2 =>
      rw [hp] at h2
      obtain ⟨rfl, rfl⟩ := pair_inj h2
      refine ⟨n2, fun {σ a w} hat hf m Q hQ => ?_⟩
      have hwt := wanted_ok hw hat.env
      simp only [List.length_cons, List.range'_succ, wpOpsIn, hi, hwt, Bool.false_eq_true, if_false]
      refine ⟨fun f _ => fe_fn σ r f, ih ⟨hat.rel, ?_, by rw [put_defers]; exact hat.defers, hat.ds, hat.r⟩ hf m Q hQ⟩
      exact putA_ok hp hat.env (by simp [A.ok, A.oks])
    | true =>
     have h2 : op2 n o env (operA o.op (tabOf P) ev env h) = some (e1, k1) := h1'
     unfold op2 at h2
     cases ho : operA o.op (tabOf P) ev env h with
     | none => rw [ho] at h2; cases h2
     | some x =>
      obtain ⟨x, k2⟩ := x
      rw [ho] at h2
      simp only at h2
      cases hp : putA env n o.dst x with
      | none => rw [hp] at h2; cases h2
      | some e2 =>
       rw [hp] at h2
       obtain ⟨rfl, rfl⟩ := pair_inj h2
       obtain ⟨n1, step⟩ := oper_wp T (r := r) (n := n) (ds := ds) ho
       refine ⟨Nat.le_trans n1 n2, fun {σ a w} hat hf m Q hQ => ?_⟩
       have hwt := wanted_ok hw hat.env
       simp only [List.length_cons, List.range'_succ, wpOpsIn, hi, hwt, if_true]
       refine step hat (hf.mono (Nat.le_refl _) n2) m _ Q fun τ v g1 g2 => ?_
       rw [← fe_same g1.kept.same hat.r]
       refine ih ⟨g1.rel, ?_, ?_, fun d hd => g1.kept.same.dom d (hat.ds d hd), fun l hl => g1.kept.same.dom l (hat.r l hl)⟩ (g1.free hf n1) m Q fun ρ a' v' x1 x2 => hQ ρ a' v' (g1.kept.trans x1 n1 n2) x2
       ·have := hat.env.keep g1.kept.same
        exact putA_ok hp this g2
       ·rw [put_defers, hat.defers, marks_same g1.kept.same hat.ds]
theorem least {p : Nat → Prop} (h : ∃ n, p n) : ∃ m, p m ∧ ∀ g, p g → m ≤ g := by
 obtain ⟨n, hn⟩ := h
 induction n using Nat.strongRecOn with
 | _ n ih =>
  by_cases hl : ∃ g, g < n ∧ p g
  ·obtain ⟨g, h1, h2⟩ := hl; exact ih g h1 h2
  ·refine ⟨n, hn, fun g hg => ?_⟩
   rcases Nat.lt_or_ge g n with h1 | h1
   ·exact absurd ⟨g, h1, hg⟩ hl
   ·exact h1
theorem wpIn_loop_fuel {F : Fence} {n : Nat} {Q : Exit → Act → World → Prop} {c : Code} {a : Act} {w : World} (J : Nat → Act → World → Prop) {f : Nat} (h0 : J f a w)
  (round : ∀ f a w, J f a w → c.wpIn F n P (Exit.then (fun a' w' => ∃ g, g < f ∧ J g a' w') Q) a w) : (Code.loop c).wpIn F n P Q a w := by
 classical
 refine wpIn_loop (fun a w => ∃ f, J f a w) (fun a w => if h : ∃ f, J f a w then Classical.choose (least h) else 0) ⟨f, h0⟩ fun a w hI => ?_
 refine wpIn_mono (round (Classical.choose (least hI)) a w (Classical.choose_spec (least hI)).1) fun e a' w' he => ?_
 cases e
 case normal =>
  obtain ⟨g, hg, hJ⟩ := he
  refine ⟨⟨g, hJ⟩, ?_⟩
  rw [dif_pos ⟨g, hJ⟩, dif_pos hI]
  exact Nat.lt_of_le_of_lt ((Classical.choose_spec (least (p := fun f => J f a' w') ⟨g, hJ⟩)).2 g hJ) hg
 all_goals exact he
end
end Go.Proofs.YtgmijnnhanpocaaGreatDoor.Ev
