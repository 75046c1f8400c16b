/-
  The evaluator tells the truth: every operation but a call of a function.
-/
import Derived.Test.YtibompboimeedaaGreatDoorEvL
namespace Go.Proofs.YtibompboimeedaaGreatDoor.Ev
section
variable {P : Program} {σ : Val} {h : H} {w : World}
/-- What an operation that is carried out leaves. -/
def Done (P : Program) (σ : Val) (h : H) (w : World) (s : Sem Next) (a : A) (k : H) : Prop :=
  ∃ τ v, (s.run P w = .ok (.value (a.den τ)) v ∨ s.run P w = .ok .skip v ∧ a = .tup []) ∧ Goes P.globals.size σ h w τ k v ∧ a.ok τ.dom
theorem Does.done {s : Sem Value} {a : A} {k : H} (d : Does P σ h w s a k) : Done P σ h w (do pure (Next.value (← s))) a k := by
  obtain ⟨τ, v, h1, h2, h3⟩ := d
  exact ⟨τ, v, .inl (by simp only [Sem.run_bind, h1, Result.andThen_ok, Sem.run_pure]), h2, h3⟩
theorem pv_some {h k : H} {x : Option A} {a : A} (e : pv h x = some (a, k)) : x = some a ∧ k = h := by
  cases x with
  | none => cases e
  | some b => obtain ⟨rfl, rfl⟩ := pair_inj e; exact ⟨rfl, rfl⟩
theorem nb_some {h k : H} {x : Option (A × Blk)} {a : A} (e : nb h x = some (a, k)) : ∃ b, x = some (a, b) ∧ k = h.new b := by
  cases x with
  | none => cases e
  | some b => obtain ⟨c, d⟩ := b; obtain ⟨rfl, rfl⟩ := pair_inj e; exact ⟨d, rfl, rfl⟩
theorem convM_nx {env : Tr A} {s t : TypeId} {x : Operand} {a : A} {k : H} (hs : convM (tabOf P) env h s t x = some (a, k)) : Nx h k := by
  have fin : ∀ {z : Option A}, (z.map fun b => (b, h)) = some (a, k) → Nx h k := fun {z} hz => by
    cases z with
    | none => cases hz
    | some b => obtain ⟨rfl, rfl⟩ := pair_inj hz; exact .inl rfl
  unfold convM at hs
  split at hs
  · cases hs
  · split at hs
    · cases hs
    · split at hs
      · cases hs
      · split at hs
        · split at hs
          · unfold rowOf at hs
            split at hs
            · cases hs
            · split at hs
              · rw [← (pair_inj hs).2]; exact .inr rfl
              · split at hs
                · rw [← (pair_inj hs).2]; exact .inr rfl
                · cases hs
              · cases hs
          · exact fin hs
        · split at hs
          · exact fin hs
          · cases hs
        · exact fin hs
theorem two_args {xs : Array Operand} {ρ : Operand → Value} {x y : Operand} (e : xs.toList = [x, y]) : xs.map ρ = #[ρ x, ρ y] := by
  apply Array.ext'; rw [Array.toList_map, e]; rfl
theorem one_arg {xs : Array Operand} {ρ : Operand → Value} {x : Operand} (e : xs.toList = [x]) : xs.map ρ = #[ρ x] := by
  apply Array.ext'; rw [Array.toList_map, e]; rfl
theorem memBi_nx {env : Tr A} {b : Builtin} {ts : List TypeId} {xs : List Operand} {a : A} {k : H} (hs : memBi (tabOf P) env h b ts xs = some (a, k)) : Nx h k := by
  unfold memBi at hs
  split at hs
  · split at hs
    · unfold appendO at hs
      split at hs
      · cases hs
      · split at hs
        · cases hs
        · split at hs
          · cases hs
          · split at hs
            · exact appendA_nx hs
            · cases hs
    · cases hs
  · split at hs
    · unfold copyO at hs
      split at hs
      · cases hs
      · split at hs
        · cases hs
        · split at hs
          · cases hs
          · split at hs
            · split at hs
              · cases hs
              · split at hs
                · rename_i k' hk
                  rw [← (pair_inj hs).2]
                  unfold putCells at hk
                  split at hk
                  · obtain rfl := some_inj hk; exact .inl rfl
                  · split at hk
                    · obtain rfl := some_inj hk; exact .inl rfl
                    · exact .inl (storeC_nx hk)
                · cases hs
            · cases hs
    · cases hs
  · split at hs
    · unfold clearO at hs
      split at hs
      · cases hs
      · split at hs
        · split at hs
          · cases hs
          · split at hs
            · rename_i k' hk
              rw [← (pair_inj hs).2]
              unfold putCells at hk
              split at hk
              · obtain rfl := some_inj hk; exact .inl rfl
              · split at hk
                · obtain rfl := some_inj hk; exact .inl rfl
                · exact .inl (storeC_nx hk)
            · cases hs
        · cases hs
    · cases hs
  · split at hs
    · rw [← (pair_inj hs).2]; exact .inl rfl
    · cases hs
theorem memBi_ok {ρ : Operand → Value} {env : Tr A} (he : EvalOk P σ env ρ) (r : Rel P.globals.size σ h w) {b : Builtin} {ts : Array TypeId} {ty : TypeId} {cs : Array Bool} {xs : Array Operand} {a : A} {k : H}
    (hs : memBi (tabOf P) env h b ts.toList xs.toList = some (a, k)) (hf : Free σ h.nx k.nx) : Done P σ h w (builtin b ts ty cs (xs.map ρ)) a k := by
  unfold memBi at hs
  split at hs
  · split at hs
    · rename_i t u x y e1 e2
      have f1 : ts = #[t, u] := by apply Array.ext'; rw [e1]
      subst f1
      rw [two_args e2]
      exact (append_ok he r hs hf).1.done
    · cases hs
  · split at hs
    · rename_i t l x y e1 e2
      have f1 : ts[0]? = some t := by rw [← Array.getElem?_toList, e1]; rfl
      rw [two_args e2]
      exact (copy_ok he r f1 hs).1.done
    · cases hs
  · split at hs
    · rename_i t l x e1 e2
      have f1 : ts[0]? = some t := by rw [← Array.getElem?_toList, e1]; rfl
      rw [one_arg e2]
      exact (clear_ok he r f1 hs).1.done
    · cases hs
  · split at hs
    · rename_i b' _ _ _ a' ha
      obtain ⟨rfl, rfl⟩ := pair_inj hs
      obtain ⟨h1, h2⟩ := bi_ok (σ := σ) (ty := ty) (cs := cs) he ha
      exact ⟨σ, w, .inl (h1 w), .refl r, h2⟩
    · cases hs
/-- Every operation but a call of a function. -/
def isFnCall : Op → Bool
  | .call c => (match c.callee with
    | .value _ => true
    | _ => false)
  | _ => false
theorem oper_nx {ev : Job → Option Out} {env : Tr A} {op : Op} (hc : isFnCall op = false) {a : A} {k : H} (hs : operA op (tabOf P) ev env h = some (a, k)) : Nx h k := by
  have np : ∀ {x : Option A}, pv h x = some (a, k) → Nx h k := fun hx => by rw [(pv_some hx).2]; exact .inl rfl
  have nn : ∀ {x : Option (A × Blk)}, nb h x = some (a, k) → Nx h k := fun hx => by obtain ⟨b, _, rfl⟩ := nb_some hx; exact .inr rfl
  cases op
  case load t x =>
    have hs' : loadO (tabOf P) env h t x = some (a, k) := hs
    unfold loadO at hs'
    split at hs'
    · exact np hs'
    · cases hs'
  case store t p x =>
    have hs' : storeO (tabOf P) env h t p x = some (a, k) := hs
    unfold storeO at hs'
    split at hs'
    · cases hs'
    · split at hs'
      · cases hs'
      · split at hs'
        · rename_i k' hk
          rw [← (pair_inj hs').2]
          unfold storeA at hk
          split at hk
          · obtain ⟨_, h2⟩ := cond_some hk; exact .inl (storeC_nx h2)
          · cases hk
        · cases hs'
  case convert s t x => exact convM_nx hs
  case slice t x lo hi mx =>
    have hs' : sliceM (tabOf P) env h t x lo hi mx = some (a, k) := hs
    unfold sliceM at hs'
    split at hs'
    · rw [← (pair_inj hs').2]; exact .inl rfl
    · unfold cutOff at hs'
      split at hs'
      · split at hs'
        · cases hs'
        · split at hs'
          · split at hs'
            · obtain ⟨_, h2⟩ := cond_some hs'; rw [← (pair_inj h2).2]; exact .inr rfl
            · cases hs'
          · cases hs'
      · cases hs'
  case range t x =>
    have hs' : rangeO (tabOf P) env h t x = some (a, k) := hs
    unfold rangeO at hs'
    split at hs'
    · cases hs'
    · split at hs'
      · split at hs'
        · rw [← (pair_inj hs').2]; exact .inr rfl
        · cases hs'
      · cases hs'
  case next x s =>
    have hs' : nextO (tabOf P) env h x s = some (a, k) := hs
    unfold nextO at hs'
    split at hs'
    · obtain ⟨_, h2⟩ := cond_some hs'
      unfold nextAt at h2
      split at h2
      · rename_i s' pos hj
        have h2' : cond (Nat.blt pos s'.length) (some (A.tup [.b true, .i .i64 pos, .i .i32 (Utf8.decode ⟨⟨s'⟩⟩ pos).1], h.turn _ (.iter s' (pos + (Utf8.decode ⟨⟨s'⟩⟩ pos).2)))) (some (.tup [.b false], h)) = some (a, k) := h2
        cases hb : Nat.blt pos s'.length with
        | true => rw [hb] at h2'; rw [← (pair_inj h2').2]; exact .inl rfl
        | false => rw [hb] at h2'; rw [← (pair_inj h2').2]; exact .inl rfl
      · cases h2
    · cases hs'
  case alloc e => exact nn hs
  case box e x => exact nn hs
  case buildSlice t l ps => exact nn hs
  case makeSlice t l c => exact nn hs
  case call c =>
    have hs' : callC (tabOf P) ev env h c = some (a, k) := hs
    unfold callC at hs'
    split at hs'
    · rename_i f hf; simp [isFnCall, hf] at hc
    · exact memBi_nx hs'
    · cases hs'
  all_goals first | exact np hs | cases hs
theorem oper_ok {ρ : Operand → Value} {env : Tr A} (he : EvalOk P σ env ρ) (r : Rel P.globals.size σ h w) {ev : Job → Option Out} {o : Oper} (hc : isFnCall o.op = false) {a : A} {k : H} (hs : operA o.op (tabOf P) ev env h = some (a, k)) (hf : Free σ h.nx k.nx) : Done P σ h w (execOp ρ o) a k := by
  obtain ⟨dst, op, type, pos, after, guard⟩ := o
  have pure_ : ∀ {x : Option A}, (∀ a, x = some a → pureA op (tabOf P) env = some a) → pv h x = some (a, k) → Done P σ h w (execOp ρ ⟨dst, op, type, pos, after, guard⟩) a k := fun hx hp => by
    obtain ⟨h1, rfl⟩ := pv_some hp
    obtain ⟨h2, h3⟩ := pure_ok (σ := σ) (o := ⟨dst, op, type, pos, after, guard⟩) he (hx a h1)
    exact ⟨σ, w, .inl (h2 w), .refl r, h3⟩
  have one : ∀ {b : Blk}, k = h.new b → ¬ σ.dom h.nx := fun hk => by subst hk; exact hf.one
  cases op
  case load t x =>
    have hs' : loadO (tabOf P) env h t x = some (a, k) := hs
    unfold loadO at hs'
    split at hs'
    · rename_i p hp
      obtain ⟨h1, rfl⟩ := pv_some hs'
      obtain ⟨h2, h3⟩ := load_ok r h1
      refine Does.done ⟨σ, w, ?_, .refl r, h3⟩
      rw [(he x p hp).1]; exact h2
    · cases hs'
  case store t p x =>
    obtain ⟨v, h1, h2, rfl, _⟩ := store_ok he r hs
    exact ⟨σ, v, .inr ⟨by simp only [execOp, Sem.run_bind, h1, Result.andThen_ok, Sem.run_pure], rfl⟩, h2, by simp [A.ok, A.oks]⟩
  case convert s t x => exact (convM_ok he r hs hf (convM_nx hs)).done
  case slice t x lo hi mx =>
    have hs' : sliceM (tabOf P) env h t x lo hi mx = some (a, k) := hs
    unfold sliceM at hs'
    split at hs'
    · rename_i b hb
      obtain ⟨rfl, rfl⟩ := pair_inj hs'
      exact ((slice_ok (σ := σ) he hb).does r).done
    · have hnx : k.nx = h.nx + 1 := by
        unfold cutOff at hs'
        split at hs'
        · split at hs'
          · cases hs'
          · split at hs'
            · split at hs'
              · obtain ⟨_, h2⟩ := cond_some hs'; rw [← (pair_inj h2).2]
              · cases hs'
            · cases hs'
        · cases hs'
      exact (cut_ok he r (by rw [hnx] at hf; exact hf.one) hs').1.done
  case range t x =>
    have hnx : k.nx = h.nx + 1 := by
      have hs' : rangeO (tabOf P) env h t x = some (a, k) := hs
      unfold rangeO at hs'
      split at hs'
      · cases hs'
      · split at hs'
        · split at hs'
          · rw [← (pair_inj hs').2]; rfl
          · cases hs'
        · cases hs'
    exact (range_ok he r (by rw [hnx] at hf; exact hf.one) hs).done
  case next x s => exact (next_ok he r hs).done
  case alloc e =>
    obtain ⟨b, h1, h2⟩ := nb_some hs
    have := alloc_ok r (one h2) h1
    rw [← h2] at this
    exact this.done
  case box e x =>
    obtain ⟨b, h1, h2⟩ := nb_some hs
    have := box_ok he r (one h2) h1
    rw [← h2] at this
    exact this.done
  case buildSlice t l ps =>
    obtain ⟨b, h1, h2⟩ := nb_some hs
    have := bsl_ok he r (one h2) h1
    rw [← h2] at this
    exact this.done
  case makeSlice t l c =>
    obtain ⟨b, h1, h2⟩ := nb_some hs
    have := msl_ok he r (one h2) h1
    rw [← h2] at this
    exact this.done
  case call c =>
    have hs' : callC (tabOf P) ev env h c = some (a, k) := hs
    unfold callC at hs'
    split at hs'
    · rename_i f hf; simp [isFnCall, hf] at hc
    · rename_i b hb
      have := memBi_ok (ty := type) (cs := c.args.map fun | .const _ => true | _ => false) he r hs' hf
      obtain ⟨τ, v, h1, h2, h3⟩ := this
      refine ⟨τ, v, ?_, h2, h3⟩
      have e : (execOp ρ ⟨dst, .call c, type, pos, after, guard⟩).run P w = (builtin b c.argTypes type (c.args.map fun | .const _ => true | _ => false) (c.args.map ρ)).run P w := by
        simp only [execOp, resolve, hb, Sem.run_bind, Sem.run_pure, Result.andThen_ok, invoke]
        rfl
      rw [e]; exact h1
    · cases hs'
  all_goals first | exact pure_ (fun a h => h) hs | cases hs
end
end Go.Proofs.YtibompboimeedaaGreatDoor.Ev
