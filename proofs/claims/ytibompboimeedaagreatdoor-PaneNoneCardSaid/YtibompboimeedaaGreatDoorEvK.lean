/-
  The evaluator tells the truth: the other operations on the heap.
-/
import Derived.Test.YtibompboimeedaaGreatDoorEvJ
import Derived.Laws.BytesString
namespace Go.Proofs.YtibompboimeedaaGreatDoor.Ev
/-- At most one number is taken. -/
def Nx (h k : H) : Prop := k.nx = h.nx ∨ k.nx = h.nx + 1
theorem Nx.le {h k : H} (x : Nx h k) : h.nx ≤ k.nx := by rcases x with h | h <;> omega
theorem storeC_nx {h k : H} {j o : Nat} {cs : List A} (hs : storeC h j o cs = some k) : k.nx = h.nx := by
  unfold storeC at hs
  split at hs
  · obtain ⟨_, h2⟩ := cond_some hs
    obtain rfl := some_inj h2
    rfl
  · cases hs
theorem loseA_nx {h k : H} {e : TypeId} {te : TI} {r : Option (Nat × Nat)} {lo : Nat} {c : Option Nat} (hs : loseA h e te r lo c = some k) : k.nx = h.nx := by
  unfold loseA at hs
  split at hs
  · obtain rfl := some_inj hs; rfl
  · split at hs
    · cases hs
    · split at hs
      · split at hs
        · obtain ⟨_, h2⟩ := cond_some hs
          obtain rfl := some_inj h2
          rfl
        · cases hs
      · cases hs
theorem growA_nx {h k : H} {e : TypeId} {te : TI} {r : Option (Nat × Nat)} {len lo : Nat} {c : Option Nat} {new : List A} {need : Nat} {a : A} (hs : growA h e te r len lo c new need = some (a, k)) : k.nx = h.nx + 1 := by
  unfold growA at hs
  obtain ⟨_, hs⟩ := cond_some hs
  split at hs
  · cases hs
  · obtain ⟨_, hs⟩ := cond_some hs
    split at hs
    · cases hs
    · rename_i k' hk
      have := some_inj hs
      injection this with _ q
      subst q
      show k'.nx + 1 = _
      rw [loseA_nx hk]
theorem nble {a b : Nat} (h : Nat.ble a b = false) : b < a := by
  rcases Nat.lt_or_ge b a with h1 | h1
  · exact h1
  · rw [Nat.ble_eq_true_of_le h1] at h; cases h
theorem pair_inj {α β : Type} {a c : α} {b d : β} (h : some (a, b) = some (c, d)) : a = c ∧ b = d := by
  have := some_inj h
  injection this with h1 h2
  exact ⟨h1, h2⟩
theorem roomA_nx {h k : H} {te : TI} {r : Option (Nat × Nat)} {len lo : Nat} {c : Option Nat} {new : List A} {n : Nat} {a : A} (hs : roomA h te r len lo c new n = some (a, k)) : k.nx = h.nx := by
  unfold roomA at hs
  split at hs
  · rw [← (pair_inj hs).2]
  · split at hs
    · rw [← (pair_inj hs).2]
    · split at hs
      · rename_i k' hk
        rw [← (pair_inj hs).2]; exact storeC_nx hk
      · cases hs
theorem appendA_nx {h k : H} {e : TypeId} {te : TI} {r : Option (Nat × Nat)} {len lo : Nat} {c : Option Nat} {new : List A} {n : Nat} {a : A} (hs : appendA h e te r len lo c new n = some (a, k)) : Nx h k := by
  have hs' : cond (Nat.ble (Nat.add len n) lo) (roomA h te r len lo c new n) (growA h e te r len lo c new (Nat.add len n)) = some (a, k) := hs
  cases hb : Nat.ble (Nat.add len n) lo with
  | false => rw [hb] at hs'; exact .inr (growA_nx hs')
  | true => rw [hb] at hs'; exact .inl (roomA_nx hs')
section
variable {P : Program} {σ : Val} {h : H} {w : World}
theorem Free.one (hf : Free σ h.nx (h.nx + 1)) : ¬ σ.dom h.nx := hf _ (Nat.le_refl _) (Nat.lt_succ_self _)
theorem append_ok {ρ : Operand → Value} {env : Tr A} (he : EvalOk P σ env ρ) (r : Rel P.globals.size σ h w) {t u ty : TypeId} {x y : Operand} {a : A} {k : H} (hs : appendO (tabOf P) env h t u x y = some (a, k)) (hf : Free σ h.nx k.nx) :
    Does P σ h w (Builtin.append_ #[t, u] ty #[ρ x, ρ y]) a k ∧ Nx h k := by
  unfold appendO at hs
  split at hs
  · cases hs
  · rename_i e te hel
    obtain ⟨ht, hte⟩ := elemT_ok hel
    obtain ⟨i, hi, hsz, hby, hz⟩ := (t_ok hte).ex
    split at hs
    · cases hs
    · rename_i v hv
      split at hs
      · cases hs
      · rename_i new n ha
        split at hs
        · rename_i q len lo c hx
          obtain ⟨e1, o1⟩ := he x _ hx
          obtain ⟨e2, o2⟩ := he y _ hv
          obtain ⟨hA, hnew⟩ := addend_ok r hi hte ha o2
          refine ⟨?_, appendA_nx hs⟩
          rw [e1, e2]
          have hs' : cond (Nat.ble (Nat.add len n) lo) (roomA h te q len lo c new n) (growA h e te q len lo c new (Nat.add len n)) = some (a, k) := hs
          cases hb : Nat.ble (Nat.add len n) lo with
          | false =>
            rw [hb] at hs'
            have hlt : lo < len + n := nble hb
            have hn := growA_nx hs'
            exact (grow_ok r (by rw [hn] at hf; exact hf.one) ht hi hte o1 hA hnew hlt hs').1
          | true =>
            have hle : len + n ≤ lo := ble_le hb
            rw [hb, cond_true] at hs'
            unfold roomA at hs'
            split at hs'
            · obtain ⟨rfl, rfl⟩ := pair_inj hs'
              exact ⟨σ, w, app_none ht hi hA (by omega), .refl r, ⟨fun x hx => (by cases hx), o1.2⟩⟩
            · rename_i j o
              split at hs'
              · obtain ⟨rfl, rfl⟩ := pair_inj hs'
                exact ⟨σ, w, app_room ht hi hA (by omega) (by simp [A.dens, storeCells]), .refl r, o1⟩
              · split at hs'
                · rename_i k' hk'
                  obtain ⟨rfl, rfl⟩ := pair_inj hs'
                  obtain ⟨v', g1, g2, _⟩ := storeC_ok r hk' hnew
                  refine ⟨σ, v', app_room ht hi hA (by omega) ?_, g2, o1⟩
                  rw [ad_add, hsz]; exact g1
                · cases hs'
        · cases hs
theorem lenV_ok {v : A} {m : Nat} (hv : lenV v = some m) (w : World) : (Builtin.lenOf (v.den σ)).run P w = .ok m w := by
  unfold lenV at hv
  split at hv
  · obtain rfl := some_inj hv; rfl
  · obtain rfl := some_inj hv; rfl
  · cases hv
theorem putCells_ok (r : Rel P.globals.size σ h w) {q : Option (Nat × Nat)} {new : List A} {k : H} (hp : putCells h q new = some k) (hnew : A.oks σ.dom new) :
    ∃ v, (match q.map σ.ad with | some a => storeCells a (A.dens σ new) | none => pure () : Sem Unit).run P w = .ok () v ∧ Goes P.globals.size σ h w σ k v ∧ k.nx = h.nx := by
  unfold putCells at hp
  split at hp
  · obtain rfl := some_inj hp; exact ⟨w, rfl, .refl r, rfl⟩
  · split at hp
    · obtain rfl := some_inj hp; exact ⟨w, rfl, .refl r, rfl⟩
    · exact storeC_ok r hp hnew
theorem copy_ok {ρ : Operand → Value} {env : Tr A} (he : EvalOk P σ env ρ) (r : Rel P.globals.size σ h w) {t ty : TypeId} {ts : Array TypeId} (ht0 : ts[0]? = some t) {x y : Operand} {a : A} {k : H} (hs : copyO (tabOf P) env h t x y = some (a, k)) :
    Does P σ h w (Builtin.copy_ ts ty #[ρ x, ρ y]) a k ∧ Nx h k := by
  unfold copyO at hs
  split at hs
  · cases hs
  · rename_i e te hel
    obtain ⟨ht, hte⟩ := elemT_ok hel
    split at hs
    · cases hs
    · rename_i v hv
      split at hs
      · cases hs
      · rename_i m hm
        split at hs
        · rename_i q len lo c hx
          split at hs
          · cases hs
          · rename_i new hnew
            split at hs
            · rename_i k' hk
              obtain ⟨rfl, rfl⟩ := pair_inj hs
              obtain ⟨e1, o1⟩ := he x _ hx
              obtain ⟨e2, o2⟩ := he y _ hv
              obtain ⟨c1, c2⟩ := cellsOf_ok (P := P) r hnew
              obtain ⟨v', g1, g2, g3⟩ := putCells_ok (P := P) r hk c2
              refine ⟨⟨σ, v', ?_, g2, by simp [A.ok]⟩, .inl g3⟩
              have hmin : Nat.min m len = cond (Nat.ble m len) m len := by
                cases hb : Nat.ble m len with
                | true => exact Nat.min_eq_left (ble_le hb)
                | false => exact Nat.min_eq_right (Nat.le_of_lt (nble hb))
              have e3 : ((A.sl q len lo c).den σ) = .slice (q.map σ.ad) len (lo + σ.ex c) := rfl
              have l1 := lenV_ok (P := P) (σ := σ) hm
              rw [e1, e2, e3]
              unfold Builtin.copy_
              simp only [ht0, Array.getElem?_toList, List.getElem?_toArray, List.getElem?_cons_zero, List.getElem?_cons_succ, Sem.run_bind, run_underlying ht, Result.andThen_ok, l1, size_run hte, hmin, c1]
              cases q with
              | none =>
                have : (Result.ok () w : Result Unit) = .ok () v' := g1
                injection this with _ q2
                subst q2
                simp [A.den, goInt]
              | some q =>
                have g1' : (storeCells (σ.ad q) (A.dens σ new)).run P w = .ok () v' := g1
                simp [A.den, goInt, g1']
            · cases hs
        · cases hs
theorem zeroCells_den {z : List A} {v : Value} (hv : v.cells = ⟨A.dens σ z⟩) (n : Nat) : (Builtin.zeroCells v.cells n).toList = A.dens σ (repA z n) := by
  unfold Builtin.zeroCells
  rw [hv]
  by_cases h0 : (⟨A.dens σ z⟩ : Array Value).size = 0
  · have hz : A.dens σ z = [] := List.eq_nil_of_length_eq_zero (by simpa using h0)
    have h2 : z = [] := List.eq_nil_of_length_eq_zero (by have := dens_length (σ := σ) z; rw [hz] at this; simpa using this.symm)
    subst h2
    have : repA ([] : List A) n = [] := List.eq_nil_of_length_eq_zero (by rw [repA_length]; simp)
    rw [this]
    simp [A.dens]
  · rw [zeros_eq _ n h0, repA_dens]
theorem clear_ok {ρ : Operand → Value} {env : Tr A} (he : EvalOk P σ env ρ) (r : Rel P.globals.size σ h w) {t ty : TypeId} {ts : Array TypeId} (ht0 : ts[0]? = some t) {x : Operand} {a : A} {k : H} (hs : clearO (tabOf P) env h t x = some (a, k)) :
    Does P σ h w (Builtin.clear_ ts ty #[ρ x]) a k ∧ Nx h k := by
  unfold clearO at hs
  split at hs
  · cases hs
  · rename_i e te hel
    obtain ⟨ht, hte⟩ := elemT_ok hel
    split at hs
    · rename_i q n lo c hx
      split at hs
      · cases hs
      · rename_i z hz
        split at hs
        · rename_i k' hk
          obtain ⟨rfl, rfl⟩ := pair_inj hs
          obtain ⟨e1, o1⟩ := he x _ hx
          obtain ⟨i, hi, hsz, hby, hzz⟩ := (t_ok hte).ex
          obtain ⟨zv, hzv, hzd, hzo, _⟩ := hzz z hz
          have hvc : zv.cells = ⟨A.dens σ z⟩ := by apply Array.ext'; rw [← hzd σ]
          obtain ⟨v', g1, g2, g3⟩ := putCells_ok (P := P) r hk (repA_ok (hzo _) n)
          refine ⟨⟨σ, v', ?_, g2, by simp [A.ok, A.oks]⟩, .inl g3⟩
          have e3 : ((A.sl q n lo c).den σ) = .slice (q.map σ.ad) n (lo + σ.ex c) := rfl
          rw [e1, e3]
          unfold Builtin.clear_
          simp only [ht0, List.getElem?_toArray, List.getElem?_cons_zero, Sem.run_bind, run_underlying ht, Result.andThen_ok]
          cases q with
          | none =>
            have : (Result.ok () w : Result Unit) = .ok () v' := g1
            injection this with _ q2
            subst q2
            simp [A.den, A.dens]
          | some q =>
            have g1' : (storeCells (σ.ad q) (A.dens σ (repA z n))).run P w = .ok () v' := g1
            cases n with
            | zero =>
              have : (Result.ok () w : Result Unit) = .ok () v' := g1
              injection this with _ q2
              subst q2
              simp [A.den, A.dens]
            | succ n =>
              have hzr : ∀ w, (zeroValue e).run P w = .ok zv w := fun w => by simp [zeroValue, typeInfo, hi, hzv]
              simp [A.den, A.dens, hzr, zeroCells_den hvc, g1']
        · cases hs
    · cases hs
end
end Go.Proofs.YtibompboimeedaaGreatDoor.Ev
