/-
  The evaluator tells the truth: operations that do not ask of the heap, all of them.
-/
import Derived.Test.YtibompboimeedaaGreatDoorEvG
namespace Go.Proofs.YtibompboimeedaaGreatDoor.Ev
section
variable {P : Program} {σ : Val}
theorem oks_append {D : Nat → Prop} {a b : List A} (ha : A.oks D a) (hb : A.oks D b) : A.oks D (a ++ b) := by
  rw [oks_iff] at *
  intro x hx
  rcases List.mem_append.1 hx with h | h
  · exact ha x h
  · exact hb x h
theorem oks_sub {D : Nat → Prop} {a b : List A} (ha : A.oks D a) (h : ∀ x ∈ b, x ∈ a) : A.oks D b := by
  rw [oks_iff] at *
  exact fun x hx => ha x (h x hx)
theorem cells_den (a : A) : (a.den σ).cells = ⟨A.dens σ a.cells⟩ := by
  cases a <;> first | rfl | simp [A.den, Value.cells, A.cells, A.dens]
theorem cells_ok {D : Nat → Prop} {a : A} (h : a.ok D) : A.oks D a.cells := by
  cases a
  case agg l =>
    simp only [A.ok] at h
    exact h
  all_goals exact ⟨h, trivial⟩
theorem dens_length (l : List A) : (A.dens σ l).length = l.length := by rw [dens_eq]; simp
theorem foldl_set : ∀ (vs : List Value) (k off : Nat) (cs : Array Value), off + k + vs.length ≤ cs.size →
    (vs.zipIdx k).foldl (fun cs (x : Value × Nat) => cs.setIfInBounds (off + x.2) x.1) cs = (cs.toList.take (off + k) ++ vs ++ cs.toList.drop (off + k + vs.length)).toArray
  | [], k, off, cs, _ => by simp
  | v :: vs, k, off, cs, h => by
    simp only [List.length_cons] at h
    simp only [List.zipIdx_cons, List.foldl_cons]
    rw [foldl_set vs (k + 1) off (cs.setIfInBounds (off + k) v) (by simp; omega)]
    congr 1
    rw [← Nat.add_assoc, Array.toList_setIfInBounds, list_seg_step' cs.toList (off + k) v vs (by simp; omega)]
    simp [Nat.add_assoc, Nat.add_comm 1]
where
  list_seg_step' (l : List Value) (i : Nat) (v : Value) (vs : List Value) (h : i + 1 + vs.length ≤ l.length) :
      (l.set i v).take (i + 1) ++ vs ++ (l.set i v).drop (i + 1 + vs.length) = l.take i ++ v :: vs ++ l.drop (i + 1 + vs.length) := by
    have h1 : (l.set i v).take (i + 1) = l.take i ++ [v] := by
      rw [List.take_add_one]
      simp [List.take_set_of_le, (by omega : i < l.length)]
    have h2 : (l.set i v).drop (i + 1 + vs.length) = l.drop (i + 1 + vs.length) := List.drop_set_of_lt (by omega)
    rw [h1, h2]; simp
/-- Parts laid into cells, as the model lays them. -/
theorem fillA_ok {place place' : Nat → Option (Nat × Nat)} (hp : ∀ i x, place i = some x → place' i = some x) : ∀ {ps : List (Nat × A)} {cs r : List A}, fillA place cs ps = some r →
    Instr.fill place' ⟨A.dens σ cs⟩ (ps.map fun p => (p.1, p.2.den σ)) = some ⟨A.dens σ r⟩ ∧ (∀ D, A.oks D cs → (∀ p ∈ ps, p.2.ok D) → A.oks D r) ∧ r.length = cs.length ∧ (allOne cs = true → allOne r = true)
  | [], cs, r, h => by
    obtain rfl := some_inj h
    exact ⟨by simp [Instr.fill], fun D h _ => h, rfl, fun h => h⟩
  | (i, v) :: ps, cs, r, h => by
    simp only [fillA] at h
    cases hi : place i with
    | none => rw [hi] at h; cases h
    | some x =>
      obtain ⟨off, size⟩ := x
      rw [hi] at h
      obtain ⟨h1, h2⟩ := cond_some (b := v.cells.length.beq size && (off + size).ble cs.length && allOne v.cells) h
      obtain ⟨h3, hone⟩ := and_true h1
      obtain ⟨h4, h5⟩ := and_true h3
      have h4 := beq_e h4
      have h5 := ble_le h5
      obtain ⟨i1, i2, i3, i4⟩ := fillA_ok hp h2
      have hl : (cs.take off ++ v.cells ++ cs.drop (off + size)).length = cs.length := by simp; omega
      refine ⟨?_, fun D hc hv => ?_, by rw [i3, hl], fun hc => i4 ?_⟩
      · simp only [List.map_cons, Instr.fill, hp i _ hi, cells_den]
        have e1 : (⟨A.dens σ v.cells⟩ : Array Value).size = size := by simp [dens_length, h4]
        have e2 : (⟨A.dens σ cs⟩ : Array Value).size = cs.length := by simp [dens_length]
        rw [if_neg (by simp only [e1, e2, ne_eq, not_true, decide_false, Bool.false_or, decide_eq_true_eq]; simp; omega)]
        rw [← i1]
        congr 1
        have := foldl_set (A.dens σ v.cells) 0 off ⟨A.dens σ cs⟩ (by simp [dens_length]; omega)
        simp only [Nat.add_zero, dens_length] at this
        rw [← Array.foldl_toList, Array.toList_zipIdx, this, h4]
        simp [dens_eq]
      · refine i2 D (oks_append (oks_append (oks_sub hc fun x hx => List.mem_of_mem_take hx) (cells_ok (hv _ (List.mem_cons_self ..)))) (oks_sub hc fun x hx => List.mem_of_mem_drop hx)) fun p hpp => hv p (List.mem_cons_of_mem _ hpp)
      · have ta : ∀ (l : List A), allOne l = true ↔ ∀ a ∈ l, a.one = true := fun l => by
          induction l with
          | nil => simp [allOne]
          | cons a l ih => simp [allOne, ih]
        rw [ta] at hc hone ⊢
        intro a ha
        simp only [List.mem_append] at ha
        rcases ha with (ha | ha) | ha
        · exact hc a (List.mem_of_mem_take ha)
        · exact hone a ha
        · exact hc a (List.mem_of_mem_drop ha)
theorem fill_map {ρ : Operand → Value} {env : Tr A} (he : EvalOk P σ env ρ) {ps : Array (Nat × Operand)} {l : List (Nat × A)} (h : parts (tabOf P) env ps.toList = some l) :
    (ps.map fun (i, x) => (i, ρ x)).toList = l.map fun p => (p.1, p.2.den σ) := by
  rw [Array.toList_map]; exact (parts_ok he h).1
theorem places_ok : ∀ {fs : List Field} {pl : List (Nat × Nat)}, placesA (tabOf P) fs = some pl → fs.mapM (fun f => (P.info? f.type).map fun i => (f.offset, i.size)) = some pl
  | [], pl, h => by obtain rfl := some_inj h; rfl
  | f :: fs, pl, h => by
    simp only [placesA] at h
    split at h
    · rename_i tf htf
      split at h
      · rename_i r hr
        obtain rfl := some_inj h
        obtain ⟨i, hi, hs, _⟩ := (t_ok htf).ex
        simp [List.mapM_cons, hi, places_ok hr, hs]
      · cases h
    · cases h
theorem build_ok {t : TypeId} {ρ : Operand → Value} {env : Tr A} (he : EvalOk P σ env ρ) {ps : Array (Nat × Operand)} {r : A} (h : buildA (tabOf P) env t ps.toList = some r) :
    Tells P σ (Instr.build t (ps.map fun (i, x) => (i, ρ x))) r := by
  unfold buildA at h
  split at h
  · cases h
  · rename_i ti ht
    split at h
    · cases h
    · rename_i z hz
      split at h
      · cases h
      · rename_i l hl
        obtain ⟨it, hit, hs, hb, hzz⟩ := (t_ok ht).ex
        obtain ⟨v, hv, hzd, hzo, _⟩ := hzz z hz
        have hvc : v.cells = ⟨A.dens σ z⟩ := by
          apply Array.ext'; rw [← hzd σ]
        have hu := (t_ok ht).d
        have hpo := (parts_ok he hl).2
        have fin : ∀ {place place' : Nat → Option (Nat × Nat)} {r : A}, (∀ i x, place i = some x → place' i = some x) → (fillA place z l).map .agg = some r → P.built t (l.map fun p => (p.1, p.2.den σ)) = Instr.fill place' v.cells (l.map fun p => (p.1, p.2.den σ)) → Tells P σ (Instr.build t (ps.map fun (i, x) => (i, ρ x))) r := by
          intro place place' r hpp hf hbu
          cases hc : fillA place z l with
          | none => rw [hc] at hf; cases hf
          | some cs =>
            rw [hc] at hf
            obtain rfl := some_inj hf
            obtain ⟨f1, f2, _, _⟩ := fillA_ok (σ := σ) hpp hc
            refine ⟨fun w => ?_, by simp only [A.ok]; exact f2 _ (hzo _) hpo⟩
            rw [run_build w t _ ⟨A.dens σ cs⟩ (by rw [fill_map he hl, hbu, hvc, f1])]
            simp [A.den]
        split at h
        · rename_i fs hd
          split at h
          · rename_i pl hpl
            refine fin (place' := (pl.toArray[·]?)) (fun i x hi => by rw [nth_get] at hi; simpa using hi) h ?_
            unfold Program.built
            simp only [hit, hu, hd, hv, places_ok hpl]
          · cases h
        · rename_i n e hd
          split at h
          · rename_i te hte
            obtain ⟨ie, hie, hse, _⟩ := (t_ok hte).ex
            refine fin (place' := fun i => some (i * ie.size, ie.size)) (fun i x hi => by rw [hse]; exact hi) h ?_
            unfold Program.built
            simp only [hit, hu, hd, hv, hie]
          · cases h
        · cases h
theorem partA_ok {t : TypeId} {ti : TI} (ht : (tabOf P).t t = some ti) {l : List A} {off : Nat} {r : A} (h : partA ti l off = some r) (hl : A.oks σ.dom l) : Tells P σ (part t ⟨A.dens σ l⟩ off) r := by
  have h' : cond (isAggD ti.d) (some (.agg ((l.drop off).take ti.size))) (nth l off) = some r := h
  unfold part
  cases hb : isAggD ti.d with
  | true =>
    rw [hb] at h'
    obtain rfl := some_inj h'
    refine ⟨fun w => ?_, ?_⟩
    · simp only [Sem.run_bind, agg_run ht, hb, Result.andThen_ok, if_true, size_run ht, Sem.run_pure, A.den]
      congr 2
      apply Array.ext'
      rw [Array.toList_extract]
      simp [dens_eq, List.extract, List.map_drop, List.map_take]
    · simp only [A.ok]
      exact oks_sub hl fun x hx => List.mem_of_mem_drop (List.mem_of_mem_take hx)
  | false =>
    rw [hb] at h'
    have h'' : nth l off = some r := h'
    rw [nth_get] at h''
    refine ⟨fun w => ?_, oks_iff.1 hl r (List.mem_of_getElem? h'')⟩
    simp only [Sem.run_bind, agg_run ht, hb, Result.andThen_ok, Bool.false_eq_true, if_false]
    have : (⟨A.dens σ l⟩ : Array Value)[off]? = some (r.den σ) := by simp [dens_eq, h'']
    rw [this]; rfl
theorem fieldOf_ok {s f d : Nat} {tf : TI} (h : fieldOf (tabOf P) s f = some (d, tf)) : ∃ ti fs fd, (tabOf P).t s = some ti ∧ ti.d = .struct fs ∧ fs[f]? = some fd ∧ fd.offset = d ∧ (tabOf P).t fd.type = some tf := by
  unfold fieldOf at h
  split at h
  · cases h
  · rename_i ti ht
    split at h
    · rename_i fs hd
      split at h
      · rename_i fd hf
        split at h
        · rename_i tf' htf
          have := some_inj h
          injection this with h1 h2
          subst h1 h2
          rw [nth_get] at hf
          exact ⟨ti, fs, fd, ht, hd, by simpa using hf, rfl, htf⟩
        · cases h
      · cases h
    · cases h
section
variable {ρ : Operand → Value} {env : Tr A} (he : EvalOk P σ env ρ)
include he
theorem pick_ok {c a b : Operand} {r : A} (h : pickA (tabOf P) env c a b = some r) : Tells P σ (do pure (if ← asBool (ρ c) then ρ a else ρ b)) r := by
  unfold pickA at h
  split at h
  · rename_i x hc
    obtain ⟨h1, _⟩ := he c _ hc
    cases x with
    | true =>
      obtain ⟨h2, h3⟩ := he a r h
      exact ⟨fun w => by simp [h1, A.den, asBool, h2], h3⟩
    | false =>
      obtain ⟨h2, h3⟩ := he b r h
      exact ⟨fun w => by simp [h1, A.den, asBool, h2], h3⟩
  · cases h
theorem ixO_ok {ix : Operand} {i : Nat} (h : ixO (tabOf P) env ix = some i) : ∃ k, ρ ix = .int k (i : Int) := by
  unfold ixO at h
  split at h
  · rename_i k n hn
    split at h
    · obtain rfl := some_inj h
      exact ⟨k, (he ix _ hn).1⟩
    · cases h
  · cases h
theorem un_ok {op : UnOp} {x : Operand} {r : A} (h : unO (tabOf P) env op x = some r) : Tells P σ (Op.unary op (ρ x)) r := by
  unfold unO at h
  split at h
  · cases h
  · rename_i a ha
    obtain ⟨h1, h2⟩ := he x a ha
    rw [h1]
    unfold unA at h
    split at h
    · rename_i k n
      split at h
      · rename_i v hv
        obtain ⟨h3, h4, _⟩ := abs1_den (σ := σ) (D := σ.dom) h
        exact ⟨fun w => by rw [h3]; exact clo_run hv w, h4⟩
      · cases h
    · rename_i y
      split at h
      · obtain rfl := some_inj h
        exact ⟨fun w => by simp [A.den, Op.unary], by simp [A.ok]⟩
      · cases h
    · cases h
theorem bin_ok {op : BinOp} {t : TypeId} {x y : Operand} {r : A} (h : binO (tabOf P) env op t x y = some r) : Tells P σ (do eqGuard op t x y (ρ x) (ρ y); binOp op t (ρ x) (ρ y)) r := by
  unfold binO at h
  split at h
  · cases h
  · rename_i a ha
    split at h
    · cases h
    · rename_i b hb
      rw [(he x a ha).1, (he y b hb).1]
      obtain ⟨h1, h2⟩ := binA_ok (σ := σ) h
      exact ⟨fun w => by simp only [Sem.run_bind, guard_ok h w, Result.andThen_ok, h1 w], h2⟩
theorem conv_ok {s t : TypeId} {x : Operand} {r : A} (h : convO (tabOf P) env s t x = some r) : Tells P σ (convert s t (ρ x)) r := by
  unfold convO at h
  split at h
  · cases h
  · rename_i a ha
    split at h
    · cases h
    · rename_i si hs
      split at h
      · cases h
      · rename_i ti ht
        rw [(he x a ha).1]
        have us := (t_ok hs).d
        have ut := (t_ok ht).d
        unfold convA at h
        split at h
        · rename_i k n
          split at h
          · rename_i k' hd
            obtain rfl := some_inj h
            rw [hd] at ut
            refine ⟨fun w => ?_, by simp [A.ok]⟩
            simp only [convert, Sem.run_bind, run_underlying us, run_underlying ut, Result.andThen_ok, A.den, Conv.intToInt, wrapF_eq]
            cases si.d <;> rfl
          · rename_i hd
            obtain rfl := some_inj h
            rw [hd] at ut
            refine ⟨fun w => ?_, by simp [A.ok]⟩
            simp only [convert, Sem.run_bind, run_underlying us, run_underlying ut, Result.andThen_ok, A.den, Conv.intToString]
            cases si.d <;> rfl
          · cases h
        · rename_i l
          split at h
          · rename_i hd
            obtain rfl := some_inj h
            rw [hd] at ut
            refine ⟨fun w => ?_, by simp [A.ok]⟩
            simp only [convert, Sem.run_bind, run_underlying us, run_underlying ut, Result.andThen_ok, A.den]
            cases si.d <;> rfl
          · cases h
        · cases h
theorem fAddr_ok {s f : Nat} {x : Operand} {r : A} (h : fAddrA (tabOf P) env s x f = some r) : Tells P σ (Instr.fieldAt s (ρ x) f) r := by
  unfold fAddrA at h
  split at h
  · rename_i r0 hx
    split at h
    · rename_i j o
      split at h
      · rename_i d tf hf
        have h' : cond (Nat.beq tf.size 0) none (some (A.p (some (j, Nat.add o d)))) = some r := h
        cases hb : Nat.beq tf.size 0 with
        | true => rw [hb] at h'; cases h'
        | false =>
          rw [hb] at h'
          obtain rfl := some_inj h'
          obtain ⟨ti, fs, fd, ht, hd, hfd, hoff, htf⟩ := fieldOf_ok hf
          obtain ⟨h1, h2⟩ := he x _ hx
          refine ⟨fun w => ?_, h2⟩
          have := beq_n hb
          simp only [Instr.fieldAt, Sem.run_bind, und_run ht, hd, Result.andThen_ok, hfd, h1, A.den, Option.map_some, Instr.sureAddr, Sem.run_pure, fieldPlace, size_run htf, if_neg this, hoff, ad_add]
          rfl
      · cases h
    · cases h
  · cases h
theorem field_ok {s f : Nat} {x : Operand} {r : A} (h : fieldA (tabOf P) env s x f = some r) : Tells P σ (Instr.field s (ρ x) f) r := by
  unfold fieldA at h
  split at h
  · rename_i l hx
    split at h
    · rename_i d tf hf
      obtain ⟨ti, fs, fd, ht, hd, hfd, hoff, htf⟩ := fieldOf_ok hf
      obtain ⟨h1, h2⟩ := he x _ hx
      obtain ⟨h3, h4⟩ := partA_ok htf h (by simpa only [A.ok] using h2)
      refine ⟨fun w => ?_, h4⟩
      simp only [Instr.field, Sem.run_bind, und_run ht, hd, Result.andThen_ok, hfd, h1, A.den, asAgg, Sem.run_pure, hoff, h3]
    · cases h
  · cases h
theorem iAddr_ok {t : TypeId} {x ix : Operand} {r : A} (h : iAddrA (tabOf P) env t x ix = some r) : Tells P σ (Instr.indexAt t (ρ x) (ρ ix)) r := by
  have core : ∀ {e n j o i : Nat} {r : A}, eAddr (tabOf P) e n j o i = some r → ∃ te, (tabOf P).t e = some te ∧ i < n ∧ r = .p (some (j, o + i * te.size)) := by
    intro e n j o i r h
    unfold eAddr at h
    split at h
    · rename_i te hte
      obtain ⟨h1, h2⟩ := cond_some h
      exact ⟨te, hte, blt_lt h1, (some_inj h2).symm⟩
    · cases h
  unfold iAddrA at h
  split at h
  · cases h
  · rename_i ti ht
    split at h
    · cases h
    · rename_i i hi
      obtain ⟨k, hk⟩ := ixO_ok he hi
      split at h
      · rename_i r0 hx
        obtain ⟨h1, h2⟩ := he x _ hx
        split at h
        · rename_i n e j o hd
          obtain ⟨te, hte, hlt, rfl⟩ := core h
          refine ⟨fun w => ?_, h2⟩
          have hb : (0 : Int) ≤ (i : Int) ∧ (i : Int) < (n : Int) := by omega
          simp only [Instr.indexAt, hk, asIntOf, Sem.run_bind, Sem.run_pure, Result.andThen_ok, und_run ht, hd, h1, A.den, Option.map_some, Instr.sureAddr, if_pos hb, size_run hte, Int.toNat_natCast, ad_add]
        · cases h
      · rename_i r0 n lo c hx
        obtain ⟨h1, h2⟩ := he x _ hx
        split at h
        · rename_i e j o hd
          obtain ⟨te, hte, hlt, rfl⟩ := core h
          simp only [A.ok] at h2
          refine ⟨fun w => ?_, h2.1 (j, o) rfl⟩
          have hb : (0 : Int) ≤ (i : Int) ∧ (i : Int) < (n : Int) := by omega
          simp only [Instr.indexAt, hk, asIntOf, Sem.run_bind, Sem.run_pure, Result.andThen_ok, und_run ht, hd, h1, A.den, Option.map_some, Instr.sureAddr, if_pos hb, size_run hte, Int.toNat_natCast, ad_add]
        · cases h
      · cases h
theorem index_ok {t : TypeId} {x ix : Operand} {r : A} (h : indexA (tabOf P) env t x ix = some r) : Tells P σ (Instr.index t (ρ x) (ρ ix)) r := by
  unfold indexA at h
  split at h
  · cases h
  · rename_i ti ht
    split at h
    · cases h
    · rename_i i hi
      obtain ⟨k, hk⟩ := ixO_ok he hi
      split at h
      · rename_i l hx
        obtain ⟨h1, h2⟩ := he x _ hx
        split at h
        · rename_i hd
          split at h
          · rename_i b hb
            obtain rfl := some_inj h
            rw [nth_get] at hb
            refine ⟨fun w => ?_, by simp [A.ok]⟩
            have hg : (⟨⟨l⟩⟩ : ByteArray)[i]? = some b := by
              obtain ⟨h3, h4⟩ := List.getElem?_eq_some_iff.1 hb
              rw [getElem?_pos (⟨⟨l⟩⟩ : ByteArray) i h3]
              exact congrArg some h4
            simp only [Instr.index, hk, asIntOf, Sem.run_bind, Sem.run_pure, Result.andThen_ok, und_run ht, hd, h1, A.den, Int.natCast_nonneg, if_true, Int.toNat_natCast, hg]
          · cases h
        · cases h
      · rename_i l hx
        obtain ⟨h1, h2⟩ := he x _ hx
        split at h
        · rename_i n e hd
          split at h
          · rename_i te hte
            obtain ⟨h3, h4⟩ := cond_some h
            have hlt := blt_lt h3
            have hb : (0 : Int) ≤ (i : Int) ∧ (i : Int) < (n : Int) := by omega
            obtain ⟨h5, h6⟩ := partA_ok hte h4 (by simpa only [A.ok] using h2)
            refine ⟨fun w => ?_, h6⟩
            simp only [Instr.index, hk, asIntOf, Sem.run_bind, Sem.run_pure, Result.andThen_ok, und_run ht, hd, h1, A.den, if_pos hb, size_run hte, Int.toNat_natCast]
            exact h5 w
          · cases h
        · cases h
      · cases h
theorem extr_ok {x : Operand} {ix : Nat} {r : A} (h : extrA (tabOf P) env x ix = some r) : Tells P σ (Instr.extract (ρ x) ix) r := by
  unfold extrA at h
  split at h
  · rename_i l hx
    obtain ⟨h1, h2⟩ := he x _ hx
    rw [nth_get] at h
    refine ⟨fun w => ?_, oks_iff.1 (by simpa only [A.ok] using h2) r (List.mem_of_getElem? h)⟩
    have : (⟨A.dens σ l⟩ : Array Value)[ix]? = some (r.den σ) := by simp [dens_eq, h]
    simp only [Instr.extract, h1, A.den, this]
    rfl
  · cases h
theorem mkFn_ok {f : Fn} {fs cs : Array Operand} {r : A} (h : mkFn (tabOf P) env f fs.toList cs.toList = some r) : Tells P σ (Instr.makeFunc f (fs.map ρ) (cs.map ρ)) r := by
  unfold mkFn at h
  split at h
  · split at h
    · rename_i a ha
      split at h
      · rename_i b hb
        obtain rfl := some_inj h
        obtain ⟨h1, h2⟩ := opds_ok he ha
        obtain ⟨h3, h4⟩ := opds_ok he hb
        refine ⟨fun w => ?_, h2, h4⟩
        have e1 : fs.map ρ = ⟨A.dens σ a⟩ := by apply Array.ext'; simpa using h1
        have e2 : cs.map ρ = ⟨A.dens σ b⟩ := by apply Array.ext'; simpa using h3
        simp [Instr.makeFunc, e1, e2, A.den]
      · cases h
    · cases h
  · cases h
theorem slice_ok {t : TypeId} {x : Operand} {lo hi mx : Option Operand} {r : A} (h : sliceO (tabOf P) env t x lo hi mx = some r) : Tells P σ (Instr.sliceAt t (ρ x) (lo.map ρ) (hi.map ρ) (mx.map ρ)) r := by
  have om : ∀ {o : Option Operand} {y : Option A}, opdO (tabOf P) env o = some y → o.map ρ = y.map (A.den σ) := by
    intro o y h
    cases o with
    | none => obtain rfl := some_inj h; rfl
    | some o =>
      have h' : (opd (tabOf P) env o).map some = some y := h
      cases ho : opd (tabOf P) env o with
      | none => rw [ho] at h'; cases h'
      | some a => rw [ho] at h'; obtain rfl := some_inj h'; simp [(he o a ho).1]
  unfold sliceO at h
  split at h
  · rename_i a l u m h1 h2 h3 h4
    rw [(he x a h1).1, om h2, om h3, om h4]
    exact sliceA_ok h (he x a h1).2
  · cases h
theorem nil_ok {x : Operand} {r : A} {o : Oper} (ho : o.op = .nilCheck x) (h : nilA (tabOf P) env x = some r) : (∀ w, (execOp ρ o).run P w = .ok (.value (r.den σ)) w) ∧ r.ok σ.dom := by
  unfold nilA at h
  split at h
  · rename_i a ha
    obtain ⟨h1, h2⟩ := cond_some h
    obtain rfl := some_inj h2
    obtain ⟨h3, h4⟩ := he x a ha
    refine ⟨fun w => ?_, h4⟩
    unfold execOp
    rw [ho]
    simp only [h3]
    cases a <;> first | (cases h1; done) | skip
    case p r => cases r with
      | none => cases h1
      | some r => rfl
    case fn => rfl
    case yl => rfl
  · cases h
theorem len_ok {t : TypeId} {x : Operand} {r : A} {ts : Array TypeId} {ty : TypeId} {xs : Array Operand} (ht0 : ts[0]? = some t) (hx0 : xs[0]? = some x) (h : lenA (tabOf P) env t x = some r) : Tells P σ (Builtin.len_ ts ty (xs.map ρ)) r := by
  unfold lenA at h
  split at h
  · cases h
  · rename_i ti ht
    split at h
    · cases h
    · rename_i a ha
      obtain ⟨h1, h2⟩ := he x a ha
      have e : (xs.map ρ)[0]? = some (a.den σ) := by simp [hx0, h1]
      split at h
      · rename_i hd
        split at h
        · rename_i l
          obtain rfl := some_inj h
          refine ⟨fun w => ?_, by simp [A.ok]⟩
          simp only [Builtin.len_, ht0, e, Sem.run_bind, und_run ht, hd, Result.andThen_ok, A.den]; rfl
        · cases h
      · rename_i n e' hd
        obtain rfl := some_inj h
        refine ⟨fun w => ?_, by simp [A.ok]⟩
        simp only [Builtin.len_, ht0, e, Sem.run_bind, und_run ht, hd, Result.andThen_ok, A.den]
        cases a <;> rfl
      · rename_i e' hd
        split at h
        · rename_i r0 n lo c
          obtain rfl := some_inj h
          refine ⟨fun w => ?_, by simp [A.ok]⟩
          simp only [Builtin.len_, ht0, e, Sem.run_bind, und_run ht, hd, Result.andThen_ok, A.den]; rfl
        · cases h
      · cases h
theorem cap_ok {t : TypeId} {x : Operand} {r : A} {ts : Array TypeId} {ty : TypeId} {xs : Array Operand} (ht0 : ts[0]? = some t) (hx0 : xs[0]? = some x) (h : capA (tabOf P) env t x = some r) : Tells P σ (Builtin.cap_ ts ty (xs.map ρ)) r := by
  unfold capA at h
  split at h
  · cases h
  · rename_i ti ht
    split at h
    · rename_i r0 n c ha
      obtain ⟨h1, h2⟩ := he x _ ha
      have e : (xs.map ρ)[0]? = some ((A.sl r0 n c none).den σ) := by simp [hx0, h1]
      split at h
      · rename_i e' hd
        obtain rfl := some_inj h
        refine ⟨fun w => ?_, by simp [A.ok]⟩
        simp only [Builtin.cap_, ht0, e, Sem.run_bind, und_run ht, hd, Result.andThen_ok, A.den]; rfl
      · cases h
    · cases h
theorem mm_ok {mx : Bool} {x y : Operand} {r : A} {ts : Array TypeId} {ty : TypeId} (h : mmA (tabOf P) env mx x y = some r) : Tells P σ (cond mx (Builtin.max_ ts ty #[ρ x, ρ y]) (Builtin.min_ ts ty #[ρ x, ρ y])) r := by
  unfold mmA at h
  split at h
  · rename_i k a ha
    split at h
    · rename_i l b hb
      obtain rfl := some_inj h
      rw [(he x _ ha).1, (he y _ hb).1]
      refine ⟨fun w => ?_, by simp [A.ok]⟩
      cases mx with
      | true =>
        show Sem.run P (Builtin.max_ ts ty #[.int k a, .int l b]) w = .ok (.int k (cond (ltI a b) b a)) w
        rw [run_max_int2, ltI_eq]
        by_cases hab : a < b
        · rw [if_pos (show b > a from hab), decide_eq_true hab]; rfl
        · rw [if_neg (show ¬ b > a from hab), decide_eq_false hab]; rfl
      | false =>
        show Sem.run P (Builtin.min_ ts ty #[.int k a, .int l b]) w = .ok (.int k (cond (ltI b a) b a)) w
        rw [run_min_int2, ltI_eq]
        by_cases hab : b < a
        · rw [if_pos hab, decide_eq_true hab]; rfl
        · rw [if_neg hab, decide_eq_false hab]; rfl
    · cases h
  · cases h
/-- A builtin that does not ask of the heap. -/
theorem bi_ok {b : Builtin} {ts : Array TypeId} {ty : TypeId} {cs : Array Bool} {xs : Array Operand} {r : A} (h : biA (tabOf P) env b ts.toList xs.toList = some r) :
    (∀ w, (builtin b ts ty cs (xs.map ρ)).run P w = .ok (.value (r.den σ)) w) ∧ r.ok σ.dom := by
  have two : ∀ {x y : Operand}, xs.toList = [x, y] → xs.map ρ = #[ρ x, ρ y] := fun h => by
    apply Array.ext'; rw [Array.toList_map, h]; rfl
  unfold biA at h
  split at h
  · split at h
    · rename_i t _ x _ e1 e2
      have f1 : ts[0]? = some t := by rw [← Array.getElem?_toList, e1]; rfl
      have f2 : xs[0]? = some x := by rw [← Array.getElem?_toList, e2]; rfl
      obtain ⟨h1, h2⟩ := len_ok (σ := σ) (ty := ty) he f1 f2 h
      exact ⟨fun w => by simp only [builtin, Sem.run_bind, h1 w, Result.andThen_ok, Sem.run_pure], h2⟩
    · cases h
  · split at h
    · rename_i t _ x _ e1 e2
      have f1 : ts[0]? = some t := by rw [← Array.getElem?_toList, e1]; rfl
      have f2 : xs[0]? = some x := by rw [← Array.getElem?_toList, e2]; rfl
      obtain ⟨h1, h2⟩ := cap_ok (σ := σ) (ty := ty) he f1 f2 h
      exact ⟨fun w => by simp only [builtin, Sem.run_bind, h1 w, Result.andThen_ok, Sem.run_pure], h2⟩
    · cases h
  · split at h
    · rename_i x y e2
      obtain ⟨h1, h2⟩ := mm_ok (σ := σ) (mx := false) (ts := ts) (ty := ty) he h
      refine ⟨fun w => ?_, h2⟩
      rw [two e2]
      simp only [cond_false] at h1
      simp only [builtin, Sem.run_bind, h1 w, Result.andThen_ok, Sem.run_pure]
    · cases h
  · split at h
    · rename_i x y e2
      obtain ⟨h1, h2⟩ := mm_ok (σ := σ) (mx := true) (ts := ts) (ty := ty) he h
      refine ⟨fun w => ?_, h2⟩
      rw [two e2]
      simp only [cond_true] at h1
      simp only [builtin, Sem.run_bind, h1 w, Result.andThen_ok, Sem.run_pure]
    · cases h
  · cases h
/-- Operations that do not ask of the heap. -/
theorem pure_ok {o : Oper} {r : A} (h : pureA o.op (tabOf P) env = some r) : (∀ w, (execOp ρ o).run P w = .ok (.value (r.den σ)) w) ∧ r.ok σ.dom := by
  obtain ⟨dst, op, type, pos, after, guard⟩ := o
  have v : ∀ {s : Sem Value}, Tells P σ s r → (∀ w, (do pure (Next.value (← s)) : Sem Next).run P w = .ok (.value (r.den σ)) w) ∧ r.ok σ.dom :=
    fun t => ⟨fun w => by simp only [Sem.run_bind, t.1 w, Result.andThen_ok, Sem.run_pure], t.2⟩
  cases op
  case move x => obtain ⟨h1, h2⟩ := he x r h; exact ⟨fun w => by simp only [execOp, h1]; rfl, h2⟩
  case assign x => obtain ⟨h1, h2⟩ := he x r h; exact ⟨fun w => by simp only [execOp, h1]; rfl, h2⟩
  case pick c a b =>
    obtain ⟨h1, h2⟩ := pick_ok (σ := σ) he h
    refine ⟨fun w => ?_, h2⟩
    have := h1 w
    simp only [Sem.run_bind, execOp] at this ⊢
    cases hc : (asBool (ρ c)).run P w with
    | ok x w' =>
      rw [hc] at this
      simp only [Result.andThen_ok, Sem.run_pure] at this ⊢
      injection this with e1 e2
      rw [e1, e2]
    | halt x w' => rw [hc] at this; cases this
  case build t ps => exact v (build_ok he h)
  case nilCheck x => exact nil_ok he rfl h
  case binOp op t x y u => exact v (bin_ok he h)
  case unOp op t x => exact v (un_ok he h)
  case convert s t x => exact v (conv_ok he h)
  case slice t x lo hi mx => exact v (slice_ok he h)
  case fieldAddr s x f => exact v (fAddr_ok he h)
  case field s x f => exact v (field_ok he h)
  case indexAddr t x ix => exact v (iAddr_ok he h)
  case index t x ix => exact v (index_ok he h)
  case extract x ix => exact v (extr_ok he h)
  case makeFunc f fs cs => exact v (mkFn_ok he h)
  case call c =>
    have h' : biC (tabOf P) env c = some r := h
    unfold biC at h'
    split at h'
    · rename_i b hb
      obtain ⟨h1, h2⟩ := bi_ok (σ := σ) (ty := type) (cs := c.args.map fun | .const _ => true | _ => false) he h'
      refine ⟨fun w => ?_, h2⟩
      simp only [execOp, resolve, hb, Sem.run_bind, Sem.run_pure, Result.andThen_ok, invoke]
      exact h1 w
    · cases h'
  all_goals cases h
end
end
end Go.Proofs.YtibompboimeedaaGreatDoor.Ev
