/-
  The evaluator tells the truth: operations that do not ask of the heap, all of them. The evaluator tells the truth: reads, new blocks, stores.
-/
import Derived.Test.YteemnmalikomgaaGreatDoorQNaEv2
import Derived.Laws.Cells
import Derived.Lib.FrozenHead
namespace Go.Proofs.YteemnmalikomgaaGreatDoor.Ev
section
variable {P : Program} {σ : Val}
theorem oks_append {D : Nat → Prop} {a b : List A} (ha : A.oks D a) (hb : A.oks D b) : A.oks D (a ++ b) := by
 rw [oks_iff] at *
 intro x hx
 rcases List.mem_append.1 hx with h | h
 ·exact ha x h
 ·exact hb x h
theorem oks_sub {D : Nat → Prop} {a b : List A} (ha : A.oks D a) (h : ∀ x ∈ b, x ∈ a) : A.oks D b := by
 rw [oks_iff] at *
 exact fun x hx => ha x (h x hx)
theorem cells_den (a : A) : (a.den σ).cells = ⟨A.dens σ a.cells⟩ := by
 cases a <;> first | rfl | simp [A.den, Value.cells, A.cells, A.dens]
theorem cells_ok {D : Nat → Prop} {a : A} (h : a.ok D) : A.oks D a.cells := by
 cases a
 case agg l =>
  simp only [A.ok] at h
  exact h
 all_goals exact ⟨h, trivial⟩
theorem dens_length (l : List A) : (A.dens σ l).length = l.length := by rw [dens_eq]; simp
theorem foldl_set : ∀ (vs : List Value) (k off : Nat) (cs : Array Value), off + k + vs.length ≤ cs.size →
  (vs.zipIdx k).foldl (fun cs (x : Value × Nat) => cs.setIfInBounds (off + x.2) x.1) cs = (cs.toList.take (off + k) ++ vs ++ cs.toList.drop (off + k + vs.length)).toArray
 | [], k, off, cs, _ => by simp
 | v :: vs, k, off, cs, h => by
  simp only [List.length_cons] at h
  simp only [List.zipIdx_cons, List.foldl_cons]
  rw [foldl_set vs (k + 1) off (cs.setIfInBounds (off + k) v) (by simp; omega)]
  congr 1
  rw [← Nat.add_assoc, Array.toList_setIfInBounds, list_seg_step' cs.toList (off + k) v vs (by simp; omega)]
  simp [Nat.add_assoc, Nat.add_comm 1]
where
 list_seg_step' (l : List Value) (i : Nat) (v : Value) (vs : List Value) (h : i + 1 + vs.length ≤ l.length) :
   (l.set i v).take (i + 1) ++ vs ++ (l.set i v).drop (i + 1 + vs.length) = l.take i ++ v :: vs ++ l.drop (i + 1 + vs.length) := by
  have h1 : (l.set i v).take (i + 1) = l.take i ++ [v] := by
   rw [List.take_add_one]
   simp [List.take_set_of_le, (by omega : i < l.length)]
  have h2 : (l.set i v).drop (i + 1 + vs.length) = l.drop (i + 1 + vs.length) := List.drop_set_of_lt (by omega)
  rw [h1, h2]; simp
theorem fillA_ok {place place' : Nat → Option (Nat × Nat)} (hp : ∀ i x, place i = some x → place' i = some x) : ∀ {ps : List (Nat × A)} {cs r : List A}, fillA place cs ps = some r →
  Instr.fill place' ⟨A.dens σ cs⟩ (ps.map fun p => (p.1, p.2.den σ)) = some ⟨A.dens σ r⟩ ∧ (∀ D, A.oks D cs → (∀ p ∈ ps, p.2.ok D) → A.oks D r) ∧ r.length = cs.length ∧ (allOne cs = true → allOne r = true)
 | [], cs, r, h => by
  obtain rfl := some_inj h
  exact ⟨by simp [Instr.fill], fun D h _ => h, rfl, fun h => h⟩
 | (i, v) :: ps, cs, r, h => by
  simp only [fillA] at h
  cases hi : place i with
  | none => rw [hi] at h; cases h
  | some x =>
   obtain ⟨off, size⟩ := x
   rw [hi] at h
   obtain ⟨h1, h2⟩ := cond_some (b := v.cells.length.beq size && (off + size).ble cs.length && allOne v.cells) h
   obtain ⟨h3, hone⟩ := and_true h1
   obtain ⟨h4, h5⟩ := and_true h3
   have h4 := beq_e h4
   have h5 := ble_le h5
   obtain ⟨i1, i2, i3, i4⟩ := fillA_ok hp h2
   have hl : (cs.take off ++ v.cells ++ cs.drop (off + size)).length = cs.length := by simp; omega
   refine ⟨?_, fun D hc hv => ?_, by rw [i3, hl], fun hc => i4 ?_⟩
   ·simp only [List.map_cons, Instr.fill, hp i _ hi, cells_den]
    have e1 : (⟨A.dens σ v.cells⟩ : Array Value).size = size := by simp [dens_length, h4]
    have e2 : (⟨A.dens σ cs⟩ : Array Value).size = cs.length := by simp [dens_length]
    rw [if_neg (by simp only [e1, e2, ne_eq, not_true, decide_false, Bool.false_or, decide_eq_true_eq]; simp; omega)]
    rw [← i1]
    congr 1
    have := foldl_set (A.dens σ v.cells) 0 off ⟨A.dens σ cs⟩ (by simp [dens_length]; omega)
    simp only [Nat.add_zero, dens_length] at this
    rw [← Array.foldl_toList, Array.toList_zipIdx, this, h4]
    simp [dens_eq]
   ·refine i2 D (oks_append (oks_append (oks_sub hc fun x hx => List.mem_of_mem_take hx) (cells_ok (hv _ (List.mem_cons_self ..)))) (oks_sub hc fun x hx => List.mem_of_mem_drop hx)) fun p hpp => hv p (List.mem_cons_of_mem _ hpp)
   ·have ta : ∀ (l : List A), allOne l = true ↔ ∀ a ∈ l, a.one = true := fun l => by
     induction l with
     | nil => simp [allOne]
     | cons a l ih => simp [allOne, ih]
    rw [ta] at hc hone ⊢
    intro a ha
    simp only [List.mem_append] at ha
    rcases ha with (ha | ha) | ha
    ·exact hc a (List.mem_of_mem_take ha)
    ·exact hone a ha
    ·exact hc a (List.mem_of_mem_drop ha)
theorem fill_map {ρ : Operand → Value} {env : Tr A} (he : EvalOk P σ env ρ) {ps : Array (Nat × Operand)} {l : List (Nat × A)} (h : parts (tabOf P) env ps.toList = some l) :
  (ps.map fun (i, x) => (i, ρ x)).toList = l.map fun p => (p.1, p.2.den σ) := by
 rw [Array.toList_map]; exact (parts_ok he h).1
theorem places_ok : ∀ {fs : List Field} {pl : List (Nat × Nat)}, placesA (tabOf P) fs = some pl → fs.mapM (fun f => (P.info? f.type).map fun i => (f.offset, i.size)) = some pl
 | [], pl, h => by obtain rfl := some_inj h; rfl
 | f :: fs, pl, h => by
  simp only [placesA] at h
  split at h
  ·rename_i tf htf
   split at h
   ·rename_i r hr
    obtain rfl := some_inj h
    obtain ⟨i, hi, hs, _⟩ := (t_ok htf).ex
    simp [List.mapM_cons, hi, places_ok hr, hs]
   ·cases h
  ·cases h
theorem build_ok {t : TypeId} {ρ : Operand → Value} {env : Tr A} (he : EvalOk P σ env ρ) {ps : Array (Nat × Operand)} {r : A} (h : buildA (tabOf P) env t ps.toList = some r) :
  Tells P σ (Instr.build t (ps.map fun (i, x) => (i, ρ x))) r := by
 unfold buildA at h
 split at h
 ·cases h
 ·rename_i ti ht
  split at h
  ·cases h
  ·rename_i z hz
   split at h
   ·cases h
   ·rename_i l hl
    obtain ⟨it, hit, hs, hb, hzz⟩ := (t_ok ht).ex
    obtain ⟨v, hv, hzd, hzo, _⟩ := hzz z hz
    have hvc : v.cells = ⟨A.dens σ z⟩ := by
     apply Array.ext'; rw [← hzd σ]
    have hu := (t_ok ht).d
    have hpo := (parts_ok he hl).2
    have fin : ∀ {place place' : Nat → Option (Nat × Nat)} {r : A}, (∀ i x, place i = some x → place' i = some x) → (fillA place z l).map .agg = some r → P.built t (l.map fun p => (p.1, p.2.den σ)) = Instr.fill place' v.cells (l.map fun p => (p.1, p.2.den σ)) → Tells P σ (Instr.build t (ps.map fun (i, x) => (i, ρ x))) r := by
     intro place place' r hpp hf hbu
     cases hc : fillA place z l with
     | none => rw [hc] at hf; cases hf
     | some cs =>
      rw [hc] at hf
      obtain rfl := some_inj hf
      obtain ⟨f1, f2, _, _⟩ := fillA_ok (σ := σ) hpp hc
      refine ⟨fun w => ?_, by simp only [A.ok]; exact f2 _ (hzo _) hpo⟩
      rw [run_build w t _ ⟨A.dens σ cs⟩ (by rw [fill_map he hl, hbu, hvc, f1])]
      simp [A.den]
    split at h
    ·rename_i fs hd
     split at h
     ·rename_i pl hpl
      refine fin (place' := (pl.toArray[·]?)) (fun i x hi => by rw [nth_get] at hi; simpa using hi) h ?_
      unfold Program.built
      simp only [hit, hu, hd, hv, places_ok hpl]
     ·cases h
    ·rename_i n e hd
     split at h
     ·rename_i te hte
      obtain ⟨ie, hie, hse, _⟩ := (t_ok hte).ex
      refine fin (place' := fun i => some (i * ie.size, ie.size)) (fun i x hi => by rw [hse]; exact hi) h ?_
      unfold Program.built
      simp only [hit, hu, hd, hv, hie]
     ·cases h
    ·cases h
theorem partA_ok {t : TypeId} {ti : TI} (ht : (tabOf P).t t = some ti) {l : List A} {off : Nat} {r : A} (h : partA ti l off = some r) (hl : A.oks σ.dom l) : Tells P σ (part t ⟨A.dens σ l⟩ off) r := by
 have h' : cond (isAggD ti.d) (some (.agg ((l.drop off).take ti.size))) (nth l off) = some r := h
 unfold part
 cases hb : isAggD ti.d with
 | true =>
  rw [hb] at h'
  obtain rfl := some_inj h'
  refine ⟨fun w => ?_, ?_⟩
  ·simp only [Sem.run_bind, agg_run ht, hb, Result.andThen_ok, if_true, size_run ht, Sem.run_pure, A.den]
   congr 2
   apply Array.ext'
   rw [Array.toList_extract]
   simp [dens_eq, List.extract, List.map_drop, List.map_take]
  ·simp only [A.ok]
   exact oks_sub hl fun x hx => List.mem_of_mem_drop (List.mem_of_mem_take hx)
 | false =>
  rw [hb] at h'
  have h'' : nth l off = some r := h'
  rw [nth_get] at h''
  refine ⟨fun w => ?_, oks_iff.1 hl r (List.mem_of_getElem? h'')⟩
  simp only [Sem.run_bind, agg_run ht, hb, Result.andThen_ok, Bool.false_eq_true, if_false]
  have : (⟨A.dens σ l⟩ : Array Value)[off]? = some (r.den σ) := by simp [dens_eq, h'']
  rw [this]; rfl
theorem fieldOf_ok {s f d : Nat} {tf : TI} (h : fieldOf (tabOf P) s f = some (d, tf)) : ∃ ti fs fd, (tabOf P).t s = some ti ∧ ti.d = .struct fs ∧ fs[f]? = some fd ∧ fd.offset = d ∧ (tabOf P).t fd.type = some tf := by
 unfold fieldOf at h
 split at h
 ·cases h
 ·rename_i ti ht
  split at h
  ·rename_i fs hd
   split at h
   ·rename_i fd hf
    split at h
    ·rename_i tf' htf
     have := some_inj h
     injection this with h1 h2
     subst h1 h2
     rw [nth_get] at hf
     exact ⟨ti, fs, fd, ht, hd, by simpa using hf, rfl, htf⟩
    ·cases h
   ·cases h
  ·cases h
section
variable {ρ : Operand → Value} {env : Tr A} (he : EvalOk P σ env ρ)
include he
theorem pick_ok {c a b : Operand} {r : A} (h : pickA (tabOf P) env c a b = some r) : Tells P σ (do pure (if ← asBool (ρ c) then ρ a else ρ b)) r := by
 unfold pickA at h
 split at h
 ·rename_i x hc
  obtain ⟨h1, _⟩ := he c _ hc
  cases x with
  | true =>
   obtain ⟨h2, h3⟩ := he a r h
   exact ⟨fun w => by simp [h1, A.den, asBool, h2], h3⟩
  | false =>
   obtain ⟨h2, h3⟩ := he b r h
   exact ⟨fun w => by simp [h1, A.den, asBool, h2], h3⟩
 ·cases h
theorem ixO_ok {ix : Operand} {i : Nat} (h : ixO (tabOf P) env ix = some i) : ∃ k, ρ ix = .int k (i : Int) := by
 unfold ixO at h
 split at h
 ·rename_i k n hn
  split at h
  ·obtain rfl := some_inj h
   exact ⟨k, (he ix _ hn).1⟩
  ·cases h
 ·cases h
theorem un_ok {op : UnOp} {x : Operand} {r : A} (h : unO (tabOf P) env op x = some r) : Tells P σ (Op.unary op (ρ x)) r := by
 unfold unO at h
 split at h
 ·cases h
 ·rename_i a ha
  obtain ⟨h1, h2⟩ := he x a ha
  rw [h1]
  unfold unA at h
  split at h
  ·rename_i k n
   split at h
   ·rename_i v hv
    obtain ⟨h3, h4, _⟩ := abs1_den (σ := σ) (D := σ.dom) h
    exact ⟨fun w => by rw [h3]; exact clo_run hv w, h4⟩
   ·cases h
  ·rename_i y
   split at h
   ·obtain rfl := some_inj h
    exact ⟨fun w => by simp [A.den, Op.unary], by simp [A.ok]⟩
   ·cases h
  ·cases h
theorem bin_ok {op : BinOp} {t : TypeId} {x y : Operand} {r : A} (h : binO (tabOf P) env op t x y = some r) : Tells P σ (do eqGuard op t x y (ρ x) (ρ y); binOp op t (ρ x) (ρ y)) r := by
 unfold binO at h
 split at h
 ·cases h
 ·rename_i a ha
  split at h
  ·cases h
  ·rename_i b hb
   rw [(he x a ha).1, (he y b hb).1]
   obtain ⟨h1, h2⟩ := binA_ok (σ := σ) h
   exact ⟨fun w => by simp only [Sem.run_bind, guard_ok h w, Result.andThen_ok, h1 w], h2⟩
theorem conv_ok {s t : TypeId} {x : Operand} {r : A} (h : convO (tabOf P) env s t x = some r) : Tells P σ (convert s t (ρ x)) r := by
 unfold convO at h
 split at h
 ·cases h
 ·rename_i a ha
  split at h
  ·cases h
  ·rename_i si hs
   split at h
   ·cases h
   ·rename_i ti ht
    rw [(he x a ha).1]
    have us := (t_ok hs).d
    have ut := (t_ok ht).d
    unfold convA at h
    split at h
    ·rename_i k n
     split at h
     ·rename_i k' hd
      obtain rfl := some_inj h
      rw [hd] at ut
      refine ⟨fun w => ?_, by simp [A.ok]⟩
      simp only [convert, Sem.run_bind, run_underlying us, run_underlying ut, Result.andThen_ok, A.den, Conv.intToInt, wrapF_eq]
      cases si.d <;> rfl
     ·rename_i hd
      obtain rfl := some_inj h
      rw [hd] at ut
      refine ⟨fun w => ?_, by simp [A.ok]⟩
      simp only [convert, Sem.run_bind, run_underlying us, run_underlying ut, Result.andThen_ok, A.den, Conv.intToString]
      cases si.d <;> rfl
     ·cases h
    ·rename_i l
     split at h
     ·rename_i hd
      obtain rfl := some_inj h
      rw [hd] at ut
      refine ⟨fun w => ?_, by simp [A.ok]⟩
      simp only [convert, Sem.run_bind, run_underlying us, run_underlying ut, Result.andThen_ok, A.den]
      cases si.d <;> rfl
     ·cases h
    ·cases h
theorem fAddr_ok {s f : Nat} {x : Operand} {r : A} (h : fAddrA (tabOf P) env s x f = some r) : Tells P σ (Instr.fieldAt s (ρ x) f) r := by
 unfold fAddrA at h
 split at h
 ·rename_i r0 hx
  split at h
  ·rename_i j o
   split at h
   ·rename_i d tf hf
    have h' : cond (Nat.beq tf.size 0) none (some (A.p (some (j, Nat.add o d)))) = some r := h
    cases hb : Nat.beq tf.size 0 with
    | true => rw [hb] at h'; cases h'
    | false =>
     rw [hb] at h'
     obtain rfl := some_inj h'
     obtain ⟨ti, fs, fd, ht, hd, hfd, hoff, htf⟩ := fieldOf_ok hf
     obtain ⟨h1, h2⟩ := he x _ hx
     refine ⟨fun w => ?_, h2⟩
     have := beq_n hb
     simp only [Instr.fieldAt, Sem.run_bind, und_run ht, hd, Result.andThen_ok, hfd, h1, A.den, Option.map_some, Instr.sureAddr, Sem.run_pure, fieldPlace, size_run htf, if_neg this, hoff, ad_add]
     rfl
   ·cases h
  ·cases h
 ·cases h
theorem field_ok {s f : Nat} {x : Operand} {r : A} (h : fieldA (tabOf P) env s x f = some r) : Tells P σ (Instr.field s (ρ x) f) r := by
 unfold fieldA at h
 split at h
 ·rename_i l hx
  split at h
  ·rename_i d tf hf
   obtain ⟨ti, fs, fd, ht, hd, hfd, hoff, htf⟩ := fieldOf_ok hf
   obtain ⟨h1, h2⟩ := he x _ hx
   obtain ⟨h3, h4⟩ := partA_ok htf h (by simpa only [A.ok] using h2)
   refine ⟨fun w => ?_, h4⟩
   simp only [Instr.field, Sem.run_bind, und_run ht, hd, Result.andThen_ok, hfd, h1, A.den, asAgg, Sem.run_pure, hoff, h3]
  ·cases h
 ·cases h
theorem iAddr_ok {t : TypeId} {x ix : Operand} {r : A} (h : iAddrA (tabOf P) env t x ix = some r) : Tells P σ (Instr.indexAt t (ρ x) (ρ ix)) r := by
 have core : ∀ {e n j o i : Nat} {r : A}, eAddr (tabOf P) e n j o i = some r → ∃ te, (tabOf P).t e = some te ∧ i < n ∧ r = .p (some (j, o + i * te.size)) := by
  intro e n j o i r h
  unfold eAddr at h
  split at h
  ·rename_i te hte
   obtain ⟨h1, h2⟩ := cond_some h
   exact ⟨te, hte, blt_lt h1, (some_inj h2).symm⟩
  ·cases h
 unfold iAddrA at h
 split at h
 ·cases h
 ·rename_i ti ht
  split at h
  ·cases h
  ·rename_i i hi
   obtain ⟨k, hk⟩ := ixO_ok he hi
   split at h
   ·rename_i r0 hx
    obtain ⟨h1, h2⟩ := he x _ hx
    split at h
    ·rename_i n e j o hd
     obtain ⟨te, hte, hlt, rfl⟩ := core h
     refine ⟨fun w => ?_, h2⟩
     have hb : (0 : Int) ≤ (i : Int) ∧ (i : Int) < (n : Int) := by omega
     simp only [Instr.indexAt, hk, asIntOf, Sem.run_bind, Sem.run_pure, Result.andThen_ok, und_run ht, hd, h1, A.den, Option.map_some, Instr.sureAddr, if_pos hb, size_run hte, Int.toNat_natCast, ad_add]
    ·cases h
   ·rename_i r0 n lo c hx
    obtain ⟨h1, h2⟩ := he x _ hx
    split at h
    ·rename_i e j o hd
     obtain ⟨te, hte, hlt, rfl⟩ := core h
     simp only [A.ok] at h2
     refine ⟨fun w => ?_, h2.1 (j, o) rfl⟩
     have hb : (0 : Int) ≤ (i : Int) ∧ (i : Int) < (n : Int) := by omega
     simp only [Instr.indexAt, hk, asIntOf, Sem.run_bind, Sem.run_pure, Result.andThen_ok, und_run ht, hd, h1, A.den, Option.map_some, Instr.sureAddr, if_pos hb, size_run hte, Int.toNat_natCast, ad_add]
    ·cases h
   ·cases h
theorem index_ok {t : TypeId} {x ix : Operand} {r : A} (h : indexA (tabOf P) env t x ix = some r) : Tells P σ (Instr.index t (ρ x) (ρ ix)) r := by
 unfold indexA at h
 split at h
 ·cases h
 ·rename_i ti ht
  split at h
  ·cases h
  ·rename_i i hi
   obtain ⟨k, hk⟩ := ixO_ok he hi
   split at h
   ·rename_i l hx
    obtain ⟨h1, h2⟩ := he x _ hx
    split at h
    ·rename_i hd
     split at h
     ·rename_i b hb
      obtain rfl := some_inj h
      rw [nth_get] at hb
      refine ⟨fun w => ?_, by simp [A.ok]⟩
      have hg : (⟨⟨l⟩⟩ : ByteArray)[i]? = some b := by
       obtain ⟨h3, h4⟩ := List.getElem?_eq_some_iff.1 hb
       rw [getElem?_pos (⟨⟨l⟩⟩ : ByteArray) i h3]
       exact congrArg some h4
      simp only [Instr.index, hk, asIntOf, Sem.run_bind, Sem.run_pure, Result.andThen_ok, und_run ht, hd, h1, A.den, Int.natCast_nonneg, if_true, Int.toNat_natCast, hg]
     ·cases h
    ·cases h
   ·rename_i l hx
    obtain ⟨h1, h2⟩ := he x _ hx
    split at h
    ·rename_i n e hd
     split at h
     ·rename_i te hte
      obtain ⟨h3, h4⟩ := cond_some h
      have hlt := blt_lt h3
      have hb : (0 : Int) ≤ (i : Int) ∧ (i : Int) < (n : Int) := by omega
      obtain ⟨h5, h6⟩ := partA_ok hte h4 (by simpa only [A.ok] using h2)
      refine ⟨fun w => ?_, h6⟩
      simp only [Instr.index, hk, asIntOf, Sem.run_bind, Sem.run_pure, Result.andThen_ok, und_run ht, hd, h1, A.den, if_pos hb, size_run hte, Int.toNat_natCast]
      exact h5 w
     ·cases h
    ·cases h
   ·cases h
theorem extr_ok {x : Operand} {ix : Nat} {r : A} (h : extrA (tabOf P) env x ix = some r) : Tells P σ (Instr.extract (ρ x) ix) r := by
 unfold extrA at h
 split at h
 ·rename_i l hx
  obtain ⟨h1, h2⟩ := he x _ hx
  rw [nth_get] at h
  refine ⟨fun w => ?_, oks_iff.1 (by simpa only [A.ok] using h2) r (List.mem_of_getElem? h)⟩
  have : (⟨A.dens σ l⟩ : Array Value)[ix]? = some (r.den σ) := by simp [dens_eq, h]
  simp only [Instr.extract, h1, A.den, this]
  rfl
 ·cases h
theorem mkFn_ok {f : Fn} {fs cs : Array Operand} {r : A} (h : mkFn (tabOf P) env f fs.toList cs.toList = some r) : Tells P σ (Instr.makeFunc f (fs.map ρ) (cs.map ρ)) r := by
 unfold mkFn at h
 split at h
 ·split at h
  ·rename_i a ha
   split at h
   ·rename_i b hb
    obtain rfl := some_inj h
    obtain ⟨h1, h2⟩ := opds_ok he ha
    obtain ⟨h3, h4⟩ := opds_ok he hb
    refine ⟨fun w => ?_, h2, h4⟩
    have e1 : fs.map ρ = ⟨A.dens σ a⟩ := by apply Array.ext'; simpa using h1
    have e2 : cs.map ρ = ⟨A.dens σ b⟩ := by apply Array.ext'; simpa using h3
    simp [Instr.makeFunc, e1, e2, A.den]
   ·cases h
  ·cases h
 ·cases h
theorem slice_ok {t : TypeId} {x : Operand} {lo hi mx : Option Operand} {r : A} (h : sliceO (tabOf P) env t x lo hi mx = some r) : Tells P σ (Instr.sliceAt t (ρ x) (lo.map ρ) (hi.map ρ) (mx.map ρ)) r := by
 have om : ∀ {o : Option Operand} {y : Option A}, opdO (tabOf P) env o = some y → o.map ρ = y.map (A.den σ) := by
  intro o y h
  cases o with
  | none => obtain rfl := some_inj h; rfl
  | some o =>
   have h' : (opd (tabOf P) env o).map some = some y := h
   cases ho : opd (tabOf P) env o with
   | none => rw [ho] at h'; cases h'
   | some a => rw [ho] at h'; obtain rfl := some_inj h'; simp [(he o a ho).1]
 unfold sliceO at h
 split at h
 ·rename_i a l u m h1 h2 h3 h4
  rw [(he x a h1).1, om h2, om h3, om h4]
  exact sliceA_ok h (he x a h1).2
 ·cases h
theorem nil_ok {x : Operand} {r : A} {o : Oper} (ho : o.op = .nilCheck x) (h : nilA (tabOf P) env x = some r) : (∀ w, (execOp ρ o).run P w = .ok (.value (r.den σ)) w) ∧ r.ok σ.dom := by
 unfold nilA at h
 split at h
 ·rename_i a ha
  obtain ⟨h1, h2⟩ := cond_some h
  obtain rfl := some_inj h2
  obtain ⟨h3, h4⟩ := he x a ha
  refine ⟨fun w => ?_, h4⟩
  unfold execOp
  rw [ho]
  simp only [h3]
  cases a <;> first | (cases h1; done) | skip
  case p r => cases r with
   | none => cases h1
   | some r => rfl
  case fn => rfl
  case yl => rfl
 ·cases h
theorem len_ok {t : TypeId} {x : Operand} {r : A} {ts : Array TypeId} {ty : TypeId} {xs : Array Operand} (ht0 : ts[0]? = some t) (hx0 : xs[0]? = some x) (h : lenA (tabOf P) env t x = some r) : Tells P σ (Builtin.len_ ts ty (xs.map ρ)) r := by
 unfold lenA at h
 split at h
 ·cases h
 ·rename_i ti ht
  split at h
  ·cases h
  ·rename_i a ha
   obtain ⟨h1, h2⟩ := he x a ha
   have e : (xs.map ρ)[0]? = some (a.den σ) := by simp [hx0, h1]
   split at h
   ·rename_i hd
    split at h
    ·rename_i l
     obtain rfl := some_inj h
     refine ⟨fun w => ?_, by simp [A.ok]⟩
     simp only [Builtin.len_, ht0, e, Sem.run_bind, und_run ht, hd, Result.andThen_ok, A.den]; rfl
    ·cases h
   ·rename_i n e' hd
    obtain rfl := some_inj h
    refine ⟨fun w => ?_, by simp [A.ok]⟩
    simp only [Builtin.len_, ht0, e, Sem.run_bind, und_run ht, hd, Result.andThen_ok, A.den]
    cases a <;> rfl
   ·rename_i e' hd
    split at h
    ·rename_i r0 n lo c
     obtain rfl := some_inj h
     refine ⟨fun w => ?_, by simp [A.ok]⟩
     simp only [Builtin.len_, ht0, e, Sem.run_bind, und_run ht, hd, Result.andThen_ok, A.den]; rfl
    ·cases h
   ·cases h
theorem cap_ok {t : TypeId} {x : Operand} {r : A} {ts : Array TypeId} {ty : TypeId} {xs : Array Operand} (ht0 : ts[0]? = some t) (hx0 : xs[0]? = some x) (h : capA (tabOf P) env t x = some r) : Tells P σ (Builtin.cap_ ts ty (xs.map ρ)) r := by
 unfold capA at h
 split at h
 ·cases h
 ·rename_i ti ht
  split at h
  ·rename_i r0 n c ha
   obtain ⟨h1, h2⟩ := he x _ ha
   have e : (xs.map ρ)[0]? = some ((A.sl r0 n c none).den σ) := by simp [hx0, h1]
   split at h
   ·rename_i e' hd
    obtain rfl := some_inj h
    refine ⟨fun w => ?_, by simp [A.ok]⟩
    simp only [Builtin.cap_, ht0, e, Sem.run_bind, und_run ht, hd, Result.andThen_ok, A.den]; rfl
   ·cases h
  ·cases h
theorem mm_ok {mx : Bool} {x y : Operand} {r : A} {ts : Array TypeId} {ty : TypeId} (h : mmA (tabOf P) env mx x y = some r) : Tells P σ (cond mx (Builtin.max_ ts ty #[ρ x, ρ y]) (Builtin.min_ ts ty #[ρ x, ρ y])) r := by
 unfold mmA at h
 split at h
 ·rename_i k a ha
  split at h
  ·rename_i l b hb
   obtain rfl := some_inj h
   rw [(he x _ ha).1, (he y _ hb).1]
   refine ⟨fun w => ?_, by simp [A.ok]⟩
   cases mx with
   | true =>
    show Sem.run P (Builtin.max_ ts ty #[.int k a, .int l b]) w = .ok (.int k (cond (ltI a b) b a)) w
    rw [run_max_int2, ltI_eq]
    by_cases hab : a < b
    ·rw [if_pos (show b > a from hab), decide_eq_true hab]; rfl
    ·rw [if_neg (show ¬ b > a from hab), decide_eq_false hab]; rfl
   | false =>
    show Sem.run P (Builtin.min_ ts ty #[.int k a, .int l b]) w = .ok (.int k (cond (ltI b a) b a)) w
    rw [run_min_int2, ltI_eq]
    by_cases hab : b < a
    ·rw [if_pos hab, decide_eq_true hab]; rfl
    ·rw [if_neg hab, decide_eq_false hab]; rfl
  ·cases h
 ·cases h
theorem bi_ok {b : Builtin} {ts : Array TypeId} {ty : TypeId} {cs : Array Bool} {xs : Array Operand} {r : A} (h : biA (tabOf P) env b ts.toList xs.toList = some r) :
  (∀ w, (builtin b ts ty cs (xs.map ρ)).run P w = .ok (.value (r.den σ)) w) ∧ r.ok σ.dom := by
 have two : ∀ {x y : Operand}, xs.toList = [x, y] → xs.map ρ = #[ρ x, ρ y] := fun h => by
  apply Array.ext'; rw [Array.toList_map, h]; rfl
 unfold biA at h
 split at h
 ·split at h
  ·rename_i t _ x _ e1 e2
   have f1 : ts[0]? = some t := by rw [← Array.getElem?_toList, e1]; rfl
   have f2 : xs[0]? = some x := by rw [← Array.getElem?_toList, e2]; rfl
   obtain ⟨h1, h2⟩ := len_ok (σ := σ) (ty := ty) he f1 f2 h
   exact ⟨fun w => by simp only [builtin, Sem.run_bind, h1 w, Result.andThen_ok, Sem.run_pure], h2⟩
  ·cases h
 ·split at h
  ·rename_i t _ x _ e1 e2
   have f1 : ts[0]? = some t := by rw [← Array.getElem?_toList, e1]; rfl
   have f2 : xs[0]? = some x := by rw [← Array.getElem?_toList, e2]; rfl
   obtain ⟨h1, h2⟩ := cap_ok (σ := σ) (ty := ty) he f1 f2 h
   exact ⟨fun w => by simp only [builtin, Sem.run_bind, h1 w, Result.andThen_ok, Sem.run_pure], h2⟩
  ·cases h
 ·split at h
  ·rename_i x y e2
   obtain ⟨h1, h2⟩ := mm_ok (σ := σ) (mx := false) (ts := ts) (ty := ty) he h
   refine ⟨fun w => ?_, h2⟩
   rw [two e2]
   simp only [cond_false] at h1
   simp only [builtin, Sem.run_bind, h1 w, Result.andThen_ok, Sem.run_pure]
  ·cases h
 ·split at h
  ·rename_i x y e2
   obtain ⟨h1, h2⟩ := mm_ok (σ := σ) (mx := true) (ts := ts) (ty := ty) he h
   refine ⟨fun w => ?_, h2⟩
   rw [two e2]
   simp only [cond_true] at h1
   simp only [builtin, Sem.run_bind, h1 w, Result.andThen_ok, Sem.run_pure]
  ·cases h
 ·cases h
theorem pure_ok {o : Oper} {r : A} (h : pureA o.op (tabOf P) env = some r) : (∀ w, (execOp ρ o).run P w = .ok (.value (r.den σ)) w) ∧ r.ok σ.dom := by
 obtain ⟨dst, op, type, pos, after, guard⟩ := o
 have v : ∀ {s : Sem Value}, Tells P σ s r → (∀ w, (do pure (Next.value (← s)) : Sem Next).run P w = .ok (.value (r.den σ)) w) ∧ r.ok σ.dom :=
  fun t => ⟨fun w => by simp only [Sem.run_bind, t.1 w, Result.andThen_ok, Sem.run_pure], t.2⟩
 cases op
 case move x => obtain ⟨h1, h2⟩ := he x r h; exact ⟨fun w => by simp only [execOp, h1]; rfl, h2⟩
 case assign x => obtain ⟨h1, h2⟩ := he x r h; exact ⟨fun w => by simp only [execOp, h1]; rfl, h2⟩
 case pick c a b =>
  obtain ⟨h1, h2⟩ := pick_ok (σ := σ) he h
  refine ⟨fun w => ?_, h2⟩
  have := h1 w
  simp only [Sem.run_bind, execOp] at this ⊢
  cases hc : (asBool (ρ c)).run P w with
  | ok x w' =>
   rw [hc] at this
   simp only [Result.andThen_ok, Sem.run_pure] at this ⊢
   injection this with e1 e2
   rw [e1, e2]
  | halt x w' => rw [hc] at this; cases this
 case build t ps => exact v (build_ok he h)
 case nilCheck x => exact nil_ok he rfl h
 case binOp op t x y u => exact v (bin_ok he h)
 case unOp op t x => exact v (un_ok he h)
 case convert s t x => exact v (conv_ok he h)
 case slice t x lo hi mx => exact v (slice_ok he h)
 case fieldAddr s x f => exact v (fAddr_ok he h)
 case field s x f => exact v (field_ok he h)
 case indexAddr t x ix => exact v (iAddr_ok he h)
 case index t x ix => exact v (index_ok he h)
 case extract x ix => exact v (extr_ok he h)
 case makeFunc f fs cs => exact v (mkFn_ok he h)
 case call c =>
  have h' : biC (tabOf P) env c = some r := h
  unfold biC at h'
  split at h'
  ·rename_i b hb
   obtain ⟨h1, h2⟩ := bi_ok (σ := σ) (ty := type) (cs := c.args.map fun | .const _ => true | _ => false) he h'
   refine ⟨fun w => ?_, h2⟩
   simp only [execOp, resolve, hb, Sem.run_bind, Sem.run_pure, Result.andThen_ok, invoke]
   exact h1 w
  ·cases h'
 all_goals cases h
end
end
end Go.Proofs.YteemnmalikomgaaGreatDoor.Ev
namespace Go.Proofs.YteemnmalikomgaaGreatDoor.Ev
section
variable {P : Program} {σ : Val} {h : H} {w : World}
def Does (P : Program) (σ : Val) (h : H) (w : World) (s : Sem Value) (a : A) (k : H) : Prop :=
 ∃ τ v, s.run P w = .ok (a.den τ) v ∧ Goes P.globals.size σ h w τ k v ∧ a.ok τ.dom
theorem Tells.does {s : Sem Value} {a : A} (t : Tells P σ s a) (r : Rel P.globals.size σ h w) : Does P σ h w s a h := ⟨σ, w, t.1 w, .refl r, t.2⟩
theorem cell_at {j : Nat} {e : TypeId} {t : Tr A} {E : Nat} {c : Option (Nat × Nat)} {wr : Bool} (b : BlkAt σ w j (.cells e t E c wr)) {k : Nat} {a : A} (ha : t.get k = some a) :
  w.cell? (σ.ad (j, k)) = some (a.den σ) ∧ a.ok σ.dom := by
 obtain ⟨cs, lo, hi, h1, h2, h3, _⟩ := b
 obtain ⟨h4, h5⟩ := h3 k a ha
 exact ⟨by simp [World.cell?, Val.ad, h1, h4], h5⟩
theorem rd_get : ∀ {n o : Nat} {t : Tr A} {l : List A}, rd t o n = some l → l.length = n ∧ ∀ j a, l[j]? = some a → t.get (o + j) = some a
 | 0, o, t, l, h => by obtain rfl := some_inj h; simp
 | n + 1, o, t, l, h => by
  simp only [rd] at h
  split at h
  ·rename_i a ha
   split at h
   ·rename_i r hr
    obtain rfl := some_inj h
    obtain ⟨h1, h2⟩ := rd_get hr
    refine ⟨by simp [h1], fun j x hx => ?_⟩
    cases j with
    | zero => simp at hx; subst hx; exact ha
    | succ j => simp at hx; have := h2 j x hx; rwa [Nat.add_assoc, Nat.add_comm 1 j] at this
   ·cases h
  ·cases h
theorem rd_ok {j : Nat} {e : TypeId} {t : Tr A} {E : Nat} {c : Option (Nat × Nat)} {wr : Bool} (b : BlkAt σ w j (.cells e t E c wr)) {o n : Nat} {l : List A} (hl : rd t o n = some l) :
  (loadCells (σ.ad (j, o)) n).run P w = .ok ⟨A.dens σ l⟩ w ∧ A.oks σ.dom l := by
 obtain ⟨h1, h2⟩ := rd_get hl
 refine ⟨?_, oks_iff.2 fun a ha => ?_⟩
 ·have := run_loadCells_list (P := P) w (σ.ad (j, o)) (A.dens σ l) (fun i v hv => by
   rw [dens_eq, List.getElem?_map, Option.map_eq_some_iff] at hv
   obtain ⟨a, ha, rfl⟩ := hv
   rw [ad_add]
   exact (cell_at b (h2 i a ha)).1)
  rw [dens_length, h1] at this
  exact this
 ·obtain ⟨i, hi⟩ := List.mem_iff_getElem?.1 ha
  exact (cell_at b (h2 i a hi)).2
theorem load_ok (r : Rel P.globals.size σ h w) {t : TypeId} {p a : A} (hl : loadA (tabOf P) h t p = some a) : (Instr.loadAt t (p.den σ)).run P w = .ok (a.den σ) w ∧ a.ok σ.dom := by
 unfold loadA at hl
 split at hl
 ·rename_i r0
  split at hl
  ·rename_i j o
   split at hl
   ·rename_i e tr E c wr hj
    split at hl
    ·rename_i ti ht
     have b := r.at_ j _ hj
     have hl' : cond (isAggD ti.d) ((rd tr o ti.size).map .agg) (tr.get o) = some a := hl
     cases hb : isAggD ti.d with
     | true =>
      rw [hb] at hl'
      cases hr : rd tr o ti.size with
      | none => rw [hr] at hl'; cases hl'
      | some l =>
       rw [hr] at hl'
       obtain rfl := some_inj hl'
       obtain ⟨h1, h2⟩ := rd_ok (P := P) b hr
       refine ⟨?_, by simp only [A.ok]; exact h2⟩
       simp only [Instr.loadAt, A.den, Option.map_some, Instr.sureAddr, Sem.run_bind, Sem.run_pure, Result.andThen_ok, loadVar, agg_run ht, hb, if_true, size_run ht, h1]
     | false =>
      rw [hb] at hl'
      obtain ⟨h1, h2⟩ := cell_at b hl'
      refine ⟨?_, h2⟩
      simp only [Instr.loadAt, A.den, Option.map_some, Instr.sureAddr, Sem.run_bind, Sem.run_pure, Result.andThen_ok, loadVar, agg_run ht, hb, Bool.false_eq_true, if_false, run_load, h1]
    ·cases hl
   ·cases hl
  ·cases hl
 ·cases hl
theorem ofL_get {l : List A} {k : Nat} {a : A} (h : (Tr.ofL .lf 0 l).get k = some a) : l[k]? = some a := by
 rw [Tr.get_ofL] at h
 split at h
 ·simpa using h
 ·cases h
theorem one_cell {a : A} (h : a.one = true) : (a.den σ).oneCell' = true := by
 cases a <;> first | rfl | cases h
theorem allOne_iff : ∀ {l : List A}, allOne l = true ↔ ∀ a ∈ l, a.one = true
 | [] => by simp [allOne]
 | a :: l => by simp [allOne, allOne_iff (l := l)]
theorem one_cells {l : List A} (h : allOne l = true) : ∀ v ∈ A.dens σ l, v.oneCell' = true := by
 intro v hv
 rw [dens_eq] at hv
 obtain ⟨a, ha, rfl⟩ := List.mem_map.1 hv
 exact one_cell (allOne_iff.1 h a ha)
theorem new_cells (r : Rel P.globals.size σ h w) (hf : ¬ σ.dom h.nx) (e : TypeId) (l : List A) (hl : A.oks σ.dom l) {n : Nat} (hn : n = l.length) :
  Goes P.globals.size σ h w (σ.with h.nx w.heap.size 0 0) (h.new (.cells e (Tr.ofL .lf 0 l) n none true)) { w with heap := w.heap.push (.cells ⟨A.dens σ l⟩ e (0, 0)) } := by
 subst hn
 have s := Val.with_same σ h.nx w.heap.size 0 0 hf
 refine Goes.new r _ _ 0 hf ⟨⟨A.dens σ l⟩, 0, 0, ?_, ?_, fun k a ha => ?_, (fun x hx => by cases hx), (fun _ => rfl), fun _ _ => ⟨by simp [dens_length], with_off ..⟩⟩
 ·rw [with_blk]; simp
 ·rw [with_off]; simp [Val.room, dens_length]
 ·have h1 := ofL_get ha
  have h2 := oks_iff.1 hl a (List.mem_of_getElem? h1)
  exact ⟨by rw [with_off, s.den h2]; simp [dens_eq, h1], h2.mono s.dom⟩
theorem ad_new (σ : Val) (j B c : Nat) : (σ.with j B 0 c).ad (j, 0) = ⟨B, 0, none⟩ := by simp [Val.ad, with_blk, with_off]
theorem alloc_ok (r : Rel P.globals.size σ h w) (hf : ¬ σ.dom h.nx) {e : TypeId} {a : A} {b : Blk} (ha : allocA (tabOf P) h.nx e = some (a, b)) : Does P σ h w (Instr.alloc e true (.tuple #[])) a (h.new b) := by
 unfold allocA at ha
 split at ha
 ·cases ha
 ·rename_i ti ht
  split at ha
  ·cases ha
  ·rename_i z hz
   have := some_inj ha
   injection this with h1 h2
   subst h1 h2
   obtain ⟨i, hi, _, _, hzz⟩ := (t_ok ht).ex
   obtain ⟨v, hv, hzd, hzo, _⟩ := hzz z hz
   have hvc : v.cells = ⟨A.dens σ z⟩ := by apply Array.ext'; rw [← hzd σ]
   refine ⟨_, _, ?_, new_cells r hf e z (hzo _) rfl, with_dom ..⟩
   simp [Instr.alloc, zeroValue, typeInfo, hi, hv, newVar, newRow, hvc, A.den, ad_new]
theorem box_ok {ρ : Operand → Value} {env : Tr A} (he : EvalOk P σ env ρ) (r : Rel P.globals.size σ h w) (hf : ¬ σ.dom h.nx) {e : TypeId} {x : Operand} {a : A} {b : Blk} (ha : boxA (tabOf P) env h.nx e x = some (a, b)) :
  Does P σ h w (Instr.box e (ρ x)) a (h.new b) := by
 unfold boxA at ha
 split at ha
 ·cases ha
 ·rename_i y hy
  obtain ⟨h0, h1⟩ := cond_some ha
  have := some_inj h1
  injection this with h1 h2
  subst h1 h2
  obtain ⟨h3, h4⟩ := he x y hy
  refine ⟨_, _, ?_, new_cells r hf e y.cells (cells_ok h4) rfl, with_dom ..⟩
  simp [Instr.box, newVar, newRow, h3, cells_den, A.den, ad_new]
theorem elemT_ok {t e : TypeId} {te : TI} (h : elemT (tabOf P) t = some (e, te)) : P.underlying t = some (.slice e) ∧ (tabOf P).t e = some te := by
 unfold elemT at h
 split at h
 ·cases h
 ·rename_i ti ht
  split at h
  ·rename_i e' hd
   split at h
   ·rename_i te' hte
    have := some_inj h
    injection this with h1 h2
    subst h1 h2
    exact ⟨by rw [(t_ok ht).d, hd], hte⟩
   ·cases h
  ·cases h
theorem repA_dens (z : List A) : ∀ n, A.dens σ (repA z n) = (List.replicate n (A.dens σ z)).flatten
 | 0 => rfl
 | n + 1 => by
  have := repA_dens z n
  rw [dens_eq] at this
  rw [dens_eq]
  simp only [repA, List.map_append, List.replicate_succ, List.flatten_cons]
  rw [this, dens_eq]
theorem repA_ok {D : Nat → Prop} {z : List A} (hz : A.oks D z) : ∀ n, A.oks D (repA z n)
 | 0 => trivial
 | n + 1 => oks_append hz (repA_ok hz n)
theorem repA_length (z : List A) : ∀ n, (repA z n).length = n * z.length
 | 0 => by simp [repA]
 | n + 1 => by simp [repA, repA_length z n, Nat.add_mul, Nat.add_comm]
theorem zeros_eq (z : Array Value) (n : Nat) (hz : z.size ≠ 0) : (Array.range (n * z.size)).map (z[· % z.size]!) = ⟨(List.replicate n z.toList).flatten⟩ := by
 apply Array.ext
 ·simp
 ·intro i h1 h2
  simp at h1
  simp only [Array.getElem_map, Array.getElem_range, List.getElem_toArray]
  have key : ∀ (n i : Nat) (h : i < n * z.size), (List.replicate n z.toList).flatten[i]? = z[i % z.size]? := by
   intro n
   induction n with
   | zero => intro i h; simp at h
   | succ n ih =>
    intro i h
    simp only [List.replicate_succ, List.flatten_cons]
    by_cases hi : i < z.size
    ·rw [List.getElem?_append_left (by simpa using hi), Nat.mod_eq_of_lt hi]; simp
    ·rw [List.getElem?_append_right (by simpa using Nat.le_of_not_lt hi)]
     simp only [Array.length_toList]
     rw [ih (i - z.size) (by rw [Nat.add_mul] at h; omega)]
     congr 1
     exact (Nat.mod_eq_sub_mod (Nat.le_of_not_lt hi)).symm
  have hm : i % z.size < z.size := Nat.mod_lt _ (by omega)
  have := key n i h1
  rw [List.getElem?_eq_getElem (by simpa using h2), Array.getElem?_eq_getElem hm] at this
  rw [getElem!_pos z _ hm]
  exact (some_inj this).symm
theorem bsl_ok {ρ : Operand → Value} {env : Tr A} (he : EvalOk P σ env ρ) (r : Rel P.globals.size σ h w) (hf : ¬ σ.dom h.nx) {t : TypeId} {len : Nat} {ps : Array (Nat × Operand)} {a : A} {b : Blk}
  (ha : bslA (tabOf P) env h.nx t len ps.toList = some (a, b)) : Does P σ h w (Instr.buildSlice t len (ps.map fun (i, x) => (i, ρ x))) a (h.new b) := by
 unfold bslA at ha
 split at ha
 ·cases ha
 ·rename_i e te hel
  obtain ⟨hu, hte⟩ := elemT_ok hel
  split at ha
  ·cases ha
  ·rename_i l hl
   split at ha
   ·cases ha
   ·rename_i z hz
    obtain ⟨h1, h2⟩ := cond_some ha
    obtain ⟨h3, h4⟩ := and_true h1
    obtain ⟨h4, h5⟩ := and_true h4
    have h3 : len * te.size ≤ 16777216 := ble_le h3
    have h4 := beq_e h4
    split at h2
    ·rename_i cs hcs
     have := some_inj h2
     injection this with q1 q2
     subst q1 q2
     obtain ⟨i, hi, hs, _, hzz⟩ := (t_ok hte).ex
     obtain ⟨v, hv, hzd, hzo, _⟩ := hzz z hz
     have hvc : v.cells = ⟨A.dens σ z⟩ := by apply Array.ext'; rw [← hzd σ]
     obtain ⟨f1, f2, f3, f4⟩ := fillA_ok (σ := σ) (place' := fun i => some (i * te.size, te.size)) (fun i x hx => hx) hcs
     have hok : A.oks σ.dom cs := f2 _ (repA_ok (hzo _) len) (parts_ok he hl).2
     have hzs : (⟨A.dens σ z⟩ : Array Value).size = te.size := by simp [dens_length, h4]
     have hinit : (Array.range (len * te.size)).map ((if len * te.size = 0 then (#[] : Array Value) else v.cells)[· % (if len * te.size = 0 then (#[] : Array Value) else v.cells).size]!) = ⟨A.dens σ (repA z len)⟩ := by
      by_cases h0 : len * te.size = 0
      ·rw [h0]
       have : A.dens σ (repA z len) = [] := List.eq_nil_of_length_eq_zero (by rw [dens_length, repA_length, h4]; exact h0)
       rw [this]; simp
      ·simp only [if_neg h0]
       rw [hvc]
       have hz0 : (⟨A.dens σ z⟩ : Array Value).size ≠ 0 := by rw [hzs]; intro e; rw [e] at h0; simp at h0
       have := zeros_eq ⟨A.dens σ z⟩ len hz0
       rw [hzs] at this ⊢
       rw [this, repA_dens]
     refine ⟨_, _, ?_, new_cells r hf e cs hok rfl, ⟨fun x hx => by obtain rfl := some_inj hx; exact with_dom .., fun x hx => by cases hx⟩⟩
     have hsm : ¬ len * te.size > 2 ^ 24 := by omega
     by_cases h0 : len * te.size = 0
     ·simp only [if_pos h0] at hinit
      simp only [Instr.buildSlice, Sem.run_bind, run_underlying hu, Result.andThen_ok, size_run hte, if_neg hsm, Sem.run_pure, if_pos h0, hinit, fill_map he hl, f1, newRow, run_newObj, A.den, Option.map_some, ad_new, Val.ex, Nat.add_zero]
     ·simp only [if_neg h0] at hinit
      simp only [Instr.buildSlice, Sem.run_bind, run_underlying hu, Result.andThen_ok, size_run hte, if_neg hsm, Sem.run_pure, if_neg h0, zeroValue, typeInfo, run_program, hi, hv, hinit, fill_map he hl, f1, newRow, run_newObj, A.den, Option.map_some, ad_new, Val.ex, Nat.add_zero]
    ·cases h2
theorem msl_ok {ρ : Operand → Value} {env : Tr A} (he : EvalOk P σ env ρ) (r : Rel P.globals.size σ h w) (hf : ¬ σ.dom h.nx) {t : TypeId} {ln cp : Operand} {a : A} {b : Blk}
  (ha : mslA (tabOf P) env h.nx t ln cp = some (a, b)) : Does P σ h w (Instr.makeSlice t (ρ ln) (ρ cp)) a (h.new b) := by
 unfold mslA at ha
 split at ha
 ·cases ha
 ·rename_i e te hel
  obtain ⟨hu, hte⟩ := elemT_ok hel
  split at ha
  ·cases ha
  ·rename_i l hl
   split at ha
   ·cases ha
   ·rename_i c hc
    split at ha
    ·cases ha
    ·rename_i z hz
     obtain ⟨h1, h2⟩ := cond_some ha
     obtain ⟨h3, h4⟩ := and_true h1
     obtain ⟨h5, h6⟩ := and_true h3
     obtain ⟨h7, h8⟩ := and_true h4
     have h5 := ble_le h5
     have h6 := ble_le h6
     have h7 := ble_le h7
     have h4 := beq_e h8
     have := some_inj h2
     injection this with q1 q2
     subst q1 q2
     obtain ⟨k1, e1⟩ := ixO_ok he hl
     obtain ⟨k2, e2⟩ := ixO_ok he hc
     obtain ⟨i, hi, hs, hby, hzz⟩ := (t_ok hte).ex
     obtain ⟨v, hv, hzd, hzo, _⟩ := hzz z hz
     have hvc : v.cells = ⟨A.dens σ z⟩ := by apply Array.ext'; rw [← hzd σ]
     have hzs : (⟨A.dens σ z⟩ : Array Value).size = te.size := by simp [dens_length, h4]
     have hinit : (Array.range (c * te.size)).map ((if c * te.size = 0 then (#[] : Array Value) else v.cells)[· % (if c * te.size = 0 then (#[] : Array Value) else v.cells).size]!) = ⟨A.dens σ (repA z c)⟩ := by
      by_cases h0 : c * te.size = 0
      ·rw [h0]
       have : A.dens σ (repA z c) = [] := List.eq_nil_of_length_eq_zero (by rw [dens_length, repA_length, h4]; exact h0)
       rw [this]; simp
      ·simp only [if_neg h0]
       rw [hvc]
       have hz0 : (⟨A.dens σ z⟩ : Array Value).size ≠ 0 := by rw [hzs]; intro e; rw [e] at h0; simp at h0
       have := zeros_eq ⟨A.dens σ z⟩ c hz0
       rw [hzs] at this ⊢
       rw [this, repA_dens]
     refine ⟨_, _, ?_, new_cells r hf e (repA z c) (repA_ok (hzo _) c) (by rw [repA_length, h4]), ⟨fun x hx => by obtain rfl := some_inj hx; exact with_dom .., fun x hx => by cases hx⟩⟩
     have w1 : IntKind.i64.wrap (l : Int) = l := by rw [← wrapF_eq]; show cond (Nat.blt l _) _ _ = _; rw [show Nat.blt l (lim .i64) = true by rw [Nat.blt_eq]; simp only [lim]; omega]; rfl
     have w2 : IntKind.i64.wrap (c : Int) = c := by rw [← wrapF_eq]; show cond (Nat.blt c _) _ _ = _; rw [show Nat.blt c (lim .i64) = true by rw [Nat.blt_eq]; simp only [lim]; omega]; rfl
     have hmul : te.bytes * c ≤ 1000000 * 1000000 := Nat.mul_le_mul h7 h6
     have t1 : (decide ((c : Int) < 0) || decide ((te.bytes : Int) * (c : Int) > 2 ^ 48)) = false := by
      rw [Bool.or_eq_false_iff, decide_eq_false_iff_not, decide_eq_false_iff_not]
      refine ⟨by omega, ?_⟩
      have : ((te.bytes * c : Nat) : Int) = (te.bytes : Int) * c := by simp
      omega
     have t2 : ¬ ((decide ((c : Int) < 0) || decide ((te.bytes : Int) * (c : Int) > 2 ^ 48)) || decide ((l : Int) < 0) || decide ((l : Int) > c)) = true := by
      rw [t1]; simp; omega
     simp only [Instr.makeSlice, Sem.run_bind, run_underlying hu, Result.andThen_ok, e1, e2, asInt, asIntOf, Sem.run_pure, typeInfo, run_program, hi, hby, w1, w2]
     rw [if_neg (by simpa using t2)]
     by_cases h0 : c * te.size = 0
     ·simp only [if_pos h0] at hinit
      simp only [Sem.run_bind, run_askRoom, Result.andThen_ok, size_run hte, Int.toNat_natCast, if_pos h0, hinit, newRow, run_newObj, Sem.run_pure, A.den, Option.map_some, ad_new, Val.ex, Nat.add_zero]
     ·simp only [if_neg h0] at hinit
      simp only [Sem.run_bind, run_askRoom, Result.andThen_ok, size_run hte, Int.toNat_natCast, if_neg h0, zeroValue, typeInfo, run_program, hi, hv, hinit, newRow, run_newObj, Sem.run_pure, A.den, Option.map_some, ad_new, Val.ex, Nat.add_zero]
theorem storeCells_run (g o : Nat) (t : TypeId) (lo hi : Nat) : ∀ (vs : List Value) (i : Nat) (cur : Array Value) (w : World), w.heap[g]? = some (.cells cur t (lo, hi)) → (∀ k, o + i ≤ k → k < o + i + vs.length → ¬ (lo ≤ k ∧ k < hi)) → o + i + vs.length ≤ cur.size → (∀ v ∈ vs, v.oneCell' = true) →
  (storeCells ⟨g, o, none⟩ vs i).run P w = .ok () (w.setRow g (cur.toList.take (o + i) ++ vs ++ cur.toList.drop (o + i + vs.length)).toArray)
 | [], i, cur, w, hg, _, _, _ => by
  simp only [storeCells, List.append_nil, List.length_nil, Nat.add_zero, List.take_append_drop, Array.toArray_toList]
  rw [setRow_self w g cur t (lo, hi) hg]
  rfl
 | v :: rest, i, cur, w, hg, hfz, hl, h1 => by
  have hi' : o + i < cur.size := by simp at hl; omega
  have hadd : (⟨g, o, none⟩ : Addr).add i = ⟨g, o + i, none⟩ := by unfold Addr.add; split <;> simp_all
  have hcell : w.cell? ⟨g, o + i, none⟩ = some cur[o + i] := by simp [World.cell?, hg, hi']
  have hfro : w.frozen? ⟨g, o + i, none⟩ = false := by
   have := hfz (o + i) (Nat.le_refl _) (by simp)
   simp only [World.frozen?, hg, Bool.and_eq_false_iff, decide_eq_false_iff_not]
   omega
  have hst : (store ((⟨g, o, none⟩ : Addr).add i) v).run P w = .ok () (w.setRow g (cur.setIfInBounds (o + i) v)) := by
   rw [hadd, run_store P w _ v _ (h1 v (by simp)), hcell]
   simp [hfro, setCell_eq_setRow w g (o + i) cur t (lo, hi) v hg]
  have ih := storeCells_run g o t lo hi rest (i + 1) (cur.setIfInBounds (o + i) v) (w.setRow g (cur.setIfInBounds (o + i) v)) (setRow_heap w g cur _ t _ hg) (fun k h2 h3 => hfz k (by omega) (by simp; omega)) (by simp at hl ⊢; omega) (fun x hx => h1 x (by simp [hx]))
  simp only [storeCells, Sem.run_bind, hst, Result.andThen_ok, ih, setRow_setRow]
  congr 3
  have e := list_seg_step cur.toList (o + i) v rest (by simp at hl ⊢; omega)
  simpa [Array.toList_setIfInBounds, Nat.add_assoc] using e
theorem wrC_get : ∀ (l : List A) (t : Tr A) (o k : Nat), (wrC t o l).get k = if o ≤ k ∧ k < o + l.length then l[k - o]? else t.get k
 | [], t, o, k => by simp [wrC]; omega
 | a :: l, t, o, k => by
  simp only [wrC, wrC_get l, Tr.get_put, List.length_cons]
  by_cases h1 : k = o
  ·subst h1
   rw [if_neg (by omega), if_pos rfl, if_pos (by omega), Nat.sub_self]; rfl
  ·by_cases h2 : o ≤ k ∧ k < o + (l.length + 1)
   ·rw [if_pos (by omega), if_pos h2]
    obtain ⟨m, rfl⟩ : ∃ m, k = o + 1 + m := ⟨k - (o + 1), by omega⟩
    rw [show o + 1 + m - (o + 1) = m by omega, show o + 1 + m - o = m + 1 by omega]; simp
   ·rw [if_neg (by omega), if_neg h1, if_neg h2]
theorem storeC_ok (r : Rel P.globals.size σ h w) {j o : Nat} {cs : List A} {k : H} (hs : storeC h j o cs = some k) (hc : A.oks σ.dom cs) :
  ∃ v, (storeCells (σ.ad (j, o)) (A.dens σ cs)).run P w = .ok () v ∧ Goes P.globals.size σ h w σ k v ∧ k.nx = h.nx := by
 unfold storeC at hs
 split at hs
 ·rename_i e tr E c hj
  obtain ⟨h1, h2⟩ := cond_some hs
  obtain rfl := some_inj h2
  obtain ⟨h3, h4⟩ := and_true h1
  have h4 := ble_le h4
  have b := r.at_ j _ hj
  obtain ⟨cur, lo, hi, b1, b2, b3, b4, b5, b6⟩ := b
  have hlen := dens_length (σ := σ) cs
  have run := storeCells_run (P := P) (σ.blk j) (σ.off j + o) e lo hi (A.dens σ cs) 0 cur w b1 (fun k h5 h6 => (by have := b5 rfl; omega)) (by omega) (one_cells h3)
  simp only [Nat.add_zero] at run
  refine ⟨_, run, ?_, rfl⟩
  refine Goes.turn r hj rfl (fun i hi => setRow_other w _ i _ hi) (setRow_size ..) rfl rfl rfl _ ⟨_, lo, hi, setRow_heap w _ cur _ e _ b1, ?_, fun k a ha => ?_, b4, b5, fun hc hw => ⟨by have := (b6 hc hw).1; simp only [List.size_toArray, List.length_append, List.length_take, List.length_drop, Array.length_toList, hlen]; omega, (b6 hc hw).2⟩⟩
  ·simp only [List.size_toArray, List.length_append, List.length_take, List.length_drop, Array.length_toList, hlen]; omega
  ·rw [wrC_get] at ha
   by_cases hk : o ≤ k ∧ k < o + cs.length
   ·rw [if_pos hk] at ha
    refine ⟨?_, oks_iff.1 hc a (List.mem_of_getElem? ha)⟩
    simp only [List.getElem?_toArray]
    rw [List.append_assoc, List.getElem?_append_right (by simp; omega), List.getElem?_append_left (by simp [hlen]; omega), dens_eq, List.getElem?_map]
    have : σ.off j + k - (List.take (σ.off j + o) cur.toList).length = k - o := by simp; omega
    rw [this, ha]; rfl
   ·rw [if_neg hk] at ha
    obtain ⟨h5, h6⟩ := b3 k a ha
    refine ⟨?_, h6⟩
    simp only [List.getElem?_toArray]
    rw [List.append_assoc]
    by_cases hlt : k < o
    ·rw [List.getElem?_append_left (by simp; have := (Array.getElem?_eq_some_iff.1 h5).1; omega), List.getElem?_take, if_pos (by omega)]
     simpa using h5
    ·have := (Array.getElem?_eq_some_iff.1 h5).1
     rw [List.getElem?_append_right (by simp; omega), List.getElem?_append_right (by simp [hlen]; omega), List.getElem?_drop]
     have e2 : σ.off j + o + (A.dens σ cs).length + (σ.off j + k - (List.take (σ.off j + o) cur.toList).length - (A.dens σ cs).length) = σ.off j + k := by simp [hlen]; omega
     rw [e2]
     simpa using h5
 ·cases hs
theorem store_ok {ρ : Operand → Value} {env : Tr A} (he : EvalOk P σ env ρ) (r : Rel P.globals.size σ h w) {t : TypeId} {a x : Operand} {b : A} {k : H} (hs : storeO (tabOf P) env h t a x = some (b, k)) :
  ∃ v, (Instr.storeAt t (ρ a) (ρ x)).run P w = .ok () v ∧ Goes P.globals.size σ h w σ k v ∧ b = .tup [] ∧ k.nx = h.nx := by
 unfold storeO at hs
 split at hs
 ·cases hs
 ·rename_i p hp
  split at hs
  ·cases hs
  ·rename_i y hy
   split at hs
   ·rename_i k' hk
    have := some_inj hs
    injection this with q1 q2
    subst q1 q2
    unfold storeA at hk
    split at hk
    ·rename_i j o ti ht
     obtain ⟨h1, h2⟩ := cond_some hk
     have h1 := beq_e h1
     obtain ⟨e1, _⟩ := he a _ hp
     obtain ⟨e2, e3⟩ := he x _ hy
     obtain ⟨v, g1, g2, g3⟩ := storeC_ok r h2 (cells_ok e3)
     refine ⟨v, ?_, g2, rfl, g3⟩
     have hsz : ¬ (⟨A.dens σ y.cells⟩ : Array Value).size ≠ ti.size := by simp [dens_length, h1]
     simp only [Instr.storeAt, e1, e2, A.den, Option.map_some, Instr.sureAddr, Sem.run_bind, Sem.run_pure, Result.andThen_ok, storeVar, size_run ht, cells_den, if_neg hsz]
     exact g1
    ·cases hk
   ·cases hs
end
end Go.Proofs.YteemnmalikomgaaGreatDoor.Ev
