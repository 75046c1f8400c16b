/-
  The evaluator tells the truth: reads, new blocks, stores.
-/
import Derived.Test.YtibompboimeedaaGreatDoorEvH
import Derived.Laws.Cells
import Derived.Lib.FrozenHead
namespace Go.Proofs.YtibompboimeedaaGreatDoor.Ev
section
variable {P : Program} {σ : Val} {h : H} {w : World}
/-- What an operation does to the heap, and what it answers. -/
def Does (P : Program) (σ : Val) (h : H) (w : World) (s : Sem Value) (a : A) (k : H) : Prop :=
  ∃ τ v, s.run P w = .ok (a.den τ) v ∧ Goes P.globals.size σ h w τ k v ∧ a.ok τ.dom
theorem Tells.does {s : Sem Value} {a : A} (t : Tells P σ s a) (r : Rel P.globals.size σ h w) : Does P σ h w s a h := ⟨σ, w, t.1 w, .refl r, t.2⟩
/-- A block of cells. -/
theorem cell_at {j : Nat} {e : TypeId} {t : Tr A} {E : Nat} {c : Option (Nat × Nat)} {wr : Bool} (b : BlkAt σ w j (.cells e t E c wr)) {k : Nat} {a : A} (ha : t.get k = some a) :
    w.cell? (σ.ad (j, k)) = some (a.den σ) ∧ a.ok σ.dom := by
  obtain ⟨cs, lo, hi, h1, h2, h3, _⟩ := b
  obtain ⟨h4, h5⟩ := h3 k a ha
  exact ⟨by simp [World.cell?, Val.ad, h1, h4], h5⟩
theorem rd_get : ∀ {n o : Nat} {t : Tr A} {l : List A}, rd t o n = some l → l.length = n ∧ ∀ j a, l[j]? = some a → t.get (o + j) = some a
  | 0, o, t, l, h => by obtain rfl := some_inj h; simp
  | n + 1, o, t, l, h => by
    simp only [rd] at h
    split at h
    · rename_i a ha
      split at h
      · rename_i r hr
        obtain rfl := some_inj h
        obtain ⟨h1, h2⟩ := rd_get hr
        refine ⟨by simp [h1], fun j x hx => ?_⟩
        cases j with
        | zero => simp at hx; subst hx; exact ha
        | succ j => simp at hx; have := h2 j x hx; rwa [Nat.add_assoc, Nat.add_comm 1 j] at this
      · cases h
    · cases h
theorem rd_ok {j : Nat} {e : TypeId} {t : Tr A} {E : Nat} {c : Option (Nat × Nat)} {wr : Bool} (b : BlkAt σ w j (.cells e t E c wr)) {o n : Nat} {l : List A} (hl : rd t o n = some l) :
    (loadCells (σ.ad (j, o)) n).run P w = .ok ⟨A.dens σ l⟩ w ∧ A.oks σ.dom l := by
  obtain ⟨h1, h2⟩ := rd_get hl
  refine ⟨?_, oks_iff.2 fun a ha => ?_⟩
  · have := run_loadCells_list (P := P) w (σ.ad (j, o)) (A.dens σ l) (fun i v hv => by
      rw [dens_eq, List.getElem?_map, Option.map_eq_some_iff] at hv
      obtain ⟨a, ha, rfl⟩ := hv
      rw [ad_add]
      exact (cell_at b (h2 i a ha)).1)
    rw [dens_length, h1] at this
    exact this
  · obtain ⟨i, hi⟩ := List.mem_iff_getElem?.1 ha
    exact (cell_at b (h2 i a hi)).2
theorem load_ok (r : Rel P.globals.size σ h w) {t : TypeId} {p a : A} (hl : loadA (tabOf P) h t p = some a) : (Instr.loadAt t (p.den σ)).run P w = .ok (a.den σ) w ∧ a.ok σ.dom := by
  unfold loadA at hl
  split at hl
  · rename_i r0
    split at hl
    · rename_i j o
      split at hl
      · rename_i e tr E c wr hj
        split at hl
        · rename_i ti ht
          have b := r.at_ j _ hj
          have hl' : cond (isAggD ti.d) ((rd tr o ti.size).map .agg) (tr.get o) = some a := hl
          cases hb : isAggD ti.d with
          | true =>
            rw [hb] at hl'
            cases hr : rd tr o ti.size with
            | none => rw [hr] at hl'; cases hl'
            | some l =>
              rw [hr] at hl'
              obtain rfl := some_inj hl'
              obtain ⟨h1, h2⟩ := rd_ok (P := P) b hr
              refine ⟨?_, by simp only [A.ok]; exact h2⟩
              simp only [Instr.loadAt, A.den, Option.map_some, Instr.sureAddr, Sem.run_bind, Sem.run_pure, Result.andThen_ok, loadVar, agg_run ht, hb, if_true, size_run ht, h1]
          | false =>
            rw [hb] at hl'
            obtain ⟨h1, h2⟩ := cell_at b hl'
            refine ⟨?_, h2⟩
            simp only [Instr.loadAt, A.den, Option.map_some, Instr.sureAddr, Sem.run_bind, Sem.run_pure, Result.andThen_ok, loadVar, agg_run ht, hb, Bool.false_eq_true, if_false, run_load, h1]
        · cases hl
      · cases hl
    · cases hl
  · cases hl
theorem ofL_get {l : List A} {k : Nat} {a : A} (h : (Tr.ofL .lf 0 l).get k = some a) : l[k]? = some a := by
  rw [Tr.get_ofL] at h
  split at h
  · simpa using h
  · cases h
theorem one_cell {a : A} (h : a.one = true) : (a.den σ).oneCell' = true := by
  cases a <;> first | rfl | cases h
theorem allOne_iff : ∀ {l : List A}, allOne l = true ↔ ∀ a ∈ l, a.one = true
  | [] => by simp [allOne]
  | a :: l => by simp [allOne, allOne_iff (l := l)]
theorem one_cells {l : List A} (h : allOne l = true) : ∀ v ∈ A.dens σ l, v.oneCell' = true := by
  intro v hv
  rw [dens_eq] at hv
  obtain ⟨a, ha, rfl⟩ := List.mem_map.1 hv
  exact one_cell (allOne_iff.1 h a ha)
/-- A new block of cells that are all known. -/
theorem new_cells (r : Rel P.globals.size σ h w) (hf : ¬ σ.dom h.nx) (e : TypeId) (l : List A) (hl : A.oks σ.dom l) {n : Nat} (hn : n = l.length) :
    Goes P.globals.size σ h w (σ.with h.nx w.heap.size 0 0) (h.new (.cells e (Tr.ofL .lf 0 l) n none true)) { w with heap := w.heap.push (.cells ⟨A.dens σ l⟩ e (0, 0)) } := by
  subst hn
  have s := Val.with_same σ h.nx w.heap.size 0 0 hf
  refine Goes.new r _ _ 0 hf ⟨⟨A.dens σ l⟩, 0, 0, ?_, ?_, fun k a ha => ?_, (fun x hx => by cases hx), (fun _ k hk hc => by omega), fun _ _ => ⟨by simp [dens_length], with_off ..⟩⟩
  · rw [with_blk]; simp
  · rw [with_off]; simp [Val.room, dens_length]
  · have h1 := ofL_get ha
    have h2 := oks_iff.1 hl a (List.mem_of_getElem? h1)
    exact ⟨by rw [with_off, s.den h2]; simp [dens_eq, h1], h2.mono s.dom⟩
theorem ad_new (σ : Val) (j B c : Nat) : (σ.with j B 0 c).ad (j, 0) = ⟨B, 0, none⟩ := by simp [Val.ad, with_blk, with_off]
theorem alloc_ok (r : Rel P.globals.size σ h w) (hf : ¬ σ.dom h.nx) {e : TypeId} {a : A} {b : Blk} (ha : allocA (tabOf P) h.nx e = some (a, b)) : Does P σ h w (Instr.alloc e true (.tuple #[])) a (h.new b) := by
  unfold allocA at ha
  split at ha
  · cases ha
  · rename_i ti ht
    split at ha
    · cases ha
    · rename_i z hz
      have := some_inj ha
      injection this with h1 h2
      subst h1 h2
      obtain ⟨i, hi, _, _, hzz⟩ := (t_ok ht).ex
      obtain ⟨v, hv, hzd, hzo, _⟩ := hzz z hz
      have hvc : v.cells = ⟨A.dens σ z⟩ := by apply Array.ext'; rw [← hzd σ]
      refine ⟨_, _, ?_, new_cells r hf e z (hzo _) rfl, with_dom ..⟩
      simp [Instr.alloc, zeroValue, typeInfo, hi, hv, newVar, newRow, hvc, A.den, ad_new]
theorem box_ok {ρ : Operand → Value} {env : Tr A} (he : EvalOk P σ env ρ) (r : Rel P.globals.size σ h w) (hf : ¬ σ.dom h.nx) {e : TypeId} {x : Operand} {a : A} {b : Blk} (ha : boxA (tabOf P) env h.nx e x = some (a, b)) :
    Does P σ h w (Instr.box e (ρ x)) a (h.new b) := by
  unfold boxA at ha
  split at ha
  · cases ha
  · rename_i y hy
    obtain ⟨h0, h1⟩ := cond_some ha
    have := some_inj h1
    injection this with h1 h2
    subst h1 h2
    obtain ⟨h3, h4⟩ := he x y hy
    refine ⟨_, _, ?_, new_cells r hf e y.cells (cells_ok h4) rfl, with_dom ..⟩
    simp [Instr.box, newVar, newRow, h3, cells_den, A.den, ad_new]
theorem elemT_ok {t e : TypeId} {te : TI} (h : elemT (tabOf P) t = some (e, te)) : P.underlying t = some (.slice e) ∧ (tabOf P).t e = some te := by
  unfold elemT at h
  split at h
  · cases h
  · rename_i ti ht
    split at h
    · rename_i e' hd
      split at h
      · rename_i te' hte
        have := some_inj h
        injection this with h1 h2
        subst h1 h2
        exact ⟨by rw [(t_ok ht).d, hd], hte⟩
      · cases h
    · cases h
theorem repA_dens (z : List A) : ∀ n, A.dens σ (repA z n) = (List.replicate n (A.dens σ z)).flatten
  | 0 => rfl
  | n + 1 => by
    have := repA_dens z n
    rw [dens_eq] at this
    rw [dens_eq]
    simp only [repA, List.map_append, List.replicate_succ, List.flatten_cons]
    rw [this, dens_eq]
theorem repA_ok {D : Nat → Prop} {z : List A} (hz : A.oks D z) : ∀ n, A.oks D (repA z n)
  | 0 => trivial
  | n + 1 => oks_append hz (repA_ok hz n)
theorem repA_one {z : List A} (hz : allOne z = true) : ∀ n, allOne (repA z n) = true
  | 0 => rfl
  | n + 1 => by
    rw [allOne_iff] at *
    intro a ha
    rcases List.mem_append.1 ha with h | h
    · exact hz a h
    · exact allOne_iff.1 (repA_one (allOne_iff.2 hz) n) a h
theorem repA_length (z : List A) : ∀ n, (repA z n).length = n * z.length
  | 0 => by simp [repA]
  | n + 1 => by simp [repA, repA_length z n, Nat.add_mul, Nat.add_comm]
/-- The model's way to say: n times the zero's cells. -/
theorem zeros_eq (z : Array Value) (n : Nat) (hz : z.size ≠ 0) : (Array.range (n * z.size)).map (z[· % z.size]!) = ⟨(List.replicate n z.toList).flatten⟩ := by
  apply Array.ext
  · simp
  · intro i h1 h2
    simp at h1
    simp only [Array.getElem_map, Array.getElem_range, List.getElem_toArray]
    have key : ∀ (n i : Nat) (h : i < n * z.size), (List.replicate n z.toList).flatten[i]? = z[i % z.size]? := by
      intro n
      induction n with
      | zero => intro i h; simp at h
      | succ n ih =>
        intro i h
        simp only [List.replicate_succ, List.flatten_cons]
        by_cases hi : i < z.size
        · rw [List.getElem?_append_left (by simpa using hi), Nat.mod_eq_of_lt hi]; simp
        · rw [List.getElem?_append_right (by simpa using Nat.le_of_not_lt hi)]
          simp only [Array.length_toList]
          rw [ih (i - z.size) (by rw [Nat.add_mul] at h; omega)]
          congr 1
          exact (Nat.mod_eq_sub_mod (Nat.le_of_not_lt hi)).symm
    have hm : i % z.size < z.size := Nat.mod_lt _ (by omega)
    have := key n i h1
    rw [List.getElem?_eq_getElem (by simpa using h2), Array.getElem?_eq_getElem hm] at this
    rw [getElem!_pos z _ hm]
    exact (some_inj this).symm
theorem bsl_ok {ρ : Operand → Value} {env : Tr A} (he : EvalOk P σ env ρ) (r : Rel P.globals.size σ h w) (hf : ¬ σ.dom h.nx) {t : TypeId} {len : Nat} {ps : Array (Nat × Operand)} {a : A} {b : Blk}
    (ha : bslA (tabOf P) env h.nx t len ps.toList = some (a, b)) : Does P σ h w (Instr.buildSlice t len (ps.map fun (i, x) => (i, ρ x))) a (h.new b) := by
  unfold bslA at ha
  split at ha
  · cases ha
  · rename_i e te hel
    obtain ⟨hu, hte⟩ := elemT_ok hel
    split at ha
    · cases ha
    · rename_i l hl
      split at ha
      · cases ha
      · rename_i z hz
        obtain ⟨h1, h2⟩ := cond_some ha
        obtain ⟨h3, h4⟩ := and_true h1
        obtain ⟨h4, h5⟩ := and_true h4
        have h3 : len * te.size ≤ 16777216 := ble_le h3
        have h4 := beq_e h4
        split at h2
        · rename_i cs hcs
          have := some_inj h2
          injection this with q1 q2
          subst q1 q2
          obtain ⟨i, hi, hs, _, hzz⟩ := (t_ok hte).ex
          obtain ⟨v, hv, hzd, hzo, _⟩ := hzz z hz
          have hvc : v.cells = ⟨A.dens σ z⟩ := by apply Array.ext'; rw [← hzd σ]
          obtain ⟨f1, f2, f3, f4⟩ := fillA_ok (σ := σ) (place' := fun i => some (i * te.size, te.size)) (fun i x hx => hx) hcs
          have hok : A.oks σ.dom cs := f2 _ (repA_ok (hzo _) len) (parts_ok he hl).2
          have hzs : (⟨A.dens σ z⟩ : Array Value).size = te.size := by simp [dens_length, h4]
          have hinit : (Array.range (len * te.size)).map ((if len * te.size = 0 then (#[] : Array Value) else v.cells)[· % (if len * te.size = 0 then (#[] : Array Value) else v.cells).size]!) = ⟨A.dens σ (repA z len)⟩ := by
            by_cases h0 : len * te.size = 0
            · rw [h0]
              have : A.dens σ (repA z len) = [] := List.eq_nil_of_length_eq_zero (by rw [dens_length, repA_length, h4]; exact h0)
              rw [this]; simp
            · simp only [if_neg h0]
              rw [hvc]
              have hz0 : (⟨A.dens σ z⟩ : Array Value).size ≠ 0 := by rw [hzs]; intro e; rw [e] at h0; simp at h0
              have := zeros_eq ⟨A.dens σ z⟩ len hz0
              rw [hzs] at this ⊢
              rw [this, repA_dens]
          refine ⟨_, _, ?_, new_cells r hf e cs hok rfl, ⟨fun x hx => by obtain rfl := some_inj hx; exact with_dom .., fun x hx => by cases hx⟩⟩
          have hsm : ¬ len * te.size > 2 ^ 24 := by omega
          by_cases h0 : len * te.size = 0
          · simp only [if_pos h0] at hinit
            simp only [Instr.buildSlice, Sem.run_bind, run_underlying hu, Result.andThen_ok, size_run hte, if_neg hsm, Sem.run_pure, if_pos h0, hinit, fill_map he hl, f1, newRow, run_newObj, A.den, Option.map_some, ad_new, Val.ex, Nat.add_zero]
          · simp only [if_neg h0] at hinit
            simp only [Instr.buildSlice, Sem.run_bind, run_underlying hu, Result.andThen_ok, size_run hte, if_neg hsm, Sem.run_pure, if_neg h0, zeroValue, typeInfo, run_program, hi, hv, hinit, fill_map he hl, f1, newRow, run_newObj, A.den, Option.map_some, ad_new, Val.ex, Nat.add_zero]
        · cases h2
theorem msl_ok {ρ : Operand → Value} {env : Tr A} (he : EvalOk P σ env ρ) (r : Rel P.globals.size σ h w) (hf : ¬ σ.dom h.nx) {t : TypeId} {ln cp : Operand} {a : A} {b : Blk}
    (ha : mslA (tabOf P) env h.nx t ln cp = some (a, b)) : Does P σ h w (Instr.makeSlice t (ρ ln) (ρ cp)) a (h.new b) := by
  unfold mslA at ha
  split at ha
  · cases ha
  · rename_i e te hel
    obtain ⟨hu, hte⟩ := elemT_ok hel
    split at ha
    · cases ha
    · rename_i l hl
      split at ha
      · cases ha
      · rename_i c hc
        split at ha
        · cases ha
        · rename_i z hz
          obtain ⟨h1, h2⟩ := cond_some ha
          obtain ⟨h3, h4⟩ := and_true h1
          obtain ⟨h5, h6⟩ := and_true h3
          obtain ⟨h7, h8⟩ := and_true h4
          have h5 := ble_le h5
          have h6 := ble_le h6
          have h7 := ble_le h7
          have h4 := beq_e h8
          have := some_inj h2
          injection this with q1 q2
          subst q1 q2
          obtain ⟨k1, e1⟩ := ixO_ok he hl
          obtain ⟨k2, e2⟩ := ixO_ok he hc
          obtain ⟨i, hi, hs, hby, hzz⟩ := (t_ok hte).ex
          obtain ⟨v, hv, hzd, hzo, _⟩ := hzz z hz
          have hvc : v.cells = ⟨A.dens σ z⟩ := by apply Array.ext'; rw [← hzd σ]
          have hzs : (⟨A.dens σ z⟩ : Array Value).size = te.size := by simp [dens_length, h4]
          have hinit : (Array.range (c * te.size)).map ((if c * te.size = 0 then (#[] : Array Value) else v.cells)[· % (if c * te.size = 0 then (#[] : Array Value) else v.cells).size]!) = ⟨A.dens σ (repA z c)⟩ := by
            by_cases h0 : c * te.size = 0
            · rw [h0]
              have : A.dens σ (repA z c) = [] := List.eq_nil_of_length_eq_zero (by rw [dens_length, repA_length, h4]; exact h0)
              rw [this]; simp
            · simp only [if_neg h0]
              rw [hvc]
              have hz0 : (⟨A.dens σ z⟩ : Array Value).size ≠ 0 := by rw [hzs]; intro e; rw [e] at h0; simp at h0
              have := zeros_eq ⟨A.dens σ z⟩ c hz0
              rw [hzs] at this ⊢
              rw [this, repA_dens]
          refine ⟨_, _, ?_, new_cells r hf e (repA z c) (repA_ok (hzo _) c) (by rw [repA_length, h4]), ⟨fun x hx => by obtain rfl := some_inj hx; exact with_dom .., fun x hx => by cases hx⟩⟩
          have w1 : IntKind.i64.wrap (l : Int) = l := by rw [← wrapF_eq]; show cond (Nat.blt l _) _ _ = _; rw [show Nat.blt l (lim .i64) = true by rw [Nat.blt_eq]; simp only [lim]; omega]; rfl
          have w2 : IntKind.i64.wrap (c : Int) = c := by rw [← wrapF_eq]; show cond (Nat.blt c _) _ _ = _; rw [show Nat.blt c (lim .i64) = true by rw [Nat.blt_eq]; simp only [lim]; omega]; rfl
          have hmul : te.bytes * c ≤ 1000000 * 1000000 := Nat.mul_le_mul h7 h6
          have t1 : (decide ((c : Int) < 0) || decide ((te.bytes : Int) * (c : Int) > 2 ^ 48)) = false := by
            rw [Bool.or_eq_false_iff, decide_eq_false_iff_not, decide_eq_false_iff_not]
            refine ⟨by omega, ?_⟩
            have : ((te.bytes * c : Nat) : Int) = (te.bytes : Int) * c := by simp
            omega
          have t2 : ¬ ((decide ((c : Int) < 0) || decide ((te.bytes : Int) * (c : Int) > 2 ^ 48)) || decide ((l : Int) < 0) || decide ((l : Int) > c)) = true := by
            rw [t1]; simp; omega
          simp only [Instr.makeSlice, Sem.run_bind, run_underlying hu, Result.andThen_ok, e1, e2, asInt, asIntOf, Sem.run_pure, typeInfo, run_program, hi, hby, w1, w2]
          rw [if_neg (by simpa using t2)]
          by_cases h0 : c * te.size = 0
          · simp only [if_pos h0] at hinit
            simp only [Sem.run_bind, run_askRoom, Result.andThen_ok, size_run hte, Int.toNat_natCast, if_pos h0, hinit, newRow, run_newObj, Sem.run_pure, A.den, Option.map_some, ad_new, Val.ex, Nat.add_zero]
          · simp only [if_neg h0] at hinit
            simp only [Sem.run_bind, run_askRoom, Result.andThen_ok, size_run hte, Int.toNat_natCast, if_neg h0, zeroValue, typeInfo, run_program, hi, hv, hinit, newRow, run_newObj, Sem.run_pure, A.den, Option.map_some, ad_new, Val.ex, Nat.add_zero]
/-- Cells stored, none of them frozen. -/
theorem storeCells_run (g o : Nat) (t : TypeId) (lo hi : Nat) : ∀ (vs : List Value) (i : Nat) (cur : Array Value) (w : World), w.heap[g]? = some (.cells cur t (lo, hi)) → (∀ k, o + i ≤ k → k < o + i + vs.length → ¬ (lo ≤ k ∧ k < hi)) → o + i + vs.length ≤ cur.size → (∀ v ∈ vs, v.oneCell' = true) →
    (storeCells ⟨g, o, none⟩ vs i).run P w = .ok () (w.setRow g (cur.toList.take (o + i) ++ vs ++ cur.toList.drop (o + i + vs.length)).toArray)
  | [], i, cur, w, hg, _, _, _ => by
    simp only [storeCells, List.append_nil, List.length_nil, Nat.add_zero, List.take_append_drop, Array.toArray_toList]
    rw [setRow_self w g cur t (lo, hi) hg]
    rfl
  | v :: rest, i, cur, w, hg, hfz, hl, h1 => by
    have hi' : o + i < cur.size := by simp at hl; omega
    have hadd : (⟨g, o, none⟩ : Addr).add i = ⟨g, o + i, none⟩ := by unfold Addr.add; split <;> simp_all
    have hcell : w.cell? ⟨g, o + i, none⟩ = some cur[o + i] := by simp [World.cell?, hg, hi']
    have hfro : w.frozen? ⟨g, o + i, none⟩ = false := by
      have := hfz (o + i) (Nat.le_refl _) (by simp)
      simp only [World.frozen?, hg, Bool.and_eq_false_iff, decide_eq_false_iff_not]
      omega
    have hst : (store ((⟨g, o, none⟩ : Addr).add i) v).run P w = .ok () (w.setRow g (cur.setIfInBounds (o + i) v)) := by
      rw [hadd, run_store P w _ v _ (h1 v (by simp)), hcell]
      simp [hfro, setCell_eq_setRow w g (o + i) cur t (lo, hi) v hg]
    have ih := storeCells_run g o t lo hi rest (i + 1) (cur.setIfInBounds (o + i) v) (w.setRow g (cur.setIfInBounds (o + i) v)) (setRow_heap w g cur _ t _ hg) (fun k h2 h3 => hfz k (by omega) (by simp; omega)) (by simp at hl ⊢; omega) (fun x hx => h1 x (by simp [hx]))
    simp only [storeCells, Sem.run_bind, hst, Result.andThen_ok, ih, setRow_setRow]
    congr 3
    have e := list_seg_step cur.toList (o + i) v rest (by simp at hl ⊢; omega)
    simpa [Array.toList_setIfInBounds, Nat.add_assoc] using e
theorem wrC_get : ∀ (l : List A) (t : Tr A) (o k : Nat), (wrC t o l).get k = if o ≤ k ∧ k < o + l.length then l[k - o]? else t.get k
  | [], t, o, k => by simp [wrC]; omega
  | a :: l, t, o, k => by
    simp only [wrC, wrC_get l, Tr.get_put, List.length_cons]
    by_cases h1 : k = o
    · subst h1
      rw [if_neg (by omega), if_pos rfl, if_pos (by omega), Nat.sub_self]; rfl
    · by_cases h2 : o ≤ k ∧ k < o + (l.length + 1)
      · rw [if_pos (by omega), if_pos h2]
        obtain ⟨m, rfl⟩ : ∃ m, k = o + 1 + m := ⟨k - (o + 1), by omega⟩
        rw [show o + 1 + m - (o + 1) = m by omega, show o + 1 + m - o = m + 1 by omega]; simp
      · rw [if_neg (by omega), if_neg h1, if_neg h2]
/-- Cells written to a block of the evaluator's. -/
theorem storeC_ok (r : Rel P.globals.size σ h w) {j o : Nat} {cs : List A} {k : H} (hs : storeC h j o cs = some k) (hc : A.oks σ.dom cs) :
    ∃ v, (storeCells (σ.ad (j, o)) (A.dens σ cs)).run P w = .ok () v ∧ Goes P.globals.size σ h w σ k v ∧ k.nx = h.nx := by
  unfold storeC at hs
  split at hs
  · rename_i e tr E c hj
    obtain ⟨h1, h2⟩ := cond_some hs
    obtain rfl := some_inj h2
    obtain ⟨h3, h4⟩ := and_true h1
    have h4 := ble_le h4
    have b := r.at_ j _ hj
    obtain ⟨cur, lo, hi, b1, b2, b3, b4, b5, b6⟩ := b
    have hlen := dens_length (σ := σ) cs
    have run := storeCells_run (P := P) (σ.blk j) (σ.off j + o) e lo hi (A.dens σ cs) 0 cur w b1 (fun k h5 h6 => b5 rfl k (by omega)) (by omega) (one_cells h3)
    simp only [Nat.add_zero] at run
    refine ⟨_, run, ?_, rfl⟩
    refine Goes.turn r hj rfl (fun i hi => setRow_other w _ i _ hi) (setRow_size ..) rfl rfl rfl _ ⟨_, lo, hi, setRow_heap w _ cur _ e _ b1, ?_, fun k a ha => ?_, b4, b5, fun hc hw => ⟨by have := (b6 hc hw).1; simp only [List.size_toArray, List.length_append, List.length_take, List.length_drop, Array.length_toList, hlen]; omega, (b6 hc hw).2⟩⟩
    · simp only [List.size_toArray, List.length_append, List.length_take, List.length_drop, Array.length_toList, hlen]; omega
    · rw [wrC_get] at ha
      by_cases hk : o ≤ k ∧ k < o + cs.length
      · rw [if_pos hk] at ha
        refine ⟨?_, oks_iff.1 hc a (List.mem_of_getElem? ha)⟩
        simp only [List.getElem?_toArray]
        rw [List.append_assoc, List.getElem?_append_right (by simp; omega), List.getElem?_append_left (by simp [hlen]; omega), dens_eq, List.getElem?_map]
        have : σ.off j + k - (List.take (σ.off j + o) cur.toList).length = k - o := by simp; omega
        rw [this, ha]; rfl
      · rw [if_neg hk] at ha
        obtain ⟨h5, h6⟩ := b3 k a ha
        refine ⟨?_, h6⟩
        simp only [List.getElem?_toArray]
        rw [List.append_assoc]
        by_cases hlt : k < o
        · rw [List.getElem?_append_left (by simp; have := (Array.getElem?_eq_some_iff.1 h5).1; omega), List.getElem?_take, if_pos (by omega)]
          simpa using h5
        · have := (Array.getElem?_eq_some_iff.1 h5).1
          rw [List.getElem?_append_right (by simp; omega), List.getElem?_append_right (by simp [hlen]; omega), List.getElem?_drop]
          have e2 : σ.off j + o + (A.dens σ cs).length + (σ.off j + k - (List.take (σ.off j + o) cur.toList).length - (A.dens σ cs).length) = σ.off j + k := by simp [hlen]; omega
          rw [e2]
          simpa using h5
  · cases hs
theorem store_ok {ρ : Operand → Value} {env : Tr A} (he : EvalOk P σ env ρ) (r : Rel P.globals.size σ h w) {t : TypeId} {a x : Operand} {b : A} {k : H} (hs : storeO (tabOf P) env h t a x = some (b, k)) :
    ∃ v, (Instr.storeAt t (ρ a) (ρ x)).run P w = .ok () v ∧ Goes P.globals.size σ h w σ k v ∧ b = .tup [] ∧ k.nx = h.nx := by
  unfold storeO at hs
  split at hs
  · cases hs
  · rename_i p hp
    split at hs
    · cases hs
    · rename_i y hy
      split at hs
      · rename_i k' hk
        have := some_inj hs
        injection this with q1 q2
        subst q1 q2
        unfold storeA at hk
        split at hk
        · rename_i j o ti ht
          obtain ⟨h1, h2⟩ := cond_some hk
          have h1 := beq_e h1
          obtain ⟨e1, _⟩ := he a _ hp
          obtain ⟨e2, e3⟩ := he x _ hy
          obtain ⟨v, g1, g2, g3⟩ := storeC_ok r h2 (cells_ok e3)
          refine ⟨v, ?_, g2, rfl, g3⟩
          have hsz : ¬ (⟨A.dens σ y.cells⟩ : Array Value).size ≠ ti.size := by simp [dens_length, h1]
          simp only [Instr.storeAt, e1, e2, A.den, Option.map_some, Instr.sureAddr, Sem.run_bind, Sem.run_pure, Result.andThen_ok, storeVar, size_run ht, cells_den, if_neg hsz]
          exact g1
        · cases hk
      · cases hs
end
end Go.Proofs.YtibompboimeedaaGreatDoor.Ev
