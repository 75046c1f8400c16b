/-
  A list of rows in memory that grows: a row of two cells each, their cells in blocks of their own.
  A list of rows whose slice begins anywhere in a block of its own: one row more behind it; its first ones gone.
-/
import Derived.Test.YtalhlgiklochdaaDoorRowArgs
import Derived.Test.YtalhlgiklochdaaDoorStore
import Derived.Test.YtalhlgiklochdaaDoorStr
import Derived.Test.YtalhlgiklochdaaDoorSlAt
namespace Go.Proofs.YtalhlgiklochdaaDoor
open Go.ChangeShapes Go.WideShapes Go.ChangeAt Go.RowKit

theorem infoRow : (Tryd.prog.info? 31).map (fun i => (i.zero, i.size, i.bytes)) = some (some (.agg #[.slice none 0 0, .bool false]), 2, 32) := by kernel_rfl
/-- Rows one behind the other in a slice of the function's own. -/
structure RowsIn (W : World) (base : Nat) (v : Value) (xs : List RowIn) : Prop where
  own : W.ownsRow base 31 2 v xs.length (xs.flatMap RowIn.vals)
  each : ∀ x ∈ xs, HasC W 0 (.slice x.A x.n x.c) x.l ∧ ∀ c ∈ x.l, -2147483648 ≤ c.1 ∧ c.1 ≤ 2147483647
namespace RowsIn
variable {W W' : World} {base : Nat} {v v' : Value} {xs : List RowIn}
theorem nothing (W : World) (base : Nat) : RowsIn W base (.slice none 0 0) [] := ⟨World.ownsRow_nil W base _ _, fun _ h => by cases h⟩
theorem typed (h : RowsIn W base v xs) : ∀ k, v.ownBlock = some k → Typed W 31 k := by
  intro k hk
  rcases h.own.2 with ⟨e, _⟩ | ⟨g, cap, cur, e, _, e3, _⟩
  · rw [e] at hk; cases hk
  · rw [e] at hk
    injection hk with hk
    subst hk
    exact ⟨_, _, e3⟩
theorem turned {M : Nat → Prop} (h : RowsIn W base v xs) (ht : Turned M W W') (hv : ∀ k, v.ownBlock = some k → ¬ M k) (hc : ∀ k, M k → ¬ Typed W 45 k) : RowsIn W' base v xs := by
  refine ⟨⟨h.own.1, ?_⟩, fun x hx => ⟨?_, (h.each x hx).2⟩⟩
  · rcases h.own.2 with e | ⟨g, cap, cur, e, e2, e3, r⟩
    · exact .inl e
    · exact .inr ⟨g, cap, cur, e, e2, (ht.block g (Array.getElem?_eq_some_iff.1 e3).1 (hv g (by rw [e]; rfl))).trans e3, r⟩
  · have hx' := (h.each x hx).1
    refine ⟨hx'.1, ?_⟩
    rcases hx'.2 with e | ⟨g, cap, cur, e, e2, e3, r⟩
    · exact .inl e
    · exact .inr ⟨g, cap, cur, e, e2, (ht.block g (Array.getElem?_eq_some_iff.1 e3).1 (fun m => hc g m ⟨_, _, e3⟩)).trans e3, r⟩
theorem below (h : RowsIn W base v xs) (hb : Below W.heap.size W W') : RowsIn W' base v xs := h.turned (M := fun _ => False) (Turned.ofBelow hb _) (fun _ _ h => h) (fun _ h => h.elim)
/-- The slice in the next world after one row was put behind. -/
theorem snoc {x : RowIn} (h : RowsIn W base v xs) (hg : W.grownBy W' v.ownBlock) (ho : W'.ownsRow base 31 2 v' (xs.length + 1) (xs.flatMap RowIn.vals ++ x.vals)) (hx : HasC W 0 (.slice x.A x.n x.c) x.l) (hs : ∀ c ∈ x.l, -2147483648 ≤ c.1 ∧ c.1 ≤ 2147483647) : RowsIn W' base v' (xs ++ [x]) := by
  have ht := Turned.ofGrown hg
  have hc : ∀ k, v.ownBlock = some k → ¬ Typed W 45 k := fun k hk hty => (h.typed k hk).apart hty (by decide) rfl
  have one : ∀ y : RowIn, HasC W 0 (.slice y.A y.n y.c) y.l → HasC W' 0 (.slice y.A y.n y.c) y.l := fun y hy => by
    refine ⟨hy.1, ?_⟩
    rcases hy.2 with e | ⟨g, cap, cur, e, e2, e3, r⟩
    · exact .inl e
    · exact .inr ⟨g, cap, cur, e, e2, (ht.block g (Array.getElem?_eq_some_iff.1 e3).1 (fun m => hc g m ⟨_, _, e3⟩)).trans e3, r⟩
  refine ⟨?_, fun y hy => ?_⟩
  · rw [List.length_append, List.flatMap_append]
    simpa [List.flatMap_cons] using ho
  · rcases List.mem_append.1 hy with hy | hy
    · exact ⟨one y (h.each y hy).1, (h.each y hy).2⟩
    · rw [List.mem_singleton.1 hy]
      exact ⟨one x hx, hs⟩
theorem shape (h : RowsIn W base v xs) : ∃ A c, v = .slice A xs.length c ∧ xs.length ≤ c := by
  rcases h.own.2 with ⟨rfl, h0⟩ | ⟨g, cap, cur, rfl, _, _, hc, _⟩
  · rw [h0]; exact ⟨_, _, rfl, Nat.le_refl _⟩
  · exact ⟨_, _, rfl, hc⟩
/-- One of the rows. -/
theorem get {k : Nat} {x : RowIn} (h : RowsIn W base v xs) (hx : xs[k]? = some x) : ∃ g c, v = .slice (some ⟨g, 0, none⟩) xs.length c ∧ xs.length ≤ c ∧ base ≤ g ∧ g < W.heap.size ∧ W.cell? ⟨g, k * 2, none⟩ = some (.slice x.A x.n x.c) ∧ W.cell? ⟨g, k * 2 + 1, none⟩ = some (.bool x.wrap) := by
  have hk := (List.getElem?_eq_some_iff.1 hx).1
  obtain ⟨g, c, e, h1, h2, h3, hc⟩ := own_at h.own (by omega)
  exact ⟨g, c, e, h1, h2, h3, hc (k * 2) _ (by have := flatMap_get RowIn.vals 2 (fun _ => rfl) xs k x hx 0 _ rfl; simpa using this), hc (k * 2 + 1) _ (flatMap_get RowIn.vals 2 (fun _ => rfl) xs k x hx 1 _ rfl)⟩
theorem lt (h : RowsIn W base v xs) : ∀ k, v.ownBlock = some k → base ≤ k ∧ k < W.heap.size := fun k e => World.ownsRow.lt h.own k e
end RowsIn
theorem vals_one (x : RowIn) : ∀ u ∈ x.vals, u.oneCell' = true := by
  intro u hu
  unfold RowIn.vals at hu
  simp at hu
  rcases hu with rfl | rfl <;> rfl
end Go.Proofs.YtalhlgiklochdaaDoor
namespace Go.Proofs.YtalhlgiklochdaaDoor
open Go.ChangeShapes Go.WideShapes Go.ChangeAt Go.RowKit

/-- The slice v holds n rows, two cells each, in a block of rows at base or beyond, wherever it begins there. -/
def RwAt (w : World) (base : Nat) (v : Value) (n : Nat) (xs : List Value) : Prop :=
  xs.length = n * 2 ∧ ((v = .slice none 0 0 ∧ n = 0) ∨ ∃ b off cap cur, v = .slice (some ⟨b, off, none⟩) n cap ∧ base ≤ b ∧ w.heap[b]? = some (.cells cur 31 (0, 0)) ∧ n ≤ cap ∧ cap ≤ maxLen ∧ off + cap * 2 ≤ cur.size ∧ ∀ j u, xs[j]? = some u → cur[off + j]? = some u)
namespace RwAt
variable {w w' : World} {base : Nat} {v : Value} {n : Nat} {xs : List Value}
theorem nothing (w : World) (base : Nat) : RwAt w base (.slice none 0 0) 0 [] := ⟨rfl, .inl ⟨rfl, rfl⟩⟩
theorem type (h : RwAt w base v n xs) : ∀ k, v.ownBlock = some k → base ≤ k ∧ Typed w 31 k := by
  intro k hk
  rcases h.2 with ⟨rfl, _⟩ | ⟨b, off, cap, cur, rfl, hb, hg, _⟩
  · cases hk
  · injection hk with hk
    subst hk
    exact ⟨hb, cur, _, hg⟩
theorem lt (h : RwAt w base v n xs) : ∀ k, v.ownBlock = some k → base ≤ k ∧ k < w.heap.size := fun k hk =>
  let ⟨h1, _, _, h2⟩ := h.type k hk; ⟨h1, (Array.getElem?_eq_some_iff.1 h2).1⟩
theorem kept (h : RwAt w base v n xs) (k : ∀ b, v.ownBlock = some b → w'.heap[b]? = w.heap[b]?) : RwAt w' base v n xs := by
  refine ⟨h.1, ?_⟩
  rcases h.2 with h' | ⟨b, off, cap, cur, rfl, hb, hg, r⟩
  · exact .inl h'
  · exact .inr ⟨b, off, cap, cur, rfl, hb, (k b rfl).trans hg, r⟩
theorem shape (h : RwAt w base v n xs) : ∃ A c, v = .slice A n c ∧ n ≤ c := by
  rcases h.2 with ⟨rfl, h0⟩ | ⟨b, off, cap, cur, rfl, _, _, hc, _⟩
  · rw [h0]; exact ⟨_, _, rfl, Nat.le_refl _⟩
  · exact ⟨_, _, rfl, hc⟩
theorem cell (h : RwAt w base v n xs) {j : Nat} {u : Value} (hu : xs[j]? = some u) : ∃ b off cap, v = .slice (some ⟨b, off, none⟩) n cap ∧ n ≤ cap ∧ base ≤ b ∧ b < w.heap.size ∧ w.cell? ⟨b, off + j, none⟩ = some u := by
  rcases h.2 with ⟨rfl, h0⟩ | ⟨b, off, cap, cur, rfl, hb, hg, hc, _, _, hx⟩
  · have := (List.getElem?_eq_some_iff.1 hu).1
    have := h.1
    omega
  · exact ⟨b, off, cap, rfl, hc, hb, (Array.getElem?_eq_some_iff.1 hg).1, (cell_of_row w b _ _ _ (0, 0) hg).trans (hx j u hu)⟩
/-- Its first k rows are left out. -/
theorem cut {b off cap k : Nat} (h : RwAt w base (.slice (some ⟨b, off, none⟩) n cap) n xs) (hk : k ≤ n) : RwAt w base (.slice (some ⟨b, off + k * 2, none⟩) (n - k) (cap - k)) (n - k) (xs.drop (k * 2)) := by
  refine ⟨by rw [List.length_drop, h.1]; omega, .inr ?_⟩
  rcases h.2 with ⟨e, _⟩ | ⟨b', off1, cap', cur, e1, hb, hg, hc, hm, hs, hx⟩
  · cases e
  · injection e1 with e1 _ e3
    injection e1 with e1
    injection e1 with e1 e2
    subst e1 e2 e3
    refine ⟨b, off + k * 2, cap - k, cur, rfl, hb, hg, by omega, by omega, by omega, fun j u hu => ?_⟩
    rw [List.getElem?_drop] at hu
    rw [Nat.add_assoc]
    exact hx _ _ hu
/-- None is left, and no room. -/
theorem none_left {b off cap : Nat} (h : RwAt w base (.slice (some ⟨b, off, none⟩) n cap) n xs) : RwAt w base (.slice (some ⟨b, off, none⟩) 0 0) 0 [] := by
  refine ⟨rfl, .inr ?_⟩
  rcases h.2 with ⟨e, _⟩ | ⟨b', off1, cap', cur, e1, hb, hg, hc, hm, hs, hx⟩
  · cases e
  · injection e1 with e1 _ e3
    injection e1 with e1
    injection e1 with e1 e2
    subst e1 e2 e3
    exact ⟨b, off, 0, cur, rfl, hb, hg, Nat.le_refl _, Nat.zero_le _, by omega, fun j y hy => by simp at hy⟩
end RwAt
/-- append of one row, wherever the slice begins. -/
theorem run_rwAt {P : Program} (w : World) (base : Nat) (t ty : TypeId) (i : TypeInfo) (z : Value) (ht : P.underlying t = some (.slice 31)) (hi : P.info? 31 = some i) (hz : i.zero = some z) (hsize : i.size = 2) (hby : i.bytes = 32) (hzs : z.cells.size = 2)
    (v : Value) (n : Nat) (xs : List Value) (h : RwAt w base v n xs) (a : Addr) (c : Nat) (u0 u1 : Value) (ha : ∀ j x, [u0, u1][j]? = some x → w.cell? (a.add j) = some x) (h1 : ∀ x ∈ [u0, u1], x.oneCell' = true) (h63 : n + 1 ≤ maxLen) (hbytes : (n + 1) * 32 ≤ 140737488355328) (hbase : base ≤ w.heap.size) :
    ∃ v' w', (Builtin.append_ #[t, t] ty #[v, .slice (some a) 1 c]).run P w = .ok v' w' ∧ RwAt w' base v' (n + 1) (xs ++ [u0, u1]) ∧ w.grownBy w' v.ownBlock ∧ (v'.ownBlock = v.ownBlock ∨ v'.ownBlock = some w.heap.size) := by
  have hfresh : ∀ (cap : Nat) (cs : Array Value), n + 1 ≤ cap → cap ≤ maxLen → cs.size = cap * 2 → (∀ j x, (xs ++ [u0, u1])[j]? = some x → cs[0 + j]? = some x) →
      RwAt (w.drew.alloc (.cells cs 31)) base (.slice (some ⟨w.heap.size, 0, none⟩) (n + 1) cap) (n + 1) (xs ++ [u0, u1]) := fun cap cs h2 h3 h4 h5 =>
    ⟨by simp [h.1]; omega, .inr ⟨w.heap.size, 0, cap, cs, rfl, hbase, heap_alloc_new w.drew _, h2, h3, by omega, h5⟩⟩
  unfold maxLen at h63
  rcases h.2 with ⟨rfl, rfl⟩ | ⟨b, off, cap, cur, rfl, hb, hg, hc, hm, hs, hx⟩
  · have hxs : xs = [] := List.eq_nil_of_length_eq_zero (by have := h.1; omega)
    have hr := run_append_nil (P := P) w t ty 31 i z ht hi hz a 1 c [u0, u1] (by simp [hsize]) ha (by omega) (by omega) (by omega)
    have hge := grownCap_ge w 1 0 31
    refine ⟨_, _, hr, hfresh _ _ (by simpa using hge) (grownCap_le_maxLen w 1 0 31 (by unfold maxLen; omega)) (by rw [Array.size_append, size_zeroCells, hzs]; simp; omega) (fun j x hj => ?_), grownBy_drewAlloc _ _ _, .inr rfl⟩
    rw [hxs, List.nil_append] at hj
    have hjl := (List.getElem?_eq_some_iff.1 hj).1
    rw [Nat.zero_add, Array.getElem?_append_left (by simpa using hjl)]
    simpa using hj
  · by_cases hroom : n + 1 ≤ cap
    · have hr := run_append_room_src (P := P) w t t ty 31 i ht hi b off n cap (.slice (some a) 1 c) 1 [u0, u1] (Src.ofSlice w ht a 1 c [u0, u1] (by simp [hsize]) ha h1) hroom (fun j hj => by
        have hj2 : j < 2 := by simpa using hj
        rw [hsize, cell_of_row w b _ cur _ (0, 0) hg, Array.getElem?_eq_getElem (by omega)]
        rfl) (fun j hj => by rw [frozen_of_row w b _ cur _ hg])
      rw [hsize] at hr
      have hc1 := heap_setCell_same w b (off + n * 2) _ _ u0 hg
      have hc2 := heap_setCell_same _ b (off + n * 2 + 1) _ _ u1 hc1
      refine ⟨_, _, hr, ⟨by simp [h.1]; omega, .inr ⟨b, off, cap, _, rfl, hb, hc2, hroom, hm, by simpa using hs, fun j x hj => ?_⟩⟩, ⟨rfl, rfl, rfl, by simp [World.setCells], fun k _ hk => (Below.heap_setCell _ _ _ _ (fun e => hk (by rw [e]; rfl))).trans (Below.heap_setCell _ _ _ _ (fun e => hk (by rw [e]; rfl)))⟩, .inl rfl⟩
      by_cases hjn : j < n * 2
      · rw [List.getElem?_append_left (by rw [h.1]; exact hjn)] at hj
        rw [Array.getElem?_setIfInBounds_ne (by omega), Array.getElem?_setIfInBounds_ne (by omega)]
        exact hx j x hj
      · rw [List.getElem?_append_right (by rw [h.1]; omega), h.1] at hj
        have hj2 := (List.getElem?_eq_some_iff.1 hj).1
        simp only [List.length_cons, List.length_nil] at hj2
        have hcs : j - n * 2 = 0 ∨ j - n * 2 = 1 := by omega
        rcases hcs with h0 | h0
        · rw [h0] at hj
          simp at hj
          subst hj
          rw [show off + j = off + n * 2 by omega, Array.getElem?_setIfInBounds_ne (by omega), Array.getElem?_setIfInBounds_self_of_lt (by omega)]
        · rw [h0] at hj
          simp at hj
          subst hj
          rw [show off + j = off + n * 2 + 1 by omega, Array.getElem?_setIfInBounds_self_of_lt (by simp; omega)]
    · have hr := run_append_grow (P := P) w t ty 31 i z ht hi hz ⟨b, off, none⟩ n cap xs (by rw [hsize, h.1]) (fun j x hj => by
        rw [add_spot, cell_of_row w b (off + j) cur _ (0, 0) hg]
        exact hx j x hj) a 1 c [u0, u1] (by simp [hsize]) ha (by omega) (by omega) (growslice_one (by omega) (by rw [hby]; exact hbytes))
      have hge := grownCap_ge w (n + 1) cap 31
      refine ⟨_, _, hr, hfresh _ _ hge (grownCap_le_maxLen w (n + 1) cap 31 (by unfold maxLen; omega)) (by
        rw [Array.size_append, Array.size_append, size_zeroCells, hzs]
        simp [h.1]
        omega) (fun j x hj => ?_), grownBy_drewAlloc _ _ _, .inr rfl⟩
      have hjl := (List.getElem?_eq_some_iff.1 hj).1
      rw [Nat.zero_add, Array.getElem?_append_left (by simpa using hjl)]
      simpa using hj
theorem wpl_rwAt {P : Program} {w : World} {ops : Array Oper} {rest : List Oper} {o : Oper} {a : Act} {Q : Exit → Act → World → Prop} (hgd : o.guard = none) (s x : Operand) (t : TypeId)
    (ho : o.op = .call { callee := .builtin .append, args := #[s, x], argTypes := #[t, t] })
    (base : Nat) (i : TypeInfo) (z : Value) (ht : P.underlying t = some (.slice 31)) (hi : P.info? 31 = some i) (hz : i.zero = some z) (hsize : i.size = 2) (hby : i.bytes = 32) (hzs : z.cells.size = 2)
    (v : Value) (n : Nat) (xs : List Value) (hs : a.eval s = v) (hv : RwAt w base v n xs) (ad : Addr) (c : Nat) (u0 u1 : Value) (hx : a.eval x = .slice (some ad) 1 c) (ha : ∀ j x, [u0, u1][j]? = some x → w.cell? (ad.add j) = some x) (h1 : ∀ x ∈ [u0, u1], x.oneCell' = true) (h63 : n + 1 ≤ maxLen) (hbytes : (n + 1) * 32 ≤ 140737488355328) (hbase : base ≤ w.heap.size)
    (h : ∀ v' w', RwAt w' base v' (n + 1) (xs ++ [u0, u1]) → w.grownBy w' v.ownBlock → (v'.ownBlock = v.ownBlock ∨ v'.ownBlock = some w.heap.size) → wpList P ops Q rest (a.put o.dst v') w') : wpList P ops Q (o :: rest) a w := by
  obtain ⟨v', w', hrun, h2, h3, h4⟩ := run_rwAt (P := P) w base t o.type i z ht hi hz hsize hby hzs v n xs hv ad c u0 u1 ha h1 h63 hbytes hbase
  refine wpList_plain hgd fun K hK => ?_
  unfold Oper.wp
  simp only [execOp, ho, resolve, invoke, builtin, Sem.run_bind, Sem.run_pure, Result.andThen_ok, List.map_toArray, List.map_cons, List.map_nil, hs, hx, hrun]
  exact hK _ _ (h v' w' h2 h3 h4)
end Go.Proofs.YtalhlgiklochdaaDoor
