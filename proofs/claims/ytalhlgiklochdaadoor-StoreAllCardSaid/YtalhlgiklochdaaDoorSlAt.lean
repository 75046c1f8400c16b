/-
  A slice of one-cell elements that begins anywhere in a block of its own; one more element behind it; its first one gone.
-/
import Derived.Test.YtalhlgiklochdaaDoorApp
import Derived.Deep.AppendSrc
namespace Go.Proofs.YtalhlgiklochdaaDoor
open Go.ChangeShapes Go.WideShapes Go.ChangeAt Go.RowKit

/-- The slice v holds the n cells xs, in a block at base or beyond, wherever it begins there. -/
def SlAt (w : World) (base : Nat) (e : TypeId) (v : Value) (n : Nat) (xs : List Value) : Prop :=
  xs.length = n ∧ ((v = .slice none 0 0 ∧ n = 0) ∨ ∃ b off cap cur, v = .slice (some ⟨b, off, none⟩) n cap ∧ base ≤ b ∧ w.heap[b]? = some (.cells cur e (0, 0)) ∧ n ≤ cap ∧ cap ≤ maxLen ∧ off + cap ≤ cur.size ∧ ∀ j u, xs[j]? = some u → cur[off + j]? = some u)
namespace SlAt
variable {w w' : World} {base : Nat} {e : TypeId} {v : Value} {n : Nat} {xs : List Value}
theorem nothing (w : World) (base : Nat) (e : TypeId) : SlAt w base e (.slice none 0 0) 0 [] := ⟨rfl, .inl ⟨rfl, rfl⟩⟩
theorem type (h : SlAt w base e v n xs) : ∀ k, v.ownBlock = some k → base ≤ k ∧ ∃ cur, w.heap[k]? = some (.cells cur e (0, 0)) := by
  intro k hk
  rcases h.2 with ⟨rfl, _⟩ | ⟨b, off, cap, cur, rfl, hb, hg, _⟩
  · cases hk
  · injection hk with hk
    subst hk
    exact ⟨hb, cur, hg⟩
theorem lt (h : SlAt w base e v n xs) : ∀ k, v.ownBlock = some k → base ≤ k ∧ k < w.heap.size := fun k hk =>
  let ⟨h1, _, h2⟩ := h.type k hk; ⟨h1, (Array.getElem?_eq_some_iff.1 h2).1⟩
theorem kept (h : SlAt w base e v n xs) (k : ∀ b, v.ownBlock = some b → w'.heap[b]? = w.heap[b]?) : SlAt w' base e v n xs := by
  refine ⟨h.1, ?_⟩
  rcases h.2 with h' | ⟨b, off, cap, cur, rfl, hb, hg, r⟩
  · exact .inl h'
  · exact .inr ⟨b, off, cap, cur, rfl, hb, (k b rfl).trans hg, r⟩
theorem mono {base' : Nat} (h : SlAt w base e v n xs) (hb : base' ≤ base) : SlAt w base' e v n xs := by
  refine ⟨h.1, ?_⟩
  rcases h.2 with h' | ⟨b, off, cap, cur, rfl, hb', r⟩
  · exact .inl h'
  · exact .inr ⟨b, off, cap, cur, rfl, Nat.le_trans hb hb', r⟩
theorem shape (h : SlAt w base e v n xs) : ∃ A c, v = .slice A n c ∧ n ≤ c := by
  rcases h.2 with ⟨rfl, h0⟩ | ⟨b, off, cap, cur, rfl, _, _, hc, _⟩
  · rw [h0]; exact ⟨_, _, rfl, Nat.le_refl _⟩
  · exact ⟨_, _, rfl, hc⟩
/-- One of its cells. -/
theorem cell (h : SlAt w base e v n xs) {j : Nat} {u : Value} (hu : xs[j]? = some u) : ∃ b off cap, v = .slice (some ⟨b, off, none⟩) n cap ∧ n ≤ cap ∧ base ≤ b ∧ b < w.heap.size ∧ w.cell? ⟨b, off + j, none⟩ = some u ∧ w.frozen? ⟨b, off + j, none⟩ = false := by
  rcases h.2 with ⟨rfl, h0⟩ | ⟨b, off, cap, cur, rfl, hb, hg, hc, _, _, hx⟩
  · have := (List.getElem?_eq_some_iff.1 hu).1
    have := h.1
    omega
  · exact ⟨b, off, cap, rfl, hc, hb, (Array.getElem?_eq_some_iff.1 hg).1, (cell_of_row w b _ _ e (0, 0) hg).trans (hx j u hu), frozen_of_row w b _ _ _ hg⟩
/-- Its first cell is written over, and it begins behind it. -/
theorem tail {b off cap : Nat} {x u : Value} (h : SlAt w base e (.slice (some ⟨b, off, none⟩) (n + 1) cap) (n + 1) (x :: xs)) (off' : Nat) (ho : off' = off + 1 ∨ (cap = 1)) :
    SlAt (w.setCell ⟨b, off, none⟩ u) base e (.slice (some ⟨b, off', none⟩) n (cap - 1)) n xs ∨ off' ≠ off + 1 := by
  by_cases hoff : off' = off + 1
  · left
    subst hoff
    refine ⟨by have := h.1; simpa using this, .inr ?_⟩
    rcases h.2 with ⟨_, h0⟩ | ⟨b', off1, cap', cur, e1, hb, hg, hc, hm, hs, hx⟩
    · omega
    · injection e1 with e1 _ e3
      injection e1 with e1
      injection e1 with e1 e2
      subst e1 e2 e3
      refine ⟨b, off + 1, cap - 1, _, rfl, hb, heap_setCell_same w b off _ _ u hg, by omega, by omega, by simp; omega, fun j y hy => ?_⟩
      have := hx (j + 1) y (by simpa using hy)
      rw [show off + (j + 1) = off + 1 + j by omega] at this
      rw [Array.getElem?_setIfInBounds_ne (by omega)]
      exact this
  · exact .inr hoff
/-- None of its cells is left: it may begin anywhere. -/
theorem empty {b off off' cap : Nat} {m : Nat} {ys : List Value} (h : SlAt w base e (.slice (some ⟨b, off, none⟩) m cap) m ys) (ho : off' ≤ off) (u : Value) :
    SlAt (w.setCell ⟨b, off, none⟩ u) base e (.slice (some ⟨b, off', none⟩) 0 0) 0 [] := by
  refine ⟨rfl, .inr ?_⟩
  rcases h.2 with ⟨e1, h0⟩ | ⟨b', off1, cap', cur, e1, hb, hg, hc, hm, hs, hx⟩
  · cases e1
  · injection e1 with e1 _ e3
    injection e1 with e1
    injection e1 with e1 e2
    subst e1 e2 e3
    exact ⟨b, off', 0, _, rfl, hb, heap_setCell_same w b off _ _ u hg, Nat.le_refl _, Nat.zero_le _, by simp; omega, fun j y hy => by simp at hy⟩
end SlAt
theorem grownBy_drewAlloc (w : World) (o : Obj) (row : Option Nat) : w.grownBy (w.drew.alloc o) row :=
  ⟨rfl, rfl, rfl, by simp, fun k hk _ => Below.heap_alloc w.drew o k hk⟩
theorem growslice_one {need old bytes : Nat} (h : old < need) (hb : need * bytes ≤ 140737488355328) : Builtin.nextslicecap need old * bytes ≤ 281474976710656 := growslice_fits h hb
/-- append of one element, wherever the slice begins. -/
theorem run_slAt {P : Program} (w : World) (base : Nat) (t ty e : TypeId) (i : TypeInfo) (z : Value) (bytes : Nat) (ht : P.underlying t = some (.slice e)) (hi : P.info? e = some i) (hz : i.zero = some z) (hsize : i.size = 1) (hby : i.bytes = bytes) (hzs : z.cells.size = 1)
    (v : Value) (n : Nat) (xs : List Value) (h : SlAt w base e v n xs) (a : Addr) (c : Nat) (u : Value) (ha : w.cell? a = some u) (h1 : u.oneCell' = true) (h63 : n + 1 ≤ maxLen) (hbytes : (n + 1) * bytes ≤ 140737488355328) (hbase : base ≤ w.heap.size) :
    ∃ v' w', (Builtin.append_ #[t, t] ty #[v, .slice (some a) 1 c]).run P w = .ok v' w' ∧ SlAt w' base e v' (n + 1) (xs ++ [u]) ∧ w.grownBy w' v.ownBlock ∧ (v'.ownBlock = v.ownBlock ∨ v'.ownBlock = some w.heap.size) := by
  have hnews : ∀ j x, [u][j]? = some x → w.cell? (a.add j) = some x := by
    intro j x hx
    match j, hx with
    | 0, hx =>
      simp at hx
      subst hx
      have : a.add 0 = a := by unfold Addr.add; split <;> simp_all
      rw [this]
      exact ha
  have hone : ∀ x ∈ [u], x.oneCell' = true := by
    intro x hx
    simp at hx
    subst hx
    exact h1
  have hfresh : ∀ (cap : Nat) (cs : Array Value), n + 1 ≤ cap → cap ≤ maxLen → cs.size = cap → (∀ j x, (xs ++ [u])[j]? = some x → cs[0 + j]? = some x) →
      SlAt (w.drew.alloc (.cells cs e)) base e (.slice (some ⟨w.heap.size, 0, none⟩) (n + 1) cap) (n + 1) (xs ++ [u]) := fun cap cs h2 h3 h4 h5 =>
    ⟨by simp [h.1], .inr ⟨w.heap.size, 0, cap, cs, rfl, hbase, heap_alloc_new w.drew _, h2, h3, by omega, h5⟩⟩
  unfold maxLen at h63
  rcases h.2 with ⟨rfl, rfl⟩ | ⟨b, off, cap, cur, rfl, hb, hg, hc, hm, hs, hx⟩
  · have hxs : xs = [] := List.eq_nil_of_length_eq_zero h.1
    have hr := run_append_nil (P := P) w t ty e i z ht hi hz a 1 c [u] (by simp [hsize]) hnews (by omega) (by omega) (by omega)
    have hge := grownCap_ge w 1 0 e
    refine ⟨_, _, hr, hfresh _ _ (by simpa using hge) (grownCap_le_maxLen w 1 0 e (by unfold maxLen; omega)) (by rw [Array.size_append, size_zeroCells, hzs]; simp; omega) (fun j x hj => ?_), grownBy_drewAlloc _ _ _, .inr rfl⟩
    rw [hxs] at hj
    match j, hj with
    | 0, hj => rw [Array.getElem?_append_left (by simp)]; simpa using hj
  · by_cases hroom : n + 1 ≤ cap
    · have hcell : (w.cell? ⟨b, off + n, none⟩).isSome = true := by
        rw [cell_of_row w b (off + n) cur e (0, 0) hg, Array.getElem?_eq_getElem (by omega)]
        rfl
      have hr := run_append_room_src (P := P) w t t ty e i ht hi b off n cap (.slice (some a) 1 c) 1 [u] (Src.ofSlice w ht a 1 c [u] (by simp [hsize]) hnews hone) hroom (fun j hj => by
        have : j = 0 := by simpa using hj
        subst this
        simpa [hsize] using hcell) (fun j hj => by rw [frozen_of_row w b _ cur e hg])
      rw [hsize, Nat.mul_one] at hr
      refine ⟨_, _, hr, ⟨by simp [h.1], .inr ⟨b, off, cap, _, rfl, hb, heap_setCell_same w b (off + n) _ _ u hg, hroom, hm, by simpa using hs, fun j x hj => ?_⟩⟩, ⟨rfl, rfl, rfl, by simp [World.setCells], fun k _ hk => Below.heap_setCell _ _ _ _ (fun e => hk (by rw [e]; rfl))⟩, .inl rfl⟩
      by_cases hjn : j < n
      · rw [List.getElem?_append_left (by rw [h.1]; exact hjn)] at hj
        rw [Array.getElem?_setIfInBounds_ne (by omega)]
        exact hx j x hj
      · rw [List.getElem?_append_right (by rw [h.1]; omega), h.1] at hj
        have hj0 : j - n = 0 := by
          have := (List.getElem?_eq_some_iff.1 hj).1
          simpa using this
        rw [hj0] at hj
        simp at hj
        subst hj
        rw [show off + j = off + n by omega, Array.getElem?_setIfInBounds_self_of_lt (by omega)]
    · have hr := run_append_grow (P := P) w t ty e i z ht hi hz ⟨b, off, none⟩ n cap xs (by simp [hsize, h.1]) (fun j x hj => by
        rw [add_spot, cell_of_row w b (off + j) cur e (0, 0) hg]
        exact hx j x hj) a 1 c [u] (by simp [hsize]) hnews (by omega) (by omega) (growslice_one (by omega) (by rw [hby]; exact hbytes))
      have hge := grownCap_ge w (n + 1) cap e
      refine ⟨_, _, hr, hfresh _ _ hge (grownCap_le_maxLen w (n + 1) cap e (by unfold maxLen; omega)) (by
        rw [Array.size_append, Array.size_append, size_zeroCells, hzs]
        simp [h.1]
        omega) (fun j x hj => ?_), grownBy_drewAlloc _ _ _, .inr rfl⟩
      have hjl := (List.getElem?_eq_some_iff.1 hj).1
      rw [Nat.zero_add, Array.getElem?_append_left (by simpa using hjl)]
      simpa using hj
/-- append of one element, at a plain statement. -/
theorem wpl_slAt {P : Program} {w : World} {ops : Array Oper} {rest : List Oper} {o : Oper} {a : Act} {Q : Exit → Act → World → Prop} (hgd : o.guard = none) (s x : Operand) (t : TypeId)
    (ho : o.op = .call { callee := .builtin .append, args := #[s, x], argTypes := #[t, t] })
    (base : Nat) (e : TypeId) (i : TypeInfo) (z : Value) (bytes : Nat) (ht : P.underlying t = some (.slice e)) (hi : P.info? e = some i) (hz : i.zero = some z) (hsize : i.size = 1) (hby : i.bytes = bytes) (hzs : z.cells.size = 1)
    (v : Value) (n : Nat) (xs : List Value) (hs : a.eval s = v) (hv : SlAt w base e v n xs) (ad : Addr) (c : Nat) (u : Value) (hx : a.eval x = .slice (some ad) 1 c) (ha : w.cell? ad = some u) (h1 : u.oneCell' = true) (h63 : n + 1 ≤ maxLen) (hbytes : (n + 1) * bytes ≤ 140737488355328) (hbase : base ≤ w.heap.size)
    (h : ∀ v' w', SlAt w' base e v' (n + 1) (xs ++ [u]) → w.grownBy w' v.ownBlock → (v'.ownBlock = v.ownBlock ∨ v'.ownBlock = some w.heap.size) → wpList P ops Q rest (a.put o.dst v') w') : wpList P ops Q (o :: rest) a w := by
  obtain ⟨v', w', hrun, h2, h3, h4⟩ := run_slAt (P := P) w base t o.type e i z bytes ht hi hz hsize hby hzs v n xs hv ad c u ha h1 h63 hbytes hbase
  refine wpList_plain hgd fun K hK => ?_
  unfold Oper.wp
  simp only [execOp, ho, resolve, invoke, builtin, Sem.run_bind, Sem.run_pure, Result.andThen_ok, List.map_toArray, List.map_cons, List.map_nil, hs, hx, hrun]
  exact hK _ _ (h v' w' h2 h3 h4)
end Go.Proofs.YtalhlgiklochdaaDoor
