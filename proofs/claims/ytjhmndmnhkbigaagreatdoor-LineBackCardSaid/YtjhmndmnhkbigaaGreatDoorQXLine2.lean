/-
  Rows of one width, each in a block of its own, all apart: a cell put into one of them, one that goes on, one more.
-/
import Derived.Test.YtjhmndmnhkbigaaGreatDoorQXLine1
import Derived.Test.YtjhmndmnhkbigaaGreatDoorQXRow0
namespace Go.Proofs.YtjhmndmnhkbigaaGreatDoor
open Go.ChangeShapes Go.WideShapes Go.ChangeAt Go.RowKit
namespace Ln
open Rw
structure Sheet (W : World) (B : Nat) (v : Value) (wv : Nat) (rs : List RowIn) : Prop where
 own : Own W B v rs
 row : ∀ r ∈ rs, r.n = wv ∧ r.l.length = wv ∧ ∃ g, r.A = some ⟨g, 0, none⟩
 apart : (rs.map RowIn.A).Nodup
def put3 (W : World) (g j : Nat) (x : Cel) : World := ((W.setCell ⟨g, j * 3, none⟩ (.int .i32 x.1)).setCell ⟨g, j * 3 + 1, none⟩ (.int .i64 x.2.1)).setCell ⟨g, j * 3 + 2, none⟩ (.int .i64 x.2.2)
theorem put3_other (W : World) (g j : Nat) (x : Cel) {k : Nat} (h : k ≠ g) : (put3 W g j x).heap[k]? = W.heap[k]? :=
 (Below.heap_setCell _ _ _ _ h).trans ((Below.heap_setCell _ _ _ _ h).trans (Below.heap_setCell _ _ _ _ h))
theorem mem_set {α : Type} {l : List α} {k : Nat} {a y : α} (h : y ∈ l.set k a) : y = a ∨ ∃ i, i ≠ k ∧ l[i]? = some y := by
 obtain ⟨i, hi⟩ := List.mem_iff_getElem?.1 h
 rw [List.getElem?_set] at hi
 split at hi
 ·split at hi
  ·cases hi; exact .inl rfl
  ·cases hi
 ·exact .inr ⟨i, fun e => by omega, hi⟩
theorem vals_wrap : ∀ (rs : List RowIn) (k : Nat) (r : RowIn) (b : Bool), rs[k]? = some r → (rs.flatMap RowIn.vals).set (k * 2 + 1) (.bool b) = (rs.set k { r with wrap := b }).flatMap RowIn.vals
 | [], k, r, b, h => by simp at h
 | x :: rs, 0, r, b, h => by
  simp at h
  subst h
  rfl
 | x :: rs, k + 1, r, b, h => by
  have ih := vals_wrap rs k r b (by simpa using h)
  rw [List.set_cons_succ, List.flatMap_cons, List.flatMap_cons, ← ih]
  show (Value.slice x.A x.n x.c :: Value.bool x.wrap :: rs.flatMap RowIn.vals).set ((k + 1) * 2 + 1) _ = Value.slice x.A x.n x.c :: Value.bool x.wrap :: (rs.flatMap RowIn.vals).set (k * 2 + 1) _
  rw [show (k + 1) * 2 + 1 = k * 2 + 1 + 1 + 1 by omega, List.set_cons_succ, List.set_cons_succ]
theorem vals_cells : ∀ (rs : List RowIn) (k : Nat) (r : RowIn) (m : List Cel), rs[k]? = some r → (rs.set k { r with l := m }).flatMap RowIn.vals = rs.flatMap RowIn.vals
 | [], k, r, m, h => by simp at h
 | x :: rs, 0, r, m, h => by
  simp at h
  subst h
  rfl
 | x :: rs, k + 1, r, m, h => by
  rw [List.set_cons_succ, List.flatMap_cons, List.flatMap_cons, vals_cells rs k r m (by simpa using h)]
theorem map_set {β : Type} (f : RowIn → β) {rs : List RowIn} {k : Nat} {r r' : RowIn} (h : rs[k]? = some r) (e : f r' = f r) : (rs.set k r').map f = rs.map f := by
 rw [List.map_set, e]
 refine List.ext_getElem? fun i => ?_
 rw [List.getElem?_set]
 split
 ·subst_vars
  rw [List.getElem?_map, h]
  have := (List.getElem?_eq_some_iff.1 h).1
  simp [this]
 ·rfl
namespace Sheet
variable {W W' : World} {B wv : Nat} {v v' : Value} {rs : List RowIn}
theorem keep (h : Sheet W B v wv rs) (hk : ∀ j, B ≤ j → j < W.heap.size → W'.heap[j]? = W.heap[j]?) : Sheet W' B v wv rs := ⟨h.own.keep hk, h.row, h.apart⟩
theorem laid (h : Sheet W B v wv rs) (hb : Laid W W') : Sheet W' B v wv rs := ⟨h.own.laid hb, h.row, h.apart⟩
theorem keepT (h : Sheet W B v wv rs) (h2 : 2 ≤ wv) (hk : ∀ (j : Nat) (cs : Array Value) (ty : TypeId), W.heap[j]? = some (.cells cs ty (0, 0)) → (ty = 48 ∨ ty = 52 ∧ cs.size ≠ 3) → W'.heap[j]? = W.heap[j]?) : Sheet W' B v wv rs := by
 refine ⟨⟨own_keep h.own.own fun j hj => ?_, fun r hr => ?_⟩, h.row, h.apart⟩
 ·rcases h.own.own.2 with ⟨rfl, _⟩ | ⟨g, cap, cur, rfl, _, hg, _⟩
  ·cases hj
  ·injection hj with hj
   subst hj
   exact hk _ _ _ hg (.inl rfl)
 ·obtain ⟨k1, k2⟩ := h.own.each r hr
  obtain ⟨e1, e2, -⟩ := h.row r hr
  have kk : W.ownsRow B 52 3 (.slice r.A r.n r.c) r.l.length (flat r.l) := k1
  refine ⟨own_keep kk fun j hj => ?_, k2⟩
  rcases kk.2 with ⟨_, h0⟩ | ⟨g, cap, cur, e, _, hg, hc, _, hz, _⟩
  ·omega
  ·rw [e] at hj
   injection hj with hj
   have hj' : g = j := hj
   subst hj'
   exact hk _ _ _ hg (.inr ⟨rfl, by omega⟩)
theorem ne (h : Sheet W B v wv rs) {i k : Nat} {y r : RowIn} (hy : rs[i]? = some y) (hr : rs[k]? = some r) (hik : i ≠ k) : y.A ≠ r.A := by
 intro e
 have hi : i < (rs.map RowIn.A).length := by have := (List.getElem?_eq_some_iff.1 hy).1; simpa using this
 exact hik ((List.getElem?_inj hi h.apart).1 (by rw [List.getElem?_map, List.getElem?_map, hy, hr]; simp [e]))
theorem put (h : Sheet W B v wv rs) {k j g : Nat} {r : RowIn} (hr : rs[k]? = some r) (hg : r.A = some ⟨g, 0, none⟩) (x : Cel) (hx : -2147483648 ≤ x.1 ∧ x.1 ≤ 2147483647) :
  Sheet (put3 W g j x) B v wv (rs.set k { r with l := r.l.set j x }) := by
 obtain ⟨rA, rn, rc, rb, rl⟩ := r
 dsimp only at hg
 subst hg
 obtain ⟨h1, h2, h3⟩ := h.own.each _ (List.mem_of_getElem? hr)
 have hh : W.ownsRow B 52 3 (.slice (some ⟨g, 0, none⟩) rn rc) rl.length (flat rl) := h1
 obtain ⟨hn, hl, -⟩ := h.row _ (List.mem_of_getElem? hr)
 dsimp only at hn hl h2
 have hln : rn = rl.length := by rw [hn, hl]
 subst hln
 refine ⟨⟨?_, fun y hy => ?_⟩, fun y hy => ?_, ?_⟩
 ·rw [List.length_set, vals_cells _ _ _ _ hr]
  exact own_keep h.own.own fun q hq => put3_other _ _ _ _ (fun e => own_ne h.own.own hh (by decide) q hq (by rw [e]; rfl))
 ·rcases mem_set hy with rfl | ⟨i, hi, hy⟩
  ·refine ⟨?_, fun c hc => ?_, h3⟩
   ·show World.ownsRow _ _ _ _ _ (rl.set j x).length (flat (rl.set j x))
    have e1 := (hh.stored (j * 3) (.int .i32 x.1)).1
    have e2 := (e1.stored (j * 3 + 1) (.int .i64 x.2.1)).1
    have e3 := (e2.stored (j * 3 + 2) (.int .i64 x.2.2)).1
    rw [flat_set] at e3
    rw [List.length_set]
    exact e3
   ·rcases List.mem_or_eq_of_mem_set hc with hc | rfl
    ·exact h2 _ hc
    ·exact hx
  ·obtain ⟨k1, k2, k3⟩ := h.own.each _ (List.mem_of_getElem? hy)
   have kk : W.ownsRow B 52 3 (.slice y.A y.n y.c) y.l.length (flat y.l) := k1
   obtain ⟨-, -, gy, ey⟩ := h.row _ (List.mem_of_getElem? hy)
   have hne := h.ne hy hr hi
   refine ⟨own_keep kk fun q hq => put3_other _ _ _ _ (fun e => ?_), k2, k3⟩
   rw [ey] at hq hne
   injection hq with hq
   have hq' : gy = q := hq
   subst hq' e
   exact hne rfl
 ·rcases mem_set hy with rfl | ⟨i, hi, hy⟩
  ·exact ⟨hn, by show (rl.set j x).length = wv; rw [List.length_set]; exact hl, g, rfl⟩
  ·exact h.row _ (List.mem_of_getElem? hy)
 ·refine (congrArg List.Nodup (map_set RowIn.A hr ?_)).mpr h.apart
  rfl
theorem goesOn {g n c k : Nat} (h : Sheet W B (.slice (some ⟨g, 0, none⟩) n c) wv rs) {r : RowIn} (hr : rs[k]? = some r) (b : Bool) : Sheet (W.setCell ⟨g, k * 2 + 1, none⟩ (.bool b)) B (.slice (some ⟨g, 0, none⟩) n c) wv (rs.set k { r with wrap := b }) := by
 obtain ⟨e, _⟩ := h.own.rws
 subst e
 have ho := h.own.own
 have hm : ∀ y ∈ rs.set k { r with wrap := b }, ∃ z ∈ rs, z.A = y.A ∧ z.n = y.n ∧ z.c = y.c ∧ z.l = y.l := fun y hy => by
  rcases List.mem_or_eq_of_mem_set hy with h1 | h1
  ·exact ⟨y, h1, rfl, rfl, rfl, rfl⟩
  ·rw [h1]; exact ⟨r, List.mem_of_getElem? hr, rfl, rfl, rfl, rfl⟩
 refine ⟨⟨?_, fun y hy => ?_⟩, fun y hy => ?_, ?_⟩
 ·rw [List.length_set, ← vals_wrap rs k r b hr]
  exact (ho.stored _ _).1
 ·obtain ⟨z, hz, e1, e2, e3, e4⟩ := hm y hy
  obtain ⟨h1, h2, h3⟩ := h.own.each z hz
  rw [e1, e2, e3, e4] at h1
  rw [e4] at h2
  rw [e3] at h3
  have hh : W.ownsRow B 52 3 (.slice y.A y.n y.c) y.l.length (flat y.l) := h1
  exact ⟨own_keep hh fun j hj => Below.heap_setCell _ _ _ _ (fun e => own_ne ho hh (by decide) g rfl (by rw [hj, e])), h2, h3⟩
 ·obtain ⟨z, hz, e1, e2, e3, e4⟩ := hm y hy
  have := h.row z hz
  rw [e1, e2, e4] at this
  exact this
 ·refine (congrArg List.Nodup (map_set RowIn.A hr ?_)).mpr h.apart
  rfl
theorem snoc {x : RowIn} {B2 : Nat} (h : Sheet W B v wv rs) (hx : HasC W B2 (.slice x.A x.n x.c) x.l) (hb : B ≤ B2) (hnew : ∀ r ∈ rs, ∀ q, r.A = some ⟨q, 0, none⟩ → q < B2) (hs : ∀ c ∈ x.l, -2147483648 ≤ c.1 ∧ c.1 ≤ 2147483647) (hm : x.c ≤ maxLen) (h1 : x.n = wv) (h2 : x.l.length = wv) (hw : ∃ q, x.A = some ⟨q, 0, none⟩)
  (ho : W'.ownsRow B 48 2 v' (rs.length + 1) (rs.flatMap RowIn.vals ++ x.vals)) (hg : W.grownBy W' v.ownBlock) : Sheet W' B v' wv (rs ++ [x]) := by
 refine ⟨h.own.snoc (own_down hx hb) hs hm ho hg, fun r hr => ?_, ?_⟩
 ·rcases List.mem_append.1 hr with hr | hr
  ·exact h.row r hr
  ·rw [List.mem_singleton.1 hr]; exact ⟨h1, h2, hw⟩
 ·rw [List.map_append, List.map_cons, List.map_nil]
  refine List.nodup_append.2 ⟨h.apart, by simp, fun a ha b hb' e => ?_⟩
  obtain ⟨r, hr, rfl⟩ := List.mem_map.1 ha
  rw [List.mem_singleton] at hb'
  obtain ⟨-, -, q, eq⟩ := h.row r hr
  have hq := hnew r hr q eq
  have hh : W.ownsRow B2 52 3 (.slice x.A x.n x.c) x.l.length (flat x.l) := hx
  have := (hh.lt q (by rw [← hb', ← e, eq]; rfl)).1
  omega
end Sheet
end Ln
end Go.Proofs.YtjhmndmnhkbigaaGreatDoor
