import Derived.Deep.AppendSrc
import Derived.Test.YtgcfpfhmjhkgnaaGreatDoorQStore2
set_option maxRecDepth 100000
set_option maxHeartbeats 6400000
namespace Go.Proofs.YtgcfpfhmjhkgnaaGreatDoor
open Go.ChangeShapes Go.WideShapes Go.ChangeAt Go.RowKit
def SlAt (w : World) (base : Nat) (e : TypeId) (v : Value) (n : Nat) (xs : List Value) : Prop :=
 xs.length = n ∧ ((v = .slice none 0 0 ∧ n = 0) ∨ ∃ b off cap cur, v = .slice (some ⟨b, off, none⟩) n cap ∧ base ≤ b ∧ w.heap[b]? = some (.cells cur e (0, 0)) ∧ n ≤ cap ∧ cap ≤ maxLen ∧ off + cap ≤ cur.size ∧ ∀ j u, xs[j]? = some u → cur[off + j]? = some u)
namespace SlAt
variable {w w' : World} {base : Nat} {e : TypeId} {v : Value} {n : Nat} {xs : List Value}
theorem nothing (w : World) (base : Nat) (e : TypeId) : SlAt w base e (.slice none 0 0) 0 [] := ⟨rfl, .inl ⟨rfl, rfl⟩⟩
theorem type (h : SlAt w base e v n xs) : ∀ k, v.ownBlock = some k → base ≤ k ∧ ∃ cur, w.heap[k]? = some (.cells cur e (0, 0)) := by
 intro k hk
 rcases h.2 with ⟨rfl, _⟩ | ⟨b, off, cap, cur, rfl, hb, hg, _⟩
 ·cases hk
 ·injection hk with hk
  subst hk
  exact ⟨hb, cur, hg⟩
theorem lt (h : SlAt w base e v n xs) : ∀ k, v.ownBlock = some k → base ≤ k ∧ k < w.heap.size := fun k hk =>
 let ⟨h1, _, h2⟩ := h.type k hk; ⟨h1, (Array.getElem?_eq_some_iff.1 h2).1⟩
theorem kept (h : SlAt w base e v n xs) (k : ∀ b, v.ownBlock = some b → w'.heap[b]? = w.heap[b]?) : SlAt w' base e v n xs := by
 refine ⟨h.1, ?_⟩
 rcases h.2 with h' | ⟨b, off, cap, cur, rfl, hb, hg, r⟩
 ·exact .inl h'
 ·exact .inr ⟨b, off, cap, cur, rfl, hb, (k b rfl).trans hg, r⟩
theorem mono {base' : Nat} (h : SlAt w base e v n xs) (hb : base' ≤ base) : SlAt w base' e v n xs := by
 refine ⟨h.1, ?_⟩
 rcases h.2 with h' | ⟨b, off, cap, cur, rfl, hb', r⟩
 ·exact .inl h'
 ·exact .inr ⟨b, off, cap, cur, rfl, Nat.le_trans hb hb', r⟩
theorem shape (h : SlAt w base e v n xs) : ∃ A c, v = .slice A n c ∧ n ≤ c := by
 rcases h.2 with ⟨rfl, h0⟩ | ⟨b, off, cap, cur, rfl, _, _, hc, _⟩
 ·rw [h0]; exact ⟨_, _, rfl, Nat.le_refl _⟩
 ·exact ⟨_, _, rfl, hc⟩
theorem cell (h : SlAt w base e v n xs) {j : Nat} {u : Value} (hu : xs[j]? = some u) : ∃ b off cap, v = .slice (some ⟨b, off, none⟩) n cap ∧ n ≤ cap ∧ base ≤ b ∧ b < w.heap.size ∧ w.cell? ⟨b, off + j, none⟩ = some u ∧ w.frozen? ⟨b, off + j, none⟩ = false := by
 rcases h.2 with ⟨rfl, h0⟩ | ⟨b, off, cap, cur, rfl, hb, hg, hc, _, _, hx⟩
 ·have := (List.getElem?_eq_some_iff.1 hu).1
  have := h.1
  omega
 ·exact ⟨b, off, cap, rfl, hc, hb, (Array.getElem?_eq_some_iff.1 hg).1, (cell_of_row w b _ _ e (0, 0) hg).trans (hx j u hu), frozen_of_row w b _ _ _ hg⟩
theorem tail {b off cap : Nat} {x u : Value} (h : SlAt w base e (.slice (some ⟨b, off, none⟩) (n + 1) cap) (n + 1) (x :: xs)) (off' : Nat) (ho : off' = off + 1 ∨ (cap = 1)) :
  SlAt (w.setCell ⟨b, off, none⟩ u) base e (.slice (some ⟨b, off', none⟩) n (cap - 1)) n xs ∨ off' ≠ off + 1 := by
 by_cases hoff : off' = off + 1
 ·left
  subst hoff
  refine ⟨by have := h.1; simpa using this, .inr ?_⟩
  rcases h.2 with ⟨_, h0⟩ | ⟨b', off1, cap', cur, e1, hb, hg, hc, hm, hs, hx⟩
  ·omega
  ·injection e1 with e1 _ e3
   injection e1 with e1
   injection e1 with e1 e2
   subst e1 e2 e3
   refine ⟨b, off + 1, cap - 1, _, rfl, hb, heap_setCell_same w b off _ _ u hg, by omega, by omega, by simp; omega, fun j y hy => ?_⟩
   have := hx (j + 1) y (by simpa using hy)
   rw [show off + (j + 1) = off + 1 + j by omega] at this
   rw [Array.getElem?_setIfInBounds_ne (by omega)]
   exact this
 ·exact .inr hoff
theorem empty {b off off' cap : Nat} {m : Nat} {ys : List Value} (h : SlAt w base e (.slice (some ⟨b, off, none⟩) m cap) m ys) (ho : off' ≤ off) (u : Value) :
  SlAt (w.setCell ⟨b, off, none⟩ u) base e (.slice (some ⟨b, off', none⟩) 0 0) 0 [] := by
 refine ⟨rfl, .inr ?_⟩
 rcases h.2 with ⟨e1, h0⟩ | ⟨b', off1, cap', cur, e1, hb, hg, hc, hm, hs, hx⟩
 ·cases e1
 ·injection e1 with e1 _ e3
  injection e1 with e1
  injection e1 with e1 e2
  subst e1 e2 e3
  exact ⟨b, off', 0, _, rfl, hb, heap_setCell_same w b off _ _ u hg, Nat.le_refl _, Nat.zero_le _, by simp; omega, fun j y hy => by simp at hy⟩
end SlAt
theorem grownBy_drewAlloc (w : World) (o : Obj) (row : Option Nat) : w.grownBy (w.drew.alloc o) row :=
 ⟨rfl, rfl, rfl, by simp, fun k hk _ => Below.heap_alloc w.drew o k hk⟩
theorem growslice_one {need old bytes : Nat} (h : old < need) (hb : need * bytes ≤ 140737488355328) : Builtin.nextslicecap need old * bytes ≤ 281474976710656 := growslice_fits h hb
theorem run_slAt {P : Program} (w : World) (base : Nat) (t ty e : TypeId) (i : TypeInfo) (z : Value) (bytes : Nat) (ht : P.underlying t = some (.slice e)) (hi : P.info? e = some i) (hz : i.zero = some z) (hsize : i.size = 1) (hby : i.bytes = bytes) (hzs : z.cells.size = 1)
  (v : Value) (n : Nat) (xs : List Value) (h : SlAt w base e v n xs) (a : Addr) (c : Nat) (u : Value) (ha : w.cell? a = some u) (h1 : u.oneCell' = true) (h63 : n + 1 ≤ maxLen) (hbytes : (n + 1) * bytes ≤ 140737488355328) (hbase : base ≤ w.heap.size) :
  ∃ v' w', (Builtin.append_ #[t, t] ty #[v, .slice (some a) 1 c]).run P w = .ok v' w' ∧ SlAt w' base e v' (n + 1) (xs ++ [u]) ∧ w.grownBy w' v.ownBlock ∧ (v'.ownBlock = v.ownBlock ∨ v'.ownBlock = some w.heap.size) := by
 have hnews : ∀ j x, [u][j]? = some x → w.cell? (a.add j) = some x := by
  intro j x hx
  match j, hx with
  | 0, hx =>
   simp at hx
   subst hx
   have : a.add 0 = a := by unfold Addr.add; split <;> simp_all
   rw [this]
   exact ha
 have hone : ∀ x ∈ [u], x.oneCell' = true := by
  intro x hx
  simp at hx
  subst hx
  exact h1
 have hfresh : ∀ (cap : Nat) (cs : Array Value), n + 1 ≤ cap → cap ≤ maxLen → cs.size = cap → (∀ j x, (xs ++ [u])[j]? = some x → cs[0 + j]? = some x) →
   SlAt (w.drew.alloc (.cells cs e)) base e (.slice (some ⟨w.heap.size, 0, none⟩) (n + 1) cap) (n + 1) (xs ++ [u]) := fun cap cs h2 h3 h4 h5 =>
  ⟨by simp [h.1], .inr ⟨w.heap.size, 0, cap, cs, rfl, hbase, heap_alloc_new w.drew _, h2, h3, by omega, h5⟩⟩
 unfold maxLen at h63
 rcases h.2 with ⟨rfl, rfl⟩ | ⟨b, off, cap, cur, rfl, hb, hg, hc, hm, hs, hx⟩
 ·have hxs : xs = [] := List.eq_nil_of_length_eq_zero h.1
  have hr := run_append_nil (P := P) w t ty e i z ht hi hz a 1 c [u] (by simp [hsize]) hnews (by omega) (by omega) (by omega)
  have hge := grownCap_ge w 1 0 e
  refine ⟨_, _, hr, hfresh _ _ (by simpa using hge) (grownCap_le_maxLen w 1 0 e (by unfold maxLen; omega)) (by rw [Array.size_append, size_zeroCells, hzs]; simp; omega) (fun j x hj => ?_), grownBy_drewAlloc _ _ _, .inr rfl⟩
  rw [hxs] at hj
  match j, hj with
  | 0, hj => rw [Array.getElem?_append_left (by simp)]; simpa using hj
 ·by_cases hroom : n + 1 ≤ cap
  ·have hcell : (w.cell? ⟨b, off + n, none⟩).isSome = true := by
    rw [cell_of_row w b (off + n) cur e (0, 0) hg, Array.getElem?_eq_getElem (by omega)]
    rfl
   have hr := run_append_room_src (P := P) w t t ty e i ht hi b off n cap (.slice (some a) 1 c) 1 [u] (Src.ofSlice w ht a 1 c [u] (by simp [hsize]) hnews hone) hroom (fun j hj => by
    have : j = 0 := by simpa using hj
    subst this
    simpa [hsize] using hcell) (fun j hj => by rw [frozen_of_row w b _ cur e hg])
   rw [hsize, Nat.mul_one] at hr
   refine ⟨_, _, hr, ⟨by simp [h.1], .inr ⟨b, off, cap, _, rfl, hb, heap_setCell_same w b (off + n) _ _ u hg, hroom, hm, by simpa using hs, fun j x hj => ?_⟩⟩, ⟨rfl, rfl, rfl, by simp [World.setCells], fun k _ hk => Below.heap_setCell _ _ _ _ (fun e => hk (by rw [e]; rfl))⟩, .inl rfl⟩
   by_cases hjn : j < n
   ·rw [List.getElem?_append_left (by rw [h.1]; exact hjn)] at hj
    rw [Array.getElem?_setIfInBounds_ne (by omega)]
    exact hx j x hj
   ·rw [List.getElem?_append_right (by rw [h.1]; omega), h.1] at hj
    have hj0 : j - n = 0 := by
     have := (List.getElem?_eq_some_iff.1 hj).1
     simpa using this
    rw [hj0] at hj
    simp at hj
    subst hj
    rw [show off + j = off + n by omega, Array.getElem?_setIfInBounds_self_of_lt (by omega)]
  ·have hr := run_append_grow (P := P) w t ty e i z ht hi hz ⟨b, off, none⟩ n cap xs (by simp [hsize, h.1]) (fun j x hj => by
    rw [add_spot, cell_of_row w b (off + j) cur e (0, 0) hg]
    exact hx j x hj) a 1 c [u] (by simp [hsize]) hnews (by omega) (by omega) (growslice_one (by omega) (by rw [hby]; exact hbytes))
   have hge := grownCap_ge w (n + 1) cap e
   refine ⟨_, _, hr, hfresh _ _ hge (grownCap_le_maxLen w (n + 1) cap e (by unfold maxLen; omega)) (by
    rw [Array.size_append, Array.size_append, size_zeroCells, hzs]
    simp [h.1]
    omega) (fun j x hj => ?_), grownBy_drewAlloc _ _ _, .inr rfl⟩
   have hjl := (List.getElem?_eq_some_iff.1 hj).1
   rw [Nat.zero_add, Array.getElem?_append_left (by simpa using hjl)]
   simpa using hj
theorem wpl_slAt {P : Program} {w : World} {ops : Array Oper} {rest : List Oper} {o : Oper} {a : Act} {Q : Exit → Act → World → Prop} (hgd : o.guard = none) (s x : Operand) (t : TypeId)
  (ho : o.op = .call { callee := .builtin .append, args := #[s, x], argTypes := #[t, t] })
  (base : Nat) (e : TypeId) (i : TypeInfo) (z : Value) (bytes : Nat) (ht : P.underlying t = some (.slice e)) (hi : P.info? e = some i) (hz : i.zero = some z) (hsize : i.size = 1) (hby : i.bytes = bytes) (hzs : z.cells.size = 1)
  (v : Value) (n : Nat) (xs : List Value) (hs : a.eval s = v) (hv : SlAt w base e v n xs) (ad : Addr) (c : Nat) (u : Value) (hx : a.eval x = .slice (some ad) 1 c) (ha : w.cell? ad = some u) (h1 : u.oneCell' = true) (h63 : n + 1 ≤ maxLen) (hbytes : (n + 1) * bytes ≤ 140737488355328) (hbase : base ≤ w.heap.size)
  (h : ∀ v' w', SlAt w' base e v' (n + 1) (xs ++ [u]) → w.grownBy w' v.ownBlock → (v'.ownBlock = v.ownBlock ∨ v'.ownBlock = some w.heap.size) → wpList P ops Q rest (a.put o.dst v') w') : wpList P ops Q (o :: rest) a w := by
 obtain ⟨v', w', hrun, h2, h3, h4⟩ := run_slAt (P := P) w base t o.type e i z bytes ht hi hz hsize hby hzs v n xs hv ad c u ha h1 h63 hbytes hbase
 refine wpList_plain hgd fun K hK => ?_
 unfold Oper.wp
 simp only [execOp, ho, resolve, invoke, builtin, Sem.run_bind, Sem.run_pure, Result.andThen_ok, List.map_toArray, List.map_cons, List.map_nil, hs, hx, hrun]
 exact hK _ _ (h v' w' h2 h3 h4)
theorem PageAt.typed {w : World} {base g : Nat} {vs : List Value} {rows : List PRow} (h : PageAt w base g vs rows) : Typed w 141 g := ⟨_, _, h.cells⟩
theorem PageAt.turned {M : Nat → Prop} {w w' : World} {base g : Nat} {vs : List Value} {rows : List PRow} (h : PageAt w base g vs rows) (ht : Turned M w w') (hg : ¬ M g) (hm : ∀ k, M k → ¬ Typed w 5 k) : PageAt w' base g vs rows :=
 ⟨(ht.block g h.lt hg).trans h.cells, h.from', h.many, h.few, fun i v r hv hr => ⟨(h.row i v r hv hr).1.turned ht hm, (h.row i v r hv hr).2⟩, h.may⟩
theorem PageAt.base {w : World} {base base' g : Nat} {vs : List Value} {rows : List PRow} (h : PageAt w base g vs rows) (hb : base' ≤ base) : PageAt w base' g vs rows :=
 ⟨h.cells, Nat.le_trans hb h.from', h.many, h.few, fun i v r hv hr => ⟨(h.row i v r hv hr).1.mono' hb, (h.row i v r hv hr).2⟩, h.may⟩
structure Pg where
 g : Nat
 vs : List Value
 rows : List PRow
abbrev ptr (g : Nat) : Value := .pointer (some ⟨g, 0, none⟩)
def allRows (ps : List Pg) : List PRow := (ps.map Pg.rows).flatten
theorem allRows_nil : allRows [] = [] := rfl
theorem allRows_cons (p : Pg) (ps : List Pg) : allRows (p :: ps) = p.rows ++ allRows ps := by simp [allRows]
theorem allRows_append (ps qs : List Pg) : allRows (ps ++ qs) = allRows ps ++ allRows qs := by simp [allRows]
theorem bytesN_append (a b : List PRow) : bytesN (a ++ b) = bytesN a + bytesN b := by simp [bytesN]
structure StR (w : World) (base g : Nat) (v : Value) (ps : List Pg) (lim many bytes gone : Int) : Prop where
 cells : w.heap[g]? = some (.cells #[v, .int .i64 lim, .int .i64 many, .int .i64 bytes, .int .i64 gone] 144 (0, 0))
 from' : base ≤ g
 sl : SlAt w base 112 v ps.length (ps.map fun p => ptr p.g)
 page : ∀ p ∈ ps, PageAt w base p.g p.vs p.rows
 apart : (ps.map Pg.g).Nodup
structure Full (ps : List Pg) : Prop where
 some' : ∀ p ∈ ps, p.rows ≠ []
 few : ∀ p ∈ ps, p.rows.length ≤ 16
 full : ∀ (i : Nat) (p : Pg), ps[i]? = some p → 0 < i → i + 1 < ps.length → p.rows.length = 16
structure StoreAt (w : World) (base g : Nat) (v : Value) (ps : List Pg) (lim gone : Nat) : Prop where
 raw : StR w base g v ps lim ((allRows ps).length : Nat) (bytesN (allRows ps) : Nat) gone
 kept : Full ps
def Owns (g : Nat) (v : Value) (ps : List Pg) (k : Nat) : Prop := k = g ∨ v.ownBlock = some k ∨ ∃ p ∈ ps, p.g = k
namespace StR
variable {w w' : World} {base g : Nat} {v : Value} {ps : List Pg} {lim many bytes gone : Int}
theorem typed (h : StR w base g v ps lim many bytes gone) : Typed w 144 g := ⟨_, _, h.cells⟩
theorem lt (h : StR w base g v ps lim many bytes gone) : g < w.heap.size := (Array.getElem?_eq_some_iff.1 h.cells).1
theorem get (h : StR w base g v ps lim many bytes gone) (j : Nat) : w.cell? ⟨g, j, none⟩ = #[v, .int .i64 lim, .int .i64 many, .int .i64 bytes, .int .i64 gone][j]? := cell_of_row w g j _ _ (0, 0) h.cells
theorem free (h : StR w base g v ps lim many bytes gone) (j : Nat) : w.frozen? ⟨g, j, none⟩ = false := frozen_of_row w g j _ _ h.cells
theorem slTyped (h : StR w base g v ps lim many bytes gone) : ∀ k, v.ownBlock = some k → Typed w 112 k := fun k e => let ⟨_, cs, h⟩ := h.sl.type k e; ⟨cs, _, h⟩
theorem noBytes (h : StR w base g v ps lim many bytes gone) : ∀ k, Owns g v ps k → ¬ Typed w 5 k := by
 rintro k (rfl | hk | ⟨p, hp, rfl⟩) hb
 ·exact h.typed.apart hb (by decide) rfl
 ·exact (h.slTyped k hk).apart hb (by decide) rfl
 ·exact (h.page p hp).typed.apart hb (by decide) rfl
theorem own_ge (h : StR w base g v ps lim many bytes gone) : ∀ k, Owns g v ps k → base ≤ k ∧ k < w.heap.size := by
 rintro k (rfl | hk | ⟨p, hp, rfl⟩)
 ·exact ⟨h.from', h.lt⟩
 ·exact h.sl.lt k hk
 ·exact ⟨(h.page p hp).from', (h.page p hp).lt⟩
theorem turned (h : StR w base g v ps lim many bytes gone) {M : Nat → Prop} (ht : Turned M w w') (ho : ∀ k, Owns g v ps k → ¬ M k) (hm : ∀ k, M k → ¬ Typed w 5 k) : StR w' base g v ps lim many bytes gone :=
 ⟨(ht.block g h.lt (ho g (.inl rfl))).trans h.cells, h.from', h.sl.kept fun b hb => ht.block b (h.sl.lt b hb).2 (ho b (.inr (.inl hb))),
  fun p hp => (h.page p hp).turned ht (ho p.g (.inr (.inr ⟨p, hp, rfl⟩))) hm, h.apart⟩
theorem below (h : StR w base g v ps lim many bytes gone) (hb : Below w.heap.size w w') : StR w' base g v ps lim many bytes gone := h.turned (M := fun _ => False) (Turned.ofBelow hb _) (fun _ _ h => h) (fun _ h => h.elim)
theorem head (h : StR w base g v ps lim many bytes gone) (ht : Turned (· = g) w w') {lim' many' bytes' gone' : Int} (hc : w'.heap[g]? = some (.cells #[v, .int .i64 lim', .int .i64 many', .int .i64 bytes', .int .i64 gone'] 144 (0, 0))) : StR w' base g v ps lim' many' bytes' gone' := by
 refine ⟨hc, h.from', h.sl.kept fun b hb => ht.block b (h.sl.lt b hb).2 (fun e => (h.slTyped b hb).apart h.typed (by decide) e), fun p hp => (h.page p hp).turned ht (fun e => (h.page p hp).typed.apart h.typed (by decide) e) (fun k e => ?_), h.apart⟩
 subst e
 exact fun hb => h.typed.apart hb (by decide) rfl
theorem setMany (h : StR w base g v ps lim many bytes gone) (x : Int) : StR (w.setCell ⟨g, 2, none⟩ (.int .i64 x)) base g v ps lim x bytes gone := h.head (Turned.ofCell _ _ _ _) (heap_setCell_same w g 2 _ _ _ h.cells)
theorem setBytes (h : StR w base g v ps lim many bytes gone) (x : Int) : StR (w.setCell ⟨g, 3, none⟩ (.int .i64 x)) base g v ps lim many x gone := h.head (Turned.ofCell _ _ _ _) (heap_setCell_same w g 3 _ _ _ h.cells)
theorem setGone (h : StR w base g v ps lim many bytes gone) (x : Int) : StR (w.setCell ⟨g, 4, none⟩ (.int .i64 x)) base g v ps lim many bytes x := h.head (Turned.ofCell _ _ _ _) (heap_setCell_same w g 4 _ _ _ h.cells)
theorem setPage {ps0 ps1 : List Pg} {p : Pg} (h : StR w base g v (ps0 ++ p :: ps1) lim many bytes gone) (ht : Turned (· = p.g) w w') {vs' : List Value} {rows' : List PRow} (hp : PageAt w' base p.g vs' rows') :
  StR w' base g v (ps0 ++ ⟨p.g, vs', rows'⟩ :: ps1) lim many bytes gone := by
 have hpp := h.page p (by simp)
 have hb : ∀ k, k = p.g → ¬ Typed w 5 k := fun k e hb => by subst e; exact hpp.typed.apart hb (by decide) rfl
 have hne : ∀ q, q ∈ ps0 ∨ q ∈ ps1 → q.g ≠ p.g := fun q hq e => by
  have ha := h.apart
  rw [List.map_append, List.map_cons, List.nodup_append] at ha
  rcases hq with hq | hq
  ·exact ha.2.2 q.g (List.mem_map.2 ⟨q, hq, rfl⟩) p.g (by simp) e
  ·have := (List.nodup_cons.1 ha.2.1).1
   exact this (by rw [← e]; exact List.mem_map.2 ⟨q, hq, rfl⟩)
 refine ⟨(ht.block g h.lt (fun e => h.typed.apart hpp.typed (by decide) e)).trans h.cells, h.from', ?_, fun q hq => ?_, by simpa using h.apart⟩
 ·have hs := h.sl.kept (w' := w') fun b hb => ht.block b (h.sl.lt b hb).2 (fun e => (h.slTyped b hb).apart hpp.typed (by decide) e)
  simpa using hs
 ·rcases List.mem_append.1 hq with hq | hq
  ·exact (h.page q (by simp [hq])).turned ht (hne q (.inl hq)) hb
  ·rcases List.mem_cons.1 hq with rfl | hq
   ·exact hp
   ·exact (h.page q (by simp [hq])).turned ht (hne q (.inr hq)) hb
end StR
theorem StoreAt.turned {w w' : World} {base g : Nat} {v : Value} {ps : List Pg} {lim gone : Nat} (h : StoreAt w base g v ps lim gone) {M : Nat → Prop} (ht : Turned M w w') (ho : ∀ k, Owns g v ps k → ¬ M k) (hm : ∀ k, M k → ¬ Typed w 5 k) : StoreAt w' base g v ps lim gone := ⟨h.raw.turned ht ho hm, h.kept⟩
theorem StoreAt.below {w w' : World} {base g : Nat} {v : Value} {ps : List Pg} {lim gone : Nat} (h : StoreAt w base g v ps lim gone) (hb : Below w.heap.size w w') : StoreAt w' base g v ps lim gone := ⟨h.raw.below hb, h.kept⟩
theorem flatten_get {α : Type} : ∀ (l : List (List α)) (i : Nat), (∀ j q, l[j]? = some q → j + 1 < l.length → q.length = 16) → (∀ q ∈ l, q.length ≤ 16) → l.flatten[i]? = l[i / 16]?.bind (fun q => q[i % 16]?)
 | [], i, _, _ => by simp
 | q :: r, i, hf, hl => by
  have ih := fun k => flatten_get r k (fun j q' hj hl' => hf (j + 1) q' (by simpa using hj) (by simpa using hl')) (fun q' h => hl q' (by simp [h]))
  have hq := hl q (by simp)
  rw [List.flatten_cons]
  by_cases h16 : i < 16
  ·rw [Nat.div_eq_of_lt h16, Nat.mod_eq_of_lt h16]
   simp only [List.getElem?_cons_zero, Option.bind_some]
   by_cases hi : i < q.length
   ·rw [List.getElem?_append_left hi]
   ·have hr : r = [] := by
     cases r with
     | nil => rfl
     | cons a b => have := hf 0 q (by simp) (by simp); omega
    subst hr
    simp
  ·obtain ⟨m, rfl⟩ : ∃ m, i = m + 16 := ⟨i - 16, by omega⟩
   rw [Nat.add_mod_right, Nat.add_div_right m (by decide)]
   simp only [List.getElem?_cons_succ]
   rw [← ih m, List.getElem?_append_right (by omega)]
   cases r with
   | nil => simp
   | cons a b =>
    have := hf 0 q (by simp) (by simp)
    rw [this, Nat.add_sub_cancel]
theorem Full.front {p : Pg} {ps : List Pg} (i : Nat) (hi : i < p.rows.length) : (allRows (p :: ps))[i]? = p.rows[i]? := by rw [allRows_cons, List.getElem?_append_left hi]
theorem Full.behind {p : Pg} {ps : List Pg} (h : Full (p :: ps)) (i : Nat) (hi : p.rows.length ≤ i) : (allRows (p :: ps))[i]? = ps[(i - p.rows.length) / 16]?.bind (fun q => q.rows[(i - p.rows.length) % 16]?) := by
 rw [allRows_cons, List.getElem?_append_right hi]
 unfold allRows
 rw [flatten_get]
 ·rw [List.getElem?_map]
  cases ps[(i - p.rows.length) / 16]? <;> rfl
 ·intro j q hj hl
  rw [List.getElem?_map] at hj
  cases hq : ps[j]? with
  | none => rw [hq] at hj; cases hj
  | some q' =>
   rw [hq] at hj
   injection hj with hj
   subst hj
   exact h.full (j + 1) q' (by simpa using hq) (by omega) (by simpa using hl)
 ·intro q hq
  obtain ⟨q', hq', rfl⟩ := List.mem_map.1 hq
  exact h.few q' (by simp [hq'])
theorem bytesN_drop_take (R : List PRow) (k : Nat) : bytesN (R.take k) + bytesN (R.drop k) = bytesN R := by rw [← bytesN_append, List.take_append_drop]
def clampN (n : Int) : Nat := (min (max n 0) 1000000).toNat
theorem clamp_walk (n : Int) (w : World) : Calls Tryz.prog 119 #[.int .i64 n] w fun e w' => e = .returned (.int .i64 (clampN n : Int)) ∧ w = w' := by
 have h : (clampN n : Int) = min (max n 0) 1000000 := by unfold clampN; omega
 rw [h]
 clear h
 go_enter Tryz.func119, Tryz.ntmps119
 go_wp2
 all_goals
  go_ret
  exact ⟨ret_int (by omega), rfl⟩
def NewS (lim : Int) (w : World) (e : Ending) (w' : World) : Prop := e = .returned (ptr w.heap.size) ∧ StoreAt w' w.heap.size w.heap.size (.slice none 0 0) [] (clampN lim) 0 ∧ Below w.heap.size w w' ∧ w'.heap.size = w.heap.size + 1
theorem storeNew_walk (lim : Int) (w : World) : Calls Tryz.prog 92 #[.int .i64 lim] w fun e w' => NewS lim w e w' := by
 have CW := Lib.hid (clamp_walk lim w)
 go_enter Tryz.func92, Tryz.ntmps92
 go_wp2_with fail
 refine CW.out.mono ?_
 rintro e w' ⟨rfl, rfl⟩
 clear CW
 go_wp2
 go_ret
 exact ⟨rfl, ⟨⟨heap_alloc_new w _, Nat.le_refl _, SlAt.nothing _ _ _, (fun p hp => by cases hp), List.nodup_nil⟩, ⟨(fun p hp => by cases hp), (fun p hp => by cases hp), fun i p hp => by simp at hp⟩⟩, (Below.refl _ _).alloc (Nat.le_refl _) _, by simp⟩
section
variable {base g : Nat} {v : Value} {ps : List Pg} {lim many bytes gone : Int} {w : World}
theorem storeLen_walk (h : StR w base g v ps lim many bytes gone) : Calls Tryz.prog 102 #[ptr g] w fun e w' => e = .returned (.int .i64 many) ∧ w = w' := by
 have c : w.cell? ⟨g, 2, none⟩ = some (.int .i64 many) := h.get 2
 clear h
 go_enter Tryz.func102, Tryz.ntmps102
 go_wp2
 go_ret
 exact ⟨rfl, rfl⟩
theorem storeGone_walk (h : StR w base g v ps lim many bytes gone) : Calls Tryz.prog 101 #[ptr g] w fun e w' => e = .returned (.int .i64 gone) ∧ w = w' := by
 have c : w.cell? ⟨g, 4, none⟩ = some (.int .i64 gone) := h.get 4
 clear h
 go_enter Tryz.func101, Tryz.ntmps101
 go_wp2
 go_ret
 exact ⟨rfl, rfl⟩
end
section
variable (w : World)
end
theorem StR.pageCell {base g : Nat} {v : Value} {ps : List Pg} {lim many bytes gone : Int} {w : World} (h : StR w base g v ps lim many bytes gone) {i : Nat} {p : Pg} (hp : ps[i]? = some p) :
  ∃ b off cap, v = .slice (some ⟨b, off, none⟩) ps.length cap ∧ ps.length ≤ cap ∧ base ≤ b ∧ b < w.heap.size ∧ w.cell? ⟨b, off + i, none⟩ = some (ptr p.g) ∧ w.frozen? ⟨b, off + i, none⟩ = false :=
 h.sl.cell (by rw [List.getElem?_map, hp]; rfl)
def RoomyNew (w : World) (e : Ending) (w' : World) : Prop := e = .returned (.tuple #[ptr w.heap.size, .bool true]) ∧ PageAt w' w.heap.size w.heap.size [] [] ∧ Below w.heap.size w w' ∧ w'.heap.size = w.heap.size + 1
theorem roomy_none {base g : Nat} {v : Value} {lim many bytes gone : Int} {w : World} (h : StR w base g v [] lim many bytes gone) :
  Calls Tryz.prog 122 #[ptr g] w fun e w' => RoomyNew w e w' := by
 obtain ⟨A, c, rfl, _⟩ := h.sl.shape
 have c0 : w.cell? ⟨g, 0, none⟩ = some (.slice A 0 c) := h.get 0
 have NW := Lib.hid (pageNew_walk w)
 clear h
 go_enter Tryz.func122, Tryz.ntmps122
 go_wp2_with fail
 refine NW.out.mono ?_
 rintro e w' ⟨rfl, hp, hb, hs⟩
 have P := Lib.hid (And.intro hp (And.intro hb hs))
 clear hp hb hs NW c0
 go_wp2
 go_ret2
 exact ⟨rfl, P.out⟩
theorem roomy_full {base g : Nat} {v : Value} {ps : List Pg} {p : Pg} {lim many bytes gone : Int} {w : World} (h : StR w base g v (ps ++ [p]) lim many bytes gone) (hf : p.rows.length = 16) (hn : ps.length ≤ 1000000) :
  Calls Tryz.prog 122 #[ptr g] w fun e w' => RoomyNew w e w' := by
 obtain ⟨b, off, cap, rfl, hcap, _, _, hc, _⟩ := h.pageCell (i := ps.length) (p := p) (by simp)
 obtain ⟨n, hnn⟩ : ∃ n, ps.length = n := ⟨_, rfl⟩
 rw [List.length_append, List.length_singleton, hnn] at hcap h
 rw [hnn] at hc hn
 have c0 : w.cell? ⟨g, 0, none⟩ = some (.slice (some ⟨b, off, none⟩) (n + 1) cap) := h.get 0
 have NW := Lib.hid (pageNew_walk w)
 have LW := Lib.hid (pageLen_walk base p.g p.vs p.rows w (h.page p (by simp)))
 rw [hf] at LW
 clear h hnn hf
 go_enter Tryz.func122, Tryz.ntmps122
 go_wp2_with fail
 refine LW.out.mono ?_
 rintro e w' ⟨rfl, rfl⟩
 clear LW
 go_wp2_with fail
 refine NW.out.mono ?_
 rintro e w' ⟨rfl, hp, hb, hs⟩
 have P := Lib.hid (And.intro hp (And.intro hb hs))
 clear hp hb hs NW c0
 go_wp2
 go_ret2
 exact ⟨rfl, P.out⟩
theorem roomy_last {base g : Nat} {v : Value} {ps : List Pg} {p : Pg} {lim many bytes gone : Int} {w : World} (h : StR w base g v (ps ++ [p]) lim many bytes gone) (hf : p.rows.length < 16) (hn : ps.length ≤ 1000000) :
  Calls Tryz.prog 122 #[ptr g] w fun e w' => e = .returned (.tuple #[ptr p.g, .bool false]) ∧ w = w' := by
 obtain ⟨b, off, cap, rfl, hcap, _, _, hc, _⟩ := h.pageCell (i := ps.length) (p := p) (by simp)
 obtain ⟨n, hnn⟩ : ∃ n, ps.length = n := ⟨_, rfl⟩
 rw [List.length_append, List.length_singleton, hnn] at hcap h
 rw [hnn] at hc hn
 have c0 : w.cell? ⟨g, 0, none⟩ = some (.slice (some ⟨b, off, none⟩) (n + 1) cap) := h.get 0
 have LW := Lib.hid (pageLen_walk base p.g p.vs p.rows w (h.page p (by simp)))
 obtain ⟨m, hm⟩ : ∃ m, p.rows.length = m := ⟨_, rfl⟩
 rw [hm] at LW hf
 clear h hnn hm
 go_enter Tryz.func122, Tryz.ntmps122
 go_wp2_with fail
 refine LW.out.mono ?_
 rintro e w' ⟨rfl, rfl⟩
 clear LW
 go_wp2
 go_ret2
 exact ⟨rfl, rfl⟩
theorem AtPost.lift {r : PRow} {w w3 : World} {v3 : Value} (h3 : HasC w3 (w.heap.size + 1) v3 r.2) (b3 : Below (w.heap.size + 1) (w.alloc (.cells #[.slice none 0 0, .bool false] 24)) w3) :
  RowAt ((w3.setCell ⟨w.heap.size, 0, none⟩ v3).setCell ⟨w.heap.size, 1, none⟩ (.bool r.1)) w.heap.size v3 r.1 ∧ Below w.heap.size w ((w3.setCell ⟨w.heap.size, 0, none⟩ v3).setCell ⟨w.heap.size, 1, none⟩ (.bool r.1)) ∧ HasC ((w3.setCell ⟨w.heap.size, 0, none⟩ v3).setCell ⟨w.heap.size, 1, none⟩ (.bool r.1)) w.heap.size v3 r.2 := by
 have rn : RowAt (w.alloc (.cells #[.slice none 0 0, .bool false] 24)) w.heap.size (.slice none 0 0) false := heap_alloc_new w _
 have b1 := (Below.refl w.heap.size w).alloc (Nat.le_refl _) (.cells #[.slice none 0 0, .bool false] 24)
 have r3 : RowAt w3 w.heap.size (.slice none 0 0) false := (b3.block w.heap.size (by omega)).trans rn
 refine ⟨r3.put2 v3 r.1, ((b1.trans (b3.mono (by omega))).setCell (p := ⟨w.heap.size, 0, none⟩) (Nat.le_refl _) v3).setCell (p := ⟨w.heap.size, 1, none⟩) (Nat.le_refl _) (.bool r.1), HasC.keep (HasC.mono h3 (by omega)) fun j e => ?_⟩
 have h := (HasC.lt h3 j e).1
 rw [Below.heap_setCell _ _ _ _ (by show j ≠ w.heap.size; omega), Below.heap_setCell _ _ _ _ (by show j ≠ w.heap.size; omega)]
theorem storeAt_front {base g : Nat} {v : Value} {p : Pg} {rest : List Pg} {lim bytes gone : Int} {m : Nat} {w : World} (i : Nat) (r : PRow) (hs : Spans w) (h : StR w base g v (p :: rest) lim m bytes gone) (him : i < m) (hr : p.rows[i]? = some r) :
  Calls Tryz.prog 96 #[ptr g, .int .i64 (i : Int)] w fun e w' => AtPost (some r) w e w' := by
 have bb := (Below.refl w.heap.size w).alloc (Nat.le_refl _) (.cells #[.slice none 0 0, .bool false] 24)
 have R1 := h.below bb
 have LW := Lib.hid (storeLen_walk R1)
 have PW := Lib.hid (pageLen_walk base p.g p.vs p.rows _ (R1.page p (by simp)))
 have AW := Lib.hid (pageAt_some base p.g p.vs p.rows i r _ (hs.below bb hs.size) (R1.page p (by simp)) hr)
 obtain ⟨b, off, cap, rfl, hcap, _, _, hc, _⟩ := R1.pageCell (i := 0) (p := p) rfl
 obtain ⟨n, hn⟩ : ∃ n, rest.length = n := ⟨_, rfl⟩
 rw [List.length_cons, hn] at hcap R1
 have c0 : (w.alloc (.cells #[.slice none 0 0, .bool false] 24)).cell? ⟨g, 0, none⟩ = some (.slice (some ⟨b, off, none⟩) (n + 1) cap) := R1.get 0
 rw [Nat.add_zero] at hc
 obtain ⟨f, hf⟩ : ∃ f, p.rows.length = f := ⟨_, rfl⟩
 have hif : i < f := by rw [← hf]; exact (List.getElem?_eq_some_iff.1 hr).1
 rw [hf] at PW
 have Z1 := Lib.hid (show (w.alloc (.cells #[.slice none 0 0, .bool false] 24)).heap.size = w.heap.size + 1 by simp)
 have RN := Lib.hid (show RowAt (w.alloc (.cells #[.slice none 0 0, .bool false] 24)) w.heap.size (.slice none 0 0) false from heap_alloc_new w _)
 clear h R1 hr hf hn hs bb
 go_enter Tryz.func96, Tryz.ntmps96
 go_wp2_with fail
 refine LW.out.mono ?_
 rintro e w2 ⟨rfl, rfl⟩
 clear LW
 go_wp2_with fail
 refine PW.out.mono ?_
 rintro e w2 ⟨rfl, rfl⟩
 clear PW
 go_wp2_with fail
 refine AW.out.mono ?_
 rintro e w3 ⟨v3, rfl, h3, b3⟩
 simp only [Option.elim_some, Option.isSome_some] at h3 ⊢
 rw [Z1.out] at h3 b3
 obtain ⟨A3, c3, rfl, _⟩ := HasC.shape h3
 have DONE := Lib.hid (AtPost.lift h3 b3)
 have r3 : RowAt w3 w.heap.size (.slice none 0 0) false := (b3.block w.heap.size (by omega)).trans RN.out
 have z0 := r3.get 0
 have z1 := r3.get 1
 have zf0 := r3.free 0
 have zf1 := r3.free 1
 simp only [List.getElem?_toArray, List.getElem?_cons_zero, List.getElem?_cons_succ] at z0 z1
 obtain ⟨ln, hln⟩ : ∃ ln, r.2.length = ln := ⟨_, rfl⟩
 rw [hln] at DONE ⊢
 clear h3 b3 r3 AW hln c0 hc Z1 RN
 go_wp2
 generalize (w3.setCell ⟨w.heap.size, 0, none⟩ (.slice A3 ln c3)).setCell ⟨w.heap.size, 1, none⟩ (.bool r.1) = wz at DONE ⊢
 have e0 := DONE.out.1.get 0
 have e1 := DONE.out.1.get 1
 exact bodyPost_ret (v := .tuple #[.agg #[.slice A3 ln c3, .bool r.1], .bool true]) (by simp [results, Tryz.results96, go_sem, e0, e1]) rfl ⟨_, rfl, DONE.out.2.2, DONE.out.2.1⟩
theorem storeAt_behind {base g : Nat} {v : Value} {p : Pg} {rest : List Pg} {lim bytes gone : Int} {m : Nat} {w : World} (i : Nat) (r : PRow) (hs : Spans w) (h : StR w base g v (p :: rest) lim m bytes gone) (him : i < m) (hi6 : i ≤ 1000000000) (hpi : p.rows.length ≤ i) {q : Pg} (hq : rest[(i - p.rows.length) / 16]? = some q) (hr : q.rows[(i - p.rows.length) % 16]? = some r) :
  Calls Tryz.prog 96 #[ptr g, .int .i64 (i : Int)] w fun e w' => AtPost (some r) w e w' := by
 have bb := (Below.refl w.heap.size w).alloc (Nat.le_refl _) (.cells #[.slice none 0 0, .bool false] 24)
 have R1 := h.below bb
 have LW := Lib.hid (storeLen_walk R1)
 have PW := Lib.hid (pageLen_walk base p.g p.vs p.rows _ (R1.page p (by simp)))
 have AW := Lib.hid (pageAt_some base q.g q.vs q.rows ((i - p.rows.length) % 16) r _ (hs.below bb hs.size) (R1.page q (List.mem_cons_of_mem _ (List.mem_of_getElem? hq))) hr)
 obtain ⟨b, off, cap, rfl, hcap, _, _, hc, _⟩ := R1.pageCell (i := 0) (p := p) rfl
 obtain ⟨b', off', cap', e', _, _, _, hcq, _⟩ := R1.pageCell (i := (i - p.rows.length) / 16 + 1) (p := q) (by simpa using hq)
 injection e' with e1 e3 e4
 injection e1 with e1
 injection e1 with e1 e2
 subst e1 e2
 clear e3 e4
 have hjl : (i - p.rows.length) / 16 < rest.length := (List.getElem?_eq_some_iff.1 hq).1
 obtain ⟨n, hn⟩ : ∃ n, rest.length = n := ⟨_, rfl⟩
 rw [hn] at hjl
 rw [List.length_cons, hn] at hcap R1
 have c0 : (w.alloc (.cells #[.slice none 0 0, .bool false] 24)).cell? ⟨g, 0, none⟩ = some (.slice (some ⟨b, off, none⟩) (n + 1) cap) := R1.get 0
 rw [Nat.add_zero] at hc
 obtain ⟨f, hf⟩ : ∃ f, p.rows.length = f := ⟨_, rfl⟩
 rw [hf] at hpi hcq hjl AW
 have hif : ¬ (i : Int) < (f : Int) := by omega
 obtain ⟨t, ht⟩ : ∃ t, i - f = t := ⟨_, rfl⟩
 rw [ht] at hcq hjl AW
 have k1 : IntKind.i64.wrap ((i : Int) - (f : Int)) = (t : Int) := by rw [show (i : Int) - (f : Int) = (t : Int) by omega]; exact IntWalk.i64_in _ (by omega)
 obtain ⟨jq, hjq⟩ : ∃ jq, t / 16 = jq := ⟨_, rfl⟩
 obtain ⟨jr, hjr⟩ : ∃ jr, t % 16 = jr := ⟨_, rfl⟩
 rw [hjq] at hcq hjl
 rw [hjr] at AW
 have hjq9 : jq ≤ 1000000000 := by omega
 have k2 : (t : Int) / 16 = (jq : Int) := by omega
 have k3 : (t : Int) % 16 = (jr : Int) := by omega
 have k4 : ((1 : Int) + (jq : Int)).toNat = jq + 1 := by omega
 have k5 : (0 : Int) ≤ 1 + (jq : Int) := by omega
 have k6 : (1 : Int) + (jq : Int) < (n : Int) + 1 := by omega
 rw [hf] at PW
 have Z1 := Lib.hid (show (w.alloc (.cells #[.slice none 0 0, .bool false] 24)).heap.size = w.heap.size + 1 by simp)
 have RN := Lib.hid (show RowAt (w.alloc (.cells #[.slice none 0 0, .bool false] 24)) w.heap.size (.slice none 0 0) false from heap_alloc_new w _)
 clear h R1 hr hf hn hs bb hq ht hjq hjr
 go_enter Tryz.func96, Tryz.ntmps96
 go_wp2_with fail
 refine LW.out.mono ?_
 rintro e w2 ⟨rfl, rfl⟩
 clear LW
 go_wp2_with fail
 refine PW.out.mono ?_
 rintro e w2 ⟨rfl, rfl⟩
 clear PW
 go_wp2_with fail
 refine AW.out.mono ?_
 rintro e w3 ⟨v3, rfl, h3, b3⟩
 simp only [Option.elim_some, Option.isSome_some] at h3 ⊢
 rw [Z1.out] at h3 b3
 obtain ⟨A3, c3, rfl, _⟩ := HasC.shape h3
 have DONE := Lib.hid (AtPost.lift h3 b3)
 have r3 : RowAt w3 w.heap.size (.slice none 0 0) false := (b3.block w.heap.size (by omega)).trans RN.out
 have z0 := r3.get 0
 have z1 := r3.get 1
 have zf0 := r3.free 0
 have zf1 := r3.free 1
 simp only [List.getElem?_toArray, List.getElem?_cons_zero, List.getElem?_cons_succ] at z0 z1
 obtain ⟨ln, hln⟩ : ∃ ln, r.2.length = ln := ⟨_, rfl⟩
 rw [hln] at DONE ⊢
 clear h3 b3 r3 AW hln c0 hc Z1 RN
 go_wp2
 generalize (w3.setCell ⟨w.heap.size, 0, none⟩ (.slice A3 ln c3)).setCell ⟨w.heap.size, 1, none⟩ (.bool r.1) = wz at DONE ⊢
 have e0 := DONE.out.1.get 0
 have e1 := DONE.out.1.get 1
 exact bodyPost_ret (v := .tuple #[.agg #[.slice A3 ln c3, .bool r.1], .bool true]) (by simp [results, Tryz.results96, go_sem, e0, e1]) rfl ⟨_, rfl, DONE.out.2.2, DONE.out.2.1⟩
theorem storeAt_some {base g : Nat} {v : Value} {ps : List Pg} {lim gone : Nat} {w : World} (i : Nat) (r : PRow) (hs : Spans w) (h : StoreAt w base g v ps lim gone) (hN : (allRows ps).length ≤ 1000001) (hr : (allRows ps)[i]? = some r) :
  Calls Tryz.prog 96 #[ptr g, .int .i64 (i : Int)] w fun e w' => AtPost (some r) w e w' := by
 have him := (List.getElem?_eq_some_iff.1 hr).1
 cases ps with
 | nil => rw [allRows_nil] at him; simp at him
 | cons p rest =>
  by_cases hf : i < p.rows.length
  ·rw [Full.front i hf] at hr
   exact storeAt_front i r hs h.raw him hr
  ·rw [h.kept.behind i (by omega)] at hr
   cases hq : rest[(i - p.rows.length) / 16]? with
   | none => rw [hq] at hr; cases hr
   | some q =>
    rw [hq] at hr
    exact storeAt_behind i r hs h.raw him (by omega) (by omega) hq hr
abbrev U16StoreFitR (k : Nat) := Ord.upto k 16
def fitL : List Ord.Line := [
 (some 20, .move (.tmp 2), none, []),
 (some 21, .call { callee := .value (.func 100), args := #[.tmp 20], argTypes := #[112] }, none, [0]),
 (some 22, .move (.tmp 2), none, []),
 (some 23, .call { callee := .value (.func 121), args := #[.tmp 22], argTypes := #[112] }, none, [2, 1]),
 (some 24, .move (.tmp 0), none, []),
 (some 25, .nilCheck (.tmp 24), none, [4]),
 (some 26, .fieldAddr 144 (.tmp 25) 2, none, [5]),
 (some 27, .load 3 (.tmp 26), none, [6]),
 (some 28, .move (.tmp 0), none, []),
 (some 29, .nilCheck (.tmp 28), none, [8]),
 (some 30, .fieldAddr 144 (.tmp 29) 1, none, [9]),
 (some 31, .load 3 (.tmp 30), none, [10]),
 (some 32, .binOp .sub 3 (.tmp 27) (.tmp 31) 3, none, [7, 11]),
 (some 33, .call { callee := .builtin .min, args := #[.tmp 23, .tmp 32], argTypes := #[3, 3] }, none, [3, 12]),
 (some 3, .assign (.tmp 21), none, [1, 3, 0, 1]),
 (some 4, .assign (.tmp 33), none, [13, 14, 0, 1, 2, 3, 4, 5, 6, 7, 8, 9, 10, 11, 12, 13, 14])]
structure FitFr (g pg : Nat) (a : Act) : Prop where
 size : a.tmps.size = 80
 defers : a.defers = []
 s0 : Chain.At a 0 (ptr g)
 s1 : Chain.At a 1 (undef)
 s2 : Chain.At a 2 (ptr pg)
theorem FitFr.next {g pg : Nat} {a a' : Act} {d : Nat} {v : Value} (F : FitFr g pg a) (nx : Chain.Next a a' d v) (h : d ≠ 0 ∧ d ≠ 1 ∧ d ≠ 2 := by decide) : FitFr g pg a' := ⟨nx.size.trans F.size, nx.defers.trans F.defers, nx.k F.s0 (by omega), nx.k F.s1 (by omega), nx.k F.s2 (by omega)⟩
theorem FitFr.lt {g pg : Nat} {a : Act} {d : Nat} (F : FitFr g pg a) (h : d < 80 := by decide) : d < a.tmps.size := by rw [F.size]; exact h
theorem fit_two {ops : Array Oper} {Q : Exit → Act → World → Prop} (R : Ord.Reg ops fitL) (hQ : Ord.HQ Q) {w1 : World} {g pg lim m b1 len k : Nat}
  (c1 : w1.cell? ⟨g, 1, none⟩ = some (.int .i64 (lim : Int))) (c2 : w1.cell? ⟨g, 2, none⟩ = some (.int .i64 (m : Int))) (hsub : IntKind.i64.wrap ((m : Int) - (lim : Int)) = (m : Int) - (lim : Int)) (hmin : min (len : Int) ((m : Int) - (lim : Int)) = (k : Int))
  (BW : Calls Tryz.prog 100 #[ptr pg] w1 fun e w' => e = .returned (.int .i64 (b1 : Int)) ∧ w1 = w') (LW : Calls Tryz.prog 121 #[ptr pg] w1 fun e w' => e = .returned (.int .i64 (len : Int)) ∧ w1 = w')
  (a : Act) (F : FitFr g pg a) (h : ∀ a, FitFr g pg a → Chain.At a 3 (.int .i64 (b1 : Int)) → Chain.At a 4 (.int .i64 (k : Int)) → Q .normal a w1) :
  wpAnyH Tryz.prog .any ops Q (fun w' => w' = w1) 16 (List.replicate 16 false).toArray a w1 := by
 have hS : w1 = w1 := rfl
 refine Ord.tj R 0 (ptr pg) (U16StoreFitR 1) rfl hQ trivial hS (fun w _ hS => Chain.ev_move F.s2.ev) F.lt fun a0 N => ?_
 replace F := F.next N
 have f20 := N.got
 clear N a
 refine Ord.tj R 2 (ptr pg) (Ord.bt 16 5) rfl hQ trivial hS (fun w _ hS => Chain.ev_move F.s2.ev) F.lt fun a2 N => ?_
 replace F := F.next N
 replace f20 := N.k f20
 have f22 := N.got
 clear N a0
 refine Ord.tj R 4 (ptr g) (Ord.bt 16 21) rfl hQ trivial hS (fun w _ hS => Chain.ev_move F.s0.ev) F.lt fun a4 N => ?_
 replace F := F.next N
 replace f20 := N.k f20
 replace f22 := N.k f22
 have f24 := N.got
 clear N a2
 refine Ord.tj R 5 (.pointer (some ⟨g, 0, none⟩)) (Ord.bt 16 53) rfl hQ trivial hS (fun w _ hS => by have e24 := f24.u; clear F; go_simp) F.lt fun a5 N => ?_
 replace F := F.next N
 replace f20 := N.k f20
 replace f22 := N.k f22
 clear f24
 have f25 := N.got
 clear N a4
 refine Ord.tj R 6 (.pointer (some ⟨g, 2, none⟩)) (Ord.bt 16 117) rfl hQ trivial hS (fun w _ hS => by have e25 := f25.u; clear F; go_simp) F.lt fun a6 N => ?_
 replace F := F.next N
 replace f20 := N.k f20
 replace f22 := N.k f22
 clear f25
 have f26 := N.got
 clear N a5
 refine Ord.tj R 7 (.int .i64 (m : Int)) (Ord.bt 16 245) rfl hQ trivial hS (fun w _ hS => by have e26 := f26.u; have q0 := show w.cell? ⟨g, 2, none⟩ = some (.int .i64 (m : Int)) from (by rw [hS]; exact c2); clear F; go_simp) F.lt fun a7 N => ?_
 replace F := F.next N
 replace f20 := N.k f20
 replace f22 := N.k f22
 clear f26
 have f27 := N.got
 clear N a6
 refine Ord.tj R 8 (ptr g) (Ord.bt 16 501) rfl hQ trivial hS (fun w _ hS => Chain.ev_move F.s0.ev) F.lt fun a8 N => ?_
 replace F := F.next N
 replace f20 := N.k f20
 replace f22 := N.k f22
 replace f27 := N.k f27
 have f28 := N.got
 clear N a7
 refine Ord.tj R 9 (.pointer (some ⟨g, 0, none⟩)) (Ord.bt 16 1013) rfl hQ trivial hS (fun w _ hS => by have e28 := f28.u; clear F; go_simp) F.lt fun a9 N => ?_
 replace F := F.next N
 replace f20 := N.k f20
 replace f22 := N.k f22
 replace f27 := N.k f27
 clear f28
 have f29 := N.got
 clear N a8
 refine Ord.tj R 10 (.pointer (some ⟨g, 1, none⟩)) (Ord.bt 16 2037) rfl hQ trivial hS (fun w _ hS => by have e29 := f29.u; clear F; go_simp) F.lt fun a10 N => ?_
 replace F := F.next N
 replace f20 := N.k f20
 replace f22 := N.k f22
 replace f27 := N.k f27
 clear f29
 have f30 := N.got
 clear N a9
 refine Ord.tj R 11 (.int .i64 (lim : Int)) (Ord.bt 16 4085) rfl hQ trivial hS (fun w _ hS => by have e30 := f30.u; have q0 := show w.cell? ⟨g, 1, none⟩ = some (.int .i64 (lim : Int)) from (by rw [hS]; exact c1); clear F; go_simp) F.lt fun a11 N => ?_
 replace F := F.next N
 replace f20 := N.k f20
 replace f22 := N.k f22
 replace f27 := N.k f27
 clear f30
 have f31 := N.got
 clear N a10
 refine Ord.tj R 12 (.int .i64 ((m : Int) - (lim : Int))) (Ord.bt 16 8181) rfl hQ trivial hS (fun w _ hS => by have e27 := f27.u; have e31 := f31.u; have q0 := hsub; clear F; go_simp) F.lt fun a12 N => ?_
 replace F := F.next N
 replace f20 := N.k f20
 replace f22 := N.k f22
 clear f27
 clear f31
 have f32 := N.got
 clear N a11
 refine Ord.call R (k := 1) (args := #[ptr pg]) (bs' := Ord.bt 16 8183) rfl (by kernel_rfl) trivial (by simp [f20.ev]) (by kernel_rfl) (BW) F.lt ?_
 rintro e w ⟨rfl, rfl⟩
 replace hS := (rfl : w1 = w1)
 refine ⟨_, rfl, hS, fun a1 N => ?_⟩
 replace F := F.next N
 clear f20
 replace f22 := N.k f22
 replace f32 := N.k f32
 have f21 := N.got
 clear N a12
 refine Ord.call R (k := 3) (args := #[ptr pg]) (bs' := U16StoreFitR 13) rfl (by kernel_rfl) trivial (by simp [f22.ev]) (by kernel_rfl) (LW) F.lt ?_
 rintro e w ⟨rfl, rfl⟩
 replace hS := (rfl : w1 = w1)
 refine ⟨_, rfl, hS, fun a3 N => ?_⟩
 replace F := F.next N
 replace f21 := N.k f21
 clear f22
 replace f32 := N.k f32
 have f23 := N.got
 clear N a1
 refine Ord.tk R 13 (.int .i64 (k : Int)) rfl hQ hS (fun w _ hS => by have e23 := f23.u; have e32 := f32.u; have q0 := hmin; clear F; go_simp) F.lt fun a13 N => ?_
 replace F := F.next N
 replace f21 := N.k f21
 clear f23
 clear f32
 have f33 := N.got
 clear N a3
 refine Ord.tk R 14 (.int .i64 (b1 : Int)) rfl hQ hS (fun w _ hS => Chain.ev_assign f21.ev) F.lt fun a14 N => ?_
 replace F := F.next N
 clear f21
 replace f33 := N.k f33
 have f3 := N.got
 clear N a13
 refine Ord.tk R 15 (.int .i64 (k : Int)) rfl hQ hS (fun w _ hS => Chain.ev_assign f33.ev) F.lt fun a15 N => ?_
 replace F := F.next N
 replace f3 := N.k f3
 clear f33
 have f4 := N.got
 clear N a14
 exact Ord.finish R (by kernel_rfl) (h _ F f3 f4)
theorem fit_frame {a : Act} {w : World} {K : Act → World → Prop} {v0 v1 v2 v3 v4 : Value} (hz : a.tmps.size = 80) (hd : a.defers = []) (f0 : Chain.At a 0 v0) (f1 : Chain.At a 1 v1) (f2 : Chain.At a 2 v2) (f3 : Chain.At a 3 v3) (f4 : Chain.At a 4 v4)
  (h : ∀ u5 u6 u7 u8 u9 u10 u11 u12 u13 u14 u15 u16 u17 u18 u19 u20 u21 u22 u23 u24 u25 u26 u27 u28 u29 u30 u31 u32 u33 u34 u35 u36 u37 u38 u39 u40 u41 u42 u43 u44 u45 u46 u47 u48 u49 u50 u51 u52 u53 u54 u55 u56 u57 u58 u59 u60 u61 u62 u63 u64 u65 u66 u67 u68 u69 u70 u71 u72 u73 u74 u75 u76 u77 u78 u79 : Value, K ⟨#[v0, v1, v2, v3, v4, u5, u6, u7, u8, u9, u10, u11, u12, u13, u14, u15, u16, u17, u18, u19, u20, u21, u22, u23, u24, u25, u26, u27, u28, u29, u30, u31, u32, u33, u34, u35, u36, u37, u38, u39, u40, u41, u42, u43, u44, u45, u46, u47, u48, u49, u50, u51, u52, u53, u54, u55, u56, u57, u58, u59, u60, u61, u62, u63, u64, u65, u66, u67, u68, u69, u70, u71, u72, u73, u74, u75, u76, u77, u78, u79], []⟩ w) : K a w := by
 have e := Ord.frame_gets hz hd
 simp only [Ord.gets, Nat.reduceAdd] at e
 rw [Ord.at_get f0, Ord.at_get f1, Ord.at_get f2, Ord.at_get f3, Ord.at_get f4] at e
 rw [e]
 exact h _ _ _ _ _ _ _ _ _ _ _ _ _ _ _ _ _ _ _ _ _ _ _ _ _ _ _ _ _ _ _ _ _ _ _ _ _ _ _ _ _ _ _ _ _ _ _ _ _ _ _ _ _ _ _ _ _ _ _ _ _ _ _ _ _ _ _ _ _ _ _ _ _ _ _
