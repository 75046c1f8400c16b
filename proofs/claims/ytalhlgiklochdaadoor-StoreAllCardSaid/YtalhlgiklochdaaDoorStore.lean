/-
  A store in memory: which blocks have turned; its pages, what they hold all together.
-/
import Derived.Test.YtalhlgiklochdaaDoorPageCut
import Derived.Test.YtalhlgiklochdaaDoorSlAt
namespace Go.Proofs.YtalhlgiklochdaaDoor
open Go.ChangeShapes Go.WideShapes Go.ChangeAt Go.RowKit

/-- Of the blocks that were there those of M alone have turned. -/
structure Turned (M : Nat → Prop) (w w' : World) : Prop where
  os : w'.os = w.os
  tape : w'.tape = w.tape
  output : w'.output = w.output
  size : w.heap.size ≤ w'.heap.size
  block : ∀ k, k < w.heap.size → ¬ M k → w'.heap[k]? = w.heap[k]?
namespace Turned
variable {M M' : Nat → Prop} {w w' w2 : World}
theorem refl (M : Nat → Prop) (w : World) : Turned M w w := ⟨rfl, rfl, rfl, Nat.le_refl _, fun _ _ _ => rfl⟩
theorem trans (h : Turned M w w') (h2 : Turned M' w' w2) (hm : ∀ k, k < w.heap.size → M' k → M k) : Turned M w w2 :=
  ⟨h2.os.trans h.os, h2.tape.trans h.tape, h2.output.trans h.output, Nat.le_trans h.size h2.size, fun k hk hn => (h2.block k (Nat.lt_of_lt_of_le hk h.size) (fun x => hn (hm k hk x))).trans (h.block k hk hn)⟩
theorem mono (h : Turned M w w') (hm : ∀ k, k < w.heap.size → M k → M' k) : Turned M' w w' := ⟨h.os, h.tape, h.output, h.size, fun k hk hn => h.block k hk (fun x => hn (hm k hk x))⟩
theorem ofBelow (h : Below w.heap.size w w') (M : Nat → Prop) : Turned M w w' := ⟨h.os, h.tape, h.output, h.size, fun k hk _ => h.block k hk⟩
theorem ofOnly {g : Nat} (h : OnlyRow g w w') : Turned (· = g) w w' := ⟨h.os, h.tape, h.output, Nat.le_of_eq h.size.symm, fun k _ hk => h.block k hk⟩
theorem ofGrown {row : Option Nat} (h : w.grownBy w' row) : Turned (fun k => row = some k) w w' := ⟨h.os, h.tape, h.output, h.size, fun k hk hn => h.block k hk (fun e => hn e.symm)⟩
theorem ofCell (g j : Nat) (w : World) (v : Value) : Turned (· = g) w (w.setCell ⟨g, j, none⟩ v) := ofOnly (OnlyRow.cell g j w v)
theorem toBelow (h : Turned M w w') {B : Nat} (hB : B ≤ w.heap.size) (hm : ∀ k, k < B → ¬ M k) : Below B w w' := ⟨h.os, h.tape, h.output, h.size, fun k hk => h.block k (Nat.lt_of_lt_of_le hk hB) (hm k hk)⟩
end Turned
/-- A block of cells of type e. -/
def Typed (w : World) (e : TypeId) (k : Nat) : Prop := ∃ cs fr, w.heap[k]? = some (.cells cs e fr)
theorem Typed.apart {w : World} {e e' : TypeId} {k k' : Nat} (h : Typed w e k) (h' : Typed w e' k') (hne : e ≠ e') : k ≠ k' := by
  rintro rfl
  obtain ⟨_, _, h⟩ := h
  obtain ⟨_, _, h'⟩ := h'
  rw [h] at h'
  injection h' with h'
  injection h' with _ h'
  exact hne h'
theorem HasB.turned {M : Nat → Prop} {w w' : World} {base : Nat} {v : Value} {xs : List Int} (h : HasB w base v xs) (ht : Turned M w w') (hm : ∀ k, M k → ¬ Typed w 5 k) : HasB w' base v xs := by
  refine ⟨h.1, ?_⟩
  rcases h.2 with e | ⟨b, cap, cur, rfl, e2, e3, rr⟩
  · exact .inl e
  · exact .inr ⟨b, cap, cur, rfl, e2, (ht.block b (Array.getElem?_eq_some_iff.1 e3).1 (fun x => hm b x ⟨_, _, e3⟩)).trans e3, rr⟩
theorem PageAt.typed {w : World} {base g : Nat} {vs : List Value} {rows : List PRow} (h : PageAt w base g vs rows) : Typed w 90 g := ⟨_, _, h.cells⟩
theorem PageAt.turned {M : Nat → Prop} {w w' : World} {base g : Nat} {vs : List Value} {rows : List PRow} (h : PageAt w base g vs rows) (ht : Turned M w w') (hg : ¬ M g) (hm : ∀ k, M k → ¬ Typed w 5 k) : PageAt w' base g vs rows :=
  ⟨(ht.block g h.lt hg).trans h.cells, h.from', h.many, h.few, fun i v r hv hr => ⟨(h.row i v r hv hr).1.turned ht hm, (h.row i v r hv hr).2⟩, h.may⟩
theorem PageAt.base {w : World} {base base' g : Nat} {vs : List Value} {rows : List PRow} (h : PageAt w base g vs rows) (hb : base' ≤ base) : PageAt w base' g vs rows :=
  ⟨h.cells, Nat.le_trans hb h.from', h.many, h.few, fun i v r hv hr => ⟨(h.row i v r hv hr).1.mono' hb, (h.row i v r hv hr).2⟩, h.may⟩

/-- A page: its block, its rows' bytes, its rows. -/
structure Pg where
  g : Nat
  vs : List Value
  rows : List PRow
abbrev ptr (g : Nat) : Value := .pointer (some ⟨g, 0, none⟩)
def allRows (ps : List Pg) : List PRow := (ps.map Pg.rows).flatten
theorem allRows_nil : allRows [] = [] := rfl
theorem allRows_cons (p : Pg) (ps : List Pg) : allRows (p :: ps) = p.rows ++ allRows ps := by simp [allRows]
theorem allRows_append (ps qs : List Pg) : allRows (ps ++ qs) = allRows ps ++ allRows qs := by simp [allRows]
theorem bytesN_append (a b : List PRow) : bytesN (a ++ b) = bytesN a + bytesN b := by simp [bytesN]
/-- A store in memory, its fields as they stand. -/
structure StR (w : World) (base g : Nat) (v : Value) (ps : List Pg) (lim many bytes gone : Int) : Prop where
  cells : w.heap[g]? = some (.cells #[v, .int .i64 lim, .int .i64 many, .int .i64 bytes, .int .i64 gone] 95 (0, 0))
  from' : base ≤ g
  sl : SlAt w base 49 v ps.length (ps.map fun p => ptr p.g)
  page : ∀ p ∈ ps, PageAt w base p.g p.vs p.rows
  apart : (ps.map Pg.g).Nodup
/-- No page is empty; all but the front one and the last one are full. -/
structure Full (ps : List Pg) : Prop where
  some' : ∀ p ∈ ps, p.rows ≠ []
  few : ∀ p ∈ ps, p.rows.length ≤ 16
  full : ∀ (i : Nat) (p : Pg), ps[i]? = some p → 0 < i → i + 1 < ps.length → p.rows.length = 16
/-- A store that keeps its word. -/
structure StoreAt (w : World) (base g : Nat) (v : Value) (ps : List Pg) (lim gone : Nat) : Prop where
  raw : StR w base g v ps lim ((allRows ps).length : Nat) (bytesN (allRows ps) : Nat) gone
  kept : Full ps
/-- The blocks that a store may turn. -/
def Owns (g : Nat) (v : Value) (ps : List Pg) (k : Nat) : Prop := k = g ∨ v.ownBlock = some k ∨ ∃ p ∈ ps, p.g = k
namespace StR
variable {w w' : World} {base g : Nat} {v : Value} {ps : List Pg} {lim many bytes gone : Int}
theorem typed (h : StR w base g v ps lim many bytes gone) : Typed w 95 g := ⟨_, _, h.cells⟩
theorem lt (h : StR w base g v ps lim many bytes gone) : g < w.heap.size := (Array.getElem?_eq_some_iff.1 h.cells).1
theorem get (h : StR w base g v ps lim many bytes gone) (j : Nat) : w.cell? ⟨g, j, none⟩ = #[v, .int .i64 lim, .int .i64 many, .int .i64 bytes, .int .i64 gone][j]? := cell_of_row w g j _ _ (0, 0) h.cells
theorem free (h : StR w base g v ps lim many bytes gone) (j : Nat) : w.frozen? ⟨g, j, none⟩ = false := frozen_of_row w g j _ _ h.cells
theorem slTyped (h : StR w base g v ps lim many bytes gone) : ∀ k, v.ownBlock = some k → Typed w 49 k := fun k e => let ⟨_, cs, h⟩ := h.sl.type k e; ⟨cs, _, h⟩
/-- None of its own blocks holds bytes of rows. -/
theorem noBytes (h : StR w base g v ps lim many bytes gone) : ∀ k, Owns g v ps k → ¬ Typed w 5 k := by
  rintro k (rfl | hk | ⟨p, hp, rfl⟩) hb
  · exact h.typed.apart hb (by decide) rfl
  · exact (h.slTyped k hk).apart hb (by decide) rfl
  · exact (h.page p hp).typed.apart hb (by decide) rfl
theorem own_ge (h : StR w base g v ps lim many bytes gone) : ∀ k, Owns g v ps k → base ≤ k ∧ k < w.heap.size := by
  rintro k (rfl | hk | ⟨p, hp, rfl⟩)
  · exact ⟨h.from', h.lt⟩
  · exact h.sl.lt k hk
  · exact ⟨(h.page p hp).from', (h.page p hp).lt⟩
/-- Where none of its blocks has turned, and no row's bytes, it stands. -/
theorem turned (h : StR w base g v ps lim many bytes gone) {M : Nat → Prop} (ht : Turned M w w') (ho : ∀ k, Owns g v ps k → ¬ M k) (hm : ∀ k, M k → ¬ Typed w 5 k) : StR w' base g v ps lim many bytes gone :=
  ⟨(ht.block g h.lt (ho g (.inl rfl))).trans h.cells, h.from', h.sl.kept fun b hb => ht.block b (h.sl.lt b hb).2 (ho b (.inr (.inl hb))),
    fun p hp => (h.page p hp).turned ht (ho p.g (.inr (.inr ⟨p, hp, rfl⟩))) hm, h.apart⟩
theorem below (h : StR w base g v ps lim many bytes gone) (hb : Below w.heap.size w w') : StR w' base g v ps lim many bytes gone := h.turned (M := fun _ => False) (Turned.ofBelow hb _) (fun _ _ h => h) (fun _ h => h.elim)
/-- What turns its own block alone leaves all else of it. -/
theorem head (h : StR w base g v ps lim many bytes gone) (ht : Turned (· = g) w w') {lim' many' bytes' gone' : Int} (hc : w'.heap[g]? = some (.cells #[v, .int .i64 lim', .int .i64 many', .int .i64 bytes', .int .i64 gone'] 95 (0, 0))) : StR w' base g v ps lim' many' bytes' gone' := by
  refine ⟨hc, h.from', h.sl.kept fun b hb => ht.block b (h.sl.lt b hb).2 (fun e => (h.slTyped b hb).apart h.typed (by decide) e), fun p hp => (h.page p hp).turned ht (fun e => (h.page p hp).typed.apart h.typed (by decide) e) (fun k e => ?_), h.apart⟩
  subst e
  exact fun hb => h.typed.apart hb (by decide) rfl
theorem setLim (h : StR w base g v ps lim many bytes gone) (x : Int) : StR (w.setCell ⟨g, 1, none⟩ (.int .i64 x)) base g v ps x many bytes gone := h.head (Turned.ofCell _ _ _ _) (heap_setCell_same w g 1 _ _ _ h.cells)
theorem setMany (h : StR w base g v ps lim many bytes gone) (x : Int) : StR (w.setCell ⟨g, 2, none⟩ (.int .i64 x)) base g v ps lim x bytes gone := h.head (Turned.ofCell _ _ _ _) (heap_setCell_same w g 2 _ _ _ h.cells)
theorem setBytes (h : StR w base g v ps lim many bytes gone) (x : Int) : StR (w.setCell ⟨g, 3, none⟩ (.int .i64 x)) base g v ps lim many x gone := h.head (Turned.ofCell _ _ _ _) (heap_setCell_same w g 3 _ _ _ h.cells)
theorem setGone (h : StR w base g v ps lim many bytes gone) (x : Int) : StR (w.setCell ⟨g, 4, none⟩ (.int .i64 x)) base g v ps lim many bytes x := h.head (Turned.ofCell _ _ _ _) (heap_setCell_same w g 4 _ _ _ h.cells)
/-- Another list of pages: the slice is put into the store's block. -/
theorem setPages (h : StR w base g v ps lim many bytes gone) {u : Value} {qs : List Pg} (hs : SlAt w base 49 u qs.length (qs.map fun p => ptr p.g)) (hp : ∀ p ∈ qs, PageAt w base p.g p.vs p.rows) (ha : (qs.map Pg.g).Nodup) :
    StR (w.setCell ⟨g, 0, none⟩ u) base g u qs lim many bytes gone := by
  have ht := Turned.ofCell g 0 w u
  have hu : ∀ k, u.ownBlock = some k → Typed w 49 k := fun k e => let ⟨_, cs, h⟩ := hs.type k e; ⟨cs, _, h⟩
  refine ⟨heap_setCell_same w g 0 _ _ _ h.cells, h.from', hs.kept fun b hb => ht.block b (hs.lt b hb).2 (fun e => (hu b hb).apart h.typed (by decide) e), fun p hp' => (hp p hp').turned ht (fun e => (hp p hp').typed.apart h.typed (by decide) e) (fun k e => ?_), ha⟩
  subst e
  exact fun hb => h.typed.apart hb (by decide) rfl
/-- One page has turned. -/
theorem setPage {ps0 ps1 : List Pg} {p : Pg} (h : StR w base g v (ps0 ++ p :: ps1) lim many bytes gone) (ht : Turned (· = p.g) w w') {vs' : List Value} {rows' : List PRow} (hp : PageAt w' base p.g vs' rows') :
    StR w' base g v (ps0 ++ ⟨p.g, vs', rows'⟩ :: ps1) lim many bytes gone := by
  have hpp := h.page p (by simp)
  have hb : ∀ k, k = p.g → ¬ Typed w 5 k := fun k e hb => by subst e; exact hpp.typed.apart hb (by decide) rfl
  have hne : ∀ q, q ∈ ps0 ∨ q ∈ ps1 → q.g ≠ p.g := fun q hq e => by
    have ha := h.apart
    rw [List.map_append, List.map_cons, List.nodup_append] at ha
    rcases hq with hq | hq
    · exact ha.2.2 q.g (List.mem_map.2 ⟨q, hq, rfl⟩) p.g (by simp) e
    · have := (List.nodup_cons.1 ha.2.1).1
      exact this (by rw [← e]; exact List.mem_map.2 ⟨q, hq, rfl⟩)
  refine ⟨(ht.block g h.lt (fun e => h.typed.apart hpp.typed (by decide) e)).trans h.cells, h.from', ?_, fun q hq => ?_, by simpa using h.apart⟩
  · have hs := h.sl.kept (w' := w') fun b hb => ht.block b (h.sl.lt b hb).2 (fun e => (h.slTyped b hb).apart hpp.typed (by decide) e)
    simpa using hs
  · rcases List.mem_append.1 hq with hq | hq
    · exact (h.page q (by simp [hq])).turned ht (hne q (.inl hq)) hb
    · rcases List.mem_cons.1 hq with rfl | hq
      · exact hp
      · exact (h.page q (by simp [hq])).turned ht (hne q (.inr hq)) hb
end StR
theorem StoreAt.turned {w w' : World} {base g : Nat} {v : Value} {ps : List Pg} {lim gone : Nat} (h : StoreAt w base g v ps lim gone) {M : Nat → Prop} (ht : Turned M w w') (ho : ∀ k, Owns g v ps k → ¬ M k) (hm : ∀ k, M k → ¬ Typed w 5 k) : StoreAt w' base g v ps lim gone := ⟨h.raw.turned ht ho hm, h.kept⟩
theorem StoreAt.below {w w' : World} {base g : Nat} {v : Value} {ps : List Pg} {lim gone : Nat} (h : StoreAt w base g v ps lim gone) (hb : Below w.heap.size w w') : StoreAt w' base g v ps lim gone := ⟨h.raw.below hb, h.kept⟩
theorem flatten_get {α : Type} : ∀ (l : List (List α)) (i : Nat), (∀ j q, l[j]? = some q → j + 1 < l.length → q.length = 16) → (∀ q ∈ l, q.length ≤ 16) → l.flatten[i]? = l[i / 16]?.bind (fun q => q[i % 16]?)
  | [], i, _, _ => by simp
  | q :: r, i, hf, hl => by
    have ih := fun k => flatten_get r k (fun j q' hj hl' => hf (j + 1) q' (by simpa using hj) (by simpa using hl')) (fun q' h => hl q' (by simp [h]))
    have hq := hl q (by simp)
    rw [List.flatten_cons]
    by_cases h16 : i < 16
    · rw [Nat.div_eq_of_lt h16, Nat.mod_eq_of_lt h16]
      simp only [List.getElem?_cons_zero, Option.bind_some]
      by_cases hi : i < q.length
      · rw [List.getElem?_append_left hi]
      · have hr : r = [] := by
          cases r with
          | nil => rfl
          | cons a b => have := hf 0 q (by simp) (by simp); omega
        subst hr
        simp
    · obtain ⟨m, rfl⟩ : ∃ m, i = m + 16 := ⟨i - 16, by omega⟩
      rw [Nat.add_mod_right, Nat.add_div_right m (by decide)]
      simp only [List.getElem?_cons_succ]
      rw [← ih m, List.getElem?_append_right (by omega)]
      cases r with
      | nil => simp
      | cons a b =>
        have := hf 0 q (by simp) (by simp)
        rw [this, Nat.add_sub_cancel]
/-- Where the i-th row stands. -/
theorem Full.front {p : Pg} {ps : List Pg} (i : Nat) (hi : i < p.rows.length) : (allRows (p :: ps))[i]? = p.rows[i]? := by rw [allRows_cons, List.getElem?_append_left hi]
theorem Full.behind {p : Pg} {ps : List Pg} (h : Full (p :: ps)) (i : Nat) (hi : p.rows.length ≤ i) : (allRows (p :: ps))[i]? = ps[(i - p.rows.length) / 16]?.bind (fun q => q.rows[(i - p.rows.length) % 16]?) := by
  rw [allRows_cons, List.getElem?_append_right hi]
  unfold allRows
  rw [flatten_get]
  · rw [List.getElem?_map]
    cases ps[(i - p.rows.length) / 16]? <;> rfl
  · intro j q hj hl
    rw [List.getElem?_map] at hj
    cases hq : ps[j]? with
    | none => rw [hq] at hj; cases hj
    | some q' =>
      rw [hq] at hj
      injection hj with hj
      subst hj
      exact h.full (j + 1) q' (by simpa using hq) (by omega) (by simpa using hl)
  · intro q hq
    obtain ⟨q', hq', rfl⟩ := List.mem_map.1 hq
    exact h.few q' (by simp [hq'])
theorem bytesN_drop_take (R : List PRow) (k : Nat) : bytesN (R.take k) + bytesN (R.drop k) = bytesN R := by rw [← bytesN_append, List.take_append_drop]
end Go.Proofs.YtalhlgiklochdaaDoor
