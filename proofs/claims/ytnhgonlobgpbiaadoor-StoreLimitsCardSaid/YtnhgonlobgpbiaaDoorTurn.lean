/-
  A store as rows of one cell come, one by one (StoreTurn, StoreLimits); the one cell of a row that was told.
-/
import Derived.Test.YtnhgonlobgpbiaaDoorStoreFit
namespace Go.Proofs.YtnhgonlobgpbiaaDoor
open Go.ChangeShapes Go.WideShapes Go.ChangeAt Go.RowKit

theorem tmod_range (x : Int) (m : Int) (hm : 0 < m) : -m < x.tmod m ∧ x.tmod m < m := by
  have h1 := Int.tmod_lt_of_pos x hm
  have h2 := Int.tmod_lt_of_pos (-x) hm
  rw [Int.neg_tmod] at h2
  omega
def rowk (i : Nat) : PRow := (false, [(256 + (i : Int), 1, 0)])
def turnR (L i : Nat) : List PRow := ((List.range i).map rowk).drop (i - L)
theorem turnR_len (L i : Nat) : (turnR L i).length = min i L := by unfold turnR; simp; omega
theorem rowk_may : ∀ i, i < 90 → mayL (rowk i).2 = true := by decide +kernel
theorem turnR_next (L i : Nat) (hi : i < 90) : addR L (turnR L i) (rowk i) = turnR L (i + 1) := by
  unfold addR
  rw [if_pos (rowk_may i hi), turnR_len]
  unfold turnR
  rw [List.range_succ, List.map_append, List.map_cons, List.map_nil]
  have e : ((List.range i).map rowk).drop (i - L) ++ [rowk i] = ((List.range i).map rowk ++ [rowk i]).drop (i - L) := by rw [List.drop_append_of_le_length (by simp)]
  rw [e, List.drop_drop]
  congr 1
  omega
theorem turnG_next (L i : Nat) (hi : i < 90) : (i - L) + addG L (turnR L i) (rowk i) = i + 1 - L := by
  unfold addG
  rw [if_pos (rowk_may i hi), turnR_len]
  omega
theorem turnR_get (L n i : Nat) (h : i < min n L) : (turnR L n)[i]? = some (rowk (n - L + i)) := by
  unfold turnR
  rw [List.getElem?_drop, List.getElem?_map, List.getElem?_range (by omega)]
  rfl
/-- Between two rows. -/
structure TurnAt (w0 : World) (gs L k : Nat) (W : World) : Prop where
  sp : Spans W
  old : Below w0.heap.size w0 W
  st : ∃ v ps, StoreAt W gs gs v ps L (k - L) ∧ allRows ps = turnR L k
theorem TurnAt.laid {w0 W W' : World} {gs L k : Nat} (h : TurnAt w0 gs L k W) (hb : Below W.heap.size W W') : TurnAt w0 gs L k W' :=
  ⟨h.sp.below hb h.sp.size, h.old.trans (hb.mono h.old.size), let ⟨v, ps, s, r⟩ := h.st; ⟨v, ps, s.below hb, r⟩⟩
theorem TurnAt.len {w0 W : World} {gs L k : Nat} (h : TurnAt w0 gs L k W) : Calls Tryd.prog 42 #[ptr gs] W fun e w' => e = .returned (.int .i64 ((min k L : Nat) : Int)) ∧ W = w' := by
  obtain ⟨v, ps, s, r⟩ := h.st
  have k := storeLen_walk s.raw
  rw [r, turnR_len] at k
  exact k
theorem TurnAt.gone {w0 W : World} {gs L k : Nat} (h : TurnAt w0 gs L k W) : Calls Tryd.prog 44 #[ptr gs] W fun e w' => e = .returned (.int .i64 ((k - L : Nat) : Int)) ∧ W = w' := by
  obtain ⟨v, ps, s, r⟩ := h.st
  exact storeGone_walk s.raw
theorem TurnAt.at' {w0 W : World} {gs L n i : Nat} (h : TurnAt w0 gs L n W) (hn : n < 90) (hi : i < min n L) : Calls Tryd.prog 45 #[ptr gs, .int .i64 (i : Int)] W fun e w' => AtPost (some (rowk (n - L + i))) W e w' := by
  obtain ⟨v, ps, s, r⟩ := h.st
  exact storeAt_some i (rowk (n - L + i)) h.sp s (by rw [r, turnR_len]; omega) (by rw [r]; exact turnR_get L n i hi)
/-- One row more. -/
theorem TurnAt.add {w0 W : World} {gs L k : Nat} (h : TurnAt w0 gs L k W) (hs : Spans w0) (hg : w0.heap.size ≤ gs) (hk : k < 90) :
    Calls Tryd.prog 41 #[ptr gs, .agg #[.slice (some ⟨W.heap.size, 0, none⟩) 1 1, .bool false]] (W.alloc (.cells #[.int .i32 (256 + (k : Int)), .int .i64 1, .int .i64 0] 45)) fun e w' => e = .returned (.bool true) ∧ Hid (TurnAt w0 gs L (k + 1) w') := by
  have bb := (Below.refl W.heap.size W).alloc (Nat.le_refl _) (.cells #[.int .i32 (256 + (k : Int)), .int .i64 1, .int .i64 0] 45)
  have h1 := h.laid bb
  obtain ⟨v, ps, s, r⟩ := h1.st
  refine (storeAdd_walk (some ⟨W.heap.size, 0, none⟩) 1 1 false [(256 + (k : Int), 1, 0)] _ h1.sp s (fun c hc => by rw [List.mem_singleton.1 hc]; simp only; omega) ⟨rfl, fun _ => ⟨W.heap.size, 0, rfl, by simp, fun j u hu => (cell_of_row _ _ _ _ _ (0, 0) (heap_alloc_new W _)).trans (by rw [Nat.zero_add, List.getElem?_toArray]; exact hu)⟩⟩ (Nat.le_refl _) (by decide) (by rw [r, turnR_len]; omega) (by omega)).mono ?_
  rintro e w' ⟨v', ps', rfl, s', r', t', o'⟩
  refine ⟨ret_bool (rowk_may k hk), ?_⟩
  have hb : Below w0.heap.size (W.alloc (.cells #[.int .i32 (256 + (k : Int)), .int .i64 1, .int .i64 0] 45)) w' := t'.toBelow h1.old.size (fun j hj e => by have := (s.raw.own_ge j e).1; omega)
  refine ⟨h1.sp.below hb hs.size, h1.old.trans hb, v', ps', ?_, ?_⟩
  · have e := turnG_next L k hk
    rw [← e, ← r]
    exact s'
  · rw [r', r]
    exact turnR_next L k hk
/-- The one cell of a row that was told. -/
theorem one_cell {w : World} {B : Nat} {v : Value} {r : Int} (h : HasC w B v [(r, 1, 0)]) : ∃ g c, v = .slice (some ⟨g, 0, none⟩) 1 c ∧ 1 ≤ c ∧ B ≤ g ∧ g < w.heap.size ∧ w.cell? ⟨g, 0, none⟩ = some (.int .i32 r) := by
  rcases h.2 with ⟨_, h0⟩ | ⟨g, cap, cur, rfl, hB, hg, hc, _, hs, htake⟩
  · cases h0
  · refine ⟨g, cap, rfl, hc, hB, (Array.getElem?_eq_some_iff.1 hg).1, ?_⟩
    rw [cell_of_row w g 0 cur _ (0, 0) hg]
    have : (cur.toList.take (1 * 3))[0]? = some (.int .i32 r) := by
      have h2 : cur.toList.take ([(r, (1 : Int), (0 : Int))].length * 3) = flat [(r, 1, 0)] := htake
      rw [show (1 * 3 : Nat) = [(r, (1 : Int), (0 : Int))].length * 3 from rfl, h2]
      rfl
    rw [List.getElem?_take] at this
    simpa using this
end Go.Proofs.YtnhgonlobgpbiaaDoor
