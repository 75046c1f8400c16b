/-
  What the statements on utf share: Short; how a list of signs grows by another one; what is told at an end.
-/
import Derived.Test.YtbhfhkmcnomggaaDoorRefAll
import Derived.Test.YtbhfhkmcnomggaaDoorBegun
import Derived.Laws.IdiomStrings
namespace Go.Proofs.YtbhfhkmcnomggaaDoor
open Go.ChangeShapes Go.WideShapes Go.ChangeAt Go.RowKit

def shortS (s : ByteArray) (k : Nat) : ByteArray := s.extract 0 (min s.size k)
theorem shortS_size (s : ByteArray) (k : Nat) : (shortS s k).size ≤ k := by unfold shortS; rw [ByteArray.size_extract]; omega
theorem short_walk (s : ByteArray) (k : Nat) (w : World) :
    Calls Tryd.prog 16 #[.string s, .int .i64 k] w fun e w' => e = .returned (.string (shortS s k)) ∧ w = w' := by
  obtain ⟨m, hm⟩ : ∃ m : Nat, min (s.size : Int) (k : Int) = (m : Int) := ⟨min s.size k, by omega⟩
  have hm1 : m ≤ s.size := by omega
  have e : shortS s k = s.extract 0 m := by unfold shortS; congr 1; omega
  rw [e]
  clear e
  go_enter Tryd.func16, Tryd.ntmps16
  go_wp2
  go_ret
  exact ⟨rfl, rfl⟩

theorem waits_brk (st : St) (h : st.ok) : (0 < st.waits ∧ brk st = [65533]) ∨ (st.waits = 0 ∧ brk st = [] ∧ st = st0) := by
  have := h.waits
  by_cases h0 : st.waits = 0
  · exact .inr ⟨h0, by simp [brk, h0], h.zero h0⟩
  · exact .inl ⟨by omega, by simp [brk, h0]⟩
theorem run_ok (s : ByteArray) : (runS st0 (octs s)).ok := runS_ok _ _ st0_ok (octs_pos s)

/-- Bytes as a text. -/
def textOf (l : List Int) : ByteArray := ⟨(l.map fun x => UInt8.ofNat x.toNat).toArray⟩
theorem textOf_size (l : List Int) : (textOf l).size = l.length := by
  unfold textOf
  show (Array.size _) = _
  simp
theorem octs_textOf {l : List Int} (h : ∀ x ∈ l, 0 ≤ x ∧ x ≤ 255) : octs (textOf l) = l := by
  unfold octs textOf
  simp only [List.map_map]
  conv => rhs; rw [← List.map_id l]
  refine List.map_congr_left fun x hx => ?_
  obtain ⟨h0, h1⟩ := h x hx
  obtain ⟨n, rfl⟩ := Int.eq_ofNat_of_zero_le h0
  have : n < 256 := by omega
  simp [Nat.mod_eq_of_lt this]
/-- 'string(b)' where b's cells are the bytes l. -/
theorem conv_bytes (w : World) (b off c : Nat) (l : List Int) (h : ∀ x ∈ l, 0 ≤ x ∧ x ≤ 255) (hc : ∀ j x, l[j]? = some x → w.cell? ⟨b, off + j, none⟩ = some (.int .u8 x)) :
    (convert 39 9 (.slice (some ⟨b, off, none⟩) l.length c)).run Tryd.prog w = .ok (.string (textOf l)) w := by
  have k := run_convert_bytes_back (P := Tryd.prog) w 39 9 5 ⟨b, off, none⟩ c (l.map fun x => UInt8.ofNat x.toNat) Tryd.underlying39 Tryd.underlying5 Tryd.underlying9 (fun j hj => by
    have hj' : j < l.length := by simpa using hj
    rw [add_at, hc j _ (List.getElem?_eq_getElem hj')]
    obtain ⟨h0, h1⟩ := h _ (List.getElem_mem hj')
    simp only [List.getElem_map]
    obtain ⟨n, hn⟩ := Int.eq_ofNat_of_zero_le h0
    rw [hn]
    have : n < 256 := by omega
    simp [Nat.mod_eq_of_lt this])
  rw [List.length_map] at k
  exact k
theorem conv_new (w : World) (n c : Nat) (hn : w.heap.size = n) (l : List Int) (h : ∀ x ∈ l, 0 ≤ x ∧ x ≤ 255) :
    (convert 39 9 (.slice (some ⟨n, 0, none⟩) l.length c)).run Tryd.prog (w.alloc (.cells (l.map (Value.int .u8)).toArray 5)) = .ok (.string (textOf l)) (w.alloc (.cells (l.map (Value.int .u8)).toArray 5)) := by
  subst hn
  exact conv_bytes _ _ 0 c l h fun j x hx => by rw [Nat.zero_add]; exact (Octs.make w _ _ l (by simp)).2 j x hx

/-- A block of bytes is a text. -/
theorem conv_octs {w : World} {g : Nat} {l : List Int} (h : Octs w g l) (hl : ∀ x ∈ l, 0 ≤ x ∧ x ≤ 255) (n c : Nat) (hn : l.length = n) :
    (convert 39 9 (.slice (some ⟨g, 0, none⟩) n c)).run Tryd.prog w = .ok (.string (textOf l)) w := by
  subst hn
  exact conv_bytes w g 0 c l hl fun j x hx => by rw [Nat.zero_add]; exact h.2 j x hx
theorem textOf_octs (s : ByteArray) : textOf (octs s) = s := by
  have e : (textOf (octs s)).data.toList = s.data.toList := by
    unfold textOf octs
    simp only [List.map_map]
    conv => rhs; rw [← List.map_id s.data.toList]
    refine List.map_congr_left fun x _ => ?_
    simp
  exact ByteArray.ext (Array.toList_inj.1 e)
/-- The world behind '[]byte(s)'. -/
def bytesW (w : World) (s : ByteArray) : World := w.drew.alloc (.cells (bytesRow s (grownCap w s.size 0 5)) 5 ((bytesRow s (grownCap w s.size 0 5)).size, (bytesRow s (grownCap w s.size 0 5)).size + 1))
theorem run_bytes (w : World) (s : ByteArray) : (convert 9 39 (.string s)).run Tryd.prog w = .ok (.slice (some ⟨w.heap.size, 0, none⟩) s.size (grownCap w s.size 0 5)) (bytesW w s) :=
  run_bytes_of_string w 9 39 5 s Tryd.underlying9 Tryd.underlying39 Tryd.underlying5
theorem bytesW_size (w : World) (s : ByteArray) : (bytesW w s).heap.size = w.heap.size + 1 := by unfold bytesW; simp
theorem bytesW_below (w : World) (s : ByteArray) : Below w.heap.size w (bytesW w s) := (Below.refl w.heap.size w).drew.alloc (Nat.le_refl _) _
theorem bytesW_octs (w : World) (s : ByteArray) : Octs (bytesW w s) w.heap.size (octs s) := by
  refine ⟨by rw [bytesW_size]; omega, fun j x hx => ?_⟩
  have hj : j < s.size := by rw [← octs_length]; exact (List.getElem?_eq_some_iff.1 hx).1
  have hx' : x = (s.data[j].toNat : Int) := by
    obtain ⟨h1, h2⟩ := List.getElem?_eq_some_iff.1 hx
    rw [← h2]
    simp [octs]
  have e := World.cell?_alloc_mark w.drew (bytesRow s (grownCap w s.size 0 5)) 5 ((bytesRow s (grownCap w s.size 0 5)).size, (bytesRow s (grownCap w s.size 0 5)).size + 1) j
  have e2 := bytesRow_at s (grownCap w s.size 0 5) j hj
  rw [hx']
  exact e.trans e2
theorem bytesW_free (w : World) (s : ByteArray) (j : Nat) (hj : j < s.size) : (bytesW w s).frozen? ⟨w.heap.size, j, none⟩ = false := by
  have e := World.frozen?_alloc_mark w.drew (bytesRow s (grownCap w s.size 0 5)) 5 (bytesRow s (grownCap w s.size 0 5)).size ((bytesRow s (grownCap w s.size 0 5)).size + 1) j
  have hs : s.size ≤ (bytesRow s (grownCap w s.size 0 5)).size := by
    unfold bytesRow
    rw [Array.size_append]
    have : s.size = s.data.size := rfl
    simp
  have hlt : ¬ (bytesRow s (grownCap w s.size 0 5)).size ≤ j := by omega
  exact e.trans (by simp [hlt])
theorem octs_setCell {w : World} {g i : Nat} {l : List Int} (h : Octs w g l) (hi : i < l.length) (x : Int) : Octs (w.setCell ⟨g, i, none⟩ (.int .u8 x)) g (l.set i x) := by
  have hc := h.2 i _ (List.getElem?_eq_getElem hi)
  refine ⟨by simp [World.setCell]; exact h.1, fun j y hy => ?_⟩
  by_cases e : i = j
  · subst e
    rw [List.getElem?_set_self hi] at hy
    injection hy with hy
    subst hy
    exact World.cell?_setCell_same' _ _ _ (by rw [hc]; rfl)
  · rw [List.getElem?_set_ne e] at hy
    rw [World.cell?_setCell_other (a := ⟨g, i, none⟩) (b := ⟨g, j, none⟩) (h := fun k => e (by injection k))]
    exact h.2 j y hy

end Go.Proofs.YtbhfhkmcnomggaaDoor
