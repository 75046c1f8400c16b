/-
  The reference's forms in memory.
-/
import Derived.Test.YtbhfhkmcnomggaaDoorReaderd
import Derived.Test.YtbhfhkmcnomggaaDoorOne
namespace Go.Proofs.YtbhfhkmcnomggaaDoor
open Go.ChangeShapes Go.WideShapes Go.ChangeAt Go.RowKit

/-- A block of bytes. -/
def Octs (w : World) (g : Nat) (l : List Int) : Prop := g < w.heap.size ∧ ∀ j x, l[j]? = some x → w.cell? ⟨g, j, none⟩ = some (.int .u8 x)
/-- The nine forms, in a block of which each has two cells. -/
def Forms (w : World) (g : Nat) : Prop := g < w.heap.size ∧ ∀ i f, formL[i]? = some f → ∃ a b, w.cell? ⟨g, 2 * i, none⟩ = some (.slice (some ⟨a, 0, none⟩) f.1.length f.1.length) ∧ w.cell? ⟨g, 2 * i + 1, none⟩ = some (.slice (some ⟨b, 0, none⟩) f.1.length f.1.length) ∧ Octs w a f.1 ∧ Octs w b f.2
theorem Octs.below {w w' : World} {B g : Nat} {l : List Int} (h : Octs w g l) (hb : Below B w w') (hB : w.heap.size ≤ B) : Octs w' g l := ⟨Nat.lt_of_lt_of_le h.1 hb.size, fun j x hx => (hb.cell (p := ⟨g, j, none⟩) (Nat.lt_of_lt_of_le h.1 hB)).trans (h.2 j x hx)⟩
theorem Octs.alloc {w : World} {g : Nat} {l : List Int} (h : Octs w g l) (o : Obj) : Octs (w.alloc o) g l := h.below ((Below.refl _ _).alloc (Nat.le_refl _) o) (Nat.le_refl _)
theorem Octs.make (w : World) (c : Array Value) (t : TypeId) (l : List Int) (h : c.toList = l.map (Value.int .u8)) : Octs (w.alloc (.cells c t)) w.heap.size l := by
  refine ⟨by simp, fun j x hx => ?_⟩
  rw [cell_of_row _ _ j c t (0, 0) (heap_alloc_new w _)]
  have : c.toList[j]? = some (.int .u8 x) := by rw [h]; simp [hx]
  simpa using this
/-- New blocks, one behind the other. -/
def allocs (w : World) : List (Array Value × TypeId) → World
  | [] => w
  | c :: l => allocs (w.alloc (.cells c.1 c.2)) l
theorem allocs_below (w0 : World) (B : Nat) : ∀ (l : List (Array Value × TypeId)) (w : World), B ≤ w.heap.size → Below B w0 w → Below B w0 (allocs w l)
  | [], _, _, h => h
  | c :: l, w, hB, h => allocs_below w0 B l _ (by simp; omega) (h.alloc hB _)
theorem allocs_size : ∀ (l : List (Array Value × TypeId)) (w : World), (allocs w l).heap.size = w.heap.size + l.length
  | [], _ => rfl
  | c :: l, w => by rw [allocs, allocs_size l]; simp; omega
theorem allocs_cell : ∀ (l : List (Array Value × TypeId)) (w : World) (i : Nat) (c : Array Value) (t : TypeId) (j : Nat) (v : Value), l[i]? = some (c, t) → c[j]? = some v → (allocs w l).cell? ⟨w.heap.size + i, j, none⟩ = some v
  | [], _, _, _, _, _, _, h, _ => by simp at h
  | x :: l, w, 0, c, t, j, v, h, hv => by
    simp only [List.getElem?_cons_zero, Option.some.injEq] at h
    subst h
    have hb := allocs_below (w.alloc (.cells c t)) (w.alloc (.cells c t)).heap.size l (w.alloc (.cells c t)) (Nat.le_refl _) (Below.refl _ _)
    have := hb.cell (p := ⟨w.heap.size, j, none⟩) (by simp)
    rw [allocs, Nat.add_zero, this, cell_of_row _ _ j c t (0, 0) (heap_alloc_new w _)]
    simpa using hv
  | x :: l, w, i + 1, c, t, j, v, h, hv => by
    have e := allocs_cell l (w.alloc (.cells x.1 x.2)) i c t j v (by simpa using h) hv
    have hs : (w.alloc (.cells x.1 x.2)).heap.size = w.heap.size + 1 := by simp
    rw [hs] at e
    rw [allocs, show w.heap.size + (i + 1) = w.heap.size + 1 + i by omega]
    exact e
theorem allocs_octs (l : List (Array Value × TypeId)) (w : World) (i : Nat) (x : List Int) (t : TypeId) (h : l[i]? = some ((x.map (Value.int .u8)).toArray, t)) : Octs (allocs w l) (w.heap.size + i) x := by
  have hi : i < l.length := (List.getElem?_eq_some_iff.1 h).1
  refine ⟨by rw [allocs_size]; omega, fun j y hy => allocs_cell l w i _ t j _ h ?_⟩
  simp [hy]

def formRows (n : Nat) : List (Array Value × TypeId) := [
  (#[.int .u8 0], 5),
  (#[.int .u8 127], 5),
  (#[.int .u8 194, .int .u8 128], 5),
  (#[.int .u8 223, .int .u8 191], 5),
  (#[.int .u8 224, .int .u8 160, .int .u8 128], 5),
  (#[.int .u8 224, .int .u8 191, .int .u8 191], 5),
  (#[.int .u8 225, .int .u8 128, .int .u8 128], 5),
  (#[.int .u8 236, .int .u8 191, .int .u8 191], 5),
  (#[.int .u8 237, .int .u8 128, .int .u8 128], 5),
  (#[.int .u8 237, .int .u8 159, .int .u8 191], 5),
  (#[.int .u8 238, .int .u8 128, .int .u8 128], 5),
  (#[.int .u8 239, .int .u8 191, .int .u8 191], 5),
  (#[.int .u8 240, .int .u8 144, .int .u8 128, .int .u8 128], 5),
  (#[.int .u8 240, .int .u8 191, .int .u8 191, .int .u8 191], 5),
  (#[.int .u8 241, .int .u8 128, .int .u8 128, .int .u8 128], 5),
  (#[.int .u8 243, .int .u8 191, .int .u8 191, .int .u8 191], 5),
  (#[.int .u8 244, .int .u8 128, .int .u8 128, .int .u8 128], 5),
  (#[.int .u8 244, .int .u8 143, .int .u8 191, .int .u8 191], 5),
  (#[.slice (some ⟨n, 0, none⟩) 1 1, .slice (some ⟨n + 1, 0, none⟩) 1 1, .slice (some ⟨n + 1 + 1, 0, none⟩) 2 2, .slice (some ⟨n + 1 + 1 + 1, 0, none⟩) 2 2, .slice (some ⟨n + 1 + 1 + 1 + 1, 0, none⟩) 3 3, .slice (some ⟨n + 1 + 1 + 1 + 1 + 1, 0, none⟩) 3 3, .slice (some ⟨n + 1 + 1 + 1 + 1 + 1 + 1, 0, none⟩) 3 3, .slice (some ⟨n + 1 + 1 + 1 + 1 + 1 + 1 + 1, 0, none⟩) 3 3, .slice (some ⟨n + 1 + 1 + 1 + 1 + 1 + 1 + 1 + 1, 0, none⟩) 3 3, .slice (some ⟨n + 1 + 1 + 1 + 1 + 1 + 1 + 1 + 1 + 1, 0, none⟩) 3 3, .slice (some ⟨n + 1 + 1 + 1 + 1 + 1 + 1 + 1 + 1 + 1 + 1, 0, none⟩) 3 3, .slice (some ⟨n + 1 + 1 + 1 + 1 + 1 + 1 + 1 + 1 + 1 + 1 + 1, 0, none⟩) 3 3, .slice (some ⟨n + 1 + 1 + 1 + 1 + 1 + 1 + 1 + 1 + 1 + 1 + 1 + 1, 0, none⟩) 4 4, .slice (some ⟨n + 1 + 1 + 1 + 1 + 1 + 1 + 1 + 1 + 1 + 1 + 1 + 1 + 1, 0, none⟩) 4 4, .slice (some ⟨n + 1 + 1 + 1 + 1 + 1 + 1 + 1 + 1 + 1 + 1 + 1 + 1 + 1 + 1, 0, none⟩) 4 4, .slice (some ⟨n + 1 + 1 + 1 + 1 + 1 + 1 + 1 + 1 + 1 + 1 + 1 + 1 + 1 + 1 + 1, 0, none⟩) 4 4, .slice (some ⟨n + 1 + 1 + 1 + 1 + 1 + 1 + 1 + 1 + 1 + 1 + 1 + 1 + 1 + 1 + 1 + 1, 0, none⟩) 4 4, .slice (some ⟨n + 1 + 1 + 1 + 1 + 1 + 1 + 1 + 1 + 1 + 1 + 1 + 1 + 1 + 1 + 1 + 1 + 1, 0, none⟩) 4 4], 84)]
theorem formRows_forms (w : World) : Forms (allocs w (formRows w.heap.size)) (w.heap.size + 18) := by
  refine ⟨by rw [allocs_size]; simp [formRows], fun i f h => ?_⟩
  have hi : i < 9 := (List.getElem?_eq_some_iff.1 h).1
  have hr := fun (j : Nat) (v : Value) c t h1 h2 => allocs_cell (formRows w.heap.size) w 18 c t j v h1 h2
  match i, hi with
  | 0, _ =>
    obtain rfl : ([0], [127]) = f := by simpa [formL] using h
    exact ⟨w.heap.size + 0, w.heap.size + 1, hr 0 _ _ _ rfl rfl, hr 1 _ _ _ rfl rfl, allocs_octs _ w 0 _ _ rfl, allocs_octs _ w 1 _ _ rfl⟩
  | 1, _ =>
    obtain rfl : ([194, 128], [223, 191]) = f := by simpa [formL] using h
    exact ⟨w.heap.size + 2, w.heap.size + 3, hr 2 _ _ _ rfl rfl, hr 3 _ _ _ rfl rfl, allocs_octs _ w 2 _ _ rfl, allocs_octs _ w 3 _ _ rfl⟩
  | 2, _ =>
    obtain rfl : ([224, 160, 128], [224, 191, 191]) = f := by simpa [formL] using h
    exact ⟨w.heap.size + 4, w.heap.size + 5, hr 4 _ _ _ rfl rfl, hr 5 _ _ _ rfl rfl, allocs_octs _ w 4 _ _ rfl, allocs_octs _ w 5 _ _ rfl⟩
  | 3, _ =>
    obtain rfl : ([225, 128, 128], [236, 191, 191]) = f := by simpa [formL] using h
    exact ⟨w.heap.size + 6, w.heap.size + 7, hr 6 _ _ _ rfl rfl, hr 7 _ _ _ rfl rfl, allocs_octs _ w 6 _ _ rfl, allocs_octs _ w 7 _ _ rfl⟩
  | 4, _ =>
    obtain rfl : ([237, 128, 128], [237, 159, 191]) = f := by simpa [formL] using h
    exact ⟨w.heap.size + 8, w.heap.size + 9, hr 8 _ _ _ rfl rfl, hr 9 _ _ _ rfl rfl, allocs_octs _ w 8 _ _ rfl, allocs_octs _ w 9 _ _ rfl⟩
  | 5, _ =>
    obtain rfl : ([238, 128, 128], [239, 191, 191]) = f := by simpa [formL] using h
    exact ⟨w.heap.size + 10, w.heap.size + 11, hr 10 _ _ _ rfl rfl, hr 11 _ _ _ rfl rfl, allocs_octs _ w 10 _ _ rfl, allocs_octs _ w 11 _ _ rfl⟩
  | 6, _ =>
    obtain rfl : ([240, 144, 128, 128], [240, 191, 191, 191]) = f := by simpa [formL] using h
    exact ⟨w.heap.size + 12, w.heap.size + 13, hr 12 _ _ _ rfl rfl, hr 13 _ _ _ rfl rfl, allocs_octs _ w 12 _ _ rfl, allocs_octs _ w 13 _ _ rfl⟩
  | 7, _ =>
    obtain rfl : ([241, 128, 128, 128], [243, 191, 191, 191]) = f := by simpa [formL] using h
    exact ⟨w.heap.size + 14, w.heap.size + 15, hr 14 _ _ _ rfl rfl, hr 15 _ _ _ rfl rfl, allocs_octs _ w 14 _ _ rfl, allocs_octs _ w 15 _ _ rfl⟩
  | 8, _ =>
    obtain rfl : ([244, 128, 128, 128], [244, 143, 191, 191]) = f := by simpa [formL] using h
    exact ⟨w.heap.size + 16, w.heap.size + 17, hr 16 _ _ _ rfl rfl, hr 17 _ _ _ rfl rfl, allocs_octs _ w 16 _ _ rfl, allocs_octs _ w 17 _ _ rfl⟩
set_option maxHeartbeats 4000000 in
theorem forms_walk (w : World) : Calls Tryd.prog 48 #[] w fun e w' => ∃ g, e = .returned (.slice (some ⟨g, 0, none⟩) 9 9) ∧ w.heap.size ≤ g ∧ Forms w' g ∧ Below w.heap.size w w' := by
  go_enter Tryd.func48, Tryd.ntmps48
  go_wp2
  go_ret
  refine ⟨w.heap.size + 18, rfl, by omega, ?_⟩
  show Forms (allocs w (formRows w.heap.size)) _ ∧ Below _ _ (allocs w (formRows w.heap.size))
  exact ⟨formRows_forms w, allocs_below w _ _ w (Nat.le_refl _) (Below.refl _ _)⟩
end Go.Proofs.YtbhfhkmcnomggaaDoor
