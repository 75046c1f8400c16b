import Derived.Test.YtmpoboffdfcpiaaGreatDoorQStore1
import Derived.Laws.BytesString
import Derived.Lib.RuneBytes
namespace Go.Proofs.YtmpoboffdfcpiaaGreatDoor
open Go.ChangeShapes Go.WideShapes Go.ChangeAt Go.RowKit
structure RowsIn (W : World) (base : Nat) (v : Value) (xs : List RowIn) : Prop where
 own : W.ownsRow base 58 2 v xs.length (xs.flatMap RowIn.vals)
 each : ∀ x ∈ xs, HasC W 0 (.slice x.A x.n x.c) x.l ∧ ∀ c ∈ x.l, -2147483648 ≤ c.1 ∧ c.1 ≤ 2147483647
namespace RowsIn
variable {W W' : World} {base : Nat} {v v' : Value} {xs : List RowIn}
theorem nothing (W : World) (base : Nat) : RowsIn W base (.slice none 0 0) [] := ⟨World.ownsRow_nil W base _ _, fun _ h => by cases h⟩
theorem typed (h : RowsIn W base v xs) : ∀ k, v.ownBlock = some k → Typed W 58 k := by
 intro k hk
 rcases h.own.2 with ⟨e, _⟩ | ⟨g, cap, cur, e, _, e3, _⟩
 ·rw [e] at hk; cases hk
 ·rw [e] at hk
  injection hk with hk
  subst hk
  exact ⟨_, _, e3⟩
theorem turned {M : Nat → Prop} (h : RowsIn W base v xs) (ht : Turned M W W') (hv : ∀ k, v.ownBlock = some k → ¬ M k) (hc : ∀ k, M k → ¬ Typed W 62 k) : RowsIn W' base v xs := by
 refine ⟨⟨h.own.1, ?_⟩, fun x hx => ⟨?_, (h.each x hx).2⟩⟩
 ·rcases h.own.2 with e | ⟨g, cap, cur, e, e2, e3, r⟩
  ·exact .inl e
  ·exact .inr ⟨g, cap, cur, e, e2, (ht.block g (Array.getElem?_eq_some_iff.1 e3).1 (hv g (by rw [e]; rfl))).trans e3, r⟩
 ·have hx' := (h.each x hx).1
  refine ⟨hx'.1, ?_⟩
  rcases hx'.2 with e | ⟨g, cap, cur, e, e2, e3, r⟩
  ·exact .inl e
  ·exact .inr ⟨g, cap, cur, e, e2, (ht.block g (Array.getElem?_eq_some_iff.1 e3).1 (fun m => hc g m ⟨_, _, e3⟩)).trans e3, r⟩
theorem below (h : RowsIn W base v xs) (hb : Below W.heap.size W W') : RowsIn W' base v xs := h.turned (M := fun _ => False) (Turned.ofBelow hb _) (fun _ _ h => h) (fun _ h => h.elim)
theorem snoc {x : RowIn} (h : RowsIn W base v xs) (hg : W.grownBy W' v.ownBlock) (ho : W'.ownsRow base 58 2 v' (xs.length + 1) (xs.flatMap RowIn.vals ++ x.vals)) (hx : HasC W 0 (.slice x.A x.n x.c) x.l) (hs : ∀ c ∈ x.l, -2147483648 ≤ c.1 ∧ c.1 ≤ 2147483647) : RowsIn W' base v' (xs ++ [x]) := by
 have ht := Turned.ofGrown hg
 have hc : ∀ k, v.ownBlock = some k → ¬ Typed W 62 k := fun k hk hty => (h.typed k hk).apart hty (by decide) rfl
 have one : ∀ y : RowIn, HasC W 0 (.slice y.A y.n y.c) y.l → HasC W' 0 (.slice y.A y.n y.c) y.l := fun y hy => by
  refine ⟨hy.1, ?_⟩
  rcases hy.2 with e | ⟨g, cap, cur, e, e2, e3, r⟩
  ·exact .inl e
  ·exact .inr ⟨g, cap, cur, e, e2, (ht.block g (Array.getElem?_eq_some_iff.1 e3).1 (fun m => hc g m ⟨_, _, e3⟩)).trans e3, r⟩
 refine ⟨?_, fun y hy => ?_⟩
 ·rw [List.length_append, List.flatMap_append]
  simpa [List.flatMap_cons] using ho
 ·rcases List.mem_append.1 hy with hy | hy
  ·exact ⟨one y (h.each y hy).1, (h.each y hy).2⟩
  ·rw [List.mem_singleton.1 hy]
   exact ⟨one x hx, hs⟩
theorem shape (h : RowsIn W base v xs) : ∃ A c, v = .slice A xs.length c ∧ xs.length ≤ c := by
 rcases h.own.2 with ⟨rfl, h0⟩ | ⟨g, cap, cur, rfl, _, _, hc, _⟩
 ·rw [h0]; exact ⟨_, _, rfl, Nat.le_refl _⟩
 ·exact ⟨_, _, rfl, hc⟩
theorem get {k : Nat} {x : RowIn} (h : RowsIn W base v xs) (hx : xs[k]? = some x) : ∃ g c, v = .slice (some ⟨g, 0, none⟩) xs.length c ∧ xs.length ≤ c ∧ base ≤ g ∧ g < W.heap.size ∧ W.cell? ⟨g, k * 2, none⟩ = some (.slice x.A x.n x.c) ∧ W.cell? ⟨g, k * 2 + 1, none⟩ = some (.bool x.wrap) := by
 have hk := (List.getElem?_eq_some_iff.1 hx).1
 obtain ⟨g, c, e, h1, h2, h3, hc⟩ := own_at h.own (by omega)
 exact ⟨g, c, e, h1, h2, h3, hc (k * 2) _ (by have := flatMap_get RowIn.vals 2 (fun _ => rfl) xs k x hx 0 _ rfl; simpa using this), hc (k * 2 + 1) _ (flatMap_get RowIn.vals 2 (fun _ => rfl) xs k x hx 1 _ rfl)⟩
theorem lt (h : RowsIn W base v xs) : ∀ k, v.ownBlock = some k → base ≤ k ∧ k < W.heap.size := fun k e => World.ownsRow.lt h.own k e
end RowsIn
theorem vals_one (x : RowIn) : ∀ u ∈ x.vals, u.oneCell' = true := by
 intro u hu
 unfold RowIn.vals at hu
 simp at hu
 rcases hu with rfl | rfl <;> rfl
def RwAt (w : World) (base : Nat) (v : Value) (n : Nat) (xs : List Value) : Prop :=
 xs.length = n * 2 ∧ ((v = .slice none 0 0 ∧ n = 0) ∨ ∃ b off cap cur, v = .slice (some ⟨b, off, none⟩) n cap ∧ base ≤ b ∧ w.heap[b]? = some (.cells cur 58 (0, 0)) ∧ n ≤ cap ∧ cap ≤ maxLen ∧ off + cap * 2 ≤ cur.size ∧ ∀ j u, xs[j]? = some u → cur[off + j]? = some u)
namespace RwAt
variable {w w' : World} {base : Nat} {v : Value} {n : Nat} {xs : List Value}
theorem nothing (w : World) (base : Nat) : RwAt w base (.slice none 0 0) 0 [] := ⟨rfl, .inl ⟨rfl, rfl⟩⟩
theorem type (h : RwAt w base v n xs) : ∀ k, v.ownBlock = some k → base ≤ k ∧ Typed w 58 k := by
 intro k hk
 rcases h.2 with ⟨rfl, _⟩ | ⟨b, off, cap, cur, rfl, hb, hg, _⟩
 ·cases hk
 ·injection hk with hk
  subst hk
  exact ⟨hb, cur, _, hg⟩
theorem lt (h : RwAt w base v n xs) : ∀ k, v.ownBlock = some k → base ≤ k ∧ k < w.heap.size := fun k hk =>
 let ⟨h1, _, _, h2⟩ := h.type k hk; ⟨h1, (Array.getElem?_eq_some_iff.1 h2).1⟩
theorem kept (h : RwAt w base v n xs) (k : ∀ b, v.ownBlock = some b → w'.heap[b]? = w.heap[b]?) : RwAt w' base v n xs := by
 refine ⟨h.1, ?_⟩
 rcases h.2 with h' | ⟨b, off, cap, cur, rfl, hb, hg, r⟩
 ·exact .inl h'
 ·exact .inr ⟨b, off, cap, cur, rfl, hb, (k b rfl).trans hg, r⟩
theorem shape (h : RwAt w base v n xs) : ∃ A c, v = .slice A n c ∧ n ≤ c := by
 rcases h.2 with ⟨rfl, h0⟩ | ⟨b, off, cap, cur, rfl, _, _, hc, _⟩
 ·rw [h0]; exact ⟨_, _, rfl, Nat.le_refl _⟩
 ·exact ⟨_, _, rfl, hc⟩
theorem cell (h : RwAt w base v n xs) {j : Nat} {u : Value} (hu : xs[j]? = some u) : ∃ b off cap, v = .slice (some ⟨b, off, none⟩) n cap ∧ n ≤ cap ∧ base ≤ b ∧ b < w.heap.size ∧ w.cell? ⟨b, off + j, none⟩ = some u := by
 rcases h.2 with ⟨rfl, h0⟩ | ⟨b, off, cap, cur, rfl, hb, hg, hc, _, _, hx⟩
 ·have := (List.getElem?_eq_some_iff.1 hu).1
  have := h.1
  omega
 ·exact ⟨b, off, cap, rfl, hc, hb, (Array.getElem?_eq_some_iff.1 hg).1, (cell_of_row w b _ _ _ (0, 0) hg).trans (hx j u hu)⟩
theorem cut {b off cap k : Nat} (h : RwAt w base (.slice (some ⟨b, off, none⟩) n cap) n xs) (hk : k ≤ n) : RwAt w base (.slice (some ⟨b, off + k * 2, none⟩) (n - k) (cap - k)) (n - k) (xs.drop (k * 2)) := by
 refine ⟨by rw [List.length_drop, h.1]; omega, .inr ?_⟩
 rcases h.2 with ⟨e, _⟩ | ⟨b', off1, cap', cur, e1, hb, hg, hc, hm, hs, hx⟩
 ·cases e
 ·injection e1 with e1 _ e3
  injection e1 with e1
  injection e1 with e1 e2
  subst e1 e2 e3
  refine ⟨b, off + k * 2, cap - k, cur, rfl, hb, hg, by omega, by omega, by omega, fun j u hu => ?_⟩
  rw [List.getElem?_drop] at hu
  rw [Nat.add_assoc]
  exact hx _ _ hu
end RwAt
theorem encode_model (r : Int) : Utf8.encode r = ⟨(Lib.encodeRune r).toArray⟩ := by
 by_cases h0 : r < 0 ∨ 1114111 < r ∨ (55296 ≤ r ∧ r ≤ 57343)
 ·have hv : Utf8.valid r = false := by
   unfold Utf8.valid
   simp
   omega
  have e : Lib.encodeRune r = [239, 191, 189] := by unfold Lib.encodeRune; rw [Lib.encodeRuneZ_bad (by omega)]; rfl
  rw [e]
  unfold Utf8.encode
  rw [hv]
  simp only [Bool.false_eq_true, if_false]
  decide +kernel
 ·obtain ⟨n, rfl⟩ := Int.eq_ofNat_of_zero_le (show 0 ≤ r by omega)
  have hv : Utf8.valid (n : Int) = true := by
   unfold Utf8.valid
   simp
   omega
  unfold Utf8.encode
  simp only [hv, if_true, Int.toNat_natCast]
  have cast : ∀ (a : Nat) (b : Int), b = (a : Int) → b.toNat.toUInt8 = UInt8.ofNat a := by rintro a b rfl; rfl
  unfold Lib.encodeRune
  by_cases h1 : n < 128
  ·rw [if_pos h1, Lib.encodeRuneZ_one (by omega) (by omega)]; rfl
  ·by_cases h2 : n < 2048
   ·rw [if_neg h1, if_pos h2, Lib.encodeRuneZ_two (by omega) (by omega)]
    simp only [List.map_cons, List.map_nil]
    rw [cast (192 + n / 64) _ (by omega), cast (128 + n % 64) _ (by omega)]
   ·by_cases h3 : n < 65536
    ·rw [if_neg h1, if_neg h2, if_pos h3, Lib.encodeRuneZ_three (by omega)]
     simp only [List.map_cons, List.map_nil]
     rw [cast (224 + n / 4096) _ (by omega), cast (128 + n / 64 % 64) _ (by omega), cast (128 + n % 64) _ (by omega)]
    ·rw [if_neg h1, if_neg h2, if_neg h3, Lib.encodeRuneZ_four (by omega) (by omega)]
     simp only [List.map_cons, List.map_nil]
     rw [cast (240 + n / 262144) _ (by omega), cast (128 + n / 4096 % 64) _ (by omega), cast (128 + n / 64 % 64) _ (by omega), cast (128 + n % 64) _ (by omega)]
