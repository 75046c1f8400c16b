/-
  width.Of and width.Text: what they answer, for every sign and every list of signs.
-/
import Derived.Test.YtalhlgiklochdaaDoorSpans
import Derived.Test.YtalhlgiklochdaaDoorMem
namespace Go.Proofs.YtalhlgiklochdaaDoor
open Go.ChangeShapes Go.WideShapes Go.ChangeAt Go.RowKit

set_option maxRecDepth 100000 in
set_option maxHeartbeats 400000 in
theorem of_walk (r : Int) (hr0 : -2147483648 ≤ r) (hr1 : r ≤ 2147483647) (w : World) (hs : Spans w) :
    Calls Tryd.prog 72 #[.int .i32 r] w fun e w' => e = .returned (.int .i64 (wof r)) ∧ w = w' := by
  have hf := hs.first
  have hl := hs.last
  have hw := hs.wide
  clear hs
  go_enter Tryd.func72, Tryd.ntmps72
  go_wp2
  go_loop [3, 4] (fun lo hi => ∃ l h : Nat, l ≤ h ∧ h ≤ 21 ∧ lo = .int .i64 l ∧ hi = .int .i64 h ∧ (∀ i, i < l → sLast i < r) ∧ (∀ i, h ≤ i → i < 21 → r < sFirst i)) (fun lo hi => (intOf hi - intOf lo).toNat)
  case atStart => exact ⟨0, 21, by omega, by omega, rfl, rfl, fun i hi => by omega, fun i h1 h2 => by omega⟩
  case round =>
    obtain ⟨l, h, hlh, h21, rfl, rfl, hlo, hhi⟩ := hrel
    by_cases hlt : l < h
    · have f1 := hf ((l + h) / 2) (by omega)
      have l1 := hl ((l + h) / 2) (by omega)
      have w1 := hw ((l + h) / 2) (by omega)
      have hit := wof_hit r ((l + h) / 2) (by omega)
      have LO := Lib.hid hlo
      have HI := Lib.hid hhi
      have HIT := Lib.hid hit
      clear hlo hhi hf hl hw hit
      by_cases c1 : r < sFirst ((l + h) / 2)
      · go_wp2
        go_round
        case rel => exact ⟨l, (l + h) / 2, by omega, by omega, rfl, by go_num, LO.out, fun i h1 h2 => (Nat.lt_or_eq_of_le h1).elim (fun h3 => Int.lt_of_lt_of_le c1 (sFirst_mono i h2 _ h3)) (fun h3 => h3 ▸ c1)⟩
        case measure => simp [intOf]; omega
      · by_cases c2 : sLast ((l + h) / 2) < r
        · go_wp2
          go_round
          case rel => exact ⟨(l + h) / 2 + 1, h, by omega, by omega, by go_num, rfl, fun i h1 => (Nat.lt_or_eq_of_le (Nat.le_of_lt_succ h1)).elim (fun h3 => Int.lt_of_le_of_lt (sLast_mono _ (by omega) i h3) c2) (fun h3 => h3 ▸ c2), HI.out⟩
          case measure => simp [intOf]; omega
        · go_wp2
          go_ret
          exact ⟨ret_int (HIT.out (by omega) (by omega)).symm, rfl⟩
    · have M := Lib.hid (wof_miss r hr0 hr1 (fun i hi => by
        by_cases c : i < l
        · exact Or.inl (hlo i c)
        · exact Or.inr (hhi i (by omega) hi)))
      clear hlo hhi hf hl hw
      go_wp2
      go_ret
      exact ⟨ret_int M.out.symm, rfl⟩

/-- The sum of the widths of a list of signs. -/
def wsum (l : List Int) : Int := (l.map wof).sum
theorem wsum_append (a b : List Int) : wsum (a ++ b) = wsum a + wsum b := by simp [wsum]
theorem wsum_range (l : List Int) : 0 ≤ wsum l ∧ wsum l ≤ 2 * l.length := by
  induction l with
  | nil => simp [wsum]
  | cons x l ih =>
    have h := wof_range x
    have e : wsum (x :: l) = wof x + wsum l := by simp [wsum]
    rw [e, List.length_cons]
    omega
theorem wsum_take (l : List Int) (k : Nat) : 0 ≤ wsum (l.take k) ∧ wsum (l.take k) ≤ 2 * (k : Int) := by
  have h := wsum_range (l.take k)
  have hl : (l.take k).length ≤ k := List.length_take_le _ _
  omega
theorem wsum_next (l : List Int) {k : Nat} (h : k < l.length) : wsum (l.take (k + 1)) = wsum (l.take k) + wof (nth l k) := by
  rw [take_next h, wsum_append]; simp [wsum]

end Go.Proofs.YtalhlgiklochdaaDoor
