/-
  The reference's value, walked.
-/
import Derived.Test.YtbhfhkmcnomggaaDoorRefOne
namespace Go.Proofs.YtbhfhkmcnomggaaDoor
open Go.ChangeShapes Go.WideShapes Go.ChangeAt Go.RowKit

def valAt (l : List Int) (p : Int) : Nat → Int
  | 0 => nth l 0 % p
  | k + 1 => valAt l p k * 64 + nth l (k + 1) % 64
theorem valAt_range (l : List Int) (p : Int) (hp : 0 < p) (hp2 : p ≤ 32) : ∀ k, k ≤ 3 → 0 ≤ valAt l p k ∧ valAt l p k ≤ 16777215
  | 0, _ => by have h1 := Int.emod_nonneg (nth l 0) (show p ≠ 0 by omega); have h2 := Int.emod_lt_of_pos (nth l 0) hp; unfold valAt; omega
  | 1, _ => by have h1 := Int.emod_nonneg (nth l 0) (show p ≠ 0 by omega); have h2 := Int.emod_lt_of_pos (nth l 0) hp; unfold valAt valAt; omega
  | 2, _ => by have h1 := Int.emod_nonneg (nth l 0) (show p ≠ 0 by omega); have h2 := Int.emod_lt_of_pos (nth l 0) hp; unfold valAt valAt valAt; omega
  | 3, _ => by have h1 := Int.emod_nonneg (nth l 0) (show p ≠ 0 by omega); have h2 := Int.emod_lt_of_pos (nth l 0) hp; unfold valAt valAt valAt valAt; omega
  | k + 4, h => by omega
theorem valAt_two {l : List Int} (h : l.length = 2) : valAt l 32 1 = valL l := by
  match l, h with
  | [a, b], _ => rfl
theorem valAt_three {l : List Int} (h : l.length = 3) : valAt l 16 2 = valL l := by
  match l, h with
  | [a, b, c], _ => rfl
theorem valAt_four {l : List Int} (h : l.length = 4) : valAt l 8 3 = valL l := by
  match l, h with
  | [a, b, c, d], _ => rfl
theorem ret_rune {a b : Int} (h : a = b) : Ending.returned (.int .i32 a) = .returned (.int .i32 b) := by rw [h]
theorem octs_at (s : ByteArray) (k : Nat) (h : k < s.size) : 0 ≤ ((s[k]'h).toNat : Int) ∧ ((s[k]'h).toNat : Int) ≤ 255 := by
  have := (s[k]'h).toNat_lt
  omega

set_option maxHeartbeats 1600000 in
theorem value_one (s : ByteArray) (hs : s.size = 1) (w : World) :
    Calls Tryd.prog 41 #[.string s] w fun e w' => e = .returned (.int .i32 (valL (octs s))) ∧ w = w' := by
  have hl : (octs s).length = 1 := by rw [octs_length]; exact hs
  have hv : valL (octs s) = nth (octs s) 0 := by
    match octs s, hl with
    | [a], _ => rfl
  have h0 : 0 < s.size := by omega
  rw [nth_octs s 0 h0] at hv
  have b0 := octs_at s 0 h0
  have HV := Lib.hid hv
  clear hv hl
  go_enter Tryd.func41, Tryd.ntmps41
  go_wp2
  go_ret
  exact ⟨ret_rune HV.out.symm, rfl⟩
set_option maxHeartbeats 1600000 in
theorem value_more (s : ByteArray) (n : Nat) (p : Int) (hs : s.size = n) (hnp : n = 2 ∧ p = 32 ∨ n = 3 ∧ p = 16 ∨ n = 4 ∧ p = 8) (w : World) :
    Calls Tryd.prog 41 #[.string s] w fun e w' => e = .returned (.int .i32 (valAt (octs s) p (n - 1))) ∧ w = w' := by
  have h0 : 0 < s.size := by omega
  have b0 := octs_at s 0 h0
  have RG := Lib.hid (valAt_range (octs s) p (by omega) (by omega))
  have e0 := nth_octs s 0 h0
  have E0 := Lib.hid e0
  clear e0
  rcases hnp with ⟨rfl, rfl⟩ | ⟨rfl, rfl⟩ | ⟨rfl, rfl⟩
  · go_enter Tryd.func41, Tryd.ntmps41
    go_wp2_with fail
    go_loop [3, 4] (fun r i => ∃ k : Nat, k + 1 ≤ 2 ∧ i = .int .i64 ((k + 1 : Nat) : Int) ∧ r = .int .i32 (valAt (octs s) 32 k)) (fun _ i => 2 - (intOf i).toNat)
    case atStart => exact ⟨0, by omega, rfl, by unfold valAt; rw [E0.out]⟩
    case round =>
      obtain ⟨k, hk, rfl, rfl⟩ := hrel
      have R0 := RG.out k (by omega)
      by_cases hlt : k + 1 < 2
      · have hb := octs_at s (k + 1) (by omega)
        have hlt' : k + 1 < s.size := by omega
        have N := Lib.hid (nth_octs s (k + 1) hlt')
        have R1 := RG.out (k + 1) (by omega)
        have V : valAt (octs s) 32 (k + 1) = valAt (octs s) 32 k * 64 + nth (octs s) (k + 1) % 64 := rfl
        rw [N.out] at V
        have VH := Lib.hid V
        clear V
        go_wp2
        go_round
        case rel => exact ⟨k + 1, by omega, by go_num, by rw [VH.out]⟩
        case measure => simp [intOf]; omega
      · obtain rfl : k = 1 := by omega
        go_wp2
        go_ret
        exact ⟨rfl, rfl⟩
  · go_enter Tryd.func41, Tryd.ntmps41
    go_wp2_with fail
    go_loop [3, 4] (fun r i => ∃ k : Nat, k + 1 ≤ 3 ∧ i = .int .i64 ((k + 1 : Nat) : Int) ∧ r = .int .i32 (valAt (octs s) 16 k)) (fun _ i => 3 - (intOf i).toNat)
    case atStart => exact ⟨0, by omega, rfl, by unfold valAt; rw [E0.out]⟩
    case round =>
      obtain ⟨k, hk, rfl, rfl⟩ := hrel
      have R0 := RG.out k (by omega)
      by_cases hlt : k + 1 < 3
      · have hb := octs_at s (k + 1) (by omega)
        have hlt' : k + 1 < s.size := by omega
        have N := Lib.hid (nth_octs s (k + 1) hlt')
        have R1 := RG.out (k + 1) (by omega)
        have V : valAt (octs s) 16 (k + 1) = valAt (octs s) 16 k * 64 + nth (octs s) (k + 1) % 64 := rfl
        rw [N.out] at V
        have VH := Lib.hid V
        clear V
        go_wp2
        go_round
        case rel => exact ⟨k + 1, by omega, by go_num, by rw [VH.out]⟩
        case measure => simp [intOf]; omega
      · obtain rfl : k = 2 := by omega
        go_wp2
        go_ret
        exact ⟨rfl, rfl⟩
  · go_enter Tryd.func41, Tryd.ntmps41
    go_wp2_with fail
    go_loop [3, 4] (fun r i => ∃ k : Nat, k + 1 ≤ 4 ∧ i = .int .i64 ((k + 1 : Nat) : Int) ∧ r = .int .i32 (valAt (octs s) 8 k)) (fun _ i => 4 - (intOf i).toNat)
    case atStart => exact ⟨0, by omega, rfl, by unfold valAt; rw [E0.out]⟩
    case round =>
      obtain ⟨k, hk, rfl, rfl⟩ := hrel
      have R0 := RG.out k (by omega)
      by_cases hlt : k + 1 < 4
      · have hb := octs_at s (k + 1) (by omega)
        have hlt' : k + 1 < s.size := by omega
        have N := Lib.hid (nth_octs s (k + 1) hlt')
        have R1 := RG.out (k + 1) (by omega)
        have V : valAt (octs s) 8 (k + 1) = valAt (octs s) 8 k * 64 + nth (octs s) (k + 1) % 64 := rfl
        rw [N.out] at V
        have VH := Lib.hid V
        clear V
        go_wp2
        go_round
        case rel => exact ⟨k + 1, by omega, by go_num, by rw [VH.out]⟩
        case measure => simp [intOf]; omega
      · obtain rfl : k = 3 := by omega
        go_wp2
        go_ret
        exact ⟨rfl, rfl⟩
theorem value_walk (s : ByteArray) (h1 : 1 ≤ s.size) (h4 : s.size ≤ 4) (w : World) : Calls Tryd.prog 41 #[.string s] w fun e w' => e = .returned (.int .i32 (valL (octs s))) ∧ w = w' := by
  have hl := octs_length s
  by_cases e1 : s.size = 1
  · exact value_one s e1 w
  · by_cases e2 : s.size = 2
    · rw [← valAt_two (hl.trans e2)]; exact value_more s 2 32 e2 (.inl ⟨rfl, rfl⟩) w
    · by_cases e3 : s.size = 3
      · rw [← valAt_three (hl.trans e3)]; exact value_more s 3 16 e3 (.inr (.inl ⟨rfl, rfl⟩)) w
      · have e4 : s.size = 4 := by omega
        rw [← valAt_four (hl.trans e4)]; exact value_more s 4 8 e4 (.inr (.inr ⟨rfl, rfl⟩)) w
end Go.Proofs.YtbhfhkmcnomggaaDoor
