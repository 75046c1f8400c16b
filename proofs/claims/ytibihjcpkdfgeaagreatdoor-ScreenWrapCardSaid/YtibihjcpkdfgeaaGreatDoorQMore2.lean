/-
  Narrow signs printed one behind another: where the screen stands then, and which of its rows Wrap.
-/
import Derived.Test.YtibihjcpkdfgeaaGreatDoorQScr0
namespace Go.Proofs.YtibihjcpkdfgeaaGreatDoor
open Rw
namespace Sc

/-- A screen of 40 rows of w cells after i narrow signs. -/
structure Wr (w i : Nat) (s : Scr) : Prop where
  wd : s.w = w
  len : s.rows.length = 40
  le : s.c ≤ w
  at' : s.c + s.r * w = i
  pos : 0 < i → 0 < s.c
  wraps : ∀ j, j < 40 → (s.rows[j]?).map Prod.snd = some (decide (j < s.r))
theorem modify_snd {l : List SR} {r : Nat} {f : SR → SR} (hf : ∀ x, (f x).2 = x.2) (j : Nat) : ((l.modify r f)[j]?).map Prod.snd = (l[j]?).map Prod.snd := by
  rw [List.getElem?_modify]
  cases l[j]? with
  | none => rfl
  | some x => simp only [Option.map_eq_map, Option.map_some]; split <;> simp [hf]
theorem Wr.print {w i : Nat} {s : Scr} {r : Int} (h : Wr w i s) (h2 : 2 ≤ w) (hi : i < 60) (hr : wof r = 1) : Wr w (i + 1) (printS s r) := by
  have hrow : s.r < 39 ∨ s.c < w := by
    by_cases hc : s.c < w
    · exact .inr hc
    · refine .inl ?_
      have := h.at'
      have h39 : s.r * 2 ≤ s.r * w := Nat.mul_le_mul_left _ h2
      omega
  unfold printS
  rw [hr, if_neg (by decide)]
  have key : ∀ t : Scr, t.w = w → t.rows.length = 40 → t.c < w → t.c + t.r * w = i → (∀ j, j < 40 → (t.rows[j]?).map Prod.snd = some (decide (j < t.r))) → Wr w (i + 1) (ahead (setS t (ofL r s.a)) 1) := by
    intro t a1 a2 a3 a4 a5
    refine ⟨a1, by simp [ahead, setS, a2], ?_, ?_, ?_, fun j hj => ?_⟩
    · show t.c + (1 : Int).toNat ≤ w
      have : (1 : Int).toNat = 1 := rfl
      omega
    · show t.c + (1 : Int).toNat + t.r * w = i + 1
      have : (1 : Int).toNat = 1 := rfl
      omega
    · intro _
      show 0 < t.c + (1 : Int).toNat
      have : (1 : Int).toNat = 1 := rfl
      omega
    · show ((t.rows.modify t.r (setR t.c (ofL r s.a)))[j]?).map Prod.snd = some (decide (j < t.r))
      rw [modify_snd (f := setR t.c (ofL r s.a)) (fun _ => rfl)]
      exact a5 j hj
  unfold roomS
  by_cases hc : s.c < w
  · rw [if_neg (by rw [h.wd]; omega)]
    exact key s h.wd h.len hc h.at' h.wraps
  · have hcw : s.c = w := by have := h.le; omega
    rw [if_pos (by rw [h.wd]; omega)]
    have hp : padS s = s := by unfold padS; rw [if_neg (by rw [h.wd]; omega)]
    have h39 : s.r + 1 < 40 := by omega
    have hm : wrapS s = { markS s with r := s.r + 1 } := by
      unfold wrapS
      rw [hp]
      unfold downS
      rw [if_pos (by simp [markS, h.len]; omega)]
      rfl
    rw [hm]
    refine key _ h.wd (by simp [markS, h.len]) (show 0 < w by omega) ?_ fun j hj => ?_
    · show 0 + (s.r + 1) * w = i
      rw [Nat.add_mul, Nat.one_mul]
      have := h.at'
      omega
    · show ((s.rows.modify s.r (fun x => (x.1, true)))[j]?).map Prod.snd = some (decide (j < s.r + 1))
      have hw := h.wraps j hj
      rw [List.getElem?_modify]
      cases e : s.rows[j]? with
      | none => rw [e] at hw; simp at hw
      | some x =>
        rw [e] at hw
        simp only [Option.map_some, Option.some.injEq] at hw
        simp only [Option.map_eq_map, Option.map_some]
        by_cases hj2 : s.r = j
        · rw [if_pos hj2]; simp; omega
        · rw [if_neg hj2]
          simp only [hw, Option.some.injEq, decide_eq_decide]
          omega
theorem Wr.start {w : Nat} (h2 : 2 ≤ w) (h3 : w ≤ 21) : Wr w 0 (newS (w : Int) 40) := by
  have hw : (newS (w : Int) 40).w = w := by simp [newS]; omega
  have e40 : (min (max (40 : Int) 1) 100).toNat = 40 := rfl
  refine ⟨hw, by simp only [newS, List.length_replicate]; rfl, Nat.zero_le _, by simp [newS], fun h => absurd h (by omega), fun j hj => ?_⟩
  show ((List.replicate (min (max (40 : Int) 1) 100).toNat (blanksL _, false))[j]?).map Prod.snd = some (decide (j < 0))
  rw [e40, List.getElem?_replicate, if_pos hj]
  simp
theorem Wr.full {w n : Nat} {s : Scr} (h : Wr w n s) (hn : 0 < n) : (n - 1) / w = s.r := by
  have := h.at'
  have := h.pos hn
  have := h.le
  exact Nat.div_eq_of_lt_le (by omega) (by rw [Nat.add_mul]; omega)
end Sc
end Go.Proofs.YtibihjcpkdfgeaaGreatDoor
