/-
  cell.Trim: what is left, for every list of cells; utf.Write.
-/
import Derived.Test.YtbhfhkmcnomggaaDoorText
import Derived.Laws.Cover4
namespace Go.Proofs.YtbhfhkmcnomggaaDoor
open Go.ChangeShapes Go.WideShapes Go.ChangeAt Go.RowKit

def blankC (c : Int × Int × Int) : Bool := isB 32 c.1 c.2.1 c.2.2
/-- How many of the first k cells stay. -/
def trimN (l : List (Int × Int × Int)) : Nat → Nat
  | 0 => 0
  | k + 1 => if (l[k]?.elim false blankC) then trimN l k else k + 1
theorem trimN_le (l : List (Int × Int × Int)) : ∀ k, trimN l k ≤ k
  | 0 => Nat.le_refl _
  | k + 1 => by
    have := trimN_le l k
    unfold trimN
    split <;> omega
theorem trimN_yes {l : List (Int × Int × Int)} {k : Nat} {c : Int × Int × Int} (h : l[k]? = some c) (hb : blankC c = true) : trimN l (k + 1) = trimN l k := by simp [trimN, h, hb]
theorem trimN_no {l : List (Int × Int × Int)} {k : Nat} {c : Int × Int × Int} (h : l[k]? = some c) (hb : blankC c = false) : trimN l (k + 1) = k + 1 := by simp [trimN, h, hb]
def trimL (l : List (Int × Int × Int)) : List (Int × Int × Int) := l.take (trimN l l.length)
def TrimPost (l : List (Int × Int × Int)) (w : World) (e : Ending) (w' : World) : Prop := ∃ v, e = .returned v ∧ HasC w' w.heap.size v (trimL l) ∧ Below w.heap.size w w'

theorem infoCell : (Tryd.prog.info? 50).map (fun i => (i.zero, i.size, i.bytes)) = some (some (.agg #[.int .i32 0, .int .i64 0, .int .i64 0]), 3, 24) := by kernel_rfl
theorem add_at (b off j : Nat) : (⟨b, off, none⟩ : Addr).add j = ⟨b, off + j, none⟩ := by unfold Addr.add; split <;> simp_all
theorem flat_take (l : List (Int × Int × Int)) (k : Nat) : flat (l.take k) = (flat l).take (k * 3) := by
  induction l generalizing k with
  | nil => simp [flat]
  | cons c l ih =>
    cases k with
    | zero => simp [flat]
    | succ k =>
      have e : (k + 1) * 3 = k * 3 + 1 + 1 + 1 := by omega
      rw [e]
      simp [flat, ih]
theorem flat_one (l : List (Int × Int × Int)) : ∀ u ∈ flat l, u.oneCell' = true := by
  induction l with
  | nil => intro u hu; simp [flat] at hu
  | cons c l ih =>
    intro u hu
    simp only [flat, List.mem_cons] at hu
    rcases hu with rfl | rfl | rfl | hu
    · rfl
    · rfl
    · rfl
    · exact ih u hu

theorem sq_news {w w2 : World} {B n k b off : Nat} {l : List (Int × Int × Int)} (hq : Sq w B 3 n (some ⟨b, off, none⟩) (flat l)) (hb : Below B w w2) (hk : 0 < n) : ∀ j u, (flat (l.take k))[j]? = some u → w2.cell? ((⟨b, off, none⟩ : Addr).add j) = some u := by
  intro j u hu
  obtain ⟨b', off', e, hB, hc⟩ := (hq.below hb).spot hk
  injection e with e
  injection e with e1 e2 e3
  subst e1 e2
  rw [add_at]
  refine hc j u ?_
  rw [flat_take, List.getElem?_take] at hu
  split at hu
  · exact hu
  · cases hu
theorem fit24 {n : Nat} (h : n ≤ 1073741824) : 0 + n ≤ maxLen ∧ (0 + n) * 24 ≤ 140737488355328 := by unfold maxLen; omega
theorem flat_take_len {l : List (Int × Int × Int)} {k : Nat} (h : k ≤ l.length) : (flat (l.take k)).length = k * 3 := by rw [flat_length, List.length_take]; omega

set_option maxHeartbeats 1600000 in
theorem trim_walk (A : Option Addr) (n c : Nat) (hc : n ≤ c) (l : List (Int × Int × Int)) (w : World) (hn : n ≤ 1073741824) (hq : Sq w w.heap.size 3 n A (flat l)) :
    Calls Tryd.prog 30 #[.slice A n c] w fun e w' => TrimPost l w e w' := by
  obtain ⟨i0, hi, hz0, hz1, hz2⟩ := info_parts infoCell
  have hln : l.length = n := by have := hq.len; rw [flat_length] at this; omega
  have LN := Lib.hid hln
  clear hln
  go_enter Tryd.func30, Tryd.ntmps30
  go_wp2
  go_loopw [3] (fun i wr => ∃ k : Nat, i = .int .i64 k ∧ k ≤ n ∧ trimN l k = trimN l n ∧ Below w.heap.size w wr) (fun i _ => (intOf i).toNat)
  case atStart => exact ⟨n, rfl, Nat.le_refl _, rfl, Below.refl _ _⟩
  case round =>
    obtain ⟨k, rfl, hk, ht, hbelow⟩ := hrel
    have hsz : w.heap.size ≤ wr.heap.size := hbelow.size
    rcases Nat.eq_zero_or_pos k with rfl | hp
    · have e0 : trimL l = [] := by unfold trimL; rw [LN.out, ← ht]; simp [trimN]
      have E0 := Lib.hid e0
      have BL := Lib.hid hbelow
      clear hq hbelow ht e0
      rcases A with _ | ⟨b, off, o⟩
      · go_wp2
        go_ret
        exact ⟨_, rfl, by rw [E0.out]; exact World.ownsRow_nil _ _ _ _, BL.out⟩
      · go_wp2_with (at_builtin; refine wpList_append_own _ rfl _ _ 47 rfl w.heap.size 50 i0 (.agg #[.int .i32 0, .int .i64 0, .int .i64 0]) 3 24 Tryd.underlying47 hi hz0 hz1 hz2 rfl (by decide) (.slice none 0 0) 0 [] rfl (World.ownsRow_nil _ _ _ _) ⟨b, off, o⟩ 0 c [] rfl rfl (by simp) (by simp) (by decide) (by decide) hsz ?_; intro v' w3 hown hg _)
        go_wp2
        go_ret
        exact ⟨_, rfl, by rw [E0.out]; exact hown, BL.out.grown hg hsz (by simp [Value.ownBlock])⟩
    · obtain ⟨j, rfl⟩ : ∃ j, k = j + 1 := ⟨k - 1, by omega⟩
      obtain ⟨b, off, rfl, hb, ⟨r, m, a⟩, hcc, q0, q1, q2⟩ := (hq.below hbelow).three (show j < n by omega)
      obtain ⟨B, hB⟩ : ∃ B, isB 32 r m a = B := ⟨_, rfl⟩
      have SG := fun w => isBlank_walk r m a w
      rw [hB] at SG
      have SGH := Lib.hid SG
      have HBB := Lib.hid hB
      have HC := Lib.hid hcc
      have HT := Lib.hid ht
      have BL := Lib.hid hbelow
      have Q := Lib.hid hq
      clear SG hB hcc ht hbelow hq
      cases B
      · go_wp2_with (first | (go_at_call 36; refine (SGH.out _).mono ?_; rintro e w2 ⟨rfl, hb2⟩) | (at_builtin; refine wpList_append_own _ rfl _ _ 47 rfl w.heap.size 50 i0 (.agg #[.int .i32 0, .int .i64 0, .int .i64 0]) 3 24 Tryd.underlying47 hi hz0 hz1 hz2 rfl (by decide) (.slice none 0 0) 0 [] rfl (World.ownsRow_nil _ _ _ _) ⟨b, off, none⟩ (j + 1) c (flat (l.take (j + 1))) rfl (flat_take_len (by have := LN.out; omega)) (by exact sq_news Q.out (BL.out.trans (hb2.mono hsz)) (by omega)) (flat_one _) (fit24 (by omega)).1 (fit24 (by omega)).2 (Nat.le_trans hsz hb2.size) ?_; intro v' w3 hown hg _))
        go_wp2
        go_ret
        have e : trimL l = l.take (j + 1) := by unfold trimL; rw [LN.out, ← HT.out, trimN_no HC.out HBB.out]
        have h : (l.take (j + 1)).length = 0 + (j + 1) := by rw [List.length_take]; have := LN.out; omega
        refine ⟨_, rfl, ?_, (BL.out.trans (hb2.mono hsz)).grown hg (Nat.le_trans hsz hb2.size) (by simp [Value.ownBlock])⟩
        rw [e]
        unfold HasC
        rw [h]
        exact hown
      · go_wp2_with (go_at_call 36; refine (SGH.out _).mono ?_; rintro e w2 ⟨rfl, hb2⟩)
        go_roundw
        case rel => exact ⟨j, by go_num, by omega, (trimN_yes HC.out HBB.out).symm.trans HT.out, BL.out.trans (hb2.mono hsz)⟩
        case measure => simp [intOf]

theorem write_walk (A : Option Addr) (n c : Nat) (l : List Int) (w : World) {B : Nat} (hq : Sq w B 1 n A (l.map (Value.int .i32))) :
    Calls Tryd.prog 23 #[.slice A n c] w fun e w' => e = .returned (.string (runesBytes l)) ∧ w = w' := by
  have hln := hq.size_ints
  have K : (convert 24 9 (.slice A n c)).run Tryd.prog w = .ok (.string (runesBytes l)) w := by
    rcases Nat.eq_zero_or_pos n with h0 | h0
    · subst h0
      have e : l = [] := List.eq_nil_of_length_eq_zero hln
      subst e
      rcases A with _ | ad
      · exact run_convert_runes_nil w 24 9 21 0 c Tryd.underlying24 Tryd.underlying21 Tryd.underlying9
      · exact run_convert_runes w 24 9 21 ad 0 c [] (Nat.le_refl _) Tryd.underlying24 Tryd.underlying21 Tryd.underlying9 (fun j hj => absurd hj (Nat.not_lt_zero j))
    · obtain ⟨b, off, rfl, _, hc⟩ := hq.spot h0
      have h := run_convert_runes w 24 9 21 ⟨b, off, none⟩ n c l (by omega) Tryd.underlying24 Tryd.underlying21 Tryd.underlying9 (fun j hj => by
        rw [add_at, hc j (.int .i32 (l.getD j 0)) (by simp [List.getD, hj])])
      rw [take_all l (by omega)] at h
      exact h
  clear hq hln
  go_enter Tryd.func23, Tryd.ntmps23
  go_wp2
  go_ret
  exact ⟨rfl, rfl⟩
end Go.Proofs.YtbhfhkmcnomggaaDoor
