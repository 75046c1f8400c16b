/-
  What the machine of utf makes of a sign's bytes: the sign again, or FFFD of one that may not be.
-/
import Derived.Test.YtbhfhkmcnomggaaDoorUtf
import Derived.Lib.RuneBytes
namespace Go.Proofs.YtbhfhkmcnomggaaDoor

/-- A sign that may be, or FFFD. -/
def fixR (r : Int) : Int := if r < 0 ∨ 1114111 < r ∨ (55296 ≤ r ∧ r ≤ 57343) then 65533 else r

theorem goes_no0 (b : Int) : ¬ goes st0 b := by intro h; exact absurd h.1 (by simp [st0])
theorem brk_st0 : brk st0 = [] := rfl
theorem st_first {b m lo hi : Int} (h128 : ¬ b < 128) (hf : fol b = (m, lo, hi)) (hm : ¬ m = 0) : stS st0 b = ⟨lead b m, 1, m, lo, hi⟩ ∧ stO st0 b = [] := by
  have g := goes_no0 b
  simp [stS, stO, g, begS, begO, h128, hf, hm, brk_st0]
theorem st_next {s w m lo hi b : Int} (hw : 0 < w) (h0 : lo ≤ b) (h1 : b ≤ hi) (hm : ¬ m = 1) : stS ⟨s, w, m, lo, hi⟩ b = ⟨s * 64 + b % 64, w + 1, m - 1, 128, 191⟩ ∧ stO ⟨s, w, m, lo, hi⟩ b = [] := by
  have g : goes ⟨s, w, m, lo, hi⟩ b := ⟨hw, h0, h1⟩
  simp [stS, stO, g, onS, onO, hm]
theorem st_last {s w lo hi b : Int} (hw : 0 < w) (h0 : lo ≤ b) (h1 : b ≤ hi) : stS ⟨s, w, 1, lo, hi⟩ b = st0 ∧ stO ⟨s, w, 1, lo, hi⟩ b = [s * 64 + b % 64] := by
  have g : goes ⟨s, w, 1, lo, hi⟩ b := ⟨hw, h0, h1⟩
  simp [stS, stO, g, onS, onO]
theorem fol_two {b : Int} (h0 : 194 ≤ b) (h1 : b < 224) : fol b = (1, 128, 191) := by
  unfold fol; rw [if_neg (by omega), if_pos h1]
theorem fol_224 : fol 224 = (2, 160, 191) := by decide
theorem fol_237 : fol 237 = (2, 128, 159) := by decide
theorem fol_three {b : Int} (h0 : 224 < b) (h1 : b < 240) (h2 : b ≠ 237) : fol b = (2, 128, 191) := by
  unfold fol; rw [if_neg (by omega), if_neg (by omega), if_neg (by omega), if_neg h2, if_pos h1]
theorem fol_240 : fol 240 = (3, 144, 191) := by decide
theorem fol_four {b : Int} (h0 : 240 < b) (h1 : b < 244) : fol b = (3, 128, 191) := by
  unfold fol; rw [if_neg (by omega), if_neg (by omega), if_neg (by omega), if_neg (by omega), if_neg (by omega), if_neg (by omega), if_pos h1]
theorem fol_244 : fol 244 = (3, 128, 143) := by decide

theorem run_two (b c : Int) (h0 : 194 ≤ b) (h1 : b < 224) (c0 : 128 ≤ c) (c1 : c ≤ 191) : runS st0 [b, c] = st0 ∧ runO st0 [b, c] = [b % 32 * 64 + c % 64] := by
  have a := st_first (b := b) (by omega) (fol_two h0 h1) (by omega)
  have l : lead b 1 = b % 32 := by simp [lead]
  rw [l] at a
  have d := st_last (s := b % 32) (w := 1) (lo := 128) (hi := 191) (b := c) (by omega) c0 c1
  simp only [runS, runO, a.1, a.2, d.1, d.2, List.nil_append, List.append_nil, and_self]
theorem run_three (b c d lo hi : Int) (hb : ¬ b < 128) (hf : fol b = (2, lo, hi)) (c0 : lo ≤ c) (c1 : c ≤ hi) (d0 : 128 ≤ d) (d1 : d ≤ 191) : runS st0 [b, c, d] = st0 ∧ runO st0 [b, c, d] = [(b % 16 * 64 + c % 64) * 64 + d % 64] := by
  have a := st_first (b := b) hb hf (by omega)
  have l : lead b 2 = b % 16 := by simp [lead]
  rw [l] at a
  have x := st_next (s := b % 16) (w := 1) (m := 2) (b := c) (by omega) c0 c1 (by omega)
  have y := st_last (s := b % 16 * 64 + c % 64) (w := 1 + 1) (lo := 128) (hi := 191) (b := d) (by omega) d0 d1
  have e : (2 : Int) - 1 = 1 := by omega
  rw [e] at x
  simp only [runS, runO, a.1, a.2, x.1, x.2, y.1, y.2, List.nil_append, List.append_nil, and_self]
theorem run_four (b c d f lo hi : Int) (hb : ¬ b < 128) (hf : fol b = (3, lo, hi)) (c0 : lo ≤ c) (c1 : c ≤ hi) (d0 : 128 ≤ d) (d1 : d ≤ 191) (f0 : 128 ≤ f) (f1 : f ≤ 191) : runS st0 [b, c, d, f] = st0 ∧ runO st0 [b, c, d, f] = [((b % 8 * 64 + c % 64) * 64 + d % 64) * 64 + f % 64] := by
  have a := st_first (b := b) hb hf (by omega)
  have l : lead b 3 = b % 8 := by simp [lead]
  rw [l] at a
  have x := st_next (s := b % 8) (w := 1) (m := 3) (b := c) (by omega) c0 c1 (by omega)
  have x2 := st_next (s := b % 8 * 64 + c % 64) (w := 1 + 1) (m := 3 - 1) (lo := 128) (hi := 191) (b := d) (by omega) d0 d1 (by omega)
  have y := st_last (s := (b % 8 * 64 + c % 64) * 64 + d % 64) (w := 1 + 1 + 1) (lo := 128) (hi := 191) (b := f) (by omega) f0 f1
  have e : (3 : Int) - 1 - 1 = 1 := by omega
  rw [e] at x2
  simp only [runS, runO, a.1, a.2, x.1, x.2, x2.1, x2.2, y.1, y.2, List.nil_append, List.append_nil, and_self]

/-- The bytes of a sign, read: the sign. -/
theorem run_enc (r : Int) : runS st0 (Lib.encodeRuneZ r) = st0 ∧ runO st0 (Lib.encodeRuneZ r) = [fixR r] := by
  by_cases h0 : r < 0 ∨ 1114111 < r ∨ (55296 ≤ r ∧ r ≤ 57343)
  · rw [Lib.encodeRuneZ_bad (by omega)]
    have k := run_three 239 191 189 128 191 (by omega) (fol_three (by omega) (by omega) (by omega)) (by omega) (by omega) (by omega) (by omega)
    refine ⟨k.1, ?_⟩
    rw [k.2]
    simp [fixR, h0]
  · have hfix : fixR r = r := by simp [fixR, h0]
    rw [hfix]
    by_cases h1 : r < 128
    · rw [Lib.encodeRuneZ_one (by omega) (by omega)]
      have g := goes_no0 r
      simp [runS, runO, stS, stO, g, begS, begO, h1, brk_st0]
    · by_cases h2 : r < 2048
      · rw [Lib.encodeRuneZ_two (by omega) (by omega)]
        have k := run_two (192 + r / 64) (128 + r % 64) (by omega) (by omega) (by omega) (by omega)
        refine ⟨k.1, k.2.trans ?_⟩
        congr 1; omega
      · by_cases h3 : r < 65536
        · rw [Lib.encodeRuneZ_three (by omega)]
          have k : runS st0 [224 + r / 4096, 128 + r / 64 % 64, 128 + r % 64] = st0 ∧ runO st0 [224 + r / 4096, 128 + r / 64 % 64, 128 + r % 64] = [((224 + r / 4096) % 16 * 64 + (128 + r / 64 % 64) % 64) * 64 + (128 + r % 64) % 64] := by
            by_cases a : r < 4096
            · have e : (224 + r / 4096 : Int) = 224 := by omega
              rw [e]
              exact run_three 224 _ _ 160 191 (by omega) fol_224 (by omega) (by omega) (by omega) (by omega)
            · by_cases b : r / 4096 = 13
              · have e : (224 + r / 4096 : Int) = 237 := by omega
                rw [e]
                exact run_three 237 _ _ 128 159 (by omega) fol_237 (by omega) (by omega) (by omega) (by omega)
              · exact run_three _ _ _ 128 191 (by omega) (fol_three (by omega) (by omega) (by omega)) (by omega) (by omega) (by omega) (by omega)
          refine ⟨k.1, k.2.trans ?_⟩
          congr 1; omega
        · rw [Lib.encodeRuneZ_four (by omega) (by omega)]
          have k : runS st0 [240 + r / 262144, 128 + r / 4096 % 64, 128 + r / 64 % 64, 128 + r % 64] = st0 ∧ runO st0 [240 + r / 262144, 128 + r / 4096 % 64, 128 + r / 64 % 64, 128 + r % 64] = [(((240 + r / 262144) % 8 * 64 + (128 + r / 4096 % 64) % 64) * 64 + (128 + r / 64 % 64) % 64) * 64 + (128 + r % 64) % 64] := by
            by_cases a : r < 262144
            · have e : (240 + r / 262144 : Int) = 240 := by omega
              rw [e]
              exact run_four 240 _ _ _ 144 191 (by omega) fol_240 (by omega) (by omega) (by omega) (by omega) (by omega) (by omega)
            · by_cases b : r < 1048576
              · exact run_four _ _ _ _ 128 191 (by omega) (fol_four (by omega) (by omega)) (by omega) (by omega) (by omega) (by omega) (by omega) (by omega)
              · have e : (240 + r / 262144 : Int) = 244 := by omega
                rw [e]
                exact run_four 244 _ _ _ 128 143 (by omega) fol_244 (by omega) (by omega) (by omega) (by omega) (by omega) (by omega)
          refine ⟨k.1, k.2.trans ?_⟩
          congr 1; omega
end Go.Proofs.YtbhfhkmcnomggaaDoor
