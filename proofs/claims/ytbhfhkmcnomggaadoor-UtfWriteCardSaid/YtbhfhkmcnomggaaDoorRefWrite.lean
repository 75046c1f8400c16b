/-
  The reference's Write, and the model's own bytes of a list of signs.
-/
import Derived.Test.YtbhfhkmcnomggaaDoorRefPut
namespace Go.Proofs.YtbhfhkmcnomggaaDoor
open Go.ChangeShapes Go.WideShapes Go.ChangeAt Go.RowKit

/-- The bytes of a list of signs. -/
def encL (l : List Int) : List UInt8 := l.flatMap Lib.encodeRune
theorem encL_append (a b : List Int) : encL (a ++ b) = encL a ++ encL b := by simp [encL]
theorem encL_one (r : Int) : encL [r] = Lib.encodeRune r := by simp [encL]
theorem encode_len (r : Int) : (Lib.encodeRune r).length ≤ 4 := by
  have := (Lib.encodeRuneZ_length r).2
  simpa [Lib.encodeRune] using this
theorem encL_length (l : List Int) : (encL l).length ≤ 4 * l.length := by
  induction l with
  | nil => simp [encL]
  | cons r l ih =>
    have e : encL (r :: l) = Lib.encodeRune r ++ encL l := by simp [encL]
    have := encode_len r
    rw [e, List.length_append, List.length_cons]
    omega
theorem bytes_ext {a : ByteArray} {l : List UInt8} (h : a.data.toList = l) : a = ⟨l.toArray⟩ := by
  subst h
  rfl
theorem encode_model (r : Int) : Utf8.encode r = ⟨(Lib.encodeRune r).toArray⟩ := by
  by_cases h0 : r < 0 ∨ 1114111 < r ∨ (55296 ≤ r ∧ r ≤ 57343)
  · have hv : Utf8.valid r = false := by
      unfold Utf8.valid
      simp
      omega
    have e : Lib.encodeRune r = [239, 191, 189] := by unfold Lib.encodeRune; rw [Lib.encodeRuneZ_bad (by omega)]; rfl
    rw [e]
    unfold Utf8.encode
    rw [hv]
    simp only [Bool.false_eq_true, if_false]
    decide +kernel
  · obtain ⟨n, rfl⟩ := Int.eq_ofNat_of_zero_le (show 0 ≤ r by omega)
    have hv : Utf8.valid (n : Int) = true := by
      unfold Utf8.valid
      simp
      omega
    unfold Utf8.encode
    simp only [hv, if_true, Int.toNat_natCast]
    have cast : ∀ (a : Nat) (b : Int), b = (a : Int) → b.toNat.toUInt8 = UInt8.ofNat a := by rintro a b rfl; rfl
    unfold Lib.encodeRune
    by_cases h1 : n < 128
    · rw [if_pos h1, Lib.encodeRuneZ_one (by omega) (by omega)]; rfl
    · by_cases h2 : n < 2048
      · rw [if_neg h1, if_pos h2, Lib.encodeRuneZ_two (by omega) (by omega)]
        simp only [List.map_cons, List.map_nil]
        rw [cast (192 + n / 64) _ (by omega), cast (128 + n % 64) _ (by omega)]
      · by_cases h3 : n < 65536
        · rw [if_neg h1, if_neg h2, if_pos h3, Lib.encodeRuneZ_three (by omega)]
          simp only [List.map_cons, List.map_nil]
          rw [cast (224 + n / 4096) _ (by omega), cast (128 + n / 64 % 64) _ (by omega), cast (128 + n % 64) _ (by omega)]
        · rw [if_neg h1, if_neg h2, if_neg h3, Lib.encodeRuneZ_four (by omega) (by omega)]
          simp only [List.map_cons, List.map_nil]
          rw [cast (240 + n / 262144) _ (by omega), cast (128 + n / 4096 % 64) _ (by omega), cast (128 + n / 64 % 64) _ (by omega), cast (128 + n % 64) _ (by omega)]
theorem fold_model (l : List Int) : ∀ s : ByteArray, l.foldl (fun r n => r ++ Utf8.encode n) s = ⟨(s.data.toList ++ encL l).toArray⟩ := by
  induction l with
  | nil => intro s; simp [encL]
  | cons r l ih =>
    intro s
    have e : encL (r :: l) = Lib.encodeRune r ++ encL l := by simp [encL]
    rw [List.foldl_cons, ih, encode_model, e]
    simp
/-- The model's bytes of a list of signs are these. -/
theorem runes_model (l : List Int) : runesBytes l = ⟨(encL l).toArray⟩ := by
  unfold runesBytes
  rw [fold_model]
  rfl

set_option maxHeartbeats 800000 in
theorem refWrite_walk (A : Option Addr) (n c : Nat) (l : List Int) (w : World) (hr : Runes l) (hn : n ≤ 1073741824) (hq : Sq w w.heap.size 1 n A (l.map (Value.int .i32))) :
    Calls Tryd.prog 24 #[.slice A n c] w fun e w' => e = .returned (.string ⟨(encL l).toArray⟩) ∧ Below w.heap.size w w' := by
  have LN := Lib.hid hq.size_ints
  have Q := Lib.hid hq
  have HR := Lib.hid hr
  clear hq hr
  go_enter Tryd.func24, Tryd.ntmps24
  go_wp2
  go_loopw [3, 4] (fun v i wr => ∃ (k : Nat) (s : ByteArray), v = .string s ∧ i = .int .i64 k ∧ k ≤ n ∧ s.data.toList = encL (l.take k) ∧ Below w.heap.size w wr) (fun _ i _ => n - (intOf i).toNat)
  case atStart => exact ⟨0, _, rfl, rfl, Nat.zero_le _, by simp [encL], Below.refl _ _⟩
  case round =>
    obtain ⟨k, s, rfl, rfl, hk, hs, hb⟩ := hrel
    have hsz := hb.size
    by_cases hlt : k < n
    · obtain ⟨b, off, rfl, _, hc⟩ := (Q.out.below hb).int_at hlt
      have hx := HR.out.get k
      have hs4 : s.size ≤ 4294967296 := by
        have h1 := encL_length (l.take k)
        have h2 := List.length_take_le k l
        have h3 : s.size = s.data.toList.length := by rw [Array.length_toList]; rfl
        rw [hs] at h3
        omega
      have he4 := encode_len (nth l k)
      have HB := Lib.hid hb
      have HS := Lib.hid hs
      clear hb hs
      go_wp2_with (go_at_call 26; refine (refPut_any _ hx.1 hx.2 _).mono ?_; rintro e w' ⟨rfl, b2⟩)
      go_roundw
      case rel =>
        refine ⟨k + 1, _, rfl, by go_num, by omega, ?_, HB.out.trans (b2.mono hsz)⟩
        rw [take_next (by have := LN.out; omega), encL_append, encL_one, ← HS.out]
        simp
      case measure => simp [intOf]; omega
    · have E := Lib.hid (take_all l (k := k) (by have := LN.out; omega))
      rw [E.out] at hs
      obtain rfl := bytes_ext hs
      clear hs
      go_wp2
      go_ret
      exact ⟨rfl, hb⟩
end Go.Proofs.YtbhfhkmcnomggaaDoor
