/-
  The reference's Sign and Put: a sign as bytes.
-/
import Derived.Test.YtbhfhkmcnomggaaDoorMem
import Derived.Laws.BytesString
import Derived.Laws.Cover4
import Derived.Lib.RuneBytes
import Derived.Outline
namespace Go.Proofs.YtbhfhkmcnomggaaDoor
open Go.ChangeShapes Go.WideShapes Go.ChangeAt Go.RowKit

set_option maxHeartbeats 400000 in
theorem refSign_yes (r : Int) (h0 : 0 ≤ r) (h1 : r ≤ 1114111) (h2 : r < 55296 ∨ 57343 < r) (w : World) : Calls Tryd.prog 25 #[.int .i32 r] w fun e w' => e = .returned (.bool true) ∧ w = w' := by
  rcases h2 with h2 | h2
  · go_enter Tryd.func25, Tryd.ntmps25
    go_wp2
    go_ret
    exact ⟨rfl, rfl⟩
  · have h3 : 55296 ≤ r := by omega
    go_enter Tryd.func25, Tryd.ntmps25
    go_wp2
    go_ret
    exact ⟨rfl, rfl⟩
set_option maxHeartbeats 400000 in
theorem refSign_no (r : Int) (h : r < 0 ∨ 1114111 < r ∨ (55296 ≤ r ∧ r ≤ 57343)) (w : World) : Calls Tryd.prog 25 #[.int .i32 r] w fun e w' => e = .returned (.bool false) ∧ w = w' := by
  rcases h with h | h | ⟨h, h'⟩
  · go_enter Tryd.func25, Tryd.ntmps25
    go_wp2
    go_ret
    exact ⟨rfl, rfl⟩
  · have h0 : 0 ≤ r := by omega
    have hd : decide (r ≤ 1114111) = false := by simp; omega
    go_enter Tryd.func25, Tryd.ntmps25
    go_wp2
    go_ret
    exact ⟨rfl, rfl⟩
  · have h0 : 0 ≤ r := by omega
    have h1 : r ≤ 1114111 := by omega
    have hd : decide (57343 < r) = false := by simp; omega
    have he : decide (r < 55296) = false := by simp; omega
    go_enter Tryd.func25, Tryd.ntmps25
    go_wp2
    go_ret
    exact ⟨rfl, rfl⟩

theorem fold_push (ns : List Int) : ∀ s : ByteArray, ns.foldl (fun r n => r.push (UInt8.ofNat n.toNat)) s = ⟨(s.data.toList ++ ns.map fun x => UInt8.ofNat x.toNat).toArray⟩ := by
  induction ns with
  | nil => intro s; simp
  | cons n ns ih =>
    intro s
    rw [List.foldl_cons, ih]
    simp [ByteArray.push]
/-- A new row of bytes as a string. -/
theorem put_conv (w : World) (ns : List Int) (cs : Array Value) (hcs : cs = (ns.map (Value.int .u8)).toArray) (n : Nat) (hn : n = ns.length) :
    (convert 39 9 (.slice (some ⟨w.heap.size, 0, none⟩) n n)).run Tryd.prog (w.alloc (.cells cs 5)) = .ok (.string ⟨(ns.map fun x => UInt8.ofNat x.toNat).toArray⟩) (w.alloc (.cells cs 5)) := by
  subst hcs hn
  rw [run_convert_bytes_string _ 39 9 5 _ _ _ Tryd.underlying39 Tryd.underlying5 Tryd.underlying9]
  rw [run_bytesToString _ ⟨w.heap.size, 0, none⟩ ns.length ns.length ns, fold_push]
  · simp [ByteArray.empty, ByteArray.emptyWithCapacity]
    rfl
  · rw [run_loadCells _ ⟨w.heap.size, 0, none⟩ ns.length (fun j => .int .u8 (ns.getD j 0)) (fun j hj => ?_), range_map_take _ ns ns.length (Nat.le_refl _), List.take_length]
    rw [show (⟨w.heap.size, 0, none⟩ : Addr).add j = ⟨w.heap.size, j, none⟩ by unfold Addr.add; split <;> simp_all]
    rw [cell_of_row _ w.heap.size j _ 5 (0, 0) (heap_alloc_new w _)]
    simp [List.getD, hj]
theorem enc_of (r : Int) (ns : List Int) (h : Lib.encodeRuneZ r = ns) : (ns.map fun x => UInt8.ofNat x.toNat).toArray = (Lib.encodeRune r).toArray := by rw [← h]; rfl

set_option maxHeartbeats 800000 in
theorem refPut_one (r : Int) (h0 : 0 ≤ r) (h1 : r < 128) (w : World) : Calls Tryd.prog 26 #[.int .i32 r] w fun e w' => e = .returned (.string ⟨(Lib.encodeRune r).toArray⟩) ∧ Below w.heap.size w w' := by
  have S := refSign_yes r (by omega) (by omega) (by omega) w
  have SH := Lib.hid S
  have K := put_conv w [r] #[.int .u8 (r)] rfl 1 rfl
  rw [enc_of r [r] (Lib.encodeRuneZ_one h0 (by omega))] at K
  clear S
  go_enter Tryd.func26, Tryd.ntmps26
  go_wp2_with (go_at_call 25; refine SH.out.mono ?_; rintro e w' ⟨rfl, rfl⟩)
  go_ret
  exact ⟨rfl, (Below.refl _ _).alloc (Nat.le_refl _) _⟩
set_option maxHeartbeats 800000 in
theorem refPut_two (r : Int) (h0 : 128 ≤ r) (h1 : r < 2048) (w : World) : Calls Tryd.prog 26 #[.int .i32 r] w fun e w' => e = .returned (.string ⟨(Lib.encodeRune r).toArray⟩) ∧ Below w.heap.size w w' := by
  have S := refSign_yes r (by omega) (by omega) (by omega) w
  have SH := Lib.hid S
  have K := put_conv w [192 + r / 64, 128 + r % 64] #[.int .u8 (192 + r / 64), .int .u8 (128 + r % 64)] rfl 2 rfl
  rw [enc_of r [192 + r / 64, 128 + r % 64] (Lib.encodeRuneZ_two h0 (by omega))] at K
  clear S
  go_enter Tryd.func26, Tryd.ntmps26
  go_wp2_with (go_at_call 25; refine SH.out.mono ?_; rintro e w' ⟨rfl, rfl⟩)
  go_ret
  exact ⟨rfl, (Below.refl _ _).alloc (Nat.le_refl _) _⟩
set_option maxHeartbeats 800000 in
theorem refPut_three (r : Int) (h0 : 2048 ≤ r) (h1 : r < 65536) (h2 : r < 55296 ∨ 57343 < r) (w : World) : Calls Tryd.prog 26 #[.int .i32 r] w fun e w' => e = .returned (.string ⟨(Lib.encodeRune r).toArray⟩) ∧ Below w.heap.size w w' := by
  have S := refSign_yes r (by omega) (by omega) (h2) w
  have SH := Lib.hid S
  have K := put_conv w [224 + r / 4096, 128 + r / 64 % 64, 128 + r % 64] #[.int .u8 (224 + r / 4096), .int .u8 (128 + r / 64 % 64), .int .u8 (128 + r % 64)] rfl 3 rfl
  rw [enc_of r [224 + r / 4096, 128 + r / 64 % 64, 128 + r % 64] (Lib.encodeRuneZ_three (by omega))] at K
  clear S
  go_enter Tryd.func26, Tryd.ntmps26
  go_wp2_with (go_at_call 25; refine SH.out.mono ?_; rintro e w' ⟨rfl, rfl⟩)
  go_ret
  exact ⟨rfl, (Below.refl _ _).alloc (Nat.le_refl _) _⟩
set_option maxHeartbeats 800000 in
theorem refPut_four (r : Int) (h0 : 65536 ≤ r) (h1 : r ≤ 1114111) (w : World) : Calls Tryd.prog 26 #[.int .i32 r] w fun e w' => e = .returned (.string ⟨(Lib.encodeRune r).toArray⟩) ∧ Below w.heap.size w w' := by
  have S := refSign_yes r (by omega) (by omega) (by omega) w
  have SH := Lib.hid S
  have K := put_conv w [240 + r / 262144, 128 + r / 4096 % 64, 128 + r / 64 % 64, 128 + r % 64] #[.int .u8 (240 + r / 262144), .int .u8 (128 + r / 4096 % 64), .int .u8 (128 + r / 64 % 64), .int .u8 (128 + r % 64)] rfl 4 rfl
  rw [enc_of r [240 + r / 262144, 128 + r / 4096 % 64, 128 + r / 64 % 64, 128 + r % 64] (Lib.encodeRuneZ_four h0 h1)] at K
  clear S
  go_enter Tryd.func26, Tryd.ntmps26
  go_wp2_with (go_at_call 25; refine SH.out.mono ?_; rintro e w' ⟨rfl, rfl⟩)
  go_ret
  exact ⟨rfl, (Below.refl _ _).alloc (Nat.le_refl _) _⟩

set_option maxHeartbeats 800000 in
theorem refPut_bad (r : Int) (h : r < 0 ∨ 1114111 < r ∨ (55296 ≤ r ∧ r ≤ 57343)) (w : World) : Calls Tryd.prog 26 #[.int .i32 r] w fun e w' => e = .returned (.string ⟨(Lib.encodeRune r).toArray⟩) ∧ Below w.heap.size w w' := by
  have S := refSign_no r h w
  have B := refPut_three 65533 (by omega) (by omega) (by omega) w
  rw [show Lib.encodeRune 65533 = Lib.encodeRune r by unfold Lib.encodeRune; rw [Lib.encodeRuneZ_bad (r := r) (by omega)]; rfl] at B
  have SH := Lib.hid S
  have BH := Lib.hid B
  clear S B h
  go_enter Tryd.func26, Tryd.ntmps26
  go_wp2_with (first
    | (go_at_call 25; refine SH.out.mono ?_; rintro e w' ⟨rfl, rfl⟩)
    | (go_at_call 26; refine BH.out.mono ?_; rintro e w' ⟨rfl, hb⟩))
  go_ret
  exact ⟨rfl, hb⟩

/-- The reference's Put, of any sign. -/
theorem refPut_any (r : Int) (_ : -2147483648 ≤ r) (_ : r ≤ 2147483647) (w : World) : Calls Tryd.prog 26 #[.int .i32 r] w fun e w' => e = .returned (.string ⟨(Lib.encodeRune r).toArray⟩) ∧ Below w.heap.size w w' := by
  by_cases h0 : r < 0 ∨ 1114111 < r ∨ (55296 ≤ r ∧ r ≤ 57343)
  · exact refPut_bad r h0 w
  · by_cases h1 : r < 128
    · exact refPut_one r (by omega) h1 w
    · by_cases h2 : r < 2048
      · exact refPut_two r (by omega) h2 w
      · by_cases h3 : r < 65536
        · exact refPut_three r (by omega) h3 (by omega) w
        · exact refPut_four r (by omega) (by omega) w
end Go.Proofs.YtbhfhkmcnomggaaDoor
